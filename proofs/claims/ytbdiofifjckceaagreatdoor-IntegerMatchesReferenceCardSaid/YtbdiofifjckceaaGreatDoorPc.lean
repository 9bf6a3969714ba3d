/- Contracts of Clone, minus, plus. -/
import Derived.Test.YtbdiofifjckceaaGreatDoorPb
import Derived.Deep.AppendLies
import Derived.Deep.AppendSrc
import Derived.OwnWalk
import Derived.Deep.MidRow
import Derived.WalkSpells
import Derived.RangeFuncRecord
import Derived.Lib.SliceRun
namespace Go.Proofs.YtbdiofifjckceaaGreatDoor
open Go.RowKit

/-- a slice that reads as a list of integers -/
def ISl (w : World) (v : Value) (l : List Int) : Prop := (∃ a c, v = .slice a 0 c ∧ l = []) ∨ ∃ b o c, v = .slice (some ⟨b, o, none⟩) l.length c ∧ l.length ≤ c ∧ c ≤ 9223372036854775807 ∧ b < w.heap.size ∧ IRow w b o l
theorem ISl.below {w w' : World} {v : Value} {l : List Int} (h : ISl w v l) (hb : Below w.heap.size w w') : ISl w' v l := by
  rcases h with h | ⟨b, o, c, h1, h2, h3, h4, h5⟩
  · exact .inl h
  · exact .inr ⟨b, o, c, h1, h2, h3, Nat.lt_of_lt_of_le h4 hb.size, h5.below hb h4⟩
/-- either no element, or a row of some -/
theorem ISl.cases {w : World} {v : Value} {l : List Int} (h : ISl w v l) : (∃ a c, v = .slice a 0 c ∧ l = []) ∨ ∃ b o n c, v = .slice (some ⟨b, o, none⟩) n c ∧ l.length = n ∧ 0 < n ∧ n ≤ c ∧ c ≤ 9223372036854775807 ∧ b < w.heap.size ∧ IRow w b o l := by
  rcases h with h | ⟨b, o, c, h1, h2, h3, h4, h5⟩
  · exact .inl h
  · by_cases h0 : l.length = 0
    · exact .inl ⟨_, c, by rw [h1, h0], List.length_eq_zero_iff.1 h0⟩
    · exact .inr ⟨b, o, _, c, h1, rfl, by omega, h2, h3, h4, h5⟩
def ints (l : List Int) : List Value := l.map (Value.int .i64)
theorem ints_len (l : List Int) : (ints l).length = l.length * 1 := by rw [ints, List.length_map, Nat.mul_one]
theorem ints_one (l : List Int) : ∀ u ∈ ints l, u.oneCell' = true := by
  intro u hu
  obtain ⟨x, _, rfl⟩ := List.mem_map.1 hu
  rfl
theorem IRow.news {w : World} {b o : Nat} {l : List Int} (h : IRow w b o l) : ∀ j u, (ints l)[j]? = some u → w.cell? ((⟨b, o, none⟩ : Addr).add j) = some u := by
  intro j u hj
  rw [ints, List.getElem?_map] at hj
  cases hq : l[j]? with
  | none => rw [hq] at hj; cases hj
  | some x => rw [hq] at hj; cases hj; rw [Addr.add_mid]; exact h j x hq
/-- a row that a call owns is a block known whole -/
theorem own_blk {w : World} {base n cap g : Nat} {l : List Int} (h : w.ownsRow base 3 1 (.slice (some ⟨g, 0, none⟩) n cap) n (ints l)) : ABlk w g l ∧ l.length = n ∧ n ≤ cap ∧ cap ≤ 9223372036854775807 ∧ base ≤ g := by
  have hl : l.length = n := by have := h.1; rw [ints_len] at this; omega
  rcases h.2 with ⟨h', _⟩ | ⟨g', cap', cur, h', hb, hg, hnc, hcm, hcs, htake⟩
  · cases h'
  · simp only [Value.slice.injEq, Option.some.injEq, Addr.mk.injEq] at h'
    obtain ⟨⟨rfl, _⟩, _, rfl⟩ := h'
    refine ⟨⟨cur.toList.drop n, ?_⟩, hl, hnc, by unfold maxLen at hcm; omega, hb⟩
    rw [hg]
    have e : List.map (Value.int .i64) l = cur.toList.take n := by rw [← ints, ← htake, Nat.mul_one]
    rw [e, List.take_append_drop, Array.toArray_toList]
theorem ABlk.sl {w : World} {g n c : Nat} {l S : List Int} (h : ABlk w g (l ++ S)) (hn : l.length = n) (hc : n ≤ c) (hc2 : c ≤ 9223372036854775807) : ISl w (.slice (some ⟨g, 0, none⟩) n c) l := by
  subst hn
  exact .inr ⟨g, 0, c, rfl, hc, hc2, h.lt, ABlk.row (P := []) h⟩
theorem ABlk.grown {w w' : World} {g : Nat} {L : List Int} {row : Option Nat} (h : ABlk w g L) (hg : w.grownBy w' row) (hne : some g ≠ row) : ABlk w' g L := by
  have hl := h.lt
  obtain ⟨T, h⟩ := h
  exact ⟨T, (hg.block g hl hne).trans h⟩
theorem ABlk.below {w w' : World} {n g : Nat} {L : List Int} (h : ABlk w g L) (hb : Below n w w') (hn : g < n) : ABlk w' g L := by
  obtain ⟨T, h⟩ := h
  exact ⟨T, (hb.block g hn).trans h⟩
theorem below_drewN {n : Nat} {w w' : World} (h : Below n w w') (q : Nat) : Below n w (w'.drewN q) := h.trans ⟨rfl, rfl, rfl, Nat.le_refl _, fun _ _ => rfl⟩
theorem below_own {n g : Nat} {w w' w2 : World} (h : Below n w w') (hg : w'.grownBy w2 (some g)) (hs : n ≤ w.heap.size) (hn : n ≤ g) : Below n w w2 := h.grown hg (Nat.le_trans hs h.size) (fun k e => by cases e; exact hn)
theorem ret_slice {a : Option Addr} {n m c : Nat} (h : n = m) : Ending.returned (.slice a n c) = .returned (.slice a m c) := by rw [h]
theorem info_int : (Tryz.prog.info? 3).map (fun i => (i.zero, i.size, i.bytes)) = some (some (.int .i64 0), 1, 8) := by kernel_rfl

theorem trimmed_zero (a : Option Addr) (c : Nat) (w : World) : Calls Tryz.prog 74 #[.slice a 0 c] w fun e w' => e = .returned (.slice a 0 c) ∧ w = w' := by
  go_enter Tryz.func74, Tryz.ntmps74
  go_wp2
  go_loop [0] (fun v => v = .slice a 0 c) (fun _ => 0)
  case atStart => exact rfl
  case round =>
    subst hrel
    go_wp2
    go_ret
    exact ⟨rfl, rfl⟩
theorem carried_zero (a : Option Addr) (c : Nat) (w : World) : Calls Tryz.prog 69 #[.slice a 0 c] w fun e w' => e = .returned (.slice a 0 c) ∧ w = w' := by
  have cT := trimmed_zero a c
  go_enter Tryz.func69, Tryz.ntmps69
  go_wp2
  go_loop [3, 8] (fun x i => i = .int .i64 0) (fun _ _ => 0)
  case atStart => exact rfl
  case round =>
    subst hrel
    go_wp2_with (go_at_call 74; (with_reducible refine (cT _).mono ?_); rintro e w' ⟨rfl, rfl⟩)
    go_ret
    exact ⟨rfl, rfl⟩
theorem take_zero (a : Option Addr) (c : Nat) (a2 : Option Addr) (c2 : Nat) (k : Int) (w : World) : Calls Tryz.prog 73 #[.slice a 0 c, .slice a2 0 c2, .int .i64 k] w fun e w' => (∃ v, e = .returned v) ∧ w = w' := by
  have cT := carried_zero a c
  go_enter Tryz.func73, Tryz.ntmps73
  go_wp2
  go_loop [10] (fun i => i = .int .i64 0) (fun _ => 0)
  case atStart => exact rfl
  case round =>
    subst hrel
    go_wp2_with (go_at_call 69; (with_reducible refine (cT _).mono ?_); rintro e w' ⟨rfl, rfl⟩)
    go_end0
    exact ⟨⟨_, rfl⟩, rfl⟩

theorem wpList_append_none {w : World} {ops : Array Oper} {rest : List Oper} {o : Oper} {a : Act} {Q : Exit → Act → World → Prop} (hgd : o.guard = none) (s x : Operand)
    (ho : o.op = .call { callee := .builtin .append, args := #[s, x], argTypes := #[47, 47] }) (b : Nat) (hs : a.eval s = .slice (some ⟨b, 0, none⟩) 0 0) (ad : Option Addr) (c : Nat) (hx : a.eval x = .slice ad 0 c)
    (h : wpList Tryz.prog ops Q rest (a.put o.dst (.slice (some ⟨b, 0, none⟩) 0 0)) w) : wpList Tryz.prog ops Q (o :: rest) a w :=
  wpList_plain hgd fun _ hK => by
    obtain ⟨i0, hi, _, hsz, _⟩ := info_parts info_int
    have hsrc : Src Tryz.prog i0.size 47 (.slice ad 0 c) 0 [] w := by
      cases ad with
      | none => exact Src.ofNil w Tryz.underlying47 c
      | some a => exact Src.ofSlice w Tryz.underlying47 a 0 c [] (by simp) (fun j u h => by simp at h) (fun _ h => by cases h)
    have hr := run_append_room_src w 47 47 o.type 3 i0 Tryz.underlying47 hi b 0 0 0 (.slice ad 0 c) 0 [] hsrc (by omega) (fun j h => absurd h (by simp)) (fun j h => absurd h (by simp))
    unfold Oper.wp execOp
    simp only [ho, resolve, invoke, builtin, Sem.run_bind, Sem.run_pure, Result.andThen_ok, List.map_toArray, List.map_cons, List.map_nil, hs, hx, hr]
    exact hK _ _ h
theorem own_empty {W : World} {base : Nat} (h : base ≤ W.heap.size) : (W.alloc (.cells #[] 3)).ownsRow base 3 1 (.slice (some ⟨W.heap.size, 0, none⟩) 0 0) 0 [] :=
  ⟨rfl, .inr ⟨W.heap.size, 0, #[], rfl, h, by rw [World.alloc_heap_new], Nat.le_refl _, Nat.zero_le _, rfl, rfl⟩⟩

set_option maxRecDepth 100000 in
theorem clone_zero (a : Option Addr) (c : Nat) (w : World) : Calls Tryz.prog 72 #[.slice a 0 c] w fun e w' => (∃ a' c', e = .returned (.slice a' 0 c')) ∧ Below w.heap.size w w' := by
  cases a with
  | none =>
    have qn : ∀ W, (binOp .eql 47 (.slice none 0 c) (.slice none 0 0)).run Tryz.prog W = .ok (.bool true) W := fun W => Lib.run_eql_slice_nil W 47 3 none 0 c 0 0 Tryz.underlying47
    go_enter Tryz.func72, Tryz.ntmps72
    go_wp2
    go_ret
    exact ⟨⟨_, _, rfl⟩, Below.refl _ _⟩
  | some a =>
    have qn : ∀ W, (binOp .eql 47 (.slice (some a) 0 c) (.slice none 0 0)).run Tryz.prog W = .ok (.bool false) W := fun W => Lib.run_eql_slice_nil W 47 3 (some a) 0 c 0 0 Tryz.underlying47
    go_enter Tryz.func72, Tryz.ntmps72
    go_wp2_with (at_builtin; (refine wpList_append_none rfl (.tmp 5) (.tmp 6) rfl w.heap.size rfl (some a) c rfl ?_))
    go_ret
    exact ⟨⟨_, _, rfl⟩, (Below.refl _ w).alloc (Nat.le_refl _) _⟩
set_option maxRecDepth 100000 in
theorem clone_some (l : List Int) (b o n c : Nat) (w : World) (hn : l.length = n) (h0 : 0 < n) (hn2 : n ≤ 1000000) (hb : b < w.heap.size) (hr : IRow w b o l) :
    Calls Tryz.prog 72 #[.slice (some ⟨b, o, none⟩) n c] w fun e w' => ∃ g cap, e = .returned (.slice (some ⟨g, 0, none⟩) n cap) ∧ w.heap.size ≤ g ∧ n ≤ cap ∧ cap ≤ 9223372036854775807 ∧ ABlk w' g l ∧ Below w.heap.size w w' := by
  obtain ⟨i0, hi, hz0, hz1, hz2⟩ := info_parts info_int
  have hA1 : Below w.heap.size w (w.alloc (.cells #[] 3)) := (Below.refl _ w).alloc (Nat.le_refl _) _
  have s1 := hA1.size
  have HO := Lib.hid (own_empty (W := w) (base := w.heap.size) (Nat.le_refl _))
  have HX := Lib.hid ((hr.below hA1 hb).news)
  have HL := Lib.hid (show (ints l).length = n * 1 by rw [ints_len, hn])
  have HS := Lib.hid (ints_one l)
  have qn : ∀ W, (binOp .eql 47 (.slice (some ⟨b, o, none⟩) n c) (.slice none 0 0)).run Tryz.prog W = .ok (.bool false) W := fun W => Lib.run_eql_slice_nil W 47 3 (some ⟨b, o, none⟩) n c 0 0 Tryz.underlying47
  clear hr hn
  go_enter Tryz.func72, Tryz.ntmps72
  go_wp2_with (at_builtin; (refine wpList_append_lies _ rfl (.tmp 5) (.tmp 6) 47 rfl w.heap.size 3 i0 (.int .i64 0) 1 8 Tryz.underlying47 hi hz0 hz1 hz2 rfl (by decide) _ 0 [] rfl HO.out ⟨b, o, none⟩ n c (ints l) rfl HL.out HX.out HS.out h0 (by unfold maxLen; omega) (by omega) s1 _ rfl ?_; intro g cap w' hown hgrow _ _; rw [Nat.zero_add, List.nil_append] at hown; have hB := hA1.grown hgrow s1 fun k e => (HO.out.lt k e).1; have HOW := Lib.hid (own_blk hown); clear hown hgrow))
  go_ret
  exact ⟨g, cap, rfl, HOW.out.2.2.2.2, HOW.out.2.2.1, HOW.out.2.2.2.1, HOW.out.1, hB⟩

set_option maxRecDepth 100000 in
theorem take_none (P l S : List Int) (g o n c : Nat) (a2 : Option Addr) (c2 : Nat) (k : Int) (w : World) (hP : P.length = o) (hn : l.length = n) (hA : ABlk w g (P ++ l ++ S)) (hl : ∀ x ∈ l, -10000000 ≤ x ∧ x ≤ 10000000) (hc : n ≤ c) (hc2 : c ≤ 9223372036854775807) :
    Calls Tryz.prog 73 #[.slice (some ⟨g, o, none⟩) n c, .slice a2 0 c2, .int .i64 k] w fun e w' => (∃ v, e = .returned v) ∧ ABlk w' g (P ++ carr 0 l ++ S) ∧ w.grownBy w' (some g) ∧ w'.heap.size = w.heap.size := by
  have cT := carried_any P l S g o n c w hP hn hA (fun x hx => by have := hl x hx; omega) hc hc2
  clear hP hn hA hl
  go_enter Tryz.func73, Tryz.ntmps73
  go_wp2
  go_loop [10] (fun i => i = .int .i64 0) (fun _ => 0)
  case atStart => exact rfl
  case round =>
    subst hrel
    go_wp2_with (go_at_call 69; (with_reducible refine cT.mono ?_); rintro e w' ⟨rfl, h1, h2, h3⟩; have HX := Lib.hid (And.intro h1 (And.intro h2 h3)); clear h1 h2 h3)
    go_end0
    exact ⟨⟨_, rfl⟩, HX.out⟩

/-- a natural in memory -/
def NSl (w : World) (v : Value) (n : Nat) : Prop := ISl w v (grp n)
theorem grp_small (n : Nat) : ∀ x ∈ grp n, -10000000 ≤ x ∧ x ≤ 10000000 := fun x hx => by have := grp_dig n x hx; omega
theorem grp_mono {n m : Nat} (h : m ≤ n) : (grp m).length ≤ (grp n).length := grp_len (Nat.lt_of_le_of_lt h (grp_lt n))
theorem NSl.of_blk {w : World} {g n c : Nat} {l S : List Int} {r : Nat} (h : ABlk w g (l ++ S)) (hn : l.length = n) (hd : Dig l) (hv : vl l = r) (hc : n ≤ c) (hc2 : c ≤ 9223372036854775807) : NSl w (.slice (some ⟨g, 0, none⟩) (trz l).length c) r := by
  have e : trz l = grp r := by rw [trz_grp hd, hv]; rfl
  have hl := trz_len l
  have h2 : ABlk w g (trz l ++ (l.drop (trz l).length ++ S)) := by
    rw [← List.append_assoc]
    have : trz l ++ l.drop (trz l).length = l := by
      conv => lhs; lhs; rw [trz_take l]
      exact List.take_append_drop _ _
    rw [this]; exact h
  rw [NSl, ← e]
  exact h2.sl rfl (by omega) hc2

set_option maxRecDepth 100000 in
theorem minus_any (n m : Nat) (v1 v2 : Value) (w : World) (h : m ≤ n) (hl : (grp n).length ≤ 100000) (h1 : NSl w v1 n) (h2 : NSl w v2 m) :
    Calls Tryz.prog 58 #[v1, v2] w fun e w' => ∃ v, e = .returned v ∧ NSl w' v (n - m) ∧ Below w.heap.size w w' := by
  rcases h1.cases with ⟨a, c, rfl, e1⟩ | ⟨b, o, k, c, rfl, hk, hk0, hkc, hc2, hb, hr⟩
  · have hn : n = 0 := grp_nil.1 e1
    subst hn
    have hm : m = 0 := by omega
    subst hm
    obtain ⟨a2, c2, rfl⟩ : ∃ a c, v2 = .slice a 0 c := by
      rcases h2 with ⟨a, c, rfl, _⟩ | ⟨b, o, c, rfl, _⟩
      · exact ⟨a, c, rfl⟩
      · rw [grp_zero]; exact ⟨_, c, rfl⟩
    have cC : Calls Tryz.prog 72 #[.slice a 0 c] w fun e w' => (∃ a' c', e = .returned (.slice a' 0 c')) ∧ Below w.heap.size w w' := clone_zero a c w
    have cT := take_zero
    have cR := trimmed_zero
    clear h1 h2 hl e1
    go_enter Tryz.func58, Tryz.ntmps58
    go_wp2_with (first | (go_at_call 72; (with_reducible refine cC.mono ?_); rintro e w' ⟨⟨a', c', rfl⟩, hB⟩) | (go_at_call 73; (with_reducible refine (cT _ _ _ _ _ _).mono ?_); rintro e w2 ⟨⟨v, rfl⟩, rfl⟩) | (go_at_call 74; (with_reducible refine (cR _ _ _).mono ?_); rintro e w2 ⟨rfl, rfl⟩))
    go_ret
    exact ⟨_, rfl, .inl ⟨_, _, rfl, grp_zero⟩, hB⟩
  · obtain ⟨g2, hg2⟩ : ∃ l, grp n = l := ⟨_, rfl⟩
    have hfit := carr_fits (l := subk (grp n) (grp m) 1) (c := 0) (by rw [subk_vl _ _ _ (grp_mono h), vl_grp, vl_grp]; omega) (by
      rw [subk_vl _ _ _ (grp_mono h), vl_grp, vl_grp, subk_len]
      have := vl_lt (grp_dig n)
      rw [vl_grp] at this
      omega)
    have hv : vl (carr 0 (subk (grp n) (grp m) 1)) = ((n - m : Nat) : Int) := by rw [hfit.2, subk_vl _ _ _ (grp_mono h), vl_grp, vl_grp]; omega
    have hlen : (carr 0 (subk (grp n) (grp m) 1)).length = k := by rw [carr_len, subk_len, hk]
    have hdig := carr_dig (subk (grp n) (grp m) 1) 0
    have cC : Calls Tryz.prog 72 #[.slice (some ⟨b, o, none⟩) k c] w fun e w' => ∃ g cap, e = .returned (.slice (some ⟨g, 0, none⟩) k cap) ∧ w.heap.size ≤ g ∧ k ≤ cap ∧ cap ≤ 9223372036854775807 ∧ ABlk w' g (grp n) ∧ Below w.heap.size w w' := clone_some (grp n) b o k c w hk hk0 (by omega) hb hr
    have cT : ∀ W g cap, w.heap.size ≤ g → k ≤ cap → cap ≤ 9223372036854775807 → ABlk W g (grp n) → Below w.heap.size w W → Calls Tryz.prog 73 #[.slice (some ⟨g, 0, none⟩) k cap, v2, .int .i64 1] W fun e w' => (∃ v, e = .returned v) ∧ ABlk w' g (carr 0 (subk (grp n) (grp m) 1) ++ []) ∧ Below w.heap.size w w' := fun W g cap hg g1 g2 hA hB => by
      rcases h2.cases with ⟨a, c2, rfl, e⟩ | ⟨b2, o2, k2, c2, rfl, e1, e2, e3, e4, e5, e6⟩
      · rw [e, subk_nil]
        exact (take_none [] (grp n) [] g 0 k cap a c2 1 W rfl hk (by simpa using hA) (grp_small n) g1 g2).mono fun e w' ⟨x1, x2, x3, x4⟩ => ⟨x1, by simpa using x2, below_own hB x3 (Nat.le_refl _) hg⟩
      · exact (take_any [] (grp n) [] (grp m) g 0 k cap b2 o2 k2 c2 1 W rfl hk (by simpa using hA) (grp_small n) g1 g2 e1 (grp_dig m) (e6.below hB e5) (Nat.lt_of_lt_of_le e5 hB.size) (by omega) (by rw [← e1, ← hk]; exact grp_mono h) e3 (by decide)).mono fun e w' ⟨x1, x2, x3, x4⟩ => ⟨x1, by simpa using x2, below_own hB x3 (Nat.le_refl _) hg⟩
    have cR : ∀ W g cap, k ≤ cap → cap ≤ 9223372036854775807 → ABlk W g (carr 0 (subk (grp n) (grp m) 1) ++ []) → Below w.heap.size w W → Calls Tryz.prog 74 #[.slice (some ⟨g, 0, none⟩) k cap] W fun e w' => ∃ v, e = .returned v ∧ NSl w' v (n - m) ∧ Below w.heap.size w w' := fun W g cap g1 g2 hA hB =>
      (trimmed_some (carr 0 (subk (grp n) (grp m) 1)) g 0 k cap W hlen g1 g2 (ABlk.row (P := []) hA)).mono fun e w' ⟨he, q, hq⟩ => by
        subst hq
        exact ⟨_, he, NSl.of_blk (S := []) hA hlen hdig hv g1 g2, below_drewN hB q⟩
    generalize carr 0 (subk (grp n) (grp m) 1) = R at *
    clear h1 h2 hl hfit hv hlen hdig hg2 g2 hr hk
    go_enter Tryz.func58, Tryz.ntmps58
    go_wp2_with (first | (go_at_call 72; (with_reducible refine cC.mono ?_); rintro e w' ⟨g, cap, rfl, hg, g1, g2, hA, hB⟩) | (go_at_call 73; (with_reducible refine (cT _ _ _ hg g1 g2 hA hB).mono ?_); rintro e w2 ⟨⟨v, rfl⟩, hA2, hB2⟩) | (go_at_call 74; (with_reducible refine (cR _ _ _ g1 g2 hA2 hB2).mono ?_); rintro e w2 ⟨v3, rfl, hN, hB3⟩))
    go_ret
    exact ⟨_, rfl, hN, hB3⟩
end Go.Proofs.YtbdiofifjckceaaGreatDoor
