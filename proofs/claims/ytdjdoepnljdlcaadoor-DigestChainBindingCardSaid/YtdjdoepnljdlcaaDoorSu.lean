/- The walk of package digest's sum. -/
import Derived.Test.YtdjdoepnljdlcaaDoorSc
import Derived.Test.YtdjdoepnljdlcaaDoorPd
import Derived.Test.YtdjdoepnljdlcaaDoorIt
import Derived.RangeFuncNested
import Derived.RangeFuncBound
import Derived.OwnWalkIn
import Derived.TacticsInMore
import Derived.LoopNIn
import Derived.LoopIn
import Derived.Maps.OwnIn
import Derived.Shelf.Abstract
import Derived.Shelf.RegionOpen
import Derived.Laws.MakeOwn
namespace Go.Proofs.YtdjdoepnljdlcaaDoor
open Go.RowKit
attribute [local go_sem] Oper.semAt_some

theorem blocks_any (v : Value) (hv : v.oneCell' = true) (w : World) :
    CallsIn Fence.wide 3 Tryd.prog 54 #[v] w fun e w' => e = .returned (.func (.func 62) #[] #[.pointer (some ⟨w.heap.size, 0, none⟩)]) ∧ w' = w.alloc (.cells #[v] 26) := by
  refine callsIn_wide.2 ?_
  go_enter Tryd.func54, Tryd.ntmps54
  go_wp2
  go_ret
  exact ⟨rfl, rfl⟩

theorem cat_call (parts : List ByteArray) (x : ByteArray) (b c np : Nat) (hnp : parts.length = np) (W : World) (hl0 : 0 < np) (hl : np ≤ 800) (hb : b < W.heap.size) (hs : StrRow W b 0 parts) :
    Calls Tryd.prog 55 #[.slice (some ⟨W.heap.size + 1, 0, none⟩) 2 2] ((W.alloc (.cells #[.string x] 9)).alloc (.cells #[.slice (some ⟨b, 0, none⟩) np c, .slice (some ⟨W.heap.size, 0, none⟩) 1 1] 26)) fun e w' =>
      ∃ g cap, e = .returned (.slice (some ⟨g, 0, none⟩) (np + 1) cap) ∧ (g < w'.heap.size ∧ W.heap.size < g ∧ StrRow w' g 0 (parts ++ [x])) ∧ Below W.heap.size W w' := by
  subst hnp
  have hB : Below W.heap.size W ((W.alloc (.cells #[.string x] 9)).alloc (.cells #[.slice (some ⟨b, 0, none⟩) parts.length c, .slice (some ⟨W.heap.size, 0, none⟩) 1 1] 26)) := ((Below.refl _ W).alloc (Nat.le_refl _) _).alloc (by simp) _
  have h1 := World.alloc_heap_new W (.cells #[.string x] 9)
  have h2 := World.alloc_heap_new (W.alloc (.cells #[.string x] 9)) (.cells #[.slice (some ⟨b, 0, none⟩) parts.length c, .slice (some ⟨W.heap.size, 0, none⟩) 1 1] 26)
  rw [World.size_alloc] at h2
  have h3 : ((W.alloc (.cells #[.string x] 9)).alloc (.cells #[.slice (some ⟨b, 0, none⟩) parts.length c, .slice (some ⟨W.heap.size, 0, none⟩) 1 1] 26)).heap[W.heap.size]? = some (.cells #[.string x] 9) :=
    (Below.heap_alloc _ _ _ (by simp)).trans h1
  refine (concat_any (W.heap.size + 1) b W.heap.size 2 c 1 parts x _ hl0 hl (by simp) (by simp; omega) (by simp; omega) ?_ ?_ (hs.below hB hb) ?_).mono ?_
  · rw [World.cell?, h2]; rfl
  · rw [World.cell?, h2]; rfl
  · intro j y hj
    match j, hj with
    | 0, hj => simp at hj; subst hj; rw [World.cell?, h3]; rfl
  · rintro e w' ⟨g, cap, rfl, hown, hb'⟩
    have hg := hown.lt g rfl
    simp only [World.size_alloc] at hg
    refine ⟨g, cap, rfl, ⟨hg.2, by omega, fun j y hj => ?_⟩, hB.trans (hb'.mono (by simp; omega))⟩
    have := hown.cells (g := g) rfl j (.string y) (by rw [scells, List.getElem?_map, hj]; rfl)
    rw [Addr.add_mid] at this
    exact this

theorem words0 (W : World) : WordsAt (W.alloc (.cells #[.int .u32 1779033703, .int .u32 3144134277, .int .u32 1013904242, .int .u32 2773480762, .int .u32 1359893119, .int .u32 2600822924, .int .u32 528734635, .int .u32 1541459225] 60)) W.heap.size (St.get Sh.s0) := by
  intro j hj
  have h := World.alloc_heap_new W (.cells #[.int .u32 1779033703, .int .u32 3144134277, .int .u32 1013904242, .int .u32 2773480762, .int .u32 1359893119, .int .u32 2600822924, .int .u32 528734635, .int .u32 1541459225] 60)
  constructor
  · rw [World.cell?, h]
    rcases (show j = 0 ∨ j = 1 ∨ j = 2 ∨ j = 3 ∨ j = 4 ∨ j = 5 ∨ j = 6 ∨ j = 7 by omega) with rfl | rfl | rfl | rfl | rfl | rfl | rfl | rfl <;> rfl
  · rw [World.frozen?, h]; simp
theorem w_b (x n : UInt32) (h : n.toNat < 32) : (x.toNat : Int) / ((2 ^ n.toNat : Nat) : Int) % 256 = ((x >>> n).toUInt8.toNat : Int) := by
  rw [w_shr x n h, UInt32.toNat_toUInt8]; rfl
theorem w_b24 (x : UInt32) : (x.toNat : Int) / (16777216 : Int) % (256 : Int) = ((x >>> 24).toUInt8.toNat : Int) := w_b x 24 (by decide)
theorem w_b16 (x : UInt32) : (x.toNat : Int) / (65536 : Int) % (256 : Int) = ((x >>> 16).toUInt8.toNat : Int) := w_b x 16 (by decide)
theorem w_b8 (x : UInt32) : (x.toNat : Int) / (256 : Int) % (256 : Int) = ((x >>> 8).toUInt8.toNat : Int) := w_b x 8 (by decide)
theorem w_b0 (x : UInt32) : (x.toNat : Int) % (256 : Int) = (x.toUInt8.toNat : Int) := by rw [UInt32.toNat_toUInt8]; rfl
def bcells (l : List UInt8) : List Value := l.map fun b => Value.int .u8 (b.toNat : Int)
theorem outW_cells (x : UInt32) : bcells (Sh.outW x) = [.int .u8 ((x.toNat : Int) / 16777216 % 256), .int .u8 ((x.toNat : Int) / 65536 % 256), .int .u8 ((x.toNat : Int) / 256 % 256), .int .u8 ((x.toNat : Int) % 256)] := by
  rw [w_b24, w_b16, w_b8, w_b0]; rfl
theorem four_new (W : World) (a b c d : Value) : ∀ j u, [a, b, c, d][j]? = some u → (W.alloc (.cells #[a, b, c, d] 5)).cell? ((⟨W.heap.size, 0, none⟩ : Addr).add j) = some u := by
  intro j u hj
  have h := World.alloc_heap_new W (.cells #[a, b, c, d] 5)
  rw [Addr.add_mid, Nat.zero_add, World.cell?, h]
  rw [← hj]; simp
/-- the bytes of the first words of a state -/
def outs (x : Sh.St) (k : Nat) : List UInt8 := (List.range k).flatMap fun j => Sh.outW (St.get x j)
theorem outs_succ (x : Sh.St) (k : Nat) : outs x (k + 1) = outs x k ++ Sh.outW (St.get x k) := by simp [outs, List.range_succ]
theorem bcells_succ (x : Sh.St) (k : Nat) : bcells (outs x k) ++ bcells (Sh.outW (St.get x k)) = bcells (outs x (k + 1)) := by rw [outs_succ, bcells, bcells, bcells, List.map_append]
theorem outs_len (x : Sh.St) (k : Nat) : (outs x k).length = 4 * k := by
  induction k with
  | zero => rfl
  | succ k ih => rw [outs_succ, List.length_append, ih]; simp [Sh.outW]; omega
theorem outs_all (x : Sh.St) : outs x 8 = x.out := by simp [outs, List.range_succ, Sh.St.out, St.get]
theorem own_ne {W : World} {base D k : Nat} {e : TypeId} {v : Value} {xs : List Value} (h : W.ownsRow base e 1 v k xs) (hD : W.heap[D]? = some (.deferred (some []))) : v.ownBlock ≠ some D := by
  rcases h.2 with ⟨rfl, _⟩ | ⟨g, cap, cur, rfl, _, hg, _⟩
  · simp [Value.ownBlock]
  · simp only [Value.ownBlock, ne_eq, Option.some.injEq]
    rintro rfl
    rw [hg] at hD
    cases hD
theorem bytes_back {W : World} {base g cap n : Nat} (l : List UInt8) (hl : l.length = n) (h : W.ownsRow base 5 1 (.slice (some ⟨g, 0, none⟩) n cap) n (bcells l)) :
    (convert 43 9 (.slice (some ⟨g, 0, none⟩) n cap)).run Tryd.prog W = .ok (.string ⟨l.toArray⟩) W := by
  subst hl
  exact run_convert_bytes_back (P := Tryd.prog) W 43 9 5 ⟨g, 0, none⟩ cap l Tryd.underlying43 Tryd.underlying5 Tryd.underlying9 (fun j hj => h.cells (g := g) rfl j _ (by rw [bcells, List.getElem?_map, List.getElem?_eq_getElem hj]; rfl))
theorem pad_len (n : Nat) : (Sh.pad n).length = Sh.zeros n + 9 := by simp [Sh.pad]
theorem states (parts : List ByteArray) (pad : ByteArray) (N : Nat) (hN : (flat parts).length = N) (hp : (⟨(Sh.pad N).toArray⟩ : ByteArray) = pad) :
    ∃ st : Nat → Sh.St, st 0 = Sh.s0 ∧ (∀ k, Sh.mix (st k) (fun j => (flat (parts ++ [pad])).getD (64 * k + j) 0) = st (k + 1)) ∧ (st ((flat (parts ++ [pad])).length / 64)).out = Sh.sha (flat parts) := by
  have hf : flat (parts ++ [pad]) = flat parts ++ Sh.pad N := by
    rw [← hp]; simp [flat]
  refine ⟨fun k => Sh.run (flat (parts ++ [pad])) k Sh.s0, rfl, fun k => (Sh.run_snoc k _ _).symm, ?_⟩
  have hl : (flat parts ++ Sh.pad N).length / 64 = (N + 72) / 64 := by
    rw [List.length_append, pad_len, hN, Sh.zeros]; omega
  show (Sh.run _ _ _).out = _
  rw [hf, hl, Sh.sha, hN]
theorem mem_flat (l : List ByteArray) (s : ByteArray) (h : s ∈ l) : s.size ≤ (flat l).length := by
  induction l with
  | nil => cases h
  | cons x l ih =>
    rw [flat, List.flatMap_cons, List.length_append, ba_len]
    rcases List.mem_cons.1 h with rfl | h
    · omega
    · have := ih h; rw [flat] at this; omega
theorem WordsAt.grown {W W' : World} {A : Nat} {f : Nat → UInt32} {row : Option Nat} (h : WordsAt W A f) (hg : W.grownBy W' row) (hr : some A ≠ row) : WordsAt W' A f := fun j hj => by
  have hlt : A < W.heap.size := by
    have h1 := (h j hj).1
    rw [World.cell?] at h1
    cases hq : W.heap[A]? with
    | none => rw [hq] at h1; cases h1
    | some o => exact (Array.getElem?_eq_some_iff.1 hq).1
  have e := hg.block A hlt hr
  rw [World.cell?_of_block (a := ⟨A, j, none⟩) e, World.frozen?_of_block (a := ⟨A, j, none⟩) e]
  exact h j hj
theorem Tab.grown {W W' : World} {row : Option Nat} (h : Tab W) (hg : W.grownBy W' row) (hr : some 0 ≠ row) : Tab W' := fun j hj => hg.cell (h j hj) hr
/-- what the loop over the blocks keeps -/
def Kept (A : Nat) (w : World) (st : Nat → Sh.St) (k : Nat) (W : World) : Prop := WordsAt W A (St.get (st k)) ∧ Tab W ∧ Below A w W
theorem kept_from (A H : Nat) (w : World) (st : Nat → Sh.St) (hA : A < H) (h0 : 0 < A) (hw : A = w.heap.size) : From H (Kept A w st) := fun k X Y row hx hg hr =>
  ⟨hx.1.grown hg (fun e => by have := hr A e.symm; omega), hx.2.1.grown hg (fun e => by have := hr 0 e.symm; omega), hx.2.2.grown hg (by rw [hw]; exact hx.2.2.size) fun r e => by have := hr r e; omega⟩

theorem flat_take (l : List ByteArray) (i : Nat) (h : i < l.length) : (flat (l.take (i + 1))).length = (flat (l.take i)).length + l[i].size := by
  rw [List.take_succ_eq_append_getElem h, flat, List.flatMap_append]
  simp only [flat, List.length_append, List.flatMap_cons, List.flatMap_nil, List.append_nil, ba_len]
theorem flat_take_le (l : List ByteArray) (i : Nat) : (flat (l.take i)).length ≤ (flat l).length := by
  conv => rhs; rw [← List.take_append_drop i l, flat, List.flatMap_append]
  simp only [flat, List.length_append]
  omega

set_option maxRecDepth 100000 in
set_option maxHeartbeats 2000000 in
theorem sum_in (b c : Nat) (parts : List ByteArray) (w : World) (hl0 : 0 < parts.length) (hl : parts.length ≤ 800) (hb : b < w.heap.size) (hs : StrRow w b 0 parts) (ht : Tab w) (hsz : (flat parts).length ≤ 549755813888) :
    CallsIn Fence.wide 5 Tryd.prog 40 #[.slice (some ⟨b, 0, none⟩) parts.length c] w fun e w' => e = .returned (.string ⟨(Sh.sha (flat parts)).toArray⟩) ∧ Below w.heap.size w w' := by
  obtain ⟨np, hnp⟩ : ∃ np, parts.length = np := ⟨_, rfl⟩
  obtain ⟨N, hN⟩ : ∃ N, (flat parts).length = N := ⟨_, rfl⟩
  rw [hN] at hsz
  have hpad : ∀ w, CallsIn Fence.wide 4 Tryd.prog 56 #[.int .i64 (N : Int)] w fun e w' => e = .returned (.string ⟨(Sh.pad N).toArray⟩) ∧ Below w.heap.size w w' := fun w => callsIn_wide.2 (padding_any N (by omega) w)
  obtain ⟨pad, hpd⟩ : ∃ pad : ByteArray, (⟨(Sh.pad N).toArray⟩ : ByteArray) = pad := ⟨_, rfl⟩
  rw [hpd] at hpad
  rw [hnp] at hl0 hl ⊢
  have HN := Lib.hid hnp
  have HTot := Lib.hid hN
  have HPad := Lib.hid hpd
  have HS := Lib.hid hs
  have HT := Lib.hid ht
  clear hnp hs ht hN hpd
  refine callsIn_of_wp_marks Tryd.func40 rfl trivial ?_ rfl
  simp only [Tryd.ntmps40, List.size_toArray, List.length_cons, List.length_nil, Nat.reduceAdd, Nat.reduceSub, Array.replicate_succ, Array.replicate_zero, List.push_toArray, List.append_toArray, List.nil_append, List.cons_append]
  gi_wp2
  have hw0 := words0 w
  have hB0 : Below w.heap.size w (w.alloc (.cells #[.int .u32 1779033703, .int .u32 3144134277, .int .u32 1013904242, .int .u32 2773480762, .int .u32 1359893119, .int .u32 2600822924, .int .u32 528734635, .int .u32 1541459225] 60)) := (Below.refl _ w).alloc (Nat.le_refl _) _
  have hz0 : (w.alloc (.cells #[.int .u32 1779033703, .int .u32 3144134277, .int .u32 1013904242, .int .u32 2773480762, .int .u32 1359893119, .int .u32 2600822924, .int .u32 528734635, .int .u32 1541459225] 60)).heap.size = w.heap.size + 1 := by simp
  generalize w.alloc (.cells #[.int .u32 1779033703, .int .u32 3144134277, .int .u32 1013904242, .int .u32 2773480762, .int .u32 1359893119, .int .u32 2600822924, .int .u32 528734635, .int .u32 1541459225] 60) = W1 at *
  have hs1 := HS.out.below hB0 hb
  have HW0 := Lib.hid hw0
  have HS1 := Lib.hid hs1
  clear hw0 hs1
  gi_loopw [4, 6, 14] (fun z _ i wr => ∃ k : Nat, k ≤ np ∧ i = .int .i64 (k : Int) ∧ z = .int .i64 ((flat (parts.take k)).length : Int) ∧ Hid (wr = W1)) (fun _ _ i _ => np - (intOf i).toNat)
  case atStart => exact ⟨0, by omega, rfl, rfl, Lib.hid rfl⟩
  case round =>
    obtain ⟨k, hk, rfl, rfl, hwr⟩ := hrel
    obtain rfl := hwr.out
    by_cases hlt : k < np
    · have hkl : k < parts.length := by rw [HN.out]; exact hlt
      have hcell := HS1.out k _ (List.getElem?_eq_getElem hkl)
      rw [Nat.zero_add] at hcell
      have ht := flat_take parts k hkl
      have ht2 := flat_take_le parts (k + 1)
      rw [HTot.out] at ht2
      obtain ⟨s, hs⟩ : ∃ s, parts[k] = s := ⟨_, rfl⟩
      rw [hs] at hcell ht
      obtain ⟨z, hz⟩ : ∃ z, (flat (parts.take k)).length = z := ⟨_, rfl⟩
      rw [hz] at ht ⊢
      have HT2 := Lib.hid ht
      have hzb : z + s.size ≤ 549755813888 := by omega
      clear hz hs ht ht2
      gi_wp2
      go_roundw
      case rel => exact ⟨k + 1, by omega, by go_num, by rw [HT2.out]; go_num, Lib.hid trivial⟩
      case measure => simp [intOf]; omega
    · obtain rfl : k = np := by omega
      have hfl : (flat (parts.take k)).length = N := by rw [List.take_of_length_le (by rw [HN.out]; omega)]; exact HTot.out
      rw [hfl]
      clear hfl
      have hbk : ∀ (v : Value), v.oneCell' = true → ∀ w, CallsIn Fence.wide 4 Tryd.prog 54 #[v] w fun e w' => e = .returned (.func (.func 62) #[] #[.pointer (some ⟨w.heap.size, 0, none⟩)]) ∧ w' = w.alloc (.cells #[v] 26) := fun v hv w => callsIn_wide.2 (callsIn_wide.1 (blocks_any v hv w))
      gi_wp2_with (first | (refine ⟨trivial, ?_⟩; gi_at_call 56; (with_reducible refine (hpad _).mono ?_); rintro e w2 ⟨rfl, hb2⟩) | (refine ⟨trivial, ?_⟩; gi_at_call 55; (refine (callsIn_wide.2 (cat_call parts pad b c k HN.out w2 (by omega) (by omega) (Nat.lt_of_lt_of_le (show b < wr.heap.size by omega) hb2.size) (HS1.out.below hb2 (by omega)))).mono ?_); rintro e w3 ⟨g, cap, rfl, hgg, hb3⟩) | (refine ⟨trivial, ?_⟩; gi_at_call 54; (refine (hbk _ rfl _).mono ?_); rintro e w4 ⟨rfl, rfl⟩))
      have hsz3 : w.heap.size + 1 ≤ w2.heap.size := by have := hb2.size; omega
      have hB4 : Below w.heap.size w (w3.alloc (.cells #[.slice (some ⟨g, 0, none⟩) (k + 1) cap] 26)) := ((hB0.trans (hb2.mono (by omega))).trans (hb3.mono (by omega))).alloc (by omega) _
      have hb34 : Below w2.heap.size w2 (w3.alloc (.cells #[.slice (some ⟨g, 0, none⟩) (k + 1) cap] 26)) := hb3.alloc (by omega) _
      have hw4 := (HW0.out.below hb2 (by omega)).below hb34 (by omega)
      have ht4 := HT.out.below hB4 (by omega)
      have hbx4 : (w3.alloc (.cells #[.slice (some ⟨g, 0, none⟩) (k + 1) cap] 26)).cell? ⟨w3.heap.size, 0, none⟩ = some (.slice (some ⟨g, 0, none⟩) (k + 1) cap) := by
        rw [World.cell?, World.alloc_heap_new]; rfl
      have hs4 : StrRow (w3.alloc (.cells #[.slice (some ⟨g, 0, none⟩) (k + 1) cap] 26)) g 0 (parts ++ [pad]) := fun j x hj => cell_kept (hgg.2.2 j x hj) (World.grownBy_alloc _ _ none) (fun r e => by cases e)
      have hz4 : (w3.alloc (.cells #[.slice (some ⟨g, 0, none⟩) (k + 1) cap] 26)).heap.size = w3.heap.size + 1 := by simp
      obtain ⟨st, hst0, hstk, hstN⟩ := states parts pad N HTot.out HPad.out
      have hpl : (parts ++ [pad]).length = k + 1 := by rw [List.length_append, HN.out]; rfl
      have hsz4 : ∀ s ∈ parts ++ [pad], s.size ≤ 1099511627776 := by
        intro s hs
        have hm := mem_flat _ _ hs
        have e : (flat (parts ++ [pad])).length = N + (Sh.pad N).length := by
          rw [← HPad.out]; simp [flat, ← HTot.out]
        rw [e, pad_len, Sh.zeros] at hm
        omega
      generalize w3.alloc (.cells #[.slice (some ⟨g, 0, none⟩) (k + 1) cap] 26) = w4 at *
      rw [← hst0] at hw4
      have HSTk := Lib.hid hstk
      have HSTN := Lib.hid hstN
      have HJ0 := Lib.hid (show Kept w.heap.size w st 0 w4 from ⟨hw4, ht4, hB4⟩)
      clear hw4 ht4 hst0 hstk hstN
      refine range_hands rfl (by omega) (gf := 62) (lb := #[.pointer (some ⟨w3.heap.size, 0, none⟩)]) rfl trivial (enters_of Tryd.func62 (by kernel_rfl) rfl)
        (blocks_hands 4 (by omega) w3.heap.size g cap w.heap.size (parts ++ [pad]) w4 (by omega) (by omega) (by omega) (by omega) (by omega) (by rw [hpl]; exact hbx4) hs4 hsz4) rfl (by omega)
        (Kept w.heap.size w st) (kept_from _ _ _ _ (by omega) (by omega) rfl) HJ0.out
        (fun B => { tmps := #[.slice (some ⟨b, 0, none⟩) k c, undef, .string ⟨#[]⟩, .pointer (some ⟨w.heap.size, 0, none⟩), .int .i64 N, undef, u6, .pointer (some ⟨B, 0, none⟩), undef, undef, undef, .agg #[.int .u32 1779033703, .int .u32 3144134277, .int .u32 1013904242, .int .u32 2773480762, .int .u32 1359893119, .int .u32 2600822924, .int .u32 528734635, .int .u32 1541459225], .slice (some ⟨b, 0, none⟩) k c, .int .i64 k, .int .i64 k, .bool false, u16, u17, u18, u19, u20, u21, u22, .slice (some ⟨b, 0, none⟩) k c, .int .i64 N, .string pad, .slice (some ⟨w2.heap.size, 0, none⟩) 1 1, .slice (some ⟨w2.heap.size + 1, 0, none⟩) 2 2, .slice (some ⟨g, 0, none⟩) (k + 1) cap, .func (.func 62) #[] #[.pointer (some ⟨w3.heap.size, 0, none⟩)], .pointer (some ⟨B, 0, none⟩), undef, undef, undef, undef, undef, undef, undef, undef, undef, undef, undef, undef, undef, undef, undef, undef, undef, undef, undef, undef, undef, undef, undef, undef], defers := [] }) ?assign ?body ?done
      case assign =>
        intro l B W K hK
        gi_wp2
        exact hK
      case body =>
        rintro l i B W ⟨hw, ht, hB⟩ hi hB0 hB1 hblk
        have hWA : w.heap.size < W.heap.size := by omega
        gi_wp2_with (refine ⟨trivial, ?_⟩; gi_at_call 57; (refine (callsIn_wide.2 (mix_any w.heap.size B (st i) (st (i + 1)) _ (Lib.hid (HSTk.out i)) W hWA hB1 hblk ht hw)).mono ?_); rintro e w' ⟨rfl, hw', hg'⟩)
        exact ⟨hw', ht.grown hg' (by simp; omega), hB.grown hg' (by omega) fun r e => by cases e; exact Nat.le_refl _⟩
      case done =>
        rintro W ⟨hw, ht, hB⟩ hD
        obtain ⟨x, hx⟩ : ∃ x, st ((flat (parts ++ [pad])).length / 64) = x := ⟨_, rfl⟩
        have hout := HSTN.out
        rw [hx] at hw hout
        have HX := Lib.hid hout
        clear hx hout ht hz4 hpl hb34 hbx4
        obtain ⟨i5, hi5, hzr5, hsz5, hby5⟩ := info_parts info5'
        have hle := hB.size
        obtain ⟨w5, hmk, hown5, hg5⟩ := run_make_own W w.heap.size 43 5 i5 (.int .u8 0) 1 Tryd.underlying43 hi5 hzr5 hsz5 .i64 .i64 32 (by rw [hby5]; omega) (by unfold maxLen; omega) hle
        replace hmk : (Instr.makeSlice 43 (.int .i64 0) (.int .i64 32)).run Tryd.prog W = .ok (.slice (some ⟨W.heap.size, 0, none⟩) 0 32) w5 := hmk
        have hD5 := (hg5.block _ (Array.getElem?_eq_some_iff.1 hD).1 (by simp)).trans hD
        have hB5 : Below w.heap.size w w5 := hB.grown hg5 hle (fun k e => by cases e)
        have hw5 := hw.grown hg5 (by simp)
        obtain ⟨x0, hx0⟩ : ∃ y, St.get x 0 = y := ⟨_, rfl⟩
        obtain ⟨x1, hx1⟩ : ∃ y, St.get x 1 = y := ⟨_, rfl⟩
        obtain ⟨x2, hx2⟩ : ∃ y, St.get x 2 = y := ⟨_, rfl⟩
        obtain ⟨x3, hx3⟩ : ∃ y, St.get x 3 = y := ⟨_, rfl⟩
        obtain ⟨x4, hx4⟩ : ∃ y, St.get x 4 = y := ⟨_, rfl⟩
        obtain ⟨x5, hx5⟩ : ∃ y, St.get x 5 = y := ⟨_, rfl⟩
        obtain ⟨x6, hx6⟩ : ∃ y, St.get x 6 = y := ⟨_, rfl⟩
        obtain ⟨x7, hx7⟩ : ∃ y, St.get x 7 = y := ⟨_, rfl⟩
        have hc0 := (hw5 0 (by omega)).1
        rw [hx0] at hc0
        have hc1 := (hw5 1 (by omega)).1
        rw [hx1] at hc1
        have hc2 := (hw5 2 (by omega)).1
        rw [hx2] at hc2
        have hc3 := (hw5 3 (by omega)).1
        rw [hx3] at hc3
        have hc4 := (hw5 4 (by omega)).1
        rw [hx4] at hc4
        have hc5 := (hw5 5 (by omega)).1
        rw [hx5] at hc5
        have hc6 := (hw5 6 (by omega)).1
        rw [hx6] at hc6
        have hc7 := (hw5 7 (by omega)).1
        rw [hx7] at hc7
        have HXS0 := Lib.hid hx0
        have HXS1 := Lib.hid hx1
        have HXS2 := Lib.hid hx2
        have HXS3 := Lib.hid hx3
        have HXS4 := Lib.hid hx4
        have HXS5 := Lib.hid hx5
        have HXS6 := Lib.hid hx6
        have HXS7 := Lib.hid hx7
        have HO := Lib.hid hown5
        have HD := Lib.hid hD5
        clear hx0 hx1 hx2 hx3 hx4 hx5 hx6 hx7 hw5 hw hown5 hg5 hD5 hD hB hle hbk hpad
        gi_wp2
        gi_loopw [8, 10, 35] (fun v _ i wr => ∃ k : Nat, k ≤ 8 ∧ i = .int .i64 (k : Int) ∧ Hid (wr.ownsRow w.heap.size 5 1 v (4 * k) (bcells (outs x k))) ∧ Below w.heap.size w wr ∧ Hid (wr.heap[w4.heap.size]? = some (.deferred (some [])))) (fun _ _ i _ => 8 - (intOf i).toNat)
        case atStart => exact ⟨0, by omega, rfl, HO, hB5, HD⟩
        case round =>
          clear HO hB5 HD hmk hc0 hc1 hc2 hc3 hc4 hc5 hc6 hc7
          obtain ⟨k', hk', rfl, HO, hB, HD⟩ := hrel
          have hle := hB.size
          have hDlt := (Array.getElem?_eq_some_iff.1 HD.out).1
          by_cases hlt' : k' < 8
          · rcases (show k' = 0 ∨ k' = 1 ∨ k' = 2 ∨ k' = 3 ∨ k' = 4 ∨ k' = 5 ∨ k' = 6 ∨ k' = 7 by omega) with rfl | rfl | rfl | rfl | rfl | rfl | rfl | rfl
            · have hix : ∀ w, (Instr.index 60 (.agg #[.int .u32 (x0.toNat : Int), .int .u32 (x1.toNat : Int), .int .u32 (x2.toNat : Int), .int .u32 (x3.toNat : Int), .int .u32 (x4.toNat : Int), .int .u32 (x5.toNat : Int), .int .u32 (x6.toNat : Int), .int .u32 (x7.toNat : Int)]) (.int .i64 0)).run Tryd.prog w = .ok (.int .u32 (x0.toNat : Int)) w := fun w => run_index60 w ⟨0, by omega⟩ (x0.toNat : Int) (x1.toNat : Int) (x2.toNat : Int) (x3.toNat : Int) (x4.toNat : Int) (x5.toNat : Int) (x6.toNat : Int) (x7.toNat : Int) _ rfl
              gi_wp2_with (refine wpListIn_append_own _ rfl _ _ 43 rfl w.heap.size 5 i5 (.int .u8 0) 1 1 Tryd.underlying43 hi5 hzr5 hsz5 hby5 rfl (by decide) _ _ _ rfl (HO.out.alloc _) ⟨wr.heap.size, 0, none⟩ 4 4 [.int .u8 ((x0.toNat : Int) / 16777216 % 256), .int .u8 ((x0.toNat : Int) / 65536 % 256), .int .u8 ((x0.toNat : Int) / 256 % 256), .int .u8 ((x0.toNat : Int) % 256)] rfl rfl (four_new wr _ _ _ _) ?c0a ?c0b ?c0c ?c0d ?_)
              case c0a => intro u hu; simp at hu; rcases hu with rfl | rfl | rfl | rfl <;> rfl
              case c0b => unfold maxLen; omega
              case c0c => omega
              case c0d => simp; omega
              intro v' w1 hown' hgrow _
              have hB1 : Below w.heap.size w w1 := (hB.alloc hB.size _).grown hgrow (by simp; omega) (fun k e => (HO.out.lt k e).1)
              have HD1 := Lib.hid ((hgrow.block _ (by simp; omega) (fun e => own_ne HO.out HD.out e.symm)).trans ((Below.heap_alloc _ _ _ hDlt).trans HD.out))
              rw [← outW_cells, show x0 = St.get x 0 from HXS0.out.symm, bcells_succ x 0] at hown'
              have HO1 := Lib.hid hown'
              clear hown' hgrow
              gi_wp2
              go_roundw
              case rel => exact ⟨0 + 1, by omega, by go_num, HO1, hB1, HD1⟩
              case measure => simp [intOf]
            · have hix : ∀ w, (Instr.index 60 (.agg #[.int .u32 (x0.toNat : Int), .int .u32 (x1.toNat : Int), .int .u32 (x2.toNat : Int), .int .u32 (x3.toNat : Int), .int .u32 (x4.toNat : Int), .int .u32 (x5.toNat : Int), .int .u32 (x6.toNat : Int), .int .u32 (x7.toNat : Int)]) (.int .i64 1)).run Tryd.prog w = .ok (.int .u32 (x1.toNat : Int)) w := fun w => run_index60 w ⟨1, by omega⟩ (x0.toNat : Int) (x1.toNat : Int) (x2.toNat : Int) (x3.toNat : Int) (x4.toNat : Int) (x5.toNat : Int) (x6.toNat : Int) (x7.toNat : Int) _ rfl
              gi_wp2_with (refine wpListIn_append_own _ rfl _ _ 43 rfl w.heap.size 5 i5 (.int .u8 0) 1 1 Tryd.underlying43 hi5 hzr5 hsz5 hby5 rfl (by decide) _ _ _ rfl (HO.out.alloc _) ⟨wr.heap.size, 0, none⟩ 4 4 [.int .u8 ((x1.toNat : Int) / 16777216 % 256), .int .u8 ((x1.toNat : Int) / 65536 % 256), .int .u8 ((x1.toNat : Int) / 256 % 256), .int .u8 ((x1.toNat : Int) % 256)] rfl rfl (four_new wr _ _ _ _) ?c1a ?c1b ?c1c ?c1d ?_)
              case c1a => intro u hu; simp at hu; rcases hu with rfl | rfl | rfl | rfl <;> rfl
              case c1b => unfold maxLen; omega
              case c1c => omega
              case c1d => simp; omega
              intro v' w1 hown' hgrow _
              have hB1 : Below w.heap.size w w1 := (hB.alloc hB.size _).grown hgrow (by simp; omega) (fun k e => (HO.out.lt k e).1)
              have HD1 := Lib.hid ((hgrow.block _ (by simp; omega) (fun e => own_ne HO.out HD.out e.symm)).trans ((Below.heap_alloc _ _ _ hDlt).trans HD.out))
              rw [← outW_cells, show x1 = St.get x 1 from HXS1.out.symm, bcells_succ x 1] at hown'
              have HO1 := Lib.hid hown'
              clear hown' hgrow
              gi_wp2
              go_roundw
              case rel => exact ⟨1 + 1, by omega, by go_num, HO1, hB1, HD1⟩
              case measure => simp [intOf]
            · have hix : ∀ w, (Instr.index 60 (.agg #[.int .u32 (x0.toNat : Int), .int .u32 (x1.toNat : Int), .int .u32 (x2.toNat : Int), .int .u32 (x3.toNat : Int), .int .u32 (x4.toNat : Int), .int .u32 (x5.toNat : Int), .int .u32 (x6.toNat : Int), .int .u32 (x7.toNat : Int)]) (.int .i64 2)).run Tryd.prog w = .ok (.int .u32 (x2.toNat : Int)) w := fun w => run_index60 w ⟨2, by omega⟩ (x0.toNat : Int) (x1.toNat : Int) (x2.toNat : Int) (x3.toNat : Int) (x4.toNat : Int) (x5.toNat : Int) (x6.toNat : Int) (x7.toNat : Int) _ rfl
              gi_wp2_with (refine wpListIn_append_own _ rfl _ _ 43 rfl w.heap.size 5 i5 (.int .u8 0) 1 1 Tryd.underlying43 hi5 hzr5 hsz5 hby5 rfl (by decide) _ _ _ rfl (HO.out.alloc _) ⟨wr.heap.size, 0, none⟩ 4 4 [.int .u8 ((x2.toNat : Int) / 16777216 % 256), .int .u8 ((x2.toNat : Int) / 65536 % 256), .int .u8 ((x2.toNat : Int) / 256 % 256), .int .u8 ((x2.toNat : Int) % 256)] rfl rfl (four_new wr _ _ _ _) ?c2a ?c2b ?c2c ?c2d ?_)
              case c2a => intro u hu; simp at hu; rcases hu with rfl | rfl | rfl | rfl <;> rfl
              case c2b => unfold maxLen; omega
              case c2c => omega
              case c2d => simp; omega
              intro v' w1 hown' hgrow _
              have hB1 : Below w.heap.size w w1 := (hB.alloc hB.size _).grown hgrow (by simp; omega) (fun k e => (HO.out.lt k e).1)
              have HD1 := Lib.hid ((hgrow.block _ (by simp; omega) (fun e => own_ne HO.out HD.out e.symm)).trans ((Below.heap_alloc _ _ _ hDlt).trans HD.out))
              rw [← outW_cells, show x2 = St.get x 2 from HXS2.out.symm, bcells_succ x 2] at hown'
              have HO1 := Lib.hid hown'
              clear hown' hgrow
              gi_wp2
              go_roundw
              case rel => exact ⟨2 + 1, by omega, by go_num, HO1, hB1, HD1⟩
              case measure => simp [intOf]
            · have hix : ∀ w, (Instr.index 60 (.agg #[.int .u32 (x0.toNat : Int), .int .u32 (x1.toNat : Int), .int .u32 (x2.toNat : Int), .int .u32 (x3.toNat : Int), .int .u32 (x4.toNat : Int), .int .u32 (x5.toNat : Int), .int .u32 (x6.toNat : Int), .int .u32 (x7.toNat : Int)]) (.int .i64 3)).run Tryd.prog w = .ok (.int .u32 (x3.toNat : Int)) w := fun w => run_index60 w ⟨3, by omega⟩ (x0.toNat : Int) (x1.toNat : Int) (x2.toNat : Int) (x3.toNat : Int) (x4.toNat : Int) (x5.toNat : Int) (x6.toNat : Int) (x7.toNat : Int) _ rfl
              gi_wp2_with (refine wpListIn_append_own _ rfl _ _ 43 rfl w.heap.size 5 i5 (.int .u8 0) 1 1 Tryd.underlying43 hi5 hzr5 hsz5 hby5 rfl (by decide) _ _ _ rfl (HO.out.alloc _) ⟨wr.heap.size, 0, none⟩ 4 4 [.int .u8 ((x3.toNat : Int) / 16777216 % 256), .int .u8 ((x3.toNat : Int) / 65536 % 256), .int .u8 ((x3.toNat : Int) / 256 % 256), .int .u8 ((x3.toNat : Int) % 256)] rfl rfl (four_new wr _ _ _ _) ?c3a ?c3b ?c3c ?c3d ?_)
              case c3a => intro u hu; simp at hu; rcases hu with rfl | rfl | rfl | rfl <;> rfl
              case c3b => unfold maxLen; omega
              case c3c => omega
              case c3d => simp; omega
              intro v' w1 hown' hgrow _
              have hB1 : Below w.heap.size w w1 := (hB.alloc hB.size _).grown hgrow (by simp; omega) (fun k e => (HO.out.lt k e).1)
              have HD1 := Lib.hid ((hgrow.block _ (by simp; omega) (fun e => own_ne HO.out HD.out e.symm)).trans ((Below.heap_alloc _ _ _ hDlt).trans HD.out))
              rw [← outW_cells, show x3 = St.get x 3 from HXS3.out.symm, bcells_succ x 3] at hown'
              have HO1 := Lib.hid hown'
              clear hown' hgrow
              gi_wp2
              go_roundw
              case rel => exact ⟨3 + 1, by omega, by go_num, HO1, hB1, HD1⟩
              case measure => simp [intOf]
            · have hix : ∀ w, (Instr.index 60 (.agg #[.int .u32 (x0.toNat : Int), .int .u32 (x1.toNat : Int), .int .u32 (x2.toNat : Int), .int .u32 (x3.toNat : Int), .int .u32 (x4.toNat : Int), .int .u32 (x5.toNat : Int), .int .u32 (x6.toNat : Int), .int .u32 (x7.toNat : Int)]) (.int .i64 4)).run Tryd.prog w = .ok (.int .u32 (x4.toNat : Int)) w := fun w => run_index60 w ⟨4, by omega⟩ (x0.toNat : Int) (x1.toNat : Int) (x2.toNat : Int) (x3.toNat : Int) (x4.toNat : Int) (x5.toNat : Int) (x6.toNat : Int) (x7.toNat : Int) _ rfl
              gi_wp2_with (refine wpListIn_append_own _ rfl _ _ 43 rfl w.heap.size 5 i5 (.int .u8 0) 1 1 Tryd.underlying43 hi5 hzr5 hsz5 hby5 rfl (by decide) _ _ _ rfl (HO.out.alloc _) ⟨wr.heap.size, 0, none⟩ 4 4 [.int .u8 ((x4.toNat : Int) / 16777216 % 256), .int .u8 ((x4.toNat : Int) / 65536 % 256), .int .u8 ((x4.toNat : Int) / 256 % 256), .int .u8 ((x4.toNat : Int) % 256)] rfl rfl (four_new wr _ _ _ _) ?c4a ?c4b ?c4c ?c4d ?_)
              case c4a => intro u hu; simp at hu; rcases hu with rfl | rfl | rfl | rfl <;> rfl
              case c4b => unfold maxLen; omega
              case c4c => omega
              case c4d => simp; omega
              intro v' w1 hown' hgrow _
              have hB1 : Below w.heap.size w w1 := (hB.alloc hB.size _).grown hgrow (by simp; omega) (fun k e => (HO.out.lt k e).1)
              have HD1 := Lib.hid ((hgrow.block _ (by simp; omega) (fun e => own_ne HO.out HD.out e.symm)).trans ((Below.heap_alloc _ _ _ hDlt).trans HD.out))
              rw [← outW_cells, show x4 = St.get x 4 from HXS4.out.symm, bcells_succ x 4] at hown'
              have HO1 := Lib.hid hown'
              clear hown' hgrow
              gi_wp2
              go_roundw
              case rel => exact ⟨4 + 1, by omega, by go_num, HO1, hB1, HD1⟩
              case measure => simp [intOf]
            · have hix : ∀ w, (Instr.index 60 (.agg #[.int .u32 (x0.toNat : Int), .int .u32 (x1.toNat : Int), .int .u32 (x2.toNat : Int), .int .u32 (x3.toNat : Int), .int .u32 (x4.toNat : Int), .int .u32 (x5.toNat : Int), .int .u32 (x6.toNat : Int), .int .u32 (x7.toNat : Int)]) (.int .i64 5)).run Tryd.prog w = .ok (.int .u32 (x5.toNat : Int)) w := fun w => run_index60 w ⟨5, by omega⟩ (x0.toNat : Int) (x1.toNat : Int) (x2.toNat : Int) (x3.toNat : Int) (x4.toNat : Int) (x5.toNat : Int) (x6.toNat : Int) (x7.toNat : Int) _ rfl
              gi_wp2_with (refine wpListIn_append_own _ rfl _ _ 43 rfl w.heap.size 5 i5 (.int .u8 0) 1 1 Tryd.underlying43 hi5 hzr5 hsz5 hby5 rfl (by decide) _ _ _ rfl (HO.out.alloc _) ⟨wr.heap.size, 0, none⟩ 4 4 [.int .u8 ((x5.toNat : Int) / 16777216 % 256), .int .u8 ((x5.toNat : Int) / 65536 % 256), .int .u8 ((x5.toNat : Int) / 256 % 256), .int .u8 ((x5.toNat : Int) % 256)] rfl rfl (four_new wr _ _ _ _) ?c5a ?c5b ?c5c ?c5d ?_)
              case c5a => intro u hu; simp at hu; rcases hu with rfl | rfl | rfl | rfl <;> rfl
              case c5b => unfold maxLen; omega
              case c5c => omega
              case c5d => simp; omega
              intro v' w1 hown' hgrow _
              have hB1 : Below w.heap.size w w1 := (hB.alloc hB.size _).grown hgrow (by simp; omega) (fun k e => (HO.out.lt k e).1)
              have HD1 := Lib.hid ((hgrow.block _ (by simp; omega) (fun e => own_ne HO.out HD.out e.symm)).trans ((Below.heap_alloc _ _ _ hDlt).trans HD.out))
              rw [← outW_cells, show x5 = St.get x 5 from HXS5.out.symm, bcells_succ x 5] at hown'
              have HO1 := Lib.hid hown'
              clear hown' hgrow
              gi_wp2
              go_roundw
              case rel => exact ⟨5 + 1, by omega, by go_num, HO1, hB1, HD1⟩
              case measure => simp [intOf]
            · have hix : ∀ w, (Instr.index 60 (.agg #[.int .u32 (x0.toNat : Int), .int .u32 (x1.toNat : Int), .int .u32 (x2.toNat : Int), .int .u32 (x3.toNat : Int), .int .u32 (x4.toNat : Int), .int .u32 (x5.toNat : Int), .int .u32 (x6.toNat : Int), .int .u32 (x7.toNat : Int)]) (.int .i64 6)).run Tryd.prog w = .ok (.int .u32 (x6.toNat : Int)) w := fun w => run_index60 w ⟨6, by omega⟩ (x0.toNat : Int) (x1.toNat : Int) (x2.toNat : Int) (x3.toNat : Int) (x4.toNat : Int) (x5.toNat : Int) (x6.toNat : Int) (x7.toNat : Int) _ rfl
              gi_wp2_with (refine wpListIn_append_own _ rfl _ _ 43 rfl w.heap.size 5 i5 (.int .u8 0) 1 1 Tryd.underlying43 hi5 hzr5 hsz5 hby5 rfl (by decide) _ _ _ rfl (HO.out.alloc _) ⟨wr.heap.size, 0, none⟩ 4 4 [.int .u8 ((x6.toNat : Int) / 16777216 % 256), .int .u8 ((x6.toNat : Int) / 65536 % 256), .int .u8 ((x6.toNat : Int) / 256 % 256), .int .u8 ((x6.toNat : Int) % 256)] rfl rfl (four_new wr _ _ _ _) ?c6a ?c6b ?c6c ?c6d ?_)
              case c6a => intro u hu; simp at hu; rcases hu with rfl | rfl | rfl | rfl <;> rfl
              case c6b => unfold maxLen; omega
              case c6c => omega
              case c6d => simp; omega
              intro v' w1 hown' hgrow _
              have hB1 : Below w.heap.size w w1 := (hB.alloc hB.size _).grown hgrow (by simp; omega) (fun k e => (HO.out.lt k e).1)
              have HD1 := Lib.hid ((hgrow.block _ (by simp; omega) (fun e => own_ne HO.out HD.out e.symm)).trans ((Below.heap_alloc _ _ _ hDlt).trans HD.out))
              rw [← outW_cells, show x6 = St.get x 6 from HXS6.out.symm, bcells_succ x 6] at hown'
              have HO1 := Lib.hid hown'
              clear hown' hgrow
              gi_wp2
              go_roundw
              case rel => exact ⟨6 + 1, by omega, by go_num, HO1, hB1, HD1⟩
              case measure => simp [intOf]
            · have hix : ∀ w, (Instr.index 60 (.agg #[.int .u32 (x0.toNat : Int), .int .u32 (x1.toNat : Int), .int .u32 (x2.toNat : Int), .int .u32 (x3.toNat : Int), .int .u32 (x4.toNat : Int), .int .u32 (x5.toNat : Int), .int .u32 (x6.toNat : Int), .int .u32 (x7.toNat : Int)]) (.int .i64 7)).run Tryd.prog w = .ok (.int .u32 (x7.toNat : Int)) w := fun w => run_index60 w ⟨7, by omega⟩ (x0.toNat : Int) (x1.toNat : Int) (x2.toNat : Int) (x3.toNat : Int) (x4.toNat : Int) (x5.toNat : Int) (x6.toNat : Int) (x7.toNat : Int) _ rfl
              gi_wp2_with (refine wpListIn_append_own _ rfl _ _ 43 rfl w.heap.size 5 i5 (.int .u8 0) 1 1 Tryd.underlying43 hi5 hzr5 hsz5 hby5 rfl (by decide) _ _ _ rfl (HO.out.alloc _) ⟨wr.heap.size, 0, none⟩ 4 4 [.int .u8 ((x7.toNat : Int) / 16777216 % 256), .int .u8 ((x7.toNat : Int) / 65536 % 256), .int .u8 ((x7.toNat : Int) / 256 % 256), .int .u8 ((x7.toNat : Int) % 256)] rfl rfl (four_new wr _ _ _ _) ?c7a ?c7b ?c7c ?c7d ?_)
              case c7a => intro u hu; simp at hu; rcases hu with rfl | rfl | rfl | rfl <;> rfl
              case c7b => unfold maxLen; omega
              case c7c => omega
              case c7d => simp; omega
              intro v' w1 hown' hgrow _
              have hB1 : Below w.heap.size w w1 := (hB.alloc hB.size _).grown hgrow (by simp; omega) (fun k e => (HO.out.lt k e).1)
              have HD1 := Lib.hid ((hgrow.block _ (by simp; omega) (fun e => own_ne HO.out HD.out e.symm)).trans ((Below.heap_alloc _ _ _ hDlt).trans HD.out))
              rw [← outW_cells, show x7 = St.get x 7 from HXS7.out.symm, bcells_succ x 7] at hown'
              have HO1 := Lib.hid hown'
              clear hown' hgrow
              gi_wp2
              go_roundw
              case rel => exact ⟨7 + 1, by omega, by go_num, HO1, hB1, HD1⟩
              case measure => simp [intOf]
          · obtain rfl : k' = 8 := by omega
            obtain ⟨g', cap', rfl⟩ := ownsRow_succ (k := 31) HO.out
            have hcv := bytes_back (outs x 8) (outs_len x 8) HO.out
            rw [outs_all, HX.out] at hcv
            gi_wp2
            refine ⟨by simp, .inl ⟨_, _, rfl, run_takeDeferred HD.out, ?_⟩⟩
            exact ⟨_, results_tmp rfl _ _ _, rfl, hB.trans (belowK_b (w := w) (Nat.le_refl _) _ _ _ _ (by have := hB4.size; omega) HD.out rfl rfl)⟩

/-- sum -/
theorem sum_any (b c : Nat) (parts : List ByteArray) (w : World) (hl0 : 0 < parts.length) (hl : parts.length ≤ 800) (hb : b < w.heap.size) (hs : StrRow w b 0 parts) (ht : Tab w) (hsz : (flat parts).length ≤ 549755813888) :
    Calls Tryd.prog 40 #[.slice (some ⟨b, 0, none⟩) parts.length c] w fun e w' => e = .returned (.string ⟨(Sh.sha (flat parts)).toArray⟩) ∧ Below w.heap.size w w' :=
  callsIn_wide.1 (sum_in b c parts w hl0 hl hb hs ht hsz)
end Go.Proofs.YtdjdoepnljdlcaaDoor
