/- The functions of the packages and of the references, by contract: part 3. -/
import Derived.Deep.Cut
import Derived.Ground.NamesProg
import Derived.Lib.Agree
import Derived.Lib.AppendIntMem
import Derived.Shelf.Pu.Clone
import Derived.Shelf.Strconv.Itoa3
import Derived.Shelf.Strings.Cut
import Derived.Shelf.Strings.Repeat
import Derived.Test.YtdnbhgkbfbgnaaaGreatDoorChecked
import Derived.Test.YtdnbhgkbfbgnaaaGreatDoorKb

namespace Go.Proofs.YtdnbhgkbfbgnaaaGreatDoor
open Go.RowKit

theorem step_minus {n m i : Nat} {b b' nn d : Int} {l : List Int} {T : Int} (hl : l.length = i) (h : vlX l + 10 ^ i * (((n / 10 ^ i : Nat) : Int) - ((m / 10 ^ i : Nat) : Int) - b) = T) (hn : nn = (((n / 10 ^ i) % 10 : Nat) : Int) - b - (((m / 10 ^ i) % 10 : Nat) : Int)) (hd : nn = d - 10 * b') :
    vlX (l ++ [d]) + 10 ^ (i + 1) * (((n / 10 ^ (i + 1) : Nat) : Int) - ((m / 10 ^ (i + 1) : Nat) : Int) - b') = T := by
  have s1 := gx_step n i
  have s2 := gx_step m i
  rw [vlX_snoc, hl, ← h, Int.add_assoc, Int.pow_succ, Int.mul_assoc, ← Int.mul_add]
  congr 2
  generalize n / 10 ^ (i + 1) = n1 at *
  generalize m / 10 ^ (i + 1) = m1 at *
  generalize n / 10 ^ i = n0 at *
  generalize m / 10 ^ i = m0 at *
  omega
/-- what trimming leaves of digits -/
theorem rtrim_X {w W : World} {base i cp n : Nat} {ad : Option Addr} {l : List Int} (h : w.ownsRow base 3 1 (.slice ad i cp) i (ints l)) (hl : l.length = i) (hd : DigX l) (hv : vlX l = n) (hW : Below w.heap.size w W) :
    Calls Tryz.prog 148 #[.slice ad i cp] W fun e w' => ∃ v, e = .returned v ∧ XSl w' v n ∧ Below W.heap.size W w' ∧ ∀ b o k c, v = .slice (some ⟨b, o, none⟩) k c → 0 < k → base ≤ b := by
  have ht := trzX_grp hd
  rw [hv, Int.toNat_natCast] at ht
  by_cases h0 : 0 < i
  · obtain ⟨g, cap, hsl, hgb, hA, hc1, hc2⟩ := own_ints h h0
    simp only [Value.slice.injEq] at hsl
    obtain ⟨rfl, _, rfl⟩ := hsl
    have hA2 := hA.below hW hA.lt
    refine (rtrim_some l g 0 i cp W hl hc1 hc2 (ABlk.row (P := []) (S := []) (by simpa using hA2))).mono fun e w' ⟨he, q, hq⟩ => ⟨_, he, ?_, hq ▸ below_drewN (Below.refl _ _) q, fun b o k c e _ => by cases e; exact hgb⟩
    rw [hq, ht]
    refine ISl.below (w := W) ?_ (below_drewN (Below.refl _ _) q)
    have hle := trz_len l
    rw [ht] at hle
    rw [show l = grpX n ++ l.drop (grpX n).length from by
      have h3 := trz_take l
      rw [ht] at h3
      rw [← List.take_append_drop (grpX n).length l, ← h3]; simp] at hA2
    exact ABlk.sl hA2 rfl (by omega) hc2
  · obtain rfl : i = 0 := by omega
    have : l = [] := List.length_eq_zero_iff.1 hl
    subst this
    have hn : n = 0 := by rw [vlX] at hv; omega
    subst hn
    exact (rtrim_zero ad cp W).mono fun e w' ⟨he, q, hq⟩ => ⟨_, he, .inl ⟨_, _, rfl, grpX_zero⟩, hq ▸ below_drewN (Below.refl _ _) q, fun b o k c e h => by cases e; omega⟩
/-- writing elsewhere leaves the digits -/
theorem XSl.store {w : World} {v : Value} {n g i : Nat} {x : Value} (h : XSl w v n) (hf : ∀ b o k c, v = .slice (some ⟨b, o, none⟩) k c → 0 < k → b ≠ g) : XSl (w.setCell ⟨g, i, none⟩ x) v n := by
  rcases h with h | ⟨b, o, c, rfl, h1, h2, h3, h4⟩
  · exact .inl h
  · refine .inr ⟨b, o, c, rfl, h1, h2, by simpa [World.setCell] using h3, fun j y hj => ?_⟩
    have hl : 0 < (grpX n).length := by have := (List.getElem?_eq_some_iff.1 hj).1; omega
    have hne := hf b o _ c rfl hl
    have h5 := h4 j y hj
    rw [World.cell?] at h5 ⊢
    rw [Below.heap_setCell _ _ _ _ hne]; exact h5

set_option maxRecDepth 100000 in
set_option maxHeartbeats 2000000 in
theorem rminus_any (n m : Nat) (v1 v2 : Value) (w : World) (hnm : m ≤ n) (hl1 : (grpX n).length ≤ 20000) (h1 : XSl w v1 n) (h2 : XSl w v2 m) :
    Calls Tryz.prog 118 #[v1, v2] w fun e w' => ∃ v, e = .returned v ∧ XSl w' v (n - m) ∧ Below w.heap.size w w' ∧ ∀ b o k c, v = .slice (some ⟨b, o, none⟩) k c → 0 < k → w.heap.size ≤ b := by
  have hqp := grpX_mono hnm
  obtain ⟨a1, c1, rfl⟩ := h1.form
  obtain ⟨a2, c2, rfl⟩ := h2.form
  obtain ⟨p, hp⟩ : ∃ p, (grpX n).length = p := ⟨_, rfl⟩
  obtain ⟨q, hq⟩ : ∃ q, (grpX m).length = q := ⟨_, rfl⟩
  rw [hp] at h1 hl1 hqp ⊢
  rw [hq] at h2 hqp ⊢
  have H1 := Lib.hid h1
  have H2 := Lib.hid h2
  have HP := Lib.hid hp
  have HQ := Lib.hid hq
  have HM := Lib.hid hnm
  obtain ⟨i0, hi, hz0, hz1, hz2⟩ := info_parts info_int
  have HZ2 := Lib.hid hz2
  clear h1 h2 hp hq hz2 hnm
  go_enter Tryz.func118, Tryz.ntmps118
  go_wp2
  go_loopw [5, 6, 7] (fun ov bv iv wr => ∃ (i : Nat) (b : Int) (ad : Option Addr) (cp : Nat), ov = .slice ad i cp ∧ bv = .int .i64 b ∧ iv = .int .i64 (i : Int) ∧ i ≤ p ∧ 0 ≤ b ∧ b ≤ 1 ∧ Hid (∃ l, wr.ownsRow w.heap.size 3 1 ov i (ints l) ∧ DigX l ∧ l.length = i ∧ vlX l + 10 ^ i * (((n / 10 ^ i : Nat) : Int) - ((m / 10 ^ i : Nat) : Int) - b) = (n : Int) - m) ∧ Below w.heap.size w wr) (fun _ _ iv _ => p - (intOf iv).toNat)
  case atStart => exact ⟨0, 0, _, _, rfl, rfl, rfl, Nat.zero_le _, by omega, by omega, Lib.hid ⟨[], ⟨rfl, .inl ⟨rfl, rfl⟩⟩, digX_nil, rfl, by simp [vlX]⟩, Below.refl _ _⟩
  case round =>
    obtain ⟨i, b, ad, cp, rfl, rfl, rfl, hi9, hb0, hb1, hI, hB⟩ := hrel
    obtain ⟨l, k1, k2, k3, k4⟩ := hI.out
    clear hI
    by_cases hip : i < p
    · have hW1 := H1.out.below hB
      have hW2 := H2.out.below hB
      obtain ⟨b1, o1, r1⟩ := hW1.at HP.out
      obtain ⟨b2, o2, r2⟩ := hW2.at HQ.out
      have R2 := Lib.hid r2
      obtain ⟨rfl, x1, x2⟩ := r1 i hip
      have e2 : ¬ i < q → m / 10 ^ i = 0 := fun h => gx_end (by rw [HQ.out]; omega)
      have HOB := Lib.hid (show ∀ z, (Value.slice ad i cp).ownBlock = some z → w.heap.size ≤ z from fun z hz => own_block k1 hz)
      obtain ⟨nn, hnn⟩ : ∃ nn, nn = (((n / 10 ^ i) % 10 : Nat) : Int) - b - (((m / 10 ^ i) % 10 : Nat) : Int) := ⟨_, rfl⟩
      have K4 := Lib.hid (fun (b' d : Int) (hd : nn = d - 10 * b') => step_minus k3 k4 hnn hd)
      have K1 := Lib.hid k1
      have KD := Lib.hid (And.intro k2 k3)
      have BB := Lib.hid hB
      have hdx : (n / 10 ^ i) % 10 < 10 := Nat.mod_lt _ (by decide)
      have hdy : (m / 10 ^ i) % 10 < 10 := Nat.mod_lt _ (by decide)
      clear hW1 hW2 r1 r2 k1 k2 k3 k4 hB
      by_cases hiq : i < q
      · obtain ⟨rfl, y1, y2⟩ := R2.out i hiq
        obtain ⟨x, hx⟩ : ∃ x, (n / 10 ^ i) % 10 = x := ⟨_, rfl⟩
        obtain ⟨y, hy⟩ : ∃ y, (m / 10 ^ i) % 10 = y := ⟨_, rfl⟩
        rw [hx] at x1 hnn hdx
        rw [hy] at y1 hnn hdy
        have hs : (x : Int) - b - (y : Int) = nn := hnn.symm
        clear e2 hx hy R2 hnn
        by_cases hlt : nn < 0
        · have HK := Lib.hid (K4.out 1 (nn + 10) (by omega))
          have HO := Lib.hid (K1.out.alloc (.cells #[.int .i64 (nn + 10)] 3))
          have HO3 := Lib.hid (show ∀ (w3 : World) (v3 : Value), w3.ownsRow w.heap.size 3 1 v3 (i + 1) (ints l ++ [.int .i64 (nn + 10)]) → w3.ownsRow w.heap.size 3 1 v3 (i + 1) (ints (l ++ [nn + 10])) from fun w3 v3 h => by simpa [ints] using h)
          have HBA := Lib.hid (BB.out.alloc BB.out.size (.cells #[.int .i64 (nn + 10)] 3))
          have hn9 : -10 ≤ nn := by omega
          clear K4 K1
          go_wp2_with (at_builtin; go_loud (refine wpList_append_lies _ rfl (.tmp 35) (.tmp 37) 40 rfl w.heap.size 3 i0 (.int .i64 0) 1 8 Tryz.underlying40 hi hz0 hz1 HZ2.out rfl (by decide) (.slice ad i cp) i _ rfl HO.out ⟨wr.heap.size, 0, none⟩ 1 1 [.int .i64 (nn + 10)] rfl rfl (one_newJ wr _) (by intro u hu; simp at hu; subst hu; rfl) (by decide) (by unfold maxLen; omega) (by omega) HBA.out.size _ rfl ?_; intro g2 cap2 w3 hown3 hgrow _ _; have HOW := Lib.hid (HO3.out w3 _ hown3); have HB3 := Lib.hid (HBA.out.grown hgrow HBA.out.size (fun q hq => HOB.out q hq)); clear hown3 hgrow))
          exact ⟨⟨i + 1, 1, _, _, rfl, rfl, by go_num, by omega, by omega, by omega, Lib.hid ⟨_, HOW.out, KD.out.1.snoc (by omega), by rw [List.length_append, KD.out.2]; rfl, HK.out⟩, HB3.out⟩, by simp [intOf]; omega⟩
        · have HK := Lib.hid (K4.out 0 nn (by omega))
          have HO := Lib.hid (K1.out.alloc (.cells #[.int .i64 nn] 3))
          have HO3 := Lib.hid (show ∀ (w3 : World) (v3 : Value), w3.ownsRow w.heap.size 3 1 v3 (i + 1) (ints l ++ [.int .i64 nn]) → w3.ownsRow w.heap.size 3 1 v3 (i + 1) (ints (l ++ [nn])) from fun w3 v3 h => by simpa [ints] using h)
          have HBA := Lib.hid (BB.out.alloc BB.out.size (.cells #[.int .i64 nn] 3))
          have hn9 : nn < 10 := by omega
          clear K4 K1
          go_wp2_with (at_builtin; go_loud (refine wpList_append_lies _ rfl (.tmp 35) (.tmp 37) 40 rfl w.heap.size 3 i0 (.int .i64 0) 1 8 Tryz.underlying40 hi hz0 hz1 HZ2.out rfl (by decide) (.slice ad i cp) i _ rfl HO.out ⟨wr.heap.size, 0, none⟩ 1 1 [.int .i64 nn] rfl rfl (one_newJ wr _) (by intro u hu; simp at hu; subst hu; rfl) (by decide) (by unfold maxLen; omega) (by omega) HBA.out.size _ rfl ?_; intro g2 cap2 w3 hown3 hgrow _ _; have HOW := Lib.hid (HO3.out w3 _ hown3); have HB3 := Lib.hid (HBA.out.grown hgrow HBA.out.size (fun q hq => HOB.out q hq)); clear hown3 hgrow))
          exact ⟨⟨i + 1, 0, _, _, rfl, rfl, by go_num, by omega, by omega, by omega, Lib.hid ⟨_, HOW.out, KD.out.1.snoc (by omega), by rw [List.length_append, KD.out.2]; rfl, HK.out⟩, HB3.out⟩, by simp [intOf]; omega⟩
      · obtain ⟨x, hx⟩ : ∃ x, (n / 10 ^ i) % 10 = x := ⟨_, rfl⟩
        rw [e2 hiq] at hnn
        rw [hx] at x1 hnn hdx
        have hs : (x : Int) - b = nn := by rw [hnn]; simp
        clear e2 hx R2 hnn hdy
        by_cases hlt : nn < 0
        · have HK := Lib.hid (K4.out 1 (nn + 10) (by omega))
          have HO := Lib.hid (K1.out.alloc (.cells #[.int .i64 (nn + 10)] 3))
          have HO3 := Lib.hid (show ∀ (w3 : World) (v3 : Value), w3.ownsRow w.heap.size 3 1 v3 (i + 1) (ints l ++ [.int .i64 (nn + 10)]) → w3.ownsRow w.heap.size 3 1 v3 (i + 1) (ints (l ++ [nn + 10])) from fun w3 v3 h => by simpa [ints] using h)
          have HBA := Lib.hid (BB.out.alloc BB.out.size (.cells #[.int .i64 (nn + 10)] 3))
          have hn9 : -10 ≤ nn := by omega
          clear K4 K1
          go_wp2_with (at_builtin; go_loud (refine wpList_append_lies _ rfl (.tmp 35) (.tmp 37) 40 rfl w.heap.size 3 i0 (.int .i64 0) 1 8 Tryz.underlying40 hi hz0 hz1 HZ2.out rfl (by decide) (.slice ad i cp) i _ rfl HO.out ⟨wr.heap.size, 0, none⟩ 1 1 [.int .i64 (nn + 10)] rfl rfl (one_newJ wr _) (by intro u hu; simp at hu; subst hu; rfl) (by decide) (by unfold maxLen; omega) (by omega) HBA.out.size _ rfl ?_; intro g2 cap2 w3 hown3 hgrow _ _; have HOW := Lib.hid (HO3.out w3 _ hown3); have HB3 := Lib.hid (HBA.out.grown hgrow HBA.out.size (fun q hq => HOB.out q hq)); clear hown3 hgrow))
          exact ⟨⟨i + 1, 1, _, _, rfl, rfl, by go_num, by omega, by omega, by omega, Lib.hid ⟨_, HOW.out, KD.out.1.snoc (by omega), by rw [List.length_append, KD.out.2]; rfl, HK.out⟩, HB3.out⟩, by simp [intOf]; omega⟩
        · have HK := Lib.hid (K4.out 0 nn (by omega))
          have HO := Lib.hid (K1.out.alloc (.cells #[.int .i64 nn] 3))
          have HO3 := Lib.hid (show ∀ (w3 : World) (v3 : Value), w3.ownsRow w.heap.size 3 1 v3 (i + 1) (ints l ++ [.int .i64 nn]) → w3.ownsRow w.heap.size 3 1 v3 (i + 1) (ints (l ++ [nn])) from fun w3 v3 h => by simpa [ints] using h)
          have HBA := Lib.hid (BB.out.alloc BB.out.size (.cells #[.int .i64 nn] 3))
          have hn9 : nn < 10 := by omega
          clear K4 K1
          go_wp2_with (at_builtin; go_loud (refine wpList_append_lies _ rfl (.tmp 35) (.tmp 37) 40 rfl w.heap.size 3 i0 (.int .i64 0) 1 8 Tryz.underlying40 hi hz0 hz1 HZ2.out rfl (by decide) (.slice ad i cp) i _ rfl HO.out ⟨wr.heap.size, 0, none⟩ 1 1 [.int .i64 nn] rfl rfl (one_newJ wr _) (by intro u hu; simp at hu; subst hu; rfl) (by decide) (by unfold maxLen; omega) (by omega) HBA.out.size _ rfl ?_; intro g2 cap2 w3 hown3 hgrow _ _; have HOW := Lib.hid (HO3.out w3 _ hown3); have HB3 := Lib.hid (HBA.out.grown hgrow HBA.out.size (fun q hq => HOB.out q hq)); clear hown3 hgrow))
          exact ⟨⟨i + 1, 0, _, _, rfl, rfl, by go_num, by omega, by omega, by omega, Lib.hid ⟨_, HOW.out, KD.out.1.snoc (by omega), by rw [List.length_append, KD.out.2]; rfl, HK.out⟩, HB3.out⟩, by simp [intOf]; omega⟩
    · obtain rfl : i = p := by omega
      have g1 : n / 10 ^ i = 0 := gx_end (by rw [HP.out]; exact Nat.le_refl _)
      have g2 : m / 10 ^ i = 0 := gx_end (by rw [HQ.out]; exact hqp)
      rw [g1, g2] at k4
      have hlt := vlX_lt k2
      rw [k3] at hlt
      have hb : b = 0 := by
        rcases Int.lt_or_le 0 b with g | g
        · obtain rfl : b = 1 := by omega
          have := HM.out
          simp at k4
          omega
        · omega
      subst hb
      have hv : vlX l = ((n - m : Nat) : Int) := by have := HM.out; simp at k4; omega
      have CT := Lib.hid (fun W hW => rtrim_X (W := W) k1 k3 k2 hv hW)
      clear k1 k2 k3 k4 hlt hv g1 g2
      go_wp2_with (go_at_call 148; (with_reducible refine (CT.out _ (Below.refl _ _)).mono ?_); rintro e w2 ⟨v, rfl, nv, B2, fr⟩)
      go_ret
      exact ⟨_, rfl, nv, hB.trans (B2.mono hB.size), fr⟩
end Go.Proofs.YtdnbhgkbfbgnaaaGreatDoor


namespace Go.Proofs.YtdnbhgkbfbgnaaaGreatDoor
open Go.RowKit

theorem rtrim_A {w W : World} {g i cp n : Nat} {l : List Int} (hA : ABlk w g l) (hl : l.length = i) (hd : DigX l) (hv : vlX l = n) (hc1 : i ≤ cp) (hc2 : cp ≤ 9223372036854775807) (hW : Below w.heap.size w W) :
    Calls Tryz.prog 148 #[.slice (some ⟨g, 0, none⟩) i cp] W fun e w' => ∃ v, e = .returned v ∧ XSl w' v n ∧ Below W.heap.size W w' := by
  have ht := trzX_grp hd
  rw [hv, Int.toNat_natCast] at ht
  have hA2 := hA.below hW hA.lt
  refine (rtrim_some l g 0 i cp W hl hc1 hc2 (ABlk.row (P := []) (S := []) (by simpa using hA2))).mono fun e w' ⟨he, q, hq⟩ => ⟨_, he, ?_, hq ▸ below_drewN (Below.refl _ _) q⟩
  rw [hq, ht]
  refine ISl.below (w := W) ?_ (below_drewN (Below.refl _ _) q)
  have hle := trz_len l
  rw [ht] at hle
  rw [show l = grpX n ++ l.drop (grpX n).length from by
    have h3 := trz_take l
    rw [ht] at h3
    rw [← List.take_append_drop (grpX n).length l, ← h3]; simp] at hA2
  exact ABlk.sl hA2 rfl (by omega) hc2
end Go.Proofs.YtdnbhgkbfbgnaaaGreatDoor



namespace Go.Proofs.YtdnbhgkbfbgnaaaGreatDoor
open Go.RowKit

theorem wpList_append_zeroX {w : World} {ops : Array Oper} {rest : List Oper} {o : Oper} {a : Act} {Q : Exit → Act → World → Prop} (hgd : o.guard = none) (s x : Operand)
    (ho : o.op = .call { callee := .builtin .append, args := #[s, x], argTypes := #[40, 40] }) (b n cp : Nat) (hs : a.eval s = .slice (some ⟨b, 0, none⟩) n cp) (ad : Option Addr) (c : Nat) (hx : a.eval x = .slice ad 0 c) (hn : n ≤ cp)
    (h : wpList Tryz.prog ops Q rest (a.put o.dst (.slice (some ⟨b, 0, none⟩) n cp)) w) : wpList Tryz.prog ops Q (o :: rest) a w :=
  wpList_plain hgd fun _ hK => by
    obtain ⟨i0, hi, _, hsz, _⟩ := info_parts info_int
    have hsrc : Src Tryz.prog i0.size 40 (.slice ad 0 c) 0 [] w := by
      cases ad with
      | none => exact Src.ofNil w Tryz.underlying40 c
      | some a => exact Src.ofSlice w Tryz.underlying40 a 0 c [] (by simp) (fun j u h => by simp at h) (fun _ h => by cases h)
    have hr := run_append_room_src w 40 40 o.type 3 i0 Tryz.underlying40 hi b 0 n cp (.slice ad 0 c) 0 [] hsrc (by omega) (fun j h => absurd h (by simp)) (fun j h => absurd h (by simp))
    unfold Oper.wp execOp
    simp only [ho, resolve, invoke, builtin, Sem.run_bind, Sem.run_pure, Result.andThen_ok, List.map_toArray, List.map_cons, List.map_nil, hs, hx, hr]
    exact hK _ _ h
theorem own_one {W : World} {base : Nat} (h : base ≤ W.heap.size) (x : Int) : (W.alloc (.cells #[.int .i64 x] 3)).ownsRow base 3 1 (.slice (some ⟨W.heap.size, 0, none⟩) 1 1) 1 (ints [x]) :=
  ⟨rfl, .inr ⟨W.heap.size, 1, #[.int .i64 x], rfl, h, World.alloc_heap_new W _, Nat.le_refl _, by unfold maxLen; omega, rfl, rfl⟩⟩

noncomputable def xvOf (w : World) (v : Value) : Nat := open Classical in if h : ∃ n, XSl w v n then h.choose else 0
theorem xvOf_eq {w : World} {v : Value} {n : Nat} (h : XSl w v n) : xvOf w v = n := by
  have hx : ∃ n, XSl w v n := ⟨n, h⟩
  rw [xvOf, dif_pos hx]
  exact grpX_inj (ISl.inj hx.choose_spec h)
theorem div_step (n d i R' : Nat) (hR : R' = (n / 10 ^ i) % 10 + 10 * ((n / 10 ^ (i + 1)) % d)) : (n / 10 ^ i) / d = 10 * ((n / 10 ^ (i + 1)) / d) + R' / d ∧ (n / 10 ^ i) % d = R' % d := by
  have h1 := gx_step n i
  have h2 := Nat.div_add_mod (n / 10 ^ (i + 1)) d
  have e : n / 10 ^ i = R' + d * (10 * ((n / 10 ^ (i + 1)) / d)) := by
    rw [hR]
    generalize n / 10 ^ (i + 1) = Z at *
    have e1 : d * (10 * (Z / d)) = 10 * (d * (Z / d)) := by rw [Nat.mul_left_comm]
    omega
  rcases Nat.eq_zero_or_pos d with h0 | h0
  · subst h0; simp at e ⊢; rw [e]
  · rw [e, Nat.add_mul_div_left _ _ h0, Nat.add_mul_mod_self_left]
    exact ⟨Nat.add_comm _ _, rfl⟩

set_option maxRecDepth 100000 in
set_option maxHeartbeats 4000000 in
theorem divided_any (n d : Nat) (v1 v2 : Value) (w : World) (hd : 0 < d) (hl1 : (grpX n).length ≤ 5000) (hl2 : (grpX d).length ≤ 5000) (h1 : XSl w v1 n) (h2 : XSl w v2 d) :
    Calls Tryz.prog 116 #[v1, v2] w fun e w' => ∃ u1 u2, e = .returned (.tuple #[u1, u2]) ∧ XSl w' u1 (n / d) ∧ XSl w' u2 (n % d) ∧ Below w.heap.size w w' := by
  obtain ⟨a1, c1, rfl⟩ := h1.form
  obtain ⟨p, hp⟩ : ∃ p, (grpX n).length = p := ⟨_, rfl⟩
  rw [hp] at h1 hl1 ⊢
  have H1 := Lib.hid h1
  have H2 := Lib.hid h2
  have HP := Lib.hid hp
  have HL2 := Lib.hid hl2
  have HD0 := Lib.hid hd
  obtain ⟨i0, hi, hz0', hz1, hz2⟩ := info_parts info_int
  have HBY := Lib.hid (show i0.bytes * p ≤ 281474976710656 by rw [hz2]; omega)
  have hmx : p ≤ maxLen := by unfold maxLen; omega
  have HZ := Lib.hid (show ∀ w', w'.ownsRow w.heap.size 3 1 (.slice (some ⟨w.heap.size, 0, none⟩) p p) p (madeCells (Value.int .i64 0).cells (p * 1)).toList → ABlk w' w.heap.size (List.replicate p 0) from fun w' h => by
    rw [made_zeros] at h
    exact (own_blk h).1)
  have HZ2 := Lib.hid hz2
  clear h1 h2 hp hz2 hl2 hd
  go_enter Tryz.func116, Tryz.ntmps116
  go_wp2_with (first | (refine wpList_make_full _ rfl (.tmp 10) (.tmp 10) 40 rfl w.heap.size 3 i0 (.int .i64 0) 1 Tryz.underlying40 hi hz0' hz1 .i64 .i64 _ _ p rfl rfl (by omega) (by omega) HBY.out hmx (Nat.le_refl _) ?_; intro w1 hown1 hgrow1; have hA1 := HZ.out w1 hown1; have hB1 := (Below.refl w.heap.size w).grown hgrow1 (Nat.le_refl _) (fun k e => by cases e); have HA1 := Lib.hid hA1; clear hown1 hgrow1 hA1))
  all_goals
    go_loopw [7, 8] (fun rv iv wr => ∃ (k : Nat) (ad : Option Addr) (cp : Nat), k ≤ p ∧ iv = .int .i64 ((k : Int) - 1) ∧ rv = .slice ad (grpX ((n / 10 ^ k) % d)).length cp ∧ Hid (XSl wr rv ((n / 10 ^ k) % d)) ∧ Hid (∃ L, ABlk wr w.heap.size L ∧ L.length = p ∧ DigX L ∧ vlX L = ((10 ^ k * ((n / 10 ^ k) / d) : Nat) : Int) ∧ ∀ j, j < k → L[j]? = some 0) ∧ Below w.heap.size w wr) (fun _ iv _ => (intOf iv + 1).toNat)
    case atStart =>
      have g0 : n / 10 ^ p = 0 := gx_end (by rw [HP.out]; exact Nat.le_refl _)
      refine ⟨p, none, 0, Nat.le_refl _, rfl, by rw [g0, Nat.zero_mod, grpX_zero]; rfl, Lib.hid (by rw [g0, Nat.zero_mod]; exact .inl ⟨_, _, rfl, grpX_zero⟩), Lib.hid ⟨_, HA1.out, by simp, (fun x hx => by rw [(List.mem_replicate.1 hx).2]; omega), by rw [vlX_zeros, g0, Nat.zero_div, Nat.mul_zero]; rfl, fun j hj => by rw [List.getElem?_replicate, if_pos hj]⟩, hB1⟩
    case round =>
      clear HA1 hB1
      obtain ⟨k, ad, cp, hk, rfl, rfl, hR, hI, hB⟩ := hrel
      by_cases h0 : k = 0
      · subst h0
        obtain ⟨L, k1, k2, k3, k4, _⟩ := hI.out
        have hR2 := hR.out
        rw [Nat.pow_zero, Nat.div_one] at hR2
        rw [Nat.pow_zero, Nat.div_one, Nat.one_mul] at k4
        have HR := Lib.hid hR2
        have CT := Lib.hid (fun W hW => rtrim_A (W := W) (cp := p) k1 k2 k3 k4 (Nat.le_refl _) (by omega) hW)
        rw [Nat.pow_zero, Nat.div_one]
        generalize (grpX (n % d)).length = z at *
        clear hI hR k1 k2 k3 k4 hR2
        go_wp2_with (go_at_call 148; (with_reducible refine (CT.out _ (Below.refl _ _)).mono ?_); rintro e w2 ⟨v, rfl, nv, B2⟩)
        go_ret2
        exact ⟨_, _, rfl, nv, HR.out.below B2, hB.trans (B2.mono hB.size)⟩
      · obtain ⟨i, rfl⟩ : ∃ i, k = i + 1 := ⟨k - 1, by omega⟩
        have hip : i < p := by omega
        obtain ⟨b1, o1, r1⟩ := (H1.out.below hB).at HP.out
        obtain ⟨rfl, x1, x2⟩ := r1 i hip
        obtain ⟨L, k1, k2, k3, k4, k5⟩ := hI.out
        obtain ⟨x, hx⟩ : ∃ x, (n / 10 ^ i) % 10 = x := ⟨_, rfl⟩
        obtain ⟨R, hRe⟩ : ∃ R, (n / 10 ^ (i + 1)) % d = R := ⟨_, rfl⟩
        have hRd : R < d := by rw [← hRe]; exact Nat.mod_lt _ HD0.out
        obtain ⟨R', hR'⟩ : ∃ R', R' = x + 10 * R := ⟨_, rfl⟩
        have hds := div_step n d i R' (by rw [hR', hx, hRe])
        have hx9 : x < 10 := by rw [← hx]; exact Nat.mod_lt _ (by decide)
        rw [hx] at x1
        rw [hRe] at hR ⊢
        have hR'd : R' < 10 * d := by omega
        have hRl : (grpX R).length ≤ 5000 := Nat.le_trans (grpX_mono (Nat.le_of_lt hRd)) HL2.out
        have hR'l : (grpX R').length ≤ 5001 := by
          have h9 : (grpX R').length ≤ (grpX d).length + 1 := by
            refine grpX_len ?_
            rw [Nat.pow_succ]
            have := grpX_lt d; omega
          have := HL2.out; omega
        have hvr : vlX ((x : Int) :: grpX R) = ((R' : Nat) : Int) := by rw [vlX, vlX_grp, hR']; omega
        have hdr : DigX ((x : Int) :: grpX R) := fun y hy => by
          rcases List.mem_cons.1 hy with g | g
          · rw [g]; omega
          · exact grpX_dig R y g
        have HQ := Lib.hid (show ∃ L, ABlk wr w.heap.size L ∧ L.length = p ∧ DigX L ∧ vlX L = ((10 ^ (i + 1) * ((n / 10 ^ (i + 1)) / d) : Nat) : Int) ∧ (∀ j, j < i → L[j]? = some 0) ∧ L[i]? = some 0 from ⟨L, k1, k2, k3, k4, fun j hj => k5 j (by omega), k5 i (by omega)⟩)
        have HDS := Lib.hid hds
        have HR := Lib.hid hR.out
        have HVR := Lib.hid (And.intro hvr hdr)
        have HBB := Lib.hid hB
        have hBA := hB.alloc hB.size (.cells #[.int .i64 (x : Int)] 3)
        have HBA := Lib.hid hBA
        -- the digit put ahead of the rest, trimmed
        have HXR := Lib.hid (show ∃ W9 : World → Prop, W9 = fun _ => True from ⟨_, rfl⟩)
        clear HXR hI hR k1 k2 k3 k4 k5 r1 hx hvr hdr hds hBA hRe
        obtain ⟨z, hz⟩ : ∃ z, (grpX R).length = z := ⟨_, rfl⟩
        have HZL := Lib.hid hz
        rw [hz] at hRl HR ⊢
        have CE := Lib.hid (show z = 0 → ∀ W, Below (wr.alloc (.cells #[.int .i64 (x : Int)] 3)).heap.size (wr.alloc (.cells #[.int .i64 (x : Int)] 3)) W → Calls Tryz.prog 148 #[.slice (some ⟨wr.heap.size, 0, none⟩) 1 1] W fun e w' => ∃ v, e = .returned v ∧ XSl w' v R' ∧ Below W.heap.size W w' from fun h0 W hW => by
          have hr0 : grpX R = [] := List.length_eq_zero_iff.1 (hz.trans h0)
          have h9 := HVR.out
          rw [hr0] at h9
          exact rtrim_A (g := wr.heap.size) ⟨[], World.alloc_heap_new wr _⟩ rfl h9.2 h9.1 (Nat.le_refl _) (by omega) hW)
        have CS := Lib.hid (show ∀ (W W2 : World) (g cap : Nat), W.ownsRow w.heap.size 3 1 (.slice (some ⟨g, 0, none⟩) (1 + z) cap) (1 + z) (ints [(x : Int)] ++ ints (grpX R)) → Below W.heap.size W W2 → Calls Tryz.prog 148 #[.slice (some ⟨g, 0, none⟩) (1 + z) cap] W2 fun e w' => ∃ v, e = .returned v ∧ XSl w' v R' ∧ Below W2.heap.size W2 w' from fun W W2 g cap ho hW => by
          rw [show ints [(x : Int)] ++ ints (grpX R) = ints ((x : Int) :: grpX R) by simp [ints]] at ho
          have hb := own_blk ho
          exact rtrim_A hb.1 hb.2.1 HVR.out.2 HVR.out.1 hb.2.2.1 hb.2.2.2.1 hW)
        clear hz
        by_cases hz0 : z = 0
        · subst hz0
          have HGO := Lib.hid (CE.out rfl _ (Below.refl _ _))
          clear CE CS HVR HR HZL
          go_upto_region 7 with (first | (at_builtin; go_loud (refine wpList_append_zeroX rfl (.tmp 23) (.tmp 24) rfl wr.heap.size 1 1 rfl ad cp rfl (by omega) ?_)) | (go_at_call 148; go_loud ((with_reducible refine HGO.out.mono ?_); rintro e w2 ⟨v, rfl, nv, B2⟩; have NV := Lib.hid nv; have BW := Lib.hid (HBA.out.trans (B2.mono HBA.out.size)); have BQ := Lib.hid ((below_alloc wr (.cells #[.int .i64 (x : Int)] 3)).trans (B2.mono (by simp))); clear nv B2)))
          have HQ2 := Lib.hid (show ∃ L, ABlk w2 w.heap.size L ∧ L.length = p ∧ DigX L ∧ vlX L = ((10 ^ (i + 1) * ((n / 10 ^ (i + 1)) / d) + 10 ^ i * 0 : Nat) : Int) ∧ (∀ j, j < i → L[j]? = some 0) ∧ L[i]? = some ((0 : Nat) : Int) from by
            obtain ⟨L, q1, q2, q3, q4, q5, q6⟩ := HQ.out
            exact ⟨L, q1.below BQ.out q1.lt, q2, q3, by rw [q4]; simp, q5, q6⟩)
          have hR'd2 := hR'd
          have hR'l2 := hR'l
          have HRR := Lib.hid (And.intro hR'd hR'l)
          clear x1 x2 hx9 hR'd hR'l hR'd2 hR'l2 hR'
          go_loopw [7] (fun rv wi => ∃ t : Nat, Hid (t * d ≤ R' ∧ XSl wi rv (R' - t * d)) ∧ Hid (∃ L, ABlk wi w.heap.size L ∧ L.length = p ∧ DigX L ∧ vlX L = ((10 ^ (i + 1) * ((n / 10 ^ (i + 1)) / d) + 10 ^ i * t : Nat) : Int) ∧ (∀ j, j < i → L[j]? = some 0) ∧ L[i]? = some ((t : Nat) : Int)) ∧ Below w.heap.size w wi) (fun rv wi => xvOf wi rv)
          case atStart => exact ⟨0, Lib.hid ⟨by omega, by rw [Nat.zero_mul, Nat.sub_zero]; exact NV.out⟩, HQ2, BW.out⟩
          case round =>
            clear HQ2
            obtain ⟨t, hX, hQ, hBi⟩ := hrel
            obtain ⟨r, hr⟩ : ∃ r, R' - t * d = r := ⟨_, rfl⟩
            have hle := hX.out.1
            have hXr := hX.out.2
            rw [hr] at hXr
            have hrR : r ≤ R' := by omega
            have hrl := Nat.le_trans (grpX_mono hrR) HRR.out.2
            have HV := Lib.hid (xvOf_eq hXr)
            by_cases hlt : r < d
            · have CO := Lib.hid (fun (W : World) (g1 : XSl W u7 r) (g2 : XSl W v2 d) => order_any r d u7 v2 W (by omega) (by have := HL2.out; omega) g1 g2)
              have hc : cmpN (r : Int) (d : Int) = -1 := by rw [cmpN, if_pos (by omega)]
              rw [hc] at CO
              have HXR := Lib.hid hXr
              have HX2 := Lib.hid (H2.out.below hBi)
              have hq1 : R' / d = t ∧ R' % d = r := by
                have e : R' = r + d * t := by rw [Nat.mul_comm d t]; omega
                rw [e, Nat.add_mul_div_left _ _ HD0.out, Nat.add_mul_mod_self_left, Nat.div_eq_of_lt hlt, Nat.mod_eq_of_lt hlt, Nat.zero_add]
                exact ⟨rfl, rfl⟩
              have HF := Lib.hid (show (n / 10 ^ i) % d = r ∧ ∃ L, ABlk wr w.heap.size L ∧ L.length = p ∧ DigX L ∧ vlX L = ((10 ^ i * ((n / 10 ^ i) / d) : Nat) : Int) ∧ ∀ j, j < i → L[j]? = some 0 from by
                obtain ⟨L, q1, q2, q3, q4, q5, q6⟩ := hQ.out
                refine ⟨by rw [HDS.out.2, hq1.2], L, q1, q2, q3, ?_, q5⟩
                rw [q4, HDS.out.1, hq1.1, Nat.mul_add, Nat.pow_succ, Nat.mul_assoc])
              clear hX hQ hle hXr hc hq1 hr hrR hrl HV
              go_wp2_with (go_at_call 120; go_loud ((with_reducible refine (CO.out _ HXR.out HX2.out).mono ?_); rintro e w5 ⟨rfl, B5⟩; have NX := Lib.hid (HXR.out.below B5); have BX := Lib.hid (hBi.trans (B5.mono hBi.size)); have B55 := Lib.hid B5; clear B5))
              obtain ⟨hF1, L, q1, q2, q3, q4, q5⟩ := HF.out
              obtain ⟨a9, c9, e9⟩ := NX.out.form
              refine ⟨⟨i, a9, c9, by omega, by go_num, by rw [hF1]; exact e9, Lib.hid (by rw [hF1]; exact NX.out), Lib.hid ⟨L, q1.below B55.out q1.lt, q2, q3, q4, q5⟩, BX.out⟩, by simp [intOf]⟩
            · have hge : d ≤ r := by omega
              have CO := Lib.hid (fun (W : World) (g1 : XSl W u7 r) (g2 : XSl W v2 d) => order_any r d u7 v2 W (by omega) (by have := HL2.out; omega) g1 g2)
              obtain ⟨z9, hz9⟩ : ∃ z, cmpN (r : Int) (d : Int) = z := ⟨_, rfl⟩
              have hz90 : 0 ≤ z9 := by rw [← hz9, cmpN, if_neg (by omega)]; split <;> omega
              rw [hz9] at CO
              have CM := Lib.hid (fun (W : World) (g1 : XSl W u7 r) (g2 : XSl W v2 d) => rminus_any r d u7 v2 W hge (by omega) g1 g2)
              have HXR := Lib.hid hXr
              have HX2 := Lib.hid (H2.out.below hBi)
              have ht1 : (t + 1) * d ≤ R' ∧ R' - (t + 1) * d = r - d := by rw [Nat.add_mul, Nat.one_mul]; omega
              have ht9 : t + 1 < 10 := by
                rcases Nat.lt_or_ge (t + 1) 10 with g | g
                · exact g
                · have := Nat.mul_le_mul_right d g; have := HRR.out.1; omega
              have HT := Lib.hid ht1
              have HQW := Lib.hid (show ∀ W, Below wr.heap.size wr W → ∃ L, ABlk W w.heap.size L ∧ L.length = p ∧ DigX L ∧ vlX L = ((10 ^ (i + 1) * ((n / 10 ^ (i + 1)) / d) + 10 ^ i * t : Nat) : Int) ∧ (∀ j, j < i → L[j]? = some 0) ∧ L[i]? = some ((t : Nat) : Int) from fun W hW => by
                obtain ⟨L, q1, q2, q3, q4, q5, q6⟩ := hQ.out
                exact ⟨L, q1.below hW q1.lt, q2, q3, q4, q5, q6⟩)
              have HGW := Lib.hid (show w.heap.size < wr.heap.size from by obtain ⟨L, q1, _⟩ := hQ.out; exact q1.lt)
              have hdec : r - d < r := by have := HD0.out; omega
              clear hX hQ hle hXr hr hrR hz9 ht1
              go_wp2_with (first | (go_at_call 120; go_loud ((with_reducible refine (CO.out _ HXR.out HX2.out).mono ?_); rintro e w5 ⟨rfl, B5⟩; have NX := Lib.hid (HXR.out.below B5); have NX2 := Lib.hid (HX2.out.below B5); have BX := Lib.hid (hBi.trans (B5.mono hBi.size)); have B55 := Lib.hid B5; clear B5)) | (go_at_call 118; go_loud ((with_reducible refine (CM.out _ NX.out NX2.out).mono ?_); rintro e w6 ⟨v6, rfl, n6, B6, fr⟩; have hgw := Nat.lt_of_lt_of_le (show w.heap.size < wr.heap.size from HGW.out) B55.out.size; have N6 := Lib.hid (n6.store (g := w.heap.size) (i := i) (x := .int .i64 ((t : Int) + 1)) (fun b o k c e h => by have := fr b o k c e h; omega)); clear fr hgw; have BX6 := Lib.hid (BX.out.trans (B6.mono BX.out.size)); obtain ⟨L, q1, q2, q3, q4, q5, q6⟩ := HQW.out _ (B55.out.trans (B6.mono B55.out.size)); have hcell := q1.cell q6; have hfree := q1.free i; have HQL := Lib.hid (And.intro q1 (And.intro q2 (And.intro q3 (And.intro q4 (And.intro q5 q6))))); clear n6 B6 q1 q2 q3 q4 q5 q6)))
              obtain ⟨q1, q2, q3, q4, q5, q6⟩ := HQL.out
              refine ⟨⟨t + 1, Lib.hid ⟨HT.out.1, ?_⟩, Lib.hid ⟨L.set i (((t + 1 : Nat)) : Int), q1.set i _, by rw [List.length_set]; exact q2, q3.set i (by omega), ?_, fun j hj => by rw [List.getElem?_set_ne (by omega)]; exact q5 j hj, by rw [List.getElem?_set_self (by omega)]⟩, BX6.out.setCell (p := ⟨w.heap.size, i, none⟩) (Nat.le_refl _) _⟩, ?_⟩
              · rw [HT.out.2]; exact N6.out
              · rw [vlX_set L i _ _ q6, q4, show (((t + 1 : Nat)) : Int) - (t : Int) = 1 by omega, Int.mul_one]
                have e : 10 ^ (i + 1) * ((n / 10 ^ (i + 1)) / d) + 10 ^ i * (t + 1) = (10 ^ (i + 1) * ((n / 10 ^ (i + 1)) / d) + 10 ^ i * t) + 10 ^ i := by rw [Nat.mul_add, Nat.mul_one, Nat.add_assoc]
                rw [e, Int.natCast_add (10 ^ (i + 1) * ((n / 10 ^ (i + 1)) / d) + 10 ^ i * t) (10 ^ i), Int.natCast_pow]; rfl
              · rw [xvOf_eq N6.out, HV.out]; exact hdec
        · have HROW := Lib.hid (show ∃ b o, ad = some ⟨b, o, none⟩ ∧ b < wr.heap.size ∧ IRow wr b o (grpX R) ∧ z ≤ cp from by
            rcases HR.out with ⟨_, _, e, e2⟩ | ⟨b, o, c', e, e1, _, e3, e4⟩
            · simp at e; omega
            · simp only [Value.slice.injEq] at e
              obtain ⟨rfl, e5, rfl⟩ := e
              exact ⟨b, o, rfl, e3, e4, by omega⟩)
          obtain ⟨b3, o3, rfl, hb3, hrow, hzc⟩ := HROW.out
          have HN := Lib.hid (show ∀ j u, (ints (grpX R))[j]? = some u → (wr.alloc (.cells #[.int .i64 (x : Int)] 3)).cell? ((⟨b3, o3, none⟩ : Addr).add j) = some u from IRow.news (hrow.below (below_alloc wr _) hb3))
          have HOO := Lib.hid (own_one (W := wr) HBB.out.size (x : Int))
          have HLL := Lib.hid (show (ints (grpX R)).length = z * 1 by rw [ints_len, HZL.out])
          clear CE HROW hrow HVR
          go_upto_region 7 with (first | (at_builtin; go_loud (refine wpList_append_lies _ rfl (.tmp 23) (.tmp 24) 40 rfl w.heap.size 3 i0 (.int .i64 0) 1 8 Tryz.underlying40 hi hz0' hz1 HZ2.out rfl (by decide) (.slice (some ⟨wr.heap.size, 0, none⟩) 1 1) 1 _ rfl HOO.out ⟨b3, o3, none⟩ z cp (ints (grpX R)) rfl HLL.out HN.out (ints_one _) (by omega) (by unfold maxLen; omega) (by omega) HBA.out.size _ rfl ?_; intro g4 cap4 w4 hown4 hgrow4 _ _; have HGO := Lib.hid (CS.out w4 w4 g4 cap4 hown4 (Below.refl _ _)); have BW4 := Lib.hid (HBA.out.grown hgrow4 HBA.out.size (fun q hq => by cases hq; exact HBB.out.size)); have BQ4 := Lib.hid ((below_alloc wr (.cells #[.int .i64 (x : Int)] 3)).grown hgrow4 (by simp) (fun q hq => by cases hq; exact Nat.le_refl _)); clear hown4 hgrow4)) | (go_at_call 148; go_loud ((with_reducible refine HGO.out.mono ?_); rintro e w2 ⟨v, rfl, nv, B2⟩; have NV := Lib.hid nv; have BW := Lib.hid (BW4.out.trans (B2.mono BW4.out.size)); have BQ := Lib.hid (BQ4.out.trans (B2.mono BQ4.out.size)); clear nv B2)))
          have HQ2 := Lib.hid (show ∃ L, ABlk w2 w.heap.size L ∧ L.length = p ∧ DigX L ∧ vlX L = ((10 ^ (i + 1) * ((n / 10 ^ (i + 1)) / d) + 10 ^ i * 0 : Nat) : Int) ∧ (∀ j, j < i → L[j]? = some 0) ∧ L[i]? = some ((0 : Nat) : Int) from by
            obtain ⟨L, q1, q2, q3, q4, q5, q6⟩ := HQ.out
            exact ⟨L, q1.below BQ.out q1.lt, q2, q3, by rw [q4]; simp, q5, q6⟩)
          have hR'd2 := hR'd
          have hR'l2 := hR'l
          have HRR := Lib.hid (And.intro hR'd hR'l)
          clear x1 x2 hx9 hR'd hR'l hR'd2 hR'l2 hR'
          go_loopw [7] (fun rv wi => ∃ t : Nat, Hid (t * d ≤ R' ∧ XSl wi rv (R' - t * d)) ∧ Hid (∃ L, ABlk wi w.heap.size L ∧ L.length = p ∧ DigX L ∧ vlX L = ((10 ^ (i + 1) * ((n / 10 ^ (i + 1)) / d) + 10 ^ i * t : Nat) : Int) ∧ (∀ j, j < i → L[j]? = some 0) ∧ L[i]? = some ((t : Nat) : Int)) ∧ Below w.heap.size w wi) (fun rv wi => xvOf wi rv)
          case atStart => exact ⟨0, Lib.hid ⟨by omega, by rw [Nat.zero_mul, Nat.sub_zero]; exact NV.out⟩, HQ2, BW.out⟩
          case round =>
            clear HQ2
            obtain ⟨t, hX, hQ, hBi⟩ := hrel
            obtain ⟨r, hr⟩ : ∃ r, R' - t * d = r := ⟨_, rfl⟩
            have hle := hX.out.1
            have hXr := hX.out.2
            rw [hr] at hXr
            have hrR : r ≤ R' := by omega
            have hrl := Nat.le_trans (grpX_mono hrR) HRR.out.2
            have HV := Lib.hid (xvOf_eq hXr)
            by_cases hlt : r < d
            · have CO := Lib.hid (fun (W : World) (g1 : XSl W u7 r) (g2 : XSl W v2 d) => order_any r d u7 v2 W (by omega) (by have := HL2.out; omega) g1 g2)
              have hc : cmpN (r : Int) (d : Int) = -1 := by rw [cmpN, if_pos (by omega)]
              rw [hc] at CO
              have HXR := Lib.hid hXr
              have HX2 := Lib.hid (H2.out.below hBi)
              have hq1 : R' / d = t ∧ R' % d = r := by
                have e : R' = r + d * t := by rw [Nat.mul_comm d t]; omega
                rw [e, Nat.add_mul_div_left _ _ HD0.out, Nat.add_mul_mod_self_left, Nat.div_eq_of_lt hlt, Nat.mod_eq_of_lt hlt, Nat.zero_add]
                exact ⟨rfl, rfl⟩
              have HF := Lib.hid (show (n / 10 ^ i) % d = r ∧ ∃ L, ABlk wr w.heap.size L ∧ L.length = p ∧ DigX L ∧ vlX L = ((10 ^ i * ((n / 10 ^ i) / d) : Nat) : Int) ∧ ∀ j, j < i → L[j]? = some 0 from by
                obtain ⟨L, q1, q2, q3, q4, q5, q6⟩ := hQ.out
                refine ⟨by rw [HDS.out.2, hq1.2], L, q1, q2, q3, ?_, q5⟩
                rw [q4, HDS.out.1, hq1.1, Nat.mul_add, Nat.pow_succ, Nat.mul_assoc])
              clear hX hQ hle hXr hc hq1 hr hrR hrl HV
              go_wp2_with (go_at_call 120; go_loud ((with_reducible refine (CO.out _ HXR.out HX2.out).mono ?_); rintro e w5 ⟨rfl, B5⟩; have NX := Lib.hid (HXR.out.below B5); have BX := Lib.hid (hBi.trans (B5.mono hBi.size)); have B55 := Lib.hid B5; clear B5))
              obtain ⟨hF1, L, q1, q2, q3, q4, q5⟩ := HF.out
              obtain ⟨a9, c9, e9⟩ := NX.out.form
              refine ⟨⟨i, a9, c9, by omega, by go_num, by rw [hF1]; exact e9, Lib.hid (by rw [hF1]; exact NX.out), Lib.hid ⟨L, q1.below B55.out q1.lt, q2, q3, q4, q5⟩, BX.out⟩, by simp [intOf]⟩
            · have hge : d ≤ r := by omega
              have CO := Lib.hid (fun (W : World) (g1 : XSl W u7 r) (g2 : XSl W v2 d) => order_any r d u7 v2 W (by omega) (by have := HL2.out; omega) g1 g2)
              obtain ⟨z9, hz9⟩ : ∃ z, cmpN (r : Int) (d : Int) = z := ⟨_, rfl⟩
              have hz90 : 0 ≤ z9 := by rw [← hz9, cmpN, if_neg (by omega)]; split <;> omega
              rw [hz9] at CO
              have CM := Lib.hid (fun (W : World) (g1 : XSl W u7 r) (g2 : XSl W v2 d) => rminus_any r d u7 v2 W hge (by omega) g1 g2)
              have HXR := Lib.hid hXr
              have HX2 := Lib.hid (H2.out.below hBi)
              have ht1 : (t + 1) * d ≤ R' ∧ R' - (t + 1) * d = r - d := by rw [Nat.add_mul, Nat.one_mul]; omega
              have ht9 : t + 1 < 10 := by
                rcases Nat.lt_or_ge (t + 1) 10 with g | g
                · exact g
                · have := Nat.mul_le_mul_right d g; have := HRR.out.1; omega
              have HT := Lib.hid ht1
              have HQW := Lib.hid (show ∀ W, Below wr.heap.size wr W → ∃ L, ABlk W w.heap.size L ∧ L.length = p ∧ DigX L ∧ vlX L = ((10 ^ (i + 1) * ((n / 10 ^ (i + 1)) / d) + 10 ^ i * t : Nat) : Int) ∧ (∀ j, j < i → L[j]? = some 0) ∧ L[i]? = some ((t : Nat) : Int) from fun W hW => by
                obtain ⟨L, q1, q2, q3, q4, q5, q6⟩ := hQ.out
                exact ⟨L, q1.below hW q1.lt, q2, q3, q4, q5, q6⟩)
              have HGW := Lib.hid (show w.heap.size < wr.heap.size from by obtain ⟨L, q1, _⟩ := hQ.out; exact q1.lt)
              have hdec : r - d < r := by have := HD0.out; omega
              clear hX hQ hle hXr hr hrR hz9 ht1
              go_wp2_with (first | (go_at_call 120; go_loud ((with_reducible refine (CO.out _ HXR.out HX2.out).mono ?_); rintro e w5 ⟨rfl, B5⟩; have NX := Lib.hid (HXR.out.below B5); have NX2 := Lib.hid (HX2.out.below B5); have BX := Lib.hid (hBi.trans (B5.mono hBi.size)); have B55 := Lib.hid B5; clear B5)) | (go_at_call 118; go_loud ((with_reducible refine (CM.out _ NX.out NX2.out).mono ?_); rintro e w6 ⟨v6, rfl, n6, B6, fr⟩; have hgw := Nat.lt_of_lt_of_le (show w.heap.size < wr.heap.size from HGW.out) B55.out.size; have N6 := Lib.hid (n6.store (g := w.heap.size) (i := i) (x := .int .i64 ((t : Int) + 1)) (fun b o k c e h => by have := fr b o k c e h; omega)); clear fr hgw; have BX6 := Lib.hid (BX.out.trans (B6.mono BX.out.size)); obtain ⟨L, q1, q2, q3, q4, q5, q6⟩ := HQW.out _ (B55.out.trans (B6.mono B55.out.size)); have hcell := q1.cell q6; have hfree := q1.free i; have HQL := Lib.hid (And.intro q1 (And.intro q2 (And.intro q3 (And.intro q4 (And.intro q5 q6))))); clear n6 B6 q1 q2 q3 q4 q5 q6)))
              obtain ⟨q1, q2, q3, q4, q5, q6⟩ := HQL.out
              refine ⟨⟨t + 1, Lib.hid ⟨HT.out.1, ?_⟩, Lib.hid ⟨L.set i (((t + 1 : Nat)) : Int), q1.set i _, by rw [List.length_set]; exact q2, q3.set i (by omega), ?_, fun j hj => by rw [List.getElem?_set_ne (by omega)]; exact q5 j hj, by rw [List.getElem?_set_self (by omega)]⟩, BX6.out.setCell (p := ⟨w.heap.size, i, none⟩) (Nat.le_refl _) _⟩, ?_⟩
              · rw [HT.out.2]; exact N6.out
              · rw [vlX_set L i _ _ q6, q4, show (((t + 1 : Nat)) : Int) - (t : Int) = 1 by omega, Int.mul_one]
                have e : 10 ^ (i + 1) * ((n / 10 ^ (i + 1)) / d) + 10 ^ i * (t + 1) = (10 ^ (i + 1) * ((n / 10 ^ (i + 1)) / d) + 10 ^ i * t) + 10 ^ i := by rw [Nat.mul_add, Nat.mul_one, Nat.add_assoc]
                rw [e, Int.natCast_add (10 ^ (i + 1) * ((n / 10 ^ (i + 1)) / d) + 10 ^ i * t) (10 ^ i), Int.natCast_pow]; rfl
              · rw [xvOf_eq N6.out, HV.out]; exact hdec
end Go.Proofs.YtdnbhgkbfbgnaaaGreatDoor


namespace Go.Proofs.YtdnbhgkbfbgnaaaGreatDoor
open Go.RowKit

set_option maxRecDepth 100000 in
set_option maxHeartbeats 1000000 in
theorem rtext_off (neg : Bool) (l : List Int) (b o n c : Nat) (B : Bool) (w : World) (hn : l.length = n) (hn0 : 0 < n) (hn9 : n ≤ 20000) (n2 : decide ((n : Int) ≤ 200) = B) (hnc : n ≤ c) (hd : DigX l) (hr : IRow w b o l) (hb : b < w.heap.size) :
    Calls Tryz.prog 119 #[.bool neg, .slice (some ⟨b, o, none⟩) n c] w fun e w' => e = .returned (.tuple #[.string ⟨((if neg then [45] else []) ++ lts l).toArray⟩, .bool B]) ∧ Below w.heap.size w w' := by
  have _ := hnc
  obtain ⟨i0, hi, hz0, hz1, hz2⟩ := info_parts info_u8
  have HN := Lib.hid hn
  have HD := Lib.hid hd
  have HR := Lib.hid hr
  have HZ2 := Lib.hid hz2
  have n0 : ((n : Int) == 0) = false := by rw [beq_eq_false_iff_ne]; omega
  clear hn hd hr hz2
  cases neg
  · go_enter Tryz.func119, Tryz.ntmps119
    go_wp2
    all_goals
      go_loopw [6, 7] (fun ov iv wr => ∃ (k : Nat) (ad : Option Addr) (cp : Nat), k ≤ n ∧ ov = .slice ad (n - k) cp ∧ iv = .int .i64 ((k : Int) - 1) ∧ Hid (wr.ownsRow w.heap.size 5 1 ov (n - k) (([] ++ wr4 (l.drop k)).map (Value.int .u8))) ∧ Below w.heap.size w wr) (fun _ i _ => (intOf i + 1).toNat)
      case atStart => exact ⟨n, _, _, Nat.le_refl _, by rw [Nat.sub_self], rfl, Lib.hid (by rw [List.drop_eq_nil_of_le (by rw [HN.out]; exact Nat.le_refl _), Nat.sub_self]; exact ⟨rfl, .inl ⟨rfl, rfl⟩⟩), Below.refl _ _⟩
      case round =>
        obtain ⟨k, ad, cp, hk, rfl, rfl, hO, hB⟩ := hrel
        by_cases h0 : k = 0
        · subst h0
          have hO2 := hO.out
          rw [List.drop_zero, Nat.sub_zero] at hO2
          obtain ⟨g, cap, hsl, hgb, hU⟩ := own_bytes hO2 (by omega)
          simp only [Value.slice.injEq] at hsl
          obtain ⟨rfl, _, rfl⟩ := hsl
          rw [wr4_lts HD.out, show ([] : List Int) = ([] : List UInt8).map (fun b => (b.toNat : Int)) from rfl, ← List.map_append] at hU
          have hll : (([] : List UInt8) ++ lts l).length = n := by rw [List.length_append, lts_len, HN.out]; simp
          have hcv := run_convert_bytes_back (P := Tryz.prog) wr 48 9 5 ⟨g, 0, none⟩ cp (([] : List UInt8) ++ lts l) Tryz.underlying48 Tryz.underlying5 Tryz.underlying9 (fun j hj => by
            rw [Addr.add_mid]
            exact hU.cell (by rw [List.getElem?_map, List.getElem?_eq_getElem (by omega)]; simp))
          rw [hll] at hcv
          generalize HGEN : (([] : List UInt8) ++ lts l).toArray = S at *
          have HG := Lib.hid HGEN
          clear hO hO2 hU hll HGEN
          go_wp2
          go_ret2
          exact ⟨by rw [← HG.out]; rfl, hB⟩
        · obtain ⟨m, rfl⟩ : ∃ m, k = m + 1 := ⟨k - 1, by omega⟩
          have k1 : m < l.length := by rw [HN.out]; omega
          have hx : wr.cell? ⟨b, o + m, none⟩ = some (.int .i64 l[m]) := by have := (HR.out.below hB hb) m _ (List.getElem?_eq_getElem k1); exact this
          have hxd := HD.out _ (List.getElem_mem k1)
          have hdr := List.drop_eq_getElem_cons k1
          generalize l[m] = x at *
          have ew : IntKind.u8.wrap (48 + x) = 48 + x := by simp [IntKind.wrap, IntKind.bits, IntKind.signed]; omega
          have HO := Lib.hid (hO.out.alloc (.cells #[.int .u8 (48 + x)] 5))
          have hO3 : ∀ (w3 : World) (v3 : Value), w3.ownsRow w.heap.size 5 1 v3 ((n - (m + 1)) + 1) (([] ++ wr4 (l.drop (m + 1))).map (Value.int .u8) ++ [.int .u8 (48 + x)]) → w3.ownsRow w.heap.size 5 1 v3 (n - m) (([] ++ wr4 (l.drop m)).map (Value.int .u8)) := fun w3 v3 h => by
            rw [show (n - (m + 1)) + 1 = (n - m) by omega] at h
            rw [hdr, wr4_cons]
            simpa using h
          have HO3 := Lib.hid hO3
          have HBA := Lib.hid (hB.alloc hB.size (.cells #[.int .u8 (48 + x)] 5))
          have hob : ∀ q, (Value.slice ad (n - (m + 1)) cp).ownBlock = some q → w.heap.size ≤ q := fun q hq => own_block hO.out hq
          have HOB := Lib.hid hob
          have x0 := hxd.1
          have x9 := hxd.2
          clear hxd hdr hO3 hob hO hB k1
          go_wp2_with (at_builtin; go_loud (refine wpList_append_lies _ rfl (.tmp 22) (.tmp 29) 48 rfl w.heap.size 5 i0 (.int .u8 0) 1 1 Tryz.underlying48 hi hz0 hz1 HZ2.out rfl (by decide) (.slice ad (n - (m + 1)) cp) _ _ rfl HO.out ⟨wr.heap.size, 0, none⟩ 1 1 [.int .u8 (48 + x)] rfl rfl (one_newB wr _) (by intro u hu; simp at hu; subst hu; rfl) (by decide) (by unfold maxLen; omega) (by omega) HBA.out.size _ rfl ?_; intro g2 cap2 w3 hown3 hgrow _ _; have HOW := Lib.hid (HO3.out w3 _ hown3); have HB3 := Lib.hid (HBA.out.grown hgrow HBA.out.size (fun q hq => HOB.out q hq)); clear hown3 hgrow))
          exact ⟨⟨m, _, _, by omega, by congr 1; omega, by go_num, HOW, HB3.out⟩, by simp [intOf]⟩
  · go_enter Tryz.func119, Tryz.ntmps119
    have hOW : w.ownsRow w.heap.size 5 1 (.slice none 0 0) 0 [] := ⟨rfl, .inl ⟨rfl, rfl⟩⟩
    have HOW0 := Lib.hid (hOW.alloc (.cells #[.int .u8 45] 5))
    clear hOW
    have HBA := Lib.hid (below_alloc w (.cells #[.int .u8 45] 5))
    go_wp2_with (at_builtin; go_loud (refine wpList_append_lies _ rfl (.tmp 12) (.tmp 13) 48 rfl w.heap.size 5 i0 (.int .u8 0) 1 1 Tryz.underlying48 hi hz0 hz1 HZ2.out rfl (by decide) (.slice none 0 0) 0 [] rfl HOW0.out ⟨w.heap.size, 0, none⟩ 1 1 [.int .u8 45] rfl rfl (one_newB w _) (by intro u hu; simp at hu; subst hu; rfl) (by decide) (by unfold maxLen; omega) (by omega) HBA.out.size _ rfl ?_; intro g1 cap1 w1 hown1 hgrow1 _ _; have HO1 := Lib.hid hown1; have HB1 := Lib.hid (HBA.out.grown hgrow1 HBA.out.size (fun q hq => by cases hq)); clear hown1 hgrow1))
    all_goals
      go_loopw [6, 7] (fun ov iv wr => ∃ (k : Nat) (ad : Option Addr) (cp : Nat), k ≤ n ∧ ov = .slice ad (1 + (n - k)) cp ∧ iv = .int .i64 ((k : Int) - 1) ∧ Hid (wr.ownsRow w.heap.size 5 1 ov (1 + (n - k)) (([45] ++ wr4 (l.drop k)).map (Value.int .u8))) ∧ Below w.heap.size w wr) (fun _ i _ => (intOf i + 1).toNat)
      case atStart => exact ⟨n, _, _, Nat.le_refl _, by rw [Nat.sub_self], rfl, Lib.hid (by rw [List.drop_eq_nil_of_le (by rw [HN.out]; exact Nat.le_refl _), Nat.sub_self]; simpa [wr4] using HO1.out), HB1.out⟩
      case round =>
        clear HO1 HB1 HOW0 HBA
        obtain ⟨k, ad, cp, hk, rfl, rfl, hO, hB⟩ := hrel
        by_cases h0 : k = 0
        · subst h0
          have hO2 := hO.out
          rw [List.drop_zero, Nat.sub_zero] at hO2
          obtain ⟨g, cap, hsl, hgb, hU⟩ := own_bytes hO2 (by omega)
          simp only [Value.slice.injEq] at hsl
          obtain ⟨rfl, _, rfl⟩ := hsl
          rw [wr4_lts HD.out, show ([45] : List Int) = ([45] : List UInt8).map (fun b => (b.toNat : Int)) from rfl, ← List.map_append] at hU
          have hll : (([45] : List UInt8) ++ lts l).length = (1 + n) := by rw [List.length_append, lts_len, HN.out]; simp
          have hcv := run_convert_bytes_back (P := Tryz.prog) wr 48 9 5 ⟨g, 0, none⟩ cp (([45] : List UInt8) ++ lts l) Tryz.underlying48 Tryz.underlying5 Tryz.underlying9 (fun j hj => by
            rw [Addr.add_mid]
            exact hU.cell (by rw [List.getElem?_map, List.getElem?_eq_getElem (by omega)]; simp))
          rw [hll] at hcv
          generalize HGEN : (([45] : List UInt8) ++ lts l).toArray = S at *
          have HG := Lib.hid HGEN
          clear hO hO2 hU hll HGEN
          go_wp2
          go_ret2
          exact ⟨by rw [← HG.out]; rfl, hB⟩
        · obtain ⟨m, rfl⟩ : ∃ m, k = m + 1 := ⟨k - 1, by omega⟩
          have k1 : m < l.length := by rw [HN.out]; omega
          have hx : wr.cell? ⟨b, o + m, none⟩ = some (.int .i64 l[m]) := by have := (HR.out.below hB hb) m _ (List.getElem?_eq_getElem k1); exact this
          have hxd := HD.out _ (List.getElem_mem k1)
          have hdr := List.drop_eq_getElem_cons k1
          generalize l[m] = x at *
          have ew : IntKind.u8.wrap (48 + x) = 48 + x := by simp [IntKind.wrap, IntKind.bits, IntKind.signed]; omega
          have HO := Lib.hid (hO.out.alloc (.cells #[.int .u8 (48 + x)] 5))
          have hO3 : ∀ (w3 : World) (v3 : Value), w3.ownsRow w.heap.size 5 1 v3 ((1 + (n - (m + 1))) + 1) (([45] ++ wr4 (l.drop (m + 1))).map (Value.int .u8) ++ [.int .u8 (48 + x)]) → w3.ownsRow w.heap.size 5 1 v3 (1 + (n - m)) (([45] ++ wr4 (l.drop m)).map (Value.int .u8)) := fun w3 v3 h => by
            rw [show (1 + (n - (m + 1))) + 1 = (1 + (n - m)) by omega] at h
            rw [hdr, wr4_cons]
            simpa using h
          have HO3 := Lib.hid hO3
          have HBA := Lib.hid (hB.alloc hB.size (.cells #[.int .u8 (48 + x)] 5))
          have hob : ∀ q, (Value.slice ad (1 + (n - (m + 1))) cp).ownBlock = some q → w.heap.size ≤ q := fun q hq => own_block hO.out hq
          have HOB := Lib.hid hob
          have x0 := hxd.1
          have x9 := hxd.2
          clear hxd hdr hO3 hob hO hB k1
          go_wp2_with (at_builtin; go_loud (refine wpList_append_lies _ rfl (.tmp 22) (.tmp 29) 48 rfl w.heap.size 5 i0 (.int .u8 0) 1 1 Tryz.underlying48 hi hz0 hz1 HZ2.out rfl (by decide) (.slice ad (1 + (n - (m + 1))) cp) _ _ rfl HO.out ⟨wr.heap.size, 0, none⟩ 1 1 [.int .u8 (48 + x)] rfl rfl (one_newB wr _) (by intro u hu; simp at hu; subst hu; rfl) (by decide) (by unfold maxLen; omega) (by omega) HBA.out.size _ rfl ?_; intro g2 cap2 w3 hown3 hgrow _ _; have HOW := Lib.hid (HO3.out w3 _ hown3); have HB3 := Lib.hid (HBA.out.grown hgrow HBA.out.size (fun q hq => HOB.out q hq)); clear hown3 hgrow))
          exact ⟨⟨m, _, _, by omega, by congr 1; omega, by go_num, HOW, HB3.out⟩, by simp [intOf]⟩


theorem gx_200 (n : Nat) : decide (((grpX n).length : Int) ≤ 200) = decide (n < 10 ^ 200) := by
  have h := gx_len n 200
  rw [decide_eq_decide]
  omega
theorem mz_zero (neg : Bool) : mz neg 0 = 0 := by cases neg <;> rfl
theorem mz_abs (neg : Bool) (n : Nat) : (mz neg n).natAbs = n := by unfold mz; cases neg <;> simp
theorem rtext_G (neg : Bool) (n : Nat) (v : Value) (w : World) (hl : (grpX n).length ≤ 20000) (h : XSl w v n) :
    Calls Tryz.prog 119 #[.bool neg, v] w fun e w' => e = .returned (.tuple #[.string (S (mz neg n)), .bool (decide (n < 10 ^ 200))]) ∧ Below w.heap.size w w' := by
  by_cases h0 : n = 0
  · subst h0
    obtain ⟨a, c, rfl⟩ := h.form
    rw [grpX_zero]
    refine (rtext_zero neg a c w).mono fun e w' h => ⟨?_, h.2 ▸ Below.refl _ _⟩
    rw [h.1, mz_zero, S_zero, show decide ((0 : Nat) < 10 ^ 200) = true from by decide]
  · have hpos : 0 < (grpX n).length := (gx_len n 0).2 (by omega)
    rcases h with ⟨a, c, rfl, e⟩ | ⟨b, o, c, rfl, h1, h2, h3, h4⟩
    · rw [e] at hpos; simp at hpos
    · refine (rtext_off neg (grpX n) b o _ c _ w rfl hpos hl (gx_200 n) (by omega) (grpX_dig n) h4 h3).mono fun e w' h => ⟨?_, h.2⟩
      rw [h.1, made_text neg n h0]; rfl
set_option maxRecDepth 100000 in
theorem checked_any (neg : Bool) (n : Nat) (v : Value) (w : World) (hl : (grpX n).length ≤ 20000) (h : XSl w v n) :
    Calls Tryz.prog 109 #[.bool neg, v] w fun e w' => e = .returned (.tuple #[.string ⟨(rs (mz neg n)).toArray⟩, .int .i64 (er (mz neg n))]) ∧ Below w.heap.size w w' := by
  have cT := rtext_G neg n v w hl h
  rw [rs, er, mz_abs]
  by_cases h9 : n < 10 ^ 200
  · rw [if_pos h9, if_pos h9, show (⟨(txt (mz neg n)).toArray⟩ : ByteArray) = S (mz neg n) from rfl]
    rw [decide_eq_true h9] at cT
    generalize S (mz neg n) = T at *
    have CT := Lib.hid cT
    clear cT h h9 hl
    go_enter Tryz.func109, Tryz.ntmps109
    go_wp2_with (go_at_call 119; (with_reducible refine CT.out.mono ?_); rintro e w1 ⟨rfl, B1⟩)
    go_ret2
    exact ⟨rfl, B1⟩
  · rw [if_neg h9, if_neg h9]
    rw [decide_eq_false h9] at cT
    generalize S (mz neg n) = T at *
    have CT := Lib.hid cT
    clear cT h h9 hl
    go_enter Tryz.func109, Tryz.ntmps109
    go_wp2_with (go_at_call 119; (with_reducible refine CT.out.mono ?_); rintro e w1 ⟨rfl, B1⟩)
    go_ret2
    exact ⟨rfl, B1⟩
end Go.Proofs.YtdnbhgkbfbgnaaaGreatDoor


namespace Go.Proofs.YtdnbhgkbfbgnaaaGreatDoor
open Go.RowKit

theorem mz_num (z : Int) : z = mz (decide (z < 0)) z.natAbs := by
  unfold mz
  by_cases h : z < 0
  · rw [decide_eq_true h, if_pos rfl]; omega
  · rw [decide_eq_false h]; simp; omega
theorem gx_le {n k : Nat} (h : n < 10 ^ k) (hk : k ≤ 5000) : (grpX n).length ≤ 5000 := Nat.le_trans (grpX_len h) hk
/-- an integer's sign and digits, read off a valid string -/
theorem digits_lit (s : ByteArray) (L : List UInt8) (w : World) (hL : s.data.toList = L) (hv : vld L = true) :
    Calls Tryz.prog 107 #[.string s] w fun e w' => ∃ v, e = .returned (.tuple #[.bool (decide (num L < 0)), v]) ∧ XSl w' v (num L).natAbs ∧ Below w.heap.size w w' := by
  have h := digits_any (num L) w (vld_txt hv).2
  rw [S_lit hv] at h
  have : s = ⟨L.toArray⟩ := by rw [← hL]
  rw [this]; exact h
set_option maxRecDepth 100000 in
set_option maxHeartbeats 1000000 in
theorem rsum_any (x y : Bool) (k l : Nat) (v1 v2 : Value) (w : World) (hk : k < 10 ^ 200) (hl : l < 10 ^ 200) (h1 : XSl w v1 k) (h2 : XSl w v2 l) :
    Calls Tryz.prog 108 #[.bool x, v1, .bool y, v2] w fun e w' => e = .returned (.tuple #[.string ⟨(rs (mz x k + mz y l)).toArray⟩, .int .i64 (er (mz x k + mz y l))]) ∧ Below w.heap.size w w' := by
  have gk : (grpX k).length ≤ 5000 := gx_le hk (by decide)
  have gl : (grpX l).length ≤ 5000 := gx_le hl (by decide)
  have fin : ∀ (neg : Bool) (n : Nat), n < 10 ^ 201 → mz neg n = mz x k + mz y l → ∀ W v, XSl W v n → Calls Tryz.prog 109 #[.bool neg, v] W fun e w' => e = .returned (.tuple #[.string ⟨(rs (mz x k + mz y l)).toArray⟩, .int .i64 (er (mz x k + mz y l))]) ∧ Below W.heap.size W w' := fun neg n hn e W v h => by
    have h := checked_any neg n v W (Nat.le_trans (grpX_len hn) (by decide)) h
    rwa [e] at h
  have sm : ∀ (W : World), Below w.heap.size w W → Calls Tryz.prog 117 #[v1, v2] W fun e w' => ∃ v, e = .returned v ∧ XSl w' v (k + l) ∧ Below W.heap.size W w' := fun W hb => rplus_any k l v1 v2 W (by omega) (by omega) (h1.below hb) (h2.below hb)
  have mk : l ≤ k → ∀ (W : World), Below w.heap.size w W → Calls Tryz.prog 118 #[v1, v2] W fun e w' => ∃ v, e = .returned v ∧ XSl w' v (k - l) ∧ Below W.heap.size W w' := fun hkl W hb => (rminus_any k l v1 v2 W hkl (by omega) (h1.below hb) (h2.below hb)).mono fun e w' ⟨v, a, b, c, _⟩ => ⟨v, a, b, c⟩
  have ml : k ≤ l → ∀ (W : World), Below w.heap.size w W → Calls Tryz.prog 118 #[v2, v1] W fun e w' => ∃ v, e = .returned v ∧ XSl w' v (l - k) ∧ Below W.heap.size W w' := fun hkl W hb => (rminus_any l k v2 v1 W hkl (by omega) (h2.below hb) (h1.below hb)).mono fun e w' ⟨v, a, b, c, _⟩ => ⟨v, a, b, c⟩
  have co := order_any k l v1 v2 w (by omega) (by omega) h1 h2
  have hxy : x = y → mz x (k + l) = mz x k + mz y l := fun h => by subst h; unfold mz; cases x <;> simp <;> omega
  have hxk : x ≠ y → l ≤ k → mz x (k - l) = mz x k + mz y l := fun h g => by unfold mz; cases x <;> cases y <;> simp at h ⊢ <;> omega
  have hxl : x ≠ y → k ≤ l → mz y (l - k) = mz x k + mz y l := fun h g => by unfold mz; cases x <;> cases y <;> simp at h ⊢ <;> omega
  generalize (rs (mz x k + mz y l)).toArray = R at *
  generalize er (mz x k + mz y l) = E at *
  by_cases hb : x = y
  · have CF := Lib.hid (fin x (k + l) (by omega) (hxy hb))
    have SM := Lib.hid (sm w (Below.refl _ _))
    subst hb
    clear fin sm mk ml co hxy hxk hxl h1 h2 gk gl hk hl
    cases x <;>
    (go_enter Tryz.func108, Tryz.ntmps108
     go_wp2_with (first | (go_at_call 117; (with_reducible refine SM.out.mono ?_); rintro e w1 ⟨v, rfl, nv, B1⟩; have CG := Lib.hid (CF.out w1 v nv); clear CF nv) | (go_at_call 109; (with_reducible refine CG.out.mono ?_); rintro e w2 ⟨rfl, B2⟩))
     go_ret2
     exact ⟨rfl, B1.trans (B2.mono B1.size)⟩)
  · by_cases hkl : l ≤ k
    · have CF := Lib.hid (fin x (k - l) (by omega) (hxk hb hkl))
      have SM := Lib.hid (mk hkl)
      obtain ⟨c, hc, hc0⟩ : ∃ c : Int, cmpN (k : Int) l = c ∧ 0 ≤ c := ⟨_, rfl, by unfold cmpN; split; omega; split <;> omega⟩
      rw [hc] at co
      have CO := Lib.hid co
      clear fin sm mk ml co hxy hxk hxl h1 h2 gk gl hk hl hc
      cases x <;> cases y <;> first | exact absurd rfl hb |
      (go_enter Tryz.func108, Tryz.ntmps108
       go_wp2_with (first | (go_at_call 120; (with_reducible refine CO.out.mono ?_); rintro e w0 ⟨rfl, B0⟩; have SM0 := Lib.hid (SM.out w0 B0); clear SM) | (go_at_call 118; (with_reducible refine SM0.out.mono ?_); rintro e w1 ⟨v, rfl, nv, B1⟩; have CG := Lib.hid (CF.out w1 v nv); clear CF nv) | (go_at_call 109; (with_reducible refine CG.out.mono ?_); rintro e w2 ⟨rfl, B2⟩))
       go_ret2
       exact ⟨rfl, B0.trans ((B1.trans (B2.mono B1.size)).mono B0.size)⟩)
    · have CF := Lib.hid (fin y (l - k) (by omega) (hxl hb (by omega)))
      have SM := Lib.hid (ml (by omega))
      have hc : cmpN (k : Int) l = -1 := by rw [cmpN, if_pos (by omega)]
      rw [hc] at co
      have CO := Lib.hid co
      clear fin sm mk ml co hxy hxk hxl h1 h2 gk gl hk hl hc hkl
      cases x <;> cases y <;> first | exact absurd rfl hb |
      (go_enter Tryz.func108, Tryz.ntmps108
       go_wp2_with (first | (go_at_call 120; (with_reducible refine CO.out.mono ?_); rintro e w0 ⟨rfl, B0⟩; have SM0 := Lib.hid (SM.out w0 B0); clear SM) | (go_at_call 118; (with_reducible refine SM0.out.mono ?_); rintro e w1 ⟨v, rfl, nv, B1⟩; have CG := Lib.hid (CF.out w1 v nv); clear CF nv) | (go_at_call 109; (with_reducible refine CG.out.mono ?_); rintro e w2 ⟨rfl, B2⟩))
       go_ret2
       exact ⟨rfl, B0.trans ((B1.trans (B2.mono B1.size)).mono B0.size)⟩)

theorem mz_not (b : Bool) (n : Nat) : mz (!b) n = - mz b n := by unfold mz; cases b <;> simp
set_option maxRecDepth 100000 in
set_option maxHeartbeats 2000000 in
theorem rSub_ok (s1 s2 : ByteArray) (L1 L2 : List UInt8) (w : World) (hL1 : s1.data.toList = L1) (hL2 : s2.data.toList = L2) (hl1 : vld L1 = true) (hl2 : vld L2 = true) :
    Calls Tryz.prog 58 #[.string s1, .string s2] w fun e w' => e = .returned (.tuple #[.string ⟨(rs (num L1 - num L2)).toArray⟩, .int .i64 (er (num L1 - num L2))]) ∧ Below w.heap.size w w' := by
  have cv1 := fun W => rValid_any s1 L1 W hL1 (by have := (vld_digits hl1).2.2; omega)
  have cv2 := fun W => rValid_any s2 L2 W hL2 (by have := (vld_digits hl2).2.2; omega)
  rw [hl1] at cv1
  rw [hl2] at cv2
  have CV1 := Lib.hid cv1
  have CV2 := Lib.hid cv2
  have cd1 := fun W => digits_lit s1 L1 W hL1 hl1
  have cd2 := fun W => digits_lit s2 L2 W hL2 hl2
  have k1 := (vld_txt hl1).2
  have k2 := (vld_txt hl2).2
  have e1 := mz_num (num L1)
  have e2 := mz_num (num L2)
  have cs : ∀ W v1 v2, XSl W v1 (num L1).natAbs → XSl W v2 (num L2).natAbs → Calls Tryz.prog 108 #[.bool (decide (num L1 < 0)), v1, .bool (!decide (num L2 < 0)), v2] W fun e w' => e = .returned (.tuple #[.string ⟨(rs (num L1 - num L2)).toArray⟩, .int .i64 (er (num L1 - num L2))]) ∧ Below W.heap.size W w' := fun W v1 v2 h1 h2 => by
    have h := rsum_any (decide (num L1 < 0)) (!decide (num L2 < 0)) _ _ v1 v2 W k1 k2 h1 h2
    rwa [← mz_num, mz_not, ← mz_num, ← Int.sub_eq_add_neg] at h
  clear e1 e2
  generalize (rs (num L1 - num L2)).toArray = R at *
  generalize er (num L1 - num L2) = E at *
  generalize decide (num L1 < 0) = x at *
  generalize decide (num L2 < 0) = y at *
  generalize (num L1).natAbs = k at *
  generalize (num L2).natAbs = l at *
  have CD1 := Lib.hid cd1
  have CD2 := Lib.hid cd2
  have CS := Lib.hid cs
  clear cv1 cv2 cd1 cd2 cs hL1 hL2 hl1 hl2 k1 k2
  go_enter Tryz.func58, Tryz.ntmps58
  go_wp2_with (first | (go_at_call 73; (first | (with_reducible refine (CV1.out _).mono ?_) | (with_reducible refine (CV2.out _).mono ?_)); rintro e w1 ⟨rfl, rfl⟩) | (go_at_call 107; (with_reducible refine (CD1.out _).mono ?_); rintro e w2 ⟨v1, rfl, n1, B1⟩) | (go_at_call 107; (with_reducible refine (CD2.out _).mono ?_); rintro e w3 ⟨v2, rfl, n2, B2⟩; have m1 := n1.below B2; clear n1) | (go_at_call 108; (with_reducible refine (CS.out _ _ _ m1 n2).mono ?_); rintro e w4 ⟨rfl, B3⟩))
  go_ret2
  exact ⟨rfl, B1.trans ((B2.trans (B3.mono B2.size)).mono B1.size)⟩

theorem cmp_neg (a b : Nat) : cmpN (-(a : Int)) (-(b : Int)) = cmpN (b : Int) a := by
  unfold cmpN
  rcases Nat.lt_trichotomy a b with h | h | h
  · rw [if_neg (by omega), if_pos (by omega), if_neg (by omega), if_pos (by omega)]
  · rw [if_neg (by omega), if_neg (by omega), if_neg (by omega), if_neg (by omega)]
  · rw [if_pos (by omega), if_pos (by omega)]
theorem neg_div (k l : Nat) (hl : 0 < l) (hr : 0 < k % l) : (-(k : Int)) / l = -((k / l + 1 : Nat) : Int) ∧ (-(k : Int)) % l = ((l - k % l : Nat) : Int) := by
  have h1 := Nat.div_add_mod k l
  have h2 := Nat.mod_lt k hl
  refine (Int.ediv_emod_unique (by omega)).2 ⟨?_, by omega, by omega⟩
  generalize k / l = q at *
  generalize k % l = r at *
  subst h1
  push_cast [Nat.le_of_lt h2]
  rw [Int.mul_neg, Int.mul_add]
  omega
theorem neg_div0 (k l : Nat) (hl : 0 < l) (hr : k % l = 0) : (-(k : Int)) / l = -((k / l : Nat) : Int) ∧ (-(k : Int)) % l = 0 := by
  have h1 := Nat.div_add_mod k l
  refine (Int.ediv_emod_unique (by omega)).2 ⟨?_, by omega, by omega⟩
  rw [hr] at h1
  generalize k / l = q at *
  subst h1
  push_cast
  rw [Int.mul_neg]
  omega
set_option maxRecDepth 100000 in
set_option maxHeartbeats 2000000 in
theorem rCompare_ok (s1 s2 : ByteArray) (L1 L2 : List UInt8) (w : World) (hL1 : s1.data.toList = L1) (hL2 : s2.data.toList = L2) (hl1 : vld L1 = true) (hl2 : vld L2 = true) :
    Calls Tryz.prog 63 #[.string s1, .string s2] w fun e w' => e = .returned (.int .i64 (cmpN (num L1) (num L2))) ∧ Below w.heap.size w w' := by
  have cv1 := fun W => rValid_any s1 L1 W hL1 (by have := (vld_digits hl1).2.2; omega)
  have cv2 := fun W => rValid_any s2 L2 W hL2 (by have := (vld_digits hl2).2.2; omega)
  rw [hl1] at cv1
  rw [hl2] at cv2
  have CV1 := Lib.hid cv1
  have CV2 := Lib.hid cv2
  have cd1 := fun W => digits_lit s1 L1 W hL1 hl1
  have cd2 := fun W => digits_lit s2 L2 W hL2 hl2
  have k1 := (vld_txt hl1).2
  have k2 := (vld_txt hl2).2
  have co : ∀ W v1 v2, XSl W v1 (num L1).natAbs → XSl W v2 (num L2).natAbs → Calls Tryz.prog 120 #[v1, v2] W fun e w' => e = .returned (.int .i64 (cmpN ((num L1).natAbs : Int) (num L2).natAbs)) ∧ Below W.heap.size W w' := fun W v1 v2 h1 h2 => order_any _ _ v1 v2 W (Nat.le_trans (gx_le k1 (by decide)) (by decide)) (Nat.le_trans (gx_le k2 (by decide)) (by decide)) h1 h2
  have co2 : ∀ W v1 v2, XSl W v1 (num L1).natAbs → XSl W v2 (num L2).natAbs → Calls Tryz.prog 120 #[v2, v1] W fun e w' => e = .returned (.int .i64 (cmpN ((num L2).natAbs : Int) (num L1).natAbs)) ∧ Below W.heap.size W w' := fun W v1 v2 h1 h2 => order_any _ _ v2 v1 W (Nat.le_trans (gx_le k2 (by decide)) (by decide)) (Nat.le_trans (gx_le k1 (by decide)) (by decide)) h2 h1
  clear hL1 hL2 hl1 hl2 k1 k2 cv1 cv2
  by_cases g1 : num L1 < 0 <;> by_cases g2 : num L2 < 0
  · rw [decide_eq_true g1] at cd1
    rw [decide_eq_true g2] at cd2
    have hc : cmpN (num L1) (num L2) = cmpN ((num L2).natAbs : Int) (num L1).natAbs := by rw [← cmp_neg, show -(((num L1).natAbs : Nat) : Int) = num L1 by omega, show -(((num L2).natAbs : Nat) : Int) = num L2 by omega]
    rw [hc]
    generalize cmpN ((num L2).natAbs : Int) (num L1).natAbs = C at *
    have CO := Lib.hid co2
    have CD1 := Lib.hid cd1
    have CD2 := Lib.hid cd2
    clear cd1 cd2 co co2 hc g1 g2
    generalize (num L1).natAbs = k at *
    generalize (num L2).natAbs = l at *
    go_enter Tryz.func63, Tryz.ntmps63
    go_wp2_with (first | (go_at_call 73; (first | (with_reducible refine (CV1.out _).mono ?_) | (with_reducible refine (CV2.out _).mono ?_)); rintro e w1 ⟨rfl, rfl⟩) | (go_at_call 107; (with_reducible refine (CD1.out _).mono ?_); rintro e w2 ⟨v1, rfl, n1, B1⟩) | (go_at_call 107; (with_reducible refine (CD2.out _).mono ?_); rintro e w3 ⟨v2, rfl, n2, b2⟩; have m1 := n1.below b2; have B2 := B1.trans (b2.mono B1.size); clear n1 b2) | (go_at_call 120; (with_reducible refine (CO.out _ _ _ m1 n2).mono ?_); rintro e w4 ⟨rfl, b3⟩; have B3 := B2.trans (b3.mono B2.size)))
    go_ret
    exact ⟨rfl, B3⟩
  · rw [decide_eq_true g1] at cd1
    rw [decide_eq_false g2] at cd2
    have hc : cmpN (num L1) (num L2) = -1 := by rw [cmpN, if_pos (by omega)]
    rw [hc]
    have CD1 := Lib.hid cd1
    have CD2 := Lib.hid cd2
    clear cd1 cd2 co co2 hc g1 g2
    generalize (num L1).natAbs = k at *
    generalize (num L2).natAbs = l at *
    go_enter Tryz.func63, Tryz.ntmps63
    go_wp2_with (first | (go_at_call 73; (first | (with_reducible refine (CV1.out _).mono ?_) | (with_reducible refine (CV2.out _).mono ?_)); rintro e w1 ⟨rfl, rfl⟩) | (go_at_call 107; (with_reducible refine (CD1.out _).mono ?_); rintro e w2 ⟨v1, rfl, n1, B1⟩) | (go_at_call 107; (with_reducible refine (CD2.out _).mono ?_); rintro e w3 ⟨v2, rfl, n2, b2⟩; have m1 := n1.below b2; have B2 := B1.trans (b2.mono B1.size); clear n1 b2))
    go_ret
    exact ⟨rfl, B2⟩
  · rw [decide_eq_false g1] at cd1
    rw [decide_eq_true g2] at cd2
    have hc : cmpN (num L1) (num L2) = 1 := by rw [cmpN, if_neg (by omega), if_pos (by omega)]
    rw [hc]
    have CD1 := Lib.hid cd1
    have CD2 := Lib.hid cd2
    clear cd1 cd2 co co2 hc g1 g2
    generalize (num L1).natAbs = k at *
    generalize (num L2).natAbs = l at *
    go_enter Tryz.func63, Tryz.ntmps63
    go_wp2_with (first | (go_at_call 73; (first | (with_reducible refine (CV1.out _).mono ?_) | (with_reducible refine (CV2.out _).mono ?_)); rintro e w1 ⟨rfl, rfl⟩) | (go_at_call 107; (with_reducible refine (CD1.out _).mono ?_); rintro e w2 ⟨v1, rfl, n1, B1⟩) | (go_at_call 107; (with_reducible refine (CD2.out _).mono ?_); rintro e w3 ⟨v2, rfl, n2, b2⟩; have m1 := n1.below b2; have B2 := B1.trans (b2.mono B1.size); clear n1 b2))
    go_ret
    exact ⟨rfl, B2⟩
  · rw [decide_eq_false g1] at cd1
    rw [decide_eq_false g2] at cd2
    have hc : cmpN (num L1) (num L2) = cmpN ((num L1).natAbs : Int) (num L2).natAbs := by rw [show (((num L1).natAbs : Nat) : Int) = num L1 by omega, show (((num L2).natAbs : Nat) : Int) = num L2 by omega]
    rw [hc]
    generalize cmpN ((num L1).natAbs : Int) (num L2).natAbs = C at *
    have CO := Lib.hid co
    have CD1 := Lib.hid cd1
    have CD2 := Lib.hid cd2
    clear cd1 cd2 co co2 hc g1 g2
    generalize (num L1).natAbs = k at *
    generalize (num L2).natAbs = l at *
    go_enter Tryz.func63, Tryz.ntmps63
    go_wp2_with (first | (go_at_call 73; (first | (with_reducible refine (CV1.out _).mono ?_) | (with_reducible refine (CV2.out _).mono ?_)); rintro e w1 ⟨rfl, rfl⟩) | (go_at_call 107; (with_reducible refine (CD1.out _).mono ?_); rintro e w2 ⟨v1, rfl, n1, B1⟩) | (go_at_call 107; (with_reducible refine (CD2.out _).mono ?_); rintro e w3 ⟨v2, rfl, n2, b2⟩; have m1 := n1.below b2; have B2 := B1.trans (b2.mono B1.size); clear n1 b2) | (go_at_call 120; (with_reducible refine (CO.out _ _ _ m1 n2).mono ?_); rintro e w4 ⟨rfl, b3⟩; have B3 := B2.trans (b3.mono B2.size)))
    go_ret
    exact ⟨rfl, B3⟩

set_option maxRecDepth 100000 in
set_option maxHeartbeats 2000000 in
theorem rGcd_ok (s1 s2 : ByteArray) (L1 L2 : List UInt8) (w : World) (hL1 : s1.data.toList = L1) (hL2 : s2.data.toList = L2) (hl1 : vld L1 = true) (hl2 : vld L2 = true) :
    Calls Tryz.prog 74 #[.string s1, .string s2] w fun e w' => e = .returned (.tuple #[.string ⟨(rs (((Nat.gcd (num L1).natAbs (num L2).natAbs : Nat) : Int))).toArray⟩, .int .i64 (er (((Nat.gcd (num L1).natAbs (num L2).natAbs : Nat) : Int)))]) ∧ Below w.heap.size w w' := by
  have cv1 := fun W => rValid_any s1 L1 W hL1 (by have := (vld_digits hl1).2.2; omega)
  have cv2 := fun W => rValid_any s2 L2 W hL2 (by have := (vld_digits hl2).2.2; omega)
  rw [hl1] at cv1
  rw [hl2] at cv2
  have CV1 := Lib.hid cv1
  have CV2 := Lib.hid cv2
  have cd1 := fun W => digits_lit s1 L1 W hL1 hl1
  have cd2 := fun W => digits_lit s2 L2 W hL2 hl2
  have k1 := (vld_txt hl1).2
  have k2 := (vld_txt hl2).2
  obtain ⟨G, hG⟩ : ∃ G, Nat.gcd (num L1).natAbs (num L2).natAbs = G := ⟨_, rfl⟩
  rw [hG]
  have cc : ∀ W v, XSl W v G → Calls Tryz.prog 109 #[.bool false, v] W fun e w' => e = .returned (.tuple #[.string ⟨(rs (G : Int)).toArray⟩, .int .i64 (er (G : Int))]) ∧ Below W.heap.size W w' := fun W v h => by
    have hg := gcd_lt hl1 hl2
    rw [hG] at hg
    exact checked_any false G v W (Nat.le_trans (grpX_len hg) (by decide)) h
  have CC := Lib.hid cc
  have HG := Lib.hid hG
  have HK := Lib.hid (And.intro k1 k2)
  generalize (rs (G : Int)).toArray = R at *
  generalize er (G : Int) = E at *
  generalize decide (num L1 < 0) = x at *
  generalize decide (num L2 < 0) = y at *
  generalize (num L1).natAbs = k at *
  generalize (num L2).natAbs = l at *
  have CD1 := Lib.hid cd1
  have CD2 := Lib.hid cd2
  clear cv1 cv2 cd1 cd2 cc hL1 hL2 hl1 hl2 k1 k2 hG
  go_enter Tryz.func74, Tryz.ntmps74
  go_wp2_with (first | (go_at_call 73; (first | (with_reducible refine (CV1.out _).mono ?_) | (with_reducible refine (CV2.out _).mono ?_)); rintro e w1 ⟨rfl, rfl⟩) | (go_at_call 107; (with_reducible refine (CD1.out _).mono ?_); rintro e w2 ⟨v1, rfl, n1, B1⟩) | (go_at_call 107; (with_reducible refine (CD2.out _).mono ?_); rintro e w3 ⟨v2, rfl, n2, b2⟩; obtain ⟨a2, c2, rfl⟩ := n2.form; have m1 := n1.below b2; have B2 := B1.trans (b2.mono B1.size); have M := Lib.hid (And.intro m1 n2); clear n1 b2 m1 n2))
  go_loopw [7, 9] (fun kv lv wr => ∃ (a b : Nat) (ad : Option Addr) (cp : Nat), lv = .slice ad (grpX b).length cp ∧ Hid (XSl wr kv a) ∧ Hid (XSl wr lv b) ∧ Hid (a < 10 ^ 200 ∧ b < 10 ^ 200 ∧ Nat.gcd a b = G) ∧ Below w.heap.size w wr) (fun _ lv wr => xvOf wr lv)
  case atStart => exact ⟨k, l, _, _, rfl, Lib.hid M.out.1, Lib.hid M.out.2, Lib.hid ⟨HK.out.1, HK.out.2, HG.out⟩, B2⟩
  case round =>
    clear M HG HK B1 B2
    obtain ⟨a, b, ad, cp, rfl, h1, h2, hI, hB⟩ := hrel
    by_cases hb : b = 0
    · subst hb
      have hg := hI.out.2.2
      rw [Nat.gcd_zero_right] at hg
      subst hg
      rw [grpX_zero] at h2 ⊢
      have CG := Lib.hid (CC.out wr _ h1.out)
      clear hI h1 h2 CC
      go_wp2_with (go_at_call 109; (with_reducible refine CG.out.mono ?_); rintro e w4 ⟨rfl, b3⟩; have B3 := hB.trans (b3.mono hB.size))
      go_ret2
      exact ⟨rfl, B3⟩
    · have hz : 0 < (grpX b).length := (gx_len b 0).2 (by omega)
      have HX := Lib.hid (divided_any a b _ _ wr (by omega) (gx_le hI.out.1 (by decide)) (gx_le hI.out.2.1 (by decide)) h1.out h2.out)
      have HV := Lib.hid (xvOf_eq h2.out)
      have HN := Lib.hid (show a % b < b ∧ b < 10 ^ 200 ∧ Nat.gcd b (a % b) = G from ⟨Nat.mod_lt _ (by omega), hI.out.2.1, by rw [← hI.out.2.2, Nat.gcd_comm a b, Nat.gcd_rec b a, Nat.gcd_comm]⟩)
      clear hI h1 hb
      generalize (grpX b).length = z at *
      go_wp2_with (go_at_call 116; (with_reducible refine HX.out.mono ?_); rintro e w4 ⟨u1, u2, rfl, n1, n2, b3⟩; have B3 := hB.trans (b3.mono hB.size); have m2 := h2.out.below b3; obtain ⟨a3, c3, rfl⟩ := n2.form; have N2 := Lib.hid n2; clear HX n2)
      refine ⟨⟨b, a % b, _, _, rfl, Lib.hid m2, N2, Lib.hid ⟨HN.out.2.1, by have := HN.out; omega, HN.out.2.2⟩, B3⟩, ?_⟩
      rw [xvOf_eq N2.out, HV.out]; exact HN.out.1
end Go.Proofs.YtdnbhgkbfbgnaaaGreatDoor


namespace Go.Proofs.YtdnbhgkbfbgnaaaGreatDoor
open Go.RowKit

theorem own_1 (W : World) : XSl (W.alloc (.cells #[.int .i64 1] 3)) (.slice (some ⟨W.heap.size, 0, none⟩) 1 1) 1 := own_XSl (own_one (Nat.le_refl _) 1) rfl (gx_of (fun y hy => by rw [List.mem_singleton.1 hy]; omega) (by simp [vlX]) (.inr (by decide)))

set_option maxRecDepth 100000 in
set_option maxHeartbeats 2000000 in
theorem rDiv_ok (s1 s2 : ByteArray) (L1 L2 : List UInt8) (w : World) (hL1 : s1.data.toList = L1) (hL2 : s2.data.toList = L2) (hl1 : vld L1 = true) (hl2 : vld L2 = true) (h0 : num L2 ≠ 0) :
    Calls Tryz.prog 62 #[.string s1, .string s2] w fun e w' => e = .returned (.tuple #[.string ⟨(txt (num L1 / num L2)).toArray⟩, .string ⟨(txt (num L1 % num L2)).toArray⟩, .int .i64 0]) ∧ Below w.heap.size w w' := by
  have cv1 := fun W => rValid_any s1 L1 W hL1 (by have := (vld_digits hl1).2.2; omega)
  have cv2 := fun W => rValid_any s2 L2 W hL2 (by have := (vld_digits hl2).2.2; omega)
  rw [hl1] at cv1
  rw [hl2] at cv2
  have CV1 := Lib.hid cv1
  have CV2 := Lib.hid cv2
  have cd1 := fun W => digits_lit s1 L1 W hL1 hl1
  have cd2 := fun W => digits_lit s2 L2 W hL2 hl2
  have k1 := (vld_txt hl1).2
  have k2 := (vld_txt hl2).2
  have ht1 : (s2.toList == [48]) = false := by
    rw [ByteArray.toList_eq, hL2, beq_eq_false_iff_ne]
    intro h
    rw [h] at h0
    exact h0 rfl
  have hl0 : 0 < (num L2).natAbs := by omega
  have hq9 : (num L1 / num L2).natAbs < 10 ^ 200 := by
    have h := Int.natAbs_ediv_le_natAbs (num L1) (num L2)
    omega
  have hr9 : (num L1 % num L2).natAbs < 10 ^ 200 := by
    have e1 := Int.emod_nonneg (num L1) h0
    have e3 := Int.emod_lt (num L1) h0
    omega
  have hr0 : 0 ≤ num L1 % num L2 := Int.emod_nonneg _ h0
  have cch : ∀ b m, mz b m = num L1 / num L2 → ∀ W v, XSl W v m → Calls Tryz.prog 109 #[.bool b, v] W fun e w' => e = .returned (.tuple #[.string ⟨(txt (num L1 / num L2)).toArray⟩, .int .i64 0]) ∧ Below W.heap.size W w' := fun b m hm W v h => by
    have hm9 : m < 10 ^ 200 := by have := mz_abs b m; rw [hm] at this; omega
    have h := checked_any b m v W (Nat.le_trans (grpX_len hm9) (by decide)) h
    rwa [hm, rs, er, if_pos hq9, if_pos hq9] at h
  have cte : ∀ m : Nat, (m : Int) = num L1 % num L2 → ∀ W v, XSl W v m → Calls Tryz.prog 119 #[.bool false, v] W fun e w' => e = .returned (.tuple #[.string ⟨(txt (num L1 % num L2)).toArray⟩, .bool (decide (m < 10 ^ 200))]) ∧ Below W.heap.size W w' := fun m hm W v h => by
    have hm9 : m < 10 ^ 200 := by omega
    have h := rtext_G false m v W (Nat.le_trans (grpX_len hm9) (by decide)) h
    rwa [show mz false m = num L1 % num L2 from hm] at h
  have cdv : ∀ W v1 v2, XSl W v1 (num L1).natAbs → XSl W v2 (num L2).natAbs → Calls Tryz.prog 116 #[v1, v2] W fun e w' => ∃ u1 ad cp, e = .returned (.tuple #[u1, .slice ad (grpX ((num L1).natAbs % (num L2).natAbs)).length cp]) ∧ XSl w' u1 ((num L1).natAbs / (num L2).natAbs) ∧ XSl w' (.slice ad (grpX ((num L1).natAbs % (num L2).natAbs)).length cp) ((num L1).natAbs % (num L2).natAbs) ∧ Below W.heap.size W w' := fun W v1 v2 h1 h2 => (divided_any _ _ v1 v2 W hl0 (gx_le k1 (by decide)) (gx_le k2 (by decide)) h1 h2).mono fun e w' ⟨u1, u2, he, n1, n2, b⟩ => by
    obtain ⟨a, c, rfl⟩ := n2.form
    exact ⟨u1, a, c, he, n1, n2, b⟩
  have e1 : num L1 = mz (decide (num L1 < 0)) (num L1).natAbs := mz_num _
  have e2 : num L2 = mz (decide (num L2 < 0)) (num L2).natAbs := mz_num _
  have hx0 : decide (num L1 < 0) = true → 0 < (num L1).natAbs := by intro h; have := of_decide_eq_true h; omega
  clear hL1 hL2 hl1 hl2 hq9 hr9 h0 cv1 cv2
  generalize hD : num L1 / num L2 = d at *
  generalize hM : num L1 % num L2 = m at *
  generalize decide (num L1 < 0) = x at *
  generalize decide (num L2 < 0) = y at *
  rw [e1, e2] at hD hM
  clear e1 e2
  generalize (num L1).natAbs = k at *
  generalize (num L2).natAbs = l at *
  generalize (txt d).toArray = TD at *
  generalize (txt m).toArray = TM at *
  have CD1 := Lib.hid cd1
  have CD2 := Lib.hid cd2
  have CDV := Lib.hid cdv
  have hrl : k % l < l := Nat.mod_lt _ hl0
  clear cd1 cd2 cdv
  have hdy : ∀ q r : Nat, mz x k / (l : Int) = mz x q → mz x k % (l : Int) = (r : Int) → ∀ b, b = (x != y) → mz b q = d ∧ (r : Int) = m := fun q r h1 h2 b hb => by
    subst hb
    cases y
    · rw [Bool.bne_false]
      rw [show mz false l = (l : Int) from rfl] at hD hM
      exact ⟨h1.symm.trans hD, h2.symm.trans hM⟩
    · rw [Bool.bne_true, mz_not]
      rw [show mz true l = -(l : Int) from rfl, Int.ediv_neg] at hD
      rw [show mz true l = -(l : Int) from rfl, Int.emod_neg] at hM
      exact ⟨by rw [← h1]; exact hD, h2.symm.trans hM⟩
  clear hD hM
  cases x
  · have hf := hdy (k / l) (k % l) (by simp [mz]) (by simp [mz])
    have CC := Lib.hid (fun b hb => cch b (k / l) (hf b hb).1)
    have CT := Lib.hid (cte (k % l) (hf _ rfl).2)
    clear cch cte hdy hf hx0 hrl hl0
    generalize (grpX (k % l)).length = z at *
    cases y <;>
    (go_enter Tryz.func62, Tryz.ntmps62
     go_wp2_with (first | (go_at_call 73; (first | (with_reducible refine (CV1.out _).mono ?_) | (with_reducible refine (CV2.out _).mono ?_)); rintro e w1 ⟨rfl, rfl⟩) | (go_at_call 107; (with_reducible refine (CD1.out _).mono ?_); rintro e w2 ⟨v1, rfl, n1, B1⟩) | (go_at_call 107; (with_reducible refine (CD2.out _).mono ?_); rintro e w3 ⟨v2, rfl, n2, b2⟩; have m1 := n1.below b2; have B2 := B1.trans (b2.mono B1.size); clear n1 b2) | (go_at_call 116; (with_reducible refine (CDV.out _ _ _ m1 n2).mono ?_); rintro e w4 ⟨u1, ad, cp, rfl, p1, p2, b3⟩; have B3 := B2.trans (b3.mono B2.size); have m3 := n2.below b3; clear n2 m1 b3) | (go_at_call 109; (with_reducible refine (CC.out _ (by decide) _ _ p1).mono ?_); rintro e w5 ⟨rfl, b4⟩; have p3 := p2.below b4; have B4 := B3.trans (b4.mono B3.size)) | (go_at_call 119; (with_reducible refine (CT.out _ _ p3).mono ?_); rintro e w6 ⟨rfl, b5⟩; have B5 := B4.trans (b5.mono B4.size)))
     go_ret3
     exact ⟨rfl, B5⟩)
  · by_cases hr : k % l = 0
    · have hn := neg_div0 k l hl0 hr
      have hf := hdy (k / l) (k % l) (by simp only [mz, if_true]; exact hn.1) (by rw [hr]; simp only [mz, if_true]; exact hn.2)
      have CC := Lib.hid (fun b hb => cch b (k / l) (hf b hb).1)
      have ct := cte (k % l) (hf _ rfl).2
      rw [hr] at ct
      rw [hr, grpX_zero, List.length_nil] at CDV
      have CT := Lib.hid ct
      clear cch cte hdy hf hx0 hrl hl0 hn hr ct
      cases y <;>
      (go_enter Tryz.func62, Tryz.ntmps62
       go_wp2_with (first | (go_at_call 73; (first | (with_reducible refine (CV1.out _).mono ?_) | (with_reducible refine (CV2.out _).mono ?_)); rintro e w1 ⟨rfl, rfl⟩) | (go_at_call 107; (with_reducible refine (CD1.out _).mono ?_); rintro e w2 ⟨v1, rfl, n1, B1⟩) | (go_at_call 107; (with_reducible refine (CD2.out _).mono ?_); rintro e w3 ⟨v2, rfl, n2, b2⟩; have m1 := n1.below b2; have B2 := B1.trans (b2.mono B1.size); clear n1 b2) | (go_at_call 116; (with_reducible refine (CDV.out _ _ _ m1 n2).mono ?_); rintro e w4 ⟨u1, ad, cp, rfl, p1, p2, b3⟩; have B3 := B2.trans (b3.mono B2.size); have m3 := n2.below b3; clear n2 m1 b3) | (go_at_call 109; (with_reducible refine (CC.out _ (by decide) _ _ p1).mono ?_); rintro e w5 ⟨rfl, b4⟩; have p3 := p2.below b4; have B4 := B3.trans (b4.mono B3.size)) | (go_at_call 119; (with_reducible refine (CT.out _ _ p3).mono ?_); rintro e w6 ⟨rfl, b5⟩; have B5 := B4.trans (b5.mono B4.size)))
       go_ret3
       exact ⟨rfl, B5⟩)
    · have hn := neg_div k l hl0 (by omega)
      have hf := hdy (k / l + 1) (l - k % l) (by simp only [mz, if_true]; exact hn.1) (by simp only [mz, if_true]; exact hn.2)
      have CC := Lib.hid (fun b hb => cch b (k / l + 1) (hf b hb).1)
      have CT := Lib.hid (cte (l - k % l) (hf _ rfl).2)
      have hz : 0 < (grpX (k % l)).length := (gx_len _ 0).2 (by omega)
      have CP := Lib.hid (show ∀ W u, XSl W u (k / l) → Calls Tryz.prog 117 #[u, .slice (some ⟨W.heap.size, 0, none⟩) 1 1] (W.alloc (.cells #[.int .i64 1] 3)) fun e w' => ∃ v, e = .returned v ∧ XSl w' v (k / l + 1) ∧ Below W.heap.size W w' from fun W u h => by
        have ha : Below W.heap.size W (W.alloc (.cells #[.int .i64 1] 3)) := below_alloc W _
        exact (rplus_any (k / l) 1 u _ _ (Nat.le_trans (gx_le (Nat.lt_of_le_of_lt (Nat.div_le_self _ _) k1) (by decide)) (by decide)) (Nat.le_trans (grpX_len (k := 1) (by decide)) (by decide)) (h.below ha) (own_1 W)).mono fun e w' ⟨v, a, b, c⟩ => ⟨v, a, b, ha.trans (c.mono ha.size)⟩)
      have CM := Lib.hid (show ∀ W u1 u2, XSl W u1 l → XSl W u2 (k % l) → Calls Tryz.prog 118 #[u1, u2] W fun e w' => ∃ v, e = .returned v ∧ XSl w' v (l - k % l) ∧ Below W.heap.size W w' from fun W u1 u2 h1 h2 => (rminus_any l (k % l) u1 u2 W (by omega) (Nat.le_trans (gx_le k2 (by decide)) (by decide)) h1 h2).mono fun e w' ⟨v, a, b, c, _⟩ => ⟨v, a, b, c⟩)
      clear cch cte hdy hf hx0 hrl hl0 hn hr k1 k2
      generalize (grpX (k % l)).length = z at *
      cases y <;>
      (go_enter Tryz.func62, Tryz.ntmps62
       go_wp2_with (first | (go_at_call 73; (first | (with_reducible refine (CV1.out _).mono ?_) | (with_reducible refine (CV2.out _).mono ?_)); rintro e w1 ⟨rfl, rfl⟩) | (go_at_call 107; (with_reducible refine (CD1.out _).mono ?_); rintro e w2 ⟨v1, rfl, n1, B1⟩) | (go_at_call 107; (with_reducible refine (CD2.out _).mono ?_); rintro e w3 ⟨v2, rfl, n2, b2⟩; have m1 := n1.below b2; have B2 := B1.trans (b2.mono B1.size); clear n1 b2) | (go_at_call 116; (with_reducible refine (CDV.out _ _ _ m1 n2).mono ?_); rintro e w4 ⟨u1, ad, cp, rfl, p1, p2, b3⟩; have B3 := B2.trans (b3.mono B2.size); have m3 := n2.below b3; clear n2 m1 b3) | (go_at_call 117; (with_reducible refine (CP.out _ _ p1).mono ?_); rintro e w7 ⟨u3, rfl, p4, b6⟩; have p5 := p2.below b6; have m4 := m3.below b6; have B6 := B3.trans (b6.mono B3.size); clear p1 p2 m3 b6) | (go_at_call 118; (with_reducible refine (CM.out _ _ _ m4 p5).mono ?_); rintro e w8 ⟨u4, rfl, p6, b7⟩; have p7 := p4.below b7; have B7 := B6.trans (b7.mono B6.size); clear p4 p5 m4 b7) | (go_at_call 109; (with_reducible refine (CC.out _ (by decide) _ _ p7).mono ?_); rintro e w5 ⟨rfl, b4⟩; have p8 := p6.below b4; have B4 := B7.trans (b4.mono B7.size)) | (go_at_call 119; (with_reducible refine (CT.out _ _ p8).mono ?_); rintro e w6 ⟨rfl, b5⟩; have B5 := B4.trans (b5.mono B4.size)))
       go_ret3
       exact ⟨rfl, B5⟩)
end Go.Proofs.YtdnbhgkbfbgnaaaGreatDoor


namespace Go.Proofs.YtdnbhgkbfbgnaaaGreatDoor
open Go.RowKit

/-- a block of two strings -/
def SB (W : World) (g : Nat) (x y : ByteArray) : Prop := g < W.heap.size ∧ W.cell? ⟨g, 0, none⟩ = some (.string x) ∧ W.cell? ⟨g, 1, none⟩ = some (.string y)
theorem SB.keep {W W' : World} {g : Nat} {x y : ByteArray} (h : SB W g x y) (hb : Below W.heap.size W W') : SB W' g x y :=
  ⟨Nat.lt_of_lt_of_le h.1 hb.size, (hb.cell (p := ⟨g, 0, none⟩) h.1).trans h.2.1, (hb.cell (p := ⟨g, 1, none⟩) h.1).trans h.2.2⟩
theorem SB.new (W : World) (x y : ByteArray) (t : TypeId) : SB (W.alloc (.cells #[.string x, .string y] t)) W.heap.size x y :=
  ⟨by rw [World.size_alloc]; omega, by rw [World.cell?, Go.heap_alloc_new]; rfl, by rw [World.cell?, Go.heap_alloc_new]; rfl⟩
/-- a valid fraction's two texts -/
def vR (L1 L2 : List UInt8) : Bool := vld L1 && vld L2 && decide (0 < num L2) && decide (Nat.gcd (num L1).natAbs (num L2).natAbs = 1)
theorem S1_tl (a : Int) : ((S a).toList == [49]) = decide (a = 1) := by
  rw [ByteArray.toList_eq, S_list, show ([49] : List UInt8) = txt 1 by rw [← S_list, S_one]]
  by_cases h : a = 1
  · subst h; simp
  · rw [decide_eq_false h, beq_eq_false_iff_ne]
    exact fun e => h (txt_inj e)
theorem cmp_z (s : ByteArray) (L : List UInt8) (w : World) (hL : s.data.toList = L) (hv : vld L = true) :
    Calls Tryz.prog 63 #[.string s, .string ⟨#[48]⟩] w fun e w' => e = .returned (.int .i64 (cmpN (num L) 0)) ∧ Below w.heap.size w w' := by
  have h := rCompare_ok s ⟨#[48]⟩ L [48] w hL rfl hv (by decide)
  rwa [show num [48] = 0 by decide] at h
/-- the greatest common divisor of two valid integers -/
theorem gcd_S (s1 s2 : ByteArray) (L1 L2 : List UInt8) (w : World) (hL1 : s1.data.toList = L1) (hL2 : s2.data.toList = L2) (hl1 : vld L1 = true) (hl2 : vld L2 = true) :
    Calls Tryz.prog 74 #[.string s1, .string s2] w fun e w' => e = .returned (.tuple #[.string (S ((Nat.gcd (num L1).natAbs (num L2).natAbs : Nat) : Int)), .int .i64 0]) ∧ Below w.heap.size w w' := by
  have h := rGcd_ok s1 s2 L1 L2 w hL1 hL2 hl1 hl2
  have hg := gcd_lt hl1 hl2
  rw [rs, er, Int.natAbs_natCast, if_pos hg, if_pos hg] at h
  exact h

set_option maxRecDepth 100000 in
set_option maxHeartbeats 2000000 in
theorem v4Valid_any (s1 s2 : ByteArray) (L1 L2 : List UInt8) (w : World) (hL1 : s1.data.toList = L1) (hL2 : s2.data.toList = L2) (hl1 : L1.length ≤ 60000) (hl2 : L2.length ≤ 60000) :
    Calls Tryz.prog 31 #[.agg #[.string s1, .string s2]] w fun e w' => e = .returned (.bool (vR L1 L2)) ∧ Below w.heap.size w w' := by
  have cv1 := fun W => rValid_any s1 L1 W hL1 hl1
  have cv2 := fun W => rValid_any s2 L2 W hL2 hl2
  have sb := SB.new w s1 s2 23
  have HB := Lib.hid (below_alloc w (.cells #[.string s1, .string s2] 23))
  have e0 := sb.2.1
  have e1 := sb.2.2
  have HS := Lib.hid sb
  clear sb
  cases b1 : vld L1
  · rw [vR, b1, Bool.false_and, Bool.false_and, Bool.false_and]
    rw [b1] at cv1
    have CV1 := Lib.hid cv1
    have CV2 := Lib.hid cv2
    clear cv1 cv2 hL1 hL2 hl1 hl2 b1
    go_enter Tryz.func31, Tryz.ntmps31
    go_wp2_with ((go_at_call 73; (first | (with_reducible refine (CV1.out _).mono ?_) | (with_reducible refine (CV2.out _).mono ?_)); rintro e w1 ⟨rfl, rfl⟩))
    go_ret
    exact ⟨rfl, HB.out⟩
  · cases b2 : vld L2
    · rw [vR, b1, b2, Bool.and_false, Bool.false_and, Bool.false_and]
      rw [b1] at cv1
      rw [b2] at cv2
      have CV1 := Lib.hid cv1
      have CV2 := Lib.hid cv2
      clear cv1 cv2 hL1 hL2 hl1 hl2 b1 b2
      go_enter Tryz.func31, Tryz.ntmps31
      go_wp2_with ((go_at_call 73; (first | (with_reducible refine (CV1.out _).mono ?_) | (with_reducible refine (CV2.out _).mono ?_)); rintro e w1 ⟨rfl, rfl⟩))
      go_ret
      exact ⟨rfl, HB.out⟩
    · have cc := fun W => cmp_z s2 L2 W hL2 b2
      have cg := fun W => gcd_S s1 s2 L1 L2 W hL1 hL2 b1 b2
      rw [b1] at cv1
      rw [b2] at cv2
      rw [vR, b1, b2, Bool.and_true, Bool.true_and]
      have CV1 := Lib.hid cv1
      have CV2 := Lib.hid cv2
      clear cv1 cv2 hL1 hL2 hl1 hl2 b1 b2
      by_cases hp : 0 < num L2
      · rw [decide_eq_true hp, Bool.true_and]
        rw [show cmpN (num L2) 0 = 1 by rw [cmpN, if_neg (by omega), if_pos hp]] at cc
        have hq := S1_tl ((Nat.gcd (num L1).natAbs (num L2).natAbs : Nat) : Int)
        have hd : decide (((Nat.gcd (num L1).natAbs (num L2).natAbs : Nat) : Int) = 1) = decide (Nat.gcd (num L1).natAbs (num L2).natAbs = 1) := by rw [decide_eq_decide]; omega
        rw [hd] at hq
        generalize decide (Nat.gcd (num L1).natAbs (num L2).natAbs = 1) = B at *
        generalize S ((Nat.gcd (num L1).natAbs (num L2).natAbs : Nat) : Int) = g at *
        have CC := Lib.hid cc
        have CG := Lib.hid cg
        clear cc cg hd hp
        go_enter Tryz.func31, Tryz.ntmps31
        go_wp2_with (first | (go_at_call 73; (first | (with_reducible refine (CV1.out _).mono ?_) | (with_reducible refine (CV2.out _).mono ?_)); rintro e w1 ⟨rfl, rfl⟩) | (go_at_call 63; (with_reducible refine (CC.out _).mono ?_); rintro e w2 ⟨rfl, B2⟩; have sb := HS.out.keep B2; have f0 := sb.2.1; have f1 := sb.2.2; have HB2 := Lib.hid (HB.out.trans (B2.mono HB.out.size)); clear sb B2) | (go_at_call 74; (with_reducible refine (CG.out _).mono ?_); rintro e w3 ⟨rfl, B3⟩; have HB3 := Lib.hid (HB2.out.trans (B3.mono HB2.out.size)); clear B3))
        go_ret
        exact ⟨by rw [← hq]; rfl, HB3.out⟩
      · rw [decide_eq_false hp, Bool.false_and]
        have hc : cmpN (num L2) 0 ≤ 0 := by rw [cmpN]; split <;> (try split) <;> omega
        generalize cmpN (num L2) 0 = z at *
        have CC := Lib.hid cc
        clear cc cg hp
        go_enter Tryz.func31, Tryz.ntmps31
        go_wp2_with (first | (go_at_call 73; (first | (with_reducible refine (CV1.out _).mono ?_) | (with_reducible refine (CV2.out _).mono ?_)); rintro e w1 ⟨rfl, rfl⟩) | (go_at_call 63; (with_reducible refine (CC.out _).mono ?_); rintro e w2 ⟨rfl, B2⟩; have HB2 := Lib.hid (HB.out.trans (B2.mono HB.out.size)); clear B2))
        go_ret
        exact ⟨rfl, HB2.out⟩
end Go.Proofs.YtdnbhgkbfbgnaaaGreatDoor


namespace Go.Proofs.YtdnbhgkbfbgnaaaGreatDoor
open Go.RowKit

/-- a block that holds a fraction -/
def RBlk (w : World) (g : Nat) (x y : Value) : Prop := w.heap[g]? = some (.cells #[x, y] 23 (0, 0))
theorem RBlk.lt {w : World} {g : Nat} {x y : Value} (h : RBlk w g x y) : g < w.heap.size := (Array.getElem?_eq_some_iff.1 h).1
theorem RBlk.keep {w w' : World} {n g : Nat} {x y : Value} (h : RBlk w g x y) (hb : Below n w w') (hg : g < n) : RBlk w' g x y := (hb.block g hg).trans h
theorem RBlk.c0 {w : World} {g : Nat} {x y : Value} (h : RBlk w g x y) : w.cell? ⟨g, 0, none⟩ = some x := by rw [World.cell?, h]; rfl
theorem RBlk.c1 {w : World} {g : Nat} {x y : Value} (h : RBlk w g x y) : w.cell? ⟨g, 1, none⟩ = some y := by rw [World.cell?, h]; rfl
theorem RBlk.f {w : World} {g : Nat} {x y : Value} (h : RBlk w g x y) (j : Nat) : w.frozen? ⟨g, j, none⟩ = false := by rw [World.frozen?, h]; simp
theorem RBlk.s0 {w : World} {g : Nat} {x y : Value} (h : RBlk w g x y) (v : Value) : RBlk (w.setCell ⟨g, 0, none⟩ v) g v y := by
  rw [RBlk, heap_setCell_same w g 0 _ _ v h]; rfl
theorem RBlk.s1 {w : World} {g : Nat} {x y : Value} (h : RBlk w g x y) (v : Value) : RBlk (w.setCell ⟨g, 1, none⟩ v) g x v := by
  rw [RBlk, heap_setCell_same w g 1 _ _ v h]; rfl
theorem RBlk.new (w : World) (x y : Value) : RBlk (w.alloc (.cells #[x, y] 23)) w.heap.size x y := Go.heap_alloc_new w _
theorem info_ratio : (Tryz.prog.info? 23).map (·.size) = some 2 := by kernel_rfl
theorem ratio_yields {w : World} {g : Nat} {x y : Value} (h : RBlk w g x y) : (loadVar 23 ⟨g, 0, none⟩).run Tryz.prog w = .ok (.agg #[x, y]) w :=
  run_loadVar_row w g _ _ _ _ _ h Tryz.underlying23 rfl info_ratio
theorem results_ratio {fn : Func} {p u : Tmp} (h : fn.results = #[.cell p 23, .tmp u]) (tmps : Array Value) (w : World) (g : Nat) (x y : Value)
    (hp : tmps.getD p undef = .pointer (some ⟨g, 0, none⟩)) (hg : RBlk w g x y) :
    (results fn tmps).run Tryz.prog w = .ok (.tuple #[.agg #[x, y], tmps.getD u undef]) w := by
  have hp' : tmps[p]?.getD undef = .pointer (some ⟨g, 0, none⟩) := by simpa using hp
  simp [results, h, hp', asAddr, ratio_yields hg]

set_option maxRecDepth 100000 in
set_option maxHeartbeats 2000000 in
theorem v4Make_no (s1 s2 : ByteArray) (L1 L2 : List UInt8) (w : World) (hL1 : s1.data.toList = L1) (hL2 : s2.data.toList = L2) (hl1 : L1.length ≤ 60000) (hl2 : L2.length ≤ 60000) (hv : (vld L1 && vld L2) = true → num L2 = 0) :
    Calls Tryz.prog 29 #[.string s1, .string s2] w fun e w' => e = .returned (.tuple #[.agg #[.string ⟨#[]⟩, .string ⟨#[]⟩], .int .i64 40]) ∧ Below w.heap.size w w' := by
  have cv1 := fun W => rValid_any s1 L1 W hL1 hl1
  have cv2 := fun W => rValid_any s2 L2 W hL2 hl2
  have hr := RBlk.new w (.string ⟨#[]⟩) (.string ⟨#[]⟩)
  have c0 := hr.c0
  have c1 := hr.c1
  have f0 := hr.f 0
  have f1 := hr.f 1
  have HR := Lib.hid hr
  have HB := Lib.hid (below_alloc w (.cells #[.string ⟨#[]⟩, .string ⟨#[]⟩] 23))
  have CV1 := Lib.hid cv1
  have CV2 := Lib.hid cv2
  have ht : (vld L1 && vld L2) = true → (s2.toList == [48]) = true := fun h => by
    have h0 := hv h
    have := txt_lit ((Bool.and_eq_true _ _).mp h).2
    rw [h0] at this
    rw [ByteArray.toList_eq, hL2, ← this]; rfl
  clear hr cv1 cv2 hL1 hL2 hl1 hl2 hv
  cases b1 : vld L1 <;> cases b2 : vld L2 <;> rw [b1] at CV1 <;> rw [b2] at CV2 <;> rw [b1, b2] at ht
  all_goals
    have ht2 := ht
    clear ht
    (try have ht3 := ht2 rfl)
    clear ht2 b1 b2
    go_enter Tryz.func29, Tryz.ntmps29
    go_wp2_with ((go_at_call 73; (first | (with_reducible refine (CV1.out _).mono ?_) | (with_reducible refine (CV2.out _).mono ?_)); rintro e w1 ⟨rfl, rfl⟩))
    refine bodyPost_ret (results_ratio rfl _ _ w.heap.size _ _ rfl HR.out) rfl ?_
    exact ⟨rfl, HB.out⟩

theorem sub0 (s : ByteArray) (L : List UInt8) (w : World) (hL : s.data.toList = L) (hv : vld L = true) :
    Calls Tryz.prog 58 #[.string ⟨#[48]⟩, .string s] w fun e w' => e = .returned (.tuple #[.string (S (-num L)), .int .i64 0]) ∧ Below w.heap.size w w' := by
  have h := rSub_ok ⟨#[48]⟩ s [48] L w rfl hL (by decide) hv
  have hz := (vld_txt hv).2
  rw [show num [48] - num L = -num L by rw [show num [48] = 0 by decide]; omega, rs, er, Int.natAbs_neg, if_pos hz, if_pos hz] at h
  exact h
theorem div_g (s : ByteArray) (L : List UInt8) (g : Nat) (w : World) (hL : s.data.toList = L) (hv : vld L = true) (hg : 0 < g) (hg9 : g < 10 ^ 200) :
    Calls Tryz.prog 62 #[.string s, .string (S (g : Int))] w fun e w' => e = .returned (.tuple #[.string (S (num L / g)), .string (S (num L % g)), .int .i64 0]) ∧ Below w.heap.size w w' := by
  have h := rDiv_ok s (S (g : Int)) L (txt (g : Int)) w hL (S_list _) hv (txt_vld (by omega)) (by rw [txt_num]; omega)
  rw [txt_num] at h
  exact h

set_option maxRecDepth 100000 in
set_option maxHeartbeats 2000000 in
theorem v4Make_ok (s1 s2 : ByteArray) (L1 L2 : List UInt8) (w : World) (hL1 : s1.data.toList = L1) (hL2 : s2.data.toList = L2) (hl1 : vld L1 = true) (hl2 : vld L2 = true) (h0 : num L2 ≠ 0) :
    Calls Tryz.prog 29 #[.string s1, .string s2] w fun e w' => e = .returned (.tuple #[.agg #[.string (S ((if num L2 < 0 then -num L1 else num L1) / (Nat.gcd (num L1).natAbs (num L2).natAbs : Nat))), .string (S ((if num L2 < 0 then -num L2 else num L2) / (Nat.gcd (num L1).natAbs (num L2).natAbs : Nat)))], .int .i64 0]) ∧ Below w.heap.size w w' := by
  have cv1 := fun W => rValid_any s1 L1 W hL1 (by have := (vld_digits hl1).2.2; omega)
  have cv2 := fun W => rValid_any s2 L2 W hL2 (by have := (vld_digits hl2).2.2; omega)
  rw [hl1] at cv1
  rw [hl2] at cv2
  have CV1 := Lib.hid cv1
  have CV2 := Lib.hid cv2
  have cc := fun W => cmp_z s2 L2 W hL2 hl2
  have HR := Lib.hid (RBlk.new w (.string ⟨#[]⟩) (.string ⟨#[]⟩))
  have HB := Lib.hid (below_alloc w (.cells #[.string ⟨#[]⟩, .string ⟨#[]⟩] 23))
  have ht1 : (s2.toList == [48]) = false := by
    rw [ByteArray.toList_eq, hL2, beq_eq_false_iff_ne]
    intro h
    rw [h] at h0
    exact h0 rfl
  have hg9 := gcd_lt hl1 hl2
  have hg0 : 0 < Nat.gcd (num L1).natAbs (num L2).natAbs := Nat.gcd_pos_of_pos_right _ (by omega)
  by_cases hneg : num L2 < 0
  · rw [if_pos hneg, if_pos hneg]
    rw [show cmpN (num L2) 0 = -1 by rw [cmpN, if_pos hneg]] at cc
    have k1 := (vld_txt hl1).2
    have k2 := (vld_txt hl2).2
    have cs1 := fun W => sub0 s1 L1 W hL1 hl1
    have cs2 := fun W => sub0 s2 L2 W hL2 hl2
    have cg := fun W => gcd_S (S (-num L1)) (S (-num L2)) (txt (-num L1)) (txt (-num L2)) W (S_list _) (S_list _) (txt_vld (by omega)) (txt_vld (by omega))
    rw [txt_num, txt_num, Int.natAbs_neg, Int.natAbs_neg] at cg
    have ca := fun W => div_g (S (-num L1)) (txt (-num L1)) _ W (S_list _) (txt_vld (by omega)) hg0 hg9
    have cb := fun W => div_g (S (-num L2)) (txt (-num L2)) _ W (S_list _) (txt_vld (by omega)) hg0 hg9
    rw [txt_num] at ca cb
    generalize Nat.gcd (num L1).natAbs (num L2).natAbs = g at *
    generalize S (-num L1 % (g : Int)) = y1 at *
    generalize S (-num L2 % (g : Int)) = y2 at *
    generalize S (-num L1 / (g : Int)) = x1 at *
    generalize S (-num L2 / (g : Int)) = x2 at *
    generalize S (-num L1) = a1 at *
    generalize S (-num L2) = a2 at *
    generalize S (g : Int) = gs at *
    have CC := Lib.hid cc
    have CS1 := Lib.hid cs1
    have CS2 := Lib.hid cs2
    have CG := Lib.hid cg
    have CA := Lib.hid ca
    have CB := Lib.hid cb
    clear cv1 cv2 cc cs1 cs2 cg ca cb hL1 hL2 hl1 hl2 hg9 hg0 hneg h0 k1 k2
    go_enter Tryz.func29, Tryz.ntmps29
    go_wp2_with (first | (go_at_call 73; (first | (with_reducible refine (CV1.out _).mono ?_) | (with_reducible refine (CV2.out _).mono ?_)); rintro e w1 ⟨rfl, rfl⟩) | (go_at_call 63; (with_reducible refine (CC.out _).mono ?_); rintro e W ⟨rfl, B⟩; have hr := HR.out.keep B HR.out.lt; have hb := HB.out.trans (B.mono HB.out.size); clear HR HB B; have HR := Lib.hid hr; have HB := Lib.hid hb; clear hr hb) | (go_at_call 58; (with_reducible refine (CS1.out _).mono ?_); rintro e W ⟨rfl, B⟩; have hr := HR.out.keep B HR.out.lt; have hb := HB.out.trans (B.mono HB.out.size); clear HR HB B; have HR := Lib.hid hr; have HB := Lib.hid hb; clear hr hb) | (go_at_call 58; (with_reducible refine (CS2.out _).mono ?_); rintro e W ⟨rfl, B⟩; have hr := HR.out.keep B HR.out.lt; have hb := HB.out.trans (B.mono HB.out.size); clear HR HB B; have HR := Lib.hid hr; have HB := Lib.hid hb; clear hr hb) | (go_at_call 74; (with_reducible refine (CG.out _).mono ?_); rintro e W ⟨rfl, B⟩; have hr := HR.out.keep B HR.out.lt; have hb := HB.out.trans (B.mono HB.out.size); clear HR HB B; have HR := Lib.hid hr; have HB := Lib.hid hb; clear hr hb) | (go_at_call 62; (with_reducible refine (CA.out _).mono ?_); rintro e W ⟨rfl, B⟩; have hr := HR.out.keep B HR.out.lt; have hb := HB.out.trans (B.mono HB.out.size); clear HR HB B; have HR := Lib.hid hr; have HB := Lib.hid hb; clear hr hb) | (go_at_call 62; (with_reducible refine (CB.out _).mono ?_); rintro e W ⟨rfl, B⟩; have hr := HR.out.keep B HR.out.lt; have hb := HB.out.trans (B.mono HB.out.size); clear HR HB B; have HR := Lib.hid hr; have HB := Lib.hid hb; have c0 := hr.c0; have c1 := hr.c1; have f0 := hr.f 0; have f1 := hr.f 1; have hs := hr.s0 (.string x1); have d1 := hs.c1; have g1 := hs.f 1; have HS := Lib.hid (hs.s1 (.string x2)); have HBS := Lib.hid ((hb.setCell (p := ⟨w.heap.size, 0, none⟩) (Nat.le_refl _) (.string x1)).setCell (p := ⟨w.heap.size, 1, none⟩) (Nat.le_refl _) (.string x2)); clear hr hb hs))
    refine bodyPost_ret (results_ratio rfl _ _ w.heap.size _ _ rfl HS.out) rfl ?_
    exact ⟨rfl, HBS.out⟩
  · rw [if_neg hneg, if_neg hneg]
    rw [show cmpN (num L2) 0 = 1 by rw [cmpN, if_neg hneg, if_pos (by omega)]] at cc
    have cg := fun W => gcd_S s1 s2 L1 L2 W hL1 hL2 hl1 hl2
    have ca := fun W => div_g s1 L1 _ W hL1 hl1 hg0 hg9
    have cb := fun W => div_g s2 L2 _ W hL2 hl2 hg0 hg9
    generalize Nat.gcd (num L1).natAbs (num L2).natAbs = g at *
    generalize S (num L1 % (g : Int)) = y1 at *
    generalize S (num L2 % (g : Int)) = y2 at *
    generalize S (num L1 / (g : Int)) = x1 at *
    generalize S (num L2 / (g : Int)) = x2 at *
    generalize S (g : Int) = gs at *
    have CC := Lib.hid cc
    have CG := Lib.hid cg
    have CA := Lib.hid ca
    have CB := Lib.hid cb
    clear cv1 cv2 cc cg ca cb hL1 hL2 hl1 hl2 hg9 hg0 hneg h0
    go_enter Tryz.func29, Tryz.ntmps29
    go_wp2_with (first | (go_at_call 73; (first | (with_reducible refine (CV1.out _).mono ?_) | (with_reducible refine (CV2.out _).mono ?_)); rintro e w1 ⟨rfl, rfl⟩) | (go_at_call 63; (with_reducible refine (CC.out _).mono ?_); rintro e W ⟨rfl, B⟩; have hr := HR.out.keep B HR.out.lt; have hb := HB.out.trans (B.mono HB.out.size); clear HR HB B; have HR := Lib.hid hr; have HB := Lib.hid hb; clear hr hb) | (go_at_call 74; (with_reducible refine (CG.out _).mono ?_); rintro e W ⟨rfl, B⟩; have hr := HR.out.keep B HR.out.lt; have hb := HB.out.trans (B.mono HB.out.size); clear HR HB B; have HR := Lib.hid hr; have HB := Lib.hid hb; clear hr hb) | (go_at_call 62; (with_reducible refine (CA.out _).mono ?_); rintro e W ⟨rfl, B⟩; have hr := HR.out.keep B HR.out.lt; have hb := HB.out.trans (B.mono HB.out.size); clear HR HB B; have HR := Lib.hid hr; have HB := Lib.hid hb; clear hr hb) | (go_at_call 62; (with_reducible refine (CB.out _).mono ?_); rintro e W ⟨rfl, B⟩; have hr := HR.out.keep B HR.out.lt; have hb := HB.out.trans (B.mono HB.out.size); clear HR HB B; have HR := Lib.hid hr; have HB := Lib.hid hb; have c0 := hr.c0; have c1 := hr.c1; have f0 := hr.f 0; have f1 := hr.f 1; have hs := hr.s0 (.string x1); have d1 := hs.c1; have g1 := hs.f 1; have HS := Lib.hid (hs.s1 (.string x2)); have HBS := Lib.hid ((hb.setCell (p := ⟨w.heap.size, 0, none⟩) (Nat.le_refl _) (.string x1)).setCell (p := ⟨w.heap.size, 1, none⟩) (Nat.le_refl _) (.string x2)); clear hr hb hs))
    refine bodyPost_ret (results_ratio rfl _ _ w.heap.size _ _ rfl HS.out) rfl ?_
    exact ⟨rfl, HBS.out⟩

end Go.Proofs.YtdnbhgkbfbgnaaaGreatDoor


namespace Go.Proofs.YtdnbhgkbfbgnaaaGreatDoor
open Go.RowKit

theorem RBlk.alloc {w : World} {g : Nat} {x y : Value} (h : RBlk w g x y) (o : Obj) : RBlk (w.alloc o) g x y := (Go.heap_alloc_old _ _ h.lt).trans h
theorem two_ratios (w : World) (x1 y1 x2 y2 : Value) :
    RBlk ((w.alloc (.cells #[x1, y1] 23)).alloc (.cells #[x2, y2] 23)) w.heap.size x1 y1 ∧ RBlk ((w.alloc (.cells #[x1, y1] 23)).alloc (.cells #[x2, y2] 23)) (w.heap.size + 1) x2 y2 := by
  refine ⟨(RBlk.new w x1 y1).alloc _, ?_⟩
  have h := RBlk.new (w.alloc (.cells #[x1, y1] 23)) x2 y2
  rwa [World.size_alloc] at h
theorem er_or (z : Int) : (er z = 0 ∧ decide (z.natAbs < 10 ^ 200) = true) ∨ (er z = 30 ∧ decide (z.natAbs < 10 ^ 200) = false) := by
  unfold er
  by_cases h : z.natAbs < 10 ^ 200
  · exact .inl ⟨if_pos h, decide_eq_true h⟩
  · exact .inr ⟨if_neg h, decide_eq_false h⟩

variable (s1 s2 s3 s4 : ByteArray) (L1 L2 L3 L4 : List UInt8) (w : World) (hL1 : s1.data.toList = L1) (hL2 : s2.data.toList = L2) (hL3 : s3.data.toList = L3) (hL4 : s4.data.toList = L4) (hl1 : L1.length ≤ 60000) (hl2 : L2.length ≤ 60000) (hl3 : L3.length ≤ 60000) (hl4 : L4.length ≤ 60000)
include hL1 hL2 hL3 hL4 hl1 hl2 hl3 hl4
end Go.Proofs.YtdnbhgkbfbgnaaaGreatDoor


namespace Go.Proofs.YtdnbhgkbfbgnaaaGreatDoor
open Go.RowKit

/-- a fraction in lowest terms, of a numerator and a positive denominator -/
def fr (n d : Int) : ByteArray × ByteArray := (S (n / (Nat.gcd n.natAbs d.natAbs : Nat)), S (d / (Nat.gcd n.natAbs d.natAbs : Nat)))
theorem three_ratios (w : World) (x1 y1 x2 y2 x3 y3 : Value) :
    RBlk (((w.alloc (.cells #[x1, y1] 23)).alloc (.cells #[x2, y2] 23)).alloc (.cells #[x3, y3] 23)) w.heap.size x1 y1 ∧ RBlk (((w.alloc (.cells #[x1, y1] 23)).alloc (.cells #[x2, y2] 23)).alloc (.cells #[x3, y3] 23)) (w.heap.size + 1) x2 y2 ∧ RBlk (((w.alloc (.cells #[x1, y1] 23)).alloc (.cells #[x2, y2] 23)).alloc (.cells #[x3, y3] 23)) (w.heap.size + 1 + 1) x3 y3 := by
  obtain ⟨r1, r2⟩ := two_ratios w x1 y1 x2 y2
  have h := RBlk.new ((w.alloc (.cells #[x1, y1] 23)).alloc (.cells #[x2, y2] 23)) x3 y3
  rw [World.size_alloc, World.size_alloc] at h
  exact ⟨r1.alloc _, r2.alloc _, h⟩
theorem rs_S {z : Int} (h : z.natAbs < 10 ^ 200) : (⟨(rs z).toArray⟩ : ByteArray) = S z := by rw [rs, if_pos h]; rfl
/-- what an operation answers -/
def opR (ok : Bool) (n d : Int) : Value := if ok then .tuple #[.agg #[.string (fr n d).1, .string (fr n d).2], .int .i64 0] else .tuple #[.agg #[.string ⟨#[]⟩, .string ⟨#[]⟩], .int .i64 40]
def fits (z : Int) : Bool := decide (z.natAbs < 10 ^ 200)

variable (s1 s2 s3 s4 : ByteArray) (L1 L2 L3 L4 : List UInt8) (w : World) (hL1 : s1.data.toList = L1) (hL2 : s2.data.toList = L2) (hL3 : s3.data.toList = L3) (hL4 : s4.data.toList = L4) (hl1 : L1.length ≤ 60000) (hl2 : L2.length ≤ 60000) (hl3 : L3.length ≤ 60000) (hl4 : L4.length ≤ 60000)
include hL1 hL2 hL3 hL4 hl1 hl2 hl3 hl4

end Go.Proofs.YtdnbhgkbfbgnaaaGreatDoor


namespace Go.Proofs.YtdnbhgkbfbgnaaaGreatDoor
open Go.RowKit

def sg (d z : Int) : Int := if d < 0 then -z else z
theorem make_G (n d : Int) (hn : n.natAbs < 10 ^ 200) (hd : d.natAbs < 10 ^ 200) (w : World) :
    Calls Tryz.prog 29 #[.string (S n), .string (S d)] w fun e w' => e = .returned (opR (decide (d ≠ 0)) (sg d n) (sg d d)) ∧ Below w.heap.size w w' := by
  by_cases h0 : d = 0
  · rw [decide_eq_false (by simpa using h0), opR, if_neg (by decide)]
    exact v4Make_no (S n) (S d) (txt n) (txt d) w (S_list n) (S_list d) (S_len hn) (S_len hd) (fun _ => by rw [txt_num]; exact h0)
  · rw [decide_eq_true h0, opR, if_pos rfl]
    have h := v4Make_ok (S n) (S d) (txt n) (txt d) w (S_list n) (S_list d) (txt_vld hn) (txt_vld hd) (by rw [txt_num]; exact h0)
    rw [txt_num, txt_num] at h
    unfold fr sg
    by_cases hneg : d < 0
    · simp only [if_pos hneg] at h ⊢
      rw [Int.natAbs_neg, Int.natAbs_neg]; exact h
    · simp only [if_neg hneg] at h ⊢
      exact h

variable (s1 s2 s3 s4 : ByteArray) (L1 L2 L3 L4 : List UInt8) (w : World) (hL1 : s1.data.toList = L1) (hL2 : s2.data.toList = L2) (hL3 : s3.data.toList = L3) (hL4 : s4.data.toList = L4) (hl1 : L1.length ≤ 60000) (hl2 : L2.length ≤ 60000) (hl3 : L3.length ≤ 60000) (hl4 : L4.length ≤ 60000)
include hL1 hL2 hL3 hL4 hl1 hl2 hl3 hl4

end Go.Proofs.YtdnbhgkbfbgnaaaGreatDoor


namespace Go.Proofs.YtdnbhgkbfbgnaaaGreatDoor
open Go.RowKit

theorem res_f (z : Int) : res false z = [] := rfl
theorem ree_f (z : Int) : ree false z = 30 := rfl

set_option maxRecDepth 100000 in
set_option maxHeartbeats 2000000 in
theorem qValid_any (s1 s2 : ByteArray) (L1 L2 : List UInt8) (w : World) (hL1 : s1.data.toList = L1) (hL2 : s2.data.toList = L2) (hl1 : L1.length ≤ 60000) (hl2 : L2.length ≤ 60000) :
    Calls Tryz.prog 30 #[.agg #[.string s1, .string s2]] w fun e w' => e = .returned (.bool (vR L1 L2)) ∧ Below w.heap.size w w' := by
  have cg := fun W => Gcd_any s1 s2 L1 L2 W hL1 hL2 hl1 hl2
  have cc := fun W => Compare_any s2 ⟨#[48]⟩ L2 [48] W hL2 rfl hl2 (by decide)
  have sb := SB.new w s1 s2 23
  have HB := Lib.hid (below_alloc w (.cells #[.string s1, .string s2] 23))
  have e0 := sb.2.1
  have e1 := sb.2.2
  have HS := Lib.hid sb
  clear sb
  cases hv : vld L1 && vld L2
  · rw [vR, hv, Bool.false_and, Bool.false_and]
    rw [hv, ree_f, res_f] at cg
    have CG := Lib.hid cg
    clear cg cc hL1 hL2 hl1 hl2 hv
    go_enter Tryz.func30, Tryz.ntmps30
    go_wp2_with (go_at_call 75; (with_reducible refine (CG.out _).mono ?_); rintro e w2 ⟨rfl, B2⟩; have HB2 := Lib.hid (HB.out.trans (B2.mono HB.out.size)); clear B2)
    go_ret
    exact ⟨rfl, HB2.out⟩
  · have hb := (Bool.and_eq_true _ _).mp hv
    have hg9 := gcd_lt hb.1 hb.2
    rw [hv, res, ree, rs, er, if_pos rfl, if_pos rfl, Int.natAbs_natCast, if_pos hg9, if_pos hg9] at cg
    rw [hb.2, show vld [48] = true by decide, Bool.and_true, if_pos rfl, show num [48] = 0 by decide] at cc
    rw [vR, hv, Bool.true_and]
    have hq := S1_tl ((Nat.gcd (num L1).natAbs (num L2).natAbs : Nat) : Int)
    have hd : decide (((Nat.gcd (num L1).natAbs (num L2).natAbs : Nat) : Int) = 1) = decide (Nat.gcd (num L1).natAbs (num L2).natAbs = 1) := by rw [decide_eq_decide]; omega
    rw [hd] at hq
    change (ByteArray.toList ⟨(txt ((Nat.gcd (num L1).natAbs (num L2).natAbs : Nat) : Int)).toArray⟩ == [49]) = _ at hq
    have hp : decide (0 < num L2) = decide (cmpN (num L2) 0 > 0) := by
      rw [decide_eq_decide, cmpN]; split <;> (try split) <;> omega
    rw [hp]
    generalize decide (Nat.gcd (num L1).natAbs (num L2).natAbs = 1) = B at *
    generalize (txt ((Nat.gcd (num L1).natAbs (num L2).natAbs : Nat) : Int)).toArray = g at *
    generalize cmpN (num L2) 0 = z at *
    have CG := Lib.hid cg
    have CC := Lib.hid cc
    clear cg cc hL1 hL2 hl1 hl2 hv hb hg9 hd hp
    cases B
    · rw [Bool.and_false]
      go_enter Tryz.func30, Tryz.ntmps30
      go_wp2_with (go_at_call 75; (with_reducible refine (CG.out _).mono ?_); rintro e w2 ⟨rfl, B2⟩; have HB2 := Lib.hid (HB.out.trans (B2.mono HB.out.size)); clear B2)
      go_ret
      exact ⟨rfl, HB2.out⟩
    · rw [Bool.and_true]
      go_enter Tryz.func30, Tryz.ntmps30
      go_wp2_with (first | (go_at_call 75; (with_reducible refine (CG.out _).mono ?_); rintro e w2 ⟨rfl, B2⟩; have sb := HS.out.keep B2; have f0 := sb.2.1; have f1 := sb.2.2; have HB2 := Lib.hid (HB.out.trans (B2.mono HB.out.size)); clear sb B2) | (go_at_call 61; (with_reducible refine (CC.out _).mono ?_); rintro e w3 ⟨rfl, B3⟩; have HB3 := Lib.hid (HB2.out.trans (B3.mono HB2.out.size)); clear B3))
      go_ret
      exact ⟨rfl, HB3.out⟩
end Go.Proofs.YtdnbhgkbfbgnaaaGreatDoor


namespace Go.Proofs.YtdnbhgkbfbgnaaaGreatDoor
open Go.RowKit

/-- a fraction's value -/
def RV (q : Rat) : Value := .agg #[.string (S q.num), .string (S (q.den : Int))]
def RZ : Value := .agg #[.string ⟨#[]⟩, .string ⟨#[]⟩]
def opQ (ok : Bool) (q : Rat) : Value := if ok then .tuple #[RV q, .int .i64 0] else .tuple #[RZ, .int .i64 40]
/-- both parts have at most so many digits -/
def fitR (k : Nat) (q : Rat) : Prop := q.num.natAbs < 10 ^ k ∧ q.den < 10 ^ k
theorem fitR.wide {k l : Nat} {q : Rat} (h : fitR k q) (hl : k ≤ l) : fitR l q :=
  ⟨Nat.lt_of_lt_of_le h.1 (Nat.pow_le_pow_right (by decide) hl), Nat.lt_of_lt_of_le h.2 (Nat.pow_le_pow_right (by decide) hl)⟩
theorem RV_inj {p q : Rat} (h : RV p = RV q) : p = q := by
  unfold RV at h
  have h1 : S p.num = S q.num ∧ S (p.den : Int) = S (q.den : Int) := by simpa using h
  refine Rat.ext (S_inj h1.1) ?_
  have := S_inj h1.2
  omega
theorem den_pos (q : Rat) : (0 : Int) < (q.den : Int) := by have := q.den_pos; omega

theorem fr_R (n d : Int) (h : 0 < d) : fr n d = (S (mkRat n d.toNat).num, S ((mkRat n d.toNat).den : Int)) := by
  obtain ⟨k, rfl⟩ : ∃ k : Nat, d = (k : Int) := ⟨d.toNat, by omega⟩
  have hk : k ≠ 0 := by omega
  rw [fr, Int.toNat_natCast, Rat.num_mkRat, Rat.den_mkRat, if_neg hk, if_neg hk, Int.natAbs_natCast, Nat.gcd_comm k, Int.natCast_ediv]
theorem opR_R (ok : Bool) (n d : Int) (h : ok = true → 0 < d) : opR ok n d = opQ ok (mkRat n d.toNat) := by
  cases ok
  · rw [opR, opQ, if_neg (by decide), if_neg (by decide)]; rfl
  · rw [opR, opQ, if_pos rfl, if_pos rfl, fr_R n d (h rfl)]; rfl
theorem vR_q (q : Rat) (h : fitR 200 q) : vR (txt q.num) (txt (q.den : Int)) = true := by
  rw [vR, txt_vld h.1, txt_vld (by rw [Int.natAbs_natCast]; exact h.2), txt_num, txt_num, Int.natAbs_natCast, decide_eq_true (den_pos q), decide_eq_true (show Nat.gcd q.num.natAbs q.den = 1 from q.reduced)]
  rfl
theorem vR_parts2 {L1 L2 : List UInt8} (h : vR L1 L2 = true) : vld L1 = true ∧ vld L2 = true ∧ 0 < num L2 ∧ Nat.gcd (num L1).natAbs (num L2).natAbs = 1 := by
  rw [vR, Bool.and_eq_true, Bool.and_eq_true, Bool.and_eq_true] at h
  exact ⟨h.1.1.1, h.1.1.2, of_decide_eq_true h.1.2, of_decide_eq_true h.2⟩
theorem vR_R {L1 L2 : List UInt8} (h : vR L1 L2 = true) : ∃ q : Rat, L1 = txt q.num ∧ L2 = txt (q.den : Int) ∧ fitR 200 q := by
  obtain ⟨h1, h2, h3, h4⟩ := vR_parts2 h
  have e1 := (vld_txt h1).2
  have e2 := (vld_txt h2).2
  refine ⟨⟨num L1, (num L2).natAbs, by omega, h4⟩, (txt_lit h1).symm, ?_, e1, e2⟩
  show L2 = txt (((num L2).natAbs : Nat) : Int)
  rw [show (((num L2).natAbs : Nat) : Int) = num L2 by omega, txt_lit h2]
theorem S_of {s : ByteArray} {L : List UInt8} {z : Int} (h : s.data.toList = L) (e : L = txt z) : s = S z := by
  have : s.data.toList = (S z).data.toList := by rw [h, e, S_list]
  cases s with | mk d => rw [S]; congr 1; rw [← e, ← h]

theorem div_R (a b : Rat) : a / b = Rat.divInt (a.num * b.den) (a.den * b.num) := by
  rw [Rat.div_def, Rat.inv_def]
  conv => lhs; rw [← Rat.num_divInt_den a]
  rw [Rat.divInt_mul_divInt]
theorem sg_R (x d : Int) : mkRat (sg d x) (sg d d).toNat = Rat.divInt x d := by
  unfold sg
  by_cases hd : d < 0
  · rw [if_pos hd, if_pos hd, ← Rat.neg_divInt_neg x d, ← Rat.divInt_ofNat]
    congr 1; omega
  · rw [if_neg hd, if_neg hd, ← Rat.divInt_ofNat]
    congr 1; omega
theorem sg_pos {d : Int} (h : d ≠ 0) : 0 < sg d d := by unfold sg; split <;> omega
/-- what the sums and products of two fractions must keep -/
def okA (a b : Rat) : Bool := fits (a.num * b.den) && fits (b.num * a.den) && fits (a.den * b.den) && fits (a.num * b.den + b.num * a.den)
def okD (a b : Rat) : Bool := fits (a.num * b.den) && fits (a.den * b.num) && decide (b.num ≠ 0)
/-- the order, as a number -/
def cmpR (a b : Rat) : Int := if a < b then -1 else if b < a then 1 else 0
theorem cmpR_N (a b : Rat) : cmpN (a.num * b.den) (b.num * a.den) = cmpR a b := by
  rw [cmpN, cmpR]
  by_cases h : a.num * b.den < b.num * a.den
  · rw [if_pos h, if_pos ((Rat.lt_iff a b).2 h)]
  · rw [if_neg h, if_neg (fun e => h ((Rat.lt_iff a b).1 e))]
    by_cases h2 : b.num * a.den < a.num * b.den
    · rw [if_pos h2, if_pos ((Rat.lt_iff b a).2 h2)]
    · rw [if_neg h2, if_neg (fun e => h2 ((Rat.lt_iff b a).1 e))]
/-- a fraction made of numbers that fit, fits -/
theorem mk_fit {n : Int} {d k : Nat} (hn : n.natAbs < 10 ^ k) (hd : d < 10 ^ k) (h0 : 0 < d) : fitR k (mkRat n d) := by
  have hd0 : d ≠ 0 := by omega
  constructor
  · rw [Rat.num_mkRat, if_neg hd0]
    exact Nat.lt_of_le_of_lt (Int.natAbs_ediv_le_natAbs _ _) hn
  · rw [Rat.den_mkRat, if_neg hd0]
    exact Nat.lt_of_le_of_lt (Nat.div_le_self _ _) hd
end Go.Proofs.YtdnbhgkbfbgnaaaGreatDoor


namespace Go.Proofs.YtdnbhgkbfbgnaaaGreatDoor
open Go.RowKit

/-- the greatest multiple below -/
def dnN (q : Rat) (t : Nat) : Int := (q.num * t) / q.den
def upN (q : Rat) (t : Nat) : Int := if (q.num * t) % q.den = 0 then (q.num * t) / q.den else (q.num * t) / q.den + 1
end Go.Proofs.YtdnbhgkbfbgnaaaGreatDoor


namespace Go.Proofs.YtdnbhgkbfbgnaaaGreatDoor
open Go.RowKit

set_option maxRecDepth 100000 in
set_option maxHeartbeats 2000000 in
theorem reduced_no (s1 s2 : ByteArray) (L1 L2 : List UInt8) (w : World) (hL1 : s1.data.toList = L1) (hL2 : s2.data.toList = L2) (hl1 : L1.length ≤ 60000) (hl2 : L2.length ≤ 60000) (hv : (vld L1 && vld L2) = true → num L2 = 0) :
    Calls Tryz.prog 70 #[.agg #[.string s1, .string s2]] w fun e w' => e = .returned (.tuple #[.agg #[.string ⟨#[]⟩, .string ⟨#[]⟩], .int .i64 40]) ∧ Below w.heap.size w w' := by
  have cg := fun W => Gcd_any s1 s2 L1 L2 W hL1 hL2 hl1 hl2
  obtain ⟨r1, r2⟩ := two_ratios w (.string s1) (.string s2) (.string ⟨#[]⟩) (.string ⟨#[]⟩)
  have HB := Lib.hid ((below_alloc w (.cells #[.string s1, .string s2] 23)).alloc (by rw [World.size_alloc]; omega) (.cells #[.string ⟨#[]⟩, .string ⟨#[]⟩] 23))
  have a0 := r1.c0
  have a1 := r1.c1
  have HR := Lib.hid (And.intro r1 r2)
  clear r1 r2
  cases hb : vld L1 && vld L2
  · rw [hb, ree_f, res_f] at cg
    have CG := Lib.hid cg
    clear cg hL1 hL2 hl1 hl2 hv hb
    go_enter Tryz.func70, Tryz.ntmps70
    go_wp2_with (go_at_call 75; (with_reducible refine (CG.out _).mono ?_); rintro e W ⟨rfl, B⟩; have hr := (And.intro (HR.out.1.keep B HR.out.1.lt) (HR.out.2.keep B HR.out.2.lt)); have hb := HB.out.trans (B.mono HB.out.size); clear HR HB B a0 a1; have HR := Lib.hid hr; have HB := Lib.hid hb; have a0 := hr.1.c0; have a1 := hr.1.c1; have c0 := hr.2.c0; have c1 := hr.2.c1; have f0 := hr.2.f 0; have f1 := hr.2.f 1; have hs := hr.2.s0 (.string ⟨#[]⟩); have d1 := hs.c1; have g1 := hs.f 1; have HS := Lib.hid (hs.s1 (.string ⟨#[]⟩)); have HBS := Lib.hid ((hb.setCell (p := ⟨w.heap.size + 1, 0, none⟩) (by show w.heap.size ≤ w.heap.size + 1; omega) (.string ⟨#[]⟩)).setCell (p := ⟨w.heap.size + 1, 1, none⟩) (by show w.heap.size ≤ w.heap.size + 1; omega) (.string ⟨#[]⟩)); clear hr hb hs)
    refine bodyPost_ret (results_ratio rfl _ _ (w.heap.size + 1) _ _ rfl HS.out) rfl ?_
    exact ⟨rfl, HBS.out⟩
  · have h0 := hv hb
    have hp := (Bool.and_eq_true _ _).mp hb
    have hg9 := gcd_lt hp.1 hp.2
    rw [hb, res, ree, rs, er, if_pos rfl, if_pos rfl, Int.natAbs_natCast, if_pos hg9, if_pos hg9] at cg
    have ht : (s2.toList == [48]) = true := by
      have := txt_lit hp.2
      rw [h0] at this
      rw [ByteArray.toList_eq, hL2, ← this]; rfl
    generalize (txt ((Nat.gcd (num L1).natAbs (num L2).natAbs : Nat) : Int)).toArray = g at *
    have CG := Lib.hid cg
    clear cg hL1 hL2 hl1 hl2 hv hb h0 hp hg9
    go_enter Tryz.func70, Tryz.ntmps70
    go_wp2_with (go_at_call 75; (with_reducible refine (CG.out _).mono ?_); rintro e W ⟨rfl, B⟩; have hr := (And.intro (HR.out.1.keep B HR.out.1.lt) (HR.out.2.keep B HR.out.2.lt)); have hb := HB.out.trans (B.mono HB.out.size); clear HR HB B a0 a1; have HR := Lib.hid hr; have HB := Lib.hid hb; have a0 := hr.1.c0; have a1 := hr.1.c1; have c0 := hr.2.c0; have c1 := hr.2.c1; have f0 := hr.2.f 0; have f1 := hr.2.f 1; have hs := hr.2.s0 (.string ⟨#[]⟩); have d1 := hs.c1; have g1 := hs.f 1; have HS := Lib.hid (hs.s1 (.string ⟨#[]⟩)); have HBS := Lib.hid ((hb.setCell (p := ⟨w.heap.size + 1, 0, none⟩) (by show w.heap.size ≤ w.heap.size + 1; omega) (.string ⟨#[]⟩)).setCell (p := ⟨w.heap.size + 1, 1, none⟩) (by show w.heap.size ≤ w.heap.size + 1; omega) (.string ⟨#[]⟩)); clear hr hb hs)
    refine bodyPost_ret (results_ratio rfl _ _ (w.heap.size + 1) _ _ rfl HS.out) rfl ?_
    exact ⟨rfl, HBS.out⟩

theorem neg_g {n : Int} {g : Nat} (h : (g : Int) ∣ n) : n / (-(g : Int)) = (-n) / (g : Int) := by
  rw [Int.ediv_neg, Int.neg_ediv_of_dvd h]
theorem gcd_dv (n d : Int) : ((Nat.gcd n.natAbs d.natAbs : Nat) : Int) ∣ n ∧ ((Nat.gcd n.natAbs d.natAbs : Nat) : Int) ∣ d :=
  ⟨Int.ofNat_dvd_left.2 (Nat.gcd_dvd_left _ _), Int.ofNat_dvd_left.2 (Nat.gcd_dvd_right _ _)⟩

set_option maxRecDepth 100000 in
set_option maxHeartbeats 2000000 in
theorem reduced_S (n d : Int) (w : World) (hn : n.natAbs < 10 ^ 200) (hd : d.natAbs < 10 ^ 200) (h0 : d ≠ 0) :
    Calls Tryz.prog 70 #[.agg #[.string (S n), .string (S d)]] w fun e w' => e = .returned (.tuple #[.agg #[.string (fr (sg d n) (sg d d)).1, .string (fr (sg d n) (sg d d)).2], .int .i64 0]) ∧ Below w.heap.size w w' := by
  have hg9 : Nat.gcd n.natAbs d.natAbs < 10 ^ 200 := by
    have := gcd_le n.natAbs d.natAbs
    omega
  have hg0 : 0 < Nat.gcd n.natAbs d.natAbs := Nat.gcd_pos_of_pos_right _ (by omega)
  have cg := fun W => Gcd_S n d hn hd (by rw [Int.natAbs_natCast]; exact hg9) W
  have cc := fun W => Compare_S d 0 hd (by decide) W
  have ht : ((S d).toList == [48]) = false := by
    rw [ByteArray.toList_eq, S_list, show ([48] : List UInt8) = txt 0 by rw [← S_list, S_zero], beq_eq_false_iff_ne]
    exact fun e => h0 (txt_inj e)
  obtain ⟨v1, v2⟩ := gcd_dv n d
  by_cases hneg : d < 0
  · rw [cmpN, if_pos hneg] at cc
    rw [sg, sg, if_pos hneg, if_pos hneg, fr, Int.natAbs_neg, Int.natAbs_neg, ← neg_g v1, ← neg_g v2]
    have cs := fun W => Sub_S 0 ((Nat.gcd n.natAbs d.natAbs : Nat) : Int) (by decide) (by omega) (by omega) W
    rw [Int.zero_sub] at cs
    have ca := fun W => Div_S n (-((Nat.gcd n.natAbs d.natAbs : Nat) : Int)) hn (by omega) (by omega) W
    have cb := fun W => Div_S d (-((Nat.gcd n.natAbs d.natAbs : Nat) : Int)) hd (by omega) (by omega) W
    rw [S_zero] at cc cs
    generalize Nat.gcd n.natAbs d.natAbs = g at *
    generalize S (n / -(g : Int)) = x1 at *
    generalize S (n % -(g : Int)) = y1 at *
    generalize S (d / -(g : Int)) = x2 at *
    generalize S (d % -(g : Int)) = y2 at *
    generalize S (-(g : Int)) = a2 at *
    generalize S (g : Int) = gs at *
    generalize S n = s1 at *
    generalize S d = s2 at *
    have CG := Lib.hid cg
    have CC := Lib.hid cc
    have CS := Lib.hid cs
    have CA := Lib.hid ca
    have CB := Lib.hid cb
    clear cg cc cs ca cb hn hd h0 hg9 hg0 v1 v2 hneg
    obtain ⟨r1, r2⟩ := two_ratios w (.string s1) (.string s2) (.string ⟨#[]⟩) (.string ⟨#[]⟩)
    have HB := Lib.hid ((below_alloc w (.cells #[.string s1, .string s2] 23)).alloc (by rw [World.size_alloc]; omega) (.cells #[.string ⟨#[]⟩, .string ⟨#[]⟩] 23))
    have a0 := r1.c0
    have a1 := r1.c1
    have HR := Lib.hid (And.intro r1 r2)
    clear r1 r2
    go_enter Tryz.func70, Tryz.ntmps70
    go_wp2_with (first | (go_at_call 75; (with_reducible refine (CG.out _).mono ?_); rintro e W ⟨rfl, B⟩; have hr := (And.intro (HR.out.1.keep B HR.out.1.lt) (HR.out.2.keep B HR.out.2.lt)); have hb := HB.out.trans (B.mono HB.out.size); clear HR HB B a0 a1; have HR := Lib.hid hr; have HB := Lib.hid hb; have a0 := hr.1.c0; have a1 := hr.1.c1; clear hr hb) | (go_at_call 61; (with_reducible refine (CC.out _).mono ?_); rintro e W ⟨rfl, B⟩; have hr := (And.intro (HR.out.1.keep B HR.out.1.lt) (HR.out.2.keep B HR.out.2.lt)); have hb := HB.out.trans (B.mono HB.out.size); clear HR HB B a0 a1; have HR := Lib.hid hr; have HB := Lib.hid hb; have a0 := hr.1.c0; have a1 := hr.1.c1; clear hr hb) | (go_at_call 82; (with_reducible refine (CS.out _).mono ?_); rintro e W ⟨rfl, B⟩; have hr := (And.intro (HR.out.1.keep B HR.out.1.lt) (HR.out.2.keep B HR.out.2.lt)); have hb := HB.out.trans (B.mono HB.out.size); clear HR HB B a0 a1; have HR := Lib.hid hr; have HB := Lib.hid hb; have a0 := hr.1.c0; have a1 := hr.1.c1; clear hr hb) | (go_at_call 60; (with_reducible refine (CA.out _).mono ?_); rintro e W ⟨rfl, B⟩; have hr := (And.intro (HR.out.1.keep B HR.out.1.lt) (HR.out.2.keep B HR.out.2.lt)); have hb := HB.out.trans (B.mono HB.out.size); clear HR HB B a0 a1; have HR := Lib.hid hr; have HB := Lib.hid hb; have a0 := hr.1.c0; have a1 := hr.1.c1; clear hr hb) | (go_at_call 60; (with_reducible refine (CB.out _).mono ?_); rintro e W ⟨rfl, B⟩; have hr := (And.intro (HR.out.1.keep B HR.out.1.lt) (HR.out.2.keep B HR.out.2.lt)); have hb := HB.out.trans (B.mono HB.out.size); clear HR HB B a0 a1; have HR := Lib.hid hr; have HB := Lib.hid hb; have a0 := hr.1.c0; have a1 := hr.1.c1; have c0 := hr.2.c0; have c1 := hr.2.c1; have f0 := hr.2.f 0; have f1 := hr.2.f 1; have hs := hr.2.s0 (.string x1); have d1 := hs.c1; have g1 := hs.f 1; have HS := Lib.hid (hs.s1 (.string x2)); have HBS := Lib.hid ((hb.setCell (p := ⟨w.heap.size + 1, 0, none⟩) (by show w.heap.size ≤ w.heap.size + 1; omega) (.string x1)).setCell (p := ⟨w.heap.size + 1, 1, none⟩) (by show w.heap.size ≤ w.heap.size + 1; omega) (.string x2)); clear hr hb hs))
    refine bodyPost_ret (results_ratio rfl _ _ (w.heap.size + 1) _ _ rfl HS.out) rfl ?_
    exact ⟨rfl, HBS.out⟩
  · have hc : cmpN d 0 = 1 := by rw [cmpN, if_neg hneg, if_pos (by omega)]
    rw [hc] at cc
    rw [sg, sg, if_neg hneg, if_neg hneg, fr]
    have ca := fun W => Div_S n ((Nat.gcd n.natAbs d.natAbs : Nat) : Int) hn (by omega) (by omega) W
    have cb := fun W => Div_S d ((Nat.gcd n.natAbs d.natAbs : Nat) : Int) hd (by omega) (by omega) W
    rw [S_zero] at cc
    generalize Nat.gcd n.natAbs d.natAbs = g at *
    generalize S (n / (g : Int)) = x1 at *
    generalize S (n % (g : Int)) = y1 at *
    generalize S (d / (g : Int)) = x2 at *
    generalize S (d % (g : Int)) = y2 at *
    generalize S (g : Int) = gs at *
    generalize S n = s1 at *
    generalize S d = s2 at *
    have CG := Lib.hid cg
    have CC := Lib.hid cc
    have CA := Lib.hid ca
    have CB := Lib.hid cb
    clear cg cc ca cb hn hd h0 hg9 hg0 v1 v2 hneg hc
    obtain ⟨r1, r2⟩ := two_ratios w (.string s1) (.string s2) (.string ⟨#[]⟩) (.string ⟨#[]⟩)
    have HB := Lib.hid ((below_alloc w (.cells #[.string s1, .string s2] 23)).alloc (by rw [World.size_alloc]; omega) (.cells #[.string ⟨#[]⟩, .string ⟨#[]⟩] 23))
    have a0 := r1.c0
    have a1 := r1.c1
    have HR := Lib.hid (And.intro r1 r2)
    clear r1 r2
    go_enter Tryz.func70, Tryz.ntmps70
    go_wp2_with (first | (go_at_call 75; (with_reducible refine (CG.out _).mono ?_); rintro e W ⟨rfl, B⟩; have hr := (And.intro (HR.out.1.keep B HR.out.1.lt) (HR.out.2.keep B HR.out.2.lt)); have hb := HB.out.trans (B.mono HB.out.size); clear HR HB B a0 a1; have HR := Lib.hid hr; have HB := Lib.hid hb; have a0 := hr.1.c0; have a1 := hr.1.c1; clear hr hb) | (go_at_call 61; (with_reducible refine (CC.out _).mono ?_); rintro e W ⟨rfl, B⟩; have hr := (And.intro (HR.out.1.keep B HR.out.1.lt) (HR.out.2.keep B HR.out.2.lt)); have hb := HB.out.trans (B.mono HB.out.size); clear HR HB B a0 a1; have HR := Lib.hid hr; have HB := Lib.hid hb; have a0 := hr.1.c0; have a1 := hr.1.c1; clear hr hb) | (go_at_call 60; (with_reducible refine (CA.out _).mono ?_); rintro e W ⟨rfl, B⟩; have hr := (And.intro (HR.out.1.keep B HR.out.1.lt) (HR.out.2.keep B HR.out.2.lt)); have hb := HB.out.trans (B.mono HB.out.size); clear HR HB B a0 a1; have HR := Lib.hid hr; have HB := Lib.hid hb; have a0 := hr.1.c0; have a1 := hr.1.c1; clear hr hb) | (go_at_call 60; (with_reducible refine (CB.out _).mono ?_); rintro e W ⟨rfl, B⟩; have hr := (And.intro (HR.out.1.keep B HR.out.1.lt) (HR.out.2.keep B HR.out.2.lt)); have hb := HB.out.trans (B.mono HB.out.size); clear HR HB B a0 a1; have HR := Lib.hid hr; have HB := Lib.hid hb; have a0 := hr.1.c0; have a1 := hr.1.c1; have c0 := hr.2.c0; have c1 := hr.2.c1; have f0 := hr.2.f 0; have f1 := hr.2.f 1; have hs := hr.2.s0 (.string x1); have d1 := hs.c1; have g1 := hs.f 1; have HS := Lib.hid (hs.s1 (.string x2)); have HBS := Lib.hid ((hb.setCell (p := ⟨w.heap.size + 1, 0, none⟩) (by show w.heap.size ≤ w.heap.size + 1; omega) (.string x1)).setCell (p := ⟨w.heap.size + 1, 1, none⟩) (by show w.heap.size ≤ w.heap.size + 1; omega) (.string x2)); clear hr hb hs))
    refine bodyPost_ret (results_ratio rfl _ _ (w.heap.size + 1) _ _ rfl HS.out) rfl ?_
    exact ⟨rfl, HBS.out⟩
end Go.Proofs.YtdnbhgkbfbgnaaaGreatDoor


namespace Go.Proofs.YtdnbhgkbfbgnaaaGreatDoor
open Go.RowKit

set_option maxRecDepth 100000 in
set_option maxHeartbeats 4000000 in
theorem build_any (k g cap : Nat) (fs : Nat → Value) (M : Nat → ByteArray × ByteArray) (E : Nat → Int) (w : World) (hk : k ≤ 10) (hkc : k ≤ cap)
    (hg : g < w.heap.size) (hrow : ∀ i, i < k → w.cell? ⟨g, i, none⟩ = some (fs i))
    (hM : M 0 = (⟨#[]⟩, ⟨#[]⟩)) (hE : E 0 = 0)
    (hst : ∀ i, i < k → E i = 0 → ∃ f caps, fs i = .func (.func f) #[] caps ∧ (∀ args W, (callFunc f args).run Tryz.prog W = .ok (.enter f args) W) ∧ ∀ W, Below w.heap.size w W → Calls Tryz.prog f (#[.agg #[.string (M i).1, .string (M i).2]] ++ caps) W fun e w' => e = .returned (.tuple #[.agg #[.string (M (i + 1)).1, .string (M (i + 1)).2], .int .i64 (E (i + 1))]) ∧ Below W.heap.size W w')
    (hsk : ∀ i, i < k → E i ≠ 0 → M (i + 1) = M i ∧ E (i + 1) = E i) :
    Calls Tryz.prog 66 #[.slice (some ⟨g, 0, none⟩) k cap] w fun e w' => e = .returned (.tuple #[.agg #[.string (M k).1, .string (M k).2], .int .i64 (E k)]) ∧ Below w.heap.size w w' := by
  obtain ⟨r1, r2⟩ := two_ratios w (.string ⟨#[]⟩) (.string ⟨#[]⟩) (.string ⟨#[]⟩) (.string ⟨#[]⟩)
  have hb := ((below_alloc w (.cells #[.string ⟨#[]⟩, .string ⟨#[]⟩] 23)).alloc (by rw [World.size_alloc]; omega) (.cells #[.string ⟨#[]⟩, .string ⟨#[]⟩] 23))
  have HR0 := Lib.hid (And.intro r1 (And.intro r2 hb))
  have HROW := Lib.hid hrow
  have HST := Lib.hid hst
  have HSK := Lib.hid hsk
  have H0 := Lib.hid (And.intro hM hE)
  clear r1 r2 hb hrow hst hsk hM hE
  go_enter Tryz.func66, Tryz.ntmps66
  go_wp2
  go_loopw [5, 11] (fun e i wr => ∃ n : Nat, n ≤ k ∧ i = .int .i64 (n : Int) ∧ e = .int .i64 (E n) ∧ Hid (RBlk wr w.heap.size (.string ⟨#[]⟩) (.string ⟨#[]⟩)) ∧ Hid (RBlk wr (w.heap.size + 1) (.string (M n).1) (.string (M n).2)) ∧ Hid (Below w.heap.size w wr)) (fun _ i _ => k - (intOf i).toNat)
  case atStart => exact ⟨0, by omega, rfl, by rw [H0.out.2], Lib.hid HR0.out.1, Lib.hid (by rw [H0.out.1]; exact HR0.out.2.1), Lib.hid HR0.out.2.2⟩
  case round =>
    obtain ⟨n, hn, rfl, rfl, hr1, hr2, hb⟩ := hrel
    by_cases hlt : n < k
    · have hc : wr.cell? ⟨g, n, none⟩ = some (fs n) := (hb.out.cell (p := ⟨g, n, none⟩) hg).trans (HROW.out n hlt)
      by_cases hE : E n = 0
      · obtain ⟨f, caps, hf, hen, hcall⟩ := HST.out n hlt hE
        rw [hf] at hc
        have CF := Lib.hid (hcall wr hb.out)
        have m0 := hr2.out.c0
        have m1 := hr2.out.c1
        rw [hE]
        generalize (M n).1 = x at *
        generalize (M n).2 = y at *
        clear hcall hf hE
        go_wp2_with ((with_reducible refine CF.out.mono ?_); rintro e W ⟨rfl, B⟩; have q1 := Lib.hid (hr1.out.keep B hr1.out.lt); have hs := hr2.out.keep B hr2.out.lt; have c0 := hs.c0; have c1 := hs.c1; have f0 := hs.f 0; have f1 := hs.f 1; have hs0 := hs.s0 (.string (M (n + 1)).1); have d1 := hs0.c1; have g1 := hs0.f 1; have HS := Lib.hid (hs0.s1 (.string (M (n + 1)).2)); have h2 := hb.out.trans (B.mono hb.out.size); have HBS := Lib.hid ((h2.setCell (p := ⟨w.heap.size + 1, 0, none⟩) (by show w.heap.size ≤ w.heap.size + 1; omega) (.string (M (n + 1)).1)).setCell (p := ⟨w.heap.size + 1, 1, none⟩) (by show w.heap.size ≤ w.heap.size + 1; omega) (.string (M (n + 1)).2)); have Q1 := Lib.hid ((q1.out.keep ((Below.refl (w.heap.size + 1) W).setCell (p := ⟨w.heap.size + 1, 0, none⟩) (Nat.le_refl _) (.string (M (n + 1)).1)) (by omega)).keep ((Below.refl (w.heap.size + 1) _).setCell (p := ⟨w.heap.size + 1, 1, none⟩) (Nat.le_refl _) (.string (M (n + 1)).2)) (by omega)); clear q1 hs hs0 h2 B hr1 hr2 hb CF)
        go_roundw
        case rel => exact ⟨n + 1, by omega, by go_num, rfl, Q1, HS, HBS⟩
        case measure => simp [intOf]; omega
      · obtain ⟨e1, e2⟩ := HSK.out n hlt hE
        go_wp2
        go_roundw
        case rel => exact ⟨n + 1, by omega, by go_num, by rw [e2], hr1, by rw [e1]; exact hr2, hb⟩
        case measure => simp [intOf]; omega
    · obtain rfl : n = k := by omega
      have m0 := hr2.out.c0
      have m1 := hr2.out.c1
      have c0 := hr1.out.c0
      have c1 := hr1.out.c1
      have f0 := hr1.out.f 0
      have f1 := hr1.out.f 1
      have hs0 := hr1.out.s0 (.string (M n).1)
      have d1 := hs0.c1
      have g1 := hs0.f 1
      have HS := Lib.hid (hs0.s1 (.string (M n).2))
      have HBS := Lib.hid ((hb.out.setCell (p := ⟨w.heap.size, 0, none⟩) (Nat.le_refl _) (.string (M n).1)).setCell (p := ⟨w.heap.size, 1, none⟩) (Nat.le_refl _) (.string (M n).2))
      clear hs0
      go_wp2
      refine bodyPost_ret (results_ratio rfl _ _ w.heap.size _ _ rfl HS.out) rfl ?_
      exact ⟨rfl, HBS.out⟩
end Go.Proofs.YtdnbhgkbfbgnaaaGreatDoor


namespace Go.Proofs.YtdnbhgkbfbgnaaaGreatDoor
open Go.RowKit

/-- a cell that holds a value -/
def CS (w : World) (p : Nat) (v : Value) : Prop := p < w.heap.size ∧ w.cell? ⟨p, 0, none⟩ = some v
theorem CS.lt {w : World} {p : Nat} {v : Value} (h : CS w p v) : p < w.heap.size := h.1
theorem CS.keep {w w' : World} {p : Nat} {v : Value} (h : CS w p v) (hb : Below w.heap.size w w') : CS w' p v :=
  ⟨Nat.lt_of_lt_of_le h.1 hb.size, (hb.cell (p := ⟨p, 0, none⟩) h.1).trans h.2⟩
theorem CS.new (w : World) (v : Value) (t : TypeId) : CS (w.alloc (.cells #[v] t)) w.heap.size v :=
  ⟨by rw [World.size_alloc]; omega, by rw [World.cell?, Go.heap_alloc_new]; rfl⟩
theorem CS.alloc {w : World} {p : Nat} {v : Value} (h : CS w p v) (o : Obj) : CS (w.alloc o) p v := h.keep (below_alloc w o)

set_option maxRecDepth 100000 in
theorem start_any (a : Option Addr) (len cap : Nat) (w : World) :
    Calls Tryz.prog 67 #[.slice a len cap] w fun e w' => e = .returned (.func (.func 122) #[] #[.pointer (some ⟨w.heap.size, 0, none⟩)]) ∧ CS w' w.heap.size (.slice a len cap) ∧ Below w.heap.size w w' := by
  go_enter Tryz.func67, Tryz.ntmps67
  go_wp2
  go_ret
  exact ⟨rfl, CS.new w _ _, below_alloc w _⟩

set_option maxRecDepth 100000 in
theorem qtimes_any (s t : ByteArray) (w : World) :
    Calls Tryz.prog 68 #[.string s, .string t] w fun e w' => e = .returned (.func (.func 123) #[] #[.pointer (some ⟨w.heap.size, 0, none⟩), .pointer (some ⟨w.heap.size + 1, 0, none⟩)]) ∧ (CS w' w.heap.size (.string s) ∧ CS w' (w.heap.size + 1) (.string t)) ∧ Below w.heap.size w w' := by
  go_enter Tryz.func68, Tryz.ntmps68
  go_wp2
  go_ret
  refine ⟨rfl, ⟨(CS.new w _ _).alloc _, ?_⟩, (below_alloc w _).alloc (by rw [World.size_alloc]; omega) _⟩
  have h := CS.new (w.alloc (.cells #[.string s] 9)) (.string t) 9
  rwa [World.size_alloc] at h

set_option maxRecDepth 100000 in
theorem combine1_any (F : Nat) (s t : ByteArray) (w : World) :
    Calls Tryz.prog 80 #[.func (.func F) #[] #[], .string s, .string t] w fun e w' => e = .returned (.func (.func 131) #[] #[.pointer (some ⟨w.heap.size + 1, 0, none⟩), .pointer (some ⟨w.heap.size + 1 + 1, 0, none⟩), .pointer (some ⟨w.heap.size, 0, none⟩)]) ∧ (CS w' w.heap.size (.func (.func F) #[] #[]) ∧ CS w' (w.heap.size + 1) (.string s) ∧ CS w' (w.heap.size + 1 + 1) (.string t)) ∧ Below w.heap.size w w' := by
  go_enter Tryz.func80, Tryz.ntmps80
  go_wp2
  go_ret
  refine ⟨rfl, ⟨((CS.new w _ _).alloc _).alloc _, ?_, ?_⟩, ((below_alloc w _).alloc (by rw [World.size_alloc]; omega) _).alloc (by rw [World.size_alloc, World.size_alloc]; omega) _⟩
  · have h := (CS.new (w.alloc (.cells #[.func (.func F) #[] #[]] 77)) (.string s) 9).alloc (.cells #[.string t] 9)
    rwa [World.size_alloc] at h
  · have h := CS.new ((w.alloc (.cells #[.func (.func F) #[] #[]] 77)).alloc (.cells #[.string s] 9)) (.string t) 9
    rwa [World.size_alloc, World.size_alloc] at h

set_option maxRecDepth 100000 in
set_option maxHeartbeats 4000000 in
theorem start1_any (x0 y0 : ByteArray) (p g k cap : Nat) (u v : Nat → ByteArray) (lu lv : Nat → List UInt8) (w : World) (hk0 : 0 < k) (hk : k ≤ 10) (hkc : k ≤ cap) (hp : CS w p (.slice (some ⟨g, 0, none⟩) k cap)) (hg : g < w.heap.size)
    (hrow : ∀ i, i < k → w.cell? ⟨g, i * 2, none⟩ = some (.string (u i)) ∧ w.cell? ⟨g, i * 2 + 1, none⟩ = some (.string (v i)))
    (hl : ∀ i, i < k → (u i).data.toList = lu i ∧ (v i).data.toList = lv i ∧ (lu i).length ≤ 60000 ∧ (lv i).length ≤ 60000) (B : Bool) (hB : B = true ↔ ∀ i, i < k → vR (lu i) (lv i) = true) :
    Calls Tryz.prog 122 #[.agg #[.string x0, .string y0], .pointer (some ⟨p, 0, none⟩)] w fun e w' => e = .returned (.tuple #[.agg #[.string (if B then u 0 else ⟨#[]⟩), .string (if B then v 0 else ⟨#[]⟩)], .int .i64 (if B then 0 else 40)]) ∧ Below w.heap.size w w' := by
  obtain ⟨r1, r2⟩ := two_ratios w (.string x0) (.string y0) (.string ⟨#[]⟩) (.string ⟨#[]⟩)
  have hbw := ((below_alloc w (.cells #[.string x0, .string y0] 23)).alloc (by rw [World.size_alloc]; omega) (.cells #[.string ⟨#[]⟩, .string ⟨#[]⟩] 23))
  have a0 := r1.c0
  have a1 := r1.c1
  have HR := Lib.hid (And.intro r1 r2)
  have kp := (hbw.cell (p := ⟨p, 0, none⟩) hp.lt).trans hp.2
  have KP := Lib.hid hp
  have HROW := Lib.hid hrow
  have HL := Lib.hid hl
  have HBB := Lib.hid hB
  have HB := Lib.hid hbw
  clear r1 r2 hbw hp hrow hl hB a0 a1
  cases B
  · simp only [Bool.false_eq_true, if_false]
    go_enter Tryz.func122, Tryz.ntmps122
    go_wp2
    go_loopw [9] (fun i wr => ∃ n : Nat, n ≤ k ∧ i = .int .i64 (n : Int) ∧ Hid (∀ i, i < n → vR (lu i) (lv i) = true) ∧ Hid (RBlk wr (w.heap.size + 1) (.string ⟨#[]⟩) (.string ⟨#[]⟩)) ∧ Hid (Below w.heap.size w wr)) (fun i _ => k - (intOf i).toNat)
    case atStart => exact ⟨0, by omega, rfl, Lib.hid (fun i h => absurd h (Nat.not_lt_zero i)), Lib.hid HR.out.2, HB⟩
    case round =>
      obtain ⟨n, hn, rfl, hv, hr, hb⟩ := hrel
      by_cases hlt : n < k
      · have hc0 := (hb.out.cell (p := ⟨g, n * 2, none⟩) hg).trans (HROW.out n hlt).1
        have hc1 := (hb.out.cell (p := ⟨g, n * 2 + 1, none⟩) hg).trans (HROW.out n hlt).2
        have CV := Lib.hid (fun W => qValid_any (u n) (v n) (lu n) (lv n) W (HL.out n hlt).1 (HL.out n hlt).2.1 (HL.out n hlt).2.2.1 (HL.out n hlt).2.2.2)
        cases hV : vR (lu n) (lv n)
        · rw [hV] at CV
          generalize u n = x at *
          generalize v n = y at *
          go_wp2_with (go_at_call 30; (with_reducible refine (CV.out _).mono ?_); rintro e W ⟨rfl, B⟩; have B2 := (below_alloc wr (.cells #[.string x, .string y] 23)).trans (B.mono (by rw [World.size_alloc]; omega)); have hb2 := hb.out.trans (B2.mono hb.out.size); have hr2 := hr.out.keep B2 hr.out.lt; have c0 := hr2.c0; have c1 := hr2.c1; have f0 := hr2.f 0; have f1 := hr2.f 1; have hs := hr2.s0 (.string ⟨#[]⟩); have d1 := hs.c1; have g1 := hs.f 1; have HS := Lib.hid (hs.s1 (.string ⟨#[]⟩)); have HBS := Lib.hid ((hb2.setCell (p := ⟨w.heap.size + 1, 0, none⟩) (by show w.heap.size ≤ w.heap.size + 1; omega) (.string ⟨#[]⟩)).setCell (p := ⟨w.heap.size + 1, 1, none⟩) (by show w.heap.size ≤ w.heap.size + 1; omega) (.string ⟨#[]⟩)); clear B B2 hb2 hr2 hs)
          refine bodyPost_ret (results_ratio rfl _ _ (w.heap.size + 1) _ _ rfl HS.out) rfl ?_
          exact ⟨rfl, HBS.out⟩
        · rw [hV] at CV
          generalize hux : u n = x at *
          generalize hvy : v n = y at *
          go_wp2_with (go_at_call 30; (with_reducible refine (CV.out _).mono ?_); rintro e W ⟨rfl, B⟩; have B2 := (below_alloc wr (.cells #[.string x, .string y] 23)).trans (B.mono (by rw [World.size_alloc]; omega)); have HB2 := Lib.hid (hb.out.trans (B2.mono hb.out.size)); have HR2 := Lib.hid (hr.out.keep B2 hr.out.lt); clear B B2)
          go_roundw
          case rel => exact ⟨n + 1, by omega, by go_num, Lib.hid (fun i hi => by rcases Nat.lt_succ_iff_lt_or_eq.1 hi with h | h; exact hv.out i h; exact h ▸ hV), HR2, HB2⟩
          case measure => simp [intOf]; omega
      · obtain rfl : n = k := by omega
        exact absurd (HBB.out.2 hv.out) (by decide)
  · simp only [if_true]
    go_enter Tryz.func122, Tryz.ntmps122
    go_wp2
    go_loopw [9] (fun i wr => ∃ n : Nat, n ≤ k ∧ i = .int .i64 (n : Int) ∧ Hid (∀ i, i < n → vR (lu i) (lv i) = true) ∧ Hid (RBlk wr (w.heap.size + 1) (.string ⟨#[]⟩) (.string ⟨#[]⟩)) ∧ Hid (Below w.heap.size w wr)) (fun i _ => k - (intOf i).toNat)
    case atStart => exact ⟨0, by omega, rfl, Lib.hid (fun i h => absurd h (Nat.not_lt_zero i)), Lib.hid HR.out.2, HB⟩
    case round =>
      obtain ⟨n, hn, rfl, hv, hr, hb⟩ := hrel
      by_cases hlt : n < k
      · have hc0 := (hb.out.cell (p := ⟨g, n * 2, none⟩) hg).trans (HROW.out n hlt).1
        have hc1 := (hb.out.cell (p := ⟨g, n * 2 + 1, none⟩) hg).trans (HROW.out n hlt).2
        have CV := Lib.hid (fun W => qValid_any (u n) (v n) (lu n) (lv n) W (HL.out n hlt).1 (HL.out n hlt).2.1 (HL.out n hlt).2.2.1 (HL.out n hlt).2.2.2)
        cases hV : vR (lu n) (lv n)
        · exact absurd (HBB.out.1 trivial n hlt) (by rw [hV]; decide)
        · rw [hV] at CV
          generalize hux : u n = x at *
          generalize hvy : v n = y at *
          go_wp2_with (go_at_call 30; (with_reducible refine (CV.out _).mono ?_); rintro e W ⟨rfl, B⟩; have B2 := (below_alloc wr (.cells #[.string x, .string y] 23)).trans (B.mono (by rw [World.size_alloc]; omega)); have HB2 := Lib.hid (hb.out.trans (B2.mono hb.out.size)); have HR2 := Lib.hid (hr.out.keep B2 hr.out.lt); clear B B2)
          go_roundw
          case rel => exact ⟨n + 1, by omega, by go_num, Lib.hid (fun i hi => by rcases Nat.lt_succ_iff_lt_or_eq.1 hi with h | h; exact hv.out i h; exact h ▸ hV), HR2, HB2⟩
          case measure => simp [intOf]; omega
      · obtain rfl : n = k := by omega
        have kp2 := (hb.out.cell (p := ⟨p, 0, none⟩) KP.out.lt).trans KP.out.2
        have hc0 := (hb.out.cell (p := ⟨g, 0 * 2, none⟩) hg).trans (HROW.out 0 hk0).1
        have hc1 := (hb.out.cell (p := ⟨g, 0 * 2 + 1, none⟩) hg).trans (HROW.out 0 hk0).2
        rw [Nat.zero_mul] at hc0 hc1
        rw [Nat.zero_add] at hc1
        have c0 := hr.out.c0
        have c1 := hr.out.c1
        have f0 := hr.out.f 0
        have f1 := hr.out.f 1
        have hs := hr.out.s0 (.string (u 0))
        have d1 := hs.c1
        have g1 := hs.f 1
        have HS := Lib.hid (hs.s1 (.string (v 0)))
        have HBS := Lib.hid ((hb.out.setCell (p := ⟨w.heap.size + 1, 0, none⟩) (by show w.heap.size ≤ w.heap.size + 1; omega) (.string (u 0))).setCell (p := ⟨w.heap.size + 1, 1, none⟩) (by show w.heap.size ≤ w.heap.size + 1; omega) (.string (v 0)))
        clear hs
        go_wp2
        refine bodyPost_ret (results_ratio rfl _ _ (w.heap.size + 1) _ _ rfl HS.out) rfl ?_
        exact ⟨rfl, HBS.out⟩

set_option maxRecDepth 100000 in
set_option maxHeartbeats 4000000 in
theorem times1_any (a b s t x y : ByteArray) (e1 e2 : Int) (he1 : e1 = 0 ∨ e1 = 30) (he2 : e2 = 0 ∨ e2 = 30) (p q : Nat) (w : World) (cp : CS w p (.string s)) (cq : CS w q (.string t))
    (m1 : ∀ W, Calls Tryz.prog 124 #[.string a, .string s] W fun e w' => e = .returned (.tuple #[.string x, .int .i64 e1]) ∧ Below W.heap.size W w')
    (m2 : ∀ W, Calls Tryz.prog 124 #[.string b, .string t] W fun e w' => e = .returned (.tuple #[.string y, .int .i64 e2]) ∧ Below W.heap.size W w') :
    Calls Tryz.prog 123 #[.agg #[.string a, .string b], .pointer (some ⟨p, 0, none⟩), .pointer (some ⟨q, 0, none⟩)] w fun e w' => e = .returned (.tuple #[.agg #[.string (if e1 = 0 ∧ e2 = 0 then x else ⟨#[]⟩), .string (if e1 = 0 ∧ e2 = 0 then y else ⟨#[]⟩)], .int .i64 (if e1 = 0 ∧ e2 = 0 then 0 else 40)]) ∧ Below w.heap.size w w' := by
  obtain ⟨r1, r2⟩ := two_ratios w (.string a) (.string b) (.string ⟨#[]⟩) (.string ⟨#[]⟩)
  have hbw := ((below_alloc w (.cells #[.string a, .string b] 23)).alloc (by rw [World.size_alloc]; omega) (.cells #[.string ⟨#[]⟩, .string ⟨#[]⟩] 23))
  have a0 := r1.c0
  have a1 := r1.c1
  have HR := Lib.hid (And.intro r1 r2)
  have kp := (hbw.cell (p := ⟨p, 0, none⟩) cp.lt).trans cp.2
  have Kp := Lib.hid cp
  have kq := (hbw.cell (p := ⟨q, 0, none⟩) cq.lt).trans cq.2
  have Kq := Lib.hid cq
  have HB := Lib.hid hbw
  clear r1 r2 hbw cp cq
  have M1 := Lib.hid m1
  have M2 := Lib.hid m2
  clear m1 m2
  rcases he1 with rfl | rfl <;> rcases he2 with rfl | rfl
  · rw [if_pos ⟨rfl, rfl⟩, if_pos ⟨rfl, rfl⟩, if_pos ⟨rfl, rfl⟩]
    go_enter Tryz.func123, Tryz.ntmps123
    go_wp2_with (first | (go_at_call 124; (with_reducible refine (M1.out _).mono ?_); rintro e W ⟨rfl, B⟩; have hr := (And.intro (HR.out.1.keep B HR.out.1.lt) (HR.out.2.keep B HR.out.2.lt)); have hb := HB.out.trans (B.mono HB.out.size); clear HR HB B a0 a1; have HR := Lib.hid hr; have HB := Lib.hid hb; have a0 := hr.1.c0; have a1 := hr.1.c1; have kp' := (hb.cell (p := ⟨p, 0, none⟩) Kp.out.lt).trans Kp.out.2; clear kp; have kp := kp'; clear kp'; have kq' := (hb.cell (p := ⟨q, 0, none⟩) Kq.out.lt).trans Kq.out.2; clear kq; have kq := kq'; clear kq'; clear hr hb) | (go_at_call 124; (with_reducible refine (M2.out _).mono ?_); rintro e W ⟨rfl, B⟩; have hr := (And.intro (HR.out.1.keep B HR.out.1.lt) (HR.out.2.keep B HR.out.2.lt)); have hb := HB.out.trans (B.mono HB.out.size); clear HR HB B a0 a1; have HR := Lib.hid hr; have HB := Lib.hid hb; have a0 := hr.1.c0; have a1 := hr.1.c1; have kp' := (hb.cell (p := ⟨p, 0, none⟩) Kp.out.lt).trans Kp.out.2; clear kp; have kp := kp'; clear kp'; have kq' := (hb.cell (p := ⟨q, 0, none⟩) Kq.out.lt).trans Kq.out.2; clear kq; have kq := kq'; clear kq'; have c0 := hr.2.c0; have c1 := hr.2.c1; have f0 := hr.2.f 0; have f1 := hr.2.f 1; have hs := hr.2.s0 (.string x); have d1 := hs.c1; have g1 := hs.f 1; have HS := Lib.hid (hs.s1 (.string y)); have HBS := Lib.hid ((hb.setCell (p := ⟨w.heap.size + 1, 0, none⟩) (by show w.heap.size ≤ w.heap.size + 1; omega) (.string x)).setCell (p := ⟨w.heap.size + 1, 1, none⟩) (by show w.heap.size ≤ w.heap.size + 1; omega) (.string y)); clear hr hb hs))
    refine bodyPost_ret (results_ratio rfl _ _ (w.heap.size + 1) _ _ rfl HS.out) rfl ?_
    exact ⟨rfl, HBS.out⟩
  all_goals
    rw [if_neg (by decide), if_neg (by decide), if_neg (by decide)]
    go_enter Tryz.func123, Tryz.ntmps123
    go_wp2_with (first | (go_at_call 124; (with_reducible refine (M1.out _).mono ?_); rintro e W ⟨rfl, B⟩; have hr := (And.intro (HR.out.1.keep B HR.out.1.lt) (HR.out.2.keep B HR.out.2.lt)); have hb := HB.out.trans (B.mono HB.out.size); clear HR HB B a0 a1; have HR := Lib.hid hr; have HB := Lib.hid hb; have a0 := hr.1.c0; have a1 := hr.1.c1; have kp' := (hb.cell (p := ⟨p, 0, none⟩) Kp.out.lt).trans Kp.out.2; clear kp; have kp := kp'; clear kp'; have kq' := (hb.cell (p := ⟨q, 0, none⟩) Kq.out.lt).trans Kq.out.2; clear kq; have kq := kq'; clear kq'; clear hr hb) | (go_at_call 124; (with_reducible refine (M2.out _).mono ?_); rintro e W ⟨rfl, B⟩; have hr := (And.intro (HR.out.1.keep B HR.out.1.lt) (HR.out.2.keep B HR.out.2.lt)); have hb := HB.out.trans (B.mono HB.out.size); clear HR HB B a0 a1; have HR := Lib.hid hr; have HB := Lib.hid hb; have a0 := hr.1.c0; have a1 := hr.1.c1; have kp' := (hb.cell (p := ⟨p, 0, none⟩) Kp.out.lt).trans Kp.out.2; clear kp; have kp := kp'; clear kp'; have kq' := (hb.cell (p := ⟨q, 0, none⟩) Kq.out.lt).trans Kq.out.2; clear kq; have kq := kq'; clear kq'; have c0 := hr.2.c0; have c1 := hr.2.c1; have f0 := hr.2.f 0; have f1 := hr.2.f 1; have hs := hr.2.s0 (.string ⟨#[]⟩); have d1 := hs.c1; have g1 := hs.f 1; have HS := Lib.hid (hs.s1 (.string ⟨#[]⟩)); have HBS := Lib.hid ((hb.setCell (p := ⟨w.heap.size + 1, 0, none⟩) (by show w.heap.size ≤ w.heap.size + 1; omega) (.string ⟨#[]⟩)).setCell (p := ⟨w.heap.size + 1, 1, none⟩) (by show w.heap.size ≤ w.heap.size + 1; omega) (.string ⟨#[]⟩)); clear hr hb hs))
    refine bodyPost_ret (results_ratio rfl _ _ (w.heap.size + 1) _ _ rfl HS.out) rfl ?_
    exact ⟨rfl, HBS.out⟩

set_option maxRecDepth 100000 in
set_option maxHeartbeats 4000000 in
theorem combine2_any (a b s t x y : ByteArray) (F : Nat) (e1 e2 : Int) (he1 : e1 = 0 ∨ e1 = 30) (he2 : e2 = 0 ∨ e2 = 30) (p q r : Nat) (w : World) (cp : CS w p (.string s)) (cq : CS w q (.string t)) (cr : CS w r (.func (.func F) #[] #[])) (hen : ∀ args W, (callFunc F args).run Tryz.prog W = .ok (.enter F args) W)
    (m1 : ∀ W, Calls Tryz.prog 124 #[.string s, .string t] W fun e w' => e = .returned (.tuple #[.string x, .int .i64 e1]) ∧ Below W.heap.size W w')
    (m2 : ∀ W, Calls Tryz.prog F #[.string a, .string x] W fun e w' => e = .returned (.tuple #[.string y, .int .i64 e2]) ∧ Below W.heap.size W w') :
    Calls Tryz.prog 131 #[.agg #[.string a, .string b], .pointer (some ⟨p, 0, none⟩), .pointer (some ⟨q, 0, none⟩), .pointer (some ⟨r, 0, none⟩)] w fun e w' => e = .returned (.tuple #[.agg #[.string (if e1 = 0 ∧ e2 = 0 then y else ⟨#[]⟩), .string (if e1 = 0 ∧ e2 = 0 then b else ⟨#[]⟩)], .int .i64 (if e1 = 0 ∧ e2 = 0 then 0 else 40)]) ∧ Below w.heap.size w w' := by
  obtain ⟨r1, r2⟩ := two_ratios w (.string a) (.string b) (.string ⟨#[]⟩) (.string ⟨#[]⟩)
  have hbw := ((below_alloc w (.cells #[.string a, .string b] 23)).alloc (by rw [World.size_alloc]; omega) (.cells #[.string ⟨#[]⟩, .string ⟨#[]⟩] 23))
  have a0 := r1.c0
  have a1 := r1.c1
  have HR := Lib.hid (And.intro r1 r2)
  have kp := (hbw.cell (p := ⟨p, 0, none⟩) cp.lt).trans cp.2
  have Kp := Lib.hid cp
  have kq := (hbw.cell (p := ⟨q, 0, none⟩) cq.lt).trans cq.2
  have Kq := Lib.hid cq
  have kr := (hbw.cell (p := ⟨r, 0, none⟩) cr.lt).trans cr.2
  have Kr := Lib.hid cr
  have HB := Lib.hid hbw
  clear r1 r2 hbw cp cq cr
  have M1 := Lib.hid m1
  have M2 := Lib.hid m2
  clear m1 m2
  rcases he1 with rfl | rfl <;> rcases he2 with rfl | rfl
  · rw [if_pos ⟨rfl, rfl⟩, if_pos ⟨rfl, rfl⟩, if_pos ⟨rfl, rfl⟩]
    go_enter Tryz.func131, Tryz.ntmps131
    go_wp2_with (first | (go_at_call 124; (with_reducible refine (M1.out _).mono ?_); rintro e W ⟨rfl, B⟩; have hr := (And.intro (HR.out.1.keep B HR.out.1.lt) (HR.out.2.keep B HR.out.2.lt)); have hb := HB.out.trans (B.mono HB.out.size); clear HR HB B a0 a1; have HR := Lib.hid hr; have HB := Lib.hid hb; have a0 := hr.1.c0; have a1 := hr.1.c1; have kp' := (hb.cell (p := ⟨p, 0, none⟩) Kp.out.lt).trans Kp.out.2; clear kp; have kp := kp'; clear kp'; have kq' := (hb.cell (p := ⟨q, 0, none⟩) Kq.out.lt).trans Kq.out.2; clear kq; have kq := kq'; clear kq'; have kr' := (hb.cell (p := ⟨r, 0, none⟩) Kr.out.lt).trans Kr.out.2; clear kr; have kr := kr'; clear kr'; clear hr hb) | ((with_reducible refine (M2.out _).mono ?_); rintro e W ⟨rfl, B⟩; have hr := (And.intro (HR.out.1.keep B HR.out.1.lt) (HR.out.2.keep B HR.out.2.lt)); have hb := HB.out.trans (B.mono HB.out.size); clear HR HB B a0 a1; have HR := Lib.hid hr; have HB := Lib.hid hb; have a0 := hr.1.c0; have a1 := hr.1.c1; have kp' := (hb.cell (p := ⟨p, 0, none⟩) Kp.out.lt).trans Kp.out.2; clear kp; have kp := kp'; clear kp'; have kq' := (hb.cell (p := ⟨q, 0, none⟩) Kq.out.lt).trans Kq.out.2; clear kq; have kq := kq'; clear kq'; have kr' := (hb.cell (p := ⟨r, 0, none⟩) Kr.out.lt).trans Kr.out.2; clear kr; have kr := kr'; clear kr'; have c0 := hr.2.c0; have c1 := hr.2.c1; have f0 := hr.2.f 0; have f1 := hr.2.f 1; have hs := hr.2.s0 (.string y); have d1 := hs.c1; have g1 := hs.f 1; have HS := Lib.hid (hs.s1 (.string b)); have HBS := Lib.hid ((hb.setCell (p := ⟨w.heap.size + 1, 0, none⟩) (by show w.heap.size ≤ w.heap.size + 1; omega) (.string y)).setCell (p := ⟨w.heap.size + 1, 1, none⟩) (by show w.heap.size ≤ w.heap.size + 1; omega) (.string b)); clear hr hb hs))
    refine bodyPost_ret (results_ratio rfl _ _ (w.heap.size + 1) _ _ rfl HS.out) rfl ?_
    exact ⟨rfl, HBS.out⟩
  all_goals
    rw [if_neg (by decide), if_neg (by decide), if_neg (by decide)]
    go_enter Tryz.func131, Tryz.ntmps131
    go_wp2_with (first | (go_at_call 124; (with_reducible refine (M1.out _).mono ?_); rintro e W ⟨rfl, B⟩; have hr := (And.intro (HR.out.1.keep B HR.out.1.lt) (HR.out.2.keep B HR.out.2.lt)); have hb := HB.out.trans (B.mono HB.out.size); clear HR HB B a0 a1; have HR := Lib.hid hr; have HB := Lib.hid hb; have a0 := hr.1.c0; have a1 := hr.1.c1; have kp' := (hb.cell (p := ⟨p, 0, none⟩) Kp.out.lt).trans Kp.out.2; clear kp; have kp := kp'; clear kp'; have kq' := (hb.cell (p := ⟨q, 0, none⟩) Kq.out.lt).trans Kq.out.2; clear kq; have kq := kq'; clear kq'; have kr' := (hb.cell (p := ⟨r, 0, none⟩) Kr.out.lt).trans Kr.out.2; clear kr; have kr := kr'; clear kr'; clear hr hb) | ((with_reducible refine (M2.out _).mono ?_); rintro e W ⟨rfl, B⟩; have hr := (And.intro (HR.out.1.keep B HR.out.1.lt) (HR.out.2.keep B HR.out.2.lt)); have hb := HB.out.trans (B.mono HB.out.size); clear HR HB B a0 a1; have HR := Lib.hid hr; have HB := Lib.hid hb; have a0 := hr.1.c0; have a1 := hr.1.c1; have kp' := (hb.cell (p := ⟨p, 0, none⟩) Kp.out.lt).trans Kp.out.2; clear kp; have kp := kp'; clear kp'; have kq' := (hb.cell (p := ⟨q, 0, none⟩) Kq.out.lt).trans Kq.out.2; clear kq; have kq := kq'; clear kq'; have kr' := (hb.cell (p := ⟨r, 0, none⟩) Kr.out.lt).trans Kr.out.2; clear kr; have kr := kr'; clear kr'; have c0 := hr.2.c0; have c1 := hr.2.c1; have f0 := hr.2.f 0; have f1 := hr.2.f 1; have hs := hr.2.s0 (.string ⟨#[]⟩); have d1 := hs.c1; have g1 := hs.f 1; have HS := Lib.hid (hs.s1 (.string ⟨#[]⟩)); have HBS := Lib.hid ((hb.setCell (p := ⟨w.heap.size + 1, 0, none⟩) (by show w.heap.size ≤ w.heap.size + 1; omega) (.string ⟨#[]⟩)).setCell (p := ⟨w.heap.size + 1, 1, none⟩) (by show w.heap.size ≤ w.heap.size + 1; omega) (.string ⟨#[]⟩)); clear hr hb hs))
    refine bodyPost_ret (results_ratio rfl _ _ (w.heap.size + 1) _ _ rfl HS.out) rfl ?_
    exact ⟨rfl, HBS.out⟩
end Go.Proofs.YtdnbhgkbfbgnaaaGreatDoor


namespace Go.Proofs.YtdnbhgkbfbgnaaaGreatDoor
open Go.RowKit

/-- what a step does -/
def StepOK (F : Nat) (caps : Array Value) (m m' : ByteArray × ByteArray) (e' : Int) (W : World) : Prop :=
  Calls Tryz.prog F (#[.agg #[.string m.1, .string m.2]] ++ caps) W fun e w' => e = .returned (.tuple #[.agg #[.string m'.1, .string m'.2], .int .i64 e']) ∧ Below W.heap.size W w'
theorem RBlk.drew {w : World} {g : Nat} {x y : Value} (h : RBlk w g x y) : RBlk w.drew g x y := h
def four_cells (W : World) (g : Nat) (s1 s2 s3 s4 : ByteArray) : Prop := g < W.heap.size ∧ W.cell? ⟨g, 0, none⟩ = some (.string s1) ∧ W.cell? ⟨g, 1, none⟩ = some (.string s2) ∧ W.cell? ⟨g, 2, none⟩ = some (.string s3) ∧ W.cell? ⟨g, 3, none⟩ = some (.string s4)
theorem four_cells.keep {W W' : World} {g : Nat} {s1 s2 s3 s4 : ByteArray} (h : four_cells W g s1 s2 s3 s4) (hb : Below W.heap.size W W') : four_cells W' g s1 s2 s3 s4 :=
  ⟨Nat.lt_of_lt_of_le h.1 hb.size, (hb.cell (p := ⟨g, 0, none⟩) h.1).trans h.2.1, (hb.cell (p := ⟨g, 1, none⟩) h.1).trans h.2.2.1, (hb.cell (p := ⟨g, 2, none⟩) h.1).trans h.2.2.2.1, (hb.cell (p := ⟨g, 3, none⟩) h.1).trans h.2.2.2.2⟩
theorem four_cells.new (W : World) (s1 s2 s3 s4 : ByteArray) (t : TypeId) : four_cells (W.alloc (.cells #[.string s1, .string s2, .string s3, .string s4] t)) W.heap.size s1 s2 s3 s4 :=
  ⟨by rw [World.size_alloc]; omega, by rw [World.cell?, Go.heap_alloc_new]; rfl, by rw [World.cell?, Go.heap_alloc_new]; rfl, by rw [World.cell?, Go.heap_alloc_new]; rfl, by rw [World.cell?, Go.heap_alloc_new]; rfl⟩

set_option maxRecDepth 100000 in
set_option maxHeartbeats 8000000 in
theorem qAdd_walk (s1 s2 s3 s4 : ByteArray) (M : Nat → ByteArray × ByteArray) (E : Nat → Int) (w : World) (hM : M 0 = (⟨#[]⟩, ⟨#[]⟩)) (hE : E 0 = 0) (hsk : ∀ i, i < 4 → E i ≠ 0 → M (i + 1) = M i ∧ E (i + 1) = E i)
    (h1 : ∀ W p g cap, 2 ≤ cap → CS W p (.slice (some ⟨g, 0, none⟩) 2 cap) → four_cells W g s1 s2 s3 s4 → StepOK 122 #[.pointer (some ⟨p, 0, none⟩)] (M 0) (M 1) (E 1) W)
    (h2 : E 1 = 0 → ∀ W p q, CS W p (.string s4) → CS W q (.string s4) → StepOK 123 #[.pointer (some ⟨p, 0, none⟩), .pointer (some ⟨q, 0, none⟩)] (M 1) (M 2) (E 2) W)
    (h3 : E 2 = 0 → ∀ W p q r, CS W p (.string s3) → CS W q (.string s2) → CS W r (.func (.func 81) #[] #[]) → StepOK 131 #[.pointer (some ⟨p, 0, none⟩), .pointer (some ⟨q, 0, none⟩), .pointer (some ⟨r, 0, none⟩)] (M 2) (M 3) (E 3) W)
    (h4 : E 3 = 0 → ∀ W, StepOK 70 #[] (M 3) (M 4) (E 4) W) :
    Calls Tryz.prog 38 #[.agg #[.string s1, .string s2], .agg #[.string s3, .string s4]] w fun e w' => e = .returned (.tuple #[.agg #[.string (M 4).1, .string (M 4).2], .int .i64 (E 4)]) ∧ Below w.heap.size w w' := by
  obtain ⟨r1, r2, r3⟩ := three_ratios w (.string s1) (.string s2) (.string s3) (.string s4) (.string ⟨#[]⟩) (.string ⟨#[]⟩)
  have hb0 := (((below_alloc w (.cells #[.string s1, .string s2] 23)).alloc (by rw [World.size_alloc]; omega) (.cells #[.string s3, .string s4] 23)).alloc (by rw [World.size_alloc, World.size_alloc]; omega) (.cells #[.string ⟨#[]⟩, .string ⟨#[]⟩] 23))
  have HR := Lib.hid (And.intro r1 r2)
  have HX := Lib.hid r3
  have HB := Lib.hid hb0
  have H1 := Lib.hid h1
  have H2 := Lib.hid h2
  have H3 := Lib.hid h3
  have H4 := Lib.hid h4
  have HS0 := Lib.hid (And.intro hM (And.intro hE hsk))
  clear r1 r2 r3 hb0 h1 h2 h3 h4 hM hE hsk
  go_enter Tryz.func38, Tryz.ntmps38
  go_upto_region 1 with fail
  refine wp_region_noPanic ?_
  refine wp_region_held_drew (S := fun W => RBlk W w.heap.size (.string s1) (.string s2) ∧ RBlk W (w.heap.size + 1) (.string s3) (.string s4)) (by kernel_rfl) ?_ (fun hHeld => ?_)
  · exact HR.out
  refine wpAnyH_take (i := 0) (oi := ({ dst := some 6, op := Go.Op.load 23 (Go.Operand.tmp 2), type := 23, pos := "rational.go:30", after := #[], guard := none } : Oper)) (v := ?v0_1) rfl (by kernel_rfl) (by kernel_rfl) (by kernel_rfl) (fun _ _ _ h => h) (Or.inl ⟨by rfl, ?hy0_1⟩) (by assumption) ?re0_1
  case hy0_1 => ((intro w hSw; have e1 := hSw.1.c0; have e2 := hSw.1.c1; have e3 := hSw.2.c0; have e4 := hSw.2.c1; go_simp) <;> with_reducible rfl)
  (try simp only [Act.put, List.setIfInBounds_toArray, List.set_cons_zero, List.set_cons_succ])
  refine wpAnyH_take (i := 1) (oi := ({ dst := some 7, op := Go.Op.load 23 (Go.Operand.tmp 3), type := 23, pos := "rational.go:30", after := #[], guard := none } : Oper)) (v := ?v1_2) rfl (by kernel_rfl) (by kernel_rfl) (by kernel_rfl) (fun _ _ _ h => h) (Or.inl ⟨by rfl, ?hy1_2⟩) (by assumption) ?re1_2
  case hy1_2 => ((intro w hSw; have e1 := hSw.1.c0; have e2 := hSw.1.c1; have e3 := hSw.2.c0; have e4 := hSw.2.c1; go_simp) <;> with_reducible rfl)
  (try simp only [Act.put, List.setIfInBounds_toArray, List.set_cons_zero, List.set_cons_succ])
  refine wpAnyH_take (i := 4) (oi := ({ dst := some 10, op := Go.Op.fieldAddr 23 (Go.Operand.tmp 3) 1, type := 0, pos := "rational.go:30", after := #[], guard := none } : Oper)) (v := ?v4_3) rfl (by kernel_rfl) (by kernel_rfl) (by kernel_rfl) (fun _ _ _ h => h) (Or.inl ⟨by rfl, ?hy4_3⟩) (by assumption) ?re4_3
  case hy4_3 => ((intro w hSw; have e1 := hSw.1.c0; have e2 := hSw.1.c1; have e3 := hSw.2.c0; have e4 := hSw.2.c1; go_simp) <;> with_reducible rfl)
  (try simp only [Act.put, List.setIfInBounds_toArray, List.set_cons_zero, List.set_cons_succ])
  refine wpAnyH_take (i := 5) (oi := ({ dst := some 11, op := Go.Op.load 9 (Go.Operand.tmp 10), type := 9, pos := "rational.go:30", after := #[{ on := 4, ground := Go.Ground.data }], guard := none } : Oper)) (v := ?v5_4) rfl (by kernel_rfl) (by kernel_rfl) (by kernel_rfl) (fun _ _ _ h => h) (Or.inl ⟨by rfl, ?hy5_4⟩) (by assumption) ?re5_4
  case hy5_4 => ((intro w hSw; have e1 := hSw.1.c0; have e2 := hSw.1.c1; have e3 := hSw.2.c0; have e4 := hSw.2.c1; go_simp) <;> with_reducible rfl)
  (try simp only [Act.put, List.setIfInBounds_toArray, List.set_cons_zero, List.set_cons_succ])
  refine wpAnyH_take (i := 6) (oi := ({ dst := some 12, op := Go.Op.fieldAddr 23 (Go.Operand.tmp 3) 1, type := 0, pos := "rational.go:30", after := #[], guard := none } : Oper)) (v := ?v6_5) rfl (by kernel_rfl) (by kernel_rfl) (by kernel_rfl) (fun _ _ _ h => h) (Or.inl ⟨by rfl, ?hy6_5⟩) (by assumption) ?re6_5
  case hy6_5 => ((intro w hSw; have e1 := hSw.1.c0; have e2 := hSw.1.c1; have e3 := hSw.2.c0; have e4 := hSw.2.c1; go_simp) <;> with_reducible rfl)
  (try simp only [Act.put, List.setIfInBounds_toArray, List.set_cons_zero, List.set_cons_succ])
  refine wpAnyH_take (i := 7) (oi := ({ dst := some 13, op := Go.Op.load 9 (Go.Operand.tmp 12), type := 9, pos := "rational.go:30", after := #[{ on := 6, ground := Go.Ground.data }], guard := none } : Oper)) (v := ?v7_6) rfl (by kernel_rfl) (by kernel_rfl) (by kernel_rfl) (fun _ _ _ h => h) (Or.inl ⟨by rfl, ?hy7_6⟩) (by assumption) ?re7_6
  case hy7_6 => ((intro w hSw; have e1 := hSw.1.c0; have e2 := hSw.1.c1; have e3 := hSw.2.c0; have e4 := hSw.2.c1; go_simp) <;> with_reducible rfl)
  (try simp only [Act.put, List.setIfInBounds_toArray, List.set_cons_zero, List.set_cons_succ])
  refine wpAnyH_take (i := 9) (oi := ({ dst := some 15, op := Go.Op.fieldAddr 23 (Go.Operand.tmp 3) 0, type := 0, pos := "rational.go:30", after := #[], guard := none } : Oper)) (v := ?v9_7) rfl (by kernel_rfl) (by kernel_rfl) (by kernel_rfl) (fun _ _ _ h => h) (Or.inl ⟨by rfl, ?hy9_7⟩) (by assumption) ?re9_7
  case hy9_7 => ((intro w hSw; have e1 := hSw.1.c0; have e2 := hSw.1.c1; have e3 := hSw.2.c0; have e4 := hSw.2.c1; go_simp) <;> with_reducible rfl)
  (try simp only [Act.put, List.setIfInBounds_toArray, List.set_cons_zero, List.set_cons_succ])
  refine wpAnyH_take (i := 10) (oi := ({ dst := some 16, op := Go.Op.load 9 (Go.Operand.tmp 15), type := 9, pos := "rational.go:30", after := #[{ on := 9, ground := Go.Ground.data }], guard := none } : Oper)) (v := ?v10_8) rfl (by kernel_rfl) (by kernel_rfl) (by kernel_rfl) (fun _ _ _ h => h) (Or.inl ⟨by rfl, ?hy10_8⟩) (by assumption) ?re10_8
  case hy10_8 => ((intro w hSw; have e1 := hSw.1.c0; have e2 := hSw.1.c1; have e3 := hSw.2.c0; have e4 := hSw.2.c1; go_simp) <;> with_reducible rfl)
  (try simp only [Act.put, List.setIfInBounds_toArray, List.set_cons_zero, List.set_cons_succ])
  refine wpAnyH_take (i := 11) (oi := ({ dst := some 17, op := Go.Op.fieldAddr 23 (Go.Operand.tmp 2) 1, type := 0, pos := "rational.go:30", after := #[], guard := none } : Oper)) (v := ?v11_9) rfl (by kernel_rfl) (by kernel_rfl) (by kernel_rfl) (fun _ _ _ h => h) (Or.inl ⟨by rfl, ?hy11_9⟩) (by assumption) ?re11_9
  case hy11_9 => ((intro w hSw; have e1 := hSw.1.c0; have e2 := hSw.1.c1; have e3 := hSw.2.c0; have e4 := hSw.2.c1; go_simp) <;> with_reducible rfl)
  (try simp only [Act.put, List.setIfInBounds_toArray, List.set_cons_zero, List.set_cons_succ])
  refine wpAnyH_take (i := 12) (oi := ({ dst := some 18, op := Go.Op.load 9 (Go.Operand.tmp 17), type := 9, pos := "rational.go:30", after := #[{ on := 11, ground := Go.Ground.data }], guard := none } : Oper)) (v := ?v12_10) rfl (by kernel_rfl) (by kernel_rfl) (by kernel_rfl) (fun _ _ _ h => h) (Or.inl ⟨by rfl, ?hy12_10⟩) (by assumption) ?re12_10
  case hy12_10 => ((intro w hSw; have e1 := hSw.1.c0; have e2 := hSw.1.c1; have e3 := hSw.2.c0; have e4 := hSw.2.c1; go_simp) <;> with_reducible rfl)
  (try simp only [Act.put, List.setIfInBounds_toArray, List.set_cons_zero, List.set_cons_succ])
  refine wpAnyH_ready (rs := [2]) (by kernel_rfl) (by simp) ?_
  refine AllReadyH.cons (o := ({ dst := some 8, op := Go.Op.buildSlice 30 2 #[(0, Go.Operand.tmp 6), (1, Go.Operand.tmp 7)], type := 30, pos := "rational.go:30", after := #[{ on := 0, ground := Go.Ground.data }, { on := 1, ground := Go.Ground.data }], guard := none } : Oper)) rfl (fun K hK => ?_) ?_
  · go_simp
    obtain ⟨W1, hW1⟩ : ∃ W, W = ((((w.alloc (.cells #[.string s1, .string s2] 23)).alloc (.cells #[.string s3, .string s4] 23)).alloc (.cells #[.string ⟨#[]⟩, .string ⟨#[]⟩] 23)).alloc (.cells #[.string s1, .string s2, .string s3, .string s4] 23)).drew := ⟨_, rfl⟩
    rw [← hW1]
    have hsz : (((w.alloc (.cells #[.string s1, .string s2] 23)).alloc (.cells #[.string s3, .string s4] 23)).alloc (.cells #[.string ⟨#[]⟩, .string ⟨#[]⟩] 23)).heap.size = w.heap.size + 1 + 1 + 1 := by rw [World.size_alloc, World.size_alloc, World.size_alloc]
    have F4 : Hid (four_cells W1 (w.heap.size + 1 + 1 + 1) s1 s2 s3 s4) := Lib.hid (by rw [hW1, ← hsz]; exact four_cells.new (((w.alloc (.cells #[.string s1, .string s2] 23)).alloc (.cells #[.string s3, .string s4] 23)).alloc (.cells #[.string ⟨#[]⟩, .string ⟨#[]⟩] 23)) s1 s2 s3 s4 23)
    have HXn : Hid (RBlk W1 (w.heap.size + 1 + 1) (.string ⟨#[]⟩) (.string ⟨#[]⟩)) := Lib.hid (by rw [hW1]; exact HX.out.alloc _)
    have HD : Hid (Below w.heap.size w W1) := Lib.hid (by rw [hW1]; exact (HB.out.alloc HB.out.size _).drew)
    have hk1 : RBlk W1 w.heap.size (.string s1) (.string s2) ∧ RBlk W1 (w.heap.size + 1) (.string s3) (.string s4) := by rw [hW1]; exact ⟨HR.out.1.alloc _, HR.out.2.alloc _⟩
    clear HX HB HR hsz hW1
    have HX := HXn
    clear HXn
    refine hK.out _ _ ?_ (fun hHeld => ?_)
    · exact hk1
    clear hK K
    (try simp only [Act.put, List.setIfInBounds_toArray, List.set_cons_zero, List.set_cons_succ])
    clear hk1
    refine wpAnyH_ready (rs := [3]) (by kernel_rfl) (by simp) ?_
    refine AllReadyH.cons (o := ({ dst := some 9, op := Go.Op.call { callee := Go.Callee.value (Go.Operand.func 67), args := #[Go.Operand.tmp 8], argTypes := #[30] }, type := 85, pos := "rational.go:30", after := #[{ on := 2, ground := Go.Ground.data }], guard := none } : Oper)) rfl (fun K hK => ?_) ?_
    · go_simp
      go_at_call 67
      refine (start_any _ _ _ _).mono ?_
      rintro e W2 ⟨rfl, c2, B⟩
      have HXn := Lib.hid (HX.out.keep B HX.out.lt)
      have HDn := Lib.hid (HD.out.trans (B.mono HD.out.size))
      clear HX HD
      have HX := HXn
      have HD := HDn
      clear HXn HDn
      have F4n := Lib.hid (F4.out.keep B)
      clear F4
      have F4 := F4n
      clear F4n
      have C2 := Lib.hid c2
      clear c2
      (try go_wp2_with fail)
      refine hK.out _ _ ?_ (fun hHeld => ?_)
      · exact ⟨hHeld.1.keep B hHeld.1.lt, hHeld.2.keep B hHeld.2.lt⟩
      clear hK K
      (try simp only [Act.put, List.setIfInBounds_toArray, List.set_cons_zero, List.set_cons_succ])
      clear B
      refine wpAnyH_ready (rs := [8]) (by kernel_rfl) (by simp) ?_
      refine AllReadyH.cons (o := ({ dst := some 14, op := Go.Op.call { callee := Go.Callee.value (Go.Operand.func 68), args := #[Go.Operand.tmp 11, Go.Operand.tmp 13], argTypes := #[9, 9] }, type := 85, pos := "rational.go:30", after := #[{ on := 5, ground := Go.Ground.data }, { on := 7, ground := Go.Ground.data }, { on := 3, ground := Go.Ground.chain }], guard := none } : Oper)) rfl (fun K hK => ?_) ?_
      · go_simp
        go_at_call 68
        refine (qtimes_any _ _ _).mono ?_
        rintro e W3 ⟨rfl, c3, B⟩
        have HXn := Lib.hid (HX.out.keep B HX.out.lt)
        have HDn := Lib.hid (HD.out.trans (B.mono HD.out.size))
        clear HX HD
        have HX := HXn
        have HD := HDn
        clear HXn HDn
        have F4n := Lib.hid (F4.out.keep B)
        have C2n := Lib.hid (C2.out.keep B)
        clear F4 C2
        have F4 := F4n
        have C2 := C2n
        clear F4n C2n
        have C3a := Lib.hid c3.1
        have C3b := Lib.hid c3.2
        clear c3
        (try go_wp2_with fail)
        refine hK.out _ _ ?_ (fun hHeld => ?_)
        · exact ⟨hHeld.1.keep B hHeld.1.lt, hHeld.2.keep B hHeld.2.lt⟩
        clear hK K
        (try simp only [Act.put, List.setIfInBounds_toArray, List.set_cons_zero, List.set_cons_succ])
        clear B
        refine wpAnyH_ready (rs := [13]) (by kernel_rfl) (by simp) ?_
        refine AllReadyH.cons (o := ({ dst := some 19, op := Go.Op.call { callee := Go.Callee.value (Go.Operand.func 80), args := #[Go.Operand.func 81, Go.Operand.tmp 16, Go.Operand.tmp 18], argTypes := #[77, 9, 9] }, type := 85, pos := "rational.go:30", after := #[{ on := 10, ground := Go.Ground.data }, { on := 12, ground := Go.Ground.data }, { on := 8, ground := Go.Ground.chain }], guard := none } : Oper)) rfl (fun K hK => ?_) ?_
        · go_simp
          go_at_call 80
          refine (combine1_any _ _ _ _).mono ?_
          rintro e W4 ⟨rfl, c4, B⟩
          have HXn := Lib.hid (HX.out.keep B HX.out.lt)
          have HDn := Lib.hid (HD.out.trans (B.mono HD.out.size))
          clear HX HD
          have HX := HXn
          have HD := HDn
          clear HXn HDn
          have F4n := Lib.hid (F4.out.keep B)
          have C2n := Lib.hid (C2.out.keep B)
          have C3an := Lib.hid (C3a.out.keep B)
          have C3bn := Lib.hid (C3b.out.keep B)
          clear F4 C2 C3a C3b
          have F4 := F4n
          have C2 := C2n
          have C3a := C3an
          have C3b := C3bn
          clear F4n C2n C3an C3bn
          have C4a := Lib.hid c4.1
          have C4b := Lib.hid c4.2.1
          have C4c := Lib.hid c4.2.2
          clear c4
          (try go_wp2_with fail)
          refine hK.out _ _ ?_ (fun hHeld => ?_)
          · exact ⟨hHeld.1.keep B hHeld.1.lt, hHeld.2.keep B hHeld.2.lt⟩
          clear hK K
          (try simp only [Act.put, List.setIfInBounds_toArray, List.set_cons_zero, List.set_cons_succ])
          clear B
          refine wpAnyH_ready (rs := [14]) (by kernel_rfl) (by simp) ?_
          refine AllReadyH.cons (o := ({ dst := some 20, op := Go.Op.buildSlice 127 4 #[(0, Go.Operand.tmp 9), (1, Go.Operand.tmp 14), (2, Go.Operand.tmp 19), (3, Go.Operand.func 70)], type := 127, pos := "rational.go:30", after := #[{ on := 3, ground := Go.Ground.data }, { on := 8, ground := Go.Ground.data }, { on := 13, ground := Go.Ground.data }], guard := none } : Oper)) rfl (fun K hK => ?_) ?_
          · go_simp
            obtain ⟨WB, hWB⟩ : ∃ W, W = (W4.alloc (.cells #[.func (.func 122) #[] #[.pointer (some ⟨W1.heap.size, 0, none⟩)], .func (.func 123) #[] #[.pointer (some ⟨W2.heap.size, 0, none⟩), .pointer (some ⟨W2.heap.size + 1, 0, none⟩)], .func (.func 131) #[] #[.pointer (some ⟨W3.heap.size + 1, 0, none⟩), .pointer (some ⟨W3.heap.size + 1 + 1, 0, none⟩), .pointer (some ⟨W3.heap.size, 0, none⟩)], .func (.func 70) #[] #[]] 85)) := ⟨_, rfl⟩
            rw [← hWB]
            have BA : Below W4.heap.size W4 WB := by rw [hWB]; exact below_alloc W4 _
            have hgB : W4.heap.size < WB.heap.size := by rw [hWB, World.size_alloc]; omega
            have hr0 : WB.cell? ⟨W4.heap.size, 0, none⟩ = some (.func (.func 122) #[] #[.pointer (some ⟨W1.heap.size, 0, none⟩)]) := by rw [hWB, World.cell?, Go.heap_alloc_new]; rfl
            have hr1 : WB.cell? ⟨W4.heap.size, 1, none⟩ = some (.func (.func 123) #[] #[.pointer (some ⟨W2.heap.size, 0, none⟩), .pointer (some ⟨W2.heap.size + 1, 0, none⟩)]) := by rw [hWB, World.cell?, Go.heap_alloc_new]; rfl
            have hr2 : WB.cell? ⟨W4.heap.size, 2, none⟩ = some (.func (.func 131) #[] #[.pointer (some ⟨W3.heap.size + 1, 0, none⟩), .pointer (some ⟨W3.heap.size + 1 + 1, 0, none⟩), .pointer (some ⟨W3.heap.size, 0, none⟩)]) := by rw [hWB, World.cell?, Go.heap_alloc_new]; rfl
            have hr3 : WB.cell? ⟨W4.heap.size, 3, none⟩ = some (.func (.func 70) #[] #[]) := by rw [hWB, World.cell?, Go.heap_alloc_new]; rfl
            clear hWB
            have HXn := Lib.hid (HX.out.keep BA HX.out.lt)
            have HDn := Lib.hid (HD.out.trans (BA.mono HD.out.size))
            clear HX HD
            have HX := HXn
            have HD := HDn
            clear HXn HDn
            have F4n := Lib.hid (F4.out.keep BA)
            have C2n := Lib.hid (C2.out.keep BA)
            have C3an := Lib.hid (C3a.out.keep BA)
            have C3bn := Lib.hid (C3b.out.keep BA)
            have C4an := Lib.hid (C4a.out.keep BA)
            have C4bn := Lib.hid (C4b.out.keep BA)
            have C4cn := Lib.hid (C4c.out.keep BA)
            clear F4 C2 C3a C3b C4a C4b C4c
            have F4 := F4n
            have C2 := C2n
            have C3a := C3an
            have C3b := C3bn
            have C4a := C4an
            have C4b := C4bn
            have C4c := C4cn
            clear F4n C2n C3an C3bn C4an C4bn C4cn
            refine hK.out _ _ ?_ (fun hHeld => ?_)
            · exact ⟨hHeld.1.keep BA hHeld.1.lt, hHeld.2.keep BA hHeld.2.lt⟩
            clear hK K
            (try simp only [Act.put, List.setIfInBounds_toArray, List.set_cons_zero, List.set_cons_succ])
            clear BA
            refine wpAnyH_ready (rs := [15]) (by kernel_rfl) (by simp) ?_
            refine AllReadyH.cons (o := ({ dst := some 21, op := Go.Op.call { callee := Go.Callee.value (Go.Operand.func 66), args := #[Go.Operand.tmp 20], argTypes := #[127] }, type := 36, pos := "rational.go:30", after := #[{ on := 14, ground := Go.Ground.data }, { on := 13, ground := Go.Ground.chain }], guard := none } : Oper)) rfl (fun K hK => ?_) ?_
            · go_simp
              go_at_call 66
              have hbc := build_any 4 W4.heap.size 4 (fun i => if i = 0 then .func (.func 122) #[] #[.pointer (some ⟨W1.heap.size, 0, none⟩)] else if i = 1 then .func (.func 123) #[] #[.pointer (some ⟨W2.heap.size, 0, none⟩), .pointer (some ⟨W2.heap.size + 1, 0, none⟩)] else if i = 2 then .func (.func 131) #[] #[.pointer (some ⟨W3.heap.size + 1, 0, none⟩), .pointer (some ⟨W3.heap.size + 1 + 1, 0, none⟩), .pointer (some ⟨W3.heap.size, 0, none⟩)] else .func (.func 70) #[] #[]) M E WB (by decide) (by decide) hgB (fun i hi => by
                  rcases (by omega : i = 0 ∨ i = 1 ∨ i = 2 ∨ i = 3) with rfl | rfl | rfl | rfl
                  · exact hr0
                  · exact hr1
                  · exact hr2
                  · exact hr3) HS0.out.1 HS0.out.2.1 (fun i hi hE => by
                  rcases (by omega : i = 0 ∨ i = 1 ∨ i = 2 ∨ i = 3) with rfl | rfl | rfl | rfl
                  · exact ⟨122, _, rfl, enters_of Tryz.func122 (by kernel_rfl) rfl, fun W hW => H1.out W _ _ 2 (by omega) (C2.out.keep hW) (F4.out.keep hW)⟩
                  · exact ⟨123, _, rfl, enters_of Tryz.func123 (by kernel_rfl) rfl, fun W hW => H2.out hE W _ _ (C3a.out.keep hW) (C3b.out.keep hW)⟩
                  · exact ⟨131, _, rfl, enters_of Tryz.func131 (by kernel_rfl) rfl, fun W hW => H3.out hE W _ _ _ (C4b.out.keep hW) (C4c.out.keep hW) (C4a.out.keep hW)⟩
                  · exact ⟨70, _, rfl, enters_of Tryz.func70 (by kernel_rfl) rfl, fun W hW => H4.out hE W⟩) HS0.out.2.2
              refine hbc.mono ?_
              rintro e W9 ⟨rfl, B⟩
              have HXn := Lib.hid (HX.out.keep B HX.out.lt)
              have HDn := Lib.hid (HD.out.trans (B.mono HD.out.size))
              clear HX HD hbc
              have HX := HXn
              have HD := HDn
              clear HXn HDn
              (try go_wp2_with fail)
              refine hK.out _ _ ?_ (fun hHeld => ?_)
              · exact ⟨hHeld.1.keep B hHeld.1.lt, hHeld.2.keep B hHeld.2.lt⟩
              clear hK K
              (try simp only [Act.put, List.setIfInBounds_toArray, List.set_cons_zero, List.set_cons_succ])
              clear B
              refine wpAnyH_take (i := 16) (oi := ({ dst := some 22, op := Go.Op.extract (Go.Operand.tmp 21) 0, type := 23, pos := "rational.go:30", after := #[{ on := 15, ground := Go.Ground.data }], guard := none } : Oper)) (v := ?v16_11) rfl (by kernel_rfl) (by kernel_rfl) (by kernel_rfl) (fun _ _ _ h => h) (Or.inl ⟨by rfl, ?hy16_11⟩) (by assumption) ?re16_11
              case hy16_11 => ((intro w hSw; have e1 := hSw.1.c0; have e2 := hSw.1.c1; have e3 := hSw.2.c0; have e4 := hSw.2.c1; go_simp) <;> with_reducible rfl)
              (try simp only [Act.put, List.setIfInBounds_toArray, List.set_cons_zero, List.set_cons_succ])
              refine wpAnyH_take (i := 17) (oi := ({ dst := some 23, op := Go.Op.extract (Go.Operand.tmp 21) 1, type := 32, pos := "rational.go:30", after := #[{ on := 15, ground := Go.Ground.data }], guard := none } : Oper)) (v := ?v17_12) rfl (by kernel_rfl) (by kernel_rfl) (by kernel_rfl) (fun _ _ _ h => h) (Or.inl ⟨by rfl, ?hy17_12⟩) (by assumption) ?re17_12
              case hy17_12 => ((intro w hSw; have e1 := hSw.1.c0; have e2 := hSw.1.c1; have e3 := hSw.2.c0; have e4 := hSw.2.c1; go_simp) <;> with_reducible rfl)
              (try simp only [Act.put, List.setIfInBounds_toArray, List.set_cons_zero, List.set_cons_succ])
              refine wpAnyH_ready (rs := [18]) (by kernel_rfl) (by simp) ?_
              refine AllReadyH.cons (o := ({ dst := none, op := Go.Op.store 23 (Go.Operand.tmp 4) (Go.Operand.tmp 22), type := 0, pos := "rational.go:30", after := #[{ on := 16, ground := Go.Ground.data }, { on := 15, ground := Go.Ground.chain }, { on := 0, ground := Go.Ground.phase }, { on := 1, ground := Go.Ground.phase }, { on := 2, ground := Go.Ground.phase }, { on := 3, ground := Go.Ground.phase }, { on := 4, ground := Go.Ground.phase }, { on := 5, ground := Go.Ground.phase }, { on := 6, ground := Go.Ground.phase }, { on := 7, ground := Go.Ground.phase }, { on := 8, ground := Go.Ground.phase }, { on := 9, ground := Go.Ground.phase }, { on := 10, ground := Go.Ground.phase }, { on := 11, ground := Go.Ground.phase }, { on := 12, ground := Go.Ground.phase }, { on := 13, ground := Go.Ground.phase }, { on := 14, ground := Go.Ground.phase }, { on := 15, ground := Go.Ground.phase }, { on := 16, ground := Go.Ground.phase }, { on := 17, ground := Go.Ground.phase }], guard := none } : Oper)) rfl (fun K hK => ?_) ?_
              · have c0 := HX.out.c0
                have c1 := HX.out.c1
                have f0 := HX.out.f 0
                have f1 := HX.out.f 1
                have hs := HX.out.s0 (.string (M 4).1)
                have d1 := hs.c1
                have g1 := hs.f 1
                have HS := Lib.hid (hs.s1 (.string (M 4).2))
                have HBS := Lib.hid ((HD.out.setCell (p := ⟨w.heap.size + 1 + 1, 0, none⟩) (by show w.heap.size ≤ w.heap.size + 1 + 1; omega) (.string (M 4).1)).setCell (p := ⟨w.heap.size + 1 + 1, 1, none⟩) (by show w.heap.size ≤ w.heap.size + 1 + 1; omega) (.string (M 4).2))
                clear hs
                go_simp
                refine hK.out _ _ ?_ (fun hHeld => ?_)
                · exact ⟨(hHeld.1.keep ((Below.refl (w.heap.size + 1 + 1) _).setCell (p := ⟨w.heap.size + 1 + 1, 0, none⟩) (Nat.le_refl _) (.string (M 4).1)) (by omega)).keep ((Below.refl (w.heap.size + 1 + 1) _).setCell (p := ⟨w.heap.size + 1 + 1, 1, none⟩) (Nat.le_refl _) (.string (M 4).2)) (by omega), (hHeld.2.keep ((Below.refl (w.heap.size + 1 + 1) _).setCell (p := ⟨w.heap.size + 1 + 1, 0, none⟩) (Nat.le_refl _) (.string (M 4).1)) (by omega)).keep ((Below.refl (w.heap.size + 1 + 1) _).setCell (p := ⟨w.heap.size + 1 + 1, 1, none⟩) (Nat.le_refl _) (.string (M 4).2)) (by omega)⟩
                clear hK K
                (try simp only [Act.put, List.setIfInBounds_toArray, List.set_cons_zero, List.set_cons_succ])
                refine wpAnyH_take (i := 19) (oi := ({ dst := some 5, op := Go.Op.assign (Go.Operand.tmp 23), type := 32, pos := "rational.go:30", after := #[{ on := 17, ground := Go.Ground.data }, { on := 18, ground := Go.Ground.chain }, { on := 0, ground := Go.Ground.phase }, { on := 1, ground := Go.Ground.phase }, { on := 2, ground := Go.Ground.phase }, { on := 3, ground := Go.Ground.phase }, { on := 4, ground := Go.Ground.phase }, { on := 5, ground := Go.Ground.phase }, { on := 6, ground := Go.Ground.phase }, { on := 7, ground := Go.Ground.phase }, { on := 8, ground := Go.Ground.phase }, { on := 9, ground := Go.Ground.phase }, { on := 10, ground := Go.Ground.phase }, { on := 11, ground := Go.Ground.phase }, { on := 12, ground := Go.Ground.phase }, { on := 13, ground := Go.Ground.phase }, { on := 14, ground := Go.Ground.phase }, { on := 15, ground := Go.Ground.phase }, { on := 16, ground := Go.Ground.phase }, { on := 17, ground := Go.Ground.phase }, { on := 18, ground := Go.Ground.phase }], guard := none } : Oper)) (v := ?v19_13) rfl (by kernel_rfl) (by kernel_rfl) (by kernel_rfl) (fun _ _ _ h => h) (Or.inl ⟨by rfl, ?hy19_13⟩) (by assumption) ?re19_13
                case hy19_13 => ((intro w hSw; have e1 := hSw.1.c0; have e2 := hSw.1.c1; have e3 := hSw.2.c0; have e4 := hSw.2.c1; go_simp) <;> with_reducible rfl)
                (try simp only [Act.put, List.setIfInBounds_toArray, List.set_cons_zero, List.set_cons_succ])
                refine wpAnyH_done (by kernel_rfl) ?_ _
                refine NoPanic.normal ?_
                go_wp2_with fail
                refine bodyPost_ret (results_ratio rfl _ _ (w.heap.size + 1 + 1) _ _ rfl HS.out) rfl ?_
                exact ⟨rfl, HBS.out⟩
              exact AllReadyH.nil
            exact AllReadyH.nil
          exact AllReadyH.nil
        exact AllReadyH.nil
      exact AllReadyH.nil
    exact AllReadyH.nil
  exact AllReadyH.nil

set_option maxRecDepth 100000 in
set_option maxHeartbeats 8000000 in
theorem qDiv_walk (s1 s2 s3 s4 : ByteArray) (M : Nat → ByteArray × ByteArray) (E : Nat → Int) (w : World) (hM : M 0 = (⟨#[]⟩, ⟨#[]⟩)) (hE : E 0 = 0) (hsk : ∀ i, i < 3 → E i ≠ 0 → M (i + 1) = M i ∧ E (i + 1) = E i)
    (h1 : ∀ W p g cap, 2 ≤ cap → CS W p (.slice (some ⟨g, 0, none⟩) 2 cap) → four_cells W g s1 s2 s3 s4 → StepOK 122 #[.pointer (some ⟨p, 0, none⟩)] (M 0) (M 1) (E 1) W)
    (h2 : E 1 = 0 → ∀ W p q, CS W p (.string s4) → CS W q (.string s3) → StepOK 123 #[.pointer (some ⟨p, 0, none⟩), .pointer (some ⟨q, 0, none⟩)] (M 1) (M 2) (E 2) W)
    (h4 : E 2 = 0 → ∀ W, StepOK 70 #[] (M 2) (M 3) (E 3) W) :
    Calls Tryz.prog 47 #[.agg #[.string s1, .string s2], .agg #[.string s3, .string s4]] w fun e w' => e = .returned (.tuple #[.agg #[.string (M 3).1, .string (M 3).2], .int .i64 (E 3)]) ∧ Below w.heap.size w w' := by
  obtain ⟨r1, r2, r3⟩ := three_ratios w (.string s1) (.string s2) (.string s3) (.string s4) (.string ⟨#[]⟩) (.string ⟨#[]⟩)
  have hb0 := (((below_alloc w (.cells #[.string s1, .string s2] 23)).alloc (by rw [World.size_alloc]; omega) (.cells #[.string s3, .string s4] 23)).alloc (by rw [World.size_alloc, World.size_alloc]; omega) (.cells #[.string ⟨#[]⟩, .string ⟨#[]⟩] 23))
  have HR := Lib.hid (And.intro r1 r2)
  have HX := Lib.hid r3
  have HB := Lib.hid hb0
  have H1 := Lib.hid h1
  have H2 := Lib.hid h2
  have H4 := Lib.hid h4
  have HS0 := Lib.hid (And.intro hM (And.intro hE hsk))
  clear r1 r2 r3 hb0 h1 h2 h4 hM hE hsk
  go_enter Tryz.func47, Tryz.ntmps47
  go_upto_region 1 with fail
  refine wp_region_noPanic ?_
  refine wp_region_held_drew (S := fun W => RBlk W w.heap.size (.string s1) (.string s2) ∧ RBlk W (w.heap.size + 1) (.string s3) (.string s4)) (by kernel_rfl) ?_ (fun hHeld => ?_)
  · exact HR.out
  refine wpAnyH_take (i := 0) (oi := ({ dst := some 6, op := Go.Op.load 23 (Go.Operand.tmp 2), type := 23, pos := "rational.go:45", after := #[], guard := none } : Oper)) (v := ?v0_1) rfl (by kernel_rfl) (by kernel_rfl) (by kernel_rfl) (fun _ _ _ h => h) (Or.inl ⟨by rfl, ?hy0_1⟩) (by assumption) ?re0_1
  case hy0_1 => ((intro w hSw; have e1 := hSw.1.c0; have e2 := hSw.1.c1; have e3 := hSw.2.c0; have e4 := hSw.2.c1; go_simp) <;> with_reducible rfl)
  (try simp only [Act.put, List.setIfInBounds_toArray, List.set_cons_zero, List.set_cons_succ])
  refine wpAnyH_take (i := 1) (oi := ({ dst := some 7, op := Go.Op.load 23 (Go.Operand.tmp 3), type := 23, pos := "rational.go:45", after := #[], guard := none } : Oper)) (v := ?v1_2) rfl (by kernel_rfl) (by kernel_rfl) (by kernel_rfl) (fun _ _ _ h => h) (Or.inl ⟨by rfl, ?hy1_2⟩) (by assumption) ?re1_2
  case hy1_2 => ((intro w hSw; have e1 := hSw.1.c0; have e2 := hSw.1.c1; have e3 := hSw.2.c0; have e4 := hSw.2.c1; go_simp) <;> with_reducible rfl)
  (try simp only [Act.put, List.setIfInBounds_toArray, List.set_cons_zero, List.set_cons_succ])
  refine wpAnyH_take (i := 4) (oi := ({ dst := some 10, op := Go.Op.fieldAddr 23 (Go.Operand.tmp 3) 1, type := 0, pos := "rational.go:45", after := #[], guard := none } : Oper)) (v := ?v4_3) rfl (by kernel_rfl) (by kernel_rfl) (by kernel_rfl) (fun _ _ _ h => h) (Or.inl ⟨by rfl, ?hy4_3⟩) (by assumption) ?re4_3
  case hy4_3 => ((intro w hSw; have e1 := hSw.1.c0; have e2 := hSw.1.c1; have e3 := hSw.2.c0; have e4 := hSw.2.c1; go_simp) <;> with_reducible rfl)
  (try simp only [Act.put, List.setIfInBounds_toArray, List.set_cons_zero, List.set_cons_succ])
  refine wpAnyH_take (i := 5) (oi := ({ dst := some 11, op := Go.Op.load 9 (Go.Operand.tmp 10), type := 9, pos := "rational.go:45", after := #[{ on := 4, ground := Go.Ground.data }], guard := none } : Oper)) (v := ?v5_4) rfl (by kernel_rfl) (by kernel_rfl) (by kernel_rfl) (fun _ _ _ h => h) (Or.inl ⟨by rfl, ?hy5_4⟩) (by assumption) ?re5_4
  case hy5_4 => ((intro w hSw; have e1 := hSw.1.c0; have e2 := hSw.1.c1; have e3 := hSw.2.c0; have e4 := hSw.2.c1; go_simp) <;> with_reducible rfl)
  (try simp only [Act.put, List.setIfInBounds_toArray, List.set_cons_zero, List.set_cons_succ])
  refine wpAnyH_take (i := 6) (oi := ({ dst := some 12, op := Go.Op.fieldAddr 23 (Go.Operand.tmp 3) 0, type := 0, pos := "rational.go:45", after := #[], guard := none } : Oper)) (v := ?v6_5) rfl (by kernel_rfl) (by kernel_rfl) (by kernel_rfl) (fun _ _ _ h => h) (Or.inl ⟨by rfl, ?hy6_5⟩) (by assumption) ?re6_5
  case hy6_5 => ((intro w hSw; have e1 := hSw.1.c0; have e2 := hSw.1.c1; have e3 := hSw.2.c0; have e4 := hSw.2.c1; go_simp) <;> with_reducible rfl)
  (try simp only [Act.put, List.setIfInBounds_toArray, List.set_cons_zero, List.set_cons_succ])
  refine wpAnyH_take (i := 7) (oi := ({ dst := some 13, op := Go.Op.load 9 (Go.Operand.tmp 12), type := 9, pos := "rational.go:45", after := #[{ on := 6, ground := Go.Ground.data }], guard := none } : Oper)) (v := ?v7_6) rfl (by kernel_rfl) (by kernel_rfl) (by kernel_rfl) (fun _ _ _ h => h) (Or.inl ⟨by rfl, ?hy7_6⟩) (by assumption) ?re7_6
  case hy7_6 => ((intro w hSw; have e1 := hSw.1.c0; have e2 := hSw.1.c1; have e3 := hSw.2.c0; have e4 := hSw.2.c1; go_simp) <;> with_reducible rfl)
  (try simp only [Act.put, List.setIfInBounds_toArray, List.set_cons_zero, List.set_cons_succ])
  refine wpAnyH_ready (rs := [2]) (by kernel_rfl) (by simp) ?_
  refine AllReadyH.cons (o := ({ dst := some 8, op := Go.Op.buildSlice 30 2 #[(0, Go.Operand.tmp 6), (1, Go.Operand.tmp 7)], type := 30, pos := "rational.go:45", after := #[{ on := 0, ground := Go.Ground.data }, { on := 1, ground := Go.Ground.data }], guard := none } : Oper)) rfl (fun K hK => ?_) ?_
  · go_simp
    obtain ⟨W1, hW1⟩ : ∃ W, W = ((((w.alloc (.cells #[.string s1, .string s2] 23)).alloc (.cells #[.string s3, .string s4] 23)).alloc (.cells #[.string ⟨#[]⟩, .string ⟨#[]⟩] 23)).alloc (.cells #[.string s1, .string s2, .string s3, .string s4] 23)).drew := ⟨_, rfl⟩
    rw [← hW1]
    have hsz : (((w.alloc (.cells #[.string s1, .string s2] 23)).alloc (.cells #[.string s3, .string s4] 23)).alloc (.cells #[.string ⟨#[]⟩, .string ⟨#[]⟩] 23)).heap.size = w.heap.size + 1 + 1 + 1 := by rw [World.size_alloc, World.size_alloc, World.size_alloc]
    have F4 : Hid (four_cells W1 (w.heap.size + 1 + 1 + 1) s1 s2 s3 s4) := Lib.hid (by rw [hW1, ← hsz]; exact four_cells.new (((w.alloc (.cells #[.string s1, .string s2] 23)).alloc (.cells #[.string s3, .string s4] 23)).alloc (.cells #[.string ⟨#[]⟩, .string ⟨#[]⟩] 23)) s1 s2 s3 s4 23)
    have HXn : Hid (RBlk W1 (w.heap.size + 1 + 1) (.string ⟨#[]⟩) (.string ⟨#[]⟩)) := Lib.hid (by rw [hW1]; exact HX.out.alloc _)
    have HD : Hid (Below w.heap.size w W1) := Lib.hid (by rw [hW1]; exact (HB.out.alloc HB.out.size _).drew)
    have hk1 : RBlk W1 w.heap.size (.string s1) (.string s2) ∧ RBlk W1 (w.heap.size + 1) (.string s3) (.string s4) := by rw [hW1]; exact ⟨HR.out.1.alloc _, HR.out.2.alloc _⟩
    clear HX HB HR hsz hW1
    have HX := HXn
    clear HXn
    refine hK.out _ _ ?_ (fun hHeld => ?_)
    · exact hk1
    clear hK K
    (try simp only [Act.put, List.setIfInBounds_toArray, List.set_cons_zero, List.set_cons_succ])
    clear hk1
    refine wpAnyH_ready (rs := [3]) (by kernel_rfl) (by simp) ?_
    refine AllReadyH.cons (o := ({ dst := some 9, op := Go.Op.call { callee := Go.Callee.value (Go.Operand.func 67), args := #[Go.Operand.tmp 8], argTypes := #[30] }, type := 85, pos := "rational.go:45", after := #[{ on := 2, ground := Go.Ground.data }], guard := none } : Oper)) rfl (fun K hK => ?_) ?_
    · go_simp
      go_at_call 67
      refine (start_any _ _ _ _).mono ?_
      rintro e W2 ⟨rfl, c2, B⟩
      have HXn := Lib.hid (HX.out.keep B HX.out.lt)
      have HDn := Lib.hid (HD.out.trans (B.mono HD.out.size))
      clear HX HD
      have HX := HXn
      have HD := HDn
      clear HXn HDn
      have F4n := Lib.hid (F4.out.keep B)
      clear F4
      have F4 := F4n
      clear F4n
      have C2 := Lib.hid c2
      clear c2
      (try go_wp2_with fail)
      refine hK.out _ _ ?_ (fun hHeld => ?_)
      · exact ⟨hHeld.1.keep B hHeld.1.lt, hHeld.2.keep B hHeld.2.lt⟩
      clear hK K
      (try simp only [Act.put, List.setIfInBounds_toArray, List.set_cons_zero, List.set_cons_succ])
      clear B
      refine wpAnyH_ready (rs := [8]) (by kernel_rfl) (by simp) ?_
      refine AllReadyH.cons (o := ({ dst := some 14, op := Go.Op.call { callee := Go.Callee.value (Go.Operand.func 68), args := #[Go.Operand.tmp 11, Go.Operand.tmp 13], argTypes := #[9, 9] }, type := 85, pos := "rational.go:45", after := #[{ on := 5, ground := Go.Ground.data }, { on := 7, ground := Go.Ground.data }, { on := 3, ground := Go.Ground.chain }], guard := none } : Oper)) rfl (fun K hK => ?_) ?_
      · go_simp
        go_at_call 68
        refine (qtimes_any _ _ _).mono ?_
        rintro e W3 ⟨rfl, c3, B⟩
        have HXn := Lib.hid (HX.out.keep B HX.out.lt)
        have HDn := Lib.hid (HD.out.trans (B.mono HD.out.size))
        clear HX HD
        have HX := HXn
        have HD := HDn
        clear HXn HDn
        have F4n := Lib.hid (F4.out.keep B)
        have C2n := Lib.hid (C2.out.keep B)
        clear F4 C2
        have F4 := F4n
        have C2 := C2n
        clear F4n C2n
        have C3a := Lib.hid c3.1
        have C3b := Lib.hid c3.2
        clear c3
        (try go_wp2_with fail)
        refine hK.out _ _ ?_ (fun hHeld => ?_)
        · exact ⟨hHeld.1.keep B hHeld.1.lt, hHeld.2.keep B hHeld.2.lt⟩
        clear hK K
        (try simp only [Act.put, List.setIfInBounds_toArray, List.set_cons_zero, List.set_cons_succ])
        clear B
        refine wpAnyH_ready (rs := [9]) (by kernel_rfl) (by simp) ?_
        refine AllReadyH.cons (o := ({ dst := some 15, op := Go.Op.buildSlice 127 3 #[(0, Go.Operand.tmp 9), (1, Go.Operand.tmp 14), (2, Go.Operand.func 70)], type := 127, pos := "rational.go:45", after := #[{ on := 3, ground := Go.Ground.data }, { on := 8, ground := Go.Ground.data }], guard := none } : Oper)) rfl (fun K hK => ?_) ?_
        · go_simp
          obtain ⟨WB, hWB⟩ : ∃ W, W = (W3.alloc (.cells #[.func (.func 122) #[] #[.pointer (some ⟨W1.heap.size, 0, none⟩)], .func (.func 123) #[] #[.pointer (some ⟨W2.heap.size, 0, none⟩), .pointer (some ⟨W2.heap.size + 1, 0, none⟩)], .func (.func 70) #[] #[]] 85)) := ⟨_, rfl⟩
          rw [← hWB]
          have BA : Below W3.heap.size W3 WB := by rw [hWB]; exact below_alloc W3 _
          have hgB : W3.heap.size < WB.heap.size := by rw [hWB, World.size_alloc]; omega
          have hr0 : WB.cell? ⟨W3.heap.size, 0, none⟩ = some (.func (.func 122) #[] #[.pointer (some ⟨W1.heap.size, 0, none⟩)]) := by rw [hWB, World.cell?, Go.heap_alloc_new]; rfl
          have hr1 : WB.cell? ⟨W3.heap.size, 1, none⟩ = some (.func (.func 123) #[] #[.pointer (some ⟨W2.heap.size, 0, none⟩), .pointer (some ⟨W2.heap.size + 1, 0, none⟩)]) := by rw [hWB, World.cell?, Go.heap_alloc_new]; rfl
          have hr2 : WB.cell? ⟨W3.heap.size, 2, none⟩ = some (.func (.func 70) #[] #[]) := by rw [hWB, World.cell?, Go.heap_alloc_new]; rfl
          clear hWB
          have HXn := Lib.hid (HX.out.keep BA HX.out.lt)
          have HDn := Lib.hid (HD.out.trans (BA.mono HD.out.size))
          clear HX HD
          have HX := HXn
          have HD := HDn
          clear HXn HDn
          have F4n := Lib.hid (F4.out.keep BA)
          have C2n := Lib.hid (C2.out.keep BA)
          have C3an := Lib.hid (C3a.out.keep BA)
          have C3bn := Lib.hid (C3b.out.keep BA)
          clear F4 C2 C3a C3b
          have F4 := F4n
          have C2 := C2n
          have C3a := C3an
          have C3b := C3bn
          clear F4n C2n C3an C3bn
          refine hK.out _ _ ?_ (fun hHeld => ?_)
          · exact ⟨hHeld.1.keep BA hHeld.1.lt, hHeld.2.keep BA hHeld.2.lt⟩
          clear hK K
          (try simp only [Act.put, List.setIfInBounds_toArray, List.set_cons_zero, List.set_cons_succ])
          clear BA
          refine wpAnyH_ready (rs := [10]) (by kernel_rfl) (by simp) ?_
          refine AllReadyH.cons (o := ({ dst := some 16, op := Go.Op.call { callee := Go.Callee.value (Go.Operand.func 66), args := #[Go.Operand.tmp 15], argTypes := #[127] }, type := 36, pos := "rational.go:45", after := #[{ on := 9, ground := Go.Ground.data }, { on := 8, ground := Go.Ground.chain }], guard := none } : Oper)) rfl (fun K hK => ?_) ?_
          · go_simp
            go_at_call 66
            have hbc := build_any 3 W3.heap.size 3 (fun i => if i = 0 then .func (.func 122) #[] #[.pointer (some ⟨W1.heap.size, 0, none⟩)] else if i = 1 then .func (.func 123) #[] #[.pointer (some ⟨W2.heap.size, 0, none⟩), .pointer (some ⟨W2.heap.size + 1, 0, none⟩)] else .func (.func 70) #[] #[]) M E WB (by decide) (by decide) hgB (fun i hi => by
                rcases (by omega : i = 0 ∨ i = 1 ∨ i = 2) with rfl | rfl | rfl
                · exact hr0
                · exact hr1
                · exact hr2) HS0.out.1 HS0.out.2.1 (fun i hi hE => by
                rcases (by omega : i = 0 ∨ i = 1 ∨ i = 2) with rfl | rfl | rfl
                · exact ⟨122, _, rfl, enters_of Tryz.func122 (by kernel_rfl) rfl, fun W hW => H1.out W _ _ 2 (by omega) (C2.out.keep hW) (F4.out.keep hW)⟩
                · exact ⟨123, _, rfl, enters_of Tryz.func123 (by kernel_rfl) rfl, fun W hW => H2.out hE W _ _ (C3a.out.keep hW) (C3b.out.keep hW)⟩
                · exact ⟨70, _, rfl, enters_of Tryz.func70 (by kernel_rfl) rfl, fun W hW => H4.out hE W⟩) HS0.out.2.2
            refine hbc.mono ?_
            rintro e W9 ⟨rfl, B⟩
            have HXn := Lib.hid (HX.out.keep B HX.out.lt)
            have HDn := Lib.hid (HD.out.trans (B.mono HD.out.size))
            clear HX HD hbc
            have HX := HXn
            have HD := HDn
            clear HXn HDn
            (try go_wp2_with fail)
            refine hK.out _ _ ?_ (fun hHeld => ?_)
            · exact ⟨hHeld.1.keep B hHeld.1.lt, hHeld.2.keep B hHeld.2.lt⟩
            clear hK K
            (try simp only [Act.put, List.setIfInBounds_toArray, List.set_cons_zero, List.set_cons_succ])
            clear B
            refine wpAnyH_take (i := 11) (oi := ({ dst := some 17, op := Go.Op.extract (Go.Operand.tmp 16) 0, type := 23, pos := "rational.go:45", after := #[{ on := 10, ground := Go.Ground.data }], guard := none } : Oper)) (v := ?v11_7) rfl (by kernel_rfl) (by kernel_rfl) (by kernel_rfl) (fun _ _ _ h => h) (Or.inl ⟨by rfl, ?hy11_7⟩) (by assumption) ?re11_7
            case hy11_7 => ((intro w hSw; have e1 := hSw.1.c0; have e2 := hSw.1.c1; have e3 := hSw.2.c0; have e4 := hSw.2.c1; go_simp) <;> with_reducible rfl)
            (try simp only [Act.put, List.setIfInBounds_toArray, List.set_cons_zero, List.set_cons_succ])
            refine wpAnyH_take (i := 12) (oi := ({ dst := some 18, op := Go.Op.extract (Go.Operand.tmp 16) 1, type := 32, pos := "rational.go:45", after := #[{ on := 10, ground := Go.Ground.data }], guard := none } : Oper)) (v := ?v12_8) rfl (by kernel_rfl) (by kernel_rfl) (by kernel_rfl) (fun _ _ _ h => h) (Or.inl ⟨by rfl, ?hy12_8⟩) (by assumption) ?re12_8
            case hy12_8 => ((intro w hSw; have e1 := hSw.1.c0; have e2 := hSw.1.c1; have e3 := hSw.2.c0; have e4 := hSw.2.c1; go_simp) <;> with_reducible rfl)
            (try simp only [Act.put, List.setIfInBounds_toArray, List.set_cons_zero, List.set_cons_succ])
            refine wpAnyH_ready (rs := [13]) (by kernel_rfl) (by simp) ?_
            refine AllReadyH.cons (o := ({ dst := none, op := Go.Op.store 23 (Go.Operand.tmp 4) (Go.Operand.tmp 17), type := 0, pos := "rational.go:45", after := #[{ on := 11, ground := Go.Ground.data }, { on := 10, ground := Go.Ground.chain }, { on := 0, ground := Go.Ground.phase }, { on := 1, ground := Go.Ground.phase }, { on := 2, ground := Go.Ground.phase }, { on := 3, ground := Go.Ground.phase }, { on := 4, ground := Go.Ground.phase }, { on := 5, ground := Go.Ground.phase }, { on := 6, ground := Go.Ground.phase }, { on := 7, ground := Go.Ground.phase }, { on := 8, ground := Go.Ground.phase }, { on := 9, ground := Go.Ground.phase }, { on := 10, ground := Go.Ground.phase }, { on := 11, ground := Go.Ground.phase }, { on := 12, ground := Go.Ground.phase }], guard := none } : Oper)) rfl (fun K hK => ?_) ?_
            · have c0 := HX.out.c0
              have c1 := HX.out.c1
              have f0 := HX.out.f 0
              have f1 := HX.out.f 1
              have hs := HX.out.s0 (.string (M 3).1)
              have d1 := hs.c1
              have g1 := hs.f 1
              have HS := Lib.hid (hs.s1 (.string (M 3).2))
              have HBS := Lib.hid ((HD.out.setCell (p := ⟨w.heap.size + 1 + 1, 0, none⟩) (by show w.heap.size ≤ w.heap.size + 1 + 1; omega) (.string (M 3).1)).setCell (p := ⟨w.heap.size + 1 + 1, 1, none⟩) (by show w.heap.size ≤ w.heap.size + 1 + 1; omega) (.string (M 3).2))
              clear hs
              go_simp
              refine hK.out _ _ ?_ (fun hHeld => ?_)
              · exact ⟨(hHeld.1.keep ((Below.refl (w.heap.size + 1 + 1) _).setCell (p := ⟨w.heap.size + 1 + 1, 0, none⟩) (Nat.le_refl _) (.string (M 3).1)) (by omega)).keep ((Below.refl (w.heap.size + 1 + 1) _).setCell (p := ⟨w.heap.size + 1 + 1, 1, none⟩) (Nat.le_refl _) (.string (M 3).2)) (by omega), (hHeld.2.keep ((Below.refl (w.heap.size + 1 + 1) _).setCell (p := ⟨w.heap.size + 1 + 1, 0, none⟩) (Nat.le_refl _) (.string (M 3).1)) (by omega)).keep ((Below.refl (w.heap.size + 1 + 1) _).setCell (p := ⟨w.heap.size + 1 + 1, 1, none⟩) (Nat.le_refl _) (.string (M 3).2)) (by omega)⟩
              clear hK K
              (try simp only [Act.put, List.setIfInBounds_toArray, List.set_cons_zero, List.set_cons_succ])
              refine wpAnyH_take (i := 14) (oi := ({ dst := some 5, op := Go.Op.assign (Go.Operand.tmp 18), type := 32, pos := "rational.go:45", after := #[{ on := 12, ground := Go.Ground.data }, { on := 13, ground := Go.Ground.chain }, { on := 0, ground := Go.Ground.phase }, { on := 1, ground := Go.Ground.phase }, { on := 2, ground := Go.Ground.phase }, { on := 3, ground := Go.Ground.phase }, { on := 4, ground := Go.Ground.phase }, { on := 5, ground := Go.Ground.phase }, { on := 6, ground := Go.Ground.phase }, { on := 7, ground := Go.Ground.phase }, { on := 8, ground := Go.Ground.phase }, { on := 9, ground := Go.Ground.phase }, { on := 10, ground := Go.Ground.phase }, { on := 11, ground := Go.Ground.phase }, { on := 12, ground := Go.Ground.phase }, { on := 13, ground := Go.Ground.phase }], guard := none } : Oper)) (v := ?v14_9) rfl (by kernel_rfl) (by kernel_rfl) (by kernel_rfl) (fun _ _ _ h => h) (Or.inl ⟨by rfl, ?hy14_9⟩) (by assumption) ?re14_9
              case hy14_9 => ((intro w hSw; have e1 := hSw.1.c0; have e2 := hSw.1.c1; have e3 := hSw.2.c0; have e4 := hSw.2.c1; go_simp) <;> with_reducible rfl)
              (try simp only [Act.put, List.setIfInBounds_toArray, List.set_cons_zero, List.set_cons_succ])
              refine wpAnyH_done (by kernel_rfl) ?_ _
              refine NoPanic.normal ?_
              go_wp2_with fail
              refine bodyPost_ret (results_ratio rfl _ _ (w.heap.size + 1 + 1) _ _ rfl HS.out) rfl ?_
              exact ⟨rfl, HBS.out⟩
            exact AllReadyH.nil
          exact AllReadyH.nil
        exact AllReadyH.nil
      exact AllReadyH.nil
    exact AllReadyH.nil
  exact AllReadyH.nil
end Go.Proofs.YtdnbhgkbfbgnaaaGreatDoor


namespace Go.Proofs.YtdnbhgkbfbgnaaaGreatDoor
open Go.RowKit

theorem mul_rs (x y : Int) (hx : x.natAbs < 10 ^ 200) (hy : y.natAbs < 10 ^ 200) (W : World) :
    Calls Tryz.prog 124 #[.string (S x), .string (S y)] W fun e w' => e = .returned (.tuple #[.string ⟨(rs (x * y)).toArray⟩, .int .i64 (er (x * y))]) ∧ Below W.heap.size W w' := by
  have h := Mul_any (S x) (S y) (txt x) (txt y) W (S_list x) (S_list y) (S_len hx) (S_len hy)
  rw [txt_vld hx, txt_vld hy, Bool.and_true, txt_num, txt_num, res, ree, if_pos rfl, if_pos rfl] at h
  exact h
theorem add_rs (x y : Int) (hx : x.natAbs < 10 ^ 200) (hy : y.natAbs < 10 ^ 200) (W : World) :
    Calls Tryz.prog 81 #[.string (S x), .string (S y)] W fun e w' => e = .returned (.tuple #[.string ⟨(rs (x + y)).toArray⟩, .int .i64 (er (x + y))]) ∧ Below W.heap.size W w' := by
  have h := Add_any (S x) (S y) (txt x) (txt y) W (S_list x) (S_list y) (S_len hx) (S_len hy)
  rw [txt_vld hx, txt_vld hy, Bool.and_true, txt_num, txt_num, res, ree, if_pos rfl, if_pos rfl] at h
  exact h
theorem add_no (x : Int) (hx : x.natAbs < 10 ^ 200) (W : World) :
    Calls Tryz.prog 81 #[.string (S x), .string ⟨#[]⟩] W fun e w' => e = .returned (.tuple #[.string ⟨#[]⟩, .int .i64 30]) ∧ Below W.heap.size W w' := by
  have h := Add_any (S x) ⟨#[]⟩ (txt x) [] W (S_list x) rfl (S_len hx) (by decide)
  rw [show vld [] = false by decide, Bool.and_false, res_f, ree_f] at h
  exact h
theorem er_f {z : Int} (h : fits z = true) : er z = 0 := by rw [er, if_pos (of_decide_eq_true h)]
theorem er_n {z : Int} (h : fits z = false) : er z = 30 := by rw [er, if_neg (of_decide_eq_false h)]
theorem rs_f {z : Int} (h : fits z = true) : (⟨(rs z).toArray⟩ : ByteArray) = S z := rs_S (of_decide_eq_true h)
theorem rs_n {z : Int} (h : fits z = false) : (⟨(rs z).toArray⟩ : ByteArray) = ⟨#[]⟩ := by rw [rs, if_neg (of_decide_eq_false h)]
theorem er_two (z : Int) : er z = 0 ∨ er z = 30 := (er_or z).imp And.left And.left
theorem den_abs (q : Rat) {k : Nat} (h : fitR k q) : ((q.den : Int)).natAbs < 10 ^ k := by rw [Int.natAbs_natCast]; exact h.2

theorem start2 (s1 s2 s3 s4 : ByteArray) (L1 L2 L3 L4 : List UInt8) (hL1 : s1.data.toList = L1) (hL2 : s2.data.toList = L2) (hL3 : s3.data.toList = L3) (hL4 : s4.data.toList = L4) (hl1 : L1.length ≤ 60000) (hl2 : L2.length ≤ 60000) (hl3 : L3.length ≤ 60000) (hl4 : L4.length ≤ 60000)
    (W : World) (p g cap : Nat) (m : ByteArray × ByteArray) (hc : 2 ≤ cap) (hp : CS W p (.slice (some ⟨g, 0, none⟩) 2 cap)) (hf : four_cells W g s1 s2 s3 s4) :
    StepOK 122 #[.pointer (some ⟨p, 0, none⟩)] m (if (vR L1 L2 && vR L3 L4) = true then s1 else ⟨#[]⟩, if (vR L1 L2 && vR L3 L4) = true then s2 else ⟨#[]⟩) (if (vR L1 L2 && vR L3 L4) = true then 0 else 40) W := by
  have h := start1_any m.1 m.2 p g 2 cap (fun i => if i = 0 then s1 else s3) (fun i => if i = 0 then s2 else s4) (fun i => if i = 0 then L1 else L3) (fun i => if i = 0 then L2 else L4) W (by decide) (by decide) hc hp hf.1
    (fun i hi => by
      rcases (by omega : i = 0 ∨ i = 1) with rfl | rfl
      · exact ⟨hf.2.1, hf.2.2.1⟩
      · exact ⟨hf.2.2.2.1, hf.2.2.2.2⟩)
    (fun i hi => by
      rcases (by omega : i = 0 ∨ i = 1) with rfl | rfl
      · exact ⟨hL1, hL2, hl1, hl2⟩
      · exact ⟨hL3, hL4, hl3, hl4⟩)
    (vR L1 L2 && vR L3 L4) (by
      rw [Bool.and_eq_true]
      constructor
      · intro h i hi
        rcases (by omega : i = 0 ∨ i = 1) with rfl | rfl
        · exact h.1
        · exact h.2
      · intro h; exact ⟨h 0 (by decide), h 1 (by decide)⟩)
  exact h
theorem start_R (a b : Rat) (ha : fitR 200 a) (hb : fitR 200 b) (W : World) (p g cap : Nat) (m : ByteArray × ByteArray) (hc : 2 ≤ cap) (hp : CS W p (.slice (some ⟨g, 0, none⟩) 2 cap)) (hf : four_cells W g (S a.num) (S a.den) (S b.num) (S b.den)) :
    StepOK 122 #[.pointer (some ⟨p, 0, none⟩)] m (S a.num, S a.den) 0 W := by
  have h := start2 _ _ _ _ _ _ _ _ (S_list a.num) (S_list a.den) (S_list b.num) (S_list b.den) (S_len ha.1) (S_len (den_abs a ha)) (S_len hb.1) (S_len (den_abs b hb)) W p g cap m hc hp hf
  rw [vR_q a ha, vR_q b hb, Bool.and_true, if_pos rfl, if_pos rfl, if_pos rfl] at h
  exact h
theorem reduced_R (n d : Int) (hn : n.natAbs < 10 ^ 200) (hd : d.natAbs < 10 ^ 200) (h0 : d ≠ 0) (W : World) : StepOK 70 #[] (S n, S d) (S (Rat.divInt n d).num, S ((Rat.divInt n d).den : Int)) 0 W := by
  have h := reduced_S n d W hn hd h0
  rw [fr_R _ _ (sg_pos h0), sg_R] at h
  exact h
theorem reduced_Z (n : Int) (hn : n.natAbs < 10 ^ 200) (W : World) : StepOK 70 #[] (S n, S 0) (⟨#[]⟩, ⟨#[]⟩) 40 W :=
  reduced_no (S n) (S 0) (txt n) (txt 0) W (S_list n) (S_list 0) (S_len hn) (S_len (by decide)) (fun _ => txt_num 0)

set_option maxHeartbeats 1000000 in
theorem qAdd_R (a b : Rat) (ha : fitR 200 a) (hb : fitR 200 b) (w : World) :
    Calls Tryz.prog 38 #[RV a, RV b] w fun e w' => e = .returned (opQ (okA a b) (a + b)) ∧ Below w.heap.size w w' := by
  have hA := den_abs a ha
  have hB := den_abs b hb
  have ht : ∀ W p q, CS W p (.string (S (b.den : Int))) → CS W q (.string (S (b.den : Int))) → _ := fun W p q cp cq => times1_any (S a.num) (S (a.den : Int)) (S (b.den : Int)) (S (b.den : Int)) _ _ _ _ (er_two (a.num * b.den)) (er_two (a.den * b.den)) p q W cp cq (mul_rs a.num b.den ha.1 hB) (mul_rs a.den b.den hA hB)
  rw [okA]
  cases hx : fits (a.num * b.den)
  · have h := qAdd_walk (S a.num) (S (a.den : Int)) (S b.num) (S (b.den : Int)) (fun i => match i with | 0 => (⟨#[]⟩, ⟨#[]⟩) | 1 => (S a.num, S (a.den : Int)) | _ => (⟨#[]⟩, ⟨#[]⟩)) (fun i => match i with | 0 => 0 | 1 => 0 | _ => 40) w rfl rfl (fun i hi h => by
      rcases (by omega : i = 0 ∨ i = 1 ∨ i = 2 ∨ i = 3) with rfl | rfl | rfl | rfl <;> first | exact absurd rfl h | exact ⟨rfl, rfl⟩)
      (fun W p g cap hc hp hf => start_R a b ha hb W p g cap _ hc hp hf)
      (fun _ W p q cp cq => by
        have h := ht W p q cp cq
        rw [er_n hx, if_neg (by omega), if_neg (by omega), if_neg (by omega)] at h
        exact h) (fun h => absurd (show (40 : Int) = 0 from h) (by decide)) (fun h => absurd (show (40 : Int) = 0 from h) (by decide))
    rw [Bool.false_and, Bool.false_and, Bool.false_and]; exact h
  · cases hd : fits (a.den * b.den)
    · have h := qAdd_walk (S a.num) (S (a.den : Int)) (S b.num) (S (b.den : Int)) (fun i => match i with | 0 => (⟨#[]⟩, ⟨#[]⟩) | 1 => (S a.num, S (a.den : Int)) | _ => (⟨#[]⟩, ⟨#[]⟩)) (fun i => match i with | 0 => 0 | 1 => 0 | _ => 40) w rfl rfl (fun i hi h => by
      rcases (by omega : i = 0 ∨ i = 1 ∨ i = 2 ∨ i = 3) with rfl | rfl | rfl | rfl <;> first | exact absurd rfl h | exact ⟨rfl, rfl⟩)
        (fun W p g cap hc hp hf => start_R a b ha hb W p g cap _ hc hp hf)
        (fun _ W p q cp cq => by
          have h := ht W p q cp cq
          rw [er_n hd, if_neg (by omega), if_neg (by omega), if_neg (by omega)] at h
          exact h) (fun h => absurd (show (40 : Int) = 0 from h) (by decide)) (fun h => absurd (show (40 : Int) = 0 from h) (by decide))
      rw [Bool.and_false, Bool.false_and]; exact h
    · have h2 : ∀ W p q, CS W p (.string (S (b.den : Int))) → CS W q (.string (S (b.den : Int))) → StepOK 123 #[.pointer (some ⟨p, 0, none⟩), .pointer (some ⟨q, 0, none⟩)] (S a.num, S (a.den : Int)) (S (a.num * b.den), S ((a.den * b.den) : Int)) 0 W := fun W p q cp cq => by
        have h := ht W p q cp cq
        rw [er_f hx, er_f hd, if_pos ⟨rfl, rfl⟩, if_pos ⟨rfl, rfl⟩, if_pos ⟨rfl, rfl⟩, rs_f hx, rs_f hd] at h
        exact h
      have px := of_decide_eq_true hx
      have pd := of_decide_eq_true hd
      have hen : ∀ args W, (callFunc 81 args).run Tryz.prog W = .ok (.enter 81 args) W := enters_of Tryz.func81 (by kernel_rfl) rfl
      cases hz : fits (b.num * a.den)
      · have h3 : ∀ W p q r, CS W p (.string (S b.num)) → CS W q (.string (S (a.den : Int))) → CS W r (.func (.func 81) #[] #[]) → StepOK 131 #[.pointer (some ⟨p, 0, none⟩), .pointer (some ⟨q, 0, none⟩), .pointer (some ⟨r, 0, none⟩)] (S (a.num * b.den), S ((a.den * b.den) : Int)) (⟨#[]⟩, ⟨#[]⟩) 40 W := fun W p q r cp cq cr => by
          have h := combine2_any (S (a.num * b.den)) (S ((a.den * b.den) : Int)) (S b.num) (S (a.den : Int)) _ ⟨#[]⟩ 81 _ 30 (er_two (b.num * a.den)) (.inr rfl) p q r W cp cq cr hen (mul_rs b.num a.den hb.1 hA) (by rw [rs_n hz]; exact add_no _ px)
          rw [er_n hz, if_neg (by omega), if_neg (by omega), if_neg (by omega)] at h
          exact h
        have h := qAdd_walk (S a.num) (S (a.den : Int)) (S b.num) (S (b.den : Int)) (fun i => match i with | 0 => (⟨#[]⟩, ⟨#[]⟩) | 1 => (S a.num, S (a.den : Int)) | 2 => (S (a.num * b.den), S ((a.den * b.den) : Int)) | _ => (⟨#[]⟩, ⟨#[]⟩)) (fun i => match i with | 0 => 0 | 1 => 0 | 2 => 0 | _ => 40) w rfl rfl (fun i hi h => by
      rcases (by omega : i = 0 ∨ i = 1 ∨ i = 2 ∨ i = 3) with rfl | rfl | rfl | rfl <;> first | exact absurd rfl h | exact ⟨rfl, rfl⟩)
          (fun W p g cap hc hp hf => start_R a b ha hb W p g cap _ hc hp hf) (fun _ => h2) (fun _ => h3) (fun h => absurd (show (40 : Int) = 0 from h) (by decide))
        rw [Bool.and_false, Bool.false_and, Bool.false_and]; exact h
      · have pz := of_decide_eq_true hz
        have hc : ∀ W p q r, CS W p (.string (S b.num)) → CS W q (.string (S (a.den : Int))) → CS W r (.func (.func 81) #[] #[]) → _ := fun W p q r cp cq cr =>
          combine2_any (S (a.num * b.den)) (S ((a.den * b.den) : Int)) (S b.num) (S (a.den : Int)) _ _ 81 _ _ (er_two (b.num * a.den)) (er_two ((a.num * b.den) + (b.num * a.den))) p q r W cp cq cr hen (mul_rs b.num a.den hb.1 hA) (by rw [rs_f hz]; exact add_rs _ _ px pz)
        cases hs : fits ((a.num * b.den) + (b.num * a.den))
        · have h := qAdd_walk (S a.num) (S (a.den : Int)) (S b.num) (S (b.den : Int)) (fun i => match i with | 0 => (⟨#[]⟩, ⟨#[]⟩) | 1 => (S a.num, S (a.den : Int)) | 2 => (S (a.num * b.den), S ((a.den * b.den) : Int)) | _ => (⟨#[]⟩, ⟨#[]⟩)) (fun i => match i with | 0 => 0 | 1 => 0 | 2 => 0 | _ => 40) w rfl rfl (fun i hi h => by
      rcases (by omega : i = 0 ∨ i = 1 ∨ i = 2 ∨ i = 3) with rfl | rfl | rfl | rfl <;> first | exact absurd rfl h | exact ⟨rfl, rfl⟩)
            (fun W p g cap hc hp hf => start_R a b ha hb W p g cap _ hc hp hf) (fun _ => h2) (fun _ W p q r cp cq cr => by
              have h := hc W p q r cp cq cr
              rw [er_n hs, if_neg (by omega), if_neg (by omega), if_neg (by omega)] at h
              exact h) (fun h => absurd (show (40 : Int) = 0 from h) (by decide))
          rw [Bool.and_false]; exact h
        · have ps := of_decide_eq_true hs
          have d0 : ((a.den * b.den) : Int) ≠ 0 := by have := Int.mul_pos (den_pos a) (den_pos b); omega
          have h := qAdd_walk (S a.num) (S (a.den : Int)) (S b.num) (S (b.den : Int)) (fun i => match i with | 0 => (⟨#[]⟩, ⟨#[]⟩) | 1 => (S a.num, S (a.den : Int)) | 2 => (S (a.num * b.den), S ((a.den * b.den) : Int)) | 3 => (S ((a.num * b.den) + (b.num * a.den)), S ((a.den * b.den) : Int)) | _ => (S (Rat.divInt ((a.num * b.den) + (b.num * a.den)) (a.den * b.den)).num, S ((Rat.divInt ((a.num * b.den) + (b.num * a.den)) (a.den * b.den)).den : Int))) (fun i => match i with | 0 => 0 | _ => 0) w rfl rfl (fun i hi h => by
      rcases (by omega : i = 0 ∨ i = 1 ∨ i = 2 ∨ i = 3) with rfl | rfl | rfl | rfl <;> first | exact absurd rfl h | exact ⟨rfl, rfl⟩)
            (fun W p g cap hc hp hf => start_R a b ha hb W p g cap _ hc hp hf) (fun _ => h2) (fun _ W p q r cp cq cr => by
              have h := hc W p q r cp cq cr
              rw [er_f hs, er_f hz, if_pos ⟨rfl, rfl⟩, if_pos ⟨rfl, rfl⟩, if_pos ⟨rfl, rfl⟩, rs_f hs] at h
              exact h) (fun _ W => reduced_R _ _ ps pd d0 W)
          have e : a + b = Rat.divInt ((a.num * b.den) + (b.num * a.den)) (a.den * b.den) := by rw [Rat.add_def', ← Rat.divInt_ofNat, Int.natCast_mul]
          rw [e]; exact h

set_option maxHeartbeats 1000000 in
theorem qDiv_R (a b : Rat) (ha : fitR 200 a) (hb : fitR 200 b) (w : World) :
    Calls Tryz.prog 47 #[RV a, RV b] w fun e w' => e = .returned (opQ (okD a b) (a / b)) ∧ Below w.heap.size w w' := by
  have hA := den_abs a ha
  have hB := den_abs b hb
  have ht : ∀ W p q, CS W p (.string (S (b.den : Int))) → CS W q (.string (S b.num)) → _ := fun W p q cp cq => times1_any (S a.num) (S (a.den : Int)) (S (b.den : Int)) (S b.num) _ _ _ _ (er_two (a.num * b.den)) (er_two (a.den * b.num)) p q W cp cq (mul_rs a.num (b.den : Int) ha.1 hB) (mul_rs a.den b.num hA hb.1)
  rw [okD]
  cases hx : fits (a.num * b.den)
  · have h := qDiv_walk (S a.num) (S (a.den : Int)) (S b.num) (S (b.den : Int)) (fun i => match i with | 0 => (⟨#[]⟩, ⟨#[]⟩) | 1 => (S a.num, S (a.den : Int)) | _ => (⟨#[]⟩, ⟨#[]⟩)) (fun i => match i with | 0 => 0 | 1 => 0 | _ => 40) w rfl rfl (fun i hi h => by
      rcases (by omega : i = 0 ∨ i = 1 ∨ i = 2) with rfl | rfl | rfl <;> first | exact absurd rfl h | exact ⟨rfl, rfl⟩)
      (fun W p g cap hc hp hf => start_R a b ha hb W p g cap _ hc hp hf)
      (fun _ W p q cp cq => by
        have h := ht W p q cp cq
        rw [er_n hx, if_neg (by omega), if_neg (by omega), if_neg (by omega)] at h
        exact h) (fun h => absurd (show (40 : Int) = 0 from h) (by decide))
    rw [Bool.false_and, Bool.false_and]; exact h
  · cases hd : fits (a.den * b.num)
    · have h := qDiv_walk (S a.num) (S (a.den : Int)) (S b.num) (S (b.den : Int)) (fun i => match i with | 0 => (⟨#[]⟩, ⟨#[]⟩) | 1 => (S a.num, S (a.den : Int)) | _ => (⟨#[]⟩, ⟨#[]⟩)) (fun i => match i with | 0 => 0 | 1 => 0 | _ => 40) w rfl rfl (fun i hi h => by
      rcases (by omega : i = 0 ∨ i = 1 ∨ i = 2) with rfl | rfl | rfl <;> first | exact absurd rfl h | exact ⟨rfl, rfl⟩)
        (fun W p g cap hc hp hf => start_R a b ha hb W p g cap _ hc hp hf)
        (fun _ W p q cp cq => by
          have h := ht W p q cp cq
          rw [er_n hd, if_neg (by omega), if_neg (by omega), if_neg (by omega)] at h
          exact h) (fun h => absurd (show (40 : Int) = 0 from h) (by decide))
      rw [Bool.and_false, Bool.false_and]; exact h
    · have h2 : ∀ W p q, CS W p (.string (S (b.den : Int))) → CS W q (.string (S b.num)) → StepOK 123 #[.pointer (some ⟨p, 0, none⟩), .pointer (some ⟨q, 0, none⟩)] (S a.num, S (a.den : Int)) (S (a.num * b.den), S ((a.den * b.num) : Int)) 0 W := fun W p q cp cq => by
        have h := ht W p q cp cq
        rw [er_f hx, er_f hd, if_pos ⟨rfl, rfl⟩, if_pos ⟨rfl, rfl⟩, if_pos ⟨rfl, rfl⟩, rs_f hx, rs_f hd] at h
        exact h
      have px := of_decide_eq_true hx
      have pd := of_decide_eq_true hd
      by_cases h0 : b.num = 0
      · have h := qDiv_walk (S a.num) (S (a.den : Int)) (S b.num) (S (b.den : Int)) (fun i => match i with | 0 => (⟨#[]⟩, ⟨#[]⟩) | 1 => (S a.num, S (a.den : Int)) | 2 => (S (a.num * b.den), S ((a.den * b.num) : Int)) | _ => (⟨#[]⟩, ⟨#[]⟩)) (fun i => match i with | 0 => 0 | 1 => 0 | 2 => 0 | _ => 40) w rfl rfl (fun i hi h => by
      rcases (by omega : i = 0 ∨ i = 1 ∨ i = 2) with rfl | rfl | rfl <;> first | exact absurd rfl h | exact ⟨rfl, rfl⟩)
          (fun W p g cap hc hp hf => start_R a b ha hb W p g cap _ hc hp hf) (fun _ => h2) (fun _ W => by
            have h := reduced_Z _ px W
            rw [show (0 : Int) = (a.den * b.num) by rw [h0, Int.mul_zero]] at h
            exact h)
        rw [decide_eq_false (fun e => e h0), Bool.and_false]; exact h
      · have d0 : ((a.den * b.num) : Int) ≠ 0 := Int.mul_ne_zero (by have := den_pos a; omega) h0
        have h := qDiv_walk (S a.num) (S (a.den : Int)) (S b.num) (S (b.den : Int)) (fun i => match i with | 0 => (⟨#[]⟩, ⟨#[]⟩) | 1 => (S a.num, S (a.den : Int)) | 2 => (S (a.num * b.den), S ((a.den * b.num) : Int)) | _ => (S (Rat.divInt (a.num * b.den) (a.den * b.num)).num, S ((Rat.divInt (a.num * b.den) (a.den * b.num)).den : Int))) (fun i => match i with | 0 => 0 | _ => 0) w rfl rfl (fun i hi h => by
      rcases (by omega : i = 0 ∨ i = 1 ∨ i = 2) with rfl | rfl | rfl <;> first | exact absurd rfl h | exact ⟨rfl, rfl⟩)
          (fun W p g cap hc hp hf => start_R a b ha hb W p g cap _ hc hp hf) (fun _ => h2) (fun _ W => reduced_R _ _ px pd d0 W)
        rw [decide_eq_true h0, div_R a b]; exact h
end Go.Proofs.YtdnbhgkbfbgnaaaGreatDoor






namespace Go.Proofs.YtdnbhgkbfbgnaaaGreatDoor
open Go.Shelf
def Tryz.laysRepeat_ren : Go.Shelf.Ren := ⟨fun | 105 => 121 | 212 => 157 | 99 => 158 | 165 => 159 | 166 => 160 | 170 => 161 | 169 => 162 | 263 => 181 | 264 => 182 | 206 => 183 | 240 => 184 | 241 => 185 | 276 => 207 | 277 => 208 | n => n, fun | 9 => 9 | 3 => 3 | 4 => 4 | 20 => 20 | 0 => 0 | 46 => 147 | 109 => 148 | 5 => 5 | 72 => 153 | 76 => 155 | 51 => 169 | 146 => 170 | 53 => 172 | 148 => 173 | 70 => 151 | 37 => 48 | 75 => 139 | 127 => 158 | 164 => 195 | 80 => 119 | n => n, fun | n => n⟩
theorem Tryz.laysRepeat : Go.Proofs.Lays.n105 Tryz.prog Tryz.laysRepeat_ren := {
  mixed := by kernel_rfl
  f99 := Tryz.func158.trans (congrArg some (by kernel_rfl))
  f105 := Tryz.func121.trans (congrArg some (by kernel_rfl))
  f165 := Tryz.func159.trans (congrArg some (by kernel_rfl))
  f166 := Tryz.func160.trans (congrArg some (by kernel_rfl))
  f169 := Tryz.func162.trans (congrArg some (by kernel_rfl))
  f170 := Tryz.func161.trans (congrArg some (by kernel_rfl))
  f206 := Tryz.func183.trans (congrArg some (by kernel_rfl))
  f212 := Tryz.func157.trans (congrArg some (by kernel_rfl))
  f240 := Tryz.func184.trans (congrArg some (by kernel_rfl))
  f241 := Tryz.func185.trans (congrArg some (by kernel_rfl))
  f263 := Tryz.func181.trans (congrArg some (by kernel_rfl))
  f264 := Tryz.func182.trans (congrArg some (by kernel_rfl))
  f276 := Tryz.func207.trans (congrArg some (by kernel_rfl))
  f277 := Tryz.func208.trans (congrArg some (by kernel_rfl))
  t0 := Tryz.underlying0
  a0 := Tryz.isAgg0
  z0 := Tryz.sizeOf0
  v0 := Tryz.zeroValue0
  t3 := Tryz.underlying3
  a3 := Tryz.isAgg3
  z3 := Tryz.sizeOf3
  v3 := Tryz.zeroValue3
  t4 := Tryz.underlying4
  a4 := Tryz.isAgg4
  z4 := Tryz.sizeOf4
  v4 := Tryz.zeroValue4
  t5 := Tryz.underlying5
  a5 := Tryz.isAgg5
  z5 := Tryz.sizeOf5
  v5 := Tryz.zeroValue5
  t9 := Tryz.underlying9
  a9 := Tryz.isAgg9
  z9 := Tryz.sizeOf9
  v9 := Tryz.zeroValue9
  t20 := Tryz.underlying20
  a20 := Tryz.isAgg20
  z20 := Tryz.sizeOf20
  v20 := Tryz.zeroValue20
  t37 := Tryz.underlying48
  a37 := Tryz.isAgg48
  z37 := Tryz.sizeOf48
  v37 := Tryz.zeroValue48
  t46 := Tryz.underlying147
  a46 := Tryz.isAgg147
  z46 := Tryz.sizeOf147
  v46 := Tryz.zeroValue147
  t51 := Tryz.underlying169
  a51 := Tryz.isAgg169
  z51 := Tryz.sizeOf169
  v51 := Tryz.zeroValue169
  t53 := Tryz.underlying172
  a53 := Tryz.isAgg172
  z53 := Tryz.sizeOf172
  v53 := Tryz.zeroValue172
  t70 := Tryz.underlying151
  a70 := Tryz.isAgg151
  z70 := Tryz.sizeOf151
  v70 := Tryz.zeroValue151
  t72 := Tryz.underlying153
  a72 := Tryz.isAgg153
  z72 := Tryz.sizeOf153
  v72 := Tryz.zeroValue153
  t75 := Tryz.underlying139
  a75 := Tryz.isAgg139
  z75 := Tryz.sizeOf139
  v75 := Tryz.zeroValue139
  t76 := Tryz.underlying155
  a76 := Tryz.isAgg155
  z76 := Tryz.sizeOf155
  v76 := Tryz.zeroValue155
  t109 := Tryz.underlying148
  a109 := Tryz.isAgg148
  z109 := Tryz.sizeOf148
  v109 := Tryz.zeroValue148
  t127 := Tryz.underlying158
  a127 := Tryz.isAgg158
  z127 := Tryz.sizeOf158
  v127 := Tryz.zeroValue158
  t146 := Tryz.underlying170
  a146 := Tryz.isAgg170
  z146 := Tryz.sizeOf170
  v146 := Tryz.zeroValue170
  t148 := Tryz.underlying173
  a148 := Tryz.isAgg173
  z148 := Tryz.sizeOf173
  v148 := Tryz.zeroValue173
  t164 := Tryz.underlying195
  a164 := Tryz.isAgg195
  z164 := Tryz.sizeOf195
  v164 := Tryz.zeroValue195 }
def Tryz.laysCut_ren : Go.Shelf.Ren := ⟨fun | 145 => 79 | 220 => 130 | 219 => 166 | 217 => 188 | 225 => 189 | 224 => 190 | 267 => 191 | 266 => 215 | 314 => 216 | n => n, fun | 9 => 9 | 4 => 4 | 59 => 90 | 3 => 3 | 5 => 5 | 46 => 147 | 146 => 170 | 51 => 169 | n => n, fun | 1 => 1 | n => n⟩
theorem Tryz.laysCut : Go.Proofs.Lays.n145 Tryz.prog Tryz.laysCut_ren := {
  mixed := by kernel_rfl
  f145 := Tryz.func79.trans (congrArg some (by kernel_rfl))
  f217 := Tryz.func188.trans (congrArg some (by kernel_rfl))
  f219 := Tryz.func166.trans (congrArg some (by kernel_rfl))
  f220 := Tryz.func130.trans (congrArg some (by kernel_rfl))
  f224 := Tryz.func190.trans (congrArg some (by kernel_rfl))
  f225 := Tryz.func189.trans (congrArg some (by kernel_rfl))
  f266 := Tryz.func215.trans (congrArg some (by kernel_rfl))
  f267 := Tryz.func191.trans (congrArg some (by kernel_rfl))
  f314 := Tryz.func216.trans (congrArg some (by kernel_rfl))
  t3 := Tryz.underlying3
  a3 := Tryz.isAgg3
  z3 := Tryz.sizeOf3
  v3 := Tryz.zeroValue3
  t4 := Tryz.underlying4
  a4 := Tryz.isAgg4
  z4 := Tryz.sizeOf4
  v4 := Tryz.zeroValue4
  t5 := Tryz.underlying5
  a5 := Tryz.isAgg5
  z5 := Tryz.sizeOf5
  v5 := Tryz.zeroValue5
  t9 := Tryz.underlying9
  a9 := Tryz.isAgg9
  z9 := Tryz.sizeOf9
  v9 := Tryz.zeroValue9
  t46 := Tryz.underlying147
  a46 := Tryz.isAgg147
  z46 := Tryz.sizeOf147
  v46 := Tryz.zeroValue147
  t51 := Tryz.underlying169
  a51 := Tryz.isAgg169
  z51 := Tryz.sizeOf169
  v51 := Tryz.zeroValue169
  t59 := Tryz.underlying90
  a59 := Tryz.isAgg90
  z59 := Tryz.sizeOf90
  v59 := Tryz.zeroValue90
  t146 := Tryz.underlying170
  a146 := Tryz.isAgg170
  z146 := Tryz.sizeOf170
  v146 := Tryz.zeroValue170
  g1 := by kernel_rfl }
def Tryz.laysItoa_ren : Go.Shelf.Ren := ⟨fun | 171 => 128 | 243 => 165 | 246 => 187 | 283 => 211 | 284 => 212 | 285 => 213 | 286 => 214 | 129 => 223 | 317 => 222 | 318 => 224 | 319 => 225 | 320 => 226 | 337 => 229 | 338 => 230 | n => n, fun | 3 => 3 | 9 => 9 | 2 => 2 | 4 => 4 | 171 => 200 | 0 => 0 | 53 => 172 | 37 => 48 | 5 => 5 | 173 => 203 | 212 => 223 | 51 => 169 | 20 => 20 | 213 => 224 | 46 => 147 | 232 => 233 | 233 => 234 | n => n, fun | 17 => 2 | 18 => 5 | 19 => 6 | n => n⟩
theorem Tryz.laysItoa : Go.Proofs.LaysM.n171 Tryz.prog Tryz.laysItoa_ren := {
  mixed := by kernel_rfl
  f129 := Tryz.func223.trans (congrArg some (by kernel_rfl))
  f171 := Tryz.func128.trans (congrArg some (by kernel_rfl))
  f243 := Tryz.func165.trans (congrArg some (by kernel_rfl))
  f246 := Tryz.func187.trans (congrArg some (by kernel_rfl))
  f283 := Tryz.func211.trans (congrArg some (by kernel_rfl))
  f284 := Tryz.func212.trans (congrArg some (by kernel_rfl))
  f285 := Tryz.func213.trans (congrArg some (by kernel_rfl))
  f286 := Tryz.func214.trans (congrArg some (by kernel_rfl))
  f317 := Tryz.func222.trans (congrArg some (by kernel_rfl))
  f318 := Tryz.func224.trans (congrArg some (by kernel_rfl))
  f319 := Tryz.func225.trans (congrArg some (by kernel_rfl))
  f320 := Tryz.func226.trans (congrArg some (by kernel_rfl))
  f337 := Tryz.func229.trans (congrArg some (by kernel_rfl))
  f338 := Tryz.func230.trans (congrArg some (by kernel_rfl))
  t0 := Tryz.underlying0
  a0 := Tryz.isAgg0
  z0 := Tryz.sizeOf0
  v0 := Tryz.zeroValue0
  t2 := Tryz.underlying2
  a2 := Tryz.isAgg2
  z2 := Tryz.sizeOf2
  v2 := Tryz.zeroValue2
  t3 := Tryz.underlying3
  a3 := Tryz.isAgg3
  z3 := Tryz.sizeOf3
  v3 := Tryz.zeroValue3
  t4 := Tryz.underlying4
  a4 := Tryz.isAgg4
  z4 := Tryz.sizeOf4
  v4 := Tryz.zeroValue4
  t5 := Tryz.underlying5
  a5 := Tryz.isAgg5
  z5 := Tryz.sizeOf5
  v5 := Tryz.zeroValue5
  t9 := Tryz.underlying9
  a9 := Tryz.isAgg9
  z9 := Tryz.sizeOf9
  v9 := Tryz.zeroValue9
  t20 := Tryz.underlying20
  a20 := Tryz.isAgg20
  z20 := Tryz.sizeOf20
  v20 := Tryz.zeroValue20
  t37 := Tryz.underlying48
  a37 := Tryz.isAgg48
  z37 := Tryz.sizeOf48
  v37 := Tryz.zeroValue48
  t46 := Tryz.underlying147
  a46 := Tryz.isAgg147
  z46 := Tryz.sizeOf147
  v46 := Tryz.zeroValue147
  t51 := Tryz.underlying169
  a51 := Tryz.isAgg169
  z51 := Tryz.sizeOf169
  v51 := Tryz.zeroValue169
  t53 := Tryz.underlying172
  a53 := Tryz.isAgg172
  z53 := Tryz.sizeOf172
  v53 := Tryz.zeroValue172
  t171 := Tryz.underlying200
  a171 := Tryz.isAgg200
  z171 := Tryz.sizeOf200
  v171 := Tryz.zeroValue200
  t173 := Tryz.underlying203
  a173 := Tryz.isAgg203
  z173 := Tryz.sizeOf203
  v173 := Tryz.zeroValue203
  t212 := Tryz.underlying223
  a212 := Tryz.isAgg223
  z212 := Tryz.sizeOf223
  v212 := Tryz.zeroValue223
  t213 := Tryz.underlying224
  a213 := Tryz.isAgg224
  z213 := Tryz.sizeOf224
  t232 := Tryz.underlying233
  a232 := Tryz.isAgg233
  z232 := Tryz.sizeOf233
  v232 := Tryz.zeroValue233
  t233 := Tryz.underlying234
  a233 := Tryz.isAgg234
  z233 := Tryz.sizeOf234
  v233 := Tryz.zeroValue234
  g17 := by kernel_rfl
  g18 := by kernel_rfl
  g19 := by kernel_rfl
  i0 := by kernel_rfl
  i2 := by kernel_rfl
  i3 := by kernel_rfl
  i4 := by kernel_rfl
  i5 := by kernel_rfl
  i9 := by kernel_rfl
  i20 := by kernel_rfl
  i37 := by kernel_rfl
  i46 := by kernel_rfl
  i51 := by kernel_rfl
  i53 := by kernel_rfl
  i171 := by kernel_rfl
  i173 := by kernel_rfl
  i212 := by kernel_rfl
  i232 := by kernel_rfl
  i233 := by kernel_rfl
  m17 := by kernel_rfl
  m18 := by kernel_rfl
  m19 := by kernel_rfl }

theorem Tryz.repeatExtra : Builder.Extra Tryz.prog Tryz.laysRepeat_ren := {
  sizeBuilder := by kernel_rfl
  liesBuilder := by kernel_rfl
  t5 := Tryz.laysRepeat.t5
  a5 := Tryz.laysRepeat.a5
  z5 := Tryz.laysRepeat.z5
  v5 := Tryz.laysRepeat.v5
  infoByte := by kernel_rfl
  cellsByte := by kernel_rfl
  sizeByte := by kernel_rfl
  neB5 := by decide }
theorem fRepeat : Tryz.laysRepeat_ren.f 105 = 121 := by kernel_rfl
end Go.Proofs.YtdnbhgkbfbgnaaaGreatDoor






namespace Go.Proofs.YtdnbhgkbfbgnaaaGreatDoor
open Go.RowKit Go.Shelf

theorem dec_txN (u : Nat) : Lib.decDigits u = txN u := by
  induction u using Nat.strongRecOn with
  | ind u ih =>
    rw [Lib.decDigits]
    by_cases h : u < 10
    · rw [dif_pos h, txN]
      split
      · rename_i h0; subst h0; rfl
      · rename_i h0
        rw [grpX_pos (by omega), show u / 10 = 0 by omega, grpX_zero, lts_cons]
        simp only [lts, ltr, List.map_nil, List.reverse_nil, List.nil_append, Int.toNat_natCast]
        rw [show u % 10 = u by omega]
    · rw [dif_neg h, ih _ (by omega), txN, txN, if_neg (by omega), if_neg (by omega), grpX_pos (n := u) (by omega), lts_cons]
      simp only [ltr, Int.toNat_natCast]
theorem itoa_txt (n : Int) : Lib.itoa n = txt n := by
  rw [Lib.itoa, txt]
  split
  · rw [dec_txN]
  · rw [dec_txN, show n.toNat = n.natAbs by omega]

theorem var_below {w w' : World} {name : String} {cs : Array Value} (h : w.var? Tryz.prog name = some cs) (hb : Below w.heap.size w w') : w'.var? Tryz.prog name = some cs := by
  unfold World.var? at h ⊢
  cases hg : Tryz.prog.globalNamed name with
  | none => rw [hg] at h; cases h
  | some g =>
    rw [hg] at h
    simp only [Option.bind_some] at h ⊢
    by_cases hlt : g < w.heap.size
    · rw [hb.block g hlt]; exact h
    · rw [Array.getElem?_eq_none (by omega)] at h; cases h

/-- what the contracts of FromInt and Cut want of a world: the table of powers, and a number in the variable MaxLen -/
def Tz (w : World) : Prop := Lib.TabIs Tryz.prog w "internal/strconv.uint64pow10" .u64 Lib.pow10Tab ∧ 1 < w.heap.size ∧ ∃ m, w.cell? ⟨1, 0, none⟩ = some (.int .i64 m)
theorem Tz.below {w w' : World} (h : Tz w) (hb : Below w.heap.size w w') : Tz w' := by
  obtain ⟨h1, h0, m, h2⟩ := h
  exact ⟨var_below h1 hb, Nat.lt_of_lt_of_le h0 hb.size, m, (hb.cell (p := ⟨1, 0, none⟩) h0).trans h2⟩

set_option maxRecDepth 100000 in
theorem FromInt_any (n : Int) (w : World) (h0 : -9223372036854775808 ≤ n) (h1 : n ≤ 9223372036854775807) (hT : Tz w) :
    Calls Tryz.prog 76 #[.int .i64 n] w fun e w' => e = .returned (.string (S n)) ∧ Below w.heap.size w w' := by
  have c : Calls Tryz.prog 128 #[.int .i64 n] w fun e w' => e = .returned (.string (S n)) ∧ Below w.heap.size w w' := by
    have h := Any.strconv_Itoa Tryz.laysItoa n h0 h1 w hT.1
    refine h.mono fun e w' ⟨he, k, os, hw⟩ => ⟨?_, hw ▸ Lib.below_grow w.heap.size w (Nat.le_refl _) k os⟩
    rw [he, itoa_txt]; rfl
  generalize S n = T at *
  clear h0 h1 hT
  go_enter Tryz.func76, Tryz.ntmps76
  go_wp2_with (go_at_call 128; (with_reducible refine c.mono ?_); rintro e w1 ⟨rfl, B1⟩)
  go_ret
  exact ⟨rfl, B1⟩

/-- where the library's contract of stringslite.Clone finds its types here -/
def cloneRen : Ren := ⟨fun _ => 129, fun k => if k = 37 then 48 else if k = 47 then 158 else k, fun k => k⟩
theorem cloneLays : LaysPu.n25 Tryz.prog cloneRen := {
  mixed := by kernel_rfl
  f25 := by kernel_rfl
  t0 := by kernel_rfl
  a0 := fun _ => by kernel_rfl
  z0 := fun _ => by kernel_rfl
  v0 := fun _ => by kernel_rfl
  i0 := by kernel_rfl
  t3 := by kernel_rfl
  a3 := fun _ => by kernel_rfl
  z3 := fun _ => by kernel_rfl
  v3 := fun _ => by kernel_rfl
  i3 := by kernel_rfl
  t4 := by kernel_rfl
  a4 := fun _ => by kernel_rfl
  z4 := fun _ => by kernel_rfl
  v4 := fun _ => by kernel_rfl
  i4 := by kernel_rfl
  t5 := by kernel_rfl
  a5 := fun _ => by kernel_rfl
  z5 := fun _ => by kernel_rfl
  v5 := fun _ => by kernel_rfl
  i5 := by kernel_rfl
  t9 := by kernel_rfl
  a9 := fun _ => by kernel_rfl
  z9 := fun _ => by kernel_rfl
  v9 := fun _ => by kernel_rfl
  i9 := by kernel_rfl
  t37 := by kernel_rfl
  a37 := fun _ => by kernel_rfl
  z37 := fun _ => by kernel_rfl
  v37 := fun _ => by kernel_rfl
  i37 := by kernel_rfl
  t47 := by kernel_rfl
  a47 := fun _ => by kernel_rfl
  z47 := fun _ => by kernel_rfl
  v47 := fun _ => by kernel_rfl
  i47 := by kernel_rfl }


set_option maxRecDepth 100000 in
theorem clone_str (s : ByteArray) (w : World) (hlim : s.size ≤ 281474976710656) :
    Calls Tryz.prog 78 #[.string s] w fun e w' => e = .returned (.string s) ∧ Below w.heap.size w w' := by
  have c : ∀ W, Calls Tryz.prog 129 #[.string s] W fun e w' => e = .returned (.string s) ∧ Below W.heap.size W w' := fun W => AnyPu.stringslite_Clone cloneLays s W hlim
  go_enter Tryz.func78, Tryz.ntmps78
  go_wp2_with (go_at_call 129; (with_reducible refine (c _).mono ?_); rintro e w' ⟨rfl, hb⟩)
  go_ret
  exact ⟨rfl, hb⟩

theorem repeat0 (c : Nat) (hc : c ≤ 1000) (w : World) :
    Calls Tryz.prog 121 #[.string ⟨#[48]⟩, .int .i64 (c : Int)] w fun e w' => e = .returned (.string ⟨(List.replicate c (48 : UInt8)).toArray⟩) ∧ Below w.heap.size w w' := by
  have h := Any.strings_Repeat Tryz.laysRepeat Tryz.repeatExtra ⟨#[48]⟩ c w (by omega) (by show 1 * c ≤ _; omega)
  rw [fRepeat] at h
  have e : Lib.repeatL (ByteArray.mk #[48]).data.toList c = List.replicate c 48 := by
    have := Lib.repeatL_replicate 48 1 c
    simpa using this
  rw [e] at h
  exact h
theorem fCut : Tryz.laysCut_ren.f 145 = 79 := by kernel_rfl
theorem gCut : Tryz.laysCut_ren.g 1 = 1 := by kernel_rfl
theorem cut_s (s sep : ByteArray) (w : World) (hs : s.size < 4294967281) (hT : Tz w) :
    Calls Tryz.prog 79 #[.string s, .string sep] w fun e w' => e = .returned (.tuple #[.string ⟨(Lib.cut s.data.toList sep.data.toList).1.toArray⟩, .string ⟨(Lib.cut s.data.toList sep.data.toList).2.1.toArray⟩, .bool (Lib.cut s.data.toList sep.data.toList).2.2]) ∧ Below w.heap.size w w' := by
  obtain ⟨_, _, m, hm⟩ := hT
  have h := Any.strings_Cut Tryz.laysCut s sep m w hs (by rw [gCut]; exact hm)
  rw [fCut] at h
  refine h.mono fun e w' ⟨he, n, hw⟩ => ⟨he, ?_⟩
  rw [hw]
  exact ⟨rfl, rfl, rfl, Nat.le_refl _, fun _ _ => rfl⟩
end Go.Proofs.YtdnbhgkbfbgnaaaGreatDoor




namespace Go.Proofs.YtdnbhgkbfbgnaaaGreatDoor
open Go.RowKit

theorem txN_ten (n : Nat) : txN (10 ^ n) = 49 :: List.replicate n 48 := by
  induction n with
  | zero => rw [← dec_txN, Lib.decDigits, dif_pos (by decide)]; rfl
  | succ n ih =>
    have hp : 0 < 10 ^ n := Nat.pow_pos (by decide)
    rw [← dec_txN, Lib.decDigits, dif_neg (by rw [Nat.pow_succ]; omega), show 10 ^ (n + 1) / 10 = 10 ^ n by rw [Nat.pow_succ]; omega, show 10 ^ (n + 1) % 10 = 0 by rw [Nat.pow_succ]; omega, dec_txN, ih, List.replicate_succ', List.cons_append]
    rfl
theorem S_ten (n : Nat) : S ((10 ^ n : Nat) : Int) = ⟨#[49]⟩ ++ ⟨(List.replicate n (48 : UInt8)).toArray⟩ := by
  have h : (S ((10 ^ n : Nat) : Int)).data.toList = (⟨#[49]⟩ ++ ⟨(List.replicate n (48 : UInt8)).toArray⟩ : ByteArray).data.toList := by
    rw [S_list, txt, if_neg (by have := Int.natCast_nonneg (10 ^ n); omega), Int.natAbs_natCast, txN_ten, ByteArray.data_append]
    simp
  generalize S ((10 ^ n : Nat) : Int) = a at *
  cases a with | mk d =>
  generalize (⟨#[49]⟩ ++ ⟨(List.replicate n (48 : UInt8)).toArray⟩ : ByteArray) = b at *
  cases b with | mk e =>
  congr 1
  exact Array.toList_inj.1 h
theorem ten_lt {n k : Nat} (h : n < k) : (((10 ^ n : Nat)) : Int).natAbs < 10 ^ k := by
  rw [Int.natAbs_natCast]; exact Nat.pow_lt_pow_right (by decide) h
theorem ten_pos (n : Nat) : 0 < 10 ^ n := Nat.pow_pos (by decide)

set_option maxRecDepth 100000 in
theorem power_no (p : Int) (w : World) (h : ¬ (0 ≤ p ∧ p ≤ 30)) : Calls Tryz.prog 65 #[.int .i64 p] w fun e w' => e = .returned (.string ⟨#[]⟩) ∧ w' = w := by
  have hd : p < 0 ∨ (¬ p < 0 ∧ p > 30) := by omega
  rcases hd with hd | ⟨h1, h2⟩
  · go_enter Tryz.func65, Tryz.ntmps65
    go_wp2
    go_ret
    exact ⟨rfl, rfl⟩
  · go_enter Tryz.func65, Tryz.ntmps65
    go_wp2
    go_ret
    exact ⟨rfl, rfl⟩
set_option maxRecDepth 100000 in
theorem power_ok (n : Nat) (w : World) (h : n ≤ 30) : Calls Tryz.prog 65 #[.int .i64 (n : Int)] w fun e w' => e = .returned (.string (S ((10 ^ n : Nat) : Int))) ∧ Below w.heap.size w w' := by
  have c := repeat0 n (by omega) w
  rw [S_ten]
  have hsz : (⟨(List.replicate n (48 : UInt8)).toArray⟩ : ByteArray).size = n := by simp [ByteArray.size]
  have h1 : ¬ ((n : Int) < 0) := by omega
  have h2 : ¬ ((n : Int) > 30) := by omega
  generalize (⟨(List.replicate n (48 : UInt8)).toArray⟩ : ByteArray) = y at *
  have hs1 : (⟨#[49]⟩ : ByteArray).size = 1 := rfl
  go_enter Tryz.func65, Tryz.ntmps65
  go_wp2_with (go_at_call 121; (with_reducible refine c.mono ?_); rintro e w1 ⟨rfl, B1⟩)
  go_ret
  exact ⟨rfl, B1⟩

set_option maxRecDepth 100000 in
set_option maxHeartbeats 2000000 in
theorem floor_S (n d : Int) (w : World) (hn : n.natAbs < 10 ^ 200) (hd : d.natAbs < 10 ^ 200) (h0 : d ≠ 0) : StepOK 69 #[] (S n, S d) (S (n / d), ⟨#[49]⟩) 0 w := by
  have ca := fun W => Div_S n d hn hd h0 W
  show Calls _ _ #[.agg #[.string (S n), .string (S d)]] w fun e w' => e = .returned (.tuple #[.agg #[.string (S (n / d)), .string ⟨#[49]⟩], .int .i64 0]) ∧ _
  generalize S (n / d) = x1 at *
  generalize S (n % d) = y1 at *
  generalize S n = s1 at *
  generalize S d = s2 at *
  have CA := Lib.hid ca
  clear ca hn hd h0
  obtain ⟨r1, r2⟩ := two_ratios w (.string s1) (.string s2) (.string ⟨#[]⟩) (.string ⟨#[]⟩)
  have HB := Lib.hid ((below_alloc w (.cells #[.string s1, .string s2] 23)).alloc (by rw [World.size_alloc]; omega) (.cells #[.string ⟨#[]⟩, .string ⟨#[]⟩] 23))
  have a0 := r1.c0
  have a1 := r1.c1
  have HR := Lib.hid (And.intro r1 r2)
  clear r1 r2
  go_enter Tryz.func69, Tryz.ntmps69
  go_wp2_with (go_at_call 60; (with_reducible refine (CA.out _).mono ?_); rintro e W ⟨rfl, B⟩; have hr := (And.intro (HR.out.1.keep B HR.out.1.lt) (HR.out.2.keep B HR.out.2.lt)); have hb := HB.out.trans (B.mono HB.out.size); clear HR HB B a0 a1; have HR := Lib.hid hr; have HB := Lib.hid hb; have a0 := hr.1.c0; have a1 := hr.1.c1; have c0 := hr.2.c0; have c1 := hr.2.c1; have f0 := hr.2.f 0; have f1 := hr.2.f 1; have hs := hr.2.s0 (.string x1); have d1 := hs.c1; have g1 := hs.f 1; have HS := Lib.hid (hs.s1 (.string ⟨#[49]⟩)); have HBS := Lib.hid ((hb.setCell (p := ⟨w.heap.size + 1, 0, none⟩) (by show w.heap.size ≤ w.heap.size + 1; omega) (.string x1)).setCell (p := ⟨w.heap.size + 1, 1, none⟩) (by show w.heap.size ≤ w.heap.size + 1; omega) (.string ⟨#[49]⟩)); clear hr hb hs)
  refine bodyPost_ret (results_ratio rfl _ _ (w.heap.size + 1) _ _ rfl HS.out) rfl ?_
  exact ⟨rfl, HBS.out⟩

/-- the integer above a quotient -/
def upD (n d : Int) : Int := if n % d = 0 then n / d else n / d + 1
theorem up_fit {n d : Int} (hn : n.natAbs < 10 ^ 200) (h0 : 0 < d) (hr : n % d ≠ 0) : (n / d + 1).natAbs < 10 ^ 200 ∧ (n / d).natAbs < 10 ^ 200 := by
  have h1 := Int.mul_ediv_add_emod n d
  have h2 := Int.emod_lt_of_pos n h0
  have h3 := Int.emod_nonneg n (show d ≠ 0 by omega)
  have h4 := Int.natAbs_ediv_le_natAbs n d
  have d2 : 2 ≤ d := by omega
  generalize n / d = q at *
  generalize n % d = r at *
  by_cases hq : 0 ≤ q
  · have h5 : 2 * q ≤ d * q := Int.mul_le_mul_of_nonneg_right d2 hq
    have : (10 : Nat) ^ 200 = 2 * (5 * 10 ^ 199) := by rw [show 200 = 199 + 1 from rfl, Nat.pow_succ]
    omega
  · omega

set_option maxRecDepth 100000 in
set_option maxHeartbeats 2000000 in
theorem ceiling_S (n d : Int) (w : World) (hn : n.natAbs < 10 ^ 200) (hd : d.natAbs < 10 ^ 200) (h0 : 0 < d) : StepOK 72 #[] (S n, S d) (S (upD n d), ⟨#[49]⟩) 0 w := by
  have ca := fun W => Div_S n d hn hd (by omega) W
  show Calls _ _ #[.agg #[.string (S n), .string (S d)]] w fun e w' => e = .returned (.tuple #[.agg #[.string (S (upD n d)), .string ⟨#[49]⟩], .int .i64 0]) ∧ _
  by_cases hr : n % d = 0
  · rw [upD, if_pos hr]
    rw [hr, S_zero] at ca
    generalize S (n / d) = x1 at *
    generalize S n = s1 at *
    generalize S d = s2 at *
    have CA := Lib.hid ca
    clear ca hn hd h0 hr
    obtain ⟨r1, r2⟩ := two_ratios w (.string s1) (.string s2) (.string ⟨#[]⟩) (.string ⟨#[]⟩)
    have HB := Lib.hid ((below_alloc w (.cells #[.string s1, .string s2] 23)).alloc (by rw [World.size_alloc]; omega) (.cells #[.string ⟨#[]⟩, .string ⟨#[]⟩] 23))
    have a0 := r1.c0
    have a1 := r1.c1
    have HR := Lib.hid (And.intro r1 r2)
    clear r1 r2
    go_enter Tryz.func72, Tryz.ntmps72
    go_wp2_with (go_at_call 60; (with_reducible refine (CA.out _).mono ?_); rintro e W ⟨rfl, B⟩; have hr := (And.intro (HR.out.1.keep B HR.out.1.lt) (HR.out.2.keep B HR.out.2.lt)); have hb := HB.out.trans (B.mono HB.out.size); clear HR HB B a0 a1; have HR := Lib.hid hr; have HB := Lib.hid hb; have a0 := hr.1.c0; have a1 := hr.1.c1; have c0 := hr.2.c0; have c1 := hr.2.c1; have f0 := hr.2.f 0; have f1 := hr.2.f 1; have hs := hr.2.s0 (.string x1); have d1 := hs.c1; have g1 := hs.f 1; have HS := Lib.hid (hs.s1 (.string ⟨#[49]⟩)); have HBS := Lib.hid ((hb.setCell (p := ⟨w.heap.size + 1, 0, none⟩) (by show w.heap.size ≤ w.heap.size + 1; omega) (.string x1)).setCell (p := ⟨w.heap.size + 1, 1, none⟩) (by show w.heap.size ≤ w.heap.size + 1; omega) (.string ⟨#[49]⟩)); clear hr hb hs)
    refine bodyPost_ret (results_ratio rfl _ _ (w.heap.size + 1) _ _ rfl HS.out) rfl ?_
    exact ⟨rfl, HBS.out⟩
  · rw [upD, if_neg hr]
    have hb := up_fit hn h0 hr
    have cs := fun W => Add_S (n / d) 1 hb.2 (by decide) hb.1 W
    rw [S_one] at cs
    have ht : ((S (n % d)).toList == [48]) = false := by
      rw [ByteArray.toList_eq, S_list, show ([48] : List UInt8) = txt 0 by rw [← S_list, S_zero], beq_eq_false_iff_ne]
      exact fun e => hr (txt_inj e)
    generalize S (n / d + 1) = x2 at *
    generalize S (n / d) = x1 at *
    generalize S (n % d) = y1 at *
    generalize S n = s1 at *
    generalize S d = s2 at *
    have CA := Lib.hid ca
    have CS' := Lib.hid cs
    clear ca cs hn hd h0 hr hb
    obtain ⟨r1, r2⟩ := two_ratios w (.string s1) (.string s2) (.string ⟨#[]⟩) (.string ⟨#[]⟩)
    have HB := Lib.hid ((below_alloc w (.cells #[.string s1, .string s2] 23)).alloc (by rw [World.size_alloc]; omega) (.cells #[.string ⟨#[]⟩, .string ⟨#[]⟩] 23))
    have a0 := r1.c0
    have a1 := r1.c1
    have HR := Lib.hid (And.intro r1 r2)
    clear r1 r2
    go_enter Tryz.func72, Tryz.ntmps72
    go_wp2_with (first | (go_at_call 60; (with_reducible refine (CA.out _).mono ?_); rintro e W ⟨rfl, B⟩; have hr := (And.intro (HR.out.1.keep B HR.out.1.lt) (HR.out.2.keep B HR.out.2.lt)); have hb := HB.out.trans (B.mono HB.out.size); clear HR HB B a0 a1; have HR := Lib.hid hr; have HB := Lib.hid hb; have a0 := hr.1.c0; have a1 := hr.1.c1; clear hr hb) | (go_at_call 81; (with_reducible refine (CS'.out _).mono ?_); rintro e W ⟨rfl, B⟩; have hr := (And.intro (HR.out.1.keep B HR.out.1.lt) (HR.out.2.keep B HR.out.2.lt)); have hb := HB.out.trans (B.mono HB.out.size); clear HR HB B a0 a1; have HR := Lib.hid hr; have HB := Lib.hid hb; have a0 := hr.1.c0; have a1 := hr.1.c1; have c0 := hr.2.c0; have c1 := hr.2.c1; have f0 := hr.2.f 0; have f1 := hr.2.f 1; have hs := hr.2.s0 (.string x2); have d1 := hs.c1; have g1 := hs.f 1; have HS := Lib.hid (hs.s1 (.string ⟨#[49]⟩)); have HBS := Lib.hid ((hb.setCell (p := ⟨w.heap.size + 1, 0, none⟩) (by show w.heap.size ≤ w.heap.size + 1; omega) (.string x2)).setCell (p := ⟨w.heap.size + 1, 1, none⟩) (by show w.heap.size ≤ w.heap.size + 1; omega) (.string ⟨#[49]⟩)); clear hr hb hs))
    refine bodyPost_ret (results_ratio rfl _ _ (w.heap.size + 1) _ _ rfl HS.out) rfl ?_
    exact ⟨rfl, HBS.out⟩
end Go.Proofs.YtdnbhgkbfbgnaaaGreatDoor


namespace Go.Proofs.YtdnbhgkbfbgnaaaGreatDoor
open Go.RowKit

/-- two cells that hold strings -/
def TC (W : World) (g : Nat) (x y : ByteArray) : Prop := g < W.heap.size ∧ W.cell? ⟨g, 0, none⟩ = some (.string x) ∧ W.cell? ⟨g, 1, none⟩ = some (.string y)
theorem TC.keep {W W' : World} {g : Nat} {x y : ByteArray} (h : TC W g x y) (hb : Below W.heap.size W W') : TC W' g x y :=
  ⟨Nat.lt_of_lt_of_le h.1 hb.size, (hb.cell (p := ⟨g, 0, none⟩) h.1).trans h.2.1, (hb.cell (p := ⟨g, 1, none⟩) h.1).trans h.2.2⟩
theorem TC.new (W : World) (x y : ByteArray) : TC (W.alloc (.cells #[.string x, .string y] 23)) W.heap.size x y :=
  ⟨by rw [World.size_alloc]; omega, by rw [World.cell?, Go.heap_alloc_new]; rfl, by rw [World.cell?, Go.heap_alloc_new]; rfl⟩

set_option maxRecDepth 100000 in
set_option maxHeartbeats 8000000 in
theorem qDown_walk (s1 s2 T : ByteArray) (p : Int) (M : Nat → ByteArray × ByteArray) (E : Nat → Int) (w : World) (hM : M 0 = (⟨#[]⟩, ⟨#[]⟩)) (hE : E 0 = 0) (hsk : ∀ i, i < 5 → E i ≠ 0 → M (i + 1) = M i ∧ E (i + 1) = E i)
    (hp : ∀ W, Calls Tryz.prog 65 #[.int .i64 p] W fun e w' => e = .returned (.string T) ∧ Below W.heap.size W w')
    (h1 : ∀ W p g cap, 1 ≤ cap → CS W p (.slice (some ⟨g, 0, none⟩) 1 cap) → TC W g s1 s2 → StepOK 122 #[.pointer (some ⟨p, 0, none⟩)] (M 0) (M 1) (E 1) W)
    (h2 : E 1 = 0 → ∀ W p q, CS W p (.string T) → CS W q (.string ⟨#[49]⟩) → StepOK 123 #[.pointer (some ⟨p, 0, none⟩), .pointer (some ⟨q, 0, none⟩)] (M 1) (M 2) (E 2) W)
    (h3 : E 2 = 0 → ∀ W, StepOK 69 #[] (M 2) (M 3) (E 3) W)
    (h4 : E 3 = 0 → ∀ W p q, CS W p (.string ⟨#[49]⟩) → CS W q (.string T) → StepOK 123 #[.pointer (some ⟨p, 0, none⟩), .pointer (some ⟨q, 0, none⟩)] (M 3) (M 4) (E 4) W)
    (h5 : E 4 = 0 → ∀ W, StepOK 70 #[] (M 4) (M 5) (E 5) W) :
    Calls Tryz.prog 24 #[.agg #[.string s1, .string s2], .int .i64 p] w fun e w' => e = .returned (.tuple #[.agg #[.string (M 5).1, .string (M 5).2], .int .i64 (E 5)]) ∧ Below w.heap.size w w' := by
  have HBC : Hid (∀ W1 W2 W3 W4 : World, TC W4 W1.heap.size s1 s2 → CS W4 (W1.heap.size + 1) (.slice (some ⟨W1.heap.size, 0, none⟩) 1 1) → CS W4 W2.heap.size (.string T) → CS W4 (W2.heap.size + 1) (.string ⟨#[49]⟩) → CS W4 W3.heap.size (.string ⟨#[49]⟩) → CS W4 (W3.heap.size + 1) (.string T) →
      Calls Tryz.prog 66 #[.slice (some ⟨W4.heap.size, 0, none⟩) 5 5] (W4.alloc (.cells #[.func (.func 122) #[] #[.pointer (some ⟨W1.heap.size + 1, 0, none⟩)], .func (.func 123) #[] #[.pointer (some ⟨W2.heap.size, 0, none⟩), .pointer (some ⟨W2.heap.size + 1, 0, none⟩)], .func (.func 69) #[] #[], .func (.func 123) #[] #[.pointer (some ⟨W3.heap.size, 0, none⟩), .pointer (some ⟨W3.heap.size + 1, 0, none⟩)], .func (.func 70) #[] #[]] 85)) fun e w' => e = .returned (.tuple #[.agg #[.string (M 5).1, .string (M 5).2], .int .i64 (E 5)]) ∧ Below (W4.alloc (.cells #[.func (.func 122) #[] #[.pointer (some ⟨W1.heap.size + 1, 0, none⟩)], .func (.func 123) #[] #[.pointer (some ⟨W2.heap.size, 0, none⟩), .pointer (some ⟨W2.heap.size + 1, 0, none⟩)], .func (.func 69) #[] #[], .func (.func 123) #[] #[.pointer (some ⟨W3.heap.size, 0, none⟩), .pointer (some ⟨W3.heap.size + 1, 0, none⟩)], .func (.func 70) #[] #[]] 85)).heap.size (W4.alloc (.cells #[.func (.func 122) #[] #[.pointer (some ⟨W1.heap.size + 1, 0, none⟩)], .func (.func 123) #[] #[.pointer (some ⟨W2.heap.size, 0, none⟩), .pointer (some ⟨W2.heap.size + 1, 0, none⟩)], .func (.func 69) #[] #[], .func (.func 123) #[] #[.pointer (some ⟨W3.heap.size, 0, none⟩), .pointer (some ⟨W3.heap.size + 1, 0, none⟩)], .func (.func 70) #[] #[]] 85)) w') := Lib.hid (by
    intro W1 W2 W3 W4 f2 c2 c3a c3b c4a c4b
    have H1 := Lib.hid h1
    have H2 := Lib.hid h2
    have H3 := Lib.hid h3
    have H4 := Lib.hid h4
    have H5 := Lib.hid h5
    have F2 := Lib.hid f2
    have C2 := Lib.hid c2
    have C3a := Lib.hid c3a
    have C3b := Lib.hid c3b
    have C4a := Lib.hid c4a
    have C4b := Lib.hid c4b
    refine build_any 5 W4.heap.size 5 (fun i => if i = 0 then .func (.func 122) #[] #[.pointer (some ⟨W1.heap.size + 1, 0, none⟩)] else if i = 1 then .func (.func 123) #[] #[.pointer (some ⟨W2.heap.size, 0, none⟩), .pointer (some ⟨W2.heap.size + 1, 0, none⟩)] else if i = 2 then .func (.func 69) #[] #[] else if i = 3 then .func (.func 123) #[] #[.pointer (some ⟨W3.heap.size, 0, none⟩), .pointer (some ⟨W3.heap.size + 1, 0, none⟩)] else .func (.func 70) #[] #[]) M E _ (by decide) (by decide) (by rw [World.size_alloc]; omega) (fun i hi => ?_) hM hE (fun i hi hE => ?_) hsk
    · rcases (by omega : i = 0 ∨ i = 1 ∨ i = 2 ∨ i = 3 ∨ i = 4) with rfl | rfl | rfl | rfl | rfl
      · rw [World.cell?, Go.heap_alloc_new]; rfl
      · rw [World.cell?, Go.heap_alloc_new]; rfl
      · rw [World.cell?, Go.heap_alloc_new]; rfl
      · rw [World.cell?, Go.heap_alloc_new]; rfl
      · rw [World.cell?, Go.heap_alloc_new]; rfl
    · rcases (by omega : i = 0 ∨ i = 1 ∨ i = 2 ∨ i = 3 ∨ i = 4) with rfl | rfl | rfl | rfl | rfl
      · exact ⟨122, _, rfl, enters_of Tryz.func122 (by kernel_rfl) rfl, fun W hW => H1.out W _ _ 1 (by omega) ((C2.out.alloc _).keep hW) ((F2.out.keep (below_alloc W4 _)).keep hW)⟩
      · exact ⟨123, _, rfl, enters_of Tryz.func123 (by kernel_rfl) rfl, fun W hW => H2.out hE W _ _ ((C3a.out.alloc _).keep hW) ((C3b.out.alloc _).keep hW)⟩
      · exact ⟨69, _, rfl, enters_of Tryz.func69 (by kernel_rfl) rfl, fun W hW => H3.out hE W⟩
      · exact ⟨123, _, rfl, enters_of Tryz.func123 (by kernel_rfl) rfl, fun W hW => H4.out hE W _ _ ((C4a.out.alloc _).keep hW) ((C4b.out.alloc _).keep hW)⟩
      · exact ⟨70, _, rfl, enters_of Tryz.func70 (by kernel_rfl) rfl, fun W hW => H5.out hE W⟩)
  have HP := Lib.hid hp
  clear hp h1 h2 h3 h4 h5 hM hE hsk
  obtain ⟨r1, r2⟩ := two_ratios w (.string s1) (.string s2) (.string ⟨#[]⟩) (.string ⟨#[]⟩)
  have HB := Lib.hid ((below_alloc w (.cells #[.string s1, .string s2] 23)).alloc (by rw [World.size_alloc]; omega) (.cells #[.string ⟨#[]⟩, .string ⟨#[]⟩] 23))
  have a0 := r1.c0
  have a1 := r1.c1
  have HR := Lib.hid (And.intro r1 r2)
  clear r1 r2
  go_enter Tryz.func24, Tryz.ntmps24
  go_wp2_with (first | (go_at_call 65; (with_reducible refine (HP.out _).mono ?_); rintro e W1 ⟨rfl, B⟩; have hr := (And.intro (HR.out.1.keep B HR.out.1.lt) (HR.out.2.keep B HR.out.2.lt)); have hb := HB.out.trans (B.mono HB.out.size); clear HR HB B a0 a1; have HR := Lib.hid hr; have HB := Lib.hid hb; have a0 := hr.1.c0; have a1 := hr.1.c1; clear hr hb) | (go_at_call 67; (with_reducible refine (start_any _ _ _ _).mono ?_); rintro e W2 ⟨rfl, c2, B0⟩; have B := (below_alloc W1 (.cells #[.string s1, .string s2] 23)).trans (B0.mono (by rw [World.size_alloc]; omega)); have F2 := Lib.hid (show TC W2 W1.heap.size s1 s2 from (TC.new W1 s1 s2).keep B0); rw [World.size_alloc] at c2; have C2 := Lib.hid c2; clear B0 c2; have hr := (And.intro (HR.out.1.keep B HR.out.1.lt) (HR.out.2.keep B HR.out.2.lt)); have hb := HB.out.trans (B.mono HB.out.size); clear HR HB B a0 a1; have HR := Lib.hid hr; have HB := Lib.hid hb; have a0 := hr.1.c0; have a1 := hr.1.c1; clear hr hb) | (go_at_call 68; (with_reducible refine (qtimes_any T ⟨#[49]⟩ _).mono ?_); rintro e W3 ⟨rfl, c3, B⟩; have F2n := Lib.hid (F2.out.keep B); have C2n := Lib.hid (C2.out.keep B); clear F2 C2; have F2 := F2n; have C2 := C2n; clear F2n C2n; have C3a := Lib.hid c3.1; have C3b := Lib.hid c3.2; clear c3; have hr := (And.intro (HR.out.1.keep B HR.out.1.lt) (HR.out.2.keep B HR.out.2.lt)); have hb := HB.out.trans (B.mono HB.out.size); clear HR HB B a0 a1; have HR := Lib.hid hr; have HB := Lib.hid hb; have a0 := hr.1.c0; have a1 := hr.1.c1; clear hr hb) | (go_at_call 68; (with_reducible refine (qtimes_any ⟨#[49]⟩ T _).mono ?_); rintro e W4 ⟨rfl, c4, B⟩; have F2n := Lib.hid (F2.out.keep B); have C2n := Lib.hid (C2.out.keep B); have C3an := Lib.hid (C3a.out.keep B); have C3bn := Lib.hid (C3b.out.keep B); clear F2 C2 C3a C3b; have F2 := F2n; have C2 := C2n; have C3a := C3an; have C3b := C3bn; clear F2n C2n C3an C3bn; have C4a := Lib.hid c4.1; have C4b := Lib.hid c4.2; clear c4; have hr := (And.intro (HR.out.1.keep B HR.out.1.lt) (HR.out.2.keep B HR.out.2.lt)); have hb := HB.out.trans (B.mono HB.out.size); clear HR HB B a0 a1; have HR := Lib.hid hr; have HB := Lib.hid hb; have a0 := hr.1.c0; have a1 := hr.1.c1; clear hr hb) | (go_at_call 66; (with_reducible refine (HBC.out W1 W2 W3 W4 F2.out C2.out C3a.out C3b.out C4a.out C4b.out).mono ?_); rintro e W9 ⟨rfl, B0⟩; have B := (below_alloc W4 (.cells #[.func (.func 122) #[] #[.pointer (some ⟨W1.heap.size + 1, 0, none⟩)], .func (.func 123) #[] #[.pointer (some ⟨W2.heap.size, 0, none⟩), .pointer (some ⟨W2.heap.size + 1, 0, none⟩)], .func (.func 69) #[] #[], .func (.func 123) #[] #[.pointer (some ⟨W3.heap.size, 0, none⟩), .pointer (some ⟨W3.heap.size + 1, 0, none⟩)], .func (.func 70) #[] #[]] 85)).trans (B0.mono (by rw [World.size_alloc]; omega)); clear B0; have hr := (And.intro (HR.out.1.keep B HR.out.1.lt) (HR.out.2.keep B HR.out.2.lt)); have hb := HB.out.trans (B.mono HB.out.size); clear HR HB B a0 a1; have HR := Lib.hid hr; have HB := Lib.hid hb; have a0 := hr.1.c0; have a1 := hr.1.c1; have c0 := hr.2.c0; have c1 := hr.2.c1; have f0 := hr.2.f 0; have f1 := hr.2.f 1; have hs := hr.2.s0 (.string (M 5).1); have d1 := hs.c1; have g1 := hs.f 1; have HS := Lib.hid (hs.s1 (.string (M 5).2)); have HBS := Lib.hid ((hb.setCell (p := ⟨w.heap.size + 1, 0, none⟩) (by show w.heap.size ≤ w.heap.size + 1; omega) (.string (M 5).1)).setCell (p := ⟨w.heap.size + 1, 1, none⟩) (by show w.heap.size ≤ w.heap.size + 1; omega) (.string (M 5).2)); clear hr hb hs))
  refine bodyPost_ret (results_ratio rfl _ _ (w.heap.size + 1) _ _ rfl HS.out) rfl ?_
  exact ⟨rfl, HBS.out⟩

set_option maxRecDepth 100000 in
set_option maxHeartbeats 8000000 in
theorem qUp_walk (s1 s2 T : ByteArray) (p : Int) (M : Nat → ByteArray × ByteArray) (E : Nat → Int) (w : World) (hM : M 0 = (⟨#[]⟩, ⟨#[]⟩)) (hE : E 0 = 0) (hsk : ∀ i, i < 5 → E i ≠ 0 → M (i + 1) = M i ∧ E (i + 1) = E i)
    (hp : ∀ W, Calls Tryz.prog 65 #[.int .i64 p] W fun e w' => e = .returned (.string T) ∧ Below W.heap.size W w')
    (h1 : ∀ W p g cap, 1 ≤ cap → CS W p (.slice (some ⟨g, 0, none⟩) 1 cap) → TC W g s1 s2 → StepOK 122 #[.pointer (some ⟨p, 0, none⟩)] (M 0) (M 1) (E 1) W)
    (h2 : E 1 = 0 → ∀ W p q, CS W p (.string T) → CS W q (.string ⟨#[49]⟩) → StepOK 123 #[.pointer (some ⟨p, 0, none⟩), .pointer (some ⟨q, 0, none⟩)] (M 1) (M 2) (E 2) W)
    (h3 : E 2 = 0 → ∀ W, StepOK 72 #[] (M 2) (M 3) (E 3) W)
    (h4 : E 3 = 0 → ∀ W p q, CS W p (.string ⟨#[49]⟩) → CS W q (.string T) → StepOK 123 #[.pointer (some ⟨p, 0, none⟩), .pointer (some ⟨q, 0, none⟩)] (M 3) (M 4) (E 4) W)
    (h5 : E 4 = 0 → ∀ W, StepOK 70 #[] (M 4) (M 5) (E 5) W) :
    Calls Tryz.prog 26 #[.agg #[.string s1, .string s2], .int .i64 p] w fun e w' => e = .returned (.tuple #[.agg #[.string (M 5).1, .string (M 5).2], .int .i64 (E 5)]) ∧ Below w.heap.size w w' := by
  have HBC : Hid (∀ W1 W2 W3 W4 : World, TC W4 W1.heap.size s1 s2 → CS W4 (W1.heap.size + 1) (.slice (some ⟨W1.heap.size, 0, none⟩) 1 1) → CS W4 W2.heap.size (.string T) → CS W4 (W2.heap.size + 1) (.string ⟨#[49]⟩) → CS W4 W3.heap.size (.string ⟨#[49]⟩) → CS W4 (W3.heap.size + 1) (.string T) →
      Calls Tryz.prog 66 #[.slice (some ⟨W4.heap.size, 0, none⟩) 5 5] (W4.alloc (.cells #[.func (.func 122) #[] #[.pointer (some ⟨W1.heap.size + 1, 0, none⟩)], .func (.func 123) #[] #[.pointer (some ⟨W2.heap.size, 0, none⟩), .pointer (some ⟨W2.heap.size + 1, 0, none⟩)], .func (.func 72) #[] #[], .func (.func 123) #[] #[.pointer (some ⟨W3.heap.size, 0, none⟩), .pointer (some ⟨W3.heap.size + 1, 0, none⟩)], .func (.func 70) #[] #[]] 85)) fun e w' => e = .returned (.tuple #[.agg #[.string (M 5).1, .string (M 5).2], .int .i64 (E 5)]) ∧ Below (W4.alloc (.cells #[.func (.func 122) #[] #[.pointer (some ⟨W1.heap.size + 1, 0, none⟩)], .func (.func 123) #[] #[.pointer (some ⟨W2.heap.size, 0, none⟩), .pointer (some ⟨W2.heap.size + 1, 0, none⟩)], .func (.func 72) #[] #[], .func (.func 123) #[] #[.pointer (some ⟨W3.heap.size, 0, none⟩), .pointer (some ⟨W3.heap.size + 1, 0, none⟩)], .func (.func 70) #[] #[]] 85)).heap.size (W4.alloc (.cells #[.func (.func 122) #[] #[.pointer (some ⟨W1.heap.size + 1, 0, none⟩)], .func (.func 123) #[] #[.pointer (some ⟨W2.heap.size, 0, none⟩), .pointer (some ⟨W2.heap.size + 1, 0, none⟩)], .func (.func 72) #[] #[], .func (.func 123) #[] #[.pointer (some ⟨W3.heap.size, 0, none⟩), .pointer (some ⟨W3.heap.size + 1, 0, none⟩)], .func (.func 70) #[] #[]] 85)) w') := Lib.hid (by
    intro W1 W2 W3 W4 f2 c2 c3a c3b c4a c4b
    have H1 := Lib.hid h1
    have H2 := Lib.hid h2
    have H3 := Lib.hid h3
    have H4 := Lib.hid h4
    have H5 := Lib.hid h5
    have F2 := Lib.hid f2
    have C2 := Lib.hid c2
    have C3a := Lib.hid c3a
    have C3b := Lib.hid c3b
    have C4a := Lib.hid c4a
    have C4b := Lib.hid c4b
    refine build_any 5 W4.heap.size 5 (fun i => if i = 0 then .func (.func 122) #[] #[.pointer (some ⟨W1.heap.size + 1, 0, none⟩)] else if i = 1 then .func (.func 123) #[] #[.pointer (some ⟨W2.heap.size, 0, none⟩), .pointer (some ⟨W2.heap.size + 1, 0, none⟩)] else if i = 2 then .func (.func 72) #[] #[] else if i = 3 then .func (.func 123) #[] #[.pointer (some ⟨W3.heap.size, 0, none⟩), .pointer (some ⟨W3.heap.size + 1, 0, none⟩)] else .func (.func 70) #[] #[]) M E _ (by decide) (by decide) (by rw [World.size_alloc]; omega) (fun i hi => ?_) hM hE (fun i hi hE => ?_) hsk
    · rcases (by omega : i = 0 ∨ i = 1 ∨ i = 2 ∨ i = 3 ∨ i = 4) with rfl | rfl | rfl | rfl | rfl
      · rw [World.cell?, Go.heap_alloc_new]; rfl
      · rw [World.cell?, Go.heap_alloc_new]; rfl
      · rw [World.cell?, Go.heap_alloc_new]; rfl
      · rw [World.cell?, Go.heap_alloc_new]; rfl
      · rw [World.cell?, Go.heap_alloc_new]; rfl
    · rcases (by omega : i = 0 ∨ i = 1 ∨ i = 2 ∨ i = 3 ∨ i = 4) with rfl | rfl | rfl | rfl | rfl
      · exact ⟨122, _, rfl, enters_of Tryz.func122 (by kernel_rfl) rfl, fun W hW => H1.out W _ _ 1 (by omega) ((C2.out.alloc _).keep hW) ((F2.out.keep (below_alloc W4 _)).keep hW)⟩
      · exact ⟨123, _, rfl, enters_of Tryz.func123 (by kernel_rfl) rfl, fun W hW => H2.out hE W _ _ ((C3a.out.alloc _).keep hW) ((C3b.out.alloc _).keep hW)⟩
      · exact ⟨72, _, rfl, enters_of Tryz.func72 (by kernel_rfl) rfl, fun W hW => H3.out hE W⟩
      · exact ⟨123, _, rfl, enters_of Tryz.func123 (by kernel_rfl) rfl, fun W hW => H4.out hE W _ _ ((C4a.out.alloc _).keep hW) ((C4b.out.alloc _).keep hW)⟩
      · exact ⟨70, _, rfl, enters_of Tryz.func70 (by kernel_rfl) rfl, fun W hW => H5.out hE W⟩)
  have HP := Lib.hid hp
  clear hp h1 h2 h3 h4 h5 hM hE hsk
  obtain ⟨r1, r2⟩ := two_ratios w (.string s1) (.string s2) (.string ⟨#[]⟩) (.string ⟨#[]⟩)
  have HB := Lib.hid ((below_alloc w (.cells #[.string s1, .string s2] 23)).alloc (by rw [World.size_alloc]; omega) (.cells #[.string ⟨#[]⟩, .string ⟨#[]⟩] 23))
  have a0 := r1.c0
  have a1 := r1.c1
  have HR := Lib.hid (And.intro r1 r2)
  clear r1 r2
  go_enter Tryz.func26, Tryz.ntmps26
  go_wp2_with (first | (go_at_call 65; (with_reducible refine (HP.out _).mono ?_); rintro e W1 ⟨rfl, B⟩; have hr := (And.intro (HR.out.1.keep B HR.out.1.lt) (HR.out.2.keep B HR.out.2.lt)); have hb := HB.out.trans (B.mono HB.out.size); clear HR HB B a0 a1; have HR := Lib.hid hr; have HB := Lib.hid hb; have a0 := hr.1.c0; have a1 := hr.1.c1; clear hr hb) | (go_at_call 67; (with_reducible refine (start_any _ _ _ _).mono ?_); rintro e W2 ⟨rfl, c2, B0⟩; have B := (below_alloc W1 (.cells #[.string s1, .string s2] 23)).trans (B0.mono (by rw [World.size_alloc]; omega)); have F2 := Lib.hid (show TC W2 W1.heap.size s1 s2 from (TC.new W1 s1 s2).keep B0); rw [World.size_alloc] at c2; have C2 := Lib.hid c2; clear B0 c2; have hr := (And.intro (HR.out.1.keep B HR.out.1.lt) (HR.out.2.keep B HR.out.2.lt)); have hb := HB.out.trans (B.mono HB.out.size); clear HR HB B a0 a1; have HR := Lib.hid hr; have HB := Lib.hid hb; have a0 := hr.1.c0; have a1 := hr.1.c1; clear hr hb) | (go_at_call 68; (with_reducible refine (qtimes_any T ⟨#[49]⟩ _).mono ?_); rintro e W3 ⟨rfl, c3, B⟩; have F2n := Lib.hid (F2.out.keep B); have C2n := Lib.hid (C2.out.keep B); clear F2 C2; have F2 := F2n; have C2 := C2n; clear F2n C2n; have C3a := Lib.hid c3.1; have C3b := Lib.hid c3.2; clear c3; have hr := (And.intro (HR.out.1.keep B HR.out.1.lt) (HR.out.2.keep B HR.out.2.lt)); have hb := HB.out.trans (B.mono HB.out.size); clear HR HB B a0 a1; have HR := Lib.hid hr; have HB := Lib.hid hb; have a0 := hr.1.c0; have a1 := hr.1.c1; clear hr hb) | (go_at_call 68; (with_reducible refine (qtimes_any ⟨#[49]⟩ T _).mono ?_); rintro e W4 ⟨rfl, c4, B⟩; have F2n := Lib.hid (F2.out.keep B); have C2n := Lib.hid (C2.out.keep B); have C3an := Lib.hid (C3a.out.keep B); have C3bn := Lib.hid (C3b.out.keep B); clear F2 C2 C3a C3b; have F2 := F2n; have C2 := C2n; have C3a := C3an; have C3b := C3bn; clear F2n C2n C3an C3bn; have C4a := Lib.hid c4.1; have C4b := Lib.hid c4.2; clear c4; have hr := (And.intro (HR.out.1.keep B HR.out.1.lt) (HR.out.2.keep B HR.out.2.lt)); have hb := HB.out.trans (B.mono HB.out.size); clear HR HB B a0 a1; have HR := Lib.hid hr; have HB := Lib.hid hb; have a0 := hr.1.c0; have a1 := hr.1.c1; clear hr hb) | (go_at_call 66; (with_reducible refine (HBC.out W1 W2 W3 W4 F2.out C2.out C3a.out C3b.out C4a.out C4b.out).mono ?_); rintro e W9 ⟨rfl, B0⟩; have B := (below_alloc W4 (.cells #[.func (.func 122) #[] #[.pointer (some ⟨W1.heap.size + 1, 0, none⟩)], .func (.func 123) #[] #[.pointer (some ⟨W2.heap.size, 0, none⟩), .pointer (some ⟨W2.heap.size + 1, 0, none⟩)], .func (.func 72) #[] #[], .func (.func 123) #[] #[.pointer (some ⟨W3.heap.size, 0, none⟩), .pointer (some ⟨W3.heap.size + 1, 0, none⟩)], .func (.func 70) #[] #[]] 85)).trans (B0.mono (by rw [World.size_alloc]; omega)); clear B0; have hr := (And.intro (HR.out.1.keep B HR.out.1.lt) (HR.out.2.keep B HR.out.2.lt)); have hb := HB.out.trans (B.mono HB.out.size); clear HR HB B a0 a1; have HR := Lib.hid hr; have HB := Lib.hid hb; have a0 := hr.1.c0; have a1 := hr.1.c1; have c0 := hr.2.c0; have c1 := hr.2.c1; have f0 := hr.2.f 0; have f1 := hr.2.f 1; have hs := hr.2.s0 (.string (M 5).1); have d1 := hs.c1; have g1 := hs.f 1; have HS := Lib.hid (hs.s1 (.string (M 5).2)); have HBS := Lib.hid ((hb.setCell (p := ⟨w.heap.size + 1, 0, none⟩) (by show w.heap.size ≤ w.heap.size + 1; omega) (.string (M 5).1)).setCell (p := ⟨w.heap.size + 1, 1, none⟩) (by show w.heap.size ≤ w.heap.size + 1; omega) (.string (M 5).2)); clear hr hb hs))
  refine bodyPost_ret (results_ratio rfl _ _ (w.heap.size + 1) _ _ rfl HS.out) rfl ?_
  exact ⟨rfl, HBS.out⟩
end Go.Proofs.YtdnbhgkbfbgnaaaGreatDoor


namespace Go.Proofs.YtdnbhgkbfbgnaaaGreatDoor
open Go.RowKit

theorem start1k (s1 s2 : ByteArray) (L1 L2 : List UInt8) (hL1 : s1.data.toList = L1) (hL2 : s2.data.toList = L2) (hl1 : L1.length ≤ 60000) (hl2 : L2.length ≤ 60000)
    (W : World) (p g cap : Nat) (m : ByteArray × ByteArray) (hc : 1 ≤ cap) (hp : CS W p (.slice (some ⟨g, 0, none⟩) 1 cap)) (hf : TC W g s1 s2) :
    StepOK 122 #[.pointer (some ⟨p, 0, none⟩)] m (if vR L1 L2 = true then s1 else ⟨#[]⟩, if vR L1 L2 = true then s2 else ⟨#[]⟩) (if vR L1 L2 = true then 0 else 40) W :=
  start1_any m.1 m.2 p g 1 cap (fun _ => s1) (fun _ => s2) (fun _ => L1) (fun _ => L2) W (by decide) (by decide) hc hp hf.1
    (fun i hi => by
      obtain rfl : i = 0 := by omega
      exact ⟨hf.2.1, hf.2.2⟩)
    (fun i hi => ⟨hL1, hL2, hl1, hl2⟩) (vR L1 L2) ⟨fun h i hi => h, fun h => h 0 (by decide)⟩
theorem start_Rk (a : Rat) (ha : fitR 200 a) (W : World) (p g cap : Nat) (m : ByteArray × ByteArray) (hc : 1 ≤ cap) (hp : CS W p (.slice (some ⟨g, 0, none⟩) 1 cap)) (hf : TC W g (S a.num) (S a.den)) :
    StepOK 122 #[.pointer (some ⟨p, 0, none⟩)] m (S a.num, S a.den) 0 W := by
  have h := start1k _ _ _ _ (S_list a.num) (S_list a.den) (S_len ha.1) (S_len (den_abs a ha)) W p g cap m hc hp hf
  rw [vR_q a ha, if_pos rfl, if_pos rfl, if_pos rfl] at h
  exact h
theorem mul_no (x : Int) (hx : x.natAbs < 10 ^ 200) (W : World) :
    Calls Tryz.prog 124 #[.string (S x), .string ⟨#[]⟩] W fun e w' => e = .returned (.tuple #[.string ⟨#[]⟩, .int .i64 30]) ∧ Below W.heap.size W w' := by
  have h := Mul_any (S x) ⟨#[]⟩ (txt x) [] W (S_list x) rfl (S_len hx) (by decide)
  rw [show vld [] = false by decide, Bool.and_false, res_f, ree_f] at h
  exact h
theorem power_zero (p : Int) (h : ¬ (0 ≤ p ∧ p ≤ 30)) (W : World) : Calls Tryz.prog 65 #[.int .i64 p] W fun e w' => e = .returned (.string ⟨#[]⟩) ∧ Below W.heap.size W w' :=
  (power_no p W h).mono fun _ _ ⟨h1, h2⟩ => ⟨h1, h2 ▸ Below.refl _ _⟩
/-- what Down and Up answer: whether the places and the product are in their range -/
def okP (a : Rat) (p : Int) : Bool := decide (0 ≤ p ∧ p ≤ 30) && fits (a.num * ((10 ^ p.toNat : Nat) : Int))
set_option maxHeartbeats 1000000 in
theorem qDown_R (a : Rat) (ha : fitR 200 a) (p : Int) (w : World) :
    Calls Tryz.prog 24 #[RV a, .int .i64 p] w fun e w' => e = .returned (opQ (okP a p) (mkRat (dnN a (10 ^ p.toNat)) (10 ^ p.toNat))) ∧ Below w.heap.size w w' := by
  have hA := den_abs a ha
  rw [okP]
  by_cases hp : 0 ≤ p ∧ p ≤ 30
  · obtain ⟨n, rfl⟩ : ∃ n : Nat, p = n := ⟨p.toNat, by omega⟩
    rw [decide_eq_true hp, Bool.true_and, Int.toNat_natCast]
    have ht9 : (((10 ^ n : Nat)) : Int).natAbs < 10 ^ 200 := ten_lt (by omega)
    have hP := fun W => power_ok n W (by omega)
    have ht : ∀ W p q, CS W p (.string (S ((10 ^ n : Nat) : Int))) → CS W q (.string ⟨#[49]⟩) → _ := fun W p q cp cq => times1_any (S a.num) (S (a.den : Int)) (S ((10 ^ n : Nat) : Int)) (S 1) _ _ _ _ (er_two (a.num * ((10 ^ n : Nat) : Int))) (er_two ((a.den : Int) * 1)) p q W cp (by rw [S_one]; exact cq) (mul_rs a.num _ ha.1 ht9) (mul_rs a.den 1 hA (by decide))
    cases hx : fits (a.num * ((10 ^ n : Nat) : Int))
    · have h := qDown_walk (S a.num) (S (a.den : Int)) (S ((10 ^ n : Nat) : Int)) n (fun i => match i with | 0 => (⟨#[]⟩, ⟨#[]⟩) | 1 => (S a.num, S (a.den : Int)) | _ => (⟨#[]⟩, ⟨#[]⟩)) (fun i => match i with | 0 => 0 | 1 => 0 | _ => 40) w rfl rfl (fun i hi h => by
      rcases (by omega : i = 0 ∨ i = 1 ∨ i = 2 ∨ i = 3 ∨ i = 4) with rfl | rfl | rfl | rfl | rfl <;> first | exact absurd rfl h | exact ⟨rfl, rfl⟩) hP
        (fun W p g cap hc hp hf => start_Rk a ha W p g cap _ hc hp hf)
        (fun _ W p q cp cq => by
          have h := ht W p q cp cq
          rw [er_n hx, if_neg (by omega), if_neg (by omega), if_neg (by omega)] at h
          exact h) (fun h => absurd (show (40 : Int) = 0 from h) (by decide)) (fun h => absurd (show (40 : Int) = 0 from h) (by decide)) (fun h => absurd (show (40 : Int) = 0 from h) (by decide))
      exact h
    · have px := of_decide_eq_true hx
      have hd : fits ((a.den : Int) * 1) = true := by rw [Int.mul_one]; exact decide_eq_true hA
      have hq : ((dnN a (10 ^ n))).natAbs < 10 ^ 200 := by
        rw [dnN]; exact Nat.lt_of_le_of_lt (Int.natAbs_ediv_le_natAbs _ _) px
      have hq1 : fits ((dnN a (10 ^ n)) * 1) = true := by rw [Int.mul_one]; exact decide_eq_true hq
      have ht1 : fits (1 * ((10 ^ n : Nat) : Int)) = true := by rw [Int.one_mul]; exact decide_eq_true ht9
      have t0 : ((10 ^ n : Nat) : Int) ≠ 0 := by have := ten_pos n; omega
      have h := qDown_walk (S a.num) (S (a.den : Int)) (S ((10 ^ n : Nat) : Int)) n (fun i => match i with | 0 => (⟨#[]⟩, ⟨#[]⟩) | 1 => (S a.num, S (a.den : Int)) | 2 => (S (a.num * ((10 ^ n : Nat) : Int)), S (a.den : Int)) | 3 => (S (dnN a (10 ^ n)), ⟨#[49]⟩) | 4 => (S (dnN a (10 ^ n)), S ((10 ^ n : Nat) : Int)) | _ => (S (Rat.divInt (dnN a (10 ^ n)) ((10 ^ n : Nat) : Int)).num, S ((Rat.divInt (dnN a (10 ^ n)) ((10 ^ n : Nat) : Int)).den : Int))) (fun i => match i with | 0 => 0 | _ => 0) w rfl rfl (fun i hi h => by
      rcases (by omega : i = 0 ∨ i = 1 ∨ i = 2 ∨ i = 3 ∨ i = 4) with rfl | rfl | rfl | rfl | rfl <;> first | exact absurd rfl h | exact ⟨rfl, rfl⟩) hP
        (fun W p g cap hc hp hf => start_Rk a ha W p g cap _ hc hp hf)
        (fun _ W p q cp cq => by
          have h := ht W p q cp cq
          rw [er_f hx, er_f hd, if_pos ⟨rfl, rfl⟩, if_pos ⟨rfl, rfl⟩, if_pos ⟨rfl, rfl⟩, rs_f hx, rs_f hd, Int.mul_one] at h
          exact h)
        (fun _ W => floor_S (a.num * ((10 ^ n : Nat) : Int)) a.den W px hA (by have := den_pos a; omega))
        (fun _ W p q cp cq => by
          have h := times1_any (S (dnN a (10 ^ n))) (S 1) (S 1) (S ((10 ^ n : Nat) : Int)) _ _ _ _ (er_two ((dnN a (10 ^ n)) * 1)) (er_two (1 * ((10 ^ n : Nat) : Int))) p q W (by rw [S_one]; exact cp) cq (mul_rs _ 1 hq (by decide)) (mul_rs 1 _ (by decide) ht9)
          rw [er_f hq1, er_f ht1, if_pos ⟨rfl, rfl⟩, if_pos ⟨rfl, rfl⟩, if_pos ⟨rfl, rfl⟩, rs_f hq1, rs_f ht1, Int.mul_one, Int.one_mul, S_one] at h
          exact h)
        (fun _ W => reduced_R _ _ hq ht9 t0 W)
      rw [← Rat.divInt_ofNat]; exact h
  · rw [decide_eq_false hp, Bool.false_and]
    exact qDown_walk (S a.num) (S (a.den : Int)) ⟨#[]⟩ p (fun i => match i with | 0 => (⟨#[]⟩, ⟨#[]⟩) | 1 => (S a.num, S (a.den : Int)) | _ => (⟨#[]⟩, ⟨#[]⟩)) (fun i => match i with | 0 => 0 | 1 => 0 | _ => 40) w rfl rfl (fun i hi h => by
      rcases (by omega : i = 0 ∨ i = 1 ∨ i = 2 ∨ i = 3 ∨ i = 4) with rfl | rfl | rfl | rfl | rfl <;> first | exact absurd rfl h | exact ⟨rfl, rfl⟩) (power_zero p hp)
      (fun W p g cap hc hp hf => start_Rk a ha W p g cap _ hc hp hf)
      (fun _ W p q cp cq => by
        have h := times1_any (S a.num) (S (a.den : Int)) ⟨#[]⟩ (S 1) ⟨#[]⟩ _ 30 _ (.inr rfl) (er_two ((a.den : Int) * 1)) p q W cp (by rw [S_one]; exact cq) (mul_no a.num ha.1) (mul_rs a.den 1 hA (by decide))
        rw [if_neg (by omega), if_neg (by omega), if_neg (by omega)] at h
        exact h) (fun h => absurd (show (40 : Int) = 0 from h) (by decide)) (fun h => absurd (show (40 : Int) = 0 from h) (by decide)) (fun h => absurd (show (40 : Int) = 0 from h) (by decide))

set_option maxHeartbeats 1000000 in
theorem qUp_R (a : Rat) (ha : fitR 200 a) (p : Int) (w : World) :
    Calls Tryz.prog 26 #[RV a, .int .i64 p] w fun e w' => e = .returned (opQ (okP a p) (mkRat (upN a (10 ^ p.toNat)) (10 ^ p.toNat))) ∧ Below w.heap.size w w' := by
  have hA := den_abs a ha
  rw [okP]
  by_cases hp : 0 ≤ p ∧ p ≤ 30
  · obtain ⟨n, rfl⟩ : ∃ n : Nat, p = n := ⟨p.toNat, by omega⟩
    rw [decide_eq_true hp, Bool.true_and, Int.toNat_natCast]
    have ht9 : (((10 ^ n : Nat)) : Int).natAbs < 10 ^ 200 := ten_lt (by omega)
    have hP := fun W => power_ok n W (by omega)
    have ht : ∀ W p q, CS W p (.string (S ((10 ^ n : Nat) : Int))) → CS W q (.string ⟨#[49]⟩) → _ := fun W p q cp cq => times1_any (S a.num) (S (a.den : Int)) (S ((10 ^ n : Nat) : Int)) (S 1) _ _ _ _ (er_two (a.num * ((10 ^ n : Nat) : Int))) (er_two ((a.den : Int) * 1)) p q W cp (by rw [S_one]; exact cq) (mul_rs a.num _ ha.1 ht9) (mul_rs a.den 1 hA (by decide))
    cases hx : fits (a.num * ((10 ^ n : Nat) : Int))
    · have h := qUp_walk (S a.num) (S (a.den : Int)) (S ((10 ^ n : Nat) : Int)) n (fun i => match i with | 0 => (⟨#[]⟩, ⟨#[]⟩) | 1 => (S a.num, S (a.den : Int)) | _ => (⟨#[]⟩, ⟨#[]⟩)) (fun i => match i with | 0 => 0 | 1 => 0 | _ => 40) w rfl rfl (fun i hi h => by
      rcases (by omega : i = 0 ∨ i = 1 ∨ i = 2 ∨ i = 3 ∨ i = 4) with rfl | rfl | rfl | rfl | rfl <;> first | exact absurd rfl h | exact ⟨rfl, rfl⟩) hP
        (fun W p g cap hc hp hf => start_Rk a ha W p g cap _ hc hp hf)
        (fun _ W p q cp cq => by
          have h := ht W p q cp cq
          rw [er_n hx, if_neg (by omega), if_neg (by omega), if_neg (by omega)] at h
          exact h) (fun h => absurd (show (40 : Int) = 0 from h) (by decide)) (fun h => absurd (show (40 : Int) = 0 from h) (by decide)) (fun h => absurd (show (40 : Int) = 0 from h) (by decide))
      exact h
    · have px := of_decide_eq_true hx
      have hd : fits ((a.den : Int) * 1) = true := by rw [Int.mul_one]; exact decide_eq_true hA
      have hq : ((upN a (10 ^ n))).natAbs < 10 ^ 200 := by
        rw [upN]
        by_cases h : (a.num * ((10 ^ n : Nat) : Int)) % (a.den : Int) = 0
        · rw [if_pos h]; exact Nat.lt_of_le_of_lt (Int.natAbs_ediv_le_natAbs _ _) px
        · rw [if_neg h]; exact (up_fit px (den_pos a) h).1
      have hq1 : fits ((upN a (10 ^ n)) * 1) = true := by rw [Int.mul_one]; exact decide_eq_true hq
      have ht1 : fits (1 * ((10 ^ n : Nat) : Int)) = true := by rw [Int.one_mul]; exact decide_eq_true ht9
      have t0 : ((10 ^ n : Nat) : Int) ≠ 0 := by have := ten_pos n; omega
      have h := qUp_walk (S a.num) (S (a.den : Int)) (S ((10 ^ n : Nat) : Int)) n (fun i => match i with | 0 => (⟨#[]⟩, ⟨#[]⟩) | 1 => (S a.num, S (a.den : Int)) | 2 => (S (a.num * ((10 ^ n : Nat) : Int)), S (a.den : Int)) | 3 => (S (upN a (10 ^ n)), ⟨#[49]⟩) | 4 => (S (upN a (10 ^ n)), S ((10 ^ n : Nat) : Int)) | _ => (S (Rat.divInt (upN a (10 ^ n)) ((10 ^ n : Nat) : Int)).num, S ((Rat.divInt (upN a (10 ^ n)) ((10 ^ n : Nat) : Int)).den : Int))) (fun i => match i with | 0 => 0 | _ => 0) w rfl rfl (fun i hi h => by
      rcases (by omega : i = 0 ∨ i = 1 ∨ i = 2 ∨ i = 3 ∨ i = 4) with rfl | rfl | rfl | rfl | rfl <;> first | exact absurd rfl h | exact ⟨rfl, rfl⟩) hP
        (fun W p g cap hc hp hf => start_Rk a ha W p g cap _ hc hp hf)
        (fun _ W p q cp cq => by
          have h := ht W p q cp cq
          rw [er_f hx, er_f hd, if_pos ⟨rfl, rfl⟩, if_pos ⟨rfl, rfl⟩, if_pos ⟨rfl, rfl⟩, rs_f hx, rs_f hd, Int.mul_one] at h
          exact h)
        (fun _ W => ceiling_S (a.num * ((10 ^ n : Nat) : Int)) a.den W px hA (den_pos a))
        (fun _ W p q cp cq => by
          have h := times1_any (S (upN a (10 ^ n))) (S 1) (S 1) (S ((10 ^ n : Nat) : Int)) _ _ _ _ (er_two ((upN a (10 ^ n)) * 1)) (er_two (1 * ((10 ^ n : Nat) : Int))) p q W (by rw [S_one]; exact cp) cq (mul_rs _ 1 hq (by decide)) (mul_rs 1 _ (by decide) ht9)
          rw [er_f hq1, er_f ht1, if_pos ⟨rfl, rfl⟩, if_pos ⟨rfl, rfl⟩, if_pos ⟨rfl, rfl⟩, rs_f hq1, rs_f ht1, Int.mul_one, Int.one_mul, S_one] at h
          exact h)
        (fun _ W => reduced_R _ _ hq ht9 t0 W)
      rw [← Rat.divInt_ofNat]; exact h
  · rw [decide_eq_false hp, Bool.false_and]
    exact qUp_walk (S a.num) (S (a.den : Int)) ⟨#[]⟩ p (fun i => match i with | 0 => (⟨#[]⟩, ⟨#[]⟩) | 1 => (S a.num, S (a.den : Int)) | _ => (⟨#[]⟩, ⟨#[]⟩)) (fun i => match i with | 0 => 0 | 1 => 0 | _ => 40) w rfl rfl (fun i hi h => by
      rcases (by omega : i = 0 ∨ i = 1 ∨ i = 2 ∨ i = 3 ∨ i = 4) with rfl | rfl | rfl | rfl | rfl <;> first | exact absurd rfl h | exact ⟨rfl, rfl⟩) (power_zero p hp)
      (fun W p g cap hc hp hf => start_Rk a ha W p g cap _ hc hp hf)
      (fun _ W p q cp cq => by
        have h := times1_any (S a.num) (S (a.den : Int)) ⟨#[]⟩ (S 1) ⟨#[]⟩ _ 30 _ (.inr rfl) (er_two ((a.den : Int) * 1)) p q W cp (by rw [S_one]; exact cq) (mul_no a.num ha.1) (mul_rs a.den 1 hA (by decide))
        rw [if_neg (by omega), if_neg (by omega), if_neg (by omega)] at h
        exact h) (fun h => absurd (show (40 : Int) = 0 from h) (by decide)) (fun h => absurd (show (40 : Int) = 0 from h) (by decide)) (fun h => absurd (show (40 : Int) = 0 from h) (by decide))
end Go.Proofs.YtdnbhgkbfbgnaaaGreatDoor

