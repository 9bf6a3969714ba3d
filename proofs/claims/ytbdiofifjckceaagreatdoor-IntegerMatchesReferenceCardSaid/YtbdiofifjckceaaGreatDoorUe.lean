/- The reference's minus. -/
import Derived.Test.YtbdiofifjckceaaGreatDoorUd
namespace Go.Proofs.YtbdiofifjckceaaGreatDoor
open Go.RowKit

theorem step_minus {n m i : Nat} {b b' nn d : Int} {l : List Int} {T : Int} (hl : l.length = i) (h : vlX l + 10 ^ i * (((n / 10 ^ i : Nat) : Int) - ((m / 10 ^ i : Nat) : Int) - b) = T) (hn : nn = (((n / 10 ^ i) % 10 : Nat) : Int) - b - (((m / 10 ^ i) % 10 : Nat) : Int)) (hd : nn = d - 10 * b') :
    vlX (l ++ [d]) + 10 ^ (i + 1) * (((n / 10 ^ (i + 1) : Nat) : Int) - ((m / 10 ^ (i + 1) : Nat) : Int) - b') = T := by
  have s1 := gx_step n i
  have s2 := gx_step m i
  rw [vlX_snoc, hl, ← h, Int.add_assoc, Int.pow_succ, Int.mul_assoc, ← Int.mul_add]
  congr 2
  generalize n / 10 ^ (i + 1) = n1 at *
  generalize m / 10 ^ (i + 1) = m1 at *
  generalize n / 10 ^ i = n0 at *
  generalize m / 10 ^ i = m0 at *
  omega
/-- what trimming leaves of digits -/
theorem rtrim_X {w W : World} {base i cp n : Nat} {ad : Option Addr} {l : List Int} (h : w.ownsRow base 3 1 (.slice ad i cp) i (ints l)) (hl : l.length = i) (hd : DigX l) (hv : vlX l = n) (hW : Below w.heap.size w W) :
    Calls Tryz.prog 29 #[.slice ad i cp] W fun e w' => ∃ v, e = .returned v ∧ XSl w' v n ∧ Below W.heap.size W w' ∧ ∀ b o k c, v = .slice (some ⟨b, o, none⟩) k c → 0 < k → base ≤ b := by
  have ht := trzX_grp hd
  rw [hv, Int.toNat_natCast] at ht
  by_cases h0 : 0 < i
  · obtain ⟨g, cap, hsl, hgb, hA, hc1, hc2⟩ := own_ints h h0
    simp only [Value.slice.injEq] at hsl
    obtain ⟨rfl, _, rfl⟩ := hsl
    have hA2 := hA.below hW hA.lt
    refine (rtrim_some l g 0 i cp W hl hc1 hc2 (ABlk.row (P := []) (S := []) (by simpa using hA2))).mono fun e w' ⟨he, q, hq⟩ => ⟨_, he, ?_, hq ▸ below_drewN (Below.refl _ _) q, fun b o k c e _ => by cases e; exact hgb⟩
    rw [hq, ht]
    refine ISl.below (w := W) ?_ (below_drewN (Below.refl _ _) q)
    have hle := trz_len l
    rw [ht] at hle
    rw [show l = grpX n ++ l.drop (grpX n).length from by
      have h3 := trz_take l
      rw [ht] at h3
      rw [← List.take_append_drop (grpX n).length l, ← h3]; simp] at hA2
    exact ABlk.sl hA2 rfl (by omega) hc2
  · obtain rfl : i = 0 := by omega
    have : l = [] := List.length_eq_zero_iff.1 hl
    subst this
    have hn : n = 0 := by rw [vlX] at hv; omega
    subst hn
    exact (rtrim_zero ad cp W).mono fun e w' ⟨he, q, hq⟩ => ⟨_, he, .inl ⟨_, _, rfl, grpX_zero⟩, hq ▸ below_drewN (Below.refl _ _) q, fun b o k c e h => by cases e; omega⟩
/-- writing elsewhere leaves the digits -/
theorem XSl.store {w : World} {v : Value} {n g i : Nat} {x : Value} (h : XSl w v n) (hf : ∀ b o k c, v = .slice (some ⟨b, o, none⟩) k c → 0 < k → b ≠ g) : XSl (w.setCell ⟨g, i, none⟩ x) v n := by
  rcases h with h | ⟨b, o, c, rfl, h1, h2, h3, h4⟩
  · exact .inl h
  · refine .inr ⟨b, o, c, rfl, h1, h2, by simpa [World.setCell] using h3, fun j y hj => ?_⟩
    have hl : 0 < (grpX n).length := by have := (List.getElem?_eq_some_iff.1 hj).1; omega
    have hne := hf b o _ c rfl hl
    have h5 := h4 j y hj
    rw [World.cell?] at h5 ⊢
    rw [Below.heap_setCell _ _ _ _ hne]; exact h5

set_option maxRecDepth 100000 in
set_option maxHeartbeats 2000000 in
theorem rminus_any (n m : Nat) (v1 v2 : Value) (w : World) (hnm : m ≤ n) (hl1 : (grpX n).length ≤ 20000) (h1 : XSl w v1 n) (h2 : XSl w v2 m) :
    Calls Tryz.prog 44 #[v1, v2] w fun e w' => ∃ v, e = .returned v ∧ XSl w' v (n - m) ∧ Below w.heap.size w w' ∧ ∀ b o k c, v = .slice (some ⟨b, o, none⟩) k c → 0 < k → w.heap.size ≤ b := by
  have hqp := grpX_mono hnm
  obtain ⟨a1, c1, rfl⟩ := h1.form
  obtain ⟨a2, c2, rfl⟩ := h2.form
  obtain ⟨p, hp⟩ : ∃ p, (grpX n).length = p := ⟨_, rfl⟩
  obtain ⟨q, hq⟩ : ∃ q, (grpX m).length = q := ⟨_, rfl⟩
  rw [hp] at h1 hl1 hqp ⊢
  rw [hq] at h2 hqp ⊢
  have H1 := Lib.hid h1
  have H2 := Lib.hid h2
  have HP := Lib.hid hp
  have HQ := Lib.hid hq
  have HM := Lib.hid hnm
  obtain ⟨i0, hi, hz0, hz1, hz2⟩ := info_parts info_int
  have HZ2 := Lib.hid hz2
  clear h1 h2 hp hq hz2 hnm
  go_enter Tryz.func44, Tryz.ntmps44
  go_wp2
  go_loopw [5, 6, 7] (fun ov bv iv wr => ∃ (i : Nat) (b : Int) (ad : Option Addr) (cp : Nat), ov = .slice ad i cp ∧ bv = .int .i64 b ∧ iv = .int .i64 (i : Int) ∧ i ≤ p ∧ 0 ≤ b ∧ b ≤ 1 ∧ Hid (∃ l, wr.ownsRow w.heap.size 3 1 ov i (ints l) ∧ DigX l ∧ l.length = i ∧ vlX l + 10 ^ i * (((n / 10 ^ i : Nat) : Int) - ((m / 10 ^ i : Nat) : Int) - b) = (n : Int) - m) ∧ Below w.heap.size w wr) (fun _ _ iv _ => p - (intOf iv).toNat)
  case atStart => exact ⟨0, 0, _, _, rfl, rfl, rfl, Nat.zero_le _, by omega, by omega, Lib.hid ⟨[], ⟨rfl, .inl ⟨rfl, rfl⟩⟩, digX_nil, rfl, by simp [vlX]⟩, Below.refl _ _⟩
  case round =>
    obtain ⟨i, b, ad, cp, rfl, rfl, rfl, hi9, hb0, hb1, hI, hB⟩ := hrel
    obtain ⟨l, k1, k2, k3, k4⟩ := hI.out
    clear hI
    by_cases hip : i < p
    · have hW1 := H1.out.below hB
      have hW2 := H2.out.below hB
      obtain ⟨b1, o1, r1⟩ := hW1.at HP.out
      obtain ⟨b2, o2, r2⟩ := hW2.at HQ.out
      have R2 := Lib.hid r2
      obtain ⟨rfl, x1, x2⟩ := r1 i hip
      have e2 : ¬ i < q → m / 10 ^ i = 0 := fun h => gx_end (by rw [HQ.out]; omega)
      have HOB := Lib.hid (show ∀ z, (Value.slice ad i cp).ownBlock = some z → w.heap.size ≤ z from fun z hz => own_block k1 hz)
      obtain ⟨nn, hnn⟩ : ∃ nn, nn = (((n / 10 ^ i) % 10 : Nat) : Int) - b - (((m / 10 ^ i) % 10 : Nat) : Int) := ⟨_, rfl⟩
      have K4 := Lib.hid (fun (b' d : Int) (hd : nn = d - 10 * b') => step_minus k3 k4 hnn hd)
      have K1 := Lib.hid k1
      have KD := Lib.hid (And.intro k2 k3)
      have BB := Lib.hid hB
      have hdx : (n / 10 ^ i) % 10 < 10 := Nat.mod_lt _ (by decide)
      have hdy : (m / 10 ^ i) % 10 < 10 := Nat.mod_lt _ (by decide)
      clear hW1 hW2 r1 r2 k1 k2 k3 k4 hB
      by_cases hiq : i < q
      · obtain ⟨rfl, y1, y2⟩ := R2.out i hiq
        obtain ⟨x, hx⟩ : ∃ x, (n / 10 ^ i) % 10 = x := ⟨_, rfl⟩
        obtain ⟨y, hy⟩ : ∃ y, (m / 10 ^ i) % 10 = y := ⟨_, rfl⟩
        rw [hx] at x1 hnn hdx
        rw [hy] at y1 hnn hdy
        have hs : (x : Int) - b - (y : Int) = nn := hnn.symm
        clear e2 hx hy R2 hnn
        by_cases hlt : nn < 0
        · have HK := Lib.hid (K4.out 1 (nn + 10) (by omega))
          have HO := Lib.hid (K1.out.alloc (.cells #[.int .i64 (nn + 10)] 3))
          have HO3 := Lib.hid (show ∀ (w3 : World) (v3 : Value), w3.ownsRow w.heap.size 3 1 v3 (i + 1) (ints l ++ [.int .i64 (nn + 10)]) → w3.ownsRow w.heap.size 3 1 v3 (i + 1) (ints (l ++ [nn + 10])) from fun w3 v3 h => by simpa [ints] using h)
          have HBA := Lib.hid (BB.out.alloc BB.out.size (.cells #[.int .i64 (nn + 10)] 3))
          have hn9 : -10 ≤ nn := by omega
          clear K4 K1
          go_wp2_with (at_builtin; go_loud (refine wpList_append_lies _ rfl (.tmp 35) (.tmp 37) 40 rfl w.heap.size 3 i0 (.int .i64 0) 1 8 Tryz.underlying40 hi hz0 hz1 HZ2.out rfl (by decide) (.slice ad i cp) i _ rfl HO.out ⟨wr.heap.size, 0, none⟩ 1 1 [.int .i64 (nn + 10)] rfl rfl (one_newJ wr _) (by intro u hu; simp at hu; subst hu; rfl) (by decide) (by unfold maxLen; omega) (by omega) HBA.out.size _ rfl ?_; intro g2 cap2 w3 hown3 hgrow _ _; have HOW := Lib.hid (HO3.out w3 _ hown3); have HB3 := Lib.hid (HBA.out.grown hgrow HBA.out.size (fun q hq => HOB.out q hq)); clear hown3 hgrow))
          exact ⟨⟨i + 1, 1, _, _, rfl, rfl, by go_num, by omega, by omega, by omega, Lib.hid ⟨_, HOW.out, KD.out.1.snoc (by omega), by rw [List.length_append, KD.out.2]; rfl, HK.out⟩, HB3.out⟩, by simp [intOf]; omega⟩
        · have HK := Lib.hid (K4.out 0 nn (by omega))
          have HO := Lib.hid (K1.out.alloc (.cells #[.int .i64 nn] 3))
          have HO3 := Lib.hid (show ∀ (w3 : World) (v3 : Value), w3.ownsRow w.heap.size 3 1 v3 (i + 1) (ints l ++ [.int .i64 nn]) → w3.ownsRow w.heap.size 3 1 v3 (i + 1) (ints (l ++ [nn])) from fun w3 v3 h => by simpa [ints] using h)
          have HBA := Lib.hid (BB.out.alloc BB.out.size (.cells #[.int .i64 nn] 3))
          have hn9 : nn < 10 := by omega
          clear K4 K1
          go_wp2_with (at_builtin; go_loud (refine wpList_append_lies _ rfl (.tmp 35) (.tmp 37) 40 rfl w.heap.size 3 i0 (.int .i64 0) 1 8 Tryz.underlying40 hi hz0 hz1 HZ2.out rfl (by decide) (.slice ad i cp) i _ rfl HO.out ⟨wr.heap.size, 0, none⟩ 1 1 [.int .i64 nn] rfl rfl (one_newJ wr _) (by intro u hu; simp at hu; subst hu; rfl) (by decide) (by unfold maxLen; omega) (by omega) HBA.out.size _ rfl ?_; intro g2 cap2 w3 hown3 hgrow _ _; have HOW := Lib.hid (HO3.out w3 _ hown3); have HB3 := Lib.hid (HBA.out.grown hgrow HBA.out.size (fun q hq => HOB.out q hq)); clear hown3 hgrow))
          exact ⟨⟨i + 1, 0, _, _, rfl, rfl, by go_num, by omega, by omega, by omega, Lib.hid ⟨_, HOW.out, KD.out.1.snoc (by omega), by rw [List.length_append, KD.out.2]; rfl, HK.out⟩, HB3.out⟩, by simp [intOf]; omega⟩
      · obtain ⟨x, hx⟩ : ∃ x, (n / 10 ^ i) % 10 = x := ⟨_, rfl⟩
        rw [e2 hiq] at hnn
        rw [hx] at x1 hnn hdx
        have hs : (x : Int) - b = nn := by rw [hnn]; simp
        clear e2 hx R2 hnn hdy
        by_cases hlt : nn < 0
        · have HK := Lib.hid (K4.out 1 (nn + 10) (by omega))
          have HO := Lib.hid (K1.out.alloc (.cells #[.int .i64 (nn + 10)] 3))
          have HO3 := Lib.hid (show ∀ (w3 : World) (v3 : Value), w3.ownsRow w.heap.size 3 1 v3 (i + 1) (ints l ++ [.int .i64 (nn + 10)]) → w3.ownsRow w.heap.size 3 1 v3 (i + 1) (ints (l ++ [nn + 10])) from fun w3 v3 h => by simpa [ints] using h)
          have HBA := Lib.hid (BB.out.alloc BB.out.size (.cells #[.int .i64 (nn + 10)] 3))
          have hn9 : -10 ≤ nn := by omega
          clear K4 K1
          go_wp2_with (at_builtin; go_loud (refine wpList_append_lies _ rfl (.tmp 35) (.tmp 37) 40 rfl w.heap.size 3 i0 (.int .i64 0) 1 8 Tryz.underlying40 hi hz0 hz1 HZ2.out rfl (by decide) (.slice ad i cp) i _ rfl HO.out ⟨wr.heap.size, 0, none⟩ 1 1 [.int .i64 (nn + 10)] rfl rfl (one_newJ wr _) (by intro u hu; simp at hu; subst hu; rfl) (by decide) (by unfold maxLen; omega) (by omega) HBA.out.size _ rfl ?_; intro g2 cap2 w3 hown3 hgrow _ _; have HOW := Lib.hid (HO3.out w3 _ hown3); have HB3 := Lib.hid (HBA.out.grown hgrow HBA.out.size (fun q hq => HOB.out q hq)); clear hown3 hgrow))
          exact ⟨⟨i + 1, 1, _, _, rfl, rfl, by go_num, by omega, by omega, by omega, Lib.hid ⟨_, HOW.out, KD.out.1.snoc (by omega), by rw [List.length_append, KD.out.2]; rfl, HK.out⟩, HB3.out⟩, by simp [intOf]; omega⟩
        · have HK := Lib.hid (K4.out 0 nn (by omega))
          have HO := Lib.hid (K1.out.alloc (.cells #[.int .i64 nn] 3))
          have HO3 := Lib.hid (show ∀ (w3 : World) (v3 : Value), w3.ownsRow w.heap.size 3 1 v3 (i + 1) (ints l ++ [.int .i64 nn]) → w3.ownsRow w.heap.size 3 1 v3 (i + 1) (ints (l ++ [nn])) from fun w3 v3 h => by simpa [ints] using h)
          have HBA := Lib.hid (BB.out.alloc BB.out.size (.cells #[.int .i64 nn] 3))
          have hn9 : nn < 10 := by omega
          clear K4 K1
          go_wp2_with (at_builtin; go_loud (refine wpList_append_lies _ rfl (.tmp 35) (.tmp 37) 40 rfl w.heap.size 3 i0 (.int .i64 0) 1 8 Tryz.underlying40 hi hz0 hz1 HZ2.out rfl (by decide) (.slice ad i cp) i _ rfl HO.out ⟨wr.heap.size, 0, none⟩ 1 1 [.int .i64 nn] rfl rfl (one_newJ wr _) (by intro u hu; simp at hu; subst hu; rfl) (by decide) (by unfold maxLen; omega) (by omega) HBA.out.size _ rfl ?_; intro g2 cap2 w3 hown3 hgrow _ _; have HOW := Lib.hid (HO3.out w3 _ hown3); have HB3 := Lib.hid (HBA.out.grown hgrow HBA.out.size (fun q hq => HOB.out q hq)); clear hown3 hgrow))
          exact ⟨⟨i + 1, 0, _, _, rfl, rfl, by go_num, by omega, by omega, by omega, Lib.hid ⟨_, HOW.out, KD.out.1.snoc (by omega), by rw [List.length_append, KD.out.2]; rfl, HK.out⟩, HB3.out⟩, by simp [intOf]; omega⟩
    · obtain rfl : i = p := by omega
      have g1 : n / 10 ^ i = 0 := gx_end (by rw [HP.out]; exact Nat.le_refl _)
      have g2 : m / 10 ^ i = 0 := gx_end (by rw [HQ.out]; exact hqp)
      rw [g1, g2] at k4
      have hlt := vlX_lt k2
      rw [k3] at hlt
      have hb : b = 0 := by
        rcases Int.lt_or_le 0 b with g | g
        · obtain rfl : b = 1 := by omega
          have := HM.out
          simp at k4
          omega
        · omega
      subst hb
      have hv : vlX l = ((n - m : Nat) : Int) := by have := HM.out; simp at k4; omega
      have CT := Lib.hid (fun W hW => rtrim_X (W := W) k1 k3 k2 hv hW)
      clear k1 k2 k3 k4 hlt hv g1 g2
      go_wp2_with (go_at_call 29; (with_reducible refine (CT.out _ (Below.refl _ _)).mono ?_); rintro e w2 ⟨v, rfl, nv, B2, fr⟩)
      go_ret
      exact ⟨_, rfl, nv, hB.trans (B2.mono hB.size), fr⟩
end Go.Proofs.YtbdiofifjckceaaGreatDoor
