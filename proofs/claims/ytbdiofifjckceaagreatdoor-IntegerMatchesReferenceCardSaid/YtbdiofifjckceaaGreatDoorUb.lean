/- The reference's plus and minus. -/
import Derived.Test.YtbdiofifjckceaaGreatDoorUa
namespace Go.Proofs.YtbdiofifjckceaaGreatDoor
open Go.RowKit

theorem vlX_snoc (l : List Int) (x : Int) : vlX (l ++ [x]) = vlX l + 10 ^ l.length * x := by rw [vlX_append, vlX, vlX, Int.mul_zero, Int.add_zero]
theorem low_of {l : List Int} {i X T : Nat} (h : vlX l + 10 ^ i * (X : Int) = (T : Int)) (hd : DigX l) (hX : 1 ≤ X) : 10 ^ i ≤ T := by
  have g1 := vlX_nonneg hd
  have g2 : 10 ^ i * 1 ≤ 10 ^ i * X := Nat.mul_le_mul_left _ hX
  have g3 : ((10 ^ i * X : Nat) : Int) = 10 ^ i * (X : Int) := by rw [Int.natCast_mul, Int.natCast_pow]; rfl
  omega
/-- a step of a sum's digits -/
theorem step_plus {n m i c N : Nat} {l : List Int} {T : Int} (hl : l.length = i) (h : vlX l + 10 ^ i * (((c + n / 10 ^ i + m / 10 ^ i : Nat)) : Int) = T) (hN : N = c + (n / 10 ^ i) % 10 + (m / 10 ^ i) % 10) :
    vlX (l ++ [((N : Int) % 10)]) + 10 ^ (i + 1) * (((N / 10 + n / 10 ^ (i + 1) + m / 10 ^ (i + 1) : Nat)) : Int) = T := by
  have s1 := gx_step n i
  have s2 := gx_step m i
  rw [vlX_snoc, hl, ← h, Int.add_assoc, Int.pow_succ, Int.mul_assoc, ← Int.mul_add]
  congr 2
  generalize n / 10 ^ (i + 1) = n1 at *
  generalize m / 10 ^ (i + 1) = m1 at *
  generalize n / 10 ^ i = n0 at *
  generalize m / 10 ^ i = m0 at *
  omega

set_option maxRecDepth 100000 in
set_option maxHeartbeats 2000000 in
theorem rplus_any (n m : Nat) (v1 v2 : Value) (w : World) (hl1 : (grpX n).length ≤ 20000) (hl2 : (grpX m).length ≤ 20000) (h1 : XSl w v1 n) (h2 : XSl w v2 m) :
    Calls Tryz.prog 43 #[v1, v2] w fun e w' => ∃ v, e = .returned v ∧ XSl w' v (n + m) ∧ Below w.heap.size w w' := by
  obtain ⟨a1, c1, rfl⟩ := h1.form
  obtain ⟨a2, c2, rfl⟩ := h2.form
  obtain ⟨p, hp⟩ : ∃ p, (grpX n).length = p := ⟨_, rfl⟩
  obtain ⟨q, hq⟩ : ∃ q, (grpX m).length = q := ⟨_, rfl⟩
  rw [hp] at h1 hl1 ⊢
  rw [hq] at h2 hl2 ⊢
  have H1 := Lib.hid h1
  have H2 := Lib.hid h2
  have HP := Lib.hid hp
  have HQ := Lib.hid hq
  obtain ⟨i0, hi, hz0, hz1, hz2⟩ := info_parts info_int
  have HZ2 := Lib.hid hz2
  clear h1 h2 hp hq hz2
  go_enter Tryz.func43, Tryz.ntmps43
  go_wp2
  go_loopw [5, 6, 7] (fun ov cv iv wr => ∃ (i c : Nat) (ad : Option Addr) (cp : Nat), ov = .slice ad i cp ∧ cv = .int .i64 (c : Int) ∧ iv = .int .i64 (i : Int) ∧ i ≤ max p q + 1 ∧ Hid (∃ l, wr.ownsRow w.heap.size 3 1 ov i (ints l) ∧ DigX l ∧ l.length = i ∧ vlX l + 10 ^ i * (((c + n / 10 ^ i + m / 10 ^ i : Nat)) : Int) = ((n + m : Nat) : Int) ∧ (i = 0 ∨ 10 ^ (i - 1) ≤ n + m) ∧ c ≤ 1 ∧ (max p q < i → c = 0)) ∧ Below w.heap.size w wr) (fun _ _ iv _ => max p q + 1 - (intOf iv).toNat)
  case atStart => exact ⟨0, 0, _, _, rfl, rfl, rfl, Nat.zero_le _, Lib.hid ⟨[], ⟨rfl, .inl ⟨rfl, rfl⟩⟩, digX_nil, rfl, by simp [vlX], .inl rfl, by omega, fun h => rfl⟩, Below.refl _ _⟩
  case round =>
    obtain ⟨i, c, ad, cp, rfl, rfl, rfl, hi9, hI, hB⟩ := hrel
    obtain ⟨l, k1, k2, k3, k4, k5, k6, k7⟩ := hI.out
    clear hI
    have hW1 := H1.out.below hB
    have hW2 := H2.out.below hB
    obtain ⟨b1, o1, r1⟩ := hW1.at HP.out
    obtain ⟨b2, o2, r2⟩ := hW2.at HQ.out
    have R1 := Lib.hid r1
    have R2 := Lib.hid r2
    clear hW1 hW2 r1 r2
    have e1 : ¬ i < p → n / 10 ^ i = 0 := fun h => gx_end (by rw [HP.out]; omega)
    have e2 : ¬ i < q → m / 10 ^ i = 0 := fun h => gx_end (by rw [HQ.out]; omega)
    have HOB := Lib.hid (show ∀ z, (Value.slice ad i cp).ownBlock = some z → w.heap.size ≤ z from fun z hz => own_block k1 hz)
    by_cases ht : i < p ∨ i < q ∨ 0 < c
    · obtain ⟨N, hN⟩ : ∃ N, N = c + (n / 10 ^ i) % 10 + (m / 10 ^ i) % 10 := ⟨_, rfl⟩
      have k4' := step_plus k3 k4 hN
      have hlow : 10 ^ i ≤ n + m := by
        rcases ht with h | h | h
        · have := (gx_len n i).1 (by rw [HP.out]; exact h); omega
        · have := (gx_len m i).1 (by rw [HQ.out]; exact h); omega
        · exact low_of k4 k2 (Nat.le_trans (show 1 ≤ c from h) (by rw [Nat.add_assoc]; exact Nat.le_add_right _ _))
      have hi8 : i ≤ max p q := by
        rcases Nat.lt_or_ge (max p q) i with g | g
        · have := k7 g; omega
        · exact g
      have hN9 : N ≤ 19 := by omega
      have hcz : max p q < i + 1 → N / 10 = 0 := fun h => by
        have := e1 (by omega); have := e2 (by omega); omega
      have hNX := Lib.hid (And.intro k4' (And.intro hlow hcz))
      have HO := Lib.hid (k1.alloc (.cells #[.int .i64 ((N : Int) % 10)] 3))
      have HO3 := Lib.hid (show ∀ (w3 : World) (v3 : Value), w3.ownsRow w.heap.size 3 1 v3 (i + 1) (ints l ++ [.int .i64 ((N : Int) % 10)]) → w3.ownsRow w.heap.size 3 1 v3 (i + 1) (ints (l ++ [((N : Int) % 10)])) from fun w3 v3 h => by simpa [ints] using h)
      have HBA := Lib.hid (hB.alloc hB.size (.cells #[.int .i64 ((N : Int) % 10)] 3))
      have HD := Lib.hid (And.intro k2 k3)
      have hN0 : 0 ≤ (N : Int) := by omega
      clear k1 k2 k3 k4 k5 k6 k7 k4' hlow hcz hB
      by_cases hip : i < p
      · obtain ⟨rfl, x1, x2⟩ := R1.out i hip
        by_cases hiq : i < q
        · obtain ⟨rfl, y1, y2⟩ := R2.out i hiq
          obtain ⟨x, hx⟩ : ∃ x, (n / 10 ^ i) % 10 = x := ⟨_, rfl⟩
          obtain ⟨y, hy⟩ : ∃ y, (m / 10 ^ i) % 10 = y := ⟨_, rfl⟩
          rw [hx] at x1 hN
          rw [hy] at y1 hN
          have hs : (c : Int) + (x : Int) + (y : Int) = (N : Int) := by omega
          have hx9 : x < 10 := by omega
          have hy9 : y < 10 := by omega
          clear e1 e2 ht hx hy R1 R2 hN
          go_wp2_with (at_builtin; go_loud (refine wpList_append_lies _ rfl (.tmp 46) (.tmp 49) 40 rfl w.heap.size 3 i0 (.int .i64 0) 1 8 Tryz.underlying40 hi hz0 hz1 HZ2.out rfl (by decide) (.slice ad i cp) i _ rfl HO.out ⟨wr.heap.size, 0, none⟩ 1 1 [.int .i64 ((N : Int) % 10)] rfl rfl (one_newJ wr _) (by intro u hu; simp at hu; subst hu; rfl) (by decide) (by unfold maxLen; omega) (by omega) HBA.out.size _ rfl ?_; intro g2 cap2 w3 hown3 hgrow _ _; have HOW := Lib.hid (HO3.out w3 _ hown3); have HB3 := Lib.hid (HBA.out.grown hgrow HBA.out.size (fun q hq => HOB.out q hq)); clear hown3 hgrow))
          exact ⟨⟨i + 1, N / 10, _, _, rfl, by go_num, by go_num, by omega, Lib.hid ⟨_, HOW.out, HD.out.1.snoc (by omega), by rw [List.length_append, HD.out.2]; rfl, hNX.out.1, .inr hNX.out.2.1, by omega, hNX.out.2.2⟩, HB3.out⟩, by simp [intOf]; omega⟩
        · obtain ⟨x, hx⟩ : ∃ x, (n / 10 ^ i) % 10 = x := ⟨_, rfl⟩
          rw [e2 hiq] at hN
          rw [hx] at x1 hN
          have hs : (c : Int) + (x : Int) = (N : Int) := by omega
          have hx9 : x < 10 := by omega
          clear e1 e2 ht hx R1 R2 hN
          go_wp2_with (at_builtin; go_loud (refine wpList_append_lies _ rfl (.tmp 46) (.tmp 49) 40 rfl w.heap.size 3 i0 (.int .i64 0) 1 8 Tryz.underlying40 hi hz0 hz1 HZ2.out rfl (by decide) (.slice ad i cp) i _ rfl HO.out ⟨wr.heap.size, 0, none⟩ 1 1 [.int .i64 ((N : Int) % 10)] rfl rfl (one_newJ wr _) (by intro u hu; simp at hu; subst hu; rfl) (by decide) (by unfold maxLen; omega) (by omega) HBA.out.size _ rfl ?_; intro g2 cap2 w3 hown3 hgrow _ _; have HOW := Lib.hid (HO3.out w3 _ hown3); have HB3 := Lib.hid (HBA.out.grown hgrow HBA.out.size (fun q hq => HOB.out q hq)); clear hown3 hgrow))
          exact ⟨⟨i + 1, N / 10, _, _, rfl, by go_num, by go_num, by omega, Lib.hid ⟨_, HOW.out, HD.out.1.snoc (by omega), by rw [List.length_append, HD.out.2]; rfl, hNX.out.1, .inr hNX.out.2.1, by omega, hNX.out.2.2⟩, HB3.out⟩, by simp [intOf]; omega⟩
      · by_cases hiq : i < q
        · obtain ⟨rfl, y1, y2⟩ := R2.out i hiq
          obtain ⟨y, hy⟩ : ∃ y, (m / 10 ^ i) % 10 = y := ⟨_, rfl⟩
          rw [e1 hip] at hN
          rw [hy] at y1 hN
          have hs : (c : Int) + (y : Int) = (N : Int) := by omega
          have hy9 : y < 10 := by omega
          clear e1 e2 ht hy R1 R2 hN
          go_wp2_with (at_builtin; go_loud (refine wpList_append_lies _ rfl (.tmp 46) (.tmp 49) 40 rfl w.heap.size 3 i0 (.int .i64 0) 1 8 Tryz.underlying40 hi hz0 hz1 HZ2.out rfl (by decide) (.slice ad i cp) i _ rfl HO.out ⟨wr.heap.size, 0, none⟩ 1 1 [.int .i64 ((N : Int) % 10)] rfl rfl (one_newJ wr _) (by intro u hu; simp at hu; subst hu; rfl) (by decide) (by unfold maxLen; omega) (by omega) HBA.out.size _ rfl ?_; intro g2 cap2 w3 hown3 hgrow _ _; have HOW := Lib.hid (HO3.out w3 _ hown3); have HB3 := Lib.hid (HBA.out.grown hgrow HBA.out.size (fun q hq => HOB.out q hq)); clear hown3 hgrow))
          exact ⟨⟨i + 1, N / 10, _, _, rfl, by go_num, by go_num, by omega, Lib.hid ⟨_, HOW.out, HD.out.1.snoc (by omega), by rw [List.length_append, HD.out.2]; rfl, hNX.out.1, .inr hNX.out.2.1, by omega, hNX.out.2.2⟩, HB3.out⟩, by simp [intOf]; omega⟩
        · rw [e1 hip, e2 hiq] at hN
          have hc0 : 0 < c := by omega
          obtain rfl : N = c := by omega
          clear e1 e2 ht R1 R2 hN
          go_wp2_with (at_builtin; go_loud (refine wpList_append_lies _ rfl (.tmp 46) (.tmp 49) 40 rfl w.heap.size 3 i0 (.int .i64 0) 1 8 Tryz.underlying40 hi hz0 hz1 HZ2.out rfl (by decide) (.slice ad i cp) i _ rfl HO.out ⟨wr.heap.size, 0, none⟩ 1 1 [.int .i64 ((N : Int) % 10)] rfl rfl (one_newJ wr _) (by intro u hu; simp at hu; subst hu; rfl) (by decide) (by unfold maxLen; omega) (by omega) HBA.out.size _ rfl ?_; intro g2 cap2 w3 hown3 hgrow _ _; have HOW := Lib.hid (HO3.out w3 _ hown3); have HB3 := Lib.hid (HBA.out.grown hgrow HBA.out.size (fun q hq => HOB.out q hq)); clear hown3 hgrow))
          exact ⟨⟨i + 1, N / 10, _, _, rfl, by go_num, by go_num, by omega, Lib.hid ⟨_, HOW.out, HD.out.1.snoc (by omega), by rw [List.length_append, HD.out.2]; rfl, hNX.out.1, .inr hNX.out.2.1, by omega, hNX.out.2.2⟩, HB3.out⟩, by simp [intOf]; omega⟩
    · have hp0 := e1 (by omega)
      have hq0 := e2 (by omega)
      obtain rfl : c = 0 := by omega
      have hip : ¬ i < p := by omega
      have hiq : ¬ i < q := by omega
      have HR := Lib.hid (show ∀ W, Below wr.heap.size wr W → XSl W (.slice ad i cp) (n + m) from fun W hW => by
        rw [hp0, hq0] at k4
        have hx := gx_of (n := n + m) k2 (by rw [← k4]; simp) (k5.elim (fun g => .inl (List.length_eq_zero_iff.1 (by omega))) (fun g => .inr (by rw [k3]; exact g)))
        refine XSl.below ?_ hW
        rw [XSl, ← hx]
        by_cases h0 : 0 < i
        · obtain ⟨g, cap, hsl, hgb, hA, hc1, hc2⟩ := own_ints k1 h0
          simp only [Value.slice.injEq] at hsl
          obtain ⟨rfl, _, rfl⟩ := hsl
          exact ABlk.sl (S := []) (by simpa using hA) k3 hc1 hc2
        · exact .inl ⟨ad, cp, by rw [show i = 0 by omega], List.length_eq_zero_iff.1 (by omega)⟩)
      clear k1 k2 k3 k4 k5 k6 k7 e1 e2 ht hp0 hq0
      go_wp2
      go_ret
      exact ⟨_, rfl, HR.out _ (Below.refl _ _), hB⟩
end Go.Proofs.YtbdiofifjckceaaGreatDoor
