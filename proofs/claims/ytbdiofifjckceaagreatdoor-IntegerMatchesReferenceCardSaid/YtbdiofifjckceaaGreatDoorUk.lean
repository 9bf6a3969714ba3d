/- The reference's Div. -/
import Derived.Test.YtbdiofifjckceaaGreatDoorUi
namespace Go.Proofs.YtbdiofifjckceaaGreatDoor
open Go.RowKit

theorem own_1 (W : World) : XSl (W.alloc (.cells #[.int .i64 1] 3)) (.slice (some ⟨W.heap.size, 0, none⟩) 1 1) 1 := own_XSl (own_one (Nat.le_refl _) 1) rfl (gx_of (fun y hy => by rw [List.mem_singleton.1 hy]; omega) (by simp [vlX]) (.inr (by decide)))

set_option maxRecDepth 100000 in
set_option maxHeartbeats 1000000 in
theorem rDiv_no (s1 s2 : ByteArray) (L1 L2 : List UInt8) (w : World) (hL1 : s1.data.toList = L1) (hL2 : s2.data.toList = L2) (hl1 : L1.length ≤ 60000) (hl2 : L2.length ≤ 60000) (hv : (vld L1 && vld L2) = false) :
    Calls Tryz.prog 16 #[.string s1, .string s2] w fun e w' => e = .returned (.tuple #[.string ⟨#[]⟩, .string ⟨#[]⟩, .int .i64 30]) ∧ Below w.heap.size w w' := by
  have c1 := fun W => rValid_any s1 L1 W hL1 hl1
  have c2 := fun W => rValid_any s2 L2 W hL2 hl2
  cases b1 : vld L1
  · rw [b1] at c1
    have C1 := Lib.hid c1
    clear hL1 hL2 hl1 hl2 hv c1 c2 b1
    go_enter Tryz.func16, Tryz.ntmps16
    go_wp2_with (go_at_call 24; (with_reducible refine (C1.out _).mono ?_); rintro e w1 ⟨rfl, rfl⟩)
    go_ret3
    exact ⟨rfl, Below.refl _ _⟩
  · rw [b1, Bool.true_and] at hv
    rw [b1] at c1
    rw [hv] at c2
    have C1 := Lib.hid c1
    have C2 := Lib.hid c2
    clear hL1 hL2 hl1 hl2 hv c1 c2 b1
    go_enter Tryz.func16, Tryz.ntmps16
    go_wp2_with (go_at_call 24; (first | (with_reducible refine (C1.out _).mono ?_) | (with_reducible refine (C2.out _).mono ?_)); rintro e w1 ⟨rfl, rfl⟩)
    go_ret3
    exact ⟨rfl, Below.refl _ _⟩

set_option maxRecDepth 100000 in
set_option maxHeartbeats 1000000 in
theorem rDiv_zero (s1 s2 : ByteArray) (L1 L2 : List UInt8) (w : World) (hL1 : s1.data.toList = L1) (hL2 : s2.data.toList = L2) (hl1 : vld L1 = true) (hl2 : vld L2 = true) (h0 : num L2 = 0) :
    Calls Tryz.prog 16 #[.string s1, .string s2] w fun e w' => e = .returned (.tuple #[.string ⟨#[]⟩, .string ⟨#[]⟩, .int .i64 30]) ∧ Below w.heap.size w w' := by
  have cv1 := fun W => rValid_any s1 L1 W hL1 (by have := (vld_digits hl1).2.2; omega)
  have cv2 := fun W => rValid_any s2 L2 W hL2 (by have := (vld_digits hl2).2.2; omega)
  rw [hl1] at cv1
  rw [hl2] at cv2
  have CV1 := Lib.hid cv1
  have CV2 := Lib.hid cv2
  have ht1 : (s2.toList == [48]) = true := by
    have := txt_lit hl2
    rw [h0] at this
    rw [ByteArray.toList_eq, hL2, ← this]; rfl
  clear hL1 hL2 hl1 hl2 cv1 cv2 h0
  go_enter Tryz.func16, Tryz.ntmps16
  go_wp2_with ((go_at_call 24; (first | (with_reducible refine (CV1.out _).mono ?_) | (with_reducible refine (CV2.out _).mono ?_)); rintro e w1 ⟨rfl, rfl⟩))
  go_ret3
  exact ⟨rfl, Below.refl _ _⟩

set_option maxRecDepth 100000 in
set_option maxHeartbeats 2000000 in
theorem rDiv_ok (s1 s2 : ByteArray) (L1 L2 : List UInt8) (w : World) (hL1 : s1.data.toList = L1) (hL2 : s2.data.toList = L2) (hl1 : vld L1 = true) (hl2 : vld L2 = true) (h0 : num L2 ≠ 0) :
    Calls Tryz.prog 16 #[.string s1, .string s2] w fun e w' => e = .returned (.tuple #[.string ⟨(txt (num L1 / num L2)).toArray⟩, .string ⟨(txt (num L1 % num L2)).toArray⟩, .int .i64 0]) ∧ Below w.heap.size w w' := by
  have cv1 := fun W => rValid_any s1 L1 W hL1 (by have := (vld_digits hl1).2.2; omega)
  have cv2 := fun W => rValid_any s2 L2 W hL2 (by have := (vld_digits hl2).2.2; omega)
  rw [hl1] at cv1
  rw [hl2] at cv2
  have CV1 := Lib.hid cv1
  have CV2 := Lib.hid cv2
  have cd1 := fun W => digits_lit s1 L1 W hL1 hl1
  have cd2 := fun W => digits_lit s2 L2 W hL2 hl2
  have k1 := (vld_txt hl1).2
  have k2 := (vld_txt hl2).2
  have ht1 : (s2.toList == [48]) = false := by
    rw [ByteArray.toList_eq, hL2, beq_eq_false_iff_ne]
    intro h
    rw [h] at h0
    exact h0 rfl
  have hl0 : 0 < (num L2).natAbs := by omega
  have hq9 : (num L1 / num L2).natAbs < 10 ^ 200 := by
    have h := Int.natAbs_ediv_le_natAbs (num L1) (num L2)
    omega
  have hr9 : (num L1 % num L2).natAbs < 10 ^ 200 := by
    have e1 := Int.emod_nonneg (num L1) h0
    have e3 := Int.emod_lt (num L1) h0
    omega
  have hr0 : 0 ≤ num L1 % num L2 := Int.emod_nonneg _ h0
  have cch : ∀ b m, mz b m = num L1 / num L2 → ∀ W v, XSl W v m → Calls Tryz.prog 36 #[.bool b, v] W fun e w' => e = .returned (.tuple #[.string ⟨(txt (num L1 / num L2)).toArray⟩, .int .i64 0]) ∧ Below W.heap.size W w' := fun b m hm W v h => by
    have hm9 : m < 10 ^ 200 := by have := mz_abs b m; rw [hm] at this; omega
    have h := checked_any b m v W (Nat.le_trans (grpX_len hm9) (by decide)) h
    rwa [hm, rs, er, if_pos hq9, if_pos hq9] at h
  have cte : ∀ m : Nat, (m : Int) = num L1 % num L2 → ∀ W v, XSl W v m → Calls Tryz.prog 28 #[.bool false, v] W fun e w' => e = .returned (.tuple #[.string ⟨(txt (num L1 % num L2)).toArray⟩, .bool (decide (m < 10 ^ 200))]) ∧ Below W.heap.size W w' := fun m hm W v h => by
    have hm9 : m < 10 ^ 200 := by omega
    have h := rtext_G false m v W (Nat.le_trans (grpX_len hm9) (by decide)) h
    rwa [show mz false m = num L1 % num L2 from hm] at h
  have cdv : ∀ W v1 v2, XSl W v1 (num L1).natAbs → XSl W v2 (num L2).natAbs → Calls Tryz.prog 42 #[v1, v2] W fun e w' => ∃ u1 ad cp, e = .returned (.tuple #[u1, .slice ad (grpX ((num L1).natAbs % (num L2).natAbs)).length cp]) ∧ XSl w' u1 ((num L1).natAbs / (num L2).natAbs) ∧ XSl w' (.slice ad (grpX ((num L1).natAbs % (num L2).natAbs)).length cp) ((num L1).natAbs % (num L2).natAbs) ∧ Below W.heap.size W w' := fun W v1 v2 h1 h2 => (divided_any _ _ v1 v2 W hl0 (gx_le k1 (by decide)) (gx_le k2 (by decide)) h1 h2).mono fun e w' ⟨u1, u2, he, n1, n2, b⟩ => by
    obtain ⟨a, c, rfl⟩ := n2.form
    exact ⟨u1, a, c, he, n1, n2, b⟩
  have e1 : num L1 = mz (decide (num L1 < 0)) (num L1).natAbs := mz_num _
  have e2 : num L2 = mz (decide (num L2 < 0)) (num L2).natAbs := mz_num _
  have hx0 : decide (num L1 < 0) = true → 0 < (num L1).natAbs := by intro h; have := of_decide_eq_true h; omega
  clear hL1 hL2 hl1 hl2 hq9 hr9 h0 cv1 cv2
  generalize hD : num L1 / num L2 = d at *
  generalize hM : num L1 % num L2 = m at *
  generalize decide (num L1 < 0) = x at *
  generalize decide (num L2 < 0) = y at *
  rw [e1, e2] at hD hM
  clear e1 e2
  generalize (num L1).natAbs = k at *
  generalize (num L2).natAbs = l at *
  generalize (txt d).toArray = TD at *
  generalize (txt m).toArray = TM at *
  have CD1 := Lib.hid cd1
  have CD2 := Lib.hid cd2
  have CDV := Lib.hid cdv
  have hrl : k % l < l := Nat.mod_lt _ hl0
  clear cd1 cd2 cdv
  have hdy : ∀ q r : Nat, mz x k / (l : Int) = mz x q → mz x k % (l : Int) = (r : Int) → ∀ b, b = (x != y) → mz b q = d ∧ (r : Int) = m := fun q r h1 h2 b hb => by
    subst hb
    cases y
    · rw [Bool.bne_false]
      rw [show mz false l = (l : Int) from rfl] at hD hM
      exact ⟨h1.symm.trans hD, h2.symm.trans hM⟩
    · rw [Bool.bne_true, mz_not]
      rw [show mz true l = -(l : Int) from rfl, Int.ediv_neg] at hD
      rw [show mz true l = -(l : Int) from rfl, Int.emod_neg] at hM
      exact ⟨by rw [← h1]; exact hD, h2.symm.trans hM⟩
  clear hD hM
  cases x
  · have hf := hdy (k / l) (k % l) (by simp [mz]) (by simp [mz])
    have CC := Lib.hid (fun b hb => cch b (k / l) (hf b hb).1)
    have CT := Lib.hid (cte (k % l) (hf _ rfl).2)
    clear cch cte hdy hf hx0 hrl hl0
    generalize (grpX (k % l)).length = z at *
    cases y <;>
    (go_enter Tryz.func16, Tryz.ntmps16
     go_wp2_with (first | (go_at_call 24; (first | (with_reducible refine (CV1.out _).mono ?_) | (with_reducible refine (CV2.out _).mono ?_)); rintro e w1 ⟨rfl, rfl⟩) | (go_at_call 32; (with_reducible refine (CD1.out _).mono ?_); rintro e w2 ⟨v1, rfl, n1, B1⟩) | (go_at_call 32; (with_reducible refine (CD2.out _).mono ?_); rintro e w3 ⟨v2, rfl, n2, b2⟩; have m1 := n1.below b2; have B2 := B1.trans (b2.mono B1.size); clear n1 b2) | (go_at_call 42; (with_reducible refine (CDV.out _ _ _ m1 n2).mono ?_); rintro e w4 ⟨u1, ad, cp, rfl, p1, p2, b3⟩; have B3 := B2.trans (b3.mono B2.size); have m3 := n2.below b3; clear n2 m1 b3) | (go_at_call 36; (with_reducible refine (CC.out _ (by decide) _ _ p1).mono ?_); rintro e w5 ⟨rfl, b4⟩; have p3 := p2.below b4; have B4 := B3.trans (b4.mono B3.size)) | (go_at_call 28; (with_reducible refine (CT.out _ _ p3).mono ?_); rintro e w6 ⟨rfl, b5⟩; have B5 := B4.trans (b5.mono B4.size)))
     go_ret3
     exact ⟨rfl, B5⟩)
  · by_cases hr : k % l = 0
    · have hn := neg_div0 k l hl0 hr
      have hf := hdy (k / l) (k % l) (by simp only [mz, if_true]; exact hn.1) (by rw [hr]; simp only [mz, if_true]; exact hn.2)
      have CC := Lib.hid (fun b hb => cch b (k / l) (hf b hb).1)
      have ct := cte (k % l) (hf _ rfl).2
      rw [hr] at ct
      rw [hr, grpX_zero, List.length_nil] at CDV
      have CT := Lib.hid ct
      clear cch cte hdy hf hx0 hrl hl0 hn hr ct
      cases y <;>
      (go_enter Tryz.func16, Tryz.ntmps16
       go_wp2_with (first | (go_at_call 24; (first | (with_reducible refine (CV1.out _).mono ?_) | (with_reducible refine (CV2.out _).mono ?_)); rintro e w1 ⟨rfl, rfl⟩) | (go_at_call 32; (with_reducible refine (CD1.out _).mono ?_); rintro e w2 ⟨v1, rfl, n1, B1⟩) | (go_at_call 32; (with_reducible refine (CD2.out _).mono ?_); rintro e w3 ⟨v2, rfl, n2, b2⟩; have m1 := n1.below b2; have B2 := B1.trans (b2.mono B1.size); clear n1 b2) | (go_at_call 42; (with_reducible refine (CDV.out _ _ _ m1 n2).mono ?_); rintro e w4 ⟨u1, ad, cp, rfl, p1, p2, b3⟩; have B3 := B2.trans (b3.mono B2.size); have m3 := n2.below b3; clear n2 m1 b3) | (go_at_call 36; (with_reducible refine (CC.out _ (by decide) _ _ p1).mono ?_); rintro e w5 ⟨rfl, b4⟩; have p3 := p2.below b4; have B4 := B3.trans (b4.mono B3.size)) | (go_at_call 28; (with_reducible refine (CT.out _ _ p3).mono ?_); rintro e w6 ⟨rfl, b5⟩; have B5 := B4.trans (b5.mono B4.size)))
       go_ret3
       exact ⟨rfl, B5⟩)
    · have hn := neg_div k l hl0 (by omega)
      have hf := hdy (k / l + 1) (l - k % l) (by simp only [mz, if_true]; exact hn.1) (by simp only [mz, if_true]; exact hn.2)
      have CC := Lib.hid (fun b hb => cch b (k / l + 1) (hf b hb).1)
      have CT := Lib.hid (cte (l - k % l) (hf _ rfl).2)
      have hz : 0 < (grpX (k % l)).length := (gx_len _ 0).2 (by omega)
      have CP := Lib.hid (show ∀ W u, XSl W u (k / l) → Calls Tryz.prog 43 #[u, .slice (some ⟨W.heap.size, 0, none⟩) 1 1] (W.alloc (.cells #[.int .i64 1] 3)) fun e w' => ∃ v, e = .returned v ∧ XSl w' v (k / l + 1) ∧ Below W.heap.size W w' from fun W u h => by
        have ha : Below W.heap.size W (W.alloc (.cells #[.int .i64 1] 3)) := below_alloc W _
        exact (rplus_any (k / l) 1 u _ _ (Nat.le_trans (gx_le (Nat.lt_of_le_of_lt (Nat.div_le_self _ _) k1) (by decide)) (by decide)) (Nat.le_trans (grpX_len (k := 1) (by decide)) (by decide)) (h.below ha) (own_1 W)).mono fun e w' ⟨v, a, b, c⟩ => ⟨v, a, b, ha.trans (c.mono ha.size)⟩)
      have CM := Lib.hid (show ∀ W u1 u2, XSl W u1 l → XSl W u2 (k % l) → Calls Tryz.prog 44 #[u1, u2] W fun e w' => ∃ v, e = .returned v ∧ XSl w' v (l - k % l) ∧ Below W.heap.size W w' from fun W u1 u2 h1 h2 => (rminus_any l (k % l) u1 u2 W (by omega) (Nat.le_trans (gx_le k2 (by decide)) (by decide)) h1 h2).mono fun e w' ⟨v, a, b, c, _⟩ => ⟨v, a, b, c⟩)
      clear cch cte hdy hf hx0 hrl hl0 hn hr k1 k2
      generalize (grpX (k % l)).length = z at *
      cases y <;>
      (go_enter Tryz.func16, Tryz.ntmps16
       go_wp2_with (first | (go_at_call 24; (first | (with_reducible refine (CV1.out _).mono ?_) | (with_reducible refine (CV2.out _).mono ?_)); rintro e w1 ⟨rfl, rfl⟩) | (go_at_call 32; (with_reducible refine (CD1.out _).mono ?_); rintro e w2 ⟨v1, rfl, n1, B1⟩) | (go_at_call 32; (with_reducible refine (CD2.out _).mono ?_); rintro e w3 ⟨v2, rfl, n2, b2⟩; have m1 := n1.below b2; have B2 := B1.trans (b2.mono B1.size); clear n1 b2) | (go_at_call 42; (with_reducible refine (CDV.out _ _ _ m1 n2).mono ?_); rintro e w4 ⟨u1, ad, cp, rfl, p1, p2, b3⟩; have B3 := B2.trans (b3.mono B2.size); have m3 := n2.below b3; clear n2 m1 b3) | (go_at_call 43; (with_reducible refine (CP.out _ _ p1).mono ?_); rintro e w7 ⟨u3, rfl, p4, b6⟩; have p5 := p2.below b6; have m4 := m3.below b6; have B6 := B3.trans (b6.mono B3.size); clear p1 p2 m3 b6) | (go_at_call 44; (with_reducible refine (CM.out _ _ _ m4 p5).mono ?_); rintro e w8 ⟨u4, rfl, p6, b7⟩; have p7 := p4.below b7; have B7 := B6.trans (b7.mono B6.size); clear p4 p5 m4 b7) | (go_at_call 36; (with_reducible refine (CC.out _ (by decide) _ _ p7).mono ?_); rintro e w5 ⟨rfl, b4⟩; have p8 := p6.below b4; have B4 := B7.trans (b4.mono B7.size)) | (go_at_call 28; (with_reducible refine (CT.out _ _ p8).mono ?_); rintro e w6 ⟨rfl, b5⟩; have B5 := B4.trans (b5.mono B4.size)))
       go_ret3
       exact ⟨rfl, B5⟩)
end Go.Proofs.YtbdiofifjckceaaGreatDoor
