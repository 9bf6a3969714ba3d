/- The reference's sum, Compare, Add, Sub, Mul, Gcd. -/
import Derived.Test.YtbdiofifjckceaaGreatDoorUh
namespace Go.Proofs.YtbdiofifjckceaaGreatDoor
open Go.RowKit

theorem mz_num (z : Int) : z = mz (decide (z < 0)) z.natAbs := by
  unfold mz
  by_cases h : z < 0
  · rw [decide_eq_true h, if_pos rfl]; omega
  · rw [decide_eq_false h]; simp; omega
theorem gx_le {n k : Nat} (h : n < 10 ^ k) (hk : k ≤ 5000) : (grpX n).length ≤ 5000 := Nat.le_trans (grpX_len h) hk
/-- an integer's sign and digits, read off a valid string -/
theorem digits_lit (s : ByteArray) (L : List UInt8) (w : World) (hL : s.data.toList = L) (hv : vld L = true) :
    Calls Tryz.prog 32 #[.string s] w fun e w' => ∃ v, e = .returned (.tuple #[.bool (decide (num L < 0)), v]) ∧ XSl w' v (num L).natAbs ∧ Below w.heap.size w w' := by
  have h := digits_any (num L) w (vld_txt hv).2
  rw [S_lit hv] at h
  have : s = ⟨L.toArray⟩ := by rw [← hL]
  rw [this]; exact h
set_option maxRecDepth 100000 in
set_option maxHeartbeats 1000000 in
theorem rsum_any (x y : Bool) (k l : Nat) (v1 v2 : Value) (w : World) (hk : k < 10 ^ 200) (hl : l < 10 ^ 200) (h1 : XSl w v1 k) (h2 : XSl w v2 l) :
    Calls Tryz.prog 33 #[.bool x, v1, .bool y, v2] w fun e w' => e = .returned (.tuple #[.string ⟨(rs (mz x k + mz y l)).toArray⟩, .int .i64 (er (mz x k + mz y l))]) ∧ Below w.heap.size w w' := by
  have gk : (grpX k).length ≤ 5000 := gx_le hk (by decide)
  have gl : (grpX l).length ≤ 5000 := gx_le hl (by decide)
  have fin : ∀ (neg : Bool) (n : Nat), n < 10 ^ 201 → mz neg n = mz x k + mz y l → ∀ W v, XSl W v n → Calls Tryz.prog 36 #[.bool neg, v] W fun e w' => e = .returned (.tuple #[.string ⟨(rs (mz x k + mz y l)).toArray⟩, .int .i64 (er (mz x k + mz y l))]) ∧ Below W.heap.size W w' := fun neg n hn e W v h => by
    have h := checked_any neg n v W (Nat.le_trans (grpX_len hn) (by decide)) h
    rwa [e] at h
  have sm : ∀ (W : World), Below w.heap.size w W → Calls Tryz.prog 43 #[v1, v2] W fun e w' => ∃ v, e = .returned v ∧ XSl w' v (k + l) ∧ Below W.heap.size W w' := fun W hb => rplus_any k l v1 v2 W (by omega) (by omega) (h1.below hb) (h2.below hb)
  have mk : l ≤ k → ∀ (W : World), Below w.heap.size w W → Calls Tryz.prog 44 #[v1, v2] W fun e w' => ∃ v, e = .returned v ∧ XSl w' v (k - l) ∧ Below W.heap.size W w' := fun hkl W hb => (rminus_any k l v1 v2 W hkl (by omega) (h1.below hb) (h2.below hb)).mono fun e w' ⟨v, a, b, c, _⟩ => ⟨v, a, b, c⟩
  have ml : k ≤ l → ∀ (W : World), Below w.heap.size w W → Calls Tryz.prog 44 #[v2, v1] W fun e w' => ∃ v, e = .returned v ∧ XSl w' v (l - k) ∧ Below W.heap.size W w' := fun hkl W hb => (rminus_any l k v2 v1 W hkl (by omega) (h2.below hb) (h1.below hb)).mono fun e w' ⟨v, a, b, c, _⟩ => ⟨v, a, b, c⟩
  have co := order_any k l v1 v2 w (by omega) (by omega) h1 h2
  have hxy : x = y → mz x (k + l) = mz x k + mz y l := fun h => by subst h; unfold mz; cases x <;> simp <;> omega
  have hxk : x ≠ y → l ≤ k → mz x (k - l) = mz x k + mz y l := fun h g => by unfold mz; cases x <;> cases y <;> simp at h ⊢ <;> omega
  have hxl : x ≠ y → k ≤ l → mz y (l - k) = mz x k + mz y l := fun h g => by unfold mz; cases x <;> cases y <;> simp at h ⊢ <;> omega
  generalize (rs (mz x k + mz y l)).toArray = R at *
  generalize er (mz x k + mz y l) = E at *
  by_cases hb : x = y
  · have CF := Lib.hid (fin x (k + l) (by omega) (hxy hb))
    have SM := Lib.hid (sm w (Below.refl _ _))
    subst hb
    clear fin sm mk ml co hxy hxk hxl h1 h2 gk gl hk hl
    cases x <;>
    (go_enter Tryz.func33, Tryz.ntmps33
     go_wp2_with (first | (go_at_call 43; (with_reducible refine SM.out.mono ?_); rintro e w1 ⟨v, rfl, nv, B1⟩; have CG := Lib.hid (CF.out w1 v nv); clear CF nv) | (go_at_call 36; (with_reducible refine CG.out.mono ?_); rintro e w2 ⟨rfl, B2⟩))
     go_ret2
     exact ⟨rfl, B1.trans (B2.mono B1.size)⟩)
  · by_cases hkl : l ≤ k
    · have CF := Lib.hid (fin x (k - l) (by omega) (hxk hb hkl))
      have SM := Lib.hid (mk hkl)
      obtain ⟨c, hc, hc0⟩ : ∃ c : Int, cmpN (k : Int) l = c ∧ 0 ≤ c := ⟨_, rfl, by unfold cmpN; split; omega; split <;> omega⟩
      rw [hc] at co
      have CO := Lib.hid co
      clear fin sm mk ml co hxy hxk hxl h1 h2 gk gl hk hl hc
      cases x <;> cases y <;> first | exact absurd rfl hb |
      (go_enter Tryz.func33, Tryz.ntmps33
       go_wp2_with (first | (go_at_call 49; (with_reducible refine CO.out.mono ?_); rintro e w0 ⟨rfl, B0⟩; have SM0 := Lib.hid (SM.out w0 B0); clear SM) | (go_at_call 44; (with_reducible refine SM0.out.mono ?_); rintro e w1 ⟨v, rfl, nv, B1⟩; have CG := Lib.hid (CF.out w1 v nv); clear CF nv) | (go_at_call 36; (with_reducible refine CG.out.mono ?_); rintro e w2 ⟨rfl, B2⟩))
       go_ret2
       exact ⟨rfl, B0.trans ((B1.trans (B2.mono B1.size)).mono B0.size)⟩)
    · have CF := Lib.hid (fin y (l - k) (by omega) (hxl hb (by omega)))
      have SM := Lib.hid (ml (by omega))
      have hc : cmpN (k : Int) l = -1 := by rw [cmpN, if_pos (by omega)]
      rw [hc] at co
      have CO := Lib.hid co
      clear fin sm mk ml co hxy hxk hxl h1 h2 gk gl hk hl hc hkl
      cases x <;> cases y <;> first | exact absurd rfl hb |
      (go_enter Tryz.func33, Tryz.ntmps33
       go_wp2_with (first | (go_at_call 49; (with_reducible refine CO.out.mono ?_); rintro e w0 ⟨rfl, B0⟩; have SM0 := Lib.hid (SM.out w0 B0); clear SM) | (go_at_call 44; (with_reducible refine SM0.out.mono ?_); rintro e w1 ⟨v, rfl, nv, B1⟩; have CG := Lib.hid (CF.out w1 v nv); clear CF nv) | (go_at_call 36; (with_reducible refine CG.out.mono ?_); rintro e w2 ⟨rfl, B2⟩))
       go_ret2
       exact ⟨rfl, B0.trans ((B1.trans (B2.mono B1.size)).mono B0.size)⟩)

theorem mz_not (b : Bool) (n : Nat) : mz (!b) n = - mz b n := by unfold mz; cases b <;> simp
theorem mz_mul (a b : Bool) (n m : Nat) : mz (a != b) (n * m) = mz a n * mz b m := by unfold mz; cases a <;> cases b <;> simp [Int.neg_mul, Int.mul_neg]
theorem mul_400 {a b : Nat} (h1 : a < 10 ^ 200) (h2 : b < 10 ^ 200) : a * b < 10 ^ 400 := by
  set_option exponentiation.threshold 500 in
  rw [show 400 = 200 + 200 from rfl, Nat.pow_add]
  exact Nat.mul_lt_mul'' h1 h2

set_option maxRecDepth 100000 in
set_option maxHeartbeats 1000000 in
theorem rAdd_no (s1 s2 : ByteArray) (L1 L2 : List UInt8) (w : World) (hL1 : s1.data.toList = L1) (hL2 : s2.data.toList = L2) (hl1 : L1.length ≤ 60000) (hl2 : L2.length ≤ 60000) (hv : (vld L1 && vld L2) = false) :
    Calls Tryz.prog 10 #[.string s1, .string s2] w fun e w' => e = .returned (.tuple #[.string ⟨#[]⟩, .int .i64 30]) ∧ Below w.heap.size w w' := by
  have c1 := fun W => rValid_any s1 L1 W hL1 hl1
  have c2 := fun W => rValid_any s2 L2 W hL2 hl2
  cases b1 : vld L1
  · rw [b1] at c1
    have C1 := Lib.hid c1
    clear hL1 hL2 hl1 hl2 hv c1 c2 b1
    go_enter Tryz.func10, Tryz.ntmps10
    go_wp2_with (go_at_call 24; (with_reducible refine (C1.out _).mono ?_); rintro e w1 ⟨rfl, rfl⟩)
    go_ret2
    exact ⟨rfl, Below.refl _ _⟩
  · rw [b1, Bool.true_and] at hv
    rw [b1] at c1
    rw [hv] at c2
    have C1 := Lib.hid c1
    have C2 := Lib.hid c2
    clear hL1 hL2 hl1 hl2 hv c1 c2 b1
    go_enter Tryz.func10, Tryz.ntmps10
    go_wp2_with (go_at_call 24; (first | (with_reducible refine (C1.out _).mono ?_) | (with_reducible refine (C2.out _).mono ?_)); rintro e w1 ⟨rfl, rfl⟩)
    go_ret2
    exact ⟨rfl, Below.refl _ _⟩

set_option maxRecDepth 100000 in
set_option maxHeartbeats 2000000 in
theorem rAdd_ok (s1 s2 : ByteArray) (L1 L2 : List UInt8) (w : World) (hL1 : s1.data.toList = L1) (hL2 : s2.data.toList = L2) (hl1 : vld L1 = true) (hl2 : vld L2 = true) :
    Calls Tryz.prog 10 #[.string s1, .string s2] w fun e w' => e = .returned (.tuple #[.string ⟨(rs (num L1 + num L2)).toArray⟩, .int .i64 (er (num L1 + num L2))]) ∧ Below w.heap.size w w' := by
  have cv1 := fun W => rValid_any s1 L1 W hL1 (by have := (vld_digits hl1).2.2; omega)
  have cv2 := fun W => rValid_any s2 L2 W hL2 (by have := (vld_digits hl2).2.2; omega)
  rw [hl1] at cv1
  rw [hl2] at cv2
  have CV1 := Lib.hid cv1
  have CV2 := Lib.hid cv2
  have cd1 := fun W => digits_lit s1 L1 W hL1 hl1
  have cd2 := fun W => digits_lit s2 L2 W hL2 hl2
  have k1 := (vld_txt hl1).2
  have k2 := (vld_txt hl2).2
  have e1 := mz_num (num L1)
  have e2 := mz_num (num L2)
  have cs : ∀ W v1 v2, XSl W v1 (num L1).natAbs → XSl W v2 (num L2).natAbs → Calls Tryz.prog 33 #[.bool (decide (num L1 < 0)), v1, .bool (decide (num L2 < 0)), v2] W fun e w' => e = .returned (.tuple #[.string ⟨(rs (num L1 + num L2)).toArray⟩, .int .i64 (er (num L1 + num L2))]) ∧ Below W.heap.size W w' := fun W v1 v2 h1 h2 => by
    have h := rsum_any (decide (num L1 < 0)) (decide (num L2 < 0)) _ _ v1 v2 W k1 k2 h1 h2
    rwa [← mz_num, ← mz_num] at h
  clear e1 e2
  generalize (rs (num L1 + num L2)).toArray = R at *
  generalize er (num L1 + num L2) = E at *
  generalize decide (num L1 < 0) = x at *
  generalize decide (num L2 < 0) = y at *
  generalize (num L1).natAbs = k at *
  generalize (num L2).natAbs = l at *
  have CD1 := Lib.hid cd1
  have CD2 := Lib.hid cd2
  have CS := Lib.hid cs
  clear cv1 cv2 cd1 cd2 cs hL1 hL2 hl1 hl2 k1 k2
  go_enter Tryz.func10, Tryz.ntmps10
  go_wp2_with (first | (go_at_call 24; (first | (with_reducible refine (CV1.out _).mono ?_) | (with_reducible refine (CV2.out _).mono ?_)); rintro e w1 ⟨rfl, rfl⟩) | (go_at_call 32; (with_reducible refine (CD1.out _).mono ?_); rintro e w2 ⟨v1, rfl, n1, B1⟩) | (go_at_call 32; (with_reducible refine (CD2.out _).mono ?_); rintro e w3 ⟨v2, rfl, n2, B2⟩; have m1 := n1.below B2; clear n1) | (go_at_call 33; (with_reducible refine (CS.out _ _ _ m1 n2).mono ?_); rintro e w4 ⟨rfl, B3⟩))
  go_ret2
  exact ⟨rfl, B1.trans ((B2.trans (B3.mono B2.size)).mono B1.size)⟩

set_option maxRecDepth 100000 in
set_option maxHeartbeats 1000000 in
theorem rSub_no (s1 s2 : ByteArray) (L1 L2 : List UInt8) (w : World) (hL1 : s1.data.toList = L1) (hL2 : s2.data.toList = L2) (hl1 : L1.length ≤ 60000) (hl2 : L2.length ≤ 60000) (hv : (vld L1 && vld L2) = false) :
    Calls Tryz.prog 12 #[.string s1, .string s2] w fun e w' => e = .returned (.tuple #[.string ⟨#[]⟩, .int .i64 30]) ∧ Below w.heap.size w w' := by
  have c1 := fun W => rValid_any s1 L1 W hL1 hl1
  have c2 := fun W => rValid_any s2 L2 W hL2 hl2
  cases b1 : vld L1
  · rw [b1] at c1
    have C1 := Lib.hid c1
    clear hL1 hL2 hl1 hl2 hv c1 c2 b1
    go_enter Tryz.func12, Tryz.ntmps12
    go_wp2_with (go_at_call 24; (with_reducible refine (C1.out _).mono ?_); rintro e w1 ⟨rfl, rfl⟩)
    go_ret2
    exact ⟨rfl, Below.refl _ _⟩
  · rw [b1, Bool.true_and] at hv
    rw [b1] at c1
    rw [hv] at c2
    have C1 := Lib.hid c1
    have C2 := Lib.hid c2
    clear hL1 hL2 hl1 hl2 hv c1 c2 b1
    go_enter Tryz.func12, Tryz.ntmps12
    go_wp2_with (go_at_call 24; (first | (with_reducible refine (C1.out _).mono ?_) | (with_reducible refine (C2.out _).mono ?_)); rintro e w1 ⟨rfl, rfl⟩)
    go_ret2
    exact ⟨rfl, Below.refl _ _⟩

set_option maxRecDepth 100000 in
set_option maxHeartbeats 2000000 in
theorem rSub_ok (s1 s2 : ByteArray) (L1 L2 : List UInt8) (w : World) (hL1 : s1.data.toList = L1) (hL2 : s2.data.toList = L2) (hl1 : vld L1 = true) (hl2 : vld L2 = true) :
    Calls Tryz.prog 12 #[.string s1, .string s2] w fun e w' => e = .returned (.tuple #[.string ⟨(rs (num L1 - num L2)).toArray⟩, .int .i64 (er (num L1 - num L2))]) ∧ Below w.heap.size w w' := by
  have cv1 := fun W => rValid_any s1 L1 W hL1 (by have := (vld_digits hl1).2.2; omega)
  have cv2 := fun W => rValid_any s2 L2 W hL2 (by have := (vld_digits hl2).2.2; omega)
  rw [hl1] at cv1
  rw [hl2] at cv2
  have CV1 := Lib.hid cv1
  have CV2 := Lib.hid cv2
  have cd1 := fun W => digits_lit s1 L1 W hL1 hl1
  have cd2 := fun W => digits_lit s2 L2 W hL2 hl2
  have k1 := (vld_txt hl1).2
  have k2 := (vld_txt hl2).2
  have e1 := mz_num (num L1)
  have e2 := mz_num (num L2)
  have cs : ∀ W v1 v2, XSl W v1 (num L1).natAbs → XSl W v2 (num L2).natAbs → Calls Tryz.prog 33 #[.bool (decide (num L1 < 0)), v1, .bool (!decide (num L2 < 0)), v2] W fun e w' => e = .returned (.tuple #[.string ⟨(rs (num L1 - num L2)).toArray⟩, .int .i64 (er (num L1 - num L2))]) ∧ Below W.heap.size W w' := fun W v1 v2 h1 h2 => by
    have h := rsum_any (decide (num L1 < 0)) (!decide (num L2 < 0)) _ _ v1 v2 W k1 k2 h1 h2
    rwa [← mz_num, mz_not, ← mz_num, ← Int.sub_eq_add_neg] at h
  clear e1 e2
  generalize (rs (num L1 - num L2)).toArray = R at *
  generalize er (num L1 - num L2) = E at *
  generalize decide (num L1 < 0) = x at *
  generalize decide (num L2 < 0) = y at *
  generalize (num L1).natAbs = k at *
  generalize (num L2).natAbs = l at *
  have CD1 := Lib.hid cd1
  have CD2 := Lib.hid cd2
  have CS := Lib.hid cs
  clear cv1 cv2 cd1 cd2 cs hL1 hL2 hl1 hl2 k1 k2
  go_enter Tryz.func12, Tryz.ntmps12
  go_wp2_with (first | (go_at_call 24; (first | (with_reducible refine (CV1.out _).mono ?_) | (with_reducible refine (CV2.out _).mono ?_)); rintro e w1 ⟨rfl, rfl⟩) | (go_at_call 32; (with_reducible refine (CD1.out _).mono ?_); rintro e w2 ⟨v1, rfl, n1, B1⟩) | (go_at_call 32; (with_reducible refine (CD2.out _).mono ?_); rintro e w3 ⟨v2, rfl, n2, B2⟩; have m1 := n1.below B2; clear n1) | (go_at_call 33; (with_reducible refine (CS.out _ _ _ m1 n2).mono ?_); rintro e w4 ⟨rfl, B3⟩))
  go_ret2
  exact ⟨rfl, B1.trans ((B2.trans (B3.mono B2.size)).mono B1.size)⟩

set_option maxRecDepth 100000 in
set_option maxHeartbeats 1000000 in
theorem rMul_no (s1 s2 : ByteArray) (L1 L2 : List UInt8) (w : World) (hL1 : s1.data.toList = L1) (hL2 : s2.data.toList = L2) (hl1 : L1.length ≤ 60000) (hl2 : L2.length ≤ 60000) (hv : (vld L1 && vld L2) = false) :
    Calls Tryz.prog 14 #[.string s1, .string s2] w fun e w' => e = .returned (.tuple #[.string ⟨#[]⟩, .int .i64 30]) ∧ Below w.heap.size w w' := by
  have c1 := fun W => rValid_any s1 L1 W hL1 hl1
  have c2 := fun W => rValid_any s2 L2 W hL2 hl2
  cases b1 : vld L1
  · rw [b1] at c1
    have C1 := Lib.hid c1
    clear hL1 hL2 hl1 hl2 hv c1 c2 b1
    go_enter Tryz.func14, Tryz.ntmps14
    go_wp2_with (go_at_call 24; (with_reducible refine (C1.out _).mono ?_); rintro e w1 ⟨rfl, rfl⟩)
    go_ret2
    exact ⟨rfl, Below.refl _ _⟩
  · rw [b1, Bool.true_and] at hv
    rw [b1] at c1
    rw [hv] at c2
    have C1 := Lib.hid c1
    have C2 := Lib.hid c2
    clear hL1 hL2 hl1 hl2 hv c1 c2 b1
    go_enter Tryz.func14, Tryz.ntmps14
    go_wp2_with (go_at_call 24; (first | (with_reducible refine (C1.out _).mono ?_) | (with_reducible refine (C2.out _).mono ?_)); rintro e w1 ⟨rfl, rfl⟩)
    go_ret2
    exact ⟨rfl, Below.refl _ _⟩

set_option maxRecDepth 100000 in
set_option maxHeartbeats 2000000 in
theorem rMul_ok (s1 s2 : ByteArray) (L1 L2 : List UInt8) (w : World) (hL1 : s1.data.toList = L1) (hL2 : s2.data.toList = L2) (hl1 : vld L1 = true) (hl2 : vld L2 = true) :
    Calls Tryz.prog 14 #[.string s1, .string s2] w fun e w' => e = .returned (.tuple #[.string ⟨(rs (num L1 * num L2)).toArray⟩, .int .i64 (er (num L1 * num L2))]) ∧ Below w.heap.size w w' := by
  have cv1 := fun W => rValid_any s1 L1 W hL1 (by have := (vld_digits hl1).2.2; omega)
  have cv2 := fun W => rValid_any s2 L2 W hL2 (by have := (vld_digits hl2).2.2; omega)
  rw [hl1] at cv1
  rw [hl2] at cv2
  have CV1 := Lib.hid cv1
  have CV2 := Lib.hid cv2
  have cd1 := fun W => digits_lit s1 L1 W hL1 hl1
  have cd2 := fun W => digits_lit s2 L2 W hL2 hl2
  have k1 := (vld_txt hl1).2
  have k2 := (vld_txt hl2).2
  have e1 := mz_num (num L1)
  have e2 := mz_num (num L2)
  have cs : ∀ W v1 v2, XSl W v1 (num L1).natAbs → XSl W v2 (num L2).natAbs → Calls Tryz.prog 37 #[v1, v2] W fun e w' => ∃ v, e = .returned v ∧ XSl w' v ((num L1).natAbs * (num L2).natAbs) ∧ Below W.heap.size W w' := fun W v1 v2 h1 h2 => rtimes_any _ _ v1 v2 W (gx_le k1 (by decide)) (gx_le k2 (by decide)) h1 h2
  have cc : ∀ b, b = (decide (num L1 < 0) != decide (num L2 < 0)) → ∀ W v, XSl W v ((num L1).natAbs * (num L2).natAbs) → Calls Tryz.prog 36 #[.bool b, v] W fun e w' => e = .returned (.tuple #[.string ⟨(rs (num L1 * num L2)).toArray⟩, .int .i64 (er (num L1 * num L2))]) ∧ Below W.heap.size W w' := fun b hb W v h => by
    subst hb
    have h := checked_any (decide (num L1 < 0) != decide (num L2 < 0)) _ v W (Nat.le_trans (grpX_len (mul_400 k1 k2)) (by decide)) h
    rwa [mz_mul, ← mz_num, ← mz_num] at h
  have CC := Lib.hid cc
  clear cc
  clear e1 e2
  generalize (rs (num L1 * num L2)).toArray = R at *
  generalize er (num L1 * num L2) = E at *
  generalize decide (num L1 < 0) = x at *
  generalize decide (num L2 < 0) = y at *
  generalize (num L1).natAbs = k at *
  generalize (num L2).natAbs = l at *
  have CD1 := Lib.hid cd1
  have CD2 := Lib.hid cd2
  have CS := Lib.hid cs
  clear cv1 cv2 cd1 cd2 cs hL1 hL2 hl1 hl2 k1 k2
  cases x <;> cases y <;>
  (go_enter Tryz.func14, Tryz.ntmps14
   go_wp2_with (first | (go_at_call 24; (first | (with_reducible refine (CV1.out _).mono ?_) | (with_reducible refine (CV2.out _).mono ?_)); rintro e w1 ⟨rfl, rfl⟩) | (go_at_call 32; (with_reducible refine (CD1.out _).mono ?_); rintro e w2 ⟨v1, rfl, n1, B1⟩) | (go_at_call 32; (with_reducible refine (CD2.out _).mono ?_); rintro e w3 ⟨v2, rfl, n2, B2⟩; have m1 := n1.below B2; clear n1) | (go_at_call 37; (with_reducible refine (CS.out _ _ _ m1 n2).mono ?_); rintro e w4 ⟨v, rfl, n3, B3⟩) | (go_at_call 36; (with_reducible refine (CC.out _ (by decide) _ _ n3).mono ?_); rintro e w5 ⟨rfl, B4⟩))
   go_ret2
   exact ⟨rfl, B1.trans ((B2.trans ((B3.trans (B4.mono B3.size)).mono B2.size)).mono B1.size)⟩)

theorem cmp_neg (a b : Nat) : cmpN (-(a : Int)) (-(b : Int)) = cmpN (b : Int) a := by
  unfold cmpN
  rcases Nat.lt_trichotomy a b with h | h | h
  · rw [if_neg (by omega), if_pos (by omega), if_neg (by omega), if_pos (by omega)]
  · rw [if_neg (by omega), if_neg (by omega), if_neg (by omega), if_neg (by omega)]
  · rw [if_pos (by omega), if_pos (by omega)]
theorem neg_div (k l : Nat) (hl : 0 < l) (hr : 0 < k % l) : (-(k : Int)) / l = -((k / l + 1 : Nat) : Int) ∧ (-(k : Int)) % l = ((l - k % l : Nat) : Int) := by
  have h1 := Nat.div_add_mod k l
  have h2 := Nat.mod_lt k hl
  refine (Int.ediv_emod_unique (by omega)).2 ⟨?_, by omega, by omega⟩
  generalize k / l = q at *
  generalize k % l = r at *
  subst h1
  push_cast [Nat.le_of_lt h2]
  rw [Int.mul_neg, Int.mul_add]
  omega
theorem neg_div0 (k l : Nat) (hl : 0 < l) (hr : k % l = 0) : (-(k : Int)) / l = -((k / l : Nat) : Int) ∧ (-(k : Int)) % l = 0 := by
  have h1 := Nat.div_add_mod k l
  refine (Int.ediv_emod_unique (by omega)).2 ⟨?_, by omega, by omega⟩
  rw [hr] at h1
  generalize k / l = q at *
  subst h1
  push_cast
  rw [Int.mul_neg]
  omega
theorem div_le1 (k l : Nat) (h : k < 10 ^ 200) : k / l + 1 ≤ 10 ^ 200 := by
  have := Nat.div_le_self k l
  omega

set_option maxRecDepth 100000 in
set_option maxHeartbeats 1000000 in
theorem rCompare_no (s1 s2 : ByteArray) (L1 L2 : List UInt8) (w : World) (hL1 : s1.data.toList = L1) (hL2 : s2.data.toList = L2) (hl1 : L1.length ≤ 60000) (hl2 : L2.length ≤ 60000) (hv : (vld L1 && vld L2) = false) :
    Calls Tryz.prog 26 #[.string s1, .string s2] w fun e w' => e = .returned (.int .i64 0) ∧ Below w.heap.size w w' := by
  have c1 := fun W => rValid_any s1 L1 W hL1 hl1
  have c2 := fun W => rValid_any s2 L2 W hL2 hl2
  cases b1 : vld L1
  · rw [b1] at c1
    have C1 := Lib.hid c1
    clear hL1 hL2 hl1 hl2 hv c1 c2 b1
    go_enter Tryz.func26, Tryz.ntmps26
    go_wp2_with (go_at_call 24; (with_reducible refine (C1.out _).mono ?_); rintro e w1 ⟨rfl, rfl⟩)
    go_ret
    exact ⟨rfl, Below.refl _ _⟩
  · rw [b1, Bool.true_and] at hv
    rw [b1] at c1
    rw [hv] at c2
    have C1 := Lib.hid c1
    have C2 := Lib.hid c2
    clear hL1 hL2 hl1 hl2 hv c1 c2 b1
    go_enter Tryz.func26, Tryz.ntmps26
    go_wp2_with (go_at_call 24; (first | (with_reducible refine (C1.out _).mono ?_) | (with_reducible refine (C2.out _).mono ?_)); rintro e w1 ⟨rfl, rfl⟩)
    go_ret
    exact ⟨rfl, Below.refl _ _⟩

set_option maxRecDepth 100000 in
set_option maxHeartbeats 2000000 in
theorem rCompare_ok (s1 s2 : ByteArray) (L1 L2 : List UInt8) (w : World) (hL1 : s1.data.toList = L1) (hL2 : s2.data.toList = L2) (hl1 : vld L1 = true) (hl2 : vld L2 = true) :
    Calls Tryz.prog 26 #[.string s1, .string s2] w fun e w' => e = .returned (.int .i64 (cmpN (num L1) (num L2))) ∧ Below w.heap.size w w' := by
  have cv1 := fun W => rValid_any s1 L1 W hL1 (by have := (vld_digits hl1).2.2; omega)
  have cv2 := fun W => rValid_any s2 L2 W hL2 (by have := (vld_digits hl2).2.2; omega)
  rw [hl1] at cv1
  rw [hl2] at cv2
  have CV1 := Lib.hid cv1
  have CV2 := Lib.hid cv2
  have cd1 := fun W => digits_lit s1 L1 W hL1 hl1
  have cd2 := fun W => digits_lit s2 L2 W hL2 hl2
  have k1 := (vld_txt hl1).2
  have k2 := (vld_txt hl2).2
  have co : ∀ W v1 v2, XSl W v1 (num L1).natAbs → XSl W v2 (num L2).natAbs → Calls Tryz.prog 49 #[v1, v2] W fun e w' => e = .returned (.int .i64 (cmpN ((num L1).natAbs : Int) (num L2).natAbs)) ∧ Below W.heap.size W w' := fun W v1 v2 h1 h2 => order_any _ _ v1 v2 W (Nat.le_trans (gx_le k1 (by decide)) (by decide)) (Nat.le_trans (gx_le k2 (by decide)) (by decide)) h1 h2
  have co2 : ∀ W v1 v2, XSl W v1 (num L1).natAbs → XSl W v2 (num L2).natAbs → Calls Tryz.prog 49 #[v2, v1] W fun e w' => e = .returned (.int .i64 (cmpN ((num L2).natAbs : Int) (num L1).natAbs)) ∧ Below W.heap.size W w' := fun W v1 v2 h1 h2 => order_any _ _ v2 v1 W (Nat.le_trans (gx_le k2 (by decide)) (by decide)) (Nat.le_trans (gx_le k1 (by decide)) (by decide)) h2 h1
  clear hL1 hL2 hl1 hl2 k1 k2 cv1 cv2
  by_cases g1 : num L1 < 0 <;> by_cases g2 : num L2 < 0
  · rw [decide_eq_true g1] at cd1
    rw [decide_eq_true g2] at cd2
    have hc : cmpN (num L1) (num L2) = cmpN ((num L2).natAbs : Int) (num L1).natAbs := by rw [← cmp_neg, show -(((num L1).natAbs : Nat) : Int) = num L1 by omega, show -(((num L2).natAbs : Nat) : Int) = num L2 by omega]
    rw [hc]
    generalize cmpN ((num L2).natAbs : Int) (num L1).natAbs = C at *
    have CO := Lib.hid co2
    have CD1 := Lib.hid cd1
    have CD2 := Lib.hid cd2
    clear cd1 cd2 co co2 hc g1 g2
    generalize (num L1).natAbs = k at *
    generalize (num L2).natAbs = l at *
    go_enter Tryz.func26, Tryz.ntmps26
    go_wp2_with (first | (go_at_call 24; (first | (with_reducible refine (CV1.out _).mono ?_) | (with_reducible refine (CV2.out _).mono ?_)); rintro e w1 ⟨rfl, rfl⟩) | (go_at_call 32; (with_reducible refine (CD1.out _).mono ?_); rintro e w2 ⟨v1, rfl, n1, B1⟩) | (go_at_call 32; (with_reducible refine (CD2.out _).mono ?_); rintro e w3 ⟨v2, rfl, n2, b2⟩; have m1 := n1.below b2; have B2 := B1.trans (b2.mono B1.size); clear n1 b2) | (go_at_call 49; (with_reducible refine (CO.out _ _ _ m1 n2).mono ?_); rintro e w4 ⟨rfl, b3⟩; have B3 := B2.trans (b3.mono B2.size)))
    go_ret
    exact ⟨rfl, B3⟩
  · rw [decide_eq_true g1] at cd1
    rw [decide_eq_false g2] at cd2
    have hc : cmpN (num L1) (num L2) = -1 := by rw [cmpN, if_pos (by omega)]
    rw [hc]
    have CD1 := Lib.hid cd1
    have CD2 := Lib.hid cd2
    clear cd1 cd2 co co2 hc g1 g2
    generalize (num L1).natAbs = k at *
    generalize (num L2).natAbs = l at *
    go_enter Tryz.func26, Tryz.ntmps26
    go_wp2_with (first | (go_at_call 24; (first | (with_reducible refine (CV1.out _).mono ?_) | (with_reducible refine (CV2.out _).mono ?_)); rintro e w1 ⟨rfl, rfl⟩) | (go_at_call 32; (with_reducible refine (CD1.out _).mono ?_); rintro e w2 ⟨v1, rfl, n1, B1⟩) | (go_at_call 32; (with_reducible refine (CD2.out _).mono ?_); rintro e w3 ⟨v2, rfl, n2, b2⟩; have m1 := n1.below b2; have B2 := B1.trans (b2.mono B1.size); clear n1 b2))
    go_ret
    exact ⟨rfl, B2⟩
  · rw [decide_eq_false g1] at cd1
    rw [decide_eq_true g2] at cd2
    have hc : cmpN (num L1) (num L2) = 1 := by rw [cmpN, if_neg (by omega), if_pos (by omega)]
    rw [hc]
    have CD1 := Lib.hid cd1
    have CD2 := Lib.hid cd2
    clear cd1 cd2 co co2 hc g1 g2
    generalize (num L1).natAbs = k at *
    generalize (num L2).natAbs = l at *
    go_enter Tryz.func26, Tryz.ntmps26
    go_wp2_with (first | (go_at_call 24; (first | (with_reducible refine (CV1.out _).mono ?_) | (with_reducible refine (CV2.out _).mono ?_)); rintro e w1 ⟨rfl, rfl⟩) | (go_at_call 32; (with_reducible refine (CD1.out _).mono ?_); rintro e w2 ⟨v1, rfl, n1, B1⟩) | (go_at_call 32; (with_reducible refine (CD2.out _).mono ?_); rintro e w3 ⟨v2, rfl, n2, b2⟩; have m1 := n1.below b2; have B2 := B1.trans (b2.mono B1.size); clear n1 b2))
    go_ret
    exact ⟨rfl, B2⟩
  · rw [decide_eq_false g1] at cd1
    rw [decide_eq_false g2] at cd2
    have hc : cmpN (num L1) (num L2) = cmpN ((num L1).natAbs : Int) (num L2).natAbs := by rw [show (((num L1).natAbs : Nat) : Int) = num L1 by omega, show (((num L2).natAbs : Nat) : Int) = num L2 by omega]
    rw [hc]
    generalize cmpN ((num L1).natAbs : Int) (num L2).natAbs = C at *
    have CO := Lib.hid co
    have CD1 := Lib.hid cd1
    have CD2 := Lib.hid cd2
    clear cd1 cd2 co co2 hc g1 g2
    generalize (num L1).natAbs = k at *
    generalize (num L2).natAbs = l at *
    go_enter Tryz.func26, Tryz.ntmps26
    go_wp2_with (first | (go_at_call 24; (first | (with_reducible refine (CV1.out _).mono ?_) | (with_reducible refine (CV2.out _).mono ?_)); rintro e w1 ⟨rfl, rfl⟩) | (go_at_call 32; (with_reducible refine (CD1.out _).mono ?_); rintro e w2 ⟨v1, rfl, n1, B1⟩) | (go_at_call 32; (with_reducible refine (CD2.out _).mono ?_); rintro e w3 ⟨v2, rfl, n2, b2⟩; have m1 := n1.below b2; have B2 := B1.trans (b2.mono B1.size); clear n1 b2) | (go_at_call 49; (with_reducible refine (CO.out _ _ _ m1 n2).mono ?_); rintro e w4 ⟨rfl, b3⟩; have B3 := B2.trans (b3.mono B2.size)))
    go_ret
    exact ⟨rfl, B3⟩

set_option maxRecDepth 100000 in
set_option maxHeartbeats 1000000 in
theorem rGcd_no (s1 s2 : ByteArray) (L1 L2 : List UInt8) (w : World) (hL1 : s1.data.toList = L1) (hL2 : s2.data.toList = L2) (hl1 : L1.length ≤ 60000) (hl2 : L2.length ≤ 60000) (hv : (vld L1 && vld L2) = false) :
    Calls Tryz.prog 18 #[.string s1, .string s2] w fun e w' => e = .returned (.tuple #[.string ⟨#[]⟩, .int .i64 30]) ∧ Below w.heap.size w w' := by
  have c1 := fun W => rValid_any s1 L1 W hL1 hl1
  have c2 := fun W => rValid_any s2 L2 W hL2 hl2
  cases b1 : vld L1
  · rw [b1] at c1
    have C1 := Lib.hid c1
    clear hL1 hL2 hl1 hl2 hv c1 c2 b1
    go_enter Tryz.func18, Tryz.ntmps18
    go_wp2_with (go_at_call 24; (with_reducible refine (C1.out _).mono ?_); rintro e w1 ⟨rfl, rfl⟩)
    go_ret2
    exact ⟨rfl, Below.refl _ _⟩
  · rw [b1, Bool.true_and] at hv
    rw [b1] at c1
    rw [hv] at c2
    have C1 := Lib.hid c1
    have C2 := Lib.hid c2
    clear hL1 hL2 hl1 hl2 hv c1 c2 b1
    go_enter Tryz.func18, Tryz.ntmps18
    go_wp2_with (go_at_call 24; (first | (with_reducible refine (C1.out _).mono ?_) | (with_reducible refine (C2.out _).mono ?_)); rintro e w1 ⟨rfl, rfl⟩)
    go_ret2
    exact ⟨rfl, Below.refl _ _⟩

set_option maxRecDepth 100000 in
set_option maxHeartbeats 2000000 in
theorem rGcd_ok (s1 s2 : ByteArray) (L1 L2 : List UInt8) (w : World) (hL1 : s1.data.toList = L1) (hL2 : s2.data.toList = L2) (hl1 : vld L1 = true) (hl2 : vld L2 = true) :
    Calls Tryz.prog 18 #[.string s1, .string s2] w fun e w' => e = .returned (.tuple #[.string ⟨(rs (((Nat.gcd (num L1).natAbs (num L2).natAbs : Nat) : Int))).toArray⟩, .int .i64 (er (((Nat.gcd (num L1).natAbs (num L2).natAbs : Nat) : Int)))]) ∧ Below w.heap.size w w' := by
  have cv1 := fun W => rValid_any s1 L1 W hL1 (by have := (vld_digits hl1).2.2; omega)
  have cv2 := fun W => rValid_any s2 L2 W hL2 (by have := (vld_digits hl2).2.2; omega)
  rw [hl1] at cv1
  rw [hl2] at cv2
  have CV1 := Lib.hid cv1
  have CV2 := Lib.hid cv2
  have cd1 := fun W => digits_lit s1 L1 W hL1 hl1
  have cd2 := fun W => digits_lit s2 L2 W hL2 hl2
  have k1 := (vld_txt hl1).2
  have k2 := (vld_txt hl2).2
  obtain ⟨G, hG⟩ : ∃ G, Nat.gcd (num L1).natAbs (num L2).natAbs = G := ⟨_, rfl⟩
  rw [hG]
  have cc : ∀ W v, XSl W v G → Calls Tryz.prog 36 #[.bool false, v] W fun e w' => e = .returned (.tuple #[.string ⟨(rs (G : Int)).toArray⟩, .int .i64 (er (G : Int))]) ∧ Below W.heap.size W w' := fun W v h => by
    have hg := gcd_lt hl1 hl2
    rw [hG] at hg
    exact checked_any false G v W (Nat.le_trans (grpX_len hg) (by decide)) h
  have CC := Lib.hid cc
  have HG := Lib.hid hG
  have HK := Lib.hid (And.intro k1 k2)
  generalize (rs (G : Int)).toArray = R at *
  generalize er (G : Int) = E at *
  generalize decide (num L1 < 0) = x at *
  generalize decide (num L2 < 0) = y at *
  generalize (num L1).natAbs = k at *
  generalize (num L2).natAbs = l at *
  have CD1 := Lib.hid cd1
  have CD2 := Lib.hid cd2
  clear cv1 cv2 cd1 cd2 cc hL1 hL2 hl1 hl2 k1 k2 hG
  go_enter Tryz.func18, Tryz.ntmps18
  go_wp2_with (first | (go_at_call 24; (first | (with_reducible refine (CV1.out _).mono ?_) | (with_reducible refine (CV2.out _).mono ?_)); rintro e w1 ⟨rfl, rfl⟩) | (go_at_call 32; (with_reducible refine (CD1.out _).mono ?_); rintro e w2 ⟨v1, rfl, n1, B1⟩) | (go_at_call 32; (with_reducible refine (CD2.out _).mono ?_); rintro e w3 ⟨v2, rfl, n2, b2⟩; obtain ⟨a2, c2, rfl⟩ := n2.form; have m1 := n1.below b2; have B2 := B1.trans (b2.mono B1.size); have M := Lib.hid (And.intro m1 n2); clear n1 b2 m1 n2))
  go_loopw [7, 9] (fun kv lv wr => ∃ (a b : Nat) (ad : Option Addr) (cp : Nat), lv = .slice ad (grpX b).length cp ∧ Hid (XSl wr kv a) ∧ Hid (XSl wr lv b) ∧ Hid (a < 10 ^ 200 ∧ b < 10 ^ 200 ∧ Nat.gcd a b = G) ∧ Below w.heap.size w wr) (fun _ lv wr => xvOf wr lv)
  case atStart => exact ⟨k, l, _, _, rfl, Lib.hid M.out.1, Lib.hid M.out.2, Lib.hid ⟨HK.out.1, HK.out.2, HG.out⟩, B2⟩
  case round =>
    clear M HG HK B1 B2
    obtain ⟨a, b, ad, cp, rfl, h1, h2, hI, hB⟩ := hrel
    by_cases hb : b = 0
    · subst hb
      have hg := hI.out.2.2
      rw [Nat.gcd_zero_right] at hg
      subst hg
      rw [grpX_zero] at h2 ⊢
      have CG := Lib.hid (CC.out wr _ h1.out)
      clear hI h1 h2 CC
      go_wp2_with (go_at_call 36; (with_reducible refine CG.out.mono ?_); rintro e w4 ⟨rfl, b3⟩; have B3 := hB.trans (b3.mono hB.size))
      go_ret2
      exact ⟨rfl, B3⟩
    · have hz : 0 < (grpX b).length := (gx_len b 0).2 (by omega)
      have HX := Lib.hid (divided_any a b _ _ wr (by omega) (gx_le hI.out.1 (by decide)) (gx_le hI.out.2.1 (by decide)) h1.out h2.out)
      have HV := Lib.hid (xvOf_eq h2.out)
      have HN := Lib.hid (show a % b < b ∧ b < 10 ^ 200 ∧ Nat.gcd b (a % b) = G from ⟨Nat.mod_lt _ (by omega), hI.out.2.1, by rw [← hI.out.2.2, Nat.gcd_comm a b, Nat.gcd_rec b a, Nat.gcd_comm]⟩)
      clear hI h1 hb
      generalize (grpX b).length = z at *
      go_wp2_with (go_at_call 42; (with_reducible refine HX.out.mono ?_); rintro e w4 ⟨u1, u2, rfl, n1, n2, b3⟩; have B3 := hB.trans (b3.mono hB.size); have m2 := h2.out.below b3; obtain ⟨a3, c3, rfl⟩ := n2.form; have N2 := Lib.hid n2; clear HX n2)
      refine ⟨⟨b, a % b, _, _, rfl, Lib.hid m2, N2, Lib.hid ⟨HN.out.2.1, by have := HN.out; omega, HN.out.2.2⟩, B3⟩, ?_⟩
      rw [xvOf_eq N2.out, HV.out]; exact HN.out.1
end Go.Proofs.YtbdiofifjckceaaGreatDoor
