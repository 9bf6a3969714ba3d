/- The walks of laws: common divisors, roots, order. -/
import Derived.Test.YtbdiofifjckceaaDoorRc
namespace Go.Proofs.YtbdiofifjckceaaDoor
open Go.RowKit

theorem cmp_neg {a b : Int} (h : a < b) : cmpN a b = -1 := by rw [cmpN, if_pos h]
theorem cmp_zero (a : Int) : cmpN a a = 0 := by rw [cmpN, if_neg (by omega), if_neg (by omega)]
theorem cmp_pos {a b : Int} (h : b < a) : cmpN a b = 1 := by rw [cmpN, if_neg (by omega), if_pos (by omega)]
theorem cmp_nonneg {a b : Int} (h : b ≤ a) : 0 ≤ cmpN a b := by rw [cmpN, if_neg (by omega)]; split <;> omega
theorem cmp_nonpos {a b : Int} (h : a ≤ b) : cmpN a b ≤ 0 := by
  rcases Int.lt_or_eq_of_le h with h | h
  · rw [cmp_neg h]; omega
  · rw [h, cmp_zero]; omega
theorem gcd_nat {x y : Int} {p : Nat} (hx : x.natAbs < 10 ^ p) (hy : y.natAbs < 10 ^ p) : ((Nat.gcd x.natAbs y.natAbs : Nat) : Int).natAbs < 10 ^ p := by
  have := gcd_le x.natAbs y.natAbs
  rw [Int.natAbs_natCast]; omega

set_option maxRecDepth 100000 in
set_option maxHeartbeats 4000000 in
theorem common_walk (s0 s1 s2 : ByteArray) (w : World) (hs0 : s0.size ≤ 9223372036854775807) (hs1 : s1.size ≤ 9223372036854775807) (hs2 : s2.size ≤ 9223372036854775807) :
    Calls Tryd.prog 5 #[.string s0, .string s1, .string s2] w fun e w' => e = .returned (.bool true) ∧ Below w.heap.size w w' := by
  have H := Lib.hid (Below.refl w.heap.size w)
  have cM0 := fun W => Made_I s0 40 40 rfl W (by decide) (by decide) hs0
  have cM1 := fun W => Made_I s1 40 40 rfl W (by decide) (by decide) hs1
  have cM2 := fun W => Made_I s2 40 40 rfl W (by decide) (by decide) hs2
  go_enter Tryd.func5, Tryd.ntmps5
  go_upto_region 5 with (first | (go_at_call 9; (with_reducible refine (sane_any _).mono ?_); rintro e W ⟨rfl, B1⟩; have B2 := H.out.trans (B1.mono H.out.size); clear H B1; have H := Lib.hid B2; clear B2) | (go_at_call_of 10 (Value.string s0); (with_reducible refine (cM0 _).mono ?_); rintro e W ⟨x, rfl, bx, B1⟩; have B2 := H.out.trans (B1.mono H.out.size); clear H B1; have H := Lib.hid B2; clear B2) | (go_at_call_of 10 (Value.string s1); (with_reducible refine (cM1 _).mono ?_); rintro e W ⟨y, rfl, bY, B1⟩; have B2 := H.out.trans (B1.mono H.out.size); clear H B1; have H := Lib.hid B2; clear B2) | (go_at_call_of 10 (Value.string s2); (with_reducible refine (cM2 _).mono ?_); rintro e W ⟨z, rfl, bz, B1⟩; have B2 := H.out.trans (B1.mono H.out.size); clear H B1; have H := Lib.hid B2; clear B2))
  clear cM0 cM1 cM2 hs0 hs1 hs2
  have bx2 := wide bx (show 40 ≤ 200 by decide)
  have bY2 := wide bY (show 40 ≤ 200 by decide)
  have bz2 := wide bz (show 40 ≤ 200 by decide)
  obtain ⟨G, hG⟩ : ∃ G, Nat.gcd x.natAbs y.natAbs = G := ⟨_, rfl⟩
  have bg : ((G : Nat) : Int).natAbs < 10 ^ 40 := by rw [← hG]; exact gcd_nat bx bY
  have bg2 := wide bg (show 40 ≤ 200 by decide)
  have c0 := fun W => Gcd_S x y bx2 bY2 (by rw [hG]; exact bg2) W
  have c1 := fun W => Gcd_S y x bY2 bx2 (by rw [Nat.gcd_comm, hG]; exact bg2) W
  rw [hG] at c0
  rw [Nat.gcd_comm, hG] at c1
  have c2 := fun W => Compare_S G 0 bg2 (by decide) W
  obtain ⟨k, hk⟩ : ∃ k, cmpN (G : Int) 0 = k := ⟨_, rfl⟩
  have hk0 : 0 ≤ k := by rw [← hk]; exact cmp_nonneg (by omega)
  rw [hk, S_zero] at c2
  have hx0 : ((S x).toList == [48]) = decide (x = 0) := S_l0 x
  have hy0 : ((S y).toList == [48]) = decide (y = 0) := S_l0 y
  by_cases hxy : x = 0 ∧ y = 0
  · obtain ⟨h1, h2⟩ := hxy
    rw [decide_eq_true h1] at hx0
    rw [decide_eq_true h2] at hy0
    have hg0 : ((S (G : Int)).toList == [48]) = true := by
      rw [S_l0, decide_eq_true]
      rw [← hG, h1, h2]; rfl
    clear bx bY bz bx2 bY2 bz2 bg bg2 hG hk h1 h2
    generalize S (G : Int) = A0 at *
    generalize S x = X at *
    generalize S y = Y at *
    go_wp2_with (first | (go_at_call 17; (with_reducible refine (c0 _).mono ?_); rintro e W ⟨rfl, B1⟩; have B2 := H.out.trans (B1.mono H.out.size); clear H B1; have H := Lib.hid B2; clear B2) | (go_at_call 17; (with_reducible refine (c1 _).mono ?_); rintro e W ⟨rfl, B1⟩; have B2 := H.out.trans (B1.mono H.out.size); clear H B1; have H := Lib.hid B2; clear B2) | (go_at_call 15; (with_reducible refine (c2 _).mono ?_); rintro e W ⟨rfl, B1⟩; have B2 := H.out.trans (B1.mono H.out.size); clear H B1; have H := Lib.hid B2; clear B2))
    go_ret
    exact ⟨rfl, H.out⟩
  · have hGp : 0 < G := by
      rw [← hG]
      rcases Nat.eq_zero_or_pos (Nat.gcd x.natAbs y.natAbs) with h | h
      · exact absurd ⟨Int.natAbs_eq_zero.1 (Nat.eq_zero_of_gcd_eq_zero_left h), Int.natAbs_eq_zero.1 (Nat.eq_zero_of_gcd_eq_zero_right h)⟩ hxy
      · exact h
    have hG0 : (G : Int) ≠ 0 := by omega
    have d1 : (G : Int) ∣ x := Int.ofNat_dvd_left.2 (by rw [← hG]; exact Nat.gcd_dvd_left _ _)
    have d2 : (G : Int) ∣ y := Int.ofNat_dvd_left.2 (by rw [← hG]; exact Nat.gcd_dvd_right _ _)
    have q1 := Int.natAbs_ediv_le_natAbs x (G : Int)
    have q2 := Int.natAbs_ediv_le_natAbs y (G : Int)
    have bp : (x / (G : Int)).natAbs < 10 ^ 200 := by omega
    have bq : (y / (G : Int)).natAbs < 10 ^ 200 := by omega
    have c3 := fun W => Div_S x G bx2 bg2 hG0 W
    have c4 := fun W => Div_S y G bY2 bg2 hG0 W
    rw [Int.emod_eq_zero_of_dvd d1, S_zero] at c3
    rw [Int.emod_eq_zero_of_dvd d2, S_zero] at c4
    have e1 : Nat.gcd (x / (G : Int)).natAbs (y / (G : Int)).natAbs = 1 := by
      rw [Int.natAbs_ediv_of_dvd d1, Int.natAbs_ediv_of_dvd d2, Int.natAbs_natCast, Nat.gcd_div (Int.ofNat_dvd_left.1 d1) (Int.ofNat_dvd_left.1 d2), hG]
      exact Nat.div_self hGp
    have c5 := fun W => Gcd_S (x / (G : Int)) (y / (G : Int)) bp bq (by rw [e1]; decide) W
    rw [e1] at c5
    rw [show ((1 : Nat) : Int) = 1 from rfl, S_one] at c5
    have mx := mulb (r := 80) bx bz (by decide)
    have my := mulb (r := 80) bY bz (by decide)
    have mg := mulb (r := 80) bg bz (by decide)
    have c6 := fun W => Mul_S x z bx2 bz2 (wide mx (by decide)) W
    have c7 := fun W => Mul_S y z bY2 bz2 (wide my (by decide)) W
    have e2 : Nat.gcd (x * z).natAbs (y * z).natAbs = (G * z : Int).natAbs := by
      rw [Int.natAbs_mul, Int.natAbs_mul, Int.natAbs_mul, Nat.gcd_mul_right, hG, Int.natAbs_natCast]
    have c8 := fun W => Gcd_S (x * z) (y * z) (wide mx (by decide)) (wide my (by decide)) (wide (gcd_nat mx my) (by decide)) W
    rw [e2] at c8
    have c9 := fun W => Mul_S G z bg2 bz2 (wide mg (by decide)) W
    have ca := fun W => Compare_S ((G : Int) * z) 0 (wide mg (by decide)) (by decide) W
    have cb := fun W => Sub_S 0 ((G : Int) * z) (by decide) (wide mg (by decide)) (by rw [Int.zero_sub, Int.natAbs_neg]; exact wide mg (by decide)) W
    rw [S_zero] at ca cb
    rw [Int.zero_sub] at cb
    have hxx : Hid (((S x).toList == [48]) = true ∧ ((S y).toList == [48]) = false ∨ ((S x).toList == [48]) = false) := Lib.hid (by
      rw [hx0, hy0]
      by_cases h1 : x = 0
      · left; rw [decide_eq_true h1, decide_eq_false (fun h2 => hxy ⟨h1, h2⟩)]; exact ⟨rfl, rfl⟩
      · right; rw [decide_eq_false h1])
    clear hx0 hy0
    obtain ⟨M, hM⟩ : ∃ M : Int, (G : Int) * z = M := ⟨_, rfl⟩
    rw [hM] at c8 c9 ca cb
    rcases Int.lt_or_le M 0 with hn | hp
    · rw [cmp_neg hn] at ca
      rw [show ((M.natAbs : Nat) : Int) = -M by omega] at c8
      clear bx bY bz bx2 bY2 bz2 bg bg2 hG hk hxy hGp hG0 d1 d2 q1 q2 bp bq e1 mx my mg e2 hM hn
      generalize S (x / (G : Int)) = A0 at *
      generalize S (y / (G : Int)) = A1 at *
      generalize S (x * z) = A2 at *
      generalize S (y * z) = A3 at *
      generalize S (-M) = A9 at *
      generalize S M = A7 at *
      generalize S (G : Int) = A8 at *
      generalize S x = X at *
      generalize S y = Y at *
      generalize S z = Z at *
      rcases hxx.out with ⟨hx0, hy0⟩ | hx0
      · clear hxx
        go_wp2_with (first | (go_at_call 17; (with_reducible refine (c0 _).mono ?_); rintro e W ⟨rfl, B1⟩; have B2 := H.out.trans (B1.mono H.out.size); clear H B1; have H := Lib.hid B2; clear B2) | (go_at_call 17; (with_reducible refine (c1 _).mono ?_); rintro e W ⟨rfl, B1⟩; have B2 := H.out.trans (B1.mono H.out.size); clear H B1; have H := Lib.hid B2; clear B2) | (go_at_call 15; (with_reducible refine (c2 _).mono ?_); rintro e W ⟨rfl, B1⟩; have B2 := H.out.trans (B1.mono H.out.size); clear H B1; have H := Lib.hid B2; clear B2) | (go_at_call 14; (with_reducible refine (c3 _).mono ?_); rintro e W ⟨rfl, B1⟩; have B2 := H.out.trans (B1.mono H.out.size); clear H B1; have H := Lib.hid B2; clear B2) | (go_at_call 14; (with_reducible refine (c4 _).mono ?_); rintro e W ⟨rfl, B1⟩; have B2 := H.out.trans (B1.mono H.out.size); clear H B1; have H := Lib.hid B2; clear B2) | (go_at_call 17; (with_reducible refine (c5 _).mono ?_); rintro e W ⟨rfl, B1⟩; have B2 := H.out.trans (B1.mono H.out.size); clear H B1; have H := Lib.hid B2; clear B2) | (go_at_call 12; (with_reducible refine (c6 _).mono ?_); rintro e W ⟨rfl, B1⟩; have B2 := H.out.trans (B1.mono H.out.size); clear H B1; have H := Lib.hid B2; clear B2) | (go_at_call 12; (with_reducible refine (c7 _).mono ?_); rintro e W ⟨rfl, B1⟩; have B2 := H.out.trans (B1.mono H.out.size); clear H B1; have H := Lib.hid B2; clear B2) | (go_at_call 17; (with_reducible refine (c8 _).mono ?_); rintro e W ⟨rfl, B1⟩; have B2 := H.out.trans (B1.mono H.out.size); clear H B1; have H := Lib.hid B2; clear B2) | (go_at_call 12; (with_reducible refine (c9 _).mono ?_); rintro e W ⟨rfl, B1⟩; have B2 := H.out.trans (B1.mono H.out.size); clear H B1; have H := Lib.hid B2; clear B2) | (go_at_call 15; (with_reducible refine (ca _).mono ?_); rintro e W ⟨rfl, B1⟩; have B2 := H.out.trans (B1.mono H.out.size); clear H B1; have H := Lib.hid B2; clear B2) | (go_at_call 13; (with_reducible refine (cb _).mono ?_); rintro e W ⟨rfl, B1⟩; have B2 := H.out.trans (B1.mono H.out.size); clear H B1; have H := Lib.hid B2; clear B2))
        go_ret
        exact ⟨rfl, H.out⟩
      · clear hxx
        go_wp2_with (first | (go_at_call 17; (with_reducible refine (c0 _).mono ?_); rintro e W ⟨rfl, B1⟩; have B2 := H.out.trans (B1.mono H.out.size); clear H B1; have H := Lib.hid B2; clear B2) | (go_at_call 17; (with_reducible refine (c1 _).mono ?_); rintro e W ⟨rfl, B1⟩; have B2 := H.out.trans (B1.mono H.out.size); clear H B1; have H := Lib.hid B2; clear B2) | (go_at_call 15; (with_reducible refine (c2 _).mono ?_); rintro e W ⟨rfl, B1⟩; have B2 := H.out.trans (B1.mono H.out.size); clear H B1; have H := Lib.hid B2; clear B2) | (go_at_call 14; (with_reducible refine (c3 _).mono ?_); rintro e W ⟨rfl, B1⟩; have B2 := H.out.trans (B1.mono H.out.size); clear H B1; have H := Lib.hid B2; clear B2) | (go_at_call 14; (with_reducible refine (c4 _).mono ?_); rintro e W ⟨rfl, B1⟩; have B2 := H.out.trans (B1.mono H.out.size); clear H B1; have H := Lib.hid B2; clear B2) | (go_at_call 17; (with_reducible refine (c5 _).mono ?_); rintro e W ⟨rfl, B1⟩; have B2 := H.out.trans (B1.mono H.out.size); clear H B1; have H := Lib.hid B2; clear B2) | (go_at_call 12; (with_reducible refine (c6 _).mono ?_); rintro e W ⟨rfl, B1⟩; have B2 := H.out.trans (B1.mono H.out.size); clear H B1; have H := Lib.hid B2; clear B2) | (go_at_call 12; (with_reducible refine (c7 _).mono ?_); rintro e W ⟨rfl, B1⟩; have B2 := H.out.trans (B1.mono H.out.size); clear H B1; have H := Lib.hid B2; clear B2) | (go_at_call 17; (with_reducible refine (c8 _).mono ?_); rintro e W ⟨rfl, B1⟩; have B2 := H.out.trans (B1.mono H.out.size); clear H B1; have H := Lib.hid B2; clear B2) | (go_at_call 12; (with_reducible refine (c9 _).mono ?_); rintro e W ⟨rfl, B1⟩; have B2 := H.out.trans (B1.mono H.out.size); clear H B1; have H := Lib.hid B2; clear B2) | (go_at_call 15; (with_reducible refine (ca _).mono ?_); rintro e W ⟨rfl, B1⟩; have B2 := H.out.trans (B1.mono H.out.size); clear H B1; have H := Lib.hid B2; clear B2) | (go_at_call 13; (with_reducible refine (cb _).mono ?_); rintro e W ⟨rfl, B1⟩; have B2 := H.out.trans (B1.mono H.out.size); clear H B1; have H := Lib.hid B2; clear B2))
        go_ret
        exact ⟨rfl, H.out⟩
    · obtain ⟨k2, hk2⟩ : ∃ k, cmpN M 0 = k := ⟨_, rfl⟩
      have hk20 : 0 ≤ k2 := by rw [← hk2]; exact cmp_nonneg hp
      rw [hk2] at ca
      rw [show ((M.natAbs : Nat) : Int) = M by omega] at c8
      clear bx bY bz bx2 bY2 bz2 bg bg2 hG hk hxy hGp hG0 d1 d2 q1 q2 bp bq e1 mx my mg e2 hM hp hk2 cb
      generalize S (x / (G : Int)) = A0 at *
      generalize S (y / (G : Int)) = A1 at *
      generalize S (x * z) = A2 at *
      generalize S (y * z) = A3 at *
      generalize S M = A7 at *
      generalize S (G : Int) = A8 at *
      generalize S x = X at *
      generalize S y = Y at *
      generalize S z = Z at *
      rcases hxx.out with ⟨hx0, hy0⟩ | hx0
      · clear hxx
        go_wp2_with (first | (go_at_call 17; (with_reducible refine (c0 _).mono ?_); rintro e W ⟨rfl, B1⟩; have B2 := H.out.trans (B1.mono H.out.size); clear H B1; have H := Lib.hid B2; clear B2) | (go_at_call 17; (with_reducible refine (c1 _).mono ?_); rintro e W ⟨rfl, B1⟩; have B2 := H.out.trans (B1.mono H.out.size); clear H B1; have H := Lib.hid B2; clear B2) | (go_at_call 15; (with_reducible refine (c2 _).mono ?_); rintro e W ⟨rfl, B1⟩; have B2 := H.out.trans (B1.mono H.out.size); clear H B1; have H := Lib.hid B2; clear B2) | (go_at_call 14; (with_reducible refine (c3 _).mono ?_); rintro e W ⟨rfl, B1⟩; have B2 := H.out.trans (B1.mono H.out.size); clear H B1; have H := Lib.hid B2; clear B2) | (go_at_call 14; (with_reducible refine (c4 _).mono ?_); rintro e W ⟨rfl, B1⟩; have B2 := H.out.trans (B1.mono H.out.size); clear H B1; have H := Lib.hid B2; clear B2) | (go_at_call 17; (with_reducible refine (c5 _).mono ?_); rintro e W ⟨rfl, B1⟩; have B2 := H.out.trans (B1.mono H.out.size); clear H B1; have H := Lib.hid B2; clear B2) | (go_at_call 12; (with_reducible refine (c6 _).mono ?_); rintro e W ⟨rfl, B1⟩; have B2 := H.out.trans (B1.mono H.out.size); clear H B1; have H := Lib.hid B2; clear B2) | (go_at_call 12; (with_reducible refine (c7 _).mono ?_); rintro e W ⟨rfl, B1⟩; have B2 := H.out.trans (B1.mono H.out.size); clear H B1; have H := Lib.hid B2; clear B2) | (go_at_call 17; (with_reducible refine (c8 _).mono ?_); rintro e W ⟨rfl, B1⟩; have B2 := H.out.trans (B1.mono H.out.size); clear H B1; have H := Lib.hid B2; clear B2) | (go_at_call 12; (with_reducible refine (c9 _).mono ?_); rintro e W ⟨rfl, B1⟩; have B2 := H.out.trans (B1.mono H.out.size); clear H B1; have H := Lib.hid B2; clear B2) | (go_at_call 15; (with_reducible refine (ca _).mono ?_); rintro e W ⟨rfl, B1⟩; have B2 := H.out.trans (B1.mono H.out.size); clear H B1; have H := Lib.hid B2; clear B2))
        go_ret
        exact ⟨rfl, H.out⟩
      · clear hxx
        go_wp2_with (first | (go_at_call 17; (with_reducible refine (c0 _).mono ?_); rintro e W ⟨rfl, B1⟩; have B2 := H.out.trans (B1.mono H.out.size); clear H B1; have H := Lib.hid B2; clear B2) | (go_at_call 17; (with_reducible refine (c1 _).mono ?_); rintro e W ⟨rfl, B1⟩; have B2 := H.out.trans (B1.mono H.out.size); clear H B1; have H := Lib.hid B2; clear B2) | (go_at_call 15; (with_reducible refine (c2 _).mono ?_); rintro e W ⟨rfl, B1⟩; have B2 := H.out.trans (B1.mono H.out.size); clear H B1; have H := Lib.hid B2; clear B2) | (go_at_call 14; (with_reducible refine (c3 _).mono ?_); rintro e W ⟨rfl, B1⟩; have B2 := H.out.trans (B1.mono H.out.size); clear H B1; have H := Lib.hid B2; clear B2) | (go_at_call 14; (with_reducible refine (c4 _).mono ?_); rintro e W ⟨rfl, B1⟩; have B2 := H.out.trans (B1.mono H.out.size); clear H B1; have H := Lib.hid B2; clear B2) | (go_at_call 17; (with_reducible refine (c5 _).mono ?_); rintro e W ⟨rfl, B1⟩; have B2 := H.out.trans (B1.mono H.out.size); clear H B1; have H := Lib.hid B2; clear B2) | (go_at_call 12; (with_reducible refine (c6 _).mono ?_); rintro e W ⟨rfl, B1⟩; have B2 := H.out.trans (B1.mono H.out.size); clear H B1; have H := Lib.hid B2; clear B2) | (go_at_call 12; (with_reducible refine (c7 _).mono ?_); rintro e W ⟨rfl, B1⟩; have B2 := H.out.trans (B1.mono H.out.size); clear H B1; have H := Lib.hid B2; clear B2) | (go_at_call 17; (with_reducible refine (c8 _).mono ?_); rintro e W ⟨rfl, B1⟩; have B2 := H.out.trans (B1.mono H.out.size); clear H B1; have H := Lib.hid B2; clear B2) | (go_at_call 12; (with_reducible refine (c9 _).mono ?_); rintro e W ⟨rfl, B1⟩; have B2 := H.out.trans (B1.mono H.out.size); clear H B1; have H := Lib.hid B2; clear B2) | (go_at_call 15; (with_reducible refine (ca _).mono ?_); rintro e W ⟨rfl, B1⟩; have B2 := H.out.trans (B1.mono H.out.size); clear H B1; have H := Lib.hid B2; clear B2))
        go_ret
        exact ⟨rfl, H.out⟩

theorem root_sq {s r : Nat} {x : Int} (h1 : (s : Int) * s ≤ x) (h2 : x < (s + 1) * (s + 1)) (g1 : (r : Int) * r ≤ x) (g2 : x < (r + 1) * (r + 1)) : r = s := by
  have a1 : s * s < (r + 1) * (r + 1) := by have := Int.lt_of_le_of_lt h1 g2; exact_mod_cast this
  have a2 : r * r < (s + 1) * (s + 1) := by have := Int.lt_of_le_of_lt g1 h2; exact_mod_cast this
  rcases Nat.lt_trichotomy r s with h | h | h
  · have := Nat.mul_le_mul (show r + 1 ≤ s by omega) (show r + 1 ≤ s by omega); omega
  · exact h
  · have := Nat.mul_le_mul (show s + 1 ≤ r by omega) (show s + 1 ≤ r by omega); omega
theorem Root_at (x : Int) (s : Nat) (hx : x.natAbs < 10 ^ 200) (h1 : (s : Int) * s ≤ x) (h2 : x < (s + 1) * (s + 1)) (w : World) :
    Calls Tryd.prog 18 #[.string (S x)] w fun e w' => e = .returned (.tuple #[.string (S s), .int .i64 0]) ∧ Below w.heap.size w w' := by
  have h0 : 0 ≤ x := Int.le_trans (by exact_mod_cast Nat.zero_le _) h1
  refine (Root_S x hx h0 w).mono fun e w' ⟨r, he, g1, g2, hb⟩ => ?_
  rw [root_sq h1 h2 g1 g2] at he
  exact ⟨he, hb⟩

set_option maxRecDepth 100000 in
set_option maxHeartbeats 4000000 in
theorem root_walk (s0 : ByteArray) (w : World) (hs0 : s0.size ≤ 9223372036854775807) :
    Calls Tryd.prog 6 #[.string s0] w fun e w' => e = .returned (.bool true) ∧ Below w.heap.size w w' := by
  have H := Lib.hid (Below.refl w.heap.size w)
  have cM0 := fun W => Made_I s0 80 80 rfl W (by decide) (by decide) hs0
  go_enter Tryd.func6, Tryd.ntmps6
  go_upto_region 3 with (first | (go_at_call 9; (with_reducible refine (sane_any _).mono ?_); rintro e W ⟨rfl, B1⟩; have B2 := H.out.trans (B1.mono H.out.size); clear H B1; have H := Lib.hid B2; clear B2) | (go_at_call_of 10 (Value.string s0); (with_reducible refine (cM0 _).mono ?_); rintro e W ⟨x, rfl, bx, B1⟩; have B2 := H.out.trans (B1.mono H.out.size); clear H B1; have H := Lib.hid B2; clear B2))
  clear cM0 hs0
  have bx2 := wide bx (show 80 ≤ 200 by decide)
  have bs := mulb (r := 160) bx bx (by decide)
  have bs2 := wide bs (show 160 ≤ 200 by decide)
  have c1 := fun W => Mul_S x x bx2 bx2 bs2 W
  have hsq : ((x.natAbs : Nat) : Int) * (x.natAbs : Nat) = x * x := by
    rw [← Int.natCast_mul]; exact Int.natAbs_mul_self
  have c2 := fun W => Root_at (x * x) x.natAbs bs2 (by rw [hsq]; exact Int.le_refl _) (by rw [← hsq, Int.add_mul, Int.mul_add]; omega) W
  have ba : (((x.natAbs : Nat) : Int) + x).natAbs < 10 ^ 200 := by omega
  have c3 := fun W => Add_S (x.natAbs : Nat) x (by rw [Int.natAbs_natCast]; exact bx2) bx2 ba W
  have c4 := fun W => Compare_S x 0 bx2 (by decide) W
  rw [S_zero] at c4
  rcases Int.lt_or_le x 0 with hn | hp
  · have c0 := fun W => Root_N x bx2 hn W
    rw [cmp_neg hn] at c4
    rw [show ((x.natAbs : Nat) : Int) + x = 0 by omega, S_zero] at c3
    have hne : ((S ((x.natAbs : Nat) : Int)).toList == (S x).toList) = false := by rw [S_tl, decide_eq_false (by omega)]
    clear bx bx2 bs bs2 hsq ba hn
    generalize S (x * x) = A1 at *
    generalize S ((x.natAbs : Nat) : Int) = A2 at *
    generalize S x = X at *
    go_wp2_with (first | (go_at_call 18; (with_reducible refine (c0 _).mono ?_); rintro e W ⟨rfl, B1⟩; have B2 := H.out.trans (B1.mono H.out.size); clear H B1; have H := Lib.hid B2; clear B2) | (go_at_call 12; (with_reducible refine (c1 _).mono ?_); rintro e W ⟨rfl, B1⟩; have B2 := H.out.trans (B1.mono H.out.size); clear H B1; have H := Lib.hid B2; clear B2) | (go_at_call 18; (with_reducible refine (c2 _).mono ?_); rintro e W ⟨rfl, B1⟩; have B2 := H.out.trans (B1.mono H.out.size); clear H B1; have H := Lib.hid B2; clear B2) | (go_at_call 11; (with_reducible refine (c3 _).mono ?_); rintro e W ⟨rfl, B1⟩; have B2 := H.out.trans (B1.mono H.out.size); clear H B1; have H := Lib.hid B2; clear B2) | (go_at_call 15; (with_reducible refine (c4 _).mono ?_); rintro e W ⟨rfl, B1⟩; have B2 := H.out.trans (B1.mono H.out.size); clear H B1; have H := Lib.hid B2; clear B2))
    go_ret
    exact ⟨rfl, H.out⟩
  · obtain ⟨k4, hk4⟩ : ∃ k, cmpN x 0 = k := ⟨_, rfl⟩
    have hk40 : 0 ≤ k4 := by rw [← hk4]; exact cmp_nonneg hp
    rw [hk4] at c4
    obtain ⟨s, g1, g2⟩ := sqrt_ex x.natAbs
    have i1 : (s : Int) * s ≤ x := by have h : ((s * s : Nat) : Int) ≤ (x.natAbs : Nat) := by exact_mod_cast g1
                                      rw [Int.natCast_mul] at h; omega
    have i2 : x < ((s : Int) + 1) * (s + 1) := by have h : ((x.natAbs : Nat) : Int) < (((s + 1) * (s + 1) : Nat) : Int) := by exact_mod_cast g2
                                                  rw [Int.natCast_mul, Int.natCast_add] at h; simp only [Int.natCast_one] at h; omega
    have c0 := fun W => Root_at x s bx2 i1 i2 W
    have bsx : s ≤ x.natAbs := Nat.le_trans (Nat.le_mul_self s) g1
    have br : ((s : Nat) : Int).natAbs < 10 ^ 80 := by omega
    have br1 : ((s : Int) + 1).natAbs < 10 ^ 81 := by rw [Nat.pow_succ]; omega
    have bl := mulb (r := 200) br br (by decide)
    have bh := mulb (r := 200) br1 br1 (by decide)
    have c5 := fun W => Mul_S s s (wide br (by decide)) (wide br (by decide)) bl W
    have c6 := fun W => Add_S s 1 (wide br (by decide)) (by decide) (wide br1 (by decide)) W
    have c7 := fun W => Mul_S ((s : Int) + 1) ((s : Int) + 1) (wide br1 (by decide)) (wide br1 (by decide)) bh W
    have c8 := fun W => Compare_S ((s : Int) * s) x bl bx2 W
    have c9 := fun W => Compare_S (((s : Int) + 1) * ((s : Int) + 1)) x bh bx2 W
    obtain ⟨k8, hk8⟩ : ∃ k, cmpN ((s : Int) * s) x = k := ⟨_, rfl⟩
    have hk80 : k8 ≤ 0 := by rw [← hk8]; exact cmp_nonpos i1
    rw [hk8] at c8
    rw [cmp_pos i2] at c9
    rw [S_one] at c6
    have he : S ((x.natAbs : Nat) : Int) = S x := by rw [show ((x.natAbs : Nat) : Int) = x by omega]
    rw [he] at c2 c3
    clear bx bx2 bs bs2 hsq ba hp hk4 g1 g2 i1 i2 bsx br br1 bl bh hk8 he
    generalize S (x * x) = A1 at *
    generalize S (((x.natAbs : Nat) : Int) + x) = A2 at *
    generalize S ((s : Int) * s) = A3 at *
    generalize S (((s : Int) + 1) * ((s : Int) + 1)) = A4 at *
    generalize S ((s : Int) + 1) = A5 at *
    generalize S (s : Int) = A6 at *
    generalize S x = X at *
    go_wp2_with (first | (go_at_call 18; (with_reducible refine (c0 _).mono ?_); rintro e W ⟨rfl, B1⟩; have B2 := H.out.trans (B1.mono H.out.size); clear H B1; have H := Lib.hid B2; clear B2) | (go_at_call 12; (with_reducible refine (c1 _).mono ?_); rintro e W ⟨rfl, B1⟩; have B2 := H.out.trans (B1.mono H.out.size); clear H B1; have H := Lib.hid B2; clear B2) | (go_at_call 18; (with_reducible refine (c2 _).mono ?_); rintro e W ⟨rfl, B1⟩; have B2 := H.out.trans (B1.mono H.out.size); clear H B1; have H := Lib.hid B2; clear B2) | (go_at_call 11; (with_reducible refine (c3 _).mono ?_); rintro e W ⟨rfl, B1⟩; have B2 := H.out.trans (B1.mono H.out.size); clear H B1; have H := Lib.hid B2; clear B2) | (go_at_call 15; (with_reducible refine (c4 _).mono ?_); rintro e W ⟨rfl, B1⟩; have B2 := H.out.trans (B1.mono H.out.size); clear H B1; have H := Lib.hid B2; clear B2) | (go_at_call 12; (with_reducible refine (c5 _).mono ?_); rintro e W ⟨rfl, B1⟩; have B2 := H.out.trans (B1.mono H.out.size); clear H B1; have H := Lib.hid B2; clear B2) | (go_at_call 11; (with_reducible refine (c6 _).mono ?_); rintro e W ⟨rfl, B1⟩; have B2 := H.out.trans (B1.mono H.out.size); clear H B1; have H := Lib.hid B2; clear B2) | (go_at_call 12; (with_reducible refine (c7 _).mono ?_); rintro e W ⟨rfl, B1⟩; have B2 := H.out.trans (B1.mono H.out.size); clear H B1; have H := Lib.hid B2; clear B2) | (go_at_call 15; (with_reducible refine (c8 _).mono ?_); rintro e W ⟨rfl, B1⟩; have B2 := H.out.trans (B1.mono H.out.size); clear H B1; have H := Lib.hid B2; clear B2) | (go_at_call 15; (with_reducible refine (c9 _).mono ?_); rintro e W ⟨rfl, B1⟩; have B2 := H.out.trans (B1.mono H.out.size); clear H B1; have H := Lib.hid B2; clear B2))
    go_ret
    exact ⟨rfl, H.out⟩

set_option maxRecDepth 100000 in
set_option maxHeartbeats 4000000 in
theorem order_walk (s0 s1 s2 : ByteArray) (w : World) (hs0 : s0.size ≤ 9223372036854775807) (hs1 : s1.size ≤ 9223372036854775807) (hs2 : s2.size ≤ 9223372036854775807) :
    Calls Tryd.prog 7 #[.string s0, .string s1, .string s2] w fun e w' => e = .returned (.bool true) ∧ Below w.heap.size w w' := by
  have H := Lib.hid (Below.refl w.heap.size w)
  have cM0 := fun W => Made_I s0 60 60 rfl W (by decide) (by decide) hs0
  have cM1 := fun W => Made_I s1 60 60 rfl W (by decide) (by decide) hs1
  have cM2 := fun W => Made_I s2 60 60 rfl W (by decide) (by decide) hs2
  go_enter Tryd.func7, Tryd.ntmps7
  go_upto_region 5 with (first | (go_at_call 9; (with_reducible refine (sane_any _).mono ?_); rintro e W ⟨rfl, B1⟩; have B2 := H.out.trans (B1.mono H.out.size); clear H B1; have H := Lib.hid B2; clear B2) | (go_at_call_of 10 (Value.string s0); (with_reducible refine (cM0 _).mono ?_); rintro e W ⟨x, rfl, bx, B1⟩; have B2 := H.out.trans (B1.mono H.out.size); clear H B1; have H := Lib.hid B2; clear B2) | (go_at_call_of 10 (Value.string s1); (with_reducible refine (cM1 _).mono ?_); rintro e W ⟨y, rfl, bY, B1⟩; have B2 := H.out.trans (B1.mono H.out.size); clear H B1; have H := Lib.hid B2; clear B2) | (go_at_call_of 10 (Value.string s2); (with_reducible refine (cM2 _).mono ?_); rintro e W ⟨z, rfl, bz, B1⟩; have B2 := H.out.trans (B1.mono H.out.size); clear H B1; have H := Lib.hid B2; clear B2))
  clear cM0 cM1 cM2 hs0 hs1 hs2
  have bx2 := wide bx (show 60 ≤ 200 by decide)
  have bY2 := wide bY (show 60 ≤ 200 by decide)
  have bz2 := wide bz (show 60 ≤ 200 by decide)
  have dxy := wide (subb bx bY) (show 61 ≤ 200 by decide)
  have dxz := wide (addb bx bz) (show 61 ≤ 200 by decide)
  have dyz := wide (addb bY bz) (show 61 ≤ 200 by decide)
  have c0 := fun W => Compare_S x y bx2 bY2 W
  have c1 := fun W => Sub_S x y bx2 bY2 dxy W
  have c2 := fun W => Add_S x z bx2 bz2 dxz W
  have c3 := fun W => Add_S y z bY2 bz2 dyz W
  have c4 := fun W => Compare_S y x bY2 bx2 W
  have c5 := fun W => Compare_S (x - y) 0 dxy (by decide) W
  have c6 := fun W => Compare_S (x + z) (y + z) dxz dyz W
  have c7 := fun W => Compare_S y z bY2 bz2 W
  have c8 := fun W => Compare_S x z bx2 bz2 W
  have hxy := S_tl x y
  rw [S_zero] at c5
  rcases Int.lt_trichotomy x y with h | h | h
  · rw [cmp_neg (show (x : Int) < y by omega)] at c0
    rw [cmp_pos h] at c4
    rw [cmp_neg (show (x - y : Int) < 0 by omega)] at c5
    rw [cmp_neg (show (x + z : Int) < y + z by omega)] at c6
    rw [decide_eq_false (by omega)] at hxy
    rcases Int.lt_or_le z y with h7 | h7
    · rw [cmp_pos h7] at c7
      clear bx bY bz bx2 bY2 bz2 dxy dxz dyz h h7 c8
      generalize S (x - y) = A0 at *
      generalize S (x + z) = A1 at *
      generalize S (y + z) = A2 at *
      generalize S x = X at *
      generalize S y = Y at *
      generalize S z = Z at *
      go_wp2_with (first | (go_at_call 15; (with_reducible refine (c0 _).mono ?_); rintro e W ⟨rfl, B1⟩; have B2 := H.out.trans (B1.mono H.out.size); clear H B1; have H := Lib.hid B2; clear B2) | (go_at_call 13; (with_reducible refine (c1 _).mono ?_); rintro e W ⟨rfl, B1⟩; have B2 := H.out.trans (B1.mono H.out.size); clear H B1; have H := Lib.hid B2; clear B2) | (go_at_call 11; (with_reducible refine (c2 _).mono ?_); rintro e W ⟨rfl, B1⟩; have B2 := H.out.trans (B1.mono H.out.size); clear H B1; have H := Lib.hid B2; clear B2) | (go_at_call 11; (with_reducible refine (c3 _).mono ?_); rintro e W ⟨rfl, B1⟩; have B2 := H.out.trans (B1.mono H.out.size); clear H B1; have H := Lib.hid B2; clear B2) | (go_at_call 15; (with_reducible refine (c4 _).mono ?_); rintro e W ⟨rfl, B1⟩; have B2 := H.out.trans (B1.mono H.out.size); clear H B1; have H := Lib.hid B2; clear B2) | (go_at_call 15; (with_reducible refine (c5 _).mono ?_); rintro e W ⟨rfl, B1⟩; have B2 := H.out.trans (B1.mono H.out.size); clear H B1; have H := Lib.hid B2; clear B2) | (go_at_call 15; (with_reducible refine (c6 _).mono ?_); rintro e W ⟨rfl, B1⟩; have B2 := H.out.trans (B1.mono H.out.size); clear H B1; have H := Lib.hid B2; clear B2) | (go_at_call 15; (with_reducible refine (c7 _).mono ?_); rintro e W ⟨rfl, B1⟩; have B2 := H.out.trans (B1.mono H.out.size); clear H B1; have H := Lib.hid B2; clear B2) | (go_at_call 15; (with_reducible refine (c7 _).mono ?_); rintro e W ⟨rfl, B1⟩; have B2 := H.out.trans (B1.mono H.out.size); clear H B1; have H := Lib.hid B2; clear B2))
      go_ret
      exact ⟨rfl, H.out⟩
    · obtain ⟨k7, hk7⟩ : ∃ k, cmpN y z = k := ⟨_, rfl⟩
      have hk70 : k7 ≤ 0 := by rw [← hk7]; exact cmp_nonpos h7
      obtain ⟨k8, hk8⟩ : ∃ k, cmpN x z = k := ⟨_, rfl⟩
      have hk80 : k8 ≤ 0 := by rw [← hk8]; exact cmp_nonpos (by omega)
      rw [hk7] at c7
      rw [hk8] at c8
      clear bx bY bz bx2 bY2 bz2 dxy dxz dyz h h7 hk7 hk8
      generalize S (x - y) = A0 at *
      generalize S (x + z) = A1 at *
      generalize S (y + z) = A2 at *
      generalize S x = X at *
      generalize S y = Y at *
      generalize S z = Z at *
      go_wp2_with (first | (go_at_call 15; (with_reducible refine (c0 _).mono ?_); rintro e W ⟨rfl, B1⟩; have B2 := H.out.trans (B1.mono H.out.size); clear H B1; have H := Lib.hid B2; clear B2) | (go_at_call 13; (with_reducible refine (c1 _).mono ?_); rintro e W ⟨rfl, B1⟩; have B2 := H.out.trans (B1.mono H.out.size); clear H B1; have H := Lib.hid B2; clear B2) | (go_at_call 11; (with_reducible refine (c2 _).mono ?_); rintro e W ⟨rfl, B1⟩; have B2 := H.out.trans (B1.mono H.out.size); clear H B1; have H := Lib.hid B2; clear B2) | (go_at_call 11; (with_reducible refine (c3 _).mono ?_); rintro e W ⟨rfl, B1⟩; have B2 := H.out.trans (B1.mono H.out.size); clear H B1; have H := Lib.hid B2; clear B2) | (go_at_call 15; (with_reducible refine (c4 _).mono ?_); rintro e W ⟨rfl, B1⟩; have B2 := H.out.trans (B1.mono H.out.size); clear H B1; have H := Lib.hid B2; clear B2) | (go_at_call 15; (with_reducible refine (c5 _).mono ?_); rintro e W ⟨rfl, B1⟩; have B2 := H.out.trans (B1.mono H.out.size); clear H B1; have H := Lib.hid B2; clear B2) | (go_at_call 15; (with_reducible refine (c6 _).mono ?_); rintro e W ⟨rfl, B1⟩; have B2 := H.out.trans (B1.mono H.out.size); clear H B1; have H := Lib.hid B2; clear B2) | (go_at_call 15; (with_reducible refine (c7 _).mono ?_); rintro e W ⟨rfl, B1⟩; have B2 := H.out.trans (B1.mono H.out.size); clear H B1; have H := Lib.hid B2; clear B2) | (go_at_call 15; (with_reducible refine (c8 _).mono ?_); rintro e W ⟨rfl, B1⟩; have B2 := H.out.trans (B1.mono H.out.size); clear H B1; have H := Lib.hid B2; clear B2))
      go_ret
      exact ⟨rfl, H.out⟩
  · rw [show cmpN x y = 0 by rw [h]; exact cmp_zero y] at c0
    rw [show cmpN y x = 0 by rw [h]; exact cmp_zero y] at c4
    rw [show cmpN (x - y) 0 = 0 by rw [h, Int.sub_self]; rfl] at c5
    rw [show cmpN (x + z) (y + z) = 0 by rw [h]; exact cmp_zero _] at c6
    rw [decide_eq_true h] at hxy
    rcases Int.lt_or_le z y with h7 | h7
    · rw [cmp_pos h7] at c7
      clear bx bY bz bx2 bY2 bz2 dxy dxz dyz h h7 c8
      generalize S (x - y) = A0 at *
      generalize S (x + z) = A1 at *
      generalize S (y + z) = A2 at *
      generalize S x = X at *
      generalize S y = Y at *
      generalize S z = Z at *
      go_wp2_with (first | (go_at_call 15; (with_reducible refine (c0 _).mono ?_); rintro e W ⟨rfl, B1⟩; have B2 := H.out.trans (B1.mono H.out.size); clear H B1; have H := Lib.hid B2; clear B2) | (go_at_call 13; (with_reducible refine (c1 _).mono ?_); rintro e W ⟨rfl, B1⟩; have B2 := H.out.trans (B1.mono H.out.size); clear H B1; have H := Lib.hid B2; clear B2) | (go_at_call 11; (with_reducible refine (c2 _).mono ?_); rintro e W ⟨rfl, B1⟩; have B2 := H.out.trans (B1.mono H.out.size); clear H B1; have H := Lib.hid B2; clear B2) | (go_at_call 11; (with_reducible refine (c3 _).mono ?_); rintro e W ⟨rfl, B1⟩; have B2 := H.out.trans (B1.mono H.out.size); clear H B1; have H := Lib.hid B2; clear B2) | (go_at_call 15; (with_reducible refine (c4 _).mono ?_); rintro e W ⟨rfl, B1⟩; have B2 := H.out.trans (B1.mono H.out.size); clear H B1; have H := Lib.hid B2; clear B2) | (go_at_call 15; (with_reducible refine (c5 _).mono ?_); rintro e W ⟨rfl, B1⟩; have B2 := H.out.trans (B1.mono H.out.size); clear H B1; have H := Lib.hid B2; clear B2) | (go_at_call 15; (with_reducible refine (c6 _).mono ?_); rintro e W ⟨rfl, B1⟩; have B2 := H.out.trans (B1.mono H.out.size); clear H B1; have H := Lib.hid B2; clear B2) | (go_at_call 15; (with_reducible refine (c7 _).mono ?_); rintro e W ⟨rfl, B1⟩; have B2 := H.out.trans (B1.mono H.out.size); clear H B1; have H := Lib.hid B2; clear B2) | (go_at_call 15; (with_reducible refine (c7 _).mono ?_); rintro e W ⟨rfl, B1⟩; have B2 := H.out.trans (B1.mono H.out.size); clear H B1; have H := Lib.hid B2; clear B2))
      go_ret
      exact ⟨rfl, H.out⟩
    · obtain ⟨k7, hk7⟩ : ∃ k, cmpN y z = k := ⟨_, rfl⟩
      have hk70 : k7 ≤ 0 := by rw [← hk7]; exact cmp_nonpos h7
      obtain ⟨k8, hk8⟩ : ∃ k, cmpN x z = k := ⟨_, rfl⟩
      have hk80 : k8 ≤ 0 := by rw [← hk8]; exact cmp_nonpos (by omega)
      rw [hk7] at c7
      rw [hk8] at c8
      clear bx bY bz bx2 bY2 bz2 dxy dxz dyz h h7 hk7 hk8
      generalize S (x - y) = A0 at *
      generalize S (x + z) = A1 at *
      generalize S (y + z) = A2 at *
      generalize S x = X at *
      generalize S y = Y at *
      generalize S z = Z at *
      go_wp2_with (first | (go_at_call 15; (with_reducible refine (c0 _).mono ?_); rintro e W ⟨rfl, B1⟩; have B2 := H.out.trans (B1.mono H.out.size); clear H B1; have H := Lib.hid B2; clear B2) | (go_at_call 13; (with_reducible refine (c1 _).mono ?_); rintro e W ⟨rfl, B1⟩; have B2 := H.out.trans (B1.mono H.out.size); clear H B1; have H := Lib.hid B2; clear B2) | (go_at_call 11; (with_reducible refine (c2 _).mono ?_); rintro e W ⟨rfl, B1⟩; have B2 := H.out.trans (B1.mono H.out.size); clear H B1; have H := Lib.hid B2; clear B2) | (go_at_call 11; (with_reducible refine (c3 _).mono ?_); rintro e W ⟨rfl, B1⟩; have B2 := H.out.trans (B1.mono H.out.size); clear H B1; have H := Lib.hid B2; clear B2) | (go_at_call 15; (with_reducible refine (c4 _).mono ?_); rintro e W ⟨rfl, B1⟩; have B2 := H.out.trans (B1.mono H.out.size); clear H B1; have H := Lib.hid B2; clear B2) | (go_at_call 15; (with_reducible refine (c5 _).mono ?_); rintro e W ⟨rfl, B1⟩; have B2 := H.out.trans (B1.mono H.out.size); clear H B1; have H := Lib.hid B2; clear B2) | (go_at_call 15; (with_reducible refine (c6 _).mono ?_); rintro e W ⟨rfl, B1⟩; have B2 := H.out.trans (B1.mono H.out.size); clear H B1; have H := Lib.hid B2; clear B2) | (go_at_call 15; (with_reducible refine (c7 _).mono ?_); rintro e W ⟨rfl, B1⟩; have B2 := H.out.trans (B1.mono H.out.size); clear H B1; have H := Lib.hid B2; clear B2) | (go_at_call 15; (with_reducible refine (c8 _).mono ?_); rintro e W ⟨rfl, B1⟩; have B2 := H.out.trans (B1.mono H.out.size); clear H B1; have H := Lib.hid B2; clear B2))
      go_ret
      exact ⟨rfl, H.out⟩
  · rw [cmp_pos (show (y : Int) < x by omega)] at c0
    rw [cmp_neg h] at c4
    rw [cmp_pos (show (0 : Int) < x - y by omega)] at c5
    rw [cmp_pos (show (y + z : Int) < x + z by omega)] at c6
    rw [decide_eq_false (by omega)] at hxy
    clear bx bY bz bx2 bY2 bz2 dxy dxz dyz h c7 c8
    generalize S (x - y) = A0 at *
    generalize S (x + z) = A1 at *
    generalize S (y + z) = A2 at *
    generalize S x = X at *
    generalize S y = Y at *
    generalize S z = Z at *
    go_wp2_with (first | (go_at_call 15; (with_reducible refine (c0 _).mono ?_); rintro e W ⟨rfl, B1⟩; have B2 := H.out.trans (B1.mono H.out.size); clear H B1; have H := Lib.hid B2; clear B2) | (go_at_call 13; (with_reducible refine (c1 _).mono ?_); rintro e W ⟨rfl, B1⟩; have B2 := H.out.trans (B1.mono H.out.size); clear H B1; have H := Lib.hid B2; clear B2) | (go_at_call 11; (with_reducible refine (c2 _).mono ?_); rintro e W ⟨rfl, B1⟩; have B2 := H.out.trans (B1.mono H.out.size); clear H B1; have H := Lib.hid B2; clear B2) | (go_at_call 11; (with_reducible refine (c3 _).mono ?_); rintro e W ⟨rfl, B1⟩; have B2 := H.out.trans (B1.mono H.out.size); clear H B1; have H := Lib.hid B2; clear B2) | (go_at_call 15; (with_reducible refine (c4 _).mono ?_); rintro e W ⟨rfl, B1⟩; have B2 := H.out.trans (B1.mono H.out.size); clear H B1; have H := Lib.hid B2; clear B2) | (go_at_call 15; (with_reducible refine (c5 _).mono ?_); rintro e W ⟨rfl, B1⟩; have B2 := H.out.trans (B1.mono H.out.size); clear H B1; have H := Lib.hid B2; clear B2) | (go_at_call 15; (with_reducible refine (c6 _).mono ?_); rintro e W ⟨rfl, B1⟩; have B2 := H.out.trans (B1.mono H.out.size); clear H B1; have H := Lib.hid B2; clear B2) | (go_at_call 15; (with_reducible refine (c6 _).mono ?_); rintro e W ⟨rfl, B1⟩; have B2 := H.out.trans (B1.mono H.out.size); clear H B1; have H := Lib.hid B2; clear B2) | (go_at_call 15; (with_reducible refine (c6 _).mono ?_); rintro e W ⟨rfl, B1⟩; have B2 := H.out.trans (B1.mono H.out.size); clear H B1; have H := Lib.hid B2; clear B2))
    go_ret
    exact ⟨rfl, H.out⟩
end Go.Proofs.YtbdiofifjckceaaDoor
