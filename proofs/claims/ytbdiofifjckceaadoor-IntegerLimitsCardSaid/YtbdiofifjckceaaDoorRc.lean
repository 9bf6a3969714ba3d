/- The walks of laws: division. -/
import Derived.Test.YtbdiofifjckceaaDoorRb
namespace Go.Proofs.YtbdiofifjckceaaDoor
open Go.RowKit

theorem S_l0 (a : Int) : ((S a).toList == [48]) = decide (a = 0) := by
  have h := S_tl a 0
  rw [← h, S_zero, ByteArray.toList_eq ⟨#[48]⟩]
theorem S_l1 (a : Int) : ((S a).toList == [49]) = decide (a = 1) := by
  have h := S_tl a 1
  rw [← h, S_one, ByteArray.toList_eq ⟨#[49]⟩]

set_option maxRecDepth 100000 in
set_option maxHeartbeats 4000000 in
theorem divided_walk (s0 s1 : ByteArray) (w : World) (hs0 : s0.size ≤ 9223372036854775807) (hs1 : s1.size ≤ 9223372036854775807) :
    Calls Tryd.prog 4 #[.string s0, .string s1] w fun e w' => e = .returned (.bool true) ∧ Below w.heap.size w w' := by
  have H := Lib.hid (Below.refl w.heap.size w)
  have cM0 := fun W => Made_I s0 90 90 rfl W (by decide) (by decide) hs0
  have cM1 := fun W => Made_I s1 60 60 rfl W (by decide) (by decide) hs1
  go_enter Tryd.func4, Tryd.ntmps4
  go_upto_region 4 with (first | (go_at_call 9; (with_reducible refine (sane_any _).mono ?_); rintro e W ⟨rfl, B1⟩; have B2 := H.out.trans (B1.mono H.out.size); clear H B1; have H := Lib.hid B2; clear B2) | (go_at_call_of 10 (Value.string s0); (with_reducible refine (cM0 _).mono ?_); rintro e W ⟨x, rfl, bx, B1⟩; have B2 := H.out.trans (B1.mono H.out.size); clear H B1; have H := Lib.hid B2; clear B2) | (go_at_call_of 10 (Value.string s1); (with_reducible refine (cM1 _).mono ?_); rintro e W ⟨y, rfl, bY, B1⟩; have B2 := H.out.trans (B1.mono H.out.size); clear H B1; have H := Lib.hid B2; clear B2))
  clear cM0 cM1 hs0 hs1
  have bx2 := wide bx (show 90 ≤ 200 by decide)
  have bY2 := wide bY (show 60 ≤ 200 by decide)
  by_cases h0 : y = 0
  · subst h0
    have c0 := fun W => Div_Z x bx2 W
    rw [S_zero] at c0 ⊢
    clear bx bY bx2 bY2
    go_wp2_with (first | (go_at_call 14; (with_reducible refine (c0 _).mono ?_); rintro e W ⟨rfl, B1⟩; have B2 := H.out.trans (B1.mono H.out.size); clear H B1; have H := Lib.hid B2; clear B2))
    go_ret
    exact ⟨rfl, H.out⟩
  · have hd := Int.emod_add_mul_ediv x y
    have hr0 := Int.emod_nonneg x h0
    have hr1 := Int.emod_lt x h0
    have hq := Int.natAbs_ediv_le_natAbs x y
    have hm1 := Int.mul_ediv_cancel x h0
    have hm2 := Int.mul_emod_left x y
    have br : (x % y).natAbs < 10 ^ 200 := by omega
    have bq : (x / y).natAbs < 10 ^ 200 := by omega
    have bqy : (x / y * y).natAbs < 10 ^ 200 := by
      have e : x / y * y = x - x % y := by rw [Int.mul_comm]; omega
      rw [e]
      have := subb (p := 100) (a := x) (b := x % y) (wide bx (by decide)) (by have := wide bY (show 60 ≤ 100 by decide); omega)
      exact wide this (by decide)
    have bm := mulb (r := 200) bx bY (by decide)
    have c0 := fun W => Div_S x y bx2 bY2 h0 W
    have c1 := fun W => Mul_S (x / y) y bq bY2 bqy W
    have c2 := fun W => Add_S (x / y * y) (x % y) bqy br (by rw [Int.mul_comm, Int.add_comm, hd]; exact bx2) W
    rw [show x / y * y + x % y = x by rw [Int.mul_comm, Int.add_comm, hd]] at c2
    have c3 := fun W => Mul_S y 1 bY2 (by decide) (by rw [Int.mul_one]; exact bY2) W
    rw [Int.mul_one, S_one] at c3
    have c4 := fun W => Compare_S y 0 bY2 (by decide) W
    have c5 := fun W => Sub_S 0 y (by decide) bY2 (by rw [Int.zero_sub, Int.natAbs_neg]; exact bY2) W
    have c6 := fun W => Mul_S x y bx2 bY2 bm W
    have c7 := fun W => Div_S (x * y) y bm bY2 h0 W
    rw [hm1, hm2] at c7
    have c8 := fun W => Compare_S (x % y) 0 br (by decide) W
    have c9 := fun W => Valid_S (x % y) br W
    obtain ⟨k, hk⟩ : ∃ k, cmpN (x % y) 0 = k := ⟨_, rfl⟩
    have hk0 : 0 ≤ k := by rw [← hk, cmpN, if_neg (by omega)]; split <;> omega
    have hy0 : ((S y).toList == [48]) = false := by rw [S_l0, decide_eq_false h0]
    rw [S_zero] at c4 c5 c7 c8
    rw [hk] at c8
    rw [Int.zero_sub] at c5
    rcases Int.lt_or_gt_of_ne h0 with hn | hp
    · have ca := fun W => Compare_S (x % y) (-y) br (by rw [Int.natAbs_neg]; exact bY2) W
      rw [show cmpN (x % y) (-y) = -1 by rw [cmpN, if_pos (by omega)]] at ca
      rw [show cmpN y 0 = -1 by rw [cmpN, if_pos (by omega)]] at c4
      clear bx bY bx2 bY2 h0 hd hr0 hr1 hq hm1 hm2 br bq bqy bm hk hn
      generalize S (x / y * y) = A0 at *
      generalize S (x / y) = A1 at *
      generalize S (x % y) = A2 at *
      generalize S (x * y) = A3 at *
      generalize S (-y) = A9 at *
      generalize S y = Y at *
      generalize S x = X at *
      go_wp2_with (first | (go_at_call 14; (with_reducible refine (c0 _).mono ?_); rintro e W ⟨rfl, B1⟩; have B2 := H.out.trans (B1.mono H.out.size); clear H B1; have H := Lib.hid B2; clear B2) | (go_at_call 12; (with_reducible refine (c1 _).mono ?_); rintro e W ⟨rfl, B1⟩; have B2 := H.out.trans (B1.mono H.out.size); clear H B1; have H := Lib.hid B2; clear B2) | (go_at_call 11; (with_reducible refine (c2 _).mono ?_); rintro e W ⟨rfl, B1⟩; have B2 := H.out.trans (B1.mono H.out.size); clear H B1; have H := Lib.hid B2; clear B2) | (go_at_call 12; (with_reducible refine (c3 _).mono ?_); rintro e W ⟨rfl, B1⟩; have B2 := H.out.trans (B1.mono H.out.size); clear H B1; have H := Lib.hid B2; clear B2) | (go_at_call 15; (with_reducible refine (c4 _).mono ?_); rintro e W ⟨rfl, B1⟩; have B2 := H.out.trans (B1.mono H.out.size); clear H B1; have H := Lib.hid B2; clear B2) | (go_at_call 12; (with_reducible refine (c6 _).mono ?_); rintro e W ⟨rfl, B1⟩; have B2 := H.out.trans (B1.mono H.out.size); clear H B1; have H := Lib.hid B2; clear B2) | (go_at_call 14; (with_reducible refine (c7 _).mono ?_); rintro e W ⟨rfl, B1⟩; have B2 := H.out.trans (B1.mono H.out.size); clear H B1; have H := Lib.hid B2; clear B2) | (go_at_call 15; (with_reducible refine (c8 _).mono ?_); rintro e W ⟨rfl, B1⟩; have B2 := H.out.trans (B1.mono H.out.size); clear H B1; have H := Lib.hid B2; clear B2) | (go_at_call 15; (with_reducible refine (ca _).mono ?_); rintro e W ⟨rfl, B1⟩; have B2 := H.out.trans (B1.mono H.out.size); clear H B1; have H := Lib.hid B2; clear B2) | (go_at_call 16; (with_reducible refine (c9 _).mono ?_); rintro e W ⟨rfl, B1⟩; have B2 := H.out.trans (B1.mono H.out.size); clear H B1; have H := Lib.hid B2; clear B2) | (go_at_call 13; (with_reducible refine (c5 _).mono ?_); rintro e W ⟨rfl, B1⟩; have B2 := H.out.trans (B1.mono H.out.size); clear H B1; have H := Lib.hid B2; clear B2))
      go_ret
      exact ⟨rfl, H.out⟩
    · have ca := fun W => Compare_S (x % y) y br bY2 W
      rw [show cmpN (x % y) y = -1 by rw [cmpN, if_pos (by omega)]] at ca
      rw [show cmpN y 0 = 1 by rw [cmpN, if_neg (by omega), if_pos (by omega)]] at c4
      clear bx bY bx2 bY2 h0 hd hr0 hr1 hq hm1 hm2 br bq bqy bm hk hp c5
      generalize S (x / y * y) = A0 at *
      generalize S (x / y) = A1 at *
      generalize S (x % y) = A2 at *
      generalize S (x * y) = A3 at *
      generalize S y = Y at *
      generalize S x = X at *
      go_wp2_with (first | (go_at_call 14; (with_reducible refine (c0 _).mono ?_); rintro e W ⟨rfl, B1⟩; have B2 := H.out.trans (B1.mono H.out.size); clear H B1; have H := Lib.hid B2; clear B2) | (go_at_call 12; (with_reducible refine (c1 _).mono ?_); rintro e W ⟨rfl, B1⟩; have B2 := H.out.trans (B1.mono H.out.size); clear H B1; have H := Lib.hid B2; clear B2) | (go_at_call 11; (with_reducible refine (c2 _).mono ?_); rintro e W ⟨rfl, B1⟩; have B2 := H.out.trans (B1.mono H.out.size); clear H B1; have H := Lib.hid B2; clear B2) | (go_at_call 12; (with_reducible refine (c3 _).mono ?_); rintro e W ⟨rfl, B1⟩; have B2 := H.out.trans (B1.mono H.out.size); clear H B1; have H := Lib.hid B2; clear B2) | (go_at_call 15; (with_reducible refine (c4 _).mono ?_); rintro e W ⟨rfl, B1⟩; have B2 := H.out.trans (B1.mono H.out.size); clear H B1; have H := Lib.hid B2; clear B2) | (go_at_call 12; (with_reducible refine (c6 _).mono ?_); rintro e W ⟨rfl, B1⟩; have B2 := H.out.trans (B1.mono H.out.size); clear H B1; have H := Lib.hid B2; clear B2) | (go_at_call 14; (with_reducible refine (c7 _).mono ?_); rintro e W ⟨rfl, B1⟩; have B2 := H.out.trans (B1.mono H.out.size); clear H B1; have H := Lib.hid B2; clear B2) | (go_at_call 15; (with_reducible refine (c8 _).mono ?_); rintro e W ⟨rfl, B1⟩; have B2 := H.out.trans (B1.mono H.out.size); clear H B1; have H := Lib.hid B2; clear B2) | (go_at_call 15; (with_reducible refine (ca _).mono ?_); rintro e W ⟨rfl, B1⟩; have B2 := H.out.trans (B1.mono H.out.size); clear H B1; have H := Lib.hid B2; clear B2) | (go_at_call 16; (with_reducible refine (c9 _).mono ?_); rintro e W ⟨rfl, B1⟩; have B2 := H.out.trans (B1.mono H.out.size); clear H B1; have H := Lib.hid B2; clear B2))
      go_ret
      exact ⟨rfl, H.out⟩
end Go.Proofs.YtbdiofifjckceaaDoor
