/- The walks of laws. -/
import Derived.Test.YtbdiofifjckceaaDoorRa
namespace Go.Proofs.YtbdiofifjckceaaDoor
open Go.RowKit

theorem S_tl (a b : Int) : ((S a).toList == (S b).toList) = decide (a = b) := by
  rw [ByteArray.toList_eq, ByteArray.toList_eq, S_list, S_list]
  by_cases h : a = b
  · subst h; simp
  · rw [decide_eq_false h, beq_eq_false_iff_ne]
    exact fun e => h (txt_inj e)

theorem Made_I (s : ByteArray) (m : Int) (most : Nat) (hm : m = most) (w : World) (h9 : most ≤ 200) (h0 : 0 < most) (hs : s.size ≤ 9223372036854775807) :
    Calls Tryd.prog 10 #[.string s, .int .i64 m] w fun e w' => ∃ z : Int, e = .returned (.string (S z)) ∧ z.natAbs < 10 ^ most ∧ Below w.heap.size w w' := by
  subst hm; exact Made_any s most w h9 h0 hs

set_option maxRecDepth 100000 in
set_option maxHeartbeats 4000000 in
theorem ring_walk (s0 s1 s2 : ByteArray) (w : World) (hs0 : s0.size ≤ 9223372036854775807) (hs1 : s1.size ≤ 9223372036854775807) (hs2 : s2.size ≤ 9223372036854775807) :
    Calls Tryd.prog 3 #[.string s0, .string s1, .string s2] w fun e w' => e = .returned (.bool true) ∧ Below w.heap.size w w' := by
  have H := Lib.hid (Below.refl w.heap.size w)
  have cM0 := fun W => Made_I s0 60 60 rfl W (by decide) (by decide) hs0
  have cM1 := fun W => Made_I s1 60 60 rfl W (by decide) (by decide) hs1
  have cM2 := fun W => Made_I s2 60 60 rfl W (by decide) (by decide) hs2
  go_enter Tryd.func3, Tryd.ntmps3
  go_upto_region 5 with (first | (go_at_call 9; (with_reducible refine (sane_any _).mono ?_); rintro e W ⟨rfl, B1⟩; have B2 := H.out.trans (B1.mono H.out.size); clear H B1; have H := Lib.hid B2; clear B2) | (go_at_call_of 10 (Value.string s0); (with_reducible refine (cM0 _).mono ?_); rintro e W ⟨x, rfl, bx, B1⟩; have B2 := H.out.trans (B1.mono H.out.size); clear H B1; have H := Lib.hid B2; clear B2) | (go_at_call_of 10 (Value.string s1); (with_reducible refine (cM1 _).mono ?_); rintro e W ⟨y, rfl, bY, B1⟩; have B2 := H.out.trans (B1.mono H.out.size); clear H B1; have H := Lib.hid B2; clear B2) | (go_at_call_of 10 (Value.string s2); (with_reducible refine (cM2 _).mono ?_); rintro e W ⟨z, rfl, bz, B1⟩; have B2 := H.out.trans (B1.mono H.out.size); clear H B1; have H := Lib.hid B2; clear B2))
  clear cM0 cM1 cM2 hs0 hs1 hs2
  have bx2 := wide bx (show 60 ≤ 200 by decide)
  have bY2 := wide bY (show 60 ≤ 200 by decide)
  have bz2 := wide bz (show 60 ≤ 200 by decide)
  have bxy := addb bx bY
  have byz := addb bY bz
  have bxyz := addb bxy (wide bz (show 60 ≤ 61 by decide))
  have dxy := subb bx bY
  have mxy := mulb (r := 120) bx bY (by decide)
  have myz := mulb (r := 120) bY bz (by decide)
  have mxz := mulb (r := 120) bx bz (by decide)
  have mxyz := mulb (r := 180) mxy bz (by decide)
  have mxyz' := mulb (r := 180) bx myz (by decide)
  have sxz := addb mxz myz
  have mxyz2 := mulb (r := 121) bxy bz (by decide)
  have c0 := fun W => Add_S x y bx2 bY2 (wide bxy (by decide)) W
  have c1 := fun W => Add_S y x bY2 bx2 (by rw [Int.add_comm]; exact wide bxy (by decide)) W
  rw [Int.add_comm y x] at c1
  have c2 := fun W => Add_S (x + y) z (wide bxy (by decide)) bz2 (wide bxyz (by decide)) W
  have c3 := fun W => Add_S y z bY2 bz2 (wide byz (by decide)) W
  have c4 := fun W => Add_S x (y + z) bx2 (wide byz (by decide)) (by rw [← Int.add_assoc]; exact wide bxyz (by decide)) W
  rw [(Int.add_assoc x y z).symm] at c4
  have c5 := fun W => Mul_S x y bx2 bY2 (wide mxy (by decide)) W
  have c6 := fun W => Mul_S y x bY2 bx2 (by rw [Int.mul_comm]; exact wide mxy (by decide)) W
  rw [Int.mul_comm y x] at c6
  have c7 := fun W => Mul_S (x * y) z (wide mxy (by decide)) bz2 (wide mxyz (by decide)) W
  have c8 := fun W => Mul_S y z bY2 bz2 (wide myz (by decide)) W
  have c9 := fun W => Mul_S x (y * z) bx2 (wide myz (by decide)) (wide mxyz' (by decide)) W
  rw [(Int.mul_assoc x y z).symm] at c9
  have c10 := fun W => Mul_S (x + y) z (wide bxy (by decide)) bz2 (wide mxyz2 (by decide)) W
  rw [Int.add_mul x y z] at c10
  have c11 := fun W => Mul_S x z bx2 bz2 (wide mxz (by decide)) W
  have c12 := fun W => Add_S (x * z) (y * z) (wide mxz (by decide)) (wide myz (by decide)) (wide sxz (by decide)) W
  have c13 := fun W => Sub_S x y bx2 bY2 (wide dxy (by decide)) W
  have c14 := fun W => Add_S (x - y) y (wide dxy (by decide)) bY2 (by rw [Int.sub_add_cancel]; exact bx2) W
  rw [Int.sub_add_cancel x y] at c14
  have c15 := fun W => Mul_S x 1 bx2 (by decide) (by rw [Int.mul_one]; exact bx2) W
  rw [Int.mul_one x] at c15
  rw [S_one] at c15
  have c16 := fun W => Mul_S x 0 bx2 (by decide) (by rw [Int.mul_zero]; decide) W
  rw [Int.mul_zero x] at c16
  rw [S_zero] at c16
  clear bx2 bY2 bz2 bxy byz bxyz dxy mxy myz mxz mxyz mxyz' sxz mxyz2 bx bY bz
  generalize S (x + y + z) = A1 at *
  generalize S (x * y * z) = A2 at *
  generalize S (x * z + y * z) = A3 at *
  generalize S (x * z) = A4 at *
  generalize S (y * z) = A5 at *
  generalize S (x * y) = A6 at *
  generalize S (x + y) = A7 at *
  generalize S (y + z) = A8 at *
  generalize S (x - y) = A9 at *
  generalize S x = X at *
  generalize S y = Y at *
  generalize S z = Z at *
  go_wp2_with (first | (go_at_call 11; (with_reducible refine (c0 _).mono ?_); rintro e W ⟨rfl, B1⟩; have B2 := H.out.trans (B1.mono H.out.size); clear H B1; have H := Lib.hid B2; clear B2) | (go_at_call 11; (with_reducible refine (c1 _).mono ?_); rintro e W ⟨rfl, B1⟩; have B2 := H.out.trans (B1.mono H.out.size); clear H B1; have H := Lib.hid B2; clear B2) | (go_at_call 11; (with_reducible refine (c2 _).mono ?_); rintro e W ⟨rfl, B1⟩; have B2 := H.out.trans (B1.mono H.out.size); clear H B1; have H := Lib.hid B2; clear B2) | (go_at_call 11; (with_reducible refine (c3 _).mono ?_); rintro e W ⟨rfl, B1⟩; have B2 := H.out.trans (B1.mono H.out.size); clear H B1; have H := Lib.hid B2; clear B2) | (go_at_call 11; (with_reducible refine (c4 _).mono ?_); rintro e W ⟨rfl, B1⟩; have B2 := H.out.trans (B1.mono H.out.size); clear H B1; have H := Lib.hid B2; clear B2) | (go_at_call 12; (with_reducible refine (c5 _).mono ?_); rintro e W ⟨rfl, B1⟩; have B2 := H.out.trans (B1.mono H.out.size); clear H B1; have H := Lib.hid B2; clear B2) | (go_at_call 12; (with_reducible refine (c6 _).mono ?_); rintro e W ⟨rfl, B1⟩; have B2 := H.out.trans (B1.mono H.out.size); clear H B1; have H := Lib.hid B2; clear B2) | (go_at_call 12; (with_reducible refine (c7 _).mono ?_); rintro e W ⟨rfl, B1⟩; have B2 := H.out.trans (B1.mono H.out.size); clear H B1; have H := Lib.hid B2; clear B2) | (go_at_call 12; (with_reducible refine (c8 _).mono ?_); rintro e W ⟨rfl, B1⟩; have B2 := H.out.trans (B1.mono H.out.size); clear H B1; have H := Lib.hid B2; clear B2) | (go_at_call 12; (with_reducible refine (c9 _).mono ?_); rintro e W ⟨rfl, B1⟩; have B2 := H.out.trans (B1.mono H.out.size); clear H B1; have H := Lib.hid B2; clear B2) | (go_at_call 12; (with_reducible refine (c10 _).mono ?_); rintro e W ⟨rfl, B1⟩; have B2 := H.out.trans (B1.mono H.out.size); clear H B1; have H := Lib.hid B2; clear B2) | (go_at_call 12; (with_reducible refine (c11 _).mono ?_); rintro e W ⟨rfl, B1⟩; have B2 := H.out.trans (B1.mono H.out.size); clear H B1; have H := Lib.hid B2; clear B2) | (go_at_call 11; (with_reducible refine (c12 _).mono ?_); rintro e W ⟨rfl, B1⟩; have B2 := H.out.trans (B1.mono H.out.size); clear H B1; have H := Lib.hid B2; clear B2) | (go_at_call 13; (with_reducible refine (c13 _).mono ?_); rintro e W ⟨rfl, B1⟩; have B2 := H.out.trans (B1.mono H.out.size); clear H B1; have H := Lib.hid B2; clear B2) | (go_at_call 11; (with_reducible refine (c14 _).mono ?_); rintro e W ⟨rfl, B1⟩; have B2 := H.out.trans (B1.mono H.out.size); clear H B1; have H := Lib.hid B2; clear B2) | (go_at_call 12; (with_reducible refine (c15 _).mono ?_); rintro e W ⟨rfl, B1⟩; have B2 := H.out.trans (B1.mono H.out.size); clear H B1; have H := Lib.hid B2; clear B2) | (go_at_call 12; (with_reducible refine (c16 _).mono ?_); rintro e W ⟨rfl, B1⟩; have B2 := H.out.trans (B1.mono H.out.size); clear H B1; have H := Lib.hid B2; clear B2))
  go_ret
  exact ⟨rfl, H.out⟩
end Go.Proofs.YtbdiofifjckceaaDoor
