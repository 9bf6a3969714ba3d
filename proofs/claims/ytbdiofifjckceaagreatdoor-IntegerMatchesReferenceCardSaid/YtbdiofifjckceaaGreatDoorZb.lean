/- The walks of the laws on machine numbers and on texts. -/
import Derived.Test.YtbdiofifjckceaaGreatDoorZa
import Derived.Deep.Cut
namespace Go.Proofs.YtbdiofifjckceaaGreatDoor
open Go.RowKit

theorem S_tl (a b : Int) : ((S a).toList == (S b).toList) = decide (a = b) := by
  rw [ByteArray.toList_eq, ByteArray.toList_eq, S_list, S_list]
  by_cases h : a = b
  · subst h; simp
  · rw [decide_eq_false h, beq_eq_false_iff_ne]
    exact fun e => h (txt_inj e)
theorem cut30 (s : ByteArray) : ∃ p : ByteArray, s.extract 0 (min (s.size : Int) 30).toNat = p ∧ p.size ≤ 30 := ⟨_, rfl, by rw [ByteArray.size_extract]; omega⟩
theorem is_S {p : ByteArray} (h : vld p.data.toList = true) : p = S (num p.data.toList) := by
  apply ByteArray.ext
  rw [← Array.toList_inj, S_list, (vld_txt h).1]

set_option maxRecDepth 100000 in
set_option maxHeartbeats 4000000 in
theorem text_walk (n : Int) (s : ByteArray) (w : World) (h0 : -9223372036854775808 ≤ n ∧ n ≤ 9223372036854775807) (hs : s.size ≤ 9223372036854775807) (hT : Tz w) :
    Calls Tryz.prog 5 #[.int .i64 n, .string s] w fun e w' => e = .returned (.bool true) ∧ Below w.heap.size w w' := by
  have H := Lib.hid (Below.refl w.heap.size w)
  have hT := Lib.hid hT
  have hn : n.natAbs < 10 ^ 200 := by omega
  have cs := fun W => sane_any W
  have cF := fun W hW => FromInt_any n W h0.1 h0.2 hW
  have cT := fun W => ToInt_ok n W h0.1 h0.2
  have cV := fun W => Valid_S n hn W
  obtain ⟨p, hp, hp30⟩ := cut30 s
  cases hv : vld p.data.toList
  · have cT2 := fun W => ToInt_no p p.data.toList W rfl (by have : p.data.toList.length = p.size := rfl; omega) hv
    clear hn hv hp30 h0
    go_enter Tryz.func5, Tryz.ntmps5
    go_wp2_with (first | (go_at_call 27; (with_reducible refine (cF _ (hT.out.below H.out)).mono ?_); rintro e W ⟨rfl, B1⟩; have B2 := H.out.trans (B1.mono H.out.size); clear H B1; have H := Lib.hid B2; clear B2) | (go_at_call 6; (with_reducible refine (cs _).mono ?_); rintro e W ⟨rfl, B1⟩; have B2 := H.out.trans (B1.mono H.out.size); clear H B1; have H := Lib.hid B2; clear B2) | (go_at_call 21; (with_reducible refine (cT _).mono ?_); rintro e W ⟨rfl, B1⟩; have B2 := H.out.trans (B1.mono H.out.size); clear H B1; have H := Lib.hid B2; clear B2) | (go_at_call 21; (with_reducible refine (cT2 _).mono ?_); rintro e W ⟨rfl, B1⟩; have B2 := H.out.trans (B1.mono H.out.size); clear H B1; have H := Lib.hid B2; clear B2) | (go_at_call 23; (with_reducible refine (cV _).mono ?_); rintro e W ⟨rfl, B1⟩; have B2 := H.out.trans (B1.mono H.out.size); clear H B1; have H := Lib.hid B2; clear B2))
    go_ret
    exact ⟨rfl, H.out⟩
  · have hz2 := (vld_txt hv).2
    have he := is_S hv
    generalize num p.data.toList = z at *
    subst he
    have cV2 := fun W => Valid_S z hz2 W
    by_cases hr : -9223372036854775808 ≤ z ∧ z ≤ 9223372036854775807
    · have cT2 := fun W => ToInt_ok z W hr.1 hr.2
      have cF2 := fun W hW => FromInt_any z W hr.1 hr.2 hW
      clear hn hv hp30 h0 hr hz2
      generalize S n = A at *
      generalize S z = B at *
      go_enter Tryz.func5, Tryz.ntmps5
      go_wp2_with (first | (go_at_call 27; (with_reducible refine (cF _ (hT.out.below H.out)).mono ?_); rintro e W ⟨rfl, B1⟩; have B2 := H.out.trans (B1.mono H.out.size); clear H B1; have H := Lib.hid B2; clear B2) | (go_at_call 27; (with_reducible refine (cF2 _ (hT.out.below H.out)).mono ?_); rintro e W ⟨rfl, B1⟩; have B2 := H.out.trans (B1.mono H.out.size); clear H B1; have H := Lib.hid B2; clear B2) | (go_at_call 6; (with_reducible refine (cs _).mono ?_); rintro e W ⟨rfl, B1⟩; have B2 := H.out.trans (B1.mono H.out.size); clear H B1; have H := Lib.hid B2; clear B2) | (go_at_call 21; (with_reducible refine (cT _).mono ?_); rintro e W ⟨rfl, B1⟩; have B2 := H.out.trans (B1.mono H.out.size); clear H B1; have H := Lib.hid B2; clear B2) | (go_at_call 21; (with_reducible refine (cT2 _).mono ?_); rintro e W ⟨rfl, B1⟩; have B2 := H.out.trans (B1.mono H.out.size); clear H B1; have H := Lib.hid B2; clear B2) | (go_at_call 23; (with_reducible refine (cV _).mono ?_); rintro e W ⟨rfl, B1⟩; have B2 := H.out.trans (B1.mono H.out.size); clear H B1; have H := Lib.hid B2; clear B2) | (go_at_call 23; (with_reducible refine (cV2 _).mono ?_); rintro e W ⟨rfl, B1⟩; have B2 := H.out.trans (B1.mono H.out.size); clear H B1; have H := Lib.hid B2; clear B2))
      go_ret
      exact ⟨rfl, H.out⟩
    · have cT2 := fun W hW => ToInt_out z W hz2 hr hW
      clear hn hv hp30 h0 hr hz2
      generalize S n = A at *
      generalize S z = B at *
      go_enter Tryz.func5, Tryz.ntmps5
      go_wp2_with (first | (go_at_call 27; (with_reducible refine (cF _ (hT.out.below H.out)).mono ?_); rintro e W ⟨rfl, B1⟩; have B2 := H.out.trans (B1.mono H.out.size); clear H B1; have H := Lib.hid B2; clear B2) | (go_at_call 21; (with_reducible refine (cT2 _ (hT.out.below H.out)).mono ?_); rintro e W ⟨rfl, B1⟩; have B2 := H.out.trans (B1.mono H.out.size); clear H B1; have H := Lib.hid B2; clear B2) | (go_at_call 6; (with_reducible refine (cs _).mono ?_); rintro e W ⟨rfl, B1⟩; have B2 := H.out.trans (B1.mono H.out.size); clear H B1; have H := Lib.hid B2; clear B2) | (go_at_call 21; (with_reducible refine (cT _).mono ?_); rintro e W ⟨rfl, B1⟩; have B2 := H.out.trans (B1.mono H.out.size); clear H B1; have H := Lib.hid B2; clear B2) | (go_at_call 23; (with_reducible refine (cV _).mono ?_); rintro e W ⟨rfl, B1⟩; have B2 := H.out.trans (B1.mono H.out.size); clear H B1; have H := Lib.hid B2; clear B2) | (go_at_call 23; (with_reducible refine (cV2 _).mono ?_); rintro e W ⟨rfl, B1⟩; have B2 := H.out.trans (B1.mono H.out.size); clear H B1; have H := Lib.hid B2; clear B2))
      go_ret
      exact ⟨rfl, H.out⟩

theorem dvq {x y q r : Int} (h : x = y * q + r) (h0 : 0 ≤ r) (h1 : r < y.natAbs) (hy : y ≠ 0) : x / y = q ∧ x % y = r := by
  by_cases hn : y < 0
  · have hu := dv (x := x) (y := y) (q := -q) (r := r) hy (by
      rw [h]; obtain ⟨z, hz⟩ : ∃ z : Int, z = y.natAbs := ⟨_, rfl⟩
      rw [← hz, show y = -z by omega, Int.mul_neg, Int.neg_mul]) h0 h1
    rw [if_pos hn] at hu
    exact ⟨by rw [hu.1]; omega, hu.2⟩
  · have hu := dv (x := x) (y := y) (q := q) (r := r) hy (by
      rw [h]; obtain ⟨z, hz⟩ : ∃ z : Int, z = y.natAbs := ⟨_, rfl⟩
      rw [← hz, show y = z by omega]) h0 h1
    rw [if_neg hn] at hu
    exact hu

set_option maxRecDepth 100000 in
set_option maxHeartbeats 8000000 in
theorem machine_walk (x y : Int) (w : World) (hx : -2147483648 ≤ x ∧ x ≤ 2147483647) (hy : -2147483648 ≤ y ∧ y ≤ 2147483647) (hT : Tz w) :
    Calls Tryz.prog 4 #[.int .i32 x, .int .i32 y] w fun e w' => e = .returned (.bool true) ∧ Below w.heap.size w w' := by
  have H := Lib.hid (Below.refl w.heap.size w)
  have hT := Lib.hid hT
  have bx : x.natAbs < 10 ^ 200 := by omega
  have bY : y.natAbs < 10 ^ 200 := by omega
  have hm : -4611686018427387904 ≤ x * y ∧ x * y ≤ 4611686018427387904 := by
    have h1 : (x * y).natAbs ≤ 2147483648 * 2147483648 := by rw [Int.natAbs_mul]; exact Nat.mul_le_mul (by omega) (by omega)
    omega
  have cs := fun W => sane_any W
  have f1 := fun W hW => FromInt_any x W (by omega) (by omega) hW
  have f2 := fun W hW => FromInt_any y W (by omega) (by omega) hW
  have f3 := fun W hW => FromInt_any (x + y) W (by omega) (by omega) hW
  have f4 := fun W hW => FromInt_any (x - y) W (by omega) (by omega) hW
  have f5 := fun W hW => FromInt_any (x * y) W (by omega) (by omega) hW
  have c1 := fun W => ToInt_ok x W (by omega) (by omega)
  have c2 := fun W => Add_S x y bx bY (by omega) W
  have c3 := fun W => Sub_S x y bx bY (by omega) W
  have c4 := fun W => Mul_S x y bx bY (by omega) W
  have c5 := fun W => Compare_S x y bx bY W
  have w1 : wrap64 (x + y) = x + y := by simp [wrap64]; omega
  have w2 : wrap64 (x - y) = x - y := by simp [wrap64]; omega
  have w3 : wrap64 (x * y) = x * y := by simp only [wrap64]; omega
  have v1 : wrap64 x = x := by simp [wrap64]; omega
  have v2 : wrap64 y = y := by simp [wrap64]; omega
  have c6 : y ≠ 0 → ∀ W, _ := fun h W => Div_S x y bx bY h W
  have c7 := fun W => Div_Z x bx W
  have hx := Lib.hid hx
  have hy := Lib.hid hy
  have hQ0 := Lib.hid (Int.mul_tdiv_add_tmod x y)
  have hC6 := Lib.hid c6
  clear bx bY hm c6
  rcases Int.lt_trichotomy x y with ho | ho | ho
  · rw [show cmpN x y = -1 by rw [cmpN, if_pos ho]] at c5
    go_enter Tryz.func4, Tryz.ntmps4
    go_upto_region 19 with (first | (go_at_call 27; (with_reducible refine (f1 _ (hT.out.below H.out)).mono ?_); rintro e W ⟨rfl, B1⟩; have B2 := H.out.trans (B1.mono H.out.size); clear H B1; have H := Lib.hid B2; clear B2) | (go_at_call 27; (with_reducible refine (f2 _ (hT.out.below H.out)).mono ?_); rintro e W ⟨rfl, B1⟩; have B2 := H.out.trans (B1.mono H.out.size); clear H B1; have H := Lib.hid B2; clear B2) | (go_at_call 27; (with_reducible refine (f3 _ (hT.out.below H.out)).mono ?_); rintro e W ⟨rfl, B1⟩; have B2 := H.out.trans (B1.mono H.out.size); clear H B1; have H := Lib.hid B2; clear B2) | (go_at_call 27; (with_reducible refine (f4 _ (hT.out.below H.out)).mono ?_); rintro e W ⟨rfl, B1⟩; have B2 := H.out.trans (B1.mono H.out.size); clear H B1; have H := Lib.hid B2; clear B2) | (go_at_call 27; (with_reducible refine (f5 _ (hT.out.below H.out)).mono ?_); rintro e W ⟨rfl, B1⟩; have B2 := H.out.trans (B1.mono H.out.size); clear H B1; have H := Lib.hid B2; clear B2) | (go_at_call 6; (with_reducible refine (cs _).mono ?_); rintro e W ⟨rfl, B1⟩; have B2 := H.out.trans (B1.mono H.out.size); clear H B1; have H := Lib.hid B2; clear B2) | (go_at_call 21; (with_reducible refine (c1 _).mono ?_); rintro e W ⟨rfl, B1⟩; have B2 := H.out.trans (B1.mono H.out.size); clear H B1; have H := Lib.hid B2; clear B2) | (go_at_call 9; (with_reducible refine (c2 _).mono ?_); rintro e W ⟨rfl, B1⟩; have B2 := H.out.trans (B1.mono H.out.size); clear H B1; have H := Lib.hid B2; clear B2) | (go_at_call 11; (with_reducible refine (c3 _).mono ?_); rintro e W ⟨rfl, B1⟩; have B2 := H.out.trans (B1.mono H.out.size); clear H B1; have H := Lib.hid B2; clear B2) | (go_at_call 13; (with_reducible refine (c4 _).mono ?_); rintro e W ⟨rfl, B1⟩; have B2 := H.out.trans (B1.mono H.out.size); clear H B1; have H := Lib.hid B2; clear B2) | (go_at_call 25; (with_reducible refine (c5 _).mono ?_); rintro e W ⟨rfl, B1⟩; have B2 := H.out.trans (B1.mono H.out.size); clear H B1; have H := Lib.hid B2; clear B2))
    clear cs f1 f2 f3 f4 f5 c1 c2 c3 c4 c5 w1 w2 w3 v1 v2 ho
    by_cases h0 : y = 0
    · subst h0
      clear hQ0 hC6 hx hy
      go_wp2_with (first | (go_at_call 15; (with_reducible refine (c7 _).mono ?_); rintro e W ⟨rfl, B1⟩; have B2 := H.out.trans (B1.mono H.out.size); clear H B1; have H := Lib.hid B2; clear B2))
      go_ret
      exact ⟨rfl, H.out⟩
    · have c8 := hC6.out h0
      have hy0 : (y == 0) = false := by rw [beq_eq_false_iff_ne]; exact h0
      have hq := hQ0.out
      have hx2 := hx.out
      have hy2 := hy.out
      have b1 : (x.tmod y).natAbs < y.natAbs := by rw [Int.natAbs_tmod]; exact Nat.mod_lt _ (by omega)
      have b2 : (x.tdiv y).natAbs ≤ x.natAbs := by rw [Int.natAbs_tdiv]; exact Nat.div_le_self _ _
      obtain ⟨Q, hQ⟩ : ∃ Q, x.tdiv y = Q := ⟨_, rfl⟩
      obtain ⟨R, hR⟩ : ∃ R, x.tmod y = R := ⟨_, rfl⟩
      rw [hQ] at b2 hq
      rw [hR] at b1 hq
      have wQ : wrap64 Q = Q := by simp [wrap64]; omega
      clear c7 hQ0 hC6 hx hy
      by_cases hR0 : 0 ≤ R
      · have e := dvq (x := x) (y := y) (q := Q) (r := R) hq.symm hR0 (by omega) h0
        rw [e.1, e.2] at c8
        have f6 := fun W hW => FromInt_any Q W (by omega) (by omega) hW
        have f7 := fun W hW => FromInt_any R W (by omega) (by omega) hW
        clear e hq b1 b2 hx2 hy2
        go_wp2_with (first | (go_at_call 27; (with_reducible refine (f6 _ (hT.out.below H.out)).mono ?_); rintro e W ⟨rfl, B1⟩; have B2 := H.out.trans (B1.mono H.out.size); clear H B1; have H := Lib.hid B2; clear B2) | (go_at_call 27; (with_reducible refine (f7 _ (hT.out.below H.out)).mono ?_); rintro e W ⟨rfl, B1⟩; have B2 := H.out.trans (B1.mono H.out.size); clear H B1; have H := Lib.hid B2; clear B2) | (go_at_call 15; (with_reducible refine (c8 _).mono ?_); rintro e W ⟨rfl, B1⟩; have B2 := H.out.trans (B1.mono H.out.size); clear H B1; have H := Lib.hid B2; clear B2))
        go_ret
        exact ⟨rfl, H.out⟩
      · by_cases hyp : 0 < y
        · have e := dvq (x := x) (y := y) (q := Q - 1) (r := R + y) (by rw [Int.mul_sub, Int.mul_one]; omega) (by omega) (by omega) h0
          rw [e.1, e.2] at c8
          have f6 := fun W hW => FromInt_any (Q - 1) W (by omega) (by omega) hW
          have f7 := fun W hW => FromInt_any (R + y) W (by omega) (by omega) hW
          have g1 : ¬ R + y < 0 := by omega
          have g2 : wrap64 (R + y) = R + y := by simp [wrap64]; omega
          have g3 : wrap64 (Q - 1) = Q - 1 := by simp [wrap64]; omega
          clear e hq b1 b2 hx2 hy2
          go_wp2_with (first | (go_at_call 27; (with_reducible refine (f6 _ (hT.out.below H.out)).mono ?_); rintro e W ⟨rfl, B1⟩; have B2 := H.out.trans (B1.mono H.out.size); clear H B1; have H := Lib.hid B2; clear B2) | (go_at_call 27; (with_reducible refine (f7 _ (hT.out.below H.out)).mono ?_); rintro e W ⟨rfl, B1⟩; have B2 := H.out.trans (B1.mono H.out.size); clear H B1; have H := Lib.hid B2; clear B2) | (go_at_call 15; (with_reducible refine (c8 _).mono ?_); rintro e W ⟨rfl, B1⟩; have B2 := H.out.trans (B1.mono H.out.size); clear H B1; have H := Lib.hid B2; clear B2))
          go_ret
          exact ⟨rfl, H.out⟩
        · have e := dvq (x := x) (y := y) (q := Q + 1) (r := R - y) (by rw [Int.mul_add, Int.mul_one]; omega) (by omega) (by omega) h0
          rw [e.1, e.2] at c8
          have f6 := fun W hW => FromInt_any (Q + 1) W (by omega) (by omega) hW
          have f7 := fun W hW => FromInt_any (R - y) W (by omega) (by omega) hW
          have g2 : wrap64 (R - y) = R - y := by simp [wrap64]; omega
          have g3 : wrap64 (Q + 1) = Q + 1 := by simp [wrap64]; omega
          clear e hq b1 b2 hx2 hy2
          go_wp2_with (first | (go_at_call 27; (with_reducible refine (f6 _ (hT.out.below H.out)).mono ?_); rintro e W ⟨rfl, B1⟩; have B2 := H.out.trans (B1.mono H.out.size); clear H B1; have H := Lib.hid B2; clear B2) | (go_at_call 27; (with_reducible refine (f7 _ (hT.out.below H.out)).mono ?_); rintro e W ⟨rfl, B1⟩; have B2 := H.out.trans (B1.mono H.out.size); clear H B1; have H := Lib.hid B2; clear B2) | (go_at_call 15; (with_reducible refine (c8 _).mono ?_); rintro e W ⟨rfl, B1⟩; have B2 := H.out.trans (B1.mono H.out.size); clear H B1; have H := Lib.hid B2; clear B2))
          go_ret
          exact ⟨rfl, H.out⟩
  · rw [show cmpN x y = 0 by rw [cmpN, if_neg (by omega), if_neg (by omega)]] at c5
    replace ho : ¬ x < y ∧ ¬ y < x := by omega
    obtain ⟨ho, ho2⟩ := ho
    go_enter Tryz.func4, Tryz.ntmps4
    go_upto_region 19 with (first | (go_at_call 27; (with_reducible refine (f1 _ (hT.out.below H.out)).mono ?_); rintro e W ⟨rfl, B1⟩; have B2 := H.out.trans (B1.mono H.out.size); clear H B1; have H := Lib.hid B2; clear B2) | (go_at_call 27; (with_reducible refine (f2 _ (hT.out.below H.out)).mono ?_); rintro e W ⟨rfl, B1⟩; have B2 := H.out.trans (B1.mono H.out.size); clear H B1; have H := Lib.hid B2; clear B2) | (go_at_call 27; (with_reducible refine (f3 _ (hT.out.below H.out)).mono ?_); rintro e W ⟨rfl, B1⟩; have B2 := H.out.trans (B1.mono H.out.size); clear H B1; have H := Lib.hid B2; clear B2) | (go_at_call 27; (with_reducible refine (f4 _ (hT.out.below H.out)).mono ?_); rintro e W ⟨rfl, B1⟩; have B2 := H.out.trans (B1.mono H.out.size); clear H B1; have H := Lib.hid B2; clear B2) | (go_at_call 27; (with_reducible refine (f5 _ (hT.out.below H.out)).mono ?_); rintro e W ⟨rfl, B1⟩; have B2 := H.out.trans (B1.mono H.out.size); clear H B1; have H := Lib.hid B2; clear B2) | (go_at_call 6; (with_reducible refine (cs _).mono ?_); rintro e W ⟨rfl, B1⟩; have B2 := H.out.trans (B1.mono H.out.size); clear H B1; have H := Lib.hid B2; clear B2) | (go_at_call 21; (with_reducible refine (c1 _).mono ?_); rintro e W ⟨rfl, B1⟩; have B2 := H.out.trans (B1.mono H.out.size); clear H B1; have H := Lib.hid B2; clear B2) | (go_at_call 9; (with_reducible refine (c2 _).mono ?_); rintro e W ⟨rfl, B1⟩; have B2 := H.out.trans (B1.mono H.out.size); clear H B1; have H := Lib.hid B2; clear B2) | (go_at_call 11; (with_reducible refine (c3 _).mono ?_); rintro e W ⟨rfl, B1⟩; have B2 := H.out.trans (B1.mono H.out.size); clear H B1; have H := Lib.hid B2; clear B2) | (go_at_call 13; (with_reducible refine (c4 _).mono ?_); rintro e W ⟨rfl, B1⟩; have B2 := H.out.trans (B1.mono H.out.size); clear H B1; have H := Lib.hid B2; clear B2) | (go_at_call 25; (with_reducible refine (c5 _).mono ?_); rintro e W ⟨rfl, B1⟩; have B2 := H.out.trans (B1.mono H.out.size); clear H B1; have H := Lib.hid B2; clear B2))
    clear cs f1 f2 f3 f4 f5 c1 c2 c3 c4 c5 w1 w2 w3 v1 v2 ho ho2
    by_cases h0 : y = 0
    · subst h0
      clear hQ0 hC6 hx hy
      go_wp2_with (first | (go_at_call 15; (with_reducible refine (c7 _).mono ?_); rintro e W ⟨rfl, B1⟩; have B2 := H.out.trans (B1.mono H.out.size); clear H B1; have H := Lib.hid B2; clear B2))
      go_ret
      exact ⟨rfl, H.out⟩
    · have c8 := hC6.out h0
      have hy0 : (y == 0) = false := by rw [beq_eq_false_iff_ne]; exact h0
      have hq := hQ0.out
      have hx2 := hx.out
      have hy2 := hy.out
      have b1 : (x.tmod y).natAbs < y.natAbs := by rw [Int.natAbs_tmod]; exact Nat.mod_lt _ (by omega)
      have b2 : (x.tdiv y).natAbs ≤ x.natAbs := by rw [Int.natAbs_tdiv]; exact Nat.div_le_self _ _
      obtain ⟨Q, hQ⟩ : ∃ Q, x.tdiv y = Q := ⟨_, rfl⟩
      obtain ⟨R, hR⟩ : ∃ R, x.tmod y = R := ⟨_, rfl⟩
      rw [hQ] at b2 hq
      rw [hR] at b1 hq
      have wQ : wrap64 Q = Q := by simp [wrap64]; omega
      clear c7 hQ0 hC6 hx hy
      by_cases hR0 : 0 ≤ R
      · have e := dvq (x := x) (y := y) (q := Q) (r := R) hq.symm hR0 (by omega) h0
        rw [e.1, e.2] at c8
        have f6 := fun W hW => FromInt_any Q W (by omega) (by omega) hW
        have f7 := fun W hW => FromInt_any R W (by omega) (by omega) hW
        clear e hq b1 b2 hx2 hy2
        go_wp2_with (first | (go_at_call 27; (with_reducible refine (f6 _ (hT.out.below H.out)).mono ?_); rintro e W ⟨rfl, B1⟩; have B2 := H.out.trans (B1.mono H.out.size); clear H B1; have H := Lib.hid B2; clear B2) | (go_at_call 27; (with_reducible refine (f7 _ (hT.out.below H.out)).mono ?_); rintro e W ⟨rfl, B1⟩; have B2 := H.out.trans (B1.mono H.out.size); clear H B1; have H := Lib.hid B2; clear B2) | (go_at_call 15; (with_reducible refine (c8 _).mono ?_); rintro e W ⟨rfl, B1⟩; have B2 := H.out.trans (B1.mono H.out.size); clear H B1; have H := Lib.hid B2; clear B2))
        go_ret
        exact ⟨rfl, H.out⟩
      · by_cases hyp : 0 < y
        · have e := dvq (x := x) (y := y) (q := Q - 1) (r := R + y) (by rw [Int.mul_sub, Int.mul_one]; omega) (by omega) (by omega) h0
          rw [e.1, e.2] at c8
          have f6 := fun W hW => FromInt_any (Q - 1) W (by omega) (by omega) hW
          have f7 := fun W hW => FromInt_any (R + y) W (by omega) (by omega) hW
          have g1 : ¬ R + y < 0 := by omega
          have g2 : wrap64 (R + y) = R + y := by simp [wrap64]; omega
          have g3 : wrap64 (Q - 1) = Q - 1 := by simp [wrap64]; omega
          clear e hq b1 b2 hx2 hy2
          go_wp2_with (first | (go_at_call 27; (with_reducible refine (f6 _ (hT.out.below H.out)).mono ?_); rintro e W ⟨rfl, B1⟩; have B2 := H.out.trans (B1.mono H.out.size); clear H B1; have H := Lib.hid B2; clear B2) | (go_at_call 27; (with_reducible refine (f7 _ (hT.out.below H.out)).mono ?_); rintro e W ⟨rfl, B1⟩; have B2 := H.out.trans (B1.mono H.out.size); clear H B1; have H := Lib.hid B2; clear B2) | (go_at_call 15; (with_reducible refine (c8 _).mono ?_); rintro e W ⟨rfl, B1⟩; have B2 := H.out.trans (B1.mono H.out.size); clear H B1; have H := Lib.hid B2; clear B2))
          go_ret
          exact ⟨rfl, H.out⟩
        · have e := dvq (x := x) (y := y) (q := Q + 1) (r := R - y) (by rw [Int.mul_add, Int.mul_one]; omega) (by omega) (by omega) h0
          rw [e.1, e.2] at c8
          have f6 := fun W hW => FromInt_any (Q + 1) W (by omega) (by omega) hW
          have f7 := fun W hW => FromInt_any (R - y) W (by omega) (by omega) hW
          have g2 : wrap64 (R - y) = R - y := by simp [wrap64]; omega
          have g3 : wrap64 (Q + 1) = Q + 1 := by simp [wrap64]; omega
          clear e hq b1 b2 hx2 hy2
          go_wp2_with (first | (go_at_call 27; (with_reducible refine (f6 _ (hT.out.below H.out)).mono ?_); rintro e W ⟨rfl, B1⟩; have B2 := H.out.trans (B1.mono H.out.size); clear H B1; have H := Lib.hid B2; clear B2) | (go_at_call 27; (with_reducible refine (f7 _ (hT.out.below H.out)).mono ?_); rintro e W ⟨rfl, B1⟩; have B2 := H.out.trans (B1.mono H.out.size); clear H B1; have H := Lib.hid B2; clear B2) | (go_at_call 15; (with_reducible refine (c8 _).mono ?_); rintro e W ⟨rfl, B1⟩; have B2 := H.out.trans (B1.mono H.out.size); clear H B1; have H := Lib.hid B2; clear B2))
          go_ret
          exact ⟨rfl, H.out⟩
  · rw [show cmpN x y = 1 by rw [cmpN, if_neg (by omega), if_pos (by omega)]] at c5
    go_enter Tryz.func4, Tryz.ntmps4
    go_upto_region 19 with (first | (go_at_call 27; (with_reducible refine (f1 _ (hT.out.below H.out)).mono ?_); rintro e W ⟨rfl, B1⟩; have B2 := H.out.trans (B1.mono H.out.size); clear H B1; have H := Lib.hid B2; clear B2) | (go_at_call 27; (with_reducible refine (f2 _ (hT.out.below H.out)).mono ?_); rintro e W ⟨rfl, B1⟩; have B2 := H.out.trans (B1.mono H.out.size); clear H B1; have H := Lib.hid B2; clear B2) | (go_at_call 27; (with_reducible refine (f3 _ (hT.out.below H.out)).mono ?_); rintro e W ⟨rfl, B1⟩; have B2 := H.out.trans (B1.mono H.out.size); clear H B1; have H := Lib.hid B2; clear B2) | (go_at_call 27; (with_reducible refine (f4 _ (hT.out.below H.out)).mono ?_); rintro e W ⟨rfl, B1⟩; have B2 := H.out.trans (B1.mono H.out.size); clear H B1; have H := Lib.hid B2; clear B2) | (go_at_call 27; (with_reducible refine (f5 _ (hT.out.below H.out)).mono ?_); rintro e W ⟨rfl, B1⟩; have B2 := H.out.trans (B1.mono H.out.size); clear H B1; have H := Lib.hid B2; clear B2) | (go_at_call 6; (with_reducible refine (cs _).mono ?_); rintro e W ⟨rfl, B1⟩; have B2 := H.out.trans (B1.mono H.out.size); clear H B1; have H := Lib.hid B2; clear B2) | (go_at_call 21; (with_reducible refine (c1 _).mono ?_); rintro e W ⟨rfl, B1⟩; have B2 := H.out.trans (B1.mono H.out.size); clear H B1; have H := Lib.hid B2; clear B2) | (go_at_call 9; (with_reducible refine (c2 _).mono ?_); rintro e W ⟨rfl, B1⟩; have B2 := H.out.trans (B1.mono H.out.size); clear H B1; have H := Lib.hid B2; clear B2) | (go_at_call 11; (with_reducible refine (c3 _).mono ?_); rintro e W ⟨rfl, B1⟩; have B2 := H.out.trans (B1.mono H.out.size); clear H B1; have H := Lib.hid B2; clear B2) | (go_at_call 13; (with_reducible refine (c4 _).mono ?_); rintro e W ⟨rfl, B1⟩; have B2 := H.out.trans (B1.mono H.out.size); clear H B1; have H := Lib.hid B2; clear B2) | (go_at_call 25; (with_reducible refine (c5 _).mono ?_); rintro e W ⟨rfl, B1⟩; have B2 := H.out.trans (B1.mono H.out.size); clear H B1; have H := Lib.hid B2; clear B2))
    clear cs f1 f2 f3 f4 f5 c1 c2 c3 c4 c5 w1 w2 w3 v1 v2 ho
    by_cases h0 : y = 0
    · subst h0
      clear hQ0 hC6 hx hy
      go_wp2_with (first | (go_at_call 15; (with_reducible refine (c7 _).mono ?_); rintro e W ⟨rfl, B1⟩; have B2 := H.out.trans (B1.mono H.out.size); clear H B1; have H := Lib.hid B2; clear B2))
      go_ret
      exact ⟨rfl, H.out⟩
    · have c8 := hC6.out h0
      have hy0 : (y == 0) = false := by rw [beq_eq_false_iff_ne]; exact h0
      have hq := hQ0.out
      have hx2 := hx.out
      have hy2 := hy.out
      have b1 : (x.tmod y).natAbs < y.natAbs := by rw [Int.natAbs_tmod]; exact Nat.mod_lt _ (by omega)
      have b2 : (x.tdiv y).natAbs ≤ x.natAbs := by rw [Int.natAbs_tdiv]; exact Nat.div_le_self _ _
      obtain ⟨Q, hQ⟩ : ∃ Q, x.tdiv y = Q := ⟨_, rfl⟩
      obtain ⟨R, hR⟩ : ∃ R, x.tmod y = R := ⟨_, rfl⟩
      rw [hQ] at b2 hq
      rw [hR] at b1 hq
      have wQ : wrap64 Q = Q := by simp [wrap64]; omega
      clear c7 hQ0 hC6 hx hy
      by_cases hR0 : 0 ≤ R
      · have e := dvq (x := x) (y := y) (q := Q) (r := R) hq.symm hR0 (by omega) h0
        rw [e.1, e.2] at c8
        have f6 := fun W hW => FromInt_any Q W (by omega) (by omega) hW
        have f7 := fun W hW => FromInt_any R W (by omega) (by omega) hW
        clear e hq b1 b2 hx2 hy2
        go_wp2_with (first | (go_at_call 27; (with_reducible refine (f6 _ (hT.out.below H.out)).mono ?_); rintro e W ⟨rfl, B1⟩; have B2 := H.out.trans (B1.mono H.out.size); clear H B1; have H := Lib.hid B2; clear B2) | (go_at_call 27; (with_reducible refine (f7 _ (hT.out.below H.out)).mono ?_); rintro e W ⟨rfl, B1⟩; have B2 := H.out.trans (B1.mono H.out.size); clear H B1; have H := Lib.hid B2; clear B2) | (go_at_call 15; (with_reducible refine (c8 _).mono ?_); rintro e W ⟨rfl, B1⟩; have B2 := H.out.trans (B1.mono H.out.size); clear H B1; have H := Lib.hid B2; clear B2))
        go_ret
        exact ⟨rfl, H.out⟩
      · by_cases hyp : 0 < y
        · have e := dvq (x := x) (y := y) (q := Q - 1) (r := R + y) (by rw [Int.mul_sub, Int.mul_one]; omega) (by omega) (by omega) h0
          rw [e.1, e.2] at c8
          have f6 := fun W hW => FromInt_any (Q - 1) W (by omega) (by omega) hW
          have f7 := fun W hW => FromInt_any (R + y) W (by omega) (by omega) hW
          have g1 : ¬ R + y < 0 := by omega
          have g2 : wrap64 (R + y) = R + y := by simp [wrap64]; omega
          have g3 : wrap64 (Q - 1) = Q - 1 := by simp [wrap64]; omega
          clear e hq b1 b2 hx2 hy2
          go_wp2_with (first | (go_at_call 27; (with_reducible refine (f6 _ (hT.out.below H.out)).mono ?_); rintro e W ⟨rfl, B1⟩; have B2 := H.out.trans (B1.mono H.out.size); clear H B1; have H := Lib.hid B2; clear B2) | (go_at_call 27; (with_reducible refine (f7 _ (hT.out.below H.out)).mono ?_); rintro e W ⟨rfl, B1⟩; have B2 := H.out.trans (B1.mono H.out.size); clear H B1; have H := Lib.hid B2; clear B2) | (go_at_call 15; (with_reducible refine (c8 _).mono ?_); rintro e W ⟨rfl, B1⟩; have B2 := H.out.trans (B1.mono H.out.size); clear H B1; have H := Lib.hid B2; clear B2))
          go_ret
          exact ⟨rfl, H.out⟩
        · have e := dvq (x := x) (y := y) (q := Q + 1) (r := R - y) (by rw [Int.mul_add, Int.mul_one]; omega) (by omega) (by omega) h0
          rw [e.1, e.2] at c8
          have f6 := fun W hW => FromInt_any (Q + 1) W (by omega) (by omega) hW
          have f7 := fun W hW => FromInt_any (R - y) W (by omega) (by omega) hW
          have g2 : wrap64 (R - y) = R - y := by simp [wrap64]; omega
          have g3 : wrap64 (Q + 1) = Q + 1 := by simp [wrap64]; omega
          clear e hq b1 b2 hx2 hy2
          go_wp2_with (first | (go_at_call 27; (with_reducible refine (f6 _ (hT.out.below H.out)).mono ?_); rintro e W ⟨rfl, B1⟩; have B2 := H.out.trans (B1.mono H.out.size); clear H B1; have H := Lib.hid B2; clear B2) | (go_at_call 27; (with_reducible refine (f7 _ (hT.out.below H.out)).mono ?_); rintro e W ⟨rfl, B1⟩; have B2 := H.out.trans (B1.mono H.out.size); clear H B1; have H := Lib.hid B2; clear B2) | (go_at_call 15; (with_reducible refine (c8 _).mono ?_); rintro e W ⟨rfl, B1⟩; have B2 := H.out.trans (B1.mono H.out.size); clear H B1; have H := Lib.hid B2; clear B2))
          go_ret
          exact ⟨rfl, H.out⟩
end Go.Proofs.YtbdiofifjckceaaGreatDoor
