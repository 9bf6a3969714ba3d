/- RationalOrder: the walk of the law. -/
import Derived.Test.YtjpifnepdmgpeaaGreatDoorMg
import Derived.Deep.Cut
import Derived.Deep.CutRange
namespace Go.Proofs.YtjpifnepdmgpeaaGreatDoor
open Go.RowKit

theorem okM_ok3 {a b : Rat} {i j : Nat} (ha : fitR i a) (hb : fitR j b) (h : i + j ≤ 200) : okM a b = true := by
 rw [okM, show fits (a.num * b.num) = true from decide_eq_true (mulb ha.1 hb.1 h), show fits ((a.den : Int) * b.den) = true from decide_eq_true (mulb (den_abs a ha) (den_abs b hb) h)]; rfl
theorem okA_ok3 {a b : Rat} {i j : Nat} (ha : fitR i a) (hb : fitR j b) (h : i + j ≤ 199) : okA a b = true := by
 have h1 := mulb ha.1 (den_abs b hb) h
 have h2 := mulb hb.1 (den_abs a ha) (show j + i ≤ 199 by omega)
 rw [okA, show fits (a.num * b.den) = true from decide_eq_true (wide h1 (by decide)), show fits (b.num * a.den) = true from decide_eq_true (wide h2 (by decide)), show fits ((a.den : Int) * b.den) = true from decide_eq_true (mulb (den_abs a ha) (den_abs b hb) (by omega)), show fits (a.num * b.den + b.num * a.den) = true from decide_eq_true (addb h1 h2)]; rfl
theorem Long_ag23 (x0 x1 x2 x3 : Int) (w : World) (b0 : -9223372036854775808 ≤ x0 ∧ x0 ≤ 9223372036854775807) (b1 : -9223372036854775808 ≤ x1 ∧ x1 ≤ 9223372036854775807) (b2 : -9223372036854775808 ≤ x2 ∧ x2 ≤ 9223372036854775807) (b3 : -9223372036854775808 ≤ x3 ∧ x3 ≤ 9223372036854775807) :
  Calls Tryz.prog 13 #[.agg #[.int .i64 x0, .int .i64 x1, .int .i64 x2, .int .i64 x3]] w fun e w' => ∃ q : Rat, e = .returned (.agg #[.string (S q.num), .string (S (q.den : Int))]) ∧ fitR 100 q ∧ Below w.heap.size w w' := Long_any x0 x1 x2 x3 w b0 b1 b2 b3
theorem Small_ag2 (x0 x1 : Int) (w : World) (b0 : -9223372036854775808 ≤ x0 ∧ x0 ≤ 9223372036854775807) (b1 : -9223372036854775808 ≤ x1 ∧ x1 ≤ 9223372036854775807) :
  Calls Tryz.prog 14 #[.agg #[.int .i64 x0, .int .i64 x1]] w fun e w' => ∃ q : Rat, e = .returned (.agg #[.string (S q.num), .string (S (q.den : Int))]) ∧ smallR q ∧ Below w.heap.size w w' := Small_any x0 x1 w b0 b1
theorem ord_facts (a b c : Rat) : (cmpR a b ≤ 0 → cmpR b c ≤ 0 → cmpR a c ≤ 0) ∧ (cmpR a b ≤ 0 → cmpR b c < 0 → cmpR a c < 0) := by
 rw [cmpR_le, cmpR_le, cmpR_le, cmpR_lt, cmpR_lt]
 refine ⟨fun h1 h2 => Rat.le_trans h1 h2, fun h1 h2 => ?_⟩
 refine Rat.lt_of_le_of_ne (Rat.le_trans h1 (Rat.le_of_lt h2)) (fun e => ?_)
 subst e
 exact absurd h2 (Rat.not_lt.2 h1)
theorem RV_ne {a b : Rat} (h : a ≠ b) : ((S a.num).toList == (S b.num).toList) = false ∨ (S a.num = S b.num ∧ ((S (a.den : Int)).toList == (S (b.den : Int)).toList) = false) := by
 by_cases hn : a.num = b.num
 ·
  refine .inr ⟨by rw [hn], beq_eq_false_iff_ne.2 (fun e => h (Rat.ext hn ?_))⟩
  have := S_inj (toList_inj e)
  omega
 ·
  exact .inl (beq_eq_false_iff_ne.2 (fun e => hn (S_inj (toList_inj e))))
theorem small_fit3 {q : Rat} (h : smallR q) : fitR 3 q := ⟨Nat.lt_of_le_of_lt h.1 (by decide), Nat.lt_of_le_of_lt h.2 (by decide)⟩
theorem add_fit {a b : Rat} {i j : Nat} (ha : fitR i a) (hb : fitR j b) : fitR (i + j + 1) (a + b) := by
 rw [Rat.add_def']
 have h1 := mulb ha.1 (den_abs b hb) (Nat.le_refl (i + j))
 have h2 := mulb hb.1 (den_abs a ha) (show j + i ≤ i + j by omega)
 have h3 := Nat.mul_lt_mul'' ha.2 hb.2
 rw [← Nat.pow_add] at h3
 exact mk_fit (addb h1 h2) (Nat.lt_of_lt_of_le h3 (Nat.pow_le_pow_right (by decide) (by omega))) (Nat.mul_pos a.den_pos b.den_pos)
theorem mul_fit {a b : Rat} {i j : Nat} (ha : fitR i a) (hb : fitR j b) : fitR (i + j) (a * b) := by
 rw [Rat.mul_def']
 have h3 := Nat.mul_lt_mul'' ha.2 hb.2
 rw [← Nat.pow_add] at h3
 exact mk_fit (mulb ha.1 hb.1 (Nat.le_refl _)) h3 (Nat.mul_pos a.den_pos b.den_pos)
theorem sub_fit {a b : Rat} (ha : fitR 100 a) (hb : fitR 100 b) (h : okS a b = true) : fitR 200 (a - b) := by
 rw [Rat.sub_def']
 rw [okS, Bool.and_eq_true, Bool.and_eq_true, Bool.and_eq_true] at h
 have h3 := Nat.mul_lt_mul'' ha.2 hb.2
 rw [← Nat.pow_add] at h3
 exact mk_fit (of_decide_eq_true h.2) h3 (Nat.mul_pos a.den_pos b.den_pos)

set_option maxRecDepth 100000 in
set_option maxHeartbeats 16000000 in
theorem rorder_any (x0 x1 x2 x3 y0 y1 y2 y3 z0 z1 z2 z3 s0 s1 : Int) (w : World) (bx0 : -9223372036854775808 ≤ x0 ∧ x0 ≤ 9223372036854775807) (bx1 : -9223372036854775808 ≤ x1 ∧ x1 ≤ 9223372036854775807) (bx2 : -9223372036854775808 ≤ x2 ∧ x2 ≤ 9223372036854775807) (bx3 : -9223372036854775808 ≤ x3 ∧ x3 ≤ 9223372036854775807) (by0 : -9223372036854775808 ≤ y0 ∧ y0 ≤ 9223372036854775807) (by1 : -9223372036854775808 ≤ y1 ∧ y1 ≤ 9223372036854775807) (by2 : -9223372036854775808 ≤ y2 ∧ y2 ≤ 9223372036854775807) (by3 : -9223372036854775808 ≤ y3 ∧ y3 ≤ 9223372036854775807) (bz0 : -9223372036854775808 ≤ z0 ∧ z0 ≤ 9223372036854775807) (bz1 : -9223372036854775808 ≤ z1 ∧ z1 ≤ 9223372036854775807) (bz2 : -9223372036854775808 ≤ z2 ∧ z2 ≤ 9223372036854775807) (bz3 : -9223372036854775808 ≤ z3 ∧ z3 ≤ 9223372036854775807) (bs0 : -9223372036854775808 ≤ s0 ∧ s0 ≤ 9223372036854775807) (bs1 : -9223372036854775808 ≤ s1 ∧ s1 ≤ 9223372036854775807) (hT : Tz w) :
  Calls Tryz.prog 7 #[.agg #[.int .i64 x0, .int .i64 x1, .int .i64 x2, .int .i64 x3], .agg #[.int .i64 y0, .int .i64 y1, .int .i64 y2, .int .i64 y3], .agg #[.int .i64 z0, .int .i64 z1, .int .i64 z2, .int .i64 z3], .agg #[.int .i64 s0, .int .i64 s1]] w fun e w' => e = .returned (.bool true) ∧ Below w.heap.size w w' := by
 have h1 : (w.alloc (.cells #[.int .i64 x0, .int .i64 x1, .int .i64 x2, .int .i64 x3] 24)).heap.size = w.heap.size + 1 := World.size_alloc _ _
 have h2 : ((w.alloc (.cells #[.int .i64 x0, .int .i64 x1, .int .i64 x2, .int .i64 x3] 24)).alloc (.cells #[.int .i64 y0, .int .i64 y1, .int .i64 y2, .int .i64 y3] 24)).heap.size = w.heap.size + 1 + 1 := by rw [World.size_alloc, h1]
 have h3 : (((w.alloc (.cells #[.int .i64 x0, .int .i64 x1, .int .i64 x2, .int .i64 x3] 24)).alloc (.cells #[.int .i64 y0, .int .i64 y1, .int .i64 y2, .int .i64 y3] 24)).alloc (.cells #[.int .i64 z0, .int .i64 z1, .int .i64 z2, .int .i64 z3] 24)).heap.size = w.heap.size + 1 + 1 + 1 := by rw [World.size_alloc, h2]
 have X := Lib.hid ((((CBlk.new w #[.int .i64 x0, .int .i64 x1, .int .i64 x2, .int .i64 x3] 24).alloc (.cells #[.int .i64 y0, .int .i64 y1, .int .i64 y2, .int .i64 y3] 24)).alloc (.cells #[.int .i64 z0, .int .i64 z1, .int .i64 z2, .int .i64 z3] 24)).alloc (.cells #[.int .i64 s0, .int .i64 s1] 25))
 have Y := Lib.hid (((h1 ▸ CBlk.new (w.alloc (.cells #[.int .i64 x0, .int .i64 x1, .int .i64 x2, .int .i64 x3] 24)) #[.int .i64 y0, .int .i64 y1, .int .i64 y2, .int .i64 y3] 24 : CBlk ((w.alloc (.cells #[.int .i64 x0, .int .i64 x1, .int .i64 x2, .int .i64 x3] 24)).alloc (.cells #[.int .i64 y0, .int .i64 y1, .int .i64 y2, .int .i64 y3] 24)) (w.heap.size + 1) #[.int .i64 y0, .int .i64 y1, .int .i64 y2, .int .i64 y3] 24).alloc (.cells #[.int .i64 z0, .int .i64 z1, .int .i64 z2, .int .i64 z3] 24)).alloc (.cells #[.int .i64 s0, .int .i64 s1] 25))
 have Z := Lib.hid ((h2 ▸ CBlk.new ((w.alloc (.cells #[.int .i64 x0, .int .i64 x1, .int .i64 x2, .int .i64 x3] 24)).alloc (.cells #[.int .i64 y0, .int .i64 y1, .int .i64 y2, .int .i64 y3] 24)) #[.int .i64 z0, .int .i64 z1, .int .i64 z2, .int .i64 z3] 24 : CBlk (((w.alloc (.cells #[.int .i64 x0, .int .i64 x1, .int .i64 x2, .int .i64 x3] 24)).alloc (.cells #[.int .i64 y0, .int .i64 y1, .int .i64 y2, .int .i64 y3] 24)).alloc (.cells #[.int .i64 z0, .int .i64 z1, .int .i64 z2, .int .i64 z3] 24)) (w.heap.size + 1 + 1) #[.int .i64 z0, .int .i64 z1, .int .i64 z2, .int .i64 z3] 24).alloc (.cells #[.int .i64 s0, .int .i64 s1] 25))
 have Sm := Lib.hid (h3 ▸ PB.new 25 (((w.alloc (.cells #[.int .i64 x0, .int .i64 x1, .int .i64 x2, .int .i64 x3] 24)).alloc (.cells #[.int .i64 y0, .int .i64 y1, .int .i64 y2, .int .i64 y3] 24)).alloc (.cells #[.int .i64 z0, .int .i64 z1, .int .i64 z2, .int .i64 z3] 24)) (.int .i64 s0) (.int .i64 s1) : PB 25 ((((w.alloc (.cells #[.int .i64 x0, .int .i64 x1, .int .i64 x2, .int .i64 x3] 24)).alloc (.cells #[.int .i64 y0, .int .i64 y1, .int .i64 y2, .int .i64 y3] 24)).alloc (.cells #[.int .i64 z0, .int .i64 z1, .int .i64 z2, .int .i64 z3] 24)).alloc (.cells #[.int .i64 s0, .int .i64 s1] 25)) (w.heap.size + 1 + 1 + 1) (.int .i64 s0) (.int .i64 s1))
 have HB := Lib.hid ((((below_alloc w (.cells #[.int .i64 x0, .int .i64 x1, .int .i64 x2, .int .i64 x3] 24)).alloc (by rw [h1]; omega) (.cells #[.int .i64 y0, .int .i64 y1, .int .i64 y2, .int .i64 y3] 24)).alloc (by rw [h2]; omega) (.cells #[.int .i64 z0, .int .i64 z1, .int .i64 z2, .int .i64 z3] 24)).alloc (by rw [h3]; omega) (.cells #[.int .i64 s0, .int .i64 s1] 25))
 have HT := Lib.hid hT
 clear hT h1 h2 h3
 go_enter Tryz.func7, Tryz.ntmps7
 go_wp2_with fail
 go_at_call 11
 refine (sane4_any _ (HT.out.below HB.out)).mono ?_
 rintro e W1 ⟨rfl, B⟩
 have Xn := Lib.hid ((X.out.keep B X.out.lt))
 have Yn := Lib.hid ((Y.out.keep B Y.out.lt))
 have Zn := Lib.hid ((Z.out.keep B Z.out.lt))
 have Smn := Lib.hid ((Sm.out.keep B Sm.out.lt))
 have HBn := Lib.hid (HB.out.trans (B.mono HB.out.size))
 clear X Y Z Sm HB
 have X := Xn
 have Y := Yn
 have Z := Zn
 have Sm := Smn
 have HB := HBn
 clear Xn Yn Zn Smn HBn
 clear B
 have Xc0 := X.out.c 0 rfl
 have Xc1 := X.out.c 1 rfl
 have Xc2 := X.out.c 2 rfl
 have Xc3 := X.out.c 3 rfl
 go_wp2_with fail
 clear Xc0 Xc1 Xc2 Xc3
 go_at_call 13
 refine (Long_ag23 x0 x1 x2 x3 _ bx0 bx1 bx2 bx3).mono ?_
 rintro e W2 ⟨qa, rfl, hqa, B⟩
 have Xn := Lib.hid ((X.out.keep B X.out.lt).alloc (.cells #[(.string (S qa.num)), (.string (S (qa.den : Int)))] 23))
 have Yn := Lib.hid ((Y.out.keep B Y.out.lt).alloc (.cells #[(.string (S qa.num)), (.string (S (qa.den : Int)))] 23))
 have Zn := Lib.hid ((Z.out.keep B Z.out.lt).alloc (.cells #[(.string (S qa.num)), (.string (S (qa.den : Int)))] 23))
 have Smn := Lib.hid ((Sm.out.keep B Sm.out.lt).alloc (.cells #[(.string (S qa.num)), (.string (S (qa.den : Int)))] 23))
 have HBn := Lib.hid ((HB.out.trans (B.mono HB.out.size)).alloc (HB.out.trans (B.mono HB.out.size)).size (.cells #[(.string (S qa.num)), (.string (S (qa.den : Int)))] 23))
 clear X Y Z Sm HB
 have X := Xn
 have Y := Yn
 have Z := Zn
 have Sm := Smn
 have HB := HBn
 clear Xn Yn Zn Smn HBn
 have Aqa := Lib.hid (RBlk.new W2 (.string (S qa.num)) (.string (S (qa.den : Int))))
 clear B
 clear X
 have Xc0 := Y.out.c 0 rfl
 have Xc1 := Y.out.c 1 rfl
 have Xc2 := Y.out.c 2 rfl
 have Xc3 := Y.out.c 3 rfl
 go_wp2_with fail
 clear Xc0 Xc1 Xc2 Xc3
 go_at_call 13
 refine (Long_ag23 y0 y1 y2 y3 _ by0 by1 by2 by3).mono ?_
 rintro e W3 ⟨qb, rfl, hqb, B⟩
 have Yn := Lib.hid ((Y.out.keep B Y.out.lt).alloc (.cells #[(.string (S qb.num)), (.string (S (qb.den : Int)))] 23))
 have Zn := Lib.hid ((Z.out.keep B Z.out.lt).alloc (.cells #[(.string (S qb.num)), (.string (S (qb.den : Int)))] 23))
 have Smn := Lib.hid ((Sm.out.keep B Sm.out.lt).alloc (.cells #[(.string (S qb.num)), (.string (S (qb.den : Int)))] 23))
 have Aqan := Lib.hid ((Aqa.out.keep B Aqa.out.lt).alloc (.cells #[(.string (S qb.num)), (.string (S (qb.den : Int)))] 23))
 have HBn := Lib.hid ((HB.out.trans (B.mono HB.out.size)).alloc (HB.out.trans (B.mono HB.out.size)).size (.cells #[(.string (S qb.num)), (.string (S (qb.den : Int)))] 23))
 clear Y Z Sm Aqa HB
 have Y := Yn
 have Z := Zn
 have Sm := Smn
 have Aqa := Aqan
 have HB := HBn
 clear Yn Zn Smn Aqan HBn
 have Aqb := Lib.hid (RBlk.new W3 (.string (S qb.num)) (.string (S (qb.den : Int))))
 clear B
 clear Y
 have Xc0 := Z.out.c 0 rfl
 have Xc1 := Z.out.c 1 rfl
 have Xc2 := Z.out.c 2 rfl
 have Xc3 := Z.out.c 3 rfl
 go_wp2_with fail
 clear Xc0 Xc1 Xc2 Xc3
 go_at_call 13
 refine (Long_ag23 z0 z1 z2 z3 _ bz0 bz1 bz2 bz3).mono ?_
 rintro e W4 ⟨qc, rfl, hqc, B⟩
 have Zn := Lib.hid ((Z.out.keep B Z.out.lt).alloc (.cells #[(.string (S qc.num)), (.string (S (qc.den : Int)))] 23))
 have Smn := Lib.hid ((Sm.out.keep B Sm.out.lt).alloc (.cells #[(.string (S qc.num)), (.string (S (qc.den : Int)))] 23))
 have Aqan := Lib.hid ((Aqa.out.keep B Aqa.out.lt).alloc (.cells #[(.string (S qc.num)), (.string (S (qc.den : Int)))] 23))
 have Aqbn := Lib.hid ((Aqb.out.keep B Aqb.out.lt).alloc (.cells #[(.string (S qc.num)), (.string (S (qc.den : Int)))] 23))
 have HBn := Lib.hid ((HB.out.trans (B.mono HB.out.size)).alloc (HB.out.trans (B.mono HB.out.size)).size (.cells #[(.string (S qc.num)), (.string (S (qc.den : Int)))] 23))
 clear Z Sm Aqa Aqb HB
 have Z := Zn
 have Sm := Smn
 have Aqa := Aqan
 have Aqb := Aqbn
 have HB := HBn
 clear Zn Smn Aqan Aqbn HBn
 have Aqc := Lib.hid (RBlk.new W4 (.string (S qc.num)) (.string (S (qc.den : Int))))
 clear B
 clear Z
 have Xc0 := Sm.out.c0
 have Xc1 := Sm.out.c1
 go_wp2_with fail
 clear Xc0 Xc1
 go_at_call 14
 refine (Small_ag2 s0 s1 _ bs0 bs1).mono ?_
 rintro e W5 ⟨qt, rfl, hqt, B⟩
 have Smn := Lib.hid ((Sm.out.keep B Sm.out.lt).alloc (.cells #[(.string (S qt.num)), (.string (S (qt.den : Int)))] 23))
 have Aqan := Lib.hid ((Aqa.out.keep B Aqa.out.lt).alloc (.cells #[(.string (S qt.num)), (.string (S (qt.den : Int)))] 23))
 have Aqbn := Lib.hid ((Aqb.out.keep B Aqb.out.lt).alloc (.cells #[(.string (S qt.num)), (.string (S (qt.den : Int)))] 23))
 have Aqcn := Lib.hid ((Aqc.out.keep B Aqc.out.lt).alloc (.cells #[(.string (S qt.num)), (.string (S (qt.den : Int)))] 23))
 have HBn := Lib.hid ((HB.out.trans (B.mono HB.out.size)).alloc (HB.out.trans (B.mono HB.out.size)).size (.cells #[(.string (S qt.num)), (.string (S (qt.den : Int)))] 23))
 clear Sm Aqa Aqb Aqc HB
 have Sm := Smn
 have Aqa := Aqan
 have Aqb := Aqbn
 have Aqc := Aqcn
 have HB := HBn
 clear Smn Aqan Aqbn Aqcn HBn
 have Aqt := Lib.hid (RBlk.new W5 (.string (S qt.num)) (.string (S (qt.den : Int))))
 clear B
 clear Sm
 have fa := hqa.wide (l := 200) (by decide)
 have fb := hqb.wide (l := 200) (by decide)
 have fc := hqc.wide (l := 200) (by decide)
 have ft := small_fit3 hqt
 have ft2 := ft.wide (l := 200) (by decide)
 have k1 := fun W => qCompare_R qa qb fa fb W
 have k2 := fun W => qCompare_R qb qc fb fc W
 have k3 := fun W => qCompare_R qa qc fa fc W
 have k4 := fun W => qCompare_R qb qa fb fa W
 rw [cmpR_swap qa qb] at k4
 have k5 := fun W => qCompare_R qa qa fa fa W
 rw [cmpR_self] at k5
 obtain ⟨o1, o2⟩ := ord_facts qa qb qc
 have o3 := cmpR_bd qa qb
 have o4 := (cmpR_zero qa qb).1
 have o5 : cmpR qa qb ≠ 0 → qa ≠ qb := fun h e => h ((cmpR_zero qa qb).2 e)
 have o6 := cmpR_bd qt 0
 have cs := fun W => qSub_R qa qb fa fb W
 have kd := fun (h : okS qa qb = true) W => qCompare_R (qa - qb) 0 (sub_fit hqa hqb h) ⟨by decide, by decide⟩ W
 rw [cmpR_sub] at kd
 have ca := fun W => qAdd_R qa qt fa ft2 W
 rw [okA_ok3 hqa ft (by decide), opQ, if_pos rfl] at ca
 have cb := fun W => qAdd_R qb qt fb ft2 W
 rw [okA_ok3 hqb ft (by decide), opQ, if_pos rfl] at cb
 have ka := fun W => qCompare_R (qa + qt) (qb + qt) ((add_fit hqa ft).wide (by decide)) ((add_fit hqb ft).wide (by decide)) W
 rw [cmpR_add] at ka
 have ma := fun W => qMul_R qa qt fa ft2 W
 rw [okM_ok3 hqa ft (by decide), opQ, if_pos rfl] at ma
 have mb := fun W => qMul_R qb qt fb ft2 W
 rw [okM_ok3 hqb ft (by decide), opQ, if_pos rfl] at mb
 have km := fun W => qCompare_R (qa * qt) (qb * qt) ((mul_fit hqa ft).wide (by decide)) ((mul_fit hqb ft).wide (by decide)) W
 rw [cmpR_mul] at km
 have kt := fun W => qCompare_R qt 0 ft2 ⟨by decide, by decide⟩ W
 have hne := fun h => RV_ne (o5 h)
 have hwm : IntKind.i64.wrap (cmpR qa qb * cmpR qt 0) = cmpR qa qb * cmpR qt 0 := by
  rcases o3 with h | h | h <;> rcases o6 with h' | h' | h' <;> rw [h, h'] <;> decide
 rw [RV_zero] at kd kt
 have HE := Lib.hid (show cmpR qa qb = 0 → S qa.num = S qb.num ∧ S (qa.den : Int) = S (qb.den : Int) from fun h => by rw [o4 h]; exact ⟨rfl, rfl⟩)
 clear o4 o5
 have hs : ∃ (d1 d2 : ByteArray) (de : Int), (∀ W, Calls Tryz.prog 40 #[RV qa, RV qb] W fun e w' => e = .returned (.tuple #[.agg #[.string d1, .string d2], .int .i64 de]) ∧ Below W.heap.size W w') ∧ (de = 40 ∨ (de = 0 ∧ ∀ W, Calls Tryz.prog 20 #[.agg #[.string d1, .string d2], .agg #[.string ⟨#[48]⟩, .string ⟨#[49]⟩]] W fun e w' => e = .returned (.int .i64 (cmpR qa qb)) ∧ Below W.heap.size W w')) := by
  cases h : okS qa qb
  ·
   rw [h, opQ, if_neg (by decide)] at cs
   exact ⟨_, _, 40, cs, .inl rfl⟩
  ·
   rw [h, opQ, if_pos rfl] at cs
   exact ⟨_, _, 0, cs, .inr ⟨rfl, kd h⟩⟩
 obtain ⟨d1, d2, de, cs', hde⟩ := hs
 clear cs kd
 unfold RV at k1 k2 k3 k4 k5 ca cb ka ma mb km kt cs'
 clear fa fb fc ft ft2 hqa hqb hqc hqt
 generalize S qa.num = a1 at *
 generalize S (qa.den : Int) = a2 at *
 generalize S qb.num = b1 at *
 generalize S (qb.den : Int) = b2 at *
 generalize S qc.num = c1 at *
 generalize S (qc.den : Int) = c2 at *
 generalize S qt.num = t1 at *
 generalize S (qt.den : Int) = t2 at *
 generalize S (qa + qt).num = p1 at *
 generalize S ((qa + qt).den : Int) = p2 at *
 generalize S (qb + qt).num = p3 at *
 generalize S ((qb + qt).den : Int) = p4 at *
 generalize S (qa * qt).num = m1 at *
 generalize S ((qa * qt).den : Int) = m2 at *
 generalize S (qb * qt).num = m3 at *
 generalize S ((qb * qt).den : Int) = m4 at *
 generalize cmpR qa qb = v1 at *
 generalize cmpR qb qc = v2 at *
 generalize cmpR qa qc = v3 at *
 generalize cmpR qt 0 = v4 at *
 have Hk1 := Lib.hid k1
 have Hk2 := Lib.hid k2
 have Hk3 := Lib.hid k3
 have Hk4 := Lib.hid k4
 have Hk5 := Lib.hid k5
 have Hca := Lib.hid ca
 have Hcb := Lib.hid cb
 have Hka := Lib.hid ka
 have Hma := Lib.hid ma
 have Hmb := Lib.hid mb
 have Hkm := Lib.hid km
 have Hkt := Lib.hid kt
 have Hcs := Lib.hid cs'
 clear k1 k2 k3 k4 k5 ca cb ka ma mb km kt cs'
 have O1 := Lib.hid o1
 have O2 := Lib.hid o2
 have O3 := Lib.hid o3
 have O6 := Lib.hid o6
 have HNE := Lib.hid hne
 have HDE := Lib.hid hde
 clear o1 o2 o3 o6 hne hde
 have Aqac0 := Aqa.out.c0
 have Aqac1 := Aqa.out.c1
 have Aqbc0 := Aqb.out.c0
 have Aqbc1 := Aqb.out.c1
 go_wp2_with fail
 clear Aqac0 Aqac1 Aqbc0 Aqbc1
 go_at_call 20
 refine (Hk1.out _).mono ?_
 rintro e W6 ⟨rfl, B⟩
 have Aqan := Lib.hid ((Aqa.out.keep B Aqa.out.lt))
 have Aqbn := Lib.hid ((Aqb.out.keep B Aqb.out.lt))
 have Aqcn := Lib.hid ((Aqc.out.keep B Aqc.out.lt))
 have Aqtn := Lib.hid ((Aqt.out.keep B Aqt.out.lt))
 have HBn := Lib.hid (HB.out.trans (B.mono HB.out.size))
 clear Aqa Aqb Aqc Aqt HB
 have Aqa := Aqan
 have Aqb := Aqbn
 have Aqc := Aqcn
 have Aqt := Aqtn
 have HB := HBn
 clear Aqan Aqbn Aqcn Aqtn HBn
 clear B
 have Aqbc0 := Aqb.out.c0
 have Aqbc1 := Aqb.out.c1
 have Aqcc0 := Aqc.out.c0
 have Aqcc1 := Aqc.out.c1
 (try go_wp2_with fail)
 clear Aqbc0 Aqbc1 Aqcc0 Aqcc1
 go_at_call 20
 refine (Hk2.out _).mono ?_
 rintro e W7 ⟨rfl, B⟩
 have Aqan := Lib.hid ((Aqa.out.keep B Aqa.out.lt))
 have Aqbn := Lib.hid ((Aqb.out.keep B Aqb.out.lt))
 have Aqcn := Lib.hid ((Aqc.out.keep B Aqc.out.lt))
 have Aqtn := Lib.hid ((Aqt.out.keep B Aqt.out.lt))
 have HBn := Lib.hid (HB.out.trans (B.mono HB.out.size))
 clear Aqa Aqb Aqc Aqt HB
 have Aqa := Aqan
 have Aqb := Aqbn
 have Aqc := Aqcn
 have Aqt := Aqtn
 have HB := HBn
 clear Aqan Aqbn Aqcn Aqtn HBn
 clear B
 have Aqac0 := Aqa.out.c0
 have Aqac1 := Aqa.out.c1
 have Aqcc0 := Aqc.out.c0
 have Aqcc1 := Aqc.out.c1
 (try go_wp2_with fail)
 clear Aqac0 Aqac1 Aqcc0 Aqcc1
 go_at_call 20
 refine (Hk3.out _).mono ?_
 rintro e W8 ⟨rfl, B⟩
 have Aqan := Lib.hid ((Aqa.out.keep B Aqa.out.lt))
 have Aqbn := Lib.hid ((Aqb.out.keep B Aqb.out.lt))
 have Aqcn := Lib.hid ((Aqc.out.keep B Aqc.out.lt))
 have Aqtn := Lib.hid ((Aqt.out.keep B Aqt.out.lt))
 have HBn := Lib.hid (HB.out.trans (B.mono HB.out.size))
 clear Aqa Aqb Aqc Aqt HB
 have Aqa := Aqan
 have Aqb := Aqbn
 have Aqc := Aqcn
 have Aqt := Aqtn
 have HB := HBn
 clear Aqan Aqbn Aqcn Aqtn HBn
 clear B
 go_upto_region 9 with fail
 go_cut [92] from 24 (fun sv wc => sv = .bool false ∧ Hid (RBlk wc (W2.heap.size) (.string a1) (.string a2)) ∧ Hid (RBlk wc (W3.heap.size) (.string b1) (.string b2)) ∧ Hid (RBlk wc (W4.heap.size) (.string c1) (.string c2)) ∧ Hid (RBlk wc (W5.heap.size) (.string t1) (.string t2)) ∧ Hid (Below w.heap.size w wc))
 case first =>
  have Aqac0 := Aqa.out.c0
  have Aqac1 := Aqa.out.c1
  have Aqbc0 := Aqb.out.c0
  have Aqbc1 := Aqb.out.c1
  rcases O3.out with hv | hv | hv
  ·
   rcases (by omega : 0 < v2 ∨ v2 = 0 ∨ v2 < 0) with hu | hu | hu
   ·
    have g1 : ¬ (v2 ≤ 0) := by omega
    have g2 : ¬ (v2 < 0) := by omega
    rcases HNE.out (by rw [hv]; decide) with hn | ⟨hn1, hn⟩
    ·
     subst hv
     go_wp2_with fail
     go_at_call 20
     refine (Hk4.out _).mono ?_
     rintro e Wmpa1 ⟨rfl, B⟩
     have Aqan := Lib.hid ((Aqa.out.keep B Aqa.out.lt))
     have Aqbn := Lib.hid ((Aqb.out.keep B Aqb.out.lt))
     have Aqcn := Lib.hid ((Aqc.out.keep B Aqc.out.lt))
     have Aqtn := Lib.hid ((Aqt.out.keep B Aqt.out.lt))
     have HBn := Lib.hid (HB.out.trans (B.mono HB.out.size))
     clear Aqa Aqb Aqc Aqt HB
     have Aqa := Aqan
     have Aqb := Aqbn
     have Aqc := Aqcn
     have Aqt := Aqtn
     have HB := HBn
     clear Aqan Aqbn Aqcn Aqtn HBn
     clear B
     have Aqac0 := Aqa.out.c0
     have Aqac1 := Aqa.out.c1
     have Aqbc0 := Aqb.out.c0
     have Aqbc1 := Aqb.out.c1
     (try go_wp2_with fail)
     clear Aqac0 Aqac1 Aqbc0 Aqbc1
     go_at_call 20
     refine (Hk5.out _).mono ?_
     rintro e Wmpa2 ⟨rfl, B⟩
     have Aqan := Lib.hid ((Aqa.out.keep B Aqa.out.lt))
     have Aqbn := Lib.hid ((Aqb.out.keep B Aqb.out.lt))
     have Aqcn := Lib.hid ((Aqc.out.keep B Aqc.out.lt))
     have Aqtn := Lib.hid ((Aqt.out.keep B Aqt.out.lt))
     have HBn := Lib.hid (HB.out.trans (B.mono HB.out.size))
     clear Aqa Aqb Aqc Aqt HB
     have Aqa := Aqan
     have Aqb := Aqbn
     have Aqc := Aqcn
     have Aqt := Aqtn
     have HB := HBn
     clear Aqan Aqbn Aqcn Aqtn HBn
     clear B
     (try go_wp2_with fail)
     go_meet
     case rel => exact ⟨by first | rfl | (rw [decide_eq_false (show ¬ (0 < v3) by omega), decide_eq_false (show ¬ (0 ≤ v3) by omega)]; rfl) | (rw [decide_eq_false (show ¬ (0 < v3) by omega)]), Aqa, Aqb, Aqc, Aqt, HB⟩
    ·
     subst hn1
     subst hv
     go_wp2_with fail
     go_at_call 20
     refine (Hk4.out _).mono ?_
     rintro e Wmpb1 ⟨rfl, B⟩
     have Aqan := Lib.hid ((Aqa.out.keep B Aqa.out.lt))
     have Aqbn := Lib.hid ((Aqb.out.keep B Aqb.out.lt))
     have Aqcn := Lib.hid ((Aqc.out.keep B Aqc.out.lt))
     have Aqtn := Lib.hid ((Aqt.out.keep B Aqt.out.lt))
     have HBn := Lib.hid (HB.out.trans (B.mono HB.out.size))
     clear Aqa Aqb Aqc Aqt HB
     have Aqa := Aqan
     have Aqb := Aqbn
     have Aqc := Aqcn
     have Aqt := Aqtn
     have HB := HBn
     clear Aqan Aqbn Aqcn Aqtn HBn
     clear B
     have Aqac0 := Aqa.out.c0
     have Aqac1 := Aqa.out.c1
     have Aqbc0 := Aqb.out.c0
     have Aqbc1 := Aqb.out.c1
     (try go_wp2_with fail)
     clear Aqac0 Aqac1 Aqbc0 Aqbc1
     go_at_call 20
     refine (Hk5.out _).mono ?_
     rintro e Wmpb2 ⟨rfl, B⟩
     have Aqan := Lib.hid ((Aqa.out.keep B Aqa.out.lt))
     have Aqbn := Lib.hid ((Aqb.out.keep B Aqb.out.lt))
     have Aqcn := Lib.hid ((Aqc.out.keep B Aqc.out.lt))
     have Aqtn := Lib.hid ((Aqt.out.keep B Aqt.out.lt))
     have HBn := Lib.hid (HB.out.trans (B.mono HB.out.size))
     clear Aqa Aqb Aqc Aqt HB
     have Aqa := Aqan
     have Aqb := Aqbn
     have Aqc := Aqcn
     have Aqt := Aqtn
     have HB := HBn
     clear Aqan Aqbn Aqcn Aqtn HBn
     clear B
     (try go_wp2_with fail)
     go_meet
     case rel => exact ⟨by first | rfl | (rw [decide_eq_false (show ¬ (0 < v3) by omega), decide_eq_false (show ¬ (0 ≤ v3) by omega)]; rfl) | (rw [decide_eq_false (show ¬ (0 < v3) by omega)]), Aqa, Aqb, Aqc, Aqt, HB⟩
   ·
    have g0 := O1.out (by omega) (by omega)
    have g1 : ¬ (0 < v3) := by omega
    have g3 : ¬ (v3 > 0) := by omega
    have g2 : ¬ (v2 < 0) := by omega
    have g4 : v2 ≤ 0 := by omega
    clear hu
    rcases HNE.out (by rw [hv]; decide) with hn | ⟨hn1, hn⟩
    ·
     subst hv
     go_wp2_with fail
     go_at_call 20
     refine (Hk4.out _).mono ?_
     rintro e Wmza1 ⟨rfl, B⟩
     have Aqan := Lib.hid ((Aqa.out.keep B Aqa.out.lt))
     have Aqbn := Lib.hid ((Aqb.out.keep B Aqb.out.lt))
     have Aqcn := Lib.hid ((Aqc.out.keep B Aqc.out.lt))
     have Aqtn := Lib.hid ((Aqt.out.keep B Aqt.out.lt))
     have HBn := Lib.hid (HB.out.trans (B.mono HB.out.size))
     clear Aqa Aqb Aqc Aqt HB
     have Aqa := Aqan
     have Aqb := Aqbn
     have Aqc := Aqcn
     have Aqt := Aqtn
     have HB := HBn
     clear Aqan Aqbn Aqcn Aqtn HBn
     clear B
     have Aqac0 := Aqa.out.c0
     have Aqac1 := Aqa.out.c1
     have Aqbc0 := Aqb.out.c0
     have Aqbc1 := Aqb.out.c1
     (try go_wp2_with fail)
     clear Aqac0 Aqac1 Aqbc0 Aqbc1
     go_at_call 20
     refine (Hk5.out _).mono ?_
     rintro e Wmza2 ⟨rfl, B⟩
     have Aqan := Lib.hid ((Aqa.out.keep B Aqa.out.lt))
     have Aqbn := Lib.hid ((Aqb.out.keep B Aqb.out.lt))
     have Aqcn := Lib.hid ((Aqc.out.keep B Aqc.out.lt))
     have Aqtn := Lib.hid ((Aqt.out.keep B Aqt.out.lt))
     have HBn := Lib.hid (HB.out.trans (B.mono HB.out.size))
     clear Aqa Aqb Aqc Aqt HB
     have Aqa := Aqan
     have Aqb := Aqbn
     have Aqc := Aqcn
     have Aqt := Aqtn
     have HB := HBn
     clear Aqan Aqbn Aqcn Aqtn HBn
     clear B
     (try go_wp2_with fail)
     go_meet
     case rel => exact ⟨by first | rfl | (rw [decide_eq_false (show ¬ (0 < v3) by omega), decide_eq_false (show ¬ (0 ≤ v3) by omega)]; rfl) | (rw [decide_eq_false (show ¬ (0 < v3) by omega)]), Aqa, Aqb, Aqc, Aqt, HB⟩
    ·
     subst hn1
     subst hv
     go_wp2_with fail
     go_at_call 20
     refine (Hk4.out _).mono ?_
     rintro e Wmzb1 ⟨rfl, B⟩
     have Aqan := Lib.hid ((Aqa.out.keep B Aqa.out.lt))
     have Aqbn := Lib.hid ((Aqb.out.keep B Aqb.out.lt))
     have Aqcn := Lib.hid ((Aqc.out.keep B Aqc.out.lt))
     have Aqtn := Lib.hid ((Aqt.out.keep B Aqt.out.lt))
     have HBn := Lib.hid (HB.out.trans (B.mono HB.out.size))
     clear Aqa Aqb Aqc Aqt HB
     have Aqa := Aqan
     have Aqb := Aqbn
     have Aqc := Aqcn
     have Aqt := Aqtn
     have HB := HBn
     clear Aqan Aqbn Aqcn Aqtn HBn
     clear B
     have Aqac0 := Aqa.out.c0
     have Aqac1 := Aqa.out.c1
     have Aqbc0 := Aqb.out.c0
     have Aqbc1 := Aqb.out.c1
     (try go_wp2_with fail)
     clear Aqac0 Aqac1 Aqbc0 Aqbc1
     go_at_call 20
     refine (Hk5.out _).mono ?_
     rintro e Wmzb2 ⟨rfl, B⟩
     have Aqan := Lib.hid ((Aqa.out.keep B Aqa.out.lt))
     have Aqbn := Lib.hid ((Aqb.out.keep B Aqb.out.lt))
     have Aqcn := Lib.hid ((Aqc.out.keep B Aqc.out.lt))
     have Aqtn := Lib.hid ((Aqt.out.keep B Aqt.out.lt))
     have HBn := Lib.hid (HB.out.trans (B.mono HB.out.size))
     clear Aqa Aqb Aqc Aqt HB
     have Aqa := Aqan
     have Aqb := Aqbn
     have Aqc := Aqcn
     have Aqt := Aqtn
     have HB := HBn
     clear Aqan Aqbn Aqcn Aqtn HBn
     clear B
     (try go_wp2_with fail)
     go_meet
     case rel => exact ⟨by first | rfl | (rw [decide_eq_false (show ¬ (0 < v3) by omega), decide_eq_false (show ¬ (0 ≤ v3) by omega)]; rfl) | (rw [decide_eq_false (show ¬ (0 < v3) by omega)]), Aqa, Aqb, Aqc, Aqt, HB⟩
   ·
    have g0 := O1.out (by omega) (by omega)
    have g9 := O2.out (by omega) hu
    have g1 : ¬ (0 < v3) := by omega
    have g3 : ¬ (v3 > 0) := by omega
    have g2 : ¬ (0 ≤ v3) := by omega
    have g5 : ¬ (v3 ≥ 0) := by omega
    have g4 : v2 ≤ 0 := by omega
    rcases HNE.out (by rw [hv]; decide) with hn | ⟨hn1, hn⟩
    ·
     subst hv
     go_wp2_with fail
     go_at_call 20
     refine (Hk4.out _).mono ?_
     rintro e Wmna1 ⟨rfl, B⟩
     have Aqan := Lib.hid ((Aqa.out.keep B Aqa.out.lt))
     have Aqbn := Lib.hid ((Aqb.out.keep B Aqb.out.lt))
     have Aqcn := Lib.hid ((Aqc.out.keep B Aqc.out.lt))
     have Aqtn := Lib.hid ((Aqt.out.keep B Aqt.out.lt))
     have HBn := Lib.hid (HB.out.trans (B.mono HB.out.size))
     clear Aqa Aqb Aqc Aqt HB
     have Aqa := Aqan
     have Aqb := Aqbn
     have Aqc := Aqcn
     have Aqt := Aqtn
     have HB := HBn
     clear Aqan Aqbn Aqcn Aqtn HBn
     clear B
     have Aqac0 := Aqa.out.c0
     have Aqac1 := Aqa.out.c1
     have Aqbc0 := Aqb.out.c0
     have Aqbc1 := Aqb.out.c1
     (try go_wp2_with fail)
     clear Aqac0 Aqac1 Aqbc0 Aqbc1
     go_at_call 20
     refine (Hk5.out _).mono ?_
     rintro e Wmna2 ⟨rfl, B⟩
     have Aqan := Lib.hid ((Aqa.out.keep B Aqa.out.lt))
     have Aqbn := Lib.hid ((Aqb.out.keep B Aqb.out.lt))
     have Aqcn := Lib.hid ((Aqc.out.keep B Aqc.out.lt))
     have Aqtn := Lib.hid ((Aqt.out.keep B Aqt.out.lt))
     have HBn := Lib.hid (HB.out.trans (B.mono HB.out.size))
     clear Aqa Aqb Aqc Aqt HB
     have Aqa := Aqan
     have Aqb := Aqbn
     have Aqc := Aqcn
     have Aqt := Aqtn
     have HB := HBn
     clear Aqan Aqbn Aqcn Aqtn HBn
     clear B
     (try go_wp2_with fail)
     go_meet
     case rel => exact ⟨by first | rfl | (rw [decide_eq_false (show ¬ (0 < v3) by omega), decide_eq_false (show ¬ (0 ≤ v3) by omega)]; rfl) | (rw [decide_eq_false (show ¬ (0 < v3) by omega)]), Aqa, Aqb, Aqc, Aqt, HB⟩
    ·
     subst hn1
     subst hv
     go_wp2_with fail
     go_at_call 20
     refine (Hk4.out _).mono ?_
     rintro e Wmnb1 ⟨rfl, B⟩
     have Aqan := Lib.hid ((Aqa.out.keep B Aqa.out.lt))
     have Aqbn := Lib.hid ((Aqb.out.keep B Aqb.out.lt))
     have Aqcn := Lib.hid ((Aqc.out.keep B Aqc.out.lt))
     have Aqtn := Lib.hid ((Aqt.out.keep B Aqt.out.lt))
     have HBn := Lib.hid (HB.out.trans (B.mono HB.out.size))
     clear Aqa Aqb Aqc Aqt HB
     have Aqa := Aqan
     have Aqb := Aqbn
     have Aqc := Aqcn
     have Aqt := Aqtn
     have HB := HBn
     clear Aqan Aqbn Aqcn Aqtn HBn
     clear B
     have Aqac0 := Aqa.out.c0
     have Aqac1 := Aqa.out.c1
     have Aqbc0 := Aqb.out.c0
     have Aqbc1 := Aqb.out.c1
     (try go_wp2_with fail)
     clear Aqac0 Aqac1 Aqbc0 Aqbc1
     go_at_call 20
     refine (Hk5.out _).mono ?_
     rintro e Wmnb2 ⟨rfl, B⟩
     have Aqan := Lib.hid ((Aqa.out.keep B Aqa.out.lt))
     have Aqbn := Lib.hid ((Aqb.out.keep B Aqb.out.lt))
     have Aqcn := Lib.hid ((Aqc.out.keep B Aqc.out.lt))
     have Aqtn := Lib.hid ((Aqt.out.keep B Aqt.out.lt))
     have HBn := Lib.hid (HB.out.trans (B.mono HB.out.size))
     clear Aqa Aqb Aqc Aqt HB
     have Aqa := Aqan
     have Aqb := Aqbn
     have Aqc := Aqcn
     have Aqt := Aqtn
     have HB := HBn
     clear Aqan Aqbn Aqcn Aqtn HBn
     clear B
     (try go_wp2_with fail)
     go_meet
     case rel => exact ⟨by first | rfl | (rw [decide_eq_false (show ¬ (0 < v3) by omega), decide_eq_false (show ¬ (0 ≤ v3) by omega)]; rfl) | (rw [decide_eq_false (show ¬ (0 < v3) by omega)]), Aqa, Aqb, Aqc, Aqt, HB⟩
  ·
   rcases (by omega : 0 < v2 ∨ v2 = 0 ∨ v2 < 0) with hu | hu | hu
   ·
    have g1 : ¬ (v2 ≤ 0) := by omega
    have g2 : ¬ (v2 < 0) := by omega
    obtain ⟨ee1, ee2⟩ := HE.out hv
    subst ee1 ee2
    subst hv
    go_wp2_with fail
    go_at_call 20
    refine (Hk4.out _).mono ?_
    rintro e Wep1 ⟨rfl, B⟩
    have Aqan := Lib.hid ((Aqa.out.keep B Aqa.out.lt))
    have Aqbn := Lib.hid ((Aqb.out.keep B Aqb.out.lt))
    have Aqcn := Lib.hid ((Aqc.out.keep B Aqc.out.lt))
    have Aqtn := Lib.hid ((Aqt.out.keep B Aqt.out.lt))
    have HBn := Lib.hid (HB.out.trans (B.mono HB.out.size))
    clear Aqa Aqb Aqc Aqt HB
    have Aqa := Aqan
    have Aqb := Aqbn
    have Aqc := Aqcn
    have Aqt := Aqtn
    have HB := HBn
    clear Aqan Aqbn Aqcn Aqtn HBn
    clear B
    have Aqac0 := Aqa.out.c0
    have Aqac1 := Aqa.out.c1
    have Aqbc0 := Aqb.out.c0
    have Aqbc1 := Aqb.out.c1
    (try go_wp2_with fail)
    clear Aqac0 Aqac1 Aqbc0 Aqbc1
    go_at_call 20
    refine (Hk5.out _).mono ?_
    rintro e Wep2 ⟨rfl, B⟩
    have Aqan := Lib.hid ((Aqa.out.keep B Aqa.out.lt))
    have Aqbn := Lib.hid ((Aqb.out.keep B Aqb.out.lt))
    have Aqcn := Lib.hid ((Aqc.out.keep B Aqc.out.lt))
    have Aqtn := Lib.hid ((Aqt.out.keep B Aqt.out.lt))
    have HBn := Lib.hid (HB.out.trans (B.mono HB.out.size))
    clear Aqa Aqb Aqc Aqt HB
    have Aqa := Aqan
    have Aqb := Aqbn
    have Aqc := Aqcn
    have Aqt := Aqtn
    have HB := HBn
    clear Aqan Aqbn Aqcn Aqtn HBn
    clear B
    (try go_wp2_with fail)
    go_meet
    case rel => exact ⟨by first | rfl | (rw [decide_eq_false (show ¬ (0 < v3) by omega), decide_eq_false (show ¬ (0 ≤ v3) by omega)]; rfl) | (rw [decide_eq_false (show ¬ (0 < v3) by omega)]), Aqa, Aqb, Aqc, Aqt, HB⟩
   ·
    have g0 := O1.out (by omega) (by omega)
    have g1 : ¬ (0 < v3) := by omega
    have g3 : ¬ (v3 > 0) := by omega
    have g2 : ¬ (v2 < 0) := by omega
    have g4 : v2 ≤ 0 := by omega
    clear hu
    obtain ⟨ee1, ee2⟩ := HE.out hv
    subst ee1 ee2
    subst hv
    go_wp2_with fail
    go_at_call 20
    refine (Hk4.out _).mono ?_
    rintro e Wez1 ⟨rfl, B⟩
    have Aqan := Lib.hid ((Aqa.out.keep B Aqa.out.lt))
    have Aqbn := Lib.hid ((Aqb.out.keep B Aqb.out.lt))
    have Aqcn := Lib.hid ((Aqc.out.keep B Aqc.out.lt))
    have Aqtn := Lib.hid ((Aqt.out.keep B Aqt.out.lt))
    have HBn := Lib.hid (HB.out.trans (B.mono HB.out.size))
    clear Aqa Aqb Aqc Aqt HB
    have Aqa := Aqan
    have Aqb := Aqbn
    have Aqc := Aqcn
    have Aqt := Aqtn
    have HB := HBn
    clear Aqan Aqbn Aqcn Aqtn HBn
    clear B
    have Aqac0 := Aqa.out.c0
    have Aqac1 := Aqa.out.c1
    have Aqbc0 := Aqb.out.c0
    have Aqbc1 := Aqb.out.c1
    (try go_wp2_with fail)
    clear Aqac0 Aqac1 Aqbc0 Aqbc1
    go_at_call 20
    refine (Hk5.out _).mono ?_
    rintro e Wez2 ⟨rfl, B⟩
    have Aqan := Lib.hid ((Aqa.out.keep B Aqa.out.lt))
    have Aqbn := Lib.hid ((Aqb.out.keep B Aqb.out.lt))
    have Aqcn := Lib.hid ((Aqc.out.keep B Aqc.out.lt))
    have Aqtn := Lib.hid ((Aqt.out.keep B Aqt.out.lt))
    have HBn := Lib.hid (HB.out.trans (B.mono HB.out.size))
    clear Aqa Aqb Aqc Aqt HB
    have Aqa := Aqan
    have Aqb := Aqbn
    have Aqc := Aqcn
    have Aqt := Aqtn
    have HB := HBn
    clear Aqan Aqbn Aqcn Aqtn HBn
    clear B
    (try go_wp2_with fail)
    go_meet
    case rel => exact ⟨by first | rfl | (rw [decide_eq_false (show ¬ (0 < v3) by omega), decide_eq_false (show ¬ (0 ≤ v3) by omega)]; rfl) | (rw [decide_eq_false (show ¬ (0 < v3) by omega)]), Aqa, Aqb, Aqc, Aqt, HB⟩
   ·
    have g0 := O1.out (by omega) (by omega)
    have g9 := O2.out (by omega) hu
    have g1 : ¬ (0 < v3) := by omega
    have g3 : ¬ (v3 > 0) := by omega
    have g2 : ¬ (0 ≤ v3) := by omega
    have g5 : ¬ (v3 ≥ 0) := by omega
    have g4 : v2 ≤ 0 := by omega
    obtain ⟨ee1, ee2⟩ := HE.out hv
    subst ee1 ee2
    subst hv
    go_wp2_with fail
    go_at_call 20
    refine (Hk4.out _).mono ?_
    rintro e Wen1 ⟨rfl, B⟩
    have Aqan := Lib.hid ((Aqa.out.keep B Aqa.out.lt))
    have Aqbn := Lib.hid ((Aqb.out.keep B Aqb.out.lt))
    have Aqcn := Lib.hid ((Aqc.out.keep B Aqc.out.lt))
    have Aqtn := Lib.hid ((Aqt.out.keep B Aqt.out.lt))
    have HBn := Lib.hid (HB.out.trans (B.mono HB.out.size))
    clear Aqa Aqb Aqc Aqt HB
    have Aqa := Aqan
    have Aqb := Aqbn
    have Aqc := Aqcn
    have Aqt := Aqtn
    have HB := HBn
    clear Aqan Aqbn Aqcn Aqtn HBn
    clear B
    have Aqac0 := Aqa.out.c0
    have Aqac1 := Aqa.out.c1
    have Aqbc0 := Aqb.out.c0
    have Aqbc1 := Aqb.out.c1
    (try go_wp2_with fail)
    clear Aqac0 Aqac1 Aqbc0 Aqbc1
    go_at_call 20
    refine (Hk5.out _).mono ?_
    rintro e Wen2 ⟨rfl, B⟩
    have Aqan := Lib.hid ((Aqa.out.keep B Aqa.out.lt))
    have Aqbn := Lib.hid ((Aqb.out.keep B Aqb.out.lt))
    have Aqcn := Lib.hid ((Aqc.out.keep B Aqc.out.lt))
    have Aqtn := Lib.hid ((Aqt.out.keep B Aqt.out.lt))
    have HBn := Lib.hid (HB.out.trans (B.mono HB.out.size))
    clear Aqa Aqb Aqc Aqt HB
    have Aqa := Aqan
    have Aqb := Aqbn
    have Aqc := Aqcn
    have Aqt := Aqtn
    have HB := HBn
    clear Aqan Aqbn Aqcn Aqtn HBn
    clear B
    (try go_wp2_with fail)
    go_meet
    case rel => exact ⟨by first | rfl | (rw [decide_eq_false (show ¬ (0 < v3) by omega), decide_eq_false (show ¬ (0 ≤ v3) by omega)]; rfl) | (rw [decide_eq_false (show ¬ (0 < v3) by omega)]), Aqa, Aqb, Aqc, Aqt, HB⟩
  ·
   rcases HNE.out (by rw [hv]; decide) with hn | ⟨hn1, hn⟩
   ·
    subst hv
    go_wp2_with fail
    go_at_call 20
    refine (Hk4.out _).mono ?_
    rintro e Wga1 ⟨rfl, B⟩
    have Aqan := Lib.hid ((Aqa.out.keep B Aqa.out.lt))
    have Aqbn := Lib.hid ((Aqb.out.keep B Aqb.out.lt))
    have Aqcn := Lib.hid ((Aqc.out.keep B Aqc.out.lt))
    have Aqtn := Lib.hid ((Aqt.out.keep B Aqt.out.lt))
    have HBn := Lib.hid (HB.out.trans (B.mono HB.out.size))
    clear Aqa Aqb Aqc Aqt HB
    have Aqa := Aqan
    have Aqb := Aqbn
    have Aqc := Aqcn
    have Aqt := Aqtn
    have HB := HBn
    clear Aqan Aqbn Aqcn Aqtn HBn
    clear B
    have Aqac0 := Aqa.out.c0
    have Aqac1 := Aqa.out.c1
    have Aqbc0 := Aqb.out.c0
    have Aqbc1 := Aqb.out.c1
    (try go_wp2_with fail)
    clear Aqac0 Aqac1 Aqbc0 Aqbc1
    go_at_call 20
    refine (Hk5.out _).mono ?_
    rintro e Wga2 ⟨rfl, B⟩
    have Aqan := Lib.hid ((Aqa.out.keep B Aqa.out.lt))
    have Aqbn := Lib.hid ((Aqb.out.keep B Aqb.out.lt))
    have Aqcn := Lib.hid ((Aqc.out.keep B Aqc.out.lt))
    have Aqtn := Lib.hid ((Aqt.out.keep B Aqt.out.lt))
    have HBn := Lib.hid (HB.out.trans (B.mono HB.out.size))
    clear Aqa Aqb Aqc Aqt HB
    have Aqa := Aqan
    have Aqb := Aqbn
    have Aqc := Aqcn
    have Aqt := Aqtn
    have HB := HBn
    clear Aqan Aqbn Aqcn Aqtn HBn
    clear B
    (try go_wp2_with fail)
    go_meet
    case rel => exact ⟨by first | rfl | (rw [decide_eq_false (show ¬ (0 < v3) by omega), decide_eq_false (show ¬ (0 ≤ v3) by omega)]; rfl) | (rw [decide_eq_false (show ¬ (0 < v3) by omega)]), Aqa, Aqb, Aqc, Aqt, HB⟩
   ·
    subst hn1
    subst hv
    go_wp2_with fail
    go_at_call 20
    refine (Hk4.out _).mono ?_
    rintro e Wgb1 ⟨rfl, B⟩
    have Aqan := Lib.hid ((Aqa.out.keep B Aqa.out.lt))
    have Aqbn := Lib.hid ((Aqb.out.keep B Aqb.out.lt))
    have Aqcn := Lib.hid ((Aqc.out.keep B Aqc.out.lt))
    have Aqtn := Lib.hid ((Aqt.out.keep B Aqt.out.lt))
    have HBn := Lib.hid (HB.out.trans (B.mono HB.out.size))
    clear Aqa Aqb Aqc Aqt HB
    have Aqa := Aqan
    have Aqb := Aqbn
    have Aqc := Aqcn
    have Aqt := Aqtn
    have HB := HBn
    clear Aqan Aqbn Aqcn Aqtn HBn
    clear B
    have Aqac0 := Aqa.out.c0
    have Aqac1 := Aqa.out.c1
    have Aqbc0 := Aqb.out.c0
    have Aqbc1 := Aqb.out.c1
    (try go_wp2_with fail)
    clear Aqac0 Aqac1 Aqbc0 Aqbc1
    go_at_call 20
    refine (Hk5.out _).mono ?_
    rintro e Wgb2 ⟨rfl, B⟩
    have Aqan := Lib.hid ((Aqa.out.keep B Aqa.out.lt))
    have Aqbn := Lib.hid ((Aqb.out.keep B Aqb.out.lt))
    have Aqcn := Lib.hid ((Aqc.out.keep B Aqc.out.lt))
    have Aqtn := Lib.hid ((Aqt.out.keep B Aqt.out.lt))
    have HBn := Lib.hid (HB.out.trans (B.mono HB.out.size))
    clear Aqa Aqb Aqc Aqt HB
    have Aqa := Aqan
    have Aqb := Aqbn
    have Aqc := Aqcn
    have Aqt := Aqtn
    have HB := HBn
    clear Aqan Aqbn Aqcn Aqtn HBn
    clear B
    (try go_wp2_with fail)
    go_meet
    case rel => exact ⟨by first | rfl | (rw [decide_eq_false (show ¬ (0 < v3) by omega), decide_eq_false (show ¬ (0 ≤ v3) by omega)]; rfl) | (rw [decide_eq_false (show ¬ (0 < v3) by omega)]), Aqa, Aqb, Aqc, Aqt, HB⟩
 case rest =>
  obtain ⟨rfl, Aqa, Aqb, Aqc, Aqt, HB⟩ := hcut
  have Aqac0 := Aqa.out.c0
  have Aqac1 := Aqa.out.c1
  have Aqbc0 := Aqb.out.c0
  have Aqbc1 := Aqb.out.c1
  go_wp2_with fail
  clear Aqac0 Aqac1 Aqbc0 Aqbc1
  go_at_call 40
  refine (Hcs.out _).mono ?_
  rintro e Wr1 ⟨rfl, B⟩
  have Aqan := Lib.hid ((Aqa.out.keep B Aqa.out.lt).alloc (.cells #[(.string d1), (.string d2)] 23))
  have Aqbn := Lib.hid ((Aqb.out.keep B Aqb.out.lt).alloc (.cells #[(.string d1), (.string d2)] 23))
  have Aqcn := Lib.hid ((Aqc.out.keep B Aqc.out.lt).alloc (.cells #[(.string d1), (.string d2)] 23))
  have Aqtn := Lib.hid ((Aqt.out.keep B Aqt.out.lt).alloc (.cells #[(.string d1), (.string d2)] 23))
  have HBn := Lib.hid ((HB.out.trans (B.mono HB.out.size)).alloc (HB.out.trans (B.mono HB.out.size)).size (.cells #[(.string d1), (.string d2)] 23))
  clear Aqa Aqb Aqc Aqt HB
  have Aqa := Aqan
  have Aqb := Aqbn
  have Aqc := Aqcn
  have Aqt := Aqtn
  have HB := HBn
  clear Aqan Aqbn Aqcn Aqtn HBn
  have Dd := Lib.hid (RBlk.new Wr1 (.string d1) (.string d2))
  clear B
  go_upto_region 12 with fail
  go_cut [107] from 24 (fun sv wc => sv = .bool false ∧ Hid (RBlk wc (W2.heap.size) (.string a1) (.string a2)) ∧ Hid (RBlk wc (W3.heap.size) (.string b1) (.string b2)) ∧ Hid (RBlk wc (W4.heap.size) (.string c1) (.string c2)) ∧ Hid (RBlk wc (W5.heap.size) (.string t1) (.string t2)) ∧ Hid (Below w.heap.size w wc))
  case first =>
   rcases HDE.out with hde | ⟨hde, hkd⟩
   ·
    subst hde
    refine wp_region_noPanic ?_
    refine wp_region_held_drew (S := fun _ => True) (by kernel_rfl) ?_ (fun hHeld => ?_)
    ·
     exact trivial
    refine wpAnyH_take (i := 0) (oi := ({ dst := some 99, op := Go.Op.move (Go.Operand.tmp 18), type := 32, pos := "law.go:211", after := #[], guard := none } : Oper)) (v := ?v0_1no) rfl (by kernel_rfl) (by kernel_rfl) (by kernel_rfl) (fun _ _ _ h => h) (Or.inl ⟨by rfl, ?hy0_1no⟩) (by assumption) ?re0_1no
    case hy0_1no => (intro w hSw; go_simp) <;> with_reducible rfl
    (try simp only [Act.put, List.setIfInBounds_toArray, List.set_cons_zero, List.set_cons_succ])
    refine wpAnyH_take (i := 1) (oi := ({ dst := some 100, op := Go.Op.binOp Go.BinOp.eql 32 (Go.Operand.tmp 99) (Go.Operand.const (Go.Value.int Go.IntKind.i64 0)) 32, type := 4, pos := "law.go:211", after := #[{ on := 0, ground := Go.Ground.data }], guard := none } : Oper)) (v := ?v1_2no) rfl (by kernel_rfl) (by kernel_rfl) (by kernel_rfl) (fun _ _ _ h => h) (Or.inl ⟨by rfl, ?hy1_2no⟩) (by assumption) ?re1_2no
    case hy1_2no => (intro w hSw; go_simp) <;> with_reducible rfl
    (try simp only [Act.put, List.setIfInBounds_toArray, List.set_cons_zero, List.set_cons_succ])
    refine wpAnyH_take (i := 2) (oi := ({ dst := some 101, op := Go.Op.move (Go.Operand.tmp 100), type := 4, pos := "law.go:211", after := #[{ on := 1, ground := Go.Ground.data }], guard := none } : Oper)) (v := ?v2_3no) rfl (by kernel_rfl) (by kernel_rfl) (by kernel_rfl) (fun _ _ _ h => h) (Or.inl ⟨by rfl, ?hy2_3no⟩) (by assumption) ?re2_3no
    case hy2_3no => (intro w hSw; go_simp) <;> with_reducible rfl
    (try simp only [Act.put, List.setIfInBounds_toArray, List.set_cons_zero, List.set_cons_succ])
    refine wpAnyH_take (i := 3) (oi := ({ dst := some 102, op := Go.Op.load 23 (Go.Operand.tmp 17), type := 23, pos := "law.go:211", after := #[{ on := 2, ground := Go.Ground.guard }], guard := some (2, true) } : Oper)) (v := undef) rfl (by kernel_rfl) (by kernel_rfl) (by kernel_rfl) (fun _ _ _ h => h) (Or.inr ⟨by rfl, rfl⟩) (by assumption) ?re3no
    (try simp only [Act.put, List.setIfInBounds_toArray, List.set_cons_zero, List.set_cons_succ])
    refine wpAnyH_take (i := 4) (oi := ({ dst := some 103, op := Go.Op.call { callee := Go.Callee.value (Go.Operand.func 41), args := #[Go.Operand.const (Go.Value.string { data := #[48] }), Go.Operand.const (Go.Value.string { data := #[49] })], argTypes := #[9, 9] }, type := 23, pos := "law.go:211", after := #[{ on := 2, ground := Go.Ground.chain }, { on := 2, ground := Go.Ground.guard }], guard := some (2, true) } : Oper)) (v := undef) rfl (by kernel_rfl) (by kernel_rfl) (by kernel_rfl) (fun _ _ _ h => h) (Or.inr ⟨by rfl, rfl⟩) (by assumption) ?re4no
    (try simp only [Act.put, List.setIfInBounds_toArray, List.set_cons_zero, List.set_cons_succ])
    refine wpAnyH_take (i := 5) (oi := ({ dst := some 104, op := Go.Op.call { callee := Go.Callee.value (Go.Operand.func 20), args := #[Go.Operand.tmp 102, Go.Operand.tmp 103], argTypes := #[23, 23] }, type := 3, pos := "law.go:211", after := #[{ on := 3, ground := Go.Ground.data }, { on := 4, ground := Go.Ground.data }, { on := 4, ground := Go.Ground.chain }, { on := 2, ground := Go.Ground.guard }], guard := some (2, true) } : Oper)) (v := undef) rfl (by kernel_rfl) (by kernel_rfl) (by kernel_rfl) (fun _ _ _ h => h) (Or.inr ⟨by rfl, rfl⟩) (by assumption) ?re5no
    (try simp only [Act.put, List.setIfInBounds_toArray, List.set_cons_zero, List.set_cons_succ])
    refine wpAnyH_take (i := 6) (oi := ({ dst := some 105, op := Go.Op.move (Go.Operand.tmp 14), type := 3, pos := "law.go:211", after := #[{ on := 2, ground := Go.Ground.guard }], guard := some (2, true) } : Oper)) (v := undef) rfl (by kernel_rfl) (by kernel_rfl) (by kernel_rfl) (fun _ _ _ h => h) (Or.inr ⟨by rfl, rfl⟩) (by assumption) ?re6no
    (try simp only [Act.put, List.setIfInBounds_toArray, List.set_cons_zero, List.set_cons_succ])
    refine wpAnyH_take (i := 7) (oi := ({ dst := some 106, op := Go.Op.binOp Go.BinOp.neq 3 (Go.Operand.tmp 104) (Go.Operand.tmp 105) 3, type := 4, pos := "law.go:211", after := #[{ on := 5, ground := Go.Ground.data }, { on := 6, ground := Go.Ground.data }, { on := 2, ground := Go.Ground.guard }], guard := some (2, true) } : Oper)) (v := undef) rfl (by kernel_rfl) (by kernel_rfl) (by kernel_rfl) (fun _ _ _ h => h) (Or.inr ⟨by rfl, rfl⟩) (by assumption) ?re7no
    (try simp only [Act.put, List.setIfInBounds_toArray, List.set_cons_zero, List.set_cons_succ])
    refine wpAnyH_take (i := 8) (oi := ({ dst := some 107, op := Go.Op.pick (Go.Operand.tmp 101) (Go.Operand.tmp 106) (Go.Operand.const (Go.Value.bool false)), type := 4, pos := "law.go:211", after := #[{ on := 2, ground := Go.Ground.data }, { on := 7, ground := Go.Ground.data }], guard := none } : Oper)) (v := ?v8_4no) rfl (by kernel_rfl) (by kernel_rfl) (by kernel_rfl) (fun _ _ _ h => h) (Or.inl ⟨by rfl, ?hy8_4no⟩) (by assumption) ?re8_4no
    case hy8_4no => (intro w hSw; go_simp) <;> with_reducible rfl
    (try simp only [Act.put, List.setIfInBounds_toArray, List.set_cons_zero, List.set_cons_succ])
    refine wpAnyH_done (by kernel_rfl) ?_ _
    refine NoPanic.normal ?_
    (try go_wp2_with fail)
    go_meet
    case rel => exact ⟨rfl, Lib.hid Aqa.out.drew, Lib.hid Aqb.out.drew, Lib.hid Aqc.out.drew, Lib.hid Aqt.out.drew, Lib.hid HB.out.drew⟩
   ·
    subst hde
    have HKD := Lib.hid hkd
    clear hkd
    generalize hW0sa12 : (Wr1.alloc (.cells #[.string d1, .string d2] 23)) = W0sa12 at *
    clear hW0sa12
    refine wp_region_noPanic ?_
    refine wp_region_held_drew (S := fun W => RBlk W (Wr1.heap.size) (.string d1) (.string d2)) (by kernel_rfl) ?_ (fun hHeld => ?_)
    ·
     exact Dd.out
    have Aqan := Lib.hid Aqa.out.drew
    have Aqbn := Lib.hid Aqb.out.drew
    have Aqcn := Lib.hid Aqc.out.drew
    have Aqtn := Lib.hid Aqt.out.drew
    have Ddn := Lib.hid Dd.out.drew
    have HBn := Lib.hid HB.out.drew
    clear Aqa Aqb Aqc Aqt Dd HB
    have Aqa := Aqan
    have Aqb := Aqbn
    have Aqc := Aqcn
    have Aqt := Aqtn
    have Dd := Ddn
    have HB := HBn
    clear Aqan Aqbn Aqcn Aqtn Ddn HBn
    refine wpAnyH_take (i := 0) (oi := ({ dst := some 99, op := Go.Op.move (Go.Operand.tmp 18), type := 32, pos := "law.go:211", after := #[], guard := none } : Oper)) (v := ?v0_1sa_12_1) rfl (by kernel_rfl) (by kernel_rfl) (by kernel_rfl) (fun _ _ _ h => h) (Or.inl ⟨by rfl, ?hy0_1sa_12_1⟩) (by assumption) ?re0_1sa_12_1
    case hy0_1sa_12_1 => (intro w hSw; go_simp) <;> with_reducible rfl
    (try simp only [Act.put, List.setIfInBounds_toArray, List.set_cons_zero, List.set_cons_succ])
    refine wpAnyH_take (i := 1) (oi := ({ dst := some 100, op := Go.Op.binOp Go.BinOp.eql 32 (Go.Operand.tmp 99) (Go.Operand.const (Go.Value.int Go.IntKind.i64 0)) 32, type := 4, pos := "law.go:211", after := #[{ on := 0, ground := Go.Ground.data }], guard := none } : Oper)) (v := ?v1_2sa_12_1) rfl (by kernel_rfl) (by kernel_rfl) (by kernel_rfl) (fun _ _ _ h => h) (Or.inl ⟨by rfl, ?hy1_2sa_12_1⟩) (by assumption) ?re1_2sa_12_1
    case hy1_2sa_12_1 => (intro w hSw; go_simp) <;> with_reducible rfl
    (try simp only [Act.put, List.setIfInBounds_toArray, List.set_cons_zero, List.set_cons_succ])
    refine wpAnyH_take (i := 2) (oi := ({ dst := some 101, op := Go.Op.move (Go.Operand.tmp 100), type := 4, pos := "law.go:211", after := #[{ on := 1, ground := Go.Ground.data }], guard := none } : Oper)) (v := ?v2_3sa_12_1) rfl (by kernel_rfl) (by kernel_rfl) (by kernel_rfl) (fun _ _ _ h => h) (Or.inl ⟨by rfl, ?hy2_3sa_12_1⟩) (by assumption) ?re2_3sa_12_1
    case hy2_3sa_12_1 => (intro w hSw; go_simp) <;> with_reducible rfl
    (try simp only [Act.put, List.setIfInBounds_toArray, List.set_cons_zero, List.set_cons_succ])
    refine wpAnyH_take (i := 3) (oi := ({ dst := some 102, op := Go.Op.load 23 (Go.Operand.tmp 17), type := 23, pos := "law.go:211", after := #[{ on := 2, ground := Go.Ground.guard }], guard := some (2, true) } : Oper)) (v := ?v3_4sa_12_1) rfl (by kernel_rfl) (by kernel_rfl) (by kernel_rfl) (fun _ _ _ h => h) (Or.inl ⟨by rfl, ?hy3_4sa_12_1⟩) (by assumption) ?re3_4sa_12_1
    case hy3_4sa_12_1 => ((intro w hSw; have e00 := hSw.c0; have e01 := hSw.c1; go_simp) <;> with_reducible rfl)
    (try simp only [Act.put, List.setIfInBounds_toArray, List.set_cons_zero, List.set_cons_succ])
    refine wpAnyH_take (i := 6) (oi := ({ dst := some 105, op := Go.Op.move (Go.Operand.tmp 14), type := 3, pos := "law.go:211", after := #[{ on := 2, ground := Go.Ground.guard }], guard := some (2, true) } : Oper)) (v := ?v6_5sa_12_1) rfl (by kernel_rfl) (by kernel_rfl) (by kernel_rfl) (fun _ _ _ h => h) (Or.inl ⟨by rfl, ?hy6_5sa_12_1⟩) (by assumption) ?re6_5sa_12_1
    case hy6_5sa_12_1 => (intro w hSw; go_simp) <;> with_reducible rfl
    (try simp only [Act.put, List.setIfInBounds_toArray, List.set_cons_zero, List.set_cons_succ])
    refine wpAnyH_ready (rs := [4]) (by kernel_rfl) (by simp) ?_
    refine AllReadyH.cons (o := ({ dst := some 103, op := Go.Op.call { callee := Go.Callee.value (Go.Operand.func 41), args := #[Go.Operand.const (Go.Value.string { data := #[48] }), Go.Operand.const (Go.Value.string { data := #[49] })], argTypes := #[9, 9] }, type := 23, pos := "law.go:211", after := #[{ on := 2, ground := Go.Ground.chain }, { on := 2, ground := Go.Ground.guard }], guard := some (2, true) } : Oper)) rfl (fun K hK => ?_) ?_
    ·
     go_simp
     go_at_call 41
     refine (is_any _ _ _).mono ?_
     rintro e Wsa12_1 ⟨rfl, B⟩
     have Aqan := Lib.hid (Aqa.out.keep B Aqa.out.lt)
     have Aqbn := Lib.hid (Aqb.out.keep B Aqb.out.lt)
     have Aqcn := Lib.hid (Aqc.out.keep B Aqc.out.lt)
     have Aqtn := Lib.hid (Aqt.out.keep B Aqt.out.lt)
     have Ddn := Lib.hid (Dd.out.keep B Dd.out.lt)
     have HBn := Lib.hid (HB.out.trans (B.mono HB.out.size))
     clear Aqa Aqb Aqc Aqt Dd HB
     have Aqa := Aqan
     have Aqb := Aqbn
     have Aqc := Aqcn
     have Aqt := Aqtn
     have Dd := Ddn
     have HB := HBn
     clear Aqan Aqbn Aqcn Aqtn Ddn HBn
     (try go_wp2_with fail)
     refine hK.out _ _ ?_ (fun hHeld => ?_)
     ·
      exact hHeld.keep B hHeld.lt
     clear hK K
     (try simp only [Act.put, List.setIfInBounds_toArray, List.set_cons_zero, List.set_cons_succ])
     clear B
     refine wpAnyH_ready (rs := [5]) (by kernel_rfl) (by simp) ?_
     refine AllReadyH.cons (o := ({ dst := some 104, op := Go.Op.call { callee := Go.Callee.value (Go.Operand.func 20), args := #[Go.Operand.tmp 102, Go.Operand.tmp 103], argTypes := #[23, 23] }, type := 3, pos := "law.go:211", after := #[{ on := 3, ground := Go.Ground.data }, { on := 4, ground := Go.Ground.data }, { on := 4, ground := Go.Ground.chain }, { on := 2, ground := Go.Ground.guard }], guard := some (2, true) } : Oper)) rfl (fun K hK => ?_) ?_
     ·
      go_simp
      go_at_call 20
      refine (HKD.out _).mono ?_
      rintro e Wsa12_2 ⟨rfl, B⟩
      have Aqan := Lib.hid (Aqa.out.keep B Aqa.out.lt)
      have Aqbn := Lib.hid (Aqb.out.keep B Aqb.out.lt)
      have Aqcn := Lib.hid (Aqc.out.keep B Aqc.out.lt)
      have Aqtn := Lib.hid (Aqt.out.keep B Aqt.out.lt)
      have Ddn := Lib.hid (Dd.out.keep B Dd.out.lt)
      have HBn := Lib.hid (HB.out.trans (B.mono HB.out.size))
      clear Aqa Aqb Aqc Aqt Dd HB
      have Aqa := Aqan
      have Aqb := Aqbn
      have Aqc := Aqcn
      have Aqt := Aqtn
      have Dd := Ddn
      have HB := HBn
      clear Aqan Aqbn Aqcn Aqtn Ddn HBn
      (try go_wp2_with fail)
      refine hK.out _ _ ?_ (fun hHeld => ?_)
      ·
       exact hHeld.keep B hHeld.lt
      clear hK K
      (try simp only [Act.put, List.setIfInBounds_toArray, List.set_cons_zero, List.set_cons_succ])
      clear B
      refine wpAnyH_take (i := 7) (oi := ({ dst := some 106, op := Go.Op.binOp Go.BinOp.neq 3 (Go.Operand.tmp 104) (Go.Operand.tmp 105) 3, type := 4, pos := "law.go:211", after := #[{ on := 5, ground := Go.Ground.data }, { on := 6, ground := Go.Ground.data }, { on := 2, ground := Go.Ground.guard }], guard := some (2, true) } : Oper)) (v := ?v7_6sa_12_1) rfl (by kernel_rfl) (by kernel_rfl) (by kernel_rfl) (fun _ _ _ h => h) (Or.inl ⟨by rfl, ?hy7_6sa_12_1⟩) (by assumption) ?re7_6sa_12_1
      case hy7_6sa_12_1 => (intro w hSw; go_simp) <;> with_reducible rfl
      (try simp only [Act.put, List.setIfInBounds_toArray, List.set_cons_zero, List.set_cons_succ])
      refine wpAnyH_take (i := 8) (oi := ({ dst := some 107, op := Go.Op.pick (Go.Operand.tmp 101) (Go.Operand.tmp 106) (Go.Operand.const (Go.Value.bool false)), type := 4, pos := "law.go:211", after := #[{ on := 2, ground := Go.Ground.data }, { on := 7, ground := Go.Ground.data }], guard := none } : Oper)) (v := ?v8_7sa_12_1) rfl (by kernel_rfl) (by kernel_rfl) (by kernel_rfl) (fun _ _ _ h => h) (Or.inl ⟨by rfl, ?hy8_7sa_12_1⟩) (by assumption) ?re8_7sa_12_1
      case hy8_7sa_12_1 => (intro w hSw; go_simp) <;> with_reducible rfl
      (try simp only [Act.put, List.setIfInBounds_toArray, List.set_cons_zero, List.set_cons_succ])
      refine wpAnyH_done (by kernel_rfl) ?_ _
      refine NoPanic.normal ?_
      (try go_wp2_with fail)
      go_meet
      case rel => exact ⟨rfl, Aqa, Aqb, Aqc, Aqt, HB⟩
     exact AllReadyH.nil
    exact AllReadyH.nil
  case rest =>
   obtain ⟨rfl, Aqa, Aqb, Aqc, Aqt, HB⟩ := hcut
   have Aqac0 := Aqa.out.c0
   have Aqac1 := Aqa.out.c1
   have Aqtc0 := Aqt.out.c0
   have Aqtc1 := Aqt.out.c1
   go_wp2_with fail
   clear Aqac0 Aqac1 Aqtc0 Aqtc1
   go_at_call 38
   refine (Hca.out _).mono ?_
   rintro e Wu1 ⟨rfl, B⟩
   have lpAqa := (Aqa.out.keep B Aqa.out.lt).lt
   have lpAqb := (Aqb.out.keep B Aqb.out.lt).lt
   have lpAqc := (Aqc.out.keep B Aqc.out.lt).lt
   have lpAqt := (Aqt.out.keep B Aqt.out.lt).lt
   have gp := (HB.out.trans (B.mono HB.out.size)).size
   have Aqan := Lib.hid ((Aqa.out.keep B Aqa.out.lt).alloc (.cells #[(.string p1), (.string p2)] 23))
   have Aqbn := Lib.hid ((Aqb.out.keep B Aqb.out.lt).alloc (.cells #[(.string p1), (.string p2)] 23))
   have Aqcn := Lib.hid ((Aqc.out.keep B Aqc.out.lt).alloc (.cells #[(.string p1), (.string p2)] 23))
   have Aqtn := Lib.hid ((Aqt.out.keep B Aqt.out.lt).alloc (.cells #[(.string p1), (.string p2)] 23))
   have HBn := Lib.hid ((HB.out.trans (B.mono HB.out.size)).alloc (HB.out.trans (B.mono HB.out.size)).size (.cells #[(.string p1), (.string p2)] 23))
   clear Aqa Aqb Aqc Aqt HB
   have Aqa := Aqan
   have Aqb := Aqbn
   have Aqc := Aqcn
   have Aqt := Aqtn
   have HB := HBn
   clear Aqan Aqbn Aqcn Aqtn HBn
   have Pp := Lib.hid (RBlk.new Wu1 (.string p1) (.string p2))
   clear B
   have Aqbc0 := Aqb.out.c0
   have Aqbc1 := Aqb.out.c1
   have Aqtc0 := Aqt.out.c0
   have Aqtc1 := Aqt.out.c1
   (try go_wp2_with fail)
   clear Aqbc0 Aqbc1 Aqtc0 Aqtc1
   go_at_call 38
   refine (Hcb.out _).mono ?_
   rintro e Wu2 ⟨rfl, B⟩
   have lqAqa := (Aqa.out.keep B Aqa.out.lt).lt
   have lqAqb := (Aqb.out.keep B Aqb.out.lt).lt
   have lqAqc := (Aqc.out.keep B Aqc.out.lt).lt
   have lqAqt := (Aqt.out.keep B Aqt.out.lt).lt
   have lqPp := (Pp.out.keep B Pp.out.lt).lt
   have gq := (HB.out.trans (B.mono HB.out.size)).size
   have Aqan := Lib.hid ((Aqa.out.keep B Aqa.out.lt).alloc (.cells #[(.string p3), (.string p4)] 23))
   have Aqbn := Lib.hid ((Aqb.out.keep B Aqb.out.lt).alloc (.cells #[(.string p3), (.string p4)] 23))
   have Aqcn := Lib.hid ((Aqc.out.keep B Aqc.out.lt).alloc (.cells #[(.string p3), (.string p4)] 23))
   have Aqtn := Lib.hid ((Aqt.out.keep B Aqt.out.lt).alloc (.cells #[(.string p3), (.string p4)] 23))
   have Ppn := Lib.hid ((Pp.out.keep B Pp.out.lt).alloc (.cells #[(.string p3), (.string p4)] 23))
   have HBn := Lib.hid ((HB.out.trans (B.mono HB.out.size)).alloc (HB.out.trans (B.mono HB.out.size)).size (.cells #[(.string p3), (.string p4)] 23))
   clear Aqa Aqb Aqc Aqt Pp HB
   have Aqa := Aqan
   have Aqb := Aqbn
   have Aqc := Aqcn
   have Aqt := Aqtn
   have Pp := Ppn
   have HB := HBn
   clear Aqan Aqbn Aqcn Aqtn Ppn HBn
   have Qq := Lib.hid (RBlk.new Wu2 (.string p3) (.string p4))
   clear B
   have Ppc0 := Pp.out.c0
   have Ppc1 := Pp.out.c1
   have Qqc0 := Qq.out.c0
   have Qqc1 := Qq.out.c1
   (try go_wp2_with fail)
   clear Ppc0 Ppc1 Qqc0 Qqc1
   go_at_call 20
   refine (Hka.out _).mono ?_
   rintro e Wu3 ⟨rfl, B⟩
   have Aqan := Lib.hid ((Aqa.out.keep B Aqa.out.lt))
   have Aqbn := Lib.hid ((Aqb.out.keep B Aqb.out.lt))
   have Aqcn := Lib.hid ((Aqc.out.keep B Aqc.out.lt))
   have Aqtn := Lib.hid ((Aqt.out.keep B Aqt.out.lt))
   have Ppn := Lib.hid ((Pp.out.keep B Pp.out.lt))
   have Qqn := Lib.hid ((Qq.out.keep B Qq.out.lt))
   have HBn := Lib.hid (HB.out.trans (B.mono HB.out.size))
   clear Aqa Aqb Aqc Aqt Pp Qq HB
   have Aqa := Aqan
   have Aqb := Aqbn
   have Aqc := Aqcn
   have Aqt := Aqtn
   have Pp := Ppn
   have Qq := Qqn
   have HB := HBn
   clear Aqan Aqbn Aqcn Aqtn Ppn Qqn HBn
   clear B
   have Aqac0 := Aqa.out.c0
   have Aqac1 := Aqa.out.c1
   have Aqtc0 := Aqt.out.c0
   have Aqtc1 := Aqt.out.c1
   (try go_wp2_with fail)
   clear Aqac0 Aqac1 Aqtc0 Aqtc1
   go_at_call 39
   refine (Hma.out _).mono ?_
   rintro e Wm4 ⟨rfl, B⟩
   have Aqan := Lib.hid ((Aqa.out.keep B Aqa.out.lt))
   have Aqbn := Lib.hid ((Aqb.out.keep B Aqb.out.lt))
   have Aqcn := Lib.hid ((Aqc.out.keep B Aqc.out.lt))
   have Aqtn := Lib.hid ((Aqt.out.keep B Aqt.out.lt))
   have Ppn := Lib.hid ((Pp.out.keep B Pp.out.lt))
   have Qqn := Lib.hid ((Qq.out.keep B Qq.out.lt))
   have HBn := Lib.hid (HB.out.trans (B.mono HB.out.size))
   clear Aqa Aqb Aqc Aqt Pp Qq HB
   have Aqa := Aqan
   have Aqb := Aqbn
   have Aqc := Aqcn
   have Aqt := Aqtn
   have Pp := Ppn
   have Qq := Qqn
   have HB := HBn
   clear Aqan Aqbn Aqcn Aqtn Ppn Qqn HBn
   clear B
   have c0 := Pp.out.c0
   have c1 := Pp.out.c1
   have f0 := Pp.out.f 0
   have f1 := Pp.out.f 1
   have hs := Pp.out.s0 (.string m1)
   have d1 := hs.c1
   have g1 := hs.f 1
   have Ppn := Lib.hid (hs.s1 (.string m2))
   have Aqan := Lib.hid ((Aqa.out.other ⟨Wu1.heap.size, 0, none⟩ (.string m1) (Nat.ne_of_lt lpAqa)).other ⟨Wu1.heap.size, 1, none⟩ (.string m2) (Nat.ne_of_lt lpAqa))
   have Aqbn := Lib.hid ((Aqb.out.other ⟨Wu1.heap.size, 0, none⟩ (.string m1) (Nat.ne_of_lt lpAqb)).other ⟨Wu1.heap.size, 1, none⟩ (.string m2) (Nat.ne_of_lt lpAqb))
   have Aqcn := Lib.hid ((Aqc.out.other ⟨Wu1.heap.size, 0, none⟩ (.string m1) (Nat.ne_of_lt lpAqc)).other ⟨Wu1.heap.size, 1, none⟩ (.string m2) (Nat.ne_of_lt lpAqc))
   have Aqtn := Lib.hid ((Aqt.out.other ⟨Wu1.heap.size, 0, none⟩ (.string m1) (Nat.ne_of_lt lpAqt)).other ⟨Wu1.heap.size, 1, none⟩ (.string m2) (Nat.ne_of_lt lpAqt))
   have Qqn := Lib.hid ((Qq.out.other ⟨Wu1.heap.size, 0, none⟩ (.string m1) (Nat.ne_of_gt lqPp)).other ⟨Wu1.heap.size, 1, none⟩ (.string m2) (Nat.ne_of_gt lqPp))
   have HBn := Lib.hid ((HB.out.setCell (p := ⟨Wu1.heap.size, 0, none⟩) gp (.string m1)).setCell (p := ⟨Wu1.heap.size, 1, none⟩) gp (.string m2))
   clear hs
   have Aqbc0 := Aqbn.out.c0
   have Aqbc1 := Aqbn.out.c1
   have Aqtc0 := Aqtn.out.c0
   have Aqtc1 := Aqtn.out.c1
   go_wp2_with fail
   clear c0 c1 f0 f1 d1 g1 Aqa Aqb Aqc Aqt Qq Pp HB Aqbc0 Aqbc1 Aqtc0 Aqtc1
   have Aqa := Aqan
   have Aqb := Aqbn
   have Aqc := Aqcn
   have Aqt := Aqtn
   have Qq := Qqn
   have Pp := Ppn
   have HB := HBn
   clear Aqan Aqbn Aqcn Aqtn Qqn Ppn HBn
   go_at_call 39
   refine (Hmb.out _).mono ?_
   rintro e Wm5 ⟨rfl, B⟩
   have Aqan := Lib.hid ((Aqa.out.keep B Aqa.out.lt))
   have Aqbn := Lib.hid ((Aqb.out.keep B Aqb.out.lt))
   have Aqcn := Lib.hid ((Aqc.out.keep B Aqc.out.lt))
   have Aqtn := Lib.hid ((Aqt.out.keep B Aqt.out.lt))
   have Ppn := Lib.hid ((Pp.out.keep B Pp.out.lt))
   have Qqn := Lib.hid ((Qq.out.keep B Qq.out.lt))
   have HBn := Lib.hid (HB.out.trans (B.mono HB.out.size))
   clear Aqa Aqb Aqc Aqt Pp Qq HB
   have Aqa := Aqan
   have Aqb := Aqbn
   have Aqc := Aqcn
   have Aqt := Aqtn
   have Pp := Ppn
   have Qq := Qqn
   have HB := HBn
   clear Aqan Aqbn Aqcn Aqtn Ppn Qqn HBn
   clear B
   have c0 := Qq.out.c0
   have c1 := Qq.out.c1
   have f0 := Qq.out.f 0
   have f1 := Qq.out.f 1
   have hs := Qq.out.s0 (.string m3)
   have d1 := hs.c1
   have g1 := hs.f 1
   have Qqn := Lib.hid (hs.s1 (.string m4))
   have Aqan := Lib.hid ((Aqa.out.other ⟨Wu2.heap.size, 0, none⟩ (.string m3) (Nat.ne_of_lt lqAqa)).other ⟨Wu2.heap.size, 1, none⟩ (.string m4) (Nat.ne_of_lt lqAqa))
   have Aqbn := Lib.hid ((Aqb.out.other ⟨Wu2.heap.size, 0, none⟩ (.string m3) (Nat.ne_of_lt lqAqb)).other ⟨Wu2.heap.size, 1, none⟩ (.string m4) (Nat.ne_of_lt lqAqb))
   have Aqcn := Lib.hid ((Aqc.out.other ⟨Wu2.heap.size, 0, none⟩ (.string m3) (Nat.ne_of_lt lqAqc)).other ⟨Wu2.heap.size, 1, none⟩ (.string m4) (Nat.ne_of_lt lqAqc))
   have Aqtn := Lib.hid ((Aqt.out.other ⟨Wu2.heap.size, 0, none⟩ (.string m3) (Nat.ne_of_lt lqAqt)).other ⟨Wu2.heap.size, 1, none⟩ (.string m4) (Nat.ne_of_lt lqAqt))
   have Ppn := Lib.hid ((Pp.out.other ⟨Wu2.heap.size, 0, none⟩ (.string m3) (Nat.ne_of_lt lqPp)).other ⟨Wu2.heap.size, 1, none⟩ (.string m4) (Nat.ne_of_lt lqPp))
   have HBn := Lib.hid ((HB.out.setCell (p := ⟨Wu2.heap.size, 0, none⟩) gq (.string m3)).setCell (p := ⟨Wu2.heap.size, 1, none⟩) gq (.string m4))
   clear hs
   go_upto_region 20 with fail
   clear c0 c1 f0 f1 d1 g1 Aqa Aqb Aqc Aqt Pp Qq HB
   have Aqa := Aqan
   have Aqb := Aqbn
   have Aqc := Aqcn
   have Aqt := Aqtn
   have Pp := Ppn
   have Qq := Qqn
   have HB := HBn
   clear Aqan Aqbn Aqcn Aqtn Ppn Qqn HBn
   generalize hW0u20 : ((Wm5.setCell ⟨Wu2.heap.size, 0, none⟩ (.string m3)).setCell ⟨Wu2.heap.size, 1, none⟩ (.string m4)) = W0u20 at *
   clear hW0u20
   refine wp_region_noPanic ?_
   refine wp_region_held_drew (S := fun W => RBlk W (Wu1.heap.size) (.string m1) (.string m2) ∧ RBlk W (Wu2.heap.size) (.string m3) (.string m4) ∧ RBlk W (W5.heap.size) (.string t1) (.string t2)) (by kernel_rfl) ?_ (fun hHeld => ?_)
   ·
    exact ⟨Pp.out, Qq.out, Aqt.out⟩
   have Aqan := Lib.hid Aqa.out.drew
   have Aqbn := Lib.hid Aqb.out.drew
   have Aqcn := Lib.hid Aqc.out.drew
   have Aqtn := Lib.hid Aqt.out.drew
   have Ppn := Lib.hid Pp.out.drew
   have Qqn := Lib.hid Qq.out.drew
   have HBn := Lib.hid HB.out.drew
   clear Aqa Aqb Aqc Aqt Pp Qq HB
   have Aqa := Aqan
   have Aqb := Aqbn
   have Aqc := Aqcn
   have Aqt := Aqtn
   have Pp := Ppn
   have Qq := Qqn
   have HB := HBn
   clear Aqan Aqbn Aqcn Aqtn Ppn Qqn HBn
   refine wpAnyH_take (i := 0) (oi := ({ dst := some 145, op := Go.Op.move (Go.Operand.tmp 9), type := 4, pos := "law.go:221", after := #[], guard := none } : Oper)) (v := ?v0_1u_20_2) rfl (by kernel_rfl) (by kernel_rfl) (by kernel_rfl) (fun _ _ _ h => h) (Or.inl ⟨by rfl, ?hy0_1u_20_2⟩) (by assumption) ?re0_1u_20_2
   case hy0_1u_20_2 => (intro w hSw; go_simp) <;> with_reducible rfl
   (try simp only [Act.put, List.setIfInBounds_toArray, List.set_cons_zero, List.set_cons_succ])
   refine wpAnyH_take (i := 1) (oi := ({ dst := some 146, op := Go.Op.move (Go.Operand.tmp 145), type := 4, pos := "law.go:221", after := #[{ on := 0, ground := Go.Ground.data }], guard := none } : Oper)) (v := ?v1_2u_20_2) rfl (by kernel_rfl) (by kernel_rfl) (by kernel_rfl) (fun _ _ _ h => h) (Or.inl ⟨by rfl, ?hy1_2u_20_2⟩) (by assumption) ?re1_2u_20_2
   case hy1_2u_20_2 => (intro w hSw; go_simp) <;> with_reducible rfl
   (try simp only [Act.put, List.setIfInBounds_toArray, List.set_cons_zero, List.set_cons_succ])
   refine wpAnyH_take (i := 2) (oi := ({ dst := some 147, op := Go.Op.move (Go.Operand.tmp 20), type := 32, pos := "law.go:221", after := #[{ on := 1, ground := Go.Ground.guard }], guard := some (1, true) } : Oper)) (v := ?v2_3u_20_2) rfl (by kernel_rfl) (by kernel_rfl) (by kernel_rfl) (fun _ _ _ h => h) (Or.inl ⟨by rfl, ?hy2_3u_20_2⟩) (by assumption) ?re2_3u_20_2
   case hy2_3u_20_2 => (intro w hSw; go_simp) <;> with_reducible rfl
   (try simp only [Act.put, List.setIfInBounds_toArray, List.set_cons_zero, List.set_cons_succ])
   refine wpAnyH_take (i := 3) (oi := ({ dst := some 148, op := Go.Op.binOp Go.BinOp.neq 32 (Go.Operand.tmp 147) (Go.Operand.const (Go.Value.int Go.IntKind.i64 0)) 32, type := 4, pos := "law.go:221", after := #[{ on := 2, ground := Go.Ground.data }, { on := 1, ground := Go.Ground.guard }], guard := some (1, true) } : Oper)) (v := ?v3_4u_20_2) rfl (by kernel_rfl) (by kernel_rfl) (by kernel_rfl) (fun _ _ _ h => h) (Or.inl ⟨by rfl, ?hy3_4u_20_2⟩) (by assumption) ?re3_4u_20_2
   case hy3_4u_20_2 => (intro w hSw; go_simp) <;> with_reducible rfl
   (try simp only [Act.put, List.setIfInBounds_toArray, List.set_cons_zero, List.set_cons_succ])
   refine wpAnyH_take (i := 4) (oi := ({ dst := some 149, op := Go.Op.move (Go.Operand.tmp 148), type := 4, pos := "law.go:221", after := #[{ on := 3, ground := Go.Ground.data }, { on := 1, ground := Go.Ground.chain }, { on := 1, ground := Go.Ground.guard }], guard := some (1, true) } : Oper)) (v := ?v4_5u_20_2) rfl (by kernel_rfl) (by kernel_rfl) (by kernel_rfl) (fun _ _ _ h => h) (Or.inl ⟨by rfl, ?hy4_5u_20_2⟩) (by assumption) ?re4_5u_20_2
   case hy4_5u_20_2 => (intro w hSw; go_simp) <;> with_reducible rfl
   (try simp only [Act.put, List.setIfInBounds_toArray, List.set_cons_zero, List.set_cons_succ])
   refine wpAnyH_take (i := 5) (oi := ({ dst := some 150, op := Go.Op.move (Go.Operand.tmp 22), type := 32, pos := "law.go:221", after := #[{ on := 4, ground := Go.Ground.guard }], guard := some (4, false) } : Oper)) (v := ?v5_6u_20_2) rfl (by kernel_rfl) (by kernel_rfl) (by kernel_rfl) (fun _ _ _ h => h) (Or.inl ⟨by rfl, ?hy5_6u_20_2⟩) (by assumption) ?re5_6u_20_2
   case hy5_6u_20_2 => (intro w hSw; go_simp) <;> with_reducible rfl
   (try simp only [Act.put, List.setIfInBounds_toArray, List.set_cons_zero, List.set_cons_succ])
   refine wpAnyH_take (i := 6) (oi := ({ dst := some 151, op := Go.Op.binOp Go.BinOp.neq 32 (Go.Operand.tmp 150) (Go.Operand.const (Go.Value.int Go.IntKind.i64 0)) 32, type := 4, pos := "law.go:221", after := #[{ on := 5, ground := Go.Ground.data }, { on := 4, ground := Go.Ground.guard }], guard := some (4, false) } : Oper)) (v := ?v6_7u_20_2) rfl (by kernel_rfl) (by kernel_rfl) (by kernel_rfl) (fun _ _ _ h => h) (Or.inl ⟨by rfl, ?hy6_7u_20_2⟩) (by assumption) ?re6_7u_20_2
   case hy6_7u_20_2 => (intro w hSw; go_simp) <;> with_reducible rfl
   (try simp only [Act.put, List.setIfInBounds_toArray, List.set_cons_zero, List.set_cons_succ])
   refine wpAnyH_take (i := 7) (oi := ({ dst := some 152, op := Go.Op.pick (Go.Operand.tmp 149) (Go.Operand.const (Go.Value.bool true)) (Go.Operand.tmp 151), type := 4, pos := "law.go:221", after := #[{ on := 4, ground := Go.Ground.data }, { on := 6, ground := Go.Ground.data }, { on := 1, ground := Go.Ground.guard }], guard := some (1, true) } : Oper)) (v := ?v7_8u_20_2) rfl (by kernel_rfl) (by kernel_rfl) (by kernel_rfl) (fun _ _ _ h => h) (Or.inl ⟨by rfl, ?hy7_8u_20_2⟩) (by assumption) ?re7_8u_20_2
   case hy7_8u_20_2 => (intro w hSw; go_simp) <;> with_reducible rfl
   (try simp only [Act.put, List.setIfInBounds_toArray, List.set_cons_zero, List.set_cons_succ])
   refine wpAnyH_take (i := 8) (oi := ({ dst := some 153, op := Go.Op.move (Go.Operand.tmp 152), type := 4, pos := "law.go:221", after := #[{ on := 7, ground := Go.Ground.data }, { on := 4, ground := Go.Ground.chain }, { on := 1, ground := Go.Ground.guard }], guard := some (1, true) } : Oper)) (v := ?v8_9u_20_2) rfl (by kernel_rfl) (by kernel_rfl) (by kernel_rfl) (fun _ _ _ h => h) (Or.inl ⟨by rfl, ?hy8_9u_20_2⟩) (by assumption) ?re8_9u_20_2
   case hy8_9u_20_2 => (intro w hSw; go_simp) <;> with_reducible rfl
   (try simp only [Act.put, List.setIfInBounds_toArray, List.set_cons_zero, List.set_cons_succ])
   refine wpAnyH_take (i := 9) (oi := ({ dst := some 154, op := Go.Op.load 23 (Go.Operand.tmp 19), type := 23, pos := "law.go:221", after := #[{ on := 8, ground := Go.Ground.guard }], guard := some (8, false) } : Oper)) (v := ?v9_10u_20_2) rfl (by kernel_rfl) (by kernel_rfl) (by kernel_rfl) (fun _ _ _ h => h) (Or.inl ⟨by rfl, ?hy9_10u_20_2⟩) (by assumption) ?re9_10u_20_2
   case hy9_10u_20_2 => ((intro w hSw; have e00 := hSw.1.c0; have e01 := hSw.1.c1; have e10 := hSw.2.1.c0; have e11 := hSw.2.1.c1; have e20 := hSw.2.2.c0; have e21 := hSw.2.2.c1; go_simp) <;> with_reducible rfl)
   (try simp only [Act.put, List.setIfInBounds_toArray, List.set_cons_zero, List.set_cons_succ])
   refine wpAnyH_take (i := 10) (oi := ({ dst := some 155, op := Go.Op.load 23 (Go.Operand.tmp 21), type := 23, pos := "law.go:221", after := #[{ on := 8, ground := Go.Ground.guard }], guard := some (8, false) } : Oper)) (v := ?v10_11u_20_2) rfl (by kernel_rfl) (by kernel_rfl) (by kernel_rfl) (fun _ _ _ h => h) (Or.inl ⟨by rfl, ?hy10_11u_20_2⟩) (by assumption) ?re10_11u_20_2
   case hy10_11u_20_2 => ((intro w hSw; have e00 := hSw.1.c0; have e01 := hSw.1.c1; have e10 := hSw.2.1.c0; have e11 := hSw.2.1.c1; have e20 := hSw.2.2.c0; have e21 := hSw.2.2.c1; go_simp) <;> with_reducible rfl)
   (try simp only [Act.put, List.setIfInBounds_toArray, List.set_cons_zero, List.set_cons_succ])
   refine wpAnyH_take (i := 12) (oi := ({ dst := some 157, op := Go.Op.move (Go.Operand.tmp 14), type := 3, pos := "law.go:221", after := #[{ on := 8, ground := Go.Ground.guard }], guard := some (8, false) } : Oper)) (v := ?v12_12u_20_2) rfl (by kernel_rfl) (by kernel_rfl) (by kernel_rfl) (fun _ _ _ h => h) (Or.inl ⟨by rfl, ?hy12_12u_20_2⟩) (by assumption) ?re12_12u_20_2
   case hy12_12u_20_2 => (intro w hSw; go_simp) <;> with_reducible rfl
   (try simp only [Act.put, List.setIfInBounds_toArray, List.set_cons_zero, List.set_cons_succ])
   refine wpAnyH_take (i := 13) (oi := ({ dst := some 158, op := Go.Op.load 23 (Go.Operand.tmp 13), type := 23, pos := "law.go:221", after := #[{ on := 8, ground := Go.Ground.guard }], guard := some (8, false) } : Oper)) (v := ?v13_13u_20_2) rfl (by kernel_rfl) (by kernel_rfl) (by kernel_rfl) (fun _ _ _ h => h) (Or.inl ⟨by rfl, ?hy13_13u_20_2⟩) (by assumption) ?re13_13u_20_2
   case hy13_13u_20_2 => ((intro w hSw; have e00 := hSw.1.c0; have e01 := hSw.1.c1; have e10 := hSw.2.1.c0; have e11 := hSw.2.1.c1; have e20 := hSw.2.2.c0; have e21 := hSw.2.2.c1; go_simp) <;> with_reducible rfl)
   (try simp only [Act.put, List.setIfInBounds_toArray, List.set_cons_zero, List.set_cons_succ])
   refine wpAnyH_ready (rs := [11]) (by kernel_rfl) (by simp) ?_
   refine AllReadyH.cons (o := ({ dst := some 156, op := Go.Op.call { callee := Go.Callee.value (Go.Operand.func 20), args := #[Go.Operand.tmp 154, Go.Operand.tmp 155], argTypes := #[23, 23] }, type := 3, pos := "law.go:221", after := #[{ on := 9, ground := Go.Ground.data }, { on := 10, ground := Go.Ground.data }, { on := 8, ground := Go.Ground.chain }, { on := 8, ground := Go.Ground.guard }], guard := some (8, false) } : Oper)) rfl (fun K hK => ?_) ?_
   ·
    go_simp
    go_at_call 20
    refine (Hkm.out _).mono ?_
    rintro e Wu20_1 ⟨rfl, B⟩
    have Aqan := Lib.hid (Aqa.out.keep B Aqa.out.lt)
    have Aqbn := Lib.hid (Aqb.out.keep B Aqb.out.lt)
    have Aqcn := Lib.hid (Aqc.out.keep B Aqc.out.lt)
    have Aqtn := Lib.hid (Aqt.out.keep B Aqt.out.lt)
    have Ppn := Lib.hid (Pp.out.keep B Pp.out.lt)
    have Qqn := Lib.hid (Qq.out.keep B Qq.out.lt)
    have HBn := Lib.hid (HB.out.trans (B.mono HB.out.size))
    clear Aqa Aqb Aqc Aqt Pp Qq HB
    have Aqa := Aqan
    have Aqb := Aqbn
    have Aqc := Aqcn
    have Aqt := Aqtn
    have Pp := Ppn
    have Qq := Qqn
    have HB := HBn
    clear Aqan Aqbn Aqcn Aqtn Ppn Qqn HBn
    (try go_wp2_with fail)
    refine hK.out _ _ ?_ (fun hHeld => ?_)
    ·
     exact ⟨hHeld.1.keep B hHeld.1.lt, hHeld.2.1.keep B hHeld.2.1.lt, hHeld.2.2.keep B hHeld.2.2.lt⟩
    clear hK K
    (try simp only [Act.put, List.setIfInBounds_toArray, List.set_cons_zero, List.set_cons_succ])
    clear B
    refine wpAnyH_ready (rs := [14]) (by kernel_rfl) (by simp) ?_
    refine AllReadyH.cons (o := ({ dst := some 159, op := Go.Op.call { callee := Go.Callee.value (Go.Operand.func 41), args := #[Go.Operand.const (Go.Value.string { data := #[48] }), Go.Operand.const (Go.Value.string { data := #[49] })], argTypes := #[9, 9] }, type := 23, pos := "law.go:221", after := #[{ on := 11, ground := Go.Ground.chain }, { on := 8, ground := Go.Ground.guard }], guard := some (8, false) } : Oper)) rfl (fun K hK => ?_) ?_
    ·
     go_simp
     go_at_call 41
     refine (is_any _ _ _).mono ?_
     rintro e Wu20_2 ⟨rfl, B⟩
     have Aqan := Lib.hid (Aqa.out.keep B Aqa.out.lt)
     have Aqbn := Lib.hid (Aqb.out.keep B Aqb.out.lt)
     have Aqcn := Lib.hid (Aqc.out.keep B Aqc.out.lt)
     have Aqtn := Lib.hid (Aqt.out.keep B Aqt.out.lt)
     have Ppn := Lib.hid (Pp.out.keep B Pp.out.lt)
     have Qqn := Lib.hid (Qq.out.keep B Qq.out.lt)
     have HBn := Lib.hid (HB.out.trans (B.mono HB.out.size))
     clear Aqa Aqb Aqc Aqt Pp Qq HB
     have Aqa := Aqan
     have Aqb := Aqbn
     have Aqc := Aqcn
     have Aqt := Aqtn
     have Pp := Ppn
     have Qq := Qqn
     have HB := HBn
     clear Aqan Aqbn Aqcn Aqtn Ppn Qqn HBn
     (try go_wp2_with fail)
     refine hK.out _ _ ?_ (fun hHeld => ?_)
     ·
      exact ⟨hHeld.1.keep B hHeld.1.lt, hHeld.2.1.keep B hHeld.2.1.lt, hHeld.2.2.keep B hHeld.2.2.lt⟩
     clear hK K
     (try simp only [Act.put, List.setIfInBounds_toArray, List.set_cons_zero, List.set_cons_succ])
     clear B
     refine wpAnyH_ready (rs := [15]) (by kernel_rfl) (by simp) ?_
     refine AllReadyH.cons (o := ({ dst := some 160, op := Go.Op.call { callee := Go.Callee.value (Go.Operand.func 20), args := #[Go.Operand.tmp 158, Go.Operand.tmp 159], argTypes := #[23, 23] }, type := 3, pos := "law.go:221", after := #[{ on := 13, ground := Go.Ground.data }, { on := 14, ground := Go.Ground.data }, { on := 14, ground := Go.Ground.chain }, { on := 8, ground := Go.Ground.guard }], guard := some (8, false) } : Oper)) rfl (fun K hK => ?_) ?_
     ·
      go_simp
      go_at_call 20
      refine (Hkt.out _).mono ?_
      rintro e Wu20_3 ⟨rfl, B⟩
      have Aqan := Lib.hid (Aqa.out.keep B Aqa.out.lt)
      have Aqbn := Lib.hid (Aqb.out.keep B Aqb.out.lt)
      have Aqcn := Lib.hid (Aqc.out.keep B Aqc.out.lt)
      have Aqtn := Lib.hid (Aqt.out.keep B Aqt.out.lt)
      have Ppn := Lib.hid (Pp.out.keep B Pp.out.lt)
      have Qqn := Lib.hid (Qq.out.keep B Qq.out.lt)
      have HBn := Lib.hid (HB.out.trans (B.mono HB.out.size))
      clear Aqa Aqb Aqc Aqt Pp Qq HB
      have Aqa := Aqan
      have Aqb := Aqbn
      have Aqc := Aqcn
      have Aqt := Aqtn
      have Pp := Ppn
      have Qq := Qqn
      have HB := HBn
      clear Aqan Aqbn Aqcn Aqtn Ppn Qqn HBn
      (try go_wp2_with fail)
      refine hK.out _ _ ?_ (fun hHeld => ?_)
      ·
       exact ⟨hHeld.1.keep B hHeld.1.lt, hHeld.2.1.keep B hHeld.2.1.lt, hHeld.2.2.keep B hHeld.2.2.lt⟩
      clear hK K
      (try simp only [Act.put, List.setIfInBounds_toArray, List.set_cons_zero, List.set_cons_succ])
      clear B
      refine wpAnyH_take (i := 16) (oi := ({ dst := some 161, op := Go.Op.binOp Go.BinOp.mul 3 (Go.Operand.tmp 157) (Go.Operand.tmp 160) 3, type := 3, pos := "law.go:221", after := #[{ on := 12, ground := Go.Ground.data }, { on := 15, ground := Go.Ground.data }, { on := 8, ground := Go.Ground.guard }], guard := some (8, false) } : Oper)) (v := ?v16_14u_20_2) rfl (by kernel_rfl) (by kernel_rfl) (by kernel_rfl) (fun _ _ _ h => h) (Or.inl ⟨by rfl, ?hy16_14u_20_2⟩) (by assumption) ?re16_14u_20_2
      case hy16_14u_20_2 => (intro w hSw; go_simp) <;> with_reducible rfl
      (try simp only [Act.put, List.setIfInBounds_toArray, List.set_cons_zero, List.set_cons_succ])
      refine wpAnyH_take (i := 17) (oi := ({ dst := some 162, op := Go.Op.binOp Go.BinOp.eql 3 (Go.Operand.tmp 156) (Go.Operand.tmp 161) 3, type := 4, pos := "law.go:221", after := #[{ on := 11, ground := Go.Ground.data }, { on := 16, ground := Go.Ground.data }, { on := 8, ground := Go.Ground.guard }], guard := some (8, false) } : Oper)) (v := ?v17_15u_20_2) rfl (by kernel_rfl) (by kernel_rfl) (by kernel_rfl) (fun _ _ _ h => h) (Or.inl ⟨by rfl, ?hy17_15u_20_2⟩) (by assumption) ?re17_15u_20_2
      case hy17_15u_20_2 => (intro w hSw; go_simp) <;> with_reducible rfl
      (try simp only [Act.put, List.setIfInBounds_toArray, List.set_cons_zero, List.set_cons_succ])
      refine wpAnyH_take (i := 18) (oi := ({ dst := some 163, op := Go.Op.pick (Go.Operand.tmp 153) (Go.Operand.const (Go.Value.bool true)) (Go.Operand.tmp 162), type := 4, pos := "law.go:221", after := #[{ on := 8, ground := Go.Ground.data }, { on := 17, ground := Go.Ground.data }, { on := 1, ground := Go.Ground.guard }], guard := some (1, true) } : Oper)) (v := ?v18_16u_20_2) rfl (by kernel_rfl) (by kernel_rfl) (by kernel_rfl) (fun _ _ _ h => h) (Or.inl ⟨by rfl, ?hy18_16u_20_2⟩) (by assumption) ?re18_16u_20_2
      case hy18_16u_20_2 => (intro w hSw; go_simp) <;> with_reducible rfl
      (try simp only [Act.put, List.setIfInBounds_toArray, List.set_cons_zero, List.set_cons_succ])
      refine wpAnyH_take (i := 19) (oi := ({ dst := some 164, op := Go.Op.pick (Go.Operand.tmp 146) (Go.Operand.tmp 163) (Go.Operand.const (Go.Value.bool false)), type := 4, pos := "law.go:221", after := #[{ on := 1, ground := Go.Ground.data }, { on := 18, ground := Go.Ground.data }], guard := none } : Oper)) (v := ?v19_17u_20_2) rfl (by kernel_rfl) (by kernel_rfl) (by kernel_rfl) (fun _ _ _ h => h) (Or.inl ⟨by rfl, ?hy19_17u_20_2⟩) (by assumption) ?re19_17u_20_2
      case hy19_17u_20_2 => (intro w hSw; go_simp) <;> with_reducible rfl
      (try simp only [Act.put, List.setIfInBounds_toArray, List.set_cons_zero, List.set_cons_succ])
      refine wpAnyH_take (i := 20) (oi := ({ dst := some 8, op := Go.Op.assign (Go.Operand.tmp 164), type := 4, pos := "law.go:221", after := #[{ on := 19, ground := Go.Ground.data }, { on := 15, ground := Go.Ground.chain }, { on := 0, ground := Go.Ground.phase }, { on := 1, ground := Go.Ground.phase }, { on := 2, ground := Go.Ground.phase }, { on := 3, ground := Go.Ground.phase }, { on := 4, ground := Go.Ground.phase }, { on := 5, ground := Go.Ground.phase }, { on := 6, ground := Go.Ground.phase }, { on := 7, ground := Go.Ground.phase }, { on := 8, ground := Go.Ground.phase }, { on := 9, ground := Go.Ground.phase }, { on := 10, ground := Go.Ground.phase }, { on := 11, ground := Go.Ground.phase }, { on := 12, ground := Go.Ground.phase }, { on := 13, ground := Go.Ground.phase }, { on := 14, ground := Go.Ground.phase }, { on := 15, ground := Go.Ground.phase }, { on := 16, ground := Go.Ground.phase }, { on := 17, ground := Go.Ground.phase }, { on := 18, ground := Go.Ground.phase }, { on := 19, ground := Go.Ground.phase }], guard := none } : Oper)) (v := ?v20_18u_20_2) rfl (by kernel_rfl) (by kernel_rfl) (by kernel_rfl) (fun _ _ _ h => h) (Or.inl ⟨by rfl, ?hy20_18u_20_2⟩) (by assumption) ?re20_18u_20_2
      case hy20_18u_20_2 => (intro w hSw; go_simp) <;> with_reducible rfl
      (try simp only [Act.put, List.setIfInBounds_toArray, List.set_cons_zero, List.set_cons_succ])
      refine wpAnyH_done (by kernel_rfl) ?_ _
      refine NoPanic.normal ?_
      (try go_wp2_with fail)
      go_ret
      exact ⟨rfl, HB.out⟩
     exact AllReadyH.nil
    exact AllReadyH.nil
   exact AllReadyH.nil
end Go.Proofs.YtjpifnepdmgpeaaGreatDoor
