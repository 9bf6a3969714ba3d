/- RationalLowest: the walk of the law. -/
import Derived.Test.YtjpifnepdmgpeaaGreatDoorMe
namespace Go.Proofs.YtjpifnepdmgpeaaGreatDoor
open Go.RowKit

theorem rMul_S (x y : Int) (hx : x.natAbs < 10 ^ 200) (hy : y.natAbs < 10 ^ 200) (hz : (x * y).natAbs < 10 ^ 200) (w : World) :
    Calls Tryz.prog 44 #[.string (S x), .string (S y)] w fun e w' => e = .returned (.tuple #[.string (S (x * y)), .int .i64 0]) ∧ Below w.heap.size w w' := by
  have h := rMul_ok (S x) (S y) (txt x) (txt y) w (S_list x) (S_list y) (txt_vld hx) (txt_vld hy)
  rw [txt_num, txt_num, rs, er, if_pos hz, if_pos hz] at h
  exact h
theorem Long_ag (x0 x1 x2 x3 : Int) (w : World) (b0 : -9223372036854775808 ≤ x0 ∧ x0 ≤ 9223372036854775807) (b1 : -9223372036854775808 ≤ x1 ∧ x1 ≤ 9223372036854775807) (b2 : -9223372036854775808 ≤ x2 ∧ x2 ≤ 9223372036854775807) (b3 : -9223372036854775808 ≤ x3 ∧ x3 ≤ 9223372036854775807) :
    Calls Tryz.prog 13 #[.agg #[.int .i64 x0, .int .i64 x1, .int .i64 x2, .int .i64 x3]] w fun e w' => ∃ q : Rat, e = .returned (.agg #[.string (S q.num), .string (S (q.den : Int))]) ∧ fitR 100 q ∧ Below w.heap.size w w' := Long_any x0 x1 x2 x3 w b0 b1 b2 b3
theorem Small_ag (x0 x1 : Int) (w : World) (b0 : -9223372036854775808 ≤ x0 ∧ x0 ≤ 9223372036854775807) (b1 : -9223372036854775808 ≤ x1 ∧ x1 ≤ 9223372036854775807) :
    Calls Tryz.prog 14 #[.agg #[.int .i64 x0, .int .i64 x1]] w fun e w' => ∃ q : Rat, e = .returned (.agg #[.string (S q.num), .string (S (q.den : Int))]) ∧ smallR q ∧ Below w.heap.size w w' := Small_any x0 x1 w b0 b1
theorem divInt_k (q : Rat) (k : Int) (h : k ≠ 0) : Rat.divInt (q.num * k) (q.den * k) = q := by
  rw [Rat.divInt_mul_right h]; exact mk_self q
theorem lowb {q : Rat} {k : Int} (hq : fitR 100 q) (hk : k.natAbs ≤ 1000000) : (q.num * k).natAbs < 10 ^ 200 ∧ ((q.den : Int) * k).natAbs < 10 ^ 200 := by
  have h7 : k.natAbs < 10 ^ 7 := by omega
  exact ⟨mulb (p := 100) (q := 7) hq.1 h7 (by decide), mulb (p := 100) (q := 7) (den_abs q hq) h7 (by decide)⟩

set_option maxRecDepth 100000 in
set_option maxHeartbeats 8000000 in
theorem lowest_any (x0 x1 x2 x3 f : Int) (sg : Bool) (w : World) (b0 : -9223372036854775808 ≤ x0 ∧ x0 ≤ 9223372036854775807) (b1 : -9223372036854775808 ≤ x1 ∧ x1 ≤ 9223372036854775807) (b2 : -9223372036854775808 ≤ x2 ∧ x2 ≤ 9223372036854775807) (b3 : -9223372036854775808 ≤ x3 ∧ x3 ≤ 9223372036854775807) (bf : -9223372036854775808 ≤ f ∧ f ≤ 9223372036854775807) (hT : Tz w) :
    Calls Tryz.prog 9 #[.agg #[.int .i64 x0, .int .i64 x1, .int .i64 x2, .int .i64 x3], .int .i64 f, .bool sg] w fun e w' => e = .returned (.bool true) ∧ Below w.heap.size w w' := by
  have X := Lib.hid (CBlk.new w #[.int .i64 x0, .int .i64 x1, .int .i64 x2, .int .i64 x3] 24)
  have HB := Lib.hid (below_alloc w (.cells #[.int .i64 x0, .int .i64 x1, .int .i64 x2, .int .i64 x3] 24))
  have HT := Lib.hid hT
  clear hT
  cases sg
  · go_enter Tryz.func9, Tryz.ntmps9
    go_wp2_with fail
    go_at_call 11
    refine (sane4_any _ (HT.out.below HB.out)).mono ?_
    rintro e Wb1 ⟨rfl, B⟩
    have Xn := Lib.hid ((X.out.keep B X.out.lt))
    have HBn := Lib.hid (HB.out.trans (B.mono HB.out.size))
    clear X HB
    have X := Xn
    have HB := HBn
    clear Xn HBn
    clear B
    have Xc0 := X.out.c 0 rfl
    have Xc1 := X.out.c 1 rfl
    have Xc2 := X.out.c 2 rfl
    have Xc3 := X.out.c 3 rfl
    go_wp2_with fail
    clear Xc0 Xc1 Xc2 Xc3
    go_at_call 13
    refine (Long_ag x0 x1 x2 x3 _ b0 b1 b2 b3).mono ?_
    rintro e Wb2 ⟨q, rfl, hq, B⟩
    have Xn := Lib.hid ((X.out.keep B X.out.lt).alloc (.cells #[(.string (S q.num)), (.string (S (q.den : Int)))] 23))
    have HBn := Lib.hid ((HB.out.trans (B.mono HB.out.size)).alloc (HB.out.trans (B.mono HB.out.size)).size (.cells #[(.string (S q.num)), (.string (S (q.den : Int)))] 23))
    clear X HB
    have X := Xn
    have HB := HBn
    clear Xn HBn
    have Rq := Lib.hid (RBlk.new Wb2 (.string (S q.num)) (.string (S (q.den : Int))))
    clear B
    clear X
    go_wp2_with fail
    go_at_call 22
    refine (lpick_1000000 f _ bf.1 bf.2).mono ?_
    rintro e Wb3 ⟨p, rfl, hp, B⟩
    have Rqn := Lib.hid ((Rq.out.keep B Rq.out.lt))
    have HBn := Lib.hid (HB.out.trans (B.mono HB.out.size))
    clear Rq HB
    have Rq := Rqn
    have HB := HBn
    clear Rqn HBn
    clear B
    have wp : IntKind.i64.wrap (1 + (p : Int)) = 1 + (p : Int) := by simp [IntKind.wrap, IntKind.bits, IntKind.signed]; omega
    have wn : IntKind.i64.wrap (-(1 + (p : Int))) = -(1 + (p : Int)) := by simp [IntKind.wrap, IntKind.bits, IntKind.signed]; omega
    have hk0 : (1 + (p : Int)) ≠ 0 := by omega
    have hk9 : (1 + (p : Int)).natAbs ≤ 1000000 := by omega
    have hq2 := hq.wide (l := 200) (by decide)
    have hqd := den_abs q hq2
    have cf := fun W => rFromInt_any (1 + (p : Int)) W (by omega) (by omega)
    have cm1 := fun W => rMul_S q.num (1 + (p : Int)) hq2.1 (by omega) (lowb hq hk9).1 W
    have cm2 := fun W => rMul_S (q.den : Int) (1 + (p : Int)) hqd (by omega) (lowb hq hk9).2 W
    have ca := fun W => qMake_R (q.num * (1 + (p : Int))) ((q.den : Int) * (1 + (p : Int))) W (lowb hq hk9).1 (lowb hq hk9).2 (Int.mul_ne_zero (by have := den_pos q; omega) hk0)
    rw [divInt_k q (1 + (p : Int)) hk0] at ca
    have cb := fun W => qMake_R q.num (q.den : Int) W hq2.1 hqd (by have := den_pos q; omega)
    rw [mk_self] at cb
    have cz := fun W => qMake_R 0 (1 + (p : Int)) W (by decide) (by omega) hk0
    rw [show Rat.divInt 0 (1 + (p : Int)) = 0 from Rat.zero_divInt _, RV_zero, S_zero] at cz
    have cv := fun W => qValid_R q hq2 W
    have cc := fun W => qCompare_R q q hq2 hq2 W
    rw [cmpR_self] at cc
    have cp := fun W => qPrint_R q hq2 W
    unfold RV at ca cb cv cc cp
    generalize S (q.num * (1 + (p : Int))) = sn at *
    generalize S ((q.den : Int) * (1 + (p : Int))) = sd at *
    generalize S (1 + (p : Int)) = sk at *
    generalize S q.num = q1 at *
    generalize S (q.den : Int) = q2 at *
    generalize prt q = pq at *
    have CF := Lib.hid cf
    have CM1 := Lib.hid cm1
    have CM2 := Lib.hid cm2
    have CA := Lib.hid ca
    have CB := Lib.hid cb
    have CZ := Lib.hid cz
    have CV := Lib.hid cv
    have CC := Lib.hid cc
    have CP := Lib.hid cp
    clear cf cm1 cm2 ca cb cz cv cc cp hq hq2 hqd hk9 hk0
    go_wp2_with fail
    go_at_call 43
    refine (CF.out _).mono ?_
    rintro e Wb4 ⟨rfl, B⟩
    have Rqn := Lib.hid ((Rq.out.keep B Rq.out.lt))
    have HBn := Lib.hid (HB.out.trans (B.mono HB.out.size))
    clear Rq HB
    have Rq := Rqn
    have HB := HBn
    clear Rqn HBn
    clear B
    have Rqc0 := Rq.out.c0
    have Rqc1 := Rq.out.c1
    (try go_wp2_with fail)
    clear Rqc0 Rqc1
    go_at_call 44
    refine (CM1.out _).mono ?_
    rintro e Wb5 ⟨rfl, B⟩
    have Rqn := Lib.hid ((Rq.out.keep B Rq.out.lt))
    have HBn := Lib.hid (HB.out.trans (B.mono HB.out.size))
    clear Rq HB
    have Rq := Rqn
    have HB := HBn
    clear Rqn HBn
    clear B
    have Rqc0 := Rq.out.c0
    have Rqc1 := Rq.out.c1
    (try go_wp2_with fail)
    clear Rqc0 Rqc1
    go_at_call 44
    refine (CM2.out _).mono ?_
    rintro e Wb6 ⟨rfl, B⟩
    have Rqn := Lib.hid ((Rq.out.keep B Rq.out.lt))
    have HBn := Lib.hid (HB.out.trans (B.mono HB.out.size))
    clear Rq HB
    have Rq := Rqn
    have HB := HBn
    clear Rqn HBn
    clear B
    (try go_wp2_with fail)
    go_at_call 27
    refine (CA.out _).mono ?_
    rintro e Wb7 ⟨rfl, B⟩
    have Rqn := Lib.hid ((Rq.out.keep B Rq.out.lt).alloc (.cells #[(.string q1), (.string q2)] 23))
    have HBn := Lib.hid ((HB.out.trans (B.mono HB.out.size)).alloc (HB.out.trans (B.mono HB.out.size)).size (.cells #[(.string q1), (.string q2)] 23))
    clear Rq HB
    have Rq := Rqn
    have HB := HBn
    clear Rqn HBn
    have Aa := Lib.hid (RBlk.new Wb7 (.string q1) (.string q2))
    clear B
    have Rqc0 := Rq.out.c0
    have Rqc1 := Rq.out.c1
    (try go_wp2_with fail)
    clear Rqc0 Rqc1
    go_at_call 27
    refine (CB.out _).mono ?_
    rintro e Wb8 ⟨rfl, B⟩
    have Rqn := Lib.hid ((Rq.out.keep B Rq.out.lt).alloc (.cells #[(.string q1), (.string q2)] 23))
    have Aan := Lib.hid ((Aa.out.keep B Aa.out.lt).alloc (.cells #[(.string q1), (.string q2)] 23))
    have HBn := Lib.hid ((HB.out.trans (B.mono HB.out.size)).alloc (HB.out.trans (B.mono HB.out.size)).size (.cells #[(.string q1), (.string q2)] 23))
    clear Rq Aa HB
    have Rq := Rqn
    have Aa := Aan
    have HB := HBn
    clear Rqn Aan HBn
    have Bb := Lib.hid (RBlk.new Wb8 (.string q1) (.string q2))
    clear B
    (try go_wp2_with fail)
    go_at_call 27
    refine (CZ.out _).mono ?_
    rintro e Wb9 ⟨rfl, B⟩
    have Rqn := Lib.hid ((Rq.out.keep B Rq.out.lt).alloc (.cells #[(.string ⟨#[48]⟩), (.string ⟨#[49]⟩)] 23))
    have Aan := Lib.hid ((Aa.out.keep B Aa.out.lt).alloc (.cells #[(.string ⟨#[48]⟩), (.string ⟨#[49]⟩)] 23))
    have Bbn := Lib.hid ((Bb.out.keep B Bb.out.lt).alloc (.cells #[(.string ⟨#[48]⟩), (.string ⟨#[49]⟩)] 23))
    have HBn := Lib.hid ((HB.out.trans (B.mono HB.out.size)).alloc (HB.out.trans (B.mono HB.out.size)).size (.cells #[(.string ⟨#[48]⟩), (.string ⟨#[49]⟩)] 23))
    clear Rq Aa Bb HB
    have Rq := Rqn
    have Aa := Aan
    have Bb := Bbn
    have HB := HBn
    clear Rqn Aan Bbn HBn
    have Zz := Lib.hid (RBlk.new Wb9 (.string ⟨#[48]⟩) (.string ⟨#[49]⟩))
    clear B
    go_upto_region 12 with fail
    generalize hW0b12 : (Wb9.alloc (.cells #[(.string ⟨#[48]⟩), (.string ⟨#[49]⟩)] 23)) = W0b12 at *
    clear hW0b12
    refine wp_region_noPanic ?_
    refine wp_region_held_drew (S := fun W => RBlk W (Wb2.heap.size) (.string q1) (.string q2) ∧ RBlk W (Wb7.heap.size) (.string q1) (.string q2) ∧ RBlk W (Wb8.heap.size) (.string q1) (.string q2) ∧ RBlk W (Wb9.heap.size) (.string ⟨#[48]⟩) (.string ⟨#[49]⟩)) (by kernel_rfl) ?_ (fun hHeld => ?_)
    · exact ⟨Rq.out, Aa.out, Bb.out, Zz.out⟩
    have Rqn := Lib.hid Rq.out.drew
    have Aan := Lib.hid Aa.out.drew
    have Bbn := Lib.hid Bb.out.drew
    have Zzn := Lib.hid Zz.out.drew
    have HBn := Lib.hid HB.out.drew
    clear Rq Aa Bb Zz HB
    have Rq := Rqn
    have Aa := Aan
    have Bb := Bbn
    have Zz := Zzn
    have HB := HBn
    clear Rqn Aan Bbn Zzn HBn
    refine wpAnyH_take (i := 0) (oi := ({ dst := some 65, op := Go.Op.move (Go.Operand.tmp 7), type := 4, pos := "law.go:268", after := #[], guard := none } : Oper)) (v := ?v0_1b_12_1) rfl (by kernel_rfl) (by kernel_rfl) (by kernel_rfl) (fun _ _ _ h => h) (Or.inl ⟨by rfl, ?hy0_1b_12_1⟩) (by assumption) ?re0_1b_12_1
    case hy0_1b_12_1 => ((intro w hSw; have e00 := hSw.1.c0; have e01 := hSw.1.c1; have e10 := hSw.2.1.c0; have e11 := hSw.2.1.c1; have e20 := hSw.2.2.1.c0; have e21 := hSw.2.2.1.c1; have e30 := hSw.2.2.2.c0; have e31 := hSw.2.2.2.c1; go_simp) <;> with_reducible rfl)
    (try simp only [Act.put, List.setIfInBounds_toArray, List.set_cons_zero, List.set_cons_succ])
    refine wpAnyH_take (i := 1) (oi := ({ dst := some 66, op := Go.Op.move (Go.Operand.tmp 65), type := 4, pos := "law.go:268", after := #[{ on := 0, ground := Go.Ground.data }], guard := none } : Oper)) (v := ?v1_2b_12_1) rfl (by kernel_rfl) (by kernel_rfl) (by kernel_rfl) (fun _ _ _ h => h) (Or.inl ⟨by rfl, ?hy1_2b_12_1⟩) (by assumption) ?re1_2b_12_1
    case hy1_2b_12_1 => ((intro w hSw; have e00 := hSw.1.c0; have e01 := hSw.1.c1; have e10 := hSw.2.1.c0; have e11 := hSw.2.1.c1; have e20 := hSw.2.2.1.c0; have e21 := hSw.2.2.1.c1; have e30 := hSw.2.2.2.c0; have e31 := hSw.2.2.2.c1; go_simp) <;> with_reducible rfl)
    (try simp only [Act.put, List.setIfInBounds_toArray, List.set_cons_zero, List.set_cons_succ])
    refine wpAnyH_take (i := 2) (oi := ({ dst := some 67, op := Go.Op.move (Go.Operand.tmp 16), type := 32, pos := "law.go:268", after := #[{ on := 1, ground := Go.Ground.guard }], guard := some (1, true) } : Oper)) (v := ?v2_3b_12_1) rfl (by kernel_rfl) (by kernel_rfl) (by kernel_rfl) (fun _ _ _ h => h) (Or.inl ⟨by rfl, ?hy2_3b_12_1⟩) (by assumption) ?re2_3b_12_1
    case hy2_3b_12_1 => ((intro w hSw; have e00 := hSw.1.c0; have e01 := hSw.1.c1; have e10 := hSw.2.1.c0; have e11 := hSw.2.1.c1; have e20 := hSw.2.2.1.c0; have e21 := hSw.2.2.1.c1; have e30 := hSw.2.2.2.c0; have e31 := hSw.2.2.2.c1; go_simp) <;> with_reducible rfl)
    (try simp only [Act.put, List.setIfInBounds_toArray, List.set_cons_zero, List.set_cons_succ])
    refine wpAnyH_take (i := 3) (oi := ({ dst := some 68, op := Go.Op.binOp Go.BinOp.eql 32 (Go.Operand.tmp 67) (Go.Operand.const (Go.Value.int Go.IntKind.i64 0)) 32, type := 4, pos := "law.go:268", after := #[{ on := 2, ground := Go.Ground.data }, { on := 1, ground := Go.Ground.guard }], guard := some (1, true) } : Oper)) (v := ?v3_4b_12_1) rfl (by kernel_rfl) (by kernel_rfl) (by kernel_rfl) (fun _ _ _ h => h) (Or.inl ⟨by rfl, ?hy3_4b_12_1⟩) (by assumption) ?re3_4b_12_1
    case hy3_4b_12_1 => ((intro w hSw; have e00 := hSw.1.c0; have e01 := hSw.1.c1; have e10 := hSw.2.1.c0; have e11 := hSw.2.1.c1; have e20 := hSw.2.2.1.c0; have e21 := hSw.2.2.1.c1; have e30 := hSw.2.2.2.c0; have e31 := hSw.2.2.2.c1; go_simp) <;> with_reducible rfl)
    (try simp only [Act.put, List.setIfInBounds_toArray, List.set_cons_zero, List.set_cons_succ])
    refine wpAnyH_take (i := 4) (oi := ({ dst := some 69, op := Go.Op.pick (Go.Operand.tmp 66) (Go.Operand.tmp 68) (Go.Operand.const (Go.Value.bool false)), type := 4, pos := "law.go:268", after := #[{ on := 1, ground := Go.Ground.data }, { on := 3, ground := Go.Ground.data }], guard := none } : Oper)) (v := ?v4_5b_12_1) rfl (by kernel_rfl) (by kernel_rfl) (by kernel_rfl) (fun _ _ _ h => h) (Or.inl ⟨by rfl, ?hy4_5b_12_1⟩) (by assumption) ?re4_5b_12_1
    case hy4_5b_12_1 => ((intro w hSw; have e00 := hSw.1.c0; have e01 := hSw.1.c1; have e10 := hSw.2.1.c0; have e11 := hSw.2.1.c1; have e20 := hSw.2.2.1.c0; have e21 := hSw.2.2.1.c1; have e30 := hSw.2.2.2.c0; have e31 := hSw.2.2.2.c1; go_simp) <;> with_reducible rfl)
    (try simp only [Act.put, List.setIfInBounds_toArray, List.set_cons_zero, List.set_cons_succ])
    refine wpAnyH_take (i := 5) (oi := ({ dst := some 70, op := Go.Op.move (Go.Operand.tmp 69), type := 4, pos := "law.go:268", after := #[{ on := 4, ground := Go.Ground.data }, { on := 1, ground := Go.Ground.chain }], guard := none } : Oper)) (v := ?v5_6b_12_1) rfl (by kernel_rfl) (by kernel_rfl) (by kernel_rfl) (fun _ _ _ h => h) (Or.inl ⟨by rfl, ?hy5_6b_12_1⟩) (by assumption) ?re5_6b_12_1
    case hy5_6b_12_1 => ((intro w hSw; have e00 := hSw.1.c0; have e01 := hSw.1.c1; have e10 := hSw.2.1.c0; have e11 := hSw.2.1.c1; have e20 := hSw.2.2.1.c0; have e21 := hSw.2.2.1.c1; have e30 := hSw.2.2.2.c0; have e31 := hSw.2.2.2.c1; go_simp) <;> with_reducible rfl)
    (try simp only [Act.put, List.setIfInBounds_toArray, List.set_cons_zero, List.set_cons_succ])
    refine wpAnyH_take (i := 6) (oi := ({ dst := some 71, op := Go.Op.move (Go.Operand.tmp 18), type := 32, pos := "law.go:268", after := #[{ on := 5, ground := Go.Ground.guard }], guard := some (5, true) } : Oper)) (v := ?v6_7b_12_1) rfl (by kernel_rfl) (by kernel_rfl) (by kernel_rfl) (fun _ _ _ h => h) (Or.inl ⟨by rfl, ?hy6_7b_12_1⟩) (by assumption) ?re6_7b_12_1
    case hy6_7b_12_1 => ((intro w hSw; have e00 := hSw.1.c0; have e01 := hSw.1.c1; have e10 := hSw.2.1.c0; have e11 := hSw.2.1.c1; have e20 := hSw.2.2.1.c0; have e21 := hSw.2.2.1.c1; have e30 := hSw.2.2.2.c0; have e31 := hSw.2.2.2.c1; go_simp) <;> with_reducible rfl)
    (try simp only [Act.put, List.setIfInBounds_toArray, List.set_cons_zero, List.set_cons_succ])
    refine wpAnyH_take (i := 7) (oi := ({ dst := some 72, op := Go.Op.binOp Go.BinOp.eql 32 (Go.Operand.tmp 71) (Go.Operand.const (Go.Value.int Go.IntKind.i64 0)) 32, type := 4, pos := "law.go:268", after := #[{ on := 6, ground := Go.Ground.data }, { on := 5, ground := Go.Ground.guard }], guard := some (5, true) } : Oper)) (v := ?v7_8b_12_1) rfl (by kernel_rfl) (by kernel_rfl) (by kernel_rfl) (fun _ _ _ h => h) (Or.inl ⟨by rfl, ?hy7_8b_12_1⟩) (by assumption) ?re7_8b_12_1
    case hy7_8b_12_1 => ((intro w hSw; have e00 := hSw.1.c0; have e01 := hSw.1.c1; have e10 := hSw.2.1.c0; have e11 := hSw.2.1.c1; have e20 := hSw.2.2.1.c0; have e21 := hSw.2.2.1.c1; have e30 := hSw.2.2.2.c0; have e31 := hSw.2.2.2.c1; go_simp) <;> with_reducible rfl)
    (try simp only [Act.put, List.setIfInBounds_toArray, List.set_cons_zero, List.set_cons_succ])
    refine wpAnyH_take (i := 8) (oi := ({ dst := some 73, op := Go.Op.pick (Go.Operand.tmp 70) (Go.Operand.tmp 72) (Go.Operand.const (Go.Value.bool false)), type := 4, pos := "law.go:268", after := #[{ on := 5, ground := Go.Ground.data }, { on := 7, ground := Go.Ground.data }], guard := none } : Oper)) (v := ?v8_9b_12_1) rfl (by kernel_rfl) (by kernel_rfl) (by kernel_rfl) (fun _ _ _ h => h) (Or.inl ⟨by rfl, ?hy8_9b_12_1⟩) (by assumption) ?re8_9b_12_1
    case hy8_9b_12_1 => ((intro w hSw; have e00 := hSw.1.c0; have e01 := hSw.1.c1; have e10 := hSw.2.1.c0; have e11 := hSw.2.1.c1; have e20 := hSw.2.2.1.c0; have e21 := hSw.2.2.1.c1; have e30 := hSw.2.2.2.c0; have e31 := hSw.2.2.2.c1; go_simp) <;> with_reducible rfl)
    (try simp only [Act.put, List.setIfInBounds_toArray, List.set_cons_zero, List.set_cons_succ])
    refine wpAnyH_take (i := 9) (oi := ({ dst := some 74, op := Go.Op.move (Go.Operand.tmp 73), type := 4, pos := "law.go:268", after := #[{ on := 8, ground := Go.Ground.data }, { on := 5, ground := Go.Ground.chain }], guard := none } : Oper)) (v := ?v9_10b_12_1) rfl (by kernel_rfl) (by kernel_rfl) (by kernel_rfl) (fun _ _ _ h => h) (Or.inl ⟨by rfl, ?hy9_10b_12_1⟩) (by assumption) ?re9_10b_12_1
    case hy9_10b_12_1 => ((intro w hSw; have e00 := hSw.1.c0; have e01 := hSw.1.c1; have e10 := hSw.2.1.c0; have e11 := hSw.2.1.c1; have e20 := hSw.2.2.1.c0; have e21 := hSw.2.2.1.c1; have e30 := hSw.2.2.2.c0; have e31 := hSw.2.2.2.c1; go_simp) <;> with_reducible rfl)
    (try simp only [Act.put, List.setIfInBounds_toArray, List.set_cons_zero, List.set_cons_succ])
    refine wpAnyH_take (i := 10) (oi := ({ dst := some 75, op := Go.Op.move (Go.Operand.tmp 20), type := 32, pos := "law.go:268", after := #[{ on := 9, ground := Go.Ground.guard }], guard := some (9, true) } : Oper)) (v := ?v10_11b_12_1) rfl (by kernel_rfl) (by kernel_rfl) (by kernel_rfl) (fun _ _ _ h => h) (Or.inl ⟨by rfl, ?hy10_11b_12_1⟩) (by assumption) ?re10_11b_12_1
    case hy10_11b_12_1 => ((intro w hSw; have e00 := hSw.1.c0; have e01 := hSw.1.c1; have e10 := hSw.2.1.c0; have e11 := hSw.2.1.c1; have e20 := hSw.2.2.1.c0; have e21 := hSw.2.2.1.c1; have e30 := hSw.2.2.2.c0; have e31 := hSw.2.2.2.c1; go_simp) <;> with_reducible rfl)
    (try simp only [Act.put, List.setIfInBounds_toArray, List.set_cons_zero, List.set_cons_succ])
    refine wpAnyH_take (i := 11) (oi := ({ dst := some 76, op := Go.Op.binOp Go.BinOp.eql 32 (Go.Operand.tmp 75) (Go.Operand.const (Go.Value.int Go.IntKind.i64 0)) 32, type := 4, pos := "law.go:268", after := #[{ on := 10, ground := Go.Ground.data }, { on := 9, ground := Go.Ground.guard }], guard := some (9, true) } : Oper)) (v := ?v11_12b_12_1) rfl (by kernel_rfl) (by kernel_rfl) (by kernel_rfl) (fun _ _ _ h => h) (Or.inl ⟨by rfl, ?hy11_12b_12_1⟩) (by assumption) ?re11_12b_12_1
    case hy11_12b_12_1 => ((intro w hSw; have e00 := hSw.1.c0; have e01 := hSw.1.c1; have e10 := hSw.2.1.c0; have e11 := hSw.2.1.c1; have e20 := hSw.2.2.1.c0; have e21 := hSw.2.2.1.c1; have e30 := hSw.2.2.2.c0; have e31 := hSw.2.2.2.c1; go_simp) <;> with_reducible rfl)
    (try simp only [Act.put, List.setIfInBounds_toArray, List.set_cons_zero, List.set_cons_succ])
    refine wpAnyH_take (i := 12) (oi := ({ dst := some 77, op := Go.Op.pick (Go.Operand.tmp 74) (Go.Operand.tmp 76) (Go.Operand.const (Go.Value.bool false)), type := 4, pos := "law.go:268", after := #[{ on := 9, ground := Go.Ground.data }, { on := 11, ground := Go.Ground.data }], guard := none } : Oper)) (v := ?v12_13b_12_1) rfl (by kernel_rfl) (by kernel_rfl) (by kernel_rfl) (fun _ _ _ h => h) (Or.inl ⟨by rfl, ?hy12_13b_12_1⟩) (by assumption) ?re12_13b_12_1
    case hy12_13b_12_1 => ((intro w hSw; have e00 := hSw.1.c0; have e01 := hSw.1.c1; have e10 := hSw.2.1.c0; have e11 := hSw.2.1.c1; have e20 := hSw.2.2.1.c0; have e21 := hSw.2.2.1.c1; have e30 := hSw.2.2.2.c0; have e31 := hSw.2.2.2.c1; go_simp) <;> with_reducible rfl)
    (try simp only [Act.put, List.setIfInBounds_toArray, List.set_cons_zero, List.set_cons_succ])
    refine wpAnyH_take (i := 13) (oi := ({ dst := some 78, op := Go.Op.move (Go.Operand.tmp 77), type := 4, pos := "law.go:268", after := #[{ on := 12, ground := Go.Ground.data }, { on := 9, ground := Go.Ground.chain }], guard := none } : Oper)) (v := ?v13_14b_12_1) rfl (by kernel_rfl) (by kernel_rfl) (by kernel_rfl) (fun _ _ _ h => h) (Or.inl ⟨by rfl, ?hy13_14b_12_1⟩) (by assumption) ?re13_14b_12_1
    case hy13_14b_12_1 => ((intro w hSw; have e00 := hSw.1.c0; have e01 := hSw.1.c1; have e10 := hSw.2.1.c0; have e11 := hSw.2.1.c1; have e20 := hSw.2.2.1.c0; have e21 := hSw.2.2.1.c1; have e30 := hSw.2.2.2.c0; have e31 := hSw.2.2.2.c1; go_simp) <;> with_reducible rfl)
    (try simp only [Act.put, List.setIfInBounds_toArray, List.set_cons_zero, List.set_cons_succ])
    refine wpAnyH_take (i := 14) (oi := ({ dst := some 79, op := Go.Op.load 23 (Go.Operand.tmp 15), type := 23, pos := "law.go:268", after := #[{ on := 13, ground := Go.Ground.guard }], guard := some (13, true) } : Oper)) (v := ?v14_15b_12_1) rfl (by kernel_rfl) (by kernel_rfl) (by kernel_rfl) (fun _ _ _ h => h) (Or.inl ⟨by rfl, ?hy14_15b_12_1⟩) (by assumption) ?re14_15b_12_1
    case hy14_15b_12_1 => ((intro w hSw; have e00 := hSw.1.c0; have e01 := hSw.1.c1; have e10 := hSw.2.1.c0; have e11 := hSw.2.1.c1; have e20 := hSw.2.2.1.c0; have e21 := hSw.2.2.1.c1; have e30 := hSw.2.2.2.c0; have e31 := hSw.2.2.2.c1; go_simp) <;> with_reducible rfl)
    (try simp only [Act.put, List.setIfInBounds_toArray, List.set_cons_zero, List.set_cons_succ])
    refine wpAnyH_take (i := 15) (oi := ({ dst := some 80, op := Go.Op.load 23 (Go.Operand.tmp 17), type := 23, pos := "law.go:268", after := #[{ on := 13, ground := Go.Ground.guard }], guard := some (13, true) } : Oper)) (v := ?v15_16b_12_1) rfl (by kernel_rfl) (by kernel_rfl) (by kernel_rfl) (fun _ _ _ h => h) (Or.inl ⟨by rfl, ?hy15_16b_12_1⟩) (by assumption) ?re15_16b_12_1
    case hy15_16b_12_1 => ((intro w hSw; have e00 := hSw.1.c0; have e01 := hSw.1.c1; have e10 := hSw.2.1.c0; have e11 := hSw.2.1.c1; have e20 := hSw.2.2.1.c0; have e21 := hSw.2.2.1.c1; have e30 := hSw.2.2.2.c0; have e31 := hSw.2.2.2.c1; go_simp) <;> with_reducible rfl)
    (try simp only [Act.put, List.setIfInBounds_toArray, List.set_cons_zero, List.set_cons_succ])
    refine wpAnyH_take (i := 16) (oi := ({ dst := some 81, op := Go.Op.binOp Go.BinOp.eql 23 (Go.Operand.tmp 79) (Go.Operand.tmp 80) 23, type := 4, pos := "law.go:268", after := #[{ on := 14, ground := Go.Ground.data }, { on := 15, ground := Go.Ground.data }, { on := 13, ground := Go.Ground.guard }], guard := some (13, true) } : Oper)) (v := ?v16_17b_12_1) rfl (by kernel_rfl) (by kernel_rfl) (by kernel_rfl) (fun _ _ _ h => h) (Or.inl ⟨by rfl, ?hy16_17b_12_1⟩) (by assumption) ?re16_17b_12_1
    case hy16_17b_12_1 => ((intro w hSw; have e00 := hSw.1.c0; have e01 := hSw.1.c1; have e10 := hSw.2.1.c0; have e11 := hSw.2.1.c1; have e20 := hSw.2.2.1.c0; have e21 := hSw.2.2.1.c1; have e30 := hSw.2.2.2.c0; have e31 := hSw.2.2.2.c1; go_simp) <;> with_reducible rfl)
    (try simp only [Act.put, List.setIfInBounds_toArray, List.set_cons_zero, List.set_cons_succ])
    refine wpAnyH_take (i := 17) (oi := ({ dst := some 82, op := Go.Op.pick (Go.Operand.tmp 78) (Go.Operand.tmp 81) (Go.Operand.const (Go.Value.bool false)), type := 4, pos := "law.go:268", after := #[{ on := 13, ground := Go.Ground.data }, { on := 16, ground := Go.Ground.data }], guard := none } : Oper)) (v := ?v17_18b_12_1) rfl (by kernel_rfl) (by kernel_rfl) (by kernel_rfl) (fun _ _ _ h => h) (Or.inl ⟨by rfl, ?hy17_18b_12_1⟩) (by assumption) ?re17_18b_12_1
    case hy17_18b_12_1 => ((intro w hSw; have e00 := hSw.1.c0; have e01 := hSw.1.c1; have e10 := hSw.2.1.c0; have e11 := hSw.2.1.c1; have e20 := hSw.2.2.1.c0; have e21 := hSw.2.2.1.c1; have e30 := hSw.2.2.2.c0; have e31 := hSw.2.2.2.c1; go_simp) <;> with_reducible rfl)
    (try simp only [Act.put, List.setIfInBounds_toArray, List.set_cons_zero, List.set_cons_succ])
    refine wpAnyH_take (i := 18) (oi := ({ dst := some 83, op := Go.Op.move (Go.Operand.tmp 82), type := 4, pos := "law.go:268", after := #[{ on := 17, ground := Go.Ground.data }, { on := 13, ground := Go.Ground.chain }], guard := none } : Oper)) (v := ?v18_19b_12_1) rfl (by kernel_rfl) (by kernel_rfl) (by kernel_rfl) (fun _ _ _ h => h) (Or.inl ⟨by rfl, ?hy18_19b_12_1⟩) (by assumption) ?re18_19b_12_1
    case hy18_19b_12_1 => ((intro w hSw; have e00 := hSw.1.c0; have e01 := hSw.1.c1; have e10 := hSw.2.1.c0; have e11 := hSw.2.1.c1; have e20 := hSw.2.2.1.c0; have e21 := hSw.2.2.1.c1; have e30 := hSw.2.2.2.c0; have e31 := hSw.2.2.2.c1; go_simp) <;> with_reducible rfl)
    (try simp only [Act.put, List.setIfInBounds_toArray, List.set_cons_zero, List.set_cons_succ])
    refine wpAnyH_take (i := 19) (oi := ({ dst := some 84, op := Go.Op.load 23 (Go.Operand.tmp 15), type := 23, pos := "law.go:268", after := #[{ on := 18, ground := Go.Ground.guard }], guard := some (18, true) } : Oper)) (v := ?v19_20b_12_1) rfl (by kernel_rfl) (by kernel_rfl) (by kernel_rfl) (fun _ _ _ h => h) (Or.inl ⟨by rfl, ?hy19_20b_12_1⟩) (by assumption) ?re19_20b_12_1
    case hy19_20b_12_1 => ((intro w hSw; have e00 := hSw.1.c0; have e01 := hSw.1.c1; have e10 := hSw.2.1.c0; have e11 := hSw.2.1.c1; have e20 := hSw.2.2.1.c0; have e21 := hSw.2.2.1.c1; have e30 := hSw.2.2.2.c0; have e31 := hSw.2.2.2.c1; go_simp) <;> with_reducible rfl)
    (try simp only [Act.put, List.setIfInBounds_toArray, List.set_cons_zero, List.set_cons_succ])
    refine wpAnyH_take (i := 20) (oi := ({ dst := some 85, op := Go.Op.load 23 (Go.Operand.tmp 8), type := 23, pos := "law.go:268", after := #[{ on := 18, ground := Go.Ground.guard }], guard := some (18, true) } : Oper)) (v := ?v20_21b_12_1) rfl (by kernel_rfl) (by kernel_rfl) (by kernel_rfl) (fun _ _ _ h => h) (Or.inl ⟨by rfl, ?hy20_21b_12_1⟩) (by assumption) ?re20_21b_12_1
    case hy20_21b_12_1 => ((intro w hSw; have e00 := hSw.1.c0; have e01 := hSw.1.c1; have e10 := hSw.2.1.c0; have e11 := hSw.2.1.c1; have e20 := hSw.2.2.1.c0; have e21 := hSw.2.2.1.c1; have e30 := hSw.2.2.2.c0; have e31 := hSw.2.2.2.c1; go_simp) <;> with_reducible rfl)
    (try simp only [Act.put, List.setIfInBounds_toArray, List.set_cons_zero, List.set_cons_succ])
    refine wpAnyH_take (i := 21) (oi := ({ dst := some 86, op := Go.Op.binOp Go.BinOp.eql 23 (Go.Operand.tmp 84) (Go.Operand.tmp 85) 23, type := 4, pos := "law.go:268", after := #[{ on := 19, ground := Go.Ground.data }, { on := 20, ground := Go.Ground.data }, { on := 18, ground := Go.Ground.guard }], guard := some (18, true) } : Oper)) (v := ?v21_22b_12_1) rfl (by kernel_rfl) (by kernel_rfl) (by kernel_rfl) (fun _ _ _ h => h) (Or.inl ⟨by rfl, ?hy21_22b_12_1⟩) (by assumption) ?re21_22b_12_1
    case hy21_22b_12_1 => ((intro w hSw; have e00 := hSw.1.c0; have e01 := hSw.1.c1; have e10 := hSw.2.1.c0; have e11 := hSw.2.1.c1; have e20 := hSw.2.2.1.c0; have e21 := hSw.2.2.1.c1; have e30 := hSw.2.2.2.c0; have e31 := hSw.2.2.2.c1; go_simp) <;> with_reducible rfl)
    (try simp only [Act.put, List.setIfInBounds_toArray, List.set_cons_zero, List.set_cons_succ])
    refine wpAnyH_take (i := 22) (oi := ({ dst := some 87, op := Go.Op.pick (Go.Operand.tmp 83) (Go.Operand.tmp 86) (Go.Operand.const (Go.Value.bool false)), type := 4, pos := "law.go:268", after := #[{ on := 18, ground := Go.Ground.data }, { on := 21, ground := Go.Ground.data }], guard := none } : Oper)) (v := ?v22_23b_12_1) rfl (by kernel_rfl) (by kernel_rfl) (by kernel_rfl) (fun _ _ _ h => h) (Or.inl ⟨by rfl, ?hy22_23b_12_1⟩) (by assumption) ?re22_23b_12_1
    case hy22_23b_12_1 => ((intro w hSw; have e00 := hSw.1.c0; have e01 := hSw.1.c1; have e10 := hSw.2.1.c0; have e11 := hSw.2.1.c1; have e20 := hSw.2.2.1.c0; have e21 := hSw.2.2.1.c1; have e30 := hSw.2.2.2.c0; have e31 := hSw.2.2.2.c1; go_simp) <;> with_reducible rfl)
    (try simp only [Act.put, List.setIfInBounds_toArray, List.set_cons_zero, List.set_cons_succ])
    refine wpAnyH_take (i := 23) (oi := ({ dst := some 88, op := Go.Op.move (Go.Operand.tmp 87), type := 4, pos := "law.go:268", after := #[{ on := 22, ground := Go.Ground.data }, { on := 18, ground := Go.Ground.chain }], guard := none } : Oper)) (v := ?v23_24b_12_1) rfl (by kernel_rfl) (by kernel_rfl) (by kernel_rfl) (fun _ _ _ h => h) (Or.inl ⟨by rfl, ?hy23_24b_12_1⟩) (by assumption) ?re23_24b_12_1
    case hy23_24b_12_1 => ((intro w hSw; have e00 := hSw.1.c0; have e01 := hSw.1.c1; have e10 := hSw.2.1.c0; have e11 := hSw.2.1.c1; have e20 := hSw.2.2.1.c0; have e21 := hSw.2.2.1.c1; have e30 := hSw.2.2.2.c0; have e31 := hSw.2.2.2.c1; go_simp) <;> with_reducible rfl)
    (try simp only [Act.put, List.setIfInBounds_toArray, List.set_cons_zero, List.set_cons_succ])
    refine wpAnyH_take (i := 24) (oi := ({ dst := some 89, op := Go.Op.load 23 (Go.Operand.tmp 15), type := 23, pos := "law.go:268", after := #[{ on := 23, ground := Go.Ground.guard }], guard := some (23, true) } : Oper)) (v := ?v24_25b_12_1) rfl (by kernel_rfl) (by kernel_rfl) (by kernel_rfl) (fun _ _ _ h => h) (Or.inl ⟨by rfl, ?hy24_25b_12_1⟩) (by assumption) ?re24_25b_12_1
    case hy24_25b_12_1 => ((intro w hSw; have e00 := hSw.1.c0; have e01 := hSw.1.c1; have e10 := hSw.2.1.c0; have e11 := hSw.2.1.c1; have e20 := hSw.2.2.1.c0; have e21 := hSw.2.2.1.c1; have e30 := hSw.2.2.2.c0; have e31 := hSw.2.2.2.c1; go_simp) <;> with_reducible rfl)
    (try simp only [Act.put, List.setIfInBounds_toArray, List.set_cons_zero, List.set_cons_succ])
    refine wpAnyH_ready (rs := [25]) (by kernel_rfl) (by simp) ?_
    refine AllReadyH.cons (o := ({ dst := some 90, op := Go.Op.call { callee := Go.Callee.value (Go.Operand.func 29), args := #[Go.Operand.tmp 89], argTypes := #[23] }, type := 4, pos := "law.go:268", after := #[{ on := 24, ground := Go.Ground.data }, { on := 23, ground := Go.Ground.chain }, { on := 23, ground := Go.Ground.guard }], guard := some (23, true) } : Oper)) rfl (fun K hK => ?_) ?_
    · go_simp
      go_at_call 29
      refine (CV.out _).mono ?_
      rintro e Wb12_1 ⟨rfl, B⟩
      have Rqn := Lib.hid (Rq.out.keep B Rq.out.lt)
      have Aan := Lib.hid (Aa.out.keep B Aa.out.lt)
      have Bbn := Lib.hid (Bb.out.keep B Bb.out.lt)
      have Zzn := Lib.hid (Zz.out.keep B Zz.out.lt)
      have HBn := Lib.hid (HB.out.trans (B.mono HB.out.size))
      clear Rq Aa Bb Zz HB
      have Rq := Rqn
      have Aa := Aan
      have Bb := Bbn
      have Zz := Zzn
      have HB := HBn
      clear Rqn Aan Bbn Zzn HBn
      (try go_wp2_with fail)
      refine hK.out _ _ ?_ (fun hHeld => ?_)
      · exact ⟨hHeld.1.keep B hHeld.1.lt, hHeld.2.1.keep B hHeld.2.1.lt, hHeld.2.2.1.keep B hHeld.2.2.1.lt, hHeld.2.2.2.keep B hHeld.2.2.2.lt⟩
      clear hK K
      (try simp only [Act.put, List.setIfInBounds_toArray, List.set_cons_zero, List.set_cons_succ])
      clear B
      refine wpAnyH_take (i := 26) (oi := ({ dst := some 91, op := Go.Op.pick (Go.Operand.tmp 88) (Go.Operand.tmp 90) (Go.Operand.const (Go.Value.bool false)), type := 4, pos := "law.go:268", after := #[{ on := 23, ground := Go.Ground.data }, { on := 25, ground := Go.Ground.data }], guard := none } : Oper)) (v := ?v26_26b_12_1) rfl (by kernel_rfl) (by kernel_rfl) (by kernel_rfl) (fun _ _ _ h => h) (Or.inl ⟨by rfl, ?hy26_26b_12_1⟩) (by assumption) ?re26_26b_12_1
      case hy26_26b_12_1 => ((intro w hSw; have e00 := hSw.1.c0; have e01 := hSw.1.c1; have e10 := hSw.2.1.c0; have e11 := hSw.2.1.c1; have e20 := hSw.2.2.1.c0; have e21 := hSw.2.2.1.c1; have e30 := hSw.2.2.2.c0; have e31 := hSw.2.2.2.c1; go_simp) <;> with_reducible rfl)
      (try simp only [Act.put, List.setIfInBounds_toArray, List.set_cons_zero, List.set_cons_succ])
      refine wpAnyH_take (i := 27) (oi := ({ dst := some 92, op := Go.Op.move (Go.Operand.tmp 91), type := 4, pos := "law.go:268", after := #[{ on := 26, ground := Go.Ground.data }, { on := 25, ground := Go.Ground.chain }], guard := none } : Oper)) (v := ?v27_27b_12_1) rfl (by kernel_rfl) (by kernel_rfl) (by kernel_rfl) (fun _ _ _ h => h) (Or.inl ⟨by rfl, ?hy27_27b_12_1⟩) (by assumption) ?re27_27b_12_1
      case hy27_27b_12_1 => ((intro w hSw; have e00 := hSw.1.c0; have e01 := hSw.1.c1; have e10 := hSw.2.1.c0; have e11 := hSw.2.1.c1; have e20 := hSw.2.2.1.c0; have e21 := hSw.2.2.1.c1; have e30 := hSw.2.2.2.c0; have e31 := hSw.2.2.2.c1; go_simp) <;> with_reducible rfl)
      (try simp only [Act.put, List.setIfInBounds_toArray, List.set_cons_zero, List.set_cons_succ])
      refine wpAnyH_take (i := 28) (oi := ({ dst := some 93, op := Go.Op.load 23 (Go.Operand.tmp 15), type := 23, pos := "law.go:268", after := #[{ on := 27, ground := Go.Ground.guard }], guard := some (27, true) } : Oper)) (v := ?v28_28b_12_1) rfl (by kernel_rfl) (by kernel_rfl) (by kernel_rfl) (fun _ _ _ h => h) (Or.inl ⟨by rfl, ?hy28_28b_12_1⟩) (by assumption) ?re28_28b_12_1
      case hy28_28b_12_1 => ((intro w hSw; have e00 := hSw.1.c0; have e01 := hSw.1.c1; have e10 := hSw.2.1.c0; have e11 := hSw.2.1.c1; have e20 := hSw.2.2.1.c0; have e21 := hSw.2.2.1.c1; have e30 := hSw.2.2.2.c0; have e31 := hSw.2.2.2.c1; go_simp) <;> with_reducible rfl)
      (try simp only [Act.put, List.setIfInBounds_toArray, List.set_cons_zero, List.set_cons_succ])
      refine wpAnyH_take (i := 29) (oi := ({ dst := some 94, op := Go.Op.load 23 (Go.Operand.tmp 17), type := 23, pos := "law.go:268", after := #[{ on := 27, ground := Go.Ground.guard }], guard := some (27, true) } : Oper)) (v := ?v29_29b_12_1) rfl (by kernel_rfl) (by kernel_rfl) (by kernel_rfl) (fun _ _ _ h => h) (Or.inl ⟨by rfl, ?hy29_29b_12_1⟩) (by assumption) ?re29_29b_12_1
      case hy29_29b_12_1 => ((intro w hSw; have e00 := hSw.1.c0; have e01 := hSw.1.c1; have e10 := hSw.2.1.c0; have e11 := hSw.2.1.c1; have e20 := hSw.2.2.1.c0; have e21 := hSw.2.2.1.c1; have e30 := hSw.2.2.2.c0; have e31 := hSw.2.2.2.c1; go_simp) <;> with_reducible rfl)
      (try simp only [Act.put, List.setIfInBounds_toArray, List.set_cons_zero, List.set_cons_succ])
      refine wpAnyH_ready (rs := [30]) (by kernel_rfl) (by simp) ?_
      refine AllReadyH.cons (o := ({ dst := some 95, op := Go.Op.call { callee := Go.Callee.value (Go.Operand.func 20), args := #[Go.Operand.tmp 93, Go.Operand.tmp 94], argTypes := #[23, 23] }, type := 3, pos := "law.go:268", after := #[{ on := 28, ground := Go.Ground.data }, { on := 29, ground := Go.Ground.data }, { on := 27, ground := Go.Ground.chain }, { on := 27, ground := Go.Ground.guard }], guard := some (27, true) } : Oper)) rfl (fun K hK => ?_) ?_
      · go_simp
        go_at_call 20
        refine (CC.out _).mono ?_
        rintro e Wb12_2 ⟨rfl, B⟩
        have Rqn := Lib.hid (Rq.out.keep B Rq.out.lt)
        have Aan := Lib.hid (Aa.out.keep B Aa.out.lt)
        have Bbn := Lib.hid (Bb.out.keep B Bb.out.lt)
        have Zzn := Lib.hid (Zz.out.keep B Zz.out.lt)
        have HBn := Lib.hid (HB.out.trans (B.mono HB.out.size))
        clear Rq Aa Bb Zz HB
        have Rq := Rqn
        have Aa := Aan
        have Bb := Bbn
        have Zz := Zzn
        have HB := HBn
        clear Rqn Aan Bbn Zzn HBn
        (try go_wp2_with fail)
        refine hK.out _ _ ?_ (fun hHeld => ?_)
        · exact ⟨hHeld.1.keep B hHeld.1.lt, hHeld.2.1.keep B hHeld.2.1.lt, hHeld.2.2.1.keep B hHeld.2.2.1.lt, hHeld.2.2.2.keep B hHeld.2.2.2.lt⟩
        clear hK K
        (try simp only [Act.put, List.setIfInBounds_toArray, List.set_cons_zero, List.set_cons_succ])
        clear B
        refine wpAnyH_take (i := 31) (oi := ({ dst := some 96, op := Go.Op.binOp Go.BinOp.eql 3 (Go.Operand.tmp 95) (Go.Operand.const (Go.Value.int Go.IntKind.i64 0)) 3, type := 4, pos := "law.go:268", after := #[{ on := 30, ground := Go.Ground.data }, { on := 27, ground := Go.Ground.guard }], guard := some (27, true) } : Oper)) (v := ?v31_30b_12_1) rfl (by kernel_rfl) (by kernel_rfl) (by kernel_rfl) (fun _ _ _ h => h) (Or.inl ⟨by rfl, ?hy31_30b_12_1⟩) (by assumption) ?re31_30b_12_1
        case hy31_30b_12_1 => ((intro w hSw; have e00 := hSw.1.c0; have e01 := hSw.1.c1; have e10 := hSw.2.1.c0; have e11 := hSw.2.1.c1; have e20 := hSw.2.2.1.c0; have e21 := hSw.2.2.1.c1; have e30 := hSw.2.2.2.c0; have e31 := hSw.2.2.2.c1; go_simp) <;> with_reducible rfl)
        (try simp only [Act.put, List.setIfInBounds_toArray, List.set_cons_zero, List.set_cons_succ])
        refine wpAnyH_take (i := 32) (oi := ({ dst := some 97, op := Go.Op.pick (Go.Operand.tmp 92) (Go.Operand.tmp 96) (Go.Operand.const (Go.Value.bool false)), type := 4, pos := "law.go:268", after := #[{ on := 27, ground := Go.Ground.data }, { on := 31, ground := Go.Ground.data }], guard := none } : Oper)) (v := ?v32_31b_12_1) rfl (by kernel_rfl) (by kernel_rfl) (by kernel_rfl) (fun _ _ _ h => h) (Or.inl ⟨by rfl, ?hy32_31b_12_1⟩) (by assumption) ?re32_31b_12_1
        case hy32_31b_12_1 => ((intro w hSw; have e00 := hSw.1.c0; have e01 := hSw.1.c1; have e10 := hSw.2.1.c0; have e11 := hSw.2.1.c1; have e20 := hSw.2.2.1.c0; have e21 := hSw.2.2.1.c1; have e30 := hSw.2.2.2.c0; have e31 := hSw.2.2.2.c1; go_simp) <;> with_reducible rfl)
        (try simp only [Act.put, List.setIfInBounds_toArray, List.set_cons_zero, List.set_cons_succ])
        refine wpAnyH_take (i := 33) (oi := ({ dst := some 98, op := Go.Op.move (Go.Operand.tmp 97), type := 4, pos := "law.go:268", after := #[{ on := 32, ground := Go.Ground.data }, { on := 30, ground := Go.Ground.chain }], guard := none } : Oper)) (v := ?v33_32b_12_1) rfl (by kernel_rfl) (by kernel_rfl) (by kernel_rfl) (fun _ _ _ h => h) (Or.inl ⟨by rfl, ?hy33_32b_12_1⟩) (by assumption) ?re33_32b_12_1
        case hy33_32b_12_1 => ((intro w hSw; have e00 := hSw.1.c0; have e01 := hSw.1.c1; have e10 := hSw.2.1.c0; have e11 := hSw.2.1.c1; have e20 := hSw.2.2.1.c0; have e21 := hSw.2.2.1.c1; have e30 := hSw.2.2.2.c0; have e31 := hSw.2.2.2.c1; go_simp) <;> with_reducible rfl)
        (try simp only [Act.put, List.setIfInBounds_toArray, List.set_cons_zero, List.set_cons_succ])
        refine wpAnyH_take (i := 34) (oi := ({ dst := some 99, op := Go.Op.load 23 (Go.Operand.tmp 19), type := 23, pos := "law.go:268", after := #[{ on := 33, ground := Go.Ground.guard }], guard := some (33, true) } : Oper)) (v := ?v34_33b_12_1) rfl (by kernel_rfl) (by kernel_rfl) (by kernel_rfl) (fun _ _ _ h => h) (Or.inl ⟨by rfl, ?hy34_33b_12_1⟩) (by assumption) ?re34_33b_12_1
        case hy34_33b_12_1 => ((intro w hSw; have e00 := hSw.1.c0; have e01 := hSw.1.c1; have e10 := hSw.2.1.c0; have e11 := hSw.2.1.c1; have e20 := hSw.2.2.1.c0; have e21 := hSw.2.2.1.c1; have e30 := hSw.2.2.2.c0; have e31 := hSw.2.2.2.c1; go_simp) <;> with_reducible rfl)
        (try simp only [Act.put, List.setIfInBounds_toArray, List.set_cons_zero, List.set_cons_succ])
        refine wpAnyH_ready (rs := [35]) (by kernel_rfl) (by simp) ?_
        refine AllReadyH.cons (o := ({ dst := some 100, op := Go.Op.call { callee := Go.Callee.value (Go.Operand.func 41), args := #[Go.Operand.const (Go.Value.string { data := #[48] }), Go.Operand.const (Go.Value.string { data := #[49] })], argTypes := #[9, 9] }, type := 23, pos := "law.go:268", after := #[{ on := 33, ground := Go.Ground.chain }, { on := 33, ground := Go.Ground.guard }], guard := some (33, true) } : Oper)) rfl (fun K hK => ?_) ?_
        · go_simp
          go_at_call 41
          refine (is_any _ _ _).mono ?_
          rintro e Wb12_3 ⟨rfl, B⟩
          have Rqn := Lib.hid (Rq.out.keep B Rq.out.lt)
          have Aan := Lib.hid (Aa.out.keep B Aa.out.lt)
          have Bbn := Lib.hid (Bb.out.keep B Bb.out.lt)
          have Zzn := Lib.hid (Zz.out.keep B Zz.out.lt)
          have HBn := Lib.hid (HB.out.trans (B.mono HB.out.size))
          clear Rq Aa Bb Zz HB
          have Rq := Rqn
          have Aa := Aan
          have Bb := Bbn
          have Zz := Zzn
          have HB := HBn
          clear Rqn Aan Bbn Zzn HBn
          (try go_wp2_with fail)
          refine hK.out _ _ ?_ (fun hHeld => ?_)
          · exact ⟨hHeld.1.keep B hHeld.1.lt, hHeld.2.1.keep B hHeld.2.1.lt, hHeld.2.2.1.keep B hHeld.2.2.1.lt, hHeld.2.2.2.keep B hHeld.2.2.2.lt⟩
          clear hK K
          (try simp only [Act.put, List.setIfInBounds_toArray, List.set_cons_zero, List.set_cons_succ])
          clear B
          refine wpAnyH_take (i := 36) (oi := ({ dst := some 101, op := Go.Op.binOp Go.BinOp.eql 23 (Go.Operand.tmp 99) (Go.Operand.tmp 100) 23, type := 4, pos := "law.go:268", after := #[{ on := 34, ground := Go.Ground.data }, { on := 35, ground := Go.Ground.data }, { on := 33, ground := Go.Ground.guard }], guard := some (33, true) } : Oper)) (v := ?v36_34b_12_1) rfl (by kernel_rfl) (by kernel_rfl) (by kernel_rfl) (fun _ _ _ h => h) (Or.inl ⟨by rfl, ?hy36_34b_12_1⟩) (by assumption) ?re36_34b_12_1
          case hy36_34b_12_1 => ((intro w hSw; have e00 := hSw.1.c0; have e01 := hSw.1.c1; have e10 := hSw.2.1.c0; have e11 := hSw.2.1.c1; have e20 := hSw.2.2.1.c0; have e21 := hSw.2.2.1.c1; have e30 := hSw.2.2.2.c0; have e31 := hSw.2.2.2.c1; go_simp) <;> with_reducible rfl)
          (try simp only [Act.put, List.setIfInBounds_toArray, List.set_cons_zero, List.set_cons_succ])
          refine wpAnyH_take (i := 37) (oi := ({ dst := some 102, op := Go.Op.pick (Go.Operand.tmp 98) (Go.Operand.tmp 101) (Go.Operand.const (Go.Value.bool false)), type := 4, pos := "law.go:268", after := #[{ on := 33, ground := Go.Ground.data }, { on := 36, ground := Go.Ground.data }], guard := none } : Oper)) (v := ?v37_35b_12_1) rfl (by kernel_rfl) (by kernel_rfl) (by kernel_rfl) (fun _ _ _ h => h) (Or.inl ⟨by rfl, ?hy37_35b_12_1⟩) (by assumption) ?re37_35b_12_1
          case hy37_35b_12_1 => ((intro w hSw; have e00 := hSw.1.c0; have e01 := hSw.1.c1; have e10 := hSw.2.1.c0; have e11 := hSw.2.1.c1; have e20 := hSw.2.2.1.c0; have e21 := hSw.2.2.1.c1; have e30 := hSw.2.2.2.c0; have e31 := hSw.2.2.2.c1; go_simp) <;> with_reducible rfl)
          (try simp only [Act.put, List.setIfInBounds_toArray, List.set_cons_zero, List.set_cons_succ])
          refine wpAnyH_take (i := 38) (oi := ({ dst := some 103, op := Go.Op.move (Go.Operand.tmp 102), type := 4, pos := "law.go:268", after := #[{ on := 37, ground := Go.Ground.data }, { on := 35, ground := Go.Ground.chain }], guard := none } : Oper)) (v := ?v38_36b_12_1) rfl (by kernel_rfl) (by kernel_rfl) (by kernel_rfl) (fun _ _ _ h => h) (Or.inl ⟨by rfl, ?hy38_36b_12_1⟩) (by assumption) ?re38_36b_12_1
          case hy38_36b_12_1 => ((intro w hSw; have e00 := hSw.1.c0; have e01 := hSw.1.c1; have e10 := hSw.2.1.c0; have e11 := hSw.2.1.c1; have e20 := hSw.2.2.1.c0; have e21 := hSw.2.2.1.c1; have e30 := hSw.2.2.2.c0; have e31 := hSw.2.2.2.c1; go_simp) <;> with_reducible rfl)
          (try simp only [Act.put, List.setIfInBounds_toArray, List.set_cons_zero, List.set_cons_succ])
          refine wpAnyH_take (i := 39) (oi := ({ dst := some 104, op := Go.Op.load 23 (Go.Operand.tmp 15), type := 23, pos := "law.go:268", after := #[{ on := 38, ground := Go.Ground.guard }], guard := some (38, true) } : Oper)) (v := ?v39_37b_12_1) rfl (by kernel_rfl) (by kernel_rfl) (by kernel_rfl) (fun _ _ _ h => h) (Or.inl ⟨by rfl, ?hy39_37b_12_1⟩) (by assumption) ?re39_37b_12_1
          case hy39_37b_12_1 => ((intro w hSw; have e00 := hSw.1.c0; have e01 := hSw.1.c1; have e10 := hSw.2.1.c0; have e11 := hSw.2.1.c1; have e20 := hSw.2.2.1.c0; have e21 := hSw.2.2.1.c1; have e30 := hSw.2.2.2.c0; have e31 := hSw.2.2.2.c1; go_simp) <;> with_reducible rfl)
          (try simp only [Act.put, List.setIfInBounds_toArray, List.set_cons_zero, List.set_cons_succ])
          refine wpAnyH_take (i := 41) (oi := ({ dst := some 106, op := Go.Op.load 23 (Go.Operand.tmp 17), type := 23, pos := "law.go:268", after := #[{ on := 38, ground := Go.Ground.guard }], guard := some (38, true) } : Oper)) (v := ?v41_38b_12_1) rfl (by kernel_rfl) (by kernel_rfl) (by kernel_rfl) (fun _ _ _ h => h) (Or.inl ⟨by rfl, ?hy41_38b_12_1⟩) (by assumption) ?re41_38b_12_1
          case hy41_38b_12_1 => ((intro w hSw; have e00 := hSw.1.c0; have e01 := hSw.1.c1; have e10 := hSw.2.1.c0; have e11 := hSw.2.1.c1; have e20 := hSw.2.2.1.c0; have e21 := hSw.2.2.1.c1; have e30 := hSw.2.2.2.c0; have e31 := hSw.2.2.2.c1; go_simp) <;> with_reducible rfl)
          (try simp only [Act.put, List.setIfInBounds_toArray, List.set_cons_zero, List.set_cons_succ])
          refine wpAnyH_ready (rs := [40]) (by kernel_rfl) (by simp) ?_
          refine AllReadyH.cons (o := ({ dst := some 105, op := Go.Op.call { callee := Go.Callee.value (Go.Operand.func 33), args := #[Go.Operand.tmp 104], argTypes := #[23] }, type := 9, pos := "law.go:268", after := #[{ on := 39, ground := Go.Ground.data }, { on := 38, ground := Go.Ground.chain }, { on := 38, ground := Go.Ground.guard }], guard := some (38, true) } : Oper)) rfl (fun K hK => ?_) ?_
          · go_simp
            go_at_call 33
            refine (CP.out _).mono ?_
            rintro e Wb12_4 ⟨rfl, B⟩
            have Rqn := Lib.hid (Rq.out.keep B Rq.out.lt)
            have Aan := Lib.hid (Aa.out.keep B Aa.out.lt)
            have Bbn := Lib.hid (Bb.out.keep B Bb.out.lt)
            have Zzn := Lib.hid (Zz.out.keep B Zz.out.lt)
            have HBn := Lib.hid (HB.out.trans (B.mono HB.out.size))
            clear Rq Aa Bb Zz HB
            have Rq := Rqn
            have Aa := Aan
            have Bb := Bbn
            have Zz := Zzn
            have HB := HBn
            clear Rqn Aan Bbn Zzn HBn
            (try go_wp2_with fail)
            refine hK.out _ _ ?_ (fun hHeld => ?_)
            · exact ⟨hHeld.1.keep B hHeld.1.lt, hHeld.2.1.keep B hHeld.2.1.lt, hHeld.2.2.1.keep B hHeld.2.2.1.lt, hHeld.2.2.2.keep B hHeld.2.2.2.lt⟩
            clear hK K
            (try simp only [Act.put, List.setIfInBounds_toArray, List.set_cons_zero, List.set_cons_succ])
            clear B
            refine wpAnyH_ready (rs := [42]) (by kernel_rfl) (by simp) ?_
            refine AllReadyH.cons (o := ({ dst := some 107, op := Go.Op.call { callee := Go.Callee.value (Go.Operand.func 33), args := #[Go.Operand.tmp 106], argTypes := #[23] }, type := 9, pos := "law.go:268", after := #[{ on := 41, ground := Go.Ground.data }, { on := 40, ground := Go.Ground.chain }, { on := 38, ground := Go.Ground.guard }], guard := some (38, true) } : Oper)) rfl (fun K hK => ?_) ?_
            · go_simp
              go_at_call 33
              refine (CP.out _).mono ?_
              rintro e Wb12_5 ⟨rfl, B⟩
              have Rqn := Lib.hid (Rq.out.keep B Rq.out.lt)
              have Aan := Lib.hid (Aa.out.keep B Aa.out.lt)
              have Bbn := Lib.hid (Bb.out.keep B Bb.out.lt)
              have Zzn := Lib.hid (Zz.out.keep B Zz.out.lt)
              have HBn := Lib.hid (HB.out.trans (B.mono HB.out.size))
              clear Rq Aa Bb Zz HB
              have Rq := Rqn
              have Aa := Aan
              have Bb := Bbn
              have Zz := Zzn
              have HB := HBn
              clear Rqn Aan Bbn Zzn HBn
              (try go_wp2_with fail)
              refine hK.out _ _ ?_ (fun hHeld => ?_)
              · exact ⟨hHeld.1.keep B hHeld.1.lt, hHeld.2.1.keep B hHeld.2.1.lt, hHeld.2.2.1.keep B hHeld.2.2.1.lt, hHeld.2.2.2.keep B hHeld.2.2.2.lt⟩
              clear hK K
              (try simp only [Act.put, List.setIfInBounds_toArray, List.set_cons_zero, List.set_cons_succ])
              clear B
              refine wpAnyH_take (i := 43) (oi := ({ dst := some 108, op := Go.Op.binOp Go.BinOp.eql 9 (Go.Operand.tmp 105) (Go.Operand.tmp 107) 9, type := 4, pos := "law.go:268", after := #[{ on := 40, ground := Go.Ground.data }, { on := 42, ground := Go.Ground.data }, { on := 38, ground := Go.Ground.guard }], guard := some (38, true) } : Oper)) (v := ?v43_39b_12_1) rfl (by kernel_rfl) (by kernel_rfl) (by kernel_rfl) (fun _ _ _ h => h) (Or.inl ⟨by rfl, ?hy43_39b_12_1⟩) (by assumption) ?re43_39b_12_1
              case hy43_39b_12_1 => ((intro w hSw; have e00 := hSw.1.c0; have e01 := hSw.1.c1; have e10 := hSw.2.1.c0; have e11 := hSw.2.1.c1; have e20 := hSw.2.2.1.c0; have e21 := hSw.2.2.1.c1; have e30 := hSw.2.2.2.c0; have e31 := hSw.2.2.2.c1; go_simp) <;> with_reducible rfl)
              (try simp only [Act.put, List.setIfInBounds_toArray, List.set_cons_zero, List.set_cons_succ])
              refine wpAnyH_take (i := 44) (oi := ({ dst := some 109, op := Go.Op.pick (Go.Operand.tmp 103) (Go.Operand.tmp 108) (Go.Operand.const (Go.Value.bool false)), type := 4, pos := "law.go:268", after := #[{ on := 38, ground := Go.Ground.data }, { on := 43, ground := Go.Ground.data }], guard := none } : Oper)) (v := ?v44_40b_12_1) rfl (by kernel_rfl) (by kernel_rfl) (by kernel_rfl) (fun _ _ _ h => h) (Or.inl ⟨by rfl, ?hy44_40b_12_1⟩) (by assumption) ?re44_40b_12_1
              case hy44_40b_12_1 => ((intro w hSw; have e00 := hSw.1.c0; have e01 := hSw.1.c1; have e10 := hSw.2.1.c0; have e11 := hSw.2.1.c1; have e20 := hSw.2.2.1.c0; have e21 := hSw.2.2.1.c1; have e30 := hSw.2.2.2.c0; have e31 := hSw.2.2.2.c1; go_simp) <;> with_reducible rfl)
              (try simp only [Act.put, List.setIfInBounds_toArray, List.set_cons_zero, List.set_cons_succ])
              refine wpAnyH_take (i := 45) (oi := ({ dst := some 6, op := Go.Op.assign (Go.Operand.tmp 109), type := 4, pos := "law.go:268", after := #[{ on := 44, ground := Go.Ground.data }, { on := 42, ground := Go.Ground.chain }, { on := 0, ground := Go.Ground.phase }, { on := 1, ground := Go.Ground.phase }, { on := 2, ground := Go.Ground.phase }, { on := 3, ground := Go.Ground.phase }, { on := 4, ground := Go.Ground.phase }, { on := 5, ground := Go.Ground.phase }, { on := 6, ground := Go.Ground.phase }, { on := 7, ground := Go.Ground.phase }, { on := 8, ground := Go.Ground.phase }, { on := 9, ground := Go.Ground.phase }, { on := 10, ground := Go.Ground.phase }, { on := 11, ground := Go.Ground.phase }, { on := 12, ground := Go.Ground.phase }, { on := 13, ground := Go.Ground.phase }, { on := 14, ground := Go.Ground.phase }, { on := 15, ground := Go.Ground.phase }, { on := 16, ground := Go.Ground.phase }, { on := 17, ground := Go.Ground.phase }, { on := 18, ground := Go.Ground.phase }, { on := 19, ground := Go.Ground.phase }, { on := 20, ground := Go.Ground.phase }, { on := 21, ground := Go.Ground.phase }, { on := 22, ground := Go.Ground.phase }, { on := 23, ground := Go.Ground.phase }, { on := 24, ground := Go.Ground.phase }, { on := 25, ground := Go.Ground.phase }, { on := 26, ground := Go.Ground.phase }, { on := 27, ground := Go.Ground.phase }, { on := 28, ground := Go.Ground.phase }, { on := 29, ground := Go.Ground.phase }, { on := 30, ground := Go.Ground.phase }, { on := 31, ground := Go.Ground.phase }, { on := 32, ground := Go.Ground.phase }, { on := 33, ground := Go.Ground.phase }, { on := 34, ground := Go.Ground.phase }, { on := 35, ground := Go.Ground.phase }, { on := 36, ground := Go.Ground.phase }, { on := 37, ground := Go.Ground.phase }, { on := 38, ground := Go.Ground.phase }, { on := 39, ground := Go.Ground.phase }, { on := 40, ground := Go.Ground.phase }, { on := 41, ground := Go.Ground.phase }, { on := 42, ground := Go.Ground.phase }, { on := 43, ground := Go.Ground.phase }, { on := 44, ground := Go.Ground.phase }], guard := none } : Oper)) (v := ?v45_41b_12_1) rfl (by kernel_rfl) (by kernel_rfl) (by kernel_rfl) (fun _ _ _ h => h) (Or.inl ⟨by rfl, ?hy45_41b_12_1⟩) (by assumption) ?re45_41b_12_1
              case hy45_41b_12_1 => ((intro w hSw; have e00 := hSw.1.c0; have e01 := hSw.1.c1; have e10 := hSw.2.1.c0; have e11 := hSw.2.1.c1; have e20 := hSw.2.2.1.c0; have e21 := hSw.2.2.1.c1; have e30 := hSw.2.2.2.c0; have e31 := hSw.2.2.2.c1; go_simp) <;> with_reducible rfl)
              (try simp only [Act.put, List.setIfInBounds_toArray, List.set_cons_zero, List.set_cons_succ])
              refine wpAnyH_done (by kernel_rfl) ?_ _
              refine NoPanic.normal ?_
              (try go_wp2_with fail)
              go_ret
              exact ⟨rfl, HB.out⟩
            exact AllReadyH.nil
          exact AllReadyH.nil
        exact AllReadyH.nil
      exact AllReadyH.nil
    exact AllReadyH.nil
  · go_enter Tryz.func9, Tryz.ntmps9
    go_wp2_with fail
    go_at_call 11
    refine (sane4_any _ (HT.out.below HB.out)).mono ?_
    rintro e Wa1 ⟨rfl, B⟩
    have Xn := Lib.hid ((X.out.keep B X.out.lt))
    have HBn := Lib.hid (HB.out.trans (B.mono HB.out.size))
    clear X HB
    have X := Xn
    have HB := HBn
    clear Xn HBn
    clear B
    have Xc0 := X.out.c 0 rfl
    have Xc1 := X.out.c 1 rfl
    have Xc2 := X.out.c 2 rfl
    have Xc3 := X.out.c 3 rfl
    go_wp2_with fail
    clear Xc0 Xc1 Xc2 Xc3
    go_at_call 13
    refine (Long_ag x0 x1 x2 x3 _ b0 b1 b2 b3).mono ?_
    rintro e Wa2 ⟨q, rfl, hq, B⟩
    have Xn := Lib.hid ((X.out.keep B X.out.lt).alloc (.cells #[(.string (S q.num)), (.string (S (q.den : Int)))] 23))
    have HBn := Lib.hid ((HB.out.trans (B.mono HB.out.size)).alloc (HB.out.trans (B.mono HB.out.size)).size (.cells #[(.string (S q.num)), (.string (S (q.den : Int)))] 23))
    clear X HB
    have X := Xn
    have HB := HBn
    clear Xn HBn
    have Rq := Lib.hid (RBlk.new Wa2 (.string (S q.num)) (.string (S (q.den : Int))))
    clear B
    clear X
    go_wp2_with fail
    go_at_call 22
    refine (lpick_1000000 f _ bf.1 bf.2).mono ?_
    rintro e Wa3 ⟨p, rfl, hp, B⟩
    have Rqn := Lib.hid ((Rq.out.keep B Rq.out.lt))
    have HBn := Lib.hid (HB.out.trans (B.mono HB.out.size))
    clear Rq HB
    have Rq := Rqn
    have HB := HBn
    clear Rqn HBn
    clear B
    have wp : IntKind.i64.wrap (1 + (p : Int)) = 1 + (p : Int) := by simp [IntKind.wrap, IntKind.bits, IntKind.signed]; omega
    have wn : IntKind.i64.wrap (-(1 + (p : Int))) = -(1 + (p : Int)) := by simp [IntKind.wrap, IntKind.bits, IntKind.signed]; omega
    have hk0 : (-(1 + (p : Int))) ≠ 0 := by omega
    have hk9 : (-(1 + (p : Int))).natAbs ≤ 1000000 := by omega
    have hq2 := hq.wide (l := 200) (by decide)
    have hqd := den_abs q hq2
    have cf := fun W => rFromInt_any (-(1 + (p : Int))) W (by omega) (by omega)
    have cm1 := fun W => rMul_S q.num (-(1 + (p : Int))) hq2.1 (by omega) (lowb hq hk9).1 W
    have cm2 := fun W => rMul_S (q.den : Int) (-(1 + (p : Int))) hqd (by omega) (lowb hq hk9).2 W
    have ca := fun W => qMake_R (q.num * (-(1 + (p : Int)))) ((q.den : Int) * (-(1 + (p : Int)))) W (lowb hq hk9).1 (lowb hq hk9).2 (Int.mul_ne_zero (by have := den_pos q; omega) hk0)
    rw [divInt_k q (-(1 + (p : Int))) hk0] at ca
    have cb := fun W => qMake_R q.num (q.den : Int) W hq2.1 hqd (by have := den_pos q; omega)
    rw [mk_self] at cb
    have cz := fun W => qMake_R 0 (-(1 + (p : Int))) W (by decide) (by omega) hk0
    rw [show Rat.divInt 0 (-(1 + (p : Int))) = 0 from Rat.zero_divInt _, RV_zero, S_zero] at cz
    have cv := fun W => qValid_R q hq2 W
    have cc := fun W => qCompare_R q q hq2 hq2 W
    rw [cmpR_self] at cc
    have cp := fun W => qPrint_R q hq2 W
    unfold RV at ca cb cv cc cp
    generalize S (q.num * (-(1 + (p : Int)))) = sn at *
    generalize S ((q.den : Int) * (-(1 + (p : Int)))) = sd at *
    generalize S (-(1 + (p : Int))) = sk at *
    generalize S q.num = q1 at *
    generalize S (q.den : Int) = q2 at *
    generalize prt q = pq at *
    have CF := Lib.hid cf
    have CM1 := Lib.hid cm1
    have CM2 := Lib.hid cm2
    have CA := Lib.hid ca
    have CB := Lib.hid cb
    have CZ := Lib.hid cz
    have CV := Lib.hid cv
    have CC := Lib.hid cc
    have CP := Lib.hid cp
    clear cf cm1 cm2 ca cb cz cv cc cp hq hq2 hqd hk9 hk0
    go_wp2_with fail
    go_at_call 43
    refine (CF.out _).mono ?_
    rintro e Wa4 ⟨rfl, B⟩
    have Rqn := Lib.hid ((Rq.out.keep B Rq.out.lt))
    have HBn := Lib.hid (HB.out.trans (B.mono HB.out.size))
    clear Rq HB
    have Rq := Rqn
    have HB := HBn
    clear Rqn HBn
    clear B
    have Rqc0 := Rq.out.c0
    have Rqc1 := Rq.out.c1
    (try go_wp2_with fail)
    clear Rqc0 Rqc1
    go_at_call 44
    refine (CM1.out _).mono ?_
    rintro e Wa5 ⟨rfl, B⟩
    have Rqn := Lib.hid ((Rq.out.keep B Rq.out.lt))
    have HBn := Lib.hid (HB.out.trans (B.mono HB.out.size))
    clear Rq HB
    have Rq := Rqn
    have HB := HBn
    clear Rqn HBn
    clear B
    have Rqc0 := Rq.out.c0
    have Rqc1 := Rq.out.c1
    (try go_wp2_with fail)
    clear Rqc0 Rqc1
    go_at_call 44
    refine (CM2.out _).mono ?_
    rintro e Wa6 ⟨rfl, B⟩
    have Rqn := Lib.hid ((Rq.out.keep B Rq.out.lt))
    have HBn := Lib.hid (HB.out.trans (B.mono HB.out.size))
    clear Rq HB
    have Rq := Rqn
    have HB := HBn
    clear Rqn HBn
    clear B
    (try go_wp2_with fail)
    go_at_call 27
    refine (CA.out _).mono ?_
    rintro e Wa7 ⟨rfl, B⟩
    have Rqn := Lib.hid ((Rq.out.keep B Rq.out.lt).alloc (.cells #[(.string q1), (.string q2)] 23))
    have HBn := Lib.hid ((HB.out.trans (B.mono HB.out.size)).alloc (HB.out.trans (B.mono HB.out.size)).size (.cells #[(.string q1), (.string q2)] 23))
    clear Rq HB
    have Rq := Rqn
    have HB := HBn
    clear Rqn HBn
    have Aa := Lib.hid (RBlk.new Wa7 (.string q1) (.string q2))
    clear B
    have Rqc0 := Rq.out.c0
    have Rqc1 := Rq.out.c1
    (try go_wp2_with fail)
    clear Rqc0 Rqc1
    go_at_call 27
    refine (CB.out _).mono ?_
    rintro e Wa8 ⟨rfl, B⟩
    have Rqn := Lib.hid ((Rq.out.keep B Rq.out.lt).alloc (.cells #[(.string q1), (.string q2)] 23))
    have Aan := Lib.hid ((Aa.out.keep B Aa.out.lt).alloc (.cells #[(.string q1), (.string q2)] 23))
    have HBn := Lib.hid ((HB.out.trans (B.mono HB.out.size)).alloc (HB.out.trans (B.mono HB.out.size)).size (.cells #[(.string q1), (.string q2)] 23))
    clear Rq Aa HB
    have Rq := Rqn
    have Aa := Aan
    have HB := HBn
    clear Rqn Aan HBn
    have Bb := Lib.hid (RBlk.new Wa8 (.string q1) (.string q2))
    clear B
    (try go_wp2_with fail)
    go_at_call 27
    refine (CZ.out _).mono ?_
    rintro e Wa9 ⟨rfl, B⟩
    have Rqn := Lib.hid ((Rq.out.keep B Rq.out.lt).alloc (.cells #[(.string ⟨#[48]⟩), (.string ⟨#[49]⟩)] 23))
    have Aan := Lib.hid ((Aa.out.keep B Aa.out.lt).alloc (.cells #[(.string ⟨#[48]⟩), (.string ⟨#[49]⟩)] 23))
    have Bbn := Lib.hid ((Bb.out.keep B Bb.out.lt).alloc (.cells #[(.string ⟨#[48]⟩), (.string ⟨#[49]⟩)] 23))
    have HBn := Lib.hid ((HB.out.trans (B.mono HB.out.size)).alloc (HB.out.trans (B.mono HB.out.size)).size (.cells #[(.string ⟨#[48]⟩), (.string ⟨#[49]⟩)] 23))
    clear Rq Aa Bb HB
    have Rq := Rqn
    have Aa := Aan
    have Bb := Bbn
    have HB := HBn
    clear Rqn Aan Bbn HBn
    have Zz := Lib.hid (RBlk.new Wa9 (.string ⟨#[48]⟩) (.string ⟨#[49]⟩))
    clear B
    go_upto_region 12 with fail
    generalize hW0a12 : (Wa9.alloc (.cells #[(.string ⟨#[48]⟩), (.string ⟨#[49]⟩)] 23)) = W0a12 at *
    clear hW0a12
    refine wp_region_noPanic ?_
    refine wp_region_held_drew (S := fun W => RBlk W (Wa2.heap.size) (.string q1) (.string q2) ∧ RBlk W (Wa7.heap.size) (.string q1) (.string q2) ∧ RBlk W (Wa8.heap.size) (.string q1) (.string q2) ∧ RBlk W (Wa9.heap.size) (.string ⟨#[48]⟩) (.string ⟨#[49]⟩)) (by kernel_rfl) ?_ (fun hHeld => ?_)
    · exact ⟨Rq.out, Aa.out, Bb.out, Zz.out⟩
    have Rqn := Lib.hid Rq.out.drew
    have Aan := Lib.hid Aa.out.drew
    have Bbn := Lib.hid Bb.out.drew
    have Zzn := Lib.hid Zz.out.drew
    have HBn := Lib.hid HB.out.drew
    clear Rq Aa Bb Zz HB
    have Rq := Rqn
    have Aa := Aan
    have Bb := Bbn
    have Zz := Zzn
    have HB := HBn
    clear Rqn Aan Bbn Zzn HBn
    refine wpAnyH_take (i := 0) (oi := ({ dst := some 65, op := Go.Op.move (Go.Operand.tmp 7), type := 4, pos := "law.go:268", after := #[], guard := none } : Oper)) (v := ?v0_1a_12_2) rfl (by kernel_rfl) (by kernel_rfl) (by kernel_rfl) (fun _ _ _ h => h) (Or.inl ⟨by rfl, ?hy0_1a_12_2⟩) (by assumption) ?re0_1a_12_2
    case hy0_1a_12_2 => ((intro w hSw; have e00 := hSw.1.c0; have e01 := hSw.1.c1; have e10 := hSw.2.1.c0; have e11 := hSw.2.1.c1; have e20 := hSw.2.2.1.c0; have e21 := hSw.2.2.1.c1; have e30 := hSw.2.2.2.c0; have e31 := hSw.2.2.2.c1; go_simp) <;> with_reducible rfl)
    (try simp only [Act.put, List.setIfInBounds_toArray, List.set_cons_zero, List.set_cons_succ])
    refine wpAnyH_take (i := 1) (oi := ({ dst := some 66, op := Go.Op.move (Go.Operand.tmp 65), type := 4, pos := "law.go:268", after := #[{ on := 0, ground := Go.Ground.data }], guard := none } : Oper)) (v := ?v1_2a_12_2) rfl (by kernel_rfl) (by kernel_rfl) (by kernel_rfl) (fun _ _ _ h => h) (Or.inl ⟨by rfl, ?hy1_2a_12_2⟩) (by assumption) ?re1_2a_12_2
    case hy1_2a_12_2 => ((intro w hSw; have e00 := hSw.1.c0; have e01 := hSw.1.c1; have e10 := hSw.2.1.c0; have e11 := hSw.2.1.c1; have e20 := hSw.2.2.1.c0; have e21 := hSw.2.2.1.c1; have e30 := hSw.2.2.2.c0; have e31 := hSw.2.2.2.c1; go_simp) <;> with_reducible rfl)
    (try simp only [Act.put, List.setIfInBounds_toArray, List.set_cons_zero, List.set_cons_succ])
    refine wpAnyH_take (i := 2) (oi := ({ dst := some 67, op := Go.Op.move (Go.Operand.tmp 16), type := 32, pos := "law.go:268", after := #[{ on := 1, ground := Go.Ground.guard }], guard := some (1, true) } : Oper)) (v := ?v2_3a_12_2) rfl (by kernel_rfl) (by kernel_rfl) (by kernel_rfl) (fun _ _ _ h => h) (Or.inl ⟨by rfl, ?hy2_3a_12_2⟩) (by assumption) ?re2_3a_12_2
    case hy2_3a_12_2 => ((intro w hSw; have e00 := hSw.1.c0; have e01 := hSw.1.c1; have e10 := hSw.2.1.c0; have e11 := hSw.2.1.c1; have e20 := hSw.2.2.1.c0; have e21 := hSw.2.2.1.c1; have e30 := hSw.2.2.2.c0; have e31 := hSw.2.2.2.c1; go_simp) <;> with_reducible rfl)
    (try simp only [Act.put, List.setIfInBounds_toArray, List.set_cons_zero, List.set_cons_succ])
    refine wpAnyH_take (i := 3) (oi := ({ dst := some 68, op := Go.Op.binOp Go.BinOp.eql 32 (Go.Operand.tmp 67) (Go.Operand.const (Go.Value.int Go.IntKind.i64 0)) 32, type := 4, pos := "law.go:268", after := #[{ on := 2, ground := Go.Ground.data }, { on := 1, ground := Go.Ground.guard }], guard := some (1, true) } : Oper)) (v := ?v3_4a_12_2) rfl (by kernel_rfl) (by kernel_rfl) (by kernel_rfl) (fun _ _ _ h => h) (Or.inl ⟨by rfl, ?hy3_4a_12_2⟩) (by assumption) ?re3_4a_12_2
    case hy3_4a_12_2 => ((intro w hSw; have e00 := hSw.1.c0; have e01 := hSw.1.c1; have e10 := hSw.2.1.c0; have e11 := hSw.2.1.c1; have e20 := hSw.2.2.1.c0; have e21 := hSw.2.2.1.c1; have e30 := hSw.2.2.2.c0; have e31 := hSw.2.2.2.c1; go_simp) <;> with_reducible rfl)
    (try simp only [Act.put, List.setIfInBounds_toArray, List.set_cons_zero, List.set_cons_succ])
    refine wpAnyH_take (i := 4) (oi := ({ dst := some 69, op := Go.Op.pick (Go.Operand.tmp 66) (Go.Operand.tmp 68) (Go.Operand.const (Go.Value.bool false)), type := 4, pos := "law.go:268", after := #[{ on := 1, ground := Go.Ground.data }, { on := 3, ground := Go.Ground.data }], guard := none } : Oper)) (v := ?v4_5a_12_2) rfl (by kernel_rfl) (by kernel_rfl) (by kernel_rfl) (fun _ _ _ h => h) (Or.inl ⟨by rfl, ?hy4_5a_12_2⟩) (by assumption) ?re4_5a_12_2
    case hy4_5a_12_2 => ((intro w hSw; have e00 := hSw.1.c0; have e01 := hSw.1.c1; have e10 := hSw.2.1.c0; have e11 := hSw.2.1.c1; have e20 := hSw.2.2.1.c0; have e21 := hSw.2.2.1.c1; have e30 := hSw.2.2.2.c0; have e31 := hSw.2.2.2.c1; go_simp) <;> with_reducible rfl)
    (try simp only [Act.put, List.setIfInBounds_toArray, List.set_cons_zero, List.set_cons_succ])
    refine wpAnyH_take (i := 5) (oi := ({ dst := some 70, op := Go.Op.move (Go.Operand.tmp 69), type := 4, pos := "law.go:268", after := #[{ on := 4, ground := Go.Ground.data }, { on := 1, ground := Go.Ground.chain }], guard := none } : Oper)) (v := ?v5_6a_12_2) rfl (by kernel_rfl) (by kernel_rfl) (by kernel_rfl) (fun _ _ _ h => h) (Or.inl ⟨by rfl, ?hy5_6a_12_2⟩) (by assumption) ?re5_6a_12_2
    case hy5_6a_12_2 => ((intro w hSw; have e00 := hSw.1.c0; have e01 := hSw.1.c1; have e10 := hSw.2.1.c0; have e11 := hSw.2.1.c1; have e20 := hSw.2.2.1.c0; have e21 := hSw.2.2.1.c1; have e30 := hSw.2.2.2.c0; have e31 := hSw.2.2.2.c1; go_simp) <;> with_reducible rfl)
    (try simp only [Act.put, List.setIfInBounds_toArray, List.set_cons_zero, List.set_cons_succ])
    refine wpAnyH_take (i := 6) (oi := ({ dst := some 71, op := Go.Op.move (Go.Operand.tmp 18), type := 32, pos := "law.go:268", after := #[{ on := 5, ground := Go.Ground.guard }], guard := some (5, true) } : Oper)) (v := ?v6_7a_12_2) rfl (by kernel_rfl) (by kernel_rfl) (by kernel_rfl) (fun _ _ _ h => h) (Or.inl ⟨by rfl, ?hy6_7a_12_2⟩) (by assumption) ?re6_7a_12_2
    case hy6_7a_12_2 => ((intro w hSw; have e00 := hSw.1.c0; have e01 := hSw.1.c1; have e10 := hSw.2.1.c0; have e11 := hSw.2.1.c1; have e20 := hSw.2.2.1.c0; have e21 := hSw.2.2.1.c1; have e30 := hSw.2.2.2.c0; have e31 := hSw.2.2.2.c1; go_simp) <;> with_reducible rfl)
    (try simp only [Act.put, List.setIfInBounds_toArray, List.set_cons_zero, List.set_cons_succ])
    refine wpAnyH_take (i := 7) (oi := ({ dst := some 72, op := Go.Op.binOp Go.BinOp.eql 32 (Go.Operand.tmp 71) (Go.Operand.const (Go.Value.int Go.IntKind.i64 0)) 32, type := 4, pos := "law.go:268", after := #[{ on := 6, ground := Go.Ground.data }, { on := 5, ground := Go.Ground.guard }], guard := some (5, true) } : Oper)) (v := ?v7_8a_12_2) rfl (by kernel_rfl) (by kernel_rfl) (by kernel_rfl) (fun _ _ _ h => h) (Or.inl ⟨by rfl, ?hy7_8a_12_2⟩) (by assumption) ?re7_8a_12_2
    case hy7_8a_12_2 => ((intro w hSw; have e00 := hSw.1.c0; have e01 := hSw.1.c1; have e10 := hSw.2.1.c0; have e11 := hSw.2.1.c1; have e20 := hSw.2.2.1.c0; have e21 := hSw.2.2.1.c1; have e30 := hSw.2.2.2.c0; have e31 := hSw.2.2.2.c1; go_simp) <;> with_reducible rfl)
    (try simp only [Act.put, List.setIfInBounds_toArray, List.set_cons_zero, List.set_cons_succ])
    refine wpAnyH_take (i := 8) (oi := ({ dst := some 73, op := Go.Op.pick (Go.Operand.tmp 70) (Go.Operand.tmp 72) (Go.Operand.const (Go.Value.bool false)), type := 4, pos := "law.go:268", after := #[{ on := 5, ground := Go.Ground.data }, { on := 7, ground := Go.Ground.data }], guard := none } : Oper)) (v := ?v8_9a_12_2) rfl (by kernel_rfl) (by kernel_rfl) (by kernel_rfl) (fun _ _ _ h => h) (Or.inl ⟨by rfl, ?hy8_9a_12_2⟩) (by assumption) ?re8_9a_12_2
    case hy8_9a_12_2 => ((intro w hSw; have e00 := hSw.1.c0; have e01 := hSw.1.c1; have e10 := hSw.2.1.c0; have e11 := hSw.2.1.c1; have e20 := hSw.2.2.1.c0; have e21 := hSw.2.2.1.c1; have e30 := hSw.2.2.2.c0; have e31 := hSw.2.2.2.c1; go_simp) <;> with_reducible rfl)
    (try simp only [Act.put, List.setIfInBounds_toArray, List.set_cons_zero, List.set_cons_succ])
    refine wpAnyH_take (i := 9) (oi := ({ dst := some 74, op := Go.Op.move (Go.Operand.tmp 73), type := 4, pos := "law.go:268", after := #[{ on := 8, ground := Go.Ground.data }, { on := 5, ground := Go.Ground.chain }], guard := none } : Oper)) (v := ?v9_10a_12_2) rfl (by kernel_rfl) (by kernel_rfl) (by kernel_rfl) (fun _ _ _ h => h) (Or.inl ⟨by rfl, ?hy9_10a_12_2⟩) (by assumption) ?re9_10a_12_2
    case hy9_10a_12_2 => ((intro w hSw; have e00 := hSw.1.c0; have e01 := hSw.1.c1; have e10 := hSw.2.1.c0; have e11 := hSw.2.1.c1; have e20 := hSw.2.2.1.c0; have e21 := hSw.2.2.1.c1; have e30 := hSw.2.2.2.c0; have e31 := hSw.2.2.2.c1; go_simp) <;> with_reducible rfl)
    (try simp only [Act.put, List.setIfInBounds_toArray, List.set_cons_zero, List.set_cons_succ])
    refine wpAnyH_take (i := 10) (oi := ({ dst := some 75, op := Go.Op.move (Go.Operand.tmp 20), type := 32, pos := "law.go:268", after := #[{ on := 9, ground := Go.Ground.guard }], guard := some (9, true) } : Oper)) (v := ?v10_11a_12_2) rfl (by kernel_rfl) (by kernel_rfl) (by kernel_rfl) (fun _ _ _ h => h) (Or.inl ⟨by rfl, ?hy10_11a_12_2⟩) (by assumption) ?re10_11a_12_2
    case hy10_11a_12_2 => ((intro w hSw; have e00 := hSw.1.c0; have e01 := hSw.1.c1; have e10 := hSw.2.1.c0; have e11 := hSw.2.1.c1; have e20 := hSw.2.2.1.c0; have e21 := hSw.2.2.1.c1; have e30 := hSw.2.2.2.c0; have e31 := hSw.2.2.2.c1; go_simp) <;> with_reducible rfl)
    (try simp only [Act.put, List.setIfInBounds_toArray, List.set_cons_zero, List.set_cons_succ])
    refine wpAnyH_take (i := 11) (oi := ({ dst := some 76, op := Go.Op.binOp Go.BinOp.eql 32 (Go.Operand.tmp 75) (Go.Operand.const (Go.Value.int Go.IntKind.i64 0)) 32, type := 4, pos := "law.go:268", after := #[{ on := 10, ground := Go.Ground.data }, { on := 9, ground := Go.Ground.guard }], guard := some (9, true) } : Oper)) (v := ?v11_12a_12_2) rfl (by kernel_rfl) (by kernel_rfl) (by kernel_rfl) (fun _ _ _ h => h) (Or.inl ⟨by rfl, ?hy11_12a_12_2⟩) (by assumption) ?re11_12a_12_2
    case hy11_12a_12_2 => ((intro w hSw; have e00 := hSw.1.c0; have e01 := hSw.1.c1; have e10 := hSw.2.1.c0; have e11 := hSw.2.1.c1; have e20 := hSw.2.2.1.c0; have e21 := hSw.2.2.1.c1; have e30 := hSw.2.2.2.c0; have e31 := hSw.2.2.2.c1; go_simp) <;> with_reducible rfl)
    (try simp only [Act.put, List.setIfInBounds_toArray, List.set_cons_zero, List.set_cons_succ])
    refine wpAnyH_take (i := 12) (oi := ({ dst := some 77, op := Go.Op.pick (Go.Operand.tmp 74) (Go.Operand.tmp 76) (Go.Operand.const (Go.Value.bool false)), type := 4, pos := "law.go:268", after := #[{ on := 9, ground := Go.Ground.data }, { on := 11, ground := Go.Ground.data }], guard := none } : Oper)) (v := ?v12_13a_12_2) rfl (by kernel_rfl) (by kernel_rfl) (by kernel_rfl) (fun _ _ _ h => h) (Or.inl ⟨by rfl, ?hy12_13a_12_2⟩) (by assumption) ?re12_13a_12_2
    case hy12_13a_12_2 => ((intro w hSw; have e00 := hSw.1.c0; have e01 := hSw.1.c1; have e10 := hSw.2.1.c0; have e11 := hSw.2.1.c1; have e20 := hSw.2.2.1.c0; have e21 := hSw.2.2.1.c1; have e30 := hSw.2.2.2.c0; have e31 := hSw.2.2.2.c1; go_simp) <;> with_reducible rfl)
    (try simp only [Act.put, List.setIfInBounds_toArray, List.set_cons_zero, List.set_cons_succ])
    refine wpAnyH_take (i := 13) (oi := ({ dst := some 78, op := Go.Op.move (Go.Operand.tmp 77), type := 4, pos := "law.go:268", after := #[{ on := 12, ground := Go.Ground.data }, { on := 9, ground := Go.Ground.chain }], guard := none } : Oper)) (v := ?v13_14a_12_2) rfl (by kernel_rfl) (by kernel_rfl) (by kernel_rfl) (fun _ _ _ h => h) (Or.inl ⟨by rfl, ?hy13_14a_12_2⟩) (by assumption) ?re13_14a_12_2
    case hy13_14a_12_2 => ((intro w hSw; have e00 := hSw.1.c0; have e01 := hSw.1.c1; have e10 := hSw.2.1.c0; have e11 := hSw.2.1.c1; have e20 := hSw.2.2.1.c0; have e21 := hSw.2.2.1.c1; have e30 := hSw.2.2.2.c0; have e31 := hSw.2.2.2.c1; go_simp) <;> with_reducible rfl)
    (try simp only [Act.put, List.setIfInBounds_toArray, List.set_cons_zero, List.set_cons_succ])
    refine wpAnyH_take (i := 14) (oi := ({ dst := some 79, op := Go.Op.load 23 (Go.Operand.tmp 15), type := 23, pos := "law.go:268", after := #[{ on := 13, ground := Go.Ground.guard }], guard := some (13, true) } : Oper)) (v := ?v14_15a_12_2) rfl (by kernel_rfl) (by kernel_rfl) (by kernel_rfl) (fun _ _ _ h => h) (Or.inl ⟨by rfl, ?hy14_15a_12_2⟩) (by assumption) ?re14_15a_12_2
    case hy14_15a_12_2 => ((intro w hSw; have e00 := hSw.1.c0; have e01 := hSw.1.c1; have e10 := hSw.2.1.c0; have e11 := hSw.2.1.c1; have e20 := hSw.2.2.1.c0; have e21 := hSw.2.2.1.c1; have e30 := hSw.2.2.2.c0; have e31 := hSw.2.2.2.c1; go_simp) <;> with_reducible rfl)
    (try simp only [Act.put, List.setIfInBounds_toArray, List.set_cons_zero, List.set_cons_succ])
    refine wpAnyH_take (i := 15) (oi := ({ dst := some 80, op := Go.Op.load 23 (Go.Operand.tmp 17), type := 23, pos := "law.go:268", after := #[{ on := 13, ground := Go.Ground.guard }], guard := some (13, true) } : Oper)) (v := ?v15_16a_12_2) rfl (by kernel_rfl) (by kernel_rfl) (by kernel_rfl) (fun _ _ _ h => h) (Or.inl ⟨by rfl, ?hy15_16a_12_2⟩) (by assumption) ?re15_16a_12_2
    case hy15_16a_12_2 => ((intro w hSw; have e00 := hSw.1.c0; have e01 := hSw.1.c1; have e10 := hSw.2.1.c0; have e11 := hSw.2.1.c1; have e20 := hSw.2.2.1.c0; have e21 := hSw.2.2.1.c1; have e30 := hSw.2.2.2.c0; have e31 := hSw.2.2.2.c1; go_simp) <;> with_reducible rfl)
    (try simp only [Act.put, List.setIfInBounds_toArray, List.set_cons_zero, List.set_cons_succ])
    refine wpAnyH_take (i := 16) (oi := ({ dst := some 81, op := Go.Op.binOp Go.BinOp.eql 23 (Go.Operand.tmp 79) (Go.Operand.tmp 80) 23, type := 4, pos := "law.go:268", after := #[{ on := 14, ground := Go.Ground.data }, { on := 15, ground := Go.Ground.data }, { on := 13, ground := Go.Ground.guard }], guard := some (13, true) } : Oper)) (v := ?v16_17a_12_2) rfl (by kernel_rfl) (by kernel_rfl) (by kernel_rfl) (fun _ _ _ h => h) (Or.inl ⟨by rfl, ?hy16_17a_12_2⟩) (by assumption) ?re16_17a_12_2
    case hy16_17a_12_2 => ((intro w hSw; have e00 := hSw.1.c0; have e01 := hSw.1.c1; have e10 := hSw.2.1.c0; have e11 := hSw.2.1.c1; have e20 := hSw.2.2.1.c0; have e21 := hSw.2.2.1.c1; have e30 := hSw.2.2.2.c0; have e31 := hSw.2.2.2.c1; go_simp) <;> with_reducible rfl)
    (try simp only [Act.put, List.setIfInBounds_toArray, List.set_cons_zero, List.set_cons_succ])
    refine wpAnyH_take (i := 17) (oi := ({ dst := some 82, op := Go.Op.pick (Go.Operand.tmp 78) (Go.Operand.tmp 81) (Go.Operand.const (Go.Value.bool false)), type := 4, pos := "law.go:268", after := #[{ on := 13, ground := Go.Ground.data }, { on := 16, ground := Go.Ground.data }], guard := none } : Oper)) (v := ?v17_18a_12_2) rfl (by kernel_rfl) (by kernel_rfl) (by kernel_rfl) (fun _ _ _ h => h) (Or.inl ⟨by rfl, ?hy17_18a_12_2⟩) (by assumption) ?re17_18a_12_2
    case hy17_18a_12_2 => ((intro w hSw; have e00 := hSw.1.c0; have e01 := hSw.1.c1; have e10 := hSw.2.1.c0; have e11 := hSw.2.1.c1; have e20 := hSw.2.2.1.c0; have e21 := hSw.2.2.1.c1; have e30 := hSw.2.2.2.c0; have e31 := hSw.2.2.2.c1; go_simp) <;> with_reducible rfl)
    (try simp only [Act.put, List.setIfInBounds_toArray, List.set_cons_zero, List.set_cons_succ])
    refine wpAnyH_take (i := 18) (oi := ({ dst := some 83, op := Go.Op.move (Go.Operand.tmp 82), type := 4, pos := "law.go:268", after := #[{ on := 17, ground := Go.Ground.data }, { on := 13, ground := Go.Ground.chain }], guard := none } : Oper)) (v := ?v18_19a_12_2) rfl (by kernel_rfl) (by kernel_rfl) (by kernel_rfl) (fun _ _ _ h => h) (Or.inl ⟨by rfl, ?hy18_19a_12_2⟩) (by assumption) ?re18_19a_12_2
    case hy18_19a_12_2 => ((intro w hSw; have e00 := hSw.1.c0; have e01 := hSw.1.c1; have e10 := hSw.2.1.c0; have e11 := hSw.2.1.c1; have e20 := hSw.2.2.1.c0; have e21 := hSw.2.2.1.c1; have e30 := hSw.2.2.2.c0; have e31 := hSw.2.2.2.c1; go_simp) <;> with_reducible rfl)
    (try simp only [Act.put, List.setIfInBounds_toArray, List.set_cons_zero, List.set_cons_succ])
    refine wpAnyH_take (i := 19) (oi := ({ dst := some 84, op := Go.Op.load 23 (Go.Operand.tmp 15), type := 23, pos := "law.go:268", after := #[{ on := 18, ground := Go.Ground.guard }], guard := some (18, true) } : Oper)) (v := ?v19_20a_12_2) rfl (by kernel_rfl) (by kernel_rfl) (by kernel_rfl) (fun _ _ _ h => h) (Or.inl ⟨by rfl, ?hy19_20a_12_2⟩) (by assumption) ?re19_20a_12_2
    case hy19_20a_12_2 => ((intro w hSw; have e00 := hSw.1.c0; have e01 := hSw.1.c1; have e10 := hSw.2.1.c0; have e11 := hSw.2.1.c1; have e20 := hSw.2.2.1.c0; have e21 := hSw.2.2.1.c1; have e30 := hSw.2.2.2.c0; have e31 := hSw.2.2.2.c1; go_simp) <;> with_reducible rfl)
    (try simp only [Act.put, List.setIfInBounds_toArray, List.set_cons_zero, List.set_cons_succ])
    refine wpAnyH_take (i := 20) (oi := ({ dst := some 85, op := Go.Op.load 23 (Go.Operand.tmp 8), type := 23, pos := "law.go:268", after := #[{ on := 18, ground := Go.Ground.guard }], guard := some (18, true) } : Oper)) (v := ?v20_21a_12_2) rfl (by kernel_rfl) (by kernel_rfl) (by kernel_rfl) (fun _ _ _ h => h) (Or.inl ⟨by rfl, ?hy20_21a_12_2⟩) (by assumption) ?re20_21a_12_2
    case hy20_21a_12_2 => ((intro w hSw; have e00 := hSw.1.c0; have e01 := hSw.1.c1; have e10 := hSw.2.1.c0; have e11 := hSw.2.1.c1; have e20 := hSw.2.2.1.c0; have e21 := hSw.2.2.1.c1; have e30 := hSw.2.2.2.c0; have e31 := hSw.2.2.2.c1; go_simp) <;> with_reducible rfl)
    (try simp only [Act.put, List.setIfInBounds_toArray, List.set_cons_zero, List.set_cons_succ])
    refine wpAnyH_take (i := 21) (oi := ({ dst := some 86, op := Go.Op.binOp Go.BinOp.eql 23 (Go.Operand.tmp 84) (Go.Operand.tmp 85) 23, type := 4, pos := "law.go:268", after := #[{ on := 19, ground := Go.Ground.data }, { on := 20, ground := Go.Ground.data }, { on := 18, ground := Go.Ground.guard }], guard := some (18, true) } : Oper)) (v := ?v21_22a_12_2) rfl (by kernel_rfl) (by kernel_rfl) (by kernel_rfl) (fun _ _ _ h => h) (Or.inl ⟨by rfl, ?hy21_22a_12_2⟩) (by assumption) ?re21_22a_12_2
    case hy21_22a_12_2 => ((intro w hSw; have e00 := hSw.1.c0; have e01 := hSw.1.c1; have e10 := hSw.2.1.c0; have e11 := hSw.2.1.c1; have e20 := hSw.2.2.1.c0; have e21 := hSw.2.2.1.c1; have e30 := hSw.2.2.2.c0; have e31 := hSw.2.2.2.c1; go_simp) <;> with_reducible rfl)
    (try simp only [Act.put, List.setIfInBounds_toArray, List.set_cons_zero, List.set_cons_succ])
    refine wpAnyH_take (i := 22) (oi := ({ dst := some 87, op := Go.Op.pick (Go.Operand.tmp 83) (Go.Operand.tmp 86) (Go.Operand.const (Go.Value.bool false)), type := 4, pos := "law.go:268", after := #[{ on := 18, ground := Go.Ground.data }, { on := 21, ground := Go.Ground.data }], guard := none } : Oper)) (v := ?v22_23a_12_2) rfl (by kernel_rfl) (by kernel_rfl) (by kernel_rfl) (fun _ _ _ h => h) (Or.inl ⟨by rfl, ?hy22_23a_12_2⟩) (by assumption) ?re22_23a_12_2
    case hy22_23a_12_2 => ((intro w hSw; have e00 := hSw.1.c0; have e01 := hSw.1.c1; have e10 := hSw.2.1.c0; have e11 := hSw.2.1.c1; have e20 := hSw.2.2.1.c0; have e21 := hSw.2.2.1.c1; have e30 := hSw.2.2.2.c0; have e31 := hSw.2.2.2.c1; go_simp) <;> with_reducible rfl)
    (try simp only [Act.put, List.setIfInBounds_toArray, List.set_cons_zero, List.set_cons_succ])
    refine wpAnyH_take (i := 23) (oi := ({ dst := some 88, op := Go.Op.move (Go.Operand.tmp 87), type := 4, pos := "law.go:268", after := #[{ on := 22, ground := Go.Ground.data }, { on := 18, ground := Go.Ground.chain }], guard := none } : Oper)) (v := ?v23_24a_12_2) rfl (by kernel_rfl) (by kernel_rfl) (by kernel_rfl) (fun _ _ _ h => h) (Or.inl ⟨by rfl, ?hy23_24a_12_2⟩) (by assumption) ?re23_24a_12_2
    case hy23_24a_12_2 => ((intro w hSw; have e00 := hSw.1.c0; have e01 := hSw.1.c1; have e10 := hSw.2.1.c0; have e11 := hSw.2.1.c1; have e20 := hSw.2.2.1.c0; have e21 := hSw.2.2.1.c1; have e30 := hSw.2.2.2.c0; have e31 := hSw.2.2.2.c1; go_simp) <;> with_reducible rfl)
    (try simp only [Act.put, List.setIfInBounds_toArray, List.set_cons_zero, List.set_cons_succ])
    refine wpAnyH_take (i := 24) (oi := ({ dst := some 89, op := Go.Op.load 23 (Go.Operand.tmp 15), type := 23, pos := "law.go:268", after := #[{ on := 23, ground := Go.Ground.guard }], guard := some (23, true) } : Oper)) (v := ?v24_25a_12_2) rfl (by kernel_rfl) (by kernel_rfl) (by kernel_rfl) (fun _ _ _ h => h) (Or.inl ⟨by rfl, ?hy24_25a_12_2⟩) (by assumption) ?re24_25a_12_2
    case hy24_25a_12_2 => ((intro w hSw; have e00 := hSw.1.c0; have e01 := hSw.1.c1; have e10 := hSw.2.1.c0; have e11 := hSw.2.1.c1; have e20 := hSw.2.2.1.c0; have e21 := hSw.2.2.1.c1; have e30 := hSw.2.2.2.c0; have e31 := hSw.2.2.2.c1; go_simp) <;> with_reducible rfl)
    (try simp only [Act.put, List.setIfInBounds_toArray, List.set_cons_zero, List.set_cons_succ])
    refine wpAnyH_ready (rs := [25]) (by kernel_rfl) (by simp) ?_
    refine AllReadyH.cons (o := ({ dst := some 90, op := Go.Op.call { callee := Go.Callee.value (Go.Operand.func 29), args := #[Go.Operand.tmp 89], argTypes := #[23] }, type := 4, pos := "law.go:268", after := #[{ on := 24, ground := Go.Ground.data }, { on := 23, ground := Go.Ground.chain }, { on := 23, ground := Go.Ground.guard }], guard := some (23, true) } : Oper)) rfl (fun K hK => ?_) ?_
    · go_simp
      go_at_call 29
      refine (CV.out _).mono ?_
      rintro e Wa12_1 ⟨rfl, B⟩
      have Rqn := Lib.hid (Rq.out.keep B Rq.out.lt)
      have Aan := Lib.hid (Aa.out.keep B Aa.out.lt)
      have Bbn := Lib.hid (Bb.out.keep B Bb.out.lt)
      have Zzn := Lib.hid (Zz.out.keep B Zz.out.lt)
      have HBn := Lib.hid (HB.out.trans (B.mono HB.out.size))
      clear Rq Aa Bb Zz HB
      have Rq := Rqn
      have Aa := Aan
      have Bb := Bbn
      have Zz := Zzn
      have HB := HBn
      clear Rqn Aan Bbn Zzn HBn
      (try go_wp2_with fail)
      refine hK.out _ _ ?_ (fun hHeld => ?_)
      · exact ⟨hHeld.1.keep B hHeld.1.lt, hHeld.2.1.keep B hHeld.2.1.lt, hHeld.2.2.1.keep B hHeld.2.2.1.lt, hHeld.2.2.2.keep B hHeld.2.2.2.lt⟩
      clear hK K
      (try simp only [Act.put, List.setIfInBounds_toArray, List.set_cons_zero, List.set_cons_succ])
      clear B
      refine wpAnyH_take (i := 26) (oi := ({ dst := some 91, op := Go.Op.pick (Go.Operand.tmp 88) (Go.Operand.tmp 90) (Go.Operand.const (Go.Value.bool false)), type := 4, pos := "law.go:268", after := #[{ on := 23, ground := Go.Ground.data }, { on := 25, ground := Go.Ground.data }], guard := none } : Oper)) (v := ?v26_26a_12_2) rfl (by kernel_rfl) (by kernel_rfl) (by kernel_rfl) (fun _ _ _ h => h) (Or.inl ⟨by rfl, ?hy26_26a_12_2⟩) (by assumption) ?re26_26a_12_2
      case hy26_26a_12_2 => ((intro w hSw; have e00 := hSw.1.c0; have e01 := hSw.1.c1; have e10 := hSw.2.1.c0; have e11 := hSw.2.1.c1; have e20 := hSw.2.2.1.c0; have e21 := hSw.2.2.1.c1; have e30 := hSw.2.2.2.c0; have e31 := hSw.2.2.2.c1; go_simp) <;> with_reducible rfl)
      (try simp only [Act.put, List.setIfInBounds_toArray, List.set_cons_zero, List.set_cons_succ])
      refine wpAnyH_take (i := 27) (oi := ({ dst := some 92, op := Go.Op.move (Go.Operand.tmp 91), type := 4, pos := "law.go:268", after := #[{ on := 26, ground := Go.Ground.data }, { on := 25, ground := Go.Ground.chain }], guard := none } : Oper)) (v := ?v27_27a_12_2) rfl (by kernel_rfl) (by kernel_rfl) (by kernel_rfl) (fun _ _ _ h => h) (Or.inl ⟨by rfl, ?hy27_27a_12_2⟩) (by assumption) ?re27_27a_12_2
      case hy27_27a_12_2 => ((intro w hSw; have e00 := hSw.1.c0; have e01 := hSw.1.c1; have e10 := hSw.2.1.c0; have e11 := hSw.2.1.c1; have e20 := hSw.2.2.1.c0; have e21 := hSw.2.2.1.c1; have e30 := hSw.2.2.2.c0; have e31 := hSw.2.2.2.c1; go_simp) <;> with_reducible rfl)
      (try simp only [Act.put, List.setIfInBounds_toArray, List.set_cons_zero, List.set_cons_succ])
      refine wpAnyH_take (i := 28) (oi := ({ dst := some 93, op := Go.Op.load 23 (Go.Operand.tmp 15), type := 23, pos := "law.go:268", after := #[{ on := 27, ground := Go.Ground.guard }], guard := some (27, true) } : Oper)) (v := ?v28_28a_12_2) rfl (by kernel_rfl) (by kernel_rfl) (by kernel_rfl) (fun _ _ _ h => h) (Or.inl ⟨by rfl, ?hy28_28a_12_2⟩) (by assumption) ?re28_28a_12_2
      case hy28_28a_12_2 => ((intro w hSw; have e00 := hSw.1.c0; have e01 := hSw.1.c1; have e10 := hSw.2.1.c0; have e11 := hSw.2.1.c1; have e20 := hSw.2.2.1.c0; have e21 := hSw.2.2.1.c1; have e30 := hSw.2.2.2.c0; have e31 := hSw.2.2.2.c1; go_simp) <;> with_reducible rfl)
      (try simp only [Act.put, List.setIfInBounds_toArray, List.set_cons_zero, List.set_cons_succ])
      refine wpAnyH_take (i := 29) (oi := ({ dst := some 94, op := Go.Op.load 23 (Go.Operand.tmp 17), type := 23, pos := "law.go:268", after := #[{ on := 27, ground := Go.Ground.guard }], guard := some (27, true) } : Oper)) (v := ?v29_29a_12_2) rfl (by kernel_rfl) (by kernel_rfl) (by kernel_rfl) (fun _ _ _ h => h) (Or.inl ⟨by rfl, ?hy29_29a_12_2⟩) (by assumption) ?re29_29a_12_2
      case hy29_29a_12_2 => ((intro w hSw; have e00 := hSw.1.c0; have e01 := hSw.1.c1; have e10 := hSw.2.1.c0; have e11 := hSw.2.1.c1; have e20 := hSw.2.2.1.c0; have e21 := hSw.2.2.1.c1; have e30 := hSw.2.2.2.c0; have e31 := hSw.2.2.2.c1; go_simp) <;> with_reducible rfl)
      (try simp only [Act.put, List.setIfInBounds_toArray, List.set_cons_zero, List.set_cons_succ])
      refine wpAnyH_ready (rs := [30]) (by kernel_rfl) (by simp) ?_
      refine AllReadyH.cons (o := ({ dst := some 95, op := Go.Op.call { callee := Go.Callee.value (Go.Operand.func 20), args := #[Go.Operand.tmp 93, Go.Operand.tmp 94], argTypes := #[23, 23] }, type := 3, pos := "law.go:268", after := #[{ on := 28, ground := Go.Ground.data }, { on := 29, ground := Go.Ground.data }, { on := 27, ground := Go.Ground.chain }, { on := 27, ground := Go.Ground.guard }], guard := some (27, true) } : Oper)) rfl (fun K hK => ?_) ?_
      · go_simp
        go_at_call 20
        refine (CC.out _).mono ?_
        rintro e Wa12_2 ⟨rfl, B⟩
        have Rqn := Lib.hid (Rq.out.keep B Rq.out.lt)
        have Aan := Lib.hid (Aa.out.keep B Aa.out.lt)
        have Bbn := Lib.hid (Bb.out.keep B Bb.out.lt)
        have Zzn := Lib.hid (Zz.out.keep B Zz.out.lt)
        have HBn := Lib.hid (HB.out.trans (B.mono HB.out.size))
        clear Rq Aa Bb Zz HB
        have Rq := Rqn
        have Aa := Aan
        have Bb := Bbn
        have Zz := Zzn
        have HB := HBn
        clear Rqn Aan Bbn Zzn HBn
        (try go_wp2_with fail)
        refine hK.out _ _ ?_ (fun hHeld => ?_)
        · exact ⟨hHeld.1.keep B hHeld.1.lt, hHeld.2.1.keep B hHeld.2.1.lt, hHeld.2.2.1.keep B hHeld.2.2.1.lt, hHeld.2.2.2.keep B hHeld.2.2.2.lt⟩
        clear hK K
        (try simp only [Act.put, List.setIfInBounds_toArray, List.set_cons_zero, List.set_cons_succ])
        clear B
        refine wpAnyH_take (i := 31) (oi := ({ dst := some 96, op := Go.Op.binOp Go.BinOp.eql 3 (Go.Operand.tmp 95) (Go.Operand.const (Go.Value.int Go.IntKind.i64 0)) 3, type := 4, pos := "law.go:268", after := #[{ on := 30, ground := Go.Ground.data }, { on := 27, ground := Go.Ground.guard }], guard := some (27, true) } : Oper)) (v := ?v31_30a_12_2) rfl (by kernel_rfl) (by kernel_rfl) (by kernel_rfl) (fun _ _ _ h => h) (Or.inl ⟨by rfl, ?hy31_30a_12_2⟩) (by assumption) ?re31_30a_12_2
        case hy31_30a_12_2 => ((intro w hSw; have e00 := hSw.1.c0; have e01 := hSw.1.c1; have e10 := hSw.2.1.c0; have e11 := hSw.2.1.c1; have e20 := hSw.2.2.1.c0; have e21 := hSw.2.2.1.c1; have e30 := hSw.2.2.2.c0; have e31 := hSw.2.2.2.c1; go_simp) <;> with_reducible rfl)
        (try simp only [Act.put, List.setIfInBounds_toArray, List.set_cons_zero, List.set_cons_succ])
        refine wpAnyH_take (i := 32) (oi := ({ dst := some 97, op := Go.Op.pick (Go.Operand.tmp 92) (Go.Operand.tmp 96) (Go.Operand.const (Go.Value.bool false)), type := 4, pos := "law.go:268", after := #[{ on := 27, ground := Go.Ground.data }, { on := 31, ground := Go.Ground.data }], guard := none } : Oper)) (v := ?v32_31a_12_2) rfl (by kernel_rfl) (by kernel_rfl) (by kernel_rfl) (fun _ _ _ h => h) (Or.inl ⟨by rfl, ?hy32_31a_12_2⟩) (by assumption) ?re32_31a_12_2
        case hy32_31a_12_2 => ((intro w hSw; have e00 := hSw.1.c0; have e01 := hSw.1.c1; have e10 := hSw.2.1.c0; have e11 := hSw.2.1.c1; have e20 := hSw.2.2.1.c0; have e21 := hSw.2.2.1.c1; have e30 := hSw.2.2.2.c0; have e31 := hSw.2.2.2.c1; go_simp) <;> with_reducible rfl)
        (try simp only [Act.put, List.setIfInBounds_toArray, List.set_cons_zero, List.set_cons_succ])
        refine wpAnyH_take (i := 33) (oi := ({ dst := some 98, op := Go.Op.move (Go.Operand.tmp 97), type := 4, pos := "law.go:268", after := #[{ on := 32, ground := Go.Ground.data }, { on := 30, ground := Go.Ground.chain }], guard := none } : Oper)) (v := ?v33_32a_12_2) rfl (by kernel_rfl) (by kernel_rfl) (by kernel_rfl) (fun _ _ _ h => h) (Or.inl ⟨by rfl, ?hy33_32a_12_2⟩) (by assumption) ?re33_32a_12_2
        case hy33_32a_12_2 => ((intro w hSw; have e00 := hSw.1.c0; have e01 := hSw.1.c1; have e10 := hSw.2.1.c0; have e11 := hSw.2.1.c1; have e20 := hSw.2.2.1.c0; have e21 := hSw.2.2.1.c1; have e30 := hSw.2.2.2.c0; have e31 := hSw.2.2.2.c1; go_simp) <;> with_reducible rfl)
        (try simp only [Act.put, List.setIfInBounds_toArray, List.set_cons_zero, List.set_cons_succ])
        refine wpAnyH_take (i := 34) (oi := ({ dst := some 99, op := Go.Op.load 23 (Go.Operand.tmp 19), type := 23, pos := "law.go:268", after := #[{ on := 33, ground := Go.Ground.guard }], guard := some (33, true) } : Oper)) (v := ?v34_33a_12_2) rfl (by kernel_rfl) (by kernel_rfl) (by kernel_rfl) (fun _ _ _ h => h) (Or.inl ⟨by rfl, ?hy34_33a_12_2⟩) (by assumption) ?re34_33a_12_2
        case hy34_33a_12_2 => ((intro w hSw; have e00 := hSw.1.c0; have e01 := hSw.1.c1; have e10 := hSw.2.1.c0; have e11 := hSw.2.1.c1; have e20 := hSw.2.2.1.c0; have e21 := hSw.2.2.1.c1; have e30 := hSw.2.2.2.c0; have e31 := hSw.2.2.2.c1; go_simp) <;> with_reducible rfl)
        (try simp only [Act.put, List.setIfInBounds_toArray, List.set_cons_zero, List.set_cons_succ])
        refine wpAnyH_ready (rs := [35]) (by kernel_rfl) (by simp) ?_
        refine AllReadyH.cons (o := ({ dst := some 100, op := Go.Op.call { callee := Go.Callee.value (Go.Operand.func 41), args := #[Go.Operand.const (Go.Value.string { data := #[48] }), Go.Operand.const (Go.Value.string { data := #[49] })], argTypes := #[9, 9] }, type := 23, pos := "law.go:268", after := #[{ on := 33, ground := Go.Ground.chain }, { on := 33, ground := Go.Ground.guard }], guard := some (33, true) } : Oper)) rfl (fun K hK => ?_) ?_
        · go_simp
          go_at_call 41
          refine (is_any _ _ _).mono ?_
          rintro e Wa12_3 ⟨rfl, B⟩
          have Rqn := Lib.hid (Rq.out.keep B Rq.out.lt)
          have Aan := Lib.hid (Aa.out.keep B Aa.out.lt)
          have Bbn := Lib.hid (Bb.out.keep B Bb.out.lt)
          have Zzn := Lib.hid (Zz.out.keep B Zz.out.lt)
          have HBn := Lib.hid (HB.out.trans (B.mono HB.out.size))
          clear Rq Aa Bb Zz HB
          have Rq := Rqn
          have Aa := Aan
          have Bb := Bbn
          have Zz := Zzn
          have HB := HBn
          clear Rqn Aan Bbn Zzn HBn
          (try go_wp2_with fail)
          refine hK.out _ _ ?_ (fun hHeld => ?_)
          · exact ⟨hHeld.1.keep B hHeld.1.lt, hHeld.2.1.keep B hHeld.2.1.lt, hHeld.2.2.1.keep B hHeld.2.2.1.lt, hHeld.2.2.2.keep B hHeld.2.2.2.lt⟩
          clear hK K
          (try simp only [Act.put, List.setIfInBounds_toArray, List.set_cons_zero, List.set_cons_succ])
          clear B
          refine wpAnyH_take (i := 36) (oi := ({ dst := some 101, op := Go.Op.binOp Go.BinOp.eql 23 (Go.Operand.tmp 99) (Go.Operand.tmp 100) 23, type := 4, pos := "law.go:268", after := #[{ on := 34, ground := Go.Ground.data }, { on := 35, ground := Go.Ground.data }, { on := 33, ground := Go.Ground.guard }], guard := some (33, true) } : Oper)) (v := ?v36_34a_12_2) rfl (by kernel_rfl) (by kernel_rfl) (by kernel_rfl) (fun _ _ _ h => h) (Or.inl ⟨by rfl, ?hy36_34a_12_2⟩) (by assumption) ?re36_34a_12_2
          case hy36_34a_12_2 => ((intro w hSw; have e00 := hSw.1.c0; have e01 := hSw.1.c1; have e10 := hSw.2.1.c0; have e11 := hSw.2.1.c1; have e20 := hSw.2.2.1.c0; have e21 := hSw.2.2.1.c1; have e30 := hSw.2.2.2.c0; have e31 := hSw.2.2.2.c1; go_simp) <;> with_reducible rfl)
          (try simp only [Act.put, List.setIfInBounds_toArray, List.set_cons_zero, List.set_cons_succ])
          refine wpAnyH_take (i := 37) (oi := ({ dst := some 102, op := Go.Op.pick (Go.Operand.tmp 98) (Go.Operand.tmp 101) (Go.Operand.const (Go.Value.bool false)), type := 4, pos := "law.go:268", after := #[{ on := 33, ground := Go.Ground.data }, { on := 36, ground := Go.Ground.data }], guard := none } : Oper)) (v := ?v37_35a_12_2) rfl (by kernel_rfl) (by kernel_rfl) (by kernel_rfl) (fun _ _ _ h => h) (Or.inl ⟨by rfl, ?hy37_35a_12_2⟩) (by assumption) ?re37_35a_12_2
          case hy37_35a_12_2 => ((intro w hSw; have e00 := hSw.1.c0; have e01 := hSw.1.c1; have e10 := hSw.2.1.c0; have e11 := hSw.2.1.c1; have e20 := hSw.2.2.1.c0; have e21 := hSw.2.2.1.c1; have e30 := hSw.2.2.2.c0; have e31 := hSw.2.2.2.c1; go_simp) <;> with_reducible rfl)
          (try simp only [Act.put, List.setIfInBounds_toArray, List.set_cons_zero, List.set_cons_succ])
          refine wpAnyH_take (i := 38) (oi := ({ dst := some 103, op := Go.Op.move (Go.Operand.tmp 102), type := 4, pos := "law.go:268", after := #[{ on := 37, ground := Go.Ground.data }, { on := 35, ground := Go.Ground.chain }], guard := none } : Oper)) (v := ?v38_36a_12_2) rfl (by kernel_rfl) (by kernel_rfl) (by kernel_rfl) (fun _ _ _ h => h) (Or.inl ⟨by rfl, ?hy38_36a_12_2⟩) (by assumption) ?re38_36a_12_2
          case hy38_36a_12_2 => ((intro w hSw; have e00 := hSw.1.c0; have e01 := hSw.1.c1; have e10 := hSw.2.1.c0; have e11 := hSw.2.1.c1; have e20 := hSw.2.2.1.c0; have e21 := hSw.2.2.1.c1; have e30 := hSw.2.2.2.c0; have e31 := hSw.2.2.2.c1; go_simp) <;> with_reducible rfl)
          (try simp only [Act.put, List.setIfInBounds_toArray, List.set_cons_zero, List.set_cons_succ])
          refine wpAnyH_take (i := 39) (oi := ({ dst := some 104, op := Go.Op.load 23 (Go.Operand.tmp 15), type := 23, pos := "law.go:268", after := #[{ on := 38, ground := Go.Ground.guard }], guard := some (38, true) } : Oper)) (v := ?v39_37a_12_2) rfl (by kernel_rfl) (by kernel_rfl) (by kernel_rfl) (fun _ _ _ h => h) (Or.inl ⟨by rfl, ?hy39_37a_12_2⟩) (by assumption) ?re39_37a_12_2
          case hy39_37a_12_2 => ((intro w hSw; have e00 := hSw.1.c0; have e01 := hSw.1.c1; have e10 := hSw.2.1.c0; have e11 := hSw.2.1.c1; have e20 := hSw.2.2.1.c0; have e21 := hSw.2.2.1.c1; have e30 := hSw.2.2.2.c0; have e31 := hSw.2.2.2.c1; go_simp) <;> with_reducible rfl)
          (try simp only [Act.put, List.setIfInBounds_toArray, List.set_cons_zero, List.set_cons_succ])
          refine wpAnyH_take (i := 41) (oi := ({ dst := some 106, op := Go.Op.load 23 (Go.Operand.tmp 17), type := 23, pos := "law.go:268", after := #[{ on := 38, ground := Go.Ground.guard }], guard := some (38, true) } : Oper)) (v := ?v41_38a_12_2) rfl (by kernel_rfl) (by kernel_rfl) (by kernel_rfl) (fun _ _ _ h => h) (Or.inl ⟨by rfl, ?hy41_38a_12_2⟩) (by assumption) ?re41_38a_12_2
          case hy41_38a_12_2 => ((intro w hSw; have e00 := hSw.1.c0; have e01 := hSw.1.c1; have e10 := hSw.2.1.c0; have e11 := hSw.2.1.c1; have e20 := hSw.2.2.1.c0; have e21 := hSw.2.2.1.c1; have e30 := hSw.2.2.2.c0; have e31 := hSw.2.2.2.c1; go_simp) <;> with_reducible rfl)
          (try simp only [Act.put, List.setIfInBounds_toArray, List.set_cons_zero, List.set_cons_succ])
          refine wpAnyH_ready (rs := [40]) (by kernel_rfl) (by simp) ?_
          refine AllReadyH.cons (o := ({ dst := some 105, op := Go.Op.call { callee := Go.Callee.value (Go.Operand.func 33), args := #[Go.Operand.tmp 104], argTypes := #[23] }, type := 9, pos := "law.go:268", after := #[{ on := 39, ground := Go.Ground.data }, { on := 38, ground := Go.Ground.chain }, { on := 38, ground := Go.Ground.guard }], guard := some (38, true) } : Oper)) rfl (fun K hK => ?_) ?_
          · go_simp
            go_at_call 33
            refine (CP.out _).mono ?_
            rintro e Wa12_4 ⟨rfl, B⟩
            have Rqn := Lib.hid (Rq.out.keep B Rq.out.lt)
            have Aan := Lib.hid (Aa.out.keep B Aa.out.lt)
            have Bbn := Lib.hid (Bb.out.keep B Bb.out.lt)
            have Zzn := Lib.hid (Zz.out.keep B Zz.out.lt)
            have HBn := Lib.hid (HB.out.trans (B.mono HB.out.size))
            clear Rq Aa Bb Zz HB
            have Rq := Rqn
            have Aa := Aan
            have Bb := Bbn
            have Zz := Zzn
            have HB := HBn
            clear Rqn Aan Bbn Zzn HBn
            (try go_wp2_with fail)
            refine hK.out _ _ ?_ (fun hHeld => ?_)
            · exact ⟨hHeld.1.keep B hHeld.1.lt, hHeld.2.1.keep B hHeld.2.1.lt, hHeld.2.2.1.keep B hHeld.2.2.1.lt, hHeld.2.2.2.keep B hHeld.2.2.2.lt⟩
            clear hK K
            (try simp only [Act.put, List.setIfInBounds_toArray, List.set_cons_zero, List.set_cons_succ])
            clear B
            refine wpAnyH_ready (rs := [42]) (by kernel_rfl) (by simp) ?_
            refine AllReadyH.cons (o := ({ dst := some 107, op := Go.Op.call { callee := Go.Callee.value (Go.Operand.func 33), args := #[Go.Operand.tmp 106], argTypes := #[23] }, type := 9, pos := "law.go:268", after := #[{ on := 41, ground := Go.Ground.data }, { on := 40, ground := Go.Ground.chain }, { on := 38, ground := Go.Ground.guard }], guard := some (38, true) } : Oper)) rfl (fun K hK => ?_) ?_
            · go_simp
              go_at_call 33
              refine (CP.out _).mono ?_
              rintro e Wa12_5 ⟨rfl, B⟩
              have Rqn := Lib.hid (Rq.out.keep B Rq.out.lt)
              have Aan := Lib.hid (Aa.out.keep B Aa.out.lt)
              have Bbn := Lib.hid (Bb.out.keep B Bb.out.lt)
              have Zzn := Lib.hid (Zz.out.keep B Zz.out.lt)
              have HBn := Lib.hid (HB.out.trans (B.mono HB.out.size))
              clear Rq Aa Bb Zz HB
              have Rq := Rqn
              have Aa := Aan
              have Bb := Bbn
              have Zz := Zzn
              have HB := HBn
              clear Rqn Aan Bbn Zzn HBn
              (try go_wp2_with fail)
              refine hK.out _ _ ?_ (fun hHeld => ?_)
              · exact ⟨hHeld.1.keep B hHeld.1.lt, hHeld.2.1.keep B hHeld.2.1.lt, hHeld.2.2.1.keep B hHeld.2.2.1.lt, hHeld.2.2.2.keep B hHeld.2.2.2.lt⟩
              clear hK K
              (try simp only [Act.put, List.setIfInBounds_toArray, List.set_cons_zero, List.set_cons_succ])
              clear B
              refine wpAnyH_take (i := 43) (oi := ({ dst := some 108, op := Go.Op.binOp Go.BinOp.eql 9 (Go.Operand.tmp 105) (Go.Operand.tmp 107) 9, type := 4, pos := "law.go:268", after := #[{ on := 40, ground := Go.Ground.data }, { on := 42, ground := Go.Ground.data }, { on := 38, ground := Go.Ground.guard }], guard := some (38, true) } : Oper)) (v := ?v43_39a_12_2) rfl (by kernel_rfl) (by kernel_rfl) (by kernel_rfl) (fun _ _ _ h => h) (Or.inl ⟨by rfl, ?hy43_39a_12_2⟩) (by assumption) ?re43_39a_12_2
              case hy43_39a_12_2 => ((intro w hSw; have e00 := hSw.1.c0; have e01 := hSw.1.c1; have e10 := hSw.2.1.c0; have e11 := hSw.2.1.c1; have e20 := hSw.2.2.1.c0; have e21 := hSw.2.2.1.c1; have e30 := hSw.2.2.2.c0; have e31 := hSw.2.2.2.c1; go_simp) <;> with_reducible rfl)
              (try simp only [Act.put, List.setIfInBounds_toArray, List.set_cons_zero, List.set_cons_succ])
              refine wpAnyH_take (i := 44) (oi := ({ dst := some 109, op := Go.Op.pick (Go.Operand.tmp 103) (Go.Operand.tmp 108) (Go.Operand.const (Go.Value.bool false)), type := 4, pos := "law.go:268", after := #[{ on := 38, ground := Go.Ground.data }, { on := 43, ground := Go.Ground.data }], guard := none } : Oper)) (v := ?v44_40a_12_2) rfl (by kernel_rfl) (by kernel_rfl) (by kernel_rfl) (fun _ _ _ h => h) (Or.inl ⟨by rfl, ?hy44_40a_12_2⟩) (by assumption) ?re44_40a_12_2
              case hy44_40a_12_2 => ((intro w hSw; have e00 := hSw.1.c0; have e01 := hSw.1.c1; have e10 := hSw.2.1.c0; have e11 := hSw.2.1.c1; have e20 := hSw.2.2.1.c0; have e21 := hSw.2.2.1.c1; have e30 := hSw.2.2.2.c0; have e31 := hSw.2.2.2.c1; go_simp) <;> with_reducible rfl)
              (try simp only [Act.put, List.setIfInBounds_toArray, List.set_cons_zero, List.set_cons_succ])
              refine wpAnyH_take (i := 45) (oi := ({ dst := some 6, op := Go.Op.assign (Go.Operand.tmp 109), type := 4, pos := "law.go:268", after := #[{ on := 44, ground := Go.Ground.data }, { on := 42, ground := Go.Ground.chain }, { on := 0, ground := Go.Ground.phase }, { on := 1, ground := Go.Ground.phase }, { on := 2, ground := Go.Ground.phase }, { on := 3, ground := Go.Ground.phase }, { on := 4, ground := Go.Ground.phase }, { on := 5, ground := Go.Ground.phase }, { on := 6, ground := Go.Ground.phase }, { on := 7, ground := Go.Ground.phase }, { on := 8, ground := Go.Ground.phase }, { on := 9, ground := Go.Ground.phase }, { on := 10, ground := Go.Ground.phase }, { on := 11, ground := Go.Ground.phase }, { on := 12, ground := Go.Ground.phase }, { on := 13, ground := Go.Ground.phase }, { on := 14, ground := Go.Ground.phase }, { on := 15, ground := Go.Ground.phase }, { on := 16, ground := Go.Ground.phase }, { on := 17, ground := Go.Ground.phase }, { on := 18, ground := Go.Ground.phase }, { on := 19, ground := Go.Ground.phase }, { on := 20, ground := Go.Ground.phase }, { on := 21, ground := Go.Ground.phase }, { on := 22, ground := Go.Ground.phase }, { on := 23, ground := Go.Ground.phase }, { on := 24, ground := Go.Ground.phase }, { on := 25, ground := Go.Ground.phase }, { on := 26, ground := Go.Ground.phase }, { on := 27, ground := Go.Ground.phase }, { on := 28, ground := Go.Ground.phase }, { on := 29, ground := Go.Ground.phase }, { on := 30, ground := Go.Ground.phase }, { on := 31, ground := Go.Ground.phase }, { on := 32, ground := Go.Ground.phase }, { on := 33, ground := Go.Ground.phase }, { on := 34, ground := Go.Ground.phase }, { on := 35, ground := Go.Ground.phase }, { on := 36, ground := Go.Ground.phase }, { on := 37, ground := Go.Ground.phase }, { on := 38, ground := Go.Ground.phase }, { on := 39, ground := Go.Ground.phase }, { on := 40, ground := Go.Ground.phase }, { on := 41, ground := Go.Ground.phase }, { on := 42, ground := Go.Ground.phase }, { on := 43, ground := Go.Ground.phase }, { on := 44, ground := Go.Ground.phase }], guard := none } : Oper)) (v := ?v45_41a_12_2) rfl (by kernel_rfl) (by kernel_rfl) (by kernel_rfl) (fun _ _ _ h => h) (Or.inl ⟨by rfl, ?hy45_41a_12_2⟩) (by assumption) ?re45_41a_12_2
              case hy45_41a_12_2 => ((intro w hSw; have e00 := hSw.1.c0; have e01 := hSw.1.c1; have e10 := hSw.2.1.c0; have e11 := hSw.2.1.c1; have e20 := hSw.2.2.1.c0; have e21 := hSw.2.2.1.c1; have e30 := hSw.2.2.2.c0; have e31 := hSw.2.2.2.c1; go_simp) <;> with_reducible rfl)
              (try simp only [Act.put, List.setIfInBounds_toArray, List.set_cons_zero, List.set_cons_succ])
              refine wpAnyH_done (by kernel_rfl) ?_ _
              refine NoPanic.normal ?_
              (try go_wp2_with fail)
              go_ret
              exact ⟨rfl, HB.out⟩
            exact AllReadyH.nil
          exact AllReadyH.nil
        exact AllReadyH.nil
      exact AllReadyH.nil
    exact AllReadyH.nil
end Go.Proofs.YtjpifnepdmgpeaaGreatDoor
