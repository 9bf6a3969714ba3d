/- RationalGrid: the walk of the law. -/
import Derived.Test.YtjpifnepdmgpeaaGreatDoorMf
namespace Go.Proofs.YtjpifnepdmgpeaaGreatDoor
open Go.RowKit

theorem Long_ag2 (x0 x1 x2 x3 : Int) (w : World) (b0 : -9223372036854775808 ≤ x0 ∧ x0 ≤ 9223372036854775807) (b1 : -9223372036854775808 ≤ x1 ∧ x1 ≤ 9223372036854775807) (b2 : -9223372036854775808 ≤ x2 ∧ x2 ≤ 9223372036854775807) (b3 : -9223372036854775808 ≤ x3 ∧ x3 ≤ 9223372036854775807) :
  Calls Tryz.prog 13 #[.agg #[.int .i64 x0, .int .i64 x1, .int .i64 x2, .int .i64 x3]] w fun e w' => ∃ q : Rat, e = .returned (.agg #[.string (S q.num), .string (S (q.den : Int))]) ∧ fitR 100 q ∧ Below w.heap.size w w' := Long_any x0 x1 x2 x3 w b0 b1 b2 b3
theorem numt {q : Rat} {k p : Nat} (hq : q.num.natAbs < 10 ^ k) (hp : p ≤ 30) (hk : k ≤ 169) : (q.num * ((10 ^ p : Nat) : Int)).natAbs < 10 ^ (k + 30) := by
 rw [Int.natAbs_mul, Int.natAbs_natCast, Nat.pow_add]
 exact Nat.lt_of_lt_of_le (Nat.mul_lt_mul_of_pos_right hq (ten_pos p)) (Nat.mul_le_mul_left _ (Nat.pow_le_pow_right (by decide) hp))
theorem dn_b {q : Rat} {k p : Nat} (hq : q.num.natAbs < 10 ^ k) (hp : p ≤ 30) (hk : k ≤ 169) : (dnN q (10 ^ p)).natAbs < 10 ^ (k + 30) := by
 rw [dnN]; exact Nat.lt_of_le_of_lt (Int.natAbs_ediv_le_natAbs _ _) (numt hq hp hk)
theorem up_b {q : Rat} {k p : Nat} (hq : q.num.natAbs < 10 ^ k) (hp : p ≤ 30) (hk : k ≤ 169) : (upN q (10 ^ p)).natAbs < 10 ^ (k + 30) := by
 rw [up_dn, Int.natAbs_neg]
 exact dn_b (q := -q) (by rw [Rat.neg_num, Int.natAbs_neg]; exact hq) hp hk
theorem mk_num (n : Int) (d : Nat) : (mkRat n d).num.natAbs ≤ n.natAbs := by
 rw [Rat.num_mkRat]; split
 ·
  omega
 ·
  exact Int.natAbs_ediv_le_natAbs _ _
theorem mk_den {n : Int} {d : Nat} (h : 0 < d) : (mkRat n d).den ≤ d := by
 rw [Rat.den_mkRat, if_neg (by omega)]; exact Nat.div_le_self _ _
theorem grid_fit {n : Int} {p k : Nat} (hn : n.natAbs < 10 ^ k) (hp : p ≤ 30) (hk : 31 ≤ k) : fitR k (mkRat n (10 ^ p)) :=
 ⟨Nat.lt_of_le_of_lt (mk_num _ _) hn, Nat.lt_of_le_of_lt (mk_den (ten_pos p)) (Nat.pow_lt_pow_right (by decide) (by omega))⟩
theorem okP_of {q : Rat} {k p : Nat} (hq : q.num.natAbs < 10 ^ k) (hp : p ≤ 30) (hk : k ≤ 169) : okP q (p : Int) = true := by
 rw [okP, decide_eq_true (show (0 : Int) ≤ (p : Int) ∧ (p : Int) ≤ 30 by omega), Bool.true_and, Int.toNat_natCast]
 exact decide_eq_true (wide (numt hq hp hk) (by omega))
theorem one_t {p : Nat} : RV (mkRat 1 (10 ^ p)) = .agg #[.string ⟨#[49]⟩, .string (S ((10 ^ p : Nat) : Int))] := by
 have hd : (10 ^ p : Nat) ≠ 0 := by have := ten_pos p; omega
 rw [RV, Rat.num_mkRat, Rat.den_mkRat, if_neg hd, if_neg hd]
 simp [S_one]
theorem okM_ok {a b : Rat} {i j : Nat} (ha : fitR i a) (hb : fitR j b) (h : i + j ≤ 200) : okM a b = true := by
 rw [okM, show fits (a.num * b.num) = true from decide_eq_true (mulb ha.1 hb.1 h), show fits ((a.den : Int) * b.den) = true from decide_eq_true (mulb (den_abs a ha) (den_abs b hb) h)]; rfl
theorem okS_ok {a b : Rat} {i j : Nat} (ha : fitR i a) (hb : fitR j b) (h : i + j ≤ 199) : okS a b = true := by
 have h1 := mulb ha.1 (den_abs b hb) h
 have h2 := mulb hb.1 (den_abs a ha) (show j + i ≤ 199 by omega)
 rw [okS, show fits (a.num * b.den) = true from decide_eq_true (wide h1 (by decide)), show fits (b.num * a.den) = true from decide_eq_true (wide h2 (by decide)), show fits ((a.den : Int) * b.den) = true from decide_eq_true (mulb (den_abs a ha) (den_abs b hb) (by omega)), show fits (a.num * b.den - b.num * a.den) = true from decide_eq_true (subb h1 h2)]; rfl
theorem okA_ok {a b : Rat} {i j : Nat} (ha : fitR i a) (hb : fitR j b) (h : i + j ≤ 199) : okA a b = true := by
 have h1 := mulb ha.1 (den_abs b hb) h
 have h2 := mulb hb.1 (den_abs a ha) (show j + i ≤ 199 by omega)
 rw [okA, show fits (a.num * b.den) = true from decide_eq_true (wide h1 (by decide)), show fits (b.num * a.den) = true from decide_eq_true (wide h2 (by decide)), show fits ((a.den : Int) * b.den) = true from decide_eq_true (mulb (den_abs a ha) (den_abs b hb) (by omega)), show fits (a.num * b.den + b.num * a.den) = true from decide_eq_true (addb h1 h2)]; rfl
theorem okS_grid {u d : Int} {p : Nat} (hu : u.natAbs < 10 ^ 130) (hd : d.natAbs < 10 ^ 130) (hp : p ≤ 30) : okS (mkRat u (10 ^ p)) (mkRat d (10 ^ p)) = true := by
 have n1 := Nat.lt_of_le_of_lt (mk_num u (10 ^ p)) hu
 have n2 := Nat.lt_of_le_of_lt (mk_num d (10 ^ p)) hd
 have m1 : ((mkRat u (10 ^ p)).den : Int).natAbs < 10 ^ 31 := by rw [Int.natAbs_natCast]; exact Nat.lt_of_le_of_lt (mk_den (ten_pos p)) (Nat.pow_lt_pow_right (by decide) (by omega))
 have m2 : ((mkRat d (10 ^ p)).den : Int).natAbs < 10 ^ 31 := by rw [Int.natAbs_natCast]; exact Nat.lt_of_le_of_lt (mk_den (ten_pos p)) (Nat.pow_lt_pow_right (by decide) (by omega))
 have h1 := mulb n1 m2 (show 130 + 31 ≤ 199 by decide)
 have h2 := mulb n2 m1 (show 130 + 31 ≤ 199 by decide)
 rw [okS, show fits ((mkRat u (10 ^ p)).num * (mkRat d (10 ^ p)).den) = true from decide_eq_true (wide h1 (by decide)), show fits ((mkRat d (10 ^ p)).num * (mkRat u (10 ^ p)).den) = true from decide_eq_true (wide h2 (by decide)), show fits (((mkRat u (10 ^ p)).den : Int) * (mkRat d (10 ^ p)).den) = true from decide_eq_true (mulb m1 m2 (by decide)), show fits ((mkRat u (10 ^ p)).num * (mkRat d (10 ^ p)).den - (mkRat d (10 ^ p)).num * (mkRat u (10 ^ p)).den) = true from decide_eq_true (subb h1 h2)]; rfl
theorem cmp_le_ne {a b : Rat} (h : a ≤ b) (hn : a ≠ b) : cmpR a b = -1 := by
 rw [cmpR, if_pos (Rat.lt_of_le_of_ne h hn)]
theorem cmp_ge_ne {a b : Rat} (h : b ≤ a) (hn : a ≠ b) : cmpR a b = 1 := by
 rw [← Int.neg_neg (cmpR a b), ← cmpR_swap, cmp_le_ne h (fun e => hn e.symm)]; rfl

set_option maxRecDepth 100000 in
set_option maxHeartbeats 16000000 in
theorem grid_any (x0 x1 x2 x3 y : Int) (w : World) (b0 : -9223372036854775808 ≤ x0 ∧ x0 ≤ 9223372036854775807) (b1 : -9223372036854775808 ≤ x1 ∧ x1 ≤ 9223372036854775807) (b2 : -9223372036854775808 ≤ x2 ∧ x2 ≤ 9223372036854775807) (b3 : -9223372036854775808 ≤ x3 ∧ x3 ≤ 9223372036854775807) (by' : -9223372036854775808 ≤ y ∧ y ≤ 9223372036854775807) (hT : Tz w) :
  Calls Tryz.prog 8 #[.agg #[.int .i64 x0, .int .i64 x1, .int .i64 x2, .int .i64 x3], .int .i64 y] w fun e w' => e = .returned (.bool true) ∧ Below w.heap.size w w' := by
 have X := Lib.hid (CBlk.new w #[.int .i64 x0, .int .i64 x1, .int .i64 x2, .int .i64 x3] 24)
 have HB := Lib.hid (below_alloc w (.cells #[.int .i64 x0, .int .i64 x1, .int .i64 x2, .int .i64 x3] 24))
 have HT := Lib.hid hT
 clear hT
 go_enter Tryz.func8, Tryz.ntmps8
 go_wp2_with fail
 go_at_call 11
 refine (sane4_any _ (HT.out.below HB.out)).mono ?_
 rintro e W1 ⟨rfl, B⟩
 have Xn := Lib.hid ((X.out.keep B X.out.lt))
 have HBn := Lib.hid (HB.out.trans (B.mono HB.out.size))
 clear X HB
 have X := Xn
 have HB := HBn
 clear Xn HBn
 clear B
 have Xc0 := X.out.c 0 rfl
 have Xc1 := X.out.c 1 rfl
 have Xc2 := X.out.c 2 rfl
 have Xc3 := X.out.c 3 rfl
 go_wp2_with fail
 clear Xc0 Xc1 Xc2 Xc3
 go_at_call 13
 refine (Long_ag2 x0 x1 x2 x3 _ b0 b1 b2 b3).mono ?_
 rintro e W2 ⟨q, rfl, hq, B⟩
 have Xn := Lib.hid ((X.out.keep B X.out.lt).alloc (.cells #[(.string (S q.num)), (.string (S (q.den : Int)))] 23))
 have HBn := Lib.hid ((HB.out.trans (B.mono HB.out.size)).alloc (HB.out.trans (B.mono HB.out.size)).size (.cells #[(.string (S q.num)), (.string (S (q.den : Int)))] 23))
 clear X HB
 have X := Xn
 have HB := HBn
 clear Xn HBn
 have Rq := Lib.hid (RBlk.new W2 (.string (S q.num)) (.string (S (q.den : Int))))
 clear B
 clear X
 go_wp2_with fail
 go_at_call 22
 refine (lpick_31 y _ by'.1 by'.2).mono ?_
 rintro e W3 ⟨p, rfl, hp, B⟩
 have Rqn := Lib.hid ((Rq.out.keep B Rq.out.lt))
 have HBn := Lib.hid (HB.out.trans (B.mono HB.out.size))
 clear Rq HB
 have Rq := Rqn
 have HB := HBn
 clear Rqn HBn
 clear B
 (try go_wp2_with fail)
 go_loopw [7, 8] (fun s i wr => ∃ j : Nat, j ≤ p ∧ i = .int .i64 (j : Int) ∧ s = .string (S ((10 ^ j : Nat) : Int)) ∧ W3 = wr) (fun _ i _ => p - (intOf i).toNat)
 case atStart => exact ⟨0, by omega, rfl, by rw [S_ten0], rfl⟩
 case round =>
  obtain ⟨j, hj, rfl, rfl, hw⟩ := hrel
  subst hw
  by_cases hlt : j < p
  ·
   have hz := S_size2 (z := ((10 ^ j : Nat) : Int)) (ten_lt (by omega))
   have hss := S_ten_succ j
   have z0 : (⟨#[48]⟩ : ByteArray).size = 1 := rfl
   generalize S ((10 ^ j : Nat) : Int) = sj at *
   go_wp2_with fail
   go_roundw
   case rel => exact ⟨j + 1, by omega, by go_num, by rw [hss], by first | rfl | trivial⟩
   case measure => simp [intOf]; omega
  ·
   obtain rfl : p = j := by omega
   have hp30 : p ≤ 30 := by omega
   have hq2 := hq.wide (l := 200) (by decide)
   have qd := dn_b hq.1 hp30 (by decide)
   have qu := up_b hq.1 hp30 (by decide)
   have ha := grid_fit qd hp30 (by decide)
   have hb := grid_fit qu hp30 (by decide)
   have hng : fitR 100 (-q) := ⟨by rw [Rat.neg_num, Int.natAbs_neg]; exact hq.1, hq.2⟩
   have hc := grid_fit (dn_b hng.1 hp30 (by decide)) hp30 (by decide)
   have ca := fun W => qDown_R q hq2 (p : Int) W
   rw [okP_of hq.1 hp30 (by decide), opQ, if_pos rfl, Int.toNat_natCast] at ca
   have cb := fun W => qUp_R q hq2 (p : Int) W
   rw [okP_of hq.1 hp30 (by decide), opQ, if_pos rfl, Int.toNat_natCast] at cb
   have cn := fun W => minus_R q hq2 W
   have cc := fun W => qDown_R (-q) (hng.wide (by decide)) (p : Int) W
   rw [okP_of hng.1 hp30 (by decide), opQ, if_pos rfl, Int.toNat_natCast] at cc
   have cm := fun W => minus_R (mkRat (dnN (-q) (10 ^ p)) (10 ^ p)) (hc.wide (by decide)) W
   rw [Rat.neg_mkRat, ← up_dn] at cm
   have k1 := fun W => qCompare_R (mkRat (dnN q (10 ^ p)) (10 ^ p)) q (ha.wide (by decide)) hq2 W
   have k2 := fun W => qCompare_R (mkRat (upN q (10 ^ p)) (10 ^ p)) q (hb.wide (by decide)) hq2 W
   have cg := fun W => qDown_R (mkRat (upN q (10 ^ p)) (10 ^ p)) (hb.wide (by decide)) (p : Int) W
   rw [okP_of hb.1 hp30 (by decide), opQ, if_pos rfl, Int.toNat_natCast, (dn_of (upN q (10 ^ p)) (10 ^ p) (ten_pos p)).1] at cg
   have ct := fun W => qUp_R (mkRat (dnN q (10 ^ p)) (10 ^ p)) (ha.wide (by decide)) (p : Int) W
   rw [okP_of ha.1 hp30 (by decide), opQ, if_pos rfl, Int.toNat_natCast, (dn_of (dnN q (10 ^ p)) (10 ^ p) (ten_pos p)).2] at ct
   have cu := fun W => qMul_R (mkRat (dnN q (10 ^ p)) (10 ^ p)) (tenQ p) (ha.wide (by decide)) (tenQ_fit (by omega)) W
   rw [okM_ok ha (show fitR 31 (tenQ p) from ⟨ten_lt (by omega), by rw [tenQ_den]; decide⟩) (by decide), opQ, if_pos rfl, RV_ten] at cu
   have hmul : mkRat (dnN q (10 ^ p)) (10 ^ p) * tenQ p = ((dnN q (10 ^ p) : Int) : Rat) := mul_t _ _ (ten_pos p)
   rw [hmul] at cu
   have r1 : RV ((dnN q (10 ^ p) : Int) : Rat) = .agg #[.string (S (dnN q (10 ^ p))), .string ⟨#[49]⟩] := by
    show Value.agg #[.string (S (dnN q (10 ^ p))), .string (S 1)] = _
    rw [S_one]
   rw [r1] at cu
   have cs := fun W => qSub_R (mkRat (upN q (10 ^ p)) (10 ^ p)) (mkRat (dnN q (10 ^ p)) (10 ^ p)) (hb.wide (by decide)) (ha.wide (by decide)) W
   have hos : okS (mkRat (upN q (10 ^ p)) (10 ^ p)) (mkRat (dnN q (10 ^ p)) (10 ^ p)) = true := okS_grid qu qd hp30
   rw [hos, opQ, if_pos rfl, sub_t _ _ _ (ten_pos p)] at cs
   rcases up_dn1 q (10 ^ p) (ten_pos p) with hEN | hEN
   ·
    obtain ⟨e1, e2⟩ := hEN
    rw [e1, e2, Int.sub_self, Rat.zero_mkRat, RV_zero] at cs
    rw [e2, cmpR_self] at k1
    rw [e1, e2, cmpR_self] at k2
    rw [e1, e2] at cb cm cg
    rw [e2] at ca ct cu
    clear hmul r1 hos qd qu ha hb hc hng hq hq2 hp30
    generalize dnN q (10 ^ p) = dz at *
    generalize mkRat (dnN (-q) (10 ^ p)) (10 ^ p) = fc at *
    clear e1 e2
    unfold RV at ca cb cn cc cm k1 k2 cg ct
    have ca' := ca
    skip
    try unfold RV at cu
    try unfold RV at cs
    generalize S fc.num = fc1 at *
    generalize S (fc.den : Int) = fc2 at *
    generalize S (-q).num = nq1 at *
    generalize S ((-q).den : Int) = nq2 at *
    generalize S q.num = q1 at *
    generalize S (q.den : Int) = q2 at *
    generalize S dz = ds at *
    have hts := Lib.hid (show p = 0 → S ((10 ^ p : Nat) : Int) = ⟨#[49]⟩ from fun h => by rw [h]; exact S_ten0)
    generalize S ((10 ^ p : Nat) : Int) = ts at *
    clear ca'
    have Hca := Lib.hid ca
    have Hcb := Lib.hid cb
    have Hcn := Lib.hid cn
    have Hcc := Lib.hid cc
    have Hcm := Lib.hid cm
    have Hk1 := Lib.hid k1
    have Hk2 := Lib.hid k2
    have Hcg := Lib.hid cg
    have Hct := Lib.hid ct
    have Hcu := Lib.hid cu
    have Hcs := Lib.hid cs
    clear ca cb cn cc cm k1 k2 cg ct cu cs
    have Rqc0 := Rq.out.c0
    have Rqc1 := Rq.out.c1
    go_wp2_with fail
    clear Rqc0 Rqc1
    go_at_call 23
    refine (Hca.out _).mono ?_
    rintro e We1 ⟨rfl, B⟩
    have Rqn := Lib.hid ((Rq.out.keep B Rq.out.lt).alloc (.cells #[(.string q1), (.string q2)] 23))
    have HBn := Lib.hid ((HB.out.trans (B.mono HB.out.size)).alloc (HB.out.trans (B.mono HB.out.size)).size (.cells #[(.string q1), (.string q2)] 23))
    clear Rq HB
    have Rq := Rqn
    have HB := HBn
    clear Rqn HBn
    have Aa := Lib.hid (RBlk.new We1 (.string q1) (.string q2))
    clear B
    have Rqc0 := Rq.out.c0
    have Rqc1 := Rq.out.c1
    (try go_wp2_with fail)
    clear Rqc0 Rqc1
    go_at_call 25
    refine (Hcb.out _).mono ?_
    rintro e We2 ⟨rfl, B⟩
    have Rqn := Lib.hid ((Rq.out.keep B Rq.out.lt).alloc (.cells #[(.string q1), (.string q2)] 23))
    have Aan := Lib.hid ((Aa.out.keep B Aa.out.lt).alloc (.cells #[(.string q1), (.string q2)] 23))
    have HBn := Lib.hid ((HB.out.trans (B.mono HB.out.size)).alloc (HB.out.trans (B.mono HB.out.size)).size (.cells #[(.string q1), (.string q2)] 23))
    clear Rq Aa HB
    have Rq := Rqn
    have Aa := Aan
    have HB := HBn
    clear Rqn Aan HBn
    have Bb := Lib.hid (RBlk.new We2 (.string q1) (.string q2))
    clear B
    have Rqc0 := Rq.out.c0
    have Rqc1 := Rq.out.c1
    (try go_wp2_with fail)
    clear Rqc0 Rqc1
    go_at_call 42
    refine (Hcn.out _).mono ?_
    rintro e We3 ⟨rfl, B⟩
    have Rqn := Lib.hid ((Rq.out.keep B Rq.out.lt))
    have Aan := Lib.hid ((Aa.out.keep B Aa.out.lt))
    have Bbn := Lib.hid ((Bb.out.keep B Bb.out.lt))
    have HBn := Lib.hid (HB.out.trans (B.mono HB.out.size))
    clear Rq Aa Bb HB
    have Rq := Rqn
    have Aa := Aan
    have Bb := Bbn
    have HB := HBn
    clear Rqn Aan Bbn HBn
    clear B
    (try go_wp2_with fail)
    go_at_call 23
    refine (Hcc.out _).mono ?_
    rintro e We4 ⟨rfl, B⟩
    have Rqn := Lib.hid ((Rq.out.keep B Rq.out.lt).alloc (.cells #[(.string fc1), (.string fc2)] 23))
    have Aan := Lib.hid ((Aa.out.keep B Aa.out.lt).alloc (.cells #[(.string fc1), (.string fc2)] 23))
    have Bbn := Lib.hid ((Bb.out.keep B Bb.out.lt).alloc (.cells #[(.string fc1), (.string fc2)] 23))
    have HBn := Lib.hid ((HB.out.trans (B.mono HB.out.size)).alloc (HB.out.trans (B.mono HB.out.size)).size (.cells #[(.string fc1), (.string fc2)] 23))
    clear Rq Aa Bb HB
    have Rq := Rqn
    have Aa := Aan
    have Bb := Bbn
    have HB := HBn
    clear Rqn Aan Bbn HBn
    have Cc := Lib.hid (RBlk.new We4 (.string fc1) (.string fc2))
    clear B
    go_upto_region 12 with fail
    generalize hW0e12 : (We4.alloc (.cells #[(.string fc1), (.string fc2)] 23)) = W0e12 at *
    clear hW0e12
    refine wp_region_noPanic ?_
    refine wp_region_held_drew (S := fun W => RBlk W (W2.heap.size) (.string q1) (.string q2) ∧ RBlk W (We1.heap.size) (.string q1) (.string q2) ∧ RBlk W (We2.heap.size) (.string q1) (.string q2) ∧ RBlk W (We4.heap.size) (.string fc1) (.string fc2)) (by kernel_rfl) ?_ (fun hHeld => ?_)
    ·
     exact ⟨Rq.out, Aa.out, Bb.out, Cc.out⟩
    have Rqn := Lib.hid Rq.out.drew
    have Aan := Lib.hid Aa.out.drew
    have Bbn := Lib.hid Bb.out.drew
    have Ccn := Lib.hid Cc.out.drew
    have HBn := Lib.hid HB.out.drew
    clear Rq Aa Bb Cc HB
    have Rq := Rqn
    have Aa := Aan
    have Bb := Bbn
    have Cc := Ccn
    have HB := HBn
    clear Rqn Aan Bbn Ccn HBn
    refine wpAnyH_take (i := 0) (oi := ({ dst := some 56, op := Go.Op.move (Go.Operand.tmp 10), type := 32, pos := "law.go:236", after := #[], guard := none } : Oper)) (v := ?v0_1e_12_1) rfl (by kernel_rfl) (by kernel_rfl) (by kernel_rfl) (fun _ _ _ h => h) (Or.inl ⟨by rfl, ?hy0_1e_12_1⟩) (by assumption) ?re0_1e_12_1
    case hy0_1e_12_1 => (intro w hSw; go_simp) <;> with_reducible rfl
    (try simp only [Act.put, List.setIfInBounds_toArray, List.set_cons_zero, List.set_cons_succ])
    refine wpAnyH_take (i := 1) (oi := ({ dst := some 57, op := Go.Op.binOp Go.BinOp.neq 32 (Go.Operand.tmp 56) (Go.Operand.const (Go.Value.int Go.IntKind.i64 0)) 32, type := 4, pos := "law.go:236", after := #[{ on := 0, ground := Go.Ground.data }], guard := none } : Oper)) (v := ?v1_2e_12_1) rfl (by kernel_rfl) (by kernel_rfl) (by kernel_rfl) (fun _ _ _ h => h) (Or.inl ⟨by rfl, ?hy1_2e_12_1⟩) (by assumption) ?re1_2e_12_1
    case hy1_2e_12_1 => (intro w hSw; go_simp) <;> with_reducible rfl
    (try simp only [Act.put, List.setIfInBounds_toArray, List.set_cons_zero, List.set_cons_succ])
    refine wpAnyH_take (i := 2) (oi := ({ dst := some 58, op := Go.Op.move (Go.Operand.tmp 57), type := 4, pos := "law.go:236", after := #[{ on := 1, ground := Go.Ground.data }], guard := none } : Oper)) (v := ?v2_3e_12_1) rfl (by kernel_rfl) (by kernel_rfl) (by kernel_rfl) (fun _ _ _ h => h) (Or.inl ⟨by rfl, ?hy2_3e_12_1⟩) (by assumption) ?re2_3e_12_1
    case hy2_3e_12_1 => (intro w hSw; go_simp) <;> with_reducible rfl
    (try simp only [Act.put, List.setIfInBounds_toArray, List.set_cons_zero, List.set_cons_succ])
    refine wpAnyH_take (i := 3) (oi := ({ dst := some 59, op := Go.Op.move (Go.Operand.tmp 12), type := 32, pos := "law.go:236", after := #[{ on := 2, ground := Go.Ground.guard }], guard := some (2, false) } : Oper)) (v := ?v3_4e_12_1) rfl (by kernel_rfl) (by kernel_rfl) (by kernel_rfl) (fun _ _ _ h => h) (Or.inl ⟨by rfl, ?hy3_4e_12_1⟩) (by assumption) ?re3_4e_12_1
    case hy3_4e_12_1 => (intro w hSw; go_simp) <;> with_reducible rfl
    (try simp only [Act.put, List.setIfInBounds_toArray, List.set_cons_zero, List.set_cons_succ])
    refine wpAnyH_take (i := 4) (oi := ({ dst := some 60, op := Go.Op.binOp Go.BinOp.neq 32 (Go.Operand.tmp 59) (Go.Operand.const (Go.Value.int Go.IntKind.i64 0)) 32, type := 4, pos := "law.go:236", after := #[{ on := 3, ground := Go.Ground.data }, { on := 2, ground := Go.Ground.guard }], guard := some (2, false) } : Oper)) (v := ?v4_5e_12_1) rfl (by kernel_rfl) (by kernel_rfl) (by kernel_rfl) (fun _ _ _ h => h) (Or.inl ⟨by rfl, ?hy4_5e_12_1⟩) (by assumption) ?re4_5e_12_1
    case hy4_5e_12_1 => (intro w hSw; go_simp) <;> with_reducible rfl
    (try simp only [Act.put, List.setIfInBounds_toArray, List.set_cons_zero, List.set_cons_succ])
    refine wpAnyH_take (i := 5) (oi := ({ dst := some 61, op := Go.Op.pick (Go.Operand.tmp 58) (Go.Operand.const (Go.Value.bool true)) (Go.Operand.tmp 60), type := 4, pos := "law.go:236", after := #[{ on := 2, ground := Go.Ground.data }, { on := 4, ground := Go.Ground.data }], guard := none } : Oper)) (v := ?v5_6e_12_1) rfl (by kernel_rfl) (by kernel_rfl) (by kernel_rfl) (fun _ _ _ h => h) (Or.inl ⟨by rfl, ?hy5_6e_12_1⟩) (by assumption) ?re5_6e_12_1
    case hy5_6e_12_1 => (intro w hSw; go_simp) <;> with_reducible rfl
    (try simp only [Act.put, List.setIfInBounds_toArray, List.set_cons_zero, List.set_cons_succ])
    refine wpAnyH_take (i := 6) (oi := ({ dst := some 62, op := Go.Op.move (Go.Operand.tmp 61), type := 4, pos := "law.go:236", after := #[{ on := 5, ground := Go.Ground.data }, { on := 2, ground := Go.Ground.chain }], guard := none } : Oper)) (v := ?v6_7e_12_1) rfl (by kernel_rfl) (by kernel_rfl) (by kernel_rfl) (fun _ _ _ h => h) (Or.inl ⟨by rfl, ?hy6_7e_12_1⟩) (by assumption) ?re6_7e_12_1
    case hy6_7e_12_1 => (intro w hSw; go_simp) <;> with_reducible rfl
    (try simp only [Act.put, List.setIfInBounds_toArray, List.set_cons_zero, List.set_cons_succ])
    refine wpAnyH_take (i := 7) (oi := ({ dst := some 63, op := Go.Op.move (Go.Operand.tmp 14), type := 32, pos := "law.go:236", after := #[{ on := 6, ground := Go.Ground.guard }], guard := some (6, false) } : Oper)) (v := ?v7_8e_12_1) rfl (by kernel_rfl) (by kernel_rfl) (by kernel_rfl) (fun _ _ _ h => h) (Or.inl ⟨by rfl, ?hy7_8e_12_1⟩) (by assumption) ?re7_8e_12_1
    case hy7_8e_12_1 => (intro w hSw; go_simp) <;> with_reducible rfl
    (try simp only [Act.put, List.setIfInBounds_toArray, List.set_cons_zero, List.set_cons_succ])
    refine wpAnyH_take (i := 8) (oi := ({ dst := some 64, op := Go.Op.binOp Go.BinOp.neq 32 (Go.Operand.tmp 63) (Go.Operand.const (Go.Value.int Go.IntKind.i64 0)) 32, type := 4, pos := "law.go:236", after := #[{ on := 7, ground := Go.Ground.data }, { on := 6, ground := Go.Ground.guard }], guard := some (6, false) } : Oper)) (v := ?v8_9e_12_1) rfl (by kernel_rfl) (by kernel_rfl) (by kernel_rfl) (fun _ _ _ h => h) (Or.inl ⟨by rfl, ?hy8_9e_12_1⟩) (by assumption) ?re8_9e_12_1
    case hy8_9e_12_1 => (intro w hSw; go_simp) <;> with_reducible rfl
    (try simp only [Act.put, List.setIfInBounds_toArray, List.set_cons_zero, List.set_cons_succ])
    refine wpAnyH_take (i := 9) (oi := ({ dst := some 65, op := Go.Op.pick (Go.Operand.tmp 62) (Go.Operand.const (Go.Value.bool true)) (Go.Operand.tmp 64), type := 4, pos := "law.go:236", after := #[{ on := 6, ground := Go.Ground.data }, { on := 8, ground := Go.Ground.data }], guard := none } : Oper)) (v := ?v9_10e_12_1) rfl (by kernel_rfl) (by kernel_rfl) (by kernel_rfl) (fun _ _ _ h => h) (Or.inl ⟨by rfl, ?hy9_10e_12_1⟩) (by assumption) ?re9_10e_12_1
    case hy9_10e_12_1 => (intro w hSw; go_simp) <;> with_reducible rfl
    (try simp only [Act.put, List.setIfInBounds_toArray, List.set_cons_zero, List.set_cons_succ])
    refine wpAnyH_take (i := 10) (oi := ({ dst := some 66, op := Go.Op.move (Go.Operand.tmp 65), type := 4, pos := "law.go:236", after := #[{ on := 9, ground := Go.Ground.data }, { on := 6, ground := Go.Ground.chain }], guard := none } : Oper)) (v := ?v10_11e_12_1) rfl (by kernel_rfl) (by kernel_rfl) (by kernel_rfl) (fun _ _ _ h => h) (Or.inl ⟨by rfl, ?hy10_11e_12_1⟩) (by assumption) ?re10_11e_12_1
    case hy10_11e_12_1 => (intro w hSw; go_simp) <;> with_reducible rfl
    (try simp only [Act.put, List.setIfInBounds_toArray, List.set_cons_zero, List.set_cons_succ])
    refine wpAnyH_take (i := 11) (oi := ({ dst := some 67, op := Go.Op.load 23 (Go.Operand.tmp 13), type := 23, pos := "law.go:236", after := #[{ on := 10, ground := Go.Ground.guard }], guard := some (10, false) } : Oper)) (v := ?v11_12e_12_1) rfl (by kernel_rfl) (by kernel_rfl) (by kernel_rfl) (fun _ _ _ h => h) (Or.inl ⟨by rfl, ?hy11_12e_12_1⟩) (by assumption) ?re11_12e_12_1
    case hy11_12e_12_1 => ((intro w hSw; have e00 := hSw.1.c0; have e01 := hSw.1.c1; have e10 := hSw.2.1.c0; have e11 := hSw.2.1.c1; have e20 := hSw.2.2.1.c0; have e21 := hSw.2.2.1.c1; have e30 := hSw.2.2.2.c0; have e31 := hSw.2.2.2.c1; go_simp) <;> with_reducible rfl)
    (try simp only [Act.put, List.setIfInBounds_toArray, List.set_cons_zero, List.set_cons_succ])
    refine wpAnyH_take (i := 13) (oi := ({ dst := some 69, op := Go.Op.load 23 (Go.Operand.tmp 11), type := 23, pos := "law.go:236", after := #[{ on := 10, ground := Go.Ground.guard }], guard := some (10, false) } : Oper)) (v := ?v13_13e_12_1) rfl (by kernel_rfl) (by kernel_rfl) (by kernel_rfl) (fun _ _ _ h => h) (Or.inl ⟨by rfl, ?hy13_13e_12_1⟩) (by assumption) ?re13_13e_12_1
    case hy13_13e_12_1 => ((intro w hSw; have e00 := hSw.1.c0; have e01 := hSw.1.c1; have e10 := hSw.2.1.c0; have e11 := hSw.2.1.c1; have e20 := hSw.2.2.1.c0; have e21 := hSw.2.2.1.c1; have e30 := hSw.2.2.2.c0; have e31 := hSw.2.2.2.c1; go_simp) <;> with_reducible rfl)
    (try simp only [Act.put, List.setIfInBounds_toArray, List.set_cons_zero, List.set_cons_succ])
    refine wpAnyH_ready (rs := [12]) (by kernel_rfl) (by simp) ?_
    refine AllReadyH.cons (o := ({ dst := some 68, op := Go.Op.call { callee := Go.Callee.value (Go.Operand.func 42), args := #[Go.Operand.tmp 67], argTypes := #[23] }, type := 23, pos := "law.go:236", after := #[{ on := 11, ground := Go.Ground.data }, { on := 10, ground := Go.Ground.chain }, { on := 10, ground := Go.Ground.guard }], guard := some (10, false) } : Oper)) rfl (fun K hK => ?_) ?_
    ·
     go_simp
     go_at_call 42
     refine (Hcm.out _).mono ?_
     rintro e We12_1 ⟨rfl, B⟩
     have Rqn := Lib.hid (Rq.out.keep B Rq.out.lt)
     have Aan := Lib.hid (Aa.out.keep B Aa.out.lt)
     have Bbn := Lib.hid (Bb.out.keep B Bb.out.lt)
     have Ccn := Lib.hid (Cc.out.keep B Cc.out.lt)
     have HBn := Lib.hid (HB.out.trans (B.mono HB.out.size))
     clear Rq Aa Bb Cc HB
     have Rq := Rqn
     have Aa := Aan
     have Bb := Bbn
     have Cc := Ccn
     have HB := HBn
     clear Rqn Aan Bbn Ccn HBn
     (try go_wp2_with fail)
     refine hK.out _ _ ?_ (fun hHeld => ?_)
     ·
      exact ⟨hHeld.1.keep B hHeld.1.lt, hHeld.2.1.keep B hHeld.2.1.lt, hHeld.2.2.1.keep B hHeld.2.2.1.lt, hHeld.2.2.2.keep B hHeld.2.2.2.lt⟩
     clear hK K
     (try simp only [Act.put, List.setIfInBounds_toArray, List.set_cons_zero, List.set_cons_succ])
     clear B
     refine wpAnyH_take (i := 14) (oi := ({ dst := some 70, op := Go.Op.binOp Go.BinOp.neq 23 (Go.Operand.tmp 68) (Go.Operand.tmp 69) 23, type := 4, pos := "law.go:236", after := #[{ on := 12, ground := Go.Ground.data }, { on := 13, ground := Go.Ground.data }, { on := 10, ground := Go.Ground.guard }], guard := some (10, false) } : Oper)) (v := ?v14_14e_12_1) rfl (by kernel_rfl) (by kernel_rfl) (by kernel_rfl) (fun _ _ _ h => h) (Or.inl ⟨by rfl, ?hy14_14e_12_1⟩) (by assumption) ?re14_14e_12_1
     case hy14_14e_12_1 => (intro w hSw; go_simp) <;> with_reducible rfl
     (try simp only [Act.put, List.setIfInBounds_toArray, List.set_cons_zero, List.set_cons_succ])
     refine wpAnyH_take (i := 15) (oi := ({ dst := some 71, op := Go.Op.pick (Go.Operand.tmp 66) (Go.Operand.const (Go.Value.bool true)) (Go.Operand.tmp 70), type := 4, pos := "law.go:236", after := #[{ on := 10, ground := Go.Ground.data }, { on := 14, ground := Go.Ground.data }], guard := none } : Oper)) (v := ?v15_15e_12_1) rfl (by kernel_rfl) (by kernel_rfl) (by kernel_rfl) (fun _ _ _ h => h) (Or.inl ⟨by rfl, ?hy15_15e_12_1⟩) (by assumption) ?re15_15e_12_1
     case hy15_15e_12_1 => (intro w hSw; go_simp) <;> with_reducible rfl
     (try simp only [Act.put, List.setIfInBounds_toArray, List.set_cons_zero, List.set_cons_succ])
     refine wpAnyH_take (i := 16) (oi := ({ dst := some 72, op := Go.Op.move (Go.Operand.tmp 71), type := 4, pos := "law.go:236", after := #[{ on := 15, ground := Go.Ground.data }, { on := 12, ground := Go.Ground.chain }], guard := none } : Oper)) (v := ?v16_16e_12_1) rfl (by kernel_rfl) (by kernel_rfl) (by kernel_rfl) (fun _ _ _ h => h) (Or.inl ⟨by rfl, ?hy16_16e_12_1⟩) (by assumption) ?re16_16e_12_1
     case hy16_16e_12_1 => (intro w hSw; go_simp) <;> with_reducible rfl
     (try simp only [Act.put, List.setIfInBounds_toArray, List.set_cons_zero, List.set_cons_succ])
     refine wpAnyH_take (i := 17) (oi := ({ dst := some 73, op := Go.Op.load 23 (Go.Operand.tmp 9), type := 23, pos := "law.go:236", after := #[{ on := 16, ground := Go.Ground.guard }], guard := some (16, false) } : Oper)) (v := ?v17_17e_12_1) rfl (by kernel_rfl) (by kernel_rfl) (by kernel_rfl) (fun _ _ _ h => h) (Or.inl ⟨by rfl, ?hy17_17e_12_1⟩) (by assumption) ?re17_17e_12_1
     case hy17_17e_12_1 => ((intro w hSw; have e00 := hSw.1.c0; have e01 := hSw.1.c1; have e10 := hSw.2.1.c0; have e11 := hSw.2.1.c1; have e20 := hSw.2.2.1.c0; have e21 := hSw.2.2.1.c1; have e30 := hSw.2.2.2.c0; have e31 := hSw.2.2.2.c1; go_simp) <;> with_reducible rfl)
     (try simp only [Act.put, List.setIfInBounds_toArray, List.set_cons_zero, List.set_cons_succ])
     refine wpAnyH_take (i := 18) (oi := ({ dst := some 74, op := Go.Op.load 23 (Go.Operand.tmp 6), type := 23, pos := "law.go:236", after := #[{ on := 16, ground := Go.Ground.guard }], guard := some (16, false) } : Oper)) (v := ?v18_18e_12_1) rfl (by kernel_rfl) (by kernel_rfl) (by kernel_rfl) (fun _ _ _ h => h) (Or.inl ⟨by rfl, ?hy18_18e_12_1⟩) (by assumption) ?re18_18e_12_1
     case hy18_18e_12_1 => ((intro w hSw; have e00 := hSw.1.c0; have e01 := hSw.1.c1; have e10 := hSw.2.1.c0; have e11 := hSw.2.1.c1; have e20 := hSw.2.2.1.c0; have e21 := hSw.2.2.1.c1; have e30 := hSw.2.2.2.c0; have e31 := hSw.2.2.2.c1; go_simp) <;> with_reducible rfl)
     (try simp only [Act.put, List.setIfInBounds_toArray, List.set_cons_zero, List.set_cons_succ])
     refine wpAnyH_ready (rs := [19]) (by kernel_rfl) (by simp) ?_
     refine AllReadyH.cons (o := ({ dst := some 75, op := Go.Op.call { callee := Go.Callee.value (Go.Operand.func 20), args := #[Go.Operand.tmp 73, Go.Operand.tmp 74], argTypes := #[23, 23] }, type := 3, pos := "law.go:236", after := #[{ on := 17, ground := Go.Ground.data }, { on := 18, ground := Go.Ground.data }, { on := 16, ground := Go.Ground.chain }, { on := 16, ground := Go.Ground.guard }], guard := some (16, false) } : Oper)) rfl (fun K hK => ?_) ?_
     ·
      go_simp
      go_at_call 20
      refine (Hk1.out _).mono ?_
      rintro e We12_2 ⟨rfl, B⟩
      have Rqn := Lib.hid (Rq.out.keep B Rq.out.lt)
      have Aan := Lib.hid (Aa.out.keep B Aa.out.lt)
      have Bbn := Lib.hid (Bb.out.keep B Bb.out.lt)
      have Ccn := Lib.hid (Cc.out.keep B Cc.out.lt)
      have HBn := Lib.hid (HB.out.trans (B.mono HB.out.size))
      clear Rq Aa Bb Cc HB
      have Rq := Rqn
      have Aa := Aan
      have Bb := Bbn
      have Cc := Ccn
      have HB := HBn
      clear Rqn Aan Bbn Ccn HBn
      (try go_wp2_with fail)
      refine hK.out _ _ ?_ (fun hHeld => ?_)
      ·
       exact ⟨hHeld.1.keep B hHeld.1.lt, hHeld.2.1.keep B hHeld.2.1.lt, hHeld.2.2.1.keep B hHeld.2.2.1.lt, hHeld.2.2.2.keep B hHeld.2.2.2.lt⟩
      clear hK K
      (try simp only [Act.put, List.setIfInBounds_toArray, List.set_cons_zero, List.set_cons_succ])
      clear B
      refine wpAnyH_take (i := 20) (oi := ({ dst := some 76, op := Go.Op.binOp Go.BinOp.gtr 3 (Go.Operand.tmp 75) (Go.Operand.const (Go.Value.int Go.IntKind.i64 0)) 3, type := 4, pos := "law.go:236", after := #[{ on := 19, ground := Go.Ground.data }, { on := 16, ground := Go.Ground.guard }], guard := some (16, false) } : Oper)) (v := ?v20_19e_12_1) rfl (by kernel_rfl) (by kernel_rfl) (by kernel_rfl) (fun _ _ _ h => h) (Or.inl ⟨by rfl, ?hy20_19e_12_1⟩) (by assumption) ?re20_19e_12_1
      case hy20_19e_12_1 => (intro w hSw; go_simp) <;> with_reducible rfl
      (try simp only [Act.put, List.setIfInBounds_toArray, List.set_cons_zero, List.set_cons_succ])
      refine wpAnyH_take (i := 21) (oi := ({ dst := some 77, op := Go.Op.pick (Go.Operand.tmp 72) (Go.Operand.const (Go.Value.bool true)) (Go.Operand.tmp 76), type := 4, pos := "law.go:236", after := #[{ on := 16, ground := Go.Ground.data }, { on := 20, ground := Go.Ground.data }], guard := none } : Oper)) (v := ?v21_20e_12_1) rfl (by kernel_rfl) (by kernel_rfl) (by kernel_rfl) (fun _ _ _ h => h) (Or.inl ⟨by rfl, ?hy21_20e_12_1⟩) (by assumption) ?re21_20e_12_1
      case hy21_20e_12_1 => (intro w hSw; go_simp) <;> with_reducible rfl
      (try simp only [Act.put, List.setIfInBounds_toArray, List.set_cons_zero, List.set_cons_succ])
      refine wpAnyH_take (i := 22) (oi := ({ dst := some 78, op := Go.Op.move (Go.Operand.tmp 77), type := 4, pos := "law.go:236", after := #[{ on := 21, ground := Go.Ground.data }, { on := 19, ground := Go.Ground.chain }], guard := none } : Oper)) (v := ?v22_21e_12_1) rfl (by kernel_rfl) (by kernel_rfl) (by kernel_rfl) (fun _ _ _ h => h) (Or.inl ⟨by rfl, ?hy22_21e_12_1⟩) (by assumption) ?re22_21e_12_1
      case hy22_21e_12_1 => (intro w hSw; go_simp) <;> with_reducible rfl
      (try simp only [Act.put, List.setIfInBounds_toArray, List.set_cons_zero, List.set_cons_succ])
      refine wpAnyH_take (i := 23) (oi := ({ dst := some 79, op := Go.Op.load 23 (Go.Operand.tmp 11), type := 23, pos := "law.go:236", after := #[{ on := 22, ground := Go.Ground.guard }], guard := some (22, false) } : Oper)) (v := ?v23_22e_12_1) rfl (by kernel_rfl) (by kernel_rfl) (by kernel_rfl) (fun _ _ _ h => h) (Or.inl ⟨by rfl, ?hy23_22e_12_1⟩) (by assumption) ?re23_22e_12_1
      case hy23_22e_12_1 => ((intro w hSw; have e00 := hSw.1.c0; have e01 := hSw.1.c1; have e10 := hSw.2.1.c0; have e11 := hSw.2.1.c1; have e20 := hSw.2.2.1.c0; have e21 := hSw.2.2.1.c1; have e30 := hSw.2.2.2.c0; have e31 := hSw.2.2.2.c1; go_simp) <;> with_reducible rfl)
      (try simp only [Act.put, List.setIfInBounds_toArray, List.set_cons_zero, List.set_cons_succ])
      refine wpAnyH_take (i := 24) (oi := ({ dst := some 80, op := Go.Op.load 23 (Go.Operand.tmp 6), type := 23, pos := "law.go:236", after := #[{ on := 22, ground := Go.Ground.guard }], guard := some (22, false) } : Oper)) (v := ?v24_23e_12_1) rfl (by kernel_rfl) (by kernel_rfl) (by kernel_rfl) (fun _ _ _ h => h) (Or.inl ⟨by rfl, ?hy24_23e_12_1⟩) (by assumption) ?re24_23e_12_1
      case hy24_23e_12_1 => ((intro w hSw; have e00 := hSw.1.c0; have e01 := hSw.1.c1; have e10 := hSw.2.1.c0; have e11 := hSw.2.1.c1; have e20 := hSw.2.2.1.c0; have e21 := hSw.2.2.1.c1; have e30 := hSw.2.2.2.c0; have e31 := hSw.2.2.2.c1; go_simp) <;> with_reducible rfl)
      (try simp only [Act.put, List.setIfInBounds_toArray, List.set_cons_zero, List.set_cons_succ])
      refine wpAnyH_ready (rs := [25]) (by kernel_rfl) (by simp) ?_
      refine AllReadyH.cons (o := ({ dst := some 81, op := Go.Op.call { callee := Go.Callee.value (Go.Operand.func 20), args := #[Go.Operand.tmp 79, Go.Operand.tmp 80], argTypes := #[23, 23] }, type := 3, pos := "law.go:236", after := #[{ on := 23, ground := Go.Ground.data }, { on := 24, ground := Go.Ground.data }, { on := 22, ground := Go.Ground.chain }, { on := 22, ground := Go.Ground.guard }], guard := some (22, false) } : Oper)) rfl (fun K hK => ?_) ?_
      ·
       go_simp
       go_at_call 20
       refine (Hk2.out _).mono ?_
       rintro e We12_3 ⟨rfl, B⟩
       have Rqn := Lib.hid (Rq.out.keep B Rq.out.lt)
       have Aan := Lib.hid (Aa.out.keep B Aa.out.lt)
       have Bbn := Lib.hid (Bb.out.keep B Bb.out.lt)
       have Ccn := Lib.hid (Cc.out.keep B Cc.out.lt)
       have HBn := Lib.hid (HB.out.trans (B.mono HB.out.size))
       clear Rq Aa Bb Cc HB
       have Rq := Rqn
       have Aa := Aan
       have Bb := Bbn
       have Cc := Ccn
       have HB := HBn
       clear Rqn Aan Bbn Ccn HBn
       (try go_wp2_with fail)
       refine hK.out _ _ ?_ (fun hHeld => ?_)
       ·
        exact ⟨hHeld.1.keep B hHeld.1.lt, hHeld.2.1.keep B hHeld.2.1.lt, hHeld.2.2.1.keep B hHeld.2.2.1.lt, hHeld.2.2.2.keep B hHeld.2.2.2.lt⟩
       clear hK K
       (try simp only [Act.put, List.setIfInBounds_toArray, List.set_cons_zero, List.set_cons_succ])
       clear B
       refine wpAnyH_take (i := 26) (oi := ({ dst := some 82, op := Go.Op.binOp Go.BinOp.lss 3 (Go.Operand.tmp 81) (Go.Operand.const (Go.Value.int Go.IntKind.i64 0)) 3, type := 4, pos := "law.go:236", after := #[{ on := 25, ground := Go.Ground.data }, { on := 22, ground := Go.Ground.guard }], guard := some (22, false) } : Oper)) (v := ?v26_24e_12_1) rfl (by kernel_rfl) (by kernel_rfl) (by kernel_rfl) (fun _ _ _ h => h) (Or.inl ⟨by rfl, ?hy26_24e_12_1⟩) (by assumption) ?re26_24e_12_1
       case hy26_24e_12_1 => (intro w hSw; go_simp) <;> with_reducible rfl
       (try simp only [Act.put, List.setIfInBounds_toArray, List.set_cons_zero, List.set_cons_succ])
       refine wpAnyH_take (i := 27) (oi := ({ dst := some 83, op := Go.Op.pick (Go.Operand.tmp 78) (Go.Operand.const (Go.Value.bool true)) (Go.Operand.tmp 82), type := 4, pos := "law.go:236", after := #[{ on := 22, ground := Go.Ground.data }, { on := 26, ground := Go.Ground.data }], guard := none } : Oper)) (v := ?v27_25e_12_1) rfl (by kernel_rfl) (by kernel_rfl) (by kernel_rfl) (fun _ _ _ h => h) (Or.inl ⟨by rfl, ?hy27_25e_12_1⟩) (by assumption) ?re27_25e_12_1
       case hy27_25e_12_1 => (intro w hSw; go_simp) <;> with_reducible rfl
       (try simp only [Act.put, List.setIfInBounds_toArray, List.set_cons_zero, List.set_cons_succ])
       refine wpAnyH_done (by kernel_rfl) ?_ _
       refine NoPanic.normal ?_
       have Bbc0 := Bb.out.c0
       have Bbc1 := Bb.out.c1
       (try go_wp2_with fail)
       clear Bbc0 Bbc1
       go_at_call 23
       refine (Hcg.out _).mono ?_
       rintro e Wea1 ⟨rfl, B⟩
       have Rqn := Lib.hid ((Rq.out.keep B Rq.out.lt).alloc (.cells #[(.string q1), (.string q2)] 23))
       have Aan := Lib.hid ((Aa.out.keep B Aa.out.lt).alloc (.cells #[(.string q1), (.string q2)] 23))
       have Bbn := Lib.hid ((Bb.out.keep B Bb.out.lt).alloc (.cells #[(.string q1), (.string q2)] 23))
       have Ccn := Lib.hid ((Cc.out.keep B Cc.out.lt).alloc (.cells #[(.string q1), (.string q2)] 23))
       have HBn := Lib.hid ((HB.out.trans (B.mono HB.out.size)).alloc (HB.out.trans (B.mono HB.out.size)).size (.cells #[(.string q1), (.string q2)] 23))
       clear Rq Aa Bb Cc HB
       have Rq := Rqn
       have Aa := Aan
       have Bb := Bbn
       have Cc := Ccn
       have HB := HBn
       clear Rqn Aan Bbn Ccn HBn
       have Ag := Lib.hid (RBlk.new Wea1 (.string q1) (.string q2))
       clear B
       have Aac0 := Aa.out.c0
       have Aac1 := Aa.out.c1
       (try go_wp2_with fail)
       clear Aac0 Aac1
       go_at_call 25
       refine (Hct.out _).mono ?_
       rintro e Wea2 ⟨rfl, B⟩
       have Rqn := Lib.hid ((Rq.out.keep B Rq.out.lt).alloc (.cells #[(.string q1), (.string q2)] 23))
       have Aan := Lib.hid ((Aa.out.keep B Aa.out.lt).alloc (.cells #[(.string q1), (.string q2)] 23))
       have Bbn := Lib.hid ((Bb.out.keep B Bb.out.lt).alloc (.cells #[(.string q1), (.string q2)] 23))
       have Ccn := Lib.hid ((Cc.out.keep B Cc.out.lt).alloc (.cells #[(.string q1), (.string q2)] 23))
       have Agn := Lib.hid ((Ag.out.keep B Ag.out.lt).alloc (.cells #[(.string q1), (.string q2)] 23))
       have HBn := Lib.hid ((HB.out.trans (B.mono HB.out.size)).alloc (HB.out.trans (B.mono HB.out.size)).size (.cells #[(.string q1), (.string q2)] 23))
       clear Rq Aa Bb Cc Ag HB
       have Rq := Rqn
       have Aa := Aan
       have Bb := Bbn
       have Cc := Ccn
       have Ag := Agn
       have HB := HBn
       clear Rqn Aan Bbn Ccn Agn HBn
       have Tw := Lib.hid (RBlk.new Wea2 (.string q1) (.string q2))
       clear B
       go_upto_region 16 with fail
       generalize hW0ea16 : (Wea2.alloc (.cells #[(.string q1), (.string q2)] 23)) = W0ea16 at *
       clear hW0ea16
       apply join_two (fun gJ WJ => Hid (RBlk WJ (W2.heap.size) (.string q1) (.string q2) ∧ RBlk WJ (We1.heap.size) (.string q1) (.string q2) ∧ RBlk WJ (We2.heap.size) (.string q1) (.string q2) ∧ RBlk WJ (We4.heap.size) (.string fc1) (.string fc2) ∧ RBlk WJ (Wea1.heap.size) (.string q1) (.string q2) ∧ RBlk WJ (Wea2.heap.size) (.string q1) (.string q2) ∧ RBlk WJ gJ (.string ds) (.string ⟨#[49]⟩) ∧ Below w.heap.size w WJ))
       case m =>
        intro HJ
        refine wp_region_noPanic ?_
        refine wp_region_held_drew (S := fun W => RBlk W (We1.heap.size) (.string q1) (.string q2)) (by kernel_rfl) ?_ (fun hHeld => ?_)
        ·
         exact Aa.out
        have Rq := Lib.hid Rq.out.drew
        have Aa := Lib.hid Aa.out.drew
        have Bb := Lib.hid Bb.out.drew
        have Cc := Lib.hid Cc.out.drew
        have Ag := Lib.hid Ag.out.drew
        have Tw := Lib.hid Tw.out.drew
        have HB := Lib.hid HB.out.drew
        refine wpAnyH_take (i := 0) (oi := ({ dst := some 97, op := Go.Op.load 23 (Go.Operand.tmp 9), type := 23, pos := "law.go:241", after := #[], guard := none } : Oper)) (v := ?v0_1ea_16_2) rfl (by kernel_rfl) (by kernel_rfl) (by kernel_rfl) (fun _ _ _ h => h) (Or.inl ⟨by rfl, ?hy0_1ea_16_2⟩) (by assumption) ?re0_1ea_16_2
        case hy0_1ea_16_2 => ((intro w hSw; have e00 := hSw.c0; have e01 := hSw.c1; go_simp) <;> with_reducible rfl)
        (try simp only [Act.put, List.setIfInBounds_toArray, List.set_cons_zero, List.set_cons_succ])
        refine wpAnyH_take (i := 1) (oi := ({ dst := some 98, op := Go.Op.move (Go.Operand.tmp 7), type := 9, pos := "law.go:241", after := #[], guard := none } : Oper)) (v := ?v1_2ea_16_2) rfl (by kernel_rfl) (by kernel_rfl) (by kernel_rfl) (fun _ _ _ h => h) (Or.inl ⟨by rfl, ?hy1_2ea_16_2⟩) (by assumption) ?re1_2ea_16_2
        case hy1_2ea_16_2 => (intro w hSw; go_simp) <;> with_reducible rfl
        (try simp only [Act.put, List.setIfInBounds_toArray, List.set_cons_zero, List.set_cons_succ])
        refine wpAnyH_ready (rs := [2, 7]) (by kernel_rfl) (by simp) ?_
        refine AllReadyH.cons (o := ({ dst := some 99, op := Go.Op.call { callee := Go.Callee.value (Go.Operand.func 41), args := #[Go.Operand.tmp 98, Go.Operand.const (Go.Value.string { data := #[49] })], argTypes := #[9, 9] }, type := 23, pos := "law.go:241", after := #[{ on := 1, ground := Go.Ground.data }], guard := none } : Oper)) rfl (fun K hK => ?_) ?_
        ·
         go_simp
         go_at_call 41
         refine (is_any _ _ _).mono ?_
         rintro e Wea16_1 ⟨rfl, B⟩
         have Rq := Lib.hid (Rq.out.keep B Rq.out.lt)
         have Aa := Lib.hid (Aa.out.keep B Aa.out.lt)
         have Bb := Lib.hid (Bb.out.keep B Bb.out.lt)
         have Cc := Lib.hid (Cc.out.keep B Cc.out.lt)
         have Ag := Lib.hid (Ag.out.keep B Ag.out.lt)
         have Tw := Lib.hid (Tw.out.keep B Tw.out.lt)
         have HB := Lib.hid (HB.out.trans (B.mono HB.out.size))
         (try go_wp2_with fail)
         refine hK.out _ _ ?_ (fun hHeld => ?_)
         ·
          exact hHeld.keep B hHeld.lt
         clear hK K
         (try simp only [Act.put, List.setIfInBounds_toArray, List.set_cons_zero, List.set_cons_succ])
         clear B
         refine wpAnyH_ready (rs := [3, 7]) (by kernel_rfl) (by simp) ?_
         refine AllReadyH.cons (o := ({ dst := some 100, op := Go.Op.call { callee := Go.Callee.value (Go.Operand.func 39), args := #[Go.Operand.tmp 97, Go.Operand.tmp 99], argTypes := #[23, 23] }, type := 36, pos := "law.go:241", after := #[{ on := 0, ground := Go.Ground.data }, { on := 2, ground := Go.Ground.data }, { on := 2, ground := Go.Ground.chain }], guard := none } : Oper)) rfl (fun K hK => ?_) ?_
         ·
          go_simp
          go_at_call 39
          refine (Hcu.out _).mono ?_
          rintro e Wea16_2 ⟨rfl, B⟩
          have Rq := Lib.hid (Rq.out.keep B Rq.out.lt)
          have Aa := Lib.hid (Aa.out.keep B Aa.out.lt)
          have Bb := Lib.hid (Bb.out.keep B Bb.out.lt)
          have Cc := Lib.hid (Cc.out.keep B Cc.out.lt)
          have Ag := Lib.hid (Ag.out.keep B Ag.out.lt)
          have Tw := Lib.hid (Tw.out.keep B Tw.out.lt)
          have HB := Lib.hid (HB.out.trans (B.mono HB.out.size))
          (try go_wp2_with fail)
          refine hK.out _ _ ?_ (fun hHeld => ?_)
          ·
           exact hHeld.keep B hHeld.lt
          clear hK K
          (try simp only [Act.put, List.setIfInBounds_toArray, List.set_cons_zero, List.set_cons_succ])
          clear B
          refine wpAnyH_take (i := 4) (oi := ({ dst := some 96, op := Go.Op.move (Go.Operand.tmp 100), type := 36, pos := "law.go:241", after := #[{ on := 3, ground := Go.Ground.data }], guard := none } : Oper)) (v := ?v4_3ea_16_2) rfl (by kernel_rfl) (by kernel_rfl) (by kernel_rfl) (fun _ _ _ h => h) (Or.inl ⟨by rfl, ?hy4_3ea_16_2⟩) (by assumption) ?re4_3ea_16_2
          case hy4_3ea_16_2 => (intro w hSw; go_simp) <;> with_reducible rfl
          (try simp only [Act.put, List.setIfInBounds_toArray, List.set_cons_zero, List.set_cons_succ])
          refine wpAnyH_take (i := 5) (oi := ({ dst := some 101, op := Go.Op.extract (Go.Operand.tmp 96) 0, type := 23, pos := "law.go:241", after := #[{ on := 4, ground := Go.Ground.data }], guard := none } : Oper)) (v := ?v5_4ea_16_2) rfl (by kernel_rfl) (by kernel_rfl) (by kernel_rfl) (fun _ _ _ h => h) (Or.inl ⟨by rfl, ?hy5_4ea_16_2⟩) (by assumption) ?re5_4ea_16_2
          case hy5_4ea_16_2 => (intro w hSw; go_simp) <;> with_reducible rfl
          (try simp only [Act.put, List.setIfInBounds_toArray, List.set_cons_zero, List.set_cons_succ])
          refine wpAnyH_take (i := 6) (oi := ({ dst := some 102, op := Go.Op.extract (Go.Operand.tmp 96) 1, type := 32, pos := "law.go:241", after := #[{ on := 4, ground := Go.Ground.data }, { on := 8, ground := Go.Ground.gcOnly Go.Departure.lateStores }], guard := none } : Oper)) (v := ?v6_5ea_16_2) rfl (by kernel_rfl) (by kernel_rfl) (by kernel_rfl) (fun _ _ _ h => h) (Or.inl ⟨by rfl, ?hy6_5ea_16_2⟩) (by assumption) ?re6_5ea_16_2
          case hy6_5ea_16_2 => (intro w hSw; go_simp) <;> with_reducible rfl
          (try simp only [Act.put, List.setIfInBounds_toArray, List.set_cons_zero, List.set_cons_succ])
          refine wpAnyH_ready (rs := [7]) (by kernel_rfl) (by simp) ?_
          refine AllReadyH.cons (o := ({ dst := some 19, op := Go.Op.alloc 23, type := 0, pos := "law.go:241", after := #[], guard := none } : Oper)) rfl (fun K hK => ?_) ?_
          ·
           go_simp
           obtain ⟨WAea16_3, hWAea16_3⟩ : ∃ W, W = (Wea16_2.alloc (.cells #[.string ⟨#[]⟩, .string ⟨#[]⟩] 23)) := ⟨_, rfl⟩
           rw [← hWAea16_3]
           have Nn : Hid (RBlk WAea16_3 Wea16_2.heap.size (.string ⟨#[]⟩) (.string ⟨#[]⟩)) := Lib.hid (by rw [hWAea16_3]; exact RBlk.new Wea16_2 (.string ⟨#[]⟩) (.string ⟨#[]⟩))
           have gNn : w.heap.size ≤ Wea16_2.heap.size := HB.out.size
           have neNnRq : (W2.heap.size) ≠ Wea16_2.heap.size := Nat.ne_of_lt Rq.out.lt
           have neNnAa : (We1.heap.size) ≠ Wea16_2.heap.size := Nat.ne_of_lt Aa.out.lt
           have neNnBb : (We2.heap.size) ≠ Wea16_2.heap.size := Nat.ne_of_lt Bb.out.lt
           have neNnCc : (We4.heap.size) ≠ Wea16_2.heap.size := Nat.ne_of_lt Cc.out.lt
           have neNnAg : (Wea1.heap.size) ≠ Wea16_2.heap.size := Nat.ne_of_lt Ag.out.lt
           have neNnTw : (Wea2.heap.size) ≠ Wea16_2.heap.size := Nat.ne_of_lt Tw.out.lt
           have hk : (fun W => RBlk W (We1.heap.size) (.string q1) (.string q2)) WAea16_3 := by rw [hWAea16_3]; exact hHeld.alloc _
           have Rq : Hid (RBlk WAea16_3 (W2.heap.size) (.string q1) (.string q2)) := Lib.hid (by rw [hWAea16_3]; exact Rq.out.alloc _)
           have Aa : Hid (RBlk WAea16_3 (We1.heap.size) (.string q1) (.string q2)) := Lib.hid (by rw [hWAea16_3]; exact Aa.out.alloc _)
           have Bb : Hid (RBlk WAea16_3 (We2.heap.size) (.string q1) (.string q2)) := Lib.hid (by rw [hWAea16_3]; exact Bb.out.alloc _)
           have Cc : Hid (RBlk WAea16_3 (We4.heap.size) (.string fc1) (.string fc2)) := Lib.hid (by rw [hWAea16_3]; exact Cc.out.alloc _)
           have Ag : Hid (RBlk WAea16_3 (Wea1.heap.size) (.string q1) (.string q2)) := Lib.hid (by rw [hWAea16_3]; exact Ag.out.alloc _)
           have Tw : Hid (RBlk WAea16_3 (Wea2.heap.size) (.string q1) (.string q2)) := Lib.hid (by rw [hWAea16_3]; exact Tw.out.alloc _)
           have HB : Hid (Below w.heap.size w WAea16_3) := Lib.hid (by rw [hWAea16_3]; exact HB.out.alloc HB.out.size _)
           clear hWAea16_3
           refine hK.out _ _ ?_ (fun hHeld => ?_)
           ·
            exact hk
           clear hK K
           (try simp only [Act.put, List.setIfInBounds_toArray, List.set_cons_zero, List.set_cons_succ])
           clear hk
           refine wpAnyH_ready (rs := [8]) (by kernel_rfl) (by simp) ?_
           refine AllReadyH.cons (o := ({ dst := none, op := Go.Op.store 23 (Go.Operand.tmp 19) (Go.Operand.tmp 101), type := 0, pos := "law.go:241", after := #[{ on := 7, ground := Go.Ground.data }, { on := 5, ground := Go.Ground.data }, { on := 3, ground := Go.Ground.chain }, { on := 0, ground := Go.Ground.phase }, { on := 1, ground := Go.Ground.phase }, { on := 2, ground := Go.Ground.phase }, { on := 3, ground := Go.Ground.phase }, { on := 4, ground := Go.Ground.phase }, { on := 5, ground := Go.Ground.phase }, { on := 6, ground := Go.Ground.textOnly Go.Departure.lateStores }, { on := 7, ground := Go.Ground.phase }], guard := none } : Oper)) rfl (fun K hK => ?_) ?_
           ·
            have c0 := Nn.out.c0
            have c1 := Nn.out.c1
            have f0 := Nn.out.f 0
            have f1 := Nn.out.f 1
            have hs := Nn.out.s0 (.string ds)
            have d1 := hs.c1
            have g1 := hs.f 1
            go_simp
            have Nnn := Lib.hid (hs.s1 (.string ⟨#[49]⟩))
            have Rqn := Lib.hid ((Rq.out.other ⟨Wea16_2.heap.size, 0, none⟩ (.string ds) neNnRq).other ⟨Wea16_2.heap.size, 1, none⟩ (.string ⟨#[49]⟩) neNnRq)
            have Aan := Lib.hid ((Aa.out.other ⟨Wea16_2.heap.size, 0, none⟩ (.string ds) neNnAa).other ⟨Wea16_2.heap.size, 1, none⟩ (.string ⟨#[49]⟩) neNnAa)
            have Bbn := Lib.hid ((Bb.out.other ⟨Wea16_2.heap.size, 0, none⟩ (.string ds) neNnBb).other ⟨Wea16_2.heap.size, 1, none⟩ (.string ⟨#[49]⟩) neNnBb)
            have Ccn := Lib.hid ((Cc.out.other ⟨Wea16_2.heap.size, 0, none⟩ (.string ds) neNnCc).other ⟨Wea16_2.heap.size, 1, none⟩ (.string ⟨#[49]⟩) neNnCc)
            have Agn := Lib.hid ((Ag.out.other ⟨Wea16_2.heap.size, 0, none⟩ (.string ds) neNnAg).other ⟨Wea16_2.heap.size, 1, none⟩ (.string ⟨#[49]⟩) neNnAg)
            have Twn := Lib.hid ((Tw.out.other ⟨Wea16_2.heap.size, 0, none⟩ (.string ds) neNnTw).other ⟨Wea16_2.heap.size, 1, none⟩ (.string ⟨#[49]⟩) neNnTw)
            have HBn := Lib.hid ((HB.out.setCell (p := ⟨Wea16_2.heap.size, 0, none⟩) gNn (.string ds)).setCell (p := ⟨Wea16_2.heap.size, 1, none⟩) gNn (.string ⟨#[49]⟩))
            clear hs c0 c1 f0 f1 d1 g1
            have Nn := Nnn
            have Rq := Rqn
            have Aa := Aan
            have Bb := Bbn
            have Cc := Ccn
            have Ag := Agn
            have Tw := Twn
            have HB := HBn
            clear Nnn Rqn Aan Bbn Ccn Agn Twn HBn
            refine hK.out _ _ ?_ (fun hHeld => ?_)
            ·
             exact (hHeld.other ⟨Wea16_2.heap.size, 0, none⟩ (.string ds) neNnAa).other ⟨Wea16_2.heap.size, 1, none⟩ (.string ⟨#[49]⟩) neNnAa
            clear hK K
            (try simp only [Act.put, List.setIfInBounds_toArray, List.set_cons_zero, List.set_cons_succ])
            refine wpAnyH_take (i := 9) (oi := ({ dst := some 20, op := Go.Op.assign (Go.Operand.tmp 102), type := 32, pos := "law.go:241", after := #[{ on := 6, ground := Go.Ground.data }, { on := 8, ground := Go.Ground.chain }, { on := 0, ground := Go.Ground.phase }, { on := 1, ground := Go.Ground.phase }, { on := 2, ground := Go.Ground.phase }, { on := 3, ground := Go.Ground.phase }, { on := 4, ground := Go.Ground.phase }, { on := 5, ground := Go.Ground.phase }, { on := 6, ground := Go.Ground.phase }, { on := 7, ground := Go.Ground.phase }, { on := 8, ground := Go.Ground.phase }], guard := none } : Oper)) (v := ?v9_6ea_16_2) rfl (by kernel_rfl) (by kernel_rfl) (by kernel_rfl) (fun _ _ _ h => h) (Or.inl ⟨by rfl, ?hy9_6ea_16_2⟩) (by assumption) ?re9_6ea_16_2
            case hy9_6ea_16_2 => (intro w hSw; go_simp) <;> with_reducible rfl
            (try simp only [Act.put, List.setIfInBounds_toArray, List.set_cons_zero, List.set_cons_succ])
            refine wpAnyH_done (by kernel_rfl) ?_ _
            refine NoPanic.normal ?_
            generalize hWJ : ((WAea16_3.setCell ⟨Wea16_2.heap.size, 0, none⟩ (.string ds)).setCell ⟨Wea16_2.heap.size, 1, none⟩ (.string ⟨#[49]⟩)) = WJ at *
            clear hWJ
            generalize hgJ : Wea16_2.heap.size = gJ at *
            clear hgJ
            exact HJ gJ WJ (Lib.hid ⟨Rq.out, Aa.out, Bb.out, Cc.out, Ag.out, Tw.out, Nn.out, HB.out⟩)
           exact AllReadyH.nil
          exact AllReadyH.nil
         refine AllReadyH.cons (o := ({ dst := some 19, op := Go.Op.alloc 23, type := 0, pos := "law.go:241", after := #[], guard := none } : Oper)) rfl (fun K hK => ?_) ?_
         ·
          go_simp
          obtain ⟨WAea16_5, hWAea16_5⟩ : ∃ W, W = (Wea16_1.alloc (.cells #[.string ⟨#[]⟩, .string ⟨#[]⟩] 23)) := ⟨_, rfl⟩
          rw [← hWAea16_5]
          have Nn : Hid (RBlk WAea16_5 Wea16_1.heap.size (.string ⟨#[]⟩) (.string ⟨#[]⟩)) := Lib.hid (by rw [hWAea16_5]; exact RBlk.new Wea16_1 (.string ⟨#[]⟩) (.string ⟨#[]⟩))
          have gNn : w.heap.size ≤ Wea16_1.heap.size := HB.out.size
          have neNnRq : (W2.heap.size) ≠ Wea16_1.heap.size := Nat.ne_of_lt Rq.out.lt
          have neNnAa : (We1.heap.size) ≠ Wea16_1.heap.size := Nat.ne_of_lt Aa.out.lt
          have neNnBb : (We2.heap.size) ≠ Wea16_1.heap.size := Nat.ne_of_lt Bb.out.lt
          have neNnCc : (We4.heap.size) ≠ Wea16_1.heap.size := Nat.ne_of_lt Cc.out.lt
          have neNnAg : (Wea1.heap.size) ≠ Wea16_1.heap.size := Nat.ne_of_lt Ag.out.lt
          have neNnTw : (Wea2.heap.size) ≠ Wea16_1.heap.size := Nat.ne_of_lt Tw.out.lt
          have hk : (fun W => RBlk W (We1.heap.size) (.string q1) (.string q2)) WAea16_5 := by rw [hWAea16_5]; exact hHeld.alloc _
          have Rq : Hid (RBlk WAea16_5 (W2.heap.size) (.string q1) (.string q2)) := Lib.hid (by rw [hWAea16_5]; exact Rq.out.alloc _)
          have Aa : Hid (RBlk WAea16_5 (We1.heap.size) (.string q1) (.string q2)) := Lib.hid (by rw [hWAea16_5]; exact Aa.out.alloc _)
          have Bb : Hid (RBlk WAea16_5 (We2.heap.size) (.string q1) (.string q2)) := Lib.hid (by rw [hWAea16_5]; exact Bb.out.alloc _)
          have Cc : Hid (RBlk WAea16_5 (We4.heap.size) (.string fc1) (.string fc2)) := Lib.hid (by rw [hWAea16_5]; exact Cc.out.alloc _)
          have Ag : Hid (RBlk WAea16_5 (Wea1.heap.size) (.string q1) (.string q2)) := Lib.hid (by rw [hWAea16_5]; exact Ag.out.alloc _)
          have Tw : Hid (RBlk WAea16_5 (Wea2.heap.size) (.string q1) (.string q2)) := Lib.hid (by rw [hWAea16_5]; exact Tw.out.alloc _)
          have HB : Hid (Below w.heap.size w WAea16_5) := Lib.hid (by rw [hWAea16_5]; exact HB.out.alloc HB.out.size _)
          clear hWAea16_5
          refine hK.out _ _ ?_ (fun hHeld => ?_)
          ·
           exact hk
          clear hK K
          (try simp only [Act.put, List.setIfInBounds_toArray, List.set_cons_zero, List.set_cons_succ])
          clear hk
          refine wpAnyH_ready (rs := [3]) (by kernel_rfl) (by simp) ?_
          refine AllReadyH.cons (o := ({ dst := some 100, op := Go.Op.call { callee := Go.Callee.value (Go.Operand.func 39), args := #[Go.Operand.tmp 97, Go.Operand.tmp 99], argTypes := #[23, 23] }, type := 36, pos := "law.go:241", after := #[{ on := 0, ground := Go.Ground.data }, { on := 2, ground := Go.Ground.data }, { on := 2, ground := Go.Ground.chain }], guard := none } : Oper)) rfl (fun K hK => ?_) ?_
          ·
           go_simp
           go_at_call 39
           refine (Hcu.out _).mono ?_
           rintro e Wea16_6 ⟨rfl, B⟩
           have Rq := Lib.hid (Rq.out.keep B Rq.out.lt)
           have Aa := Lib.hid (Aa.out.keep B Aa.out.lt)
           have Bb := Lib.hid (Bb.out.keep B Bb.out.lt)
           have Cc := Lib.hid (Cc.out.keep B Cc.out.lt)
           have Ag := Lib.hid (Ag.out.keep B Ag.out.lt)
           have Tw := Lib.hid (Tw.out.keep B Tw.out.lt)
           have Nn := Lib.hid (Nn.out.keep B Nn.out.lt)
           have HB := Lib.hid (HB.out.trans (B.mono HB.out.size))
           (try go_wp2_with fail)
           refine hK.out _ _ ?_ (fun hHeld => ?_)
           ·
            exact hHeld.keep B hHeld.lt
           clear hK K
           (try simp only [Act.put, List.setIfInBounds_toArray, List.set_cons_zero, List.set_cons_succ])
           clear B
           refine wpAnyH_take (i := 4) (oi := ({ dst := some 96, op := Go.Op.move (Go.Operand.tmp 100), type := 36, pos := "law.go:241", after := #[{ on := 3, ground := Go.Ground.data }], guard := none } : Oper)) (v := ?v4_7ea_16_2) rfl (by kernel_rfl) (by kernel_rfl) (by kernel_rfl) (fun _ _ _ h => h) (Or.inl ⟨by rfl, ?hy4_7ea_16_2⟩) (by assumption) ?re4_7ea_16_2
           case hy4_7ea_16_2 => (intro w hSw; go_simp) <;> with_reducible rfl
           (try simp only [Act.put, List.setIfInBounds_toArray, List.set_cons_zero, List.set_cons_succ])
           refine wpAnyH_take (i := 5) (oi := ({ dst := some 101, op := Go.Op.extract (Go.Operand.tmp 96) 0, type := 23, pos := "law.go:241", after := #[{ on := 4, ground := Go.Ground.data }], guard := none } : Oper)) (v := ?v5_8ea_16_2) rfl (by kernel_rfl) (by kernel_rfl) (by kernel_rfl) (fun _ _ _ h => h) (Or.inl ⟨by rfl, ?hy5_8ea_16_2⟩) (by assumption) ?re5_8ea_16_2
           case hy5_8ea_16_2 => (intro w hSw; go_simp) <;> with_reducible rfl
           (try simp only [Act.put, List.setIfInBounds_toArray, List.set_cons_zero, List.set_cons_succ])
           refine wpAnyH_take (i := 6) (oi := ({ dst := some 102, op := Go.Op.extract (Go.Operand.tmp 96) 1, type := 32, pos := "law.go:241", after := #[{ on := 4, ground := Go.Ground.data }, { on := 8, ground := Go.Ground.gcOnly Go.Departure.lateStores }], guard := none } : Oper)) (v := ?v6_9ea_16_2) rfl (by kernel_rfl) (by kernel_rfl) (by kernel_rfl) (fun _ _ _ h => h) (Or.inl ⟨by rfl, ?hy6_9ea_16_2⟩) (by assumption) ?re6_9ea_16_2
           case hy6_9ea_16_2 => (intro w hSw; go_simp) <;> with_reducible rfl
           (try simp only [Act.put, List.setIfInBounds_toArray, List.set_cons_zero, List.set_cons_succ])
           refine wpAnyH_ready (rs := [8]) (by kernel_rfl) (by simp) ?_
           refine AllReadyH.cons (o := ({ dst := none, op := Go.Op.store 23 (Go.Operand.tmp 19) (Go.Operand.tmp 101), type := 0, pos := "law.go:241", after := #[{ on := 7, ground := Go.Ground.data }, { on := 5, ground := Go.Ground.data }, { on := 3, ground := Go.Ground.chain }, { on := 0, ground := Go.Ground.phase }, { on := 1, ground := Go.Ground.phase }, { on := 2, ground := Go.Ground.phase }, { on := 3, ground := Go.Ground.phase }, { on := 4, ground := Go.Ground.phase }, { on := 5, ground := Go.Ground.phase }, { on := 6, ground := Go.Ground.textOnly Go.Departure.lateStores }, { on := 7, ground := Go.Ground.phase }], guard := none } : Oper)) rfl (fun K hK => ?_) ?_
           ·
            have c0 := Nn.out.c0
            have c1 := Nn.out.c1
            have f0 := Nn.out.f 0
            have f1 := Nn.out.f 1
            have hs := Nn.out.s0 (.string ds)
            have d1 := hs.c1
            have g1 := hs.f 1
            go_simp
            have Nnn := Lib.hid (hs.s1 (.string ⟨#[49]⟩))
            have Rqn := Lib.hid ((Rq.out.other ⟨Wea16_1.heap.size, 0, none⟩ (.string ds) neNnRq).other ⟨Wea16_1.heap.size, 1, none⟩ (.string ⟨#[49]⟩) neNnRq)
            have Aan := Lib.hid ((Aa.out.other ⟨Wea16_1.heap.size, 0, none⟩ (.string ds) neNnAa).other ⟨Wea16_1.heap.size, 1, none⟩ (.string ⟨#[49]⟩) neNnAa)
            have Bbn := Lib.hid ((Bb.out.other ⟨Wea16_1.heap.size, 0, none⟩ (.string ds) neNnBb).other ⟨Wea16_1.heap.size, 1, none⟩ (.string ⟨#[49]⟩) neNnBb)
            have Ccn := Lib.hid ((Cc.out.other ⟨Wea16_1.heap.size, 0, none⟩ (.string ds) neNnCc).other ⟨Wea16_1.heap.size, 1, none⟩ (.string ⟨#[49]⟩) neNnCc)
            have Agn := Lib.hid ((Ag.out.other ⟨Wea16_1.heap.size, 0, none⟩ (.string ds) neNnAg).other ⟨Wea16_1.heap.size, 1, none⟩ (.string ⟨#[49]⟩) neNnAg)
            have Twn := Lib.hid ((Tw.out.other ⟨Wea16_1.heap.size, 0, none⟩ (.string ds) neNnTw).other ⟨Wea16_1.heap.size, 1, none⟩ (.string ⟨#[49]⟩) neNnTw)
            have HBn := Lib.hid ((HB.out.setCell (p := ⟨Wea16_1.heap.size, 0, none⟩) gNn (.string ds)).setCell (p := ⟨Wea16_1.heap.size, 1, none⟩) gNn (.string ⟨#[49]⟩))
            clear hs c0 c1 f0 f1 d1 g1
            have Nn := Nnn
            have Rq := Rqn
            have Aa := Aan
            have Bb := Bbn
            have Cc := Ccn
            have Ag := Agn
            have Tw := Twn
            have HB := HBn
            clear Nnn Rqn Aan Bbn Ccn Agn Twn HBn
            refine hK.out _ _ ?_ (fun hHeld => ?_)
            ·
             exact (hHeld.other ⟨Wea16_1.heap.size, 0, none⟩ (.string ds) neNnAa).other ⟨Wea16_1.heap.size, 1, none⟩ (.string ⟨#[49]⟩) neNnAa
            clear hK K
            (try simp only [Act.put, List.setIfInBounds_toArray, List.set_cons_zero, List.set_cons_succ])
            refine wpAnyH_take (i := 9) (oi := ({ dst := some 20, op := Go.Op.assign (Go.Operand.tmp 102), type := 32, pos := "law.go:241", after := #[{ on := 6, ground := Go.Ground.data }, { on := 8, ground := Go.Ground.chain }, { on := 0, ground := Go.Ground.phase }, { on := 1, ground := Go.Ground.phase }, { on := 2, ground := Go.Ground.phase }, { on := 3, ground := Go.Ground.phase }, { on := 4, ground := Go.Ground.phase }, { on := 5, ground := Go.Ground.phase }, { on := 6, ground := Go.Ground.phase }, { on := 7, ground := Go.Ground.phase }, { on := 8, ground := Go.Ground.phase }], guard := none } : Oper)) (v := ?v9_10ea_16_2) rfl (by kernel_rfl) (by kernel_rfl) (by kernel_rfl) (fun _ _ _ h => h) (Or.inl ⟨by rfl, ?hy9_10ea_16_2⟩) (by assumption) ?re9_10ea_16_2
            case hy9_10ea_16_2 => (intro w hSw; go_simp) <;> with_reducible rfl
            (try simp only [Act.put, List.setIfInBounds_toArray, List.set_cons_zero, List.set_cons_succ])
            refine wpAnyH_done (by kernel_rfl) ?_ _
            refine NoPanic.normal ?_
            generalize hWJ : ((Wea16_6.setCell ⟨Wea16_1.heap.size, 0, none⟩ (.string ds)).setCell ⟨Wea16_1.heap.size, 1, none⟩ (.string ⟨#[49]⟩)) = WJ at *
            clear hWJ
            generalize hgJ : Wea16_1.heap.size = gJ at *
            clear hgJ
            exact HJ gJ WJ (Lib.hid ⟨Rq.out, Aa.out, Bb.out, Cc.out, Ag.out, Tw.out, Nn.out, HB.out⟩)
           exact AllReadyH.nil
          exact AllReadyH.nil
         exact AllReadyH.nil
        refine AllReadyH.cons (o := ({ dst := some 19, op := Go.Op.alloc 23, type := 0, pos := "law.go:241", after := #[], guard := none } : Oper)) rfl (fun K hK => ?_) ?_
        ·
         go_simp
         obtain ⟨WAea16_8, hWAea16_8⟩ : ∃ W, W = (W0ea16.alloc (.cells #[.string ⟨#[]⟩, .string ⟨#[]⟩] 23)).drew := ⟨_, rfl⟩
         rw [← hWAea16_8]
         have Nn : Hid (RBlk WAea16_8 W0ea16.heap.size (.string ⟨#[]⟩) (.string ⟨#[]⟩)) := Lib.hid (by rw [hWAea16_8]; exact RBlk.new W0ea16 (.string ⟨#[]⟩) (.string ⟨#[]⟩))
         have gNn : w.heap.size ≤ W0ea16.heap.size := HB.out.size
         have neNnRq : (W2.heap.size) ≠ W0ea16.heap.size := Nat.ne_of_lt Rq.out.lt
         have neNnAa : (We1.heap.size) ≠ W0ea16.heap.size := Nat.ne_of_lt Aa.out.lt
         have neNnBb : (We2.heap.size) ≠ W0ea16.heap.size := Nat.ne_of_lt Bb.out.lt
         have neNnCc : (We4.heap.size) ≠ W0ea16.heap.size := Nat.ne_of_lt Cc.out.lt
         have neNnAg : (Wea1.heap.size) ≠ W0ea16.heap.size := Nat.ne_of_lt Ag.out.lt
         have neNnTw : (Wea2.heap.size) ≠ W0ea16.heap.size := Nat.ne_of_lt Tw.out.lt
         have hk : (fun W => RBlk W (We1.heap.size) (.string q1) (.string q2)) WAea16_8 := by rw [hWAea16_8]; exact hHeld.alloc _
         have Rq : Hid (RBlk WAea16_8 (W2.heap.size) (.string q1) (.string q2)) := Lib.hid (by rw [hWAea16_8]; exact Rq.out.alloc _)
         have Aa : Hid (RBlk WAea16_8 (We1.heap.size) (.string q1) (.string q2)) := Lib.hid (by rw [hWAea16_8]; exact Aa.out.alloc _)
         have Bb : Hid (RBlk WAea16_8 (We2.heap.size) (.string q1) (.string q2)) := Lib.hid (by rw [hWAea16_8]; exact Bb.out.alloc _)
         have Cc : Hid (RBlk WAea16_8 (We4.heap.size) (.string fc1) (.string fc2)) := Lib.hid (by rw [hWAea16_8]; exact Cc.out.alloc _)
         have Ag : Hid (RBlk WAea16_8 (Wea1.heap.size) (.string q1) (.string q2)) := Lib.hid (by rw [hWAea16_8]; exact Ag.out.alloc _)
         have Tw : Hid (RBlk WAea16_8 (Wea2.heap.size) (.string q1) (.string q2)) := Lib.hid (by rw [hWAea16_8]; exact Tw.out.alloc _)
         have HB : Hid (Below w.heap.size w WAea16_8) := Lib.hid (by rw [hWAea16_8]; exact HB.out.alloc HB.out.size _)
         clear hWAea16_8
         refine hK.out _ _ ?_ (fun hHeld => ?_)
         ·
          exact hk
         clear hK K
         (try simp only [Act.put, List.setIfInBounds_toArray, List.set_cons_zero, List.set_cons_succ])
         clear hk
         refine wpAnyH_ready (rs := [2]) (by kernel_rfl) (by simp) ?_
         refine AllReadyH.cons (o := ({ dst := some 99, op := Go.Op.call { callee := Go.Callee.value (Go.Operand.func 41), args := #[Go.Operand.tmp 98, Go.Operand.const (Go.Value.string { data := #[49] })], argTypes := #[9, 9] }, type := 23, pos := "law.go:241", after := #[{ on := 1, ground := Go.Ground.data }], guard := none } : Oper)) rfl (fun K hK => ?_) ?_
         ·
          go_simp
          go_at_call 41
          refine (is_any _ _ _).mono ?_
          rintro e Wea16_9 ⟨rfl, B⟩
          have Rq := Lib.hid (Rq.out.keep B Rq.out.lt)
          have Aa := Lib.hid (Aa.out.keep B Aa.out.lt)
          have Bb := Lib.hid (Bb.out.keep B Bb.out.lt)
          have Cc := Lib.hid (Cc.out.keep B Cc.out.lt)
          have Ag := Lib.hid (Ag.out.keep B Ag.out.lt)
          have Tw := Lib.hid (Tw.out.keep B Tw.out.lt)
          have Nn := Lib.hid (Nn.out.keep B Nn.out.lt)
          have HB := Lib.hid (HB.out.trans (B.mono HB.out.size))
          (try go_wp2_with fail)
          refine hK.out _ _ ?_ (fun hHeld => ?_)
          ·
           exact hHeld.keep B hHeld.lt
          clear hK K
          (try simp only [Act.put, List.setIfInBounds_toArray, List.set_cons_zero, List.set_cons_succ])
          clear B
          refine wpAnyH_ready (rs := [3]) (by kernel_rfl) (by simp) ?_
          refine AllReadyH.cons (o := ({ dst := some 100, op := Go.Op.call { callee := Go.Callee.value (Go.Operand.func 39), args := #[Go.Operand.tmp 97, Go.Operand.tmp 99], argTypes := #[23, 23] }, type := 36, pos := "law.go:241", after := #[{ on := 0, ground := Go.Ground.data }, { on := 2, ground := Go.Ground.data }, { on := 2, ground := Go.Ground.chain }], guard := none } : Oper)) rfl (fun K hK => ?_) ?_
          ·
           go_simp
           go_at_call 39
           refine (Hcu.out _).mono ?_
           rintro e Wea16_10 ⟨rfl, B⟩
           have Rq := Lib.hid (Rq.out.keep B Rq.out.lt)
           have Aa := Lib.hid (Aa.out.keep B Aa.out.lt)
           have Bb := Lib.hid (Bb.out.keep B Bb.out.lt)
           have Cc := Lib.hid (Cc.out.keep B Cc.out.lt)
           have Ag := Lib.hid (Ag.out.keep B Ag.out.lt)
           have Tw := Lib.hid (Tw.out.keep B Tw.out.lt)
           have Nn := Lib.hid (Nn.out.keep B Nn.out.lt)
           have HB := Lib.hid (HB.out.trans (B.mono HB.out.size))
           (try go_wp2_with fail)
           refine hK.out _ _ ?_ (fun hHeld => ?_)
           ·
            exact hHeld.keep B hHeld.lt
           clear hK K
           (try simp only [Act.put, List.setIfInBounds_toArray, List.set_cons_zero, List.set_cons_succ])
           clear B
           refine wpAnyH_take (i := 4) (oi := ({ dst := some 96, op := Go.Op.move (Go.Operand.tmp 100), type := 36, pos := "law.go:241", after := #[{ on := 3, ground := Go.Ground.data }], guard := none } : Oper)) (v := ?v4_11ea_16_2) rfl (by kernel_rfl) (by kernel_rfl) (by kernel_rfl) (fun _ _ _ h => h) (Or.inl ⟨by rfl, ?hy4_11ea_16_2⟩) (by assumption) ?re4_11ea_16_2
           case hy4_11ea_16_2 => (intro w hSw; go_simp) <;> with_reducible rfl
           (try simp only [Act.put, List.setIfInBounds_toArray, List.set_cons_zero, List.set_cons_succ])
           refine wpAnyH_take (i := 5) (oi := ({ dst := some 101, op := Go.Op.extract (Go.Operand.tmp 96) 0, type := 23, pos := "law.go:241", after := #[{ on := 4, ground := Go.Ground.data }], guard := none } : Oper)) (v := ?v5_12ea_16_2) rfl (by kernel_rfl) (by kernel_rfl) (by kernel_rfl) (fun _ _ _ h => h) (Or.inl ⟨by rfl, ?hy5_12ea_16_2⟩) (by assumption) ?re5_12ea_16_2
           case hy5_12ea_16_2 => (intro w hSw; go_simp) <;> with_reducible rfl
           (try simp only [Act.put, List.setIfInBounds_toArray, List.set_cons_zero, List.set_cons_succ])
           refine wpAnyH_take (i := 6) (oi := ({ dst := some 102, op := Go.Op.extract (Go.Operand.tmp 96) 1, type := 32, pos := "law.go:241", after := #[{ on := 4, ground := Go.Ground.data }, { on := 8, ground := Go.Ground.gcOnly Go.Departure.lateStores }], guard := none } : Oper)) (v := ?v6_13ea_16_2) rfl (by kernel_rfl) (by kernel_rfl) (by kernel_rfl) (fun _ _ _ h => h) (Or.inl ⟨by rfl, ?hy6_13ea_16_2⟩) (by assumption) ?re6_13ea_16_2
           case hy6_13ea_16_2 => (intro w hSw; go_simp) <;> with_reducible rfl
           (try simp only [Act.put, List.setIfInBounds_toArray, List.set_cons_zero, List.set_cons_succ])
           refine wpAnyH_ready (rs := [8]) (by kernel_rfl) (by simp) ?_
           refine AllReadyH.cons (o := ({ dst := none, op := Go.Op.store 23 (Go.Operand.tmp 19) (Go.Operand.tmp 101), type := 0, pos := "law.go:241", after := #[{ on := 7, ground := Go.Ground.data }, { on := 5, ground := Go.Ground.data }, { on := 3, ground := Go.Ground.chain }, { on := 0, ground := Go.Ground.phase }, { on := 1, ground := Go.Ground.phase }, { on := 2, ground := Go.Ground.phase }, { on := 3, ground := Go.Ground.phase }, { on := 4, ground := Go.Ground.phase }, { on := 5, ground := Go.Ground.phase }, { on := 6, ground := Go.Ground.textOnly Go.Departure.lateStores }, { on := 7, ground := Go.Ground.phase }], guard := none } : Oper)) rfl (fun K hK => ?_) ?_
           ·
            have c0 := Nn.out.c0
            have c1 := Nn.out.c1
            have f0 := Nn.out.f 0
            have f1 := Nn.out.f 1
            have hs := Nn.out.s0 (.string ds)
            have d1 := hs.c1
            have g1 := hs.f 1
            go_simp
            have Nnn := Lib.hid (hs.s1 (.string ⟨#[49]⟩))
            have Rqn := Lib.hid ((Rq.out.other ⟨W0ea16.heap.size, 0, none⟩ (.string ds) neNnRq).other ⟨W0ea16.heap.size, 1, none⟩ (.string ⟨#[49]⟩) neNnRq)
            have Aan := Lib.hid ((Aa.out.other ⟨W0ea16.heap.size, 0, none⟩ (.string ds) neNnAa).other ⟨W0ea16.heap.size, 1, none⟩ (.string ⟨#[49]⟩) neNnAa)
            have Bbn := Lib.hid ((Bb.out.other ⟨W0ea16.heap.size, 0, none⟩ (.string ds) neNnBb).other ⟨W0ea16.heap.size, 1, none⟩ (.string ⟨#[49]⟩) neNnBb)
            have Ccn := Lib.hid ((Cc.out.other ⟨W0ea16.heap.size, 0, none⟩ (.string ds) neNnCc).other ⟨W0ea16.heap.size, 1, none⟩ (.string ⟨#[49]⟩) neNnCc)
            have Agn := Lib.hid ((Ag.out.other ⟨W0ea16.heap.size, 0, none⟩ (.string ds) neNnAg).other ⟨W0ea16.heap.size, 1, none⟩ (.string ⟨#[49]⟩) neNnAg)
            have Twn := Lib.hid ((Tw.out.other ⟨W0ea16.heap.size, 0, none⟩ (.string ds) neNnTw).other ⟨W0ea16.heap.size, 1, none⟩ (.string ⟨#[49]⟩) neNnTw)
            have HBn := Lib.hid ((HB.out.setCell (p := ⟨W0ea16.heap.size, 0, none⟩) gNn (.string ds)).setCell (p := ⟨W0ea16.heap.size, 1, none⟩) gNn (.string ⟨#[49]⟩))
            clear hs c0 c1 f0 f1 d1 g1
            have Nn := Nnn
            have Rq := Rqn
            have Aa := Aan
            have Bb := Bbn
            have Cc := Ccn
            have Ag := Agn
            have Tw := Twn
            have HB := HBn
            clear Nnn Rqn Aan Bbn Ccn Agn Twn HBn
            refine hK.out _ _ ?_ (fun hHeld => ?_)
            ·
             exact (hHeld.other ⟨W0ea16.heap.size, 0, none⟩ (.string ds) neNnAa).other ⟨W0ea16.heap.size, 1, none⟩ (.string ⟨#[49]⟩) neNnAa
            clear hK K
            (try simp only [Act.put, List.setIfInBounds_toArray, List.set_cons_zero, List.set_cons_succ])
            refine wpAnyH_take (i := 9) (oi := ({ dst := some 20, op := Go.Op.assign (Go.Operand.tmp 102), type := 32, pos := "law.go:241", after := #[{ on := 6, ground := Go.Ground.data }, { on := 8, ground := Go.Ground.chain }, { on := 0, ground := Go.Ground.phase }, { on := 1, ground := Go.Ground.phase }, { on := 2, ground := Go.Ground.phase }, { on := 3, ground := Go.Ground.phase }, { on := 4, ground := Go.Ground.phase }, { on := 5, ground := Go.Ground.phase }, { on := 6, ground := Go.Ground.phase }, { on := 7, ground := Go.Ground.phase }, { on := 8, ground := Go.Ground.phase }], guard := none } : Oper)) (v := ?v9_14ea_16_2) rfl (by kernel_rfl) (by kernel_rfl) (by kernel_rfl) (fun _ _ _ h => h) (Or.inl ⟨by rfl, ?hy9_14ea_16_2⟩) (by assumption) ?re9_14ea_16_2
            case hy9_14ea_16_2 => (intro w hSw; go_simp) <;> with_reducible rfl
            (try simp only [Act.put, List.setIfInBounds_toArray, List.set_cons_zero, List.set_cons_succ])
            refine wpAnyH_done (by kernel_rfl) ?_ _
            refine NoPanic.normal ?_
            generalize hWJ : ((Wea16_10.setCell ⟨W0ea16.heap.size, 0, none⟩ (.string ds)).setCell ⟨W0ea16.heap.size, 1, none⟩ (.string ⟨#[49]⟩)) = WJ at *
            clear hWJ
            generalize hgJ : W0ea16.heap.size = gJ at *
            clear hgJ
            exact HJ gJ WJ (Lib.hid ⟨Rq.out, Aa.out, Bb.out, Cc.out, Ag.out, Tw.out, Nn.out, HB.out⟩)
           exact AllReadyH.nil
          exact AllReadyH.nil
         exact AllReadyH.nil
        exact AllReadyH.nil
       case r =>
        clear Rq Aa Bb Cc Ag Tw HB
        intro gJea16 WJea16 hF
        obtain ⟨Rq', Aa', Bb', Cc', Ag', Tw', Nn', HB'⟩ := hF.out
        have Rq := Lib.hid Rq'
        have Aa := Lib.hid Aa'
        have Bb := Lib.hid Bb'
        have Cc := Lib.hid Cc'
        have Ag := Lib.hid Ag'
        have Tw := Lib.hid Tw'
        have Nn := Lib.hid Nn'
        have HB := Lib.hid HB'
        clear hF Rq' Aa' Bb' Cc' Ag' Tw' Nn' HB'
        have Aac0 := Aa.out.c0
        have Aac1 := Aa.out.c1
        have Bbc0 := Bb.out.c0
        have Bbc1 := Bb.out.c1
        (try go_wp2_with fail)
        clear Aac0 Aac1 Bbc0 Bbc1
        go_at_call 40
        refine (Hcs.out _).mono ?_
        rintro e Web1 ⟨rfl, B⟩
        have Rqn := Lib.hid ((Rq.out.keep B Rq.out.lt).alloc (.cells #[(.string ⟨#[48]⟩), (.string ⟨#[49]⟩)] 23))
        have Aan := Lib.hid ((Aa.out.keep B Aa.out.lt).alloc (.cells #[(.string ⟨#[48]⟩), (.string ⟨#[49]⟩)] 23))
        have Bbn := Lib.hid ((Bb.out.keep B Bb.out.lt).alloc (.cells #[(.string ⟨#[48]⟩), (.string ⟨#[49]⟩)] 23))
        have Ccn := Lib.hid ((Cc.out.keep B Cc.out.lt).alloc (.cells #[(.string ⟨#[48]⟩), (.string ⟨#[49]⟩)] 23))
        have Agn := Lib.hid ((Ag.out.keep B Ag.out.lt).alloc (.cells #[(.string ⟨#[48]⟩), (.string ⟨#[49]⟩)] 23))
        have Twn := Lib.hid ((Tw.out.keep B Tw.out.lt).alloc (.cells #[(.string ⟨#[48]⟩), (.string ⟨#[49]⟩)] 23))
        have Nnn := Lib.hid ((Nn.out.keep B Nn.out.lt).alloc (.cells #[(.string ⟨#[48]⟩), (.string ⟨#[49]⟩)] 23))
        have HBn := Lib.hid ((HB.out.trans (B.mono HB.out.size)).alloc (HB.out.trans (B.mono HB.out.size)).size (.cells #[(.string ⟨#[48]⟩), (.string ⟨#[49]⟩)] 23))
        clear Rq Aa Bb Cc Ag Tw Nn HB
        have Rq := Rqn
        have Aa := Aan
        have Bb := Bbn
        have Cc := Ccn
        have Ag := Agn
        have Tw := Twn
        have Nn := Nnn
        have HB := HBn
        clear Rqn Aan Bbn Ccn Agn Twn Nnn HBn
        have Wd := Lib.hid (RBlk.new Web1 (.string ⟨#[48]⟩) (.string ⟨#[49]⟩))
        clear B
        have Aac0 := Aa.out.c0
        have Aac1 := Aa.out.c1
        have Rqc0 := Rq.out.c0
        have Rqc1 := Rq.out.c1
        (try go_wp2_with fail)
        clear Aac0 Aac1 Rqc0 Rqc1
        go_at_call 20
        refine (Hk1.out _).mono ?_
        rintro e Web2 ⟨rfl, B⟩
        have Rqn := Lib.hid ((Rq.out.keep B Rq.out.lt))
        have Aan := Lib.hid ((Aa.out.keep B Aa.out.lt))
        have Bbn := Lib.hid ((Bb.out.keep B Bb.out.lt))
        have Ccn := Lib.hid ((Cc.out.keep B Cc.out.lt))
        have Agn := Lib.hid ((Ag.out.keep B Ag.out.lt))
        have Twn := Lib.hid ((Tw.out.keep B Tw.out.lt))
        have Nnn := Lib.hid ((Nn.out.keep B Nn.out.lt))
        have Wdn := Lib.hid ((Wd.out.keep B Wd.out.lt))
        have HBn := Lib.hid (HB.out.trans (B.mono HB.out.size))
        clear Rq Aa Bb Cc Ag Tw Nn Wd HB
        have Rq := Rqn
        have Aa := Aan
        have Bb := Bbn
        have Cc := Ccn
        have Ag := Agn
        have Tw := Twn
        have Nn := Nnn
        have Wd := Wdn
        have HB := HBn
        clear Rqn Aan Bbn Ccn Agn Twn Nnn Wdn HBn
        clear B
        (try go_wp2_with fail)
        by_cases hp0 : p = 0
        ·
         have e0 := hts.out hp0
         subst hp0 e0
         go_at_call 41
         refine (is_any _ _ _).mono ?_
         rintro e Wec1 ⟨rfl, B⟩
         have Rqlt := (Rq.out.keep B Rq.out.lt).lt
         have Aalt := (Aa.out.keep B Aa.out.lt).lt
         have Bblt := (Bb.out.keep B Bb.out.lt).lt
         have Cclt := (Cc.out.keep B Cc.out.lt).lt
         have Aglt := (Ag.out.keep B Ag.out.lt).lt
         have Twlt := (Tw.out.keep B Tw.out.lt).lt
         have Nnlt := (Nn.out.keep B Nn.out.lt).lt
         have Wdlt := (Wd.out.keep B Wd.out.lt).lt
         have gWt : w.heap.size ≤ Wec1.heap.size := (HB.out.trans (B.mono HB.out.size)).size
         have Rqn := Lib.hid ((Rq.out.keep B Rq.out.lt).alloc (.cells #[(.string ⟨#[49]⟩), (.string ⟨#[49]⟩)] 23))
         have Aan := Lib.hid ((Aa.out.keep B Aa.out.lt).alloc (.cells #[(.string ⟨#[49]⟩), (.string ⟨#[49]⟩)] 23))
         have Bbn := Lib.hid ((Bb.out.keep B Bb.out.lt).alloc (.cells #[(.string ⟨#[49]⟩), (.string ⟨#[49]⟩)] 23))
         have Ccn := Lib.hid ((Cc.out.keep B Cc.out.lt).alloc (.cells #[(.string ⟨#[49]⟩), (.string ⟨#[49]⟩)] 23))
         have Agn := Lib.hid ((Ag.out.keep B Ag.out.lt).alloc (.cells #[(.string ⟨#[49]⟩), (.string ⟨#[49]⟩)] 23))
         have Twn := Lib.hid ((Tw.out.keep B Tw.out.lt).alloc (.cells #[(.string ⟨#[49]⟩), (.string ⟨#[49]⟩)] 23))
         have Nnn := Lib.hid ((Nn.out.keep B Nn.out.lt).alloc (.cells #[(.string ⟨#[49]⟩), (.string ⟨#[49]⟩)] 23))
         have Wdn := Lib.hid ((Wd.out.keep B Wd.out.lt).alloc (.cells #[(.string ⟨#[49]⟩), (.string ⟨#[49]⟩)] 23))
         have HBn := Lib.hid ((HB.out.trans (B.mono HB.out.size)).alloc (HB.out.trans (B.mono HB.out.size)).size (.cells #[(.string ⟨#[49]⟩), (.string ⟨#[49]⟩)] 23))
         clear Rq Aa Bb Cc Ag Tw Nn Wd HB
         have Rq := Rqn
         have Aa := Aan
         have Bb := Bbn
         have Cc := Ccn
         have Ag := Agn
         have Tw := Twn
         have Nn := Nnn
         have Wd := Wdn
         have HB := HBn
         clear Rqn Aan Bbn Ccn Agn Twn Nnn Wdn HBn
         have Wt := Lib.hid (RBlk.new Wec1 (.string ⟨#[49]⟩) (.string ⟨#[49]⟩))
         clear B
         have neRq : (W2.heap.size) ≠ Wec1.heap.size := Nat.ne_of_lt (by have := Rq.out.lt; have hl := Rqlt; exact hl)
         have neAa : (We1.heap.size) ≠ Wec1.heap.size := Nat.ne_of_lt (by have := Aa.out.lt; have hl := Aalt; exact hl)
         have neBb : (We2.heap.size) ≠ Wec1.heap.size := Nat.ne_of_lt (by have := Bb.out.lt; have hl := Bblt; exact hl)
         have neCc : (We4.heap.size) ≠ Wec1.heap.size := Nat.ne_of_lt (by have := Cc.out.lt; have hl := Cclt; exact hl)
         have neAg : (Wea1.heap.size) ≠ Wec1.heap.size := Nat.ne_of_lt (by have := Ag.out.lt; have hl := Aglt; exact hl)
         have neTw : (Wea2.heap.size) ≠ Wec1.heap.size := Nat.ne_of_lt (by have := Tw.out.lt; have hl := Twlt; exact hl)
         have neNn : (gJea16) ≠ Wec1.heap.size := Nat.ne_of_lt (by have := Nn.out.lt; have hl := Nnlt; exact hl)
         have neWd : (Web1.heap.size) ≠ Wec1.heap.size := Nat.ne_of_lt (by have := Wd.out.lt; have hl := Wdlt; exact hl)
         (try go_wp2_with fail)
         go_at_call 41
         refine (is_any _ _ _).mono ?_
         rintro e ECS2 ⟨rfl, B⟩
         have Rqn := Lib.hid ((Rq.out.keep B Rq.out.lt))
         have Aan := Lib.hid ((Aa.out.keep B Aa.out.lt))
         have Bbn := Lib.hid ((Bb.out.keep B Bb.out.lt))
         have Ccn := Lib.hid ((Cc.out.keep B Cc.out.lt))
         have Agn := Lib.hid ((Ag.out.keep B Ag.out.lt))
         have Twn := Lib.hid ((Tw.out.keep B Tw.out.lt))
         have Nnn := Lib.hid ((Nn.out.keep B Nn.out.lt))
         have Wdn := Lib.hid ((Wd.out.keep B Wd.out.lt))
         have Wtn := Lib.hid ((Wt.out.keep B Wt.out.lt))
         have HBn := Lib.hid (HB.out.trans (B.mono HB.out.size))
         clear Rq Aa Bb Cc Ag Tw Nn Wd Wt HB
         have Rq := Rqn
         have Aa := Aan
         have Bb := Bbn
         have Cc := Ccn
         have Ag := Agn
         have Tw := Twn
         have Nn := Nnn
         have Wd := Wdn
         have Wt := Wtn
         have HB := HBn
         clear Rqn Aan Bbn Ccn Agn Twn Nnn Wdn Wtn HBn
         clear B
         have c0 := Wt.out.c0
         have c1 := Wt.out.c1
         have f0 := Wt.out.f 0
         have f1 := Wt.out.f 1
         have hs := Wt.out.s0 (.string ⟨#[49]⟩)
         have d1 := hs.c1
         have g1 := hs.f 1
         have Wtn := Lib.hid (hs.s1 (.string ⟨#[49]⟩))
         have Rqn := Lib.hid ((Rq.out.other ⟨Wec1.heap.size, 0, none⟩ (.string ⟨#[49]⟩) neRq).other ⟨Wec1.heap.size, 1, none⟩ (.string ⟨#[49]⟩) neRq)
         have Aan := Lib.hid ((Aa.out.other ⟨Wec1.heap.size, 0, none⟩ (.string ⟨#[49]⟩) neAa).other ⟨Wec1.heap.size, 1, none⟩ (.string ⟨#[49]⟩) neAa)
         have Bbn := Lib.hid ((Bb.out.other ⟨Wec1.heap.size, 0, none⟩ (.string ⟨#[49]⟩) neBb).other ⟨Wec1.heap.size, 1, none⟩ (.string ⟨#[49]⟩) neBb)
         have Ccn := Lib.hid ((Cc.out.other ⟨Wec1.heap.size, 0, none⟩ (.string ⟨#[49]⟩) neCc).other ⟨Wec1.heap.size, 1, none⟩ (.string ⟨#[49]⟩) neCc)
         have Agn := Lib.hid ((Ag.out.other ⟨Wec1.heap.size, 0, none⟩ (.string ⟨#[49]⟩) neAg).other ⟨Wec1.heap.size, 1, none⟩ (.string ⟨#[49]⟩) neAg)
         have Twn := Lib.hid ((Tw.out.other ⟨Wec1.heap.size, 0, none⟩ (.string ⟨#[49]⟩) neTw).other ⟨Wec1.heap.size, 1, none⟩ (.string ⟨#[49]⟩) neTw)
         have Nnn := Lib.hid ((Nn.out.other ⟨Wec1.heap.size, 0, none⟩ (.string ⟨#[49]⟩) neNn).other ⟨Wec1.heap.size, 1, none⟩ (.string ⟨#[49]⟩) neNn)
         have Wdn := Lib.hid ((Wd.out.other ⟨Wec1.heap.size, 0, none⟩ (.string ⟨#[49]⟩) neWd).other ⟨Wec1.heap.size, 1, none⟩ (.string ⟨#[49]⟩) neWd)
         have HBn := Lib.hid ((HB.out.setCell (p := ⟨Wec1.heap.size, 0, none⟩) gWt (.string ⟨#[49]⟩)).setCell (p := ⟨Wec1.heap.size, 1, none⟩) gWt (.string ⟨#[49]⟩))
         clear hs
         go_wp2_with fail
         clear c0 c1 f0 f1 d1 g1 Rq Aa Bb Cc Ag Tw Nn Wd Wt HB
         have Rq := Rqn
         have Aa := Aan
         have Bb := Bbn
         have Cc := Ccn
         have Ag := Agn
         have Tw := Twn
         have Nn := Nnn
         have Wd := Wdn
         have Wt := Wtn
         have HB := HBn
         clear Rqn Aan Bbn Ccn Agn Twn Nnn Wdn Wtn HBn
         go_at_call 41
         refine (is_any _ _ _).mono ?_
         rintro e ECS3 ⟨rfl, B⟩
         have Rqn := Lib.hid ((Rq.out.keep B Rq.out.lt))
         have Aan := Lib.hid ((Aa.out.keep B Aa.out.lt))
         have Bbn := Lib.hid ((Bb.out.keep B Bb.out.lt))
         have Ccn := Lib.hid ((Cc.out.keep B Cc.out.lt))
         have Agn := Lib.hid ((Ag.out.keep B Ag.out.lt))
         have Twn := Lib.hid ((Tw.out.keep B Tw.out.lt))
         have Nnn := Lib.hid ((Nn.out.keep B Nn.out.lt))
         have Wdn := Lib.hid ((Wd.out.keep B Wd.out.lt))
         have Wtn := Lib.hid ((Wt.out.keep B Wt.out.lt))
         have HBn := Lib.hid (HB.out.trans (B.mono HB.out.size))
         clear Rq Aa Bb Cc Ag Tw Nn Wd Wt HB
         have Rq := Rqn
         have Aa := Aan
         have Bb := Bbn
         have Cc := Ccn
         have Ag := Agn
         have Tw := Twn
         have Nn := Nnn
         have Wd := Wdn
         have Wt := Wtn
         have HB := HBn
         clear Rqn Aan Bbn Ccn Agn Twn Nnn Wdn Wtn HBn
         clear B
         have c0 := Wt.out.c0
         have c1 := Wt.out.c1
         have f0 := Wt.out.f 0
         have f1 := Wt.out.f 1
         have hs := Wt.out.s0 (.string ⟨#[48]⟩)
         have d1 := hs.c1
         have g1 := hs.f 1
         have Wtn := Lib.hid (hs.s1 (.string ⟨#[49]⟩))
         have Rqn := Lib.hid ((Rq.out.other ⟨Wec1.heap.size, 0, none⟩ (.string ⟨#[48]⟩) neRq).other ⟨Wec1.heap.size, 1, none⟩ (.string ⟨#[49]⟩) neRq)
         have Aan := Lib.hid ((Aa.out.other ⟨Wec1.heap.size, 0, none⟩ (.string ⟨#[48]⟩) neAa).other ⟨Wec1.heap.size, 1, none⟩ (.string ⟨#[49]⟩) neAa)
         have Bbn := Lib.hid ((Bb.out.other ⟨Wec1.heap.size, 0, none⟩ (.string ⟨#[48]⟩) neBb).other ⟨Wec1.heap.size, 1, none⟩ (.string ⟨#[49]⟩) neBb)
         have Ccn := Lib.hid ((Cc.out.other ⟨Wec1.heap.size, 0, none⟩ (.string ⟨#[48]⟩) neCc).other ⟨Wec1.heap.size, 1, none⟩ (.string ⟨#[49]⟩) neCc)
         have Agn := Lib.hid ((Ag.out.other ⟨Wec1.heap.size, 0, none⟩ (.string ⟨#[48]⟩) neAg).other ⟨Wec1.heap.size, 1, none⟩ (.string ⟨#[49]⟩) neAg)
         have Twn := Lib.hid ((Tw.out.other ⟨Wec1.heap.size, 0, none⟩ (.string ⟨#[48]⟩) neTw).other ⟨Wec1.heap.size, 1, none⟩ (.string ⟨#[49]⟩) neTw)
         have Nnn := Lib.hid ((Nn.out.other ⟨Wec1.heap.size, 0, none⟩ (.string ⟨#[48]⟩) neNn).other ⟨Wec1.heap.size, 1, none⟩ (.string ⟨#[49]⟩) neNn)
         have Wdn := Lib.hid ((Wd.out.other ⟨Wec1.heap.size, 0, none⟩ (.string ⟨#[48]⟩) neWd).other ⟨Wec1.heap.size, 1, none⟩ (.string ⟨#[49]⟩) neWd)
         have HBn := Lib.hid ((HB.out.setCell (p := ⟨Wec1.heap.size, 0, none⟩) gWt (.string ⟨#[48]⟩)).setCell (p := ⟨Wec1.heap.size, 1, none⟩) gWt (.string ⟨#[49]⟩))
         clear hs
         have Agnc0 := Agn.out.c0
         have Agnc1 := Agn.out.c1
         have Bbnc0 := Bbn.out.c0
         have Bbnc1 := Bbn.out.c1
         have Twnc0 := Twn.out.c0
         have Twnc1 := Twn.out.c1
         have Aanc0 := Aan.out.c0
         have Aanc1 := Aan.out.c1
         have Nnnc0 := Nnn.out.c0
         have Nnnc1 := Nnn.out.c1
         have Wdnc0 := Wdn.out.c0
         have Wdnc1 := Wdn.out.c1
         have Wtnc0 := Wtn.out.c0
         have Wtnc1 := Wtn.out.c1
         have Rqnc0 := Rqn.out.c0
         have Rqnc1 := Rqn.out.c1
         go_wp2_with fail
         go_at_call 20
         refine (Hk2.out _).mono ?_
         rintro e WZ ⟨rfl, B⟩
         have HBz := Lib.hid (HBn.out.trans (B.mono HBn.out.size))
         clear B
         go_wp2_with fail
         go_ret
         exact ⟨rfl, HBz.out⟩
        ·
         have hpi : ¬ ((p : Int) = 0) := by omega
         go_at_call 41
         refine (is_any _ _ _).mono ?_
         rintro e Wed1 ⟨rfl, B⟩
         have Rqlt := (Rq.out.keep B Rq.out.lt).lt
         have Aalt := (Aa.out.keep B Aa.out.lt).lt
         have Bblt := (Bb.out.keep B Bb.out.lt).lt
         have Cclt := (Cc.out.keep B Cc.out.lt).lt
         have Aglt := (Ag.out.keep B Ag.out.lt).lt
         have Twlt := (Tw.out.keep B Tw.out.lt).lt
         have Nnlt := (Nn.out.keep B Nn.out.lt).lt
         have Wdlt := (Wd.out.keep B Wd.out.lt).lt
         have gWt : w.heap.size ≤ Wed1.heap.size := (HB.out.trans (B.mono HB.out.size)).size
         have Rqn := Lib.hid ((Rq.out.keep B Rq.out.lt).alloc (.cells #[(.string ⟨#[49]⟩), (.string ts)] 23))
         have Aan := Lib.hid ((Aa.out.keep B Aa.out.lt).alloc (.cells #[(.string ⟨#[49]⟩), (.string ts)] 23))
         have Bbn := Lib.hid ((Bb.out.keep B Bb.out.lt).alloc (.cells #[(.string ⟨#[49]⟩), (.string ts)] 23))
         have Ccn := Lib.hid ((Cc.out.keep B Cc.out.lt).alloc (.cells #[(.string ⟨#[49]⟩), (.string ts)] 23))
         have Agn := Lib.hid ((Ag.out.keep B Ag.out.lt).alloc (.cells #[(.string ⟨#[49]⟩), (.string ts)] 23))
         have Twn := Lib.hid ((Tw.out.keep B Tw.out.lt).alloc (.cells #[(.string ⟨#[49]⟩), (.string ts)] 23))
         have Nnn := Lib.hid ((Nn.out.keep B Nn.out.lt).alloc (.cells #[(.string ⟨#[49]⟩), (.string ts)] 23))
         have Wdn := Lib.hid ((Wd.out.keep B Wd.out.lt).alloc (.cells #[(.string ⟨#[49]⟩), (.string ts)] 23))
         have HBn := Lib.hid ((HB.out.trans (B.mono HB.out.size)).alloc (HB.out.trans (B.mono HB.out.size)).size (.cells #[(.string ⟨#[49]⟩), (.string ts)] 23))
         clear Rq Aa Bb Cc Ag Tw Nn Wd HB
         have Rq := Rqn
         have Aa := Aan
         have Bb := Bbn
         have Cc := Ccn
         have Ag := Agn
         have Tw := Twn
         have Nn := Nnn
         have Wd := Wdn
         have HB := HBn
         clear Rqn Aan Bbn Ccn Agn Twn Nnn Wdn HBn
         have Wt := Lib.hid (RBlk.new Wed1 (.string ⟨#[49]⟩) (.string ts))
         clear B
         have neRq : (W2.heap.size) ≠ Wed1.heap.size := Nat.ne_of_lt (by have := Rq.out.lt; have hl := Rqlt; exact hl)
         have neAa : (We1.heap.size) ≠ Wed1.heap.size := Nat.ne_of_lt (by have := Aa.out.lt; have hl := Aalt; exact hl)
         have neBb : (We2.heap.size) ≠ Wed1.heap.size := Nat.ne_of_lt (by have := Bb.out.lt; have hl := Bblt; exact hl)
         have neCc : (We4.heap.size) ≠ Wed1.heap.size := Nat.ne_of_lt (by have := Cc.out.lt; have hl := Cclt; exact hl)
         have neAg : (Wea1.heap.size) ≠ Wed1.heap.size := Nat.ne_of_lt (by have := Ag.out.lt; have hl := Aglt; exact hl)
         have neTw : (Wea2.heap.size) ≠ Wed1.heap.size := Nat.ne_of_lt (by have := Tw.out.lt; have hl := Twlt; exact hl)
         have neNn : (gJea16) ≠ Wed1.heap.size := Nat.ne_of_lt (by have := Nn.out.lt; have hl := Nnlt; exact hl)
         have neWd : (Web1.heap.size) ≠ Wed1.heap.size := Nat.ne_of_lt (by have := Wd.out.lt; have hl := Wdlt; exact hl)
         (try go_wp2_with fail)
         go_at_call 41
         refine (is_any _ _ _).mono ?_
         rintro e EDS2 ⟨rfl, B⟩
         have Rqn := Lib.hid ((Rq.out.keep B Rq.out.lt))
         have Aan := Lib.hid ((Aa.out.keep B Aa.out.lt))
         have Bbn := Lib.hid ((Bb.out.keep B Bb.out.lt))
         have Ccn := Lib.hid ((Cc.out.keep B Cc.out.lt))
         have Agn := Lib.hid ((Ag.out.keep B Ag.out.lt))
         have Twn := Lib.hid ((Tw.out.keep B Tw.out.lt))
         have Nnn := Lib.hid ((Nn.out.keep B Nn.out.lt))
         have Wdn := Lib.hid ((Wd.out.keep B Wd.out.lt))
         have Wtn := Lib.hid ((Wt.out.keep B Wt.out.lt))
         have HBn := Lib.hid (HB.out.trans (B.mono HB.out.size))
         clear Rq Aa Bb Cc Ag Tw Nn Wd Wt HB
         have Rq := Rqn
         have Aa := Aan
         have Bb := Bbn
         have Cc := Ccn
         have Ag := Agn
         have Tw := Twn
         have Nn := Nnn
         have Wd := Wdn
         have Wt := Wtn
         have HB := HBn
         clear Rqn Aan Bbn Ccn Agn Twn Nnn Wdn Wtn HBn
         clear B
         have c0 := Wt.out.c0
         have c1 := Wt.out.c1
         have f0 := Wt.out.f 0
         have f1 := Wt.out.f 1
         have hs := Wt.out.s0 (.string ⟨#[48]⟩)
         have d1 := hs.c1
         have g1 := hs.f 1
         have Wtn := Lib.hid (hs.s1 (.string ⟨#[49]⟩))
         have Rqn := Lib.hid ((Rq.out.other ⟨Wed1.heap.size, 0, none⟩ (.string ⟨#[48]⟩) neRq).other ⟨Wed1.heap.size, 1, none⟩ (.string ⟨#[49]⟩) neRq)
         have Aan := Lib.hid ((Aa.out.other ⟨Wed1.heap.size, 0, none⟩ (.string ⟨#[48]⟩) neAa).other ⟨Wed1.heap.size, 1, none⟩ (.string ⟨#[49]⟩) neAa)
         have Bbn := Lib.hid ((Bb.out.other ⟨Wed1.heap.size, 0, none⟩ (.string ⟨#[48]⟩) neBb).other ⟨Wed1.heap.size, 1, none⟩ (.string ⟨#[49]⟩) neBb)
         have Ccn := Lib.hid ((Cc.out.other ⟨Wed1.heap.size, 0, none⟩ (.string ⟨#[48]⟩) neCc).other ⟨Wed1.heap.size, 1, none⟩ (.string ⟨#[49]⟩) neCc)
         have Agn := Lib.hid ((Ag.out.other ⟨Wed1.heap.size, 0, none⟩ (.string ⟨#[48]⟩) neAg).other ⟨Wed1.heap.size, 1, none⟩ (.string ⟨#[49]⟩) neAg)
         have Twn := Lib.hid ((Tw.out.other ⟨Wed1.heap.size, 0, none⟩ (.string ⟨#[48]⟩) neTw).other ⟨Wed1.heap.size, 1, none⟩ (.string ⟨#[49]⟩) neTw)
         have Nnn := Lib.hid ((Nn.out.other ⟨Wed1.heap.size, 0, none⟩ (.string ⟨#[48]⟩) neNn).other ⟨Wed1.heap.size, 1, none⟩ (.string ⟨#[49]⟩) neNn)
         have Wdn := Lib.hid ((Wd.out.other ⟨Wed1.heap.size, 0, none⟩ (.string ⟨#[48]⟩) neWd).other ⟨Wed1.heap.size, 1, none⟩ (.string ⟨#[49]⟩) neWd)
         have HBn := Lib.hid ((HB.out.setCell (p := ⟨Wed1.heap.size, 0, none⟩) gWt (.string ⟨#[48]⟩)).setCell (p := ⟨Wed1.heap.size, 1, none⟩) gWt (.string ⟨#[49]⟩))
         clear hs
         have Agnc0 := Agn.out.c0
         have Agnc1 := Agn.out.c1
         have Bbnc0 := Bbn.out.c0
         have Bbnc1 := Bbn.out.c1
         have Twnc0 := Twn.out.c0
         have Twnc1 := Twn.out.c1
         have Aanc0 := Aan.out.c0
         have Aanc1 := Aan.out.c1
         have Nnnc0 := Nnn.out.c0
         have Nnnc1 := Nnn.out.c1
         have Wdnc0 := Wdn.out.c0
         have Wdnc1 := Wdn.out.c1
         have Wtnc0 := Wtn.out.c0
         have Wtnc1 := Wtn.out.c1
         have Rqnc0 := Rqn.out.c0
         have Rqnc1 := Rqn.out.c1
         go_wp2_with fail
         go_at_call 20
         refine (Hk2.out _).mono ?_
         rintro e WZ ⟨rfl, B⟩
         have HBz := Lib.hid (HBn.out.trans (B.mono HBn.out.size))
         clear B
         go_wp2_with fail
         go_ret
         exact ⟨rfl, HBz.out⟩
      exact AllReadyH.nil
     exact AllReadyH.nil
    exact AllReadyH.nil
   ·
    obtain ⟨e1, e2, e3⟩ := hEN
    rw [show upN q (10 ^ p) - dnN q (10 ^ p) = 1 by omega, one_t] at cs
    rw [cmp_le_ne (dn_le q _ (ten_pos p)) e2] at k1
    rw [cmp_ge_ne (up_ge q _ (ten_pos p)) e3] at k2
    clear hmul r1 hos qd qu ha hb hc hng hq hq2 hp30
    generalize dnN q (10 ^ p) = dz at *
    generalize upN q (10 ^ p) = uz at *
    generalize mkRat dz (10 ^ p) = fa at *
    generalize mkRat uz (10 ^ p) = fb at *
    generalize mkRat (dnN (-q) (10 ^ p)) (10 ^ p) = fc at *
    clear e1 e2 e3
    unfold RV at ca cb cn cc cm k1 k2 cg ct
    have ca' := ca
    skip
    try unfold RV at cu
    try unfold RV at cs
    generalize S fa.num = fa1 at *
    generalize S (fa.den : Int) = fa2 at *
    generalize S fb.num = fb1 at *
    generalize S (fb.den : Int) = fb2 at *
    generalize S fc.num = fc1 at *
    generalize S (fc.den : Int) = fc2 at *
    generalize S (-q).num = nq1 at *
    generalize S ((-q).den : Int) = nq2 at *
    generalize S q.num = q1 at *
    generalize S (q.den : Int) = q2 at *
    generalize S dz = ds at *
    have hts := Lib.hid (show p = 0 → S ((10 ^ p : Nat) : Int) = ⟨#[49]⟩ from fun h => by rw [h]; exact S_ten0)
    generalize S ((10 ^ p : Nat) : Int) = ts at *
    clear ca'
    have Hca := Lib.hid ca
    have Hcb := Lib.hid cb
    have Hcn := Lib.hid cn
    have Hcc := Lib.hid cc
    have Hcm := Lib.hid cm
    have Hk1 := Lib.hid k1
    have Hk2 := Lib.hid k2
    have Hcg := Lib.hid cg
    have Hct := Lib.hid ct
    have Hcu := Lib.hid cu
    have Hcs := Lib.hid cs
    clear ca cb cn cc cm k1 k2 cg ct cu cs
    have Rqc0 := Rq.out.c0
    have Rqc1 := Rq.out.c1
    go_wp2_with fail
    clear Rqc0 Rqc1
    go_at_call 23
    refine (Hca.out _).mono ?_
    rintro e Wn1 ⟨rfl, B⟩
    have Rqn := Lib.hid ((Rq.out.keep B Rq.out.lt).alloc (.cells #[(.string fa1), (.string fa2)] 23))
    have HBn := Lib.hid ((HB.out.trans (B.mono HB.out.size)).alloc (HB.out.trans (B.mono HB.out.size)).size (.cells #[(.string fa1), (.string fa2)] 23))
    clear Rq HB
    have Rq := Rqn
    have HB := HBn
    clear Rqn HBn
    have Aa := Lib.hid (RBlk.new Wn1 (.string fa1) (.string fa2))
    clear B
    have Rqc0 := Rq.out.c0
    have Rqc1 := Rq.out.c1
    (try go_wp2_with fail)
    clear Rqc0 Rqc1
    go_at_call 25
    refine (Hcb.out _).mono ?_
    rintro e Wn2 ⟨rfl, B⟩
    have Rqn := Lib.hid ((Rq.out.keep B Rq.out.lt).alloc (.cells #[(.string fb1), (.string fb2)] 23))
    have Aan := Lib.hid ((Aa.out.keep B Aa.out.lt).alloc (.cells #[(.string fb1), (.string fb2)] 23))
    have HBn := Lib.hid ((HB.out.trans (B.mono HB.out.size)).alloc (HB.out.trans (B.mono HB.out.size)).size (.cells #[(.string fb1), (.string fb2)] 23))
    clear Rq Aa HB
    have Rq := Rqn
    have Aa := Aan
    have HB := HBn
    clear Rqn Aan HBn
    have Bb := Lib.hid (RBlk.new Wn2 (.string fb1) (.string fb2))
    clear B
    have Rqc0 := Rq.out.c0
    have Rqc1 := Rq.out.c1
    (try go_wp2_with fail)
    clear Rqc0 Rqc1
    go_at_call 42
    refine (Hcn.out _).mono ?_
    rintro e Wn3 ⟨rfl, B⟩
    have Rqn := Lib.hid ((Rq.out.keep B Rq.out.lt))
    have Aan := Lib.hid ((Aa.out.keep B Aa.out.lt))
    have Bbn := Lib.hid ((Bb.out.keep B Bb.out.lt))
    have HBn := Lib.hid (HB.out.trans (B.mono HB.out.size))
    clear Rq Aa Bb HB
    have Rq := Rqn
    have Aa := Aan
    have Bb := Bbn
    have HB := HBn
    clear Rqn Aan Bbn HBn
    clear B
    (try go_wp2_with fail)
    go_at_call 23
    refine (Hcc.out _).mono ?_
    rintro e Wn4 ⟨rfl, B⟩
    have Rqn := Lib.hid ((Rq.out.keep B Rq.out.lt).alloc (.cells #[(.string fc1), (.string fc2)] 23))
    have Aan := Lib.hid ((Aa.out.keep B Aa.out.lt).alloc (.cells #[(.string fc1), (.string fc2)] 23))
    have Bbn := Lib.hid ((Bb.out.keep B Bb.out.lt).alloc (.cells #[(.string fc1), (.string fc2)] 23))
    have HBn := Lib.hid ((HB.out.trans (B.mono HB.out.size)).alloc (HB.out.trans (B.mono HB.out.size)).size (.cells #[(.string fc1), (.string fc2)] 23))
    clear Rq Aa Bb HB
    have Rq := Rqn
    have Aa := Aan
    have Bb := Bbn
    have HB := HBn
    clear Rqn Aan Bbn HBn
    have Cc := Lib.hid (RBlk.new Wn4 (.string fc1) (.string fc2))
    clear B
    go_upto_region 12 with fail
    generalize hW0n12 : (Wn4.alloc (.cells #[(.string fc1), (.string fc2)] 23)) = W0n12 at *
    clear hW0n12
    refine wp_region_noPanic ?_
    refine wp_region_held_drew (S := fun W => RBlk W (W2.heap.size) (.string q1) (.string q2) ∧ RBlk W (Wn1.heap.size) (.string fa1) (.string fa2) ∧ RBlk W (Wn2.heap.size) (.string fb1) (.string fb2) ∧ RBlk W (Wn4.heap.size) (.string fc1) (.string fc2)) (by kernel_rfl) ?_ (fun hHeld => ?_)
    ·
     exact ⟨Rq.out, Aa.out, Bb.out, Cc.out⟩
    have Rqn := Lib.hid Rq.out.drew
    have Aan := Lib.hid Aa.out.drew
    have Bbn := Lib.hid Bb.out.drew
    have Ccn := Lib.hid Cc.out.drew
    have HBn := Lib.hid HB.out.drew
    clear Rq Aa Bb Cc HB
    have Rq := Rqn
    have Aa := Aan
    have Bb := Bbn
    have Cc := Ccn
    have HB := HBn
    clear Rqn Aan Bbn Ccn HBn
    refine wpAnyH_take (i := 0) (oi := ({ dst := some 56, op := Go.Op.move (Go.Operand.tmp 10), type := 32, pos := "law.go:236", after := #[], guard := none } : Oper)) (v := ?v0_1n_12_3) rfl (by kernel_rfl) (by kernel_rfl) (by kernel_rfl) (fun _ _ _ h => h) (Or.inl ⟨by rfl, ?hy0_1n_12_3⟩) (by assumption) ?re0_1n_12_3
    case hy0_1n_12_3 => (intro w hSw; go_simp) <;> with_reducible rfl
    (try simp only [Act.put, List.setIfInBounds_toArray, List.set_cons_zero, List.set_cons_succ])
    refine wpAnyH_take (i := 1) (oi := ({ dst := some 57, op := Go.Op.binOp Go.BinOp.neq 32 (Go.Operand.tmp 56) (Go.Operand.const (Go.Value.int Go.IntKind.i64 0)) 32, type := 4, pos := "law.go:236", after := #[{ on := 0, ground := Go.Ground.data }], guard := none } : Oper)) (v := ?v1_2n_12_3) rfl (by kernel_rfl) (by kernel_rfl) (by kernel_rfl) (fun _ _ _ h => h) (Or.inl ⟨by rfl, ?hy1_2n_12_3⟩) (by assumption) ?re1_2n_12_3
    case hy1_2n_12_3 => (intro w hSw; go_simp) <;> with_reducible rfl
    (try simp only [Act.put, List.setIfInBounds_toArray, List.set_cons_zero, List.set_cons_succ])
    refine wpAnyH_take (i := 2) (oi := ({ dst := some 58, op := Go.Op.move (Go.Operand.tmp 57), type := 4, pos := "law.go:236", after := #[{ on := 1, ground := Go.Ground.data }], guard := none } : Oper)) (v := ?v2_3n_12_3) rfl (by kernel_rfl) (by kernel_rfl) (by kernel_rfl) (fun _ _ _ h => h) (Or.inl ⟨by rfl, ?hy2_3n_12_3⟩) (by assumption) ?re2_3n_12_3
    case hy2_3n_12_3 => (intro w hSw; go_simp) <;> with_reducible rfl
    (try simp only [Act.put, List.setIfInBounds_toArray, List.set_cons_zero, List.set_cons_succ])
    refine wpAnyH_take (i := 3) (oi := ({ dst := some 59, op := Go.Op.move (Go.Operand.tmp 12), type := 32, pos := "law.go:236", after := #[{ on := 2, ground := Go.Ground.guard }], guard := some (2, false) } : Oper)) (v := ?v3_4n_12_3) rfl (by kernel_rfl) (by kernel_rfl) (by kernel_rfl) (fun _ _ _ h => h) (Or.inl ⟨by rfl, ?hy3_4n_12_3⟩) (by assumption) ?re3_4n_12_3
    case hy3_4n_12_3 => (intro w hSw; go_simp) <;> with_reducible rfl
    (try simp only [Act.put, List.setIfInBounds_toArray, List.set_cons_zero, List.set_cons_succ])
    refine wpAnyH_take (i := 4) (oi := ({ dst := some 60, op := Go.Op.binOp Go.BinOp.neq 32 (Go.Operand.tmp 59) (Go.Operand.const (Go.Value.int Go.IntKind.i64 0)) 32, type := 4, pos := "law.go:236", after := #[{ on := 3, ground := Go.Ground.data }, { on := 2, ground := Go.Ground.guard }], guard := some (2, false) } : Oper)) (v := ?v4_5n_12_3) rfl (by kernel_rfl) (by kernel_rfl) (by kernel_rfl) (fun _ _ _ h => h) (Or.inl ⟨by rfl, ?hy4_5n_12_3⟩) (by assumption) ?re4_5n_12_3
    case hy4_5n_12_3 => (intro w hSw; go_simp) <;> with_reducible rfl
    (try simp only [Act.put, List.setIfInBounds_toArray, List.set_cons_zero, List.set_cons_succ])
    refine wpAnyH_take (i := 5) (oi := ({ dst := some 61, op := Go.Op.pick (Go.Operand.tmp 58) (Go.Operand.const (Go.Value.bool true)) (Go.Operand.tmp 60), type := 4, pos := "law.go:236", after := #[{ on := 2, ground := Go.Ground.data }, { on := 4, ground := Go.Ground.data }], guard := none } : Oper)) (v := ?v5_6n_12_3) rfl (by kernel_rfl) (by kernel_rfl) (by kernel_rfl) (fun _ _ _ h => h) (Or.inl ⟨by rfl, ?hy5_6n_12_3⟩) (by assumption) ?re5_6n_12_3
    case hy5_6n_12_3 => (intro w hSw; go_simp) <;> with_reducible rfl
    (try simp only [Act.put, List.setIfInBounds_toArray, List.set_cons_zero, List.set_cons_succ])
    refine wpAnyH_take (i := 6) (oi := ({ dst := some 62, op := Go.Op.move (Go.Operand.tmp 61), type := 4, pos := "law.go:236", after := #[{ on := 5, ground := Go.Ground.data }, { on := 2, ground := Go.Ground.chain }], guard := none } : Oper)) (v := ?v6_7n_12_3) rfl (by kernel_rfl) (by kernel_rfl) (by kernel_rfl) (fun _ _ _ h => h) (Or.inl ⟨by rfl, ?hy6_7n_12_3⟩) (by assumption) ?re6_7n_12_3
    case hy6_7n_12_3 => (intro w hSw; go_simp) <;> with_reducible rfl
    (try simp only [Act.put, List.setIfInBounds_toArray, List.set_cons_zero, List.set_cons_succ])
    refine wpAnyH_take (i := 7) (oi := ({ dst := some 63, op := Go.Op.move (Go.Operand.tmp 14), type := 32, pos := "law.go:236", after := #[{ on := 6, ground := Go.Ground.guard }], guard := some (6, false) } : Oper)) (v := ?v7_8n_12_3) rfl (by kernel_rfl) (by kernel_rfl) (by kernel_rfl) (fun _ _ _ h => h) (Or.inl ⟨by rfl, ?hy7_8n_12_3⟩) (by assumption) ?re7_8n_12_3
    case hy7_8n_12_3 => (intro w hSw; go_simp) <;> with_reducible rfl
    (try simp only [Act.put, List.setIfInBounds_toArray, List.set_cons_zero, List.set_cons_succ])
    refine wpAnyH_take (i := 8) (oi := ({ dst := some 64, op := Go.Op.binOp Go.BinOp.neq 32 (Go.Operand.tmp 63) (Go.Operand.const (Go.Value.int Go.IntKind.i64 0)) 32, type := 4, pos := "law.go:236", after := #[{ on := 7, ground := Go.Ground.data }, { on := 6, ground := Go.Ground.guard }], guard := some (6, false) } : Oper)) (v := ?v8_9n_12_3) rfl (by kernel_rfl) (by kernel_rfl) (by kernel_rfl) (fun _ _ _ h => h) (Or.inl ⟨by rfl, ?hy8_9n_12_3⟩) (by assumption) ?re8_9n_12_3
    case hy8_9n_12_3 => (intro w hSw; go_simp) <;> with_reducible rfl
    (try simp only [Act.put, List.setIfInBounds_toArray, List.set_cons_zero, List.set_cons_succ])
    refine wpAnyH_take (i := 9) (oi := ({ dst := some 65, op := Go.Op.pick (Go.Operand.tmp 62) (Go.Operand.const (Go.Value.bool true)) (Go.Operand.tmp 64), type := 4, pos := "law.go:236", after := #[{ on := 6, ground := Go.Ground.data }, { on := 8, ground := Go.Ground.data }], guard := none } : Oper)) (v := ?v9_10n_12_3) rfl (by kernel_rfl) (by kernel_rfl) (by kernel_rfl) (fun _ _ _ h => h) (Or.inl ⟨by rfl, ?hy9_10n_12_3⟩) (by assumption) ?re9_10n_12_3
    case hy9_10n_12_3 => (intro w hSw; go_simp) <;> with_reducible rfl
    (try simp only [Act.put, List.setIfInBounds_toArray, List.set_cons_zero, List.set_cons_succ])
    refine wpAnyH_take (i := 10) (oi := ({ dst := some 66, op := Go.Op.move (Go.Operand.tmp 65), type := 4, pos := "law.go:236", after := #[{ on := 9, ground := Go.Ground.data }, { on := 6, ground := Go.Ground.chain }], guard := none } : Oper)) (v := ?v10_11n_12_3) rfl (by kernel_rfl) (by kernel_rfl) (by kernel_rfl) (fun _ _ _ h => h) (Or.inl ⟨by rfl, ?hy10_11n_12_3⟩) (by assumption) ?re10_11n_12_3
    case hy10_11n_12_3 => (intro w hSw; go_simp) <;> with_reducible rfl
    (try simp only [Act.put, List.setIfInBounds_toArray, List.set_cons_zero, List.set_cons_succ])
    refine wpAnyH_take (i := 11) (oi := ({ dst := some 67, op := Go.Op.load 23 (Go.Operand.tmp 13), type := 23, pos := "law.go:236", after := #[{ on := 10, ground := Go.Ground.guard }], guard := some (10, false) } : Oper)) (v := ?v11_12n_12_3) rfl (by kernel_rfl) (by kernel_rfl) (by kernel_rfl) (fun _ _ _ h => h) (Or.inl ⟨by rfl, ?hy11_12n_12_3⟩) (by assumption) ?re11_12n_12_3
    case hy11_12n_12_3 => ((intro w hSw; have e00 := hSw.1.c0; have e01 := hSw.1.c1; have e10 := hSw.2.1.c0; have e11 := hSw.2.1.c1; have e20 := hSw.2.2.1.c0; have e21 := hSw.2.2.1.c1; have e30 := hSw.2.2.2.c0; have e31 := hSw.2.2.2.c1; go_simp) <;> with_reducible rfl)
    (try simp only [Act.put, List.setIfInBounds_toArray, List.set_cons_zero, List.set_cons_succ])
    refine wpAnyH_take (i := 13) (oi := ({ dst := some 69, op := Go.Op.load 23 (Go.Operand.tmp 11), type := 23, pos := "law.go:236", after := #[{ on := 10, ground := Go.Ground.guard }], guard := some (10, false) } : Oper)) (v := ?v13_13n_12_3) rfl (by kernel_rfl) (by kernel_rfl) (by kernel_rfl) (fun _ _ _ h => h) (Or.inl ⟨by rfl, ?hy13_13n_12_3⟩) (by assumption) ?re13_13n_12_3
    case hy13_13n_12_3 => ((intro w hSw; have e00 := hSw.1.c0; have e01 := hSw.1.c1; have e10 := hSw.2.1.c0; have e11 := hSw.2.1.c1; have e20 := hSw.2.2.1.c0; have e21 := hSw.2.2.1.c1; have e30 := hSw.2.2.2.c0; have e31 := hSw.2.2.2.c1; go_simp) <;> with_reducible rfl)
    (try simp only [Act.put, List.setIfInBounds_toArray, List.set_cons_zero, List.set_cons_succ])
    refine wpAnyH_ready (rs := [12]) (by kernel_rfl) (by simp) ?_
    refine AllReadyH.cons (o := ({ dst := some 68, op := Go.Op.call { callee := Go.Callee.value (Go.Operand.func 42), args := #[Go.Operand.tmp 67], argTypes := #[23] }, type := 23, pos := "law.go:236", after := #[{ on := 11, ground := Go.Ground.data }, { on := 10, ground := Go.Ground.chain }, { on := 10, ground := Go.Ground.guard }], guard := some (10, false) } : Oper)) rfl (fun K hK => ?_) ?_
    ·
     go_simp
     go_at_call 42
     refine (Hcm.out _).mono ?_
     rintro e Wn12_1 ⟨rfl, B⟩
     have Rqn := Lib.hid (Rq.out.keep B Rq.out.lt)
     have Aan := Lib.hid (Aa.out.keep B Aa.out.lt)
     have Bbn := Lib.hid (Bb.out.keep B Bb.out.lt)
     have Ccn := Lib.hid (Cc.out.keep B Cc.out.lt)
     have HBn := Lib.hid (HB.out.trans (B.mono HB.out.size))
     clear Rq Aa Bb Cc HB
     have Rq := Rqn
     have Aa := Aan
     have Bb := Bbn
     have Cc := Ccn
     have HB := HBn
     clear Rqn Aan Bbn Ccn HBn
     (try go_wp2_with fail)
     refine hK.out _ _ ?_ (fun hHeld => ?_)
     ·
      exact ⟨hHeld.1.keep B hHeld.1.lt, hHeld.2.1.keep B hHeld.2.1.lt, hHeld.2.2.1.keep B hHeld.2.2.1.lt, hHeld.2.2.2.keep B hHeld.2.2.2.lt⟩
     clear hK K
     (try simp only [Act.put, List.setIfInBounds_toArray, List.set_cons_zero, List.set_cons_succ])
     clear B
     refine wpAnyH_take (i := 14) (oi := ({ dst := some 70, op := Go.Op.binOp Go.BinOp.neq 23 (Go.Operand.tmp 68) (Go.Operand.tmp 69) 23, type := 4, pos := "law.go:236", after := #[{ on := 12, ground := Go.Ground.data }, { on := 13, ground := Go.Ground.data }, { on := 10, ground := Go.Ground.guard }], guard := some (10, false) } : Oper)) (v := ?v14_14n_12_3) rfl (by kernel_rfl) (by kernel_rfl) (by kernel_rfl) (fun _ _ _ h => h) (Or.inl ⟨by rfl, ?hy14_14n_12_3⟩) (by assumption) ?re14_14n_12_3
     case hy14_14n_12_3 => (intro w hSw; go_simp) <;> with_reducible rfl
     (try simp only [Act.put, List.setIfInBounds_toArray, List.set_cons_zero, List.set_cons_succ])
     refine wpAnyH_take (i := 15) (oi := ({ dst := some 71, op := Go.Op.pick (Go.Operand.tmp 66) (Go.Operand.const (Go.Value.bool true)) (Go.Operand.tmp 70), type := 4, pos := "law.go:236", after := #[{ on := 10, ground := Go.Ground.data }, { on := 14, ground := Go.Ground.data }], guard := none } : Oper)) (v := ?v15_15n_12_3) rfl (by kernel_rfl) (by kernel_rfl) (by kernel_rfl) (fun _ _ _ h => h) (Or.inl ⟨by rfl, ?hy15_15n_12_3⟩) (by assumption) ?re15_15n_12_3
     case hy15_15n_12_3 => (intro w hSw; go_simp) <;> with_reducible rfl
     (try simp only [Act.put, List.setIfInBounds_toArray, List.set_cons_zero, List.set_cons_succ])
     refine wpAnyH_take (i := 16) (oi := ({ dst := some 72, op := Go.Op.move (Go.Operand.tmp 71), type := 4, pos := "law.go:236", after := #[{ on := 15, ground := Go.Ground.data }, { on := 12, ground := Go.Ground.chain }], guard := none } : Oper)) (v := ?v16_16n_12_3) rfl (by kernel_rfl) (by kernel_rfl) (by kernel_rfl) (fun _ _ _ h => h) (Or.inl ⟨by rfl, ?hy16_16n_12_3⟩) (by assumption) ?re16_16n_12_3
     case hy16_16n_12_3 => (intro w hSw; go_simp) <;> with_reducible rfl
     (try simp only [Act.put, List.setIfInBounds_toArray, List.set_cons_zero, List.set_cons_succ])
     refine wpAnyH_take (i := 17) (oi := ({ dst := some 73, op := Go.Op.load 23 (Go.Operand.tmp 9), type := 23, pos := "law.go:236", after := #[{ on := 16, ground := Go.Ground.guard }], guard := some (16, false) } : Oper)) (v := ?v17_17n_12_3) rfl (by kernel_rfl) (by kernel_rfl) (by kernel_rfl) (fun _ _ _ h => h) (Or.inl ⟨by rfl, ?hy17_17n_12_3⟩) (by assumption) ?re17_17n_12_3
     case hy17_17n_12_3 => ((intro w hSw; have e00 := hSw.1.c0; have e01 := hSw.1.c1; have e10 := hSw.2.1.c0; have e11 := hSw.2.1.c1; have e20 := hSw.2.2.1.c0; have e21 := hSw.2.2.1.c1; have e30 := hSw.2.2.2.c0; have e31 := hSw.2.2.2.c1; go_simp) <;> with_reducible rfl)
     (try simp only [Act.put, List.setIfInBounds_toArray, List.set_cons_zero, List.set_cons_succ])
     refine wpAnyH_take (i := 18) (oi := ({ dst := some 74, op := Go.Op.load 23 (Go.Operand.tmp 6), type := 23, pos := "law.go:236", after := #[{ on := 16, ground := Go.Ground.guard }], guard := some (16, false) } : Oper)) (v := ?v18_18n_12_3) rfl (by kernel_rfl) (by kernel_rfl) (by kernel_rfl) (fun _ _ _ h => h) (Or.inl ⟨by rfl, ?hy18_18n_12_3⟩) (by assumption) ?re18_18n_12_3
     case hy18_18n_12_3 => ((intro w hSw; have e00 := hSw.1.c0; have e01 := hSw.1.c1; have e10 := hSw.2.1.c0; have e11 := hSw.2.1.c1; have e20 := hSw.2.2.1.c0; have e21 := hSw.2.2.1.c1; have e30 := hSw.2.2.2.c0; have e31 := hSw.2.2.2.c1; go_simp) <;> with_reducible rfl)
     (try simp only [Act.put, List.setIfInBounds_toArray, List.set_cons_zero, List.set_cons_succ])
     refine wpAnyH_ready (rs := [19]) (by kernel_rfl) (by simp) ?_
     refine AllReadyH.cons (o := ({ dst := some 75, op := Go.Op.call { callee := Go.Callee.value (Go.Operand.func 20), args := #[Go.Operand.tmp 73, Go.Operand.tmp 74], argTypes := #[23, 23] }, type := 3, pos := "law.go:236", after := #[{ on := 17, ground := Go.Ground.data }, { on := 18, ground := Go.Ground.data }, { on := 16, ground := Go.Ground.chain }, { on := 16, ground := Go.Ground.guard }], guard := some (16, false) } : Oper)) rfl (fun K hK => ?_) ?_
     ·
      go_simp
      go_at_call 20
      refine (Hk1.out _).mono ?_
      rintro e Wn12_2 ⟨rfl, B⟩
      have Rqn := Lib.hid (Rq.out.keep B Rq.out.lt)
      have Aan := Lib.hid (Aa.out.keep B Aa.out.lt)
      have Bbn := Lib.hid (Bb.out.keep B Bb.out.lt)
      have Ccn := Lib.hid (Cc.out.keep B Cc.out.lt)
      have HBn := Lib.hid (HB.out.trans (B.mono HB.out.size))
      clear Rq Aa Bb Cc HB
      have Rq := Rqn
      have Aa := Aan
      have Bb := Bbn
      have Cc := Ccn
      have HB := HBn
      clear Rqn Aan Bbn Ccn HBn
      (try go_wp2_with fail)
      refine hK.out _ _ ?_ (fun hHeld => ?_)
      ·
       exact ⟨hHeld.1.keep B hHeld.1.lt, hHeld.2.1.keep B hHeld.2.1.lt, hHeld.2.2.1.keep B hHeld.2.2.1.lt, hHeld.2.2.2.keep B hHeld.2.2.2.lt⟩
      clear hK K
      (try simp only [Act.put, List.setIfInBounds_toArray, List.set_cons_zero, List.set_cons_succ])
      clear B
      refine wpAnyH_take (i := 20) (oi := ({ dst := some 76, op := Go.Op.binOp Go.BinOp.gtr 3 (Go.Operand.tmp 75) (Go.Operand.const (Go.Value.int Go.IntKind.i64 0)) 3, type := 4, pos := "law.go:236", after := #[{ on := 19, ground := Go.Ground.data }, { on := 16, ground := Go.Ground.guard }], guard := some (16, false) } : Oper)) (v := ?v20_19n_12_3) rfl (by kernel_rfl) (by kernel_rfl) (by kernel_rfl) (fun _ _ _ h => h) (Or.inl ⟨by rfl, ?hy20_19n_12_3⟩) (by assumption) ?re20_19n_12_3
      case hy20_19n_12_3 => (intro w hSw; go_simp) <;> with_reducible rfl
      (try simp only [Act.put, List.setIfInBounds_toArray, List.set_cons_zero, List.set_cons_succ])
      refine wpAnyH_take (i := 21) (oi := ({ dst := some 77, op := Go.Op.pick (Go.Operand.tmp 72) (Go.Operand.const (Go.Value.bool true)) (Go.Operand.tmp 76), type := 4, pos := "law.go:236", after := #[{ on := 16, ground := Go.Ground.data }, { on := 20, ground := Go.Ground.data }], guard := none } : Oper)) (v := ?v21_20n_12_3) rfl (by kernel_rfl) (by kernel_rfl) (by kernel_rfl) (fun _ _ _ h => h) (Or.inl ⟨by rfl, ?hy21_20n_12_3⟩) (by assumption) ?re21_20n_12_3
      case hy21_20n_12_3 => (intro w hSw; go_simp) <;> with_reducible rfl
      (try simp only [Act.put, List.setIfInBounds_toArray, List.set_cons_zero, List.set_cons_succ])
      refine wpAnyH_take (i := 22) (oi := ({ dst := some 78, op := Go.Op.move (Go.Operand.tmp 77), type := 4, pos := "law.go:236", after := #[{ on := 21, ground := Go.Ground.data }, { on := 19, ground := Go.Ground.chain }], guard := none } : Oper)) (v := ?v22_21n_12_3) rfl (by kernel_rfl) (by kernel_rfl) (by kernel_rfl) (fun _ _ _ h => h) (Or.inl ⟨by rfl, ?hy22_21n_12_3⟩) (by assumption) ?re22_21n_12_3
      case hy22_21n_12_3 => (intro w hSw; go_simp) <;> with_reducible rfl
      (try simp only [Act.put, List.setIfInBounds_toArray, List.set_cons_zero, List.set_cons_succ])
      refine wpAnyH_take (i := 23) (oi := ({ dst := some 79, op := Go.Op.load 23 (Go.Operand.tmp 11), type := 23, pos := "law.go:236", after := #[{ on := 22, ground := Go.Ground.guard }], guard := some (22, false) } : Oper)) (v := ?v23_22n_12_3) rfl (by kernel_rfl) (by kernel_rfl) (by kernel_rfl) (fun _ _ _ h => h) (Or.inl ⟨by rfl, ?hy23_22n_12_3⟩) (by assumption) ?re23_22n_12_3
      case hy23_22n_12_3 => ((intro w hSw; have e00 := hSw.1.c0; have e01 := hSw.1.c1; have e10 := hSw.2.1.c0; have e11 := hSw.2.1.c1; have e20 := hSw.2.2.1.c0; have e21 := hSw.2.2.1.c1; have e30 := hSw.2.2.2.c0; have e31 := hSw.2.2.2.c1; go_simp) <;> with_reducible rfl)
      (try simp only [Act.put, List.setIfInBounds_toArray, List.set_cons_zero, List.set_cons_succ])
      refine wpAnyH_take (i := 24) (oi := ({ dst := some 80, op := Go.Op.load 23 (Go.Operand.tmp 6), type := 23, pos := "law.go:236", after := #[{ on := 22, ground := Go.Ground.guard }], guard := some (22, false) } : Oper)) (v := ?v24_23n_12_3) rfl (by kernel_rfl) (by kernel_rfl) (by kernel_rfl) (fun _ _ _ h => h) (Or.inl ⟨by rfl, ?hy24_23n_12_3⟩) (by assumption) ?re24_23n_12_3
      case hy24_23n_12_3 => ((intro w hSw; have e00 := hSw.1.c0; have e01 := hSw.1.c1; have e10 := hSw.2.1.c0; have e11 := hSw.2.1.c1; have e20 := hSw.2.2.1.c0; have e21 := hSw.2.2.1.c1; have e30 := hSw.2.2.2.c0; have e31 := hSw.2.2.2.c1; go_simp) <;> with_reducible rfl)
      (try simp only [Act.put, List.setIfInBounds_toArray, List.set_cons_zero, List.set_cons_succ])
      refine wpAnyH_ready (rs := [25]) (by kernel_rfl) (by simp) ?_
      refine AllReadyH.cons (o := ({ dst := some 81, op := Go.Op.call { callee := Go.Callee.value (Go.Operand.func 20), args := #[Go.Operand.tmp 79, Go.Operand.tmp 80], argTypes := #[23, 23] }, type := 3, pos := "law.go:236", after := #[{ on := 23, ground := Go.Ground.data }, { on := 24, ground := Go.Ground.data }, { on := 22, ground := Go.Ground.chain }, { on := 22, ground := Go.Ground.guard }], guard := some (22, false) } : Oper)) rfl (fun K hK => ?_) ?_
      ·
       go_simp
       go_at_call 20
       refine (Hk2.out _).mono ?_
       rintro e Wn12_3 ⟨rfl, B⟩
       have Rqn := Lib.hid (Rq.out.keep B Rq.out.lt)
       have Aan := Lib.hid (Aa.out.keep B Aa.out.lt)
       have Bbn := Lib.hid (Bb.out.keep B Bb.out.lt)
       have Ccn := Lib.hid (Cc.out.keep B Cc.out.lt)
       have HBn := Lib.hid (HB.out.trans (B.mono HB.out.size))
       clear Rq Aa Bb Cc HB
       have Rq := Rqn
       have Aa := Aan
       have Bb := Bbn
       have Cc := Ccn
       have HB := HBn
       clear Rqn Aan Bbn Ccn HBn
       (try go_wp2_with fail)
       refine hK.out _ _ ?_ (fun hHeld => ?_)
       ·
        exact ⟨hHeld.1.keep B hHeld.1.lt, hHeld.2.1.keep B hHeld.2.1.lt, hHeld.2.2.1.keep B hHeld.2.2.1.lt, hHeld.2.2.2.keep B hHeld.2.2.2.lt⟩
       clear hK K
       (try simp only [Act.put, List.setIfInBounds_toArray, List.set_cons_zero, List.set_cons_succ])
       clear B
       refine wpAnyH_take (i := 26) (oi := ({ dst := some 82, op := Go.Op.binOp Go.BinOp.lss 3 (Go.Operand.tmp 81) (Go.Operand.const (Go.Value.int Go.IntKind.i64 0)) 3, type := 4, pos := "law.go:236", after := #[{ on := 25, ground := Go.Ground.data }, { on := 22, ground := Go.Ground.guard }], guard := some (22, false) } : Oper)) (v := ?v26_24n_12_3) rfl (by kernel_rfl) (by kernel_rfl) (by kernel_rfl) (fun _ _ _ h => h) (Or.inl ⟨by rfl, ?hy26_24n_12_3⟩) (by assumption) ?re26_24n_12_3
       case hy26_24n_12_3 => (intro w hSw; go_simp) <;> with_reducible rfl
       (try simp only [Act.put, List.setIfInBounds_toArray, List.set_cons_zero, List.set_cons_succ])
       refine wpAnyH_take (i := 27) (oi := ({ dst := some 83, op := Go.Op.pick (Go.Operand.tmp 78) (Go.Operand.const (Go.Value.bool true)) (Go.Operand.tmp 82), type := 4, pos := "law.go:236", after := #[{ on := 22, ground := Go.Ground.data }, { on := 26, ground := Go.Ground.data }], guard := none } : Oper)) (v := ?v27_25n_12_3) rfl (by kernel_rfl) (by kernel_rfl) (by kernel_rfl) (fun _ _ _ h => h) (Or.inl ⟨by rfl, ?hy27_25n_12_3⟩) (by assumption) ?re27_25n_12_3
       case hy27_25n_12_3 => (intro w hSw; go_simp) <;> with_reducible rfl
       (try simp only [Act.put, List.setIfInBounds_toArray, List.set_cons_zero, List.set_cons_succ])
       refine wpAnyH_done (by kernel_rfl) ?_ _
       refine NoPanic.normal ?_
       have Bbc0 := Bb.out.c0
       have Bbc1 := Bb.out.c1
       (try go_wp2_with fail)
       clear Bbc0 Bbc1
       go_at_call 23
       refine (Hcg.out _).mono ?_
       rintro e Wna1 ⟨rfl, B⟩
       have Rqn := Lib.hid ((Rq.out.keep B Rq.out.lt).alloc (.cells #[(.string fb1), (.string fb2)] 23))
       have Aan := Lib.hid ((Aa.out.keep B Aa.out.lt).alloc (.cells #[(.string fb1), (.string fb2)] 23))
       have Bbn := Lib.hid ((Bb.out.keep B Bb.out.lt).alloc (.cells #[(.string fb1), (.string fb2)] 23))
       have Ccn := Lib.hid ((Cc.out.keep B Cc.out.lt).alloc (.cells #[(.string fb1), (.string fb2)] 23))
       have HBn := Lib.hid ((HB.out.trans (B.mono HB.out.size)).alloc (HB.out.trans (B.mono HB.out.size)).size (.cells #[(.string fb1), (.string fb2)] 23))
       clear Rq Aa Bb Cc HB
       have Rq := Rqn
       have Aa := Aan
       have Bb := Bbn
       have Cc := Ccn
       have HB := HBn
       clear Rqn Aan Bbn Ccn HBn
       have Ag := Lib.hid (RBlk.new Wna1 (.string fb1) (.string fb2))
       clear B
       have Aac0 := Aa.out.c0
       have Aac1 := Aa.out.c1
       (try go_wp2_with fail)
       clear Aac0 Aac1
       go_at_call 25
       refine (Hct.out _).mono ?_
       rintro e Wna2 ⟨rfl, B⟩
       have Rqn := Lib.hid ((Rq.out.keep B Rq.out.lt).alloc (.cells #[(.string fa1), (.string fa2)] 23))
       have Aan := Lib.hid ((Aa.out.keep B Aa.out.lt).alloc (.cells #[(.string fa1), (.string fa2)] 23))
       have Bbn := Lib.hid ((Bb.out.keep B Bb.out.lt).alloc (.cells #[(.string fa1), (.string fa2)] 23))
       have Ccn := Lib.hid ((Cc.out.keep B Cc.out.lt).alloc (.cells #[(.string fa1), (.string fa2)] 23))
       have Agn := Lib.hid ((Ag.out.keep B Ag.out.lt).alloc (.cells #[(.string fa1), (.string fa2)] 23))
       have HBn := Lib.hid ((HB.out.trans (B.mono HB.out.size)).alloc (HB.out.trans (B.mono HB.out.size)).size (.cells #[(.string fa1), (.string fa2)] 23))
       clear Rq Aa Bb Cc Ag HB
       have Rq := Rqn
       have Aa := Aan
       have Bb := Bbn
       have Cc := Ccn
       have Ag := Agn
       have HB := HBn
       clear Rqn Aan Bbn Ccn Agn HBn
       have Tw := Lib.hid (RBlk.new Wna2 (.string fa1) (.string fa2))
       clear B
       go_upto_region 16 with fail
       generalize hW0na16 : (Wna2.alloc (.cells #[(.string fa1), (.string fa2)] 23)) = W0na16 at *
       clear hW0na16
       apply join_two (fun gJ WJ => Hid (RBlk WJ (W2.heap.size) (.string q1) (.string q2) ∧ RBlk WJ (Wn1.heap.size) (.string fa1) (.string fa2) ∧ RBlk WJ (Wn2.heap.size) (.string fb1) (.string fb2) ∧ RBlk WJ (Wn4.heap.size) (.string fc1) (.string fc2) ∧ RBlk WJ (Wna1.heap.size) (.string fb1) (.string fb2) ∧ RBlk WJ (Wna2.heap.size) (.string fa1) (.string fa2) ∧ RBlk WJ gJ (.string ds) (.string ⟨#[49]⟩) ∧ Below w.heap.size w WJ))
       case m =>
        intro HJ
        refine wp_region_noPanic ?_
        refine wp_region_held_drew (S := fun W => RBlk W (Wn1.heap.size) (.string fa1) (.string fa2)) (by kernel_rfl) ?_ (fun hHeld => ?_)
        ·
         exact Aa.out
        have Rq := Lib.hid Rq.out.drew
        have Aa := Lib.hid Aa.out.drew
        have Bb := Lib.hid Bb.out.drew
        have Cc := Lib.hid Cc.out.drew
        have Ag := Lib.hid Ag.out.drew
        have Tw := Lib.hid Tw.out.drew
        have HB := Lib.hid HB.out.drew
        refine wpAnyH_take (i := 0) (oi := ({ dst := some 97, op := Go.Op.load 23 (Go.Operand.tmp 9), type := 23, pos := "law.go:241", after := #[], guard := none } : Oper)) (v := ?v0_1na_16_4) rfl (by kernel_rfl) (by kernel_rfl) (by kernel_rfl) (fun _ _ _ h => h) (Or.inl ⟨by rfl, ?hy0_1na_16_4⟩) (by assumption) ?re0_1na_16_4
        case hy0_1na_16_4 => ((intro w hSw; have e00 := hSw.c0; have e01 := hSw.c1; go_simp) <;> with_reducible rfl)
        (try simp only [Act.put, List.setIfInBounds_toArray, List.set_cons_zero, List.set_cons_succ])
        refine wpAnyH_take (i := 1) (oi := ({ dst := some 98, op := Go.Op.move (Go.Operand.tmp 7), type := 9, pos := "law.go:241", after := #[], guard := none } : Oper)) (v := ?v1_2na_16_4) rfl (by kernel_rfl) (by kernel_rfl) (by kernel_rfl) (fun _ _ _ h => h) (Or.inl ⟨by rfl, ?hy1_2na_16_4⟩) (by assumption) ?re1_2na_16_4
        case hy1_2na_16_4 => (intro w hSw; go_simp) <;> with_reducible rfl
        (try simp only [Act.put, List.setIfInBounds_toArray, List.set_cons_zero, List.set_cons_succ])
        refine wpAnyH_ready (rs := [2, 7]) (by kernel_rfl) (by simp) ?_
        refine AllReadyH.cons (o := ({ dst := some 99, op := Go.Op.call { callee := Go.Callee.value (Go.Operand.func 41), args := #[Go.Operand.tmp 98, Go.Operand.const (Go.Value.string { data := #[49] })], argTypes := #[9, 9] }, type := 23, pos := "law.go:241", after := #[{ on := 1, ground := Go.Ground.data }], guard := none } : Oper)) rfl (fun K hK => ?_) ?_
        ·
         go_simp
         go_at_call 41
         refine (is_any _ _ _).mono ?_
         rintro e Wna16_1 ⟨rfl, B⟩
         have Rq := Lib.hid (Rq.out.keep B Rq.out.lt)
         have Aa := Lib.hid (Aa.out.keep B Aa.out.lt)
         have Bb := Lib.hid (Bb.out.keep B Bb.out.lt)
         have Cc := Lib.hid (Cc.out.keep B Cc.out.lt)
         have Ag := Lib.hid (Ag.out.keep B Ag.out.lt)
         have Tw := Lib.hid (Tw.out.keep B Tw.out.lt)
         have HB := Lib.hid (HB.out.trans (B.mono HB.out.size))
         (try go_wp2_with fail)
         refine hK.out _ _ ?_ (fun hHeld => ?_)
         ·
          exact hHeld.keep B hHeld.lt
         clear hK K
         (try simp only [Act.put, List.setIfInBounds_toArray, List.set_cons_zero, List.set_cons_succ])
         clear B
         refine wpAnyH_ready (rs := [3, 7]) (by kernel_rfl) (by simp) ?_
         refine AllReadyH.cons (o := ({ dst := some 100, op := Go.Op.call { callee := Go.Callee.value (Go.Operand.func 39), args := #[Go.Operand.tmp 97, Go.Operand.tmp 99], argTypes := #[23, 23] }, type := 36, pos := "law.go:241", after := #[{ on := 0, ground := Go.Ground.data }, { on := 2, ground := Go.Ground.data }, { on := 2, ground := Go.Ground.chain }], guard := none } : Oper)) rfl (fun K hK => ?_) ?_
         ·
          go_simp
          go_at_call 39
          refine (Hcu.out _).mono ?_
          rintro e Wna16_2 ⟨rfl, B⟩
          have Rq := Lib.hid (Rq.out.keep B Rq.out.lt)
          have Aa := Lib.hid (Aa.out.keep B Aa.out.lt)
          have Bb := Lib.hid (Bb.out.keep B Bb.out.lt)
          have Cc := Lib.hid (Cc.out.keep B Cc.out.lt)
          have Ag := Lib.hid (Ag.out.keep B Ag.out.lt)
          have Tw := Lib.hid (Tw.out.keep B Tw.out.lt)
          have HB := Lib.hid (HB.out.trans (B.mono HB.out.size))
          (try go_wp2_with fail)
          refine hK.out _ _ ?_ (fun hHeld => ?_)
          ·
           exact hHeld.keep B hHeld.lt
          clear hK K
          (try simp only [Act.put, List.setIfInBounds_toArray, List.set_cons_zero, List.set_cons_succ])
          clear B
          refine wpAnyH_take (i := 4) (oi := ({ dst := some 96, op := Go.Op.move (Go.Operand.tmp 100), type := 36, pos := "law.go:241", after := #[{ on := 3, ground := Go.Ground.data }], guard := none } : Oper)) (v := ?v4_3na_16_4) rfl (by kernel_rfl) (by kernel_rfl) (by kernel_rfl) (fun _ _ _ h => h) (Or.inl ⟨by rfl, ?hy4_3na_16_4⟩) (by assumption) ?re4_3na_16_4
          case hy4_3na_16_4 => (intro w hSw; go_simp) <;> with_reducible rfl
          (try simp only [Act.put, List.setIfInBounds_toArray, List.set_cons_zero, List.set_cons_succ])
          refine wpAnyH_take (i := 5) (oi := ({ dst := some 101, op := Go.Op.extract (Go.Operand.tmp 96) 0, type := 23, pos := "law.go:241", after := #[{ on := 4, ground := Go.Ground.data }], guard := none } : Oper)) (v := ?v5_4na_16_4) rfl (by kernel_rfl) (by kernel_rfl) (by kernel_rfl) (fun _ _ _ h => h) (Or.inl ⟨by rfl, ?hy5_4na_16_4⟩) (by assumption) ?re5_4na_16_4
          case hy5_4na_16_4 => (intro w hSw; go_simp) <;> with_reducible rfl
          (try simp only [Act.put, List.setIfInBounds_toArray, List.set_cons_zero, List.set_cons_succ])
          refine wpAnyH_take (i := 6) (oi := ({ dst := some 102, op := Go.Op.extract (Go.Operand.tmp 96) 1, type := 32, pos := "law.go:241", after := #[{ on := 4, ground := Go.Ground.data }, { on := 8, ground := Go.Ground.gcOnly Go.Departure.lateStores }], guard := none } : Oper)) (v := ?v6_5na_16_4) rfl (by kernel_rfl) (by kernel_rfl) (by kernel_rfl) (fun _ _ _ h => h) (Or.inl ⟨by rfl, ?hy6_5na_16_4⟩) (by assumption) ?re6_5na_16_4
          case hy6_5na_16_4 => (intro w hSw; go_simp) <;> with_reducible rfl
          (try simp only [Act.put, List.setIfInBounds_toArray, List.set_cons_zero, List.set_cons_succ])
          refine wpAnyH_ready (rs := [7]) (by kernel_rfl) (by simp) ?_
          refine AllReadyH.cons (o := ({ dst := some 19, op := Go.Op.alloc 23, type := 0, pos := "law.go:241", after := #[], guard := none } : Oper)) rfl (fun K hK => ?_) ?_
          ·
           go_simp
           obtain ⟨WAna16_3, hWAna16_3⟩ : ∃ W, W = (Wna16_2.alloc (.cells #[.string ⟨#[]⟩, .string ⟨#[]⟩] 23)) := ⟨_, rfl⟩
           rw [← hWAna16_3]
           have Nn : Hid (RBlk WAna16_3 Wna16_2.heap.size (.string ⟨#[]⟩) (.string ⟨#[]⟩)) := Lib.hid (by rw [hWAna16_3]; exact RBlk.new Wna16_2 (.string ⟨#[]⟩) (.string ⟨#[]⟩))
           have gNn : w.heap.size ≤ Wna16_2.heap.size := HB.out.size
           have neNnRq : (W2.heap.size) ≠ Wna16_2.heap.size := Nat.ne_of_lt Rq.out.lt
           have neNnAa : (Wn1.heap.size) ≠ Wna16_2.heap.size := Nat.ne_of_lt Aa.out.lt
           have neNnBb : (Wn2.heap.size) ≠ Wna16_2.heap.size := Nat.ne_of_lt Bb.out.lt
           have neNnCc : (Wn4.heap.size) ≠ Wna16_2.heap.size := Nat.ne_of_lt Cc.out.lt
           have neNnAg : (Wna1.heap.size) ≠ Wna16_2.heap.size := Nat.ne_of_lt Ag.out.lt
           have neNnTw : (Wna2.heap.size) ≠ Wna16_2.heap.size := Nat.ne_of_lt Tw.out.lt
           have hk : (fun W => RBlk W (Wn1.heap.size) (.string fa1) (.string fa2)) WAna16_3 := by rw [hWAna16_3]; exact hHeld.alloc _
           have Rq : Hid (RBlk WAna16_3 (W2.heap.size) (.string q1) (.string q2)) := Lib.hid (by rw [hWAna16_3]; exact Rq.out.alloc _)
           have Aa : Hid (RBlk WAna16_3 (Wn1.heap.size) (.string fa1) (.string fa2)) := Lib.hid (by rw [hWAna16_3]; exact Aa.out.alloc _)
           have Bb : Hid (RBlk WAna16_3 (Wn2.heap.size) (.string fb1) (.string fb2)) := Lib.hid (by rw [hWAna16_3]; exact Bb.out.alloc _)
           have Cc : Hid (RBlk WAna16_3 (Wn4.heap.size) (.string fc1) (.string fc2)) := Lib.hid (by rw [hWAna16_3]; exact Cc.out.alloc _)
           have Ag : Hid (RBlk WAna16_3 (Wna1.heap.size) (.string fb1) (.string fb2)) := Lib.hid (by rw [hWAna16_3]; exact Ag.out.alloc _)
           have Tw : Hid (RBlk WAna16_3 (Wna2.heap.size) (.string fa1) (.string fa2)) := Lib.hid (by rw [hWAna16_3]; exact Tw.out.alloc _)
           have HB : Hid (Below w.heap.size w WAna16_3) := Lib.hid (by rw [hWAna16_3]; exact HB.out.alloc HB.out.size _)
           clear hWAna16_3
           refine hK.out _ _ ?_ (fun hHeld => ?_)
           ·
            exact hk
           clear hK K
           (try simp only [Act.put, List.setIfInBounds_toArray, List.set_cons_zero, List.set_cons_succ])
           clear hk
           refine wpAnyH_ready (rs := [8]) (by kernel_rfl) (by simp) ?_
           refine AllReadyH.cons (o := ({ dst := none, op := Go.Op.store 23 (Go.Operand.tmp 19) (Go.Operand.tmp 101), type := 0, pos := "law.go:241", after := #[{ on := 7, ground := Go.Ground.data }, { on := 5, ground := Go.Ground.data }, { on := 3, ground := Go.Ground.chain }, { on := 0, ground := Go.Ground.phase }, { on := 1, ground := Go.Ground.phase }, { on := 2, ground := Go.Ground.phase }, { on := 3, ground := Go.Ground.phase }, { on := 4, ground := Go.Ground.phase }, { on := 5, ground := Go.Ground.phase }, { on := 6, ground := Go.Ground.textOnly Go.Departure.lateStores }, { on := 7, ground := Go.Ground.phase }], guard := none } : Oper)) rfl (fun K hK => ?_) ?_
           ·
            have c0 := Nn.out.c0
            have c1 := Nn.out.c1
            have f0 := Nn.out.f 0
            have f1 := Nn.out.f 1
            have hs := Nn.out.s0 (.string ds)
            have d1 := hs.c1
            have g1 := hs.f 1
            go_simp
            have Nnn := Lib.hid (hs.s1 (.string ⟨#[49]⟩))
            have Rqn := Lib.hid ((Rq.out.other ⟨Wna16_2.heap.size, 0, none⟩ (.string ds) neNnRq).other ⟨Wna16_2.heap.size, 1, none⟩ (.string ⟨#[49]⟩) neNnRq)
            have Aan := Lib.hid ((Aa.out.other ⟨Wna16_2.heap.size, 0, none⟩ (.string ds) neNnAa).other ⟨Wna16_2.heap.size, 1, none⟩ (.string ⟨#[49]⟩) neNnAa)
            have Bbn := Lib.hid ((Bb.out.other ⟨Wna16_2.heap.size, 0, none⟩ (.string ds) neNnBb).other ⟨Wna16_2.heap.size, 1, none⟩ (.string ⟨#[49]⟩) neNnBb)
            have Ccn := Lib.hid ((Cc.out.other ⟨Wna16_2.heap.size, 0, none⟩ (.string ds) neNnCc).other ⟨Wna16_2.heap.size, 1, none⟩ (.string ⟨#[49]⟩) neNnCc)
            have Agn := Lib.hid ((Ag.out.other ⟨Wna16_2.heap.size, 0, none⟩ (.string ds) neNnAg).other ⟨Wna16_2.heap.size, 1, none⟩ (.string ⟨#[49]⟩) neNnAg)
            have Twn := Lib.hid ((Tw.out.other ⟨Wna16_2.heap.size, 0, none⟩ (.string ds) neNnTw).other ⟨Wna16_2.heap.size, 1, none⟩ (.string ⟨#[49]⟩) neNnTw)
            have HBn := Lib.hid ((HB.out.setCell (p := ⟨Wna16_2.heap.size, 0, none⟩) gNn (.string ds)).setCell (p := ⟨Wna16_2.heap.size, 1, none⟩) gNn (.string ⟨#[49]⟩))
            clear hs c0 c1 f0 f1 d1 g1
            have Nn := Nnn
            have Rq := Rqn
            have Aa := Aan
            have Bb := Bbn
            have Cc := Ccn
            have Ag := Agn
            have Tw := Twn
            have HB := HBn
            clear Nnn Rqn Aan Bbn Ccn Agn Twn HBn
            refine hK.out _ _ ?_ (fun hHeld => ?_)
            ·
             exact (hHeld.other ⟨Wna16_2.heap.size, 0, none⟩ (.string ds) neNnAa).other ⟨Wna16_2.heap.size, 1, none⟩ (.string ⟨#[49]⟩) neNnAa
            clear hK K
            (try simp only [Act.put, List.setIfInBounds_toArray, List.set_cons_zero, List.set_cons_succ])
            refine wpAnyH_take (i := 9) (oi := ({ dst := some 20, op := Go.Op.assign (Go.Operand.tmp 102), type := 32, pos := "law.go:241", after := #[{ on := 6, ground := Go.Ground.data }, { on := 8, ground := Go.Ground.chain }, { on := 0, ground := Go.Ground.phase }, { on := 1, ground := Go.Ground.phase }, { on := 2, ground := Go.Ground.phase }, { on := 3, ground := Go.Ground.phase }, { on := 4, ground := Go.Ground.phase }, { on := 5, ground := Go.Ground.phase }, { on := 6, ground := Go.Ground.phase }, { on := 7, ground := Go.Ground.phase }, { on := 8, ground := Go.Ground.phase }], guard := none } : Oper)) (v := ?v9_6na_16_4) rfl (by kernel_rfl) (by kernel_rfl) (by kernel_rfl) (fun _ _ _ h => h) (Or.inl ⟨by rfl, ?hy9_6na_16_4⟩) (by assumption) ?re9_6na_16_4
            case hy9_6na_16_4 => (intro w hSw; go_simp) <;> with_reducible rfl
            (try simp only [Act.put, List.setIfInBounds_toArray, List.set_cons_zero, List.set_cons_succ])
            refine wpAnyH_done (by kernel_rfl) ?_ _
            refine NoPanic.normal ?_
            generalize hWJ : ((WAna16_3.setCell ⟨Wna16_2.heap.size, 0, none⟩ (.string ds)).setCell ⟨Wna16_2.heap.size, 1, none⟩ (.string ⟨#[49]⟩)) = WJ at *
            clear hWJ
            generalize hgJ : Wna16_2.heap.size = gJ at *
            clear hgJ
            exact HJ gJ WJ (Lib.hid ⟨Rq.out, Aa.out, Bb.out, Cc.out, Ag.out, Tw.out, Nn.out, HB.out⟩)
           exact AllReadyH.nil
          exact AllReadyH.nil
         refine AllReadyH.cons (o := ({ dst := some 19, op := Go.Op.alloc 23, type := 0, pos := "law.go:241", after := #[], guard := none } : Oper)) rfl (fun K hK => ?_) ?_
         ·
          go_simp
          obtain ⟨WAna16_5, hWAna16_5⟩ : ∃ W, W = (Wna16_1.alloc (.cells #[.string ⟨#[]⟩, .string ⟨#[]⟩] 23)) := ⟨_, rfl⟩
          rw [← hWAna16_5]
          have Nn : Hid (RBlk WAna16_5 Wna16_1.heap.size (.string ⟨#[]⟩) (.string ⟨#[]⟩)) := Lib.hid (by rw [hWAna16_5]; exact RBlk.new Wna16_1 (.string ⟨#[]⟩) (.string ⟨#[]⟩))
          have gNn : w.heap.size ≤ Wna16_1.heap.size := HB.out.size
          have neNnRq : (W2.heap.size) ≠ Wna16_1.heap.size := Nat.ne_of_lt Rq.out.lt
          have neNnAa : (Wn1.heap.size) ≠ Wna16_1.heap.size := Nat.ne_of_lt Aa.out.lt
          have neNnBb : (Wn2.heap.size) ≠ Wna16_1.heap.size := Nat.ne_of_lt Bb.out.lt
          have neNnCc : (Wn4.heap.size) ≠ Wna16_1.heap.size := Nat.ne_of_lt Cc.out.lt
          have neNnAg : (Wna1.heap.size) ≠ Wna16_1.heap.size := Nat.ne_of_lt Ag.out.lt
          have neNnTw : (Wna2.heap.size) ≠ Wna16_1.heap.size := Nat.ne_of_lt Tw.out.lt
          have hk : (fun W => RBlk W (Wn1.heap.size) (.string fa1) (.string fa2)) WAna16_5 := by rw [hWAna16_5]; exact hHeld.alloc _
          have Rq : Hid (RBlk WAna16_5 (W2.heap.size) (.string q1) (.string q2)) := Lib.hid (by rw [hWAna16_5]; exact Rq.out.alloc _)
          have Aa : Hid (RBlk WAna16_5 (Wn1.heap.size) (.string fa1) (.string fa2)) := Lib.hid (by rw [hWAna16_5]; exact Aa.out.alloc _)
          have Bb : Hid (RBlk WAna16_5 (Wn2.heap.size) (.string fb1) (.string fb2)) := Lib.hid (by rw [hWAna16_5]; exact Bb.out.alloc _)
          have Cc : Hid (RBlk WAna16_5 (Wn4.heap.size) (.string fc1) (.string fc2)) := Lib.hid (by rw [hWAna16_5]; exact Cc.out.alloc _)
          have Ag : Hid (RBlk WAna16_5 (Wna1.heap.size) (.string fb1) (.string fb2)) := Lib.hid (by rw [hWAna16_5]; exact Ag.out.alloc _)
          have Tw : Hid (RBlk WAna16_5 (Wna2.heap.size) (.string fa1) (.string fa2)) := Lib.hid (by rw [hWAna16_5]; exact Tw.out.alloc _)
          have HB : Hid (Below w.heap.size w WAna16_5) := Lib.hid (by rw [hWAna16_5]; exact HB.out.alloc HB.out.size _)
          clear hWAna16_5
          refine hK.out _ _ ?_ (fun hHeld => ?_)
          ·
           exact hk
          clear hK K
          (try simp only [Act.put, List.setIfInBounds_toArray, List.set_cons_zero, List.set_cons_succ])
          clear hk
          refine wpAnyH_ready (rs := [3]) (by kernel_rfl) (by simp) ?_
          refine AllReadyH.cons (o := ({ dst := some 100, op := Go.Op.call { callee := Go.Callee.value (Go.Operand.func 39), args := #[Go.Operand.tmp 97, Go.Operand.tmp 99], argTypes := #[23, 23] }, type := 36, pos := "law.go:241", after := #[{ on := 0, ground := Go.Ground.data }, { on := 2, ground := Go.Ground.data }, { on := 2, ground := Go.Ground.chain }], guard := none } : Oper)) rfl (fun K hK => ?_) ?_
          ·
           go_simp
           go_at_call 39
           refine (Hcu.out _).mono ?_
           rintro e Wna16_6 ⟨rfl, B⟩
           have Rq := Lib.hid (Rq.out.keep B Rq.out.lt)
           have Aa := Lib.hid (Aa.out.keep B Aa.out.lt)
           have Bb := Lib.hid (Bb.out.keep B Bb.out.lt)
           have Cc := Lib.hid (Cc.out.keep B Cc.out.lt)
           have Ag := Lib.hid (Ag.out.keep B Ag.out.lt)
           have Tw := Lib.hid (Tw.out.keep B Tw.out.lt)
           have Nn := Lib.hid (Nn.out.keep B Nn.out.lt)
           have HB := Lib.hid (HB.out.trans (B.mono HB.out.size))
           (try go_wp2_with fail)
           refine hK.out _ _ ?_ (fun hHeld => ?_)
           ·
            exact hHeld.keep B hHeld.lt
           clear hK K
           (try simp only [Act.put, List.setIfInBounds_toArray, List.set_cons_zero, List.set_cons_succ])
           clear B
           refine wpAnyH_take (i := 4) (oi := ({ dst := some 96, op := Go.Op.move (Go.Operand.tmp 100), type := 36, pos := "law.go:241", after := #[{ on := 3, ground := Go.Ground.data }], guard := none } : Oper)) (v := ?v4_7na_16_4) rfl (by kernel_rfl) (by kernel_rfl) (by kernel_rfl) (fun _ _ _ h => h) (Or.inl ⟨by rfl, ?hy4_7na_16_4⟩) (by assumption) ?re4_7na_16_4
           case hy4_7na_16_4 => (intro w hSw; go_simp) <;> with_reducible rfl
           (try simp only [Act.put, List.setIfInBounds_toArray, List.set_cons_zero, List.set_cons_succ])
           refine wpAnyH_take (i := 5) (oi := ({ dst := some 101, op := Go.Op.extract (Go.Operand.tmp 96) 0, type := 23, pos := "law.go:241", after := #[{ on := 4, ground := Go.Ground.data }], guard := none } : Oper)) (v := ?v5_8na_16_4) rfl (by kernel_rfl) (by kernel_rfl) (by kernel_rfl) (fun _ _ _ h => h) (Or.inl ⟨by rfl, ?hy5_8na_16_4⟩) (by assumption) ?re5_8na_16_4
           case hy5_8na_16_4 => (intro w hSw; go_simp) <;> with_reducible rfl
           (try simp only [Act.put, List.setIfInBounds_toArray, List.set_cons_zero, List.set_cons_succ])
           refine wpAnyH_take (i := 6) (oi := ({ dst := some 102, op := Go.Op.extract (Go.Operand.tmp 96) 1, type := 32, pos := "law.go:241", after := #[{ on := 4, ground := Go.Ground.data }, { on := 8, ground := Go.Ground.gcOnly Go.Departure.lateStores }], guard := none } : Oper)) (v := ?v6_9na_16_4) rfl (by kernel_rfl) (by kernel_rfl) (by kernel_rfl) (fun _ _ _ h => h) (Or.inl ⟨by rfl, ?hy6_9na_16_4⟩) (by assumption) ?re6_9na_16_4
           case hy6_9na_16_4 => (intro w hSw; go_simp) <;> with_reducible rfl
           (try simp only [Act.put, List.setIfInBounds_toArray, List.set_cons_zero, List.set_cons_succ])
           refine wpAnyH_ready (rs := [8]) (by kernel_rfl) (by simp) ?_
           refine AllReadyH.cons (o := ({ dst := none, op := Go.Op.store 23 (Go.Operand.tmp 19) (Go.Operand.tmp 101), type := 0, pos := "law.go:241", after := #[{ on := 7, ground := Go.Ground.data }, { on := 5, ground := Go.Ground.data }, { on := 3, ground := Go.Ground.chain }, { on := 0, ground := Go.Ground.phase }, { on := 1, ground := Go.Ground.phase }, { on := 2, ground := Go.Ground.phase }, { on := 3, ground := Go.Ground.phase }, { on := 4, ground := Go.Ground.phase }, { on := 5, ground := Go.Ground.phase }, { on := 6, ground := Go.Ground.textOnly Go.Departure.lateStores }, { on := 7, ground := Go.Ground.phase }], guard := none } : Oper)) rfl (fun K hK => ?_) ?_
           ·
            have c0 := Nn.out.c0
            have c1 := Nn.out.c1
            have f0 := Nn.out.f 0
            have f1 := Nn.out.f 1
            have hs := Nn.out.s0 (.string ds)
            have d1 := hs.c1
            have g1 := hs.f 1
            go_simp
            have Nnn := Lib.hid (hs.s1 (.string ⟨#[49]⟩))
            have Rqn := Lib.hid ((Rq.out.other ⟨Wna16_1.heap.size, 0, none⟩ (.string ds) neNnRq).other ⟨Wna16_1.heap.size, 1, none⟩ (.string ⟨#[49]⟩) neNnRq)
            have Aan := Lib.hid ((Aa.out.other ⟨Wna16_1.heap.size, 0, none⟩ (.string ds) neNnAa).other ⟨Wna16_1.heap.size, 1, none⟩ (.string ⟨#[49]⟩) neNnAa)
            have Bbn := Lib.hid ((Bb.out.other ⟨Wna16_1.heap.size, 0, none⟩ (.string ds) neNnBb).other ⟨Wna16_1.heap.size, 1, none⟩ (.string ⟨#[49]⟩) neNnBb)
            have Ccn := Lib.hid ((Cc.out.other ⟨Wna16_1.heap.size, 0, none⟩ (.string ds) neNnCc).other ⟨Wna16_1.heap.size, 1, none⟩ (.string ⟨#[49]⟩) neNnCc)
            have Agn := Lib.hid ((Ag.out.other ⟨Wna16_1.heap.size, 0, none⟩ (.string ds) neNnAg).other ⟨Wna16_1.heap.size, 1, none⟩ (.string ⟨#[49]⟩) neNnAg)
            have Twn := Lib.hid ((Tw.out.other ⟨Wna16_1.heap.size, 0, none⟩ (.string ds) neNnTw).other ⟨Wna16_1.heap.size, 1, none⟩ (.string ⟨#[49]⟩) neNnTw)
            have HBn := Lib.hid ((HB.out.setCell (p := ⟨Wna16_1.heap.size, 0, none⟩) gNn (.string ds)).setCell (p := ⟨Wna16_1.heap.size, 1, none⟩) gNn (.string ⟨#[49]⟩))
            clear hs c0 c1 f0 f1 d1 g1
            have Nn := Nnn
            have Rq := Rqn
            have Aa := Aan
            have Bb := Bbn
            have Cc := Ccn
            have Ag := Agn
            have Tw := Twn
            have HB := HBn
            clear Nnn Rqn Aan Bbn Ccn Agn Twn HBn
            refine hK.out _ _ ?_ (fun hHeld => ?_)
            ·
             exact (hHeld.other ⟨Wna16_1.heap.size, 0, none⟩ (.string ds) neNnAa).other ⟨Wna16_1.heap.size, 1, none⟩ (.string ⟨#[49]⟩) neNnAa
            clear hK K
            (try simp only [Act.put, List.setIfInBounds_toArray, List.set_cons_zero, List.set_cons_succ])
            refine wpAnyH_take (i := 9) (oi := ({ dst := some 20, op := Go.Op.assign (Go.Operand.tmp 102), type := 32, pos := "law.go:241", after := #[{ on := 6, ground := Go.Ground.data }, { on := 8, ground := Go.Ground.chain }, { on := 0, ground := Go.Ground.phase }, { on := 1, ground := Go.Ground.phase }, { on := 2, ground := Go.Ground.phase }, { on := 3, ground := Go.Ground.phase }, { on := 4, ground := Go.Ground.phase }, { on := 5, ground := Go.Ground.phase }, { on := 6, ground := Go.Ground.phase }, { on := 7, ground := Go.Ground.phase }, { on := 8, ground := Go.Ground.phase }], guard := none } : Oper)) (v := ?v9_10na_16_4) rfl (by kernel_rfl) (by kernel_rfl) (by kernel_rfl) (fun _ _ _ h => h) (Or.inl ⟨by rfl, ?hy9_10na_16_4⟩) (by assumption) ?re9_10na_16_4
            case hy9_10na_16_4 => (intro w hSw; go_simp) <;> with_reducible rfl
            (try simp only [Act.put, List.setIfInBounds_toArray, List.set_cons_zero, List.set_cons_succ])
            refine wpAnyH_done (by kernel_rfl) ?_ _
            refine NoPanic.normal ?_
            generalize hWJ : ((Wna16_6.setCell ⟨Wna16_1.heap.size, 0, none⟩ (.string ds)).setCell ⟨Wna16_1.heap.size, 1, none⟩ (.string ⟨#[49]⟩)) = WJ at *
            clear hWJ
            generalize hgJ : Wna16_1.heap.size = gJ at *
            clear hgJ
            exact HJ gJ WJ (Lib.hid ⟨Rq.out, Aa.out, Bb.out, Cc.out, Ag.out, Tw.out, Nn.out, HB.out⟩)
           exact AllReadyH.nil
          exact AllReadyH.nil
         exact AllReadyH.nil
        refine AllReadyH.cons (o := ({ dst := some 19, op := Go.Op.alloc 23, type := 0, pos := "law.go:241", after := #[], guard := none } : Oper)) rfl (fun K hK => ?_) ?_
        ·
         go_simp
         obtain ⟨WAna16_8, hWAna16_8⟩ : ∃ W, W = (W0na16.alloc (.cells #[.string ⟨#[]⟩, .string ⟨#[]⟩] 23)).drew := ⟨_, rfl⟩
         rw [← hWAna16_8]
         have Nn : Hid (RBlk WAna16_8 W0na16.heap.size (.string ⟨#[]⟩) (.string ⟨#[]⟩)) := Lib.hid (by rw [hWAna16_8]; exact RBlk.new W0na16 (.string ⟨#[]⟩) (.string ⟨#[]⟩))
         have gNn : w.heap.size ≤ W0na16.heap.size := HB.out.size
         have neNnRq : (W2.heap.size) ≠ W0na16.heap.size := Nat.ne_of_lt Rq.out.lt
         have neNnAa : (Wn1.heap.size) ≠ W0na16.heap.size := Nat.ne_of_lt Aa.out.lt
         have neNnBb : (Wn2.heap.size) ≠ W0na16.heap.size := Nat.ne_of_lt Bb.out.lt
         have neNnCc : (Wn4.heap.size) ≠ W0na16.heap.size := Nat.ne_of_lt Cc.out.lt
         have neNnAg : (Wna1.heap.size) ≠ W0na16.heap.size := Nat.ne_of_lt Ag.out.lt
         have neNnTw : (Wna2.heap.size) ≠ W0na16.heap.size := Nat.ne_of_lt Tw.out.lt
         have hk : (fun W => RBlk W (Wn1.heap.size) (.string fa1) (.string fa2)) WAna16_8 := by rw [hWAna16_8]; exact hHeld.alloc _
         have Rq : Hid (RBlk WAna16_8 (W2.heap.size) (.string q1) (.string q2)) := Lib.hid (by rw [hWAna16_8]; exact Rq.out.alloc _)
         have Aa : Hid (RBlk WAna16_8 (Wn1.heap.size) (.string fa1) (.string fa2)) := Lib.hid (by rw [hWAna16_8]; exact Aa.out.alloc _)
         have Bb : Hid (RBlk WAna16_8 (Wn2.heap.size) (.string fb1) (.string fb2)) := Lib.hid (by rw [hWAna16_8]; exact Bb.out.alloc _)
         have Cc : Hid (RBlk WAna16_8 (Wn4.heap.size) (.string fc1) (.string fc2)) := Lib.hid (by rw [hWAna16_8]; exact Cc.out.alloc _)
         have Ag : Hid (RBlk WAna16_8 (Wna1.heap.size) (.string fb1) (.string fb2)) := Lib.hid (by rw [hWAna16_8]; exact Ag.out.alloc _)
         have Tw : Hid (RBlk WAna16_8 (Wna2.heap.size) (.string fa1) (.string fa2)) := Lib.hid (by rw [hWAna16_8]; exact Tw.out.alloc _)
         have HB : Hid (Below w.heap.size w WAna16_8) := Lib.hid (by rw [hWAna16_8]; exact HB.out.alloc HB.out.size _)
         clear hWAna16_8
         refine hK.out _ _ ?_ (fun hHeld => ?_)
         ·
          exact hk
         clear hK K
         (try simp only [Act.put, List.setIfInBounds_toArray, List.set_cons_zero, List.set_cons_succ])
         clear hk
         refine wpAnyH_ready (rs := [2]) (by kernel_rfl) (by simp) ?_
         refine AllReadyH.cons (o := ({ dst := some 99, op := Go.Op.call { callee := Go.Callee.value (Go.Operand.func 41), args := #[Go.Operand.tmp 98, Go.Operand.const (Go.Value.string { data := #[49] })], argTypes := #[9, 9] }, type := 23, pos := "law.go:241", after := #[{ on := 1, ground := Go.Ground.data }], guard := none } : Oper)) rfl (fun K hK => ?_) ?_
         ·
          go_simp
          go_at_call 41
          refine (is_any _ _ _).mono ?_
          rintro e Wna16_9 ⟨rfl, B⟩
          have Rq := Lib.hid (Rq.out.keep B Rq.out.lt)
          have Aa := Lib.hid (Aa.out.keep B Aa.out.lt)
          have Bb := Lib.hid (Bb.out.keep B Bb.out.lt)
          have Cc := Lib.hid (Cc.out.keep B Cc.out.lt)
          have Ag := Lib.hid (Ag.out.keep B Ag.out.lt)
          have Tw := Lib.hid (Tw.out.keep B Tw.out.lt)
          have Nn := Lib.hid (Nn.out.keep B Nn.out.lt)
          have HB := Lib.hid (HB.out.trans (B.mono HB.out.size))
          (try go_wp2_with fail)
          refine hK.out _ _ ?_ (fun hHeld => ?_)
          ·
           exact hHeld.keep B hHeld.lt
          clear hK K
          (try simp only [Act.put, List.setIfInBounds_toArray, List.set_cons_zero, List.set_cons_succ])
          clear B
          refine wpAnyH_ready (rs := [3]) (by kernel_rfl) (by simp) ?_
          refine AllReadyH.cons (o := ({ dst := some 100, op := Go.Op.call { callee := Go.Callee.value (Go.Operand.func 39), args := #[Go.Operand.tmp 97, Go.Operand.tmp 99], argTypes := #[23, 23] }, type := 36, pos := "law.go:241", after := #[{ on := 0, ground := Go.Ground.data }, { on := 2, ground := Go.Ground.data }, { on := 2, ground := Go.Ground.chain }], guard := none } : Oper)) rfl (fun K hK => ?_) ?_
          ·
           go_simp
           go_at_call 39
           refine (Hcu.out _).mono ?_
           rintro e Wna16_10 ⟨rfl, B⟩
           have Rq := Lib.hid (Rq.out.keep B Rq.out.lt)
           have Aa := Lib.hid (Aa.out.keep B Aa.out.lt)
           have Bb := Lib.hid (Bb.out.keep B Bb.out.lt)
           have Cc := Lib.hid (Cc.out.keep B Cc.out.lt)
           have Ag := Lib.hid (Ag.out.keep B Ag.out.lt)
           have Tw := Lib.hid (Tw.out.keep B Tw.out.lt)
           have Nn := Lib.hid (Nn.out.keep B Nn.out.lt)
           have HB := Lib.hid (HB.out.trans (B.mono HB.out.size))
           (try go_wp2_with fail)
           refine hK.out _ _ ?_ (fun hHeld => ?_)
           ·
            exact hHeld.keep B hHeld.lt
           clear hK K
           (try simp only [Act.put, List.setIfInBounds_toArray, List.set_cons_zero, List.set_cons_succ])
           clear B
           refine wpAnyH_take (i := 4) (oi := ({ dst := some 96, op := Go.Op.move (Go.Operand.tmp 100), type := 36, pos := "law.go:241", after := #[{ on := 3, ground := Go.Ground.data }], guard := none } : Oper)) (v := ?v4_11na_16_4) rfl (by kernel_rfl) (by kernel_rfl) (by kernel_rfl) (fun _ _ _ h => h) (Or.inl ⟨by rfl, ?hy4_11na_16_4⟩) (by assumption) ?re4_11na_16_4
           case hy4_11na_16_4 => (intro w hSw; go_simp) <;> with_reducible rfl
           (try simp only [Act.put, List.setIfInBounds_toArray, List.set_cons_zero, List.set_cons_succ])
           refine wpAnyH_take (i := 5) (oi := ({ dst := some 101, op := Go.Op.extract (Go.Operand.tmp 96) 0, type := 23, pos := "law.go:241", after := #[{ on := 4, ground := Go.Ground.data }], guard := none } : Oper)) (v := ?v5_12na_16_4) rfl (by kernel_rfl) (by kernel_rfl) (by kernel_rfl) (fun _ _ _ h => h) (Or.inl ⟨by rfl, ?hy5_12na_16_4⟩) (by assumption) ?re5_12na_16_4
           case hy5_12na_16_4 => (intro w hSw; go_simp) <;> with_reducible rfl
           (try simp only [Act.put, List.setIfInBounds_toArray, List.set_cons_zero, List.set_cons_succ])
           refine wpAnyH_take (i := 6) (oi := ({ dst := some 102, op := Go.Op.extract (Go.Operand.tmp 96) 1, type := 32, pos := "law.go:241", after := #[{ on := 4, ground := Go.Ground.data }, { on := 8, ground := Go.Ground.gcOnly Go.Departure.lateStores }], guard := none } : Oper)) (v := ?v6_13na_16_4) rfl (by kernel_rfl) (by kernel_rfl) (by kernel_rfl) (fun _ _ _ h => h) (Or.inl ⟨by rfl, ?hy6_13na_16_4⟩) (by assumption) ?re6_13na_16_4
           case hy6_13na_16_4 => (intro w hSw; go_simp) <;> with_reducible rfl
           (try simp only [Act.put, List.setIfInBounds_toArray, List.set_cons_zero, List.set_cons_succ])
           refine wpAnyH_ready (rs := [8]) (by kernel_rfl) (by simp) ?_
           refine AllReadyH.cons (o := ({ dst := none, op := Go.Op.store 23 (Go.Operand.tmp 19) (Go.Operand.tmp 101), type := 0, pos := "law.go:241", after := #[{ on := 7, ground := Go.Ground.data }, { on := 5, ground := Go.Ground.data }, { on := 3, ground := Go.Ground.chain }, { on := 0, ground := Go.Ground.phase }, { on := 1, ground := Go.Ground.phase }, { on := 2, ground := Go.Ground.phase }, { on := 3, ground := Go.Ground.phase }, { on := 4, ground := Go.Ground.phase }, { on := 5, ground := Go.Ground.phase }, { on := 6, ground := Go.Ground.textOnly Go.Departure.lateStores }, { on := 7, ground := Go.Ground.phase }], guard := none } : Oper)) rfl (fun K hK => ?_) ?_
           ·
            have c0 := Nn.out.c0
            have c1 := Nn.out.c1
            have f0 := Nn.out.f 0
            have f1 := Nn.out.f 1
            have hs := Nn.out.s0 (.string ds)
            have d1 := hs.c1
            have g1 := hs.f 1
            go_simp
            have Nnn := Lib.hid (hs.s1 (.string ⟨#[49]⟩))
            have Rqn := Lib.hid ((Rq.out.other ⟨W0na16.heap.size, 0, none⟩ (.string ds) neNnRq).other ⟨W0na16.heap.size, 1, none⟩ (.string ⟨#[49]⟩) neNnRq)
            have Aan := Lib.hid ((Aa.out.other ⟨W0na16.heap.size, 0, none⟩ (.string ds) neNnAa).other ⟨W0na16.heap.size, 1, none⟩ (.string ⟨#[49]⟩) neNnAa)
            have Bbn := Lib.hid ((Bb.out.other ⟨W0na16.heap.size, 0, none⟩ (.string ds) neNnBb).other ⟨W0na16.heap.size, 1, none⟩ (.string ⟨#[49]⟩) neNnBb)
            have Ccn := Lib.hid ((Cc.out.other ⟨W0na16.heap.size, 0, none⟩ (.string ds) neNnCc).other ⟨W0na16.heap.size, 1, none⟩ (.string ⟨#[49]⟩) neNnCc)
            have Agn := Lib.hid ((Ag.out.other ⟨W0na16.heap.size, 0, none⟩ (.string ds) neNnAg).other ⟨W0na16.heap.size, 1, none⟩ (.string ⟨#[49]⟩) neNnAg)
            have Twn := Lib.hid ((Tw.out.other ⟨W0na16.heap.size, 0, none⟩ (.string ds) neNnTw).other ⟨W0na16.heap.size, 1, none⟩ (.string ⟨#[49]⟩) neNnTw)
            have HBn := Lib.hid ((HB.out.setCell (p := ⟨W0na16.heap.size, 0, none⟩) gNn (.string ds)).setCell (p := ⟨W0na16.heap.size, 1, none⟩) gNn (.string ⟨#[49]⟩))
            clear hs c0 c1 f0 f1 d1 g1
            have Nn := Nnn
            have Rq := Rqn
            have Aa := Aan
            have Bb := Bbn
            have Cc := Ccn
            have Ag := Agn
            have Tw := Twn
            have HB := HBn
            clear Nnn Rqn Aan Bbn Ccn Agn Twn HBn
            refine hK.out _ _ ?_ (fun hHeld => ?_)
            ·
             exact (hHeld.other ⟨W0na16.heap.size, 0, none⟩ (.string ds) neNnAa).other ⟨W0na16.heap.size, 1, none⟩ (.string ⟨#[49]⟩) neNnAa
            clear hK K
            (try simp only [Act.put, List.setIfInBounds_toArray, List.set_cons_zero, List.set_cons_succ])
            refine wpAnyH_take (i := 9) (oi := ({ dst := some 20, op := Go.Op.assign (Go.Operand.tmp 102), type := 32, pos := "law.go:241", after := #[{ on := 6, ground := Go.Ground.data }, { on := 8, ground := Go.Ground.chain }, { on := 0, ground := Go.Ground.phase }, { on := 1, ground := Go.Ground.phase }, { on := 2, ground := Go.Ground.phase }, { on := 3, ground := Go.Ground.phase }, { on := 4, ground := Go.Ground.phase }, { on := 5, ground := Go.Ground.phase }, { on := 6, ground := Go.Ground.phase }, { on := 7, ground := Go.Ground.phase }, { on := 8, ground := Go.Ground.phase }], guard := none } : Oper)) (v := ?v9_14na_16_4) rfl (by kernel_rfl) (by kernel_rfl) (by kernel_rfl) (fun _ _ _ h => h) (Or.inl ⟨by rfl, ?hy9_14na_16_4⟩) (by assumption) ?re9_14na_16_4
            case hy9_14na_16_4 => (intro w hSw; go_simp) <;> with_reducible rfl
            (try simp only [Act.put, List.setIfInBounds_toArray, List.set_cons_zero, List.set_cons_succ])
            refine wpAnyH_done (by kernel_rfl) ?_ _
            refine NoPanic.normal ?_
            generalize hWJ : ((Wna16_10.setCell ⟨W0na16.heap.size, 0, none⟩ (.string ds)).setCell ⟨W0na16.heap.size, 1, none⟩ (.string ⟨#[49]⟩)) = WJ at *
            clear hWJ
            generalize hgJ : W0na16.heap.size = gJ at *
            clear hgJ
            exact HJ gJ WJ (Lib.hid ⟨Rq.out, Aa.out, Bb.out, Cc.out, Ag.out, Tw.out, Nn.out, HB.out⟩)
           exact AllReadyH.nil
          exact AllReadyH.nil
         exact AllReadyH.nil
        exact AllReadyH.nil
       case r =>
        clear Rq Aa Bb Cc Ag Tw HB
        intro gJna16 WJna16 hF
        obtain ⟨Rq', Aa', Bb', Cc', Ag', Tw', Nn', HB'⟩ := hF.out
        have Rq := Lib.hid Rq'
        have Aa := Lib.hid Aa'
        have Bb := Lib.hid Bb'
        have Cc := Lib.hid Cc'
        have Ag := Lib.hid Ag'
        have Tw := Lib.hid Tw'
        have Nn := Lib.hid Nn'
        have HB := Lib.hid HB'
        clear hF Rq' Aa' Bb' Cc' Ag' Tw' Nn' HB'
        have Aac0 := Aa.out.c0
        have Aac1 := Aa.out.c1
        have Bbc0 := Bb.out.c0
        have Bbc1 := Bb.out.c1
        (try go_wp2_with fail)
        clear Aac0 Aac1 Bbc0 Bbc1
        go_at_call 40
        refine (Hcs.out _).mono ?_
        rintro e Wnb1 ⟨rfl, B⟩
        have Rqn := Lib.hid ((Rq.out.keep B Rq.out.lt).alloc (.cells #[(.string ⟨#[49]⟩), (.string ts)] 23))
        have Aan := Lib.hid ((Aa.out.keep B Aa.out.lt).alloc (.cells #[(.string ⟨#[49]⟩), (.string ts)] 23))
        have Bbn := Lib.hid ((Bb.out.keep B Bb.out.lt).alloc (.cells #[(.string ⟨#[49]⟩), (.string ts)] 23))
        have Ccn := Lib.hid ((Cc.out.keep B Cc.out.lt).alloc (.cells #[(.string ⟨#[49]⟩), (.string ts)] 23))
        have Agn := Lib.hid ((Ag.out.keep B Ag.out.lt).alloc (.cells #[(.string ⟨#[49]⟩), (.string ts)] 23))
        have Twn := Lib.hid ((Tw.out.keep B Tw.out.lt).alloc (.cells #[(.string ⟨#[49]⟩), (.string ts)] 23))
        have Nnn := Lib.hid ((Nn.out.keep B Nn.out.lt).alloc (.cells #[(.string ⟨#[49]⟩), (.string ts)] 23))
        have HBn := Lib.hid ((HB.out.trans (B.mono HB.out.size)).alloc (HB.out.trans (B.mono HB.out.size)).size (.cells #[(.string ⟨#[49]⟩), (.string ts)] 23))
        clear Rq Aa Bb Cc Ag Tw Nn HB
        have Rq := Rqn
        have Aa := Aan
        have Bb := Bbn
        have Cc := Ccn
        have Ag := Agn
        have Tw := Twn
        have Nn := Nnn
        have HB := HBn
        clear Rqn Aan Bbn Ccn Agn Twn Nnn HBn
        have Wd := Lib.hid (RBlk.new Wnb1 (.string ⟨#[49]⟩) (.string ts))
        clear B
        have Aac0 := Aa.out.c0
        have Aac1 := Aa.out.c1
        have Rqc0 := Rq.out.c0
        have Rqc1 := Rq.out.c1
        (try go_wp2_with fail)
        clear Aac0 Aac1 Rqc0 Rqc1
        go_at_call 20
        refine (Hk1.out _).mono ?_
        rintro e Wnb2 ⟨rfl, B⟩
        have Rqn := Lib.hid ((Rq.out.keep B Rq.out.lt))
        have Aan := Lib.hid ((Aa.out.keep B Aa.out.lt))
        have Bbn := Lib.hid ((Bb.out.keep B Bb.out.lt))
        have Ccn := Lib.hid ((Cc.out.keep B Cc.out.lt))
        have Agn := Lib.hid ((Ag.out.keep B Ag.out.lt))
        have Twn := Lib.hid ((Tw.out.keep B Tw.out.lt))
        have Nnn := Lib.hid ((Nn.out.keep B Nn.out.lt))
        have Wdn := Lib.hid ((Wd.out.keep B Wd.out.lt))
        have HBn := Lib.hid (HB.out.trans (B.mono HB.out.size))
        clear Rq Aa Bb Cc Ag Tw Nn Wd HB
        have Rq := Rqn
        have Aa := Aan
        have Bb := Bbn
        have Cc := Ccn
        have Ag := Agn
        have Tw := Twn
        have Nn := Nnn
        have Wd := Wdn
        have HB := HBn
        clear Rqn Aan Bbn Ccn Agn Twn Nnn Wdn HBn
        clear B
        (try go_wp2_with fail)
        by_cases hp0 : p = 0
        ·
         have e0 := hts.out hp0
         subst hp0 e0
         go_at_call 41
         refine (is_any _ _ _).mono ?_
         rintro e Wnc1 ⟨rfl, B⟩
         have Rqlt := (Rq.out.keep B Rq.out.lt).lt
         have Aalt := (Aa.out.keep B Aa.out.lt).lt
         have Bblt := (Bb.out.keep B Bb.out.lt).lt
         have Cclt := (Cc.out.keep B Cc.out.lt).lt
         have Aglt := (Ag.out.keep B Ag.out.lt).lt
         have Twlt := (Tw.out.keep B Tw.out.lt).lt
         have Nnlt := (Nn.out.keep B Nn.out.lt).lt
         have Wdlt := (Wd.out.keep B Wd.out.lt).lt
         have gWt : w.heap.size ≤ Wnc1.heap.size := (HB.out.trans (B.mono HB.out.size)).size
         have Rqn := Lib.hid ((Rq.out.keep B Rq.out.lt).alloc (.cells #[(.string ⟨#[49]⟩), (.string ⟨#[49]⟩)] 23))
         have Aan := Lib.hid ((Aa.out.keep B Aa.out.lt).alloc (.cells #[(.string ⟨#[49]⟩), (.string ⟨#[49]⟩)] 23))
         have Bbn := Lib.hid ((Bb.out.keep B Bb.out.lt).alloc (.cells #[(.string ⟨#[49]⟩), (.string ⟨#[49]⟩)] 23))
         have Ccn := Lib.hid ((Cc.out.keep B Cc.out.lt).alloc (.cells #[(.string ⟨#[49]⟩), (.string ⟨#[49]⟩)] 23))
         have Agn := Lib.hid ((Ag.out.keep B Ag.out.lt).alloc (.cells #[(.string ⟨#[49]⟩), (.string ⟨#[49]⟩)] 23))
         have Twn := Lib.hid ((Tw.out.keep B Tw.out.lt).alloc (.cells #[(.string ⟨#[49]⟩), (.string ⟨#[49]⟩)] 23))
         have Nnn := Lib.hid ((Nn.out.keep B Nn.out.lt).alloc (.cells #[(.string ⟨#[49]⟩), (.string ⟨#[49]⟩)] 23))
         have Wdn := Lib.hid ((Wd.out.keep B Wd.out.lt).alloc (.cells #[(.string ⟨#[49]⟩), (.string ⟨#[49]⟩)] 23))
         have HBn := Lib.hid ((HB.out.trans (B.mono HB.out.size)).alloc (HB.out.trans (B.mono HB.out.size)).size (.cells #[(.string ⟨#[49]⟩), (.string ⟨#[49]⟩)] 23))
         clear Rq Aa Bb Cc Ag Tw Nn Wd HB
         have Rq := Rqn
         have Aa := Aan
         have Bb := Bbn
         have Cc := Ccn
         have Ag := Agn
         have Tw := Twn
         have Nn := Nnn
         have Wd := Wdn
         have HB := HBn
         clear Rqn Aan Bbn Ccn Agn Twn Nnn Wdn HBn
         have Wt := Lib.hid (RBlk.new Wnc1 (.string ⟨#[49]⟩) (.string ⟨#[49]⟩))
         clear B
         have neRq : (W2.heap.size) ≠ Wnc1.heap.size := Nat.ne_of_lt (by have := Rq.out.lt; have hl := Rqlt; exact hl)
         have neAa : (Wn1.heap.size) ≠ Wnc1.heap.size := Nat.ne_of_lt (by have := Aa.out.lt; have hl := Aalt; exact hl)
         have neBb : (Wn2.heap.size) ≠ Wnc1.heap.size := Nat.ne_of_lt (by have := Bb.out.lt; have hl := Bblt; exact hl)
         have neCc : (Wn4.heap.size) ≠ Wnc1.heap.size := Nat.ne_of_lt (by have := Cc.out.lt; have hl := Cclt; exact hl)
         have neAg : (Wna1.heap.size) ≠ Wnc1.heap.size := Nat.ne_of_lt (by have := Ag.out.lt; have hl := Aglt; exact hl)
         have neTw : (Wna2.heap.size) ≠ Wnc1.heap.size := Nat.ne_of_lt (by have := Tw.out.lt; have hl := Twlt; exact hl)
         have neNn : (gJna16) ≠ Wnc1.heap.size := Nat.ne_of_lt (by have := Nn.out.lt; have hl := Nnlt; exact hl)
         have neWd : (Wnb1.heap.size) ≠ Wnc1.heap.size := Nat.ne_of_lt (by have := Wd.out.lt; have hl := Wdlt; exact hl)
         (try go_wp2_with fail)
         go_at_call 41
         refine (is_any _ _ _).mono ?_
         rintro e NCS2 ⟨rfl, B⟩
         have Rqn := Lib.hid ((Rq.out.keep B Rq.out.lt))
         have Aan := Lib.hid ((Aa.out.keep B Aa.out.lt))
         have Bbn := Lib.hid ((Bb.out.keep B Bb.out.lt))
         have Ccn := Lib.hid ((Cc.out.keep B Cc.out.lt))
         have Agn := Lib.hid ((Ag.out.keep B Ag.out.lt))
         have Twn := Lib.hid ((Tw.out.keep B Tw.out.lt))
         have Nnn := Lib.hid ((Nn.out.keep B Nn.out.lt))
         have Wdn := Lib.hid ((Wd.out.keep B Wd.out.lt))
         have Wtn := Lib.hid ((Wt.out.keep B Wt.out.lt))
         have HBn := Lib.hid (HB.out.trans (B.mono HB.out.size))
         clear Rq Aa Bb Cc Ag Tw Nn Wd Wt HB
         have Rq := Rqn
         have Aa := Aan
         have Bb := Bbn
         have Cc := Ccn
         have Ag := Agn
         have Tw := Twn
         have Nn := Nnn
         have Wd := Wdn
         have Wt := Wtn
         have HB := HBn
         clear Rqn Aan Bbn Ccn Agn Twn Nnn Wdn Wtn HBn
         clear B
         have c0 := Wt.out.c0
         have c1 := Wt.out.c1
         have f0 := Wt.out.f 0
         have f1 := Wt.out.f 1
         have hs := Wt.out.s0 (.string ⟨#[49]⟩)
         have d1 := hs.c1
         have g1 := hs.f 1
         have Wtn := Lib.hid (hs.s1 (.string ⟨#[49]⟩))
         have Rqn := Lib.hid ((Rq.out.other ⟨Wnc1.heap.size, 0, none⟩ (.string ⟨#[49]⟩) neRq).other ⟨Wnc1.heap.size, 1, none⟩ (.string ⟨#[49]⟩) neRq)
         have Aan := Lib.hid ((Aa.out.other ⟨Wnc1.heap.size, 0, none⟩ (.string ⟨#[49]⟩) neAa).other ⟨Wnc1.heap.size, 1, none⟩ (.string ⟨#[49]⟩) neAa)
         have Bbn := Lib.hid ((Bb.out.other ⟨Wnc1.heap.size, 0, none⟩ (.string ⟨#[49]⟩) neBb).other ⟨Wnc1.heap.size, 1, none⟩ (.string ⟨#[49]⟩) neBb)
         have Ccn := Lib.hid ((Cc.out.other ⟨Wnc1.heap.size, 0, none⟩ (.string ⟨#[49]⟩) neCc).other ⟨Wnc1.heap.size, 1, none⟩ (.string ⟨#[49]⟩) neCc)
         have Agn := Lib.hid ((Ag.out.other ⟨Wnc1.heap.size, 0, none⟩ (.string ⟨#[49]⟩) neAg).other ⟨Wnc1.heap.size, 1, none⟩ (.string ⟨#[49]⟩) neAg)
         have Twn := Lib.hid ((Tw.out.other ⟨Wnc1.heap.size, 0, none⟩ (.string ⟨#[49]⟩) neTw).other ⟨Wnc1.heap.size, 1, none⟩ (.string ⟨#[49]⟩) neTw)
         have Nnn := Lib.hid ((Nn.out.other ⟨Wnc1.heap.size, 0, none⟩ (.string ⟨#[49]⟩) neNn).other ⟨Wnc1.heap.size, 1, none⟩ (.string ⟨#[49]⟩) neNn)
         have Wdn := Lib.hid ((Wd.out.other ⟨Wnc1.heap.size, 0, none⟩ (.string ⟨#[49]⟩) neWd).other ⟨Wnc1.heap.size, 1, none⟩ (.string ⟨#[49]⟩) neWd)
         have HBn := Lib.hid ((HB.out.setCell (p := ⟨Wnc1.heap.size, 0, none⟩) gWt (.string ⟨#[49]⟩)).setCell (p := ⟨Wnc1.heap.size, 1, none⟩) gWt (.string ⟨#[49]⟩))
         clear hs
         have Agnc0 := Agn.out.c0
         have Agnc1 := Agn.out.c1
         have Bbnc0 := Bbn.out.c0
         have Bbnc1 := Bbn.out.c1
         have Twnc0 := Twn.out.c0
         have Twnc1 := Twn.out.c1
         have Aanc0 := Aan.out.c0
         have Aanc1 := Aan.out.c1
         have Nnnc0 := Nnn.out.c0
         have Nnnc1 := Nnn.out.c1
         have Wdnc0 := Wdn.out.c0
         have Wdnc1 := Wdn.out.c1
         have Wtnc0 := Wtn.out.c0
         have Wtnc1 := Wtn.out.c1
         have Rqnc0 := Rqn.out.c0
         have Rqnc1 := Rqn.out.c1
         go_wp2_with fail
         go_at_call 20
         refine (Hk2.out _).mono ?_
         rintro e WZ ⟨rfl, B⟩
         have HBz := Lib.hid (HBn.out.trans (B.mono HBn.out.size))
         clear B
         go_wp2_with fail
         go_ret
         exact ⟨rfl, HBz.out⟩
        ·
         have hpi : ¬ ((p : Int) = 0) := by omega
         go_at_call 41
         refine (is_any _ _ _).mono ?_
         rintro e Wnd1 ⟨rfl, B⟩
         have Rqlt := (Rq.out.keep B Rq.out.lt).lt
         have Aalt := (Aa.out.keep B Aa.out.lt).lt
         have Bblt := (Bb.out.keep B Bb.out.lt).lt
         have Cclt := (Cc.out.keep B Cc.out.lt).lt
         have Aglt := (Ag.out.keep B Ag.out.lt).lt
         have Twlt := (Tw.out.keep B Tw.out.lt).lt
         have Nnlt := (Nn.out.keep B Nn.out.lt).lt
         have Wdlt := (Wd.out.keep B Wd.out.lt).lt
         have gWt : w.heap.size ≤ Wnd1.heap.size := (HB.out.trans (B.mono HB.out.size)).size
         have Rqn := Lib.hid ((Rq.out.keep B Rq.out.lt).alloc (.cells #[(.string ⟨#[49]⟩), (.string ts)] 23))
         have Aan := Lib.hid ((Aa.out.keep B Aa.out.lt).alloc (.cells #[(.string ⟨#[49]⟩), (.string ts)] 23))
         have Bbn := Lib.hid ((Bb.out.keep B Bb.out.lt).alloc (.cells #[(.string ⟨#[49]⟩), (.string ts)] 23))
         have Ccn := Lib.hid ((Cc.out.keep B Cc.out.lt).alloc (.cells #[(.string ⟨#[49]⟩), (.string ts)] 23))
         have Agn := Lib.hid ((Ag.out.keep B Ag.out.lt).alloc (.cells #[(.string ⟨#[49]⟩), (.string ts)] 23))
         have Twn := Lib.hid ((Tw.out.keep B Tw.out.lt).alloc (.cells #[(.string ⟨#[49]⟩), (.string ts)] 23))
         have Nnn := Lib.hid ((Nn.out.keep B Nn.out.lt).alloc (.cells #[(.string ⟨#[49]⟩), (.string ts)] 23))
         have Wdn := Lib.hid ((Wd.out.keep B Wd.out.lt).alloc (.cells #[(.string ⟨#[49]⟩), (.string ts)] 23))
         have HBn := Lib.hid ((HB.out.trans (B.mono HB.out.size)).alloc (HB.out.trans (B.mono HB.out.size)).size (.cells #[(.string ⟨#[49]⟩), (.string ts)] 23))
         clear Rq Aa Bb Cc Ag Tw Nn Wd HB
         have Rq := Rqn
         have Aa := Aan
         have Bb := Bbn
         have Cc := Ccn
         have Ag := Agn
         have Tw := Twn
         have Nn := Nnn
         have Wd := Wdn
         have HB := HBn
         clear Rqn Aan Bbn Ccn Agn Twn Nnn Wdn HBn
         have Wt := Lib.hid (RBlk.new Wnd1 (.string ⟨#[49]⟩) (.string ts))
         clear B
         have neRq : (W2.heap.size) ≠ Wnd1.heap.size := Nat.ne_of_lt (by have := Rq.out.lt; have hl := Rqlt; exact hl)
         have neAa : (Wn1.heap.size) ≠ Wnd1.heap.size := Nat.ne_of_lt (by have := Aa.out.lt; have hl := Aalt; exact hl)
         have neBb : (Wn2.heap.size) ≠ Wnd1.heap.size := Nat.ne_of_lt (by have := Bb.out.lt; have hl := Bblt; exact hl)
         have neCc : (Wn4.heap.size) ≠ Wnd1.heap.size := Nat.ne_of_lt (by have := Cc.out.lt; have hl := Cclt; exact hl)
         have neAg : (Wna1.heap.size) ≠ Wnd1.heap.size := Nat.ne_of_lt (by have := Ag.out.lt; have hl := Aglt; exact hl)
         have neTw : (Wna2.heap.size) ≠ Wnd1.heap.size := Nat.ne_of_lt (by have := Tw.out.lt; have hl := Twlt; exact hl)
         have neNn : (gJna16) ≠ Wnd1.heap.size := Nat.ne_of_lt (by have := Nn.out.lt; have hl := Nnlt; exact hl)
         have neWd : (Wnb1.heap.size) ≠ Wnd1.heap.size := Nat.ne_of_lt (by have := Wd.out.lt; have hl := Wdlt; exact hl)
         have Agc0 := Ag.out.c0
         have Agc1 := Ag.out.c1
         have Bbc0 := Bb.out.c0
         have Bbc1 := Bb.out.c1
         have Twc0 := Tw.out.c0
         have Twc1 := Tw.out.c1
         have Aac0 := Aa.out.c0
         have Aac1 := Aa.out.c1
         have Nnc0 := Nn.out.c0
         have Nnc1 := Nn.out.c1
         have Wdc0 := Wd.out.c0
         have Wdc1 := Wd.out.c1
         have Wtc0 := Wt.out.c0
         have Wtc1 := Wt.out.c1
         have Rqc0 := Rq.out.c0
         have Rqc1 := Rq.out.c1
         go_wp2_with fail
         go_at_call 20
         refine (Hk2.out _).mono ?_
         rintro e WZ ⟨rfl, B⟩
         have HBz := Lib.hid (HB.out.trans (B.mono HB.out.size))
         clear B
         go_wp2_with fail
         go_ret
         exact ⟨rfl, HBz.out⟩
      exact AllReadyH.nil
     exact AllReadyH.nil
    exact AllReadyH.nil
end Go.Proofs.YtjpifnepdmgpeaaGreatDoor
