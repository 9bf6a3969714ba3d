/- The functions of the packages and of the references, by contract: part 5. -/
import Derived.Test.YtdnbhgkbfbgnaaaGreatDoorHd
namespace Go.Proofs.YtdnbhgkbfbgnaaaGreatDoor
open Go.RowKit
theorem qCompare_R (a b : Rat) (ha : fitR 200 a) (hb : fitR 200 b) (w : World) :
  Calls Tryz.prog 21 #[RV a, RV b] w fun e w' => e = .returned (.int .i64 (cmpR a b)) ∧ Below w.heap.size w w' :=
 qCompare_S a.num a.den b.num b.den (cmpR a b) w (vR_q a ha) (vR_q b hb) (den_pos a) (den_pos b) ha.1 (den_abs a ha) hb.1 (den_abs b hb) (cmpR_N a b)
theorem qValid_R (a : Rat) (ha : fitR 200 a) (w : World) : Calls Tryz.prog 30 #[RV a] w fun e w' => e = .returned (.bool true) ∧ Below w.heap.size w w' := by
 have h := qValid_any (S a.num) (S (a.den : Int)) (txt a.num) (txt (a.den : Int)) w (S_list _) (S_list _) (S_len ha.1) (S_len (den_abs a ha))
 rw [vR_q a ha] at h
 exact h
theorem RV_of (q : Rat) (L1 L2 : List UInt8) (h1 : vld L1 = true) (h2 : vld L2 = true) (hn : q.num = num L1) (hd : (q.den : Int) = num L2) : RV q = .agg #[.string ⟨L1.toArray⟩, .string ⟨L2.toArray⟩] := by
 rw [RV, hn, hd, S_lit h1, S_lit h2]
theorem rv_m3_2 : RV (mkRat (-3) 2) = .agg #[.string ⟨#[45, 51]⟩, .string ⟨#[50]⟩] := RV_of _ [45, 51] [50] (by decide) (by decide) (by decide +kernel) (by decide +kernel)
theorem rv_0_1 : RV (mkRat (0) 1) = .agg #[.string ⟨#[48]⟩, .string ⟨#[49]⟩] := RV_of _ [48] [49] (by decide) (by decide) (by decide +kernel) (by decide +kernel)
theorem rv_1_2 : RV (mkRat (1) 2) = .agg #[.string ⟨#[49]⟩, .string ⟨#[50]⟩] := RV_of _ [49] [50] (by decide) (by decide) (by decide +kernel) (by decide +kernel)
theorem rv_1_3 : RV (mkRat (1) 3) = .agg #[.string ⟨#[49]⟩, .string ⟨#[51]⟩] := RV_of _ [49] [51] (by decide) (by decide) (by decide +kernel) (by decide +kernel)
theorem rv_5_6 : RV (mkRat (5) 6) = .agg #[.string ⟨#[53]⟩, .string ⟨#[54]⟩] := RV_of _ [53] [54] (by decide) (by decide) (by decide +kernel) (by decide +kernel)
theorem rv_m1_4 : RV (mkRat (-1) 4) = .agg #[.string ⟨#[45, 49]⟩, .string ⟨#[52]⟩] := RV_of _ [45, 49] [52] (by decide) (by decide) (by decide +kernel) (by decide +kernel)
theorem rv_m2_1 : RV (mkRat (-2) 1) = .agg #[.string ⟨#[45, 50]⟩, .string ⟨#[49]⟩] := RV_of _ [45, 50] [49] (by decide) (by decide) (by decide +kernel) (by decide +kernel)
theorem rv_1_1 : RV (mkRat (1) 1) = .agg #[.string ⟨#[49]⟩, .string ⟨#[49]⟩] := RV_of _ [49] [49] (by decide) (by decide) (by decide +kernel) (by decide +kernel)
theorem rv_m1_3 : RV (mkRat (-1) 3) = .agg #[.string ⟨#[45, 49]⟩, .string ⟨#[51]⟩] := RV_of _ [45, 49] [51] (by decide) (by decide) (by decide +kernel) (by decide +kernel)
theorem rv_m17_50 : RV (mkRat (-17) 50) = .agg #[.string ⟨#[45, 49, 55]⟩, .string ⟨#[53, 48]⟩] := RV_of _ [45, 49, 55] [53, 48] (by decide) (by decide) (by decide +kernel) (by decide +kernel)
theorem rv_17_50 : RV (mkRat (17) 50) = .agg #[.string ⟨#[49, 55]⟩, .string ⟨#[53, 48]⟩] := RV_of _ [49, 55] [53, 48] (by decide) (by decide) (by decide +kernel) (by decide +kernel)
theorem rv_33333_100000 : RV (mkRat (33333) 100000) = .agg #[.string ⟨#[51, 51, 51, 51, 51]⟩, .string ⟨#[49, 48, 48, 48, 48, 48]⟩] := RV_of _ [51, 51, 51, 51, 51] [49, 48, 48, 48, 48, 48] (by decide) (by decide) (by decide +kernel) (by decide +kernel)
theorem s_of1 (W : World) (hT : Tz W) : Calls Tryz.prog 32 #[.int .i64 (6), .int .i64 (-4)] W fun e w' => e = .returned (.tuple #[.agg #[.string ⟨#[45, 51]⟩, .string ⟨#[50]⟩], .int .i64 0]) ∧ Below W.heap.size W w' := by
 have h := qOf_R (6) (-4) W (by decide) (by decide) hT (by decide)
 rw [show Rat.divInt (6) (-4) = mkRat (-3) 2 by decide +kernel, rv_m3_2] at h
 exact h
theorem s_of2 (W : World) (hT : Tz W) : Calls Tryz.prog 32 #[.int .i64 (0), .int .i64 (-5)] W fun e w' => e = .returned (.tuple #[.agg #[.string ⟨#[48]⟩, .string ⟨#[49]⟩], .int .i64 0]) ∧ Below W.heap.size W w' := by
 have h := qOf_R (0) (-5) W (by decide) (by decide) hT (by decide)
 rw [show Rat.divInt (0) (-5) = mkRat (0) 1 by decide +kernel, rv_0_1] at h
 exact h
theorem s_of3 (W : World) (hT : Tz W) : Calls Tryz.prog 32 #[.int .i64 1, .int .i64 0] W fun e w' => e = .returned (.tuple #[.agg #[.string ⟨#[]⟩, .string ⟨#[]⟩], .int .i64 40]) ∧ Below W.heap.size W w' := by
 exact qOf_Z 1 W (by decide) hT
theorem s_add (W : World) : Calls Tryz.prog 38 #[.agg #[.string ⟨#[49]⟩, .string ⟨#[50]⟩], .agg #[.string ⟨#[49]⟩, .string ⟨#[51]⟩]] W fun e w' => e = .returned (.tuple #[.agg #[.string ⟨#[53]⟩, .string ⟨#[54]⟩], .int .i64 0]) ∧ Below W.heap.size W w' := by
 have h := qAdd_R (mkRat (1) 2) (mkRat (1) 3) ⟨by decide +kernel, by decide +kernel⟩ ⟨by decide +kernel, by decide +kernel⟩ W
 rw [show okA (mkRat (1) 2) (mkRat (1) 3) = true by decide +kernel, opQ, if_pos rfl, show mkRat (1) 2 + mkRat (1) 3 = mkRat (5) 6 by decide +kernel, rv_1_2, rv_1_3, rv_5_6] at h
 exact h
theorem s_div (W : World) : Calls Tryz.prog 47 #[.agg #[.string ⟨#[49]⟩, .string ⟨#[50]⟩], .agg #[.string ⟨#[45, 49]⟩, .string ⟨#[52]⟩]] W fun e w' => e = .returned (.tuple #[.agg #[.string ⟨#[45, 50]⟩, .string ⟨#[49]⟩], .int .i64 0]) ∧ Below W.heap.size W w' := by
 have h := qDiv_R (mkRat (1) 2) (mkRat (-1) 4) ⟨by decide +kernel, by decide +kernel⟩ ⟨by decide +kernel, by decide +kernel⟩ W
 rw [show okD (mkRat (1) 2) (mkRat (-1) 4) = true by decide +kernel, opQ, if_pos rfl, show mkRat (1) 2 / mkRat (-1) 4 = mkRat (-2) 1 by decide +kernel, rv_1_2, rv_m1_4, rv_m2_1] at h
 exact h
theorem s_div0 (W : World) : Calls Tryz.prog 47 #[.agg #[.string ⟨#[49]⟩, .string ⟨#[49]⟩], .agg #[.string ⟨#[48]⟩, .string ⟨#[49]⟩]] W fun e w' => e = .returned (.tuple #[.agg #[.string ⟨#[]⟩, .string ⟨#[]⟩], .int .i64 40]) ∧ Below W.heap.size W w' := by
 have h := qDiv_R (mkRat (1) 1) (mkRat (0) 1) ⟨by decide +kernel, by decide +kernel⟩ ⟨by decide +kernel, by decide +kernel⟩ W
 rw [show okD (mkRat (1) 1) (mkRat (0) 1) = false by decide +kernel, opQ, if_neg (by decide), rv_1_1, rv_0_1] at h
 exact h
theorem s_down (W : World) : Calls Tryz.prog 24 #[.agg #[.string ⟨#[45, 49]⟩, .string ⟨#[51]⟩], .int .i64 2] W fun e w' => e = .returned (.tuple #[.agg #[.string ⟨#[45, 49, 55]⟩, .string ⟨#[53, 48]⟩], .int .i64 0]) ∧ Below W.heap.size W w' := by
 have h := qDown_R (mkRat (-1) 3) ⟨by decide +kernel, by decide +kernel⟩ 2 W
 rw [show okP (mkRat (-1) 3) 2 = true by decide +kernel, opQ, if_pos rfl, show mkRat (dnN (mkRat (-1) 3) (10 ^ (2 : Int).toNat)) (10 ^ (2 : Int).toNat) = mkRat (-17) 50 by decide +kernel, rv_m1_3, rv_m17_50] at h
 exact h
theorem s_up (W : World) : Calls Tryz.prog 26 #[.agg #[.string ⟨#[49]⟩, .string ⟨#[51]⟩], .int .i64 2] W fun e w' => e = .returned (.tuple #[.agg #[.string ⟨#[49, 55]⟩, .string ⟨#[53, 48]⟩], .int .i64 0]) ∧ Below W.heap.size W w' := by
 have h := qUp_R (mkRat (1) 3) ⟨by decide +kernel, by decide +kernel⟩ 2 W
 rw [show okP (mkRat (1) 3) 2 = true by decide +kernel, opQ, if_pos rfl, show mkRat (upN (mkRat (1) 3) (10 ^ (2 : Int).toNat)) (10 ^ (2 : Int).toNat) = mkRat (17) 50 by decide +kernel, rv_1_3, rv_17_50] at h
 exact h
theorem s_prt : prt (mkRat (-3) 2) = ⟨#[45, 51, 47, 50]⟩ := by
 rw [prt, if_neg (by decide +kernel), show (mkRat (-3) 2).num = num [45, 51] by decide +kernel, show ((mkRat (-3) 2).den : Int) = num [50] by decide +kernel, S_lit (by decide), S_lit (by decide)]
 decide
theorem s_print (W : World) : Calls Tryz.prog 34 #[.agg #[.string ⟨#[45, 51]⟩, .string ⟨#[50]⟩]] W fun e w' => e = .returned (.string ⟨#[45, 51, 47, 50]⟩) ∧ Below W.heap.size W w' := by
 have h := qPrint_R (mkRat (-3) 2) ⟨by decide +kernel, by decide +kernel⟩ W
 rw [s_prt, rv_m3_2] at h
 exact h
theorem s_parse (W : World) (hT : Tz W) : Calls Tryz.prog 35 #[.string ⟨#[45, 51, 47, 50]⟩] W fun e w' => e = .returned (.tuple #[.agg #[.string ⟨#[45, 51]⟩, .string ⟨#[50]⟩], .int .i64 0]) ∧ Below W.heap.size W w' := by
 have h := qParse_R (mkRat (-3) 2) ⟨by decide +kernel, by decide +kernel⟩ W hT
 rw [s_prt, rv_m3_2] at h
 exact h
theorem s_parse64 (W : World) (hT : Tz W) : Calls Tryz.prog 35 #[.string ⟨#[54, 47, 52]⟩] W fun e w' => e = .returned (.tuple #[.agg #[.string ⟨#[]⟩, .string ⟨#[]⟩], .int .i64 40]) ∧ Below W.heap.size W w' := by
 refine qParse_no ⟨#[54, 47, 52]⟩ W hT (by decide) (fun a ha he => ?_)
 have h := congrArg (fun x : ByteArray => x.data.toList) he
 simp only [prt_list] at h
 split at h
 ·
  exact absurd (h ▸ txt_no a.num) (by decide)
 ·
  have e : txt a.num ++ 47 :: txt (a.den : Int) = [54] ++ 47 :: [52] := h
  have h1 := cut_at (txt (a.den : Int)) (txt_no a.num)
  rw [e, cut_at [52] (by decide)] at h1
  simp only [Prod.mk.injEq] at h1
  have n1 : a.num = 6 := by rw [← txt_num a.num, ← h1.1]; decide
  have n2 : (a.den : Int) = 4 := by rw [← txt_num (a.den : Int), ← h1.2.1]; decide
  have hr := a.reduced
  rw [n1, show a.den = 4 by omega] at hr
  exact absurd hr (by decide)
theorem s_cmp (W : World) : Calls Tryz.prog 21 #[.agg #[.string ⟨#[49]⟩, .string ⟨#[51]⟩], .agg #[.string ⟨#[51, 51, 51, 51, 51]⟩, .string ⟨#[49, 48, 48, 48, 48, 48]⟩]] W fun e w' => e = .returned (.int .i64 1) ∧ Below W.heap.size W w' := by
 have h := qCompare_R (mkRat 1 3) (mkRat 33333 100000) ⟨by decide +kernel, by decide +kernel⟩ ⟨by decide +kernel, by decide +kernel⟩ W
 rw [show cmpR (mkRat 1 3) (mkRat 33333 100000) = 1 by decide +kernel, rv_1_3, rv_33333_100000] at h
 exact h
theorem s_valid (W : World) : Calls Tryz.prog 30 #[.agg #[.string ⟨#[45, 51]⟩, .string ⟨#[50]⟩]] W fun e w' => e = .returned (.bool true) ∧ Below W.heap.size W w' := by
 have h := qValid_R (mkRat (-3) 2) ⟨by decide +kernel, by decide +kernel⟩ W
 rw [rv_m3_2] at h
 exact h
theorem s_valid0 (W : World) : Calls Tryz.prog 30 #[.agg #[.string ⟨#[]⟩, .string ⟨#[]⟩]] W fun e w' => e = .returned (.bool false) ∧ Below W.heap.size W w' := by
 exact qValid_any ⟨#[]⟩ ⟨#[]⟩ [] [] W rfl rfl (by decide) (by decide)
set_option maxRecDepth 100000 in
set_option maxHeartbeats 8000000 in
theorem sane4_any (w : World) (hT : Tz w) : Calls Tryz.prog 12 #[] w fun e w' => e = .returned (.bool true) ∧ Below w.heap.size w w' := by
 have HB := Lib.hid (Below.refl w.heap.size w)
 have HT := Lib.hid hT
 clear hT
 go_enter Tryz.func12, Tryz.ntmps12
 (try go_wp2_with fail)
 go_at_call 32
 refine (s_of1 _ (HT.out.below HB.out)).mono ?_
 rintro e W1 ⟨rfl, B⟩
 have HBn := Lib.hid ((HB.out.trans (B.mono HB.out.size)).alloc (HB.out.trans (B.mono HB.out.size)).size (.cells #[(.string ⟨#[45, 51]⟩), (.string ⟨#[50]⟩)] 23))
 clear HB
 have HB := HBn
 clear HBn
 have A := Lib.hid (RBlk.new W1 (.string ⟨#[45, 51]⟩) (.string ⟨#[50]⟩))
 clear B
 (try go_wp2_with fail)
 go_at_call 32
 refine (s_of2 _ (HT.out.below HB.out)).mono ?_
 rintro e W2 ⟨rfl, B⟩
 have An := Lib.hid ((A.out.keep B A.out.lt).alloc (.cells #[(.string ⟨#[48]⟩), (.string ⟨#[49]⟩)] 23))
 have HBn := Lib.hid ((HB.out.trans (B.mono HB.out.size)).alloc (HB.out.trans (B.mono HB.out.size)).size (.cells #[(.string ⟨#[48]⟩), (.string ⟨#[49]⟩)] 23))
 clear A HB
 have A := An
 have HB := HBn
 clear An HBn
 have Bb := Lib.hid (RBlk.new W2 (.string ⟨#[48]⟩) (.string ⟨#[49]⟩))
 clear B
 (try go_wp2_with fail)
 go_at_call 32
 refine (s_of3 _ (HT.out.below HB.out)).mono ?_
 rintro e W3 ⟨rfl, B⟩
 have An := Lib.hid ((A.out.keep B A.out.lt).alloc (.cells #[.string ⟨#[]⟩, .string ⟨#[]⟩] 23))
 have Bbn := Lib.hid ((Bb.out.keep B Bb.out.lt).alloc (.cells #[.string ⟨#[]⟩, .string ⟨#[]⟩] 23))
 have HBn := Lib.hid ((HB.out.trans (B.mono HB.out.size)).alloc (HB.out.trans (B.mono HB.out.size)).size (.cells #[.string ⟨#[]⟩, .string ⟨#[]⟩] 23))
 clear A Bb HB
 have A := An
 have Bb := Bbn
 have HB := HBn
 clear An Bbn HBn
 clear B
 (try go_wp2_with fail)
 go_at_call 54
 refine (is_any _ _ _).mono ?_
 rintro e W4 ⟨rfl, B⟩
 have An := Lib.hid ((A.out.keep B A.out.lt))
 have Bbn := Lib.hid ((Bb.out.keep B Bb.out.lt))
 have HBn := Lib.hid (HB.out.trans (B.mono HB.out.size))
 clear A Bb HB
 have A := An
 have Bb := Bbn
 have HB := HBn
 clear An Bbn HBn
 clear B
 (try go_wp2_with fail)
 go_at_call 54
 refine (is_any _ _ _).mono ?_
 rintro e W5 ⟨rfl, B⟩
 have An := Lib.hid ((A.out.keep B A.out.lt))
 have Bbn := Lib.hid ((Bb.out.keep B Bb.out.lt))
 have HBn := Lib.hid (HB.out.trans (B.mono HB.out.size))
 clear A Bb HB
 have A := An
 have Bb := Bbn
 have HB := HBn
 clear An Bbn HBn
 clear B
 (try go_wp2_with fail)
 go_at_call 38
 refine (s_add _).mono ?_
 rintro e W6 ⟨rfl, B⟩
 have An := Lib.hid ((A.out.keep B A.out.lt).alloc (.cells #[(.string ⟨#[53]⟩), (.string ⟨#[54]⟩)] 23))
 have Bbn := Lib.hid ((Bb.out.keep B Bb.out.lt).alloc (.cells #[(.string ⟨#[53]⟩), (.string ⟨#[54]⟩)] 23))
 have HBn := Lib.hid ((HB.out.trans (B.mono HB.out.size)).alloc (HB.out.trans (B.mono HB.out.size)).size (.cells #[(.string ⟨#[53]⟩), (.string ⟨#[54]⟩)] 23))
 clear A Bb HB
 have A := An
 have Bb := Bbn
 have HB := HBn
 clear An Bbn HBn
 have C := Lib.hid (RBlk.new W6 (.string ⟨#[53]⟩) (.string ⟨#[54]⟩))
 clear B
 (try go_wp2_with fail)
 go_at_call 54
 refine (is_any _ _ _).mono ?_
 rintro e W7 ⟨rfl, B⟩
 have An := Lib.hid ((A.out.keep B A.out.lt))
 have Bbn := Lib.hid ((Bb.out.keep B Bb.out.lt))
 have Cn := Lib.hid ((C.out.keep B C.out.lt))
 have HBn := Lib.hid (HB.out.trans (B.mono HB.out.size))
 clear A Bb C HB
 have A := An
 have Bb := Bbn
 have C := Cn
 have HB := HBn
 clear An Bbn Cn HBn
 clear B
 (try go_wp2_with fail)
 go_at_call 54
 refine (is_any _ _ _).mono ?_
 rintro e W8 ⟨rfl, B⟩
 have An := Lib.hid ((A.out.keep B A.out.lt))
 have Bbn := Lib.hid ((Bb.out.keep B Bb.out.lt))
 have Cn := Lib.hid ((C.out.keep B C.out.lt))
 have HBn := Lib.hid (HB.out.trans (B.mono HB.out.size))
 clear A Bb C HB
 have A := An
 have Bb := Bbn
 have C := Cn
 have HB := HBn
 clear An Bbn Cn HBn
 clear B
 (try go_wp2_with fail)
 go_at_call 47
 refine (s_div _).mono ?_
 rintro e W9 ⟨rfl, B⟩
 have An := Lib.hid ((A.out.keep B A.out.lt).alloc (.cells #[(.string ⟨#[45, 50]⟩), (.string ⟨#[49]⟩)] 23))
 have Bbn := Lib.hid ((Bb.out.keep B Bb.out.lt).alloc (.cells #[(.string ⟨#[45, 50]⟩), (.string ⟨#[49]⟩)] 23))
 have Cn := Lib.hid ((C.out.keep B C.out.lt).alloc (.cells #[(.string ⟨#[45, 50]⟩), (.string ⟨#[49]⟩)] 23))
 have HBn := Lib.hid ((HB.out.trans (B.mono HB.out.size)).alloc (HB.out.trans (B.mono HB.out.size)).size (.cells #[(.string ⟨#[45, 50]⟩), (.string ⟨#[49]⟩)] 23))
 clear A Bb C HB
 have A := An
 have Bb := Bbn
 have C := Cn
 have HB := HBn
 clear An Bbn Cn HBn
 have D := Lib.hid (RBlk.new W9 (.string ⟨#[45, 50]⟩) (.string ⟨#[49]⟩))
 clear B
 go_upto_region 6 with fail
 generalize hW06 : (W9.alloc (.cells #[(.string ⟨#[45, 50]⟩), (.string ⟨#[49]⟩)] 23)) = W06 at *
 clear hW06
 apply join_two (fun gJ WJ => Hid (RBlk WJ (W1.heap.size) (.string ⟨#[45, 51]⟩) (.string ⟨#[50]⟩) ∧ RBlk WJ (W2.heap.size) (.string ⟨#[48]⟩) (.string ⟨#[49]⟩) ∧ RBlk WJ (W6.heap.size) (.string ⟨#[53]⟩) (.string ⟨#[54]⟩) ∧ RBlk WJ (W9.heap.size) (.string ⟨#[45, 50]⟩) (.string ⟨#[49]⟩) ∧ RBlk WJ gJ (.string ⟨#[]⟩) (.string ⟨#[]⟩) ∧ Below w.heap.size w WJ))
 case m =>
  intro HJ
  refine wp_region_noPanic ?_
  refine wp_region_held_drew (S := fun W => RBlk W (W2.heap.size) (.string ⟨#[48]⟩) (.string ⟨#[49]⟩)) (by kernel_rfl) ?_ (fun hHeld => ?_)
  ·
   exact Bb.out
  have A := Lib.hid A.out.drew
  have Bb := Lib.hid Bb.out.drew
  have C := Lib.hid C.out.drew
  have D := Lib.hid D.out.drew
  have HB := Lib.hid HB.out.drew
  refine tk 1 (oi := ({ dst := some 48, op := .load 23 (.tmp 3), type := 23, pos := "law.go:40", after := #[], guard := none } : Oper)) (v := ?v1_1_6_1) ?hy1_1_6_1 ?re1_1_6_1
  case hy1_1_6_1 => ((intro w hSw; have e00 := hSw.c0; have e01 := hSw.c1; go_simp) <;> with_reducible rfl)
  (try simp only [Act.put, List.setIfInBounds_toArray, List.set_cons_zero, List.set_cons_succ])
  refine wpAnyH_ready (rs := [0, 6]) (by kernel_rfl) (by simp) ?_
  refine AllReadyH.cons (o := ({ dst := some 47, op := .call { callee := .value (.func 54), args := #[.const (.string { data := #[49] }), .const (.string { data := #[49] })], argTypes := #[9, 9] }, type := 23, pos := "law.go:40", after := #[], guard := none } : Oper)) rfl (fun K hK => ?_) ?_
  ·
   go_simp
   go_at_call 54
   refine (is_any _ _ _).mono ?_
   rintro e W6_1 ⟨rfl, B⟩
   have A := Lib.hid (A.out.keep B A.out.lt)
   have Bb := Lib.hid (Bb.out.keep B Bb.out.lt)
   have C := Lib.hid (C.out.keep B C.out.lt)
   have D := Lib.hid (D.out.keep B D.out.lt)
   have HB := Lib.hid (HB.out.trans (B.mono HB.out.size))
   (try go_wp2_with fail)
   refine hK.out _ _ ?_ (fun hHeld => ?_)
   ·
    exact hHeld.keep B hHeld.lt
   clear hK K
   (try simp only [Act.put, List.setIfInBounds_toArray, List.set_cons_zero, List.set_cons_succ])
   clear B
   refine wpAnyH_ready (rs := [2, 6]) (by kernel_rfl) (by simp) ?_
   refine AllReadyH.cons (o := ({ dst := some 49, op := .call { callee := .value (.func 47), args := #[.tmp 47, .tmp 48], argTypes := #[23, 23] }, type := 36, pos := "law.go:40", after := #[⟨0, .data⟩, ⟨1, .data⟩, ⟨0, .chain⟩], guard := none } : Oper)) rfl (fun K hK => ?_) ?_
   ·
    go_simp
    go_at_call 47
    refine (s_div0 _).mono ?_
    rintro e W6_2 ⟨rfl, B⟩
    have A := Lib.hid (A.out.keep B A.out.lt)
    have Bb := Lib.hid (Bb.out.keep B Bb.out.lt)
    have C := Lib.hid (C.out.keep B C.out.lt)
    have D := Lib.hid (D.out.keep B D.out.lt)
    have HB := Lib.hid (HB.out.trans (B.mono HB.out.size))
    (try go_wp2_with fail)
    refine hK.out _ _ ?_ (fun hHeld => ?_)
    ·
     exact hHeld.keep B hHeld.lt
    clear hK K
    (try simp only [Act.put, List.setIfInBounds_toArray, List.set_cons_zero, List.set_cons_succ])
    clear B
    refine tk 3 (oi := ({ dst := some 46, op := .move (.tmp 49), type := 36, pos := "law.go:40", after := #[⟨2, .data⟩], guard := none } : Oper)) (v := ?v3_2_6_1) ?hy3_2_6_1 ?re3_2_6_1
    case hy3_2_6_1 => ((intro w hSw; have e00 := hSw.c0; have e01 := hSw.c1; go_simp) <;> with_reducible rfl)
    (try simp only [Act.put, List.setIfInBounds_toArray, List.set_cons_zero, List.set_cons_succ])
    refine tk 4 (oi := ({ dst := some 50, op := .extract (.tmp 46) 0, type := 23, pos := "law.go:40", after := #[⟨3, .data⟩], guard := none } : Oper)) (v := ?v4_3_6_1) ?hy4_3_6_1 ?re4_3_6_1
    case hy4_3_6_1 => ((intro w hSw; have e00 := hSw.c0; have e01 := hSw.c1; go_simp) <;> with_reducible rfl)
    (try simp only [Act.put, List.setIfInBounds_toArray, List.set_cons_zero, List.set_cons_succ])
    refine tk 5 (oi := ({ dst := some 51, op := .extract (.tmp 46) 1, type := 32, pos := "law.go:40", after := #[⟨3, .data⟩, ⟨7, .gcOnly .lateStores⟩], guard := none } : Oper)) (v := ?v5_4_6_1) ?hy5_4_6_1 ?re5_4_6_1
    case hy5_4_6_1 => ((intro w hSw; have e00 := hSw.c0; have e01 := hSw.c1; go_simp) <;> with_reducible rfl)
    (try simp only [Act.put, List.setIfInBounds_toArray, List.set_cons_zero, List.set_cons_succ])
    refine wpAnyH_ready (rs := [6]) (by kernel_rfl) (by simp) ?_
    refine AllReadyH.cons (o := ({ dst := some 11, op := .alloc 23, type := 0, pos := "law.go:40", after := #[], guard := none } : Oper)) rfl (fun K hK => ?_) ?_
    ·
     go_simp
     obtain ⟨WA6_3, hWA6_3⟩ : ∃ W, W = (W6_2.alloc (.cells #[.string ⟨#[]⟩, .string ⟨#[]⟩] 23)) := ⟨_, rfl⟩
     rw [← hWA6_3]
     have V : Hid (RBlk WA6_3 W6_2.heap.size (.string ⟨#[]⟩) (.string ⟨#[]⟩)) := Lib.hid (by rw [hWA6_3]; exact RBlk.new W6_2 (.string ⟨#[]⟩) (.string ⟨#[]⟩))
     have gV : w.heap.size ≤ W6_2.heap.size := HB.out.size
     have neVA : (W1.heap.size) ≠ W6_2.heap.size := Nat.ne_of_lt A.out.lt
     have neVBb : (W2.heap.size) ≠ W6_2.heap.size := Nat.ne_of_lt Bb.out.lt
     have neVC : (W6.heap.size) ≠ W6_2.heap.size := Nat.ne_of_lt C.out.lt
     have neVD : (W9.heap.size) ≠ W6_2.heap.size := Nat.ne_of_lt D.out.lt
     have hk : (fun W => RBlk W (W2.heap.size) (.string ⟨#[48]⟩) (.string ⟨#[49]⟩)) WA6_3 := by rw [hWA6_3]; exact hHeld.alloc _
     have A : Hid (RBlk WA6_3 (W1.heap.size) (.string ⟨#[45, 51]⟩) (.string ⟨#[50]⟩)) := Lib.hid (by rw [hWA6_3]; exact A.out.alloc _)
     have Bb : Hid (RBlk WA6_3 (W2.heap.size) (.string ⟨#[48]⟩) (.string ⟨#[49]⟩)) := Lib.hid (by rw [hWA6_3]; exact Bb.out.alloc _)
     have C : Hid (RBlk WA6_3 (W6.heap.size) (.string ⟨#[53]⟩) (.string ⟨#[54]⟩)) := Lib.hid (by rw [hWA6_3]; exact C.out.alloc _)
     have D : Hid (RBlk WA6_3 (W9.heap.size) (.string ⟨#[45, 50]⟩) (.string ⟨#[49]⟩)) := Lib.hid (by rw [hWA6_3]; exact D.out.alloc _)
     have HB : Hid (Below w.heap.size w WA6_3) := Lib.hid (by rw [hWA6_3]; exact HB.out.alloc HB.out.size _)
     clear hWA6_3
     refine hK.out _ _ ?_ (fun hHeld => ?_)
     ·
      exact hk
     clear hK K
     (try simp only [Act.put, List.setIfInBounds_toArray, List.set_cons_zero, List.set_cons_succ])
     clear hk
     refine wpAnyH_ready (rs := [7]) (by kernel_rfl) (by simp) ?_
     refine AllReadyH.cons (o := ({ dst := none, op := .store 23 (.tmp 11) (.tmp 50), type := 0, pos := "law.go:40", after := #[⟨6, .data⟩, ⟨4, .data⟩, ⟨2, .chain⟩, ⟨0, .phase⟩, ⟨1, .phase⟩, ⟨2, .phase⟩, ⟨3, .phase⟩, ⟨4, .phase⟩, ⟨5, .textOnly .lateStores⟩, ⟨6, .phase⟩], guard := none } : Oper)) rfl (fun K hK => ?_) ?_
     ·
      have c0 := V.out.c0
      have c1 := V.out.c1
      have f0 := V.out.f 0
      have f1 := V.out.f 1
      have hs := V.out.s0 (.string ⟨#[]⟩)
      have d1 := hs.c1
      have g1 := hs.f 1
      go_simp
      have Vn := Lib.hid (hs.s1 (.string ⟨#[]⟩))
      have An := Lib.hid ((A.out.other ⟨W6_2.heap.size, 0, none⟩ (.string ⟨#[]⟩) neVA).other ⟨W6_2.heap.size, 1, none⟩ (.string ⟨#[]⟩) neVA)
      have Bbn := Lib.hid ((Bb.out.other ⟨W6_2.heap.size, 0, none⟩ (.string ⟨#[]⟩) neVBb).other ⟨W6_2.heap.size, 1, none⟩ (.string ⟨#[]⟩) neVBb)
      have Cn := Lib.hid ((C.out.other ⟨W6_2.heap.size, 0, none⟩ (.string ⟨#[]⟩) neVC).other ⟨W6_2.heap.size, 1, none⟩ (.string ⟨#[]⟩) neVC)
      have Dn := Lib.hid ((D.out.other ⟨W6_2.heap.size, 0, none⟩ (.string ⟨#[]⟩) neVD).other ⟨W6_2.heap.size, 1, none⟩ (.string ⟨#[]⟩) neVD)
      have HBn := Lib.hid ((HB.out.setCell (p := ⟨W6_2.heap.size, 0, none⟩) gV (.string ⟨#[]⟩)).setCell (p := ⟨W6_2.heap.size, 1, none⟩) gV (.string ⟨#[]⟩))
      clear hs c0 c1 f0 f1 d1 g1
      have V := Vn
      have A := An
      have Bb := Bbn
      have C := Cn
      have D := Dn
      have HB := HBn
      clear Vn An Bbn Cn Dn HBn
      refine hK.out _ _ ?_ (fun hHeld => ?_)
      ·
       exact (hHeld.other ⟨W6_2.heap.size, 0, none⟩ (.string ⟨#[]⟩) neVBb).other ⟨W6_2.heap.size, 1, none⟩ (.string ⟨#[]⟩) neVBb
      clear hK K
      (try simp only [Act.put, List.setIfInBounds_toArray, List.set_cons_zero, List.set_cons_succ])
      refine tk 8 (oi := ({ dst := some 12, op := .assign (.tmp 51), type := 32, pos := "law.go:40", after := #[⟨5, .data⟩, ⟨7, .chain⟩, ⟨0, .phase⟩, ⟨1, .phase⟩, ⟨2, .phase⟩, ⟨3, .phase⟩, ⟨4, .phase⟩, ⟨5, .phase⟩, ⟨6, .phase⟩, ⟨7, .phase⟩], guard := none } : Oper)) (v := ?v8_5_6_1) ?hy8_5_6_1 ?re8_5_6_1
      case hy8_5_6_1 => ((intro w hSw; have e00 := hSw.c0; have e01 := hSw.c1; go_simp) <;> with_reducible rfl)
      (try simp only [Act.put, List.setIfInBounds_toArray, List.set_cons_zero, List.set_cons_succ])
      refine wpAnyH_done (by kernel_rfl) ?_ _
      refine NoPanic.normal ?_
      generalize hWJ : ((WA6_3.setCell ⟨W6_2.heap.size, 0, none⟩ (.string ⟨#[]⟩)).setCell ⟨W6_2.heap.size, 1, none⟩ (.string ⟨#[]⟩)) = WJ at *
      clear hWJ
      generalize hgJ : W6_2.heap.size = gJ at *
      clear hgJ
      exact HJ gJ WJ (Lib.hid ⟨A.out, Bb.out, C.out, D.out, V.out, HB.out⟩)
     exact AllReadyH.nil
    exact AllReadyH.nil
   refine AllReadyH.cons (o := ({ dst := some 11, op := .alloc 23, type := 0, pos := "law.go:40", after := #[], guard := none } : Oper)) rfl (fun K hK => ?_) ?_
   ·
    go_simp
    obtain ⟨WA6_5, hWA6_5⟩ : ∃ W, W = (W6_1.alloc (.cells #[.string ⟨#[]⟩, .string ⟨#[]⟩] 23)) := ⟨_, rfl⟩
    rw [← hWA6_5]
    have V : Hid (RBlk WA6_5 W6_1.heap.size (.string ⟨#[]⟩) (.string ⟨#[]⟩)) := Lib.hid (by rw [hWA6_5]; exact RBlk.new W6_1 (.string ⟨#[]⟩) (.string ⟨#[]⟩))
    have gV : w.heap.size ≤ W6_1.heap.size := HB.out.size
    have neVA : (W1.heap.size) ≠ W6_1.heap.size := Nat.ne_of_lt A.out.lt
    have neVBb : (W2.heap.size) ≠ W6_1.heap.size := Nat.ne_of_lt Bb.out.lt
    have neVC : (W6.heap.size) ≠ W6_1.heap.size := Nat.ne_of_lt C.out.lt
    have neVD : (W9.heap.size) ≠ W6_1.heap.size := Nat.ne_of_lt D.out.lt
    have hk : (fun W => RBlk W (W2.heap.size) (.string ⟨#[48]⟩) (.string ⟨#[49]⟩)) WA6_5 := by rw [hWA6_5]; exact hHeld.alloc _
    have A : Hid (RBlk WA6_5 (W1.heap.size) (.string ⟨#[45, 51]⟩) (.string ⟨#[50]⟩)) := Lib.hid (by rw [hWA6_5]; exact A.out.alloc _)
    have Bb : Hid (RBlk WA6_5 (W2.heap.size) (.string ⟨#[48]⟩) (.string ⟨#[49]⟩)) := Lib.hid (by rw [hWA6_5]; exact Bb.out.alloc _)
    have C : Hid (RBlk WA6_5 (W6.heap.size) (.string ⟨#[53]⟩) (.string ⟨#[54]⟩)) := Lib.hid (by rw [hWA6_5]; exact C.out.alloc _)
    have D : Hid (RBlk WA6_5 (W9.heap.size) (.string ⟨#[45, 50]⟩) (.string ⟨#[49]⟩)) := Lib.hid (by rw [hWA6_5]; exact D.out.alloc _)
    have HB : Hid (Below w.heap.size w WA6_5) := Lib.hid (by rw [hWA6_5]; exact HB.out.alloc HB.out.size _)
    clear hWA6_5
    refine hK.out _ _ ?_ (fun hHeld => ?_)
    ·
     exact hk
    clear hK K
    (try simp only [Act.put, List.setIfInBounds_toArray, List.set_cons_zero, List.set_cons_succ])
    clear hk
    refine wpAnyH_ready (rs := [2]) (by kernel_rfl) (by simp) ?_
    refine AllReadyH.cons (o := ({ dst := some 49, op := .call { callee := .value (.func 47), args := #[.tmp 47, .tmp 48], argTypes := #[23, 23] }, type := 36, pos := "law.go:40", after := #[⟨0, .data⟩, ⟨1, .data⟩, ⟨0, .chain⟩], guard := none } : Oper)) rfl (fun K hK => ?_) ?_
    ·
     go_simp
     go_at_call 47
     refine (s_div0 _).mono ?_
     rintro e W6_6 ⟨rfl, B⟩
     have A := Lib.hid (A.out.keep B A.out.lt)
     have Bb := Lib.hid (Bb.out.keep B Bb.out.lt)
     have C := Lib.hid (C.out.keep B C.out.lt)
     have D := Lib.hid (D.out.keep B D.out.lt)
     have V := Lib.hid (V.out.keep B V.out.lt)
     have HB := Lib.hid (HB.out.trans (B.mono HB.out.size))
     (try go_wp2_with fail)
     refine hK.out _ _ ?_ (fun hHeld => ?_)
     ·
      exact hHeld.keep B hHeld.lt
     clear hK K
     (try simp only [Act.put, List.setIfInBounds_toArray, List.set_cons_zero, List.set_cons_succ])
     clear B
     refine tk 3 (oi := ({ dst := some 46, op := .move (.tmp 49), type := 36, pos := "law.go:40", after := #[⟨2, .data⟩], guard := none } : Oper)) (v := ?v3_6_6_1) ?hy3_6_6_1 ?re3_6_6_1
     case hy3_6_6_1 => ((intro w hSw; have e00 := hSw.c0; have e01 := hSw.c1; go_simp) <;> with_reducible rfl)
     (try simp only [Act.put, List.setIfInBounds_toArray, List.set_cons_zero, List.set_cons_succ])
     refine tk 4 (oi := ({ dst := some 50, op := .extract (.tmp 46) 0, type := 23, pos := "law.go:40", after := #[⟨3, .data⟩], guard := none } : Oper)) (v := ?v4_7_6_1) ?hy4_7_6_1 ?re4_7_6_1
     case hy4_7_6_1 => ((intro w hSw; have e00 := hSw.c0; have e01 := hSw.c1; go_simp) <;> with_reducible rfl)
     (try simp only [Act.put, List.setIfInBounds_toArray, List.set_cons_zero, List.set_cons_succ])
     refine tk 5 (oi := ({ dst := some 51, op := .extract (.tmp 46) 1, type := 32, pos := "law.go:40", after := #[⟨3, .data⟩, ⟨7, .gcOnly .lateStores⟩], guard := none } : Oper)) (v := ?v5_8_6_1) ?hy5_8_6_1 ?re5_8_6_1
     case hy5_8_6_1 => ((intro w hSw; have e00 := hSw.c0; have e01 := hSw.c1; go_simp) <;> with_reducible rfl)
     (try simp only [Act.put, List.setIfInBounds_toArray, List.set_cons_zero, List.set_cons_succ])
     refine wpAnyH_ready (rs := [7]) (by kernel_rfl) (by simp) ?_
     refine AllReadyH.cons (o := ({ dst := none, op := .store 23 (.tmp 11) (.tmp 50), type := 0, pos := "law.go:40", after := #[⟨6, .data⟩, ⟨4, .data⟩, ⟨2, .chain⟩, ⟨0, .phase⟩, ⟨1, .phase⟩, ⟨2, .phase⟩, ⟨3, .phase⟩, ⟨4, .phase⟩, ⟨5, .textOnly .lateStores⟩, ⟨6, .phase⟩], guard := none } : Oper)) rfl (fun K hK => ?_) ?_
     ·
      have c0 := V.out.c0
      have c1 := V.out.c1
      have f0 := V.out.f 0
      have f1 := V.out.f 1
      have hs := V.out.s0 (.string ⟨#[]⟩)
      have d1 := hs.c1
      have g1 := hs.f 1
      go_simp
      have Vn := Lib.hid (hs.s1 (.string ⟨#[]⟩))
      have An := Lib.hid ((A.out.other ⟨W6_1.heap.size, 0, none⟩ (.string ⟨#[]⟩) neVA).other ⟨W6_1.heap.size, 1, none⟩ (.string ⟨#[]⟩) neVA)
      have Bbn := Lib.hid ((Bb.out.other ⟨W6_1.heap.size, 0, none⟩ (.string ⟨#[]⟩) neVBb).other ⟨W6_1.heap.size, 1, none⟩ (.string ⟨#[]⟩) neVBb)
      have Cn := Lib.hid ((C.out.other ⟨W6_1.heap.size, 0, none⟩ (.string ⟨#[]⟩) neVC).other ⟨W6_1.heap.size, 1, none⟩ (.string ⟨#[]⟩) neVC)
      have Dn := Lib.hid ((D.out.other ⟨W6_1.heap.size, 0, none⟩ (.string ⟨#[]⟩) neVD).other ⟨W6_1.heap.size, 1, none⟩ (.string ⟨#[]⟩) neVD)
      have HBn := Lib.hid ((HB.out.setCell (p := ⟨W6_1.heap.size, 0, none⟩) gV (.string ⟨#[]⟩)).setCell (p := ⟨W6_1.heap.size, 1, none⟩) gV (.string ⟨#[]⟩))
      clear hs c0 c1 f0 f1 d1 g1
      have V := Vn
      have A := An
      have Bb := Bbn
      have C := Cn
      have D := Dn
      have HB := HBn
      clear Vn An Bbn Cn Dn HBn
      refine hK.out _ _ ?_ (fun hHeld => ?_)
      ·
       exact (hHeld.other ⟨W6_1.heap.size, 0, none⟩ (.string ⟨#[]⟩) neVBb).other ⟨W6_1.heap.size, 1, none⟩ (.string ⟨#[]⟩) neVBb
      clear hK K
      (try simp only [Act.put, List.setIfInBounds_toArray, List.set_cons_zero, List.set_cons_succ])
      refine tk 8 (oi := ({ dst := some 12, op := .assign (.tmp 51), type := 32, pos := "law.go:40", after := #[⟨5, .data⟩, ⟨7, .chain⟩, ⟨0, .phase⟩, ⟨1, .phase⟩, ⟨2, .phase⟩, ⟨3, .phase⟩, ⟨4, .phase⟩, ⟨5, .phase⟩, ⟨6, .phase⟩, ⟨7, .phase⟩], guard := none } : Oper)) (v := ?v8_9_6_1) ?hy8_9_6_1 ?re8_9_6_1
      case hy8_9_6_1 => ((intro w hSw; have e00 := hSw.c0; have e01 := hSw.c1; go_simp) <;> with_reducible rfl)
      (try simp only [Act.put, List.setIfInBounds_toArray, List.set_cons_zero, List.set_cons_succ])
      refine wpAnyH_done (by kernel_rfl) ?_ _
      refine NoPanic.normal ?_
      generalize hWJ : ((W6_6.setCell ⟨W6_1.heap.size, 0, none⟩ (.string ⟨#[]⟩)).setCell ⟨W6_1.heap.size, 1, none⟩ (.string ⟨#[]⟩)) = WJ at *
      clear hWJ
      generalize hgJ : W6_1.heap.size = gJ at *
      clear hgJ
      exact HJ gJ WJ (Lib.hid ⟨A.out, Bb.out, C.out, D.out, V.out, HB.out⟩)
     exact AllReadyH.nil
    exact AllReadyH.nil
   exact AllReadyH.nil
  refine AllReadyH.cons (o := ({ dst := some 11, op := .alloc 23, type := 0, pos := "law.go:40", after := #[], guard := none } : Oper)) rfl (fun K hK => ?_) ?_
  ·
   go_simp
   obtain ⟨WA6_8, hWA6_8⟩ : ∃ W, W = (W06.alloc (.cells #[.string ⟨#[]⟩, .string ⟨#[]⟩] 23)).drew := ⟨_, rfl⟩
   rw [← hWA6_8]
   have V : Hid (RBlk WA6_8 W06.heap.size (.string ⟨#[]⟩) (.string ⟨#[]⟩)) := Lib.hid (by rw [hWA6_8]; exact RBlk.new W06 (.string ⟨#[]⟩) (.string ⟨#[]⟩))
   have gV : w.heap.size ≤ W06.heap.size := HB.out.size
   have neVA : (W1.heap.size) ≠ W06.heap.size := Nat.ne_of_lt A.out.lt
   have neVBb : (W2.heap.size) ≠ W06.heap.size := Nat.ne_of_lt Bb.out.lt
   have neVC : (W6.heap.size) ≠ W06.heap.size := Nat.ne_of_lt C.out.lt
   have neVD : (W9.heap.size) ≠ W06.heap.size := Nat.ne_of_lt D.out.lt
   have hk : (fun W => RBlk W (W2.heap.size) (.string ⟨#[48]⟩) (.string ⟨#[49]⟩)) WA6_8 := by rw [hWA6_8]; exact hHeld.alloc _
   have A : Hid (RBlk WA6_8 (W1.heap.size) (.string ⟨#[45, 51]⟩) (.string ⟨#[50]⟩)) := Lib.hid (by rw [hWA6_8]; exact A.out.alloc _)
   have Bb : Hid (RBlk WA6_8 (W2.heap.size) (.string ⟨#[48]⟩) (.string ⟨#[49]⟩)) := Lib.hid (by rw [hWA6_8]; exact Bb.out.alloc _)
   have C : Hid (RBlk WA6_8 (W6.heap.size) (.string ⟨#[53]⟩) (.string ⟨#[54]⟩)) := Lib.hid (by rw [hWA6_8]; exact C.out.alloc _)
   have D : Hid (RBlk WA6_8 (W9.heap.size) (.string ⟨#[45, 50]⟩) (.string ⟨#[49]⟩)) := Lib.hid (by rw [hWA6_8]; exact D.out.alloc _)
   have HB : Hid (Below w.heap.size w WA6_8) := Lib.hid (by rw [hWA6_8]; exact HB.out.alloc HB.out.size _)
   clear hWA6_8
   refine hK.out _ _ ?_ (fun hHeld => ?_)
   ·
    exact hk
   clear hK K
   (try simp only [Act.put, List.setIfInBounds_toArray, List.set_cons_zero, List.set_cons_succ])
   clear hk
   refine wpAnyH_ready (rs := [0]) (by kernel_rfl) (by simp) ?_
   refine AllReadyH.cons (o := ({ dst := some 47, op := .call { callee := .value (.func 54), args := #[.const (.string { data := #[49] }), .const (.string { data := #[49] })], argTypes := #[9, 9] }, type := 23, pos := "law.go:40", after := #[], guard := none } : Oper)) rfl (fun K hK => ?_) ?_
   ·
    go_simp
    go_at_call 54
    refine (is_any _ _ _).mono ?_
    rintro e W6_9 ⟨rfl, B⟩
    have A := Lib.hid (A.out.keep B A.out.lt)
    have Bb := Lib.hid (Bb.out.keep B Bb.out.lt)
    have C := Lib.hid (C.out.keep B C.out.lt)
    have D := Lib.hid (D.out.keep B D.out.lt)
    have V := Lib.hid (V.out.keep B V.out.lt)
    have HB := Lib.hid (HB.out.trans (B.mono HB.out.size))
    (try go_wp2_with fail)
    refine hK.out _ _ ?_ (fun hHeld => ?_)
    ·
     exact hHeld.keep B hHeld.lt
    clear hK K
    (try simp only [Act.put, List.setIfInBounds_toArray, List.set_cons_zero, List.set_cons_succ])
    clear B
    refine wpAnyH_ready (rs := [2]) (by kernel_rfl) (by simp) ?_
    refine AllReadyH.cons (o := ({ dst := some 49, op := .call { callee := .value (.func 47), args := #[.tmp 47, .tmp 48], argTypes := #[23, 23] }, type := 36, pos := "law.go:40", after := #[⟨0, .data⟩, ⟨1, .data⟩, ⟨0, .chain⟩], guard := none } : Oper)) rfl (fun K hK => ?_) ?_
    ·
     go_simp
     go_at_call 47
     refine (s_div0 _).mono ?_
     rintro e W6_10 ⟨rfl, B⟩
     have A := Lib.hid (A.out.keep B A.out.lt)
     have Bb := Lib.hid (Bb.out.keep B Bb.out.lt)
     have C := Lib.hid (C.out.keep B C.out.lt)
     have D := Lib.hid (D.out.keep B D.out.lt)
     have V := Lib.hid (V.out.keep B V.out.lt)
     have HB := Lib.hid (HB.out.trans (B.mono HB.out.size))
     (try go_wp2_with fail)
     refine hK.out _ _ ?_ (fun hHeld => ?_)
     ·
      exact hHeld.keep B hHeld.lt
     clear hK K
     (try simp only [Act.put, List.setIfInBounds_toArray, List.set_cons_zero, List.set_cons_succ])
     clear B
     refine tk 3 (oi := ({ dst := some 46, op := .move (.tmp 49), type := 36, pos := "law.go:40", after := #[⟨2, .data⟩], guard := none } : Oper)) (v := ?v3_10_6_1) ?hy3_10_6_1 ?re3_10_6_1
     case hy3_10_6_1 => ((intro w hSw; have e00 := hSw.c0; have e01 := hSw.c1; go_simp) <;> with_reducible rfl)
     (try simp only [Act.put, List.setIfInBounds_toArray, List.set_cons_zero, List.set_cons_succ])
     refine tk 4 (oi := ({ dst := some 50, op := .extract (.tmp 46) 0, type := 23, pos := "law.go:40", after := #[⟨3, .data⟩], guard := none } : Oper)) (v := ?v4_11_6_1) ?hy4_11_6_1 ?re4_11_6_1
     case hy4_11_6_1 => ((intro w hSw; have e00 := hSw.c0; have e01 := hSw.c1; go_simp) <;> with_reducible rfl)
     (try simp only [Act.put, List.setIfInBounds_toArray, List.set_cons_zero, List.set_cons_succ])
     refine tk 5 (oi := ({ dst := some 51, op := .extract (.tmp 46) 1, type := 32, pos := "law.go:40", after := #[⟨3, .data⟩, ⟨7, .gcOnly .lateStores⟩], guard := none } : Oper)) (v := ?v5_12_6_1) ?hy5_12_6_1 ?re5_12_6_1
     case hy5_12_6_1 => ((intro w hSw; have e00 := hSw.c0; have e01 := hSw.c1; go_simp) <;> with_reducible rfl)
     (try simp only [Act.put, List.setIfInBounds_toArray, List.set_cons_zero, List.set_cons_succ])
     refine wpAnyH_ready (rs := [7]) (by kernel_rfl) (by simp) ?_
     refine AllReadyH.cons (o := ({ dst := none, op := .store 23 (.tmp 11) (.tmp 50), type := 0, pos := "law.go:40", after := #[⟨6, .data⟩, ⟨4, .data⟩, ⟨2, .chain⟩, ⟨0, .phase⟩, ⟨1, .phase⟩, ⟨2, .phase⟩, ⟨3, .phase⟩, ⟨4, .phase⟩, ⟨5, .textOnly .lateStores⟩, ⟨6, .phase⟩], guard := none } : Oper)) rfl (fun K hK => ?_) ?_
     ·
      have c0 := V.out.c0
      have c1 := V.out.c1
      have f0 := V.out.f 0
      have f1 := V.out.f 1
      have hs := V.out.s0 (.string ⟨#[]⟩)
      have d1 := hs.c1
      have g1 := hs.f 1
      go_simp
      have Vn := Lib.hid (hs.s1 (.string ⟨#[]⟩))
      have An := Lib.hid ((A.out.other ⟨W06.heap.size, 0, none⟩ (.string ⟨#[]⟩) neVA).other ⟨W06.heap.size, 1, none⟩ (.string ⟨#[]⟩) neVA)
      have Bbn := Lib.hid ((Bb.out.other ⟨W06.heap.size, 0, none⟩ (.string ⟨#[]⟩) neVBb).other ⟨W06.heap.size, 1, none⟩ (.string ⟨#[]⟩) neVBb)
      have Cn := Lib.hid ((C.out.other ⟨W06.heap.size, 0, none⟩ (.string ⟨#[]⟩) neVC).other ⟨W06.heap.size, 1, none⟩ (.string ⟨#[]⟩) neVC)
      have Dn := Lib.hid ((D.out.other ⟨W06.heap.size, 0, none⟩ (.string ⟨#[]⟩) neVD).other ⟨W06.heap.size, 1, none⟩ (.string ⟨#[]⟩) neVD)
      have HBn := Lib.hid ((HB.out.setCell (p := ⟨W06.heap.size, 0, none⟩) gV (.string ⟨#[]⟩)).setCell (p := ⟨W06.heap.size, 1, none⟩) gV (.string ⟨#[]⟩))
      clear hs c0 c1 f0 f1 d1 g1
      have V := Vn
      have A := An
      have Bb := Bbn
      have C := Cn
      have D := Dn
      have HB := HBn
      clear Vn An Bbn Cn Dn HBn
      refine hK.out _ _ ?_ (fun hHeld => ?_)
      ·
       exact (hHeld.other ⟨W06.heap.size, 0, none⟩ (.string ⟨#[]⟩) neVBb).other ⟨W06.heap.size, 1, none⟩ (.string ⟨#[]⟩) neVBb
      clear hK K
      (try simp only [Act.put, List.setIfInBounds_toArray, List.set_cons_zero, List.set_cons_succ])
      refine tk 8 (oi := ({ dst := some 12, op := .assign (.tmp 51), type := 32, pos := "law.go:40", after := #[⟨5, .data⟩, ⟨7, .chain⟩, ⟨0, .phase⟩, ⟨1, .phase⟩, ⟨2, .phase⟩, ⟨3, .phase⟩, ⟨4, .phase⟩, ⟨5, .phase⟩, ⟨6, .phase⟩, ⟨7, .phase⟩], guard := none } : Oper)) (v := ?v8_13_6_1) ?hy8_13_6_1 ?re8_13_6_1
      case hy8_13_6_1 => ((intro w hSw; have e00 := hSw.c0; have e01 := hSw.c1; go_simp) <;> with_reducible rfl)
      (try simp only [Act.put, List.setIfInBounds_toArray, List.set_cons_zero, List.set_cons_succ])
      refine wpAnyH_done (by kernel_rfl) ?_ _
      refine NoPanic.normal ?_
      generalize hWJ : ((W6_10.setCell ⟨W06.heap.size, 0, none⟩ (.string ⟨#[]⟩)).setCell ⟨W06.heap.size, 1, none⟩ (.string ⟨#[]⟩)) = WJ at *
      clear hWJ
      generalize hgJ : W06.heap.size = gJ at *
      clear hgJ
      exact HJ gJ WJ (Lib.hid ⟨A.out, Bb.out, C.out, D.out, V.out, HB.out⟩)
     exact AllReadyH.nil
    exact AllReadyH.nil
   exact AllReadyH.nil
  exact AllReadyH.nil
 case r =>
  clear A Bb C D HB
  intro gJ6 WJ6 hF
  obtain ⟨A', Bb', C', D', V', HB'⟩ := hF.out
  have A := Lib.hid A'
  have Bb := Lib.hid Bb'
  have C := Lib.hid C'
  have D := Lib.hid D'
  have V := Lib.hid V'
  have HB := Lib.hid HB'
  clear hF A' Bb' C' D' V' HB'
  (try go_wp2_with fail)
  go_at_call 54
  refine (is_any _ _ _).mono ?_
  rintro e Wjr1 ⟨rfl, B⟩
  have An := Lib.hid ((A.out.keep B A.out.lt))
  have Bbn := Lib.hid ((Bb.out.keep B Bb.out.lt))
  have Cn := Lib.hid ((C.out.keep B C.out.lt))
  have Dn := Lib.hid ((D.out.keep B D.out.lt))
  have Vn := Lib.hid ((V.out.keep B V.out.lt))
  have HBn := Lib.hid (HB.out.trans (B.mono HB.out.size))
  clear A Bb C D V HB
  have A := An
  have Bb := Bbn
  have C := Cn
  have D := Dn
  have V := Vn
  have HB := HBn
  clear An Bbn Cn Dn Vn HBn
  clear B
  (try go_wp2_with fail)
  go_at_call 24
  refine (s_down _).mono ?_
  rintro e Wjr2 ⟨rfl, B⟩
  have An := Lib.hid ((A.out.keep B A.out.lt).alloc (.cells #[(.string ⟨#[45, 49, 55]⟩), (.string ⟨#[53, 48]⟩)] 23))
  have Bbn := Lib.hid ((Bb.out.keep B Bb.out.lt).alloc (.cells #[(.string ⟨#[45, 49, 55]⟩), (.string ⟨#[53, 48]⟩)] 23))
  have Cn := Lib.hid ((C.out.keep B C.out.lt).alloc (.cells #[(.string ⟨#[45, 49, 55]⟩), (.string ⟨#[53, 48]⟩)] 23))
  have Dn := Lib.hid ((D.out.keep B D.out.lt).alloc (.cells #[(.string ⟨#[45, 49, 55]⟩), (.string ⟨#[53, 48]⟩)] 23))
  have Vn := Lib.hid ((V.out.keep B V.out.lt).alloc (.cells #[(.string ⟨#[45, 49, 55]⟩), (.string ⟨#[53, 48]⟩)] 23))
  have HBn := Lib.hid ((HB.out.trans (B.mono HB.out.size)).alloc (HB.out.trans (B.mono HB.out.size)).size (.cells #[(.string ⟨#[45, 49, 55]⟩), (.string ⟨#[53, 48]⟩)] 23))
  clear A Bb C D V HB
  have A := An
  have Bb := Bbn
  have C := Cn
  have D := Dn
  have V := Vn
  have HB := HBn
  clear An Bbn Cn Dn Vn HBn
  have KK := Lib.hid (RBlk.new Wjr2 (.string ⟨#[45, 49, 55]⟩) (.string ⟨#[53, 48]⟩))
  clear B
  (try go_wp2_with fail)
  go_at_call 54
  refine (is_any _ _ _).mono ?_
  rintro e Wjr3 ⟨rfl, B⟩
  have An := Lib.hid ((A.out.keep B A.out.lt))
  have Bbn := Lib.hid ((Bb.out.keep B Bb.out.lt))
  have Cn := Lib.hid ((C.out.keep B C.out.lt))
  have Dn := Lib.hid ((D.out.keep B D.out.lt))
  have Vn := Lib.hid ((V.out.keep B V.out.lt))
  have KKn := Lib.hid ((KK.out.keep B KK.out.lt))
  have HBn := Lib.hid (HB.out.trans (B.mono HB.out.size))
  clear A Bb C D V KK HB
  have A := An
  have Bb := Bbn
  have C := Cn
  have D := Dn
  have V := Vn
  have KK := KKn
  have HB := HBn
  clear An Bbn Cn Dn Vn KKn HBn
  clear B
  (try go_wp2_with fail)
  go_at_call 26
  refine (s_up _).mono ?_
  rintro e Wjr4 ⟨rfl, B⟩
  have An := Lib.hid ((A.out.keep B A.out.lt).alloc (.cells #[(.string ⟨#[49, 55]⟩), (.string ⟨#[53, 48]⟩)] 23))
  have Bbn := Lib.hid ((Bb.out.keep B Bb.out.lt).alloc (.cells #[(.string ⟨#[49, 55]⟩), (.string ⟨#[53, 48]⟩)] 23))
  have Cn := Lib.hid ((C.out.keep B C.out.lt).alloc (.cells #[(.string ⟨#[49, 55]⟩), (.string ⟨#[53, 48]⟩)] 23))
  have Dn := Lib.hid ((D.out.keep B D.out.lt).alloc (.cells #[(.string ⟨#[49, 55]⟩), (.string ⟨#[53, 48]⟩)] 23))
  have Vn := Lib.hid ((V.out.keep B V.out.lt).alloc (.cells #[(.string ⟨#[49, 55]⟩), (.string ⟨#[53, 48]⟩)] 23))
  have KKn := Lib.hid ((KK.out.keep B KK.out.lt).alloc (.cells #[(.string ⟨#[49, 55]⟩), (.string ⟨#[53, 48]⟩)] 23))
  have HBn := Lib.hid ((HB.out.trans (B.mono HB.out.size)).alloc (HB.out.trans (B.mono HB.out.size)).size (.cells #[(.string ⟨#[49, 55]⟩), (.string ⟨#[53, 48]⟩)] 23))
  clear A Bb C D V KK HB
  have A := An
  have Bb := Bbn
  have C := Cn
  have D := Dn
  have V := Vn
  have KK := KKn
  have HB := HBn
  clear An Bbn Cn Dn Vn KKn HBn
  have M := Lib.hid (RBlk.new Wjr4 (.string ⟨#[49, 55]⟩) (.string ⟨#[53, 48]⟩))
  clear B
  (try go_wp2_with fail)
  go_at_call 35
  refine (s_parse _ (HT.out.below HB.out)).mono ?_
  rintro e Wjr5 ⟨rfl, B⟩
  have An := Lib.hid ((A.out.keep B A.out.lt).alloc (.cells #[(.string ⟨#[45, 51]⟩), (.string ⟨#[50]⟩)] 23))
  have Bbn := Lib.hid ((Bb.out.keep B Bb.out.lt).alloc (.cells #[(.string ⟨#[45, 51]⟩), (.string ⟨#[50]⟩)] 23))
  have Cn := Lib.hid ((C.out.keep B C.out.lt).alloc (.cells #[(.string ⟨#[45, 51]⟩), (.string ⟨#[50]⟩)] 23))
  have Dn := Lib.hid ((D.out.keep B D.out.lt).alloc (.cells #[(.string ⟨#[45, 51]⟩), (.string ⟨#[50]⟩)] 23))
  have Vn := Lib.hid ((V.out.keep B V.out.lt).alloc (.cells #[(.string ⟨#[45, 51]⟩), (.string ⟨#[50]⟩)] 23))
  have KKn := Lib.hid ((KK.out.keep B KK.out.lt).alloc (.cells #[(.string ⟨#[45, 51]⟩), (.string ⟨#[50]⟩)] 23))
  have Mn := Lib.hid ((M.out.keep B M.out.lt).alloc (.cells #[(.string ⟨#[45, 51]⟩), (.string ⟨#[50]⟩)] 23))
  have HBn := Lib.hid ((HB.out.trans (B.mono HB.out.size)).alloc (HB.out.trans (B.mono HB.out.size)).size (.cells #[(.string ⟨#[45, 51]⟩), (.string ⟨#[50]⟩)] 23))
  clear A Bb C D V KK M HB
  have A := An
  have Bb := Bbn
  have C := Cn
  have D := Dn
  have V := Vn
  have KK := KKn
  have M := Mn
  have HB := HBn
  clear An Bbn Cn Dn Vn KKn Mn HBn
  have O := Lib.hid (RBlk.new Wjr5 (.string ⟨#[45, 51]⟩) (.string ⟨#[50]⟩))
  clear B
  (try go_wp2_with fail)
  go_at_call 35
  refine (s_parse64 _ (HT.out.below HB.out)).mono ?_
  rintro e Wjr6 ⟨rfl, B⟩
  have An := Lib.hid ((A.out.keep B A.out.lt).alloc (.cells #[.string ⟨#[]⟩, .string ⟨#[]⟩] 23))
  have Bbn := Lib.hid ((Bb.out.keep B Bb.out.lt).alloc (.cells #[.string ⟨#[]⟩, .string ⟨#[]⟩] 23))
  have Cn := Lib.hid ((C.out.keep B C.out.lt).alloc (.cells #[.string ⟨#[]⟩, .string ⟨#[]⟩] 23))
  have Dn := Lib.hid ((D.out.keep B D.out.lt).alloc (.cells #[.string ⟨#[]⟩, .string ⟨#[]⟩] 23))
  have Vn := Lib.hid ((V.out.keep B V.out.lt).alloc (.cells #[.string ⟨#[]⟩, .string ⟨#[]⟩] 23))
  have KKn := Lib.hid ((KK.out.keep B KK.out.lt).alloc (.cells #[.string ⟨#[]⟩, .string ⟨#[]⟩] 23))
  have Mn := Lib.hid ((M.out.keep B M.out.lt).alloc (.cells #[.string ⟨#[]⟩, .string ⟨#[]⟩] 23))
  have On := Lib.hid ((O.out.keep B O.out.lt).alloc (.cells #[.string ⟨#[]⟩, .string ⟨#[]⟩] 23))
  have HBn := Lib.hid ((HB.out.trans (B.mono HB.out.size)).alloc (HB.out.trans (B.mono HB.out.size)).size (.cells #[.string ⟨#[]⟩, .string ⟨#[]⟩] 23))
  clear A Bb C D V KK M O HB
  have A := An
  have Bb := Bbn
  have C := Cn
  have D := Dn
  have V := Vn
  have KK := KKn
  have M := Mn
  have O := On
  have HB := HBn
  clear An Bbn Cn Dn Vn KKn Mn On HBn
  clear B
  go_upto_region 12 with fail
  generalize hW0jr12 : (Wjr6.alloc (.cells #[.string ⟨#[]⟩, .string ⟨#[]⟩] 23)) = W0jr12 at *
  clear hW0jr12
  refine wp_region_noPanic ?_
  refine wp_region_held_drew (S := fun W => RBlk W (W1.heap.size) (.string ⟨#[45, 51]⟩) (.string ⟨#[50]⟩) ∧ RBlk W (W2.heap.size) (.string ⟨#[48]⟩) (.string ⟨#[49]⟩) ∧ RBlk W (W6.heap.size) (.string ⟨#[53]⟩) (.string ⟨#[54]⟩) ∧ RBlk W (W9.heap.size) (.string ⟨#[45, 50]⟩) (.string ⟨#[49]⟩) ∧ RBlk W (Wjr2.heap.size) (.string ⟨#[45, 49, 55]⟩) (.string ⟨#[53, 48]⟩) ∧ RBlk W (Wjr4.heap.size) (.string ⟨#[49, 55]⟩) (.string ⟨#[53, 48]⟩) ∧ RBlk W (Wjr5.heap.size) (.string ⟨#[45, 51]⟩) (.string ⟨#[50]⟩)) (by kernel_rfl) ?_ (fun hHeld => ?_)
  ·
   exact ⟨A.out, Bb.out, C.out, D.out, KK.out, M.out, O.out⟩
  have An := Lib.hid A.out.drew
  have Bbn := Lib.hid Bb.out.drew
  have Cn := Lib.hid C.out.drew
  have Dn := Lib.hid D.out.drew
  have Vn := Lib.hid V.out.drew
  have KKn := Lib.hid KK.out.drew
  have Mn := Lib.hid M.out.drew
  have On := Lib.hid O.out.drew
  have HBn := Lib.hid HB.out.drew
  clear A Bb C D V KK M O HB
  have A := An
  have Bb := Bbn
  have C := Cn
  have D := Dn
  have V := Vn
  have KK := KKn
  have M := Mn
  have O := On
  have HB := HBn
  clear An Bbn Cn Dn Vn KKn Mn On HBn
  refine tk 0 (oi := ({ dst := some 108, op := .move (.tmp 21), type := 4, pos := "law.go:46", after := #[], guard := none } : Oper)) (v := ?v0_1jr_12_2) ?hy0_1jr_12_2 ?re0_1jr_12_2
  case hy0_1jr_12_2 => ((intro w hSw; have e00 := hSw.1.c0; have e01 := hSw.1.c1; have e10 := hSw.2.1.c0; have e11 := hSw.2.1.c1; have e20 := hSw.2.2.1.c0; have e21 := hSw.2.2.1.c1; have e30 := hSw.2.2.2.1.c0; have e31 := hSw.2.2.2.1.c1; have e40 := hSw.2.2.2.2.1.c0; have e41 := hSw.2.2.2.2.1.c1; have e50 := hSw.2.2.2.2.2.1.c0; have e51 := hSw.2.2.2.2.2.1.c1; have e60 := hSw.2.2.2.2.2.2.c0; have e61 := hSw.2.2.2.2.2.2.c1; go_simp) <;> with_reducible rfl)
  (try simp only [Act.put, List.setIfInBounds_toArray, List.set_cons_zero, List.set_cons_succ])
  refine tk 1 (oi := ({ dst := some 109, op := .move (.tmp 108), type := 4, pos := "law.go:46", after := #[⟨0, .data⟩], guard := none } : Oper)) (v := ?v1_2jr_12_2) ?hy1_2jr_12_2 ?re1_2jr_12_2
  case hy1_2jr_12_2 => ((intro w hSw; have e00 := hSw.1.c0; have e01 := hSw.1.c1; have e10 := hSw.2.1.c0; have e11 := hSw.2.1.c1; have e20 := hSw.2.2.1.c0; have e21 := hSw.2.2.1.c1; have e30 := hSw.2.2.2.1.c0; have e31 := hSw.2.2.2.1.c1; have e40 := hSw.2.2.2.2.1.c0; have e41 := hSw.2.2.2.2.1.c1; have e50 := hSw.2.2.2.2.2.1.c0; have e51 := hSw.2.2.2.2.2.1.c1; have e60 := hSw.2.2.2.2.2.2.c0; have e61 := hSw.2.2.2.2.2.2.c1; go_simp) <;> with_reducible rfl)
  (try simp only [Act.put, List.setIfInBounds_toArray, List.set_cons_zero, List.set_cons_succ])
  refine tk 2 (oi := ({ dst := some 110, op := .load 23 (.tmp 1), type := 23, pos := "law.go:46", after := #[⟨1, .guard⟩], guard := some (1, true) } : Oper)) (v := ?v2_3jr_12_2) ?hy2_3jr_12_2 ?re2_3jr_12_2
  case hy2_3jr_12_2 => ((intro w hSw; have e00 := hSw.1.c0; have e01 := hSw.1.c1; have e10 := hSw.2.1.c0; have e11 := hSw.2.1.c1; have e20 := hSw.2.2.1.c0; have e21 := hSw.2.2.1.c1; have e30 := hSw.2.2.2.1.c0; have e31 := hSw.2.2.2.1.c1; have e40 := hSw.2.2.2.2.1.c0; have e41 := hSw.2.2.2.2.1.c1; have e50 := hSw.2.2.2.2.2.1.c0; have e51 := hSw.2.2.2.2.2.1.c1; have e60 := hSw.2.2.2.2.2.2.c0; have e61 := hSw.2.2.2.2.2.2.c1; go_simp) <;> with_reducible rfl)
  (try simp only [Act.put, List.setIfInBounds_toArray, List.set_cons_zero, List.set_cons_succ])
  refine wpAnyH_ready (rs := [3]) (by kernel_rfl) (by simp) ?_
  refine AllReadyH.cons (o := ({ dst := some 111, op := .call { callee := .value (.func 54), args := #[.const (.string { data := #[45, 51] }), .const (.string { data := #[50] })], argTypes := #[9, 9] }, type := 23, pos := "law.go:46", after := #[⟨1, .chain⟩, ⟨1, .guard⟩], guard := some (1, true) } : Oper)) rfl (fun K hK => ?_) ?_
  ·
   go_simp
   go_at_call 54
   refine (is_any _ _ _).mono ?_
   rintro e Wjr12_1 ⟨rfl, B⟩
   have An := Lib.hid (A.out.keep B A.out.lt)
   have Bbn := Lib.hid (Bb.out.keep B Bb.out.lt)
   have Cn := Lib.hid (C.out.keep B C.out.lt)
   have Dn := Lib.hid (D.out.keep B D.out.lt)
   have Vn := Lib.hid (V.out.keep B V.out.lt)
   have KKn := Lib.hid (KK.out.keep B KK.out.lt)
   have Mn := Lib.hid (M.out.keep B M.out.lt)
   have On := Lib.hid (O.out.keep B O.out.lt)
   have HBn := Lib.hid (HB.out.trans (B.mono HB.out.size))
   clear A Bb C D V KK M O HB
   have A := An
   have Bb := Bbn
   have C := Cn
   have D := Dn
   have V := Vn
   have KK := KKn
   have M := Mn
   have O := On
   have HB := HBn
   clear An Bbn Cn Dn Vn KKn Mn On HBn
   (try go_wp2_with fail)
   refine hK.out _ _ ?_ (fun hHeld => ?_)
   ·
    exact ⟨hHeld.1.keep B hHeld.1.lt, hHeld.2.1.keep B hHeld.2.1.lt, hHeld.2.2.1.keep B hHeld.2.2.1.lt, hHeld.2.2.2.1.keep B hHeld.2.2.2.1.lt, hHeld.2.2.2.2.1.keep B hHeld.2.2.2.2.1.lt, hHeld.2.2.2.2.2.1.keep B hHeld.2.2.2.2.2.1.lt, hHeld.2.2.2.2.2.2.keep B hHeld.2.2.2.2.2.2.lt⟩
   clear hK K
   (try simp only [Act.put, List.setIfInBounds_toArray, List.set_cons_zero, List.set_cons_succ])
   clear B
   refine tk 4 (oi := ({ dst := some 112, op := .binOp .eql 23 (.tmp 110) (.tmp 111) 23, type := 4, pos := "law.go:46", after := #[⟨2, .data⟩, ⟨3, .data⟩, ⟨1, .guard⟩], guard := some (1, true) } : Oper)) (v := ?v4_4jr_12_2) ?hy4_4jr_12_2 ?re4_4jr_12_2
   case hy4_4jr_12_2 => ((intro w hSw; have e00 := hSw.1.c0; have e01 := hSw.1.c1; have e10 := hSw.2.1.c0; have e11 := hSw.2.1.c1; have e20 := hSw.2.2.1.c0; have e21 := hSw.2.2.1.c1; have e30 := hSw.2.2.2.1.c0; have e31 := hSw.2.2.2.1.c1; have e40 := hSw.2.2.2.2.1.c0; have e41 := hSw.2.2.2.2.1.c1; have e50 := hSw.2.2.2.2.2.1.c0; have e51 := hSw.2.2.2.2.2.1.c1; have e60 := hSw.2.2.2.2.2.2.c0; have e61 := hSw.2.2.2.2.2.2.c1; go_simp) <;> with_reducible rfl)
   (try simp only [Act.put, List.setIfInBounds_toArray, List.set_cons_zero, List.set_cons_succ])
   refine tk 5 (oi := ({ dst := some 113, op := .pick (.tmp 109) (.tmp 112) (.const (.bool false)), type := 4, pos := "law.go:46", after := #[⟨1, .data⟩, ⟨4, .data⟩], guard := none } : Oper)) (v := ?v5_5jr_12_2) ?hy5_5jr_12_2 ?re5_5jr_12_2
   case hy5_5jr_12_2 => ((intro w hSw; have e00 := hSw.1.c0; have e01 := hSw.1.c1; have e10 := hSw.2.1.c0; have e11 := hSw.2.1.c1; have e20 := hSw.2.2.1.c0; have e21 := hSw.2.2.1.c1; have e30 := hSw.2.2.2.1.c0; have e31 := hSw.2.2.2.1.c1; have e40 := hSw.2.2.2.2.1.c0; have e41 := hSw.2.2.2.2.1.c1; have e50 := hSw.2.2.2.2.2.1.c0; have e51 := hSw.2.2.2.2.2.1.c1; have e60 := hSw.2.2.2.2.2.2.c0; have e61 := hSw.2.2.2.2.2.2.c1; go_simp) <;> with_reducible rfl)
   (try simp only [Act.put, List.setIfInBounds_toArray, List.set_cons_zero, List.set_cons_succ])
   refine tk 6 (oi := ({ dst := some 114, op := .move (.tmp 113), type := 4, pos := "law.go:46", after := #[⟨5, .data⟩, ⟨3, .chain⟩], guard := none } : Oper)) (v := ?v6_6jr_12_2) ?hy6_6jr_12_2 ?re6_6jr_12_2
   case hy6_6jr_12_2 => ((intro w hSw; have e00 := hSw.1.c0; have e01 := hSw.1.c1; have e10 := hSw.2.1.c0; have e11 := hSw.2.1.c1; have e20 := hSw.2.2.1.c0; have e21 := hSw.2.2.1.c1; have e30 := hSw.2.2.2.1.c0; have e31 := hSw.2.2.2.1.c1; have e40 := hSw.2.2.2.2.1.c0; have e41 := hSw.2.2.2.2.1.c1; have e50 := hSw.2.2.2.2.2.1.c0; have e51 := hSw.2.2.2.2.2.1.c1; have e60 := hSw.2.2.2.2.2.2.c0; have e61 := hSw.2.2.2.2.2.2.c1; go_simp) <;> with_reducible rfl)
   (try simp only [Act.put, List.setIfInBounds_toArray, List.set_cons_zero, List.set_cons_succ])
   refine tk 7 (oi := ({ dst := some 115, op := .load 23 (.tmp 3), type := 23, pos := "law.go:46", after := #[⟨6, .guard⟩], guard := some (6, true) } : Oper)) (v := ?v7_7jr_12_2) ?hy7_7jr_12_2 ?re7_7jr_12_2
   case hy7_7jr_12_2 => ((intro w hSw; have e00 := hSw.1.c0; have e01 := hSw.1.c1; have e10 := hSw.2.1.c0; have e11 := hSw.2.1.c1; have e20 := hSw.2.2.1.c0; have e21 := hSw.2.2.1.c1; have e30 := hSw.2.2.2.1.c0; have e31 := hSw.2.2.2.1.c1; have e40 := hSw.2.2.2.2.1.c0; have e41 := hSw.2.2.2.2.1.c1; have e50 := hSw.2.2.2.2.2.1.c0; have e51 := hSw.2.2.2.2.2.1.c1; have e60 := hSw.2.2.2.2.2.2.c0; have e61 := hSw.2.2.2.2.2.2.c1; go_simp) <;> with_reducible rfl)
   (try simp only [Act.put, List.setIfInBounds_toArray, List.set_cons_zero, List.set_cons_succ])
   refine wpAnyH_ready (rs := [8]) (by kernel_rfl) (by simp) ?_
   refine AllReadyH.cons (o := ({ dst := some 116, op := .call { callee := .value (.func 54), args := #[.const (.string { data := #[48] }), .const (.string { data := #[49] })], argTypes := #[9, 9] }, type := 23, pos := "law.go:46", after := #[⟨6, .chain⟩, ⟨6, .guard⟩], guard := some (6, true) } : Oper)) rfl (fun K hK => ?_) ?_
   ·
    go_simp
    go_at_call 54
    refine (is_any _ _ _).mono ?_
    rintro e Wjr12_2 ⟨rfl, B⟩
    have An := Lib.hid (A.out.keep B A.out.lt)
    have Bbn := Lib.hid (Bb.out.keep B Bb.out.lt)
    have Cn := Lib.hid (C.out.keep B C.out.lt)
    have Dn := Lib.hid (D.out.keep B D.out.lt)
    have Vn := Lib.hid (V.out.keep B V.out.lt)
    have KKn := Lib.hid (KK.out.keep B KK.out.lt)
    have Mn := Lib.hid (M.out.keep B M.out.lt)
    have On := Lib.hid (O.out.keep B O.out.lt)
    have HBn := Lib.hid (HB.out.trans (B.mono HB.out.size))
    clear A Bb C D V KK M O HB
    have A := An
    have Bb := Bbn
    have C := Cn
    have D := Dn
    have V := Vn
    have KK := KKn
    have M := Mn
    have O := On
    have HB := HBn
    clear An Bbn Cn Dn Vn KKn Mn On HBn
    (try go_wp2_with fail)
    refine hK.out _ _ ?_ (fun hHeld => ?_)
    ·
     exact ⟨hHeld.1.keep B hHeld.1.lt, hHeld.2.1.keep B hHeld.2.1.lt, hHeld.2.2.1.keep B hHeld.2.2.1.lt, hHeld.2.2.2.1.keep B hHeld.2.2.2.1.lt, hHeld.2.2.2.2.1.keep B hHeld.2.2.2.2.1.lt, hHeld.2.2.2.2.2.1.keep B hHeld.2.2.2.2.2.1.lt, hHeld.2.2.2.2.2.2.keep B hHeld.2.2.2.2.2.2.lt⟩
    clear hK K
    (try simp only [Act.put, List.setIfInBounds_toArray, List.set_cons_zero, List.set_cons_succ])
    clear B
    refine tk 9 (oi := ({ dst := some 117, op := .binOp .eql 23 (.tmp 115) (.tmp 116) 23, type := 4, pos := "law.go:46", after := #[⟨7, .data⟩, ⟨8, .data⟩, ⟨6, .guard⟩], guard := some (6, true) } : Oper)) (v := ?v9_8jr_12_2) ?hy9_8jr_12_2 ?re9_8jr_12_2
    case hy9_8jr_12_2 => ((intro w hSw; have e00 := hSw.1.c0; have e01 := hSw.1.c1; have e10 := hSw.2.1.c0; have e11 := hSw.2.1.c1; have e20 := hSw.2.2.1.c0; have e21 := hSw.2.2.1.c1; have e30 := hSw.2.2.2.1.c0; have e31 := hSw.2.2.2.1.c1; have e40 := hSw.2.2.2.2.1.c0; have e41 := hSw.2.2.2.2.1.c1; have e50 := hSw.2.2.2.2.2.1.c0; have e51 := hSw.2.2.2.2.2.1.c1; have e60 := hSw.2.2.2.2.2.2.c0; have e61 := hSw.2.2.2.2.2.2.c1; go_simp) <;> with_reducible rfl)
    (try simp only [Act.put, List.setIfInBounds_toArray, List.set_cons_zero, List.set_cons_succ])
    refine tk 10 (oi := ({ dst := some 118, op := .pick (.tmp 114) (.tmp 117) (.const (.bool false)), type := 4, pos := "law.go:46", after := #[⟨6, .data⟩, ⟨9, .data⟩], guard := none } : Oper)) (v := ?v10_9jr_12_2) ?hy10_9jr_12_2 ?re10_9jr_12_2
    case hy10_9jr_12_2 => ((intro w hSw; have e00 := hSw.1.c0; have e01 := hSw.1.c1; have e10 := hSw.2.1.c0; have e11 := hSw.2.1.c1; have e20 := hSw.2.2.1.c0; have e21 := hSw.2.2.1.c1; have e30 := hSw.2.2.2.1.c0; have e31 := hSw.2.2.2.1.c1; have e40 := hSw.2.2.2.2.1.c0; have e41 := hSw.2.2.2.2.1.c1; have e50 := hSw.2.2.2.2.2.1.c0; have e51 := hSw.2.2.2.2.2.1.c1; have e60 := hSw.2.2.2.2.2.2.c0; have e61 := hSw.2.2.2.2.2.2.c1; go_simp) <;> with_reducible rfl)
    (try simp only [Act.put, List.setIfInBounds_toArray, List.set_cons_zero, List.set_cons_succ])
    refine tk 11 (oi := ({ dst := some 119, op := .move (.tmp 118), type := 4, pos := "law.go:46", after := #[⟨10, .data⟩, ⟨8, .chain⟩], guard := none } : Oper)) (v := ?v11_10jr_12_2) ?hy11_10jr_12_2 ?re11_10jr_12_2
    case hy11_10jr_12_2 => ((intro w hSw; have e00 := hSw.1.c0; have e01 := hSw.1.c1; have e10 := hSw.2.1.c0; have e11 := hSw.2.1.c1; have e20 := hSw.2.2.1.c0; have e21 := hSw.2.2.1.c1; have e30 := hSw.2.2.2.1.c0; have e31 := hSw.2.2.2.1.c1; have e40 := hSw.2.2.2.2.1.c0; have e41 := hSw.2.2.2.2.1.c1; have e50 := hSw.2.2.2.2.2.1.c0; have e51 := hSw.2.2.2.2.2.1.c1; have e60 := hSw.2.2.2.2.2.2.c0; have e61 := hSw.2.2.2.2.2.2.c1; go_simp) <;> with_reducible rfl)
    (try simp only [Act.put, List.setIfInBounds_toArray, List.set_cons_zero, List.set_cons_succ])
    refine tk 12 (oi := ({ dst := some 120, op := .load 23 (.tmp 7), type := 23, pos := "law.go:46", after := #[⟨11, .guard⟩], guard := some (11, true) } : Oper)) (v := ?v12_11jr_12_2) ?hy12_11jr_12_2 ?re12_11jr_12_2
    case hy12_11jr_12_2 => ((intro w hSw; have e00 := hSw.1.c0; have e01 := hSw.1.c1; have e10 := hSw.2.1.c0; have e11 := hSw.2.1.c1; have e20 := hSw.2.2.1.c0; have e21 := hSw.2.2.1.c1; have e30 := hSw.2.2.2.1.c0; have e31 := hSw.2.2.2.1.c1; have e40 := hSw.2.2.2.2.1.c0; have e41 := hSw.2.2.2.2.1.c1; have e50 := hSw.2.2.2.2.2.1.c0; have e51 := hSw.2.2.2.2.2.1.c1; have e60 := hSw.2.2.2.2.2.2.c0; have e61 := hSw.2.2.2.2.2.2.c1; go_simp) <;> with_reducible rfl)
    (try simp only [Act.put, List.setIfInBounds_toArray, List.set_cons_zero, List.set_cons_succ])
    refine wpAnyH_ready (rs := [13]) (by kernel_rfl) (by simp) ?_
    refine AllReadyH.cons (o := ({ dst := some 121, op := .call { callee := .value (.func 54), args := #[.const (.string { data := #[53] }), .const (.string { data := #[54] })], argTypes := #[9, 9] }, type := 23, pos := "law.go:46", after := #[⟨11, .chain⟩, ⟨11, .guard⟩], guard := some (11, true) } : Oper)) rfl (fun K hK => ?_) ?_
    ·
     go_simp
     go_at_call 54
     refine (is_any _ _ _).mono ?_
     rintro e Wjr12_3 ⟨rfl, B⟩
     have An := Lib.hid (A.out.keep B A.out.lt)
     have Bbn := Lib.hid (Bb.out.keep B Bb.out.lt)
     have Cn := Lib.hid (C.out.keep B C.out.lt)
     have Dn := Lib.hid (D.out.keep B D.out.lt)
     have Vn := Lib.hid (V.out.keep B V.out.lt)
     have KKn := Lib.hid (KK.out.keep B KK.out.lt)
     have Mn := Lib.hid (M.out.keep B M.out.lt)
     have On := Lib.hid (O.out.keep B O.out.lt)
     have HBn := Lib.hid (HB.out.trans (B.mono HB.out.size))
     clear A Bb C D V KK M O HB
     have A := An
     have Bb := Bbn
     have C := Cn
     have D := Dn
     have V := Vn
     have KK := KKn
     have M := Mn
     have O := On
     have HB := HBn
     clear An Bbn Cn Dn Vn KKn Mn On HBn
     (try go_wp2_with fail)
     refine hK.out _ _ ?_ (fun hHeld => ?_)
     ·
      exact ⟨hHeld.1.keep B hHeld.1.lt, hHeld.2.1.keep B hHeld.2.1.lt, hHeld.2.2.1.keep B hHeld.2.2.1.lt, hHeld.2.2.2.1.keep B hHeld.2.2.2.1.lt, hHeld.2.2.2.2.1.keep B hHeld.2.2.2.2.1.lt, hHeld.2.2.2.2.2.1.keep B hHeld.2.2.2.2.2.1.lt, hHeld.2.2.2.2.2.2.keep B hHeld.2.2.2.2.2.2.lt⟩
     clear hK K
     (try simp only [Act.put, List.setIfInBounds_toArray, List.set_cons_zero, List.set_cons_succ])
     clear B
     refine tk 14 (oi := ({ dst := some 122, op := .binOp .eql 23 (.tmp 120) (.tmp 121) 23, type := 4, pos := "law.go:46", after := #[⟨12, .data⟩, ⟨13, .data⟩, ⟨11, .guard⟩], guard := some (11, true) } : Oper)) (v := ?v14_12jr_12_2) ?hy14_12jr_12_2 ?re14_12jr_12_2
     case hy14_12jr_12_2 => ((intro w hSw; have e00 := hSw.1.c0; have e01 := hSw.1.c1; have e10 := hSw.2.1.c0; have e11 := hSw.2.1.c1; have e20 := hSw.2.2.1.c0; have e21 := hSw.2.2.1.c1; have e30 := hSw.2.2.2.1.c0; have e31 := hSw.2.2.2.1.c1; have e40 := hSw.2.2.2.2.1.c0; have e41 := hSw.2.2.2.2.1.c1; have e50 := hSw.2.2.2.2.2.1.c0; have e51 := hSw.2.2.2.2.2.1.c1; have e60 := hSw.2.2.2.2.2.2.c0; have e61 := hSw.2.2.2.2.2.2.c1; go_simp) <;> with_reducible rfl)
     (try simp only [Act.put, List.setIfInBounds_toArray, List.set_cons_zero, List.set_cons_succ])
     refine tk 15 (oi := ({ dst := some 123, op := .pick (.tmp 119) (.tmp 122) (.const (.bool false)), type := 4, pos := "law.go:46", after := #[⟨11, .data⟩, ⟨14, .data⟩], guard := none } : Oper)) (v := ?v15_13jr_12_2) ?hy15_13jr_12_2 ?re15_13jr_12_2
     case hy15_13jr_12_2 => ((intro w hSw; have e00 := hSw.1.c0; have e01 := hSw.1.c1; have e10 := hSw.2.1.c0; have e11 := hSw.2.1.c1; have e20 := hSw.2.2.1.c0; have e21 := hSw.2.2.1.c1; have e30 := hSw.2.2.2.1.c0; have e31 := hSw.2.2.2.1.c1; have e40 := hSw.2.2.2.2.1.c0; have e41 := hSw.2.2.2.2.1.c1; have e50 := hSw.2.2.2.2.2.1.c0; have e51 := hSw.2.2.2.2.2.1.c1; have e60 := hSw.2.2.2.2.2.2.c0; have e61 := hSw.2.2.2.2.2.2.c1; go_simp) <;> with_reducible rfl)
     (try simp only [Act.put, List.setIfInBounds_toArray, List.set_cons_zero, List.set_cons_succ])
     refine tk 16 (oi := ({ dst := some 124, op := .move (.tmp 123), type := 4, pos := "law.go:46", after := #[⟨15, .data⟩, ⟨13, .chain⟩], guard := none } : Oper)) (v := ?v16_14jr_12_2) ?hy16_14jr_12_2 ?re16_14jr_12_2
     case hy16_14jr_12_2 => ((intro w hSw; have e00 := hSw.1.c0; have e01 := hSw.1.c1; have e10 := hSw.2.1.c0; have e11 := hSw.2.1.c1; have e20 := hSw.2.2.1.c0; have e21 := hSw.2.2.1.c1; have e30 := hSw.2.2.2.1.c0; have e31 := hSw.2.2.2.1.c1; have e40 := hSw.2.2.2.2.1.c0; have e41 := hSw.2.2.2.2.1.c1; have e50 := hSw.2.2.2.2.2.1.c0; have e51 := hSw.2.2.2.2.2.1.c1; have e60 := hSw.2.2.2.2.2.2.c0; have e61 := hSw.2.2.2.2.2.2.c1; go_simp) <;> with_reducible rfl)
     (try simp only [Act.put, List.setIfInBounds_toArray, List.set_cons_zero, List.set_cons_succ])
     refine tk 17 (oi := ({ dst := some 125, op := .load 23 (.tmp 9), type := 23, pos := "law.go:46", after := #[⟨16, .guard⟩], guard := some (16, true) } : Oper)) (v := ?v17_15jr_12_2) ?hy17_15jr_12_2 ?re17_15jr_12_2
     case hy17_15jr_12_2 => ((intro w hSw; have e00 := hSw.1.c0; have e01 := hSw.1.c1; have e10 := hSw.2.1.c0; have e11 := hSw.2.1.c1; have e20 := hSw.2.2.1.c0; have e21 := hSw.2.2.1.c1; have e30 := hSw.2.2.2.1.c0; have e31 := hSw.2.2.2.1.c1; have e40 := hSw.2.2.2.2.1.c0; have e41 := hSw.2.2.2.2.1.c1; have e50 := hSw.2.2.2.2.2.1.c0; have e51 := hSw.2.2.2.2.2.1.c1; have e60 := hSw.2.2.2.2.2.2.c0; have e61 := hSw.2.2.2.2.2.2.c1; go_simp) <;> with_reducible rfl)
     (try simp only [Act.put, List.setIfInBounds_toArray, List.set_cons_zero, List.set_cons_succ])
     refine wpAnyH_ready (rs := [18]) (by kernel_rfl) (by simp) ?_
     refine AllReadyH.cons (o := ({ dst := some 126, op := .call { callee := .value (.func 54), args := #[.const (.string { data := #[45, 50] }), .const (.string { data := #[49] })], argTypes := #[9, 9] }, type := 23, pos := "law.go:46", after := #[⟨16, .chain⟩, ⟨16, .guard⟩], guard := some (16, true) } : Oper)) rfl (fun K hK => ?_) ?_
     ·
      go_simp
      go_at_call 54
      refine (is_any _ _ _).mono ?_
      rintro e Wjr12_4 ⟨rfl, B⟩
      have An := Lib.hid (A.out.keep B A.out.lt)
      have Bbn := Lib.hid (Bb.out.keep B Bb.out.lt)
      have Cn := Lib.hid (C.out.keep B C.out.lt)
      have Dn := Lib.hid (D.out.keep B D.out.lt)
      have Vn := Lib.hid (V.out.keep B V.out.lt)
      have KKn := Lib.hid (KK.out.keep B KK.out.lt)
      have Mn := Lib.hid (M.out.keep B M.out.lt)
      have On := Lib.hid (O.out.keep B O.out.lt)
      have HBn := Lib.hid (HB.out.trans (B.mono HB.out.size))
      clear A Bb C D V KK M O HB
      have A := An
      have Bb := Bbn
      have C := Cn
      have D := Dn
      have V := Vn
      have KK := KKn
      have M := Mn
      have O := On
      have HB := HBn
      clear An Bbn Cn Dn Vn KKn Mn On HBn
      (try go_wp2_with fail)
      refine hK.out _ _ ?_ (fun hHeld => ?_)
      ·
       exact ⟨hHeld.1.keep B hHeld.1.lt, hHeld.2.1.keep B hHeld.2.1.lt, hHeld.2.2.1.keep B hHeld.2.2.1.lt, hHeld.2.2.2.1.keep B hHeld.2.2.2.1.lt, hHeld.2.2.2.2.1.keep B hHeld.2.2.2.2.1.lt, hHeld.2.2.2.2.2.1.keep B hHeld.2.2.2.2.2.1.lt, hHeld.2.2.2.2.2.2.keep B hHeld.2.2.2.2.2.2.lt⟩
      clear hK K
      (try simp only [Act.put, List.setIfInBounds_toArray, List.set_cons_zero, List.set_cons_succ])
      clear B
      refine tk 19 (oi := ({ dst := some 127, op := .binOp .eql 23 (.tmp 125) (.tmp 126) 23, type := 4, pos := "law.go:46", after := #[⟨17, .data⟩, ⟨18, .data⟩, ⟨16, .guard⟩], guard := some (16, true) } : Oper)) (v := ?v19_16jr_12_2) ?hy19_16jr_12_2 ?re19_16jr_12_2
      case hy19_16jr_12_2 => ((intro w hSw; have e00 := hSw.1.c0; have e01 := hSw.1.c1; have e10 := hSw.2.1.c0; have e11 := hSw.2.1.c1; have e20 := hSw.2.2.1.c0; have e21 := hSw.2.2.1.c1; have e30 := hSw.2.2.2.1.c0; have e31 := hSw.2.2.2.1.c1; have e40 := hSw.2.2.2.2.1.c0; have e41 := hSw.2.2.2.2.1.c1; have e50 := hSw.2.2.2.2.2.1.c0; have e51 := hSw.2.2.2.2.2.1.c1; have e60 := hSw.2.2.2.2.2.2.c0; have e61 := hSw.2.2.2.2.2.2.c1; go_simp) <;> with_reducible rfl)
      (try simp only [Act.put, List.setIfInBounds_toArray, List.set_cons_zero, List.set_cons_succ])
      refine tk 20 (oi := ({ dst := some 128, op := .pick (.tmp 124) (.tmp 127) (.const (.bool false)), type := 4, pos := "law.go:46", after := #[⟨16, .data⟩, ⟨19, .data⟩], guard := none } : Oper)) (v := ?v20_17jr_12_2) ?hy20_17jr_12_2 ?re20_17jr_12_2
      case hy20_17jr_12_2 => ((intro w hSw; have e00 := hSw.1.c0; have e01 := hSw.1.c1; have e10 := hSw.2.1.c0; have e11 := hSw.2.1.c1; have e20 := hSw.2.2.1.c0; have e21 := hSw.2.2.1.c1; have e30 := hSw.2.2.2.1.c0; have e31 := hSw.2.2.2.1.c1; have e40 := hSw.2.2.2.2.1.c0; have e41 := hSw.2.2.2.2.1.c1; have e50 := hSw.2.2.2.2.2.1.c0; have e51 := hSw.2.2.2.2.2.1.c1; have e60 := hSw.2.2.2.2.2.2.c0; have e61 := hSw.2.2.2.2.2.2.c1; go_simp) <;> with_reducible rfl)
      (try simp only [Act.put, List.setIfInBounds_toArray, List.set_cons_zero, List.set_cons_succ])
      refine tk 21 (oi := ({ dst := some 129, op := .move (.tmp 128), type := 4, pos := "law.go:46", after := #[⟨20, .data⟩, ⟨18, .chain⟩], guard := none } : Oper)) (v := ?v21_18jr_12_2) ?hy21_18jr_12_2 ?re21_18jr_12_2
      case hy21_18jr_12_2 => ((intro w hSw; have e00 := hSw.1.c0; have e01 := hSw.1.c1; have e10 := hSw.2.1.c0; have e11 := hSw.2.1.c1; have e20 := hSw.2.2.1.c0; have e21 := hSw.2.2.1.c1; have e30 := hSw.2.2.2.1.c0; have e31 := hSw.2.2.2.1.c1; have e40 := hSw.2.2.2.2.1.c0; have e41 := hSw.2.2.2.2.1.c1; have e50 := hSw.2.2.2.2.2.1.c0; have e51 := hSw.2.2.2.2.2.1.c1; have e60 := hSw.2.2.2.2.2.2.c0; have e61 := hSw.2.2.2.2.2.2.c1; go_simp) <;> with_reducible rfl)
      (try simp only [Act.put, List.setIfInBounds_toArray, List.set_cons_zero, List.set_cons_succ])
      refine tk 22 (oi := ({ dst := some 130, op := .load 23 (.tmp 13), type := 23, pos := "law.go:46", after := #[⟨21, .guard⟩], guard := some (21, true) } : Oper)) (v := ?v22_19jr_12_2) ?hy22_19jr_12_2 ?re22_19jr_12_2
      case hy22_19jr_12_2 => ((intro w hSw; have e00 := hSw.1.c0; have e01 := hSw.1.c1; have e10 := hSw.2.1.c0; have e11 := hSw.2.1.c1; have e20 := hSw.2.2.1.c0; have e21 := hSw.2.2.1.c1; have e30 := hSw.2.2.2.1.c0; have e31 := hSw.2.2.2.1.c1; have e40 := hSw.2.2.2.2.1.c0; have e41 := hSw.2.2.2.2.1.c1; have e50 := hSw.2.2.2.2.2.1.c0; have e51 := hSw.2.2.2.2.2.1.c1; have e60 := hSw.2.2.2.2.2.2.c0; have e61 := hSw.2.2.2.2.2.2.c1; go_simp) <;> with_reducible rfl)
      (try simp only [Act.put, List.setIfInBounds_toArray, List.set_cons_zero, List.set_cons_succ])
      refine wpAnyH_ready (rs := [23]) (by kernel_rfl) (by simp) ?_
      refine AllReadyH.cons (o := ({ dst := some 131, op := .call { callee := .value (.func 54), args := #[.const (.string { data := #[45, 49, 55] }), .const (.string { data := #[53, 48] })], argTypes := #[9, 9] }, type := 23, pos := "law.go:46", after := #[⟨21, .chain⟩, ⟨21, .guard⟩], guard := some (21, true) } : Oper)) rfl (fun K hK => ?_) ?_
      ·
       go_simp
       go_at_call 54
       refine (is_any _ _ _).mono ?_
       rintro e Wjr12_5 ⟨rfl, B⟩
       have An := Lib.hid (A.out.keep B A.out.lt)
       have Bbn := Lib.hid (Bb.out.keep B Bb.out.lt)
       have Cn := Lib.hid (C.out.keep B C.out.lt)
       have Dn := Lib.hid (D.out.keep B D.out.lt)
       have Vn := Lib.hid (V.out.keep B V.out.lt)
       have KKn := Lib.hid (KK.out.keep B KK.out.lt)
       have Mn := Lib.hid (M.out.keep B M.out.lt)
       have On := Lib.hid (O.out.keep B O.out.lt)
       have HBn := Lib.hid (HB.out.trans (B.mono HB.out.size))
       clear A Bb C D V KK M O HB
       have A := An
       have Bb := Bbn
       have C := Cn
       have D := Dn
       have V := Vn
       have KK := KKn
       have M := Mn
       have O := On
       have HB := HBn
       clear An Bbn Cn Dn Vn KKn Mn On HBn
       (try go_wp2_with fail)
       refine hK.out _ _ ?_ (fun hHeld => ?_)
       ·
        exact ⟨hHeld.1.keep B hHeld.1.lt, hHeld.2.1.keep B hHeld.2.1.lt, hHeld.2.2.1.keep B hHeld.2.2.1.lt, hHeld.2.2.2.1.keep B hHeld.2.2.2.1.lt, hHeld.2.2.2.2.1.keep B hHeld.2.2.2.2.1.lt, hHeld.2.2.2.2.2.1.keep B hHeld.2.2.2.2.2.1.lt, hHeld.2.2.2.2.2.2.keep B hHeld.2.2.2.2.2.2.lt⟩
       clear hK K
       (try simp only [Act.put, List.setIfInBounds_toArray, List.set_cons_zero, List.set_cons_succ])
       clear B
       refine tk 24 (oi := ({ dst := some 132, op := .binOp .eql 23 (.tmp 130) (.tmp 131) 23, type := 4, pos := "law.go:46", after := #[⟨22, .data⟩, ⟨23, .data⟩, ⟨21, .guard⟩], guard := some (21, true) } : Oper)) (v := ?v24_20jr_12_2) ?hy24_20jr_12_2 ?re24_20jr_12_2
       case hy24_20jr_12_2 => ((intro w hSw; have e00 := hSw.1.c0; have e01 := hSw.1.c1; have e10 := hSw.2.1.c0; have e11 := hSw.2.1.c1; have e20 := hSw.2.2.1.c0; have e21 := hSw.2.2.1.c1; have e30 := hSw.2.2.2.1.c0; have e31 := hSw.2.2.2.1.c1; have e40 := hSw.2.2.2.2.1.c0; have e41 := hSw.2.2.2.2.1.c1; have e50 := hSw.2.2.2.2.2.1.c0; have e51 := hSw.2.2.2.2.2.1.c1; have e60 := hSw.2.2.2.2.2.2.c0; have e61 := hSw.2.2.2.2.2.2.c1; go_simp) <;> with_reducible rfl)
       (try simp only [Act.put, List.setIfInBounds_toArray, List.set_cons_zero, List.set_cons_succ])
       refine tk 25 (oi := ({ dst := some 133, op := .pick (.tmp 129) (.tmp 132) (.const (.bool false)), type := 4, pos := "law.go:46", after := #[⟨21, .data⟩, ⟨24, .data⟩], guard := none } : Oper)) (v := ?v25_21jr_12_2) ?hy25_21jr_12_2 ?re25_21jr_12_2
       case hy25_21jr_12_2 => ((intro w hSw; have e00 := hSw.1.c0; have e01 := hSw.1.c1; have e10 := hSw.2.1.c0; have e11 := hSw.2.1.c1; have e20 := hSw.2.2.1.c0; have e21 := hSw.2.2.1.c1; have e30 := hSw.2.2.2.1.c0; have e31 := hSw.2.2.2.1.c1; have e40 := hSw.2.2.2.2.1.c0; have e41 := hSw.2.2.2.2.1.c1; have e50 := hSw.2.2.2.2.2.1.c0; have e51 := hSw.2.2.2.2.2.1.c1; have e60 := hSw.2.2.2.2.2.2.c0; have e61 := hSw.2.2.2.2.2.2.c1; go_simp) <;> with_reducible rfl)
       (try simp only [Act.put, List.setIfInBounds_toArray, List.set_cons_zero, List.set_cons_succ])
       refine tk 26 (oi := ({ dst := some 134, op := .move (.tmp 133), type := 4, pos := "law.go:46", after := #[⟨25, .data⟩, ⟨23, .chain⟩], guard := none } : Oper)) (v := ?v26_22jr_12_2) ?hy26_22jr_12_2 ?re26_22jr_12_2
       case hy26_22jr_12_2 => ((intro w hSw; have e00 := hSw.1.c0; have e01 := hSw.1.c1; have e10 := hSw.2.1.c0; have e11 := hSw.2.1.c1; have e20 := hSw.2.2.1.c0; have e21 := hSw.2.2.1.c1; have e30 := hSw.2.2.2.1.c0; have e31 := hSw.2.2.2.1.c1; have e40 := hSw.2.2.2.2.1.c0; have e41 := hSw.2.2.2.2.1.c1; have e50 := hSw.2.2.2.2.2.1.c0; have e51 := hSw.2.2.2.2.2.1.c1; have e60 := hSw.2.2.2.2.2.2.c0; have e61 := hSw.2.2.2.2.2.2.c1; go_simp) <;> with_reducible rfl)
       (try simp only [Act.put, List.setIfInBounds_toArray, List.set_cons_zero, List.set_cons_succ])
       refine tk 27 (oi := ({ dst := some 135, op := .load 23 (.tmp 15), type := 23, pos := "law.go:46", after := #[⟨26, .guard⟩], guard := some (26, true) } : Oper)) (v := ?v27_23jr_12_2) ?hy27_23jr_12_2 ?re27_23jr_12_2
       case hy27_23jr_12_2 => ((intro w hSw; have e00 := hSw.1.c0; have e01 := hSw.1.c1; have e10 := hSw.2.1.c0; have e11 := hSw.2.1.c1; have e20 := hSw.2.2.1.c0; have e21 := hSw.2.2.1.c1; have e30 := hSw.2.2.2.1.c0; have e31 := hSw.2.2.2.1.c1; have e40 := hSw.2.2.2.2.1.c0; have e41 := hSw.2.2.2.2.1.c1; have e50 := hSw.2.2.2.2.2.1.c0; have e51 := hSw.2.2.2.2.2.1.c1; have e60 := hSw.2.2.2.2.2.2.c0; have e61 := hSw.2.2.2.2.2.2.c1; go_simp) <;> with_reducible rfl)
       (try simp only [Act.put, List.setIfInBounds_toArray, List.set_cons_zero, List.set_cons_succ])
       refine wpAnyH_ready (rs := [28]) (by kernel_rfl) (by simp) ?_
       refine AllReadyH.cons (o := ({ dst := some 136, op := .call { callee := .value (.func 54), args := #[.const (.string { data := #[49, 55] }), .const (.string { data := #[53, 48] })], argTypes := #[9, 9] }, type := 23, pos := "law.go:46", after := #[⟨26, .chain⟩, ⟨26, .guard⟩], guard := some (26, true) } : Oper)) rfl (fun K hK => ?_) ?_
       ·
        go_simp
        go_at_call 54
        refine (is_any _ _ _).mono ?_
        rintro e Wjr12_6 ⟨rfl, B⟩
        have An := Lib.hid (A.out.keep B A.out.lt)
        have Bbn := Lib.hid (Bb.out.keep B Bb.out.lt)
        have Cn := Lib.hid (C.out.keep B C.out.lt)
        have Dn := Lib.hid (D.out.keep B D.out.lt)
        have Vn := Lib.hid (V.out.keep B V.out.lt)
        have KKn := Lib.hid (KK.out.keep B KK.out.lt)
        have Mn := Lib.hid (M.out.keep B M.out.lt)
        have On := Lib.hid (O.out.keep B O.out.lt)
        have HBn := Lib.hid (HB.out.trans (B.mono HB.out.size))
        clear A Bb C D V KK M O HB
        have A := An
        have Bb := Bbn
        have C := Cn
        have D := Dn
        have V := Vn
        have KK := KKn
        have M := Mn
        have O := On
        have HB := HBn
        clear An Bbn Cn Dn Vn KKn Mn On HBn
        (try go_wp2_with fail)
        refine hK.out _ _ ?_ (fun hHeld => ?_)
        ·
         exact ⟨hHeld.1.keep B hHeld.1.lt, hHeld.2.1.keep B hHeld.2.1.lt, hHeld.2.2.1.keep B hHeld.2.2.1.lt, hHeld.2.2.2.1.keep B hHeld.2.2.2.1.lt, hHeld.2.2.2.2.1.keep B hHeld.2.2.2.2.1.lt, hHeld.2.2.2.2.2.1.keep B hHeld.2.2.2.2.2.1.lt, hHeld.2.2.2.2.2.2.keep B hHeld.2.2.2.2.2.2.lt⟩
        clear hK K
        (try simp only [Act.put, List.setIfInBounds_toArray, List.set_cons_zero, List.set_cons_succ])
        clear B
        refine tk 29 (oi := ({ dst := some 137, op := .binOp .eql 23 (.tmp 135) (.tmp 136) 23, type := 4, pos := "law.go:46", after := #[⟨27, .data⟩, ⟨28, .data⟩, ⟨26, .guard⟩], guard := some (26, true) } : Oper)) (v := ?v29_24jr_12_2) ?hy29_24jr_12_2 ?re29_24jr_12_2
        case hy29_24jr_12_2 => ((intro w hSw; have e00 := hSw.1.c0; have e01 := hSw.1.c1; have e10 := hSw.2.1.c0; have e11 := hSw.2.1.c1; have e20 := hSw.2.2.1.c0; have e21 := hSw.2.2.1.c1; have e30 := hSw.2.2.2.1.c0; have e31 := hSw.2.2.2.1.c1; have e40 := hSw.2.2.2.2.1.c0; have e41 := hSw.2.2.2.2.1.c1; have e50 := hSw.2.2.2.2.2.1.c0; have e51 := hSw.2.2.2.2.2.1.c1; have e60 := hSw.2.2.2.2.2.2.c0; have e61 := hSw.2.2.2.2.2.2.c1; go_simp) <;> with_reducible rfl)
        (try simp only [Act.put, List.setIfInBounds_toArray, List.set_cons_zero, List.set_cons_succ])
        refine tk 30 (oi := ({ dst := some 138, op := .pick (.tmp 134) (.tmp 137) (.const (.bool false)), type := 4, pos := "law.go:46", after := #[⟨26, .data⟩, ⟨29, .data⟩], guard := none } : Oper)) (v := ?v30_25jr_12_2) ?hy30_25jr_12_2 ?re30_25jr_12_2
        case hy30_25jr_12_2 => ((intro w hSw; have e00 := hSw.1.c0; have e01 := hSw.1.c1; have e10 := hSw.2.1.c0; have e11 := hSw.2.1.c1; have e20 := hSw.2.2.1.c0; have e21 := hSw.2.2.1.c1; have e30 := hSw.2.2.2.1.c0; have e31 := hSw.2.2.2.1.c1; have e40 := hSw.2.2.2.2.1.c0; have e41 := hSw.2.2.2.2.1.c1; have e50 := hSw.2.2.2.2.2.1.c0; have e51 := hSw.2.2.2.2.2.1.c1; have e60 := hSw.2.2.2.2.2.2.c0; have e61 := hSw.2.2.2.2.2.2.c1; go_simp) <;> with_reducible rfl)
        (try simp only [Act.put, List.setIfInBounds_toArray, List.set_cons_zero, List.set_cons_succ])
        refine tk 31 (oi := ({ dst := some 139, op := .move (.tmp 138), type := 4, pos := "law.go:46", after := #[⟨30, .data⟩, ⟨28, .chain⟩], guard := none } : Oper)) (v := ?v31_26jr_12_2) ?hy31_26jr_12_2 ?re31_26jr_12_2
        case hy31_26jr_12_2 => ((intro w hSw; have e00 := hSw.1.c0; have e01 := hSw.1.c1; have e10 := hSw.2.1.c0; have e11 := hSw.2.1.c1; have e20 := hSw.2.2.1.c0; have e21 := hSw.2.2.1.c1; have e30 := hSw.2.2.2.1.c0; have e31 := hSw.2.2.2.1.c1; have e40 := hSw.2.2.2.2.1.c0; have e41 := hSw.2.2.2.2.1.c1; have e50 := hSw.2.2.2.2.2.1.c0; have e51 := hSw.2.2.2.2.2.1.c1; have e60 := hSw.2.2.2.2.2.2.c0; have e61 := hSw.2.2.2.2.2.2.c1; go_simp) <;> with_reducible rfl)
        (try simp only [Act.put, List.setIfInBounds_toArray, List.set_cons_zero, List.set_cons_succ])
        refine tk 32 (oi := ({ dst := some 140, op := .load 23 (.tmp 17), type := 23, pos := "law.go:46", after := #[⟨31, .guard⟩], guard := some (31, true) } : Oper)) (v := ?v32_27jr_12_2) ?hy32_27jr_12_2 ?re32_27jr_12_2
        case hy32_27jr_12_2 => ((intro w hSw; have e00 := hSw.1.c0; have e01 := hSw.1.c1; have e10 := hSw.2.1.c0; have e11 := hSw.2.1.c1; have e20 := hSw.2.2.1.c0; have e21 := hSw.2.2.1.c1; have e30 := hSw.2.2.2.1.c0; have e31 := hSw.2.2.2.1.c1; have e40 := hSw.2.2.2.2.1.c0; have e41 := hSw.2.2.2.2.1.c1; have e50 := hSw.2.2.2.2.2.1.c0; have e51 := hSw.2.2.2.2.2.1.c1; have e60 := hSw.2.2.2.2.2.2.c0; have e61 := hSw.2.2.2.2.2.2.c1; go_simp) <;> with_reducible rfl)
        (try simp only [Act.put, List.setIfInBounds_toArray, List.set_cons_zero, List.set_cons_succ])
        refine tk 33 (oi := ({ dst := some 141, op := .load 23 (.tmp 1), type := 23, pos := "law.go:46", after := #[⟨31, .guard⟩], guard := some (31, true) } : Oper)) (v := ?v33_28jr_12_2) ?hy33_28jr_12_2 ?re33_28jr_12_2
        case hy33_28jr_12_2 => ((intro w hSw; have e00 := hSw.1.c0; have e01 := hSw.1.c1; have e10 := hSw.2.1.c0; have e11 := hSw.2.1.c1; have e20 := hSw.2.2.1.c0; have e21 := hSw.2.2.1.c1; have e30 := hSw.2.2.2.1.c0; have e31 := hSw.2.2.2.1.c1; have e40 := hSw.2.2.2.2.1.c0; have e41 := hSw.2.2.2.2.1.c1; have e50 := hSw.2.2.2.2.2.1.c0; have e51 := hSw.2.2.2.2.2.1.c1; have e60 := hSw.2.2.2.2.2.2.c0; have e61 := hSw.2.2.2.2.2.2.c1; go_simp) <;> with_reducible rfl)
        (try simp only [Act.put, List.setIfInBounds_toArray, List.set_cons_zero, List.set_cons_succ])
        refine tk 34 (oi := ({ dst := some 142, op := .binOp .eql 23 (.tmp 140) (.tmp 141) 23, type := 4, pos := "law.go:46", after := #[⟨32, .data⟩, ⟨33, .data⟩, ⟨31, .guard⟩], guard := some (31, true) } : Oper)) (v := ?v34_29jr_12_2) ?hy34_29jr_12_2 ?re34_29jr_12_2
        case hy34_29jr_12_2 => ((intro w hSw; have e00 := hSw.1.c0; have e01 := hSw.1.c1; have e10 := hSw.2.1.c0; have e11 := hSw.2.1.c1; have e20 := hSw.2.2.1.c0; have e21 := hSw.2.2.1.c1; have e30 := hSw.2.2.2.1.c0; have e31 := hSw.2.2.2.1.c1; have e40 := hSw.2.2.2.2.1.c0; have e41 := hSw.2.2.2.2.1.c1; have e50 := hSw.2.2.2.2.2.1.c0; have e51 := hSw.2.2.2.2.2.1.c1; have e60 := hSw.2.2.2.2.2.2.c0; have e61 := hSw.2.2.2.2.2.2.c1; go_simp) <;> with_reducible rfl)
        (try simp only [Act.put, List.setIfInBounds_toArray, List.set_cons_zero, List.set_cons_succ])
        refine tk 35 (oi := ({ dst := some 143, op := .pick (.tmp 139) (.tmp 142) (.const (.bool false)), type := 4, pos := "law.go:46", after := #[⟨31, .data⟩, ⟨34, .data⟩], guard := none } : Oper)) (v := ?v35_30jr_12_2) ?hy35_30jr_12_2 ?re35_30jr_12_2
        case hy35_30jr_12_2 => ((intro w hSw; have e00 := hSw.1.c0; have e01 := hSw.1.c1; have e10 := hSw.2.1.c0; have e11 := hSw.2.1.c1; have e20 := hSw.2.2.1.c0; have e21 := hSw.2.2.1.c1; have e30 := hSw.2.2.2.1.c0; have e31 := hSw.2.2.2.1.c1; have e40 := hSw.2.2.2.2.1.c0; have e41 := hSw.2.2.2.2.1.c1; have e50 := hSw.2.2.2.2.2.1.c0; have e51 := hSw.2.2.2.2.2.1.c1; have e60 := hSw.2.2.2.2.2.2.c0; have e61 := hSw.2.2.2.2.2.2.c1; go_simp) <;> with_reducible rfl)
        (try simp only [Act.put, List.setIfInBounds_toArray, List.set_cons_zero, List.set_cons_succ])
        refine tk 36 (oi := ({ dst := some 144, op := .move (.tmp 143), type := 4, pos := "law.go:46", after := #[⟨35, .data⟩, ⟨31, .chain⟩], guard := none } : Oper)) (v := ?v36_31jr_12_2) ?hy36_31jr_12_2 ?re36_31jr_12_2
        case hy36_31jr_12_2 => ((intro w hSw; have e00 := hSw.1.c0; have e01 := hSw.1.c1; have e10 := hSw.2.1.c0; have e11 := hSw.2.1.c1; have e20 := hSw.2.2.1.c0; have e21 := hSw.2.2.1.c1; have e30 := hSw.2.2.2.1.c0; have e31 := hSw.2.2.2.1.c1; have e40 := hSw.2.2.2.2.1.c0; have e41 := hSw.2.2.2.2.1.c1; have e50 := hSw.2.2.2.2.2.1.c0; have e51 := hSw.2.2.2.2.2.1.c1; have e60 := hSw.2.2.2.2.2.2.c0; have e61 := hSw.2.2.2.2.2.2.c1; go_simp) <;> with_reducible rfl)
        (try simp only [Act.put, List.setIfInBounds_toArray, List.set_cons_zero, List.set_cons_succ])
        refine tk 37 (oi := ({ dst := some 145, op := .load 23 (.tmp 1), type := 23, pos := "law.go:46", after := #[⟨36, .guard⟩], guard := some (36, true) } : Oper)) (v := ?v37_32jr_12_2) ?hy37_32jr_12_2 ?re37_32jr_12_2
        case hy37_32jr_12_2 => ((intro w hSw; have e00 := hSw.1.c0; have e01 := hSw.1.c1; have e10 := hSw.2.1.c0; have e11 := hSw.2.1.c1; have e20 := hSw.2.2.1.c0; have e21 := hSw.2.2.1.c1; have e30 := hSw.2.2.2.1.c0; have e31 := hSw.2.2.2.1.c1; have e40 := hSw.2.2.2.2.1.c0; have e41 := hSw.2.2.2.2.1.c1; have e50 := hSw.2.2.2.2.2.1.c0; have e51 := hSw.2.2.2.2.2.1.c1; have e60 := hSw.2.2.2.2.2.2.c0; have e61 := hSw.2.2.2.2.2.2.c1; go_simp) <;> with_reducible rfl)
        (try simp only [Act.put, List.setIfInBounds_toArray, List.set_cons_zero, List.set_cons_succ])
        refine wpAnyH_ready (rs := [38]) (by kernel_rfl) (by simp) ?_
        refine AllReadyH.cons (o := ({ dst := some 146, op := .call { callee := .value (.func 34), args := #[.tmp 145], argTypes := #[23] }, type := 9, pos := "law.go:46", after := #[⟨37, .data⟩, ⟨36, .chain⟩, ⟨36, .guard⟩], guard := some (36, true) } : Oper)) rfl (fun K hK => ?_) ?_
        ·
         go_simp
         go_at_call 34
         refine (s_print _).mono ?_
         rintro e Wjr12_7 ⟨rfl, B⟩
         have An := Lib.hid (A.out.keep B A.out.lt)
         have Bbn := Lib.hid (Bb.out.keep B Bb.out.lt)
         have Cn := Lib.hid (C.out.keep B C.out.lt)
         have Dn := Lib.hid (D.out.keep B D.out.lt)
         have Vn := Lib.hid (V.out.keep B V.out.lt)
         have KKn := Lib.hid (KK.out.keep B KK.out.lt)
         have Mn := Lib.hid (M.out.keep B M.out.lt)
         have On := Lib.hid (O.out.keep B O.out.lt)
         have HBn := Lib.hid (HB.out.trans (B.mono HB.out.size))
         clear A Bb C D V KK M O HB
         have A := An
         have Bb := Bbn
         have C := Cn
         have D := Dn
         have V := Vn
         have KK := KKn
         have M := Mn
         have O := On
         have HB := HBn
         clear An Bbn Cn Dn Vn KKn Mn On HBn
         (try go_wp2_with fail)
         refine hK.out _ _ ?_ (fun hHeld => ?_)
         ·
          exact ⟨hHeld.1.keep B hHeld.1.lt, hHeld.2.1.keep B hHeld.2.1.lt, hHeld.2.2.1.keep B hHeld.2.2.1.lt, hHeld.2.2.2.1.keep B hHeld.2.2.2.1.lt, hHeld.2.2.2.2.1.keep B hHeld.2.2.2.2.1.lt, hHeld.2.2.2.2.2.1.keep B hHeld.2.2.2.2.2.1.lt, hHeld.2.2.2.2.2.2.keep B hHeld.2.2.2.2.2.2.lt⟩
         clear hK K
         (try simp only [Act.put, List.setIfInBounds_toArray, List.set_cons_zero, List.set_cons_succ])
         clear B
         refine tk 39 (oi := ({ dst := some 147, op := .binOp .eql 9 (.tmp 146) (.const (.string { data := #[45, 51, 47, 50] })) 9, type := 4, pos := "law.go:46", after := #[⟨38, .data⟩, ⟨36, .guard⟩], guard := some (36, true) } : Oper)) (v := ?v39_33jr_12_2) ?hy39_33jr_12_2 ?re39_33jr_12_2
         case hy39_33jr_12_2 => ((intro w hSw; have e00 := hSw.1.c0; have e01 := hSw.1.c1; have e10 := hSw.2.1.c0; have e11 := hSw.2.1.c1; have e20 := hSw.2.2.1.c0; have e21 := hSw.2.2.1.c1; have e30 := hSw.2.2.2.1.c0; have e31 := hSw.2.2.2.1.c1; have e40 := hSw.2.2.2.2.1.c0; have e41 := hSw.2.2.2.2.1.c1; have e50 := hSw.2.2.2.2.2.1.c0; have e51 := hSw.2.2.2.2.2.1.c1; have e60 := hSw.2.2.2.2.2.2.c0; have e61 := hSw.2.2.2.2.2.2.c1; go_simp) <;> with_reducible rfl)
         (try simp only [Act.put, List.setIfInBounds_toArray, List.set_cons_zero, List.set_cons_succ])
         refine tk 40 (oi := ({ dst := some 148, op := .pick (.tmp 144) (.tmp 147) (.const (.bool false)), type := 4, pos := "law.go:46", after := #[⟨36, .data⟩, ⟨39, .data⟩], guard := none } : Oper)) (v := ?v40_34jr_12_2) ?hy40_34jr_12_2 ?re40_34jr_12_2
         case hy40_34jr_12_2 => ((intro w hSw; have e00 := hSw.1.c0; have e01 := hSw.1.c1; have e10 := hSw.2.1.c0; have e11 := hSw.2.1.c1; have e20 := hSw.2.2.1.c0; have e21 := hSw.2.2.1.c1; have e30 := hSw.2.2.2.1.c0; have e31 := hSw.2.2.2.1.c1; have e40 := hSw.2.2.2.2.1.c0; have e41 := hSw.2.2.2.2.1.c1; have e50 := hSw.2.2.2.2.2.1.c0; have e51 := hSw.2.2.2.2.2.1.c1; have e60 := hSw.2.2.2.2.2.2.c0; have e61 := hSw.2.2.2.2.2.2.c1; go_simp) <;> with_reducible rfl)
         (try simp only [Act.put, List.setIfInBounds_toArray, List.set_cons_zero, List.set_cons_succ])
         refine tk 41 (oi := ({ dst := some 149, op := .move (.tmp 148), type := 4, pos := "law.go:46", after := #[⟨40, .data⟩, ⟨38, .chain⟩], guard := none } : Oper)) (v := ?v41_35jr_12_2) ?hy41_35jr_12_2 ?re41_35jr_12_2
         case hy41_35jr_12_2 => ((intro w hSw; have e00 := hSw.1.c0; have e01 := hSw.1.c1; have e10 := hSw.2.1.c0; have e11 := hSw.2.1.c1; have e20 := hSw.2.2.1.c0; have e21 := hSw.2.2.1.c1; have e30 := hSw.2.2.2.1.c0; have e31 := hSw.2.2.2.1.c1; have e40 := hSw.2.2.2.2.1.c0; have e41 := hSw.2.2.2.2.1.c1; have e50 := hSw.2.2.2.2.2.1.c0; have e51 := hSw.2.2.2.2.2.1.c1; have e60 := hSw.2.2.2.2.2.2.c0; have e61 := hSw.2.2.2.2.2.2.c1; go_simp) <;> with_reducible rfl)
         (try simp only [Act.put, List.setIfInBounds_toArray, List.set_cons_zero, List.set_cons_succ])
         refine wpAnyH_ready (rs := [42]) (by kernel_rfl) (by simp) ?_
         refine AllReadyH.cons (o := ({ dst := some 150, op := .call { callee := .value (.func 54), args := #[.const (.string { data := #[49] }), .const (.string { data := #[51] })], argTypes := #[9, 9] }, type := 23, pos := "law.go:46", after := #[⟨41, .chain⟩, ⟨41, .guard⟩], guard := some (41, true) } : Oper)) rfl (fun K hK => ?_) ?_
         ·
          go_simp
          go_at_call 54
          refine (is_any _ _ _).mono ?_
          rintro e Wjr12_8 ⟨rfl, B⟩
          have An := Lib.hid (A.out.keep B A.out.lt)
          have Bbn := Lib.hid (Bb.out.keep B Bb.out.lt)
          have Cn := Lib.hid (C.out.keep B C.out.lt)
          have Dn := Lib.hid (D.out.keep B D.out.lt)
          have Vn := Lib.hid (V.out.keep B V.out.lt)
          have KKn := Lib.hid (KK.out.keep B KK.out.lt)
          have Mn := Lib.hid (M.out.keep B M.out.lt)
          have On := Lib.hid (O.out.keep B O.out.lt)
          have HBn := Lib.hid (HB.out.trans (B.mono HB.out.size))
          clear A Bb C D V KK M O HB
          have A := An
          have Bb := Bbn
          have C := Cn
          have D := Dn
          have V := Vn
          have KK := KKn
          have M := Mn
          have O := On
          have HB := HBn
          clear An Bbn Cn Dn Vn KKn Mn On HBn
          (try go_wp2_with fail)
          refine hK.out _ _ ?_ (fun hHeld => ?_)
          ·
           exact ⟨hHeld.1.keep B hHeld.1.lt, hHeld.2.1.keep B hHeld.2.1.lt, hHeld.2.2.1.keep B hHeld.2.2.1.lt, hHeld.2.2.2.1.keep B hHeld.2.2.2.1.lt, hHeld.2.2.2.2.1.keep B hHeld.2.2.2.2.1.lt, hHeld.2.2.2.2.2.1.keep B hHeld.2.2.2.2.2.1.lt, hHeld.2.2.2.2.2.2.keep B hHeld.2.2.2.2.2.2.lt⟩
          clear hK K
          (try simp only [Act.put, List.setIfInBounds_toArray, List.set_cons_zero, List.set_cons_succ])
          clear B
          refine wpAnyH_ready (rs := [43]) (by kernel_rfl) (by simp) ?_
          refine AllReadyH.cons (o := ({ dst := some 151, op := .call { callee := .value (.func 54), args := #[.const (.string { data := #[51, 51, 51, 51, 51] }), .const (.string { data := #[49, 48, 48, 48, 48, 48] })], argTypes := #[9, 9] }, type := 23, pos := "law.go:46", after := #[⟨42, .chain⟩, ⟨41, .guard⟩], guard := some (41, true) } : Oper)) rfl (fun K hK => ?_) ?_
          ·
           go_simp
           go_at_call 54
           refine (is_any _ _ _).mono ?_
           rintro e Wjr12_9 ⟨rfl, B⟩
           have An := Lib.hid (A.out.keep B A.out.lt)
           have Bbn := Lib.hid (Bb.out.keep B Bb.out.lt)
           have Cn := Lib.hid (C.out.keep B C.out.lt)
           have Dn := Lib.hid (D.out.keep B D.out.lt)
           have Vn := Lib.hid (V.out.keep B V.out.lt)
           have KKn := Lib.hid (KK.out.keep B KK.out.lt)
           have Mn := Lib.hid (M.out.keep B M.out.lt)
           have On := Lib.hid (O.out.keep B O.out.lt)
           have HBn := Lib.hid (HB.out.trans (B.mono HB.out.size))
           clear A Bb C D V KK M O HB
           have A := An
           have Bb := Bbn
           have C := Cn
           have D := Dn
           have V := Vn
           have KK := KKn
           have M := Mn
           have O := On
           have HB := HBn
           clear An Bbn Cn Dn Vn KKn Mn On HBn
           (try go_wp2_with fail)
           refine hK.out _ _ ?_ (fun hHeld => ?_)
           ·
            exact ⟨hHeld.1.keep B hHeld.1.lt, hHeld.2.1.keep B hHeld.2.1.lt, hHeld.2.2.1.keep B hHeld.2.2.1.lt, hHeld.2.2.2.1.keep B hHeld.2.2.2.1.lt, hHeld.2.2.2.2.1.keep B hHeld.2.2.2.2.1.lt, hHeld.2.2.2.2.2.1.keep B hHeld.2.2.2.2.2.1.lt, hHeld.2.2.2.2.2.2.keep B hHeld.2.2.2.2.2.2.lt⟩
           clear hK K
           (try simp only [Act.put, List.setIfInBounds_toArray, List.set_cons_zero, List.set_cons_succ])
           clear B
           refine wpAnyH_ready (rs := [44]) (by kernel_rfl) (by simp) ?_
           refine AllReadyH.cons (o := ({ dst := some 152, op := .call { callee := .value (.func 21), args := #[.tmp 150, .tmp 151], argTypes := #[23, 23] }, type := 3, pos := "law.go:46", after := #[⟨42, .data⟩, ⟨43, .data⟩, ⟨43, .chain⟩, ⟨41, .guard⟩], guard := some (41, true) } : Oper)) rfl (fun K hK => ?_) ?_
           ·
            go_simp
            go_at_call 21
            refine (s_cmp _).mono ?_
            rintro e Wjr12_10 ⟨rfl, B⟩
            have An := Lib.hid (A.out.keep B A.out.lt)
            have Bbn := Lib.hid (Bb.out.keep B Bb.out.lt)
            have Cn := Lib.hid (C.out.keep B C.out.lt)
            have Dn := Lib.hid (D.out.keep B D.out.lt)
            have Vn := Lib.hid (V.out.keep B V.out.lt)
            have KKn := Lib.hid (KK.out.keep B KK.out.lt)
            have Mn := Lib.hid (M.out.keep B M.out.lt)
            have On := Lib.hid (O.out.keep B O.out.lt)
            have HBn := Lib.hid (HB.out.trans (B.mono HB.out.size))
            clear A Bb C D V KK M O HB
            have A := An
            have Bb := Bbn
            have C := Cn
            have D := Dn
            have V := Vn
            have KK := KKn
            have M := Mn
            have O := On
            have HB := HBn
            clear An Bbn Cn Dn Vn KKn Mn On HBn
            (try go_wp2_with fail)
            refine hK.out _ _ ?_ (fun hHeld => ?_)
            ·
             exact ⟨hHeld.1.keep B hHeld.1.lt, hHeld.2.1.keep B hHeld.2.1.lt, hHeld.2.2.1.keep B hHeld.2.2.1.lt, hHeld.2.2.2.1.keep B hHeld.2.2.2.1.lt, hHeld.2.2.2.2.1.keep B hHeld.2.2.2.2.1.lt, hHeld.2.2.2.2.2.1.keep B hHeld.2.2.2.2.2.1.lt, hHeld.2.2.2.2.2.2.keep B hHeld.2.2.2.2.2.2.lt⟩
            clear hK K
            (try simp only [Act.put, List.setIfInBounds_toArray, List.set_cons_zero, List.set_cons_succ])
            clear B
            refine tk 45 (oi := ({ dst := some 153, op := .binOp .eql 3 (.tmp 152) (.const (.int .i64 1)) 3, type := 4, pos := "law.go:46", after := #[⟨44, .data⟩, ⟨41, .guard⟩], guard := some (41, true) } : Oper)) (v := ?v45_36jr_12_2) ?hy45_36jr_12_2 ?re45_36jr_12_2
            case hy45_36jr_12_2 => ((intro w hSw; have e00 := hSw.1.c0; have e01 := hSw.1.c1; have e10 := hSw.2.1.c0; have e11 := hSw.2.1.c1; have e20 := hSw.2.2.1.c0; have e21 := hSw.2.2.1.c1; have e30 := hSw.2.2.2.1.c0; have e31 := hSw.2.2.2.1.c1; have e40 := hSw.2.2.2.2.1.c0; have e41 := hSw.2.2.2.2.1.c1; have e50 := hSw.2.2.2.2.2.1.c0; have e51 := hSw.2.2.2.2.2.1.c1; have e60 := hSw.2.2.2.2.2.2.c0; have e61 := hSw.2.2.2.2.2.2.c1; go_simp) <;> with_reducible rfl)
            (try simp only [Act.put, List.setIfInBounds_toArray, List.set_cons_zero, List.set_cons_succ])
            refine tk 46 (oi := ({ dst := some 154, op := .pick (.tmp 149) (.tmp 153) (.const (.bool false)), type := 4, pos := "law.go:46", after := #[⟨41, .data⟩, ⟨45, .data⟩], guard := none } : Oper)) (v := ?v46_37jr_12_2) ?hy46_37jr_12_2 ?re46_37jr_12_2
            case hy46_37jr_12_2 => ((intro w hSw; have e00 := hSw.1.c0; have e01 := hSw.1.c1; have e10 := hSw.2.1.c0; have e11 := hSw.2.1.c1; have e20 := hSw.2.2.1.c0; have e21 := hSw.2.2.1.c1; have e30 := hSw.2.2.2.1.c0; have e31 := hSw.2.2.2.1.c1; have e40 := hSw.2.2.2.2.1.c0; have e41 := hSw.2.2.2.2.1.c1; have e50 := hSw.2.2.2.2.2.1.c0; have e51 := hSw.2.2.2.2.2.1.c1; have e60 := hSw.2.2.2.2.2.2.c0; have e61 := hSw.2.2.2.2.2.2.c1; go_simp) <;> with_reducible rfl)
            (try simp only [Act.put, List.setIfInBounds_toArray, List.set_cons_zero, List.set_cons_succ])
            refine tk 47 (oi := ({ dst := some 155, op := .move (.tmp 154), type := 4, pos := "law.go:46", after := #[⟨46, .data⟩, ⟨44, .chain⟩], guard := none } : Oper)) (v := ?v47_38jr_12_2) ?hy47_38jr_12_2 ?re47_38jr_12_2
            case hy47_38jr_12_2 => ((intro w hSw; have e00 := hSw.1.c0; have e01 := hSw.1.c1; have e10 := hSw.2.1.c0; have e11 := hSw.2.1.c1; have e20 := hSw.2.2.1.c0; have e21 := hSw.2.2.1.c1; have e30 := hSw.2.2.2.1.c0; have e31 := hSw.2.2.2.1.c1; have e40 := hSw.2.2.2.2.1.c0; have e41 := hSw.2.2.2.2.1.c1; have e50 := hSw.2.2.2.2.2.1.c0; have e51 := hSw.2.2.2.2.2.1.c1; have e60 := hSw.2.2.2.2.2.2.c0; have e61 := hSw.2.2.2.2.2.2.c1; go_simp) <;> with_reducible rfl)
            (try simp only [Act.put, List.setIfInBounds_toArray, List.set_cons_zero, List.set_cons_succ])
            refine tk 48 (oi := ({ dst := some 156, op := .load 23 (.tmp 1), type := 23, pos := "law.go:46", after := #[⟨47, .guard⟩], guard := some (47, true) } : Oper)) (v := ?v48_39jr_12_2) ?hy48_39jr_12_2 ?re48_39jr_12_2
            case hy48_39jr_12_2 => ((intro w hSw; have e00 := hSw.1.c0; have e01 := hSw.1.c1; have e10 := hSw.2.1.c0; have e11 := hSw.2.1.c1; have e20 := hSw.2.2.1.c0; have e21 := hSw.2.2.1.c1; have e30 := hSw.2.2.2.1.c0; have e31 := hSw.2.2.2.1.c1; have e40 := hSw.2.2.2.2.1.c0; have e41 := hSw.2.2.2.2.1.c1; have e50 := hSw.2.2.2.2.2.1.c0; have e51 := hSw.2.2.2.2.2.1.c1; have e60 := hSw.2.2.2.2.2.2.c0; have e61 := hSw.2.2.2.2.2.2.c1; go_simp) <;> with_reducible rfl)
            (try simp only [Act.put, List.setIfInBounds_toArray, List.set_cons_zero, List.set_cons_succ])
            refine wpAnyH_ready (rs := [49]) (by kernel_rfl) (by simp) ?_
            refine AllReadyH.cons (o := ({ dst := some 157, op := .call { callee := .value (.func 30), args := #[.tmp 156], argTypes := #[23] }, type := 4, pos := "law.go:46", after := #[⟨48, .data⟩, ⟨47, .chain⟩, ⟨47, .guard⟩], guard := some (47, true) } : Oper)) rfl (fun K hK => ?_) ?_
            ·
             go_simp
             go_at_call 30
             refine (s_valid _).mono ?_
             rintro e Wjr12_11 ⟨rfl, B⟩
             have An := Lib.hid (A.out.keep B A.out.lt)
             have Bbn := Lib.hid (Bb.out.keep B Bb.out.lt)
             have Cn := Lib.hid (C.out.keep B C.out.lt)
             have Dn := Lib.hid (D.out.keep B D.out.lt)
             have Vn := Lib.hid (V.out.keep B V.out.lt)
             have KKn := Lib.hid (KK.out.keep B KK.out.lt)
             have Mn := Lib.hid (M.out.keep B M.out.lt)
             have On := Lib.hid (O.out.keep B O.out.lt)
             have HBn := Lib.hid (HB.out.trans (B.mono HB.out.size))
             clear A Bb C D V KK M O HB
             have A := An
             have Bb := Bbn
             have C := Cn
             have D := Dn
             have V := Vn
             have KK := KKn
             have M := Mn
             have O := On
             have HB := HBn
             clear An Bbn Cn Dn Vn KKn Mn On HBn
             (try go_wp2_with fail)
             refine hK.out _ _ ?_ (fun hHeld => ?_)
             ·
              exact ⟨hHeld.1.keep B hHeld.1.lt, hHeld.2.1.keep B hHeld.2.1.lt, hHeld.2.2.1.keep B hHeld.2.2.1.lt, hHeld.2.2.2.1.keep B hHeld.2.2.2.1.lt, hHeld.2.2.2.2.1.keep B hHeld.2.2.2.2.1.lt, hHeld.2.2.2.2.2.1.keep B hHeld.2.2.2.2.2.1.lt, hHeld.2.2.2.2.2.2.keep B hHeld.2.2.2.2.2.2.lt⟩
             clear hK K
             (try simp only [Act.put, List.setIfInBounds_toArray, List.set_cons_zero, List.set_cons_succ])
             clear B
             refine tk 50 (oi := ({ dst := some 158, op := .pick (.tmp 155) (.tmp 157) (.const (.bool false)), type := 4, pos := "law.go:46", after := #[⟨47, .data⟩, ⟨49, .data⟩], guard := none } : Oper)) (v := ?v50_40jr_12_2) ?hy50_40jr_12_2 ?re50_40jr_12_2
             case hy50_40jr_12_2 => ((intro w hSw; have e00 := hSw.1.c0; have e01 := hSw.1.c1; have e10 := hSw.2.1.c0; have e11 := hSw.2.1.c1; have e20 := hSw.2.2.1.c0; have e21 := hSw.2.2.1.c1; have e30 := hSw.2.2.2.1.c0; have e31 := hSw.2.2.2.1.c1; have e40 := hSw.2.2.2.2.1.c0; have e41 := hSw.2.2.2.2.1.c1; have e50 := hSw.2.2.2.2.2.1.c0; have e51 := hSw.2.2.2.2.2.1.c1; have e60 := hSw.2.2.2.2.2.2.c0; have e61 := hSw.2.2.2.2.2.2.c1; go_simp) <;> with_reducible rfl)
             (try simp only [Act.put, List.setIfInBounds_toArray, List.set_cons_zero, List.set_cons_succ])
             refine tk 51 (oi := ({ dst := some 159, op := .move (.tmp 158), type := 4, pos := "law.go:46", after := #[⟨50, .data⟩, ⟨49, .chain⟩], guard := none } : Oper)) (v := ?v51_41jr_12_2) ?hy51_41jr_12_2 ?re51_41jr_12_2
             case hy51_41jr_12_2 => ((intro w hSw; have e00 := hSw.1.c0; have e01 := hSw.1.c1; have e10 := hSw.2.1.c0; have e11 := hSw.2.1.c1; have e20 := hSw.2.2.1.c0; have e21 := hSw.2.2.1.c1; have e30 := hSw.2.2.2.1.c0; have e31 := hSw.2.2.2.1.c1; have e40 := hSw.2.2.2.2.1.c0; have e41 := hSw.2.2.2.2.1.c1; have e50 := hSw.2.2.2.2.2.1.c0; have e51 := hSw.2.2.2.2.2.1.c1; have e60 := hSw.2.2.2.2.2.2.c0; have e61 := hSw.2.2.2.2.2.2.c1; go_simp) <;> with_reducible rfl)
             (try simp only [Act.put, List.setIfInBounds_toArray, List.set_cons_zero, List.set_cons_succ])
             refine tk 52 (oi := ({ dst := some 160, op := .build 23 #[], type := 23, pos := "law.go:46", after := #[⟨51, .guard⟩], guard := some (51, true) } : Oper)) (v := ?v52_42jr_12_2) ?hy52_42jr_12_2 ?re52_42jr_12_2
             case hy52_42jr_12_2 => ((intro w hSw; have e00 := hSw.1.c0; have e01 := hSw.1.c1; have e10 := hSw.2.1.c0; have e11 := hSw.2.1.c1; have e20 := hSw.2.2.1.c0; have e21 := hSw.2.2.1.c1; have e30 := hSw.2.2.2.1.c0; have e31 := hSw.2.2.2.1.c1; have e40 := hSw.2.2.2.2.1.c0; have e41 := hSw.2.2.2.2.1.c1; have e50 := hSw.2.2.2.2.2.1.c0; have e51 := hSw.2.2.2.2.2.1.c1; have e60 := hSw.2.2.2.2.2.2.c0; have e61 := hSw.2.2.2.2.2.2.c1; go_simp) <;> with_reducible rfl)
             (try simp only [Act.put, List.setIfInBounds_toArray, List.set_cons_zero, List.set_cons_succ])
             refine wpAnyH_ready (rs := [53]) (by kernel_rfl) (by simp) ?_
             refine AllReadyH.cons (o := ({ dst := some 161, op := .call { callee := .value (.func 30), args := #[.tmp 160], argTypes := #[23] }, type := 4, pos := "law.go:46", after := #[⟨52, .data⟩, ⟨51, .chain⟩, ⟨51, .guard⟩], guard := some (51, true) } : Oper)) rfl (fun K hK => ?_) ?_
             ·
              go_simp
              go_at_call 30
              refine (s_valid0 _).mono ?_
              rintro e Wjr12_12 ⟨rfl, B⟩
              have An := Lib.hid (A.out.keep B A.out.lt)
              have Bbn := Lib.hid (Bb.out.keep B Bb.out.lt)
              have Cn := Lib.hid (C.out.keep B C.out.lt)
              have Dn := Lib.hid (D.out.keep B D.out.lt)
              have Vn := Lib.hid (V.out.keep B V.out.lt)
              have KKn := Lib.hid (KK.out.keep B KK.out.lt)
              have Mn := Lib.hid (M.out.keep B M.out.lt)
              have On := Lib.hid (O.out.keep B O.out.lt)
              have HBn := Lib.hid (HB.out.trans (B.mono HB.out.size))
              clear A Bb C D V KK M O HB
              have A := An
              have Bb := Bbn
              have C := Cn
              have D := Dn
              have V := Vn
              have KK := KKn
              have M := Mn
              have O := On
              have HB := HBn
              clear An Bbn Cn Dn Vn KKn Mn On HBn
              (try go_wp2_with fail)
              refine hK.out _ _ ?_ (fun hHeld => ?_)
              ·
               exact ⟨hHeld.1.keep B hHeld.1.lt, hHeld.2.1.keep B hHeld.2.1.lt, hHeld.2.2.1.keep B hHeld.2.2.1.lt, hHeld.2.2.2.1.keep B hHeld.2.2.2.1.lt, hHeld.2.2.2.2.1.keep B hHeld.2.2.2.2.1.lt, hHeld.2.2.2.2.2.1.keep B hHeld.2.2.2.2.2.1.lt, hHeld.2.2.2.2.2.2.keep B hHeld.2.2.2.2.2.2.lt⟩
              clear hK K
              (try simp only [Act.put, List.setIfInBounds_toArray, List.set_cons_zero, List.set_cons_succ])
              clear B
              refine tk 54 (oi := ({ dst := some 162, op := .unOp .not 4 (.tmp 161), type := 4, pos := "law.go:46", after := #[⟨53, .data⟩, ⟨51, .guard⟩], guard := some (51, true) } : Oper)) (v := ?v54_43jr_12_2) ?hy54_43jr_12_2 ?re54_43jr_12_2
              case hy54_43jr_12_2 => ((intro w hSw; have e00 := hSw.1.c0; have e01 := hSw.1.c1; have e10 := hSw.2.1.c0; have e11 := hSw.2.1.c1; have e20 := hSw.2.2.1.c0; have e21 := hSw.2.2.1.c1; have e30 := hSw.2.2.2.1.c0; have e31 := hSw.2.2.2.1.c1; have e40 := hSw.2.2.2.2.1.c0; have e41 := hSw.2.2.2.2.1.c1; have e50 := hSw.2.2.2.2.2.1.c0; have e51 := hSw.2.2.2.2.2.1.c1; have e60 := hSw.2.2.2.2.2.2.c0; have e61 := hSw.2.2.2.2.2.2.c1; go_simp) <;> with_reducible rfl)
              (try simp only [Act.put, List.setIfInBounds_toArray, List.set_cons_zero, List.set_cons_succ])
              refine tk 55 (oi := ({ dst := some 163, op := .pick (.tmp 159) (.tmp 162) (.const (.bool false)), type := 4, pos := "law.go:46", after := #[⟨51, .data⟩, ⟨54, .data⟩], guard := none } : Oper)) (v := ?v55_44jr_12_2) ?hy55_44jr_12_2 ?re55_44jr_12_2
              case hy55_44jr_12_2 => ((intro w hSw; have e00 := hSw.1.c0; have e01 := hSw.1.c1; have e10 := hSw.2.1.c0; have e11 := hSw.2.1.c1; have e20 := hSw.2.2.1.c0; have e21 := hSw.2.2.1.c1; have e30 := hSw.2.2.2.1.c0; have e31 := hSw.2.2.2.1.c1; have e40 := hSw.2.2.2.2.1.c0; have e41 := hSw.2.2.2.2.1.c1; have e50 := hSw.2.2.2.2.2.1.c0; have e51 := hSw.2.2.2.2.2.1.c1; have e60 := hSw.2.2.2.2.2.2.c0; have e61 := hSw.2.2.2.2.2.2.c1; go_simp) <;> with_reducible rfl)
              (try simp only [Act.put, List.setIfInBounds_toArray, List.set_cons_zero, List.set_cons_succ])
              refine tk 56 (oi := ({ dst := some 0, op := .assign (.tmp 163), type := 4, pos := "law.go:46", after := #[⟨55, .data⟩, ⟨53, .chain⟩, ⟨0, .phase⟩, ⟨1, .phase⟩, ⟨2, .phase⟩, ⟨3, .phase⟩, ⟨4, .phase⟩, ⟨5, .phase⟩, ⟨6, .phase⟩, ⟨7, .phase⟩, ⟨8, .phase⟩, ⟨9, .phase⟩, ⟨10, .phase⟩, ⟨11, .phase⟩, ⟨12, .phase⟩, ⟨13, .phase⟩, ⟨14, .phase⟩, ⟨15, .phase⟩, ⟨16, .phase⟩, ⟨17, .phase⟩, ⟨18, .phase⟩, ⟨19, .phase⟩, ⟨20, .phase⟩, ⟨21, .phase⟩, ⟨22, .phase⟩, ⟨23, .phase⟩, ⟨24, .phase⟩, ⟨25, .phase⟩, ⟨26, .phase⟩, ⟨27, .phase⟩, ⟨28, .phase⟩, ⟨29, .phase⟩, ⟨30, .phase⟩, ⟨31, .phase⟩, ⟨32, .phase⟩, ⟨33, .phase⟩, ⟨34, .phase⟩, ⟨35, .phase⟩, ⟨36, .phase⟩, ⟨37, .phase⟩, ⟨38, .phase⟩, ⟨39, .phase⟩, ⟨40, .phase⟩, ⟨41, .phase⟩, ⟨42, .phase⟩, ⟨43, .phase⟩, ⟨44, .phase⟩, ⟨45, .phase⟩, ⟨46, .phase⟩, ⟨47, .phase⟩, ⟨48, .phase⟩, ⟨49, .phase⟩, ⟨50, .phase⟩, ⟨51, .phase⟩, ⟨52, .phase⟩, ⟨53, .phase⟩, ⟨54, .phase⟩, ⟨55, .phase⟩], guard := none } : Oper)) (v := ?v56_45jr_12_2) ?hy56_45jr_12_2 ?re56_45jr_12_2
              case hy56_45jr_12_2 => ((intro w hSw; have e00 := hSw.1.c0; have e01 := hSw.1.c1; have e10 := hSw.2.1.c0; have e11 := hSw.2.1.c1; have e20 := hSw.2.2.1.c0; have e21 := hSw.2.2.1.c1; have e30 := hSw.2.2.2.1.c0; have e31 := hSw.2.2.2.1.c1; have e40 := hSw.2.2.2.2.1.c0; have e41 := hSw.2.2.2.2.1.c1; have e50 := hSw.2.2.2.2.2.1.c0; have e51 := hSw.2.2.2.2.2.1.c1; have e60 := hSw.2.2.2.2.2.2.c0; have e61 := hSw.2.2.2.2.2.2.c1; go_simp) <;> with_reducible rfl)
              (try simp only [Act.put, List.setIfInBounds_toArray, List.set_cons_zero])
              refine wpAnyH_done (by kernel_rfl) ?_ _
              refine NoPanic.normal ?_
              (try go_wp2_with fail)
              go_ret
              exact ⟨rfl, HB.out⟩
             exact AllReadyH.nil
            exact AllReadyH.nil
           exact AllReadyH.nil
          exact AllReadyH.nil
         exact AllReadyH.nil
        exact AllReadyH.nil
       exact AllReadyH.nil
      exact AllReadyH.nil
     exact AllReadyH.nil
    exact AllReadyH.nil
   exact AllReadyH.nil
  exact AllReadyH.nil
theorem S_ten_succ (i : Nat) : S ((10 ^ (i + 1) : Nat) : Int) = S ((10 ^ i : Nat) : Int) ++ ⟨#[48]⟩ := by
 rw [S_ten, S_ten, ByteArray.append_assoc]
 congr 1
 refine toList_inj ?_
 rw [ByteArray.toList_eq, ByteArray.toList_eq, ByteArray.data_append]
 simp [List.replicate_succ']
def CBlk (w : World) (g : Nat) (cs : Array Value) (t : TypeId) : Prop := w.heap[g]? = some (.cells cs t (0, 0))
theorem CBlk.lt {w : World} {g : Nat} {cs : Array Value} {t : TypeId} (h : CBlk w g cs t) : g < w.heap.size := (Array.getElem?_eq_some_iff.1 h).1
theorem CBlk.keep {w w' : World} {n g : Nat} {cs : Array Value} {t : TypeId} (h : CBlk w g cs t) (hb : Below n w w') (hg : g < n) : CBlk w' g cs t := (hb.block g hg).trans h
theorem CBlk.c {w : World} {g : Nat} {cs : Array Value} {t : TypeId} (h : CBlk w g cs t) (j : Nat) {v : Value} (hv : cs[j]? = some v) : w.cell? ⟨g, j, none⟩ = some v := by rw [World.cell?, h]; exact hv
theorem CBlk.f {w : World} {g : Nat} {cs : Array Value} {t : TypeId} (h : CBlk w g cs t) (j : Nat) : w.frozen? ⟨g, j, none⟩ = false := by rw [World.frozen?, h]; simp
theorem CBlk.set {w : World} {g : Nat} {cs : Array Value} {t : TypeId} (h : CBlk w g cs t) (j : Nat) (v : Value) : CBlk (w.setCell ⟨g, j, none⟩ v) g (cs.setIfInBounds j v) t := by
 rw [CBlk, heap_setCell_same w g j _ _ v h]
theorem CBlk.new (w : World) (cs : Array Value) (t : TypeId) : CBlk (w.alloc (.cells cs t)) w.heap.size cs t := Go.heap_alloc_new w _
theorem CBlk.alloc {w : World} {g : Nat} {cs : Array Value} {t : TypeId} (h : CBlk w g cs t) (o : Obj) : CBlk (w.alloc o) g cs t := h.keep (below_alloc w o) h.lt
theorem CBlk.other {w : World} {g : Nat} {cs : Array Value} {t : TypeId} (h : CBlk w g cs t) (p : Addr) (v : Value) (hp : g ≠ p.block) : CBlk (w.setCell p v) g cs t := (heap_setCell_other w p g v hp).trans h
theorem info_r4 : (Tryz.prog.info? 31).map (·.size) = some 8 := by kernel_rfl
theorem info_e4 : (Tryz.prog.info? 33).map (·.size) = some 4 := by kernel_rfl
theorem r4_yields {w : World} {g : Nat} {cs : Array Value} (h : CBlk w g cs 31) (hs : cs.size = 8) : (loadVar 31 ⟨g, 0, none⟩).run Tryz.prog w = .ok (.agg cs) w :=
 run_loadVar_row w g _ _ _ _ _ h Tryz.underlying31 rfl (by rw [hs]; exact info_r4)
theorem e4_yields {w : World} {g : Nat} {cs : Array Value} (h : CBlk w g cs 33) (hs : cs.size = 4) : (loadVar 33 ⟨g, 0, none⟩).run Tryz.prog w = .ok (.agg cs) w :=
 run_loadVar_row w g _ _ _ _ _ h Tryz.underlying33 rfl (by rw [hs]; exact info_e4)
theorem results_two {fn : Func} {p q : Tmp} (h : fn.results = #[.cell p 31, .cell q 33]) (tmps : Array Value) (w : World) (g k : Nat) (cs ds : Array Value)
  (hp : tmps.getD p undef = .pointer (some ⟨g, 0, none⟩)) (hq : tmps.getD q undef = .pointer (some ⟨k, 0, none⟩)) (hg : CBlk w g cs 31) (hk : CBlk w k ds 33) (h8 : cs.size = 8) (h4 : ds.size = 4) :
  (results fn tmps).run Tryz.prog w = .ok (.tuple #[.agg cs, .agg ds]) w := by
 have hp' : tmps[p]?.getD undef = .pointer (some ⟨g, 0, none⟩) := by simpa using hp
 have hq' : tmps[q]?.getD undef = .pointer (some ⟨k, 0, none⟩) := by simpa using hq
 simp [results, h, hp', hq', asAddr, r4_yields hg h8, e4_yields hk h4]
set_option maxRecDepth 100000 in
set_option maxHeartbeats 8000000 in
theorem four_walk (s1 s2 s3 s4 x0 y0 x1 y1 x2 y2 x3 y3 : ByteArray) (e0 e1 e2 e3 : Int) (w : World)
  (c0 : ∀ W, Calls Tryz.prog 38 #[.agg #[.string s1, .string s2], .agg #[.string s3, .string s4]] W fun e w' => e = .returned (.tuple #[.agg #[.string x0, .string y0], .int .i64 e0]) ∧ Below W.heap.size W w')
  (c1 : ∀ W, Calls Tryz.prog 40 #[.agg #[.string s1, .string s2], .agg #[.string s3, .string s4]] W fun e w' => e = .returned (.tuple #[.agg #[.string x1, .string y1], .int .i64 e1]) ∧ Below W.heap.size W w')
  (c2 : ∀ W, Calls Tryz.prog 39 #[.agg #[.string s1, .string s2], .agg #[.string s3, .string s4]] W fun e w' => e = .returned (.tuple #[.agg #[.string x2, .string y2], .int .i64 e2]) ∧ Below W.heap.size W w')
  (c3 : ∀ W, Calls Tryz.prog 47 #[.agg #[.string s1, .string s2], .agg #[.string s3, .string s4]] W fun e w' => e = .returned (.tuple #[.agg #[.string x3, .string y3], .int .i64 e3]) ∧ Below W.heap.size W w') :
  Calls Tryz.prog 16 #[.agg #[.string s1, .string s2], .agg #[.string s3, .string s4]] w fun e w' => e = .returned (.tuple #[.agg #[.string x0, .string y0, .string x1, .string y1, .string x2, .string y2, .string x3, .string y3], .agg #[.int .i64 e0, .int .i64 e1, .int .i64 e2, .int .i64 e3]]) ∧ Below w.heap.size w w' := by
 have C0 := Lib.hid c0
 have C1 := Lib.hid c1
 have C2 := Lib.hid c2
 have C3 := Lib.hid c3
 clear c0 c1 c2 c3
 obtain ⟨r1, r2⟩ := two_ratios w (.string s1) (.string s2) (.string s3) (.string s4)
 have A := Lib.hid ((((r1.alloc (.cells #[.string ⟨#[]⟩, .string ⟨#[]⟩, .string ⟨#[]⟩, .string ⟨#[]⟩, .string ⟨#[]⟩, .string ⟨#[]⟩, .string ⟨#[]⟩, .string ⟨#[]⟩] 31)).alloc (.cells #[.int .i64 0, .int .i64 0, .int .i64 0, .int .i64 0] 33)).alloc (.cells #[.string ⟨#[]⟩, .string ⟨#[]⟩, .string ⟨#[]⟩, .string ⟨#[]⟩, .string ⟨#[]⟩, .string ⟨#[]⟩, .string ⟨#[]⟩, .string ⟨#[]⟩] 31)).alloc (.cells #[.int .i64 0, .int .i64 0, .int .i64 0, .int .i64 0] 33))
 have Bb := Lib.hid ((((r2.alloc (.cells #[.string ⟨#[]⟩, .string ⟨#[]⟩, .string ⟨#[]⟩, .string ⟨#[]⟩, .string ⟨#[]⟩, .string ⟨#[]⟩, .string ⟨#[]⟩, .string ⟨#[]⟩] 31)).alloc (.cells #[.int .i64 0, .int .i64 0, .int .i64 0, .int .i64 0] 33)).alloc (.cells #[.string ⟨#[]⟩, .string ⟨#[]⟩, .string ⟨#[]⟩, .string ⟨#[]⟩, .string ⟨#[]⟩, .string ⟨#[]⟩, .string ⟨#[]⟩, .string ⟨#[]⟩] 31)).alloc (.cells #[.int .i64 0, .int .i64 0, .int .i64 0, .int .i64 0] 33))
 have h2 : ((w.alloc (.cells #[.string s1, .string s2] 23)).alloc (.cells #[.string s3, .string s4] 23)).heap.size = w.heap.size + 1 + 1 := by rw [World.size_alloc, World.size_alloc]
 have h3 : (((w.alloc (.cells #[.string s1, .string s2] 23)).alloc (.cells #[.string s3, .string s4] 23)).alloc (.cells #[.string ⟨#[]⟩, .string ⟨#[]⟩, .string ⟨#[]⟩, .string ⟨#[]⟩, .string ⟨#[]⟩, .string ⟨#[]⟩, .string ⟨#[]⟩, .string ⟨#[]⟩] 31)).heap.size = w.heap.size + 1 + 1 + 1 := by rw [World.size_alloc, h2]
 have h4 : ((((w.alloc (.cells #[.string s1, .string s2] 23)).alloc (.cells #[.string s3, .string s4] 23)).alloc (.cells #[.string ⟨#[]⟩, .string ⟨#[]⟩, .string ⟨#[]⟩, .string ⟨#[]⟩, .string ⟨#[]⟩, .string ⟨#[]⟩, .string ⟨#[]⟩, .string ⟨#[]⟩] 31)).alloc (.cells #[.int .i64 0, .int .i64 0, .int .i64 0, .int .i64 0] 33)).heap.size = w.heap.size + 1 + 1 + 1 + 1 := by rw [World.size_alloc, h3]
 have h5 : (((((w.alloc (.cells #[.string s1, .string s2] 23)).alloc (.cells #[.string s3, .string s4] 23)).alloc (.cells #[.string ⟨#[]⟩, .string ⟨#[]⟩, .string ⟨#[]⟩, .string ⟨#[]⟩, .string ⟨#[]⟩, .string ⟨#[]⟩, .string ⟨#[]⟩, .string ⟨#[]⟩] 31)).alloc (.cells #[.int .i64 0, .int .i64 0, .int .i64 0, .int .i64 0] 33)).alloc (.cells #[.string ⟨#[]⟩, .string ⟨#[]⟩, .string ⟨#[]⟩, .string ⟨#[]⟩, .string ⟨#[]⟩, .string ⟨#[]⟩, .string ⟨#[]⟩, .string ⟨#[]⟩] 31)).heap.size = w.heap.size + 1 + 1 + 1 + 1 + 1 := by rw [World.size_alloc, h4]
 have RR := Lib.hid (show CBlk ((((((w.alloc (.cells #[.string s1, .string s2] 23)).alloc (.cells #[.string s3, .string s4] 23)).alloc (.cells #[.string ⟨#[]⟩, .string ⟨#[]⟩, .string ⟨#[]⟩, .string ⟨#[]⟩, .string ⟨#[]⟩, .string ⟨#[]⟩, .string ⟨#[]⟩, .string ⟨#[]⟩] 31)).alloc (.cells #[.int .i64 0, .int .i64 0, .int .i64 0, .int .i64 0] 33)).alloc (.cells #[.string ⟨#[]⟩, .string ⟨#[]⟩, .string ⟨#[]⟩, .string ⟨#[]⟩, .string ⟨#[]⟩, .string ⟨#[]⟩, .string ⟨#[]⟩, .string ⟨#[]⟩] 31)).alloc (.cells #[.int .i64 0, .int .i64 0, .int .i64 0, .int .i64 0] 33)) (w.heap.size + 1 + 1) #[.string ⟨#[]⟩, .string ⟨#[]⟩, .string ⟨#[]⟩, .string ⟨#[]⟩, .string ⟨#[]⟩, .string ⟨#[]⟩, .string ⟨#[]⟩, .string ⟨#[]⟩] 31 from (((h2 ▸ CBlk.new ((w.alloc (.cells #[.string s1, .string s2] 23)).alloc (.cells #[.string s3, .string s4] 23)) #[.string ⟨#[]⟩, .string ⟨#[]⟩, .string ⟨#[]⟩, .string ⟨#[]⟩, .string ⟨#[]⟩, .string ⟨#[]⟩, .string ⟨#[]⟩, .string ⟨#[]⟩] 31 : CBlk (((w.alloc (.cells #[.string s1, .string s2] 23)).alloc (.cells #[.string s3, .string s4] 23)).alloc (.cells #[.string ⟨#[]⟩, .string ⟨#[]⟩, .string ⟨#[]⟩, .string ⟨#[]⟩, .string ⟨#[]⟩, .string ⟨#[]⟩, .string ⟨#[]⟩, .string ⟨#[]⟩] 31)) (w.heap.size + 1 + 1) #[.string ⟨#[]⟩, .string ⟨#[]⟩, .string ⟨#[]⟩, .string ⟨#[]⟩, .string ⟨#[]⟩, .string ⟨#[]⟩, .string ⟨#[]⟩, .string ⟨#[]⟩] 31).alloc _).alloc _).alloc _)
 have RE := Lib.hid (show CBlk ((((((w.alloc (.cells #[.string s1, .string s2] 23)).alloc (.cells #[.string s3, .string s4] 23)).alloc (.cells #[.string ⟨#[]⟩, .string ⟨#[]⟩, .string ⟨#[]⟩, .string ⟨#[]⟩, .string ⟨#[]⟩, .string ⟨#[]⟩, .string ⟨#[]⟩, .string ⟨#[]⟩] 31)).alloc (.cells #[.int .i64 0, .int .i64 0, .int .i64 0, .int .i64 0] 33)).alloc (.cells #[.string ⟨#[]⟩, .string ⟨#[]⟩, .string ⟨#[]⟩, .string ⟨#[]⟩, .string ⟨#[]⟩, .string ⟨#[]⟩, .string ⟨#[]⟩, .string ⟨#[]⟩] 31)).alloc (.cells #[.int .i64 0, .int .i64 0, .int .i64 0, .int .i64 0] 33)) (w.heap.size + 1 + 1 + 1) #[.int .i64 0, .int .i64 0, .int .i64 0, .int .i64 0] 33 from ((h3 ▸ CBlk.new (((w.alloc (.cells #[.string s1, .string s2] 23)).alloc (.cells #[.string s3, .string s4] 23)).alloc (.cells #[.string ⟨#[]⟩, .string ⟨#[]⟩, .string ⟨#[]⟩, .string ⟨#[]⟩, .string ⟨#[]⟩, .string ⟨#[]⟩, .string ⟨#[]⟩, .string ⟨#[]⟩] 31)) #[.int .i64 0, .int .i64 0, .int .i64 0, .int .i64 0] 33 : CBlk ((((w.alloc (.cells #[.string s1, .string s2] 23)).alloc (.cells #[.string s3, .string s4] 23)).alloc (.cells #[.string ⟨#[]⟩, .string ⟨#[]⟩, .string ⟨#[]⟩, .string ⟨#[]⟩, .string ⟨#[]⟩, .string ⟨#[]⟩, .string ⟨#[]⟩, .string ⟨#[]⟩] 31)).alloc (.cells #[.int .i64 0, .int .i64 0, .int .i64 0, .int .i64 0] 33)) (w.heap.size + 1 + 1 + 1) #[.int .i64 0, .int .i64 0, .int .i64 0, .int .i64 0] 33).alloc _).alloc _)
 have VR := Lib.hid (show CBlk ((((((w.alloc (.cells #[.string s1, .string s2] 23)).alloc (.cells #[.string s3, .string s4] 23)).alloc (.cells #[.string ⟨#[]⟩, .string ⟨#[]⟩, .string ⟨#[]⟩, .string ⟨#[]⟩, .string ⟨#[]⟩, .string ⟨#[]⟩, .string ⟨#[]⟩, .string ⟨#[]⟩] 31)).alloc (.cells #[.int .i64 0, .int .i64 0, .int .i64 0, .int .i64 0] 33)).alloc (.cells #[.string ⟨#[]⟩, .string ⟨#[]⟩, .string ⟨#[]⟩, .string ⟨#[]⟩, .string ⟨#[]⟩, .string ⟨#[]⟩, .string ⟨#[]⟩, .string ⟨#[]⟩] 31)).alloc (.cells #[.int .i64 0, .int .i64 0, .int .i64 0, .int .i64 0] 33)) (w.heap.size + 1 + 1 + 1 + 1) #[.string ⟨#[]⟩, .string ⟨#[]⟩, .string ⟨#[]⟩, .string ⟨#[]⟩, .string ⟨#[]⟩, .string ⟨#[]⟩, .string ⟨#[]⟩, .string ⟨#[]⟩] 31 from (h4 ▸ CBlk.new ((((w.alloc (.cells #[.string s1, .string s2] 23)).alloc (.cells #[.string s3, .string s4] 23)).alloc (.cells #[.string ⟨#[]⟩, .string ⟨#[]⟩, .string ⟨#[]⟩, .string ⟨#[]⟩, .string ⟨#[]⟩, .string ⟨#[]⟩, .string ⟨#[]⟩, .string ⟨#[]⟩] 31)).alloc (.cells #[.int .i64 0, .int .i64 0, .int .i64 0, .int .i64 0] 33)) #[.string ⟨#[]⟩, .string ⟨#[]⟩, .string ⟨#[]⟩, .string ⟨#[]⟩, .string ⟨#[]⟩, .string ⟨#[]⟩, .string ⟨#[]⟩, .string ⟨#[]⟩] 31 : CBlk (((((w.alloc (.cells #[.string s1, .string s2] 23)).alloc (.cells #[.string s3, .string s4] 23)).alloc (.cells #[.string ⟨#[]⟩, .string ⟨#[]⟩, .string ⟨#[]⟩, .string ⟨#[]⟩, .string ⟨#[]⟩, .string ⟨#[]⟩, .string ⟨#[]⟩, .string ⟨#[]⟩] 31)).alloc (.cells #[.int .i64 0, .int .i64 0, .int .i64 0, .int .i64 0] 33)).alloc (.cells #[.string ⟨#[]⟩, .string ⟨#[]⟩, .string ⟨#[]⟩, .string ⟨#[]⟩, .string ⟨#[]⟩, .string ⟨#[]⟩, .string ⟨#[]⟩, .string ⟨#[]⟩] 31)) (w.heap.size + 1 + 1 + 1 + 1) #[.string ⟨#[]⟩, .string ⟨#[]⟩, .string ⟨#[]⟩, .string ⟨#[]⟩, .string ⟨#[]⟩, .string ⟨#[]⟩, .string ⟨#[]⟩, .string ⟨#[]⟩] 31).alloc _)
 have VE := Lib.hid (show CBlk ((((((w.alloc (.cells #[.string s1, .string s2] 23)).alloc (.cells #[.string s3, .string s4] 23)).alloc (.cells #[.string ⟨#[]⟩, .string ⟨#[]⟩, .string ⟨#[]⟩, .string ⟨#[]⟩, .string ⟨#[]⟩, .string ⟨#[]⟩, .string ⟨#[]⟩, .string ⟨#[]⟩] 31)).alloc (.cells #[.int .i64 0, .int .i64 0, .int .i64 0, .int .i64 0] 33)).alloc (.cells #[.string ⟨#[]⟩, .string ⟨#[]⟩, .string ⟨#[]⟩, .string ⟨#[]⟩, .string ⟨#[]⟩, .string ⟨#[]⟩, .string ⟨#[]⟩, .string ⟨#[]⟩] 31)).alloc (.cells #[.int .i64 0, .int .i64 0, .int .i64 0, .int .i64 0] 33)) (w.heap.size + 1 + 1 + 1 + 1 + 1) #[.int .i64 0, .int .i64 0, .int .i64 0, .int .i64 0] 33 from (h5 ▸ CBlk.new (((((w.alloc (.cells #[.string s1, .string s2] 23)).alloc (.cells #[.string s3, .string s4] 23)).alloc (.cells #[.string ⟨#[]⟩, .string ⟨#[]⟩, .string ⟨#[]⟩, .string ⟨#[]⟩, .string ⟨#[]⟩, .string ⟨#[]⟩, .string ⟨#[]⟩, .string ⟨#[]⟩] 31)).alloc (.cells #[.int .i64 0, .int .i64 0, .int .i64 0, .int .i64 0] 33)).alloc (.cells #[.string ⟨#[]⟩, .string ⟨#[]⟩, .string ⟨#[]⟩, .string ⟨#[]⟩, .string ⟨#[]⟩, .string ⟨#[]⟩, .string ⟨#[]⟩, .string ⟨#[]⟩] 31)) #[.int .i64 0, .int .i64 0, .int .i64 0, .int .i64 0] 33 : CBlk ((((((w.alloc (.cells #[.string s1, .string s2] 23)).alloc (.cells #[.string s3, .string s4] 23)).alloc (.cells #[.string ⟨#[]⟩, .string ⟨#[]⟩, .string ⟨#[]⟩, .string ⟨#[]⟩, .string ⟨#[]⟩, .string ⟨#[]⟩, .string ⟨#[]⟩, .string ⟨#[]⟩] 31)).alloc (.cells #[.int .i64 0, .int .i64 0, .int .i64 0, .int .i64 0] 33)).alloc (.cells #[.string ⟨#[]⟩, .string ⟨#[]⟩, .string ⟨#[]⟩, .string ⟨#[]⟩, .string ⟨#[]⟩, .string ⟨#[]⟩, .string ⟨#[]⟩, .string ⟨#[]⟩] 31)).alloc (.cells #[.int .i64 0, .int .i64 0, .int .i64 0, .int .i64 0] 33)) (w.heap.size + 1 + 1 + 1 + 1 + 1) #[.int .i64 0, .int .i64 0, .int .i64 0, .int .i64 0] 33))
 have HB := Lib.hid ((((((below_alloc w (.cells #[.string s1, .string s2] 23)).alloc (by rw [World.size_alloc]; omega) (.cells #[.string s3, .string s4] 23)).alloc (by rw [h2]; omega) (.cells #[.string ⟨#[]⟩, .string ⟨#[]⟩, .string ⟨#[]⟩, .string ⟨#[]⟩, .string ⟨#[]⟩, .string ⟨#[]⟩, .string ⟨#[]⟩, .string ⟨#[]⟩] 31)).alloc (by rw [h3]; omega) (.cells #[.int .i64 0, .int .i64 0, .int .i64 0, .int .i64 0] 33)).alloc (by rw [h4]; omega) (.cells #[.string ⟨#[]⟩, .string ⟨#[]⟩, .string ⟨#[]⟩, .string ⟨#[]⟩, .string ⟨#[]⟩, .string ⟨#[]⟩, .string ⟨#[]⟩, .string ⟨#[]⟩] 31)).alloc (by rw [h5]; omega) (.cells #[.int .i64 0, .int .i64 0, .int .i64 0, .int .i64 0] 33))
 clear r1 r2 h2 h3 h4 h5
 have Ac0 := A.out.c0
 have Ac1 := A.out.c1
 have Bc0 := Bb.out.c0
 have Bc1 := Bb.out.c1
 go_enter Tryz.func16, Tryz.ntmps16
 go_wp2_with fail
 go_at_call 38
 refine (C0.out _).mono ?_
 rintro e W0 ⟨rfl, B⟩
 clear Ac0 Ac1 Bc0 Bc1
 have An := Lib.hid (A.out.keep B A.out.lt)
 have Bbn := Lib.hid (Bb.out.keep B Bb.out.lt)
 have RRn := Lib.hid (RR.out.keep B RR.out.lt)
 have REn := Lib.hid (RE.out.keep B RE.out.lt)
 have VRn := Lib.hid (VR.out.keep B VR.out.lt)
 have VEn := Lib.hid (VE.out.keep B VE.out.lt)
 have HBn := Lib.hid (HB.out.trans (B.mono HB.out.size))
 clear A Bb RR RE VR VE HB B
 have A := An
 have Bb := Bbn
 have RR := RRn
 have RE := REn
 have VR := VRn
 have VE := VEn
 have HB := HBn
 clear An Bbn RRn REn VRn VEn HBn
 have pc0 : (W0).cell? ⟨w.heap.size + 1 + 1 + 1 + 1, 0, none⟩ = some (.string ⟨#[]⟩) := (VR.out).c 0 rfl
 have pf0 := (VR.out).f 0
 have pb1 : (W0).cell? ⟨w.heap.size + 1 + 1 + 1 + 1, 1, none⟩ = some (.string ⟨#[]⟩) := (VR.out).c 1 rfl
 have pg1 := (VR.out).f 1
 have pc1 : (((W0).setCell ⟨w.heap.size + 1 + 1 + 1 + 1, 0, none⟩ (.string x0))).cell? ⟨w.heap.size + 1 + 1 + 1 + 1, 1, none⟩ = some (.string ⟨#[]⟩) := ((VR.out).set 0 (.string x0)).c 1 rfl
 have pf1 := ((VR.out).set 0 (.string x0)).f 1
 have VRn : Hid (CBlk ((((W0).setCell ⟨w.heap.size + 1 + 1 + 1 + 1, 0, none⟩ (.string x0))).setCell ⟨w.heap.size + 1 + 1 + 1 + 1, 1, none⟩ (.string y0)) (w.heap.size + 1 + 1 + 1 + 1) #[.string x0, .string y0, .string ⟨#[]⟩, .string ⟨#[]⟩, .string ⟨#[]⟩, .string ⟨#[]⟩, .string ⟨#[]⟩, .string ⟨#[]⟩] 31) := Lib.hid (((VR.out).set 0 (.string x0)).set 1 (.string y0))
 have An := Lib.hid ((A.out.other ⟨w.heap.size + 1 + 1 + 1 + 1, 0, none⟩ (.string x0) (by show w.heap.size ≠ w.heap.size + 1 + 1 + 1 + 1; omega)).other ⟨w.heap.size + 1 + 1 + 1 + 1, 1, none⟩ (.string y0) (by show w.heap.size ≠ w.heap.size + 1 + 1 + 1 + 1; omega))
 have Bbn := Lib.hid ((Bb.out.other ⟨w.heap.size + 1 + 1 + 1 + 1, 0, none⟩ (.string x0) (by show w.heap.size + 1 ≠ w.heap.size + 1 + 1 + 1 + 1; omega)).other ⟨w.heap.size + 1 + 1 + 1 + 1, 1, none⟩ (.string y0) (by show w.heap.size + 1 ≠ w.heap.size + 1 + 1 + 1 + 1; omega))
 have RRn := Lib.hid ((RR.out.other ⟨w.heap.size + 1 + 1 + 1 + 1, 0, none⟩ (.string x0) (by show w.heap.size + 1 + 1 ≠ w.heap.size + 1 + 1 + 1 + 1; omega)).other ⟨w.heap.size + 1 + 1 + 1 + 1, 1, none⟩ (.string y0) (by show w.heap.size + 1 + 1 ≠ w.heap.size + 1 + 1 + 1 + 1; omega))
 have REn := Lib.hid ((RE.out.other ⟨w.heap.size + 1 + 1 + 1 + 1, 0, none⟩ (.string x0) (by show w.heap.size + 1 + 1 + 1 ≠ w.heap.size + 1 + 1 + 1 + 1; omega)).other ⟨w.heap.size + 1 + 1 + 1 + 1, 1, none⟩ (.string y0) (by show w.heap.size + 1 + 1 + 1 ≠ w.heap.size + 1 + 1 + 1 + 1; omega))
 have VEn := Lib.hid ((VE.out.other ⟨w.heap.size + 1 + 1 + 1 + 1, 0, none⟩ (.string x0) (by show w.heap.size + 1 + 1 + 1 + 1 + 1 ≠ w.heap.size + 1 + 1 + 1 + 1; omega)).other ⟨w.heap.size + 1 + 1 + 1 + 1, 1, none⟩ (.string y0) (by show w.heap.size + 1 + 1 + 1 + 1 + 1 ≠ w.heap.size + 1 + 1 + 1 + 1; omega))
 have HBn := Lib.hid ((HB.out.setCell (p := ⟨w.heap.size + 1 + 1 + 1 + 1, 0, none⟩) (by show w.heap.size ≤ w.heap.size + 1 + 1 + 1 + 1; omega) (.string x0)).setCell (p := ⟨w.heap.size + 1 + 1 + 1 + 1, 1, none⟩) (by show w.heap.size ≤ w.heap.size + 1 + 1 + 1 + 1; omega) (.string y0))
 clear A Bb RR RE VR VE HB
 have A := An
 have Bb := Bbn
 have RR := RRn
 have RE := REn
 have VR := VRn
 have VE := VEn
 have HB := HBn
 clear An Bbn RRn REn VRn VEn HBn
 have qc0 : (((((W0).setCell ⟨w.heap.size + 1 + 1 + 1 + 1, 0, none⟩ (.string x0))).setCell ⟨w.heap.size + 1 + 1 + 1 + 1, 1, none⟩ (.string y0))).cell? ⟨w.heap.size + 1 + 1 + 1 + 1 + 1, 0, none⟩ = some (.int .i64 0) := (VE.out).c 0 rfl
 have qf0 := (VE.out).f 0
 have VEn : Hid (CBlk ((((((W0).setCell ⟨w.heap.size + 1 + 1 + 1 + 1, 0, none⟩ (.string x0))).setCell ⟨w.heap.size + 1 + 1 + 1 + 1, 1, none⟩ (.string y0))).setCell ⟨w.heap.size + 1 + 1 + 1 + 1 + 1, 0, none⟩ (.int .i64 e0)) (w.heap.size + 1 + 1 + 1 + 1 + 1) #[.int .i64 e0, .int .i64 0, .int .i64 0, .int .i64 0] 33) := Lib.hid ((VE.out).set 0 (.int .i64 e0))
 have An := Lib.hid (A.out.other ⟨w.heap.size + 1 + 1 + 1 + 1 + 1, 0, none⟩ (.int .i64 e0) (by show w.heap.size ≠ w.heap.size + 1 + 1 + 1 + 1 + 1; omega))
 have Bbn := Lib.hid (Bb.out.other ⟨w.heap.size + 1 + 1 + 1 + 1 + 1, 0, none⟩ (.int .i64 e0) (by show w.heap.size + 1 ≠ w.heap.size + 1 + 1 + 1 + 1 + 1; omega))
 have RRn := Lib.hid (RR.out.other ⟨w.heap.size + 1 + 1 + 1 + 1 + 1, 0, none⟩ (.int .i64 e0) (by show w.heap.size + 1 + 1 ≠ w.heap.size + 1 + 1 + 1 + 1 + 1; omega))
 have REn := Lib.hid (RE.out.other ⟨w.heap.size + 1 + 1 + 1 + 1 + 1, 0, none⟩ (.int .i64 e0) (by show w.heap.size + 1 + 1 + 1 ≠ w.heap.size + 1 + 1 + 1 + 1 + 1; omega))
 have VRn := Lib.hid (VR.out.other ⟨w.heap.size + 1 + 1 + 1 + 1 + 1, 0, none⟩ (.int .i64 e0) (by show w.heap.size + 1 + 1 + 1 + 1 ≠ w.heap.size + 1 + 1 + 1 + 1 + 1; omega))
 have HBn := Lib.hid (HB.out.setCell (p := ⟨w.heap.size + 1 + 1 + 1 + 1 + 1, 0, none⟩) (by show w.heap.size ≤ w.heap.size + 1 + 1 + 1 + 1 + 1; omega) (.int .i64 e0))
 clear A Bb RR RE VR VE HB
 have A := An
 have Bb := Bbn
 have RR := RRn
 have RE := REn
 have VR := VRn
 have VE := VEn
 have HB := HBn
 clear An Bbn RRn REn VRn VEn HBn
 have Ac0 := A.out.c0
 have Ac1 := A.out.c1
 have Bc0 := Bb.out.c0
 have Bc1 := Bb.out.c1
 go_wp2_with fail
 clear pc0 pf0 pb1 pg1 pc1 pf1 qc0 qf0
 go_at_call 40
 refine (C1.out _).mono ?_
 rintro e W1 ⟨rfl, B⟩
 clear Ac0 Ac1 Bc0 Bc1
 have An := Lib.hid (A.out.keep B A.out.lt)
 have Bbn := Lib.hid (Bb.out.keep B Bb.out.lt)
 have RRn := Lib.hid (RR.out.keep B RR.out.lt)
 have REn := Lib.hid (RE.out.keep B RE.out.lt)
 have VRn := Lib.hid (VR.out.keep B VR.out.lt)
 have VEn := Lib.hid (VE.out.keep B VE.out.lt)
 have HBn := Lib.hid (HB.out.trans (B.mono HB.out.size))
 clear A Bb RR RE VR VE HB B
 have A := An
 have Bb := Bbn
 have RR := RRn
 have RE := REn
 have VR := VRn
 have VE := VEn
 have HB := HBn
 clear An Bbn RRn REn VRn VEn HBn
 have pc0 : (W1).cell? ⟨w.heap.size + 1 + 1 + 1 + 1, 2, none⟩ = some (.string ⟨#[]⟩) := (VR.out).c 2 rfl
 have pf0 := (VR.out).f 2
 have pb1 : (W1).cell? ⟨w.heap.size + 1 + 1 + 1 + 1, 3, none⟩ = some (.string ⟨#[]⟩) := (VR.out).c 3 rfl
 have pg1 := (VR.out).f 3
 have pc1 : (((W1).setCell ⟨w.heap.size + 1 + 1 + 1 + 1, 2, none⟩ (.string x1))).cell? ⟨w.heap.size + 1 + 1 + 1 + 1, 3, none⟩ = some (.string ⟨#[]⟩) := ((VR.out).set 2 (.string x1)).c 3 rfl
 have pf1 := ((VR.out).set 2 (.string x1)).f 3
 have VRn : Hid (CBlk ((((W1).setCell ⟨w.heap.size + 1 + 1 + 1 + 1, 2, none⟩ (.string x1))).setCell ⟨w.heap.size + 1 + 1 + 1 + 1, 3, none⟩ (.string y1)) (w.heap.size + 1 + 1 + 1 + 1) #[.string x0, .string y0, .string x1, .string y1, .string ⟨#[]⟩, .string ⟨#[]⟩, .string ⟨#[]⟩, .string ⟨#[]⟩] 31) := Lib.hid (((VR.out).set 2 (.string x1)).set 3 (.string y1))
 have An := Lib.hid ((A.out.other ⟨w.heap.size + 1 + 1 + 1 + 1, 2, none⟩ (.string x1) (by show w.heap.size ≠ w.heap.size + 1 + 1 + 1 + 1; omega)).other ⟨w.heap.size + 1 + 1 + 1 + 1, 3, none⟩ (.string y1) (by show w.heap.size ≠ w.heap.size + 1 + 1 + 1 + 1; omega))
 have Bbn := Lib.hid ((Bb.out.other ⟨w.heap.size + 1 + 1 + 1 + 1, 2, none⟩ (.string x1) (by show w.heap.size + 1 ≠ w.heap.size + 1 + 1 + 1 + 1; omega)).other ⟨w.heap.size + 1 + 1 + 1 + 1, 3, none⟩ (.string y1) (by show w.heap.size + 1 ≠ w.heap.size + 1 + 1 + 1 + 1; omega))
 have RRn := Lib.hid ((RR.out.other ⟨w.heap.size + 1 + 1 + 1 + 1, 2, none⟩ (.string x1) (by show w.heap.size + 1 + 1 ≠ w.heap.size + 1 + 1 + 1 + 1; omega)).other ⟨w.heap.size + 1 + 1 + 1 + 1, 3, none⟩ (.string y1) (by show w.heap.size + 1 + 1 ≠ w.heap.size + 1 + 1 + 1 + 1; omega))
 have REn := Lib.hid ((RE.out.other ⟨w.heap.size + 1 + 1 + 1 + 1, 2, none⟩ (.string x1) (by show w.heap.size + 1 + 1 + 1 ≠ w.heap.size + 1 + 1 + 1 + 1; omega)).other ⟨w.heap.size + 1 + 1 + 1 + 1, 3, none⟩ (.string y1) (by show w.heap.size + 1 + 1 + 1 ≠ w.heap.size + 1 + 1 + 1 + 1; omega))
 have VEn := Lib.hid ((VE.out.other ⟨w.heap.size + 1 + 1 + 1 + 1, 2, none⟩ (.string x1) (by show w.heap.size + 1 + 1 + 1 + 1 + 1 ≠ w.heap.size + 1 + 1 + 1 + 1; omega)).other ⟨w.heap.size + 1 + 1 + 1 + 1, 3, none⟩ (.string y1) (by show w.heap.size + 1 + 1 + 1 + 1 + 1 ≠ w.heap.size + 1 + 1 + 1 + 1; omega))
 have HBn := Lib.hid ((HB.out.setCell (p := ⟨w.heap.size + 1 + 1 + 1 + 1, 2, none⟩) (by show w.heap.size ≤ w.heap.size + 1 + 1 + 1 + 1; omega) (.string x1)).setCell (p := ⟨w.heap.size + 1 + 1 + 1 + 1, 3, none⟩) (by show w.heap.size ≤ w.heap.size + 1 + 1 + 1 + 1; omega) (.string y1))
 clear A Bb RR RE VR VE HB
 have A := An
 have Bb := Bbn
 have RR := RRn
 have RE := REn
 have VR := VRn
 have VE := VEn
 have HB := HBn
 clear An Bbn RRn REn VRn VEn HBn
 have qc0 : (((((W1).setCell ⟨w.heap.size + 1 + 1 + 1 + 1, 2, none⟩ (.string x1))).setCell ⟨w.heap.size + 1 + 1 + 1 + 1, 3, none⟩ (.string y1))).cell? ⟨w.heap.size + 1 + 1 + 1 + 1 + 1, 1, none⟩ = some (.int .i64 0) := (VE.out).c 1 rfl
 have qf0 := (VE.out).f 1
 have VEn : Hid (CBlk ((((((W1).setCell ⟨w.heap.size + 1 + 1 + 1 + 1, 2, none⟩ (.string x1))).setCell ⟨w.heap.size + 1 + 1 + 1 + 1, 3, none⟩ (.string y1))).setCell ⟨w.heap.size + 1 + 1 + 1 + 1 + 1, 1, none⟩ (.int .i64 e1)) (w.heap.size + 1 + 1 + 1 + 1 + 1) #[.int .i64 e0, .int .i64 e1, .int .i64 0, .int .i64 0] 33) := Lib.hid ((VE.out).set 1 (.int .i64 e1))
 have An := Lib.hid (A.out.other ⟨w.heap.size + 1 + 1 + 1 + 1 + 1, 1, none⟩ (.int .i64 e1) (by show w.heap.size ≠ w.heap.size + 1 + 1 + 1 + 1 + 1; omega))
 have Bbn := Lib.hid (Bb.out.other ⟨w.heap.size + 1 + 1 + 1 + 1 + 1, 1, none⟩ (.int .i64 e1) (by show w.heap.size + 1 ≠ w.heap.size + 1 + 1 + 1 + 1 + 1; omega))
 have RRn := Lib.hid (RR.out.other ⟨w.heap.size + 1 + 1 + 1 + 1 + 1, 1, none⟩ (.int .i64 e1) (by show w.heap.size + 1 + 1 ≠ w.heap.size + 1 + 1 + 1 + 1 + 1; omega))
 have REn := Lib.hid (RE.out.other ⟨w.heap.size + 1 + 1 + 1 + 1 + 1, 1, none⟩ (.int .i64 e1) (by show w.heap.size + 1 + 1 + 1 ≠ w.heap.size + 1 + 1 + 1 + 1 + 1; omega))
 have VRn := Lib.hid (VR.out.other ⟨w.heap.size + 1 + 1 + 1 + 1 + 1, 1, none⟩ (.int .i64 e1) (by show w.heap.size + 1 + 1 + 1 + 1 ≠ w.heap.size + 1 + 1 + 1 + 1 + 1; omega))
 have HBn := Lib.hid (HB.out.setCell (p := ⟨w.heap.size + 1 + 1 + 1 + 1 + 1, 1, none⟩) (by show w.heap.size ≤ w.heap.size + 1 + 1 + 1 + 1 + 1; omega) (.int .i64 e1))
 clear A Bb RR RE VR VE HB
 have A := An
 have Bb := Bbn
 have RR := RRn
 have RE := REn
 have VR := VRn
 have VE := VEn
 have HB := HBn
 clear An Bbn RRn REn VRn VEn HBn
 have Ac0 := A.out.c0
 have Ac1 := A.out.c1
 have Bc0 := Bb.out.c0
 have Bc1 := Bb.out.c1
 go_wp2_with fail
 clear pc0 pf0 pb1 pg1 pc1 pf1 qc0 qf0
 go_at_call 39
 refine (C2.out _).mono ?_
 rintro e W2 ⟨rfl, B⟩
 clear Ac0 Ac1 Bc0 Bc1
 have An := Lib.hid (A.out.keep B A.out.lt)
 have Bbn := Lib.hid (Bb.out.keep B Bb.out.lt)
 have RRn := Lib.hid (RR.out.keep B RR.out.lt)
 have REn := Lib.hid (RE.out.keep B RE.out.lt)
 have VRn := Lib.hid (VR.out.keep B VR.out.lt)
 have VEn := Lib.hid (VE.out.keep B VE.out.lt)
 have HBn := Lib.hid (HB.out.trans (B.mono HB.out.size))
 clear A Bb RR RE VR VE HB B
 have A := An
 have Bb := Bbn
 have RR := RRn
 have RE := REn
 have VR := VRn
 have VE := VEn
 have HB := HBn
 clear An Bbn RRn REn VRn VEn HBn
 have pc0 : (W2).cell? ⟨w.heap.size + 1 + 1 + 1 + 1, 4, none⟩ = some (.string ⟨#[]⟩) := (VR.out).c 4 rfl
 have pf0 := (VR.out).f 4
 have pb1 : (W2).cell? ⟨w.heap.size + 1 + 1 + 1 + 1, 5, none⟩ = some (.string ⟨#[]⟩) := (VR.out).c 5 rfl
 have pg1 := (VR.out).f 5
 have pc1 : (((W2).setCell ⟨w.heap.size + 1 + 1 + 1 + 1, 4, none⟩ (.string x2))).cell? ⟨w.heap.size + 1 + 1 + 1 + 1, 5, none⟩ = some (.string ⟨#[]⟩) := ((VR.out).set 4 (.string x2)).c 5 rfl
 have pf1 := ((VR.out).set 4 (.string x2)).f 5
 have VRn : Hid (CBlk ((((W2).setCell ⟨w.heap.size + 1 + 1 + 1 + 1, 4, none⟩ (.string x2))).setCell ⟨w.heap.size + 1 + 1 + 1 + 1, 5, none⟩ (.string y2)) (w.heap.size + 1 + 1 + 1 + 1) #[.string x0, .string y0, .string x1, .string y1, .string x2, .string y2, .string ⟨#[]⟩, .string ⟨#[]⟩] 31) := Lib.hid (((VR.out).set 4 (.string x2)).set 5 (.string y2))
 have An := Lib.hid ((A.out.other ⟨w.heap.size + 1 + 1 + 1 + 1, 4, none⟩ (.string x2) (by show w.heap.size ≠ w.heap.size + 1 + 1 + 1 + 1; omega)).other ⟨w.heap.size + 1 + 1 + 1 + 1, 5, none⟩ (.string y2) (by show w.heap.size ≠ w.heap.size + 1 + 1 + 1 + 1; omega))
 have Bbn := Lib.hid ((Bb.out.other ⟨w.heap.size + 1 + 1 + 1 + 1, 4, none⟩ (.string x2) (by show w.heap.size + 1 ≠ w.heap.size + 1 + 1 + 1 + 1; omega)).other ⟨w.heap.size + 1 + 1 + 1 + 1, 5, none⟩ (.string y2) (by show w.heap.size + 1 ≠ w.heap.size + 1 + 1 + 1 + 1; omega))
 have RRn := Lib.hid ((RR.out.other ⟨w.heap.size + 1 + 1 + 1 + 1, 4, none⟩ (.string x2) (by show w.heap.size + 1 + 1 ≠ w.heap.size + 1 + 1 + 1 + 1; omega)).other ⟨w.heap.size + 1 + 1 + 1 + 1, 5, none⟩ (.string y2) (by show w.heap.size + 1 + 1 ≠ w.heap.size + 1 + 1 + 1 + 1; omega))
 have REn := Lib.hid ((RE.out.other ⟨w.heap.size + 1 + 1 + 1 + 1, 4, none⟩ (.string x2) (by show w.heap.size + 1 + 1 + 1 ≠ w.heap.size + 1 + 1 + 1 + 1; omega)).other ⟨w.heap.size + 1 + 1 + 1 + 1, 5, none⟩ (.string y2) (by show w.heap.size + 1 + 1 + 1 ≠ w.heap.size + 1 + 1 + 1 + 1; omega))
 have VEn := Lib.hid ((VE.out.other ⟨w.heap.size + 1 + 1 + 1 + 1, 4, none⟩ (.string x2) (by show w.heap.size + 1 + 1 + 1 + 1 + 1 ≠ w.heap.size + 1 + 1 + 1 + 1; omega)).other ⟨w.heap.size + 1 + 1 + 1 + 1, 5, none⟩ (.string y2) (by show w.heap.size + 1 + 1 + 1 + 1 + 1 ≠ w.heap.size + 1 + 1 + 1 + 1; omega))
 have HBn := Lib.hid ((HB.out.setCell (p := ⟨w.heap.size + 1 + 1 + 1 + 1, 4, none⟩) (by show w.heap.size ≤ w.heap.size + 1 + 1 + 1 + 1; omega) (.string x2)).setCell (p := ⟨w.heap.size + 1 + 1 + 1 + 1, 5, none⟩) (by show w.heap.size ≤ w.heap.size + 1 + 1 + 1 + 1; omega) (.string y2))
 clear A Bb RR RE VR VE HB
 have A := An
 have Bb := Bbn
 have RR := RRn
 have RE := REn
 have VR := VRn
 have VE := VEn
 have HB := HBn
 clear An Bbn RRn REn VRn VEn HBn
 have qc0 : (((((W2).setCell ⟨w.heap.size + 1 + 1 + 1 + 1, 4, none⟩ (.string x2))).setCell ⟨w.heap.size + 1 + 1 + 1 + 1, 5, none⟩ (.string y2))).cell? ⟨w.heap.size + 1 + 1 + 1 + 1 + 1, 2, none⟩ = some (.int .i64 0) := (VE.out).c 2 rfl
 have qf0 := (VE.out).f 2
 have VEn : Hid (CBlk ((((((W2).setCell ⟨w.heap.size + 1 + 1 + 1 + 1, 4, none⟩ (.string x2))).setCell ⟨w.heap.size + 1 + 1 + 1 + 1, 5, none⟩ (.string y2))).setCell ⟨w.heap.size + 1 + 1 + 1 + 1 + 1, 2, none⟩ (.int .i64 e2)) (w.heap.size + 1 + 1 + 1 + 1 + 1) #[.int .i64 e0, .int .i64 e1, .int .i64 e2, .int .i64 0] 33) := Lib.hid ((VE.out).set 2 (.int .i64 e2))
 have An := Lib.hid (A.out.other ⟨w.heap.size + 1 + 1 + 1 + 1 + 1, 2, none⟩ (.int .i64 e2) (by show w.heap.size ≠ w.heap.size + 1 + 1 + 1 + 1 + 1; omega))
 have Bbn := Lib.hid (Bb.out.other ⟨w.heap.size + 1 + 1 + 1 + 1 + 1, 2, none⟩ (.int .i64 e2) (by show w.heap.size + 1 ≠ w.heap.size + 1 + 1 + 1 + 1 + 1; omega))
 have RRn := Lib.hid (RR.out.other ⟨w.heap.size + 1 + 1 + 1 + 1 + 1, 2, none⟩ (.int .i64 e2) (by show w.heap.size + 1 + 1 ≠ w.heap.size + 1 + 1 + 1 + 1 + 1; omega))
 have REn := Lib.hid (RE.out.other ⟨w.heap.size + 1 + 1 + 1 + 1 + 1, 2, none⟩ (.int .i64 e2) (by show w.heap.size + 1 + 1 + 1 ≠ w.heap.size + 1 + 1 + 1 + 1 + 1; omega))
 have VRn := Lib.hid (VR.out.other ⟨w.heap.size + 1 + 1 + 1 + 1 + 1, 2, none⟩ (.int .i64 e2) (by show w.heap.size + 1 + 1 + 1 + 1 ≠ w.heap.size + 1 + 1 + 1 + 1 + 1; omega))
 have HBn := Lib.hid (HB.out.setCell (p := ⟨w.heap.size + 1 + 1 + 1 + 1 + 1, 2, none⟩) (by show w.heap.size ≤ w.heap.size + 1 + 1 + 1 + 1 + 1; omega) (.int .i64 e2))
 clear A Bb RR RE VR VE HB
 have A := An
 have Bb := Bbn
 have RR := RRn
 have RE := REn
 have VR := VRn
 have VE := VEn
 have HB := HBn
 clear An Bbn RRn REn VRn VEn HBn
 have Ac0 := A.out.c0
 have Ac1 := A.out.c1
 have Bc0 := Bb.out.c0
 have Bc1 := Bb.out.c1
 go_wp2_with fail
 clear pc0 pf0 pb1 pg1 pc1 pf1 qc0 qf0
 go_at_call 47
 refine (C3.out _).mono ?_
 rintro e W3 ⟨rfl, B⟩
 clear Ac0 Ac1 Bc0 Bc1
 have An := Lib.hid (A.out.keep B A.out.lt)
 have Bbn := Lib.hid (Bb.out.keep B Bb.out.lt)
 have RRn := Lib.hid (RR.out.keep B RR.out.lt)
 have REn := Lib.hid (RE.out.keep B RE.out.lt)
 have VRn := Lib.hid (VR.out.keep B VR.out.lt)
 have VEn := Lib.hid (VE.out.keep B VE.out.lt)
 have HBn := Lib.hid (HB.out.trans (B.mono HB.out.size))
 clear A Bb RR RE VR VE HB B
 have A := An
 have Bb := Bbn
 have RR := RRn
 have RE := REn
 have VR := VRn
 have VE := VEn
 have HB := HBn
 clear An Bbn RRn REn VRn VEn HBn
 have pc0 : (W3).cell? ⟨w.heap.size + 1 + 1 + 1 + 1, 6, none⟩ = some (.string ⟨#[]⟩) := (VR.out).c 6 rfl
 have pf0 := (VR.out).f 6
 have pb1 : (W3).cell? ⟨w.heap.size + 1 + 1 + 1 + 1, 7, none⟩ = some (.string ⟨#[]⟩) := (VR.out).c 7 rfl
 have pg1 := (VR.out).f 7
 have pc1 : (((W3).setCell ⟨w.heap.size + 1 + 1 + 1 + 1, 6, none⟩ (.string x3))).cell? ⟨w.heap.size + 1 + 1 + 1 + 1, 7, none⟩ = some (.string ⟨#[]⟩) := ((VR.out).set 6 (.string x3)).c 7 rfl
 have pf1 := ((VR.out).set 6 (.string x3)).f 7
 have VRn : Hid (CBlk ((((W3).setCell ⟨w.heap.size + 1 + 1 + 1 + 1, 6, none⟩ (.string x3))).setCell ⟨w.heap.size + 1 + 1 + 1 + 1, 7, none⟩ (.string y3)) (w.heap.size + 1 + 1 + 1 + 1) #[.string x0, .string y0, .string x1, .string y1, .string x2, .string y2, .string x3, .string y3] 31) := Lib.hid (((VR.out).set 6 (.string x3)).set 7 (.string y3))
 have An := Lib.hid ((A.out.other ⟨w.heap.size + 1 + 1 + 1 + 1, 6, none⟩ (.string x3) (by show w.heap.size ≠ w.heap.size + 1 + 1 + 1 + 1; omega)).other ⟨w.heap.size + 1 + 1 + 1 + 1, 7, none⟩ (.string y3) (by show w.heap.size ≠ w.heap.size + 1 + 1 + 1 + 1; omega))
 have Bbn := Lib.hid ((Bb.out.other ⟨w.heap.size + 1 + 1 + 1 + 1, 6, none⟩ (.string x3) (by show w.heap.size + 1 ≠ w.heap.size + 1 + 1 + 1 + 1; omega)).other ⟨w.heap.size + 1 + 1 + 1 + 1, 7, none⟩ (.string y3) (by show w.heap.size + 1 ≠ w.heap.size + 1 + 1 + 1 + 1; omega))
 have RRn := Lib.hid ((RR.out.other ⟨w.heap.size + 1 + 1 + 1 + 1, 6, none⟩ (.string x3) (by show w.heap.size + 1 + 1 ≠ w.heap.size + 1 + 1 + 1 + 1; omega)).other ⟨w.heap.size + 1 + 1 + 1 + 1, 7, none⟩ (.string y3) (by show w.heap.size + 1 + 1 ≠ w.heap.size + 1 + 1 + 1 + 1; omega))
 have REn := Lib.hid ((RE.out.other ⟨w.heap.size + 1 + 1 + 1 + 1, 6, none⟩ (.string x3) (by show w.heap.size + 1 + 1 + 1 ≠ w.heap.size + 1 + 1 + 1 + 1; omega)).other ⟨w.heap.size + 1 + 1 + 1 + 1, 7, none⟩ (.string y3) (by show w.heap.size + 1 + 1 + 1 ≠ w.heap.size + 1 + 1 + 1 + 1; omega))
 have VEn := Lib.hid ((VE.out.other ⟨w.heap.size + 1 + 1 + 1 + 1, 6, none⟩ (.string x3) (by show w.heap.size + 1 + 1 + 1 + 1 + 1 ≠ w.heap.size + 1 + 1 + 1 + 1; omega)).other ⟨w.heap.size + 1 + 1 + 1 + 1, 7, none⟩ (.string y3) (by show w.heap.size + 1 + 1 + 1 + 1 + 1 ≠ w.heap.size + 1 + 1 + 1 + 1; omega))
 have HBn := Lib.hid ((HB.out.setCell (p := ⟨w.heap.size + 1 + 1 + 1 + 1, 6, none⟩) (by show w.heap.size ≤ w.heap.size + 1 + 1 + 1 + 1; omega) (.string x3)).setCell (p := ⟨w.heap.size + 1 + 1 + 1 + 1, 7, none⟩) (by show w.heap.size ≤ w.heap.size + 1 + 1 + 1 + 1; omega) (.string y3))
 clear A Bb RR RE VR VE HB
 have A := An
 have Bb := Bbn
 have RR := RRn
 have RE := REn
 have VR := VRn
 have VE := VEn
 have HB := HBn
 clear An Bbn RRn REn VRn VEn HBn
 have qc0 : (((((W3).setCell ⟨w.heap.size + 1 + 1 + 1 + 1, 6, none⟩ (.string x3))).setCell ⟨w.heap.size + 1 + 1 + 1 + 1, 7, none⟩ (.string y3))).cell? ⟨w.heap.size + 1 + 1 + 1 + 1 + 1, 3, none⟩ = some (.int .i64 0) := (VE.out).c 3 rfl
 have qf0 := (VE.out).f 3
 have VEn : Hid (CBlk ((((((W3).setCell ⟨w.heap.size + 1 + 1 + 1 + 1, 6, none⟩ (.string x3))).setCell ⟨w.heap.size + 1 + 1 + 1 + 1, 7, none⟩ (.string y3))).setCell ⟨w.heap.size + 1 + 1 + 1 + 1 + 1, 3, none⟩ (.int .i64 e3)) (w.heap.size + 1 + 1 + 1 + 1 + 1) #[.int .i64 e0, .int .i64 e1, .int .i64 e2, .int .i64 e3] 33) := Lib.hid ((VE.out).set 3 (.int .i64 e3))
 have An := Lib.hid (A.out.other ⟨w.heap.size + 1 + 1 + 1 + 1 + 1, 3, none⟩ (.int .i64 e3) (by show w.heap.size ≠ w.heap.size + 1 + 1 + 1 + 1 + 1; omega))
 have Bbn := Lib.hid (Bb.out.other ⟨w.heap.size + 1 + 1 + 1 + 1 + 1, 3, none⟩ (.int .i64 e3) (by show w.heap.size + 1 ≠ w.heap.size + 1 + 1 + 1 + 1 + 1; omega))
 have RRn := Lib.hid (RR.out.other ⟨w.heap.size + 1 + 1 + 1 + 1 + 1, 3, none⟩ (.int .i64 e3) (by show w.heap.size + 1 + 1 ≠ w.heap.size + 1 + 1 + 1 + 1 + 1; omega))
 have REn := Lib.hid (RE.out.other ⟨w.heap.size + 1 + 1 + 1 + 1 + 1, 3, none⟩ (.int .i64 e3) (by show w.heap.size + 1 + 1 + 1 ≠ w.heap.size + 1 + 1 + 1 + 1 + 1; omega))
 have VRn := Lib.hid (VR.out.other ⟨w.heap.size + 1 + 1 + 1 + 1 + 1, 3, none⟩ (.int .i64 e3) (by show w.heap.size + 1 + 1 + 1 + 1 ≠ w.heap.size + 1 + 1 + 1 + 1 + 1; omega))
 have HBn := Lib.hid (HB.out.setCell (p := ⟨w.heap.size + 1 + 1 + 1 + 1 + 1, 3, none⟩) (by show w.heap.size ≤ w.heap.size + 1 + 1 + 1 + 1 + 1; omega) (.int .i64 e3))
 clear A Bb RR RE VR VE HB
 have A := An
 have Bb := Bbn
 have RR := RRn
 have RE := REn
 have VR := VRn
 have VE := VEn
 have HB := HBn
 clear An Bbn RRn REn VRn VEn HBn
 have Ac0 := A.out.c0
 have Ac1 := A.out.c1
 have Bc0 := Bb.out.c0
 have Bc1 := Bb.out.c1
 go_wp2_with fail
 clear pc0 pf0 pb1 pg1 pc1 pf1 qc0 qf0
 obtain ⟨WF, hWF⟩ : ∃ W, W = ((((((W3).setCell ⟨w.heap.size + 1 + 1 + 1 + 1, 6, none⟩ (.string x3))).setCell ⟨w.heap.size + 1 + 1 + 1 + 1, 7, none⟩ (.string y3))).setCell ⟨w.heap.size + 1 + 1 + 1 + 1 + 1, 3, none⟩ (.int .i64 e3)) := ⟨_, rfl⟩
 rw [← hWF]
 rw [← hWF] at VR VE RR RE HB
 clear A Bb Ac0 Ac1 Bc0 Bc1 hWF
 refine wp_region_noPanic ?_
 refine wp_region_held_drew (S := fun W => CBlk W (w.heap.size + 1 + 1 + 1 + 1) #[.string x0, .string y0, .string x1, .string y1, .string x2, .string y2, .string x3, .string y3] 31 ∧ CBlk W (w.heap.size + 1 + 1 + 1 + 1 + 1) #[.int .i64 e0, .int .i64 e1, .int .i64 e2, .int .i64 e3] 33) (by kernel_rfl) ?_ (fun hHeld => ?_)
 ·
  exact ⟨VR.out, VE.out⟩
 refine tk 0 (oi := ({ dst := some 40, op := .load 31 (.tmp 6), type := 31, pos := "law.go:57", after := #[], guard := none } : Oper)) (v := ?v0_1) ?hy0_1 ?re0_1
 case hy0_1 => ((intro w hSw; have u0 := hSw.1.c 0 rfl; have u1 := hSw.1.c 1 rfl; have u2 := hSw.1.c 2 rfl; have u3 := hSw.1.c 3 rfl; have u4 := hSw.1.c 4 rfl; have u5 := hSw.1.c 5 rfl; have u6 := hSw.1.c 6 rfl; have u7 := hSw.1.c 7 rfl; have v0 := hSw.2.c 0 rfl; have v1 := hSw.2.c 1 rfl; have v2 := hSw.2.c 2 rfl; have v3 := hSw.2.c 3 rfl; go_simp) <;> with_reducible rfl)
 (try simp only [Act.put, List.setIfInBounds_toArray, List.set_cons_zero, List.set_cons_succ])
 refine tk 1 (oi := ({ dst := some 41, op := .load 33 (.tmp 7), type := 33, pos := "law.go:57", after := #[⟨2, .gcOnly .lateStores⟩], guard := none } : Oper)) (v := ?v1_2) ?hy1_2 ?re1_2
 case hy1_2 => ((intro w hSw; have u0 := hSw.1.c 0 rfl; have u1 := hSw.1.c 1 rfl; have u2 := hSw.1.c 2 rfl; have u3 := hSw.1.c 3 rfl; have u4 := hSw.1.c 4 rfl; have u5 := hSw.1.c 5 rfl; have u6 := hSw.1.c 6 rfl; have u7 := hSw.1.c 7 rfl; have v0 := hSw.2.c 0 rfl; have v1 := hSw.2.c 1 rfl; have v2 := hSw.2.c 2 rfl; have v3 := hSw.2.c 3 rfl; go_simp) <;> with_reducible rfl)
 (try simp only [Act.put, List.setIfInBounds_toArray, List.set_cons_zero, List.set_cons_succ])
 refine wpAnyH_ready (rs := [2]) (by kernel_rfl) (by simp) ?_
 refine AllReadyH.cons (o := ({ dst := none, op := .store 31 (.tmp 4) (.tmp 40), type := 0, pos := "law.go:57", after := #[⟨0, .data⟩, ⟨0, .phase⟩, ⟨1, .textOnly .lateStores⟩], guard := none } : Oper)) rfl (fun K hK => ?_) ?_
 ·
  have pc0 : (WF).cell? ⟨w.heap.size + 1 + 1, 0, none⟩ = some (.string ⟨#[]⟩) := (RR.out).c 0 rfl
  have pf0 := (RR.out).f 0
  have pb1 : (WF).cell? ⟨w.heap.size + 1 + 1, 1, none⟩ = some (.string ⟨#[]⟩) := (RR.out).c 1 rfl
  have pg1 := (RR.out).f 1
  have pb2 : (WF).cell? ⟨w.heap.size + 1 + 1, 2, none⟩ = some (.string ⟨#[]⟩) := (RR.out).c 2 rfl
  have pg2 := (RR.out).f 2
  have pb3 : (WF).cell? ⟨w.heap.size + 1 + 1, 3, none⟩ = some (.string ⟨#[]⟩) := (RR.out).c 3 rfl
  have pg3 := (RR.out).f 3
  have pb4 : (WF).cell? ⟨w.heap.size + 1 + 1, 4, none⟩ = some (.string ⟨#[]⟩) := (RR.out).c 4 rfl
  have pg4 := (RR.out).f 4
  have pb5 : (WF).cell? ⟨w.heap.size + 1 + 1, 5, none⟩ = some (.string ⟨#[]⟩) := (RR.out).c 5 rfl
  have pg5 := (RR.out).f 5
  have pb6 : (WF).cell? ⟨w.heap.size + 1 + 1, 6, none⟩ = some (.string ⟨#[]⟩) := (RR.out).c 6 rfl
  have pg6 := (RR.out).f 6
  have pb7 : (WF).cell? ⟨w.heap.size + 1 + 1, 7, none⟩ = some (.string ⟨#[]⟩) := (RR.out).c 7 rfl
  have pg7 := (RR.out).f 7
  have pc1 : (((WF).setCell ⟨w.heap.size + 1 + 1, 0, none⟩ (.string x0))).cell? ⟨w.heap.size + 1 + 1, 1, none⟩ = some (.string ⟨#[]⟩) := ((RR.out).set 0 (.string x0)).c 1 rfl
  have pf1 := ((RR.out).set 0 (.string x0)).f 1
  have pc2 : (((((WF).setCell ⟨w.heap.size + 1 + 1, 0, none⟩ (.string x0))).setCell ⟨w.heap.size + 1 + 1, 1, none⟩ (.string y0))).cell? ⟨w.heap.size + 1 + 1, 2, none⟩ = some (.string ⟨#[]⟩) := (((RR.out).set 0 (.string x0)).set 1 (.string y0)).c 2 rfl
  have pf2 := (((RR.out).set 0 (.string x0)).set 1 (.string y0)).f 2
  have pc3 : (((((((WF).setCell ⟨w.heap.size + 1 + 1, 0, none⟩ (.string x0))).setCell ⟨w.heap.size + 1 + 1, 1, none⟩ (.string y0))).setCell ⟨w.heap.size + 1 + 1, 2, none⟩ (.string x1))).cell? ⟨w.heap.size + 1 + 1, 3, none⟩ = some (.string ⟨#[]⟩) := ((((RR.out).set 0 (.string x0)).set 1 (.string y0)).set 2 (.string x1)).c 3 rfl
  have pf3 := ((((RR.out).set 0 (.string x0)).set 1 (.string y0)).set 2 (.string x1)).f 3
  have pc4 : (((((((((WF).setCell ⟨w.heap.size + 1 + 1, 0, none⟩ (.string x0))).setCell ⟨w.heap.size + 1 + 1, 1, none⟩ (.string y0))).setCell ⟨w.heap.size + 1 + 1, 2, none⟩ (.string x1))).setCell ⟨w.heap.size + 1 + 1, 3, none⟩ (.string y1))).cell? ⟨w.heap.size + 1 + 1, 4, none⟩ = some (.string ⟨#[]⟩) := (((((RR.out).set 0 (.string x0)).set 1 (.string y0)).set 2 (.string x1)).set 3 (.string y1)).c 4 rfl
  have pf4 := (((((RR.out).set 0 (.string x0)).set 1 (.string y0)).set 2 (.string x1)).set 3 (.string y1)).f 4
  have pc5 : (((((((((((WF).setCell ⟨w.heap.size + 1 + 1, 0, none⟩ (.string x0))).setCell ⟨w.heap.size + 1 + 1, 1, none⟩ (.string y0))).setCell ⟨w.heap.size + 1 + 1, 2, none⟩ (.string x1))).setCell ⟨w.heap.size + 1 + 1, 3, none⟩ (.string y1))).setCell ⟨w.heap.size + 1 + 1, 4, none⟩ (.string x2))).cell? ⟨w.heap.size + 1 + 1, 5, none⟩ = some (.string ⟨#[]⟩) := ((((((RR.out).set 0 (.string x0)).set 1 (.string y0)).set 2 (.string x1)).set 3 (.string y1)).set 4 (.string x2)).c 5 rfl
  have pf5 := ((((((RR.out).set 0 (.string x0)).set 1 (.string y0)).set 2 (.string x1)).set 3 (.string y1)).set 4 (.string x2)).f 5
  have pc6 : (((((((((((((WF).setCell ⟨w.heap.size + 1 + 1, 0, none⟩ (.string x0))).setCell ⟨w.heap.size + 1 + 1, 1, none⟩ (.string y0))).setCell ⟨w.heap.size + 1 + 1, 2, none⟩ (.string x1))).setCell ⟨w.heap.size + 1 + 1, 3, none⟩ (.string y1))).setCell ⟨w.heap.size + 1 + 1, 4, none⟩ (.string x2))).setCell ⟨w.heap.size + 1 + 1, 5, none⟩ (.string y2))).cell? ⟨w.heap.size + 1 + 1, 6, none⟩ = some (.string ⟨#[]⟩) := (((((((RR.out).set 0 (.string x0)).set 1 (.string y0)).set 2 (.string x1)).set 3 (.string y1)).set 4 (.string x2)).set 5 (.string y2)).c 6 rfl
  have pf6 := (((((((RR.out).set 0 (.string x0)).set 1 (.string y0)).set 2 (.string x1)).set 3 (.string y1)).set 4 (.string x2)).set 5 (.string y2)).f 6
  have pc7 : (((((((((((((((WF).setCell ⟨w.heap.size + 1 + 1, 0, none⟩ (.string x0))).setCell ⟨w.heap.size + 1 + 1, 1, none⟩ (.string y0))).setCell ⟨w.heap.size + 1 + 1, 2, none⟩ (.string x1))).setCell ⟨w.heap.size + 1 + 1, 3, none⟩ (.string y1))).setCell ⟨w.heap.size + 1 + 1, 4, none⟩ (.string x2))).setCell ⟨w.heap.size + 1 + 1, 5, none⟩ (.string y2))).setCell ⟨w.heap.size + 1 + 1, 6, none⟩ (.string x3))).cell? ⟨w.heap.size + 1 + 1, 7, none⟩ = some (.string ⟨#[]⟩) := ((((((((RR.out).set 0 (.string x0)).set 1 (.string y0)).set 2 (.string x1)).set 3 (.string y1)).set 4 (.string x2)).set 5 (.string y2)).set 6 (.string x3)).c 7 rfl
  have pf7 := ((((((((RR.out).set 0 (.string x0)).set 1 (.string y0)).set 2 (.string x1)).set 3 (.string y1)).set 4 (.string x2)).set 5 (.string y2)).set 6 (.string x3)).f 7
  go_simp
  obtain ⟨WG, hWG⟩ : ∃ W, W = ((((((((((((((((WF).setCell ⟨w.heap.size + 1 + 1, 0, none⟩ (.string x0))).setCell ⟨w.heap.size + 1 + 1, 1, none⟩ (.string y0))).setCell ⟨w.heap.size + 1 + 1, 2, none⟩ (.string x1))).setCell ⟨w.heap.size + 1 + 1, 3, none⟩ (.string y1))).setCell ⟨w.heap.size + 1 + 1, 4, none⟩ (.string x2))).setCell ⟨w.heap.size + 1 + 1, 5, none⟩ (.string y2))).setCell ⟨w.heap.size + 1 + 1, 6, none⟩ (.string x3))).setCell ⟨w.heap.size + 1 + 1, 7, none⟩ (.string y3)) := ⟨_, rfl⟩
  rw [← hWG]
  have RRn : Hid (CBlk WG (w.heap.size + 1 + 1) #[.string x0, .string y0, .string x1, .string y1, .string x2, .string y2, .string x3, .string y3] 31) := Lib.hid (by rw [hWG]; exact ((((((((RR.out).set 0 (.string x0)).set 1 (.string y0)).set 2 (.string x1)).set 3 (.string y1)).set 4 (.string x2)).set 5 (.string y2)).set 6 (.string x3)).set 7 (.string y3))
  have REn : Hid (CBlk WG (w.heap.size + 1 + 1 + 1) #[.int .i64 0, .int .i64 0, .int .i64 0, .int .i64 0] 33) := Lib.hid (by rw [hWG]; exact ((((((((RE.out).other ⟨w.heap.size + 1 + 1, 0, none⟩ (.string x0) (by show w.heap.size + 1 + 1 + 1 ≠ w.heap.size + 1 + 1; omega)).other ⟨w.heap.size + 1 + 1, 1, none⟩ (.string y0) (by show w.heap.size + 1 + 1 + 1 ≠ w.heap.size + 1 + 1; omega)).other ⟨w.heap.size + 1 + 1, 2, none⟩ (.string x1) (by show w.heap.size + 1 + 1 + 1 ≠ w.heap.size + 1 + 1; omega)).other ⟨w.heap.size + 1 + 1, 3, none⟩ (.string y1) (by show w.heap.size + 1 + 1 + 1 ≠ w.heap.size + 1 + 1; omega)).other ⟨w.heap.size + 1 + 1, 4, none⟩ (.string x2) (by show w.heap.size + 1 + 1 + 1 ≠ w.heap.size + 1 + 1; omega)).other ⟨w.heap.size + 1 + 1, 5, none⟩ (.string y2) (by show w.heap.size + 1 + 1 + 1 ≠ w.heap.size + 1 + 1; omega)).other ⟨w.heap.size + 1 + 1, 6, none⟩ (.string x3) (by show w.heap.size + 1 + 1 + 1 ≠ w.heap.size + 1 + 1; omega)).other ⟨w.heap.size + 1 + 1, 7, none⟩ (.string y3) (by show w.heap.size + 1 + 1 + 1 ≠ w.heap.size + 1 + 1; omega))
  have VRn : Hid (CBlk WG (w.heap.size + 1 + 1 + 1 + 1) #[.string x0, .string y0, .string x1, .string y1, .string x2, .string y2, .string x3, .string y3] 31) := Lib.hid (by rw [hWG]; exact ((((((((VR.out).other ⟨w.heap.size + 1 + 1, 0, none⟩ (.string x0) (by show w.heap.size + 1 + 1 + 1 + 1 ≠ w.heap.size + 1 + 1; omega)).other ⟨w.heap.size + 1 + 1, 1, none⟩ (.string y0) (by show w.heap.size + 1 + 1 + 1 + 1 ≠ w.heap.size + 1 + 1; omega)).other ⟨w.heap.size + 1 + 1, 2, none⟩ (.string x1) (by show w.heap.size + 1 + 1 + 1 + 1 ≠ w.heap.size + 1 + 1; omega)).other ⟨w.heap.size + 1 + 1, 3, none⟩ (.string y1) (by show w.heap.size + 1 + 1 + 1 + 1 ≠ w.heap.size + 1 + 1; omega)).other ⟨w.heap.size + 1 + 1, 4, none⟩ (.string x2) (by show w.heap.size + 1 + 1 + 1 + 1 ≠ w.heap.size + 1 + 1; omega)).other ⟨w.heap.size + 1 + 1, 5, none⟩ (.string y2) (by show w.heap.size + 1 + 1 + 1 + 1 ≠ w.heap.size + 1 + 1; omega)).other ⟨w.heap.size + 1 + 1, 6, none⟩ (.string x3) (by show w.heap.size + 1 + 1 + 1 + 1 ≠ w.heap.size + 1 + 1; omega)).other ⟨w.heap.size + 1 + 1, 7, none⟩ (.string y3) (by show w.heap.size + 1 + 1 + 1 + 1 ≠ w.heap.size + 1 + 1; omega))
  have VEn : Hid (CBlk WG (w.heap.size + 1 + 1 + 1 + 1 + 1) #[.int .i64 e0, .int .i64 e1, .int .i64 e2, .int .i64 e3] 33) := Lib.hid (by rw [hWG]; exact ((((((((VE.out).other ⟨w.heap.size + 1 + 1, 0, none⟩ (.string x0) (by show w.heap.size + 1 + 1 + 1 + 1 + 1 ≠ w.heap.size + 1 + 1; omega)).other ⟨w.heap.size + 1 + 1, 1, none⟩ (.string y0) (by show w.heap.size + 1 + 1 + 1 + 1 + 1 ≠ w.heap.size + 1 + 1; omega)).other ⟨w.heap.size + 1 + 1, 2, none⟩ (.string x1) (by show w.heap.size + 1 + 1 + 1 + 1 + 1 ≠ w.heap.size + 1 + 1; omega)).other ⟨w.heap.size + 1 + 1, 3, none⟩ (.string y1) (by show w.heap.size + 1 + 1 + 1 + 1 + 1 ≠ w.heap.size + 1 + 1; omega)).other ⟨w.heap.size + 1 + 1, 4, none⟩ (.string x2) (by show w.heap.size + 1 + 1 + 1 + 1 + 1 ≠ w.heap.size + 1 + 1; omega)).other ⟨w.heap.size + 1 + 1, 5, none⟩ (.string y2) (by show w.heap.size + 1 + 1 + 1 + 1 + 1 ≠ w.heap.size + 1 + 1; omega)).other ⟨w.heap.size + 1 + 1, 6, none⟩ (.string x3) (by show w.heap.size + 1 + 1 + 1 + 1 + 1 ≠ w.heap.size + 1 + 1; omega)).other ⟨w.heap.size + 1 + 1, 7, none⟩ (.string y3) (by show w.heap.size + 1 + 1 + 1 + 1 + 1 ≠ w.heap.size + 1 + 1; omega))
  have HBn : Hid (Below w.heap.size w WG) := Lib.hid (by rw [hWG]; exact ((((((((HB.out).setCell (p := ⟨w.heap.size + 1 + 1, 0, none⟩) (by show w.heap.size ≤ w.heap.size + 1 + 1; omega) (.string x0)).setCell (p := ⟨w.heap.size + 1 + 1, 1, none⟩) (by show w.heap.size ≤ w.heap.size + 1 + 1; omega) (.string y0)).setCell (p := ⟨w.heap.size + 1 + 1, 2, none⟩) (by show w.heap.size ≤ w.heap.size + 1 + 1; omega) (.string x1)).setCell (p := ⟨w.heap.size + 1 + 1, 3, none⟩) (by show w.heap.size ≤ w.heap.size + 1 + 1; omega) (.string y1)).setCell (p := ⟨w.heap.size + 1 + 1, 4, none⟩) (by show w.heap.size ≤ w.heap.size + 1 + 1; omega) (.string x2)).setCell (p := ⟨w.heap.size + 1 + 1, 5, none⟩) (by show w.heap.size ≤ w.heap.size + 1 + 1; omega) (.string y2)).setCell (p := ⟨w.heap.size + 1 + 1, 6, none⟩) (by show w.heap.size ≤ w.heap.size + 1 + 1; omega) (.string x3)).setCell (p := ⟨w.heap.size + 1 + 1, 7, none⟩) (by show w.heap.size ≤ w.heap.size + 1 + 1; omega) (.string y3))
  clear pc0 pf0 pb1 pg1 pb2 pg2 pb3 pg3 pb4 pg4 pb5 pg5 pb6 pg6 pb7 pg7 pc1 pf1 pc2 pf2 pc3 pf3 pc4 pf4 pc5 pf5 pc6 pf6 pc7 pf7 RR RE VR VE HB hWG
  have RR := RRn
  have RE := REn
  have VR := VRn
  have VE := VEn
  have HB := HBn
  clear RRn REn VRn VEn HBn
  refine hK.out _ _ ?_ (fun hHeld => ?_)
  ·
   exact ⟨VR.out, VE.out⟩
  clear hK K
  (try simp only [Act.put, List.setIfInBounds_toArray, List.set_cons_zero, List.set_cons_succ])
  refine wpAnyH_ready (rs := [3]) (by kernel_rfl) (by simp) ?_
  refine AllReadyH.cons (o := ({ dst := none, op := .store 33 (.tmp 5) (.tmp 41), type := 0, pos := "law.go:57", after := #[⟨1, .data⟩, ⟨2, .chain⟩, ⟨0, .phase⟩, ⟨1, .phase⟩, ⟨2, .phase⟩], guard := none } : Oper)) rfl (fun K hK => ?_) ?_
  ·
   have pc0 : (WG).cell? ⟨w.heap.size + 1 + 1 + 1, 0, none⟩ = some (.int .i64 0) := (RE.out).c 0 rfl
   have pf0 := (RE.out).f 0
   have pb1 : (WG).cell? ⟨w.heap.size + 1 + 1 + 1, 1, none⟩ = some (.int .i64 0) := (RE.out).c 1 rfl
   have pg1 := (RE.out).f 1
   have pb2 : (WG).cell? ⟨w.heap.size + 1 + 1 + 1, 2, none⟩ = some (.int .i64 0) := (RE.out).c 2 rfl
   have pg2 := (RE.out).f 2
   have pb3 : (WG).cell? ⟨w.heap.size + 1 + 1 + 1, 3, none⟩ = some (.int .i64 0) := (RE.out).c 3 rfl
   have pg3 := (RE.out).f 3
   have pc1 : (((WG).setCell ⟨w.heap.size + 1 + 1 + 1, 0, none⟩ (.int .i64 e0))).cell? ⟨w.heap.size + 1 + 1 + 1, 1, none⟩ = some (.int .i64 0) := ((RE.out).set 0 (.int .i64 e0)).c 1 rfl
   have pf1 := ((RE.out).set 0 (.int .i64 e0)).f 1
   have pc2 : (((((WG).setCell ⟨w.heap.size + 1 + 1 + 1, 0, none⟩ (.int .i64 e0))).setCell ⟨w.heap.size + 1 + 1 + 1, 1, none⟩ (.int .i64 e1))).cell? ⟨w.heap.size + 1 + 1 + 1, 2, none⟩ = some (.int .i64 0) := (((RE.out).set 0 (.int .i64 e0)).set 1 (.int .i64 e1)).c 2 rfl
   have pf2 := (((RE.out).set 0 (.int .i64 e0)).set 1 (.int .i64 e1)).f 2
   have pc3 : (((((((WG).setCell ⟨w.heap.size + 1 + 1 + 1, 0, none⟩ (.int .i64 e0))).setCell ⟨w.heap.size + 1 + 1 + 1, 1, none⟩ (.int .i64 e1))).setCell ⟨w.heap.size + 1 + 1 + 1, 2, none⟩ (.int .i64 e2))).cell? ⟨w.heap.size + 1 + 1 + 1, 3, none⟩ = some (.int .i64 0) := ((((RE.out).set 0 (.int .i64 e0)).set 1 (.int .i64 e1)).set 2 (.int .i64 e2)).c 3 rfl
   have pf3 := ((((RE.out).set 0 (.int .i64 e0)).set 1 (.int .i64 e1)).set 2 (.int .i64 e2)).f 3
   go_simp
   obtain ⟨WH, hWH⟩ : ∃ W, W = ((((((((WG).setCell ⟨w.heap.size + 1 + 1 + 1, 0, none⟩ (.int .i64 e0))).setCell ⟨w.heap.size + 1 + 1 + 1, 1, none⟩ (.int .i64 e1))).setCell ⟨w.heap.size + 1 + 1 + 1, 2, none⟩ (.int .i64 e2))).setCell ⟨w.heap.size + 1 + 1 + 1, 3, none⟩ (.int .i64 e3)) := ⟨_, rfl⟩
   rw [← hWH]
   have REn : Hid (CBlk WH (w.heap.size + 1 + 1 + 1) #[.int .i64 e0, .int .i64 e1, .int .i64 e2, .int .i64 e3] 33) := Lib.hid (by rw [hWH]; exact ((((RE.out).set 0 (.int .i64 e0)).set 1 (.int .i64 e1)).set 2 (.int .i64 e2)).set 3 (.int .i64 e3))
   have RRn : Hid (CBlk WH (w.heap.size + 1 + 1) #[.string x0, .string y0, .string x1, .string y1, .string x2, .string y2, .string x3, .string y3] 31) := Lib.hid (by rw [hWH]; exact ((((RR.out).other ⟨w.heap.size + 1 + 1 + 1, 0, none⟩ (.int .i64 e0) (by show w.heap.size + 1 + 1 ≠ w.heap.size + 1 + 1 + 1; omega)).other ⟨w.heap.size + 1 + 1 + 1, 1, none⟩ (.int .i64 e1) (by show w.heap.size + 1 + 1 ≠ w.heap.size + 1 + 1 + 1; omega)).other ⟨w.heap.size + 1 + 1 + 1, 2, none⟩ (.int .i64 e2) (by show w.heap.size + 1 + 1 ≠ w.heap.size + 1 + 1 + 1; omega)).other ⟨w.heap.size + 1 + 1 + 1, 3, none⟩ (.int .i64 e3) (by show w.heap.size + 1 + 1 ≠ w.heap.size + 1 + 1 + 1; omega))
   have VRn : Hid (CBlk WH (w.heap.size + 1 + 1 + 1 + 1) #[.string x0, .string y0, .string x1, .string y1, .string x2, .string y2, .string x3, .string y3] 31) := Lib.hid (by rw [hWH]; exact ((((VR.out).other ⟨w.heap.size + 1 + 1 + 1, 0, none⟩ (.int .i64 e0) (by show w.heap.size + 1 + 1 + 1 + 1 ≠ w.heap.size + 1 + 1 + 1; omega)).other ⟨w.heap.size + 1 + 1 + 1, 1, none⟩ (.int .i64 e1) (by show w.heap.size + 1 + 1 + 1 + 1 ≠ w.heap.size + 1 + 1 + 1; omega)).other ⟨w.heap.size + 1 + 1 + 1, 2, none⟩ (.int .i64 e2) (by show w.heap.size + 1 + 1 + 1 + 1 ≠ w.heap.size + 1 + 1 + 1; omega)).other ⟨w.heap.size + 1 + 1 + 1, 3, none⟩ (.int .i64 e3) (by show w.heap.size + 1 + 1 + 1 + 1 ≠ w.heap.size + 1 + 1 + 1; omega))
   have VEn : Hid (CBlk WH (w.heap.size + 1 + 1 + 1 + 1 + 1) #[.int .i64 e0, .int .i64 e1, .int .i64 e2, .int .i64 e3] 33) := Lib.hid (by rw [hWH]; exact ((((VE.out).other ⟨w.heap.size + 1 + 1 + 1, 0, none⟩ (.int .i64 e0) (by show w.heap.size + 1 + 1 + 1 + 1 + 1 ≠ w.heap.size + 1 + 1 + 1; omega)).other ⟨w.heap.size + 1 + 1 + 1, 1, none⟩ (.int .i64 e1) (by show w.heap.size + 1 + 1 + 1 + 1 + 1 ≠ w.heap.size + 1 + 1 + 1; omega)).other ⟨w.heap.size + 1 + 1 + 1, 2, none⟩ (.int .i64 e2) (by show w.heap.size + 1 + 1 + 1 + 1 + 1 ≠ w.heap.size + 1 + 1 + 1; omega)).other ⟨w.heap.size + 1 + 1 + 1, 3, none⟩ (.int .i64 e3) (by show w.heap.size + 1 + 1 + 1 + 1 + 1 ≠ w.heap.size + 1 + 1 + 1; omega))
   have HBn : Hid (Below w.heap.size w WH) := Lib.hid (by rw [hWH]; exact ((((HB.out).setCell (p := ⟨w.heap.size + 1 + 1 + 1, 0, none⟩) (by show w.heap.size ≤ w.heap.size + 1 + 1 + 1; omega) (.int .i64 e0)).setCell (p := ⟨w.heap.size + 1 + 1 + 1, 1, none⟩) (by show w.heap.size ≤ w.heap.size + 1 + 1 + 1; omega) (.int .i64 e1)).setCell (p := ⟨w.heap.size + 1 + 1 + 1, 2, none⟩) (by show w.heap.size ≤ w.heap.size + 1 + 1 + 1; omega) (.int .i64 e2)).setCell (p := ⟨w.heap.size + 1 + 1 + 1, 3, none⟩) (by show w.heap.size ≤ w.heap.size + 1 + 1 + 1; omega) (.int .i64 e3))
   clear pc0 pf0 pb1 pg1 pb2 pg2 pb3 pg3 pc1 pf1 pc2 pf2 pc3 pf3 RE RR VR VE HB hWH
   have RE := REn
   have RR := RRn
   have VR := VRn
   have VE := VEn
   have HB := HBn
   clear REn RRn VRn VEn HBn
   refine hK.out _ _ ?_ (fun hHeld => ?_)
   ·
    exact ⟨VR.out, VE.out⟩
   clear hK K
   (try simp only [Act.put, List.setIfInBounds_toArray, List.set_cons_zero, List.set_cons_succ])
   refine wpAnyH_done (by kernel_rfl) ?_ _
   refine NoPanic.normal ?_
   go_wp2_with fail
   refine bodyPost_ret (results_two rfl _ _ (w.heap.size + 1 + 1) (w.heap.size + 1 + 1 + 1) _ _ rfl rfl RR.out RE.out rfl rfl) rfl ?_
   exact ⟨rfl, HB.out.drew⟩
  exact AllReadyH.nil
 exact AllReadyH.nil
def PB (t : TypeId) (w : World) (g : Nat) (x y : Value) : Prop := w.heap[g]? = some (.cells #[x, y] t (0, 0))
theorem PB.lt {t : TypeId} {w : World} {g : Nat} {x y : Value} (h : PB t w g x y) : g < w.heap.size := (Array.getElem?_eq_some_iff.1 h).1
theorem PB.keep {t : TypeId} {w w' : World} {n g : Nat} {x y : Value} (h : PB t w g x y) (hb : Below n w w') (hg : g < n) : PB t w' g x y := (hb.block g hg).trans h
theorem PB.c0 {t : TypeId} {w : World} {g : Nat} {x y : Value} (h : PB t w g x y) : w.cell? ⟨g, 0, none⟩ = some x := by rw [World.cell?, h]; rfl
theorem PB.c1 {t : TypeId} {w : World} {g : Nat} {x y : Value} (h : PB t w g x y) : w.cell? ⟨g, 1, none⟩ = some y := by rw [World.cell?, h]; rfl
theorem PB.f {t : TypeId} {w : World} {g : Nat} {x y : Value} (h : PB t w g x y) (j : Nat) : w.frozen? ⟨g, j, none⟩ = false := by rw [World.frozen?, h]; simp
theorem PB.s0 {t : TypeId} {w : World} {g : Nat} {x y : Value} (h : PB t w g x y) (v : Value) : PB t (w.setCell ⟨g, 0, none⟩ v) g v y := by
 rw [PB, heap_setCell_same w g 0 _ _ v h]; rfl
theorem PB.s1 {t : TypeId} {w : World} {g : Nat} {x y : Value} (h : PB t w g x y) (v : Value) : PB t (w.setCell ⟨g, 1, none⟩ v) g x v := by
 rw [PB, heap_setCell_same w g 1 _ _ v h]; rfl
theorem PB.new (t : TypeId) (w : World) (x y : Value) : PB t (w.alloc (.cells #[x, y] t)) w.heap.size x y := Go.heap_alloc_new w _
theorem PB.alloc {t : TypeId} {w : World} {g : Nat} {x y : Value} (h : PB t w g x y) (o : Obj) : PB t (w.alloc o) g x y := h.keep (below_alloc w o) h.lt
theorem PB.drew {t : TypeId} {w : World} {g : Nat} {x y : Value} (h : PB t w g x y) : PB t w.drew g x y := h
theorem PB.other {t : TypeId} {w : World} {g : Nat} {x y : Value} (h : PB t w g x y) (p : Addr) (v : Value) (hp : g ≠ p.block) : PB t (w.setCell p v) g x y := (heap_setCell_other w p g v hp).trans h
theorem v4pick_1999 (c : Int) (w : World) (h1 : -9223372036854775808 ≤ c) (h2 : c ≤ 9223372036854775807) :
  Calls Tryz.prog 55 #[.int .i64 c, .int .i64 1999] w fun e w' => ∃ p : Nat, e = .returned (.int .i64 (p : Int)) ∧ p < 1999 ∧ Below w.heap.size w w' := by
 by_cases h : c < 0
 ·
  have e1 : wrap64 (c + 1) = c + 1 := by simp [wrap64]; omega
  have e2 : wrap64 (-(c + 1)) = -(c + 1) := by simp [wrap64]; omega
  have e3 := Lib.hid (show -((c + 1).tmod 1999) = ((-(c + 1)).toNat % 1999 : Nat) by rw [← Int.neg_tmod, Int.tmod_eq_emod_of_nonneg (by omega)]; omega)
  go_enter Tryz.func55, Tryz.ntmps55
  go_wp2
  go_ret
  exact ⟨_, by rw [← e3.out]; rfl, Nat.mod_lt _ (by decide), Below.refl _ _⟩
 ·
  have e3 := Lib.hid (show c % 1999 = (c.toNat % 1999 : Nat) by omega)
  go_enter Tryz.func55, Tryz.ntmps55
  go_wp2
  go_ret
  exact ⟨_, by rw [← e3.out]; rfl, Nat.mod_lt _ (by decide), Below.refl _ _⟩
theorem v4pick_60 (c : Int) (w : World) (h1 : -9223372036854775808 ≤ c) (h2 : c ≤ 9223372036854775807) :
  Calls Tryz.prog 55 #[.int .i64 c, .int .i64 60] w fun e w' => ∃ p : Nat, e = .returned (.int .i64 (p : Int)) ∧ p < 60 ∧ Below w.heap.size w w' := by
 by_cases h : c < 0
 ·
  have e1 : wrap64 (c + 1) = c + 1 := by simp [wrap64]; omega
  have e2 : wrap64 (-(c + 1)) = -(c + 1) := by simp [wrap64]; omega
  have e3 := Lib.hid (show -((c + 1).tmod 60) = ((-(c + 1)).toNat % 60 : Nat) by rw [← Int.neg_tmod, Int.tmod_eq_emod_of_nonneg (by omega)]; omega)
  go_enter Tryz.func55, Tryz.ntmps55
  go_wp2
  go_ret
  exact ⟨_, by rw [← e3.out]; rfl, Nat.mod_lt _ (by decide), Below.refl _ _⟩
 ·
  have e3 := Lib.hid (show c % 60 = (c.toNat % 60 : Nat) by omega)
  go_enter Tryz.func55, Tryz.ntmps55
  go_wp2
  go_ret
  exact ⟨_, by rw [← e3.out]; rfl, Nat.mod_lt _ (by decide), Below.refl _ _⟩
theorem v4pick_100 (c : Int) (w : World) (h1 : -9223372036854775808 ≤ c) (h2 : c ≤ 9223372036854775807) :
  Calls Tryz.prog 55 #[.int .i64 c, .int .i64 100] w fun e w' => ∃ p : Nat, e = .returned (.int .i64 (p : Int)) ∧ p < 100 ∧ Below w.heap.size w w' := by
 by_cases h : c < 0
 ·
  have e1 : wrap64 (c + 1) = c + 1 := by simp [wrap64]; omega
  have e2 : wrap64 (-(c + 1)) = -(c + 1) := by simp [wrap64]; omega
  have e3 := Lib.hid (show -((c + 1).tmod 100) = ((-(c + 1)).toNat % 100 : Nat) by rw [← Int.neg_tmod, Int.tmod_eq_emod_of_nonneg (by omega)]; omega)
  go_enter Tryz.func55, Tryz.ntmps55
  go_wp2
  go_ret
  exact ⟨_, by rw [← e3.out]; rfl, Nat.mod_lt _ (by decide), Below.refl _ _⟩
 ·
  have e3 := Lib.hid (show c % 100 = (c.toNat % 100 : Nat) by omega)
  go_enter Tryz.func55, Tryz.ntmps55
  go_wp2
  go_ret
  exact ⟨_, by rw [← e3.out]; rfl, Nat.mod_lt _ (by decide), Below.refl _ _⟩
theorem v4pick_1000000007 (c : Int) (w : World) (h1 : -9223372036854775808 ≤ c) (h2 : c ≤ 9223372036854775807) :
  Calls Tryz.prog 55 #[.int .i64 c, .int .i64 1000000007] w fun e w' => ∃ p : Nat, e = .returned (.int .i64 (p : Int)) ∧ p < 1000000007 ∧ Below w.heap.size w w' := by
 by_cases h : c < 0
 ·
  have e1 : wrap64 (c + 1) = c + 1 := by simp [wrap64]; omega
  have e2 : wrap64 (-(c + 1)) = -(c + 1) := by simp [wrap64]; omega
  have e3 := Lib.hid (show -((c + 1).tmod 1000000007) = ((-(c + 1)).toNat % 1000000007 : Nat) by rw [← Int.neg_tmod, Int.tmod_eq_emod_of_nonneg (by omega)]; omega)
  go_enter Tryz.func55, Tryz.ntmps55
  go_wp2
  go_ret
  exact ⟨_, by rw [← e3.out]; rfl, Nat.mod_lt _ (by decide), Below.refl _ _⟩
 ·
  have e3 := Lib.hid (show c % 1000000007 = (c.toNat % 1000000007 : Nat) by omega)
  go_enter Tryz.func55, Tryz.ntmps55
  go_wp2
  go_ret
  exact ⟨_, by rw [← e3.out]; rfl, Nat.mod_lt _ (by decide), Below.refl _ _⟩
theorem v4pick_2 (c : Int) (w : World) (h1 : -9223372036854775808 ≤ c) (h2 : c ≤ 9223372036854775807) :
  Calls Tryz.prog 55 #[.int .i64 c, .int .i64 2] w fun e w' => ∃ p : Nat, e = .returned (.int .i64 (p : Int)) ∧ p < 2 ∧ Below w.heap.size w w' := by
 by_cases h : c < 0
 ·
  have e1 : wrap64 (c + 1) = c + 1 := by simp [wrap64]; omega
  have e2 : wrap64 (-(c + 1)) = -(c + 1) := by simp [wrap64]; omega
  have e3 := Lib.hid (show -((c + 1).tmod 2) = ((-(c + 1)).toNat % 2 : Nat) by rw [← Int.neg_tmod, Int.tmod_eq_emod_of_nonneg (by omega)]; omega)
  go_enter Tryz.func55, Tryz.ntmps55
  go_wp2
  go_ret
  exact ⟨_, by rw [← e3.out]; rfl, Nat.mod_lt _ (by decide), Below.refl _ _⟩
 ·
  have e3 := Lib.hid (show c % 2 = (c.toNat % 2 : Nat) by omega)
  go_enter Tryz.func55, Tryz.ntmps55
  go_wp2
  go_ret
  exact ⟨_, by rw [← e3.out]; rfl, Nat.mod_lt _ (by decide), Below.refl _ _⟩
theorem lpick_32 (c : Int) (w : World) (h1 : -9223372036854775808 ≤ c) (h2 : c ≤ 9223372036854775807) :
  Calls Tryz.prog 23 #[.int .i64 c, .int .i64 32] w fun e w' => ∃ p : Nat, e = .returned (.int .i64 (p : Int)) ∧ p < 32 ∧ Below w.heap.size w w' := by
 by_cases h : c < 0
 ·
  have e1 : wrap64 (c + 1) = c + 1 := by simp [wrap64]; omega
  have e2 : wrap64 (-(c + 1)) = -(c + 1) := by simp [wrap64]; omega
  have e3 := Lib.hid (show -((c + 1).tmod 32) = ((-(c + 1)).toNat % 32 : Nat) by rw [← Int.neg_tmod, Int.tmod_eq_emod_of_nonneg (by omega)]; omega)
  go_enter Tryz.func23, Tryz.ntmps23
  go_wp2
  go_ret
  exact ⟨_, by rw [← e3.out]; rfl, Nat.mod_lt _ (by decide), Below.refl _ _⟩
 ·
  have e3 := Lib.hid (show c % 32 = (c.toNat % 32 : Nat) by omega)
  go_enter Tryz.func23, Tryz.ntmps23
  go_wp2
  go_ret
  exact ⟨_, by rw [← e3.out]; rfl, Nat.mod_lt _ (by decide), Below.refl _ _⟩
theorem v4Make_R (n d : Int) (w : World) (hn : n.natAbs < 10 ^ 200) (hd : d.natAbs < 10 ^ 200) (h0 : d ≠ 0) :
  Calls Tryz.prog 29 #[.string (S n), .string (S d)] w fun e w' => e = .returned (.tuple #[RV (Rat.divInt n d), .int .i64 0]) ∧ Below w.heap.size w w' := by
 have h := make_G n d hn hd w
 rw [decide_eq_true h0, opR_R _ _ _ (fun _ => sg_pos h0), sg_R, opQ, if_pos rfl] at h
 exact h
set_option maxRecDepth 100000 in
set_option maxHeartbeats 2000000 in
theorem v4Of_via (n d ev : Int) (x y : ByteArray) (w : World) (hn : -9223372036854775808 ≤ n ∧ n ≤ 9223372036854775807) (hd : -9223372036854775808 ≤ d ∧ d ≤ 9223372036854775807)
  (h : ∀ W, Calls Tryz.prog 29 #[.string (S n), .string (S d)] W fun e w' => e = .returned (.tuple #[.agg #[.string x, .string y], .int .i64 ev]) ∧ Below W.heap.size W w') :
  Calls Tryz.prog 33 #[.int .i64 n, .int .i64 d] w fun e w' => e = .returned (.tuple #[.agg #[.string x, .string y], .int .i64 ev]) ∧ Below w.heap.size w w' := by
 have HR := Lib.hid (RBlk.new w (.string ⟨#[]⟩) (.string ⟨#[]⟩))
 have HB := Lib.hid (below_alloc w (.cells #[.string ⟨#[]⟩, .string ⟨#[]⟩] 23))
 have H := Lib.hid h
 have F1 := Lib.hid (fun W => rFromInt_any n W hn.1 hn.2)
 have F2 := Lib.hid (fun W => rFromInt_any d W hd.1 hd.2)
 clear h hn hd
 generalize S n = sn at *
 generalize S d = sd at *
 go_enter Tryz.func33, Tryz.ntmps33
 go_wp2_with (first | (go_at_call 77; (with_reducible refine (F1.out _).mono ?_); rintro e W ⟨rfl, B⟩; have hr := (HR.out.keep B HR.out.lt); have hb := HB.out.trans (B.mono HB.out.size); clear HR HB B ; have HR := Lib.hid hr; have HB := Lib.hid hb; clear hr hb) | (go_at_call 77; (with_reducible refine (F2.out _).mono ?_); rintro e W ⟨rfl, B⟩; have hr := (HR.out.keep B HR.out.lt); have hb := HB.out.trans (B.mono HB.out.size); clear HR HB B ; have HR := Lib.hid hr; have HB := Lib.hid hb; clear hr hb) | (go_at_call 29; (with_reducible refine (H.out _).mono ?_); rintro e W ⟨rfl, B⟩; have hr := (HR.out.keep B HR.out.lt); have hb := HB.out.trans (B.mono HB.out.size); clear HR HB B ; have HR := Lib.hid hr; have HB := Lib.hid hb; have c0 := hr.c0; have c1 := hr.c1; have f0 := hr.f 0; have f1 := hr.f 1; have hs := hr.s0 (.string x); have d1 := hs.c1; have g1 := hs.f 1; have HS := Lib.hid (hs.s1 (.string y)); have HBS := Lib.hid ((hb.setCell (p := ⟨w.heap.size, 0, none⟩) (by show w.heap.size ≤ w.heap.size; omega) (.string x)).setCell (p := ⟨w.heap.size, 1, none⟩) (by show w.heap.size ≤ w.heap.size; omega) (.string y)); clear hr hb hs))
 refine bodyPost_ret (results_ratio rfl _ _ w.heap.size _ _ rfl HS.out) rfl ?_
 exact ⟨rfl, HBS.out⟩
theorem v4Of_R (n d : Int) (w : World) (hn : -9223372036854775808 ≤ n ∧ n ≤ 9223372036854775807) (hd : -9223372036854775808 ≤ d ∧ d ≤ 9223372036854775807) (h0 : d ≠ 0) :
  Calls Tryz.prog 33 #[.int .i64 n, .int .i64 d] w fun e w' => e = .returned (.tuple #[RV (Rat.divInt n d), .int .i64 0]) ∧ Below w.heap.size w w' :=
 v4Of_via n d 0 _ _ w hn hd fun W => v4Make_R n d W (by omega) (by omega) h0
theorem v4Of_Z (n : Int) (w : World) (hn : -9223372036854775808 ≤ n ∧ n ≤ 9223372036854775807) :
  Calls Tryz.prog 33 #[.int .i64 n, .int .i64 0] w fun e w' => e = .returned (.tuple #[RZ, .int .i64 40]) ∧ Below w.heap.size w w' :=
 v4Of_via n 0 40 _ _ w hn (by omega) fun W => v4Make_no (S n) (S 0) (txt n) (txt 0) W (S_list n) (S_list 0) (S_len (by omega)) (S_len (by decide)) (fun _ => txt_num 0)
def smallR (q : Rat) : Prop := q.num.natAbs ≤ 999 ∧ q.den ≤ 60
theorem smallR.fit {q : Rat} (h : smallR q) : fitR 200 q := ⟨Nat.lt_of_le_of_lt h.1 (by decide), Nat.lt_of_le_of_lt h.2 (by decide)⟩
theorem small_of {p q : Nat} (hp : p < 1999) (hq : q < 60) : smallR (Rat.divInt ((p : Int) - 999) (1 + (q : Int))) := by
 rw [show (1 + (q : Int)) = ((1 + q : Nat) : Int) by omega, Rat.divInt_ofNat]
 have hd : 1 + q ≠ 0 := by omega
 refine ⟨?_, ?_⟩
 ·
  rw [Rat.num_mkRat, if_neg hd]
  exact Nat.le_trans (Int.natAbs_ediv_le_natAbs _ _) (by omega)
 ·
  rw [Rat.den_mkRat, if_neg hd]
  exact Nat.le_trans (Nat.div_le_self _ _) (by omega)
set_option maxRecDepth 100000 in
set_option maxHeartbeats 4000000 in
theorem Small_any (x0 x1 : Int) (w : World) (b0 : -9223372036854775808 ≤ x0 ∧ x0 ≤ 9223372036854775807) (b1 : -9223372036854775808 ≤ x1 ∧ x1 ≤ 9223372036854775807) :
  Calls Tryz.prog 15 #[.agg #[.int .i64 x0, .int .i64 x1]] w fun e w' => ∃ q, e = .returned (RV q) ∧ smallR q ∧ Below w.heap.size w w' := by
 have A := Lib.hid ((PB.new 25 w (.int .i64 x0) (.int .i64 x1)).alloc (.cells #[.string ⟨#[]⟩, .string ⟨#[]⟩] 23))
 have Z := Lib.hid (show RBlk ((w.alloc (.cells #[.int .i64 x0, .int .i64 x1] 25)).alloc (.cells #[.string ⟨#[]⟩, .string ⟨#[]⟩] 23)) (w.heap.size + 1) (.string ⟨#[]⟩) (.string ⟨#[]⟩) by
  have h := RBlk.new (w.alloc (.cells #[.int .i64 x0, .int .i64 x1] 25)) (.string ⟨#[]⟩) (.string ⟨#[]⟩)
  rwa [World.size_alloc] at h)
 have HB := Lib.hid ((below_alloc w (.cells #[.int .i64 x0, .int .i64 x1] 25)).alloc (by rw [World.size_alloc]; omega) (.cells #[.string ⟨#[]⟩, .string ⟨#[]⟩] 23))
 go_enter Tryz.func15, Tryz.ntmps15
 go_upto_region 1 with fail
 generalize hW01 : ((w.alloc (.cells #[.int .i64 x0, .int .i64 x1] 25)).alloc (.cells #[.string ⟨#[]⟩, .string ⟨#[]⟩] 23)) = W01 at *
 clear hW01
 refine wp_region_noPanic ?_
 refine wp_region_held_drew (S := fun W => PB 25 W (w.heap.size) (.int .i64 x0) (.int .i64 x1)) (by kernel_rfl) ?_ (fun hHeld => ?_)
 ·
  exact A.out
 have An := Lib.hid A.out.drew
 have Zn := Lib.hid Z.out.drew
 have HBn := Lib.hid HB.out.drew
 clear A Z HB
 have A := An
 have Z := Zn
 have HB := HBn
 clear An Zn HBn
 refine tk 0 (oi := ({ dst := some 6, op := .indexAddr 25 (.tmp 1) (.const (.int .i64 0)), type := 0, pos := "ref.go:237", after := #[], guard := none } : Oper)) (v := ?v0_1_1_1) ?hy0_1_1_1 ?re0_1_1_1
 case hy0_1_1_1 => ((intro w hSw; have e00 := hSw.c0; have e01 := hSw.c1; go_simp) <;> with_reducible rfl)
 (try simp only [Act.put, List.setIfInBounds_toArray, List.set_cons_zero, List.set_cons_succ])
 refine tk 4 (oi := ({ dst := some 10, op := .indexAddr 25 (.tmp 1) (.const (.int .i64 1)), type := 0, pos := "ref.go:237", after := #[], guard := none } : Oper)) (v := ?v4_2_1_1) ?hy4_2_1_1 ?re4_2_1_1
 case hy4_2_1_1 => ((intro w hSw; have e00 := hSw.c0; have e01 := hSw.c1; go_simp) <;> with_reducible rfl)
 (try simp only [Act.put, List.setIfInBounds_toArray, List.set_cons_zero, List.set_cons_succ])
 refine tk 1 (oi := ({ dst := some 7, op := .load 3 (.tmp 6), type := 3, pos := "ref.go:237", after := #[⟨0, .data⟩], guard := none } : Oper)) (v := ?v1_3_1_1) ?hy1_3_1_1 ?re1_3_1_1
 case hy1_3_1_1 => ((intro w hSw; have e00 := hSw.c0; have e01 := hSw.c1; go_simp) <;> with_reducible rfl)
 (try simp only [Act.put, List.setIfInBounds_toArray, List.set_cons_zero, List.set_cons_succ])
 refine tk 5 (oi := ({ dst := some 11, op := .load 3 (.tmp 10), type := 3, pos := "ref.go:237", after := #[⟨4, .data⟩], guard := none } : Oper)) (v := ?v5_4_1_1) ?hy5_4_1_1 ?re5_4_1_1
 case hy5_4_1_1 => ((intro w hSw; have e00 := hSw.c0; have e01 := hSw.c1; go_simp) <;> with_reducible rfl)
 (try simp only [Act.put, List.setIfInBounds_toArray, List.set_cons_zero, List.set_cons_succ])
 refine wpAnyH_ready (rs := [2, 12]) (by kernel_rfl) (by simp) ?_
 refine AllReadyH.cons (o := ({ dst := some 8, op := .call { callee := .value (.func 55), args := #[.tmp 7, .const (.int .i64 1999)], argTypes := #[3, 3] }, type := 3, pos := "ref.go:237", after := #[⟨1, .data⟩], guard := none } : Oper)) rfl (fun K hK => ?_) ?_
 ·
  go_simp
  go_at_call 55
  refine (v4pick_1999 x0 _ b0.1 b0.2).mono ?_
  rintro e W1_1 ⟨p, rfl, hp, B⟩
  have An := Lib.hid (A.out.keep B A.out.lt)
  have Zn := Lib.hid (Z.out.keep B Z.out.lt)
  have HBn := Lib.hid (HB.out.trans (B.mono HB.out.size))
  clear A Z HB
  have A := An
  have Z := Zn
  have HB := HBn
  clear An Zn HBn
  have wp : IntKind.i64.wrap ((p : Int) - 999) = (p : Int) - 999 := by simp [IntKind.wrap, IntKind.bits, IntKind.signed]; omega
  (try go_wp2_with fail)
  refine hK.out _ _ ?_ (fun hHeld => ?_)
  ·
   exact hHeld.keep B hHeld.lt
  clear hK K
  (try simp only [Act.put, List.setIfInBounds_toArray, List.set_cons_zero, List.set_cons_succ])
  clear B
  refine tk 3 (oi := ({ dst := some 9, op := .binOp .sub 3 (.tmp 8) (.const (.int .i64 999)) 3, type := 3, pos := "ref.go:237", after := #[⟨2, .data⟩], guard := none } : Oper)) (v := ?v3_5_1_1) ?hy3_5_1_1 ?re3_5_1_1
  case hy3_5_1_1 => ((intro w hSw; have e00 := hSw.c0; have e01 := hSw.c1; go_simp) <;> with_reducible rfl)
  (try simp only [Act.put, List.setIfInBounds_toArray, List.set_cons_zero, List.set_cons_succ])
  refine wpAnyH_ready (rs := [6, 12]) (by kernel_rfl) (by simp) ?_
  refine AllReadyH.cons (o := ({ dst := some 12, op := .call { callee := .value (.func 55), args := #[.tmp 11, .const (.int .i64 60)], argTypes := #[3, 3] }, type := 3, pos := "ref.go:237", after := #[⟨5, .data⟩, ⟨2, .chain⟩], guard := none } : Oper)) rfl (fun K hK => ?_) ?_
  ·
   go_simp
   go_at_call 55
   refine (v4pick_60 x1 _ b1.1 b1.2).mono ?_
   rintro e W1_2 ⟨q, rfl, hq, B⟩
   have An := Lib.hid (A.out.keep B A.out.lt)
   have Zn := Lib.hid (Z.out.keep B Z.out.lt)
   have HBn := Lib.hid (HB.out.trans (B.mono HB.out.size))
   clear A Z HB
   have A := An
   have Z := Zn
   have HB := HBn
   clear An Zn HBn
   have wq : IntKind.i64.wrap (1 + (q : Int)) = 1 + (q : Int) := by simp [IntKind.wrap, IntKind.bits, IntKind.signed]; omega
   have co := fun W => v4Of_R ((p : Int) - 999) (1 + (q : Int)) W (by omega) (by omega) (by omega)
   have hzz := small_of hp hq
   unfold RV at co
   generalize Rat.divInt ((p : Int) - 999) (1 + (q : Int)) = z at co hzz
   have CO := Lib.hid co
   have HZ := Lib.hid hzz
   clear co hzz
   (try go_wp2_with fail)
   refine hK.out _ _ ?_ (fun hHeld => ?_)
   ·
    exact hHeld.keep B hHeld.lt
   clear hK K
   (try simp only [Act.put, List.setIfInBounds_toArray, List.set_cons_zero, List.set_cons_succ])
   clear B
   refine tk 7 (oi := ({ dst := some 13, op := .binOp .add 3 (.const (.int .i64 1)) (.tmp 12) 3, type := 3, pos := "ref.go:237", after := #[⟨6, .data⟩], guard := none } : Oper)) (v := ?v7_6_1_1) ?hy7_6_1_1 ?re7_6_1_1
   case hy7_6_1_1 => ((intro w hSw; have e00 := hSw.c0; have e01 := hSw.c1; go_simp) <;> with_reducible rfl)
   (try simp only [Act.put, List.setIfInBounds_toArray, List.set_cons_zero, List.set_cons_succ])
   refine wpAnyH_ready (rs := [8, 12]) (by kernel_rfl) (by simp) ?_
   refine AllReadyH.cons (o := ({ dst := some 14, op := .call { callee := .value (.func 33), args := #[.tmp 9, .tmp 13], argTypes := #[3, 3] }, type := 36, pos := "ref.go:237", after := #[⟨3, .data⟩, ⟨7, .data⟩, ⟨6, .chain⟩], guard := none } : Oper)) rfl (fun K hK => ?_) ?_
   ·
    go_simp
    go_at_call 33
    refine (CO.out _).mono ?_
    rintro e W1_3 ⟨rfl, B⟩
    have An := Lib.hid (A.out.keep B A.out.lt)
    have Zn := Lib.hid (Z.out.keep B Z.out.lt)
    have HBn := Lib.hid (HB.out.trans (B.mono HB.out.size))
    clear A Z HB
    have A := An
    have Z := Zn
    have HB := HBn
    clear An Zn HBn
    (try go_wp2_with fail)
    refine hK.out _ _ ?_ (fun hHeld => ?_)
    ·
     exact hHeld.keep B hHeld.lt
    clear hK K
    (try simp only [Act.put, List.setIfInBounds_toArray, List.set_cons_zero, List.set_cons_succ])
    clear B
    refine tk 9 (oi := ({ dst := some 5, op := .move (.tmp 14), type := 36, pos := "ref.go:237", after := #[⟨8, .data⟩], guard := none } : Oper)) (v := ?v9_7_1_1) ?hy9_7_1_1 ?re9_7_1_1
    case hy9_7_1_1 => ((intro w hSw; have e00 := hSw.c0; have e01 := hSw.c1; go_simp) <;> with_reducible rfl)
    (try simp only [Act.put, List.setIfInBounds_toArray, List.set_cons_zero, List.set_cons_succ])
    refine tk 10 (oi := ({ dst := some 15, op := .extract (.tmp 5) 0, type := 23, pos := "ref.go:237", after := #[⟨9, .data⟩], guard := none } : Oper)) (v := ?v10_8_1_1) ?hy10_8_1_1 ?re10_8_1_1
    case hy10_8_1_1 => ((intro w hSw; have e00 := hSw.c0; have e01 := hSw.c1; go_simp) <;> with_reducible rfl)
    (try simp only [Act.put, List.setIfInBounds_toArray, List.set_cons_zero, List.set_cons_succ])
    refine tk 11 (oi := ({ dst := some 16, op := .extract (.tmp 5) 1, type := 32, pos := "ref.go:237", after := #[⟨9, .data⟩, ⟨13, .gcOnly .lateStores⟩], guard := none } : Oper)) (v := ?v11_9_1_1) ?hy11_9_1_1 ?re11_9_1_1
    case hy11_9_1_1 => ((intro w hSw; have e00 := hSw.c0; have e01 := hSw.c1; go_simp) <;> with_reducible rfl)
    (try simp only [Act.put, List.setIfInBounds_toArray, List.set_cons_zero, List.set_cons_succ])
    refine wpAnyH_ready (rs := [12]) (by kernel_rfl) (by simp) ?_
    refine AllReadyH.cons (o := ({ dst := some 3, op := .alloc 23, type := 0, pos := "ref.go:237", after := #[], guard := none } : Oper)) rfl (fun K hK => ?_) ?_
    ·
     go_simp
     obtain ⟨WA1_4, hWA1_4⟩ : ∃ W, W = (W1_3.alloc (.cells #[.string ⟨#[]⟩, .string ⟨#[]⟩] 23)) := ⟨_, rfl⟩
     rw [← hWA1_4]
     have V : Hid (RBlk WA1_4 W1_3.heap.size (.string ⟨#[]⟩) (.string ⟨#[]⟩)) := Lib.hid (by rw [hWA1_4]; exact RBlk.new W1_3 (.string ⟨#[]⟩) (.string ⟨#[]⟩))
     have gV : w.heap.size ≤ W1_3.heap.size := HB.out.size
     have neVA : (w.heap.size) ≠ W1_3.heap.size := Nat.ne_of_lt A.out.lt
     have neVZ : (w.heap.size + 1) ≠ W1_3.heap.size := Nat.ne_of_lt Z.out.lt
     have hk : (fun W => PB 25 W (w.heap.size) (.int .i64 x0) (.int .i64 x1)) WA1_4 := by rw [hWA1_4]; exact hHeld.alloc _
     have An : Hid (PB 25 WA1_4 (w.heap.size) (.int .i64 x0) (.int .i64 x1)) := Lib.hid (by rw [hWA1_4]; exact A.out.alloc _)
     have Zn : Hid (RBlk WA1_4 (w.heap.size + 1) (.string ⟨#[]⟩) (.string ⟨#[]⟩)) := Lib.hid (by rw [hWA1_4]; exact Z.out.alloc _)
     have HBn : Hid (Below w.heap.size w WA1_4) := Lib.hid (by rw [hWA1_4]; exact HB.out.alloc HB.out.size _)
     clear A Z HB
     have A := An
     have Z := Zn
     have HB := HBn
     clear An Zn HBn
     clear hWA1_4
     refine hK.out _ _ ?_ (fun hHeld => ?_)
     ·
      exact hk
     clear hK K
     (try simp only [Act.put, List.setIfInBounds_toArray, List.set_cons_zero, List.set_cons_succ])
     clear hk
     refine wpAnyH_ready (rs := [13]) (by kernel_rfl) (by simp) ?_
     refine AllReadyH.cons (o := ({ dst := none, op := .store 23 (.tmp 3) (.tmp 15), type := 0, pos := "ref.go:237", after := #[⟨12, .data⟩, ⟨10, .data⟩, ⟨8, .chain⟩, ⟨0, .phase⟩, ⟨1, .phase⟩, ⟨2, .phase⟩, ⟨3, .phase⟩, ⟨4, .phase⟩, ⟨5, .phase⟩, ⟨6, .phase⟩, ⟨7, .phase⟩, ⟨8, .phase⟩, ⟨9, .phase⟩, ⟨10, .phase⟩, ⟨11, .textOnly .lateStores⟩, ⟨12, .phase⟩], guard := none } : Oper)) rfl (fun K hK => ?_) ?_
     ·
      have c0 := V.out.c0
      have c1 := V.out.c1
      have f0 := V.out.f 0
      have f1 := V.out.f 1
      have hs := V.out.s0 (.string (S z.num))
      have d1 := hs.c1
      have g1 := hs.f 1
      go_simp
      have Vn := Lib.hid (hs.s1 (.string (S (z.den : Int))))
      have An := Lib.hid ((A.out.other ⟨W1_3.heap.size, 0, none⟩ (.string (S z.num)) neVA).other ⟨W1_3.heap.size, 1, none⟩ (.string (S (z.den : Int))) neVA)
      have Zn := Lib.hid ((Z.out.other ⟨W1_3.heap.size, 0, none⟩ (.string (S z.num)) neVZ).other ⟨W1_3.heap.size, 1, none⟩ (.string (S (z.den : Int))) neVZ)
      have HBn := Lib.hid ((HB.out.setCell (p := ⟨W1_3.heap.size, 0, none⟩) gV (.string (S z.num))).setCell (p := ⟨W1_3.heap.size, 1, none⟩) gV (.string (S (z.den : Int))))
      clear hs c0 c1 f0 f1 d1 g1
      clear V A Z HB
      have V := Vn
      have A := An
      have Z := Zn
      have HB := HBn
      clear Vn An Zn HBn
      refine hK.out _ _ ?_ (fun hHeld => ?_)
      ·
       exact (hHeld.other ⟨W1_3.heap.size, 0, none⟩ (.string (S z.num)) neVA).other ⟨W1_3.heap.size, 1, none⟩ (.string (S (z.den : Int))) neVA
      clear hK K
      (try simp only [Act.put, List.setIfInBounds_toArray, List.set_cons_zero, List.set_cons_succ])
      refine tk 14 (oi := ({ dst := some 4, op := .assign (.tmp 16), type := 32, pos := "ref.go:237", after := #[⟨11, .data⟩, ⟨13, .chain⟩, ⟨0, .phase⟩, ⟨1, .phase⟩, ⟨2, .phase⟩, ⟨3, .phase⟩, ⟨4, .phase⟩, ⟨5, .phase⟩, ⟨6, .phase⟩, ⟨7, .phase⟩, ⟨8, .phase⟩, ⟨9, .phase⟩, ⟨10, .phase⟩, ⟨11, .phase⟩, ⟨12, .phase⟩, ⟨13, .phase⟩], guard := none } : Oper)) (v := ?v14_10_1_1) ?hy14_10_1_1 ?re14_10_1_1
      case hy14_10_1_1 => ((intro w hSw; have e00 := hSw.c0; have e01 := hSw.c1; go_simp) <;> with_reducible rfl)
      (try simp only [Act.put, List.setIfInBounds_toArray, List.set_cons_zero, List.set_cons_succ])
      refine wpAnyH_done (by kernel_rfl) ?_ _
      refine NoPanic.normal ?_
      have v0 := V.out.c0
      have v1 := V.out.c1
      have c0 := Z.out.c0
      have c1 := Z.out.c1
      have f0 := Z.out.f 0
      have f1 := Z.out.f 1
      have hs := Z.out.s0 (.string (S z.num))
      have d1 := hs.c1
      have g1 := hs.f 1
      have HS := Lib.hid (hs.s1 (.string (S (z.den : Int))))
      have HBS := Lib.hid ((HB.out.setCell (p := ⟨w.heap.size + 1, 0, none⟩) (by show w.heap.size ≤ w.heap.size + 1; omega) (.string (S z.num))).setCell (p := ⟨w.heap.size + 1, 1, none⟩) (by show w.heap.size ≤ w.heap.size + 1; omega) (.string (S (z.den : Int))))
      clear hs
      go_wp2_with fail
      refine bodyPost_ret (results_ratio1 rfl _ _ (w.heap.size + 1) _ _ rfl HS.out) rfl ?_
      exact ⟨z, rfl, HZ.out, HBS.out⟩
     exact AllReadyH.nil
    exact AllReadyH.nil
   refine AllReadyH.cons (o := ({ dst := some 3, op := .alloc 23, type := 0, pos := "ref.go:237", after := #[], guard := none } : Oper)) rfl (fun K hK => ?_) ?_
   ·
    go_simp
    obtain ⟨WA1_6, hWA1_6⟩ : ∃ W, W = (W1_2.alloc (.cells #[.string ⟨#[]⟩, .string ⟨#[]⟩] 23)) := ⟨_, rfl⟩
    rw [← hWA1_6]
    have V : Hid (RBlk WA1_6 W1_2.heap.size (.string ⟨#[]⟩) (.string ⟨#[]⟩)) := Lib.hid (by rw [hWA1_6]; exact RBlk.new W1_2 (.string ⟨#[]⟩) (.string ⟨#[]⟩))
    have gV : w.heap.size ≤ W1_2.heap.size := HB.out.size
    have neVA : (w.heap.size) ≠ W1_2.heap.size := Nat.ne_of_lt A.out.lt
    have neVZ : (w.heap.size + 1) ≠ W1_2.heap.size := Nat.ne_of_lt Z.out.lt
    have hk : (fun W => PB 25 W (w.heap.size) (.int .i64 x0) (.int .i64 x1)) WA1_6 := by rw [hWA1_6]; exact hHeld.alloc _
    have An : Hid (PB 25 WA1_6 (w.heap.size) (.int .i64 x0) (.int .i64 x1)) := Lib.hid (by rw [hWA1_6]; exact A.out.alloc _)
    have Zn : Hid (RBlk WA1_6 (w.heap.size + 1) (.string ⟨#[]⟩) (.string ⟨#[]⟩)) := Lib.hid (by rw [hWA1_6]; exact Z.out.alloc _)
    have HBn : Hid (Below w.heap.size w WA1_6) := Lib.hid (by rw [hWA1_6]; exact HB.out.alloc HB.out.size _)
    clear A Z HB
    have A := An
    have Z := Zn
    have HB := HBn
    clear An Zn HBn
    clear hWA1_6
    refine hK.out _ _ ?_ (fun hHeld => ?_)
    ·
     exact hk
    clear hK K
    (try simp only [Act.put, List.setIfInBounds_toArray, List.set_cons_zero, List.set_cons_succ])
    clear hk
    refine wpAnyH_ready (rs := [8]) (by kernel_rfl) (by simp) ?_
    refine AllReadyH.cons (o := ({ dst := some 14, op := .call { callee := .value (.func 33), args := #[.tmp 9, .tmp 13], argTypes := #[3, 3] }, type := 36, pos := "ref.go:237", after := #[⟨3, .data⟩, ⟨7, .data⟩, ⟨6, .chain⟩], guard := none } : Oper)) rfl (fun K hK => ?_) ?_
    ·
     go_simp
     go_at_call 33
     refine (CO.out _).mono ?_
     rintro e W1_7 ⟨rfl, B⟩
     have An := Lib.hid (A.out.keep B A.out.lt)
     have Zn := Lib.hid (Z.out.keep B Z.out.lt)
     have Vn := Lib.hid (V.out.keep B V.out.lt)
     have HBn := Lib.hid (HB.out.trans (B.mono HB.out.size))
     clear A Z V HB
     have A := An
     have Z := Zn
     have V := Vn
     have HB := HBn
     clear An Zn Vn HBn
     (try go_wp2_with fail)
     refine hK.out _ _ ?_ (fun hHeld => ?_)
     ·
      exact hHeld.keep B hHeld.lt
     clear hK K
     (try simp only [Act.put, List.setIfInBounds_toArray, List.set_cons_zero, List.set_cons_succ])
     clear B
     refine tk 9 (oi := ({ dst := some 5, op := .move (.tmp 14), type := 36, pos := "ref.go:237", after := #[⟨8, .data⟩], guard := none } : Oper)) (v := ?v9_11_1_1) ?hy9_11_1_1 ?re9_11_1_1
     case hy9_11_1_1 => ((intro w hSw; have e00 := hSw.c0; have e01 := hSw.c1; go_simp) <;> with_reducible rfl)
     (try simp only [Act.put, List.setIfInBounds_toArray, List.set_cons_zero, List.set_cons_succ])
     refine tk 10 (oi := ({ dst := some 15, op := .extract (.tmp 5) 0, type := 23, pos := "ref.go:237", after := #[⟨9, .data⟩], guard := none } : Oper)) (v := ?v10_12_1_1) ?hy10_12_1_1 ?re10_12_1_1
     case hy10_12_1_1 => ((intro w hSw; have e00 := hSw.c0; have e01 := hSw.c1; go_simp) <;> with_reducible rfl)
     (try simp only [Act.put, List.setIfInBounds_toArray, List.set_cons_zero, List.set_cons_succ])
     refine tk 11 (oi := ({ dst := some 16, op := .extract (.tmp 5) 1, type := 32, pos := "ref.go:237", after := #[⟨9, .data⟩, ⟨13, .gcOnly .lateStores⟩], guard := none } : Oper)) (v := ?v11_13_1_1) ?hy11_13_1_1 ?re11_13_1_1
     case hy11_13_1_1 => ((intro w hSw; have e00 := hSw.c0; have e01 := hSw.c1; go_simp) <;> with_reducible rfl)
     (try simp only [Act.put, List.setIfInBounds_toArray, List.set_cons_zero, List.set_cons_succ])
     refine wpAnyH_ready (rs := [13]) (by kernel_rfl) (by simp) ?_
     refine AllReadyH.cons (o := ({ dst := none, op := .store 23 (.tmp 3) (.tmp 15), type := 0, pos := "ref.go:237", after := #[⟨12, .data⟩, ⟨10, .data⟩, ⟨8, .chain⟩, ⟨0, .phase⟩, ⟨1, .phase⟩, ⟨2, .phase⟩, ⟨3, .phase⟩, ⟨4, .phase⟩, ⟨5, .phase⟩, ⟨6, .phase⟩, ⟨7, .phase⟩, ⟨8, .phase⟩, ⟨9, .phase⟩, ⟨10, .phase⟩, ⟨11, .textOnly .lateStores⟩, ⟨12, .phase⟩], guard := none } : Oper)) rfl (fun K hK => ?_) ?_
     ·
      have c0 := V.out.c0
      have c1 := V.out.c1
      have f0 := V.out.f 0
      have f1 := V.out.f 1
      have hs := V.out.s0 (.string (S z.num))
      have d1 := hs.c1
      have g1 := hs.f 1
      go_simp
      have Vn := Lib.hid (hs.s1 (.string (S (z.den : Int))))
      have An := Lib.hid ((A.out.other ⟨W1_2.heap.size, 0, none⟩ (.string (S z.num)) neVA).other ⟨W1_2.heap.size, 1, none⟩ (.string (S (z.den : Int))) neVA)
      have Zn := Lib.hid ((Z.out.other ⟨W1_2.heap.size, 0, none⟩ (.string (S z.num)) neVZ).other ⟨W1_2.heap.size, 1, none⟩ (.string (S (z.den : Int))) neVZ)
      have HBn := Lib.hid ((HB.out.setCell (p := ⟨W1_2.heap.size, 0, none⟩) gV (.string (S z.num))).setCell (p := ⟨W1_2.heap.size, 1, none⟩) gV (.string (S (z.den : Int))))
      clear hs c0 c1 f0 f1 d1 g1
      clear V A Z HB
      have V := Vn
      have A := An
      have Z := Zn
      have HB := HBn
      clear Vn An Zn HBn
      refine hK.out _ _ ?_ (fun hHeld => ?_)
      ·
       exact (hHeld.other ⟨W1_2.heap.size, 0, none⟩ (.string (S z.num)) neVA).other ⟨W1_2.heap.size, 1, none⟩ (.string (S (z.den : Int))) neVA
      clear hK K
      (try simp only [Act.put, List.setIfInBounds_toArray, List.set_cons_zero, List.set_cons_succ])
      refine tk 14 (oi := ({ dst := some 4, op := .assign (.tmp 16), type := 32, pos := "ref.go:237", after := #[⟨11, .data⟩, ⟨13, .chain⟩, ⟨0, .phase⟩, ⟨1, .phase⟩, ⟨2, .phase⟩, ⟨3, .phase⟩, ⟨4, .phase⟩, ⟨5, .phase⟩, ⟨6, .phase⟩, ⟨7, .phase⟩, ⟨8, .phase⟩, ⟨9, .phase⟩, ⟨10, .phase⟩, ⟨11, .phase⟩, ⟨12, .phase⟩, ⟨13, .phase⟩], guard := none } : Oper)) (v := ?v14_14_1_1) ?hy14_14_1_1 ?re14_14_1_1
      case hy14_14_1_1 => ((intro w hSw; have e00 := hSw.c0; have e01 := hSw.c1; go_simp) <;> with_reducible rfl)
      (try simp only [Act.put, List.setIfInBounds_toArray, List.set_cons_zero, List.set_cons_succ])
      refine wpAnyH_done (by kernel_rfl) ?_ _
      refine NoPanic.normal ?_
      have v0 := V.out.c0
      have v1 := V.out.c1
      have c0 := Z.out.c0
      have c1 := Z.out.c1
      have f0 := Z.out.f 0
      have f1 := Z.out.f 1
      have hs := Z.out.s0 (.string (S z.num))
      have d1 := hs.c1
      have g1 := hs.f 1
      have HS := Lib.hid (hs.s1 (.string (S (z.den : Int))))
      have HBS := Lib.hid ((HB.out.setCell (p := ⟨w.heap.size + 1, 0, none⟩) (by show w.heap.size ≤ w.heap.size + 1; omega) (.string (S z.num))).setCell (p := ⟨w.heap.size + 1, 1, none⟩) (by show w.heap.size ≤ w.heap.size + 1; omega) (.string (S (z.den : Int))))
      clear hs
      go_wp2_with fail
      refine bodyPost_ret (results_ratio1 rfl _ _ (w.heap.size + 1) _ _ rfl HS.out) rfl ?_
      exact ⟨z, rfl, HZ.out, HBS.out⟩
     exact AllReadyH.nil
    exact AllReadyH.nil
   exact AllReadyH.nil
  refine AllReadyH.cons (o := ({ dst := some 3, op := .alloc 23, type := 0, pos := "ref.go:237", after := #[], guard := none } : Oper)) rfl (fun K hK => ?_) ?_
  ·
   go_simp
   obtain ⟨WA1_9, hWA1_9⟩ : ∃ W, W = (W1_1.alloc (.cells #[.string ⟨#[]⟩, .string ⟨#[]⟩] 23)) := ⟨_, rfl⟩
   rw [← hWA1_9]
   have V : Hid (RBlk WA1_9 W1_1.heap.size (.string ⟨#[]⟩) (.string ⟨#[]⟩)) := Lib.hid (by rw [hWA1_9]; exact RBlk.new W1_1 (.string ⟨#[]⟩) (.string ⟨#[]⟩))
   have gV : w.heap.size ≤ W1_1.heap.size := HB.out.size
   have neVA : (w.heap.size) ≠ W1_1.heap.size := Nat.ne_of_lt A.out.lt
   have neVZ : (w.heap.size + 1) ≠ W1_1.heap.size := Nat.ne_of_lt Z.out.lt
   have hk : (fun W => PB 25 W (w.heap.size) (.int .i64 x0) (.int .i64 x1)) WA1_9 := by rw [hWA1_9]; exact hHeld.alloc _
   have An : Hid (PB 25 WA1_9 (w.heap.size) (.int .i64 x0) (.int .i64 x1)) := Lib.hid (by rw [hWA1_9]; exact A.out.alloc _)
   have Zn : Hid (RBlk WA1_9 (w.heap.size + 1) (.string ⟨#[]⟩) (.string ⟨#[]⟩)) := Lib.hid (by rw [hWA1_9]; exact Z.out.alloc _)
   have HBn : Hid (Below w.heap.size w WA1_9) := Lib.hid (by rw [hWA1_9]; exact HB.out.alloc HB.out.size _)
   clear A Z HB
   have A := An
   have Z := Zn
   have HB := HBn
   clear An Zn HBn
   clear hWA1_9
   refine hK.out _ _ ?_ (fun hHeld => ?_)
   ·
    exact hk
   clear hK K
   (try simp only [Act.put, List.setIfInBounds_toArray, List.set_cons_zero, List.set_cons_succ])
   clear hk
   refine wpAnyH_ready (rs := [6]) (by kernel_rfl) (by simp) ?_
   refine AllReadyH.cons (o := ({ dst := some 12, op := .call { callee := .value (.func 55), args := #[.tmp 11, .const (.int .i64 60)], argTypes := #[3, 3] }, type := 3, pos := "ref.go:237", after := #[⟨5, .data⟩, ⟨2, .chain⟩], guard := none } : Oper)) rfl (fun K hK => ?_) ?_
   ·
    go_simp
    go_at_call 55
    refine (v4pick_60 x1 _ b1.1 b1.2).mono ?_
    rintro e W1_10 ⟨q, rfl, hq, B⟩
    have An := Lib.hid (A.out.keep B A.out.lt)
    have Zn := Lib.hid (Z.out.keep B Z.out.lt)
    have Vn := Lib.hid (V.out.keep B V.out.lt)
    have HBn := Lib.hid (HB.out.trans (B.mono HB.out.size))
    clear A Z V HB
    have A := An
    have Z := Zn
    have V := Vn
    have HB := HBn
    clear An Zn Vn HBn
    have wq : IntKind.i64.wrap (1 + (q : Int)) = 1 + (q : Int) := by simp [IntKind.wrap, IntKind.bits, IntKind.signed]; omega
    have co := fun W => v4Of_R ((p : Int) - 999) (1 + (q : Int)) W (by omega) (by omega) (by omega)
    have hzz := small_of hp hq
    unfold RV at co
    generalize Rat.divInt ((p : Int) - 999) (1 + (q : Int)) = z at co hzz
    have CO := Lib.hid co
    have HZ := Lib.hid hzz
    clear co hzz
    (try go_wp2_with fail)
    refine hK.out _ _ ?_ (fun hHeld => ?_)
    ·
     exact hHeld.keep B hHeld.lt
    clear hK K
    (try simp only [Act.put, List.setIfInBounds_toArray, List.set_cons_zero, List.set_cons_succ])
    clear B
    refine tk 7 (oi := ({ dst := some 13, op := .binOp .add 3 (.const (.int .i64 1)) (.tmp 12) 3, type := 3, pos := "ref.go:237", after := #[⟨6, .data⟩], guard := none } : Oper)) (v := ?v7_15_1_1) ?hy7_15_1_1 ?re7_15_1_1
    case hy7_15_1_1 => ((intro w hSw; have e00 := hSw.c0; have e01 := hSw.c1; go_simp) <;> with_reducible rfl)
    (try simp only [Act.put, List.setIfInBounds_toArray, List.set_cons_zero, List.set_cons_succ])
    refine wpAnyH_ready (rs := [8]) (by kernel_rfl) (by simp) ?_
    refine AllReadyH.cons (o := ({ dst := some 14, op := .call { callee := .value (.func 33), args := #[.tmp 9, .tmp 13], argTypes := #[3, 3] }, type := 36, pos := "ref.go:237", after := #[⟨3, .data⟩, ⟨7, .data⟩, ⟨6, .chain⟩], guard := none } : Oper)) rfl (fun K hK => ?_) ?_
    ·
     go_simp
     go_at_call 33
     refine (CO.out _).mono ?_
     rintro e W1_11 ⟨rfl, B⟩
     have An := Lib.hid (A.out.keep B A.out.lt)
     have Zn := Lib.hid (Z.out.keep B Z.out.lt)
     have Vn := Lib.hid (V.out.keep B V.out.lt)
     have HBn := Lib.hid (HB.out.trans (B.mono HB.out.size))
     clear A Z V HB
     have A := An
     have Z := Zn
     have V := Vn
     have HB := HBn
     clear An Zn Vn HBn
     (try go_wp2_with fail)
     refine hK.out _ _ ?_ (fun hHeld => ?_)
     ·
      exact hHeld.keep B hHeld.lt
     clear hK K
     (try simp only [Act.put, List.setIfInBounds_toArray, List.set_cons_zero, List.set_cons_succ])
     clear B
     refine tk 9 (oi := ({ dst := some 5, op := .move (.tmp 14), type := 36, pos := "ref.go:237", after := #[⟨8, .data⟩], guard := none } : Oper)) (v := ?v9_16_1_1) ?hy9_16_1_1 ?re9_16_1_1
     case hy9_16_1_1 => ((intro w hSw; have e00 := hSw.c0; have e01 := hSw.c1; go_simp) <;> with_reducible rfl)
     (try simp only [Act.put, List.setIfInBounds_toArray, List.set_cons_zero, List.set_cons_succ])
     refine tk 10 (oi := ({ dst := some 15, op := .extract (.tmp 5) 0, type := 23, pos := "ref.go:237", after := #[⟨9, .data⟩], guard := none } : Oper)) (v := ?v10_17_1_1) ?hy10_17_1_1 ?re10_17_1_1
     case hy10_17_1_1 => ((intro w hSw; have e00 := hSw.c0; have e01 := hSw.c1; go_simp) <;> with_reducible rfl)
     (try simp only [Act.put, List.setIfInBounds_toArray, List.set_cons_zero, List.set_cons_succ])
     refine tk 11 (oi := ({ dst := some 16, op := .extract (.tmp 5) 1, type := 32, pos := "ref.go:237", after := #[⟨9, .data⟩, ⟨13, .gcOnly .lateStores⟩], guard := none } : Oper)) (v := ?v11_18_1_1) ?hy11_18_1_1 ?re11_18_1_1
     case hy11_18_1_1 => ((intro w hSw; have e00 := hSw.c0; have e01 := hSw.c1; go_simp) <;> with_reducible rfl)
     (try simp only [Act.put, List.setIfInBounds_toArray, List.set_cons_zero, List.set_cons_succ])
     refine wpAnyH_ready (rs := [13]) (by kernel_rfl) (by simp) ?_
     refine AllReadyH.cons (o := ({ dst := none, op := .store 23 (.tmp 3) (.tmp 15), type := 0, pos := "ref.go:237", after := #[⟨12, .data⟩, ⟨10, .data⟩, ⟨8, .chain⟩, ⟨0, .phase⟩, ⟨1, .phase⟩, ⟨2, .phase⟩, ⟨3, .phase⟩, ⟨4, .phase⟩, ⟨5, .phase⟩, ⟨6, .phase⟩, ⟨7, .phase⟩, ⟨8, .phase⟩, ⟨9, .phase⟩, ⟨10, .phase⟩, ⟨11, .textOnly .lateStores⟩, ⟨12, .phase⟩], guard := none } : Oper)) rfl (fun K hK => ?_) ?_
     ·
      have c0 := V.out.c0
      have c1 := V.out.c1
      have f0 := V.out.f 0
      have f1 := V.out.f 1
      have hs := V.out.s0 (.string (S z.num))
      have d1 := hs.c1
      have g1 := hs.f 1
      go_simp
      have Vn := Lib.hid (hs.s1 (.string (S (z.den : Int))))
      have An := Lib.hid ((A.out.other ⟨W1_1.heap.size, 0, none⟩ (.string (S z.num)) neVA).other ⟨W1_1.heap.size, 1, none⟩ (.string (S (z.den : Int))) neVA)
      have Zn := Lib.hid ((Z.out.other ⟨W1_1.heap.size, 0, none⟩ (.string (S z.num)) neVZ).other ⟨W1_1.heap.size, 1, none⟩ (.string (S (z.den : Int))) neVZ)
      have HBn := Lib.hid ((HB.out.setCell (p := ⟨W1_1.heap.size, 0, none⟩) gV (.string (S z.num))).setCell (p := ⟨W1_1.heap.size, 1, none⟩) gV (.string (S (z.den : Int))))
      clear hs c0 c1 f0 f1 d1 g1
      clear V A Z HB
      have V := Vn
      have A := An
      have Z := Zn
      have HB := HBn
      clear Vn An Zn HBn
      refine hK.out _ _ ?_ (fun hHeld => ?_)
      ·
       exact (hHeld.other ⟨W1_1.heap.size, 0, none⟩ (.string (S z.num)) neVA).other ⟨W1_1.heap.size, 1, none⟩ (.string (S (z.den : Int))) neVA
      clear hK K
      (try simp only [Act.put, List.setIfInBounds_toArray, List.set_cons_zero, List.set_cons_succ])
      refine tk 14 (oi := ({ dst := some 4, op := .assign (.tmp 16), type := 32, pos := "ref.go:237", after := #[⟨11, .data⟩, ⟨13, .chain⟩, ⟨0, .phase⟩, ⟨1, .phase⟩, ⟨2, .phase⟩, ⟨3, .phase⟩, ⟨4, .phase⟩, ⟨5, .phase⟩, ⟨6, .phase⟩, ⟨7, .phase⟩, ⟨8, .phase⟩, ⟨9, .phase⟩, ⟨10, .phase⟩, ⟨11, .phase⟩, ⟨12, .phase⟩, ⟨13, .phase⟩], guard := none } : Oper)) (v := ?v14_19_1_1) ?hy14_19_1_1 ?re14_19_1_1
      case hy14_19_1_1 => ((intro w hSw; have e00 := hSw.c0; have e01 := hSw.c1; go_simp) <;> with_reducible rfl)
      (try simp only [Act.put, List.setIfInBounds_toArray, List.set_cons_zero, List.set_cons_succ])
      refine wpAnyH_done (by kernel_rfl) ?_ _
      refine NoPanic.normal ?_
      have v0 := V.out.c0
      have v1 := V.out.c1
      have c0 := Z.out.c0
      have c1 := Z.out.c1
      have f0 := Z.out.f 0
      have f1 := Z.out.f 1
      have hs := Z.out.s0 (.string (S z.num))
      have d1 := hs.c1
      have g1 := hs.f 1
      have HS := Lib.hid (hs.s1 (.string (S (z.den : Int))))
      have HBS := Lib.hid ((HB.out.setCell (p := ⟨w.heap.size + 1, 0, none⟩) (by show w.heap.size ≤ w.heap.size + 1; omega) (.string (S z.num))).setCell (p := ⟨w.heap.size + 1, 1, none⟩) (by show w.heap.size ≤ w.heap.size + 1; omega) (.string (S (z.den : Int))))
      clear hs
      go_wp2_with fail
      refine bodyPost_ret (results_ratio1 rfl _ _ (w.heap.size + 1) _ _ rfl HS.out) rfl ?_
      exact ⟨z, rfl, HZ.out, HBS.out⟩
     exact AllReadyH.nil
    exact AllReadyH.nil
   exact AllReadyH.nil
  exact AllReadyH.nil
 refine AllReadyH.cons (o := ({ dst := some 3, op := .alloc 23, type := 0, pos := "ref.go:237", after := #[], guard := none } : Oper)) rfl (fun K hK => ?_) ?_
 ·
  go_simp
  obtain ⟨WA1_13, hWA1_13⟩ : ∃ W, W = (W01.alloc (.cells #[.string ⟨#[]⟩, .string ⟨#[]⟩] 23)).drew := ⟨_, rfl⟩
  rw [← hWA1_13]
  have V : Hid (RBlk WA1_13 W01.heap.size (.string ⟨#[]⟩) (.string ⟨#[]⟩)) := Lib.hid (by rw [hWA1_13]; exact RBlk.new W01 (.string ⟨#[]⟩) (.string ⟨#[]⟩))
  have gV : w.heap.size ≤ W01.heap.size := HB.out.size
  have neVA : (w.heap.size) ≠ W01.heap.size := Nat.ne_of_lt A.out.lt
  have neVZ : (w.heap.size + 1) ≠ W01.heap.size := Nat.ne_of_lt Z.out.lt
  have hk : (fun W => PB 25 W (w.heap.size) (.int .i64 x0) (.int .i64 x1)) WA1_13 := by rw [hWA1_13]; exact hHeld.alloc _
  have An : Hid (PB 25 WA1_13 (w.heap.size) (.int .i64 x0) (.int .i64 x1)) := Lib.hid (by rw [hWA1_13]; exact A.out.alloc _)
  have Zn : Hid (RBlk WA1_13 (w.heap.size + 1) (.string ⟨#[]⟩) (.string ⟨#[]⟩)) := Lib.hid (by rw [hWA1_13]; exact Z.out.alloc _)
  have HBn : Hid (Below w.heap.size w WA1_13) := Lib.hid (by rw [hWA1_13]; exact HB.out.alloc HB.out.size _)
  clear A Z HB
  have A := An
  have Z := Zn
  have HB := HBn
  clear An Zn HBn
  clear hWA1_13
  refine hK.out _ _ ?_ (fun hHeld => ?_)
  ·
   exact hk
  clear hK K
  (try simp only [Act.put, List.setIfInBounds_toArray, List.set_cons_zero, List.set_cons_succ])
  clear hk
  refine wpAnyH_ready (rs := [2]) (by kernel_rfl) (by simp) ?_
  refine AllReadyH.cons (o := ({ dst := some 8, op := .call { callee := .value (.func 55), args := #[.tmp 7, .const (.int .i64 1999)], argTypes := #[3, 3] }, type := 3, pos := "ref.go:237", after := #[⟨1, .data⟩], guard := none } : Oper)) rfl (fun K hK => ?_) ?_
  ·
   go_simp
   go_at_call 55
   refine (v4pick_1999 x0 _ b0.1 b0.2).mono ?_
   rintro e W1_14 ⟨p, rfl, hp, B⟩
   have An := Lib.hid (A.out.keep B A.out.lt)
   have Zn := Lib.hid (Z.out.keep B Z.out.lt)
   have Vn := Lib.hid (V.out.keep B V.out.lt)
   have HBn := Lib.hid (HB.out.trans (B.mono HB.out.size))
   clear A Z V HB
   have A := An
   have Z := Zn
   have V := Vn
   have HB := HBn
   clear An Zn Vn HBn
   have wp : IntKind.i64.wrap ((p : Int) - 999) = (p : Int) - 999 := by simp [IntKind.wrap, IntKind.bits, IntKind.signed]; omega
   (try go_wp2_with fail)
   refine hK.out _ _ ?_ (fun hHeld => ?_)
   ·
    exact hHeld.keep B hHeld.lt
   clear hK K
   (try simp only [Act.put, List.setIfInBounds_toArray, List.set_cons_zero, List.set_cons_succ])
   clear B
   refine tk 3 (oi := ({ dst := some 9, op := .binOp .sub 3 (.tmp 8) (.const (.int .i64 999)) 3, type := 3, pos := "ref.go:237", after := #[⟨2, .data⟩], guard := none } : Oper)) (v := ?v3_20_1_1) ?hy3_20_1_1 ?re3_20_1_1
   case hy3_20_1_1 => ((intro w hSw; have e00 := hSw.c0; have e01 := hSw.c1; go_simp) <;> with_reducible rfl)
   (try simp only [Act.put, List.setIfInBounds_toArray, List.set_cons_zero, List.set_cons_succ])
   refine wpAnyH_ready (rs := [6]) (by kernel_rfl) (by simp) ?_
   refine AllReadyH.cons (o := ({ dst := some 12, op := .call { callee := .value (.func 55), args := #[.tmp 11, .const (.int .i64 60)], argTypes := #[3, 3] }, type := 3, pos := "ref.go:237", after := #[⟨5, .data⟩, ⟨2, .chain⟩], guard := none } : Oper)) rfl (fun K hK => ?_) ?_
   ·
    go_simp
    go_at_call 55
    refine (v4pick_60 x1 _ b1.1 b1.2).mono ?_
    rintro e W1_15 ⟨q, rfl, hq, B⟩
    have An := Lib.hid (A.out.keep B A.out.lt)
    have Zn := Lib.hid (Z.out.keep B Z.out.lt)
    have Vn := Lib.hid (V.out.keep B V.out.lt)
    have HBn := Lib.hid (HB.out.trans (B.mono HB.out.size))
    clear A Z V HB
    have A := An
    have Z := Zn
    have V := Vn
    have HB := HBn
    clear An Zn Vn HBn
    have wq : IntKind.i64.wrap (1 + (q : Int)) = 1 + (q : Int) := by simp [IntKind.wrap, IntKind.bits, IntKind.signed]; omega
    have co := fun W => v4Of_R ((p : Int) - 999) (1 + (q : Int)) W (by omega) (by omega) (by omega)
    have hzz := small_of hp hq
    unfold RV at co
    generalize Rat.divInt ((p : Int) - 999) (1 + (q : Int)) = z at co hzz
    have CO := Lib.hid co
    have HZ := Lib.hid hzz
    clear co hzz
    (try go_wp2_with fail)
    refine hK.out _ _ ?_ (fun hHeld => ?_)
    ·
     exact hHeld.keep B hHeld.lt
    clear hK K
    (try simp only [Act.put, List.setIfInBounds_toArray, List.set_cons_zero, List.set_cons_succ])
    clear B
    refine tk 7 (oi := ({ dst := some 13, op := .binOp .add 3 (.const (.int .i64 1)) (.tmp 12) 3, type := 3, pos := "ref.go:237", after := #[⟨6, .data⟩], guard := none } : Oper)) (v := ?v7_21_1_1) ?hy7_21_1_1 ?re7_21_1_1
    case hy7_21_1_1 => ((intro w hSw; have e00 := hSw.c0; have e01 := hSw.c1; go_simp) <;> with_reducible rfl)
    (try simp only [Act.put, List.setIfInBounds_toArray, List.set_cons_zero, List.set_cons_succ])
    refine wpAnyH_ready (rs := [8]) (by kernel_rfl) (by simp) ?_
    refine AllReadyH.cons (o := ({ dst := some 14, op := .call { callee := .value (.func 33), args := #[.tmp 9, .tmp 13], argTypes := #[3, 3] }, type := 36, pos := "ref.go:237", after := #[⟨3, .data⟩, ⟨7, .data⟩, ⟨6, .chain⟩], guard := none } : Oper)) rfl (fun K hK => ?_) ?_
    ·
     go_simp
     go_at_call 33
     refine (CO.out _).mono ?_
     rintro e W1_16 ⟨rfl, B⟩
     have An := Lib.hid (A.out.keep B A.out.lt)
     have Zn := Lib.hid (Z.out.keep B Z.out.lt)
     have Vn := Lib.hid (V.out.keep B V.out.lt)
     have HBn := Lib.hid (HB.out.trans (B.mono HB.out.size))
     clear A Z V HB
     have A := An
     have Z := Zn
     have V := Vn
     have HB := HBn
     clear An Zn Vn HBn
     (try go_wp2_with fail)
     refine hK.out _ _ ?_ (fun hHeld => ?_)
     ·
      exact hHeld.keep B hHeld.lt
     clear hK K
     (try simp only [Act.put, List.setIfInBounds_toArray, List.set_cons_zero, List.set_cons_succ])
     clear B
     refine tk 9 (oi := ({ dst := some 5, op := .move (.tmp 14), type := 36, pos := "ref.go:237", after := #[⟨8, .data⟩], guard := none } : Oper)) (v := ?v9_22_1_1) ?hy9_22_1_1 ?re9_22_1_1
     case hy9_22_1_1 => ((intro w hSw; have e00 := hSw.c0; have e01 := hSw.c1; go_simp) <;> with_reducible rfl)
     (try simp only [Act.put, List.setIfInBounds_toArray, List.set_cons_zero, List.set_cons_succ])
     refine tk 10 (oi := ({ dst := some 15, op := .extract (.tmp 5) 0, type := 23, pos := "ref.go:237", after := #[⟨9, .data⟩], guard := none } : Oper)) (v := ?v10_23_1_1) ?hy10_23_1_1 ?re10_23_1_1
     case hy10_23_1_1 => ((intro w hSw; have e00 := hSw.c0; have e01 := hSw.c1; go_simp) <;> with_reducible rfl)
     (try simp only [Act.put, List.setIfInBounds_toArray, List.set_cons_zero, List.set_cons_succ])
     refine tk 11 (oi := ({ dst := some 16, op := .extract (.tmp 5) 1, type := 32, pos := "ref.go:237", after := #[⟨9, .data⟩, ⟨13, .gcOnly .lateStores⟩], guard := none } : Oper)) (v := ?v11_24_1_1) ?hy11_24_1_1 ?re11_24_1_1
     case hy11_24_1_1 => ((intro w hSw; have e00 := hSw.c0; have e01 := hSw.c1; go_simp) <;> with_reducible rfl)
     (try simp only [Act.put, List.setIfInBounds_toArray, List.set_cons_zero, List.set_cons_succ])
     refine wpAnyH_ready (rs := [13]) (by kernel_rfl) (by simp) ?_
     refine AllReadyH.cons (o := ({ dst := none, op := .store 23 (.tmp 3) (.tmp 15), type := 0, pos := "ref.go:237", after := #[⟨12, .data⟩, ⟨10, .data⟩, ⟨8, .chain⟩, ⟨0, .phase⟩, ⟨1, .phase⟩, ⟨2, .phase⟩, ⟨3, .phase⟩, ⟨4, .phase⟩, ⟨5, .phase⟩, ⟨6, .phase⟩, ⟨7, .phase⟩, ⟨8, .phase⟩, ⟨9, .phase⟩, ⟨10, .phase⟩, ⟨11, .textOnly .lateStores⟩, ⟨12, .phase⟩], guard := none } : Oper)) rfl (fun K hK => ?_) ?_
     ·
      have c0 := V.out.c0
      have c1 := V.out.c1
      have f0 := V.out.f 0
      have f1 := V.out.f 1
      have hs := V.out.s0 (.string (S z.num))
      have d1 := hs.c1
      have g1 := hs.f 1
      go_simp
      have Vn := Lib.hid (hs.s1 (.string (S (z.den : Int))))
      have An := Lib.hid ((A.out.other ⟨W01.heap.size, 0, none⟩ (.string (S z.num)) neVA).other ⟨W01.heap.size, 1, none⟩ (.string (S (z.den : Int))) neVA)
      have Zn := Lib.hid ((Z.out.other ⟨W01.heap.size, 0, none⟩ (.string (S z.num)) neVZ).other ⟨W01.heap.size, 1, none⟩ (.string (S (z.den : Int))) neVZ)
      have HBn := Lib.hid ((HB.out.setCell (p := ⟨W01.heap.size, 0, none⟩) gV (.string (S z.num))).setCell (p := ⟨W01.heap.size, 1, none⟩) gV (.string (S (z.den : Int))))
      clear hs c0 c1 f0 f1 d1 g1
      clear V A Z HB
      have V := Vn
      have A := An
      have Z := Zn
      have HB := HBn
      clear Vn An Zn HBn
      refine hK.out _ _ ?_ (fun hHeld => ?_)
      ·
       exact (hHeld.other ⟨W01.heap.size, 0, none⟩ (.string (S z.num)) neVA).other ⟨W01.heap.size, 1, none⟩ (.string (S (z.den : Int))) neVA
      clear hK K
      (try simp only [Act.put, List.setIfInBounds_toArray, List.set_cons_zero, List.set_cons_succ])
      refine tk 14 (oi := ({ dst := some 4, op := .assign (.tmp 16), type := 32, pos := "ref.go:237", after := #[⟨11, .data⟩, ⟨13, .chain⟩, ⟨0, .phase⟩, ⟨1, .phase⟩, ⟨2, .phase⟩, ⟨3, .phase⟩, ⟨4, .phase⟩, ⟨5, .phase⟩, ⟨6, .phase⟩, ⟨7, .phase⟩, ⟨8, .phase⟩, ⟨9, .phase⟩, ⟨10, .phase⟩, ⟨11, .phase⟩, ⟨12, .phase⟩, ⟨13, .phase⟩], guard := none } : Oper)) (v := ?v14_25_1_1) ?hy14_25_1_1 ?re14_25_1_1
      case hy14_25_1_1 => ((intro w hSw; have e00 := hSw.c0; have e01 := hSw.c1; go_simp) <;> with_reducible rfl)
      (try simp only [Act.put, List.setIfInBounds_toArray, List.set_cons_zero, List.set_cons_succ])
      refine wpAnyH_done (by kernel_rfl) ?_ _
      refine NoPanic.normal ?_
      have v0 := V.out.c0
      have v1 := V.out.c1
      have c0 := Z.out.c0
      have c1 := Z.out.c1
      have f0 := Z.out.f 0
      have f1 := Z.out.f 1
      have hs := Z.out.s0 (.string (S z.num))
      have d1 := hs.c1
      have g1 := hs.f 1
      have HS := Lib.hid (hs.s1 (.string (S (z.den : Int))))
      have HBS := Lib.hid ((HB.out.setCell (p := ⟨w.heap.size + 1, 0, none⟩) (by show w.heap.size ≤ w.heap.size + 1; omega) (.string (S z.num))).setCell (p := ⟨w.heap.size + 1, 1, none⟩) (by show w.heap.size ≤ w.heap.size + 1; omega) (.string (S (z.den : Int))))
      clear hs
      go_wp2_with fail
      refine bodyPost_ret (results_ratio1 rfl _ _ (w.heap.size + 1) _ _ rfl HS.out) rfl ?_
      exact ⟨z, rfl, HZ.out, HBS.out⟩
     exact AllReadyH.nil
    exact AllReadyH.nil
   exact AllReadyH.nil
  exact AllReadyH.nil
 exact AllReadyH.nil
end Go.Proofs.YtdnbhgkbfbgnaaaGreatDoor
