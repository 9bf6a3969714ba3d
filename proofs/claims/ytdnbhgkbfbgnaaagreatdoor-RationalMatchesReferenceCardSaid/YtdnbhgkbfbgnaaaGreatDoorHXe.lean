/- RationalMatchesReference: the walk of the law. -/
import Derived.Test.YtdnbhgkbfbgnaaaGreatDoorHf
namespace Go.Proofs.YtdnbhgkbfbgnaaaGreatDoor
open Go.RowKit
set_option maxRecDepth 100000 in
set_option maxHeartbeats 16000000 in
theorem rmatch_any (x1 x2 y1 y2 : ByteArray) (l0 l1 l2 l3 m0 m1 m2 m3 s0 s1 n d places : Int) (w : World) (hx1 : x1.size ≤ 9223372036854775807) (hx2 : x2.size ≤ 9223372036854775807) (hy1 : y1.size ≤ 9223372036854775807) (hy2 : y2.size ≤ 9223372036854775807) (bl0 : -9223372036854775808 ≤ l0 ∧ l0 ≤ 9223372036854775807) (bl1 : -9223372036854775808 ≤ l1 ∧ l1 ≤ 9223372036854775807) (bl2 : -9223372036854775808 ≤ l2 ∧ l2 ≤ 9223372036854775807) (bl3 : -9223372036854775808 ≤ l3 ∧ l3 ≤ 9223372036854775807) (bm0 : -9223372036854775808 ≤ m0 ∧ m0 ≤ 9223372036854775807) (bm1 : -9223372036854775808 ≤ m1 ∧ m1 ≤ 9223372036854775807) (bm2 : -9223372036854775808 ≤ m2 ∧ m2 ≤ 9223372036854775807) (bm3 : -9223372036854775808 ≤ m3 ∧ m3 ≤ 9223372036854775807) (bs0 : -9223372036854775808 ≤ s0 ∧ s0 ≤ 9223372036854775807) (bs1 : -9223372036854775808 ≤ s1 ∧ s1 ≤ 9223372036854775807) (bn : -9223372036854775808 ≤ n ∧ n ≤ 9223372036854775807) (bd : -9223372036854775808 ≤ d ∧ d ≤ 9223372036854775807) (bplaces : -9223372036854775808 ≤ places ∧ places ≤ 9223372036854775807) (hT : Tz w) :
  Calls Tryz.prog 3 #[.agg #[.string x1, .string x2], .agg #[.string y1, .string y2], .agg #[.int .i64 l0, .int .i64 l1, .int .i64 l2, .int .i64 l3], .agg #[.int .i64 m0, .int .i64 m1, .int .i64 m2, .int .i64 m3], .agg #[.int .i64 s0, .int .i64 s1], .int .i64 n, .int .i64 d, .int .i64 places] w fun e w' => e = .returned (.bool true) ∧ Below w.heap.size w w' := by
 have h1 : (w.alloc (.cells #[.string x1, .string x2] 23)).heap.size = w.heap.size + 1 := World.size_alloc _ _
 have h2 : ((w.alloc (.cells #[.string x1, .string x2] 23)).alloc (.cells #[.string y1, .string y2] 23)).heap.size = w.heap.size + 1 + 1 := by rw [World.size_alloc, h1]
 have h3 : (((w.alloc (.cells #[.string x1, .string x2] 23)).alloc (.cells #[.string y1, .string y2] 23)).alloc (.cells #[.int .i64 l0, .int .i64 l1, .int .i64 l2, .int .i64 l3] 24)).heap.size = w.heap.size + 1 + 1 + 1 := by rw [World.size_alloc, h2]
 have h4 : ((((w.alloc (.cells #[.string x1, .string x2] 23)).alloc (.cells #[.string y1, .string y2] 23)).alloc (.cells #[.int .i64 l0, .int .i64 l1, .int .i64 l2, .int .i64 l3] 24)).alloc (.cells #[.int .i64 m0, .int .i64 m1, .int .i64 m2, .int .i64 m3] 24)).heap.size = w.heap.size + 1 + 1 + 1 + 1 := by rw [World.size_alloc, h3]
 have X := Lib.hid (((((RBlk.new w (.string x1) (.string x2)).alloc (.cells #[.string y1, .string y2] 23)).alloc (.cells #[.int .i64 l0, .int .i64 l1, .int .i64 l2, .int .i64 l3] 24)).alloc (.cells #[.int .i64 m0, .int .i64 m1, .int .i64 m2, .int .i64 m3] 24)).alloc (.cells #[.int .i64 s0, .int .i64 s1] 25))
 have Y := Lib.hid ((((h1 ▸ RBlk.new (w.alloc (.cells #[.string x1, .string x2] 23)) (.string y1) (.string y2) : RBlk ((w.alloc (.cells #[.string x1, .string x2] 23)).alloc (.cells #[.string y1, .string y2] 23)) (w.heap.size + 1) (.string y1) (.string y2)).alloc (.cells #[.int .i64 l0, .int .i64 l1, .int .i64 l2, .int .i64 l3] 24)).alloc (.cells #[.int .i64 m0, .int .i64 m1, .int .i64 m2, .int .i64 m3] 24)).alloc (.cells #[.int .i64 s0, .int .i64 s1] 25))
 have LL := Lib.hid (((h2 ▸ CBlk.new ((w.alloc (.cells #[.string x1, .string x2] 23)).alloc (.cells #[.string y1, .string y2] 23)) #[.int .i64 l0, .int .i64 l1, .int .i64 l2, .int .i64 l3] 24 : CBlk (((w.alloc (.cells #[.string x1, .string x2] 23)).alloc (.cells #[.string y1, .string y2] 23)).alloc (.cells #[.int .i64 l0, .int .i64 l1, .int .i64 l2, .int .i64 l3] 24)) (w.heap.size + 1 + 1) #[.int .i64 l0, .int .i64 l1, .int .i64 l2, .int .i64 l3] 24).alloc (.cells #[.int .i64 m0, .int .i64 m1, .int .i64 m2, .int .i64 m3] 24)).alloc (.cells #[.int .i64 s0, .int .i64 s1] 25))
 have MM := Lib.hid ((h3 ▸ CBlk.new (((w.alloc (.cells #[.string x1, .string x2] 23)).alloc (.cells #[.string y1, .string y2] 23)).alloc (.cells #[.int .i64 l0, .int .i64 l1, .int .i64 l2, .int .i64 l3] 24)) #[.int .i64 m0, .int .i64 m1, .int .i64 m2, .int .i64 m3] 24 : CBlk ((((w.alloc (.cells #[.string x1, .string x2] 23)).alloc (.cells #[.string y1, .string y2] 23)).alloc (.cells #[.int .i64 l0, .int .i64 l1, .int .i64 l2, .int .i64 l3] 24)).alloc (.cells #[.int .i64 m0, .int .i64 m1, .int .i64 m2, .int .i64 m3] 24)) (w.heap.size + 1 + 1 + 1) #[.int .i64 m0, .int .i64 m1, .int .i64 m2, .int .i64 m3] 24).alloc (.cells #[.int .i64 s0, .int .i64 s1] 25))
 have SS := Lib.hid (h4 ▸ PB.new 25 ((((w.alloc (.cells #[.string x1, .string x2] 23)).alloc (.cells #[.string y1, .string y2] 23)).alloc (.cells #[.int .i64 l0, .int .i64 l1, .int .i64 l2, .int .i64 l3] 24)).alloc (.cells #[.int .i64 m0, .int .i64 m1, .int .i64 m2, .int .i64 m3] 24)) (.int .i64 s0) (.int .i64 s1) : PB 25 (((((w.alloc (.cells #[.string x1, .string x2] 23)).alloc (.cells #[.string y1, .string y2] 23)).alloc (.cells #[.int .i64 l0, .int .i64 l1, .int .i64 l2, .int .i64 l3] 24)).alloc (.cells #[.int .i64 m0, .int .i64 m1, .int .i64 m2, .int .i64 m3] 24)).alloc (.cells #[.int .i64 s0, .int .i64 s1] 25)) (w.heap.size + 1 + 1 + 1 + 1) (.int .i64 s0) (.int .i64 s1))
 have HB := Lib.hid (((((below_alloc w (.cells #[.string x1, .string x2] 23)).alloc (by rw [h1]; omega) (.cells #[.string y1, .string y2] 23)).alloc (by rw [h2]; omega) (.cells #[.int .i64 l0, .int .i64 l1, .int .i64 l2, .int .i64 l3] 24)).alloc (by rw [h3]; omega) (.cells #[.int .i64 m0, .int .i64 m1, .int .i64 m2, .int .i64 m3] 24)).alloc (by rw [h4]; omega) (.cells #[.int .i64 s0, .int .i64 s1] 25))
 have HT := Lib.hid hT
 clear hT h1 h2 h3 h4
 go_enter Tryz.func3, Tryz.ntmps3
 go_wp2_with fail
 go_at_call 12
 refine (sane4_any _ (HT.out.below HB.out)).mono ?_
 rintro e W1 ⟨rfl, B⟩
 have Xn := Lib.hid ((X.out.keep B X.out.lt))
 have Yn := Lib.hid ((Y.out.keep B Y.out.lt))
 have LLn := Lib.hid ((LL.out.keep B LL.out.lt))
 have MMn := Lib.hid ((MM.out.keep B MM.out.lt))
 have SSn := Lib.hid ((SS.out.keep B SS.out.lt))
 have HBn := Lib.hid (HB.out.trans (B.mono HB.out.size))
 clear X Y LL MM SS HB
 have X := Xn
 have Y := Yn
 have LL := LLn
 have MM := MMn
 have SS := SSn
 have HB := HBn
 clear Xn Yn LLn MMn SSn HBn
 clear B
 have c0 := X.out.c0
 have c1 := X.out.c1
 go_wp2_with fail
 clear c0 c1
 go_at_call 13
 refine (cut_T x1 x2 _ hx1 hx2).mono ?_
 rintro e W2 ⟨p1, p2, rfl, ⟨zp1, zp2⟩, B⟩
 have Xn := Lib.hid ((X.out.keep B X.out.lt))
 have Yn := Lib.hid ((Y.out.keep B Y.out.lt))
 have LLn := Lib.hid ((LL.out.keep B LL.out.lt))
 have MMn := Lib.hid ((MM.out.keep B MM.out.lt))
 have SSn := Lib.hid ((SS.out.keep B SS.out.lt))
 have HBn := Lib.hid (HB.out.trans (B.mono HB.out.size))
 clear X Y LL MM SS HB
 have X := Xn
 have Y := Yn
 have LL := LLn
 have MM := MMn
 have SS := SSn
 have HB := HBn
 clear Xn Yn LLn MMn SSn HBn
 clear B
 have c0 := X.out.c0
 have c1 := X.out.c1
 have f0 := X.out.f 0
 have f1 := X.out.f 1
 have hs := X.out.s0 (.string p1)
 have d1 := hs.c1
 have g1 := hs.f 1
 have Xn := Lib.hid (hs.s1 (.string p2))
 have Yn := Lib.hid ((Y.out.other ⟨w.heap.size, 0, none⟩ (.string p1) (show w.heap.size + 1 ≠ w.heap.size by omega)).other ⟨w.heap.size, 1, none⟩ (.string p2) (show w.heap.size + 1 ≠ w.heap.size by omega))
 have LLn := Lib.hid ((LL.out.other ⟨w.heap.size, 0, none⟩ (.string p1) (show w.heap.size + 1 + 1 ≠ w.heap.size by omega)).other ⟨w.heap.size, 1, none⟩ (.string p2) (show w.heap.size + 1 + 1 ≠ w.heap.size by omega))
 have MMn := Lib.hid ((MM.out.other ⟨w.heap.size, 0, none⟩ (.string p1) (show w.heap.size + 1 + 1 + 1 ≠ w.heap.size by omega)).other ⟨w.heap.size, 1, none⟩ (.string p2) (show w.heap.size + 1 + 1 + 1 ≠ w.heap.size by omega))
 have SSn := Lib.hid ((SS.out.other ⟨w.heap.size, 0, none⟩ (.string p1) (show w.heap.size + 1 + 1 + 1 + 1 ≠ w.heap.size by omega)).other ⟨w.heap.size, 1, none⟩ (.string p2) (show w.heap.size + 1 + 1 + 1 + 1 ≠ w.heap.size by omega))
 have HBn := Lib.hid ((HB.out.setCell (p := ⟨w.heap.size, 0, none⟩) (show w.heap.size ≤ w.heap.size by omega) (.string p1)).setCell (p := ⟨w.heap.size, 1, none⟩) (show w.heap.size ≤ w.heap.size by omega) (.string p2))
 clear hs
 have y0 := Yn.out.c0
 have y1 := Yn.out.c1
 go_wp2_with fail
 clear y0 y1
 clear c0 c1 f0 f1 d1 g1 Y LL MM SS X HB
 have Y := Yn
 have LL := LLn
 have MM := MMn
 have SS := SSn
 have X := Xn
 have HB := HBn
 clear Yn LLn MMn SSn Xn HBn
 go_at_call 13
 refine (cut_T y1 y2 _ hy1 hy2).mono ?_
 rintro e W3 ⟨p3, p4, rfl, ⟨zp3, zp4⟩, B⟩
 have Xn := Lib.hid ((X.out.keep B X.out.lt))
 have Yn := Lib.hid ((Y.out.keep B Y.out.lt))
 have LLn := Lib.hid ((LL.out.keep B LL.out.lt))
 have MMn := Lib.hid ((MM.out.keep B MM.out.lt))
 have SSn := Lib.hid ((SS.out.keep B SS.out.lt))
 have HBn := Lib.hid (HB.out.trans (B.mono HB.out.size))
 clear X Y LL MM SS HB
 have X := Xn
 have Y := Yn
 have LL := LLn
 have MM := MMn
 have SS := SSn
 have HB := HBn
 clear Xn Yn LLn MMn SSn HBn
 clear B
 have c0 := Y.out.c0
 have c1 := Y.out.c1
 have f0 := Y.out.f 0
 have f1 := Y.out.f 1
 have hs := Y.out.s0 (.string p3)
 have d1 := hs.c1
 have g1 := hs.f 1
 have Yn := Lib.hid (hs.s1 (.string p4))
 have Xn := Lib.hid ((X.out.other ⟨w.heap.size + 1, 0, none⟩ (.string p3) (show w.heap.size ≠ w.heap.size + 1 by omega)).other ⟨w.heap.size + 1, 1, none⟩ (.string p4) (show w.heap.size ≠ w.heap.size + 1 by omega))
 have LLn := Lib.hid ((LL.out.other ⟨w.heap.size + 1, 0, none⟩ (.string p3) (show w.heap.size + 1 + 1 ≠ w.heap.size + 1 by omega)).other ⟨w.heap.size + 1, 1, none⟩ (.string p4) (show w.heap.size + 1 + 1 ≠ w.heap.size + 1 by omega))
 have MMn := Lib.hid ((MM.out.other ⟨w.heap.size + 1, 0, none⟩ (.string p3) (show w.heap.size + 1 + 1 + 1 ≠ w.heap.size + 1 by omega)).other ⟨w.heap.size + 1, 1, none⟩ (.string p4) (show w.heap.size + 1 + 1 + 1 ≠ w.heap.size + 1 by omega))
 have SSn := Lib.hid ((SS.out.other ⟨w.heap.size + 1, 0, none⟩ (.string p3) (show w.heap.size + 1 + 1 + 1 + 1 ≠ w.heap.size + 1 by omega)).other ⟨w.heap.size + 1, 1, none⟩ (.string p4) (show w.heap.size + 1 + 1 + 1 + 1 ≠ w.heap.size + 1 by omega))
 have HBn := Lib.hid ((HB.out.setCell (p := ⟨w.heap.size + 1, 0, none⟩) (show w.heap.size ≤ w.heap.size + 1 by omega) (.string p3)).setCell (p := ⟨w.heap.size + 1, 1, none⟩) (show w.heap.size ≤ w.heap.size + 1 by omega) (.string p4))
 clear hs
 go_upto_region 4 with fail
 clear c0 c1 f0 f1 d1 g1 X LL MM SS Y HB
 have X := Xn
 have LL := LLn
 have MM := MMn
 have SS := SSn
 have Y := Yn
 have HB := HBn
 clear Xn LLn MMn SSn Yn HBn
 generalize hW04 : ((W3.setCell ⟨w.heap.size + 1, 0, none⟩ (.string p3)).setCell ⟨w.heap.size + 1, 1, none⟩ (.string p4)) = W04 at *
 clear hW04
 refine wp_region_noPanic ?_
 refine wp_region_held_drew (S := fun W => RBlk W (w.heap.size) (.string p1) (.string p2) ∧ RBlk W (w.heap.size + 1) (.string p3) (.string p4) ∧ CBlk W (w.heap.size + 1 + 1) #[.int .i64 l0, .int .i64 l1, .int .i64 l2, .int .i64 l3] 24 ∧ CBlk W (w.heap.size + 1 + 1 + 1) #[.int .i64 m0, .int .i64 m1, .int .i64 m2, .int .i64 m3] 24 ∧ PB 25 W (w.heap.size + 1 + 1 + 1 + 1) (.int .i64 s0) (.int .i64 s1)) (by kernel_rfl) ?_ (fun hHeld => ?_)
 ·
  exact ⟨X.out, Y.out, LL.out, MM.out, SS.out⟩
 have Xn := Lib.hid X.out.drew
 have Yn := Lib.hid Y.out.drew
 have LLn := Lib.hid LL.out.drew
 have MMn := Lib.hid MM.out.drew
 have SSn := Lib.hid SS.out.drew
 have HBn := Lib.hid HB.out.drew
 clear X Y LL MM SS HB
 have X := Xn
 have Y := Yn
 have LL := LLn
 have MM := MMn
 have SS := SSn
 have HB := HBn
 clear Xn Yn LLn MMn SSn HBn
 refine tk 0 (v := ?v0_1_4_2) ?hy0_1_4_2 ?re0_1_4_2
 case hy0_1_4_2 => ((intro w hSw; have e0_0 := hSw.1.c0; have e0_1 := hSw.1.c1; have e1_0 := hSw.2.1.c0; have e1_1 := hSw.2.1.c1; have e2_0 := hSw.2.2.1.c 0 rfl; have e2_1 := hSw.2.2.1.c 1 rfl; have e2_2 := hSw.2.2.1.c 2 rfl; have e2_3 := hSw.2.2.1.c 3 rfl; have e3_0 := hSw.2.2.2.1.c 0 rfl; have e3_1 := hSw.2.2.2.1.c 1 rfl; have e3_2 := hSw.2.2.2.1.c 2 rfl; have e3_3 := hSw.2.2.2.1.c 3 rfl; have e4_0 := hSw.2.2.2.2.c0; have e4_1 := hSw.2.2.2.2.c1; go_simp) <;> with_reducible rfl)
 (try simp only [Act.put, List.setIfInBounds_toArray])
 refine tk 1 (v := ?v1_2_4_2) ?hy1_2_4_2 ?re1_2_4_2
 case hy1_2_4_2 => ((intro w hSw; have e0_0 := hSw.1.c0; have e0_1 := hSw.1.c1; have e1_0 := hSw.2.1.c0; have e1_1 := hSw.2.1.c1; have e2_0 := hSw.2.2.1.c 0 rfl; have e2_1 := hSw.2.2.1.c 1 rfl; have e2_2 := hSw.2.2.1.c 2 rfl; have e2_3 := hSw.2.2.1.c 3 rfl; have e3_0 := hSw.2.2.2.1.c 0 rfl; have e3_1 := hSw.2.2.2.1.c 1 rfl; have e3_2 := hSw.2.2.2.1.c 2 rfl; have e3_3 := hSw.2.2.2.1.c 3 rfl; have e4_0 := hSw.2.2.2.2.c0; have e4_1 := hSw.2.2.2.2.c1; go_simp) <;> with_reducible rfl)
 (try simp only [Act.put])
 refine tk 2 (v := ?v2_3_4_2) ?hy2_3_4_2 ?re2_3_4_2
 case hy2_3_4_2 => ((intro w hSw; have e0_0 := hSw.1.c0; have e0_1 := hSw.1.c1; have e1_0 := hSw.2.1.c0; have e1_1 := hSw.2.1.c1; have e2_0 := hSw.2.2.1.c 0 rfl; have e2_1 := hSw.2.2.1.c 1 rfl; have e2_2 := hSw.2.2.1.c 2 rfl; have e2_3 := hSw.2.2.1.c 3 rfl; have e3_0 := hSw.2.2.2.1.c 0 rfl; have e3_1 := hSw.2.2.2.1.c 1 rfl; have e3_2 := hSw.2.2.2.1.c 2 rfl; have e3_3 := hSw.2.2.2.1.c 3 rfl; have e4_0 := hSw.2.2.2.2.c0; have e4_1 := hSw.2.2.2.2.c1; go_simp) <;> with_reducible rfl)
 (try simp only [Act.put])
 refine tk 4 (v := ?v4_4_4_2) ?hy4_4_4_2 ?re4_4_4_2
 case hy4_4_4_2 => ((intro w hSw; have e0_0 := hSw.1.c0; have e0_1 := hSw.1.c1; have e1_0 := hSw.2.1.c0; have e1_1 := hSw.2.1.c1; have e2_0 := hSw.2.2.1.c 0 rfl; have e2_1 := hSw.2.2.1.c 1 rfl; have e2_2 := hSw.2.2.1.c 2 rfl; have e2_3 := hSw.2.2.1.c 3 rfl; have e3_0 := hSw.2.2.2.1.c 0 rfl; have e3_1 := hSw.2.2.2.1.c 1 rfl; have e3_2 := hSw.2.2.2.1.c 2 rfl; have e3_3 := hSw.2.2.2.1.c 3 rfl; have e4_0 := hSw.2.2.2.2.c0; have e4_1 := hSw.2.2.2.2.c1; go_simp) <;> with_reducible rfl)
 (try simp only [Act.put])
 refine tk 6 (v := ?v6_5_4_2) ?hy6_5_4_2 ?re6_5_4_2
 case hy6_5_4_2 => ((intro w hSw; have e0_0 := hSw.1.c0; have e0_1 := hSw.1.c1; have e1_0 := hSw.2.1.c0; have e1_1 := hSw.2.1.c1; have e2_0 := hSw.2.2.1.c 0 rfl; have e2_1 := hSw.2.2.1.c 1 rfl; have e2_2 := hSw.2.2.1.c 2 rfl; have e2_3 := hSw.2.2.1.c 3 rfl; have e3_0 := hSw.2.2.2.1.c 0 rfl; have e3_1 := hSw.2.2.2.1.c 1 rfl; have e3_2 := hSw.2.2.2.1.c 2 rfl; have e3_3 := hSw.2.2.2.1.c 3 rfl; have e4_0 := hSw.2.2.2.2.c0; have e4_1 := hSw.2.2.2.2.c1; go_simp) <;> with_reducible rfl)
 (try simp only [Act.put])
 refine wpAnyH_ready (rs := [3]) (by kernel_rfl) (by simp) ?_
 refine AllReadyH.cons (o := ({ dst := some 53, op := .call { callee := .value (.func 14), args := #[.tmp 52], argTypes := #[24] }, type := 23, pos := "law.go:65", after := #[⟨2, .data⟩], guard := none } : Oper)) rfl (fun K hK => ?_) ?_
 ·
  go_simp
  go_at_call 14
  refine (Long_T l0 l1 l2 l3 _ bl0 bl1 bl2 bl3).mono ?_
  rintro e W4_1 ⟨u1, u2, rfl, ⟨zu1, zu2⟩, B⟩
  have Xn := Lib.hid (X.out.keep B X.out.lt)
  have Yn := Lib.hid (Y.out.keep B Y.out.lt)
  have LLn := Lib.hid (LL.out.keep B LL.out.lt)
  have MMn := Lib.hid (MM.out.keep B MM.out.lt)
  have SSn := Lib.hid (SS.out.keep B SS.out.lt)
  have HBn := Lib.hid (HB.out.trans (B.mono HB.out.size))
  clear X Y LL MM SS HB
  have X := Xn
  have Y := Yn
  have LL := LLn
  have MM := MMn
  have SS := SSn
  have HB := HBn
  clear Xn Yn LLn MMn SSn HBn
  (try go_wp2_with fail)
  refine hK.out _ _ ?_ (fun hHeldN => ?_)
  ·
   exact ⟨hHeld.1.keep B hHeld.1.lt, hHeld.2.1.keep B hHeld.2.1.lt, hHeld.2.2.1.keep B hHeld.2.2.1.lt, hHeld.2.2.2.1.keep B hHeld.2.2.2.1.lt, hHeld.2.2.2.2.keep B hHeld.2.2.2.2.lt⟩
  clear hK K
  clear hHeld
  have hHeld := hHeldN
  clear hHeldN
  (try simp only [Act.put, List.setIfInBounds_toArray, List.set_cons_zero, List.set_cons_succ])
  clear B
  refine wpAnyH_ready (rs := [5]) (by kernel_rfl) (by simp) ?_
  refine AllReadyH.cons (o := ({ dst := some 55, op := .call { callee := .value (.func 14), args := #[.tmp 54], argTypes := #[24] }, type := 23, pos := "law.go:65", after := #[⟨4, .data⟩, ⟨3, .chain⟩], guard := none } : Oper)) rfl (fun K hK => ?_) ?_
  ·
   go_simp
   go_at_call 14
   refine (Long_T m0 m1 m2 m3 _ bm0 bm1 bm2 bm3).mono ?_
   rintro e W4_2 ⟨v1, v2, rfl, ⟨zv1, zv2⟩, B⟩
   have Xn := Lib.hid (X.out.keep B X.out.lt)
   have Yn := Lib.hid (Y.out.keep B Y.out.lt)
   have LLn := Lib.hid (LL.out.keep B LL.out.lt)
   have MMn := Lib.hid (MM.out.keep B MM.out.lt)
   have SSn := Lib.hid (SS.out.keep B SS.out.lt)
   have HBn := Lib.hid (HB.out.trans (B.mono HB.out.size))
   clear X Y LL MM SS HB
   have X := Xn
   have Y := Yn
   have LL := LLn
   have MM := MMn
   have SS := SSn
   have HB := HBn
   clear Xn Yn LLn MMn SSn HBn
   (try go_wp2_with fail)
   refine hK.out _ _ ?_ (fun hHeldN => ?_)
   ·
    exact ⟨hHeld.1.keep B hHeld.1.lt, hHeld.2.1.keep B hHeld.2.1.lt, hHeld.2.2.1.keep B hHeld.2.2.1.lt, hHeld.2.2.2.1.keep B hHeld.2.2.2.1.lt, hHeld.2.2.2.2.keep B hHeld.2.2.2.2.lt⟩
   clear hK K
   clear hHeld
   have hHeld := hHeldN
   clear hHeldN
   (try simp only [Act.put, List.setIfInBounds_toArray, List.set_cons_zero, List.set_cons_succ])
   clear B
   refine wpAnyH_ready (rs := [7]) (by kernel_rfl) (by simp) ?_
   refine AllReadyH.cons (o := ({ dst := some 57, op := .call { callee := .value (.func 15), args := #[.tmp 56], argTypes := #[25] }, type := 23, pos := "law.go:65", after := #[⟨6, .data⟩, ⟨5, .chain⟩], guard := none } : Oper)) rfl (fun K hK => ?_) ?_
   ·
    go_simp
    go_at_call 15
    refine (Small_T s0 s1 _ bs0 bs1).mono ?_
    rintro e W4_3 ⟨q1, q2, rfl, ⟨zq1, zq2⟩, B⟩
    have Xn := Lib.hid (X.out.keep B X.out.lt)
    have Yn := Lib.hid (Y.out.keep B Y.out.lt)
    have LLn := Lib.hid (LL.out.keep B LL.out.lt)
    have MMn := Lib.hid (MM.out.keep B MM.out.lt)
    have SSn := Lib.hid (SS.out.keep B SS.out.lt)
    have HBn := Lib.hid (HB.out.trans (B.mono HB.out.size))
    clear X Y LL MM SS HB
    have X := Xn
    have Y := Yn
    have LL := LLn
    have MM := MMn
    have SS := SSn
    have HB := HBn
    clear Xn Yn LLn MMn SSn HBn
    (try go_wp2_with fail)
    refine hK.out _ _ ?_ (fun hHeldN => ?_)
    ·
     exact ⟨hHeld.1.keep B hHeld.1.lt, hHeld.2.1.keep B hHeld.2.1.lt, hHeld.2.2.1.keep B hHeld.2.2.1.lt, hHeld.2.2.2.1.keep B hHeld.2.2.2.1.lt, hHeld.2.2.2.2.keep B hHeld.2.2.2.2.lt⟩
    clear hK K
    clear hHeld
    have hHeld := hHeldN
    clear hHeldN
    (try simp only [Act.put, List.setIfInBounds_toArray, List.set_cons_zero, List.set_cons_succ])
    clear B
    refine wpAnyH_ready (rs := [8]) (by kernel_rfl) (by simp) ?_
    refine AllReadyH.cons (o := ({ dst := some 58, op := .buildSlice 30 5 #[(0, .tmp 50), (1, .tmp 51), (2, .tmp 53), (3, .tmp 55), (4, .tmp 57)], type := 30, pos := "law.go:65", after := #[⟨0, .data⟩, ⟨1, .data⟩, ⟨3, .data⟩, ⟨5, .data⟩, ⟨7, .data⟩], guard := none } : Oper)) rfl (fun K hK => ?_) ?_
    ·
     go_simp
     obtain ⟨WA4_4, hWA4_4⟩ : ∃ W, W = (W4_3.alloc (.cells #[.string p1, .string p2, .string p3, .string p4, .string u1, .string u2, .string v1, .string v2, .string q1, .string q2] 23)) := ⟨_, rfl⟩
     rw [← hWA4_4]
     have All : Hid (CBlk WA4_4 W4_3.heap.size #[.string p1, .string p2, .string p3, .string p4, .string u1, .string u2, .string v1, .string v2, .string q1, .string q2] 23) := Lib.hid (by rw [hWA4_4]; exact CBlk.new W4_3 #[.string p1, .string p2, .string p3, .string p4, .string u1, .string u2, .string v1, .string v2, .string q1, .string q2] 23)
     have gAll : w.heap.size ≤ W4_3.heap.size := HB.out.size
     have hk : (fun W => RBlk W (w.heap.size) (.string p1) (.string p2) ∧ RBlk W (w.heap.size + 1) (.string p3) (.string p4) ∧ CBlk W (w.heap.size + 1 + 1) #[.int .i64 l0, .int .i64 l1, .int .i64 l2, .int .i64 l3] 24 ∧ CBlk W (w.heap.size + 1 + 1 + 1) #[.int .i64 m0, .int .i64 m1, .int .i64 m2, .int .i64 m3] 24 ∧ PB 25 W (w.heap.size + 1 + 1 + 1 + 1) (.int .i64 s0) (.int .i64 s1)) WA4_4 := by rw [hWA4_4]; exact ⟨hHeld.1.alloc _, hHeld.2.1.alloc _, hHeld.2.2.1.alloc _, hHeld.2.2.2.1.alloc _, hHeld.2.2.2.2.alloc _⟩
     have Xn : Hid (RBlk WA4_4 (w.heap.size) (.string p1) (.string p2)) := Lib.hid (by rw [hWA4_4]; exact X.out.alloc _)
     have Yn : Hid (RBlk WA4_4 (w.heap.size + 1) (.string p3) (.string p4)) := Lib.hid (by rw [hWA4_4]; exact Y.out.alloc _)
     have LLn : Hid (CBlk WA4_4 (w.heap.size + 1 + 1) #[.int .i64 l0, .int .i64 l1, .int .i64 l2, .int .i64 l3] 24) := Lib.hid (by rw [hWA4_4]; exact LL.out.alloc _)
     have MMn : Hid (CBlk WA4_4 (w.heap.size + 1 + 1 + 1) #[.int .i64 m0, .int .i64 m1, .int .i64 m2, .int .i64 m3] 24) := Lib.hid (by rw [hWA4_4]; exact MM.out.alloc _)
     have SSn : Hid (PB 25 WA4_4 (w.heap.size + 1 + 1 + 1 + 1) (.int .i64 s0) (.int .i64 s1)) := Lib.hid (by rw [hWA4_4]; exact SS.out.alloc _)
     have HBn : Hid (Below w.heap.size w WA4_4) := Lib.hid (by rw [hWA4_4]; exact HB.out.alloc HB.out.size _)
     clear X Y LL MM SS HB
     have X := Xn
     have Y := Yn
     have LL := LLn
     have MM := MMn
     have SS := SSn
     have HB := HBn
     clear Xn Yn LLn MMn SSn HBn
     clear hWA4_4
     refine hK.out _ _ ?_ (fun hHeldN => ?_)
     ·
      exact hk
     clear hK K
     clear hHeld
     have hHeld := hHeldN
     clear hHeldN
     (try simp only [Act.put, List.setIfInBounds_toArray, List.set_cons_zero, List.set_cons_succ])
     clear hk
     refine tk 9 (v := ?v9_6_4_2) ?hy9_6_4_2 ?re9_6_4_2
     case hy9_6_4_2 => (intro w hSw; go_simp) <;> with_reducible rfl
     (try simp only [Act.put, List.setIfInBounds_toArray])
     refine wpAnyH_done (by kernel_rfl) ?_ _
     refine NoPanic.normal ?_
     clear X Y LL MM SS hHeld gAll bl0 bl1 bl2 bl3 bm0 bm1 bm2 bm3 bs0 bs1
     have BN := Lib.hid bn
     have BD := Lib.hid bd
     have BP := Lib.hid bplaces
     clear bn bd bplaces
     obtain ⟨P, hP, hcs⟩ := ten p1 p2 p3 p4 u1 u2 v1 v2 q1 q2 zp1 zp2 zp3 zp4 zu1 zu2 zv1 zv2 zq1 zq2
     generalize (#[.string p1, .string p2, .string p3, .string p4, .string u1, .string u2, .string v1, .string v2, .string q1, .string q2] : Array Value) = cs at *
     generalize W4_3.heap.size = gA at *
     have HP := Lib.hid hP
     have HC := Lib.hid hcs
     clear hP hcs zp1 zp2 zp3 zp4 zu1 zu2 zv1 zv2 zq1 zq2 hx1 hx2 hy1 hy2
     go_wp2_with fail
     go_loopw [19] (fun iv wr => ∃ i : Nat, i ≤ 5 ∧ iv = .int .i64 (i : Int) ∧ Hid (CBlk wr gA cs 23) ∧ Hid (Below w.heap.size w wr)) (fun iv _ => 5 - (intOf iv).toNat)
     case atStart => exact ⟨0, by omega, rfl, All, HB⟩
     case round =>
      clear All HB
      obtain ⟨i, hi, rfl, All, HB⟩ := hrel
      by_cases hi5 : i < 5
      ·
       obtain ⟨n1, n2⟩ := HP.out i
       obtain ⟨k1, k2⟩ := HC.out i hi5
       generalize (P i).1 = a1 at *
       generalize (P i).2 = a2 at *
       have hii : (i : Int) < 5 := by omega
       have NA := Lib.hid (And.intro n1 n2)
       have KA := Lib.hid (And.intro k1 k2)
       clear n1 n2 k1 k2
       go_wp2_with fail
       go_loopw [20] (fun kv wk => ∃ k : Nat, k ≤ 5 ∧ kv = .int .i64 (k : Int) ∧ Hid (CBlk wk gA cs 23) ∧ Hid (Below w.heap.size w wk)) (fun kv _ => 5 - (intOf kv).toNat)
       case atStart => exact ⟨0, by omega, rfl, All, HB⟩
       case round =>
        clear All HB
        obtain ⟨k, hk, rfl, All, HB⟩ := hrel
        by_cases hk5 : k < 5
        ·
         obtain ⟨n3, n4⟩ := HP.out k
         obtain ⟨k3, k4⟩ := HC.out k hk5
         generalize (P k).1 = b1 at *
         generalize (P k).2 = b2 at *
         have hkk : (k : Int) < 5 := by omega
         obtain ⟨x0, y0, e0, q0, v0⟩ := agAdd_4 a1 a2 b1 b2 NA.out.1 NA.out.2 n3 n4
         obtain ⟨x1, y1, e1, q1, v1⟩ := agSub_4 a1 a2 b1 b2 NA.out.1 NA.out.2 n3 n4
         obtain ⟨x2, y2, e2, q2, v2⟩ := agMul_4 a1 a2 b1 b2 NA.out.1 NA.out.2 n3 n4
         obtain ⟨x3, y3, e3, q3, v3⟩ := agDiv_4 a1 a2 b1 b2 NA.out.1 NA.out.2 n3 n4
         obtain ⟨rc, qc, vc⟩ := agCompare_4 a1 a2 b1 b2 NA.out.1 NA.out.2 n3 n4
         have F4 := Lib.hid (fun W => four_walk a1 a2 b1 b2 x0 y0 x1 y1 x2 y2 x3 y3 e0 e1 e2 e3 W q0 q1 q2 q3)
         have V0 := Lib.hid v0
         have V1 := Lib.hid v1
         have V2 := Lib.hid v2
         have V3 := Lib.hid v3
         have QC := Lib.hid qc
         have VC := Lib.hid vc
         clear q0 q1 q2 q3 v0 v1 v2 v3 qc vc n3 n4
         have h1 : (wr.alloc (.cells #[.string a1, .string a2] 23)).heap.size = wr.heap.size + 1 := World.size_alloc _ _
         have u1 := All.out.c (i * 2) KA.out.1
         have u2 := All.out.c (i * 2 + 1) KA.out.2
         have u3 := (All.out.alloc (.cells #[.string a1, .string a2] 23)).c (k * 2) k3
         have u4 := (All.out.alloc (.cells #[.string a1, .string a2] 23)).c (k * 2 + 1) k4
         have An := Lib.hid ((RBlk.new wr (.string a1) (.string a2)).alloc (.cells #[.string b1, .string b2] 23))
         have Bn := Lib.hid (h1 ▸ RBlk.new (wr.alloc (.cells #[.string a1, .string a2] 23)) (.string b1) (.string b2) : RBlk ((wr.alloc (.cells #[.string a1, .string a2] 23)).alloc (.cells #[.string b1, .string b2] 23)) (wr.heap.size + 1) (.string b1) (.string b2))
         have Alln := Lib.hid ((All.out.alloc (.cells #[.string a1, .string a2] 23)).alloc (.cells #[.string b1, .string b2] 23))
         have HBn := Lib.hid ((HB.out.alloc HB.out.size (.cells #[.string a1, .string a2] 23)).alloc (by rw [h1]; have := HB.out.size; omega) (.cells #[.string b1, .string b2] 23))
         have a0 := An.out.c0
         have a1c := An.out.c1
         have b0 := Bn.out.c0
         have b1c := Bn.out.c1
         clear All HB h1
         have All := Alln
         have A := An
         have Bb := Bn
         have HB := HBn
         clear Alln An Bn HBn
         go_wp2_with fail
         clear u1 u2 u3 u4 a0 a1c b0 b1c k3 k4
         go_at_call 16
         refine (F4.out _).mono ?_
         rintro e Wf ⟨rfl, B⟩
         clear F4
         have j1 : (Wf.alloc (.cells #[.string x0, .string y0, .string x1, .string y1, .string x2, .string y2, .string x3, .string y3] 31)).heap.size = Wf.heap.size + 1 := World.size_alloc _ _
         have j2 : ((Wf.alloc (.cells #[.string x0, .string y0, .string x1, .string y1, .string x2, .string y2, .string x3, .string y3] 31)).alloc (.cells #[.int .i64 e0, .int .i64 e1, .int .i64 e2, .int .i64 e3] 33)).heap.size = Wf.heap.size + 1 + 1 := by rw [World.size_alloc, j1]
         have j3 : (((Wf.alloc (.cells #[.string x0, .string y0, .string x1, .string y1, .string x2, .string y2, .string x3, .string y3] 31)).alloc (.cells #[.int .i64 e0, .int .i64 e1, .int .i64 e2, .int .i64 e3] 33)).alloc (.cells #[.string ⟨#[]⟩, .string ⟨#[]⟩, .string ⟨#[]⟩, .string ⟨#[]⟩, .string ⟨#[]⟩, .string ⟨#[]⟩, .string ⟨#[]⟩, .string ⟨#[]⟩] 31)).heap.size = Wf.heap.size + 1 + 1 + 1 := by rw [World.size_alloc, j2]
         have lAll := (All.out.keep B All.out.lt).lt
         have Alln := Lib.hid (((((All.out.keep B All.out.lt).alloc (.cells #[.string x0, .string y0, .string x1, .string y1, .string x2, .string y2, .string x3, .string y3] 31)).alloc (.cells #[.int .i64 e0, .int .i64 e1, .int .i64 e2, .int .i64 e3] 33)).alloc (.cells #[.string ⟨#[]⟩, .string ⟨#[]⟩, .string ⟨#[]⟩, .string ⟨#[]⟩, .string ⟨#[]⟩, .string ⟨#[]⟩, .string ⟨#[]⟩, .string ⟨#[]⟩] 31)).alloc (.cells #[.int .i64 0, .int .i64 0, .int .i64 0, .int .i64 0] 33))
         have lA := (A.out.keep B A.out.lt).lt
         have An := Lib.hid (((((A.out.keep B A.out.lt).alloc (.cells #[.string x0, .string y0, .string x1, .string y1, .string x2, .string y2, .string x3, .string y3] 31)).alloc (.cells #[.int .i64 e0, .int .i64 e1, .int .i64 e2, .int .i64 e3] 33)).alloc (.cells #[.string ⟨#[]⟩, .string ⟨#[]⟩, .string ⟨#[]⟩, .string ⟨#[]⟩, .string ⟨#[]⟩, .string ⟨#[]⟩, .string ⟨#[]⟩, .string ⟨#[]⟩] 31)).alloc (.cells #[.int .i64 0, .int .i64 0, .int .i64 0, .int .i64 0] 33))
         have lBb := (Bb.out.keep B Bb.out.lt).lt
         have Bbn := Lib.hid (((((Bb.out.keep B Bb.out.lt).alloc (.cells #[.string x0, .string y0, .string x1, .string y1, .string x2, .string y2, .string x3, .string y3] 31)).alloc (.cells #[.int .i64 e0, .int .i64 e1, .int .i64 e2, .int .i64 e3] 33)).alloc (.cells #[.string ⟨#[]⟩, .string ⟨#[]⟩, .string ⟨#[]⟩, .string ⟨#[]⟩, .string ⟨#[]⟩, .string ⟨#[]⟩, .string ⟨#[]⟩, .string ⟨#[]⟩] 31)).alloc (.cells #[.int .i64 0, .int .i64 0, .int .i64 0, .int .i64 0] 33))
         have HB1 := HB.out.trans (B.mono HB.out.size)
         have gW := HB1.size
         have Rn := Lib.hid ((((CBlk.new Wf #[.string x0, .string y0, .string x1, .string y1, .string x2, .string y2, .string x3, .string y3] 31).alloc (.cells #[.int .i64 e0, .int .i64 e1, .int .i64 e2, .int .i64 e3] 33)).alloc (.cells #[.string ⟨#[]⟩, .string ⟨#[]⟩, .string ⟨#[]⟩, .string ⟨#[]⟩, .string ⟨#[]⟩, .string ⟨#[]⟩, .string ⟨#[]⟩, .string ⟨#[]⟩] 31)).alloc (.cells #[.int .i64 0, .int .i64 0, .int .i64 0, .int .i64 0] 33))
         have En := Lib.hid ((((j1 ▸ CBlk.new (Wf.alloc (.cells #[.string x0, .string y0, .string x1, .string y1, .string x2, .string y2, .string x3, .string y3] 31)) #[.int .i64 e0, .int .i64 e1, .int .i64 e2, .int .i64 e3] 33 : CBlk ((Wf.alloc (.cells #[.string x0, .string y0, .string x1, .string y1, .string x2, .string y2, .string x3, .string y3] 31)).alloc (.cells #[.int .i64 e0, .int .i64 e1, .int .i64 e2, .int .i64 e3] 33)) (Wf.heap.size + 1) #[.int .i64 e0, .int .i64 e1, .int .i64 e2, .int .i64 e3] 33)).alloc (.cells #[.string ⟨#[]⟩, .string ⟨#[]⟩, .string ⟨#[]⟩, .string ⟨#[]⟩, .string ⟨#[]⟩, .string ⟨#[]⟩, .string ⟨#[]⟩, .string ⟨#[]⟩] 31)).alloc (.cells #[.int .i64 0, .int .i64 0, .int .i64 0, .int .i64 0] 33))
         have Tn := Lib.hid (((j2 ▸ CBlk.new ((Wf.alloc (.cells #[.string x0, .string y0, .string x1, .string y1, .string x2, .string y2, .string x3, .string y3] 31)).alloc (.cells #[.int .i64 e0, .int .i64 e1, .int .i64 e2, .int .i64 e3] 33)) #[.string ⟨#[]⟩, .string ⟨#[]⟩, .string ⟨#[]⟩, .string ⟨#[]⟩, .string ⟨#[]⟩, .string ⟨#[]⟩, .string ⟨#[]⟩, .string ⟨#[]⟩] 31 : CBlk (((Wf.alloc (.cells #[.string x0, .string y0, .string x1, .string y1, .string x2, .string y2, .string x3, .string y3] 31)).alloc (.cells #[.int .i64 e0, .int .i64 e1, .int .i64 e2, .int .i64 e3] 33)).alloc (.cells #[.string ⟨#[]⟩, .string ⟨#[]⟩, .string ⟨#[]⟩, .string ⟨#[]⟩, .string ⟨#[]⟩, .string ⟨#[]⟩, .string ⟨#[]⟩, .string ⟨#[]⟩] 31)) (Wf.heap.size + 1 + 1) #[.string ⟨#[]⟩, .string ⟨#[]⟩, .string ⟨#[]⟩, .string ⟨#[]⟩, .string ⟨#[]⟩, .string ⟨#[]⟩, .string ⟨#[]⟩, .string ⟨#[]⟩] 31)).alloc (.cells #[.int .i64 0, .int .i64 0, .int .i64 0, .int .i64 0] 33))
         have Fn := Lib.hid ((j3 ▸ CBlk.new (((Wf.alloc (.cells #[.string x0, .string y0, .string x1, .string y1, .string x2, .string y2, .string x3, .string y3] 31)).alloc (.cells #[.int .i64 e0, .int .i64 e1, .int .i64 e2, .int .i64 e3] 33)).alloc (.cells #[.string ⟨#[]⟩, .string ⟨#[]⟩, .string ⟨#[]⟩, .string ⟨#[]⟩, .string ⟨#[]⟩, .string ⟨#[]⟩, .string ⟨#[]⟩, .string ⟨#[]⟩] 31)) #[.int .i64 0, .int .i64 0, .int .i64 0, .int .i64 0] 33 : CBlk ((((Wf.alloc (.cells #[.string x0, .string y0, .string x1, .string y1, .string x2, .string y2, .string x3, .string y3] 31)).alloc (.cells #[.int .i64 e0, .int .i64 e1, .int .i64 e2, .int .i64 e3] 33)).alloc (.cells #[.string ⟨#[]⟩, .string ⟨#[]⟩, .string ⟨#[]⟩, .string ⟨#[]⟩, .string ⟨#[]⟩, .string ⟨#[]⟩, .string ⟨#[]⟩, .string ⟨#[]⟩] 31)).alloc (.cells #[.int .i64 0, .int .i64 0, .int .i64 0, .int .i64 0] 33)) (Wf.heap.size + 1 + 1 + 1) #[.int .i64 0, .int .i64 0, .int .i64 0, .int .i64 0] 33))
         have HBn := Lib.hid ((((HB1.alloc gW (.cells #[.string x0, .string y0, .string x1, .string y1, .string x2, .string y2, .string x3, .string y3] 31)).alloc (by rw [j1]; omega) (.cells #[.int .i64 e0, .int .i64 e1, .int .i64 e2, .int .i64 e3] 33)).alloc (by rw [j2]; omega) (.cells #[.string ⟨#[]⟩, .string ⟨#[]⟩, .string ⟨#[]⟩, .string ⟨#[]⟩, .string ⟨#[]⟩, .string ⟨#[]⟩, .string ⟨#[]⟩, .string ⟨#[]⟩] 31)).alloc (by rw [j3]; omega) (.cells #[.int .i64 0, .int .i64 0, .int .i64 0, .int .i64 0] 33))
         clear B HB1 j1 j2 j3 All A Bb HB
         have All := Alln
         have A := An
         have Bb := Bbn
         have R := Rn
         have E := En
         have T := Tn
         have F := Fn
         have HB := HBn
         clear Alln An Bbn Rn En Tn Fn HBn
         have a0 := A.out.c0
         have a1c := A.out.c1
         have b0 := Bb.out.c0
         have b1c := Bb.out.c1
         go_wp2_with fail
         clear a0 a1c b0 b1c
         go_at_call 17
         refine (V0.out _).mono ?_
         rintro e Wv0 ⟨rfl, B⟩
         clear V0
         have Alln := Lib.hid (All.out.keep B All.out.lt)
         have An := Lib.hid (A.out.keep B A.out.lt)
         have Bbn := Lib.hid (Bb.out.keep B Bb.out.lt)
         have Rn := Lib.hid (R.out.keep B R.out.lt)
         have En := Lib.hid (E.out.keep B E.out.lt)
         have Tn := Lib.hid (T.out.keep B T.out.lt)
         have Fn := Lib.hid (F.out.keep B F.out.lt)
         have HBn := Lib.hid (HB.out.trans (B.mono HB.out.size))
         clear B HB All A Bb R E T F
         have All := Alln
         have A := An
         have Bb := Bbn
         have R := Rn
         have E := En
         have T := Tn
         have F := Fn
         have HB := HBn
         clear Alln An Bbn Rn En Tn Fn HBn
         have pc0 := T.out.c 0 rfl
         have pf0 := T.out.f 0
         have pb1 := T.out.c 1 rfl
         have pg1 := T.out.f 1
         have hs := T.out.set 0 (.string x0)
         have pc1 := hs.c 1 rfl
         have pf1 := hs.f 1
         have T2 : Hid (CBlk ((Wv0.setCell ⟨Wf.heap.size + 1 + 1, 0, none⟩ (.string x0)).setCell ⟨Wf.heap.size + 1 + 1, 1, none⟩ (.string y0)) (Wf.heap.size + 1 + 1) #[.string x0, .string y0, .string ⟨#[]⟩, .string ⟨#[]⟩, .string ⟨#[]⟩, .string ⟨#[]⟩, .string ⟨#[]⟩, .string ⟨#[]⟩] 31) := Lib.hid (hs.set 1 (.string y0))
         have F2 : Hid (CBlk ((Wv0.setCell ⟨Wf.heap.size + 1 + 1, 0, none⟩ (.string x0)).setCell ⟨Wf.heap.size + 1 + 1, 1, none⟩ (.string y0)) (Wf.heap.size + 1 + 1 + 1) #[.int .i64 0, .int .i64 0, .int .i64 0, .int .i64 0] 33) := Lib.hid ((F.out.other ⟨Wf.heap.size + 1 + 1, 0, none⟩ (.string x0) (show Wf.heap.size + 1 + 1 + 1 ≠ Wf.heap.size + 1 + 1 by omega)).other ⟨Wf.heap.size + 1 + 1, 1, none⟩ (.string y0) (show Wf.heap.size + 1 + 1 + 1 ≠ Wf.heap.size + 1 + 1 by omega))
         have qc0 := F2.out.c 0 rfl
         have qf0 := F2.out.f 0
         have Tn := Lib.hid (T2.out.other ⟨Wf.heap.size + 1 + 1 + 1, 0, none⟩ (.int .i64 e0) (show Wf.heap.size + 1 + 1 ≠ Wf.heap.size + 1 + 1 + 1 by omega))
         have Fn : Hid (CBlk (((Wv0.setCell ⟨Wf.heap.size + 1 + 1, 0, none⟩ (.string x0)).setCell ⟨Wf.heap.size + 1 + 1, 1, none⟩ (.string y0)).setCell ⟨Wf.heap.size + 1 + 1 + 1, 0, none⟩ (.int .i64 e0)) (Wf.heap.size + 1 + 1 + 1) #[.int .i64 e0, .int .i64 0, .int .i64 0, .int .i64 0] 33) := Lib.hid (F2.out.set 0 (.int .i64 e0))
         have Alln := Lib.hid (((All.out.other ⟨Wf.heap.size + 1 + 1, 0, none⟩ (.string x0) (show gA ≠ Wf.heap.size + 1 + 1 by omega)).other ⟨Wf.heap.size + 1 + 1, 1, none⟩ (.string y0) (show gA ≠ Wf.heap.size + 1 + 1 by omega)).other ⟨Wf.heap.size + 1 + 1 + 1, 0, none⟩ (.int .i64 e0) (show gA ≠ Wf.heap.size + 1 + 1 + 1 by omega))
         have An := Lib.hid (((A.out.other ⟨Wf.heap.size + 1 + 1, 0, none⟩ (.string x0) (show wr.heap.size ≠ Wf.heap.size + 1 + 1 by omega)).other ⟨Wf.heap.size + 1 + 1, 1, none⟩ (.string y0) (show wr.heap.size ≠ Wf.heap.size + 1 + 1 by omega)).other ⟨Wf.heap.size + 1 + 1 + 1, 0, none⟩ (.int .i64 e0) (show wr.heap.size ≠ Wf.heap.size + 1 + 1 + 1 by omega))
         have Bbn := Lib.hid (((Bb.out.other ⟨Wf.heap.size + 1 + 1, 0, none⟩ (.string x0) (show wr.heap.size + 1 ≠ Wf.heap.size + 1 + 1 by omega)).other ⟨Wf.heap.size + 1 + 1, 1, none⟩ (.string y0) (show wr.heap.size + 1 ≠ Wf.heap.size + 1 + 1 by omega)).other ⟨Wf.heap.size + 1 + 1 + 1, 0, none⟩ (.int .i64 e0) (show wr.heap.size + 1 ≠ Wf.heap.size + 1 + 1 + 1 by omega))
         have Rn := Lib.hid (((R.out.other ⟨Wf.heap.size + 1 + 1, 0, none⟩ (.string x0) (show Wf.heap.size ≠ Wf.heap.size + 1 + 1 by omega)).other ⟨Wf.heap.size + 1 + 1, 1, none⟩ (.string y0) (show Wf.heap.size ≠ Wf.heap.size + 1 + 1 by omega)).other ⟨Wf.heap.size + 1 + 1 + 1, 0, none⟩ (.int .i64 e0) (show Wf.heap.size ≠ Wf.heap.size + 1 + 1 + 1 by omega))
         have En := Lib.hid (((E.out.other ⟨Wf.heap.size + 1 + 1, 0, none⟩ (.string x0) (show Wf.heap.size + 1 ≠ Wf.heap.size + 1 + 1 by omega)).other ⟨Wf.heap.size + 1 + 1, 1, none⟩ (.string y0) (show Wf.heap.size + 1 ≠ Wf.heap.size + 1 + 1 by omega)).other ⟨Wf.heap.size + 1 + 1 + 1, 0, none⟩ (.int .i64 e0) (show Wf.heap.size + 1 ≠ Wf.heap.size + 1 + 1 + 1 by omega))
         have HBn := Lib.hid (((HB.out.setCell (p := ⟨Wf.heap.size + 1 + 1, 0, none⟩) (show w.heap.size ≤ Wf.heap.size + 1 + 1 by omega) (.string x0)).setCell (p := ⟨Wf.heap.size + 1 + 1, 1, none⟩) (show w.heap.size ≤ Wf.heap.size + 1 + 1 by omega) (.string y0)).setCell (p := ⟨Wf.heap.size + 1 + 1 + 1, 0, none⟩) (show w.heap.size ≤ Wf.heap.size + 1 + 1 + 1 by omega) (.int .i64 e0))
         clear hs T2 F2 HB All A Bb R E T F
         have All := Alln
         have A := An
         have Bb := Bbn
         have R := Rn
         have E := En
         have T := Tn
         have F := Fn
         have HB := HBn
         clear Alln An Bbn Rn En Tn Fn HBn
         have a0 := A.out.c0
         have a1c := A.out.c1
         have b0 := Bb.out.c0
         have b1c := Bb.out.c1
         go_wp2_with fail
         clear pc0 pf0 pb1 pg1 pc1 pf1 qc0 qf0 a0 a1c b0 b1c
         go_at_call 18
         refine (V1.out _).mono ?_
         rintro e Wv1 ⟨rfl, B⟩
         clear V1
         have Alln := Lib.hid (All.out.keep B All.out.lt)
         have An := Lib.hid (A.out.keep B A.out.lt)
         have Bbn := Lib.hid (Bb.out.keep B Bb.out.lt)
         have Rn := Lib.hid (R.out.keep B R.out.lt)
         have En := Lib.hid (E.out.keep B E.out.lt)
         have Tn := Lib.hid (T.out.keep B T.out.lt)
         have Fn := Lib.hid (F.out.keep B F.out.lt)
         have HBn := Lib.hid (HB.out.trans (B.mono HB.out.size))
         clear B HB All A Bb R E T F
         have All := Alln
         have A := An
         have Bb := Bbn
         have R := Rn
         have E := En
         have T := Tn
         have F := Fn
         have HB := HBn
         clear Alln An Bbn Rn En Tn Fn HBn
         have pc0 := T.out.c 2 rfl
         have pf0 := T.out.f 2
         have pb1 := T.out.c 3 rfl
         have pg1 := T.out.f 3
         have hs := T.out.set 2 (.string x1)
         have pc1 := hs.c 3 rfl
         have pf1 := hs.f 3
         have T2 : Hid (CBlk ((Wv1.setCell ⟨Wf.heap.size + 1 + 1, 2, none⟩ (.string x1)).setCell ⟨Wf.heap.size + 1 + 1, 3, none⟩ (.string y1)) (Wf.heap.size + 1 + 1) #[.string x0, .string y0, .string x1, .string y1, .string ⟨#[]⟩, .string ⟨#[]⟩, .string ⟨#[]⟩, .string ⟨#[]⟩] 31) := Lib.hid (hs.set 3 (.string y1))
         have F2 : Hid (CBlk ((Wv1.setCell ⟨Wf.heap.size + 1 + 1, 2, none⟩ (.string x1)).setCell ⟨Wf.heap.size + 1 + 1, 3, none⟩ (.string y1)) (Wf.heap.size + 1 + 1 + 1) #[.int .i64 e0, .int .i64 0, .int .i64 0, .int .i64 0] 33) := Lib.hid ((F.out.other ⟨Wf.heap.size + 1 + 1, 2, none⟩ (.string x1) (show Wf.heap.size + 1 + 1 + 1 ≠ Wf.heap.size + 1 + 1 by omega)).other ⟨Wf.heap.size + 1 + 1, 3, none⟩ (.string y1) (show Wf.heap.size + 1 + 1 + 1 ≠ Wf.heap.size + 1 + 1 by omega))
         have qc0 := F2.out.c 1 rfl
         have qf0 := F2.out.f 1
         have Tn := Lib.hid (T2.out.other ⟨Wf.heap.size + 1 + 1 + 1, 1, none⟩ (.int .i64 e1) (show Wf.heap.size + 1 + 1 ≠ Wf.heap.size + 1 + 1 + 1 by omega))
         have Fn : Hid (CBlk (((Wv1.setCell ⟨Wf.heap.size + 1 + 1, 2, none⟩ (.string x1)).setCell ⟨Wf.heap.size + 1 + 1, 3, none⟩ (.string y1)).setCell ⟨Wf.heap.size + 1 + 1 + 1, 1, none⟩ (.int .i64 e1)) (Wf.heap.size + 1 + 1 + 1) #[.int .i64 e0, .int .i64 e1, .int .i64 0, .int .i64 0] 33) := Lib.hid (F2.out.set 1 (.int .i64 e1))
         have Alln := Lib.hid (((All.out.other ⟨Wf.heap.size + 1 + 1, 2, none⟩ (.string x1) (show gA ≠ Wf.heap.size + 1 + 1 by omega)).other ⟨Wf.heap.size + 1 + 1, 3, none⟩ (.string y1) (show gA ≠ Wf.heap.size + 1 + 1 by omega)).other ⟨Wf.heap.size + 1 + 1 + 1, 1, none⟩ (.int .i64 e1) (show gA ≠ Wf.heap.size + 1 + 1 + 1 by omega))
         have An := Lib.hid (((A.out.other ⟨Wf.heap.size + 1 + 1, 2, none⟩ (.string x1) (show wr.heap.size ≠ Wf.heap.size + 1 + 1 by omega)).other ⟨Wf.heap.size + 1 + 1, 3, none⟩ (.string y1) (show wr.heap.size ≠ Wf.heap.size + 1 + 1 by omega)).other ⟨Wf.heap.size + 1 + 1 + 1, 1, none⟩ (.int .i64 e1) (show wr.heap.size ≠ Wf.heap.size + 1 + 1 + 1 by omega))
         have Bbn := Lib.hid (((Bb.out.other ⟨Wf.heap.size + 1 + 1, 2, none⟩ (.string x1) (show wr.heap.size + 1 ≠ Wf.heap.size + 1 + 1 by omega)).other ⟨Wf.heap.size + 1 + 1, 3, none⟩ (.string y1) (show wr.heap.size + 1 ≠ Wf.heap.size + 1 + 1 by omega)).other ⟨Wf.heap.size + 1 + 1 + 1, 1, none⟩ (.int .i64 e1) (show wr.heap.size + 1 ≠ Wf.heap.size + 1 + 1 + 1 by omega))
         have Rn := Lib.hid (((R.out.other ⟨Wf.heap.size + 1 + 1, 2, none⟩ (.string x1) (show Wf.heap.size ≠ Wf.heap.size + 1 + 1 by omega)).other ⟨Wf.heap.size + 1 + 1, 3, none⟩ (.string y1) (show Wf.heap.size ≠ Wf.heap.size + 1 + 1 by omega)).other ⟨Wf.heap.size + 1 + 1 + 1, 1, none⟩ (.int .i64 e1) (show Wf.heap.size ≠ Wf.heap.size + 1 + 1 + 1 by omega))
         have En := Lib.hid (((E.out.other ⟨Wf.heap.size + 1 + 1, 2, none⟩ (.string x1) (show Wf.heap.size + 1 ≠ Wf.heap.size + 1 + 1 by omega)).other ⟨Wf.heap.size + 1 + 1, 3, none⟩ (.string y1) (show Wf.heap.size + 1 ≠ Wf.heap.size + 1 + 1 by omega)).other ⟨Wf.heap.size + 1 + 1 + 1, 1, none⟩ (.int .i64 e1) (show Wf.heap.size + 1 ≠ Wf.heap.size + 1 + 1 + 1 by omega))
         have HBn := Lib.hid (((HB.out.setCell (p := ⟨Wf.heap.size + 1 + 1, 2, none⟩) (show w.heap.size ≤ Wf.heap.size + 1 + 1 by omega) (.string x1)).setCell (p := ⟨Wf.heap.size + 1 + 1, 3, none⟩) (show w.heap.size ≤ Wf.heap.size + 1 + 1 by omega) (.string y1)).setCell (p := ⟨Wf.heap.size + 1 + 1 + 1, 1, none⟩) (show w.heap.size ≤ Wf.heap.size + 1 + 1 + 1 by omega) (.int .i64 e1))
         clear hs T2 F2 HB All A Bb R E T F
         have All := Alln
         have A := An
         have Bb := Bbn
         have R := Rn
         have E := En
         have T := Tn
         have F := Fn
         have HB := HBn
         clear Alln An Bbn Rn En Tn Fn HBn
         have a0 := A.out.c0
         have a1c := A.out.c1
         have b0 := Bb.out.c0
         have b1c := Bb.out.c1
         go_wp2_with fail
         clear pc0 pf0 pb1 pg1 pc1 pf1 qc0 qf0 a0 a1c b0 b1c
         go_at_call 19
         refine (V2.out _).mono ?_
         rintro e Wv2 ⟨rfl, B⟩
         clear V2
         have Alln := Lib.hid (All.out.keep B All.out.lt)
         have An := Lib.hid (A.out.keep B A.out.lt)
         have Bbn := Lib.hid (Bb.out.keep B Bb.out.lt)
         have Rn := Lib.hid (R.out.keep B R.out.lt)
         have En := Lib.hid (E.out.keep B E.out.lt)
         have Tn := Lib.hid (T.out.keep B T.out.lt)
         have Fn := Lib.hid (F.out.keep B F.out.lt)
         have HBn := Lib.hid (HB.out.trans (B.mono HB.out.size))
         clear B HB All A Bb R E T F
         have All := Alln
         have A := An
         have Bb := Bbn
         have R := Rn
         have E := En
         have T := Tn
         have F := Fn
         have HB := HBn
         clear Alln An Bbn Rn En Tn Fn HBn
         have pc0 := T.out.c 4 rfl
         have pf0 := T.out.f 4
         have pb1 := T.out.c 5 rfl
         have pg1 := T.out.f 5
         have hs := T.out.set 4 (.string x2)
         have pc1 := hs.c 5 rfl
         have pf1 := hs.f 5
         have T2 : Hid (CBlk ((Wv2.setCell ⟨Wf.heap.size + 1 + 1, 4, none⟩ (.string x2)).setCell ⟨Wf.heap.size + 1 + 1, 5, none⟩ (.string y2)) (Wf.heap.size + 1 + 1) #[.string x0, .string y0, .string x1, .string y1, .string x2, .string y2, .string ⟨#[]⟩, .string ⟨#[]⟩] 31) := Lib.hid (hs.set 5 (.string y2))
         have F2 : Hid (CBlk ((Wv2.setCell ⟨Wf.heap.size + 1 + 1, 4, none⟩ (.string x2)).setCell ⟨Wf.heap.size + 1 + 1, 5, none⟩ (.string y2)) (Wf.heap.size + 1 + 1 + 1) #[.int .i64 e0, .int .i64 e1, .int .i64 0, .int .i64 0] 33) := Lib.hid ((F.out.other ⟨Wf.heap.size + 1 + 1, 4, none⟩ (.string x2) (show Wf.heap.size + 1 + 1 + 1 ≠ Wf.heap.size + 1 + 1 by omega)).other ⟨Wf.heap.size + 1 + 1, 5, none⟩ (.string y2) (show Wf.heap.size + 1 + 1 + 1 ≠ Wf.heap.size + 1 + 1 by omega))
         have qc0 := F2.out.c 2 rfl
         have qf0 := F2.out.f 2
         have Tn := Lib.hid (T2.out.other ⟨Wf.heap.size + 1 + 1 + 1, 2, none⟩ (.int .i64 e2) (show Wf.heap.size + 1 + 1 ≠ Wf.heap.size + 1 + 1 + 1 by omega))
         have Fn : Hid (CBlk (((Wv2.setCell ⟨Wf.heap.size + 1 + 1, 4, none⟩ (.string x2)).setCell ⟨Wf.heap.size + 1 + 1, 5, none⟩ (.string y2)).setCell ⟨Wf.heap.size + 1 + 1 + 1, 2, none⟩ (.int .i64 e2)) (Wf.heap.size + 1 + 1 + 1) #[.int .i64 e0, .int .i64 e1, .int .i64 e2, .int .i64 0] 33) := Lib.hid (F2.out.set 2 (.int .i64 e2))
         have Alln := Lib.hid (((All.out.other ⟨Wf.heap.size + 1 + 1, 4, none⟩ (.string x2) (show gA ≠ Wf.heap.size + 1 + 1 by omega)).other ⟨Wf.heap.size + 1 + 1, 5, none⟩ (.string y2) (show gA ≠ Wf.heap.size + 1 + 1 by omega)).other ⟨Wf.heap.size + 1 + 1 + 1, 2, none⟩ (.int .i64 e2) (show gA ≠ Wf.heap.size + 1 + 1 + 1 by omega))
         have An := Lib.hid (((A.out.other ⟨Wf.heap.size + 1 + 1, 4, none⟩ (.string x2) (show wr.heap.size ≠ Wf.heap.size + 1 + 1 by omega)).other ⟨Wf.heap.size + 1 + 1, 5, none⟩ (.string y2) (show wr.heap.size ≠ Wf.heap.size + 1 + 1 by omega)).other ⟨Wf.heap.size + 1 + 1 + 1, 2, none⟩ (.int .i64 e2) (show wr.heap.size ≠ Wf.heap.size + 1 + 1 + 1 by omega))
         have Bbn := Lib.hid (((Bb.out.other ⟨Wf.heap.size + 1 + 1, 4, none⟩ (.string x2) (show wr.heap.size + 1 ≠ Wf.heap.size + 1 + 1 by omega)).other ⟨Wf.heap.size + 1 + 1, 5, none⟩ (.string y2) (show wr.heap.size + 1 ≠ Wf.heap.size + 1 + 1 by omega)).other ⟨Wf.heap.size + 1 + 1 + 1, 2, none⟩ (.int .i64 e2) (show wr.heap.size + 1 ≠ Wf.heap.size + 1 + 1 + 1 by omega))
         have Rn := Lib.hid (((R.out.other ⟨Wf.heap.size + 1 + 1, 4, none⟩ (.string x2) (show Wf.heap.size ≠ Wf.heap.size + 1 + 1 by omega)).other ⟨Wf.heap.size + 1 + 1, 5, none⟩ (.string y2) (show Wf.heap.size ≠ Wf.heap.size + 1 + 1 by omega)).other ⟨Wf.heap.size + 1 + 1 + 1, 2, none⟩ (.int .i64 e2) (show Wf.heap.size ≠ Wf.heap.size + 1 + 1 + 1 by omega))
         have En := Lib.hid (((E.out.other ⟨Wf.heap.size + 1 + 1, 4, none⟩ (.string x2) (show Wf.heap.size + 1 ≠ Wf.heap.size + 1 + 1 by omega)).other ⟨Wf.heap.size + 1 + 1, 5, none⟩ (.string y2) (show Wf.heap.size + 1 ≠ Wf.heap.size + 1 + 1 by omega)).other ⟨Wf.heap.size + 1 + 1 + 1, 2, none⟩ (.int .i64 e2) (show Wf.heap.size + 1 ≠ Wf.heap.size + 1 + 1 + 1 by omega))
         have HBn := Lib.hid (((HB.out.setCell (p := ⟨Wf.heap.size + 1 + 1, 4, none⟩) (show w.heap.size ≤ Wf.heap.size + 1 + 1 by omega) (.string x2)).setCell (p := ⟨Wf.heap.size + 1 + 1, 5, none⟩) (show w.heap.size ≤ Wf.heap.size + 1 + 1 by omega) (.string y2)).setCell (p := ⟨Wf.heap.size + 1 + 1 + 1, 2, none⟩) (show w.heap.size ≤ Wf.heap.size + 1 + 1 + 1 by omega) (.int .i64 e2))
         clear hs T2 F2 HB All A Bb R E T F
         have All := Alln
         have A := An
         have Bb := Bbn
         have R := Rn
         have E := En
         have T := Tn
         have F := Fn
         have HB := HBn
         clear Alln An Bbn Rn En Tn Fn HBn
         have a0 := A.out.c0
         have a1c := A.out.c1
         have b0 := Bb.out.c0
         have b1c := Bb.out.c1
         go_wp2_with fail
         clear pc0 pf0 pb1 pg1 pc1 pf1 qc0 qf0 a0 a1c b0 b1c
         go_at_call 20
         refine (V3.out _).mono ?_
         rintro e Wv3 ⟨rfl, B⟩
         clear V3
         have Alln := Lib.hid (All.out.keep B All.out.lt)
         have An := Lib.hid (A.out.keep B A.out.lt)
         have Bbn := Lib.hid (Bb.out.keep B Bb.out.lt)
         have Rn := Lib.hid (R.out.keep B R.out.lt)
         have En := Lib.hid (E.out.keep B E.out.lt)
         have Tn := Lib.hid (T.out.keep B T.out.lt)
         have Fn := Lib.hid (F.out.keep B F.out.lt)
         have HBn := Lib.hid (HB.out.trans (B.mono HB.out.size))
         clear B HB All A Bb R E T F
         have All := Alln
         have A := An
         have Bb := Bbn
         have R := Rn
         have E := En
         have T := Tn
         have F := Fn
         have HB := HBn
         clear Alln An Bbn Rn En Tn Fn HBn
         have pc0 := T.out.c 6 rfl
         have pf0 := T.out.f 6
         have pb1 := T.out.c 7 rfl
         have pg1 := T.out.f 7
         have hs := T.out.set 6 (.string x3)
         have pc1 := hs.c 7 rfl
         have pf1 := hs.f 7
         have T2 : Hid (CBlk ((Wv3.setCell ⟨Wf.heap.size + 1 + 1, 6, none⟩ (.string x3)).setCell ⟨Wf.heap.size + 1 + 1, 7, none⟩ (.string y3)) (Wf.heap.size + 1 + 1) #[.string x0, .string y0, .string x1, .string y1, .string x2, .string y2, .string x3, .string y3] 31) := Lib.hid (hs.set 7 (.string y3))
         have F2 : Hid (CBlk ((Wv3.setCell ⟨Wf.heap.size + 1 + 1, 6, none⟩ (.string x3)).setCell ⟨Wf.heap.size + 1 + 1, 7, none⟩ (.string y3)) (Wf.heap.size + 1 + 1 + 1) #[.int .i64 e0, .int .i64 e1, .int .i64 e2, .int .i64 0] 33) := Lib.hid ((F.out.other ⟨Wf.heap.size + 1 + 1, 6, none⟩ (.string x3) (show Wf.heap.size + 1 + 1 + 1 ≠ Wf.heap.size + 1 + 1 by omega)).other ⟨Wf.heap.size + 1 + 1, 7, none⟩ (.string y3) (show Wf.heap.size + 1 + 1 + 1 ≠ Wf.heap.size + 1 + 1 by omega))
         have qc0 := F2.out.c 3 rfl
         have qf0 := F2.out.f 3
         have Tn := Lib.hid (T2.out.other ⟨Wf.heap.size + 1 + 1 + 1, 3, none⟩ (.int .i64 e3) (show Wf.heap.size + 1 + 1 ≠ Wf.heap.size + 1 + 1 + 1 by omega))
         have Fn : Hid (CBlk (((Wv3.setCell ⟨Wf.heap.size + 1 + 1, 6, none⟩ (.string x3)).setCell ⟨Wf.heap.size + 1 + 1, 7, none⟩ (.string y3)).setCell ⟨Wf.heap.size + 1 + 1 + 1, 3, none⟩ (.int .i64 e3)) (Wf.heap.size + 1 + 1 + 1) #[.int .i64 e0, .int .i64 e1, .int .i64 e2, .int .i64 e3] 33) := Lib.hid (F2.out.set 3 (.int .i64 e3))
         have Alln := Lib.hid (((All.out.other ⟨Wf.heap.size + 1 + 1, 6, none⟩ (.string x3) (show gA ≠ Wf.heap.size + 1 + 1 by omega)).other ⟨Wf.heap.size + 1 + 1, 7, none⟩ (.string y3) (show gA ≠ Wf.heap.size + 1 + 1 by omega)).other ⟨Wf.heap.size + 1 + 1 + 1, 3, none⟩ (.int .i64 e3) (show gA ≠ Wf.heap.size + 1 + 1 + 1 by omega))
         have An := Lib.hid (((A.out.other ⟨Wf.heap.size + 1 + 1, 6, none⟩ (.string x3) (show wr.heap.size ≠ Wf.heap.size + 1 + 1 by omega)).other ⟨Wf.heap.size + 1 + 1, 7, none⟩ (.string y3) (show wr.heap.size ≠ Wf.heap.size + 1 + 1 by omega)).other ⟨Wf.heap.size + 1 + 1 + 1, 3, none⟩ (.int .i64 e3) (show wr.heap.size ≠ Wf.heap.size + 1 + 1 + 1 by omega))
         have Bbn := Lib.hid (((Bb.out.other ⟨Wf.heap.size + 1 + 1, 6, none⟩ (.string x3) (show wr.heap.size + 1 ≠ Wf.heap.size + 1 + 1 by omega)).other ⟨Wf.heap.size + 1 + 1, 7, none⟩ (.string y3) (show wr.heap.size + 1 ≠ Wf.heap.size + 1 + 1 by omega)).other ⟨Wf.heap.size + 1 + 1 + 1, 3, none⟩ (.int .i64 e3) (show wr.heap.size + 1 ≠ Wf.heap.size + 1 + 1 + 1 by omega))
         have Rn := Lib.hid (((R.out.other ⟨Wf.heap.size + 1 + 1, 6, none⟩ (.string x3) (show Wf.heap.size ≠ Wf.heap.size + 1 + 1 by omega)).other ⟨Wf.heap.size + 1 + 1, 7, none⟩ (.string y3) (show Wf.heap.size ≠ Wf.heap.size + 1 + 1 by omega)).other ⟨Wf.heap.size + 1 + 1 + 1, 3, none⟩ (.int .i64 e3) (show Wf.heap.size ≠ Wf.heap.size + 1 + 1 + 1 by omega))
         have En := Lib.hid (((E.out.other ⟨Wf.heap.size + 1 + 1, 6, none⟩ (.string x3) (show Wf.heap.size + 1 ≠ Wf.heap.size + 1 + 1 by omega)).other ⟨Wf.heap.size + 1 + 1, 7, none⟩ (.string y3) (show Wf.heap.size + 1 ≠ Wf.heap.size + 1 + 1 by omega)).other ⟨Wf.heap.size + 1 + 1 + 1, 3, none⟩ (.int .i64 e3) (show Wf.heap.size + 1 ≠ Wf.heap.size + 1 + 1 + 1 by omega))
         have HBn := Lib.hid (((HB.out.setCell (p := ⟨Wf.heap.size + 1 + 1, 6, none⟩) (show w.heap.size ≤ Wf.heap.size + 1 + 1 by omega) (.string x3)).setCell (p := ⟨Wf.heap.size + 1 + 1, 7, none⟩) (show w.heap.size ≤ Wf.heap.size + 1 + 1 by omega) (.string y3)).setCell (p := ⟨Wf.heap.size + 1 + 1 + 1, 3, none⟩) (show w.heap.size ≤ Wf.heap.size + 1 + 1 + 1 by omega) (.int .i64 e3))
         clear hs T2 F2 HB All A Bb R E T F
         have All := Alln
         have A := An
         have Bb := Bbn
         have R := Rn
         have E := En
         have T := Tn
         have F := Fn
         have HB := HBn
         clear Alln An Bbn Rn En Tn Fn HBn
         go_upto_region 20 with fail
         clear pc0 pf0 pb1 pg1 pc1 pf1 qc0 qf0 lAll lA lBb gW
         have hq1 := fun w => eq_r4 x0 y0 x1 y1 x2 y2 x3 y3 w
         have hq2 := fun w => eq_e4 e0 e1 e2 e3 w
         generalize hW0i20 : (((Wv3.setCell ⟨Wf.heap.size + 1 + 1, 6, none⟩ (.string x3)).setCell ⟨Wf.heap.size + 1 + 1, 7, none⟩ (.string y3)).setCell ⟨Wf.heap.size + 1 + 1 + 1, 3, none⟩ (.int .i64 e3)) = W0i20 at *
         clear hW0i20
         refine wp_region_noPanic ?_
         refine wp_region_held_drew (S := fun W => RBlk W (wr.heap.size) (.string a1) (.string a2) ∧ RBlk W (wr.heap.size + 1) (.string b1) (.string b2) ∧ CBlk W (Wf.heap.size) #[.string x0, .string y0, .string x1, .string y1, .string x2, .string y2, .string x3, .string y3] 31 ∧ CBlk W (Wf.heap.size + 1) #[.int .i64 e0, .int .i64 e1, .int .i64 e2, .int .i64 e3] 33 ∧ CBlk W (Wf.heap.size + 1 + 1) #[.string x0, .string y0, .string x1, .string y1, .string x2, .string y2, .string x3, .string y3] 31 ∧ CBlk W (Wf.heap.size + 1 + 1 + 1) #[.int .i64 e0, .int .i64 e1, .int .i64 e2, .int .i64 e3] 33) (by kernel_rfl) ?_ (fun hHeld => ?_)
         ·
          exact ⟨A.out, Bb.out, R.out, E.out, T.out, F.out⟩
         have Alln := Lib.hid All.out.drew
         have An := Lib.hid A.out.drew
         have Bbn := Lib.hid Bb.out.drew
         have Rn := Lib.hid R.out.drew
         have En := Lib.hid E.out.drew
         have Tn := Lib.hid T.out.drew
         have Fn := Lib.hid F.out.drew
         have HBn := Lib.hid HB.out.drew
         clear All A Bb R E T F HB
         have All := Alln
         have A := An
         have Bb := Bbn
         have R := Rn
         have E := En
         have T := Tn
         have F := Fn
         have HB := HBn
         clear Alln An Bbn Rn En Tn Fn HBn
         refine tk 0 (oi := ({ dst := some 117, op := .load 31 (.tmp 23), type := 31, pos := "law.go:77", after := #[], guard := none } : Oper)) (v := ?v0_1i_20_3) ?hy0_1i_20_3 ?re0_1i_20_3
         case hy0_1i_20_3 => ((intro w hSw; have e0_0 := hSw.1.c0; have e0_1 := hSw.1.c1; have e1_0 := hSw.2.1.c0; have e1_1 := hSw.2.1.c1; have e2_0 := hSw.2.2.1.c 0 rfl; have e2_1 := hSw.2.2.1.c 1 rfl; have e2_2 := hSw.2.2.1.c 2 rfl; have e2_3 := hSw.2.2.1.c 3 rfl; have e2_4 := hSw.2.2.1.c 4 rfl; have e2_5 := hSw.2.2.1.c 5 rfl; have e2_6 := hSw.2.2.1.c 6 rfl; have e2_7 := hSw.2.2.1.c 7 rfl; have e3_0 := hSw.2.2.2.1.c 0 rfl; have e3_1 := hSw.2.2.2.1.c 1 rfl; have e3_2 := hSw.2.2.2.1.c 2 rfl; have e3_3 := hSw.2.2.2.1.c 3 rfl; have e4_0 := hSw.2.2.2.2.1.c 0 rfl; have e4_1 := hSw.2.2.2.2.1.c 1 rfl; have e4_2 := hSw.2.2.2.2.1.c 2 rfl; have e4_3 := hSw.2.2.2.2.1.c 3 rfl; have e4_4 := hSw.2.2.2.2.1.c 4 rfl; have e4_5 := hSw.2.2.2.2.1.c 5 rfl; have e4_6 := hSw.2.2.2.2.1.c 6 rfl; have e4_7 := hSw.2.2.2.2.1.c 7 rfl; have e5_0 := hSw.2.2.2.2.2.c 0 rfl; have e5_1 := hSw.2.2.2.2.2.c 1 rfl; have e5_2 := hSw.2.2.2.2.2.c 2 rfl; have e5_3 := hSw.2.2.2.2.2.c 3 rfl; go_simp) <;> with_reducible rfl)
         (try simp only [Act.put, List.setIfInBounds_toArray, List.set_cons_zero, List.set_cons_succ])
         refine tk 1 (oi := ({ dst := some 118, op := .load 31 (.tmp 25), type := 31, pos := "law.go:77", after := #[], guard := none } : Oper)) (v := ?v1_2i_20_3) ?hy1_2i_20_3 ?re1_2i_20_3
         case hy1_2i_20_3 => ((intro w hSw; have e0_0 := hSw.1.c0; have e0_1 := hSw.1.c1; have e1_0 := hSw.2.1.c0; have e1_1 := hSw.2.1.c1; have e2_0 := hSw.2.2.1.c 0 rfl; have e2_1 := hSw.2.2.1.c 1 rfl; have e2_2 := hSw.2.2.1.c 2 rfl; have e2_3 := hSw.2.2.1.c 3 rfl; have e2_4 := hSw.2.2.1.c 4 rfl; have e2_5 := hSw.2.2.1.c 5 rfl; have e2_6 := hSw.2.2.1.c 6 rfl; have e2_7 := hSw.2.2.1.c 7 rfl; have e3_0 := hSw.2.2.2.1.c 0 rfl; have e3_1 := hSw.2.2.2.1.c 1 rfl; have e3_2 := hSw.2.2.2.1.c 2 rfl; have e3_3 := hSw.2.2.2.1.c 3 rfl; have e4_0 := hSw.2.2.2.2.1.c 0 rfl; have e4_1 := hSw.2.2.2.2.1.c 1 rfl; have e4_2 := hSw.2.2.2.2.1.c 2 rfl; have e4_3 := hSw.2.2.2.2.1.c 3 rfl; have e4_4 := hSw.2.2.2.2.1.c 4 rfl; have e4_5 := hSw.2.2.2.2.1.c 5 rfl; have e4_6 := hSw.2.2.2.2.1.c 6 rfl; have e4_7 := hSw.2.2.2.2.1.c 7 rfl; have e5_0 := hSw.2.2.2.2.2.c 0 rfl; have e5_1 := hSw.2.2.2.2.2.c 1 rfl; have e5_2 := hSw.2.2.2.2.2.c 2 rfl; have e5_3 := hSw.2.2.2.2.2.c 3 rfl; go_simp) <;> with_reducible rfl)
         (try simp only [Act.put, List.setIfInBounds_toArray, List.set_cons_zero, List.set_cons_succ])
         refine tk 2 (oi := ({ dst := some 119, op := .binOp .neq 31 (.tmp 117) (.tmp 118) 31, type := 4, pos := "law.go:77", after := #[⟨0, .data⟩, ⟨1, .data⟩], guard := none } : Oper)) (v := ?v2_3i_20_3) ?hy2_3i_20_3 ?re2_3i_20_3
         case hy2_3i_20_3 => (intro w hSw; go_simp) <;> with_reducible rfl
         (try simp only [Act.put, List.setIfInBounds_toArray, List.set_cons_zero, List.set_cons_succ])
         refine tk 3 (oi := ({ dst := some 120, op := .move (.tmp 119), type := 4, pos := "law.go:77", after := #[⟨2, .data⟩], guard := none } : Oper)) (v := ?v3_4i_20_3) ?hy3_4i_20_3 ?re3_4i_20_3
         case hy3_4i_20_3 => (intro w hSw; go_simp) <;> with_reducible rfl
         (try simp only [Act.put, List.setIfInBounds_toArray, List.set_cons_zero, List.set_cons_succ])
         refine tk 4 (oi := ({ dst := some 121, op := .load 33 (.tmp 24), type := 33, pos := "law.go:77", after := #[⟨3, .guard⟩], guard := some (3, false) } : Oper)) (v := ?v4_5i_20_3) ?hy4_5i_20_3 ?re4_5i_20_3
         case hy4_5i_20_3 => ((intro w hSw; have e0_0 := hSw.1.c0; have e0_1 := hSw.1.c1; have e1_0 := hSw.2.1.c0; have e1_1 := hSw.2.1.c1; have e2_0 := hSw.2.2.1.c 0 rfl; have e2_1 := hSw.2.2.1.c 1 rfl; have e2_2 := hSw.2.2.1.c 2 rfl; have e2_3 := hSw.2.2.1.c 3 rfl; have e2_4 := hSw.2.2.1.c 4 rfl; have e2_5 := hSw.2.2.1.c 5 rfl; have e2_6 := hSw.2.2.1.c 6 rfl; have e2_7 := hSw.2.2.1.c 7 rfl; have e3_0 := hSw.2.2.2.1.c 0 rfl; have e3_1 := hSw.2.2.2.1.c 1 rfl; have e3_2 := hSw.2.2.2.1.c 2 rfl; have e3_3 := hSw.2.2.2.1.c 3 rfl; have e4_0 := hSw.2.2.2.2.1.c 0 rfl; have e4_1 := hSw.2.2.2.2.1.c 1 rfl; have e4_2 := hSw.2.2.2.2.1.c 2 rfl; have e4_3 := hSw.2.2.2.2.1.c 3 rfl; have e4_4 := hSw.2.2.2.2.1.c 4 rfl; have e4_5 := hSw.2.2.2.2.1.c 5 rfl; have e4_6 := hSw.2.2.2.2.1.c 6 rfl; have e4_7 := hSw.2.2.2.2.1.c 7 rfl; have e5_0 := hSw.2.2.2.2.2.c 0 rfl; have e5_1 := hSw.2.2.2.2.2.c 1 rfl; have e5_2 := hSw.2.2.2.2.2.c 2 rfl; have e5_3 := hSw.2.2.2.2.2.c 3 rfl; go_simp) <;> with_reducible rfl)
         (try simp only [Act.put, List.setIfInBounds_toArray, List.set_cons_zero, List.set_cons_succ])
         refine tk 5 (oi := ({ dst := some 122, op := .load 33 (.tmp 26), type := 33, pos := "law.go:77", after := #[⟨3, .guard⟩], guard := some (3, false) } : Oper)) (v := ?v5_6i_20_3) ?hy5_6i_20_3 ?re5_6i_20_3
         case hy5_6i_20_3 => ((intro w hSw; have e0_0 := hSw.1.c0; have e0_1 := hSw.1.c1; have e1_0 := hSw.2.1.c0; have e1_1 := hSw.2.1.c1; have e2_0 := hSw.2.2.1.c 0 rfl; have e2_1 := hSw.2.2.1.c 1 rfl; have e2_2 := hSw.2.2.1.c 2 rfl; have e2_3 := hSw.2.2.1.c 3 rfl; have e2_4 := hSw.2.2.1.c 4 rfl; have e2_5 := hSw.2.2.1.c 5 rfl; have e2_6 := hSw.2.2.1.c 6 rfl; have e2_7 := hSw.2.2.1.c 7 rfl; have e3_0 := hSw.2.2.2.1.c 0 rfl; have e3_1 := hSw.2.2.2.1.c 1 rfl; have e3_2 := hSw.2.2.2.1.c 2 rfl; have e3_3 := hSw.2.2.2.1.c 3 rfl; have e4_0 := hSw.2.2.2.2.1.c 0 rfl; have e4_1 := hSw.2.2.2.2.1.c 1 rfl; have e4_2 := hSw.2.2.2.2.1.c 2 rfl; have e4_3 := hSw.2.2.2.2.1.c 3 rfl; have e4_4 := hSw.2.2.2.2.1.c 4 rfl; have e4_5 := hSw.2.2.2.2.1.c 5 rfl; have e4_6 := hSw.2.2.2.2.1.c 6 rfl; have e4_7 := hSw.2.2.2.2.1.c 7 rfl; have e5_0 := hSw.2.2.2.2.2.c 0 rfl; have e5_1 := hSw.2.2.2.2.2.c 1 rfl; have e5_2 := hSw.2.2.2.2.2.c 2 rfl; have e5_3 := hSw.2.2.2.2.2.c 3 rfl; go_simp) <;> with_reducible rfl)
         (try simp only [Act.put, List.setIfInBounds_toArray, List.set_cons_zero, List.set_cons_succ])
         refine tk 6 (oi := ({ dst := some 123, op := .binOp .neq 33 (.tmp 121) (.tmp 122) 33, type := 4, pos := "law.go:77", after := #[⟨4, .data⟩, ⟨5, .data⟩, ⟨3, .guard⟩], guard := some (3, false) } : Oper)) (v := ?v6_7i_20_3) ?hy6_7i_20_3 ?re6_7i_20_3
         case hy6_7i_20_3 => (intro w hSw; go_simp) <;> with_reducible rfl
         (try simp only [Act.put, List.setIfInBounds_toArray, List.set_cons_zero, List.set_cons_succ])
         refine tk 7 (oi := ({ dst := some 124, op := .pick (.tmp 120) (.const (.bool true)) (.tmp 123), type := 4, pos := "law.go:77", after := #[⟨3, .data⟩, ⟨6, .data⟩], guard := none } : Oper)) (v := ?v7_8i_20_3) ?hy7_8i_20_3 ?re7_8i_20_3
         case hy7_8i_20_3 => (intro w hSw; go_simp) <;> with_reducible rfl
         (try simp only [Act.put, List.setIfInBounds_toArray, List.set_cons_zero, List.set_cons_succ])
         refine tk 8 (oi := ({ dst := some 125, op := .move (.tmp 124), type := 4, pos := "law.go:77", after := #[⟨7, .data⟩, ⟨3, .chain⟩], guard := none } : Oper)) (v := ?v8_9i_20_3) ?hy8_9i_20_3 ?re8_9i_20_3
         case hy8_9i_20_3 => (intro w hSw; go_simp) <;> with_reducible rfl
         (try simp only [Act.put, List.setIfInBounds_toArray, List.set_cons_zero, List.set_cons_succ])
         refine tk 9 (oi := ({ dst := some 126, op := .load 23 (.tmp 21), type := 23, pos := "law.go:77", after := #[⟨8, .guard⟩], guard := some (8, false) } : Oper)) (v := ?v9_10i_20_3) ?hy9_10i_20_3 ?re9_10i_20_3
         case hy9_10i_20_3 => ((intro w hSw; have e0_0 := hSw.1.c0; have e0_1 := hSw.1.c1; have e1_0 := hSw.2.1.c0; have e1_1 := hSw.2.1.c1; have e2_0 := hSw.2.2.1.c 0 rfl; have e2_1 := hSw.2.2.1.c 1 rfl; have e2_2 := hSw.2.2.1.c 2 rfl; have e2_3 := hSw.2.2.1.c 3 rfl; have e2_4 := hSw.2.2.1.c 4 rfl; have e2_5 := hSw.2.2.1.c 5 rfl; have e2_6 := hSw.2.2.1.c 6 rfl; have e2_7 := hSw.2.2.1.c 7 rfl; have e3_0 := hSw.2.2.2.1.c 0 rfl; have e3_1 := hSw.2.2.2.1.c 1 rfl; have e3_2 := hSw.2.2.2.1.c 2 rfl; have e3_3 := hSw.2.2.2.1.c 3 rfl; have e4_0 := hSw.2.2.2.2.1.c 0 rfl; have e4_1 := hSw.2.2.2.2.1.c 1 rfl; have e4_2 := hSw.2.2.2.2.1.c 2 rfl; have e4_3 := hSw.2.2.2.2.1.c 3 rfl; have e4_4 := hSw.2.2.2.2.1.c 4 rfl; have e4_5 := hSw.2.2.2.2.1.c 5 rfl; have e4_6 := hSw.2.2.2.2.1.c 6 rfl; have e4_7 := hSw.2.2.2.2.1.c 7 rfl; have e5_0 := hSw.2.2.2.2.2.c 0 rfl; have e5_1 := hSw.2.2.2.2.2.c 1 rfl; have e5_2 := hSw.2.2.2.2.2.c 2 rfl; have e5_3 := hSw.2.2.2.2.2.c 3 rfl; go_simp) <;> with_reducible rfl)
         (try simp only [Act.put, List.setIfInBounds_toArray, List.set_cons_zero, List.set_cons_succ])
         refine tk 10 (oi := ({ dst := some 127, op := .load 23 (.tmp 22), type := 23, pos := "law.go:77", after := #[⟨8, .guard⟩], guard := some (8, false) } : Oper)) (v := ?v10_11i_20_3) ?hy10_11i_20_3 ?re10_11i_20_3
         case hy10_11i_20_3 => ((intro w hSw; have e0_0 := hSw.1.c0; have e0_1 := hSw.1.c1; have e1_0 := hSw.2.1.c0; have e1_1 := hSw.2.1.c1; have e2_0 := hSw.2.2.1.c 0 rfl; have e2_1 := hSw.2.2.1.c 1 rfl; have e2_2 := hSw.2.2.1.c 2 rfl; have e2_3 := hSw.2.2.1.c 3 rfl; have e2_4 := hSw.2.2.1.c 4 rfl; have e2_5 := hSw.2.2.1.c 5 rfl; have e2_6 := hSw.2.2.1.c 6 rfl; have e2_7 := hSw.2.2.1.c 7 rfl; have e3_0 := hSw.2.2.2.1.c 0 rfl; have e3_1 := hSw.2.2.2.1.c 1 rfl; have e3_2 := hSw.2.2.2.1.c 2 rfl; have e3_3 := hSw.2.2.2.1.c 3 rfl; have e4_0 := hSw.2.2.2.2.1.c 0 rfl; have e4_1 := hSw.2.2.2.2.1.c 1 rfl; have e4_2 := hSw.2.2.2.2.1.c 2 rfl; have e4_3 := hSw.2.2.2.2.1.c 3 rfl; have e4_4 := hSw.2.2.2.2.1.c 4 rfl; have e4_5 := hSw.2.2.2.2.1.c 5 rfl; have e4_6 := hSw.2.2.2.2.1.c 6 rfl; have e4_7 := hSw.2.2.2.2.1.c 7 rfl; have e5_0 := hSw.2.2.2.2.2.c 0 rfl; have e5_1 := hSw.2.2.2.2.2.c 1 rfl; have e5_2 := hSw.2.2.2.2.2.c 2 rfl; have e5_3 := hSw.2.2.2.2.2.c 3 rfl; go_simp) <;> with_reducible rfl)
         (try simp only [Act.put, List.setIfInBounds_toArray, List.set_cons_zero, List.set_cons_succ])
         refine tk 12 (oi := ({ dst := some 129, op := .load 23 (.tmp 21), type := 23, pos := "law.go:77", after := #[⟨8, .guard⟩], guard := some (8, false) } : Oper)) (v := ?v12_12i_20_3) ?hy12_12i_20_3 ?re12_12i_20_3
         case hy12_12i_20_3 => ((intro w hSw; have e0_0 := hSw.1.c0; have e0_1 := hSw.1.c1; have e1_0 := hSw.2.1.c0; have e1_1 := hSw.2.1.c1; have e2_0 := hSw.2.2.1.c 0 rfl; have e2_1 := hSw.2.2.1.c 1 rfl; have e2_2 := hSw.2.2.1.c 2 rfl; have e2_3 := hSw.2.2.1.c 3 rfl; have e2_4 := hSw.2.2.1.c 4 rfl; have e2_5 := hSw.2.2.1.c 5 rfl; have e2_6 := hSw.2.2.1.c 6 rfl; have e2_7 := hSw.2.2.1.c 7 rfl; have e3_0 := hSw.2.2.2.1.c 0 rfl; have e3_1 := hSw.2.2.2.1.c 1 rfl; have e3_2 := hSw.2.2.2.1.c 2 rfl; have e3_3 := hSw.2.2.2.1.c 3 rfl; have e4_0 := hSw.2.2.2.2.1.c 0 rfl; have e4_1 := hSw.2.2.2.2.1.c 1 rfl; have e4_2 := hSw.2.2.2.2.1.c 2 rfl; have e4_3 := hSw.2.2.2.2.1.c 3 rfl; have e4_4 := hSw.2.2.2.2.1.c 4 rfl; have e4_5 := hSw.2.2.2.2.1.c 5 rfl; have e4_6 := hSw.2.2.2.2.1.c 6 rfl; have e4_7 := hSw.2.2.2.2.1.c 7 rfl; have e5_0 := hSw.2.2.2.2.2.c 0 rfl; have e5_1 := hSw.2.2.2.2.2.c 1 rfl; have e5_2 := hSw.2.2.2.2.2.c 2 rfl; have e5_3 := hSw.2.2.2.2.2.c 3 rfl; go_simp) <;> with_reducible rfl)
         (try simp only [Act.put, List.setIfInBounds_toArray, List.set_cons_zero, List.set_cons_succ])
         refine tk 13 (oi := ({ dst := some 130, op := .load 23 (.tmp 22), type := 23, pos := "law.go:77", after := #[⟨8, .guard⟩], guard := some (8, false) } : Oper)) (v := ?v13_13i_20_3) ?hy13_13i_20_3 ?re13_13i_20_3
         case hy13_13i_20_3 => ((intro w hSw; have e0_0 := hSw.1.c0; have e0_1 := hSw.1.c1; have e1_0 := hSw.2.1.c0; have e1_1 := hSw.2.1.c1; have e2_0 := hSw.2.2.1.c 0 rfl; have e2_1 := hSw.2.2.1.c 1 rfl; have e2_2 := hSw.2.2.1.c 2 rfl; have e2_3 := hSw.2.2.1.c 3 rfl; have e2_4 := hSw.2.2.1.c 4 rfl; have e2_5 := hSw.2.2.1.c 5 rfl; have e2_6 := hSw.2.2.1.c 6 rfl; have e2_7 := hSw.2.2.1.c 7 rfl; have e3_0 := hSw.2.2.2.1.c 0 rfl; have e3_1 := hSw.2.2.2.1.c 1 rfl; have e3_2 := hSw.2.2.2.1.c 2 rfl; have e3_3 := hSw.2.2.2.1.c 3 rfl; have e4_0 := hSw.2.2.2.2.1.c 0 rfl; have e4_1 := hSw.2.2.2.2.1.c 1 rfl; have e4_2 := hSw.2.2.2.2.1.c 2 rfl; have e4_3 := hSw.2.2.2.2.1.c 3 rfl; have e4_4 := hSw.2.2.2.2.1.c 4 rfl; have e4_5 := hSw.2.2.2.2.1.c 5 rfl; have e4_6 := hSw.2.2.2.2.1.c 6 rfl; have e4_7 := hSw.2.2.2.2.1.c 7 rfl; have e5_0 := hSw.2.2.2.2.2.c 0 rfl; have e5_1 := hSw.2.2.2.2.2.c 1 rfl; have e5_2 := hSw.2.2.2.2.2.c 2 rfl; have e5_3 := hSw.2.2.2.2.2.c 3 rfl; go_simp) <;> with_reducible rfl)
         (try simp only [Act.put, List.setIfInBounds_toArray, List.set_cons_zero, List.set_cons_succ])
         refine wpAnyH_ready (rs := [11]) (by kernel_rfl) (by simp) ?_
         refine AllReadyH.cons (o := ({ dst := some 128, op := .call { callee := .value (.func 21), args := #[.tmp 126, .tmp 127], argTypes := #[23, 23] }, type := 3, pos := "law.go:77", after := #[⟨9, .data⟩, ⟨10, .data⟩, ⟨8, .chain⟩, ⟨8, .guard⟩], guard := some (8, false) } : Oper)) rfl (fun K hK => ?_) ?_
         ·
          go_simp
          go_at_call 21
          refine (QC.out _).mono ?_
          rintro e Wi20_1 ⟨rfl, B⟩
          have Alln := Lib.hid (All.out.keep B All.out.lt)
          have An := Lib.hid (A.out.keep B A.out.lt)
          have Bbn := Lib.hid (Bb.out.keep B Bb.out.lt)
          have Rn := Lib.hid (R.out.keep B R.out.lt)
          have En := Lib.hid (E.out.keep B E.out.lt)
          have Tn := Lib.hid (T.out.keep B T.out.lt)
          have Fn := Lib.hid (F.out.keep B F.out.lt)
          have HBn := Lib.hid (HB.out.trans (B.mono HB.out.size))
          clear All A Bb R E T F HB
          have All := Alln
          have A := An
          have Bb := Bbn
          have R := Rn
          have E := En
          have T := Tn
          have F := Fn
          have HB := HBn
          clear Alln An Bbn Rn En Tn Fn HBn
          (try go_wp2_with fail)
          refine hK.out _ _ ?_ (fun hHeldN => ?_)
          ·
           exact ⟨hHeld.1.keep B hHeld.1.lt, hHeld.2.1.keep B hHeld.2.1.lt, hHeld.2.2.1.keep B hHeld.2.2.1.lt, hHeld.2.2.2.1.keep B hHeld.2.2.2.1.lt, hHeld.2.2.2.2.1.keep B hHeld.2.2.2.2.1.lt, hHeld.2.2.2.2.2.keep B hHeld.2.2.2.2.2.lt⟩
          clear hK K
          clear hHeld
          have hHeld := hHeldN
          clear hHeldN
          (try simp only [Act.put, List.setIfInBounds_toArray, List.set_cons_zero, List.set_cons_succ])
          clear B
          refine wpAnyH_ready (rs := [14]) (by kernel_rfl) (by simp) ?_
          refine AllReadyH.cons (o := ({ dst := some 131, op := .call { callee := .value (.func 22), args := #[.tmp 129, .tmp 130], argTypes := #[23, 23] }, type := 3, pos := "law.go:77", after := #[⟨12, .data⟩, ⟨13, .data⟩, ⟨11, .chain⟩, ⟨8, .guard⟩], guard := some (8, false) } : Oper)) rfl (fun K hK => ?_) ?_
          ·
           go_simp
           go_at_call 22
           refine (VC.out _).mono ?_
           rintro e Wi20_2 ⟨rfl, B⟩
           have Alln := Lib.hid (All.out.keep B All.out.lt)
           have An := Lib.hid (A.out.keep B A.out.lt)
           have Bbn := Lib.hid (Bb.out.keep B Bb.out.lt)
           have Rn := Lib.hid (R.out.keep B R.out.lt)
           have En := Lib.hid (E.out.keep B E.out.lt)
           have Tn := Lib.hid (T.out.keep B T.out.lt)
           have Fn := Lib.hid (F.out.keep B F.out.lt)
           have HBn := Lib.hid (HB.out.trans (B.mono HB.out.size))
           clear All A Bb R E T F HB
           have All := Alln
           have A := An
           have Bb := Bbn
           have R := Rn
           have E := En
           have T := Tn
           have F := Fn
           have HB := HBn
           clear Alln An Bbn Rn En Tn Fn HBn
           (try go_wp2_with fail)
           refine hK.out _ _ ?_ (fun hHeldN => ?_)
           ·
            exact ⟨hHeld.1.keep B hHeld.1.lt, hHeld.2.1.keep B hHeld.2.1.lt, hHeld.2.2.1.keep B hHeld.2.2.1.lt, hHeld.2.2.2.1.keep B hHeld.2.2.2.1.lt, hHeld.2.2.2.2.1.keep B hHeld.2.2.2.2.1.lt, hHeld.2.2.2.2.2.keep B hHeld.2.2.2.2.2.lt⟩
           clear hK K
           clear hHeld
           have hHeld := hHeldN
           clear hHeldN
           (try simp only [Act.put, List.setIfInBounds_toArray, List.set_cons_zero, List.set_cons_succ])
           clear B
           refine tk 15 (oi := ({ dst := some 132, op := .binOp .neq 3 (.tmp 128) (.tmp 131) 3, type := 4, pos := "law.go:77", after := #[⟨11, .data⟩, ⟨14, .data⟩, ⟨8, .guard⟩], guard := some (8, false) } : Oper)) (v := ?v15_14i_20_3) ?hy15_14i_20_3 ?re15_14i_20_3
           case hy15_14i_20_3 => (intro w hSw; go_simp) <;> with_reducible rfl
           (try simp only [Act.put, List.setIfInBounds_toArray, List.set_cons_zero, List.set_cons_succ])
           refine tk 16 (oi := ({ dst := some 133, op := .pick (.tmp 125) (.const (.bool true)) (.tmp 132), type := 4, pos := "law.go:77", after := #[⟨8, .data⟩, ⟨15, .data⟩], guard := none } : Oper)) (v := ?v16_15i_20_3) ?hy16_15i_20_3 ?re16_15i_20_3
           case hy16_15i_20_3 => (intro w hSw; go_simp) <;> with_reducible rfl
           (try simp only [Act.put, List.setIfInBounds_toArray, List.set_cons_zero, List.set_cons_succ])
           refine wpAnyH_done (by kernel_rfl) ?_ _
           refine NoPanic.normal ?_
           clear hq1 hq2
           go_wp2_with fail
           go_roundw
           case rel => exact ⟨k + 1, by omega, rfl, All, HB⟩
           case measure => show 5 - (k + 1) < 5 - k; omega
          exact AllReadyH.nil
         exact AllReadyH.nil
        ·
         have hkk : ¬ ((k : Int) < 5) := by omega
         go_wp2_with fail
         go_at_call 23
         refine (lpick_32 places _ BP.out.1 BP.out.2).mono ?_
         rintro e Wp ⟨p, rfl, hp, B⟩
         have Alln := Lib.hid ((All.out.keep B All.out.lt).alloc (.cells #[.int .i64 places, .int .i64 (p : Int)] 3))
         have PPn := Lib.hid (PB.new 3 Wp (.int .i64 places) (.int .i64 (p : Int)))
         have HBn := Lib.hid ((HB.out.trans (B.mono HB.out.size)).alloc (HB.out.trans (B.mono HB.out.size)).size (.cells #[.int .i64 places, .int .i64 (p : Int)] 3))
         clear B All HB
         have All := Alln
         have PP := PPn
         have HB := HBn
         clear Alln PPn HBn
         go_wp2_with fail
         generalize Wp.heap.size = gP at *
         go_loopw [139] (fun jv wj => ∃ j : Nat, j ≤ 2 ∧ jv = .int .i64 (j : Int) ∧ Hid (CBlk wj gA cs 23) ∧ Hid (PB 3 wj gP (.int .i64 places) (.int .i64 (p : Int))) ∧ Hid (Below w.heap.size w wj)) (fun jv _ => 2 - (intOf jv).toNat)
         case atStart => exact ⟨0, by omega, rfl, All, PP, HB⟩
         case round =>
          clear All PP HB
          obtain ⟨j, hj, rfl, All, PP, HB⟩ := hrel
          by_cases hj2 : j < 2
          ·
           obtain ⟨v, hv⟩ : ∃ v : Int, wr.cell? ⟨gP, j, none⟩ = some (.int .i64 v) := by
            rcases (by omega : j = 0 ∨ j = 1) with rfl | rfl
            ·
             exact ⟨_, PP.out.c0⟩
            ·
             exact ⟨_, PP.out.c1⟩
           have hjj : (j : Int) < 2 := by omega
           obtain ⟨dx, dy, de, qd, vd⟩ := agDown_4 a1 a2 NA.out.1 NA.out.2 v
           obtain ⟨ux, uy, ue, qu, vu⟩ := agUp_4 a1 a2 NA.out.1 NA.out.2 v
           have QD := Lib.hid qd
           have VD := Lib.hid vd
           have QU := Lib.hid qu
           have VU := Lib.hid vu
           clear qd vd qu vu
           have u1 := All.out.c (i * 2) KA.out.1
           have u2 := All.out.c (i * 2 + 1) KA.out.2
           go_wp2_with fail
           clear u1 u2 hv
           go_at_call 24
           refine (QD.out _).mono ?_
           rintro e Wp1 ⟨rfl, B⟩
           have Alln := Lib.hid ((All.out.keep B All.out.lt).alloc (.cells #[(.string dx), (.string dy)] 23))
           have PPn := Lib.hid ((PP.out.keep B PP.out.lt).alloc (.cells #[(.string dx), (.string dy)] 23))
           have HBn := Lib.hid ((HB.out.trans (B.mono HB.out.size)).alloc (HB.out.trans (B.mono HB.out.size)).size (.cells #[(.string dx), (.string dy)] 23))
           clear All PP HB
           have All := Alln
           have PP := PPn
           have HB := HBn
           clear Alln PPn HBn
           have RA := Lib.hid (RBlk.new Wp1 (.string dx) (.string dy))
           clear B
           have u1 := All.out.c (i * 2) KA.out.1
           have u2 := All.out.c (i * 2 + 1) KA.out.2
           go_wp2_with fail
           clear u1 u2
           go_at_call 25
           refine (VD.out _).mono ?_
           rintro e Wp2 ⟨rfl, B⟩
           have Alln := Lib.hid ((All.out.keep B All.out.lt).alloc (.cells #[(.string dx), (.string dy)] 23))
           have PPn := Lib.hid ((PP.out.keep B PP.out.lt).alloc (.cells #[(.string dx), (.string dy)] 23))
           have RAn := Lib.hid ((RA.out.keep B RA.out.lt).alloc (.cells #[(.string dx), (.string dy)] 23))
           have HBn := Lib.hid ((HB.out.trans (B.mono HB.out.size)).alloc (HB.out.trans (B.mono HB.out.size)).size (.cells #[(.string dx), (.string dy)] 23))
           clear All PP RA HB
           have All := Alln
           have PP := PPn
           have RA := RAn
           have HB := HBn
           clear Alln PPn RAn HBn
           have RB := Lib.hid (RBlk.new Wp2 (.string dx) (.string dy))
           clear B
           have u1 := All.out.c (i * 2) KA.out.1
           have u2 := All.out.c (i * 2 + 1) KA.out.2
           go_wp2_with fail
           clear u1 u2
           go_at_call 26
           refine (QU.out _).mono ?_
           rintro e Wp3 ⟨rfl, B⟩
           have Alln := Lib.hid ((All.out.keep B All.out.lt).alloc (.cells #[(.string ux), (.string uy)] 23))
           have PPn := Lib.hid ((PP.out.keep B PP.out.lt).alloc (.cells #[(.string ux), (.string uy)] 23))
           have RAn := Lib.hid ((RA.out.keep B RA.out.lt).alloc (.cells #[(.string ux), (.string uy)] 23))
           have RBn := Lib.hid ((RB.out.keep B RB.out.lt).alloc (.cells #[(.string ux), (.string uy)] 23))
           have HBn := Lib.hid ((HB.out.trans (B.mono HB.out.size)).alloc (HB.out.trans (B.mono HB.out.size)).size (.cells #[(.string ux), (.string uy)] 23))
           clear All PP RA RB HB
           have All := Alln
           have PP := PPn
           have RA := RAn
           have RB := RBn
           have HB := HBn
           clear Alln PPn RAn RBn HBn
           have RC := Lib.hid (RBlk.new Wp3 (.string ux) (.string uy))
           clear B
           have u1 := All.out.c (i * 2) KA.out.1
           have u2 := All.out.c (i * 2 + 1) KA.out.2
           go_wp2_with fail
           clear u1 u2
           go_at_call 27
           refine (VU.out _).mono ?_
           rintro e Wp4 ⟨rfl, B⟩
           have Alln := Lib.hid ((All.out.keep B All.out.lt).alloc (.cells #[(.string ux), (.string uy)] 23))
           have PPn := Lib.hid ((PP.out.keep B PP.out.lt).alloc (.cells #[(.string ux), (.string uy)] 23))
           have RAn := Lib.hid ((RA.out.keep B RA.out.lt).alloc (.cells #[(.string ux), (.string uy)] 23))
           have RBn := Lib.hid ((RB.out.keep B RB.out.lt).alloc (.cells #[(.string ux), (.string uy)] 23))
           have RCn := Lib.hid ((RC.out.keep B RC.out.lt).alloc (.cells #[(.string ux), (.string uy)] 23))
           have HBn := Lib.hid ((HB.out.trans (B.mono HB.out.size)).alloc (HB.out.trans (B.mono HB.out.size)).size (.cells #[(.string ux), (.string uy)] 23))
           clear All PP RA RB RC HB
           have All := Alln
           have PP := PPn
           have RA := RAn
           have RB := RBn
           have RC := RCn
           have HB := HBn
           clear Alln PPn RAn RBn RCn HBn
           have RD := Lib.hid (RBlk.new Wp4 (.string ux) (.string uy))
           clear B
           have RA0 := RA.out.c0
           have RA1 := RA.out.c1
           have RB0 := RB.out.c0
           have RB1 := RB.out.c1
           have RC0 := RC.out.c0
           have RC1 := RC.out.c1
           have RD0 := RD.out.c0
           have RD1 := RD.out.c1
           go_wp2_with fail
           go_roundw
           case rel => exact ⟨j + 1, by omega, rfl, All, PP, HB⟩
           case measure => show 2 - (j + 1) < 2 - j; omega
          ·
           have hjj : ¬ ((j : Int) < 2) := by omega
           go_upto_region 32 with fail
           clear PP hj2 hj hjj
           obtain ⟨n5, n6⟩ := HP.out 0
           obtain ⟨k5, k6⟩ := HC.out 0 (by decide)
           generalize (P 0).2 = d2 at *
           rw [Nat.zero_mul, Nat.zero_add] at k6
           obtain ⟨mx, my, me, qm, vm⟩ := agMake_4 a1 d2 NA.out.1 n6
           obtain ⟨bv, qb, vb⟩ := agValid_4 a1 a2 NA.out.1 NA.out.2
           obtain ⟨k1, k2⟩ := KA.out
           have QM := Lib.hid qm
           have VM := Lib.hid vm
           have QB := Lib.hid qb
           have VB := Lib.hid vb
           clear qm vm qb vb k5 n5 n6
           apply join_two (fun gJ WJ => Hid (CBlk WJ (gA) cs 23 ∧ RBlk WJ gJ (.string mx) (.string my) ∧ Below w.heap.size w WJ))
           case m =>
            intro HJ
            refine wp_region_noPanic ?_
            refine wp_region_held_drew (S := fun W => CBlk W (gA) cs 23) (by kernel_rfl) ?_ (fun hHeld => ?_)
            ·
             exact All.out
            have All := Lib.hid All.out.drew
            have HB := Lib.hid HB.out.drew
            refine tk 0 (v := ?v0_1l_32_4) ?hy0_1l_32_4 ?re0_1l_32_4
            case hy0_1l_32_4 => (intro w hSw; go_simp) <;> with_reducible rfl
            (try simp only [Act.put, List.setIfInBounds_toArray])
            refine tk 1 (v := ?v1_2l_32_4) ?hy1_2l_32_4 ?re1_2l_32_4
            case hy1_2l_32_4 => (intro w hSw; go_simp) <;> with_reducible rfl
            (try simp only [Act.put])
            refine tk 5 (v := ?v5_3l_32_4) ?hy5_3l_32_4 ?re5_3l_32_4
            case hy5_3l_32_4 => (intro w hSw; go_simp) <;> with_reducible rfl
            (try simp only [Act.put])
            refine tk 2 (v := ?v2_4l_32_4) ?hy2_4l_32_4 ?re2_4l_32_4
            case hy2_4l_32_4 => (intro w hSw; go_simp) <;> with_reducible rfl
            (try simp only [Act.put])
            refine tk 6 (v := ?v6_5l_32_4) ?hy6_5l_32_4 ?re6_5l_32_4
            case hy6_5l_32_4 => (intro w hSw; go_simp) <;> with_reducible rfl
            (try simp only [Act.put])
            refine tk 3 (v := ?v3_6l_32_4) ?hy3_6l_32_4 ?re3_6l_32_4
            case hy3_6l_32_4 => (intro w hSw; go_simp) <;> with_reducible rfl
            (try simp only [Act.put])
            refine tk 7 (v := ?v7_7l_32_4) ?hy7_7l_32_4 ?re7_7l_32_4
            case hy7_7l_32_4 => (intro w hSw; go_simp) <;> with_reducible rfl
            (try simp only [Act.put])
            refine tk 4 (v := ?v4_8l_32_4) ?hy4_8l_32_4 ?re4_8l_32_4
            case hy4_8l_32_4 => ((intro w hSw; have e0_0 := hSw.c (i * 2) k1; have e0_1 := hSw.c (i * 2 + 1) k2; have e0_2 := hSw.c 1 k6; go_simp) <;> with_reducible rfl)
            (try simp only [Act.put])
            refine tk 8 (v := ?v8_9l_32_4) ?hy8_9l_32_4 ?re8_9l_32_4
            case hy8_9l_32_4 => ((intro w hSw; have e0_0 := hSw.c (i * 2) k1; have e0_1 := hSw.c (i * 2 + 1) k2; have e0_2 := hSw.c 1 k6; go_simp) <;> with_reducible rfl)
            (try simp only [Act.put])
            refine wpAnyH_ready (rs := [9, 13]) (by kernel_rfl) (by simp) ?_
            refine AllReadyH.cons (o := ({ dst := some 208, op := .call { callee := .value (.func 28), args := #[.tmp 203, .tmp 207], argTypes := #[9, 9] }, type := 36, pos := "law.go:90", after := #[⟨4, .data⟩, ⟨8, .data⟩], guard := none } : Oper)) rfl (fun K hK => ?_) ?_
            ·
             go_simp
             go_at_call 28
             refine (QM.out _).mono ?_
             rintro e Wl32_1 ⟨rfl, B⟩
             have All := Lib.hid (All.out.keep B All.out.lt)
             have HB := Lib.hid (HB.out.trans (B.mono HB.out.size))
             (try go_wp2_with fail)
             refine hK.out _ _ ?_ (fun hHeldN => ?_)
             ·
              exact hHeld.keep B hHeld.lt
             clear hK K
             clear hHeld
             have hHeld := hHeldN
             clear hHeldN
             (try simp only [Act.put, List.setIfInBounds_toArray, List.set_cons_zero, List.set_cons_succ])
             clear B
             refine tk 10 (v := ?v10_10l_32_4) ?hy10_10l_32_4 ?re10_10l_32_4
             case hy10_10l_32_4 => (intro w hSw; go_simp) <;> with_reducible rfl
             (try simp only [Act.put, List.setIfInBounds_toArray])
             refine tk 11 (v := ?v11_11l_32_4) ?hy11_11l_32_4 ?re11_11l_32_4
             case hy11_11l_32_4 => (intro w hSw; go_simp) <;> with_reducible rfl
             (try simp only [Act.put])
             refine tk 12 (v := ?v12_12l_32_4) ?hy12_12l_32_4 ?re12_12l_32_4
             case hy12_12l_32_4 => (intro w hSw; go_simp) <;> with_reducible rfl
             (try simp only [Act.put])
             refine wpAnyH_ready (rs := [13]) (by kernel_rfl) (by simp) ?_
             refine AllReadyH.cons (o := ({ dst := some 37, op := .alloc 23, type := 0, pos := "law.go:90", after := #[], guard := none } : Oper)) rfl (fun K hK => ?_) ?_
             ·
              go_simp
              obtain ⟨WAl32_2, hWAl32_2⟩ : ∃ W, W = (Wl32_1.alloc (.cells #[.string ⟨#[]⟩, .string ⟨#[]⟩] 23)) := ⟨_, rfl⟩
              rw [← hWAl32_2]
              have RA : Hid (RBlk WAl32_2 Wl32_1.heap.size (.string ⟨#[]⟩) (.string ⟨#[]⟩)) := Lib.hid (by rw [hWAl32_2]; exact RBlk.new Wl32_1 (.string ⟨#[]⟩) (.string ⟨#[]⟩))
              have gRA : w.heap.size ≤ Wl32_1.heap.size := HB.out.size
              have neRAAll : (gA) ≠ Wl32_1.heap.size := Nat.ne_of_lt All.out.lt
              have hk : (fun W => CBlk W (gA) cs 23) WAl32_2 := by rw [hWAl32_2]; exact hHeld.alloc _
              have All : Hid (CBlk WAl32_2 (gA) cs 23) := Lib.hid (by rw [hWAl32_2]; exact All.out.alloc _)
              have HB : Hid (Below w.heap.size w WAl32_2) := Lib.hid (by rw [hWAl32_2]; exact HB.out.alloc HB.out.size _)
              clear hWAl32_2
              refine hK.out _ _ ?_ (fun hHeldN => ?_)
              ·
               exact hk
              clear hK K
              clear hHeld
              have hHeld := hHeldN
              clear hHeldN
              (try simp only [Act.put, List.setIfInBounds_toArray, List.set_cons_zero, List.set_cons_succ])
              clear hk
              refine wpAnyH_ready (rs := [14]) (by kernel_rfl) (by simp) ?_
              refine AllReadyH.cons (o := ({ dst := none, op := .store 23 (.tmp 37) (.tmp 209), type := 0, pos := "law.go:90", after := #[⟨13, .data⟩, ⟨11, .data⟩, ⟨9, .chain⟩, ⟨0, .phase⟩, ⟨1, .phase⟩, ⟨2, .phase⟩, ⟨3, .phase⟩, ⟨4, .phase⟩, ⟨5, .phase⟩, ⟨6, .phase⟩, ⟨7, .phase⟩, ⟨8, .phase⟩, ⟨9, .phase⟩, ⟨10, .phase⟩, ⟨11, .phase⟩, ⟨12, .textOnly .lateStores⟩, ⟨13, .phase⟩], guard := none } : Oper)) rfl (fun K hK => ?_) ?_
              ·
               have c0 := RA.out.c0
               have c1 := RA.out.c1
               have f0 := RA.out.f 0
               have f1 := RA.out.f 1
               have hs := RA.out.s0 (.string mx)
               have d1 := hs.c1
               have g1 := hs.f 1
               go_simp
               have RAn := Lib.hid ((hs.s1 (.string my)))
               have Alln := Lib.hid (((All.out.other ⟨Wl32_1.heap.size, 0, none⟩ (.string mx) neRAAll).other ⟨Wl32_1.heap.size, 1, none⟩ (.string my) neRAAll))
               have HBn := Lib.hid (((HB.out.setCell (p := ⟨Wl32_1.heap.size, 0, none⟩) gRA (.string mx)).setCell (p := ⟨Wl32_1.heap.size, 1, none⟩) gRA (.string my)))
               clear hs c0 c1 f0 f1 d1 g1
               have RA := RAn
               have All := Alln
               have HB := HBn
               clear RAn Alln HBn
               refine hK.out _ _ ?_ (fun hHeldN => ?_)
               ·
                exact (hHeld.other ⟨Wl32_1.heap.size, 0, none⟩ (.string mx) neRAAll).other ⟨Wl32_1.heap.size, 1, none⟩ (.string my) neRAAll
               clear hK K
               clear hHeld
               have hHeld := hHeldN
               clear hHeldN
               (try simp only [Act.put, List.setIfInBounds_toArray, List.set_cons_zero, List.set_cons_succ])
               refine tk 15 (v := ?v15_13l_32_4) ?hy15_13l_32_4 ?re15_13l_32_4
               case hy15_13l_32_4 => (intro w hSw; go_simp) <;> with_reducible rfl
               (try simp only [Act.put, List.setIfInBounds_toArray])
               refine wpAnyH_done (by kernel_rfl) ?_ _
               refine NoPanic.normal ?_
               generalize hWJ : ((WAl32_2.setCell ⟨Wl32_1.heap.size, 0, none⟩ (.string mx)).setCell ⟨Wl32_1.heap.size, 1, none⟩ (.string my)) = WJ at *
               clear hWJ
               generalize hgJ : Wl32_1.heap.size = gJ at *
               clear hgJ
               exact HJ gJ WJ (Lib.hid ⟨All.out, RA.out, HB.out⟩)
              exact AllReadyH.nil
             exact AllReadyH.nil
            refine AllReadyH.cons (o := ({ dst := some 37, op := .alloc 23, type := 0, pos := "law.go:90", after := #[], guard := none } : Oper)) rfl (fun K hK => ?_) ?_
            ·
             go_simp
             obtain ⟨WAl32_4, hWAl32_4⟩ : ∃ W, W = (wr.alloc (.cells #[.string ⟨#[]⟩, .string ⟨#[]⟩] 23)).drew := ⟨_, rfl⟩
             rw [← hWAl32_4]
             have RA : Hid (RBlk WAl32_4 wr.heap.size (.string ⟨#[]⟩) (.string ⟨#[]⟩)) := Lib.hid (by rw [hWAl32_4]; exact RBlk.new wr (.string ⟨#[]⟩) (.string ⟨#[]⟩))
             have gRA : w.heap.size ≤ wr.heap.size := HB.out.size
             have neRAAll : (gA) ≠ wr.heap.size := Nat.ne_of_lt All.out.lt
             have hk : (fun W => CBlk W (gA) cs 23) WAl32_4 := by rw [hWAl32_4]; exact hHeld.alloc _
             have All : Hid (CBlk WAl32_4 (gA) cs 23) := Lib.hid (by rw [hWAl32_4]; exact All.out.alloc _)
             have HB : Hid (Below w.heap.size w WAl32_4) := Lib.hid (by rw [hWAl32_4]; exact HB.out.alloc HB.out.size _)
             clear hWAl32_4
             refine hK.out _ _ ?_ (fun hHeldN => ?_)
             ·
              exact hk
             clear hK K
             clear hHeld
             have hHeld := hHeldN
             clear hHeldN
             (try simp only [Act.put, List.setIfInBounds_toArray, List.set_cons_zero, List.set_cons_succ])
             clear hk
             refine wpAnyH_ready (rs := [9]) (by kernel_rfl) (by simp) ?_
             refine AllReadyH.cons (o := ({ dst := some 208, op := .call { callee := .value (.func 28), args := #[.tmp 203, .tmp 207], argTypes := #[9, 9] }, type := 36, pos := "law.go:90", after := #[⟨4, .data⟩, ⟨8, .data⟩], guard := none } : Oper)) rfl (fun K hK => ?_) ?_
             ·
              go_simp
              go_at_call 28
              refine (QM.out _).mono ?_
              rintro e Wl32_5 ⟨rfl, B⟩
              have All := Lib.hid (All.out.keep B All.out.lt)
              have RA := Lib.hid (RA.out.keep B RA.out.lt)
              have HB := Lib.hid (HB.out.trans (B.mono HB.out.size))
              (try go_wp2_with fail)
              refine hK.out _ _ ?_ (fun hHeldN => ?_)
              ·
               exact hHeld.keep B hHeld.lt
              clear hK K
              clear hHeld
              have hHeld := hHeldN
              clear hHeldN
              (try simp only [Act.put, List.setIfInBounds_toArray, List.set_cons_zero, List.set_cons_succ])
              clear B
              refine tk 10 (v := ?v10_14l_32_4) ?hy10_14l_32_4 ?re10_14l_32_4
              case hy10_14l_32_4 => (intro w hSw; go_simp) <;> with_reducible rfl
              (try simp only [Act.put, List.setIfInBounds_toArray])
              refine tk 11 (v := ?v11_15l_32_4) ?hy11_15l_32_4 ?re11_15l_32_4
              case hy11_15l_32_4 => (intro w hSw; go_simp) <;> with_reducible rfl
              (try simp only [Act.put])
              refine tk 12 (v := ?v12_16l_32_4) ?hy12_16l_32_4 ?re12_16l_32_4
              case hy12_16l_32_4 => (intro w hSw; go_simp) <;> with_reducible rfl
              (try simp only [Act.put])
              refine wpAnyH_ready (rs := [14]) (by kernel_rfl) (by simp) ?_
              refine AllReadyH.cons (o := ({ dst := none, op := .store 23 (.tmp 37) (.tmp 209), type := 0, pos := "law.go:90", after := #[⟨13, .data⟩, ⟨11, .data⟩, ⟨9, .chain⟩, ⟨0, .phase⟩, ⟨1, .phase⟩, ⟨2, .phase⟩, ⟨3, .phase⟩, ⟨4, .phase⟩, ⟨5, .phase⟩, ⟨6, .phase⟩, ⟨7, .phase⟩, ⟨8, .phase⟩, ⟨9, .phase⟩, ⟨10, .phase⟩, ⟨11, .phase⟩, ⟨12, .textOnly .lateStores⟩, ⟨13, .phase⟩], guard := none } : Oper)) rfl (fun K hK => ?_) ?_
              ·
               have c0 := RA.out.c0
               have c1 := RA.out.c1
               have f0 := RA.out.f 0
               have f1 := RA.out.f 1
               have hs := RA.out.s0 (.string mx)
               have d1 := hs.c1
               have g1 := hs.f 1
               go_simp
               have RAn := Lib.hid ((hs.s1 (.string my)))
               have Alln := Lib.hid (((All.out.other ⟨wr.heap.size, 0, none⟩ (.string mx) neRAAll).other ⟨wr.heap.size, 1, none⟩ (.string my) neRAAll))
               have HBn := Lib.hid (((HB.out.setCell (p := ⟨wr.heap.size, 0, none⟩) gRA (.string mx)).setCell (p := ⟨wr.heap.size, 1, none⟩) gRA (.string my)))
               clear hs c0 c1 f0 f1 d1 g1
               have RA := RAn
               have All := Alln
               have HB := HBn
               clear RAn Alln HBn
               refine hK.out _ _ ?_ (fun hHeldN => ?_)
               ·
                exact (hHeld.other ⟨wr.heap.size, 0, none⟩ (.string mx) neRAAll).other ⟨wr.heap.size, 1, none⟩ (.string my) neRAAll
               clear hK K
               clear hHeld
               have hHeld := hHeldN
               clear hHeldN
               (try simp only [Act.put, List.setIfInBounds_toArray, List.set_cons_zero, List.set_cons_succ])
               refine tk 15 (v := ?v15_17l_32_4) ?hy15_17l_32_4 ?re15_17l_32_4
               case hy15_17l_32_4 => (intro w hSw; go_simp) <;> with_reducible rfl
               (try simp only [Act.put, List.setIfInBounds_toArray])
               refine wpAnyH_done (by kernel_rfl) ?_ _
               refine NoPanic.normal ?_
               generalize hWJ : ((Wl32_5.setCell ⟨wr.heap.size, 0, none⟩ (.string mx)).setCell ⟨wr.heap.size, 1, none⟩ (.string my)) = WJ at *
               clear hWJ
               generalize hgJ : wr.heap.size = gJ at *
               clear hgJ
               exact HJ gJ WJ (Lib.hid ⟨All.out, RA.out, HB.out⟩)
              exact AllReadyH.nil
             exact AllReadyH.nil
            exact AllReadyH.nil
           case r =>
            clear All HB
            intro gJl32 WJl32 hF
            obtain ⟨All', RA', HB'⟩ := hF.out
            have All := Lib.hid All'
            have RA := Lib.hid RA'
            have HB := Lib.hid HB'
            clear hF All' RA' HB'
            go_upto_region 33 with fail
            apply join_two (fun gJ WJ => Hid (CBlk WJ (gA) cs 23 ∧ RBlk WJ (gJl32) (.string mx) (.string my) ∧ RBlk WJ gJ (.string mx) (.string my) ∧ Below w.heap.size w WJ))
            case m =>
             intro HJ
             refine wp_region_noPanic ?_
             refine wp_region_held_drew (S := fun W => CBlk W (gA) cs 23) (by kernel_rfl) ?_ (fun hHeld => ?_)
             ·
              exact All.out
             have All := Lib.hid All.out.drew
             have RA := Lib.hid RA.out.drew
             have HB := Lib.hid HB.out.drew
             refine tk 0 (v := ?v0_1lj_33_5) ?hy0_1lj_33_5 ?re0_1lj_33_5
             case hy0_1lj_33_5 => (intro w hSw; go_simp) <;> with_reducible rfl
             (try simp only [Act.put])
             refine tk 1 (v := ?v1_2lj_33_5) ?hy1_2lj_33_5 ?re1_2lj_33_5
             case hy1_2lj_33_5 => (intro w hSw; go_simp) <;> with_reducible rfl
             (try simp only [Act.put])
             refine tk 5 (v := ?v5_3lj_33_5) ?hy5_3lj_33_5 ?re5_3lj_33_5
             case hy5_3lj_33_5 => (intro w hSw; go_simp) <;> with_reducible rfl
             (try simp only [Act.put])
             refine tk 2 (v := ?v2_4lj_33_5) ?hy2_4lj_33_5 ?re2_4lj_33_5
             case hy2_4lj_33_5 => (intro w hSw; go_simp) <;> with_reducible rfl
             (try simp only [Act.put])
             refine tk 6 (v := ?v6_5lj_33_5) ?hy6_5lj_33_5 ?re6_5lj_33_5
             case hy6_5lj_33_5 => (intro w hSw; go_simp) <;> with_reducible rfl
             (try simp only [Act.put])
             refine tk 3 (v := ?v3_6lj_33_5) ?hy3_6lj_33_5 ?re3_6lj_33_5
             case hy3_6lj_33_5 => (intro w hSw; go_simp) <;> with_reducible rfl
             (try simp only [Act.put])
             refine tk 7 (v := ?v7_7lj_33_5) ?hy7_7lj_33_5 ?re7_7lj_33_5
             case hy7_7lj_33_5 => (intro w hSw; go_simp) <;> with_reducible rfl
             (try simp only [Act.put])
             refine tk 4 (v := ?v4_8lj_33_5) ?hy4_8lj_33_5 ?re4_8lj_33_5
             case hy4_8lj_33_5 => ((intro w hSw; have e0_0 := hSw.c (i * 2) k1; have e0_1 := hSw.c (i * 2 + 1) k2; have e0_2 := hSw.c 1 k6; go_simp) <;> with_reducible rfl)
             (try simp only [Act.put])
             refine tk 8 (v := ?v8_9lj_33_5) ?hy8_9lj_33_5 ?re8_9lj_33_5
             case hy8_9lj_33_5 => ((intro w hSw; have e0_0 := hSw.c (i * 2) k1; have e0_1 := hSw.c (i * 2 + 1) k2; have e0_2 := hSw.c 1 k6; go_simp) <;> with_reducible rfl)
             (try simp only [Act.put])
             refine wpAnyH_ready (rs := [9, 13]) (by kernel_rfl) (by simp) ?_
             refine AllReadyH.cons (o := ({ dst := some 221, op := .call { callee := .value (.func 29), args := #[.tmp 216, .tmp 220], argTypes := #[9, 9] }, type := 36, pos := "law.go:91", after := #[⟨4, .data⟩, ⟨8, .data⟩], guard := none } : Oper)) rfl (fun K hK => ?_) ?_
             ·
              go_simp
              go_at_call 29
              refine (VM.out _).mono ?_
              rintro e Wlj33_1 ⟨rfl, B⟩
              have All := Lib.hid (All.out.keep B All.out.lt)
              have RA := Lib.hid (RA.out.keep B RA.out.lt)
              have HB := Lib.hid (HB.out.trans (B.mono HB.out.size))
              (try go_wp2_with fail)
              refine hK.out _ _ ?_ (fun hHeldN => ?_)
              ·
               exact hHeld.keep B hHeld.lt
              clear hK K
              clear hHeld
              have hHeld := hHeldN
              clear hHeldN
              (try simp only [Act.put, List.setIfInBounds_toArray, List.set_cons_zero, List.set_cons_succ])
              clear B
              refine tk 10 (v := ?v10_10lj_33_5) ?hy10_10lj_33_5 ?re10_10lj_33_5
              case hy10_10lj_33_5 => (intro w hSw; go_simp) <;> with_reducible rfl
              (try simp only [Act.put, List.setIfInBounds_toArray])
              refine tk 11 (v := ?v11_11lj_33_5) ?hy11_11lj_33_5 ?re11_11lj_33_5
              case hy11_11lj_33_5 => (intro w hSw; go_simp) <;> with_reducible rfl
              (try simp only [Act.put])
              refine tk 12 (v := ?v12_12lj_33_5) ?hy12_12lj_33_5 ?re12_12lj_33_5
              case hy12_12lj_33_5 => (intro w hSw; go_simp) <;> with_reducible rfl
              (try simp only [Act.put])
              refine wpAnyH_ready (rs := [13]) (by kernel_rfl) (by simp) ?_
              refine AllReadyH.cons (o := ({ dst := some 39, op := .alloc 23, type := 0, pos := "law.go:91", after := #[], guard := none } : Oper)) rfl (fun K hK => ?_) ?_
              ·
               go_simp
               obtain ⟨WAlj33_2, hWAlj33_2⟩ : ∃ W, W = (Wlj33_1.alloc (.cells #[.string ⟨#[]⟩, .string ⟨#[]⟩] 23)) := ⟨_, rfl⟩
               rw [← hWAlj33_2]
               have RB : Hid (RBlk WAlj33_2 Wlj33_1.heap.size (.string ⟨#[]⟩) (.string ⟨#[]⟩)) := Lib.hid (by rw [hWAlj33_2]; exact RBlk.new Wlj33_1 (.string ⟨#[]⟩) (.string ⟨#[]⟩))
               have gRB : w.heap.size ≤ Wlj33_1.heap.size := HB.out.size
               have neRBAll : (gA) ≠ Wlj33_1.heap.size := Nat.ne_of_lt All.out.lt
               have neRBRA : (gJl32) ≠ Wlj33_1.heap.size := Nat.ne_of_lt RA.out.lt
               have hk : (fun W => CBlk W (gA) cs 23) WAlj33_2 := by rw [hWAlj33_2]; exact hHeld.alloc _
               have All : Hid (CBlk WAlj33_2 (gA) cs 23) := Lib.hid (by rw [hWAlj33_2]; exact All.out.alloc _)
               have RA : Hid (RBlk WAlj33_2 (gJl32) (.string mx) (.string my)) := Lib.hid (by rw [hWAlj33_2]; exact RA.out.alloc _)
               have HB : Hid (Below w.heap.size w WAlj33_2) := Lib.hid (by rw [hWAlj33_2]; exact HB.out.alloc HB.out.size _)
               clear hWAlj33_2
               refine hK.out _ _ ?_ (fun hHeldN => ?_)
               ·
                exact hk
               clear hK K
               clear hHeld
               have hHeld := hHeldN
               clear hHeldN
               (try simp only [Act.put, List.setIfInBounds_toArray, List.set_cons_zero, List.set_cons_succ])
               clear hk
               refine wpAnyH_ready (rs := [14]) (by kernel_rfl) (by simp) ?_
               refine AllReadyH.cons (o := ({ dst := none, op := .store 23 (.tmp 39) (.tmp 222), type := 0, pos := "law.go:91", after := #[⟨13, .data⟩, ⟨11, .data⟩, ⟨9, .chain⟩, ⟨0, .phase⟩, ⟨1, .phase⟩, ⟨2, .phase⟩, ⟨3, .phase⟩, ⟨4, .phase⟩, ⟨5, .phase⟩, ⟨6, .phase⟩, ⟨7, .phase⟩, ⟨8, .phase⟩, ⟨9, .phase⟩, ⟨10, .phase⟩, ⟨11, .phase⟩, ⟨12, .textOnly .lateStores⟩, ⟨13, .phase⟩], guard := none } : Oper)) rfl (fun K hK => ?_) ?_
               ·
                have c0 := RB.out.c0
                have c1 := RB.out.c1
                have f0 := RB.out.f 0
                have f1 := RB.out.f 1
                have hs := RB.out.s0 (.string mx)
                have d1 := hs.c1
                have g1 := hs.f 1
                go_simp
                have RBn := Lib.hid ((hs.s1 (.string my)))
                have Alln := Lib.hid (((All.out.other ⟨Wlj33_1.heap.size, 0, none⟩ (.string mx) neRBAll).other ⟨Wlj33_1.heap.size, 1, none⟩ (.string my) neRBAll))
                have RAn := Lib.hid (((RA.out.other ⟨Wlj33_1.heap.size, 0, none⟩ (.string mx) neRBRA).other ⟨Wlj33_1.heap.size, 1, none⟩ (.string my) neRBRA))
                have HBn := Lib.hid (((HB.out.setCell (p := ⟨Wlj33_1.heap.size, 0, none⟩) gRB (.string mx)).setCell (p := ⟨Wlj33_1.heap.size, 1, none⟩) gRB (.string my)))
                clear hs c0 c1 f0 f1 d1 g1
                have RB := RBn
                have All := Alln
                have RA := RAn
                have HB := HBn
                clear RBn Alln RAn HBn
                refine hK.out _ _ ?_ (fun hHeldN => ?_)
                ·
                 exact (hHeld.other ⟨Wlj33_1.heap.size, 0, none⟩ (.string mx) neRBAll).other ⟨Wlj33_1.heap.size, 1, none⟩ (.string my) neRBAll
                clear hK K
                clear hHeld
                have hHeld := hHeldN
                clear hHeldN
                (try simp only [Act.put, List.setIfInBounds_toArray, List.set_cons_zero, List.set_cons_succ])
                refine tk 15 (v := ?v15_13lj_33_5) ?hy15_13lj_33_5 ?re15_13lj_33_5
                case hy15_13lj_33_5 => (intro w hSw; go_simp) <;> with_reducible rfl
                (try simp only [Act.put, List.setIfInBounds_toArray])
                refine wpAnyH_done (by kernel_rfl) ?_ _
                refine NoPanic.normal ?_
                generalize hWJ : ((WAlj33_2.setCell ⟨Wlj33_1.heap.size, 0, none⟩ (.string mx)).setCell ⟨Wlj33_1.heap.size, 1, none⟩ (.string my)) = WJ at *
                clear hWJ
                generalize hgJ : Wlj33_1.heap.size = gJ at *
                clear hgJ
                exact HJ gJ WJ (Lib.hid ⟨All.out, RA.out, RB.out, HB.out⟩)
               exact AllReadyH.nil
              exact AllReadyH.nil
             refine AllReadyH.cons (o := ({ dst := some 39, op := .alloc 23, type := 0, pos := "law.go:91", after := #[], guard := none } : Oper)) rfl (fun K hK => ?_) ?_
             ·
              go_simp
              obtain ⟨WAlj33_4, hWAlj33_4⟩ : ∃ W, W = (WJl32.alloc (.cells #[.string ⟨#[]⟩, .string ⟨#[]⟩] 23)).drew := ⟨_, rfl⟩
              rw [← hWAlj33_4]
              have RB : Hid (RBlk WAlj33_4 WJl32.heap.size (.string ⟨#[]⟩) (.string ⟨#[]⟩)) := Lib.hid (by rw [hWAlj33_4]; exact RBlk.new WJl32 (.string ⟨#[]⟩) (.string ⟨#[]⟩))
              have gRB : w.heap.size ≤ WJl32.heap.size := HB.out.size
              have neRBAll : (gA) ≠ WJl32.heap.size := Nat.ne_of_lt All.out.lt
              have neRBRA : (gJl32) ≠ WJl32.heap.size := Nat.ne_of_lt RA.out.lt
              have hk : (fun W => CBlk W (gA) cs 23) WAlj33_4 := by rw [hWAlj33_4]; exact hHeld.alloc _
              have All : Hid (CBlk WAlj33_4 (gA) cs 23) := Lib.hid (by rw [hWAlj33_4]; exact All.out.alloc _)
              have RA : Hid (RBlk WAlj33_4 (gJl32) (.string mx) (.string my)) := Lib.hid (by rw [hWAlj33_4]; exact RA.out.alloc _)
              have HB : Hid (Below w.heap.size w WAlj33_4) := Lib.hid (by rw [hWAlj33_4]; exact HB.out.alloc HB.out.size _)
              clear hWAlj33_4
              refine hK.out _ _ ?_ (fun hHeldN => ?_)
              ·
               exact hk
              clear hK K
              clear hHeld
              have hHeld := hHeldN
              clear hHeldN
              (try simp only [Act.put, List.setIfInBounds_toArray, List.set_cons_zero, List.set_cons_succ])
              clear hk
              refine wpAnyH_ready (rs := [9]) (by kernel_rfl) (by simp) ?_
              refine AllReadyH.cons (o := ({ dst := some 221, op := .call { callee := .value (.func 29), args := #[.tmp 216, .tmp 220], argTypes := #[9, 9] }, type := 36, pos := "law.go:91", after := #[⟨4, .data⟩, ⟨8, .data⟩], guard := none } : Oper)) rfl (fun K hK => ?_) ?_
              ·
               go_simp
               go_at_call 29
               refine (VM.out _).mono ?_
               rintro e Wlj33_5 ⟨rfl, B⟩
               have All := Lib.hid (All.out.keep B All.out.lt)
               have RA := Lib.hid (RA.out.keep B RA.out.lt)
               have RB := Lib.hid (RB.out.keep B RB.out.lt)
               have HB := Lib.hid (HB.out.trans (B.mono HB.out.size))
               (try go_wp2_with fail)
               refine hK.out _ _ ?_ (fun hHeldN => ?_)
               ·
                exact hHeld.keep B hHeld.lt
               clear hK K
               clear hHeld
               have hHeld := hHeldN
               clear hHeldN
               (try simp only [Act.put, List.setIfInBounds_toArray, List.set_cons_zero, List.set_cons_succ])
               clear B
               refine tk 10 (v := ?v10_14lj_33_5) ?hy10_14lj_33_5 ?re10_14lj_33_5
               case hy10_14lj_33_5 => (intro w hSw; go_simp) <;> with_reducible rfl
               (try simp only [Act.put, List.setIfInBounds_toArray])
               refine tk 11 (v := ?v11_15lj_33_5) ?hy11_15lj_33_5 ?re11_15lj_33_5
               case hy11_15lj_33_5 => (intro w hSw; go_simp) <;> with_reducible rfl
               (try simp only [Act.put])
               refine tk 12 (v := ?v12_16lj_33_5) ?hy12_16lj_33_5 ?re12_16lj_33_5
               case hy12_16lj_33_5 => (intro w hSw; go_simp) <;> with_reducible rfl
               (try simp only [Act.put])
               refine wpAnyH_ready (rs := [14]) (by kernel_rfl) (by simp) ?_
               refine AllReadyH.cons (o := ({ dst := none, op := .store 23 (.tmp 39) (.tmp 222), type := 0, pos := "law.go:91", after := #[⟨13, .data⟩, ⟨11, .data⟩, ⟨9, .chain⟩, ⟨0, .phase⟩, ⟨1, .phase⟩, ⟨2, .phase⟩, ⟨3, .phase⟩, ⟨4, .phase⟩, ⟨5, .phase⟩, ⟨6, .phase⟩, ⟨7, .phase⟩, ⟨8, .phase⟩, ⟨9, .phase⟩, ⟨10, .phase⟩, ⟨11, .phase⟩, ⟨12, .textOnly .lateStores⟩, ⟨13, .phase⟩], guard := none } : Oper)) rfl (fun K hK => ?_) ?_
               ·
                have c0 := RB.out.c0
                have c1 := RB.out.c1
                have f0 := RB.out.f 0
                have f1 := RB.out.f 1
                have hs := RB.out.s0 (.string mx)
                have d1 := hs.c1
                have g1 := hs.f 1
                go_simp
                have RBn := Lib.hid ((hs.s1 (.string my)))
                have Alln := Lib.hid (((All.out.other ⟨WJl32.heap.size, 0, none⟩ (.string mx) neRBAll).other ⟨WJl32.heap.size, 1, none⟩ (.string my) neRBAll))
                have RAn := Lib.hid (((RA.out.other ⟨WJl32.heap.size, 0, none⟩ (.string mx) neRBRA).other ⟨WJl32.heap.size, 1, none⟩ (.string my) neRBRA))
                have HBn := Lib.hid (((HB.out.setCell (p := ⟨WJl32.heap.size, 0, none⟩) gRB (.string mx)).setCell (p := ⟨WJl32.heap.size, 1, none⟩) gRB (.string my)))
                clear hs c0 c1 f0 f1 d1 g1
                have RB := RBn
                have All := Alln
                have RA := RAn
                have HB := HBn
                clear RBn Alln RAn HBn
                refine hK.out _ _ ?_ (fun hHeldN => ?_)
                ·
                 exact (hHeld.other ⟨WJl32.heap.size, 0, none⟩ (.string mx) neRBAll).other ⟨WJl32.heap.size, 1, none⟩ (.string my) neRBAll
                clear hK K
                clear hHeld
                have hHeld := hHeldN
                clear hHeldN
                (try simp only [Act.put, List.setIfInBounds_toArray, List.set_cons_zero, List.set_cons_succ])
                refine tk 15 (v := ?v15_17lj_33_5) ?hy15_17lj_33_5 ?re15_17lj_33_5
                case hy15_17lj_33_5 => (intro w hSw; go_simp) <;> with_reducible rfl
                (try simp only [Act.put, List.setIfInBounds_toArray])
                refine wpAnyH_done (by kernel_rfl) ?_ _
                refine NoPanic.normal ?_
                generalize hWJ : ((Wlj33_5.setCell ⟨WJl32.heap.size, 0, none⟩ (.string mx)).setCell ⟨WJl32.heap.size, 1, none⟩ (.string my)) = WJ at *
                clear hWJ
                generalize hgJ : WJl32.heap.size = gJ at *
                clear hgJ
                exact HJ gJ WJ (Lib.hid ⟨All.out, RA.out, RB.out, HB.out⟩)
               exact AllReadyH.nil
              exact AllReadyH.nil
             exact AllReadyH.nil
            case r =>
             clear All RA HB
             intro gJlj33 WJlj33 hF
             obtain ⟨All', RA', RB', HB'⟩ := hF.out
             have All := Lib.hid All'
             have RA := Lib.hid RA'
             have RB := Lib.hid RB'
             have HB := Lib.hid HB'
             clear hF All' RA' RB' HB'
             go_upto_region 34 with fail
             refine wp_region_noPanic ?_
             refine wp_region_held_drew (S := fun W => CBlk W (gA) cs 23 ∧ RBlk W (gJl32) (.string mx) (.string my) ∧ RBlk W (gJlj33) (.string mx) (.string my)) (by kernel_rfl) ?_ (fun hHeld => ?_)
             ·
              exact ⟨All.out, RA.out, RB.out⟩
             have Alln := Lib.hid All.out.drew
             have RAn := Lib.hid RA.out.drew
             have RBn := Lib.hid RB.out.drew
             have HBn := Lib.hid HB.out.drew
             clear All RA RB HB
             have All := Alln
             have RA := RAn
             have RB := RBn
             have HB := HBn
             clear Alln RAn RBn HBn
             refine tk 0 (oi := ({ dst := some 224, op := .move (.tmp 18), type := 30, pos := "law.go:92", after := #[], guard := none } : Oper)) (v := ?v0_1ljj_34_6) ?hy0_1ljj_34_6 ?re0_1ljj_34_6
             case hy0_1ljj_34_6 => (intro w hSw; go_simp) <;> with_reducible rfl
             (try simp only [Act.put])
             refine tk 1 (oi := ({ dst := some 225, op := .move (.tmp 19), type := 3, pos := "law.go:92", after := #[], guard := none } : Oper)) (v := ?v1_2ljj_34_6) ?hy1_2ljj_34_6 ?re1_2ljj_34_6
             case hy1_2ljj_34_6 => (intro w hSw; go_simp) <;> with_reducible rfl
             (try simp only [Act.put])
             refine tk 5 (oi := ({ dst := some 229, op := .move (.tmp 18), type := 30, pos := "law.go:92", after := #[], guard := none } : Oper)) (v := ?v5_3ljj_34_6) ?hy5_3ljj_34_6 ?re5_3ljj_34_6
             case hy5_3ljj_34_6 => (intro w hSw; go_simp) <;> with_reducible rfl
             (try simp only [Act.put])
             refine tk 6 (oi := ({ dst := some 230, op := .move (.tmp 19), type := 3, pos := "law.go:92", after := #[], guard := none } : Oper)) (v := ?v6_4ljj_34_6) ?hy6_4ljj_34_6 ?re6_4ljj_34_6
             case hy6_4ljj_34_6 => (intro w hSw; go_simp) <;> with_reducible rfl
             (try simp only [Act.put])
             refine tk 2 (oi := ({ dst := some 226, op := .indexAddr 30 (.tmp 224) (.tmp 225), type := 0, pos := "law.go:92", after := #[⟨0, .data⟩, ⟨1, .data⟩], guard := none } : Oper)) (v := ?v2_5ljj_34_6) ?hy2_5ljj_34_6 ?re2_5ljj_34_6
             case hy2_5ljj_34_6 => (intro w hSw; go_simp) <;> with_reducible rfl
             (try simp only [Act.put])
             refine tk 7 (oi := ({ dst := some 231, op := .indexAddr 30 (.tmp 229) (.tmp 230), type := 0, pos := "law.go:92", after := #[⟨5, .data⟩, ⟨6, .data⟩], guard := none } : Oper)) (v := ?v7_6ljj_34_6) ?hy7_6ljj_34_6 ?re7_6ljj_34_6
             case hy7_6ljj_34_6 => (intro w hSw; go_simp) <;> with_reducible rfl
             (try simp only [Act.put])
             refine tk 3 (oi := ({ dst := some 227, op := .load 23 (.tmp 226), type := 23, pos := "law.go:92", after := #[⟨2, .data⟩], guard := none } : Oper)) (v := ?v3_7ljj_34_6) ?hy3_7ljj_34_6 ?re3_7ljj_34_6
             case hy3_7ljj_34_6 => ((intro w hSw; have e0_0 := hSw.1.c (i * 2) k1; have e0_1 := hSw.1.c (i * 2 + 1) k2; have e0_2 := hSw.1.c 1 k6; have e1_0 := hSw.2.1.c0; have e1_1 := hSw.2.1.c1; have e2_0 := hSw.2.2.c0; have e2_1 := hSw.2.2.c1; go_simp) <;> with_reducible rfl)
             (try simp only [Act.put])
             refine tk 8 (oi := ({ dst := some 232, op := .load 23 (.tmp 231), type := 23, pos := "law.go:92", after := #[⟨7, .data⟩], guard := none } : Oper)) (v := ?v8_8ljj_34_6) ?hy8_8ljj_34_6 ?re8_8ljj_34_6
             case hy8_8ljj_34_6 => ((intro w hSw; have e0_0 := hSw.1.c (i * 2) k1; have e0_1 := hSw.1.c (i * 2 + 1) k2; have e0_2 := hSw.1.c 1 k6; have e1_0 := hSw.2.1.c0; have e1_1 := hSw.2.1.c1; have e2_0 := hSw.2.2.c0; have e2_1 := hSw.2.2.c1; go_simp) <;> with_reducible rfl)
             (try simp only [Act.put])
             refine wpAnyH_ready (rs := [4]) (by kernel_rfl) (by simp) ?_
             refine AllReadyH.cons (o := ({ dst := some 228, op := .call { callee := .value (.func 30), args := #[.tmp 227], argTypes := #[23] }, type := 4, pos := "law.go:92", after := #[⟨3, .data⟩], guard := none } : Oper)) rfl (fun K hK => ?_) ?_
             ·
              go_simp
              go_at_call 30
              refine (QB.out _).mono ?_
              rintro e Wljj34_1 ⟨rfl, B⟩
              have Alln := Lib.hid (All.out.keep B All.out.lt)
              have RAn := Lib.hid (RA.out.keep B RA.out.lt)
              have RBn := Lib.hid (RB.out.keep B RB.out.lt)
              have HBn := Lib.hid (HB.out.trans (B.mono HB.out.size))
              clear All RA RB HB
              have All := Alln
              have RA := RAn
              have RB := RBn
              have HB := HBn
              clear Alln RAn RBn HBn
              (try go_wp2_with fail)
              refine hK.out _ _ ?_ (fun hHeldN => ?_)
              ·
               exact ⟨hHeld.1.keep B hHeld.1.lt, hHeld.2.1.keep B hHeld.2.1.lt, hHeld.2.2.keep B hHeld.2.2.lt⟩
              clear hK K
              clear hHeld
              have hHeld := hHeldN
              clear hHeldN
              (try simp only [Act.put, List.setIfInBounds_toArray, List.set_cons_zero, List.set_cons_succ])
              clear B
              refine wpAnyH_ready (rs := [9]) (by kernel_rfl) (by simp) ?_
              refine AllReadyH.cons (o := ({ dst := some 233, op := .call { callee := .value (.func 31), args := #[.tmp 232], argTypes := #[23] }, type := 4, pos := "law.go:92", after := #[⟨8, .data⟩, ⟨4, .chain⟩], guard := none } : Oper)) rfl (fun K hK => ?_) ?_
              ·
               go_simp
               go_at_call 31
               refine (VB.out _).mono ?_
               rintro e Wljj34_2 ⟨rfl, B⟩
               have Alln := Lib.hid (All.out.keep B All.out.lt)
               have RAn := Lib.hid (RA.out.keep B RA.out.lt)
               have RBn := Lib.hid (RB.out.keep B RB.out.lt)
               have HBn := Lib.hid (HB.out.trans (B.mono HB.out.size))
               clear All RA RB HB
               have All := Alln
               have RA := RAn
               have RB := RBn
               have HB := HBn
               clear Alln RAn RBn HBn
               (try go_wp2_with fail)
               refine hK.out _ _ ?_ (fun hHeldN => ?_)
               ·
                exact ⟨hHeld.1.keep B hHeld.1.lt, hHeld.2.1.keep B hHeld.2.1.lt, hHeld.2.2.keep B hHeld.2.2.lt⟩
               clear hK K
               clear hHeld
               have hHeld := hHeldN
               clear hHeldN
               (try simp only [Act.put, List.setIfInBounds_toArray, List.set_cons_zero, List.set_cons_succ])
               clear B
               refine tk 10 (oi := ({ dst := some 234, op := .binOp .neq 4 (.tmp 228) (.tmp 233) 4, type := 4, pos := "law.go:92", after := #[⟨4, .data⟩, ⟨9, .data⟩], guard := none } : Oper)) (v := ?v10_9ljj_34_6) ?hy10_9ljj_34_6 ?re10_9ljj_34_6
               case hy10_9ljj_34_6 => (intro w hSw; go_simp) <;> with_reducible rfl
               (try simp only [Act.put, List.setIfInBounds_toArray, List.set_cons_zero, List.set_cons_succ])
               refine tk 11 (oi := ({ dst := some 235, op := .move (.tmp 234), type := 4, pos := "law.go:92", after := #[⟨10, .data⟩, ⟨9, .chain⟩], guard := none } : Oper)) (v := ?v11_10ljj_34_6) ?hy11_10ljj_34_6 ?re11_10ljj_34_6
               case hy11_10ljj_34_6 => (intro w hSw; go_simp) <;> with_reducible rfl
               (try simp only [Act.put, List.setIfInBounds_toArray, List.set_cons_zero, List.set_cons_succ])
               refine tk 12 (oi := ({ dst := some 236, op := .load 23 (.tmp 37), type := 23, pos := "law.go:92", after := #[⟨11, .guard⟩], guard := some (11, false) } : Oper)) (v := ?v12_11ljj_34_6) ?hy12_11ljj_34_6 ?re12_11ljj_34_6
               case hy12_11ljj_34_6 => ((intro w hSw; have e0_0 := hSw.1.c (i * 2) k1; have e0_1 := hSw.1.c (i * 2 + 1) k2; have e0_2 := hSw.1.c 1 k6; have e1_0 := hSw.2.1.c0; have e1_1 := hSw.2.1.c1; have e2_0 := hSw.2.2.c0; have e2_1 := hSw.2.2.c1; go_simp) <;> with_reducible rfl)
               (try simp only [Act.put, List.setIfInBounds_toArray, List.set_cons_zero, List.set_cons_succ])
               refine tk 13 (oi := ({ dst := some 237, op := .load 23 (.tmp 39), type := 23, pos := "law.go:92", after := #[⟨11, .guard⟩], guard := some (11, false) } : Oper)) (v := ?v13_12ljj_34_6) ?hy13_12ljj_34_6 ?re13_12ljj_34_6
               case hy13_12ljj_34_6 => ((intro w hSw; have e0_0 := hSw.1.c (i * 2) k1; have e0_1 := hSw.1.c (i * 2 + 1) k2; have e0_2 := hSw.1.c 1 k6; have e1_0 := hSw.2.1.c0; have e1_1 := hSw.2.1.c1; have e2_0 := hSw.2.2.c0; have e2_1 := hSw.2.2.c1; go_simp) <;> with_reducible rfl)
               (try simp only [Act.put, List.setIfInBounds_toArray, List.set_cons_zero, List.set_cons_succ])
               refine tk 14 (oi := ({ dst := some 238, op := .binOp .neq 23 (.tmp 236) (.tmp 237) 23, type := 4, pos := "law.go:92", after := #[⟨12, .data⟩, ⟨13, .data⟩, ⟨11, .guard⟩], guard := some (11, false) } : Oper)) (v := ?v14_13ljj_34_6) ?hy14_13ljj_34_6 ?re14_13ljj_34_6
               case hy14_13ljj_34_6 => (intro w hSw; go_simp) <;> with_reducible rfl
               (try simp only [Act.put, List.setIfInBounds_toArray, List.set_cons_zero, List.set_cons_succ])
               refine tk 15 (oi := ({ dst := some 239, op := .pick (.tmp 235) (.const (.bool true)) (.tmp 238), type := 4, pos := "law.go:92", after := #[⟨11, .data⟩, ⟨14, .data⟩], guard := none } : Oper)) (v := ?v15_14ljj_34_6) ?hy15_14ljj_34_6 ?re15_14ljj_34_6
               case hy15_14ljj_34_6 => (intro w hSw; go_simp) <;> with_reducible rfl
               (try simp only [Act.put, List.setIfInBounds_toArray, List.set_cons_zero, List.set_cons_succ])
               refine tk 16 (oi := ({ dst := some 240, op := .move (.tmp 239), type := 4, pos := "law.go:92", after := #[⟨15, .data⟩, ⟨11, .chain⟩], guard := none } : Oper)) (v := ?v16_15ljj_34_6) ?hy16_15ljj_34_6 ?re16_15ljj_34_6
               case hy16_15ljj_34_6 => (intro w hSw; go_simp) <;> with_reducible rfl
               (try simp only [Act.put, List.setIfInBounds_toArray, List.set_cons_zero, List.set_cons_succ])
               refine tk 17 (oi := ({ dst := some 241, op := .move (.tmp 38), type := 32, pos := "law.go:92", after := #[⟨16, .guard⟩], guard := some (16, false) } : Oper)) (v := ?v17_16ljj_34_6) ?hy17_16ljj_34_6 ?re17_16ljj_34_6
               case hy17_16ljj_34_6 => (intro w hSw; go_simp) <;> with_reducible rfl
               (try simp only [Act.put, List.setIfInBounds_toArray, List.set_cons_zero, List.set_cons_succ])
               refine tk 18 (oi := ({ dst := some 242, op := .move (.tmp 40), type := 32, pos := "law.go:92", after := #[⟨16, .guard⟩], guard := some (16, false) } : Oper)) (v := ?v18_17ljj_34_6) ?hy18_17ljj_34_6 ?re18_17ljj_34_6
               case hy18_17ljj_34_6 => (intro w hSw; go_simp) <;> with_reducible rfl
               (try simp only [Act.put, List.setIfInBounds_toArray, List.set_cons_zero, List.set_cons_succ])
               refine tk 19 (oi := ({ dst := some 243, op := .binOp .neq 32 (.tmp 241) (.tmp 242) 32, type := 4, pos := "law.go:92", after := #[⟨17, .data⟩, ⟨18, .data⟩, ⟨16, .guard⟩], guard := some (16, false) } : Oper)) (v := ?v19_18ljj_34_6) ?hy19_18ljj_34_6 ?re19_18ljj_34_6
               case hy19_18ljj_34_6 => (intro w hSw; go_simp) <;> with_reducible rfl
               (try simp only [Act.put, List.setIfInBounds_toArray, List.set_cons_zero, List.set_cons_succ])
               refine tk 20 (oi := ({ dst := some 244, op := .pick (.tmp 240) (.const (.bool true)) (.tmp 243), type := 4, pos := "law.go:92", after := #[⟨16, .data⟩, ⟨19, .data⟩], guard := none } : Oper)) (v := ?v20_19ljj_34_6) ?hy20_19ljj_34_6 ?re20_19ljj_34_6
               case hy20_19ljj_34_6 => (intro w hSw; go_simp) <;> with_reducible rfl
               (try simp only [Act.put, List.setIfInBounds_toArray, List.set_cons_zero, List.set_cons_succ])
               refine wpAnyH_done (by kernel_rfl) ?_ _
               refine NoPanic.normal ?_
               go_wp2_with fail
               go_roundw
               case rel => exact ⟨i + 1, by omega, rfl, All, HB⟩
               case measure => show 5 - (i + 1) < 5 - i; omega
              exact AllReadyH.nil
             exact AllReadyH.nil
      ·
       obtain ⟨ox, oy, oe, oq, ov⟩ := agOf_4 n d BN.out BD.out
       have OQ := Lib.hid oq
       have OV := Lib.hid ov
       clear oq ov
       clear All HC HP
       go_wp2_with fail
       go_at_call 32
       refine (OQ.out _ (HT.out.below HB.out)).mono ?_
       rintro e We1 ⟨rfl, B⟩
       have HBn := Lib.hid ((HB.out.trans (B.mono HB.out.size)).alloc (HB.out.trans (B.mono HB.out.size)).size (.cells #[(.string ox), (.string oy)] 23))
       clear HB
       have HB := HBn
       clear HBn
       have RA := Lib.hid (RBlk.new We1 (.string ox) (.string oy))
       clear B
       (try go_wp2_with fail)
       go_at_call 33
       refine (OV.out _).mono ?_
       rintro e We2 ⟨rfl, B⟩
       have RAn := Lib.hid ((RA.out.keep B RA.out.lt).alloc (.cells #[(.string ox), (.string oy)] 23))
       have HBn := Lib.hid ((HB.out.trans (B.mono HB.out.size)).alloc (HB.out.trans (B.mono HB.out.size)).size (.cells #[(.string ox), (.string oy)] 23))
       clear RA HB
       have RA := RAn
       have HB := HBn
       clear RAn HBn
       have RB := Lib.hid (RBlk.new We2 (.string ox) (.string oy))
       clear B
       have a0 := RA.out.c0
       have a1 := RA.out.c1
       have b0 := RB.out.c0
       have b1 := RB.out.c1
       go_wp2_with fail
       go_ret
       exact ⟨rfl, HB.out⟩
    exact AllReadyH.nil
   exact AllReadyH.nil
  exact AllReadyH.nil
 exact AllReadyH.nil
end Go.Proofs.YtdnbhgkbfbgnaaaGreatDoor
