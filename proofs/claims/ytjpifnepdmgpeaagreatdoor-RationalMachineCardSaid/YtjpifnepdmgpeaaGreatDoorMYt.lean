/- RationalMachine: the walk of the law. -/
import Derived.Test.YtjpifnepdmgpeaaGreatDoorMi
namespace Go.Proofs.YtjpifnepdmgpeaaGreatDoor
open Go.RowKit

theorem di_eq (X Y : Int) (hY : Y ≠ 0) : (Rat.divInt X Y).num * Y = X * (Rat.divInt X Y).den :=
 (Rat.divInt_eq_divInt_iff (by have := den_pos (Rat.divInt X Y); omega) hY).1 (Rat.num_divInt_den _)
theorem mk_num4 (n : Int) (d : Nat) : (mkRat n d).num.natAbs ≤ n.natAbs := by
 rw [Rat.num_mkRat]; split
 ·
  omega
 ·
  exact Int.natAbs_ediv_le_natAbs _ _
theorem mk_den4 {n : Int} {d : Nat} (h : 0 < d) : (mkRat n d).den ≤ d := by
 rw [Rat.den_mkRat, if_neg (by omega)]; exact Nat.div_le_self _ _
theorem di_bd (X Y : Int) (hY : Y ≠ 0) : (Rat.divInt X Y).num.natAbs ≤ X.natAbs ∧ (Rat.divInt X Y).den ≤ Y.natAbs := by
 rw [← sg_R]
 have h1 := mk_num4 (sg Y X) (sg Y Y).toNat
 have h2 := mk_den4 (n := sg Y X) (d := (sg Y Y).toNat) (by have := sg_pos hY; omega)
 have h3 : (sg Y X).natAbs = X.natAbs := by unfold sg; split <;> omega
 have h4 : (sg Y Y).toNat = Y.natAbs := by unfold sg; split <;> omega
 omega
theorem okM_ok4 {a b : Rat} {i j : Nat} (ha : fitR i a) (hb : fitR j b) (h : i + j ≤ 200) : okM a b = true := by
 rw [okM, show fits (a.num * b.num) = true from decide_eq_true (mulb ha.1 hb.1 h), show fits ((a.den : Int) * b.den) = true from decide_eq_true (mulb (den_abs a ha) (den_abs b hb) h)]; rfl
theorem okA_ok4 {a b : Rat} {i j : Nat} (ha : fitR i a) (hb : fitR j b) (h : i + j ≤ 199) : okA a b = true := by
 have h1 := mulb ha.1 (den_abs b hb) h
 have h2 := mulb hb.1 (den_abs a ha) (show j + i ≤ 199 by omega)
 rw [okA, show fits (a.num * b.den) = true from decide_eq_true (wide h1 (by decide)), show fits (b.num * a.den) = true from decide_eq_true (wide h2 (by decide)), show fits ((a.den : Int) * b.den) = true from decide_eq_true (mulb (den_abs a ha) (den_abs b hb) (by omega)), show fits (a.num * b.den + b.num * a.den) = true from decide_eq_true (addb h1 h2)]; rfl
theorem okS_ok4 {a b : Rat} {i j : Nat} (ha : fitR i a) (hb : fitR j b) (h : i + j ≤ 199) : okS a b = true := by
 have h1 := mulb ha.1 (den_abs b hb) h
 have h2 := mulb hb.1 (den_abs a ha) (show j + i ≤ 199 by omega)
 rw [okS, show fits (a.num * b.den) = true from decide_eq_true (wide h1 (by decide)), show fits (b.num * a.den) = true from decide_eq_true (wide h2 (by decide)), show fits ((a.den : Int) * b.den) = true from decide_eq_true (mulb (den_abs a ha) (den_abs b hb) (by omega)), show fits (a.num * b.den - b.num * a.den) = true from decide_eq_true (subb h1 h2)]; rfl
theorem okD_ok4 {a b : Rat} {i j : Nat} (ha : fitR i a) (hb : fitR j b) (h : i + j ≤ 200) : okD a b = decide (b.num ≠ 0) := by
 rw [okD, show fits (a.num * b.den) = true from decide_eq_true (mulb ha.1 (den_abs b hb) h), show fits ((a.den : Int) * b.num) = true from decide_eq_true (mulb (den_abs a ha) hb.1 h)]; rfl
theorem small_b {a b : Int} (ha : a.natAbs ≤ 30000) (hb : b.natAbs ≤ 30000) : (a * b).natAbs ≤ 900000000 := by
 rw [Int.natAbs_mul]; exact Nat.mul_le_mul ha hb
theorem big_b {z Y : Int} (h1 : z.natAbs ≤ 1800000000) (h2 : Y.natAbs ≤ 1800000000) : IntKind.i64.wrap (z * Y) = z * Y := by
 have h : (z * Y).natAbs ≤ 3240000000000000000 := by rw [Int.natAbs_mul]; exact Nat.mul_le_mul h1 h2
 generalize z * Y = k at *
 simp [IntKind.wrap, IntKind.bits, IntKind.signed]; omega
theorem wrap_b {k : Int} (h : k.natAbs ≤ 3240000000000000000) : IntKind.i64.wrap k = k := by
 simp [IntKind.wrap, IntKind.bits, IntKind.signed]; omega
/-- a result: what the reference reads of its parts, and what they are -/
structure Res4 (sx sy : ByteArray) (X Y z u : Int) : Prop where
 tx : ∀ W, Calls Tryz.prog 37 #[.string sx] W fun e w' => e = .returned (.tuple #[.int .i64 z, .int .i64 0]) ∧ Below W.heap.size W w'
 ty : ∀ W, Calls Tryz.prog 37 #[.string sy] W fun e w' => e = .returned (.tuple #[.int .i64 u, .int .i64 0]) ∧ Below W.heap.size W w'
 v : ∀ W, Calls Tryz.prog 29 #[.agg #[.string sx, .string sy]] W fun e w' => e = .returned (.bool true) ∧ Below W.heap.size W w'
 pos : 1 ≤ u
 eq : z * Y = X * u
 w1 : IntKind.i64.wrap (z * Y) = z * Y
 w2 : IntKind.i64.wrap (X * u) = z * Y
theorem res4 (X Y : Int) (hY : Y ≠ 0) (hX : X.natAbs ≤ 1800000000) (hY9 : Y.natAbs ≤ 1800000000) : Res4 (S (Rat.divInt X Y).num) (S ((Rat.divInt X Y).den : Int)) X Y (Rat.divInt X Y).num ((Rat.divInt X Y).den : Int) := by
 obtain ⟨b1, b2⟩ := di_bd X Y hY
 have e := di_eq X Y hY
 have hp := den_pos (Rat.divInt X Y)
 have hf : fitR 200 (Rat.divInt X Y) := ⟨Nat.lt_of_le_of_lt (Nat.le_trans b1 hX) (by decide), Nat.lt_of_le_of_lt (Nat.le_trans b2 hY9) (by decide)⟩
 exact ⟨fun W => rToInt_S _ W (by omega) (by omega), fun W => rToInt_S _ W (by omega) (by omega), fun W => qValid_R _ hf W, by omega, e, big_b (by omega) hY9, by rw [e]; exact big_b hX (by rw [Int.natAbs_natCast]; omega)⟩
theorem CBlk.drew {w : World} {g : Nat} {cs : Array Value} {t : TypeId} (h : CBlk w g cs t) : CBlk w.drew g cs t := h
theorem cmp_di {n d m c : Int} (hd : 0 < d) (hc : 0 < c) : cmpR (Rat.divInt n d) (Rat.divInt m c) = cmpN (n * c) (m * d) := by
 obtain ⟨d', rfl⟩ : ∃ k : Nat, d = k := ⟨d.toNat, by omega⟩
 obtain ⟨c', rfl⟩ : ∃ k : Nat, c = k := ⟨c.toNat, by omega⟩
 rw [Rat.divInt_ofNat, Rat.divInt_ofNat, cmpR, cmpN]
 have h1 := mk_lt n m d' c' (by omega) (by omega)
 have h2 := mk_lt m n c' d' (by omega) (by omega)
 by_cases h : n * c' < m * d'
 ·
  rw [if_pos h, if_pos (h1.2 h)]
 ·
  rw [if_neg h, if_neg (fun e => h (h1.1 e))]
  by_cases g : m * d' < n * c'
  ·
   rw [if_pos g, if_pos (h2.2 g)]
  ·
   rw [if_neg g, if_neg (fun e => g (h2.1 e))]

set_option maxRecDepth 100000 in
set_option maxHeartbeats 16000000 in
theorem rmachine_any (x0 x1 x2 x3 : Int) (w : World) (b0 : -9223372036854775808 ≤ x0 ∧ x0 ≤ 9223372036854775807) (b1 : -9223372036854775808 ≤ x1 ∧ x1 ≤ 9223372036854775807) (b2 : -9223372036854775808 ≤ x2 ∧ x2 ≤ 9223372036854775807) (b3 : -9223372036854775808 ≤ x3 ∧ x3 ≤ 9223372036854775807) (hT : Tz w) :
  Calls Tryz.prog 5 #[.int .i64 x0, .int .i64 x1, .int .i64 x2, .int .i64 x3] w fun e w' => e = .returned (.bool true) ∧ Below w.heap.size w w' := by
 have HB := Lib.hid (Below.refl w.heap.size w)
 have HT := Lib.hid hT
 clear hT
 go_enter Tryz.func5, Tryz.ntmps5
 go_wp2_with fail
 go_at_call 11
 refine (sane4_any _ (HT.out.below HB.out)).mono ?_
 rintro e W1 ⟨rfl, B⟩
 have HBn := Lib.hid (HB.out.trans (B.mono HB.out.size))
 clear HB
 have HB := HBn
 clear HBn
 clear B
 (try go_wp2_with fail)
 go_at_call 22
 refine (lpick_60001 x0 _ b0.1 b0.2).mono ?_
 rintro e W2 ⟨p0, rfl, hp0, B⟩
 have HBn := Lib.hid (HB.out.trans (B.mono HB.out.size))
 clear HB
 have HB := HBn
 clear HBn
 clear B
 have wp0 : IntKind.i64.wrap ((p0 : Int) - 30000) = (p0 : Int) - 30000 := by simp [IntKind.wrap, IntKind.bits, IntKind.signed]; omega
 go_wp2_with fail
 clear wp0
 go_at_call 22
 refine (lpick_60001 x2 _ b2.1 b2.2).mono ?_
 rintro e W3 ⟨p2, rfl, hp2, B⟩
 have HBn := Lib.hid (HB.out.trans (B.mono HB.out.size))
 clear HB
 have HB := HBn
 clear HBn
 clear B
 have wp2 : IntKind.i64.wrap ((p2 : Int) - 30000) = (p2 : Int) - 30000 := by simp [IntKind.wrap, IntKind.bits, IntKind.signed]; omega
 go_wp2_with fail
 clear wp2
 go_at_call 22
 refine (lpick_30000 x1 _ b1.1 b1.2).mono ?_
 rintro e W4 ⟨p1, rfl, hp1, B⟩
 have HBn := Lib.hid (HB.out.trans (B.mono HB.out.size))
 clear HB
 have HB := HBn
 clear HBn
 clear B
 have wp1 : IntKind.i64.wrap (1 + (p1 : Int)) = 1 + (p1 : Int) := by simp [IntKind.wrap, IntKind.bits, IntKind.signed]; omega
 go_wp2_with fail
 clear wp1
 go_at_call 22
 refine (lpick_30000 x3 _ b3.1 b3.2).mono ?_
 rintro e W5 ⟨p3, rfl, hp3, B⟩
 have HBn := Lib.hid (HB.out.trans (B.mono HB.out.size))
 clear HB
 have HB := HBn
 clear HBn
 clear B
 have wp3 : IntKind.i64.wrap (1 + (p3 : Int)) = 1 + (p3 : Int) := by simp [IntKind.wrap, IntKind.bits, IntKind.signed]; omega
 go_wp2_with fail
 clear wp3
 have hn : ((p0 : Int) - 30000).natAbs ≤ 30000 := by omega
 have hm : ((p2 : Int) - 30000).natAbs ≤ 30000 := by omega
 have hd : 1 ≤ 1 + (p1 : Int) ∧ 1 + (p1 : Int) ≤ 30000 := by omega
 have hc : 1 ≤ 1 + (p3 : Int) ∧ 1 + (p3 : Int) ≤ 30000 := by omega
 generalize (p0 : Int) - 30000 = n at *
 generalize (p2 : Int) - 30000 = m at *
 generalize 1 + (p1 : Int) = d at *
 generalize 1 + (p3 : Int) = c at *
 clear hp0 hp1 hp2 hp3
 have hd0 : d ≠ 0 := by omega
 have hc0 : c ≠ 0 := by omega
 have hdn : d.natAbs ≤ 30000 := by omega
 have hcn : c.natAbs ≤ 30000 := by omega
 have fa : fitR 5 (Rat.divInt n d) := by
  have h := di_bd n d hd0
  exact ⟨by have := h.1; omega, by have := h.2; omega⟩
 have fb : fitR 5 (Rat.divInt m c) := by
  have h := di_bd m c hc0
  exact ⟨by have := h.1; omega, by have := h.2; omega⟩
 have fa2 := fa.wide (l := 200) (by decide)
 have fb2 := fb.wide (l := 200) (by decide)
 have cof1 := fun W hW => qOf_R n d W (by omega) (by omega) hW hd0
 have cof2 := fun W hW => qOf_R m c W (by omega) (by omega) hW hc0
 have s1 := small_b hn hcn
 have s2 := small_b hm hdn
 have s3 := small_b hdn hcn
 have s4 := small_b hn hm
 have s5 := small_b hdn hm
 have dc0 : d * c ≠ 0 := Int.mul_ne_zero hd0 hc0
 have c0 := fun W => qAdd_R (Rat.divInt n d) (Rat.divInt m c) fa2 fb2 W
 rw [okA_ok4 fa fb (by decide), opQ, if_pos rfl, Rat.divInt_add_divInt n m hd0 hc0] at c0
 have c1 := fun W => qSub_R (Rat.divInt n d) (Rat.divInt m c) fa2 fb2 W
 rw [okS_ok4 fa fb (by decide), opQ, if_pos rfl, Rat.divInt_sub_divInt n m hd0 hc0] at c1
 have c2 := fun W => qMul_R (Rat.divInt n d) (Rat.divInt m c) fa2 fb2 W
 rw [okM_ok4 fa fb (by decide), opQ, if_pos rfl, Rat.divInt_mul_divInt] at c2
 have c3 := fun W => qDiv_R (Rat.divInt n d) (Rat.divInt m c) fa2 fb2 W
 rw [okD_ok4 fa fb (by decide)] at c3
 have hdv : Rat.divInt n d / Rat.divInt m c = Rat.divInt (n * c) (d * m) := by rw [Rat.div_def, Rat.inv_divInt, Rat.divInt_mul_divInt]
 rw [hdv] at c3
 have R0 := res4 (n * c + m * d) (d * c) dc0 (by omega) (by omega)
 have R1 := res4 (n * c - m * d) (d * c) dc0 (by omega) (by omega)
 have R2 := res4 (n * m) (d * c) dc0 (by omega) (by omega)
 have h3 : ∃ (sx sy : ByteArray) (e z u : Int), (∀ W, Calls Tryz.prog 45 #[RV (Rat.divInt n d), RV (Rat.divInt m c)] W fun e' w' => e' = .returned (.tuple #[.agg #[.string sx, .string sy], .int .i64 e]) ∧ Below W.heap.size W w') ∧ ((m = 0 ∧ sx = ⟨#[]⟩ ∧ sy = ⟨#[]⟩ ∧ e = 40) ∨ (m ≠ 0 ∧ e = 0 ∧ Res4 sx sy (n * c) (d * m) z u)) := by
  by_cases hm0 : m = 0
  ·
   rw [show decide ((Rat.divInt m c).num ≠ 0) = false from decide_eq_false (fun h => h (by rw [hm0, Rat.zero_divInt]; rfl)), opQ, if_neg (by decide)] at c3
   exact ⟨_, _, 40, 0, 0, c3, .inl ⟨hm0, rfl, rfl, rfl⟩⟩
  ·
   have hnz : (Rat.divInt m c).num ≠ 0 := fun h => by
    have e := di_eq m c hc0
    rw [h, Int.zero_mul] at e
    exact absurd e.symm (Int.mul_ne_zero hm0 (by have := den_pos (Rat.divInt m c); omega))
   rw [decide_eq_true hnz, opQ, if_pos rfl] at c3
   exact ⟨_, _, 0, _, _, c3, .inr ⟨hm0, rfl, res4 (n * c) (d * m) (Int.mul_ne_zero hd0 hm0) (by omega) (by omega)⟩⟩
 obtain ⟨sx3, sy3, e3, z3, u3, c3', hm3⟩ := h3
 have ck := fun W => qCompare_R (Rat.divInt n d) (Rat.divInt m c) fa2 fb2 W
 rw [cmp_di (by omega) (by omega)] at ck
 have k1 : IntKind.i64.wrap (n * c) = n * c := wrap_b (by omega)
 have k2 : IntKind.i64.wrap (m * d) = m * d := wrap_b (by omega)
 have k3 : IntKind.i64.wrap (d * c) = d * c := wrap_b (by omega)
 have k4 : IntKind.i64.wrap (n * m) = n * m := wrap_b (by omega)
 have k5 : IntKind.i64.wrap (d * m) = d * m := wrap_b (by omega)
 have k6 : IntKind.i64.wrap (n * c + m * d) = n * c + m * d := wrap_b (by omega)
 have k7 : IntKind.i64.wrap (n * c - m * d) = n * c - m * d := wrap_b (by omega)
 clear c3 hdv fa fb fa2 fb2 s1 s2 s3 s4 s5 dc0
 unfold RV at cof1 cof2 c0 c1 c2 c3' ck
 generalize S (Rat.divInt n d).num = ga1 at *
 generalize S ((Rat.divInt n d).den : Int) = ga2 at *
 generalize S (Rat.divInt m c).num = gb1 at *
 generalize S ((Rat.divInt m c).den : Int) = gb2 at *
 generalize (Rat.divInt (n * c + m * d) (d * c)).num = z0 at *
 generalize ((Rat.divInt (n * c + m * d) (d * c)).den : Int) = u0' at *
 generalize S z0 = sx0 at *
 generalize S u0' = sy0 at *
 generalize (Rat.divInt (n * c - m * d) (d * c)).num = z1 at *
 generalize ((Rat.divInt (n * c - m * d) (d * c)).den : Int) = u1' at *
 generalize S z1 = sx1 at *
 generalize S u1' = sy1 at *
 generalize (Rat.divInt (n * m) (d * c)).num = z2 at *
 generalize ((Rat.divInt (n * m) (d * c)).den : Int) = u2' at *
 generalize S z2 = sx2 at *
 generalize S u2' = sy2 at *
 have CF := Lib.hid (fun W => four_walk ga1 ga2 gb1 gb2 sx0 sy0 sx1 sy1 sx2 sy2 sx3 sy3 0 0 0 e3 W c0 c1 c2 c3')
 have CO1 := Lib.hid cof1
 have CO2 := Lib.hid cof2
 have CK := Lib.hid ck
 have HR0 := Lib.hid R0
 have HR1 := Lib.hid R1
 have HR2 := Lib.hid R2
 have HM := Lib.hid hm3
 clear c0 c1 c2 c3' cof1 cof2 ck R0 R1 R2 hm3
 go_at_call 31
 refine (CO1.out _ (HT.out.below HB.out)).mono ?_
 rintro e W6 ⟨rfl, B⟩
 have HBn := Lib.hid ((HB.out.trans (B.mono HB.out.size)).alloc (HB.out.trans (B.mono HB.out.size)).size (.cells #[(.string ga1), (.string ga2)] 23))
 clear HB
 have HB := HBn
 clear HBn
 have Aa := Lib.hid (RBlk.new W6 (.string ga1) (.string ga2))
 clear B
 (try go_wp2_with fail)
 go_at_call 31
 refine (CO2.out _ (HT.out.below HB.out)).mono ?_
 rintro e W7 ⟨rfl, B⟩
 have Aan := Lib.hid ((Aa.out.keep B Aa.out.lt).alloc (.cells #[(.string gb1), (.string gb2)] 23))
 have HBn := Lib.hid ((HB.out.trans (B.mono HB.out.size)).alloc (HB.out.trans (B.mono HB.out.size)).size (.cells #[(.string gb1), (.string gb2)] 23))
 clear Aa HB
 have Aa := Aan
 have HB := HBn
 clear Aan HBn
 have Bb := Lib.hid (RBlk.new W7 (.string gb1) (.string gb2))
 clear B
 have Aac0 := Aa.out.c0
 have Aac1 := Aa.out.c1
 have Bbc0 := Bb.out.c0
 have Bbc1 := Bb.out.c1
 (try go_wp2_with fail)
 clear Aac0 Aac1 Bbc0 Bbc1
 go_at_call 15
 refine (CF.out _).mono ?_
 rintro e W8 ⟨rfl, B⟩
 have Aan := Lib.hid ((Aa.out.keep B Aa.out.lt))
 have Bbn := Lib.hid ((Bb.out.keep B Bb.out.lt))
 have HBn := Lib.hid (HB.out.trans (B.mono HB.out.size))
 clear Aa Bb HB
 have Aa := Aan
 have Bb := Bbn
 have HB := HBn
 clear Aan Bbn HBn
 clear B
 go_wp2_with fail
 have q1 : (W8.alloc (.cells #[.string sx0, .string sy0, .string sx1, .string sy1, .string sx2, .string sy2, .string sx3, .string sy3] 31)).heap.size = W8.heap.size + 1 := World.size_alloc _ _
 have q2 : ((W8.alloc (.cells #[.string sx0, .string sy0, .string sx1, .string sy1, .string sx2, .string sy2, .string sx3, .string sy3] 31)).alloc (.cells #[.int .i64 0, .int .i64 0, .int .i64 0, .int .i64 e3] 33)).heap.size = W8.heap.size + 1 + 1 := by rw [World.size_alloc, q1]
 have R8 := Lib.hid (((CBlk.new W8 #[.string sx0, .string sy0, .string sx1, .string sy1, .string sx2, .string sy2, .string sx3, .string sy3] 31).alloc (.cells #[.int .i64 0, .int .i64 0, .int .i64 0, .int .i64 e3] 33)).alloc (.cells #[.int .i64 (n * c + m * d), .int .i64 (d * c), .int .i64 (n * c - m * d), .int .i64 (d * c), .int .i64 (n * m), .int .i64 (d * c), .int .i64 (n * c), .int .i64 (d * m)] 51))
 have E4 := Lib.hid ((q1 ▸ CBlk.new (W8.alloc (.cells #[.string sx0, .string sy0, .string sx1, .string sy1, .string sx2, .string sy2, .string sx3, .string sy3] 31)) #[.int .i64 0, .int .i64 0, .int .i64 0, .int .i64 e3] 33 : CBlk ((W8.alloc (.cells #[.string sx0, .string sy0, .string sx1, .string sy1, .string sx2, .string sy2, .string sx3, .string sy3] 31)).alloc (.cells #[.int .i64 0, .int .i64 0, .int .i64 0, .int .i64 e3] 33)) (W8.heap.size + 1) #[.int .i64 0, .int .i64 0, .int .i64 0, .int .i64 e3] 33).alloc (.cells #[.int .i64 (n * c + m * d), .int .i64 (d * c), .int .i64 (n * c - m * d), .int .i64 (d * c), .int .i64 (n * m), .int .i64 (d * c), .int .i64 (n * c), .int .i64 (d * m)] 51))
 have Wt := Lib.hid (q2 ▸ CBlk.new ((W8.alloc (.cells #[.string sx0, .string sy0, .string sx1, .string sy1, .string sx2, .string sy2, .string sx3, .string sy3] 31)).alloc (.cells #[.int .i64 0, .int .i64 0, .int .i64 0, .int .i64 e3] 33)) #[.int .i64 (n * c + m * d), .int .i64 (d * c), .int .i64 (n * c - m * d), .int .i64 (d * c), .int .i64 (n * m), .int .i64 (d * c), .int .i64 (n * c), .int .i64 (d * m)] 51 : CBlk (((W8.alloc (.cells #[.string sx0, .string sy0, .string sx1, .string sy1, .string sx2, .string sy2, .string sx3, .string sy3] 31)).alloc (.cells #[.int .i64 0, .int .i64 0, .int .i64 0, .int .i64 e3] 33)).alloc (.cells #[.int .i64 (n * c + m * d), .int .i64 (d * c), .int .i64 (n * c - m * d), .int .i64 (d * c), .int .i64 (n * m), .int .i64 (d * c), .int .i64 (n * c), .int .i64 (d * m)] 51)) (W8.heap.size + 1 + 1) #[.int .i64 (n * c + m * d), .int .i64 (d * c), .int .i64 (n * c - m * d), .int .i64 (d * c), .int .i64 (n * m), .int .i64 (d * c), .int .i64 (n * c), .int .i64 (d * m)] 51)
 have Aan := Lib.hid (((Aa.out.alloc (.cells #[.string sx0, .string sy0, .string sx1, .string sy1, .string sx2, .string sy2, .string sx3, .string sy3] 31)).alloc (.cells #[.int .i64 0, .int .i64 0, .int .i64 0, .int .i64 e3] 33)).alloc (.cells #[.int .i64 (n * c + m * d), .int .i64 (d * c), .int .i64 (n * c - m * d), .int .i64 (d * c), .int .i64 (n * m), .int .i64 (d * c), .int .i64 (n * c), .int .i64 (d * m)] 51))
 have Bbn := Lib.hid (((Bb.out.alloc (.cells #[.string sx0, .string sy0, .string sx1, .string sy1, .string sx2, .string sy2, .string sx3, .string sy3] 31)).alloc (.cells #[.int .i64 0, .int .i64 0, .int .i64 0, .int .i64 e3] 33)).alloc (.cells #[.int .i64 (n * c + m * d), .int .i64 (d * c), .int .i64 (n * c - m * d), .int .i64 (d * c), .int .i64 (n * m), .int .i64 (d * c), .int .i64 (n * c), .int .i64 (d * m)] 51))
 have HBn := Lib.hid (((HB.out.alloc HB.out.size (.cells #[.string sx0, .string sy0, .string sx1, .string sy1, .string sx2, .string sy2, .string sx3, .string sy3] 31)).alloc (by rw [q1]; have := HB.out.size; omega) (.cells #[.int .i64 0, .int .i64 0, .int .i64 0, .int .i64 e3] 33)).alloc (by rw [q2]; have := HB.out.size; omega) (.cells #[.int .i64 (n * c + m * d), .int .i64 (d * c), .int .i64 (n * c - m * d), .int .i64 (d * c), .int .i64 (n * m), .int .i64 (d * c), .int .i64 (n * c), .int .i64 (d * m)] 51))
 clear q1 q2 Aa Bb HB
 have Aa := Aan
 have Bb := Bbn
 have HB := HBn
 clear Aan Bbn HBn
 go_loopw [17] (fun i wr => ∃ k : Nat, k ≤ 4 ∧ i = .int .i64 (k : Int) ∧ Hid (CBlk wr (W8.heap.size) #[.string sx0, .string sy0, .string sx1, .string sy1, .string sx2, .string sy2, .string sx3, .string sy3] 31) ∧ Hid (CBlk wr (W8.heap.size + 1) #[.int .i64 0, .int .i64 0, .int .i64 0, .int .i64 e3] 33) ∧ Hid (CBlk wr (W8.heap.size + 1 + 1) #[.int .i64 (n * c + m * d), .int .i64 (d * c), .int .i64 (n * c - m * d), .int .i64 (d * c), .int .i64 (n * m), .int .i64 (d * c), .int .i64 (n * c), .int .i64 (d * m)] 51) ∧ Hid (RBlk wr (W6.heap.size) (.string ga1) (.string ga2)) ∧ Hid (RBlk wr (W7.heap.size) (.string gb1) (.string gb2)) ∧ Hid (Below w.heap.size w wr)) (fun i _ => 4 - (intOf i).toNat)
 case atStart => exact ⟨0, by omega, rfl, R8, E4, Wt, Aa, Bb, HB⟩
 case round =>
  clear R8 E4 Wt Aa Bb HB
  obtain ⟨k, hk, rfl, R8, E4, Wt, Aa, Bb, HB⟩ := hrel
  by_cases hlt : k < 4
  ·
   rcases (by omega : k = 0 ∨ k = 1 ∨ k = 2 ∨ k = 3) with rfl | rfl | rfl | rfl
   ·
    have q0 := R8.out.c 0 rfl
    have q1 := R8.out.c 1 rfl
    go_wp2_with fail
    clear q0 q1
    go_at_call 37
    refine (HR0.out.tx _).mono ?_
    rintro e WA ⟨rfl, B⟩
    have R8n := Lib.hid (R8.out.keep B R8.out.lt)
    have E4n := Lib.hid (E4.out.keep B E4.out.lt)
    have Wtn := Lib.hid (Wt.out.keep B Wt.out.lt)
    have Aan := Lib.hid (Aa.out.keep B Aa.out.lt)
    have Bbn := Lib.hid (Bb.out.keep B Bb.out.lt)
    have HBn := Lib.hid (HB.out.trans (B.mono HB.out.size))
    clear R8 E4 Wt Aa Bb HB
    have R8 := R8n
    have E4 := E4n
    have Wt := Wtn
    have Aa := Aan
    have Bb := Bbn
    have HB := HBn
    clear R8n E4n Wtn Aan Bbn HBn
    clear B
    have q1 := R8.out.c 1 rfl
    go_wp2_with fail
    clear q1
    go_at_call 37
    refine (HR0.out.ty _).mono ?_
    rintro e WB ⟨rfl, B⟩
    have R8n := Lib.hid (R8.out.keep B R8.out.lt)
    have E4n := Lib.hid (E4.out.keep B E4.out.lt)
    have Wtn := Lib.hid (Wt.out.keep B Wt.out.lt)
    have Aan := Lib.hid (Aa.out.keep B Aa.out.lt)
    have Bbn := Lib.hid (Bb.out.keep B Bb.out.lt)
    have HBn := Lib.hid (HB.out.trans (B.mono HB.out.size))
    clear R8 E4 Wt Aa Bb HB
    have R8 := R8n
    have E4 := E4n
    have Wt := Wtn
    have Aa := Aan
    have Bb := Bbn
    have HB := HBn
    clear R8n E4n Wtn Aan Bbn HBn
    clear B
    go_upto_region 18 with fail
    have ww1 := HR0.out.w1
    have ww2 := HR0.out.w2
    have hu : ¬ (u0' < 1) := by have := HR0.out.pos; omega
    refine wp_region_noPanic ?_
    refine wp_region_held_drew (S := fun W => CBlk W (W8.heap.size) #[.string sx0, .string sy0, .string sx1, .string sy1, .string sx2, .string sy2, .string sx3, .string sy3] 31 ∧ CBlk W (W8.heap.size + 1) #[.int .i64 0, .int .i64 0, .int .i64 0, .int .i64 e3] 33 ∧ CBlk W (W8.heap.size + 1 + 1) #[.int .i64 (n * c + m * d), .int .i64 (d * c), .int .i64 (n * c - m * d), .int .i64 (d * c), .int .i64 (n * m), .int .i64 (d * c), .int .i64 (n * c), .int .i64 (d * m)] 51) (by kernel_rfl) ?_ (fun hHeld => ?_)
    ·
     exact ⟨R8.out, E4.out, Wt.out⟩
    refine wpAnyH_take (i := 0) (oi := ({ dst := some 128, op := .move (.tmp 17), type := 3, pos := "law.go:147", after := #[], guard := none } : Oper)) (v := ?v0_1_k0) rfl (by kernel_rfl) (by kernel_rfl) (by kernel_rfl) (fun _ _ _ h => h) (Or.inl ⟨by rfl, ?hy0_1_k0⟩) (by assumption) ?re0_1_k0
    case hy0_1_k0 => (intro w hSw; go_simp) <;> with_reducible rfl
    (try simp only [Act.put, List.setIfInBounds_toArray, List.set_cons_zero, List.set_cons_succ])
    refine wpAnyH_take (i := 1) (oi := ({ dst := some 129, op := .indexAddr 33 (.tmp 15) (.tmp 128), type := 0, pos := "law.go:147", after := #[⟨0, .data⟩], guard := none } : Oper)) (v := ?v1_2_k0) rfl (by kernel_rfl) (by kernel_rfl) (by kernel_rfl) (fun _ _ _ h => h) (Or.inl ⟨by rfl, ?hy1_2_k0⟩) (by assumption) ?re1_2_k0
    case hy1_2_k0 => (intro w hSw; go_simp) <;> with_reducible rfl
    (try simp only [Act.put, List.setIfInBounds_toArray, List.set_cons_zero, List.set_cons_succ])
    refine wpAnyH_take (i := 2) (oi := ({ dst := some 130, op := .load 32 (.tmp 129), type := 32, pos := "law.go:147", after := #[⟨1, .data⟩], guard := none } : Oper)) (v := ?v2_3_k0) rfl (by kernel_rfl) (by kernel_rfl) (by kernel_rfl) (fun _ _ _ h => h) (Or.inl ⟨by rfl, ?hy2_3_k0⟩) (by assumption) ?re2_3_k0
    case hy2_3_k0 => ((intro w hSw; have j0 := hSw.1.c 0 rfl; have j1 := hSw.1.c 1 rfl; have j2 := hSw.2.1.c 0 rfl; have j3 := hSw.2.2.c 0 rfl; have j4 := hSw.2.2.c 1 rfl; go_simp) <;> with_reducible rfl)
    (try simp only [Act.put, List.setIfInBounds_toArray, List.set_cons_zero, List.set_cons_succ])
    refine wpAnyH_take (i := 3) (oi := ({ dst := some 131, op := .binOp .neq 32 (.tmp 130) (.const (.int .i64 0)) 32, type := 4, pos := "law.go:147", after := #[⟨2, .data⟩], guard := none } : Oper)) (v := ?v3_4_k0) rfl (by kernel_rfl) (by kernel_rfl) (by kernel_rfl) (fun _ _ _ h => h) (Or.inl ⟨by rfl, ?hy3_4_k0⟩) (by assumption) ?re3_4_k0
    case hy3_4_k0 => (intro w hSw; go_simp) <;> with_reducible rfl
    (try simp only [Act.put, List.setIfInBounds_toArray, List.set_cons_zero, List.set_cons_succ])
    refine wpAnyH_take (i := 4) (oi := ({ dst := some 132, op := .move (.tmp 131), type := 4, pos := "law.go:147", after := #[⟨3, .data⟩], guard := none } : Oper)) (v := ?v4_5_k0) rfl (by kernel_rfl) (by kernel_rfl) (by kernel_rfl) (fun _ _ _ h => h) (Or.inl ⟨by rfl, ?hy4_5_k0⟩) (by assumption) ?re4_5_k0
    case hy4_5_k0 => (intro w hSw; go_simp) <;> with_reducible rfl
    (try simp only [Act.put, List.setIfInBounds_toArray, List.set_cons_zero, List.set_cons_succ])
    refine wpAnyH_take (i := 5) (oi := ({ dst := some 133, op := .move (.tmp 19), type := 32, pos := "law.go:147", after := #[⟨4, .guard⟩], guard := some (4, false) } : Oper)) (v := ?v5_6_k0) rfl (by kernel_rfl) (by kernel_rfl) (by kernel_rfl) (fun _ _ _ h => h) (Or.inl ⟨by rfl, ?hy5_6_k0⟩) (by assumption) ?re5_6_k0
    case hy5_6_k0 => (intro w hSw; go_simp) <;> with_reducible rfl
    (try simp only [Act.put, List.setIfInBounds_toArray, List.set_cons_zero, List.set_cons_succ])
    refine wpAnyH_take (i := 6) (oi := ({ dst := some 134, op := .binOp .neq 32 (.tmp 133) (.const (.int .i64 0)) 32, type := 4, pos := "law.go:147", after := #[⟨5, .data⟩, ⟨4, .guard⟩], guard := some (4, false) } : Oper)) (v := ?v6_7_k0) rfl (by kernel_rfl) (by kernel_rfl) (by kernel_rfl) (fun _ _ _ h => h) (Or.inl ⟨by rfl, ?hy6_7_k0⟩) (by assumption) ?re6_7_k0
    case hy6_7_k0 => (intro w hSw; go_simp) <;> with_reducible rfl
    (try simp only [Act.put, List.setIfInBounds_toArray, List.set_cons_zero, List.set_cons_succ])
    refine wpAnyH_take (i := 7) (oi := ({ dst := some 135, op := .pick (.tmp 132) (.const (.bool true)) (.tmp 134), type := 4, pos := "law.go:147", after := #[⟨4, .data⟩, ⟨6, .data⟩], guard := none } : Oper)) (v := ?v7_8_k0) rfl (by kernel_rfl) (by kernel_rfl) (by kernel_rfl) (fun _ _ _ h => h) (Or.inl ⟨by rfl, ?hy7_8_k0⟩) (by assumption) ?re7_8_k0
    case hy7_8_k0 => (intro w hSw; go_simp) <;> with_reducible rfl
    (try simp only [Act.put, List.setIfInBounds_toArray, List.set_cons_zero, List.set_cons_succ])
    refine wpAnyH_take (i := 8) (oi := ({ dst := some 136, op := .move (.tmp 135), type := 4, pos := "law.go:147", after := #[⟨7, .data⟩, ⟨4, .chain⟩], guard := none } : Oper)) (v := ?v8_9_k0) rfl (by kernel_rfl) (by kernel_rfl) (by kernel_rfl) (fun _ _ _ h => h) (Or.inl ⟨by rfl, ?hy8_9_k0⟩) (by assumption) ?re8_9_k0
    case hy8_9_k0 => (intro w hSw; go_simp) <;> with_reducible rfl
    (try simp only [Act.put, List.setIfInBounds_toArray, List.set_cons_zero, List.set_cons_succ])
    refine wpAnyH_take (i := 9) (oi := ({ dst := some 137, op := .move (.tmp 21), type := 32, pos := "law.go:147", after := #[⟨8, .guard⟩], guard := some (8, false) } : Oper)) (v := ?v9_10_k0) rfl (by kernel_rfl) (by kernel_rfl) (by kernel_rfl) (fun _ _ _ h => h) (Or.inl ⟨by rfl, ?hy9_10_k0⟩) (by assumption) ?re9_10_k0
    case hy9_10_k0 => (intro w hSw; go_simp) <;> with_reducible rfl
    (try simp only [Act.put, List.setIfInBounds_toArray, List.set_cons_zero, List.set_cons_succ])
    refine wpAnyH_take (i := 10) (oi := ({ dst := some 138, op := .binOp .neq 32 (.tmp 137) (.const (.int .i64 0)) 32, type := 4, pos := "law.go:147", after := #[⟨9, .data⟩, ⟨8, .guard⟩], guard := some (8, false) } : Oper)) (v := ?v10_11_k0) rfl (by kernel_rfl) (by kernel_rfl) (by kernel_rfl) (fun _ _ _ h => h) (Or.inl ⟨by rfl, ?hy10_11_k0⟩) (by assumption) ?re10_11_k0
    case hy10_11_k0 => (intro w hSw; go_simp) <;> with_reducible rfl
    (try simp only [Act.put, List.setIfInBounds_toArray, List.set_cons_zero, List.set_cons_succ])
    refine wpAnyH_take (i := 11) (oi := ({ dst := some 139, op := .pick (.tmp 136) (.const (.bool true)) (.tmp 138), type := 4, pos := "law.go:147", after := #[⟨8, .data⟩, ⟨10, .data⟩], guard := none } : Oper)) (v := ?v11_12_k0) rfl (by kernel_rfl) (by kernel_rfl) (by kernel_rfl) (fun _ _ _ h => h) (Or.inl ⟨by rfl, ?hy11_12_k0⟩) (by assumption) ?re11_12_k0
    case hy11_12_k0 => (intro w hSw; go_simp) <;> with_reducible rfl
    (try simp only [Act.put, List.setIfInBounds_toArray, List.set_cons_zero, List.set_cons_succ])
    refine wpAnyH_take (i := 12) (oi := ({ dst := some 140, op := .move (.tmp 139), type := 4, pos := "law.go:147", after := #[⟨11, .data⟩, ⟨8, .chain⟩], guard := none } : Oper)) (v := ?v12_13_k0) rfl (by kernel_rfl) (by kernel_rfl) (by kernel_rfl) (fun _ _ _ h => h) (Or.inl ⟨by rfl, ?hy12_13_k0⟩) (by assumption) ?re12_13_k0
    case hy12_13_k0 => (intro w hSw; go_simp) <;> with_reducible rfl
    (try simp only [Act.put, List.setIfInBounds_toArray, List.set_cons_zero, List.set_cons_succ])
    refine wpAnyH_take (i := 13) (oi := ({ dst := some 141, op := .move (.tmp 20), type := 3, pos := "law.go:147", after := #[⟨12, .guard⟩], guard := some (12, false) } : Oper)) (v := ?v13_14_k0) rfl (by kernel_rfl) (by kernel_rfl) (by kernel_rfl) (fun _ _ _ h => h) (Or.inl ⟨by rfl, ?hy13_14_k0⟩) (by assumption) ?re13_14_k0
    case hy13_14_k0 => (intro w hSw; go_simp) <;> with_reducible rfl
    (try simp only [Act.put, List.setIfInBounds_toArray, List.set_cons_zero, List.set_cons_succ])
    refine wpAnyH_take (i := 14) (oi := ({ dst := some 142, op := .binOp .lss 3 (.tmp 141) (.const (.int .i64 1)) 3, type := 4, pos := "law.go:147", after := #[⟨13, .data⟩, ⟨12, .guard⟩], guard := some (12, false) } : Oper)) (v := ?v14_15_k0) rfl (by kernel_rfl) (by kernel_rfl) (by kernel_rfl) (fun _ _ _ h => h) (Or.inl ⟨by rfl, ?hy14_15_k0⟩) (by assumption) ?re14_15_k0
    case hy14_15_k0 => (intro w hSw; go_simp) <;> with_reducible rfl
    (try simp only [Act.put, List.setIfInBounds_toArray, List.set_cons_zero, List.set_cons_succ])
    refine wpAnyH_take (i := 15) (oi := ({ dst := some 143, op := .pick (.tmp 140) (.const (.bool true)) (.tmp 142), type := 4, pos := "law.go:147", after := #[⟨12, .data⟩, ⟨14, .data⟩], guard := none } : Oper)) (v := ?v15_16_k0) rfl (by kernel_rfl) (by kernel_rfl) (by kernel_rfl) (fun _ _ _ h => h) (Or.inl ⟨by rfl, ?hy15_16_k0⟩) (by assumption) ?re15_16_k0
    case hy15_16_k0 => (intro w hSw; go_simp) <;> with_reducible rfl
    (try simp only [Act.put, List.setIfInBounds_toArray, List.set_cons_zero, List.set_cons_succ])
    refine wpAnyH_take (i := 16) (oi := ({ dst := some 144, op := .move (.tmp 143), type := 4, pos := "law.go:147", after := #[⟨15, .data⟩, ⟨12, .chain⟩], guard := none } : Oper)) (v := ?v16_17_k0) rfl (by kernel_rfl) (by kernel_rfl) (by kernel_rfl) (fun _ _ _ h => h) (Or.inl ⟨by rfl, ?hy16_17_k0⟩) (by assumption) ?re16_17_k0
    case hy16_17_k0 => (intro w hSw; go_simp) <;> with_reducible rfl
    (try simp only [Act.put, List.setIfInBounds_toArray, List.set_cons_zero, List.set_cons_succ])
    refine wpAnyH_take (i := 17) (oi := ({ dst := some 145, op := .move (.tmp 18), type := 3, pos := "law.go:147", after := #[⟨16, .guard⟩], guard := some (16, false) } : Oper)) (v := ?v17_18_k0) rfl (by kernel_rfl) (by kernel_rfl) (by kernel_rfl) (fun _ _ _ h => h) (Or.inl ⟨by rfl, ?hy17_18_k0⟩) (by assumption) ?re17_18_k0
    case hy17_18_k0 => (intro w hSw; go_simp) <;> with_reducible rfl
    (try simp only [Act.put, List.setIfInBounds_toArray, List.set_cons_zero, List.set_cons_succ])
    refine wpAnyH_take (i := 18) (oi := ({ dst := some 146, op := .move (.tmp 17), type := 3, pos := "law.go:147", after := #[⟨16, .guard⟩], guard := some (16, false) } : Oper)) (v := ?v18_19_k0) rfl (by kernel_rfl) (by kernel_rfl) (by kernel_rfl) (fun _ _ _ h => h) (Or.inl ⟨by rfl, ?hy18_19_k0⟩) (by assumption) ?re18_19_k0
    case hy18_19_k0 => (intro w hSw; go_simp) <;> with_reducible rfl
    (try simp only [Act.put, List.setIfInBounds_toArray, List.set_cons_zero, List.set_cons_succ])
    refine wpAnyH_take (i := 19) (oi := ({ dst := some 147, op := .indexAddr 51 (.tmp 16) (.tmp 146), type := 0, pos := "law.go:147", after := #[⟨18, .data⟩, ⟨16, .guard⟩], guard := some (16, false) } : Oper)) (v := ?v19_20_k0) rfl (by kernel_rfl) (by kernel_rfl) (by kernel_rfl) (fun _ _ _ h => h) (Or.inl ⟨by rfl, ?hy19_20_k0⟩) (by assumption) ?re19_20_k0
    case hy19_20_k0 => (intro w hSw; go_simp) <;> with_reducible rfl
    (try simp only [Act.put, List.setIfInBounds_toArray, List.set_cons_zero, List.set_cons_succ])
    refine wpAnyH_take (i := 20) (oi := ({ dst := some 148, op := .indexAddr 25 (.tmp 147) (.const (.int .i64 1)), type := 0, pos := "law.go:147", after := #[⟨19, .data⟩, ⟨16, .guard⟩], guard := some (16, false) } : Oper)) (v := ?v20_21_k0) rfl (by kernel_rfl) (by kernel_rfl) (by kernel_rfl) (fun _ _ _ h => h) (Or.inl ⟨by rfl, ?hy20_21_k0⟩) (by assumption) ?re20_21_k0
    case hy20_21_k0 => (intro w hSw; go_simp) <;> with_reducible rfl
    (try simp only [Act.put, List.setIfInBounds_toArray, List.set_cons_zero, List.set_cons_succ])
    refine wpAnyH_take (i := 21) (oi := ({ dst := some 149, op := .load 3 (.tmp 148), type := 3, pos := "law.go:147", after := #[⟨20, .data⟩, ⟨16, .guard⟩], guard := some (16, false) } : Oper)) (v := ?v21_22_k0) rfl (by kernel_rfl) (by kernel_rfl) (by kernel_rfl) (fun _ _ _ h => h) (Or.inl ⟨by rfl, ?hy21_22_k0⟩) (by assumption) ?re21_22_k0
    case hy21_22_k0 => ((intro w hSw; have j0 := hSw.1.c 0 rfl; have j1 := hSw.1.c 1 rfl; have j2 := hSw.2.1.c 0 rfl; have j3 := hSw.2.2.c 0 rfl; have j4 := hSw.2.2.c 1 rfl; go_simp) <;> with_reducible rfl)
    (try simp only [Act.put, List.setIfInBounds_toArray, List.set_cons_zero, List.set_cons_succ])
    refine wpAnyH_take (i := 22) (oi := ({ dst := some 150, op := .binOp .mul 3 (.tmp 145) (.tmp 149) 3, type := 3, pos := "law.go:147", after := #[⟨17, .data⟩, ⟨21, .data⟩, ⟨16, .guard⟩], guard := some (16, false) } : Oper)) (v := ?v22_23_k0) rfl (by kernel_rfl) (by kernel_rfl) (by kernel_rfl) (fun _ _ _ h => h) (Or.inl ⟨by rfl, ?hy22_23_k0⟩) (by assumption) ?re22_23_k0
    case hy22_23_k0 => (intro w hSw; go_simp) <;> with_reducible rfl
    (try simp only [Act.put, List.setIfInBounds_toArray, List.set_cons_zero, List.set_cons_succ])
    refine wpAnyH_take (i := 23) (oi := ({ dst := some 151, op := .move (.tmp 17), type := 3, pos := "law.go:147", after := #[⟨16, .guard⟩], guard := some (16, false) } : Oper)) (v := ?v23_24_k0) rfl (by kernel_rfl) (by kernel_rfl) (by kernel_rfl) (fun _ _ _ h => h) (Or.inl ⟨by rfl, ?hy23_24_k0⟩) (by assumption) ?re23_24_k0
    case hy23_24_k0 => (intro w hSw; go_simp) <;> with_reducible rfl
    (try simp only [Act.put, List.setIfInBounds_toArray, List.set_cons_zero, List.set_cons_succ])
    refine wpAnyH_take (i := 24) (oi := ({ dst := some 152, op := .indexAddr 51 (.tmp 16) (.tmp 151), type := 0, pos := "law.go:147", after := #[⟨23, .data⟩, ⟨16, .guard⟩], guard := some (16, false) } : Oper)) (v := ?v24_25_k0) rfl (by kernel_rfl) (by kernel_rfl) (by kernel_rfl) (fun _ _ _ h => h) (Or.inl ⟨by rfl, ?hy24_25_k0⟩) (by assumption) ?re24_25_k0
    case hy24_25_k0 => (intro w hSw; go_simp) <;> with_reducible rfl
    (try simp only [Act.put, List.setIfInBounds_toArray, List.set_cons_zero, List.set_cons_succ])
    refine wpAnyH_take (i := 25) (oi := ({ dst := some 153, op := .indexAddr 25 (.tmp 152) (.const (.int .i64 0)), type := 0, pos := "law.go:147", after := #[⟨24, .data⟩, ⟨16, .guard⟩], guard := some (16, false) } : Oper)) (v := ?v25_26_k0) rfl (by kernel_rfl) (by kernel_rfl) (by kernel_rfl) (fun _ _ _ h => h) (Or.inl ⟨by rfl, ?hy25_26_k0⟩) (by assumption) ?re25_26_k0
    case hy25_26_k0 => (intro w hSw; go_simp) <;> with_reducible rfl
    (try simp only [Act.put, List.setIfInBounds_toArray, List.set_cons_zero, List.set_cons_succ])
    refine wpAnyH_take (i := 26) (oi := ({ dst := some 154, op := .load 3 (.tmp 153), type := 3, pos := "law.go:147", after := #[⟨25, .data⟩, ⟨16, .guard⟩], guard := some (16, false) } : Oper)) (v := ?v26_27_k0) rfl (by kernel_rfl) (by kernel_rfl) (by kernel_rfl) (fun _ _ _ h => h) (Or.inl ⟨by rfl, ?hy26_27_k0⟩) (by assumption) ?re26_27_k0
    case hy26_27_k0 => ((intro w hSw; have j0 := hSw.1.c 0 rfl; have j1 := hSw.1.c 1 rfl; have j2 := hSw.2.1.c 0 rfl; have j3 := hSw.2.2.c 0 rfl; have j4 := hSw.2.2.c 1 rfl; go_simp) <;> with_reducible rfl)
    (try simp only [Act.put, List.setIfInBounds_toArray, List.set_cons_zero, List.set_cons_succ])
    refine wpAnyH_take (i := 27) (oi := ({ dst := some 155, op := .move (.tmp 20), type := 3, pos := "law.go:147", after := #[⟨16, .guard⟩], guard := some (16, false) } : Oper)) (v := ?v27_28_k0) rfl (by kernel_rfl) (by kernel_rfl) (by kernel_rfl) (fun _ _ _ h => h) (Or.inl ⟨by rfl, ?hy27_28_k0⟩) (by assumption) ?re27_28_k0
    case hy27_28_k0 => (intro w hSw; go_simp) <;> with_reducible rfl
    (try simp only [Act.put, List.setIfInBounds_toArray, List.set_cons_zero, List.set_cons_succ])
    refine wpAnyH_take (i := 28) (oi := ({ dst := some 156, op := .binOp .mul 3 (.tmp 154) (.tmp 155) 3, type := 3, pos := "law.go:147", after := #[⟨26, .data⟩, ⟨27, .data⟩, ⟨16, .guard⟩], guard := some (16, false) } : Oper)) (v := ?v28_29_k0) rfl (by kernel_rfl) (by kernel_rfl) (by kernel_rfl) (fun _ _ _ h => h) (Or.inl ⟨by rfl, ?hy28_29_k0⟩) (by assumption) ?re28_29_k0
    case hy28_29_k0 => (intro w hSw; go_simp) <;> with_reducible rfl
    (try simp only [Act.put, List.setIfInBounds_toArray, List.set_cons_zero, List.set_cons_succ])
    refine wpAnyH_take (i := 29) (oi := ({ dst := some 157, op := .binOp .neq 3 (.tmp 150) (.tmp 156) 3, type := 4, pos := "law.go:147", after := #[⟨22, .data⟩, ⟨28, .data⟩, ⟨16, .guard⟩], guard := some (16, false) } : Oper)) (v := ?v29_30_k0) rfl (by kernel_rfl) (by kernel_rfl) (by kernel_rfl) (fun _ _ _ h => h) (Or.inl ⟨by rfl, ?hy29_30_k0⟩) (by assumption) ?re29_30_k0
    case hy29_30_k0 => (intro w hSw; go_simp) <;> with_reducible rfl
    (try simp only [Act.put, List.setIfInBounds_toArray, List.set_cons_zero, List.set_cons_succ])
    refine wpAnyH_take (i := 30) (oi := ({ dst := some 158, op := .pick (.tmp 144) (.const (.bool true)) (.tmp 157), type := 4, pos := "law.go:147", after := #[⟨16, .data⟩, ⟨29, .data⟩], guard := none } : Oper)) (v := ?v30_31_k0) rfl (by kernel_rfl) (by kernel_rfl) (by kernel_rfl) (fun _ _ _ h => h) (Or.inl ⟨by rfl, ?hy30_31_k0⟩) (by assumption) ?re30_31_k0
    case hy30_31_k0 => (intro w hSw; go_simp) <;> with_reducible rfl
    (try simp only [Act.put, List.setIfInBounds_toArray, List.set_cons_zero, List.set_cons_succ])
    refine wpAnyH_take (i := 31) (oi := ({ dst := some 159, op := .move (.tmp 158), type := 4, pos := "law.go:147", after := #[⟨30, .data⟩, ⟨16, .chain⟩], guard := none } : Oper)) (v := ?v31_32_k0) rfl (by kernel_rfl) (by kernel_rfl) (by kernel_rfl) (fun _ _ _ h => h) (Or.inl ⟨by rfl, ?hy31_32_k0⟩) (by assumption) ?re31_32_k0
    case hy31_32_k0 => (intro w hSw; go_simp) <;> with_reducible rfl
    (try simp only [Act.put, List.setIfInBounds_toArray, List.set_cons_zero, List.set_cons_succ])
    refine wpAnyH_take (i := 32) (oi := ({ dst := some 160, op := .move (.tmp 17), type := 3, pos := "law.go:147", after := #[⟨31, .guard⟩], guard := some (31, false) } : Oper)) (v := ?v32_33_k0) rfl (by kernel_rfl) (by kernel_rfl) (by kernel_rfl) (fun _ _ _ h => h) (Or.inl ⟨by rfl, ?hy32_33_k0⟩) (by assumption) ?re32_33_k0
    case hy32_33_k0 => (intro w hSw; go_simp) <;> with_reducible rfl
    (try simp only [Act.put, List.setIfInBounds_toArray, List.set_cons_zero, List.set_cons_succ])
    refine wpAnyH_take (i := 33) (oi := ({ dst := some 161, op := .indexAddr 31 (.tmp 14) (.tmp 160), type := 0, pos := "law.go:147", after := #[⟨32, .data⟩, ⟨31, .guard⟩], guard := some (31, false) } : Oper)) (v := ?v33_34_k0) rfl (by kernel_rfl) (by kernel_rfl) (by kernel_rfl) (fun _ _ _ h => h) (Or.inl ⟨by rfl, ?hy33_34_k0⟩) (by assumption) ?re33_34_k0
    case hy33_34_k0 => (intro w hSw; go_simp) <;> with_reducible rfl
    (try simp only [Act.put, List.setIfInBounds_toArray, List.set_cons_zero, List.set_cons_succ])
    refine wpAnyH_take (i := 34) (oi := ({ dst := some 162, op := .load 23 (.tmp 161), type := 23, pos := "law.go:147", after := #[⟨33, .data⟩, ⟨31, .guard⟩], guard := some (31, false) } : Oper)) (v := ?v34_35_k0) rfl (by kernel_rfl) (by kernel_rfl) (by kernel_rfl) (fun _ _ _ h => h) (Or.inl ⟨by rfl, ?hy34_35_k0⟩) (by assumption) ?re34_35_k0
    case hy34_35_k0 => ((intro w hSw; have j0 := hSw.1.c 0 rfl; have j1 := hSw.1.c 1 rfl; have j2 := hSw.2.1.c 0 rfl; have j3 := hSw.2.2.c 0 rfl; have j4 := hSw.2.2.c 1 rfl; go_simp) <;> with_reducible rfl)
    (try simp only [Act.put, List.setIfInBounds_toArray, List.set_cons_zero, List.set_cons_succ])
    refine wpAnyH_ready (rs := [35]) (by kernel_rfl) (by simp) ?_
    refine AllReadyH.cons (o := ({ dst := some 163, op := .call { callee := .value (.func 29), args := #[.tmp 162], argTypes := #[23] }, type := 4, pos := "law.go:147", after := #[⟨34, .data⟩, ⟨31, .chain⟩, ⟨31, .guard⟩], guard := some (31, false) } : Oper)) rfl (fun K hK => ?_) ?_
    ·
     go_simp
     go_at_call 29
     refine (HR0.out.v _).mono ?_
     rintro e WV ⟨rfl, B⟩
     have R8n := Lib.hid (R8.out.drew.keep B R8.out.lt)
     have E4n := Lib.hid (E4.out.drew.keep B E4.out.lt)
     have Wtn := Lib.hid (Wt.out.drew.keep B Wt.out.lt)
     have Aan := Lib.hid (Aa.out.drew.keep B Aa.out.lt)
     have Bbn := Lib.hid (Bb.out.drew.keep B Bb.out.lt)
     have HBn := Lib.hid (HB.out.drew.trans (B.mono HB.out.size))
     clear R8 E4 Wt Aa Bb HB
     have R8 := R8n
     have E4 := E4n
     have Wt := Wtn
     have Aa := Aan
     have Bb := Bbn
     have HB := HBn
     clear R8n E4n Wtn Aan Bbn HBn
     (try go_wp2_with fail)
     refine hK.out _ _ ?_ (fun hHeld => ?_)
     ·
      exact ⟨R8.out, E4.out, Wt.out⟩
     clear hK K
     (try simp only [Act.put, List.setIfInBounds_toArray, List.set_cons_zero, List.set_cons_succ])
     clear B
     refine wpAnyH_take (i := 36) (oi := ({ dst := some 164, op := .unOp .not 4 (.tmp 163), type := 4, pos := "law.go:147", after := #[⟨35, .data⟩, ⟨31, .guard⟩], guard := some (31, false) } : Oper)) (v := ?v36_36_k0) rfl (by kernel_rfl) (by kernel_rfl) (by kernel_rfl) (fun _ _ _ h => h) (Or.inl ⟨by rfl, ?hy36_36_k0⟩) (by assumption) ?re36_36_k0
     case hy36_36_k0 => (intro w hSw; go_simp) <;> with_reducible rfl
     (try simp only [Act.put, List.setIfInBounds_toArray, List.set_cons_zero, List.set_cons_succ])
     refine wpAnyH_take (i := 37) (oi := ({ dst := some 165, op := .pick (.tmp 159) (.const (.bool true)) (.tmp 164), type := 4, pos := "law.go:147", after := #[⟨31, .data⟩, ⟨36, .data⟩], guard := none } : Oper)) (v := ?v37_37_k0) rfl (by kernel_rfl) (by kernel_rfl) (by kernel_rfl) (fun _ _ _ h => h) (Or.inl ⟨by rfl, ?hy37_37_k0⟩) (by assumption) ?re37_37_k0
     case hy37_37_k0 => (intro w hSw; go_simp) <;> with_reducible rfl
     (try simp only [Act.put, List.setIfInBounds_toArray, List.set_cons_zero, List.set_cons_succ])
     refine wpAnyH_done (by kernel_rfl) ?_ _
     refine NoPanic.normal ?_
     (try go_wp2_with fail)
     go_roundw
     case rel => exact ⟨1, by omega, by go_num, R8, E4, Wt, Aa, Bb, HB⟩
     case measure => simp [intOf]
    exact AllReadyH.nil
   ·
    have q0 := R8.out.c 2 rfl
    have q1 := R8.out.c 3 rfl
    go_wp2_with fail
    clear q0 q1
    go_at_call 37
    refine (HR1.out.tx _).mono ?_
    rintro e WA ⟨rfl, B⟩
    have R8n := Lib.hid (R8.out.keep B R8.out.lt)
    have E4n := Lib.hid (E4.out.keep B E4.out.lt)
    have Wtn := Lib.hid (Wt.out.keep B Wt.out.lt)
    have Aan := Lib.hid (Aa.out.keep B Aa.out.lt)
    have Bbn := Lib.hid (Bb.out.keep B Bb.out.lt)
    have HBn := Lib.hid (HB.out.trans (B.mono HB.out.size))
    clear R8 E4 Wt Aa Bb HB
    have R8 := R8n
    have E4 := E4n
    have Wt := Wtn
    have Aa := Aan
    have Bb := Bbn
    have HB := HBn
    clear R8n E4n Wtn Aan Bbn HBn
    clear B
    have q1 := R8.out.c 3 rfl
    go_wp2_with fail
    clear q1
    go_at_call 37
    refine (HR1.out.ty _).mono ?_
    rintro e WB ⟨rfl, B⟩
    have R8n := Lib.hid (R8.out.keep B R8.out.lt)
    have E4n := Lib.hid (E4.out.keep B E4.out.lt)
    have Wtn := Lib.hid (Wt.out.keep B Wt.out.lt)
    have Aan := Lib.hid (Aa.out.keep B Aa.out.lt)
    have Bbn := Lib.hid (Bb.out.keep B Bb.out.lt)
    have HBn := Lib.hid (HB.out.trans (B.mono HB.out.size))
    clear R8 E4 Wt Aa Bb HB
    have R8 := R8n
    have E4 := E4n
    have Wt := Wtn
    have Aa := Aan
    have Bb := Bbn
    have HB := HBn
    clear R8n E4n Wtn Aan Bbn HBn
    clear B
    go_upto_region 18 with fail
    have ww1 := HR1.out.w1
    have ww2 := HR1.out.w2
    have hu : ¬ (u1' < 1) := by have := HR1.out.pos; omega
    refine wp_region_noPanic ?_
    refine wp_region_held_drew (S := fun W => CBlk W (W8.heap.size) #[.string sx0, .string sy0, .string sx1, .string sy1, .string sx2, .string sy2, .string sx3, .string sy3] 31 ∧ CBlk W (W8.heap.size + 1) #[.int .i64 0, .int .i64 0, .int .i64 0, .int .i64 e3] 33 ∧ CBlk W (W8.heap.size + 1 + 1) #[.int .i64 (n * c + m * d), .int .i64 (d * c), .int .i64 (n * c - m * d), .int .i64 (d * c), .int .i64 (n * m), .int .i64 (d * c), .int .i64 (n * c), .int .i64 (d * m)] 51) (by kernel_rfl) ?_ (fun hHeld => ?_)
    ·
     exact ⟨R8.out, E4.out, Wt.out⟩
    refine wpAnyH_take (i := 0) (oi := ({ dst := some 128, op := .move (.tmp 17), type := 3, pos := "law.go:147", after := #[], guard := none } : Oper)) (v := ?v0_1_k1) rfl (by kernel_rfl) (by kernel_rfl) (by kernel_rfl) (fun _ _ _ h => h) (Or.inl ⟨by rfl, ?hy0_1_k1⟩) (by assumption) ?re0_1_k1
    case hy0_1_k1 => (intro w hSw; go_simp) <;> with_reducible rfl
    (try simp only [Act.put, List.setIfInBounds_toArray, List.set_cons_zero, List.set_cons_succ])
    refine wpAnyH_take (i := 1) (oi := ({ dst := some 129, op := .indexAddr 33 (.tmp 15) (.tmp 128), type := 0, pos := "law.go:147", after := #[⟨0, .data⟩], guard := none } : Oper)) (v := ?v1_2_k1) rfl (by kernel_rfl) (by kernel_rfl) (by kernel_rfl) (fun _ _ _ h => h) (Or.inl ⟨by rfl, ?hy1_2_k1⟩) (by assumption) ?re1_2_k1
    case hy1_2_k1 => (intro w hSw; go_simp) <;> with_reducible rfl
    (try simp only [Act.put, List.setIfInBounds_toArray, List.set_cons_zero, List.set_cons_succ])
    refine wpAnyH_take (i := 2) (oi := ({ dst := some 130, op := .load 32 (.tmp 129), type := 32, pos := "law.go:147", after := #[⟨1, .data⟩], guard := none } : Oper)) (v := ?v2_3_k1) rfl (by kernel_rfl) (by kernel_rfl) (by kernel_rfl) (fun _ _ _ h => h) (Or.inl ⟨by rfl, ?hy2_3_k1⟩) (by assumption) ?re2_3_k1
    case hy2_3_k1 => ((intro w hSw; have j0 := hSw.1.c 2 rfl; have j1 := hSw.1.c 3 rfl; have j2 := hSw.2.1.c 1 rfl; have j3 := hSw.2.2.c 2 rfl; have j4 := hSw.2.2.c 3 rfl; go_simp) <;> with_reducible rfl)
    (try simp only [Act.put, List.setIfInBounds_toArray, List.set_cons_zero, List.set_cons_succ])
    refine wpAnyH_take (i := 3) (oi := ({ dst := some 131, op := .binOp .neq 32 (.tmp 130) (.const (.int .i64 0)) 32, type := 4, pos := "law.go:147", after := #[⟨2, .data⟩], guard := none } : Oper)) (v := ?v3_4_k1) rfl (by kernel_rfl) (by kernel_rfl) (by kernel_rfl) (fun _ _ _ h => h) (Or.inl ⟨by rfl, ?hy3_4_k1⟩) (by assumption) ?re3_4_k1
    case hy3_4_k1 => (intro w hSw; go_simp) <;> with_reducible rfl
    (try simp only [Act.put, List.setIfInBounds_toArray, List.set_cons_zero, List.set_cons_succ])
    refine wpAnyH_take (i := 4) (oi := ({ dst := some 132, op := .move (.tmp 131), type := 4, pos := "law.go:147", after := #[⟨3, .data⟩], guard := none } : Oper)) (v := ?v4_5_k1) rfl (by kernel_rfl) (by kernel_rfl) (by kernel_rfl) (fun _ _ _ h => h) (Or.inl ⟨by rfl, ?hy4_5_k1⟩) (by assumption) ?re4_5_k1
    case hy4_5_k1 => (intro w hSw; go_simp) <;> with_reducible rfl
    (try simp only [Act.put, List.setIfInBounds_toArray, List.set_cons_zero, List.set_cons_succ])
    refine wpAnyH_take (i := 5) (oi := ({ dst := some 133, op := .move (.tmp 19), type := 32, pos := "law.go:147", after := #[⟨4, .guard⟩], guard := some (4, false) } : Oper)) (v := ?v5_6_k1) rfl (by kernel_rfl) (by kernel_rfl) (by kernel_rfl) (fun _ _ _ h => h) (Or.inl ⟨by rfl, ?hy5_6_k1⟩) (by assumption) ?re5_6_k1
    case hy5_6_k1 => (intro w hSw; go_simp) <;> with_reducible rfl
    (try simp only [Act.put, List.setIfInBounds_toArray, List.set_cons_zero, List.set_cons_succ])
    refine wpAnyH_take (i := 6) (oi := ({ dst := some 134, op := .binOp .neq 32 (.tmp 133) (.const (.int .i64 0)) 32, type := 4, pos := "law.go:147", after := #[⟨5, .data⟩, ⟨4, .guard⟩], guard := some (4, false) } : Oper)) (v := ?v6_7_k1) rfl (by kernel_rfl) (by kernel_rfl) (by kernel_rfl) (fun _ _ _ h => h) (Or.inl ⟨by rfl, ?hy6_7_k1⟩) (by assumption) ?re6_7_k1
    case hy6_7_k1 => (intro w hSw; go_simp) <;> with_reducible rfl
    (try simp only [Act.put, List.setIfInBounds_toArray, List.set_cons_zero, List.set_cons_succ])
    refine wpAnyH_take (i := 7) (oi := ({ dst := some 135, op := .pick (.tmp 132) (.const (.bool true)) (.tmp 134), type := 4, pos := "law.go:147", after := #[⟨4, .data⟩, ⟨6, .data⟩], guard := none } : Oper)) (v := ?v7_8_k1) rfl (by kernel_rfl) (by kernel_rfl) (by kernel_rfl) (fun _ _ _ h => h) (Or.inl ⟨by rfl, ?hy7_8_k1⟩) (by assumption) ?re7_8_k1
    case hy7_8_k1 => (intro w hSw; go_simp) <;> with_reducible rfl
    (try simp only [Act.put, List.setIfInBounds_toArray, List.set_cons_zero, List.set_cons_succ])
    refine wpAnyH_take (i := 8) (oi := ({ dst := some 136, op := .move (.tmp 135), type := 4, pos := "law.go:147", after := #[⟨7, .data⟩, ⟨4, .chain⟩], guard := none } : Oper)) (v := ?v8_9_k1) rfl (by kernel_rfl) (by kernel_rfl) (by kernel_rfl) (fun _ _ _ h => h) (Or.inl ⟨by rfl, ?hy8_9_k1⟩) (by assumption) ?re8_9_k1
    case hy8_9_k1 => (intro w hSw; go_simp) <;> with_reducible rfl
    (try simp only [Act.put, List.setIfInBounds_toArray, List.set_cons_zero, List.set_cons_succ])
    refine wpAnyH_take (i := 9) (oi := ({ dst := some 137, op := .move (.tmp 21), type := 32, pos := "law.go:147", after := #[⟨8, .guard⟩], guard := some (8, false) } : Oper)) (v := ?v9_10_k1) rfl (by kernel_rfl) (by kernel_rfl) (by kernel_rfl) (fun _ _ _ h => h) (Or.inl ⟨by rfl, ?hy9_10_k1⟩) (by assumption) ?re9_10_k1
    case hy9_10_k1 => (intro w hSw; go_simp) <;> with_reducible rfl
    (try simp only [Act.put, List.setIfInBounds_toArray, List.set_cons_zero, List.set_cons_succ])
    refine wpAnyH_take (i := 10) (oi := ({ dst := some 138, op := .binOp .neq 32 (.tmp 137) (.const (.int .i64 0)) 32, type := 4, pos := "law.go:147", after := #[⟨9, .data⟩, ⟨8, .guard⟩], guard := some (8, false) } : Oper)) (v := ?v10_11_k1) rfl (by kernel_rfl) (by kernel_rfl) (by kernel_rfl) (fun _ _ _ h => h) (Or.inl ⟨by rfl, ?hy10_11_k1⟩) (by assumption) ?re10_11_k1
    case hy10_11_k1 => (intro w hSw; go_simp) <;> with_reducible rfl
    (try simp only [Act.put, List.setIfInBounds_toArray, List.set_cons_zero, List.set_cons_succ])
    refine wpAnyH_take (i := 11) (oi := ({ dst := some 139, op := .pick (.tmp 136) (.const (.bool true)) (.tmp 138), type := 4, pos := "law.go:147", after := #[⟨8, .data⟩, ⟨10, .data⟩], guard := none } : Oper)) (v := ?v11_12_k1) rfl (by kernel_rfl) (by kernel_rfl) (by kernel_rfl) (fun _ _ _ h => h) (Or.inl ⟨by rfl, ?hy11_12_k1⟩) (by assumption) ?re11_12_k1
    case hy11_12_k1 => (intro w hSw; go_simp) <;> with_reducible rfl
    (try simp only [Act.put, List.setIfInBounds_toArray, List.set_cons_zero, List.set_cons_succ])
    refine wpAnyH_take (i := 12) (oi := ({ dst := some 140, op := .move (.tmp 139), type := 4, pos := "law.go:147", after := #[⟨11, .data⟩, ⟨8, .chain⟩], guard := none } : Oper)) (v := ?v12_13_k1) rfl (by kernel_rfl) (by kernel_rfl) (by kernel_rfl) (fun _ _ _ h => h) (Or.inl ⟨by rfl, ?hy12_13_k1⟩) (by assumption) ?re12_13_k1
    case hy12_13_k1 => (intro w hSw; go_simp) <;> with_reducible rfl
    (try simp only [Act.put, List.setIfInBounds_toArray, List.set_cons_zero, List.set_cons_succ])
    refine wpAnyH_take (i := 13) (oi := ({ dst := some 141, op := .move (.tmp 20), type := 3, pos := "law.go:147", after := #[⟨12, .guard⟩], guard := some (12, false) } : Oper)) (v := ?v13_14_k1) rfl (by kernel_rfl) (by kernel_rfl) (by kernel_rfl) (fun _ _ _ h => h) (Or.inl ⟨by rfl, ?hy13_14_k1⟩) (by assumption) ?re13_14_k1
    case hy13_14_k1 => (intro w hSw; go_simp) <;> with_reducible rfl
    (try simp only [Act.put, List.setIfInBounds_toArray, List.set_cons_zero, List.set_cons_succ])
    refine wpAnyH_take (i := 14) (oi := ({ dst := some 142, op := .binOp .lss 3 (.tmp 141) (.const (.int .i64 1)) 3, type := 4, pos := "law.go:147", after := #[⟨13, .data⟩, ⟨12, .guard⟩], guard := some (12, false) } : Oper)) (v := ?v14_15_k1) rfl (by kernel_rfl) (by kernel_rfl) (by kernel_rfl) (fun _ _ _ h => h) (Or.inl ⟨by rfl, ?hy14_15_k1⟩) (by assumption) ?re14_15_k1
    case hy14_15_k1 => (intro w hSw; go_simp) <;> with_reducible rfl
    (try simp only [Act.put, List.setIfInBounds_toArray, List.set_cons_zero, List.set_cons_succ])
    refine wpAnyH_take (i := 15) (oi := ({ dst := some 143, op := .pick (.tmp 140) (.const (.bool true)) (.tmp 142), type := 4, pos := "law.go:147", after := #[⟨12, .data⟩, ⟨14, .data⟩], guard := none } : Oper)) (v := ?v15_16_k1) rfl (by kernel_rfl) (by kernel_rfl) (by kernel_rfl) (fun _ _ _ h => h) (Or.inl ⟨by rfl, ?hy15_16_k1⟩) (by assumption) ?re15_16_k1
    case hy15_16_k1 => (intro w hSw; go_simp) <;> with_reducible rfl
    (try simp only [Act.put, List.setIfInBounds_toArray, List.set_cons_zero, List.set_cons_succ])
    refine wpAnyH_take (i := 16) (oi := ({ dst := some 144, op := .move (.tmp 143), type := 4, pos := "law.go:147", after := #[⟨15, .data⟩, ⟨12, .chain⟩], guard := none } : Oper)) (v := ?v16_17_k1) rfl (by kernel_rfl) (by kernel_rfl) (by kernel_rfl) (fun _ _ _ h => h) (Or.inl ⟨by rfl, ?hy16_17_k1⟩) (by assumption) ?re16_17_k1
    case hy16_17_k1 => (intro w hSw; go_simp) <;> with_reducible rfl
    (try simp only [Act.put, List.setIfInBounds_toArray, List.set_cons_zero, List.set_cons_succ])
    refine wpAnyH_take (i := 17) (oi := ({ dst := some 145, op := .move (.tmp 18), type := 3, pos := "law.go:147", after := #[⟨16, .guard⟩], guard := some (16, false) } : Oper)) (v := ?v17_18_k1) rfl (by kernel_rfl) (by kernel_rfl) (by kernel_rfl) (fun _ _ _ h => h) (Or.inl ⟨by rfl, ?hy17_18_k1⟩) (by assumption) ?re17_18_k1
    case hy17_18_k1 => (intro w hSw; go_simp) <;> with_reducible rfl
    (try simp only [Act.put, List.setIfInBounds_toArray, List.set_cons_zero, List.set_cons_succ])
    refine wpAnyH_take (i := 18) (oi := ({ dst := some 146, op := .move (.tmp 17), type := 3, pos := "law.go:147", after := #[⟨16, .guard⟩], guard := some (16, false) } : Oper)) (v := ?v18_19_k1) rfl (by kernel_rfl) (by kernel_rfl) (by kernel_rfl) (fun _ _ _ h => h) (Or.inl ⟨by rfl, ?hy18_19_k1⟩) (by assumption) ?re18_19_k1
    case hy18_19_k1 => (intro w hSw; go_simp) <;> with_reducible rfl
    (try simp only [Act.put, List.setIfInBounds_toArray, List.set_cons_zero, List.set_cons_succ])
    refine wpAnyH_take (i := 19) (oi := ({ dst := some 147, op := .indexAddr 51 (.tmp 16) (.tmp 146), type := 0, pos := "law.go:147", after := #[⟨18, .data⟩, ⟨16, .guard⟩], guard := some (16, false) } : Oper)) (v := ?v19_20_k1) rfl (by kernel_rfl) (by kernel_rfl) (by kernel_rfl) (fun _ _ _ h => h) (Or.inl ⟨by rfl, ?hy19_20_k1⟩) (by assumption) ?re19_20_k1
    case hy19_20_k1 => (intro w hSw; go_simp) <;> with_reducible rfl
    (try simp only [Act.put, List.setIfInBounds_toArray, List.set_cons_zero, List.set_cons_succ])
    refine wpAnyH_take (i := 20) (oi := ({ dst := some 148, op := .indexAddr 25 (.tmp 147) (.const (.int .i64 1)), type := 0, pos := "law.go:147", after := #[⟨19, .data⟩, ⟨16, .guard⟩], guard := some (16, false) } : Oper)) (v := ?v20_21_k1) rfl (by kernel_rfl) (by kernel_rfl) (by kernel_rfl) (fun _ _ _ h => h) (Or.inl ⟨by rfl, ?hy20_21_k1⟩) (by assumption) ?re20_21_k1
    case hy20_21_k1 => (intro w hSw; go_simp) <;> with_reducible rfl
    (try simp only [Act.put, List.setIfInBounds_toArray, List.set_cons_zero, List.set_cons_succ])
    refine wpAnyH_take (i := 21) (oi := ({ dst := some 149, op := .load 3 (.tmp 148), type := 3, pos := "law.go:147", after := #[⟨20, .data⟩, ⟨16, .guard⟩], guard := some (16, false) } : Oper)) (v := ?v21_22_k1) rfl (by kernel_rfl) (by kernel_rfl) (by kernel_rfl) (fun _ _ _ h => h) (Or.inl ⟨by rfl, ?hy21_22_k1⟩) (by assumption) ?re21_22_k1
    case hy21_22_k1 => ((intro w hSw; have j0 := hSw.1.c 2 rfl; have j1 := hSw.1.c 3 rfl; have j2 := hSw.2.1.c 1 rfl; have j3 := hSw.2.2.c 2 rfl; have j4 := hSw.2.2.c 3 rfl; go_simp) <;> with_reducible rfl)
    (try simp only [Act.put, List.setIfInBounds_toArray, List.set_cons_zero, List.set_cons_succ])
    refine wpAnyH_take (i := 22) (oi := ({ dst := some 150, op := .binOp .mul 3 (.tmp 145) (.tmp 149) 3, type := 3, pos := "law.go:147", after := #[⟨17, .data⟩, ⟨21, .data⟩, ⟨16, .guard⟩], guard := some (16, false) } : Oper)) (v := ?v22_23_k1) rfl (by kernel_rfl) (by kernel_rfl) (by kernel_rfl) (fun _ _ _ h => h) (Or.inl ⟨by rfl, ?hy22_23_k1⟩) (by assumption) ?re22_23_k1
    case hy22_23_k1 => (intro w hSw; go_simp) <;> with_reducible rfl
    (try simp only [Act.put, List.setIfInBounds_toArray, List.set_cons_zero, List.set_cons_succ])
    refine wpAnyH_take (i := 23) (oi := ({ dst := some 151, op := .move (.tmp 17), type := 3, pos := "law.go:147", after := #[⟨16, .guard⟩], guard := some (16, false) } : Oper)) (v := ?v23_24_k1) rfl (by kernel_rfl) (by kernel_rfl) (by kernel_rfl) (fun _ _ _ h => h) (Or.inl ⟨by rfl, ?hy23_24_k1⟩) (by assumption) ?re23_24_k1
    case hy23_24_k1 => (intro w hSw; go_simp) <;> with_reducible rfl
    (try simp only [Act.put, List.setIfInBounds_toArray, List.set_cons_zero, List.set_cons_succ])
    refine wpAnyH_take (i := 24) (oi := ({ dst := some 152, op := .indexAddr 51 (.tmp 16) (.tmp 151), type := 0, pos := "law.go:147", after := #[⟨23, .data⟩, ⟨16, .guard⟩], guard := some (16, false) } : Oper)) (v := ?v24_25_k1) rfl (by kernel_rfl) (by kernel_rfl) (by kernel_rfl) (fun _ _ _ h => h) (Or.inl ⟨by rfl, ?hy24_25_k1⟩) (by assumption) ?re24_25_k1
    case hy24_25_k1 => (intro w hSw; go_simp) <;> with_reducible rfl
    (try simp only [Act.put, List.setIfInBounds_toArray, List.set_cons_zero, List.set_cons_succ])
    refine wpAnyH_take (i := 25) (oi := ({ dst := some 153, op := .indexAddr 25 (.tmp 152) (.const (.int .i64 0)), type := 0, pos := "law.go:147", after := #[⟨24, .data⟩, ⟨16, .guard⟩], guard := some (16, false) } : Oper)) (v := ?v25_26_k1) rfl (by kernel_rfl) (by kernel_rfl) (by kernel_rfl) (fun _ _ _ h => h) (Or.inl ⟨by rfl, ?hy25_26_k1⟩) (by assumption) ?re25_26_k1
    case hy25_26_k1 => (intro w hSw; go_simp) <;> with_reducible rfl
    (try simp only [Act.put, List.setIfInBounds_toArray, List.set_cons_zero, List.set_cons_succ])
    refine wpAnyH_take (i := 26) (oi := ({ dst := some 154, op := .load 3 (.tmp 153), type := 3, pos := "law.go:147", after := #[⟨25, .data⟩, ⟨16, .guard⟩], guard := some (16, false) } : Oper)) (v := ?v26_27_k1) rfl (by kernel_rfl) (by kernel_rfl) (by kernel_rfl) (fun _ _ _ h => h) (Or.inl ⟨by rfl, ?hy26_27_k1⟩) (by assumption) ?re26_27_k1
    case hy26_27_k1 => ((intro w hSw; have j0 := hSw.1.c 2 rfl; have j1 := hSw.1.c 3 rfl; have j2 := hSw.2.1.c 1 rfl; have j3 := hSw.2.2.c 2 rfl; have j4 := hSw.2.2.c 3 rfl; go_simp) <;> with_reducible rfl)
    (try simp only [Act.put, List.setIfInBounds_toArray, List.set_cons_zero, List.set_cons_succ])
    refine wpAnyH_take (i := 27) (oi := ({ dst := some 155, op := .move (.tmp 20), type := 3, pos := "law.go:147", after := #[⟨16, .guard⟩], guard := some (16, false) } : Oper)) (v := ?v27_28_k1) rfl (by kernel_rfl) (by kernel_rfl) (by kernel_rfl) (fun _ _ _ h => h) (Or.inl ⟨by rfl, ?hy27_28_k1⟩) (by assumption) ?re27_28_k1
    case hy27_28_k1 => (intro w hSw; go_simp) <;> with_reducible rfl
    (try simp only [Act.put, List.setIfInBounds_toArray, List.set_cons_zero, List.set_cons_succ])
    refine wpAnyH_take (i := 28) (oi := ({ dst := some 156, op := .binOp .mul 3 (.tmp 154) (.tmp 155) 3, type := 3, pos := "law.go:147", after := #[⟨26, .data⟩, ⟨27, .data⟩, ⟨16, .guard⟩], guard := some (16, false) } : Oper)) (v := ?v28_29_k1) rfl (by kernel_rfl) (by kernel_rfl) (by kernel_rfl) (fun _ _ _ h => h) (Or.inl ⟨by rfl, ?hy28_29_k1⟩) (by assumption) ?re28_29_k1
    case hy28_29_k1 => (intro w hSw; go_simp) <;> with_reducible rfl
    (try simp only [Act.put, List.setIfInBounds_toArray, List.set_cons_zero, List.set_cons_succ])
    refine wpAnyH_take (i := 29) (oi := ({ dst := some 157, op := .binOp .neq 3 (.tmp 150) (.tmp 156) 3, type := 4, pos := "law.go:147", after := #[⟨22, .data⟩, ⟨28, .data⟩, ⟨16, .guard⟩], guard := some (16, false) } : Oper)) (v := ?v29_30_k1) rfl (by kernel_rfl) (by kernel_rfl) (by kernel_rfl) (fun _ _ _ h => h) (Or.inl ⟨by rfl, ?hy29_30_k1⟩) (by assumption) ?re29_30_k1
    case hy29_30_k1 => (intro w hSw; go_simp) <;> with_reducible rfl
    (try simp only [Act.put, List.setIfInBounds_toArray, List.set_cons_zero, List.set_cons_succ])
    refine wpAnyH_take (i := 30) (oi := ({ dst := some 158, op := .pick (.tmp 144) (.const (.bool true)) (.tmp 157), type := 4, pos := "law.go:147", after := #[⟨16, .data⟩, ⟨29, .data⟩], guard := none } : Oper)) (v := ?v30_31_k1) rfl (by kernel_rfl) (by kernel_rfl) (by kernel_rfl) (fun _ _ _ h => h) (Or.inl ⟨by rfl, ?hy30_31_k1⟩) (by assumption) ?re30_31_k1
    case hy30_31_k1 => (intro w hSw; go_simp) <;> with_reducible rfl
    (try simp only [Act.put, List.setIfInBounds_toArray, List.set_cons_zero, List.set_cons_succ])
    refine wpAnyH_take (i := 31) (oi := ({ dst := some 159, op := .move (.tmp 158), type := 4, pos := "law.go:147", after := #[⟨30, .data⟩, ⟨16, .chain⟩], guard := none } : Oper)) (v := ?v31_32_k1) rfl (by kernel_rfl) (by kernel_rfl) (by kernel_rfl) (fun _ _ _ h => h) (Or.inl ⟨by rfl, ?hy31_32_k1⟩) (by assumption) ?re31_32_k1
    case hy31_32_k1 => (intro w hSw; go_simp) <;> with_reducible rfl
    (try simp only [Act.put, List.setIfInBounds_toArray, List.set_cons_zero, List.set_cons_succ])
    refine wpAnyH_take (i := 32) (oi := ({ dst := some 160, op := .move (.tmp 17), type := 3, pos := "law.go:147", after := #[⟨31, .guard⟩], guard := some (31, false) } : Oper)) (v := ?v32_33_k1) rfl (by kernel_rfl) (by kernel_rfl) (by kernel_rfl) (fun _ _ _ h => h) (Or.inl ⟨by rfl, ?hy32_33_k1⟩) (by assumption) ?re32_33_k1
    case hy32_33_k1 => (intro w hSw; go_simp) <;> with_reducible rfl
    (try simp only [Act.put, List.setIfInBounds_toArray, List.set_cons_zero, List.set_cons_succ])
    refine wpAnyH_take (i := 33) (oi := ({ dst := some 161, op := .indexAddr 31 (.tmp 14) (.tmp 160), type := 0, pos := "law.go:147", after := #[⟨32, .data⟩, ⟨31, .guard⟩], guard := some (31, false) } : Oper)) (v := ?v33_34_k1) rfl (by kernel_rfl) (by kernel_rfl) (by kernel_rfl) (fun _ _ _ h => h) (Or.inl ⟨by rfl, ?hy33_34_k1⟩) (by assumption) ?re33_34_k1
    case hy33_34_k1 => (intro w hSw; go_simp) <;> with_reducible rfl
    (try simp only [Act.put, List.setIfInBounds_toArray, List.set_cons_zero, List.set_cons_succ])
    refine wpAnyH_take (i := 34) (oi := ({ dst := some 162, op := .load 23 (.tmp 161), type := 23, pos := "law.go:147", after := #[⟨33, .data⟩, ⟨31, .guard⟩], guard := some (31, false) } : Oper)) (v := ?v34_35_k1) rfl (by kernel_rfl) (by kernel_rfl) (by kernel_rfl) (fun _ _ _ h => h) (Or.inl ⟨by rfl, ?hy34_35_k1⟩) (by assumption) ?re34_35_k1
    case hy34_35_k1 => ((intro w hSw; have j0 := hSw.1.c 2 rfl; have j1 := hSw.1.c 3 rfl; have j2 := hSw.2.1.c 1 rfl; have j3 := hSw.2.2.c 2 rfl; have j4 := hSw.2.2.c 3 rfl; go_simp) <;> with_reducible rfl)
    (try simp only [Act.put, List.setIfInBounds_toArray, List.set_cons_zero, List.set_cons_succ])
    refine wpAnyH_ready (rs := [35]) (by kernel_rfl) (by simp) ?_
    refine AllReadyH.cons (o := ({ dst := some 163, op := .call { callee := .value (.func 29), args := #[.tmp 162], argTypes := #[23] }, type := 4, pos := "law.go:147", after := #[⟨34, .data⟩, ⟨31, .chain⟩, ⟨31, .guard⟩], guard := some (31, false) } : Oper)) rfl (fun K hK => ?_) ?_
    ·
     go_simp
     go_at_call 29
     refine (HR1.out.v _).mono ?_
     rintro e WV ⟨rfl, B⟩
     have R8n := Lib.hid (R8.out.drew.keep B R8.out.lt)
     have E4n := Lib.hid (E4.out.drew.keep B E4.out.lt)
     have Wtn := Lib.hid (Wt.out.drew.keep B Wt.out.lt)
     have Aan := Lib.hid (Aa.out.drew.keep B Aa.out.lt)
     have Bbn := Lib.hid (Bb.out.drew.keep B Bb.out.lt)
     have HBn := Lib.hid (HB.out.drew.trans (B.mono HB.out.size))
     clear R8 E4 Wt Aa Bb HB
     have R8 := R8n
     have E4 := E4n
     have Wt := Wtn
     have Aa := Aan
     have Bb := Bbn
     have HB := HBn
     clear R8n E4n Wtn Aan Bbn HBn
     (try go_wp2_with fail)
     refine hK.out _ _ ?_ (fun hHeld => ?_)
     ·
      exact ⟨R8.out, E4.out, Wt.out⟩
     clear hK K
     (try simp only [Act.put, List.setIfInBounds_toArray, List.set_cons_zero, List.set_cons_succ])
     clear B
     refine wpAnyH_take (i := 36) (oi := ({ dst := some 164, op := .unOp .not 4 (.tmp 163), type := 4, pos := "law.go:147", after := #[⟨35, .data⟩, ⟨31, .guard⟩], guard := some (31, false) } : Oper)) (v := ?v36_36_k1) rfl (by kernel_rfl) (by kernel_rfl) (by kernel_rfl) (fun _ _ _ h => h) (Or.inl ⟨by rfl, ?hy36_36_k1⟩) (by assumption) ?re36_36_k1
     case hy36_36_k1 => (intro w hSw; go_simp) <;> with_reducible rfl
     (try simp only [Act.put, List.setIfInBounds_toArray, List.set_cons_zero, List.set_cons_succ])
     refine wpAnyH_take (i := 37) (oi := ({ dst := some 165, op := .pick (.tmp 159) (.const (.bool true)) (.tmp 164), type := 4, pos := "law.go:147", after := #[⟨31, .data⟩, ⟨36, .data⟩], guard := none } : Oper)) (v := ?v37_37_k1) rfl (by kernel_rfl) (by kernel_rfl) (by kernel_rfl) (fun _ _ _ h => h) (Or.inl ⟨by rfl, ?hy37_37_k1⟩) (by assumption) ?re37_37_k1
     case hy37_37_k1 => (intro w hSw; go_simp) <;> with_reducible rfl
     (try simp only [Act.put, List.setIfInBounds_toArray, List.set_cons_zero, List.set_cons_succ])
     refine wpAnyH_done (by kernel_rfl) ?_ _
     refine NoPanic.normal ?_
     (try go_wp2_with fail)
     go_roundw
     case rel => exact ⟨2, by omega, by go_num, R8, E4, Wt, Aa, Bb, HB⟩
     case measure => simp [intOf]
    exact AllReadyH.nil
   ·
    have q0 := R8.out.c 4 rfl
    have q1 := R8.out.c 5 rfl
    go_wp2_with fail
    clear q0 q1
    go_at_call 37
    refine (HR2.out.tx _).mono ?_
    rintro e WA ⟨rfl, B⟩
    have R8n := Lib.hid (R8.out.keep B R8.out.lt)
    have E4n := Lib.hid (E4.out.keep B E4.out.lt)
    have Wtn := Lib.hid (Wt.out.keep B Wt.out.lt)
    have Aan := Lib.hid (Aa.out.keep B Aa.out.lt)
    have Bbn := Lib.hid (Bb.out.keep B Bb.out.lt)
    have HBn := Lib.hid (HB.out.trans (B.mono HB.out.size))
    clear R8 E4 Wt Aa Bb HB
    have R8 := R8n
    have E4 := E4n
    have Wt := Wtn
    have Aa := Aan
    have Bb := Bbn
    have HB := HBn
    clear R8n E4n Wtn Aan Bbn HBn
    clear B
    have q1 := R8.out.c 5 rfl
    go_wp2_with fail
    clear q1
    go_at_call 37
    refine (HR2.out.ty _).mono ?_
    rintro e WB ⟨rfl, B⟩
    have R8n := Lib.hid (R8.out.keep B R8.out.lt)
    have E4n := Lib.hid (E4.out.keep B E4.out.lt)
    have Wtn := Lib.hid (Wt.out.keep B Wt.out.lt)
    have Aan := Lib.hid (Aa.out.keep B Aa.out.lt)
    have Bbn := Lib.hid (Bb.out.keep B Bb.out.lt)
    have HBn := Lib.hid (HB.out.trans (B.mono HB.out.size))
    clear R8 E4 Wt Aa Bb HB
    have R8 := R8n
    have E4 := E4n
    have Wt := Wtn
    have Aa := Aan
    have Bb := Bbn
    have HB := HBn
    clear R8n E4n Wtn Aan Bbn HBn
    clear B
    go_upto_region 18 with fail
    have ww1 := HR2.out.w1
    have ww2 := HR2.out.w2
    have hu : ¬ (u2' < 1) := by have := HR2.out.pos; omega
    refine wp_region_noPanic ?_
    refine wp_region_held_drew (S := fun W => CBlk W (W8.heap.size) #[.string sx0, .string sy0, .string sx1, .string sy1, .string sx2, .string sy2, .string sx3, .string sy3] 31 ∧ CBlk W (W8.heap.size + 1) #[.int .i64 0, .int .i64 0, .int .i64 0, .int .i64 e3] 33 ∧ CBlk W (W8.heap.size + 1 + 1) #[.int .i64 (n * c + m * d), .int .i64 (d * c), .int .i64 (n * c - m * d), .int .i64 (d * c), .int .i64 (n * m), .int .i64 (d * c), .int .i64 (n * c), .int .i64 (d * m)] 51) (by kernel_rfl) ?_ (fun hHeld => ?_)
    ·
     exact ⟨R8.out, E4.out, Wt.out⟩
    refine wpAnyH_take (i := 0) (oi := ({ dst := some 128, op := .move (.tmp 17), type := 3, pos := "law.go:147", after := #[], guard := none } : Oper)) (v := ?v0_1_k2) rfl (by kernel_rfl) (by kernel_rfl) (by kernel_rfl) (fun _ _ _ h => h) (Or.inl ⟨by rfl, ?hy0_1_k2⟩) (by assumption) ?re0_1_k2
    case hy0_1_k2 => (intro w hSw; go_simp) <;> with_reducible rfl
    (try simp only [Act.put, List.setIfInBounds_toArray, List.set_cons_zero, List.set_cons_succ])
    refine wpAnyH_take (i := 1) (oi := ({ dst := some 129, op := .indexAddr 33 (.tmp 15) (.tmp 128), type := 0, pos := "law.go:147", after := #[⟨0, .data⟩], guard := none } : Oper)) (v := ?v1_2_k2) rfl (by kernel_rfl) (by kernel_rfl) (by kernel_rfl) (fun _ _ _ h => h) (Or.inl ⟨by rfl, ?hy1_2_k2⟩) (by assumption) ?re1_2_k2
    case hy1_2_k2 => (intro w hSw; go_simp) <;> with_reducible rfl
    (try simp only [Act.put, List.setIfInBounds_toArray, List.set_cons_zero, List.set_cons_succ])
    refine wpAnyH_take (i := 2) (oi := ({ dst := some 130, op := .load 32 (.tmp 129), type := 32, pos := "law.go:147", after := #[⟨1, .data⟩], guard := none } : Oper)) (v := ?v2_3_k2) rfl (by kernel_rfl) (by kernel_rfl) (by kernel_rfl) (fun _ _ _ h => h) (Or.inl ⟨by rfl, ?hy2_3_k2⟩) (by assumption) ?re2_3_k2
    case hy2_3_k2 => ((intro w hSw; have j0 := hSw.1.c 4 rfl; have j1 := hSw.1.c 5 rfl; have j2 := hSw.2.1.c 2 rfl; have j3 := hSw.2.2.c 4 rfl; have j4 := hSw.2.2.c 5 rfl; go_simp) <;> with_reducible rfl)
    (try simp only [Act.put, List.setIfInBounds_toArray, List.set_cons_zero, List.set_cons_succ])
    refine wpAnyH_take (i := 3) (oi := ({ dst := some 131, op := .binOp .neq 32 (.tmp 130) (.const (.int .i64 0)) 32, type := 4, pos := "law.go:147", after := #[⟨2, .data⟩], guard := none } : Oper)) (v := ?v3_4_k2) rfl (by kernel_rfl) (by kernel_rfl) (by kernel_rfl) (fun _ _ _ h => h) (Or.inl ⟨by rfl, ?hy3_4_k2⟩) (by assumption) ?re3_4_k2
    case hy3_4_k2 => (intro w hSw; go_simp) <;> with_reducible rfl
    (try simp only [Act.put, List.setIfInBounds_toArray, List.set_cons_zero, List.set_cons_succ])
    refine wpAnyH_take (i := 4) (oi := ({ dst := some 132, op := .move (.tmp 131), type := 4, pos := "law.go:147", after := #[⟨3, .data⟩], guard := none } : Oper)) (v := ?v4_5_k2) rfl (by kernel_rfl) (by kernel_rfl) (by kernel_rfl) (fun _ _ _ h => h) (Or.inl ⟨by rfl, ?hy4_5_k2⟩) (by assumption) ?re4_5_k2
    case hy4_5_k2 => (intro w hSw; go_simp) <;> with_reducible rfl
    (try simp only [Act.put, List.setIfInBounds_toArray, List.set_cons_zero, List.set_cons_succ])
    refine wpAnyH_take (i := 5) (oi := ({ dst := some 133, op := .move (.tmp 19), type := 32, pos := "law.go:147", after := #[⟨4, .guard⟩], guard := some (4, false) } : Oper)) (v := ?v5_6_k2) rfl (by kernel_rfl) (by kernel_rfl) (by kernel_rfl) (fun _ _ _ h => h) (Or.inl ⟨by rfl, ?hy5_6_k2⟩) (by assumption) ?re5_6_k2
    case hy5_6_k2 => (intro w hSw; go_simp) <;> with_reducible rfl
    (try simp only [Act.put, List.setIfInBounds_toArray, List.set_cons_zero, List.set_cons_succ])
    refine wpAnyH_take (i := 6) (oi := ({ dst := some 134, op := .binOp .neq 32 (.tmp 133) (.const (.int .i64 0)) 32, type := 4, pos := "law.go:147", after := #[⟨5, .data⟩, ⟨4, .guard⟩], guard := some (4, false) } : Oper)) (v := ?v6_7_k2) rfl (by kernel_rfl) (by kernel_rfl) (by kernel_rfl) (fun _ _ _ h => h) (Or.inl ⟨by rfl, ?hy6_7_k2⟩) (by assumption) ?re6_7_k2
    case hy6_7_k2 => (intro w hSw; go_simp) <;> with_reducible rfl
    (try simp only [Act.put, List.setIfInBounds_toArray, List.set_cons_zero, List.set_cons_succ])
    refine wpAnyH_take (i := 7) (oi := ({ dst := some 135, op := .pick (.tmp 132) (.const (.bool true)) (.tmp 134), type := 4, pos := "law.go:147", after := #[⟨4, .data⟩, ⟨6, .data⟩], guard := none } : Oper)) (v := ?v7_8_k2) rfl (by kernel_rfl) (by kernel_rfl) (by kernel_rfl) (fun _ _ _ h => h) (Or.inl ⟨by rfl, ?hy7_8_k2⟩) (by assumption) ?re7_8_k2
    case hy7_8_k2 => (intro w hSw; go_simp) <;> with_reducible rfl
    (try simp only [Act.put, List.setIfInBounds_toArray, List.set_cons_zero, List.set_cons_succ])
    refine wpAnyH_take (i := 8) (oi := ({ dst := some 136, op := .move (.tmp 135), type := 4, pos := "law.go:147", after := #[⟨7, .data⟩, ⟨4, .chain⟩], guard := none } : Oper)) (v := ?v8_9_k2) rfl (by kernel_rfl) (by kernel_rfl) (by kernel_rfl) (fun _ _ _ h => h) (Or.inl ⟨by rfl, ?hy8_9_k2⟩) (by assumption) ?re8_9_k2
    case hy8_9_k2 => (intro w hSw; go_simp) <;> with_reducible rfl
    (try simp only [Act.put, List.setIfInBounds_toArray, List.set_cons_zero, List.set_cons_succ])
    refine wpAnyH_take (i := 9) (oi := ({ dst := some 137, op := .move (.tmp 21), type := 32, pos := "law.go:147", after := #[⟨8, .guard⟩], guard := some (8, false) } : Oper)) (v := ?v9_10_k2) rfl (by kernel_rfl) (by kernel_rfl) (by kernel_rfl) (fun _ _ _ h => h) (Or.inl ⟨by rfl, ?hy9_10_k2⟩) (by assumption) ?re9_10_k2
    case hy9_10_k2 => (intro w hSw; go_simp) <;> with_reducible rfl
    (try simp only [Act.put, List.setIfInBounds_toArray, List.set_cons_zero, List.set_cons_succ])
    refine wpAnyH_take (i := 10) (oi := ({ dst := some 138, op := .binOp .neq 32 (.tmp 137) (.const (.int .i64 0)) 32, type := 4, pos := "law.go:147", after := #[⟨9, .data⟩, ⟨8, .guard⟩], guard := some (8, false) } : Oper)) (v := ?v10_11_k2) rfl (by kernel_rfl) (by kernel_rfl) (by kernel_rfl) (fun _ _ _ h => h) (Or.inl ⟨by rfl, ?hy10_11_k2⟩) (by assumption) ?re10_11_k2
    case hy10_11_k2 => (intro w hSw; go_simp) <;> with_reducible rfl
    (try simp only [Act.put, List.setIfInBounds_toArray, List.set_cons_zero, List.set_cons_succ])
    refine wpAnyH_take (i := 11) (oi := ({ dst := some 139, op := .pick (.tmp 136) (.const (.bool true)) (.tmp 138), type := 4, pos := "law.go:147", after := #[⟨8, .data⟩, ⟨10, .data⟩], guard := none } : Oper)) (v := ?v11_12_k2) rfl (by kernel_rfl) (by kernel_rfl) (by kernel_rfl) (fun _ _ _ h => h) (Or.inl ⟨by rfl, ?hy11_12_k2⟩) (by assumption) ?re11_12_k2
    case hy11_12_k2 => (intro w hSw; go_simp) <;> with_reducible rfl
    (try simp only [Act.put, List.setIfInBounds_toArray, List.set_cons_zero, List.set_cons_succ])
    refine wpAnyH_take (i := 12) (oi := ({ dst := some 140, op := .move (.tmp 139), type := 4, pos := "law.go:147", after := #[⟨11, .data⟩, ⟨8, .chain⟩], guard := none } : Oper)) (v := ?v12_13_k2) rfl (by kernel_rfl) (by kernel_rfl) (by kernel_rfl) (fun _ _ _ h => h) (Or.inl ⟨by rfl, ?hy12_13_k2⟩) (by assumption) ?re12_13_k2
    case hy12_13_k2 => (intro w hSw; go_simp) <;> with_reducible rfl
    (try simp only [Act.put, List.setIfInBounds_toArray, List.set_cons_zero, List.set_cons_succ])
    refine wpAnyH_take (i := 13) (oi := ({ dst := some 141, op := .move (.tmp 20), type := 3, pos := "law.go:147", after := #[⟨12, .guard⟩], guard := some (12, false) } : Oper)) (v := ?v13_14_k2) rfl (by kernel_rfl) (by kernel_rfl) (by kernel_rfl) (fun _ _ _ h => h) (Or.inl ⟨by rfl, ?hy13_14_k2⟩) (by assumption) ?re13_14_k2
    case hy13_14_k2 => (intro w hSw; go_simp) <;> with_reducible rfl
    (try simp only [Act.put, List.setIfInBounds_toArray, List.set_cons_zero, List.set_cons_succ])
    refine wpAnyH_take (i := 14) (oi := ({ dst := some 142, op := .binOp .lss 3 (.tmp 141) (.const (.int .i64 1)) 3, type := 4, pos := "law.go:147", after := #[⟨13, .data⟩, ⟨12, .guard⟩], guard := some (12, false) } : Oper)) (v := ?v14_15_k2) rfl (by kernel_rfl) (by kernel_rfl) (by kernel_rfl) (fun _ _ _ h => h) (Or.inl ⟨by rfl, ?hy14_15_k2⟩) (by assumption) ?re14_15_k2
    case hy14_15_k2 => (intro w hSw; go_simp) <;> with_reducible rfl
    (try simp only [Act.put, List.setIfInBounds_toArray, List.set_cons_zero, List.set_cons_succ])
    refine wpAnyH_take (i := 15) (oi := ({ dst := some 143, op := .pick (.tmp 140) (.const (.bool true)) (.tmp 142), type := 4, pos := "law.go:147", after := #[⟨12, .data⟩, ⟨14, .data⟩], guard := none } : Oper)) (v := ?v15_16_k2) rfl (by kernel_rfl) (by kernel_rfl) (by kernel_rfl) (fun _ _ _ h => h) (Or.inl ⟨by rfl, ?hy15_16_k2⟩) (by assumption) ?re15_16_k2
    case hy15_16_k2 => (intro w hSw; go_simp) <;> with_reducible rfl
    (try simp only [Act.put, List.setIfInBounds_toArray, List.set_cons_zero, List.set_cons_succ])
    refine wpAnyH_take (i := 16) (oi := ({ dst := some 144, op := .move (.tmp 143), type := 4, pos := "law.go:147", after := #[⟨15, .data⟩, ⟨12, .chain⟩], guard := none } : Oper)) (v := ?v16_17_k2) rfl (by kernel_rfl) (by kernel_rfl) (by kernel_rfl) (fun _ _ _ h => h) (Or.inl ⟨by rfl, ?hy16_17_k2⟩) (by assumption) ?re16_17_k2
    case hy16_17_k2 => (intro w hSw; go_simp) <;> with_reducible rfl
    (try simp only [Act.put, List.setIfInBounds_toArray, List.set_cons_zero, List.set_cons_succ])
    refine wpAnyH_take (i := 17) (oi := ({ dst := some 145, op := .move (.tmp 18), type := 3, pos := "law.go:147", after := #[⟨16, .guard⟩], guard := some (16, false) } : Oper)) (v := ?v17_18_k2) rfl (by kernel_rfl) (by kernel_rfl) (by kernel_rfl) (fun _ _ _ h => h) (Or.inl ⟨by rfl, ?hy17_18_k2⟩) (by assumption) ?re17_18_k2
    case hy17_18_k2 => (intro w hSw; go_simp) <;> with_reducible rfl
    (try simp only [Act.put, List.setIfInBounds_toArray, List.set_cons_zero, List.set_cons_succ])
    refine wpAnyH_take (i := 18) (oi := ({ dst := some 146, op := .move (.tmp 17), type := 3, pos := "law.go:147", after := #[⟨16, .guard⟩], guard := some (16, false) } : Oper)) (v := ?v18_19_k2) rfl (by kernel_rfl) (by kernel_rfl) (by kernel_rfl) (fun _ _ _ h => h) (Or.inl ⟨by rfl, ?hy18_19_k2⟩) (by assumption) ?re18_19_k2
    case hy18_19_k2 => (intro w hSw; go_simp) <;> with_reducible rfl
    (try simp only [Act.put, List.setIfInBounds_toArray, List.set_cons_zero, List.set_cons_succ])
    refine wpAnyH_take (i := 19) (oi := ({ dst := some 147, op := .indexAddr 51 (.tmp 16) (.tmp 146), type := 0, pos := "law.go:147", after := #[⟨18, .data⟩, ⟨16, .guard⟩], guard := some (16, false) } : Oper)) (v := ?v19_20_k2) rfl (by kernel_rfl) (by kernel_rfl) (by kernel_rfl) (fun _ _ _ h => h) (Or.inl ⟨by rfl, ?hy19_20_k2⟩) (by assumption) ?re19_20_k2
    case hy19_20_k2 => (intro w hSw; go_simp) <;> with_reducible rfl
    (try simp only [Act.put, List.setIfInBounds_toArray, List.set_cons_zero, List.set_cons_succ])
    refine wpAnyH_take (i := 20) (oi := ({ dst := some 148, op := .indexAddr 25 (.tmp 147) (.const (.int .i64 1)), type := 0, pos := "law.go:147", after := #[⟨19, .data⟩, ⟨16, .guard⟩], guard := some (16, false) } : Oper)) (v := ?v20_21_k2) rfl (by kernel_rfl) (by kernel_rfl) (by kernel_rfl) (fun _ _ _ h => h) (Or.inl ⟨by rfl, ?hy20_21_k2⟩) (by assumption) ?re20_21_k2
    case hy20_21_k2 => (intro w hSw; go_simp) <;> with_reducible rfl
    (try simp only [Act.put, List.setIfInBounds_toArray, List.set_cons_zero, List.set_cons_succ])
    refine wpAnyH_take (i := 21) (oi := ({ dst := some 149, op := .load 3 (.tmp 148), type := 3, pos := "law.go:147", after := #[⟨20, .data⟩, ⟨16, .guard⟩], guard := some (16, false) } : Oper)) (v := ?v21_22_k2) rfl (by kernel_rfl) (by kernel_rfl) (by kernel_rfl) (fun _ _ _ h => h) (Or.inl ⟨by rfl, ?hy21_22_k2⟩) (by assumption) ?re21_22_k2
    case hy21_22_k2 => ((intro w hSw; have j0 := hSw.1.c 4 rfl; have j1 := hSw.1.c 5 rfl; have j2 := hSw.2.1.c 2 rfl; have j3 := hSw.2.2.c 4 rfl; have j4 := hSw.2.2.c 5 rfl; go_simp) <;> with_reducible rfl)
    (try simp only [Act.put, List.setIfInBounds_toArray, List.set_cons_zero, List.set_cons_succ])
    refine wpAnyH_take (i := 22) (oi := ({ dst := some 150, op := .binOp .mul 3 (.tmp 145) (.tmp 149) 3, type := 3, pos := "law.go:147", after := #[⟨17, .data⟩, ⟨21, .data⟩, ⟨16, .guard⟩], guard := some (16, false) } : Oper)) (v := ?v22_23_k2) rfl (by kernel_rfl) (by kernel_rfl) (by kernel_rfl) (fun _ _ _ h => h) (Or.inl ⟨by rfl, ?hy22_23_k2⟩) (by assumption) ?re22_23_k2
    case hy22_23_k2 => (intro w hSw; go_simp) <;> with_reducible rfl
    (try simp only [Act.put, List.setIfInBounds_toArray, List.set_cons_zero, List.set_cons_succ])
    refine wpAnyH_take (i := 23) (oi := ({ dst := some 151, op := .move (.tmp 17), type := 3, pos := "law.go:147", after := #[⟨16, .guard⟩], guard := some (16, false) } : Oper)) (v := ?v23_24_k2) rfl (by kernel_rfl) (by kernel_rfl) (by kernel_rfl) (fun _ _ _ h => h) (Or.inl ⟨by rfl, ?hy23_24_k2⟩) (by assumption) ?re23_24_k2
    case hy23_24_k2 => (intro w hSw; go_simp) <;> with_reducible rfl
    (try simp only [Act.put, List.setIfInBounds_toArray, List.set_cons_zero, List.set_cons_succ])
    refine wpAnyH_take (i := 24) (oi := ({ dst := some 152, op := .indexAddr 51 (.tmp 16) (.tmp 151), type := 0, pos := "law.go:147", after := #[⟨23, .data⟩, ⟨16, .guard⟩], guard := some (16, false) } : Oper)) (v := ?v24_25_k2) rfl (by kernel_rfl) (by kernel_rfl) (by kernel_rfl) (fun _ _ _ h => h) (Or.inl ⟨by rfl, ?hy24_25_k2⟩) (by assumption) ?re24_25_k2
    case hy24_25_k2 => (intro w hSw; go_simp) <;> with_reducible rfl
    (try simp only [Act.put, List.setIfInBounds_toArray, List.set_cons_zero, List.set_cons_succ])
    refine wpAnyH_take (i := 25) (oi := ({ dst := some 153, op := .indexAddr 25 (.tmp 152) (.const (.int .i64 0)), type := 0, pos := "law.go:147", after := #[⟨24, .data⟩, ⟨16, .guard⟩], guard := some (16, false) } : Oper)) (v := ?v25_26_k2) rfl (by kernel_rfl) (by kernel_rfl) (by kernel_rfl) (fun _ _ _ h => h) (Or.inl ⟨by rfl, ?hy25_26_k2⟩) (by assumption) ?re25_26_k2
    case hy25_26_k2 => (intro w hSw; go_simp) <;> with_reducible rfl
    (try simp only [Act.put, List.setIfInBounds_toArray, List.set_cons_zero, List.set_cons_succ])
    refine wpAnyH_take (i := 26) (oi := ({ dst := some 154, op := .load 3 (.tmp 153), type := 3, pos := "law.go:147", after := #[⟨25, .data⟩, ⟨16, .guard⟩], guard := some (16, false) } : Oper)) (v := ?v26_27_k2) rfl (by kernel_rfl) (by kernel_rfl) (by kernel_rfl) (fun _ _ _ h => h) (Or.inl ⟨by rfl, ?hy26_27_k2⟩) (by assumption) ?re26_27_k2
    case hy26_27_k2 => ((intro w hSw; have j0 := hSw.1.c 4 rfl; have j1 := hSw.1.c 5 rfl; have j2 := hSw.2.1.c 2 rfl; have j3 := hSw.2.2.c 4 rfl; have j4 := hSw.2.2.c 5 rfl; go_simp) <;> with_reducible rfl)
    (try simp only [Act.put, List.setIfInBounds_toArray, List.set_cons_zero, List.set_cons_succ])
    refine wpAnyH_take (i := 27) (oi := ({ dst := some 155, op := .move (.tmp 20), type := 3, pos := "law.go:147", after := #[⟨16, .guard⟩], guard := some (16, false) } : Oper)) (v := ?v27_28_k2) rfl (by kernel_rfl) (by kernel_rfl) (by kernel_rfl) (fun _ _ _ h => h) (Or.inl ⟨by rfl, ?hy27_28_k2⟩) (by assumption) ?re27_28_k2
    case hy27_28_k2 => (intro w hSw; go_simp) <;> with_reducible rfl
    (try simp only [Act.put, List.setIfInBounds_toArray, List.set_cons_zero, List.set_cons_succ])
    refine wpAnyH_take (i := 28) (oi := ({ dst := some 156, op := .binOp .mul 3 (.tmp 154) (.tmp 155) 3, type := 3, pos := "law.go:147", after := #[⟨26, .data⟩, ⟨27, .data⟩, ⟨16, .guard⟩], guard := some (16, false) } : Oper)) (v := ?v28_29_k2) rfl (by kernel_rfl) (by kernel_rfl) (by kernel_rfl) (fun _ _ _ h => h) (Or.inl ⟨by rfl, ?hy28_29_k2⟩) (by assumption) ?re28_29_k2
    case hy28_29_k2 => (intro w hSw; go_simp) <;> with_reducible rfl
    (try simp only [Act.put, List.setIfInBounds_toArray, List.set_cons_zero, List.set_cons_succ])
    refine wpAnyH_take (i := 29) (oi := ({ dst := some 157, op := .binOp .neq 3 (.tmp 150) (.tmp 156) 3, type := 4, pos := "law.go:147", after := #[⟨22, .data⟩, ⟨28, .data⟩, ⟨16, .guard⟩], guard := some (16, false) } : Oper)) (v := ?v29_30_k2) rfl (by kernel_rfl) (by kernel_rfl) (by kernel_rfl) (fun _ _ _ h => h) (Or.inl ⟨by rfl, ?hy29_30_k2⟩) (by assumption) ?re29_30_k2
    case hy29_30_k2 => (intro w hSw; go_simp) <;> with_reducible rfl
    (try simp only [Act.put, List.setIfInBounds_toArray, List.set_cons_zero, List.set_cons_succ])
    refine wpAnyH_take (i := 30) (oi := ({ dst := some 158, op := .pick (.tmp 144) (.const (.bool true)) (.tmp 157), type := 4, pos := "law.go:147", after := #[⟨16, .data⟩, ⟨29, .data⟩], guard := none } : Oper)) (v := ?v30_31_k2) rfl (by kernel_rfl) (by kernel_rfl) (by kernel_rfl) (fun _ _ _ h => h) (Or.inl ⟨by rfl, ?hy30_31_k2⟩) (by assumption) ?re30_31_k2
    case hy30_31_k2 => (intro w hSw; go_simp) <;> with_reducible rfl
    (try simp only [Act.put, List.setIfInBounds_toArray, List.set_cons_zero, List.set_cons_succ])
    refine wpAnyH_take (i := 31) (oi := ({ dst := some 159, op := .move (.tmp 158), type := 4, pos := "law.go:147", after := #[⟨30, .data⟩, ⟨16, .chain⟩], guard := none } : Oper)) (v := ?v31_32_k2) rfl (by kernel_rfl) (by kernel_rfl) (by kernel_rfl) (fun _ _ _ h => h) (Or.inl ⟨by rfl, ?hy31_32_k2⟩) (by assumption) ?re31_32_k2
    case hy31_32_k2 => (intro w hSw; go_simp) <;> with_reducible rfl
    (try simp only [Act.put, List.setIfInBounds_toArray, List.set_cons_zero, List.set_cons_succ])
    refine wpAnyH_take (i := 32) (oi := ({ dst := some 160, op := .move (.tmp 17), type := 3, pos := "law.go:147", after := #[⟨31, .guard⟩], guard := some (31, false) } : Oper)) (v := ?v32_33_k2) rfl (by kernel_rfl) (by kernel_rfl) (by kernel_rfl) (fun _ _ _ h => h) (Or.inl ⟨by rfl, ?hy32_33_k2⟩) (by assumption) ?re32_33_k2
    case hy32_33_k2 => (intro w hSw; go_simp) <;> with_reducible rfl
    (try simp only [Act.put, List.setIfInBounds_toArray, List.set_cons_zero, List.set_cons_succ])
    refine wpAnyH_take (i := 33) (oi := ({ dst := some 161, op := .indexAddr 31 (.tmp 14) (.tmp 160), type := 0, pos := "law.go:147", after := #[⟨32, .data⟩, ⟨31, .guard⟩], guard := some (31, false) } : Oper)) (v := ?v33_34_k2) rfl (by kernel_rfl) (by kernel_rfl) (by kernel_rfl) (fun _ _ _ h => h) (Or.inl ⟨by rfl, ?hy33_34_k2⟩) (by assumption) ?re33_34_k2
    case hy33_34_k2 => (intro w hSw; go_simp) <;> with_reducible rfl
    (try simp only [Act.put, List.setIfInBounds_toArray, List.set_cons_zero, List.set_cons_succ])
    refine wpAnyH_take (i := 34) (oi := ({ dst := some 162, op := .load 23 (.tmp 161), type := 23, pos := "law.go:147", after := #[⟨33, .data⟩, ⟨31, .guard⟩], guard := some (31, false) } : Oper)) (v := ?v34_35_k2) rfl (by kernel_rfl) (by kernel_rfl) (by kernel_rfl) (fun _ _ _ h => h) (Or.inl ⟨by rfl, ?hy34_35_k2⟩) (by assumption) ?re34_35_k2
    case hy34_35_k2 => ((intro w hSw; have j0 := hSw.1.c 4 rfl; have j1 := hSw.1.c 5 rfl; have j2 := hSw.2.1.c 2 rfl; have j3 := hSw.2.2.c 4 rfl; have j4 := hSw.2.2.c 5 rfl; go_simp) <;> with_reducible rfl)
    (try simp only [Act.put, List.setIfInBounds_toArray, List.set_cons_zero, List.set_cons_succ])
    refine wpAnyH_ready (rs := [35]) (by kernel_rfl) (by simp) ?_
    refine AllReadyH.cons (o := ({ dst := some 163, op := .call { callee := .value (.func 29), args := #[.tmp 162], argTypes := #[23] }, type := 4, pos := "law.go:147", after := #[⟨34, .data⟩, ⟨31, .chain⟩, ⟨31, .guard⟩], guard := some (31, false) } : Oper)) rfl (fun K hK => ?_) ?_
    ·
     go_simp
     go_at_call 29
     refine (HR2.out.v _).mono ?_
     rintro e WV ⟨rfl, B⟩
     have R8n := Lib.hid (R8.out.drew.keep B R8.out.lt)
     have E4n := Lib.hid (E4.out.drew.keep B E4.out.lt)
     have Wtn := Lib.hid (Wt.out.drew.keep B Wt.out.lt)
     have Aan := Lib.hid (Aa.out.drew.keep B Aa.out.lt)
     have Bbn := Lib.hid (Bb.out.drew.keep B Bb.out.lt)
     have HBn := Lib.hid (HB.out.drew.trans (B.mono HB.out.size))
     clear R8 E4 Wt Aa Bb HB
     have R8 := R8n
     have E4 := E4n
     have Wt := Wtn
     have Aa := Aan
     have Bb := Bbn
     have HB := HBn
     clear R8n E4n Wtn Aan Bbn HBn
     (try go_wp2_with fail)
     refine hK.out _ _ ?_ (fun hHeld => ?_)
     ·
      exact ⟨R8.out, E4.out, Wt.out⟩
     clear hK K
     (try simp only [Act.put, List.setIfInBounds_toArray, List.set_cons_zero, List.set_cons_succ])
     clear B
     refine wpAnyH_take (i := 36) (oi := ({ dst := some 164, op := .unOp .not 4 (.tmp 163), type := 4, pos := "law.go:147", after := #[⟨35, .data⟩, ⟨31, .guard⟩], guard := some (31, false) } : Oper)) (v := ?v36_36_k2) rfl (by kernel_rfl) (by kernel_rfl) (by kernel_rfl) (fun _ _ _ h => h) (Or.inl ⟨by rfl, ?hy36_36_k2⟩) (by assumption) ?re36_36_k2
     case hy36_36_k2 => (intro w hSw; go_simp) <;> with_reducible rfl
     (try simp only [Act.put, List.setIfInBounds_toArray, List.set_cons_zero, List.set_cons_succ])
     refine wpAnyH_take (i := 37) (oi := ({ dst := some 165, op := .pick (.tmp 159) (.const (.bool true)) (.tmp 164), type := 4, pos := "law.go:147", after := #[⟨31, .data⟩, ⟨36, .data⟩], guard := none } : Oper)) (v := ?v37_37_k2) rfl (by kernel_rfl) (by kernel_rfl) (by kernel_rfl) (fun _ _ _ h => h) (Or.inl ⟨by rfl, ?hy37_37_k2⟩) (by assumption) ?re37_37_k2
     case hy37_37_k2 => (intro w hSw; go_simp) <;> with_reducible rfl
     (try simp only [Act.put, List.setIfInBounds_toArray, List.set_cons_zero, List.set_cons_succ])
     refine wpAnyH_done (by kernel_rfl) ?_ _
     refine NoPanic.normal ?_
     (try go_wp2_with fail)
     go_roundw
     case rel => exact ⟨3, by omega, by go_num, R8, E4, Wt, Aa, Bb, HB⟩
     case measure => simp [intOf]
    exact AllReadyH.nil
   ·
    rcases HM.out with ⟨hm0, rfl, rfl, rfl⟩ | ⟨hm0, rfl, R3⟩
    ·
     subst hm0
     have q0 := R8.out.c 6 rfl
     have q1 := R8.out.c 7 rfl
     have q2 := E4.out.c 3 rfl
     go_wp2_with fail
     go_roundw
     case rel => exact ⟨4, by omega, by go_num, R8, E4, Wt, Aa, Bb, HB⟩
     case measure => simp [intOf]
    ·
     have hmi : ¬ (m = 0) := hm0
     have q0 := R8.out.c 6 rfl
     have q1 := R8.out.c 7 rfl
     go_wp2_with fail
     clear q0 q1
     go_at_call 37
     refine (R3.tx _).mono ?_
     rintro e WA ⟨rfl, B⟩
     have R8n := Lib.hid (R8.out.keep B R8.out.lt)
     have E4n := Lib.hid (E4.out.keep B E4.out.lt)
     have Wtn := Lib.hid (Wt.out.keep B Wt.out.lt)
     have Aan := Lib.hid (Aa.out.keep B Aa.out.lt)
     have Bbn := Lib.hid (Bb.out.keep B Bb.out.lt)
     have HBn := Lib.hid (HB.out.trans (B.mono HB.out.size))
     clear R8 E4 Wt Aa Bb HB
     have R8 := R8n
     have E4 := E4n
     have Wt := Wtn
     have Aa := Aan
     have Bb := Bbn
     have HB := HBn
     clear R8n E4n Wtn Aan Bbn HBn
     clear B
     have q1 := R8.out.c 7 rfl
     go_wp2_with fail
     clear q1
     go_at_call 37
     refine (R3.ty _).mono ?_
     rintro e WB ⟨rfl, B⟩
     have R8n := Lib.hid (R8.out.keep B R8.out.lt)
     have E4n := Lib.hid (E4.out.keep B E4.out.lt)
     have Wtn := Lib.hid (Wt.out.keep B Wt.out.lt)
     have Aan := Lib.hid (Aa.out.keep B Aa.out.lt)
     have Bbn := Lib.hid (Bb.out.keep B Bb.out.lt)
     have HBn := Lib.hid (HB.out.trans (B.mono HB.out.size))
     clear R8 E4 Wt Aa Bb HB
     have R8 := R8n
     have E4 := E4n
     have Wt := Wtn
     have Aa := Aan
     have Bb := Bbn
     have HB := HBn
     clear R8n E4n Wtn Aan Bbn HBn
     clear B
     go_upto_region 18 with fail
     have ww1 := R3.w1
     have ww2 := R3.w2
     have hu : ¬ (u3 < 1) := by have := R3.pos; omega
     refine wp_region_noPanic ?_
     refine wp_region_held_drew (S := fun W => CBlk W (W8.heap.size) #[.string sx0, .string sy0, .string sx1, .string sy1, .string sx2, .string sy2, .string sx3, .string sy3] 31 ∧ CBlk W (W8.heap.size + 1) #[.int .i64 0, .int .i64 0, .int .i64 0, .int .i64 0] 33 ∧ CBlk W (W8.heap.size + 1 + 1) #[.int .i64 (n * c + m * d), .int .i64 (d * c), .int .i64 (n * c - m * d), .int .i64 (d * c), .int .i64 (n * m), .int .i64 (d * c), .int .i64 (n * c), .int .i64 (d * m)] 51) (by kernel_rfl) ?_ (fun hHeld => ?_)
     ·
      exact ⟨R8.out, E4.out, Wt.out⟩
     refine wpAnyH_take (i := 0) (oi := ({ dst := some 128, op := .move (.tmp 17), type := 3, pos := "law.go:147", after := #[], guard := none } : Oper)) (v := ?v0_1_k3) rfl (by kernel_rfl) (by kernel_rfl) (by kernel_rfl) (fun _ _ _ h => h) (Or.inl ⟨by rfl, ?hy0_1_k3⟩) (by assumption) ?re0_1_k3
     case hy0_1_k3 => (intro w hSw; go_simp) <;> with_reducible rfl
     (try simp only [Act.put, List.setIfInBounds_toArray, List.set_cons_zero, List.set_cons_succ])
     refine wpAnyH_take (i := 1) (oi := ({ dst := some 129, op := .indexAddr 33 (.tmp 15) (.tmp 128), type := 0, pos := "law.go:147", after := #[⟨0, .data⟩], guard := none } : Oper)) (v := ?v1_2_k3) rfl (by kernel_rfl) (by kernel_rfl) (by kernel_rfl) (fun _ _ _ h => h) (Or.inl ⟨by rfl, ?hy1_2_k3⟩) (by assumption) ?re1_2_k3
     case hy1_2_k3 => (intro w hSw; go_simp) <;> with_reducible rfl
     (try simp only [Act.put, List.setIfInBounds_toArray, List.set_cons_zero, List.set_cons_succ])
     refine wpAnyH_take (i := 2) (oi := ({ dst := some 130, op := .load 32 (.tmp 129), type := 32, pos := "law.go:147", after := #[⟨1, .data⟩], guard := none } : Oper)) (v := ?v2_3_k3) rfl (by kernel_rfl) (by kernel_rfl) (by kernel_rfl) (fun _ _ _ h => h) (Or.inl ⟨by rfl, ?hy2_3_k3⟩) (by assumption) ?re2_3_k3
     case hy2_3_k3 => ((intro w hSw; have j0 := hSw.1.c 6 rfl; have j1 := hSw.1.c 7 rfl; have j2 := hSw.2.1.c 3 rfl; have j3 := hSw.2.2.c 6 rfl; have j4 := hSw.2.2.c 7 rfl; go_simp) <;> with_reducible rfl)
     (try simp only [Act.put, List.setIfInBounds_toArray, List.set_cons_zero, List.set_cons_succ])
     refine wpAnyH_take (i := 3) (oi := ({ dst := some 131, op := .binOp .neq 32 (.tmp 130) (.const (.int .i64 0)) 32, type := 4, pos := "law.go:147", after := #[⟨2, .data⟩], guard := none } : Oper)) (v := ?v3_4_k3) rfl (by kernel_rfl) (by kernel_rfl) (by kernel_rfl) (fun _ _ _ h => h) (Or.inl ⟨by rfl, ?hy3_4_k3⟩) (by assumption) ?re3_4_k3
     case hy3_4_k3 => (intro w hSw; go_simp) <;> with_reducible rfl
     (try simp only [Act.put, List.setIfInBounds_toArray, List.set_cons_zero, List.set_cons_succ])
     refine wpAnyH_take (i := 4) (oi := ({ dst := some 132, op := .move (.tmp 131), type := 4, pos := "law.go:147", after := #[⟨3, .data⟩], guard := none } : Oper)) (v := ?v4_5_k3) rfl (by kernel_rfl) (by kernel_rfl) (by kernel_rfl) (fun _ _ _ h => h) (Or.inl ⟨by rfl, ?hy4_5_k3⟩) (by assumption) ?re4_5_k3
     case hy4_5_k3 => (intro w hSw; go_simp) <;> with_reducible rfl
     (try simp only [Act.put, List.setIfInBounds_toArray, List.set_cons_zero, List.set_cons_succ])
     refine wpAnyH_take (i := 5) (oi := ({ dst := some 133, op := .move (.tmp 19), type := 32, pos := "law.go:147", after := #[⟨4, .guard⟩], guard := some (4, false) } : Oper)) (v := ?v5_6_k3) rfl (by kernel_rfl) (by kernel_rfl) (by kernel_rfl) (fun _ _ _ h => h) (Or.inl ⟨by rfl, ?hy5_6_k3⟩) (by assumption) ?re5_6_k3
     case hy5_6_k3 => (intro w hSw; go_simp) <;> with_reducible rfl
     (try simp only [Act.put, List.setIfInBounds_toArray, List.set_cons_zero, List.set_cons_succ])
     refine wpAnyH_take (i := 6) (oi := ({ dst := some 134, op := .binOp .neq 32 (.tmp 133) (.const (.int .i64 0)) 32, type := 4, pos := "law.go:147", after := #[⟨5, .data⟩, ⟨4, .guard⟩], guard := some (4, false) } : Oper)) (v := ?v6_7_k3) rfl (by kernel_rfl) (by kernel_rfl) (by kernel_rfl) (fun _ _ _ h => h) (Or.inl ⟨by rfl, ?hy6_7_k3⟩) (by assumption) ?re6_7_k3
     case hy6_7_k3 => (intro w hSw; go_simp) <;> with_reducible rfl
     (try simp only [Act.put, List.setIfInBounds_toArray, List.set_cons_zero, List.set_cons_succ])
     refine wpAnyH_take (i := 7) (oi := ({ dst := some 135, op := .pick (.tmp 132) (.const (.bool true)) (.tmp 134), type := 4, pos := "law.go:147", after := #[⟨4, .data⟩, ⟨6, .data⟩], guard := none } : Oper)) (v := ?v7_8_k3) rfl (by kernel_rfl) (by kernel_rfl) (by kernel_rfl) (fun _ _ _ h => h) (Or.inl ⟨by rfl, ?hy7_8_k3⟩) (by assumption) ?re7_8_k3
     case hy7_8_k3 => (intro w hSw; go_simp) <;> with_reducible rfl
     (try simp only [Act.put, List.setIfInBounds_toArray, List.set_cons_zero, List.set_cons_succ])
     refine wpAnyH_take (i := 8) (oi := ({ dst := some 136, op := .move (.tmp 135), type := 4, pos := "law.go:147", after := #[⟨7, .data⟩, ⟨4, .chain⟩], guard := none } : Oper)) (v := ?v8_9_k3) rfl (by kernel_rfl) (by kernel_rfl) (by kernel_rfl) (fun _ _ _ h => h) (Or.inl ⟨by rfl, ?hy8_9_k3⟩) (by assumption) ?re8_9_k3
     case hy8_9_k3 => (intro w hSw; go_simp) <;> with_reducible rfl
     (try simp only [Act.put, List.setIfInBounds_toArray, List.set_cons_zero, List.set_cons_succ])
     refine wpAnyH_take (i := 9) (oi := ({ dst := some 137, op := .move (.tmp 21), type := 32, pos := "law.go:147", after := #[⟨8, .guard⟩], guard := some (8, false) } : Oper)) (v := ?v9_10_k3) rfl (by kernel_rfl) (by kernel_rfl) (by kernel_rfl) (fun _ _ _ h => h) (Or.inl ⟨by rfl, ?hy9_10_k3⟩) (by assumption) ?re9_10_k3
     case hy9_10_k3 => (intro w hSw; go_simp) <;> with_reducible rfl
     (try simp only [Act.put, List.setIfInBounds_toArray, List.set_cons_zero, List.set_cons_succ])
     refine wpAnyH_take (i := 10) (oi := ({ dst := some 138, op := .binOp .neq 32 (.tmp 137) (.const (.int .i64 0)) 32, type := 4, pos := "law.go:147", after := #[⟨9, .data⟩, ⟨8, .guard⟩], guard := some (8, false) } : Oper)) (v := ?v10_11_k3) rfl (by kernel_rfl) (by kernel_rfl) (by kernel_rfl) (fun _ _ _ h => h) (Or.inl ⟨by rfl, ?hy10_11_k3⟩) (by assumption) ?re10_11_k3
     case hy10_11_k3 => (intro w hSw; go_simp) <;> with_reducible rfl
     (try simp only [Act.put, List.setIfInBounds_toArray, List.set_cons_zero, List.set_cons_succ])
     refine wpAnyH_take (i := 11) (oi := ({ dst := some 139, op := .pick (.tmp 136) (.const (.bool true)) (.tmp 138), type := 4, pos := "law.go:147", after := #[⟨8, .data⟩, ⟨10, .data⟩], guard := none } : Oper)) (v := ?v11_12_k3) rfl (by kernel_rfl) (by kernel_rfl) (by kernel_rfl) (fun _ _ _ h => h) (Or.inl ⟨by rfl, ?hy11_12_k3⟩) (by assumption) ?re11_12_k3
     case hy11_12_k3 => (intro w hSw; go_simp) <;> with_reducible rfl
     (try simp only [Act.put, List.setIfInBounds_toArray, List.set_cons_zero, List.set_cons_succ])
     refine wpAnyH_take (i := 12) (oi := ({ dst := some 140, op := .move (.tmp 139), type := 4, pos := "law.go:147", after := #[⟨11, .data⟩, ⟨8, .chain⟩], guard := none } : Oper)) (v := ?v12_13_k3) rfl (by kernel_rfl) (by kernel_rfl) (by kernel_rfl) (fun _ _ _ h => h) (Or.inl ⟨by rfl, ?hy12_13_k3⟩) (by assumption) ?re12_13_k3
     case hy12_13_k3 => (intro w hSw; go_simp) <;> with_reducible rfl
     (try simp only [Act.put, List.setIfInBounds_toArray, List.set_cons_zero, List.set_cons_succ])
     refine wpAnyH_take (i := 13) (oi := ({ dst := some 141, op := .move (.tmp 20), type := 3, pos := "law.go:147", after := #[⟨12, .guard⟩], guard := some (12, false) } : Oper)) (v := ?v13_14_k3) rfl (by kernel_rfl) (by kernel_rfl) (by kernel_rfl) (fun _ _ _ h => h) (Or.inl ⟨by rfl, ?hy13_14_k3⟩) (by assumption) ?re13_14_k3
     case hy13_14_k3 => (intro w hSw; go_simp) <;> with_reducible rfl
     (try simp only [Act.put, List.setIfInBounds_toArray, List.set_cons_zero, List.set_cons_succ])
     refine wpAnyH_take (i := 14) (oi := ({ dst := some 142, op := .binOp .lss 3 (.tmp 141) (.const (.int .i64 1)) 3, type := 4, pos := "law.go:147", after := #[⟨13, .data⟩, ⟨12, .guard⟩], guard := some (12, false) } : Oper)) (v := ?v14_15_k3) rfl (by kernel_rfl) (by kernel_rfl) (by kernel_rfl) (fun _ _ _ h => h) (Or.inl ⟨by rfl, ?hy14_15_k3⟩) (by assumption) ?re14_15_k3
     case hy14_15_k3 => (intro w hSw; go_simp) <;> with_reducible rfl
     (try simp only [Act.put, List.setIfInBounds_toArray, List.set_cons_zero, List.set_cons_succ])
     refine wpAnyH_take (i := 15) (oi := ({ dst := some 143, op := .pick (.tmp 140) (.const (.bool true)) (.tmp 142), type := 4, pos := "law.go:147", after := #[⟨12, .data⟩, ⟨14, .data⟩], guard := none } : Oper)) (v := ?v15_16_k3) rfl (by kernel_rfl) (by kernel_rfl) (by kernel_rfl) (fun _ _ _ h => h) (Or.inl ⟨by rfl, ?hy15_16_k3⟩) (by assumption) ?re15_16_k3
     case hy15_16_k3 => (intro w hSw; go_simp) <;> with_reducible rfl
     (try simp only [Act.put, List.setIfInBounds_toArray, List.set_cons_zero, List.set_cons_succ])
     refine wpAnyH_take (i := 16) (oi := ({ dst := some 144, op := .move (.tmp 143), type := 4, pos := "law.go:147", after := #[⟨15, .data⟩, ⟨12, .chain⟩], guard := none } : Oper)) (v := ?v16_17_k3) rfl (by kernel_rfl) (by kernel_rfl) (by kernel_rfl) (fun _ _ _ h => h) (Or.inl ⟨by rfl, ?hy16_17_k3⟩) (by assumption) ?re16_17_k3
     case hy16_17_k3 => (intro w hSw; go_simp) <;> with_reducible rfl
     (try simp only [Act.put, List.setIfInBounds_toArray, List.set_cons_zero, List.set_cons_succ])
     refine wpAnyH_take (i := 17) (oi := ({ dst := some 145, op := .move (.tmp 18), type := 3, pos := "law.go:147", after := #[⟨16, .guard⟩], guard := some (16, false) } : Oper)) (v := ?v17_18_k3) rfl (by kernel_rfl) (by kernel_rfl) (by kernel_rfl) (fun _ _ _ h => h) (Or.inl ⟨by rfl, ?hy17_18_k3⟩) (by assumption) ?re17_18_k3
     case hy17_18_k3 => (intro w hSw; go_simp) <;> with_reducible rfl
     (try simp only [Act.put, List.setIfInBounds_toArray, List.set_cons_zero, List.set_cons_succ])
     refine wpAnyH_take (i := 18) (oi := ({ dst := some 146, op := .move (.tmp 17), type := 3, pos := "law.go:147", after := #[⟨16, .guard⟩], guard := some (16, false) } : Oper)) (v := ?v18_19_k3) rfl (by kernel_rfl) (by kernel_rfl) (by kernel_rfl) (fun _ _ _ h => h) (Or.inl ⟨by rfl, ?hy18_19_k3⟩) (by assumption) ?re18_19_k3
     case hy18_19_k3 => (intro w hSw; go_simp) <;> with_reducible rfl
     (try simp only [Act.put, List.setIfInBounds_toArray, List.set_cons_zero, List.set_cons_succ])
     refine wpAnyH_take (i := 19) (oi := ({ dst := some 147, op := .indexAddr 51 (.tmp 16) (.tmp 146), type := 0, pos := "law.go:147", after := #[⟨18, .data⟩, ⟨16, .guard⟩], guard := some (16, false) } : Oper)) (v := ?v19_20_k3) rfl (by kernel_rfl) (by kernel_rfl) (by kernel_rfl) (fun _ _ _ h => h) (Or.inl ⟨by rfl, ?hy19_20_k3⟩) (by assumption) ?re19_20_k3
     case hy19_20_k3 => (intro w hSw; go_simp) <;> with_reducible rfl
     (try simp only [Act.put, List.setIfInBounds_toArray, List.set_cons_zero, List.set_cons_succ])
     refine wpAnyH_take (i := 20) (oi := ({ dst := some 148, op := .indexAddr 25 (.tmp 147) (.const (.int .i64 1)), type := 0, pos := "law.go:147", after := #[⟨19, .data⟩, ⟨16, .guard⟩], guard := some (16, false) } : Oper)) (v := ?v20_21_k3) rfl (by kernel_rfl) (by kernel_rfl) (by kernel_rfl) (fun _ _ _ h => h) (Or.inl ⟨by rfl, ?hy20_21_k3⟩) (by assumption) ?re20_21_k3
     case hy20_21_k3 => (intro w hSw; go_simp) <;> with_reducible rfl
     (try simp only [Act.put, List.setIfInBounds_toArray, List.set_cons_zero, List.set_cons_succ])
     refine wpAnyH_take (i := 21) (oi := ({ dst := some 149, op := .load 3 (.tmp 148), type := 3, pos := "law.go:147", after := #[⟨20, .data⟩, ⟨16, .guard⟩], guard := some (16, false) } : Oper)) (v := ?v21_22_k3) rfl (by kernel_rfl) (by kernel_rfl) (by kernel_rfl) (fun _ _ _ h => h) (Or.inl ⟨by rfl, ?hy21_22_k3⟩) (by assumption) ?re21_22_k3
     case hy21_22_k3 => ((intro w hSw; have j0 := hSw.1.c 6 rfl; have j1 := hSw.1.c 7 rfl; have j2 := hSw.2.1.c 3 rfl; have j3 := hSw.2.2.c 6 rfl; have j4 := hSw.2.2.c 7 rfl; go_simp) <;> with_reducible rfl)
     (try simp only [Act.put, List.setIfInBounds_toArray, List.set_cons_zero, List.set_cons_succ])
     refine wpAnyH_take (i := 22) (oi := ({ dst := some 150, op := .binOp .mul 3 (.tmp 145) (.tmp 149) 3, type := 3, pos := "law.go:147", after := #[⟨17, .data⟩, ⟨21, .data⟩, ⟨16, .guard⟩], guard := some (16, false) } : Oper)) (v := ?v22_23_k3) rfl (by kernel_rfl) (by kernel_rfl) (by kernel_rfl) (fun _ _ _ h => h) (Or.inl ⟨by rfl, ?hy22_23_k3⟩) (by assumption) ?re22_23_k3
     case hy22_23_k3 => (intro w hSw; go_simp) <;> with_reducible rfl
     (try simp only [Act.put, List.setIfInBounds_toArray, List.set_cons_zero, List.set_cons_succ])
     refine wpAnyH_take (i := 23) (oi := ({ dst := some 151, op := .move (.tmp 17), type := 3, pos := "law.go:147", after := #[⟨16, .guard⟩], guard := some (16, false) } : Oper)) (v := ?v23_24_k3) rfl (by kernel_rfl) (by kernel_rfl) (by kernel_rfl) (fun _ _ _ h => h) (Or.inl ⟨by rfl, ?hy23_24_k3⟩) (by assumption) ?re23_24_k3
     case hy23_24_k3 => (intro w hSw; go_simp) <;> with_reducible rfl
     (try simp only [Act.put, List.setIfInBounds_toArray, List.set_cons_zero, List.set_cons_succ])
     refine wpAnyH_take (i := 24) (oi := ({ dst := some 152, op := .indexAddr 51 (.tmp 16) (.tmp 151), type := 0, pos := "law.go:147", after := #[⟨23, .data⟩, ⟨16, .guard⟩], guard := some (16, false) } : Oper)) (v := ?v24_25_k3) rfl (by kernel_rfl) (by kernel_rfl) (by kernel_rfl) (fun _ _ _ h => h) (Or.inl ⟨by rfl, ?hy24_25_k3⟩) (by assumption) ?re24_25_k3
     case hy24_25_k3 => (intro w hSw; go_simp) <;> with_reducible rfl
     (try simp only [Act.put, List.setIfInBounds_toArray, List.set_cons_zero, List.set_cons_succ])
     refine wpAnyH_take (i := 25) (oi := ({ dst := some 153, op := .indexAddr 25 (.tmp 152) (.const (.int .i64 0)), type := 0, pos := "law.go:147", after := #[⟨24, .data⟩, ⟨16, .guard⟩], guard := some (16, false) } : Oper)) (v := ?v25_26_k3) rfl (by kernel_rfl) (by kernel_rfl) (by kernel_rfl) (fun _ _ _ h => h) (Or.inl ⟨by rfl, ?hy25_26_k3⟩) (by assumption) ?re25_26_k3
     case hy25_26_k3 => (intro w hSw; go_simp) <;> with_reducible rfl
     (try simp only [Act.put, List.setIfInBounds_toArray, List.set_cons_zero, List.set_cons_succ])
     refine wpAnyH_take (i := 26) (oi := ({ dst := some 154, op := .load 3 (.tmp 153), type := 3, pos := "law.go:147", after := #[⟨25, .data⟩, ⟨16, .guard⟩], guard := some (16, false) } : Oper)) (v := ?v26_27_k3) rfl (by kernel_rfl) (by kernel_rfl) (by kernel_rfl) (fun _ _ _ h => h) (Or.inl ⟨by rfl, ?hy26_27_k3⟩) (by assumption) ?re26_27_k3
     case hy26_27_k3 => ((intro w hSw; have j0 := hSw.1.c 6 rfl; have j1 := hSw.1.c 7 rfl; have j2 := hSw.2.1.c 3 rfl; have j3 := hSw.2.2.c 6 rfl; have j4 := hSw.2.2.c 7 rfl; go_simp) <;> with_reducible rfl)
     (try simp only [Act.put, List.setIfInBounds_toArray, List.set_cons_zero, List.set_cons_succ])
     refine wpAnyH_take (i := 27) (oi := ({ dst := some 155, op := .move (.tmp 20), type := 3, pos := "law.go:147", after := #[⟨16, .guard⟩], guard := some (16, false) } : Oper)) (v := ?v27_28_k3) rfl (by kernel_rfl) (by kernel_rfl) (by kernel_rfl) (fun _ _ _ h => h) (Or.inl ⟨by rfl, ?hy27_28_k3⟩) (by assumption) ?re27_28_k3
     case hy27_28_k3 => (intro w hSw; go_simp) <;> with_reducible rfl
     (try simp only [Act.put, List.setIfInBounds_toArray, List.set_cons_zero, List.set_cons_succ])
     refine wpAnyH_take (i := 28) (oi := ({ dst := some 156, op := .binOp .mul 3 (.tmp 154) (.tmp 155) 3, type := 3, pos := "law.go:147", after := #[⟨26, .data⟩, ⟨27, .data⟩, ⟨16, .guard⟩], guard := some (16, false) } : Oper)) (v := ?v28_29_k3) rfl (by kernel_rfl) (by kernel_rfl) (by kernel_rfl) (fun _ _ _ h => h) (Or.inl ⟨by rfl, ?hy28_29_k3⟩) (by assumption) ?re28_29_k3
     case hy28_29_k3 => (intro w hSw; go_simp) <;> with_reducible rfl
     (try simp only [Act.put, List.setIfInBounds_toArray, List.set_cons_zero, List.set_cons_succ])
     refine wpAnyH_take (i := 29) (oi := ({ dst := some 157, op := .binOp .neq 3 (.tmp 150) (.tmp 156) 3, type := 4, pos := "law.go:147", after := #[⟨22, .data⟩, ⟨28, .data⟩, ⟨16, .guard⟩], guard := some (16, false) } : Oper)) (v := ?v29_30_k3) rfl (by kernel_rfl) (by kernel_rfl) (by kernel_rfl) (fun _ _ _ h => h) (Or.inl ⟨by rfl, ?hy29_30_k3⟩) (by assumption) ?re29_30_k3
     case hy29_30_k3 => (intro w hSw; go_simp) <;> with_reducible rfl
     (try simp only [Act.put, List.setIfInBounds_toArray, List.set_cons_zero, List.set_cons_succ])
     refine wpAnyH_take (i := 30) (oi := ({ dst := some 158, op := .pick (.tmp 144) (.const (.bool true)) (.tmp 157), type := 4, pos := "law.go:147", after := #[⟨16, .data⟩, ⟨29, .data⟩], guard := none } : Oper)) (v := ?v30_31_k3) rfl (by kernel_rfl) (by kernel_rfl) (by kernel_rfl) (fun _ _ _ h => h) (Or.inl ⟨by rfl, ?hy30_31_k3⟩) (by assumption) ?re30_31_k3
     case hy30_31_k3 => (intro w hSw; go_simp) <;> with_reducible rfl
     (try simp only [Act.put, List.setIfInBounds_toArray, List.set_cons_zero, List.set_cons_succ])
     refine wpAnyH_take (i := 31) (oi := ({ dst := some 159, op := .move (.tmp 158), type := 4, pos := "law.go:147", after := #[⟨30, .data⟩, ⟨16, .chain⟩], guard := none } : Oper)) (v := ?v31_32_k3) rfl (by kernel_rfl) (by kernel_rfl) (by kernel_rfl) (fun _ _ _ h => h) (Or.inl ⟨by rfl, ?hy31_32_k3⟩) (by assumption) ?re31_32_k3
     case hy31_32_k3 => (intro w hSw; go_simp) <;> with_reducible rfl
     (try simp only [Act.put, List.setIfInBounds_toArray, List.set_cons_zero, List.set_cons_succ])
     refine wpAnyH_take (i := 32) (oi := ({ dst := some 160, op := .move (.tmp 17), type := 3, pos := "law.go:147", after := #[⟨31, .guard⟩], guard := some (31, false) } : Oper)) (v := ?v32_33_k3) rfl (by kernel_rfl) (by kernel_rfl) (by kernel_rfl) (fun _ _ _ h => h) (Or.inl ⟨by rfl, ?hy32_33_k3⟩) (by assumption) ?re32_33_k3
     case hy32_33_k3 => (intro w hSw; go_simp) <;> with_reducible rfl
     (try simp only [Act.put, List.setIfInBounds_toArray, List.set_cons_zero, List.set_cons_succ])
     refine wpAnyH_take (i := 33) (oi := ({ dst := some 161, op := .indexAddr 31 (.tmp 14) (.tmp 160), type := 0, pos := "law.go:147", after := #[⟨32, .data⟩, ⟨31, .guard⟩], guard := some (31, false) } : Oper)) (v := ?v33_34_k3) rfl (by kernel_rfl) (by kernel_rfl) (by kernel_rfl) (fun _ _ _ h => h) (Or.inl ⟨by rfl, ?hy33_34_k3⟩) (by assumption) ?re33_34_k3
     case hy33_34_k3 => (intro w hSw; go_simp) <;> with_reducible rfl
     (try simp only [Act.put, List.setIfInBounds_toArray, List.set_cons_zero, List.set_cons_succ])
     refine wpAnyH_take (i := 34) (oi := ({ dst := some 162, op := .load 23 (.tmp 161), type := 23, pos := "law.go:147", after := #[⟨33, .data⟩, ⟨31, .guard⟩], guard := some (31, false) } : Oper)) (v := ?v34_35_k3) rfl (by kernel_rfl) (by kernel_rfl) (by kernel_rfl) (fun _ _ _ h => h) (Or.inl ⟨by rfl, ?hy34_35_k3⟩) (by assumption) ?re34_35_k3
     case hy34_35_k3 => ((intro w hSw; have j0 := hSw.1.c 6 rfl; have j1 := hSw.1.c 7 rfl; have j2 := hSw.2.1.c 3 rfl; have j3 := hSw.2.2.c 6 rfl; have j4 := hSw.2.2.c 7 rfl; go_simp) <;> with_reducible rfl)
     (try simp only [Act.put, List.setIfInBounds_toArray, List.set_cons_zero, List.set_cons_succ])
     refine wpAnyH_ready (rs := [35]) (by kernel_rfl) (by simp) ?_
     refine AllReadyH.cons (o := ({ dst := some 163, op := .call { callee := .value (.func 29), args := #[.tmp 162], argTypes := #[23] }, type := 4, pos := "law.go:147", after := #[⟨34, .data⟩, ⟨31, .chain⟩, ⟨31, .guard⟩], guard := some (31, false) } : Oper)) rfl (fun K hK => ?_) ?_
     ·
      go_simp
      go_at_call 29
      refine (R3.v _).mono ?_
      rintro e WV ⟨rfl, B⟩
      have R8n := Lib.hid (R8.out.drew.keep B R8.out.lt)
      have E4n := Lib.hid (E4.out.drew.keep B E4.out.lt)
      have Wtn := Lib.hid (Wt.out.drew.keep B Wt.out.lt)
      have Aan := Lib.hid (Aa.out.drew.keep B Aa.out.lt)
      have Bbn := Lib.hid (Bb.out.drew.keep B Bb.out.lt)
      have HBn := Lib.hid (HB.out.drew.trans (B.mono HB.out.size))
      clear R8 E4 Wt Aa Bb HB
      have R8 := R8n
      have E4 := E4n
      have Wt := Wtn
      have Aa := Aan
      have Bb := Bbn
      have HB := HBn
      clear R8n E4n Wtn Aan Bbn HBn
      (try go_wp2_with fail)
      refine hK.out _ _ ?_ (fun hHeld => ?_)
      ·
       exact ⟨R8.out, E4.out, Wt.out⟩
      clear hK K
      (try simp only [Act.put, List.setIfInBounds_toArray, List.set_cons_zero, List.set_cons_succ])
      clear B
      refine wpAnyH_take (i := 36) (oi := ({ dst := some 164, op := .unOp .not 4 (.tmp 163), type := 4, pos := "law.go:147", after := #[⟨35, .data⟩, ⟨31, .guard⟩], guard := some (31, false) } : Oper)) (v := ?v36_36_k3) rfl (by kernel_rfl) (by kernel_rfl) (by kernel_rfl) (fun _ _ _ h => h) (Or.inl ⟨by rfl, ?hy36_36_k3⟩) (by assumption) ?re36_36_k3
      case hy36_36_k3 => (intro w hSw; go_simp) <;> with_reducible rfl
      (try simp only [Act.put, List.setIfInBounds_toArray, List.set_cons_zero, List.set_cons_succ])
      refine wpAnyH_take (i := 37) (oi := ({ dst := some 165, op := .pick (.tmp 159) (.const (.bool true)) (.tmp 164), type := 4, pos := "law.go:147", after := #[⟨31, .data⟩, ⟨36, .data⟩], guard := none } : Oper)) (v := ?v37_37_k3) rfl (by kernel_rfl) (by kernel_rfl) (by kernel_rfl) (fun _ _ _ h => h) (Or.inl ⟨by rfl, ?hy37_37_k3⟩) (by assumption) ?re37_37_k3
      case hy37_37_k3 => (intro w hSw; go_simp) <;> with_reducible rfl
      (try simp only [Act.put, List.setIfInBounds_toArray, List.set_cons_zero, List.set_cons_succ])
      refine wpAnyH_done (by kernel_rfl) ?_ _
      refine NoPanic.normal ?_
      (try go_wp2_with fail)
      go_roundw
      case rel => exact ⟨4, by omega, by go_num, R8, E4, Wt, Aa, Bb, HB⟩
      case measure => simp [intOf]
     exact AllReadyH.nil
  ·
   obtain rfl : k = 4 := by omega
   have ck := CK.out
   clear CK
   rcases Int.lt_trichotomy (n * c) (m * d) with hv | hv | hv
   ·
    rw [cmpN, if_pos hv] at ck
    have CK := Lib.hid ck
    clear ck
    have q0 := Aa.out.c0
    have q1 := Aa.out.c1
    have q2 := Bb.out.c0
    have q3 := Bb.out.c1
    go_wp2_with fail
    go_at_call 20
    refine (CK.out _).mono ?_
    rintro e WZ ⟨rfl, B⟩
    have HBz := Lib.hid (HB.out.trans (B.mono HB.out.size))
    clear B
    go_wp2_with fail
    go_ret
    exact ⟨rfl, HBz.out⟩
   ·
    have hv1 : ¬ (n * c < m * d) := by omega
    have hv2 : ¬ (m * d < n * c) := by omega
    rw [cmpN, if_neg hv1, if_neg hv2] at ck
    clear hv
    have CK := Lib.hid ck
    clear ck
    have q0 := Aa.out.c0
    have q1 := Aa.out.c1
    have q2 := Bb.out.c0
    have q3 := Bb.out.c1
    go_wp2_with fail
    go_at_call 20
    refine (CK.out _).mono ?_
    rintro e WZ ⟨rfl, B⟩
    have HBz := Lib.hid (HB.out.trans (B.mono HB.out.size))
    clear B
    go_wp2_with fail
    go_ret
    exact ⟨rfl, HBz.out⟩
   ·
    have hv1 : ¬ (n * c < m * d) := by omega
    rw [cmpN, if_neg hv1, if_pos hv] at ck
    have CK := Lib.hid ck
    clear ck
    have q0 := Aa.out.c0
    have q1 := Aa.out.c1
    have q2 := Bb.out.c0
    have q3 := Bb.out.c1
    go_wp2_with fail
    go_at_call 20
    refine (CK.out _).mono ?_
    rintro e WZ ⟨rfl, B⟩
    have HBz := Lib.hid (HB.out.trans (B.mono HB.out.size))
    clear B
    go_wp2_with fail
    go_ret
    exact ⟨rfl, HBz.out⟩
end Go.Proofs.YtjpifnepdmgpeaaGreatDoor
