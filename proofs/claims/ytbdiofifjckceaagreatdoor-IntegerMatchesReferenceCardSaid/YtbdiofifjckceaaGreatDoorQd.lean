/- Div. -/
import Derived.Test.YtbdiofifjckceaaGreatDoorQc
namespace Go.Proofs.YtbdiofifjckceaaGreatDoor
open Go.RowKit

set_option maxRecDepth 100000 in
set_option maxHeartbeats 1000000 in
theorem Div_no (s1 s2 : ByteArray) (L1 L2 : List UInt8) (w : World) (hL1 : s1.data.toList = L1) (hL2 : s2.data.toList = L2) (hl1 : L1.length ≤ 60000) (hl2 : L2.length ≤ 60000) (hv : (vld L1 && vld L2) = true → num L2 = 0) :
    Calls Tryz.prog 15 #[.string s1, .string s2] w fun e w' => e = .returned (.tuple #[.string ⟨#[]⟩, .string ⟨#[]⟩, .int .i64 30]) ∧ Below w.heap.size w w' := by
  cases hb : vld L1 && vld L2
  · have cR := fun W => readBoth_no s1 s2 L1 L2 W hL1 hL2 hl1 hl2 hb
    clear hL1 hL2 hl1 hl2 hb hv
    go_enter Tryz.func15, Tryz.ntmps15
    go_wp2_with (go_at_call 38; (with_reducible refine (cR _).mono ?_); rintro e w1 ⟨rfl, B1⟩)
    go_ret3
    exact ⟨rfl, (B1.alloc B1.size _).alloc (by have := B1.size; rw [World.size_alloc]; omega) _⟩
  · have h0 := hv hb
    rw [Bool.and_eq_true] at hb
    have cR := fun W => readBoth_ok s1 s2 L1 L2 W hL1 hL2 hb.1 hb.2
    have cZ := fun W v h => isZero_any (num L2) v W h
    rw [h0] at cZ cR
    rw [decide_eq_true rfl] at cZ
    have CZ := Lib.hid cZ
    generalize num L1 = x at *
    clear hL1 hL2 hl1 hl2 hb hv h0 cZ
    go_enter Tryz.func15, Tryz.ntmps15
    go_wp2_with (first | (go_at_call 38; (with_reducible refine (cR _).mono ?_); rintro e w1 ⟨v1, v2, rfl, n1, n2, B1⟩; obtain ⟨q1, a1, k1, c1, rfl, hq1, m1⟩ := n1.form; obtain ⟨q2, a2, k2, c2, rfl, hq2, m2⟩ := n2.form; have b4 := ((Below.refl w1.heap.size w1).alloc (Nat.le_refl _) (.cells #[.bool q1, .slice a1 k1 c1] 49)).alloc (by rw [World.size_alloc]; omega) (.cells #[.bool q2, .slice a2 k2 c2] 49); have N1 := Lib.hid (n1.below b4); have N2 := Lib.hid (n2.below b4); have HB := Lib.hid (B1.trans (b4.mono B1.size)); clear hq1 hq2 m1 m2 n1 n2 b4 B1) | (go_at_call 39; go_loud ((with_reducible refine (CZ.out _ _ N2.out).mono ?_); rintro e w2 ⟨rfl, B1⟩; have HB2 := Lib.hid (HB.out.trans (B1.mono HB.out.size)))))
    go_ret3
    exact ⟨rfl, HB2.out⟩

set_option maxRecDepth 100000 in
set_option maxHeartbeats 1000000 in
theorem Div_any (s1 s2 : ByteArray) (L1 L2 : List UInt8) (w : World) (hL1 : s1.data.toList = L1) (hL2 : s2.data.toList = L2) (hv1 : vld L1 = true) (hv2 : vld L2 = true) (h0 : num L2 ≠ 0) :
    Calls Tryz.prog 15 #[.string s1, .string s2] w fun e w' => e = .returned (.tuple #[.string ⟨(txt (num L1 / num L2)).toArray⟩, .string ⟨(txt (num L1 % num L2)).toArray⟩, .int .i64 0]) ∧ Below w.heap.size w w' := by
  have cR := fun W => readBoth_ok s1 s2 L1 L2 W hL1 hL2 hv1 hv2
  have cZ := fun W v h => isZero_any (num L2) v W h
  have g1 := vld_grp hv1
  have g2 := vld_grp hv2
  have hdv : (grp (num L1 / num L2).natAbs).length ≤ 5000 := by
    have e1 : (num L1 / num L2).natAbs ≤ (num L1).natAbs + 1 := by
      have h := Int.natAbs_ediv_le_natAbs (num L1) (num L2)
      omega
    have e2 := (vld_txt hv1).2
    refine Nat.le_trans (grp_of (k := 51) ?_) (by decide)
    omega
  have hdm : (grp (num L1 % num L2).natAbs).length ≤ 5000 := by
    have e1 := Int.emod_nonneg (num L1) h0
    have e3 := Int.emod_lt (num L1) h0
    have e2 := (vld_txt hv2).2
    refine Nat.le_trans (grp_of (k := 50) ?_) (by decide)
    omega
  rw [decide_eq_false h0] at cZ
  have CO := Lib.hid (fun W v1 v2 h1 h2 => nover_any (num L1) (num L2) v1 v2 W h0 (by omega) (by omega) h1 h2)
  have CT1 := Lib.hid (fun W v h => ntext_any (num L1 / num L2) v W hdv h)
  have CT2 := Lib.hid (fun W v h => ntext_any (num L1 % num L2) v W hdm h)
  have CZ := Lib.hid cZ
  generalize num L1 / num L2 = d at *
  generalize num L1 % num L2 = m at *
  generalize num L1 = x at *
  generalize num L2 = y at *
  generalize (txt d).toArray = T1 at *
  generalize (txt m).toArray = T2 at *
  clear hL1 hL2 hv1 hv2 h0 g1 g2 hdv hdm cZ
  go_enter Tryz.func15, Tryz.ntmps15
  go_wp2_with (first | (go_at_call 38; (with_reducible refine (cR _).mono ?_); rintro e w1 ⟨v1, v2, rfl, n1, n2, B1⟩; obtain ⟨q1, a1, k1, c1, rfl, hq1, m1⟩ := n1.form; obtain ⟨q2, a2, k2, c2, rfl, hq2, m2⟩ := n2.form; have b4 := ((Below.refl w1.heap.size w1).alloc (Nat.le_refl _) (.cells #[.bool q1, .slice a1 k1 c1] 49)).alloc (by rw [World.size_alloc]; omega) (.cells #[.bool q2, .slice a2 k2 c2] 49); have N1 := Lib.hid (n1.below b4); have N2 := Lib.hid (n2.below b4); have HB := Lib.hid (B1.trans (b4.mono B1.size)); clear hq1 hq2 m1 m2 n1 n2 b4 B1) | (go_at_call 39; go_loud ((with_reducible refine (CZ.out _ _ N2.out).mono ?_); rintro e w2 ⟨rfl, B1⟩; have HB2 := Lib.hid (HB.out.trans (B1.mono HB.out.size)); obtain ⟨z1, z2⟩ := two_blocks w1 (.bool q1) (.slice a1 k1 c1) (.bool q2) (.slice a2 k2 c2); have k0 := z1.keep B1 z1.lt; have k9 := z2.keep B1 z2.lt; have r0 := k0.c0; have r1 := k0.c1; have r2 := k9.c0; have r3 := k9.c1; have n1 := N1.out.below B1; have n2 := N2.out.below B1; clear k0 k9 z1 z2 N1 N2 B1 HB; have N1 := Lib.hid n1; have N2 := Lib.hid n2; clear n1 n2)) | (go_at_call 40; go_loud ((with_reducible refine (CO.out _ _ _ N1.out N2.out).mono ?_); rintro e w3 ⟨u1, u2, rfl, n1, n2, B1⟩; have HB3 := Lib.hid (HB2.out.trans (B1.mono HB2.out.size)); obtain ⟨q3, a3, k3, c3, rfl, hq3, m3⟩ := n1.form; obtain ⟨q4, a4, k4, c4, rfl, hq4, m4⟩ := n2.form; have M3 := Lib.hid n1; have M4 := Lib.hid n2; clear n1 n2 hq3 hq4 m3 m4 B1 r0 r1 r2 r3)))
  have b4 := ((Below.refl w3.heap.size w3).alloc (Nat.le_refl _) (.cells #[.bool q3, .slice a3 k3 c3] 49)).alloc (by rw [World.size_alloc]; omega) (.cells #[.bool q4, .slice a4 k4 c4] 49)
  obtain ⟨z1, z2⟩ := two_blocks w3 (.bool q3) (.slice a3 k3 c3) (.bool q4) (.slice a4 k4 c4)
  have P3 := Lib.hid (M3.out.below b4.drew)
  have P4 := Lib.hid (M4.out.below b4.drew)
  have HB4 := Lib.hid ((HB3.out.trans (b4.mono HB3.out.size)).drew)
  have Z1 := Lib.hid z1
  have Z2 := Lib.hid z2
  clear b4 z1 z2 M3 M4 HB3 HB2
  refine wp_region_noPanic ?_
  refine wp_region_held_drew (S := fun W => NBlk W w3.heap.size (.bool q3) (.slice a3 k3 c3) ∧ NBlk W (w3.heap.size + 1) (.bool q4) (.slice a4 k4 c4)) (by kernel_rfl) ?_ (fun hHeld => ?_)
  · exact ⟨Z1.out, Z2.out⟩
  refine wpAnyH_take (i := 0) (oi := ({ dst := some 31, op := Go.Op.load 49 (Go.Operand.tmp 10), type := 49, pos := "integer.go:79", after := #[], guard := none } : Oper)) (v := ?v0_1) rfl (by kernel_rfl) (by kernel_rfl) (by kernel_rfl) (fun _ _ _ h => h) (Or.inl ⟨by rfl, ?hy0_1⟩) (by assumption) ?re0_1
  case hy0_1 => ((intro w hSw; obtain ⟨g1, g2⟩ := hSw; have e1 := g1.c0; have e2 := g1.c1; have e3 := g2.c0; have e4 := g2.c1; go_simp) <;> with_reducible rfl)
  (try simp only [Act.put, List.setIfInBounds_toArray, List.set_cons_zero, List.set_cons_succ])
  refine wpAnyH_take (i := 2) (oi := ({ dst := some 33, op := Go.Op.load 49 (Go.Operand.tmp 11), type := 49, pos := "integer.go:79", after := #[], guard := none } : Oper)) (v := ?v2_2) rfl (by kernel_rfl) (by kernel_rfl) (by kernel_rfl) (fun _ _ _ h => h) (Or.inl ⟨by rfl, ?hy2_2⟩) (by assumption) ?re2_2
  case hy2_2 => ((intro w hSw; obtain ⟨g1, g2⟩ := hSw; have e1 := g1.c0; have e2 := g1.c1; have e3 := g2.c0; have e4 := g2.c1; go_simp) <;> with_reducible rfl)
  (try simp only [Act.put, List.setIfInBounds_toArray, List.set_cons_zero, List.set_cons_succ])
  refine wpAnyH_ready (rs := [1]) (by kernel_rfl) (by simp) ?_
  refine AllReadyH.cons (o := ({ dst := some 32, op := Go.Op.call { callee := Go.Callee.value (Go.Operand.func 41), args := #[Go.Operand.tmp 31], argTypes := #[49] }, type := 9, pos := "integer.go:79", after := #[{ on := 0, ground := Go.Ground.data }], guard := none } : Oper)) rfl (fun K hK => ?_) ?_
  · go_simp
    go_at_call 41
    refine (CT1.out _ _ P3.out).mono ?_
    rintro e w4 ⟨rfl, B4⟩
    have HB5 := Lib.hid (HB4.out.trans (B4.mono HB4.out.size))
    (try go_wp2_with fail)
    refine hK.out _ _ ?_ (fun hHeld => ?_)
    · exact ⟨hHeld.1.keep B4 hHeld.1.lt, hHeld.2.keep B4 hHeld.2.lt⟩
    clear hK K
    (try simp only [Act.put, List.setIfInBounds_toArray, List.set_cons_zero, List.set_cons_succ])
    refine wpAnyH_ready (rs := [3]) (by kernel_rfl) (by simp) ?_
    refine AllReadyH.cons (o := ({ dst := some 34, op := Go.Op.call { callee := Go.Callee.value (Go.Operand.func 41), args := #[Go.Operand.tmp 33], argTypes := #[49] }, type := 9, pos := "integer.go:79", after := #[{ on := 2, ground := Go.Ground.data }, { on := 1, ground := Go.Ground.chain }], guard := none } : Oper)) rfl (fun K hK => ?_) ?_
    · go_simp
      go_at_call 41
      refine (CT2.out _ _ (P4.out.below B4)).mono ?_
      rintro e w5 ⟨rfl, B5⟩
      have HB6 := Lib.hid (HB5.out.trans (B5.mono HB5.out.size))
      (try go_wp2_with fail)
      refine hK.out _ _ ?_ (fun hHeld => ?_)
      · exact ⟨hHeld.1.keep B5 hHeld.1.lt, hHeld.2.keep B5 hHeld.2.lt⟩
      clear hK K
      (try simp only [Act.put, List.setIfInBounds_toArray, List.set_cons_zero, List.set_cons_succ])
      refine wpAnyH_take (i := 4) (oi := ({ dst := some 4, op := Go.Op.assign (Go.Operand.tmp 32), type := 9, pos := "integer.go:79", after := #[{ on := 1, ground := Go.Ground.data }, { on := 3, ground := Go.Ground.chain }, { on := 0, ground := Go.Ground.phase }, { on := 1, ground := Go.Ground.phase }, { on := 2, ground := Go.Ground.textOnly Go.Departure.lateStores }, { on := 3, ground := Go.Ground.textOnly Go.Departure.lateStoresUnsure }], guard := none } : Oper)) (v := ?v4_3) rfl (by kernel_rfl) (by kernel_rfl) (by kernel_rfl) (fun _ _ _ h => h) (Or.inl ⟨by rfl, ?hy4_3⟩) (by assumption) ?re4_3
      case hy4_3 => ((intro w hSw; obtain ⟨g1, g2⟩ := hSw; have e1 := g1.c0; have e2 := g1.c1; have e3 := g2.c0; have e4 := g2.c1; go_simp) <;> with_reducible rfl)
      (try simp only [Act.put, List.setIfInBounds_toArray, List.set_cons_zero, List.set_cons_succ])
      refine wpAnyH_take (i := 5) (oi := ({ dst := some 5, op := Go.Op.assign (Go.Operand.tmp 34), type := 9, pos := "integer.go:79", after := #[{ on := 3, ground := Go.Ground.data }, { on := 4, ground := Go.Ground.chain }, { on := 0, ground := Go.Ground.phase }, { on := 1, ground := Go.Ground.phase }, { on := 2, ground := Go.Ground.phase }, { on := 3, ground := Go.Ground.phase }, { on := 4, ground := Go.Ground.phase }], guard := none } : Oper)) (v := ?v5_4) rfl (by kernel_rfl) (by kernel_rfl) (by kernel_rfl) (fun _ _ _ h => h) (Or.inl ⟨by rfl, ?hy5_4⟩) (by assumption) ?re5_4
      case hy5_4 => ((intro w hSw; obtain ⟨g1, g2⟩ := hSw; have e1 := g1.c0; have e2 := g1.c1; have e3 := g2.c0; have e4 := g2.c1; go_simp) <;> with_reducible rfl)
      (try simp only [Act.put, List.setIfInBounds_toArray, List.set_cons_zero, List.set_cons_succ])
      refine wpAnyH_take (i := 6) (oi := ({ dst := some 6, op := Go.Op.assign (Go.Operand.const (Go.Value.int Go.IntKind.i64 0)), type := 27, pos := "integer.go:79", after := #[{ on := 5, ground := Go.Ground.chain }, { on := 0, ground := Go.Ground.phase }, { on := 1, ground := Go.Ground.phase }, { on := 2, ground := Go.Ground.phase }, { on := 3, ground := Go.Ground.phase }, { on := 4, ground := Go.Ground.phase }, { on := 5, ground := Go.Ground.phase }], guard := none } : Oper)) (v := ?v6_5) rfl (by kernel_rfl) (by kernel_rfl) (by kernel_rfl) (fun _ _ _ h => h) (Or.inl ⟨by rfl, ?hy6_5⟩) (by assumption) ?re6_5
      case hy6_5 => ((intro w hSw; obtain ⟨g1, g2⟩ := hSw; have e1 := g1.c0; have e2 := g1.c1; have e3 := g2.c0; have e4 := g2.c1; go_simp) <;> with_reducible rfl)
      (try simp only [Act.put, List.setIfInBounds_toArray, List.set_cons_zero, List.set_cons_succ])
      refine wpAnyH_done (by kernel_rfl) ?_ _
      refine NoPanic.normal ?_
      go_wp2_with fail
      go_ret3
      exact ⟨rfl, HB6.out⟩
    exact AllReadyH.nil
  exact AllReadyH.nil
end Go.Proofs.YtbdiofifjckceaaGreatDoor
