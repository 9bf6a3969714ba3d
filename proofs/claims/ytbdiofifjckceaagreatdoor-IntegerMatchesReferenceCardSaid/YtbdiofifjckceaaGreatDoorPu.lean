/- plus and minus of numbers with a sign. -/
import Derived.Test.YtbdiofifjckceaaGreatDoorPt
namespace Go.Proofs.YtbdiofifjckceaaGreatDoor
open Go.RowKit

theorem below_far {n : Nat} {w W : World} (h : Below n w W) {g j : Nat} (hg : n ≤ g) (v : Value) : Below n w (W.setCell ⟨g, j, none⟩ v) := h.setCell (p := ⟨g, j, none⟩) hg v
/-- a number's row is not in a struct's block: writing the block's two cells leaves it -/
theorem NSl.two {w : World} {u : Value} {n g : Nat} {b : Bool} {s : Value} (h : NSl w u n) (hk : NBlk w g (.bool b) s) (hs : ∀ x, s ≠ .int .i64 x) (x y : Value) : NSl ((w.setCell ⟨g, 0, none⟩ x).setCell ⟨g, 1, none⟩ y) u n :=
  h.over hk.c0 hk.c1 (fun _ hq => (Below.heap_setCell _ _ _ _ hq).trans (Below.heap_setCell _ _ _ _ hq)) (by simp [World.setCell]) (fun _ hj => hk.c2 hj) hs

theorem sign_false {s : Int} {M : Nat} (h : s = M) : decide (s < 0) = (false && decide (0 < M)) := by rw [Bool.false_and, decide_eq_false_iff_not]; omega
theorem sign_true {s : Int} {M : Nat} (h : s = -(M : Int)) : decide (s < 0) = (true && decide (0 < M)) := by rw [Bool.true_and, decide_eq_decide]; omega
set_option maxRecDepth 100000 in
set_option maxHeartbeats 2000000 in
theorem nplus_form (b1 b2 : Bool) (X Y : Nat) (s : Int) (u1 u2 : Value) (w : World) (hl1 : (grp X).length ≤ 50000) (hl2 : (grp Y).length ≤ 50000) (h1 : NSl w u1 X) (h2 : NSl w u2 Y)
    (hs : s = (if b1 then -(X : Int) else X) + (if b2 then -(Y : Int) else Y)) :
    Calls Tryz.prog 31 #[.agg #[.bool b1, u1], .agg #[.bool b2, u2]] w fun e w' => ∃ v, e = .returned v ∧ Num w' v s ∧ Below w.heap.size w w' := by
  obtain ⟨a1, c1, rfl⟩ := h1.form
  obtain ⟨a2, c2, rfl⟩ := h2.form
  have hgP : (grp (X + Y)).length ≤ 60000 := by
    have h3 : X + Y < 10000 ^ (max (grp X).length (grp Y).length + 1) := by
      have e1 := grp_lt X
      have e2 := grp_lt Y
      have e3 : 10000 ^ (grp X).length ≤ 10000 ^ (max (grp X).length (grp Y).length) := Nat.pow_le_pow_right (by decide) (by omega)
      have e4 : 10000 ^ (grp Y).length ≤ 10000 ^ (max (grp X).length (grp Y).length) := Nat.pow_le_pow_right (by decide) (by omega)
      rw [Nat.pow_succ]
      omega
    exact Nat.le_trans (grp_len h3) (by omega)
  have hgM : (grp (X - Y)).length ≤ 60000 := Nat.le_trans (grp_mono (Nat.sub_le _ _)) (by omega)
  have hgN : (grp (Y - X)).length ≤ 60000 := Nat.le_trans (grp_mono (Nat.sub_le _ _)) (by omega)
  have CP := Lib.hid (fun (W : World) (g1 : NSl W (.slice a1 (grp X).length c1) X) (g2 : NSl W (.slice a2 (grp Y).length c2) Y) => plus_any X Y _ _ W (by omega) (by omega) g1 g2)
  have CM := Lib.hid (fun (W : World) (h : Y ≤ X) (g1 : NSl W (.slice a1 (grp X).length c1) X) (g2 : NSl W (.slice a2 (grp Y).length c2) Y) => minus_any X Y _ _ W h (by omega) g1 g2)
  have CN := Lib.hid (fun (W : World) (h : X ≤ Y) (g1 : NSl W (.slice a1 (grp X).length c1) X) (g2 : NSl W (.slice a2 (grp Y).length c2) Y) => minus_any Y X _ _ W h (by omega) g2 g1)
  have CC := Lib.hid (fun (W : World) (g1 : NSl W (.slice a1 (grp X).length c1) X) (g2 : NSl W (.slice a2 (grp Y).length c2) Y) => compare_any X Y _ _ W (by omega) g1 g2)
  have H1 := Lib.hid h1
  have H2 := Lib.hid h2
  have HSS := Lib.hid hs
  clear h1 h2 hs hl1 hl2
  generalize (grp X).length = k1 at *
  generalize (grp Y).length = k2 at *
  have cS := fun (W : World) b u n (h : NSl W u n) (hl : (grp n).length ≤ 60000) => signed_form b n u W h hl
  have CS := Lib.hid cS
  clear cS
  cases b1 <;> cases b2
  · go_enter Tryz.func31, Tryz.ntmps31
    have hB3 := (((below_alloc w (.cells #[.bool false, .slice a1 k1 c1] 49)).alloc (by simp only [World.size_alloc]; omega) (.cells #[.bool false, .slice a2 k2 c2] 49)).alloc (by simp only [World.size_alloc]; omega) (.cells #[.bool false, .slice none 0 0] 49))
    obtain ⟨hW0, hW1, hW⟩ := three_blocks w (.bool false) (.slice a1 k1 c1) (.bool false) (.slice a2 k2 c2) (.bool false) (.slice none 0 0)
    have HS := Lib.hid hW.lt
    have HB := Lib.hid hB3
    have HW := Lib.hid hW
    have HW0 := Lib.hid hW0
    have HW1 := Lib.hid hW1
    clear hB3 hW hW0 hW1
    go_wp2_with fail
    refine wp_region_noPanic ?_
    refine wp_region_held_drew (S := fun W => NBlk W w.heap.size (.bool false) (.slice a1 k1 c1) ∧ NBlk W (w.heap.size + 1) (.bool false) (.slice a2 k2 c2)) (by kernel_rfl) ?_ (fun hHeld => ?_)
    · exact ⟨HW0.out, HW1.out⟩
    refine wpAnyH_take (i := 0) (oi := ({ dst := some 10, op := Go.Op.fieldAddr 49 (Go.Operand.tmp 2) 0, type := 0, pos := "number.go:49", after := #[], guard := none } : Oper)) (v := ?v0_1sf) rfl (by kernel_rfl) (by kernel_rfl) (by kernel_rfl) (fun _ _ _ h => h) (Or.inl ⟨by rfl, ?hy0_1sf⟩) (by assumption) ?re0_1sf
    case hy0_1sf => ((intro w hSw; obtain ⟨q1, q2⟩ := hSw; have e1 := q1.c0; have e2 := q1.c1; have e3 := q2.c0; have e4 := q2.c1; go_simp) <;> with_reducible rfl)
    (try simp only [Act.put, List.setIfInBounds_toArray, List.set_cons_zero, List.set_cons_succ])
    refine wpAnyH_take (i := 1) (oi := ({ dst := some 11, op := Go.Op.load 4 (Go.Operand.tmp 10), type := 4, pos := "number.go:49", after := #[{ on := 0, ground := Go.Ground.data }], guard := none } : Oper)) (v := ?v1_2sf) rfl (by kernel_rfl) (by kernel_rfl) (by kernel_rfl) (fun _ _ _ h => h) (Or.inl ⟨by rfl, ?hy1_2sf⟩) (by assumption) ?re1_2sf
    case hy1_2sf => ((intro w hSw; obtain ⟨q1, q2⟩ := hSw; have e1 := q1.c0; have e2 := q1.c1; have e3 := q2.c0; have e4 := q2.c1; go_simp) <;> with_reducible rfl)
    (try simp only [Act.put, List.setIfInBounds_toArray, List.set_cons_zero, List.set_cons_succ])
    refine wpAnyH_take (i := 2) (oi := ({ dst := some 12, op := Go.Op.fieldAddr 49 (Go.Operand.tmp 2) 1, type := 0, pos := "number.go:49", after := #[], guard := none } : Oper)) (v := ?v2_3sf) rfl (by kernel_rfl) (by kernel_rfl) (by kernel_rfl) (fun _ _ _ h => h) (Or.inl ⟨by rfl, ?hy2_3sf⟩) (by assumption) ?re2_3sf
    case hy2_3sf => ((intro w hSw; obtain ⟨q1, q2⟩ := hSw; have e1 := q1.c0; have e2 := q1.c1; have e3 := q2.c0; have e4 := q2.c1; go_simp) <;> with_reducible rfl)
    (try simp only [Act.put, List.setIfInBounds_toArray, List.set_cons_zero, List.set_cons_succ])
    refine wpAnyH_take (i := 3) (oi := ({ dst := some 13, op := Go.Op.load 47 (Go.Operand.tmp 12), type := 47, pos := "number.go:49", after := #[{ on := 2, ground := Go.Ground.data }], guard := none } : Oper)) (v := ?v3_4sf) rfl (by kernel_rfl) (by kernel_rfl) (by kernel_rfl) (fun _ _ _ h => h) (Or.inl ⟨by rfl, ?hy3_4sf⟩) (by assumption) ?re3_4sf
    case hy3_4sf => ((intro w hSw; obtain ⟨q1, q2⟩ := hSw; have e1 := q1.c0; have e2 := q1.c1; have e3 := q2.c0; have e4 := q2.c1; go_simp) <;> with_reducible rfl)
    (try simp only [Act.put, List.setIfInBounds_toArray, List.set_cons_zero, List.set_cons_succ])
    refine wpAnyH_take (i := 4) (oi := ({ dst := some 14, op := Go.Op.fieldAddr 49 (Go.Operand.tmp 3) 1, type := 0, pos := "number.go:49", after := #[], guard := none } : Oper)) (v := ?v4_5sf) rfl (by kernel_rfl) (by kernel_rfl) (by kernel_rfl) (fun _ _ _ h => h) (Or.inl ⟨by rfl, ?hy4_5sf⟩) (by assumption) ?re4_5sf
    case hy4_5sf => ((intro w hSw; obtain ⟨q1, q2⟩ := hSw; have e1 := q1.c0; have e2 := q1.c1; have e3 := q2.c0; have e4 := q2.c1; go_simp) <;> with_reducible rfl)
    (try simp only [Act.put, List.setIfInBounds_toArray, List.set_cons_zero, List.set_cons_succ])
    refine wpAnyH_take (i := 5) (oi := ({ dst := some 15, op := Go.Op.load 47 (Go.Operand.tmp 14), type := 47, pos := "number.go:49", after := #[{ on := 4, ground := Go.Ground.data }], guard := none } : Oper)) (v := ?v5_6sf) rfl (by kernel_rfl) (by kernel_rfl) (by kernel_rfl) (fun _ _ _ h => h) (Or.inl ⟨by rfl, ?hy5_6sf⟩) (by assumption) ?re5_6sf
    case hy5_6sf => ((intro w hSw; obtain ⟨q1, q2⟩ := hSw; have e1 := q1.c0; have e2 := q1.c1; have e3 := q2.c0; have e4 := q2.c1; go_simp) <;> with_reducible rfl)
    (try simp only [Act.put, List.setIfInBounds_toArray, List.set_cons_zero, List.set_cons_succ])
    refine wpAnyH_ready (rs := [6]) (by kernel_rfl) (by simp) ?_
    refine AllReadyH.cons (o := ({ dst := some 16, op := Go.Op.call { callee := Go.Callee.value (Go.Operand.func 56), args := #[Go.Operand.tmp 13, Go.Operand.tmp 15], argTypes := #[47, 47] }, type := 47, pos := "number.go:49", after := #[{ on := 3, ground := Go.Ground.data }, { on := 5, ground := Go.Ground.data }], guard := none } : Oper)) rfl (fun K hK => ?_) ?_
    · go_simp
      go_at_call 56
      refine (CP.out _ (H1.out.below HB.out.drew) (H2.out.below HB.out.drew)).mono ?_
      rintro e w1 ⟨g, rfl, n1, B1⟩
      have hW1 := HW.out.keep (drew_left B1) HS.out; have N1 := Lib.hid n1; have BB1 := Lib.hid (HB.out.trans ((drew_left B1).mono HB.out.size)); have HW1' := Lib.hid hW1; clear n1 hW1
      (try go_wp2_with fail)
      refine hK.out _ _ ?_ (fun hHeld => ?_)
      · exact ⟨hHeld.1.keep B1 hHeld.1.lt, hHeld.2.keep B1 hHeld.2.lt⟩
      clear hK K
      (try simp only [Act.put, List.setIfInBounds_toArray, List.set_cons_zero, List.set_cons_succ])
      refine wpAnyH_ready (rs := [7]) (by kernel_rfl) (by simp) ?_
      refine AllReadyH.cons (o := ({ dst := some 17, op := Go.Op.call { callee := Go.Callee.value (Go.Operand.func 55), args := #[Go.Operand.tmp 11, Go.Operand.tmp 16], argTypes := #[4, 47] }, type := 49, pos := "number.go:49", after := #[{ on := 1, ground := Go.Ground.data }, { on := 6, ground := Go.Ground.data }, { on := 6, ground := Go.Ground.chain }], guard := none } : Oper)) rfl (fun K hK => ?_) ?_
      · go_simp
        go_at_call 55
        refine (CS.out _ _ _ _ N1.out hgP).mono ?_
        rintro e w2 ⟨q, a, k, c, rfl, hq, n2, B2⟩
        have h0 := HW1'.out.keep B2 HW1'.out.lt; have c0 := h0.c0; have f0 := h0.f 0; have c1' := h0.c1; have N2 := Lib.hid (fun j (hj : 2 ≤ j) => h0.c2 hj); have hA := h0.s0 (.bool q); have c1 := hA.c1; have f1 := hA.f 1; have HA := Lib.hid (hA.s1 (.slice a k c)); clear hA; have HN2 := Lib.hid n2; have BB2 := Lib.hid (BB1.out.trans (B2.mono BB1.out.size)); have HZ := Lib.hid hq; clear h0 n2 hq
        (try go_wp2_with fail)
        refine hK.out _ _ ?_ (fun hHeld => ?_)
        · exact ⟨hHeld.1.keep B2 hHeld.1.lt, hHeld.2.keep B2 hHeld.2.lt⟩
        clear hK K
        (try simp only [Act.put, List.setIfInBounds_toArray, List.set_cons_zero, List.set_cons_succ])
        refine wpAnyH_ready (rs := [8]) (by kernel_rfl) (by simp) ?_
        refine AllReadyH.cons (o := ({ dst := none, op := Go.Op.store 49 (Go.Operand.tmp 4) (Go.Operand.tmp 17), type := 0, pos := "number.go:49", after := #[{ on := 7, ground := Go.Ground.data }, { on := 7, ground := Go.Ground.chain }, { on := 0, ground := Go.Ground.phase }, { on := 1, ground := Go.Ground.phase }, { on := 2, ground := Go.Ground.phase }, { on := 3, ground := Go.Ground.phase }, { on := 4, ground := Go.Ground.phase }, { on := 5, ground := Go.Ground.phase }, { on := 6, ground := Go.Ground.phase }, { on := 7, ground := Go.Ground.phase }], guard := none } : Oper)) rfl (fun K hK => ?_) ?_
        · go_simp
          refine hK.out _ _ ?_ (fun hHeld => ?_)
          · exact ⟨(hHeld.1.far (by omega)).far (by omega), (hHeld.2.far (by omega)).far (by omega)⟩
          clear hK K
          (try simp only [Act.put, List.setIfInBounds_toArray, List.set_cons_zero, List.set_cons_succ])
          refine wpAnyH_done (by kernel_rfl) ?_ _
          refine NoPanic.normal ?_
          go_wp2_with fail
          have hB9 := (BB2.out.setCell (p := ⟨w.heap.size + 1 + 1, 0, none⟩) (by show w.heap.size ≤ w.heap.size + 1 + 1; omega) (.bool q)).setCell (p := ⟨w.heap.size + 1 + 1, 1, none⟩) (by show w.heap.size ≤ w.heap.size + 1 + 1; omega) (.slice a k c)
          have hN9 := HN2.out.over (w2 := (w2.setCell ⟨w.heap.size + 1 + 1, 0, none⟩ (.bool q)).setCell ⟨w.heap.size + 1 + 1, 1, none⟩ (.slice a k c)) c0 c1' (fun q hq => (Below.heap_setCell _ _ _ _ hq).trans (Below.heap_setCell _ _ _ _ hq)) (by simp [World.setCell]) N2.out (fun x e => by cases e)
          refine bodyPost_ret (results_cell_row rfl _ _ (w.heap.size + 1 + 1) 49 #[.bool q, .slice a k c] (0, 0) _ rfl HA.out Tryz.underlying49 rfl info_number) rfl ?_
          exact ⟨_, rfl, ⟨.slice a k c, by rw [sign_false (s := s) (M := (X + Y)) (by have := HSS.out; (try simp only [if_true] at this); (try simp only [if_false, Bool.false_eq_true] at this); omega), HZ.out], by rw [show s.natAbs = X + Y from by have := HSS.out; (try simp only [if_true] at this); (try simp only [if_false, Bool.false_eq_true] at this); omega]; exact hN9⟩, hB9⟩
        exact AllReadyH.nil
      exact AllReadyH.nil
    exact AllReadyH.nil
  · rcases Nat.lt_or_ge X Y with hXY | hXY
    · have hc : cmpN (X : Int) (Y : Int) = -1 := by rw [cmpN, if_pos (by omega)]
      rw [hc] at CC
      clear hc
      go_enter Tryz.func31, Tryz.ntmps31
      have hB3 := (((below_alloc w (.cells #[.bool false, .slice a1 k1 c1] 49)).alloc (by simp only [World.size_alloc]; omega) (.cells #[.bool true, .slice a2 k2 c2] 49)).alloc (by simp only [World.size_alloc]; omega) (.cells #[.bool false, .slice none 0 0] 49))
      obtain ⟨hW0, hW1, hW⟩ := three_blocks w (.bool false) (.slice a1 k1 c1) (.bool true) (.slice a2 k2 c2) (.bool false) (.slice none 0 0)
      have HS := Lib.hid hW.lt
      have HB := Lib.hid hB3
      have HW := Lib.hid hW
      have HW0 := Lib.hid hW0
      have HW1 := Lib.hid hW1
      clear hB3 hW hW0 hW1
      go_wp2_with (go_at_call 57; go_loud ((with_reducible refine (CC.out _ (H1.out.below HB.out) (H2.out.below HB.out)).mono ?_); rintro e w1 ⟨rfl, B1⟩; have hW0' := HW0.out.keep B1 (by have := HS.out; omega); have hW1' := HW1.out.keep B1 (by have := HS.out; omega); have hW' := HW.out.keep B1 HS.out; have hs1 := Nat.lt_of_lt_of_le HS.out B1.size; have hB' := HB.out.trans (B1.mono HB.out.size); have n1 := H1.out.below hB'; have n2 := H2.out.below hB'; have HS' := Lib.hid hs1; clear hs1; have r0 := hW0'.c0; have r1 := hW0'.c1; have r2 := hW1'.c0; have r3 := hW1'.c1; have f0 := hW0'.f 0; have A1 := hW0'.s0 (.bool true); have r4 := A1.c1; have f1 := A1.f 1; have A2 := A1.s1 (.slice a2 k2 c2); have K1 := (hW1'.far (g2 := w.heap.size) (j := 0) (v := .bool true) (by omega)).far (g2 := w.heap.size) (j := 1) (v := .slice a2 k2 c2) (by omega); have r5 := K1.c0; have f2 := K1.f 0; have K2 := K1.s0 (.bool false); have r6 := K2.c1; have f3 := K2.f 1; have K3 := K2.s1 (.slice a1 k1 c1); have A3 := (A2.far (g2 := w.heap.size + 1) (j := 0) (v := .bool false) (by omega)).far (g2 := w.heap.size + 1) (j := 1) (v := .slice a1 k1 c1) (by omega); have E := (((hW'.far (g2 := w.heap.size) (j := 0) (v := .bool true) (by omega)).far (g2 := w.heap.size) (j := 1) (v := .slice a2 k2 c2) (by omega)).far (g2 := w.heap.size + 1) (j := 0) (v := .bool false) (by omega)).far (g2 := w.heap.size + 1) (j := 1) (v := .slice a1 k1 c1) (by omega); have m1 := (n1.two hW0' (fun x e => by cases e) (.bool true) (.slice a2 k2 c2)).two K1 (fun x e => by cases e) (.bool false) (.slice a1 k1 c1); have m2 := (n2.two hW0' (fun x e => by cases e) (.bool true) (.slice a2 k2 c2)).two K1 (fun x e => by cases e) (.bool false) (.slice a1 k1 c1); have b9 := below_far (j := 1) (below_far (j := 0) (below_far (j := 1) (below_far (j := 0) hB' (Nat.le_refl w.heap.size) (.bool true)) (Nat.le_refl w.heap.size) (.slice a2 k2 c2)) (Nat.le_succ w.heap.size) (.bool false)) (Nat.le_succ w.heap.size) (.slice a1 k1 c1); clear HW HW0 HW1 HS HB; have HS := Lib.hid E.lt; have HW := Lib.hid E; have HW0 := Lib.hid A3; have HW1 := Lib.hid K3; have HB := Lib.hid b9; have Hm1 := Lib.hid m1; have Hm2 := Lib.hid m2; clear E A3 K3 b9 m1 m2 n1 n2 hB' K1 K2 A1 A2 hW0' hW1' hW' HS' B1))
      refine wp_region_noPanic ?_
      refine wp_region_held_drew (S := fun W => NBlk W w.heap.size (.bool true) (.slice a2 k2 c2) ∧ NBlk W (w.heap.size + 1) (.bool false) (.slice a1 k1 c1)) (by kernel_rfl) ?_ (fun hHeld => ?_)
      · exact ⟨HW0.out, HW1.out⟩
      refine wpAnyH_take (i := 0) (oi := ({ dst := some 26, op := Go.Op.fieldAddr 49 (Go.Operand.tmp 2) 0, type := 0, pos := "number.go:54", after := #[], guard := none } : Oper)) (v := ?v0_1lf) rfl (by kernel_rfl) (by kernel_rfl) (by kernel_rfl) (fun _ _ _ h => h) (Or.inl ⟨by rfl, ?hy0_1lf⟩) (by assumption) ?re0_1lf
      case hy0_1lf => ((intro w hSw; obtain ⟨q1, q2⟩ := hSw; have e1 := q1.c0; have e2 := q1.c1; have e3 := q2.c0; have e4 := q2.c1; go_simp) <;> with_reducible rfl)
      (try simp only [Act.put, List.setIfInBounds_toArray, List.set_cons_zero, List.set_cons_succ])
      refine wpAnyH_take (i := 1) (oi := ({ dst := some 27, op := Go.Op.load 4 (Go.Operand.tmp 26), type := 4, pos := "number.go:54", after := #[{ on := 0, ground := Go.Ground.data }], guard := none } : Oper)) (v := ?v1_2lf) rfl (by kernel_rfl) (by kernel_rfl) (by kernel_rfl) (fun _ _ _ h => h) (Or.inl ⟨by rfl, ?hy1_2lf⟩) (by assumption) ?re1_2lf
      case hy1_2lf => ((intro w hSw; obtain ⟨q1, q2⟩ := hSw; have e1 := q1.c0; have e2 := q1.c1; have e3 := q2.c0; have e4 := q2.c1; go_simp) <;> with_reducible rfl)
      (try simp only [Act.put, List.setIfInBounds_toArray, List.set_cons_zero, List.set_cons_succ])
      refine wpAnyH_take (i := 2) (oi := ({ dst := some 28, op := Go.Op.fieldAddr 49 (Go.Operand.tmp 2) 1, type := 0, pos := "number.go:54", after := #[], guard := none } : Oper)) (v := ?v2_3lf) rfl (by kernel_rfl) (by kernel_rfl) (by kernel_rfl) (fun _ _ _ h => h) (Or.inl ⟨by rfl, ?hy2_3lf⟩) (by assumption) ?re2_3lf
      case hy2_3lf => ((intro w hSw; obtain ⟨q1, q2⟩ := hSw; have e1 := q1.c0; have e2 := q1.c1; have e3 := q2.c0; have e4 := q2.c1; go_simp) <;> with_reducible rfl)
      (try simp only [Act.put, List.setIfInBounds_toArray, List.set_cons_zero, List.set_cons_succ])
      refine wpAnyH_take (i := 3) (oi := ({ dst := some 29, op := Go.Op.load 47 (Go.Operand.tmp 28), type := 47, pos := "number.go:54", after := #[{ on := 2, ground := Go.Ground.data }], guard := none } : Oper)) (v := ?v3_4lf) rfl (by kernel_rfl) (by kernel_rfl) (by kernel_rfl) (fun _ _ _ h => h) (Or.inl ⟨by rfl, ?hy3_4lf⟩) (by assumption) ?re3_4lf
      case hy3_4lf => ((intro w hSw; obtain ⟨q1, q2⟩ := hSw; have e1 := q1.c0; have e2 := q1.c1; have e3 := q2.c0; have e4 := q2.c1; go_simp) <;> with_reducible rfl)
      (try simp only [Act.put, List.setIfInBounds_toArray, List.set_cons_zero, List.set_cons_succ])
      refine wpAnyH_take (i := 4) (oi := ({ dst := some 30, op := Go.Op.fieldAddr 49 (Go.Operand.tmp 3) 1, type := 0, pos := "number.go:54", after := #[], guard := none } : Oper)) (v := ?v4_5lf) rfl (by kernel_rfl) (by kernel_rfl) (by kernel_rfl) (fun _ _ _ h => h) (Or.inl ⟨by rfl, ?hy4_5lf⟩) (by assumption) ?re4_5lf
      case hy4_5lf => ((intro w hSw; obtain ⟨q1, q2⟩ := hSw; have e1 := q1.c0; have e2 := q1.c1; have e3 := q2.c0; have e4 := q2.c1; go_simp) <;> with_reducible rfl)
      (try simp only [Act.put, List.setIfInBounds_toArray, List.set_cons_zero, List.set_cons_succ])
      refine wpAnyH_take (i := 5) (oi := ({ dst := some 31, op := Go.Op.load 47 (Go.Operand.tmp 30), type := 47, pos := "number.go:54", after := #[{ on := 4, ground := Go.Ground.data }], guard := none } : Oper)) (v := ?v5_6lf) rfl (by kernel_rfl) (by kernel_rfl) (by kernel_rfl) (fun _ _ _ h => h) (Or.inl ⟨by rfl, ?hy5_6lf⟩) (by assumption) ?re5_6lf
      case hy5_6lf => ((intro w hSw; obtain ⟨q1, q2⟩ := hSw; have e1 := q1.c0; have e2 := q1.c1; have e3 := q2.c0; have e4 := q2.c1; go_simp) <;> with_reducible rfl)
      (try simp only [Act.put, List.setIfInBounds_toArray, List.set_cons_zero, List.set_cons_succ])
      refine wpAnyH_ready (rs := [6]) (by kernel_rfl) (by simp) ?_
      refine AllReadyH.cons (o := ({ dst := some 32, op := Go.Op.call { callee := Go.Callee.value (Go.Operand.func 58), args := #[Go.Operand.tmp 29, Go.Operand.tmp 31], argTypes := #[47, 47] }, type := 47, pos := "number.go:54", after := #[{ on := 3, ground := Go.Ground.data }, { on := 5, ground := Go.Ground.data }], guard := none } : Oper)) rfl (fun K hK => ?_) ?_
      · go_simp
        go_at_call 58
        refine (CN.out _ (Nat.le_of_lt hXY) (Hm1.out.below (Below.refl _ _).drew) (Hm2.out.below (Below.refl _ _).drew)).mono ?_
        rintro e w1 ⟨g, rfl, n1, B1⟩
        have hW1 := HW.out.keep (drew_left B1) HS.out; have N1 := Lib.hid n1; have BB1 := Lib.hid (HB.out.trans ((drew_left B1).mono HB.out.size)); have HW1' := Lib.hid hW1; clear n1 hW1
        (try go_wp2_with fail)
        refine hK.out _ _ ?_ (fun hHeld => ?_)
        · exact ⟨hHeld.1.keep B1 hHeld.1.lt, hHeld.2.keep B1 hHeld.2.lt⟩
        clear hK K
        (try simp only [Act.put, List.setIfInBounds_toArray, List.set_cons_zero, List.set_cons_succ])
        refine wpAnyH_ready (rs := [7]) (by kernel_rfl) (by simp) ?_
        refine AllReadyH.cons (o := ({ dst := some 33, op := Go.Op.call { callee := Go.Callee.value (Go.Operand.func 55), args := #[Go.Operand.tmp 27, Go.Operand.tmp 32], argTypes := #[4, 47] }, type := 49, pos := "number.go:54", after := #[{ on := 1, ground := Go.Ground.data }, { on := 6, ground := Go.Ground.data }, { on := 6, ground := Go.Ground.chain }], guard := none } : Oper)) rfl (fun K hK => ?_) ?_
        · go_simp
          go_at_call 55
          refine (CS.out _ _ _ _ N1.out hgN).mono ?_
          rintro e w2 ⟨q, a, k, c, rfl, hq, n2, B2⟩
          have h0 := HW1'.out.keep B2 HW1'.out.lt; have c0 := h0.c0; have f0 := h0.f 0; have c1' := h0.c1; have N2 := Lib.hid (fun j (hj : 2 ≤ j) => h0.c2 hj); have hA := h0.s0 (.bool q); have c1 := hA.c1; have f1 := hA.f 1; have HA := Lib.hid (hA.s1 (.slice a k c)); clear hA; have HN2 := Lib.hid n2; have BB2 := Lib.hid (BB1.out.trans (B2.mono BB1.out.size)); have HZ := Lib.hid hq; clear h0 n2 hq
          (try go_wp2_with fail)
          refine hK.out _ _ ?_ (fun hHeld => ?_)
          · exact ⟨hHeld.1.keep B2 hHeld.1.lt, hHeld.2.keep B2 hHeld.2.lt⟩
          clear hK K
          (try simp only [Act.put, List.setIfInBounds_toArray, List.set_cons_zero, List.set_cons_succ])
          refine wpAnyH_ready (rs := [8]) (by kernel_rfl) (by simp) ?_
          refine AllReadyH.cons (o := ({ dst := none, op := Go.Op.store 49 (Go.Operand.tmp 4) (Go.Operand.tmp 33), type := 0, pos := "number.go:54", after := #[{ on := 7, ground := Go.Ground.data }, { on := 7, ground := Go.Ground.chain }, { on := 0, ground := Go.Ground.phase }, { on := 1, ground := Go.Ground.phase }, { on := 2, ground := Go.Ground.phase }, { on := 3, ground := Go.Ground.phase }, { on := 4, ground := Go.Ground.phase }, { on := 5, ground := Go.Ground.phase }, { on := 6, ground := Go.Ground.phase }, { on := 7, ground := Go.Ground.phase }], guard := none } : Oper)) rfl (fun K hK => ?_) ?_
          · go_simp
            refine hK.out _ _ ?_ (fun hHeld => ?_)
            · exact ⟨(hHeld.1.far (by omega)).far (by omega), (hHeld.2.far (by omega)).far (by omega)⟩
            clear hK K
            (try simp only [Act.put, List.setIfInBounds_toArray, List.set_cons_zero, List.set_cons_succ])
            refine wpAnyH_done (by kernel_rfl) ?_ _
            refine NoPanic.normal ?_
            go_wp2_with fail
            have hB9 := (BB2.out.setCell (p := ⟨w.heap.size + 1 + 1, 0, none⟩) (by show w.heap.size ≤ w.heap.size + 1 + 1; omega) (.bool q)).setCell (p := ⟨w.heap.size + 1 + 1, 1, none⟩) (by show w.heap.size ≤ w.heap.size + 1 + 1; omega) (.slice a k c)
            have hN9 := HN2.out.over (w2 := (w2.setCell ⟨w.heap.size + 1 + 1, 0, none⟩ (.bool q)).setCell ⟨w.heap.size + 1 + 1, 1, none⟩ (.slice a k c)) c0 c1' (fun q hq => (Below.heap_setCell _ _ _ _ hq).trans (Below.heap_setCell _ _ _ _ hq)) (by simp [World.setCell]) N2.out (fun x e => by cases e)
            refine bodyPost_ret (results_cell_row rfl _ _ (w.heap.size + 1 + 1) 49 #[.bool q, .slice a k c] (0, 0) _ rfl HA.out Tryz.underlying49 rfl info_number) rfl ?_
            exact ⟨_, rfl, ⟨.slice a k c, by rw [sign_true (s := s) (M := (Y - X)) (by have := HSS.out; (try simp only [if_true] at this); (try simp only [if_false, Bool.false_eq_true] at this); omega), HZ.out], by rw [show s.natAbs = Y - X from by have := HSS.out; (try simp only [if_true] at this); (try simp only [if_false, Bool.false_eq_true] at this); omega]; exact hN9⟩, hB9⟩
          exact AllReadyH.nil
        exact AllReadyH.nil
      exact AllReadyH.nil
    · rcases Nat.eq_or_lt_of_le hXY with hE | hE
      · have hc : cmpN (X : Int) (Y : Int) = 0 := by rw [cmpN, if_neg (by omega), if_neg (by omega)]
        rw [hc] at CC
        clear hc hE
        go_enter Tryz.func31, Tryz.ntmps31
        have hB3 := (((below_alloc w (.cells #[.bool false, .slice a1 k1 c1] 49)).alloc (by simp only [World.size_alloc]; omega) (.cells #[.bool true, .slice a2 k2 c2] 49)).alloc (by simp only [World.size_alloc]; omega) (.cells #[.bool false, .slice none 0 0] 49))
        obtain ⟨hW0, hW1, hW⟩ := three_blocks w (.bool false) (.slice a1 k1 c1) (.bool true) (.slice a2 k2 c2) (.bool false) (.slice none 0 0)
        have HS := Lib.hid hW.lt
        have HB := Lib.hid hB3
        have HW := Lib.hid hW
        have HW0 := Lib.hid hW0
        have HW1 := Lib.hid hW1
        clear hB3 hW hW0 hW1
        go_wp2_with (go_at_call 57; go_loud ((with_reducible refine (CC.out _ (H1.out.below HB.out) (H2.out.below HB.out)).mono ?_); rintro e w1 ⟨rfl, B1⟩; have hW0' := HW0.out.keep B1 (by have := HS.out; omega); have hW1' := HW1.out.keep B1 (by have := HS.out; omega); have hW' := HW.out.keep B1 HS.out; have hs1 := Nat.lt_of_lt_of_le HS.out B1.size; have hB' := HB.out.trans (B1.mono HB.out.size); have n1 := H1.out.below hB'; have n2 := H2.out.below hB'; have HS' := Lib.hid hs1; clear hs1; clear HW HW0 HW1 HS HB; have HS := Lib.hid HS'.out; have HW := Lib.hid hW'; have HW0 := Lib.hid hW0'; have HW1 := Lib.hid hW1'; have HB := Lib.hid hB'; have Hm1 := Lib.hid n1; have Hm2 := Lib.hid n2; clear n1 n2 hB' hW0' hW1' hW' HS' B1))
        refine wp_region_noPanic ?_
        refine wp_region_held_drew (S := fun W => NBlk W w.heap.size (.bool false) (.slice a1 k1 c1) ∧ NBlk W (w.heap.size + 1) (.bool true) (.slice a2 k2 c2)) (by kernel_rfl) ?_ (fun hHeld => ?_)
        · exact ⟨HW0.out, HW1.out⟩
        refine wpAnyH_take (i := 0) (oi := ({ dst := some 26, op := Go.Op.fieldAddr 49 (Go.Operand.tmp 2) 0, type := 0, pos := "number.go:54", after := #[], guard := none } : Oper)) (v := ?v0_1ef) rfl (by kernel_rfl) (by kernel_rfl) (by kernel_rfl) (fun _ _ _ h => h) (Or.inl ⟨by rfl, ?hy0_1ef⟩) (by assumption) ?re0_1ef
        case hy0_1ef => ((intro w hSw; obtain ⟨q1, q2⟩ := hSw; have e1 := q1.c0; have e2 := q1.c1; have e3 := q2.c0; have e4 := q2.c1; go_simp) <;> with_reducible rfl)
        (try simp only [Act.put, List.setIfInBounds_toArray, List.set_cons_zero, List.set_cons_succ])
        refine wpAnyH_take (i := 1) (oi := ({ dst := some 27, op := Go.Op.load 4 (Go.Operand.tmp 26), type := 4, pos := "number.go:54", after := #[{ on := 0, ground := Go.Ground.data }], guard := none } : Oper)) (v := ?v1_2ef) rfl (by kernel_rfl) (by kernel_rfl) (by kernel_rfl) (fun _ _ _ h => h) (Or.inl ⟨by rfl, ?hy1_2ef⟩) (by assumption) ?re1_2ef
        case hy1_2ef => ((intro w hSw; obtain ⟨q1, q2⟩ := hSw; have e1 := q1.c0; have e2 := q1.c1; have e3 := q2.c0; have e4 := q2.c1; go_simp) <;> with_reducible rfl)
        (try simp only [Act.put, List.setIfInBounds_toArray, List.set_cons_zero, List.set_cons_succ])
        refine wpAnyH_take (i := 2) (oi := ({ dst := some 28, op := Go.Op.fieldAddr 49 (Go.Operand.tmp 2) 1, type := 0, pos := "number.go:54", after := #[], guard := none } : Oper)) (v := ?v2_3ef) rfl (by kernel_rfl) (by kernel_rfl) (by kernel_rfl) (fun _ _ _ h => h) (Or.inl ⟨by rfl, ?hy2_3ef⟩) (by assumption) ?re2_3ef
        case hy2_3ef => ((intro w hSw; obtain ⟨q1, q2⟩ := hSw; have e1 := q1.c0; have e2 := q1.c1; have e3 := q2.c0; have e4 := q2.c1; go_simp) <;> with_reducible rfl)
        (try simp only [Act.put, List.setIfInBounds_toArray, List.set_cons_zero, List.set_cons_succ])
        refine wpAnyH_take (i := 3) (oi := ({ dst := some 29, op := Go.Op.load 47 (Go.Operand.tmp 28), type := 47, pos := "number.go:54", after := #[{ on := 2, ground := Go.Ground.data }], guard := none } : Oper)) (v := ?v3_4ef) rfl (by kernel_rfl) (by kernel_rfl) (by kernel_rfl) (fun _ _ _ h => h) (Or.inl ⟨by rfl, ?hy3_4ef⟩) (by assumption) ?re3_4ef
        case hy3_4ef => ((intro w hSw; obtain ⟨q1, q2⟩ := hSw; have e1 := q1.c0; have e2 := q1.c1; have e3 := q2.c0; have e4 := q2.c1; go_simp) <;> with_reducible rfl)
        (try simp only [Act.put, List.setIfInBounds_toArray, List.set_cons_zero, List.set_cons_succ])
        refine wpAnyH_take (i := 4) (oi := ({ dst := some 30, op := Go.Op.fieldAddr 49 (Go.Operand.tmp 3) 1, type := 0, pos := "number.go:54", after := #[], guard := none } : Oper)) (v := ?v4_5ef) rfl (by kernel_rfl) (by kernel_rfl) (by kernel_rfl) (fun _ _ _ h => h) (Or.inl ⟨by rfl, ?hy4_5ef⟩) (by assumption) ?re4_5ef
        case hy4_5ef => ((intro w hSw; obtain ⟨q1, q2⟩ := hSw; have e1 := q1.c0; have e2 := q1.c1; have e3 := q2.c0; have e4 := q2.c1; go_simp) <;> with_reducible rfl)
        (try simp only [Act.put, List.setIfInBounds_toArray, List.set_cons_zero, List.set_cons_succ])
        refine wpAnyH_take (i := 5) (oi := ({ dst := some 31, op := Go.Op.load 47 (Go.Operand.tmp 30), type := 47, pos := "number.go:54", after := #[{ on := 4, ground := Go.Ground.data }], guard := none } : Oper)) (v := ?v5_6ef) rfl (by kernel_rfl) (by kernel_rfl) (by kernel_rfl) (fun _ _ _ h => h) (Or.inl ⟨by rfl, ?hy5_6ef⟩) (by assumption) ?re5_6ef
        case hy5_6ef => ((intro w hSw; obtain ⟨q1, q2⟩ := hSw; have e1 := q1.c0; have e2 := q1.c1; have e3 := q2.c0; have e4 := q2.c1; go_simp) <;> with_reducible rfl)
        (try simp only [Act.put, List.setIfInBounds_toArray, List.set_cons_zero, List.set_cons_succ])
        refine wpAnyH_ready (rs := [6]) (by kernel_rfl) (by simp) ?_
        refine AllReadyH.cons (o := ({ dst := some 32, op := Go.Op.call { callee := Go.Callee.value (Go.Operand.func 58), args := #[Go.Operand.tmp 29, Go.Operand.tmp 31], argTypes := #[47, 47] }, type := 47, pos := "number.go:54", after := #[{ on := 3, ground := Go.Ground.data }, { on := 5, ground := Go.Ground.data }], guard := none } : Oper)) rfl (fun K hK => ?_) ?_
        · go_simp
          go_at_call 58
          refine (CM.out _ hXY (Hm1.out.below (Below.refl _ _).drew) (Hm2.out.below (Below.refl _ _).drew)).mono ?_
          rintro e w1 ⟨g, rfl, n1, B1⟩
          have hW1 := HW.out.keep (drew_left B1) HS.out; have N1 := Lib.hid n1; have BB1 := Lib.hid (HB.out.trans ((drew_left B1).mono HB.out.size)); have HW1' := Lib.hid hW1; clear n1 hW1
          (try go_wp2_with fail)
          refine hK.out _ _ ?_ (fun hHeld => ?_)
          · exact ⟨hHeld.1.keep B1 hHeld.1.lt, hHeld.2.keep B1 hHeld.2.lt⟩
          clear hK K
          (try simp only [Act.put, List.setIfInBounds_toArray, List.set_cons_zero, List.set_cons_succ])
          refine wpAnyH_ready (rs := [7]) (by kernel_rfl) (by simp) ?_
          refine AllReadyH.cons (o := ({ dst := some 33, op := Go.Op.call { callee := Go.Callee.value (Go.Operand.func 55), args := #[Go.Operand.tmp 27, Go.Operand.tmp 32], argTypes := #[4, 47] }, type := 49, pos := "number.go:54", after := #[{ on := 1, ground := Go.Ground.data }, { on := 6, ground := Go.Ground.data }, { on := 6, ground := Go.Ground.chain }], guard := none } : Oper)) rfl (fun K hK => ?_) ?_
          · go_simp
            go_at_call 55
            refine (CS.out _ _ _ _ N1.out hgM).mono ?_
            rintro e w2 ⟨q, a, k, c, rfl, hq, n2, B2⟩
            have h0 := HW1'.out.keep B2 HW1'.out.lt; have c0 := h0.c0; have f0 := h0.f 0; have c1' := h0.c1; have N2 := Lib.hid (fun j (hj : 2 ≤ j) => h0.c2 hj); have hA := h0.s0 (.bool q); have c1 := hA.c1; have f1 := hA.f 1; have HA := Lib.hid (hA.s1 (.slice a k c)); clear hA; have HN2 := Lib.hid n2; have BB2 := Lib.hid (BB1.out.trans (B2.mono BB1.out.size)); have HZ := Lib.hid hq; clear h0 n2 hq
            (try go_wp2_with fail)
            refine hK.out _ _ ?_ (fun hHeld => ?_)
            · exact ⟨hHeld.1.keep B2 hHeld.1.lt, hHeld.2.keep B2 hHeld.2.lt⟩
            clear hK K
            (try simp only [Act.put, List.setIfInBounds_toArray, List.set_cons_zero, List.set_cons_succ])
            refine wpAnyH_ready (rs := [8]) (by kernel_rfl) (by simp) ?_
            refine AllReadyH.cons (o := ({ dst := none, op := Go.Op.store 49 (Go.Operand.tmp 4) (Go.Operand.tmp 33), type := 0, pos := "number.go:54", after := #[{ on := 7, ground := Go.Ground.data }, { on := 7, ground := Go.Ground.chain }, { on := 0, ground := Go.Ground.phase }, { on := 1, ground := Go.Ground.phase }, { on := 2, ground := Go.Ground.phase }, { on := 3, ground := Go.Ground.phase }, { on := 4, ground := Go.Ground.phase }, { on := 5, ground := Go.Ground.phase }, { on := 6, ground := Go.Ground.phase }, { on := 7, ground := Go.Ground.phase }], guard := none } : Oper)) rfl (fun K hK => ?_) ?_
            · go_simp
              refine hK.out _ _ ?_ (fun hHeld => ?_)
              · exact ⟨(hHeld.1.far (by omega)).far (by omega), (hHeld.2.far (by omega)).far (by omega)⟩
              clear hK K
              (try simp only [Act.put, List.setIfInBounds_toArray, List.set_cons_zero, List.set_cons_succ])
              refine wpAnyH_done (by kernel_rfl) ?_ _
              refine NoPanic.normal ?_
              go_wp2_with fail
              have hB9 := (BB2.out.setCell (p := ⟨w.heap.size + 1 + 1, 0, none⟩) (by show w.heap.size ≤ w.heap.size + 1 + 1; omega) (.bool q)).setCell (p := ⟨w.heap.size + 1 + 1, 1, none⟩) (by show w.heap.size ≤ w.heap.size + 1 + 1; omega) (.slice a k c)
              have hN9 := HN2.out.over (w2 := (w2.setCell ⟨w.heap.size + 1 + 1, 0, none⟩ (.bool q)).setCell ⟨w.heap.size + 1 + 1, 1, none⟩ (.slice a k c)) c0 c1' (fun q hq => (Below.heap_setCell _ _ _ _ hq).trans (Below.heap_setCell _ _ _ _ hq)) (by simp [World.setCell]) N2.out (fun x e => by cases e)
              refine bodyPost_ret (results_cell_row rfl _ _ (w.heap.size + 1 + 1) 49 #[.bool q, .slice a k c] (0, 0) _ rfl HA.out Tryz.underlying49 rfl info_number) rfl ?_
              exact ⟨_, rfl, ⟨.slice a k c, by rw [sign_false (s := s) (M := (X - Y)) (by have := HSS.out; (try simp only [if_true] at this); (try simp only [if_false, Bool.false_eq_true] at this); omega), HZ.out], by rw [show s.natAbs = X - Y from by have := HSS.out; (try simp only [if_true] at this); (try simp only [if_false, Bool.false_eq_true] at this); omega]; exact hN9⟩, hB9⟩
            exact AllReadyH.nil
          exact AllReadyH.nil
        exact AllReadyH.nil
      · have hc : cmpN (X : Int) (Y : Int) = 1 := by rw [cmpN, if_neg (by omega), if_pos (by omega)]
        rw [hc] at CC
        clear hc hE
        go_enter Tryz.func31, Tryz.ntmps31
        have hB3 := (((below_alloc w (.cells #[.bool false, .slice a1 k1 c1] 49)).alloc (by simp only [World.size_alloc]; omega) (.cells #[.bool true, .slice a2 k2 c2] 49)).alloc (by simp only [World.size_alloc]; omega) (.cells #[.bool false, .slice none 0 0] 49))
        obtain ⟨hW0, hW1, hW⟩ := three_blocks w (.bool false) (.slice a1 k1 c1) (.bool true) (.slice a2 k2 c2) (.bool false) (.slice none 0 0)
        have HS := Lib.hid hW.lt
        have HB := Lib.hid hB3
        have HW := Lib.hid hW
        have HW0 := Lib.hid hW0
        have HW1 := Lib.hid hW1
        clear hB3 hW hW0 hW1
        go_wp2_with (go_at_call 57; go_loud ((with_reducible refine (CC.out _ (H1.out.below HB.out) (H2.out.below HB.out)).mono ?_); rintro e w1 ⟨rfl, B1⟩; have hW0' := HW0.out.keep B1 (by have := HS.out; omega); have hW1' := HW1.out.keep B1 (by have := HS.out; omega); have hW' := HW.out.keep B1 HS.out; have hs1 := Nat.lt_of_lt_of_le HS.out B1.size; have hB' := HB.out.trans (B1.mono HB.out.size); have n1 := H1.out.below hB'; have n2 := H2.out.below hB'; have HS' := Lib.hid hs1; clear hs1; clear HW HW0 HW1 HS HB; have HS := Lib.hid HS'.out; have HW := Lib.hid hW'; have HW0 := Lib.hid hW0'; have HW1 := Lib.hid hW1'; have HB := Lib.hid hB'; have Hm1 := Lib.hid n1; have Hm2 := Lib.hid n2; clear n1 n2 hB' hW0' hW1' hW' HS' B1))
        refine wp_region_noPanic ?_
        refine wp_region_held_drew (S := fun W => NBlk W w.heap.size (.bool false) (.slice a1 k1 c1) ∧ NBlk W (w.heap.size + 1) (.bool true) (.slice a2 k2 c2)) (by kernel_rfl) ?_ (fun hHeld => ?_)
        · exact ⟨HW0.out, HW1.out⟩
        refine wpAnyH_take (i := 0) (oi := ({ dst := some 26, op := Go.Op.fieldAddr 49 (Go.Operand.tmp 2) 0, type := 0, pos := "number.go:54", after := #[], guard := none } : Oper)) (v := ?v0_1gf) rfl (by kernel_rfl) (by kernel_rfl) (by kernel_rfl) (fun _ _ _ h => h) (Or.inl ⟨by rfl, ?hy0_1gf⟩) (by assumption) ?re0_1gf
        case hy0_1gf => ((intro w hSw; obtain ⟨q1, q2⟩ := hSw; have e1 := q1.c0; have e2 := q1.c1; have e3 := q2.c0; have e4 := q2.c1; go_simp) <;> with_reducible rfl)
        (try simp only [Act.put, List.setIfInBounds_toArray, List.set_cons_zero, List.set_cons_succ])
        refine wpAnyH_take (i := 1) (oi := ({ dst := some 27, op := Go.Op.load 4 (Go.Operand.tmp 26), type := 4, pos := "number.go:54", after := #[{ on := 0, ground := Go.Ground.data }], guard := none } : Oper)) (v := ?v1_2gf) rfl (by kernel_rfl) (by kernel_rfl) (by kernel_rfl) (fun _ _ _ h => h) (Or.inl ⟨by rfl, ?hy1_2gf⟩) (by assumption) ?re1_2gf
        case hy1_2gf => ((intro w hSw; obtain ⟨q1, q2⟩ := hSw; have e1 := q1.c0; have e2 := q1.c1; have e3 := q2.c0; have e4 := q2.c1; go_simp) <;> with_reducible rfl)
        (try simp only [Act.put, List.setIfInBounds_toArray, List.set_cons_zero, List.set_cons_succ])
        refine wpAnyH_take (i := 2) (oi := ({ dst := some 28, op := Go.Op.fieldAddr 49 (Go.Operand.tmp 2) 1, type := 0, pos := "number.go:54", after := #[], guard := none } : Oper)) (v := ?v2_3gf) rfl (by kernel_rfl) (by kernel_rfl) (by kernel_rfl) (fun _ _ _ h => h) (Or.inl ⟨by rfl, ?hy2_3gf⟩) (by assumption) ?re2_3gf
        case hy2_3gf => ((intro w hSw; obtain ⟨q1, q2⟩ := hSw; have e1 := q1.c0; have e2 := q1.c1; have e3 := q2.c0; have e4 := q2.c1; go_simp) <;> with_reducible rfl)
        (try simp only [Act.put, List.setIfInBounds_toArray, List.set_cons_zero, List.set_cons_succ])
        refine wpAnyH_take (i := 3) (oi := ({ dst := some 29, op := Go.Op.load 47 (Go.Operand.tmp 28), type := 47, pos := "number.go:54", after := #[{ on := 2, ground := Go.Ground.data }], guard := none } : Oper)) (v := ?v3_4gf) rfl (by kernel_rfl) (by kernel_rfl) (by kernel_rfl) (fun _ _ _ h => h) (Or.inl ⟨by rfl, ?hy3_4gf⟩) (by assumption) ?re3_4gf
        case hy3_4gf => ((intro w hSw; obtain ⟨q1, q2⟩ := hSw; have e1 := q1.c0; have e2 := q1.c1; have e3 := q2.c0; have e4 := q2.c1; go_simp) <;> with_reducible rfl)
        (try simp only [Act.put, List.setIfInBounds_toArray, List.set_cons_zero, List.set_cons_succ])
        refine wpAnyH_take (i := 4) (oi := ({ dst := some 30, op := Go.Op.fieldAddr 49 (Go.Operand.tmp 3) 1, type := 0, pos := "number.go:54", after := #[], guard := none } : Oper)) (v := ?v4_5gf) rfl (by kernel_rfl) (by kernel_rfl) (by kernel_rfl) (fun _ _ _ h => h) (Or.inl ⟨by rfl, ?hy4_5gf⟩) (by assumption) ?re4_5gf
        case hy4_5gf => ((intro w hSw; obtain ⟨q1, q2⟩ := hSw; have e1 := q1.c0; have e2 := q1.c1; have e3 := q2.c0; have e4 := q2.c1; go_simp) <;> with_reducible rfl)
        (try simp only [Act.put, List.setIfInBounds_toArray, List.set_cons_zero, List.set_cons_succ])
        refine wpAnyH_take (i := 5) (oi := ({ dst := some 31, op := Go.Op.load 47 (Go.Operand.tmp 30), type := 47, pos := "number.go:54", after := #[{ on := 4, ground := Go.Ground.data }], guard := none } : Oper)) (v := ?v5_6gf) rfl (by kernel_rfl) (by kernel_rfl) (by kernel_rfl) (fun _ _ _ h => h) (Or.inl ⟨by rfl, ?hy5_6gf⟩) (by assumption) ?re5_6gf
        case hy5_6gf => ((intro w hSw; obtain ⟨q1, q2⟩ := hSw; have e1 := q1.c0; have e2 := q1.c1; have e3 := q2.c0; have e4 := q2.c1; go_simp) <;> with_reducible rfl)
        (try simp only [Act.put, List.setIfInBounds_toArray, List.set_cons_zero, List.set_cons_succ])
        refine wpAnyH_ready (rs := [6]) (by kernel_rfl) (by simp) ?_
        refine AllReadyH.cons (o := ({ dst := some 32, op := Go.Op.call { callee := Go.Callee.value (Go.Operand.func 58), args := #[Go.Operand.tmp 29, Go.Operand.tmp 31], argTypes := #[47, 47] }, type := 47, pos := "number.go:54", after := #[{ on := 3, ground := Go.Ground.data }, { on := 5, ground := Go.Ground.data }], guard := none } : Oper)) rfl (fun K hK => ?_) ?_
        · go_simp
          go_at_call 58
          refine (CM.out _ hXY (Hm1.out.below (Below.refl _ _).drew) (Hm2.out.below (Below.refl _ _).drew)).mono ?_
          rintro e w1 ⟨g, rfl, n1, B1⟩
          have hW1 := HW.out.keep (drew_left B1) HS.out; have N1 := Lib.hid n1; have BB1 := Lib.hid (HB.out.trans ((drew_left B1).mono HB.out.size)); have HW1' := Lib.hid hW1; clear n1 hW1
          (try go_wp2_with fail)
          refine hK.out _ _ ?_ (fun hHeld => ?_)
          · exact ⟨hHeld.1.keep B1 hHeld.1.lt, hHeld.2.keep B1 hHeld.2.lt⟩
          clear hK K
          (try simp only [Act.put, List.setIfInBounds_toArray, List.set_cons_zero, List.set_cons_succ])
          refine wpAnyH_ready (rs := [7]) (by kernel_rfl) (by simp) ?_
          refine AllReadyH.cons (o := ({ dst := some 33, op := Go.Op.call { callee := Go.Callee.value (Go.Operand.func 55), args := #[Go.Operand.tmp 27, Go.Operand.tmp 32], argTypes := #[4, 47] }, type := 49, pos := "number.go:54", after := #[{ on := 1, ground := Go.Ground.data }, { on := 6, ground := Go.Ground.data }, { on := 6, ground := Go.Ground.chain }], guard := none } : Oper)) rfl (fun K hK => ?_) ?_
          · go_simp
            go_at_call 55
            refine (CS.out _ _ _ _ N1.out hgM).mono ?_
            rintro e w2 ⟨q, a, k, c, rfl, hq, n2, B2⟩
            have h0 := HW1'.out.keep B2 HW1'.out.lt; have c0 := h0.c0; have f0 := h0.f 0; have c1' := h0.c1; have N2 := Lib.hid (fun j (hj : 2 ≤ j) => h0.c2 hj); have hA := h0.s0 (.bool q); have c1 := hA.c1; have f1 := hA.f 1; have HA := Lib.hid (hA.s1 (.slice a k c)); clear hA; have HN2 := Lib.hid n2; have BB2 := Lib.hid (BB1.out.trans (B2.mono BB1.out.size)); have HZ := Lib.hid hq; clear h0 n2 hq
            (try go_wp2_with fail)
            refine hK.out _ _ ?_ (fun hHeld => ?_)
            · exact ⟨hHeld.1.keep B2 hHeld.1.lt, hHeld.2.keep B2 hHeld.2.lt⟩
            clear hK K
            (try simp only [Act.put, List.setIfInBounds_toArray, List.set_cons_zero, List.set_cons_succ])
            refine wpAnyH_ready (rs := [8]) (by kernel_rfl) (by simp) ?_
            refine AllReadyH.cons (o := ({ dst := none, op := Go.Op.store 49 (Go.Operand.tmp 4) (Go.Operand.tmp 33), type := 0, pos := "number.go:54", after := #[{ on := 7, ground := Go.Ground.data }, { on := 7, ground := Go.Ground.chain }, { on := 0, ground := Go.Ground.phase }, { on := 1, ground := Go.Ground.phase }, { on := 2, ground := Go.Ground.phase }, { on := 3, ground := Go.Ground.phase }, { on := 4, ground := Go.Ground.phase }, { on := 5, ground := Go.Ground.phase }, { on := 6, ground := Go.Ground.phase }, { on := 7, ground := Go.Ground.phase }], guard := none } : Oper)) rfl (fun K hK => ?_) ?_
            · go_simp
              refine hK.out _ _ ?_ (fun hHeld => ?_)
              · exact ⟨(hHeld.1.far (by omega)).far (by omega), (hHeld.2.far (by omega)).far (by omega)⟩
              clear hK K
              (try simp only [Act.put, List.setIfInBounds_toArray, List.set_cons_zero, List.set_cons_succ])
              refine wpAnyH_done (by kernel_rfl) ?_ _
              refine NoPanic.normal ?_
              go_wp2_with fail
              have hB9 := (BB2.out.setCell (p := ⟨w.heap.size + 1 + 1, 0, none⟩) (by show w.heap.size ≤ w.heap.size + 1 + 1; omega) (.bool q)).setCell (p := ⟨w.heap.size + 1 + 1, 1, none⟩) (by show w.heap.size ≤ w.heap.size + 1 + 1; omega) (.slice a k c)
              have hN9 := HN2.out.over (w2 := (w2.setCell ⟨w.heap.size + 1 + 1, 0, none⟩ (.bool q)).setCell ⟨w.heap.size + 1 + 1, 1, none⟩ (.slice a k c)) c0 c1' (fun q hq => (Below.heap_setCell _ _ _ _ hq).trans (Below.heap_setCell _ _ _ _ hq)) (by simp [World.setCell]) N2.out (fun x e => by cases e)
              refine bodyPost_ret (results_cell_row rfl _ _ (w.heap.size + 1 + 1) 49 #[.bool q, .slice a k c] (0, 0) _ rfl HA.out Tryz.underlying49 rfl info_number) rfl ?_
              exact ⟨_, rfl, ⟨.slice a k c, by rw [sign_false (s := s) (M := (X - Y)) (by have := HSS.out; (try simp only [if_true] at this); (try simp only [if_false, Bool.false_eq_true] at this); omega), HZ.out], by rw [show s.natAbs = X - Y from by have := HSS.out; (try simp only [if_true] at this); (try simp only [if_false, Bool.false_eq_true] at this); omega]; exact hN9⟩, hB9⟩
            exact AllReadyH.nil
          exact AllReadyH.nil
        exact AllReadyH.nil
  · rcases Nat.lt_or_ge X Y with hXY | hXY
    · have hc : cmpN (X : Int) (Y : Int) = -1 := by rw [cmpN, if_pos (by omega)]
      rw [hc] at CC
      clear hc
      go_enter Tryz.func31, Tryz.ntmps31
      have hB3 := (((below_alloc w (.cells #[.bool true, .slice a1 k1 c1] 49)).alloc (by simp only [World.size_alloc]; omega) (.cells #[.bool false, .slice a2 k2 c2] 49)).alloc (by simp only [World.size_alloc]; omega) (.cells #[.bool false, .slice none 0 0] 49))
      obtain ⟨hW0, hW1, hW⟩ := three_blocks w (.bool true) (.slice a1 k1 c1) (.bool false) (.slice a2 k2 c2) (.bool false) (.slice none 0 0)
      have HS := Lib.hid hW.lt
      have HB := Lib.hid hB3
      have HW := Lib.hid hW
      have HW0 := Lib.hid hW0
      have HW1 := Lib.hid hW1
      clear hB3 hW hW0 hW1
      go_wp2_with (go_at_call 57; go_loud ((with_reducible refine (CC.out _ (H1.out.below HB.out) (H2.out.below HB.out)).mono ?_); rintro e w1 ⟨rfl, B1⟩; have hW0' := HW0.out.keep B1 (by have := HS.out; omega); have hW1' := HW1.out.keep B1 (by have := HS.out; omega); have hW' := HW.out.keep B1 HS.out; have hs1 := Nat.lt_of_lt_of_le HS.out B1.size; have hB' := HB.out.trans (B1.mono HB.out.size); have n1 := H1.out.below hB'; have n2 := H2.out.below hB'; have HS' := Lib.hid hs1; clear hs1; have r0 := hW0'.c0; have r1 := hW0'.c1; have r2 := hW1'.c0; have r3 := hW1'.c1; have f0 := hW0'.f 0; have A1 := hW0'.s0 (.bool false); have r4 := A1.c1; have f1 := A1.f 1; have A2 := A1.s1 (.slice a2 k2 c2); have K1 := (hW1'.far (g2 := w.heap.size) (j := 0) (v := .bool false) (by omega)).far (g2 := w.heap.size) (j := 1) (v := .slice a2 k2 c2) (by omega); have r5 := K1.c0; have f2 := K1.f 0; have K2 := K1.s0 (.bool true); have r6 := K2.c1; have f3 := K2.f 1; have K3 := K2.s1 (.slice a1 k1 c1); have A3 := (A2.far (g2 := w.heap.size + 1) (j := 0) (v := .bool true) (by omega)).far (g2 := w.heap.size + 1) (j := 1) (v := .slice a1 k1 c1) (by omega); have E := (((hW'.far (g2 := w.heap.size) (j := 0) (v := .bool false) (by omega)).far (g2 := w.heap.size) (j := 1) (v := .slice a2 k2 c2) (by omega)).far (g2 := w.heap.size + 1) (j := 0) (v := .bool true) (by omega)).far (g2 := w.heap.size + 1) (j := 1) (v := .slice a1 k1 c1) (by omega); have m1 := (n1.two hW0' (fun x e => by cases e) (.bool false) (.slice a2 k2 c2)).two K1 (fun x e => by cases e) (.bool true) (.slice a1 k1 c1); have m2 := (n2.two hW0' (fun x e => by cases e) (.bool false) (.slice a2 k2 c2)).two K1 (fun x e => by cases e) (.bool true) (.slice a1 k1 c1); have b9 := below_far (j := 1) (below_far (j := 0) (below_far (j := 1) (below_far (j := 0) hB' (Nat.le_refl w.heap.size) (.bool false)) (Nat.le_refl w.heap.size) (.slice a2 k2 c2)) (Nat.le_succ w.heap.size) (.bool true)) (Nat.le_succ w.heap.size) (.slice a1 k1 c1); clear HW HW0 HW1 HS HB; have HS := Lib.hid E.lt; have HW := Lib.hid E; have HW0 := Lib.hid A3; have HW1 := Lib.hid K3; have HB := Lib.hid b9; have Hm1 := Lib.hid m1; have Hm2 := Lib.hid m2; clear E A3 K3 b9 m1 m2 n1 n2 hB' K1 K2 A1 A2 hW0' hW1' hW' HS' B1))
      refine wp_region_noPanic ?_
      refine wp_region_held_drew (S := fun W => NBlk W w.heap.size (.bool false) (.slice a2 k2 c2) ∧ NBlk W (w.heap.size + 1) (.bool true) (.slice a1 k1 c1)) (by kernel_rfl) ?_ (fun hHeld => ?_)
      · exact ⟨HW0.out, HW1.out⟩
      refine wpAnyH_take (i := 0) (oi := ({ dst := some 26, op := Go.Op.fieldAddr 49 (Go.Operand.tmp 2) 0, type := 0, pos := "number.go:54", after := #[], guard := none } : Oper)) (v := ?v0_1lt) rfl (by kernel_rfl) (by kernel_rfl) (by kernel_rfl) (fun _ _ _ h => h) (Or.inl ⟨by rfl, ?hy0_1lt⟩) (by assumption) ?re0_1lt
      case hy0_1lt => ((intro w hSw; obtain ⟨q1, q2⟩ := hSw; have e1 := q1.c0; have e2 := q1.c1; have e3 := q2.c0; have e4 := q2.c1; go_simp) <;> with_reducible rfl)
      (try simp only [Act.put, List.setIfInBounds_toArray, List.set_cons_zero, List.set_cons_succ])
      refine wpAnyH_take (i := 1) (oi := ({ dst := some 27, op := Go.Op.load 4 (Go.Operand.tmp 26), type := 4, pos := "number.go:54", after := #[{ on := 0, ground := Go.Ground.data }], guard := none } : Oper)) (v := ?v1_2lt) rfl (by kernel_rfl) (by kernel_rfl) (by kernel_rfl) (fun _ _ _ h => h) (Or.inl ⟨by rfl, ?hy1_2lt⟩) (by assumption) ?re1_2lt
      case hy1_2lt => ((intro w hSw; obtain ⟨q1, q2⟩ := hSw; have e1 := q1.c0; have e2 := q1.c1; have e3 := q2.c0; have e4 := q2.c1; go_simp) <;> with_reducible rfl)
      (try simp only [Act.put, List.setIfInBounds_toArray, List.set_cons_zero, List.set_cons_succ])
      refine wpAnyH_take (i := 2) (oi := ({ dst := some 28, op := Go.Op.fieldAddr 49 (Go.Operand.tmp 2) 1, type := 0, pos := "number.go:54", after := #[], guard := none } : Oper)) (v := ?v2_3lt) rfl (by kernel_rfl) (by kernel_rfl) (by kernel_rfl) (fun _ _ _ h => h) (Or.inl ⟨by rfl, ?hy2_3lt⟩) (by assumption) ?re2_3lt
      case hy2_3lt => ((intro w hSw; obtain ⟨q1, q2⟩ := hSw; have e1 := q1.c0; have e2 := q1.c1; have e3 := q2.c0; have e4 := q2.c1; go_simp) <;> with_reducible rfl)
      (try simp only [Act.put, List.setIfInBounds_toArray, List.set_cons_zero, List.set_cons_succ])
      refine wpAnyH_take (i := 3) (oi := ({ dst := some 29, op := Go.Op.load 47 (Go.Operand.tmp 28), type := 47, pos := "number.go:54", after := #[{ on := 2, ground := Go.Ground.data }], guard := none } : Oper)) (v := ?v3_4lt) rfl (by kernel_rfl) (by kernel_rfl) (by kernel_rfl) (fun _ _ _ h => h) (Or.inl ⟨by rfl, ?hy3_4lt⟩) (by assumption) ?re3_4lt
      case hy3_4lt => ((intro w hSw; obtain ⟨q1, q2⟩ := hSw; have e1 := q1.c0; have e2 := q1.c1; have e3 := q2.c0; have e4 := q2.c1; go_simp) <;> with_reducible rfl)
      (try simp only [Act.put, List.setIfInBounds_toArray, List.set_cons_zero, List.set_cons_succ])
      refine wpAnyH_take (i := 4) (oi := ({ dst := some 30, op := Go.Op.fieldAddr 49 (Go.Operand.tmp 3) 1, type := 0, pos := "number.go:54", after := #[], guard := none } : Oper)) (v := ?v4_5lt) rfl (by kernel_rfl) (by kernel_rfl) (by kernel_rfl) (fun _ _ _ h => h) (Or.inl ⟨by rfl, ?hy4_5lt⟩) (by assumption) ?re4_5lt
      case hy4_5lt => ((intro w hSw; obtain ⟨q1, q2⟩ := hSw; have e1 := q1.c0; have e2 := q1.c1; have e3 := q2.c0; have e4 := q2.c1; go_simp) <;> with_reducible rfl)
      (try simp only [Act.put, List.setIfInBounds_toArray, List.set_cons_zero, List.set_cons_succ])
      refine wpAnyH_take (i := 5) (oi := ({ dst := some 31, op := Go.Op.load 47 (Go.Operand.tmp 30), type := 47, pos := "number.go:54", after := #[{ on := 4, ground := Go.Ground.data }], guard := none } : Oper)) (v := ?v5_6lt) rfl (by kernel_rfl) (by kernel_rfl) (by kernel_rfl) (fun _ _ _ h => h) (Or.inl ⟨by rfl, ?hy5_6lt⟩) (by assumption) ?re5_6lt
      case hy5_6lt => ((intro w hSw; obtain ⟨q1, q2⟩ := hSw; have e1 := q1.c0; have e2 := q1.c1; have e3 := q2.c0; have e4 := q2.c1; go_simp) <;> with_reducible rfl)
      (try simp only [Act.put, List.setIfInBounds_toArray, List.set_cons_zero, List.set_cons_succ])
      refine wpAnyH_ready (rs := [6]) (by kernel_rfl) (by simp) ?_
      refine AllReadyH.cons (o := ({ dst := some 32, op := Go.Op.call { callee := Go.Callee.value (Go.Operand.func 58), args := #[Go.Operand.tmp 29, Go.Operand.tmp 31], argTypes := #[47, 47] }, type := 47, pos := "number.go:54", after := #[{ on := 3, ground := Go.Ground.data }, { on := 5, ground := Go.Ground.data }], guard := none } : Oper)) rfl (fun K hK => ?_) ?_
      · go_simp
        go_at_call 58
        refine (CN.out _ (Nat.le_of_lt hXY) (Hm1.out.below (Below.refl _ _).drew) (Hm2.out.below (Below.refl _ _).drew)).mono ?_
        rintro e w1 ⟨g, rfl, n1, B1⟩
        have hW1 := HW.out.keep (drew_left B1) HS.out; have N1 := Lib.hid n1; have BB1 := Lib.hid (HB.out.trans ((drew_left B1).mono HB.out.size)); have HW1' := Lib.hid hW1; clear n1 hW1
        (try go_wp2_with fail)
        refine hK.out _ _ ?_ (fun hHeld => ?_)
        · exact ⟨hHeld.1.keep B1 hHeld.1.lt, hHeld.2.keep B1 hHeld.2.lt⟩
        clear hK K
        (try simp only [Act.put, List.setIfInBounds_toArray, List.set_cons_zero, List.set_cons_succ])
        refine wpAnyH_ready (rs := [7]) (by kernel_rfl) (by simp) ?_
        refine AllReadyH.cons (o := ({ dst := some 33, op := Go.Op.call { callee := Go.Callee.value (Go.Operand.func 55), args := #[Go.Operand.tmp 27, Go.Operand.tmp 32], argTypes := #[4, 47] }, type := 49, pos := "number.go:54", after := #[{ on := 1, ground := Go.Ground.data }, { on := 6, ground := Go.Ground.data }, { on := 6, ground := Go.Ground.chain }], guard := none } : Oper)) rfl (fun K hK => ?_) ?_
        · go_simp
          go_at_call 55
          refine (CS.out _ _ _ _ N1.out hgN).mono ?_
          rintro e w2 ⟨q, a, k, c, rfl, hq, n2, B2⟩
          have h0 := HW1'.out.keep B2 HW1'.out.lt; have c0 := h0.c0; have f0 := h0.f 0; have c1' := h0.c1; have N2 := Lib.hid (fun j (hj : 2 ≤ j) => h0.c2 hj); have hA := h0.s0 (.bool q); have c1 := hA.c1; have f1 := hA.f 1; have HA := Lib.hid (hA.s1 (.slice a k c)); clear hA; have HN2 := Lib.hid n2; have BB2 := Lib.hid (BB1.out.trans (B2.mono BB1.out.size)); have HZ := Lib.hid hq; clear h0 n2 hq
          (try go_wp2_with fail)
          refine hK.out _ _ ?_ (fun hHeld => ?_)
          · exact ⟨hHeld.1.keep B2 hHeld.1.lt, hHeld.2.keep B2 hHeld.2.lt⟩
          clear hK K
          (try simp only [Act.put, List.setIfInBounds_toArray, List.set_cons_zero, List.set_cons_succ])
          refine wpAnyH_ready (rs := [8]) (by kernel_rfl) (by simp) ?_
          refine AllReadyH.cons (o := ({ dst := none, op := Go.Op.store 49 (Go.Operand.tmp 4) (Go.Operand.tmp 33), type := 0, pos := "number.go:54", after := #[{ on := 7, ground := Go.Ground.data }, { on := 7, ground := Go.Ground.chain }, { on := 0, ground := Go.Ground.phase }, { on := 1, ground := Go.Ground.phase }, { on := 2, ground := Go.Ground.phase }, { on := 3, ground := Go.Ground.phase }, { on := 4, ground := Go.Ground.phase }, { on := 5, ground := Go.Ground.phase }, { on := 6, ground := Go.Ground.phase }, { on := 7, ground := Go.Ground.phase }], guard := none } : Oper)) rfl (fun K hK => ?_) ?_
          · go_simp
            refine hK.out _ _ ?_ (fun hHeld => ?_)
            · exact ⟨(hHeld.1.far (by omega)).far (by omega), (hHeld.2.far (by omega)).far (by omega)⟩
            clear hK K
            (try simp only [Act.put, List.setIfInBounds_toArray, List.set_cons_zero, List.set_cons_succ])
            refine wpAnyH_done (by kernel_rfl) ?_ _
            refine NoPanic.normal ?_
            go_wp2_with fail
            have hB9 := (BB2.out.setCell (p := ⟨w.heap.size + 1 + 1, 0, none⟩) (by show w.heap.size ≤ w.heap.size + 1 + 1; omega) (.bool q)).setCell (p := ⟨w.heap.size + 1 + 1, 1, none⟩) (by show w.heap.size ≤ w.heap.size + 1 + 1; omega) (.slice a k c)
            have hN9 := HN2.out.over (w2 := (w2.setCell ⟨w.heap.size + 1 + 1, 0, none⟩ (.bool q)).setCell ⟨w.heap.size + 1 + 1, 1, none⟩ (.slice a k c)) c0 c1' (fun q hq => (Below.heap_setCell _ _ _ _ hq).trans (Below.heap_setCell _ _ _ _ hq)) (by simp [World.setCell]) N2.out (fun x e => by cases e)
            refine bodyPost_ret (results_cell_row rfl _ _ (w.heap.size + 1 + 1) 49 #[.bool q, .slice a k c] (0, 0) _ rfl HA.out Tryz.underlying49 rfl info_number) rfl ?_
            exact ⟨_, rfl, ⟨.slice a k c, by rw [sign_false (s := s) (M := (Y - X)) (by have := HSS.out; (try simp only [if_true] at this); (try simp only [if_false, Bool.false_eq_true] at this); omega), HZ.out], by rw [show s.natAbs = Y - X from by have := HSS.out; (try simp only [if_true] at this); (try simp only [if_false, Bool.false_eq_true] at this); omega]; exact hN9⟩, hB9⟩
          exact AllReadyH.nil
        exact AllReadyH.nil
      exact AllReadyH.nil
    · rcases Nat.eq_or_lt_of_le hXY with hE | hE
      · have hc : cmpN (X : Int) (Y : Int) = 0 := by rw [cmpN, if_neg (by omega), if_neg (by omega)]
        rw [hc] at CC
        clear hc hE
        go_enter Tryz.func31, Tryz.ntmps31
        have hB3 := (((below_alloc w (.cells #[.bool true, .slice a1 k1 c1] 49)).alloc (by simp only [World.size_alloc]; omega) (.cells #[.bool false, .slice a2 k2 c2] 49)).alloc (by simp only [World.size_alloc]; omega) (.cells #[.bool false, .slice none 0 0] 49))
        obtain ⟨hW0, hW1, hW⟩ := three_blocks w (.bool true) (.slice a1 k1 c1) (.bool false) (.slice a2 k2 c2) (.bool false) (.slice none 0 0)
        have HS := Lib.hid hW.lt
        have HB := Lib.hid hB3
        have HW := Lib.hid hW
        have HW0 := Lib.hid hW0
        have HW1 := Lib.hid hW1
        clear hB3 hW hW0 hW1
        go_wp2_with (go_at_call 57; go_loud ((with_reducible refine (CC.out _ (H1.out.below HB.out) (H2.out.below HB.out)).mono ?_); rintro e w1 ⟨rfl, B1⟩; have hW0' := HW0.out.keep B1 (by have := HS.out; omega); have hW1' := HW1.out.keep B1 (by have := HS.out; omega); have hW' := HW.out.keep B1 HS.out; have hs1 := Nat.lt_of_lt_of_le HS.out B1.size; have hB' := HB.out.trans (B1.mono HB.out.size); have n1 := H1.out.below hB'; have n2 := H2.out.below hB'; have HS' := Lib.hid hs1; clear hs1; clear HW HW0 HW1 HS HB; have HS := Lib.hid HS'.out; have HW := Lib.hid hW'; have HW0 := Lib.hid hW0'; have HW1 := Lib.hid hW1'; have HB := Lib.hid hB'; have Hm1 := Lib.hid n1; have Hm2 := Lib.hid n2; clear n1 n2 hB' hW0' hW1' hW' HS' B1))
        refine wp_region_noPanic ?_
        refine wp_region_held_drew (S := fun W => NBlk W w.heap.size (.bool true) (.slice a1 k1 c1) ∧ NBlk W (w.heap.size + 1) (.bool false) (.slice a2 k2 c2)) (by kernel_rfl) ?_ (fun hHeld => ?_)
        · exact ⟨HW0.out, HW1.out⟩
        refine wpAnyH_take (i := 0) (oi := ({ dst := some 26, op := Go.Op.fieldAddr 49 (Go.Operand.tmp 2) 0, type := 0, pos := "number.go:54", after := #[], guard := none } : Oper)) (v := ?v0_1et) rfl (by kernel_rfl) (by kernel_rfl) (by kernel_rfl) (fun _ _ _ h => h) (Or.inl ⟨by rfl, ?hy0_1et⟩) (by assumption) ?re0_1et
        case hy0_1et => ((intro w hSw; obtain ⟨q1, q2⟩ := hSw; have e1 := q1.c0; have e2 := q1.c1; have e3 := q2.c0; have e4 := q2.c1; go_simp) <;> with_reducible rfl)
        (try simp only [Act.put, List.setIfInBounds_toArray, List.set_cons_zero, List.set_cons_succ])
        refine wpAnyH_take (i := 1) (oi := ({ dst := some 27, op := Go.Op.load 4 (Go.Operand.tmp 26), type := 4, pos := "number.go:54", after := #[{ on := 0, ground := Go.Ground.data }], guard := none } : Oper)) (v := ?v1_2et) rfl (by kernel_rfl) (by kernel_rfl) (by kernel_rfl) (fun _ _ _ h => h) (Or.inl ⟨by rfl, ?hy1_2et⟩) (by assumption) ?re1_2et
        case hy1_2et => ((intro w hSw; obtain ⟨q1, q2⟩ := hSw; have e1 := q1.c0; have e2 := q1.c1; have e3 := q2.c0; have e4 := q2.c1; go_simp) <;> with_reducible rfl)
        (try simp only [Act.put, List.setIfInBounds_toArray, List.set_cons_zero, List.set_cons_succ])
        refine wpAnyH_take (i := 2) (oi := ({ dst := some 28, op := Go.Op.fieldAddr 49 (Go.Operand.tmp 2) 1, type := 0, pos := "number.go:54", after := #[], guard := none } : Oper)) (v := ?v2_3et) rfl (by kernel_rfl) (by kernel_rfl) (by kernel_rfl) (fun _ _ _ h => h) (Or.inl ⟨by rfl, ?hy2_3et⟩) (by assumption) ?re2_3et
        case hy2_3et => ((intro w hSw; obtain ⟨q1, q2⟩ := hSw; have e1 := q1.c0; have e2 := q1.c1; have e3 := q2.c0; have e4 := q2.c1; go_simp) <;> with_reducible rfl)
        (try simp only [Act.put, List.setIfInBounds_toArray, List.set_cons_zero, List.set_cons_succ])
        refine wpAnyH_take (i := 3) (oi := ({ dst := some 29, op := Go.Op.load 47 (Go.Operand.tmp 28), type := 47, pos := "number.go:54", after := #[{ on := 2, ground := Go.Ground.data }], guard := none } : Oper)) (v := ?v3_4et) rfl (by kernel_rfl) (by kernel_rfl) (by kernel_rfl) (fun _ _ _ h => h) (Or.inl ⟨by rfl, ?hy3_4et⟩) (by assumption) ?re3_4et
        case hy3_4et => ((intro w hSw; obtain ⟨q1, q2⟩ := hSw; have e1 := q1.c0; have e2 := q1.c1; have e3 := q2.c0; have e4 := q2.c1; go_simp) <;> with_reducible rfl)
        (try simp only [Act.put, List.setIfInBounds_toArray, List.set_cons_zero, List.set_cons_succ])
        refine wpAnyH_take (i := 4) (oi := ({ dst := some 30, op := Go.Op.fieldAddr 49 (Go.Operand.tmp 3) 1, type := 0, pos := "number.go:54", after := #[], guard := none } : Oper)) (v := ?v4_5et) rfl (by kernel_rfl) (by kernel_rfl) (by kernel_rfl) (fun _ _ _ h => h) (Or.inl ⟨by rfl, ?hy4_5et⟩) (by assumption) ?re4_5et
        case hy4_5et => ((intro w hSw; obtain ⟨q1, q2⟩ := hSw; have e1 := q1.c0; have e2 := q1.c1; have e3 := q2.c0; have e4 := q2.c1; go_simp) <;> with_reducible rfl)
        (try simp only [Act.put, List.setIfInBounds_toArray, List.set_cons_zero, List.set_cons_succ])
        refine wpAnyH_take (i := 5) (oi := ({ dst := some 31, op := Go.Op.load 47 (Go.Operand.tmp 30), type := 47, pos := "number.go:54", after := #[{ on := 4, ground := Go.Ground.data }], guard := none } : Oper)) (v := ?v5_6et) rfl (by kernel_rfl) (by kernel_rfl) (by kernel_rfl) (fun _ _ _ h => h) (Or.inl ⟨by rfl, ?hy5_6et⟩) (by assumption) ?re5_6et
        case hy5_6et => ((intro w hSw; obtain ⟨q1, q2⟩ := hSw; have e1 := q1.c0; have e2 := q1.c1; have e3 := q2.c0; have e4 := q2.c1; go_simp) <;> with_reducible rfl)
        (try simp only [Act.put, List.setIfInBounds_toArray, List.set_cons_zero, List.set_cons_succ])
        refine wpAnyH_ready (rs := [6]) (by kernel_rfl) (by simp) ?_
        refine AllReadyH.cons (o := ({ dst := some 32, op := Go.Op.call { callee := Go.Callee.value (Go.Operand.func 58), args := #[Go.Operand.tmp 29, Go.Operand.tmp 31], argTypes := #[47, 47] }, type := 47, pos := "number.go:54", after := #[{ on := 3, ground := Go.Ground.data }, { on := 5, ground := Go.Ground.data }], guard := none } : Oper)) rfl (fun K hK => ?_) ?_
        · go_simp
          go_at_call 58
          refine (CM.out _ hXY (Hm1.out.below (Below.refl _ _).drew) (Hm2.out.below (Below.refl _ _).drew)).mono ?_
          rintro e w1 ⟨g, rfl, n1, B1⟩
          have hW1 := HW.out.keep (drew_left B1) HS.out; have N1 := Lib.hid n1; have BB1 := Lib.hid (HB.out.trans ((drew_left B1).mono HB.out.size)); have HW1' := Lib.hid hW1; clear n1 hW1
          (try go_wp2_with fail)
          refine hK.out _ _ ?_ (fun hHeld => ?_)
          · exact ⟨hHeld.1.keep B1 hHeld.1.lt, hHeld.2.keep B1 hHeld.2.lt⟩
          clear hK K
          (try simp only [Act.put, List.setIfInBounds_toArray, List.set_cons_zero, List.set_cons_succ])
          refine wpAnyH_ready (rs := [7]) (by kernel_rfl) (by simp) ?_
          refine AllReadyH.cons (o := ({ dst := some 33, op := Go.Op.call { callee := Go.Callee.value (Go.Operand.func 55), args := #[Go.Operand.tmp 27, Go.Operand.tmp 32], argTypes := #[4, 47] }, type := 49, pos := "number.go:54", after := #[{ on := 1, ground := Go.Ground.data }, { on := 6, ground := Go.Ground.data }, { on := 6, ground := Go.Ground.chain }], guard := none } : Oper)) rfl (fun K hK => ?_) ?_
          · go_simp
            go_at_call 55
            refine (CS.out _ _ _ _ N1.out hgM).mono ?_
            rintro e w2 ⟨q, a, k, c, rfl, hq, n2, B2⟩
            have h0 := HW1'.out.keep B2 HW1'.out.lt; have c0 := h0.c0; have f0 := h0.f 0; have c1' := h0.c1; have N2 := Lib.hid (fun j (hj : 2 ≤ j) => h0.c2 hj); have hA := h0.s0 (.bool q); have c1 := hA.c1; have f1 := hA.f 1; have HA := Lib.hid (hA.s1 (.slice a k c)); clear hA; have HN2 := Lib.hid n2; have BB2 := Lib.hid (BB1.out.trans (B2.mono BB1.out.size)); have HZ := Lib.hid hq; clear h0 n2 hq
            (try go_wp2_with fail)
            refine hK.out _ _ ?_ (fun hHeld => ?_)
            · exact ⟨hHeld.1.keep B2 hHeld.1.lt, hHeld.2.keep B2 hHeld.2.lt⟩
            clear hK K
            (try simp only [Act.put, List.setIfInBounds_toArray, List.set_cons_zero, List.set_cons_succ])
            refine wpAnyH_ready (rs := [8]) (by kernel_rfl) (by simp) ?_
            refine AllReadyH.cons (o := ({ dst := none, op := Go.Op.store 49 (Go.Operand.tmp 4) (Go.Operand.tmp 33), type := 0, pos := "number.go:54", after := #[{ on := 7, ground := Go.Ground.data }, { on := 7, ground := Go.Ground.chain }, { on := 0, ground := Go.Ground.phase }, { on := 1, ground := Go.Ground.phase }, { on := 2, ground := Go.Ground.phase }, { on := 3, ground := Go.Ground.phase }, { on := 4, ground := Go.Ground.phase }, { on := 5, ground := Go.Ground.phase }, { on := 6, ground := Go.Ground.phase }, { on := 7, ground := Go.Ground.phase }], guard := none } : Oper)) rfl (fun K hK => ?_) ?_
            · go_simp
              refine hK.out _ _ ?_ (fun hHeld => ?_)
              · exact ⟨(hHeld.1.far (by omega)).far (by omega), (hHeld.2.far (by omega)).far (by omega)⟩
              clear hK K
              (try simp only [Act.put, List.setIfInBounds_toArray, List.set_cons_zero, List.set_cons_succ])
              refine wpAnyH_done (by kernel_rfl) ?_ _
              refine NoPanic.normal ?_
              go_wp2_with fail
              have hB9 := (BB2.out.setCell (p := ⟨w.heap.size + 1 + 1, 0, none⟩) (by show w.heap.size ≤ w.heap.size + 1 + 1; omega) (.bool q)).setCell (p := ⟨w.heap.size + 1 + 1, 1, none⟩) (by show w.heap.size ≤ w.heap.size + 1 + 1; omega) (.slice a k c)
              have hN9 := HN2.out.over (w2 := (w2.setCell ⟨w.heap.size + 1 + 1, 0, none⟩ (.bool q)).setCell ⟨w.heap.size + 1 + 1, 1, none⟩ (.slice a k c)) c0 c1' (fun q hq => (Below.heap_setCell _ _ _ _ hq).trans (Below.heap_setCell _ _ _ _ hq)) (by simp [World.setCell]) N2.out (fun x e => by cases e)
              refine bodyPost_ret (results_cell_row rfl _ _ (w.heap.size + 1 + 1) 49 #[.bool q, .slice a k c] (0, 0) _ rfl HA.out Tryz.underlying49 rfl info_number) rfl ?_
              exact ⟨_, rfl, ⟨.slice a k c, by rw [sign_true (s := s) (M := (X - Y)) (by have := HSS.out; (try simp only [if_true] at this); (try simp only [if_false, Bool.false_eq_true] at this); omega), HZ.out], by rw [show s.natAbs = X - Y from by have := HSS.out; (try simp only [if_true] at this); (try simp only [if_false, Bool.false_eq_true] at this); omega]; exact hN9⟩, hB9⟩
            exact AllReadyH.nil
          exact AllReadyH.nil
        exact AllReadyH.nil
      · have hc : cmpN (X : Int) (Y : Int) = 1 := by rw [cmpN, if_neg (by omega), if_pos (by omega)]
        rw [hc] at CC
        clear hc hE
        go_enter Tryz.func31, Tryz.ntmps31
        have hB3 := (((below_alloc w (.cells #[.bool true, .slice a1 k1 c1] 49)).alloc (by simp only [World.size_alloc]; omega) (.cells #[.bool false, .slice a2 k2 c2] 49)).alloc (by simp only [World.size_alloc]; omega) (.cells #[.bool false, .slice none 0 0] 49))
        obtain ⟨hW0, hW1, hW⟩ := three_blocks w (.bool true) (.slice a1 k1 c1) (.bool false) (.slice a2 k2 c2) (.bool false) (.slice none 0 0)
        have HS := Lib.hid hW.lt
        have HB := Lib.hid hB3
        have HW := Lib.hid hW
        have HW0 := Lib.hid hW0
        have HW1 := Lib.hid hW1
        clear hB3 hW hW0 hW1
        go_wp2_with (go_at_call 57; go_loud ((with_reducible refine (CC.out _ (H1.out.below HB.out) (H2.out.below HB.out)).mono ?_); rintro e w1 ⟨rfl, B1⟩; have hW0' := HW0.out.keep B1 (by have := HS.out; omega); have hW1' := HW1.out.keep B1 (by have := HS.out; omega); have hW' := HW.out.keep B1 HS.out; have hs1 := Nat.lt_of_lt_of_le HS.out B1.size; have hB' := HB.out.trans (B1.mono HB.out.size); have n1 := H1.out.below hB'; have n2 := H2.out.below hB'; have HS' := Lib.hid hs1; clear hs1; clear HW HW0 HW1 HS HB; have HS := Lib.hid HS'.out; have HW := Lib.hid hW'; have HW0 := Lib.hid hW0'; have HW1 := Lib.hid hW1'; have HB := Lib.hid hB'; have Hm1 := Lib.hid n1; have Hm2 := Lib.hid n2; clear n1 n2 hB' hW0' hW1' hW' HS' B1))
        refine wp_region_noPanic ?_
        refine wp_region_held_drew (S := fun W => NBlk W w.heap.size (.bool true) (.slice a1 k1 c1) ∧ NBlk W (w.heap.size + 1) (.bool false) (.slice a2 k2 c2)) (by kernel_rfl) ?_ (fun hHeld => ?_)
        · exact ⟨HW0.out, HW1.out⟩
        refine wpAnyH_take (i := 0) (oi := ({ dst := some 26, op := Go.Op.fieldAddr 49 (Go.Operand.tmp 2) 0, type := 0, pos := "number.go:54", after := #[], guard := none } : Oper)) (v := ?v0_1gt) rfl (by kernel_rfl) (by kernel_rfl) (by kernel_rfl) (fun _ _ _ h => h) (Or.inl ⟨by rfl, ?hy0_1gt⟩) (by assumption) ?re0_1gt
        case hy0_1gt => ((intro w hSw; obtain ⟨q1, q2⟩ := hSw; have e1 := q1.c0; have e2 := q1.c1; have e3 := q2.c0; have e4 := q2.c1; go_simp) <;> with_reducible rfl)
        (try simp only [Act.put, List.setIfInBounds_toArray, List.set_cons_zero, List.set_cons_succ])
        refine wpAnyH_take (i := 1) (oi := ({ dst := some 27, op := Go.Op.load 4 (Go.Operand.tmp 26), type := 4, pos := "number.go:54", after := #[{ on := 0, ground := Go.Ground.data }], guard := none } : Oper)) (v := ?v1_2gt) rfl (by kernel_rfl) (by kernel_rfl) (by kernel_rfl) (fun _ _ _ h => h) (Or.inl ⟨by rfl, ?hy1_2gt⟩) (by assumption) ?re1_2gt
        case hy1_2gt => ((intro w hSw; obtain ⟨q1, q2⟩ := hSw; have e1 := q1.c0; have e2 := q1.c1; have e3 := q2.c0; have e4 := q2.c1; go_simp) <;> with_reducible rfl)
        (try simp only [Act.put, List.setIfInBounds_toArray, List.set_cons_zero, List.set_cons_succ])
        refine wpAnyH_take (i := 2) (oi := ({ dst := some 28, op := Go.Op.fieldAddr 49 (Go.Operand.tmp 2) 1, type := 0, pos := "number.go:54", after := #[], guard := none } : Oper)) (v := ?v2_3gt) rfl (by kernel_rfl) (by kernel_rfl) (by kernel_rfl) (fun _ _ _ h => h) (Or.inl ⟨by rfl, ?hy2_3gt⟩) (by assumption) ?re2_3gt
        case hy2_3gt => ((intro w hSw; obtain ⟨q1, q2⟩ := hSw; have e1 := q1.c0; have e2 := q1.c1; have e3 := q2.c0; have e4 := q2.c1; go_simp) <;> with_reducible rfl)
        (try simp only [Act.put, List.setIfInBounds_toArray, List.set_cons_zero, List.set_cons_succ])
        refine wpAnyH_take (i := 3) (oi := ({ dst := some 29, op := Go.Op.load 47 (Go.Operand.tmp 28), type := 47, pos := "number.go:54", after := #[{ on := 2, ground := Go.Ground.data }], guard := none } : Oper)) (v := ?v3_4gt) rfl (by kernel_rfl) (by kernel_rfl) (by kernel_rfl) (fun _ _ _ h => h) (Or.inl ⟨by rfl, ?hy3_4gt⟩) (by assumption) ?re3_4gt
        case hy3_4gt => ((intro w hSw; obtain ⟨q1, q2⟩ := hSw; have e1 := q1.c0; have e2 := q1.c1; have e3 := q2.c0; have e4 := q2.c1; go_simp) <;> with_reducible rfl)
        (try simp only [Act.put, List.setIfInBounds_toArray, List.set_cons_zero, List.set_cons_succ])
        refine wpAnyH_take (i := 4) (oi := ({ dst := some 30, op := Go.Op.fieldAddr 49 (Go.Operand.tmp 3) 1, type := 0, pos := "number.go:54", after := #[], guard := none } : Oper)) (v := ?v4_5gt) rfl (by kernel_rfl) (by kernel_rfl) (by kernel_rfl) (fun _ _ _ h => h) (Or.inl ⟨by rfl, ?hy4_5gt⟩) (by assumption) ?re4_5gt
        case hy4_5gt => ((intro w hSw; obtain ⟨q1, q2⟩ := hSw; have e1 := q1.c0; have e2 := q1.c1; have e3 := q2.c0; have e4 := q2.c1; go_simp) <;> with_reducible rfl)
        (try simp only [Act.put, List.setIfInBounds_toArray, List.set_cons_zero, List.set_cons_succ])
        refine wpAnyH_take (i := 5) (oi := ({ dst := some 31, op := Go.Op.load 47 (Go.Operand.tmp 30), type := 47, pos := "number.go:54", after := #[{ on := 4, ground := Go.Ground.data }], guard := none } : Oper)) (v := ?v5_6gt) rfl (by kernel_rfl) (by kernel_rfl) (by kernel_rfl) (fun _ _ _ h => h) (Or.inl ⟨by rfl, ?hy5_6gt⟩) (by assumption) ?re5_6gt
        case hy5_6gt => ((intro w hSw; obtain ⟨q1, q2⟩ := hSw; have e1 := q1.c0; have e2 := q1.c1; have e3 := q2.c0; have e4 := q2.c1; go_simp) <;> with_reducible rfl)
        (try simp only [Act.put, List.setIfInBounds_toArray, List.set_cons_zero, List.set_cons_succ])
        refine wpAnyH_ready (rs := [6]) (by kernel_rfl) (by simp) ?_
        refine AllReadyH.cons (o := ({ dst := some 32, op := Go.Op.call { callee := Go.Callee.value (Go.Operand.func 58), args := #[Go.Operand.tmp 29, Go.Operand.tmp 31], argTypes := #[47, 47] }, type := 47, pos := "number.go:54", after := #[{ on := 3, ground := Go.Ground.data }, { on := 5, ground := Go.Ground.data }], guard := none } : Oper)) rfl (fun K hK => ?_) ?_
        · go_simp
          go_at_call 58
          refine (CM.out _ hXY (Hm1.out.below (Below.refl _ _).drew) (Hm2.out.below (Below.refl _ _).drew)).mono ?_
          rintro e w1 ⟨g, rfl, n1, B1⟩
          have hW1 := HW.out.keep (drew_left B1) HS.out; have N1 := Lib.hid n1; have BB1 := Lib.hid (HB.out.trans ((drew_left B1).mono HB.out.size)); have HW1' := Lib.hid hW1; clear n1 hW1
          (try go_wp2_with fail)
          refine hK.out _ _ ?_ (fun hHeld => ?_)
          · exact ⟨hHeld.1.keep B1 hHeld.1.lt, hHeld.2.keep B1 hHeld.2.lt⟩
          clear hK K
          (try simp only [Act.put, List.setIfInBounds_toArray, List.set_cons_zero, List.set_cons_succ])
          refine wpAnyH_ready (rs := [7]) (by kernel_rfl) (by simp) ?_
          refine AllReadyH.cons (o := ({ dst := some 33, op := Go.Op.call { callee := Go.Callee.value (Go.Operand.func 55), args := #[Go.Operand.tmp 27, Go.Operand.tmp 32], argTypes := #[4, 47] }, type := 49, pos := "number.go:54", after := #[{ on := 1, ground := Go.Ground.data }, { on := 6, ground := Go.Ground.data }, { on := 6, ground := Go.Ground.chain }], guard := none } : Oper)) rfl (fun K hK => ?_) ?_
          · go_simp
            go_at_call 55
            refine (CS.out _ _ _ _ N1.out hgM).mono ?_
            rintro e w2 ⟨q, a, k, c, rfl, hq, n2, B2⟩
            have h0 := HW1'.out.keep B2 HW1'.out.lt; have c0 := h0.c0; have f0 := h0.f 0; have c1' := h0.c1; have N2 := Lib.hid (fun j (hj : 2 ≤ j) => h0.c2 hj); have hA := h0.s0 (.bool q); have c1 := hA.c1; have f1 := hA.f 1; have HA := Lib.hid (hA.s1 (.slice a k c)); clear hA; have HN2 := Lib.hid n2; have BB2 := Lib.hid (BB1.out.trans (B2.mono BB1.out.size)); have HZ := Lib.hid hq; clear h0 n2 hq
            (try go_wp2_with fail)
            refine hK.out _ _ ?_ (fun hHeld => ?_)
            · exact ⟨hHeld.1.keep B2 hHeld.1.lt, hHeld.2.keep B2 hHeld.2.lt⟩
            clear hK K
            (try simp only [Act.put, List.setIfInBounds_toArray, List.set_cons_zero, List.set_cons_succ])
            refine wpAnyH_ready (rs := [8]) (by kernel_rfl) (by simp) ?_
            refine AllReadyH.cons (o := ({ dst := none, op := Go.Op.store 49 (Go.Operand.tmp 4) (Go.Operand.tmp 33), type := 0, pos := "number.go:54", after := #[{ on := 7, ground := Go.Ground.data }, { on := 7, ground := Go.Ground.chain }, { on := 0, ground := Go.Ground.phase }, { on := 1, ground := Go.Ground.phase }, { on := 2, ground := Go.Ground.phase }, { on := 3, ground := Go.Ground.phase }, { on := 4, ground := Go.Ground.phase }, { on := 5, ground := Go.Ground.phase }, { on := 6, ground := Go.Ground.phase }, { on := 7, ground := Go.Ground.phase }], guard := none } : Oper)) rfl (fun K hK => ?_) ?_
            · go_simp
              refine hK.out _ _ ?_ (fun hHeld => ?_)
              · exact ⟨(hHeld.1.far (by omega)).far (by omega), (hHeld.2.far (by omega)).far (by omega)⟩
              clear hK K
              (try simp only [Act.put, List.setIfInBounds_toArray, List.set_cons_zero, List.set_cons_succ])
              refine wpAnyH_done (by kernel_rfl) ?_ _
              refine NoPanic.normal ?_
              go_wp2_with fail
              have hB9 := (BB2.out.setCell (p := ⟨w.heap.size + 1 + 1, 0, none⟩) (by show w.heap.size ≤ w.heap.size + 1 + 1; omega) (.bool q)).setCell (p := ⟨w.heap.size + 1 + 1, 1, none⟩) (by show w.heap.size ≤ w.heap.size + 1 + 1; omega) (.slice a k c)
              have hN9 := HN2.out.over (w2 := (w2.setCell ⟨w.heap.size + 1 + 1, 0, none⟩ (.bool q)).setCell ⟨w.heap.size + 1 + 1, 1, none⟩ (.slice a k c)) c0 c1' (fun q hq => (Below.heap_setCell _ _ _ _ hq).trans (Below.heap_setCell _ _ _ _ hq)) (by simp [World.setCell]) N2.out (fun x e => by cases e)
              refine bodyPost_ret (results_cell_row rfl _ _ (w.heap.size + 1 + 1) 49 #[.bool q, .slice a k c] (0, 0) _ rfl HA.out Tryz.underlying49 rfl info_number) rfl ?_
              exact ⟨_, rfl, ⟨.slice a k c, by rw [sign_true (s := s) (M := (X - Y)) (by have := HSS.out; (try simp only [if_true] at this); (try simp only [if_false, Bool.false_eq_true] at this); omega), HZ.out], by rw [show s.natAbs = X - Y from by have := HSS.out; (try simp only [if_true] at this); (try simp only [if_false, Bool.false_eq_true] at this); omega]; exact hN9⟩, hB9⟩
            exact AllReadyH.nil
          exact AllReadyH.nil
        exact AllReadyH.nil
  · go_enter Tryz.func31, Tryz.ntmps31
    have hB3 := (((below_alloc w (.cells #[.bool true, .slice a1 k1 c1] 49)).alloc (by simp only [World.size_alloc]; omega) (.cells #[.bool true, .slice a2 k2 c2] 49)).alloc (by simp only [World.size_alloc]; omega) (.cells #[.bool false, .slice none 0 0] 49))
    obtain ⟨hW0, hW1, hW⟩ := three_blocks w (.bool true) (.slice a1 k1 c1) (.bool true) (.slice a2 k2 c2) (.bool false) (.slice none 0 0)
    have HS := Lib.hid hW.lt
    have HB := Lib.hid hB3
    have HW := Lib.hid hW
    have HW0 := Lib.hid hW0
    have HW1 := Lib.hid hW1
    clear hB3 hW hW0 hW1
    go_wp2_with fail
    refine wp_region_noPanic ?_
    refine wp_region_held_drew (S := fun W => NBlk W w.heap.size (.bool true) (.slice a1 k1 c1) ∧ NBlk W (w.heap.size + 1) (.bool true) (.slice a2 k2 c2)) (by kernel_rfl) ?_ (fun hHeld => ?_)
    · exact ⟨HW0.out, HW1.out⟩
    refine wpAnyH_take (i := 0) (oi := ({ dst := some 10, op := Go.Op.fieldAddr 49 (Go.Operand.tmp 2) 0, type := 0, pos := "number.go:49", after := #[], guard := none } : Oper)) (v := ?v0_1st) rfl (by kernel_rfl) (by kernel_rfl) (by kernel_rfl) (fun _ _ _ h => h) (Or.inl ⟨by rfl, ?hy0_1st⟩) (by assumption) ?re0_1st
    case hy0_1st => ((intro w hSw; obtain ⟨q1, q2⟩ := hSw; have e1 := q1.c0; have e2 := q1.c1; have e3 := q2.c0; have e4 := q2.c1; go_simp) <;> with_reducible rfl)
    (try simp only [Act.put, List.setIfInBounds_toArray, List.set_cons_zero, List.set_cons_succ])
    refine wpAnyH_take (i := 1) (oi := ({ dst := some 11, op := Go.Op.load 4 (Go.Operand.tmp 10), type := 4, pos := "number.go:49", after := #[{ on := 0, ground := Go.Ground.data }], guard := none } : Oper)) (v := ?v1_2st) rfl (by kernel_rfl) (by kernel_rfl) (by kernel_rfl) (fun _ _ _ h => h) (Or.inl ⟨by rfl, ?hy1_2st⟩) (by assumption) ?re1_2st
    case hy1_2st => ((intro w hSw; obtain ⟨q1, q2⟩ := hSw; have e1 := q1.c0; have e2 := q1.c1; have e3 := q2.c0; have e4 := q2.c1; go_simp) <;> with_reducible rfl)
    (try simp only [Act.put, List.setIfInBounds_toArray, List.set_cons_zero, List.set_cons_succ])
    refine wpAnyH_take (i := 2) (oi := ({ dst := some 12, op := Go.Op.fieldAddr 49 (Go.Operand.tmp 2) 1, type := 0, pos := "number.go:49", after := #[], guard := none } : Oper)) (v := ?v2_3st) rfl (by kernel_rfl) (by kernel_rfl) (by kernel_rfl) (fun _ _ _ h => h) (Or.inl ⟨by rfl, ?hy2_3st⟩) (by assumption) ?re2_3st
    case hy2_3st => ((intro w hSw; obtain ⟨q1, q2⟩ := hSw; have e1 := q1.c0; have e2 := q1.c1; have e3 := q2.c0; have e4 := q2.c1; go_simp) <;> with_reducible rfl)
    (try simp only [Act.put, List.setIfInBounds_toArray, List.set_cons_zero, List.set_cons_succ])
    refine wpAnyH_take (i := 3) (oi := ({ dst := some 13, op := Go.Op.load 47 (Go.Operand.tmp 12), type := 47, pos := "number.go:49", after := #[{ on := 2, ground := Go.Ground.data }], guard := none } : Oper)) (v := ?v3_4st) rfl (by kernel_rfl) (by kernel_rfl) (by kernel_rfl) (fun _ _ _ h => h) (Or.inl ⟨by rfl, ?hy3_4st⟩) (by assumption) ?re3_4st
    case hy3_4st => ((intro w hSw; obtain ⟨q1, q2⟩ := hSw; have e1 := q1.c0; have e2 := q1.c1; have e3 := q2.c0; have e4 := q2.c1; go_simp) <;> with_reducible rfl)
    (try simp only [Act.put, List.setIfInBounds_toArray, List.set_cons_zero, List.set_cons_succ])
    refine wpAnyH_take (i := 4) (oi := ({ dst := some 14, op := Go.Op.fieldAddr 49 (Go.Operand.tmp 3) 1, type := 0, pos := "number.go:49", after := #[], guard := none } : Oper)) (v := ?v4_5st) rfl (by kernel_rfl) (by kernel_rfl) (by kernel_rfl) (fun _ _ _ h => h) (Or.inl ⟨by rfl, ?hy4_5st⟩) (by assumption) ?re4_5st
    case hy4_5st => ((intro w hSw; obtain ⟨q1, q2⟩ := hSw; have e1 := q1.c0; have e2 := q1.c1; have e3 := q2.c0; have e4 := q2.c1; go_simp) <;> with_reducible rfl)
    (try simp only [Act.put, List.setIfInBounds_toArray, List.set_cons_zero, List.set_cons_succ])
    refine wpAnyH_take (i := 5) (oi := ({ dst := some 15, op := Go.Op.load 47 (Go.Operand.tmp 14), type := 47, pos := "number.go:49", after := #[{ on := 4, ground := Go.Ground.data }], guard := none } : Oper)) (v := ?v5_6st) rfl (by kernel_rfl) (by kernel_rfl) (by kernel_rfl) (fun _ _ _ h => h) (Or.inl ⟨by rfl, ?hy5_6st⟩) (by assumption) ?re5_6st
    case hy5_6st => ((intro w hSw; obtain ⟨q1, q2⟩ := hSw; have e1 := q1.c0; have e2 := q1.c1; have e3 := q2.c0; have e4 := q2.c1; go_simp) <;> with_reducible rfl)
    (try simp only [Act.put, List.setIfInBounds_toArray, List.set_cons_zero, List.set_cons_succ])
    refine wpAnyH_ready (rs := [6]) (by kernel_rfl) (by simp) ?_
    refine AllReadyH.cons (o := ({ dst := some 16, op := Go.Op.call { callee := Go.Callee.value (Go.Operand.func 56), args := #[Go.Operand.tmp 13, Go.Operand.tmp 15], argTypes := #[47, 47] }, type := 47, pos := "number.go:49", after := #[{ on := 3, ground := Go.Ground.data }, { on := 5, ground := Go.Ground.data }], guard := none } : Oper)) rfl (fun K hK => ?_) ?_
    · go_simp
      go_at_call 56
      refine (CP.out _ (H1.out.below HB.out.drew) (H2.out.below HB.out.drew)).mono ?_
      rintro e w1 ⟨g, rfl, n1, B1⟩
      have hW1 := HW.out.keep (drew_left B1) HS.out; have N1 := Lib.hid n1; have BB1 := Lib.hid (HB.out.trans ((drew_left B1).mono HB.out.size)); have HW1' := Lib.hid hW1; clear n1 hW1
      (try go_wp2_with fail)
      refine hK.out _ _ ?_ (fun hHeld => ?_)
      · exact ⟨hHeld.1.keep B1 hHeld.1.lt, hHeld.2.keep B1 hHeld.2.lt⟩
      clear hK K
      (try simp only [Act.put, List.setIfInBounds_toArray, List.set_cons_zero, List.set_cons_succ])
      refine wpAnyH_ready (rs := [7]) (by kernel_rfl) (by simp) ?_
      refine AllReadyH.cons (o := ({ dst := some 17, op := Go.Op.call { callee := Go.Callee.value (Go.Operand.func 55), args := #[Go.Operand.tmp 11, Go.Operand.tmp 16], argTypes := #[4, 47] }, type := 49, pos := "number.go:49", after := #[{ on := 1, ground := Go.Ground.data }, { on := 6, ground := Go.Ground.data }, { on := 6, ground := Go.Ground.chain }], guard := none } : Oper)) rfl (fun K hK => ?_) ?_
      · go_simp
        go_at_call 55
        refine (CS.out _ _ _ _ N1.out hgP).mono ?_
        rintro e w2 ⟨q, a, k, c, rfl, hq, n2, B2⟩
        have h0 := HW1'.out.keep B2 HW1'.out.lt; have c0 := h0.c0; have f0 := h0.f 0; have c1' := h0.c1; have N2 := Lib.hid (fun j (hj : 2 ≤ j) => h0.c2 hj); have hA := h0.s0 (.bool q); have c1 := hA.c1; have f1 := hA.f 1; have HA := Lib.hid (hA.s1 (.slice a k c)); clear hA; have HN2 := Lib.hid n2; have BB2 := Lib.hid (BB1.out.trans (B2.mono BB1.out.size)); have HZ := Lib.hid hq; clear h0 n2 hq
        (try go_wp2_with fail)
        refine hK.out _ _ ?_ (fun hHeld => ?_)
        · exact ⟨hHeld.1.keep B2 hHeld.1.lt, hHeld.2.keep B2 hHeld.2.lt⟩
        clear hK K
        (try simp only [Act.put, List.setIfInBounds_toArray, List.set_cons_zero, List.set_cons_succ])
        refine wpAnyH_ready (rs := [8]) (by kernel_rfl) (by simp) ?_
        refine AllReadyH.cons (o := ({ dst := none, op := Go.Op.store 49 (Go.Operand.tmp 4) (Go.Operand.tmp 17), type := 0, pos := "number.go:49", after := #[{ on := 7, ground := Go.Ground.data }, { on := 7, ground := Go.Ground.chain }, { on := 0, ground := Go.Ground.phase }, { on := 1, ground := Go.Ground.phase }, { on := 2, ground := Go.Ground.phase }, { on := 3, ground := Go.Ground.phase }, { on := 4, ground := Go.Ground.phase }, { on := 5, ground := Go.Ground.phase }, { on := 6, ground := Go.Ground.phase }, { on := 7, ground := Go.Ground.phase }], guard := none } : Oper)) rfl (fun K hK => ?_) ?_
        · go_simp
          refine hK.out _ _ ?_ (fun hHeld => ?_)
          · exact ⟨(hHeld.1.far (by omega)).far (by omega), (hHeld.2.far (by omega)).far (by omega)⟩
          clear hK K
          (try simp only [Act.put, List.setIfInBounds_toArray, List.set_cons_zero, List.set_cons_succ])
          refine wpAnyH_done (by kernel_rfl) ?_ _
          refine NoPanic.normal ?_
          go_wp2_with fail
          have hB9 := (BB2.out.setCell (p := ⟨w.heap.size + 1 + 1, 0, none⟩) (by show w.heap.size ≤ w.heap.size + 1 + 1; omega) (.bool q)).setCell (p := ⟨w.heap.size + 1 + 1, 1, none⟩) (by show w.heap.size ≤ w.heap.size + 1 + 1; omega) (.slice a k c)
          have hN9 := HN2.out.over (w2 := (w2.setCell ⟨w.heap.size + 1 + 1, 0, none⟩ (.bool q)).setCell ⟨w.heap.size + 1 + 1, 1, none⟩ (.slice a k c)) c0 c1' (fun q hq => (Below.heap_setCell _ _ _ _ hq).trans (Below.heap_setCell _ _ _ _ hq)) (by simp [World.setCell]) N2.out (fun x e => by cases e)
          refine bodyPost_ret (results_cell_row rfl _ _ (w.heap.size + 1 + 1) 49 #[.bool q, .slice a k c] (0, 0) _ rfl HA.out Tryz.underlying49 rfl info_number) rfl ?_
          exact ⟨_, rfl, ⟨.slice a k c, by rw [sign_true (s := s) (M := (X + Y)) (by have := HSS.out; (try simp only [if_true] at this); (try simp only [if_false, Bool.false_eq_true] at this); omega), HZ.out], by rw [show s.natAbs = X + Y from by have := HSS.out; (try simp only [if_true] at this); (try simp only [if_false, Bool.false_eq_true] at this); omega]; exact hN9⟩, hB9⟩
        exact AllReadyH.nil
      exact AllReadyH.nil
    exact AllReadyH.nil

theorem nplus_any (x y : Int) (v1 v2 : Value) (w : World) (hl1 : (grp x.natAbs).length ≤ 50000) (hl2 : (grp y.natAbs).length ≤ 50000) (h1 : Num w v1 x) (h2 : Num w v2 y) :
    Calls Tryz.prog 31 #[v1, v2] w fun e w' => ∃ v, e = .returned v ∧ Num w' v (x + y) ∧ Below w.heap.size w w' := by
  obtain ⟨u1, rfl, h1⟩ := h1
  obtain ⟨u2, rfl, h2⟩ := h2
  refine nplus_form _ _ x.natAbs y.natAbs _ u1 u2 w hl1 hl2 h1 h2 ?_
  by_cases hx : x < 0 <;> by_cases hy : y < 0 <;> simp [hx, hy] <;> omega
end Go.Proofs.YtbdiofifjckceaaGreatDoor
