/- The functions of the packages and of the references, by contract: part 2. -/
import Derived.Deep.Cut
import Derived.Test.YtdnbhgkbfbgnaaaGreatDoorHa
namespace Go.Proofs.YtdnbhgkbfbgnaaaGreatDoor
open Go.RowKit
theorem below_far {n : Nat} {w W : World} (h : Below n w W) {g j : Nat} (hg : n ≤ g) (v : Value) : Below n w (W.setCell ⟨g, j, none⟩ v) := h.setCell (p := ⟨g, j, none⟩) hg v
theorem NSl.two {w : World} {u : Value} {n g : Nat} {b : Bool} {s : Value} (h : NSl w u n) (hk : NBlk w g (.bool b) s) (hs : ∀ x, s ≠ .int .i64 x) (x y : Value) : NSl ((w.setCell ⟨g, 0, none⟩ x).setCell ⟨g, 1, none⟩ y) u n :=
 h.over hk.c0 hk.c1 (fun _ hq => (Below.heap_setCell _ _ _ _ hq).trans (Below.heap_setCell _ _ _ _ hq)) (by simp [World.setCell]) (fun _ hj => hk.c2 hj) hs
theorem sign_false {s : Int} {M : Nat} (h : s = M) : decide (s < 0) = (false && decide (0 < M)) := by rw [Bool.false_and, decide_eq_false_iff_not]; omega
theorem sign_true {s : Int} {M : Nat} (h : s = -(M : Int)) : decide (s < 0) = (true && decide (0 < M)) := by rw [Bool.true_and, decide_eq_decide]; omega
set_option maxRecDepth 100000 in
set_option maxHeartbeats 2000000 in
theorem nplus_form (b1 b2 : Bool) (X Y : Nat) (s : Int) (u1 u2 : Value) (w : World) (hl1 : (grp X).length ≤ 50000) (hl2 : (grp Y).length ≤ 50000) (h1 : NSl w u1 X) (h2 : NSl w u2 Y)
  (hs : s = (if b1 then -(X : Int) else X) + (if b2 then -(Y : Int) else Y)) :
  Calls Tryz.prog 132 #[.agg #[.bool b1, u1], .agg #[.bool b2, u2]] w fun e w' => ∃ v, e = .returned v ∧ Num w' v s ∧ Below w.heap.size w w' := by
 obtain ⟨a1, c1, rfl⟩ := h1.form
 obtain ⟨a2, c2, rfl⟩ := h2.form
 have hgP : (grp (X + Y)).length ≤ 60000 := by
  have h3 : X + Y < 10000 ^ (max (grp X).length (grp Y).length + 1) := by
   have e1 := grp_lt X
   have e2 := grp_lt Y
   have e3 : 10000 ^ (grp X).length ≤ 10000 ^ (max (grp X).length (grp Y).length) := Nat.pow_le_pow_right (by decide) (by omega)
   have e4 : 10000 ^ (grp Y).length ≤ 10000 ^ (max (grp X).length (grp Y).length) := Nat.pow_le_pow_right (by decide) (by omega)
   rw [Nat.pow_succ]
   omega
  exact Nat.le_trans (grp_len h3) (by omega)
 have hgM : (grp (X - Y)).length ≤ 60000 := Nat.le_trans (grp_mono (Nat.sub_le _ _)) (by omega)
 have hgN : (grp (Y - X)).length ≤ 60000 := Nat.le_trans (grp_mono (Nat.sub_le _ _)) (by omega)
 have CP := Lib.hid (fun (W : World) (g1 : NSl W (.slice a1 (grp X).length c1) X) (g2 : NSl W (.slice a2 (grp Y).length c2) Y) => plus_any X Y _ _ W (by omega) (by omega) g1 g2)
 have CM := Lib.hid (fun (W : World) (h : Y ≤ X) (g1 : NSl W (.slice a1 (grp X).length c1) X) (g2 : NSl W (.slice a2 (grp Y).length c2) Y) => minus_any X Y _ _ W h (by omega) g1 g2)
 have CN := Lib.hid (fun (W : World) (h : X ≤ Y) (g1 : NSl W (.slice a1 (grp X).length c1) X) (g2 : NSl W (.slice a2 (grp Y).length c2) Y) => minus_any Y X _ _ W h (by omega) g2 g1)
 have CC := Lib.hid (fun (W : World) (g1 : NSl W (.slice a1 (grp X).length c1) X) (g2 : NSl W (.slice a2 (grp Y).length c2) Y) => compare_any X Y _ _ W (by omega) g1 g2)
 have H1 := Lib.hid h1
 have H2 := Lib.hid h2
 have HSS := Lib.hid hs
 clear h1 h2 hs hl1 hl2
 generalize (grp X).length = k1 at *
 generalize (grp Y).length = k2 at *
 have cS := fun (W : World) b u n (h : NSl W u n) (hl : (grp n).length ≤ 60000) => signed_form b n u W h hl
 have CS := Lib.hid cS
 clear cS
 cases b1 <;> cases b2
 ·
  go_enter Tryz.func132, Tryz.ntmps132
  have hB3 := (((below_alloc w (.cells #[.bool false, .slice a1 k1 c1] 114)).alloc (by simp only [World.size_alloc]; omega) (.cells #[.bool false, .slice a2 k2 c2] 114)).alloc (by simp only [World.size_alloc]; omega) (.cells #[.bool false, .slice none 0 0] 114))
  obtain ⟨hW0, hW1, hW⟩ := three_blocks w (.bool false) (.slice a1 k1 c1) (.bool false) (.slice a2 k2 c2) (.bool false) (.slice none 0 0)
  have HS := Lib.hid hW.lt
  have HB := Lib.hid hB3
  have HW := Lib.hid hW
  have HW0 := Lib.hid hW0
  have HW1 := Lib.hid hW1
  clear hB3 hW hW0 hW1
  go_wp2_with fail
  refine wp_region_noPanic ?_
  refine wp_region_held_drew (S := fun W => NBlk W w.heap.size (.bool false) (.slice a1 k1 c1) ∧ NBlk W (w.heap.size + 1) (.bool false) (.slice a2 k2 c2)) (by kernel_rfl) ?_ (fun hHeld => ?_)
  ·
   exact ⟨HW0.out, HW1.out⟩
  refine tk 0 (oi := ({ dst := some 10, op := .fieldAddr 114 (.tmp 2) 0, type := 0, pos := "number.go:49", after := #[], guard := none } : Oper)) (v := ?v0_1sf) ?hy0_1sf ?re0_1sf
  case hy0_1sf => ((intro w hSw; obtain ⟨q1, q2⟩ := hSw; have e1 := q1.c0; have e2 := q1.c1; have e3 := q2.c0; have e4 := q2.c1; go_simp) <;> with_reducible rfl)
  (try simp only [Act.put, List.setIfInBounds_toArray, List.set_cons_zero, List.set_cons_succ])
  refine tk 1 (oi := ({ dst := some 11, op := .load 4 (.tmp 10), type := 4, pos := "number.go:49", after := #[⟨0, .data⟩], guard := none } : Oper)) (v := ?v1_2sf) ?hy1_2sf ?re1_2sf
  case hy1_2sf => ((intro w hSw; obtain ⟨q1, q2⟩ := hSw; have e1 := q1.c0; have e2 := q1.c1; have e3 := q2.c0; have e4 := q2.c1; go_simp) <;> with_reducible rfl)
  (try simp only [Act.put, List.setIfInBounds_toArray, List.set_cons_zero, List.set_cons_succ])
  refine tk 2 (oi := ({ dst := some 12, op := .fieldAddr 114 (.tmp 2) 1, type := 0, pos := "number.go:49", after := #[], guard := none } : Oper)) (v := ?v2_3sf) ?hy2_3sf ?re2_3sf
  case hy2_3sf => ((intro w hSw; obtain ⟨q1, q2⟩ := hSw; have e1 := q1.c0; have e2 := q1.c1; have e3 := q2.c0; have e4 := q2.c1; go_simp) <;> with_reducible rfl)
  (try simp only [Act.put, List.setIfInBounds_toArray, List.set_cons_zero, List.set_cons_succ])
  refine tk 3 (oi := ({ dst := some 13, op := .load 112 (.tmp 12), type := 112, pos := "number.go:49", after := #[⟨2, .data⟩], guard := none } : Oper)) (v := ?v3_4sf) ?hy3_4sf ?re3_4sf
  case hy3_4sf => ((intro w hSw; obtain ⟨q1, q2⟩ := hSw; have e1 := q1.c0; have e2 := q1.c1; have e3 := q2.c0; have e4 := q2.c1; go_simp) <;> with_reducible rfl)
  (try simp only [Act.put, List.setIfInBounds_toArray, List.set_cons_zero, List.set_cons_succ])
  refine tk 4 (oi := ({ dst := some 14, op := .fieldAddr 114 (.tmp 3) 1, type := 0, pos := "number.go:49", after := #[], guard := none } : Oper)) (v := ?v4_5sf) ?hy4_5sf ?re4_5sf
  case hy4_5sf => ((intro w hSw; obtain ⟨q1, q2⟩ := hSw; have e1 := q1.c0; have e2 := q1.c1; have e3 := q2.c0; have e4 := q2.c1; go_simp) <;> with_reducible rfl)
  (try simp only [Act.put, List.setIfInBounds_toArray, List.set_cons_zero, List.set_cons_succ])
  refine tk 5 (oi := ({ dst := some 15, op := .load 112 (.tmp 14), type := 112, pos := "number.go:49", after := #[⟨4, .data⟩], guard := none } : Oper)) (v := ?v5_6sf) ?hy5_6sf ?re5_6sf
  case hy5_6sf => ((intro w hSw; obtain ⟨q1, q2⟩ := hSw; have e1 := q1.c0; have e2 := q1.c1; have e3 := q2.c0; have e4 := q2.c1; go_simp) <;> with_reducible rfl)
  (try simp only [Act.put, List.setIfInBounds_toArray, List.set_cons_zero, List.set_cons_succ])
  refine wpAnyH_ready (rs := [6]) (by kernel_rfl) (by simp) ?_
  refine AllReadyH.cons (o := ({ dst := some 16, op := .call { callee := .value (.func 152), args := #[.tmp 13, .tmp 15], argTypes := #[112, 112] }, type := 112, pos := "number.go:49", after := #[⟨3, .data⟩, ⟨5, .data⟩], guard := none } : Oper)) rfl (fun K hK => ?_) ?_
  ·
   go_simp
   go_at_call 152
   refine (CP.out _ (H1.out.below HB.out.drew) (H2.out.below HB.out.drew)).mono ?_
   rintro e w1 ⟨g, rfl, n1, B1⟩
   have hW1 := HW.out.keep (drew_left B1) HS.out; have N1 := Lib.hid n1; have BB1 := Lib.hid (HB.out.trans ((drew_left B1).mono HB.out.size)); have HW1' := Lib.hid hW1; clear n1 hW1
   (try go_wp2_with fail)
   refine hK.out _ _ ?_ (fun hHeld => ?_)
   ·
    exact ⟨hHeld.1.keep B1 hHeld.1.lt, hHeld.2.keep B1 hHeld.2.lt⟩
   clear hK K
   (try simp only [Act.put, List.setIfInBounds_toArray, List.set_cons_zero, List.set_cons_succ])
   refine wpAnyH_ready (rs := [7]) (by kernel_rfl) (by simp) ?_
   refine AllReadyH.cons (o := ({ dst := some 17, op := .call { callee := .value (.func 154), args := #[.tmp 11, .tmp 16], argTypes := #[4, 112] }, type := 114, pos := "number.go:49", after := #[⟨1, .data⟩, ⟨6, .data⟩, ⟨6, .chain⟩], guard := none } : Oper)) rfl (fun K hK => ?_) ?_
   ·
    go_simp
    go_at_call 154
    refine (CS.out _ _ _ _ N1.out hgP).mono ?_
    rintro e w2 ⟨q, a, k, c, rfl, hq, n2, B2⟩
    have h0 := HW1'.out.keep B2 HW1'.out.lt; have c0 := h0.c0; have f0 := h0.f 0; have c1' := h0.c1; have N2 := Lib.hid (fun j (hj : 2 ≤ j) => h0.c2 hj); have hA := h0.s0 (.bool q); have c1 := hA.c1; have f1 := hA.f 1; have HA := Lib.hid (hA.s1 (.slice a k c)); clear hA; have HN2 := Lib.hid n2; have BB2 := Lib.hid (BB1.out.trans (B2.mono BB1.out.size)); have HZ := Lib.hid hq; clear h0 n2 hq
    (try go_wp2_with fail)
    refine hK.out _ _ ?_ (fun hHeld => ?_)
    ·
     exact ⟨hHeld.1.keep B2 hHeld.1.lt, hHeld.2.keep B2 hHeld.2.lt⟩
    clear hK K
    (try simp only [Act.put, List.setIfInBounds_toArray, List.set_cons_zero, List.set_cons_succ])
    refine wpAnyH_ready (rs := [8]) (by kernel_rfl) (by simp) ?_
    refine AllReadyH.cons (o := ({ dst := none, op := .store 114 (.tmp 4) (.tmp 17), type := 0, pos := "number.go:49", after := #[⟨7, .data⟩, ⟨7, .chain⟩, ⟨0, .phase⟩, ⟨1, .phase⟩, ⟨2, .phase⟩, ⟨3, .phase⟩, ⟨4, .phase⟩, ⟨5, .phase⟩, ⟨6, .phase⟩, ⟨7, .phase⟩], guard := none } : Oper)) rfl (fun K hK => ?_) ?_
    ·
     go_simp
     refine hK.out _ _ ?_ (fun hHeld => ?_)
     ·
      exact ⟨(hHeld.1.far (by omega)).far (by omega), (hHeld.2.far (by omega)).far (by omega)⟩
     clear hK K
     (try simp only [Act.put, List.setIfInBounds_toArray, List.set_cons_zero, List.set_cons_succ])
     refine wpAnyH_done (by kernel_rfl) ?_ _
     refine NoPanic.normal ?_
     go_wp2_with fail
     have hB9 := (BB2.out.setCell (p := ⟨w.heap.size + 1 + 1, 0, none⟩) (by show w.heap.size ≤ w.heap.size + 1 + 1; omega) (.bool q)).setCell (p := ⟨w.heap.size + 1 + 1, 1, none⟩) (by show w.heap.size ≤ w.heap.size + 1 + 1; omega) (.slice a k c)
     have hN9 := HN2.out.over (w2 := (w2.setCell ⟨w.heap.size + 1 + 1, 0, none⟩ (.bool q)).setCell ⟨w.heap.size + 1 + 1, 1, none⟩ (.slice a k c)) c0 c1' (fun q hq => (Below.heap_setCell _ _ _ _ hq).trans (Below.heap_setCell _ _ _ _ hq)) (by simp [World.setCell]) N2.out (fun x e => by cases e)
     refine bodyPost_ret (results_cell_row rfl _ _ (w.heap.size + 1 + 1) 114 #[.bool q, .slice a k c] (0, 0) _ rfl HA.out Tryz.underlying114 rfl info_number) rfl ?_
     exact ⟨_, rfl, ⟨.slice a k c, by rw [sign_false (s := s) (M := (X + Y)) (by have := HSS.out; (try simp only [if_true] at this); (try simp only [if_false, Bool.false_eq_true] at this); omega), HZ.out], by rw [show s.natAbs = X + Y from by have := HSS.out; (try simp only [if_true] at this); (try simp only [if_false, Bool.false_eq_true] at this); omega]; exact hN9⟩, hB9⟩
    exact AllReadyH.nil
   exact AllReadyH.nil
  exact AllReadyH.nil
 ·
  rcases Nat.lt_or_ge X Y with hXY | hXY
  ·
   have hc : cmpN (X : Int) (Y : Int) = -1 := by rw [cmpN, if_pos (by omega)]
   rw [hc] at CC
   clear hc
   go_enter Tryz.func132, Tryz.ntmps132
   have hB3 := (((below_alloc w (.cells #[.bool false, .slice a1 k1 c1] 114)).alloc (by simp only [World.size_alloc]; omega) (.cells #[.bool true, .slice a2 k2 c2] 114)).alloc (by simp only [World.size_alloc]; omega) (.cells #[.bool false, .slice none 0 0] 114))
   obtain ⟨hW0, hW1, hW⟩ := three_blocks w (.bool false) (.slice a1 k1 c1) (.bool true) (.slice a2 k2 c2) (.bool false) (.slice none 0 0)
   have HS := Lib.hid hW.lt
   have HB := Lib.hid hB3
   have HW := Lib.hid hW
   have HW0 := Lib.hid hW0
   have HW1 := Lib.hid hW1
   clear hB3 hW hW0 hW1
   go_wp2_with (go_at_call 156; go_loud ((with_reducible refine (CC.out _ (H1.out.below HB.out) (H2.out.below HB.out)).mono ?_); rintro e w1 ⟨rfl, B1⟩; have hW0' := HW0.out.keep B1 (by have := HS.out; omega); have hW1' := HW1.out.keep B1 (by have := HS.out; omega); have hW' := HW.out.keep B1 HS.out; have hs1 := Nat.lt_of_lt_of_le HS.out B1.size; have hB' := HB.out.trans (B1.mono HB.out.size); have n1 := H1.out.below hB'; have n2 := H2.out.below hB'; have HS' := Lib.hid hs1; clear hs1; have r0 := hW0'.c0; have r1 := hW0'.c1; have r2 := hW1'.c0; have r3 := hW1'.c1; have f0 := hW0'.f 0; have A1 := hW0'.s0 (.bool true); have r4 := A1.c1; have f1 := A1.f 1; have A2 := A1.s1 (.slice a2 k2 c2); have K1 := (hW1'.far (g2 := w.heap.size) (j := 0) (v := .bool true) (by omega)).far (g2 := w.heap.size) (j := 1) (v := .slice a2 k2 c2) (by omega); have r5 := K1.c0; have f2 := K1.f 0; have K2 := K1.s0 (.bool false); have r6 := K2.c1; have f3 := K2.f 1; have K3 := K2.s1 (.slice a1 k1 c1); have A3 := (A2.far (g2 := w.heap.size + 1) (j := 0) (v := .bool false) (by omega)).far (g2 := w.heap.size + 1) (j := 1) (v := .slice a1 k1 c1) (by omega); have E := (((hW'.far (g2 := w.heap.size) (j := 0) (v := .bool true) (by omega)).far (g2 := w.heap.size) (j := 1) (v := .slice a2 k2 c2) (by omega)).far (g2 := w.heap.size + 1) (j := 0) (v := .bool false) (by omega)).far (g2 := w.heap.size + 1) (j := 1) (v := .slice a1 k1 c1) (by omega); have m1 := (n1.two hW0' (fun x e => by cases e) (.bool true) (.slice a2 k2 c2)).two K1 (fun x e => by cases e) (.bool false) (.slice a1 k1 c1); have m2 := (n2.two hW0' (fun x e => by cases e) (.bool true) (.slice a2 k2 c2)).two K1 (fun x e => by cases e) (.bool false) (.slice a1 k1 c1); have b9 := below_far (j := 1) (below_far (j := 0) (below_far (j := 1) (below_far (j := 0) hB' (Nat.le_refl w.heap.size) (.bool true)) (Nat.le_refl w.heap.size) (.slice a2 k2 c2)) (Nat.le_succ w.heap.size) (.bool false)) (Nat.le_succ w.heap.size) (.slice a1 k1 c1); clear HW HW0 HW1 HS HB; have HS := Lib.hid E.lt; have HW := Lib.hid E; have HW0 := Lib.hid A3; have HW1 := Lib.hid K3; have HB := Lib.hid b9; have Hm1 := Lib.hid m1; have Hm2 := Lib.hid m2; clear E A3 K3 b9 m1 m2 n1 n2 hB' K1 K2 A1 A2 hW0' hW1' hW' HS' B1))
   refine wp_region_noPanic ?_
   refine wp_region_held_drew (S := fun W => NBlk W w.heap.size (.bool true) (.slice a2 k2 c2) ∧ NBlk W (w.heap.size + 1) (.bool false) (.slice a1 k1 c1)) (by kernel_rfl) ?_ (fun hHeld => ?_)
   ·
    exact ⟨HW0.out, HW1.out⟩
   refine tk 0 (oi := ({ dst := some 26, op := .fieldAddr 114 (.tmp 2) 0, type := 0, pos := "number.go:54", after := #[], guard := none } : Oper)) (v := ?v0_1lf) ?hy0_1lf ?re0_1lf
   case hy0_1lf => ((intro w hSw; obtain ⟨q1, q2⟩ := hSw; have e1 := q1.c0; have e2 := q1.c1; have e3 := q2.c0; have e4 := q2.c1; go_simp) <;> with_reducible rfl)
   (try simp only [Act.put, List.setIfInBounds_toArray, List.set_cons_zero, List.set_cons_succ])
   refine tk 1 (oi := ({ dst := some 27, op := .load 4 (.tmp 26), type := 4, pos := "number.go:54", after := #[⟨0, .data⟩], guard := none } : Oper)) (v := ?v1_2lf) ?hy1_2lf ?re1_2lf
   case hy1_2lf => ((intro w hSw; obtain ⟨q1, q2⟩ := hSw; have e1 := q1.c0; have e2 := q1.c1; have e3 := q2.c0; have e4 := q2.c1; go_simp) <;> with_reducible rfl)
   (try simp only [Act.put, List.setIfInBounds_toArray, List.set_cons_zero, List.set_cons_succ])
   refine tk 2 (oi := ({ dst := some 28, op := .fieldAddr 114 (.tmp 2) 1, type := 0, pos := "number.go:54", after := #[], guard := none } : Oper)) (v := ?v2_3lf) ?hy2_3lf ?re2_3lf
   case hy2_3lf => ((intro w hSw; obtain ⟨q1, q2⟩ := hSw; have e1 := q1.c0; have e2 := q1.c1; have e3 := q2.c0; have e4 := q2.c1; go_simp) <;> with_reducible rfl)
   (try simp only [Act.put, List.setIfInBounds_toArray, List.set_cons_zero, List.set_cons_succ])
   refine tk 3 (oi := ({ dst := some 29, op := .load 112 (.tmp 28), type := 112, pos := "number.go:54", after := #[⟨2, .data⟩], guard := none } : Oper)) (v := ?v3_4lf) ?hy3_4lf ?re3_4lf
   case hy3_4lf => ((intro w hSw; obtain ⟨q1, q2⟩ := hSw; have e1 := q1.c0; have e2 := q1.c1; have e3 := q2.c0; have e4 := q2.c1; go_simp) <;> with_reducible rfl)
   (try simp only [Act.put, List.setIfInBounds_toArray, List.set_cons_zero, List.set_cons_succ])
   refine tk 4 (oi := ({ dst := some 30, op := .fieldAddr 114 (.tmp 3) 1, type := 0, pos := "number.go:54", after := #[], guard := none } : Oper)) (v := ?v4_5lf) ?hy4_5lf ?re4_5lf
   case hy4_5lf => ((intro w hSw; obtain ⟨q1, q2⟩ := hSw; have e1 := q1.c0; have e2 := q1.c1; have e3 := q2.c0; have e4 := q2.c1; go_simp) <;> with_reducible rfl)
   (try simp only [Act.put, List.setIfInBounds_toArray, List.set_cons_zero, List.set_cons_succ])
   refine tk 5 (oi := ({ dst := some 31, op := .load 112 (.tmp 30), type := 112, pos := "number.go:54", after := #[⟨4, .data⟩], guard := none } : Oper)) (v := ?v5_6lf) ?hy5_6lf ?re5_6lf
   case hy5_6lf => ((intro w hSw; obtain ⟨q1, q2⟩ := hSw; have e1 := q1.c0; have e2 := q1.c1; have e3 := q2.c0; have e4 := q2.c1; go_simp) <;> with_reducible rfl)
   (try simp only [Act.put, List.setIfInBounds_toArray, List.set_cons_zero, List.set_cons_succ])
   refine wpAnyH_ready (rs := [6]) (by kernel_rfl) (by simp) ?_
   refine AllReadyH.cons (o := ({ dst := some 32, op := .call { callee := .value (.func 153), args := #[.tmp 29, .tmp 31], argTypes := #[112, 112] }, type := 112, pos := "number.go:54", after := #[⟨3, .data⟩, ⟨5, .data⟩], guard := none } : Oper)) rfl (fun K hK => ?_) ?_
   ·
    go_simp
    go_at_call 153
    refine (CN.out _ (Nat.le_of_lt hXY) (Hm1.out.below (Below.refl _ _).drew) (Hm2.out.below (Below.refl _ _).drew)).mono ?_
    rintro e w1 ⟨g, rfl, n1, B1⟩
    have hW1 := HW.out.keep (drew_left B1) HS.out; have N1 := Lib.hid n1; have BB1 := Lib.hid (HB.out.trans ((drew_left B1).mono HB.out.size)); have HW1' := Lib.hid hW1; clear n1 hW1
    (try go_wp2_with fail)
    refine hK.out _ _ ?_ (fun hHeld => ?_)
    ·
     exact ⟨hHeld.1.keep B1 hHeld.1.lt, hHeld.2.keep B1 hHeld.2.lt⟩
    clear hK K
    (try simp only [Act.put, List.setIfInBounds_toArray, List.set_cons_zero, List.set_cons_succ])
    refine wpAnyH_ready (rs := [7]) (by kernel_rfl) (by simp) ?_
    refine AllReadyH.cons (o := ({ dst := some 33, op := .call { callee := .value (.func 154), args := #[.tmp 27, .tmp 32], argTypes := #[4, 112] }, type := 114, pos := "number.go:54", after := #[⟨1, .data⟩, ⟨6, .data⟩, ⟨6, .chain⟩], guard := none } : Oper)) rfl (fun K hK => ?_) ?_
    ·
     go_simp
     go_at_call 154
     refine (CS.out _ _ _ _ N1.out hgN).mono ?_
     rintro e w2 ⟨q, a, k, c, rfl, hq, n2, B2⟩
     have h0 := HW1'.out.keep B2 HW1'.out.lt; have c0 := h0.c0; have f0 := h0.f 0; have c1' := h0.c1; have N2 := Lib.hid (fun j (hj : 2 ≤ j) => h0.c2 hj); have hA := h0.s0 (.bool q); have c1 := hA.c1; have f1 := hA.f 1; have HA := Lib.hid (hA.s1 (.slice a k c)); clear hA; have HN2 := Lib.hid n2; have BB2 := Lib.hid (BB1.out.trans (B2.mono BB1.out.size)); have HZ := Lib.hid hq; clear h0 n2 hq
     (try go_wp2_with fail)
     refine hK.out _ _ ?_ (fun hHeld => ?_)
     ·
      exact ⟨hHeld.1.keep B2 hHeld.1.lt, hHeld.2.keep B2 hHeld.2.lt⟩
     clear hK K
     (try simp only [Act.put, List.setIfInBounds_toArray, List.set_cons_zero, List.set_cons_succ])
     refine wpAnyH_ready (rs := [8]) (by kernel_rfl) (by simp) ?_
     refine AllReadyH.cons (o := ({ dst := none, op := .store 114 (.tmp 4) (.tmp 33), type := 0, pos := "number.go:54", after := #[⟨7, .data⟩, ⟨7, .chain⟩, ⟨0, .phase⟩, ⟨1, .phase⟩, ⟨2, .phase⟩, ⟨3, .phase⟩, ⟨4, .phase⟩, ⟨5, .phase⟩, ⟨6, .phase⟩, ⟨7, .phase⟩], guard := none } : Oper)) rfl (fun K hK => ?_) ?_
     ·
      go_simp
      refine hK.out _ _ ?_ (fun hHeld => ?_)
      ·
       exact ⟨(hHeld.1.far (by omega)).far (by omega), (hHeld.2.far (by omega)).far (by omega)⟩
      clear hK K
      (try simp only [Act.put, List.setIfInBounds_toArray, List.set_cons_zero, List.set_cons_succ])
      refine wpAnyH_done (by kernel_rfl) ?_ _
      refine NoPanic.normal ?_
      go_wp2_with fail
      have hB9 := (BB2.out.setCell (p := ⟨w.heap.size + 1 + 1, 0, none⟩) (by show w.heap.size ≤ w.heap.size + 1 + 1; omega) (.bool q)).setCell (p := ⟨w.heap.size + 1 + 1, 1, none⟩) (by show w.heap.size ≤ w.heap.size + 1 + 1; omega) (.slice a k c)
      have hN9 := HN2.out.over (w2 := (w2.setCell ⟨w.heap.size + 1 + 1, 0, none⟩ (.bool q)).setCell ⟨w.heap.size + 1 + 1, 1, none⟩ (.slice a k c)) c0 c1' (fun q hq => (Below.heap_setCell _ _ _ _ hq).trans (Below.heap_setCell _ _ _ _ hq)) (by simp [World.setCell]) N2.out (fun x e => by cases e)
      refine bodyPost_ret (results_cell_row rfl _ _ (w.heap.size + 1 + 1) 114 #[.bool q, .slice a k c] (0, 0) _ rfl HA.out Tryz.underlying114 rfl info_number) rfl ?_
      exact ⟨_, rfl, ⟨.slice a k c, by rw [sign_true (s := s) (M := (Y - X)) (by have := HSS.out; (try simp only [if_true] at this); (try simp only [if_false, Bool.false_eq_true] at this); omega), HZ.out], by rw [show s.natAbs = Y - X from by have := HSS.out; (try simp only [if_true] at this); (try simp only [if_false, Bool.false_eq_true] at this); omega]; exact hN9⟩, hB9⟩
     exact AllReadyH.nil
    exact AllReadyH.nil
   exact AllReadyH.nil
  ·
   rcases Nat.eq_or_lt_of_le hXY with hE | hE
   ·
    have hc : cmpN (X : Int) (Y : Int) = 0 := by rw [cmpN, if_neg (by omega), if_neg (by omega)]
    rw [hc] at CC
    clear hc hE
    go_enter Tryz.func132, Tryz.ntmps132
    have hB3 := (((below_alloc w (.cells #[.bool false, .slice a1 k1 c1] 114)).alloc (by simp only [World.size_alloc]; omega) (.cells #[.bool true, .slice a2 k2 c2] 114)).alloc (by simp only [World.size_alloc]; omega) (.cells #[.bool false, .slice none 0 0] 114))
    obtain ⟨hW0, hW1, hW⟩ := three_blocks w (.bool false) (.slice a1 k1 c1) (.bool true) (.slice a2 k2 c2) (.bool false) (.slice none 0 0)
    have HS := Lib.hid hW.lt
    have HB := Lib.hid hB3
    have HW := Lib.hid hW
    have HW0 := Lib.hid hW0
    have HW1 := Lib.hid hW1
    clear hB3 hW hW0 hW1
    go_wp2_with (go_at_call 156; go_loud ((with_reducible refine (CC.out _ (H1.out.below HB.out) (H2.out.below HB.out)).mono ?_); rintro e w1 ⟨rfl, B1⟩; have hW0' := HW0.out.keep B1 (by have := HS.out; omega); have hW1' := HW1.out.keep B1 (by have := HS.out; omega); have hW' := HW.out.keep B1 HS.out; have hs1 := Nat.lt_of_lt_of_le HS.out B1.size; have hB' := HB.out.trans (B1.mono HB.out.size); have n1 := H1.out.below hB'; have n2 := H2.out.below hB'; have HS' := Lib.hid hs1; clear hs1; clear HW HW0 HW1 HS HB; have HS := Lib.hid HS'.out; have HW := Lib.hid hW'; have HW0 := Lib.hid hW0'; have HW1 := Lib.hid hW1'; have HB := Lib.hid hB'; have Hm1 := Lib.hid n1; have Hm2 := Lib.hid n2; clear n1 n2 hB' hW0' hW1' hW' HS' B1))
    refine wp_region_noPanic ?_
    refine wp_region_held_drew (S := fun W => NBlk W w.heap.size (.bool false) (.slice a1 k1 c1) ∧ NBlk W (w.heap.size + 1) (.bool true) (.slice a2 k2 c2)) (by kernel_rfl) ?_ (fun hHeld => ?_)
    ·
     exact ⟨HW0.out, HW1.out⟩
    refine tk 0 (oi := ({ dst := some 26, op := .fieldAddr 114 (.tmp 2) 0, type := 0, pos := "number.go:54", after := #[], guard := none } : Oper)) (v := ?v0_1ef) ?hy0_1ef ?re0_1ef
    case hy0_1ef => ((intro w hSw; obtain ⟨q1, q2⟩ := hSw; have e1 := q1.c0; have e2 := q1.c1; have e3 := q2.c0; have e4 := q2.c1; go_simp) <;> with_reducible rfl)
    (try simp only [Act.put, List.setIfInBounds_toArray, List.set_cons_zero, List.set_cons_succ])
    refine tk 1 (oi := ({ dst := some 27, op := .load 4 (.tmp 26), type := 4, pos := "number.go:54", after := #[⟨0, .data⟩], guard := none } : Oper)) (v := ?v1_2ef) ?hy1_2ef ?re1_2ef
    case hy1_2ef => ((intro w hSw; obtain ⟨q1, q2⟩ := hSw; have e1 := q1.c0; have e2 := q1.c1; have e3 := q2.c0; have e4 := q2.c1; go_simp) <;> with_reducible rfl)
    (try simp only [Act.put, List.setIfInBounds_toArray, List.set_cons_zero, List.set_cons_succ])
    refine tk 2 (oi := ({ dst := some 28, op := .fieldAddr 114 (.tmp 2) 1, type := 0, pos := "number.go:54", after := #[], guard := none } : Oper)) (v := ?v2_3ef) ?hy2_3ef ?re2_3ef
    case hy2_3ef => ((intro w hSw; obtain ⟨q1, q2⟩ := hSw; have e1 := q1.c0; have e2 := q1.c1; have e3 := q2.c0; have e4 := q2.c1; go_simp) <;> with_reducible rfl)
    (try simp only [Act.put, List.setIfInBounds_toArray, List.set_cons_zero, List.set_cons_succ])
    refine tk 3 (oi := ({ dst := some 29, op := .load 112 (.tmp 28), type := 112, pos := "number.go:54", after := #[⟨2, .data⟩], guard := none } : Oper)) (v := ?v3_4ef) ?hy3_4ef ?re3_4ef
    case hy3_4ef => ((intro w hSw; obtain ⟨q1, q2⟩ := hSw; have e1 := q1.c0; have e2 := q1.c1; have e3 := q2.c0; have e4 := q2.c1; go_simp) <;> with_reducible rfl)
    (try simp only [Act.put, List.setIfInBounds_toArray, List.set_cons_zero, List.set_cons_succ])
    refine tk 4 (oi := ({ dst := some 30, op := .fieldAddr 114 (.tmp 3) 1, type := 0, pos := "number.go:54", after := #[], guard := none } : Oper)) (v := ?v4_5ef) ?hy4_5ef ?re4_5ef
    case hy4_5ef => ((intro w hSw; obtain ⟨q1, q2⟩ := hSw; have e1 := q1.c0; have e2 := q1.c1; have e3 := q2.c0; have e4 := q2.c1; go_simp) <;> with_reducible rfl)
    (try simp only [Act.put, List.setIfInBounds_toArray, List.set_cons_zero, List.set_cons_succ])
    refine tk 5 (oi := ({ dst := some 31, op := .load 112 (.tmp 30), type := 112, pos := "number.go:54", after := #[⟨4, .data⟩], guard := none } : Oper)) (v := ?v5_6ef) ?hy5_6ef ?re5_6ef
    case hy5_6ef => ((intro w hSw; obtain ⟨q1, q2⟩ := hSw; have e1 := q1.c0; have e2 := q1.c1; have e3 := q2.c0; have e4 := q2.c1; go_simp) <;> with_reducible rfl)
    (try simp only [Act.put, List.setIfInBounds_toArray, List.set_cons_zero, List.set_cons_succ])
    refine wpAnyH_ready (rs := [6]) (by kernel_rfl) (by simp) ?_
    refine AllReadyH.cons (o := ({ dst := some 32, op := .call { callee := .value (.func 153), args := #[.tmp 29, .tmp 31], argTypes := #[112, 112] }, type := 112, pos := "number.go:54", after := #[⟨3, .data⟩, ⟨5, .data⟩], guard := none } : Oper)) rfl (fun K hK => ?_) ?_
    ·
     go_simp
     go_at_call 153
     refine (CM.out _ hXY (Hm1.out.below (Below.refl _ _).drew) (Hm2.out.below (Below.refl _ _).drew)).mono ?_
     rintro e w1 ⟨g, rfl, n1, B1⟩
     have hW1 := HW.out.keep (drew_left B1) HS.out; have N1 := Lib.hid n1; have BB1 := Lib.hid (HB.out.trans ((drew_left B1).mono HB.out.size)); have HW1' := Lib.hid hW1; clear n1 hW1
     (try go_wp2_with fail)
     refine hK.out _ _ ?_ (fun hHeld => ?_)
     ·
      exact ⟨hHeld.1.keep B1 hHeld.1.lt, hHeld.2.keep B1 hHeld.2.lt⟩
     clear hK K
     (try simp only [Act.put, List.setIfInBounds_toArray, List.set_cons_zero, List.set_cons_succ])
     refine wpAnyH_ready (rs := [7]) (by kernel_rfl) (by simp) ?_
     refine AllReadyH.cons (o := ({ dst := some 33, op := .call { callee := .value (.func 154), args := #[.tmp 27, .tmp 32], argTypes := #[4, 112] }, type := 114, pos := "number.go:54", after := #[⟨1, .data⟩, ⟨6, .data⟩, ⟨6, .chain⟩], guard := none } : Oper)) rfl (fun K hK => ?_) ?_
     ·
      go_simp
      go_at_call 154
      refine (CS.out _ _ _ _ N1.out hgM).mono ?_
      rintro e w2 ⟨q, a, k, c, rfl, hq, n2, B2⟩
      have h0 := HW1'.out.keep B2 HW1'.out.lt; have c0 := h0.c0; have f0 := h0.f 0; have c1' := h0.c1; have N2 := Lib.hid (fun j (hj : 2 ≤ j) => h0.c2 hj); have hA := h0.s0 (.bool q); have c1 := hA.c1; have f1 := hA.f 1; have HA := Lib.hid (hA.s1 (.slice a k c)); clear hA; have HN2 := Lib.hid n2; have BB2 := Lib.hid (BB1.out.trans (B2.mono BB1.out.size)); have HZ := Lib.hid hq; clear h0 n2 hq
      (try go_wp2_with fail)
      refine hK.out _ _ ?_ (fun hHeld => ?_)
      ·
       exact ⟨hHeld.1.keep B2 hHeld.1.lt, hHeld.2.keep B2 hHeld.2.lt⟩
      clear hK K
      (try simp only [Act.put, List.setIfInBounds_toArray, List.set_cons_zero, List.set_cons_succ])
      refine wpAnyH_ready (rs := [8]) (by kernel_rfl) (by simp) ?_
      refine AllReadyH.cons (o := ({ dst := none, op := .store 114 (.tmp 4) (.tmp 33), type := 0, pos := "number.go:54", after := #[⟨7, .data⟩, ⟨7, .chain⟩, ⟨0, .phase⟩, ⟨1, .phase⟩, ⟨2, .phase⟩, ⟨3, .phase⟩, ⟨4, .phase⟩, ⟨5, .phase⟩, ⟨6, .phase⟩, ⟨7, .phase⟩], guard := none } : Oper)) rfl (fun K hK => ?_) ?_
      ·
       go_simp
       refine hK.out _ _ ?_ (fun hHeld => ?_)
       ·
        exact ⟨(hHeld.1.far (by omega)).far (by omega), (hHeld.2.far (by omega)).far (by omega)⟩
       clear hK K
       (try simp only [Act.put, List.setIfInBounds_toArray, List.set_cons_zero, List.set_cons_succ])
       refine wpAnyH_done (by kernel_rfl) ?_ _
       refine NoPanic.normal ?_
       go_wp2_with fail
       have hB9 := (BB2.out.setCell (p := ⟨w.heap.size + 1 + 1, 0, none⟩) (by show w.heap.size ≤ w.heap.size + 1 + 1; omega) (.bool q)).setCell (p := ⟨w.heap.size + 1 + 1, 1, none⟩) (by show w.heap.size ≤ w.heap.size + 1 + 1; omega) (.slice a k c)
       have hN9 := HN2.out.over (w2 := (w2.setCell ⟨w.heap.size + 1 + 1, 0, none⟩ (.bool q)).setCell ⟨w.heap.size + 1 + 1, 1, none⟩ (.slice a k c)) c0 c1' (fun q hq => (Below.heap_setCell _ _ _ _ hq).trans (Below.heap_setCell _ _ _ _ hq)) (by simp [World.setCell]) N2.out (fun x e => by cases e)
       refine bodyPost_ret (results_cell_row rfl _ _ (w.heap.size + 1 + 1) 114 #[.bool q, .slice a k c] (0, 0) _ rfl HA.out Tryz.underlying114 rfl info_number) rfl ?_
       exact ⟨_, rfl, ⟨.slice a k c, by rw [sign_false (s := s) (M := (X - Y)) (by have := HSS.out; (try simp only [if_true] at this); (try simp only [if_false, Bool.false_eq_true] at this); omega), HZ.out], by rw [show s.natAbs = X - Y from by have := HSS.out; (try simp only [if_true] at this); (try simp only [if_false, Bool.false_eq_true] at this); omega]; exact hN9⟩, hB9⟩
      exact AllReadyH.nil
     exact AllReadyH.nil
    exact AllReadyH.nil
   ·
    have hc : cmpN (X : Int) (Y : Int) = 1 := by rw [cmpN, if_neg (by omega), if_pos (by omega)]
    rw [hc] at CC
    clear hc hE
    go_enter Tryz.func132, Tryz.ntmps132
    have hB3 := (((below_alloc w (.cells #[.bool false, .slice a1 k1 c1] 114)).alloc (by simp only [World.size_alloc]; omega) (.cells #[.bool true, .slice a2 k2 c2] 114)).alloc (by simp only [World.size_alloc]; omega) (.cells #[.bool false, .slice none 0 0] 114))
    obtain ⟨hW0, hW1, hW⟩ := three_blocks w (.bool false) (.slice a1 k1 c1) (.bool true) (.slice a2 k2 c2) (.bool false) (.slice none 0 0)
    have HS := Lib.hid hW.lt
    have HB := Lib.hid hB3
    have HW := Lib.hid hW
    have HW0 := Lib.hid hW0
    have HW1 := Lib.hid hW1
    clear hB3 hW hW0 hW1
    go_wp2_with (go_at_call 156; go_loud ((with_reducible refine (CC.out _ (H1.out.below HB.out) (H2.out.below HB.out)).mono ?_); rintro e w1 ⟨rfl, B1⟩; have hW0' := HW0.out.keep B1 (by have := HS.out; omega); have hW1' := HW1.out.keep B1 (by have := HS.out; omega); have hW' := HW.out.keep B1 HS.out; have hs1 := Nat.lt_of_lt_of_le HS.out B1.size; have hB' := HB.out.trans (B1.mono HB.out.size); have n1 := H1.out.below hB'; have n2 := H2.out.below hB'; have HS' := Lib.hid hs1; clear hs1; clear HW HW0 HW1 HS HB; have HS := Lib.hid HS'.out; have HW := Lib.hid hW'; have HW0 := Lib.hid hW0'; have HW1 := Lib.hid hW1'; have HB := Lib.hid hB'; have Hm1 := Lib.hid n1; have Hm2 := Lib.hid n2; clear n1 n2 hB' hW0' hW1' hW' HS' B1))
    refine wp_region_noPanic ?_
    refine wp_region_held_drew (S := fun W => NBlk W w.heap.size (.bool false) (.slice a1 k1 c1) ∧ NBlk W (w.heap.size + 1) (.bool true) (.slice a2 k2 c2)) (by kernel_rfl) ?_ (fun hHeld => ?_)
    ·
     exact ⟨HW0.out, HW1.out⟩
    refine tk 0 (oi := ({ dst := some 26, op := .fieldAddr 114 (.tmp 2) 0, type := 0, pos := "number.go:54", after := #[], guard := none } : Oper)) (v := ?v0_1gf) ?hy0_1gf ?re0_1gf
    case hy0_1gf => ((intro w hSw; obtain ⟨q1, q2⟩ := hSw; have e1 := q1.c0; have e2 := q1.c1; have e3 := q2.c0; have e4 := q2.c1; go_simp) <;> with_reducible rfl)
    (try simp only [Act.put, List.setIfInBounds_toArray, List.set_cons_zero, List.set_cons_succ])
    refine tk 1 (oi := ({ dst := some 27, op := .load 4 (.tmp 26), type := 4, pos := "number.go:54", after := #[⟨0, .data⟩], guard := none } : Oper)) (v := ?v1_2gf) ?hy1_2gf ?re1_2gf
    case hy1_2gf => ((intro w hSw; obtain ⟨q1, q2⟩ := hSw; have e1 := q1.c0; have e2 := q1.c1; have e3 := q2.c0; have e4 := q2.c1; go_simp) <;> with_reducible rfl)
    (try simp only [Act.put, List.setIfInBounds_toArray, List.set_cons_zero, List.set_cons_succ])
    refine tk 2 (oi := ({ dst := some 28, op := .fieldAddr 114 (.tmp 2) 1, type := 0, pos := "number.go:54", after := #[], guard := none } : Oper)) (v := ?v2_3gf) ?hy2_3gf ?re2_3gf
    case hy2_3gf => ((intro w hSw; obtain ⟨q1, q2⟩ := hSw; have e1 := q1.c0; have e2 := q1.c1; have e3 := q2.c0; have e4 := q2.c1; go_simp) <;> with_reducible rfl)
    (try simp only [Act.put, List.setIfInBounds_toArray, List.set_cons_zero, List.set_cons_succ])
    refine tk 3 (oi := ({ dst := some 29, op := .load 112 (.tmp 28), type := 112, pos := "number.go:54", after := #[⟨2, .data⟩], guard := none } : Oper)) (v := ?v3_4gf) ?hy3_4gf ?re3_4gf
    case hy3_4gf => ((intro w hSw; obtain ⟨q1, q2⟩ := hSw; have e1 := q1.c0; have e2 := q1.c1; have e3 := q2.c0; have e4 := q2.c1; go_simp) <;> with_reducible rfl)
    (try simp only [Act.put, List.setIfInBounds_toArray, List.set_cons_zero, List.set_cons_succ])
    refine tk 4 (oi := ({ dst := some 30, op := .fieldAddr 114 (.tmp 3) 1, type := 0, pos := "number.go:54", after := #[], guard := none } : Oper)) (v := ?v4_5gf) ?hy4_5gf ?re4_5gf
    case hy4_5gf => ((intro w hSw; obtain ⟨q1, q2⟩ := hSw; have e1 := q1.c0; have e2 := q1.c1; have e3 := q2.c0; have e4 := q2.c1; go_simp) <;> with_reducible rfl)
    (try simp only [Act.put, List.setIfInBounds_toArray, List.set_cons_zero, List.set_cons_succ])
    refine tk 5 (oi := ({ dst := some 31, op := .load 112 (.tmp 30), type := 112, pos := "number.go:54", after := #[⟨4, .data⟩], guard := none } : Oper)) (v := ?v5_6gf) ?hy5_6gf ?re5_6gf
    case hy5_6gf => ((intro w hSw; obtain ⟨q1, q2⟩ := hSw; have e1 := q1.c0; have e2 := q1.c1; have e3 := q2.c0; have e4 := q2.c1; go_simp) <;> with_reducible rfl)
    (try simp only [Act.put, List.setIfInBounds_toArray, List.set_cons_zero, List.set_cons_succ])
    refine wpAnyH_ready (rs := [6]) (by kernel_rfl) (by simp) ?_
    refine AllReadyH.cons (o := ({ dst := some 32, op := .call { callee := .value (.func 153), args := #[.tmp 29, .tmp 31], argTypes := #[112, 112] }, type := 112, pos := "number.go:54", after := #[⟨3, .data⟩, ⟨5, .data⟩], guard := none } : Oper)) rfl (fun K hK => ?_) ?_
    ·
     go_simp
     go_at_call 153
     refine (CM.out _ hXY (Hm1.out.below (Below.refl _ _).drew) (Hm2.out.below (Below.refl _ _).drew)).mono ?_
     rintro e w1 ⟨g, rfl, n1, B1⟩
     have hW1 := HW.out.keep (drew_left B1) HS.out; have N1 := Lib.hid n1; have BB1 := Lib.hid (HB.out.trans ((drew_left B1).mono HB.out.size)); have HW1' := Lib.hid hW1; clear n1 hW1
     (try go_wp2_with fail)
     refine hK.out _ _ ?_ (fun hHeld => ?_)
     ·
      exact ⟨hHeld.1.keep B1 hHeld.1.lt, hHeld.2.keep B1 hHeld.2.lt⟩
     clear hK K
     (try simp only [Act.put, List.setIfInBounds_toArray, List.set_cons_zero, List.set_cons_succ])
     refine wpAnyH_ready (rs := [7]) (by kernel_rfl) (by simp) ?_
     refine AllReadyH.cons (o := ({ dst := some 33, op := .call { callee := .value (.func 154), args := #[.tmp 27, .tmp 32], argTypes := #[4, 112] }, type := 114, pos := "number.go:54", after := #[⟨1, .data⟩, ⟨6, .data⟩, ⟨6, .chain⟩], guard := none } : Oper)) rfl (fun K hK => ?_) ?_
     ·
      go_simp
      go_at_call 154
      refine (CS.out _ _ _ _ N1.out hgM).mono ?_
      rintro e w2 ⟨q, a, k, c, rfl, hq, n2, B2⟩
      have h0 := HW1'.out.keep B2 HW1'.out.lt; have c0 := h0.c0; have f0 := h0.f 0; have c1' := h0.c1; have N2 := Lib.hid (fun j (hj : 2 ≤ j) => h0.c2 hj); have hA := h0.s0 (.bool q); have c1 := hA.c1; have f1 := hA.f 1; have HA := Lib.hid (hA.s1 (.slice a k c)); clear hA; have HN2 := Lib.hid n2; have BB2 := Lib.hid (BB1.out.trans (B2.mono BB1.out.size)); have HZ := Lib.hid hq; clear h0 n2 hq
      (try go_wp2_with fail)
      refine hK.out _ _ ?_ (fun hHeld => ?_)
      ·
       exact ⟨hHeld.1.keep B2 hHeld.1.lt, hHeld.2.keep B2 hHeld.2.lt⟩
      clear hK K
      (try simp only [Act.put, List.setIfInBounds_toArray, List.set_cons_zero, List.set_cons_succ])
      refine wpAnyH_ready (rs := [8]) (by kernel_rfl) (by simp) ?_
      refine AllReadyH.cons (o := ({ dst := none, op := .store 114 (.tmp 4) (.tmp 33), type := 0, pos := "number.go:54", after := #[⟨7, .data⟩, ⟨7, .chain⟩, ⟨0, .phase⟩, ⟨1, .phase⟩, ⟨2, .phase⟩, ⟨3, .phase⟩, ⟨4, .phase⟩, ⟨5, .phase⟩, ⟨6, .phase⟩, ⟨7, .phase⟩], guard := none } : Oper)) rfl (fun K hK => ?_) ?_
      ·
       go_simp
       refine hK.out _ _ ?_ (fun hHeld => ?_)
       ·
        exact ⟨(hHeld.1.far (by omega)).far (by omega), (hHeld.2.far (by omega)).far (by omega)⟩
       clear hK K
       (try simp only [Act.put, List.setIfInBounds_toArray, List.set_cons_zero, List.set_cons_succ])
       refine wpAnyH_done (by kernel_rfl) ?_ _
       refine NoPanic.normal ?_
       go_wp2_with fail
       have hB9 := (BB2.out.setCell (p := ⟨w.heap.size + 1 + 1, 0, none⟩) (by show w.heap.size ≤ w.heap.size + 1 + 1; omega) (.bool q)).setCell (p := ⟨w.heap.size + 1 + 1, 1, none⟩) (by show w.heap.size ≤ w.heap.size + 1 + 1; omega) (.slice a k c)
       have hN9 := HN2.out.over (w2 := (w2.setCell ⟨w.heap.size + 1 + 1, 0, none⟩ (.bool q)).setCell ⟨w.heap.size + 1 + 1, 1, none⟩ (.slice a k c)) c0 c1' (fun q hq => (Below.heap_setCell _ _ _ _ hq).trans (Below.heap_setCell _ _ _ _ hq)) (by simp [World.setCell]) N2.out (fun x e => by cases e)
       refine bodyPost_ret (results_cell_row rfl _ _ (w.heap.size + 1 + 1) 114 #[.bool q, .slice a k c] (0, 0) _ rfl HA.out Tryz.underlying114 rfl info_number) rfl ?_
       exact ⟨_, rfl, ⟨.slice a k c, by rw [sign_false (s := s) (M := (X - Y)) (by have := HSS.out; (try simp only [if_true] at this); (try simp only [if_false, Bool.false_eq_true] at this); omega), HZ.out], by rw [show s.natAbs = X - Y from by have := HSS.out; (try simp only [if_true] at this); (try simp only [if_false, Bool.false_eq_true] at this); omega]; exact hN9⟩, hB9⟩
      exact AllReadyH.nil
     exact AllReadyH.nil
    exact AllReadyH.nil
 ·
  rcases Nat.lt_or_ge X Y with hXY | hXY
  ·
   have hc : cmpN (X : Int) (Y : Int) = -1 := by rw [cmpN, if_pos (by omega)]
   rw [hc] at CC
   clear hc
   go_enter Tryz.func132, Tryz.ntmps132
   have hB3 := (((below_alloc w (.cells #[.bool true, .slice a1 k1 c1] 114)).alloc (by simp only [World.size_alloc]; omega) (.cells #[.bool false, .slice a2 k2 c2] 114)).alloc (by simp only [World.size_alloc]; omega) (.cells #[.bool false, .slice none 0 0] 114))
   obtain ⟨hW0, hW1, hW⟩ := three_blocks w (.bool true) (.slice a1 k1 c1) (.bool false) (.slice a2 k2 c2) (.bool false) (.slice none 0 0)
   have HS := Lib.hid hW.lt
   have HB := Lib.hid hB3
   have HW := Lib.hid hW
   have HW0 := Lib.hid hW0
   have HW1 := Lib.hid hW1
   clear hB3 hW hW0 hW1
   go_wp2_with (go_at_call 156; go_loud ((with_reducible refine (CC.out _ (H1.out.below HB.out) (H2.out.below HB.out)).mono ?_); rintro e w1 ⟨rfl, B1⟩; have hW0' := HW0.out.keep B1 (by have := HS.out; omega); have hW1' := HW1.out.keep B1 (by have := HS.out; omega); have hW' := HW.out.keep B1 HS.out; have hs1 := Nat.lt_of_lt_of_le HS.out B1.size; have hB' := HB.out.trans (B1.mono HB.out.size); have n1 := H1.out.below hB'; have n2 := H2.out.below hB'; have HS' := Lib.hid hs1; clear hs1; have r0 := hW0'.c0; have r1 := hW0'.c1; have r2 := hW1'.c0; have r3 := hW1'.c1; have f0 := hW0'.f 0; have A1 := hW0'.s0 (.bool false); have r4 := A1.c1; have f1 := A1.f 1; have A2 := A1.s1 (.slice a2 k2 c2); have K1 := (hW1'.far (g2 := w.heap.size) (j := 0) (v := .bool false) (by omega)).far (g2 := w.heap.size) (j := 1) (v := .slice a2 k2 c2) (by omega); have r5 := K1.c0; have f2 := K1.f 0; have K2 := K1.s0 (.bool true); have r6 := K2.c1; have f3 := K2.f 1; have K3 := K2.s1 (.slice a1 k1 c1); have A3 := (A2.far (g2 := w.heap.size + 1) (j := 0) (v := .bool true) (by omega)).far (g2 := w.heap.size + 1) (j := 1) (v := .slice a1 k1 c1) (by omega); have E := (((hW'.far (g2 := w.heap.size) (j := 0) (v := .bool false) (by omega)).far (g2 := w.heap.size) (j := 1) (v := .slice a2 k2 c2) (by omega)).far (g2 := w.heap.size + 1) (j := 0) (v := .bool true) (by omega)).far (g2 := w.heap.size + 1) (j := 1) (v := .slice a1 k1 c1) (by omega); have m1 := (n1.two hW0' (fun x e => by cases e) (.bool false) (.slice a2 k2 c2)).two K1 (fun x e => by cases e) (.bool true) (.slice a1 k1 c1); have m2 := (n2.two hW0' (fun x e => by cases e) (.bool false) (.slice a2 k2 c2)).two K1 (fun x e => by cases e) (.bool true) (.slice a1 k1 c1); have b9 := below_far (j := 1) (below_far (j := 0) (below_far (j := 1) (below_far (j := 0) hB' (Nat.le_refl w.heap.size) (.bool false)) (Nat.le_refl w.heap.size) (.slice a2 k2 c2)) (Nat.le_succ w.heap.size) (.bool true)) (Nat.le_succ w.heap.size) (.slice a1 k1 c1); clear HW HW0 HW1 HS HB; have HS := Lib.hid E.lt; have HW := Lib.hid E; have HW0 := Lib.hid A3; have HW1 := Lib.hid K3; have HB := Lib.hid b9; have Hm1 := Lib.hid m1; have Hm2 := Lib.hid m2; clear E A3 K3 b9 m1 m2 n1 n2 hB' K1 K2 A1 A2 hW0' hW1' hW' HS' B1))
   refine wp_region_noPanic ?_
   refine wp_region_held_drew (S := fun W => NBlk W w.heap.size (.bool false) (.slice a2 k2 c2) ∧ NBlk W (w.heap.size + 1) (.bool true) (.slice a1 k1 c1)) (by kernel_rfl) ?_ (fun hHeld => ?_)
   ·
    exact ⟨HW0.out, HW1.out⟩
   refine tk 0 (oi := ({ dst := some 26, op := .fieldAddr 114 (.tmp 2) 0, type := 0, pos := "number.go:54", after := #[], guard := none } : Oper)) (v := ?v0_1lt) ?hy0_1lt ?re0_1lt
   case hy0_1lt => ((intro w hSw; obtain ⟨q1, q2⟩ := hSw; have e1 := q1.c0; have e2 := q1.c1; have e3 := q2.c0; have e4 := q2.c1; go_simp) <;> with_reducible rfl)
   (try simp only [Act.put, List.setIfInBounds_toArray, List.set_cons_zero, List.set_cons_succ])
   refine tk 1 (oi := ({ dst := some 27, op := .load 4 (.tmp 26), type := 4, pos := "number.go:54", after := #[⟨0, .data⟩], guard := none } : Oper)) (v := ?v1_2lt) ?hy1_2lt ?re1_2lt
   case hy1_2lt => ((intro w hSw; obtain ⟨q1, q2⟩ := hSw; have e1 := q1.c0; have e2 := q1.c1; have e3 := q2.c0; have e4 := q2.c1; go_simp) <;> with_reducible rfl)
   (try simp only [Act.put, List.setIfInBounds_toArray, List.set_cons_zero, List.set_cons_succ])
   refine tk 2 (oi := ({ dst := some 28, op := .fieldAddr 114 (.tmp 2) 1, type := 0, pos := "number.go:54", after := #[], guard := none } : Oper)) (v := ?v2_3lt) ?hy2_3lt ?re2_3lt
   case hy2_3lt => ((intro w hSw; obtain ⟨q1, q2⟩ := hSw; have e1 := q1.c0; have e2 := q1.c1; have e3 := q2.c0; have e4 := q2.c1; go_simp) <;> with_reducible rfl)
   (try simp only [Act.put, List.setIfInBounds_toArray, List.set_cons_zero, List.set_cons_succ])
   refine tk 3 (oi := ({ dst := some 29, op := .load 112 (.tmp 28), type := 112, pos := "number.go:54", after := #[⟨2, .data⟩], guard := none } : Oper)) (v := ?v3_4lt) ?hy3_4lt ?re3_4lt
   case hy3_4lt => ((intro w hSw; obtain ⟨q1, q2⟩ := hSw; have e1 := q1.c0; have e2 := q1.c1; have e3 := q2.c0; have e4 := q2.c1; go_simp) <;> with_reducible rfl)
   (try simp only [Act.put, List.setIfInBounds_toArray, List.set_cons_zero, List.set_cons_succ])
   refine tk 4 (oi := ({ dst := some 30, op := .fieldAddr 114 (.tmp 3) 1, type := 0, pos := "number.go:54", after := #[], guard := none } : Oper)) (v := ?v4_5lt) ?hy4_5lt ?re4_5lt
   case hy4_5lt => ((intro w hSw; obtain ⟨q1, q2⟩ := hSw; have e1 := q1.c0; have e2 := q1.c1; have e3 := q2.c0; have e4 := q2.c1; go_simp) <;> with_reducible rfl)
   (try simp only [Act.put, List.setIfInBounds_toArray, List.set_cons_zero, List.set_cons_succ])
   refine tk 5 (oi := ({ dst := some 31, op := .load 112 (.tmp 30), type := 112, pos := "number.go:54", after := #[⟨4, .data⟩], guard := none } : Oper)) (v := ?v5_6lt) ?hy5_6lt ?re5_6lt
   case hy5_6lt => ((intro w hSw; obtain ⟨q1, q2⟩ := hSw; have e1 := q1.c0; have e2 := q1.c1; have e3 := q2.c0; have e4 := q2.c1; go_simp) <;> with_reducible rfl)
   (try simp only [Act.put, List.setIfInBounds_toArray, List.set_cons_zero, List.set_cons_succ])
   refine wpAnyH_ready (rs := [6]) (by kernel_rfl) (by simp) ?_
   refine AllReadyH.cons (o := ({ dst := some 32, op := .call { callee := .value (.func 153), args := #[.tmp 29, .tmp 31], argTypes := #[112, 112] }, type := 112, pos := "number.go:54", after := #[⟨3, .data⟩, ⟨5, .data⟩], guard := none } : Oper)) rfl (fun K hK => ?_) ?_
   ·
    go_simp
    go_at_call 153
    refine (CN.out _ (Nat.le_of_lt hXY) (Hm1.out.below (Below.refl _ _).drew) (Hm2.out.below (Below.refl _ _).drew)).mono ?_
    rintro e w1 ⟨g, rfl, n1, B1⟩
    have hW1 := HW.out.keep (drew_left B1) HS.out; have N1 := Lib.hid n1; have BB1 := Lib.hid (HB.out.trans ((drew_left B1).mono HB.out.size)); have HW1' := Lib.hid hW1; clear n1 hW1
    (try go_wp2_with fail)
    refine hK.out _ _ ?_ (fun hHeld => ?_)
    ·
     exact ⟨hHeld.1.keep B1 hHeld.1.lt, hHeld.2.keep B1 hHeld.2.lt⟩
    clear hK K
    (try simp only [Act.put, List.setIfInBounds_toArray, List.set_cons_zero, List.set_cons_succ])
    refine wpAnyH_ready (rs := [7]) (by kernel_rfl) (by simp) ?_
    refine AllReadyH.cons (o := ({ dst := some 33, op := .call { callee := .value (.func 154), args := #[.tmp 27, .tmp 32], argTypes := #[4, 112] }, type := 114, pos := "number.go:54", after := #[⟨1, .data⟩, ⟨6, .data⟩, ⟨6, .chain⟩], guard := none } : Oper)) rfl (fun K hK => ?_) ?_
    ·
     go_simp
     go_at_call 154
     refine (CS.out _ _ _ _ N1.out hgN).mono ?_
     rintro e w2 ⟨q, a, k, c, rfl, hq, n2, B2⟩
     have h0 := HW1'.out.keep B2 HW1'.out.lt; have c0 := h0.c0; have f0 := h0.f 0; have c1' := h0.c1; have N2 := Lib.hid (fun j (hj : 2 ≤ j) => h0.c2 hj); have hA := h0.s0 (.bool q); have c1 := hA.c1; have f1 := hA.f 1; have HA := Lib.hid (hA.s1 (.slice a k c)); clear hA; have HN2 := Lib.hid n2; have BB2 := Lib.hid (BB1.out.trans (B2.mono BB1.out.size)); have HZ := Lib.hid hq; clear h0 n2 hq
     (try go_wp2_with fail)
     refine hK.out _ _ ?_ (fun hHeld => ?_)
     ·
      exact ⟨hHeld.1.keep B2 hHeld.1.lt, hHeld.2.keep B2 hHeld.2.lt⟩
     clear hK K
     (try simp only [Act.put, List.setIfInBounds_toArray, List.set_cons_zero, List.set_cons_succ])
     refine wpAnyH_ready (rs := [8]) (by kernel_rfl) (by simp) ?_
     refine AllReadyH.cons (o := ({ dst := none, op := .store 114 (.tmp 4) (.tmp 33), type := 0, pos := "number.go:54", after := #[⟨7, .data⟩, ⟨7, .chain⟩, ⟨0, .phase⟩, ⟨1, .phase⟩, ⟨2, .phase⟩, ⟨3, .phase⟩, ⟨4, .phase⟩, ⟨5, .phase⟩, ⟨6, .phase⟩, ⟨7, .phase⟩], guard := none } : Oper)) rfl (fun K hK => ?_) ?_
     ·
      go_simp
      refine hK.out _ _ ?_ (fun hHeld => ?_)
      ·
       exact ⟨(hHeld.1.far (by omega)).far (by omega), (hHeld.2.far (by omega)).far (by omega)⟩
      clear hK K
      (try simp only [Act.put, List.setIfInBounds_toArray, List.set_cons_zero, List.set_cons_succ])
      refine wpAnyH_done (by kernel_rfl) ?_ _
      refine NoPanic.normal ?_
      go_wp2_with fail
      have hB9 := (BB2.out.setCell (p := ⟨w.heap.size + 1 + 1, 0, none⟩) (by show w.heap.size ≤ w.heap.size + 1 + 1; omega) (.bool q)).setCell (p := ⟨w.heap.size + 1 + 1, 1, none⟩) (by show w.heap.size ≤ w.heap.size + 1 + 1; omega) (.slice a k c)
      have hN9 := HN2.out.over (w2 := (w2.setCell ⟨w.heap.size + 1 + 1, 0, none⟩ (.bool q)).setCell ⟨w.heap.size + 1 + 1, 1, none⟩ (.slice a k c)) c0 c1' (fun q hq => (Below.heap_setCell _ _ _ _ hq).trans (Below.heap_setCell _ _ _ _ hq)) (by simp [World.setCell]) N2.out (fun x e => by cases e)
      refine bodyPost_ret (results_cell_row rfl _ _ (w.heap.size + 1 + 1) 114 #[.bool q, .slice a k c] (0, 0) _ rfl HA.out Tryz.underlying114 rfl info_number) rfl ?_
      exact ⟨_, rfl, ⟨.slice a k c, by rw [sign_false (s := s) (M := (Y - X)) (by have := HSS.out; (try simp only [if_true] at this); (try simp only [if_false, Bool.false_eq_true] at this); omega), HZ.out], by rw [show s.natAbs = Y - X from by have := HSS.out; (try simp only [if_true] at this); (try simp only [if_false, Bool.false_eq_true] at this); omega]; exact hN9⟩, hB9⟩
     exact AllReadyH.nil
    exact AllReadyH.nil
   exact AllReadyH.nil
  ·
   rcases Nat.eq_or_lt_of_le hXY with hE | hE
   ·
    have hc : cmpN (X : Int) (Y : Int) = 0 := by rw [cmpN, if_neg (by omega), if_neg (by omega)]
    rw [hc] at CC
    clear hc hE
    go_enter Tryz.func132, Tryz.ntmps132
    have hB3 := (((below_alloc w (.cells #[.bool true, .slice a1 k1 c1] 114)).alloc (by simp only [World.size_alloc]; omega) (.cells #[.bool false, .slice a2 k2 c2] 114)).alloc (by simp only [World.size_alloc]; omega) (.cells #[.bool false, .slice none 0 0] 114))
    obtain ⟨hW0, hW1, hW⟩ := three_blocks w (.bool true) (.slice a1 k1 c1) (.bool false) (.slice a2 k2 c2) (.bool false) (.slice none 0 0)
    have HS := Lib.hid hW.lt
    have HB := Lib.hid hB3
    have HW := Lib.hid hW
    have HW0 := Lib.hid hW0
    have HW1 := Lib.hid hW1
    clear hB3 hW hW0 hW1
    go_wp2_with (go_at_call 156; go_loud ((with_reducible refine (CC.out _ (H1.out.below HB.out) (H2.out.below HB.out)).mono ?_); rintro e w1 ⟨rfl, B1⟩; have hW0' := HW0.out.keep B1 (by have := HS.out; omega); have hW1' := HW1.out.keep B1 (by have := HS.out; omega); have hW' := HW.out.keep B1 HS.out; have hs1 := Nat.lt_of_lt_of_le HS.out B1.size; have hB' := HB.out.trans (B1.mono HB.out.size); have n1 := H1.out.below hB'; have n2 := H2.out.below hB'; have HS' := Lib.hid hs1; clear hs1; clear HW HW0 HW1 HS HB; have HS := Lib.hid HS'.out; have HW := Lib.hid hW'; have HW0 := Lib.hid hW0'; have HW1 := Lib.hid hW1'; have HB := Lib.hid hB'; have Hm1 := Lib.hid n1; have Hm2 := Lib.hid n2; clear n1 n2 hB' hW0' hW1' hW' HS' B1))
    refine wp_region_noPanic ?_
    refine wp_region_held_drew (S := fun W => NBlk W w.heap.size (.bool true) (.slice a1 k1 c1) ∧ NBlk W (w.heap.size + 1) (.bool false) (.slice a2 k2 c2)) (by kernel_rfl) ?_ (fun hHeld => ?_)
    ·
     exact ⟨HW0.out, HW1.out⟩
    refine tk 0 (oi := ({ dst := some 26, op := .fieldAddr 114 (.tmp 2) 0, type := 0, pos := "number.go:54", after := #[], guard := none } : Oper)) (v := ?v0_1et) ?hy0_1et ?re0_1et
    case hy0_1et => ((intro w hSw; obtain ⟨q1, q2⟩ := hSw; have e1 := q1.c0; have e2 := q1.c1; have e3 := q2.c0; have e4 := q2.c1; go_simp) <;> with_reducible rfl)
    (try simp only [Act.put, List.setIfInBounds_toArray, List.set_cons_zero, List.set_cons_succ])
    refine tk 1 (oi := ({ dst := some 27, op := .load 4 (.tmp 26), type := 4, pos := "number.go:54", after := #[⟨0, .data⟩], guard := none } : Oper)) (v := ?v1_2et) ?hy1_2et ?re1_2et
    case hy1_2et => ((intro w hSw; obtain ⟨q1, q2⟩ := hSw; have e1 := q1.c0; have e2 := q1.c1; have e3 := q2.c0; have e4 := q2.c1; go_simp) <;> with_reducible rfl)
    (try simp only [Act.put, List.setIfInBounds_toArray, List.set_cons_zero, List.set_cons_succ])
    refine tk 2 (oi := ({ dst := some 28, op := .fieldAddr 114 (.tmp 2) 1, type := 0, pos := "number.go:54", after := #[], guard := none } : Oper)) (v := ?v2_3et) ?hy2_3et ?re2_3et
    case hy2_3et => ((intro w hSw; obtain ⟨q1, q2⟩ := hSw; have e1 := q1.c0; have e2 := q1.c1; have e3 := q2.c0; have e4 := q2.c1; go_simp) <;> with_reducible rfl)
    (try simp only [Act.put, List.setIfInBounds_toArray, List.set_cons_zero, List.set_cons_succ])
    refine tk 3 (oi := ({ dst := some 29, op := .load 112 (.tmp 28), type := 112, pos := "number.go:54", after := #[⟨2, .data⟩], guard := none } : Oper)) (v := ?v3_4et) ?hy3_4et ?re3_4et
    case hy3_4et => ((intro w hSw; obtain ⟨q1, q2⟩ := hSw; have e1 := q1.c0; have e2 := q1.c1; have e3 := q2.c0; have e4 := q2.c1; go_simp) <;> with_reducible rfl)
    (try simp only [Act.put, List.setIfInBounds_toArray, List.set_cons_zero, List.set_cons_succ])
    refine tk 4 (oi := ({ dst := some 30, op := .fieldAddr 114 (.tmp 3) 1, type := 0, pos := "number.go:54", after := #[], guard := none } : Oper)) (v := ?v4_5et) ?hy4_5et ?re4_5et
    case hy4_5et => ((intro w hSw; obtain ⟨q1, q2⟩ := hSw; have e1 := q1.c0; have e2 := q1.c1; have e3 := q2.c0; have e4 := q2.c1; go_simp) <;> with_reducible rfl)
    (try simp only [Act.put, List.setIfInBounds_toArray, List.set_cons_zero, List.set_cons_succ])
    refine tk 5 (oi := ({ dst := some 31, op := .load 112 (.tmp 30), type := 112, pos := "number.go:54", after := #[⟨4, .data⟩], guard := none } : Oper)) (v := ?v5_6et) ?hy5_6et ?re5_6et
    case hy5_6et => ((intro w hSw; obtain ⟨q1, q2⟩ := hSw; have e1 := q1.c0; have e2 := q1.c1; have e3 := q2.c0; have e4 := q2.c1; go_simp) <;> with_reducible rfl)
    (try simp only [Act.put, List.setIfInBounds_toArray, List.set_cons_zero, List.set_cons_succ])
    refine wpAnyH_ready (rs := [6]) (by kernel_rfl) (by simp) ?_
    refine AllReadyH.cons (o := ({ dst := some 32, op := .call { callee := .value (.func 153), args := #[.tmp 29, .tmp 31], argTypes := #[112, 112] }, type := 112, pos := "number.go:54", after := #[⟨3, .data⟩, ⟨5, .data⟩], guard := none } : Oper)) rfl (fun K hK => ?_) ?_
    ·
     go_simp
     go_at_call 153
     refine (CM.out _ hXY (Hm1.out.below (Below.refl _ _).drew) (Hm2.out.below (Below.refl _ _).drew)).mono ?_
     rintro e w1 ⟨g, rfl, n1, B1⟩
     have hW1 := HW.out.keep (drew_left B1) HS.out; have N1 := Lib.hid n1; have BB1 := Lib.hid (HB.out.trans ((drew_left B1).mono HB.out.size)); have HW1' := Lib.hid hW1; clear n1 hW1
     (try go_wp2_with fail)
     refine hK.out _ _ ?_ (fun hHeld => ?_)
     ·
      exact ⟨hHeld.1.keep B1 hHeld.1.lt, hHeld.2.keep B1 hHeld.2.lt⟩
     clear hK K
     (try simp only [Act.put, List.setIfInBounds_toArray, List.set_cons_zero, List.set_cons_succ])
     refine wpAnyH_ready (rs := [7]) (by kernel_rfl) (by simp) ?_
     refine AllReadyH.cons (o := ({ dst := some 33, op := .call { callee := .value (.func 154), args := #[.tmp 27, .tmp 32], argTypes := #[4, 112] }, type := 114, pos := "number.go:54", after := #[⟨1, .data⟩, ⟨6, .data⟩, ⟨6, .chain⟩], guard := none } : Oper)) rfl (fun K hK => ?_) ?_
     ·
      go_simp
      go_at_call 154
      refine (CS.out _ _ _ _ N1.out hgM).mono ?_
      rintro e w2 ⟨q, a, k, c, rfl, hq, n2, B2⟩
      have h0 := HW1'.out.keep B2 HW1'.out.lt; have c0 := h0.c0; have f0 := h0.f 0; have c1' := h0.c1; have N2 := Lib.hid (fun j (hj : 2 ≤ j) => h0.c2 hj); have hA := h0.s0 (.bool q); have c1 := hA.c1; have f1 := hA.f 1; have HA := Lib.hid (hA.s1 (.slice a k c)); clear hA; have HN2 := Lib.hid n2; have BB2 := Lib.hid (BB1.out.trans (B2.mono BB1.out.size)); have HZ := Lib.hid hq; clear h0 n2 hq
      (try go_wp2_with fail)
      refine hK.out _ _ ?_ (fun hHeld => ?_)
      ·
       exact ⟨hHeld.1.keep B2 hHeld.1.lt, hHeld.2.keep B2 hHeld.2.lt⟩
      clear hK K
      (try simp only [Act.put, List.setIfInBounds_toArray, List.set_cons_zero, List.set_cons_succ])
      refine wpAnyH_ready (rs := [8]) (by kernel_rfl) (by simp) ?_
      refine AllReadyH.cons (o := ({ dst := none, op := .store 114 (.tmp 4) (.tmp 33), type := 0, pos := "number.go:54", after := #[⟨7, .data⟩, ⟨7, .chain⟩, ⟨0, .phase⟩, ⟨1, .phase⟩, ⟨2, .phase⟩, ⟨3, .phase⟩, ⟨4, .phase⟩, ⟨5, .phase⟩, ⟨6, .phase⟩, ⟨7, .phase⟩], guard := none } : Oper)) rfl (fun K hK => ?_) ?_
      ·
       go_simp
       refine hK.out _ _ ?_ (fun hHeld => ?_)
       ·
        exact ⟨(hHeld.1.far (by omega)).far (by omega), (hHeld.2.far (by omega)).far (by omega)⟩
       clear hK K
       (try simp only [Act.put, List.setIfInBounds_toArray, List.set_cons_zero, List.set_cons_succ])
       refine wpAnyH_done (by kernel_rfl) ?_ _
       refine NoPanic.normal ?_
       go_wp2_with fail
       have hB9 := (BB2.out.setCell (p := ⟨w.heap.size + 1 + 1, 0, none⟩) (by show w.heap.size ≤ w.heap.size + 1 + 1; omega) (.bool q)).setCell (p := ⟨w.heap.size + 1 + 1, 1, none⟩) (by show w.heap.size ≤ w.heap.size + 1 + 1; omega) (.slice a k c)
       have hN9 := HN2.out.over (w2 := (w2.setCell ⟨w.heap.size + 1 + 1, 0, none⟩ (.bool q)).setCell ⟨w.heap.size + 1 + 1, 1, none⟩ (.slice a k c)) c0 c1' (fun q hq => (Below.heap_setCell _ _ _ _ hq).trans (Below.heap_setCell _ _ _ _ hq)) (by simp [World.setCell]) N2.out (fun x e => by cases e)
       refine bodyPost_ret (results_cell_row rfl _ _ (w.heap.size + 1 + 1) 114 #[.bool q, .slice a k c] (0, 0) _ rfl HA.out Tryz.underlying114 rfl info_number) rfl ?_
       exact ⟨_, rfl, ⟨.slice a k c, by rw [sign_true (s := s) (M := (X - Y)) (by have := HSS.out; (try simp only [if_true] at this); (try simp only [if_false, Bool.false_eq_true] at this); omega), HZ.out], by rw [show s.natAbs = X - Y from by have := HSS.out; (try simp only [if_true] at this); (try simp only [if_false, Bool.false_eq_true] at this); omega]; exact hN9⟩, hB9⟩
      exact AllReadyH.nil
     exact AllReadyH.nil
    exact AllReadyH.nil
   ·
    have hc : cmpN (X : Int) (Y : Int) = 1 := by rw [cmpN, if_neg (by omega), if_pos (by omega)]
    rw [hc] at CC
    clear hc hE
    go_enter Tryz.func132, Tryz.ntmps132
    have hB3 := (((below_alloc w (.cells #[.bool true, .slice a1 k1 c1] 114)).alloc (by simp only [World.size_alloc]; omega) (.cells #[.bool false, .slice a2 k2 c2] 114)).alloc (by simp only [World.size_alloc]; omega) (.cells #[.bool false, .slice none 0 0] 114))
    obtain ⟨hW0, hW1, hW⟩ := three_blocks w (.bool true) (.slice a1 k1 c1) (.bool false) (.slice a2 k2 c2) (.bool false) (.slice none 0 0)
    have HS := Lib.hid hW.lt
    have HB := Lib.hid hB3
    have HW := Lib.hid hW
    have HW0 := Lib.hid hW0
    have HW1 := Lib.hid hW1
    clear hB3 hW hW0 hW1
    go_wp2_with (go_at_call 156; go_loud ((with_reducible refine (CC.out _ (H1.out.below HB.out) (H2.out.below HB.out)).mono ?_); rintro e w1 ⟨rfl, B1⟩; have hW0' := HW0.out.keep B1 (by have := HS.out; omega); have hW1' := HW1.out.keep B1 (by have := HS.out; omega); have hW' := HW.out.keep B1 HS.out; have hs1 := Nat.lt_of_lt_of_le HS.out B1.size; have hB' := HB.out.trans (B1.mono HB.out.size); have n1 := H1.out.below hB'; have n2 := H2.out.below hB'; have HS' := Lib.hid hs1; clear hs1; clear HW HW0 HW1 HS HB; have HS := Lib.hid HS'.out; have HW := Lib.hid hW'; have HW0 := Lib.hid hW0'; have HW1 := Lib.hid hW1'; have HB := Lib.hid hB'; have Hm1 := Lib.hid n1; have Hm2 := Lib.hid n2; clear n1 n2 hB' hW0' hW1' hW' HS' B1))
    refine wp_region_noPanic ?_
    refine wp_region_held_drew (S := fun W => NBlk W w.heap.size (.bool true) (.slice a1 k1 c1) ∧ NBlk W (w.heap.size + 1) (.bool false) (.slice a2 k2 c2)) (by kernel_rfl) ?_ (fun hHeld => ?_)
    ·
     exact ⟨HW0.out, HW1.out⟩
    refine tk 0 (oi := ({ dst := some 26, op := .fieldAddr 114 (.tmp 2) 0, type := 0, pos := "number.go:54", after := #[], guard := none } : Oper)) (v := ?v0_1gt) ?hy0_1gt ?re0_1gt
    case hy0_1gt => ((intro w hSw; obtain ⟨q1, q2⟩ := hSw; have e1 := q1.c0; have e2 := q1.c1; have e3 := q2.c0; have e4 := q2.c1; go_simp) <;> with_reducible rfl)
    (try simp only [Act.put, List.setIfInBounds_toArray, List.set_cons_zero, List.set_cons_succ])
    refine tk 1 (oi := ({ dst := some 27, op := .load 4 (.tmp 26), type := 4, pos := "number.go:54", after := #[⟨0, .data⟩], guard := none } : Oper)) (v := ?v1_2gt) ?hy1_2gt ?re1_2gt
    case hy1_2gt => ((intro w hSw; obtain ⟨q1, q2⟩ := hSw; have e1 := q1.c0; have e2 := q1.c1; have e3 := q2.c0; have e4 := q2.c1; go_simp) <;> with_reducible rfl)
    (try simp only [Act.put, List.setIfInBounds_toArray, List.set_cons_zero, List.set_cons_succ])
    refine tk 2 (oi := ({ dst := some 28, op := .fieldAddr 114 (.tmp 2) 1, type := 0, pos := "number.go:54", after := #[], guard := none } : Oper)) (v := ?v2_3gt) ?hy2_3gt ?re2_3gt
    case hy2_3gt => ((intro w hSw; obtain ⟨q1, q2⟩ := hSw; have e1 := q1.c0; have e2 := q1.c1; have e3 := q2.c0; have e4 := q2.c1; go_simp) <;> with_reducible rfl)
    (try simp only [Act.put, List.setIfInBounds_toArray, List.set_cons_zero, List.set_cons_succ])
    refine tk 3 (oi := ({ dst := some 29, op := .load 112 (.tmp 28), type := 112, pos := "number.go:54", after := #[⟨2, .data⟩], guard := none } : Oper)) (v := ?v3_4gt) ?hy3_4gt ?re3_4gt
    case hy3_4gt => ((intro w hSw; obtain ⟨q1, q2⟩ := hSw; have e1 := q1.c0; have e2 := q1.c1; have e3 := q2.c0; have e4 := q2.c1; go_simp) <;> with_reducible rfl)
    (try simp only [Act.put, List.setIfInBounds_toArray, List.set_cons_zero, List.set_cons_succ])
    refine tk 4 (oi := ({ dst := some 30, op := .fieldAddr 114 (.tmp 3) 1, type := 0, pos := "number.go:54", after := #[], guard := none } : Oper)) (v := ?v4_5gt) ?hy4_5gt ?re4_5gt
    case hy4_5gt => ((intro w hSw; obtain ⟨q1, q2⟩ := hSw; have e1 := q1.c0; have e2 := q1.c1; have e3 := q2.c0; have e4 := q2.c1; go_simp) <;> with_reducible rfl)
    (try simp only [Act.put, List.setIfInBounds_toArray, List.set_cons_zero, List.set_cons_succ])
    refine tk 5 (oi := ({ dst := some 31, op := .load 112 (.tmp 30), type := 112, pos := "number.go:54", after := #[⟨4, .data⟩], guard := none } : Oper)) (v := ?v5_6gt) ?hy5_6gt ?re5_6gt
    case hy5_6gt => ((intro w hSw; obtain ⟨q1, q2⟩ := hSw; have e1 := q1.c0; have e2 := q1.c1; have e3 := q2.c0; have e4 := q2.c1; go_simp) <;> with_reducible rfl)
    (try simp only [Act.put, List.setIfInBounds_toArray, List.set_cons_zero, List.set_cons_succ])
    refine wpAnyH_ready (rs := [6]) (by kernel_rfl) (by simp) ?_
    refine AllReadyH.cons (o := ({ dst := some 32, op := .call { callee := .value (.func 153), args := #[.tmp 29, .tmp 31], argTypes := #[112, 112] }, type := 112, pos := "number.go:54", after := #[⟨3, .data⟩, ⟨5, .data⟩], guard := none } : Oper)) rfl (fun K hK => ?_) ?_
    ·
     go_simp
     go_at_call 153
     refine (CM.out _ hXY (Hm1.out.below (Below.refl _ _).drew) (Hm2.out.below (Below.refl _ _).drew)).mono ?_
     rintro e w1 ⟨g, rfl, n1, B1⟩
     have hW1 := HW.out.keep (drew_left B1) HS.out; have N1 := Lib.hid n1; have BB1 := Lib.hid (HB.out.trans ((drew_left B1).mono HB.out.size)); have HW1' := Lib.hid hW1; clear n1 hW1
     (try go_wp2_with fail)
     refine hK.out _ _ ?_ (fun hHeld => ?_)
     ·
      exact ⟨hHeld.1.keep B1 hHeld.1.lt, hHeld.2.keep B1 hHeld.2.lt⟩
     clear hK K
     (try simp only [Act.put, List.setIfInBounds_toArray, List.set_cons_zero, List.set_cons_succ])
     refine wpAnyH_ready (rs := [7]) (by kernel_rfl) (by simp) ?_
     refine AllReadyH.cons (o := ({ dst := some 33, op := .call { callee := .value (.func 154), args := #[.tmp 27, .tmp 32], argTypes := #[4, 112] }, type := 114, pos := "number.go:54", after := #[⟨1, .data⟩, ⟨6, .data⟩, ⟨6, .chain⟩], guard := none } : Oper)) rfl (fun K hK => ?_) ?_
     ·
      go_simp
      go_at_call 154
      refine (CS.out _ _ _ _ N1.out hgM).mono ?_
      rintro e w2 ⟨q, a, k, c, rfl, hq, n2, B2⟩
      have h0 := HW1'.out.keep B2 HW1'.out.lt; have c0 := h0.c0; have f0 := h0.f 0; have c1' := h0.c1; have N2 := Lib.hid (fun j (hj : 2 ≤ j) => h0.c2 hj); have hA := h0.s0 (.bool q); have c1 := hA.c1; have f1 := hA.f 1; have HA := Lib.hid (hA.s1 (.slice a k c)); clear hA; have HN2 := Lib.hid n2; have BB2 := Lib.hid (BB1.out.trans (B2.mono BB1.out.size)); have HZ := Lib.hid hq; clear h0 n2 hq
      (try go_wp2_with fail)
      refine hK.out _ _ ?_ (fun hHeld => ?_)
      ·
       exact ⟨hHeld.1.keep B2 hHeld.1.lt, hHeld.2.keep B2 hHeld.2.lt⟩
      clear hK K
      (try simp only [Act.put, List.setIfInBounds_toArray, List.set_cons_zero, List.set_cons_succ])
      refine wpAnyH_ready (rs := [8]) (by kernel_rfl) (by simp) ?_
      refine AllReadyH.cons (o := ({ dst := none, op := .store 114 (.tmp 4) (.tmp 33), type := 0, pos := "number.go:54", after := #[⟨7, .data⟩, ⟨7, .chain⟩, ⟨0, .phase⟩, ⟨1, .phase⟩, ⟨2, .phase⟩, ⟨3, .phase⟩, ⟨4, .phase⟩, ⟨5, .phase⟩, ⟨6, .phase⟩, ⟨7, .phase⟩], guard := none } : Oper)) rfl (fun K hK => ?_) ?_
      ·
       go_simp
       refine hK.out _ _ ?_ (fun hHeld => ?_)
       ·
        exact ⟨(hHeld.1.far (by omega)).far (by omega), (hHeld.2.far (by omega)).far (by omega)⟩
       clear hK K
       (try simp only [Act.put, List.setIfInBounds_toArray, List.set_cons_zero, List.set_cons_succ])
       refine wpAnyH_done (by kernel_rfl) ?_ _
       refine NoPanic.normal ?_
       go_wp2_with fail
       have hB9 := (BB2.out.setCell (p := ⟨w.heap.size + 1 + 1, 0, none⟩) (by show w.heap.size ≤ w.heap.size + 1 + 1; omega) (.bool q)).setCell (p := ⟨w.heap.size + 1 + 1, 1, none⟩) (by show w.heap.size ≤ w.heap.size + 1 + 1; omega) (.slice a k c)
       have hN9 := HN2.out.over (w2 := (w2.setCell ⟨w.heap.size + 1 + 1, 0, none⟩ (.bool q)).setCell ⟨w.heap.size + 1 + 1, 1, none⟩ (.slice a k c)) c0 c1' (fun q hq => (Below.heap_setCell _ _ _ _ hq).trans (Below.heap_setCell _ _ _ _ hq)) (by simp [World.setCell]) N2.out (fun x e => by cases e)
       refine bodyPost_ret (results_cell_row rfl _ _ (w.heap.size + 1 + 1) 114 #[.bool q, .slice a k c] (0, 0) _ rfl HA.out Tryz.underlying114 rfl info_number) rfl ?_
       exact ⟨_, rfl, ⟨.slice a k c, by rw [sign_true (s := s) (M := (X - Y)) (by have := HSS.out; (try simp only [if_true] at this); (try simp only [if_false, Bool.false_eq_true] at this); omega), HZ.out], by rw [show s.natAbs = X - Y from by have := HSS.out; (try simp only [if_true] at this); (try simp only [if_false, Bool.false_eq_true] at this); omega]; exact hN9⟩, hB9⟩
      exact AllReadyH.nil
     exact AllReadyH.nil
    exact AllReadyH.nil
 ·
  go_enter Tryz.func132, Tryz.ntmps132
  have hB3 := (((below_alloc w (.cells #[.bool true, .slice a1 k1 c1] 114)).alloc (by simp only [World.size_alloc]; omega) (.cells #[.bool true, .slice a2 k2 c2] 114)).alloc (by simp only [World.size_alloc]; omega) (.cells #[.bool false, .slice none 0 0] 114))
  obtain ⟨hW0, hW1, hW⟩ := three_blocks w (.bool true) (.slice a1 k1 c1) (.bool true) (.slice a2 k2 c2) (.bool false) (.slice none 0 0)
  have HS := Lib.hid hW.lt
  have HB := Lib.hid hB3
  have HW := Lib.hid hW
  have HW0 := Lib.hid hW0
  have HW1 := Lib.hid hW1
  clear hB3 hW hW0 hW1
  go_wp2_with fail
  refine wp_region_noPanic ?_
  refine wp_region_held_drew (S := fun W => NBlk W w.heap.size (.bool true) (.slice a1 k1 c1) ∧ NBlk W (w.heap.size + 1) (.bool true) (.slice a2 k2 c2)) (by kernel_rfl) ?_ (fun hHeld => ?_)
  ·
   exact ⟨HW0.out, HW1.out⟩
  refine tk 0 (oi := ({ dst := some 10, op := .fieldAddr 114 (.tmp 2) 0, type := 0, pos := "number.go:49", after := #[], guard := none } : Oper)) (v := ?v0_1st) ?hy0_1st ?re0_1st
  case hy0_1st => ((intro w hSw; obtain ⟨q1, q2⟩ := hSw; have e1 := q1.c0; have e2 := q1.c1; have e3 := q2.c0; have e4 := q2.c1; go_simp) <;> with_reducible rfl)
  (try simp only [Act.put, List.setIfInBounds_toArray, List.set_cons_zero, List.set_cons_succ])
  refine tk 1 (oi := ({ dst := some 11, op := .load 4 (.tmp 10), type := 4, pos := "number.go:49", after := #[⟨0, .data⟩], guard := none } : Oper)) (v := ?v1_2st) ?hy1_2st ?re1_2st
  case hy1_2st => ((intro w hSw; obtain ⟨q1, q2⟩ := hSw; have e1 := q1.c0; have e2 := q1.c1; have e3 := q2.c0; have e4 := q2.c1; go_simp) <;> with_reducible rfl)
  (try simp only [Act.put, List.setIfInBounds_toArray, List.set_cons_zero, List.set_cons_succ])
  refine tk 2 (oi := ({ dst := some 12, op := .fieldAddr 114 (.tmp 2) 1, type := 0, pos := "number.go:49", after := #[], guard := none } : Oper)) (v := ?v2_3st) ?hy2_3st ?re2_3st
  case hy2_3st => ((intro w hSw; obtain ⟨q1, q2⟩ := hSw; have e1 := q1.c0; have e2 := q1.c1; have e3 := q2.c0; have e4 := q2.c1; go_simp) <;> with_reducible rfl)
  (try simp only [Act.put, List.setIfInBounds_toArray, List.set_cons_zero, List.set_cons_succ])
  refine tk 3 (oi := ({ dst := some 13, op := .load 112 (.tmp 12), type := 112, pos := "number.go:49", after := #[⟨2, .data⟩], guard := none } : Oper)) (v := ?v3_4st) ?hy3_4st ?re3_4st
  case hy3_4st => ((intro w hSw; obtain ⟨q1, q2⟩ := hSw; have e1 := q1.c0; have e2 := q1.c1; have e3 := q2.c0; have e4 := q2.c1; go_simp) <;> with_reducible rfl)
  (try simp only [Act.put, List.setIfInBounds_toArray, List.set_cons_zero, List.set_cons_succ])
  refine tk 4 (oi := ({ dst := some 14, op := .fieldAddr 114 (.tmp 3) 1, type := 0, pos := "number.go:49", after := #[], guard := none } : Oper)) (v := ?v4_5st) ?hy4_5st ?re4_5st
  case hy4_5st => ((intro w hSw; obtain ⟨q1, q2⟩ := hSw; have e1 := q1.c0; have e2 := q1.c1; have e3 := q2.c0; have e4 := q2.c1; go_simp) <;> with_reducible rfl)
  (try simp only [Act.put, List.setIfInBounds_toArray, List.set_cons_zero, List.set_cons_succ])
  refine tk 5 (oi := ({ dst := some 15, op := .load 112 (.tmp 14), type := 112, pos := "number.go:49", after := #[⟨4, .data⟩], guard := none } : Oper)) (v := ?v5_6st) ?hy5_6st ?re5_6st
  case hy5_6st => ((intro w hSw; obtain ⟨q1, q2⟩ := hSw; have e1 := q1.c0; have e2 := q1.c1; have e3 := q2.c0; have e4 := q2.c1; go_simp) <;> with_reducible rfl)
  (try simp only [Act.put, List.setIfInBounds_toArray, List.set_cons_zero, List.set_cons_succ])
  refine wpAnyH_ready (rs := [6]) (by kernel_rfl) (by simp) ?_
  refine AllReadyH.cons (o := ({ dst := some 16, op := .call { callee := .value (.func 152), args := #[.tmp 13, .tmp 15], argTypes := #[112, 112] }, type := 112, pos := "number.go:49", after := #[⟨3, .data⟩, ⟨5, .data⟩], guard := none } : Oper)) rfl (fun K hK => ?_) ?_
  ·
   go_simp
   go_at_call 152
   refine (CP.out _ (H1.out.below HB.out.drew) (H2.out.below HB.out.drew)).mono ?_
   rintro e w1 ⟨g, rfl, n1, B1⟩
   have hW1 := HW.out.keep (drew_left B1) HS.out; have N1 := Lib.hid n1; have BB1 := Lib.hid (HB.out.trans ((drew_left B1).mono HB.out.size)); have HW1' := Lib.hid hW1; clear n1 hW1
   (try go_wp2_with fail)
   refine hK.out _ _ ?_ (fun hHeld => ?_)
   ·
    exact ⟨hHeld.1.keep B1 hHeld.1.lt, hHeld.2.keep B1 hHeld.2.lt⟩
   clear hK K
   (try simp only [Act.put, List.setIfInBounds_toArray, List.set_cons_zero, List.set_cons_succ])
   refine wpAnyH_ready (rs := [7]) (by kernel_rfl) (by simp) ?_
   refine AllReadyH.cons (o := ({ dst := some 17, op := .call { callee := .value (.func 154), args := #[.tmp 11, .tmp 16], argTypes := #[4, 112] }, type := 114, pos := "number.go:49", after := #[⟨1, .data⟩, ⟨6, .data⟩, ⟨6, .chain⟩], guard := none } : Oper)) rfl (fun K hK => ?_) ?_
   ·
    go_simp
    go_at_call 154
    refine (CS.out _ _ _ _ N1.out hgP).mono ?_
    rintro e w2 ⟨q, a, k, c, rfl, hq, n2, B2⟩
    have h0 := HW1'.out.keep B2 HW1'.out.lt; have c0 := h0.c0; have f0 := h0.f 0; have c1' := h0.c1; have N2 := Lib.hid (fun j (hj : 2 ≤ j) => h0.c2 hj); have hA := h0.s0 (.bool q); have c1 := hA.c1; have f1 := hA.f 1; have HA := Lib.hid (hA.s1 (.slice a k c)); clear hA; have HN2 := Lib.hid n2; have BB2 := Lib.hid (BB1.out.trans (B2.mono BB1.out.size)); have HZ := Lib.hid hq; clear h0 n2 hq
    (try go_wp2_with fail)
    refine hK.out _ _ ?_ (fun hHeld => ?_)
    ·
     exact ⟨hHeld.1.keep B2 hHeld.1.lt, hHeld.2.keep B2 hHeld.2.lt⟩
    clear hK K
    (try simp only [Act.put, List.setIfInBounds_toArray, List.set_cons_zero, List.set_cons_succ])
    refine wpAnyH_ready (rs := [8]) (by kernel_rfl) (by simp) ?_
    refine AllReadyH.cons (o := ({ dst := none, op := .store 114 (.tmp 4) (.tmp 17), type := 0, pos := "number.go:49", after := #[⟨7, .data⟩, ⟨7, .chain⟩, ⟨0, .phase⟩, ⟨1, .phase⟩, ⟨2, .phase⟩, ⟨3, .phase⟩, ⟨4, .phase⟩, ⟨5, .phase⟩, ⟨6, .phase⟩, ⟨7, .phase⟩], guard := none } : Oper)) rfl (fun K hK => ?_) ?_
    ·
     go_simp
     refine hK.out _ _ ?_ (fun hHeld => ?_)
     ·
      exact ⟨(hHeld.1.far (by omega)).far (by omega), (hHeld.2.far (by omega)).far (by omega)⟩
     clear hK K
     (try simp only [Act.put, List.setIfInBounds_toArray, List.set_cons_zero, List.set_cons_succ])
     refine wpAnyH_done (by kernel_rfl) ?_ _
     refine NoPanic.normal ?_
     go_wp2_with fail
     have hB9 := (BB2.out.setCell (p := ⟨w.heap.size + 1 + 1, 0, none⟩) (by show w.heap.size ≤ w.heap.size + 1 + 1; omega) (.bool q)).setCell (p := ⟨w.heap.size + 1 + 1, 1, none⟩) (by show w.heap.size ≤ w.heap.size + 1 + 1; omega) (.slice a k c)
     have hN9 := HN2.out.over (w2 := (w2.setCell ⟨w.heap.size + 1 + 1, 0, none⟩ (.bool q)).setCell ⟨w.heap.size + 1 + 1, 1, none⟩ (.slice a k c)) c0 c1' (fun q hq => (Below.heap_setCell _ _ _ _ hq).trans (Below.heap_setCell _ _ _ _ hq)) (by simp [World.setCell]) N2.out (fun x e => by cases e)
     refine bodyPost_ret (results_cell_row rfl _ _ (w.heap.size + 1 + 1) 114 #[.bool q, .slice a k c] (0, 0) _ rfl HA.out Tryz.underlying114 rfl info_number) rfl ?_
     exact ⟨_, rfl, ⟨.slice a k c, by rw [sign_true (s := s) (M := (X + Y)) (by have := HSS.out; (try simp only [if_true] at this); (try simp only [if_false, Bool.false_eq_true] at this); omega), HZ.out], by rw [show s.natAbs = X + Y from by have := HSS.out; (try simp only [if_true] at this); (try simp only [if_false, Bool.false_eq_true] at this); omega]; exact hN9⟩, hB9⟩
    exact AllReadyH.nil
   exact AllReadyH.nil
  exact AllReadyH.nil
theorem nplus_any (x y : Int) (v1 v2 : Value) (w : World) (hl1 : (grp x.natAbs).length ≤ 50000) (hl2 : (grp y.natAbs).length ≤ 50000) (h1 : Num w v1 x) (h2 : Num w v2 y) :
  Calls Tryz.prog 132 #[v1, v2] w fun e w' => ∃ v, e = .returned v ∧ Num w' v (x + y) ∧ Below w.heap.size w w' := by
 obtain ⟨u1, rfl, h1⟩ := h1
 obtain ⟨u2, rfl, h2⟩ := h2
 refine nplus_form _ _ x.natAbs y.natAbs _ u1 u2 w hl1 hl2 h1 h2 ?_
 by_cases hx : x < 0 <;> by_cases hy : y < 0 <;> simp [hx, hy] <;> omega
theorem Num.form {w : World} {v : Value} {z : Int} (h : Num w v z) : ∃ q a k c, v = .agg #[.bool q, .slice a k c] ∧ q = decide (z < 0) ∧ NSl w (.slice a k c) z.natAbs := by
 obtain ⟨u, rfl, h⟩ := h
 obtain ⟨a, c, rfl⟩ := h.form
 exact ⟨_, a, _, c, rfl, rfl, h⟩
theorem agg_yields {w : World} {g : Nat} {x y : Value} (h : NBlk w g x y) : (loadVar 114 ⟨g, 0, none⟩).run Tryz.prog w = .ok (.agg #[x, y]) w :=
 run_loadVar_row w g _ _ _ _ _ h Tryz.underlying114 rfl info_number
set_option maxRecDepth 100000 in
set_option maxHeartbeats 2000000 in
theorem nminus_any (x y : Int) (v1 v2 : Value) (w : World) (hl1 : (grp x.natAbs).length ≤ 50000) (hl2 : (grp y.natAbs).length ≤ 50000) (h1 : Num w v1 x) (h2 : Num w v2 y) :
  Calls Tryz.prog 133 #[v1, v2] w fun e w' => ∃ v, e = .returned v ∧ Num w' v (x - y) ∧ Below w.heap.size w w' := by
 have h1' := h1
 obtain ⟨b1, a1, k1, c1, rfl, hb1, h1⟩ := h1.form
 obtain ⟨b2, a2, k2, c2, rfl, hb2, h2⟩ := h2.form
 have CS := Lib.hid (fun (W : World) (hB : Below w.heap.size w W) => (signed_any (!b2) y.natAbs (.slice a2 k2 c2) W (h2.below hB) (by omega)).mono (R' := fun e w' => ∃ v, e = .returned v ∧ Num w' v (-y) ∧ Below W.heap.size W w') fun e w' ⟨v, he, hn, hb⟩ => ⟨v, he, by
  have e2 : (if (!b2) = true then -(y.natAbs : Int) else (y.natAbs : Int)) = -y := by
   rw [hb2]; by_cases hy : y < 0 <;> simp [hy] <;> omega
  rw [e2] at hn; exact hn, hb⟩)
 have CA := Lib.hid (fun (W : World) (hB : Below w.heap.size w W) (v : Value) (hv : Num W v (-y)) => nplus_any x (-y) _ v W hl1 (by rw [Int.natAbs_neg]; exact hl2) (h1'.below hB) hv)
 clear h1 h2 h1' hl1 hl2 hb1 hb2
 go_enter Tryz.func133, Tryz.ntmps133
 have hB3 := (((below_alloc w (.cells #[.bool b1, .slice a1 k1 c1] 114)).alloc (by simp only [World.size_alloc]; omega) (.cells #[.bool b2, .slice a2 k2 c2] 114)).alloc (by simp only [World.size_alloc]; omega) (.cells #[.bool false, .slice none 0 0] 114))
 obtain ⟨hW0, hW1, hW⟩ := three_blocks w (.bool b1) (.slice a1 k1 c1) (.bool b2) (.slice a2 k2 c2) (.bool false) (.slice none 0 0)
 have HS := Lib.hid hW.lt
 have HB := Lib.hid hB3
 have HW := Lib.hid hW
 have HW0 := Lib.hid hW0
 have HW1 := Lib.hid hW1
 clear hB3 hW hW0 hW1
 go_wp2_with fail
 refine wp_region_noPanic ?_
 refine wp_region_held_drew (S := fun W => NBlk W w.heap.size (.bool b1) (.slice a1 k1 c1) ∧ NBlk W (w.heap.size + 1) (.bool b2) (.slice a2 k2 c2)) (by kernel_rfl) ?_ (fun hHeld => ?_)
 ·
  exact ⟨HW0.out, HW1.out⟩
 refine tk 0 (oi := ({ dst := some 5, op := .load 114 (.tmp 2), type := 114, pos := "number.go:58", after := #[], guard := none } : Oper)) (v := ?v0_1) ?hy0_1 ?re0_1
 case hy0_1 => ((intro w hSw; obtain ⟨q1, q2⟩ := hSw; have e1 := q1.c0; have e2 := q1.c1; have e3 := q2.c0; have e4 := q2.c1; go_simp) <;> with_reducible rfl)
 (try simp only [Act.put, List.setIfInBounds_toArray, List.set_cons_zero, List.set_cons_succ])
 refine tk 1 (oi := ({ dst := some 6, op := .fieldAddr 114 (.tmp 3) 0, type := 0, pos := "number.go:58", after := #[], guard := none } : Oper)) (v := ?v1_2) ?hy1_2 ?re1_2
 case hy1_2 => ((intro w hSw; obtain ⟨q1, q2⟩ := hSw; have e1 := q1.c0; have e2 := q1.c1; have e3 := q2.c0; have e4 := q2.c1; go_simp) <;> with_reducible rfl)
 (try simp only [Act.put, List.setIfInBounds_toArray, List.set_cons_zero, List.set_cons_succ])
 refine tk 2 (oi := ({ dst := some 7, op := .load 4 (.tmp 6), type := 4, pos := "number.go:58", after := #[⟨1, .data⟩], guard := none } : Oper)) (v := ?v2_3) ?hy2_3 ?re2_3
 case hy2_3 => ((intro w hSw; obtain ⟨q1, q2⟩ := hSw; have e1 := q1.c0; have e2 := q1.c1; have e3 := q2.c0; have e4 := q2.c1; go_simp) <;> with_reducible rfl)
 (try simp only [Act.put, List.setIfInBounds_toArray, List.set_cons_zero, List.set_cons_succ])
 refine tk 3 (oi := ({ dst := some 8, op := .unOp .not 4 (.tmp 7), type := 4, pos := "number.go:58", after := #[⟨2, .data⟩], guard := none } : Oper)) (v := ?v3_4) ?hy3_4 ?re3_4
 case hy3_4 => ((intro w hSw; obtain ⟨q1, q2⟩ := hSw; have e1 := q1.c0; have e2 := q1.c1; have e3 := q2.c0; have e4 := q2.c1; go_simp) <;> with_reducible rfl)
 (try simp only [Act.put, List.setIfInBounds_toArray, List.set_cons_zero, List.set_cons_succ])
 refine tk 4 (oi := ({ dst := some 9, op := .fieldAddr 114 (.tmp 3) 1, type := 0, pos := "number.go:58", after := #[], guard := none } : Oper)) (v := ?v4_5) ?hy4_5 ?re4_5
 case hy4_5 => ((intro w hSw; obtain ⟨q1, q2⟩ := hSw; have e1 := q1.c0; have e2 := q1.c1; have e3 := q2.c0; have e4 := q2.c1; go_simp) <;> with_reducible rfl)
 (try simp only [Act.put, List.setIfInBounds_toArray, List.set_cons_zero, List.set_cons_succ])
 refine tk 5 (oi := ({ dst := some 10, op := .load 112 (.tmp 9), type := 112, pos := "number.go:58", after := #[⟨4, .data⟩], guard := none } : Oper)) (v := ?v5_6) ?hy5_6 ?re5_6
 case hy5_6 => ((intro w hSw; obtain ⟨q1, q2⟩ := hSw; have e1 := q1.c0; have e2 := q1.c1; have e3 := q2.c0; have e4 := q2.c1; go_simp) <;> with_reducible rfl)
 (try simp only [Act.put, List.setIfInBounds_toArray, List.set_cons_zero, List.set_cons_succ])
 refine wpAnyH_ready (rs := [6]) (by kernel_rfl) (by simp) ?_
 refine AllReadyH.cons (o := ({ dst := some 11, op := .call { callee := .value (.func 154), args := #[.tmp 8, .tmp 10], argTypes := #[4, 112] }, type := 114, pos := "number.go:58", after := #[⟨3, .data⟩, ⟨5, .data⟩], guard := none } : Oper)) rfl (fun K hK => ?_) ?_
 ·
  go_simp
  go_at_call 154
  refine (CS.out _ HB.out.drew).mono ?_
  rintro e w1 ⟨v2, rfl, n1, B1⟩
  have hW1 := HW.out.keep (drew_left B1) HS.out; have N1 := Lib.hid n1; have BB1 := Lib.hid (HB.out.trans ((drew_left B1).mono HB.out.size)); have HW1' := Lib.hid hW1; clear n1 hW1
  (try go_wp2_with fail)
  refine hK.out _ _ ?_ (fun hHeld => ?_)
  ·
   exact ⟨hHeld.1.keep B1 hHeld.1.lt, hHeld.2.keep B1 hHeld.2.lt⟩
  clear hK K
  (try simp only [Act.put, List.setIfInBounds_toArray, List.set_cons_zero, List.set_cons_succ])
  refine wpAnyH_ready (rs := [7]) (by kernel_rfl) (by simp) ?_
  refine AllReadyH.cons (o := ({ dst := some 12, op := .call { callee := .value (.func 132), args := #[.tmp 5, .tmp 11], argTypes := #[114, 114] }, type := 114, pos := "number.go:58", after := #[⟨0, .data⟩, ⟨6, .data⟩, ⟨6, .chain⟩], guard := none } : Oper)) rfl (fun K hK => ?_) ?_
  ·
   go_simp
   go_at_call 132
   refine (CA.out _ BB1.out _ N1.out).mono ?_
   rintro e w2 ⟨v, rfl, n2, B2⟩
   obtain ⟨q, a, k, c, rfl, hq, n2⟩ := n2.form
   have h0 := HW1'.out.keep B2 HW1'.out.lt; have c0 := h0.c0; have f0 := h0.f 0; have c1' := h0.c1; have N2 := Lib.hid (fun j (hj : 2 ≤ j) => h0.c2 hj); have hA := h0.s0 (.bool q); have c1 := hA.c1; have f1 := hA.f 1; have HA := Lib.hid (hA.s1 (.slice a k c)); clear hA; have HN2 := Lib.hid n2; have BB2 := Lib.hid (BB1.out.trans (B2.mono BB1.out.size)); have HZ := Lib.hid hq; clear h0 n2 hq
   (try go_wp2_with fail)
   refine hK.out _ _ ?_ (fun hHeld => ?_)
   ·
    exact ⟨hHeld.1.keep B2 hHeld.1.lt, hHeld.2.keep B2 hHeld.2.lt⟩
   clear hK K
   (try simp only [Act.put, List.setIfInBounds_toArray, List.set_cons_zero, List.set_cons_succ])
   refine wpAnyH_ready (rs := [8]) (by kernel_rfl) (by simp) ?_
   refine AllReadyH.cons (o := ({ dst := none, op := .store 114 (.tmp 4) (.tmp 12), type := 0, pos := "number.go:58", after := #[⟨7, .data⟩, ⟨7, .chain⟩, ⟨0, .phase⟩, ⟨1, .phase⟩, ⟨2, .phase⟩, ⟨3, .phase⟩, ⟨4, .phase⟩, ⟨5, .phase⟩, ⟨6, .phase⟩, ⟨7, .phase⟩], guard := none } : Oper)) rfl (fun K hK => ?_) ?_
   ·
    go_simp
    refine hK.out _ _ ?_ (fun hHeld => ?_)
    ·
     exact ⟨(hHeld.1.far (by omega)).far (by omega), (hHeld.2.far (by omega)).far (by omega)⟩
    clear hK K
    (try simp only [Act.put, List.setIfInBounds_toArray, List.set_cons_zero, List.set_cons_succ])
    refine wpAnyH_done (by kernel_rfl) ?_ _
    refine NoPanic.normal ?_
    go_wp2_with fail
    have hB9 := (BB2.out.setCell (p := ⟨w.heap.size + 1 + 1, 0, none⟩) (by show w.heap.size ≤ w.heap.size + 1 + 1; omega) (.bool q)).setCell (p := ⟨w.heap.size + 1 + 1, 1, none⟩) (by show w.heap.size ≤ w.heap.size + 1 + 1; omega) (.slice a k c)
    have hN9 := HN2.out.over (w2 := (w2.setCell ⟨w.heap.size + 1 + 1, 0, none⟩ (.bool q)).setCell ⟨w.heap.size + 1 + 1, 1, none⟩ (.slice a k c)) c0 c1' (fun q hq => (Below.heap_setCell _ _ _ _ hq).trans (Below.heap_setCell _ _ _ _ hq)) (by simp [World.setCell]) N2.out (fun x e => by cases e)
    refine bodyPost_ret (results_cell_row rfl _ _ (w.heap.size + 1 + 1) 114 #[.bool q, .slice a k c] (0, 0) _ rfl HA.out Tryz.underlying114 rfl info_number) rfl ?_
    exact ⟨_, rfl, by rw [Int.sub_eq_add_neg]; exact ⟨.slice a k c, by rw [HZ.out], hN9⟩, hB9⟩
   exact AllReadyH.nil
  exact AllReadyH.nil
 exact AllReadyH.nil
theorem results_cells2 {fn : Func} {p q : Tmp} (h : fn.results = #[.cell p 114, .cell q 114]) (tmps : Array Value) (w : World) (g1 g2 : Nat) (x1 y1 x2 y2 : Value)
  (hp : tmps.getD p undef = .pointer (some ⟨g1, 0, none⟩)) (hq : tmps.getD q undef = .pointer (some ⟨g2, 0, none⟩)) (hg1 : NBlk w g1 x1 y1) (hg2 : NBlk w g2 x2 y2) :
  (results fn tmps).run Tryz.prog w = .ok (.tuple #[.agg #[x1, y1], .agg #[x2, y2]]) w := by
 have hp' : tmps[p]?.getD undef = .pointer (some ⟨g1, 0, none⟩) := by simpa using hp
 have hq' : tmps[q]?.getD undef = .pointer (some ⟨g2, 0, none⟩) := by simpa using hq
 simp [results, h, hp', hq', asAddr, Sem.run_bind, agg_yields hg1, agg_yields hg2]
theorem NBlk.alloc {w : World} {g : Nat} {x y : Value} (h : NBlk w g x y) (o : Obj) : NBlk (w.alloc o) g x y := (Go.heap_alloc_old _ _ h.lt).trans h
theorem NBlk.new (w : World) (x y : Value) : NBlk (w.alloc (.cells #[x, y] 114)) w.heap.size x y := Go.heap_alloc_new w _
theorem lit_one (W : World) : NSl (W.alloc (.cells #[.int .i64 1] 3)) (.slice (some ⟨W.heap.size, 0, none⟩) 1 1) 1 := by
 have hA : ABlk (W.alloc (.cells #[.int .i64 1] 3)) W.heap.size [1] := ⟨[], World.alloc_heap_new W _⟩
 have e : grp 1 = [1] := by rw [grp_pos (by decide)]; simp [grp_zero]
 rw [NSl, e]
 refine .inr ⟨_, 0, 1, rfl, by simp, by omega, hA.lt, ?_⟩
 exact ABlk.row (P := []) (S := []) (by simpa using hA)
theorem dv {x y q r : Int} (hy : y ≠ 0) (h : x = y.natAbs * q + r) (h0 : 0 ≤ r) (h1 : r < y.natAbs) : x / y = (if y < 0 then -q else q) ∧ x % y = r := by
 have _ := hy
 have hu := (Int.ediv_emod_unique (a := x) (b := (y.natAbs : Int)) (r := r) (q := q) (by omega)).2 ⟨by rw [h, Int.add_comm], h0, h1⟩
 by_cases hn : y < 0
 ·
  obtain ⟨z, hz⟩ : ∃ z : Int, z = y.natAbs := ⟨_, rfl⟩
  rw [← hz] at hu
  have e : y = -z := by omega
  rw [if_pos hn, e, Int.ediv_neg, Int.emod_neg, hu.1, hu.2]
  exact ⟨rfl, rfl⟩
 ·
  obtain ⟨z, hz⟩ : ∃ z : Int, z = y.natAbs := ⟨_, rfl⟩
  rw [← hz] at hu
  have e : y = z := by omega
  rw [if_neg hn, e]
  exact hu
theorem dv_pos {x y : Int} (hy : y ≠ 0) (hx : 0 ≤ x) : x / y = (if y < 0 then -((x.natAbs / y.natAbs : Nat) : Int) else ((x.natAbs / y.natAbs : Nat) : Int)) ∧ x % y = ((x.natAbs % y.natAbs : Nat) : Int) := by
 have h := Nat.div_add_mod x.natAbs y.natAbs
 have h2 := Nat.mod_lt x.natAbs (y := y.natAbs) (by omega)
 refine dv hy ?_ (by omega) (by omega)
 rw [← Int.natCast_mul, ← Int.natCast_add, h]; omega
theorem dv_zero {x y : Int} (hy : y ≠ 0) (hx : x < 0) (h0 : x.natAbs % y.natAbs = 0) : x / y = (if y < 0 then ((x.natAbs / y.natAbs : Nat) : Int) else -((x.natAbs / y.natAbs : Nat) : Int)) ∧ x % y = ((0 : Nat) : Int) := by
 have h := Nat.div_add_mod x.natAbs y.natAbs
 rw [h0] at h
 have h3 := dv (x := x) (y := y) (q := -((x.natAbs / y.natAbs : Nat) : Int)) (r := 0) hy (by
  rw [Int.mul_neg, ← Int.natCast_mul]; omega) (by omega) (by omega)
 refine ⟨?_, h3.2⟩
 rw [h3.1]; split <;> omega
theorem dv_neg {x y : Int} (hy : y ≠ 0) (hx : x < 0) (h0 : 0 < x.natAbs % y.natAbs) : x / y = (if y < 0 then ((x.natAbs / y.natAbs + 1 : Nat) : Int) else -((x.natAbs / y.natAbs + 1 : Nat) : Int)) ∧ x % y = ((y.natAbs - x.natAbs % y.natAbs : Nat) : Int) := by
 have h := Nat.div_add_mod x.natAbs y.natAbs
 have h2 := Nat.mod_lt x.natAbs (y := y.natAbs) (by omega)
 have h3 := dv (x := x) (y := y) (q := -((x.natAbs / y.natAbs + 1 : Nat) : Int)) (r := ((y.natAbs - x.natAbs % y.natAbs : Nat) : Int)) hy (by
  rw [Int.mul_neg, ← Int.natCast_mul, Nat.mul_add, Nat.mul_one]; omega) (by omega) (by omega)
 refine ⟨?_, h3.2⟩
 rw [h3.1]; split <;> omega
set_option maxRecDepth 100000 in
set_option maxHeartbeats 4000000 in
theorem nover_any (x y : Int) (v1 v2 : Value) (w : World) (hy : y ≠ 0) (hl1 : (grp x.natAbs).length ≤ 50000) (hl2 : (grp y.natAbs).length ≤ 50000) (h1 : Num w v1 x) (h2 : Num w v2 y) :
  Calls Tryz.prog 113 #[v1, v2] w fun e w' => ∃ r1 r2, e = .returned (.tuple #[r1, r2]) ∧ Num w' r1 (x / y) ∧ Num w' r2 (x % y) ∧ Below w.heap.size w w' := by
 obtain ⟨b1, a1, k1, c1, rfl, hb1, h1⟩ := h1.form
 obtain ⟨b2, a2, k2, c2, rfl, hb2, h2⟩ := h2.form
 have e1 := Lib.hid (fun (h : 0 ≤ x) => dv_pos hy h)
 have e2 := Lib.hid (fun (h : x < 0) => dv_zero hy h)
 have e3 := Lib.hid (fun (h : x < 0) => dv_neg hy h)
 have hY : 0 < y.natAbs := by omega
 generalize x.natAbs = X at *
 generalize y.natAbs = Y at *
 have hR := Nat.mod_lt X hY
 have hQl : (grp (X / Y)).length ≤ 50000 := Nat.le_trans (grp_mono (Nat.div_le_self _ _)) hl1
 have hRl : (grp (X % Y)).length ≤ 50000 := Nat.le_trans (grp_mono (Nat.le_of_lt hR)) hl2
 obtain ⟨k4, hk4⟩ : ∃ k, (grp (X % Y)).length = k := ⟨_, rfl⟩
 have hk0 : k4 = 0 ↔ X % Y = 0 := by rw [← hk4]; exact List.length_eq_zero_iff.trans grp_nil
 obtain ⟨R, hRe⟩ : ∃ R, X % Y = R := ⟨_, rfl⟩
 obtain ⟨Q, hQe⟩ : ∃ Q, X / Y = Q := ⟨_, rfl⟩
 have CO := Lib.hid (fun (W : World) (hB : Below w.heap.size w W) => (over_any X Y (.slice a1 k1 c1) (.slice a2 k2 c2) W hY (by omega) (by omega) (h1.below hB) (h2.below hB)).mono (R' := fun e w' => ∃ a3 k3 c3 a4 c4, e = .returned (.tuple #[.slice a3 k3 c3, .slice a4 k4 c4]) ∧ NSl w' (.slice a3 k3 c3) Q ∧ NSl w' (.slice a4 k4 c4) R ∧ Below W.heap.size W w') fun e w' ⟨u1, u2, he, n1, n2, hb⟩ => by
  obtain ⟨a3, c3, rfl⟩ := n1.form
  obtain ⟨a4, c4, rfl⟩ := n2.form
  rw [hk4] at he n2
  rw [hRe] at n2
  rw [hQe] at n1
  rw [hQe] at he
  exact ⟨a3, _, c3, a4, c4, he, n1, n2, hb⟩)
 rw [hRe] at hR hk0 hRl e1 e2 e3
 rw [hQe] at hQl e1 e2 e3
 have hQ1 : (grp (Q + 1)).length ≤ 60000 := by
  have h3 : Q + 1 < 10000 ^ ((grp Q).length + 1) := by
   have e1 := grp_lt Q
   rw [Nat.pow_succ]
   omega
  exact Nat.le_trans (grp_len h3) (by omega)
 have hYR : (grp (Y - R)).length ≤ 60000 := Nat.le_trans (grp_mono (Nat.sub_le _ _)) (by omega)
 have CP := Lib.hid (fun (W : World) (a3 : Option Addr) (k3 c3 : Nat) (u : Value) (g1 : NSl W (.slice a3 k3 c3) Q) (g2 : NSl W u 1) => plus_any Q 1 _ u W (by omega) (Nat.le_trans (grp_len (k := 1) (by decide)) (by decide)) g1 g2)
 have CM := Lib.hid (fun (W : World) (hB : Below w.heap.size w W) (c4 : Nat) (a4 : Option Addr) (g2 : NSl W (.slice a4 k4 c4) R) => minus_any Y R _ _ W (Nat.le_of_lt hR) (by omega) (h2.below hB) g2)
 have CS := Lib.hid (fun (W : World) b u n (h : NSl W u n) (hl : (grp n).length ≤ 60000) => signed_form b n u W h hl)
 have HR9 : (grp R).length ≤ 60000 := by omega
 have HQ9 : (grp Q).length ≤ 60000 := by omega
 have HK0 := Lib.hid hk0
 have HB1 := Lib.hid hb1
 have HB2 := Lib.hid hb2
 clear h1 h2 hl1 hl2 hk4 hRe hQe hR hk0 hRl hQl hb1 hb2 hY hy
 cases b1 <;> cases b2
 ·
  have hx : 0 ≤ x := by have := HB1.out; simp at this; exact this
  have HE := e1.out hx
  have hyq : decide (y < 0) = false := HB2.out.symm
  have HE1 := Lib.hid (show x / y = ((Q : Nat) : Int) by rw [HE.1]; (try rw [decide_eq_true_eq] at hyq); (try rw [decide_eq_false_iff_not] at hyq); simp [hyq])
  have HE2 := Lib.hid HE.2
  clear HE hyq
  clear hx e1 e2 e3 HK0 hQ1 hYR CP CM
  go_enter Tryz.func113, Tryz.ntmps113
  have hB4 := (((below_alloc w (.cells #[.bool false, .slice a1 k1 c1] 114)).alloc (by simp only [World.size_alloc]; omega) (.cells #[.bool false, .slice a2 k2 c2] 114)).alloc (by simp only [World.size_alloc]; omega) (.cells #[.bool false, .slice none 0 0] 114)).alloc (by simp only [World.size_alloc]; omega) (.cells #[.bool false, .slice none 0 0] 114)
  obtain ⟨hW0, hW1, hW2⟩ := three_blocks w (.bool false) (.slice a1 k1 c1) (.bool false) (.slice a2 k2 c2) (.bool false) (.slice none 0 0)
  have hW3 := NBlk.new (((w.alloc (.cells #[.bool false, .slice a1 k1 c1] 114)).alloc (.cells #[.bool false, .slice a2 k2 c2] 114)).alloc (.cells #[.bool false, .slice none 0 0] 114)) (.bool false) (.slice none 0 0)
  simp only [World.size_alloc] at hW3
  have HS := Lib.hid hW3.lt
  have HB := Lib.hid hB4
  have HW0 := Lib.hid (hW0.alloc (.cells #[.bool false, .slice none 0 0] 114))
  have HW1 := Lib.hid (hW1.alloc (.cells #[.bool false, .slice none 0 0] 114))
  have HW2 := Lib.hid (hW2.alloc (.cells #[.bool false, .slice none 0 0] 114))
  have HW3 := Lib.hid hW3
  clear hB4 hW0 hW1 hW2 hW3
  go_wp2_with (first | (go_at_call 151; go_loud ((with_reducible refine (CO.out _ HB.out).mono ?_); rintro e w1 ⟨a3, k3, c3, a4, c4, rfl, n1, n2, B1⟩; have N1 := Lib.hid n1; have N2 := Lib.hid n2; clear n1 n2; have w0' := HW0.out.keep B1 (by have := HS.out; omega); have w1' := HW1.out.keep B1 (by have := HS.out; omega); have w2' := HW2.out.keep B1 (by have := HS.out; omega); have w3' := HW3.out.keep B1 HS.out; have b' := HB.out.trans (B1.mono HB.out.size); clear HW0 HW1 HW2 HW3 HB HS; have HS := Lib.hid w3'.lt; have HW0 := Lib.hid w0'; have HW1 := Lib.hid w1'; have HW2 := Lib.hid w2'; have HW3 := Lib.hid w3'; have HB := Lib.hid b'; have r0 := w0'.c0; have r1 := w1'.c0; have r2 := w1'.c1; clear w0' w1' w2' w3' b' B1)) | (first | (go_at_call 154; ((with_reducible refine (CS.out _ _ _ _ N1.out HQ9).mono ?_); rintro e w8 ⟨q1, a5, k5, c5, rfl, hq1, n1, B1⟩; have HZ1 := Lib.hid hq1; have n2 := N2.out.below B1; clear N1 N2 hq1; have N5 := Lib.hid n1; have N2 := Lib.hid n2; clear n1 n2; clear r0 r1 r2; have w0' := HW0.out.keep B1 (by have := HS.out; omega); have w1' := HW1.out.keep B1 (by have := HS.out; omega); have w2' := HW2.out.keep B1 (by have := HS.out; omega); have w3' := HW3.out.keep B1 HS.out; have b' := HB.out.trans (B1.mono HB.out.size); clear HW0 HW1 HW2 HW3 HB HS; have HS := Lib.hid w3'.lt; have HW0 := Lib.hid w0'; have HW1 := Lib.hid w1'; have HW2 := Lib.hid w2'; have HW3 := Lib.hid w3'; have HB := Lib.hid b'; have r0 := w0'.c0; have r1 := w1'.c0; have r2 := w1'.c1; clear w0' w1' w2' w3' b' B1; clear r0 r1 r2)) | (go_at_call 154; ((with_reducible refine (CS.out _ _ _ _ N2.out HR9).mono ?_); rintro e w9 ⟨q2, a6, k6, c6, rfl, hq2, n2, B1⟩; have HZ2 := Lib.hid hq2; have n1 := N5.out.below B1; clear N5 N2 hq2; have N5 := Lib.hid n1; have N6 := Lib.hid n2; clear n1 n2; have w0' := HW0.out.keep B1 (by have := HS.out; omega); have w1' := HW1.out.keep B1 (by have := HS.out; omega); have w2' := HW2.out.keep B1 (by have := HS.out; omega); have w3' := HW3.out.keep B1 HS.out; have b' := HB.out.trans (B1.mono HB.out.size); clear HW0 HW1 HW2 HW3 HB HS; have HS := Lib.hid w3'.lt; have HW0 := Lib.hid w0'; have HW1 := Lib.hid w1'; have HW2 := Lib.hid w2'; have HW3 := Lib.hid w3'; have HB := Lib.hid b'; have r0 := w0'.c0; have r1 := w1'.c0; have r2 := w1'.c1; clear w0' w1' w2' w3' b' B1; clear r0 r1 r2; have h2 := HW2.out; have h3 := HW3.out; have s0 := h2.c0; have t0 := h2.f 0; have A1 := h2.s0 (.bool q1); have s1 := A1.c1; have t1 := A1.f 1; have A2 := A1.s1 (.slice a5 k5 c5); have K0 := (h3.far (g2 := w.heap.size + 1 + 1) (j := 0) (v := .bool q1) (by omega)).far (g2 := w.heap.size + 1 + 1) (j := 1) (v := .slice a5 k5 c5) (by omega); have s2 := K0.c0; have t2 := K0.f 0; have K1 := K0.s0 (.bool q2); have s3 := K1.c1; have t3 := K1.f 1; have HA2 := Lib.hid ((A2.far (g2 := w.heap.size + 1 + 1 + 1) (j := 0) (v := .bool q2) (by omega)).far (g2 := w.heap.size + 1 + 1 + 1) (j := 1) (v := .slice a6 k6 c6) (by omega)); have HK2 := Lib.hid (K1.s1 (.slice a6 k6 c6)); have m1 := (N5.out.two h2 (fun x e => by cases e) (.bool q1) (.slice a5 k5 c5)).two K0 (fun x e => by cases e) (.bool q2) (.slice a6 k6 c6); have m2 := (N6.out.two h2 (fun x e => by cases e) (.bool q1) (.slice a5 k5 c5)).two K0 (fun x e => by cases e) (.bool q2) (.slice a6 k6 c6); have M1 := Lib.hid m1; have M2 := Lib.hid m2; clear A1 A2 K0 K1 h2 h3 m1 m2))))
  have hB9 := below_far (j := 1) (below_far (j := 0) (below_far (j := 1) (below_far (j := 0) HB.out (show w.heap.size ≤ w.heap.size + 1 + 1 by omega) (.bool q1)) (show w.heap.size ≤ w.heap.size + 1 + 1 by omega) (.slice a5 k5 c5)) (show w.heap.size ≤ w.heap.size + 1 + 1 + 1 by omega) (.bool q2)) (show w.heap.size ≤ w.heap.size + 1 + 1 + 1 by omega) (.slice a6 k6 c6)
  refine bodyPost_ret (results_cells2 rfl _ _ (w.heap.size + 1 + 1) (w.heap.size + 1 + 1 + 1) _ _ _ _ rfl rfl HA2.out HK2.out) rfl ?_
  exact ⟨_, _, rfl, ⟨.slice a5 k5 c5, by rw [sign_false HE1.out, HZ1.out], by rw [show (x / y).natAbs = Q from by have := HE1.out; omega]; exact M1.out⟩, ⟨.slice a6 k6 c6, by rw [sign_false HE2.out, HZ2.out], by rw [show (x % y).natAbs = R from by have := HE2.out; omega]; exact M2.out⟩, hB9⟩
 ·
  have hx : 0 ≤ x := by have := HB1.out; simp at this; exact this
  have HE := e1.out hx
  have hyq : decide (y < 0) = true := HB2.out.symm
  have HE1 := Lib.hid (show x / y = (-(Q : Nat) : Int) by rw [HE.1]; (try rw [decide_eq_true_eq] at hyq); (try rw [decide_eq_false_iff_not] at hyq); simp [hyq])
  have HE2 := Lib.hid HE.2
  clear HE hyq
  clear hx e1 e2 e3 HK0 hQ1 hYR CP CM
  go_enter Tryz.func113, Tryz.ntmps113
  have hB4 := (((below_alloc w (.cells #[.bool false, .slice a1 k1 c1] 114)).alloc (by simp only [World.size_alloc]; omega) (.cells #[.bool true, .slice a2 k2 c2] 114)).alloc (by simp only [World.size_alloc]; omega) (.cells #[.bool false, .slice none 0 0] 114)).alloc (by simp only [World.size_alloc]; omega) (.cells #[.bool false, .slice none 0 0] 114)
  obtain ⟨hW0, hW1, hW2⟩ := three_blocks w (.bool false) (.slice a1 k1 c1) (.bool true) (.slice a2 k2 c2) (.bool false) (.slice none 0 0)
  have hW3 := NBlk.new (((w.alloc (.cells #[.bool false, .slice a1 k1 c1] 114)).alloc (.cells #[.bool true, .slice a2 k2 c2] 114)).alloc (.cells #[.bool false, .slice none 0 0] 114)) (.bool false) (.slice none 0 0)
  simp only [World.size_alloc] at hW3
  have HS := Lib.hid hW3.lt
  have HB := Lib.hid hB4
  have HW0 := Lib.hid (hW0.alloc (.cells #[.bool false, .slice none 0 0] 114))
  have HW1 := Lib.hid (hW1.alloc (.cells #[.bool false, .slice none 0 0] 114))
  have HW2 := Lib.hid (hW2.alloc (.cells #[.bool false, .slice none 0 0] 114))
  have HW3 := Lib.hid hW3
  clear hB4 hW0 hW1 hW2 hW3
  go_wp2_with (first | (go_at_call 151; go_loud ((with_reducible refine (CO.out _ HB.out).mono ?_); rintro e w1 ⟨a3, k3, c3, a4, c4, rfl, n1, n2, B1⟩; have N1 := Lib.hid n1; have N2 := Lib.hid n2; clear n1 n2; have w0' := HW0.out.keep B1 (by have := HS.out; omega); have w1' := HW1.out.keep B1 (by have := HS.out; omega); have w2' := HW2.out.keep B1 (by have := HS.out; omega); have w3' := HW3.out.keep B1 HS.out; have b' := HB.out.trans (B1.mono HB.out.size); clear HW0 HW1 HW2 HW3 HB HS; have HS := Lib.hid w3'.lt; have HW0 := Lib.hid w0'; have HW1 := Lib.hid w1'; have HW2 := Lib.hid w2'; have HW3 := Lib.hid w3'; have HB := Lib.hid b'; have r0 := w0'.c0; have r1 := w1'.c0; have r2 := w1'.c1; clear w0' w1' w2' w3' b' B1)) | (first | (go_at_call 154; ((with_reducible refine (CS.out _ _ _ _ N1.out HQ9).mono ?_); rintro e w8 ⟨q1, a5, k5, c5, rfl, hq1, n1, B1⟩; have HZ1 := Lib.hid hq1; have n2 := N2.out.below B1; clear N1 N2 hq1; have N5 := Lib.hid n1; have N2 := Lib.hid n2; clear n1 n2; clear r0 r1 r2; have w0' := HW0.out.keep B1 (by have := HS.out; omega); have w1' := HW1.out.keep B1 (by have := HS.out; omega); have w2' := HW2.out.keep B1 (by have := HS.out; omega); have w3' := HW3.out.keep B1 HS.out; have b' := HB.out.trans (B1.mono HB.out.size); clear HW0 HW1 HW2 HW3 HB HS; have HS := Lib.hid w3'.lt; have HW0 := Lib.hid w0'; have HW1 := Lib.hid w1'; have HW2 := Lib.hid w2'; have HW3 := Lib.hid w3'; have HB := Lib.hid b'; have r0 := w0'.c0; have r1 := w1'.c0; have r2 := w1'.c1; clear w0' w1' w2' w3' b' B1; clear r0 r1 r2)) | (go_at_call 154; ((with_reducible refine (CS.out _ _ _ _ N2.out HR9).mono ?_); rintro e w9 ⟨q2, a6, k6, c6, rfl, hq2, n2, B1⟩; have HZ2 := Lib.hid hq2; have n1 := N5.out.below B1; clear N5 N2 hq2; have N5 := Lib.hid n1; have N6 := Lib.hid n2; clear n1 n2; have w0' := HW0.out.keep B1 (by have := HS.out; omega); have w1' := HW1.out.keep B1 (by have := HS.out; omega); have w2' := HW2.out.keep B1 (by have := HS.out; omega); have w3' := HW3.out.keep B1 HS.out; have b' := HB.out.trans (B1.mono HB.out.size); clear HW0 HW1 HW2 HW3 HB HS; have HS := Lib.hid w3'.lt; have HW0 := Lib.hid w0'; have HW1 := Lib.hid w1'; have HW2 := Lib.hid w2'; have HW3 := Lib.hid w3'; have HB := Lib.hid b'; have r0 := w0'.c0; have r1 := w1'.c0; have r2 := w1'.c1; clear w0' w1' w2' w3' b' B1; clear r0 r1 r2; have h2 := HW2.out; have h3 := HW3.out; have s0 := h2.c0; have t0 := h2.f 0; have A1 := h2.s0 (.bool q1); have s1 := A1.c1; have t1 := A1.f 1; have A2 := A1.s1 (.slice a5 k5 c5); have K0 := (h3.far (g2 := w.heap.size + 1 + 1) (j := 0) (v := .bool q1) (by omega)).far (g2 := w.heap.size + 1 + 1) (j := 1) (v := .slice a5 k5 c5) (by omega); have s2 := K0.c0; have t2 := K0.f 0; have K1 := K0.s0 (.bool q2); have s3 := K1.c1; have t3 := K1.f 1; have HA2 := Lib.hid ((A2.far (g2 := w.heap.size + 1 + 1 + 1) (j := 0) (v := .bool q2) (by omega)).far (g2 := w.heap.size + 1 + 1 + 1) (j := 1) (v := .slice a6 k6 c6) (by omega)); have HK2 := Lib.hid (K1.s1 (.slice a6 k6 c6)); have m1 := (N5.out.two h2 (fun x e => by cases e) (.bool q1) (.slice a5 k5 c5)).two K0 (fun x e => by cases e) (.bool q2) (.slice a6 k6 c6); have m2 := (N6.out.two h2 (fun x e => by cases e) (.bool q1) (.slice a5 k5 c5)).two K0 (fun x e => by cases e) (.bool q2) (.slice a6 k6 c6); have M1 := Lib.hid m1; have M2 := Lib.hid m2; clear A1 A2 K0 K1 h2 h3 m1 m2))))
  have hB9 := below_far (j := 1) (below_far (j := 0) (below_far (j := 1) (below_far (j := 0) HB.out (show w.heap.size ≤ w.heap.size + 1 + 1 by omega) (.bool q1)) (show w.heap.size ≤ w.heap.size + 1 + 1 by omega) (.slice a5 k5 c5)) (show w.heap.size ≤ w.heap.size + 1 + 1 + 1 by omega) (.bool q2)) (show w.heap.size ≤ w.heap.size + 1 + 1 + 1 by omega) (.slice a6 k6 c6)
  refine bodyPost_ret (results_cells2 rfl _ _ (w.heap.size + 1 + 1) (w.heap.size + 1 + 1 + 1) _ _ _ _ rfl rfl HA2.out HK2.out) rfl ?_
  exact ⟨_, _, rfl, ⟨.slice a5 k5 c5, by rw [sign_true HE1.out, HZ1.out], by rw [show (x / y).natAbs = Q from by have := HE1.out; omega]; exact M1.out⟩, ⟨.slice a6 k6 c6, by rw [sign_false HE2.out, HZ2.out], by rw [show (x % y).natAbs = R from by have := HE2.out; omega]; exact M2.out⟩, hB9⟩
 ·
  have hx : x < 0 := by have := HB1.out; simpa using this.symm
  by_cases hk : k4 = 0
  ·
   have hR0 : R = 0 := HK0.out.1 hk
   subst hk
   have HE := e2.out hx hR0
   have hyq : decide (y < 0) = false := HB2.out.symm
   have HE1 := Lib.hid (show x / y = (-(Q : Nat) : Int) by rw [HE.1]; (try rw [decide_eq_true_eq] at hyq); (try rw [decide_eq_false_iff_not] at hyq); simp [hyq])
   have HE2 := Lib.hid HE.2
   clear HE hyq
   subst hR0
   clear hx e1 e2 e3 HK0 hQ1 hYR CP CM
   go_enter Tryz.func113, Tryz.ntmps113
   have hB4 := (((below_alloc w (.cells #[.bool true, .slice a1 k1 c1] 114)).alloc (by simp only [World.size_alloc]; omega) (.cells #[.bool false, .slice a2 k2 c2] 114)).alloc (by simp only [World.size_alloc]; omega) (.cells #[.bool false, .slice none 0 0] 114)).alloc (by simp only [World.size_alloc]; omega) (.cells #[.bool false, .slice none 0 0] 114)
   obtain ⟨hW0, hW1, hW2⟩ := three_blocks w (.bool true) (.slice a1 k1 c1) (.bool false) (.slice a2 k2 c2) (.bool false) (.slice none 0 0)
   have hW3 := NBlk.new (((w.alloc (.cells #[.bool true, .slice a1 k1 c1] 114)).alloc (.cells #[.bool false, .slice a2 k2 c2] 114)).alloc (.cells #[.bool false, .slice none 0 0] 114)) (.bool false) (.slice none 0 0)
   simp only [World.size_alloc] at hW3
   have HS := Lib.hid hW3.lt
   have HB := Lib.hid hB4
   have HW0 := Lib.hid (hW0.alloc (.cells #[.bool false, .slice none 0 0] 114))
   have HW1 := Lib.hid (hW1.alloc (.cells #[.bool false, .slice none 0 0] 114))
   have HW2 := Lib.hid (hW2.alloc (.cells #[.bool false, .slice none 0 0] 114))
   have HW3 := Lib.hid hW3
   clear hB4 hW0 hW1 hW2 hW3
   go_wp2_with (first | (go_at_call 151; go_loud ((with_reducible refine (CO.out _ HB.out).mono ?_); rintro e w1 ⟨a3, k3, c3, a4, c4, rfl, n1, n2, B1⟩; have N1 := Lib.hid n1; have N2 := Lib.hid n2; clear n1 n2; have w0' := HW0.out.keep B1 (by have := HS.out; omega); have w1' := HW1.out.keep B1 (by have := HS.out; omega); have w2' := HW2.out.keep B1 (by have := HS.out; omega); have w3' := HW3.out.keep B1 HS.out; have b' := HB.out.trans (B1.mono HB.out.size); clear HW0 HW1 HW2 HW3 HB HS; have HS := Lib.hid w3'.lt; have HW0 := Lib.hid w0'; have HW1 := Lib.hid w1'; have HW2 := Lib.hid w2'; have HW3 := Lib.hid w3'; have HB := Lib.hid b'; have r0 := w0'.c0; have r1 := w1'.c0; have r2 := w1'.c1; clear w0' w1' w2' w3' b' B1)) | (first | (go_at_call 154; ((with_reducible refine (CS.out _ _ _ _ N1.out HQ9).mono ?_); rintro e w8 ⟨q1, a5, k5, c5, rfl, hq1, n1, B1⟩; have HZ1 := Lib.hid hq1; have n2 := N2.out.below B1; clear N1 N2 hq1; have N5 := Lib.hid n1; have N2 := Lib.hid n2; clear n1 n2; clear r0 r1 r2; have w0' := HW0.out.keep B1 (by have := HS.out; omega); have w1' := HW1.out.keep B1 (by have := HS.out; omega); have w2' := HW2.out.keep B1 (by have := HS.out; omega); have w3' := HW3.out.keep B1 HS.out; have b' := HB.out.trans (B1.mono HB.out.size); clear HW0 HW1 HW2 HW3 HB HS; have HS := Lib.hid w3'.lt; have HW0 := Lib.hid w0'; have HW1 := Lib.hid w1'; have HW2 := Lib.hid w2'; have HW3 := Lib.hid w3'; have HB := Lib.hid b'; have r0 := w0'.c0; have r1 := w1'.c0; have r2 := w1'.c1; clear w0' w1' w2' w3' b' B1; clear r0 r1 r2)) | (go_at_call 154; ((with_reducible refine (CS.out _ _ _ _ N2.out HR9).mono ?_); rintro e w9 ⟨q2, a6, k6, c6, rfl, hq2, n2, B1⟩; have HZ2 := Lib.hid hq2; have n1 := N5.out.below B1; clear N5 N2 hq2; have N5 := Lib.hid n1; have N6 := Lib.hid n2; clear n1 n2; have w0' := HW0.out.keep B1 (by have := HS.out; omega); have w1' := HW1.out.keep B1 (by have := HS.out; omega); have w2' := HW2.out.keep B1 (by have := HS.out; omega); have w3' := HW3.out.keep B1 HS.out; have b' := HB.out.trans (B1.mono HB.out.size); clear HW0 HW1 HW2 HW3 HB HS; have HS := Lib.hid w3'.lt; have HW0 := Lib.hid w0'; have HW1 := Lib.hid w1'; have HW2 := Lib.hid w2'; have HW3 := Lib.hid w3'; have HB := Lib.hid b'; have r0 := w0'.c0; have r1 := w1'.c0; have r2 := w1'.c1; clear w0' w1' w2' w3' b' B1; clear r0 r1 r2; have h2 := HW2.out; have h3 := HW3.out; have s0 := h2.c0; have t0 := h2.f 0; have A1 := h2.s0 (.bool q1); have s1 := A1.c1; have t1 := A1.f 1; have A2 := A1.s1 (.slice a5 k5 c5); have K0 := (h3.far (g2 := w.heap.size + 1 + 1) (j := 0) (v := .bool q1) (by omega)).far (g2 := w.heap.size + 1 + 1) (j := 1) (v := .slice a5 k5 c5) (by omega); have s2 := K0.c0; have t2 := K0.f 0; have K1 := K0.s0 (.bool q2); have s3 := K1.c1; have t3 := K1.f 1; have HA2 := Lib.hid ((A2.far (g2 := w.heap.size + 1 + 1 + 1) (j := 0) (v := .bool q2) (by omega)).far (g2 := w.heap.size + 1 + 1 + 1) (j := 1) (v := .slice a6 k6 c6) (by omega)); have HK2 := Lib.hid (K1.s1 (.slice a6 k6 c6)); have m1 := (N5.out.two h2 (fun x e => by cases e) (.bool q1) (.slice a5 k5 c5)).two K0 (fun x e => by cases e) (.bool q2) (.slice a6 k6 c6); have m2 := (N6.out.two h2 (fun x e => by cases e) (.bool q1) (.slice a5 k5 c5)).two K0 (fun x e => by cases e) (.bool q2) (.slice a6 k6 c6); have M1 := Lib.hid m1; have M2 := Lib.hid m2; clear A1 A2 K0 K1 h2 h3 m1 m2))))
   have hB9 := below_far (j := 1) (below_far (j := 0) (below_far (j := 1) (below_far (j := 0) HB.out (show w.heap.size ≤ w.heap.size + 1 + 1 by omega) (.bool q1)) (show w.heap.size ≤ w.heap.size + 1 + 1 by omega) (.slice a5 k5 c5)) (show w.heap.size ≤ w.heap.size + 1 + 1 + 1 by omega) (.bool q2)) (show w.heap.size ≤ w.heap.size + 1 + 1 + 1 by omega) (.slice a6 k6 c6)
   refine bodyPost_ret (results_cells2 rfl _ _ (w.heap.size + 1 + 1) (w.heap.size + 1 + 1 + 1) _ _ _ _ rfl rfl HA2.out HK2.out) rfl ?_
   exact ⟨_, _, rfl, ⟨.slice a5 k5 c5, by rw [sign_true HE1.out, HZ1.out], by rw [show (x / y).natAbs = Q from by have := HE1.out; omega]; exact M1.out⟩, ⟨.slice a6 k6 c6, by rw [sign_false HE2.out, HZ2.out], by rw [show (x % y).natAbs = 0 from by have := HE2.out; omega]; exact M2.out⟩, hB9⟩
  ·
   have hR0 : 0 < R := by have := HK0.out; omega
   have hk1 : decide (0 < k4) = true := by rw [decide_eq_true_eq]; omega
   have HE := e3.out hx hR0
   have hyq : decide (y < 0) = false := HB2.out.symm
   have HE1 := Lib.hid (show x / y = (-(Q + 1 : Nat) : Int) by rw [HE.1]; (try rw [decide_eq_true_eq] at hyq); (try rw [decide_eq_false_iff_not] at hyq); simp [hyq])
   have HE2 := Lib.hid HE.2
   clear HE hyq
   clear hx e1 e2 e3 HK0 hk hR0 HR9 HQ9
   go_enter Tryz.func113, Tryz.ntmps113
   have hB4 := (((below_alloc w (.cells #[.bool true, .slice a1 k1 c1] 114)).alloc (by simp only [World.size_alloc]; omega) (.cells #[.bool false, .slice a2 k2 c2] 114)).alloc (by simp only [World.size_alloc]; omega) (.cells #[.bool false, .slice none 0 0] 114)).alloc (by simp only [World.size_alloc]; omega) (.cells #[.bool false, .slice none 0 0] 114)
   obtain ⟨hW0, hW1, hW2⟩ := three_blocks w (.bool true) (.slice a1 k1 c1) (.bool false) (.slice a2 k2 c2) (.bool false) (.slice none 0 0)
   have hW3 := NBlk.new (((w.alloc (.cells #[.bool true, .slice a1 k1 c1] 114)).alloc (.cells #[.bool false, .slice a2 k2 c2] 114)).alloc (.cells #[.bool false, .slice none 0 0] 114)) (.bool false) (.slice none 0 0)
   simp only [World.size_alloc] at hW3
   have HS := Lib.hid hW3.lt
   have HB := Lib.hid hB4
   have HW0 := Lib.hid (hW0.alloc (.cells #[.bool false, .slice none 0 0] 114))
   have HW1 := Lib.hid (hW1.alloc (.cells #[.bool false, .slice none 0 0] 114))
   have HW2 := Lib.hid (hW2.alloc (.cells #[.bool false, .slice none 0 0] 114))
   have HW3 := Lib.hid hW3
   clear hB4 hW0 hW1 hW2 hW3
   go_wp2_with (go_at_call 151; go_loud ((with_reducible refine (CO.out _ HB.out).mono ?_); rintro e w1 ⟨a3, k3, c3, a4, c4, rfl, n1, n2, B1⟩; have N1 := Lib.hid n1; have N2 := Lib.hid n2; clear n1 n2; have w0' := HW0.out.keep B1 (by have := HS.out; omega); have w1' := HW1.out.keep B1 (by have := HS.out; omega); have w2' := HW2.out.keep B1 (by have := HS.out; omega); have w3' := HW3.out.keep B1 HS.out; have b' := HB.out.trans (B1.mono HB.out.size); clear HW0 HW1 HW2 HW3 HB HS; have HS := Lib.hid w3'.lt; have HW0 := Lib.hid w0'; have HW1 := Lib.hid w1'; have HW2 := Lib.hid w2'; have HW3 := Lib.hid w3'; have HB := Lib.hid b'; have r0 := w0'.c0; have r1 := w1'.c0; have r2 := w1'.c1; clear w0' w1' w2' w3' b' B1))
   have HC0 := Lib.hid (Below.refl w1.heap.size w1).drew
   refine wp_region_noPanic ?_
   refine wp_region_held_drew (S := fun W => NBlk W (w.heap.size + 1) (.bool false) (.slice a2 k2 c2)) (by kernel_rfl) ?_ (fun hHeld => ?_)
   ·
    exact HW1.out
   refine tk 0 (oi := ({ dst := some 23, op := .move (.tmp 6), type := 112, pos := "number.go:69", after := #[], guard := none } : Oper)) (v := ?v0_1f0) ?hy0_1f0 ?re0_1f0
   case hy0_1f0 => ((intro w hSw; (try dsimp only at hSw); have e1 := hSw.c0; have e2 := hSw.c1; go_simp) <;> with_reducible rfl)
   (try simp only [Act.put, List.setIfInBounds_toArray, List.set_cons_zero, List.set_cons_succ])
   refine tk 3 (oi := ({ dst := some 26, op := .fieldAddr 114 (.tmp 3) 1, type := 0, pos := "number.go:69", after := #[], guard := none } : Oper)) (v := ?v3_2f0) ?hy3_2f0 ?re3_2f0
   case hy3_2f0 => ((intro w hSw; (try dsimp only at hSw); have e1 := hSw.c0; have e2 := hSw.c1; go_simp) <;> with_reducible rfl)
   (try simp only [Act.put, List.setIfInBounds_toArray, List.set_cons_zero, List.set_cons_succ])
   refine tk 4 (oi := ({ dst := some 27, op := .load 112 (.tmp 26), type := 112, pos := "number.go:69", after := #[⟨3, .data⟩], guard := none } : Oper)) (v := ?v4_3f0) ?hy4_3f0 ?re4_3f0
   case hy4_3f0 => ((intro w hSw; (try dsimp only at hSw); have e1 := hSw.c0; have e2 := hSw.c1; go_simp) <;> with_reducible rfl)
   (try simp only [Act.put, List.setIfInBounds_toArray, List.set_cons_zero, List.set_cons_succ])
   refine tk 5 (oi := ({ dst := some 28, op := .move (.tmp 7), type := 112, pos := "number.go:69", after := #[], guard := none } : Oper)) (v := ?v5_4f0) ?hy5_4f0 ?re5_4f0
   case hy5_4f0 => ((intro w hSw; (try dsimp only at hSw); have e1 := hSw.c0; have e2 := hSw.c1; go_simp) <;> with_reducible rfl)
   (try simp only [Act.put, List.setIfInBounds_toArray, List.set_cons_zero, List.set_cons_succ])
   refine wpAnyH_ready (rs := [1]) (by kernel_rfl) (by simp) ?_
   refine AllReadyH.cons (o := ({ dst := some 24, op := .buildSlice 112 1 #[(0, .const (.int .i64 1))], type := 112, pos := "number.go:69", after := #[], guard := none } : Oper)) rfl (fun K hK => ?_) ?_
   ·
    go_simp
    refine hK.out _ _ ?_ (fun hHeld => ?_)
    ·
     exact hHeld.alloc _
    clear hK K
    (try simp only [Act.put, List.setIfInBounds_toArray, List.set_cons_zero, List.set_cons_succ])
    have HC1 := Lib.hid (HC0.out.alloc HC0.out.size (.cells #[.int .i64 1] 3))
    refine wpAnyH_ready (rs := [2]) (by kernel_rfl) (by simp) ?_
    refine AllReadyH.cons (o := ({ dst := some 25, op := .call { callee := .value (.func 152), args := #[.tmp 23, .tmp 24], argTypes := #[112, 112] }, type := 112, pos := "number.go:69", after := #[⟨0, .data⟩, ⟨1, .data⟩], guard := none } : Oper)) rfl (fun K hK => ?_) ?_
    ·
     go_simp
     go_at_call 152
     refine (CP.out _ _ _ _ _ (N1.out.below HC1.out) (lit_one w1.drew)).mono ?_
     rintro e wp ⟨up, rfl, np, Bp⟩
     have HCp := Lib.hid (HC1.out.trans (Bp.mono HC1.out.size))
     have NP := Lib.hid np
     clear np
     (try go_wp2_with fail)
     refine hK.out _ _ ?_ (fun hHeld => ?_)
     ·
      exact hHeld.keep Bp hHeld.lt
     clear hK K
     (try simp only [Act.put, List.setIfInBounds_toArray, List.set_cons_zero, List.set_cons_succ])
     refine wpAnyH_ready (rs := [6]) (by kernel_rfl) (by simp) ?_
     refine AllReadyH.cons (o := ({ dst := some 29, op := .call { callee := .value (.func 153), args := #[.tmp 27, .tmp 28], argTypes := #[112, 112] }, type := 112, pos := "number.go:69", after := #[⟨4, .data⟩, ⟨5, .data⟩, ⟨2, .chain⟩], guard := none } : Oper)) rfl (fun K hK => ?_) ?_
     ·
      go_simp
      go_at_call 153
      refine (CM.out _ (HB.out.trans (HCp.out.mono HB.out.size)) _ _ (N2.out.below HCp.out)).mono ?_
      rintro e wm ⟨um, rfl, nm, Bm⟩
      have HCm := Lib.hid (HCp.out.trans (Bm.mono HCp.out.size))
      have NM := Lib.hid nm
      clear nm
      (try go_wp2_with fail)
      refine hK.out _ _ ?_ (fun hHeld => ?_)
      ·
       exact hHeld.keep Bm hHeld.lt
      clear hK K
      (try simp only [Act.put, List.setIfInBounds_toArray, List.set_cons_zero, List.set_cons_succ])
      refine tk 7 (oi := ({ dst := some 6, op := .assign (.tmp 25), type := 112, pos := "number.go:69", after := #[⟨2, .data⟩, ⟨6, .chain⟩, ⟨0, .phase⟩, ⟨1, .phase⟩, ⟨2, .phase⟩, ⟨3, .textOnly .lateStores⟩, ⟨4, .textOnly .lateStores⟩, ⟨5, .textOnly .lateStores⟩, ⟨6, .textOnly .lateStoresUnsure⟩], guard := none } : Oper)) (v := ?v7_1fa) ?hy7_1fa ?re7_1fa
      case hy7_1fa => ((intro w hSw; (try dsimp only at hSw); have e1 := hSw.c0; have e2 := hSw.c1; go_simp) <;> with_reducible rfl)
      (try simp only [Act.put, List.setIfInBounds_toArray, List.set_cons_zero, List.set_cons_succ])
      refine tk 8 (oi := ({ dst := some 7, op := .assign (.tmp 29), type := 112, pos := "number.go:69", after := #[⟨6, .data⟩, ⟨7, .chain⟩, ⟨0, .phase⟩, ⟨1, .phase⟩, ⟨2, .phase⟩, ⟨3, .phase⟩, ⟨4, .phase⟩, ⟨5, .phase⟩, ⟨6, .phase⟩, ⟨7, .phase⟩], guard := none } : Oper)) (v := ?v8_2fa) ?hy8_2fa ?re8_2fa
      case hy8_2fa => ((intro w hSw; (try dsimp only at hSw); have e1 := hSw.c0; have e2 := hSw.c1; go_simp) <;> with_reducible rfl)
      (try simp only [Act.put, List.setIfInBounds_toArray, List.set_cons_zero, List.set_cons_succ])
      refine wpAnyH_done (by kernel_rfl) ?_ _
      refine NoPanic.normal ?_
      obtain ⟨a3', c3', rfl⟩ := NP.out.form
      obtain ⟨a4', c4', rfl⟩ := NM.out.form
      have B1 := HCm.out
      have n1 := NP.out.below Bm
      have n2 := NM.out
      clear N1 N2 r0 r1 r2 NP NM
      have N1 := Lib.hid n1
      have N2 := Lib.hid n2
      clear n1 n2
      have w0' := HW0.out.keep B1 (by have := HS.out; omega); have w1' := HW1.out.keep B1 (by have := HS.out; omega); have w2' := HW2.out.keep B1 (by have := HS.out; omega); have w3' := HW3.out.keep B1 HS.out; have b' := HB.out.trans (B1.mono HB.out.size); clear HW0 HW1 HW2 HW3 HB HS; have HS := Lib.hid w3'.lt; have HW0 := Lib.hid w0'; have HW1 := Lib.hid w1'; have HW2 := Lib.hid w2'; have HW3 := Lib.hid w3'; have HB := Lib.hid b'; have r0 := w0'.c0; have r1 := w1'.c0; have r2 := w1'.c1; clear w0' w1' w2' w3' b' B1
      go_wp2_with (first | (go_at_call 154; ((with_reducible refine (CS.out _ _ _ _ N1.out hQ1).mono ?_); rintro e w8 ⟨q1, a5, k5, c5, rfl, hq1, n1, B1⟩; have HZ1 := Lib.hid hq1; have n2 := N2.out.below B1; clear N1 N2 hq1; have N5 := Lib.hid n1; have N2 := Lib.hid n2; clear n1 n2; clear r0 r1 r2; have w0' := HW0.out.keep B1 (by have := HS.out; omega); have w1' := HW1.out.keep B1 (by have := HS.out; omega); have w2' := HW2.out.keep B1 (by have := HS.out; omega); have w3' := HW3.out.keep B1 HS.out; have b' := HB.out.trans (B1.mono HB.out.size); clear HW0 HW1 HW2 HW3 HB HS; have HS := Lib.hid w3'.lt; have HW0 := Lib.hid w0'; have HW1 := Lib.hid w1'; have HW2 := Lib.hid w2'; have HW3 := Lib.hid w3'; have HB := Lib.hid b'; have r0 := w0'.c0; have r1 := w1'.c0; have r2 := w1'.c1; clear w0' w1' w2' w3' b' B1; clear r0 r1 r2)) | (go_at_call 154; ((with_reducible refine (CS.out _ _ _ _ N2.out hYR).mono ?_); rintro e w9 ⟨q2, a6, k6, c6, rfl, hq2, n2, B1⟩; have HZ2 := Lib.hid hq2; have n1 := N5.out.below B1; clear N5 N2 hq2; have N5 := Lib.hid n1; have N6 := Lib.hid n2; clear n1 n2; have w0' := HW0.out.keep B1 (by have := HS.out; omega); have w1' := HW1.out.keep B1 (by have := HS.out; omega); have w2' := HW2.out.keep B1 (by have := HS.out; omega); have w3' := HW3.out.keep B1 HS.out; have b' := HB.out.trans (B1.mono HB.out.size); clear HW0 HW1 HW2 HW3 HB HS; have HS := Lib.hid w3'.lt; have HW0 := Lib.hid w0'; have HW1 := Lib.hid w1'; have HW2 := Lib.hid w2'; have HW3 := Lib.hid w3'; have HB := Lib.hid b'; have r0 := w0'.c0; have r1 := w1'.c0; have r2 := w1'.c1; clear w0' w1' w2' w3' b' B1; clear r0 r1 r2; have h2 := HW2.out; have h3 := HW3.out; have s0 := h2.c0; have t0 := h2.f 0; have A1 := h2.s0 (.bool q1); have s1 := A1.c1; have t1 := A1.f 1; have A2 := A1.s1 (.slice a5 k5 c5); have K0 := (h3.far (g2 := w.heap.size + 1 + 1) (j := 0) (v := .bool q1) (by omega)).far (g2 := w.heap.size + 1 + 1) (j := 1) (v := .slice a5 k5 c5) (by omega); have s2 := K0.c0; have t2 := K0.f 0; have K1 := K0.s0 (.bool q2); have s3 := K1.c1; have t3 := K1.f 1; have HA2 := Lib.hid ((A2.far (g2 := w.heap.size + 1 + 1 + 1) (j := 0) (v := .bool q2) (by omega)).far (g2 := w.heap.size + 1 + 1 + 1) (j := 1) (v := .slice a6 k6 c6) (by omega)); have HK2 := Lib.hid (K1.s1 (.slice a6 k6 c6)); have m1 := (N5.out.two h2 (fun x e => by cases e) (.bool q1) (.slice a5 k5 c5)).two K0 (fun x e => by cases e) (.bool q2) (.slice a6 k6 c6); have m2 := (N6.out.two h2 (fun x e => by cases e) (.bool q1) (.slice a5 k5 c5)).two K0 (fun x e => by cases e) (.bool q2) (.slice a6 k6 c6); have M1 := Lib.hid m1; have M2 := Lib.hid m2; clear A1 A2 K0 K1 h2 h3 m1 m2)))
      have hB9 := below_far (j := 1) (below_far (j := 0) (below_far (j := 1) (below_far (j := 0) HB.out (show w.heap.size ≤ w.heap.size + 1 + 1 by omega) (.bool q1)) (show w.heap.size ≤ w.heap.size + 1 + 1 by omega) (.slice a5 k5 c5)) (show w.heap.size ≤ w.heap.size + 1 + 1 + 1 by omega) (.bool q2)) (show w.heap.size ≤ w.heap.size + 1 + 1 + 1 by omega) (.slice a6 k6 c6)
      refine bodyPost_ret (results_cells2 rfl _ _ (w.heap.size + 1 + 1) (w.heap.size + 1 + 1 + 1) _ _ _ _ rfl rfl HA2.out HK2.out) rfl ?_
      exact ⟨_, _, rfl, ⟨.slice a5 k5 c5, by rw [sign_true HE1.out, HZ1.out], by rw [show (x / y).natAbs = Q + 1 from by have := HE1.out; omega]; exact M1.out⟩, ⟨.slice a6 k6 c6, by rw [sign_false HE2.out, HZ2.out], by rw [show (x % y).natAbs = Y - R from by have := HE2.out; omega]; exact M2.out⟩, hB9⟩
     exact AllReadyH.nil
    exact AllReadyH.nil
   exact AllReadyH.nil
 ·
  have hx : x < 0 := by have := HB1.out; simpa using this.symm
  by_cases hk : k4 = 0
  ·
   have hR0 : R = 0 := HK0.out.1 hk
   subst hk
   have HE := e2.out hx hR0
   have hyq : decide (y < 0) = true := HB2.out.symm
   have HE1 := Lib.hid (show x / y = ((Q : Nat) : Int) by rw [HE.1]; (try rw [decide_eq_true_eq] at hyq); (try rw [decide_eq_false_iff_not] at hyq); simp [hyq])
   have HE2 := Lib.hid HE.2
   clear HE hyq
   subst hR0
   clear hx e1 e2 e3 HK0 hQ1 hYR CP CM
   go_enter Tryz.func113, Tryz.ntmps113
   have hB4 := (((below_alloc w (.cells #[.bool true, .slice a1 k1 c1] 114)).alloc (by simp only [World.size_alloc]; omega) (.cells #[.bool true, .slice a2 k2 c2] 114)).alloc (by simp only [World.size_alloc]; omega) (.cells #[.bool false, .slice none 0 0] 114)).alloc (by simp only [World.size_alloc]; omega) (.cells #[.bool false, .slice none 0 0] 114)
   obtain ⟨hW0, hW1, hW2⟩ := three_blocks w (.bool true) (.slice a1 k1 c1) (.bool true) (.slice a2 k2 c2) (.bool false) (.slice none 0 0)
   have hW3 := NBlk.new (((w.alloc (.cells #[.bool true, .slice a1 k1 c1] 114)).alloc (.cells #[.bool true, .slice a2 k2 c2] 114)).alloc (.cells #[.bool false, .slice none 0 0] 114)) (.bool false) (.slice none 0 0)
   simp only [World.size_alloc] at hW3
   have HS := Lib.hid hW3.lt
   have HB := Lib.hid hB4
   have HW0 := Lib.hid (hW0.alloc (.cells #[.bool false, .slice none 0 0] 114))
   have HW1 := Lib.hid (hW1.alloc (.cells #[.bool false, .slice none 0 0] 114))
   have HW2 := Lib.hid (hW2.alloc (.cells #[.bool false, .slice none 0 0] 114))
   have HW3 := Lib.hid hW3
   clear hB4 hW0 hW1 hW2 hW3
   go_wp2_with (first | (go_at_call 151; go_loud ((with_reducible refine (CO.out _ HB.out).mono ?_); rintro e w1 ⟨a3, k3, c3, a4, c4, rfl, n1, n2, B1⟩; have N1 := Lib.hid n1; have N2 := Lib.hid n2; clear n1 n2; have w0' := HW0.out.keep B1 (by have := HS.out; omega); have w1' := HW1.out.keep B1 (by have := HS.out; omega); have w2' := HW2.out.keep B1 (by have := HS.out; omega); have w3' := HW3.out.keep B1 HS.out; have b' := HB.out.trans (B1.mono HB.out.size); clear HW0 HW1 HW2 HW3 HB HS; have HS := Lib.hid w3'.lt; have HW0 := Lib.hid w0'; have HW1 := Lib.hid w1'; have HW2 := Lib.hid w2'; have HW3 := Lib.hid w3'; have HB := Lib.hid b'; have r0 := w0'.c0; have r1 := w1'.c0; have r2 := w1'.c1; clear w0' w1' w2' w3' b' B1)) | (first | (go_at_call 154; ((with_reducible refine (CS.out _ _ _ _ N1.out HQ9).mono ?_); rintro e w8 ⟨q1, a5, k5, c5, rfl, hq1, n1, B1⟩; have HZ1 := Lib.hid hq1; have n2 := N2.out.below B1; clear N1 N2 hq1; have N5 := Lib.hid n1; have N2 := Lib.hid n2; clear n1 n2; clear r0 r1 r2; have w0' := HW0.out.keep B1 (by have := HS.out; omega); have w1' := HW1.out.keep B1 (by have := HS.out; omega); have w2' := HW2.out.keep B1 (by have := HS.out; omega); have w3' := HW3.out.keep B1 HS.out; have b' := HB.out.trans (B1.mono HB.out.size); clear HW0 HW1 HW2 HW3 HB HS; have HS := Lib.hid w3'.lt; have HW0 := Lib.hid w0'; have HW1 := Lib.hid w1'; have HW2 := Lib.hid w2'; have HW3 := Lib.hid w3'; have HB := Lib.hid b'; have r0 := w0'.c0; have r1 := w1'.c0; have r2 := w1'.c1; clear w0' w1' w2' w3' b' B1; clear r0 r1 r2)) | (go_at_call 154; ((with_reducible refine (CS.out _ _ _ _ N2.out HR9).mono ?_); rintro e w9 ⟨q2, a6, k6, c6, rfl, hq2, n2, B1⟩; have HZ2 := Lib.hid hq2; have n1 := N5.out.below B1; clear N5 N2 hq2; have N5 := Lib.hid n1; have N6 := Lib.hid n2; clear n1 n2; have w0' := HW0.out.keep B1 (by have := HS.out; omega); have w1' := HW1.out.keep B1 (by have := HS.out; omega); have w2' := HW2.out.keep B1 (by have := HS.out; omega); have w3' := HW3.out.keep B1 HS.out; have b' := HB.out.trans (B1.mono HB.out.size); clear HW0 HW1 HW2 HW3 HB HS; have HS := Lib.hid w3'.lt; have HW0 := Lib.hid w0'; have HW1 := Lib.hid w1'; have HW2 := Lib.hid w2'; have HW3 := Lib.hid w3'; have HB := Lib.hid b'; have r0 := w0'.c0; have r1 := w1'.c0; have r2 := w1'.c1; clear w0' w1' w2' w3' b' B1; clear r0 r1 r2; have h2 := HW2.out; have h3 := HW3.out; have s0 := h2.c0; have t0 := h2.f 0; have A1 := h2.s0 (.bool q1); have s1 := A1.c1; have t1 := A1.f 1; have A2 := A1.s1 (.slice a5 k5 c5); have K0 := (h3.far (g2 := w.heap.size + 1 + 1) (j := 0) (v := .bool q1) (by omega)).far (g2 := w.heap.size + 1 + 1) (j := 1) (v := .slice a5 k5 c5) (by omega); have s2 := K0.c0; have t2 := K0.f 0; have K1 := K0.s0 (.bool q2); have s3 := K1.c1; have t3 := K1.f 1; have HA2 := Lib.hid ((A2.far (g2 := w.heap.size + 1 + 1 + 1) (j := 0) (v := .bool q2) (by omega)).far (g2 := w.heap.size + 1 + 1 + 1) (j := 1) (v := .slice a6 k6 c6) (by omega)); have HK2 := Lib.hid (K1.s1 (.slice a6 k6 c6)); have m1 := (N5.out.two h2 (fun x e => by cases e) (.bool q1) (.slice a5 k5 c5)).two K0 (fun x e => by cases e) (.bool q2) (.slice a6 k6 c6); have m2 := (N6.out.two h2 (fun x e => by cases e) (.bool q1) (.slice a5 k5 c5)).two K0 (fun x e => by cases e) (.bool q2) (.slice a6 k6 c6); have M1 := Lib.hid m1; have M2 := Lib.hid m2; clear A1 A2 K0 K1 h2 h3 m1 m2))))
   have hB9 := below_far (j := 1) (below_far (j := 0) (below_far (j := 1) (below_far (j := 0) HB.out (show w.heap.size ≤ w.heap.size + 1 + 1 by omega) (.bool q1)) (show w.heap.size ≤ w.heap.size + 1 + 1 by omega) (.slice a5 k5 c5)) (show w.heap.size ≤ w.heap.size + 1 + 1 + 1 by omega) (.bool q2)) (show w.heap.size ≤ w.heap.size + 1 + 1 + 1 by omega) (.slice a6 k6 c6)
   refine bodyPost_ret (results_cells2 rfl _ _ (w.heap.size + 1 + 1) (w.heap.size + 1 + 1 + 1) _ _ _ _ rfl rfl HA2.out HK2.out) rfl ?_
   exact ⟨_, _, rfl, ⟨.slice a5 k5 c5, by rw [sign_false HE1.out, HZ1.out], by rw [show (x / y).natAbs = Q from by have := HE1.out; omega]; exact M1.out⟩, ⟨.slice a6 k6 c6, by rw [sign_false HE2.out, HZ2.out], by rw [show (x % y).natAbs = 0 from by have := HE2.out; omega]; exact M2.out⟩, hB9⟩
  ·
   have hR0 : 0 < R := by have := HK0.out; omega
   have hk1 : decide (0 < k4) = true := by rw [decide_eq_true_eq]; omega
   have HE := e3.out hx hR0
   have hyq : decide (y < 0) = true := HB2.out.symm
   have HE1 := Lib.hid (show x / y = ((Q + 1 : Nat) : Int) by rw [HE.1]; (try rw [decide_eq_true_eq] at hyq); (try rw [decide_eq_false_iff_not] at hyq); simp [hyq])
   have HE2 := Lib.hid HE.2
   clear HE hyq
   clear hx e1 e2 e3 HK0 hk hR0 HR9 HQ9
   go_enter Tryz.func113, Tryz.ntmps113
   have hB4 := (((below_alloc w (.cells #[.bool true, .slice a1 k1 c1] 114)).alloc (by simp only [World.size_alloc]; omega) (.cells #[.bool true, .slice a2 k2 c2] 114)).alloc (by simp only [World.size_alloc]; omega) (.cells #[.bool false, .slice none 0 0] 114)).alloc (by simp only [World.size_alloc]; omega) (.cells #[.bool false, .slice none 0 0] 114)
   obtain ⟨hW0, hW1, hW2⟩ := three_blocks w (.bool true) (.slice a1 k1 c1) (.bool true) (.slice a2 k2 c2) (.bool false) (.slice none 0 0)
   have hW3 := NBlk.new (((w.alloc (.cells #[.bool true, .slice a1 k1 c1] 114)).alloc (.cells #[.bool true, .slice a2 k2 c2] 114)).alloc (.cells #[.bool false, .slice none 0 0] 114)) (.bool false) (.slice none 0 0)
   simp only [World.size_alloc] at hW3
   have HS := Lib.hid hW3.lt
   have HB := Lib.hid hB4
   have HW0 := Lib.hid (hW0.alloc (.cells #[.bool false, .slice none 0 0] 114))
   have HW1 := Lib.hid (hW1.alloc (.cells #[.bool false, .slice none 0 0] 114))
   have HW2 := Lib.hid (hW2.alloc (.cells #[.bool false, .slice none 0 0] 114))
   have HW3 := Lib.hid hW3
   clear hB4 hW0 hW1 hW2 hW3
   go_wp2_with (go_at_call 151; go_loud ((with_reducible refine (CO.out _ HB.out).mono ?_); rintro e w1 ⟨a3, k3, c3, a4, c4, rfl, n1, n2, B1⟩; have N1 := Lib.hid n1; have N2 := Lib.hid n2; clear n1 n2; have w0' := HW0.out.keep B1 (by have := HS.out; omega); have w1' := HW1.out.keep B1 (by have := HS.out; omega); have w2' := HW2.out.keep B1 (by have := HS.out; omega); have w3' := HW3.out.keep B1 HS.out; have b' := HB.out.trans (B1.mono HB.out.size); clear HW0 HW1 HW2 HW3 HB HS; have HS := Lib.hid w3'.lt; have HW0 := Lib.hid w0'; have HW1 := Lib.hid w1'; have HW2 := Lib.hid w2'; have HW3 := Lib.hid w3'; have HB := Lib.hid b'; have r0 := w0'.c0; have r1 := w1'.c0; have r2 := w1'.c1; clear w0' w1' w2' w3' b' B1))
   have HC0 := Lib.hid (Below.refl w1.heap.size w1).drew
   refine wp_region_noPanic ?_
   refine wp_region_held_drew (S := fun W => NBlk W (w.heap.size + 1) (.bool true) (.slice a2 k2 c2)) (by kernel_rfl) ?_ (fun hHeld => ?_)
   ·
    exact HW1.out
   refine tk 0 (oi := ({ dst := some 23, op := .move (.tmp 6), type := 112, pos := "number.go:69", after := #[], guard := none } : Oper)) (v := ?v0_1t0) ?hy0_1t0 ?re0_1t0
   case hy0_1t0 => ((intro w hSw; (try dsimp only at hSw); have e1 := hSw.c0; have e2 := hSw.c1; go_simp) <;> with_reducible rfl)
   (try simp only [Act.put, List.setIfInBounds_toArray, List.set_cons_zero, List.set_cons_succ])
   refine tk 3 (oi := ({ dst := some 26, op := .fieldAddr 114 (.tmp 3) 1, type := 0, pos := "number.go:69", after := #[], guard := none } : Oper)) (v := ?v3_2t0) ?hy3_2t0 ?re3_2t0
   case hy3_2t0 => ((intro w hSw; (try dsimp only at hSw); have e1 := hSw.c0; have e2 := hSw.c1; go_simp) <;> with_reducible rfl)
   (try simp only [Act.put, List.setIfInBounds_toArray, List.set_cons_zero, List.set_cons_succ])
   refine tk 4 (oi := ({ dst := some 27, op := .load 112 (.tmp 26), type := 112, pos := "number.go:69", after := #[⟨3, .data⟩], guard := none } : Oper)) (v := ?v4_3t0) ?hy4_3t0 ?re4_3t0
   case hy4_3t0 => ((intro w hSw; (try dsimp only at hSw); have e1 := hSw.c0; have e2 := hSw.c1; go_simp) <;> with_reducible rfl)
   (try simp only [Act.put, List.setIfInBounds_toArray, List.set_cons_zero, List.set_cons_succ])
   refine tk 5 (oi := ({ dst := some 28, op := .move (.tmp 7), type := 112, pos := "number.go:69", after := #[], guard := none } : Oper)) (v := ?v5_4t0) ?hy5_4t0 ?re5_4t0
   case hy5_4t0 => ((intro w hSw; (try dsimp only at hSw); have e1 := hSw.c0; have e2 := hSw.c1; go_simp) <;> with_reducible rfl)
   (try simp only [Act.put, List.setIfInBounds_toArray, List.set_cons_zero, List.set_cons_succ])
   refine wpAnyH_ready (rs := [1]) (by kernel_rfl) (by simp) ?_
   refine AllReadyH.cons (o := ({ dst := some 24, op := .buildSlice 112 1 #[(0, .const (.int .i64 1))], type := 112, pos := "number.go:69", after := #[], guard := none } : Oper)) rfl (fun K hK => ?_) ?_
   ·
    go_simp
    refine hK.out _ _ ?_ (fun hHeld => ?_)
    ·
     exact hHeld.alloc _
    clear hK K
    (try simp only [Act.put, List.setIfInBounds_toArray, List.set_cons_zero, List.set_cons_succ])
    have HC1 := Lib.hid (HC0.out.alloc HC0.out.size (.cells #[.int .i64 1] 3))
    refine wpAnyH_ready (rs := [2]) (by kernel_rfl) (by simp) ?_
    refine AllReadyH.cons (o := ({ dst := some 25, op := .call { callee := .value (.func 152), args := #[.tmp 23, .tmp 24], argTypes := #[112, 112] }, type := 112, pos := "number.go:69", after := #[⟨0, .data⟩, ⟨1, .data⟩], guard := none } : Oper)) rfl (fun K hK => ?_) ?_
    ·
     go_simp
     go_at_call 152
     refine (CP.out _ _ _ _ _ (N1.out.below HC1.out) (lit_one w1.drew)).mono ?_
     rintro e wp ⟨up, rfl, np, Bp⟩
     have HCp := Lib.hid (HC1.out.trans (Bp.mono HC1.out.size))
     have NP := Lib.hid np
     clear np
     (try go_wp2_with fail)
     refine hK.out _ _ ?_ (fun hHeld => ?_)
     ·
      exact hHeld.keep Bp hHeld.lt
     clear hK K
     (try simp only [Act.put, List.setIfInBounds_toArray, List.set_cons_zero, List.set_cons_succ])
     refine wpAnyH_ready (rs := [6]) (by kernel_rfl) (by simp) ?_
     refine AllReadyH.cons (o := ({ dst := some 29, op := .call { callee := .value (.func 153), args := #[.tmp 27, .tmp 28], argTypes := #[112, 112] }, type := 112, pos := "number.go:69", after := #[⟨4, .data⟩, ⟨5, .data⟩, ⟨2, .chain⟩], guard := none } : Oper)) rfl (fun K hK => ?_) ?_
     ·
      go_simp
      go_at_call 153
      refine (CM.out _ (HB.out.trans (HCp.out.mono HB.out.size)) _ _ (N2.out.below HCp.out)).mono ?_
      rintro e wm ⟨um, rfl, nm, Bm⟩
      have HCm := Lib.hid (HCp.out.trans (Bm.mono HCp.out.size))
      have NM := Lib.hid nm
      clear nm
      (try go_wp2_with fail)
      refine hK.out _ _ ?_ (fun hHeld => ?_)
      ·
       exact hHeld.keep Bm hHeld.lt
      clear hK K
      (try simp only [Act.put, List.setIfInBounds_toArray, List.set_cons_zero, List.set_cons_succ])
      refine tk 7 (oi := ({ dst := some 6, op := .assign (.tmp 25), type := 112, pos := "number.go:69", after := #[⟨2, .data⟩, ⟨6, .chain⟩, ⟨0, .phase⟩, ⟨1, .phase⟩, ⟨2, .phase⟩, ⟨3, .textOnly .lateStores⟩, ⟨4, .textOnly .lateStores⟩, ⟨5, .textOnly .lateStores⟩, ⟨6, .textOnly .lateStoresUnsure⟩], guard := none } : Oper)) (v := ?v7_1ta) ?hy7_1ta ?re7_1ta
      case hy7_1ta => ((intro w hSw; (try dsimp only at hSw); have e1 := hSw.c0; have e2 := hSw.c1; go_simp) <;> with_reducible rfl)
      (try simp only [Act.put, List.setIfInBounds_toArray, List.set_cons_zero, List.set_cons_succ])
      refine tk 8 (oi := ({ dst := some 7, op := .assign (.tmp 29), type := 112, pos := "number.go:69", after := #[⟨6, .data⟩, ⟨7, .chain⟩, ⟨0, .phase⟩, ⟨1, .phase⟩, ⟨2, .phase⟩, ⟨3, .phase⟩, ⟨4, .phase⟩, ⟨5, .phase⟩, ⟨6, .phase⟩, ⟨7, .phase⟩], guard := none } : Oper)) (v := ?v8_2ta) ?hy8_2ta ?re8_2ta
      case hy8_2ta => ((intro w hSw; (try dsimp only at hSw); have e1 := hSw.c0; have e2 := hSw.c1; go_simp) <;> with_reducible rfl)
      (try simp only [Act.put, List.setIfInBounds_toArray, List.set_cons_zero, List.set_cons_succ])
      refine wpAnyH_done (by kernel_rfl) ?_ _
      refine NoPanic.normal ?_
      obtain ⟨a3', c3', rfl⟩ := NP.out.form
      obtain ⟨a4', c4', rfl⟩ := NM.out.form
      have B1 := HCm.out
      have n1 := NP.out.below Bm
      have n2 := NM.out
      clear N1 N2 r0 r1 r2 NP NM
      have N1 := Lib.hid n1
      have N2 := Lib.hid n2
      clear n1 n2
      have w0' := HW0.out.keep B1 (by have := HS.out; omega); have w1' := HW1.out.keep B1 (by have := HS.out; omega); have w2' := HW2.out.keep B1 (by have := HS.out; omega); have w3' := HW3.out.keep B1 HS.out; have b' := HB.out.trans (B1.mono HB.out.size); clear HW0 HW1 HW2 HW3 HB HS; have HS := Lib.hid w3'.lt; have HW0 := Lib.hid w0'; have HW1 := Lib.hid w1'; have HW2 := Lib.hid w2'; have HW3 := Lib.hid w3'; have HB := Lib.hid b'; have r0 := w0'.c0; have r1 := w1'.c0; have r2 := w1'.c1; clear w0' w1' w2' w3' b' B1
      go_wp2_with (first | (go_at_call 154; ((with_reducible refine (CS.out _ _ _ _ N1.out hQ1).mono ?_); rintro e w8 ⟨q1, a5, k5, c5, rfl, hq1, n1, B1⟩; have HZ1 := Lib.hid hq1; have n2 := N2.out.below B1; clear N1 N2 hq1; have N5 := Lib.hid n1; have N2 := Lib.hid n2; clear n1 n2; clear r0 r1 r2; have w0' := HW0.out.keep B1 (by have := HS.out; omega); have w1' := HW1.out.keep B1 (by have := HS.out; omega); have w2' := HW2.out.keep B1 (by have := HS.out; omega); have w3' := HW3.out.keep B1 HS.out; have b' := HB.out.trans (B1.mono HB.out.size); clear HW0 HW1 HW2 HW3 HB HS; have HS := Lib.hid w3'.lt; have HW0 := Lib.hid w0'; have HW1 := Lib.hid w1'; have HW2 := Lib.hid w2'; have HW3 := Lib.hid w3'; have HB := Lib.hid b'; have r0 := w0'.c0; have r1 := w1'.c0; have r2 := w1'.c1; clear w0' w1' w2' w3' b' B1; clear r0 r1 r2)) | (go_at_call 154; ((with_reducible refine (CS.out _ _ _ _ N2.out hYR).mono ?_); rintro e w9 ⟨q2, a6, k6, c6, rfl, hq2, n2, B1⟩; have HZ2 := Lib.hid hq2; have n1 := N5.out.below B1; clear N5 N2 hq2; have N5 := Lib.hid n1; have N6 := Lib.hid n2; clear n1 n2; have w0' := HW0.out.keep B1 (by have := HS.out; omega); have w1' := HW1.out.keep B1 (by have := HS.out; omega); have w2' := HW2.out.keep B1 (by have := HS.out; omega); have w3' := HW3.out.keep B1 HS.out; have b' := HB.out.trans (B1.mono HB.out.size); clear HW0 HW1 HW2 HW3 HB HS; have HS := Lib.hid w3'.lt; have HW0 := Lib.hid w0'; have HW1 := Lib.hid w1'; have HW2 := Lib.hid w2'; have HW3 := Lib.hid w3'; have HB := Lib.hid b'; have r0 := w0'.c0; have r1 := w1'.c0; have r2 := w1'.c1; clear w0' w1' w2' w3' b' B1; clear r0 r1 r2; have h2 := HW2.out; have h3 := HW3.out; have s0 := h2.c0; have t0 := h2.f 0; have A1 := h2.s0 (.bool q1); have s1 := A1.c1; have t1 := A1.f 1; have A2 := A1.s1 (.slice a5 k5 c5); have K0 := (h3.far (g2 := w.heap.size + 1 + 1) (j := 0) (v := .bool q1) (by omega)).far (g2 := w.heap.size + 1 + 1) (j := 1) (v := .slice a5 k5 c5) (by omega); have s2 := K0.c0; have t2 := K0.f 0; have K1 := K0.s0 (.bool q2); have s3 := K1.c1; have t3 := K1.f 1; have HA2 := Lib.hid ((A2.far (g2 := w.heap.size + 1 + 1 + 1) (j := 0) (v := .bool q2) (by omega)).far (g2 := w.heap.size + 1 + 1 + 1) (j := 1) (v := .slice a6 k6 c6) (by omega)); have HK2 := Lib.hid (K1.s1 (.slice a6 k6 c6)); have m1 := (N5.out.two h2 (fun x e => by cases e) (.bool q1) (.slice a5 k5 c5)).two K0 (fun x e => by cases e) (.bool q2) (.slice a6 k6 c6); have m2 := (N6.out.two h2 (fun x e => by cases e) (.bool q1) (.slice a5 k5 c5)).two K0 (fun x e => by cases e) (.bool q2) (.slice a6 k6 c6); have M1 := Lib.hid m1; have M2 := Lib.hid m2; clear A1 A2 K0 K1 h2 h3 m1 m2)))
      have hB9 := below_far (j := 1) (below_far (j := 0) (below_far (j := 1) (below_far (j := 0) HB.out (show w.heap.size ≤ w.heap.size + 1 + 1 by omega) (.bool q1)) (show w.heap.size ≤ w.heap.size + 1 + 1 by omega) (.slice a5 k5 c5)) (show w.heap.size ≤ w.heap.size + 1 + 1 + 1 by omega) (.bool q2)) (show w.heap.size ≤ w.heap.size + 1 + 1 + 1 by omega) (.slice a6 k6 c6)
      refine bodyPost_ret (results_cells2 rfl _ _ (w.heap.size + 1 + 1) (w.heap.size + 1 + 1 + 1) _ _ _ _ rfl rfl HA2.out HK2.out) rfl ?_
      exact ⟨_, _, rfl, ⟨.slice a5 k5 c5, by rw [sign_false HE1.out, HZ1.out], by rw [show (x / y).natAbs = Q + 1 from by have := HE1.out; omega]; exact M1.out⟩, ⟨.slice a6 k6 c6, by rw [sign_false HE2.out, HZ2.out], by rw [show (x % y).natAbs = Y - R from by have := HE2.out; omega]; exact M2.out⟩, hB9⟩
     exact AllReadyH.nil
    exact AllReadyH.nil
   exact AllReadyH.nil
theorem results_cells3 {fn : Func} {p q u : Tmp} (h : fn.results = #[.cell p 114, .cell q 114, .tmp u]) (tmps : Array Value) (w : World) (g1 g2 : Nat) (x1 y1 x2 y2 : Value)
  (hp : tmps.getD p undef = .pointer (some ⟨g1, 0, none⟩)) (hq : tmps.getD q undef = .pointer (some ⟨g2, 0, none⟩)) (hg1 : NBlk w g1 x1 y1) (hg2 : NBlk w g2 x2 y2) :
  (results fn tmps).run Tryz.prog w = .ok (.tuple #[.agg #[x1, y1], .agg #[x2, y2], tmps.getD u undef]) w := by
 have hp' : tmps[p]?.getD undef = .pointer (some ⟨g1, 0, none⟩) := by simpa using hp
 have hq' : tmps[q]?.getD undef = .pointer (some ⟨g2, 0, none⟩) := by simpa using hq
 simp [results, h, hp', hq', asAddr, Sem.run_bind, agg_yields hg1, agg_yields hg2]
theorem two_blocks (w : World) (x y x' y' : Value) : NBlk ((w.alloc (.cells #[x, y] 114)).alloc (.cells #[x', y'] 114)) w.heap.size x y ∧ NBlk ((w.alloc (.cells #[x, y] 114)).alloc (.cells #[x', y'] 114)) (w.heap.size + 1) x' y' := by
 refine ⟨(NBlk.new w x y).alloc _, ?_⟩
 have h := NBlk.new (w.alloc (.cells #[x, y] 114)) x' y'
 rw [World.size_alloc] at h
 exact h
set_option maxRecDepth 100000 in
set_option maxHeartbeats 1000000 in
theorem readBoth_ok (s1 s2 : ByteArray) (L1 L2 : List UInt8) (w : World) (hL1 : s1.data.toList = L1) (hL2 : s2.data.toList = L2) (hv1 : vld L1 = true) (hv2 : vld L2 = true) :
  Calls Tryz.prog 111 #[.string s1, .string s2] w fun e w' => ∃ v1 v2, e = .returned (.tuple #[v1, v2, .bool true]) ∧ Num w' v1 (num L1) ∧ Num w' v2 (num L2) ∧ Below w.heap.size w w' := by
 have hl1 := (vld_digits hv1).2.2
 have hl2 := (vld_digits hv2).2.2
 have cV1 := fun W => Valid_any s1 L1 W hL1 (by omega)
 have cV2 := fun W => Valid_any s2 L2 W hL2 (by omega)
 rw [hv1] at cV1
 rw [hv2] at cV2
 have cR1 := fun W => read_any s1 L1 W hL1 hv1
 have cR2 := fun W => read_any s2 L2 W hL2 hv2
 clear hL1 hL2 hv1 hv2 hl1 hl2
 go_enter Tryz.func111, Tryz.ntmps111
 have hB2 := ((below_alloc w (.cells #[.bool false, .slice none 0 0] 114)).alloc (by simp only [World.size_alloc]; omega) (.cells #[.bool false, .slice none 0 0] 114))
 obtain ⟨hW0, hW1⟩ := two_blocks w (.bool false) (.slice none 0 0) (.bool false) (.slice none 0 0)
 have HS := Lib.hid hW1.lt
 have HB := Lib.hid hB2
 have HW0 := Lib.hid hW0
 have HW1 := Lib.hid hW1
 clear hB2 hW0 hW1
 go_wp2_with (first | (go_at_call_of 149 (Value.string s1); (with_reducible refine (cV1 _).mono ?_); rintro e w1 ⟨rfl, B1⟩; have w0' := HW0.out.keep B1 (by have := HS.out; omega); have w1' := HW1.out.keep B1 HS.out; have b' := HB.out.trans (B1.mono HB.out.size); clear HW0 HW1 HB HS; have HS := Lib.hid w1'.lt; have HW0 := Lib.hid w0'; have HW1 := Lib.hid w1'; have HB := Lib.hid b'; clear w0' w1' b' B1) | (go_at_call_of 149 (Value.string s2); (with_reducible refine (cV2 _).mono ?_); rintro e w2 ⟨rfl, B1⟩; have w0' := HW0.out.keep B1 (by have := HS.out; omega); have w1' := HW1.out.keep B1 HS.out; have b' := HB.out.trans (B1.mono HB.out.size); clear HW0 HW1 HB HS; have HS := Lib.hid w1'.lt; have HW0 := Lib.hid w0'; have HW1 := Lib.hid w1'; have HB := Lib.hid b'; clear w0' w1' b' B1) | (go_at_call_of 150 (Value.string s1); (with_reducible refine (cR1 _).mono ?_); rintro e w3 ⟨v1, rfl, n1, B1⟩; have w0' := HW0.out.keep B1 (by have := HS.out; omega); have w1' := HW1.out.keep B1 HS.out; have b' := HB.out.trans (B1.mono HB.out.size); clear HW0 HW1 HB HS; have HS := Lib.hid w1'.lt; have HW0 := Lib.hid w0'; have HW1 := Lib.hid w1'; have HB := Lib.hid b'; clear w0' w1' b' B1; have N1 := Lib.hid n1; clear n1) | (go_at_call_of 150 (Value.string s2); (with_reducible refine (cR2 _).mono ?_); rintro e w4 ⟨v2, rfl, n2, B1⟩; have n1 := N1.out.below B1; obtain ⟨q1, a1, k1, c1, rfl, hq1, n1⟩ := n1.form; obtain ⟨q2, a2, k2, c2, rfl, hq2, n2⟩ := n2.form; have HZ1 := Lib.hid hq1; have HZ2 := Lib.hid hq2; clear hq1 hq2; have w0' := HW0.out.keep B1 (by have := HS.out; omega); have w1' := HW1.out.keep B1 HS.out; have b' := HB.out.trans (B1.mono HB.out.size); clear HW0 HW1 HB HS; have HS := Lib.hid w1'.lt; have HW0 := Lib.hid w0'; have HW1 := Lib.hid w1'; have HB := Lib.hid b'; clear w0' w1' b' B1; have h2 := HW0.out; have h3 := HW1.out; have z0 := h2.c0; have t0 := h2.f 0; have A1 := h2.s0 (.bool q1); have z1 := A1.c1; have t1 := A1.f 1; have A2 := A1.s1 (.slice a1 k1 c1); have K0 := (h3.far (g2 := w.heap.size) (j := 0) (v := .bool q1) (by omega)).far (g2 := w.heap.size) (j := 1) (v := .slice a1 k1 c1) (by omega); have z2 := K0.c0; have t2 := K0.f 0; have K1 := K0.s0 (.bool q2); have z3 := K1.c1; have t3 := K1.f 1; have HA2 := Lib.hid ((A2.far (g2 := w.heap.size + 1) (j := 0) (v := .bool q2) (by omega)).far (g2 := w.heap.size + 1) (j := 1) (v := .slice a2 k2 c2) (by omega)); have HK2 := Lib.hid (K1.s1 (.slice a2 k2 c2)); have m1 := (n1.two h2 (fun x e => by cases e) (.bool q1) (.slice a1 k1 c1)).two K0 (fun x e => by cases e) (.bool q2) (.slice a2 k2 c2); have m2 := (n2.two h2 (fun x e => by cases e) (.bool q1) (.slice a1 k1 c1)).two K0 (fun x e => by cases e) (.bool q2) (.slice a2 k2 c2); have M1 := Lib.hid m1; have M2 := Lib.hid m2; clear A1 A2 K0 K1 h2 h3 m1 m2 n1 n2 N1))
 have hB9 := below_far (j := 1) (below_far (j := 0) (below_far (j := 1) (below_far (j := 0) HB.out (Nat.le_refl w.heap.size) (.bool q1)) (Nat.le_refl w.heap.size) (.slice a1 k1 c1)) (Nat.le_succ w.heap.size) (.bool q2)) (Nat.le_succ w.heap.size) (.slice a2 k2 c2)
 refine bodyPost_ret (results_cells3 rfl _ _ w.heap.size (w.heap.size + 1) _ _ _ _ rfl rfl HA2.out HK2.out) rfl ?_
 exact ⟨_, _, rfl, ⟨_, by rw [HZ1.out], M1.out⟩, ⟨_, by rw [HZ2.out], M2.out⟩, hB9⟩
set_option maxRecDepth 100000 in
set_option maxHeartbeats 1000000 in
theorem readBoth_no (s1 s2 : ByteArray) (L1 L2 : List UInt8) (w : World) (hL1 : s1.data.toList = L1) (hL2 : s2.data.toList = L2) (hl1 : L1.length ≤ 60000) (hl2 : L2.length ≤ 60000) (hv : (vld L1 && vld L2) = false) :
  Calls Tryz.prog 111 #[.string s1, .string s2] w fun e w' => e = .returned (.tuple #[.agg #[.bool false, .slice none 0 0], .agg #[.bool false, .slice none 0 0], .bool false]) ∧ Below w.heap.size w w' := by
 have cV1 := fun W => Valid_any s1 L1 W hL1 (by omega)
 have cV2 := fun W => Valid_any s2 L2 W hL2 (by omega)
 generalize vld L1 = b1 at *
 generalize vld L2 = b2 at *
 clear hL1 hL2 hl1 hl2
 have hB2 := ((below_alloc w (.cells #[.bool false, .slice none 0 0] 114)).alloc (by simp only [World.size_alloc]; omega) (.cells #[.bool false, .slice none 0 0] 114))
 obtain ⟨hW0, hW1⟩ := two_blocks w (.bool false) (.slice none 0 0) (.bool false) (.slice none 0 0)
 have HS := Lib.hid hW1.lt
 have HB := Lib.hid hB2
 have HW0 := Lib.hid hW0
 have HW1 := Lib.hid hW1
 clear hB2 hW0 hW1
 cases b1 <;> (try cases b2) <;> (try cases hv)
 all_goals
  go_enter Tryz.func111, Tryz.ntmps111
  go_wp2_with (first | (go_at_call_of 149 (Value.string s1); (with_reducible refine (cV1 _).mono ?_); rintro e w1 ⟨rfl, B1⟩; have w0' := HW0.out.keep B1 (by have := HS.out; omega); have w1' := HW1.out.keep B1 HS.out; have b' := HB.out.trans (B1.mono HB.out.size); clear HW0 HW1 HB HS; have HS := Lib.hid w1'.lt; have HW0 := Lib.hid w0'; have HW1 := Lib.hid w1'; have HB := Lib.hid b'; clear w0' w1' b' B1; have h2 := HW0.out; have h3 := HW1.out; have z0 := h2.c0; have t0 := h2.f 0; have A1 := h2.s0 (.bool false); have z1 := A1.c1; have t1 := A1.f 1; have A2 := A1.s1 (.slice none 0 0); have K0 := (h3.far (g2 := w.heap.size) (j := 0) (v := .bool false) (by omega)).far (g2 := w.heap.size) (j := 1) (v := .slice none 0 0) (by omega); have z2 := K0.c0; have t2 := K0.f 0; have K1 := K0.s0 (.bool false); have z3 := K1.c1; have t3 := K1.f 1; have HA2 := Lib.hid ((A2.far (g2 := w.heap.size + 1) (j := 0) (v := .bool false) (by omega)).far (g2 := w.heap.size + 1) (j := 1) (v := .slice none 0 0) (by omega)); have HK2 := Lib.hid (K1.s1 (.slice none 0 0)); clear A1 A2 K0 K1 h2 h3) | (go_at_call_of 149 (Value.string s2); (with_reducible refine (cV2 _).mono ?_); rintro e w2 ⟨rfl, B1⟩; have w0' := HW0.out.keep B1 (by have := HS.out; omega); have w1' := HW1.out.keep B1 HS.out; have b' := HB.out.trans (B1.mono HB.out.size); clear HW0 HW1 HB HS; have HS := Lib.hid w1'.lt; have HW0 := Lib.hid w0'; have HW1 := Lib.hid w1'; have HB := Lib.hid b'; clear w0' w1' b' B1; clear z0 t0 z1 t1 z2 t2 z3 t3 HA2 HK2; have h2 := HW0.out; have h3 := HW1.out; have z0 := h2.c0; have t0 := h2.f 0; have A1 := h2.s0 (.bool false); have z1 := A1.c1; have t1 := A1.f 1; have A2 := A1.s1 (.slice none 0 0); have K0 := (h3.far (g2 := w.heap.size) (j := 0) (v := .bool false) (by omega)).far (g2 := w.heap.size) (j := 1) (v := .slice none 0 0) (by omega); have z2 := K0.c0; have t2 := K0.f 0; have K1 := K0.s0 (.bool false); have z3 := K1.c1; have t3 := K1.f 1; have HA2 := Lib.hid ((A2.far (g2 := w.heap.size + 1) (j := 0) (v := .bool false) (by omega)).far (g2 := w.heap.size + 1) (j := 1) (v := .slice none 0 0) (by omega)); have HK2 := Lib.hid (K1.s1 (.slice none 0 0)); clear A1 A2 K0 K1 h2 h3))
  have hB9 := below_far (j := 1) (below_far (j := 0) (below_far (j := 1) (below_far (j := 0) HB.out (Nat.le_refl w.heap.size) (.bool false)) (Nat.le_refl w.heap.size) (.slice none 0 0)) (Nat.le_succ w.heap.size) (.bool false)) (Nat.le_succ w.heap.size) (.slice none 0 0)
  refine bodyPost_ret (results_cells3 rfl _ _ w.heap.size (w.heap.size + 1) _ _ _ _ rfl rfl HA2.out HK2.out) rfl ?_
  exact ⟨rfl, hB9⟩
def rs (z : Int) : List UInt8 := if z.natAbs < 10 ^ 200 then txt z else []
def er (z : Int) : Int := if z.natAbs < 10 ^ 200 then 0 else 30
theorem txt_len (z : Int) (h : (grp z.natAbs).length ≤ 5000) : (txt z).length ≤ 60000 := by
 have h1 : (txN z.natAbs).length ≤ 4 * (grp z.natAbs).length + 1 := txN_len (Nat.lt_of_lt_of_le (grp_lt _) (by
  rw [show (10000 : Nat) = 10 ^ 4 from rfl, ← Nat.pow_mul]
  exact Nat.pow_le_pow_right (by decide) (by omega))) (by omega)
 rw [txt]; split
 ·
  rw [List.length_cons]; omega
 ·
  omega
theorem vld_grp {L : List UInt8} (h : vld L = true) : (grp (num L).natAbs).length ≤ 50 := by
 refine grp_len ?_
 rw [show (10000 : Nat) = 10 ^ 4 from rfl, ← Nat.pow_mul]
 exact (vld_txt h).2
theorem grp_of {n k : Nat} (h : n < 10 ^ (4 * k)) : (grp n).length ≤ k := by
 refine grp_len ?_
 rw [show (10000 : Nat) = 10 ^ 4 from rfl, ← Nat.pow_mul]
 exact h
set_option maxRecDepth 100000 in
set_option maxHeartbeats 1000000 in
theorem combine_no (F : Value) (s1 s2 : ByteArray) (L1 L2 : List UInt8) (w : World) (hL1 : s1.data.toList = L1) (hL2 : s2.data.toList = L2) (hl1 : L1.length ≤ 60000) (hl2 : L2.length ≤ 60000) (hv : (vld L1 && vld L2) = false) :
  Calls Tryz.prog 126 #[.string s1, .string s2, F] w fun e w' => e = .returned (.tuple #[.string ⟨#[]⟩, .int .i64 30]) ∧ Below w.heap.size w w' := by
 have cR := fun W => readBoth_no s1 s2 L1 L2 W hL1 hL2 hl1 hl2 hv
 clear hL1 hL2 hl1 hl2 hv
 go_enter Tryz.func126, Tryz.ntmps126
 go_wp2_with (go_at_call 111; (with_reducible refine (cR _).mono ?_); rintro e w1 ⟨rfl, B1⟩)
 go_ret2
 exact ⟨rfl, (B1.alloc B1.size _).alloc (by have := B1.size; rw [World.size_alloc]; omega) _⟩
set_option maxRecDepth 100000 in
set_option maxHeartbeats 1000000 in
theorem combine_nplus (s1 s2 : ByteArray) (L1 L2 : List UInt8) (w : World) (hL1 : s1.data.toList = L1) (hL2 : s2.data.toList = L2) (hv1 : vld L1 = true) (hv2 : vld L2 = true) (hz : (grp (num L1 + num L2).natAbs).length ≤ 5000) :
  Calls Tryz.prog 126 #[.string s1, .string s2, .func (.func 132) #[] #[]] w fun e w' => e = .returned (.tuple #[.string ⟨(rs (num L1 + num L2)).toArray⟩, .int .i64 (er (num L1 + num L2))]) ∧ Below w.heap.size w w' := by
 have g1 := vld_grp hv1
 have g2 := vld_grp hv2
 have cR := fun W => readBoth_ok s1 s2 L1 L2 W hL1 hL2 hv1 hv2
 have cO := fun W v1 v2 h1 h2 => nplus_any (num L1) (num L2) v1 v2 W (by omega) (by omega) h1 h2
 have CO := Lib.hid cO
 clear cO hL1 hL2 hv1 hv2 g1 g2
 generalize num L1 + num L2 = z at *
 have cT := fun W v h => ntext_any z v W hz h
 have cV := fun W => Valid_any ⟨(txt z).toArray⟩ (txt z) W (by simp) (txt_len z hz)
 have CT := Lib.hid cT
 clear cT
 by_cases hf : z.natAbs < 10 ^ 200
 ·
  rw [txt_vld hf] at cV
  rw [rs, er, if_pos hf, if_pos hf]
  generalize (txt z).toArray = T at *
  clear hf hz
  go_enter Tryz.func126, Tryz.ntmps126
  go_wp2_with (first | (go_at_call 111; (with_reducible refine (cR _).mono ?_); rintro e w1 ⟨v1, v2, rfl, n1, n2, B1⟩; obtain ⟨q1, a1, k1, c1, rfl, hq1, m1⟩ := n1.form; obtain ⟨q2, a2, k2, c2, rfl, hq2, m2⟩ := n2.form; have b4 := ((Below.refl w1.heap.size w1).alloc (Nat.le_refl _) (.cells #[.bool q1, .slice a1 k1 c1] 114)).alloc (by rw [World.size_alloc]; omega) (.cells #[.bool q2, .slice a2 k2 c2] 114); have N1 := Lib.hid (n1.below b4); have N2 := Lib.hid (n2.below b4); have HB := Lib.hid (B1.trans (b4.mono B1.size)); clear hq1 hq2 m1 m2 n1 n2 b4 B1) | (go_at_call 132; go_loud ((with_reducible refine (CO.out _ _ _ N1.out N2.out).mono ?_); rintro e w5 ⟨v, rfl, n3, B1⟩; have N3 := Lib.hid n3; have HB5 := Lib.hid (HB.out.trans (B1.mono HB.out.size)); clear n3 B1 HB N1 N2)) | (go_at_call 114; (with_reducible refine (CT.out _ _ N3.out).mono ?_); rintro e w6 ⟨rfl, B1⟩; have HB6 := Lib.hid (HB5.out.trans (B1.mono HB5.out.size)); clear B1 HB5 N3) | (go_at_call 149; (with_reducible refine (cV _).mono ?_); rintro e w7 ⟨rfl, B1⟩; have HB := Lib.hid (HB6.out.trans (B1.mono HB6.out.size)); clear B1 HB6))
  go_ret2
  exact ⟨rfl, HB.out⟩
 ·
  rw [txt_not hf] at cV
  rw [rs, er, if_neg hf, if_neg hf]
  generalize (txt z).toArray = T at *
  clear hf hz
  go_enter Tryz.func126, Tryz.ntmps126
  go_wp2_with (first | (go_at_call 111; (with_reducible refine (cR _).mono ?_); rintro e w1 ⟨v1, v2, rfl, n1, n2, B1⟩; obtain ⟨q1, a1, k1, c1, rfl, hq1, m1⟩ := n1.form; obtain ⟨q2, a2, k2, c2, rfl, hq2, m2⟩ := n2.form; have b4 := ((Below.refl w1.heap.size w1).alloc (Nat.le_refl _) (.cells #[.bool q1, .slice a1 k1 c1] 114)).alloc (by rw [World.size_alloc]; omega) (.cells #[.bool q2, .slice a2 k2 c2] 114); have N1 := Lib.hid (n1.below b4); have N2 := Lib.hid (n2.below b4); have HB := Lib.hid (B1.trans (b4.mono B1.size)); clear hq1 hq2 m1 m2 n1 n2 b4 B1) | (go_at_call 132; go_loud ((with_reducible refine (CO.out _ _ _ N1.out N2.out).mono ?_); rintro e w5 ⟨v, rfl, n3, B1⟩; have N3 := Lib.hid n3; have HB5 := Lib.hid (HB.out.trans (B1.mono HB.out.size)); clear n3 B1 HB N1 N2)) | (go_at_call 114; (with_reducible refine (CT.out _ _ N3.out).mono ?_); rintro e w6 ⟨rfl, B1⟩; have HB6 := Lib.hid (HB5.out.trans (B1.mono HB5.out.size)); clear B1 HB5 N3) | (go_at_call 149; (with_reducible refine (cV _).mono ?_); rintro e w7 ⟨rfl, B1⟩; have HB := Lib.hid (HB6.out.trans (B1.mono HB6.out.size)); clear B1 HB6))
  go_ret2
  exact ⟨rfl, HB.out⟩
set_option maxRecDepth 100000 in
set_option maxHeartbeats 1000000 in
theorem combine_nminus (s1 s2 : ByteArray) (L1 L2 : List UInt8) (w : World) (hL1 : s1.data.toList = L1) (hL2 : s2.data.toList = L2) (hv1 : vld L1 = true) (hv2 : vld L2 = true) (hz : (grp (num L1 - num L2).natAbs).length ≤ 5000) :
  Calls Tryz.prog 126 #[.string s1, .string s2, .func (.func 133) #[] #[]] w fun e w' => e = .returned (.tuple #[.string ⟨(rs (num L1 - num L2)).toArray⟩, .int .i64 (er (num L1 - num L2))]) ∧ Below w.heap.size w w' := by
 have g1 := vld_grp hv1
 have g2 := vld_grp hv2
 have cR := fun W => readBoth_ok s1 s2 L1 L2 W hL1 hL2 hv1 hv2
 have cO := fun W v1 v2 h1 h2 => nminus_any (num L1) (num L2) v1 v2 W (by omega) (by omega) h1 h2
 have CO := Lib.hid cO
 clear cO hL1 hL2 hv1 hv2 g1 g2
 generalize num L1 - num L2 = z at *
 have cT := fun W v h => ntext_any z v W hz h
 have cV := fun W => Valid_any ⟨(txt z).toArray⟩ (txt z) W (by simp) (txt_len z hz)
 have CT := Lib.hid cT
 clear cT
 by_cases hf : z.natAbs < 10 ^ 200
 ·
  rw [txt_vld hf] at cV
  rw [rs, er, if_pos hf, if_pos hf]
  generalize (txt z).toArray = T at *
  clear hf hz
  go_enter Tryz.func126, Tryz.ntmps126
  go_wp2_with (first | (go_at_call 111; (with_reducible refine (cR _).mono ?_); rintro e w1 ⟨v1, v2, rfl, n1, n2, B1⟩; obtain ⟨q1, a1, k1, c1, rfl, hq1, m1⟩ := n1.form; obtain ⟨q2, a2, k2, c2, rfl, hq2, m2⟩ := n2.form; have b4 := ((Below.refl w1.heap.size w1).alloc (Nat.le_refl _) (.cells #[.bool q1, .slice a1 k1 c1] 114)).alloc (by rw [World.size_alloc]; omega) (.cells #[.bool q2, .slice a2 k2 c2] 114); have N1 := Lib.hid (n1.below b4); have N2 := Lib.hid (n2.below b4); have HB := Lib.hid (B1.trans (b4.mono B1.size)); clear hq1 hq2 m1 m2 n1 n2 b4 B1) | (go_at_call 133; go_loud ((with_reducible refine (CO.out _ _ _ N1.out N2.out).mono ?_); rintro e w5 ⟨v, rfl, n3, B1⟩; have N3 := Lib.hid n3; have HB5 := Lib.hid (HB.out.trans (B1.mono HB.out.size)); clear n3 B1 HB N1 N2)) | (go_at_call 114; (with_reducible refine (CT.out _ _ N3.out).mono ?_); rintro e w6 ⟨rfl, B1⟩; have HB6 := Lib.hid (HB5.out.trans (B1.mono HB5.out.size)); clear B1 HB5 N3) | (go_at_call 149; (with_reducible refine (cV _).mono ?_); rintro e w7 ⟨rfl, B1⟩; have HB := Lib.hid (HB6.out.trans (B1.mono HB6.out.size)); clear B1 HB6))
  go_ret2
  exact ⟨rfl, HB.out⟩
 ·
  rw [txt_not hf] at cV
  rw [rs, er, if_neg hf, if_neg hf]
  generalize (txt z).toArray = T at *
  clear hf hz
  go_enter Tryz.func126, Tryz.ntmps126
  go_wp2_with (first | (go_at_call 111; (with_reducible refine (cR _).mono ?_); rintro e w1 ⟨v1, v2, rfl, n1, n2, B1⟩; obtain ⟨q1, a1, k1, c1, rfl, hq1, m1⟩ := n1.form; obtain ⟨q2, a2, k2, c2, rfl, hq2, m2⟩ := n2.form; have b4 := ((Below.refl w1.heap.size w1).alloc (Nat.le_refl _) (.cells #[.bool q1, .slice a1 k1 c1] 114)).alloc (by rw [World.size_alloc]; omega) (.cells #[.bool q2, .slice a2 k2 c2] 114); have N1 := Lib.hid (n1.below b4); have N2 := Lib.hid (n2.below b4); have HB := Lib.hid (B1.trans (b4.mono B1.size)); clear hq1 hq2 m1 m2 n1 n2 b4 B1) | (go_at_call 133; go_loud ((with_reducible refine (CO.out _ _ _ N1.out N2.out).mono ?_); rintro e w5 ⟨v, rfl, n3, B1⟩; have N3 := Lib.hid n3; have HB5 := Lib.hid (HB.out.trans (B1.mono HB.out.size)); clear n3 B1 HB N1 N2)) | (go_at_call 114; (with_reducible refine (CT.out _ _ N3.out).mono ?_); rintro e w6 ⟨rfl, B1⟩; have HB6 := Lib.hid (HB5.out.trans (B1.mono HB5.out.size)); clear B1 HB5 N3) | (go_at_call 149; (with_reducible refine (cV _).mono ?_); rintro e w7 ⟨rfl, B1⟩; have HB := Lib.hid (HB6.out.trans (B1.mono HB6.out.size)); clear B1 HB6))
  go_ret2
  exact ⟨rfl, HB.out⟩
set_option maxRecDepth 100000 in
set_option maxHeartbeats 1000000 in
theorem combine_ntimes (s1 s2 : ByteArray) (L1 L2 : List UInt8) (w : World) (hL1 : s1.data.toList = L1) (hL2 : s2.data.toList = L2) (hv1 : vld L1 = true) (hv2 : vld L2 = true) (hz : (grp (num L1 * num L2).natAbs).length ≤ 5000) :
  Calls Tryz.prog 126 #[.string s1, .string s2, .func (.func 163) #[] #[]] w fun e w' => e = .returned (.tuple #[.string ⟨(rs (num L1 * num L2)).toArray⟩, .int .i64 (er (num L1 * num L2))]) ∧ Below w.heap.size w w' := by
 have g1 := vld_grp hv1
 have g2 := vld_grp hv2
 have cR := fun W => readBoth_ok s1 s2 L1 L2 W hL1 hL2 hv1 hv2
 have cO := fun W v1 v2 h1 h2 => ntimes_any (num L1) (num L2) v1 v2 W (by omega) (by omega) h1 h2
 have CO := Lib.hid cO
 clear cO hL1 hL2 hv1 hv2 g1 g2
 generalize num L1 * num L2 = z at *
 have cT := fun W v h => ntext_any z v W hz h
 have cV := fun W => Valid_any ⟨(txt z).toArray⟩ (txt z) W (by simp) (txt_len z hz)
 have CT := Lib.hid cT
 clear cT
 by_cases hf : z.natAbs < 10 ^ 200
 ·
  rw [txt_vld hf] at cV
  rw [rs, er, if_pos hf, if_pos hf]
  generalize (txt z).toArray = T at *
  clear hf hz
  go_enter Tryz.func126, Tryz.ntmps126
  go_wp2_with (first | (go_at_call 111; (with_reducible refine (cR _).mono ?_); rintro e w1 ⟨v1, v2, rfl, n1, n2, B1⟩; obtain ⟨q1, a1, k1, c1, rfl, hq1, m1⟩ := n1.form; obtain ⟨q2, a2, k2, c2, rfl, hq2, m2⟩ := n2.form; have b4 := ((Below.refl w1.heap.size w1).alloc (Nat.le_refl _) (.cells #[.bool q1, .slice a1 k1 c1] 114)).alloc (by rw [World.size_alloc]; omega) (.cells #[.bool q2, .slice a2 k2 c2] 114); have N1 := Lib.hid (n1.below b4); have N2 := Lib.hid (n2.below b4); have HB := Lib.hid (B1.trans (b4.mono B1.size)); clear hq1 hq2 m1 m2 n1 n2 b4 B1) | (go_at_call 163; go_loud ((with_reducible refine (CO.out _ _ _ N1.out N2.out).mono ?_); rintro e w5 ⟨v, rfl, n3, B1⟩; have N3 := Lib.hid n3; have HB5 := Lib.hid (HB.out.trans (B1.mono HB.out.size)); clear n3 B1 HB N1 N2)) | (go_at_call 114; (with_reducible refine (CT.out _ _ N3.out).mono ?_); rintro e w6 ⟨rfl, B1⟩; have HB6 := Lib.hid (HB5.out.trans (B1.mono HB5.out.size)); clear B1 HB5 N3) | (go_at_call 149; (with_reducible refine (cV _).mono ?_); rintro e w7 ⟨rfl, B1⟩; have HB := Lib.hid (HB6.out.trans (B1.mono HB6.out.size)); clear B1 HB6))
  go_ret2
  exact ⟨rfl, HB.out⟩
 ·
  rw [txt_not hf] at cV
  rw [rs, er, if_neg hf, if_neg hf]
  generalize (txt z).toArray = T at *
  clear hf hz
  go_enter Tryz.func126, Tryz.ntmps126
  go_wp2_with (first | (go_at_call 111; (with_reducible refine (cR _).mono ?_); rintro e w1 ⟨v1, v2, rfl, n1, n2, B1⟩; obtain ⟨q1, a1, k1, c1, rfl, hq1, m1⟩ := n1.form; obtain ⟨q2, a2, k2, c2, rfl, hq2, m2⟩ := n2.form; have b4 := ((Below.refl w1.heap.size w1).alloc (Nat.le_refl _) (.cells #[.bool q1, .slice a1 k1 c1] 114)).alloc (by rw [World.size_alloc]; omega) (.cells #[.bool q2, .slice a2 k2 c2] 114); have N1 := Lib.hid (n1.below b4); have N2 := Lib.hid (n2.below b4); have HB := Lib.hid (B1.trans (b4.mono B1.size)); clear hq1 hq2 m1 m2 n1 n2 b4 B1) | (go_at_call 163; go_loud ((with_reducible refine (CO.out _ _ _ N1.out N2.out).mono ?_); rintro e w5 ⟨v, rfl, n3, B1⟩; have N3 := Lib.hid n3; have HB5 := Lib.hid (HB.out.trans (B1.mono HB.out.size)); clear n3 B1 HB N1 N2)) | (go_at_call 114; (with_reducible refine (CT.out _ _ N3.out).mono ?_); rintro e w6 ⟨rfl, B1⟩; have HB6 := Lib.hid (HB5.out.trans (B1.mono HB5.out.size)); clear B1 HB5 N3) | (go_at_call 149; (with_reducible refine (cV _).mono ?_); rintro e w7 ⟨rfl, B1⟩; have HB := Lib.hid (HB6.out.trans (B1.mono HB6.out.size)); clear B1 HB6))
  go_ret2
  exact ⟨rfl, HB.out⟩
set_option maxRecDepth 100000 in
set_option maxHeartbeats 1000000 in
theorem combine_ngcd (s1 s2 : ByteArray) (L1 L2 : List UInt8) (w : World) (hL1 : s1.data.toList = L1) (hL2 : s2.data.toList = L2) (hv1 : vld L1 = true) (hv2 : vld L2 = true) (hz : (grp (((Nat.gcd (num L1).natAbs (num L2).natAbs : Nat) : Int)).natAbs).length ≤ 5000) :
  Calls Tryz.prog 126 #[.string s1, .string s2, .func (.func 127) #[] #[]] w fun e w' => e = .returned (.tuple #[.string ⟨(rs (((Nat.gcd (num L1).natAbs (num L2).natAbs : Nat) : Int))).toArray⟩, .int .i64 (er (((Nat.gcd (num L1).natAbs (num L2).natAbs : Nat) : Int)))]) ∧ Below w.heap.size w w' := by
 have g1 := vld_grp hv1
 have g2 := vld_grp hv2
 have cR := fun W => readBoth_ok s1 s2 L1 L2 W hL1 hL2 hv1 hv2
 have cO := fun W v1 v2 h1 h2 => ngcd_any (num L1) (num L2) v1 v2 W (by omega) (by omega) h1 h2
 have CO := Lib.hid cO
 clear cO hL1 hL2 hv1 hv2 g1 g2
 generalize ((Nat.gcd (num L1).natAbs (num L2).natAbs : Nat) : Int) = z at *
 have cT := fun W v h => ntext_any z v W hz h
 have cV := fun W => Valid_any ⟨(txt z).toArray⟩ (txt z) W (by simp) (txt_len z hz)
 have CT := Lib.hid cT
 clear cT
 by_cases hf : z.natAbs < 10 ^ 200
 ·
  rw [txt_vld hf] at cV
  rw [rs, er, if_pos hf, if_pos hf]
  generalize (txt z).toArray = T at *
  clear hf hz
  go_enter Tryz.func126, Tryz.ntmps126
  go_wp2_with (first | (go_at_call 111; (with_reducible refine (cR _).mono ?_); rintro e w1 ⟨v1, v2, rfl, n1, n2, B1⟩; obtain ⟨q1, a1, k1, c1, rfl, hq1, m1⟩ := n1.form; obtain ⟨q2, a2, k2, c2, rfl, hq2, m2⟩ := n2.form; have b4 := ((Below.refl w1.heap.size w1).alloc (Nat.le_refl _) (.cells #[.bool q1, .slice a1 k1 c1] 114)).alloc (by rw [World.size_alloc]; omega) (.cells #[.bool q2, .slice a2 k2 c2] 114); have N1 := Lib.hid (n1.below b4); have N2 := Lib.hid (n2.below b4); have HB := Lib.hid (B1.trans (b4.mono B1.size)); clear hq1 hq2 m1 m2 n1 n2 b4 B1) | (go_at_call 127; go_loud ((with_reducible refine (CO.out _ _ _ N1.out N2.out).mono ?_); rintro e w5 ⟨v, rfl, n3, B1⟩; have N3 := Lib.hid n3; have HB5 := Lib.hid (HB.out.trans (B1.mono HB.out.size)); clear n3 B1 HB N1 N2)) | (go_at_call 114; (with_reducible refine (CT.out _ _ N3.out).mono ?_); rintro e w6 ⟨rfl, B1⟩; have HB6 := Lib.hid (HB5.out.trans (B1.mono HB5.out.size)); clear B1 HB5 N3) | (go_at_call 149; (with_reducible refine (cV _).mono ?_); rintro e w7 ⟨rfl, B1⟩; have HB := Lib.hid (HB6.out.trans (B1.mono HB6.out.size)); clear B1 HB6))
  go_ret2
  exact ⟨rfl, HB.out⟩
 ·
  rw [txt_not hf] at cV
  rw [rs, er, if_neg hf, if_neg hf]
  generalize (txt z).toArray = T at *
  clear hf hz
  go_enter Tryz.func126, Tryz.ntmps126
  go_wp2_with (first | (go_at_call 111; (with_reducible refine (cR _).mono ?_); rintro e w1 ⟨v1, v2, rfl, n1, n2, B1⟩; obtain ⟨q1, a1, k1, c1, rfl, hq1, m1⟩ := n1.form; obtain ⟨q2, a2, k2, c2, rfl, hq2, m2⟩ := n2.form; have b4 := ((Below.refl w1.heap.size w1).alloc (Nat.le_refl _) (.cells #[.bool q1, .slice a1 k1 c1] 114)).alloc (by rw [World.size_alloc]; omega) (.cells #[.bool q2, .slice a2 k2 c2] 114); have N1 := Lib.hid (n1.below b4); have N2 := Lib.hid (n2.below b4); have HB := Lib.hid (B1.trans (b4.mono B1.size)); clear hq1 hq2 m1 m2 n1 n2 b4 B1) | (go_at_call 127; go_loud ((with_reducible refine (CO.out _ _ _ N1.out N2.out).mono ?_); rintro e w5 ⟨v, rfl, n3, B1⟩; have N3 := Lib.hid n3; have HB5 := Lib.hid (HB.out.trans (B1.mono HB.out.size)); clear n3 B1 HB N1 N2)) | (go_at_call 114; (with_reducible refine (CT.out _ _ N3.out).mono ?_); rintro e w6 ⟨rfl, B1⟩; have HB6 := Lib.hid (HB5.out.trans (B1.mono HB5.out.size)); clear B1 HB5 N3) | (go_at_call 149; (with_reducible refine (cV _).mono ?_); rintro e w7 ⟨rfl, B1⟩; have HB := Lib.hid (HB6.out.trans (B1.mono HB6.out.size)); clear B1 HB6))
  go_ret2
  exact ⟨rfl, HB.out⟩
def res (ok : Bool) (z : Int) : List UInt8 := if ok then rs z else []
def ree (ok : Bool) (z : Int) : Int := if ok then er z else 30
theorem sum_grp {L1 L2 : List UInt8} (h1 : vld L1 = true) (h2 : vld L2 = true) : (grp (num L1 + num L2).natAbs).length ≤ 5000 := by
 have e1 := (vld_txt h1).2
 have e2 := (vld_txt h2).2
 refine Nat.le_trans (grp_of (k := 51) ?_) (by decide)
 have : (num L1 + num L2).natAbs ≤ (num L1).natAbs + (num L2).natAbs := Int.natAbs_add_le _ _
 omega
theorem dif_grp {L1 L2 : List UInt8} (h1 : vld L1 = true) (h2 : vld L2 = true) : (grp (num L1 - num L2).natAbs).length ≤ 5000 := by
 have e1 := (vld_txt h1).2
 have e2 := (vld_txt h2).2
 refine Nat.le_trans (grp_of (k := 51) ?_) (by decide)
 omega
theorem mul_grp {L1 L2 : List UInt8} (h1 : vld L1 = true) (h2 : vld L2 = true) : (grp (num L1 * num L2).natAbs).length ≤ 5000 := by
 have e1 := (vld_txt h1).2
 have e2 := (vld_txt h2).2
 refine Nat.le_trans (grp_of (k := 100) ?_) (by decide)
 set_option exponentiation.threshold 500 in
 rw [Int.natAbs_mul, show 4 * 100 = 200 + 200 from rfl, Nat.pow_add]
 exact Nat.mul_lt_mul'' e1 e2
theorem gcd_le (a b : Nat) : Nat.gcd a b ≤ max a b := by
 rcases Nat.eq_zero_or_pos a with h | h
 ·
  rw [h, Nat.gcd_zero_left]; omega
 ·
  exact Nat.le_trans (Nat.gcd_le_left _ h) (by omega)
theorem gcd_lt {L1 L2 : List UInt8} (h1 : vld L1 = true) (h2 : vld L2 = true) : Nat.gcd (num L1).natAbs (num L2).natAbs < 10 ^ 200 := by
 have e1 := (vld_txt h1).2
 have e2 := (vld_txt h2).2
 have := gcd_le (num L1).natAbs (num L2).natAbs
 omega
theorem gcd_grp {L1 L2 : List UInt8} (h1 : vld L1 = true) (h2 : vld L2 = true) : (grp ((Nat.gcd (num L1).natAbs (num L2).natAbs : Nat) : Int).natAbs).length ≤ 5000 := by
 refine Nat.le_trans (grp_of (k := 50) ?_) (by decide)
 rw [Int.natAbs_natCast]
 exact gcd_lt h1 h2
set_option maxRecDepth 100000 in
theorem Add_any (s1 s2 : ByteArray) (L1 L2 : List UInt8) (w : World) (hL1 : s1.data.toList = L1) (hL2 : s2.data.toList = L2) (hl1 : L1.length ≤ 60000) (hl2 : L2.length ≤ 60000) :
  Calls Tryz.prog 81 #[.string s1, .string s2] w fun e w' => e = .returned (.tuple #[.string ⟨(res (vld L1 && vld L2) (num L1 + num L2)).toArray⟩, .int .i64 (ree (vld L1 && vld L2) (num L1 + num L2))]) ∧ Below w.heap.size w w' := by
 have cC : ∀ W, Calls Tryz.prog 126 #[.string s1, .string s2, .func (.func 132) #[] #[]] W fun e w' => e = .returned (.tuple #[.string ⟨(res (vld L1 && vld L2) (num L1 + num L2)).toArray⟩, .int .i64 (ree (vld L1 && vld L2) (num L1 + num L2))]) ∧ Below W.heap.size W w' := fun W => by
  cases hv : vld L1 && vld L2
  ·
   exact combine_no _ s1 s2 L1 L2 W hL1 hL2 hl1 hl2 hv
  ·
   rw [Bool.and_eq_true] at hv
   exact combine_nplus s1 s2 L1 L2 W hL1 hL2 hv.1 hv.2 (sum_grp hv.1 hv.2)
 generalize (res (vld L1 && vld L2) (num L1 + num L2)).toArray = T at *
 generalize ree (vld L1 && vld L2) (num L1 + num L2) = E at *
 clear hL1 hL2 hl1 hl2
 go_enter Tryz.func81, Tryz.ntmps81
 go_wp2_with (go_at_call 126; (with_reducible refine (cC _).mono ?_); rintro e w1 ⟨rfl, B1⟩)
 go_ret2
 exact ⟨rfl, B1⟩
set_option maxRecDepth 100000 in
theorem Sub_any (s1 s2 : ByteArray) (L1 L2 : List UInt8) (w : World) (hL1 : s1.data.toList = L1) (hL2 : s2.data.toList = L2) (hl1 : L1.length ≤ 60000) (hl2 : L2.length ≤ 60000) :
  Calls Tryz.prog 82 #[.string s1, .string s2] w fun e w' => e = .returned (.tuple #[.string ⟨(res (vld L1 && vld L2) (num L1 - num L2)).toArray⟩, .int .i64 (ree (vld L1 && vld L2) (num L1 - num L2))]) ∧ Below w.heap.size w w' := by
 have cC : ∀ W, Calls Tryz.prog 126 #[.string s1, .string s2, .func (.func 133) #[] #[]] W fun e w' => e = .returned (.tuple #[.string ⟨(res (vld L1 && vld L2) (num L1 - num L2)).toArray⟩, .int .i64 (ree (vld L1 && vld L2) (num L1 - num L2))]) ∧ Below W.heap.size W w' := fun W => by
  cases hv : vld L1 && vld L2
  ·
   exact combine_no _ s1 s2 L1 L2 W hL1 hL2 hl1 hl2 hv
  ·
   rw [Bool.and_eq_true] at hv
   exact combine_nminus s1 s2 L1 L2 W hL1 hL2 hv.1 hv.2 (dif_grp hv.1 hv.2)
 generalize (res (vld L1 && vld L2) (num L1 - num L2)).toArray = T at *
 generalize ree (vld L1 && vld L2) (num L1 - num L2) = E at *
 clear hL1 hL2 hl1 hl2
 go_enter Tryz.func82, Tryz.ntmps82
 go_wp2_with (go_at_call 126; (with_reducible refine (cC _).mono ?_); rintro e w1 ⟨rfl, B1⟩)
 go_ret2
 exact ⟨rfl, B1⟩
set_option maxRecDepth 100000 in
theorem Mul_any (s1 s2 : ByteArray) (L1 L2 : List UInt8) (w : World) (hL1 : s1.data.toList = L1) (hL2 : s2.data.toList = L2) (hl1 : L1.length ≤ 60000) (hl2 : L2.length ≤ 60000) :
  Calls Tryz.prog 124 #[.string s1, .string s2] w fun e w' => e = .returned (.tuple #[.string ⟨(res (vld L1 && vld L2) (num L1 * num L2)).toArray⟩, .int .i64 (ree (vld L1 && vld L2) (num L1 * num L2))]) ∧ Below w.heap.size w w' := by
 have cC : ∀ W, Calls Tryz.prog 126 #[.string s1, .string s2, .func (.func 163) #[] #[]] W fun e w' => e = .returned (.tuple #[.string ⟨(res (vld L1 && vld L2) (num L1 * num L2)).toArray⟩, .int .i64 (ree (vld L1 && vld L2) (num L1 * num L2))]) ∧ Below W.heap.size W w' := fun W => by
  cases hv : vld L1 && vld L2
  ·
   exact combine_no _ s1 s2 L1 L2 W hL1 hL2 hl1 hl2 hv
  ·
   rw [Bool.and_eq_true] at hv
   exact combine_ntimes s1 s2 L1 L2 W hL1 hL2 hv.1 hv.2 (mul_grp hv.1 hv.2)
 generalize (res (vld L1 && vld L2) (num L1 * num L2)).toArray = T at *
 generalize ree (vld L1 && vld L2) (num L1 * num L2) = E at *
 clear hL1 hL2 hl1 hl2
 go_enter Tryz.func124, Tryz.ntmps124
 go_wp2_with (go_at_call 126; (with_reducible refine (cC _).mono ?_); rintro e w1 ⟨rfl, B1⟩)
 go_ret2
 exact ⟨rfl, B1⟩
set_option maxRecDepth 100000 in
theorem Gcd_any (s1 s2 : ByteArray) (L1 L2 : List UInt8) (w : World) (hL1 : s1.data.toList = L1) (hL2 : s2.data.toList = L2) (hl1 : L1.length ≤ 60000) (hl2 : L2.length ≤ 60000) :
  Calls Tryz.prog 75 #[.string s1, .string s2] w fun e w' => e = .returned (.tuple #[.string ⟨(res (vld L1 && vld L2) (((Nat.gcd (num L1).natAbs (num L2).natAbs : Nat) : Int))).toArray⟩, .int .i64 (ree (vld L1 && vld L2) (((Nat.gcd (num L1).natAbs (num L2).natAbs : Nat) : Int)))]) ∧ Below w.heap.size w w' := by
 have cC : ∀ W, Calls Tryz.prog 126 #[.string s1, .string s2, .func (.func 127) #[] #[]] W fun e w' => e = .returned (.tuple #[.string ⟨(res (vld L1 && vld L2) (((Nat.gcd (num L1).natAbs (num L2).natAbs : Nat) : Int))).toArray⟩, .int .i64 (ree (vld L1 && vld L2) (((Nat.gcd (num L1).natAbs (num L2).natAbs : Nat) : Int)))]) ∧ Below W.heap.size W w' := fun W => by
  cases hv : vld L1 && vld L2
  ·
   exact combine_no _ s1 s2 L1 L2 W hL1 hL2 hl1 hl2 hv
  ·
   rw [Bool.and_eq_true] at hv
   exact combine_ngcd s1 s2 L1 L2 W hL1 hL2 hv.1 hv.2 (gcd_grp hv.1 hv.2)
 generalize (res (vld L1 && vld L2) (((Nat.gcd (num L1).natAbs (num L2).natAbs : Nat) : Int))).toArray = T at *
 generalize ree (vld L1 && vld L2) (((Nat.gcd (num L1).natAbs (num L2).natAbs : Nat) : Int)) = E at *
 clear hL1 hL2 hl1 hl2
 go_enter Tryz.func75, Tryz.ntmps75
 go_wp2_with (go_at_call 126; (with_reducible refine (cC _).mono ?_); rintro e w1 ⟨rfl, B1⟩)
 go_ret2
 exact ⟨rfl, B1⟩
set_option maxRecDepth 100000 in
theorem Compare_any (s1 s2 : ByteArray) (L1 L2 : List UInt8) (w : World) (hL1 : s1.data.toList = L1) (hL2 : s2.data.toList = L2) (hl1 : L1.length ≤ 60000) (hl2 : L2.length ≤ 60000) :
  Calls Tryz.prog 61 #[.string s1, .string s2] w fun e w' => e = .returned (.int .i64 (if vld L1 && vld L2 then cmpN (num L1) (num L2) else 0)) ∧ Below w.heap.size w w' := by
 cases hv : vld L1 && vld L2
 ·
  have cR := fun W => readBoth_no s1 s2 L1 L2 W hL1 hL2 hl1 hl2 hv
  clear hL1 hL2 hl1 hl2 hv
  simp only [Bool.false_eq_true, if_false]
  go_enter Tryz.func61, Tryz.ntmps61
  go_wp2_with (go_at_call 111; (with_reducible refine (cR _).mono ?_); rintro e w1 ⟨rfl, B1⟩)
  go_ret
  exact ⟨rfl, (B1.alloc B1.size _).alloc (by have := B1.size; rw [World.size_alloc]; omega) _⟩
 ·
  rw [Bool.and_eq_true] at hv
  have cR := fun W => readBoth_ok s1 s2 L1 L2 W hL1 hL2 hv.1 hv.2
  have g1 := vld_grp hv.1
  have g2 := vld_grp hv.2
  have CC := Lib.hid (fun W v1 v2 h1 h2 => ncompare_any (num L1) (num L2) v1 v2 W (by omega) (by omega) h1 h2)
  generalize num L1 = x at *
  generalize num L2 = y at *
  simp only [if_true]
  generalize cmpN x y = z at *
  clear hL1 hL2 hl1 hl2 hv g1 g2
  go_enter Tryz.func61, Tryz.ntmps61
  go_wp2_with (first | (go_at_call 111; (with_reducible refine (cR _).mono ?_); rintro e w1 ⟨v1, v2, rfl, n1, n2, B1⟩; obtain ⟨q1, a1, k1, c1, rfl, hq1, m1⟩ := n1.form; obtain ⟨q2, a2, k2, c2, rfl, hq2, m2⟩ := n2.form; have b4 := ((Below.refl w1.heap.size w1).alloc (Nat.le_refl _) (.cells #[.bool q1, .slice a1 k1 c1] 114)).alloc (by rw [World.size_alloc]; omega) (.cells #[.bool q2, .slice a2 k2 c2] 114); have N1 := Lib.hid (n1.below b4); have N2 := Lib.hid (n2.below b4); have HB := Lib.hid (B1.trans (b4.mono B1.size)); clear hq1 hq2 m1 m2 n1 n2 b4 B1) | (go_at_call 115; (with_reducible refine (CC.out _ _ _ N1.out N2.out).mono ?_); rintro e w5 ⟨rfl, B1⟩; have HB5 := Lib.hid (HB.out.trans (B1.mono HB.out.size))))
  go_ret
  exact ⟨rfl, HB5.out⟩
set_option maxRecDepth 100000 in
set_option maxHeartbeats 1000000 in
theorem Div_any (s1 s2 : ByteArray) (L1 L2 : List UInt8) (w : World) (hL1 : s1.data.toList = L1) (hL2 : s2.data.toList = L2) (hv1 : vld L1 = true) (hv2 : vld L2 = true) (h0 : num L2 ≠ 0) :
  Calls Tryz.prog 60 #[.string s1, .string s2] w fun e w' => e = .returned (.tuple #[.string ⟨(txt (num L1 / num L2)).toArray⟩, .string ⟨(txt (num L1 % num L2)).toArray⟩, .int .i64 0]) ∧ Below w.heap.size w w' := by
 have cR := fun W => readBoth_ok s1 s2 L1 L2 W hL1 hL2 hv1 hv2
 have cZ := fun W v h => isZero_any (num L2) v W h
 have g1 := vld_grp hv1
 have g2 := vld_grp hv2
 have hdv : (grp (num L1 / num L2).natAbs).length ≤ 5000 := by
  have e1 : (num L1 / num L2).natAbs ≤ (num L1).natAbs + 1 := by
   have h := Int.natAbs_ediv_le_natAbs (num L1) (num L2)
   omega
  have e2 := (vld_txt hv1).2
  refine Nat.le_trans (grp_of (k := 51) ?_) (by decide)
  omega
 have hdm : (grp (num L1 % num L2).natAbs).length ≤ 5000 := by
  have e1 := Int.emod_nonneg (num L1) h0
  have e3 := Int.emod_lt (num L1) h0
  have e2 := (vld_txt hv2).2
  refine Nat.le_trans (grp_of (k := 50) ?_) (by decide)
  omega
 rw [decide_eq_false h0] at cZ
 have CO := Lib.hid (fun W v1 v2 h1 h2 => nover_any (num L1) (num L2) v1 v2 W h0 (by omega) (by omega) h1 h2)
 have CT1 := Lib.hid (fun W v h => ntext_any (num L1 / num L2) v W hdv h)
 have CT2 := Lib.hid (fun W v h => ntext_any (num L1 % num L2) v W hdm h)
 have CZ := Lib.hid cZ
 generalize num L1 / num L2 = d at *
 generalize num L1 % num L2 = m at *
 generalize num L1 = x at *
 generalize num L2 = y at *
 generalize (txt d).toArray = T1 at *
 generalize (txt m).toArray = T2 at *
 clear hL1 hL2 hv1 hv2 h0 g1 g2 hdv hdm cZ
 go_enter Tryz.func60, Tryz.ntmps60
 go_wp2_with (first | (go_at_call 111; (with_reducible refine (cR _).mono ?_); rintro e w1 ⟨v1, v2, rfl, n1, n2, B1⟩; obtain ⟨q1, a1, k1, c1, rfl, hq1, m1⟩ := n1.form; obtain ⟨q2, a2, k2, c2, rfl, hq2, m2⟩ := n2.form; have b4 := ((Below.refl w1.heap.size w1).alloc (Nat.le_refl _) (.cells #[.bool q1, .slice a1 k1 c1] 114)).alloc (by rw [World.size_alloc]; omega) (.cells #[.bool q2, .slice a2 k2 c2] 114); have N1 := Lib.hid (n1.below b4); have N2 := Lib.hid (n2.below b4); have HB := Lib.hid (B1.trans (b4.mono B1.size)); clear hq1 hq2 m1 m2 n1 n2 b4 B1) | (go_at_call 112; go_loud ((with_reducible refine (CZ.out _ _ N2.out).mono ?_); rintro e w2 ⟨rfl, B1⟩; have HB2 := Lib.hid (HB.out.trans (B1.mono HB.out.size)); obtain ⟨z1, z2⟩ := two_blocks w1 (.bool q1) (.slice a1 k1 c1) (.bool q2) (.slice a2 k2 c2); have k0 := z1.keep B1 z1.lt; have k9 := z2.keep B1 z2.lt; have r0 := k0.c0; have r1 := k0.c1; have r2 := k9.c0; have r3 := k9.c1; have n1 := N1.out.below B1; have n2 := N2.out.below B1; clear k0 k9 z1 z2 N1 N2 B1 HB; have N1 := Lib.hid n1; have N2 := Lib.hid n2; clear n1 n2)) | (go_at_call 113; go_loud ((with_reducible refine (CO.out _ _ _ N1.out N2.out).mono ?_); rintro e w3 ⟨u1, u2, rfl, n1, n2, B1⟩; have HB3 := Lib.hid (HB2.out.trans (B1.mono HB2.out.size)); obtain ⟨q3, a3, k3, c3, rfl, hq3, m3⟩ := n1.form; obtain ⟨q4, a4, k4, c4, rfl, hq4, m4⟩ := n2.form; have M3 := Lib.hid n1; have M4 := Lib.hid n2; clear n1 n2 hq3 hq4 m3 m4 B1 r0 r1 r2 r3)))
 have b4 := ((Below.refl w3.heap.size w3).alloc (Nat.le_refl _) (.cells #[.bool q3, .slice a3 k3 c3] 114)).alloc (by rw [World.size_alloc]; omega) (.cells #[.bool q4, .slice a4 k4 c4] 114)
 obtain ⟨z1, z2⟩ := two_blocks w3 (.bool q3) (.slice a3 k3 c3) (.bool q4) (.slice a4 k4 c4)
 have P3 := Lib.hid (M3.out.below b4.drew)
 have P4 := Lib.hid (M4.out.below b4.drew)
 have HB4 := Lib.hid ((HB3.out.trans (b4.mono HB3.out.size)).drew)
 have Z1 := Lib.hid z1
 have Z2 := Lib.hid z2
 clear b4 z1 z2 M3 M4 HB3 HB2
 refine wp_region_noPanic ?_
 refine wp_region_held_drew (S := fun W => NBlk W w3.heap.size (.bool q3) (.slice a3 k3 c3) ∧ NBlk W (w3.heap.size + 1) (.bool q4) (.slice a4 k4 c4)) (by kernel_rfl) ?_ (fun hHeld => ?_)
 ·
  exact ⟨Z1.out, Z2.out⟩
 refine tk 0 (oi := ({ dst := some 31, op := .load 114 (.tmp 10), type := 114, pos := "integer.go:79", after := #[], guard := none } : Oper)) (v := ?v0_1) ?hy0_1 ?re0_1
 case hy0_1 => ((intro w hSw; obtain ⟨g1, g2⟩ := hSw; have e1 := g1.c0; have e2 := g1.c1; have e3 := g2.c0; have e4 := g2.c1; go_simp) <;> with_reducible rfl)
 (try simp only [Act.put, List.setIfInBounds_toArray, List.set_cons_zero, List.set_cons_succ])
 refine tk 2 (oi := ({ dst := some 33, op := .load 114 (.tmp 11), type := 114, pos := "integer.go:79", after := #[], guard := none } : Oper)) (v := ?v2_2) ?hy2_2 ?re2_2
 case hy2_2 => ((intro w hSw; obtain ⟨g1, g2⟩ := hSw; have e1 := g1.c0; have e2 := g1.c1; have e3 := g2.c0; have e4 := g2.c1; go_simp) <;> with_reducible rfl)
 (try simp only [Act.put, List.setIfInBounds_toArray, List.set_cons_zero, List.set_cons_succ])
 refine wpAnyH_ready (rs := [1]) (by kernel_rfl) (by simp) ?_
 refine AllReadyH.cons (o := ({ dst := some 32, op := .call { callee := .value (.func 114), args := #[.tmp 31], argTypes := #[114] }, type := 9, pos := "integer.go:79", after := #[⟨0, .data⟩], guard := none } : Oper)) rfl (fun K hK => ?_) ?_
 ·
  go_simp
  go_at_call 114
  refine (CT1.out _ _ P3.out).mono ?_
  rintro e w4 ⟨rfl, B4⟩
  have HB5 := Lib.hid (HB4.out.trans (B4.mono HB4.out.size))
  (try go_wp2_with fail)
  refine hK.out _ _ ?_ (fun hHeld => ?_)
  ·
   exact ⟨hHeld.1.keep B4 hHeld.1.lt, hHeld.2.keep B4 hHeld.2.lt⟩
  clear hK K
  (try simp only [Act.put, List.setIfInBounds_toArray, List.set_cons_zero, List.set_cons_succ])
  refine wpAnyH_ready (rs := [3]) (by kernel_rfl) (by simp) ?_
  refine AllReadyH.cons (o := ({ dst := some 34, op := .call { callee := .value (.func 114), args := #[.tmp 33], argTypes := #[114] }, type := 9, pos := "integer.go:79", after := #[⟨2, .data⟩, ⟨1, .chain⟩], guard := none } : Oper)) rfl (fun K hK => ?_) ?_
  ·
   go_simp
   go_at_call 114
   refine (CT2.out _ _ (P4.out.below B4)).mono ?_
   rintro e w5 ⟨rfl, B5⟩
   have HB6 := Lib.hid (HB5.out.trans (B5.mono HB5.out.size))
   (try go_wp2_with fail)
   refine hK.out _ _ ?_ (fun hHeld => ?_)
   ·
    exact ⟨hHeld.1.keep B5 hHeld.1.lt, hHeld.2.keep B5 hHeld.2.lt⟩
   clear hK K
   (try simp only [Act.put, List.setIfInBounds_toArray, List.set_cons_zero, List.set_cons_succ])
   refine tk 4 (oi := ({ dst := some 4, op := .assign (.tmp 32), type := 9, pos := "integer.go:79", after := #[⟨1, .data⟩, ⟨3, .chain⟩, ⟨0, .phase⟩, ⟨1, .phase⟩, ⟨2, .textOnly .lateStores⟩, ⟨3, .textOnly .lateStoresUnsure⟩], guard := none } : Oper)) (v := ?v4_3) ?hy4_3 ?re4_3
   case hy4_3 => ((intro w hSw; obtain ⟨g1, g2⟩ := hSw; have e1 := g1.c0; have e2 := g1.c1; have e3 := g2.c0; have e4 := g2.c1; go_simp) <;> with_reducible rfl)
   (try simp only [Act.put, List.setIfInBounds_toArray, List.set_cons_zero, List.set_cons_succ])
   refine tk 5 (oi := ({ dst := some 5, op := .assign (.tmp 34), type := 9, pos := "integer.go:79", after := #[⟨3, .data⟩, ⟨4, .chain⟩, ⟨0, .phase⟩, ⟨1, .phase⟩, ⟨2, .phase⟩, ⟨3, .phase⟩, ⟨4, .phase⟩], guard := none } : Oper)) (v := ?v5_4) ?hy5_4 ?re5_4
   case hy5_4 => ((intro w hSw; obtain ⟨g1, g2⟩ := hSw; have e1 := g1.c0; have e2 := g1.c1; have e3 := g2.c0; have e4 := g2.c1; go_simp) <;> with_reducible rfl)
   (try simp only [Act.put, List.setIfInBounds_toArray, List.set_cons_zero, List.set_cons_succ])
   refine tk 6 (oi := ({ dst := some 6, op := .assign (.const (.int .i64 0)), type := 32, pos := "integer.go:79", after := #[⟨5, .chain⟩, ⟨0, .phase⟩, ⟨1, .phase⟩, ⟨2, .phase⟩, ⟨3, .phase⟩, ⟨4, .phase⟩, ⟨5, .phase⟩], guard := none } : Oper)) (v := ?v6_5) ?hy6_5 ?re6_5
   case hy6_5 => ((intro w hSw; obtain ⟨g1, g2⟩ := hSw; have e1 := g1.c0; have e2 := g1.c1; have e3 := g2.c0; have e4 := g2.c1; go_simp) <;> with_reducible rfl)
   (try simp only [Act.put, List.setIfInBounds_toArray, List.set_cons_zero, List.set_cons_succ])
   refine wpAnyH_done (by kernel_rfl) ?_ _
   refine NoPanic.normal ?_
   go_wp2_with fail
   go_ret3
   exact ⟨rfl, HB6.out⟩
  exact AllReadyH.nil
 exact AllReadyH.nil
set_option maxRecDepth 100000 in
theorem rtrim_some (l : List Int) (b o n c : Nat) (w : World) (hn : l.length = n) (hc : n ≤ c) (hc2 : c ≤ 9223372036854775807) (hr : IRow w b o l) :
  Calls Tryz.prog 148 #[.slice (some ⟨b, o, none⟩) n c] w fun e w' => e = .returned (.slice (some ⟨b, o, none⟩) (trz l).length c) ∧ ∃ q, w' = w.drewN q := by
 have HN := Lib.hid hn
 have HR := Lib.hid hr
 clear hn hr
 go_enter Tryz.func148, Tryz.ntmps148
 go_wp2
 go_loopw [0] (fun v wr => ∃ k : Nat, k ≤ n ∧ v = .slice (some ⟨b, o, none⟩) k c ∧ Hid (trz (l.take k) = trz l) ∧ Hid (∃ q, wr = w.drewN q)) (fun v _ => match v with | .slice _ k _ => k | _ => 0)
 case atStart => exact ⟨n, Nat.le_refl _, rfl, Lib.hid (by rw [List.take_of_length_le (by rw [HN.out]; exact Nat.le_refl _)]), Lib.hid ⟨0, rfl⟩⟩
 case round =>
  obtain ⟨k, hk, rfl, HT, HW⟩ := hrel
  by_cases h0 : k = 0
  ·
   subst h0
   have HL := Lib.hid (show (trz l).length = 0 by rw [← HT.out]; rfl)
   go_wp2
   go_ret
   exact ⟨by rw [HL.out]; rfl, HW.out⟩
  ·
   obtain ⟨m, rfl⟩ : ∃ m, k = m + 1 := ⟨k - 1, by omega⟩
   have k1 : m < l.length := by rw [HN.out]; omega
   have hx : wr.cell? ⟨b, o + m, none⟩ = some (.int .i64 l[m]) := by obtain ⟨q, rfl⟩ := HW.out; exact HR.out m _ (List.getElem?_eq_getElem k1)
   have HK := Lib.hid (List.take_succ_eq_append_getElem k1)
   obtain ⟨x, hx'⟩ : ∃ x, l[m] = x := ⟨_, rfl⟩
   rw [hx'] at hx HK
   clear hx' k1 h0
   by_cases hx0 : x = 0
   ·
    subst hx0
    have HT2 := Lib.hid (show trz (l.take m) = trz l by rw [← HT.out, HK.out, trz_snoc0])
    go_wp2
    go_roundw
    case rel => exact ⟨m, by omega, rfl, HT2, HW⟩
    case measure => exact Nat.lt_succ_self m
   ·
    have q1 : (x == 0) = false := by rw [beq_eq_false_iff_ne]; exact hx0
    have HL := Lib.hid (show (trz l).length = m + 1 by rw [← HT.out, HK.out, trz_snoc _ _ hx0, List.length_append, List.length_take, HN.out]; simp; omega)
    go_wp2
    go_ret
    exact ⟨by rw [HL.out]; rfl, HW.out⟩
theorem wr4_cons (x : Int) (l : List Int) : wr4 (x :: l) = wr4 l ++ [48 + x] := by simp [wr4]
theorem own_bytes {w : World} {base n : Nat} {v : Value} {l : List Int} (h : w.ownsRow base 5 1 v n (l.map (Value.int .u8))) (hn : 0 < n) : ∃ g cap, v = .slice (some ⟨g, 0, none⟩) n cap ∧ base ≤ g ∧ UBlk w g l := by
 rcases h.2 with ⟨_, h'⟩ | ⟨g, cap, cur, rfl, hb, _⟩
 ·
  omega
 ·
  exact ⟨g, cap, rfl, hb, own_ublk h⟩
theorem own_block {w : World} {base n k : Nat} {e : TypeId} {v : Value} {xs : List Value} (h : w.ownsRow base e 1 v n xs) (hk : v.ownBlock = some k) : base ≤ k := by
 rcases h.2 with ⟨rfl, _⟩ | ⟨g, cap, cur, rfl, hb, _⟩
 ·
  cases hk
 ·
  cases hk; exact hb
theorem one_newB (W : World) (x : Int) : ∀ j u, [Value.int .u8 x][j]? = some u → (W.alloc (.cells #[.int .u8 x] 5)).cell? ((⟨W.heap.size, 0, none⟩ : Addr).add j) = some u := by
 intro j u h
 rcases j with _ | j
 ·
  simp at h
  subst h
  rw [Addr.add_mid, World.cell?, Go.heap_alloc_new]
  rfl
 ·
  simp at h
theorem rtext_zero (neg : Bool) (a : Option Addr) (c : Nat) (w : World) :
  Calls Tryz.prog 119 #[.bool neg, .slice a 0 c] w fun e w' => e = .returned (.tuple #[.string ⟨#[48]⟩, .bool true]) ∧ w = w' := by
 go_enter Tryz.func119, Tryz.ntmps119
 go_wp2
 go_ret2
 exact ⟨rfl, rfl⟩
theorem made_text (neg : Bool) (n : Nat) (h : n ≠ 0) : (if neg then [45] else []) ++ lts (grpX n) = txt (if neg then -(n : Int) else n) := by
 cases neg
 ·
  simp only [Bool.false_eq_true, if_false, List.nil_append]
  rw [txt, if_neg (by omega), Int.natAbs_natCast, txN, if_neg h]
 ·
  simp only [if_true]
  rw [txt, if_pos (by omega), Int.natAbs_neg, Int.natAbs_natCast, txN, if_neg h]
  rfl
def mz (neg : Bool) (n : Nat) : Int := if neg then -(n : Int) else n
theorem one_newJ (W : World) (x : Int) : ∀ j u, [Value.int .i64 x][j]? = some u → (W.alloc (.cells #[.int .i64 x] 3)).cell? ((⟨W.heap.size, 0, none⟩ : Addr).add j) = some u := one_newI W x
theorem own_ints {w : World} {base n : Nat} {v : Value} {l : List Int} (h : w.ownsRow base 3 1 v n (ints l)) (hn : 0 < n) : ∃ g cap, v = .slice (some ⟨g, 0, none⟩) n cap ∧ base ≤ g ∧ ABlk w g l ∧ n ≤ cap ∧ cap ≤ 9223372036854775807 := by
 rcases h.2 with ⟨_, h'⟩ | ⟨g, cap, cur, rfl, hb, _⟩
 ·
  omega
 ·
  have := own_blk h
  exact ⟨g, cap, rfl, hb, this.1, this.2.2.1, this.2.2.2.1⟩
theorem rtrim_zero (a : Option Addr) (c : Nat) (w : World) :
  Calls Tryz.prog 148 #[.slice a 0 c] w fun e w' => e = .returned (.slice a 0 c) ∧ ∃ q, w' = w.drewN q := by
 go_enter Tryz.func148, Tryz.ntmps148
 go_wp2
 go_loopw [0] (fun v wr => v = .slice a 0 c ∧ Hid (∃ q, wr = w.drewN q)) (fun _ _ => 0)
 case atStart => exact ⟨rfl, Lib.hid ⟨0, rfl⟩⟩
 case round =>
  obtain ⟨rfl, HW⟩ := hrel
  go_wp2
  go_ret
  exact ⟨rfl, HW.out⟩
theorem txt_lit {L : List UInt8} (h : vld L = true) : txt (num L) = L := (vld_txt h).1
def S (z : Int) : ByteArray := ⟨(txt z).toArray⟩
theorem S_list (z : Int) : (S z).data.toList = txt z := by simp [S]
theorem S_lit {L : List UInt8} (h : vld L = true) : S (num L) = ⟨L.toArray⟩ := by rw [S, txt_lit h]
theorem S_zero : S 0 = ⟨#[48]⟩ := S_lit (L := [48]) (by decide)
theorem S_one : S 1 = ⟨#[49]⟩ := S_lit (L := [49]) (by decide)
theorem S_len {z : Int} (h : z.natAbs < 10 ^ 200) : (txt z).length ≤ 60000 := by
 have := (vld_digits (txt_vld h)).2.2
 omega
theorem wide {a : Int} {p q : Nat} (h1 : a.natAbs < 10 ^ p) (h : p ≤ q) : a.natAbs < 10 ^ q := Nat.lt_of_lt_of_le h1 (Nat.pow_le_pow_right (by decide) h)
theorem Add_S (x y : Int) (hx : x.natAbs < 10 ^ 200) (hy : y.natAbs < 10 ^ 200) (hz : (x + y).natAbs < 10 ^ 200) (w : World) :
  Calls Tryz.prog 81 #[.string (S x), .string (S y)] w fun e w' => e = .returned (.tuple #[.string (S (x + y)), .int .i64 0]) ∧ Below w.heap.size w w' := by
 have h := Add_any (S x) (S y) (txt x) (txt y) w (S_list x) (S_list y) (S_len hx) (S_len hy)
 rw [txt_vld hx, txt_vld hy, Bool.and_true, txt_num, txt_num, res, ree, rs, er, if_pos rfl, if_pos rfl, if_pos hz, if_pos hz] at h
 exact h
theorem Sub_S (x y : Int) (hx : x.natAbs < 10 ^ 200) (hy : y.natAbs < 10 ^ 200) (hz : (x - y).natAbs < 10 ^ 200) (w : World) :
  Calls Tryz.prog 82 #[.string (S x), .string (S y)] w fun e w' => e = .returned (.tuple #[.string (S (x - y)), .int .i64 0]) ∧ Below w.heap.size w w' := by
 have h := Sub_any (S x) (S y) (txt x) (txt y) w (S_list x) (S_list y) (S_len hx) (S_len hy)
 rw [txt_vld hx, txt_vld hy, Bool.and_true, txt_num, txt_num, res, ree, rs, er, if_pos rfl, if_pos rfl, if_pos hz, if_pos hz] at h
 exact h
theorem Gcd_S (x y : Int) (hx : x.natAbs < 10 ^ 200) (hy : y.natAbs < 10 ^ 200) (hz : (((Nat.gcd x.natAbs y.natAbs : Nat) : Int)).natAbs < 10 ^ 200) (w : World) :
  Calls Tryz.prog 75 #[.string (S x), .string (S y)] w fun e w' => e = .returned (.tuple #[.string (S (((Nat.gcd x.natAbs y.natAbs : Nat) : Int))), .int .i64 0]) ∧ Below w.heap.size w w' := by
 have h := Gcd_any (S x) (S y) (txt x) (txt y) w (S_list x) (S_list y) (S_len hx) (S_len hy)
 rw [txt_vld hx, txt_vld hy, Bool.and_true, txt_num, txt_num, res, ree, rs, er, if_pos rfl, if_pos rfl, if_pos hz, if_pos hz] at h
 exact h
theorem Div_S (x y : Int) (hx : x.natAbs < 10 ^ 200) (hy : y.natAbs < 10 ^ 200) (h0 : y ≠ 0) (w : World) :
  Calls Tryz.prog 60 #[.string (S x), .string (S y)] w fun e w' => e = .returned (.tuple #[.string (S (x / y)), .string (S (x % y)), .int .i64 0]) ∧ Below w.heap.size w w' := by
 have h := Div_any (S x) (S y) (txt x) (txt y) w (S_list x) (S_list y) (txt_vld hx) (txt_vld hy) (by rw [txt_num]; exact h0)
 rw [txt_num, txt_num] at h
 exact h
theorem Compare_S (x y : Int) (hx : x.natAbs < 10 ^ 200) (hy : y.natAbs < 10 ^ 200) (w : World) :
  Calls Tryz.prog 61 #[.string (S x), .string (S y)] w fun e w' => e = .returned (.int .i64 (cmpN x y)) ∧ Below w.heap.size w w' := by
 have h := Compare_any (S x) (S y) (txt x) (txt y) w (S_list x) (S_list y) (S_len hx) (S_len hy)
 rw [txt_vld hx, txt_vld hy, Bool.and_true, if_pos rfl, txt_num, txt_num] at h
 exact h
theorem gx_get (n i : Nat) : (grpX n)[i]? = if 10 ^ i ≤ n then some (((n / 10 ^ i) % 10 : Nat) : Int) else none := by
 induction i generalizing n with
 | zero =>
  by_cases h : n = 0
  ·
   subst h; rw [grpX_zero, if_neg (by decide)]; rfl
  ·
   rw [grpX_pos (by omega), if_pos (by rw [Nat.pow_zero]; omega), Nat.pow_zero, Nat.div_one]; rfl
 | succ i ih =>
  by_cases h : n = 0
  ·
   subst h; rw [grpX_zero, if_neg (by have := Nat.pow_pos (n := i + 1) (show 0 < 10 by decide); omega)]; rfl
  ·
   rw [grpX_pos (by omega), List.getElem?_cons_succ, ih, Nat.pow_succ, Nat.mul_comm (10 ^ i) 10, ← Nat.div_div_eq_div_mul]
   have e : 10 ^ i ≤ n / 10 ↔ 10 * 10 ^ i ≤ n := by rw [Nat.le_div_iff_mul_le (by decide), Nat.mul_comm]
   by_cases h2 : 10 ^ i ≤ n / 10
   ·
    rw [if_pos h2, if_pos (e.1 h2)]
   ·
    rw [if_neg h2, if_neg (fun c => h2 (e.2 c))]
theorem gx_len (n i : Nat) : i < (grpX n).length ↔ 10 ^ i ≤ n := by
 have h := gx_get n i
 constructor
 ·
  intro hi
  rw [List.getElem?_eq_getElem hi] at h
  by_cases h2 : 10 ^ i ≤ n
  ·
   exact h2
  ·
   rw [if_neg h2] at h; cases h
 ·
  intro hi
  rw [if_pos hi] at h
  exact (List.getElem?_eq_some_iff.1 h).1
theorem gx_step (n i : Nat) : n / 10 ^ i = (n / 10 ^ i) % 10 + 10 * (n / 10 ^ (i + 1)) := by
 rw [Nat.pow_succ, ← Nat.div_div_eq_div_mul]; omega
theorem gx_end {n i : Nat} (h : (grpX n).length ≤ i) : n / 10 ^ i = 0 := by
 refine Nat.div_eq_of_lt ?_
 rcases Nat.lt_or_ge n (10 ^ i) with g | g
 ·
  exact g
 ·
  have := (gx_len n i).2 g; omega
theorem grpX_mono {n m : Nat} (h : m ≤ n) : (grpX m).length ≤ (grpX n).length := grpX_len (Nat.lt_of_le_of_lt h (grpX_lt n))
theorem gx_of {l : List Int} {n : Nat} (hd : DigX l) (hv : vlX l = n) (h : l = [] ∨ 10 ^ (l.length - 1) ≤ n) : l = grpX n := by
 have ht := trzX_grp hd
 rw [hv, Int.toNat_natCast] at ht
 rcases h with h | h
 ·
  subst h
  rw [← ht]; rfl
 ·
  have h1 := trz_len l
  have h2 := (gx_len n (l.length - 1)).2 h
  rw [← ht] at h2
  have h3 := trz_take l
  rw [show (trz l).length = l.length by omega, List.take_length] at h3
  rw [← ht, h3]
theorem vlX_set (l : List Int) (j : Nat) (x v : Int) (h : l[j]? = some x) : vlX (l.set j v) = vlX l + 10 ^ j * (v - x) := by
 induction l generalizing j with
 | nil => cases h
 | cons y l ih =>
  cases j with
  | zero =>
   simp at h; subst h
   rw [List.set_cons_zero, vlX, vlX, Int.pow_zero]; omega
  | succ j =>
   rw [List.getElem?_cons_succ] at h
   rw [List.set_cons_succ, vlX, vlX, ih j h, Int.pow_succ, Int.mul_add, Int.mul_comm ((10 : Int) ^ j) 10, Int.mul_assoc]
   omega
theorem DigX.set {l : List Int} (h : DigX l) (j : Nat) {v : Int} (hv : 0 ≤ v ∧ v < 10) : DigX (l.set j v) := fun y hy => by
 rcases List.mem_or_eq_of_mem_set hy with g | g
 ·
  exact h y g
 ·
  rw [g]; exact hv
theorem DigX.snoc {l : List Int} (h : DigX l) {v : Int} (hv : 0 ≤ v ∧ v < 10) : DigX (l ++ [v]) := fun y hy => by
 rcases List.mem_append.1 hy with g | g
 ·
  exact h y g
 ·
  rw [List.mem_singleton.1 g]; exact hv
def XSl (w : World) (v : Value) (n : Nat) : Prop := ISl w v (grpX n)
theorem XSl.below {w w' : World} {v : Value} {n : Nat} (h : XSl w v n) (hb : Below w.heap.size w w') : XSl w' v n := ISl.below h hb
theorem XSl.form {w : World} {v : Value} {n : Nat} (h : XSl w v n) : ∃ a c, v = .slice a (grpX n).length c := by
 rcases h with ⟨a, c, rfl, e⟩ | ⟨b, o, c, rfl, _⟩
 ·
  rw [e]; exact ⟨a, c, rfl⟩
 ·
  exact ⟨_, c, rfl⟩
theorem XSl.at {w : World} {a : Option Addr} {k c n : Nat} (h : XSl w (.slice a k c) n) (hk : (grpX n).length = k) : ∃ b o : Nat, (∀ i, i < k → a = some ⟨b, o, none⟩ ∧ w.cell? ⟨b, o + i, none⟩ = some (.int .i64 (((n / 10 ^ i) % 10 : Nat) : Int)) ∧ k ≤ c) := by
 rcases h with ⟨a', c', e, e2⟩ | ⟨b, o, c', e, h1, h2, h3, h4⟩
 ·
  refine ⟨0, 0, fun i hi => ?_⟩
  rw [e2] at hk; simp at hk; omega
 ·
  simp only [Value.slice.injEq] at e
  obtain ⟨rfl, e3, rfl⟩ := e
  refine ⟨b, o, fun i hi => ⟨rfl, h4 i _ ?_, by omega⟩⟩
  rw [gx_get, if_pos ((gx_len n i).1 (by omega))]
theorem cmp_lenX {n m : Nat} (h : (grpX n).length < (grpX m).length) : n < m := by
 have h1 := grpX_lt n
 have h2 := (gx_len m _).1 h
 omega
set_option maxRecDepth 100000 in
set_option maxHeartbeats 2000000 in
theorem order_any (n m : Nat) (v1 v2 : Value) (w : World) (hl : (grpX n).length ≤ 100000) (hl2 : (grpX m).length ≤ 100000) (h1 : XSl w v1 n) (h2 : XSl w v2 m) :
  Calls Tryz.prog 120 #[v1, v2] w fun e w' => e = .returned (.int .i64 (cmpN n m)) ∧ Below w.heap.size w w' := by
 obtain ⟨a1, c1, rfl⟩ := h1.form
 obtain ⟨a2, c2, rfl⟩ := h2.form
 have hlt1 : (grpX n).length < (grpX m).length → n < m := cmp_lenX
 have hlt2 : (grpX m).length < (grpX n).length → m < n := cmp_lenX
 obtain ⟨p, hp⟩ : ∃ p, (grpX n).length = p := ⟨_, rfl⟩
 obtain ⟨q, hq⟩ : ∃ q, (grpX m).length = q := ⟨_, rfl⟩
 rw [hp] at h1 hl ⊢
 rw [hq] at h2 hl2 ⊢
 rw [hp, hq] at hlt1 hlt2
 rcases Nat.lt_trichotomy p q with hpq | hpq | hpq
 ·
  have hc : cmpN (n : Int) (m : Int) = -1 := by have := hlt1 hpq; rw [cmpN, if_pos (by omega)]
  rw [hc]
  have q1 : ((p : Int) == (q : Int)) = false := by rw [beq_eq_false_iff_ne, ne_eq]; omega
  have q2 : ((p : Int) != (q : Int)) = true := by rw [bne, q1]; rfl
  clear h1 h2 hp hq hc hlt1 hlt2
  go_enter Tryz.func120, Tryz.ntmps120
  go_wp2
  go_ret
  exact ⟨rfl, Below.refl _ _⟩
 ·
  subst hpq
  obtain ⟨b1, o1, r1⟩ := h1.at hp
  obtain ⟨b2, o2, r2⟩ := h2.at hq
  have R1 := Lib.hid r1
  have R2 := Lib.hid r2
  have he : n / 10 ^ p = m / 10 ^ p := by rw [gx_end (by omega), gx_end (by omega)]
  have HE := Lib.hid he
  clear h1 h2 hp hq r1 r2 he hlt1 hlt2
  go_enter Tryz.func120, Tryz.ntmps120
  go_wp2
  go_loopw [5] (fun iv wr => ∃ k t : Nat, k ≤ p ∧ iv = .int .i64 ((k : Int) - 1) ∧ Hid (n / 10 ^ k = m / 10 ^ k) ∧ wr = w.drewN t) (fun iv _ => (intOf iv + 1).toNat)
  case atStart => exact ⟨p, 0, Nat.le_refl _, rfl, HE, rfl⟩
  case round =>
   clear HE
   obtain ⟨k, t, hk, rfl, hE, rfl⟩ := hrel
   have hBt := below_drewN (Below.refl w.heap.size w) t
   by_cases h0 : k = 0
   ·
    subst h0
    have hnm : n = m := by have := hE.out; simpa using this
    have HC := Lib.hid (show cmpN (n : Int) (m : Int) = 0 by rw [hnm, cmpN, if_neg (by omega), if_neg (by omega)])
    clear hE hnm
    go_wp2
    go_ret
    exact ⟨by rw [HC.out]; rfl, hBt⟩
   ·
    obtain ⟨i, rfl⟩ : ∃ i, k = i + 1 := ⟨k - 1, by omega⟩
    have hip : i < p := by omega
    obtain ⟨rfl, x1, x2⟩ := R1.out i (by omega)
    obtain ⟨rfl, y1, y2⟩ := R2.out i (by omega)
    have s1 := gx_step n i
    have s2 := gx_step m i
    rw [← hE.out] at s2
    obtain ⟨x, hx⟩ : ∃ x, (n / 10 ^ i) % 10 = x := ⟨_, rfl⟩
    obtain ⟨y, hy⟩ : ∃ y, (m / 10 ^ i) % 10 = y := ⟨_, rfl⟩
    rw [hx] at x1 s1
    rw [hy] at y1 s2
    have hmono : n / 10 ^ i < m / 10 ^ i → n < m := fun h => by
     rcases Nat.lt_or_ge n m with g | g
     ·
      exact g
     ·
      exact absurd (Nat.div_le_div_right (c := 10 ^ i) g) (by omega)
    have hmono2 : m / 10 ^ i < n / 10 ^ i → m < n := fun h => by
     rcases Nat.lt_or_ge m n with g | g
     ·
      exact g
     ·
      exact absurd (Nat.div_le_div_right (c := 10 ^ i) g) (by omega)
    by_cases hxy : x = y
    ·
     have HE2 := Lib.hid (show n / 10 ^ i = m / 10 ^ i by rw [s1, s2, hxy])
     subst hxy
     clear s1 s2 hx hy hmono hmono2 hE
     go_wp2_with fail
     refine wp_region_noPanic ?_
     refine wp_region_held_drew (S := fun W => W.cell? ⟨b1, o1 + i, none⟩ = some (.int .i64 (x : Int)) ∧ W.cell? ⟨b2, o2 + i, none⟩ = some (.int .i64 (x : Int))) (by kernel_rfl) ?_ (fun hHeld => ?_)
     ·
      exact ⟨x1, y1⟩
     refine tk 0 (oi := ({ dst := some 23, op := .move (.tmp 0), type := 40, pos := "ref.go:67", after := #[], guard := none } : Oper)) (v := ?v0_1a) ?hy0_1a ?re0_1a
     case hy0_1a => ((intro w hSw; obtain ⟨e1, e2⟩ := hSw; go_simp) <;> with_reducible rfl)
     (try simp only [Act.put, List.setIfInBounds_toArray, List.set_cons_zero, List.set_cons_succ])
     refine tk 1 (oi := ({ dst := some 24, op := .move (.tmp 5), type := 3, pos := "ref.go:67", after := #[], guard := none } : Oper)) (v := ?v1_2a) ?hy1_2a ?re1_2a
     case hy1_2a => ((intro w hSw; obtain ⟨e1, e2⟩ := hSw; go_simp) <;> with_reducible rfl)
     (try simp only [Act.put, List.setIfInBounds_toArray, List.set_cons_zero, List.set_cons_succ])
     refine tk 2 (oi := ({ dst := some 25, op := .indexAddr 40 (.tmp 23) (.tmp 24), type := 0, pos := "ref.go:67", after := #[⟨0, .data⟩, ⟨1, .data⟩], guard := none } : Oper)) (v := ?v2_3a) ?hy2_3a ?re2_3a
     case hy2_3a => ((intro w hSw; obtain ⟨e1, e2⟩ := hSw; go_simp) <;> with_reducible rfl)
     (try simp only [Act.put, List.setIfInBounds_toArray, List.set_cons_zero, List.set_cons_succ])
     refine tk 3 (oi := ({ dst := some 26, op := .load 3 (.tmp 25), type := 3, pos := "ref.go:67", after := #[⟨2, .data⟩], guard := none } : Oper)) (v := ?v3_4a) ?hy3_4a ?re3_4a
     case hy3_4a => ((intro w hSw; obtain ⟨e1, e2⟩ := hSw; go_simp) <;> with_reducible rfl)
     (try simp only [Act.put, List.setIfInBounds_toArray, List.set_cons_zero, List.set_cons_succ])
     refine tk 4 (oi := ({ dst := some 27, op := .move (.tmp 1), type := 40, pos := "ref.go:67", after := #[], guard := none } : Oper)) (v := ?v4_5a) ?hy4_5a ?re4_5a
     case hy4_5a => ((intro w hSw; obtain ⟨e1, e2⟩ := hSw; go_simp) <;> with_reducible rfl)
     (try simp only [Act.put, List.setIfInBounds_toArray, List.set_cons_zero, List.set_cons_succ])
     refine tk 5 (oi := ({ dst := some 28, op := .move (.tmp 5), type := 3, pos := "ref.go:67", after := #[], guard := none } : Oper)) (v := ?v5_6a) ?hy5_6a ?re5_6a
     case hy5_6a => ((intro w hSw; obtain ⟨e1, e2⟩ := hSw; go_simp) <;> with_reducible rfl)
     (try simp only [Act.put, List.setIfInBounds_toArray, List.set_cons_zero, List.set_cons_succ])
     refine tk 6 (oi := ({ dst := some 29, op := .indexAddr 40 (.tmp 27) (.tmp 28), type := 0, pos := "ref.go:67", after := #[⟨4, .data⟩, ⟨5, .data⟩], guard := none } : Oper)) (v := ?v6_7a) ?hy6_7a ?re6_7a
     case hy6_7a => ((intro w hSw; obtain ⟨e1, e2⟩ := hSw; go_simp) <;> with_reducible rfl)
     (try simp only [Act.put, List.setIfInBounds_toArray, List.set_cons_zero, List.set_cons_succ])
     refine tk 7 (oi := ({ dst := some 30, op := .load 3 (.tmp 29), type := 3, pos := "ref.go:67", after := #[⟨6, .data⟩], guard := none } : Oper)) (v := ?v7_8a) ?hy7_8a ?re7_8a
     case hy7_8a => ((intro w hSw; obtain ⟨e1, e2⟩ := hSw; go_simp) <;> with_reducible rfl)
     (try simp only [Act.put, List.setIfInBounds_toArray, List.set_cons_zero, List.set_cons_succ])
     refine tk 8 (oi := ({ dst := some 31, op := .binOp .neq 3 (.tmp 26) (.tmp 30) 3, type := 4, pos := "ref.go:67", after := #[⟨3, .data⟩, ⟨7, .data⟩], guard := none } : Oper)) (v := ?v8_9a) ?hy8_9a ?re8_9a
     case hy8_9a => ((intro w hSw; obtain ⟨e1, e2⟩ := hSw; go_simp) <;> with_reducible rfl)
     (try simp only [Act.put, List.setIfInBounds_toArray, List.set_cons_zero, List.set_cons_succ])
     refine wpAnyH_done (by kernel_rfl) ?_ _
     refine NoPanic.normal ?_
     go_wp2_with fail
     exact ⟨⟨i, t + 1, by omega, by go_num, HE2, rfl⟩, by simp [intOf]⟩
    ·
     have q1 : ((x : Int) == (y : Int)) = false := by rw [beq_eq_false_iff_ne, ne_eq]; omega
     have q2 : ((x : Int) != (y : Int)) = true := by rw [bne, q1]; rfl
     by_cases hlt : x < y
     ·
      have HC := Lib.hid (show cmpN (n : Int) (m : Int) = -1 by rw [cmpN, if_pos (by have := hmono (by omega); omega)])
      clear s1 s2 hx hy hmono hmono2 hE
      go_wp2_with fail
      refine wp_region_noPanic ?_
      refine wp_region_held_drew (S := fun W => W.cell? ⟨b1, o1 + i, none⟩ = some (.int .i64 (x : Int)) ∧ W.cell? ⟨b2, o2 + i, none⟩ = some (.int .i64 (y : Int))) (by kernel_rfl) ?_ (fun hHeld => ?_)
      ·
       exact ⟨x1, y1⟩
      refine tk 0 (oi := ({ dst := some 23, op := .move (.tmp 0), type := 40, pos := "ref.go:67", after := #[], guard := none } : Oper)) (v := ?v0_1b) ?hy0_1b ?re0_1b
      case hy0_1b => ((intro w hSw; obtain ⟨e1, e2⟩ := hSw; go_simp) <;> with_reducible rfl)
      (try simp only [Act.put, List.setIfInBounds_toArray, List.set_cons_zero, List.set_cons_succ])
      refine tk 1 (oi := ({ dst := some 24, op := .move (.tmp 5), type := 3, pos := "ref.go:67", after := #[], guard := none } : Oper)) (v := ?v1_2b) ?hy1_2b ?re1_2b
      case hy1_2b => ((intro w hSw; obtain ⟨e1, e2⟩ := hSw; go_simp) <;> with_reducible rfl)
      (try simp only [Act.put, List.setIfInBounds_toArray, List.set_cons_zero, List.set_cons_succ])
      refine tk 2 (oi := ({ dst := some 25, op := .indexAddr 40 (.tmp 23) (.tmp 24), type := 0, pos := "ref.go:67", after := #[⟨0, .data⟩, ⟨1, .data⟩], guard := none } : Oper)) (v := ?v2_3b) ?hy2_3b ?re2_3b
      case hy2_3b => ((intro w hSw; obtain ⟨e1, e2⟩ := hSw; go_simp) <;> with_reducible rfl)
      (try simp only [Act.put, List.setIfInBounds_toArray, List.set_cons_zero, List.set_cons_succ])
      refine tk 3 (oi := ({ dst := some 26, op := .load 3 (.tmp 25), type := 3, pos := "ref.go:67", after := #[⟨2, .data⟩], guard := none } : Oper)) (v := ?v3_4b) ?hy3_4b ?re3_4b
      case hy3_4b => ((intro w hSw; obtain ⟨e1, e2⟩ := hSw; go_simp) <;> with_reducible rfl)
      (try simp only [Act.put, List.setIfInBounds_toArray, List.set_cons_zero, List.set_cons_succ])
      refine tk 4 (oi := ({ dst := some 27, op := .move (.tmp 1), type := 40, pos := "ref.go:67", after := #[], guard := none } : Oper)) (v := ?v4_5b) ?hy4_5b ?re4_5b
      case hy4_5b => ((intro w hSw; obtain ⟨e1, e2⟩ := hSw; go_simp) <;> with_reducible rfl)
      (try simp only [Act.put, List.setIfInBounds_toArray, List.set_cons_zero, List.set_cons_succ])
      refine tk 5 (oi := ({ dst := some 28, op := .move (.tmp 5), type := 3, pos := "ref.go:67", after := #[], guard := none } : Oper)) (v := ?v5_6b) ?hy5_6b ?re5_6b
      case hy5_6b => ((intro w hSw; obtain ⟨e1, e2⟩ := hSw; go_simp) <;> with_reducible rfl)
      (try simp only [Act.put, List.setIfInBounds_toArray, List.set_cons_zero, List.set_cons_succ])
      refine tk 6 (oi := ({ dst := some 29, op := .indexAddr 40 (.tmp 27) (.tmp 28), type := 0, pos := "ref.go:67", after := #[⟨4, .data⟩, ⟨5, .data⟩], guard := none } : Oper)) (v := ?v6_7b) ?hy6_7b ?re6_7b
      case hy6_7b => ((intro w hSw; obtain ⟨e1, e2⟩ := hSw; go_simp) <;> with_reducible rfl)
      (try simp only [Act.put, List.setIfInBounds_toArray, List.set_cons_zero, List.set_cons_succ])
      refine tk 7 (oi := ({ dst := some 30, op := .load 3 (.tmp 29), type := 3, pos := "ref.go:67", after := #[⟨6, .data⟩], guard := none } : Oper)) (v := ?v7_8b) ?hy7_8b ?re7_8b
      case hy7_8b => ((intro w hSw; obtain ⟨e1, e2⟩ := hSw; go_simp) <;> with_reducible rfl)
      (try simp only [Act.put, List.setIfInBounds_toArray, List.set_cons_zero, List.set_cons_succ])
      refine tk 8 (oi := ({ dst := some 31, op := .binOp .neq 3 (.tmp 26) (.tmp 30) 3, type := 4, pos := "ref.go:67", after := #[⟨3, .data⟩, ⟨7, .data⟩], guard := none } : Oper)) (v := ?v8_9b) ?hy8_9b ?re8_9b
      case hy8_9b => ((intro w hSw; obtain ⟨e1, e2⟩ := hSw; go_simp) <;> with_reducible rfl)
      (try simp only [Act.put, List.setIfInBounds_toArray, List.set_cons_zero, List.set_cons_succ])
      refine wpAnyH_done (by kernel_rfl) ?_ _
      refine NoPanic.normal ?_
      go_wp2_with fail
      refine wp_region_noPanic ?_
      refine wp_region_held_drew (S := fun W => W.cell? ⟨b1, o1 + i, none⟩ = some (.int .i64 (x : Int)) ∧ W.cell? ⟨b2, o2 + i, none⟩ = some (.int .i64 (y : Int))) (by kernel_rfl) ?_ (fun hHeld => ?_)
      ·
       exact ⟨x1, y1⟩
      refine tk 0 (oi := ({ dst := some 32, op := .move (.tmp 0), type := 40, pos := "ref.go:68", after := #[], guard := none } : Oper)) (v := ?v0_1c) ?hy0_1c ?re0_1c
      case hy0_1c => ((intro w hSw; obtain ⟨e1, e2⟩ := hSw; go_simp) <;> with_reducible rfl)
      (try simp only [Act.put, List.setIfInBounds_toArray, List.set_cons_zero, List.set_cons_succ])
      refine tk 1 (oi := ({ dst := some 33, op := .move (.tmp 5), type := 3, pos := "ref.go:68", after := #[], guard := none } : Oper)) (v := ?v1_2c) ?hy1_2c ?re1_2c
      case hy1_2c => ((intro w hSw; obtain ⟨e1, e2⟩ := hSw; go_simp) <;> with_reducible rfl)
      (try simp only [Act.put, List.setIfInBounds_toArray, List.set_cons_zero, List.set_cons_succ])
      refine tk 2 (oi := ({ dst := some 34, op := .indexAddr 40 (.tmp 32) (.tmp 33), type := 0, pos := "ref.go:68", after := #[⟨0, .data⟩, ⟨1, .data⟩], guard := none } : Oper)) (v := ?v2_3c) ?hy2_3c ?re2_3c
      case hy2_3c => ((intro w hSw; obtain ⟨e1, e2⟩ := hSw; go_simp) <;> with_reducible rfl)
      (try simp only [Act.put, List.setIfInBounds_toArray, List.set_cons_zero, List.set_cons_succ])
      refine tk 3 (oi := ({ dst := some 35, op := .load 3 (.tmp 34), type := 3, pos := "ref.go:68", after := #[⟨2, .data⟩], guard := none } : Oper)) (v := ?v3_4c) ?hy3_4c ?re3_4c
      case hy3_4c => ((intro w hSw; obtain ⟨e1, e2⟩ := hSw; go_simp) <;> with_reducible rfl)
      (try simp only [Act.put, List.setIfInBounds_toArray, List.set_cons_zero, List.set_cons_succ])
      refine tk 4 (oi := ({ dst := some 36, op := .move (.tmp 1), type := 40, pos := "ref.go:68", after := #[], guard := none } : Oper)) (v := ?v4_5c) ?hy4_5c ?re4_5c
      case hy4_5c => ((intro w hSw; obtain ⟨e1, e2⟩ := hSw; go_simp) <;> with_reducible rfl)
      (try simp only [Act.put, List.setIfInBounds_toArray, List.set_cons_zero, List.set_cons_succ])
      refine tk 5 (oi := ({ dst := some 37, op := .move (.tmp 5), type := 3, pos := "ref.go:68", after := #[], guard := none } : Oper)) (v := ?v5_6c) ?hy5_6c ?re5_6c
      case hy5_6c => ((intro w hSw; obtain ⟨e1, e2⟩ := hSw; go_simp) <;> with_reducible rfl)
      (try simp only [Act.put, List.setIfInBounds_toArray, List.set_cons_zero, List.set_cons_succ])
      refine tk 6 (oi := ({ dst := some 38, op := .indexAddr 40 (.tmp 36) (.tmp 37), type := 0, pos := "ref.go:68", after := #[⟨4, .data⟩, ⟨5, .data⟩], guard := none } : Oper)) (v := ?v6_7c) ?hy6_7c ?re6_7c
      case hy6_7c => ((intro w hSw; obtain ⟨e1, e2⟩ := hSw; go_simp) <;> with_reducible rfl)
      (try simp only [Act.put, List.setIfInBounds_toArray, List.set_cons_zero, List.set_cons_succ])
      refine tk 7 (oi := ({ dst := some 39, op := .load 3 (.tmp 38), type := 3, pos := "ref.go:68", after := #[⟨6, .data⟩], guard := none } : Oper)) (v := ?v7_8c) ?hy7_8c ?re7_8c
      case hy7_8c => ((intro w hSw; obtain ⟨e1, e2⟩ := hSw; go_simp) <;> with_reducible rfl)
      (try simp only [Act.put, List.setIfInBounds_toArray, List.set_cons_zero, List.set_cons_succ])
      refine tk 8 (oi := ({ dst := some 40, op := .binOp .lss 3 (.tmp 35) (.tmp 39) 3, type := 4, pos := "ref.go:68", after := #[⟨3, .data⟩, ⟨7, .data⟩], guard := none } : Oper)) (v := ?v8_9c) ?hy8_9c ?re8_9c
      case hy8_9c => ((intro w hSw; obtain ⟨e1, e2⟩ := hSw; go_simp) <;> with_reducible rfl)
      (try simp only [Act.put, List.setIfInBounds_toArray, List.set_cons_zero, List.set_cons_succ])
      refine wpAnyH_done (by kernel_rfl) ?_ _
      refine NoPanic.normal ?_
      go_wp2_with fail
      go_ret
      exact ⟨by rw [HC.out]; rfl, hBt.drew.drew⟩
     ·
      have HC := Lib.hid (show cmpN (n : Int) (m : Int) = 1 by have := hmono2 (by omega); rw [cmpN, if_neg (by omega), if_pos (by omega)])
      clear s1 s2 hx hy hmono hmono2 hE
      go_wp2_with fail
      refine wp_region_noPanic ?_
      refine wp_region_held_drew (S := fun W => W.cell? ⟨b1, o1 + i, none⟩ = some (.int .i64 (x : Int)) ∧ W.cell? ⟨b2, o2 + i, none⟩ = some (.int .i64 (y : Int))) (by kernel_rfl) ?_ (fun hHeld => ?_)
      ·
       exact ⟨x1, y1⟩
      refine tk 0 (oi := ({ dst := some 23, op := .move (.tmp 0), type := 40, pos := "ref.go:67", after := #[], guard := none } : Oper)) (v := ?v0_1d) ?hy0_1d ?re0_1d
      case hy0_1d => ((intro w hSw; obtain ⟨e1, e2⟩ := hSw; go_simp) <;> with_reducible rfl)
      (try simp only [Act.put, List.setIfInBounds_toArray, List.set_cons_zero, List.set_cons_succ])
      refine tk 1 (oi := ({ dst := some 24, op := .move (.tmp 5), type := 3, pos := "ref.go:67", after := #[], guard := none } : Oper)) (v := ?v1_2d) ?hy1_2d ?re1_2d
      case hy1_2d => ((intro w hSw; obtain ⟨e1, e2⟩ := hSw; go_simp) <;> with_reducible rfl)
      (try simp only [Act.put, List.setIfInBounds_toArray, List.set_cons_zero, List.set_cons_succ])
      refine tk 2 (oi := ({ dst := some 25, op := .indexAddr 40 (.tmp 23) (.tmp 24), type := 0, pos := "ref.go:67", after := #[⟨0, .data⟩, ⟨1, .data⟩], guard := none } : Oper)) (v := ?v2_3d) ?hy2_3d ?re2_3d
      case hy2_3d => ((intro w hSw; obtain ⟨e1, e2⟩ := hSw; go_simp) <;> with_reducible rfl)
      (try simp only [Act.put, List.setIfInBounds_toArray, List.set_cons_zero, List.set_cons_succ])
      refine tk 3 (oi := ({ dst := some 26, op := .load 3 (.tmp 25), type := 3, pos := "ref.go:67", after := #[⟨2, .data⟩], guard := none } : Oper)) (v := ?v3_4d) ?hy3_4d ?re3_4d
      case hy3_4d => ((intro w hSw; obtain ⟨e1, e2⟩ := hSw; go_simp) <;> with_reducible rfl)
      (try simp only [Act.put, List.setIfInBounds_toArray, List.set_cons_zero, List.set_cons_succ])
      refine tk 4 (oi := ({ dst := some 27, op := .move (.tmp 1), type := 40, pos := "ref.go:67", after := #[], guard := none } : Oper)) (v := ?v4_5d) ?hy4_5d ?re4_5d
      case hy4_5d => ((intro w hSw; obtain ⟨e1, e2⟩ := hSw; go_simp) <;> with_reducible rfl)
      (try simp only [Act.put, List.setIfInBounds_toArray, List.set_cons_zero, List.set_cons_succ])
      refine tk 5 (oi := ({ dst := some 28, op := .move (.tmp 5), type := 3, pos := "ref.go:67", after := #[], guard := none } : Oper)) (v := ?v5_6d) ?hy5_6d ?re5_6d
      case hy5_6d => ((intro w hSw; obtain ⟨e1, e2⟩ := hSw; go_simp) <;> with_reducible rfl)
      (try simp only [Act.put, List.setIfInBounds_toArray, List.set_cons_zero, List.set_cons_succ])
      refine tk 6 (oi := ({ dst := some 29, op := .indexAddr 40 (.tmp 27) (.tmp 28), type := 0, pos := "ref.go:67", after := #[⟨4, .data⟩, ⟨5, .data⟩], guard := none } : Oper)) (v := ?v6_7d) ?hy6_7d ?re6_7d
      case hy6_7d => ((intro w hSw; obtain ⟨e1, e2⟩ := hSw; go_simp) <;> with_reducible rfl)
      (try simp only [Act.put, List.setIfInBounds_toArray, List.set_cons_zero, List.set_cons_succ])
      refine tk 7 (oi := ({ dst := some 30, op := .load 3 (.tmp 29), type := 3, pos := "ref.go:67", after := #[⟨6, .data⟩], guard := none } : Oper)) (v := ?v7_8d) ?hy7_8d ?re7_8d
      case hy7_8d => ((intro w hSw; obtain ⟨e1, e2⟩ := hSw; go_simp) <;> with_reducible rfl)
      (try simp only [Act.put, List.setIfInBounds_toArray, List.set_cons_zero, List.set_cons_succ])
      refine tk 8 (oi := ({ dst := some 31, op := .binOp .neq 3 (.tmp 26) (.tmp 30) 3, type := 4, pos := "ref.go:67", after := #[⟨3, .data⟩, ⟨7, .data⟩], guard := none } : Oper)) (v := ?v8_9d) ?hy8_9d ?re8_9d
      case hy8_9d => ((intro w hSw; obtain ⟨e1, e2⟩ := hSw; go_simp) <;> with_reducible rfl)
      (try simp only [Act.put, List.setIfInBounds_toArray, List.set_cons_zero, List.set_cons_succ])
      refine wpAnyH_done (by kernel_rfl) ?_ _
      refine NoPanic.normal ?_
      go_wp2_with fail
      refine wp_region_noPanic ?_
      refine wp_region_held_drew (S := fun W => W.cell? ⟨b1, o1 + i, none⟩ = some (.int .i64 (x : Int)) ∧ W.cell? ⟨b2, o2 + i, none⟩ = some (.int .i64 (y : Int))) (by kernel_rfl) ?_ (fun hHeld => ?_)
      ·
       exact ⟨x1, y1⟩
      refine tk 0 (oi := ({ dst := some 32, op := .move (.tmp 0), type := 40, pos := "ref.go:68", after := #[], guard := none } : Oper)) (v := ?v0_1e) ?hy0_1e ?re0_1e
      case hy0_1e => ((intro w hSw; obtain ⟨e1, e2⟩ := hSw; go_simp) <;> with_reducible rfl)
      (try simp only [Act.put, List.setIfInBounds_toArray, List.set_cons_zero, List.set_cons_succ])
      refine tk 1 (oi := ({ dst := some 33, op := .move (.tmp 5), type := 3, pos := "ref.go:68", after := #[], guard := none } : Oper)) (v := ?v1_2e) ?hy1_2e ?re1_2e
      case hy1_2e => ((intro w hSw; obtain ⟨e1, e2⟩ := hSw; go_simp) <;> with_reducible rfl)
      (try simp only [Act.put, List.setIfInBounds_toArray, List.set_cons_zero, List.set_cons_succ])
      refine tk 2 (oi := ({ dst := some 34, op := .indexAddr 40 (.tmp 32) (.tmp 33), type := 0, pos := "ref.go:68", after := #[⟨0, .data⟩, ⟨1, .data⟩], guard := none } : Oper)) (v := ?v2_3e) ?hy2_3e ?re2_3e
      case hy2_3e => ((intro w hSw; obtain ⟨e1, e2⟩ := hSw; go_simp) <;> with_reducible rfl)
      (try simp only [Act.put, List.setIfInBounds_toArray, List.set_cons_zero, List.set_cons_succ])
      refine tk 3 (oi := ({ dst := some 35, op := .load 3 (.tmp 34), type := 3, pos := "ref.go:68", after := #[⟨2, .data⟩], guard := none } : Oper)) (v := ?v3_4e) ?hy3_4e ?re3_4e
      case hy3_4e => ((intro w hSw; obtain ⟨e1, e2⟩ := hSw; go_simp) <;> with_reducible rfl)
      (try simp only [Act.put, List.setIfInBounds_toArray, List.set_cons_zero, List.set_cons_succ])
      refine tk 4 (oi := ({ dst := some 36, op := .move (.tmp 1), type := 40, pos := "ref.go:68", after := #[], guard := none } : Oper)) (v := ?v4_5e) ?hy4_5e ?re4_5e
      case hy4_5e => ((intro w hSw; obtain ⟨e1, e2⟩ := hSw; go_simp) <;> with_reducible rfl)
      (try simp only [Act.put, List.setIfInBounds_toArray, List.set_cons_zero, List.set_cons_succ])
      refine tk 5 (oi := ({ dst := some 37, op := .move (.tmp 5), type := 3, pos := "ref.go:68", after := #[], guard := none } : Oper)) (v := ?v5_6e) ?hy5_6e ?re5_6e
      case hy5_6e => ((intro w hSw; obtain ⟨e1, e2⟩ := hSw; go_simp) <;> with_reducible rfl)
      (try simp only [Act.put, List.setIfInBounds_toArray, List.set_cons_zero, List.set_cons_succ])
      refine tk 6 (oi := ({ dst := some 38, op := .indexAddr 40 (.tmp 36) (.tmp 37), type := 0, pos := "ref.go:68", after := #[⟨4, .data⟩, ⟨5, .data⟩], guard := none } : Oper)) (v := ?v6_7e) ?hy6_7e ?re6_7e
      case hy6_7e => ((intro w hSw; obtain ⟨e1, e2⟩ := hSw; go_simp) <;> with_reducible rfl)
      (try simp only [Act.put, List.setIfInBounds_toArray, List.set_cons_zero, List.set_cons_succ])
      refine tk 7 (oi := ({ dst := some 39, op := .load 3 (.tmp 38), type := 3, pos := "ref.go:68", after := #[⟨6, .data⟩], guard := none } : Oper)) (v := ?v7_8e) ?hy7_8e ?re7_8e
      case hy7_8e => ((intro w hSw; obtain ⟨e1, e2⟩ := hSw; go_simp) <;> with_reducible rfl)
      (try simp only [Act.put, List.setIfInBounds_toArray, List.set_cons_zero, List.set_cons_succ])
      refine tk 8 (oi := ({ dst := some 40, op := .binOp .lss 3 (.tmp 35) (.tmp 39) 3, type := 4, pos := "ref.go:68", after := #[⟨3, .data⟩, ⟨7, .data⟩], guard := none } : Oper)) (v := ?v8_9e) ?hy8_9e ?re8_9e
      case hy8_9e => ((intro w hSw; obtain ⟨e1, e2⟩ := hSw; go_simp) <;> with_reducible rfl)
      (try simp only [Act.put, List.setIfInBounds_toArray, List.set_cons_zero, List.set_cons_succ])
      refine wpAnyH_done (by kernel_rfl) ?_ _
      refine NoPanic.normal ?_
      go_wp2_with fail
      go_ret
      exact ⟨by rw [HC.out]; rfl, hBt.drew.drew⟩
 ·
  have hc : cmpN (n : Int) (m : Int) = 1 := by have := hlt2 hpq; rw [cmpN, if_neg (by omega), if_pos (by omega)]
  rw [hc]
  have q1 : ((p : Int) == (q : Int)) = false := by rw [beq_eq_false_iff_ne, ne_eq]; omega
  have q2 : ((p : Int) != (q : Int)) = true := by rw [bne, q1]; rfl
  clear h1 h2 hp hq hc hlt1 hlt2
  go_enter Tryz.func120, Tryz.ntmps120
  go_wp2
  go_ret
  exact ⟨rfl, Below.refl _ _⟩
theorem vlX_snoc (l : List Int) (x : Int) : vlX (l ++ [x]) = vlX l + 10 ^ l.length * x := by rw [vlX_append, vlX, vlX, Int.mul_zero, Int.add_zero]
theorem low_of {l : List Int} {i X T : Nat} (h : vlX l + 10 ^ i * (X : Int) = (T : Int)) (hd : DigX l) (hX : 1 ≤ X) : 10 ^ i ≤ T := by
 have g1 := vlX_nonneg hd
 have g2 : 10 ^ i * 1 ≤ 10 ^ i * X := Nat.mul_le_mul_left _ hX
 have g3 : ((10 ^ i * X : Nat) : Int) = 10 ^ i * (X : Int) := by rw [Int.natCast_mul, Int.natCast_pow]; rfl
 omega
theorem step_plus {n m i c N : Nat} {l : List Int} {T : Int} (hl : l.length = i) (h : vlX l + 10 ^ i * (((c + n / 10 ^ i + m / 10 ^ i : Nat)) : Int) = T) (hN : N = c + (n / 10 ^ i) % 10 + (m / 10 ^ i) % 10) :
  vlX (l ++ [((N : Int) % 10)]) + 10 ^ (i + 1) * (((N / 10 + n / 10 ^ (i + 1) + m / 10 ^ (i + 1) : Nat)) : Int) = T := by
 have s1 := gx_step n i
 have s2 := gx_step m i
 rw [vlX_snoc, hl, ← h, Int.add_assoc, Int.pow_succ, Int.mul_assoc, ← Int.mul_add]
 congr 2
 generalize n / 10 ^ (i + 1) = n1 at *
 generalize m / 10 ^ (i + 1) = m1 at *
 generalize n / 10 ^ i = n0 at *
 generalize m / 10 ^ i = m0 at *
 omega
set_option maxRecDepth 100000 in
set_option maxHeartbeats 2000000 in
theorem rplus_any (n m : Nat) (v1 v2 : Value) (w : World) (hl1 : (grpX n).length ≤ 20000) (hl2 : (grpX m).length ≤ 20000) (h1 : XSl w v1 n) (h2 : XSl w v2 m) :
  Calls Tryz.prog 117 #[v1, v2] w fun e w' => ∃ v, e = .returned v ∧ XSl w' v (n + m) ∧ Below w.heap.size w w' := by
 obtain ⟨a1, c1, rfl⟩ := h1.form
 obtain ⟨a2, c2, rfl⟩ := h2.form
 obtain ⟨p, hp⟩ : ∃ p, (grpX n).length = p := ⟨_, rfl⟩
 obtain ⟨q, hq⟩ : ∃ q, (grpX m).length = q := ⟨_, rfl⟩
 rw [hp] at h1 hl1 ⊢
 rw [hq] at h2 hl2 ⊢
 have H1 := Lib.hid h1
 have H2 := Lib.hid h2
 have HP := Lib.hid hp
 have HQ := Lib.hid hq
 obtain ⟨i0, hi, hz0, hz1, hz2⟩ := info_parts info_int
 have HZ2 := Lib.hid hz2
 clear h1 h2 hp hq hz2
 go_enter Tryz.func117, Tryz.ntmps117
 go_wp2
 go_loopw [5, 6, 7] (fun ov cv iv wr => ∃ (i c : Nat) (ad : Option Addr) (cp : Nat), ov = .slice ad i cp ∧ cv = .int .i64 (c : Int) ∧ iv = .int .i64 (i : Int) ∧ i ≤ max p q + 1 ∧ Hid (∃ l, wr.ownsRow w.heap.size 3 1 ov i (ints l) ∧ DigX l ∧ l.length = i ∧ vlX l + 10 ^ i * (((c + n / 10 ^ i + m / 10 ^ i : Nat)) : Int) = ((n + m : Nat) : Int) ∧ (i = 0 ∨ 10 ^ (i - 1) ≤ n + m) ∧ c ≤ 1 ∧ (max p q < i → c = 0)) ∧ Below w.heap.size w wr) (fun _ _ iv _ => max p q + 1 - (intOf iv).toNat)
 case atStart => exact ⟨0, 0, _, _, rfl, rfl, rfl, Nat.zero_le _, Lib.hid ⟨[], ⟨rfl, .inl ⟨rfl, rfl⟩⟩, digX_nil, rfl, by simp [vlX], .inl rfl, by omega, fun h => rfl⟩, Below.refl _ _⟩
 case round =>
  obtain ⟨i, c, ad, cp, rfl, rfl, rfl, hi9, hI, hB⟩ := hrel
  obtain ⟨l, k1, k2, k3, k4, k5, k6, k7⟩ := hI.out
  clear hI
  have hW1 := H1.out.below hB
  have hW2 := H2.out.below hB
  obtain ⟨b1, o1, r1⟩ := hW1.at HP.out
  obtain ⟨b2, o2, r2⟩ := hW2.at HQ.out
  have R1 := Lib.hid r1
  have R2 := Lib.hid r2
  clear hW1 hW2 r1 r2
  have e1 : ¬ i < p → n / 10 ^ i = 0 := fun h => gx_end (by rw [HP.out]; omega)
  have e2 : ¬ i < q → m / 10 ^ i = 0 := fun h => gx_end (by rw [HQ.out]; omega)
  have HOB := Lib.hid (show ∀ z, (Value.slice ad i cp).ownBlock = some z → w.heap.size ≤ z from fun z hz => own_block k1 hz)
  by_cases ht : i < p ∨ i < q ∨ 0 < c
  ·
   obtain ⟨N, hN⟩ : ∃ N, N = c + (n / 10 ^ i) % 10 + (m / 10 ^ i) % 10 := ⟨_, rfl⟩
   have k4' := step_plus k3 k4 hN
   have hlow : 10 ^ i ≤ n + m := by
    rcases ht with h | h | h
    ·
     have := (gx_len n i).1 (by rw [HP.out]; exact h); omega
    ·
     have := (gx_len m i).1 (by rw [HQ.out]; exact h); omega
    ·
     exact low_of k4 k2 (Nat.le_trans (show 1 ≤ c from h) (by rw [Nat.add_assoc]; exact Nat.le_add_right _ _))
   have hi8 : i ≤ max p q := by
    rcases Nat.lt_or_ge (max p q) i with g | g
    ·
     have := k7 g; omega
    ·
     exact g
   have hN9 : N ≤ 19 := by omega
   have hcz : max p q < i + 1 → N / 10 = 0 := fun h => by
    have := e1 (by omega); have := e2 (by omega); omega
   have hNX := Lib.hid (And.intro k4' (And.intro hlow hcz))
   have HO := Lib.hid (k1.alloc (.cells #[.int .i64 ((N : Int) % 10)] 3))
   have HO3 := Lib.hid (show ∀ (w3 : World) (v3 : Value), w3.ownsRow w.heap.size 3 1 v3 (i + 1) (ints l ++ [.int .i64 ((N : Int) % 10)]) → w3.ownsRow w.heap.size 3 1 v3 (i + 1) (ints (l ++ [((N : Int) % 10)])) from fun w3 v3 h => by simpa [ints] using h)
   have HBA := Lib.hid (hB.alloc hB.size (.cells #[.int .i64 ((N : Int) % 10)] 3))
   have HD := Lib.hid (And.intro k2 k3)
   have hN0 : 0 ≤ (N : Int) := by omega
   clear k1 k2 k3 k4 k5 k6 k7 k4' hlow hcz hB
   by_cases hip : i < p
   ·
    obtain ⟨rfl, x1, x2⟩ := R1.out i hip
    by_cases hiq : i < q
    ·
     obtain ⟨rfl, y1, y2⟩ := R2.out i hiq
     obtain ⟨x, hx⟩ : ∃ x, (n / 10 ^ i) % 10 = x := ⟨_, rfl⟩
     obtain ⟨y, hy⟩ : ∃ y, (m / 10 ^ i) % 10 = y := ⟨_, rfl⟩
     rw [hx] at x1 hN
     rw [hy] at y1 hN
     have hs : (c : Int) + (x : Int) + (y : Int) = (N : Int) := by omega
     have hx9 : x < 10 := by omega
     have hy9 : y < 10 := by omega
     clear e1 e2 ht hx hy R1 R2 hN
     go_wp2_with (at_builtin; go_loud (refine wpList_append_lies _ rfl (.tmp 46) (.tmp 49) 40 rfl w.heap.size 3 i0 (.int .i64 0) 1 8 Tryz.underlying40 hi hz0 hz1 HZ2.out rfl (by decide) (.slice ad i cp) i _ rfl HO.out ⟨wr.heap.size, 0, none⟩ 1 1 [.int .i64 ((N : Int) % 10)] rfl rfl (one_newJ wr _) (by intro u hu; simp at hu; subst hu; rfl) (by decide) (by unfold maxLen; omega) (by omega) HBA.out.size _ rfl ?_; intro g2 cap2 w3 hown3 hgrow _ _; have HOW := Lib.hid (HO3.out w3 _ hown3); have HB3 := Lib.hid (HBA.out.grown hgrow HBA.out.size (fun q hq => HOB.out q hq)); clear hown3 hgrow))
     exact ⟨⟨i + 1, N / 10, _, _, rfl, by go_num, by go_num, by omega, Lib.hid ⟨_, HOW.out, HD.out.1.snoc (by omega), by rw [List.length_append, HD.out.2]; rfl, hNX.out.1, .inr hNX.out.2.1, by omega, hNX.out.2.2⟩, HB3.out⟩, by simp [intOf]; omega⟩
    ·
     obtain ⟨x, hx⟩ : ∃ x, (n / 10 ^ i) % 10 = x := ⟨_, rfl⟩
     rw [e2 hiq] at hN
     rw [hx] at x1 hN
     have hs : (c : Int) + (x : Int) = (N : Int) := by omega
     have hx9 : x < 10 := by omega
     clear e1 e2 ht hx R1 R2 hN
     go_wp2_with (at_builtin; go_loud (refine wpList_append_lies _ rfl (.tmp 46) (.tmp 49) 40 rfl w.heap.size 3 i0 (.int .i64 0) 1 8 Tryz.underlying40 hi hz0 hz1 HZ2.out rfl (by decide) (.slice ad i cp) i _ rfl HO.out ⟨wr.heap.size, 0, none⟩ 1 1 [.int .i64 ((N : Int) % 10)] rfl rfl (one_newJ wr _) (by intro u hu; simp at hu; subst hu; rfl) (by decide) (by unfold maxLen; omega) (by omega) HBA.out.size _ rfl ?_; intro g2 cap2 w3 hown3 hgrow _ _; have HOW := Lib.hid (HO3.out w3 _ hown3); have HB3 := Lib.hid (HBA.out.grown hgrow HBA.out.size (fun q hq => HOB.out q hq)); clear hown3 hgrow))
     exact ⟨⟨i + 1, N / 10, _, _, rfl, by go_num, by go_num, by omega, Lib.hid ⟨_, HOW.out, HD.out.1.snoc (by omega), by rw [List.length_append, HD.out.2]; rfl, hNX.out.1, .inr hNX.out.2.1, by omega, hNX.out.2.2⟩, HB3.out⟩, by simp [intOf]; omega⟩
   ·
    by_cases hiq : i < q
    ·
     obtain ⟨rfl, y1, y2⟩ := R2.out i hiq
     obtain ⟨y, hy⟩ : ∃ y, (m / 10 ^ i) % 10 = y := ⟨_, rfl⟩
     rw [e1 hip] at hN
     rw [hy] at y1 hN
     have hs : (c : Int) + (y : Int) = (N : Int) := by omega
     have hy9 : y < 10 := by omega
     clear e1 e2 ht hy R1 R2 hN
     go_wp2_with (at_builtin; go_loud (refine wpList_append_lies _ rfl (.tmp 46) (.tmp 49) 40 rfl w.heap.size 3 i0 (.int .i64 0) 1 8 Tryz.underlying40 hi hz0 hz1 HZ2.out rfl (by decide) (.slice ad i cp) i _ rfl HO.out ⟨wr.heap.size, 0, none⟩ 1 1 [.int .i64 ((N : Int) % 10)] rfl rfl (one_newJ wr _) (by intro u hu; simp at hu; subst hu; rfl) (by decide) (by unfold maxLen; omega) (by omega) HBA.out.size _ rfl ?_; intro g2 cap2 w3 hown3 hgrow _ _; have HOW := Lib.hid (HO3.out w3 _ hown3); have HB3 := Lib.hid (HBA.out.grown hgrow HBA.out.size (fun q hq => HOB.out q hq)); clear hown3 hgrow))
     exact ⟨⟨i + 1, N / 10, _, _, rfl, by go_num, by go_num, by omega, Lib.hid ⟨_, HOW.out, HD.out.1.snoc (by omega), by rw [List.length_append, HD.out.2]; rfl, hNX.out.1, .inr hNX.out.2.1, by omega, hNX.out.2.2⟩, HB3.out⟩, by simp [intOf]; omega⟩
    ·
     rw [e1 hip, e2 hiq] at hN
     have hc0 : 0 < c := by omega
     obtain rfl : N = c := by omega
     clear e1 e2 ht R1 R2 hN
     go_wp2_with (at_builtin; go_loud (refine wpList_append_lies _ rfl (.tmp 46) (.tmp 49) 40 rfl w.heap.size 3 i0 (.int .i64 0) 1 8 Tryz.underlying40 hi hz0 hz1 HZ2.out rfl (by decide) (.slice ad i cp) i _ rfl HO.out ⟨wr.heap.size, 0, none⟩ 1 1 [.int .i64 ((N : Int) % 10)] rfl rfl (one_newJ wr _) (by intro u hu; simp at hu; subst hu; rfl) (by decide) (by unfold maxLen; omega) (by omega) HBA.out.size _ rfl ?_; intro g2 cap2 w3 hown3 hgrow _ _; have HOW := Lib.hid (HO3.out w3 _ hown3); have HB3 := Lib.hid (HBA.out.grown hgrow HBA.out.size (fun q hq => HOB.out q hq)); clear hown3 hgrow))
     exact ⟨⟨i + 1, N / 10, _, _, rfl, by go_num, by go_num, by omega, Lib.hid ⟨_, HOW.out, HD.out.1.snoc (by omega), by rw [List.length_append, HD.out.2]; rfl, hNX.out.1, .inr hNX.out.2.1, by omega, hNX.out.2.2⟩, HB3.out⟩, by simp [intOf]; omega⟩
  ·
   have hp0 := e1 (by omega)
   have hq0 := e2 (by omega)
   obtain rfl : c = 0 := by omega
   have hip : ¬ i < p := by omega
   have hiq : ¬ i < q := by omega
   have HR := Lib.hid (show ∀ W, Below wr.heap.size wr W → XSl W (.slice ad i cp) (n + m) from fun W hW => by
    rw [hp0, hq0] at k4
    have hx := gx_of (n := n + m) k2 (by rw [← k4]; simp) (k5.elim (fun g => .inl (List.length_eq_zero_iff.1 (by omega))) (fun g => .inr (by rw [k3]; exact g)))
    refine XSl.below ?_ hW
    rw [XSl, ← hx]
    by_cases h0 : 0 < i
    ·
     obtain ⟨g, cap, hsl, hgb, hA, hc1, hc2⟩ := own_ints k1 h0
     simp only [Value.slice.injEq] at hsl
     obtain ⟨rfl, _, rfl⟩ := hsl
     exact ABlk.sl (S := []) (by simpa using hA) k3 hc1 hc2
    ·
     exact .inl ⟨ad, cp, by rw [show i = 0 by omega], List.length_eq_zero_iff.1 (by omega)⟩)
   clear k1 k2 k3 k4 k5 k6 k7 e1 e2 ht hp0 hq0
   go_wp2
   go_ret
   exact ⟨_, rfl, HR.out _ (Below.refl _ _), hB⟩
theorem vld_nodig {L : List UInt8} {i : Nat} {c : UInt8} (h : (bare L)[i]? = some c) (hc : ¬ (48 ≤ c.toNat ∧ c.toNat ≤ 57)) : vld L = false := by
 cases hv : vld L
 ·
  rfl
 ·
  have := (vld_digits hv).1
  have h2 := (isDg_iff c).1 (List.all_eq_true.1 this c (List.mem_of_getElem? h))
  exact absurd h2 hc
theorem vld_all {L : List UInt8} (h : (bare L).all isDg = true) (h48 : (bare L).head? ≠ some 48) : vld L = decide (0 < (bare L).length ∧ (bare L).length ≤ 200) := by
 rw [vld, if_neg h48, h, Bool.and_true]
theorem vld_zero {L : List UInt8} (h48 : (bare L).head? = some 48) (hL : L ≠ [48]) : vld L = false := by
 rw [vld, if_pos h48, decide_eq_false hL, Bool.and_false]
theorem all_upto {L : List UInt8} {i : Nat} (h : ∀ j c, j < i → L[j]? = some c → isDg c = true) (hi : L.length ≤ i) : L.all isDg = true := by
 rw [List.all_eq_true]
 intro c hc
 obtain ⟨j, hj, rfl⟩ := List.getElem_of_mem hc
 exact h j _ (by omega) (List.getElem?_eq_getElem hj)
theorem bytes_at {t : ByteArray} {l : List UInt8} {j : Nat} {c : UInt8} (e : t.data.toList = l) (h : l[j]? = some c) (hj : j < t.size) : t[j] = c := by
 have h1 : t.data[j]? = some c := by rw [← Array.getElem?_toList, e]; exact h
 exact (Array.getElem?_eq_some_iff.1 h1).2
set_option maxRecDepth 100000 in
set_option maxHeartbeats 2000000 in
theorem rValid_any (s : ByteArray) (L : List UInt8) (w : World) (hL : s.data.toList = L) (hz : L.length ≤ 60000) :
  Calls Tryz.prog 73 #[.string s] w fun e w' => e = .returned (.bool (vld L)) ∧ w = w' := by
 have hs := bytes_size hL
 by_cases h : L.head? = some 45
 ·
  obtain ⟨D, rfl⟩ : ∃ l, L = 45 :: l := by
   cases L with
   | nil => simp at h
   | cons x l => simp at h; exact ⟨l, by rw [h]⟩
  have ht := bytes_tail' hL
  rw [List.length_cons] at hs hz
  rw [hs] at ht
  have h4 : (1 : Int) ≤ (s.size : Int) := by omega
  have hg0 := fun h : 0 < s.size => bytes_at (j := 0) hL rfl h
  obtain ⟨d, hd⟩ : ∃ d : ByteArray, d = ⟨D.toArray⟩ := ⟨_, rfl⟩
  have hdl : d.data.toList = D := by rw [hd]
  rw [← hd] at ht
  have hds := bytes_size hdl
  obtain ⟨n, hn⟩ : ∃ n, D.length = n := ⟨_, rfl⟩
  rw [hn] at hds hs hz ht
  have HD := Lib.hid (And.intro hdl hn)
  obtain ⟨L, hLe⟩ : ∃ L, L = 45 :: D := ⟨_, rfl⟩
  have HB := Lib.hid (show bare L = D by rw [hLe]; simp [bare])
  have HL48 : L ≠ [48] := by rw [hLe]; simp
  rw [← hLe]
  by_cases h0 : D = [48]
  ·
   have hF := Lib.hid (show vld L = false from vld_zero (by rw [HB.out, h0]; rfl) HL48)
   have ht0 : (d.toList == [48]) = true := by rw [ByteArray.toList_eq, hdl, h0]; rfl
   clear hL hd hdl hn h0 HL48 hLe h
   go_enter Tryz.func73, Tryz.ntmps73
   go_wp2
   go_ret
   exact ⟨by rw [hF.out]; rfl, rfl⟩
  ·
   have HNZ := Lib.hid h0
   have ht1 : (d.toList == [48]) = false := by rw [ByteArray.toList_eq, hdl, beq_eq_false_iff_ne]; exact h0
   clear hL hd hdl hn h0 hLe h
   go_enter Tryz.func73, Tryz.ntmps73
   go_wp2
   go_loopw [3] (fun iv wr => ∃ i : Nat, i ≤ n ∧ iv = .int .i64 (i : Int) ∧ Hid (∀ j c, j < i → D[j]? = some c → isDg c = true) ∧ w = wr) (fun iv _ => n - (intOf iv).toNat)
   case atStart => exact ⟨0, Nat.zero_le _, rfl, Lib.hid (fun j c h => absurd h (by omega)), rfl⟩
   case round =>
    obtain ⟨i, hi, rfl, hI, rfl⟩ := hrel
    by_cases hlt : i < n
    ·
     obtain ⟨c, hc⟩ : ∃ c, D[i]? = some c := ⟨_, List.getElem?_eq_getElem (by rw [HD.out.2]; exact hlt)⟩
     have hg := fun h : i < d.size => bytes_at HD.out.1 hc h
     by_cases hdg : 48 ≤ c.toNat ∧ c.toNat ≤ 57
     ·
      have hI2 := Lib.hid (show ∀ j e, j < i + 1 → D[j]? = some e → isDg e = true from fun j e hj he => by
       by_cases hji : j < i
       ·
        exact hI.out j e hji he
       ·
        obtain rfl : j = i := by omega
        rw [hc] at he; cases he
        exact (isDg_iff c).2 hdg)
      have d1 := hdg.1
      have d2 := hdg.2
      clear hI hc hdg
      go_wp2
      exact ⟨⟨i + 1, by omega, by go_num, hI2, trivial⟩, by simp [intOf]; omega⟩
     ·
      have hF := Lib.hid (show vld L = false from vld_nodig (L := L) (i := i) (c := c) (by rw [HB.out]; exact hc) hdg)
      clear hI hc
      rcases Nat.lt_or_ge c.toNat 48 with d1 | d1
      ·
       clear hdg
       go_wp2
       go_ret
       exact ⟨by rw [hF.out]; rfl, rfl⟩
      ·
       have d2 : 57 < c.toNat := by omega
       clear hdg
       go_wp2
       go_ret
       exact ⟨by rw [hF.out]; rfl, rfl⟩
    ·
     obtain rfl : i = n := by omega
     have hall := all_upto hI.out (by rw [HD.out.2]; exact Nat.le_refl _)
     by_cases h0 : i = 0
     ·
      have hF := Lib.hid (show vld L = false by rw [vld, HB.out, HD.out.2, decide_eq_false (by omega)]; rfl)
      clear hI hall
      subst h0
      go_wp2
      go_ret
      exact ⟨by rw [hF.out]; rfl, rfl⟩
     ·
      by_cases h200 : i ≤ 200
      ·
       obtain ⟨c, hc⟩ : ∃ c, D[0]? = some c := ⟨_, List.getElem?_eq_getElem (by rw [HD.out.2]; omega)⟩
       have hg := fun h : 0 < d.size => bytes_at HD.out.1 hc h
       have hh : (bare L).head? = some c := by rw [HB.out, List.head?_eq_getElem?]; exact hc
       have hi0 : 0 < i := by omega
       by_cases h48 : c = 48
       ·
        subst h48
        have hF := Lib.hid (show vld L = false from vld_zero hh HL48)
        have ht0 : (d.toList == [48]) = false := by
         rw [ByteArray.toList_eq, HD.out.1, beq_eq_false_iff_ne]; exact HNZ.out
        have hq2 : ((((48 : UInt8).toNat : Nat) : Int) != 48) = false := by decide
        clear hI hall hc hh h0
        go_wp2
        go_ret
        exact ⟨by rw [hF.out]; rfl, rfl⟩
       ·
        have hF := Lib.hid (show vld L = true by
         rw [vld_all (by rw [HB.out]; exact hall) (by rw [hh]; simpa using h48), HB.out, HD.out.2, decide_eq_true ⟨hi0, h200⟩])
        have hq : ((c.toNat : Int) == 48) = false := by
         rw [beq_eq_false_iff_ne, ne_eq]
         intro h
         exact h48 (UInt8.toNat_inj.1 (by have : c.toNat = 48 := by omega
                                          rw [this]; rfl))
        have hq2 : ((c.toNat : Int) != 48) = true := by rw [bne, hq]; rfl
        have ht0 : (d.toList == [48]) = false := by
         rw [ByteArray.toList_eq, HD.out.1, beq_eq_false_iff_ne]
         intro e; rw [e] at hc; simp at hc; exact h48 hc.symm
        clear hI hall hc hh h48 h0
        go_wp2
        go_ret
        exact ⟨by rw [hF.out]; rfl, rfl⟩
      ·
       have hF := Lib.hid (show vld L = false by rw [vld, HB.out, HD.out.2, decide_eq_false (by omega)]; rfl)
       have hi0 : 0 < i := by omega
       clear hI hall h0
       go_wp2
       go_ret
       exact ⟨by rw [hF.out]; rfl, rfl⟩
 ·
  have HB := Lib.hid (show bare L = L by rw [bare, if_neg h])
  obtain ⟨n, hn⟩ : ∃ n, L.length = n := ⟨_, rfl⟩
  rw [hn] at hs hz
  obtain ⟨D, hDe⟩ : ∃ D, L = D := ⟨_, rfl⟩
  have HLD := Lib.hid hDe
  have HD := Lib.hid (show s.data.toList = D ∧ D.length = n by rw [← hDe]; exact ⟨hL, hn⟩)
  have HB := Lib.hid (show bare L = D by rw [HB.out]; exact hDe)
  have h45 : ∀ c, D[0]? = some c → ((c.toNat : Int) == 45) = false := fun c hc => by
   rw [beq_eq_false_iff_ne, ne_eq]
   intro e
   apply h
   rw [hDe, List.head?_eq_getElem?, hc, show c = 45 from UInt8.toNat_inj.1 (by have : c.toNat = 45 := by omega
                                                                               rw [this]; rfl)]
  by_cases hn0 : n = 0
  ·
   have hs0 : s.size = 0 := by omega
   have HF0 := Lib.hid (show vld L = false by rw [vld, HB.out, HD.out.2, decide_eq_false (by omega)]; rfl)
   clear h hL hn hDe h45
   go_enter Tryz.func73, Tryz.ntmps73
   go_wp2
   go_loopw [3] (fun iv wr => iv = .int .i64 0 ∧ w = wr) (fun _ _ => 0)
   case atStart => exact ⟨rfl, rfl⟩
   case round =>
    obtain ⟨rfl, rfl⟩ := hrel
    go_wp2
    go_ret
    exact ⟨by rw [HF0.out]; rfl, rfl⟩
  ·
   have hs0 : 0 < s.size := by omega
   obtain ⟨c0, hc0⟩ : ∃ c, D[0]? = some c := ⟨_, List.getElem?_eq_getElem (by rw [HD.out.2]; omega)⟩
   have hg0 := fun h : 0 < s.size => bytes_at HD.out.1 hc0 h
   have hq0 := h45 c0 hc0
   have HC0 := Lib.hid hc0
   clear h hL hn hDe h45 hc0
   go_enter Tryz.func73, Tryz.ntmps73
   go_wp2
   go_loopw [3] (fun iv wr => ∃ i : Nat, i ≤ n ∧ iv = .int .i64 (i : Int) ∧ Hid (∀ j c, j < i → D[j]? = some c → isDg c = true) ∧ w = wr) (fun iv _ => n - (intOf iv).toNat)
   case atStart => exact ⟨0, Nat.zero_le _, rfl, Lib.hid (fun j c h => absurd h (by omega)), rfl⟩
   case round =>
    obtain ⟨i, hi, rfl, hI, rfl⟩ := hrel
    by_cases hlt : i < n
    ·
     obtain ⟨c, hc⟩ : ∃ c, D[i]? = some c := ⟨_, List.getElem?_eq_getElem (by rw [HD.out.2]; exact hlt)⟩
     have hg := fun h : i < s.size => bytes_at HD.out.1 hc h
     by_cases hdg : 48 ≤ c.toNat ∧ c.toNat ≤ 57
     ·
      have hI2 := Lib.hid (show ∀ j e, j < i + 1 → D[j]? = some e → isDg e = true from fun j e hj he => by
       by_cases hji : j < i
       ·
        exact hI.out j e hji he
       ·
        obtain rfl : j = i := by omega
        rw [hc] at he; cases he
        exact (isDg_iff c).2 hdg)
      have d1 := hdg.1
      have d2 := hdg.2
      clear hI hc hdg
      go_wp2
      exact ⟨⟨i + 1, by omega, by go_num, hI2, trivial⟩, by simp [intOf]; omega⟩
     ·
      have hF := Lib.hid (show vld L = false from vld_nodig (L := L) (i := i) (c := c) (by rw [HB.out]; exact hc) hdg)
      clear hI hc
      rcases Nat.lt_or_ge c.toNat 48 with d1 | d1
      ·
       clear hdg
       go_wp2
       go_ret
       exact ⟨by rw [hF.out]; rfl, rfl⟩
      ·
       have d2 : 57 < c.toNat := by omega
       clear hdg
       go_wp2
       go_ret
       exact ⟨by rw [hF.out]; rfl, rfl⟩
    ·
     obtain rfl : i = n := by omega
     have hall := all_upto hI.out (by rw [HD.out.2]; exact Nat.le_refl _)
     by_cases h0 : i = 0
     ·
      have hF := Lib.hid (show vld L = false by rw [vld, HB.out, HD.out.2, decide_eq_false (by omega)]; rfl)
      clear hI hall
      subst h0
      go_wp2
      go_ret
      exact ⟨by rw [hF.out]; rfl, rfl⟩
     ·
      by_cases h200 : i ≤ 200
      ·
       obtain ⟨c, hc⟩ : ∃ c, D[0]? = some c := ⟨_, List.getElem?_eq_getElem (by rw [HD.out.2]; omega)⟩
       obtain rfl : c = c0 := Option.some.inj (hc.symm.trans HC0.out)
       have hg := fun h : 0 < s.size => bytes_at HD.out.1 hc h
       have hh : (bare L).head? = some c := by rw [HB.out, List.head?_eq_getElem?]; exact hc
       have hi0 : 0 < i := by omega
       by_cases h48 : c = 48
       ·
        subst h48
        by_cases hD0 : D = [48]
        ·
         have hF := Lib.hid (show vld L = true by rw [show L = [48] from HLD.out.trans hD0]; decide)
         have ht0 : (s.toList == [48]) = true := by rw [ByteArray.toList_eq, HD.out.1, hD0]; rfl
         clear hI hall hc hh h0 hD0
         go_wp2
         go_ret
         exact ⟨by rw [hF.out]; rfl, rfl⟩
        ·
         have hF := Lib.hid (show vld L = false from vld_zero hh (by rw [HLD.out]; exact hD0))
         have ht0 : (s.toList == [48]) = false := by
          rw [ByteArray.toList_eq, HD.out.1, beq_eq_false_iff_ne]; exact hD0
         have hq2 : ((((48 : UInt8).toNat : Nat) : Int) != 48) = false := by decide
         clear hI hall hc hh h0 hD0
         go_wp2
         go_ret
         exact ⟨by rw [hF.out]; rfl, rfl⟩
       ·
        have hF := Lib.hid (show vld L = true by
         rw [vld_all (by rw [HB.out]; exact hall) (by rw [hh]; simpa using h48), HB.out, HD.out.2, decide_eq_true ⟨hi0, h200⟩])
        have hq : ((c.toNat : Int) == 48) = false := by
         rw [beq_eq_false_iff_ne, ne_eq]
         intro h
         exact h48 (UInt8.toNat_inj.1 (by have : c.toNat = 48 := by omega
                                          rw [this]; rfl))
        have hq2 : ((c.toNat : Int) != 48) = true := by rw [bne, hq]; rfl
        have ht0 : (s.toList == [48]) = false := by
         rw [ByteArray.toList_eq, HD.out.1, beq_eq_false_iff_ne]
         intro e; rw [e] at hc; simp at hc; exact h48 hc.symm
        clear hI hall hc hh h48 h0
        go_wp2
        go_ret
        exact ⟨by rw [hF.out]; rfl, rfl⟩
      ·
       have hF := Lib.hid (show vld L = false by rw [vld, HB.out, HD.out.2, decide_eq_false (by omega)]; rfl)
       have hi0 : 0 < i := by omega
       clear hI hall h0
       go_wp2
       go_ret
       exact ⟨by rw [hF.out]; rfl, rfl⟩
theorem own_XSl {w : World} {base i cp n : Nat} {ad : Option Addr} {l : List Int} (h : w.ownsRow base 3 1 (.slice ad i cp) i (ints l)) (hl : l.length = i) (hx : l = grpX n) : XSl w (.slice ad i cp) n := by
 rw [XSl, ← hx]
 by_cases h0 : 0 < i
 ·
  obtain ⟨g, cap, hsl, hgb, hA, hc1, hc2⟩ := own_ints h h0
  simp only [Value.slice.injEq] at hsl
  obtain ⟨rfl, _, rfl⟩ := hsl
  exact ABlk.sl (S := []) (by simpa using hA) hl hc1 hc2
 ·
  exact .inl ⟨ad, cp, by rw [show i = 0 by omega], List.length_eq_zero_iff.1 (by omega)⟩
set_option maxRecDepth 100000 in
set_option maxHeartbeats 2000000 in
theorem digits_any (z : Int) (w : World) (hz : z.natAbs < 10 ^ 200) :
  Calls Tryz.prog 107 #[.string (S z)] w fun e w' => ∃ v, e = .returned (.tuple #[.bool (decide (z < 0)), v]) ∧ XSl w' v z.natAbs ∧ Below w.heap.size w w' := by
 obtain ⟨i0, hi, hz0, hz1, hz2⟩ := info_parts info_int
 have HZ2 := Lib.hid hz2
 obtain ⟨s, hs⟩ : ∃ s, S z = s := ⟨_, rfl⟩
 have hsl : s.data.toList = txt z := by rw [← hs, S_list]
 rw [hs]
 obtain ⟨n, hn⟩ : ∃ n, z.natAbs = n := ⟨_, rfl⟩
 obtain ⟨D, hD⟩ : ∃ D, txN n = D := ⟨_, rfl⟩
 have hall : D.all isDg = true := by rw [← hD]; exact txN_all n
 have hpos : 0 < D.length := by rw [← hD]; exact txN_pos n
 have hlen : D.length ≤ 200 := by rw [← hD]; exact txN_len (by omega) (by decide)
 have hdg : n ≠ 0 → dgs D = grpX n := fun h => by rw [← hD, txN, if_neg h, dgs_lts (grpX_dig n)]
 have hd0 : n ≠ 0 → D ≠ [48] := fun h e => by
  have := txN_head h; rw [hD, e] at this; exact this rfl
 rw [hn]
 obtain ⟨m, hm⟩ : ∃ m, D.length = m := ⟨_, rfl⟩
 rw [hm] at hpos hlen
 have HA := Lib.hid hall
 have HG := Lib.hid hdg
 clear hz2 hs hz hall hdg
 by_cases hneg : z < 0
 ·
  have hn0 : n ≠ 0 := by omega
  rw [txt, if_pos hneg, hn, hD] at hsl
  rw [decide_eq_true hneg]
  have ht := bytes_tail' hsl
  have hsz := bytes_size hsl
  rw [List.length_cons, hm] at hsz
  rw [hsz] at ht
  have h4 : (1 : Int) ≤ (s.size : Int) := by omega
  have hg0 := fun h : 0 < s.size => bytes_at (j := 0) hsl rfl h
  obtain ⟨d, hd⟩ : ∃ d : ByteArray, d = ⟨D.toArray⟩ := ⟨_, rfl⟩
  have hdl : d.data.toList = D := by rw [hd]
  rw [← hd] at ht
  have hds := bytes_size hdl
  rw [hm] at hds
  have HD := Lib.hid (And.intro hdl hm)
  have ht1 : (d.toList == [48]) = false := by rw [ByteArray.toList_eq, hdl, beq_eq_false_iff_ne]; exact hd0 hn0
  have ht2 : (d.toList != [48]) = true := by rw [bne, ht1]; rfl
  clear hsl hd hdl hm hd0 hneg hD hn
  go_enter Tryz.func107, Tryz.ntmps107
  go_wp2
  go_loopw [5, 6] (fun ov iv wr => ∃ (k : Nat) (ad : Option Addr) (cp : Nat), k ≤ m ∧ ov = .slice ad (m - k) cp ∧ iv = .int .i64 ((k : Int) - 1) ∧ Hid (wr.ownsRow w.heap.size 3 1 ov (m - k) (ints (dgs (D.drop k)))) ∧ Below w.heap.size w wr) (fun _ i _ => (intOf i + 1).toNat)
  case atStart => exact ⟨m, _, _, Nat.le_refl _, by rw [Nat.sub_self], rfl, Lib.hid (by rw [List.drop_eq_nil_of_le (by rw [HD.out.2]; exact Nat.le_refl _), Nat.sub_self]; exact ⟨rfl, .inl ⟨rfl, rfl⟩⟩), Below.refl _ _⟩
  case round =>
   obtain ⟨k, ad, cp, hk, rfl, rfl, hO, hB⟩ := hrel
   by_cases h0 : k = 0
   ·
    subst h0
    have hO2 := hO.out
    rw [List.drop_zero, Nat.sub_zero] at hO2
    have HX := Lib.hid (own_XSl hO2 (by rw [dgs_len]; exact HD.out.2) (HG.out hn0))
    clear hO hO2
    go_wp2
    go_ret2
    exact ⟨_, rfl, HX.out, hB⟩
   ·
    obtain ⟨j, rfl⟩ : ∃ j, k = j + 1 := ⟨k - 1, by omega⟩
    have k1 : j < D.length := by rw [HD.out.2]; omega
    obtain ⟨c, hc⟩ : ∃ c, D[j]? = some c := ⟨_, List.getElem?_eq_getElem k1⟩
    have hg := fun h : j < d.size => bytes_at HD.out.1 hc h
    have hcd := (isDg_iff c).1 (List.all_eq_true.1 HA.out c (List.mem_of_getElem? hc))
    have hdr := List.drop_eq_getElem_cons k1
    rw [show D[j] = c from Option.some.inj ((List.getElem?_eq_getElem k1).symm.trans hc)] at hdr
    have ew : IntKind.u8.wrap ((c.toNat : Int) - 48) = (c.toNat : Int) - 48 := by simp [IntKind.wrap, IntKind.bits, IntKind.signed]; omega
    have HO := Lib.hid (hO.out.alloc (.cells #[.int .i64 ((c.toNat : Int) - 48)] 3))
    have HO3 := Lib.hid (show ∀ (w3 : World) (v3 : Value), w3.ownsRow w.heap.size 3 1 v3 (m - (j + 1) + 1) (ints (dgs (D.drop (j + 1))) ++ [.int .i64 ((c.toNat : Int) - 48)]) → w3.ownsRow w.heap.size 3 1 v3 (m - j) (ints (dgs (D.drop j))) from fun w3 v3 h => by
     rw [show m - (j + 1) + 1 = m - j by omega] at h
     rw [hdr, dgs_cons]
     simpa [ints] using h)
    have HBA := Lib.hid (hB.alloc hB.size (.cells #[.int .i64 ((c.toNat : Int) - 48)] 3))
    have HOB := Lib.hid (show ∀ q, (Value.slice ad (m - (j + 1)) cp).ownBlock = some q → w.heap.size ≤ q from fun q hq => own_block hO.out hq)
    have d1 := hcd.1
    have d2 := hcd.2
    clear hcd hdr hO hB k1 hc
    go_wp2_with (at_builtin; go_loud (refine wpList_append_lies _ rfl (.tmp 24) (.tmp 30) 40 rfl w.heap.size 3 i0 (.int .i64 0) 1 8 Tryz.underlying40 hi hz0 hz1 HZ2.out rfl (by decide) (.slice ad (m - (j + 1)) cp) _ _ rfl HO.out ⟨wr.heap.size, 0, none⟩ 1 1 [.int .i64 ((c.toNat : Int) - 48)] rfl rfl (one_newJ wr _) (by intro u hu; simp at hu; subst hu; rfl) (by decide) (by unfold maxLen; omega) (by omega) HBA.out.size _ rfl ?_; intro g2 cap2 w3 hown3 hgrow _ _; have HOW := Lib.hid (HO3.out w3 _ hown3); have HB3 := Lib.hid (HBA.out.grown hgrow HBA.out.size (fun q hq => HOB.out q hq)); clear hown3 hgrow))
    exact ⟨⟨j, _, _, by omega, by congr 1; omega, by go_num, HOW, HB3.out⟩, by simp [intOf]⟩
 ·
  rw [txt, if_neg hneg, hn, hD] at hsl
  rw [decide_eq_false hneg]
  have hds := bytes_size hsl
  rw [hm] at hds
  have HD := Lib.hid (And.intro hsl hm)
  obtain ⟨c0, hc0⟩ : ∃ c, D[0]? = some c := ⟨_, List.getElem?_eq_getElem (by rw [hm]; exact hpos)⟩
  have hg0 := fun h : 0 < s.size => bytes_at hsl hc0 h
  have hc9 := (isDg_iff c0).1 (List.all_eq_true.1 HA.out c0 (List.mem_of_getElem? hc0))
  have hq0 : ((c0.toNat : Int) == 45) = false := by rw [beq_eq_false_iff_ne, ne_eq]; omega
  have hs0 : 0 < s.size := by omega
  by_cases hn0 : n = 0
  ·
   have ht1 : (s.toList == [48]) = true := by rw [ByteArray.toList_eq, hsl, ← hD, hn0]; rfl
   have ht2 : (s.toList != [48]) = false := by rw [bne, ht1]; rfl
   have HN := Lib.hid hn0
   clear hsl hm hd0 hneg hD hn hc0 hc9 hn0
   go_enter Tryz.func107, Tryz.ntmps107
   go_wp2
   go_loopw [5, 6] (fun ov iv wr => ov = .slice none 0 0 ∧ iv = .int .i64 ((m : Int) - 1) ∧ w = wr) (fun _ _ _ => 0)
   case atStart => exact ⟨rfl, rfl, rfl⟩
   case round =>
    obtain ⟨rfl, rfl, rfl⟩ := hrel
    go_wp2
    go_ret2
    exact ⟨_, rfl, by rw [HN.out]; exact .inl ⟨_, _, rfl, grpX_zero⟩, Below.refl _ _⟩
  ·
   have ht1 : (s.toList == [48]) = false := by rw [ByteArray.toList_eq, hsl, beq_eq_false_iff_ne]; exact hd0 hn0
   have ht2 : (s.toList != [48]) = true := by rw [bne, ht1]; rfl
   clear hsl hm hd0 hneg hD hn hc0 hc9
   go_enter Tryz.func107, Tryz.ntmps107
   go_wp2
   go_loopw [5, 6] (fun ov iv wr => ∃ (k : Nat) (ad : Option Addr) (cp : Nat), k ≤ m ∧ ov = .slice ad (m - k) cp ∧ iv = .int .i64 ((k : Int) - 1) ∧ Hid (wr.ownsRow w.heap.size 3 1 ov (m - k) (ints (dgs (D.drop k)))) ∧ Below w.heap.size w wr) (fun _ i _ => (intOf i + 1).toNat)
   case atStart => exact ⟨m, _, _, Nat.le_refl _, by rw [Nat.sub_self], rfl, Lib.hid (by rw [List.drop_eq_nil_of_le (by rw [HD.out.2]; exact Nat.le_refl _), Nat.sub_self]; exact ⟨rfl, .inl ⟨rfl, rfl⟩⟩), Below.refl _ _⟩
   case round =>
    obtain ⟨k, ad, cp, hk, rfl, rfl, hO, hB⟩ := hrel
    by_cases h0 : k = 0
    ·
     subst h0
     have hO2 := hO.out
     rw [List.drop_zero, Nat.sub_zero] at hO2
     have HX := Lib.hid (own_XSl hO2 (by rw [dgs_len]; exact HD.out.2) (HG.out hn0))
     clear hO hO2
     go_wp2
     go_ret2
     exact ⟨_, rfl, HX.out, hB⟩
    ·
     obtain ⟨j, rfl⟩ : ∃ j, k = j + 1 := ⟨k - 1, by omega⟩
     have k1 : j < D.length := by rw [HD.out.2]; omega
     obtain ⟨c, hc⟩ : ∃ c, D[j]? = some c := ⟨_, List.getElem?_eq_getElem k1⟩
     have hg := fun h : j < s.size => bytes_at HD.out.1 hc h
     have hcd := (isDg_iff c).1 (List.all_eq_true.1 HA.out c (List.mem_of_getElem? hc))
     have hdr := List.drop_eq_getElem_cons k1
     rw [show D[j] = c from Option.some.inj ((List.getElem?_eq_getElem k1).symm.trans hc)] at hdr
     have ew : IntKind.u8.wrap ((c.toNat : Int) - 48) = (c.toNat : Int) - 48 := by simp [IntKind.wrap, IntKind.bits, IntKind.signed]; omega
     have HO := Lib.hid (hO.out.alloc (.cells #[.int .i64 ((c.toNat : Int) - 48)] 3))
     have HO3 := Lib.hid (show ∀ (w3 : World) (v3 : Value), w3.ownsRow w.heap.size 3 1 v3 (m - (j + 1) + 1) (ints (dgs (D.drop (j + 1))) ++ [.int .i64 ((c.toNat : Int) - 48)]) → w3.ownsRow w.heap.size 3 1 v3 (m - j) (ints (dgs (D.drop j))) from fun w3 v3 h => by
      rw [show m - (j + 1) + 1 = m - j by omega] at h
      rw [hdr, dgs_cons]
      simpa [ints] using h)
     have HBA := Lib.hid (hB.alloc hB.size (.cells #[.int .i64 ((c.toNat : Int) - 48)] 3))
     have HOB := Lib.hid (show ∀ q, (Value.slice ad (m - (j + 1)) cp).ownBlock = some q → w.heap.size ≤ q from fun q hq => own_block hO.out hq)
     have d1 := hcd.1
     have d2 := hcd.2
     clear hcd hdr hO hB k1 hc
     go_wp2_with (at_builtin; go_loud (refine wpList_append_lies _ rfl (.tmp 24) (.tmp 30) 40 rfl w.heap.size 3 i0 (.int .i64 0) 1 8 Tryz.underlying40 hi hz0 hz1 HZ2.out rfl (by decide) (.slice ad (m - (j + 1)) cp) _ _ rfl HO.out ⟨wr.heap.size, 0, none⟩ 1 1 [.int .i64 ((c.toNat : Int) - 48)] rfl rfl (one_newJ wr _) (by intro u hu; simp at hu; subst hu; rfl) (by decide) (by unfold maxLen; omega) (by omega) HBA.out.size _ rfl ?_; intro g2 cap2 w3 hown3 hgrow _ _; have HOW := Lib.hid (HO3.out w3 _ hown3); have HB3 := Lib.hid (HBA.out.grown hgrow HBA.out.size (fun q hq => HOB.out q hq)); clear hown3 hgrow))
     exact ⟨⟨j, _, _, by omega, by congr 1; omega, by go_num, HOW, HB3.out⟩, by simp [intOf]⟩
end Go.Proofs.YtdnbhgkbfbgnaaaGreatDoor
