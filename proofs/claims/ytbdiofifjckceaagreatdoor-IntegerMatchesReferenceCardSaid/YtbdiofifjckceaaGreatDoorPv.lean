/- minus of numbers with a sign. -/
import Derived.Test.YtbdiofifjckceaaGreatDoorPu
namespace Go.Proofs.YtbdiofifjckceaaGreatDoor
open Go.RowKit

theorem Num.form {w : World} {v : Value} {z : Int} (h : Num w v z) : ∃ q a k c, v = .agg #[.bool q, .slice a k c] ∧ q = decide (z < 0) ∧ NSl w (.slice a k c) z.natAbs := by
  obtain ⟨u, rfl, h⟩ := h
  obtain ⟨a, c, rfl⟩ := h.form
  exact ⟨_, a, _, c, rfl, rfl, h⟩
theorem agg_yields {w : World} {g : Nat} {x y : Value} (h : NBlk w g x y) : (loadVar 49 ⟨g, 0, none⟩).run Tryz.prog w = .ok (.agg #[x, y]) w :=
  run_loadVar_row w g _ _ _ _ _ h Tryz.underlying49 rfl info_number

set_option maxRecDepth 100000 in
set_option maxHeartbeats 2000000 in
theorem nminus_any (x y : Int) (v1 v2 : Value) (w : World) (hl1 : (grp x.natAbs).length ≤ 50000) (hl2 : (grp y.natAbs).length ≤ 50000) (h1 : Num w v1 x) (h2 : Num w v2 y) :
    Calls Tryz.prog 34 #[v1, v2] w fun e w' => ∃ v, e = .returned v ∧ Num w' v (x - y) ∧ Below w.heap.size w w' := by
  have h1' := h1
  obtain ⟨b1, a1, k1, c1, rfl, hb1, h1⟩ := h1.form
  obtain ⟨b2, a2, k2, c2, rfl, hb2, h2⟩ := h2.form
  have CS := Lib.hid (fun (W : World) (hB : Below w.heap.size w W) => (signed_any (!b2) y.natAbs (.slice a2 k2 c2) W (h2.below hB) (by omega)).mono (R' := fun e w' => ∃ v, e = .returned v ∧ Num w' v (-y) ∧ Below W.heap.size W w') fun e w' ⟨v, he, hn, hb⟩ => ⟨v, he, by
    have e2 : (if (!b2) = true then -(y.natAbs : Int) else (y.natAbs : Int)) = -y := by
      rw [hb2]; by_cases hy : y < 0 <;> simp [hy] <;> omega
    rw [e2] at hn; exact hn, hb⟩)
  have CA := Lib.hid (fun (W : World) (hB : Below w.heap.size w W) (v : Value) (hv : Num W v (-y)) => nplus_any x (-y) _ v W hl1 (by rw [Int.natAbs_neg]; exact hl2) (h1'.below hB) hv)
  clear h1 h2 h1' hl1 hl2 hb1 hb2
  go_enter Tryz.func34, Tryz.ntmps34
  have hB3 := (((below_alloc w (.cells #[.bool b1, .slice a1 k1 c1] 49)).alloc (by simp only [World.size_alloc]; omega) (.cells #[.bool b2, .slice a2 k2 c2] 49)).alloc (by simp only [World.size_alloc]; omega) (.cells #[.bool false, .slice none 0 0] 49))
  obtain ⟨hW0, hW1, hW⟩ := three_blocks w (.bool b1) (.slice a1 k1 c1) (.bool b2) (.slice a2 k2 c2) (.bool false) (.slice none 0 0)
  have HS := Lib.hid hW.lt
  have HB := Lib.hid hB3
  have HW := Lib.hid hW
  have HW0 := Lib.hid hW0
  have HW1 := Lib.hid hW1
  clear hB3 hW hW0 hW1
  go_wp2_with fail
  refine wp_region_noPanic ?_
  refine wp_region_held_drew (S := fun W => NBlk W w.heap.size (.bool b1) (.slice a1 k1 c1) ∧ NBlk W (w.heap.size + 1) (.bool b2) (.slice a2 k2 c2)) (by kernel_rfl) ?_ (fun hHeld => ?_)
  · exact ⟨HW0.out, HW1.out⟩
  refine wpAnyH_take (i := 0) (oi := ({ dst := some 5, op := Go.Op.load 49 (Go.Operand.tmp 2), type := 49, pos := "number.go:58", after := #[], guard := none } : Oper)) (v := ?v0_1) rfl (by kernel_rfl) (by kernel_rfl) (by kernel_rfl) (fun _ _ _ h => h) (Or.inl ⟨by rfl, ?hy0_1⟩) (by assumption) ?re0_1
  case hy0_1 => ((intro w hSw; obtain ⟨q1, q2⟩ := hSw; have e1 := q1.c0; have e2 := q1.c1; have e3 := q2.c0; have e4 := q2.c1; go_simp) <;> with_reducible rfl)
  (try simp only [Act.put, List.setIfInBounds_toArray, List.set_cons_zero, List.set_cons_succ])
  refine wpAnyH_take (i := 1) (oi := ({ dst := some 6, op := Go.Op.fieldAddr 49 (Go.Operand.tmp 3) 0, type := 0, pos := "number.go:58", after := #[], guard := none } : Oper)) (v := ?v1_2) rfl (by kernel_rfl) (by kernel_rfl) (by kernel_rfl) (fun _ _ _ h => h) (Or.inl ⟨by rfl, ?hy1_2⟩) (by assumption) ?re1_2
  case hy1_2 => ((intro w hSw; obtain ⟨q1, q2⟩ := hSw; have e1 := q1.c0; have e2 := q1.c1; have e3 := q2.c0; have e4 := q2.c1; go_simp) <;> with_reducible rfl)
  (try simp only [Act.put, List.setIfInBounds_toArray, List.set_cons_zero, List.set_cons_succ])
  refine wpAnyH_take (i := 2) (oi := ({ dst := some 7, op := Go.Op.load 4 (Go.Operand.tmp 6), type := 4, pos := "number.go:58", after := #[{ on := 1, ground := Go.Ground.data }], guard := none } : Oper)) (v := ?v2_3) rfl (by kernel_rfl) (by kernel_rfl) (by kernel_rfl) (fun _ _ _ h => h) (Or.inl ⟨by rfl, ?hy2_3⟩) (by assumption) ?re2_3
  case hy2_3 => ((intro w hSw; obtain ⟨q1, q2⟩ := hSw; have e1 := q1.c0; have e2 := q1.c1; have e3 := q2.c0; have e4 := q2.c1; go_simp) <;> with_reducible rfl)
  (try simp only [Act.put, List.setIfInBounds_toArray, List.set_cons_zero, List.set_cons_succ])
  refine wpAnyH_take (i := 3) (oi := ({ dst := some 8, op := Go.Op.unOp Go.UnOp.not 4 (Go.Operand.tmp 7), type := 4, pos := "number.go:58", after := #[{ on := 2, ground := Go.Ground.data }], guard := none } : Oper)) (v := ?v3_4) rfl (by kernel_rfl) (by kernel_rfl) (by kernel_rfl) (fun _ _ _ h => h) (Or.inl ⟨by rfl, ?hy3_4⟩) (by assumption) ?re3_4
  case hy3_4 => ((intro w hSw; obtain ⟨q1, q2⟩ := hSw; have e1 := q1.c0; have e2 := q1.c1; have e3 := q2.c0; have e4 := q2.c1; go_simp) <;> with_reducible rfl)
  (try simp only [Act.put, List.setIfInBounds_toArray, List.set_cons_zero, List.set_cons_succ])
  refine wpAnyH_take (i := 4) (oi := ({ dst := some 9, op := Go.Op.fieldAddr 49 (Go.Operand.tmp 3) 1, type := 0, pos := "number.go:58", after := #[], guard := none } : Oper)) (v := ?v4_5) rfl (by kernel_rfl) (by kernel_rfl) (by kernel_rfl) (fun _ _ _ h => h) (Or.inl ⟨by rfl, ?hy4_5⟩) (by assumption) ?re4_5
  case hy4_5 => ((intro w hSw; obtain ⟨q1, q2⟩ := hSw; have e1 := q1.c0; have e2 := q1.c1; have e3 := q2.c0; have e4 := q2.c1; go_simp) <;> with_reducible rfl)
  (try simp only [Act.put, List.setIfInBounds_toArray, List.set_cons_zero, List.set_cons_succ])
  refine wpAnyH_take (i := 5) (oi := ({ dst := some 10, op := Go.Op.load 47 (Go.Operand.tmp 9), type := 47, pos := "number.go:58", after := #[{ on := 4, ground := Go.Ground.data }], guard := none } : Oper)) (v := ?v5_6) rfl (by kernel_rfl) (by kernel_rfl) (by kernel_rfl) (fun _ _ _ h => h) (Or.inl ⟨by rfl, ?hy5_6⟩) (by assumption) ?re5_6
  case hy5_6 => ((intro w hSw; obtain ⟨q1, q2⟩ := hSw; have e1 := q1.c0; have e2 := q1.c1; have e3 := q2.c0; have e4 := q2.c1; go_simp) <;> with_reducible rfl)
  (try simp only [Act.put, List.setIfInBounds_toArray, List.set_cons_zero, List.set_cons_succ])
  refine wpAnyH_ready (rs := [6]) (by kernel_rfl) (by simp) ?_
  refine AllReadyH.cons (o := ({ dst := some 11, op := Go.Op.call { callee := Go.Callee.value (Go.Operand.func 55), args := #[Go.Operand.tmp 8, Go.Operand.tmp 10], argTypes := #[4, 47] }, type := 49, pos := "number.go:58", after := #[{ on := 3, ground := Go.Ground.data }, { on := 5, ground := Go.Ground.data }], guard := none } : Oper)) rfl (fun K hK => ?_) ?_
  · go_simp
    go_at_call 55
    refine (CS.out _ HB.out.drew).mono ?_
    rintro e w1 ⟨v2, rfl, n1, B1⟩
    have hW1 := HW.out.keep (drew_left B1) HS.out; have N1 := Lib.hid n1; have BB1 := Lib.hid (HB.out.trans ((drew_left B1).mono HB.out.size)); have HW1' := Lib.hid hW1; clear n1 hW1
    (try go_wp2_with fail)
    refine hK.out _ _ ?_ (fun hHeld => ?_)
    · exact ⟨hHeld.1.keep B1 hHeld.1.lt, hHeld.2.keep B1 hHeld.2.lt⟩
    clear hK K
    (try simp only [Act.put, List.setIfInBounds_toArray, List.set_cons_zero, List.set_cons_succ])
    refine wpAnyH_ready (rs := [7]) (by kernel_rfl) (by simp) ?_
    refine AllReadyH.cons (o := ({ dst := some 12, op := Go.Op.call { callee := Go.Callee.value (Go.Operand.func 31), args := #[Go.Operand.tmp 5, Go.Operand.tmp 11], argTypes := #[49, 49] }, type := 49, pos := "number.go:58", after := #[{ on := 0, ground := Go.Ground.data }, { on := 6, ground := Go.Ground.data }, { on := 6, ground := Go.Ground.chain }], guard := none } : Oper)) rfl (fun K hK => ?_) ?_
    · go_simp
      go_at_call 31
      refine (CA.out _ BB1.out _ N1.out).mono ?_
      rintro e w2 ⟨v, rfl, n2, B2⟩
      obtain ⟨q, a, k, c, rfl, hq, n2⟩ := n2.form
      have h0 := HW1'.out.keep B2 HW1'.out.lt; have c0 := h0.c0; have f0 := h0.f 0; have c1' := h0.c1; have N2 := Lib.hid (fun j (hj : 2 ≤ j) => h0.c2 hj); have hA := h0.s0 (.bool q); have c1 := hA.c1; have f1 := hA.f 1; have HA := Lib.hid (hA.s1 (.slice a k c)); clear hA; have HN2 := Lib.hid n2; have BB2 := Lib.hid (BB1.out.trans (B2.mono BB1.out.size)); have HZ := Lib.hid hq; clear h0 n2 hq
      (try go_wp2_with fail)
      refine hK.out _ _ ?_ (fun hHeld => ?_)
      · exact ⟨hHeld.1.keep B2 hHeld.1.lt, hHeld.2.keep B2 hHeld.2.lt⟩
      clear hK K
      (try simp only [Act.put, List.setIfInBounds_toArray, List.set_cons_zero, List.set_cons_succ])
      refine wpAnyH_ready (rs := [8]) (by kernel_rfl) (by simp) ?_
      refine AllReadyH.cons (o := ({ dst := none, op := Go.Op.store 49 (Go.Operand.tmp 4) (Go.Operand.tmp 12), type := 0, pos := "number.go:58", after := #[{ on := 7, ground := Go.Ground.data }, { on := 7, ground := Go.Ground.chain }, { on := 0, ground := Go.Ground.phase }, { on := 1, ground := Go.Ground.phase }, { on := 2, ground := Go.Ground.phase }, { on := 3, ground := Go.Ground.phase }, { on := 4, ground := Go.Ground.phase }, { on := 5, ground := Go.Ground.phase }, { on := 6, ground := Go.Ground.phase }, { on := 7, ground := Go.Ground.phase }], guard := none } : Oper)) rfl (fun K hK => ?_) ?_
      · go_simp
        refine hK.out _ _ ?_ (fun hHeld => ?_)
        · exact ⟨(hHeld.1.far (by omega)).far (by omega), (hHeld.2.far (by omega)).far (by omega)⟩
        clear hK K
        (try simp only [Act.put, List.setIfInBounds_toArray, List.set_cons_zero, List.set_cons_succ])
        refine wpAnyH_done (by kernel_rfl) ?_ _
        refine NoPanic.normal ?_
        go_wp2_with fail
        have hB9 := (BB2.out.setCell (p := ⟨w.heap.size + 1 + 1, 0, none⟩) (by show w.heap.size ≤ w.heap.size + 1 + 1; omega) (.bool q)).setCell (p := ⟨w.heap.size + 1 + 1, 1, none⟩) (by show w.heap.size ≤ w.heap.size + 1 + 1; omega) (.slice a k c)
        have hN9 := HN2.out.over (w2 := (w2.setCell ⟨w.heap.size + 1 + 1, 0, none⟩ (.bool q)).setCell ⟨w.heap.size + 1 + 1, 1, none⟩ (.slice a k c)) c0 c1' (fun q hq => (Below.heap_setCell _ _ _ _ hq).trans (Below.heap_setCell _ _ _ _ hq)) (by simp [World.setCell]) N2.out (fun x e => by cases e)
        refine bodyPost_ret (results_cell_row rfl _ _ (w.heap.size + 1 + 1) 49 #[.bool q, .slice a k c] (0, 0) _ rfl HA.out Tryz.underlying49 rfl info_number) rfl ?_
        exact ⟨_, rfl, by rw [Int.sub_eq_add_neg]; exact ⟨.slice a k c, by rw [HZ.out], hN9⟩, hB9⟩
      exact AllReadyH.nil
    exact AllReadyH.nil
  exact AllReadyH.nil
end Go.Proofs.YtbdiofifjckceaaGreatDoor
