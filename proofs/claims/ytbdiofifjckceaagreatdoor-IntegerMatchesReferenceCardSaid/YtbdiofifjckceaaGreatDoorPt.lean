/- times of numbers with a sign. -/
import Derived.Test.YtbdiofifjckceaaGreatDoorPs
import Derived.Deep.RegionHeld3
namespace Go.Proofs.YtbdiofifjckceaaGreatDoor
open Go.RowKit

theorem mul_sign (x y : Int) : decide (x * y < 0) = ((decide (x < 0) != decide (y < 0)) && decide (0 < x.natAbs * y.natAbs)) := by
  rcases Int.lt_trichotomy x 0 with hx | hx | hx <;> rcases Int.lt_trichotomy y 0 with hy | hy | hy
  · have := Int.mul_pos_of_neg_of_neg hx hy
    rw [decide_eq_false (by omega), decide_eq_true hx, decide_eq_true hy]; rfl
  · subst hy; simp
  · have := Int.mul_neg_of_neg_of_pos hx hy
    rw [decide_eq_true this, decide_eq_true hx, decide_eq_false (by omega), decide_eq_true (Nat.mul_pos (by omega) (by omega))]; rfl
  · subst hx; simp
  · subst hx; simp
  · subst hx; simp
  · have := Int.mul_neg_of_pos_of_neg hx hy
    rw [decide_eq_true this, decide_eq_false (by omega), decide_eq_true hy, decide_eq_true (Nat.mul_pos (by omega) (by omega))]; rfl
  · subst hy; simp
  · have := Int.mul_pos hx hy
    rw [decide_eq_false (by omega), decide_eq_false (by omega), decide_eq_false (by omega)]; rfl
theorem signed_form (b : Bool) (n : Nat) (u : Value) (w : World) (h : NSl w u n) (hl : (grp n).length ≤ 60000) :
    Calls Tryz.prog 55 #[.bool b, u] w fun e w' => ∃ q a k c, e = .returned (.agg #[.bool q, .slice a k c]) ∧ q = (b && decide (0 < n)) ∧ NSl w' (.slice a k c) n ∧ Below w.heap.size w w' :=
  (signed_any b n u w h hl).mono fun e w' ⟨v, he, ⟨u', hu, hn⟩, hb⟩ => by
    obtain ⟨a, c, rfl⟩ := hn.form
    refine ⟨b && decide (0 < n), a, _, c, ?_, rfl, by cases b <;> simpa using hn, hb⟩
    rw [he, hu]
    cases b
    · simp
    · simp only [if_true, Bool.true_and]
      have e : decide (-(n : Int) < 0) = decide (0 < n) := by
        by_cases h : 0 < n
        · rw [decide_eq_true h, decide_eq_true (by omega)]
        · rw [decide_eq_false h, decide_eq_false (by omega)]
      rw [e, Int.natAbs_neg, Int.natAbs_natCast]

theorem three_blocks (w : World) (x y x' y' x'' y'' : Value) : NBlk (((w.alloc (.cells #[x, y] 49)).alloc (.cells #[x', y'] 49)).alloc (.cells #[x'', y''] 49)) w.heap.size x y ∧ NBlk (((w.alloc (.cells #[x, y] 49)).alloc (.cells #[x', y'] 49)).alloc (.cells #[x'', y''] 49)) (w.heap.size + 1) x' y' ∧ NBlk (((w.alloc (.cells #[x, y] 49)).alloc (.cells #[x', y'] 49)).alloc (.cells #[x'', y''] 49)) (w.heap.size + 1 + 1) x'' y'' := by
  refine ⟨?_, ?_, ?_⟩
  · exact (Go.heap_alloc_old _ _ (by simp only [World.size_alloc]; omega)).trans ((Go.heap_alloc_old _ _ (by simp only [World.size_alloc]; omega)).trans (Go.heap_alloc_new w _))
  · have e := Go.heap_alloc_new (w.alloc (.cells #[x, y] 49)) (.cells #[x', y'] 49)
    rw [World.size_alloc] at e
    exact (Go.heap_alloc_old _ _ (by simp only [World.size_alloc]; omega)).trans e
  · have e := Go.heap_alloc_new ((w.alloc (.cells #[x, y] 49)).alloc (.cells #[x', y'] 49)) (.cells #[x'', y''] 49)
    rw [World.size_alloc, World.size_alloc] at e
    exact e
theorem drew_left {n : Nat} {w w1 : World} (h : Below n w.drew w1) : Below n w w1 := ⟨h.os, h.tape, h.output, h.size, h.block⟩
theorem NBlk.far {w : World} {g g2 j : Nat} {x y v : Value} (h : NBlk w g x y) (hg : g ≠ g2) : NBlk (w.setCell ⟨g2, j, none⟩ v) g x y := (Below.heap_setCell _ _ _ _ hg).trans h

set_option maxRecDepth 100000 in
set_option maxHeartbeats 1000000 in
theorem ntimes_any (x y : Int) (v1 v2 : Value) (w : World) (hl1 : (grp x.natAbs).length ≤ 5000) (hl2 : (grp y.natAbs).length ≤ 5000) (h1 : Num w v1 x) (h2 : Num w v2 y) :
    Calls Tryz.prog 35 #[v1, v2] w fun e w' => ∃ v, e = .returned v ∧ Num w' v (x * y) ∧ Below w.heap.size w w' := by
  obtain ⟨u1, rfl, h1⟩ := h1
  obtain ⟨u2, rfl, h2⟩ := h2
  obtain ⟨a1, c1, rfl⟩ := h1.form
  obtain ⟨a2, c2, rfl⟩ := h2.form
  have cA : ∀ W, Below w.heap.size w W → _ := fun W hB => times_any x.natAbs y.natAbs _ _ W (by omega) (by omega) (h1.below hB) (h2.below hB)
  have hg : (grp (x.natAbs * y.natAbs)).length ≤ 60000 := by
    have h : x.natAbs * y.natAbs < 10000 ^ ((grp x.natAbs).length + (grp y.natAbs).length) := by
      rw [Nat.pow_add]
      exact Nat.mul_lt_mul'' (grp_lt _) (grp_lt _)
    exact Nat.le_trans (grp_len h) (by omega)
  have HP := Lib.hid (mul_sign x y)
  generalize (grp x.natAbs).length = k1 at *
  generalize (grp y.natAbs).length = k2 at *
  have HQ := Lib.hid (Int.natAbs_mul x y)
  generalize x.natAbs * y.natAbs = M at *
  generalize decide (x < 0) = b1 at *
  generalize decide (y < 0) = b2 at *
  have cS := fun (W : World) b u n (h : NSl W u n) (hl : (grp n).length ≤ 60000) => signed_form b n u W h hl
  have CS := Lib.hid cS
  have CA := Lib.hid cA
  clear h1 h2 cS cA
  cases b1 <;> cases b2
  · go_enter Tryz.func35, Tryz.ntmps35
    have hB3 := (((below_alloc w (.cells #[.bool false, .slice a1 k1 c1] 49)).alloc (by simp only [World.size_alloc]; omega) (.cells #[.bool false, .slice a2 k2 c2] 49)).alloc (by simp only [World.size_alloc]; omega) (.cells #[.bool false, .slice none 0 0] 49))
    obtain ⟨hW0, hW1, hW⟩ := three_blocks w (.bool false) (.slice a1 k1 c1) (.bool false) (.slice a2 k2 c2) (.bool false) (.slice none 0 0)
    have HB3 := Lib.hid hB3
    have HW := Lib.hid hW
    have HW0 := Lib.hid hW0
    have HW1 := Lib.hid hW1
    clear hB3 hW hW0 hW1
    go_wp2_with fail
    refine wp_region_noPanic ?_
    refine wp_region_held_drew (S := fun W => NBlk W w.heap.size (.bool false) (.slice a1 k1 c1) ∧ NBlk W (w.heap.size + 1) (.bool false) (.slice a2 k2 c2)) (by kernel_rfl) ?_ (fun hHeld => ?_)
    · exact ⟨HW0.out, HW1.out⟩
    refine wpAnyH_take (i := 0) (oi := ({ dst := some 5, op := Go.Op.fieldAddr 49 (Go.Operand.tmp 2) 0, type := 0, pos := "number.go:62", after := #[], guard := none } : Oper)) (v := ?v0_1ff) rfl (by kernel_rfl) (by kernel_rfl) (by kernel_rfl) (fun _ _ _ h => h) (Or.inl ⟨by rfl, ?hy0_1ff⟩) (by assumption) ?re0_1ff
    case hy0_1ff => ((intro w hSw; obtain ⟨q1, q2⟩ := hSw; have e1 := q1.c0; have e2 := q1.c1; have e3 := q2.c0; have e4 := q2.c1; go_simp) <;> with_reducible rfl)
    (try simp only [Act.put, List.setIfInBounds_toArray, List.set_cons_zero, List.set_cons_succ])
    refine wpAnyH_take (i := 1) (oi := ({ dst := some 6, op := Go.Op.load 4 (Go.Operand.tmp 5), type := 4, pos := "number.go:62", after := #[{ on := 0, ground := Go.Ground.data }], guard := none } : Oper)) (v := ?v1_2ff) rfl (by kernel_rfl) (by kernel_rfl) (by kernel_rfl) (fun _ _ _ h => h) (Or.inl ⟨by rfl, ?hy1_2ff⟩) (by assumption) ?re1_2ff
    case hy1_2ff => ((intro w hSw; obtain ⟨q1, q2⟩ := hSw; have e1 := q1.c0; have e2 := q1.c1; have e3 := q2.c0; have e4 := q2.c1; go_simp) <;> with_reducible rfl)
    (try simp only [Act.put, List.setIfInBounds_toArray, List.set_cons_zero, List.set_cons_succ])
    refine wpAnyH_take (i := 2) (oi := ({ dst := some 7, op := Go.Op.fieldAddr 49 (Go.Operand.tmp 3) 0, type := 0, pos := "number.go:62", after := #[], guard := none } : Oper)) (v := ?v2_3ff) rfl (by kernel_rfl) (by kernel_rfl) (by kernel_rfl) (fun _ _ _ h => h) (Or.inl ⟨by rfl, ?hy2_3ff⟩) (by assumption) ?re2_3ff
    case hy2_3ff => ((intro w hSw; obtain ⟨q1, q2⟩ := hSw; have e1 := q1.c0; have e2 := q1.c1; have e3 := q2.c0; have e4 := q2.c1; go_simp) <;> with_reducible rfl)
    (try simp only [Act.put, List.setIfInBounds_toArray, List.set_cons_zero, List.set_cons_succ])
    refine wpAnyH_take (i := 3) (oi := ({ dst := some 8, op := Go.Op.load 4 (Go.Operand.tmp 7), type := 4, pos := "number.go:62", after := #[{ on := 2, ground := Go.Ground.data }], guard := none } : Oper)) (v := ?v3_4ff) rfl (by kernel_rfl) (by kernel_rfl) (by kernel_rfl) (fun _ _ _ h => h) (Or.inl ⟨by rfl, ?hy3_4ff⟩) (by assumption) ?re3_4ff
    case hy3_4ff => ((intro w hSw; obtain ⟨q1, q2⟩ := hSw; have e1 := q1.c0; have e2 := q1.c1; have e3 := q2.c0; have e4 := q2.c1; go_simp) <;> with_reducible rfl)
    (try simp only [Act.put, List.setIfInBounds_toArray, List.set_cons_zero, List.set_cons_succ])
    refine wpAnyH_take (i := 4) (oi := ({ dst := some 9, op := Go.Op.binOp Go.BinOp.neq 4 (Go.Operand.tmp 6) (Go.Operand.tmp 8) 4, type := 4, pos := "number.go:62", after := #[{ on := 1, ground := Go.Ground.data }, { on := 3, ground := Go.Ground.data }], guard := none } : Oper)) (v := ?v4_5ff) rfl (by kernel_rfl) (by kernel_rfl) (by kernel_rfl) (fun _ _ _ h => h) (Or.inl ⟨by rfl, ?hy4_5ff⟩) (by assumption) ?re4_5ff
    case hy4_5ff => ((intro w hSw; obtain ⟨q1, q2⟩ := hSw; have e1 := q1.c0; have e2 := q1.c1; have e3 := q2.c0; have e4 := q2.c1; go_simp) <;> with_reducible rfl)
    (try simp only [Act.put, List.setIfInBounds_toArray, List.set_cons_zero, List.set_cons_succ])
    refine wpAnyH_take (i := 5) (oi := ({ dst := some 10, op := Go.Op.fieldAddr 49 (Go.Operand.tmp 2) 1, type := 0, pos := "number.go:62", after := #[], guard := none } : Oper)) (v := ?v5_6ff) rfl (by kernel_rfl) (by kernel_rfl) (by kernel_rfl) (fun _ _ _ h => h) (Or.inl ⟨by rfl, ?hy5_6ff⟩) (by assumption) ?re5_6ff
    case hy5_6ff => ((intro w hSw; obtain ⟨q1, q2⟩ := hSw; have e1 := q1.c0; have e2 := q1.c1; have e3 := q2.c0; have e4 := q2.c1; go_simp) <;> with_reducible rfl)
    (try simp only [Act.put, List.setIfInBounds_toArray, List.set_cons_zero, List.set_cons_succ])
    refine wpAnyH_take (i := 6) (oi := ({ dst := some 11, op := Go.Op.load 47 (Go.Operand.tmp 10), type := 47, pos := "number.go:62", after := #[{ on := 5, ground := Go.Ground.data }], guard := none } : Oper)) (v := ?v6_7ff) rfl (by kernel_rfl) (by kernel_rfl) (by kernel_rfl) (fun _ _ _ h => h) (Or.inl ⟨by rfl, ?hy6_7ff⟩) (by assumption) ?re6_7ff
    case hy6_7ff => ((intro w hSw; obtain ⟨q1, q2⟩ := hSw; have e1 := q1.c0; have e2 := q1.c1; have e3 := q2.c0; have e4 := q2.c1; go_simp) <;> with_reducible rfl)
    (try simp only [Act.put, List.setIfInBounds_toArray, List.set_cons_zero, List.set_cons_succ])
    refine wpAnyH_take (i := 7) (oi := ({ dst := some 12, op := Go.Op.fieldAddr 49 (Go.Operand.tmp 3) 1, type := 0, pos := "number.go:62", after := #[], guard := none } : Oper)) (v := ?v7_8ff) rfl (by kernel_rfl) (by kernel_rfl) (by kernel_rfl) (fun _ _ _ h => h) (Or.inl ⟨by rfl, ?hy7_8ff⟩) (by assumption) ?re7_8ff
    case hy7_8ff => ((intro w hSw; obtain ⟨q1, q2⟩ := hSw; have e1 := q1.c0; have e2 := q1.c1; have e3 := q2.c0; have e4 := q2.c1; go_simp) <;> with_reducible rfl)
    (try simp only [Act.put, List.setIfInBounds_toArray, List.set_cons_zero, List.set_cons_succ])
    refine wpAnyH_take (i := 8) (oi := ({ dst := some 13, op := Go.Op.load 47 (Go.Operand.tmp 12), type := 47, pos := "number.go:62", after := #[{ on := 7, ground := Go.Ground.data }], guard := none } : Oper)) (v := ?v8_9ff) rfl (by kernel_rfl) (by kernel_rfl) (by kernel_rfl) (fun _ _ _ h => h) (Or.inl ⟨by rfl, ?hy8_9ff⟩) (by assumption) ?re8_9ff
    case hy8_9ff => ((intro w hSw; obtain ⟨q1, q2⟩ := hSw; have e1 := q1.c0; have e2 := q1.c1; have e3 := q2.c0; have e4 := q2.c1; go_simp) <;> with_reducible rfl)
    (try simp only [Act.put, List.setIfInBounds_toArray, List.set_cons_zero, List.set_cons_succ])
    refine wpAnyH_ready (rs := [9]) (by kernel_rfl) (by simp) ?_
    refine AllReadyH.cons (o := ({ dst := some 14, op := Go.Op.call { callee := Go.Callee.value (Go.Operand.func 59), args := #[Go.Operand.tmp 11, Go.Operand.tmp 13], argTypes := #[47, 47] }, type := 47, pos := "number.go:62", after := #[{ on := 6, ground := Go.Ground.data }, { on := 8, ground := Go.Ground.data }], guard := none } : Oper)) rfl (fun K hK => ?_) ?_
    · go_simp
      go_at_call 59
      refine (CA.out _ HB3.out.drew).mono ?_
      rintro e w1 ⟨g, rfl, n1, B1⟩
      have hW1 := HW.out.keep (drew_left B1) (by simp only [Go.heap_drew, World.size_alloc]; omega); have N1 := Lib.hid n1; have BB1 := Lib.hid (HB3.out.trans ((drew_left B1).mono (by simp only [Go.heap_drew, World.size_alloc]; omega))); have HW1' := Lib.hid hW1; clear n1 hW1
      (try go_wp2_with fail)
      refine hK.out _ _ ?_ (fun hHeld => ?_)
      · exact ⟨hHeld.1.keep B1 hHeld.1.lt, hHeld.2.keep B1 hHeld.2.lt⟩
      clear hK K
      (try simp only [Act.put, List.setIfInBounds_toArray, List.set_cons_zero, List.set_cons_succ])
      refine wpAnyH_ready (rs := [10]) (by kernel_rfl) (by simp) ?_
      refine AllReadyH.cons (o := ({ dst := some 15, op := Go.Op.call { callee := Go.Callee.value (Go.Operand.func 55), args := #[Go.Operand.tmp 9, Go.Operand.tmp 14], argTypes := #[4, 47] }, type := 49, pos := "number.go:62", after := #[{ on := 4, ground := Go.Ground.data }, { on := 9, ground := Go.Ground.data }, { on := 9, ground := Go.Ground.chain }], guard := none } : Oper)) rfl (fun K hK => ?_) ?_
      · go_simp
        go_at_call 55
        refine (CS.out _ _ _ _ N1.out hg).mono ?_
        rintro e w2 ⟨q, a, k, c, rfl, hq, n2, B2⟩
        have h0 := HW1'.out.keep B2 HW1'.out.lt; have c0 := h0.c0; have f0 := h0.f 0; have c1' := h0.c1; have N2 := Lib.hid (fun j (hj : 2 ≤ j) => h0.c2 hj); have hA := h0.s0 (.bool q); have c1 := hA.c1; have f1 := hA.f 1; have HA := Lib.hid (hA.s1 (.slice a k c)); clear hA; have HN2 := Lib.hid n2; have BB2 := Lib.hid (BB1.out.trans (B2.mono BB1.out.size)); have HZ := Lib.hid hq; clear h0 n2 hq
        (try go_wp2_with fail)
        refine hK.out _ _ ?_ (fun hHeld => ?_)
        · exact ⟨hHeld.1.keep B2 hHeld.1.lt, hHeld.2.keep B2 hHeld.2.lt⟩
        clear hK K
        (try simp only [Act.put, List.setIfInBounds_toArray, List.set_cons_zero, List.set_cons_succ])
        refine wpAnyH_ready (rs := [11]) (by kernel_rfl) (by simp) ?_
        refine AllReadyH.cons (o := ({ dst := none, op := Go.Op.store 49 (Go.Operand.tmp 4) (Go.Operand.tmp 15), type := 0, pos := "number.go:62", after := #[{ on := 10, ground := Go.Ground.data }, { on := 10, ground := Go.Ground.chain }, { on := 0, ground := Go.Ground.phase }, { on := 1, ground := Go.Ground.phase }, { on := 2, ground := Go.Ground.phase }, { on := 3, ground := Go.Ground.phase }, { on := 4, ground := Go.Ground.phase }, { on := 5, ground := Go.Ground.phase }, { on := 6, ground := Go.Ground.phase }, { on := 7, ground := Go.Ground.phase }, { on := 8, ground := Go.Ground.phase }, { on := 9, ground := Go.Ground.phase }, { on := 10, ground := Go.Ground.phase }], guard := none } : Oper)) rfl (fun K hK => ?_) ?_
        · go_simp
          refine hK.out _ _ ?_ (fun hHeld => ?_)
          · exact ⟨(hHeld.1.far (by omega)).far (by omega), (hHeld.2.far (by omega)).far (by omega)⟩
          clear hK K
          (try simp only [Act.put, List.setIfInBounds_toArray, List.set_cons_zero, List.set_cons_succ])
          refine wpAnyH_done (by kernel_rfl) ?_ _
          refine NoPanic.normal ?_
          go_wp2_with fail
          have hB9 := (BB2.out.setCell (p := ⟨w.heap.size + 1 + 1, 0, none⟩) (by show w.heap.size ≤ w.heap.size + 1 + 1; omega) (.bool q)).setCell (p := ⟨w.heap.size + 1 + 1, 1, none⟩) (by show w.heap.size ≤ w.heap.size + 1 + 1; omega) (.slice a k c)
          have hN9 := HN2.out.over (w2 := (w2.setCell ⟨w.heap.size + 1 + 1, 0, none⟩ (.bool q)).setCell ⟨w.heap.size + 1 + 1, 1, none⟩ (.slice a k c)) c0 c1' (fun q hq => (Below.heap_setCell _ _ _ _ hq).trans (Below.heap_setCell _ _ _ _ hq)) (by simp [World.setCell]) N2.out (fun x e => by cases e)
          refine bodyPost_ret (results_cell_row rfl _ _ (w.heap.size + 1 + 1) 49 #[.bool q, .slice a k c] (0, 0) _ rfl HA.out Tryz.underlying49 rfl info_number) rfl ?_
          exact ⟨_, rfl, ⟨.slice a k c, by rw [HP.out, HZ.out]; rfl, by rw [HQ.out]; exact hN9⟩, hB9⟩
        exact AllReadyH.nil
      exact AllReadyH.nil
    exact AllReadyH.nil
  · go_enter Tryz.func35, Tryz.ntmps35
    have hB3 := (((below_alloc w (.cells #[.bool false, .slice a1 k1 c1] 49)).alloc (by simp only [World.size_alloc]; omega) (.cells #[.bool true, .slice a2 k2 c2] 49)).alloc (by simp only [World.size_alloc]; omega) (.cells #[.bool false, .slice none 0 0] 49))
    obtain ⟨hW0, hW1, hW⟩ := three_blocks w (.bool false) (.slice a1 k1 c1) (.bool true) (.slice a2 k2 c2) (.bool false) (.slice none 0 0)
    have HB3 := Lib.hid hB3
    have HW := Lib.hid hW
    have HW0 := Lib.hid hW0
    have HW1 := Lib.hid hW1
    clear hB3 hW hW0 hW1
    go_wp2_with fail
    refine wp_region_noPanic ?_
    refine wp_region_held_drew (S := fun W => NBlk W w.heap.size (.bool false) (.slice a1 k1 c1) ∧ NBlk W (w.heap.size + 1) (.bool true) (.slice a2 k2 c2)) (by kernel_rfl) ?_ (fun hHeld => ?_)
    · exact ⟨HW0.out, HW1.out⟩
    refine wpAnyH_take (i := 0) (oi := ({ dst := some 5, op := Go.Op.fieldAddr 49 (Go.Operand.tmp 2) 0, type := 0, pos := "number.go:62", after := #[], guard := none } : Oper)) (v := ?v0_1ft) rfl (by kernel_rfl) (by kernel_rfl) (by kernel_rfl) (fun _ _ _ h => h) (Or.inl ⟨by rfl, ?hy0_1ft⟩) (by assumption) ?re0_1ft
    case hy0_1ft => ((intro w hSw; obtain ⟨q1, q2⟩ := hSw; have e1 := q1.c0; have e2 := q1.c1; have e3 := q2.c0; have e4 := q2.c1; go_simp) <;> with_reducible rfl)
    (try simp only [Act.put, List.setIfInBounds_toArray, List.set_cons_zero, List.set_cons_succ])
    refine wpAnyH_take (i := 1) (oi := ({ dst := some 6, op := Go.Op.load 4 (Go.Operand.tmp 5), type := 4, pos := "number.go:62", after := #[{ on := 0, ground := Go.Ground.data }], guard := none } : Oper)) (v := ?v1_2ft) rfl (by kernel_rfl) (by kernel_rfl) (by kernel_rfl) (fun _ _ _ h => h) (Or.inl ⟨by rfl, ?hy1_2ft⟩) (by assumption) ?re1_2ft
    case hy1_2ft => ((intro w hSw; obtain ⟨q1, q2⟩ := hSw; have e1 := q1.c0; have e2 := q1.c1; have e3 := q2.c0; have e4 := q2.c1; go_simp) <;> with_reducible rfl)
    (try simp only [Act.put, List.setIfInBounds_toArray, List.set_cons_zero, List.set_cons_succ])
    refine wpAnyH_take (i := 2) (oi := ({ dst := some 7, op := Go.Op.fieldAddr 49 (Go.Operand.tmp 3) 0, type := 0, pos := "number.go:62", after := #[], guard := none } : Oper)) (v := ?v2_3ft) rfl (by kernel_rfl) (by kernel_rfl) (by kernel_rfl) (fun _ _ _ h => h) (Or.inl ⟨by rfl, ?hy2_3ft⟩) (by assumption) ?re2_3ft
    case hy2_3ft => ((intro w hSw; obtain ⟨q1, q2⟩ := hSw; have e1 := q1.c0; have e2 := q1.c1; have e3 := q2.c0; have e4 := q2.c1; go_simp) <;> with_reducible rfl)
    (try simp only [Act.put, List.setIfInBounds_toArray, List.set_cons_zero, List.set_cons_succ])
    refine wpAnyH_take (i := 3) (oi := ({ dst := some 8, op := Go.Op.load 4 (Go.Operand.tmp 7), type := 4, pos := "number.go:62", after := #[{ on := 2, ground := Go.Ground.data }], guard := none } : Oper)) (v := ?v3_4ft) rfl (by kernel_rfl) (by kernel_rfl) (by kernel_rfl) (fun _ _ _ h => h) (Or.inl ⟨by rfl, ?hy3_4ft⟩) (by assumption) ?re3_4ft
    case hy3_4ft => ((intro w hSw; obtain ⟨q1, q2⟩ := hSw; have e1 := q1.c0; have e2 := q1.c1; have e3 := q2.c0; have e4 := q2.c1; go_simp) <;> with_reducible rfl)
    (try simp only [Act.put, List.setIfInBounds_toArray, List.set_cons_zero, List.set_cons_succ])
    refine wpAnyH_take (i := 4) (oi := ({ dst := some 9, op := Go.Op.binOp Go.BinOp.neq 4 (Go.Operand.tmp 6) (Go.Operand.tmp 8) 4, type := 4, pos := "number.go:62", after := #[{ on := 1, ground := Go.Ground.data }, { on := 3, ground := Go.Ground.data }], guard := none } : Oper)) (v := ?v4_5ft) rfl (by kernel_rfl) (by kernel_rfl) (by kernel_rfl) (fun _ _ _ h => h) (Or.inl ⟨by rfl, ?hy4_5ft⟩) (by assumption) ?re4_5ft
    case hy4_5ft => ((intro w hSw; obtain ⟨q1, q2⟩ := hSw; have e1 := q1.c0; have e2 := q1.c1; have e3 := q2.c0; have e4 := q2.c1; go_simp) <;> with_reducible rfl)
    (try simp only [Act.put, List.setIfInBounds_toArray, List.set_cons_zero, List.set_cons_succ])
    refine wpAnyH_take (i := 5) (oi := ({ dst := some 10, op := Go.Op.fieldAddr 49 (Go.Operand.tmp 2) 1, type := 0, pos := "number.go:62", after := #[], guard := none } : Oper)) (v := ?v5_6ft) rfl (by kernel_rfl) (by kernel_rfl) (by kernel_rfl) (fun _ _ _ h => h) (Or.inl ⟨by rfl, ?hy5_6ft⟩) (by assumption) ?re5_6ft
    case hy5_6ft => ((intro w hSw; obtain ⟨q1, q2⟩ := hSw; have e1 := q1.c0; have e2 := q1.c1; have e3 := q2.c0; have e4 := q2.c1; go_simp) <;> with_reducible rfl)
    (try simp only [Act.put, List.setIfInBounds_toArray, List.set_cons_zero, List.set_cons_succ])
    refine wpAnyH_take (i := 6) (oi := ({ dst := some 11, op := Go.Op.load 47 (Go.Operand.tmp 10), type := 47, pos := "number.go:62", after := #[{ on := 5, ground := Go.Ground.data }], guard := none } : Oper)) (v := ?v6_7ft) rfl (by kernel_rfl) (by kernel_rfl) (by kernel_rfl) (fun _ _ _ h => h) (Or.inl ⟨by rfl, ?hy6_7ft⟩) (by assumption) ?re6_7ft
    case hy6_7ft => ((intro w hSw; obtain ⟨q1, q2⟩ := hSw; have e1 := q1.c0; have e2 := q1.c1; have e3 := q2.c0; have e4 := q2.c1; go_simp) <;> with_reducible rfl)
    (try simp only [Act.put, List.setIfInBounds_toArray, List.set_cons_zero, List.set_cons_succ])
    refine wpAnyH_take (i := 7) (oi := ({ dst := some 12, op := Go.Op.fieldAddr 49 (Go.Operand.tmp 3) 1, type := 0, pos := "number.go:62", after := #[], guard := none } : Oper)) (v := ?v7_8ft) rfl (by kernel_rfl) (by kernel_rfl) (by kernel_rfl) (fun _ _ _ h => h) (Or.inl ⟨by rfl, ?hy7_8ft⟩) (by assumption) ?re7_8ft
    case hy7_8ft => ((intro w hSw; obtain ⟨q1, q2⟩ := hSw; have e1 := q1.c0; have e2 := q1.c1; have e3 := q2.c0; have e4 := q2.c1; go_simp) <;> with_reducible rfl)
    (try simp only [Act.put, List.setIfInBounds_toArray, List.set_cons_zero, List.set_cons_succ])
    refine wpAnyH_take (i := 8) (oi := ({ dst := some 13, op := Go.Op.load 47 (Go.Operand.tmp 12), type := 47, pos := "number.go:62", after := #[{ on := 7, ground := Go.Ground.data }], guard := none } : Oper)) (v := ?v8_9ft) rfl (by kernel_rfl) (by kernel_rfl) (by kernel_rfl) (fun _ _ _ h => h) (Or.inl ⟨by rfl, ?hy8_9ft⟩) (by assumption) ?re8_9ft
    case hy8_9ft => ((intro w hSw; obtain ⟨q1, q2⟩ := hSw; have e1 := q1.c0; have e2 := q1.c1; have e3 := q2.c0; have e4 := q2.c1; go_simp) <;> with_reducible rfl)
    (try simp only [Act.put, List.setIfInBounds_toArray, List.set_cons_zero, List.set_cons_succ])
    refine wpAnyH_ready (rs := [9]) (by kernel_rfl) (by simp) ?_
    refine AllReadyH.cons (o := ({ dst := some 14, op := Go.Op.call { callee := Go.Callee.value (Go.Operand.func 59), args := #[Go.Operand.tmp 11, Go.Operand.tmp 13], argTypes := #[47, 47] }, type := 47, pos := "number.go:62", after := #[{ on := 6, ground := Go.Ground.data }, { on := 8, ground := Go.Ground.data }], guard := none } : Oper)) rfl (fun K hK => ?_) ?_
    · go_simp
      go_at_call 59
      refine (CA.out _ HB3.out.drew).mono ?_
      rintro e w1 ⟨g, rfl, n1, B1⟩
      have hW1 := HW.out.keep (drew_left B1) (by simp only [Go.heap_drew, World.size_alloc]; omega); have N1 := Lib.hid n1; have BB1 := Lib.hid (HB3.out.trans ((drew_left B1).mono (by simp only [Go.heap_drew, World.size_alloc]; omega))); have HW1' := Lib.hid hW1; clear n1 hW1
      (try go_wp2_with fail)
      refine hK.out _ _ ?_ (fun hHeld => ?_)
      · exact ⟨hHeld.1.keep B1 hHeld.1.lt, hHeld.2.keep B1 hHeld.2.lt⟩
      clear hK K
      (try simp only [Act.put, List.setIfInBounds_toArray, List.set_cons_zero, List.set_cons_succ])
      refine wpAnyH_ready (rs := [10]) (by kernel_rfl) (by simp) ?_
      refine AllReadyH.cons (o := ({ dst := some 15, op := Go.Op.call { callee := Go.Callee.value (Go.Operand.func 55), args := #[Go.Operand.tmp 9, Go.Operand.tmp 14], argTypes := #[4, 47] }, type := 49, pos := "number.go:62", after := #[{ on := 4, ground := Go.Ground.data }, { on := 9, ground := Go.Ground.data }, { on := 9, ground := Go.Ground.chain }], guard := none } : Oper)) rfl (fun K hK => ?_) ?_
      · go_simp
        go_at_call 55
        refine (CS.out _ _ _ _ N1.out hg).mono ?_
        rintro e w2 ⟨q, a, k, c, rfl, hq, n2, B2⟩
        have h0 := HW1'.out.keep B2 HW1'.out.lt; have c0 := h0.c0; have f0 := h0.f 0; have c1' := h0.c1; have N2 := Lib.hid (fun j (hj : 2 ≤ j) => h0.c2 hj); have hA := h0.s0 (.bool q); have c1 := hA.c1; have f1 := hA.f 1; have HA := Lib.hid (hA.s1 (.slice a k c)); clear hA; have HN2 := Lib.hid n2; have BB2 := Lib.hid (BB1.out.trans (B2.mono BB1.out.size)); have HZ := Lib.hid hq; clear h0 n2 hq
        (try go_wp2_with fail)
        refine hK.out _ _ ?_ (fun hHeld => ?_)
        · exact ⟨hHeld.1.keep B2 hHeld.1.lt, hHeld.2.keep B2 hHeld.2.lt⟩
        clear hK K
        (try simp only [Act.put, List.setIfInBounds_toArray, List.set_cons_zero, List.set_cons_succ])
        refine wpAnyH_ready (rs := [11]) (by kernel_rfl) (by simp) ?_
        refine AllReadyH.cons (o := ({ dst := none, op := Go.Op.store 49 (Go.Operand.tmp 4) (Go.Operand.tmp 15), type := 0, pos := "number.go:62", after := #[{ on := 10, ground := Go.Ground.data }, { on := 10, ground := Go.Ground.chain }, { on := 0, ground := Go.Ground.phase }, { on := 1, ground := Go.Ground.phase }, { on := 2, ground := Go.Ground.phase }, { on := 3, ground := Go.Ground.phase }, { on := 4, ground := Go.Ground.phase }, { on := 5, ground := Go.Ground.phase }, { on := 6, ground := Go.Ground.phase }, { on := 7, ground := Go.Ground.phase }, { on := 8, ground := Go.Ground.phase }, { on := 9, ground := Go.Ground.phase }, { on := 10, ground := Go.Ground.phase }], guard := none } : Oper)) rfl (fun K hK => ?_) ?_
        · go_simp
          refine hK.out _ _ ?_ (fun hHeld => ?_)
          · exact ⟨(hHeld.1.far (by omega)).far (by omega), (hHeld.2.far (by omega)).far (by omega)⟩
          clear hK K
          (try simp only [Act.put, List.setIfInBounds_toArray, List.set_cons_zero, List.set_cons_succ])
          refine wpAnyH_done (by kernel_rfl) ?_ _
          refine NoPanic.normal ?_
          go_wp2_with fail
          have hB9 := (BB2.out.setCell (p := ⟨w.heap.size + 1 + 1, 0, none⟩) (by show w.heap.size ≤ w.heap.size + 1 + 1; omega) (.bool q)).setCell (p := ⟨w.heap.size + 1 + 1, 1, none⟩) (by show w.heap.size ≤ w.heap.size + 1 + 1; omega) (.slice a k c)
          have hN9 := HN2.out.over (w2 := (w2.setCell ⟨w.heap.size + 1 + 1, 0, none⟩ (.bool q)).setCell ⟨w.heap.size + 1 + 1, 1, none⟩ (.slice a k c)) c0 c1' (fun q hq => (Below.heap_setCell _ _ _ _ hq).trans (Below.heap_setCell _ _ _ _ hq)) (by simp [World.setCell]) N2.out (fun x e => by cases e)
          refine bodyPost_ret (results_cell_row rfl _ _ (w.heap.size + 1 + 1) 49 #[.bool q, .slice a k c] (0, 0) _ rfl HA.out Tryz.underlying49 rfl info_number) rfl ?_
          exact ⟨_, rfl, ⟨.slice a k c, by rw [HP.out, HZ.out]; rfl, by rw [HQ.out]; exact hN9⟩, hB9⟩
        exact AllReadyH.nil
      exact AllReadyH.nil
    exact AllReadyH.nil
  · go_enter Tryz.func35, Tryz.ntmps35
    have hB3 := (((below_alloc w (.cells #[.bool true, .slice a1 k1 c1] 49)).alloc (by simp only [World.size_alloc]; omega) (.cells #[.bool false, .slice a2 k2 c2] 49)).alloc (by simp only [World.size_alloc]; omega) (.cells #[.bool false, .slice none 0 0] 49))
    obtain ⟨hW0, hW1, hW⟩ := three_blocks w (.bool true) (.slice a1 k1 c1) (.bool false) (.slice a2 k2 c2) (.bool false) (.slice none 0 0)
    have HB3 := Lib.hid hB3
    have HW := Lib.hid hW
    have HW0 := Lib.hid hW0
    have HW1 := Lib.hid hW1
    clear hB3 hW hW0 hW1
    go_wp2_with fail
    refine wp_region_noPanic ?_
    refine wp_region_held_drew (S := fun W => NBlk W w.heap.size (.bool true) (.slice a1 k1 c1) ∧ NBlk W (w.heap.size + 1) (.bool false) (.slice a2 k2 c2)) (by kernel_rfl) ?_ (fun hHeld => ?_)
    · exact ⟨HW0.out, HW1.out⟩
    refine wpAnyH_take (i := 0) (oi := ({ dst := some 5, op := Go.Op.fieldAddr 49 (Go.Operand.tmp 2) 0, type := 0, pos := "number.go:62", after := #[], guard := none } : Oper)) (v := ?v0_1tf) rfl (by kernel_rfl) (by kernel_rfl) (by kernel_rfl) (fun _ _ _ h => h) (Or.inl ⟨by rfl, ?hy0_1tf⟩) (by assumption) ?re0_1tf
    case hy0_1tf => ((intro w hSw; obtain ⟨q1, q2⟩ := hSw; have e1 := q1.c0; have e2 := q1.c1; have e3 := q2.c0; have e4 := q2.c1; go_simp) <;> with_reducible rfl)
    (try simp only [Act.put, List.setIfInBounds_toArray, List.set_cons_zero, List.set_cons_succ])
    refine wpAnyH_take (i := 1) (oi := ({ dst := some 6, op := Go.Op.load 4 (Go.Operand.tmp 5), type := 4, pos := "number.go:62", after := #[{ on := 0, ground := Go.Ground.data }], guard := none } : Oper)) (v := ?v1_2tf) rfl (by kernel_rfl) (by kernel_rfl) (by kernel_rfl) (fun _ _ _ h => h) (Or.inl ⟨by rfl, ?hy1_2tf⟩) (by assumption) ?re1_2tf
    case hy1_2tf => ((intro w hSw; obtain ⟨q1, q2⟩ := hSw; have e1 := q1.c0; have e2 := q1.c1; have e3 := q2.c0; have e4 := q2.c1; go_simp) <;> with_reducible rfl)
    (try simp only [Act.put, List.setIfInBounds_toArray, List.set_cons_zero, List.set_cons_succ])
    refine wpAnyH_take (i := 2) (oi := ({ dst := some 7, op := Go.Op.fieldAddr 49 (Go.Operand.tmp 3) 0, type := 0, pos := "number.go:62", after := #[], guard := none } : Oper)) (v := ?v2_3tf) rfl (by kernel_rfl) (by kernel_rfl) (by kernel_rfl) (fun _ _ _ h => h) (Or.inl ⟨by rfl, ?hy2_3tf⟩) (by assumption) ?re2_3tf
    case hy2_3tf => ((intro w hSw; obtain ⟨q1, q2⟩ := hSw; have e1 := q1.c0; have e2 := q1.c1; have e3 := q2.c0; have e4 := q2.c1; go_simp) <;> with_reducible rfl)
    (try simp only [Act.put, List.setIfInBounds_toArray, List.set_cons_zero, List.set_cons_succ])
    refine wpAnyH_take (i := 3) (oi := ({ dst := some 8, op := Go.Op.load 4 (Go.Operand.tmp 7), type := 4, pos := "number.go:62", after := #[{ on := 2, ground := Go.Ground.data }], guard := none } : Oper)) (v := ?v3_4tf) rfl (by kernel_rfl) (by kernel_rfl) (by kernel_rfl) (fun _ _ _ h => h) (Or.inl ⟨by rfl, ?hy3_4tf⟩) (by assumption) ?re3_4tf
    case hy3_4tf => ((intro w hSw; obtain ⟨q1, q2⟩ := hSw; have e1 := q1.c0; have e2 := q1.c1; have e3 := q2.c0; have e4 := q2.c1; go_simp) <;> with_reducible rfl)
    (try simp only [Act.put, List.setIfInBounds_toArray, List.set_cons_zero, List.set_cons_succ])
    refine wpAnyH_take (i := 4) (oi := ({ dst := some 9, op := Go.Op.binOp Go.BinOp.neq 4 (Go.Operand.tmp 6) (Go.Operand.tmp 8) 4, type := 4, pos := "number.go:62", after := #[{ on := 1, ground := Go.Ground.data }, { on := 3, ground := Go.Ground.data }], guard := none } : Oper)) (v := ?v4_5tf) rfl (by kernel_rfl) (by kernel_rfl) (by kernel_rfl) (fun _ _ _ h => h) (Or.inl ⟨by rfl, ?hy4_5tf⟩) (by assumption) ?re4_5tf
    case hy4_5tf => ((intro w hSw; obtain ⟨q1, q2⟩ := hSw; have e1 := q1.c0; have e2 := q1.c1; have e3 := q2.c0; have e4 := q2.c1; go_simp) <;> with_reducible rfl)
    (try simp only [Act.put, List.setIfInBounds_toArray, List.set_cons_zero, List.set_cons_succ])
    refine wpAnyH_take (i := 5) (oi := ({ dst := some 10, op := Go.Op.fieldAddr 49 (Go.Operand.tmp 2) 1, type := 0, pos := "number.go:62", after := #[], guard := none } : Oper)) (v := ?v5_6tf) rfl (by kernel_rfl) (by kernel_rfl) (by kernel_rfl) (fun _ _ _ h => h) (Or.inl ⟨by rfl, ?hy5_6tf⟩) (by assumption) ?re5_6tf
    case hy5_6tf => ((intro w hSw; obtain ⟨q1, q2⟩ := hSw; have e1 := q1.c0; have e2 := q1.c1; have e3 := q2.c0; have e4 := q2.c1; go_simp) <;> with_reducible rfl)
    (try simp only [Act.put, List.setIfInBounds_toArray, List.set_cons_zero, List.set_cons_succ])
    refine wpAnyH_take (i := 6) (oi := ({ dst := some 11, op := Go.Op.load 47 (Go.Operand.tmp 10), type := 47, pos := "number.go:62", after := #[{ on := 5, ground := Go.Ground.data }], guard := none } : Oper)) (v := ?v6_7tf) rfl (by kernel_rfl) (by kernel_rfl) (by kernel_rfl) (fun _ _ _ h => h) (Or.inl ⟨by rfl, ?hy6_7tf⟩) (by assumption) ?re6_7tf
    case hy6_7tf => ((intro w hSw; obtain ⟨q1, q2⟩ := hSw; have e1 := q1.c0; have e2 := q1.c1; have e3 := q2.c0; have e4 := q2.c1; go_simp) <;> with_reducible rfl)
    (try simp only [Act.put, List.setIfInBounds_toArray, List.set_cons_zero, List.set_cons_succ])
    refine wpAnyH_take (i := 7) (oi := ({ dst := some 12, op := Go.Op.fieldAddr 49 (Go.Operand.tmp 3) 1, type := 0, pos := "number.go:62", after := #[], guard := none } : Oper)) (v := ?v7_8tf) rfl (by kernel_rfl) (by kernel_rfl) (by kernel_rfl) (fun _ _ _ h => h) (Or.inl ⟨by rfl, ?hy7_8tf⟩) (by assumption) ?re7_8tf
    case hy7_8tf => ((intro w hSw; obtain ⟨q1, q2⟩ := hSw; have e1 := q1.c0; have e2 := q1.c1; have e3 := q2.c0; have e4 := q2.c1; go_simp) <;> with_reducible rfl)
    (try simp only [Act.put, List.setIfInBounds_toArray, List.set_cons_zero, List.set_cons_succ])
    refine wpAnyH_take (i := 8) (oi := ({ dst := some 13, op := Go.Op.load 47 (Go.Operand.tmp 12), type := 47, pos := "number.go:62", after := #[{ on := 7, ground := Go.Ground.data }], guard := none } : Oper)) (v := ?v8_9tf) rfl (by kernel_rfl) (by kernel_rfl) (by kernel_rfl) (fun _ _ _ h => h) (Or.inl ⟨by rfl, ?hy8_9tf⟩) (by assumption) ?re8_9tf
    case hy8_9tf => ((intro w hSw; obtain ⟨q1, q2⟩ := hSw; have e1 := q1.c0; have e2 := q1.c1; have e3 := q2.c0; have e4 := q2.c1; go_simp) <;> with_reducible rfl)
    (try simp only [Act.put, List.setIfInBounds_toArray, List.set_cons_zero, List.set_cons_succ])
    refine wpAnyH_ready (rs := [9]) (by kernel_rfl) (by simp) ?_
    refine AllReadyH.cons (o := ({ dst := some 14, op := Go.Op.call { callee := Go.Callee.value (Go.Operand.func 59), args := #[Go.Operand.tmp 11, Go.Operand.tmp 13], argTypes := #[47, 47] }, type := 47, pos := "number.go:62", after := #[{ on := 6, ground := Go.Ground.data }, { on := 8, ground := Go.Ground.data }], guard := none } : Oper)) rfl (fun K hK => ?_) ?_
    · go_simp
      go_at_call 59
      refine (CA.out _ HB3.out.drew).mono ?_
      rintro e w1 ⟨g, rfl, n1, B1⟩
      have hW1 := HW.out.keep (drew_left B1) (by simp only [Go.heap_drew, World.size_alloc]; omega); have N1 := Lib.hid n1; have BB1 := Lib.hid (HB3.out.trans ((drew_left B1).mono (by simp only [Go.heap_drew, World.size_alloc]; omega))); have HW1' := Lib.hid hW1; clear n1 hW1
      (try go_wp2_with fail)
      refine hK.out _ _ ?_ (fun hHeld => ?_)
      · exact ⟨hHeld.1.keep B1 hHeld.1.lt, hHeld.2.keep B1 hHeld.2.lt⟩
      clear hK K
      (try simp only [Act.put, List.setIfInBounds_toArray, List.set_cons_zero, List.set_cons_succ])
      refine wpAnyH_ready (rs := [10]) (by kernel_rfl) (by simp) ?_
      refine AllReadyH.cons (o := ({ dst := some 15, op := Go.Op.call { callee := Go.Callee.value (Go.Operand.func 55), args := #[Go.Operand.tmp 9, Go.Operand.tmp 14], argTypes := #[4, 47] }, type := 49, pos := "number.go:62", after := #[{ on := 4, ground := Go.Ground.data }, { on := 9, ground := Go.Ground.data }, { on := 9, ground := Go.Ground.chain }], guard := none } : Oper)) rfl (fun K hK => ?_) ?_
      · go_simp
        go_at_call 55
        refine (CS.out _ _ _ _ N1.out hg).mono ?_
        rintro e w2 ⟨q, a, k, c, rfl, hq, n2, B2⟩
        have h0 := HW1'.out.keep B2 HW1'.out.lt; have c0 := h0.c0; have f0 := h0.f 0; have c1' := h0.c1; have N2 := Lib.hid (fun j (hj : 2 ≤ j) => h0.c2 hj); have hA := h0.s0 (.bool q); have c1 := hA.c1; have f1 := hA.f 1; have HA := Lib.hid (hA.s1 (.slice a k c)); clear hA; have HN2 := Lib.hid n2; have BB2 := Lib.hid (BB1.out.trans (B2.mono BB1.out.size)); have HZ := Lib.hid hq; clear h0 n2 hq
        (try go_wp2_with fail)
        refine hK.out _ _ ?_ (fun hHeld => ?_)
        · exact ⟨hHeld.1.keep B2 hHeld.1.lt, hHeld.2.keep B2 hHeld.2.lt⟩
        clear hK K
        (try simp only [Act.put, List.setIfInBounds_toArray, List.set_cons_zero, List.set_cons_succ])
        refine wpAnyH_ready (rs := [11]) (by kernel_rfl) (by simp) ?_
        refine AllReadyH.cons (o := ({ dst := none, op := Go.Op.store 49 (Go.Operand.tmp 4) (Go.Operand.tmp 15), type := 0, pos := "number.go:62", after := #[{ on := 10, ground := Go.Ground.data }, { on := 10, ground := Go.Ground.chain }, { on := 0, ground := Go.Ground.phase }, { on := 1, ground := Go.Ground.phase }, { on := 2, ground := Go.Ground.phase }, { on := 3, ground := Go.Ground.phase }, { on := 4, ground := Go.Ground.phase }, { on := 5, ground := Go.Ground.phase }, { on := 6, ground := Go.Ground.phase }, { on := 7, ground := Go.Ground.phase }, { on := 8, ground := Go.Ground.phase }, { on := 9, ground := Go.Ground.phase }, { on := 10, ground := Go.Ground.phase }], guard := none } : Oper)) rfl (fun K hK => ?_) ?_
        · go_simp
          refine hK.out _ _ ?_ (fun hHeld => ?_)
          · exact ⟨(hHeld.1.far (by omega)).far (by omega), (hHeld.2.far (by omega)).far (by omega)⟩
          clear hK K
          (try simp only [Act.put, List.setIfInBounds_toArray, List.set_cons_zero, List.set_cons_succ])
          refine wpAnyH_done (by kernel_rfl) ?_ _
          refine NoPanic.normal ?_
          go_wp2_with fail
          have hB9 := (BB2.out.setCell (p := ⟨w.heap.size + 1 + 1, 0, none⟩) (by show w.heap.size ≤ w.heap.size + 1 + 1; omega) (.bool q)).setCell (p := ⟨w.heap.size + 1 + 1, 1, none⟩) (by show w.heap.size ≤ w.heap.size + 1 + 1; omega) (.slice a k c)
          have hN9 := HN2.out.over (w2 := (w2.setCell ⟨w.heap.size + 1 + 1, 0, none⟩ (.bool q)).setCell ⟨w.heap.size + 1 + 1, 1, none⟩ (.slice a k c)) c0 c1' (fun q hq => (Below.heap_setCell _ _ _ _ hq).trans (Below.heap_setCell _ _ _ _ hq)) (by simp [World.setCell]) N2.out (fun x e => by cases e)
          refine bodyPost_ret (results_cell_row rfl _ _ (w.heap.size + 1 + 1) 49 #[.bool q, .slice a k c] (0, 0) _ rfl HA.out Tryz.underlying49 rfl info_number) rfl ?_
          exact ⟨_, rfl, ⟨.slice a k c, by rw [HP.out, HZ.out]; rfl, by rw [HQ.out]; exact hN9⟩, hB9⟩
        exact AllReadyH.nil
      exact AllReadyH.nil
    exact AllReadyH.nil
  · go_enter Tryz.func35, Tryz.ntmps35
    have hB3 := (((below_alloc w (.cells #[.bool true, .slice a1 k1 c1] 49)).alloc (by simp only [World.size_alloc]; omega) (.cells #[.bool true, .slice a2 k2 c2] 49)).alloc (by simp only [World.size_alloc]; omega) (.cells #[.bool false, .slice none 0 0] 49))
    obtain ⟨hW0, hW1, hW⟩ := three_blocks w (.bool true) (.slice a1 k1 c1) (.bool true) (.slice a2 k2 c2) (.bool false) (.slice none 0 0)
    have HB3 := Lib.hid hB3
    have HW := Lib.hid hW
    have HW0 := Lib.hid hW0
    have HW1 := Lib.hid hW1
    clear hB3 hW hW0 hW1
    go_wp2_with fail
    refine wp_region_noPanic ?_
    refine wp_region_held_drew (S := fun W => NBlk W w.heap.size (.bool true) (.slice a1 k1 c1) ∧ NBlk W (w.heap.size + 1) (.bool true) (.slice a2 k2 c2)) (by kernel_rfl) ?_ (fun hHeld => ?_)
    · exact ⟨HW0.out, HW1.out⟩
    refine wpAnyH_take (i := 0) (oi := ({ dst := some 5, op := Go.Op.fieldAddr 49 (Go.Operand.tmp 2) 0, type := 0, pos := "number.go:62", after := #[], guard := none } : Oper)) (v := ?v0_1tt) rfl (by kernel_rfl) (by kernel_rfl) (by kernel_rfl) (fun _ _ _ h => h) (Or.inl ⟨by rfl, ?hy0_1tt⟩) (by assumption) ?re0_1tt
    case hy0_1tt => ((intro w hSw; obtain ⟨q1, q2⟩ := hSw; have e1 := q1.c0; have e2 := q1.c1; have e3 := q2.c0; have e4 := q2.c1; go_simp) <;> with_reducible rfl)
    (try simp only [Act.put, List.setIfInBounds_toArray, List.set_cons_zero, List.set_cons_succ])
    refine wpAnyH_take (i := 1) (oi := ({ dst := some 6, op := Go.Op.load 4 (Go.Operand.tmp 5), type := 4, pos := "number.go:62", after := #[{ on := 0, ground := Go.Ground.data }], guard := none } : Oper)) (v := ?v1_2tt) rfl (by kernel_rfl) (by kernel_rfl) (by kernel_rfl) (fun _ _ _ h => h) (Or.inl ⟨by rfl, ?hy1_2tt⟩) (by assumption) ?re1_2tt
    case hy1_2tt => ((intro w hSw; obtain ⟨q1, q2⟩ := hSw; have e1 := q1.c0; have e2 := q1.c1; have e3 := q2.c0; have e4 := q2.c1; go_simp) <;> with_reducible rfl)
    (try simp only [Act.put, List.setIfInBounds_toArray, List.set_cons_zero, List.set_cons_succ])
    refine wpAnyH_take (i := 2) (oi := ({ dst := some 7, op := Go.Op.fieldAddr 49 (Go.Operand.tmp 3) 0, type := 0, pos := "number.go:62", after := #[], guard := none } : Oper)) (v := ?v2_3tt) rfl (by kernel_rfl) (by kernel_rfl) (by kernel_rfl) (fun _ _ _ h => h) (Or.inl ⟨by rfl, ?hy2_3tt⟩) (by assumption) ?re2_3tt
    case hy2_3tt => ((intro w hSw; obtain ⟨q1, q2⟩ := hSw; have e1 := q1.c0; have e2 := q1.c1; have e3 := q2.c0; have e4 := q2.c1; go_simp) <;> with_reducible rfl)
    (try simp only [Act.put, List.setIfInBounds_toArray, List.set_cons_zero, List.set_cons_succ])
    refine wpAnyH_take (i := 3) (oi := ({ dst := some 8, op := Go.Op.load 4 (Go.Operand.tmp 7), type := 4, pos := "number.go:62", after := #[{ on := 2, ground := Go.Ground.data }], guard := none } : Oper)) (v := ?v3_4tt) rfl (by kernel_rfl) (by kernel_rfl) (by kernel_rfl) (fun _ _ _ h => h) (Or.inl ⟨by rfl, ?hy3_4tt⟩) (by assumption) ?re3_4tt
    case hy3_4tt => ((intro w hSw; obtain ⟨q1, q2⟩ := hSw; have e1 := q1.c0; have e2 := q1.c1; have e3 := q2.c0; have e4 := q2.c1; go_simp) <;> with_reducible rfl)
    (try simp only [Act.put, List.setIfInBounds_toArray, List.set_cons_zero, List.set_cons_succ])
    refine wpAnyH_take (i := 4) (oi := ({ dst := some 9, op := Go.Op.binOp Go.BinOp.neq 4 (Go.Operand.tmp 6) (Go.Operand.tmp 8) 4, type := 4, pos := "number.go:62", after := #[{ on := 1, ground := Go.Ground.data }, { on := 3, ground := Go.Ground.data }], guard := none } : Oper)) (v := ?v4_5tt) rfl (by kernel_rfl) (by kernel_rfl) (by kernel_rfl) (fun _ _ _ h => h) (Or.inl ⟨by rfl, ?hy4_5tt⟩) (by assumption) ?re4_5tt
    case hy4_5tt => ((intro w hSw; obtain ⟨q1, q2⟩ := hSw; have e1 := q1.c0; have e2 := q1.c1; have e3 := q2.c0; have e4 := q2.c1; go_simp) <;> with_reducible rfl)
    (try simp only [Act.put, List.setIfInBounds_toArray, List.set_cons_zero, List.set_cons_succ])
    refine wpAnyH_take (i := 5) (oi := ({ dst := some 10, op := Go.Op.fieldAddr 49 (Go.Operand.tmp 2) 1, type := 0, pos := "number.go:62", after := #[], guard := none } : Oper)) (v := ?v5_6tt) rfl (by kernel_rfl) (by kernel_rfl) (by kernel_rfl) (fun _ _ _ h => h) (Or.inl ⟨by rfl, ?hy5_6tt⟩) (by assumption) ?re5_6tt
    case hy5_6tt => ((intro w hSw; obtain ⟨q1, q2⟩ := hSw; have e1 := q1.c0; have e2 := q1.c1; have e3 := q2.c0; have e4 := q2.c1; go_simp) <;> with_reducible rfl)
    (try simp only [Act.put, List.setIfInBounds_toArray, List.set_cons_zero, List.set_cons_succ])
    refine wpAnyH_take (i := 6) (oi := ({ dst := some 11, op := Go.Op.load 47 (Go.Operand.tmp 10), type := 47, pos := "number.go:62", after := #[{ on := 5, ground := Go.Ground.data }], guard := none } : Oper)) (v := ?v6_7tt) rfl (by kernel_rfl) (by kernel_rfl) (by kernel_rfl) (fun _ _ _ h => h) (Or.inl ⟨by rfl, ?hy6_7tt⟩) (by assumption) ?re6_7tt
    case hy6_7tt => ((intro w hSw; obtain ⟨q1, q2⟩ := hSw; have e1 := q1.c0; have e2 := q1.c1; have e3 := q2.c0; have e4 := q2.c1; go_simp) <;> with_reducible rfl)
    (try simp only [Act.put, List.setIfInBounds_toArray, List.set_cons_zero, List.set_cons_succ])
    refine wpAnyH_take (i := 7) (oi := ({ dst := some 12, op := Go.Op.fieldAddr 49 (Go.Operand.tmp 3) 1, type := 0, pos := "number.go:62", after := #[], guard := none } : Oper)) (v := ?v7_8tt) rfl (by kernel_rfl) (by kernel_rfl) (by kernel_rfl) (fun _ _ _ h => h) (Or.inl ⟨by rfl, ?hy7_8tt⟩) (by assumption) ?re7_8tt
    case hy7_8tt => ((intro w hSw; obtain ⟨q1, q2⟩ := hSw; have e1 := q1.c0; have e2 := q1.c1; have e3 := q2.c0; have e4 := q2.c1; go_simp) <;> with_reducible rfl)
    (try simp only [Act.put, List.setIfInBounds_toArray, List.set_cons_zero, List.set_cons_succ])
    refine wpAnyH_take (i := 8) (oi := ({ dst := some 13, op := Go.Op.load 47 (Go.Operand.tmp 12), type := 47, pos := "number.go:62", after := #[{ on := 7, ground := Go.Ground.data }], guard := none } : Oper)) (v := ?v8_9tt) rfl (by kernel_rfl) (by kernel_rfl) (by kernel_rfl) (fun _ _ _ h => h) (Or.inl ⟨by rfl, ?hy8_9tt⟩) (by assumption) ?re8_9tt
    case hy8_9tt => ((intro w hSw; obtain ⟨q1, q2⟩ := hSw; have e1 := q1.c0; have e2 := q1.c1; have e3 := q2.c0; have e4 := q2.c1; go_simp) <;> with_reducible rfl)
    (try simp only [Act.put, List.setIfInBounds_toArray, List.set_cons_zero, List.set_cons_succ])
    refine wpAnyH_ready (rs := [9]) (by kernel_rfl) (by simp) ?_
    refine AllReadyH.cons (o := ({ dst := some 14, op := Go.Op.call { callee := Go.Callee.value (Go.Operand.func 59), args := #[Go.Operand.tmp 11, Go.Operand.tmp 13], argTypes := #[47, 47] }, type := 47, pos := "number.go:62", after := #[{ on := 6, ground := Go.Ground.data }, { on := 8, ground := Go.Ground.data }], guard := none } : Oper)) rfl (fun K hK => ?_) ?_
    · go_simp
      go_at_call 59
      refine (CA.out _ HB3.out.drew).mono ?_
      rintro e w1 ⟨g, rfl, n1, B1⟩
      have hW1 := HW.out.keep (drew_left B1) (by simp only [Go.heap_drew, World.size_alloc]; omega); have N1 := Lib.hid n1; have BB1 := Lib.hid (HB3.out.trans ((drew_left B1).mono (by simp only [Go.heap_drew, World.size_alloc]; omega))); have HW1' := Lib.hid hW1; clear n1 hW1
      (try go_wp2_with fail)
      refine hK.out _ _ ?_ (fun hHeld => ?_)
      · exact ⟨hHeld.1.keep B1 hHeld.1.lt, hHeld.2.keep B1 hHeld.2.lt⟩
      clear hK K
      (try simp only [Act.put, List.setIfInBounds_toArray, List.set_cons_zero, List.set_cons_succ])
      refine wpAnyH_ready (rs := [10]) (by kernel_rfl) (by simp) ?_
      refine AllReadyH.cons (o := ({ dst := some 15, op := Go.Op.call { callee := Go.Callee.value (Go.Operand.func 55), args := #[Go.Operand.tmp 9, Go.Operand.tmp 14], argTypes := #[4, 47] }, type := 49, pos := "number.go:62", after := #[{ on := 4, ground := Go.Ground.data }, { on := 9, ground := Go.Ground.data }, { on := 9, ground := Go.Ground.chain }], guard := none } : Oper)) rfl (fun K hK => ?_) ?_
      · go_simp
        go_at_call 55
        refine (CS.out _ _ _ _ N1.out hg).mono ?_
        rintro e w2 ⟨q, a, k, c, rfl, hq, n2, B2⟩
        have h0 := HW1'.out.keep B2 HW1'.out.lt; have c0 := h0.c0; have f0 := h0.f 0; have c1' := h0.c1; have N2 := Lib.hid (fun j (hj : 2 ≤ j) => h0.c2 hj); have hA := h0.s0 (.bool q); have c1 := hA.c1; have f1 := hA.f 1; have HA := Lib.hid (hA.s1 (.slice a k c)); clear hA; have HN2 := Lib.hid n2; have BB2 := Lib.hid (BB1.out.trans (B2.mono BB1.out.size)); have HZ := Lib.hid hq; clear h0 n2 hq
        (try go_wp2_with fail)
        refine hK.out _ _ ?_ (fun hHeld => ?_)
        · exact ⟨hHeld.1.keep B2 hHeld.1.lt, hHeld.2.keep B2 hHeld.2.lt⟩
        clear hK K
        (try simp only [Act.put, List.setIfInBounds_toArray, List.set_cons_zero, List.set_cons_succ])
        refine wpAnyH_ready (rs := [11]) (by kernel_rfl) (by simp) ?_
        refine AllReadyH.cons (o := ({ dst := none, op := Go.Op.store 49 (Go.Operand.tmp 4) (Go.Operand.tmp 15), type := 0, pos := "number.go:62", after := #[{ on := 10, ground := Go.Ground.data }, { on := 10, ground := Go.Ground.chain }, { on := 0, ground := Go.Ground.phase }, { on := 1, ground := Go.Ground.phase }, { on := 2, ground := Go.Ground.phase }, { on := 3, ground := Go.Ground.phase }, { on := 4, ground := Go.Ground.phase }, { on := 5, ground := Go.Ground.phase }, { on := 6, ground := Go.Ground.phase }, { on := 7, ground := Go.Ground.phase }, { on := 8, ground := Go.Ground.phase }, { on := 9, ground := Go.Ground.phase }, { on := 10, ground := Go.Ground.phase }], guard := none } : Oper)) rfl (fun K hK => ?_) ?_
        · go_simp
          refine hK.out _ _ ?_ (fun hHeld => ?_)
          · exact ⟨(hHeld.1.far (by omega)).far (by omega), (hHeld.2.far (by omega)).far (by omega)⟩
          clear hK K
          (try simp only [Act.put, List.setIfInBounds_toArray, List.set_cons_zero, List.set_cons_succ])
          refine wpAnyH_done (by kernel_rfl) ?_ _
          refine NoPanic.normal ?_
          go_wp2_with fail
          have hB9 := (BB2.out.setCell (p := ⟨w.heap.size + 1 + 1, 0, none⟩) (by show w.heap.size ≤ w.heap.size + 1 + 1; omega) (.bool q)).setCell (p := ⟨w.heap.size + 1 + 1, 1, none⟩) (by show w.heap.size ≤ w.heap.size + 1 + 1; omega) (.slice a k c)
          have hN9 := HN2.out.over (w2 := (w2.setCell ⟨w.heap.size + 1 + 1, 0, none⟩ (.bool q)).setCell ⟨w.heap.size + 1 + 1, 1, none⟩ (.slice a k c)) c0 c1' (fun q hq => (Below.heap_setCell _ _ _ _ hq).trans (Below.heap_setCell _ _ _ _ hq)) (by simp [World.setCell]) N2.out (fun x e => by cases e)
          refine bodyPost_ret (results_cell_row rfl _ _ (w.heap.size + 1 + 1) 49 #[.bool q, .slice a k c] (0, 0) _ rfl HA.out Tryz.underlying49 rfl info_number) rfl ?_
          exact ⟨_, rfl, ⟨.slice a k c, by rw [HP.out, HZ.out]; rfl, by rw [HQ.out]; exact hN9⟩, hB9⟩
        exact AllReadyH.nil
      exact AllReadyH.nil
    exact AllReadyH.nil
end Go.Proofs.YtbdiofifjckceaaGreatDoor
