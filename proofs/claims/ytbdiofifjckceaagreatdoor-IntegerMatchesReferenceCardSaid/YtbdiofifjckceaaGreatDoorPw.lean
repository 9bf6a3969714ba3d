/- over of numbers with a sign. -/
import Derived.Test.YtbdiofifjckceaaGreatDoorPv
namespace Go.Proofs.YtbdiofifjckceaaGreatDoor
open Go.RowKit

theorem results_cells2 {fn : Func} {p q : Tmp} (h : fn.results = #[.cell p 49, .cell q 49]) (tmps : Array Value) (w : World) (g1 g2 : Nat) (x1 y1 x2 y2 : Value)
    (hp : tmps.getD p undef = .pointer (some ⟨g1, 0, none⟩)) (hq : tmps.getD q undef = .pointer (some ⟨g2, 0, none⟩)) (hg1 : NBlk w g1 x1 y1) (hg2 : NBlk w g2 x2 y2) :
    (results fn tmps).run Tryz.prog w = .ok (.tuple #[.agg #[x1, y1], .agg #[x2, y2]]) w := by
  have hp' : tmps[p]?.getD undef = .pointer (some ⟨g1, 0, none⟩) := by simpa using hp
  have hq' : tmps[q]?.getD undef = .pointer (some ⟨g2, 0, none⟩) := by simpa using hq
  simp [results, h, hp', hq', asAddr, Sem.run_bind, agg_yields hg1, agg_yields hg2]
theorem NBlk.alloc {w : World} {g : Nat} {x y : Value} (h : NBlk w g x y) (o : Obj) : NBlk (w.alloc o) g x y := (Go.heap_alloc_old _ _ h.lt).trans h
theorem NBlk.new (w : World) (x y : Value) : NBlk (w.alloc (.cells #[x, y] 49)) w.heap.size x y := Go.heap_alloc_new w _
theorem lit_one (W : World) : NSl (W.alloc (.cells #[.int .i64 1] 3)) (.slice (some ⟨W.heap.size, 0, none⟩) 1 1) 1 := by
  have hA : ABlk (W.alloc (.cells #[.int .i64 1] 3)) W.heap.size [1] := ⟨[], World.alloc_heap_new W _⟩
  have e : grp 1 = [1] := by rw [grp_pos (by decide)]; simp [grp_zero]
  rw [NSl, e]
  refine .inr ⟨_, 0, 1, rfl, by simp, by omega, hA.lt, ?_⟩
  exact ABlk.row (P := []) (S := []) (by simpa using hA)

theorem dv {x y q r : Int} (hy : y ≠ 0) (h : x = y.natAbs * q + r) (h0 : 0 ≤ r) (h1 : r < y.natAbs) : x / y = (if y < 0 then -q else q) ∧ x % y = r := by
  have _ := hy
  have hu := (Int.ediv_emod_unique (a := x) (b := (y.natAbs : Int)) (r := r) (q := q) (by omega)).2 ⟨by rw [h, Int.add_comm], h0, h1⟩
  by_cases hn : y < 0
  · obtain ⟨z, hz⟩ : ∃ z : Int, z = y.natAbs := ⟨_, rfl⟩
    rw [← hz] at hu
    have e : y = -z := by omega
    rw [if_pos hn, e, Int.ediv_neg, Int.emod_neg, hu.1, hu.2]
    exact ⟨rfl, rfl⟩
  · obtain ⟨z, hz⟩ : ∃ z : Int, z = y.natAbs := ⟨_, rfl⟩
    rw [← hz] at hu
    have e : y = z := by omega
    rw [if_neg hn, e]
    exact hu
theorem dv_pos {x y : Int} (hy : y ≠ 0) (hx : 0 ≤ x) : x / y = (if y < 0 then -((x.natAbs / y.natAbs : Nat) : Int) else ((x.natAbs / y.natAbs : Nat) : Int)) ∧ x % y = ((x.natAbs % y.natAbs : Nat) : Int) := by
  have h := Nat.div_add_mod x.natAbs y.natAbs
  have h2 := Nat.mod_lt x.natAbs (y := y.natAbs) (by omega)
  refine dv hy ?_ (by omega) (by omega)
  rw [← Int.natCast_mul, ← Int.natCast_add, h]; omega
theorem dv_zero {x y : Int} (hy : y ≠ 0) (hx : x < 0) (h0 : x.natAbs % y.natAbs = 0) : x / y = (if y < 0 then ((x.natAbs / y.natAbs : Nat) : Int) else -((x.natAbs / y.natAbs : Nat) : Int)) ∧ x % y = ((0 : Nat) : Int) := by
  have h := Nat.div_add_mod x.natAbs y.natAbs
  rw [h0] at h
  have h3 := dv (x := x) (y := y) (q := -((x.natAbs / y.natAbs : Nat) : Int)) (r := 0) hy (by
    rw [Int.mul_neg, ← Int.natCast_mul]; omega) (by omega) (by omega)
  refine ⟨?_, h3.2⟩
  rw [h3.1]; split <;> omega
theorem dv_neg {x y : Int} (hy : y ≠ 0) (hx : x < 0) (h0 : 0 < x.natAbs % y.natAbs) : x / y = (if y < 0 then ((x.natAbs / y.natAbs + 1 : Nat) : Int) else -((x.natAbs / y.natAbs + 1 : Nat) : Int)) ∧ x % y = ((y.natAbs - x.natAbs % y.natAbs : Nat) : Int) := by
  have h := Nat.div_add_mod x.natAbs y.natAbs
  have h2 := Nat.mod_lt x.natAbs (y := y.natAbs) (by omega)
  have h3 := dv (x := x) (y := y) (q := -((x.natAbs / y.natAbs + 1 : Nat) : Int)) (r := ((y.natAbs - x.natAbs % y.natAbs : Nat) : Int)) hy (by
    rw [Int.mul_neg, ← Int.natCast_mul, Nat.mul_add, Nat.mul_one]; omega) (by omega) (by omega)
  refine ⟨?_, h3.2⟩
  rw [h3.1]; split <;> omega

set_option maxRecDepth 100000 in
set_option maxHeartbeats 4000000 in
theorem nover_any (x y : Int) (v1 v2 : Value) (w : World) (hy : y ≠ 0) (hl1 : (grp x.natAbs).length ≤ 50000) (hl2 : (grp y.natAbs).length ≤ 50000) (h1 : Num w v1 x) (h2 : Num w v2 y) :
    Calls Tryz.prog 40 #[v1, v2] w fun e w' => ∃ r1 r2, e = .returned (.tuple #[r1, r2]) ∧ Num w' r1 (x / y) ∧ Num w' r2 (x % y) ∧ Below w.heap.size w w' := by
  obtain ⟨b1, a1, k1, c1, rfl, hb1, h1⟩ := h1.form
  obtain ⟨b2, a2, k2, c2, rfl, hb2, h2⟩ := h2.form
  have e1 := Lib.hid (fun (h : 0 ≤ x) => dv_pos hy h)
  have e2 := Lib.hid (fun (h : x < 0) => dv_zero hy h)
  have e3 := Lib.hid (fun (h : x < 0) => dv_neg hy h)
  have hY : 0 < y.natAbs := by omega
  generalize x.natAbs = X at *
  generalize y.natAbs = Y at *
  have hR := Nat.mod_lt X hY
  have hQl : (grp (X / Y)).length ≤ 50000 := Nat.le_trans (grp_mono (Nat.div_le_self _ _)) hl1
  have hRl : (grp (X % Y)).length ≤ 50000 := Nat.le_trans (grp_mono (Nat.le_of_lt hR)) hl2
  obtain ⟨k4, hk4⟩ : ∃ k, (grp (X % Y)).length = k := ⟨_, rfl⟩
  have hk0 : k4 = 0 ↔ X % Y = 0 := by rw [← hk4]; exact List.length_eq_zero_iff.trans grp_nil
  obtain ⟨R, hRe⟩ : ∃ R, X % Y = R := ⟨_, rfl⟩
  obtain ⟨Q, hQe⟩ : ∃ Q, X / Y = Q := ⟨_, rfl⟩
  have CO := Lib.hid (fun (W : World) (hB : Below w.heap.size w W) => (over_any X Y (.slice a1 k1 c1) (.slice a2 k2 c2) W hY (by omega) (by omega) (h1.below hB) (h2.below hB)).mono (R' := fun e w' => ∃ a3 k3 c3 a4 c4, e = .returned (.tuple #[.slice a3 k3 c3, .slice a4 k4 c4]) ∧ NSl w' (.slice a3 k3 c3) Q ∧ NSl w' (.slice a4 k4 c4) R ∧ Below W.heap.size W w') fun e w' ⟨u1, u2, he, n1, n2, hb⟩ => by
    obtain ⟨a3, c3, rfl⟩ := n1.form
    obtain ⟨a4, c4, rfl⟩ := n2.form
    rw [hk4] at he n2
    rw [hRe] at n2
    rw [hQe] at n1
    rw [hQe] at he
    exact ⟨a3, _, c3, a4, c4, he, n1, n2, hb⟩)
  rw [hRe] at hR hk0 hRl e1 e2 e3
  rw [hQe] at hQl e1 e2 e3
  have hQ1 : (grp (Q + 1)).length ≤ 60000 := by
    have h3 : Q + 1 < 10000 ^ ((grp Q).length + 1) := by
      have e1 := grp_lt Q
      rw [Nat.pow_succ]
      omega
    exact Nat.le_trans (grp_len h3) (by omega)
  have hYR : (grp (Y - R)).length ≤ 60000 := Nat.le_trans (grp_mono (Nat.sub_le _ _)) (by omega)
  have CP := Lib.hid (fun (W : World) (a3 : Option Addr) (k3 c3 : Nat) (u : Value) (g1 : NSl W (.slice a3 k3 c3) Q) (g2 : NSl W u 1) => plus_any Q 1 _ u W (by omega) (Nat.le_trans (grp_len (k := 1) (by decide)) (by decide)) g1 g2)
  have CM := Lib.hid (fun (W : World) (hB : Below w.heap.size w W) (c4 : Nat) (a4 : Option Addr) (g2 : NSl W (.slice a4 k4 c4) R) => minus_any Y R _ _ W (Nat.le_of_lt hR) (by omega) (h2.below hB) g2)
  have CS := Lib.hid (fun (W : World) b u n (h : NSl W u n) (hl : (grp n).length ≤ 60000) => signed_form b n u W h hl)
  have HR9 : (grp R).length ≤ 60000 := by omega
  have HQ9 : (grp Q).length ≤ 60000 := by omega
  have HK0 := Lib.hid hk0
  have HB1 := Lib.hid hb1
  have HB2 := Lib.hid hb2
  clear h1 h2 hl1 hl2 hk4 hRe hQe hR hk0 hRl hQl hb1 hb2 hY hy
  cases b1 <;> cases b2
  · have hx : 0 ≤ x := by have := HB1.out; simp at this; exact this
    have HE := e1.out hx
    have hyq : decide (y < 0) = false := HB2.out.symm
    have HE1 := Lib.hid (show x / y = ((Q : Nat) : Int) by rw [HE.1]; (try rw [decide_eq_true_eq] at hyq); (try rw [decide_eq_false_iff_not] at hyq); simp [hyq])
    have HE2 := Lib.hid HE.2
    clear HE hyq
    clear hx e1 e2 e3 HK0 hQ1 hYR CP CM
    go_enter Tryz.func40, Tryz.ntmps40
    have hB4 := (((below_alloc w (.cells #[.bool false, .slice a1 k1 c1] 49)).alloc (by simp only [World.size_alloc]; omega) (.cells #[.bool false, .slice a2 k2 c2] 49)).alloc (by simp only [World.size_alloc]; omega) (.cells #[.bool false, .slice none 0 0] 49)).alloc (by simp only [World.size_alloc]; omega) (.cells #[.bool false, .slice none 0 0] 49)
    obtain ⟨hW0, hW1, hW2⟩ := three_blocks w (.bool false) (.slice a1 k1 c1) (.bool false) (.slice a2 k2 c2) (.bool false) (.slice none 0 0)
    have hW3 := NBlk.new (((w.alloc (.cells #[.bool false, .slice a1 k1 c1] 49)).alloc (.cells #[.bool false, .slice a2 k2 c2] 49)).alloc (.cells #[.bool false, .slice none 0 0] 49)) (.bool false) (.slice none 0 0)
    simp only [World.size_alloc] at hW3
    have HS := Lib.hid hW3.lt
    have HB := Lib.hid hB4
    have HW0 := Lib.hid (hW0.alloc (.cells #[.bool false, .slice none 0 0] 49))
    have HW1 := Lib.hid (hW1.alloc (.cells #[.bool false, .slice none 0 0] 49))
    have HW2 := Lib.hid (hW2.alloc (.cells #[.bool false, .slice none 0 0] 49))
    have HW3 := Lib.hid hW3
    clear hB4 hW0 hW1 hW2 hW3
    go_wp2_with (first | (go_at_call 60; go_loud ((with_reducible refine (CO.out _ HB.out).mono ?_); rintro e w1 ⟨a3, k3, c3, a4, c4, rfl, n1, n2, B1⟩; have N1 := Lib.hid n1; have N2 := Lib.hid n2; clear n1 n2; have w0' := HW0.out.keep B1 (by have := HS.out; omega); have w1' := HW1.out.keep B1 (by have := HS.out; omega); have w2' := HW2.out.keep B1 (by have := HS.out; omega); have w3' := HW3.out.keep B1 HS.out; have b' := HB.out.trans (B1.mono HB.out.size); clear HW0 HW1 HW2 HW3 HB HS; have HS := Lib.hid w3'.lt; have HW0 := Lib.hid w0'; have HW1 := Lib.hid w1'; have HW2 := Lib.hid w2'; have HW3 := Lib.hid w3'; have HB := Lib.hid b'; have r0 := w0'.c0; have r1 := w1'.c0; have r2 := w1'.c1; clear w0' w1' w2' w3' b' B1)) | (first | (go_at_call 55; ((with_reducible refine (CS.out _ _ _ _ N1.out HQ9).mono ?_); rintro e w8 ⟨q1, a5, k5, c5, rfl, hq1, n1, B1⟩; have HZ1 := Lib.hid hq1; have n2 := N2.out.below B1; clear N1 N2 hq1; have N5 := Lib.hid n1; have N2 := Lib.hid n2; clear n1 n2; clear r0 r1 r2; have w0' := HW0.out.keep B1 (by have := HS.out; omega); have w1' := HW1.out.keep B1 (by have := HS.out; omega); have w2' := HW2.out.keep B1 (by have := HS.out; omega); have w3' := HW3.out.keep B1 HS.out; have b' := HB.out.trans (B1.mono HB.out.size); clear HW0 HW1 HW2 HW3 HB HS; have HS := Lib.hid w3'.lt; have HW0 := Lib.hid w0'; have HW1 := Lib.hid w1'; have HW2 := Lib.hid w2'; have HW3 := Lib.hid w3'; have HB := Lib.hid b'; have r0 := w0'.c0; have r1 := w1'.c0; have r2 := w1'.c1; clear w0' w1' w2' w3' b' B1; clear r0 r1 r2)) | (go_at_call 55; ((with_reducible refine (CS.out _ _ _ _ N2.out HR9).mono ?_); rintro e w9 ⟨q2, a6, k6, c6, rfl, hq2, n2, B1⟩; have HZ2 := Lib.hid hq2; have n1 := N5.out.below B1; clear N5 N2 hq2; have N5 := Lib.hid n1; have N6 := Lib.hid n2; clear n1 n2; have w0' := HW0.out.keep B1 (by have := HS.out; omega); have w1' := HW1.out.keep B1 (by have := HS.out; omega); have w2' := HW2.out.keep B1 (by have := HS.out; omega); have w3' := HW3.out.keep B1 HS.out; have b' := HB.out.trans (B1.mono HB.out.size); clear HW0 HW1 HW2 HW3 HB HS; have HS := Lib.hid w3'.lt; have HW0 := Lib.hid w0'; have HW1 := Lib.hid w1'; have HW2 := Lib.hid w2'; have HW3 := Lib.hid w3'; have HB := Lib.hid b'; have r0 := w0'.c0; have r1 := w1'.c0; have r2 := w1'.c1; clear w0' w1' w2' w3' b' B1; clear r0 r1 r2; have h2 := HW2.out; have h3 := HW3.out; have s0 := h2.c0; have t0 := h2.f 0; have A1 := h2.s0 (.bool q1); have s1 := A1.c1; have t1 := A1.f 1; have A2 := A1.s1 (.slice a5 k5 c5); have K0 := (h3.far (g2 := w.heap.size + 1 + 1) (j := 0) (v := .bool q1) (by omega)).far (g2 := w.heap.size + 1 + 1) (j := 1) (v := .slice a5 k5 c5) (by omega); have s2 := K0.c0; have t2 := K0.f 0; have K1 := K0.s0 (.bool q2); have s3 := K1.c1; have t3 := K1.f 1; have HA2 := Lib.hid ((A2.far (g2 := w.heap.size + 1 + 1 + 1) (j := 0) (v := .bool q2) (by omega)).far (g2 := w.heap.size + 1 + 1 + 1) (j := 1) (v := .slice a6 k6 c6) (by omega)); have HK2 := Lib.hid (K1.s1 (.slice a6 k6 c6)); have m1 := (N5.out.two h2 (fun x e => by cases e) (.bool q1) (.slice a5 k5 c5)).two K0 (fun x e => by cases e) (.bool q2) (.slice a6 k6 c6); have m2 := (N6.out.two h2 (fun x e => by cases e) (.bool q1) (.slice a5 k5 c5)).two K0 (fun x e => by cases e) (.bool q2) (.slice a6 k6 c6); have M1 := Lib.hid m1; have M2 := Lib.hid m2; clear A1 A2 K0 K1 h2 h3 m1 m2))))
    have hB9 := below_far (j := 1) (below_far (j := 0) (below_far (j := 1) (below_far (j := 0) HB.out (show w.heap.size ≤ w.heap.size + 1 + 1 by omega) (.bool q1)) (show w.heap.size ≤ w.heap.size + 1 + 1 by omega) (.slice a5 k5 c5)) (show w.heap.size ≤ w.heap.size + 1 + 1 + 1 by omega) (.bool q2)) (show w.heap.size ≤ w.heap.size + 1 + 1 + 1 by omega) (.slice a6 k6 c6)
    refine bodyPost_ret (results_cells2 rfl _ _ (w.heap.size + 1 + 1) (w.heap.size + 1 + 1 + 1) _ _ _ _ rfl rfl HA2.out HK2.out) rfl ?_
    exact ⟨_, _, rfl, ⟨.slice a5 k5 c5, by rw [sign_false HE1.out, HZ1.out], by rw [show (x / y).natAbs = Q from by have := HE1.out; omega]; exact M1.out⟩, ⟨.slice a6 k6 c6, by rw [sign_false HE2.out, HZ2.out], by rw [show (x % y).natAbs = R from by have := HE2.out; omega]; exact M2.out⟩, hB9⟩
  · have hx : 0 ≤ x := by have := HB1.out; simp at this; exact this
    have HE := e1.out hx
    have hyq : decide (y < 0) = true := HB2.out.symm
    have HE1 := Lib.hid (show x / y = (-(Q : Nat) : Int) by rw [HE.1]; (try rw [decide_eq_true_eq] at hyq); (try rw [decide_eq_false_iff_not] at hyq); simp [hyq])
    have HE2 := Lib.hid HE.2
    clear HE hyq
    clear hx e1 e2 e3 HK0 hQ1 hYR CP CM
    go_enter Tryz.func40, Tryz.ntmps40
    have hB4 := (((below_alloc w (.cells #[.bool false, .slice a1 k1 c1] 49)).alloc (by simp only [World.size_alloc]; omega) (.cells #[.bool true, .slice a2 k2 c2] 49)).alloc (by simp only [World.size_alloc]; omega) (.cells #[.bool false, .slice none 0 0] 49)).alloc (by simp only [World.size_alloc]; omega) (.cells #[.bool false, .slice none 0 0] 49)
    obtain ⟨hW0, hW1, hW2⟩ := three_blocks w (.bool false) (.slice a1 k1 c1) (.bool true) (.slice a2 k2 c2) (.bool false) (.slice none 0 0)
    have hW3 := NBlk.new (((w.alloc (.cells #[.bool false, .slice a1 k1 c1] 49)).alloc (.cells #[.bool true, .slice a2 k2 c2] 49)).alloc (.cells #[.bool false, .slice none 0 0] 49)) (.bool false) (.slice none 0 0)
    simp only [World.size_alloc] at hW3
    have HS := Lib.hid hW3.lt
    have HB := Lib.hid hB4
    have HW0 := Lib.hid (hW0.alloc (.cells #[.bool false, .slice none 0 0] 49))
    have HW1 := Lib.hid (hW1.alloc (.cells #[.bool false, .slice none 0 0] 49))
    have HW2 := Lib.hid (hW2.alloc (.cells #[.bool false, .slice none 0 0] 49))
    have HW3 := Lib.hid hW3
    clear hB4 hW0 hW1 hW2 hW3
    go_wp2_with (first | (go_at_call 60; go_loud ((with_reducible refine (CO.out _ HB.out).mono ?_); rintro e w1 ⟨a3, k3, c3, a4, c4, rfl, n1, n2, B1⟩; have N1 := Lib.hid n1; have N2 := Lib.hid n2; clear n1 n2; have w0' := HW0.out.keep B1 (by have := HS.out; omega); have w1' := HW1.out.keep B1 (by have := HS.out; omega); have w2' := HW2.out.keep B1 (by have := HS.out; omega); have w3' := HW3.out.keep B1 HS.out; have b' := HB.out.trans (B1.mono HB.out.size); clear HW0 HW1 HW2 HW3 HB HS; have HS := Lib.hid w3'.lt; have HW0 := Lib.hid w0'; have HW1 := Lib.hid w1'; have HW2 := Lib.hid w2'; have HW3 := Lib.hid w3'; have HB := Lib.hid b'; have r0 := w0'.c0; have r1 := w1'.c0; have r2 := w1'.c1; clear w0' w1' w2' w3' b' B1)) | (first | (go_at_call 55; ((with_reducible refine (CS.out _ _ _ _ N1.out HQ9).mono ?_); rintro e w8 ⟨q1, a5, k5, c5, rfl, hq1, n1, B1⟩; have HZ1 := Lib.hid hq1; have n2 := N2.out.below B1; clear N1 N2 hq1; have N5 := Lib.hid n1; have N2 := Lib.hid n2; clear n1 n2; clear r0 r1 r2; have w0' := HW0.out.keep B1 (by have := HS.out; omega); have w1' := HW1.out.keep B1 (by have := HS.out; omega); have w2' := HW2.out.keep B1 (by have := HS.out; omega); have w3' := HW3.out.keep B1 HS.out; have b' := HB.out.trans (B1.mono HB.out.size); clear HW0 HW1 HW2 HW3 HB HS; have HS := Lib.hid w3'.lt; have HW0 := Lib.hid w0'; have HW1 := Lib.hid w1'; have HW2 := Lib.hid w2'; have HW3 := Lib.hid w3'; have HB := Lib.hid b'; have r0 := w0'.c0; have r1 := w1'.c0; have r2 := w1'.c1; clear w0' w1' w2' w3' b' B1; clear r0 r1 r2)) | (go_at_call 55; ((with_reducible refine (CS.out _ _ _ _ N2.out HR9).mono ?_); rintro e w9 ⟨q2, a6, k6, c6, rfl, hq2, n2, B1⟩; have HZ2 := Lib.hid hq2; have n1 := N5.out.below B1; clear N5 N2 hq2; have N5 := Lib.hid n1; have N6 := Lib.hid n2; clear n1 n2; have w0' := HW0.out.keep B1 (by have := HS.out; omega); have w1' := HW1.out.keep B1 (by have := HS.out; omega); have w2' := HW2.out.keep B1 (by have := HS.out; omega); have w3' := HW3.out.keep B1 HS.out; have b' := HB.out.trans (B1.mono HB.out.size); clear HW0 HW1 HW2 HW3 HB HS; have HS := Lib.hid w3'.lt; have HW0 := Lib.hid w0'; have HW1 := Lib.hid w1'; have HW2 := Lib.hid w2'; have HW3 := Lib.hid w3'; have HB := Lib.hid b'; have r0 := w0'.c0; have r1 := w1'.c0; have r2 := w1'.c1; clear w0' w1' w2' w3' b' B1; clear r0 r1 r2; have h2 := HW2.out; have h3 := HW3.out; have s0 := h2.c0; have t0 := h2.f 0; have A1 := h2.s0 (.bool q1); have s1 := A1.c1; have t1 := A1.f 1; have A2 := A1.s1 (.slice a5 k5 c5); have K0 := (h3.far (g2 := w.heap.size + 1 + 1) (j := 0) (v := .bool q1) (by omega)).far (g2 := w.heap.size + 1 + 1) (j := 1) (v := .slice a5 k5 c5) (by omega); have s2 := K0.c0; have t2 := K0.f 0; have K1 := K0.s0 (.bool q2); have s3 := K1.c1; have t3 := K1.f 1; have HA2 := Lib.hid ((A2.far (g2 := w.heap.size + 1 + 1 + 1) (j := 0) (v := .bool q2) (by omega)).far (g2 := w.heap.size + 1 + 1 + 1) (j := 1) (v := .slice a6 k6 c6) (by omega)); have HK2 := Lib.hid (K1.s1 (.slice a6 k6 c6)); have m1 := (N5.out.two h2 (fun x e => by cases e) (.bool q1) (.slice a5 k5 c5)).two K0 (fun x e => by cases e) (.bool q2) (.slice a6 k6 c6); have m2 := (N6.out.two h2 (fun x e => by cases e) (.bool q1) (.slice a5 k5 c5)).two K0 (fun x e => by cases e) (.bool q2) (.slice a6 k6 c6); have M1 := Lib.hid m1; have M2 := Lib.hid m2; clear A1 A2 K0 K1 h2 h3 m1 m2))))
    have hB9 := below_far (j := 1) (below_far (j := 0) (below_far (j := 1) (below_far (j := 0) HB.out (show w.heap.size ≤ w.heap.size + 1 + 1 by omega) (.bool q1)) (show w.heap.size ≤ w.heap.size + 1 + 1 by omega) (.slice a5 k5 c5)) (show w.heap.size ≤ w.heap.size + 1 + 1 + 1 by omega) (.bool q2)) (show w.heap.size ≤ w.heap.size + 1 + 1 + 1 by omega) (.slice a6 k6 c6)
    refine bodyPost_ret (results_cells2 rfl _ _ (w.heap.size + 1 + 1) (w.heap.size + 1 + 1 + 1) _ _ _ _ rfl rfl HA2.out HK2.out) rfl ?_
    exact ⟨_, _, rfl, ⟨.slice a5 k5 c5, by rw [sign_true HE1.out, HZ1.out], by rw [show (x / y).natAbs = Q from by have := HE1.out; omega]; exact M1.out⟩, ⟨.slice a6 k6 c6, by rw [sign_false HE2.out, HZ2.out], by rw [show (x % y).natAbs = R from by have := HE2.out; omega]; exact M2.out⟩, hB9⟩
  · have hx : x < 0 := by have := HB1.out; simpa using this.symm
    by_cases hk : k4 = 0
    · have hR0 : R = 0 := HK0.out.1 hk
      subst hk
      have HE := e2.out hx hR0
      have hyq : decide (y < 0) = false := HB2.out.symm
      have HE1 := Lib.hid (show x / y = (-(Q : Nat) : Int) by rw [HE.1]; (try rw [decide_eq_true_eq] at hyq); (try rw [decide_eq_false_iff_not] at hyq); simp [hyq])
      have HE2 := Lib.hid HE.2
      clear HE hyq
      subst hR0
      clear hx e1 e2 e3 HK0 hQ1 hYR CP CM
      go_enter Tryz.func40, Tryz.ntmps40
      have hB4 := (((below_alloc w (.cells #[.bool true, .slice a1 k1 c1] 49)).alloc (by simp only [World.size_alloc]; omega) (.cells #[.bool false, .slice a2 k2 c2] 49)).alloc (by simp only [World.size_alloc]; omega) (.cells #[.bool false, .slice none 0 0] 49)).alloc (by simp only [World.size_alloc]; omega) (.cells #[.bool false, .slice none 0 0] 49)
      obtain ⟨hW0, hW1, hW2⟩ := three_blocks w (.bool true) (.slice a1 k1 c1) (.bool false) (.slice a2 k2 c2) (.bool false) (.slice none 0 0)
      have hW3 := NBlk.new (((w.alloc (.cells #[.bool true, .slice a1 k1 c1] 49)).alloc (.cells #[.bool false, .slice a2 k2 c2] 49)).alloc (.cells #[.bool false, .slice none 0 0] 49)) (.bool false) (.slice none 0 0)
      simp only [World.size_alloc] at hW3
      have HS := Lib.hid hW3.lt
      have HB := Lib.hid hB4
      have HW0 := Lib.hid (hW0.alloc (.cells #[.bool false, .slice none 0 0] 49))
      have HW1 := Lib.hid (hW1.alloc (.cells #[.bool false, .slice none 0 0] 49))
      have HW2 := Lib.hid (hW2.alloc (.cells #[.bool false, .slice none 0 0] 49))
      have HW3 := Lib.hid hW3
      clear hB4 hW0 hW1 hW2 hW3
      go_wp2_with (first | (go_at_call 60; go_loud ((with_reducible refine (CO.out _ HB.out).mono ?_); rintro e w1 ⟨a3, k3, c3, a4, c4, rfl, n1, n2, B1⟩; have N1 := Lib.hid n1; have N2 := Lib.hid n2; clear n1 n2; have w0' := HW0.out.keep B1 (by have := HS.out; omega); have w1' := HW1.out.keep B1 (by have := HS.out; omega); have w2' := HW2.out.keep B1 (by have := HS.out; omega); have w3' := HW3.out.keep B1 HS.out; have b' := HB.out.trans (B1.mono HB.out.size); clear HW0 HW1 HW2 HW3 HB HS; have HS := Lib.hid w3'.lt; have HW0 := Lib.hid w0'; have HW1 := Lib.hid w1'; have HW2 := Lib.hid w2'; have HW3 := Lib.hid w3'; have HB := Lib.hid b'; have r0 := w0'.c0; have r1 := w1'.c0; have r2 := w1'.c1; clear w0' w1' w2' w3' b' B1)) | (first | (go_at_call 55; ((with_reducible refine (CS.out _ _ _ _ N1.out HQ9).mono ?_); rintro e w8 ⟨q1, a5, k5, c5, rfl, hq1, n1, B1⟩; have HZ1 := Lib.hid hq1; have n2 := N2.out.below B1; clear N1 N2 hq1; have N5 := Lib.hid n1; have N2 := Lib.hid n2; clear n1 n2; clear r0 r1 r2; have w0' := HW0.out.keep B1 (by have := HS.out; omega); have w1' := HW1.out.keep B1 (by have := HS.out; omega); have w2' := HW2.out.keep B1 (by have := HS.out; omega); have w3' := HW3.out.keep B1 HS.out; have b' := HB.out.trans (B1.mono HB.out.size); clear HW0 HW1 HW2 HW3 HB HS; have HS := Lib.hid w3'.lt; have HW0 := Lib.hid w0'; have HW1 := Lib.hid w1'; have HW2 := Lib.hid w2'; have HW3 := Lib.hid w3'; have HB := Lib.hid b'; have r0 := w0'.c0; have r1 := w1'.c0; have r2 := w1'.c1; clear w0' w1' w2' w3' b' B1; clear r0 r1 r2)) | (go_at_call 55; ((with_reducible refine (CS.out _ _ _ _ N2.out HR9).mono ?_); rintro e w9 ⟨q2, a6, k6, c6, rfl, hq2, n2, B1⟩; have HZ2 := Lib.hid hq2; have n1 := N5.out.below B1; clear N5 N2 hq2; have N5 := Lib.hid n1; have N6 := Lib.hid n2; clear n1 n2; have w0' := HW0.out.keep B1 (by have := HS.out; omega); have w1' := HW1.out.keep B1 (by have := HS.out; omega); have w2' := HW2.out.keep B1 (by have := HS.out; omega); have w3' := HW3.out.keep B1 HS.out; have b' := HB.out.trans (B1.mono HB.out.size); clear HW0 HW1 HW2 HW3 HB HS; have HS := Lib.hid w3'.lt; have HW0 := Lib.hid w0'; have HW1 := Lib.hid w1'; have HW2 := Lib.hid w2'; have HW3 := Lib.hid w3'; have HB := Lib.hid b'; have r0 := w0'.c0; have r1 := w1'.c0; have r2 := w1'.c1; clear w0' w1' w2' w3' b' B1; clear r0 r1 r2; have h2 := HW2.out; have h3 := HW3.out; have s0 := h2.c0; have t0 := h2.f 0; have A1 := h2.s0 (.bool q1); have s1 := A1.c1; have t1 := A1.f 1; have A2 := A1.s1 (.slice a5 k5 c5); have K0 := (h3.far (g2 := w.heap.size + 1 + 1) (j := 0) (v := .bool q1) (by omega)).far (g2 := w.heap.size + 1 + 1) (j := 1) (v := .slice a5 k5 c5) (by omega); have s2 := K0.c0; have t2 := K0.f 0; have K1 := K0.s0 (.bool q2); have s3 := K1.c1; have t3 := K1.f 1; have HA2 := Lib.hid ((A2.far (g2 := w.heap.size + 1 + 1 + 1) (j := 0) (v := .bool q2) (by omega)).far (g2 := w.heap.size + 1 + 1 + 1) (j := 1) (v := .slice a6 k6 c6) (by omega)); have HK2 := Lib.hid (K1.s1 (.slice a6 k6 c6)); have m1 := (N5.out.two h2 (fun x e => by cases e) (.bool q1) (.slice a5 k5 c5)).two K0 (fun x e => by cases e) (.bool q2) (.slice a6 k6 c6); have m2 := (N6.out.two h2 (fun x e => by cases e) (.bool q1) (.slice a5 k5 c5)).two K0 (fun x e => by cases e) (.bool q2) (.slice a6 k6 c6); have M1 := Lib.hid m1; have M2 := Lib.hid m2; clear A1 A2 K0 K1 h2 h3 m1 m2))))
      have hB9 := below_far (j := 1) (below_far (j := 0) (below_far (j := 1) (below_far (j := 0) HB.out (show w.heap.size ≤ w.heap.size + 1 + 1 by omega) (.bool q1)) (show w.heap.size ≤ w.heap.size + 1 + 1 by omega) (.slice a5 k5 c5)) (show w.heap.size ≤ w.heap.size + 1 + 1 + 1 by omega) (.bool q2)) (show w.heap.size ≤ w.heap.size + 1 + 1 + 1 by omega) (.slice a6 k6 c6)
      refine bodyPost_ret (results_cells2 rfl _ _ (w.heap.size + 1 + 1) (w.heap.size + 1 + 1 + 1) _ _ _ _ rfl rfl HA2.out HK2.out) rfl ?_
      exact ⟨_, _, rfl, ⟨.slice a5 k5 c5, by rw [sign_true HE1.out, HZ1.out], by rw [show (x / y).natAbs = Q from by have := HE1.out; omega]; exact M1.out⟩, ⟨.slice a6 k6 c6, by rw [sign_false HE2.out, HZ2.out], by rw [show (x % y).natAbs = 0 from by have := HE2.out; omega]; exact M2.out⟩, hB9⟩
    · have hR0 : 0 < R := by have := HK0.out; omega
      have hk1 : decide (0 < k4) = true := by rw [decide_eq_true_eq]; omega
      have HE := e3.out hx hR0
      have hyq : decide (y < 0) = false := HB2.out.symm
      have HE1 := Lib.hid (show x / y = (-(Q + 1 : Nat) : Int) by rw [HE.1]; (try rw [decide_eq_true_eq] at hyq); (try rw [decide_eq_false_iff_not] at hyq); simp [hyq])
      have HE2 := Lib.hid HE.2
      clear HE hyq
      clear hx e1 e2 e3 HK0 hk hR0 HR9 HQ9
      go_enter Tryz.func40, Tryz.ntmps40
      have hB4 := (((below_alloc w (.cells #[.bool true, .slice a1 k1 c1] 49)).alloc (by simp only [World.size_alloc]; omega) (.cells #[.bool false, .slice a2 k2 c2] 49)).alloc (by simp only [World.size_alloc]; omega) (.cells #[.bool false, .slice none 0 0] 49)).alloc (by simp only [World.size_alloc]; omega) (.cells #[.bool false, .slice none 0 0] 49)
      obtain ⟨hW0, hW1, hW2⟩ := three_blocks w (.bool true) (.slice a1 k1 c1) (.bool false) (.slice a2 k2 c2) (.bool false) (.slice none 0 0)
      have hW3 := NBlk.new (((w.alloc (.cells #[.bool true, .slice a1 k1 c1] 49)).alloc (.cells #[.bool false, .slice a2 k2 c2] 49)).alloc (.cells #[.bool false, .slice none 0 0] 49)) (.bool false) (.slice none 0 0)
      simp only [World.size_alloc] at hW3
      have HS := Lib.hid hW3.lt
      have HB := Lib.hid hB4
      have HW0 := Lib.hid (hW0.alloc (.cells #[.bool false, .slice none 0 0] 49))
      have HW1 := Lib.hid (hW1.alloc (.cells #[.bool false, .slice none 0 0] 49))
      have HW2 := Lib.hid (hW2.alloc (.cells #[.bool false, .slice none 0 0] 49))
      have HW3 := Lib.hid hW3
      clear hB4 hW0 hW1 hW2 hW3
      go_wp2_with (go_at_call 60; go_loud ((with_reducible refine (CO.out _ HB.out).mono ?_); rintro e w1 ⟨a3, k3, c3, a4, c4, rfl, n1, n2, B1⟩; have N1 := Lib.hid n1; have N2 := Lib.hid n2; clear n1 n2; have w0' := HW0.out.keep B1 (by have := HS.out; omega); have w1' := HW1.out.keep B1 (by have := HS.out; omega); have w2' := HW2.out.keep B1 (by have := HS.out; omega); have w3' := HW3.out.keep B1 HS.out; have b' := HB.out.trans (B1.mono HB.out.size); clear HW0 HW1 HW2 HW3 HB HS; have HS := Lib.hid w3'.lt; have HW0 := Lib.hid w0'; have HW1 := Lib.hid w1'; have HW2 := Lib.hid w2'; have HW3 := Lib.hid w3'; have HB := Lib.hid b'; have r0 := w0'.c0; have r1 := w1'.c0; have r2 := w1'.c1; clear w0' w1' w2' w3' b' B1))
      have HC0 := Lib.hid (Below.refl w1.heap.size w1).drew
      refine wp_region_noPanic ?_
      refine wp_region_held_drew (S := fun W => NBlk W (w.heap.size + 1) (.bool false) (.slice a2 k2 c2)) (by kernel_rfl) ?_ (fun hHeld => ?_)
      · exact HW1.out
      refine wpAnyH_take (i := 0) (oi := ({ dst := some 23, op := Go.Op.move (Go.Operand.tmp 6), type := 47, pos := "number.go:69", after := #[], guard := none } : Oper)) (v := ?v0_1f0) rfl (by kernel_rfl) (by kernel_rfl) (by kernel_rfl) (fun _ _ _ h => h) (Or.inl ⟨by rfl, ?hy0_1f0⟩) (by assumption) ?re0_1f0
      case hy0_1f0 => ((intro w hSw; (try dsimp only at hSw); have e1 := hSw.c0; have e2 := hSw.c1; go_simp) <;> with_reducible rfl)
      (try simp only [Act.put, List.setIfInBounds_toArray, List.set_cons_zero, List.set_cons_succ])
      refine wpAnyH_take (i := 3) (oi := ({ dst := some 26, op := Go.Op.fieldAddr 49 (Go.Operand.tmp 3) 1, type := 0, pos := "number.go:69", after := #[], guard := none } : Oper)) (v := ?v3_2f0) rfl (by kernel_rfl) (by kernel_rfl) (by kernel_rfl) (fun _ _ _ h => h) (Or.inl ⟨by rfl, ?hy3_2f0⟩) (by assumption) ?re3_2f0
      case hy3_2f0 => ((intro w hSw; (try dsimp only at hSw); have e1 := hSw.c0; have e2 := hSw.c1; go_simp) <;> with_reducible rfl)
      (try simp only [Act.put, List.setIfInBounds_toArray, List.set_cons_zero, List.set_cons_succ])
      refine wpAnyH_take (i := 4) (oi := ({ dst := some 27, op := Go.Op.load 47 (Go.Operand.tmp 26), type := 47, pos := "number.go:69", after := #[{ on := 3, ground := Go.Ground.data }], guard := none } : Oper)) (v := ?v4_3f0) rfl (by kernel_rfl) (by kernel_rfl) (by kernel_rfl) (fun _ _ _ h => h) (Or.inl ⟨by rfl, ?hy4_3f0⟩) (by assumption) ?re4_3f0
      case hy4_3f0 => ((intro w hSw; (try dsimp only at hSw); have e1 := hSw.c0; have e2 := hSw.c1; go_simp) <;> with_reducible rfl)
      (try simp only [Act.put, List.setIfInBounds_toArray, List.set_cons_zero, List.set_cons_succ])
      refine wpAnyH_take (i := 5) (oi := ({ dst := some 28, op := Go.Op.move (Go.Operand.tmp 7), type := 47, pos := "number.go:69", after := #[], guard := none } : Oper)) (v := ?v5_4f0) rfl (by kernel_rfl) (by kernel_rfl) (by kernel_rfl) (fun _ _ _ h => h) (Or.inl ⟨by rfl, ?hy5_4f0⟩) (by assumption) ?re5_4f0
      case hy5_4f0 => ((intro w hSw; (try dsimp only at hSw); have e1 := hSw.c0; have e2 := hSw.c1; go_simp) <;> with_reducible rfl)
      (try simp only [Act.put, List.setIfInBounds_toArray, List.set_cons_zero, List.set_cons_succ])
      refine wpAnyH_ready (rs := [1]) (by kernel_rfl) (by simp) ?_
      refine AllReadyH.cons (o := ({ dst := some 24, op := Go.Op.buildSlice 47 1 #[(0, Go.Operand.const (Go.Value.int Go.IntKind.i64 1))], type := 47, pos := "number.go:69", after := #[], guard := none } : Oper)) rfl (fun K hK => ?_) ?_
      · go_simp
        refine hK.out _ _ ?_ (fun hHeld => ?_)
        · exact hHeld.alloc _
        clear hK K
        (try simp only [Act.put, List.setIfInBounds_toArray, List.set_cons_zero, List.set_cons_succ])
        have HC1 := Lib.hid (HC0.out.alloc HC0.out.size (.cells #[.int .i64 1] 3))
        refine wpAnyH_ready (rs := [2]) (by kernel_rfl) (by simp) ?_
        refine AllReadyH.cons (o := ({ dst := some 25, op := Go.Op.call { callee := Go.Callee.value (Go.Operand.func 56), args := #[Go.Operand.tmp 23, Go.Operand.tmp 24], argTypes := #[47, 47] }, type := 47, pos := "number.go:69", after := #[{ on := 0, ground := Go.Ground.data }, { on := 1, ground := Go.Ground.data }], guard := none } : Oper)) rfl (fun K hK => ?_) ?_
        · go_simp
          go_at_call 56
          refine (CP.out _ _ _ _ _ (N1.out.below HC1.out) (lit_one w1.drew)).mono ?_
          rintro e wp ⟨up, rfl, np, Bp⟩
          have HCp := Lib.hid (HC1.out.trans (Bp.mono HC1.out.size))
          have NP := Lib.hid np
          clear np
          (try go_wp2_with fail)
          refine hK.out _ _ ?_ (fun hHeld => ?_)
          · exact hHeld.keep Bp hHeld.lt
          clear hK K
          (try simp only [Act.put, List.setIfInBounds_toArray, List.set_cons_zero, List.set_cons_succ])
          refine wpAnyH_ready (rs := [6]) (by kernel_rfl) (by simp) ?_
          refine AllReadyH.cons (o := ({ dst := some 29, op := Go.Op.call { callee := Go.Callee.value (Go.Operand.func 58), args := #[Go.Operand.tmp 27, Go.Operand.tmp 28], argTypes := #[47, 47] }, type := 47, pos := "number.go:69", after := #[{ on := 4, ground := Go.Ground.data }, { on := 5, ground := Go.Ground.data }, { on := 2, ground := Go.Ground.chain }], guard := none } : Oper)) rfl (fun K hK => ?_) ?_
          · go_simp
            go_at_call 58
            refine (CM.out _ (HB.out.trans (HCp.out.mono HB.out.size)) _ _ (N2.out.below HCp.out)).mono ?_
            rintro e wm ⟨um, rfl, nm, Bm⟩
            have HCm := Lib.hid (HCp.out.trans (Bm.mono HCp.out.size))
            have NM := Lib.hid nm
            clear nm
            (try go_wp2_with fail)
            refine hK.out _ _ ?_ (fun hHeld => ?_)
            · exact hHeld.keep Bm hHeld.lt
            clear hK K
            (try simp only [Act.put, List.setIfInBounds_toArray, List.set_cons_zero, List.set_cons_succ])
            refine wpAnyH_take (i := 7) (oi := ({ dst := some 6, op := Go.Op.assign (Go.Operand.tmp 25), type := 47, pos := "number.go:69", after := #[{ on := 2, ground := Go.Ground.data }, { on := 6, ground := Go.Ground.chain }, { on := 0, ground := Go.Ground.phase }, { on := 1, ground := Go.Ground.phase }, { on := 2, ground := Go.Ground.phase }, { on := 3, ground := Go.Ground.textOnly Go.Departure.lateStores }, { on := 4, ground := Go.Ground.textOnly Go.Departure.lateStores }, { on := 5, ground := Go.Ground.textOnly Go.Departure.lateStores }, { on := 6, ground := Go.Ground.textOnly Go.Departure.lateStoresUnsure }], guard := none } : Oper)) (v := ?v7_1fa) rfl (by kernel_rfl) (by kernel_rfl) (by kernel_rfl) (fun _ _ _ h => h) (Or.inl ⟨by rfl, ?hy7_1fa⟩) (by assumption) ?re7_1fa
            case hy7_1fa => ((intro w hSw; (try dsimp only at hSw); have e1 := hSw.c0; have e2 := hSw.c1; go_simp) <;> with_reducible rfl)
            (try simp only [Act.put, List.setIfInBounds_toArray, List.set_cons_zero, List.set_cons_succ])
            refine wpAnyH_take (i := 8) (oi := ({ dst := some 7, op := Go.Op.assign (Go.Operand.tmp 29), type := 47, pos := "number.go:69", after := #[{ on := 6, ground := Go.Ground.data }, { on := 7, ground := Go.Ground.chain }, { on := 0, ground := Go.Ground.phase }, { on := 1, ground := Go.Ground.phase }, { on := 2, ground := Go.Ground.phase }, { on := 3, ground := Go.Ground.phase }, { on := 4, ground := Go.Ground.phase }, { on := 5, ground := Go.Ground.phase }, { on := 6, ground := Go.Ground.phase }, { on := 7, ground := Go.Ground.phase }], guard := none } : Oper)) (v := ?v8_2fa) rfl (by kernel_rfl) (by kernel_rfl) (by kernel_rfl) (fun _ _ _ h => h) (Or.inl ⟨by rfl, ?hy8_2fa⟩) (by assumption) ?re8_2fa
            case hy8_2fa => ((intro w hSw; (try dsimp only at hSw); have e1 := hSw.c0; have e2 := hSw.c1; go_simp) <;> with_reducible rfl)
            (try simp only [Act.put, List.setIfInBounds_toArray, List.set_cons_zero, List.set_cons_succ])
            refine wpAnyH_done (by kernel_rfl) ?_ _
            refine NoPanic.normal ?_
            obtain ⟨a3', c3', rfl⟩ := NP.out.form
            obtain ⟨a4', c4', rfl⟩ := NM.out.form
            have B1 := HCm.out
            have n1 := NP.out.below Bm
            have n2 := NM.out
            clear N1 N2 r0 r1 r2 NP NM
            have N1 := Lib.hid n1
            have N2 := Lib.hid n2
            clear n1 n2
            have w0' := HW0.out.keep B1 (by have := HS.out; omega); have w1' := HW1.out.keep B1 (by have := HS.out; omega); have w2' := HW2.out.keep B1 (by have := HS.out; omega); have w3' := HW3.out.keep B1 HS.out; have b' := HB.out.trans (B1.mono HB.out.size); clear HW0 HW1 HW2 HW3 HB HS; have HS := Lib.hid w3'.lt; have HW0 := Lib.hid w0'; have HW1 := Lib.hid w1'; have HW2 := Lib.hid w2'; have HW3 := Lib.hid w3'; have HB := Lib.hid b'; have r0 := w0'.c0; have r1 := w1'.c0; have r2 := w1'.c1; clear w0' w1' w2' w3' b' B1
            go_wp2_with (first | (go_at_call 55; ((with_reducible refine (CS.out _ _ _ _ N1.out hQ1).mono ?_); rintro e w8 ⟨q1, a5, k5, c5, rfl, hq1, n1, B1⟩; have HZ1 := Lib.hid hq1; have n2 := N2.out.below B1; clear N1 N2 hq1; have N5 := Lib.hid n1; have N2 := Lib.hid n2; clear n1 n2; clear r0 r1 r2; have w0' := HW0.out.keep B1 (by have := HS.out; omega); have w1' := HW1.out.keep B1 (by have := HS.out; omega); have w2' := HW2.out.keep B1 (by have := HS.out; omega); have w3' := HW3.out.keep B1 HS.out; have b' := HB.out.trans (B1.mono HB.out.size); clear HW0 HW1 HW2 HW3 HB HS; have HS := Lib.hid w3'.lt; have HW0 := Lib.hid w0'; have HW1 := Lib.hid w1'; have HW2 := Lib.hid w2'; have HW3 := Lib.hid w3'; have HB := Lib.hid b'; have r0 := w0'.c0; have r1 := w1'.c0; have r2 := w1'.c1; clear w0' w1' w2' w3' b' B1; clear r0 r1 r2)) | (go_at_call 55; ((with_reducible refine (CS.out _ _ _ _ N2.out hYR).mono ?_); rintro e w9 ⟨q2, a6, k6, c6, rfl, hq2, n2, B1⟩; have HZ2 := Lib.hid hq2; have n1 := N5.out.below B1; clear N5 N2 hq2; have N5 := Lib.hid n1; have N6 := Lib.hid n2; clear n1 n2; have w0' := HW0.out.keep B1 (by have := HS.out; omega); have w1' := HW1.out.keep B1 (by have := HS.out; omega); have w2' := HW2.out.keep B1 (by have := HS.out; omega); have w3' := HW3.out.keep B1 HS.out; have b' := HB.out.trans (B1.mono HB.out.size); clear HW0 HW1 HW2 HW3 HB HS; have HS := Lib.hid w3'.lt; have HW0 := Lib.hid w0'; have HW1 := Lib.hid w1'; have HW2 := Lib.hid w2'; have HW3 := Lib.hid w3'; have HB := Lib.hid b'; have r0 := w0'.c0; have r1 := w1'.c0; have r2 := w1'.c1; clear w0' w1' w2' w3' b' B1; clear r0 r1 r2; have h2 := HW2.out; have h3 := HW3.out; have s0 := h2.c0; have t0 := h2.f 0; have A1 := h2.s0 (.bool q1); have s1 := A1.c1; have t1 := A1.f 1; have A2 := A1.s1 (.slice a5 k5 c5); have K0 := (h3.far (g2 := w.heap.size + 1 + 1) (j := 0) (v := .bool q1) (by omega)).far (g2 := w.heap.size + 1 + 1) (j := 1) (v := .slice a5 k5 c5) (by omega); have s2 := K0.c0; have t2 := K0.f 0; have K1 := K0.s0 (.bool q2); have s3 := K1.c1; have t3 := K1.f 1; have HA2 := Lib.hid ((A2.far (g2 := w.heap.size + 1 + 1 + 1) (j := 0) (v := .bool q2) (by omega)).far (g2 := w.heap.size + 1 + 1 + 1) (j := 1) (v := .slice a6 k6 c6) (by omega)); have HK2 := Lib.hid (K1.s1 (.slice a6 k6 c6)); have m1 := (N5.out.two h2 (fun x e => by cases e) (.bool q1) (.slice a5 k5 c5)).two K0 (fun x e => by cases e) (.bool q2) (.slice a6 k6 c6); have m2 := (N6.out.two h2 (fun x e => by cases e) (.bool q1) (.slice a5 k5 c5)).two K0 (fun x e => by cases e) (.bool q2) (.slice a6 k6 c6); have M1 := Lib.hid m1; have M2 := Lib.hid m2; clear A1 A2 K0 K1 h2 h3 m1 m2)))
            have hB9 := below_far (j := 1) (below_far (j := 0) (below_far (j := 1) (below_far (j := 0) HB.out (show w.heap.size ≤ w.heap.size + 1 + 1 by omega) (.bool q1)) (show w.heap.size ≤ w.heap.size + 1 + 1 by omega) (.slice a5 k5 c5)) (show w.heap.size ≤ w.heap.size + 1 + 1 + 1 by omega) (.bool q2)) (show w.heap.size ≤ w.heap.size + 1 + 1 + 1 by omega) (.slice a6 k6 c6)
            refine bodyPost_ret (results_cells2 rfl _ _ (w.heap.size + 1 + 1) (w.heap.size + 1 + 1 + 1) _ _ _ _ rfl rfl HA2.out HK2.out) rfl ?_
            exact ⟨_, _, rfl, ⟨.slice a5 k5 c5, by rw [sign_true HE1.out, HZ1.out], by rw [show (x / y).natAbs = Q + 1 from by have := HE1.out; omega]; exact M1.out⟩, ⟨.slice a6 k6 c6, by rw [sign_false HE2.out, HZ2.out], by rw [show (x % y).natAbs = Y - R from by have := HE2.out; omega]; exact M2.out⟩, hB9⟩
          exact AllReadyH.nil
        exact AllReadyH.nil
      exact AllReadyH.nil
  · have hx : x < 0 := by have := HB1.out; simpa using this.symm
    by_cases hk : k4 = 0
    · have hR0 : R = 0 := HK0.out.1 hk
      subst hk
      have HE := e2.out hx hR0
      have hyq : decide (y < 0) = true := HB2.out.symm
      have HE1 := Lib.hid (show x / y = ((Q : Nat) : Int) by rw [HE.1]; (try rw [decide_eq_true_eq] at hyq); (try rw [decide_eq_false_iff_not] at hyq); simp [hyq])
      have HE2 := Lib.hid HE.2
      clear HE hyq
      subst hR0
      clear hx e1 e2 e3 HK0 hQ1 hYR CP CM
      go_enter Tryz.func40, Tryz.ntmps40
      have hB4 := (((below_alloc w (.cells #[.bool true, .slice a1 k1 c1] 49)).alloc (by simp only [World.size_alloc]; omega) (.cells #[.bool true, .slice a2 k2 c2] 49)).alloc (by simp only [World.size_alloc]; omega) (.cells #[.bool false, .slice none 0 0] 49)).alloc (by simp only [World.size_alloc]; omega) (.cells #[.bool false, .slice none 0 0] 49)
      obtain ⟨hW0, hW1, hW2⟩ := three_blocks w (.bool true) (.slice a1 k1 c1) (.bool true) (.slice a2 k2 c2) (.bool false) (.slice none 0 0)
      have hW3 := NBlk.new (((w.alloc (.cells #[.bool true, .slice a1 k1 c1] 49)).alloc (.cells #[.bool true, .slice a2 k2 c2] 49)).alloc (.cells #[.bool false, .slice none 0 0] 49)) (.bool false) (.slice none 0 0)
      simp only [World.size_alloc] at hW3
      have HS := Lib.hid hW3.lt
      have HB := Lib.hid hB4
      have HW0 := Lib.hid (hW0.alloc (.cells #[.bool false, .slice none 0 0] 49))
      have HW1 := Lib.hid (hW1.alloc (.cells #[.bool false, .slice none 0 0] 49))
      have HW2 := Lib.hid (hW2.alloc (.cells #[.bool false, .slice none 0 0] 49))
      have HW3 := Lib.hid hW3
      clear hB4 hW0 hW1 hW2 hW3
      go_wp2_with (first | (go_at_call 60; go_loud ((with_reducible refine (CO.out _ HB.out).mono ?_); rintro e w1 ⟨a3, k3, c3, a4, c4, rfl, n1, n2, B1⟩; have N1 := Lib.hid n1; have N2 := Lib.hid n2; clear n1 n2; have w0' := HW0.out.keep B1 (by have := HS.out; omega); have w1' := HW1.out.keep B1 (by have := HS.out; omega); have w2' := HW2.out.keep B1 (by have := HS.out; omega); have w3' := HW3.out.keep B1 HS.out; have b' := HB.out.trans (B1.mono HB.out.size); clear HW0 HW1 HW2 HW3 HB HS; have HS := Lib.hid w3'.lt; have HW0 := Lib.hid w0'; have HW1 := Lib.hid w1'; have HW2 := Lib.hid w2'; have HW3 := Lib.hid w3'; have HB := Lib.hid b'; have r0 := w0'.c0; have r1 := w1'.c0; have r2 := w1'.c1; clear w0' w1' w2' w3' b' B1)) | (first | (go_at_call 55; ((with_reducible refine (CS.out _ _ _ _ N1.out HQ9).mono ?_); rintro e w8 ⟨q1, a5, k5, c5, rfl, hq1, n1, B1⟩; have HZ1 := Lib.hid hq1; have n2 := N2.out.below B1; clear N1 N2 hq1; have N5 := Lib.hid n1; have N2 := Lib.hid n2; clear n1 n2; clear r0 r1 r2; have w0' := HW0.out.keep B1 (by have := HS.out; omega); have w1' := HW1.out.keep B1 (by have := HS.out; omega); have w2' := HW2.out.keep B1 (by have := HS.out; omega); have w3' := HW3.out.keep B1 HS.out; have b' := HB.out.trans (B1.mono HB.out.size); clear HW0 HW1 HW2 HW3 HB HS; have HS := Lib.hid w3'.lt; have HW0 := Lib.hid w0'; have HW1 := Lib.hid w1'; have HW2 := Lib.hid w2'; have HW3 := Lib.hid w3'; have HB := Lib.hid b'; have r0 := w0'.c0; have r1 := w1'.c0; have r2 := w1'.c1; clear w0' w1' w2' w3' b' B1; clear r0 r1 r2)) | (go_at_call 55; ((with_reducible refine (CS.out _ _ _ _ N2.out HR9).mono ?_); rintro e w9 ⟨q2, a6, k6, c6, rfl, hq2, n2, B1⟩; have HZ2 := Lib.hid hq2; have n1 := N5.out.below B1; clear N5 N2 hq2; have N5 := Lib.hid n1; have N6 := Lib.hid n2; clear n1 n2; have w0' := HW0.out.keep B1 (by have := HS.out; omega); have w1' := HW1.out.keep B1 (by have := HS.out; omega); have w2' := HW2.out.keep B1 (by have := HS.out; omega); have w3' := HW3.out.keep B1 HS.out; have b' := HB.out.trans (B1.mono HB.out.size); clear HW0 HW1 HW2 HW3 HB HS; have HS := Lib.hid w3'.lt; have HW0 := Lib.hid w0'; have HW1 := Lib.hid w1'; have HW2 := Lib.hid w2'; have HW3 := Lib.hid w3'; have HB := Lib.hid b'; have r0 := w0'.c0; have r1 := w1'.c0; have r2 := w1'.c1; clear w0' w1' w2' w3' b' B1; clear r0 r1 r2; have h2 := HW2.out; have h3 := HW3.out; have s0 := h2.c0; have t0 := h2.f 0; have A1 := h2.s0 (.bool q1); have s1 := A1.c1; have t1 := A1.f 1; have A2 := A1.s1 (.slice a5 k5 c5); have K0 := (h3.far (g2 := w.heap.size + 1 + 1) (j := 0) (v := .bool q1) (by omega)).far (g2 := w.heap.size + 1 + 1) (j := 1) (v := .slice a5 k5 c5) (by omega); have s2 := K0.c0; have t2 := K0.f 0; have K1 := K0.s0 (.bool q2); have s3 := K1.c1; have t3 := K1.f 1; have HA2 := Lib.hid ((A2.far (g2 := w.heap.size + 1 + 1 + 1) (j := 0) (v := .bool q2) (by omega)).far (g2 := w.heap.size + 1 + 1 + 1) (j := 1) (v := .slice a6 k6 c6) (by omega)); have HK2 := Lib.hid (K1.s1 (.slice a6 k6 c6)); have m1 := (N5.out.two h2 (fun x e => by cases e) (.bool q1) (.slice a5 k5 c5)).two K0 (fun x e => by cases e) (.bool q2) (.slice a6 k6 c6); have m2 := (N6.out.two h2 (fun x e => by cases e) (.bool q1) (.slice a5 k5 c5)).two K0 (fun x e => by cases e) (.bool q2) (.slice a6 k6 c6); have M1 := Lib.hid m1; have M2 := Lib.hid m2; clear A1 A2 K0 K1 h2 h3 m1 m2))))
      have hB9 := below_far (j := 1) (below_far (j := 0) (below_far (j := 1) (below_far (j := 0) HB.out (show w.heap.size ≤ w.heap.size + 1 + 1 by omega) (.bool q1)) (show w.heap.size ≤ w.heap.size + 1 + 1 by omega) (.slice a5 k5 c5)) (show w.heap.size ≤ w.heap.size + 1 + 1 + 1 by omega) (.bool q2)) (show w.heap.size ≤ w.heap.size + 1 + 1 + 1 by omega) (.slice a6 k6 c6)
      refine bodyPost_ret (results_cells2 rfl _ _ (w.heap.size + 1 + 1) (w.heap.size + 1 + 1 + 1) _ _ _ _ rfl rfl HA2.out HK2.out) rfl ?_
      exact ⟨_, _, rfl, ⟨.slice a5 k5 c5, by rw [sign_false HE1.out, HZ1.out], by rw [show (x / y).natAbs = Q from by have := HE1.out; omega]; exact M1.out⟩, ⟨.slice a6 k6 c6, by rw [sign_false HE2.out, HZ2.out], by rw [show (x % y).natAbs = 0 from by have := HE2.out; omega]; exact M2.out⟩, hB9⟩
    · have hR0 : 0 < R := by have := HK0.out; omega
      have hk1 : decide (0 < k4) = true := by rw [decide_eq_true_eq]; omega
      have HE := e3.out hx hR0
      have hyq : decide (y < 0) = true := HB2.out.symm
      have HE1 := Lib.hid (show x / y = ((Q + 1 : Nat) : Int) by rw [HE.1]; (try rw [decide_eq_true_eq] at hyq); (try rw [decide_eq_false_iff_not] at hyq); simp [hyq])
      have HE2 := Lib.hid HE.2
      clear HE hyq
      clear hx e1 e2 e3 HK0 hk hR0 HR9 HQ9
      go_enter Tryz.func40, Tryz.ntmps40
      have hB4 := (((below_alloc w (.cells #[.bool true, .slice a1 k1 c1] 49)).alloc (by simp only [World.size_alloc]; omega) (.cells #[.bool true, .slice a2 k2 c2] 49)).alloc (by simp only [World.size_alloc]; omega) (.cells #[.bool false, .slice none 0 0] 49)).alloc (by simp only [World.size_alloc]; omega) (.cells #[.bool false, .slice none 0 0] 49)
      obtain ⟨hW0, hW1, hW2⟩ := three_blocks w (.bool true) (.slice a1 k1 c1) (.bool true) (.slice a2 k2 c2) (.bool false) (.slice none 0 0)
      have hW3 := NBlk.new (((w.alloc (.cells #[.bool true, .slice a1 k1 c1] 49)).alloc (.cells #[.bool true, .slice a2 k2 c2] 49)).alloc (.cells #[.bool false, .slice none 0 0] 49)) (.bool false) (.slice none 0 0)
      simp only [World.size_alloc] at hW3
      have HS := Lib.hid hW3.lt
      have HB := Lib.hid hB4
      have HW0 := Lib.hid (hW0.alloc (.cells #[.bool false, .slice none 0 0] 49))
      have HW1 := Lib.hid (hW1.alloc (.cells #[.bool false, .slice none 0 0] 49))
      have HW2 := Lib.hid (hW2.alloc (.cells #[.bool false, .slice none 0 0] 49))
      have HW3 := Lib.hid hW3
      clear hB4 hW0 hW1 hW2 hW3
      go_wp2_with (go_at_call 60; go_loud ((with_reducible refine (CO.out _ HB.out).mono ?_); rintro e w1 ⟨a3, k3, c3, a4, c4, rfl, n1, n2, B1⟩; have N1 := Lib.hid n1; have N2 := Lib.hid n2; clear n1 n2; have w0' := HW0.out.keep B1 (by have := HS.out; omega); have w1' := HW1.out.keep B1 (by have := HS.out; omega); have w2' := HW2.out.keep B1 (by have := HS.out; omega); have w3' := HW3.out.keep B1 HS.out; have b' := HB.out.trans (B1.mono HB.out.size); clear HW0 HW1 HW2 HW3 HB HS; have HS := Lib.hid w3'.lt; have HW0 := Lib.hid w0'; have HW1 := Lib.hid w1'; have HW2 := Lib.hid w2'; have HW3 := Lib.hid w3'; have HB := Lib.hid b'; have r0 := w0'.c0; have r1 := w1'.c0; have r2 := w1'.c1; clear w0' w1' w2' w3' b' B1))
      have HC0 := Lib.hid (Below.refl w1.heap.size w1).drew
      refine wp_region_noPanic ?_
      refine wp_region_held_drew (S := fun W => NBlk W (w.heap.size + 1) (.bool true) (.slice a2 k2 c2)) (by kernel_rfl) ?_ (fun hHeld => ?_)
      · exact HW1.out
      refine wpAnyH_take (i := 0) (oi := ({ dst := some 23, op := Go.Op.move (Go.Operand.tmp 6), type := 47, pos := "number.go:69", after := #[], guard := none } : Oper)) (v := ?v0_1t0) rfl (by kernel_rfl) (by kernel_rfl) (by kernel_rfl) (fun _ _ _ h => h) (Or.inl ⟨by rfl, ?hy0_1t0⟩) (by assumption) ?re0_1t0
      case hy0_1t0 => ((intro w hSw; (try dsimp only at hSw); have e1 := hSw.c0; have e2 := hSw.c1; go_simp) <;> with_reducible rfl)
      (try simp only [Act.put, List.setIfInBounds_toArray, List.set_cons_zero, List.set_cons_succ])
      refine wpAnyH_take (i := 3) (oi := ({ dst := some 26, op := Go.Op.fieldAddr 49 (Go.Operand.tmp 3) 1, type := 0, pos := "number.go:69", after := #[], guard := none } : Oper)) (v := ?v3_2t0) rfl (by kernel_rfl) (by kernel_rfl) (by kernel_rfl) (fun _ _ _ h => h) (Or.inl ⟨by rfl, ?hy3_2t0⟩) (by assumption) ?re3_2t0
      case hy3_2t0 => ((intro w hSw; (try dsimp only at hSw); have e1 := hSw.c0; have e2 := hSw.c1; go_simp) <;> with_reducible rfl)
      (try simp only [Act.put, List.setIfInBounds_toArray, List.set_cons_zero, List.set_cons_succ])
      refine wpAnyH_take (i := 4) (oi := ({ dst := some 27, op := Go.Op.load 47 (Go.Operand.tmp 26), type := 47, pos := "number.go:69", after := #[{ on := 3, ground := Go.Ground.data }], guard := none } : Oper)) (v := ?v4_3t0) rfl (by kernel_rfl) (by kernel_rfl) (by kernel_rfl) (fun _ _ _ h => h) (Or.inl ⟨by rfl, ?hy4_3t0⟩) (by assumption) ?re4_3t0
      case hy4_3t0 => ((intro w hSw; (try dsimp only at hSw); have e1 := hSw.c0; have e2 := hSw.c1; go_simp) <;> with_reducible rfl)
      (try simp only [Act.put, List.setIfInBounds_toArray, List.set_cons_zero, List.set_cons_succ])
      refine wpAnyH_take (i := 5) (oi := ({ dst := some 28, op := Go.Op.move (Go.Operand.tmp 7), type := 47, pos := "number.go:69", after := #[], guard := none } : Oper)) (v := ?v5_4t0) rfl (by kernel_rfl) (by kernel_rfl) (by kernel_rfl) (fun _ _ _ h => h) (Or.inl ⟨by rfl, ?hy5_4t0⟩) (by assumption) ?re5_4t0
      case hy5_4t0 => ((intro w hSw; (try dsimp only at hSw); have e1 := hSw.c0; have e2 := hSw.c1; go_simp) <;> with_reducible rfl)
      (try simp only [Act.put, List.setIfInBounds_toArray, List.set_cons_zero, List.set_cons_succ])
      refine wpAnyH_ready (rs := [1]) (by kernel_rfl) (by simp) ?_
      refine AllReadyH.cons (o := ({ dst := some 24, op := Go.Op.buildSlice 47 1 #[(0, Go.Operand.const (Go.Value.int Go.IntKind.i64 1))], type := 47, pos := "number.go:69", after := #[], guard := none } : Oper)) rfl (fun K hK => ?_) ?_
      · go_simp
        refine hK.out _ _ ?_ (fun hHeld => ?_)
        · exact hHeld.alloc _
        clear hK K
        (try simp only [Act.put, List.setIfInBounds_toArray, List.set_cons_zero, List.set_cons_succ])
        have HC1 := Lib.hid (HC0.out.alloc HC0.out.size (.cells #[.int .i64 1] 3))
        refine wpAnyH_ready (rs := [2]) (by kernel_rfl) (by simp) ?_
        refine AllReadyH.cons (o := ({ dst := some 25, op := Go.Op.call { callee := Go.Callee.value (Go.Operand.func 56), args := #[Go.Operand.tmp 23, Go.Operand.tmp 24], argTypes := #[47, 47] }, type := 47, pos := "number.go:69", after := #[{ on := 0, ground := Go.Ground.data }, { on := 1, ground := Go.Ground.data }], guard := none } : Oper)) rfl (fun K hK => ?_) ?_
        · go_simp
          go_at_call 56
          refine (CP.out _ _ _ _ _ (N1.out.below HC1.out) (lit_one w1.drew)).mono ?_
          rintro e wp ⟨up, rfl, np, Bp⟩
          have HCp := Lib.hid (HC1.out.trans (Bp.mono HC1.out.size))
          have NP := Lib.hid np
          clear np
          (try go_wp2_with fail)
          refine hK.out _ _ ?_ (fun hHeld => ?_)
          · exact hHeld.keep Bp hHeld.lt
          clear hK K
          (try simp only [Act.put, List.setIfInBounds_toArray, List.set_cons_zero, List.set_cons_succ])
          refine wpAnyH_ready (rs := [6]) (by kernel_rfl) (by simp) ?_
          refine AllReadyH.cons (o := ({ dst := some 29, op := Go.Op.call { callee := Go.Callee.value (Go.Operand.func 58), args := #[Go.Operand.tmp 27, Go.Operand.tmp 28], argTypes := #[47, 47] }, type := 47, pos := "number.go:69", after := #[{ on := 4, ground := Go.Ground.data }, { on := 5, ground := Go.Ground.data }, { on := 2, ground := Go.Ground.chain }], guard := none } : Oper)) rfl (fun K hK => ?_) ?_
          · go_simp
            go_at_call 58
            refine (CM.out _ (HB.out.trans (HCp.out.mono HB.out.size)) _ _ (N2.out.below HCp.out)).mono ?_
            rintro e wm ⟨um, rfl, nm, Bm⟩
            have HCm := Lib.hid (HCp.out.trans (Bm.mono HCp.out.size))
            have NM := Lib.hid nm
            clear nm
            (try go_wp2_with fail)
            refine hK.out _ _ ?_ (fun hHeld => ?_)
            · exact hHeld.keep Bm hHeld.lt
            clear hK K
            (try simp only [Act.put, List.setIfInBounds_toArray, List.set_cons_zero, List.set_cons_succ])
            refine wpAnyH_take (i := 7) (oi := ({ dst := some 6, op := Go.Op.assign (Go.Operand.tmp 25), type := 47, pos := "number.go:69", after := #[{ on := 2, ground := Go.Ground.data }, { on := 6, ground := Go.Ground.chain }, { on := 0, ground := Go.Ground.phase }, { on := 1, ground := Go.Ground.phase }, { on := 2, ground := Go.Ground.phase }, { on := 3, ground := Go.Ground.textOnly Go.Departure.lateStores }, { on := 4, ground := Go.Ground.textOnly Go.Departure.lateStores }, { on := 5, ground := Go.Ground.textOnly Go.Departure.lateStores }, { on := 6, ground := Go.Ground.textOnly Go.Departure.lateStoresUnsure }], guard := none } : Oper)) (v := ?v7_1ta) rfl (by kernel_rfl) (by kernel_rfl) (by kernel_rfl) (fun _ _ _ h => h) (Or.inl ⟨by rfl, ?hy7_1ta⟩) (by assumption) ?re7_1ta
            case hy7_1ta => ((intro w hSw; (try dsimp only at hSw); have e1 := hSw.c0; have e2 := hSw.c1; go_simp) <;> with_reducible rfl)
            (try simp only [Act.put, List.setIfInBounds_toArray, List.set_cons_zero, List.set_cons_succ])
            refine wpAnyH_take (i := 8) (oi := ({ dst := some 7, op := Go.Op.assign (Go.Operand.tmp 29), type := 47, pos := "number.go:69", after := #[{ on := 6, ground := Go.Ground.data }, { on := 7, ground := Go.Ground.chain }, { on := 0, ground := Go.Ground.phase }, { on := 1, ground := Go.Ground.phase }, { on := 2, ground := Go.Ground.phase }, { on := 3, ground := Go.Ground.phase }, { on := 4, ground := Go.Ground.phase }, { on := 5, ground := Go.Ground.phase }, { on := 6, ground := Go.Ground.phase }, { on := 7, ground := Go.Ground.phase }], guard := none } : Oper)) (v := ?v8_2ta) rfl (by kernel_rfl) (by kernel_rfl) (by kernel_rfl) (fun _ _ _ h => h) (Or.inl ⟨by rfl, ?hy8_2ta⟩) (by assumption) ?re8_2ta
            case hy8_2ta => ((intro w hSw; (try dsimp only at hSw); have e1 := hSw.c0; have e2 := hSw.c1; go_simp) <;> with_reducible rfl)
            (try simp only [Act.put, List.setIfInBounds_toArray, List.set_cons_zero, List.set_cons_succ])
            refine wpAnyH_done (by kernel_rfl) ?_ _
            refine NoPanic.normal ?_
            obtain ⟨a3', c3', rfl⟩ := NP.out.form
            obtain ⟨a4', c4', rfl⟩ := NM.out.form
            have B1 := HCm.out
            have n1 := NP.out.below Bm
            have n2 := NM.out
            clear N1 N2 r0 r1 r2 NP NM
            have N1 := Lib.hid n1
            have N2 := Lib.hid n2
            clear n1 n2
            have w0' := HW0.out.keep B1 (by have := HS.out; omega); have w1' := HW1.out.keep B1 (by have := HS.out; omega); have w2' := HW2.out.keep B1 (by have := HS.out; omega); have w3' := HW3.out.keep B1 HS.out; have b' := HB.out.trans (B1.mono HB.out.size); clear HW0 HW1 HW2 HW3 HB HS; have HS := Lib.hid w3'.lt; have HW0 := Lib.hid w0'; have HW1 := Lib.hid w1'; have HW2 := Lib.hid w2'; have HW3 := Lib.hid w3'; have HB := Lib.hid b'; have r0 := w0'.c0; have r1 := w1'.c0; have r2 := w1'.c1; clear w0' w1' w2' w3' b' B1
            go_wp2_with (first | (go_at_call 55; ((with_reducible refine (CS.out _ _ _ _ N1.out hQ1).mono ?_); rintro e w8 ⟨q1, a5, k5, c5, rfl, hq1, n1, B1⟩; have HZ1 := Lib.hid hq1; have n2 := N2.out.below B1; clear N1 N2 hq1; have N5 := Lib.hid n1; have N2 := Lib.hid n2; clear n1 n2; clear r0 r1 r2; have w0' := HW0.out.keep B1 (by have := HS.out; omega); have w1' := HW1.out.keep B1 (by have := HS.out; omega); have w2' := HW2.out.keep B1 (by have := HS.out; omega); have w3' := HW3.out.keep B1 HS.out; have b' := HB.out.trans (B1.mono HB.out.size); clear HW0 HW1 HW2 HW3 HB HS; have HS := Lib.hid w3'.lt; have HW0 := Lib.hid w0'; have HW1 := Lib.hid w1'; have HW2 := Lib.hid w2'; have HW3 := Lib.hid w3'; have HB := Lib.hid b'; have r0 := w0'.c0; have r1 := w1'.c0; have r2 := w1'.c1; clear w0' w1' w2' w3' b' B1; clear r0 r1 r2)) | (go_at_call 55; ((with_reducible refine (CS.out _ _ _ _ N2.out hYR).mono ?_); rintro e w9 ⟨q2, a6, k6, c6, rfl, hq2, n2, B1⟩; have HZ2 := Lib.hid hq2; have n1 := N5.out.below B1; clear N5 N2 hq2; have N5 := Lib.hid n1; have N6 := Lib.hid n2; clear n1 n2; have w0' := HW0.out.keep B1 (by have := HS.out; omega); have w1' := HW1.out.keep B1 (by have := HS.out; omega); have w2' := HW2.out.keep B1 (by have := HS.out; omega); have w3' := HW3.out.keep B1 HS.out; have b' := HB.out.trans (B1.mono HB.out.size); clear HW0 HW1 HW2 HW3 HB HS; have HS := Lib.hid w3'.lt; have HW0 := Lib.hid w0'; have HW1 := Lib.hid w1'; have HW2 := Lib.hid w2'; have HW3 := Lib.hid w3'; have HB := Lib.hid b'; have r0 := w0'.c0; have r1 := w1'.c0; have r2 := w1'.c1; clear w0' w1' w2' w3' b' B1; clear r0 r1 r2; have h2 := HW2.out; have h3 := HW3.out; have s0 := h2.c0; have t0 := h2.f 0; have A1 := h2.s0 (.bool q1); have s1 := A1.c1; have t1 := A1.f 1; have A2 := A1.s1 (.slice a5 k5 c5); have K0 := (h3.far (g2 := w.heap.size + 1 + 1) (j := 0) (v := .bool q1) (by omega)).far (g2 := w.heap.size + 1 + 1) (j := 1) (v := .slice a5 k5 c5) (by omega); have s2 := K0.c0; have t2 := K0.f 0; have K1 := K0.s0 (.bool q2); have s3 := K1.c1; have t3 := K1.f 1; have HA2 := Lib.hid ((A2.far (g2 := w.heap.size + 1 + 1 + 1) (j := 0) (v := .bool q2) (by omega)).far (g2 := w.heap.size + 1 + 1 + 1) (j := 1) (v := .slice a6 k6 c6) (by omega)); have HK2 := Lib.hid (K1.s1 (.slice a6 k6 c6)); have m1 := (N5.out.two h2 (fun x e => by cases e) (.bool q1) (.slice a5 k5 c5)).two K0 (fun x e => by cases e) (.bool q2) (.slice a6 k6 c6); have m2 := (N6.out.two h2 (fun x e => by cases e) (.bool q1) (.slice a5 k5 c5)).two K0 (fun x e => by cases e) (.bool q2) (.slice a6 k6 c6); have M1 := Lib.hid m1; have M2 := Lib.hid m2; clear A1 A2 K0 K1 h2 h3 m1 m2)))
            have hB9 := below_far (j := 1) (below_far (j := 0) (below_far (j := 1) (below_far (j := 0) HB.out (show w.heap.size ≤ w.heap.size + 1 + 1 by omega) (.bool q1)) (show w.heap.size ≤ w.heap.size + 1 + 1 by omega) (.slice a5 k5 c5)) (show w.heap.size ≤ w.heap.size + 1 + 1 + 1 by omega) (.bool q2)) (show w.heap.size ≤ w.heap.size + 1 + 1 + 1 by omega) (.slice a6 k6 c6)
            refine bodyPost_ret (results_cells2 rfl _ _ (w.heap.size + 1 + 1) (w.heap.size + 1 + 1 + 1) _ _ _ _ rfl rfl HA2.out HK2.out) rfl ?_
            exact ⟨_, _, rfl, ⟨.slice a5 k5 c5, by rw [sign_false HE1.out, HZ1.out], by rw [show (x / y).natAbs = Q + 1 from by have := HE1.out; omega]; exact M1.out⟩, ⟨.slice a6 k6 c6, by rw [sign_false HE2.out, HZ2.out], by rw [show (x % y).natAbs = Y - R from by have := HE2.out; omega]; exact M2.out⟩, hB9⟩
          exact AllReadyH.nil
        exact AllReadyH.nil
      exact AllReadyH.nil
end Go.Proofs.YtbdiofifjckceaaGreatDoor
