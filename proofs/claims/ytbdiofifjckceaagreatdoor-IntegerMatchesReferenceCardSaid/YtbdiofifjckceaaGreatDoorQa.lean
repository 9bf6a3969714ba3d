/- Reading two integers. -/
import Derived.Test.YtbdiofifjckceaaGreatDoorPw
import Derived.Test.YtbdiofifjckceaaGreatDoorPq
namespace Go.Proofs.YtbdiofifjckceaaGreatDoor
open Go.RowKit

theorem results_cells3 {fn : Func} {p q u : Tmp} (h : fn.results = #[.cell p 49, .cell q 49, .tmp u]) (tmps : Array Value) (w : World) (g1 g2 : Nat) (x1 y1 x2 y2 : Value)
    (hp : tmps.getD p undef = .pointer (some ⟨g1, 0, none⟩)) (hq : tmps.getD q undef = .pointer (some ⟨g2, 0, none⟩)) (hg1 : NBlk w g1 x1 y1) (hg2 : NBlk w g2 x2 y2) :
    (results fn tmps).run Tryz.prog w = .ok (.tuple #[.agg #[x1, y1], .agg #[x2, y2], tmps.getD u undef]) w := by
  have hp' : tmps[p]?.getD undef = .pointer (some ⟨g1, 0, none⟩) := by simpa using hp
  have hq' : tmps[q]?.getD undef = .pointer (some ⟨g2, 0, none⟩) := by simpa using hq
  simp [results, h, hp', hq', asAddr, Sem.run_bind, agg_yields hg1, agg_yields hg2]

theorem two_blocks (w : World) (x y x' y' : Value) : NBlk ((w.alloc (.cells #[x, y] 49)).alloc (.cells #[x', y'] 49)) w.heap.size x y ∧ NBlk ((w.alloc (.cells #[x, y] 49)).alloc (.cells #[x', y'] 49)) (w.heap.size + 1) x' y' := by
  refine ⟨(NBlk.new w x y).alloc _, ?_⟩
  have h := NBlk.new (w.alloc (.cells #[x, y] 49)) x' y'
  rw [World.size_alloc] at h
  exact h

set_option maxRecDepth 100000 in
set_option maxHeartbeats 1000000 in
theorem readBoth_ok (s1 s2 : ByteArray) (L1 L2 : List UInt8) (w : World) (hL1 : s1.data.toList = L1) (hL2 : s2.data.toList = L2) (hv1 : vld L1 = true) (hv2 : vld L2 = true) :
    Calls Tryz.prog 38 #[.string s1, .string s2] w fun e w' => ∃ v1 v2, e = .returned (.tuple #[v1, v2, .bool true]) ∧ Num w' v1 (num L1) ∧ Num w' v2 (num L2) ∧ Below w.heap.size w w' := by
  have hl1 := (vld_digits hv1).2.2
  have hl2 := (vld_digits hv2).2.2
  have cV1 := fun W => Valid_any s1 L1 W hL1 (by omega)
  have cV2 := fun W => Valid_any s2 L2 W hL2 (by omega)
  rw [hv1] at cV1
  rw [hv2] at cV2
  have cR1 := fun W => read_any s1 L1 W hL1 hv1
  have cR2 := fun W => read_any s2 L2 W hL2 hv2
  clear hL1 hL2 hv1 hv2 hl1 hl2
  go_enter Tryz.func38, Tryz.ntmps38
  have hB2 := ((below_alloc w (.cells #[.bool false, .slice none 0 0] 49)).alloc (by simp only [World.size_alloc]; omega) (.cells #[.bool false, .slice none 0 0] 49))
  obtain ⟨hW0, hW1⟩ := two_blocks w (.bool false) (.slice none 0 0) (.bool false) (.slice none 0 0)
  have HS := Lib.hid hW1.lt
  have HB := Lib.hid hB2
  have HW0 := Lib.hid hW0
  have HW1 := Lib.hid hW1
  clear hB2 hW0 hW1
  go_wp2_with (first | (go_at_call_of 23 (Value.string s1); (with_reducible refine (cV1 _).mono ?_); rintro e w1 ⟨rfl, B1⟩; have w0' := HW0.out.keep B1 (by have := HS.out; omega); have w1' := HW1.out.keep B1 HS.out; have b' := HB.out.trans (B1.mono HB.out.size); clear HW0 HW1 HB HS; have HS := Lib.hid w1'.lt; have HW0 := Lib.hid w0'; have HW1 := Lib.hid w1'; have HB := Lib.hid b'; clear w0' w1' b' B1) | (go_at_call_of 23 (Value.string s2); (with_reducible refine (cV2 _).mono ?_); rintro e w2 ⟨rfl, B1⟩; have w0' := HW0.out.keep B1 (by have := HS.out; omega); have w1' := HW1.out.keep B1 HS.out; have b' := HB.out.trans (B1.mono HB.out.size); clear HW0 HW1 HB HS; have HS := Lib.hid w1'.lt; have HW0 := Lib.hid w0'; have HW1 := Lib.hid w1'; have HB := Lib.hid b'; clear w0' w1' b' B1) | (go_at_call_of 46 (Value.string s1); (with_reducible refine (cR1 _).mono ?_); rintro e w3 ⟨v1, rfl, n1, B1⟩; have w0' := HW0.out.keep B1 (by have := HS.out; omega); have w1' := HW1.out.keep B1 HS.out; have b' := HB.out.trans (B1.mono HB.out.size); clear HW0 HW1 HB HS; have HS := Lib.hid w1'.lt; have HW0 := Lib.hid w0'; have HW1 := Lib.hid w1'; have HB := Lib.hid b'; clear w0' w1' b' B1; have N1 := Lib.hid n1; clear n1) | (go_at_call_of 46 (Value.string s2); (with_reducible refine (cR2 _).mono ?_); rintro e w4 ⟨v2, rfl, n2, B1⟩; have n1 := N1.out.below B1; obtain ⟨q1, a1, k1, c1, rfl, hq1, n1⟩ := n1.form; obtain ⟨q2, a2, k2, c2, rfl, hq2, n2⟩ := n2.form; have HZ1 := Lib.hid hq1; have HZ2 := Lib.hid hq2; clear hq1 hq2; have w0' := HW0.out.keep B1 (by have := HS.out; omega); have w1' := HW1.out.keep B1 HS.out; have b' := HB.out.trans (B1.mono HB.out.size); clear HW0 HW1 HB HS; have HS := Lib.hid w1'.lt; have HW0 := Lib.hid w0'; have HW1 := Lib.hid w1'; have HB := Lib.hid b'; clear w0' w1' b' B1; have h2 := HW0.out; have h3 := HW1.out; have z0 := h2.c0; have t0 := h2.f 0; have A1 := h2.s0 (.bool q1); have z1 := A1.c1; have t1 := A1.f 1; have A2 := A1.s1 (.slice a1 k1 c1); have K0 := (h3.far (g2 := w.heap.size) (j := 0) (v := .bool q1) (by omega)).far (g2 := w.heap.size) (j := 1) (v := .slice a1 k1 c1) (by omega); have z2 := K0.c0; have t2 := K0.f 0; have K1 := K0.s0 (.bool q2); have z3 := K1.c1; have t3 := K1.f 1; have HA2 := Lib.hid ((A2.far (g2 := w.heap.size + 1) (j := 0) (v := .bool q2) (by omega)).far (g2 := w.heap.size + 1) (j := 1) (v := .slice a2 k2 c2) (by omega)); have HK2 := Lib.hid (K1.s1 (.slice a2 k2 c2)); have m1 := (n1.two h2 (fun x e => by cases e) (.bool q1) (.slice a1 k1 c1)).two K0 (fun x e => by cases e) (.bool q2) (.slice a2 k2 c2); have m2 := (n2.two h2 (fun x e => by cases e) (.bool q1) (.slice a1 k1 c1)).two K0 (fun x e => by cases e) (.bool q2) (.slice a2 k2 c2); have M1 := Lib.hid m1; have M2 := Lib.hid m2; clear A1 A2 K0 K1 h2 h3 m1 m2 n1 n2 N1))
  have hB9 := below_far (j := 1) (below_far (j := 0) (below_far (j := 1) (below_far (j := 0) HB.out (Nat.le_refl w.heap.size) (.bool q1)) (Nat.le_refl w.heap.size) (.slice a1 k1 c1)) (Nat.le_succ w.heap.size) (.bool q2)) (Nat.le_succ w.heap.size) (.slice a2 k2 c2)
  refine bodyPost_ret (results_cells3 rfl _ _ w.heap.size (w.heap.size + 1) _ _ _ _ rfl rfl HA2.out HK2.out) rfl ?_
  exact ⟨_, _, rfl, ⟨_, by rw [HZ1.out], M1.out⟩, ⟨_, by rw [HZ2.out], M2.out⟩, hB9⟩

set_option maxRecDepth 100000 in
set_option maxHeartbeats 1000000 in
theorem readBoth_no (s1 s2 : ByteArray) (L1 L2 : List UInt8) (w : World) (hL1 : s1.data.toList = L1) (hL2 : s2.data.toList = L2) (hl1 : L1.length ≤ 60000) (hl2 : L2.length ≤ 60000) (hv : (vld L1 && vld L2) = false) :
    Calls Tryz.prog 38 #[.string s1, .string s2] w fun e w' => e = .returned (.tuple #[.agg #[.bool false, .slice none 0 0], .agg #[.bool false, .slice none 0 0], .bool false]) ∧ Below w.heap.size w w' := by
  have cV1 := fun W => Valid_any s1 L1 W hL1 (by omega)
  have cV2 := fun W => Valid_any s2 L2 W hL2 (by omega)
  generalize vld L1 = b1 at *
  generalize vld L2 = b2 at *
  clear hL1 hL2 hl1 hl2
  have hB2 := ((below_alloc w (.cells #[.bool false, .slice none 0 0] 49)).alloc (by simp only [World.size_alloc]; omega) (.cells #[.bool false, .slice none 0 0] 49))
  obtain ⟨hW0, hW1⟩ := two_blocks w (.bool false) (.slice none 0 0) (.bool false) (.slice none 0 0)
  have HS := Lib.hid hW1.lt
  have HB := Lib.hid hB2
  have HW0 := Lib.hid hW0
  have HW1 := Lib.hid hW1
  clear hB2 hW0 hW1
  cases b1 <;> (try cases b2) <;> (try cases hv)
  all_goals
    go_enter Tryz.func38, Tryz.ntmps38
    go_wp2_with (first | (go_at_call_of 23 (Value.string s1); (with_reducible refine (cV1 _).mono ?_); rintro e w1 ⟨rfl, B1⟩; have w0' := HW0.out.keep B1 (by have := HS.out; omega); have w1' := HW1.out.keep B1 HS.out; have b' := HB.out.trans (B1.mono HB.out.size); clear HW0 HW1 HB HS; have HS := Lib.hid w1'.lt; have HW0 := Lib.hid w0'; have HW1 := Lib.hid w1'; have HB := Lib.hid b'; clear w0' w1' b' B1; have h2 := HW0.out; have h3 := HW1.out; have z0 := h2.c0; have t0 := h2.f 0; have A1 := h2.s0 (.bool false); have z1 := A1.c1; have t1 := A1.f 1; have A2 := A1.s1 (.slice none 0 0); have K0 := (h3.far (g2 := w.heap.size) (j := 0) (v := .bool false) (by omega)).far (g2 := w.heap.size) (j := 1) (v := .slice none 0 0) (by omega); have z2 := K0.c0; have t2 := K0.f 0; have K1 := K0.s0 (.bool false); have z3 := K1.c1; have t3 := K1.f 1; have HA2 := Lib.hid ((A2.far (g2 := w.heap.size + 1) (j := 0) (v := .bool false) (by omega)).far (g2 := w.heap.size + 1) (j := 1) (v := .slice none 0 0) (by omega)); have HK2 := Lib.hid (K1.s1 (.slice none 0 0)); clear A1 A2 K0 K1 h2 h3) | (go_at_call_of 23 (Value.string s2); (with_reducible refine (cV2 _).mono ?_); rintro e w2 ⟨rfl, B1⟩; have w0' := HW0.out.keep B1 (by have := HS.out; omega); have w1' := HW1.out.keep B1 HS.out; have b' := HB.out.trans (B1.mono HB.out.size); clear HW0 HW1 HB HS; have HS := Lib.hid w1'.lt; have HW0 := Lib.hid w0'; have HW1 := Lib.hid w1'; have HB := Lib.hid b'; clear w0' w1' b' B1; clear z0 t0 z1 t1 z2 t2 z3 t3 HA2 HK2; have h2 := HW0.out; have h3 := HW1.out; have z0 := h2.c0; have t0 := h2.f 0; have A1 := h2.s0 (.bool false); have z1 := A1.c1; have t1 := A1.f 1; have A2 := A1.s1 (.slice none 0 0); have K0 := (h3.far (g2 := w.heap.size) (j := 0) (v := .bool false) (by omega)).far (g2 := w.heap.size) (j := 1) (v := .slice none 0 0) (by omega); have z2 := K0.c0; have t2 := K0.f 0; have K1 := K0.s0 (.bool false); have z3 := K1.c1; have t3 := K1.f 1; have HA2 := Lib.hid ((A2.far (g2 := w.heap.size + 1) (j := 0) (v := .bool false) (by omega)).far (g2 := w.heap.size + 1) (j := 1) (v := .slice none 0 0) (by omega)); have HK2 := Lib.hid (K1.s1 (.slice none 0 0)); clear A1 A2 K0 K1 h2 h3))
    have hB9 := below_far (j := 1) (below_far (j := 0) (below_far (j := 1) (below_far (j := 0) HB.out (Nat.le_refl w.heap.size) (.bool false)) (Nat.le_refl w.heap.size) (.slice none 0 0)) (Nat.le_succ w.heap.size) (.bool false)) (Nat.le_succ w.heap.size) (.slice none 0 0)
    refine bodyPost_ret (results_cells3 rfl _ _ w.heap.size (w.heap.size + 1) _ _ _ _ rfl rfl HA2.out HK2.out) rfl ?_
    exact ⟨rfl, hB9⟩
end Go.Proofs.YtbdiofifjckceaaGreatDoor
