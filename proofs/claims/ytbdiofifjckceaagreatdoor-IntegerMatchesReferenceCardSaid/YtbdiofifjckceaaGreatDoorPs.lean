/- gcd and times of numbers with a sign. -/
import Derived.Test.YtbdiofifjckceaaGreatDoorPr
namespace Go.Proofs.YtbdiofifjckceaaGreatDoor
open Go.RowKit

theorem NBlk.lt {w : World} {g : Nat} {x y : Value} (h : NBlk w g x y) : g < w.heap.size := (Array.getElem?_eq_some_iff.1 h).1
theorem NBlk.keep {w w' : World} {n g : Nat} {x y : Value} (h : NBlk w g x y) (hb : Below n w w') (hg : g < n) : NBlk w' g x y := (hb.block g hg).trans h

theorem signed_plus (n : Nat) (u : Value) (w : World) (h : NSl w u n) (hl : (grp n).length ≤ 60000) :
    Calls Tryz.prog 55 #[.bool false, u] w fun e w' => ∃ a k c, e = .returned (.agg #[.bool false, .slice a k c]) ∧ NSl w' (.slice a k c) n ∧ Below w.heap.size w w' :=
  (signed_any false n u w h hl).mono fun e w' ⟨v, he, ⟨u', hu, hn⟩, hb⟩ => by
    obtain ⟨a, c, rfl⟩ := hn.form
    refine ⟨a, _, c, ?_, by simpa using hn, hb⟩
    rw [he, hu]
    simp
set_option maxRecDepth 100000 in
set_option maxHeartbeats 1000000 in
theorem ngcd_any (x y : Int) (v1 v2 : Value) (w : World) (hl1 : (grp x.natAbs).length ≤ 50000) (hl2 : (grp y.natAbs).length ≤ 50000) (h1 : Num w v1 x) (h2 : Num w v2 y) :
    Calls Tryz.prog 45 #[v1, v2] w fun e w' => ∃ v, e = .returned v ∧ Num w' v (Nat.gcd x.natAbs y.natAbs : Nat) ∧ Below w.heap.size w w' := by
  obtain ⟨u1, rfl, h1⟩ := h1
  obtain ⟨u2, rfl, h2⟩ := h2
  obtain ⟨a1, c1, rfl⟩ := h1.form
  obtain ⟨a2, c2, rfl⟩ := h2.form
  have cA : ∀ W, Below w.heap.size w W → _ := fun W hB => gcd_any x.natAbs y.natAbs _ _ W (by omega) (by omega) (h1.below hB) (h2.below hB)
  have hg : (grp (Nat.gcd x.natAbs y.natAbs)).length ≤ 60000 := by
    rcases Nat.eq_zero_or_pos x.natAbs with h | h
    · rw [h, Nat.gcd_zero_left]; omega
    · exact Nat.le_trans (grp_mono (Nat.gcd_le_left _ h)) (by omega)
  generalize (grp x.natAbs).length = k1 at *
  generalize (grp y.natAbs).length = k2 at *
  generalize decide (x < 0) = b1 at *
  generalize decide (y < 0) = b2 at *
  have cS := fun (W : World) u n (h : NSl W u n) (hl : (grp n).length ≤ 60000) => signed_plus n u W h hl
  have CS := Lib.hid cS
  have CA := Lib.hid cA
  clear h1 h2 cS cA
  go_enter Tryz.func45, Tryz.ntmps45
  have hB3 := (((below_alloc w (.cells #[.bool b1, .slice a1 k1 c1] 49)).alloc (by simp only [World.size_alloc]; omega) (.cells #[.bool b2, .slice a2 k2 c2] 49)).alloc (by simp only [World.size_alloc]; omega) (.cells #[.bool false, .slice none 0 0] 49))
  have hW : NBlk (((w.alloc (.cells #[.bool b1, .slice a1 k1 c1] 49)).alloc (.cells #[.bool b2, .slice a2 k2 c2] 49)).alloc (.cells #[.bool false, .slice none 0 0] 49)) (w.heap.size + 1 + 1) (.bool false) (.slice none 0 0) := by
    have e := World.alloc_heap_new ((w.alloc (.cells #[.bool b1, .slice a1 k1 c1] 49)).alloc (.cells #[.bool b2, .slice a2 k2 c2] 49)) (.cells #[.bool false, .slice none 0 0] 49)
    rw [World.size_alloc, World.size_alloc] at e
    exact e
  have HB3 := Lib.hid hB3
  have HW := Lib.hid hW
  clear hB3 hW
  go_wp2_with (first | (go_at_call 61; (with_reducible refine (CA.out _ HB3.out).mono ?_); rintro e w1 ⟨g, rfl, n1, B1⟩; have hW1 := HW.out.keep B1 (by simp only [World.size_alloc]; omega); have N1 := Lib.hid n1; have BB1 := Lib.hid (HB3.out.trans (B1.mono (by simp only [World.size_alloc]; omega))); have HW1 := Lib.hid hW1; clear n1 B1 hW1) | (go_at_call 55; (with_reducible refine (CS.out _ _ _ N1.out hg).mono ?_); rintro e w2 ⟨a, k, c, rfl, n2, B2⟩; have h0 := HW1.out.keep B2 HW1.out.lt; have c0 := h0.c0; have f0 := h0.f 0; have c1' := h0.c1; have N2 := Lib.hid (fun j (hj : 2 ≤ j) => h0.c2 hj); have hA := h0.s0 (.bool false); have c1 := hA.c1; have f1 := hA.f 1; have HA := Lib.hid (hA.s1 (.slice a k c)); clear hA; have HN2 := Lib.hid n2; have BB2 := Lib.hid (BB1.out.trans (B2.mono BB1.out.size)); clear h0 n2 B2))
  have hB9 := (BB2.out.setCell (p := ⟨w.heap.size + 1 + 1, 0, none⟩) (by show w.heap.size ≤ w.heap.size + 1 + 1; omega) (.bool false)).setCell (p := ⟨w.heap.size + 1 + 1, 1, none⟩) (by show w.heap.size ≤ w.heap.size + 1 + 1; omega) (.slice a k c)
  have hN9 := HN2.out.over (w2 := (w2.setCell ⟨w.heap.size + 1 + 1, 0, none⟩ (.bool false)).setCell ⟨w.heap.size + 1 + 1, 1, none⟩ (.slice a k c)) c0 c1' (fun q hq => (Below.heap_setCell _ _ _ _ hq).trans (Below.heap_setCell _ _ _ _ hq)) (by simp [World.setCell]) N2.out (fun x e => by cases e)
  refine bodyPost_ret (results_cell_row rfl _ _ (w.heap.size + 1 + 1) 49 #[.bool false, .slice a k c] (0, 0) _ rfl HA.out Tryz.underlying49 rfl info_number) rfl ?_
  exact ⟨_, rfl, ⟨.slice a k c, by simp, by simpa using hN9⟩, hB9⟩
end Go.Proofs.YtbdiofifjckceaaGreatDoor
