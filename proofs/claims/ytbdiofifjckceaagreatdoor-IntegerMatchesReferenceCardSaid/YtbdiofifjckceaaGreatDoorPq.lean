/- Comparing and writing numbers with a sign. -/
import Derived.Test.YtbdiofifjckceaaGreatDoorPo
import Derived.Test.YtbdiofifjckceaaGreatDoorPp
namespace Go.Proofs.YtbdiofifjckceaaGreatDoor
open Go.RowKit

set_option maxRecDepth 100000 in
set_option maxHeartbeats 1000000 in
theorem ncompare_any (x y : Int) (v1 v2 : Value) (w : World) (hl1 : (grp x.natAbs).length ≤ 50000) (hl2 : (grp y.natAbs).length ≤ 50000) (h1 : Num w v1 x) (h2 : Num w v2 y) :
    Calls Tryz.prog 53 #[v1, v2] w fun e w' => e = .returned (.int .i64 (cmpN x y)) ∧ Below w.heap.size w w' := by
  obtain ⟨u1, rfl, h1⟩ := h1
  obtain ⟨u2, rfl, h2⟩ := h2
  obtain ⟨a1, c1, rfl⟩ := h1.form
  obtain ⟨a2, c2, rfl⟩ := h2.form
  have cA : ∀ W, Below w.heap.size w W → _ := fun W hB => compare_any x.natAbs y.natAbs _ _ W (by omega) (h1.below hB) (h2.below hB)
  have cB : ∀ W, Below w.heap.size w W → _ := fun W hB => compare_any y.natAbs x.natAbs _ _ W (by omega) (h2.below hB) (h1.below hB)
  generalize (grp x.natAbs).length = k1 at *
  generalize (grp y.natAbs).length = k2 at *
  obtain ⟨b1, hb1⟩ : ∃ b, decide (x < 0) = b := ⟨_, rfl⟩
  obtain ⟨b2, hb2⟩ : ∃ b, decide (y < 0) = b := ⟨_, rfl⟩
  rw [hb1, hb2]
  have s1 : Below w.heap.size w w := Below.refl _ _
  clear h1 h2
  cases b1 <;> cases b2
  all_goals
    simp only [decide_eq_false_iff_not, decide_eq_true_eq] at hb1 hb2
    obtain ⟨z, hz⟩ : ∃ z, cmpN x y = z := ⟨_, rfl⟩
    rw [hz]
  · have e : cmpN (x.natAbs : Int) (y.natAbs : Int) = z := by rw [← hz, show (x.natAbs : Int) = x by omega, show (y.natAbs : Int) = y by omega]
    rw [e] at cA
    clear cB hb1 hb2 hz e
    have hBB := (below_alloc w (.cells #[.bool false, .slice a1 k1 c1] 49)).alloc (by simp) (.cells #[.bool false, .slice a2 k2 c2] 49)
    go_enter Tryz.func53, Tryz.ntmps53
    go_wp2_with (go_at_call 57; (with_reducible refine (cA _ hBB).mono ?_); rintro e w' ⟨rfl, hB'⟩)
    go_ret
    exact ⟨rfl, hBB.trans (hB'.mono hBB.size)⟩
  · have e : z = 1 := by rw [← hz, cmpN, if_neg (by omega), if_pos (by omega)]
    subst e
    clear cA cB hb1 hb2 hz
    have hBB := (below_alloc w (.cells #[.bool false, .slice a1 k1 c1] 49)).alloc (by simp) (.cells #[.bool true, .slice a2 k2 c2] 49)
    go_enter Tryz.func53, Tryz.ntmps53
    go_wp2
    go_ret
    exact ⟨rfl, hBB⟩
  · have e : z = -1 := by rw [← hz, cmpN, if_pos (by omega)]
    subst e
    clear cA cB hb1 hb2 hz
    have hBB := (below_alloc w (.cells #[.bool true, .slice a1 k1 c1] 49)).alloc (by simp) (.cells #[.bool false, .slice a2 k2 c2] 49)
    go_enter Tryz.func53, Tryz.ntmps53
    go_wp2
    go_ret
    exact ⟨rfl, hBB⟩
  · have e : cmpN (y.natAbs : Int) (x.natAbs : Int) = z := by
      rw [← hz]; unfold cmpN
      split <;> split <;> (try split) <;> (try split) <;> omega
    rw [e] at cB
    clear cA hb1 hb2 hz e
    have hBB := (below_alloc w (.cells #[.bool true, .slice a1 k1 c1] 49)).alloc (by simp) (.cells #[.bool true, .slice a2 k2 c2] 49)
    go_enter Tryz.func53, Tryz.ntmps53
    go_wp2_with (go_at_call 57; (with_reducible refine (cB _ hBB).mono ?_); rintro e w' ⟨rfl, hB'⟩)
    go_ret
    exact ⟨rfl, hBB.trans (hB'.mono hBB.size)⟩
end Go.Proofs.YtbdiofifjckceaaGreatDoor
