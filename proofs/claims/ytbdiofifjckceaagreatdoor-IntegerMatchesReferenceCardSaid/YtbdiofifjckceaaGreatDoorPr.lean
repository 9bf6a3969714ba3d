/- Writing numbers with a sign. -/
import Derived.Test.YtbdiofifjckceaaGreatDoorPo
namespace Go.Proofs.YtbdiofifjckceaaGreatDoor
open Go.RowKit

theorem isZero_any (x : Int) (v : Value) (w : World) (h1 : Num w v x) :
    Calls Tryz.prog 39 #[v] w fun e w' => e = .returned (.bool (decide (x = 0))) ∧ Below w.heap.size w w' := by
  obtain ⟨u1, rfl, h1⟩ := h1
  obtain ⟨a1, c1, rfl⟩ := h1.form
  obtain ⟨k, hk⟩ : ∃ k, (grp x.natAbs).length = k := ⟨_, rfl⟩
  have hk0 : k = 0 ↔ x.natAbs = 0 := by rw [← hk]; exact List.length_eq_zero_iff.trans grp_nil
  have hx : decide (x = 0) = ((k : Int) == 0) := by
    by_cases h : k = 0
    · rw [decide_eq_true (by have := hk0.1 h; omega), h]; rfl
    · rw [decide_eq_false (fun e => h (hk0.2 (by omega)))]
      symm
      rw [beq_eq_false_iff_ne]; omega
  rw [hx, hk]
  generalize decide (x < 0) = b at *
  have hBB := below_alloc w (.cells #[.bool b, .slice a1 k c1] 49)
  clear h1 hk hk0 hx
  go_enter Tryz.func39, Tryz.ntmps39
  go_wp2
  go_ret
  exact ⟨rfl, hBB⟩

set_option maxRecDepth 100000 in
theorem ntext_any (x : Int) (v : Value) (w : World) (hl : (grp x.natAbs).length ≤ 5000) (h1 : Num w v x) :
    Calls Tryz.prog 41 #[v] w fun e w' => e = .returned (.string ⟨(txt x).toArray⟩) ∧ Below w.heap.size w w' := by
  obtain ⟨u1, rfl, h1⟩ := h1
  obtain ⟨a1, c1, rfl⟩ := h1.form
  have cT : ∀ W, Below w.heap.size w W → _ := fun W hB => text_any x.natAbs _ W hl (h1.below hB)
  have hbig : (txN x.natAbs).length ≤ 4 * (grp x.natAbs).length + 1 := txN_len (Nat.lt_of_lt_of_le (grp_lt _) (by
    rw [show (10000 : Nat) = 10 ^ 4 from rfl, ← Nat.pow_mul]
    exact Nat.pow_le_pow_right (by decide) (by omega))) (by omega)
  generalize (grp x.natAbs).length = k at *
  by_cases hx : x < 0
  · rw [decide_eq_true hx]
    have ht : txt x = 45 :: txN x.natAbs := by rw [txt, if_pos hx]
    have hcat : (⟨#[45]⟩ : ByteArray) ++ ⟨(txN x.natAbs).toArray⟩ = ⟨(txt x).toArray⟩ := by
      rw [ht]; apply ByteArray.ext; rw [ByteArray.data_append, ← Array.toList_inj]; simp
    have hsz : (⟨(txN x.natAbs).toArray⟩ : ByteArray).size = (txN x.natAbs).length := rfl
    rw [← hsz] at hbig
    have hBB := below_alloc w (.cells #[.bool true, .slice a1 k c1] 49)
    rw [← hcat]
    generalize (⟨(txN x.natAbs).toArray⟩ : ByteArray) = S at *
    clear h1 hcat ht hsz
    go_enter Tryz.func41, Tryz.ntmps41
    go_wp2_with (go_at_call 48; (with_reducible refine (cT _ hBB).mono ?_); rintro e w' ⟨rfl, hB'⟩)
    go_ret
    exact ⟨rfl, hBB.trans (hB'.mono hBB.size)⟩
  · rw [decide_eq_false hx]
    have ht : txt x = txN x.natAbs := by rw [txt, if_neg hx]
    rw [ht]
    have hBB := below_alloc w (.cells #[.bool false, .slice a1 k c1] 49)
    generalize (⟨(txN x.natAbs).toArray⟩ : ByteArray) = S at *
    clear h1 ht
    go_enter Tryz.func41, Tryz.ntmps41
    go_wp2_with (go_at_call 48; (with_reducible refine (cT _ hBB).mono ?_); rintro e w' ⟨rfl, hB'⟩)
    go_ret
    exact ⟨rfl, hBB.trans (hB'.mono hBB.size)⟩
end Go.Proofs.YtbdiofifjckceaaGreatDoor
