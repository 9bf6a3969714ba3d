/- Contracts of package integer's small functions: split, trimmed, comparing two ints. -/
import Derived.Test.YtbdiofifjckceaaGreatDoorProg
import Derived.Test.YtbdiofifjckceaaGreatDoorNb
import Derived.WalkKit
import Derived.LoopTactic
import Derived.Lib.Hide
import Derived.Deep.QuietTactic
import Derived.BigQuiet
import Derived.Below
import Derived.KernelRfl
import Derived.Outline
import Derived.Laws.AppendOwn
namespace Go.Proofs.YtbdiofifjckceaaGreatDoor
open Go.RowKit

theorem tdivmod (g : Int) (h : g < 0) : (g.tmod 10000 < 0 → g.tdiv 10000 - 1 = g / 10000 ∧ g.tmod 10000 + 10000 = g % 10000) ∧ (¬ g.tmod 10000 < 0 → g.tdiv 10000 = g / 10000 ∧ g.tmod 10000 = g % 10000) ∧ (-461168601842738 ≤ g / 10000 → g.tdiv 10000 ≤ 0) := by
  obtain ⟨k, rfl⟩ : ∃ k : Nat, g = -(k : Int) := ⟨g.natAbs, by omega⟩
  rw [Int.neg_tdiv, Int.neg_tmod]
  have e1 : (k : Int).tdiv 10000 = ((k / 10000 : Nat) : Int) := rfl
  have e2 : (k : Int).tmod 10000 = ((k % 10000 : Nat) : Int) := rfl
  rw [e1, e2]
  omega
set_option maxHeartbeats 1000000 in
theorem split_any (g : Int) (w : World) (h0 : -4611686018427387904 ≤ g) (h1 : g ≤ 4611686018427387904) :
    Calls Tryz.prog 90 #[.int .i64 g] w fun e w' => e = .returned (.tuple #[.int .i64 (g / 10000), .int .i64 (g % 10000)]) ∧ w = w' := by
  by_cases hg : 0 ≤ g
  · have hr : ¬ g % 10000 < 0 := by omega
    go_enter Tryz.func90, Tryz.ntmps90
    go_wp2
    go_ret2
    exact ⟨rfl, rfl⟩
  · obtain ⟨t1, t2, _⟩ := tdivmod g (by omega)
    by_cases hr : g.tmod 10000 < 0
    · obtain ⟨e1, e2⟩ := t1 hr
      have b1 : -461168601842739 ≤ g.tdiv 10000 - 1 := by omega
      have b2 : -10000 ≤ g.tmod 10000 := by omega
      have b3 : g.tdiv 10000 ≤ 1 := by omega
      rw [← e1, ← e2]
      clear e1 e2 t1 t2
      go_enter Tryz.func90, Tryz.ntmps90
      go_wp2
      go_ret2
      exact ⟨rfl, rfl⟩
    · obtain ⟨e1, e2⟩ := t2 hr
      rw [← e1, ← e2]
      clear e1 e2 t1 t2
      go_enter Tryz.func90, Tryz.ntmps90
      go_wp2
      go_ret2
      exact ⟨rfl, rfl⟩

/-- cells that read as integers -/
def IRow (w : World) (b o : Nat) (l : List Int) : Prop := ∀ j x, l[j]? = some x → w.cell? ⟨b, o + j, none⟩ = some (.int .i64 x)
theorem IRow.below {w w' : World} {n b o : Nat} {l : List Int} (h : IRow w b o l) (hb : Below n w w') (hn : b < n) : IRow w' b o l := fun j x hj => (hb.cell (p := ⟨b, o + j, none⟩) hn).trans (h j x hj)
theorem IRow.drewN {w : World} {b o : Nat} {l : List Int} (h : IRow w b o l) (q : Nat) : IRow (w.drewN q) b o l := h
theorem IRow.take {w : World} {b o : Nat} {l : List Int} (h : IRow w b o l) (k : Nat) : IRow w b o (l.take k) := fun j x hj => by
  rw [List.getElem?_take] at hj
  split at hj
  · exact h j x hj
  · cases hj

set_option maxRecDepth 100000 in
set_option maxHeartbeats 1000000 in
theorem trimmed_some (l : List Int) (b o n c : Nat) (w : World) (hn : l.length = n) (hc : n ≤ c) (hc2 : c ≤ 9223372036854775807) (hr : IRow w b o l) :
    Calls Tryz.prog 74 #[.slice (some ⟨b, o, none⟩) n c] w fun e w' => e = .returned (.slice (some ⟨b, o, none⟩) (trz l).length c) ∧ ∃ q, w' = w.drewN q := by
  have HN := Lib.hid hn
  have HR := Lib.hid hr
  clear hn hr
  go_enter Tryz.func74, Tryz.ntmps74
  go_wp2
  go_loopw [0] (fun v wr => ∃ k : Nat, k ≤ n ∧ v = .slice (some ⟨b, o, none⟩) k c ∧ Hid (trz (l.take k) = trz l) ∧ Hid (∃ q, wr = w.drewN q)) (fun v _ => match v with | .slice _ k _ => k | _ => 0)
  case atStart => exact ⟨n, Nat.le_refl _, rfl, Lib.hid (by rw [List.take_of_length_le (by rw [HN.out]; exact Nat.le_refl _)]), Lib.hid ⟨0, rfl⟩⟩
  case round =>
    obtain ⟨k, hk, rfl, HT, HW⟩ := hrel
    by_cases h0 : k = 0
    · subst h0
      have HL := Lib.hid (show (trz l).length = 0 by rw [← HT.out]; rfl)
      go_wp2
      go_ret
      exact ⟨by rw [HL.out]; rfl, HW.out⟩
    · obtain ⟨m, rfl⟩ : ∃ m, k = m + 1 := ⟨k - 1, by omega⟩
      have k1 : m < l.length := by rw [HN.out]; omega
      have hx : wr.cell? ⟨b, o + m, none⟩ = some (.int .i64 l[m]) := by obtain ⟨q, rfl⟩ := HW.out; exact HR.out m _ (List.getElem?_eq_getElem k1)
      have HK := Lib.hid (List.take_succ_eq_append_getElem k1)
      obtain ⟨x, hx'⟩ : ∃ x, l[m] = x := ⟨_, rfl⟩
      rw [hx'] at hx HK
      clear hx' k1 h0
      by_cases hx0 : x = 0
      · subst hx0
        have HT2 := Lib.hid (show trz (l.take m) = trz l by rw [← HT.out, HK.out, trz_snoc0])
        go_wp2
        go_roundw
        case rel => exact ⟨m, by omega, rfl, HT2, HW⟩
        case measure => exact Nat.lt_succ_self m
      · have q1 : (x == 0) = false := by rw [beq_eq_false_iff_ne]; exact hx0
        have HL := Lib.hid (show (trz l).length = m + 1 by rw [← HT.out, HK.out, trz_snoc _ _ hx0, List.length_append, List.length_take, HN.out]; simp; omega)
        go_wp2
        go_ret
        exact ⟨by rw [HL.out]; rfl, HW.out⟩
theorem trimmed_nil (w : World) : Calls Tryz.prog 74 #[.slice none 0 0] w fun e w' => e = .returned (.slice none 0 0) ∧ w = w' := by
  go_enter Tryz.func74, Tryz.ntmps74
  go_wp2
  go_loop [0] (fun v => v = .slice none 0 0) (fun _ => 0)
  case atStart => exact rfl
  case round =>
    subst hrel
    go_wp2
    go_ret
    exact ⟨rfl, rfl⟩

theorem isNaN_any (x : Int) (w : World) : Calls Tryz.prog 91 #[.int .i64 x] w fun e w' => e = .returned (.bool false) ∧ w = w' := by
  have q : (x == x) = true := by simp
  have q2 : (x != x) = false := by simp
  go_enter Tryz.func91, Tryz.ntmps91
  go_wp2
  go_ret
  exact ⟨by simp, rfl⟩
theorem cmpInt_any (x y : Int) (w : World) : Calls Tryz.prog 70 #[.int .i64 x, .int .i64 y] w fun e w' => e = .returned (.int .i64 (cmpN x y)) ∧ w = w' := by
  have c : ∀ x W, Calls Tryz.prog 91 #[.int .i64 x] W fun e w' => e = .returned (.bool false) ∧ W = w' := isNaN_any
  unfold cmpN
  by_cases h1 : x < y
  · rw [if_pos h1]
    go_enter Tryz.func70, Tryz.ntmps70
    go_wp2_with (go_at_call 91; (with_reducible refine (c _ _).mono ?_); rintro e w' ⟨rfl, rfl⟩)
    go_ret
    exact ⟨rfl, rfl⟩
  · rw [if_neg h1]
    by_cases h2 : y < x
    · rw [if_pos h2]
      go_enter Tryz.func70, Tryz.ntmps70
      go_wp2_with (go_at_call 91; (with_reducible refine (c _ _).mono ?_); rintro e w' ⟨rfl, rfl⟩)
      go_ret
      exact ⟨rfl, rfl⟩
    · rw [if_neg h2]
      go_enter Tryz.func70, Tryz.ntmps70
      go_wp2_with (go_at_call 91; (with_reducible refine (c _ _).mono ?_); rintro e w' ⟨rfl, rfl⟩)
      go_ret
      exact ⟨rfl, rfl⟩
end Go.Proofs.YtbdiofifjckceaaGreatDoor
