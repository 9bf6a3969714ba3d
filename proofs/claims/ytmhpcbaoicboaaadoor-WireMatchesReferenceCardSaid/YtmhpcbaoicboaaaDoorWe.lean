/- Walks of package wire's encode: the range over the function that groups makes. -/
import Derived.Test.YtmhpcbaoicboaaaDoorWa
import Derived.RangeFuncNested
import Derived.RangeFuncBound
import Derived.RangeFuncCalls
import Derived.RangeFuncLeaves
import Derived.RangeFuncFrom
import Derived.Shelf.Abstract
import Derived.Shelf.RegionOpen
import Derived.WalkKit
import Derived.OwnWalkIn
import Derived.TacticsInMore
import Derived.LoopNIn
import Derived.LoopIn
import Derived.Lib.Hide
namespace Go.Proofs.YtmhpcbaoicboaaaDoor
open Go.RowKit Go.Shelf
attribute [local go_sem] Oper.semAt_some

theorem groups_any (z : Nat) (w : World) :
    CallsIn Fence.wide 3 Tryd.prog 29 #[.int .u64 z] w fun e w' => e = .returned (.func (.func 32) #[] #[.pointer (some ⟨w.heap.size, 0, none⟩)]) ∧ w' = w.alloc (.cells #[.int .u64 z] 47) := by
  refine callsIn_wide.2 ?_
  go_enter Tryd.func29, Tryd.ntmps29
  go_wp2
  go_ret
  exact ⟨rfl, rfl⟩

/-- the groups as numbers -/
def gn (f z : Nat) : List Nat := (grp f z).map (·.toNat)
theorem gn_lo (f z : Nat) (h : z < 128) : gn (f + 1) z = [z] := by simp only [gn, grp, if_pos h, List.map_cons, List.map_nil, toNat_lo z h]
theorem gn_hi (f z : Nat) (h : ¬ z < 128) : gn (f + 1) z = (z % 128 + 128) :: gn f (z / 128) := by simp only [gn, grp, if_neg h, List.map_cons, toNat_hi]

set_option maxRecDepth 100000 in
set_option maxHeartbeats 1000000 in
theorem groups1_in (n : Nat) (hn : 1 ≤ n) (l B : Nat) (z : Nat) (hz : z < 128 ^ 9) (J Jx : List Nat → World → Prop)
    (hY : ∀ (pre : List Nat) (x : Nat) (W : World), J pre W → pre.length < (gn 9 z).length → YieldAt Fence.wide (n - 1) Tryd.prog l #[.int .u8 x] W fun e W' =>
      (e = .returned (.bool true) ∧ J (pre ++ [x]) W') ∨ (e = .returned (.bool false) ∧ Jx (pre ++ [x]) W'))
    (W : World) (hB : W.cell? ⟨B, 0, none⟩ = some (.int .u64 z)) (h0 : J [] W) :
    CallsIn Fence.wide n Tryd.prog 32 #[.func (.yield l) #[] #[], .pointer (some ⟨B, 0, none⟩)] W fun e W' => (∃ v, e = .returned v) ∧
      ((∃ ys, ys = gn 9 z ∧ J ys W') ∨ (∃ pre, pre <+: gn 9 z ∧ Jx pre W')) := by
  refine callsIn_of_wp Tryd.func32 rfl trivial ?_ rfl
  simp only [Tryd.ntmps32, List.size_toArray, List.length_cons, List.length_nil, Nat.reduceAdd, Nat.reduceSub, Array.replicate_succ, Array.replicate_zero, List.push_toArray, List.append_toArray, List.nil_append, List.cons_append]
  gi_wp2
  gi_loopw [3] (fun p wr => ∃ (pre : List Nat) (f r : Nat), p = .int .u64 (r : Int) ∧ gn 9 z = pre ++ gn (f + 1) r ∧ r < 128 ^ (f + 1) ∧ f ≤ 8 ∧ J pre wr)
    (fun p _ => (intOf p).toNat)
  case atStart => exact ⟨[], 8, z, rfl, rfl, hz, by omega, h0⟩
  case round =>
    obtain ⟨pre, f, r, rfl, hx, hr, hf8, hJs⟩ := hrel
    have hr9 : r < 9223372036854775808 := Nat.lt_of_lt_of_le hr (Nat.le_trans (Nat.pow_le_pow_right (by omega) (show f + 1 ≤ 9 by omega)) (by decide))
    by_cases hlt : r < 128
    · rw [gn_lo f r hlt] at hx
      obtain ⟨fn, tmps, assign, body, hy, hR⟩ := hY pre r wr hJs (by rw [hx]; simp)
      have HX := Lib.hid hx
      clear hx
      gi_wp2
      refine hR.mono ?_
      rintro e W3 (⟨rfl, hJ3⟩ | ⟨rfl, hJx3⟩)
      · gi_wp2
        go_end0
        exact ⟨⟨_, rfl⟩, .inl ⟨_, HX.out.symm, hJ3⟩⟩
      · gi_wp2
        go_end0
        exact ⟨⟨_, rfl⟩, .inr ⟨_, ⟨[], by rw [HX.out]; simp⟩, hJx3⟩⟩
    · rw [gn_hi f r hlt] at hx
      obtain ⟨fn, tmps, assign, body, hy, hR⟩ := hY pre (r % 128 + 128) wr hJs (by rw [hx]; simp)
      rw [show ((r % 128 + 128 : Nat) : Int) = (r : Int) % 128 + 128 by omega] at hy
      have HX := Lib.hid hx
      clear hx
      gi_wp2
      refine hR.mono ?_
      rintro e W3 (⟨rfl, hJ3⟩ | ⟨rfl, hJx3⟩)
      · gi_wp2
        go_roundw
        case rel =>
          have hf0 : f ≠ 0 := fun e => by subst e; simp at hr; omega
          obtain ⟨f', rfl⟩ : ∃ f', f = f' + 1 := ⟨f - 1, by omega⟩
          exact ⟨pre ++ [r % 128 + 128], f', r / 128, by go_num, by rw [HX.out]; simp, by rw [Nat.pow_succ] at hr; omega, by omega, hJ3⟩
        case measure => simp [intOf]; omega
      · gi_wp2
        refine bodyPost_ret (results_none rfl _ _ _) rfl ?_
        exact ⟨⟨_, rfl⟩, .inr ⟨_, ⟨gn f (r / 128), by rw [HX.out]; simp⟩, hJx3⟩⟩
end Go.Proofs.YtmhpcbaoicboaaaDoor
