/- The walk of package wire's encode. -/
import Derived.Test.YtmhpcbaoicboaaaDoorWe
import Derived.RangeFuncNested
import Derived.RangeFuncBound
import Derived.RangeFuncCalls
import Derived.RangeFuncLeaves
import Derived.RangeFuncFrom
import Derived.Shelf.Abstract
import Derived.Shelf.RegionOpen
import Derived.WalkKit
import Derived.OwnWalkIn
import Derived.TacticsInMore
import Derived.LoopNIn
import Derived.LoopIn
import Derived.Lib.Hide
import Derived.Laws.IdiomStrings
namespace Go.Proofs.YtmhpcbaoicboaaaDoor
open Go.RowKit Go.Shelf
attribute [local go_sem] Oper.semAt_some

theorem groups_stops (n : Nat) (hn : 1 ≤ n) (B n₀ : Nat) (z : Nat) (hz : z < 128 ^ 9) (w : World) (hB : B < w.heap.size) (hc : w.cell? ⟨B, 0, none⟩ = some (.int .u64 z)) :
    SeqStopsK Fence.wide n Tryd.prog 32 #[.pointer (some ⟨B, 0, none⟩)] (fun x : Nat => #[Value.int .u8 x]) (Below n₀) (fun ys => ys = gn 9 z) (fun pre => pre <+: gn 9 z) (gn 9 z).length w := fun l J Jx W hW _ _ hY h0 =>
  groups1_in n hn l B z hz J Jx (fun pre x W1 hj hl => by
    obtain ⟨fn, tmps, assign, body, hy, hR⟩ := hY pre x W1 hj hl
    exact ⟨fn, tmps, assign, body, hy, hR.mono (fun e w' hr => hr.elim (fun h => .inl ⟨h.1, h.2.1⟩) .inr)⟩) W ((hW.cell (p := ⟨B, 0, none⟩) hB).trans hc) h0

theorem box_l {W : World} {B : Nat} {v : Value} {t : TypeId} (h : W.heap[B]? = some (.cells #[v] t (0, 0))) : W.cell? ⟨B, 0, none⟩ = some v ∧ W.frozen? ⟨B, 0, none⟩ = false := by
  constructor <;> simp [World.cell?, World.frozen?, h]
theorem new_l (W : World) (v : Value) (t : TypeId) : (W.alloc (.cells #[v] t)).cell? ⟨W.heap.size, 0, none⟩ = some v ∧ (W.alloc (.cells #[v] t)).frozen? ⟨W.heap.size, 0, none⟩ = false :=
  box_l (World.alloc_heap_new W _)
theorem keep_l {W : World} {a : Addr} {v : Value} (o : Obj) (h : W.cell? a = some v) : (W.alloc o).cell? a = some v := cell_kept h (World.grownBy_alloc W o none) (fun r e => by cases e)
theorem keepf_l {W : World} {a : Addr} {v : Value} (o : Obj) (h : W.cell? a = some v) (hf : W.frozen? a = false) : (W.alloc o).frozen? a = false := (frozen_kept h (World.grownBy_alloc W o none) (fun r e => by cases e)).trans hf

def nine : Array Value := #[.int .u8 0, .int .u8 0, .int .u8 0, .int .u8 0, .int .u8 0, .int .u8 0, .int .u8 0, .int .u8 0, .int .u8 0]

theorem nine_cells (W : World) (t : TypeId) (j : Nat) (hj : j < 9) : (W.alloc (.cells nine t)).cell? ⟨W.heap.size, j, none⟩ = some (.int .u8 0) ∧ (W.alloc (.cells nine t)).frozen? ⟨W.heap.size, j, none⟩ = false := by
  have h := World.alloc_heap_new W (.cells nine t)
  have hn : nine[j]? = some (.int .u8 0) := by
    have : ∀ i : Fin 9, nine[i.1]? = some (.int .u8 0) := by intro i; rcases i with ⟨i, hi⟩; have : i = 0 ∨ i = 1 ∨ i = 2 ∨ i = 3 ∨ i = 4 ∨ i = 5 ∨ i = 6 ∨ i = 7 ∨ i = 8 := by omega
                                                             rcases this with rfl | rfl | rfl | rfl | rfl | rfl | rfl | rfl | rfl <;> rfl
    exact this ⟨j, hj⟩
  constructor
  · rw [World.cell?, h]; exact hn
  · rw [World.frozen?, h]; simp

/-- what the loop of encode keeps: the counter, and the bytes that have come -/
def Kept (B : Nat) (pre : List Nat) (W : World) : Prop :=
  (W.cell? ⟨B + 1, 0, none⟩ = some (.int .i64 (pre.length : Int)) ∧ W.frozen? ⟨B + 1, 0, none⟩ = false) ∧
  (∀ j, j < 9 → W.cell? ⟨B, j, none⟩ = some (.int .u8 ((pre[j]?.getD 0 : Nat) : Int)) ∧ W.frozen? ⟨B, j, none⟩ = false)

theorem kept_own (B : Nat) : Own (Kept B) := fun _ _ _ _ hs hg hr =>
  ⟨⟨cell_kept hs.1.1 hg hr, (frozen_kept hs.1.1 hg hr).trans hs.1.2⟩, fun j hj => ⟨cell_kept (hs.2 j hj).1 hg hr, (frozen_kept (hs.2 j hj).1 hg hr).trans (hs.2 j hj).2⟩⟩

theorem kept_step {B : Nat} {pre : List Nat} {x : Nat} {W : World} (h : Kept B pre W) (hl : pre.length < 9) :
    Kept B (pre ++ [x]) ((W.setCell ⟨B, pre.length, none⟩ (.int .u8 (x : Int))).setCell ⟨B + 1, 0, none⟩ (.int .i64 ((pre.length : Int) + 1))) := by
  have n1 : (⟨B, pre.length, none⟩ : Addr) ≠ ⟨B + 1, 0, none⟩ := by simp
  refine ⟨⟨?_, ?_⟩, fun j hj => ⟨?_, ?_⟩⟩
  · rw [World.cell?_setCell_same' _ _ _ (by rw [World.cell?_setCell_other _ _ _ _ n1, h.1.1]; rfl)]
    simp
  · rw [World.frozen?_setCell, World.frozen?_setCell]; exact h.1.2
  · rw [World.cell?_setCell_other _ _ _ _ (show (⟨B + 1, 0, none⟩ : Addr) ≠ ⟨B, j, none⟩ by simp)]
    by_cases e : j = pre.length
    · subst e
      rw [World.cell?_setCell_same' _ _ _ (by rw [(h.2 _ hl).1]; rfl)]
      simp
    · have n2 : (⟨B, pre.length, none⟩ : Addr) ≠ ⟨B, j, none⟩ := fun h' => e (congrArg Addr.off h').symm
      have e2 : (pre ++ [x])[j]?.getD 0 = pre[j]?.getD 0 := by
        rcases Nat.lt_or_gt_of_ne e with h' | h'
        · rw [List.getElem?_append_left h']
        · rw [List.getElem?_eq_none (by simp; omega), List.getElem?_eq_none (by omega)]
      rw [World.cell?_setCell_other _ _ _ _ n2, (h.2 j hj).1, e2]
  · rw [World.frozen?_setCell, World.frozen?_setCell]; exact (h.2 j hj).2

theorem gn_len (z : Nat) : (gn 9 z).length ≤ 9 := by rw [gn, List.length_map]; exact grp_len 9 z

set_option maxRecDepth 100000 in
set_option maxHeartbeats 2000000 in
theorem encode_in (m : Int) (h0 : -4611686018427387903 ≤ m) (h1 : m ≤ 4611686018427387903) (w : World) :
    CallsIn Fence.wide 5 Tryd.prog 23 #[.int .i64 m] w fun e w' => e = .returned (.string ⟨(enc m).toArray⟩) ∧ Below w.heap.size w w' := by
  have hf : ∀ w, CallsIn Fence.wide 4 Tryd.prog 30 #[.int .i64 m] w fun e w' => e = .returned (.int .u64 (zig m)) ∧ w = w' := fun w => callsIn_wide.2 (fold_any m h0 h1 w)
  have hg : ∀ w, CallsIn Fence.wide 4 Tryd.prog 29 #[.int .u64 (zig m)] w fun e w' => e = .returned (.func (.func 32) #[] #[.pointer (some ⟨w.heap.size, 0, none⟩)]) ∧ w' = w.alloc (.cells #[.int .u64 (zig m)] 47) := fun w => callsIn_wide.2 (callsIn_wide.1 (groups_any (zig m) w))
  refine callsIn_of_wp_marks Tryd.func23 rfl trivial ?_ rfl
  simp only [Tryd.ntmps23, List.size_toArray, List.length_cons, List.length_nil, Nat.reduceAdd, Nat.reduceSub, Array.replicate_succ, Array.replicate_zero, List.push_toArray, List.append_toArray, List.nil_append, List.cons_append]
  gi_wp2_with (first | (refine ⟨trivial, ?_⟩; gi_at_call 30; refine (hf _).mono ?_; rintro e w' ⟨rfl, rfl⟩) | (refine ⟨trivial, ?_⟩; gi_at_call 29; refine (hg _).mono ?_; rintro e w' ⟨rfl, rfl⟩))
  rw [show (#[Value.int .u8 0, .int .u8 0, .int .u8 0, .int .u8 0, .int .u8 0, .int .u8 0, .int .u8 0, .int .u8 0, .int .u8 0] : Array Value) = nine from rfl]
  obtain ⟨W1, hW1⟩ : ∃ W1, w.alloc (.cells nine 54) = W1 := ⟨_, rfl⟩
  have hs1 : W1.heap.size = w.heap.size + 1 := by rw [← hW1]; simp
  have hn1 : ∀ j, j < 9 → W1.cell? ⟨w.heap.size, j, none⟩ = some (.int .u8 0) ∧ W1.frozen? ⟨w.heap.size, j, none⟩ = false := fun j hj => by rw [← hW1]; exact nine_cells w 54 j hj
  have hb1 : Below w.heap.size w W1 := by rw [← hW1]; exact (Below.refl _ w).alloc (Nat.le_refl _) _
  rw [hW1]
  clear hW1
  have hn2 := new_l W1 (.int .i64 0) 3
  obtain ⟨W2, hW2⟩ : ∃ W2, W1.alloc (.cells #[.int .i64 0] 3) = W2 := ⟨_, rfl⟩
  have hs2 : W2.heap.size = w.heap.size + 2 := by rw [← hW2]; simp; omega
  have hk2 : Kept w.heap.size [] W2 := by
    rw [hs1] at hn2
    rw [← hW2]
    exact ⟨hn2, fun j hj => ⟨keep_l _ (hn1 j hj).1, keepf_l _ (hn1 j hj).1 (hn1 j hj).2⟩⟩
  have hb2 : Below w.heap.size w W2 := by rw [← hW2]; exact hb1.alloc (by omega) _
  rw [hW2]
  clear hW2 hn2 hn1 hb1 hs1
  have hn3 := new_l W2 (.int .u64 (zig m)) 47
  have hs3 : (W2.alloc (.cells #[.int .u64 (zig m)] 47)).heap.size = w.heap.size + 3 := by simp; omega
  have hk3 : Kept w.heap.size [] (W2.alloc (.cells #[.int .u64 (zig m)] 47)) :=
    ⟨⟨keep_l _ hk2.1.1, keepf_l _ hk2.1.1 hk2.1.2⟩, fun j hj => ⟨keep_l _ (hk2.2 j hj).1, keepf_l _ (hk2.2 j hj).1 (hk2.2 j hj).2⟩⟩
  have hb3 : Below w.heap.size w (W2.alloc (.cells #[.int .u64 (zig m)] 47)) := hb2.alloc (by omega) _
  rw [hs2] at hn3
  refine wpIn_rangeFunc_ownF rfl (by omega) (gf := 32) (lb := #[.pointer (some ⟨w.heap.size + 1 + 1, 0, none⟩)]) rfl trivial (enters_of Tryd.func32 (by kernel_rfl) rfl)
    (groups_stops 4 (by omega) (w.heap.size + 1 + 1) w.heap.size (zig m) (zig_lt m h0 h1) _ (by omega) hn3.1) belowK_t (belowK_b (by omega)) (Below.refl _ _) (fun _ => rfl)
    (fun pre W => Kept w.heap.size pre W ∧ Below w.heap.size w W)
    (fun _ _ _ => False)
    (OwnFrom.and (Own.from (kept_own w.heap.size) _) (ownFrom_below (Nat.le_refl _) (by omega)))
    (fun _ _ _ _ _ hs _ _ => hs)
    ⟨hk3, hb3⟩
    (fun x => { tmps := #[.int .i64 m, undef, .string ⟨#[]⟩, .pointer (some ⟨w.heap.size, 0, none⟩), .pointer (some ⟨w.heap.size + 1, 0, none⟩), .int .u8 x, .int .i64 m, .int .u64 (zig m), .func (.func 32) #[] #[.pointer (some ⟨w.heap.size + 1 + 1, 0, none⟩)], .int .u8 x, undef, undef, undef, undef, undef, undef, undef, undef], defers := [] }) ?assign ?body ?done ?stop
  case assign =>
    intro l x W K hK
    gi_wp2
    exact hK
  case body =>
    rintro l pre x W ⟨hk, hB⟩ hlen
    have hl9 : pre.length < 9 := Nat.lt_of_lt_of_le hlen (gn_len _)
    have hst := kept_step (x := x) hk hl9
    have hc1 := hk.1.1
    have hf1 := hk.1.2
    obtain ⟨hc2, hf2⟩ := hk.2 pre.length hl9
    clear hk hlen hk3 hk2
    gi_wp2
    have hb : Below w.heap.size W ((W.setCell ⟨w.heap.size, pre.length, none⟩ (.int .u8 (x : Int))).setCell ⟨w.heap.size + 1, 0, none⟩ (.int .i64 ((pre.length : Int) + 1))) :=
      ((Below.refl _ W).setCell (p := ⟨w.heap.size, pre.length, none⟩) (Nat.le_refl _) _).setCell (p := ⟨w.heap.size + 1, 0, none⟩) (Nat.le_succ _) _
    exact ⟨(KeepsOthers.setCell _ _ _).trans (KeepsOthers.setCell _ _ _), hb, hst, hB.trans hb⟩
  case done =>
    rintro D ys W hD rfl ⟨hk, hB⟩ hK
    have hl9 := gn_len (zig m)
    have el : (gn 9 (zig m)).length = (enc m).length := by simp [gn, enc]
    have hc1 := hk.1.1
    rw [el] at hl9 hc1
    have hsl : (Instr.sliceAt 54 (.pointer (some ⟨w.heap.size, 0, none⟩)) none (some (.int .i64 ((enc m).length : Int))) none).run Tryd.prog W = .ok (.slice (some ⟨w.heap.size, 0, none⟩) (enc m).length 9) W := by
      have ha : Tryd.prog.arrayLen 54 = 9 := by kernel_rfl
      have he : Tryd.prog.elem 54 = 5 := by kernel_rfl
      have h := run_sliceAt_array_h (P := Tryd.prog) W 54 ⟨w.heap.size, 0, none⟩ (by rw [ha, he]; exact Tryd.underlying54) .i64 ((enc m).length : Int) (by omega) (by rw [ha]; omega)
      rw [ha, he] at h
      rw [h]
      simp [slicedAt, go_sem]
    have hconv := run_convert_bytes_back (P := Tryd.prog) W 38 9 5 ⟨w.heap.size, 0, none⟩ 9 (enc m) Tryd.underlying38 Tryd.underlying5 Tryd.underlying9 (fun j hj => by
      have h := (hk.2 j (by omega)).1
      have e : (gn 9 (zig m))[j]?.getD 0 = (enc m)[j].toNat := by
        have hj' : j < (grp 9 (zig m)).length := hj
        simp [gn, enc, hj']
      rw [e] at h
      have ea : (⟨w.heap.size, 0, none⟩ : Addr).add j = ⟨w.heap.size, j, none⟩ := by unfold Addr.add; split <;> simp_all
      rw [ea]
      exact h)
    clear hk el hn3 hk3 hk2
    gi_wp2
    refine ⟨by simp, .inl ⟨_, _, rfl, run_takeDeferred hK, ?_⟩⟩
    exact ⟨_, results_tmp rfl _ _ _, rfl, hB.trans (belowK_b (w := w) (Nat.le_refl _) W D _ _ (by omega) hK rfl rfl)⟩
  case stop =>
    rintro D c pre W _ _ h _
    exact h.elim

/-- encode -/
theorem encode_any (m : Int) (h0 : -4611686018427387903 ≤ m) (h1 : m ≤ 4611686018427387903) (w : World) :
    Calls Tryd.prog 23 #[.int .i64 m] w fun e w' => e = .returned (.string ⟨(enc m).toArray⟩) ∧ Below w.heap.size w w' :=
  callsIn_wide.1 (encode_in m h0 h1 w)
end Go.Proofs.YtmhpcbaoicboaaaDoor
