/- Contracts of slices.Backward's iterator and of the naturals' compare. -/
import Derived.Test.YtbdiofifjckceaaGreatDoorPd
import Derived.RangeFuncBox
import Derived.RangeFuncLeaves
import Derived.Shelf.Abstract
import Derived.WalkKit
import Derived.OwnWalkIn
import Derived.TacticsInMore
import Derived.LoopNIn
import Derived.LoopIn
import Derived.RangeFuncNested
import Derived.RangeFuncCalls
namespace Go.Proofs.YtbdiofifjckceaaGreatDoor
open Go.RowKit Go.Shelf
attribute [local go_sem] Oper.semAt_some

/-- an element -/
def ix (l : List Int) (j : Nat) : Int := l[j]?.getD 0
theorem ix_lt {l : List Int} {j : Nat} (h : j < l.length) : ix l j = l[j] := by rw [ix, List.getElem?_eq_getElem h]; rfl
/-- the indices that have come when k rounds are over: the last k, from the end on -/
def idxs (len k : Nat) : List Nat := (List.range k).map fun j => len - 1 - j
theorem idxs_succ (len k : Nat) : idxs len (k + 1) = idxs len k ++ [len - 1 - k] := by simp [idxs, List.range_succ]
theorem idxs_len (len k : Nat) : (idxs len k).length = k := by simp [idxs]
theorem mem_idxs {len k i : Nat} (hk : k ≤ len) : i ∈ idxs len k ↔ len - k ≤ i ∧ i < len := by
  simp only [idxs, List.mem_map, List.mem_range]
  constructor
  · rintro ⟨j, hj, rfl⟩; omega
  · intro h; exact ⟨len - 1 - i, by omega, by omega⟩

/-- what a round keeps: all that lay below n₀ but one block -/
def KpR (R n₀ : Nat) (W W' : World) : Prop := ∀ k, k < n₀ → k ≠ R → W'.heap[k]? = W.heap[k]?
theorem KpR.refl (R n₀ : Nat) (W : World) : KpR R n₀ W W := fun _ _ _ => rfl
theorem KpR.trans {R n₀ : Nat} {A B C : World} (h : KpR R n₀ A B) (k : KpR R n₀ B C) : KpR R n₀ A C := fun i hi hr => (k i hi hr).trans (h i hi hr)
theorem KpR.cell {R n₀ b o : Nat} {W W' : World} {v : Value} (h : KpR R n₀ W W') (hb : b < n₀) (hr : b ≠ R) (hc : W.cell? ⟨b, o, none⟩ = some v) : W'.cell? ⟨b, o, none⟩ = some v := by
  rw [World.cell?_of_block (a := ⟨b, o, none⟩) (h b hb hr)]; exact hc
theorem KpR.set (R n₀ : Nat) (W : World) (j : Nat) (v : Value) : KpR R n₀ W (W.setCell ⟨R, j, none⟩ v) := fun k _ hr => heap_setCell_other W ⟨R, j, none⟩ k v hr

set_option maxRecDepth 100000 in
set_option maxHeartbeats 2000000 in
theorem backward1_in (F : Fence) (n : Nat) (h8 : F.fn 92) (hro : F.round = none) (hn : 1 ≤ n) (lp Bs R n₀ b off len cap : Nat) (zs : List Int) (hzs : zs.length = len) (hreach : len ≤ 100000) (hlc : len ≤ cap) (hb : b < n₀) (hbR : b ≠ R) (hBR : Bs ≠ R) (J Jx : List (Fin len) → World → Prop)
    (hY : ∀ pre x W, J pre W → pre.length < len → YieldAt F (n - 1) Tryz.prog lp #[.int .i64 ((x : Fin len).1 : Int), .int .i64 ((ix zs x.1))] W fun e W' =>
      (e = .returned (.bool true) ∧ J (pre ++ [x]) W' ∧ KpR R n₀ W W') ∨ (e = .returned (.bool false) ∧ Jx (pre ++ [x]) W'))
    (W : World) (hBn : Bs < n₀) (hBs : W.cell? ⟨Bs, 0, none⟩ = some (.slice (some ⟨b, off, none⟩) len cap)) (hc : IRow W b off zs) (h0 : J [] W) :
    CallsIn F n Tryz.prog 92 #[.func (.yield lp) #[] #[], .pointer (some ⟨Bs, 0, none⟩)] W fun e W' => (∃ v, e = .returned v) ∧
      ((∃ ys : List (Fin len), ys.map (·.1) = idxs len len ∧ J ys W') ∨ (∃ pre : List (Fin len), (∃ k, k ≤ len ∧ pre.map (·.1) = idxs len k) ∧ Jx pre W')) := by
  refine callsIn_of_wp Tryz.func92 rfl h8 ?_ hro
  simp only [Tryz.ntmps92, List.size_toArray, List.length_cons, List.length_nil, Nat.reduceAdd, Nat.reduceSub, Array.replicate_succ, Array.replicate_zero, List.push_toArray, List.append_toArray, List.nil_append, List.cons_append]
  have HZ := Lib.hid hzs
  have HC := Lib.hid hc
  have HJ0 := Lib.hid h0
  have HY := Lib.hid hY
  clear hzs hc h0 hY
  gi_wp2
  gi_loopw [3] (fun i wr => ∃ m k : Nat, m + k = len ∧ i = .int .i64 ((m : Int) - 1) ∧ Hid (∃ pre : List (Fin len), pre.map (·.1) = idxs len k ∧ J pre wr) ∧ KpR R n₀ W wr)
    (fun i _ => (intOf i + 1).toNat)
  case atStart => exact ⟨len, 0, by omega, rfl, Lib.hid ⟨[], rfl, HJ0.out⟩, KpR.refl _ _ _⟩
  case round =>
    obtain ⟨m, k, hk, rfl, hJs, hnx⟩ := hrel
    have hBs2 := hnx.cell hBn hBR hBs
    cases m with
    | zero =>
      obtain rfl : k = len := by omega
      simp only [Int.natCast_zero, Int.zero_sub]
      gi_wp2
      go_end0
      obtain ⟨pre, e1, e2⟩ := hJs.out
      exact ⟨⟨_, rfl⟩, .inl ⟨_, e1, e2⟩⟩
    | succ m =>
      have hm1 : ((m + 1 : Nat) : Int) - 1 = (m : Int) := by omega
      rw [hm1]
      have hml : m < zs.length := by rw [HZ.out]; omega
      have hcx : wr.cell? ⟨b, off + m, none⟩ = some (.int .i64 zs[m]) := hnx.cell hb hbR (HC.out m _ (List.getElem?_eq_getElem hml))
      have hget : ix zs m = zs[m] := ix_lt hml
      have HS := Lib.hid (show idxs len (k + 1) = idxs len k ++ [m] by rw [idxs_succ, show len - 1 - k = m by omega])
      obtain ⟨pre, hpre, hJp⟩ := hJs.out
      have hpl : pre.length = k := by have := congrArg List.length hpre; rwa [List.length_map, idxs_len] at this
      have hml2 : m < len := by omega
      have hY0 := HY.out pre ⟨m, hml2⟩ wr hJp (by omega)
      rw [← hget] at hcx
      have HP := Lib.hid (show (pre ++ [(⟨m, hml2⟩ : Fin len)]).map (·.1) = idxs len (k + 1) by rw [HS.out, List.map_append, hpre]; rfl)
      clear hpl
      obtain ⟨fn, tmps, assign, body, hy, hR⟩ := hY0
      dsimp only at hy
      generalize ix zs m = x at *
      have hmb : m < len := by omega
      have hm3 : (m : Int) < (len : Int) := by omega
      clear hm1 hml hget hpre hJp
      gi_wp2
      refine hR.mono ?_
      rintro e W3 (⟨rfl, hJ3, hk3⟩ | ⟨rfl, hJx3⟩)
      · have HJ3 := Lib.hid hJ3
        clear hJ3
        gi_wp2
        go_roundw
        case rel => exact ⟨m, k + 1, by omega, rfl, Lib.hid ⟨_, HP.out, HJ3.out⟩, hnx.trans hk3⟩
        case measure => simp [intOf]
      · gi_wp2
        refine bodyPost_ret (results_none rfl _ _ _) rfl ?_
        exact ⟨⟨_, rfl⟩, .inr ⟨_, ⟨k + 1, by omega, HP.out⟩, hJx3⟩⟩

set_option maxHeartbeats 1000000 in
theorem backward_in (F : Fence) (n : Nat) (h6 : F.fn 71) (hro : F.round = none) (a : Option Addr) (len cap : Nat) (w : World) :
    CallsIn F n Tryz.prog 71 #[.slice a len cap] w fun e w' => e = .returned (.func (.func 92) #[] #[.pointer (some ⟨w.heap.size, 0, none⟩)]) ∧ w' = w.alloc (.cells #[.slice a len cap] 47) := by
  refine callsIn_of_wp Tryz.func71 rfl h6 ?_ hro
  simp only [Tryz.ntmps71, List.size_toArray, List.length_cons, List.length_nil, Nat.reduceAdd, Nat.reduceSub, Array.replicate_succ, Array.replicate_zero, List.push_toArray, List.append_toArray, List.nil_append, List.cons_append]
  gi_wp2
  go_ret
  exact ⟨rfl, rfl⟩

theorem backward_stops (F : Fence) (n : Nat) (h8 : F.fn 92) (hro : F.round = none) (hn : 1 ≤ n) (Bs R n₀ b off len cap : Nat) (zs : List Int) (hzs : zs.length = len) (hreach : len ≤ 100000) (hlc : len ≤ cap) (hb : b < n₀) (hbR : b ≠ R) (hBR : Bs ≠ R) (hBn : Bs < n₀) (w : World) (hn₀ : n₀ ≤ w.heap.size)
    (hBs : w.cell? ⟨Bs, 0, none⟩ = some (.slice (some ⟨b, off, none⟩) len cap)) (hc : IRow w b off zs) :
    SeqStopsK F n Tryz.prog 92 #[.pointer (some ⟨Bs, 0, none⟩)] (fun x : Fin len => #[Value.int .i64 (x.1 : Int), Value.int .i64 ((ix zs x.1))]) (KpR R n₀) (fun ys => ys.map (·.1) = idxs len len) (fun pre => ∃ k, k ≤ len ∧ pre.map (·.1) = idxs len k) len w := fun l J Jx W hW _ _ hY h0 =>
  backward1_in F n h8 hro hn l Bs R n₀ b off len cap zs hzs hreach hlc hb hbR hBR J Jx hY W hBn ((hW.cell (p := ⟨Bs, 0, none⟩) (Nat.lt_of_lt_of_le hBn hn₀)).trans hBs) (hc.below hW (Nat.lt_of_lt_of_le hb hn₀)) h0

set_option maxRecDepth 100000 in
set_option maxHeartbeats 4000000 in
theorem compare_in (n : Nat) (hn : 5 ≤ n) (A B : List Int) (b1 o1 b2 o2 k c1 c2 : Nat) (w : World) (hA : A.length = k) (hB' : B.length = k) (hk : k ≤ 100000) (hkc1 : k ≤ c1)
    (hb1 : b1 < w.heap.size) (hb2 : b2 < w.heap.size) (hr1 : IRow w b1 o1 A) (hr2 : IRow w b2 o2 B) :
    CallsIn Fence.wide n Tryz.prog 57 #[.slice (some ⟨b1, o1, none⟩) k c1, .slice (some ⟨b2, o2, none⟩) k c2] w fun e W' => (∃ r : Int, e = .returned (.int .i64 r) ∧ ((r = 0 ∧ ∀ j, j < k → (ix A j) = (ix B j)) ∨ ∃ j, j < k ∧ (ix A j) ≠ (ix B j) ∧ r = cmpN ((ix A j)) ((ix B j)) ∧ ∀ i, j < i → i < k → (ix A i) = (ix B i))) ∧ Below w.heap.size w W' := by
  have h1 : 1 ≤ n := by omega
  refine callsIn_of_wp_marks Tryz.func57 rfl trivial ?_ rfl
  simp only [Tryz.ntmps57, List.size_toArray, List.length_cons, List.length_nil, Nat.reduceAdd, Nat.reduceSub, Array.replicate_succ, Array.replicate_zero, List.push_toArray, List.append_toArray, List.nil_append, List.cons_append]
  gi_wp2_with (refine ⟨trivial, ?_⟩; gi_at_call 71; refine (backward_in Fence.wide (n - 1) trivial rfl _ _ _ _).mono ?_; rintro e w' ⟨rfl, rfl⟩)
  have bM := Boxed.new w 47 (.slice (some ⟨b2, o2, none⟩) k c2)
  have bR := Boxed.new (w.alloc (.cells #[.slice (some ⟨b2, o2, none⟩) k c2] 47)) 3 (.int .i64 0)
  have bN := Boxed.new ((w.alloc (.cells #[.slice (some ⟨b2, o2, none⟩) k c2] 47)).alloc (.cells #[.int .i64 0] 3)) 47 (.slice (some ⟨b1, o1, none⟩) k c1)
  rw [World.size_alloc] at bR
  rw [World.size_alloc, World.size_alloc] at bN
  have hB0 : Below w.heap.size w (((w.alloc (.cells #[.slice (some ⟨b2, o2, none⟩) k c2] 47)).alloc (.cells #[.int .i64 0] 3)).alloc (.cells #[.slice (some ⟨b1, o1, none⟩) k c1] 47)) := (((Below.refl _ w).alloc (Nat.le_refl _) _).alloc (by simp) _).alloc (by simp; omega) _
  refine wpIn_rangeFunc_ownG (F := Fence.wide) (n := n) (ps := #[19, 20]) (show Fence.wide.round = none from rfl) h1 (gf := 92) (lb := #[.pointer (some ⟨w.heap.size + 1 + 1, 0, none⟩)]) rfl trivial (enters_of Tryz.func92 (by kernel_rfl) rfl)
    (backward_stops Fence.wide (n - 1) trivial rfl (by omega) (w.heap.size + 1 + 1) (w.heap.size + 1) (w.heap.size + 1 + 1 + 1) b1 o1 k c1 A hA hk hkc1 (by omega) (by omega) (by omega) (by omega) _ (by simp) bN.cell (hr1.below hB0 hb1)) KpR.trans (fun W l o o' hl _ _ _ => fun j hj _ => World.putObj_heap_other (by simp at hl; omega)) (Below.refl _ _) (fun _ => rfl)
    (fun pre W => ((∀ p ∈ pre, (ix A p.1) = (ix B p.1)) ∧ W.cell? ⟨w.heap.size + 1, 0, none⟩ = some (.int .i64 0) ∧ W.frozen? ⟨w.heap.size + 1, 0, none⟩ = false ∧ W.cell? ⟨w.heap.size, 0, none⟩ = some (.slice (some ⟨b2, o2, none⟩) k c2)) ∧ Below w.heap.size w W)
    (fun c pre W => (c = .ret ∧ ∃ ini last, pre = ini ++ [last] ∧ (∀ p ∈ ini, (ix A p.1) = (ix B p.1)) ∧ (ix A last.1) ≠ (ix B last.1) ∧ W.cell? ⟨w.heap.size + 1, 0, none⟩ = some (.int .i64 (cmpN ((ix A last.1)) ((ix B last.1))))) ∧ Below w.heap.size w W)
    (OwnFrom.and (Own.from (fun s A B row hs hg hr => ⟨hs.1, cell_kept hs.2.1 hg hr, (frozen_kept hs.2.1 hg hr).trans hs.2.2.1, cell_kept hs.2.2.2 hg hr⟩) _) (ownFrom_below (Nat.le_refl _) (by simp; omega)))
    (fun c => OwnFrom.and (Own.from (fun s A B row hs hg hr => by obtain ⟨hc, ini, last, e1, e2, e3, e4⟩ := hs; exact ⟨hc, ini, last, e1, e2, e3, cell_kept e4 hg hr⟩) _) (ownFrom_below (Nat.le_refl _) (by simp; omega)))
    ⟨⟨by simp, (bR.alloc _).cell, (bR.alloc _).frozen, ((bM.alloc _).alloc _).cell⟩, hB0⟩
    (fun x : Fin k => { tmps := #[.slice (some ⟨b1, o1, none⟩) k c1, .slice (some ⟨b2, o2, none⟩) k c2, undef, .pointer (some ⟨w.heap.size, 0, none⟩), .pointer (some ⟨w.heap.size + 1, 0, none⟩), .int .i64 (x.1 : Int), .int .i64 ((ix A x.1)), .slice (some ⟨b1, o1, none⟩) k c1, .int .i64 (k : Int), .slice (some ⟨b2, o2, none⟩) k c2, .int .i64 (k : Int), .bool false, undef, undef, undef, undef, undef, .slice (some ⟨b1, o1, none⟩) k c1, .func (.func 92) #[] #[.pointer (some ⟨w.heap.size + 1 + 1, 0, none⟩)], .int .i64 (x.1 : Int), .int .i64 ((ix A x.1)), undef, undef, undef, undef, undef, undef, undef, undef, undef, undef, undef, undef], defers := [] }) ?assign ?body ?done ?stop
  case assign =>
    intro l x W K hK
    gi_wp2
    exact hK
  case body =>
    rintro l pre x W ⟨⟨hp, hcr, hfr, hbx⟩, hB⟩ _
    have hxl : x.1 < B.length := by rw [hB']; exact x.2
    have hcx : W.cell? ⟨b2, o2 + x.1, none⟩ = some (.int .i64 ((ix B x.1))) := (hr2.below hB hb2) x.1 _ (by rw [List.getElem?_eq_getElem hxl, ix_lt hxl])
    have hx1 := x.2
    have hx3 : (x.1 : Int) < (k : Int) := by omega
    obtain ⟨y, hy⟩ : ∃ y, ix A x.1 = y := ⟨_, rfl⟩
    obtain ⟨z, hz⟩ : ∃ z, ix B x.1 = z := ⟨_, rfl⟩
    have HY := Lib.hid hy
    have HZ := Lib.hid hz
    rw [hy]
    rw [hz] at hcx
    clear hy hz
    have hn2 : 1 ≤ n - 1 - 1 := by omega
    have cC : ∀ W, CallsIn (Fence.wide.inRound l) (n - 1 - 1 - 1) Tryz.prog 70 #[.int .i64 y, .int .i64 z] W fun e w' => e = .returned (.int .i64 (cmpN y z)) ∧ W = w' := fun W => CallsIn.inRound l (callsIn_wide.2 (cmpInt_any y z W))
    by_cases hyz : y = z
    · have q1 : (y == z) = true := by rw [hyz]; simp
      have q2 : (y != z) = false := by rw [bne, q1]; rfl
      have HYZ := Lib.hid hyz
      clear hyz
      gi_wp2
      exact ⟨KeepsFrom.refl _ _, KpR.refl _ _ _, ⟨fun p hp' => (List.mem_append.1 hp').elim (hp p) (fun e => by simp at e; subst e; rw [HY.out, HZ.out]; exact HYZ.out), hcr, hfr, hbx⟩, hB⟩
    · have q1 : (y == z) = false := by rw [beq_eq_false_iff_ne]; exact hyz
      have q2 : (y != z) = true := by rw [bne, q1]; rfl
      have HYZ := Lib.hid hyz
      clear hyz
      gi_wp2_with (refine ⟨trivial, ?_⟩; gi_at_call 70; refine (cC _).mono ?_; rintro e w' ⟨rfl, rfl⟩)
      exact ⟨(KeepsOthers.setCell _ _ _).from _, ⟨rfl, pre, x, rfl, hp, by rw [HY.out, HZ.out]; exact HYZ.out, by rw [HY.out, HZ.out]; exact World.cell?_setCell_same' _ _ _ (by rw [hcr]; rfl)⟩, hB.setCell (p := ⟨w.heap.size + 1, 0, none⟩) (Nat.le_succ _) _⟩
  case done =>
    rintro D ys W hD hys ⟨⟨hne, hcr, hfr, hbx⟩, hB⟩ hK
    gi_wp2
    have hK' := (KeepsOthers.setCell W ⟨w.heap.size + 1, 0, none⟩ (.int .i64 0)).same D _ hK rfl
    refine ⟨by simp, .inl ⟨_, _, rfl, run_takeDeferred hK', ?_⟩⟩
    have hc5 := cell_kept (World.cell?_setCell_same' W ⟨w.heap.size + 1, 0, none⟩ (.int .i64 0) (by rw [hcr]; rfl)) (grownBy_putObj' _ D (.deferred none)) (fun r e => by cases e; exact ⟨_, hK', rfl⟩)
    refine ⟨.int .i64 0, ?_, ⟨0, rfl, .inl ⟨rfl, fun j hj => ?_⟩⟩, (hB.setCell (p := ⟨w.heap.size + 1, 0, none⟩) (Nat.le_succ _) _).trans (belowK_b (w := w) (Nat.le_refl _) _ D _ _ (by simp at hD; omega) hK' rfl rfl)⟩
    · simp [results, Tryz.f57, go_sem, hc5]
    · have : j ∈ ys.map (·.1) := by rw [hys, mem_idxs (Nat.le_refl _)]; omega
      obtain ⟨p, hp, rfl⟩ := List.mem_map.1 this
      exact hne p hp
  case stop =>
    rintro D c pre W hD ⟨k', hk', hpre⟩ ⟨⟨rfl, ini, last, e1, e2, e3, hcr⟩, hB⟩ hK
    gi_wp2
    refine ⟨by simp, .inl ⟨_, _, rfl, run_takeDeferred hK, ?_⟩⟩
    have hc5 := cell_kept hcr (grownBy_putObj' _ D (.deferred none)) (fun r e => by cases e; exact ⟨_, hK, rfl⟩)
    obtain ⟨k2, rfl⟩ : ∃ k2, k' = k2 + 1 := by
      cases k' with
      | zero => rw [e1] at hpre; simp [idxs] at hpre
      | succ k2 => exact ⟨k2, rfl⟩
    rw [e1, idxs_succ, List.map_append] at hpre
    obtain ⟨h5, h6⟩ := List.append_inj' hpre rfl
    have h7 : last.1 = k - 1 - k2 := by simpa using h6
    refine ⟨.int .i64 (cmpN ((ix A last.1)) ((ix B last.1))), ?_, ⟨_, rfl, .inr ⟨last.1, last.2, e3, rfl, fun i hi hik => ?_⟩⟩, hB.trans (belowK_b (w := w) (Nat.le_refl _) W D _ _ (by simp at hD; omega) hK rfl rfl)⟩
    · simp [results, Tryz.f57, go_sem, hc5]
    · have : i ∈ ini.map (·.1) := by rw [h5, mem_idxs (by omega)]; omega
      obtain ⟨p, hp, rfl⟩ := List.mem_map.1 this
      exact e2 p hp

theorem cmp_of {A B : List Int} {k : Nat} {r : Int} (hA : A.length = k) (hB : B.length = k) (dA : Dig A) (dB : Dig B)
    (h : (r = 0 ∧ ∀ j, j < k → ix A j = ix B j) ∨ ∃ j, j < k ∧ ix A j ≠ ix B j ∧ r = cmpN (ix A j) (ix B j) ∧ ∀ i, j < i → i < k → ix A i = ix B i) : r = cmpN (vl A) (vl B) := by
  have ext : ∀ {X Y : List Int}, X.length = Y.length → (∀ j, j < X.length → ix X j = ix Y j) → X = Y := fun {X Y} hl h => by
    apply List.ext_getElem hl
    intro i h1 h2
    have := h i h1
    rwa [ix_lt h1, ix_lt h2] at this
  rcases h with ⟨rfl, h⟩ | ⟨j, hj, hne, rfl, h⟩
  · have : A = B := ext (by omega) fun j hj => h j (by omega)
    rw [this]; simp [cmpN]
  · have jA : j < A.length := by omega
    have jB : j < B.length := by omega
    have eA : A = A.take j ++ A[j] :: A.drop (j + 1) := by rw [← List.drop_eq_getElem_cons jA, List.take_append_drop]
    have eB : B = B.take j ++ B[j] :: B.drop (j + 1) := by rw [← List.drop_eq_getElem_cons jB, List.take_append_drop]
    have eS : A.drop (j + 1) = B.drop (j + 1) := ext (by rw [List.length_drop, List.length_drop]; omega) fun i hi => by
      rw [List.length_drop] at hi
      have := h (j + 1 + i) (by omega) (by omega)
      simp only [ix, List.getElem?_drop] at this ⊢
      exact this
    have tA : Dig (A.take j) := fun x hx => dA x (List.mem_of_mem_take hx)
    have tB : Dig (B.take j) := fun x hx => dB x (List.mem_of_mem_take hx)
    have tl : (A.take j).length = (B.take j).length := by rw [List.length_take, List.length_take]; omega
    rw [ix_lt jA, ix_lt jB] at hne ⊢
    generalize A[j] = x at *
    generalize B[j] = y at *
    unfold cmpN
    rcases Int.lt_trichotomy x y with g | g | g
    · have h2 := vl_last_lt (s := A.drop (j + 1)) tA tB tl g
      rw [← eA, eS, ← eB] at h2
      rw [if_pos g, if_pos h2]
    · exact absurd g hne
    · have h2 := vl_last_lt (s := B.drop (j + 1)) tB tA tl.symm g
      rw [← eB, ← eS, ← eA] at h2
      rw [if_neg (by omega), if_pos g, if_neg (by omega), if_pos h2]

set_option maxRecDepth 100000 in
set_option maxHeartbeats 1000000 in
theorem compare_len (n : Nat) (hn : 5 ≤ n) (a1 a2 : Option Addr) (k1 k2 c1 c2 : Nat) (w : World) (h : k1 ≠ k2) :
    CallsIn Fence.wide n Tryz.prog 57 #[.slice a1 k1 c1, .slice a2 k2 c2] w fun e W' => e = .returned (.int .i64 (cmpN (k1 : Int) (k2 : Int))) ∧ Below w.heap.size w W' := by
  have h1 : 1 ≤ n := by omega
  have q1 : ((k1 : Int) == (k2 : Int)) = false := by rw [beq_eq_false_iff_ne, ne_eq]; omega
  have q2 : ((k1 : Int) != (k2 : Int)) = true := by rw [bne, q1]; rfl
  have q3 : (k1 == k2) = false := by rw [beq_eq_false_iff_ne]; exact h
  have cC : ∀ W, CallsIn Fence.wide (n - 1) Tryz.prog 70 #[.int .i64 (k1 : Int), .int .i64 (k2 : Int)] W fun e w' => e = .returned (.int .i64 (cmpN (k1 : Int) (k2 : Int))) ∧ W = w' := fun W => callsIn_wide.2 (cmpInt_any k1 k2 W)
  generalize cmpN (k1 : Int) (k2 : Int) = r at *
  clear h
  refine callsIn_of_wp_marks Tryz.func57 rfl trivial ?_ rfl
  simp only [Tryz.ntmps57, List.size_toArray, List.length_cons, List.length_nil, Nat.reduceAdd, Nat.reduceSub, Array.replicate_succ, Array.replicate_zero, List.push_toArray, List.append_toArray, List.nil_append, List.cons_append]
  gi_wp2_with (refine ⟨trivial, ?_⟩; gi_at_call 70; refine (cC _).mono ?_; rintro e w' ⟨rfl, rfl⟩)
  have bR := Boxed.new (w.alloc (.cells #[.slice a2 k2 c2] 47)) 3 (.int .i64 r)
  rw [World.size_alloc] at bR
  have hc5 := bR.cell
  refine ⟨.int .i64 r, ?_, rfl, ((Below.refl _ _).alloc (Nat.le_refl _) _).alloc (by simp) _⟩
  simp [results, Tryz.f57, go_sem, hc5]

set_option maxRecDepth 100000 in
set_option maxHeartbeats 1000000 in
theorem backward1_zero (n : Nat) (lp Bs : Nat) (a : Option Addr) (cap : Nat) (J : List (Fin 0) → World → Prop) (W : World) (hBs : W.cell? ⟨Bs, 0, none⟩ = some (.slice a 0 cap)) (h0 : J [] W) :
    CallsIn Fence.wide n Tryz.prog 92 #[.func (.yield lp) #[] #[], .pointer (some ⟨Bs, 0, none⟩)] W fun e W' => (∃ v, e = .returned v) ∧ J [] W' := by
  refine callsIn_of_wp Tryz.func92 rfl trivial ?_ rfl
  simp only [Tryz.ntmps92, List.size_toArray, List.length_cons, List.length_nil, Nat.reduceAdd, Nat.reduceSub, Array.replicate_succ, Array.replicate_zero, List.push_toArray, List.append_toArray, List.nil_append, List.cons_append]
  gi_wp2
  gi_loopw [3] (fun i wr => i = .int .i64 (-1) ∧ J [] wr) (fun _ _ => 0)
  case atStart => exact ⟨rfl, h0⟩
  case round =>
    obtain ⟨rfl, hJs⟩ := hrel
    gi_wp2
    go_end0
    exact ⟨⟨_, rfl⟩, hJs⟩

theorem backward_zero_stops (n : Nat) (Bs : Nat) (a : Option Addr) (cap : Nat) (w : World) (hBn : Bs < w.heap.size) (hBs : w.cell? ⟨Bs, 0, none⟩ = some (.slice a 0 cap)) :
    SeqStopsK Fence.wide n Tryz.prog 92 #[.pointer (some ⟨Bs, 0, none⟩)] (fun x : Fin 0 => #[Value.int .i64 (x.1 : Int), Value.int .i64 0]) (KpR 0 0) (fun ys => ys = []) (fun _ => False) 0 w := fun l J _ W hW _ _ _ h0 =>
  (backward1_zero n l Bs a cap J W ((hW.cell (p := ⟨Bs, 0, none⟩) hBn).trans hBs) h0).mono fun _ _ ⟨he, hj⟩ => ⟨he, .inl ⟨_, rfl, hj⟩⟩

set_option maxRecDepth 100000 in
set_option maxHeartbeats 4000000 in
theorem compare_zero (n : Nat) (hn : 5 ≤ n) (a1 a2 : Option Addr) (c1 c2 : Nat) (w : World) :
    CallsIn Fence.wide n Tryz.prog 57 #[.slice a1 0 c1, .slice a2 0 c2] w fun e W' => e = .returned (.int .i64 0) ∧ Below w.heap.size w W' := by
  have h1 : 1 ≤ n := by omega
  refine callsIn_of_wp_marks Tryz.func57 rfl trivial ?_ rfl
  simp only [Tryz.ntmps57, List.size_toArray, List.length_cons, List.length_nil, Nat.reduceAdd, Nat.reduceSub, Array.replicate_succ, Array.replicate_zero, List.push_toArray, List.append_toArray, List.nil_append, List.cons_append]
  gi_wp2_with (refine ⟨trivial, ?_⟩; gi_at_call 71; refine (backward_in Fence.wide (n - 1) trivial rfl _ _ _ _).mono ?_; rintro e w' ⟨rfl, rfl⟩)
  have bR := Boxed.new (w.alloc (.cells #[.slice a2 0 c2] 47)) 3 (.int .i64 0)
  have bN := Boxed.new ((w.alloc (.cells #[.slice a2 0 c2] 47)).alloc (.cells #[.int .i64 0] 3)) 47 (.slice a1 0 c1)
  rw [World.size_alloc] at bR
  rw [World.size_alloc, World.size_alloc] at bN
  have hB0 : Below w.heap.size w (((w.alloc (.cells #[.slice a2 0 c2] 47)).alloc (.cells #[.int .i64 0] 3)).alloc (.cells #[.slice a1 0 c1] 47)) := (((Below.refl _ w).alloc (Nat.le_refl _) _).alloc (by simp) _).alloc (by simp; omega) _
  refine wpIn_rangeFunc_ownG (F := Fence.wide) (n := n) (ps := #[19, 20]) (show Fence.wide.round = none from rfl) h1 (gf := 92) (lb := #[.pointer (some ⟨w.heap.size + 1 + 1, 0, none⟩)]) rfl trivial (enters_of Tryz.func92 (by kernel_rfl) rfl)
    (backward_zero_stops (n - 1) (w.heap.size + 1 + 1) a1 c1 _ (by simp) bN.cell) KpR.trans (fun W l o o' hl _ _ _ => fun j hj _ => absurd hj (by omega)) (Below.refl _ _) (fun _ => rfl)
    (fun pre W => (W.cell? ⟨w.heap.size + 1, 0, none⟩ = some (.int .i64 0) ∧ W.frozen? ⟨w.heap.size + 1, 0, none⟩ = false) ∧ Below w.heap.size w W)
    (fun c pre W => False ∧ Below w.heap.size w W)
    (OwnFrom.and (Own.from (fun s A B row hs hg hr => ⟨cell_kept hs.1 hg hr, (frozen_kept hs.1 hg hr).trans hs.2⟩) _) (ownFrom_below (Nat.le_refl _) (by simp; omega)))
    (fun c => OwnFrom.and (Own.from (fun s A B row hs hg hr => hs.elim) _) (ownFrom_below (Nat.le_refl _) (by simp; omega)))
    ⟨⟨(bR.alloc _).cell, (bR.alloc _).frozen⟩, hB0⟩
    (fun x : Fin 0 => { tmps := #[], defers := [] }) ?assign ?body ?done ?stop
  case assign =>
    intro l x W K hK
    exact absurd x.2 (by omega)
  case body =>
    rintro l pre x W _ _
    exact absurd x.2 (by omega)
  case done =>
    rintro D ys W hD hys ⟨⟨hcr, hfr⟩, hB⟩ hK
    gi_wp2
    have hK' := (KeepsOthers.setCell W ⟨w.heap.size + 1, 0, none⟩ (.int .i64 0)).same D _ hK rfl
    refine ⟨by simp, .inl ⟨_, _, rfl, run_takeDeferred hK', ?_⟩⟩
    have hc5 := cell_kept (World.cell?_setCell_same' W ⟨w.heap.size + 1, 0, none⟩ (.int .i64 0) (by rw [hcr]; rfl)) (grownBy_putObj' _ D (.deferred none)) (fun r e => by cases e; exact ⟨_, hK', rfl⟩)
    refine ⟨.int .i64 0, ?_, rfl, (hB.setCell (p := ⟨w.heap.size + 1, 0, none⟩) (Nat.le_succ _) _).trans (belowK_b (w := w) (Nat.le_refl _) _ D _ _ (by simp at hD; omega) hK' rfl rfl)⟩
    simp [results, Tryz.f57, go_sem, hc5]
  case stop =>
    rintro D c pre W hD h _ _
    exact h.elim

theorem cmp_lens {n m : Nat} (h : (grp n).length ≠ (grp m).length) : cmpN ((grp n).length : Int) ((grp m).length : Int) = cmpN (n : Int) (m : Int) := by
  unfold cmpN
  rcases Nat.lt_or_gt_of_ne h with g | g
  · have := grp_len_lt g
    rw [if_pos (by omega), if_pos (by omega)]
  · have := grp_len_lt g
    rw [if_neg (by omega), if_pos (by omega), if_neg (by omega), if_pos (by omega)]
theorem compare_any (n m : Nat) (v1 v2 : Value) (w : World) (hl1 : (grp n).length ≤ 100000) (h1 : NSl w v1 n) (h2 : NSl w v2 m) :
    Calls Tryz.prog 57 #[v1, v2] w fun e w' => e = .returned (.int .i64 (cmpN (n : Int) (m : Int))) ∧ Below w.heap.size w w' := by
  have f1 : ∃ a c, v1 = .slice a (grp n).length c := by
    rcases h1 with ⟨a, c, rfl, e⟩ | ⟨b, o, c, rfl, _⟩
    · rw [e]; exact ⟨a, c, rfl⟩
    · exact ⟨_, c, rfl⟩
  have f2 : ∃ a c, v2 = .slice a (grp m).length c := by
    rcases h2 with ⟨a, c, rfl, e⟩ | ⟨b, o, c, rfl, _⟩
    · rw [e]; exact ⟨a, c, rfl⟩
    · exact ⟨_, c, rfl⟩
  refine (callsIn_wide (n := 9)).1 ?_
  by_cases hl : (grp n).length = (grp m).length
  · rcases h1 with ⟨a, c, rfl, e⟩ | ⟨b, o, c, rfl, g1, g2, g3, g4⟩
    · obtain ⟨a2, c2, rfl⟩ := f2
      rw [← hl, e]
      have hn : n = 0 := grp_nil.1 e
      have hm : m = 0 := grp_nil.1 (List.length_eq_zero_iff.1 (by rw [← hl, e]; rfl))
      rw [hn, hm]
      exact compare_zero 9 (by decide) a a2 c c2 w
    · rcases h2 with ⟨a, c2, rfl, e⟩ | ⟨b2, o2, c2, rfl, k1, k2, k3, k4⟩
      · have hm : m = 0 := grp_nil.1 e
        have hn : n = 0 := grp_nil.1 (List.length_eq_zero_iff.1 (by rw [hl, e]; rfl))
        subst hm; subst hn
        rw [grp_zero]
        exact compare_zero 9 (by decide) _ a c c2 w
      · rw [← hl]
        refine (compare_in 9 (by decide) (grp n) (grp m) b o b2 o2 _ c c2 w rfl hl.symm hl1 g1 g3 k3 g4 k4).mono fun e w' ⟨⟨r, he, hr⟩, hB⟩ => ⟨?_, hB⟩
        rw [he, cmp_of rfl hl.symm (grp_dig n) (grp_dig m) hr, vl_grp, vl_grp]
  · obtain ⟨a1, c1, rfl⟩ := f1
    obtain ⟨a2, c2, rfl⟩ := f2
    rw [← cmp_lens hl]
    exact compare_len 9 (by decide) a1 a2 _ _ c1 c2 w hl
end Go.Proofs.YtbdiofifjckceaaGreatDoor
