/- A range over a function whose iterator fills a block of its own and hands out its address: what the block holds is told to the body. -/
import Derived.Test.YtdjdoepnljdlcaaDoorSc
import Derived.RangeFuncNested
import Derived.RangeFuncBound
import Derived.RangeFuncCalls
import Derived.RangeFuncLeaves
import Derived.RangeFuncFrom
namespace Go.Proofs.YtdjdoepnljdlcaaDoor
open Go.RowKit

/-- what stays: all but two blocks -/
structure Stay (A L : Nat) (W W' : World) : Prop where
  os : W'.os = W.os
  tape : W'.tape = W.tape
  output : W'.output = W.output
  size : W.heap.size ≤ W'.heap.size
  block : ∀ k, k < W.heap.size → k ≠ A → k ≠ L → W'.heap[k]? = W.heap[k]?
theorem Stay.trans {A L : Nat} {X Y Z : World} (h : Stay A L X Y) (k : Stay A L Y Z) : Stay A L X Z :=
  ⟨k.os.trans h.os, k.tape.trans h.tape, k.output.trans h.output, Nat.le_trans h.size k.size, fun i hi ha hl => (k.block i (Nat.lt_of_lt_of_le hi h.size) ha hl).trans (h.block i hi ha hl)⟩
theorem Stay.of_grown {A L : Nat} {W W' : World} (h : W.grownBy W' (some A)) : Stay A L W W' := ⟨h.os, h.tape, h.output, h.size, fun k hk ha _ => h.block k hk (by simpa using ha)⟩
theorem Stay.of_put {A L : Nat} (W : World) (o : Obj) : Stay A L W (W.putObj L o) := ⟨rfl, rfl, rfl, by simp, fun _ _ _ hl => World.putObj_heap_other hl⟩
/-- an invariant that stays where nothing below a mark turns -/
def From (H : Nat) (J : Nat → World → Prop) : Prop := ∀ k W W' row, J k W → W.grownBy W' row → (∀ r, row = some r → H ≤ r) → J k W'

/-- the iterator's word -/
def Hands (F : Fence) (n : Nat) (P : Program) (gf : Nat) (lb : Array Value) (A N : Nat) (blk : Nat → Nat → UInt8) (w : World) : Prop :=
  ∀ (J : Nat → World → Prop) (l : Nat) (W : World), Below w.heap.size w W → W.heap.size = w.heap.size + 2 → l = w.heap.size + 1 → From W.heap.size J →
    (∀ k W1 B, J k W1 → k < N → W.heap.size ≤ B → B < W1.heap.size → BlockAt W1 B (blk k) →
      YieldAt F (n - 1) P l #[.pointer (some ⟨B, 0, none⟩)] W1 fun e W' => e = .returned (.bool true) ∧ J (k + 1) W' ∧ Stay A l W1 W') →
    J 0 W → CallsIn F n P gf (#[.func (.yield l) #[] #[]] ++ lb) W fun e W' => (∃ v, e = .returned v) ∧ J N W'

variable {F : Fence} {n : Nat} {P : Program}
theorem range_hands {g : Operand} {ps : Array Tmp} {assign body : Code} {Q : Exit → Act → World → Prop} {a : Act} {w : World} (hro : F.round = none) (h1 : 1 ≤ n)
    {gf : Nat} {lb : Array Value} (hg : a.eval g = .func (.func gf) #[] lb) (hFg : F.fn gf) (eg : ∀ args w, (callFunc gf args).run P w = .ok (.enter gf args) w) {A N : Nat} {blk : Nat → Nat → UInt8}
    (hseq : Hands F (n - 1) P gf lb A N blk w) (hps : ps.size = 1) (hA : A < w.heap.size)
    (J : Nat → World → Prop) (hJ : From w.heap.size J) (h0 : J 0 w) (fr : Nat → Act)
    (hassign : ∀ (l B : Nat) (W : World) (K : Act → World → Prop), K (fr B) W →
      assign.wpIn (F.inRound l) (n - 1 - 1) P (Exit.then K (fun _ _ _ => False)) { tmps := (ps.zip #[.pointer (some ⟨B, 0, none⟩)]).foldl (fun t (p, v) => t.setIfInBounds p v) a.tmps, defers := [] } W)
    (hbody : ∀ (l k B : Nat) (W : World), J k W → k < N → w.heap.size ≤ B → B < W.heap.size → BlockAt W B (blk k) →
      body.wpIn (F.inRound l) (n - 1 - 1) P (fun e _ W' => e = .normal ∧ J (k + 1) W' ∧ W.grownBy W' (some A)) (fr B) W)
    (hdone : ∀ W, J N W → W.heap[w.heap.size]? = some (.deferred (some [])) → Q .normal { a with defers := { target := .collected w.heap.size, args := #[] } :: a.defers } W) :
    (Code.rangeFunc g ps assign body).wpIn F n P Q a w := by
  refine wpIn_rangeFunc fun fn hfn => ?_
  rw [hro]
  let rec0 : Loop := { state := .ready, pending := none, fn := fn, tmps := a.tmps, params := ps, assign := assign, body := body, defers := w.heap.size }
  obtain ⟨r0, hr0⟩ : ∃ r0, r0 = rec0 := ⟨_, rfl⟩
  obtain ⟨W1, hW1⟩ : ∃ W1, (w.alloc (.deferred (some []))).alloc (.loop r0) = W1 := ⟨_, rfl⟩
  have hsz : W1.heap.size = w.heap.size + 2 := by rw [← hW1]; simp
  have hL : W1.heap[w.heap.size + 1]? = some (.loop r0) := by
    have h := World.alloc_heap_new (w.alloc (.deferred (some []))) (.loop r0)
    rw [World.size_alloc, hW1] at h
    exact h
  have hD : W1.heap[w.heap.size]? = some (.deferred (some [])) := by
    rw [← hW1]
    exact (Below.heap_alloc _ _ _ (by simp)).trans (World.alloc_heap_new w _)
  have hB1 : Below w.heap.size w W1 := by
    rw [← hW1]
    exact ((Below.refl _ w).alloc (Nat.le_refl _) _).alloc (by simp) _
  have hJ1 : J 0 W1 := hJ 0 w W1 none h0 (grown_below hB1 none) (fun r e => by cases e)
  refine ⟨w.heap.size + 1, _, W1, { target := .fn (.func gf) lb, args := #[.func (.yield (w.heap.size + 1)) #[] #[]] }, W1, gf, #[.func (.yield (w.heap.size + 1)) #[] #[]] ++ lb, W1,
    (by rw [run_enterLoop_outer, ← hW1, hr0]), ?_, ?_, ?_, fun _ => h1, ?_⟩
  · simp only [resolve, hg]
    simp [go_sem]
  · intro f' hf'
    simp only [Target.leads, Option.some.injEq] at hf'
    subst hf'
    exact hFg
  · simp [invoke, go_sem, eg]
  refine (hseq (fun k W => J k W ∧ W.heap[w.heap.size + 1]? = some (.loop r0) ∧ W.heap[w.heap.size]? = some (.deferred (some []))) (w.heap.size + 1) W1 hB1 hsz rfl ?stay ?round ⟨hJ1, hL, hD⟩).mono ?fin
  case stay =>
    intro k X Y row hx hg hr
    have lt1 : w.heap.size + 1 < X.heap.size := (Array.getElem?_eq_some_iff.1 hx.2.1).1
    refine ⟨hJ k X Y row hx.1 hg fun r e => by have := hr r e; omega, (hg.block _ lt1 fun e => by have := hr _ e.symm; omega).trans hx.2.1, (hg.block _ (by omega) fun e => by have := hr _ e.symm; omega).trans hx.2.2⟩
  case round =>
    rintro k W B ⟨hj, hl, hd⟩ hk hB0 hB1 hb
    have lt1 : w.heap.size + 1 < W.heap.size := (Array.getElem?_eq_some_iff.1 hl).1
    have hy := run_yield (P := P) (args := #[.pointer (some ⟨B, 0, none⟩)]) hl (by rw [hr0]; simp [rec0, hps])
    rw [hr0] at hy
    refine ⟨fn, _, assign, body, hy, roundIn_of_wpIn hfn (hassign _ B W _ ?_)⟩
    refine ⟨_, run_beginRound hl (by rw [hr0]), ?_⟩
    obtain ⟨r1, hr1⟩ : ∃ r1 : Loop, { r0 with state := .busy } = r1 := ⟨_, rfl⟩
    rw [hr1]
    have hl2 : (W.putObj (w.heap.size + 1) (.loop r1)).heap[w.heap.size + 1]? = some (.loop r1) := World.putObj_heap_same lt1
    have hst : Stay A (w.heap.size + 1) W (W.putObj (w.heap.size + 1) (.loop r1)) := Stay.of_put W _
    have hb2 : BlockAt (W.putObj (w.heap.size + 1) (.loop r1)) B (blk k) := fun j hj => (World.cell?_of_block (a := ⟨B, j, none⟩) (hst.block B hB1 (by omega) (by omega))).trans (hb j hj)
    have hj2 : J k (W.putObj (w.heap.size + 1) (.loop r1)) := hJ k W _ (some (w.heap.size + 1)) hj (grownBy_putObj' W _ _) fun r e => by cases e; omega
    refine wpIn_mono (hbody (w.heap.size + 1) k B _ hj2 hk (by omega) (by simpa using hB1) hb2) ?_
    rintro e a3 W3 ⟨rfl, hj3, hg3⟩
    have hl3 : W3.heap[w.heap.size + 1]? = some (.loop r1) := (hg3.block _ (by simpa using lt1) (by simp; omega)).trans hl2
    have hd3 : W3.heap[w.heap.size]? = some (.deferred (some [])) := ((hg3.block _ (by simp; omega) (by simp; omega)).trans (hst.block _ (by omega) (by omega) (by omega))).trans hd
    have lt3 : w.heap.size + 1 < W3.heap.size := (Array.getElem?_eq_some_iff.1 hl3).1
    refine ⟨_, _, run_endRound none hl3, rfl, ⟨hJ (k + 1) W3 _ (some (w.heap.size + 1)) hj3 (grownBy_putObj' W3 _ _) (fun r e => by cases e; omega), ?_, ?_⟩, hst.trans ((Stay.of_grown hg3).trans (Stay.of_put W3 _))⟩
    · rw [World.putObj_heap_same lt3, ← hr1, hr0]
      rfl
    · exact (World.putObj_heap_other (by omega)).trans hd3
  case fin =>
    rintro e W' ⟨⟨v, rfl⟩, hj, hl, hd⟩
    refine ⟨none, _, run_endLoop hl (by rw [hr0]; simp [rec0]) |>.trans (by rw [hr0]), ?_⟩
    exact hdone _ (hJ N W' _ (some (w.heap.size + 1)) hj (grownBy_putObj' W' _ _) fun r e => by cases e; omega) ((World.putObj_heap_other (by omega)).trans hd)
end Go.Proofs.YtdjdoepnljdlcaaDoor
