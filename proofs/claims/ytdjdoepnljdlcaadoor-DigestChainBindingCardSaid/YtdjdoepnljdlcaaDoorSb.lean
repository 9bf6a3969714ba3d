/- The walk of package digest's expand: the schedule. -/
import Derived.Test.YtdjdoepnljdlcaaDoorSa
import Derived.Deep.MidRow
import Derived.BigRegion
import Derived.BigQuiet
import Derived.Deep.QuietTactic
import Derived.RangeFuncNested
import Derived.RangeFuncBound
import Derived.RangeFuncCalls
import Derived.RangeFuncLeaves
import Derived.RangeFuncFrom
namespace Go.Proofs.YtdjdoepnljdlcaaDoor
open Go.RowKit

theorem flp {f : FuncId} {args : Array Value} {w : World} {x : Ending} (h : Calls Tryd.prog f args w fun e w' => e = x ∧ w = w') : Calls Tryd.prog f args w fun e w' => e = x ∧ w' = w :=
  h.mono fun _ _ g => ⟨g.1, g.2.symm⟩

/-- a block of 64 bytes -/
def BlockAt (w : World) (B : Nat) (b : Nat → UInt8) : Prop := ∀ j, j < 64 → w.cell? ⟨B, j, none⟩ = some (.int .u8 ((b j).toNat : Int))
/-- an array of 64 words -/
def ArrAt (w : World) (A : Nat) (l : List UInt32) : Prop := ∀ j, j < 64 → w.cell? ⟨A, j, none⟩ = some (.int .u32 ((l.getD j 0).toNat : Int)) ∧ w.frozen? ⟨A, j, none⟩ = false

theorem arr_zero (W : World) (t : TypeId) : ArrAt (W.alloc (.cells (Array.replicate 64 (.int .u32 0)) t)) W.heap.size [] := by
  intro j hj
  have h := World.alloc_heap_new W (.cells (Array.replicate 64 (.int .u32 0)) t)
  constructor
  · rw [World.cell?, h]; simp [hj]
  · rw [World.frozen?, h]; simp
theorem BlockAt.below {w w' : World} {n B : Nat} {b : Nat → UInt8} (h : BlockAt w B b) (hb : Below n w w') (hB : B < n) : BlockAt w' B b := fun j hj => (hb.cell (p := ⟨B, j, none⟩) hB).trans (h j hj)

theorem zero64 : (#[.int .u32 0, .int .u32 0, .int .u32 0, .int .u32 0, .int .u32 0, .int .u32 0, .int .u32 0, .int .u32 0, .int .u32 0, .int .u32 0, .int .u32 0, .int .u32 0, .int .u32 0, .int .u32 0, .int .u32 0, .int .u32 0,
    .int .u32 0, .int .u32 0, .int .u32 0, .int .u32 0, .int .u32 0, .int .u32 0, .int .u32 0, .int .u32 0, .int .u32 0, .int .u32 0, .int .u32 0, .int .u32 0, .int .u32 0, .int .u32 0, .int .u32 0, .int .u32 0,
    .int .u32 0, .int .u32 0, .int .u32 0, .int .u32 0, .int .u32 0, .int .u32 0, .int .u32 0, .int .u32 0, .int .u32 0, .int .u32 0, .int .u32 0, .int .u32 0, .int .u32 0, .int .u32 0, .int .u32 0, .int .u32 0,
    .int .u32 0, .int .u32 0, .int .u32 0, .int .u32 0, .int .u32 0, .int .u32 0, .int .u32 0, .int .u32 0, .int .u32 0, .int .u32 0, .int .u32 0, .int .u32 0, .int .u32 0, .int .u32 0, .int .u32 0, .int .u32 0] : Array Value) = Array.replicate 64 (.int .u32 0) := by rfl

theorem sched_len (b : Nat → UInt8) : ∀ k, (Sh.sched b k).length = k
  | 0 => rfl
  | k + 1 => by rw [Sh.sched, List.length_append, sched_len b k]; rfl

theorem ArrAt.set {w : World} {A k : Nat} {l : List UInt32} (h : ArrAt w A l) (hk : l.length = k) (hk2 : k < 64) (x : UInt32) (v : Int) (hv : v = (x.toNat : Int)) :
    ArrAt (w.setCell ⟨A, k, none⟩ (.int .u32 v)) A (l ++ [x]) := by
  subst hv
  subst hk
  intro j hj
  rw [World.frozen?_setCell]
  refine ⟨?_, (h j hj).2⟩
  by_cases e : j = l.length
  · subst e
    rw [World.cell?_setCell_same' _ _ _ (by rw [(h _ hj).1]; rfl)]
    simp
  · have n2 : (⟨A, l.length, none⟩ : Addr) ≠ ⟨A, j, none⟩ := fun h' => e (congrArg Addr.off h').symm
    have e2 : (l ++ [x]).getD j 0 = l.getD j 0 := by
      rcases Nat.lt_or_gt_of_ne e with h' | h'
      · simp [List.getD_eq_getElem?_getD, List.getElem?_append_left h']
      · rw [List.getD_eq_getElem?_getD, List.getD_eq_getElem?_getD, List.getElem?_eq_none (by simp; omega), List.getElem?_eq_none (by omega)]
    rw [World.cell?_setCell_other _ _ _ _ n2, (h j hj).1, e2]
theorem ArrAt.other {w : World} {A A' k : Nat} {l : List UInt32} {v : Value} (h : ArrAt w A l) (hne : A ≠ A') : ArrAt (w.setCell ⟨A', k, none⟩ v) A l := by
  intro j hj
  have n2 : (⟨A', k, none⟩ : Addr) ≠ ⟨A, j, none⟩ := fun h' => hne (congrArg Addr.block h').symm
  rw [World.frozen?_setCell, World.cell?_setCell_other _ _ _ _ n2]
  exact h j hj

theorem w_sum4 (a b c d : UInt32) : ((a.toNat : Int) + (b.toNat : Int) + (c.toNat : Int) + (d.toNat : Int)) % 4294967296 = ((a + b + c + d).toNat : Int) := by
  simp only [UInt32.toNat_add]; omega
theorem w_next (x16 x15 x7 x2 : UInt32) :
    ((x16.toNat : Int) + bits .xor .u32 (bits .xor .u32 ((Sh.rr x15 7).toNat : Int) ((Sh.rr x15 18).toNat : Int)) ((x15.toNat : Int) / 8) + (x7.toNat : Int) +
      bits .xor .u32 (bits .xor .u32 ((Sh.rr x2 17).toNat : Int) ((Sh.rr x2 19).toNat : Int)) ((x2.toNat : Int) / 1024)) % (4294967296 : Int) =
    ((x16 + (Sh.rr x15 7 ^^^ Sh.rr x15 18 ^^^ x15 >>> 3) + x7 + (Sh.rr x2 17 ^^^ Sh.rr x2 19 ^^^ x2 >>> 10)).toNat : Int) := by
  have h1 := w_shr x15 3 (by decide)
  have h2 := w_shr x2 10 (by decide)
  rw [show ((2 ^ (3 : UInt32).toNat : Nat) : Int) = 8 from rfl] at h1
  rw [show ((2 ^ (10 : UInt32).toNat : Nat) : Int) = 1024 from rfl] at h2
  rw [h1, h2, w_xor, w_xor, w_xor, w_xor, w_sum4]

/-- the cells of an array of words -/
def wcells (l : List UInt32) : List Value := l.map fun x => Value.int .u32 (x.toNat : Int)
theorem wcells_len (l : List UInt32) : (wcells l).length = l.length := by simp [wcells]
theorem ArrAt.range {w : World} {A : Nat} {l : List UInt32} (h : ArrAt w A l) (hl : l.length = 64) : w.rangeAt A 0 (wcells l) := by
  intro j v hv
  have hj : j < l.length := by have := (List.getElem?_eq_some_iff.1 hv).1; rwa [wcells_len] at this
  rw [Nat.zero_add, (h j (by omega)).1]
  rw [← hv, wcells, List.getElem?_map, List.getD_eq_getElem?_getD, List.getElem?_eq_getElem hj]; rfl
theorem ArrAt.there {w : World} {A : Nat} {l : List UInt32} (h : ArrAt w A l) : w.there A 0 64 := fun j hj => by
  rw [Nat.zero_add, (h j hj).1]
  exact ⟨rfl, (h j hj).2⟩
theorem results_cell_mid {P : Program} {fn : Func} {p : Tmp} {ty : TypeId} (h : fn.results = #[.cell p ty]) (tmps : Array Value) (w : World) (b o : Nat) (cs : List Value) (d : TypeDesc) (hp : tmps.getD p undef = .pointer (some ⟨b, o, none⟩))
    (hc : w.rangeAt b o cs) (hu : P.underlying ty = some d) (hd : d.isRow = true) (hi : (P.info? ty).map (·.size) = some cs.length) : (results fn tmps).run P w = .ok (.agg cs.toArray) w := by
  have hl := run_loadVar_mid w b o ty cs d hc hu hd hi
  have hp' : tmps[p]?.getD undef = .pointer (some ⟨b, o, none⟩) := by simpa using hp
  simp [results, h, hp', asAddr, hl]
theorem below_setCells {B A o : Nat} {a w : World} (h : Below B a w) (hA : B ≤ A) : ∀ vs, Below B a (w.setCells A o vs) := by
  intro vs
  induction vs generalizing w o with
  | nil => exact h
  | cons v vs ih => exact ih (h.setCell (p := ⟨A, o, none⟩) hA v)

theorem w_byte (x : UInt8) : (x.toNat : Int) % 4294967296 = (x.toUInt32.toNat : Int) := by
  have := x.toNat_lt
  rw [UInt8.toNat_toUInt32]; omega
theorem w_word (b : Nat → UInt8) (k : Nat) :
    bits .or .u32 (bits .or .u32 (bits .or .u32 (((b (4 * k)).toNat : Int) % 4294967296 * 16777216 % 4294967296) (((b (4 * k + 1)).toNat : Int) % 4294967296 * 65536 % 4294967296))
      (((b (4 * k + 2)).toNat : Int) % 4294967296 * 256 % 4294967296)) (((b (4 * k + 3)).toNat : Int) % 4294967296) = ((Sh.word b k).toNat : Int) := by
  simp only [w_byte]
  have h1 := w_shl (b (4 * k)).toUInt32 24 (by decide)
  have h2 := w_shl (b (4 * k + 1)).toUInt32 16 (by decide)
  have h3 := w_shl (b (4 * k + 2)).toUInt32 8 (by decide)
  rw [show ((2 ^ (24 : UInt32).toNat : Nat) : Int) = 16777216 from rfl] at h1
  rw [show ((2 ^ (16 : UInt32).toNat : Nat) : Int) = 65536 from rfl] at h2
  rw [show ((2 ^ (8 : UInt32).toNat : Nat) : Int) = 256 from rfl] at h3
  rw [h1, h2, h3, w_or, w_or, w_or, Sh.word]

set_option maxRecDepth 100000 in
set_option maxHeartbeats 2000000 in
theorem expand_any (B : Nat) (b : Nat → UInt8) (w : World) (hB : B < w.heap.size) (hb : BlockAt w B b) :
    Calls Tryd.prog 65 #[.pointer (some ⟨B, 0, none⟩)] w fun e w' => e = .returned (.agg (wcells (Sh.sched b 64)).toArray) ∧ Below w.heap.size w w' := by
  go_enter Tryd.func65, Tryd.ntmps65
  go_wp2
  go_loopw [4, 8] (fun _ i wr => ∃ k : Nat, k ≤ 16 ∧ i = .int .i64 (k : Int) ∧ ArrAt wr (w.heap.size + 1) (Sh.sched b k) ∧ ArrAt wr w.heap.size [] ∧ Below w.heap.size w wr) (fun _ i _ => 16 - (intOf i).toNat)
  case atStart =>
    rw [zero64]
    have h1 := arr_zero w 79
    have h2 := arr_zero (w.alloc (.cells (Array.replicate 64 (.int .u32 0)) 79)) 79
    simp only [World.size_alloc] at h2
    refine ⟨0, by omega, rfl, h2, fun j hj => ?_, ((Below.refl _ w).alloc (Nat.le_refl _) _).alloc (by simp) _⟩
    have g := h1 j hj
    exact ⟨cell_kept g.1 (World.grownBy_alloc _ _ none) (fun r e => by cases e), (frozen_kept g.1 (World.grownBy_alloc _ _ none) (fun r e => by cases e)).trans g.2⟩
  case round =>
    obtain ⟨k, hk, rfl, hA, hR, hL⟩ := hrel
    by_cases hlt : k < 16
    · have hbb := hb.below hL hB
      have c0 := hbb (4 * k) (by omega)
      have c1 := hbb (4 * k + 1) (by omega)
      have c2 := hbb (4 * k + 2) (by omega)
      have c3 := hbb (4 * k + 3) (by omega)
      obtain ⟨a0, a1⟩ := hA k (by omega)
      have HA := Lib.hid hA
      have HR := Lib.hid hR
      clear hbb hA hR hb
      go_wp2
      go_region
      go_wp2
      go_roundw
      case rel =>
        refine ⟨k + 1, by omega, by go_num, ?_, HR.out.other (by omega), ?_⟩
        · have h := HA.out.set (sched_len b k) (by omega) (Sh.word b k) _ (w_word b k)
          rw [Sh.sched, if_pos hlt]
          exact h
        · exact (hL.setCell (p := ⟨w.heap.size + 1, k, none⟩) (Nat.le_succ _) _).drew
      case measure => simp [intOf]; omega
    · obtain rfl : k = 16 := by omega
      have HA := Lib.hid hA
      have HR := Lib.hid hR
      clear hA hR
      go_wp2
      go_loopw [5, 6, 7] (fun i _ _ wr => ∃ i' : Nat, 16 ≤ i' ∧ i' ≤ 64 ∧ i = .int .i64 (i' : Int) ∧ ArrAt wr (w.heap.size + 1) (Sh.sched b i') ∧ ArrAt wr w.heap.size [] ∧ Below w.heap.size w wr) (fun i _ _ _ => 64 - (intOf i).toNat)
      case atStart => exact ⟨16, by omega, by omega, rfl, HA.out, HR.out, hL⟩
      case round =>
        obtain ⟨i, hi0, hi1, rfl, hA, hR, hL⟩ := hrel
        by_cases hlt : i < 64
        · have HA := Lib.hid hA
          have HR := Lib.hid hR
          obtain ⟨a0, b0⟩ := hA (i - 15) (by omega)
          obtain ⟨a1, b1⟩ := hA (i - 2) (by omega)
          obtain ⟨a2, b2⟩ := hA (i - 16) (by omega)
          obtain ⟨a3, b3⟩ := hA (i - 7) (by omega)
          obtain ⟨a4, b4⟩ := hA i (by omega)
          obtain ⟨x15, h15⟩ : ∃ x, (Sh.sched b i).getD (i - 15) 0 = x := ⟨_, rfl⟩
          obtain ⟨x2, h2⟩ : ∃ x, (Sh.sched b i).getD (i - 2) 0 = x := ⟨_, rfl⟩
          obtain ⟨x16, h16⟩ : ∃ x, (Sh.sched b i).getD (i - 16) 0 = x := ⟨_, rfl⟩
          obtain ⟨x7, h7⟩ : ∃ x, (Sh.sched b i).getD (i - 7) 0 = x := ⟨_, rfl⟩
          obtain ⟨xi, hxi⟩ : ∃ x, (Sh.sched b i).getD i 0 = x := ⟨_, rfl⟩
          rw [h15] at a0
          rw [h2] at a1
          rw [h16] at a2
          rw [h7] at a3
          rw [hxi] at a4
          have HX : Hid (Sh.next (Sh.sched b i) i = x16 + (Sh.rr x15 7 ^^^ Sh.rr x15 18 ^^^ x15 >>> 3) + x7 + (Sh.rr x2 17 ^^^ Sh.rr x2 19 ^^^ x2 >>> 10)) := Lib.hid (by rw [Sh.next, h15, h2, h16, h7])
          clear h15 h2 h16 h7 hxi
          have q7 := fun w => flp (right7 x15 w)
          have q18 := fun w => flp (right18 x15 w)
          have q17 := fun w => flp (right17 x2 w)
          have q19 := fun w => flp (right19 x2 w)
          clear hA hR b0 b1 b2 b3
          have i0 : 0 ≤ (i : Int) - 15 := by omega
          have i1 : (i : Int) - 15 < 64 := by omega
          have i2 : ((i : Int) - 15).toNat = i - 15 := by omega
          have j0 : 0 ≤ (i : Int) - 2 := by omega
          have j1 : (i : Int) - 2 < 64 := by omega
          have j2 : ((i : Int) - 2).toNat = i - 2 := by omega
          have l0 : 0 ≤ (i : Int) - 16 := by omega
          have l1 : (i : Int) - 16 < 64 := by omega
          have l2 : ((i : Int) - 16).toNat = i - 16 := by omega
          have m0 : 0 ≤ (i : Int) - 7 := by omega
          have m1 : (i : Int) - 7 < 64 := by omega
          have m2 : ((i : Int) - 7).toNat = i - 7 := by omega
          go_wp2
          go_quiet ((first | (go_at_call 75; with_reducible exact Calls.quiet_of_same (q7 _)) | (go_at_call 75; with_reducible exact Calls.quiet_of_same (q18 _))))
          change (wr.drewN nq).cell? _ = _ at a1 a2 a3 a4
          change (wr.drewN nq).frozen? _ = _ at b4
          change Hid (ArrAt (wr.drewN nq) _ _) at HA HR
          replace hL := Below.trans hL (show Below w.heap.size wr (wr.drewN nq) from ⟨rfl, rfl, rfl, Nat.le_refl _, fun _ _ => rfl⟩)
          clear a0
          generalize wr.drewN nq = wq at *
          go_wp2
          go_quiet ((first | (go_at_call 75; with_reducible exact Calls.quiet_of_same (q17 _)) | (go_at_call 75; with_reducible exact Calls.quiet_of_same (q19 _))))
          change (wq.drewN nq).cell? _ = _ at a2 a3 a4
          change (wq.drewN nq).frozen? _ = _ at b4
          change Hid (ArrAt (wq.drewN nq) _ _) at HA HR
          replace hL := Below.trans hL (show Below w.heap.size wq (wq.drewN nq) from ⟨rfl, rfl, rfl, Nat.le_refl _, fun _ _ => rfl⟩)
          clear a1
          generalize wq.drewN nq = wp at *
          go_wp2
          go_region
          go_wp2
          go_roundw
          case rel =>
            refine ⟨i + 1, by omega, by omega, by go_num, ?_, HR.out.other (by omega), ?_⟩
            · have hv := w_next x16 x15 x7 x2
              rw [← HX.out] at hv
              have h := HA.out.set (sched_len b i) (by omega) _ _ hv
              rw [Sh.sched, if_neg (by omega)]
              exact h
            · exact (hL.setCell (p := ⟨w.heap.size + 1, i, none⟩) (Nat.le_succ _) _).drew
          case measure => simp [intOf]; omega
        · obtain rfl : i = 64 := by omega
          have HA := Lib.hid hA
          have HR := Lib.hid hR
          clear hA hR
          have hrng := HA.out.range (sched_len b 64)
          have hth := HR.out.there
          have hsz : (Tryd.prog.info? 79).map (·.size) = some (wcells (Sh.sched b 64)).length := by rw [wcells_len, sched_len]; kernel_rfl
          have hsz2 : (wcells (Sh.sched b 64)).toArray.size = 64 := by rw [List.size_toArray, wcells_len, sched_len]
          have HC := Lib.hid (World.rangeAt_setCells_same wr w.heap.size 0 (wcells (Sh.sched b 64)) (by rw [wcells_len, sched_len]; exact hth))
          have hone : (wcells (Sh.sched b 64)).toArray.all (·.oneCell') = true := by
            rw [Array.all_eq_true_iff_forall_mem]
            intro v hv
            simp only [wcells, List.mem_toArray, List.mem_map] at hv
            obtain ⟨x, _, rfl⟩ := hv
            rfl
          obtain ⟨cs, hcs⟩ : ∃ cs, wcells (Sh.sched b 64) = cs := ⟨_, rfl⟩
          rw [hcs] at hrng hsz hsz2 HC hone
          have HW := Lib.hid hcs
          clear hcs
          go_wp2_with (first
            | (refine wpList_load_mid rfl 79 (.tmp 3) rfl (w.heap.size + 1) 0 rfl cs _ hrng Tryd.underlying79 rfl hsz ?_)
            | (refine wpList_store_mid rfl 79 (.tmp 2) (.tmp 104) rfl w.heap.size 0 cs.toArray rfl rfl (by rw [hsz2]; exact hth) (by rw [List.size_toArray]; exact hsz) hone ?_))
          refine bodyPost_ret (results_cell_mid rfl _ _ w.heap.size 0 cs _ rfl HC.out Tryd.underlying79 rfl hsz) rfl ⟨congrArg (fun l => Ending.returned (Value.agg (List.toArray l))) HW.out.symm, below_setCells hL (Nat.le_refl _) cs⟩
end Go.Proofs.YtdjdoepnljdlcaaDoor
