/- The walk of package digest's mix: the rounds of a block. -/
import Derived.Test.YtdjdoepnljdlcaaDoorSb
import Derived.Maps.AppendAt
import Derived.Maps.Range
namespace Go.Proofs.YtdjdoepnljdlcaaDoor
open Go.RowKit

/-- the table of addends lies where the program lays it -/
def Tab (w : World) : Prop := ∀ i, i < 64 → w.cell? ⟨0, i, none⟩ = some (.int .u32 ((Sh.K.getD i 0).toNat : Int))
/-- eight words -/
def St.get (s : Sh.St) (j : Nat) : UInt32 := [s.a, s.b, s.c, s.d, s.e, s.f, s.g, s.h].getD j 0
def WordsAt (w : World) (A : Nat) (f : Nat → UInt32) : Prop := ∀ j, j < 8 → w.cell? ⟨A, j, none⟩ = some (.int .u32 ((f j).toNat : Int)) ∧ w.frozen? ⟨A, j, none⟩ = false

theorem zero_there (W : World) (t : TypeId) : (W.alloc (.cells (Array.replicate 64 (.int .u32 0)) t)).there W.heap.size 0 64 := (arr_zero W t).there
theorem wcells_one (l : List UInt32) : (wcells l).toArray.all (·.oneCell') = true := by
  rw [Array.all_eq_true_iff_forall_mem]
  intro v hv
  simp only [wcells, List.mem_toArray, List.mem_map] at hv
  obtain ⟨x, _, rfl⟩ := hv
  rfl
theorem WordsAt.below {w w' : World} {n A : Nat} {f : Nat → UInt32} (h : WordsAt w A f) (hb : Below n w w') (hA : A < n) : WordsAt w' A f := fun j hj =>
  ⟨(hb.cell (p := ⟨A, j, none⟩) hA).trans (h j hj).1, (hb.frozen (p := ⟨A, j, none⟩) hA).trans (h j hj).2⟩
theorem Tab.below {w w' : World} {n : Nat} (h : Tab w) (hb : Below n w w') (hA : 0 < n) : Tab w' := fun j hj => (hb.cell (p := ⟨0, j, none⟩) hA).trans (h j hj)

theorem w_not (x : UInt32) : bits .xor .u32 (if IntKind.u32.signed = true then -1 else IntKind.u32.max) (x.toNat : Int) = ((~~~x).toNat : Int) := by
  have h := w_xor 4294967295 x
  rw [show (4294967295 : UInt32) ^^^ x = ~~~x from UInt32.toBitVec_inj.1 (by simp only [UInt32.toBitVec_xor, UInt32.toBitVec_not]; exact BitVec.allOnes_xor)] at h
  exact h
theorem w_sum2 (a b : UInt32) : ((a.toNat : Int) + (b.toNat : Int)) % 4294967296 = ((a + b).toNat : Int) := by
  simp only [UInt32.toNat_add]; omega
theorem w_sum5 (a b c d e : UInt32) : ((a.toNat : Int) + (b.toNat : Int) + (c.toNat : Int) + (d.toNat : Int) + (e.toNat : Int)) % 4294967296 = ((a + b + c + d + e).toNat : Int) := by
  simp only [UInt32.toNat_add]; omega
theorem w_tt (a b c d e f g h k w : UInt32) :
    ((h.toNat : Int) + ((Sh.turn e 6 11 25).toNat : Int) + bits .xor .u32 (bits .and .u32 (e.toNat : Int) (f.toNat : Int)) (bits .and .u32 (bits .xor .u32 (if IntKind.u32.signed = true then -1 else IntKind.u32.max) (e.toNat : Int)) (g.toNat : Int)) +
      (k.toNat : Int) + (w.toNat : Int)) % (4294967296 : Int) = ((Sh.tt ⟨a, b, c, d, e, f, g, h⟩ k w).toNat : Int) := by
  rw [w_not, w_and, w_and, w_xor, w_sum5, Sh.tt]
theorem w_uu (a b c d e f g h : UInt32) :
    (((Sh.turn a 2 13 22).toNat : Int) + bits .xor .u32 (bits .xor .u32 (bits .and .u32 (a.toNat : Int) (b.toNat : Int)) (bits .and .u32 (a.toNat : Int) (c.toNat : Int))) (bits .and .u32 (b.toNat : Int) (c.toNat : Int))) % (4294967296 : Int) =
    ((Sh.uu ⟨a, b, c, d, e, f, g, h⟩).toNat : Int) := by
  rw [w_and, w_and, w_and, w_xor, w_xor, w_sum2, Sh.uu]

theorem WordsAt.set {w : World} {A k : Nat} {f f' : Nat → UInt32} (h : WordsAt w A f) (hk : k < 8) {v : Int} (hv : v = ((f' k).toNat : Int)) (ho : ∀ j, j ≠ k → f' j = f j) :
    WordsAt (w.setCell ⟨A, k, none⟩ (.int .u32 v)) A f' := by
  subst hv
  intro j hj
  rw [World.frozen?_setCell]
  refine ⟨?_, (h j hj).2⟩
  by_cases e : j = k
  · subst e
    rw [World.cell?_setCell_same' _ _ _ (by rw [(h _ hj).1]; rfl)]
  · have n2 : (⟨A, k, none⟩ : Addr) ≠ ⟨A, j, none⟩ := fun h' => e (congrArg Addr.off h').symm
    rw [World.cell?_setCell_other _ _ _ _ n2, (h j hj).1, ho j e]
theorem WordsAt.congr {w : World} {A : Nat} {f f' : Nat → UInt32} (h : WordsAt w A f) (e : ∀ j, j < 8 → f' j = f j) : WordsAt w A f' := fun j hj => by rw [e j hj]; exact h j hj
theorem get_add (s t : Sh.St) (j : Nat) (hj : j < 8) : St.get (s.add t) j = St.get s j + St.get t j := by
  rcases (show j = 0 ∨ j = 1 ∨ j = 2 ∨ j = 3 ∨ j = 4 ∨ j = 5 ∨ j = 6 ∨ j = 7 by omega) with rfl | rfl | rfl | rfl | rfl | rfl | rfl | rfl <;> rfl
theorem grown_setCell (w : World) (a : Addr) (u : Value) : w.grownBy (w.setCell a u) (some a.block) :=
  ⟨rfl, rfl, rfl, (KeepsWalks.setCell w _ u).size, fun k _ hk => Below.heap_setCell _ _ _ k (fun e => hk (by rw [e]))⟩
theorem grown_drew {w w' : World} {row : Option Nat} (h : w.grownBy w' row) : w.grownBy w'.drew row := ⟨h.os, h.tape, h.output, h.size, h.block⟩
theorem grown_below {w w' : World} (h : Below w.heap.size w w') (row : Option Nat) : w.grownBy w' row := ⟨h.os, h.tape, h.output, h.size, fun i hi _ => h.block i hi⟩

theorem run_index60 (w : World) (k : Fin 8) (a b c d e f g h : Int) (v : Int) (hv : v = [a, b, c, d, e, f, g, h].getD k.1 0) :
    (Instr.index 60 (.agg #[.int .u32 a, .int .u32 b, .int .u32 c, .int .u32 d, .int .u32 e, .int .u32 f, .int .u32 g, .int .u32 h]) (.int .i64 (k.1 : Int))).run Tryd.prog w = .ok (.int .u32 v) w := by
  subst hv
  have hz : Tryd.prog.cellsOf 48 = 1 := by kernel_rfl
  rcases k with ⟨k, hk⟩
  rcases (show k = 0 ∨ k = 1 ∨ k = 2 ∨ k = 3 ∨ k = 4 ∨ k = 5 ∨ k = 6 ∨ k = 7 by omega) with rfl | rfl | rfl | rfl | rfl | rfl | rfl | rfl <;>
  simp [Instr.index, run_underlying Tryd.underlying60, asIntOf, go_sem]

/-- a new array of words, filled -/
def newArr (W : World) (cs : List Value) : World := (W.alloc (.cells (Array.replicate 64 (.int .u32 0)) 79)).setCells W.heap.size 0 cs
theorem store_new (W : World) (cs : List Value) (hl : cs.length = 64) (h1 : cs.toArray.all (·.oneCell') = true) :
    (storeCells ⟨W.heap.size, 0, none⟩ cs).run Tryd.prog (W.alloc (.cells (Array.replicate 64 (.int .u32 0)) 79)) = .ok () (newArr W cs) := by
  have ht := zero_there W 79
  have := run_storeCells_cells (P := Tryd.prog) W.heap.size 0 cs 0 (W.alloc (.cells (Array.replicate 64 (.int .u32 0)) 79)) (fun j hj => by simpa using (ht j (by omega)).1) (fun j _ => by simp)
    (fun v hv => (Array.all_eq_true_iff_forall_mem.1 h1) v (List.mem_toArray.2 hv))
  exact this
theorem newArr_cell (W : World) (l : List UInt32) (hl : l.length = 64) (j : Nat) (hj : j < 64) : (newArr W (wcells l)).cell? ⟨W.heap.size, j, none⟩ = some (.int .u32 ((l.getD j 0).toNat : Int)) := by
  have h := World.rangeAt_setCells_same (W.alloc (.cells (Array.replicate 64 (.int .u32 0)) 79)) W.heap.size 0 (wcells l) (by rw [wcells_len, hl]; exact zero_there W 79) j (.int .u32 ((l.getD j 0).toNat : Int))
    (by rw [wcells, List.getElem?_map, List.getD_eq_getElem?_getD, List.getElem?_eq_getElem (by omega)]; rfl)
  rwa [Nat.zero_add] at h
theorem newArr_below {n : Nat} {w W : World} (h : Below n w W) (hn : n ≤ W.heap.size) (cs : List Value) : Below n w (newArr W cs) := below_setCells (h.alloc hn _) hn cs

set_option maxRecDepth 100000 in
set_option maxHeartbeats 2000000 in
theorem mix_any (A B : Nat) (s m : Sh.St) (b : Nat → UInt8) (hm : Hid (Sh.mix s b = m)) (w : World) (hA : A < w.heap.size) (hB : B < w.heap.size) (hb : BlockAt w B b) (ht : Tab w) (hw : WordsAt w A (St.get s)) :
    Calls Tryd.prog 57 #[.pointer (some ⟨A, 0, none⟩), .pointer (some ⟨B, 0, none⟩)] w fun e w' => e = .returned (.tuple #[]) ∧ WordsAt w' A (St.get m) ∧ w.grownBy w' (some A) := by
  obtain ⟨sc, hsc⟩ : ∃ sc, Sh.sched b 64 = sc := ⟨_, rfl⟩
  have hlen := sched_len b 64
  have he := expand_any B b w hB hb
  rw [hsc] at he hlen
  obtain ⟨cs, hcs⟩ : ∃ cs, wcells sc = cs := ⟨_, rfl⟩
  have hone := wcells_one sc
  have hsz2 := wcells_len sc
  have hsz : (Tryd.prog.info? 79).map (·.size) = some (wcells sc).toArray.size := by rw [List.size_toArray, wcells_len, hlen]; kernel_rfl
  rw [hcs] at he hone hsz2 hsz
  have hst := fun W => store_new W cs (by rw [hsz2, hlen]) hone
  rw [← zero64] at hst
  have HW := Lib.hid hcs
  replace hm : Hid (∀ n, n = 64 → s.add (Sh.rnds sc s n) = m) := Lib.hid fun n e => by rw [e, ← hsc]; exact hm
  have HT := Lib.hid ht
  have HB := Lib.hid hb
  have HWA := Lib.hid hw
  clear hcs hsc ht hb hw
  go_enter Tryd.func57, Tryd.ntmps57
  go_wp2_with (first
            | (go_at_call 65; (with_reducible refine he.mono ?_); rintro e w1 ⟨rfl, hb1⟩)
            )
  have hb2 := newArr_below hb1 hb1.size cs
  have hE : ∀ j, j < 64 → (newArr w1 cs).cell? ⟨w1.heap.size, j, none⟩ = some (.int .u32 ((sc.getD j 0).toNat : Int)) := by rw [← HW.out]; exact newArr_cell w1 sc hlen
  have hle := hb1.size
  generalize newArr w1 cs = w2 at *
  generalize w1.heap.size = E at *
  have hwa := HWA.out.below hb2 hA
  obtain ⟨a, b', c, d, e, f, g, h⟩ := s
  have x0 := (hwa 0 (by omega)).1
  have x1 := (hwa 1 (by omega)).1
  have x2 := (hwa 2 (by omega)).1
  have x3 := (hwa 3 (by omega)).1
  have x4 := (hwa 4 (by omega)).1
  have x5 := (hwa 5 (by omega)).1
  have x6 := (hwa 6 (by omega)).1
  have x7 := (hwa 7 (by omega)).1
  simp only [St.get, List.getD_cons_zero, List.getD_cons_succ] at x0 x1 x2 x3 x4 x5 x6 x7
  have HE := Lib.hid hE
  replace HWA := Lib.hid hwa
  replace HT := Lib.hid (HT.out.below hb2 (by omega))
  clear hE hwa hst he hone hb1 HW
  go_wp2
  go_quiet (fail)
  change Hid (WordsAt (w2.drewN nq) _ _) at HWA
  change Hid (Tab (w2.drewN nq)) at HT
  change Hid (∀ j, j < 64 → (w2.drewN nq).cell? _ = _) at HE
  replace hb2 := Below.trans hb2 (show Below w.heap.size w2 (w2.drewN nq) from ⟨rfl, rfl, rfl, Nat.le_refl _, fun _ _ => rfl⟩)
  clear x0 x1 x2 x3 x4 x5 x6 x7
  generalize w2.drewN nq = w3 at *
  go_wp2
  obtain ⟨s0, hs0⟩ : ∃ s0 : Sh.St, s0 = ⟨a, b', c, d, e, f, g, h⟩ := ⟨_, rfl⟩
  rw [← hs0] at HWA hm
  have HS0 := Lib.hid hs0
  clear hs0 hsz hsz2 hlen
  go_loopw [5, 6, 7, 8, 9, 10, 11, 12, 13, 14, 15, 52] (fun v5 v6 v7 v8 v9 v10 v11 v12 _ _ _ v52 wr => ∃ (i : Nat) (a b' c d e f g h : UInt32), i ≤ 64 ∧ v52 = .int .i64 (i : Int) ∧ Hid (Sh.rnds sc s0 i = ⟨a, b', c, d, e, f, g, h⟩) ∧
      v5 = .int .u32 (a.toNat : Int) ∧ v6 = .int .u32 (b'.toNat : Int) ∧ v7 = .int .u32 (c.toNat : Int) ∧ v8 = .int .u32 (d.toNat : Int) ∧ v9 = .int .u32 (e.toNat : Int) ∧ v10 = .int .u32 (f.toNat : Int) ∧
      v11 = .int .u32 (g.toNat : Int) ∧ v12 = .int .u32 (h.toNat : Int) ∧ Hid (WordsAt wr A (St.get s0)) ∧ Hid (Tab wr) ∧ Hid (∀ j, j < 64 → wr.cell? ⟨E, j, none⟩ = some (.int .u32 ((sc.getD j 0).toNat : Int))) ∧ Below w.heap.size w wr)
    (fun _ _ _ _ _ _ _ _ _ _ _ i _ => 64 - (intOf i).toNat)
  case atStart => exact ⟨0, a, b', c, d, e, f, g, h, by omega, rfl, Lib.hid (by rw [Sh.rnds, HS0.out]), rfl, rfl, rfl, rfl, rfl, rfl, rfl, rfl, HWA, HT, HE, hb2⟩
  case round =>
    obtain ⟨i, a, b', c, d, e, f, g, h, hi, rfl, hx, rfl, rfl, rfl, rfl, rfl, rfl, rfl, rfl, HWA, HT, HE, hb2⟩ := hrel
    by_cases hlt : i < 64
    · have k0 := HT.out i hlt
      have k1 := HE.out i hlt
      obtain ⟨ki, hki⟩ : ∃ x, Sh.K.getD i 0 = x := ⟨_, rfl⟩
      obtain ⟨wi, hwi⟩ : ∃ x, sc.getD i 0 = x := ⟨_, rfl⟩
      rw [hki] at k0
      rw [hwi] at k1
      have hx' : Hid (Sh.rnds sc s0 (i + 1) = Sh.step ⟨a, b', c, d, e, f, g, h⟩ ki wi) := Lib.hid (by rw [Sh.rnds, hx.out, hki, hwi])
      clear hki hwi hx
      have q6 := fun w => flp (turned6 e w)
      have q2 := fun w => turned2 a w
      go_wp2
      go_quiet ((go_at_call 66; with_reducible exact Calls.quiet_of_same (q6 _)))
      change Hid (WordsAt (wr.drewN nq) _ _) at HWA
      change Hid (Tab (wr.drewN nq)) at HT
      change Hid (∀ j, j < 64 → (wr.drewN nq).cell? _ = _) at HE
      replace hb2 := Below.trans hb2 (show Below w.heap.size wr (wr.drewN nq) from ⟨rfl, rfl, rfl, Nat.le_refl _, fun _ _ => rfl⟩)
      clear k0 k1
      generalize wr.drewN nq = wq at *
      go_wp2_with (go_at_call 66; (with_reducible refine (q2 _).mono ?_); rintro e w' ⟨rfl, rfl⟩)
      go_roundw
      case rel =>
        refine ⟨i + 1, _, _, _, _, _, _, _, _, by omega, by go_num, hx', congrArg (Value.int .u32) ?_, rfl, rfl, rfl, congrArg (Value.int .u32) ?_, rfl, rfl, rfl, HWA, HT, HE, hb2⟩
        · rw [w_tt a b' c d e f g h ki wi, w_uu a b' c d e f g h, w_sum2]
        · rw [w_tt a b' c d e f g h ki wi, w_sum2]
      case measure => simp [intOf]; omega
    · obtain rfl : i = 64 := by omega
      have hM := hm.out 64 rfl
      rw [hx.out] at hM
      have HM := Lib.hid hM
      clear hM hx hm HE HT
      obtain ⟨y0, hy0⟩ : ∃ y0 : Nat → UInt32, y0 = St.get s0 := ⟨_, rfl⟩
      rw [← hy0] at HWA
      have HY := Lib.hid hy0
      clear hy0
      go_wp2
      obtain ⟨z, hz⟩ : ∃ z : Nat → UInt32, z = St.get ⟨a, b', c, d, e, f, g, h⟩ := ⟨_, rfl⟩
      have z0 : z 0 = a := by rw [hz]; rfl
      have z1 : z 1 = b' := by rw [hz]; rfl
      have z2 : z 2 = c := by rw [hz]; rfl
      have z3 : z 3 = d := by rw [hz]; rfl
      have z4 : z 4 = e := by rw [hz]; rfl
      have z5 : z 5 = f := by rw [hz]; rfl
      have z6 : z 6 = g := by rw [hz]; rfl
      have z7 : z 7 = h := by rw [hz]; rfl
      have ZZ := Lib.hid (And.intro z0 (And.intro z1 (And.intro z2 (And.intro z3 (And.intro z4 (And.intro z5 (And.intro z6 z7)))))))
      have HZ := Lib.hid hz
      clear z0 z1 z2 z3 z4 z5 z6 z7 hz
      go_loopw [16, 17, 112] (fun _ _ i wr => ∃ k : Nat, k ≤ 8 ∧ i = .int .i64 (k : Int) ∧ Hid (WordsAt wr A fun j => if j < k then y0 j + z j else y0 j) ∧ w.grownBy wr (some A)) (fun _ _ i _ => 8 - (intOf i).toNat)
      case atStart => exact ⟨0, by omega, rfl, Lib.hid (HWA.out.congr fun j _ => by simp), grown_below hb2 _⟩
      case round =>
        obtain ⟨k, hk, rfl, HWA, hg⟩ := hrel
        by_cases hlt : k < 8
        · have c0 := (HWA.out k hlt).1
          have f0 := (HWA.out k hlt).2
          simp only [Nat.lt_irrefl, if_false] at c0
          have hz : ∃ x, z k = x := ⟨_, rfl⟩
          obtain ⟨x, hx⟩ := hz
          obtain ⟨y, hy⟩ : ∃ x, y0 k = x := ⟨_, rfl⟩
          rw [hy] at c0
          have HK := Lib.hid (And.intro hx hy)
          clear hx hy
          rcases (show k = 0 ∨ k = 1 ∨ k = 2 ∨ k = 3 ∨ k = 4 ∨ k = 5 ∨ k = 6 ∨ k = 7 by omega) with rfl | rfl | rfl | rfl | rfl | rfl | rfl | rfl
          · have hix : ∀ w, (Instr.index 60 (.agg #[.int .u32 (a.toNat : Int), .int .u32 (b'.toNat : Int), .int .u32 (c.toNat : Int), .int .u32 (d.toNat : Int), .int .u32 (e.toNat : Int), .int .u32 (f.toNat : Int), .int .u32 (g.toNat : Int), .int .u32 (h.toNat : Int)]) (.int .i64 0)).run Tryd.prog w = .ok (.int .u32 (a.toNat : Int)) w := fun w => run_index60 w ⟨0, by omega⟩ (a.toNat : Int) (b'.toNat : Int) (c.toNat : Int) (d.toNat : Int) (e.toNat : Int) (f.toNat : Int) (g.toNat : Int) (h.toNat : Int) _ rfl
            go_wp2
            go_region
            go_wp2
            go_roundw
            case rel =>
              refine ⟨0 + 1, by omega, by go_num, Lib.hid (HWA.out.set (by omega) ?_ fun j hj => ?_), grown_drew (hg.trans (grown_setCell wr ⟨A, 0, none⟩ _))⟩
              · rw [if_pos (by omega), HK.out.2, ZZ.out.1]; exact w_sum2 y a
              · by_cases hj2 : j < 0
                · rw [if_pos hj2, if_pos (by omega)]
                · rw [if_neg hj2, if_neg (by omega)]
            case measure => simp [intOf]
          · have hix : ∀ w, (Instr.index 60 (.agg #[.int .u32 (a.toNat : Int), .int .u32 (b'.toNat : Int), .int .u32 (c.toNat : Int), .int .u32 (d.toNat : Int), .int .u32 (e.toNat : Int), .int .u32 (f.toNat : Int), .int .u32 (g.toNat : Int), .int .u32 (h.toNat : Int)]) (.int .i64 1)).run Tryd.prog w = .ok (.int .u32 (b'.toNat : Int)) w := fun w => run_index60 w ⟨1, by omega⟩ (a.toNat : Int) (b'.toNat : Int) (c.toNat : Int) (d.toNat : Int) (e.toNat : Int) (f.toNat : Int) (g.toNat : Int) (h.toNat : Int) _ rfl
            go_wp2
            go_region
            go_wp2
            go_roundw
            case rel =>
              refine ⟨1 + 1, by omega, by go_num, Lib.hid (HWA.out.set (by omega) ?_ fun j hj => ?_), grown_drew (hg.trans (grown_setCell wr ⟨A, 1, none⟩ _))⟩
              · rw [if_pos (by omega), HK.out.2, ZZ.out.2.1]; exact w_sum2 y b'
              · by_cases hj2 : j < 1
                · rw [if_pos hj2, if_pos (by omega)]
                · rw [if_neg hj2, if_neg (by omega)]
            case measure => simp [intOf]
          · have hix : ∀ w, (Instr.index 60 (.agg #[.int .u32 (a.toNat : Int), .int .u32 (b'.toNat : Int), .int .u32 (c.toNat : Int), .int .u32 (d.toNat : Int), .int .u32 (e.toNat : Int), .int .u32 (f.toNat : Int), .int .u32 (g.toNat : Int), .int .u32 (h.toNat : Int)]) (.int .i64 2)).run Tryd.prog w = .ok (.int .u32 (c.toNat : Int)) w := fun w => run_index60 w ⟨2, by omega⟩ (a.toNat : Int) (b'.toNat : Int) (c.toNat : Int) (d.toNat : Int) (e.toNat : Int) (f.toNat : Int) (g.toNat : Int) (h.toNat : Int) _ rfl
            go_wp2
            go_region
            go_wp2
            go_roundw
            case rel =>
              refine ⟨2 + 1, by omega, by go_num, Lib.hid (HWA.out.set (by omega) ?_ fun j hj => ?_), grown_drew (hg.trans (grown_setCell wr ⟨A, 2, none⟩ _))⟩
              · rw [if_pos (by omega), HK.out.2, ZZ.out.2.2.1]; exact w_sum2 y c
              · by_cases hj2 : j < 2
                · rw [if_pos hj2, if_pos (by omega)]
                · rw [if_neg hj2, if_neg (by omega)]
            case measure => simp [intOf]
          · have hix : ∀ w, (Instr.index 60 (.agg #[.int .u32 (a.toNat : Int), .int .u32 (b'.toNat : Int), .int .u32 (c.toNat : Int), .int .u32 (d.toNat : Int), .int .u32 (e.toNat : Int), .int .u32 (f.toNat : Int), .int .u32 (g.toNat : Int), .int .u32 (h.toNat : Int)]) (.int .i64 3)).run Tryd.prog w = .ok (.int .u32 (d.toNat : Int)) w := fun w => run_index60 w ⟨3, by omega⟩ (a.toNat : Int) (b'.toNat : Int) (c.toNat : Int) (d.toNat : Int) (e.toNat : Int) (f.toNat : Int) (g.toNat : Int) (h.toNat : Int) _ rfl
            go_wp2
            go_region
            go_wp2
            go_roundw
            case rel =>
              refine ⟨3 + 1, by omega, by go_num, Lib.hid (HWA.out.set (by omega) ?_ fun j hj => ?_), grown_drew (hg.trans (grown_setCell wr ⟨A, 3, none⟩ _))⟩
              · rw [if_pos (by omega), HK.out.2, ZZ.out.2.2.2.1]; exact w_sum2 y d
              · by_cases hj2 : j < 3
                · rw [if_pos hj2, if_pos (by omega)]
                · rw [if_neg hj2, if_neg (by omega)]
            case measure => simp [intOf]
          · have hix : ∀ w, (Instr.index 60 (.agg #[.int .u32 (a.toNat : Int), .int .u32 (b'.toNat : Int), .int .u32 (c.toNat : Int), .int .u32 (d.toNat : Int), .int .u32 (e.toNat : Int), .int .u32 (f.toNat : Int), .int .u32 (g.toNat : Int), .int .u32 (h.toNat : Int)]) (.int .i64 4)).run Tryd.prog w = .ok (.int .u32 (e.toNat : Int)) w := fun w => run_index60 w ⟨4, by omega⟩ (a.toNat : Int) (b'.toNat : Int) (c.toNat : Int) (d.toNat : Int) (e.toNat : Int) (f.toNat : Int) (g.toNat : Int) (h.toNat : Int) _ rfl
            go_wp2
            go_region
            go_wp2
            go_roundw
            case rel =>
              refine ⟨4 + 1, by omega, by go_num, Lib.hid (HWA.out.set (by omega) ?_ fun j hj => ?_), grown_drew (hg.trans (grown_setCell wr ⟨A, 4, none⟩ _))⟩
              · rw [if_pos (by omega), HK.out.2, ZZ.out.2.2.2.2.1]; exact w_sum2 y e
              · by_cases hj2 : j < 4
                · rw [if_pos hj2, if_pos (by omega)]
                · rw [if_neg hj2, if_neg (by omega)]
            case measure => simp [intOf]
          · have hix : ∀ w, (Instr.index 60 (.agg #[.int .u32 (a.toNat : Int), .int .u32 (b'.toNat : Int), .int .u32 (c.toNat : Int), .int .u32 (d.toNat : Int), .int .u32 (e.toNat : Int), .int .u32 (f.toNat : Int), .int .u32 (g.toNat : Int), .int .u32 (h.toNat : Int)]) (.int .i64 5)).run Tryd.prog w = .ok (.int .u32 (f.toNat : Int)) w := fun w => run_index60 w ⟨5, by omega⟩ (a.toNat : Int) (b'.toNat : Int) (c.toNat : Int) (d.toNat : Int) (e.toNat : Int) (f.toNat : Int) (g.toNat : Int) (h.toNat : Int) _ rfl
            go_wp2
            go_region
            go_wp2
            go_roundw
            case rel =>
              refine ⟨5 + 1, by omega, by go_num, Lib.hid (HWA.out.set (by omega) ?_ fun j hj => ?_), grown_drew (hg.trans (grown_setCell wr ⟨A, 5, none⟩ _))⟩
              · rw [if_pos (by omega), HK.out.2, ZZ.out.2.2.2.2.2.1]; exact w_sum2 y f
              · by_cases hj2 : j < 5
                · rw [if_pos hj2, if_pos (by omega)]
                · rw [if_neg hj2, if_neg (by omega)]
            case measure => simp [intOf]
          · have hix : ∀ w, (Instr.index 60 (.agg #[.int .u32 (a.toNat : Int), .int .u32 (b'.toNat : Int), .int .u32 (c.toNat : Int), .int .u32 (d.toNat : Int), .int .u32 (e.toNat : Int), .int .u32 (f.toNat : Int), .int .u32 (g.toNat : Int), .int .u32 (h.toNat : Int)]) (.int .i64 6)).run Tryd.prog w = .ok (.int .u32 (g.toNat : Int)) w := fun w => run_index60 w ⟨6, by omega⟩ (a.toNat : Int) (b'.toNat : Int) (c.toNat : Int) (d.toNat : Int) (e.toNat : Int) (f.toNat : Int) (g.toNat : Int) (h.toNat : Int) _ rfl
            go_wp2
            go_region
            go_wp2
            go_roundw
            case rel =>
              refine ⟨6 + 1, by omega, by go_num, Lib.hid (HWA.out.set (by omega) ?_ fun j hj => ?_), grown_drew (hg.trans (grown_setCell wr ⟨A, 6, none⟩ _))⟩
              · rw [if_pos (by omega), HK.out.2, ZZ.out.2.2.2.2.2.2.1]; exact w_sum2 y g
              · by_cases hj2 : j < 6
                · rw [if_pos hj2, if_pos (by omega)]
                · rw [if_neg hj2, if_neg (by omega)]
            case measure => simp [intOf]
          · have hix : ∀ w, (Instr.index 60 (.agg #[.int .u32 (a.toNat : Int), .int .u32 (b'.toNat : Int), .int .u32 (c.toNat : Int), .int .u32 (d.toNat : Int), .int .u32 (e.toNat : Int), .int .u32 (f.toNat : Int), .int .u32 (g.toNat : Int), .int .u32 (h.toNat : Int)]) (.int .i64 7)).run Tryd.prog w = .ok (.int .u32 (h.toNat : Int)) w := fun w => run_index60 w ⟨7, by omega⟩ (a.toNat : Int) (b'.toNat : Int) (c.toNat : Int) (d.toNat : Int) (e.toNat : Int) (f.toNat : Int) (g.toNat : Int) (h.toNat : Int) _ rfl
            go_wp2
            go_region
            go_wp2
            go_roundw
            case rel =>
              refine ⟨7 + 1, by omega, by go_num, Lib.hid (HWA.out.set (by omega) ?_ fun j hj => ?_), grown_drew (hg.trans (grown_setCell wr ⟨A, 7, none⟩ _))⟩
              · rw [if_pos (by omega), HK.out.2, ZZ.out.2.2.2.2.2.2.2]; exact w_sum2 y h
              · by_cases hj2 : j < 7
                · rw [if_pos hj2, if_pos (by omega)]
                · rw [if_neg hj2, if_neg (by omega)]
            case measure => simp [intOf]
        · obtain rfl : k = 8 := by omega
          go_wp2
          go_end0
          refine ⟨rfl, HWA.out.congr fun j hj => ?_, hg⟩
          rw [if_pos hj, HY.out, HZ.out, ← HM.out, get_add _ _ _ hj]
end Go.Proofs.YtdjdoepnljdlcaaDoor
