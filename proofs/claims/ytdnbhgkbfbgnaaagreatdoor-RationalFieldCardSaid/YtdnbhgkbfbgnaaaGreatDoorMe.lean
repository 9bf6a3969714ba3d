/- The functions of the packages and of the references, by contract: part 5. -/
import Derived.Carry
import Derived.ChangeSlices
import Derived.Deep.DeepHandedRow
import Derived.LaidLaws
import Derived.Lib.LaidTab
import Derived.OpenShut
import Derived.ProofKit
import Derived.SliceStrings
import Derived.Test.YtdnbhgkbfbgnaaaGreatDoorCards
import Derived.Test.YtdnbhgkbfbgnaaaGreatDoorTie
import Derived.WalkKit
import Derived.Test.YtdnbhgkbfbgnaaaGreatDoorMd

namespace Go.Proofs.YtdnbhgkbfbgnaaaGreatDoor
open Go.RowKit

/-- a block of cells -/
def CBlk (w : World) (g : Nat) (cs : Array Value) (t : TypeId) : Prop := w.heap[g]? = some (.cells cs t (0, 0))
theorem CBlk.lt {w : World} {g : Nat} {cs : Array Value} {t : TypeId} (h : CBlk w g cs t) : g < w.heap.size := (Array.getElem?_eq_some_iff.1 h).1
theorem CBlk.keep {w w' : World} {n g : Nat} {cs : Array Value} {t : TypeId} (h : CBlk w g cs t) (hb : Below n w w') (hg : g < n) : CBlk w' g cs t := (hb.block g hg).trans h
theorem CBlk.c {w : World} {g : Nat} {cs : Array Value} {t : TypeId} (h : CBlk w g cs t) (j : Nat) {v : Value} (hv : cs[j]? = some v) : w.cell? ⟨g, j, none⟩ = some v := by rw [World.cell?, h]; exact hv
theorem CBlk.f {w : World} {g : Nat} {cs : Array Value} {t : TypeId} (h : CBlk w g cs t) (j : Nat) : w.frozen? ⟨g, j, none⟩ = false := by rw [World.frozen?, h]; simp
theorem CBlk.set {w : World} {g : Nat} {cs : Array Value} {t : TypeId} (h : CBlk w g cs t) (j : Nat) (v : Value) : CBlk (w.setCell ⟨g, j, none⟩ v) g (cs.setIfInBounds j v) t := by
  rw [CBlk, heap_setCell_same w g j _ _ v h]
theorem CBlk.new (w : World) (cs : Array Value) (t : TypeId) : CBlk (w.alloc (.cells cs t)) w.heap.size cs t := Go.heap_alloc_new w _
theorem CBlk.alloc {w : World} {g : Nat} {cs : Array Value} {t : TypeId} (h : CBlk w g cs t) (o : Obj) : CBlk (w.alloc o) g cs t := h.keep (below_alloc w o) h.lt
theorem CBlk.other {w : World} {g : Nat} {cs : Array Value} {t : TypeId} (h : CBlk w g cs t) (p : Addr) (v : Value) (hp : g ≠ p.block) : CBlk (w.setCell p v) g cs t := (heap_setCell_other w p g v hp).trans h
theorem info_r4 : (Tryz.prog.info? 31).map (·.size) = some 8 := by kernel_rfl
theorem info_e4 : (Tryz.prog.info? 33).map (·.size) = some 4 := by kernel_rfl
theorem r4_yields {w : World} {g : Nat} {cs : Array Value} (h : CBlk w g cs 31) (hs : cs.size = 8) : (loadVar 31 ⟨g, 0, none⟩).run Tryz.prog w = .ok (.agg cs) w :=
  run_loadVar_row w g _ _ _ _ _ h Tryz.underlying31 rfl (by rw [hs]; exact info_r4)
theorem e4_yields {w : World} {g : Nat} {cs : Array Value} (h : CBlk w g cs 33) (hs : cs.size = 4) : (loadVar 33 ⟨g, 0, none⟩).run Tryz.prog w = .ok (.agg cs) w :=
  run_loadVar_row w g _ _ _ _ _ h Tryz.underlying33 rfl (by rw [hs]; exact info_e4)
theorem results_two {fn : Func} {p q : Tmp} (h : fn.results = #[.cell p 31, .cell q 33]) (tmps : Array Value) (w : World) (g k : Nat) (cs ds : Array Value)
    (hp : tmps.getD p undef = .pointer (some ⟨g, 0, none⟩)) (hq : tmps.getD q undef = .pointer (some ⟨k, 0, none⟩)) (hg : CBlk w g cs 31) (hk : CBlk w k ds 33) (h8 : cs.size = 8) (h4 : ds.size = 4) :
    (results fn tmps).run Tryz.prog w = .ok (.tuple #[.agg cs, .agg ds]) w := by
  have hp' : tmps[p]?.getD undef = .pointer (some ⟨g, 0, none⟩) := by simpa using hp
  have hq' : tmps[q]?.getD undef = .pointer (some ⟨k, 0, none⟩) := by simpa using hq
  simp [results, h, hp', hq', asAddr, r4_yields hg h8, e4_yields hk h4]

set_option maxRecDepth 100000 in
set_option maxHeartbeats 8000000 in
theorem four_walk (s1 s2 s3 s4 x0 y0 x1 y1 x2 y2 x3 y3 : ByteArray) (e0 e1 e2 e3 : Int) (w : World)
    (c0 : ∀ W, Calls Tryz.prog 38 #[.agg #[.string s1, .string s2], .agg #[.string s3, .string s4]] W fun e w' => e = .returned (.tuple #[.agg #[.string x0, .string y0], .int .i64 e0]) ∧ Below W.heap.size W w')
    (c1 : ∀ W, Calls Tryz.prog 40 #[.agg #[.string s1, .string s2], .agg #[.string s3, .string s4]] W fun e w' => e = .returned (.tuple #[.agg #[.string x1, .string y1], .int .i64 e1]) ∧ Below W.heap.size W w')
    (c2 : ∀ W, Calls Tryz.prog 39 #[.agg #[.string s1, .string s2], .agg #[.string s3, .string s4]] W fun e w' => e = .returned (.tuple #[.agg #[.string x2, .string y2], .int .i64 e2]) ∧ Below W.heap.size W w')
    (c3 : ∀ W, Calls Tryz.prog 47 #[.agg #[.string s1, .string s2], .agg #[.string s3, .string s4]] W fun e w' => e = .returned (.tuple #[.agg #[.string x3, .string y3], .int .i64 e3]) ∧ Below W.heap.size W w') :
    Calls Tryz.prog 16 #[.agg #[.string s1, .string s2], .agg #[.string s3, .string s4]] w fun e w' => e = .returned (.tuple #[.agg #[.string x0, .string y0, .string x1, .string y1, .string x2, .string y2, .string x3, .string y3], .agg #[.int .i64 e0, .int .i64 e1, .int .i64 e2, .int .i64 e3]]) ∧ Below w.heap.size w w' := by
  have C0 := Lib.hid c0
  have C1 := Lib.hid c1
  have C2 := Lib.hid c2
  have C3 := Lib.hid c3
  clear c0 c1 c2 c3
  obtain ⟨r1, r2⟩ := two_ratios w (.string s1) (.string s2) (.string s3) (.string s4)
  have A := Lib.hid ((((r1.alloc (.cells #[.string ⟨#[]⟩, .string ⟨#[]⟩, .string ⟨#[]⟩, .string ⟨#[]⟩, .string ⟨#[]⟩, .string ⟨#[]⟩, .string ⟨#[]⟩, .string ⟨#[]⟩] 31)).alloc (.cells #[.int .i64 0, .int .i64 0, .int .i64 0, .int .i64 0] 33)).alloc (.cells #[.string ⟨#[]⟩, .string ⟨#[]⟩, .string ⟨#[]⟩, .string ⟨#[]⟩, .string ⟨#[]⟩, .string ⟨#[]⟩, .string ⟨#[]⟩, .string ⟨#[]⟩] 31)).alloc (.cells #[.int .i64 0, .int .i64 0, .int .i64 0, .int .i64 0] 33))
  have Bb := Lib.hid ((((r2.alloc (.cells #[.string ⟨#[]⟩, .string ⟨#[]⟩, .string ⟨#[]⟩, .string ⟨#[]⟩, .string ⟨#[]⟩, .string ⟨#[]⟩, .string ⟨#[]⟩, .string ⟨#[]⟩] 31)).alloc (.cells #[.int .i64 0, .int .i64 0, .int .i64 0, .int .i64 0] 33)).alloc (.cells #[.string ⟨#[]⟩, .string ⟨#[]⟩, .string ⟨#[]⟩, .string ⟨#[]⟩, .string ⟨#[]⟩, .string ⟨#[]⟩, .string ⟨#[]⟩, .string ⟨#[]⟩] 31)).alloc (.cells #[.int .i64 0, .int .i64 0, .int .i64 0, .int .i64 0] 33))
  have h2 : ((w.alloc (.cells #[.string s1, .string s2] 23)).alloc (.cells #[.string s3, .string s4] 23)).heap.size = w.heap.size + 1 + 1 := by rw [World.size_alloc, World.size_alloc]
  have h3 : (((w.alloc (.cells #[.string s1, .string s2] 23)).alloc (.cells #[.string s3, .string s4] 23)).alloc (.cells #[.string ⟨#[]⟩, .string ⟨#[]⟩, .string ⟨#[]⟩, .string ⟨#[]⟩, .string ⟨#[]⟩, .string ⟨#[]⟩, .string ⟨#[]⟩, .string ⟨#[]⟩] 31)).heap.size = w.heap.size + 1 + 1 + 1 := by rw [World.size_alloc, h2]
  have h4 : ((((w.alloc (.cells #[.string s1, .string s2] 23)).alloc (.cells #[.string s3, .string s4] 23)).alloc (.cells #[.string ⟨#[]⟩, .string ⟨#[]⟩, .string ⟨#[]⟩, .string ⟨#[]⟩, .string ⟨#[]⟩, .string ⟨#[]⟩, .string ⟨#[]⟩, .string ⟨#[]⟩] 31)).alloc (.cells #[.int .i64 0, .int .i64 0, .int .i64 0, .int .i64 0] 33)).heap.size = w.heap.size + 1 + 1 + 1 + 1 := by rw [World.size_alloc, h3]
  have h5 : (((((w.alloc (.cells #[.string s1, .string s2] 23)).alloc (.cells #[.string s3, .string s4] 23)).alloc (.cells #[.string ⟨#[]⟩, .string ⟨#[]⟩, .string ⟨#[]⟩, .string ⟨#[]⟩, .string ⟨#[]⟩, .string ⟨#[]⟩, .string ⟨#[]⟩, .string ⟨#[]⟩] 31)).alloc (.cells #[.int .i64 0, .int .i64 0, .int .i64 0, .int .i64 0] 33)).alloc (.cells #[.string ⟨#[]⟩, .string ⟨#[]⟩, .string ⟨#[]⟩, .string ⟨#[]⟩, .string ⟨#[]⟩, .string ⟨#[]⟩, .string ⟨#[]⟩, .string ⟨#[]⟩] 31)).heap.size = w.heap.size + 1 + 1 + 1 + 1 + 1 := by rw [World.size_alloc, h4]
  have RR := Lib.hid (show CBlk ((((((w.alloc (.cells #[.string s1, .string s2] 23)).alloc (.cells #[.string s3, .string s4] 23)).alloc (.cells #[.string ⟨#[]⟩, .string ⟨#[]⟩, .string ⟨#[]⟩, .string ⟨#[]⟩, .string ⟨#[]⟩, .string ⟨#[]⟩, .string ⟨#[]⟩, .string ⟨#[]⟩] 31)).alloc (.cells #[.int .i64 0, .int .i64 0, .int .i64 0, .int .i64 0] 33)).alloc (.cells #[.string ⟨#[]⟩, .string ⟨#[]⟩, .string ⟨#[]⟩, .string ⟨#[]⟩, .string ⟨#[]⟩, .string ⟨#[]⟩, .string ⟨#[]⟩, .string ⟨#[]⟩] 31)).alloc (.cells #[.int .i64 0, .int .i64 0, .int .i64 0, .int .i64 0] 33)) (w.heap.size + 1 + 1) #[.string ⟨#[]⟩, .string ⟨#[]⟩, .string ⟨#[]⟩, .string ⟨#[]⟩, .string ⟨#[]⟩, .string ⟨#[]⟩, .string ⟨#[]⟩, .string ⟨#[]⟩] 31 from (((h2 ▸ CBlk.new ((w.alloc (.cells #[.string s1, .string s2] 23)).alloc (.cells #[.string s3, .string s4] 23)) #[.string ⟨#[]⟩, .string ⟨#[]⟩, .string ⟨#[]⟩, .string ⟨#[]⟩, .string ⟨#[]⟩, .string ⟨#[]⟩, .string ⟨#[]⟩, .string ⟨#[]⟩] 31 : CBlk (((w.alloc (.cells #[.string s1, .string s2] 23)).alloc (.cells #[.string s3, .string s4] 23)).alloc (.cells #[.string ⟨#[]⟩, .string ⟨#[]⟩, .string ⟨#[]⟩, .string ⟨#[]⟩, .string ⟨#[]⟩, .string ⟨#[]⟩, .string ⟨#[]⟩, .string ⟨#[]⟩] 31)) (w.heap.size + 1 + 1) #[.string ⟨#[]⟩, .string ⟨#[]⟩, .string ⟨#[]⟩, .string ⟨#[]⟩, .string ⟨#[]⟩, .string ⟨#[]⟩, .string ⟨#[]⟩, .string ⟨#[]⟩] 31).alloc _).alloc _).alloc _)
  have RE := Lib.hid (show CBlk ((((((w.alloc (.cells #[.string s1, .string s2] 23)).alloc (.cells #[.string s3, .string s4] 23)).alloc (.cells #[.string ⟨#[]⟩, .string ⟨#[]⟩, .string ⟨#[]⟩, .string ⟨#[]⟩, .string ⟨#[]⟩, .string ⟨#[]⟩, .string ⟨#[]⟩, .string ⟨#[]⟩] 31)).alloc (.cells #[.int .i64 0, .int .i64 0, .int .i64 0, .int .i64 0] 33)).alloc (.cells #[.string ⟨#[]⟩, .string ⟨#[]⟩, .string ⟨#[]⟩, .string ⟨#[]⟩, .string ⟨#[]⟩, .string ⟨#[]⟩, .string ⟨#[]⟩, .string ⟨#[]⟩] 31)).alloc (.cells #[.int .i64 0, .int .i64 0, .int .i64 0, .int .i64 0] 33)) (w.heap.size + 1 + 1 + 1) #[.int .i64 0, .int .i64 0, .int .i64 0, .int .i64 0] 33 from ((h3 ▸ CBlk.new (((w.alloc (.cells #[.string s1, .string s2] 23)).alloc (.cells #[.string s3, .string s4] 23)).alloc (.cells #[.string ⟨#[]⟩, .string ⟨#[]⟩, .string ⟨#[]⟩, .string ⟨#[]⟩, .string ⟨#[]⟩, .string ⟨#[]⟩, .string ⟨#[]⟩, .string ⟨#[]⟩] 31)) #[.int .i64 0, .int .i64 0, .int .i64 0, .int .i64 0] 33 : CBlk ((((w.alloc (.cells #[.string s1, .string s2] 23)).alloc (.cells #[.string s3, .string s4] 23)).alloc (.cells #[.string ⟨#[]⟩, .string ⟨#[]⟩, .string ⟨#[]⟩, .string ⟨#[]⟩, .string ⟨#[]⟩, .string ⟨#[]⟩, .string ⟨#[]⟩, .string ⟨#[]⟩] 31)).alloc (.cells #[.int .i64 0, .int .i64 0, .int .i64 0, .int .i64 0] 33)) (w.heap.size + 1 + 1 + 1) #[.int .i64 0, .int .i64 0, .int .i64 0, .int .i64 0] 33).alloc _).alloc _)
  have VR := Lib.hid (show CBlk ((((((w.alloc (.cells #[.string s1, .string s2] 23)).alloc (.cells #[.string s3, .string s4] 23)).alloc (.cells #[.string ⟨#[]⟩, .string ⟨#[]⟩, .string ⟨#[]⟩, .string ⟨#[]⟩, .string ⟨#[]⟩, .string ⟨#[]⟩, .string ⟨#[]⟩, .string ⟨#[]⟩] 31)).alloc (.cells #[.int .i64 0, .int .i64 0, .int .i64 0, .int .i64 0] 33)).alloc (.cells #[.string ⟨#[]⟩, .string ⟨#[]⟩, .string ⟨#[]⟩, .string ⟨#[]⟩, .string ⟨#[]⟩, .string ⟨#[]⟩, .string ⟨#[]⟩, .string ⟨#[]⟩] 31)).alloc (.cells #[.int .i64 0, .int .i64 0, .int .i64 0, .int .i64 0] 33)) (w.heap.size + 1 + 1 + 1 + 1) #[.string ⟨#[]⟩, .string ⟨#[]⟩, .string ⟨#[]⟩, .string ⟨#[]⟩, .string ⟨#[]⟩, .string ⟨#[]⟩, .string ⟨#[]⟩, .string ⟨#[]⟩] 31 from (h4 ▸ CBlk.new ((((w.alloc (.cells #[.string s1, .string s2] 23)).alloc (.cells #[.string s3, .string s4] 23)).alloc (.cells #[.string ⟨#[]⟩, .string ⟨#[]⟩, .string ⟨#[]⟩, .string ⟨#[]⟩, .string ⟨#[]⟩, .string ⟨#[]⟩, .string ⟨#[]⟩, .string ⟨#[]⟩] 31)).alloc (.cells #[.int .i64 0, .int .i64 0, .int .i64 0, .int .i64 0] 33)) #[.string ⟨#[]⟩, .string ⟨#[]⟩, .string ⟨#[]⟩, .string ⟨#[]⟩, .string ⟨#[]⟩, .string ⟨#[]⟩, .string ⟨#[]⟩, .string ⟨#[]⟩] 31 : CBlk (((((w.alloc (.cells #[.string s1, .string s2] 23)).alloc (.cells #[.string s3, .string s4] 23)).alloc (.cells #[.string ⟨#[]⟩, .string ⟨#[]⟩, .string ⟨#[]⟩, .string ⟨#[]⟩, .string ⟨#[]⟩, .string ⟨#[]⟩, .string ⟨#[]⟩, .string ⟨#[]⟩] 31)).alloc (.cells #[.int .i64 0, .int .i64 0, .int .i64 0, .int .i64 0] 33)).alloc (.cells #[.string ⟨#[]⟩, .string ⟨#[]⟩, .string ⟨#[]⟩, .string ⟨#[]⟩, .string ⟨#[]⟩, .string ⟨#[]⟩, .string ⟨#[]⟩, .string ⟨#[]⟩] 31)) (w.heap.size + 1 + 1 + 1 + 1) #[.string ⟨#[]⟩, .string ⟨#[]⟩, .string ⟨#[]⟩, .string ⟨#[]⟩, .string ⟨#[]⟩, .string ⟨#[]⟩, .string ⟨#[]⟩, .string ⟨#[]⟩] 31).alloc _)
  have VE := Lib.hid (show CBlk ((((((w.alloc (.cells #[.string s1, .string s2] 23)).alloc (.cells #[.string s3, .string s4] 23)).alloc (.cells #[.string ⟨#[]⟩, .string ⟨#[]⟩, .string ⟨#[]⟩, .string ⟨#[]⟩, .string ⟨#[]⟩, .string ⟨#[]⟩, .string ⟨#[]⟩, .string ⟨#[]⟩] 31)).alloc (.cells #[.int .i64 0, .int .i64 0, .int .i64 0, .int .i64 0] 33)).alloc (.cells #[.string ⟨#[]⟩, .string ⟨#[]⟩, .string ⟨#[]⟩, .string ⟨#[]⟩, .string ⟨#[]⟩, .string ⟨#[]⟩, .string ⟨#[]⟩, .string ⟨#[]⟩] 31)).alloc (.cells #[.int .i64 0, .int .i64 0, .int .i64 0, .int .i64 0] 33)) (w.heap.size + 1 + 1 + 1 + 1 + 1) #[.int .i64 0, .int .i64 0, .int .i64 0, .int .i64 0] 33 from (h5 ▸ CBlk.new (((((w.alloc (.cells #[.string s1, .string s2] 23)).alloc (.cells #[.string s3, .string s4] 23)).alloc (.cells #[.string ⟨#[]⟩, .string ⟨#[]⟩, .string ⟨#[]⟩, .string ⟨#[]⟩, .string ⟨#[]⟩, .string ⟨#[]⟩, .string ⟨#[]⟩, .string ⟨#[]⟩] 31)).alloc (.cells #[.int .i64 0, .int .i64 0, .int .i64 0, .int .i64 0] 33)).alloc (.cells #[.string ⟨#[]⟩, .string ⟨#[]⟩, .string ⟨#[]⟩, .string ⟨#[]⟩, .string ⟨#[]⟩, .string ⟨#[]⟩, .string ⟨#[]⟩, .string ⟨#[]⟩] 31)) #[.int .i64 0, .int .i64 0, .int .i64 0, .int .i64 0] 33 : CBlk ((((((w.alloc (.cells #[.string s1, .string s2] 23)).alloc (.cells #[.string s3, .string s4] 23)).alloc (.cells #[.string ⟨#[]⟩, .string ⟨#[]⟩, .string ⟨#[]⟩, .string ⟨#[]⟩, .string ⟨#[]⟩, .string ⟨#[]⟩, .string ⟨#[]⟩, .string ⟨#[]⟩] 31)).alloc (.cells #[.int .i64 0, .int .i64 0, .int .i64 0, .int .i64 0] 33)).alloc (.cells #[.string ⟨#[]⟩, .string ⟨#[]⟩, .string ⟨#[]⟩, .string ⟨#[]⟩, .string ⟨#[]⟩, .string ⟨#[]⟩, .string ⟨#[]⟩, .string ⟨#[]⟩] 31)).alloc (.cells #[.int .i64 0, .int .i64 0, .int .i64 0, .int .i64 0] 33)) (w.heap.size + 1 + 1 + 1 + 1 + 1) #[.int .i64 0, .int .i64 0, .int .i64 0, .int .i64 0] 33))
  have HB := Lib.hid ((((((below_alloc w (.cells #[.string s1, .string s2] 23)).alloc (by rw [World.size_alloc]; omega) (.cells #[.string s3, .string s4] 23)).alloc (by rw [h2]; omega) (.cells #[.string ⟨#[]⟩, .string ⟨#[]⟩, .string ⟨#[]⟩, .string ⟨#[]⟩, .string ⟨#[]⟩, .string ⟨#[]⟩, .string ⟨#[]⟩, .string ⟨#[]⟩] 31)).alloc (by rw [h3]; omega) (.cells #[.int .i64 0, .int .i64 0, .int .i64 0, .int .i64 0] 33)).alloc (by rw [h4]; omega) (.cells #[.string ⟨#[]⟩, .string ⟨#[]⟩, .string ⟨#[]⟩, .string ⟨#[]⟩, .string ⟨#[]⟩, .string ⟨#[]⟩, .string ⟨#[]⟩, .string ⟨#[]⟩] 31)).alloc (by rw [h5]; omega) (.cells #[.int .i64 0, .int .i64 0, .int .i64 0, .int .i64 0] 33))
  clear r1 r2 h2 h3 h4 h5
  have Ac0 := A.out.c0
  have Ac1 := A.out.c1
  have Bc0 := Bb.out.c0
  have Bc1 := Bb.out.c1
  go_enter Tryz.func16, Tryz.ntmps16
  go_wp2_with fail
  go_at_call 38
  refine (C0.out _).mono ?_
  rintro e W0 ⟨rfl, B⟩
  clear Ac0 Ac1 Bc0 Bc1
  have An := Lib.hid (A.out.keep B A.out.lt)
  have Bbn := Lib.hid (Bb.out.keep B Bb.out.lt)
  have RRn := Lib.hid (RR.out.keep B RR.out.lt)
  have REn := Lib.hid (RE.out.keep B RE.out.lt)
  have VRn := Lib.hid (VR.out.keep B VR.out.lt)
  have VEn := Lib.hid (VE.out.keep B VE.out.lt)
  have HBn := Lib.hid (HB.out.trans (B.mono HB.out.size))
  clear A Bb RR RE VR VE HB B
  have A := An
  have Bb := Bbn
  have RR := RRn
  have RE := REn
  have VR := VRn
  have VE := VEn
  have HB := HBn
  clear An Bbn RRn REn VRn VEn HBn
  have pc0 : (W0).cell? ⟨w.heap.size + 1 + 1 + 1 + 1, 0, none⟩ = some (.string ⟨#[]⟩) := (VR.out).c 0 rfl
  have pf0 := (VR.out).f 0
  have pb1 : (W0).cell? ⟨w.heap.size + 1 + 1 + 1 + 1, 1, none⟩ = some (.string ⟨#[]⟩) := (VR.out).c 1 rfl
  have pg1 := (VR.out).f 1
  have pc1 : (((W0).setCell ⟨w.heap.size + 1 + 1 + 1 + 1, 0, none⟩ (.string x0))).cell? ⟨w.heap.size + 1 + 1 + 1 + 1, 1, none⟩ = some (.string ⟨#[]⟩) := ((VR.out).set 0 (.string x0)).c 1 rfl
  have pf1 := ((VR.out).set 0 (.string x0)).f 1
  have VRn : Hid (CBlk ((((W0).setCell ⟨w.heap.size + 1 + 1 + 1 + 1, 0, none⟩ (.string x0))).setCell ⟨w.heap.size + 1 + 1 + 1 + 1, 1, none⟩ (.string y0)) (w.heap.size + 1 + 1 + 1 + 1) #[.string x0, .string y0, .string ⟨#[]⟩, .string ⟨#[]⟩, .string ⟨#[]⟩, .string ⟨#[]⟩, .string ⟨#[]⟩, .string ⟨#[]⟩] 31) := Lib.hid (((VR.out).set 0 (.string x0)).set 1 (.string y0))
  have An := Lib.hid ((A.out.other ⟨w.heap.size + 1 + 1 + 1 + 1, 0, none⟩ (.string x0) (by show w.heap.size ≠ w.heap.size + 1 + 1 + 1 + 1; omega)).other ⟨w.heap.size + 1 + 1 + 1 + 1, 1, none⟩ (.string y0) (by show w.heap.size ≠ w.heap.size + 1 + 1 + 1 + 1; omega))
  have Bbn := Lib.hid ((Bb.out.other ⟨w.heap.size + 1 + 1 + 1 + 1, 0, none⟩ (.string x0) (by show w.heap.size + 1 ≠ w.heap.size + 1 + 1 + 1 + 1; omega)).other ⟨w.heap.size + 1 + 1 + 1 + 1, 1, none⟩ (.string y0) (by show w.heap.size + 1 ≠ w.heap.size + 1 + 1 + 1 + 1; omega))
  have RRn := Lib.hid ((RR.out.other ⟨w.heap.size + 1 + 1 + 1 + 1, 0, none⟩ (.string x0) (by show w.heap.size + 1 + 1 ≠ w.heap.size + 1 + 1 + 1 + 1; omega)).other ⟨w.heap.size + 1 + 1 + 1 + 1, 1, none⟩ (.string y0) (by show w.heap.size + 1 + 1 ≠ w.heap.size + 1 + 1 + 1 + 1; omega))
  have REn := Lib.hid ((RE.out.other ⟨w.heap.size + 1 + 1 + 1 + 1, 0, none⟩ (.string x0) (by show w.heap.size + 1 + 1 + 1 ≠ w.heap.size + 1 + 1 + 1 + 1; omega)).other ⟨w.heap.size + 1 + 1 + 1 + 1, 1, none⟩ (.string y0) (by show w.heap.size + 1 + 1 + 1 ≠ w.heap.size + 1 + 1 + 1 + 1; omega))
  have VEn := Lib.hid ((VE.out.other ⟨w.heap.size + 1 + 1 + 1 + 1, 0, none⟩ (.string x0) (by show w.heap.size + 1 + 1 + 1 + 1 + 1 ≠ w.heap.size + 1 + 1 + 1 + 1; omega)).other ⟨w.heap.size + 1 + 1 + 1 + 1, 1, none⟩ (.string y0) (by show w.heap.size + 1 + 1 + 1 + 1 + 1 ≠ w.heap.size + 1 + 1 + 1 + 1; omega))
  have HBn := Lib.hid ((HB.out.setCell (p := ⟨w.heap.size + 1 + 1 + 1 + 1, 0, none⟩) (by show w.heap.size ≤ w.heap.size + 1 + 1 + 1 + 1; omega) (.string x0)).setCell (p := ⟨w.heap.size + 1 + 1 + 1 + 1, 1, none⟩) (by show w.heap.size ≤ w.heap.size + 1 + 1 + 1 + 1; omega) (.string y0))
  clear A Bb RR RE VR VE HB
  have A := An
  have Bb := Bbn
  have RR := RRn
  have RE := REn
  have VR := VRn
  have VE := VEn
  have HB := HBn
  clear An Bbn RRn REn VRn VEn HBn
  have qc0 : (((((W0).setCell ⟨w.heap.size + 1 + 1 + 1 + 1, 0, none⟩ (.string x0))).setCell ⟨w.heap.size + 1 + 1 + 1 + 1, 1, none⟩ (.string y0))).cell? ⟨w.heap.size + 1 + 1 + 1 + 1 + 1, 0, none⟩ = some (.int .i64 0) := (VE.out).c 0 rfl
  have qf0 := (VE.out).f 0
  have VEn : Hid (CBlk ((((((W0).setCell ⟨w.heap.size + 1 + 1 + 1 + 1, 0, none⟩ (.string x0))).setCell ⟨w.heap.size + 1 + 1 + 1 + 1, 1, none⟩ (.string y0))).setCell ⟨w.heap.size + 1 + 1 + 1 + 1 + 1, 0, none⟩ (.int .i64 e0)) (w.heap.size + 1 + 1 + 1 + 1 + 1) #[.int .i64 e0, .int .i64 0, .int .i64 0, .int .i64 0] 33) := Lib.hid ((VE.out).set 0 (.int .i64 e0))
  have An := Lib.hid (A.out.other ⟨w.heap.size + 1 + 1 + 1 + 1 + 1, 0, none⟩ (.int .i64 e0) (by show w.heap.size ≠ w.heap.size + 1 + 1 + 1 + 1 + 1; omega))
  have Bbn := Lib.hid (Bb.out.other ⟨w.heap.size + 1 + 1 + 1 + 1 + 1, 0, none⟩ (.int .i64 e0) (by show w.heap.size + 1 ≠ w.heap.size + 1 + 1 + 1 + 1 + 1; omega))
  have RRn := Lib.hid (RR.out.other ⟨w.heap.size + 1 + 1 + 1 + 1 + 1, 0, none⟩ (.int .i64 e0) (by show w.heap.size + 1 + 1 ≠ w.heap.size + 1 + 1 + 1 + 1 + 1; omega))
  have REn := Lib.hid (RE.out.other ⟨w.heap.size + 1 + 1 + 1 + 1 + 1, 0, none⟩ (.int .i64 e0) (by show w.heap.size + 1 + 1 + 1 ≠ w.heap.size + 1 + 1 + 1 + 1 + 1; omega))
  have VRn := Lib.hid (VR.out.other ⟨w.heap.size + 1 + 1 + 1 + 1 + 1, 0, none⟩ (.int .i64 e0) (by show w.heap.size + 1 + 1 + 1 + 1 ≠ w.heap.size + 1 + 1 + 1 + 1 + 1; omega))
  have HBn := Lib.hid (HB.out.setCell (p := ⟨w.heap.size + 1 + 1 + 1 + 1 + 1, 0, none⟩) (by show w.heap.size ≤ w.heap.size + 1 + 1 + 1 + 1 + 1; omega) (.int .i64 e0))
  clear A Bb RR RE VR VE HB
  have A := An
  have Bb := Bbn
  have RR := RRn
  have RE := REn
  have VR := VRn
  have VE := VEn
  have HB := HBn
  clear An Bbn RRn REn VRn VEn HBn
  have Ac0 := A.out.c0
  have Ac1 := A.out.c1
  have Bc0 := Bb.out.c0
  have Bc1 := Bb.out.c1
  go_wp2_with fail
  clear pc0 pf0 pb1 pg1 pc1 pf1 qc0 qf0
  go_at_call 40
  refine (C1.out _).mono ?_
  rintro e W1 ⟨rfl, B⟩
  clear Ac0 Ac1 Bc0 Bc1
  have An := Lib.hid (A.out.keep B A.out.lt)
  have Bbn := Lib.hid (Bb.out.keep B Bb.out.lt)
  have RRn := Lib.hid (RR.out.keep B RR.out.lt)
  have REn := Lib.hid (RE.out.keep B RE.out.lt)
  have VRn := Lib.hid (VR.out.keep B VR.out.lt)
  have VEn := Lib.hid (VE.out.keep B VE.out.lt)
  have HBn := Lib.hid (HB.out.trans (B.mono HB.out.size))
  clear A Bb RR RE VR VE HB B
  have A := An
  have Bb := Bbn
  have RR := RRn
  have RE := REn
  have VR := VRn
  have VE := VEn
  have HB := HBn
  clear An Bbn RRn REn VRn VEn HBn
  have pc0 : (W1).cell? ⟨w.heap.size + 1 + 1 + 1 + 1, 2, none⟩ = some (.string ⟨#[]⟩) := (VR.out).c 2 rfl
  have pf0 := (VR.out).f 2
  have pb1 : (W1).cell? ⟨w.heap.size + 1 + 1 + 1 + 1, 3, none⟩ = some (.string ⟨#[]⟩) := (VR.out).c 3 rfl
  have pg1 := (VR.out).f 3
  have pc1 : (((W1).setCell ⟨w.heap.size + 1 + 1 + 1 + 1, 2, none⟩ (.string x1))).cell? ⟨w.heap.size + 1 + 1 + 1 + 1, 3, none⟩ = some (.string ⟨#[]⟩) := ((VR.out).set 2 (.string x1)).c 3 rfl
  have pf1 := ((VR.out).set 2 (.string x1)).f 3
  have VRn : Hid (CBlk ((((W1).setCell ⟨w.heap.size + 1 + 1 + 1 + 1, 2, none⟩ (.string x1))).setCell ⟨w.heap.size + 1 + 1 + 1 + 1, 3, none⟩ (.string y1)) (w.heap.size + 1 + 1 + 1 + 1) #[.string x0, .string y0, .string x1, .string y1, .string ⟨#[]⟩, .string ⟨#[]⟩, .string ⟨#[]⟩, .string ⟨#[]⟩] 31) := Lib.hid (((VR.out).set 2 (.string x1)).set 3 (.string y1))
  have An := Lib.hid ((A.out.other ⟨w.heap.size + 1 + 1 + 1 + 1, 2, none⟩ (.string x1) (by show w.heap.size ≠ w.heap.size + 1 + 1 + 1 + 1; omega)).other ⟨w.heap.size + 1 + 1 + 1 + 1, 3, none⟩ (.string y1) (by show w.heap.size ≠ w.heap.size + 1 + 1 + 1 + 1; omega))
  have Bbn := Lib.hid ((Bb.out.other ⟨w.heap.size + 1 + 1 + 1 + 1, 2, none⟩ (.string x1) (by show w.heap.size + 1 ≠ w.heap.size + 1 + 1 + 1 + 1; omega)).other ⟨w.heap.size + 1 + 1 + 1 + 1, 3, none⟩ (.string y1) (by show w.heap.size + 1 ≠ w.heap.size + 1 + 1 + 1 + 1; omega))
  have RRn := Lib.hid ((RR.out.other ⟨w.heap.size + 1 + 1 + 1 + 1, 2, none⟩ (.string x1) (by show w.heap.size + 1 + 1 ≠ w.heap.size + 1 + 1 + 1 + 1; omega)).other ⟨w.heap.size + 1 + 1 + 1 + 1, 3, none⟩ (.string y1) (by show w.heap.size + 1 + 1 ≠ w.heap.size + 1 + 1 + 1 + 1; omega))
  have REn := Lib.hid ((RE.out.other ⟨w.heap.size + 1 + 1 + 1 + 1, 2, none⟩ (.string x1) (by show w.heap.size + 1 + 1 + 1 ≠ w.heap.size + 1 + 1 + 1 + 1; omega)).other ⟨w.heap.size + 1 + 1 + 1 + 1, 3, none⟩ (.string y1) (by show w.heap.size + 1 + 1 + 1 ≠ w.heap.size + 1 + 1 + 1 + 1; omega))
  have VEn := Lib.hid ((VE.out.other ⟨w.heap.size + 1 + 1 + 1 + 1, 2, none⟩ (.string x1) (by show w.heap.size + 1 + 1 + 1 + 1 + 1 ≠ w.heap.size + 1 + 1 + 1 + 1; omega)).other ⟨w.heap.size + 1 + 1 + 1 + 1, 3, none⟩ (.string y1) (by show w.heap.size + 1 + 1 + 1 + 1 + 1 ≠ w.heap.size + 1 + 1 + 1 + 1; omega))
  have HBn := Lib.hid ((HB.out.setCell (p := ⟨w.heap.size + 1 + 1 + 1 + 1, 2, none⟩) (by show w.heap.size ≤ w.heap.size + 1 + 1 + 1 + 1; omega) (.string x1)).setCell (p := ⟨w.heap.size + 1 + 1 + 1 + 1, 3, none⟩) (by show w.heap.size ≤ w.heap.size + 1 + 1 + 1 + 1; omega) (.string y1))
  clear A Bb RR RE VR VE HB
  have A := An
  have Bb := Bbn
  have RR := RRn
  have RE := REn
  have VR := VRn
  have VE := VEn
  have HB := HBn
  clear An Bbn RRn REn VRn VEn HBn
  have qc0 : (((((W1).setCell ⟨w.heap.size + 1 + 1 + 1 + 1, 2, none⟩ (.string x1))).setCell ⟨w.heap.size + 1 + 1 + 1 + 1, 3, none⟩ (.string y1))).cell? ⟨w.heap.size + 1 + 1 + 1 + 1 + 1, 1, none⟩ = some (.int .i64 0) := (VE.out).c 1 rfl
  have qf0 := (VE.out).f 1
  have VEn : Hid (CBlk ((((((W1).setCell ⟨w.heap.size + 1 + 1 + 1 + 1, 2, none⟩ (.string x1))).setCell ⟨w.heap.size + 1 + 1 + 1 + 1, 3, none⟩ (.string y1))).setCell ⟨w.heap.size + 1 + 1 + 1 + 1 + 1, 1, none⟩ (.int .i64 e1)) (w.heap.size + 1 + 1 + 1 + 1 + 1) #[.int .i64 e0, .int .i64 e1, .int .i64 0, .int .i64 0] 33) := Lib.hid ((VE.out).set 1 (.int .i64 e1))
  have An := Lib.hid (A.out.other ⟨w.heap.size + 1 + 1 + 1 + 1 + 1, 1, none⟩ (.int .i64 e1) (by show w.heap.size ≠ w.heap.size + 1 + 1 + 1 + 1 + 1; omega))
  have Bbn := Lib.hid (Bb.out.other ⟨w.heap.size + 1 + 1 + 1 + 1 + 1, 1, none⟩ (.int .i64 e1) (by show w.heap.size + 1 ≠ w.heap.size + 1 + 1 + 1 + 1 + 1; omega))
  have RRn := Lib.hid (RR.out.other ⟨w.heap.size + 1 + 1 + 1 + 1 + 1, 1, none⟩ (.int .i64 e1) (by show w.heap.size + 1 + 1 ≠ w.heap.size + 1 + 1 + 1 + 1 + 1; omega))
  have REn := Lib.hid (RE.out.other ⟨w.heap.size + 1 + 1 + 1 + 1 + 1, 1, none⟩ (.int .i64 e1) (by show w.heap.size + 1 + 1 + 1 ≠ w.heap.size + 1 + 1 + 1 + 1 + 1; omega))
  have VRn := Lib.hid (VR.out.other ⟨w.heap.size + 1 + 1 + 1 + 1 + 1, 1, none⟩ (.int .i64 e1) (by show w.heap.size + 1 + 1 + 1 + 1 ≠ w.heap.size + 1 + 1 + 1 + 1 + 1; omega))
  have HBn := Lib.hid (HB.out.setCell (p := ⟨w.heap.size + 1 + 1 + 1 + 1 + 1, 1, none⟩) (by show w.heap.size ≤ w.heap.size + 1 + 1 + 1 + 1 + 1; omega) (.int .i64 e1))
  clear A Bb RR RE VR VE HB
  have A := An
  have Bb := Bbn
  have RR := RRn
  have RE := REn
  have VR := VRn
  have VE := VEn
  have HB := HBn
  clear An Bbn RRn REn VRn VEn HBn
  have Ac0 := A.out.c0
  have Ac1 := A.out.c1
  have Bc0 := Bb.out.c0
  have Bc1 := Bb.out.c1
  go_wp2_with fail
  clear pc0 pf0 pb1 pg1 pc1 pf1 qc0 qf0
  go_at_call 39
  refine (C2.out _).mono ?_
  rintro e W2 ⟨rfl, B⟩
  clear Ac0 Ac1 Bc0 Bc1
  have An := Lib.hid (A.out.keep B A.out.lt)
  have Bbn := Lib.hid (Bb.out.keep B Bb.out.lt)
  have RRn := Lib.hid (RR.out.keep B RR.out.lt)
  have REn := Lib.hid (RE.out.keep B RE.out.lt)
  have VRn := Lib.hid (VR.out.keep B VR.out.lt)
  have VEn := Lib.hid (VE.out.keep B VE.out.lt)
  have HBn := Lib.hid (HB.out.trans (B.mono HB.out.size))
  clear A Bb RR RE VR VE HB B
  have A := An
  have Bb := Bbn
  have RR := RRn
  have RE := REn
  have VR := VRn
  have VE := VEn
  have HB := HBn
  clear An Bbn RRn REn VRn VEn HBn
  have pc0 : (W2).cell? ⟨w.heap.size + 1 + 1 + 1 + 1, 4, none⟩ = some (.string ⟨#[]⟩) := (VR.out).c 4 rfl
  have pf0 := (VR.out).f 4
  have pb1 : (W2).cell? ⟨w.heap.size + 1 + 1 + 1 + 1, 5, none⟩ = some (.string ⟨#[]⟩) := (VR.out).c 5 rfl
  have pg1 := (VR.out).f 5
  have pc1 : (((W2).setCell ⟨w.heap.size + 1 + 1 + 1 + 1, 4, none⟩ (.string x2))).cell? ⟨w.heap.size + 1 + 1 + 1 + 1, 5, none⟩ = some (.string ⟨#[]⟩) := ((VR.out).set 4 (.string x2)).c 5 rfl
  have pf1 := ((VR.out).set 4 (.string x2)).f 5
  have VRn : Hid (CBlk ((((W2).setCell ⟨w.heap.size + 1 + 1 + 1 + 1, 4, none⟩ (.string x2))).setCell ⟨w.heap.size + 1 + 1 + 1 + 1, 5, none⟩ (.string y2)) (w.heap.size + 1 + 1 + 1 + 1) #[.string x0, .string y0, .string x1, .string y1, .string x2, .string y2, .string ⟨#[]⟩, .string ⟨#[]⟩] 31) := Lib.hid (((VR.out).set 4 (.string x2)).set 5 (.string y2))
  have An := Lib.hid ((A.out.other ⟨w.heap.size + 1 + 1 + 1 + 1, 4, none⟩ (.string x2) (by show w.heap.size ≠ w.heap.size + 1 + 1 + 1 + 1; omega)).other ⟨w.heap.size + 1 + 1 + 1 + 1, 5, none⟩ (.string y2) (by show w.heap.size ≠ w.heap.size + 1 + 1 + 1 + 1; omega))
  have Bbn := Lib.hid ((Bb.out.other ⟨w.heap.size + 1 + 1 + 1 + 1, 4, none⟩ (.string x2) (by show w.heap.size + 1 ≠ w.heap.size + 1 + 1 + 1 + 1; omega)).other ⟨w.heap.size + 1 + 1 + 1 + 1, 5, none⟩ (.string y2) (by show w.heap.size + 1 ≠ w.heap.size + 1 + 1 + 1 + 1; omega))
  have RRn := Lib.hid ((RR.out.other ⟨w.heap.size + 1 + 1 + 1 + 1, 4, none⟩ (.string x2) (by show w.heap.size + 1 + 1 ≠ w.heap.size + 1 + 1 + 1 + 1; omega)).other ⟨w.heap.size + 1 + 1 + 1 + 1, 5, none⟩ (.string y2) (by show w.heap.size + 1 + 1 ≠ w.heap.size + 1 + 1 + 1 + 1; omega))
  have REn := Lib.hid ((RE.out.other ⟨w.heap.size + 1 + 1 + 1 + 1, 4, none⟩ (.string x2) (by show w.heap.size + 1 + 1 + 1 ≠ w.heap.size + 1 + 1 + 1 + 1; omega)).other ⟨w.heap.size + 1 + 1 + 1 + 1, 5, none⟩ (.string y2) (by show w.heap.size + 1 + 1 + 1 ≠ w.heap.size + 1 + 1 + 1 + 1; omega))
  have VEn := Lib.hid ((VE.out.other ⟨w.heap.size + 1 + 1 + 1 + 1, 4, none⟩ (.string x2) (by show w.heap.size + 1 + 1 + 1 + 1 + 1 ≠ w.heap.size + 1 + 1 + 1 + 1; omega)).other ⟨w.heap.size + 1 + 1 + 1 + 1, 5, none⟩ (.string y2) (by show w.heap.size + 1 + 1 + 1 + 1 + 1 ≠ w.heap.size + 1 + 1 + 1 + 1; omega))
  have HBn := Lib.hid ((HB.out.setCell (p := ⟨w.heap.size + 1 + 1 + 1 + 1, 4, none⟩) (by show w.heap.size ≤ w.heap.size + 1 + 1 + 1 + 1; omega) (.string x2)).setCell (p := ⟨w.heap.size + 1 + 1 + 1 + 1, 5, none⟩) (by show w.heap.size ≤ w.heap.size + 1 + 1 + 1 + 1; omega) (.string y2))
  clear A Bb RR RE VR VE HB
  have A := An
  have Bb := Bbn
  have RR := RRn
  have RE := REn
  have VR := VRn
  have VE := VEn
  have HB := HBn
  clear An Bbn RRn REn VRn VEn HBn
  have qc0 : (((((W2).setCell ⟨w.heap.size + 1 + 1 + 1 + 1, 4, none⟩ (.string x2))).setCell ⟨w.heap.size + 1 + 1 + 1 + 1, 5, none⟩ (.string y2))).cell? ⟨w.heap.size + 1 + 1 + 1 + 1 + 1, 2, none⟩ = some (.int .i64 0) := (VE.out).c 2 rfl
  have qf0 := (VE.out).f 2
  have VEn : Hid (CBlk ((((((W2).setCell ⟨w.heap.size + 1 + 1 + 1 + 1, 4, none⟩ (.string x2))).setCell ⟨w.heap.size + 1 + 1 + 1 + 1, 5, none⟩ (.string y2))).setCell ⟨w.heap.size + 1 + 1 + 1 + 1 + 1, 2, none⟩ (.int .i64 e2)) (w.heap.size + 1 + 1 + 1 + 1 + 1) #[.int .i64 e0, .int .i64 e1, .int .i64 e2, .int .i64 0] 33) := Lib.hid ((VE.out).set 2 (.int .i64 e2))
  have An := Lib.hid (A.out.other ⟨w.heap.size + 1 + 1 + 1 + 1 + 1, 2, none⟩ (.int .i64 e2) (by show w.heap.size ≠ w.heap.size + 1 + 1 + 1 + 1 + 1; omega))
  have Bbn := Lib.hid (Bb.out.other ⟨w.heap.size + 1 + 1 + 1 + 1 + 1, 2, none⟩ (.int .i64 e2) (by show w.heap.size + 1 ≠ w.heap.size + 1 + 1 + 1 + 1 + 1; omega))
  have RRn := Lib.hid (RR.out.other ⟨w.heap.size + 1 + 1 + 1 + 1 + 1, 2, none⟩ (.int .i64 e2) (by show w.heap.size + 1 + 1 ≠ w.heap.size + 1 + 1 + 1 + 1 + 1; omega))
  have REn := Lib.hid (RE.out.other ⟨w.heap.size + 1 + 1 + 1 + 1 + 1, 2, none⟩ (.int .i64 e2) (by show w.heap.size + 1 + 1 + 1 ≠ w.heap.size + 1 + 1 + 1 + 1 + 1; omega))
  have VRn := Lib.hid (VR.out.other ⟨w.heap.size + 1 + 1 + 1 + 1 + 1, 2, none⟩ (.int .i64 e2) (by show w.heap.size + 1 + 1 + 1 + 1 ≠ w.heap.size + 1 + 1 + 1 + 1 + 1; omega))
  have HBn := Lib.hid (HB.out.setCell (p := ⟨w.heap.size + 1 + 1 + 1 + 1 + 1, 2, none⟩) (by show w.heap.size ≤ w.heap.size + 1 + 1 + 1 + 1 + 1; omega) (.int .i64 e2))
  clear A Bb RR RE VR VE HB
  have A := An
  have Bb := Bbn
  have RR := RRn
  have RE := REn
  have VR := VRn
  have VE := VEn
  have HB := HBn
  clear An Bbn RRn REn VRn VEn HBn
  have Ac0 := A.out.c0
  have Ac1 := A.out.c1
  have Bc0 := Bb.out.c0
  have Bc1 := Bb.out.c1
  go_wp2_with fail
  clear pc0 pf0 pb1 pg1 pc1 pf1 qc0 qf0
  go_at_call 47
  refine (C3.out _).mono ?_
  rintro e W3 ⟨rfl, B⟩
  clear Ac0 Ac1 Bc0 Bc1
  have An := Lib.hid (A.out.keep B A.out.lt)
  have Bbn := Lib.hid (Bb.out.keep B Bb.out.lt)
  have RRn := Lib.hid (RR.out.keep B RR.out.lt)
  have REn := Lib.hid (RE.out.keep B RE.out.lt)
  have VRn := Lib.hid (VR.out.keep B VR.out.lt)
  have VEn := Lib.hid (VE.out.keep B VE.out.lt)
  have HBn := Lib.hid (HB.out.trans (B.mono HB.out.size))
  clear A Bb RR RE VR VE HB B
  have A := An
  have Bb := Bbn
  have RR := RRn
  have RE := REn
  have VR := VRn
  have VE := VEn
  have HB := HBn
  clear An Bbn RRn REn VRn VEn HBn
  have pc0 : (W3).cell? ⟨w.heap.size + 1 + 1 + 1 + 1, 6, none⟩ = some (.string ⟨#[]⟩) := (VR.out).c 6 rfl
  have pf0 := (VR.out).f 6
  have pb1 : (W3).cell? ⟨w.heap.size + 1 + 1 + 1 + 1, 7, none⟩ = some (.string ⟨#[]⟩) := (VR.out).c 7 rfl
  have pg1 := (VR.out).f 7
  have pc1 : (((W3).setCell ⟨w.heap.size + 1 + 1 + 1 + 1, 6, none⟩ (.string x3))).cell? ⟨w.heap.size + 1 + 1 + 1 + 1, 7, none⟩ = some (.string ⟨#[]⟩) := ((VR.out).set 6 (.string x3)).c 7 rfl
  have pf1 := ((VR.out).set 6 (.string x3)).f 7
  have VRn : Hid (CBlk ((((W3).setCell ⟨w.heap.size + 1 + 1 + 1 + 1, 6, none⟩ (.string x3))).setCell ⟨w.heap.size + 1 + 1 + 1 + 1, 7, none⟩ (.string y3)) (w.heap.size + 1 + 1 + 1 + 1) #[.string x0, .string y0, .string x1, .string y1, .string x2, .string y2, .string x3, .string y3] 31) := Lib.hid (((VR.out).set 6 (.string x3)).set 7 (.string y3))
  have An := Lib.hid ((A.out.other ⟨w.heap.size + 1 + 1 + 1 + 1, 6, none⟩ (.string x3) (by show w.heap.size ≠ w.heap.size + 1 + 1 + 1 + 1; omega)).other ⟨w.heap.size + 1 + 1 + 1 + 1, 7, none⟩ (.string y3) (by show w.heap.size ≠ w.heap.size + 1 + 1 + 1 + 1; omega))
  have Bbn := Lib.hid ((Bb.out.other ⟨w.heap.size + 1 + 1 + 1 + 1, 6, none⟩ (.string x3) (by show w.heap.size + 1 ≠ w.heap.size + 1 + 1 + 1 + 1; omega)).other ⟨w.heap.size + 1 + 1 + 1 + 1, 7, none⟩ (.string y3) (by show w.heap.size + 1 ≠ w.heap.size + 1 + 1 + 1 + 1; omega))
  have RRn := Lib.hid ((RR.out.other ⟨w.heap.size + 1 + 1 + 1 + 1, 6, none⟩ (.string x3) (by show w.heap.size + 1 + 1 ≠ w.heap.size + 1 + 1 + 1 + 1; omega)).other ⟨w.heap.size + 1 + 1 + 1 + 1, 7, none⟩ (.string y3) (by show w.heap.size + 1 + 1 ≠ w.heap.size + 1 + 1 + 1 + 1; omega))
  have REn := Lib.hid ((RE.out.other ⟨w.heap.size + 1 + 1 + 1 + 1, 6, none⟩ (.string x3) (by show w.heap.size + 1 + 1 + 1 ≠ w.heap.size + 1 + 1 + 1 + 1; omega)).other ⟨w.heap.size + 1 + 1 + 1 + 1, 7, none⟩ (.string y3) (by show w.heap.size + 1 + 1 + 1 ≠ w.heap.size + 1 + 1 + 1 + 1; omega))
  have VEn := Lib.hid ((VE.out.other ⟨w.heap.size + 1 + 1 + 1 + 1, 6, none⟩ (.string x3) (by show w.heap.size + 1 + 1 + 1 + 1 + 1 ≠ w.heap.size + 1 + 1 + 1 + 1; omega)).other ⟨w.heap.size + 1 + 1 + 1 + 1, 7, none⟩ (.string y3) (by show w.heap.size + 1 + 1 + 1 + 1 + 1 ≠ w.heap.size + 1 + 1 + 1 + 1; omega))
  have HBn := Lib.hid ((HB.out.setCell (p := ⟨w.heap.size + 1 + 1 + 1 + 1, 6, none⟩) (by show w.heap.size ≤ w.heap.size + 1 + 1 + 1 + 1; omega) (.string x3)).setCell (p := ⟨w.heap.size + 1 + 1 + 1 + 1, 7, none⟩) (by show w.heap.size ≤ w.heap.size + 1 + 1 + 1 + 1; omega) (.string y3))
  clear A Bb RR RE VR VE HB
  have A := An
  have Bb := Bbn
  have RR := RRn
  have RE := REn
  have VR := VRn
  have VE := VEn
  have HB := HBn
  clear An Bbn RRn REn VRn VEn HBn
  have qc0 : (((((W3).setCell ⟨w.heap.size + 1 + 1 + 1 + 1, 6, none⟩ (.string x3))).setCell ⟨w.heap.size + 1 + 1 + 1 + 1, 7, none⟩ (.string y3))).cell? ⟨w.heap.size + 1 + 1 + 1 + 1 + 1, 3, none⟩ = some (.int .i64 0) := (VE.out).c 3 rfl
  have qf0 := (VE.out).f 3
  have VEn : Hid (CBlk ((((((W3).setCell ⟨w.heap.size + 1 + 1 + 1 + 1, 6, none⟩ (.string x3))).setCell ⟨w.heap.size + 1 + 1 + 1 + 1, 7, none⟩ (.string y3))).setCell ⟨w.heap.size + 1 + 1 + 1 + 1 + 1, 3, none⟩ (.int .i64 e3)) (w.heap.size + 1 + 1 + 1 + 1 + 1) #[.int .i64 e0, .int .i64 e1, .int .i64 e2, .int .i64 e3] 33) := Lib.hid ((VE.out).set 3 (.int .i64 e3))
  have An := Lib.hid (A.out.other ⟨w.heap.size + 1 + 1 + 1 + 1 + 1, 3, none⟩ (.int .i64 e3) (by show w.heap.size ≠ w.heap.size + 1 + 1 + 1 + 1 + 1; omega))
  have Bbn := Lib.hid (Bb.out.other ⟨w.heap.size + 1 + 1 + 1 + 1 + 1, 3, none⟩ (.int .i64 e3) (by show w.heap.size + 1 ≠ w.heap.size + 1 + 1 + 1 + 1 + 1; omega))
  have RRn := Lib.hid (RR.out.other ⟨w.heap.size + 1 + 1 + 1 + 1 + 1, 3, none⟩ (.int .i64 e3) (by show w.heap.size + 1 + 1 ≠ w.heap.size + 1 + 1 + 1 + 1 + 1; omega))
  have REn := Lib.hid (RE.out.other ⟨w.heap.size + 1 + 1 + 1 + 1 + 1, 3, none⟩ (.int .i64 e3) (by show w.heap.size + 1 + 1 + 1 ≠ w.heap.size + 1 + 1 + 1 + 1 + 1; omega))
  have VRn := Lib.hid (VR.out.other ⟨w.heap.size + 1 + 1 + 1 + 1 + 1, 3, none⟩ (.int .i64 e3) (by show w.heap.size + 1 + 1 + 1 + 1 ≠ w.heap.size + 1 + 1 + 1 + 1 + 1; omega))
  have HBn := Lib.hid (HB.out.setCell (p := ⟨w.heap.size + 1 + 1 + 1 + 1 + 1, 3, none⟩) (by show w.heap.size ≤ w.heap.size + 1 + 1 + 1 + 1 + 1; omega) (.int .i64 e3))
  clear A Bb RR RE VR VE HB
  have A := An
  have Bb := Bbn
  have RR := RRn
  have RE := REn
  have VR := VRn
  have VE := VEn
  have HB := HBn
  clear An Bbn RRn REn VRn VEn HBn
  have Ac0 := A.out.c0
  have Ac1 := A.out.c1
  have Bc0 := Bb.out.c0
  have Bc1 := Bb.out.c1
  go_wp2_with fail
  clear pc0 pf0 pb1 pg1 pc1 pf1 qc0 qf0
  obtain ⟨WF, hWF⟩ : ∃ W, W = ((((((W3).setCell ⟨w.heap.size + 1 + 1 + 1 + 1, 6, none⟩ (.string x3))).setCell ⟨w.heap.size + 1 + 1 + 1 + 1, 7, none⟩ (.string y3))).setCell ⟨w.heap.size + 1 + 1 + 1 + 1 + 1, 3, none⟩ (.int .i64 e3)) := ⟨_, rfl⟩
  rw [← hWF]
  rw [← hWF] at VR VE RR RE HB
  clear A Bb Ac0 Ac1 Bc0 Bc1 hWF
  refine wp_region_noPanic ?_
  refine wp_region_held_drew (S := fun W => CBlk W (w.heap.size + 1 + 1 + 1 + 1) #[.string x0, .string y0, .string x1, .string y1, .string x2, .string y2, .string x3, .string y3] 31 ∧ CBlk W (w.heap.size + 1 + 1 + 1 + 1 + 1) #[.int .i64 e0, .int .i64 e1, .int .i64 e2, .int .i64 e3] 33) (by kernel_rfl) ?_ (fun hHeld => ?_)
  · exact ⟨VR.out, VE.out⟩
  refine wpAnyH_take (i := 0) (oi := ({ dst := some 40, op := Go.Op.load 31 (Go.Operand.tmp 6), type := 31, pos := "law.go:57", after := #[], guard := none } : Oper)) (v := ?v0_1) rfl (by kernel_rfl) (by kernel_rfl) (by kernel_rfl) (fun _ _ _ h => h) (Or.inl ⟨by rfl, ?hy0_1⟩) (by assumption) ?re0_1
  case hy0_1 => ((intro w hSw; have u0 := hSw.1.c 0 rfl; have u1 := hSw.1.c 1 rfl; have u2 := hSw.1.c 2 rfl; have u3 := hSw.1.c 3 rfl; have u4 := hSw.1.c 4 rfl; have u5 := hSw.1.c 5 rfl; have u6 := hSw.1.c 6 rfl; have u7 := hSw.1.c 7 rfl; have v0 := hSw.2.c 0 rfl; have v1 := hSw.2.c 1 rfl; have v2 := hSw.2.c 2 rfl; have v3 := hSw.2.c 3 rfl; go_simp) <;> with_reducible rfl)
  (try simp only [Act.put, List.setIfInBounds_toArray, List.set_cons_zero, List.set_cons_succ])
  refine wpAnyH_take (i := 1) (oi := ({ dst := some 41, op := Go.Op.load 33 (Go.Operand.tmp 7), type := 33, pos := "law.go:57", after := #[{ on := 2, ground := Go.Ground.gcOnly Go.Departure.lateStores }], guard := none } : Oper)) (v := ?v1_2) rfl (by kernel_rfl) (by kernel_rfl) (by kernel_rfl) (fun _ _ _ h => h) (Or.inl ⟨by rfl, ?hy1_2⟩) (by assumption) ?re1_2
  case hy1_2 => ((intro w hSw; have u0 := hSw.1.c 0 rfl; have u1 := hSw.1.c 1 rfl; have u2 := hSw.1.c 2 rfl; have u3 := hSw.1.c 3 rfl; have u4 := hSw.1.c 4 rfl; have u5 := hSw.1.c 5 rfl; have u6 := hSw.1.c 6 rfl; have u7 := hSw.1.c 7 rfl; have v0 := hSw.2.c 0 rfl; have v1 := hSw.2.c 1 rfl; have v2 := hSw.2.c 2 rfl; have v3 := hSw.2.c 3 rfl; go_simp) <;> with_reducible rfl)
  (try simp only [Act.put, List.setIfInBounds_toArray, List.set_cons_zero, List.set_cons_succ])
  refine wpAnyH_ready (rs := [2]) (by kernel_rfl) (by simp) ?_
  refine AllReadyH.cons (o := ({ dst := none, op := Go.Op.store 31 (Go.Operand.tmp 4) (Go.Operand.tmp 40), type := 0, pos := "law.go:57", after := #[{ on := 0, ground := Go.Ground.data }, { on := 0, ground := Go.Ground.phase }, { on := 1, ground := Go.Ground.textOnly Go.Departure.lateStores }], guard := none } : Oper)) rfl (fun K hK => ?_) ?_
  · have pc0 : (WF).cell? ⟨w.heap.size + 1 + 1, 0, none⟩ = some (.string ⟨#[]⟩) := (RR.out).c 0 rfl
    have pf0 := (RR.out).f 0
    have pb1 : (WF).cell? ⟨w.heap.size + 1 + 1, 1, none⟩ = some (.string ⟨#[]⟩) := (RR.out).c 1 rfl
    have pg1 := (RR.out).f 1
    have pb2 : (WF).cell? ⟨w.heap.size + 1 + 1, 2, none⟩ = some (.string ⟨#[]⟩) := (RR.out).c 2 rfl
    have pg2 := (RR.out).f 2
    have pb3 : (WF).cell? ⟨w.heap.size + 1 + 1, 3, none⟩ = some (.string ⟨#[]⟩) := (RR.out).c 3 rfl
    have pg3 := (RR.out).f 3
    have pb4 : (WF).cell? ⟨w.heap.size + 1 + 1, 4, none⟩ = some (.string ⟨#[]⟩) := (RR.out).c 4 rfl
    have pg4 := (RR.out).f 4
    have pb5 : (WF).cell? ⟨w.heap.size + 1 + 1, 5, none⟩ = some (.string ⟨#[]⟩) := (RR.out).c 5 rfl
    have pg5 := (RR.out).f 5
    have pb6 : (WF).cell? ⟨w.heap.size + 1 + 1, 6, none⟩ = some (.string ⟨#[]⟩) := (RR.out).c 6 rfl
    have pg6 := (RR.out).f 6
    have pb7 : (WF).cell? ⟨w.heap.size + 1 + 1, 7, none⟩ = some (.string ⟨#[]⟩) := (RR.out).c 7 rfl
    have pg7 := (RR.out).f 7
    have pc1 : (((WF).setCell ⟨w.heap.size + 1 + 1, 0, none⟩ (.string x0))).cell? ⟨w.heap.size + 1 + 1, 1, none⟩ = some (.string ⟨#[]⟩) := ((RR.out).set 0 (.string x0)).c 1 rfl
    have pf1 := ((RR.out).set 0 (.string x0)).f 1
    have pc2 : (((((WF).setCell ⟨w.heap.size + 1 + 1, 0, none⟩ (.string x0))).setCell ⟨w.heap.size + 1 + 1, 1, none⟩ (.string y0))).cell? ⟨w.heap.size + 1 + 1, 2, none⟩ = some (.string ⟨#[]⟩) := (((RR.out).set 0 (.string x0)).set 1 (.string y0)).c 2 rfl
    have pf2 := (((RR.out).set 0 (.string x0)).set 1 (.string y0)).f 2
    have pc3 : (((((((WF).setCell ⟨w.heap.size + 1 + 1, 0, none⟩ (.string x0))).setCell ⟨w.heap.size + 1 + 1, 1, none⟩ (.string y0))).setCell ⟨w.heap.size + 1 + 1, 2, none⟩ (.string x1))).cell? ⟨w.heap.size + 1 + 1, 3, none⟩ = some (.string ⟨#[]⟩) := ((((RR.out).set 0 (.string x0)).set 1 (.string y0)).set 2 (.string x1)).c 3 rfl
    have pf3 := ((((RR.out).set 0 (.string x0)).set 1 (.string y0)).set 2 (.string x1)).f 3
    have pc4 : (((((((((WF).setCell ⟨w.heap.size + 1 + 1, 0, none⟩ (.string x0))).setCell ⟨w.heap.size + 1 + 1, 1, none⟩ (.string y0))).setCell ⟨w.heap.size + 1 + 1, 2, none⟩ (.string x1))).setCell ⟨w.heap.size + 1 + 1, 3, none⟩ (.string y1))).cell? ⟨w.heap.size + 1 + 1, 4, none⟩ = some (.string ⟨#[]⟩) := (((((RR.out).set 0 (.string x0)).set 1 (.string y0)).set 2 (.string x1)).set 3 (.string y1)).c 4 rfl
    have pf4 := (((((RR.out).set 0 (.string x0)).set 1 (.string y0)).set 2 (.string x1)).set 3 (.string y1)).f 4
    have pc5 : (((((((((((WF).setCell ⟨w.heap.size + 1 + 1, 0, none⟩ (.string x0))).setCell ⟨w.heap.size + 1 + 1, 1, none⟩ (.string y0))).setCell ⟨w.heap.size + 1 + 1, 2, none⟩ (.string x1))).setCell ⟨w.heap.size + 1 + 1, 3, none⟩ (.string y1))).setCell ⟨w.heap.size + 1 + 1, 4, none⟩ (.string x2))).cell? ⟨w.heap.size + 1 + 1, 5, none⟩ = some (.string ⟨#[]⟩) := ((((((RR.out).set 0 (.string x0)).set 1 (.string y0)).set 2 (.string x1)).set 3 (.string y1)).set 4 (.string x2)).c 5 rfl
    have pf5 := ((((((RR.out).set 0 (.string x0)).set 1 (.string y0)).set 2 (.string x1)).set 3 (.string y1)).set 4 (.string x2)).f 5
    have pc6 : (((((((((((((WF).setCell ⟨w.heap.size + 1 + 1, 0, none⟩ (.string x0))).setCell ⟨w.heap.size + 1 + 1, 1, none⟩ (.string y0))).setCell ⟨w.heap.size + 1 + 1, 2, none⟩ (.string x1))).setCell ⟨w.heap.size + 1 + 1, 3, none⟩ (.string y1))).setCell ⟨w.heap.size + 1 + 1, 4, none⟩ (.string x2))).setCell ⟨w.heap.size + 1 + 1, 5, none⟩ (.string y2))).cell? ⟨w.heap.size + 1 + 1, 6, none⟩ = some (.string ⟨#[]⟩) := (((((((RR.out).set 0 (.string x0)).set 1 (.string y0)).set 2 (.string x1)).set 3 (.string y1)).set 4 (.string x2)).set 5 (.string y2)).c 6 rfl
    have pf6 := (((((((RR.out).set 0 (.string x0)).set 1 (.string y0)).set 2 (.string x1)).set 3 (.string y1)).set 4 (.string x2)).set 5 (.string y2)).f 6
    have pc7 : (((((((((((((((WF).setCell ⟨w.heap.size + 1 + 1, 0, none⟩ (.string x0))).setCell ⟨w.heap.size + 1 + 1, 1, none⟩ (.string y0))).setCell ⟨w.heap.size + 1 + 1, 2, none⟩ (.string x1))).setCell ⟨w.heap.size + 1 + 1, 3, none⟩ (.string y1))).setCell ⟨w.heap.size + 1 + 1, 4, none⟩ (.string x2))).setCell ⟨w.heap.size + 1 + 1, 5, none⟩ (.string y2))).setCell ⟨w.heap.size + 1 + 1, 6, none⟩ (.string x3))).cell? ⟨w.heap.size + 1 + 1, 7, none⟩ = some (.string ⟨#[]⟩) := ((((((((RR.out).set 0 (.string x0)).set 1 (.string y0)).set 2 (.string x1)).set 3 (.string y1)).set 4 (.string x2)).set 5 (.string y2)).set 6 (.string x3)).c 7 rfl
    have pf7 := ((((((((RR.out).set 0 (.string x0)).set 1 (.string y0)).set 2 (.string x1)).set 3 (.string y1)).set 4 (.string x2)).set 5 (.string y2)).set 6 (.string x3)).f 7
    go_simp
    obtain ⟨WG, hWG⟩ : ∃ W, W = ((((((((((((((((WF).setCell ⟨w.heap.size + 1 + 1, 0, none⟩ (.string x0))).setCell ⟨w.heap.size + 1 + 1, 1, none⟩ (.string y0))).setCell ⟨w.heap.size + 1 + 1, 2, none⟩ (.string x1))).setCell ⟨w.heap.size + 1 + 1, 3, none⟩ (.string y1))).setCell ⟨w.heap.size + 1 + 1, 4, none⟩ (.string x2))).setCell ⟨w.heap.size + 1 + 1, 5, none⟩ (.string y2))).setCell ⟨w.heap.size + 1 + 1, 6, none⟩ (.string x3))).setCell ⟨w.heap.size + 1 + 1, 7, none⟩ (.string y3)) := ⟨_, rfl⟩
    rw [← hWG]
    have RRn : Hid (CBlk WG (w.heap.size + 1 + 1) #[.string x0, .string y0, .string x1, .string y1, .string x2, .string y2, .string x3, .string y3] 31) := Lib.hid (by rw [hWG]; exact ((((((((RR.out).set 0 (.string x0)).set 1 (.string y0)).set 2 (.string x1)).set 3 (.string y1)).set 4 (.string x2)).set 5 (.string y2)).set 6 (.string x3)).set 7 (.string y3))
    have REn : Hid (CBlk WG (w.heap.size + 1 + 1 + 1) #[.int .i64 0, .int .i64 0, .int .i64 0, .int .i64 0] 33) := Lib.hid (by rw [hWG]; exact ((((((((RE.out).other ⟨w.heap.size + 1 + 1, 0, none⟩ (.string x0) (by show w.heap.size + 1 + 1 + 1 ≠ w.heap.size + 1 + 1; omega)).other ⟨w.heap.size + 1 + 1, 1, none⟩ (.string y0) (by show w.heap.size + 1 + 1 + 1 ≠ w.heap.size + 1 + 1; omega)).other ⟨w.heap.size + 1 + 1, 2, none⟩ (.string x1) (by show w.heap.size + 1 + 1 + 1 ≠ w.heap.size + 1 + 1; omega)).other ⟨w.heap.size + 1 + 1, 3, none⟩ (.string y1) (by show w.heap.size + 1 + 1 + 1 ≠ w.heap.size + 1 + 1; omega)).other ⟨w.heap.size + 1 + 1, 4, none⟩ (.string x2) (by show w.heap.size + 1 + 1 + 1 ≠ w.heap.size + 1 + 1; omega)).other ⟨w.heap.size + 1 + 1, 5, none⟩ (.string y2) (by show w.heap.size + 1 + 1 + 1 ≠ w.heap.size + 1 + 1; omega)).other ⟨w.heap.size + 1 + 1, 6, none⟩ (.string x3) (by show w.heap.size + 1 + 1 + 1 ≠ w.heap.size + 1 + 1; omega)).other ⟨w.heap.size + 1 + 1, 7, none⟩ (.string y3) (by show w.heap.size + 1 + 1 + 1 ≠ w.heap.size + 1 + 1; omega))
    have VRn : Hid (CBlk WG (w.heap.size + 1 + 1 + 1 + 1) #[.string x0, .string y0, .string x1, .string y1, .string x2, .string y2, .string x3, .string y3] 31) := Lib.hid (by rw [hWG]; exact ((((((((VR.out).other ⟨w.heap.size + 1 + 1, 0, none⟩ (.string x0) (by show w.heap.size + 1 + 1 + 1 + 1 ≠ w.heap.size + 1 + 1; omega)).other ⟨w.heap.size + 1 + 1, 1, none⟩ (.string y0) (by show w.heap.size + 1 + 1 + 1 + 1 ≠ w.heap.size + 1 + 1; omega)).other ⟨w.heap.size + 1 + 1, 2, none⟩ (.string x1) (by show w.heap.size + 1 + 1 + 1 + 1 ≠ w.heap.size + 1 + 1; omega)).other ⟨w.heap.size + 1 + 1, 3, none⟩ (.string y1) (by show w.heap.size + 1 + 1 + 1 + 1 ≠ w.heap.size + 1 + 1; omega)).other ⟨w.heap.size + 1 + 1, 4, none⟩ (.string x2) (by show w.heap.size + 1 + 1 + 1 + 1 ≠ w.heap.size + 1 + 1; omega)).other ⟨w.heap.size + 1 + 1, 5, none⟩ (.string y2) (by show w.heap.size + 1 + 1 + 1 + 1 ≠ w.heap.size + 1 + 1; omega)).other ⟨w.heap.size + 1 + 1, 6, none⟩ (.string x3) (by show w.heap.size + 1 + 1 + 1 + 1 ≠ w.heap.size + 1 + 1; omega)).other ⟨w.heap.size + 1 + 1, 7, none⟩ (.string y3) (by show w.heap.size + 1 + 1 + 1 + 1 ≠ w.heap.size + 1 + 1; omega))
    have VEn : Hid (CBlk WG (w.heap.size + 1 + 1 + 1 + 1 + 1) #[.int .i64 e0, .int .i64 e1, .int .i64 e2, .int .i64 e3] 33) := Lib.hid (by rw [hWG]; exact ((((((((VE.out).other ⟨w.heap.size + 1 + 1, 0, none⟩ (.string x0) (by show w.heap.size + 1 + 1 + 1 + 1 + 1 ≠ w.heap.size + 1 + 1; omega)).other ⟨w.heap.size + 1 + 1, 1, none⟩ (.string y0) (by show w.heap.size + 1 + 1 + 1 + 1 + 1 ≠ w.heap.size + 1 + 1; omega)).other ⟨w.heap.size + 1 + 1, 2, none⟩ (.string x1) (by show w.heap.size + 1 + 1 + 1 + 1 + 1 ≠ w.heap.size + 1 + 1; omega)).other ⟨w.heap.size + 1 + 1, 3, none⟩ (.string y1) (by show w.heap.size + 1 + 1 + 1 + 1 + 1 ≠ w.heap.size + 1 + 1; omega)).other ⟨w.heap.size + 1 + 1, 4, none⟩ (.string x2) (by show w.heap.size + 1 + 1 + 1 + 1 + 1 ≠ w.heap.size + 1 + 1; omega)).other ⟨w.heap.size + 1 + 1, 5, none⟩ (.string y2) (by show w.heap.size + 1 + 1 + 1 + 1 + 1 ≠ w.heap.size + 1 + 1; omega)).other ⟨w.heap.size + 1 + 1, 6, none⟩ (.string x3) (by show w.heap.size + 1 + 1 + 1 + 1 + 1 ≠ w.heap.size + 1 + 1; omega)).other ⟨w.heap.size + 1 + 1, 7, none⟩ (.string y3) (by show w.heap.size + 1 + 1 + 1 + 1 + 1 ≠ w.heap.size + 1 + 1; omega))
    have HBn : Hid (Below w.heap.size w WG) := Lib.hid (by rw [hWG]; exact ((((((((HB.out).setCell (p := ⟨w.heap.size + 1 + 1, 0, none⟩) (by show w.heap.size ≤ w.heap.size + 1 + 1; omega) (.string x0)).setCell (p := ⟨w.heap.size + 1 + 1, 1, none⟩) (by show w.heap.size ≤ w.heap.size + 1 + 1; omega) (.string y0)).setCell (p := ⟨w.heap.size + 1 + 1, 2, none⟩) (by show w.heap.size ≤ w.heap.size + 1 + 1; omega) (.string x1)).setCell (p := ⟨w.heap.size + 1 + 1, 3, none⟩) (by show w.heap.size ≤ w.heap.size + 1 + 1; omega) (.string y1)).setCell (p := ⟨w.heap.size + 1 + 1, 4, none⟩) (by show w.heap.size ≤ w.heap.size + 1 + 1; omega) (.string x2)).setCell (p := ⟨w.heap.size + 1 + 1, 5, none⟩) (by show w.heap.size ≤ w.heap.size + 1 + 1; omega) (.string y2)).setCell (p := ⟨w.heap.size + 1 + 1, 6, none⟩) (by show w.heap.size ≤ w.heap.size + 1 + 1; omega) (.string x3)).setCell (p := ⟨w.heap.size + 1 + 1, 7, none⟩) (by show w.heap.size ≤ w.heap.size + 1 + 1; omega) (.string y3))
    clear pc0 pf0 pb1 pg1 pb2 pg2 pb3 pg3 pb4 pg4 pb5 pg5 pb6 pg6 pb7 pg7 pc1 pf1 pc2 pf2 pc3 pf3 pc4 pf4 pc5 pf5 pc6 pf6 pc7 pf7 RR RE VR VE HB hWG
    have RR := RRn
    have RE := REn
    have VR := VRn
    have VE := VEn
    have HB := HBn
    clear RRn REn VRn VEn HBn
    refine hK.out _ _ ?_ (fun hHeld => ?_)
    · exact ⟨VR.out, VE.out⟩
    clear hK K
    (try simp only [Act.put, List.setIfInBounds_toArray, List.set_cons_zero, List.set_cons_succ])
    refine wpAnyH_ready (rs := [3]) (by kernel_rfl) (by simp) ?_
    refine AllReadyH.cons (o := ({ dst := none, op := Go.Op.store 33 (Go.Operand.tmp 5) (Go.Operand.tmp 41), type := 0, pos := "law.go:57", after := #[{ on := 1, ground := Go.Ground.data }, { on := 2, ground := Go.Ground.chain }, { on := 0, ground := Go.Ground.phase }, { on := 1, ground := Go.Ground.phase }, { on := 2, ground := Go.Ground.phase }], guard := none } : Oper)) rfl (fun K hK => ?_) ?_
    · have pc0 : (WG).cell? ⟨w.heap.size + 1 + 1 + 1, 0, none⟩ = some (.int .i64 0) := (RE.out).c 0 rfl
      have pf0 := (RE.out).f 0
      have pb1 : (WG).cell? ⟨w.heap.size + 1 + 1 + 1, 1, none⟩ = some (.int .i64 0) := (RE.out).c 1 rfl
      have pg1 := (RE.out).f 1
      have pb2 : (WG).cell? ⟨w.heap.size + 1 + 1 + 1, 2, none⟩ = some (.int .i64 0) := (RE.out).c 2 rfl
      have pg2 := (RE.out).f 2
      have pb3 : (WG).cell? ⟨w.heap.size + 1 + 1 + 1, 3, none⟩ = some (.int .i64 0) := (RE.out).c 3 rfl
      have pg3 := (RE.out).f 3
      have pc1 : (((WG).setCell ⟨w.heap.size + 1 + 1 + 1, 0, none⟩ (.int .i64 e0))).cell? ⟨w.heap.size + 1 + 1 + 1, 1, none⟩ = some (.int .i64 0) := ((RE.out).set 0 (.int .i64 e0)).c 1 rfl
      have pf1 := ((RE.out).set 0 (.int .i64 e0)).f 1
      have pc2 : (((((WG).setCell ⟨w.heap.size + 1 + 1 + 1, 0, none⟩ (.int .i64 e0))).setCell ⟨w.heap.size + 1 + 1 + 1, 1, none⟩ (.int .i64 e1))).cell? ⟨w.heap.size + 1 + 1 + 1, 2, none⟩ = some (.int .i64 0) := (((RE.out).set 0 (.int .i64 e0)).set 1 (.int .i64 e1)).c 2 rfl
      have pf2 := (((RE.out).set 0 (.int .i64 e0)).set 1 (.int .i64 e1)).f 2
      have pc3 : (((((((WG).setCell ⟨w.heap.size + 1 + 1 + 1, 0, none⟩ (.int .i64 e0))).setCell ⟨w.heap.size + 1 + 1 + 1, 1, none⟩ (.int .i64 e1))).setCell ⟨w.heap.size + 1 + 1 + 1, 2, none⟩ (.int .i64 e2))).cell? ⟨w.heap.size + 1 + 1 + 1, 3, none⟩ = some (.int .i64 0) := ((((RE.out).set 0 (.int .i64 e0)).set 1 (.int .i64 e1)).set 2 (.int .i64 e2)).c 3 rfl
      have pf3 := ((((RE.out).set 0 (.int .i64 e0)).set 1 (.int .i64 e1)).set 2 (.int .i64 e2)).f 3
      go_simp
      obtain ⟨WH, hWH⟩ : ∃ W, W = ((((((((WG).setCell ⟨w.heap.size + 1 + 1 + 1, 0, none⟩ (.int .i64 e0))).setCell ⟨w.heap.size + 1 + 1 + 1, 1, none⟩ (.int .i64 e1))).setCell ⟨w.heap.size + 1 + 1 + 1, 2, none⟩ (.int .i64 e2))).setCell ⟨w.heap.size + 1 + 1 + 1, 3, none⟩ (.int .i64 e3)) := ⟨_, rfl⟩
      rw [← hWH]
      have REn : Hid (CBlk WH (w.heap.size + 1 + 1 + 1) #[.int .i64 e0, .int .i64 e1, .int .i64 e2, .int .i64 e3] 33) := Lib.hid (by rw [hWH]; exact ((((RE.out).set 0 (.int .i64 e0)).set 1 (.int .i64 e1)).set 2 (.int .i64 e2)).set 3 (.int .i64 e3))
      have RRn : Hid (CBlk WH (w.heap.size + 1 + 1) #[.string x0, .string y0, .string x1, .string y1, .string x2, .string y2, .string x3, .string y3] 31) := Lib.hid (by rw [hWH]; exact ((((RR.out).other ⟨w.heap.size + 1 + 1 + 1, 0, none⟩ (.int .i64 e0) (by show w.heap.size + 1 + 1 ≠ w.heap.size + 1 + 1 + 1; omega)).other ⟨w.heap.size + 1 + 1 + 1, 1, none⟩ (.int .i64 e1) (by show w.heap.size + 1 + 1 ≠ w.heap.size + 1 + 1 + 1; omega)).other ⟨w.heap.size + 1 + 1 + 1, 2, none⟩ (.int .i64 e2) (by show w.heap.size + 1 + 1 ≠ w.heap.size + 1 + 1 + 1; omega)).other ⟨w.heap.size + 1 + 1 + 1, 3, none⟩ (.int .i64 e3) (by show w.heap.size + 1 + 1 ≠ w.heap.size + 1 + 1 + 1; omega))
      have VRn : Hid (CBlk WH (w.heap.size + 1 + 1 + 1 + 1) #[.string x0, .string y0, .string x1, .string y1, .string x2, .string y2, .string x3, .string y3] 31) := Lib.hid (by rw [hWH]; exact ((((VR.out).other ⟨w.heap.size + 1 + 1 + 1, 0, none⟩ (.int .i64 e0) (by show w.heap.size + 1 + 1 + 1 + 1 ≠ w.heap.size + 1 + 1 + 1; omega)).other ⟨w.heap.size + 1 + 1 + 1, 1, none⟩ (.int .i64 e1) (by show w.heap.size + 1 + 1 + 1 + 1 ≠ w.heap.size + 1 + 1 + 1; omega)).other ⟨w.heap.size + 1 + 1 + 1, 2, none⟩ (.int .i64 e2) (by show w.heap.size + 1 + 1 + 1 + 1 ≠ w.heap.size + 1 + 1 + 1; omega)).other ⟨w.heap.size + 1 + 1 + 1, 3, none⟩ (.int .i64 e3) (by show w.heap.size + 1 + 1 + 1 + 1 ≠ w.heap.size + 1 + 1 + 1; omega))
      have VEn : Hid (CBlk WH (w.heap.size + 1 + 1 + 1 + 1 + 1) #[.int .i64 e0, .int .i64 e1, .int .i64 e2, .int .i64 e3] 33) := Lib.hid (by rw [hWH]; exact ((((VE.out).other ⟨w.heap.size + 1 + 1 + 1, 0, none⟩ (.int .i64 e0) (by show w.heap.size + 1 + 1 + 1 + 1 + 1 ≠ w.heap.size + 1 + 1 + 1; omega)).other ⟨w.heap.size + 1 + 1 + 1, 1, none⟩ (.int .i64 e1) (by show w.heap.size + 1 + 1 + 1 + 1 + 1 ≠ w.heap.size + 1 + 1 + 1; omega)).other ⟨w.heap.size + 1 + 1 + 1, 2, none⟩ (.int .i64 e2) (by show w.heap.size + 1 + 1 + 1 + 1 + 1 ≠ w.heap.size + 1 + 1 + 1; omega)).other ⟨w.heap.size + 1 + 1 + 1, 3, none⟩ (.int .i64 e3) (by show w.heap.size + 1 + 1 + 1 + 1 + 1 ≠ w.heap.size + 1 + 1 + 1; omega))
      have HBn : Hid (Below w.heap.size w WH) := Lib.hid (by rw [hWH]; exact ((((HB.out).setCell (p := ⟨w.heap.size + 1 + 1 + 1, 0, none⟩) (by show w.heap.size ≤ w.heap.size + 1 + 1 + 1; omega) (.int .i64 e0)).setCell (p := ⟨w.heap.size + 1 + 1 + 1, 1, none⟩) (by show w.heap.size ≤ w.heap.size + 1 + 1 + 1; omega) (.int .i64 e1)).setCell (p := ⟨w.heap.size + 1 + 1 + 1, 2, none⟩) (by show w.heap.size ≤ w.heap.size + 1 + 1 + 1; omega) (.int .i64 e2)).setCell (p := ⟨w.heap.size + 1 + 1 + 1, 3, none⟩) (by show w.heap.size ≤ w.heap.size + 1 + 1 + 1; omega) (.int .i64 e3))
      clear pc0 pf0 pb1 pg1 pb2 pg2 pb3 pg3 pc1 pf1 pc2 pf2 pc3 pf3 RE RR VR VE HB hWH
      have RE := REn
      have RR := RRn
      have VR := VRn
      have VE := VEn
      have HB := HBn
      clear REn RRn VRn VEn HBn
      refine hK.out _ _ ?_ (fun hHeld => ?_)
      · exact ⟨VR.out, VE.out⟩
      clear hK K
      (try simp only [Act.put, List.setIfInBounds_toArray, List.set_cons_zero, List.set_cons_succ])
      refine wpAnyH_done (by kernel_rfl) ?_ _
      refine NoPanic.normal ?_
      go_wp2_with fail
      refine bodyPost_ret (results_two rfl _ _ (w.heap.size + 1 + 1) (w.heap.size + 1 + 1 + 1) _ _ rfl rfl RR.out RE.out rfl rfl) rfl ?_
      exact ⟨rfl, HB.out.drew⟩
    exact AllReadyH.nil
  exact AllReadyH.nil
end Go.Proofs.YtdnbhgkbfbgnaaaGreatDoor


namespace Go.Proofs.YtdnbhgkbfbgnaaaGreatDoor
open Go.RowKit

/-- a block of two cells -/
def PB (t : TypeId) (w : World) (g : Nat) (x y : Value) : Prop := w.heap[g]? = some (.cells #[x, y] t (0, 0))
theorem PB.lt {t : TypeId} {w : World} {g : Nat} {x y : Value} (h : PB t w g x y) : g < w.heap.size := (Array.getElem?_eq_some_iff.1 h).1
theorem PB.keep {t : TypeId} {w w' : World} {n g : Nat} {x y : Value} (h : PB t w g x y) (hb : Below n w w') (hg : g < n) : PB t w' g x y := (hb.block g hg).trans h
theorem PB.c0 {t : TypeId} {w : World} {g : Nat} {x y : Value} (h : PB t w g x y) : w.cell? ⟨g, 0, none⟩ = some x := by rw [World.cell?, h]; rfl
theorem PB.c1 {t : TypeId} {w : World} {g : Nat} {x y : Value} (h : PB t w g x y) : w.cell? ⟨g, 1, none⟩ = some y := by rw [World.cell?, h]; rfl
theorem PB.f {t : TypeId} {w : World} {g : Nat} {x y : Value} (h : PB t w g x y) (j : Nat) : w.frozen? ⟨g, j, none⟩ = false := by rw [World.frozen?, h]; simp
theorem PB.s0 {t : TypeId} {w : World} {g : Nat} {x y : Value} (h : PB t w g x y) (v : Value) : PB t (w.setCell ⟨g, 0, none⟩ v) g v y := by
  rw [PB, heap_setCell_same w g 0 _ _ v h]; rfl
theorem PB.s1 {t : TypeId} {w : World} {g : Nat} {x y : Value} (h : PB t w g x y) (v : Value) : PB t (w.setCell ⟨g, 1, none⟩ v) g x v := by
  rw [PB, heap_setCell_same w g 1 _ _ v h]; rfl
theorem PB.new (t : TypeId) (w : World) (x y : Value) : PB t (w.alloc (.cells #[x, y] t)) w.heap.size x y := Go.heap_alloc_new w _
theorem PB.alloc {t : TypeId} {w : World} {g : Nat} {x y : Value} (h : PB t w g x y) (o : Obj) : PB t (w.alloc o) g x y := h.keep (below_alloc w o) h.lt
theorem PB.drew {t : TypeId} {w : World} {g : Nat} {x y : Value} (h : PB t w g x y) : PB t w.drew g x y := h
theorem PB.other {t : TypeId} {w : World} {g : Nat} {x y : Value} (h : PB t w g x y) (p : Addr) (v : Value) (hp : g ≠ p.block) : PB t (w.setCell p v) g x y := (heap_setCell_other w p g v hp).trans h


theorem v4pick_1999 (c : Int) (w : World) (h1 : -9223372036854775808 ≤ c) (h2 : c ≤ 9223372036854775807) :
    Calls Tryz.prog 55 #[.int .i64 c, .int .i64 1999] w fun e w' => ∃ p : Nat, e = .returned (.int .i64 (p : Int)) ∧ p < 1999 ∧ Below w.heap.size w w' := by
  by_cases h : c < 0
  · have e1 : wrap64 (c + 1) = c + 1 := by simp [wrap64]; omega
    have e2 : wrap64 (-(c + 1)) = -(c + 1) := by simp [wrap64]; omega
    have e3 := Lib.hid (show -((c + 1).tmod 1999) = ((-(c + 1)).toNat % 1999 : Nat) by rw [← Int.neg_tmod, Int.tmod_eq_emod_of_nonneg (by omega)]; omega)
    go_enter Tryz.func55, Tryz.ntmps55
    go_wp2
    go_ret
    exact ⟨_, by rw [← e3.out]; rfl, Nat.mod_lt _ (by decide), Below.refl _ _⟩
  · have e3 := Lib.hid (show c % 1999 = (c.toNat % 1999 : Nat) by omega)
    go_enter Tryz.func55, Tryz.ntmps55
    go_wp2
    go_ret
    exact ⟨_, by rw [← e3.out]; rfl, Nat.mod_lt _ (by decide), Below.refl _ _⟩

theorem v4pick_60 (c : Int) (w : World) (h1 : -9223372036854775808 ≤ c) (h2 : c ≤ 9223372036854775807) :
    Calls Tryz.prog 55 #[.int .i64 c, .int .i64 60] w fun e w' => ∃ p : Nat, e = .returned (.int .i64 (p : Int)) ∧ p < 60 ∧ Below w.heap.size w w' := by
  by_cases h : c < 0
  · have e1 : wrap64 (c + 1) = c + 1 := by simp [wrap64]; omega
    have e2 : wrap64 (-(c + 1)) = -(c + 1) := by simp [wrap64]; omega
    have e3 := Lib.hid (show -((c + 1).tmod 60) = ((-(c + 1)).toNat % 60 : Nat) by rw [← Int.neg_tmod, Int.tmod_eq_emod_of_nonneg (by omega)]; omega)
    go_enter Tryz.func55, Tryz.ntmps55
    go_wp2
    go_ret
    exact ⟨_, by rw [← e3.out]; rfl, Nat.mod_lt _ (by decide), Below.refl _ _⟩
  · have e3 := Lib.hid (show c % 60 = (c.toNat % 60 : Nat) by omega)
    go_enter Tryz.func55, Tryz.ntmps55
    go_wp2
    go_ret
    exact ⟨_, by rw [← e3.out]; rfl, Nat.mod_lt _ (by decide), Below.refl _ _⟩

theorem v4pick_100 (c : Int) (w : World) (h1 : -9223372036854775808 ≤ c) (h2 : c ≤ 9223372036854775807) :
    Calls Tryz.prog 55 #[.int .i64 c, .int .i64 100] w fun e w' => ∃ p : Nat, e = .returned (.int .i64 (p : Int)) ∧ p < 100 ∧ Below w.heap.size w w' := by
  by_cases h : c < 0
  · have e1 : wrap64 (c + 1) = c + 1 := by simp [wrap64]; omega
    have e2 : wrap64 (-(c + 1)) = -(c + 1) := by simp [wrap64]; omega
    have e3 := Lib.hid (show -((c + 1).tmod 100) = ((-(c + 1)).toNat % 100 : Nat) by rw [← Int.neg_tmod, Int.tmod_eq_emod_of_nonneg (by omega)]; omega)
    go_enter Tryz.func55, Tryz.ntmps55
    go_wp2
    go_ret
    exact ⟨_, by rw [← e3.out]; rfl, Nat.mod_lt _ (by decide), Below.refl _ _⟩
  · have e3 := Lib.hid (show c % 100 = (c.toNat % 100 : Nat) by omega)
    go_enter Tryz.func55, Tryz.ntmps55
    go_wp2
    go_ret
    exact ⟨_, by rw [← e3.out]; rfl, Nat.mod_lt _ (by decide), Below.refl _ _⟩

theorem v4pick_1000000007 (c : Int) (w : World) (h1 : -9223372036854775808 ≤ c) (h2 : c ≤ 9223372036854775807) :
    Calls Tryz.prog 55 #[.int .i64 c, .int .i64 1000000007] w fun e w' => ∃ p : Nat, e = .returned (.int .i64 (p : Int)) ∧ p < 1000000007 ∧ Below w.heap.size w w' := by
  by_cases h : c < 0
  · have e1 : wrap64 (c + 1) = c + 1 := by simp [wrap64]; omega
    have e2 : wrap64 (-(c + 1)) = -(c + 1) := by simp [wrap64]; omega
    have e3 := Lib.hid (show -((c + 1).tmod 1000000007) = ((-(c + 1)).toNat % 1000000007 : Nat) by rw [← Int.neg_tmod, Int.tmod_eq_emod_of_nonneg (by omega)]; omega)
    go_enter Tryz.func55, Tryz.ntmps55
    go_wp2
    go_ret
    exact ⟨_, by rw [← e3.out]; rfl, Nat.mod_lt _ (by decide), Below.refl _ _⟩
  · have e3 := Lib.hid (show c % 1000000007 = (c.toNat % 1000000007 : Nat) by omega)
    go_enter Tryz.func55, Tryz.ntmps55
    go_wp2
    go_ret
    exact ⟨_, by rw [← e3.out]; rfl, Nat.mod_lt _ (by decide), Below.refl _ _⟩

theorem v4pick_2 (c : Int) (w : World) (h1 : -9223372036854775808 ≤ c) (h2 : c ≤ 9223372036854775807) :
    Calls Tryz.prog 55 #[.int .i64 c, .int .i64 2] w fun e w' => ∃ p : Nat, e = .returned (.int .i64 (p : Int)) ∧ p < 2 ∧ Below w.heap.size w w' := by
  by_cases h : c < 0
  · have e1 : wrap64 (c + 1) = c + 1 := by simp [wrap64]; omega
    have e2 : wrap64 (-(c + 1)) = -(c + 1) := by simp [wrap64]; omega
    have e3 := Lib.hid (show -((c + 1).tmod 2) = ((-(c + 1)).toNat % 2 : Nat) by rw [← Int.neg_tmod, Int.tmod_eq_emod_of_nonneg (by omega)]; omega)
    go_enter Tryz.func55, Tryz.ntmps55
    go_wp2
    go_ret
    exact ⟨_, by rw [← e3.out]; rfl, Nat.mod_lt _ (by decide), Below.refl _ _⟩
  · have e3 := Lib.hid (show c % 2 = (c.toNat % 2 : Nat) by omega)
    go_enter Tryz.func55, Tryz.ntmps55
    go_wp2
    go_ret
    exact ⟨_, by rw [← e3.out]; rfl, Nat.mod_lt _ (by decide), Below.refl _ _⟩

theorem v4Make_R (n d : Int) (w : World) (hn : n.natAbs < 10 ^ 200) (hd : d.natAbs < 10 ^ 200) (h0 : d ≠ 0) :
    Calls Tryz.prog 29 #[.string (S n), .string (S d)] w fun e w' => e = .returned (.tuple #[RV (Rat.divInt n d), .int .i64 0]) ∧ Below w.heap.size w w' := by
  have h := make_G n d hn hd w
  rw [decide_eq_true h0, opR_R _ _ _ (fun _ => sg_pos h0), sg_R, opQ, if_pos rfl] at h
  exact h
set_option maxRecDepth 100000 in
set_option maxHeartbeats 2000000 in
theorem v4Of_via (n d ev : Int) (x y : ByteArray) (w : World) (hn : -9223372036854775808 ≤ n ∧ n ≤ 9223372036854775807) (hd : -9223372036854775808 ≤ d ∧ d ≤ 9223372036854775807)
    (h : ∀ W, Calls Tryz.prog 29 #[.string (S n), .string (S d)] W fun e w' => e = .returned (.tuple #[.agg #[.string x, .string y], .int .i64 ev]) ∧ Below W.heap.size W w') :
    Calls Tryz.prog 33 #[.int .i64 n, .int .i64 d] w fun e w' => e = .returned (.tuple #[.agg #[.string x, .string y], .int .i64 ev]) ∧ Below w.heap.size w w' := by
  have HR := Lib.hid (RBlk.new w (.string ⟨#[]⟩) (.string ⟨#[]⟩))
  have HB := Lib.hid (below_alloc w (.cells #[.string ⟨#[]⟩, .string ⟨#[]⟩] 23))
  have H := Lib.hid h
  have F1 := Lib.hid (fun W => rFromInt_any n W hn.1 hn.2)
  have F2 := Lib.hid (fun W => rFromInt_any d W hd.1 hd.2)
  clear h hn hd
  generalize S n = sn at *
  generalize S d = sd at *
  go_enter Tryz.func33, Tryz.ntmps33
  go_wp2_with (first | (go_at_call 77; (with_reducible refine (F1.out _).mono ?_); rintro e W ⟨rfl, B⟩; have hr := (HR.out.keep B HR.out.lt); have hb := HB.out.trans (B.mono HB.out.size); clear HR HB B ; have HR := Lib.hid hr; have HB := Lib.hid hb; clear hr hb) | (go_at_call 77; (with_reducible refine (F2.out _).mono ?_); rintro e W ⟨rfl, B⟩; have hr := (HR.out.keep B HR.out.lt); have hb := HB.out.trans (B.mono HB.out.size); clear HR HB B ; have HR := Lib.hid hr; have HB := Lib.hid hb; clear hr hb) | (go_at_call 29; (with_reducible refine (H.out _).mono ?_); rintro e W ⟨rfl, B⟩; have hr := (HR.out.keep B HR.out.lt); have hb := HB.out.trans (B.mono HB.out.size); clear HR HB B ; have HR := Lib.hid hr; have HB := Lib.hid hb; have c0 := hr.c0; have c1 := hr.c1; have f0 := hr.f 0; have f1 := hr.f 1; have hs := hr.s0 (.string x); have d1 := hs.c1; have g1 := hs.f 1; have HS := Lib.hid (hs.s1 (.string y)); have HBS := Lib.hid ((hb.setCell (p := ⟨w.heap.size, 0, none⟩) (by show w.heap.size ≤ w.heap.size; omega) (.string x)).setCell (p := ⟨w.heap.size, 1, none⟩) (by show w.heap.size ≤ w.heap.size; omega) (.string y)); clear hr hb hs))
  refine bodyPost_ret (results_ratio rfl _ _ w.heap.size _ _ rfl HS.out) rfl ?_
  exact ⟨rfl, HBS.out⟩
theorem v4Of_R (n d : Int) (w : World) (hn : -9223372036854775808 ≤ n ∧ n ≤ 9223372036854775807) (hd : -9223372036854775808 ≤ d ∧ d ≤ 9223372036854775807) (h0 : d ≠ 0) :
    Calls Tryz.prog 33 #[.int .i64 n, .int .i64 d] w fun e w' => e = .returned (.tuple #[RV (Rat.divInt n d), .int .i64 0]) ∧ Below w.heap.size w w' :=
  v4Of_via n d 0 _ _ w hn hd fun W => v4Make_R n d W (by omega) (by omega) h0
/-- both parts are small -/
def smallR (q : Rat) : Prop := q.num.natAbs ≤ 999 ∧ q.den ≤ 60
theorem smallR.fit {q : Rat} (h : smallR q) : fitR 200 q := ⟨Nat.lt_of_le_of_lt h.1 (by decide), Nat.lt_of_le_of_lt h.2 (by decide)⟩
theorem small_of {p q : Nat} (hp : p < 1999) (hq : q < 60) : smallR (Rat.divInt ((p : Int) - 999) (1 + (q : Int))) := by
  rw [show (1 + (q : Int)) = ((1 + q : Nat) : Int) by omega, Rat.divInt_ofNat]
  have hd : 1 + q ≠ 0 := by omega
  refine ⟨?_, ?_⟩
  · rw [Rat.num_mkRat, if_neg hd]
    exact Nat.le_trans (Int.natAbs_ediv_le_natAbs _ _) (by omega)
  · rw [Rat.den_mkRat, if_neg hd]
    exact Nat.le_trans (Nat.div_le_self _ _) (by omega)

set_option maxRecDepth 100000 in
set_option maxHeartbeats 4000000 in
theorem Small_any (x0 x1 : Int) (w : World) (b0 : -9223372036854775808 ≤ x0 ∧ x0 ≤ 9223372036854775807) (b1 : -9223372036854775808 ≤ x1 ∧ x1 ≤ 9223372036854775807) :
    Calls Tryz.prog 15 #[.agg #[.int .i64 x0, .int .i64 x1]] w fun e w' => ∃ q, e = .returned (RV q) ∧ smallR q ∧ Below w.heap.size w w' := by
  have A := Lib.hid ((PB.new 25 w (.int .i64 x0) (.int .i64 x1)).alloc (.cells #[.string ⟨#[]⟩, .string ⟨#[]⟩] 23))
  have Z := Lib.hid (show RBlk ((w.alloc (.cells #[.int .i64 x0, .int .i64 x1] 25)).alloc (.cells #[.string ⟨#[]⟩, .string ⟨#[]⟩] 23)) (w.heap.size + 1) (.string ⟨#[]⟩) (.string ⟨#[]⟩) by
    have h := RBlk.new (w.alloc (.cells #[.int .i64 x0, .int .i64 x1] 25)) (.string ⟨#[]⟩) (.string ⟨#[]⟩)
    rwa [World.size_alloc] at h)
  have HB := Lib.hid ((below_alloc w (.cells #[.int .i64 x0, .int .i64 x1] 25)).alloc (by rw [World.size_alloc]; omega) (.cells #[.string ⟨#[]⟩, .string ⟨#[]⟩] 23))
  go_enter Tryz.func15, Tryz.ntmps15
  go_upto_region 1 with fail
  generalize hW01 : ((w.alloc (.cells #[.int .i64 x0, .int .i64 x1] 25)).alloc (.cells #[.string ⟨#[]⟩, .string ⟨#[]⟩] 23)) = W01 at *
  clear hW01
  refine wp_region_noPanic ?_
  refine wp_region_held_drew (S := fun W => PB 25 W (w.heap.size) (.int .i64 x0) (.int .i64 x1)) (by kernel_rfl) ?_ (fun hHeld => ?_)
  · exact A.out
  have An := Lib.hid A.out.drew
  have Zn := Lib.hid Z.out.drew
  have HBn := Lib.hid HB.out.drew
  clear A Z HB
  have A := An
  have Z := Zn
  have HB := HBn
  clear An Zn HBn
  refine wpAnyH_take (i := 0) (oi := ({ dst := some 6, op := Go.Op.indexAddr 25 (Go.Operand.tmp 1) (Go.Operand.const (Go.Value.int Go.IntKind.i64 0)), type := 0, pos := "ref.go:237", after := #[], guard := none } : Oper)) (v := ?v0_1_1_1) rfl (by kernel_rfl) (by kernel_rfl) (by kernel_rfl) (fun _ _ _ h => h) (Or.inl ⟨by rfl, ?hy0_1_1_1⟩) (by assumption) ?re0_1_1_1
  case hy0_1_1_1 => ((intro w hSw; have e00 := hSw.c0; have e01 := hSw.c1; go_simp) <;> with_reducible rfl)
  (try simp only [Act.put, List.setIfInBounds_toArray, List.set_cons_zero, List.set_cons_succ])
  refine wpAnyH_take (i := 4) (oi := ({ dst := some 10, op := Go.Op.indexAddr 25 (Go.Operand.tmp 1) (Go.Operand.const (Go.Value.int Go.IntKind.i64 1)), type := 0, pos := "ref.go:237", after := #[], guard := none } : Oper)) (v := ?v4_2_1_1) rfl (by kernel_rfl) (by kernel_rfl) (by kernel_rfl) (fun _ _ _ h => h) (Or.inl ⟨by rfl, ?hy4_2_1_1⟩) (by assumption) ?re4_2_1_1
  case hy4_2_1_1 => ((intro w hSw; have e00 := hSw.c0; have e01 := hSw.c1; go_simp) <;> with_reducible rfl)
  (try simp only [Act.put, List.setIfInBounds_toArray, List.set_cons_zero, List.set_cons_succ])
  refine wpAnyH_take (i := 1) (oi := ({ dst := some 7, op := Go.Op.load 3 (Go.Operand.tmp 6), type := 3, pos := "ref.go:237", after := #[{ on := 0, ground := Go.Ground.data }], guard := none } : Oper)) (v := ?v1_3_1_1) rfl (by kernel_rfl) (by kernel_rfl) (by kernel_rfl) (fun _ _ _ h => h) (Or.inl ⟨by rfl, ?hy1_3_1_1⟩) (by assumption) ?re1_3_1_1
  case hy1_3_1_1 => ((intro w hSw; have e00 := hSw.c0; have e01 := hSw.c1; go_simp) <;> with_reducible rfl)
  (try simp only [Act.put, List.setIfInBounds_toArray, List.set_cons_zero, List.set_cons_succ])
  refine wpAnyH_take (i := 5) (oi := ({ dst := some 11, op := Go.Op.load 3 (Go.Operand.tmp 10), type := 3, pos := "ref.go:237", after := #[{ on := 4, ground := Go.Ground.data }], guard := none } : Oper)) (v := ?v5_4_1_1) rfl (by kernel_rfl) (by kernel_rfl) (by kernel_rfl) (fun _ _ _ h => h) (Or.inl ⟨by rfl, ?hy5_4_1_1⟩) (by assumption) ?re5_4_1_1
  case hy5_4_1_1 => ((intro w hSw; have e00 := hSw.c0; have e01 := hSw.c1; go_simp) <;> with_reducible rfl)
  (try simp only [Act.put, List.setIfInBounds_toArray, List.set_cons_zero, List.set_cons_succ])
  refine wpAnyH_ready (rs := [2, 12]) (by kernel_rfl) (by simp) ?_
  refine AllReadyH.cons (o := ({ dst := some 8, op := Go.Op.call { callee := Go.Callee.value (Go.Operand.func 55), args := #[Go.Operand.tmp 7, Go.Operand.const (Go.Value.int Go.IntKind.i64 1999)], argTypes := #[3, 3] }, type := 3, pos := "ref.go:237", after := #[{ on := 1, ground := Go.Ground.data }], guard := none } : Oper)) rfl (fun K hK => ?_) ?_
  · go_simp
    go_at_call 55
    refine (v4pick_1999 x0 _ b0.1 b0.2).mono ?_
    rintro e W1_1 ⟨p, rfl, hp, B⟩
    have An := Lib.hid (A.out.keep B A.out.lt)
    have Zn := Lib.hid (Z.out.keep B Z.out.lt)
    have HBn := Lib.hid (HB.out.trans (B.mono HB.out.size))
    clear A Z HB
    have A := An
    have Z := Zn
    have HB := HBn
    clear An Zn HBn
    have wp : IntKind.i64.wrap ((p : Int) - 999) = (p : Int) - 999 := by simp [IntKind.wrap, IntKind.bits, IntKind.signed]; omega
    (try go_wp2_with fail)
    refine hK.out _ _ ?_ (fun hHeld => ?_)
    · exact hHeld.keep B hHeld.lt
    clear hK K
    (try simp only [Act.put, List.setIfInBounds_toArray, List.set_cons_zero, List.set_cons_succ])
    clear B
    refine wpAnyH_take (i := 3) (oi := ({ dst := some 9, op := Go.Op.binOp Go.BinOp.sub 3 (Go.Operand.tmp 8) (Go.Operand.const (Go.Value.int Go.IntKind.i64 999)) 3, type := 3, pos := "ref.go:237", after := #[{ on := 2, ground := Go.Ground.data }], guard := none } : Oper)) (v := ?v3_5_1_1) rfl (by kernel_rfl) (by kernel_rfl) (by kernel_rfl) (fun _ _ _ h => h) (Or.inl ⟨by rfl, ?hy3_5_1_1⟩) (by assumption) ?re3_5_1_1
    case hy3_5_1_1 => ((intro w hSw; have e00 := hSw.c0; have e01 := hSw.c1; go_simp) <;> with_reducible rfl)
    (try simp only [Act.put, List.setIfInBounds_toArray, List.set_cons_zero, List.set_cons_succ])
    refine wpAnyH_ready (rs := [6, 12]) (by kernel_rfl) (by simp) ?_
    refine AllReadyH.cons (o := ({ dst := some 12, op := Go.Op.call { callee := Go.Callee.value (Go.Operand.func 55), args := #[Go.Operand.tmp 11, Go.Operand.const (Go.Value.int Go.IntKind.i64 60)], argTypes := #[3, 3] }, type := 3, pos := "ref.go:237", after := #[{ on := 5, ground := Go.Ground.data }, { on := 2, ground := Go.Ground.chain }], guard := none } : Oper)) rfl (fun K hK => ?_) ?_
    · go_simp
      go_at_call 55
      refine (v4pick_60 x1 _ b1.1 b1.2).mono ?_
      rintro e W1_2 ⟨q, rfl, hq, B⟩
      have An := Lib.hid (A.out.keep B A.out.lt)
      have Zn := Lib.hid (Z.out.keep B Z.out.lt)
      have HBn := Lib.hid (HB.out.trans (B.mono HB.out.size))
      clear A Z HB
      have A := An
      have Z := Zn
      have HB := HBn
      clear An Zn HBn
      have wq : IntKind.i64.wrap (1 + (q : Int)) = 1 + (q : Int) := by simp [IntKind.wrap, IntKind.bits, IntKind.signed]; omega
      have co := fun W => v4Of_R ((p : Int) - 999) (1 + (q : Int)) W (by omega) (by omega) (by omega)
      have hzz := small_of hp hq
      unfold RV at co
      generalize Rat.divInt ((p : Int) - 999) (1 + (q : Int)) = z at co hzz
      have CO := Lib.hid co
      have HZ := Lib.hid hzz
      clear co hzz
      (try go_wp2_with fail)
      refine hK.out _ _ ?_ (fun hHeld => ?_)
      · exact hHeld.keep B hHeld.lt
      clear hK K
      (try simp only [Act.put, List.setIfInBounds_toArray, List.set_cons_zero, List.set_cons_succ])
      clear B
      refine wpAnyH_take (i := 7) (oi := ({ dst := some 13, op := Go.Op.binOp Go.BinOp.add 3 (Go.Operand.const (Go.Value.int Go.IntKind.i64 1)) (Go.Operand.tmp 12) 3, type := 3, pos := "ref.go:237", after := #[{ on := 6, ground := Go.Ground.data }], guard := none } : Oper)) (v := ?v7_6_1_1) rfl (by kernel_rfl) (by kernel_rfl) (by kernel_rfl) (fun _ _ _ h => h) (Or.inl ⟨by rfl, ?hy7_6_1_1⟩) (by assumption) ?re7_6_1_1
      case hy7_6_1_1 => ((intro w hSw; have e00 := hSw.c0; have e01 := hSw.c1; go_simp) <;> with_reducible rfl)
      (try simp only [Act.put, List.setIfInBounds_toArray, List.set_cons_zero, List.set_cons_succ])
      refine wpAnyH_ready (rs := [8, 12]) (by kernel_rfl) (by simp) ?_
      refine AllReadyH.cons (o := ({ dst := some 14, op := Go.Op.call { callee := Go.Callee.value (Go.Operand.func 33), args := #[Go.Operand.tmp 9, Go.Operand.tmp 13], argTypes := #[3, 3] }, type := 36, pos := "ref.go:237", after := #[{ on := 3, ground := Go.Ground.data }, { on := 7, ground := Go.Ground.data }, { on := 6, ground := Go.Ground.chain }], guard := none } : Oper)) rfl (fun K hK => ?_) ?_
      · go_simp
        go_at_call 33
        refine (CO.out _).mono ?_
        rintro e W1_3 ⟨rfl, B⟩
        have An := Lib.hid (A.out.keep B A.out.lt)
        have Zn := Lib.hid (Z.out.keep B Z.out.lt)
        have HBn := Lib.hid (HB.out.trans (B.mono HB.out.size))
        clear A Z HB
        have A := An
        have Z := Zn
        have HB := HBn
        clear An Zn HBn
        (try go_wp2_with fail)
        refine hK.out _ _ ?_ (fun hHeld => ?_)
        · exact hHeld.keep B hHeld.lt
        clear hK K
        (try simp only [Act.put, List.setIfInBounds_toArray, List.set_cons_zero, List.set_cons_succ])
        clear B
        refine wpAnyH_take (i := 9) (oi := ({ dst := some 5, op := Go.Op.move (Go.Operand.tmp 14), type := 36, pos := "ref.go:237", after := #[{ on := 8, ground := Go.Ground.data }], guard := none } : Oper)) (v := ?v9_7_1_1) rfl (by kernel_rfl) (by kernel_rfl) (by kernel_rfl) (fun _ _ _ h => h) (Or.inl ⟨by rfl, ?hy9_7_1_1⟩) (by assumption) ?re9_7_1_1
        case hy9_7_1_1 => ((intro w hSw; have e00 := hSw.c0; have e01 := hSw.c1; go_simp) <;> with_reducible rfl)
        (try simp only [Act.put, List.setIfInBounds_toArray, List.set_cons_zero, List.set_cons_succ])
        refine wpAnyH_take (i := 10) (oi := ({ dst := some 15, op := Go.Op.extract (Go.Operand.tmp 5) 0, type := 23, pos := "ref.go:237", after := #[{ on := 9, ground := Go.Ground.data }], guard := none } : Oper)) (v := ?v10_8_1_1) rfl (by kernel_rfl) (by kernel_rfl) (by kernel_rfl) (fun _ _ _ h => h) (Or.inl ⟨by rfl, ?hy10_8_1_1⟩) (by assumption) ?re10_8_1_1
        case hy10_8_1_1 => ((intro w hSw; have e00 := hSw.c0; have e01 := hSw.c1; go_simp) <;> with_reducible rfl)
        (try simp only [Act.put, List.setIfInBounds_toArray, List.set_cons_zero, List.set_cons_succ])
        refine wpAnyH_take (i := 11) (oi := ({ dst := some 16, op := Go.Op.extract (Go.Operand.tmp 5) 1, type := 32, pos := "ref.go:237", after := #[{ on := 9, ground := Go.Ground.data }, { on := 13, ground := Go.Ground.gcOnly Go.Departure.lateStores }], guard := none } : Oper)) (v := ?v11_9_1_1) rfl (by kernel_rfl) (by kernel_rfl) (by kernel_rfl) (fun _ _ _ h => h) (Or.inl ⟨by rfl, ?hy11_9_1_1⟩) (by assumption) ?re11_9_1_1
        case hy11_9_1_1 => ((intro w hSw; have e00 := hSw.c0; have e01 := hSw.c1; go_simp) <;> with_reducible rfl)
        (try simp only [Act.put, List.setIfInBounds_toArray, List.set_cons_zero, List.set_cons_succ])
        refine wpAnyH_ready (rs := [12]) (by kernel_rfl) (by simp) ?_
        refine AllReadyH.cons (o := ({ dst := some 3, op := Go.Op.alloc 23, type := 0, pos := "ref.go:237", after := #[], guard := none } : Oper)) rfl (fun K hK => ?_) ?_
        · go_simp
          obtain ⟨WA1_4, hWA1_4⟩ : ∃ W, W = (W1_3.alloc (.cells #[.string ⟨#[]⟩, .string ⟨#[]⟩] 23)) := ⟨_, rfl⟩
          rw [← hWA1_4]
          have V : Hid (RBlk WA1_4 W1_3.heap.size (.string ⟨#[]⟩) (.string ⟨#[]⟩)) := Lib.hid (by rw [hWA1_4]; exact RBlk.new W1_3 (.string ⟨#[]⟩) (.string ⟨#[]⟩))
          have gV : w.heap.size ≤ W1_3.heap.size := HB.out.size
          have neVA : (w.heap.size) ≠ W1_3.heap.size := Nat.ne_of_lt A.out.lt
          have neVZ : (w.heap.size + 1) ≠ W1_3.heap.size := Nat.ne_of_lt Z.out.lt
          have hk : (fun W => PB 25 W (w.heap.size) (.int .i64 x0) (.int .i64 x1)) WA1_4 := by rw [hWA1_4]; exact hHeld.alloc _
          have An : Hid (PB 25 WA1_4 (w.heap.size) (.int .i64 x0) (.int .i64 x1)) := Lib.hid (by rw [hWA1_4]; exact A.out.alloc _)
          have Zn : Hid (RBlk WA1_4 (w.heap.size + 1) (.string ⟨#[]⟩) (.string ⟨#[]⟩)) := Lib.hid (by rw [hWA1_4]; exact Z.out.alloc _)
          have HBn : Hid (Below w.heap.size w WA1_4) := Lib.hid (by rw [hWA1_4]; exact HB.out.alloc HB.out.size _)
          clear A Z HB
          have A := An
          have Z := Zn
          have HB := HBn
          clear An Zn HBn
          clear hWA1_4
          refine hK.out _ _ ?_ (fun hHeld => ?_)
          · exact hk
          clear hK K
          (try simp only [Act.put, List.setIfInBounds_toArray, List.set_cons_zero, List.set_cons_succ])
          clear hk
          refine wpAnyH_ready (rs := [13]) (by kernel_rfl) (by simp) ?_
          refine AllReadyH.cons (o := ({ dst := none, op := Go.Op.store 23 (Go.Operand.tmp 3) (Go.Operand.tmp 15), type := 0, pos := "ref.go:237", after := #[{ on := 12, ground := Go.Ground.data }, { on := 10, ground := Go.Ground.data }, { on := 8, ground := Go.Ground.chain }, { on := 0, ground := Go.Ground.phase }, { on := 1, ground := Go.Ground.phase }, { on := 2, ground := Go.Ground.phase }, { on := 3, ground := Go.Ground.phase }, { on := 4, ground := Go.Ground.phase }, { on := 5, ground := Go.Ground.phase }, { on := 6, ground := Go.Ground.phase }, { on := 7, ground := Go.Ground.phase }, { on := 8, ground := Go.Ground.phase }, { on := 9, ground := Go.Ground.phase }, { on := 10, ground := Go.Ground.phase }, { on := 11, ground := Go.Ground.textOnly Go.Departure.lateStores }, { on := 12, ground := Go.Ground.phase }], guard := none } : Oper)) rfl (fun K hK => ?_) ?_
          · have c0 := V.out.c0
            have c1 := V.out.c1
            have f0 := V.out.f 0
            have f1 := V.out.f 1
            have hs := V.out.s0 (.string (S z.num))
            have d1 := hs.c1
            have g1 := hs.f 1
            go_simp
            have Vn := Lib.hid (hs.s1 (.string (S (z.den : Int))))
            have An := Lib.hid ((A.out.other ⟨W1_3.heap.size, 0, none⟩ (.string (S z.num)) neVA).other ⟨W1_3.heap.size, 1, none⟩ (.string (S (z.den : Int))) neVA)
            have Zn := Lib.hid ((Z.out.other ⟨W1_3.heap.size, 0, none⟩ (.string (S z.num)) neVZ).other ⟨W1_3.heap.size, 1, none⟩ (.string (S (z.den : Int))) neVZ)
            have HBn := Lib.hid ((HB.out.setCell (p := ⟨W1_3.heap.size, 0, none⟩) gV (.string (S z.num))).setCell (p := ⟨W1_3.heap.size, 1, none⟩) gV (.string (S (z.den : Int))))
            clear hs c0 c1 f0 f1 d1 g1
            clear V A Z HB
            have V := Vn
            have A := An
            have Z := Zn
            have HB := HBn
            clear Vn An Zn HBn
            refine hK.out _ _ ?_ (fun hHeld => ?_)
            · exact (hHeld.other ⟨W1_3.heap.size, 0, none⟩ (.string (S z.num)) neVA).other ⟨W1_3.heap.size, 1, none⟩ (.string (S (z.den : Int))) neVA
            clear hK K
            (try simp only [Act.put, List.setIfInBounds_toArray, List.set_cons_zero, List.set_cons_succ])
            refine wpAnyH_take (i := 14) (oi := ({ dst := some 4, op := Go.Op.assign (Go.Operand.tmp 16), type := 32, pos := "ref.go:237", after := #[{ on := 11, ground := Go.Ground.data }, { on := 13, ground := Go.Ground.chain }, { on := 0, ground := Go.Ground.phase }, { on := 1, ground := Go.Ground.phase }, { on := 2, ground := Go.Ground.phase }, { on := 3, ground := Go.Ground.phase }, { on := 4, ground := Go.Ground.phase }, { on := 5, ground := Go.Ground.phase }, { on := 6, ground := Go.Ground.phase }, { on := 7, ground := Go.Ground.phase }, { on := 8, ground := Go.Ground.phase }, { on := 9, ground := Go.Ground.phase }, { on := 10, ground := Go.Ground.phase }, { on := 11, ground := Go.Ground.phase }, { on := 12, ground := Go.Ground.phase }, { on := 13, ground := Go.Ground.phase }], guard := none } : Oper)) (v := ?v14_10_1_1) rfl (by kernel_rfl) (by kernel_rfl) (by kernel_rfl) (fun _ _ _ h => h) (Or.inl ⟨by rfl, ?hy14_10_1_1⟩) (by assumption) ?re14_10_1_1
            case hy14_10_1_1 => ((intro w hSw; have e00 := hSw.c0; have e01 := hSw.c1; go_simp) <;> with_reducible rfl)
            (try simp only [Act.put, List.setIfInBounds_toArray, List.set_cons_zero, List.set_cons_succ])
            refine wpAnyH_done (by kernel_rfl) ?_ _
            refine NoPanic.normal ?_
            have v0 := V.out.c0
            have v1 := V.out.c1
            have c0 := Z.out.c0
            have c1 := Z.out.c1
            have f0 := Z.out.f 0
            have f1 := Z.out.f 1
            have hs := Z.out.s0 (.string (S z.num))
            have d1 := hs.c1
            have g1 := hs.f 1
            have HS := Lib.hid (hs.s1 (.string (S (z.den : Int))))
            have HBS := Lib.hid ((HB.out.setCell (p := ⟨w.heap.size + 1, 0, none⟩) (by show w.heap.size ≤ w.heap.size + 1; omega) (.string (S z.num))).setCell (p := ⟨w.heap.size + 1, 1, none⟩) (by show w.heap.size ≤ w.heap.size + 1; omega) (.string (S (z.den : Int))))
            clear hs
            go_wp2_with fail
            refine bodyPost_ret (results_ratio1 rfl _ _ (w.heap.size + 1) _ _ rfl HS.out) rfl ?_
            exact ⟨z, rfl, HZ.out, HBS.out⟩
          exact AllReadyH.nil
        exact AllReadyH.nil
      refine AllReadyH.cons (o := ({ dst := some 3, op := Go.Op.alloc 23, type := 0, pos := "ref.go:237", after := #[], guard := none } : Oper)) rfl (fun K hK => ?_) ?_
      · go_simp
        obtain ⟨WA1_6, hWA1_6⟩ : ∃ W, W = (W1_2.alloc (.cells #[.string ⟨#[]⟩, .string ⟨#[]⟩] 23)) := ⟨_, rfl⟩
        rw [← hWA1_6]
        have V : Hid (RBlk WA1_6 W1_2.heap.size (.string ⟨#[]⟩) (.string ⟨#[]⟩)) := Lib.hid (by rw [hWA1_6]; exact RBlk.new W1_2 (.string ⟨#[]⟩) (.string ⟨#[]⟩))
        have gV : w.heap.size ≤ W1_2.heap.size := HB.out.size
        have neVA : (w.heap.size) ≠ W1_2.heap.size := Nat.ne_of_lt A.out.lt
        have neVZ : (w.heap.size + 1) ≠ W1_2.heap.size := Nat.ne_of_lt Z.out.lt
        have hk : (fun W => PB 25 W (w.heap.size) (.int .i64 x0) (.int .i64 x1)) WA1_6 := by rw [hWA1_6]; exact hHeld.alloc _
        have An : Hid (PB 25 WA1_6 (w.heap.size) (.int .i64 x0) (.int .i64 x1)) := Lib.hid (by rw [hWA1_6]; exact A.out.alloc _)
        have Zn : Hid (RBlk WA1_6 (w.heap.size + 1) (.string ⟨#[]⟩) (.string ⟨#[]⟩)) := Lib.hid (by rw [hWA1_6]; exact Z.out.alloc _)
        have HBn : Hid (Below w.heap.size w WA1_6) := Lib.hid (by rw [hWA1_6]; exact HB.out.alloc HB.out.size _)
        clear A Z HB
        have A := An
        have Z := Zn
        have HB := HBn
        clear An Zn HBn
        clear hWA1_6
        refine hK.out _ _ ?_ (fun hHeld => ?_)
        · exact hk
        clear hK K
        (try simp only [Act.put, List.setIfInBounds_toArray, List.set_cons_zero, List.set_cons_succ])
        clear hk
        refine wpAnyH_ready (rs := [8]) (by kernel_rfl) (by simp) ?_
        refine AllReadyH.cons (o := ({ dst := some 14, op := Go.Op.call { callee := Go.Callee.value (Go.Operand.func 33), args := #[Go.Operand.tmp 9, Go.Operand.tmp 13], argTypes := #[3, 3] }, type := 36, pos := "ref.go:237", after := #[{ on := 3, ground := Go.Ground.data }, { on := 7, ground := Go.Ground.data }, { on := 6, ground := Go.Ground.chain }], guard := none } : Oper)) rfl (fun K hK => ?_) ?_
        · go_simp
          go_at_call 33
          refine (CO.out _).mono ?_
          rintro e W1_7 ⟨rfl, B⟩
          have An := Lib.hid (A.out.keep B A.out.lt)
          have Zn := Lib.hid (Z.out.keep B Z.out.lt)
          have Vn := Lib.hid (V.out.keep B V.out.lt)
          have HBn := Lib.hid (HB.out.trans (B.mono HB.out.size))
          clear A Z V HB
          have A := An
          have Z := Zn
          have V := Vn
          have HB := HBn
          clear An Zn Vn HBn
          (try go_wp2_with fail)
          refine hK.out _ _ ?_ (fun hHeld => ?_)
          · exact hHeld.keep B hHeld.lt
          clear hK K
          (try simp only [Act.put, List.setIfInBounds_toArray, List.set_cons_zero, List.set_cons_succ])
          clear B
          refine wpAnyH_take (i := 9) (oi := ({ dst := some 5, op := Go.Op.move (Go.Operand.tmp 14), type := 36, pos := "ref.go:237", after := #[{ on := 8, ground := Go.Ground.data }], guard := none } : Oper)) (v := ?v9_11_1_1) rfl (by kernel_rfl) (by kernel_rfl) (by kernel_rfl) (fun _ _ _ h => h) (Or.inl ⟨by rfl, ?hy9_11_1_1⟩) (by assumption) ?re9_11_1_1
          case hy9_11_1_1 => ((intro w hSw; have e00 := hSw.c0; have e01 := hSw.c1; go_simp) <;> with_reducible rfl)
          (try simp only [Act.put, List.setIfInBounds_toArray, List.set_cons_zero, List.set_cons_succ])
          refine wpAnyH_take (i := 10) (oi := ({ dst := some 15, op := Go.Op.extract (Go.Operand.tmp 5) 0, type := 23, pos := "ref.go:237", after := #[{ on := 9, ground := Go.Ground.data }], guard := none } : Oper)) (v := ?v10_12_1_1) rfl (by kernel_rfl) (by kernel_rfl) (by kernel_rfl) (fun _ _ _ h => h) (Or.inl ⟨by rfl, ?hy10_12_1_1⟩) (by assumption) ?re10_12_1_1
          case hy10_12_1_1 => ((intro w hSw; have e00 := hSw.c0; have e01 := hSw.c1; go_simp) <;> with_reducible rfl)
          (try simp only [Act.put, List.setIfInBounds_toArray, List.set_cons_zero, List.set_cons_succ])
          refine wpAnyH_take (i := 11) (oi := ({ dst := some 16, op := Go.Op.extract (Go.Operand.tmp 5) 1, type := 32, pos := "ref.go:237", after := #[{ on := 9, ground := Go.Ground.data }, { on := 13, ground := Go.Ground.gcOnly Go.Departure.lateStores }], guard := none } : Oper)) (v := ?v11_13_1_1) rfl (by kernel_rfl) (by kernel_rfl) (by kernel_rfl) (fun _ _ _ h => h) (Or.inl ⟨by rfl, ?hy11_13_1_1⟩) (by assumption) ?re11_13_1_1
          case hy11_13_1_1 => ((intro w hSw; have e00 := hSw.c0; have e01 := hSw.c1; go_simp) <;> with_reducible rfl)
          (try simp only [Act.put, List.setIfInBounds_toArray, List.set_cons_zero, List.set_cons_succ])
          refine wpAnyH_ready (rs := [13]) (by kernel_rfl) (by simp) ?_
          refine AllReadyH.cons (o := ({ dst := none, op := Go.Op.store 23 (Go.Operand.tmp 3) (Go.Operand.tmp 15), type := 0, pos := "ref.go:237", after := #[{ on := 12, ground := Go.Ground.data }, { on := 10, ground := Go.Ground.data }, { on := 8, ground := Go.Ground.chain }, { on := 0, ground := Go.Ground.phase }, { on := 1, ground := Go.Ground.phase }, { on := 2, ground := Go.Ground.phase }, { on := 3, ground := Go.Ground.phase }, { on := 4, ground := Go.Ground.phase }, { on := 5, ground := Go.Ground.phase }, { on := 6, ground := Go.Ground.phase }, { on := 7, ground := Go.Ground.phase }, { on := 8, ground := Go.Ground.phase }, { on := 9, ground := Go.Ground.phase }, { on := 10, ground := Go.Ground.phase }, { on := 11, ground := Go.Ground.textOnly Go.Departure.lateStores }, { on := 12, ground := Go.Ground.phase }], guard := none } : Oper)) rfl (fun K hK => ?_) ?_
          · have c0 := V.out.c0
            have c1 := V.out.c1
            have f0 := V.out.f 0
            have f1 := V.out.f 1
            have hs := V.out.s0 (.string (S z.num))
            have d1 := hs.c1
            have g1 := hs.f 1
            go_simp
            have Vn := Lib.hid (hs.s1 (.string (S (z.den : Int))))
            have An := Lib.hid ((A.out.other ⟨W1_2.heap.size, 0, none⟩ (.string (S z.num)) neVA).other ⟨W1_2.heap.size, 1, none⟩ (.string (S (z.den : Int))) neVA)
            have Zn := Lib.hid ((Z.out.other ⟨W1_2.heap.size, 0, none⟩ (.string (S z.num)) neVZ).other ⟨W1_2.heap.size, 1, none⟩ (.string (S (z.den : Int))) neVZ)
            have HBn := Lib.hid ((HB.out.setCell (p := ⟨W1_2.heap.size, 0, none⟩) gV (.string (S z.num))).setCell (p := ⟨W1_2.heap.size, 1, none⟩) gV (.string (S (z.den : Int))))
            clear hs c0 c1 f0 f1 d1 g1
            clear V A Z HB
            have V := Vn
            have A := An
            have Z := Zn
            have HB := HBn
            clear Vn An Zn HBn
            refine hK.out _ _ ?_ (fun hHeld => ?_)
            · exact (hHeld.other ⟨W1_2.heap.size, 0, none⟩ (.string (S z.num)) neVA).other ⟨W1_2.heap.size, 1, none⟩ (.string (S (z.den : Int))) neVA
            clear hK K
            (try simp only [Act.put, List.setIfInBounds_toArray, List.set_cons_zero, List.set_cons_succ])
            refine wpAnyH_take (i := 14) (oi := ({ dst := some 4, op := Go.Op.assign (Go.Operand.tmp 16), type := 32, pos := "ref.go:237", after := #[{ on := 11, ground := Go.Ground.data }, { on := 13, ground := Go.Ground.chain }, { on := 0, ground := Go.Ground.phase }, { on := 1, ground := Go.Ground.phase }, { on := 2, ground := Go.Ground.phase }, { on := 3, ground := Go.Ground.phase }, { on := 4, ground := Go.Ground.phase }, { on := 5, ground := Go.Ground.phase }, { on := 6, ground := Go.Ground.phase }, { on := 7, ground := Go.Ground.phase }, { on := 8, ground := Go.Ground.phase }, { on := 9, ground := Go.Ground.phase }, { on := 10, ground := Go.Ground.phase }, { on := 11, ground := Go.Ground.phase }, { on := 12, ground := Go.Ground.phase }, { on := 13, ground := Go.Ground.phase }], guard := none } : Oper)) (v := ?v14_14_1_1) rfl (by kernel_rfl) (by kernel_rfl) (by kernel_rfl) (fun _ _ _ h => h) (Or.inl ⟨by rfl, ?hy14_14_1_1⟩) (by assumption) ?re14_14_1_1
            case hy14_14_1_1 => ((intro w hSw; have e00 := hSw.c0; have e01 := hSw.c1; go_simp) <;> with_reducible rfl)
            (try simp only [Act.put, List.setIfInBounds_toArray, List.set_cons_zero, List.set_cons_succ])
            refine wpAnyH_done (by kernel_rfl) ?_ _
            refine NoPanic.normal ?_
            have v0 := V.out.c0
            have v1 := V.out.c1
            have c0 := Z.out.c0
            have c1 := Z.out.c1
            have f0 := Z.out.f 0
            have f1 := Z.out.f 1
            have hs := Z.out.s0 (.string (S z.num))
            have d1 := hs.c1
            have g1 := hs.f 1
            have HS := Lib.hid (hs.s1 (.string (S (z.den : Int))))
            have HBS := Lib.hid ((HB.out.setCell (p := ⟨w.heap.size + 1, 0, none⟩) (by show w.heap.size ≤ w.heap.size + 1; omega) (.string (S z.num))).setCell (p := ⟨w.heap.size + 1, 1, none⟩) (by show w.heap.size ≤ w.heap.size + 1; omega) (.string (S (z.den : Int))))
            clear hs
            go_wp2_with fail
            refine bodyPost_ret (results_ratio1 rfl _ _ (w.heap.size + 1) _ _ rfl HS.out) rfl ?_
            exact ⟨z, rfl, HZ.out, HBS.out⟩
          exact AllReadyH.nil
        exact AllReadyH.nil
      exact AllReadyH.nil
    refine AllReadyH.cons (o := ({ dst := some 3, op := Go.Op.alloc 23, type := 0, pos := "ref.go:237", after := #[], guard := none } : Oper)) rfl (fun K hK => ?_) ?_
    · go_simp
      obtain ⟨WA1_9, hWA1_9⟩ : ∃ W, W = (W1_1.alloc (.cells #[.string ⟨#[]⟩, .string ⟨#[]⟩] 23)) := ⟨_, rfl⟩
      rw [← hWA1_9]
      have V : Hid (RBlk WA1_9 W1_1.heap.size (.string ⟨#[]⟩) (.string ⟨#[]⟩)) := Lib.hid (by rw [hWA1_9]; exact RBlk.new W1_1 (.string ⟨#[]⟩) (.string ⟨#[]⟩))
      have gV : w.heap.size ≤ W1_1.heap.size := HB.out.size
      have neVA : (w.heap.size) ≠ W1_1.heap.size := Nat.ne_of_lt A.out.lt
      have neVZ : (w.heap.size + 1) ≠ W1_1.heap.size := Nat.ne_of_lt Z.out.lt
      have hk : (fun W => PB 25 W (w.heap.size) (.int .i64 x0) (.int .i64 x1)) WA1_9 := by rw [hWA1_9]; exact hHeld.alloc _
      have An : Hid (PB 25 WA1_9 (w.heap.size) (.int .i64 x0) (.int .i64 x1)) := Lib.hid (by rw [hWA1_9]; exact A.out.alloc _)
      have Zn : Hid (RBlk WA1_9 (w.heap.size + 1) (.string ⟨#[]⟩) (.string ⟨#[]⟩)) := Lib.hid (by rw [hWA1_9]; exact Z.out.alloc _)
      have HBn : Hid (Below w.heap.size w WA1_9) := Lib.hid (by rw [hWA1_9]; exact HB.out.alloc HB.out.size _)
      clear A Z HB
      have A := An
      have Z := Zn
      have HB := HBn
      clear An Zn HBn
      clear hWA1_9
      refine hK.out _ _ ?_ (fun hHeld => ?_)
      · exact hk
      clear hK K
      (try simp only [Act.put, List.setIfInBounds_toArray, List.set_cons_zero, List.set_cons_succ])
      clear hk
      refine wpAnyH_ready (rs := [6]) (by kernel_rfl) (by simp) ?_
      refine AllReadyH.cons (o := ({ dst := some 12, op := Go.Op.call { callee := Go.Callee.value (Go.Operand.func 55), args := #[Go.Operand.tmp 11, Go.Operand.const (Go.Value.int Go.IntKind.i64 60)], argTypes := #[3, 3] }, type := 3, pos := "ref.go:237", after := #[{ on := 5, ground := Go.Ground.data }, { on := 2, ground := Go.Ground.chain }], guard := none } : Oper)) rfl (fun K hK => ?_) ?_
      · go_simp
        go_at_call 55
        refine (v4pick_60 x1 _ b1.1 b1.2).mono ?_
        rintro e W1_10 ⟨q, rfl, hq, B⟩
        have An := Lib.hid (A.out.keep B A.out.lt)
        have Zn := Lib.hid (Z.out.keep B Z.out.lt)
        have Vn := Lib.hid (V.out.keep B V.out.lt)
        have HBn := Lib.hid (HB.out.trans (B.mono HB.out.size))
        clear A Z V HB
        have A := An
        have Z := Zn
        have V := Vn
        have HB := HBn
        clear An Zn Vn HBn
        have wq : IntKind.i64.wrap (1 + (q : Int)) = 1 + (q : Int) := by simp [IntKind.wrap, IntKind.bits, IntKind.signed]; omega
        have co := fun W => v4Of_R ((p : Int) - 999) (1 + (q : Int)) W (by omega) (by omega) (by omega)
        have hzz := small_of hp hq
        unfold RV at co
        generalize Rat.divInt ((p : Int) - 999) (1 + (q : Int)) = z at co hzz
        have CO := Lib.hid co
        have HZ := Lib.hid hzz
        clear co hzz
        (try go_wp2_with fail)
        refine hK.out _ _ ?_ (fun hHeld => ?_)
        · exact hHeld.keep B hHeld.lt
        clear hK K
        (try simp only [Act.put, List.setIfInBounds_toArray, List.set_cons_zero, List.set_cons_succ])
        clear B
        refine wpAnyH_take (i := 7) (oi := ({ dst := some 13, op := Go.Op.binOp Go.BinOp.add 3 (Go.Operand.const (Go.Value.int Go.IntKind.i64 1)) (Go.Operand.tmp 12) 3, type := 3, pos := "ref.go:237", after := #[{ on := 6, ground := Go.Ground.data }], guard := none } : Oper)) (v := ?v7_15_1_1) rfl (by kernel_rfl) (by kernel_rfl) (by kernel_rfl) (fun _ _ _ h => h) (Or.inl ⟨by rfl, ?hy7_15_1_1⟩) (by assumption) ?re7_15_1_1
        case hy7_15_1_1 => ((intro w hSw; have e00 := hSw.c0; have e01 := hSw.c1; go_simp) <;> with_reducible rfl)
        (try simp only [Act.put, List.setIfInBounds_toArray, List.set_cons_zero, List.set_cons_succ])
        refine wpAnyH_ready (rs := [8]) (by kernel_rfl) (by simp) ?_
        refine AllReadyH.cons (o := ({ dst := some 14, op := Go.Op.call { callee := Go.Callee.value (Go.Operand.func 33), args := #[Go.Operand.tmp 9, Go.Operand.tmp 13], argTypes := #[3, 3] }, type := 36, pos := "ref.go:237", after := #[{ on := 3, ground := Go.Ground.data }, { on := 7, ground := Go.Ground.data }, { on := 6, ground := Go.Ground.chain }], guard := none } : Oper)) rfl (fun K hK => ?_) ?_
        · go_simp
          go_at_call 33
          refine (CO.out _).mono ?_
          rintro e W1_11 ⟨rfl, B⟩
          have An := Lib.hid (A.out.keep B A.out.lt)
          have Zn := Lib.hid (Z.out.keep B Z.out.lt)
          have Vn := Lib.hid (V.out.keep B V.out.lt)
          have HBn := Lib.hid (HB.out.trans (B.mono HB.out.size))
          clear A Z V HB
          have A := An
          have Z := Zn
          have V := Vn
          have HB := HBn
          clear An Zn Vn HBn
          (try go_wp2_with fail)
          refine hK.out _ _ ?_ (fun hHeld => ?_)
          · exact hHeld.keep B hHeld.lt
          clear hK K
          (try simp only [Act.put, List.setIfInBounds_toArray, List.set_cons_zero, List.set_cons_succ])
          clear B
          refine wpAnyH_take (i := 9) (oi := ({ dst := some 5, op := Go.Op.move (Go.Operand.tmp 14), type := 36, pos := "ref.go:237", after := #[{ on := 8, ground := Go.Ground.data }], guard := none } : Oper)) (v := ?v9_16_1_1) rfl (by kernel_rfl) (by kernel_rfl) (by kernel_rfl) (fun _ _ _ h => h) (Or.inl ⟨by rfl, ?hy9_16_1_1⟩) (by assumption) ?re9_16_1_1
          case hy9_16_1_1 => ((intro w hSw; have e00 := hSw.c0; have e01 := hSw.c1; go_simp) <;> with_reducible rfl)
          (try simp only [Act.put, List.setIfInBounds_toArray, List.set_cons_zero, List.set_cons_succ])
          refine wpAnyH_take (i := 10) (oi := ({ dst := some 15, op := Go.Op.extract (Go.Operand.tmp 5) 0, type := 23, pos := "ref.go:237", after := #[{ on := 9, ground := Go.Ground.data }], guard := none } : Oper)) (v := ?v10_17_1_1) rfl (by kernel_rfl) (by kernel_rfl) (by kernel_rfl) (fun _ _ _ h => h) (Or.inl ⟨by rfl, ?hy10_17_1_1⟩) (by assumption) ?re10_17_1_1
          case hy10_17_1_1 => ((intro w hSw; have e00 := hSw.c0; have e01 := hSw.c1; go_simp) <;> with_reducible rfl)
          (try simp only [Act.put, List.setIfInBounds_toArray, List.set_cons_zero, List.set_cons_succ])
          refine wpAnyH_take (i := 11) (oi := ({ dst := some 16, op := Go.Op.extract (Go.Operand.tmp 5) 1, type := 32, pos := "ref.go:237", after := #[{ on := 9, ground := Go.Ground.data }, { on := 13, ground := Go.Ground.gcOnly Go.Departure.lateStores }], guard := none } : Oper)) (v := ?v11_18_1_1) rfl (by kernel_rfl) (by kernel_rfl) (by kernel_rfl) (fun _ _ _ h => h) (Or.inl ⟨by rfl, ?hy11_18_1_1⟩) (by assumption) ?re11_18_1_1
          case hy11_18_1_1 => ((intro w hSw; have e00 := hSw.c0; have e01 := hSw.c1; go_simp) <;> with_reducible rfl)
          (try simp only [Act.put, List.setIfInBounds_toArray, List.set_cons_zero, List.set_cons_succ])
          refine wpAnyH_ready (rs := [13]) (by kernel_rfl) (by simp) ?_
          refine AllReadyH.cons (o := ({ dst := none, op := Go.Op.store 23 (Go.Operand.tmp 3) (Go.Operand.tmp 15), type := 0, pos := "ref.go:237", after := #[{ on := 12, ground := Go.Ground.data }, { on := 10, ground := Go.Ground.data }, { on := 8, ground := Go.Ground.chain }, { on := 0, ground := Go.Ground.phase }, { on := 1, ground := Go.Ground.phase }, { on := 2, ground := Go.Ground.phase }, { on := 3, ground := Go.Ground.phase }, { on := 4, ground := Go.Ground.phase }, { on := 5, ground := Go.Ground.phase }, { on := 6, ground := Go.Ground.phase }, { on := 7, ground := Go.Ground.phase }, { on := 8, ground := Go.Ground.phase }, { on := 9, ground := Go.Ground.phase }, { on := 10, ground := Go.Ground.phase }, { on := 11, ground := Go.Ground.textOnly Go.Departure.lateStores }, { on := 12, ground := Go.Ground.phase }], guard := none } : Oper)) rfl (fun K hK => ?_) ?_
          · have c0 := V.out.c0
            have c1 := V.out.c1
            have f0 := V.out.f 0
            have f1 := V.out.f 1
            have hs := V.out.s0 (.string (S z.num))
            have d1 := hs.c1
            have g1 := hs.f 1
            go_simp
            have Vn := Lib.hid (hs.s1 (.string (S (z.den : Int))))
            have An := Lib.hid ((A.out.other ⟨W1_1.heap.size, 0, none⟩ (.string (S z.num)) neVA).other ⟨W1_1.heap.size, 1, none⟩ (.string (S (z.den : Int))) neVA)
            have Zn := Lib.hid ((Z.out.other ⟨W1_1.heap.size, 0, none⟩ (.string (S z.num)) neVZ).other ⟨W1_1.heap.size, 1, none⟩ (.string (S (z.den : Int))) neVZ)
            have HBn := Lib.hid ((HB.out.setCell (p := ⟨W1_1.heap.size, 0, none⟩) gV (.string (S z.num))).setCell (p := ⟨W1_1.heap.size, 1, none⟩) gV (.string (S (z.den : Int))))
            clear hs c0 c1 f0 f1 d1 g1
            clear V A Z HB
            have V := Vn
            have A := An
            have Z := Zn
            have HB := HBn
            clear Vn An Zn HBn
            refine hK.out _ _ ?_ (fun hHeld => ?_)
            · exact (hHeld.other ⟨W1_1.heap.size, 0, none⟩ (.string (S z.num)) neVA).other ⟨W1_1.heap.size, 1, none⟩ (.string (S (z.den : Int))) neVA
            clear hK K
            (try simp only [Act.put, List.setIfInBounds_toArray, List.set_cons_zero, List.set_cons_succ])
            refine wpAnyH_take (i := 14) (oi := ({ dst := some 4, op := Go.Op.assign (Go.Operand.tmp 16), type := 32, pos := "ref.go:237", after := #[{ on := 11, ground := Go.Ground.data }, { on := 13, ground := Go.Ground.chain }, { on := 0, ground := Go.Ground.phase }, { on := 1, ground := Go.Ground.phase }, { on := 2, ground := Go.Ground.phase }, { on := 3, ground := Go.Ground.phase }, { on := 4, ground := Go.Ground.phase }, { on := 5, ground := Go.Ground.phase }, { on := 6, ground := Go.Ground.phase }, { on := 7, ground := Go.Ground.phase }, { on := 8, ground := Go.Ground.phase }, { on := 9, ground := Go.Ground.phase }, { on := 10, ground := Go.Ground.phase }, { on := 11, ground := Go.Ground.phase }, { on := 12, ground := Go.Ground.phase }, { on := 13, ground := Go.Ground.phase }], guard := none } : Oper)) (v := ?v14_19_1_1) rfl (by kernel_rfl) (by kernel_rfl) (by kernel_rfl) (fun _ _ _ h => h) (Or.inl ⟨by rfl, ?hy14_19_1_1⟩) (by assumption) ?re14_19_1_1
            case hy14_19_1_1 => ((intro w hSw; have e00 := hSw.c0; have e01 := hSw.c1; go_simp) <;> with_reducible rfl)
            (try simp only [Act.put, List.setIfInBounds_toArray, List.set_cons_zero, List.set_cons_succ])
            refine wpAnyH_done (by kernel_rfl) ?_ _
            refine NoPanic.normal ?_
            have v0 := V.out.c0
            have v1 := V.out.c1
            have c0 := Z.out.c0
            have c1 := Z.out.c1
            have f0 := Z.out.f 0
            have f1 := Z.out.f 1
            have hs := Z.out.s0 (.string (S z.num))
            have d1 := hs.c1
            have g1 := hs.f 1
            have HS := Lib.hid (hs.s1 (.string (S (z.den : Int))))
            have HBS := Lib.hid ((HB.out.setCell (p := ⟨w.heap.size + 1, 0, none⟩) (by show w.heap.size ≤ w.heap.size + 1; omega) (.string (S z.num))).setCell (p := ⟨w.heap.size + 1, 1, none⟩) (by show w.heap.size ≤ w.heap.size + 1; omega) (.string (S (z.den : Int))))
            clear hs
            go_wp2_with fail
            refine bodyPost_ret (results_ratio1 rfl _ _ (w.heap.size + 1) _ _ rfl HS.out) rfl ?_
            exact ⟨z, rfl, HZ.out, HBS.out⟩
          exact AllReadyH.nil
        exact AllReadyH.nil
      exact AllReadyH.nil
    exact AllReadyH.nil
  refine AllReadyH.cons (o := ({ dst := some 3, op := Go.Op.alloc 23, type := 0, pos := "ref.go:237", after := #[], guard := none } : Oper)) rfl (fun K hK => ?_) ?_
  · go_simp
    obtain ⟨WA1_13, hWA1_13⟩ : ∃ W, W = (W01.alloc (.cells #[.string ⟨#[]⟩, .string ⟨#[]⟩] 23)).drew := ⟨_, rfl⟩
    rw [← hWA1_13]
    have V : Hid (RBlk WA1_13 W01.heap.size (.string ⟨#[]⟩) (.string ⟨#[]⟩)) := Lib.hid (by rw [hWA1_13]; exact RBlk.new W01 (.string ⟨#[]⟩) (.string ⟨#[]⟩))
    have gV : w.heap.size ≤ W01.heap.size := HB.out.size
    have neVA : (w.heap.size) ≠ W01.heap.size := Nat.ne_of_lt A.out.lt
    have neVZ : (w.heap.size + 1) ≠ W01.heap.size := Nat.ne_of_lt Z.out.lt
    have hk : (fun W => PB 25 W (w.heap.size) (.int .i64 x0) (.int .i64 x1)) WA1_13 := by rw [hWA1_13]; exact hHeld.alloc _
    have An : Hid (PB 25 WA1_13 (w.heap.size) (.int .i64 x0) (.int .i64 x1)) := Lib.hid (by rw [hWA1_13]; exact A.out.alloc _)
    have Zn : Hid (RBlk WA1_13 (w.heap.size + 1) (.string ⟨#[]⟩) (.string ⟨#[]⟩)) := Lib.hid (by rw [hWA1_13]; exact Z.out.alloc _)
    have HBn : Hid (Below w.heap.size w WA1_13) := Lib.hid (by rw [hWA1_13]; exact HB.out.alloc HB.out.size _)
    clear A Z HB
    have A := An
    have Z := Zn
    have HB := HBn
    clear An Zn HBn
    clear hWA1_13
    refine hK.out _ _ ?_ (fun hHeld => ?_)
    · exact hk
    clear hK K
    (try simp only [Act.put, List.setIfInBounds_toArray, List.set_cons_zero, List.set_cons_succ])
    clear hk
    refine wpAnyH_ready (rs := [2]) (by kernel_rfl) (by simp) ?_
    refine AllReadyH.cons (o := ({ dst := some 8, op := Go.Op.call { callee := Go.Callee.value (Go.Operand.func 55), args := #[Go.Operand.tmp 7, Go.Operand.const (Go.Value.int Go.IntKind.i64 1999)], argTypes := #[3, 3] }, type := 3, pos := "ref.go:237", after := #[{ on := 1, ground := Go.Ground.data }], guard := none } : Oper)) rfl (fun K hK => ?_) ?_
    · go_simp
      go_at_call 55
      refine (v4pick_1999 x0 _ b0.1 b0.2).mono ?_
      rintro e W1_14 ⟨p, rfl, hp, B⟩
      have An := Lib.hid (A.out.keep B A.out.lt)
      have Zn := Lib.hid (Z.out.keep B Z.out.lt)
      have Vn := Lib.hid (V.out.keep B V.out.lt)
      have HBn := Lib.hid (HB.out.trans (B.mono HB.out.size))
      clear A Z V HB
      have A := An
      have Z := Zn
      have V := Vn
      have HB := HBn
      clear An Zn Vn HBn
      have wp : IntKind.i64.wrap ((p : Int) - 999) = (p : Int) - 999 := by simp [IntKind.wrap, IntKind.bits, IntKind.signed]; omega
      (try go_wp2_with fail)
      refine hK.out _ _ ?_ (fun hHeld => ?_)
      · exact hHeld.keep B hHeld.lt
      clear hK K
      (try simp only [Act.put, List.setIfInBounds_toArray, List.set_cons_zero, List.set_cons_succ])
      clear B
      refine wpAnyH_take (i := 3) (oi := ({ dst := some 9, op := Go.Op.binOp Go.BinOp.sub 3 (Go.Operand.tmp 8) (Go.Operand.const (Go.Value.int Go.IntKind.i64 999)) 3, type := 3, pos := "ref.go:237", after := #[{ on := 2, ground := Go.Ground.data }], guard := none } : Oper)) (v := ?v3_20_1_1) rfl (by kernel_rfl) (by kernel_rfl) (by kernel_rfl) (fun _ _ _ h => h) (Or.inl ⟨by rfl, ?hy3_20_1_1⟩) (by assumption) ?re3_20_1_1
      case hy3_20_1_1 => ((intro w hSw; have e00 := hSw.c0; have e01 := hSw.c1; go_simp) <;> with_reducible rfl)
      (try simp only [Act.put, List.setIfInBounds_toArray, List.set_cons_zero, List.set_cons_succ])
      refine wpAnyH_ready (rs := [6]) (by kernel_rfl) (by simp) ?_
      refine AllReadyH.cons (o := ({ dst := some 12, op := Go.Op.call { callee := Go.Callee.value (Go.Operand.func 55), args := #[Go.Operand.tmp 11, Go.Operand.const (Go.Value.int Go.IntKind.i64 60)], argTypes := #[3, 3] }, type := 3, pos := "ref.go:237", after := #[{ on := 5, ground := Go.Ground.data }, { on := 2, ground := Go.Ground.chain }], guard := none } : Oper)) rfl (fun K hK => ?_) ?_
      · go_simp
        go_at_call 55
        refine (v4pick_60 x1 _ b1.1 b1.2).mono ?_
        rintro e W1_15 ⟨q, rfl, hq, B⟩
        have An := Lib.hid (A.out.keep B A.out.lt)
        have Zn := Lib.hid (Z.out.keep B Z.out.lt)
        have Vn := Lib.hid (V.out.keep B V.out.lt)
        have HBn := Lib.hid (HB.out.trans (B.mono HB.out.size))
        clear A Z V HB
        have A := An
        have Z := Zn
        have V := Vn
        have HB := HBn
        clear An Zn Vn HBn
        have wq : IntKind.i64.wrap (1 + (q : Int)) = 1 + (q : Int) := by simp [IntKind.wrap, IntKind.bits, IntKind.signed]; omega
        have co := fun W => v4Of_R ((p : Int) - 999) (1 + (q : Int)) W (by omega) (by omega) (by omega)
        have hzz := small_of hp hq
        unfold RV at co
        generalize Rat.divInt ((p : Int) - 999) (1 + (q : Int)) = z at co hzz
        have CO := Lib.hid co
        have HZ := Lib.hid hzz
        clear co hzz
        (try go_wp2_with fail)
        refine hK.out _ _ ?_ (fun hHeld => ?_)
        · exact hHeld.keep B hHeld.lt
        clear hK K
        (try simp only [Act.put, List.setIfInBounds_toArray, List.set_cons_zero, List.set_cons_succ])
        clear B
        refine wpAnyH_take (i := 7) (oi := ({ dst := some 13, op := Go.Op.binOp Go.BinOp.add 3 (Go.Operand.const (Go.Value.int Go.IntKind.i64 1)) (Go.Operand.tmp 12) 3, type := 3, pos := "ref.go:237", after := #[{ on := 6, ground := Go.Ground.data }], guard := none } : Oper)) (v := ?v7_21_1_1) rfl (by kernel_rfl) (by kernel_rfl) (by kernel_rfl) (fun _ _ _ h => h) (Or.inl ⟨by rfl, ?hy7_21_1_1⟩) (by assumption) ?re7_21_1_1
        case hy7_21_1_1 => ((intro w hSw; have e00 := hSw.c0; have e01 := hSw.c1; go_simp) <;> with_reducible rfl)
        (try simp only [Act.put, List.setIfInBounds_toArray, List.set_cons_zero, List.set_cons_succ])
        refine wpAnyH_ready (rs := [8]) (by kernel_rfl) (by simp) ?_
        refine AllReadyH.cons (o := ({ dst := some 14, op := Go.Op.call { callee := Go.Callee.value (Go.Operand.func 33), args := #[Go.Operand.tmp 9, Go.Operand.tmp 13], argTypes := #[3, 3] }, type := 36, pos := "ref.go:237", after := #[{ on := 3, ground := Go.Ground.data }, { on := 7, ground := Go.Ground.data }, { on := 6, ground := Go.Ground.chain }], guard := none } : Oper)) rfl (fun K hK => ?_) ?_
        · go_simp
          go_at_call 33
          refine (CO.out _).mono ?_
          rintro e W1_16 ⟨rfl, B⟩
          have An := Lib.hid (A.out.keep B A.out.lt)
          have Zn := Lib.hid (Z.out.keep B Z.out.lt)
          have Vn := Lib.hid (V.out.keep B V.out.lt)
          have HBn := Lib.hid (HB.out.trans (B.mono HB.out.size))
          clear A Z V HB
          have A := An
          have Z := Zn
          have V := Vn
          have HB := HBn
          clear An Zn Vn HBn
          (try go_wp2_with fail)
          refine hK.out _ _ ?_ (fun hHeld => ?_)
          · exact hHeld.keep B hHeld.lt
          clear hK K
          (try simp only [Act.put, List.setIfInBounds_toArray, List.set_cons_zero, List.set_cons_succ])
          clear B
          refine wpAnyH_take (i := 9) (oi := ({ dst := some 5, op := Go.Op.move (Go.Operand.tmp 14), type := 36, pos := "ref.go:237", after := #[{ on := 8, ground := Go.Ground.data }], guard := none } : Oper)) (v := ?v9_22_1_1) rfl (by kernel_rfl) (by kernel_rfl) (by kernel_rfl) (fun _ _ _ h => h) (Or.inl ⟨by rfl, ?hy9_22_1_1⟩) (by assumption) ?re9_22_1_1
          case hy9_22_1_1 => ((intro w hSw; have e00 := hSw.c0; have e01 := hSw.c1; go_simp) <;> with_reducible rfl)
          (try simp only [Act.put, List.setIfInBounds_toArray, List.set_cons_zero, List.set_cons_succ])
          refine wpAnyH_take (i := 10) (oi := ({ dst := some 15, op := Go.Op.extract (Go.Operand.tmp 5) 0, type := 23, pos := "ref.go:237", after := #[{ on := 9, ground := Go.Ground.data }], guard := none } : Oper)) (v := ?v10_23_1_1) rfl (by kernel_rfl) (by kernel_rfl) (by kernel_rfl) (fun _ _ _ h => h) (Or.inl ⟨by rfl, ?hy10_23_1_1⟩) (by assumption) ?re10_23_1_1
          case hy10_23_1_1 => ((intro w hSw; have e00 := hSw.c0; have e01 := hSw.c1; go_simp) <;> with_reducible rfl)
          (try simp only [Act.put, List.setIfInBounds_toArray, List.set_cons_zero, List.set_cons_succ])
          refine wpAnyH_take (i := 11) (oi := ({ dst := some 16, op := Go.Op.extract (Go.Operand.tmp 5) 1, type := 32, pos := "ref.go:237", after := #[{ on := 9, ground := Go.Ground.data }, { on := 13, ground := Go.Ground.gcOnly Go.Departure.lateStores }], guard := none } : Oper)) (v := ?v11_24_1_1) rfl (by kernel_rfl) (by kernel_rfl) (by kernel_rfl) (fun _ _ _ h => h) (Or.inl ⟨by rfl, ?hy11_24_1_1⟩) (by assumption) ?re11_24_1_1
          case hy11_24_1_1 => ((intro w hSw; have e00 := hSw.c0; have e01 := hSw.c1; go_simp) <;> with_reducible rfl)
          (try simp only [Act.put, List.setIfInBounds_toArray, List.set_cons_zero, List.set_cons_succ])
          refine wpAnyH_ready (rs := [13]) (by kernel_rfl) (by simp) ?_
          refine AllReadyH.cons (o := ({ dst := none, op := Go.Op.store 23 (Go.Operand.tmp 3) (Go.Operand.tmp 15), type := 0, pos := "ref.go:237", after := #[{ on := 12, ground := Go.Ground.data }, { on := 10, ground := Go.Ground.data }, { on := 8, ground := Go.Ground.chain }, { on := 0, ground := Go.Ground.phase }, { on := 1, ground := Go.Ground.phase }, { on := 2, ground := Go.Ground.phase }, { on := 3, ground := Go.Ground.phase }, { on := 4, ground := Go.Ground.phase }, { on := 5, ground := Go.Ground.phase }, { on := 6, ground := Go.Ground.phase }, { on := 7, ground := Go.Ground.phase }, { on := 8, ground := Go.Ground.phase }, { on := 9, ground := Go.Ground.phase }, { on := 10, ground := Go.Ground.phase }, { on := 11, ground := Go.Ground.textOnly Go.Departure.lateStores }, { on := 12, ground := Go.Ground.phase }], guard := none } : Oper)) rfl (fun K hK => ?_) ?_
          · have c0 := V.out.c0
            have c1 := V.out.c1
            have f0 := V.out.f 0
            have f1 := V.out.f 1
            have hs := V.out.s0 (.string (S z.num))
            have d1 := hs.c1
            have g1 := hs.f 1
            go_simp
            have Vn := Lib.hid (hs.s1 (.string (S (z.den : Int))))
            have An := Lib.hid ((A.out.other ⟨W01.heap.size, 0, none⟩ (.string (S z.num)) neVA).other ⟨W01.heap.size, 1, none⟩ (.string (S (z.den : Int))) neVA)
            have Zn := Lib.hid ((Z.out.other ⟨W01.heap.size, 0, none⟩ (.string (S z.num)) neVZ).other ⟨W01.heap.size, 1, none⟩ (.string (S (z.den : Int))) neVZ)
            have HBn := Lib.hid ((HB.out.setCell (p := ⟨W01.heap.size, 0, none⟩) gV (.string (S z.num))).setCell (p := ⟨W01.heap.size, 1, none⟩) gV (.string (S (z.den : Int))))
            clear hs c0 c1 f0 f1 d1 g1
            clear V A Z HB
            have V := Vn
            have A := An
            have Z := Zn
            have HB := HBn
            clear Vn An Zn HBn
            refine hK.out _ _ ?_ (fun hHeld => ?_)
            · exact (hHeld.other ⟨W01.heap.size, 0, none⟩ (.string (S z.num)) neVA).other ⟨W01.heap.size, 1, none⟩ (.string (S (z.den : Int))) neVA
            clear hK K
            (try simp only [Act.put, List.setIfInBounds_toArray, List.set_cons_zero, List.set_cons_succ])
            refine wpAnyH_take (i := 14) (oi := ({ dst := some 4, op := Go.Op.assign (Go.Operand.tmp 16), type := 32, pos := "ref.go:237", after := #[{ on := 11, ground := Go.Ground.data }, { on := 13, ground := Go.Ground.chain }, { on := 0, ground := Go.Ground.phase }, { on := 1, ground := Go.Ground.phase }, { on := 2, ground := Go.Ground.phase }, { on := 3, ground := Go.Ground.phase }, { on := 4, ground := Go.Ground.phase }, { on := 5, ground := Go.Ground.phase }, { on := 6, ground := Go.Ground.phase }, { on := 7, ground := Go.Ground.phase }, { on := 8, ground := Go.Ground.phase }, { on := 9, ground := Go.Ground.phase }, { on := 10, ground := Go.Ground.phase }, { on := 11, ground := Go.Ground.phase }, { on := 12, ground := Go.Ground.phase }, { on := 13, ground := Go.Ground.phase }], guard := none } : Oper)) (v := ?v14_25_1_1) rfl (by kernel_rfl) (by kernel_rfl) (by kernel_rfl) (fun _ _ _ h => h) (Or.inl ⟨by rfl, ?hy14_25_1_1⟩) (by assumption) ?re14_25_1_1
            case hy14_25_1_1 => ((intro w hSw; have e00 := hSw.c0; have e01 := hSw.c1; go_simp) <;> with_reducible rfl)
            (try simp only [Act.put, List.setIfInBounds_toArray, List.set_cons_zero, List.set_cons_succ])
            refine wpAnyH_done (by kernel_rfl) ?_ _
            refine NoPanic.normal ?_
            have v0 := V.out.c0
            have v1 := V.out.c1
            have c0 := Z.out.c0
            have c1 := Z.out.c1
            have f0 := Z.out.f 0
            have f1 := Z.out.f 1
            have hs := Z.out.s0 (.string (S z.num))
            have d1 := hs.c1
            have g1 := hs.f 1
            have HS := Lib.hid (hs.s1 (.string (S (z.den : Int))))
            have HBS := Lib.hid ((HB.out.setCell (p := ⟨w.heap.size + 1, 0, none⟩) (by show w.heap.size ≤ w.heap.size + 1; omega) (.string (S z.num))).setCell (p := ⟨w.heap.size + 1, 1, none⟩) (by show w.heap.size ≤ w.heap.size + 1; omega) (.string (S (z.den : Int))))
            clear hs
            go_wp2_with fail
            refine bodyPost_ret (results_ratio1 rfl _ _ (w.heap.size + 1) _ _ rfl HS.out) rfl ?_
            exact ⟨z, rfl, HZ.out, HBS.out⟩
          exact AllReadyH.nil
        exact AllReadyH.nil
      exact AllReadyH.nil
    exact AllReadyH.nil
  exact AllReadyH.nil
end Go.Proofs.YtdnbhgkbfbgnaaaGreatDoor



namespace Go.Proofs.YtdnbhgkbfbgnaaaGreatDoor
open Go.RowKit

/-- a natural number of at most 100 digits, in writing -/
def DG (s : ByteArray) : Prop := ∃ n : Nat, s = S (n : Int) ∧ n < 10 ^ 100
theorem dg_of {s : ByteArray} {L : List UInt8} (hL : s.data.toList = L) (ha : L.all isDg = true) (h0 : 0 < L.length) (h9 : L.length ≤ 100) (hd : L.length = 1 ∨ L.head? ≠ some 48) : DG s := by
  have key : ∃ n, L = txN n := by
    by_cases h : L.head? = some 48
    · have h1 := hd.resolve_right (fun e => e h)
      refine ⟨0, ?_⟩
      match L, h1, h with
      | [c], _, h => simp at h; subst h; rw [← dec_txN]; rw [Lib.decDigits, dif_pos (by decide)]; rfl
    · exact ⟨_, (txN_of ha h0 h).1.symm⟩
  obtain ⟨n, hn⟩ := key
  refine ⟨n, ?_, txN_len' (by rw [← hn]; exact h9)⟩
  refine S_of hL ?_
  rw [txt, if_neg (by omega), Int.natAbs_natCast]; exact hn
theorem dgit (c : Nat) : isDg (UInt8.ofNat (48 + c % 10)) = true := by
  rw [isDg_iff, UInt8.toNat_ofNat_of_lt' (by show 48 + c % 10 < 256; omega)]
  omega

theorem S_minus (n : Int) (h : 0 < n) : S (-n) = ⟨#[45]⟩ ++ S n := by
  refine toList_inj ?_
  rw [ByteArray.toList_eq, ByteArray.toList_eq, ByteArray.data_append, Array.toList_append, S_list, S_list, txt, if_pos (by omega), txt, if_neg (by omega), Int.natAbs_neg]
  rfl
theorem mk_fit100 (n d : Int) (hn : n.natAbs < 10 ^ 100) (hd : d.natAbs < 10 ^ 100) (h0 : d ≠ 0) : fitR 100 (Rat.divInt n d) := by
  rw [← sg_R]
  exact mk_fit (by unfold sg; split <;> omega) (by unfold sg; split <;> omega) (by have := sg_pos h0; omega)

set_option maxRecDepth 100000 in
set_option maxHeartbeats 8000000 in
theorem Long_any (x0 x1 x2 x3 : Int) (w : World) (b0 : -9223372036854775808 ≤ x0 ∧ x0 ≤ 9223372036854775807) (b1 : -9223372036854775808 ≤ x1 ∧ x1 ≤ 9223372036854775807) (b2 : -9223372036854775808 ≤ x2 ∧ x2 ≤ 9223372036854775807) (b3 : -9223372036854775808 ≤ x3 ∧ x3 ≤ 9223372036854775807) :
    Calls Tryz.prog 14 #[.agg #[.int .i64 x0, .int .i64 x1, .int .i64 x2, .int .i64 x3]] w fun e w' => ∃ q, e = .returned (RV q) ∧ fitR 100 q ∧ Below w.heap.size w w' := by
  have h1 : (w.alloc (.cells #[.int .i64 x0, .int .i64 x1, .int .i64 x2, .int .i64 x3] 24)).heap.size = w.heap.size + 1 := World.size_alloc _ _
  have h2 : ((w.alloc (.cells #[.int .i64 x0, .int .i64 x1, .int .i64 x2, .int .i64 x3] 24)).alloc (.cells #[.string ⟨#[]⟩, .string ⟨#[]⟩] 23)).heap.size = w.heap.size + 1 + 1 := by rw [World.size_alloc, h1]
  have A := Lib.hid (((CBlk.new w #[.int .i64 x0, .int .i64 x1, .int .i64 x2, .int .i64 x3] 24).alloc (.cells #[.string ⟨#[]⟩, .string ⟨#[]⟩] 23)).alloc (.cells #[.string ⟨#[]⟩, .string ⟨#[]⟩] 73))
  have Z := Lib.hid ((h1 ▸ RBlk.new (w.alloc (.cells #[.int .i64 x0, .int .i64 x1, .int .i64 x2, .int .i64 x3] 24)) (.string ⟨#[]⟩) (.string ⟨#[]⟩) : RBlk ((w.alloc (.cells #[.int .i64 x0, .int .i64 x1, .int .i64 x2, .int .i64 x3] 24)).alloc (.cells #[.string ⟨#[]⟩, .string ⟨#[]⟩] 23)) (w.heap.size + 1) (.string ⟨#[]⟩) (.string ⟨#[]⟩)).alloc (.cells #[.string ⟨#[]⟩, .string ⟨#[]⟩] 73))
  have O := Lib.hid (h2 ▸ PB.new 73 ((w.alloc (.cells #[.int .i64 x0, .int .i64 x1, .int .i64 x2, .int .i64 x3] 24)).alloc (.cells #[.string ⟨#[]⟩, .string ⟨#[]⟩] 23)) (.string ⟨#[]⟩) (.string ⟨#[]⟩) : PB 73 (((w.alloc (.cells #[.int .i64 x0, .int .i64 x1, .int .i64 x2, .int .i64 x3] 24)).alloc (.cells #[.string ⟨#[]⟩, .string ⟨#[]⟩] 23)).alloc (.cells #[.string ⟨#[]⟩, .string ⟨#[]⟩] 73)) (w.heap.size + 1 + 1) (.string ⟨#[]⟩) (.string ⟨#[]⟩))
  have HB := Lib.hid (((below_alloc w (.cells #[.int .i64 x0, .int .i64 x1, .int .i64 x2, .int .i64 x3] 24)).alloc (by rw [h1]; omega) (.cells #[.string ⟨#[]⟩, .string ⟨#[]⟩] 23)).alloc (by rw [h2]; omega) (.cells #[.string ⟨#[]⟩, .string ⟨#[]⟩] 73))
  clear h1 h2
  go_enter Tryz.func14, Tryz.ntmps14
  go_wp2_with fail
  go_loopw [4] (fun kv wr => ∃ (k : Nat) (o0 o1 : ByteArray), k ≤ 2 ∧ kv = .int .i64 (k : Int) ∧ Hid (CBlk wr w.heap.size #[.int .i64 x0, .int .i64 x1, .int .i64 x2, .int .i64 x3] 24) ∧ Hid (RBlk wr (w.heap.size + 1) (.string ⟨#[]⟩) (.string ⟨#[]⟩)) ∧ Hid (PB 73 wr (w.heap.size + 1 + 1) (.string o0) (.string o1)) ∧ Hid ((0 < k → DG o0) ∧ (1 < k → DG o1)) ∧ Hid (Below w.heap.size w wr)) (fun i _ => 2 - (intOf i).toNat)
  case atStart => exact ⟨0, _, _, by omega, rfl, A, Z, O, Lib.hid ⟨fun h => absurd h (by decide), fun h => absurd h (by decide)⟩, HB⟩
  case round =>
    clear A Z O HB
    obtain ⟨k, o0, o1, hk, rfl, A, Z, O, HD, HB⟩ := hrel
    by_cases hlt : k < 2
    · rcases (by omega : k = 0 ∨ k = 1) with rfl | rfl
      · have Ac0 := A.out.c 0 rfl
        have Ac1 := A.out.c 1 rfl
        go_wp2_with fail
        go_at_call 55
        refine (v4pick_100 x1 _ b1.1 b1.2).mono ?_
        rintro e WA ⟨n0, rfl, hn0, B⟩
        clear Ac0 Ac1
        have An := Lib.hid (A.out.keep B A.out.lt)
        have Zn := Lib.hid (Z.out.keep B Z.out.lt)
        have On := Lib.hid (O.out.keep B O.out.lt)
        have HBn := Lib.hid (HB.out.trans (B.mono HB.out.size))
        clear A Z O HB
        have A := An
        have Z := Zn
        have O := On
        have HB := HBn
        clear An Zn On HBn
        clear B
        have wn : IntKind.i64.wrap (1 + (n0 : Int)) = 1 + (n0 : Int) := by simp [IntKind.wrap, IntKind.bits, IntKind.signed]; omega
        have Ac0 := A.out.c 0 rfl
        go_wp2_with fail
        go_at_call 55
        refine (v4pick_1000000007 x0 _ b0.1 b0.2).mono ?_
        rintro e WB ⟨c0, rfl, hc0, B⟩
        clear Ac0
        have An := Lib.hid (A.out.keep B A.out.lt)
        have Zn := Lib.hid (Z.out.keep B Z.out.lt)
        have On := Lib.hid (O.out.keep B O.out.lt)
        have HBn := Lib.hid (HB.out.trans (B.mono HB.out.size))
        clear A Z O HB
        have A := An
        have Z := Zn
        have O := On
        have HB := HBn
        clear An Zn On HBn
        clear B
        go_wp2_with fail
        go_loopw [6, 7] (fun sv cv wr => ∃ (t : ByteArray) (c : Nat), sv = .string t ∧ cv = .int .i64 (c : Int) ∧ Hid (t.data.toList.all isDg = true) ∧ t.size ≤ 1 + n0 ∧ c < 2147483647 ∧ Hid (CBlk wr w.heap.size #[.int .i64 x0, .int .i64 x1, .int .i64 x2, .int .i64 x3] 24) ∧ Hid (RBlk wr (w.heap.size + 1) (.string ⟨#[]⟩) (.string ⟨#[]⟩)) ∧ Hid (PB 73 wr (w.heap.size + 1 + 1) (.string o0) (.string o1)) ∧ Hid (Below w.heap.size w wr)) (fun sv _ _ => 1 + n0 - (match sv with | .string t => t.size | _ => 0))
        case atStart => exact ⟨_, c0, rfl, rfl, Lib.hid rfl, by show 0 ≤ _; omega, by omega, A, Z, O, HB⟩
        case round =>
          clear A Z O HB
          obtain ⟨t, c, rfl, rfl, hT, hsz, hc, A, Z, O, HB⟩ := hrel
          by_cases hlt : t.size < 1 + n0
          · have hli : ((t.size : Nat) : Int) < 1 + (n0 : Int) := by omega
            have w1 : IntKind.i64.wrap ((c : Int) * 48271) = (c : Int) * 48271 := by simp [IntKind.wrap, IntKind.bits, IntKind.signed]; omega
            have w2 : IntKind.i64.wrap ((c : Int) * 48271 + 11) = (c : Int) * 48271 + 11 := by simp [IntKind.wrap, IntKind.bits, IntKind.signed]; omega
            obtain ⟨c2, hc2⟩ : ∃ c2 : Nat, c2 = (c * 48271 + 11) % 2147483647 := ⟨_, rfl⟩
            have hc2i : ((c : Int) * 48271 + 11) % 2147483647 = (c2 : Int) := by omega
            have hc29 : c2 < 2147483647 := by omega
            obtain ⟨d, hd⟩ : ∃ d : UInt8, d = UInt8.ofNat (48 + c2 / 65536 % 10) := ⟨_, rfl⟩
            have hdn : d.toNat = 48 + c2 / 65536 % 10 := by rw [hd, UInt8.toNat_ofNat_of_lt' (by show 48 + c2 / 65536 % 10 < 256; omega)]
            have hdv : (48 : Int) + (c2 : Int) / 65536 % 10 = (d.toNat : Int) := by omega
            have hdd := Lib.hid (show isDg d = true by rw [hd]; exact dgit (c2 / 65536))
            have wd : IntKind.u8.wrap (d.toNat : Int) = (d.toNat : Int) := by have := d.toNat_lt; simp [IntKind.wrap, IntKind.bits, IntKind.signed]; omega
            have hcv := run_convert_bytes_back (P := Tryz.prog) (wr.alloc (.cells #[.int .u8 (d.toNat : Int)] 5)) 48 9 5 ⟨wr.heap.size, 0, none⟩ 1 [d] Tryz.underlying48 Tryz.underlying5 Tryz.underlying9 (fun j hj => by
              obtain rfl : j = 0 := by simpa using hj
              rw [World.cell?]
              rw [show (⟨wr.heap.size, 0, none⟩ : Addr).add 0 = ⟨wr.heap.size, 0, none⟩ from rfl, Go.heap_alloc_new]; rfl)
            rw [show ([d] : List UInt8).length = 1 from rfl] at hcv
            have zz : (⟨([d] : List UInt8).toArray⟩ : ByteArray).size = 1 := rfl
            have hds := Lib.hid (show (⟨([d] : List UInt8).toArray⟩ : ByteArray).data.toList = [d] by simp)
            generalize (⟨([d] : List UInt8).toArray⟩ : ByteArray) = ds at *
            clear hc2 hd hdn hli
            have hli : ((t.size : Nat) : Int) < 1 + (n0 : Int) := by omega
            go_wp2_with fail
            go_roundw
            case rel => exact ⟨t ++ ds, c2, rfl, by rw [hc2i], Lib.hid (by rw [ByteArray.data_append, Array.toList_append, List.all_append, hT.out, hds.out, List.all_cons, hdd.out]; rfl), by rw [ByteArray.size_append]; omega, hc29, Lib.hid (A.out.alloc _), Lib.hid (Z.out.alloc _), Lib.hid (O.out.alloc _), Lib.hid (HB.out.alloc HB.out.size _)⟩
            case measure => show 1 + n0 - (t ++ ds).size < 1 + n0 - t.size; rw [ByteArray.size_append]; omega
          · have hli : ¬ (((t.size : Nat) : Int) < 1 + (n0 : Int)) := by omega
            have ht1 : 0 < t.size := by omega
            have ht9 : t.size ≤ 100 := by omega
            go_wp2_with fail
            go_loopw [6] (fun sv wq => ∃ t : ByteArray, sv = .string t ∧ Hid (t.data.toList.all isDg = true) ∧ 0 < t.size ∧ t.size ≤ 100 ∧ wr = wq) (fun sv _ => match sv with | .string t => t.size | _ => 0)
            case atStart => exact ⟨t, rfl, hT, ht1, ht9, by first | rfl | trivial⟩
            case round =>
              clear hT ht1 ht9 hsz hlt hli
              obtain ⟨t, rfl, hT, ht1, ht9, hw⟩ := hrel
              subst hw
              obtain ⟨l, hl⟩ : ∃ l, t.data.toList = l := ⟨_, rfl⟩
              have hs := bytes_size hl
              cases l with
              | nil => rw [List.length_nil] at hs; omega
              | cons x l =>
                rw [List.length_cons] at hs
                have hx := bytes_head hl ht1
                have htl := bytes_tail hl
                have HL := Lib.hid hl
                have HTL := Lib.hid htl
                have HS := Lib.hid hs
                clear hl htl
                cases l with
                | nil =>
                  have HG := Lib.hid (dg_of HL.out (by rw [← HL.out]; exact hT.out) (by rw [List.length_cons]; omega) (by rw [List.length_cons, List.length_nil]; omega) (.inl rfl))
                  rw [List.length_nil] at hs
                  have e0 : decide ((1 : Int) < (t.size : Int)) = false := by rw [hs]; rfl
                  clear hs hx HS
                  have Oc := O.out.c0
                  have Of := O.out.f 0
                  go_wp2_with fail
                  go_roundw
                  case rel => exact ⟨1, t, o1, by omega, by go_num, Lib.hid (A.out.other ⟨w.heap.size + 1 + 1, 0, none⟩ (.string t) (by show w.heap.size ≠ w.heap.size + 1 + 1; omega)), Lib.hid (Z.out.other ⟨w.heap.size + 1 + 1, 0, none⟩ (.string t) (by show w.heap.size + 1 ≠ w.heap.size + 1 + 1; omega)), Lib.hid (O.out.s0 (.string t)), Lib.hid ⟨fun _ => HG.out, fun h => absurd h (by decide)⟩, Lib.hid (HB.out.setCell (p := ⟨w.heap.size + 1 + 1, 0, none⟩) (by show w.heap.size ≤ w.heap.size + 1 + 1; omega) (.string t))⟩
                  case measure => simp [intOf]
                | cons y l =>
                  rw [List.length_cons] at hs
                  have e0 : decide ((1 : Int) < (t.size : Int)) = true := by rw [decide_eq_true_eq]; omega
                  by_cases h48 : x = 48
                  · have H48 := Lib.hid h48
                    have e2 : ((x.toNat : Int) == 48) = true := by rw [h48]; rfl
                    clear h48 hs
                    go_wp2_with fail
                    go_roundw
                    case rel =>
                      refine ⟨_, rfl, Lib.hid ?_, ?_, ?_, by first | rfl | trivial⟩
                      · rw [HTL.out]; have h := hT.out; rw [HL.out, List.all_cons, Bool.and_eq_true] at h; exact h.2
                      · rw [ByteArray.size_extract, HS.out, List.length_cons]; omega
                      · rw [ByteArray.size_extract]; omega
                    case measure => show (t.extract 1 t.size).size < t.size; rw [ByteArray.size_extract]; omega
                  · have HG := Lib.hid (dg_of HL.out (by rw [← HL.out]; exact hT.out) (by rw [List.length_cons]; omega) (by rw [List.length_cons, ← HS.out]; exact ht9) (.inr (by simp only [List.head?_cons]; intro e; exact h48 (Option.some.inj e))))
                    have e2 : ((x.toNat : Int) == 48) = false := by
                      rw [beq_eq_false_iff_ne]; intro e
                      exact h48 (UInt8.toNat_inj.1 (by have h48n : (48 : UInt8).toNat = 48 := rfl; omega))
                    clear h48 hs
                    have Oc := O.out.c0
                    have Of := O.out.f 0
                    go_wp2_with fail
                    go_roundw
                    case rel => exact ⟨1, t, o1, by omega, by go_num, Lib.hid (A.out.other ⟨w.heap.size + 1 + 1, 0, none⟩ (.string t) (by show w.heap.size ≠ w.heap.size + 1 + 1; omega)), Lib.hid (Z.out.other ⟨w.heap.size + 1 + 1, 0, none⟩ (.string t) (by show w.heap.size + 1 ≠ w.heap.size + 1 + 1; omega)), Lib.hid (O.out.s0 (.string t)), Lib.hid ⟨fun _ => HG.out, fun h => absurd h (by decide)⟩, Lib.hid (HB.out.setCell (p := ⟨w.heap.size + 1 + 1, 0, none⟩) (by show w.heap.size ≤ w.heap.size + 1 + 1; omega) (.string t))⟩
                    case measure => simp [intOf]
      · have Ac0 := A.out.c 2 rfl
        have Ac1 := A.out.c 3 rfl
        go_wp2_with fail
        go_at_call 55
        refine (v4pick_100 x3 _ b3.1 b3.2).mono ?_
        rintro e WA ⟨n0, rfl, hn0, B⟩
        clear Ac0 Ac1
        have An := Lib.hid (A.out.keep B A.out.lt)
        have Zn := Lib.hid (Z.out.keep B Z.out.lt)
        have On := Lib.hid (O.out.keep B O.out.lt)
        have HBn := Lib.hid (HB.out.trans (B.mono HB.out.size))
        clear A Z O HB
        have A := An
        have Z := Zn
        have O := On
        have HB := HBn
        clear An Zn On HBn
        clear B
        have wn : IntKind.i64.wrap (1 + (n0 : Int)) = 1 + (n0 : Int) := by simp [IntKind.wrap, IntKind.bits, IntKind.signed]; omega
        have Ac0 := A.out.c 2 rfl
        go_wp2_with fail
        go_at_call 55
        refine (v4pick_1000000007 x2 _ b2.1 b2.2).mono ?_
        rintro e WB ⟨c0, rfl, hc0, B⟩
        clear Ac0
        have An := Lib.hid (A.out.keep B A.out.lt)
        have Zn := Lib.hid (Z.out.keep B Z.out.lt)
        have On := Lib.hid (O.out.keep B O.out.lt)
        have HBn := Lib.hid (HB.out.trans (B.mono HB.out.size))
        clear A Z O HB
        have A := An
        have Z := Zn
        have O := On
        have HB := HBn
        clear An Zn On HBn
        clear B
        go_wp2_with fail
        go_loopw [6, 7] (fun sv cv wr => ∃ (t : ByteArray) (c : Nat), sv = .string t ∧ cv = .int .i64 (c : Int) ∧ Hid (t.data.toList.all isDg = true) ∧ t.size ≤ 1 + n0 ∧ c < 2147483647 ∧ Hid (CBlk wr w.heap.size #[.int .i64 x0, .int .i64 x1, .int .i64 x2, .int .i64 x3] 24) ∧ Hid (RBlk wr (w.heap.size + 1) (.string ⟨#[]⟩) (.string ⟨#[]⟩)) ∧ Hid (PB 73 wr (w.heap.size + 1 + 1) (.string o0) (.string o1)) ∧ Hid (Below w.heap.size w wr)) (fun sv _ _ => 1 + n0 - (match sv with | .string t => t.size | _ => 0))
        case atStart => exact ⟨_, c0, rfl, rfl, Lib.hid rfl, by show 0 ≤ _; omega, by omega, A, Z, O, HB⟩
        case round =>
          clear A Z O HB
          obtain ⟨t, c, rfl, rfl, hT, hsz, hc, A, Z, O, HB⟩ := hrel
          by_cases hlt : t.size < 1 + n0
          · have hli : ((t.size : Nat) : Int) < 1 + (n0 : Int) := by omega
            have w1 : IntKind.i64.wrap ((c : Int) * 48271) = (c : Int) * 48271 := by simp [IntKind.wrap, IntKind.bits, IntKind.signed]; omega
            have w2 : IntKind.i64.wrap ((c : Int) * 48271 + 11) = (c : Int) * 48271 + 11 := by simp [IntKind.wrap, IntKind.bits, IntKind.signed]; omega
            obtain ⟨c2, hc2⟩ : ∃ c2 : Nat, c2 = (c * 48271 + 11) % 2147483647 := ⟨_, rfl⟩
            have hc2i : ((c : Int) * 48271 + 11) % 2147483647 = (c2 : Int) := by omega
            have hc29 : c2 < 2147483647 := by omega
            obtain ⟨d, hd⟩ : ∃ d : UInt8, d = UInt8.ofNat (48 + c2 / 65536 % 10) := ⟨_, rfl⟩
            have hdn : d.toNat = 48 + c2 / 65536 % 10 := by rw [hd, UInt8.toNat_ofNat_of_lt' (by show 48 + c2 / 65536 % 10 < 256; omega)]
            have hdv : (48 : Int) + (c2 : Int) / 65536 % 10 = (d.toNat : Int) := by omega
            have hdd := Lib.hid (show isDg d = true by rw [hd]; exact dgit (c2 / 65536))
            have wd : IntKind.u8.wrap (d.toNat : Int) = (d.toNat : Int) := by have := d.toNat_lt; simp [IntKind.wrap, IntKind.bits, IntKind.signed]; omega
            have hcv := run_convert_bytes_back (P := Tryz.prog) (wr.alloc (.cells #[.int .u8 (d.toNat : Int)] 5)) 48 9 5 ⟨wr.heap.size, 0, none⟩ 1 [d] Tryz.underlying48 Tryz.underlying5 Tryz.underlying9 (fun j hj => by
              obtain rfl : j = 0 := by simpa using hj
              rw [World.cell?]
              rw [show (⟨wr.heap.size, 0, none⟩ : Addr).add 0 = ⟨wr.heap.size, 0, none⟩ from rfl, Go.heap_alloc_new]; rfl)
            rw [show ([d] : List UInt8).length = 1 from rfl] at hcv
            have zz : (⟨([d] : List UInt8).toArray⟩ : ByteArray).size = 1 := rfl
            have hds := Lib.hid (show (⟨([d] : List UInt8).toArray⟩ : ByteArray).data.toList = [d] by simp)
            generalize (⟨([d] : List UInt8).toArray⟩ : ByteArray) = ds at *
            clear hc2 hd hdn hli
            have hli : ((t.size : Nat) : Int) < 1 + (n0 : Int) := by omega
            go_wp2_with fail
            go_roundw
            case rel => exact ⟨t ++ ds, c2, rfl, by rw [hc2i], Lib.hid (by rw [ByteArray.data_append, Array.toList_append, List.all_append, hT.out, hds.out, List.all_cons, hdd.out]; rfl), by rw [ByteArray.size_append]; omega, hc29, Lib.hid (A.out.alloc _), Lib.hid (Z.out.alloc _), Lib.hid (O.out.alloc _), Lib.hid (HB.out.alloc HB.out.size _)⟩
            case measure => show 1 + n0 - (t ++ ds).size < 1 + n0 - t.size; rw [ByteArray.size_append]; omega
          · have hli : ¬ (((t.size : Nat) : Int) < 1 + (n0 : Int)) := by omega
            have ht1 : 0 < t.size := by omega
            have ht9 : t.size ≤ 100 := by omega
            go_wp2_with fail
            go_loopw [6] (fun sv wq => ∃ t : ByteArray, sv = .string t ∧ Hid (t.data.toList.all isDg = true) ∧ 0 < t.size ∧ t.size ≤ 100 ∧ wr = wq) (fun sv _ => match sv with | .string t => t.size | _ => 0)
            case atStart => exact ⟨t, rfl, hT, ht1, ht9, by first | rfl | trivial⟩
            case round =>
              clear hT ht1 ht9 hsz hlt hli
              obtain ⟨t, rfl, hT, ht1, ht9, hw⟩ := hrel
              subst hw
              obtain ⟨l, hl⟩ : ∃ l, t.data.toList = l := ⟨_, rfl⟩
              have hs := bytes_size hl
              cases l with
              | nil => rw [List.length_nil] at hs; omega
              | cons x l =>
                rw [List.length_cons] at hs
                have hx := bytes_head hl ht1
                have htl := bytes_tail hl
                have HL := Lib.hid hl
                have HTL := Lib.hid htl
                have HS := Lib.hid hs
                clear hl htl
                cases l with
                | nil =>
                  have HG := Lib.hid (dg_of HL.out (by rw [← HL.out]; exact hT.out) (by rw [List.length_cons]; omega) (by rw [List.length_cons, List.length_nil]; omega) (.inl rfl))
                  rw [List.length_nil] at hs
                  have e0 : decide ((1 : Int) < (t.size : Int)) = false := by rw [hs]; rfl
                  clear hs hx HS
                  have Oc := O.out.c1
                  have Of := O.out.f 1
                  go_wp2_with fail
                  go_roundw
                  case rel => exact ⟨2, o0, t, by omega, by go_num, Lib.hid (A.out.other ⟨w.heap.size + 1 + 1, 1, none⟩ (.string t) (by show w.heap.size ≠ w.heap.size + 1 + 1; omega)), Lib.hid (Z.out.other ⟨w.heap.size + 1 + 1, 1, none⟩ (.string t) (by show w.heap.size + 1 ≠ w.heap.size + 1 + 1; omega)), Lib.hid (O.out.s1 (.string t)), Lib.hid ⟨fun _ => HD.out.1 (by decide), fun h => HG.out⟩, Lib.hid (HB.out.setCell (p := ⟨w.heap.size + 1 + 1, 1, none⟩) (by show w.heap.size ≤ w.heap.size + 1 + 1; omega) (.string t))⟩
                  case measure => simp [intOf]
                | cons y l =>
                  rw [List.length_cons] at hs
                  have e0 : decide ((1 : Int) < (t.size : Int)) = true := by rw [decide_eq_true_eq]; omega
                  by_cases h48 : x = 48
                  · have H48 := Lib.hid h48
                    have e2 : ((x.toNat : Int) == 48) = true := by rw [h48]; rfl
                    clear h48 hs
                    go_wp2_with fail
                    go_roundw
                    case rel =>
                      refine ⟨_, rfl, Lib.hid ?_, ?_, ?_, by first | rfl | trivial⟩
                      · rw [HTL.out]; have h := hT.out; rw [HL.out, List.all_cons, Bool.and_eq_true] at h; exact h.2
                      · rw [ByteArray.size_extract, HS.out, List.length_cons]; omega
                      · rw [ByteArray.size_extract]; omega
                    case measure => show (t.extract 1 t.size).size < t.size; rw [ByteArray.size_extract]; omega
                  · have HG := Lib.hid (dg_of HL.out (by rw [← HL.out]; exact hT.out) (by rw [List.length_cons]; omega) (by rw [List.length_cons, ← HS.out]; exact ht9) (.inr (by simp only [List.head?_cons]; intro e; exact h48 (Option.some.inj e))))
                    have e2 : ((x.toNat : Int) == 48) = false := by
                      rw [beq_eq_false_iff_ne]; intro e
                      exact h48 (UInt8.toNat_inj.1 (by have h48n : (48 : UInt8).toNat = 48 := rfl; omega))
                    clear h48 hs
                    have Oc := O.out.c1
                    have Of := O.out.f 1
                    go_wp2_with fail
                    go_roundw
                    case rel => exact ⟨2, o0, t, by omega, by go_num, Lib.hid (A.out.other ⟨w.heap.size + 1 + 1, 1, none⟩ (.string t) (by show w.heap.size ≠ w.heap.size + 1 + 1; omega)), Lib.hid (Z.out.other ⟨w.heap.size + 1 + 1, 1, none⟩ (.string t) (by show w.heap.size + 1 ≠ w.heap.size + 1 + 1; omega)), Lib.hid (O.out.s1 (.string t)), Lib.hid ⟨fun _ => HD.out.1 (by decide), fun h => HG.out⟩, Lib.hid (HB.out.setCell (p := ⟨w.heap.size + 1 + 1, 1, none⟩) (by show w.heap.size ≤ w.heap.size + 1 + 1; omega) (.string t))⟩
                    case measure => simp [intOf]
    · obtain rfl : k = 2 := by omega
      obtain ⟨n0, rfl, hn0⟩ := HD.out.1 (by decide)
      obtain ⟨n1, rfl, hn1⟩ := HD.out.2 (by decide)
      have ht1 := S_eq0 (n1 : Int)
      have ht0 := S_eq0 (n0 : Int)
      have z0 := S_size2 (z := (n0 : Int)) (by rw [Int.natAbs_natCast]; exact Nat.lt_of_lt_of_le hn0 (by decide))
      have z45 : (⟨#[45]⟩ : ByteArray).size = 1 := rfl
      by_cases h1 : n1 = 0
      · have ht1b : ((S (n1 : Int)).toList == [48]) = true := by rw [ht1]; exact decide_eq_true (by omega)
        clear ht1 h1
        generalize S (n1 : Int) = s1 at *
        have e7 : S 7 = ⟨#[55]⟩ := S_lit (L := [55]) (by decide)
        have Oc1 := O.out.c1
        have Of1 := O.out.f 1
        have Ac0 := A.out.c 0 rfl
        have Ae0 := (A.out.other ⟨w.heap.size + 1 + 1, 1, none⟩ (.string ⟨#[55]⟩) (by show w.heap.size ≠ w.heap.size + 1 + 1; omega)).c 0 rfl
        go_wp2_with fail
        clear Oc1 Of1 Ae0
        have An := Lib.hid (A.out.other ⟨w.heap.size + 1 + 1, 1, none⟩ (.string ⟨#[55]⟩) (by show w.heap.size ≠ w.heap.size + 1 + 1; omega))
        have Zn := Lib.hid (Z.out.other ⟨w.heap.size + 1 + 1, 1, none⟩ (.string ⟨#[55]⟩) (by show w.heap.size + 1 ≠ w.heap.size + 1 + 1; omega))
        have On := Lib.hid (O.out.s1 (.string ⟨#[55]⟩))
        have HBn := Lib.hid (HB.out.setCell (p := ⟨w.heap.size + 1 + 1, 1, none⟩) (by show w.heap.size ≤ w.heap.size + 1 + 1; omega) (.string ⟨#[55]⟩))
        clear A Z O HB
        have A := An
        have Z := Zn
        have O := On
        have HB := HBn
        clear An Zn On HBn
        go_at_call 55
        refine (v4pick_2 x0 _ b0.1 b0.2).mono ?_
        rintro e WC ⟨p, rfl, hp, B⟩
        have An := Lib.hid (A.out.keep B A.out.lt)
        have Zn := Lib.hid (Z.out.keep B Z.out.lt)
        have On := Lib.hid (O.out.keep B O.out.lt)
        have HBn := Lib.hid (HB.out.trans (B.mono HB.out.size))
        clear A Z O HB
        have A := An
        have Z := Zn
        have O := On
        have HB := HBn
        clear An Zn On HBn
        clear B Ac0
        by_cases hp0 : p = 0
        · subst hp0
          by_cases h0 : n0 = 0
          · have ht0b : ((S (n0 : Int)).toList == [48]) = true := by rw [ht0]; exact decide_eq_true (by omega)
            clear ht0
            have hz := mk_fit100 ((n0 : Int)) (7) (by rw [Int.natAbs_natCast]; exact hn0) (by decide) (by decide)
            have cm := fun W => v4Make_R ((n0 : Int)) (7) W (wide (p := 100) (by rw [Int.natAbs_natCast]; exact hn0) (by decide)) (wide (p := 100) (by decide) (by decide)) (by decide)
            rw [e7] at cm
            unfold RV at cm
            generalize Rat.divInt ((n0 : Int)) (7) = z at *
            have CM := Lib.hid cm
            have HZ := Lib.hid hz
            clear cm hz
            generalize S (n0 : Int) = s0 at *
            have Oc0 := O.out.c0
            have Oc1 := O.out.c1
            have Of0 := O.out.f 0
            go_wp2_with fail
            go_at_call 29
            refine (CM.out _).mono ?_
            rintro e WD ⟨rfl, B⟩
            have V := Lib.hid (RBlk.new WD (.string (S z.num)) (.string (S (z.den : Int))))
            have Zn := Lib.hid ((Z.out.keep B Z.out.lt).alloc (.cells #[.string (S z.num), .string (S (z.den : Int))] 23))
            have HBn := Lib.hid ((HB.out.trans (B.mono HB.out.size)).alloc (HB.out.trans (B.mono HB.out.size)).size (.cells #[.string (S z.num), .string (S (z.den : Int))] 23))
            clear Z HB A O B Oc0 Oc1
            have vc0 := V.out.c0
            have vc1 := V.out.c1
            have c0 := Zn.out.c0
            have c1 := Zn.out.c1
            have f0 := Zn.out.f 0
            have f1 := Zn.out.f 1
            have hs := Zn.out.s0 (.string (S z.num))
            have d1 := hs.c1
            have g1 := hs.f 1
            have HS := Lib.hid (hs.s1 (.string (S (z.den : Int))))
            have HBS := Lib.hid ((HBn.out.setCell (p := ⟨w.heap.size + 1, 0, none⟩) (by show w.heap.size ≤ w.heap.size + 1; omega) (.string (S z.num))).setCell (p := ⟨w.heap.size + 1, 1, none⟩) (by show w.heap.size ≤ w.heap.size + 1; omega) (.string (S (z.den : Int))))
            clear hs
            go_wp2_with fail
            refine bodyPost_ret (results_ratio1 rfl _ _ (w.heap.size + 1) _ _ rfl HS.out) rfl ?_
            exact ⟨z, rfl, HZ.out, HBS.out⟩
          · have ht0b : ((S (n0 : Int)).toList == [48]) = false := by rw [ht0]; exact decide_eq_false (by omega)
            clear ht0
            have e45 := S_minus (n0 : Int) (by omega)
            have hz := mk_fit100 (-(n0 : Int)) (7) (by rw [Int.natAbs_neg, Int.natAbs_natCast]; exact hn0) (by decide) (by decide)
            have cm := fun W => v4Make_R (-(n0 : Int)) (7) W (wide (p := 100) (by rw [Int.natAbs_neg, Int.natAbs_natCast]; exact hn0) (by decide)) (wide (p := 100) (by decide) (by decide)) (by decide)
            rw [e7] at cm
            unfold RV at cm
            generalize Rat.divInt (-(n0 : Int)) (7) = z at *
            have CM := Lib.hid cm
            have HZ := Lib.hid hz
            clear cm hz
            rw [e45] at CM
            generalize S (n0 : Int) = s0 at *
            have Oc0 := O.out.c0
            have Oc1 := O.out.c1
            have Of0 := O.out.f 0
            have Oz := O.out.s0 (.string (⟨#[45]⟩ ++ s0))
            have Oz0 := Oz.c0
            have Oz1 := Oz.c1
            clear Oz
            go_wp2_with fail
            clear Oz0 Oz1
            have An := Lib.hid (A.out.other ⟨w.heap.size + 1 + 1, 0, none⟩ (.string (⟨#[45]⟩ ++ s0)) (by show w.heap.size ≠ w.heap.size + 1 + 1; omega))
            have Zn := Lib.hid (Z.out.other ⟨w.heap.size + 1 + 1, 0, none⟩ (.string (⟨#[45]⟩ ++ s0)) (by show w.heap.size + 1 ≠ w.heap.size + 1 + 1; omega))
            have On := Lib.hid (O.out.s0 (.string (⟨#[45]⟩ ++ s0)))
            have HBn := Lib.hid (HB.out.setCell (p := ⟨w.heap.size + 1 + 1, 0, none⟩) (by show w.heap.size ≤ w.heap.size + 1 + 1; omega) (.string (⟨#[45]⟩ ++ s0)))
            clear A Z O HB
            have A := An
            have Z := Zn
            have O := On
            have HB := HBn
            clear An Zn On HBn
            go_at_call 29
            refine (CM.out _).mono ?_
            rintro e WD ⟨rfl, B⟩
            have V := Lib.hid (RBlk.new WD (.string (S z.num)) (.string (S (z.den : Int))))
            have Zn := Lib.hid ((Z.out.keep B Z.out.lt).alloc (.cells #[.string (S z.num), .string (S (z.den : Int))] 23))
            have HBn := Lib.hid ((HB.out.trans (B.mono HB.out.size)).alloc (HB.out.trans (B.mono HB.out.size)).size (.cells #[.string (S z.num), .string (S (z.den : Int))] 23))
            clear Z HB A O B Oc0 Oc1
            have vc0 := V.out.c0
            have vc1 := V.out.c1
            have c0 := Zn.out.c0
            have c1 := Zn.out.c1
            have f0 := Zn.out.f 0
            have f1 := Zn.out.f 1
            have hs := Zn.out.s0 (.string (S z.num))
            have d1 := hs.c1
            have g1 := hs.f 1
            have HS := Lib.hid (hs.s1 (.string (S (z.den : Int))))
            have HBS := Lib.hid ((HBn.out.setCell (p := ⟨w.heap.size + 1, 0, none⟩) (by show w.heap.size ≤ w.heap.size + 1; omega) (.string (S z.num))).setCell (p := ⟨w.heap.size + 1, 1, none⟩) (by show w.heap.size ≤ w.heap.size + 1; omega) (.string (S (z.den : Int))))
            clear hs
            go_wp2_with fail
            refine bodyPost_ret (results_ratio1 rfl _ _ (w.heap.size + 1) _ _ rfl HS.out) rfl ?_
            exact ⟨z, rfl, HZ.out, HBS.out⟩
        · have hp1 : ¬ ((p : Int) = 0) := by omega
          have hz := mk_fit100 ((n0 : Int)) (7) (by rw [Int.natAbs_natCast]; exact hn0) (by decide) (by decide)
          have cm := fun W => v4Make_R ((n0 : Int)) (7) W (wide (p := 100) (by rw [Int.natAbs_natCast]; exact hn0) (by decide)) (wide (p := 100) (by decide) (by decide)) (by decide)
          rw [e7] at cm
          unfold RV at cm
          generalize Rat.divInt ((n0 : Int)) (7) = z at *
          have CM := Lib.hid cm
          have HZ := Lib.hid hz
          clear cm hz
          generalize S (n0 : Int) = s0 at *
          have Oc0 := O.out.c0
          have Oc1 := O.out.c1
          have Of0 := O.out.f 0
          go_wp2_with fail
          go_at_call 29
          refine (CM.out _).mono ?_
          rintro e WD ⟨rfl, B⟩
          have V := Lib.hid (RBlk.new WD (.string (S z.num)) (.string (S (z.den : Int))))
          have Zn := Lib.hid ((Z.out.keep B Z.out.lt).alloc (.cells #[.string (S z.num), .string (S (z.den : Int))] 23))
          have HBn := Lib.hid ((HB.out.trans (B.mono HB.out.size)).alloc (HB.out.trans (B.mono HB.out.size)).size (.cells #[.string (S z.num), .string (S (z.den : Int))] 23))
          clear Z HB A O B Oc0 Oc1
          have vc0 := V.out.c0
          have vc1 := V.out.c1
          have c0 := Zn.out.c0
          have c1 := Zn.out.c1
          have f0 := Zn.out.f 0
          have f1 := Zn.out.f 1
          have hs := Zn.out.s0 (.string (S z.num))
          have d1 := hs.c1
          have g1 := hs.f 1
          have HS := Lib.hid (hs.s1 (.string (S (z.den : Int))))
          have HBS := Lib.hid ((HBn.out.setCell (p := ⟨w.heap.size + 1, 0, none⟩) (by show w.heap.size ≤ w.heap.size + 1; omega) (.string (S z.num))).setCell (p := ⟨w.heap.size + 1, 1, none⟩) (by show w.heap.size ≤ w.heap.size + 1; omega) (.string (S (z.den : Int))))
          clear hs
          go_wp2_with fail
          refine bodyPost_ret (results_ratio1 rfl _ _ (w.heap.size + 1) _ _ rfl HS.out) rfl ?_
          exact ⟨z, rfl, HZ.out, HBS.out⟩
      · have ht1b : ((S (n1 : Int)).toList == [48]) = false := by rw [ht1]; exact decide_eq_false (by omega)
        clear ht1
        have Oc1 := O.out.c1
        have Ac0 := A.out.c 0 rfl
        go_wp2_with fail
        clear Oc1
        go_at_call 55
        refine (v4pick_2 x0 _ b0.1 b0.2).mono ?_
        rintro e WC ⟨p, rfl, hp, B⟩
        have An := Lib.hid (A.out.keep B A.out.lt)
        have Zn := Lib.hid (Z.out.keep B Z.out.lt)
        have On := Lib.hid (O.out.keep B O.out.lt)
        have HBn := Lib.hid (HB.out.trans (B.mono HB.out.size))
        clear A Z O HB
        have A := An
        have Z := Zn
        have O := On
        have HB := HBn
        clear An Zn On HBn
        clear B Ac0
        by_cases hp0 : p = 0
        · subst hp0
          by_cases h0 : n0 = 0
          · have ht0b : ((S (n0 : Int)).toList == [48]) = true := by rw [ht0]; exact decide_eq_true (by omega)
            clear ht0
            have hz := mk_fit100 ((n0 : Int)) ((n1 : Int)) (by rw [Int.natAbs_natCast]; exact hn0) (by rw [Int.natAbs_natCast]; exact hn1) (by omega)
            have cm := fun W => v4Make_R ((n0 : Int)) ((n1 : Int)) W (wide (p := 100) (by rw [Int.natAbs_natCast]; exact hn0) (by decide)) (wide (p := 100) (by rw [Int.natAbs_natCast]; exact hn1) (by decide)) (by omega)
            unfold RV at cm
            generalize Rat.divInt ((n0 : Int)) ((n1 : Int)) = z at *
            have CM := Lib.hid cm
            have HZ := Lib.hid hz
            clear cm hz
            generalize S (n0 : Int) = s0 at *
            have Oc0 := O.out.c0
            have Oc1 := O.out.c1
            have Of0 := O.out.f 0
            go_wp2_with fail
            go_at_call 29
            refine (CM.out _).mono ?_
            rintro e WD ⟨rfl, B⟩
            have V := Lib.hid (RBlk.new WD (.string (S z.num)) (.string (S (z.den : Int))))
            have Zn := Lib.hid ((Z.out.keep B Z.out.lt).alloc (.cells #[.string (S z.num), .string (S (z.den : Int))] 23))
            have HBn := Lib.hid ((HB.out.trans (B.mono HB.out.size)).alloc (HB.out.trans (B.mono HB.out.size)).size (.cells #[.string (S z.num), .string (S (z.den : Int))] 23))
            clear Z HB A O B Oc0 Oc1
            have vc0 := V.out.c0
            have vc1 := V.out.c1
            have c0 := Zn.out.c0
            have c1 := Zn.out.c1
            have f0 := Zn.out.f 0
            have f1 := Zn.out.f 1
            have hs := Zn.out.s0 (.string (S z.num))
            have d1 := hs.c1
            have g1 := hs.f 1
            have HS := Lib.hid (hs.s1 (.string (S (z.den : Int))))
            have HBS := Lib.hid ((HBn.out.setCell (p := ⟨w.heap.size + 1, 0, none⟩) (by show w.heap.size ≤ w.heap.size + 1; omega) (.string (S z.num))).setCell (p := ⟨w.heap.size + 1, 1, none⟩) (by show w.heap.size ≤ w.heap.size + 1; omega) (.string (S (z.den : Int))))
            clear hs
            go_wp2_with fail
            refine bodyPost_ret (results_ratio1 rfl _ _ (w.heap.size + 1) _ _ rfl HS.out) rfl ?_
            exact ⟨z, rfl, HZ.out, HBS.out⟩
          · have ht0b : ((S (n0 : Int)).toList == [48]) = false := by rw [ht0]; exact decide_eq_false (by omega)
            clear ht0
            have e45 := S_minus (n0 : Int) (by omega)
            have hz := mk_fit100 (-(n0 : Int)) ((n1 : Int)) (by rw [Int.natAbs_neg, Int.natAbs_natCast]; exact hn0) (by rw [Int.natAbs_natCast]; exact hn1) (by omega)
            have cm := fun W => v4Make_R (-(n0 : Int)) ((n1 : Int)) W (wide (p := 100) (by rw [Int.natAbs_neg, Int.natAbs_natCast]; exact hn0) (by decide)) (wide (p := 100) (by rw [Int.natAbs_natCast]; exact hn1) (by decide)) (by omega)
            unfold RV at cm
            generalize Rat.divInt (-(n0 : Int)) ((n1 : Int)) = z at *
            have CM := Lib.hid cm
            have HZ := Lib.hid hz
            clear cm hz
            rw [e45] at CM
            generalize S (n0 : Int) = s0 at *
            have Oc0 := O.out.c0
            have Oc1 := O.out.c1
            have Of0 := O.out.f 0
            have Oz := O.out.s0 (.string (⟨#[45]⟩ ++ s0))
            have Oz0 := Oz.c0
            have Oz1 := Oz.c1
            clear Oz
            go_wp2_with fail
            clear Oz0 Oz1
            have An := Lib.hid (A.out.other ⟨w.heap.size + 1 + 1, 0, none⟩ (.string (⟨#[45]⟩ ++ s0)) (by show w.heap.size ≠ w.heap.size + 1 + 1; omega))
            have Zn := Lib.hid (Z.out.other ⟨w.heap.size + 1 + 1, 0, none⟩ (.string (⟨#[45]⟩ ++ s0)) (by show w.heap.size + 1 ≠ w.heap.size + 1 + 1; omega))
            have On := Lib.hid (O.out.s0 (.string (⟨#[45]⟩ ++ s0)))
            have HBn := Lib.hid (HB.out.setCell (p := ⟨w.heap.size + 1 + 1, 0, none⟩) (by show w.heap.size ≤ w.heap.size + 1 + 1; omega) (.string (⟨#[45]⟩ ++ s0)))
            clear A Z O HB
            have A := An
            have Z := Zn
            have O := On
            have HB := HBn
            clear An Zn On HBn
            go_at_call 29
            refine (CM.out _).mono ?_
            rintro e WD ⟨rfl, B⟩
            have V := Lib.hid (RBlk.new WD (.string (S z.num)) (.string (S (z.den : Int))))
            have Zn := Lib.hid ((Z.out.keep B Z.out.lt).alloc (.cells #[.string (S z.num), .string (S (z.den : Int))] 23))
            have HBn := Lib.hid ((HB.out.trans (B.mono HB.out.size)).alloc (HB.out.trans (B.mono HB.out.size)).size (.cells #[.string (S z.num), .string (S (z.den : Int))] 23))
            clear Z HB A O B Oc0 Oc1
            have vc0 := V.out.c0
            have vc1 := V.out.c1
            have c0 := Zn.out.c0
            have c1 := Zn.out.c1
            have f0 := Zn.out.f 0
            have f1 := Zn.out.f 1
            have hs := Zn.out.s0 (.string (S z.num))
            have d1 := hs.c1
            have g1 := hs.f 1
            have HS := Lib.hid (hs.s1 (.string (S (z.den : Int))))
            have HBS := Lib.hid ((HBn.out.setCell (p := ⟨w.heap.size + 1, 0, none⟩) (by show w.heap.size ≤ w.heap.size + 1; omega) (.string (S z.num))).setCell (p := ⟨w.heap.size + 1, 1, none⟩) (by show w.heap.size ≤ w.heap.size + 1; omega) (.string (S (z.den : Int))))
            clear hs
            go_wp2_with fail
            refine bodyPost_ret (results_ratio1 rfl _ _ (w.heap.size + 1) _ _ rfl HS.out) rfl ?_
            exact ⟨z, rfl, HZ.out, HBS.out⟩
        · have hp1 : ¬ ((p : Int) = 0) := by omega
          have hz := mk_fit100 ((n0 : Int)) ((n1 : Int)) (by rw [Int.natAbs_natCast]; exact hn0) (by rw [Int.natAbs_natCast]; exact hn1) (by omega)
          have cm := fun W => v4Make_R ((n0 : Int)) ((n1 : Int)) W (wide (p := 100) (by rw [Int.natAbs_natCast]; exact hn0) (by decide)) (wide (p := 100) (by rw [Int.natAbs_natCast]; exact hn1) (by decide)) (by omega)
          unfold RV at cm
          generalize Rat.divInt ((n0 : Int)) ((n1 : Int)) = z at *
          have CM := Lib.hid cm
          have HZ := Lib.hid hz
          clear cm hz
          generalize S (n0 : Int) = s0 at *
          have Oc0 := O.out.c0
          have Oc1 := O.out.c1
          have Of0 := O.out.f 0
          go_wp2_with fail
          go_at_call 29
          refine (CM.out _).mono ?_
          rintro e WD ⟨rfl, B⟩
          have V := Lib.hid (RBlk.new WD (.string (S z.num)) (.string (S (z.den : Int))))
          have Zn := Lib.hid ((Z.out.keep B Z.out.lt).alloc (.cells #[.string (S z.num), .string (S (z.den : Int))] 23))
          have HBn := Lib.hid ((HB.out.trans (B.mono HB.out.size)).alloc (HB.out.trans (B.mono HB.out.size)).size (.cells #[.string (S z.num), .string (S (z.den : Int))] 23))
          clear Z HB A O B Oc0 Oc1
          have vc0 := V.out.c0
          have vc1 := V.out.c1
          have c0 := Zn.out.c0
          have c1 := Zn.out.c1
          have f0 := Zn.out.f 0
          have f1 := Zn.out.f 1
          have hs := Zn.out.s0 (.string (S z.num))
          have d1 := hs.c1
          have g1 := hs.f 1
          have HS := Lib.hid (hs.s1 (.string (S (z.den : Int))))
          have HBS := Lib.hid ((HBn.out.setCell (p := ⟨w.heap.size + 1, 0, none⟩) (by show w.heap.size ≤ w.heap.size + 1; omega) (.string (S z.num))).setCell (p := ⟨w.heap.size + 1, 1, none⟩) (by show w.heap.size ≤ w.heap.size + 1; omega) (.string (S (z.den : Int))))
          clear hs
          go_wp2_with fail
          refine bodyPost_ret (results_ratio1 rfl _ _ (w.heap.size + 1) _ _ rfl HS.out) rfl ?_
          exact ⟨z, rfl, HZ.out, HBS.out⟩
end Go.Proofs.YtdnbhgkbfbgnaaaGreatDoor











namespace Go.Proofs.YtdnbhgkbfbgnaaaGreatDoor
open Go.ChangeShapes Go.WideShapes Go.ChangeAt Go.RowKit

theorem own : ownKnob Tryz.prog.godebug = none := by kernel_rfl
theorem laidOutT : laidOutB Tryz.prog = true := by kernel_rfl

section
variable {H : Type} {enc : TypeId × Value → H} {W W' : World}

theorem trodAll_stays (hb : Below W.heap.size W W') : ∀ {ts : List TypeId} {vs : List Value} {ds : List (DataW H)} {ps : List MemPlace},
    (∀ t ∈ ts, Tryz.prog.readableRec t = true ∧ t < Tryz.prog.types.size) → (∀ x ∈ ps, x.block < W.heap.size) →
    DataW.TrodAll enc Tryz.prog W 0 (fun _ => true) true ts vs ds ps → DataW.TrodAll enc Tryz.prog W' 0 (fun b => decide (b < W.heap.size)) true ts vs ds ps
  | [], _, _, _, _, _, h => by
    obtain ⟨rfl, rfl, rfl⟩ := trodAll_nil h
    exact trodAll_mk0
  | t :: ts, _, _, _, ht, hp, h => by
    obtain ⟨v, vs, d, ds, a, b, rfl, rfl, rfl, h1, h2⟩ := trodAll_cons h
    have g := ht t (by simp)
    exact trodAll_cons_mk (Below.trod laidOutT g.1 g.2 h1 hb (fun x hx => hp x (by simp [hx]))) (trodAll_stays hb (fun u hu => ht u (by simp [hu])) (fun x hx => hp x (by simp [hx])) h2)

/-- A law that has answered true, and turned nothing that lay when it was called, has kept its row. -/
theorem law_done {f : Func} {s : ChangeSpec} {args : Array Value} {ds gs : List (DataW H)} {before : List MemPlace}
    (hp : ∀ t ∈ f.params.toList, Tryz.prog.readableRec t = true ∧ t < Tryz.prog.types.size) (hr : f.resultTypes = #[4]) (hv : s.vars = [])
    (hs : (s.fn H ds).results = [.lit (.bool true)] ∧ (s.fn H ds).args = ds ∧ (s.fn H ds).vars = [])
    (hW : DataW.Whole enc Tryz.prog f.params.toList s.vars false W args.toList ds gs before) (hb : Below W.heap.size W W') :
    s.post enc Tryz.prog f false true false false W args (.bool true) W' := by
  have hW' := hW
  have hlt : ∀ p ∈ before, p.block < W.heap.size := fun p hp => hW.lt p hp
  obtain ⟨p, q, hA, hV, rfl, hz, hn⟩ := hW
  rw [hv] at hV
  obtain ⟨rfl, rfl⟩ := trodVars_none hV
  simp only [List.append_nil] at hlt
  refine ⟨ds, [], p ++ [], [], p, [], hW', ?_, ?_, ?_, World.keptBut_mono (fun x hx => ⟨hx, .inr (by simpa using hx)⟩) (hb.frame (· ∈ p ++ [])), fun h => by cases h⟩
  · rw [hr, List.append_nil, hs.1]
    exact trodAll_cons_mk (shut_bool Tryz.underlying4 _) trodAll_mk0
  · rw [List.append_nil, hs.2.1]
    exact trodAll_stays hb hp hlt hA
  · rw [hv, List.append_nil, hs.2.2]
    rfl
end
end Go.Proofs.YtdnbhgkbfbgnaaaGreatDoor




namespace Go.Proofs.YtdnbhgkbfbgnaaaGreatDoor
open Go.ChangeShapes Go.WideShapes Go.ChangeAt Go.RowKit

theorem laid_mem {w : World} {n : String} {d : DataW Unit} : ∀ {l : List (String × DataW Unit)} {ps : List MemPlace}, DataW.LaidVars Tryz.prog w l ps → (n, d) ∈ l →
    ∃ g t cs fuel p, Tryz.prog.globalNamed n = some g ∧ (Tryz.prog.globals[g]?).map (·.type) = some t ∧ w.var? Tryz.prog n = some cs ∧ DataW.trod (fun _ => ()) Tryz.prog w 0 (fun _ => true) false fuel t cs.toList = some (d, p)
  | [], _, _, h => by cases h
  | (m, e) :: r, _, hl, h => by
    obtain ⟨g, t, cs, fuel, p, q, h1, h2, h3, h4, h5, _⟩ := hl
    rcases List.mem_cons.1 h with h | h
    · cases h; exact ⟨g, t, cs, fuel, p, h1, h2, h3, h4⟩
    · exact laid_mem h5 h
theorem gPow : Tryz.prog.globalNamed "internal/strconv.uint64pow10" = some 2 := by kernel_rfl
theorem gPowType : (Tryz.prog.globals[2]?).map (·.type) = some 223 := by kernel_rfl
theorem cellsA : Tryz.prog.cellsOf 223 = 20 := by kernel_rfl
theorem cellsE : Tryz.prog.cellsOf 172 = 1 := by kernel_rfl
theorem int_of_shape {P : Program} {w : World} {g : Nat} {t : TypeId} {k : IntKind} {zero : Array Value} (h : w.ShapedOpen P) (hg : g < P.globals.size)
    (h0 : ((begin P (fun _ _ => 0) default).world.heap[g]?).bind Obj.row? = some (zero, t)) (hz : zero.size = 1)
    (hb : P.buildable t = true) (hc : P.cellTypes P.depth t = some [t]) (hu : P.underlying t = some (.int k)) : ∃ m, w.cell? ⟨g, 0, none⟩ = some (.int k m) := by
  obtain ⟨cs, hh, hs, hr⟩ := h.1 g zero t hg h0
  obtain ⟨ts, hts, _, hall⟩ := hr hb
  rw [hc] at hts
  cases hts
  have h1 : 0 < cs.size := by omega
  obtain ⟨u, hu', hok⟩ := hall 0 cs[0] (by simp [h1])
  have : u = t := by simpa using hu'.symm
  subst this
  have hcell : w.cell? ⟨g, 0, none⟩ = some cs[0] := by simp [World.cell?, hh, h1]
  rw [hcell]
  unfold Cell.ok at hok
  rw [hu] at hok
  cases hv : cs[0] <;> rw [hv] at hok <;> first | (obtain ⟨rfl, _⟩ := hok; exact ⟨_, rfl⟩) | simp at hok
theorem tz_of {W : World} {laid : List (String × DataW Unit)} (h : laidMet Tryz.prog laid W) (h1 : ("internal/strconv.uint64pow10", Lib.tabData .u64 Lib.pow10Tab) ∈ laid) (hS : W.ShapedOpen Tryz.prog) : Tz W := by
  obtain ⟨ps, hL, _⟩ := h
  obtain ⟨g, t, cs, fuel, p, hg, ht, hvar, hd⟩ := laid_mem hL h1
  obtain rfl := Option.some.inj (gPow.symm.trans hg)
  obtain rfl := Option.some.inj (gPowType.symm.trans ht)
  obtain ⟨m, hm⟩ : ∃ m, W.cell? ⟨1, 0, none⟩ = some (.int .i64 m) := int_of_shape (t := 3) (zero := #[.int .i64 0]) hS (of_decide_eq_true (by kernel_rfl)) (by kernel_rfl) rfl (by kernel_rfl) (by kernel_rfl) Tryz.underlying3
  refine ⟨?_, World.block_lt_of_cell? _ _ hm, m, hm⟩
  unfold Lib.TabIs
  rw [hvar, ← Lib.cells_of_tab Tryz.underlying223 Tryz.underlying172 cellsE cellsA hd]
end Go.Proofs.YtdnbhgkbfbgnaaaGreatDoor


namespace Go.Proofs.YtdnbhgkbfbgnaaaGreatDoor
open Go.ChangeShapes Go.WideShapes Go.ChangeAt Go.RowKit

theorem cInt : Tryz.prog.cellsOf 3 = 1 := by kernel_rfl
theorem c4 : Tryz.prog.cellsOf 24 = 4 := by kernel_rfl
theorem c2 : Tryz.prog.cellsOf 25 = 2 := by kernel_rfl
theorem wfb {n : Int} (h : (Lit.int .i64 n).wf = true) : -9223372036854775808 ≤ n ∧ n ≤ 9223372036854775807 := by
  simpa [Lit.wf, IntKind.min, IntKind.max, IntKind.signed, IntKind.bits] using h
set_option maxRecDepth 100000 in
theorem open_i4 {H : Type} {enc : TypeId × Value → H} {W : World} {b : Nat} {sp : Nat → Bool} {held : Bool} {base : Nat} {v : Value} {d : DataW H} {p : List MemPlace}
    (hval : Value.okWide Tryz.prog W .any b 24 v) (h : DataW.Trod enc Tryz.prog W base sp held 24 v d p) :
    ∃ a0 a1 a2 a3 : Int, v = .agg #[.int .i64 a0, .int .i64 a1, .int .i64 a2, .int .i64 a3] ∧ (-9223372036854775808 ≤ a0 ∧ a0 ≤ 9223372036854775807) ∧ (-9223372036854775808 ≤ a1 ∧ a1 ≤ 9223372036854775807) ∧ (-9223372036854775808 ≤ a2 ∧ a2 ≤ 9223372036854775807) ∧ (-9223372036854775808 ≤ a3 ∧ a3 ≤ 9223372036854775807) := by
  simp only [Value.okWide, Tryz.underlying24] at hval
  obtain ⟨cs, rfl, hs, _⟩ := hval
  obtain ⟨fuel, hf⟩ := h
  obtain ⟨xs, m, rfl, hx, hl, hn, hi⟩ := DataW.trod_array Tryz.underlying24 hf
  rw [c4] at hs
  obtain ⟨c0, c1, c2, c3, rfl⟩ : ∃ c0 c1 c2 c3, cs = #[c0, c1, c2, c3] := by
    rcases cs with ⟨l⟩
    match l, hs with
    | [c0, c1, c2, c3], _ => exact ⟨c0, c1, c2, c3, rfl⟩
  match xs, hn with
  | [x0, x1, x2, x3], _ =>
    have i0 := hi 0 (by omega)
    have i1 := hi 1 (by omega)
    have i2 := hi 2 (by omega)
    have i3 := hi 3 (by omega)
    simp [cInt, Value.cells] at i0 i1 i2 i3
    obtain ⟨s0, e0, _, l0⟩ := DataW.trod_int Tryz.underlying3 i0
    obtain ⟨s1, e1, _, l1⟩ := DataW.trod_int Tryz.underlying3 i1
    obtain ⟨s2, e2, _, l2⟩ := DataW.trod_int Tryz.underlying3 i2
    obtain ⟨s3, e3, _, l3⟩ := DataW.trod_int Tryz.underlying3 i3
    simp only [List.cons.injEq, and_true] at e0 e1 e2 e3
    subst e0 e1 e2 e3
    exact ⟨s0, s1, s2, s3, rfl, wfb l0, wfb l1, wfb l2, wfb l3⟩
set_option maxRecDepth 100000 in
theorem open_i2 {H : Type} {enc : TypeId × Value → H} {W : World} {b : Nat} {sp : Nat → Bool} {held : Bool} {base : Nat} {v : Value} {d : DataW H} {p : List MemPlace}
    (hval : Value.okWide Tryz.prog W .any b 25 v) (h : DataW.Trod enc Tryz.prog W base sp held 25 v d p) :
    ∃ a0 a1 : Int, v = .agg #[.int .i64 a0, .int .i64 a1] ∧ (-9223372036854775808 ≤ a0 ∧ a0 ≤ 9223372036854775807) ∧ (-9223372036854775808 ≤ a1 ∧ a1 ≤ 9223372036854775807) := by
  simp only [Value.okWide, Tryz.underlying25] at hval
  obtain ⟨cs, rfl, hs, _⟩ := hval
  obtain ⟨fuel, hf⟩ := h
  obtain ⟨xs, m, rfl, hx, hl, hn, hi⟩ := DataW.trod_array Tryz.underlying25 hf
  rw [c2] at hs
  obtain ⟨c0, c1, rfl⟩ : ∃ c0 c1, cs = #[c0, c1] := by
    rcases cs with ⟨l⟩
    match l, hs with
    | [c0, c1], _ => exact ⟨c0, c1, rfl⟩
  match xs, hn with
  | [x0, x1], _ =>
    have i0 := hi 0 (by omega)
    have i1 := hi 1 (by omega)
    simp [cInt, Value.cells] at i0 i1
    obtain ⟨s0, e0, _, l0⟩ := DataW.trod_int Tryz.underlying3 i0
    obtain ⟨s1, e1, _, l1⟩ := DataW.trod_int Tryz.underlying3 i1
    simp only [List.cons.injEq, and_true] at e0 e1
    subst e0 e1
    exact ⟨s0, s1, rfl, wfb l0, wfb l1⟩
end Go.Proofs.YtdnbhgkbfbgnaaaGreatDoor

