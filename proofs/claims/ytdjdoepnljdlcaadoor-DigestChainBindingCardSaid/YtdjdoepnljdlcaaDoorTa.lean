/- Walks of package digest's Sum, Leaf, Node, Chain, split, areDigests, cutLast. -/
import Derived.Test.YtdjdoepnljdlcaaDoorSu
import Derived.Shelf.Small.Bits
import Derived.Ground.NamesProg
namespace Go.Proofs.YtdjdoepnljdlcaaDoor
open Go.RowKit

theorem flat_one (s : ByteArray) : (⟨(Sh.sha (flat [s])).toArray⟩ : ByteArray) = sumB s := by simp [flat, sumB]
theorem flat_two (a b : ByteArray) : (⟨(Sh.sha (flat [a, b])).toArray⟩ : ByteArray) = sumB (a ++ b) := by simp [flat, sumB]
theorem flat_three (a b c : ByteArray) : (⟨(Sh.sha (flat [a, b, c])).toArray⟩ : ByteArray) = sumB (a ++ b ++ c) := by simp [flat, sumB]

theorem sum_call (l : List ByteArray) (n : Nat) (hn : l.length = n) (r : ByteArray) (hr : (⟨(Sh.sha (flat l)).toArray⟩ : ByteArray) = r) (h0 : 0 < n) (h1 : n ≤ 800) (hz : (flat l).length ≤ 549755813888) (w : World) (ht : Tab w) (hw : 0 < w.heap.size) :
    Calls Tryd.prog 40 #[.slice (some ⟨w.heap.size, 0, none⟩) n n] (w.alloc (.cells (scells l).toArray 9)) fun e w' => e = .returned (.string r) ∧ Below w.heap.size w w' := by
  subst hn
  subst hr
  have hB := (Below.refl w.heap.size w).alloc (Nat.le_refl _) (.cells (scells l).toArray 9)
  have hs : StrRow (w.alloc (.cells (scells l).toArray 9)) w.heap.size 0 l := by
    intro j x hj
    rw [Nat.zero_add, World.cell?, World.alloc_heap_new]
    simp [scells, hj]
  refine (sum_any w.heap.size l.length l _ h0 h1 (by simp) hs (ht.below hB hw) hz).mono ?_
  rintro e w' ⟨rfl, hb⟩
  exact ⟨rfl, hB.trans (hb.mono (by simp))⟩

theorem Sum_any (s : ByteArray) (hs : s.size ≤ 137438953472) (w : World) (ht : Tab w) (hw : 0 < w.heap.size) :
    Calls Tryd.prog 13 #[.string s] w fun e w' => e = .returned (.string (sumB s)) ∧ Below w.heap.size w w' := by
  have hc := sum_call [s] 1 rfl _ (flat_one s) (by decide) (by decide) (by simp [flat]; omega) w ht hw
  have HT := Lib.hid ht
  clear ht
  go_enter Tryd.func13, Tryd.ntmps13
  go_wp2_with (go_at_call 40; (refine hc.mono ?_); rintro e w' ⟨rfl, hb⟩)
  go_ret
  exact ⟨rfl, hb⟩
theorem Leaf_any (s : ByteArray) (hs : s.size ≤ 137438953472) (w : World) (ht : Tab w) (hw : 0 < w.heap.size) :
    Calls Tryd.prog 15 #[.string s] w fun e w' => e = .returned (.string (leafB s)) ∧ Below w.heap.size w w' := by
  have hc := sum_call [⟨#[0]⟩, s] 2 rfl _ (flat_two _ s) (by decide) (by decide) (by simp [flat]; omega) w ht hw
  have HT := Lib.hid ht
  clear ht
  go_enter Tryd.func15, Tryd.ntmps15
  go_wp2_with (go_at_call 40; (refine hc.mono ?_); rintro e w' ⟨rfl, hb⟩)
  go_ret
  exact ⟨rfl, hb⟩
theorem Node_any (a b : ByteArray) (ha : a.size ≤ 137438953472) (hb : b.size ≤ 137438953472) (w : World) (ht : Tab w) (hw : 0 < w.heap.size) :
    Calls Tryd.prog 17 #[.string a, .string b] w fun e w' => e = .returned (.string (nodeB a b)) ∧ Below w.heap.size w w' := by
  have hc := sum_call [⟨#[1]⟩, a, b] 3 rfl _ (flat_three _ a b) (by decide) (by decide) (by simp [flat]; omega) w ht hw
  have HT := Lib.hid ht
  clear ht
  go_enter Tryd.func17, Tryd.ntmps17
  go_wp2_with (go_at_call 40; (refine hc.mono ?_); rintro e w' ⟨rfl, hb⟩)
  go_ret
  exact ⟨rfl, hb⟩
theorem Chain_any (a b : ByteArray) (ha : a.size ≤ 137438953472) (hb : b.size ≤ 137438953472) (w : World) (ht : Tab w) (hw : 0 < w.heap.size) :
    Calls Tryd.prog 19 #[.string a, .string b] w fun e w' => e = .returned (.string (chainB a b)) ∧ Below w.heap.size w w' := by
  have hc := sum_call [⟨#[2]⟩, a, b] 3 rfl _ (flat_three _ a b) (by decide) (by decide) (by simp [flat]; omega) w ht hw
  have HT := Lib.hid ht
  clear ht
  go_enter Tryd.func19, Tryd.ntmps19
  go_wp2_with (go_at_call 40; (refine hc.mono ?_); rintro e w' ⟨rfl, hb⟩)
  go_ret
  exact ⟨rfl, hb⟩

def Tryd.laysLen_ren : Go.Shelf.Ren := ⟨fun | 125 => 60 | 128 => 67 | 129 => 68 | n => n, fun | 46 => 52 | 3 => 3 | 51 => 48 | 53 => 77 | 4 => 4 | 5 => 5 | 9 => 9 | n => n, fun | n => n⟩
theorem Tryd.laysLen : Go.Proofs.Lays.n125 Tryd.prog Tryd.laysLen_ren := {
  mixed := by kernel_rfl
  f125 := Tryd.func60.trans (congrArg some (by kernel_rfl))
  f128 := Tryd.func67.trans (congrArg some (by kernel_rfl))
  f129 := Tryd.func68.trans (congrArg some (by kernel_rfl))
  t3 := Tryd.underlying3
  a3 := Tryd.isAgg3
  z3 := Tryd.sizeOf3
  v3 := Tryd.zeroValue3
  t4 := Tryd.underlying4
  a4 := Tryd.isAgg4
  z4 := Tryd.sizeOf4
  v4 := Tryd.zeroValue4
  t5 := Tryd.underlying5
  a5 := Tryd.isAgg5
  z5 := Tryd.sizeOf5
  v5 := Tryd.zeroValue5
  t9 := Tryd.underlying9
  a9 := Tryd.isAgg9
  z9 := Tryd.sizeOf9
  v9 := Tryd.zeroValue9
  t46 := Tryd.underlying52
  a46 := Tryd.isAgg52
  z46 := Tryd.sizeOf52
  v46 := Tryd.zeroValue52
  t51 := Tryd.underlying48
  a51 := Tryd.isAgg48
  z51 := Tryd.sizeOf48
  v51 := Tryd.zeroValue48
  t53 := Tryd.underlying77
  a53 := Tryd.isAgg77
  z53 := Tryd.sizeOf77
  v53 := Tryd.zeroValue77 }
theorem fLen : Tryd.laysLen_ren.f 125 = 60 := by kernel_rfl
end Go.Proofs.YtdjdoepnljdlcaaDoor
