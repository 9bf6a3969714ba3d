/- What the rows' list of variables gives. -/
import Derived.Test.YtbdiofifjckceaaGreatDoorRk
import Derived.Test.YtbdiofifjckceaaGreatDoorZb
import Derived.LaidLaws
namespace Go.Proofs.YtbdiofifjckceaaGreatDoor
open Go.ChangeShapes Go.WideShapes Go.ChangeAt Go.RowKit

theorem laid_mem {w : World} {n : String} {d : DataW Unit} : ∀ {l : List (String × DataW Unit)} {ps : List MemPlace}, DataW.LaidVars Tryz.prog w l ps → (n, d) ∈ l →
    ∃ g t cs fuel p, Tryz.prog.globalNamed n = some g ∧ (Tryz.prog.globals[g]?).map (·.type) = some t ∧ w.var? Tryz.prog n = some cs ∧ DataW.trod (fun _ => ()) Tryz.prog w 0 (fun _ => true) false fuel t cs.toList = some (d, p)
  | [], _, _, h => by cases h
  | (m, e) :: r, _, hl, h => by
    obtain ⟨g, t, cs, fuel, p, q, h1, h2, h3, h4, h5, _⟩ := hl
    rcases List.mem_cons.1 h with h | h
    · cases h; exact ⟨g, t, cs, fuel, p, h1, h2, h3, h4⟩
    · exact laid_mem h5 h
theorem gPow : Tryz.prog.globalNamed "internal/strconv.uint64pow10" = some 2 := by kernel_rfl
theorem gPowType : (Tryz.prog.globals[2]?).map (·.type) = some 133 := by kernel_rfl
theorem cellsA : Tryz.prog.cellsOf 133 = 20 := by kernel_rfl
theorem cellsE : Tryz.prog.cellsOf 95 = 1 := by kernel_rfl
theorem gErr : Tryz.prog.globalNamed "strconv.ErrRange" = some 1 := by kernel_rfl
theorem gErrType : (Tryz.prog.globals[1]?).map (·.type) = some 66 := by kernel_rfl
theorem tz_of {W : World} {laid : List (String × DataW Unit)} (h : laidMet Tryz.prog laid W) (h1 : ("internal/strconv.uint64pow10", Lib.tabData .u64 Lib.pow10Tab) ∈ laid) {nm : String} {d : DataW Unit} (h2 : ("strconv.ErrRange", .iface nm d) ∈ laid) : Tz W := by
  obtain ⟨ps, hL, _⟩ := h
  obtain ⟨g, t, cs, fuel, p, hg, ht, hvar, hd⟩ := laid_mem hL h1
  obtain rfl := Option.some.inj (gPow.symm.trans hg)
  obtain rfl := Option.some.inj (gPowType.symm.trans ht)
  obtain ⟨g', t', cs', fuel', p', hg', ht', hvar', hd'⟩ := laid_mem hL h2
  obtain rfl := Option.some.inj (gErr.symm.trans hg')
  obtain rfl := Option.some.inj (gErrType.symm.trans ht')
  refine ⟨?_, ?_⟩
  · unfold Lib.TabIs
    rw [hvar, ← Lib.cells_of_tab Tryz.underlying133 Tryz.underlying95 cellsE cellsA hd]
  · obtain ⟨_, u, v, hc, _, _⟩ := iface_of_trod Tryz.underlying66 hd'
    exact ⟨u, v, by rw [hvar', ← Array.toArray_toList (xs := cs'), hc]⟩
end Go.Proofs.YtbdiofifjckceaaGreatDoor
