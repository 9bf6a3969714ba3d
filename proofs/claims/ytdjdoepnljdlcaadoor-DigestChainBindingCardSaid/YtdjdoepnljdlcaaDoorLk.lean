/- From a law's walk to what its row says: the reading of the arguments stays, and the table lies where the rows say. -/
import Derived.Test.YtdjdoepnljdlcaaDoorTie
import Derived.Test.YtdjdoepnljdlcaaDoorCards
import Derived.Test.YtdjdoepnljdlcaaDoorSc
import Derived.Test.YtdjdoepnljdlcaaDoorUc
import Derived.ChangeSlices
import Derived.SliceStrings
import Derived.WalkKit
import Derived.ProofKit
import Derived.OpenShut
import Derived.Carry
import Derived.Deep.DeepHandedRow
import Derived.Lib.LaidTab
namespace Go.Proofs.YtdjdoepnljdlcaaDoor
open Go.ChangeShapes Go.WideShapes Go.ChangeAt Go.RowKit

theorem own : ownKnob Tryd.prog.godebug = none := by kernel_rfl
theorem gTab : Tryd.prog.globalNamed "yardstick/digest.addends" = some 0 := by kernel_rfl
theorem gTabType : (Tryd.prog.globals[0]?).map (·.type) = some 79 := by kernel_rfl
theorem cells79 : Tryd.prog.cellsOf 79 = 64 := by kernel_rfl
theorem cells48 : Tryd.prog.cellsOf 48 = 1 := by kernel_rfl
theorem cells9 : Tryd.prog.cellsOf 9 = 1 := by kernel_rfl
theorem laidOutT : laidOutB Tryd.prog = true := by kernel_rfl

/-- what the rows' list gives -/
theorem tab_of {W : World} (h : laidMetH Tryd.prog [("yardstick/digest.addends", Rows.laid_yardstick_digest_addends)] W) : Tab W := by
  have t : Lib.TabIs Tryd.prog W "yardstick/digest.addends" .u32 [1116352408, 1899447441, 3049323471, 3921009573, 961987163, 1508970993, 2453635748, 2870763221, 3624381080, 310598401, 607225278, 1426881987, 1925078388, 2162078206, 2614888103, 3248222580, 3835390401, 4022224774, 264347078, 604807628, 770255983, 1249150122, 1555081692, 1996064986, 2554220882, 2821834349, 2952996808, 3210313671, 3336571891, 3584528711, 113926993, 338241895, 666307205, 773529912, 1294757372, 1396182291, 1695183700, 1986661051, 2177026350, 2456956037, 2730485921, 2820302411, 3259730800, 3345764771, 3516065817, 3600352804, 4094571909, 275423344, 430227734, 506948616, 659060556, 883997877, 958139571, 1322822218, 1537002063, 1747873779, 1955562222, 2024104815, 2227730452, 2361852424, 2428436474, 2756734187, 3204031479, 3329325298] :=
    Lib.tabIs_of_head (rest := []) gTab gTabType Tryd.underlying79 Tryd.underlying48 cells48 cells79 h
  intro i hi
  rw [t.cell gTab i hi]
  have e : ∀ j : Fin 64, ([1116352408, 1899447441, 3049323471, 3921009573, 961987163, 1508970993, 2453635748, 2870763221, 3624381080, 310598401, 607225278, 1426881987, 1925078388, 2162078206, 2614888103, 3248222580, 3835390401, 4022224774, 264347078, 604807628, 770255983, 1249150122, 1555081692, 1996064986, 2554220882, 2821834349, 2952996808, 3210313671, 3336571891, 3584528711, 113926993, 338241895, 666307205, 773529912, 1294757372, 1396182291, 1695183700, 1986661051, 2177026350, 2456956037, 2730485921, 2820302411, 3259730800, 3345764771, 3516065817, 3600352804, 4094571909, 275423344, 430227734, 506948616, 659060556, 883997877, 958139571, 1322822218, 1537002063, 1747873779, 1955562222, 2024104815, 2227730452, 2361852424, 2428436474, 2756734187, 3204031479, 3329325298] : List Int).getD j.1 0 = ((Sh.K.getD j.1 0).toNat : Int) := by decide +kernel
  rw [e ⟨i, hi⟩]
theorem pos_of {W : World} (h : Tab W) : 0 < W.heap.size := by
  have h1 := h 0 (by decide)
  rw [World.cell?] at h1
  cases hq : W.heap[0]? with
  | none => rw [hq] at h1; cases h1
  | some o => exact (Array.getElem?_eq_some_iff.1 hq).1

/-- a []string that came in -/
def In (W : World) (v : Value) (l : List ByteArray) : Prop := Sl W v l ∨ (l = [] ∧ ∃ a c, v = .slice a 0 c)
theorem strings_in {H : Type} {enc : TypeId × Value → H} {W : World} {b : Nat} {v : Value} {d : DataW H} {p : List MemPlace}
    (hval : Value.okWide Tryd.prog W .any b 26 v) (h : DataW.Trod enc Tryd.prog W 0 (fun _ => true) true 26 v d p) :
    ∃ l, In W v l ∧ ∀ s ∈ l, s.size ≤ 9223372036854775807 := by
  obtain ⟨a0, len, cap, rfl⟩ := okWide_slice Tryd.underlying26 hval
  obtain ⟨fuel, hf⟩ := h
  have hM : maxLen ≤ 9223372036854775807 := by unfold maxLen; omega
  rcases open_strings Tryd.underlying26 Tryd.underlying9 cells9 hf with ⟨hcs, _⟩ | ⟨a, len', cap', ss, hcs, _, hl, hm, hz, _, hcell, hws⟩
  · simp [Value.cells] at hcs
    obtain ⟨rfl, rfl, rfl⟩ := hcs
    exact ⟨[], .inl (.inl ⟨rfl, rfl⟩), fun _ h => by cases h⟩
  · simp [Value.cells] at hcs
    obtain ⟨rfl, rfl, rfl⟩ := hcs
    simp only [if_true] at hz
    by_cases h0 : cap = 0
    · obtain rfl : len = 0 := by omega
      exact ⟨[], .inr ⟨rfl, _, _, rfl⟩, fun _ h => by cases h⟩
    · obtain ⟨bb, off, spot⟩ := a
      have hspot : spot = none := by simpa [Addr.add] using World.cell?_spot (hcell 0 (by omega))
      subst hspot
      have hlt : bb < W.heap.size := by
        have h1 := hcell 0 (by omega)
        rw [Addr.add_mid, World.cell?] at h1
        cases hq : W.heap[bb]? with
        | none => rw [hq] at h1; cases h1
        | some o => exact (Array.getElem?_eq_some_iff.1 hq).1
      refine ⟨ss.take len, .inl (.inr ⟨bb, off, cap, by rw [List.length_take, Nat.min_eq_left (by omega)], by rw [List.length_take]; omega, by omega, hlt, fun j x hj => ?_⟩), fun s hs => Nat.le_trans (hws s (List.mem_of_mem_take hs)) hM⟩
      rw [List.getElem?_take] at hj
      split at hj
      · have hj2 := (List.getElem?_eq_some_iff.1 hj).1
        have h1 := hcell j hj2
        rw [Addr.add_mid, List.getD_eq_getElem?_getD, hj] at h1
        exact h1
      · cases hj

theorem few_in (l : List ByteArray) (n : Nat) (v : Value) (w : World) (hn : n ≤ 1000) (hz : ∀ s ∈ l, s.size ≤ 9223372036854775807) (hs : In w v l) :
    Calls Tryd.prog 21 #[v, .int .i64 (n : Int)] w fun e w' => ∃ u, e = .returned u ∧ w'.ownsRow w.heap.size 9 1 u (fw l n).length (scells (fw l n)) ∧ Below w.heap.size w w' := by
  rcases hs with hs | ⟨rfl, a, c, rfl⟩
  · exact few_any l n v w hn hz hs
  · have he : fw [] n = [] := by simp [fw]
    rw [he]
    clear he
    go_enter Tryd.func21, Tryd.ntmps21
    go_wp2
    go_loopw [5, 6] (fun u i wr => i = .int .i64 0 ∧ u = .slice none 0 0 ∧ Hid (wr = w)) (fun _ _ _ => 0)
    case atStart => exact ⟨rfl, rfl, Lib.hid rfl⟩
    case round =>
      obtain ⟨rfl, rfl, hwr⟩ := hrel
      go_wp2
      go_ret
      refine ⟨_, rfl, ?_, ?_⟩
      · exact World.ownsRow_nil _ _ _ _
      · rw [hwr.out]; exact Below.refl _ _

section
variable {H : Type} {enc : TypeId × Value → H} {W W' : World}

theorem trodAll_stays (hb : Below W.heap.size W W') : ∀ {ts : List TypeId} {vs : List Value} {ds : List (DataW H)} {ps : List MemPlace},
    (∀ t ∈ ts, Tryd.prog.readableRec t = true ∧ t < Tryd.prog.types.size) → (∀ x ∈ ps, x.block < W.heap.size) →
    DataW.TrodAll enc Tryd.prog W 0 (fun _ => true) true ts vs ds ps → DataW.TrodAll enc Tryd.prog W' 0 (fun b => decide (b < W.heap.size)) true ts vs ds ps
  | [], _, _, _, _, _, h => by
    obtain ⟨rfl, rfl, rfl⟩ := trodAll_nil h
    exact trodAll_mk0
  | t :: ts, _, _, _, ht, hp, h => by
    obtain ⟨v, vs, d, ds, a, b, rfl, rfl, rfl, h1, h2⟩ := trodAll_cons h
    have g := ht t (by simp)
    exact trodAll_cons_mk (Below.trod laidOutT g.1 g.2 h1 hb (fun x hx => hp x (by simp [hx]))) (trodAll_stays hb (fun u hu => ht u (by simp [hu])) (fun x hx => hp x (by simp [hx])) h2)

/-- A law that has answered true, and turned nothing that lay when it was called, has kept its row. -/
theorem law_done {f : Func} {s : ChangeSpec} {args : Array Value} {ds gs : List (DataW H)} {before : List MemPlace}
    (hp : ∀ t ∈ f.params.toList, Tryd.prog.readableRec t = true ∧ t < Tryd.prog.types.size) (hr : f.resultTypes = #[4]) (hv : s.vars = [])
    (hs : (s.fn H ds).results = [.lit (.bool true)] ∧ (s.fn H ds).args = ds ∧ (s.fn H ds).vars = [])
    (hW : DataW.Whole enc Tryd.prog f.params.toList s.vars false W args.toList ds gs before) (hb : Below W.heap.size W W') :
    s.post enc Tryd.prog f false true false false W args (.bool true) W' := by
  have hW' := hW
  have hlt : ∀ p ∈ before, p.block < W.heap.size := fun p hp => hW.lt p hp
  obtain ⟨p, q, hA, hV, rfl, hz, hn⟩ := hW
  rw [hv] at hV
  obtain ⟨rfl, rfl⟩ := trodVars_none hV
  simp only [List.append_nil] at hlt
  refine ⟨ds, [], p ++ [], [], p, [], hW', ?_, ?_, ?_, World.keptBut_mono (fun x hx => ⟨hx, .inr (by simpa using hx)⟩) (hb.frame (· ∈ p ++ [])), fun h => by cases h⟩
  · rw [hr, List.append_nil, hs.1]
    exact trodAll_cons_mk (shut_bool Tryd.underlying4 _) trodAll_mk0
  · rw [List.append_nil, hs.2.1]
    exact trodAll_stays hb hp hlt hA
  · rw [hv, List.append_nil, hs.2.2]
    rfl
end
end Go.Proofs.YtdjdoepnljdlcaaDoor
