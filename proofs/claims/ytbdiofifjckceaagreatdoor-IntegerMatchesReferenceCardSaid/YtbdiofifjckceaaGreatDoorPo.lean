/- Numbers with a sign. -/
import Derived.Test.YtbdiofifjckceaaGreatDoorPn
namespace Go.Proofs.YtbdiofifjckceaaGreatDoor
open Go.RowKit

/-- the value v is the integer z -/
def Num (w : World) (v : Value) (z : Int) : Prop := ∃ u, v = .agg #[.bool (decide (z < 0)), u] ∧ NSl w u z.natAbs
theorem Num.below {w w' : World} {v : Value} {z : Int} (h : Num w v z) (hb : Below w.heap.size w w') : Num w' v z := by
  obtain ⟨u, e, h⟩ := h
  exact ⟨u, e, h.below hb⟩

theorem info_number : (Tryz.prog.info? 49).map (·.size) = some 2 := by kernel_rfl
theorem below_alloc (w : World) (o : Obj) : Below w.heap.size w (w.alloc o) := (Below.refl _ w).alloc (Nat.le_refl _) o

set_option maxRecDepth 100000 in
theorem signed_any (b : Bool) (n : Nat) (u : Value) (w : World) (h : NSl w u n) (hl : (grp n).length ≤ 60000) :
    Calls Tryz.prog 55 #[.bool b, u] w fun e w' => ∃ v, e = .returned v ∧ Num w' v (if b then -(n : Int) else n) ∧ Below w.heap.size w w' := by
  obtain ⟨a, c, rfl⟩ := h.form
  obtain ⟨k, hk⟩ : ∃ k, (grp n).length = k := ⟨_, rfl⟩
  have hk0 : k = 0 ↔ n = 0 := by rw [← hk]; exact List.length_eq_zero_iff.trans grp_nil
  rw [hk] at h hl ⊢
  have H := Lib.hid h
  have HK := Lib.hid hk0
  clear h hk hk0
  cases b
  · go_enter Tryz.func55, Tryz.ntmps55
    go_wp2
    refine bodyPost_ret (results_cell_row rfl _ _ w.heap.size 49 #[.bool false, .slice a k c] (0, 0) _ rfl (World.alloc_heap_new w _) Tryz.underlying49 rfl info_number) rfl ?_
    refine ⟨_, rfl, ⟨_, ?_, NSl.below (by simpa using H.out) (below_alloc w _)⟩, below_alloc w _⟩
    have e : decide ((n : Int) < 0) = false := by simp
    rw [← e]
  · by_cases h0 : k = 0
    · have hn := HK.out.1 h0
      subst h0
      subst hn
      go_enter Tryz.func55, Tryz.ntmps55
      go_wp2
      refine bodyPost_ret (results_cell_row rfl _ _ w.heap.size 49 #[.bool false, .slice a 0 c] (0, 0) _ rfl (World.alloc_heap_new w _) Tryz.underlying49 rfl info_number) rfl ?_
      refine ⟨_, rfl, ⟨.slice a 0 c, ?_, NSl.below (by simpa using H.out) (below_alloc w _)⟩, below_alloc w _⟩
      rfl
    · have hn : 0 < n := by have := HK.out; omega
      have hk1 : decide (0 < k) = true := by rw [decide_eq_true_eq]; omega
      have HK1 := Lib.hid hk1
      clear hk1
      go_enter Tryz.func55, Tryz.ntmps55
      go_wp2
      refine bodyPost_ret (results_cell_row rfl _ _ w.heap.size 49 #[.bool (decide (0 < k)), .slice a k c] (0, 0) _ rfl (World.alloc_heap_new w _) Tryz.underlying49 rfl info_number) rfl ?_
      refine ⟨_, rfl, ⟨_, ?_, NSl.below (by simpa using H.out) (below_alloc w _)⟩, below_alloc w _⟩
      rw [HK1.out]
      have e : decide (-(n : Int) < 0) = true := by simp; omega
      rw [← e]

theorem vld_sign {L : List UInt8} (h : vld L = true) : decide (num L < 0) = (L.head? == some 45) ∧ (num L).natAbs = nmN (bare L) := by
  by_cases h0 : L.head? = some 45
  · obtain ⟨l, rfl⟩ : ∃ l, L = 45 :: l := by
      cases L with
      | nil => simp at h0
      | cons x l => simp at h0; exact ⟨l, by rw [h0]⟩
    have h1 := (vld_txt h).1
    have hb : bare (45 :: l) = l := by simp [bare]
    rw [hb, num_neg]
    refine ⟨?_, by omega⟩
    rw [show ((45 :: l : List UInt8).head? == some 45) = true by simp, decide_eq_true_eq]
    rcases Nat.eq_zero_or_pos (nmN l) with hz | hz
    · exfalso
      rw [num_neg, hz] at h1
      have : txt (-((0 : Nat) : Int)) = [48] := by rw [txt, if_neg (by simp), txN, if_pos (by simp)]
      rw [this] at h1
      simp at h1
    · omega
  · rw [num_pos h0, bare, if_neg h0]
    refine ⟨?_, by omega⟩
    rw [show (L.head? == some 45) = false by simpa using h0]
    simp
theorem vld_digits {L : List UInt8} (h : vld L = true) : (bare L).all isDg = true ∧ (bare L).length ≤ 200 ∧ L.length ≤ 201 := by
  have h1 := vld_txt h
  have h2 := txt_bare (num L)
  rw [h1.1] at h2
  have h3 : (bare L).length ≤ 200 := by
    rw [vld, Bool.and_eq_true, decide_eq_true_eq] at h
    exact h.1.2
  refine ⟨by rw [h2]; exact txN_all _, h3, ?_⟩
  rw [bare] at h3
  split at h3
  · have := List.length_tail (l := L); omega
  · omega

/-- a block that holds a number -/
def NBlk (w : World) (g : Nat) (x y : Value) : Prop := w.heap[g]? = some (.cells #[x, y] 49 (0, 0))
theorem NBlk.c0 {w : World} {g : Nat} {x y : Value} (h : NBlk w g x y) : w.cell? ⟨g, 0, none⟩ = some x := by rw [World.cell?, h]; rfl
theorem NBlk.c1 {w : World} {g : Nat} {x y : Value} (h : NBlk w g x y) : w.cell? ⟨g, 1, none⟩ = some y := by rw [World.cell?, h]; rfl
theorem NBlk.c2 {w : World} {g : Nat} {x y : Value} (h : NBlk w g x y) {j : Nat} (hj : 2 ≤ j) : w.cell? ⟨g, j, none⟩ = none := by
  rw [World.cell?, h]
  simp only [List.getElem?_toArray]
  exact List.getElem?_eq_none (by simpa using hj)
theorem NSl.over {w w2 : World} {v : Value} {n g : Nat} {p : Bool} {u : Value} (h : NSl w v n) (h0 : w.cell? ⟨g, 0, none⟩ = some (.bool p)) (h1 : w.cell? ⟨g, 1, none⟩ = some u) (heq : ∀ k, k ≠ g → w2.heap[k]? = w.heap[k]?) (hsz : w.heap.size ≤ w2.heap.size) (h2 : ∀ j, 2 ≤ j → w.cell? ⟨g, j, none⟩ = none) (hu : ∀ x, u ≠ .int .i64 x) : NSl w2 v n := by
  rcases h with h | ⟨b, o, c, rfl, g1, g2, g3, g4⟩
  · exact .inl h
  · by_cases hb : b = g
    · subst hb
      have hl : grp n = [] := by
        cases hg : grp n with
        | nil => rfl
        | cons x l =>
          exfalso
          have h3 := g4 0 x (by rw [hg]; rfl)
          rw [Nat.add_zero] at h3
          rcases Nat.lt_or_ge o 2 with ho | ho
          · rcases (show o = 0 ∨ o = 1 by omega) with rfl | rfl
            · rw [h0] at h3; cases h3
            · rw [h1] at h3; exact hu x (Option.some.inj h3)
          · rw [h2 o ho] at h3; cases h3
      exact .inl ⟨_, c, by rw [hl]; rfl, hl⟩
    · refine .inr ⟨b, o, c, rfl, g1, g2, Nat.lt_of_lt_of_le g3 hsz, fun j x hj => ?_⟩
      have h3 := g4 j x hj
      rw [World.cell?] at h3 ⊢
      rw [heq b hb]; exact h3
theorem NBlk.f {w : World} {g : Nat} {x y : Value} (h : NBlk w g x y) (j : Nat) : w.frozen? ⟨g, j, none⟩ = false := by rw [World.frozen?, h]; simp
theorem NBlk.s0 {w : World} {g : Nat} {x y : Value} (h : NBlk w g x y) (v : Value) : NBlk (w.setCell ⟨g, 0, none⟩ v) g v y := by
  rw [NBlk, heap_setCell_same w g 0 _ _ v h]; rfl
theorem NBlk.s1 {w : World} {g : Nat} {x y : Value} (h : NBlk w g x y) (v : Value) : NBlk (w.setCell ⟨g, 1, none⟩ v) g x v := by
  rw [NBlk, heap_setCell_same w g 1 _ _ v h]; rfl

set_option maxRecDepth 100000 in
theorem read_any (s : ByteArray) (L : List UInt8) (w : World) (hL : s.data.toList = L) (hv : vld L = true) :
    Calls Tryz.prog 46 #[.string s] w fun e w' => ∃ v, e = .returned v ∧ Num w' v (num L) ∧ Below w.heap.size w w' := by
  obtain ⟨d1, d2, d3⟩ := vld_digits hv
  obtain ⟨s1, s2⟩ := vld_sign hv
  have cC := fun W => cut_any s L W hL (by omega)
  have cR := fun W => readNatural_any ⟨(bare L).toArray⟩ (bare L) _ W (by simp) rfl d2 d1
  have S2 := Lib.hid s2
  have S1 := Lib.hid s1
  generalize (bare L).toArray = r at *
  generalize (L.head? == some 45) = b at *
  clear hL d1 d2 d3 s1 s2
  go_enter Tryz.func46, Tryz.ntmps46
  go_wp2_with (first | (go_at_call 62; (with_reducible refine (cC _).mono ?_); rintro e w' ⟨rfl, rfl⟩) | (go_at_call 63; (with_reducible refine (cR _).mono ?_); rintro e w' ⟨u, rfl, hN, hB⟩; obtain ⟨a, c, rfl⟩ := hN.form; have h0 : NBlk w' w.heap.size (.bool false) (.slice none 0 0) := (hB.block _ (by simp)).trans (World.alloc_heap_new w _); have c0 := h0.c0; have c1' := h0.c1; have N2 := Lib.hid (fun j (hj : 2 ≤ j) => h0.c2 hj); have f0 := h0.f 0; have hA := h0.s0 (.bool b); have c1 := hA.c1; have f1 := hA.f 1; have HA := Lib.hid (hA.s1 (.slice a (grp (nmN (bare L))).length c)); have HN := Lib.hid hN; have HB := Lib.hid hB; clear h0 hA hN hB))
  have HB2 := (((below_alloc w (.cells #[.bool false, .slice none 0 0] 49)).trans (HB.out.mono (by simp))).setCell (p := ⟨w.heap.size, 0, none⟩) (Nat.le_refl _) (.bool b)).setCell (p := ⟨w.heap.size, 1, none⟩) (Nat.le_refl _) (.slice a (grp (nmN (bare L))).length c)
  have hN2 := HN.out.over (w2 := (w'.setCell ⟨w.heap.size, 0, none⟩ (.bool b)).setCell ⟨w.heap.size, 1, none⟩ (.slice a (grp (nmN (bare L))).length c)) c0 c1' (fun k hk => (Below.heap_setCell _ _ _ _ hk).trans (Below.heap_setCell _ _ _ _ hk)) (by simp [World.setCell]) N2.out (fun x e => by cases e)
  refine bodyPost_ret (results_cell_row rfl _ _ w.heap.size 49 #[.bool b, .slice a (grp (nmN (bare L))).length c] (0, 0) _ rfl HA.out Tryz.underlying49 rfl info_number) rfl ?_
  exact ⟨_, rfl, ⟨_, by rw [S1.out], by rw [S2.out]; exact hN2⟩, HB2⟩
end Go.Proofs.YtbdiofifjckceaaGreatDoor
