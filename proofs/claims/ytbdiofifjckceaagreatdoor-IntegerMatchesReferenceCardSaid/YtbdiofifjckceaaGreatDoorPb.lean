/- Contracts of carried and take: they write in place, into a block that is known whole. -/
import Derived.Test.YtbdiofifjckceaaGreatDoorPa
import Derived.Laws.OwnMore
import Derived.Maps.AppendAt
import Derived.Maps.Range
namespace Go.Proofs.YtbdiofifjckceaaGreatDoor
open Go.RowKit

/-- a block whose first cells are integers that are known, and which can be written -/
def ABlk (w : World) (g : Nat) (L : List Int) : Prop := ∃ T : List Value, w.heap[g]? = some (.cells (L.map (Value.int .i64) ++ T).toArray 3 (0, 0))
theorem ABlk.lt {w : World} {g : Nat} {L : List Int} (h : ABlk w g L) : g < w.heap.size := by obtain ⟨T, h⟩ := h; exact (Array.getElem?_eq_some_iff.1 h).1
theorem ABlk.cell {w : World} {g : Nat} {L : List Int} (h : ABlk w g L) {j : Nat} {x : Int} (hj : L[j]? = some x) : w.cell? ⟨g, j, none⟩ = some (.int .i64 x) := by
  obtain ⟨T, h⟩ := h
  have hl := (List.getElem?_eq_some_iff.1 hj).1
  rw [World.cell?, h]
  simp only [List.getElem?_toArray]
  rw [List.getElem?_append_left (by simpa using hl), List.getElem?_map, hj]
  rfl
theorem ABlk.free {w : World} {g : Nat} {L : List Int} (h : ABlk w g L) (j : Nat) : w.frozen? ⟨g, j, none⟩ = false := by
  obtain ⟨T, h⟩ := h
  rw [World.frozen?, h]; simp
theorem ABlk.set {w : World} {g : Nat} {L : List Int} (h : ABlk w g L) (j : Nat) (x : Int) : ABlk (w.setCell ⟨g, j, none⟩ (.int .i64 x)) g (L.set j x) := by
  obtain ⟨T, h⟩ := h
  have := heap_setCell_same w g j _ _ (.int .i64 x) h
  by_cases hj : j < L.length
  · refine ⟨T, ?_⟩
    rw [this, List.setIfInBounds_toArray, List.set_append_left _ _ (by simpa using hj), List.map_set]
  · refine ⟨T.set (j - L.length) (.int .i64 x), ?_⟩
    rw [this, List.setIfInBounds_toArray, List.set_append_right _ _ (by simpa using hj), List.length_map, show L.set j x = L from List.set_eq_of_length_le (by omega)]
theorem setCell_grown (w : World) (g j : Nat) (u : Value) : w.grownBy (w.setCell ⟨g, j, none⟩ u) (some g) := ⟨rfl, rfl, rfl, by simp, fun k _ hk => heap_setCell_other w ⟨g, j, none⟩ k u (fun e => hk (by simp [e]))⟩
theorem ABlk.row {w : World} {g : Nat} {P l S : List Int} (h : ABlk w g (P ++ l ++ S)) : IRow w g P.length l := fun j x hj => by
  refine h.cell ?_
  have hl := (List.getElem?_eq_some_iff.1 hj).1
  rw [List.append_assoc, List.getElem?_append_right (by omega), Nat.add_sub_cancel_left, List.getElem?_append_left hl, hj]
theorem set_mid (A : List Int) (x v : Int) (B : List Int) : (A ++ x :: B).set A.length v = A ++ v :: B := by
  induction A with
  | nil => rfl
  | cons a A ih => simp [ih]
theorem mid_get (A : List Int) (x : Int) (B : List Int) : (A ++ x :: B)[A.length]? = some x := by simp

/-- carries stay small -/
theorem cout_small (l : List Int) : ∀ c : Int, (∀ x ∈ l, -1000000000000000 ≤ x ∧ x ≤ 1000000000000000) → -1000000000000 ≤ c ∧ c ≤ 1000000000000 → -1000000000000 ≤ cout c l ∧ cout c l ≤ 1000000000000 := by
  induction l with
  | nil => intro c _ h; exact h
  | cons x l ih =>
    intro c h hc
    have hx := h x (by simp)
    rw [cout]
    exact ih _ (fun y hy => h y (by simp [hy])) (by omega)

set_option maxRecDepth 100000 in
set_option maxHeartbeats 1000000 in
theorem carried_any (P l S : List Int) (g o n c : Nat) (w : World) (hP : P.length = o) (hn : l.length = n) (hA : ABlk w g (P ++ l ++ S)) (hb : ∀ x ∈ l, -1000000000000000 ≤ x ∧ x ≤ 1000000000000000) (hc : n ≤ c) (hc2 : c ≤ 9223372036854775807) :
    Calls Tryz.prog 69 #[.slice (some ⟨g, o, none⟩) n c] w fun e w' => e = .returned (.slice (some ⟨g, o, none⟩) (trz (carr 0 l)).length c) ∧ ABlk w' g (P ++ carr 0 l ++ S) ∧ w.grownBy w' (some g) ∧ w'.heap.size = w.heap.size := by
  have HP := Lib.hid hP
  have HN := Lib.hid hn
  have HB := Lib.hid hb
  have HA := Lib.hid hA
  have cT : ∀ (W : World) q, ABlk W g q → q = P ++ carr 0 l ++ S → Calls Tryz.prog 74 #[.slice (some ⟨g, o, none⟩) n c] W fun e w' => e = .returned (.slice (some ⟨g, o, none⟩) (trz (carr 0 l)).length c) ∧ ∃ q, w' = W.drewN q := fun W q h e => by
    subst e
    exact trimmed_some (carr 0 l) g o n c W (by rw [carr_len, hn]) hc hc2 (hP ▸ h.row)
  clear hP hn hb hA
  go_enter Tryz.func69, Tryz.ntmps69
  go_wp2
  go_loopw [3, 8] (fun cy i wr => ∃ (k : Nat) (y : Int), k ≤ n ∧ i = .int .i64 (k : Int) ∧ cy = .int .i64 y ∧ -1000000000000 ≤ y ∧ y ≤ 1000000000000 ∧ Hid (y = cout 0 (l.take k)) ∧ Hid (ABlk wr g (P ++ carr 0 (l.take k) ++ (l.drop k ++ S))) ∧ Hid (w.grownBy wr (some g) ∧ wr.heap.size = w.heap.size)) (fun _ i _ => n - (intOf i).toNat)
  case atStart => exact ⟨0, 0, by omega, rfl, rfl, by decide, by decide, Lib.hid rfl, Lib.hid (by have h := HA.out; simpa [carr] using h), Lib.hid ⟨⟨rfl, rfl, rfl, Nat.le_refl _, fun _ _ _ => rfl⟩, rfl⟩⟩
  case round =>
    obtain ⟨k, y, hk, rfl, rfl, hy1, hy2, hy, hA, hG⟩ := hrel
    by_cases h1 : k < n
    · have k1 : k < l.length := by rw [HN.out]; exact h1
      have hdr : l.drop k = l[k] :: l.drop (k + 1) := List.drop_eq_getElem_cons k1
      have htk : l.take (k + 1) = l.take k ++ [l[k]] := List.take_succ_eq_append_getElem k1
      have hx := HB.out _ (List.getElem_mem k1)
      have hlen : (P ++ carr 0 (l.take k)).length = o + k := by rw [List.length_append, carr_len, List.length_take, HP.out]; omega
      have hA2 := hA.out
      rw [hdr, List.cons_append] at hA2
      have hcell : wr.cell? ⟨g, o + k, none⟩ = some (.int .i64 l[k]) := by rw [← hlen]; exact hA2.cell (mid_get _ _ _)
      have hfree : wr.frozen? ⟨g, o + k, none⟩ = false := hA2.free _
      have hA3 := hA2.set (o + k) ((l[k] + y) % 10000)
      rw [← hlen, set_mid, hlen] at hA3
      have HA3 := Lib.hid (show ABlk (wr.setCell ⟨g, o + k, none⟩ (.int .i64 ((l[k] + y) % 10000))) g (P ++ carr 0 (l.take (k + 1)) ++ (l.drop (k + 1) ++ S)) by
        rw [htk, carr_snoc, ← hy.out]
        simpa using hA3)
      have HY := Lib.hid (show (l[k] + y) / 10000 = cout 0 (l.take (k + 1)) by rw [htk, cout_snoc, ← hy.out])
      have HG := Lib.hid (show w.grownBy (wr.setCell ⟨g, o + k, none⟩ (.int .i64 ((l[k] + y) % 10000))) (some g) ∧ (wr.setCell ⟨g, o + k, none⟩ (.int .i64 ((l[k] + y) % 10000))).heap.size = w.heap.size from ⟨hG.out.1.trans (setCell_grown _ _ _ _), by simp [hG.out.2]⟩)
      generalize l[k] = x at *
      have cS : ∀ W, Calls Tryz.prog 90 #[.int .i64 (x + y)] W fun e w' => e = .returned (.tuple #[.int .i64 ((x + y) / 10000), .int .i64 ((x + y) % 10000)]) ∧ W = w' := fun W => split_any (x + y) W (by omega) (by omega)
      clear hdr htk hlen hA2 hA3 hA hG hy cT k1
      go_wp2_with (go_at_call 90; (with_reducible refine (cS _).mono ?_); rintro e w' ⟨rfl, rfl⟩)
      go_roundw
      case rel => exact ⟨k + 1, _, by omega, by go_num, rfl, by omega, by omega, HY, HA3, HG⟩
      case measure => simp [intOf]; omega
    · have hk : k = n := by omega
      have e1 : l.take k = l := List.take_of_length_le (by rw [HN.out]; omega)
      have e2 : l.drop k = [] := List.drop_eq_nil_of_le (by rw [HN.out]; omega)
      have hA2 := hA.out
      rw [e1, e2, List.nil_append] at hA2
      have cT2 := cT wr _ hA2 rfl
      have HA2 := Lib.hid hA2
      subst hk
      clear cT e1 e2 hA2 hA hy
      go_wp2_with (go_at_call 74; (with_reducible refine cT2.mono ?_); rintro e w' ⟨rfl, q, rfl⟩)
      go_ret
      exact ⟨rfl, HA2.out, hG.out.1.trans ⟨rfl, rfl, rfl, Nat.le_refl _, fun _ _ _ => rfl⟩, hG.out.2⟩

/-- what take leaves before it carries -/
def subk : List Int → List Int → Int → List Int
  | x :: l, d :: D, k => (x - k * d) :: subk l D k
  | l, _, _ => l
theorem subk_nil (l : List Int) (k : Int) : subk l [] k = l := by cases l <;> rfl
theorem subk_len (l D : List Int) (k : Int) : (subk l D k).length = l.length := by
  induction l generalizing D with
  | nil => cases D <;> rfl
  | cons x l ih => cases D with
    | nil => rfl
    | cons d D => simp [subk, ih]
theorem subk_snoc (D : List Int) (d : Int) (k : Int) : ∀ l : List Int, D.length < l.length → subk l (D ++ [d]) k = (subk l D k).set D.length (((subk l D k).getD D.length 0) - k * d) ∧ (subk l D k).getD D.length 0 = l.getD D.length 0 := by
  induction D with
  | nil =>
    intro l h
    cases l with
    | nil => simp at h
    | cons x l => simp [subk, subk_nil]
  | cons e D ih =>
    intro l h
    cases l with
    | nil => simp at h
    | cons x l =>
      obtain ⟨h1, h2⟩ := ih l (by simpa using h)
      simp only [List.cons_append, subk, List.length_cons]
      constructor
      · rw [h1]; simp
      · simpa using h2
theorem subk_vl (l D : List Int) (k : Int) (h : D.length ≤ l.length) : vl (subk l D k) = vl l - k * vl D := by
  induction l generalizing D with
  | nil => cases D with
    | nil => simp [subk, vl]
    | cons d D => simp at h
  | cons x l ih => cases D with
    | nil => simp [subk, vl]
    | cons d D =>
      rw [subk, vl, vl, vl, ih D (by simpa using h), Int.mul_add, Int.mul_sub]
      have : k * (10000 * vl D) = 10000 * (k * vl D) := by rw [← Int.mul_assoc, Int.mul_comm k, Int.mul_assoc]
      omega
theorem subk_bound (l D : List Int) (k : Int) (hl : ∀ x ∈ l, -10000000 ≤ x ∧ x ≤ 10000000) (hD : Dig D) (hk : 0 ≤ k ∧ k ≤ 10000000) : ∀ x ∈ subk l D k, -1000000000000000 ≤ x ∧ x ≤ 1000000000000000 := by
  induction l generalizing D with
  | nil => intro x hx; cases D <;> simp [subk] at hx
  | cons y l ih => cases D with
    | nil => intro x hx; rw [subk_nil] at hx; have := hl x hx; omega
    | cons d D =>
      intro x hx
      rw [subk] at hx
      rcases List.mem_cons.1 hx with rfl | hx
      · have h1 := hl y (by simp)
        have h2 := hD.head
        have h3 : 0 ≤ k * d := Int.mul_nonneg hk.1 h2.1
        have h4 : k * d ≤ 10000000 * 10000 := Int.mul_le_mul hk.2 (by omega) h2.1 (by omega)
        omega
      · exact ih D (fun z hz => hl z (by simp [hz])) hD.tail x hx

theorem IRow.grown {w w' : World} {b o : Nat} {l : List Int} {row : Option Nat} (h : IRow w b o l) (hb : b < w.heap.size) (hg : w.grownBy w' row) (hne : some b ≠ row) : IRow w' b o l := fun j x hj => by
  have e := hg.block b hb hne
  rw [World.cell?_of_block (a := ⟨b, o + j, none⟩) e]
  exact h j x hj

set_option maxRecDepth 100000 in
set_option maxHeartbeats 1000000 in
theorem take_any (P l S D : List Int) (g o n c b2 o2 m c2 : Nat) (k : Int) (w : World) (hP : P.length = o) (hn : l.length = n) (hA : ABlk w g (P ++ l ++ S)) (hl : ∀ x ∈ l, -10000000 ≤ x ∧ x ≤ 10000000) (hc : n ≤ c) (hc2 : c ≤ 9223372036854775807)
    (hm : D.length = m) (hD : Dig D) (hDr : IRow w b2 o2 D) (hbl : b2 < w.heap.size) (hne : b2 ≠ g) (hmn : m ≤ n) (hmc : m ≤ c2) (hk : 0 ≤ k ∧ k ≤ 10000000) :
    Calls Tryz.prog 73 #[.slice (some ⟨g, o, none⟩) n c, .slice (some ⟨b2, o2, none⟩) m c2, .int .i64 k] w fun e w' => (∃ v, e = .returned v) ∧ ABlk w' g (P ++ carr 0 (subk l D k) ++ S) ∧ w.grownBy w' (some g) ∧ w'.heap.size = w.heap.size := by
  have HP := Lib.hid hP
  have HN := Lib.hid hn
  have HM := Lib.hid hm
  have HD := Lib.hid hD
  have HDr := Lib.hid hDr
  have HL := Lib.hid hl
  have HA := Lib.hid hA
  have hk0 := hk.1
  have hk1 := hk.2
  have cT : ∀ (W : World) q, ABlk W g q → q = P ++ subk l D k ++ S → Calls Tryz.prog 69 #[.slice (some ⟨g, o, none⟩) n c] W fun e w' => e = .returned (.slice (some ⟨g, o, none⟩) (trz (carr 0 (subk l D k))).length c) ∧ ABlk w' g (P ++ carr 0 (subk l D k) ++ S) ∧ W.grownBy w' (some g) ∧ w'.heap.size = W.heap.size := fun W q h e => by
    subst e
    exact carried_any P (subk l D k) S g o n c W hP (by rw [subk_len, hn]) h (subk_bound l D k hl hD hk) hc hc2
  clear hP hn hm hl hA hDr hD hk
  go_enter Tryz.func73, Tryz.ntmps73
  go_wp2
  go_loopw [10] (fun i wr => ∃ (j : Nat), j ≤ m ∧ i = .int .i64 (j : Int) ∧ Hid (ABlk wr g (P ++ subk l (D.take j) k ++ S)) ∧ Hid (w.grownBy wr (some g) ∧ wr.heap.size = w.heap.size)) (fun i _ => m - (intOf i).toNat)
  case atStart => exact ⟨0, by omega, rfl, Lib.hid (by rw [List.take_zero, subk_nil]; exact HA.out), Lib.hid ⟨⟨rfl, rfl, rfl, Nat.le_refl _, fun _ _ _ => rfl⟩, rfl⟩⟩
  case round =>
    obtain ⟨j, hj, rfl, hA, hG⟩ := hrel
    by_cases h1 : j < m
    · have j1 : j < D.length := by rw [HM.out]; exact h1
      have hd : wr.cell? ⟨b2, o2 + j, none⟩ = some (.int .i64 D[j]) := (HDr.out.grown hbl hG.out.1 (by simpa using hne)) j _ (List.getElem?_eq_getElem j1)
      have hdb := HD.out _ (List.getElem_mem j1)
      have htk : D.take (j + 1) = D.take j ++ [D[j]] := List.take_succ_eq_append_getElem j1
      have hlj : (D.take j).length = j := by rw [List.length_take, HM.out]; omega
      obtain ⟨s1, s2⟩ := subk_snoc (D.take j) D[j] k l (by rw [hlj, HN.out]; omega)
      rw [hlj] at s1 s2
      have hjl : j < l.length := by rw [HN.out]; omega
      have s3 : l.getD j 0 = l[j] := by rw [List.getD_eq_getElem?_getD, List.getElem?_eq_getElem hjl]; rfl
      rw [s2, s3] at s1
      have hlb := HL.out _ (List.getElem_mem hjl)
      have hsl : j < (subk l (D.take j) k).length := by rw [subk_len]; exact hjl
      have s4 : (subk l (D.take j) k)[j]? = some l[j] := by
        rw [List.getElem?_eq_getElem hsl]
        rw [List.getD_eq_getElem?_getD, List.getElem?_eq_getElem hsl] at s2
        rw [← s3, ← s2]; rfl
      have hcell : wr.cell? ⟨g, o + j, none⟩ = some (.int .i64 l[j]) := by
        have := hA.out.row j _ s4
        rwa [HP.out] at this
      have hfree : wr.frozen? ⟨g, o + j, none⟩ = false := hA.out.free _
      have hA3 := hA.out.set (o + j) (l[j] - k * D[j])
      have HA3 := Lib.hid (show ABlk (wr.setCell ⟨g, o + j, none⟩ (.int .i64 (l[j] - k * D[j]))) g (P ++ subk l (D.take (j + 1)) k ++ S) by
        rw [htk, s1]
        have e : (P ++ subk l (D.take j) k ++ S).set (o + j) (l[j] - k * D[j]) = P ++ (subk l (D.take j) k).set j (l[j] - k * D[j]) ++ S := by
          rw [List.append_assoc, List.set_append_right _ _ (by rw [HP.out]; omega), HP.out, Nat.add_sub_cancel_left, List.set_append_left _ _ hsl, List.append_assoc]
        rw [← e]; exact hA3)
      have HG := Lib.hid (show w.grownBy (wr.setCell ⟨g, o + j, none⟩ (.int .i64 (l[j] - k * D[j]))) (some g) ∧ (wr.setCell ⟨g, o + j, none⟩ (.int .i64 (l[j] - k * D[j]))).heap.size = w.heap.size from ⟨hG.out.1.trans (setCell_grown _ _ _ _), by simp [hG.out.2]⟩)
      generalize D[j] = d at *
      generalize l[j] = x at *
      have m1 : 0 ≤ k * d := Int.mul_nonneg hk0 hdb.1
      have m2 : k * d ≤ 10000000 * 10000 := Int.mul_le_mul hk1 (by omega) hdb.1 (by omega)
      clear htk hlj s1 s2 s3 s4 hjl hsl hA3 hA hG cT j1
      go_wp2
      go_roundw
      case rel => exact ⟨j + 1, by omega, by go_num, HA3, HG⟩
      case measure => simp [intOf]; omega
    · have hk : j = m := by omega
      have e1 : D.take j = D := List.take_of_length_le (by rw [HM.out]; omega)
      have hA2 := hA.out
      rw [e1] at hA2
      have cT2 := cT wr _ hA2 rfl
      subst hk
      clear cT e1 hA2 hA
      go_wp2_with (go_at_call 69; (with_reducible refine cT2.mono ?_); rintro e w' ⟨rfl, h1', h2', h3'⟩; have HX := Lib.hid (And.intro h1' (And.intro h2' h3')); clear h1' h2' h3')
      go_end0
      exact ⟨⟨_, rfl⟩, HX.out.1, hG.out.1.trans HX.out.2.1, HX.out.2.2.trans hG.out.2⟩
end Go.Proofs.YtbdiofifjckceaaGreatDoor
