/- natural.times: a fold with a closure that adds in place. -/
import Derived.Test.YtbdiofifjckceaaGreatDoorPj
namespace Go.Proofs.YtbdiofifjckceaaGreatDoor
open Go.RowKit

/-- two blocks alone may have been written -/
def Two (G B : Nat) (w w' : World) : Prop := w'.os = w.os ∧ w'.tape = w.tape ∧ w'.output = w.output ∧ w.heap.size ≤ w'.heap.size ∧ ∀ k, k ≠ G → k ≠ B → w'.heap[k]? = w.heap[k]?
theorem Two.refl (G B : Nat) (w : World) : Two G B w w := ⟨rfl, rfl, rfl, Nat.le_refl _, fun _ _ _ => rfl⟩
theorem Two.trans {G B : Nat} {a b c : World} (h : Two G B a b) (k : Two G B b c) : Two G B a c :=
  ⟨k.1.trans h.1, k.2.1.trans h.2.1, k.2.2.1.trans h.2.2.1, Nat.le_trans h.2.2.2.1 k.2.2.2.1, fun i h1 h2 => (k.2.2.2.2 i h1 h2).trans (h.2.2.2.2 i h1 h2)⟩
theorem Two.setL {G B : Nat} {a w : World} (h : Two G B a w) (j : Nat) (v : Value) : Two G B a (w.setCell ⟨G, j, none⟩ v) :=
  h.trans ⟨rfl, rfl, rfl, by simp [World.setCell], fun k h1 _ => Below.heap_setCell _ _ _ _ h1⟩
theorem Two.setR {G B : Nat} {a w : World} (h : Two G B a w) (j : Nat) (v : Value) : Two G B a (w.setCell ⟨B, j, none⟩ v) :=
  h.trans ⟨rfl, rfl, rfl, by simp [World.setCell], fun k _ h2 => Below.heap_setCell _ _ _ _ h2⟩
theorem Two.drewN {G B : Nat} {a w : World} (h : Two G B a w) (q : Nat) : Two G B a (w.drewN q) := h.trans ⟨rfl, rfl, rfl, Nat.le_refl _, fun _ _ _ => rfl⟩
theorem Two.below {G B n : Nat} {a w : World} (h : Two G B a w) (h1 : n ≤ G) (h2 : n ≤ B) : Below n a w := ⟨h.1, h.2.1, h.2.2.1, h.2.2.2.1, fun k hk => h.2.2.2.2 k (by omega) (by omega)⟩
theorem Two.blk {G B b : Nat} {L : List Int} {a w : World} (h : Two G B a w) (h1 : b ≠ G) (h2 : b ≠ B) (hA : ABlk a b L) : ABlk w b L := by
  obtain ⟨T, e⟩ := hA; exact ⟨T, (h.2.2.2.2 b h1 h2).trans e⟩
theorem ABlk.other {w : World} {g b j : Nat} {L : List Int} {v : Value} (h : ABlk w b L) (hne : b ≠ g) : ABlk (w.setCell ⟨g, j, none⟩ v) b L := by
  obtain ⟨T, e⟩ := h; exact ⟨T, (Below.heap_setCell _ _ _ _ hne).trans e⟩
theorem Two.row {G B b o : Nat} {L : List Int} {a w : World} (h : Two G B a w) (h1 : b ≠ G) (h2 : b ≠ B) (hA : IRow a b o L) : IRow w b o L := fun j x hj => by
  have := hA j x hj
  rw [World.cell?] at this ⊢
  rw [h.2.2.2.2 b h1 h2]
  exact this

/-- what the closure adds -/
def addAt (L : List Int) (p : Nat) (x : Int) (D : List Int) : List Int := L.take p ++ subk (L.drop p) D (-x)

set_option maxRecDepth 100000 in
set_option maxHeartbeats 1000000 in
theorem times_step (L D : List Int) (x : Int) (G h c p M B q c2 : Nat) (a2 : Option Addr) (w : World) (hA : ABlk w G L) (hh : L.length = h) (hD : D.length = q) (hpq : p + q ≤ h) (h9 : h ≤ 100000)
    (hM : w.cell? ⟨M, 0, none⟩ = some (.slice a2 q c2)) (hB : ABlk w B [(p : Int)]) (hGB : G ≠ B)
    (hrow : ∀ j, j < q → ∃ b2 o2, a2 = some ⟨b2, o2, none⟩ ∧ b2 ≠ G ∧ b2 ≠ B ∧ q ≤ c2 ∧ IRow w b2 o2 D) (hd : Dig D) (hx : 0 ≤ x ∧ x < 10000) (hb : ∀ y ∈ L, 0 ≤ y ∧ y ≤ 1000000000000) :
    Calls Tryz.prog 76 #[.slice (some ⟨G, 0, none⟩) h c, .int .i64 x, .pointer (some ⟨M, 0, none⟩), .pointer (some ⟨B, 0, none⟩)] w fun e w' => e = .returned (.slice (some ⟨G, 0, none⟩) h c) ∧ ABlk w' G (addAt L p x D) ∧ ABlk w' B [(p : Int) + 1] ∧ Two G B w w' := by
  have HA := Lib.hid hA
  have HH := Lib.hid hh
  have HD := Lib.hid hD
  have HR := Lib.hid hrow
  have HDD := Lib.hid hd
  have HB := Lib.hid hB
  have HX := Lib.hid hx
  have HLB := Lib.hid hb
  clear hA hh hD hrow hd hB hx hb
  go_enter Tryz.func76, Tryz.ntmps76
  go_wp2
  go_loopw [11] (fun i wr => ∃ (j : Nat), j ≤ q ∧ i = .int .i64 (j : Int) ∧ Hid (ABlk wr G (addAt L p x (D.take j))) ∧ Hid (ABlk wr B [(p : Int)]) ∧ Hid (Two G B w wr)) (fun i _ => q - (intOf i).toNat)
  case atStart => exact ⟨0, by omega, rfl, Lib.hid (by rw [List.take_zero, addAt, subk_nil, List.take_append_drop]; exact HA.out), HB, Lib.hid (Two.refl _ _ _)⟩
  case round =>
    obtain ⟨j, hj, rfl, hA, hB, hT⟩ := hrel
    by_cases h1 : j < q
    · have j1 : j < D.length := by rw [HD.out]; exact h1
      obtain ⟨b2, o2, rfl, hb1, hb2, hqc, hDr⟩ := HR.out j h1
      have hd : wr.cell? ⟨b2, o2 + j, none⟩ = some (.int .i64 D[j]) := (hT.out.row hb1 hb2 hDr) j _ (List.getElem?_eq_getElem j1)
      have hdb := HDD.out _ (List.getElem_mem j1)
      have hcp : wr.cell? ⟨B, 0, none⟩ = some (.int .i64 (p : Int)) := hB.out.cell (j := 0) rfl
      have htk : D.take (j + 1) = D.take j ++ [D[j]] := List.take_succ_eq_append_getElem j1
      have hlj : (D.take j).length = j := by rw [List.length_take, HD.out]; omega
      have hRl : (L.drop p).length = h - p := by rw [List.length_drop, HH.out]
      have hAl : (L.take p).length = p := by rw [List.length_take, HH.out]; omega
      obtain ⟨s1, s2⟩ := subk_snoc (D.take j) D[j] (-x) (L.drop p) (by rw [hlj, hRl]; omega)
      rw [hlj] at s1 s2
      have hjl : p + j < L.length := by rw [HH.out]; omega
      have s3 : (L.drop p).getD j 0 = L[p + j] := by rw [List.getD_eq_getElem?_getD, List.getElem?_drop, List.getElem?_eq_getElem hjl]; rfl
      rw [s2, s3] at s1
      have hlb := HLB.out _ (List.getElem_mem hjl)
      have hsl : j < (subk (L.drop p) (D.take j) (-x)).length := by rw [subk_len, hRl]; omega
      have s4 : (addAt L p x (D.take j))[p + j]? = some L[p + j] := by
        rw [addAt, List.getElem?_append_right (by omega), hAl, Nat.add_sub_cancel_left, List.getElem?_eq_getElem hsl]
        rw [List.getD_eq_getElem?_getD, List.getElem?_eq_getElem hsl] at s2
        rw [← s3, ← s2]; rfl
      have s5 : (addAt L p x (D.take j)).set (p + j) (L[p + j] + x * D[j]) = addAt L p x (D.take (j + 1)) := by
        rw [htk, addAt, addAt, s1, List.set_append_right _ _ (by omega), hAl, Nat.add_sub_cancel_left, show L[p + j] - -x * D[j] = L[p + j] + x * D[j] by rw [Int.neg_mul]; omega]
      have hcell : wr.cell? ⟨G, p + j, none⟩ = some (.int .i64 L[p + j]) := hA.out.cell s4
      have hfree : wr.frozen? ⟨G, p + j, none⟩ = false := hA.out.free _
      have HA3 := Lib.hid (show ABlk (wr.setCell ⟨G, p + j, none⟩ (.int .i64 (L[p + j] + x * D[j]))) G (addAt L p x (D.take (j + 1))) by
        rw [← s5]
        exact hA.out.set (p + j) (L[p + j] + x * D[j]))
      have HB3 := Lib.hid (hB.out.other (g := G) (j := p + j) (v := .int .i64 (L[p + j] + x * D[j])) (Ne.symm hGB))
      have HT3 := Lib.hid (hT.out.setL (p + j) (.int .i64 (L[p + j] + x * D[j])))
      have hx0 := HX.out.1
      have hx9 := HX.out.2
      generalize D[j] = d at *
      generalize L[p + j] = y at *
      have m1 : 0 ≤ x * d := Int.mul_nonneg hx0 hdb.1
      have m2 : x * d ≤ 10000 * 10000 := Int.mul_le_mul (by omega) (by omega) hdb.1 (by omega)
      clear htk hlj s1 s2 s3 s4 s5 hjl hsl hA hB hDr j1 hT hRl hAl hdb hx0 hx9
      go_wp2
      go_roundw
      case rel => exact ⟨j + 1, by omega, by go_num, HA3, HB3, HT3⟩
      case measure => simp [intOf]; omega
    · have hk : j = q := by omega
      have e1 : D.take j = D := List.take_of_length_le (by rw [HD.out]; omega)
      have hA2 := hA.out
      rw [e1] at hA2
      have HA2 := Lib.hid hA2
      have hcp : wr.cell? ⟨B, 0, none⟩ = some (.int .i64 (p : Int)) := hB.out.cell (j := 0) rfl
      have hfp : wr.frozen? ⟨B, 0, none⟩ = false := hB.out.free 0
      subst hk
      clear e1 hA2 hA
      go_wp2
      go_ret
      exact ⟨rfl, HA2.out.other hGB, hB.out.set 0 _, hT.out.setR 0 _⟩

theorem addAt_len {L D : List Int} {p : Nat} {x : Int} (h : p ≤ L.length) : (addAt L p x D).length = L.length := by
  rw [addAt, List.length_append, List.length_take, subk_len, List.length_drop]; omega
theorem addAt_vl {L D : List Int} {p : Nat} {x : Int} (h : p + D.length ≤ L.length) : vl (addAt L p x D) = vl L + 10000 ^ p * (x * vl D) := by
  have hl : (L.take p).length = p := by rw [List.length_take]; omega
  have e : vl L = vl (L.take p) + 10000 ^ p * vl (L.drop p) := by
    have := vl_append (L.take p) (L.drop p)
    rw [List.take_append_drop, hl] at this
    exact this
  rw [addAt, vl_append, hl, subk_vl _ _ _ (by rw [List.length_drop]; omega), e, Int.neg_mul, Int.sub_neg, Int.mul_add, Int.add_assoc]
theorem subk_add (l D : List Int) (x c : Int) (hl : ∀ y ∈ l, 0 ≤ y ∧ y ≤ c) (hD : Dig D) (hx : 0 ≤ x ∧ x < 10000) : ∀ y ∈ subk l D (-x), 0 ≤ y ∧ y ≤ c + 100000000 := by
  induction l generalizing D with
  | nil => intro y hy; cases D <;> simp [subk] at hy
  | cons z l ih => cases D with
    | nil => intro y hy; rw [subk_nil] at hy; have := hl y hy; omega
    | cons d D =>
      intro y hy
      have hd := hD.head
      rw [subk] at hy
      rcases List.mem_cons.1 hy with rfl | hy
      · have m1 : 0 ≤ x * d := Int.mul_nonneg hx.1 hd.1
        have m2 : x * d ≤ 10000 * 10000 := Int.mul_le_mul (by omega) (by omega) hd.1 (by omega)
        have := hl z (by simp)
        rw [Int.neg_mul]; omega
      · exact ih D (fun y hy => hl y (by simp [hy])) hD.tail y hy
theorem addAt_bound {L D : List Int} {p : Nat} {x c : Int} (hl : ∀ y ∈ L, 0 ≤ y ∧ y ≤ c) (hD : Dig D) (hx : 0 ≤ x ∧ x < 10000) : ∀ y ∈ addAt L p x D, 0 ≤ y ∧ y ≤ c + 100000000 := by
  intro y hy
  rcases List.mem_append.1 hy with h | h
  · have := hl y (List.mem_of_mem_take h); omega
  · exact subk_add _ D x c (fun y hy => hl y (List.mem_of_mem_drop hy)) hD hx y h
theorem Two.cell {G B b j : Nat} {v : Value} {a w : World} (h : Two G B a w) (h1 : b ≠ G) (h2 : b ≠ B) (hc : a.cell? ⟨b, j, none⟩ = some v) : w.cell? ⟨b, j, none⟩ = some v := by
  rw [World.cell?] at hc ⊢
  rw [h.2.2.2.2 b h1 h2]
  exact hc

set_option maxRecDepth 100000 in
set_option maxHeartbeats 1000000 in
theorem foldN_any (A D Z : List Int) (G h ch M B n c1 q c2 : Nat) (a1 a2 : Option Addr) (w : World) (hZ : ABlk w G Z) (hzl : Z.length = h) (hz0 : ∀ y ∈ Z, 0 ≤ y ∧ y ≤ 0) (hzv : vl Z = 0) (hA : A.length = n) (hD : D.length = q) (hh : n + q = h) (hn : n ≤ 5000) (h9 : q ≤ 5000)
    (hM : w.cell? ⟨M, 0, none⟩ = some (.slice a2 q c2)) (hB : ABlk w B [0]) (hGM : M ≠ G) (hMB : M ≠ B) (hGB : G ≠ B)
    (hra : ∀ j, j < n → ∃ b1 o1, a1 = some ⟨b1, o1, none⟩ ∧ b1 ≠ G ∧ b1 ≠ B ∧ n ≤ c1 ∧ IRow w b1 o1 A) (hda : Dig A)
    (hrow : ∀ j, j < q → ∃ b2 o2, a2 = some ⟨b2, o2, none⟩ ∧ b2 ≠ G ∧ b2 ≠ B ∧ q ≤ c2 ∧ IRow w b2 o2 D) (hd : Dig D) :
    Calls Tryz.prog 75 #[.slice a1 n c1, .slice (some ⟨G, 0, none⟩) h ch, .func (.func 76) #[] #[.pointer (some ⟨M, 0, none⟩), .pointer (some ⟨B, 0, none⟩)]] w fun e w' => e = .returned (.slice (some ⟨G, 0, none⟩) h ch) ∧ (∃ L, ABlk w' G L ∧ L.length = h ∧ vl L = vl A * vl D ∧ ∀ y ∈ L, 0 ≤ y ∧ y ≤ 1000000000000) ∧ Two G B w w' := by
  have HZ := Lib.hid hZ
  have HI := Lib.hid (And.intro hzl (And.intro hzv hz0))
  have HA := Lib.hid hA
  have HD := Lib.hid hD
  have HB := Lib.hid hB
  have HM := Lib.hid hM
  have HRA := Lib.hid hra
  have HR := Lib.hid hrow
  have HDA := Lib.hid hda
  have HDD := Lib.hid hd
  clear hZ hzl hz0 hzv hA hD hB hM hra hrow hda hd
  go_enter Tryz.func75, Tryz.ntmps75
  go_wp2
  go_loopw [1, 11] (fun s i wr => ∃ (k : Nat) (L : List Int), k ≤ n ∧ i = .int .i64 (k : Int) ∧ s = .slice (some ⟨G, 0, none⟩) h ch ∧ Hid (ABlk wr G L) ∧ Hid (L.length = h ∧ vl L = vl (A.take k) * vl D ∧ ∀ y ∈ L, 0 ≤ y ∧ y ≤ (k : Int) * 100000000) ∧ Hid (ABlk wr B [(k : Int)]) ∧ Hid (Two G B w wr)) (fun _ i _ => n - (intOf i).toNat)
  case atStart => exact ⟨0, Z, by omega, rfl, rfl, HZ, Lib.hid ⟨HI.out.1, by rw [HI.out.2.1]; simp [vl], fun y hy => by have := HI.out.2.2 y hy; omega⟩, HB, Lib.hid (Two.refl _ _ _)⟩
  case round =>
    obtain ⟨k, L, hk, rfl, rfl, hL, hI, hB, hT⟩ := hrel
    by_cases h1 : k < n
    · have k1 : k < A.length := by rw [HA.out]; exact h1
      obtain ⟨b1, o1, rfl, hb1, hb2, hnc, hAr⟩ := HRA.out k h1
      have hx : wr.cell? ⟨b1, o1 + k, none⟩ = some (.int .i64 A[k]) := (hT.out.row hb1 hb2 hAr) k _ (List.getElem?_eq_getElem k1)
      have hxd := HDA.out _ (List.getElem_mem k1)
      have hMc := hT.out.cell hGM hMB HM.out
      have htl : (A.take k).length = k := by rw [List.length_take]; omega
      obtain ⟨i1, i2, i3⟩ := hI.out
      have HI2 := Lib.hid (show (addAt L k A[k] D).length = h ∧ vl (addAt L k A[k] D) = vl (A.take (k + 1)) * vl D ∧ ∀ y ∈ addAt L k A[k] D, 0 ≤ y ∧ y ≤ ((k + 1 : Nat) : Int) * 100000000 by
        refine ⟨by rw [addAt_len (by omega)]; exact i1, ?_, fun y hy => ?_⟩
        · rw [addAt_vl (by rw [HD.out]; omega), i2, List.take_succ_eq_append_getElem k1, vl_append, htl, Int.add_mul, Int.mul_assoc]; simp [vl]
        · have := addAt_bound i3 HDD.out hxd y hy; omega)
      have cS := times_step L D A[k] G h ch k M B q c2 a2 wr hL.out i1 HD.out (by omega) (by omega) hMc hB.out hGB (fun j hj => by
        obtain ⟨b, o, e1, e2, e3, e4, e5⟩ := HR.out j hj
        exact ⟨b, o, e1, e2, e3, e4, hT.out.row e2 e3 e5⟩) HDD.out hxd (fun y hy => by have := i3 y hy; omega)
      generalize addAt L k A[k] D = L2 at *
      generalize A[k] = x at *
      have HT := hT
      clear hxd htl k1 hL hI i1 i2 i3 hB hMc hAr hT
      go_wp2_with (go_at_call 76; (with_reducible refine cS.mono ?_); rintro e w' ⟨rfl, hL2, hB2, hT2⟩; have HL2 := Lib.hid hL2; have HB2 := Lib.hid hB2; have HT2 := Lib.hid (HT.out.trans hT2); clear hL2 hB2 hT2 HT cS)
      go_roundw
      case rel => exact ⟨k + 1, L2, by omega, by go_num, rfl, HL2, HI2, HB2, HT2⟩
      case measure => simp [intOf]; omega
    · have hk : k = n := by omega
      subst hk
      have e1 : A.take k = A := List.take_of_length_le (by rw [HA.out]; omega)
      have HR2 := Lib.hid (show ∃ L, ABlk wr G L ∧ L.length = h ∧ vl L = vl A * vl D ∧ ∀ y ∈ L, 0 ≤ y ∧ y ≤ 1000000000000 from ⟨L, hL.out, hI.out.1, by rw [hI.out.2.1, e1], fun y hy => by have := hI.out.2.2 y hy; omega⟩)
      clear e1 hL hI
      go_wp2
      go_ret
      exact ⟨rfl, HR2.out, hT.out⟩

set_option maxRecDepth 100000 in
set_option maxHeartbeats 1000000 in
theorem times_any (n m : Nat) (v1 v2 : Value) (w : World) (hl1 : (grp n).length ≤ 5000) (hl2 : (grp m).length ≤ 5000) (h1 : NSl w v1 n) (h2 : NSl w v2 m) :
    Calls Tryz.prog 59 #[v1, v2] w fun e w' => ∃ v, e = .returned v ∧ NSl w' v (n * m) ∧ Below w.heap.size w w' := by
  have hrow : ∀ (v : Value) (n : Nat), NSl w v n → ∃ a2 c2, v = .slice a2 (grp n).length c2 ∧ ∀ j, j < (grp n).length → ∃ b2 o2, a2 = some ⟨b2, o2, none⟩ ∧ b2 < w.heap.size ∧ (grp n).length ≤ c2 ∧ IRow w b2 o2 (grp n) := fun v n h => by
    rcases h with ⟨a, c, rfl, e⟩ | ⟨b, o, c, rfl, g1, g2, g3, g4⟩
    · rw [e]; exact ⟨a, c, rfl, fun j hj => absurd hj (by simp)⟩
    · exact ⟨_, c, rfl, fun j hj => ⟨b, o, rfl, g3, g1, g4⟩⟩
  obtain ⟨a1, c1, rfl, hr1⟩ := hrow v1 n h1
  obtain ⟨a2, c2, rfl, hr2⟩ := hrow v2 m h2
  clear hrow h1 h2
  obtain ⟨i0, hi, hz0, hz1, hz2⟩ := info_parts info_int
  have hvn := vl_grp n
  have hvm := vl_grp m
  have hdn := grp_dig n
  have hdm := grp_dig m
  have en := vl_lt hdn
  have em := vl_lt hdm
  generalize grp n = A at *
  generalize grp m = D at *
  obtain ⟨p, hp⟩ : ∃ k, A.length = k := ⟨_, rfl⟩
  obtain ⟨q, hq⟩ : ∃ k, D.length = k := ⟨_, rfl⟩
  rw [hp] at hl1 hr1 en ⊢
  rw [hq] at hl2 hr2 em ⊢
  have hsum : ((n * m : Nat) : Int) < 10000 ^ (p + q) := by
    rw [Int.natCast_mul, Int.pow_add]
    rw [hvn] at en
    rw [hvm] at em
    rcases Nat.eq_zero_or_pos m with h | h
    · subst h
      have : (0 : Int) < 10000 ^ p := Int.pow_pos (by decide)
      have : (0 : Int) < 10000 ^ q := Int.pow_pos (by decide)
      have := Int.mul_pos ‹(0 : Int) < 10000 ^ p› this
      simpa using this
    · exact Int.mul_lt_mul en (Int.le_of_lt em) (by omega) (Int.le_of_lt (Int.pow_pos (by decide)))
  have HBY := Lib.hid (show i0.bytes * (p + q) ≤ 281474976710656 by rw [hz2]; omega)
  have hmx : p + q ≤ maxLen := by unfold maxLen; omega
  have HZ := Lib.hid (show ∀ w', w'.ownsRow (w.heap.size + 1 + 1) 3 1 (.slice (some ⟨w.heap.size + 1 + 1, 0, none⟩) (p + q) (p + q)) (p + q) (madeCells (Value.int .i64 0).cells ((p + q) * 1)).toList → ABlk w' (w.heap.size + 1 + 1) (List.replicate (p + q) 0) from fun w' h => by
    rw [made_zeros] at h
    exact (own_blk h).1)
  have hB0 : Below w.heap.size w ((w.alloc (.cells #[.slice a2 q c2] 47)).alloc (.cells #[.int .i64 0] 3)) := ((Below.refl _ w).alloc (Nat.le_refl _) _).alloc (by simp only [World.size_alloc]; omega) _
  have cF : ∀ w1, (((w.alloc (.cells #[.slice a2 q c2] 47)).alloc (.cells #[.int .i64 0] 3))).grownBy w1 none → ABlk w1 (w.heap.size + 1 + 1) (List.replicate (p + q) 0) →
      Calls Tryz.prog 75 #[.slice a1 p c1, .slice (some ⟨w.heap.size + 1 + 1, 0, none⟩) (p + q) (p + q), .func (.func 76) #[] #[.pointer (some ⟨w.heap.size, 0, none⟩), .pointer (some ⟨w.heap.size + 1, 0, none⟩)]] w1 fun e w' => e = .returned (.slice (some ⟨w.heap.size + 1 + 1, 0, none⟩) (p + q) (p + q)) ∧ (∃ L, ABlk w' (w.heap.size + 1 + 1) L ∧ L.length = p + q ∧ vl L = vl A * vl D ∧ ∀ y ∈ L, 0 ≤ y ∧ y ≤ 1000000000000) ∧ Two (w.heap.size + 1 + 1) (w.heap.size + 1) w1 w' := fun w1 hg hZ => by
    have hB1 : Below w.heap.size w w1 := hB0.grown hg (by simp only [World.size_alloc]; omega) (fun k e => by cases e)
    have hMo : w1.heap[w.heap.size]? = some (.cells #[.slice a2 q c2] 47) := by
      rw [hg.block _ (by simp only [World.size_alloc]; omega) (by simp), Below.heap_alloc _ _ _ (by simp)]
      exact World.alloc_heap_new w _
    have hBo : w1.heap[w.heap.size + 1]? = some (.cells #[.int .i64 0] 3) := by
      have e := World.alloc_heap_new (w.alloc (.cells #[.slice a2 q c2] 47)) (.cells #[.int .i64 0] 3)
      rw [World.size_alloc] at e
      rw [hg.block _ (by simp only [World.size_alloc]; omega) (by simp)]
      exact e
    exact foldN_any A D _ (w.heap.size + 1 + 1) (p + q) (p + q) w.heap.size (w.heap.size + 1) p c1 q c2 a1 a2 w1 hZ (by simp) (fun y hy => by have := List.eq_of_mem_replicate hy; omega) (vl_zeros _) hp hq rfl hl1 hl2 (by rw [World.cell?, hMo]; rfl) ⟨[], hBo⟩ (by omega) (by omega) (by omega)
      (fun j hj => by
        obtain ⟨b, o, e1, e2, e3, e4⟩ := hr1 j hj
        exact ⟨b, o, e1, by omega, by omega, e3, e4.below hB1 e2⟩) hdn
      (fun j hj => by
        obtain ⟨b, o, e1, e2, e3, e4⟩ := hr2 j hj
        exact ⟨b, o, e1, by omega, by omega, e3, e4.below hB1 e2⟩) hdm
  have cT : ∀ w1 W L, Below w.heap.size w w1 → Two (w.heap.size + 1 + 1) (w.heap.size + 1) w1 W → ABlk W (w.heap.size + 1 + 1) L → L.length = p + q → vl L = vl A * vl D → (∀ y ∈ L, 0 ≤ y ∧ y ≤ 1000000000000) →
      Calls Tryz.prog 69 #[.slice (some ⟨w.heap.size + 1 + 1, 0, none⟩) (p + q) (p + q)] W fun e w' => ∃ v, e = .returned v ∧ NSl w' v (n * m) ∧ Below w.heap.size w w' := fun w1 W L hB1 hT hL hl hv hb => by
    have hv2 : vl L = ((n * m : Nat) : Int) := by rw [hv, hvn, hvm, Int.natCast_mul]
    have hfit := carr_fits (l := L) (c := 0) (by rw [hv2]; omega) (by rw [hl, hv2, Int.add_zero]; exact hsum)
    exact (carried_any [] L [] (w.heap.size + 1 + 1) 0 (p + q) (p + q) W rfl hl (by simpa using hL) (fun y hy => by have := hb y hy; omega) (Nat.le_refl _) (by omega)).mono fun e w' ⟨he, g1, g2, g3⟩ =>
      ⟨_, he, NSl.of_blk (S := []) (by simpa using g1) (by rw [carr_len, hl]) (carr_dig _ _) (by rw [hfit.2, hv2, Int.add_zero]) (Nat.le_refl _) (by omega), below_own (hB1.trans (hT.below (by omega) (by omega))) g2 (Nat.le_refl _) (by omega)⟩
  have CF := Lib.hid cF
  have CT := Lib.hid cT
  have HB0 := Lib.hid hB0
  clear cF cT hB0 hr1 hr2 hvn hvm hdn hdm en em hp hq hsum hz2
  go_enter Tryz.func59, Tryz.ntmps59
  go_wp2_with (first | (refine wpList_make_full _ rfl (.tmp 12) (.tmp 12) 47 rfl (w.heap.size + 1 + 1) 3 i0 (.int .i64 0) 1 Tryz.underlying47 hi hz0 hz1 .i64 .i64 _ _ (p + q) rfl rfl (by omega) (by omega) HBY.out hmx (by simp) ?_; intro w1 hown1 hgrow1; simp only [World.size_alloc] at hown1 ⊢; have hA1 := HZ.out w1 hown1; have hB1 := HB0.out.grown hgrow1 (by simp only [World.size_alloc]; omega) (fun k e => by cases e); have HB1 := Lib.hid hB1; have cF2 := CF.out w1 hgrow1 hA1; clear hown1 hgrow1 hA1 hB1) | (go_at_call 75; (with_reducible refine cF2.mono ?_); rintro e w2 ⟨rfl, ⟨L, hL, hl, hv, hb⟩, hT⟩; have cT2 := CT.out w1 w2 L HB1.out hT hL hl hv hb; clear hL hl hv hb hT cF2) | (go_at_call 69; (with_reducible refine cT2.mono ?_); rintro e w3 ⟨v, rfl, hN, hB3⟩; have HN := Lib.hid hN; have HB3 := Lib.hid hB3; clear hN hB3))
  all_goals
    go_ret
    exact ⟨_, rfl, HN.out, HB3.out⟩
end Go.Proofs.YtbdiofifjckceaaGreatDoor
