/- Contracts of value (a fold with a closure), contains, sort.Search over it, and group: how often a row contains a number. -/
import Derived.Test.YtbdiofifjckceaaGreatDoorPe
namespace Go.Proofs.YtbdiofifjckceaaGreatDoor
open Go.RowKit

theorem setCell_abelow {n B j : Nat} {w wr : World} {v : Value} (h : Below n w wr) (hB : n ≤ B) : Below n w (wr.setCell ⟨B, j, none⟩ v) := h.setCell (p := ⟨B, j, none⟩) hB v

set_option maxRecDepth 100000 in
theorem value_step (s g p : Int) (B : Nat) (w : World) (hA : ABlk w B [p]) (hs : 0 ≤ s ∧ s ≤ 100000000000000) (hg : 0 ≤ g ∧ g < 10000) (hp : 0 ≤ p ∧ p ≤ 1000000000000) :
    Calls Tryz.prog 109 #[.int .i64 s, .int .i64 g, .pointer (some ⟨B, 0, none⟩)] w fun e w' => e = .returned (.int .i64 (s + g * p)) ∧ w' = w.setCell ⟨B, 0, none⟩ (.int .i64 (p * 10000)) := by
  have hc := hA.cell (j := 0) (x := p) rfl
  have hf := hA.free 0
  have s0 := hs.1
  have s1 := hs.2
  have p0 := hp.1
  have p1 := hp.2
  have m1 : 0 ≤ g * p := Int.mul_nonneg hg.1 hp.1
  have m2 : g * p ≤ 10000 * 1000000000000 := Int.mul_le_mul (by omega) hp.2 hp.1 (by omega)
  clear hA hs hg hp
  go_enter Tryz.func109, Tryz.ntmps109
  go_wp2
  go_ret
  exact ⟨rfl, rfl⟩

theorem pow_small {i : Nat} (h : i ≤ 3) : 0 ≤ (10000 : Int) ^ i ∧ (10000 : Int) ^ i ≤ 1000000000000 := by
  have : ∀ i : Fin 4, 0 ≤ (10000 : Int) ^ i.1 ∧ (10000 : Int) ^ i.1 ≤ 1000000000000 := by decide
  exact this ⟨i, by omega⟩
set_option maxRecDepth 100000 in
set_option maxHeartbeats 1000000 in
theorem foldI_any (l : List Int) (b o n c B : Nat) (w : World) (hn : l.length = n) (hn3 : n ≤ 3) (hnc : n ≤ c) (hd : Dig l) (hr : IRow w b o l) (hb : b < w.heap.size) (hne : b ≠ B) (hA : ABlk w B [1]) :
    Calls Tryz.prog 108 #[.slice (some ⟨b, o, none⟩) n c, .int .i64 0, .func (.func 109) #[] #[.pointer (some ⟨B, 0, none⟩)]] w fun e w' => e = .returned (.int .i64 (vl l)) ∧ w.grownBy w' (some B) := by
  have HN := Lib.hid hn
  have HD := Lib.hid hd
  have HR := Lib.hid hr
  have HA := Lib.hid hA
  clear hn hd hr hA
  go_enter Tryz.func108, Tryz.ntmps108
  go_wp2
  go_loopw [1, 11] (fun s i wr => ∃ k : Nat, k ≤ n ∧ i = .int .i64 (k : Int) ∧ s = .int .i64 (vl (l.take k)) ∧ Hid (ABlk wr B [10000 ^ k]) ∧ Hid (w.grownBy wr (some B))) (fun _ i _ => n - (intOf i).toNat)
  case atStart => exact ⟨0, by omega, rfl, rfl, HA, Lib.hid ⟨rfl, rfl, rfl, Nat.le_refl _, fun _ _ _ => rfl⟩⟩
  case round =>
    obtain ⟨k, hk, rfl, rfl, hA, hG⟩ := hrel
    by_cases h1 : k < n
    · have k1 : k < l.length := by rw [HN.out]; exact h1
      have hx : wr.cell? ⟨b, o + k, none⟩ = some (.int .i64 l[k]) := (HR.out.grown hb hG.out (by simpa using hne)) k _ (List.getElem?_eq_getElem k1)
      have hxd := HD.out _ (List.getElem_mem k1)
      have htd : Dig (l.take k) := fun x hx => HD.out x (List.mem_of_mem_take hx)
      have hv0 := vl_nonneg htd
      have hv1 := vl_lt htd
      have htl : (l.take k).length = k := by rw [List.length_take]; omega
      have hp := pow_small (i := k) (by omega)
      rw [htl] at hv1
      have HS := Lib.hid (show vl (l.take (k + 1)) = vl (l.take k) + l[k] * 10000 ^ k by rw [List.take_succ_eq_append_getElem k1, vl_append, htl]; simp [vl, Int.mul_comm])
      have HA2 := Lib.hid (show ABlk (wr.setCell ⟨B, 0, none⟩ (.int .i64 (10000 ^ k * 10000))) B [10000 ^ (k + 1)] by rw [Int.pow_succ]; exact hA.out.set 0 _)
      have HG2 := Lib.hid (hG.out.trans (setCell_grown wr B 0 (.int .i64 (10000 ^ k * 10000))))
      have cS := value_step (vl (l.take k)) l[k] (10000 ^ k) B wr hA.out (by omega) hxd hp
      generalize vl (l.take k) = s at *
      generalize l[k] = x at *
      generalize (10000 : Int) ^ k = p at *
      clear hxd htd hv0 hv1 htl hp k1 hA hG
      go_wp2_with (go_at_call 109; (with_reducible refine cS.mono ?_); rintro e w' ⟨rfl, rfl⟩)
      go_roundw
      case rel => exact ⟨k + 1, by omega, by go_num, by rw [HS.out], HA2, HG2⟩
      case measure => simp [intOf]; omega
    · have hk : k = n := by omega
      have e1 : l.take k = l := List.take_of_length_le (by rw [HN.out]; omega)
      rw [e1]
      subst hk
      clear e1
      go_wp2
      go_ret
      exact ⟨rfl, hG.out⟩

set_option maxRecDepth 100000 in
theorem value_any (l : List Int) (b o n c : Nat) (w : World) (hn : l.length = n) (hn3 : n ≤ 3) (hnc : n ≤ c) (hd : Dig l) (hr : IRow w b o l) (hb : b < w.heap.size) :
    Calls Tryz.prog 93 #[.slice (some ⟨b, o, none⟩) n c] w fun e w' => e = .returned (.int .i64 (vl l)) ∧ Below w.heap.size w w' := by
  have hB1 : Below w.heap.size w (w.alloc (.cells #[.int .i64 1] 3)) := (Below.refl _ w).alloc (Nat.le_refl _) _
  have cF := foldI_any l b o n c w.heap.size (w.alloc (.cells #[.int .i64 1] 3)) hn hn3 hnc hd (hr.below hB1 hb) (by rw [World.size_alloc]; omega) (by omega) ⟨[], World.alloc_heap_new w _⟩
  clear hn hd hr
  go_enter Tryz.func93, Tryz.ntmps93
  go_wp2_with (go_at_call 108; (with_reducible refine cF.mono ?_); rintro e w' ⟨rfl, hG⟩)
  go_ret
  exact ⟨rfl, hB1.grown hG hB1.size (fun k e => by cases e; exact Nat.le_refl _)⟩

/-- what contains finds -/
def cont (N D : List Int) (k : Int) : Bool := decide (cout 0 (subk N D k) = 0)
theorem subk_get (N D : List Int) (k : Int) (i : Nat) (hi : i < N.length) : (subk N D k)[i]? = some (N.getD i 0 - k * D.getD i 0) := by
  induction N generalizing D i with
  | nil => simp at hi
  | cons x N ih => cases D with
    | nil => rw [subk_nil, List.getD_eq_getElem?_getD, List.getElem?_eq_getElem hi]; simp
    | cons d D => cases i with
      | zero => simp [subk]
      | succ i => simpa [subk] using ih D i (by simpa using hi)

set_option maxRecDepth 100000 in
set_option maxHeartbeats 1000000 in
theorem contains_any (N D : List Int) (b1 o1 n c1 b2 o2 m c2 : Nat) (k : Int) (w : World) (hn : N.length = n) (hm : D.length = m) (hn9 : n ≤ 100000) (hmn : m ≤ n) (hnc : n ≤ c1) (dN : Dig N) (dD : Dig D) (hk : 0 ≤ k ∧ k ≤ 10000000)
    (hr1 : IRow w b1 o1 N) (hr2 : IRow w b2 o2 D) :
    Calls Tryz.prog 94 #[.slice (some ⟨b1, o1, none⟩) n c1, .slice (some ⟨b2, o2, none⟩) m c2, .int .i64 k] w fun e w' => e = .returned (.bool (cont N D k)) ∧ w = w' := by
  have HN := Lib.hid hn
  have HM := Lib.hid hm
  have HDN := Lib.hid dN
  have HDD := Lib.hid dD
  have H1 := Lib.hid hr1
  have H2 := Lib.hid hr2
  have HB := Lib.hid (subk_bound N D k (fun x hx => by have := dN x hx; omega) dD hk)
  have k0 := hk.1
  have k9 := hk.2
  have HL := Lib.hid (subk_len N D k)
  have HG := Lib.hid (subk_get N D k)
  clear hn hm dN dD hr1 hr2 hk
  go_enter Tryz.func94, Tryz.ntmps94
  go_wp2
  go_loop [7, 12] (fun cy i => ∃ (j : Nat) (y : Int), j ≤ n ∧ i = .int .i64 (j : Int) ∧ cy = .int .i64 y ∧ -1000000000000 ≤ y ∧ y ≤ 1000000000000 ∧ Hid (y = cout 0 ((subk N D k).take j))) (fun _ i => n - (intOf i).toNat)
  case atStart => exact ⟨0, 0, by omega, rfl, rfl, by decide, by decide, Lib.hid rfl⟩
  case round =>
    obtain ⟨j, y, hj, rfl, rfl, hy1, hy2, hy⟩ := hrel
    by_cases h1 : j < n
    · have j1 : j < N.length := by rw [HN.out]; exact h1
      have jl : j < (subk N D k).length := by rw [HL.out]; exact j1
      have hx : w.cell? ⟨b1, o1 + j, none⟩ = some (.int .i64 N[j]) := H1.out j _ (List.getElem?_eq_getElem j1)
      have hxd := HDN.out _ (List.getElem_mem j1)
      have hg0 := HG.out j j1
      rw [List.getElem?_eq_getElem jl] at hg0
      have hg := Option.some.inj hg0
      clear hg0
      have hxe : N.getD j 0 = N[j] := by rw [List.getD_eq_getElem?_getD, List.getElem?_eq_getElem j1]; rfl
      have hzb := HB.out _ (List.getElem_mem jl)
      have HY := Lib.hid (show ((subk N D k)[j] + y) / 10000 = cout 0 ((subk N D k).take (j + 1)) by rw [List.take_succ_eq_append_getElem jl, cout_snoc, ← hy.out])
      obtain ⟨z, hz⟩ : ∃ z, (subk N D k)[j] = z := ⟨_, rfl⟩
      rw [hz] at hg hzb HY
      rw [hxe] at hg
      have cS : ∀ W, Calls Tryz.prog 90 #[.int .i64 (z + y)] W fun e w' => e = .returned (.tuple #[.int .i64 ((z + y) / 10000), .int .i64 ((z + y) % 10000)]) ∧ W = w' := fun W => split_any (z + y) W (by omega) (by omega)
      by_cases h2 : j < m
      · have j2 : j < D.length := by rw [HM.out]; exact h2
        have hd : w.cell? ⟨b2, o2 + j, none⟩ = some (.int .i64 D[j]) := H2.out j _ (List.getElem?_eq_getElem j2)
        have hdd := HDD.out _ (List.getElem_mem j2)
        have hde : D.getD j 0 = D[j] := by rw [List.getD_eq_getElem?_getD, List.getElem?_eq_getElem j2]; rfl
        rw [hde] at hg
        generalize N[j] = x at *
        generalize D[j] = d at *
        have m1 : 0 ≤ k * d := Int.mul_nonneg k0 hdd.1
        have m2 : k * d ≤ 10000000 * 10000 := Int.mul_le_mul k9 (by omega) hdd.1 (by omega)
        rw [hg] at cS HY
        clear hxe hde hz j1 jl hy hg
        go_wp2_with (go_at_call 90; (with_reducible refine (cS _).mono ?_); rintro e w' ⟨rfl, rfl⟩)
        go_round
        case rel => exact ⟨j + 1, _, by omega, by go_num, rfl, by omega, by omega, HY⟩
        case measure => simp [intOf]; omega
      · have hde : D.getD j 0 = 0 := by rw [List.getD_eq_getElem?_getD, List.getElem?_eq_none (by rw [HM.out]; omega)]; rfl
        rw [hde, Int.mul_zero, Int.sub_zero] at hg
        generalize N[j] = x at *
        rw [hg] at cS HY
        clear hxe hde hz j1 jl hy hg
        go_wp2_with (go_at_call 90; (with_reducible refine (cS _).mono ?_); rintro e w' ⟨rfl, rfl⟩)
        go_round
        case rel => exact ⟨j + 1, _, by omega, by go_num, rfl, by omega, by omega, HY⟩
        case measure => simp [intOf]; omega
    · have hk : j = n := by omega
      have e1 : (subk N D k).take j = subk N D k := List.take_of_length_le (by rw [HL.out, HN.out]; omega)
      have hy' := hy.out
      rw [e1] at hy'
      subst hk
      by_cases h0 : y = 0
      · have q : (y == 0) = true := by rw [h0]; rfl
        have HC := Lib.hid (show cont N D k = true by rw [cont, ← hy']; simp [h0])
        clear hy' h0 e1 hy
        go_wp2
        go_ret
        exact ⟨by rw [HC.out]; rfl, rfl⟩
      · have q : (y == 0) = false := by rw [beq_eq_false_iff_ne]; exact h0
        have HC := Lib.hid (show cont N D k = false by rw [cont, ← hy']; simp [h0])
        clear hy' h0 e1 hy
        go_wp2
        go_ret
        exact ⟨by rw [HC.out]; rfl, rfl⟩

/-- contains: n is at least k times d -/
theorem cont_iff {N D : List Int} {k : Int} (dN : Dig N) (dD : Dig D) (hk : 0 ≤ k) (hl : D.length ≤ N.length) : cont N D k = true ↔ k * vl D ≤ vl N := by
  rw [cont, decide_eq_true_eq]
  have e := carr_vl (subk N D k) 0
  have b1 := vl_nonneg (carr_dig (subk N D k) 0)
  have b2 := vl_lt (carr_dig (subk N D k) 0)
  rw [subk_vl _ _ _ hl, subk_len] at e
  rw [carr_len, subk_len] at b2
  have b3 := vl_lt dN
  have b4 := Int.mul_nonneg hk (vl_nonneg dD)
  have hp : (0 : Int) < 10000 ^ N.length := Int.pow_pos (by decide)
  generalize (10000 : Int) ^ N.length = P at *
  generalize cout 0 (subk N D k) = c at *
  generalize k * vl D = q at *
  constructor
  · intro h; subst h; rw [Int.mul_zero] at e; omega
  · intro h
    rcases Int.lt_trichotomy c 0 with g | g | g
    · have : P * c ≤ P * (-1) := Int.mul_le_mul_of_nonneg_left (by omega) (by omega)
      omega
    · exact g
    · have : P * 1 ≤ P * c := Int.mul_le_mul_of_nonneg_left (by omega) (by omega)
      omega
end Go.Proofs.YtbdiofifjckceaaGreatDoor
