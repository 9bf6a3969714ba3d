/- Contracts of sort.Search over the naturals' closure, and of group. -/
import Derived.Test.YtbdiofifjckceaaGreatDoorPf
import Derived.RegionTactic
import Derived.Laws.EntriesVeiled
namespace Go.Proofs.YtbdiofifjckceaaGreatDoor
open Go.RowKit

set_option maxRecDepth 100000 in
theorem group_step (N D : List Int) (b1 o1 n c1 b2 o2 m c2 B1 B2 B3 : Nat) (lo i : Int) (w : World) (hn : N.length = n) (hm : D.length = m) (hn9 : n ≤ 100000) (hmn : m ≤ n) (hnc : n ≤ c1) (dN : Dig N) (dD : Dig D) (hk : 0 ≤ lo ∧ lo ≤ 1000000) (hi : 0 ≤ i ∧ i ≤ 1000000)
    (hr1 : IRow w b1 o1 N) (hr2 : IRow w b2 o2 D) (h1 : w.cell? ⟨B1, 0, none⟩ = some (.func (.func 94) #[.slice (some ⟨b1, o1, none⟩) n c1] #[])) (h2 : w.cell? ⟨B2, 0, none⟩ = some (.slice (some ⟨b2, o2, none⟩) m c2)) (h3 : w.cell? ⟨B3, 0, none⟩ = some (.int .i64 lo)) :
    Calls Tryz.prog 96 #[.int .i64 i, .pointer (some ⟨B1, 0, none⟩), .pointer (some ⟨B2, 0, none⟩), .pointer (some ⟨B3, 0, none⟩)] w fun e w' => e = .returned (.bool (!cont N D (lo + i + 1))) ∧ w = w' := by
  have cC : ∀ W, W = w → Calls Tryz.prog 94 #[.slice (some ⟨b1, o1, none⟩) n c1, .slice (some ⟨b2, o2, none⟩) m c2, .int .i64 (lo + i + 1)] W fun e w' => e = .returned (.bool (cont N D (lo + i + 1))) ∧ W = w' := fun W e => by
    subst e; exact contains_any N D b1 o1 n c1 b2 o2 m c2 (lo + i + 1) W hn hm hn9 hmn hnc dN dD (by omega) hr1 hr2
  have i0 := hi.1
  have i1 := hi.2
  have l0 := hk.1
  have l1 := hk.2
  generalize cont N D (lo + i + 1) = r at *
  clear hn hm dN dD hr1 hr2 hk hi
  go_enter Tryz.func96, Tryz.ntmps96
  go_wp2_with (go_at_call 94; (with_reducible refine (cC _ rfl).mono ?_); rintro e w' ⟨rfl, rfl⟩)
  go_ret
  exact ⟨rfl, rfl⟩

set_option maxRecDepth 100000 in
set_option maxHeartbeats 1000000 in
theorem search_any (n : Nat) (P : Nat → Bool) (p1 p2 p3 : Value) (w : World) (hn : n ≤ 1000000) (mono : ∀ i j, i ≤ j → P i = true → P j = true)
    (hf : ∀ i : Nat, i < n → Calls Tryz.prog 96 #[.int .i64 (i : Int), p1, p2, p3] w fun e w' => e = .returned (.bool (P i)) ∧ w = w') :
    Calls Tryz.prog 95 #[.int .i64 (n : Int), .func (.func 96) #[] #[p1, p2, p3]] w fun e w' => (∃ r : Nat, e = .returned (.int .i64 (r : Int)) ∧ r ≤ n ∧ (∀ i, i < r → P i = false) ∧ (r < n → P r = true)) ∧ w = w' := by
  have HM := Lib.hid mono
  have HF := Lib.hid hf
  clear mono hf
  go_enter Tryz.func95, Tryz.ntmps95
  go_wp2
  go_loop [5, 6] (fun u v => ∃ (i j : Nat), i ≤ j ∧ j ≤ n ∧ u = .int .i64 (i : Int) ∧ v = .int .i64 (j : Int) ∧ Hid (∀ x, x < i → P x = false) ∧ Hid (j < n → P j = true)) (fun u v => (intOf v - intOf u).toNat)
  case atStart => exact ⟨0, n, by omega, by omega, rfl, rfl, Lib.hid (fun x h => by omega), Lib.hid (fun h => by omega)⟩
  case round =>
    obtain ⟨i, j, hij, hjn, rfl, rfl, hI, hJ⟩ := hrel
    by_cases h1 : i < j
    · obtain ⟨h, hh⟩ : ∃ h, (i + j) / 2 = h := ⟨_, rfl⟩
      have hh1 : i ≤ h := by omega
      have hh2 : h < j := by omega
      have hhI : ((i : Int) + (j : Int)) / 2 = (h : Int) := by omega
      have cS := HF.out h (by omega)
      have HI := Lib.hid (show P h = false → ∀ x, x < h + 1 → P x = false from fun e x hx => by
        cases hP : P x with
        | false => rfl
        | true => rw [HM.out x h (by omega) hP] at e; cases e)
      have HPh := Lib.hid (show P h = P h from rfl)
      obtain ⟨r, hr⟩ : ∃ r, P h = r := ⟨_, rfl⟩
      rw [hr] at cS
      have HR := Lib.hid hr
      have HH := Lib.hid hhI
      clear hh hr HPh
      cases r
      · go_wp2_with (go_at_call 96; (with_reducible refine cS.mono ?_); rintro e w' ⟨rfl, rfl⟩)
        go_round
        case rel => exact ⟨h + 1, j, by omega, hjn, by go_num, rfl, Lib.hid (HI.out HR.out), hJ⟩
        case measure => simp [intOf]; omega
      · go_wp2_with (go_at_call 96; (with_reducible refine cS.mono ?_); rintro e w' ⟨rfl, rfl⟩)
        go_round
        case rel => exact ⟨i, h, by omega, by omega, rfl, by go_num, hI, Lib.hid (fun _ => HR.out)⟩
        case measure => simp [intOf]; omega
    · have hk : i = j := by omega
      subst hk
      have HX := Lib.hid (And.intro hI.out hJ.out)
      clear hI hJ
      go_wp2
      go_ret
      exact ⟨⟨i, rfl, hjn, HX.out.1, HX.out.2⟩, rfl⟩

/-- the bounds that the first groups leave -/
theorem group_bounds {N D : List Int} {m : Nat} {f : Int} (dN : Dig N) (dD : Dig D) (hm : D.length = m + 1) (hf : D = D.take m ++ [f]) (hf1 : 1 ≤ f) (hlt : vl N < 10000 * vl D) (hmn : m ≤ N.length) :
    vl (N.drop m) / (f + 1) ≤ vl N / vl D ∧ vl N / vl D ≤ vl (N.drop m) / f ∧ vl (N.drop m) / f ≤ 20000 ∧ 0 ≤ vl (N.drop m) / (f + 1) ∧ vl (N.drop m) / (f + 1) ≤ 10000 ∧ 0 < vl D := by
  have tl : (D.take m).length = m := by rw [List.length_take]; omega
  have nl : (N.take m).length = m := by rw [List.length_take]; omega
  have eD : vl D = vl (D.take m) + 10000 ^ m * f := by
    conv => lhs; rw [hf]
    rw [vl_append, tl]; simp [vl]
  have eN : vl N = vl (N.take m) + 10000 ^ m * vl (N.drop m) := by
    conv => lhs; rw [← List.take_append_drop m N]
    rw [vl_append, nl]
  have dT : Dig (D.take m) := fun x hx => dD x (List.mem_of_mem_take hx)
  have nT : Dig (N.take m) := fun x hx => dN x (List.mem_of_mem_take hx)
  have nD : Dig (N.drop m) := fun x hx => dN x (List.mem_of_mem_drop hx)
  have a1 := vl_nonneg dT
  have a2 := vl_lt dT
  have a3 := vl_nonneg nT
  have a4 := vl_lt nT
  have a5 := vl_nonneg nD
  rw [tl] at a2
  rw [nl] at a4
  have hP : (0 : Int) < 10000 ^ m := Int.pow_pos (by decide)
  rw [eN, eD] at hlt
  rw [eN, eD]
  generalize (10000 : Int) ^ m = P at *
  generalize vl (N.drop m) = t at *
  generalize vl (N.take m) = x at *
  generalize vl (D.take m) = y at *
  have hPf : P * 1 ≤ P * f := Int.mul_le_mul_of_nonneg_left (by omega) (by omega)
  have hVD : 0 < y + P * f := by omega
  have ht : t < 10000 * (f + 1) := by
    refine Int.lt_of_not_ge fun h => ?_
    have h1 : P * (10000 * (f + 1)) ≤ P * t := Int.mul_le_mul_of_nonneg_left h (by omega)
    have h2 : P * (10000 * (f + 1)) = 10000 * (P * f) + 10000 * P := by rw [Int.mul_add, Int.mul_add, Int.mul_one, ← Int.mul_assoc, Int.mul_comm P 10000, Int.mul_assoc]
    omega
  refine ⟨?_, ?_, ?_, Int.ediv_nonneg a5 (by omega), ?_, hVD⟩
  · rw [Int.le_ediv_iff_mul_le hVD]
    have h1 := Int.ediv_mul_le t (show f + 1 ≠ 0 by omega)
    have h0 : 0 ≤ t / (f + 1) := Int.ediv_nonneg a5 (by omega)
    generalize t / (f + 1) = q at *
    have h2 : P * (q * (f + 1)) ≤ P * t := Int.mul_le_mul_of_nonneg_left h1 (by omega)
    have h3 : q * y ≤ q * P := Int.mul_le_mul_of_nonneg_left (by omega) h0
    have h4 : q * (y + P * f) = q * y + P * (q * f) := by rw [Int.mul_add, ← Int.mul_assoc, Int.mul_comm q P, Int.mul_assoc]
    have h5 : P * (q * (f + 1)) = P * (q * f) + q * P := by rw [Int.mul_add, Int.mul_one, Int.mul_add, Int.mul_comm P q]
    omega
  · have h1 : x + P * t < (t / f + 1) * (y + P * f) := by
      have h2 := Int.lt_ediv_add_one_mul_self t (show 0 < f by omega)
      generalize t / f = q at *
      have h0 : 0 ≤ q + 1 := by
        refine Int.le_of_not_gt fun h => ?_
        have : (q + 1) * f ≤ 0 * f := Int.mul_le_mul_of_nonneg_right (by omega) (by omega)
        omega
      have h3 : P * (t + 1) ≤ P * ((q + 1) * f) := Int.mul_le_mul_of_nonneg_left (by omega) (by omega)
      have h4 : (q + 1) * (y + P * f) = (q + 1) * y + P * ((q + 1) * f) := by rw [Int.mul_add, ← Int.mul_assoc (q + 1) P f, Int.mul_comm (q + 1) P, Int.mul_assoc]
      have h5 : 0 ≤ (q + 1) * y := Int.mul_nonneg h0 a1
      rw [Int.mul_add, Int.mul_one] at h3
      omega
    have := (Int.ediv_lt_iff_lt_mul hVD).2 h1
    omega
  · have : t / f < 20001 := by
      rw [Int.ediv_lt_iff_lt_mul (by omega)]
      omega
    omega
  · have : t / (f + 1) < 10001 := by
      rw [Int.ediv_lt_iff_lt_mul (by omega)]
      omega
    omega

set_option maxRecDepth 100000 in
set_option maxHeartbeats 2000000 in
theorem group_any (N D : List Int) (b1 o1 n c1 b2 o2 m c2 : Nat) (w : World) (hn : N.length = n) (hm : D.length = m + 1) (hn9 : n ≤ 90000) (hmn : m + 1 ≤ n) (hnm : n ≤ m + 2) (hnc : n ≤ c1) (hcc : c1 ≤ 9223372036854775807) (dN : Dig N) (dD : Dig D) (hlast : D.getLast? ≠ some 0) (hlt : vl N < 10000 * vl D)
    (hr1 : IRow w b1 o1 N) (hr2 : IRow w b2 o2 D) (hb1 : b1 < w.heap.size) (hb2 : b2 < w.heap.size) :
    Calls Tryz.prog 77 #[.slice (some ⟨b1, o1, none⟩) n c1, .slice (some ⟨b2, o2, none⟩) (m + 1) c2] w fun e w' => e = .returned (.int .i64 (vl N / vl D)) ∧ Below w.heap.size w w' := by
  have hml : m < D.length := by omega
  obtain ⟨f, hf⟩ : ∃ f, D[m] = f := ⟨_, rfl⟩
  have hDf : D = D.take m ++ [f] := by
    have := List.take_append_drop m D
    rw [List.drop_eq_getElem_cons hml, List.drop_eq_nil_of_le (by omega), hf] at this
    exact this.symm
  have hf0 : 0 ≤ f ∧ f < 10000 := dD f (by rw [← hf]; exact List.getElem_mem hml)
  have hfne : f ≠ 0 := fun h => hlast (by rw [hDf, h]; simp)
  obtain ⟨g1, g2, g3, g4, g5, g6⟩ := group_bounds dN dD hm hDf (by omega) hlt (by omega)
  have hfc : w.cell? ⟨b2, o2 + m, none⟩ = some (.int .i64 f) := hr2 m _ (by rw [List.getElem?_eq_getElem hml, hf])
  have hB1 : Below w.heap.size w (w.alloc (.cells #[.slice (some ⟨b2, o2, none⟩) (m + 1) c2] 47)) := (Below.refl _ w).alloc (Nat.le_refl _) _
  have hrow : IRow w b1 (o1 + m) (N.drop m) := fun j x hj => by
    rw [List.getElem?_drop] at hj
    have := hr1 _ x hj
    rwa [show o1 + (m + j) = o1 + m + j by omega] at this
  have nD : Dig (N.drop m) := fun x hx => dN x (List.mem_of_mem_drop hx)
  have cV := value_any (N.drop m) b1 (o1 + m) (n - m) (c1 - m) (w.alloc (.cells #[.slice (some ⟨b2, o2, none⟩) (m + 1) c2] 47)) (by rw [List.length_drop]; omega) (by omega) (by omega) nD (hrow.below hB1 hb1) (by rw [World.size_alloc]; omega)
  have ht0 := vl_nonneg nD
  have ht8 : vl (N.drop m) ≤ 1000000000 := by
    have h1 := Int.lt_mul_of_ediv_lt (show 0 < f by omega) (show vl (N.drop m) / f < 20001 by omega)
    have h2 : 20001 * f ≤ 20001 * 10000 := Int.mul_le_mul_of_nonneg_left (by omega) (by omega)
    omega
  have hQ0 : 0 ≤ vl N / vl D := by omega
  -- what the search finds
  have hS : ∀ (W : World) (p1 p2 p3 : Value) (lo hi : Int), lo = vl (N.drop m) / (f + 1) → hi = vl (N.drop m) / f → (∀ i : Nat, i < (hi - lo).toNat → Calls Tryz.prog 96 #[.int .i64 (i : Int), p1, p2, p3] W fun e w' => e = .returned (.bool (!cont N D (lo + i + 1))) ∧ W = w') →
      Calls Tryz.prog 95 #[.int .i64 (hi - lo), .func (.func 96) #[] #[p1, p2, p3]] W fun e w' => e = .returned (.int .i64 (vl N / vl D - lo)) ∧ W = w' := fun W p1 p2 p3 lo hi e1 e2 hf => by
    subst e1 e2
    have hci : ∀ i : Nat, (!cont N D (vl (N.drop m) / (f + 1) + i + 1)) = true ↔ vl N / vl D ≤ vl (N.drop m) / (f + 1) + i := fun i => by
      rw [Bool.not_eq_true', ← Bool.not_eq_true, cont_iff dN dD (by omega) (by omega), ← Int.le_ediv_iff_mul_le g6]
      omega
    have h := search_any (vl (N.drop m) / f - vl (N.drop m) / (f + 1)).toNat (fun i => !cont N D (vl (N.drop m) / (f + 1) + i + 1)) p1 p2 p3 W (by omega) (fun i j hij hi => by
      have := (hci i).1 hi
      exact (hci j).2 (by omega)) hf
    rw [show (((vl (N.drop m) / f - vl (N.drop m) / (f + 1)).toNat : Nat) : Int) = vl (N.drop m) / f - vl (N.drop m) / (f + 1) by omega] at h
    refine h.mono fun e w' ⟨⟨r, he, h1, h2, h3⟩, hw⟩ => ⟨?_, hw⟩
    have hr : (r : Int) = vl N / vl D - vl (N.drop m) / (f + 1) := by
      have k1 : (r : Int) ≤ vl N / vl D - vl (N.drop m) / (f + 1) := by
        refine Int.le_of_not_gt fun hgt => ?_
        have := h2 (vl N / vl D - vl (N.drop m) / (f + 1)).toNat (by omega)
        rw [Bool.eq_false_iff] at this
        exact this ((hci _).2 (by omega))
      rcases Nat.lt_or_ge r (vl (N.drop m) / f - vl (N.drop m) / (f + 1)).toNat with h4 | h4
      · have := (hci r).1 (h3 h4)
        omega
      · omega
    rw [he, hr]
  obtain ⟨t, ht⟩ : ∃ t, vl (N.drop m) = t := ⟨_, rfl⟩
  obtain ⟨Q, hQ⟩ : ∃ t, vl N / vl D = t := ⟨_, rfl⟩
  rw [ht] at g1 g2 g3 g4 g5 cV ht0 ht8 hS
  rw [hQ] at g1 g2 hQ0 hS ⊢
  have hstep : ∀ (W : World) (B1 B3 : Nat), Below w.heap.size w W → W.cell? ⟨B1, 0, none⟩ = some (.func (.func 94) #[.slice (some ⟨b1, o1, none⟩) n c1] #[]) → W.cell? ⟨w.heap.size, 0, none⟩ = some (.slice (some ⟨b2, o2, none⟩) (m + 1) c2) → W.cell? ⟨B3, 0, none⟩ = some (.int .i64 (t / (f + 1))) →
      Calls Tryz.prog 95 #[.int .i64 (t / f - t / (f + 1)), .func (.func 96) #[] #[.pointer (some ⟨B1, 0, none⟩), .pointer (some ⟨w.heap.size, 0, none⟩), .pointer (some ⟨B3, 0, none⟩)]] W fun e w' => e = .returned (.int .i64 (Q - t / (f + 1))) ∧ W = w' := fun W B1 B3 hB x1 x2 x3 =>
    hS W _ _ _ _ _ rfl rfl fun i hi => group_step N D b1 o1 n c1 b2 o2 (m + 1) c2 B1 w.heap.size B3 (t / (f + 1)) i W hn hm (by omega) hmn hnc dN dD (by omega) (by omega) (hr1.below hB hb1) (hr2.below hB hb2) x1 x2 x3
  have j0 : (0 : Int) ≤ (m : Int) := by omega
  have j1 : (m : Int) ≤ (n : Int) := by omega
  have j2 : (n : Int) ≤ (c1 : Int) := by omega
  have j3 : (m : Int) < (c1 : Int) := by omega
  have j4 : (m : Int) ≤ (c1 : Int) := by omega
  have j5 : ¬ c1 = m := by omega
  have f1 : 1 ≤ f := by omega
  have f2 : f ≤ 10000 := by omega
  have cd1 : (w.alloc (.cells #[.slice (some ⟨b2, o2, none⟩) (m + 1) c2] 47)).cell? ⟨b2, o2 + m, none⟩ = some (.int .i64 f) := (hB1.cell (p := ⟨b2, o2 + m, none⟩) hb2).trans hfc
  have bD := Boxed.new w 47 (.slice (some ⟨b2, o2, none⟩) (m + 1) c2)
  clear hS hr1 hr2 hrow nD dN dD hlast hlt hDf hf hml hn hm ht hQ hf0 hfne hfc g6
  go_enter Tryz.func77, Tryz.ntmps77
  go_wp2_with (go_at_call 93; (with_reducible refine cV.mono ?_); rintro e w1 ⟨rfl, hBv⟩)
  have hb0 : Below w.heap.size w w1 := hB1.trans (hBv.mono (by rw [World.size_alloc]; omega))
  have hcD : w1.cell? ⟨w.heap.size, 0, none⟩ = some (.slice (some ⟨b2, o2, none⟩) (m + 1) c2) := (hBv.cell (p := ⟨w.heap.size, 0, none⟩) (by show w.heap.size < _; rw [World.size_alloc]; omega)).trans bD.cell
  have hsz : w.heap.size < w1.heap.size := by have := hBv.size; rw [World.size_alloc] at this; omega
  clear cV hBv bD cd1 hB1
  go_region
  have hA1 : Below w1.heap.size w1 (w1.alloc (.cells #[.int .i64 (t / (f + 1))] 3)).drew := ((Below.refl _ w1).alloc (Nat.le_refl _) _).drew
  have bL := Boxed.new w1 3 (.int .i64 (t / (f + 1)))
  have hcL : (w1.alloc (.cells #[.int .i64 (t / (f + 1))] 3)).drew.cell? ⟨w1.heap.size, 0, none⟩ = some (.int .i64 (t / (f + 1))) := bL.cell
  have hs2 : (w1.alloc (.cells #[.int .i64 (t / (f + 1))] 3)).drew.heap.size = w1.heap.size + 1 := World.size_alloc _ _
  have hcD2 := (hA1.cell (p := ⟨w.heap.size, 0, none⟩) hsz).trans hcD
  have hb2 := hb0.trans (hA1.mono hb0.size)
  generalize (w1.alloc (.cells #[.int .i64 (t / (f + 1))] 3)).drew = w2 at *
  obtain ⟨B3, hB3⟩ : ∃ B, w1.heap.size = B := ⟨_, rfl⟩
  rw [hB3] at hcL hs2 ⊢
  have h3s : B3 < w2.heap.size := by omega
  have hA2 : Below w2.heap.size w2 (w2.alloc (.cells #[.func (.func 94) #[.slice (some ⟨b1, o1, none⟩) n c1] #[]] 109)) := (Below.refl _ w2).alloc (Nat.le_refl _) _
  have bF := Boxed.new w2 109 (.func (.func 94) #[.slice (some ⟨b1, o1, none⟩) n c1] #[])
  have hcF := bF.cell
  have hcL2 := (hA2.cell (p := ⟨B3, 0, none⟩) h3s).trans hcL
  have hcD3 := (hA2.cell (p := ⟨w.heap.size, 0, none⟩) (Nat.lt_of_lt_of_le hsz (by omega))).trans hcD2
  have hb3 := hb2.trans (hA2.mono hb2.size)
  have cS : ∀ q, Calls Tryz.prog 95 #[.int .i64 (t / f - t / (f + 1)), .func (.func 96) #[] #[.pointer (some ⟨w2.heap.size, 0, none⟩), .pointer (some ⟨w.heap.size, 0, none⟩), .pointer (some ⟨B3, 0, none⟩)]] ((w2.alloc (.cells #[.func (.func 94) #[.slice (some ⟨b1, o1, none⟩) n c1] #[]] 109)).drewN q) fun e w' => e = .returned (.int .i64 (Q - t / (f + 1))) ∧ w' = (w2.alloc (.cells #[.func (.func 94) #[.slice (some ⟨b1, o1, none⟩) n c1] #[]] 109)).drewN q := fun q =>
    (hstep _ w2.heap.size B3 (below_drewN hb3 q) hcF hcD3 hcL2).mono fun e w' ⟨h1, h2⟩ => ⟨h1, h2.symm⟩
  clear hA1 bL hcL hcD2 hb2 hA2 bF hcF hcD hb0 hsz hstep hcD3
  obtain ⟨hB3', hs2'⟩ := And.intro (Lib.hid hB3) (Lib.hid hs2)
  clear hB3 hs2
  go_wp2
  generalize w2.alloc (.cells #[.func (.func 94) #[.slice (some ⟨b1, o1, none⟩) n c1] #[]] 109) = w3 at *
  have e1 : IntKind.i64.wrap (t / f - t / (f + 1)) = t / f - t / (f + 1) := by rw [IntKind.wrap_i64]; omega
  have e2 : IntKind.i64.wrap (t / (f + 1) + (Q - t / (f + 1))) = Q := by rw [IntKind.wrap_i64]; omega
  have hlo : 0 ≤ t / (f + 1) := g4
  generalize t / (f + 1) = lo at *
  generalize t / f = hi at *
  go_quiet ((go_at_call 95; exact Calls.quiet_of_same (cS _)))
  go_wp2
  go_ret
  exact ⟨rfl, below_drewN hb3 _⟩
end Go.Proofs.YtbdiofifjckceaaGreatDoor
