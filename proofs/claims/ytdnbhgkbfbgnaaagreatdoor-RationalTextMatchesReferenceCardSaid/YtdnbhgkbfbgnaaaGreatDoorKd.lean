/- The functions of the packages and of the references, by contract: part 4. -/
import Derived.Carry
import Derived.ChangeSame
import Derived.ChangeSlices
import Derived.Deep.DeepHandedRow
import Derived.LaidLaws
import Derived.Lib.LaidTab
import Derived.OpenShut
import Derived.ProofKit
import Derived.ScopeJumps
import Derived.SliceStrings
import Derived.Test.YtdnbhgkbfbgnaaaGreatDoorCards
import Derived.Test.YtdnbhgkbfbgnaaaGreatDoorTie
import Derived.WalkKit
import Derived.WalkMore
import Derived.Test.YtdnbhgkbfbgnaaaGreatDoorKc



namespace Go.Proofs.YtdnbhgkbfbgnaaaGreatDoor
open Go.RowKit

theorem cmpN_sub (x y : Int) : cmpN x y = cmpN (x - y) 0 := by
  unfold cmpN
  repeat' split
  all_goals omega
theorem cmp_diff (n1 d1 n2 d2 : Int) : n1 * d2 - n2 * d1 = (n1 / d1 - n2 / d2) * (d1 * d2) + ((n1 % d1) * d2 - (n2 % d2) * d1) := by
  have h1 := Int.mul_ediv_add_emod n1 d1
  have h2 := Int.mul_ediv_add_emod n2 d2
  generalize n1 / d1 = q1 at *
  generalize n2 / d2 = q2 at *
  generalize n1 % d1 = r1 at *
  generalize n2 % d2 = r2 at *
  subst h1 h2
  rw [Int.add_mul, Int.add_mul, Int.sub_mul]
  have e1 : d1 * q1 * d2 = q1 * (d1 * d2) := by rw [Int.mul_comm d1 q1, Int.mul_assoc]
  have e2 : d2 * q2 * d1 = q2 * (d1 * d2) := by rw [Int.mul_comm d2 q2, Int.mul_assoc, Int.mul_comm d2 d1]
  rw [e1, e2]; omega
theorem cmp_step1 (n1 d1 n2 d2 : Int) (h1 : 0 < d1) (h2 : 0 < d2) (h : n1 / d1 ≠ n2 / d2) : cmpN (n1 / d1) (n2 / d2) = cmpN (n1 * d2) (n2 * d1) ∧ cmpN (n1 * d2) (n2 * d1) ≠ 0 := by
  have hd := cmp_diff n1 d1 n2 d2
  have a1 := Int.emod_nonneg n1 (show d1 ≠ 0 by omega)
  have a2 := Int.emod_lt_of_pos n1 h1
  have b1 := Int.emod_nonneg n2 (show d2 ≠ 0 by omega)
  have b2 := Int.emod_lt_of_pos n2 h2
  generalize n1 / d1 = q1 at *
  generalize n2 / d2 = q2 at *
  generalize n1 % d1 = r1 at *
  generalize n2 % d2 = r2 at *
  have hP : 0 < d1 * d2 := Int.mul_pos h1 h2
  have m1 : r1 * d2 < d1 * d2 := Int.mul_lt_mul_of_pos_right a2 h2
  have m2 : 0 ≤ r1 * d2 := Int.mul_nonneg a1 (by omega)
  have m3 : r2 * d1 < d1 * d2 := by rw [Int.mul_comm d1 d2]; exact Int.mul_lt_mul_of_pos_right b2 h1
  have m4 : 0 ≤ r2 * d1 := Int.mul_nonneg b1 (by omega)
  rw [cmpN_sub (n1 * d2), hd]
  rcases Int.lt_or_gt_of_ne h with hl | hl
  · have m5 : (q1 - q2) * (d1 * d2) ≤ (-1) * (d1 * d2) := Int.mul_le_mul_of_nonneg_right (by omega) (by omega)
    have k : (q1 - q2) * (d1 * d2) + (r1 * d2 - r2 * d1) < 0 := by omega
    rw [cmpN, if_pos hl, cmpN, if_pos k]; decide
  · have m5 : 1 * (d1 * d2) ≤ (q1 - q2) * (d1 * d2) := Int.mul_le_mul_of_nonneg_right (by omega) (by omega)
    have k : 0 < (q1 - q2) * (d1 * d2) + (r1 * d2 - r2 * d1) := by omega
    rw [cmpN, if_neg (by omega), if_pos hl, cmpN, if_neg (by omega), if_pos k]; decide
theorem cmp_step2 (n1 d1 n2 d2 : Int) (_ : 0 < d1) (_ : 0 < d2) (h : n1 / d1 = n2 / d2) : cmpN (d2 * (n1 % d1)) (d1 * (n2 % d2)) = cmpN (n1 * d2) (n2 * d1) := by
  rw [cmpN_sub (n1 * d2), cmp_diff, h, Int.sub_self, Int.zero_mul, Int.zero_add, ← cmpN_sub, Int.mul_comm d2, Int.mul_comm d1]
theorem cmp_step3 (n1 d1 n2 d2 : Int) (h1 : 0 < d1) (h2 : 0 < d2) (h : n1 / d1 = n2 / d2) (h0 : n1 % d1 = 0 ∨ n2 % d2 = 0) : cmpN (n1 % d1) (n2 % d2) = cmpN (n1 * d2) (n2 * d1) := by
  rw [← cmp_step2 n1 d1 n2 d2 h1 h2 h]
  have a1 := Int.emod_nonneg n1 (show d1 ≠ 0 by omega)
  have b1 := Int.emod_nonneg n2 (show d2 ≠ 0 by omega)
  generalize n1 % d1 = r1 at *
  generalize n2 % d2 = r2 at *
  rcases h0 with rfl | rfl
  · rw [Int.mul_zero]
    by_cases hr : r2 = 0
    · rw [hr, Int.mul_zero]
    · have := Int.mul_pos h1 (show 0 < r2 by omega)
      rw [cmpN, if_pos (by omega), cmpN, if_pos this]
  · rw [Int.mul_zero]
    by_cases hr : r1 = 0
    · rw [hr, Int.mul_zero]
    · have := Int.mul_pos h2 (show 0 < r1 by omega)
      rw [cmpN, if_neg (by omega), if_pos (by omega), cmpN, if_neg (by omega), if_pos this]
theorem RBlk.other {w : World} {g : Nat} {x y : Value} (h : RBlk w g x y) (p : Addr) (v : Value) (hp : g ≠ p.block) : RBlk (w.setCell p v) g x y := (heap_setCell_other w p g v hp).trans h
/-- the denominator that a block holds -/
def cellD (w : World) (g : Nat) : Nat := match w.cell? ⟨g, 1, none⟩ with | some (.string s) => (num s.data.toList).toNat | _ => 0
theorem cellD_of {w : World} {g : Nat} {x : Value} {d : Int} (h : RBlk w g x (.string (S d))) : cellD w g = d.toNat := by
  rw [cellD, h.c1]
  show (num (S d).data.toList).toNat = _
  rw [S_list, txt_num]
theorem S_eq0 (z : Int) : ((S z).toList == [48]) = decide (z = 0) := by
  rw [ByteArray.toList_eq, S_list, show ([48] : List UInt8) = txt 0 by rw [← S_list, S_zero]]
  by_cases h : z = 0
  · subst h; simp
  · rw [decide_eq_false h, beq_eq_false_iff_ne]
    exact fun e => h (txt_inj e)

set_option maxRecDepth 100000 in
set_option maxHeartbeats 8000000 in
theorem qCompare_S (n1 d1 n2 d2 R : Int) (w : World) (v1' : vR (txt n1) (txt d1) = true) (v2' : vR (txt n2) (txt d2) = true) (p1 : 0 < d1) (p2 : 0 < d2) (b1' : n1.natAbs < 10 ^ 200) (b2' : d1.natAbs < 10 ^ 200) (b3' : n2.natAbs < 10 ^ 200) (b4' : d2.natAbs < 10 ^ 200) (hR : cmpN (n1 * d2) (n2 * d1) = R) :
    Calls Tryz.prog 21 #[.agg #[.string (S n1), .string (S d1)], .agg #[.string (S n2), .string (S d2)]] w fun e w' => e = .returned (.int .i64 R) ∧ Below w.heap.size w w' := by
  have cv1 := fun W => qValid_any (S n1) (S d1) (txt n1) (txt d1) W (S_list _) (S_list _) (S_len b1') (S_len b2')
  have cv2 := fun W => qValid_any (S n2) (S d2) (txt n2) (txt d2) W (S_list _) (S_list _) (S_len b3') (S_len b4')
  rw [v1'] at cv1
  rw [v2'] at cv2
  clear v1' v2'
  obtain ⟨r1, r2⟩ := two_ratios w (.string (S n1)) (.string (S d1)) (.string (S n2)) (.string (S d2))
  have HB := Lib.hid ((below_alloc w (.cells #[.string (S n1), .string (S d1)] 23)).alloc (by rw [World.size_alloc]; omega) (.cells #[.string (S n2), .string (S d2)] 23))
  have a0 := r1.c0
  have a1 := r1.c1
  have b0 := r2.c0
  have b1 := r2.c1
  have HR := Lib.hid (And.intro r1 r2)
  have CV1 := Lib.hid cv1
  have CV2 := Lib.hid cv2
  clear r1 r2 cv1 cv2
  go_enter Tryz.func21, Tryz.ntmps21
  go_wp2
  refine wp_scope_jumps 0 (fun a' w' => (∃ (v0 v1 u5 u6 u7 u8 u9 u10 u11 u12 u13 u14 u15 u16 u17 u18 u19 u20 u21 u22 u23 u24 u25 u26 u27 u28 u29 u30 u31 u32 u33 u34 u35 u36 u37 u38 u39 u40 u41 u42 u43 u44 u45 u46 u47 u48 u49 u50 u51 u52 u53 u54 u55 u56 u57 u58 u59 u60 : Value), a' = { tmps := #[v0, v1, .pointer (some ⟨w.heap.size, 0, none⟩), .pointer (some ⟨w.heap.size + 1, 0, none⟩), .int .i64 0, u5, u6, u7, u8, u9, u10, u11, u12, u13, u14, u15, u16, u17, u18, u19, u20, u21, u22, u23, u24, u25, u26, u27, u28, u29, u30, u31, u32, u33, u34, u35, u36, u37, u38, u39, u40, u41, u42, u43, u44, u45, u46, u47, u48, u49, u50, u51, u52, u53, u54, u55, u56, u57, u58, u59, u60], defers := [] }) ∧ Hid (∃ n1 d1 n2 d2 : Int, RBlk w' w.heap.size (.string (S n1)) (.string (S d1)) ∧ RBlk w' (w.heap.size + 1) (.string (S n2)) (.string (S d2)) ∧ 0 < d1 ∧ 0 < d2 ∧ n1.natAbs < 10 ^ 200 ∧ d1.natAbs < 10 ^ 200 ∧ n2.natAbs < 10 ^ 200 ∧ d2.natAbs < 10 ^ 200 ∧ cmpN (n1 * d2) (n2 * d1) = R) ∧ Hid (Below w.heap.size w w')) (fun _ w' => cellD w' w.heap.size + cellD w' (w.heap.size + 1)) rfl ?_ ?_
  · skip
    have q1b : (n1 / d1).natAbs < 10 ^ 200 := Nat.lt_of_le_of_lt (Int.natAbs_ediv_le_natAbs _ _) b1'
    have q2b : (n2 / d2).natAbs < 10 ^ 200 := Nat.lt_of_le_of_lt (Int.natAbs_ediv_le_natAbs _ _) b3'
    have r1b : (n1 % d1).natAbs < 10 ^ 200 := by have := Int.emod_nonneg n1 (show d1 ≠ 0 by omega); have := Int.emod_lt_of_pos n1 p1; omega
    have r2b : (n2 % d2).natAbs < 10 ^ 200 := by have := Int.emod_nonneg n2 (show d2 ≠ 0 by omega); have := Int.emod_lt_of_pos n2 p2; omega
    have cA := fun W => Div_S n1 d1 b1' b2' (by omega) W
    have cB := fun W => Div_S n2 d2 b3' b4' (by omega) W
    by_cases hq : n1 / d1 = n2 / d2
    · have cq := fun W => Compare_S (n1 / d1) (n2 / d2) q1b q2b W
      rw [show cmpN (n1 / d1) (n2 / d2) = 0 by rw [hq, cmpN, if_neg (by omega), if_neg (by omega)]] at cq
      have hs2 := cmp_step2 n1 d1 n2 d2 p1 p2 hq
      have hs3 := cmp_step3 n1 d1 n2 d2 p1 p2 hq
      by_cases h0 : n1 % d1 = 0 ∨ n2 % d2 = 0
      · have cr := fun W => Compare_S (n1 % d1) (n2 % d2) r1b r2b W
        rw [hs3 h0, hR] at cr
        have ht : ((S (n1 % d1)).toList == [48]) = true ∨ (((S (n1 % d1)).toList == [48]) = false ∧ ((S (n2 % d2)).toList == [48]) = true) := by
          rw [S_eq0, S_eq0]
          by_cases h : n1 % d1 = 0
          · exact .inl (decide_eq_true h)
          · exact .inr ⟨decide_eq_false h, decide_eq_true (h0.resolve_left h)⟩
        clear hs2 hs3 h0 hq hR
        generalize S (n1 / d1) = sq1 at *
        generalize S (n2 / d2) = sq2 at *
        generalize S (n1 % d1) = srA at *
        generalize S (n2 % d2) = srB at *
        generalize S n1 = sn1 at *
        generalize S d1 = sd1 at *
        generalize S n2 = sn2 at *
        generalize S d2 = sd2 at *
        have CA := Lib.hid cA
        have CB := Lib.hid cB
        have CQ := Lib.hid cq
        have CR := Lib.hid cr
        clear cA cB cq cr q1b q2b r1b r2b p1 p2 b1' b2' b3' b4'
        rcases ht with ht | ⟨ht, ht2⟩
        all_goals
          go_wp2_with (first | (go_at_call 30; (with_reducible refine (CV1.out _).mono ?_); rintro e W ⟨rfl, B⟩; have hr := (And.intro (HR.out.1.keep B HR.out.1.lt) (HR.out.2.keep B HR.out.2.lt)); have hb := HB.out.trans (B.mono HB.out.size); clear HR HB B a0 a1 b0 b1; have HR := Lib.hid hr; have HB := Lib.hid hb; have a0 := hr.1.c0; have a1 := hr.1.c1; have b0 := hr.2.c0; have b1 := hr.2.c1; clear hr hb) | (go_at_call 30; (with_reducible refine (CV2.out _).mono ?_); rintro e W ⟨rfl, B⟩; have hr := (And.intro (HR.out.1.keep B HR.out.1.lt) (HR.out.2.keep B HR.out.2.lt)); have hb := HB.out.trans (B.mono HB.out.size); clear HR HB B a0 a1 b0 b1; have HR := Lib.hid hr; have HB := Lib.hid hb; have a0 := hr.1.c0; have a1 := hr.1.c1; have b0 := hr.2.c0; have b1 := hr.2.c1; clear hr hb))
          go_step3
          go_wp2_with (first | (go_at_call 60; (with_reducible refine (CA.out _).mono ?_); rintro e W ⟨rfl, B⟩; have hr := (And.intro (HR.out.1.keep B HR.out.1.lt) (HR.out.2.keep B HR.out.2.lt)); have hb := HB.out.trans (B.mono HB.out.size); clear HR HB B a0 a1 b0 b1; have HR := Lib.hid hr; have HB := Lib.hid hb; have a0 := hr.1.c0; have a1 := hr.1.c1; have b0 := hr.2.c0; have b1 := hr.2.c1; clear hr hb) | (go_at_call 60; (with_reducible refine (CB.out _).mono ?_); rintro e W ⟨rfl, B⟩; have hr := (And.intro (HR.out.1.keep B HR.out.1.lt) (HR.out.2.keep B HR.out.2.lt)); have hb := HB.out.trans (B.mono HB.out.size); clear HR HB B a0 a1 b0 b1; have HR := Lib.hid hr; have HB := Lib.hid hb; have a0 := hr.1.c0; have a1 := hr.1.c1; have b0 := hr.2.c0; have b1 := hr.2.c1; clear hr hb) | (go_at_call 61; (with_reducible refine (CQ.out _).mono ?_); rintro e W ⟨rfl, B⟩; have hr := (And.intro (HR.out.1.keep B HR.out.1.lt) (HR.out.2.keep B HR.out.2.lt)); have hb := HB.out.trans (B.mono HB.out.size); clear HR HB B a0 a1 b0 b1; have HR := Lib.hid hr; have HB := Lib.hid hb; have a0 := hr.1.c0; have a1 := hr.1.c1; have b0 := hr.2.c0; have b1 := hr.2.c1; clear hr hb) | (go_at_call 61; (with_reducible refine (CR.out _).mono ?_); rintro e W ⟨rfl, B⟩; have hr := (And.intro (HR.out.1.keep B HR.out.1.lt) (HR.out.2.keep B HR.out.2.lt)); have hb := HB.out.trans (B.mono HB.out.size); clear HR HB B a0 a1 b0 b1; have HR := Lib.hid hr; have HB := Lib.hid hb; have a0 := hr.1.c0; have a1 := hr.1.c1; have b0 := hr.2.c0; have b1 := hr.2.c1; clear hr hb))
          simp only [Exit.jump]
          go_ret
          exact ⟨rfl, HB.out⟩
      · have hA : n1 % d1 ≠ 0 := fun h => h0 (.inl h)
        have hB' : n2 % d2 ≠ 0 := fun h => h0 (.inr h)
        have ht : ((S (n1 % d1)).toList == [48]) = false := by rw [S_eq0]; exact decide_eq_false hA
        have ht2 : ((S (n2 % d2)).toList == [48]) = false := by rw [S_eq0]; exact decide_eq_false hB'
        have a1 := Int.emod_nonneg n1 (show d1 ≠ 0 by omega)
        have a2 := Int.emod_lt_of_pos n1 p1
        have e1 := Int.emod_nonneg n2 (show d2 ≠ 0 by omega)
        have e2 := Int.emod_lt_of_pos n2 p2
        have hJ : Hid (0 < n2 % d2 ∧ 0 < n1 % d1 ∧ d2.natAbs < 10 ^ 200 ∧ (n2 % d2).natAbs < 10 ^ 200 ∧ d1.natAbs < 10 ^ 200 ∧ (n1 % d1).natAbs < 10 ^ 200 ∧ cmpN (d2 * (n1 % d1)) (d1 * (n2 % d2)) = R) := Lib.hid ⟨by omega, by omega, b4', r2b, b2', r1b, by rw [hs2, hR]⟩
        have hM : Hid ((n2 % d2).toNat + (n1 % d1).toNat < d1.toNat + d2.toNat) := Lib.hid (by omega)
        clear a1 a2 e1 e2 hs2 hs3 h0 hq hR hA hB'
        generalize hsq1 : S (n1 / d1) = sq1 at *
        generalize hsq2 : S (n2 / d2) = sq2 at *
        generalize hrA : S (n1 % d1) = srA at *
        generalize hrB : S (n2 % d2) = srB at *
        generalize hn1 : S n1 = sn1 at *
        generalize hd1 : S d1 = sd1 at *
        generalize hn2 : S n2 = sn2 at *
        generalize hd2 : S d2 = sd2 at *
        have HE := Lib.hid (And.intro hrA (And.intro hrB (And.intro hd1 hd2)))
        have CA := Lib.hid cA
        have CB := Lib.hid cB
        have CQ := Lib.hid cq
        clear cA cB cq q1b q2b r1b r2b p1 p2 b1' b2' b3' b4' hsq1 hsq2 hrA hrB hn1 hd1 hn2 hd2
        go_wp2_with (first | (go_at_call 30; (with_reducible refine (CV1.out _).mono ?_); rintro e W ⟨rfl, B⟩; have hr := (And.intro (HR.out.1.keep B HR.out.1.lt) (HR.out.2.keep B HR.out.2.lt)); have hb := HB.out.trans (B.mono HB.out.size); clear HR HB B a0 a1 b0 b1; have HR := Lib.hid hr; have HB := Lib.hid hb; have a0 := hr.1.c0; have a1 := hr.1.c1; have b0 := hr.2.c0; have b1 := hr.2.c1; clear hr hb) | (go_at_call 30; (with_reducible refine (CV2.out _).mono ?_); rintro e W ⟨rfl, B⟩; have hr := (And.intro (HR.out.1.keep B HR.out.1.lt) (HR.out.2.keep B HR.out.2.lt)); have hb := HB.out.trans (B.mono HB.out.size); clear HR HB B a0 a1 b0 b1; have HR := Lib.hid hr; have HB := Lib.hid hb; have a0 := hr.1.c0; have a1 := hr.1.c1; have b0 := hr.2.c0; have b1 := hr.2.c1; clear hr hb))
        go_step3
        go_wp2_with (first | (go_at_call 60; (with_reducible refine (CA.out _).mono ?_); rintro e W ⟨rfl, B⟩; have hr := (And.intro (HR.out.1.keep B HR.out.1.lt) (HR.out.2.keep B HR.out.2.lt)); have hb := HB.out.trans (B.mono HB.out.size); clear HR HB B a0 a1 b0 b1; have HR := Lib.hid hr; have HB := Lib.hid hb; have a0 := hr.1.c0; have a1 := hr.1.c1; have b0 := hr.2.c0; have b1 := hr.2.c1; clear hr hb) | (go_at_call 60; (with_reducible refine (CB.out _).mono ?_); rintro e W ⟨rfl, B⟩; have hr := (And.intro (HR.out.1.keep B HR.out.1.lt) (HR.out.2.keep B HR.out.2.lt)); have hb := HB.out.trans (B.mono HB.out.size); clear HR HB B a0 a1 b0 b1; have HR := Lib.hid hr; have HB := Lib.hid hb; have a0 := hr.1.c0; have a1 := hr.1.c1; have b0 := hr.2.c0; have b1 := hr.2.c1; clear hr hb) | (go_at_call 61; (with_reducible refine (CQ.out _).mono ?_); rintro e W ⟨rfl, B⟩; have hr := (And.intro (HR.out.1.keep B HR.out.1.lt) (HR.out.2.keep B HR.out.2.lt)); have hb := HB.out.trans (B.mono HB.out.size); clear HR HB B a0 a1 b0 b1; have HR := Lib.hid hr; have HB := Lib.hid hb; have a0 := hr.1.c0; have a1 := hr.1.c1; have b0 := hr.2.c0; have b1 := hr.2.c1; have fa0 := hr.1.f 0; have fa1 := hr.1.f 1; have s1 := hr.1.s0 (.string sd2); have da := s1.c1; have ga := s1.f 1; have s2 := s1.s1 (.string srB); have t0 := (hr.2.other ⟨w.heap.size, 0, none⟩ (.string sd2) (by show w.heap.size + 1 ≠ w.heap.size; omega)).other ⟨w.heap.size, 1, none⟩ (.string srB) (by show w.heap.size + 1 ≠ w.heap.size; omega); have e0 := t0.c0; have ef0 := t0.f 0; have t1 := t0.s0 (.string sd1); have e1 := t1.c1; have ef1 := t1.f 1; have HS := Lib.hid (And.intro ((s2.other ⟨w.heap.size + 1, 0, none⟩ (.string sd1) (by show w.heap.size ≠ w.heap.size + 1; omega)).other ⟨w.heap.size + 1, 1, none⟩ (.string srA) (by show w.heap.size ≠ w.heap.size + 1; omega)) (t1.s1 (.string srA))); have HBS := Lib.hid ((((hb.setCell (p := ⟨w.heap.size, 0, none⟩) (Nat.le_refl _) (.string sd2)).setCell (p := ⟨w.heap.size, 1, none⟩) (Nat.le_refl _) (.string srB)).setCell (p := ⟨w.heap.size + 1, 0, none⟩) (by show w.heap.size ≤ w.heap.size + 1; omega) (.string sd1)).setCell (p := ⟨w.heap.size + 1, 1, none⟩) (by show w.heap.size ≤ w.heap.size + 1; omega) (.string srA)); clear s1 s2 t0 t1 hr hb))
        go_step3
        obtain ⟨g1, g2, g3, g4⟩ := HE.out
        have HS2 := HS.out
        rw [← g1, ← g2, ← g3, ← g4] at HS2
        refine ⟨rfl, ⟨_, _, _, _, _, _, _, _, _, _, _, _, _, _, _, _, _, _, _, _, _, _, _, _, _, _, _, _, _, _, _, _, _, _, _, _, _, _, _, _, _, _, _, _, _, _, _, _, _, _, _, _, _, _, _, _, _, _, rfl⟩, ?_, ?_⟩
        · rw [← g1, ← g2, ← g3, ← g4]; exact Lib.hid ⟨d2, n2 % d2, d1, n1 % d1, HS2.1, HS2.2, hJ.out.1, hJ.out.2.1, hJ.out.2.2.1, hJ.out.2.2.2.1, hJ.out.2.2.2.2.1, hJ.out.2.2.2.2.2.1, hJ.out.2.2.2.2.2.2⟩
        · exact HBS
    · have cq := fun W => Compare_S (n1 / d1) (n2 / d2) q1b q2b W
      have hs1 := cmp_step1 n1 d1 n2 d2 p1 p2 hq
      rw [hR] at hs1
      rw [hs1.1] at cq
      have hne := hs1.2
      generalize S (n1 / d1) = sq1 at *
      generalize S (n2 / d2) = sq2 at *
      generalize S (n1 % d1) = srA at *
      generalize S (n2 % d2) = srB at *
      generalize S n1 = sn1 at *
      generalize S d1 = sd1 at *
      generalize S n2 = sn2 at *
      generalize S d2 = sd2 at *
      have CA := Lib.hid cA
      have CB := Lib.hid cB
      have CQ := Lib.hid cq
      clear cA cB cq q1b q2b r1b r2b p1 p2 b1' b2' b3' b4' hs1 hq hR
      go_wp2_with (first | (go_at_call 30; (with_reducible refine (CV1.out _).mono ?_); rintro e W ⟨rfl, B⟩; have hr := (And.intro (HR.out.1.keep B HR.out.1.lt) (HR.out.2.keep B HR.out.2.lt)); have hb := HB.out.trans (B.mono HB.out.size); clear HR HB B a0 a1 b0 b1; have HR := Lib.hid hr; have HB := Lib.hid hb; have a0 := hr.1.c0; have a1 := hr.1.c1; have b0 := hr.2.c0; have b1 := hr.2.c1; clear hr hb) | (go_at_call 30; (with_reducible refine (CV2.out _).mono ?_); rintro e W ⟨rfl, B⟩; have hr := (And.intro (HR.out.1.keep B HR.out.1.lt) (HR.out.2.keep B HR.out.2.lt)); have hb := HB.out.trans (B.mono HB.out.size); clear HR HB B a0 a1 b0 b1; have HR := Lib.hid hr; have HB := Lib.hid hb; have a0 := hr.1.c0; have a1 := hr.1.c1; have b0 := hr.2.c0; have b1 := hr.2.c1; clear hr hb))
      go_step3
      go_wp2_with (first | (go_at_call 60; (with_reducible refine (CA.out _).mono ?_); rintro e W ⟨rfl, B⟩; have hr := (And.intro (HR.out.1.keep B HR.out.1.lt) (HR.out.2.keep B HR.out.2.lt)); have hb := HB.out.trans (B.mono HB.out.size); clear HR HB B a0 a1 b0 b1; have HR := Lib.hid hr; have HB := Lib.hid hb; have a0 := hr.1.c0; have a1 := hr.1.c1; have b0 := hr.2.c0; have b1 := hr.2.c1; clear hr hb) | (go_at_call 60; (with_reducible refine (CB.out _).mono ?_); rintro e W ⟨rfl, B⟩; have hr := (And.intro (HR.out.1.keep B HR.out.1.lt) (HR.out.2.keep B HR.out.2.lt)); have hb := HB.out.trans (B.mono HB.out.size); clear HR HB B a0 a1 b0 b1; have HR := Lib.hid hr; have HB := Lib.hid hb; have a0 := hr.1.c0; have a1 := hr.1.c1; have b0 := hr.2.c0; have b1 := hr.2.c1; clear hr hb) | (go_at_call 61; (with_reducible refine (CQ.out _).mono ?_); rintro e W ⟨rfl, B⟩; have hr := (And.intro (HR.out.1.keep B HR.out.1.lt) (HR.out.2.keep B HR.out.2.lt)); have hb := HB.out.trans (B.mono HB.out.size); clear HR HB B a0 a1 b0 b1; have HR := Lib.hid hr; have HB := Lib.hid hb; have a0 := hr.1.c0; have a1 := hr.1.c1; have b0 := hr.2.c0; have b1 := hr.2.c1; clear hr hb))
      simp only [Exit.jump]
      go_ret
      exact ⟨rfl, HB.out⟩
  · clear HB HR a0 a1 b0 b1 CV1 CV2 hR p1 p2 b1' b2' b3' b4' n1 d1 n2 d2
    rintro a' w' ⟨⟨v0, v1, u5, u6, u7, u8, u9, u10, u11, u12, u13, u14, u15, u16, u17, u18, u19, u20, u21, u22, u23, u24, u25, u26, u27, u28, u29, u30, u31, u32, u33, u34, u35, u36, u37, u38, u39, u40, u41, u42, u43, u44, u45, u46, u47, u48, u49, u50, u51, u52, u53, u54, u55, u56, u57, u58, u59, u60, rfl⟩, hst, HB⟩
    obtain ⟨n1, d1, n2, d2, r1, r2, p1, p2, b1', b2', b3', b4', hR⟩ := hst.out
    have a0 := r1.c0
    have a1 := r1.c1
    have b0 := r2.c0
    have b1 := r2.c1
    have HR := Lib.hid (And.intro r1 r2)
    have HMU := Lib.hid (show cellD w' w.heap.size + cellD w' (w.heap.size + 1) = d1.toNat + d2.toNat by rw [cellD_of r1, cellD_of r2])
    clear r1 r2 hst
    have q1b : (n1 / d1).natAbs < 10 ^ 200 := Nat.lt_of_le_of_lt (Int.natAbs_ediv_le_natAbs _ _) b1'
    have q2b : (n2 / d2).natAbs < 10 ^ 200 := Nat.lt_of_le_of_lt (Int.natAbs_ediv_le_natAbs _ _) b3'
    have r1b : (n1 % d1).natAbs < 10 ^ 200 := by have := Int.emod_nonneg n1 (show d1 ≠ 0 by omega); have := Int.emod_lt_of_pos n1 p1; omega
    have r2b : (n2 % d2).natAbs < 10 ^ 200 := by have := Int.emod_nonneg n2 (show d2 ≠ 0 by omega); have := Int.emod_lt_of_pos n2 p2; omega
    have cA := fun W => Div_S n1 d1 b1' b2' (by omega) W
    have cB := fun W => Div_S n2 d2 b3' b4' (by omega) W
    by_cases hq : n1 / d1 = n2 / d2
    · have cq := fun W => Compare_S (n1 / d1) (n2 / d2) q1b q2b W
      rw [show cmpN (n1 / d1) (n2 / d2) = 0 by rw [hq, cmpN, if_neg (by omega), if_neg (by omega)]] at cq
      have hs2 := cmp_step2 n1 d1 n2 d2 p1 p2 hq
      have hs3 := cmp_step3 n1 d1 n2 d2 p1 p2 hq
      by_cases h0 : n1 % d1 = 0 ∨ n2 % d2 = 0
      · have cr := fun W => Compare_S (n1 % d1) (n2 % d2) r1b r2b W
        rw [hs3 h0, hR] at cr
        have ht : ((S (n1 % d1)).toList == [48]) = true ∨ (((S (n1 % d1)).toList == [48]) = false ∧ ((S (n2 % d2)).toList == [48]) = true) := by
          rw [S_eq0, S_eq0]
          by_cases h : n1 % d1 = 0
          · exact .inl (decide_eq_true h)
          · exact .inr ⟨decide_eq_false h, decide_eq_true (h0.resolve_left h)⟩
        clear hs2 hs3 h0 hq hR
        generalize S (n1 / d1) = sq1 at *
        generalize S (n2 / d2) = sq2 at *
        generalize S (n1 % d1) = srA at *
        generalize S (n2 % d2) = srB at *
        generalize S n1 = sn1 at *
        generalize S d1 = sd1 at *
        generalize S n2 = sn2 at *
        generalize S d2 = sd2 at *
        have CA := Lib.hid cA
        have CB := Lib.hid cB
        have CQ := Lib.hid cq
        have CR := Lib.hid cr
        clear cA cB cq cr q1b q2b r1b r2b p1 p2 b1' b2' b3' b4'
        rcases ht with ht | ⟨ht, ht2⟩
        all_goals
          go_wp2_with (first | (go_at_call 60; (with_reducible refine (CA.out _).mono ?_); rintro e W ⟨rfl, B⟩; have hr := (And.intro (HR.out.1.keep B HR.out.1.lt) (HR.out.2.keep B HR.out.2.lt)); have hb := HB.out.trans (B.mono HB.out.size); clear HR HB B a0 a1 b0 b1; have HR := Lib.hid hr; have HB := Lib.hid hb; have a0 := hr.1.c0; have a1 := hr.1.c1; have b0 := hr.2.c0; have b1 := hr.2.c1; clear hr hb) | (go_at_call 60; (with_reducible refine (CB.out _).mono ?_); rintro e W ⟨rfl, B⟩; have hr := (And.intro (HR.out.1.keep B HR.out.1.lt) (HR.out.2.keep B HR.out.2.lt)); have hb := HB.out.trans (B.mono HB.out.size); clear HR HB B a0 a1 b0 b1; have HR := Lib.hid hr; have HB := Lib.hid hb; have a0 := hr.1.c0; have a1 := hr.1.c1; have b0 := hr.2.c0; have b1 := hr.2.c1; clear hr hb) | (go_at_call 61; (with_reducible refine (CQ.out _).mono ?_); rintro e W ⟨rfl, B⟩; have hr := (And.intro (HR.out.1.keep B HR.out.1.lt) (HR.out.2.keep B HR.out.2.lt)); have hb := HB.out.trans (B.mono HB.out.size); clear HR HB B a0 a1 b0 b1; have HR := Lib.hid hr; have HB := Lib.hid hb; have a0 := hr.1.c0; have a1 := hr.1.c1; have b0 := hr.2.c0; have b1 := hr.2.c1; clear hr hb) | (go_at_call 61; (with_reducible refine (CR.out _).mono ?_); rintro e W ⟨rfl, B⟩; have hr := (And.intro (HR.out.1.keep B HR.out.1.lt) (HR.out.2.keep B HR.out.2.lt)); have hb := HB.out.trans (B.mono HB.out.size); clear HR HB B a0 a1 b0 b1; have HR := Lib.hid hr; have HB := Lib.hid hb; have a0 := hr.1.c0; have a1 := hr.1.c1; have b0 := hr.2.c0; have b1 := hr.2.c1; clear hr hb))
          simp only [Exit.jump]
          go_ret
          exact ⟨rfl, HB.out⟩
      · have hA : n1 % d1 ≠ 0 := fun h => h0 (.inl h)
        have hB' : n2 % d2 ≠ 0 := fun h => h0 (.inr h)
        have ht : ((S (n1 % d1)).toList == [48]) = false := by rw [S_eq0]; exact decide_eq_false hA
        have ht2 : ((S (n2 % d2)).toList == [48]) = false := by rw [S_eq0]; exact decide_eq_false hB'
        have a1 := Int.emod_nonneg n1 (show d1 ≠ 0 by omega)
        have a2 := Int.emod_lt_of_pos n1 p1
        have e1 := Int.emod_nonneg n2 (show d2 ≠ 0 by omega)
        have e2 := Int.emod_lt_of_pos n2 p2
        have hJ : Hid (0 < n2 % d2 ∧ 0 < n1 % d1 ∧ d2.natAbs < 10 ^ 200 ∧ (n2 % d2).natAbs < 10 ^ 200 ∧ d1.natAbs < 10 ^ 200 ∧ (n1 % d1).natAbs < 10 ^ 200 ∧ cmpN (d2 * (n1 % d1)) (d1 * (n2 % d2)) = R) := Lib.hid ⟨by omega, by omega, b4', r2b, b2', r1b, by rw [hs2, hR]⟩
        have hM : Hid ((n2 % d2).toNat + (n1 % d1).toNat < d1.toNat + d2.toNat) := Lib.hid (by omega)
        clear a1 a2 e1 e2 hs2 hs3 h0 hq hR hA hB'
        generalize hsq1 : S (n1 / d1) = sq1 at *
        generalize hsq2 : S (n2 / d2) = sq2 at *
        generalize hrA : S (n1 % d1) = srA at *
        generalize hrB : S (n2 % d2) = srB at *
        generalize hn1 : S n1 = sn1 at *
        generalize hd1 : S d1 = sd1 at *
        generalize hn2 : S n2 = sn2 at *
        generalize hd2 : S d2 = sd2 at *
        have HE := Lib.hid (And.intro hrA (And.intro hrB (And.intro hd1 hd2)))
        have CA := Lib.hid cA
        have CB := Lib.hid cB
        have CQ := Lib.hid cq
        clear cA cB cq q1b q2b r1b r2b p1 p2 b1' b2' b3' b4' hsq1 hsq2 hrA hrB hn1 hd1 hn2 hd2
        go_wp2_with (first | (go_at_call 60; (with_reducible refine (CA.out _).mono ?_); rintro e W ⟨rfl, B⟩; have hr := (And.intro (HR.out.1.keep B HR.out.1.lt) (HR.out.2.keep B HR.out.2.lt)); have hb := HB.out.trans (B.mono HB.out.size); clear HR HB B a0 a1 b0 b1; have HR := Lib.hid hr; have HB := Lib.hid hb; have a0 := hr.1.c0; have a1 := hr.1.c1; have b0 := hr.2.c0; have b1 := hr.2.c1; clear hr hb) | (go_at_call 60; (with_reducible refine (CB.out _).mono ?_); rintro e W ⟨rfl, B⟩; have hr := (And.intro (HR.out.1.keep B HR.out.1.lt) (HR.out.2.keep B HR.out.2.lt)); have hb := HB.out.trans (B.mono HB.out.size); clear HR HB B a0 a1 b0 b1; have HR := Lib.hid hr; have HB := Lib.hid hb; have a0 := hr.1.c0; have a1 := hr.1.c1; have b0 := hr.2.c0; have b1 := hr.2.c1; clear hr hb) | (go_at_call 61; (with_reducible refine (CQ.out _).mono ?_); rintro e W ⟨rfl, B⟩; have hr := (And.intro (HR.out.1.keep B HR.out.1.lt) (HR.out.2.keep B HR.out.2.lt)); have hb := HB.out.trans (B.mono HB.out.size); clear HR HB B a0 a1 b0 b1; have HR := Lib.hid hr; have HB := Lib.hid hb; have a0 := hr.1.c0; have a1 := hr.1.c1; have b0 := hr.2.c0; have b1 := hr.2.c1; have fa0 := hr.1.f 0; have fa1 := hr.1.f 1; have s1 := hr.1.s0 (.string sd2); have da := s1.c1; have ga := s1.f 1; have s2 := s1.s1 (.string srB); have t0 := (hr.2.other ⟨w.heap.size, 0, none⟩ (.string sd2) (by show w.heap.size + 1 ≠ w.heap.size; omega)).other ⟨w.heap.size, 1, none⟩ (.string srB) (by show w.heap.size + 1 ≠ w.heap.size; omega); have e0 := t0.c0; have ef0 := t0.f 0; have t1 := t0.s0 (.string sd1); have e1 := t1.c1; have ef1 := t1.f 1; have HS := Lib.hid (And.intro ((s2.other ⟨w.heap.size + 1, 0, none⟩ (.string sd1) (by show w.heap.size ≠ w.heap.size + 1; omega)).other ⟨w.heap.size + 1, 1, none⟩ (.string srA) (by show w.heap.size ≠ w.heap.size + 1; omega)) (t1.s1 (.string srA))); have HBS := Lib.hid ((((hb.setCell (p := ⟨w.heap.size, 0, none⟩) (Nat.le_refl _) (.string sd2)).setCell (p := ⟨w.heap.size, 1, none⟩) (Nat.le_refl _) (.string srB)).setCell (p := ⟨w.heap.size + 1, 0, none⟩) (by show w.heap.size ≤ w.heap.size + 1; omega) (.string sd1)).setCell (p := ⟨w.heap.size + 1, 1, none⟩) (by show w.heap.size ≤ w.heap.size + 1; omega) (.string srA)); clear s1 s2 t0 t1 hr hb))
        go_step3
        obtain ⟨g1, g2, g3, g4⟩ := HE.out
        have HS2 := HS.out
        rw [← g1, ← g2, ← g3, ← g4] at HS2
        refine ⟨rfl, ⟨⟨_, _, _, _, _, _, _, _, _, _, _, _, _, _, _, _, _, _, _, _, _, _, _, _, _, _, _, _, _, _, _, _, _, _, _, _, _, _, _, _, _, _, _, _, _, _, _, _, _, _, _, _, _, _, _, _, _, _, rfl⟩, ?_, ?_⟩, ?_⟩
        · rw [← g1, ← g2, ← g3, ← g4]; exact Lib.hid ⟨d2, n2 % d2, d1, n1 % d1, HS2.1, HS2.2, hJ.out.1, hJ.out.2.1, hJ.out.2.2.1, hJ.out.2.2.2.1, hJ.out.2.2.2.2.1, hJ.out.2.2.2.2.2.1, hJ.out.2.2.2.2.2.2⟩
        · exact HBS
        · rw [← g1, ← g2, ← g3, ← g4, cellD_of HS2.1, cellD_of HS2.2, HMU.out]
          exact hM.out
    · have cq := fun W => Compare_S (n1 / d1) (n2 / d2) q1b q2b W
      have hs1 := cmp_step1 n1 d1 n2 d2 p1 p2 hq
      rw [hR] at hs1
      rw [hs1.1] at cq
      have hne := hs1.2
      generalize S (n1 / d1) = sq1 at *
      generalize S (n2 / d2) = sq2 at *
      generalize S (n1 % d1) = srA at *
      generalize S (n2 % d2) = srB at *
      generalize S n1 = sn1 at *
      generalize S d1 = sd1 at *
      generalize S n2 = sn2 at *
      generalize S d2 = sd2 at *
      have CA := Lib.hid cA
      have CB := Lib.hid cB
      have CQ := Lib.hid cq
      clear cA cB cq q1b q2b r1b r2b p1 p2 b1' b2' b3' b4' hs1 hq hR
      go_wp2_with (first | (go_at_call 60; (with_reducible refine (CA.out _).mono ?_); rintro e W ⟨rfl, B⟩; have hr := (And.intro (HR.out.1.keep B HR.out.1.lt) (HR.out.2.keep B HR.out.2.lt)); have hb := HB.out.trans (B.mono HB.out.size); clear HR HB B a0 a1 b0 b1; have HR := Lib.hid hr; have HB := Lib.hid hb; have a0 := hr.1.c0; have a1 := hr.1.c1; have b0 := hr.2.c0; have b1 := hr.2.c1; clear hr hb) | (go_at_call 60; (with_reducible refine (CB.out _).mono ?_); rintro e W ⟨rfl, B⟩; have hr := (And.intro (HR.out.1.keep B HR.out.1.lt) (HR.out.2.keep B HR.out.2.lt)); have hb := HB.out.trans (B.mono HB.out.size); clear HR HB B a0 a1 b0 b1; have HR := Lib.hid hr; have HB := Lib.hid hb; have a0 := hr.1.c0; have a1 := hr.1.c1; have b0 := hr.2.c0; have b1 := hr.2.c1; clear hr hb) | (go_at_call 61; (with_reducible refine (CQ.out _).mono ?_); rintro e W ⟨rfl, B⟩; have hr := (And.intro (HR.out.1.keep B HR.out.1.lt) (HR.out.2.keep B HR.out.2.lt)); have hb := HB.out.trans (B.mono HB.out.size); clear HR HB B a0 a1 b0 b1; have HR := Lib.hid hr; have HB := Lib.hid hb; have a0 := hr.1.c0; have a1 := hr.1.c1; have b0 := hr.2.c0; have b1 := hr.2.c1; clear hr hb))
      simp only [Exit.jump]
      go_ret
      exact ⟨rfl, HB.out⟩
end Go.Proofs.YtdnbhgkbfbgnaaaGreatDoor


namespace Go.Proofs.YtdnbhgkbfbgnaaaGreatDoor
open Go.RowKit

set_option maxRecDepth 100000 in
set_option maxHeartbeats 2000000 in
theorem qMake_via (s1 s2 x y : ByteArray) (ev : Int) (w : World) (h : ∀ W, Calls Tryz.prog 70 #[.agg #[.string s1, .string s2]] W fun e w' => e = .returned (.tuple #[.agg #[.string x, .string y], .int .i64 ev]) ∧ Below W.heap.size W w') :
    Calls Tryz.prog 28 #[.string s1, .string s2] w fun e w' => e = .returned (.tuple #[.agg #[.string x, .string y], .int .i64 ev]) ∧ Below w.heap.size w w' := by
  have HR := Lib.hid (RBlk.new w (.string ⟨#[]⟩) (.string ⟨#[]⟩))
  have HB := Lib.hid (below_alloc w (.cells #[.string ⟨#[]⟩, .string ⟨#[]⟩] 23))
  have H := Lib.hid h
  clear h
  go_enter Tryz.func28, Tryz.ntmps28
  go_wp2_with (go_at_call 70; (with_reducible refine (H.out _).mono ?_); rintro e W ⟨rfl, B⟩; have hr := (HR.out.keep B HR.out.lt); have hb := HB.out.trans (B.mono HB.out.size); clear HR HB B ; have HR := Lib.hid hr; have HB := Lib.hid hb; have c0 := hr.c0; have c1 := hr.c1; have f0 := hr.f 0; have f1 := hr.f 1; have hs := hr.s0 (.string x); have d1 := hs.c1; have g1 := hs.f 1; have HS := Lib.hid (hs.s1 (.string y)); have HBS := Lib.hid ((hb.setCell (p := ⟨w.heap.size, 0, none⟩) (by show w.heap.size ≤ w.heap.size; omega) (.string x)).setCell (p := ⟨w.heap.size, 1, none⟩) (by show w.heap.size ≤ w.heap.size; omega) (.string y)); clear hr hb hs)
  refine bodyPost_ret (results_ratio rfl _ _ w.heap.size _ _ rfl HS.out) rfl ?_
  exact ⟨rfl, HBS.out⟩
theorem qMake_no (s1 s2 : ByteArray) (L1 L2 : List UInt8) (w : World) (hL1 : s1.data.toList = L1) (hL2 : s2.data.toList = L2) (hl1 : L1.length ≤ 60000) (hl2 : L2.length ≤ 60000) (hv : (vld L1 && vld L2) = true → num L2 = 0) :
    Calls Tryz.prog 28 #[.string s1, .string s2] w fun e w' => e = .returned (.tuple #[RZ, .int .i64 40]) ∧ Below w.heap.size w w' :=
  qMake_via s1 s2 ⟨#[]⟩ ⟨#[]⟩ 40 w fun W => reduced_no s1 s2 L1 L2 W hL1 hL2 hl1 hl2 hv
theorem qMake_R (n d : Int) (w : World) (hn : n.natAbs < 10 ^ 200) (hd : d.natAbs < 10 ^ 200) (h0 : d ≠ 0) :
    Calls Tryz.prog 28 #[.string (S n), .string (S d)] w fun e w' => e = .returned (.tuple #[RV (Rat.divInt n d), .int .i64 0]) ∧ Below w.heap.size w w' :=
  qMake_via (S n) (S d) _ _ 0 w fun W => reduced_R n d hn hd h0 W

set_option maxRecDepth 100000 in
set_option maxHeartbeats 2000000 in
theorem qOf_via (n d ev : Int) (x y : ByteArray) (w : World) (hn : -9223372036854775808 ≤ n ∧ n ≤ 9223372036854775807) (hd : -9223372036854775808 ≤ d ∧ d ≤ 9223372036854775807) (hT : Tz w)
    (h : ∀ W, Calls Tryz.prog 28 #[.string (S n), .string (S d)] W fun e w' => e = .returned (.tuple #[.agg #[.string x, .string y], .int .i64 ev]) ∧ Below W.heap.size W w') :
    Calls Tryz.prog 32 #[.int .i64 n, .int .i64 d] w fun e w' => e = .returned (.tuple #[.agg #[.string x, .string y], .int .i64 ev]) ∧ Below w.heap.size w w' := by
  have HR := Lib.hid (RBlk.new w (.string ⟨#[]⟩) (.string ⟨#[]⟩))
  have hb := below_alloc w (.cells #[.string ⟨#[]⟩, .string ⟨#[]⟩] 23)
  have HT := Lib.hid (hT.below hb)
  have HB := Lib.hid hb
  have H := Lib.hid h
  have F1 := Lib.hid (fun W (hW : Tz W) => FromInt_any n W hn.1 hn.2 hW)
  have F2 := Lib.hid (fun W (hW : Tz W) => FromInt_any d W hd.1 hd.2 hW)
  clear h hT hb hn hd
  generalize S n = sn at *
  generalize S d = sd at *
  go_enter Tryz.func32, Tryz.ntmps32
  go_wp2_with (first | (go_at_call 76; (with_reducible refine (F1.out _ HT.out).mono ?_); rintro e W ⟨rfl, B⟩; have HTn := Lib.hid (HT.out.below B); clear HT; have HT := HTn; clear HTn; have hr := (HR.out.keep B HR.out.lt); have hb := HB.out.trans (B.mono HB.out.size); clear HR HB B ; have HR := Lib.hid hr; have HB := Lib.hid hb; clear hr hb) | (go_at_call 76; (with_reducible refine (F2.out _ HT.out).mono ?_); rintro e W ⟨rfl, B⟩; have HTn := Lib.hid (HT.out.below B); clear HT; have HT := HTn; clear HTn; have hr := (HR.out.keep B HR.out.lt); have hb := HB.out.trans (B.mono HB.out.size); clear HR HB B ; have HR := Lib.hid hr; have HB := Lib.hid hb; clear hr hb) | (go_at_call 28; (with_reducible refine (H.out _).mono ?_); rintro e W ⟨rfl, B⟩; have hr := (HR.out.keep B HR.out.lt); have hb := HB.out.trans (B.mono HB.out.size); clear HR HB B ; have HR := Lib.hid hr; have HB := Lib.hid hb; have c0 := hr.c0; have c1 := hr.c1; have f0 := hr.f 0; have f1 := hr.f 1; have hs := hr.s0 (.string x); have d1 := hs.c1; have g1 := hs.f 1; have HS := Lib.hid (hs.s1 (.string y)); have HBS := Lib.hid ((hb.setCell (p := ⟨w.heap.size, 0, none⟩) (by show w.heap.size ≤ w.heap.size; omega) (.string x)).setCell (p := ⟨w.heap.size, 1, none⟩) (by show w.heap.size ≤ w.heap.size; omega) (.string y)); clear hr hb hs))
  refine bodyPost_ret (results_ratio rfl _ _ w.heap.size _ _ rfl HS.out) rfl ?_
  exact ⟨rfl, HBS.out⟩

theorem qOf_R (n d : Int) (w : World) (hn : -9223372036854775808 ≤ n ∧ n ≤ 9223372036854775807) (hd : -9223372036854775808 ≤ d ∧ d ≤ 9223372036854775807) (hT : Tz w) (h0 : d ≠ 0) :
    Calls Tryz.prog 32 #[.int .i64 n, .int .i64 d] w fun e w' => e = .returned (.tuple #[RV (Rat.divInt n d), .int .i64 0]) ∧ Below w.heap.size w w' :=
  qOf_via n d 0 _ _ w hn hd hT fun W => qMake_R n d W (by omega) (by omega) h0
theorem qOf_Z (n : Int) (w : World) (hn : -9223372036854775808 ≤ n ∧ n ≤ 9223372036854775807) (hT : Tz w) :
    Calls Tryz.prog 32 #[.int .i64 n, .int .i64 0] w fun e w' => e = .returned (.tuple #[RZ, .int .i64 40]) ∧ Below w.heap.size w w' :=
  qOf_via n 0 40 _ _ w hn (by omega) hT fun W => qMake_no (S n) (S 0) (txt n) (txt 0) W (S_list n) (S_list 0) (S_len (by omega)) (S_len (by decide)) (fun _ => txt_num 0)

/-- a fraction in writing -/
def prt (a : Rat) : ByteArray := if a.den = 1 then S a.num else S a.num ++ ⟨#[47]⟩ ++ S (a.den : Int)
theorem S_size2 {z : Int} (h : z.natAbs < 10 ^ 200) : (S z).size ≤ 201 := by
  have := (vld_digits (txt_vld h)).2.2
  rw [show (S z).size = (txt z).length by simp [S, ByteArray.size]]
  exact this
set_option maxRecDepth 100000 in
set_option maxHeartbeats 2000000 in
theorem qPrint_no (s1 s2 : ByteArray) (L1 L2 : List UInt8) (w : World) (hL1 : s1.data.toList = L1) (hL2 : s2.data.toList = L2) (hl1 : L1.length ≤ 60000) (hl2 : L2.length ≤ 60000) (hv : vR L1 L2 = false) :
    Calls Tryz.prog 34 #[.agg #[.string s1, .string s2]] w fun e w' => e = .returned (.string ⟨#[]⟩) ∧ Below w.heap.size w w' := by
  have cv := fun W => qValid_any s1 s2 L1 L2 W hL1 hL2 hl1 hl2
  rw [hv] at cv
  have CV := Lib.hid cv
  have r := RBlk.new w (.string s1) (.string s2)
  have HB := Lib.hid (below_alloc w (.cells #[.string s1, .string s2] 23))
  have a0 := r.c0
  have a1 := r.c1
  have HR := Lib.hid r
  clear r cv hL1 hL2 hl1 hl2 hv
  go_enter Tryz.func34, Tryz.ntmps34
  go_wp2_with (go_at_call 30; (with_reducible refine (CV.out _).mono ?_); rintro e W ⟨rfl, B⟩; have hr := (HR.out.keep B HR.out.lt); have hb := HB.out.trans (B.mono HB.out.size); clear HR HB B a0 a1; have HR := Lib.hid hr; have HB := Lib.hid hb; have a0 := hr.c0; have a1 := hr.c1; clear hr hb)
  go_ret
  exact ⟨rfl, HB.out⟩
set_option maxRecDepth 100000 in
set_option maxHeartbeats 2000000 in
theorem qPrint_R (a : Rat) (ha : fitR 200 a) (w : World) :
    Calls Tryz.prog 34 #[RV a] w fun e w' => e = .returned (.string (prt a)) ∧ Below w.heap.size w w' := by
  have hA := den_abs a ha
  have cv := fun W => qValid_any (S a.num) (S (a.den : Int)) (txt a.num) (txt (a.den : Int)) W (S_list _) (S_list _) (S_len ha.1) (S_len hA)
  rw [vR_q a ha] at cv
  have CV := Lib.hid cv
  have ht : ((S (a.den : Int)).toList == [49]) = decide (a.den = 1) := by
    rw [S1_tl, decide_eq_decide]; omega
  have z1 := S_size2 ha.1
  have z2 := S_size2 hA
  have CC := Lib.hid (fun W => clone_str (S a.num) W (by omega))
  have z3 : (⟨#[47]⟩ : ByteArray).size = 1 := rfl
  unfold RV prt
  generalize S a.num = s1 at *
  generalize S (a.den : Int) = s2 at *
  have r := RBlk.new w (.string s1) (.string s2)
  have HB := Lib.hid (below_alloc w (.cells #[.string s1, .string s2] 23))
  have a0 := r.c0
  have a1 := r.c1
  have HR := Lib.hid r
  clear r cv ha hA
  by_cases h : a.den = 1
  · rw [if_pos h]
    rw [decide_eq_true h] at ht
    clear h
    go_enter Tryz.func34, Tryz.ntmps34
    go_wp2_with (first | (go_at_call 30; (with_reducible refine (CV.out _).mono ?_); rintro e W ⟨rfl, B⟩; have hr := (HR.out.keep B HR.out.lt); have hb := HB.out.trans (B.mono HB.out.size); clear HR HB B a0 a1; have HR := Lib.hid hr; have HB := Lib.hid hb; have a0 := hr.c0; have a1 := hr.c1; clear hr hb) | (go_at_call 78; (with_reducible refine (CC.out _).mono ?_); rintro e W ⟨rfl, B⟩; have hr := (HR.out.keep B HR.out.lt); have hb := HB.out.trans (B.mono HB.out.size); clear HR HB B a0 a1; have HR := Lib.hid hr; have HB := Lib.hid hb; have a0 := hr.c0; have a1 := hr.c1; clear hr hb))
    go_ret
    exact ⟨rfl, HB.out⟩
  · rw [if_neg h]
    rw [decide_eq_false h] at ht
    clear h
    have z4 : (s1 ++ ⟨#[47]⟩).size = s1.size + 1 := by rw [ByteArray.size_append]; rfl
    go_enter Tryz.func34, Tryz.ntmps34
    go_wp2_with (go_at_call 30; (with_reducible refine (CV.out _).mono ?_); rintro e W ⟨rfl, B⟩; have hr := (HR.out.keep B HR.out.lt); have hb := HB.out.trans (B.mono HB.out.size); clear HR HB B a0 a1; have HR := Lib.hid hr; have HB := Lib.hid hb; have a0 := hr.c0; have a1 := hr.c1; clear hr hb)
    go_ret
    exact ⟨rfl, HB.out⟩
end Go.Proofs.YtdnbhgkbfbgnaaaGreatDoor


namespace Go.Proofs.YtdnbhgkbfbgnaaaGreatDoor
open Go.RowKit

theorem index_no {L : List UInt8} (h : (47 : UInt8) ∉ L) : Lib.index L [47] = -1 := by
  induction L with
  | nil => rfl
  | cons b l ih =>
    rw [List.mem_cons, not_or] at h
    rw [Lib.index, ih h.2]
    have hb : ([47] : List UInt8).isPrefixOf (b :: l) = false := by
      simp only [List.isPrefixOf, Bool.and_true]
      exact beq_eq_false_iff_ne.2 h.1
    rw [hb]; rfl
theorem index_at {A : List UInt8} (B : List UInt8) (h : (47 : UInt8) ∉ A) : Lib.index (A ++ 47 :: B) [47] = A.length := by
  induction A with
  | nil => simp [Lib.index, List.isPrefixOf]
  | cons b l ih =>
    rw [List.mem_cons, not_or] at h
    rw [List.cons_append, Lib.index, ih h.2]
    have hb : ([47] : List UInt8).isPrefixOf (b :: (l ++ 47 :: B)) = false := by
      simp only [List.isPrefixOf, Bool.and_true]
      exact beq_eq_false_iff_ne.2 h.1
    have hn : ((l.length : Int) == -1) = false := by
      rw [beq_eq_false_iff_ne]; omega
    rw [hb, hn]
    simp
theorem cut_no {L : List UInt8} (h : (47 : UInt8) ∉ L) : Lib.cut L [47] = (L, [], false) := by
  rw [Lib.cut, index_no h]; rfl
theorem cut_at {A : List UInt8} (B : List UInt8) (h : (47 : UInt8) ∉ A) : Lib.cut (A ++ 47 :: B) [47] = (A, B, true) := by
  rw [Lib.cut, index_at B h, if_pos (by omega)]
  simp
theorem split_at (L : List UInt8) (h : (47 : UInt8) ∈ L) : ∃ A B, L = A ++ 47 :: B ∧ (47 : UInt8) ∉ A := by
  induction L with
  | nil => cases h
  | cons b l ih =>
    by_cases hb : b = 47
    · exact ⟨[], l, by rw [hb]; rfl, by simp⟩
    · obtain ⟨A, B, e, hA⟩ := ih ((List.mem_cons.1 h).resolve_left (fun e => hb e.symm))
      exact ⟨b :: A, B, by rw [e]; rfl, by rw [List.mem_cons, not_or]; exact ⟨fun e => hb e.symm, hA⟩⟩
theorem txN_no (n : Nat) : (47 : UInt8) ∉ txN n := by
  induction n using Nat.strongRecOn with
  | ind n ih =>
    rw [← dec_txN, Lib.decDigits]
    have hd : ∀ k, k < 10 → (47 : UInt8) ≠ UInt8.ofNat (48 + k) := fun k hk => by
      intro e
      have := congrArg UInt8.toNat e
      rw [UInt8.toNat_ofNat_of_lt' (by show 48 + k < 256; omega)] at this
      have h47 : (47 : UInt8).toNat = 47 := rfl
      omega
    split
    · rename_i h
      rw [List.mem_singleton]; exact hd n h
    · rename_i h
      rw [dec_txN, List.mem_append, not_or, List.mem_singleton]
      exact ⟨ih _ (by omega), hd _ (by omega)⟩
theorem txt_no (z : Int) : (47 : UInt8) ∉ txt z := by
  rw [txt]; split
  · rw [List.mem_cons, not_or]; exact ⟨by decide, txN_no _⟩
  · exact txN_no _
theorem prt_list (a : Rat) : (prt a).data.toList = if a.den = 1 then txt a.num else txt a.num ++ 47 :: txt (a.den : Int) := by
  rw [prt]; split
  · exact S_list _
  · rw [ByteArray.data_append, ByteArray.data_append, Array.toList_append, Array.toList_append, S_list, S_list]
    simp
theorem prt_size {a : Rat} (h : fitR 200 a) : (prt a).size ≤ 403 := by
  have z1 := S_size2 h.1
  have z2 := S_size2 (den_abs a h)
  have z3 : (⟨#[47]⟩ : ByteArray).size = 1 := rfl
  rw [prt]; split
  · omega
  · rw [ByteArray.size_append, ByteArray.size_append]; omega

theorem toList_inj {a b : ByteArray} (h : a.toList = b.toList) : a = b := by
  rw [ByteArray.toList_eq, ByteArray.toList_eq] at h
  cases a with | mk x =>
  cases b with | mk y =>
  congr 1
  exact Array.toList_inj.1 h

set_option maxRecDepth 100000 in
set_option maxHeartbeats 4000000 in
theorem qParse_walk (s A B sd x y z : ByteArray) (found : Bool) (ev : Int) (w : World) (hT : Tz w) (hs : s.size ≤ 100000)
    (cc : ∀ W, Tz W → Calls Tryz.prog 79 #[.string s, .string ⟨#[47]⟩] W fun e w' => e = .returned (.tuple #[.string A, .string B, .bool found]) ∧ Below W.heap.size W w')
    (hsd : sd = if found then B else ⟨#[49]⟩)
    (cm : ∀ W, Calls Tryz.prog 28 #[.string A, .string sd] W fun e w' => e = .returned (.tuple #[.agg #[.string x, .string y], .int .i64 ev]) ∧ Below W.heap.size W w')
    (cp : ∀ W, Calls Tryz.prog 34 #[.agg #[.string x, .string y]] W fun e w' => e = .returned (.string z) ∧ Below W.heap.size W w') (h : ev = 40 ∨ (ev = 0 ∧ z ≠ s) ∨ (ev = 0 ∧ z = s)) :
    Calls Tryz.prog 35 #[.string s] w fun e w' => e = .returned (if ev = 0 ∧ z = s then .tuple #[.agg #[.string x, .string y], .int .i64 0] else .tuple #[RZ, .int .i64 40]) ∧ Below w.heap.size w w' := by
  have HR := Lib.hid (RBlk.new w (.string ⟨#[]⟩) (.string ⟨#[]⟩))
  have hb := below_alloc w (.cells #[.string ⟨#[]⟩, .string ⟨#[]⟩] 23)
  have HC := Lib.hid (fun W (hW : Tz W) => cc W hW)
  have HT := Lib.hid (hT.below hb)
  have HB := Lib.hid hb
  have HM := Lib.hid cm
  have HP := Lib.hid cp
  clear cc hT hb cm cp
  rcases h with h1 | ⟨h1, h2⟩ | ⟨h1, h2⟩
  · rw [if_neg (by omega)]
    unfold RZ
    subst h1
    cases found
    all_goals
      simp only [Bool.false_eq_true, if_false, if_true] at hsd
      subst hsd
      go_enter Tryz.func35, Tryz.ntmps35
      go_wp2_with (first | (go_at_call 79; (with_reducible refine (HC.out _ HT.out).mono ?_); rintro e W ⟨rfl, B⟩; have hr := (HR.out.keep B HR.out.lt); have hb := HB.out.trans (B.mono HB.out.size); clear HR HB B ; have HR := Lib.hid hr; have HB := Lib.hid hb; clear hr hb) | (go_at_call 28; (with_reducible refine (HM.out _).mono ?_); rintro e WM ⟨rfl, B0⟩; have B := B0.trans ((below_alloc WM (.cells #[.string x, .string y] 23)).mono B0.size); clear B0; have hr := (HR.out.keep B HR.out.lt); have hb := HB.out.trans (B.mono HB.out.size); clear HR HB B ; have HR := Lib.hid hr; have HB := Lib.hid hb; have c0 := hr.c0; have c1 := hr.c1; have f0 := hr.f 0; have f1 := hr.f 1; have hs := hr.s0 (.string ⟨#[]⟩); have d1 := hs.c1; have g1 := hs.f 1; have HS := Lib.hid (hs.s1 (.string ⟨#[]⟩)); have HBS := Lib.hid ((hb.setCell (p := ⟨w.heap.size, 0, none⟩) (by show w.heap.size ≤ w.heap.size; omega) (.string ⟨#[]⟩)).setCell (p := ⟨w.heap.size, 1, none⟩) (by show w.heap.size ≤ w.heap.size; omega) (.string ⟨#[]⟩)); clear hr hb hs))
      refine bodyPost_ret (results_ratio rfl _ _ w.heap.size _ _ rfl HS.out) rfl ?_
      exact ⟨rfl, HBS.out⟩
  · rw [if_neg (fun e => h2 e.2)]
    unfold RZ
    subst h1
    have hne : (z.toList == s.toList) = false := beq_eq_false_iff_ne.2 (fun e => h2 (toList_inj e))
    cases found
    all_goals
      simp only [Bool.false_eq_true, if_false, if_true] at hsd
      subst hsd
      go_enter Tryz.func35, Tryz.ntmps35
      go_wp2_with (first | (go_at_call 79; (with_reducible refine (HC.out _ HT.out).mono ?_); rintro e W ⟨rfl, B⟩; have hr := (HR.out.keep B HR.out.lt); have hb := HB.out.trans (B.mono HB.out.size); clear HR HB B ; have HR := Lib.hid hr; have HB := Lib.hid hb; clear hr hb) | (go_at_call 28; (with_reducible refine (HM.out _).mono ?_); rintro e WM ⟨rfl, B0⟩; have hq := RBlk.new WM (.string x) (.string y); have q0 := hq.c0; have q1 := hq.c1; have HQ := Lib.hid hq; have B := B0.trans ((below_alloc WM (.cells #[.string x, .string y] 23)).mono B0.size); clear B0 hq; have hr := (HR.out.keep B HR.out.lt); have hb := HB.out.trans (B.mono HB.out.size); clear HR HB B ; have HR := Lib.hid hr; have HB := Lib.hid hb; clear hr hb) | (go_at_call 34; (with_reducible refine (HP.out _).mono ?_); rintro e WP ⟨rfl, B⟩; have hr := (HR.out.keep B HR.out.lt); have hb := HB.out.trans (B.mono HB.out.size); clear HR HB B ; have HR := Lib.hid hr; have HB := Lib.hid hb; have c0 := hr.c0; have c1 := hr.c1; have f0 := hr.f 0; have f1 := hr.f 1; have hs := hr.s0 (.string ⟨#[]⟩); have d1 := hs.c1; have g1 := hs.f 1; have HS := Lib.hid (hs.s1 (.string ⟨#[]⟩)); have HBS := Lib.hid ((hb.setCell (p := ⟨w.heap.size, 0, none⟩) (by show w.heap.size ≤ w.heap.size; omega) (.string ⟨#[]⟩)).setCell (p := ⟨w.heap.size, 1, none⟩) (by show w.heap.size ≤ w.heap.size; omega) (.string ⟨#[]⟩)); clear hr hb hs))
      refine bodyPost_ret (results_ratio rfl _ _ w.heap.size _ _ rfl HS.out) rfl ?_
      exact ⟨rfl, HBS.out⟩
  · rw [if_pos ⟨h1, h2⟩]
    subst h1 h2
    cases found
    all_goals
      simp only [Bool.false_eq_true, if_false, if_true] at hsd
      subst hsd
      go_enter Tryz.func35, Tryz.ntmps35
      go_wp2_with (first | (go_at_call 79; (with_reducible refine (HC.out _ HT.out).mono ?_); rintro e W ⟨rfl, B⟩; have hr := (HR.out.keep B HR.out.lt); have hb := HB.out.trans (B.mono HB.out.size); clear HR HB B ; have HR := Lib.hid hr; have HB := Lib.hid hb; clear hr hb) | (go_at_call 28; (with_reducible refine (HM.out _).mono ?_); rintro e WM ⟨rfl, B0⟩; have hq := RBlk.new WM (.string x) (.string y); have q0 := hq.c0; have q1 := hq.c1; have HQ := Lib.hid hq; have B := B0.trans ((below_alloc WM (.cells #[.string x, .string y] 23)).mono B0.size); clear B0 hq; have hr := (HR.out.keep B HR.out.lt); have hb := HB.out.trans (B.mono HB.out.size); clear HR HB B ; have HR := Lib.hid hr; have HB := Lib.hid hb; clear hr hb) | (go_at_call 34; (with_reducible refine (HP.out _).mono ?_); rintro e WP ⟨rfl, B⟩; have hq := HQ.out.keep B HQ.out.lt; clear q0 q1; have q0 := hq.c0; have q1 := hq.c1; clear hq; have hr := (HR.out.keep B HR.out.lt); have hb := HB.out.trans (B.mono HB.out.size); clear HR HB B ; have HR := Lib.hid hr; have HB := Lib.hid hb; have c0 := hr.c0; have c1 := hr.c1; have f0 := hr.f 0; have f1 := hr.f 1; have hs := hr.s0 (.string x); have d1 := hs.c1; have g1 := hs.f 1; have HS := Lib.hid (hs.s1 (.string y)); have HBS := Lib.hid ((hb.setCell (p := ⟨w.heap.size, 0, none⟩) (by show w.heap.size ≤ w.heap.size; omega) (.string x)).setCell (p := ⟨w.heap.size, 1, none⟩) (by show w.heap.size ≤ w.heap.size; omega) (.string y)); clear hr hb hs))
      refine bodyPost_ret (results_ratio rfl _ _ w.heap.size _ _ rfl HS.out) rfl ?_
      exact ⟨rfl, HBS.out⟩

theorem prt_ne {a : Rat} (ha : fitR 200 a) : prt a ≠ ⟨#[]⟩ := by
  intro h
  have := congrArg (fun x : ByteArray => x.data.toList) h
  simp only [prt_list] at this
  have h1 := txt_vld ha.1
  split at this
  · rw [this] at h1; exact absurd h1 (by decide)
  · simp at this
/-- what is no fraction's text is refused -/
theorem qParse_no (s : ByteArray) (w : World) (hT : Tz w) (hs : s.size ≤ 50000) (h : ∀ a, fitR 200 a → prt a ≠ s) :
    Calls Tryz.prog 35 #[.string s] w fun e w' => e = .returned (.tuple #[RZ, .int .i64 40]) ∧ Below w.heap.size w w' := by
  have hsl : s.data.toList.length ≤ 50000 := hs
  have cc := fun W (hW : Tz W) => cut_s s ⟨#[47]⟩ W (by omega) hW
  have hcut : ∃ A B found, Lib.cut s.data.toList [47] = (A, B, found) ∧ A.length ≤ 50000 ∧ B.length ≤ 50000 := by
    by_cases hm : (47 : UInt8) ∈ s.data.toList
    · obtain ⟨A, B, e, hA⟩ := split_at _ hm
      refine ⟨A, B, true, by rw [e, cut_at B hA], ?_, ?_⟩ <;> (rw [e, List.length_append, List.length_cons] at hsl; omega)
    · exact ⟨_, [], false, cut_no hm, hsl, by decide⟩
  obtain ⟨A, B, found, e, hA, hB⟩ := hcut
  change ∀ W, Tz W → Calls _ _ _ W (fun e w' => e = .returned (.tuple #[.string ⟨(Lib.cut s.data.toList [47]).1.toArray⟩, .string ⟨(Lib.cut s.data.toList [47]).2.1.toArray⟩, .bool (Lib.cut s.data.toList [47]).2.2]) ∧ _) at cc
  rw [e] at cc
  obtain ⟨D, hD, hDl⟩ : ∃ D : List UInt8, (⟨D.toArray⟩ : ByteArray) = (if found then (⟨B.toArray⟩ : ByteArray) else ⟨#[49]⟩) ∧ D.length ≤ 50000 := by
    cases found
    · exact ⟨[49], rfl, by decide⟩
    · exact ⟨B, rfl, hB⟩
  have hAl : (⟨A.toArray⟩ : ByteArray).data.toList = A := by simp
  have hDl2 : (⟨D.toArray⟩ : ByteArray).data.toList = D := by simp
  by_cases hm : (vld A && vld D) = true ∧ num D ≠ 0
  · have hb := (Bool.and_eq_true _ _).mp hm.1
    have k1 := (vld_txt hb.1).2
    have k2 := (vld_txt hb.2).2
    have eA : (⟨A.toArray⟩ : ByteArray) = S (num A) := S_of hAl (txt_lit hb.1).symm
    have eD : (⟨D.toArray⟩ : ByteArray) = S (num D) := S_of hDl2 (txt_lit hb.2).symm
    have hq : fitR 200 (Rat.divInt (num A) (num D)) := by
      rw [← sg_R]
      exact mk_fit (by unfold sg; split <;> omega) (by unfold sg; split <;> omega) (by have := sg_pos hm.2; omega)
    have h2 := qParse_walk s ⟨A.toArray⟩ ⟨B.toArray⟩ ⟨D.toArray⟩ _ _ _ found 0 w hT (by omega) cc hD (fun W => by rw [eA, eD]; exact qMake_R _ _ W k1 k2 hm.2) (fun W => qPrint_R _ hq W) (.inr (.inl ⟨rfl, h _ hq⟩))
    rw [if_neg (fun e => h _ hq e.2)] at h2
    exact h2
  · have h2 := qParse_walk s ⟨A.toArray⟩ ⟨B.toArray⟩ ⟨D.toArray⟩ ⟨#[]⟩ ⟨#[]⟩ ⟨#[]⟩ found 40 w hT (by omega) cc hD (fun W => qMake_no _ _ A D W hAl hDl2 (by omega) (by omega) (fun hv => Classical.byContradiction fun h0 => hm ⟨hv, h0⟩)) (fun W => qPrint_no ⟨#[]⟩ ⟨#[]⟩ [] [] W rfl rfl (by decide) (by decide) (by decide)) (.inl rfl)
    rw [if_neg (fun e => absurd e.1 (by decide))] at h2
    exact h2
theorem mk_self (a : Rat) : Rat.divInt a.num a.den = a := Rat.num_divInt_den a
/-- a fraction's text is read -/
theorem qParse_R (a : Rat) (ha : fitR 200 a) (w : World) (hT : Tz w) :
    Calls Tryz.prog 35 #[.string (prt a)] w fun e w' => e = .returned (.tuple #[RV a, .int .i64 0]) ∧ Below w.heap.size w w' := by
  have hA := den_abs a ha
  have hsz := prt_size ha
  have cc := fun W (hW : Tz W) => cut_s (prt a) ⟨#[47]⟩ W (by omega) hW
  change ∀ W, Tz W → Calls _ _ _ W (fun e w' => e = .returned (.tuple #[.string ⟨(Lib.cut (prt a).data.toList [47]).1.toArray⟩, .string ⟨(Lib.cut (prt a).data.toList [47]).2.1.toArray⟩, .bool (Lib.cut (prt a).data.toList [47]).2.2]) ∧ _) at cc
  rw [prt_list] at cc
  by_cases h1 : a.den = 1
  · rw [if_pos h1, cut_no (txt_no _)] at cc
    have h2 := qParse_walk (prt a) (S a.num) ⟨#[]⟩ (S 1) _ _ _ false 0 w hT (by omega) cc (by rw [S_one]; rfl) (fun W => qMake_R a.num 1 W ha.1 (by decide) (by decide)) (fun W => by
      have e : Rat.divInt a.num 1 = a := by have := mk_self a; rwa [h1] at this
      rw [e]; exact qPrint_R a ha W) (.inr (.inr ⟨rfl, rfl⟩))
    rw [if_pos ⟨rfl, rfl⟩] at h2
    have e : Rat.divInt a.num 1 = a := by have := mk_self a; rwa [h1] at this
    rw [e] at h2
    exact h2
  · rw [if_neg h1, cut_at _ (txt_no _)] at cc
    have h2 := qParse_walk (prt a) (S a.num) (S (a.den : Int)) (S (a.den : Int)) _ _ _ true 0 w hT (by omega) cc rfl (fun W => qMake_R a.num a.den W ha.1 hA (by have := den_pos a; omega)) (fun W => by
      rw [mk_self a]; exact qPrint_R a ha W) (.inr (.inr ⟨rfl, rfl⟩))
    rw [if_pos ⟨rfl, rfl⟩, mk_self a] at h2
    exact h2
end Go.Proofs.YtdnbhgkbfbgnaaaGreatDoor


namespace Go.Proofs.YtdnbhgkbfbgnaaaGreatDoor
open Go.RowKit

theorem results_ratio1 {fn : Func} {p : Tmp} (h : fn.results = #[.cell p 23]) (tmps : Array Value) (w : World) (g : Nat) (x y : Value)
    (hp : tmps.getD p undef = .pointer (some ⟨g, 0, none⟩)) (hg : RBlk w g x y) :
    (results fn tmps).run Tryz.prog w = .ok (.agg #[x, y]) w := by
  have hp' : tmps[p]?.getD undef = .pointer (some ⟨g, 0, none⟩) := by simpa using hp
  simp [results, h, hp', asAddr, ratio_yields hg]
theorem join_two {T : Prop} (F G : Nat → World → Prop) (m : (∀ g W, F g W → G g W) → T) (r : ∀ g W, F g W → G g W) : T := m r
set_option maxRecDepth 100000 in
theorem is_any (s1 s2 : ByteArray) (w : World) :
    Calls Tryz.prog 54 #[.string s1, .string s2] w fun e w' => e = .returned (.agg #[.string s1, .string s2]) ∧ Below w.heap.size w w' := by
  have HS := Lib.hid (RBlk.new w (.string s1) (.string s2))
  have HB := Lib.hid (below_alloc w (.cells #[.string s1, .string s2] 23))
  go_enter Tryz.func54, Tryz.ntmps54
  go_wp2_with fail
  refine bodyPost_ret (results_ratio1 rfl _ _ w.heap.size _ _ rfl HS.out) rfl ?_
  exact ⟨rfl, HB.out⟩

end Go.Proofs.YtdnbhgkbfbgnaaaGreatDoor


namespace Go.Proofs.YtdnbhgkbfbgnaaaGreatDoor
open Go.RowKit

theorem qCompare_R (a b : Rat) (ha : fitR 200 a) (hb : fitR 200 b) (w : World) :
    Calls Tryz.prog 21 #[RV a, RV b] w fun e w' => e = .returned (.int .i64 (cmpR a b)) ∧ Below w.heap.size w w' :=
  qCompare_S a.num a.den b.num b.den (cmpR a b) w (vR_q a ha) (vR_q b hb) (den_pos a) (den_pos b) ha.1 (den_abs a ha) hb.1 (den_abs b hb) (cmpR_N a b)
theorem qValid_R (a : Rat) (ha : fitR 200 a) (w : World) : Calls Tryz.prog 30 #[RV a] w fun e w' => e = .returned (.bool true) ∧ Below w.heap.size w w' := by
  have h := qValid_any (S a.num) (S (a.den : Int)) (txt a.num) (txt (a.den : Int)) w (S_list _) (S_list _) (S_len ha.1) (S_len (den_abs a ha))
  rw [vR_q a ha] at h
  exact h
theorem RV_of (q : Rat) (L1 L2 : List UInt8) (h1 : vld L1 = true) (h2 : vld L2 = true) (hn : q.num = num L1) (hd : (q.den : Int) = num L2) : RV q = .agg #[.string ⟨L1.toArray⟩, .string ⟨L2.toArray⟩] := by
  rw [RV, hn, hd, S_lit h1, S_lit h2]
theorem rv_m3_2 : RV (mkRat (-3) 2) = .agg #[.string ⟨#[45, 51]⟩, .string ⟨#[50]⟩] := RV_of _ [45, 51] [50] (by decide) (by decide) (by decide +kernel) (by decide +kernel)
theorem rv_0_1 : RV (mkRat (0) 1) = .agg #[.string ⟨#[48]⟩, .string ⟨#[49]⟩] := RV_of _ [48] [49] (by decide) (by decide) (by decide +kernel) (by decide +kernel)
theorem rv_1_2 : RV (mkRat (1) 2) = .agg #[.string ⟨#[49]⟩, .string ⟨#[50]⟩] := RV_of _ [49] [50] (by decide) (by decide) (by decide +kernel) (by decide +kernel)
theorem rv_1_3 : RV (mkRat (1) 3) = .agg #[.string ⟨#[49]⟩, .string ⟨#[51]⟩] := RV_of _ [49] [51] (by decide) (by decide) (by decide +kernel) (by decide +kernel)
theorem rv_5_6 : RV (mkRat (5) 6) = .agg #[.string ⟨#[53]⟩, .string ⟨#[54]⟩] := RV_of _ [53] [54] (by decide) (by decide) (by decide +kernel) (by decide +kernel)
theorem rv_m1_4 : RV (mkRat (-1) 4) = .agg #[.string ⟨#[45, 49]⟩, .string ⟨#[52]⟩] := RV_of _ [45, 49] [52] (by decide) (by decide) (by decide +kernel) (by decide +kernel)
theorem rv_m2_1 : RV (mkRat (-2) 1) = .agg #[.string ⟨#[45, 50]⟩, .string ⟨#[49]⟩] := RV_of _ [45, 50] [49] (by decide) (by decide) (by decide +kernel) (by decide +kernel)
theorem rv_1_1 : RV (mkRat (1) 1) = .agg #[.string ⟨#[49]⟩, .string ⟨#[49]⟩] := RV_of _ [49] [49] (by decide) (by decide) (by decide +kernel) (by decide +kernel)
theorem rv_m1_3 : RV (mkRat (-1) 3) = .agg #[.string ⟨#[45, 49]⟩, .string ⟨#[51]⟩] := RV_of _ [45, 49] [51] (by decide) (by decide) (by decide +kernel) (by decide +kernel)
theorem rv_m17_50 : RV (mkRat (-17) 50) = .agg #[.string ⟨#[45, 49, 55]⟩, .string ⟨#[53, 48]⟩] := RV_of _ [45, 49, 55] [53, 48] (by decide) (by decide) (by decide +kernel) (by decide +kernel)
theorem rv_17_50 : RV (mkRat (17) 50) = .agg #[.string ⟨#[49, 55]⟩, .string ⟨#[53, 48]⟩] := RV_of _ [49, 55] [53, 48] (by decide) (by decide) (by decide +kernel) (by decide +kernel)
theorem rv_33333_100000 : RV (mkRat (33333) 100000) = .agg #[.string ⟨#[51, 51, 51, 51, 51]⟩, .string ⟨#[49, 48, 48, 48, 48, 48]⟩] := RV_of _ [51, 51, 51, 51, 51] [49, 48, 48, 48, 48, 48] (by decide) (by decide) (by decide +kernel) (by decide +kernel)
theorem s_of1 (W : World) (hT : Tz W) : Calls Tryz.prog 32 #[.int .i64 (6), .int .i64 (-4)] W fun e w' => e = .returned (.tuple #[.agg #[.string ⟨#[45, 51]⟩, .string ⟨#[50]⟩], .int .i64 0]) ∧ Below W.heap.size W w' := by
  have h := qOf_R (6) (-4) W (by decide) (by decide) hT (by decide)
  rw [show Rat.divInt (6) (-4) = mkRat (-3) 2 by decide +kernel, rv_m3_2] at h
  exact h

theorem s_of2 (W : World) (hT : Tz W) : Calls Tryz.prog 32 #[.int .i64 (0), .int .i64 (-5)] W fun e w' => e = .returned (.tuple #[.agg #[.string ⟨#[48]⟩, .string ⟨#[49]⟩], .int .i64 0]) ∧ Below W.heap.size W w' := by
  have h := qOf_R (0) (-5) W (by decide) (by decide) hT (by decide)
  rw [show Rat.divInt (0) (-5) = mkRat (0) 1 by decide +kernel, rv_0_1] at h
  exact h

theorem s_of3 (W : World) (hT : Tz W) : Calls Tryz.prog 32 #[.int .i64 1, .int .i64 0] W fun e w' => e = .returned (.tuple #[.agg #[.string ⟨#[]⟩, .string ⟨#[]⟩], .int .i64 40]) ∧ Below W.heap.size W w' := by
  exact qOf_Z 1 W (by decide) hT

theorem s_add (W : World) : Calls Tryz.prog 38 #[.agg #[.string ⟨#[49]⟩, .string ⟨#[50]⟩], .agg #[.string ⟨#[49]⟩, .string ⟨#[51]⟩]] W fun e w' => e = .returned (.tuple #[.agg #[.string ⟨#[53]⟩, .string ⟨#[54]⟩], .int .i64 0]) ∧ Below W.heap.size W w' := by
  have h := qAdd_R (mkRat (1) 2) (mkRat (1) 3) ⟨by decide +kernel, by decide +kernel⟩ ⟨by decide +kernel, by decide +kernel⟩ W
  rw [show okA (mkRat (1) 2) (mkRat (1) 3) = true by decide +kernel, opQ, if_pos rfl, show mkRat (1) 2 + mkRat (1) 3 = mkRat (5) 6 by decide +kernel, rv_1_2, rv_1_3, rv_5_6] at h
  exact h

theorem s_div (W : World) : Calls Tryz.prog 47 #[.agg #[.string ⟨#[49]⟩, .string ⟨#[50]⟩], .agg #[.string ⟨#[45, 49]⟩, .string ⟨#[52]⟩]] W fun e w' => e = .returned (.tuple #[.agg #[.string ⟨#[45, 50]⟩, .string ⟨#[49]⟩], .int .i64 0]) ∧ Below W.heap.size W w' := by
  have h := qDiv_R (mkRat (1) 2) (mkRat (-1) 4) ⟨by decide +kernel, by decide +kernel⟩ ⟨by decide +kernel, by decide +kernel⟩ W
  rw [show okD (mkRat (1) 2) (mkRat (-1) 4) = true by decide +kernel, opQ, if_pos rfl, show mkRat (1) 2 / mkRat (-1) 4 = mkRat (-2) 1 by decide +kernel, rv_1_2, rv_m1_4, rv_m2_1] at h
  exact h

theorem s_div0 (W : World) : Calls Tryz.prog 47 #[.agg #[.string ⟨#[49]⟩, .string ⟨#[49]⟩], .agg #[.string ⟨#[48]⟩, .string ⟨#[49]⟩]] W fun e w' => e = .returned (.tuple #[.agg #[.string ⟨#[]⟩, .string ⟨#[]⟩], .int .i64 40]) ∧ Below W.heap.size W w' := by
  have h := qDiv_R (mkRat (1) 1) (mkRat (0) 1) ⟨by decide +kernel, by decide +kernel⟩ ⟨by decide +kernel, by decide +kernel⟩ W
  rw [show okD (mkRat (1) 1) (mkRat (0) 1) = false by decide +kernel, opQ, if_neg (by decide), rv_1_1, rv_0_1] at h
  exact h

theorem s_down (W : World) : Calls Tryz.prog 24 #[.agg #[.string ⟨#[45, 49]⟩, .string ⟨#[51]⟩], .int .i64 2] W fun e w' => e = .returned (.tuple #[.agg #[.string ⟨#[45, 49, 55]⟩, .string ⟨#[53, 48]⟩], .int .i64 0]) ∧ Below W.heap.size W w' := by
  have h := qDown_R (mkRat (-1) 3) ⟨by decide +kernel, by decide +kernel⟩ 2 W
  rw [show okP (mkRat (-1) 3) 2 = true by decide +kernel, opQ, if_pos rfl, show mkRat (dnN (mkRat (-1) 3) (10 ^ (2 : Int).toNat)) (10 ^ (2 : Int).toNat) = mkRat (-17) 50 by decide +kernel, rv_m1_3, rv_m17_50] at h
  exact h

theorem s_up (W : World) : Calls Tryz.prog 26 #[.agg #[.string ⟨#[49]⟩, .string ⟨#[51]⟩], .int .i64 2] W fun e w' => e = .returned (.tuple #[.agg #[.string ⟨#[49, 55]⟩, .string ⟨#[53, 48]⟩], .int .i64 0]) ∧ Below W.heap.size W w' := by
  have h := qUp_R (mkRat (1) 3) ⟨by decide +kernel, by decide +kernel⟩ 2 W
  rw [show okP (mkRat (1) 3) 2 = true by decide +kernel, opQ, if_pos rfl, show mkRat (upN (mkRat (1) 3) (10 ^ (2 : Int).toNat)) (10 ^ (2 : Int).toNat) = mkRat (17) 50 by decide +kernel, rv_1_3, rv_17_50] at h
  exact h

theorem s_prt : prt (mkRat (-3) 2) = ⟨#[45, 51, 47, 50]⟩ := by
  rw [prt, if_neg (by decide +kernel), show (mkRat (-3) 2).num = num [45, 51] by decide +kernel, show ((mkRat (-3) 2).den : Int) = num [50] by decide +kernel, S_lit (by decide), S_lit (by decide)]
  decide

theorem s_print (W : World) : Calls Tryz.prog 34 #[.agg #[.string ⟨#[45, 51]⟩, .string ⟨#[50]⟩]] W fun e w' => e = .returned (.string ⟨#[45, 51, 47, 50]⟩) ∧ Below W.heap.size W w' := by
  have h := qPrint_R (mkRat (-3) 2) ⟨by decide +kernel, by decide +kernel⟩ W
  rw [s_prt, rv_m3_2] at h
  exact h

theorem s_parse (W : World) (hT : Tz W) : Calls Tryz.prog 35 #[.string ⟨#[45, 51, 47, 50]⟩] W fun e w' => e = .returned (.tuple #[.agg #[.string ⟨#[45, 51]⟩, .string ⟨#[50]⟩], .int .i64 0]) ∧ Below W.heap.size W w' := by
  have h := qParse_R (mkRat (-3) 2) ⟨by decide +kernel, by decide +kernel⟩ W hT
  rw [s_prt, rv_m3_2] at h
  exact h

theorem s_parse64 (W : World) (hT : Tz W) : Calls Tryz.prog 35 #[.string ⟨#[54, 47, 52]⟩] W fun e w' => e = .returned (.tuple #[.agg #[.string ⟨#[]⟩, .string ⟨#[]⟩], .int .i64 40]) ∧ Below W.heap.size W w' := by
  refine qParse_no ⟨#[54, 47, 52]⟩ W hT (by decide) (fun a ha he => ?_)
  have h := congrArg (fun x : ByteArray => x.data.toList) he
  simp only [prt_list] at h
  split at h
  · exact absurd (h ▸ txt_no a.num) (by decide)
  · have e : txt a.num ++ 47 :: txt (a.den : Int) = [54] ++ 47 :: [52] := h
    have h1 := cut_at (txt (a.den : Int)) (txt_no a.num)
    rw [e, cut_at [52] (by decide)] at h1
    simp only [Prod.mk.injEq] at h1
    have n1 : a.num = 6 := by rw [← txt_num a.num, ← h1.1]; decide
    have n2 : (a.den : Int) = 4 := by rw [← txt_num (a.den : Int), ← h1.2.1]; decide
    have hr := a.reduced
    rw [n1, show a.den = 4 by omega] at hr
    exact absurd hr (by decide)

theorem s_cmp (W : World) : Calls Tryz.prog 21 #[.agg #[.string ⟨#[49]⟩, .string ⟨#[51]⟩], .agg #[.string ⟨#[51, 51, 51, 51, 51]⟩, .string ⟨#[49, 48, 48, 48, 48, 48]⟩]] W fun e w' => e = .returned (.int .i64 1) ∧ Below W.heap.size W w' := by
  have h := qCompare_R (mkRat 1 3) (mkRat 33333 100000) ⟨by decide +kernel, by decide +kernel⟩ ⟨by decide +kernel, by decide +kernel⟩ W
  rw [show cmpR (mkRat 1 3) (mkRat 33333 100000) = 1 by decide +kernel, rv_1_3, rv_33333_100000] at h
  exact h

theorem s_valid (W : World) : Calls Tryz.prog 30 #[.agg #[.string ⟨#[45, 51]⟩, .string ⟨#[50]⟩]] W fun e w' => e = .returned (.bool true) ∧ Below W.heap.size W w' := by
  have h := qValid_R (mkRat (-3) 2) ⟨by decide +kernel, by decide +kernel⟩ W
  rw [rv_m3_2] at h
  exact h

theorem s_valid0 (W : World) : Calls Tryz.prog 30 #[.agg #[.string ⟨#[]⟩, .string ⟨#[]⟩]] W fun e w' => e = .returned (.bool false) ∧ Below W.heap.size W w' := by
  exact qValid_any ⟨#[]⟩ ⟨#[]⟩ [] [] W rfl rfl (by decide) (by decide)

set_option maxRecDepth 100000 in
set_option maxHeartbeats 8000000 in
theorem sane4_any (w : World) (hT : Tz w) : Calls Tryz.prog 12 #[] w fun e w' => e = .returned (.bool true) ∧ Below w.heap.size w w' := by
  have HB := Lib.hid (Below.refl w.heap.size w)
  have HT := Lib.hid hT
  clear hT
  go_enter Tryz.func12, Tryz.ntmps12
  (try go_wp2_with fail)
  go_at_call 32
  refine (s_of1 _ (HT.out.below HB.out)).mono ?_
  rintro e W1 ⟨rfl, B⟩
  have HBn := Lib.hid ((HB.out.trans (B.mono HB.out.size)).alloc (HB.out.trans (B.mono HB.out.size)).size (.cells #[(.string ⟨#[45, 51]⟩), (.string ⟨#[50]⟩)] 23))
  clear HB
  have HB := HBn
  clear HBn
  have A := Lib.hid (RBlk.new W1 (.string ⟨#[45, 51]⟩) (.string ⟨#[50]⟩))
  clear B
  (try go_wp2_with fail)
  go_at_call 32
  refine (s_of2 _ (HT.out.below HB.out)).mono ?_
  rintro e W2 ⟨rfl, B⟩
  have An := Lib.hid ((A.out.keep B A.out.lt).alloc (.cells #[(.string ⟨#[48]⟩), (.string ⟨#[49]⟩)] 23))
  have HBn := Lib.hid ((HB.out.trans (B.mono HB.out.size)).alloc (HB.out.trans (B.mono HB.out.size)).size (.cells #[(.string ⟨#[48]⟩), (.string ⟨#[49]⟩)] 23))
  clear A HB
  have A := An
  have HB := HBn
  clear An HBn
  have Bb := Lib.hid (RBlk.new W2 (.string ⟨#[48]⟩) (.string ⟨#[49]⟩))
  clear B
  (try go_wp2_with fail)
  go_at_call 32
  refine (s_of3 _ (HT.out.below HB.out)).mono ?_
  rintro e W3 ⟨rfl, B⟩
  have An := Lib.hid ((A.out.keep B A.out.lt).alloc (.cells #[.string ⟨#[]⟩, .string ⟨#[]⟩] 23))
  have Bbn := Lib.hid ((Bb.out.keep B Bb.out.lt).alloc (.cells #[.string ⟨#[]⟩, .string ⟨#[]⟩] 23))
  have HBn := Lib.hid ((HB.out.trans (B.mono HB.out.size)).alloc (HB.out.trans (B.mono HB.out.size)).size (.cells #[.string ⟨#[]⟩, .string ⟨#[]⟩] 23))
  clear A Bb HB
  have A := An
  have Bb := Bbn
  have HB := HBn
  clear An Bbn HBn
  clear B
  (try go_wp2_with fail)
  go_at_call 54
  refine (is_any _ _ _).mono ?_
  rintro e W4 ⟨rfl, B⟩
  have An := Lib.hid ((A.out.keep B A.out.lt))
  have Bbn := Lib.hid ((Bb.out.keep B Bb.out.lt))
  have HBn := Lib.hid (HB.out.trans (B.mono HB.out.size))
  clear A Bb HB
  have A := An
  have Bb := Bbn
  have HB := HBn
  clear An Bbn HBn
  clear B
  (try go_wp2_with fail)
  go_at_call 54
  refine (is_any _ _ _).mono ?_
  rintro e W5 ⟨rfl, B⟩
  have An := Lib.hid ((A.out.keep B A.out.lt))
  have Bbn := Lib.hid ((Bb.out.keep B Bb.out.lt))
  have HBn := Lib.hid (HB.out.trans (B.mono HB.out.size))
  clear A Bb HB
  have A := An
  have Bb := Bbn
  have HB := HBn
  clear An Bbn HBn
  clear B
  (try go_wp2_with fail)
  go_at_call 38
  refine (s_add _).mono ?_
  rintro e W6 ⟨rfl, B⟩
  have An := Lib.hid ((A.out.keep B A.out.lt).alloc (.cells #[(.string ⟨#[53]⟩), (.string ⟨#[54]⟩)] 23))
  have Bbn := Lib.hid ((Bb.out.keep B Bb.out.lt).alloc (.cells #[(.string ⟨#[53]⟩), (.string ⟨#[54]⟩)] 23))
  have HBn := Lib.hid ((HB.out.trans (B.mono HB.out.size)).alloc (HB.out.trans (B.mono HB.out.size)).size (.cells #[(.string ⟨#[53]⟩), (.string ⟨#[54]⟩)] 23))
  clear A Bb HB
  have A := An
  have Bb := Bbn
  have HB := HBn
  clear An Bbn HBn
  have C := Lib.hid (RBlk.new W6 (.string ⟨#[53]⟩) (.string ⟨#[54]⟩))
  clear B
  (try go_wp2_with fail)
  go_at_call 54
  refine (is_any _ _ _).mono ?_
  rintro e W7 ⟨rfl, B⟩
  have An := Lib.hid ((A.out.keep B A.out.lt))
  have Bbn := Lib.hid ((Bb.out.keep B Bb.out.lt))
  have Cn := Lib.hid ((C.out.keep B C.out.lt))
  have HBn := Lib.hid (HB.out.trans (B.mono HB.out.size))
  clear A Bb C HB
  have A := An
  have Bb := Bbn
  have C := Cn
  have HB := HBn
  clear An Bbn Cn HBn
  clear B
  (try go_wp2_with fail)
  go_at_call 54
  refine (is_any _ _ _).mono ?_
  rintro e W8 ⟨rfl, B⟩
  have An := Lib.hid ((A.out.keep B A.out.lt))
  have Bbn := Lib.hid ((Bb.out.keep B Bb.out.lt))
  have Cn := Lib.hid ((C.out.keep B C.out.lt))
  have HBn := Lib.hid (HB.out.trans (B.mono HB.out.size))
  clear A Bb C HB
  have A := An
  have Bb := Bbn
  have C := Cn
  have HB := HBn
  clear An Bbn Cn HBn
  clear B
  (try go_wp2_with fail)
  go_at_call 47
  refine (s_div _).mono ?_
  rintro e W9 ⟨rfl, B⟩
  have An := Lib.hid ((A.out.keep B A.out.lt).alloc (.cells #[(.string ⟨#[45, 50]⟩), (.string ⟨#[49]⟩)] 23))
  have Bbn := Lib.hid ((Bb.out.keep B Bb.out.lt).alloc (.cells #[(.string ⟨#[45, 50]⟩), (.string ⟨#[49]⟩)] 23))
  have Cn := Lib.hid ((C.out.keep B C.out.lt).alloc (.cells #[(.string ⟨#[45, 50]⟩), (.string ⟨#[49]⟩)] 23))
  have HBn := Lib.hid ((HB.out.trans (B.mono HB.out.size)).alloc (HB.out.trans (B.mono HB.out.size)).size (.cells #[(.string ⟨#[45, 50]⟩), (.string ⟨#[49]⟩)] 23))
  clear A Bb C HB
  have A := An
  have Bb := Bbn
  have C := Cn
  have HB := HBn
  clear An Bbn Cn HBn
  have D := Lib.hid (RBlk.new W9 (.string ⟨#[45, 50]⟩) (.string ⟨#[49]⟩))
  clear B
  go_upto_region 6 with fail
  generalize hW06 : (W9.alloc (.cells #[(.string ⟨#[45, 50]⟩), (.string ⟨#[49]⟩)] 23)) = W06 at *
  clear hW06
  apply join_two (fun gJ WJ => Hid (RBlk WJ (W1.heap.size) (.string ⟨#[45, 51]⟩) (.string ⟨#[50]⟩) ∧ RBlk WJ (W2.heap.size) (.string ⟨#[48]⟩) (.string ⟨#[49]⟩) ∧ RBlk WJ (W6.heap.size) (.string ⟨#[53]⟩) (.string ⟨#[54]⟩) ∧ RBlk WJ (W9.heap.size) (.string ⟨#[45, 50]⟩) (.string ⟨#[49]⟩) ∧ RBlk WJ gJ (.string ⟨#[]⟩) (.string ⟨#[]⟩) ∧ Below w.heap.size w WJ))
  case m =>
    intro HJ
    refine wp_region_noPanic ?_
    refine wp_region_held_drew (S := fun W => RBlk W (W2.heap.size) (.string ⟨#[48]⟩) (.string ⟨#[49]⟩)) (by kernel_rfl) ?_ (fun hHeld => ?_)
    · exact Bb.out
    have A := Lib.hid A.out.drew
    have Bb := Lib.hid Bb.out.drew
    have C := Lib.hid C.out.drew
    have D := Lib.hid D.out.drew
    have HB := Lib.hid HB.out.drew
    refine wpAnyH_take (i := 1) (oi := ({ dst := some 48, op := Go.Op.load 23 (Go.Operand.tmp 3), type := 23, pos := "law.go:40", after := #[], guard := none } : Oper)) (v := ?v1_1_6_1) rfl (by kernel_rfl) (by kernel_rfl) (by kernel_rfl) (fun _ _ _ h => h) (Or.inl ⟨by rfl, ?hy1_1_6_1⟩) (by assumption) ?re1_1_6_1
    case hy1_1_6_1 => ((intro w hSw; have e00 := hSw.c0; have e01 := hSw.c1; go_simp) <;> with_reducible rfl)
    (try simp only [Act.put, List.setIfInBounds_toArray, List.set_cons_zero, List.set_cons_succ])
    refine wpAnyH_ready (rs := [0, 6]) (by kernel_rfl) (by simp) ?_
    refine AllReadyH.cons (o := ({ dst := some 47, op := Go.Op.call { callee := Go.Callee.value (Go.Operand.func 54), args := #[Go.Operand.const (Go.Value.string { data := #[49] }), Go.Operand.const (Go.Value.string { data := #[49] })], argTypes := #[9, 9] }, type := 23, pos := "law.go:40", after := #[], guard := none } : Oper)) rfl (fun K hK => ?_) ?_
    · go_simp
      go_at_call 54
      refine (is_any _ _ _).mono ?_
      rintro e W6_1 ⟨rfl, B⟩
      have A := Lib.hid (A.out.keep B A.out.lt)
      have Bb := Lib.hid (Bb.out.keep B Bb.out.lt)
      have C := Lib.hid (C.out.keep B C.out.lt)
      have D := Lib.hid (D.out.keep B D.out.lt)
      have HB := Lib.hid (HB.out.trans (B.mono HB.out.size))
      (try go_wp2_with fail)
      refine hK.out _ _ ?_ (fun hHeld => ?_)
      · exact hHeld.keep B hHeld.lt
      clear hK K
      (try simp only [Act.put, List.setIfInBounds_toArray, List.set_cons_zero, List.set_cons_succ])
      clear B
      refine wpAnyH_ready (rs := [2, 6]) (by kernel_rfl) (by simp) ?_
      refine AllReadyH.cons (o := ({ dst := some 49, op := Go.Op.call { callee := Go.Callee.value (Go.Operand.func 47), args := #[Go.Operand.tmp 47, Go.Operand.tmp 48], argTypes := #[23, 23] }, type := 36, pos := "law.go:40", after := #[{ on := 0, ground := Go.Ground.data }, { on := 1, ground := Go.Ground.data }, { on := 0, ground := Go.Ground.chain }], guard := none } : Oper)) rfl (fun K hK => ?_) ?_
      · go_simp
        go_at_call 47
        refine (s_div0 _).mono ?_
        rintro e W6_2 ⟨rfl, B⟩
        have A := Lib.hid (A.out.keep B A.out.lt)
        have Bb := Lib.hid (Bb.out.keep B Bb.out.lt)
        have C := Lib.hid (C.out.keep B C.out.lt)
        have D := Lib.hid (D.out.keep B D.out.lt)
        have HB := Lib.hid (HB.out.trans (B.mono HB.out.size))
        (try go_wp2_with fail)
        refine hK.out _ _ ?_ (fun hHeld => ?_)
        · exact hHeld.keep B hHeld.lt
        clear hK K
        (try simp only [Act.put, List.setIfInBounds_toArray, List.set_cons_zero, List.set_cons_succ])
        clear B
        refine wpAnyH_take (i := 3) (oi := ({ dst := some 46, op := Go.Op.move (Go.Operand.tmp 49), type := 36, pos := "law.go:40", after := #[{ on := 2, ground := Go.Ground.data }], guard := none } : Oper)) (v := ?v3_2_6_1) rfl (by kernel_rfl) (by kernel_rfl) (by kernel_rfl) (fun _ _ _ h => h) (Or.inl ⟨by rfl, ?hy3_2_6_1⟩) (by assumption) ?re3_2_6_1
        case hy3_2_6_1 => ((intro w hSw; have e00 := hSw.c0; have e01 := hSw.c1; go_simp) <;> with_reducible rfl)
        (try simp only [Act.put, List.setIfInBounds_toArray, List.set_cons_zero, List.set_cons_succ])
        refine wpAnyH_take (i := 4) (oi := ({ dst := some 50, op := Go.Op.extract (Go.Operand.tmp 46) 0, type := 23, pos := "law.go:40", after := #[{ on := 3, ground := Go.Ground.data }], guard := none } : Oper)) (v := ?v4_3_6_1) rfl (by kernel_rfl) (by kernel_rfl) (by kernel_rfl) (fun _ _ _ h => h) (Or.inl ⟨by rfl, ?hy4_3_6_1⟩) (by assumption) ?re4_3_6_1
        case hy4_3_6_1 => ((intro w hSw; have e00 := hSw.c0; have e01 := hSw.c1; go_simp) <;> with_reducible rfl)
        (try simp only [Act.put, List.setIfInBounds_toArray, List.set_cons_zero, List.set_cons_succ])
        refine wpAnyH_take (i := 5) (oi := ({ dst := some 51, op := Go.Op.extract (Go.Operand.tmp 46) 1, type := 32, pos := "law.go:40", after := #[{ on := 3, ground := Go.Ground.data }, { on := 7, ground := Go.Ground.gcOnly Go.Departure.lateStores }], guard := none } : Oper)) (v := ?v5_4_6_1) rfl (by kernel_rfl) (by kernel_rfl) (by kernel_rfl) (fun _ _ _ h => h) (Or.inl ⟨by rfl, ?hy5_4_6_1⟩) (by assumption) ?re5_4_6_1
        case hy5_4_6_1 => ((intro w hSw; have e00 := hSw.c0; have e01 := hSw.c1; go_simp) <;> with_reducible rfl)
        (try simp only [Act.put, List.setIfInBounds_toArray, List.set_cons_zero, List.set_cons_succ])
        refine wpAnyH_ready (rs := [6]) (by kernel_rfl) (by simp) ?_
        refine AllReadyH.cons (o := ({ dst := some 11, op := Go.Op.alloc 23, type := 0, pos := "law.go:40", after := #[], guard := none } : Oper)) rfl (fun K hK => ?_) ?_
        · go_simp
          obtain ⟨WA6_3, hWA6_3⟩ : ∃ W, W = (W6_2.alloc (.cells #[.string ⟨#[]⟩, .string ⟨#[]⟩] 23)) := ⟨_, rfl⟩
          rw [← hWA6_3]
          have V : Hid (RBlk WA6_3 W6_2.heap.size (.string ⟨#[]⟩) (.string ⟨#[]⟩)) := Lib.hid (by rw [hWA6_3]; exact RBlk.new W6_2 (.string ⟨#[]⟩) (.string ⟨#[]⟩))
          have gV : w.heap.size ≤ W6_2.heap.size := HB.out.size
          have neVA : (W1.heap.size) ≠ W6_2.heap.size := Nat.ne_of_lt A.out.lt
          have neVBb : (W2.heap.size) ≠ W6_2.heap.size := Nat.ne_of_lt Bb.out.lt
          have neVC : (W6.heap.size) ≠ W6_2.heap.size := Nat.ne_of_lt C.out.lt
          have neVD : (W9.heap.size) ≠ W6_2.heap.size := Nat.ne_of_lt D.out.lt
          have hk : (fun W => RBlk W (W2.heap.size) (.string ⟨#[48]⟩) (.string ⟨#[49]⟩)) WA6_3 := by rw [hWA6_3]; exact hHeld.alloc _
          have A : Hid (RBlk WA6_3 (W1.heap.size) (.string ⟨#[45, 51]⟩) (.string ⟨#[50]⟩)) := Lib.hid (by rw [hWA6_3]; exact A.out.alloc _)
          have Bb : Hid (RBlk WA6_3 (W2.heap.size) (.string ⟨#[48]⟩) (.string ⟨#[49]⟩)) := Lib.hid (by rw [hWA6_3]; exact Bb.out.alloc _)
          have C : Hid (RBlk WA6_3 (W6.heap.size) (.string ⟨#[53]⟩) (.string ⟨#[54]⟩)) := Lib.hid (by rw [hWA6_3]; exact C.out.alloc _)
          have D : Hid (RBlk WA6_3 (W9.heap.size) (.string ⟨#[45, 50]⟩) (.string ⟨#[49]⟩)) := Lib.hid (by rw [hWA6_3]; exact D.out.alloc _)
          have HB : Hid (Below w.heap.size w WA6_3) := Lib.hid (by rw [hWA6_3]; exact HB.out.alloc HB.out.size _)
          clear hWA6_3
          refine hK.out _ _ ?_ (fun hHeld => ?_)
          · exact hk
          clear hK K
          (try simp only [Act.put, List.setIfInBounds_toArray, List.set_cons_zero, List.set_cons_succ])
          clear hk
          refine wpAnyH_ready (rs := [7]) (by kernel_rfl) (by simp) ?_
          refine AllReadyH.cons (o := ({ dst := none, op := Go.Op.store 23 (Go.Operand.tmp 11) (Go.Operand.tmp 50), type := 0, pos := "law.go:40", after := #[{ on := 6, ground := Go.Ground.data }, { on := 4, ground := Go.Ground.data }, { on := 2, ground := Go.Ground.chain }, { on := 0, ground := Go.Ground.phase }, { on := 1, ground := Go.Ground.phase }, { on := 2, ground := Go.Ground.phase }, { on := 3, ground := Go.Ground.phase }, { on := 4, ground := Go.Ground.phase }, { on := 5, ground := Go.Ground.textOnly Go.Departure.lateStores }, { on := 6, ground := Go.Ground.phase }], guard := none } : Oper)) rfl (fun K hK => ?_) ?_
          · have c0 := V.out.c0
            have c1 := V.out.c1
            have f0 := V.out.f 0
            have f1 := V.out.f 1
            have hs := V.out.s0 (.string ⟨#[]⟩)
            have d1 := hs.c1
            have g1 := hs.f 1
            go_simp
            have Vn := Lib.hid (hs.s1 (.string ⟨#[]⟩))
            have An := Lib.hid ((A.out.other ⟨W6_2.heap.size, 0, none⟩ (.string ⟨#[]⟩) neVA).other ⟨W6_2.heap.size, 1, none⟩ (.string ⟨#[]⟩) neVA)
            have Bbn := Lib.hid ((Bb.out.other ⟨W6_2.heap.size, 0, none⟩ (.string ⟨#[]⟩) neVBb).other ⟨W6_2.heap.size, 1, none⟩ (.string ⟨#[]⟩) neVBb)
            have Cn := Lib.hid ((C.out.other ⟨W6_2.heap.size, 0, none⟩ (.string ⟨#[]⟩) neVC).other ⟨W6_2.heap.size, 1, none⟩ (.string ⟨#[]⟩) neVC)
            have Dn := Lib.hid ((D.out.other ⟨W6_2.heap.size, 0, none⟩ (.string ⟨#[]⟩) neVD).other ⟨W6_2.heap.size, 1, none⟩ (.string ⟨#[]⟩) neVD)
            have HBn := Lib.hid ((HB.out.setCell (p := ⟨W6_2.heap.size, 0, none⟩) gV (.string ⟨#[]⟩)).setCell (p := ⟨W6_2.heap.size, 1, none⟩) gV (.string ⟨#[]⟩))
            clear hs c0 c1 f0 f1 d1 g1
            have V := Vn
            have A := An
            have Bb := Bbn
            have C := Cn
            have D := Dn
            have HB := HBn
            clear Vn An Bbn Cn Dn HBn
            refine hK.out _ _ ?_ (fun hHeld => ?_)
            · exact (hHeld.other ⟨W6_2.heap.size, 0, none⟩ (.string ⟨#[]⟩) neVBb).other ⟨W6_2.heap.size, 1, none⟩ (.string ⟨#[]⟩) neVBb
            clear hK K
            (try simp only [Act.put, List.setIfInBounds_toArray, List.set_cons_zero, List.set_cons_succ])
            refine wpAnyH_take (i := 8) (oi := ({ dst := some 12, op := Go.Op.assign (Go.Operand.tmp 51), type := 32, pos := "law.go:40", after := #[{ on := 5, ground := Go.Ground.data }, { on := 7, ground := Go.Ground.chain }, { on := 0, ground := Go.Ground.phase }, { on := 1, ground := Go.Ground.phase }, { on := 2, ground := Go.Ground.phase }, { on := 3, ground := Go.Ground.phase }, { on := 4, ground := Go.Ground.phase }, { on := 5, ground := Go.Ground.phase }, { on := 6, ground := Go.Ground.phase }, { on := 7, ground := Go.Ground.phase }], guard := none } : Oper)) (v := ?v8_5_6_1) rfl (by kernel_rfl) (by kernel_rfl) (by kernel_rfl) (fun _ _ _ h => h) (Or.inl ⟨by rfl, ?hy8_5_6_1⟩) (by assumption) ?re8_5_6_1
            case hy8_5_6_1 => ((intro w hSw; have e00 := hSw.c0; have e01 := hSw.c1; go_simp) <;> with_reducible rfl)
            (try simp only [Act.put, List.setIfInBounds_toArray, List.set_cons_zero, List.set_cons_succ])
            refine wpAnyH_done (by kernel_rfl) ?_ _
            refine NoPanic.normal ?_
            generalize hWJ : ((WA6_3.setCell ⟨W6_2.heap.size, 0, none⟩ (.string ⟨#[]⟩)).setCell ⟨W6_2.heap.size, 1, none⟩ (.string ⟨#[]⟩)) = WJ at *
            clear hWJ
            generalize hgJ : W6_2.heap.size = gJ at *
            clear hgJ
            exact HJ gJ WJ (Lib.hid ⟨A.out, Bb.out, C.out, D.out, V.out, HB.out⟩)
          exact AllReadyH.nil
        exact AllReadyH.nil
      refine AllReadyH.cons (o := ({ dst := some 11, op := Go.Op.alloc 23, type := 0, pos := "law.go:40", after := #[], guard := none } : Oper)) rfl (fun K hK => ?_) ?_
      · go_simp
        obtain ⟨WA6_5, hWA6_5⟩ : ∃ W, W = (W6_1.alloc (.cells #[.string ⟨#[]⟩, .string ⟨#[]⟩] 23)) := ⟨_, rfl⟩
        rw [← hWA6_5]
        have V : Hid (RBlk WA6_5 W6_1.heap.size (.string ⟨#[]⟩) (.string ⟨#[]⟩)) := Lib.hid (by rw [hWA6_5]; exact RBlk.new W6_1 (.string ⟨#[]⟩) (.string ⟨#[]⟩))
        have gV : w.heap.size ≤ W6_1.heap.size := HB.out.size
        have neVA : (W1.heap.size) ≠ W6_1.heap.size := Nat.ne_of_lt A.out.lt
        have neVBb : (W2.heap.size) ≠ W6_1.heap.size := Nat.ne_of_lt Bb.out.lt
        have neVC : (W6.heap.size) ≠ W6_1.heap.size := Nat.ne_of_lt C.out.lt
        have neVD : (W9.heap.size) ≠ W6_1.heap.size := Nat.ne_of_lt D.out.lt
        have hk : (fun W => RBlk W (W2.heap.size) (.string ⟨#[48]⟩) (.string ⟨#[49]⟩)) WA6_5 := by rw [hWA6_5]; exact hHeld.alloc _
        have A : Hid (RBlk WA6_5 (W1.heap.size) (.string ⟨#[45, 51]⟩) (.string ⟨#[50]⟩)) := Lib.hid (by rw [hWA6_5]; exact A.out.alloc _)
        have Bb : Hid (RBlk WA6_5 (W2.heap.size) (.string ⟨#[48]⟩) (.string ⟨#[49]⟩)) := Lib.hid (by rw [hWA6_5]; exact Bb.out.alloc _)
        have C : Hid (RBlk WA6_5 (W6.heap.size) (.string ⟨#[53]⟩) (.string ⟨#[54]⟩)) := Lib.hid (by rw [hWA6_5]; exact C.out.alloc _)
        have D : Hid (RBlk WA6_5 (W9.heap.size) (.string ⟨#[45, 50]⟩) (.string ⟨#[49]⟩)) := Lib.hid (by rw [hWA6_5]; exact D.out.alloc _)
        have HB : Hid (Below w.heap.size w WA6_5) := Lib.hid (by rw [hWA6_5]; exact HB.out.alloc HB.out.size _)
        clear hWA6_5
        refine hK.out _ _ ?_ (fun hHeld => ?_)
        · exact hk
        clear hK K
        (try simp only [Act.put, List.setIfInBounds_toArray, List.set_cons_zero, List.set_cons_succ])
        clear hk
        refine wpAnyH_ready (rs := [2]) (by kernel_rfl) (by simp) ?_
        refine AllReadyH.cons (o := ({ dst := some 49, op := Go.Op.call { callee := Go.Callee.value (Go.Operand.func 47), args := #[Go.Operand.tmp 47, Go.Operand.tmp 48], argTypes := #[23, 23] }, type := 36, pos := "law.go:40", after := #[{ on := 0, ground := Go.Ground.data }, { on := 1, ground := Go.Ground.data }, { on := 0, ground := Go.Ground.chain }], guard := none } : Oper)) rfl (fun K hK => ?_) ?_
        · go_simp
          go_at_call 47
          refine (s_div0 _).mono ?_
          rintro e W6_6 ⟨rfl, B⟩
          have A := Lib.hid (A.out.keep B A.out.lt)
          have Bb := Lib.hid (Bb.out.keep B Bb.out.lt)
          have C := Lib.hid (C.out.keep B C.out.lt)
          have D := Lib.hid (D.out.keep B D.out.lt)
          have V := Lib.hid (V.out.keep B V.out.lt)
          have HB := Lib.hid (HB.out.trans (B.mono HB.out.size))
          (try go_wp2_with fail)
          refine hK.out _ _ ?_ (fun hHeld => ?_)
          · exact hHeld.keep B hHeld.lt
          clear hK K
          (try simp only [Act.put, List.setIfInBounds_toArray, List.set_cons_zero, List.set_cons_succ])
          clear B
          refine wpAnyH_take (i := 3) (oi := ({ dst := some 46, op := Go.Op.move (Go.Operand.tmp 49), type := 36, pos := "law.go:40", after := #[{ on := 2, ground := Go.Ground.data }], guard := none } : Oper)) (v := ?v3_6_6_1) rfl (by kernel_rfl) (by kernel_rfl) (by kernel_rfl) (fun _ _ _ h => h) (Or.inl ⟨by rfl, ?hy3_6_6_1⟩) (by assumption) ?re3_6_6_1
          case hy3_6_6_1 => ((intro w hSw; have e00 := hSw.c0; have e01 := hSw.c1; go_simp) <;> with_reducible rfl)
          (try simp only [Act.put, List.setIfInBounds_toArray, List.set_cons_zero, List.set_cons_succ])
          refine wpAnyH_take (i := 4) (oi := ({ dst := some 50, op := Go.Op.extract (Go.Operand.tmp 46) 0, type := 23, pos := "law.go:40", after := #[{ on := 3, ground := Go.Ground.data }], guard := none } : Oper)) (v := ?v4_7_6_1) rfl (by kernel_rfl) (by kernel_rfl) (by kernel_rfl) (fun _ _ _ h => h) (Or.inl ⟨by rfl, ?hy4_7_6_1⟩) (by assumption) ?re4_7_6_1
          case hy4_7_6_1 => ((intro w hSw; have e00 := hSw.c0; have e01 := hSw.c1; go_simp) <;> with_reducible rfl)
          (try simp only [Act.put, List.setIfInBounds_toArray, List.set_cons_zero, List.set_cons_succ])
          refine wpAnyH_take (i := 5) (oi := ({ dst := some 51, op := Go.Op.extract (Go.Operand.tmp 46) 1, type := 32, pos := "law.go:40", after := #[{ on := 3, ground := Go.Ground.data }, { on := 7, ground := Go.Ground.gcOnly Go.Departure.lateStores }], guard := none } : Oper)) (v := ?v5_8_6_1) rfl (by kernel_rfl) (by kernel_rfl) (by kernel_rfl) (fun _ _ _ h => h) (Or.inl ⟨by rfl, ?hy5_8_6_1⟩) (by assumption) ?re5_8_6_1
          case hy5_8_6_1 => ((intro w hSw; have e00 := hSw.c0; have e01 := hSw.c1; go_simp) <;> with_reducible rfl)
          (try simp only [Act.put, List.setIfInBounds_toArray, List.set_cons_zero, List.set_cons_succ])
          refine wpAnyH_ready (rs := [7]) (by kernel_rfl) (by simp) ?_
          refine AllReadyH.cons (o := ({ dst := none, op := Go.Op.store 23 (Go.Operand.tmp 11) (Go.Operand.tmp 50), type := 0, pos := "law.go:40", after := #[{ on := 6, ground := Go.Ground.data }, { on := 4, ground := Go.Ground.data }, { on := 2, ground := Go.Ground.chain }, { on := 0, ground := Go.Ground.phase }, { on := 1, ground := Go.Ground.phase }, { on := 2, ground := Go.Ground.phase }, { on := 3, ground := Go.Ground.phase }, { on := 4, ground := Go.Ground.phase }, { on := 5, ground := Go.Ground.textOnly Go.Departure.lateStores }, { on := 6, ground := Go.Ground.phase }], guard := none } : Oper)) rfl (fun K hK => ?_) ?_
          · have c0 := V.out.c0
            have c1 := V.out.c1
            have f0 := V.out.f 0
            have f1 := V.out.f 1
            have hs := V.out.s0 (.string ⟨#[]⟩)
            have d1 := hs.c1
            have g1 := hs.f 1
            go_simp
            have Vn := Lib.hid (hs.s1 (.string ⟨#[]⟩))
            have An := Lib.hid ((A.out.other ⟨W6_1.heap.size, 0, none⟩ (.string ⟨#[]⟩) neVA).other ⟨W6_1.heap.size, 1, none⟩ (.string ⟨#[]⟩) neVA)
            have Bbn := Lib.hid ((Bb.out.other ⟨W6_1.heap.size, 0, none⟩ (.string ⟨#[]⟩) neVBb).other ⟨W6_1.heap.size, 1, none⟩ (.string ⟨#[]⟩) neVBb)
            have Cn := Lib.hid ((C.out.other ⟨W6_1.heap.size, 0, none⟩ (.string ⟨#[]⟩) neVC).other ⟨W6_1.heap.size, 1, none⟩ (.string ⟨#[]⟩) neVC)
            have Dn := Lib.hid ((D.out.other ⟨W6_1.heap.size, 0, none⟩ (.string ⟨#[]⟩) neVD).other ⟨W6_1.heap.size, 1, none⟩ (.string ⟨#[]⟩) neVD)
            have HBn := Lib.hid ((HB.out.setCell (p := ⟨W6_1.heap.size, 0, none⟩) gV (.string ⟨#[]⟩)).setCell (p := ⟨W6_1.heap.size, 1, none⟩) gV (.string ⟨#[]⟩))
            clear hs c0 c1 f0 f1 d1 g1
            have V := Vn
            have A := An
            have Bb := Bbn
            have C := Cn
            have D := Dn
            have HB := HBn
            clear Vn An Bbn Cn Dn HBn
            refine hK.out _ _ ?_ (fun hHeld => ?_)
            · exact (hHeld.other ⟨W6_1.heap.size, 0, none⟩ (.string ⟨#[]⟩) neVBb).other ⟨W6_1.heap.size, 1, none⟩ (.string ⟨#[]⟩) neVBb
            clear hK K
            (try simp only [Act.put, List.setIfInBounds_toArray, List.set_cons_zero, List.set_cons_succ])
            refine wpAnyH_take (i := 8) (oi := ({ dst := some 12, op := Go.Op.assign (Go.Operand.tmp 51), type := 32, pos := "law.go:40", after := #[{ on := 5, ground := Go.Ground.data }, { on := 7, ground := Go.Ground.chain }, { on := 0, ground := Go.Ground.phase }, { on := 1, ground := Go.Ground.phase }, { on := 2, ground := Go.Ground.phase }, { on := 3, ground := Go.Ground.phase }, { on := 4, ground := Go.Ground.phase }, { on := 5, ground := Go.Ground.phase }, { on := 6, ground := Go.Ground.phase }, { on := 7, ground := Go.Ground.phase }], guard := none } : Oper)) (v := ?v8_9_6_1) rfl (by kernel_rfl) (by kernel_rfl) (by kernel_rfl) (fun _ _ _ h => h) (Or.inl ⟨by rfl, ?hy8_9_6_1⟩) (by assumption) ?re8_9_6_1
            case hy8_9_6_1 => ((intro w hSw; have e00 := hSw.c0; have e01 := hSw.c1; go_simp) <;> with_reducible rfl)
            (try simp only [Act.put, List.setIfInBounds_toArray, List.set_cons_zero, List.set_cons_succ])
            refine wpAnyH_done (by kernel_rfl) ?_ _
            refine NoPanic.normal ?_
            generalize hWJ : ((W6_6.setCell ⟨W6_1.heap.size, 0, none⟩ (.string ⟨#[]⟩)).setCell ⟨W6_1.heap.size, 1, none⟩ (.string ⟨#[]⟩)) = WJ at *
            clear hWJ
            generalize hgJ : W6_1.heap.size = gJ at *
            clear hgJ
            exact HJ gJ WJ (Lib.hid ⟨A.out, Bb.out, C.out, D.out, V.out, HB.out⟩)
          exact AllReadyH.nil
        exact AllReadyH.nil
      exact AllReadyH.nil
    refine AllReadyH.cons (o := ({ dst := some 11, op := Go.Op.alloc 23, type := 0, pos := "law.go:40", after := #[], guard := none } : Oper)) rfl (fun K hK => ?_) ?_
    · go_simp
      obtain ⟨WA6_8, hWA6_8⟩ : ∃ W, W = (W06.alloc (.cells #[.string ⟨#[]⟩, .string ⟨#[]⟩] 23)).drew := ⟨_, rfl⟩
      rw [← hWA6_8]
      have V : Hid (RBlk WA6_8 W06.heap.size (.string ⟨#[]⟩) (.string ⟨#[]⟩)) := Lib.hid (by rw [hWA6_8]; exact RBlk.new W06 (.string ⟨#[]⟩) (.string ⟨#[]⟩))
      have gV : w.heap.size ≤ W06.heap.size := HB.out.size
      have neVA : (W1.heap.size) ≠ W06.heap.size := Nat.ne_of_lt A.out.lt
      have neVBb : (W2.heap.size) ≠ W06.heap.size := Nat.ne_of_lt Bb.out.lt
      have neVC : (W6.heap.size) ≠ W06.heap.size := Nat.ne_of_lt C.out.lt
      have neVD : (W9.heap.size) ≠ W06.heap.size := Nat.ne_of_lt D.out.lt
      have hk : (fun W => RBlk W (W2.heap.size) (.string ⟨#[48]⟩) (.string ⟨#[49]⟩)) WA6_8 := by rw [hWA6_8]; exact hHeld.alloc _
      have A : Hid (RBlk WA6_8 (W1.heap.size) (.string ⟨#[45, 51]⟩) (.string ⟨#[50]⟩)) := Lib.hid (by rw [hWA6_8]; exact A.out.alloc _)
      have Bb : Hid (RBlk WA6_8 (W2.heap.size) (.string ⟨#[48]⟩) (.string ⟨#[49]⟩)) := Lib.hid (by rw [hWA6_8]; exact Bb.out.alloc _)
      have C : Hid (RBlk WA6_8 (W6.heap.size) (.string ⟨#[53]⟩) (.string ⟨#[54]⟩)) := Lib.hid (by rw [hWA6_8]; exact C.out.alloc _)
      have D : Hid (RBlk WA6_8 (W9.heap.size) (.string ⟨#[45, 50]⟩) (.string ⟨#[49]⟩)) := Lib.hid (by rw [hWA6_8]; exact D.out.alloc _)
      have HB : Hid (Below w.heap.size w WA6_8) := Lib.hid (by rw [hWA6_8]; exact HB.out.alloc HB.out.size _)
      clear hWA6_8
      refine hK.out _ _ ?_ (fun hHeld => ?_)
      · exact hk
      clear hK K
      (try simp only [Act.put, List.setIfInBounds_toArray, List.set_cons_zero, List.set_cons_succ])
      clear hk
      refine wpAnyH_ready (rs := [0]) (by kernel_rfl) (by simp) ?_
      refine AllReadyH.cons (o := ({ dst := some 47, op := Go.Op.call { callee := Go.Callee.value (Go.Operand.func 54), args := #[Go.Operand.const (Go.Value.string { data := #[49] }), Go.Operand.const (Go.Value.string { data := #[49] })], argTypes := #[9, 9] }, type := 23, pos := "law.go:40", after := #[], guard := none } : Oper)) rfl (fun K hK => ?_) ?_
      · go_simp
        go_at_call 54
        refine (is_any _ _ _).mono ?_
        rintro e W6_9 ⟨rfl, B⟩
        have A := Lib.hid (A.out.keep B A.out.lt)
        have Bb := Lib.hid (Bb.out.keep B Bb.out.lt)
        have C := Lib.hid (C.out.keep B C.out.lt)
        have D := Lib.hid (D.out.keep B D.out.lt)
        have V := Lib.hid (V.out.keep B V.out.lt)
        have HB := Lib.hid (HB.out.trans (B.mono HB.out.size))
        (try go_wp2_with fail)
        refine hK.out _ _ ?_ (fun hHeld => ?_)
        · exact hHeld.keep B hHeld.lt
        clear hK K
        (try simp only [Act.put, List.setIfInBounds_toArray, List.set_cons_zero, List.set_cons_succ])
        clear B
        refine wpAnyH_ready (rs := [2]) (by kernel_rfl) (by simp) ?_
        refine AllReadyH.cons (o := ({ dst := some 49, op := Go.Op.call { callee := Go.Callee.value (Go.Operand.func 47), args := #[Go.Operand.tmp 47, Go.Operand.tmp 48], argTypes := #[23, 23] }, type := 36, pos := "law.go:40", after := #[{ on := 0, ground := Go.Ground.data }, { on := 1, ground := Go.Ground.data }, { on := 0, ground := Go.Ground.chain }], guard := none } : Oper)) rfl (fun K hK => ?_) ?_
        · go_simp
          go_at_call 47
          refine (s_div0 _).mono ?_
          rintro e W6_10 ⟨rfl, B⟩
          have A := Lib.hid (A.out.keep B A.out.lt)
          have Bb := Lib.hid (Bb.out.keep B Bb.out.lt)
          have C := Lib.hid (C.out.keep B C.out.lt)
          have D := Lib.hid (D.out.keep B D.out.lt)
          have V := Lib.hid (V.out.keep B V.out.lt)
          have HB := Lib.hid (HB.out.trans (B.mono HB.out.size))
          (try go_wp2_with fail)
          refine hK.out _ _ ?_ (fun hHeld => ?_)
          · exact hHeld.keep B hHeld.lt
          clear hK K
          (try simp only [Act.put, List.setIfInBounds_toArray, List.set_cons_zero, List.set_cons_succ])
          clear B
          refine wpAnyH_take (i := 3) (oi := ({ dst := some 46, op := Go.Op.move (Go.Operand.tmp 49), type := 36, pos := "law.go:40", after := #[{ on := 2, ground := Go.Ground.data }], guard := none } : Oper)) (v := ?v3_10_6_1) rfl (by kernel_rfl) (by kernel_rfl) (by kernel_rfl) (fun _ _ _ h => h) (Or.inl ⟨by rfl, ?hy3_10_6_1⟩) (by assumption) ?re3_10_6_1
          case hy3_10_6_1 => ((intro w hSw; have e00 := hSw.c0; have e01 := hSw.c1; go_simp) <;> with_reducible rfl)
          (try simp only [Act.put, List.setIfInBounds_toArray, List.set_cons_zero, List.set_cons_succ])
          refine wpAnyH_take (i := 4) (oi := ({ dst := some 50, op := Go.Op.extract (Go.Operand.tmp 46) 0, type := 23, pos := "law.go:40", after := #[{ on := 3, ground := Go.Ground.data }], guard := none } : Oper)) (v := ?v4_11_6_1) rfl (by kernel_rfl) (by kernel_rfl) (by kernel_rfl) (fun _ _ _ h => h) (Or.inl ⟨by rfl, ?hy4_11_6_1⟩) (by assumption) ?re4_11_6_1
          case hy4_11_6_1 => ((intro w hSw; have e00 := hSw.c0; have e01 := hSw.c1; go_simp) <;> with_reducible rfl)
          (try simp only [Act.put, List.setIfInBounds_toArray, List.set_cons_zero, List.set_cons_succ])
          refine wpAnyH_take (i := 5) (oi := ({ dst := some 51, op := Go.Op.extract (Go.Operand.tmp 46) 1, type := 32, pos := "law.go:40", after := #[{ on := 3, ground := Go.Ground.data }, { on := 7, ground := Go.Ground.gcOnly Go.Departure.lateStores }], guard := none } : Oper)) (v := ?v5_12_6_1) rfl (by kernel_rfl) (by kernel_rfl) (by kernel_rfl) (fun _ _ _ h => h) (Or.inl ⟨by rfl, ?hy5_12_6_1⟩) (by assumption) ?re5_12_6_1
          case hy5_12_6_1 => ((intro w hSw; have e00 := hSw.c0; have e01 := hSw.c1; go_simp) <;> with_reducible rfl)
          (try simp only [Act.put, List.setIfInBounds_toArray, List.set_cons_zero, List.set_cons_succ])
          refine wpAnyH_ready (rs := [7]) (by kernel_rfl) (by simp) ?_
          refine AllReadyH.cons (o := ({ dst := none, op := Go.Op.store 23 (Go.Operand.tmp 11) (Go.Operand.tmp 50), type := 0, pos := "law.go:40", after := #[{ on := 6, ground := Go.Ground.data }, { on := 4, ground := Go.Ground.data }, { on := 2, ground := Go.Ground.chain }, { on := 0, ground := Go.Ground.phase }, { on := 1, ground := Go.Ground.phase }, { on := 2, ground := Go.Ground.phase }, { on := 3, ground := Go.Ground.phase }, { on := 4, ground := Go.Ground.phase }, { on := 5, ground := Go.Ground.textOnly Go.Departure.lateStores }, { on := 6, ground := Go.Ground.phase }], guard := none } : Oper)) rfl (fun K hK => ?_) ?_
          · have c0 := V.out.c0
            have c1 := V.out.c1
            have f0 := V.out.f 0
            have f1 := V.out.f 1
            have hs := V.out.s0 (.string ⟨#[]⟩)
            have d1 := hs.c1
            have g1 := hs.f 1
            go_simp
            have Vn := Lib.hid (hs.s1 (.string ⟨#[]⟩))
            have An := Lib.hid ((A.out.other ⟨W06.heap.size, 0, none⟩ (.string ⟨#[]⟩) neVA).other ⟨W06.heap.size, 1, none⟩ (.string ⟨#[]⟩) neVA)
            have Bbn := Lib.hid ((Bb.out.other ⟨W06.heap.size, 0, none⟩ (.string ⟨#[]⟩) neVBb).other ⟨W06.heap.size, 1, none⟩ (.string ⟨#[]⟩) neVBb)
            have Cn := Lib.hid ((C.out.other ⟨W06.heap.size, 0, none⟩ (.string ⟨#[]⟩) neVC).other ⟨W06.heap.size, 1, none⟩ (.string ⟨#[]⟩) neVC)
            have Dn := Lib.hid ((D.out.other ⟨W06.heap.size, 0, none⟩ (.string ⟨#[]⟩) neVD).other ⟨W06.heap.size, 1, none⟩ (.string ⟨#[]⟩) neVD)
            have HBn := Lib.hid ((HB.out.setCell (p := ⟨W06.heap.size, 0, none⟩) gV (.string ⟨#[]⟩)).setCell (p := ⟨W06.heap.size, 1, none⟩) gV (.string ⟨#[]⟩))
            clear hs c0 c1 f0 f1 d1 g1
            have V := Vn
            have A := An
            have Bb := Bbn
            have C := Cn
            have D := Dn
            have HB := HBn
            clear Vn An Bbn Cn Dn HBn
            refine hK.out _ _ ?_ (fun hHeld => ?_)
            · exact (hHeld.other ⟨W06.heap.size, 0, none⟩ (.string ⟨#[]⟩) neVBb).other ⟨W06.heap.size, 1, none⟩ (.string ⟨#[]⟩) neVBb
            clear hK K
            (try simp only [Act.put, List.setIfInBounds_toArray, List.set_cons_zero, List.set_cons_succ])
            refine wpAnyH_take (i := 8) (oi := ({ dst := some 12, op := Go.Op.assign (Go.Operand.tmp 51), type := 32, pos := "law.go:40", after := #[{ on := 5, ground := Go.Ground.data }, { on := 7, ground := Go.Ground.chain }, { on := 0, ground := Go.Ground.phase }, { on := 1, ground := Go.Ground.phase }, { on := 2, ground := Go.Ground.phase }, { on := 3, ground := Go.Ground.phase }, { on := 4, ground := Go.Ground.phase }, { on := 5, ground := Go.Ground.phase }, { on := 6, ground := Go.Ground.phase }, { on := 7, ground := Go.Ground.phase }], guard := none } : Oper)) (v := ?v8_13_6_1) rfl (by kernel_rfl) (by kernel_rfl) (by kernel_rfl) (fun _ _ _ h => h) (Or.inl ⟨by rfl, ?hy8_13_6_1⟩) (by assumption) ?re8_13_6_1
            case hy8_13_6_1 => ((intro w hSw; have e00 := hSw.c0; have e01 := hSw.c1; go_simp) <;> with_reducible rfl)
            (try simp only [Act.put, List.setIfInBounds_toArray, List.set_cons_zero, List.set_cons_succ])
            refine wpAnyH_done (by kernel_rfl) ?_ _
            refine NoPanic.normal ?_
            generalize hWJ : ((W6_10.setCell ⟨W06.heap.size, 0, none⟩ (.string ⟨#[]⟩)).setCell ⟨W06.heap.size, 1, none⟩ (.string ⟨#[]⟩)) = WJ at *
            clear hWJ
            generalize hgJ : W06.heap.size = gJ at *
            clear hgJ
            exact HJ gJ WJ (Lib.hid ⟨A.out, Bb.out, C.out, D.out, V.out, HB.out⟩)
          exact AllReadyH.nil
        exact AllReadyH.nil
      exact AllReadyH.nil
    exact AllReadyH.nil
  case r =>
    clear A Bb C D HB
    intro gJ6 WJ6 hF
    obtain ⟨A', Bb', C', D', V', HB'⟩ := hF.out
    have A := Lib.hid A'
    have Bb := Lib.hid Bb'
    have C := Lib.hid C'
    have D := Lib.hid D'
    have V := Lib.hid V'
    have HB := Lib.hid HB'
    clear hF A' Bb' C' D' V' HB'
    (try go_wp2_with fail)
    go_at_call 54
    refine (is_any _ _ _).mono ?_
    rintro e Wjr1 ⟨rfl, B⟩
    have An := Lib.hid ((A.out.keep B A.out.lt))
    have Bbn := Lib.hid ((Bb.out.keep B Bb.out.lt))
    have Cn := Lib.hid ((C.out.keep B C.out.lt))
    have Dn := Lib.hid ((D.out.keep B D.out.lt))
    have Vn := Lib.hid ((V.out.keep B V.out.lt))
    have HBn := Lib.hid (HB.out.trans (B.mono HB.out.size))
    clear A Bb C D V HB
    have A := An
    have Bb := Bbn
    have C := Cn
    have D := Dn
    have V := Vn
    have HB := HBn
    clear An Bbn Cn Dn Vn HBn
    clear B
    (try go_wp2_with fail)
    go_at_call 24
    refine (s_down _).mono ?_
    rintro e Wjr2 ⟨rfl, B⟩
    have An := Lib.hid ((A.out.keep B A.out.lt).alloc (.cells #[(.string ⟨#[45, 49, 55]⟩), (.string ⟨#[53, 48]⟩)] 23))
    have Bbn := Lib.hid ((Bb.out.keep B Bb.out.lt).alloc (.cells #[(.string ⟨#[45, 49, 55]⟩), (.string ⟨#[53, 48]⟩)] 23))
    have Cn := Lib.hid ((C.out.keep B C.out.lt).alloc (.cells #[(.string ⟨#[45, 49, 55]⟩), (.string ⟨#[53, 48]⟩)] 23))
    have Dn := Lib.hid ((D.out.keep B D.out.lt).alloc (.cells #[(.string ⟨#[45, 49, 55]⟩), (.string ⟨#[53, 48]⟩)] 23))
    have Vn := Lib.hid ((V.out.keep B V.out.lt).alloc (.cells #[(.string ⟨#[45, 49, 55]⟩), (.string ⟨#[53, 48]⟩)] 23))
    have HBn := Lib.hid ((HB.out.trans (B.mono HB.out.size)).alloc (HB.out.trans (B.mono HB.out.size)).size (.cells #[(.string ⟨#[45, 49, 55]⟩), (.string ⟨#[53, 48]⟩)] 23))
    clear A Bb C D V HB
    have A := An
    have Bb := Bbn
    have C := Cn
    have D := Dn
    have V := Vn
    have HB := HBn
    clear An Bbn Cn Dn Vn HBn
    have KK := Lib.hid (RBlk.new Wjr2 (.string ⟨#[45, 49, 55]⟩) (.string ⟨#[53, 48]⟩))
    clear B
    (try go_wp2_with fail)
    go_at_call 54
    refine (is_any _ _ _).mono ?_
    rintro e Wjr3 ⟨rfl, B⟩
    have An := Lib.hid ((A.out.keep B A.out.lt))
    have Bbn := Lib.hid ((Bb.out.keep B Bb.out.lt))
    have Cn := Lib.hid ((C.out.keep B C.out.lt))
    have Dn := Lib.hid ((D.out.keep B D.out.lt))
    have Vn := Lib.hid ((V.out.keep B V.out.lt))
    have KKn := Lib.hid ((KK.out.keep B KK.out.lt))
    have HBn := Lib.hid (HB.out.trans (B.mono HB.out.size))
    clear A Bb C D V KK HB
    have A := An
    have Bb := Bbn
    have C := Cn
    have D := Dn
    have V := Vn
    have KK := KKn
    have HB := HBn
    clear An Bbn Cn Dn Vn KKn HBn
    clear B
    (try go_wp2_with fail)
    go_at_call 26
    refine (s_up _).mono ?_
    rintro e Wjr4 ⟨rfl, B⟩
    have An := Lib.hid ((A.out.keep B A.out.lt).alloc (.cells #[(.string ⟨#[49, 55]⟩), (.string ⟨#[53, 48]⟩)] 23))
    have Bbn := Lib.hid ((Bb.out.keep B Bb.out.lt).alloc (.cells #[(.string ⟨#[49, 55]⟩), (.string ⟨#[53, 48]⟩)] 23))
    have Cn := Lib.hid ((C.out.keep B C.out.lt).alloc (.cells #[(.string ⟨#[49, 55]⟩), (.string ⟨#[53, 48]⟩)] 23))
    have Dn := Lib.hid ((D.out.keep B D.out.lt).alloc (.cells #[(.string ⟨#[49, 55]⟩), (.string ⟨#[53, 48]⟩)] 23))
    have Vn := Lib.hid ((V.out.keep B V.out.lt).alloc (.cells #[(.string ⟨#[49, 55]⟩), (.string ⟨#[53, 48]⟩)] 23))
    have KKn := Lib.hid ((KK.out.keep B KK.out.lt).alloc (.cells #[(.string ⟨#[49, 55]⟩), (.string ⟨#[53, 48]⟩)] 23))
    have HBn := Lib.hid ((HB.out.trans (B.mono HB.out.size)).alloc (HB.out.trans (B.mono HB.out.size)).size (.cells #[(.string ⟨#[49, 55]⟩), (.string ⟨#[53, 48]⟩)] 23))
    clear A Bb C D V KK HB
    have A := An
    have Bb := Bbn
    have C := Cn
    have D := Dn
    have V := Vn
    have KK := KKn
    have HB := HBn
    clear An Bbn Cn Dn Vn KKn HBn
    have M := Lib.hid (RBlk.new Wjr4 (.string ⟨#[49, 55]⟩) (.string ⟨#[53, 48]⟩))
    clear B
    (try go_wp2_with fail)
    go_at_call 35
    refine (s_parse _ (HT.out.below HB.out)).mono ?_
    rintro e Wjr5 ⟨rfl, B⟩
    have An := Lib.hid ((A.out.keep B A.out.lt).alloc (.cells #[(.string ⟨#[45, 51]⟩), (.string ⟨#[50]⟩)] 23))
    have Bbn := Lib.hid ((Bb.out.keep B Bb.out.lt).alloc (.cells #[(.string ⟨#[45, 51]⟩), (.string ⟨#[50]⟩)] 23))
    have Cn := Lib.hid ((C.out.keep B C.out.lt).alloc (.cells #[(.string ⟨#[45, 51]⟩), (.string ⟨#[50]⟩)] 23))
    have Dn := Lib.hid ((D.out.keep B D.out.lt).alloc (.cells #[(.string ⟨#[45, 51]⟩), (.string ⟨#[50]⟩)] 23))
    have Vn := Lib.hid ((V.out.keep B V.out.lt).alloc (.cells #[(.string ⟨#[45, 51]⟩), (.string ⟨#[50]⟩)] 23))
    have KKn := Lib.hid ((KK.out.keep B KK.out.lt).alloc (.cells #[(.string ⟨#[45, 51]⟩), (.string ⟨#[50]⟩)] 23))
    have Mn := Lib.hid ((M.out.keep B M.out.lt).alloc (.cells #[(.string ⟨#[45, 51]⟩), (.string ⟨#[50]⟩)] 23))
    have HBn := Lib.hid ((HB.out.trans (B.mono HB.out.size)).alloc (HB.out.trans (B.mono HB.out.size)).size (.cells #[(.string ⟨#[45, 51]⟩), (.string ⟨#[50]⟩)] 23))
    clear A Bb C D V KK M HB
    have A := An
    have Bb := Bbn
    have C := Cn
    have D := Dn
    have V := Vn
    have KK := KKn
    have M := Mn
    have HB := HBn
    clear An Bbn Cn Dn Vn KKn Mn HBn
    have O := Lib.hid (RBlk.new Wjr5 (.string ⟨#[45, 51]⟩) (.string ⟨#[50]⟩))
    clear B
    (try go_wp2_with fail)
    go_at_call 35
    refine (s_parse64 _ (HT.out.below HB.out)).mono ?_
    rintro e Wjr6 ⟨rfl, B⟩
    have An := Lib.hid ((A.out.keep B A.out.lt).alloc (.cells #[.string ⟨#[]⟩, .string ⟨#[]⟩] 23))
    have Bbn := Lib.hid ((Bb.out.keep B Bb.out.lt).alloc (.cells #[.string ⟨#[]⟩, .string ⟨#[]⟩] 23))
    have Cn := Lib.hid ((C.out.keep B C.out.lt).alloc (.cells #[.string ⟨#[]⟩, .string ⟨#[]⟩] 23))
    have Dn := Lib.hid ((D.out.keep B D.out.lt).alloc (.cells #[.string ⟨#[]⟩, .string ⟨#[]⟩] 23))
    have Vn := Lib.hid ((V.out.keep B V.out.lt).alloc (.cells #[.string ⟨#[]⟩, .string ⟨#[]⟩] 23))
    have KKn := Lib.hid ((KK.out.keep B KK.out.lt).alloc (.cells #[.string ⟨#[]⟩, .string ⟨#[]⟩] 23))
    have Mn := Lib.hid ((M.out.keep B M.out.lt).alloc (.cells #[.string ⟨#[]⟩, .string ⟨#[]⟩] 23))
    have On := Lib.hid ((O.out.keep B O.out.lt).alloc (.cells #[.string ⟨#[]⟩, .string ⟨#[]⟩] 23))
    have HBn := Lib.hid ((HB.out.trans (B.mono HB.out.size)).alloc (HB.out.trans (B.mono HB.out.size)).size (.cells #[.string ⟨#[]⟩, .string ⟨#[]⟩] 23))
    clear A Bb C D V KK M O HB
    have A := An
    have Bb := Bbn
    have C := Cn
    have D := Dn
    have V := Vn
    have KK := KKn
    have M := Mn
    have O := On
    have HB := HBn
    clear An Bbn Cn Dn Vn KKn Mn On HBn
    clear B
    go_upto_region 12 with fail
    generalize hW0jr12 : (Wjr6.alloc (.cells #[.string ⟨#[]⟩, .string ⟨#[]⟩] 23)) = W0jr12 at *
    clear hW0jr12
    refine wp_region_noPanic ?_
    refine wp_region_held_drew (S := fun W => RBlk W (W1.heap.size) (.string ⟨#[45, 51]⟩) (.string ⟨#[50]⟩) ∧ RBlk W (W2.heap.size) (.string ⟨#[48]⟩) (.string ⟨#[49]⟩) ∧ RBlk W (W6.heap.size) (.string ⟨#[53]⟩) (.string ⟨#[54]⟩) ∧ RBlk W (W9.heap.size) (.string ⟨#[45, 50]⟩) (.string ⟨#[49]⟩) ∧ RBlk W (Wjr2.heap.size) (.string ⟨#[45, 49, 55]⟩) (.string ⟨#[53, 48]⟩) ∧ RBlk W (Wjr4.heap.size) (.string ⟨#[49, 55]⟩) (.string ⟨#[53, 48]⟩) ∧ RBlk W (Wjr5.heap.size) (.string ⟨#[45, 51]⟩) (.string ⟨#[50]⟩)) (by kernel_rfl) ?_ (fun hHeld => ?_)
    · exact ⟨A.out, Bb.out, C.out, D.out, KK.out, M.out, O.out⟩
    have An := Lib.hid A.out.drew
    have Bbn := Lib.hid Bb.out.drew
    have Cn := Lib.hid C.out.drew
    have Dn := Lib.hid D.out.drew
    have Vn := Lib.hid V.out.drew
    have KKn := Lib.hid KK.out.drew
    have Mn := Lib.hid M.out.drew
    have On := Lib.hid O.out.drew
    have HBn := Lib.hid HB.out.drew
    clear A Bb C D V KK M O HB
    have A := An
    have Bb := Bbn
    have C := Cn
    have D := Dn
    have V := Vn
    have KK := KKn
    have M := Mn
    have O := On
    have HB := HBn
    clear An Bbn Cn Dn Vn KKn Mn On HBn
    refine wpAnyH_take (i := 0) (oi := ({ dst := some 108, op := Go.Op.move (Go.Operand.tmp 21), type := 4, pos := "law.go:46", after := #[], guard := none } : Oper)) (v := ?v0_1jr_12_2) rfl (by kernel_rfl) (by kernel_rfl) (by kernel_rfl) (fun _ _ _ h => h) (Or.inl ⟨by rfl, ?hy0_1jr_12_2⟩) (by assumption) ?re0_1jr_12_2
    case hy0_1jr_12_2 => ((intro w hSw; have e00 := hSw.1.c0; have e01 := hSw.1.c1; have e10 := hSw.2.1.c0; have e11 := hSw.2.1.c1; have e20 := hSw.2.2.1.c0; have e21 := hSw.2.2.1.c1; have e30 := hSw.2.2.2.1.c0; have e31 := hSw.2.2.2.1.c1; have e40 := hSw.2.2.2.2.1.c0; have e41 := hSw.2.2.2.2.1.c1; have e50 := hSw.2.2.2.2.2.1.c0; have e51 := hSw.2.2.2.2.2.1.c1; have e60 := hSw.2.2.2.2.2.2.c0; have e61 := hSw.2.2.2.2.2.2.c1; go_simp) <;> with_reducible rfl)
    (try simp only [Act.put, List.setIfInBounds_toArray, List.set_cons_zero, List.set_cons_succ])
    refine wpAnyH_take (i := 1) (oi := ({ dst := some 109, op := Go.Op.move (Go.Operand.tmp 108), type := 4, pos := "law.go:46", after := #[{ on := 0, ground := Go.Ground.data }], guard := none } : Oper)) (v := ?v1_2jr_12_2) rfl (by kernel_rfl) (by kernel_rfl) (by kernel_rfl) (fun _ _ _ h => h) (Or.inl ⟨by rfl, ?hy1_2jr_12_2⟩) (by assumption) ?re1_2jr_12_2
    case hy1_2jr_12_2 => ((intro w hSw; have e00 := hSw.1.c0; have e01 := hSw.1.c1; have e10 := hSw.2.1.c0; have e11 := hSw.2.1.c1; have e20 := hSw.2.2.1.c0; have e21 := hSw.2.2.1.c1; have e30 := hSw.2.2.2.1.c0; have e31 := hSw.2.2.2.1.c1; have e40 := hSw.2.2.2.2.1.c0; have e41 := hSw.2.2.2.2.1.c1; have e50 := hSw.2.2.2.2.2.1.c0; have e51 := hSw.2.2.2.2.2.1.c1; have e60 := hSw.2.2.2.2.2.2.c0; have e61 := hSw.2.2.2.2.2.2.c1; go_simp) <;> with_reducible rfl)
    (try simp only [Act.put, List.setIfInBounds_toArray, List.set_cons_zero, List.set_cons_succ])
    refine wpAnyH_take (i := 2) (oi := ({ dst := some 110, op := Go.Op.load 23 (Go.Operand.tmp 1), type := 23, pos := "law.go:46", after := #[{ on := 1, ground := Go.Ground.guard }], guard := some (1, true) } : Oper)) (v := ?v2_3jr_12_2) rfl (by kernel_rfl) (by kernel_rfl) (by kernel_rfl) (fun _ _ _ h => h) (Or.inl ⟨by rfl, ?hy2_3jr_12_2⟩) (by assumption) ?re2_3jr_12_2
    case hy2_3jr_12_2 => ((intro w hSw; have e00 := hSw.1.c0; have e01 := hSw.1.c1; have e10 := hSw.2.1.c0; have e11 := hSw.2.1.c1; have e20 := hSw.2.2.1.c0; have e21 := hSw.2.2.1.c1; have e30 := hSw.2.2.2.1.c0; have e31 := hSw.2.2.2.1.c1; have e40 := hSw.2.2.2.2.1.c0; have e41 := hSw.2.2.2.2.1.c1; have e50 := hSw.2.2.2.2.2.1.c0; have e51 := hSw.2.2.2.2.2.1.c1; have e60 := hSw.2.2.2.2.2.2.c0; have e61 := hSw.2.2.2.2.2.2.c1; go_simp) <;> with_reducible rfl)
    (try simp only [Act.put, List.setIfInBounds_toArray, List.set_cons_zero, List.set_cons_succ])
    refine wpAnyH_ready (rs := [3]) (by kernel_rfl) (by simp) ?_
    refine AllReadyH.cons (o := ({ dst := some 111, op := Go.Op.call { callee := Go.Callee.value (Go.Operand.func 54), args := #[Go.Operand.const (Go.Value.string { data := #[45, 51] }), Go.Operand.const (Go.Value.string { data := #[50] })], argTypes := #[9, 9] }, type := 23, pos := "law.go:46", after := #[{ on := 1, ground := Go.Ground.chain }, { on := 1, ground := Go.Ground.guard }], guard := some (1, true) } : Oper)) rfl (fun K hK => ?_) ?_
    · go_simp
      go_at_call 54
      refine (is_any _ _ _).mono ?_
      rintro e Wjr12_1 ⟨rfl, B⟩
      have An := Lib.hid (A.out.keep B A.out.lt)
      have Bbn := Lib.hid (Bb.out.keep B Bb.out.lt)
      have Cn := Lib.hid (C.out.keep B C.out.lt)
      have Dn := Lib.hid (D.out.keep B D.out.lt)
      have Vn := Lib.hid (V.out.keep B V.out.lt)
      have KKn := Lib.hid (KK.out.keep B KK.out.lt)
      have Mn := Lib.hid (M.out.keep B M.out.lt)
      have On := Lib.hid (O.out.keep B O.out.lt)
      have HBn := Lib.hid (HB.out.trans (B.mono HB.out.size))
      clear A Bb C D V KK M O HB
      have A := An
      have Bb := Bbn
      have C := Cn
      have D := Dn
      have V := Vn
      have KK := KKn
      have M := Mn
      have O := On
      have HB := HBn
      clear An Bbn Cn Dn Vn KKn Mn On HBn
      (try go_wp2_with fail)
      refine hK.out _ _ ?_ (fun hHeld => ?_)
      · exact ⟨hHeld.1.keep B hHeld.1.lt, hHeld.2.1.keep B hHeld.2.1.lt, hHeld.2.2.1.keep B hHeld.2.2.1.lt, hHeld.2.2.2.1.keep B hHeld.2.2.2.1.lt, hHeld.2.2.2.2.1.keep B hHeld.2.2.2.2.1.lt, hHeld.2.2.2.2.2.1.keep B hHeld.2.2.2.2.2.1.lt, hHeld.2.2.2.2.2.2.keep B hHeld.2.2.2.2.2.2.lt⟩
      clear hK K
      (try simp only [Act.put, List.setIfInBounds_toArray, List.set_cons_zero, List.set_cons_succ])
      clear B
      refine wpAnyH_take (i := 4) (oi := ({ dst := some 112, op := Go.Op.binOp Go.BinOp.eql 23 (Go.Operand.tmp 110) (Go.Operand.tmp 111) 23, type := 4, pos := "law.go:46", after := #[{ on := 2, ground := Go.Ground.data }, { on := 3, ground := Go.Ground.data }, { on := 1, ground := Go.Ground.guard }], guard := some (1, true) } : Oper)) (v := ?v4_4jr_12_2) rfl (by kernel_rfl) (by kernel_rfl) (by kernel_rfl) (fun _ _ _ h => h) (Or.inl ⟨by rfl, ?hy4_4jr_12_2⟩) (by assumption) ?re4_4jr_12_2
      case hy4_4jr_12_2 => ((intro w hSw; have e00 := hSw.1.c0; have e01 := hSw.1.c1; have e10 := hSw.2.1.c0; have e11 := hSw.2.1.c1; have e20 := hSw.2.2.1.c0; have e21 := hSw.2.2.1.c1; have e30 := hSw.2.2.2.1.c0; have e31 := hSw.2.2.2.1.c1; have e40 := hSw.2.2.2.2.1.c0; have e41 := hSw.2.2.2.2.1.c1; have e50 := hSw.2.2.2.2.2.1.c0; have e51 := hSw.2.2.2.2.2.1.c1; have e60 := hSw.2.2.2.2.2.2.c0; have e61 := hSw.2.2.2.2.2.2.c1; go_simp) <;> with_reducible rfl)
      (try simp only [Act.put, List.setIfInBounds_toArray, List.set_cons_zero, List.set_cons_succ])
      refine wpAnyH_take (i := 5) (oi := ({ dst := some 113, op := Go.Op.pick (Go.Operand.tmp 109) (Go.Operand.tmp 112) (Go.Operand.const (Go.Value.bool false)), type := 4, pos := "law.go:46", after := #[{ on := 1, ground := Go.Ground.data }, { on := 4, ground := Go.Ground.data }], guard := none } : Oper)) (v := ?v5_5jr_12_2) rfl (by kernel_rfl) (by kernel_rfl) (by kernel_rfl) (fun _ _ _ h => h) (Or.inl ⟨by rfl, ?hy5_5jr_12_2⟩) (by assumption) ?re5_5jr_12_2
      case hy5_5jr_12_2 => ((intro w hSw; have e00 := hSw.1.c0; have e01 := hSw.1.c1; have e10 := hSw.2.1.c0; have e11 := hSw.2.1.c1; have e20 := hSw.2.2.1.c0; have e21 := hSw.2.2.1.c1; have e30 := hSw.2.2.2.1.c0; have e31 := hSw.2.2.2.1.c1; have e40 := hSw.2.2.2.2.1.c0; have e41 := hSw.2.2.2.2.1.c1; have e50 := hSw.2.2.2.2.2.1.c0; have e51 := hSw.2.2.2.2.2.1.c1; have e60 := hSw.2.2.2.2.2.2.c0; have e61 := hSw.2.2.2.2.2.2.c1; go_simp) <;> with_reducible rfl)
      (try simp only [Act.put, List.setIfInBounds_toArray, List.set_cons_zero, List.set_cons_succ])
      refine wpAnyH_take (i := 6) (oi := ({ dst := some 114, op := Go.Op.move (Go.Operand.tmp 113), type := 4, pos := "law.go:46", after := #[{ on := 5, ground := Go.Ground.data }, { on := 3, ground := Go.Ground.chain }], guard := none } : Oper)) (v := ?v6_6jr_12_2) rfl (by kernel_rfl) (by kernel_rfl) (by kernel_rfl) (fun _ _ _ h => h) (Or.inl ⟨by rfl, ?hy6_6jr_12_2⟩) (by assumption) ?re6_6jr_12_2
      case hy6_6jr_12_2 => ((intro w hSw; have e00 := hSw.1.c0; have e01 := hSw.1.c1; have e10 := hSw.2.1.c0; have e11 := hSw.2.1.c1; have e20 := hSw.2.2.1.c0; have e21 := hSw.2.2.1.c1; have e30 := hSw.2.2.2.1.c0; have e31 := hSw.2.2.2.1.c1; have e40 := hSw.2.2.2.2.1.c0; have e41 := hSw.2.2.2.2.1.c1; have e50 := hSw.2.2.2.2.2.1.c0; have e51 := hSw.2.2.2.2.2.1.c1; have e60 := hSw.2.2.2.2.2.2.c0; have e61 := hSw.2.2.2.2.2.2.c1; go_simp) <;> with_reducible rfl)
      (try simp only [Act.put, List.setIfInBounds_toArray, List.set_cons_zero, List.set_cons_succ])
      refine wpAnyH_take (i := 7) (oi := ({ dst := some 115, op := Go.Op.load 23 (Go.Operand.tmp 3), type := 23, pos := "law.go:46", after := #[{ on := 6, ground := Go.Ground.guard }], guard := some (6, true) } : Oper)) (v := ?v7_7jr_12_2) rfl (by kernel_rfl) (by kernel_rfl) (by kernel_rfl) (fun _ _ _ h => h) (Or.inl ⟨by rfl, ?hy7_7jr_12_2⟩) (by assumption) ?re7_7jr_12_2
      case hy7_7jr_12_2 => ((intro w hSw; have e00 := hSw.1.c0; have e01 := hSw.1.c1; have e10 := hSw.2.1.c0; have e11 := hSw.2.1.c1; have e20 := hSw.2.2.1.c0; have e21 := hSw.2.2.1.c1; have e30 := hSw.2.2.2.1.c0; have e31 := hSw.2.2.2.1.c1; have e40 := hSw.2.2.2.2.1.c0; have e41 := hSw.2.2.2.2.1.c1; have e50 := hSw.2.2.2.2.2.1.c0; have e51 := hSw.2.2.2.2.2.1.c1; have e60 := hSw.2.2.2.2.2.2.c0; have e61 := hSw.2.2.2.2.2.2.c1; go_simp) <;> with_reducible rfl)
      (try simp only [Act.put, List.setIfInBounds_toArray, List.set_cons_zero, List.set_cons_succ])
      refine wpAnyH_ready (rs := [8]) (by kernel_rfl) (by simp) ?_
      refine AllReadyH.cons (o := ({ dst := some 116, op := Go.Op.call { callee := Go.Callee.value (Go.Operand.func 54), args := #[Go.Operand.const (Go.Value.string { data := #[48] }), Go.Operand.const (Go.Value.string { data := #[49] })], argTypes := #[9, 9] }, type := 23, pos := "law.go:46", after := #[{ on := 6, ground := Go.Ground.chain }, { on := 6, ground := Go.Ground.guard }], guard := some (6, true) } : Oper)) rfl (fun K hK => ?_) ?_
      · go_simp
        go_at_call 54
        refine (is_any _ _ _).mono ?_
        rintro e Wjr12_2 ⟨rfl, B⟩
        have An := Lib.hid (A.out.keep B A.out.lt)
        have Bbn := Lib.hid (Bb.out.keep B Bb.out.lt)
        have Cn := Lib.hid (C.out.keep B C.out.lt)
        have Dn := Lib.hid (D.out.keep B D.out.lt)
        have Vn := Lib.hid (V.out.keep B V.out.lt)
        have KKn := Lib.hid (KK.out.keep B KK.out.lt)
        have Mn := Lib.hid (M.out.keep B M.out.lt)
        have On := Lib.hid (O.out.keep B O.out.lt)
        have HBn := Lib.hid (HB.out.trans (B.mono HB.out.size))
        clear A Bb C D V KK M O HB
        have A := An
        have Bb := Bbn
        have C := Cn
        have D := Dn
        have V := Vn
        have KK := KKn
        have M := Mn
        have O := On
        have HB := HBn
        clear An Bbn Cn Dn Vn KKn Mn On HBn
        (try go_wp2_with fail)
        refine hK.out _ _ ?_ (fun hHeld => ?_)
        · exact ⟨hHeld.1.keep B hHeld.1.lt, hHeld.2.1.keep B hHeld.2.1.lt, hHeld.2.2.1.keep B hHeld.2.2.1.lt, hHeld.2.2.2.1.keep B hHeld.2.2.2.1.lt, hHeld.2.2.2.2.1.keep B hHeld.2.2.2.2.1.lt, hHeld.2.2.2.2.2.1.keep B hHeld.2.2.2.2.2.1.lt, hHeld.2.2.2.2.2.2.keep B hHeld.2.2.2.2.2.2.lt⟩
        clear hK K
        (try simp only [Act.put, List.setIfInBounds_toArray, List.set_cons_zero, List.set_cons_succ])
        clear B
        refine wpAnyH_take (i := 9) (oi := ({ dst := some 117, op := Go.Op.binOp Go.BinOp.eql 23 (Go.Operand.tmp 115) (Go.Operand.tmp 116) 23, type := 4, pos := "law.go:46", after := #[{ on := 7, ground := Go.Ground.data }, { on := 8, ground := Go.Ground.data }, { on := 6, ground := Go.Ground.guard }], guard := some (6, true) } : Oper)) (v := ?v9_8jr_12_2) rfl (by kernel_rfl) (by kernel_rfl) (by kernel_rfl) (fun _ _ _ h => h) (Or.inl ⟨by rfl, ?hy9_8jr_12_2⟩) (by assumption) ?re9_8jr_12_2
        case hy9_8jr_12_2 => ((intro w hSw; have e00 := hSw.1.c0; have e01 := hSw.1.c1; have e10 := hSw.2.1.c0; have e11 := hSw.2.1.c1; have e20 := hSw.2.2.1.c0; have e21 := hSw.2.2.1.c1; have e30 := hSw.2.2.2.1.c0; have e31 := hSw.2.2.2.1.c1; have e40 := hSw.2.2.2.2.1.c0; have e41 := hSw.2.2.2.2.1.c1; have e50 := hSw.2.2.2.2.2.1.c0; have e51 := hSw.2.2.2.2.2.1.c1; have e60 := hSw.2.2.2.2.2.2.c0; have e61 := hSw.2.2.2.2.2.2.c1; go_simp) <;> with_reducible rfl)
        (try simp only [Act.put, List.setIfInBounds_toArray, List.set_cons_zero, List.set_cons_succ])
        refine wpAnyH_take (i := 10) (oi := ({ dst := some 118, op := Go.Op.pick (Go.Operand.tmp 114) (Go.Operand.tmp 117) (Go.Operand.const (Go.Value.bool false)), type := 4, pos := "law.go:46", after := #[{ on := 6, ground := Go.Ground.data }, { on := 9, ground := Go.Ground.data }], guard := none } : Oper)) (v := ?v10_9jr_12_2) rfl (by kernel_rfl) (by kernel_rfl) (by kernel_rfl) (fun _ _ _ h => h) (Or.inl ⟨by rfl, ?hy10_9jr_12_2⟩) (by assumption) ?re10_9jr_12_2
        case hy10_9jr_12_2 => ((intro w hSw; have e00 := hSw.1.c0; have e01 := hSw.1.c1; have e10 := hSw.2.1.c0; have e11 := hSw.2.1.c1; have e20 := hSw.2.2.1.c0; have e21 := hSw.2.2.1.c1; have e30 := hSw.2.2.2.1.c0; have e31 := hSw.2.2.2.1.c1; have e40 := hSw.2.2.2.2.1.c0; have e41 := hSw.2.2.2.2.1.c1; have e50 := hSw.2.2.2.2.2.1.c0; have e51 := hSw.2.2.2.2.2.1.c1; have e60 := hSw.2.2.2.2.2.2.c0; have e61 := hSw.2.2.2.2.2.2.c1; go_simp) <;> with_reducible rfl)
        (try simp only [Act.put, List.setIfInBounds_toArray, List.set_cons_zero, List.set_cons_succ])
        refine wpAnyH_take (i := 11) (oi := ({ dst := some 119, op := Go.Op.move (Go.Operand.tmp 118), type := 4, pos := "law.go:46", after := #[{ on := 10, ground := Go.Ground.data }, { on := 8, ground := Go.Ground.chain }], guard := none } : Oper)) (v := ?v11_10jr_12_2) rfl (by kernel_rfl) (by kernel_rfl) (by kernel_rfl) (fun _ _ _ h => h) (Or.inl ⟨by rfl, ?hy11_10jr_12_2⟩) (by assumption) ?re11_10jr_12_2
        case hy11_10jr_12_2 => ((intro w hSw; have e00 := hSw.1.c0; have e01 := hSw.1.c1; have e10 := hSw.2.1.c0; have e11 := hSw.2.1.c1; have e20 := hSw.2.2.1.c0; have e21 := hSw.2.2.1.c1; have e30 := hSw.2.2.2.1.c0; have e31 := hSw.2.2.2.1.c1; have e40 := hSw.2.2.2.2.1.c0; have e41 := hSw.2.2.2.2.1.c1; have e50 := hSw.2.2.2.2.2.1.c0; have e51 := hSw.2.2.2.2.2.1.c1; have e60 := hSw.2.2.2.2.2.2.c0; have e61 := hSw.2.2.2.2.2.2.c1; go_simp) <;> with_reducible rfl)
        (try simp only [Act.put, List.setIfInBounds_toArray, List.set_cons_zero, List.set_cons_succ])
        refine wpAnyH_take (i := 12) (oi := ({ dst := some 120, op := Go.Op.load 23 (Go.Operand.tmp 7), type := 23, pos := "law.go:46", after := #[{ on := 11, ground := Go.Ground.guard }], guard := some (11, true) } : Oper)) (v := ?v12_11jr_12_2) rfl (by kernel_rfl) (by kernel_rfl) (by kernel_rfl) (fun _ _ _ h => h) (Or.inl ⟨by rfl, ?hy12_11jr_12_2⟩) (by assumption) ?re12_11jr_12_2
        case hy12_11jr_12_2 => ((intro w hSw; have e00 := hSw.1.c0; have e01 := hSw.1.c1; have e10 := hSw.2.1.c0; have e11 := hSw.2.1.c1; have e20 := hSw.2.2.1.c0; have e21 := hSw.2.2.1.c1; have e30 := hSw.2.2.2.1.c0; have e31 := hSw.2.2.2.1.c1; have e40 := hSw.2.2.2.2.1.c0; have e41 := hSw.2.2.2.2.1.c1; have e50 := hSw.2.2.2.2.2.1.c0; have e51 := hSw.2.2.2.2.2.1.c1; have e60 := hSw.2.2.2.2.2.2.c0; have e61 := hSw.2.2.2.2.2.2.c1; go_simp) <;> with_reducible rfl)
        (try simp only [Act.put, List.setIfInBounds_toArray, List.set_cons_zero, List.set_cons_succ])
        refine wpAnyH_ready (rs := [13]) (by kernel_rfl) (by simp) ?_
        refine AllReadyH.cons (o := ({ dst := some 121, op := Go.Op.call { callee := Go.Callee.value (Go.Operand.func 54), args := #[Go.Operand.const (Go.Value.string { data := #[53] }), Go.Operand.const (Go.Value.string { data := #[54] })], argTypes := #[9, 9] }, type := 23, pos := "law.go:46", after := #[{ on := 11, ground := Go.Ground.chain }, { on := 11, ground := Go.Ground.guard }], guard := some (11, true) } : Oper)) rfl (fun K hK => ?_) ?_
        · go_simp
          go_at_call 54
          refine (is_any _ _ _).mono ?_
          rintro e Wjr12_3 ⟨rfl, B⟩
          have An := Lib.hid (A.out.keep B A.out.lt)
          have Bbn := Lib.hid (Bb.out.keep B Bb.out.lt)
          have Cn := Lib.hid (C.out.keep B C.out.lt)
          have Dn := Lib.hid (D.out.keep B D.out.lt)
          have Vn := Lib.hid (V.out.keep B V.out.lt)
          have KKn := Lib.hid (KK.out.keep B KK.out.lt)
          have Mn := Lib.hid (M.out.keep B M.out.lt)
          have On := Lib.hid (O.out.keep B O.out.lt)
          have HBn := Lib.hid (HB.out.trans (B.mono HB.out.size))
          clear A Bb C D V KK M O HB
          have A := An
          have Bb := Bbn
          have C := Cn
          have D := Dn
          have V := Vn
          have KK := KKn
          have M := Mn
          have O := On
          have HB := HBn
          clear An Bbn Cn Dn Vn KKn Mn On HBn
          (try go_wp2_with fail)
          refine hK.out _ _ ?_ (fun hHeld => ?_)
          · exact ⟨hHeld.1.keep B hHeld.1.lt, hHeld.2.1.keep B hHeld.2.1.lt, hHeld.2.2.1.keep B hHeld.2.2.1.lt, hHeld.2.2.2.1.keep B hHeld.2.2.2.1.lt, hHeld.2.2.2.2.1.keep B hHeld.2.2.2.2.1.lt, hHeld.2.2.2.2.2.1.keep B hHeld.2.2.2.2.2.1.lt, hHeld.2.2.2.2.2.2.keep B hHeld.2.2.2.2.2.2.lt⟩
          clear hK K
          (try simp only [Act.put, List.setIfInBounds_toArray, List.set_cons_zero, List.set_cons_succ])
          clear B
          refine wpAnyH_take (i := 14) (oi := ({ dst := some 122, op := Go.Op.binOp Go.BinOp.eql 23 (Go.Operand.tmp 120) (Go.Operand.tmp 121) 23, type := 4, pos := "law.go:46", after := #[{ on := 12, ground := Go.Ground.data }, { on := 13, ground := Go.Ground.data }, { on := 11, ground := Go.Ground.guard }], guard := some (11, true) } : Oper)) (v := ?v14_12jr_12_2) rfl (by kernel_rfl) (by kernel_rfl) (by kernel_rfl) (fun _ _ _ h => h) (Or.inl ⟨by rfl, ?hy14_12jr_12_2⟩) (by assumption) ?re14_12jr_12_2
          case hy14_12jr_12_2 => ((intro w hSw; have e00 := hSw.1.c0; have e01 := hSw.1.c1; have e10 := hSw.2.1.c0; have e11 := hSw.2.1.c1; have e20 := hSw.2.2.1.c0; have e21 := hSw.2.2.1.c1; have e30 := hSw.2.2.2.1.c0; have e31 := hSw.2.2.2.1.c1; have e40 := hSw.2.2.2.2.1.c0; have e41 := hSw.2.2.2.2.1.c1; have e50 := hSw.2.2.2.2.2.1.c0; have e51 := hSw.2.2.2.2.2.1.c1; have e60 := hSw.2.2.2.2.2.2.c0; have e61 := hSw.2.2.2.2.2.2.c1; go_simp) <;> with_reducible rfl)
          (try simp only [Act.put, List.setIfInBounds_toArray, List.set_cons_zero, List.set_cons_succ])
          refine wpAnyH_take (i := 15) (oi := ({ dst := some 123, op := Go.Op.pick (Go.Operand.tmp 119) (Go.Operand.tmp 122) (Go.Operand.const (Go.Value.bool false)), type := 4, pos := "law.go:46", after := #[{ on := 11, ground := Go.Ground.data }, { on := 14, ground := Go.Ground.data }], guard := none } : Oper)) (v := ?v15_13jr_12_2) rfl (by kernel_rfl) (by kernel_rfl) (by kernel_rfl) (fun _ _ _ h => h) (Or.inl ⟨by rfl, ?hy15_13jr_12_2⟩) (by assumption) ?re15_13jr_12_2
          case hy15_13jr_12_2 => ((intro w hSw; have e00 := hSw.1.c0; have e01 := hSw.1.c1; have e10 := hSw.2.1.c0; have e11 := hSw.2.1.c1; have e20 := hSw.2.2.1.c0; have e21 := hSw.2.2.1.c1; have e30 := hSw.2.2.2.1.c0; have e31 := hSw.2.2.2.1.c1; have e40 := hSw.2.2.2.2.1.c0; have e41 := hSw.2.2.2.2.1.c1; have e50 := hSw.2.2.2.2.2.1.c0; have e51 := hSw.2.2.2.2.2.1.c1; have e60 := hSw.2.2.2.2.2.2.c0; have e61 := hSw.2.2.2.2.2.2.c1; go_simp) <;> with_reducible rfl)
          (try simp only [Act.put, List.setIfInBounds_toArray, List.set_cons_zero, List.set_cons_succ])
          refine wpAnyH_take (i := 16) (oi := ({ dst := some 124, op := Go.Op.move (Go.Operand.tmp 123), type := 4, pos := "law.go:46", after := #[{ on := 15, ground := Go.Ground.data }, { on := 13, ground := Go.Ground.chain }], guard := none } : Oper)) (v := ?v16_14jr_12_2) rfl (by kernel_rfl) (by kernel_rfl) (by kernel_rfl) (fun _ _ _ h => h) (Or.inl ⟨by rfl, ?hy16_14jr_12_2⟩) (by assumption) ?re16_14jr_12_2
          case hy16_14jr_12_2 => ((intro w hSw; have e00 := hSw.1.c0; have e01 := hSw.1.c1; have e10 := hSw.2.1.c0; have e11 := hSw.2.1.c1; have e20 := hSw.2.2.1.c0; have e21 := hSw.2.2.1.c1; have e30 := hSw.2.2.2.1.c0; have e31 := hSw.2.2.2.1.c1; have e40 := hSw.2.2.2.2.1.c0; have e41 := hSw.2.2.2.2.1.c1; have e50 := hSw.2.2.2.2.2.1.c0; have e51 := hSw.2.2.2.2.2.1.c1; have e60 := hSw.2.2.2.2.2.2.c0; have e61 := hSw.2.2.2.2.2.2.c1; go_simp) <;> with_reducible rfl)
          (try simp only [Act.put, List.setIfInBounds_toArray, List.set_cons_zero, List.set_cons_succ])
          refine wpAnyH_take (i := 17) (oi := ({ dst := some 125, op := Go.Op.load 23 (Go.Operand.tmp 9), type := 23, pos := "law.go:46", after := #[{ on := 16, ground := Go.Ground.guard }], guard := some (16, true) } : Oper)) (v := ?v17_15jr_12_2) rfl (by kernel_rfl) (by kernel_rfl) (by kernel_rfl) (fun _ _ _ h => h) (Or.inl ⟨by rfl, ?hy17_15jr_12_2⟩) (by assumption) ?re17_15jr_12_2
          case hy17_15jr_12_2 => ((intro w hSw; have e00 := hSw.1.c0; have e01 := hSw.1.c1; have e10 := hSw.2.1.c0; have e11 := hSw.2.1.c1; have e20 := hSw.2.2.1.c0; have e21 := hSw.2.2.1.c1; have e30 := hSw.2.2.2.1.c0; have e31 := hSw.2.2.2.1.c1; have e40 := hSw.2.2.2.2.1.c0; have e41 := hSw.2.2.2.2.1.c1; have e50 := hSw.2.2.2.2.2.1.c0; have e51 := hSw.2.2.2.2.2.1.c1; have e60 := hSw.2.2.2.2.2.2.c0; have e61 := hSw.2.2.2.2.2.2.c1; go_simp) <;> with_reducible rfl)
          (try simp only [Act.put, List.setIfInBounds_toArray, List.set_cons_zero, List.set_cons_succ])
          refine wpAnyH_ready (rs := [18]) (by kernel_rfl) (by simp) ?_
          refine AllReadyH.cons (o := ({ dst := some 126, op := Go.Op.call { callee := Go.Callee.value (Go.Operand.func 54), args := #[Go.Operand.const (Go.Value.string { data := #[45, 50] }), Go.Operand.const (Go.Value.string { data := #[49] })], argTypes := #[9, 9] }, type := 23, pos := "law.go:46", after := #[{ on := 16, ground := Go.Ground.chain }, { on := 16, ground := Go.Ground.guard }], guard := some (16, true) } : Oper)) rfl (fun K hK => ?_) ?_
          · go_simp
            go_at_call 54
            refine (is_any _ _ _).mono ?_
            rintro e Wjr12_4 ⟨rfl, B⟩
            have An := Lib.hid (A.out.keep B A.out.lt)
            have Bbn := Lib.hid (Bb.out.keep B Bb.out.lt)
            have Cn := Lib.hid (C.out.keep B C.out.lt)
            have Dn := Lib.hid (D.out.keep B D.out.lt)
            have Vn := Lib.hid (V.out.keep B V.out.lt)
            have KKn := Lib.hid (KK.out.keep B KK.out.lt)
            have Mn := Lib.hid (M.out.keep B M.out.lt)
            have On := Lib.hid (O.out.keep B O.out.lt)
            have HBn := Lib.hid (HB.out.trans (B.mono HB.out.size))
            clear A Bb C D V KK M O HB
            have A := An
            have Bb := Bbn
            have C := Cn
            have D := Dn
            have V := Vn
            have KK := KKn
            have M := Mn
            have O := On
            have HB := HBn
            clear An Bbn Cn Dn Vn KKn Mn On HBn
            (try go_wp2_with fail)
            refine hK.out _ _ ?_ (fun hHeld => ?_)
            · exact ⟨hHeld.1.keep B hHeld.1.lt, hHeld.2.1.keep B hHeld.2.1.lt, hHeld.2.2.1.keep B hHeld.2.2.1.lt, hHeld.2.2.2.1.keep B hHeld.2.2.2.1.lt, hHeld.2.2.2.2.1.keep B hHeld.2.2.2.2.1.lt, hHeld.2.2.2.2.2.1.keep B hHeld.2.2.2.2.2.1.lt, hHeld.2.2.2.2.2.2.keep B hHeld.2.2.2.2.2.2.lt⟩
            clear hK K
            (try simp only [Act.put, List.setIfInBounds_toArray, List.set_cons_zero, List.set_cons_succ])
            clear B
            refine wpAnyH_take (i := 19) (oi := ({ dst := some 127, op := Go.Op.binOp Go.BinOp.eql 23 (Go.Operand.tmp 125) (Go.Operand.tmp 126) 23, type := 4, pos := "law.go:46", after := #[{ on := 17, ground := Go.Ground.data }, { on := 18, ground := Go.Ground.data }, { on := 16, ground := Go.Ground.guard }], guard := some (16, true) } : Oper)) (v := ?v19_16jr_12_2) rfl (by kernel_rfl) (by kernel_rfl) (by kernel_rfl) (fun _ _ _ h => h) (Or.inl ⟨by rfl, ?hy19_16jr_12_2⟩) (by assumption) ?re19_16jr_12_2
            case hy19_16jr_12_2 => ((intro w hSw; have e00 := hSw.1.c0; have e01 := hSw.1.c1; have e10 := hSw.2.1.c0; have e11 := hSw.2.1.c1; have e20 := hSw.2.2.1.c0; have e21 := hSw.2.2.1.c1; have e30 := hSw.2.2.2.1.c0; have e31 := hSw.2.2.2.1.c1; have e40 := hSw.2.2.2.2.1.c0; have e41 := hSw.2.2.2.2.1.c1; have e50 := hSw.2.2.2.2.2.1.c0; have e51 := hSw.2.2.2.2.2.1.c1; have e60 := hSw.2.2.2.2.2.2.c0; have e61 := hSw.2.2.2.2.2.2.c1; go_simp) <;> with_reducible rfl)
            (try simp only [Act.put, List.setIfInBounds_toArray, List.set_cons_zero, List.set_cons_succ])
            refine wpAnyH_take (i := 20) (oi := ({ dst := some 128, op := Go.Op.pick (Go.Operand.tmp 124) (Go.Operand.tmp 127) (Go.Operand.const (Go.Value.bool false)), type := 4, pos := "law.go:46", after := #[{ on := 16, ground := Go.Ground.data }, { on := 19, ground := Go.Ground.data }], guard := none } : Oper)) (v := ?v20_17jr_12_2) rfl (by kernel_rfl) (by kernel_rfl) (by kernel_rfl) (fun _ _ _ h => h) (Or.inl ⟨by rfl, ?hy20_17jr_12_2⟩) (by assumption) ?re20_17jr_12_2
            case hy20_17jr_12_2 => ((intro w hSw; have e00 := hSw.1.c0; have e01 := hSw.1.c1; have e10 := hSw.2.1.c0; have e11 := hSw.2.1.c1; have e20 := hSw.2.2.1.c0; have e21 := hSw.2.2.1.c1; have e30 := hSw.2.2.2.1.c0; have e31 := hSw.2.2.2.1.c1; have e40 := hSw.2.2.2.2.1.c0; have e41 := hSw.2.2.2.2.1.c1; have e50 := hSw.2.2.2.2.2.1.c0; have e51 := hSw.2.2.2.2.2.1.c1; have e60 := hSw.2.2.2.2.2.2.c0; have e61 := hSw.2.2.2.2.2.2.c1; go_simp) <;> with_reducible rfl)
            (try simp only [Act.put, List.setIfInBounds_toArray, List.set_cons_zero, List.set_cons_succ])
            refine wpAnyH_take (i := 21) (oi := ({ dst := some 129, op := Go.Op.move (Go.Operand.tmp 128), type := 4, pos := "law.go:46", after := #[{ on := 20, ground := Go.Ground.data }, { on := 18, ground := Go.Ground.chain }], guard := none } : Oper)) (v := ?v21_18jr_12_2) rfl (by kernel_rfl) (by kernel_rfl) (by kernel_rfl) (fun _ _ _ h => h) (Or.inl ⟨by rfl, ?hy21_18jr_12_2⟩) (by assumption) ?re21_18jr_12_2
            case hy21_18jr_12_2 => ((intro w hSw; have e00 := hSw.1.c0; have e01 := hSw.1.c1; have e10 := hSw.2.1.c0; have e11 := hSw.2.1.c1; have e20 := hSw.2.2.1.c0; have e21 := hSw.2.2.1.c1; have e30 := hSw.2.2.2.1.c0; have e31 := hSw.2.2.2.1.c1; have e40 := hSw.2.2.2.2.1.c0; have e41 := hSw.2.2.2.2.1.c1; have e50 := hSw.2.2.2.2.2.1.c0; have e51 := hSw.2.2.2.2.2.1.c1; have e60 := hSw.2.2.2.2.2.2.c0; have e61 := hSw.2.2.2.2.2.2.c1; go_simp) <;> with_reducible rfl)
            (try simp only [Act.put, List.setIfInBounds_toArray, List.set_cons_zero, List.set_cons_succ])
            refine wpAnyH_take (i := 22) (oi := ({ dst := some 130, op := Go.Op.load 23 (Go.Operand.tmp 13), type := 23, pos := "law.go:46", after := #[{ on := 21, ground := Go.Ground.guard }], guard := some (21, true) } : Oper)) (v := ?v22_19jr_12_2) rfl (by kernel_rfl) (by kernel_rfl) (by kernel_rfl) (fun _ _ _ h => h) (Or.inl ⟨by rfl, ?hy22_19jr_12_2⟩) (by assumption) ?re22_19jr_12_2
            case hy22_19jr_12_2 => ((intro w hSw; have e00 := hSw.1.c0; have e01 := hSw.1.c1; have e10 := hSw.2.1.c0; have e11 := hSw.2.1.c1; have e20 := hSw.2.2.1.c0; have e21 := hSw.2.2.1.c1; have e30 := hSw.2.2.2.1.c0; have e31 := hSw.2.2.2.1.c1; have e40 := hSw.2.2.2.2.1.c0; have e41 := hSw.2.2.2.2.1.c1; have e50 := hSw.2.2.2.2.2.1.c0; have e51 := hSw.2.2.2.2.2.1.c1; have e60 := hSw.2.2.2.2.2.2.c0; have e61 := hSw.2.2.2.2.2.2.c1; go_simp) <;> with_reducible rfl)
            (try simp only [Act.put, List.setIfInBounds_toArray, List.set_cons_zero, List.set_cons_succ])
            refine wpAnyH_ready (rs := [23]) (by kernel_rfl) (by simp) ?_
            refine AllReadyH.cons (o := ({ dst := some 131, op := Go.Op.call { callee := Go.Callee.value (Go.Operand.func 54), args := #[Go.Operand.const (Go.Value.string { data := #[45, 49, 55] }), Go.Operand.const (Go.Value.string { data := #[53, 48] })], argTypes := #[9, 9] }, type := 23, pos := "law.go:46", after := #[{ on := 21, ground := Go.Ground.chain }, { on := 21, ground := Go.Ground.guard }], guard := some (21, true) } : Oper)) rfl (fun K hK => ?_) ?_
            · go_simp
              go_at_call 54
              refine (is_any _ _ _).mono ?_
              rintro e Wjr12_5 ⟨rfl, B⟩
              have An := Lib.hid (A.out.keep B A.out.lt)
              have Bbn := Lib.hid (Bb.out.keep B Bb.out.lt)
              have Cn := Lib.hid (C.out.keep B C.out.lt)
              have Dn := Lib.hid (D.out.keep B D.out.lt)
              have Vn := Lib.hid (V.out.keep B V.out.lt)
              have KKn := Lib.hid (KK.out.keep B KK.out.lt)
              have Mn := Lib.hid (M.out.keep B M.out.lt)
              have On := Lib.hid (O.out.keep B O.out.lt)
              have HBn := Lib.hid (HB.out.trans (B.mono HB.out.size))
              clear A Bb C D V KK M O HB
              have A := An
              have Bb := Bbn
              have C := Cn
              have D := Dn
              have V := Vn
              have KK := KKn
              have M := Mn
              have O := On
              have HB := HBn
              clear An Bbn Cn Dn Vn KKn Mn On HBn
              (try go_wp2_with fail)
              refine hK.out _ _ ?_ (fun hHeld => ?_)
              · exact ⟨hHeld.1.keep B hHeld.1.lt, hHeld.2.1.keep B hHeld.2.1.lt, hHeld.2.2.1.keep B hHeld.2.2.1.lt, hHeld.2.2.2.1.keep B hHeld.2.2.2.1.lt, hHeld.2.2.2.2.1.keep B hHeld.2.2.2.2.1.lt, hHeld.2.2.2.2.2.1.keep B hHeld.2.2.2.2.2.1.lt, hHeld.2.2.2.2.2.2.keep B hHeld.2.2.2.2.2.2.lt⟩
              clear hK K
              (try simp only [Act.put, List.setIfInBounds_toArray, List.set_cons_zero, List.set_cons_succ])
              clear B
              refine wpAnyH_take (i := 24) (oi := ({ dst := some 132, op := Go.Op.binOp Go.BinOp.eql 23 (Go.Operand.tmp 130) (Go.Operand.tmp 131) 23, type := 4, pos := "law.go:46", after := #[{ on := 22, ground := Go.Ground.data }, { on := 23, ground := Go.Ground.data }, { on := 21, ground := Go.Ground.guard }], guard := some (21, true) } : Oper)) (v := ?v24_20jr_12_2) rfl (by kernel_rfl) (by kernel_rfl) (by kernel_rfl) (fun _ _ _ h => h) (Or.inl ⟨by rfl, ?hy24_20jr_12_2⟩) (by assumption) ?re24_20jr_12_2
              case hy24_20jr_12_2 => ((intro w hSw; have e00 := hSw.1.c0; have e01 := hSw.1.c1; have e10 := hSw.2.1.c0; have e11 := hSw.2.1.c1; have e20 := hSw.2.2.1.c0; have e21 := hSw.2.2.1.c1; have e30 := hSw.2.2.2.1.c0; have e31 := hSw.2.2.2.1.c1; have e40 := hSw.2.2.2.2.1.c0; have e41 := hSw.2.2.2.2.1.c1; have e50 := hSw.2.2.2.2.2.1.c0; have e51 := hSw.2.2.2.2.2.1.c1; have e60 := hSw.2.2.2.2.2.2.c0; have e61 := hSw.2.2.2.2.2.2.c1; go_simp) <;> with_reducible rfl)
              (try simp only [Act.put, List.setIfInBounds_toArray, List.set_cons_zero, List.set_cons_succ])
              refine wpAnyH_take (i := 25) (oi := ({ dst := some 133, op := Go.Op.pick (Go.Operand.tmp 129) (Go.Operand.tmp 132) (Go.Operand.const (Go.Value.bool false)), type := 4, pos := "law.go:46", after := #[{ on := 21, ground := Go.Ground.data }, { on := 24, ground := Go.Ground.data }], guard := none } : Oper)) (v := ?v25_21jr_12_2) rfl (by kernel_rfl) (by kernel_rfl) (by kernel_rfl) (fun _ _ _ h => h) (Or.inl ⟨by rfl, ?hy25_21jr_12_2⟩) (by assumption) ?re25_21jr_12_2
              case hy25_21jr_12_2 => ((intro w hSw; have e00 := hSw.1.c0; have e01 := hSw.1.c1; have e10 := hSw.2.1.c0; have e11 := hSw.2.1.c1; have e20 := hSw.2.2.1.c0; have e21 := hSw.2.2.1.c1; have e30 := hSw.2.2.2.1.c0; have e31 := hSw.2.2.2.1.c1; have e40 := hSw.2.2.2.2.1.c0; have e41 := hSw.2.2.2.2.1.c1; have e50 := hSw.2.2.2.2.2.1.c0; have e51 := hSw.2.2.2.2.2.1.c1; have e60 := hSw.2.2.2.2.2.2.c0; have e61 := hSw.2.2.2.2.2.2.c1; go_simp) <;> with_reducible rfl)
              (try simp only [Act.put, List.setIfInBounds_toArray, List.set_cons_zero, List.set_cons_succ])
              refine wpAnyH_take (i := 26) (oi := ({ dst := some 134, op := Go.Op.move (Go.Operand.tmp 133), type := 4, pos := "law.go:46", after := #[{ on := 25, ground := Go.Ground.data }, { on := 23, ground := Go.Ground.chain }], guard := none } : Oper)) (v := ?v26_22jr_12_2) rfl (by kernel_rfl) (by kernel_rfl) (by kernel_rfl) (fun _ _ _ h => h) (Or.inl ⟨by rfl, ?hy26_22jr_12_2⟩) (by assumption) ?re26_22jr_12_2
              case hy26_22jr_12_2 => ((intro w hSw; have e00 := hSw.1.c0; have e01 := hSw.1.c1; have e10 := hSw.2.1.c0; have e11 := hSw.2.1.c1; have e20 := hSw.2.2.1.c0; have e21 := hSw.2.2.1.c1; have e30 := hSw.2.2.2.1.c0; have e31 := hSw.2.2.2.1.c1; have e40 := hSw.2.2.2.2.1.c0; have e41 := hSw.2.2.2.2.1.c1; have e50 := hSw.2.2.2.2.2.1.c0; have e51 := hSw.2.2.2.2.2.1.c1; have e60 := hSw.2.2.2.2.2.2.c0; have e61 := hSw.2.2.2.2.2.2.c1; go_simp) <;> with_reducible rfl)
              (try simp only [Act.put, List.setIfInBounds_toArray, List.set_cons_zero, List.set_cons_succ])
              refine wpAnyH_take (i := 27) (oi := ({ dst := some 135, op := Go.Op.load 23 (Go.Operand.tmp 15), type := 23, pos := "law.go:46", after := #[{ on := 26, ground := Go.Ground.guard }], guard := some (26, true) } : Oper)) (v := ?v27_23jr_12_2) rfl (by kernel_rfl) (by kernel_rfl) (by kernel_rfl) (fun _ _ _ h => h) (Or.inl ⟨by rfl, ?hy27_23jr_12_2⟩) (by assumption) ?re27_23jr_12_2
              case hy27_23jr_12_2 => ((intro w hSw; have e00 := hSw.1.c0; have e01 := hSw.1.c1; have e10 := hSw.2.1.c0; have e11 := hSw.2.1.c1; have e20 := hSw.2.2.1.c0; have e21 := hSw.2.2.1.c1; have e30 := hSw.2.2.2.1.c0; have e31 := hSw.2.2.2.1.c1; have e40 := hSw.2.2.2.2.1.c0; have e41 := hSw.2.2.2.2.1.c1; have e50 := hSw.2.2.2.2.2.1.c0; have e51 := hSw.2.2.2.2.2.1.c1; have e60 := hSw.2.2.2.2.2.2.c0; have e61 := hSw.2.2.2.2.2.2.c1; go_simp) <;> with_reducible rfl)
              (try simp only [Act.put, List.setIfInBounds_toArray, List.set_cons_zero, List.set_cons_succ])
              refine wpAnyH_ready (rs := [28]) (by kernel_rfl) (by simp) ?_
              refine AllReadyH.cons (o := ({ dst := some 136, op := Go.Op.call { callee := Go.Callee.value (Go.Operand.func 54), args := #[Go.Operand.const (Go.Value.string { data := #[49, 55] }), Go.Operand.const (Go.Value.string { data := #[53, 48] })], argTypes := #[9, 9] }, type := 23, pos := "law.go:46", after := #[{ on := 26, ground := Go.Ground.chain }, { on := 26, ground := Go.Ground.guard }], guard := some (26, true) } : Oper)) rfl (fun K hK => ?_) ?_
              · go_simp
                go_at_call 54
                refine (is_any _ _ _).mono ?_
                rintro e Wjr12_6 ⟨rfl, B⟩
                have An := Lib.hid (A.out.keep B A.out.lt)
                have Bbn := Lib.hid (Bb.out.keep B Bb.out.lt)
                have Cn := Lib.hid (C.out.keep B C.out.lt)
                have Dn := Lib.hid (D.out.keep B D.out.lt)
                have Vn := Lib.hid (V.out.keep B V.out.lt)
                have KKn := Lib.hid (KK.out.keep B KK.out.lt)
                have Mn := Lib.hid (M.out.keep B M.out.lt)
                have On := Lib.hid (O.out.keep B O.out.lt)
                have HBn := Lib.hid (HB.out.trans (B.mono HB.out.size))
                clear A Bb C D V KK M O HB
                have A := An
                have Bb := Bbn
                have C := Cn
                have D := Dn
                have V := Vn
                have KK := KKn
                have M := Mn
                have O := On
                have HB := HBn
                clear An Bbn Cn Dn Vn KKn Mn On HBn
                (try go_wp2_with fail)
                refine hK.out _ _ ?_ (fun hHeld => ?_)
                · exact ⟨hHeld.1.keep B hHeld.1.lt, hHeld.2.1.keep B hHeld.2.1.lt, hHeld.2.2.1.keep B hHeld.2.2.1.lt, hHeld.2.2.2.1.keep B hHeld.2.2.2.1.lt, hHeld.2.2.2.2.1.keep B hHeld.2.2.2.2.1.lt, hHeld.2.2.2.2.2.1.keep B hHeld.2.2.2.2.2.1.lt, hHeld.2.2.2.2.2.2.keep B hHeld.2.2.2.2.2.2.lt⟩
                clear hK K
                (try simp only [Act.put, List.setIfInBounds_toArray, List.set_cons_zero, List.set_cons_succ])
                clear B
                refine wpAnyH_take (i := 29) (oi := ({ dst := some 137, op := Go.Op.binOp Go.BinOp.eql 23 (Go.Operand.tmp 135) (Go.Operand.tmp 136) 23, type := 4, pos := "law.go:46", after := #[{ on := 27, ground := Go.Ground.data }, { on := 28, ground := Go.Ground.data }, { on := 26, ground := Go.Ground.guard }], guard := some (26, true) } : Oper)) (v := ?v29_24jr_12_2) rfl (by kernel_rfl) (by kernel_rfl) (by kernel_rfl) (fun _ _ _ h => h) (Or.inl ⟨by rfl, ?hy29_24jr_12_2⟩) (by assumption) ?re29_24jr_12_2
                case hy29_24jr_12_2 => ((intro w hSw; have e00 := hSw.1.c0; have e01 := hSw.1.c1; have e10 := hSw.2.1.c0; have e11 := hSw.2.1.c1; have e20 := hSw.2.2.1.c0; have e21 := hSw.2.2.1.c1; have e30 := hSw.2.2.2.1.c0; have e31 := hSw.2.2.2.1.c1; have e40 := hSw.2.2.2.2.1.c0; have e41 := hSw.2.2.2.2.1.c1; have e50 := hSw.2.2.2.2.2.1.c0; have e51 := hSw.2.2.2.2.2.1.c1; have e60 := hSw.2.2.2.2.2.2.c0; have e61 := hSw.2.2.2.2.2.2.c1; go_simp) <;> with_reducible rfl)
                (try simp only [Act.put, List.setIfInBounds_toArray, List.set_cons_zero, List.set_cons_succ])
                refine wpAnyH_take (i := 30) (oi := ({ dst := some 138, op := Go.Op.pick (Go.Operand.tmp 134) (Go.Operand.tmp 137) (Go.Operand.const (Go.Value.bool false)), type := 4, pos := "law.go:46", after := #[{ on := 26, ground := Go.Ground.data }, { on := 29, ground := Go.Ground.data }], guard := none } : Oper)) (v := ?v30_25jr_12_2) rfl (by kernel_rfl) (by kernel_rfl) (by kernel_rfl) (fun _ _ _ h => h) (Or.inl ⟨by rfl, ?hy30_25jr_12_2⟩) (by assumption) ?re30_25jr_12_2
                case hy30_25jr_12_2 => ((intro w hSw; have e00 := hSw.1.c0; have e01 := hSw.1.c1; have e10 := hSw.2.1.c0; have e11 := hSw.2.1.c1; have e20 := hSw.2.2.1.c0; have e21 := hSw.2.2.1.c1; have e30 := hSw.2.2.2.1.c0; have e31 := hSw.2.2.2.1.c1; have e40 := hSw.2.2.2.2.1.c0; have e41 := hSw.2.2.2.2.1.c1; have e50 := hSw.2.2.2.2.2.1.c0; have e51 := hSw.2.2.2.2.2.1.c1; have e60 := hSw.2.2.2.2.2.2.c0; have e61 := hSw.2.2.2.2.2.2.c1; go_simp) <;> with_reducible rfl)
                (try simp only [Act.put, List.setIfInBounds_toArray, List.set_cons_zero, List.set_cons_succ])
                refine wpAnyH_take (i := 31) (oi := ({ dst := some 139, op := Go.Op.move (Go.Operand.tmp 138), type := 4, pos := "law.go:46", after := #[{ on := 30, ground := Go.Ground.data }, { on := 28, ground := Go.Ground.chain }], guard := none } : Oper)) (v := ?v31_26jr_12_2) rfl (by kernel_rfl) (by kernel_rfl) (by kernel_rfl) (fun _ _ _ h => h) (Or.inl ⟨by rfl, ?hy31_26jr_12_2⟩) (by assumption) ?re31_26jr_12_2
                case hy31_26jr_12_2 => ((intro w hSw; have e00 := hSw.1.c0; have e01 := hSw.1.c1; have e10 := hSw.2.1.c0; have e11 := hSw.2.1.c1; have e20 := hSw.2.2.1.c0; have e21 := hSw.2.2.1.c1; have e30 := hSw.2.2.2.1.c0; have e31 := hSw.2.2.2.1.c1; have e40 := hSw.2.2.2.2.1.c0; have e41 := hSw.2.2.2.2.1.c1; have e50 := hSw.2.2.2.2.2.1.c0; have e51 := hSw.2.2.2.2.2.1.c1; have e60 := hSw.2.2.2.2.2.2.c0; have e61 := hSw.2.2.2.2.2.2.c1; go_simp) <;> with_reducible rfl)
                (try simp only [Act.put, List.setIfInBounds_toArray, List.set_cons_zero, List.set_cons_succ])
                refine wpAnyH_take (i := 32) (oi := ({ dst := some 140, op := Go.Op.load 23 (Go.Operand.tmp 17), type := 23, pos := "law.go:46", after := #[{ on := 31, ground := Go.Ground.guard }], guard := some (31, true) } : Oper)) (v := ?v32_27jr_12_2) rfl (by kernel_rfl) (by kernel_rfl) (by kernel_rfl) (fun _ _ _ h => h) (Or.inl ⟨by rfl, ?hy32_27jr_12_2⟩) (by assumption) ?re32_27jr_12_2
                case hy32_27jr_12_2 => ((intro w hSw; have e00 := hSw.1.c0; have e01 := hSw.1.c1; have e10 := hSw.2.1.c0; have e11 := hSw.2.1.c1; have e20 := hSw.2.2.1.c0; have e21 := hSw.2.2.1.c1; have e30 := hSw.2.2.2.1.c0; have e31 := hSw.2.2.2.1.c1; have e40 := hSw.2.2.2.2.1.c0; have e41 := hSw.2.2.2.2.1.c1; have e50 := hSw.2.2.2.2.2.1.c0; have e51 := hSw.2.2.2.2.2.1.c1; have e60 := hSw.2.2.2.2.2.2.c0; have e61 := hSw.2.2.2.2.2.2.c1; go_simp) <;> with_reducible rfl)
                (try simp only [Act.put, List.setIfInBounds_toArray, List.set_cons_zero, List.set_cons_succ])
                refine wpAnyH_take (i := 33) (oi := ({ dst := some 141, op := Go.Op.load 23 (Go.Operand.tmp 1), type := 23, pos := "law.go:46", after := #[{ on := 31, ground := Go.Ground.guard }], guard := some (31, true) } : Oper)) (v := ?v33_28jr_12_2) rfl (by kernel_rfl) (by kernel_rfl) (by kernel_rfl) (fun _ _ _ h => h) (Or.inl ⟨by rfl, ?hy33_28jr_12_2⟩) (by assumption) ?re33_28jr_12_2
                case hy33_28jr_12_2 => ((intro w hSw; have e00 := hSw.1.c0; have e01 := hSw.1.c1; have e10 := hSw.2.1.c0; have e11 := hSw.2.1.c1; have e20 := hSw.2.2.1.c0; have e21 := hSw.2.2.1.c1; have e30 := hSw.2.2.2.1.c0; have e31 := hSw.2.2.2.1.c1; have e40 := hSw.2.2.2.2.1.c0; have e41 := hSw.2.2.2.2.1.c1; have e50 := hSw.2.2.2.2.2.1.c0; have e51 := hSw.2.2.2.2.2.1.c1; have e60 := hSw.2.2.2.2.2.2.c0; have e61 := hSw.2.2.2.2.2.2.c1; go_simp) <;> with_reducible rfl)
                (try simp only [Act.put, List.setIfInBounds_toArray, List.set_cons_zero, List.set_cons_succ])
                refine wpAnyH_take (i := 34) (oi := ({ dst := some 142, op := Go.Op.binOp Go.BinOp.eql 23 (Go.Operand.tmp 140) (Go.Operand.tmp 141) 23, type := 4, pos := "law.go:46", after := #[{ on := 32, ground := Go.Ground.data }, { on := 33, ground := Go.Ground.data }, { on := 31, ground := Go.Ground.guard }], guard := some (31, true) } : Oper)) (v := ?v34_29jr_12_2) rfl (by kernel_rfl) (by kernel_rfl) (by kernel_rfl) (fun _ _ _ h => h) (Or.inl ⟨by rfl, ?hy34_29jr_12_2⟩) (by assumption) ?re34_29jr_12_2
                case hy34_29jr_12_2 => ((intro w hSw; have e00 := hSw.1.c0; have e01 := hSw.1.c1; have e10 := hSw.2.1.c0; have e11 := hSw.2.1.c1; have e20 := hSw.2.2.1.c0; have e21 := hSw.2.2.1.c1; have e30 := hSw.2.2.2.1.c0; have e31 := hSw.2.2.2.1.c1; have e40 := hSw.2.2.2.2.1.c0; have e41 := hSw.2.2.2.2.1.c1; have e50 := hSw.2.2.2.2.2.1.c0; have e51 := hSw.2.2.2.2.2.1.c1; have e60 := hSw.2.2.2.2.2.2.c0; have e61 := hSw.2.2.2.2.2.2.c1; go_simp) <;> with_reducible rfl)
                (try simp only [Act.put, List.setIfInBounds_toArray, List.set_cons_zero, List.set_cons_succ])
                refine wpAnyH_take (i := 35) (oi := ({ dst := some 143, op := Go.Op.pick (Go.Operand.tmp 139) (Go.Operand.tmp 142) (Go.Operand.const (Go.Value.bool false)), type := 4, pos := "law.go:46", after := #[{ on := 31, ground := Go.Ground.data }, { on := 34, ground := Go.Ground.data }], guard := none } : Oper)) (v := ?v35_30jr_12_2) rfl (by kernel_rfl) (by kernel_rfl) (by kernel_rfl) (fun _ _ _ h => h) (Or.inl ⟨by rfl, ?hy35_30jr_12_2⟩) (by assumption) ?re35_30jr_12_2
                case hy35_30jr_12_2 => ((intro w hSw; have e00 := hSw.1.c0; have e01 := hSw.1.c1; have e10 := hSw.2.1.c0; have e11 := hSw.2.1.c1; have e20 := hSw.2.2.1.c0; have e21 := hSw.2.2.1.c1; have e30 := hSw.2.2.2.1.c0; have e31 := hSw.2.2.2.1.c1; have e40 := hSw.2.2.2.2.1.c0; have e41 := hSw.2.2.2.2.1.c1; have e50 := hSw.2.2.2.2.2.1.c0; have e51 := hSw.2.2.2.2.2.1.c1; have e60 := hSw.2.2.2.2.2.2.c0; have e61 := hSw.2.2.2.2.2.2.c1; go_simp) <;> with_reducible rfl)
                (try simp only [Act.put, List.setIfInBounds_toArray, List.set_cons_zero, List.set_cons_succ])
                refine wpAnyH_take (i := 36) (oi := ({ dst := some 144, op := Go.Op.move (Go.Operand.tmp 143), type := 4, pos := "law.go:46", after := #[{ on := 35, ground := Go.Ground.data }, { on := 31, ground := Go.Ground.chain }], guard := none } : Oper)) (v := ?v36_31jr_12_2) rfl (by kernel_rfl) (by kernel_rfl) (by kernel_rfl) (fun _ _ _ h => h) (Or.inl ⟨by rfl, ?hy36_31jr_12_2⟩) (by assumption) ?re36_31jr_12_2
                case hy36_31jr_12_2 => ((intro w hSw; have e00 := hSw.1.c0; have e01 := hSw.1.c1; have e10 := hSw.2.1.c0; have e11 := hSw.2.1.c1; have e20 := hSw.2.2.1.c0; have e21 := hSw.2.2.1.c1; have e30 := hSw.2.2.2.1.c0; have e31 := hSw.2.2.2.1.c1; have e40 := hSw.2.2.2.2.1.c0; have e41 := hSw.2.2.2.2.1.c1; have e50 := hSw.2.2.2.2.2.1.c0; have e51 := hSw.2.2.2.2.2.1.c1; have e60 := hSw.2.2.2.2.2.2.c0; have e61 := hSw.2.2.2.2.2.2.c1; go_simp) <;> with_reducible rfl)
                (try simp only [Act.put, List.setIfInBounds_toArray, List.set_cons_zero, List.set_cons_succ])
                refine wpAnyH_take (i := 37) (oi := ({ dst := some 145, op := Go.Op.load 23 (Go.Operand.tmp 1), type := 23, pos := "law.go:46", after := #[{ on := 36, ground := Go.Ground.guard }], guard := some (36, true) } : Oper)) (v := ?v37_32jr_12_2) rfl (by kernel_rfl) (by kernel_rfl) (by kernel_rfl) (fun _ _ _ h => h) (Or.inl ⟨by rfl, ?hy37_32jr_12_2⟩) (by assumption) ?re37_32jr_12_2
                case hy37_32jr_12_2 => ((intro w hSw; have e00 := hSw.1.c0; have e01 := hSw.1.c1; have e10 := hSw.2.1.c0; have e11 := hSw.2.1.c1; have e20 := hSw.2.2.1.c0; have e21 := hSw.2.2.1.c1; have e30 := hSw.2.2.2.1.c0; have e31 := hSw.2.2.2.1.c1; have e40 := hSw.2.2.2.2.1.c0; have e41 := hSw.2.2.2.2.1.c1; have e50 := hSw.2.2.2.2.2.1.c0; have e51 := hSw.2.2.2.2.2.1.c1; have e60 := hSw.2.2.2.2.2.2.c0; have e61 := hSw.2.2.2.2.2.2.c1; go_simp) <;> with_reducible rfl)
                (try simp only [Act.put, List.setIfInBounds_toArray, List.set_cons_zero, List.set_cons_succ])
                refine wpAnyH_ready (rs := [38]) (by kernel_rfl) (by simp) ?_
                refine AllReadyH.cons (o := ({ dst := some 146, op := Go.Op.call { callee := Go.Callee.value (Go.Operand.func 34), args := #[Go.Operand.tmp 145], argTypes := #[23] }, type := 9, pos := "law.go:46", after := #[{ on := 37, ground := Go.Ground.data }, { on := 36, ground := Go.Ground.chain }, { on := 36, ground := Go.Ground.guard }], guard := some (36, true) } : Oper)) rfl (fun K hK => ?_) ?_
                · go_simp
                  go_at_call 34
                  refine (s_print _).mono ?_
                  rintro e Wjr12_7 ⟨rfl, B⟩
                  have An := Lib.hid (A.out.keep B A.out.lt)
                  have Bbn := Lib.hid (Bb.out.keep B Bb.out.lt)
                  have Cn := Lib.hid (C.out.keep B C.out.lt)
                  have Dn := Lib.hid (D.out.keep B D.out.lt)
                  have Vn := Lib.hid (V.out.keep B V.out.lt)
                  have KKn := Lib.hid (KK.out.keep B KK.out.lt)
                  have Mn := Lib.hid (M.out.keep B M.out.lt)
                  have On := Lib.hid (O.out.keep B O.out.lt)
                  have HBn := Lib.hid (HB.out.trans (B.mono HB.out.size))
                  clear A Bb C D V KK M O HB
                  have A := An
                  have Bb := Bbn
                  have C := Cn
                  have D := Dn
                  have V := Vn
                  have KK := KKn
                  have M := Mn
                  have O := On
                  have HB := HBn
                  clear An Bbn Cn Dn Vn KKn Mn On HBn
                  (try go_wp2_with fail)
                  refine hK.out _ _ ?_ (fun hHeld => ?_)
                  · exact ⟨hHeld.1.keep B hHeld.1.lt, hHeld.2.1.keep B hHeld.2.1.lt, hHeld.2.2.1.keep B hHeld.2.2.1.lt, hHeld.2.2.2.1.keep B hHeld.2.2.2.1.lt, hHeld.2.2.2.2.1.keep B hHeld.2.2.2.2.1.lt, hHeld.2.2.2.2.2.1.keep B hHeld.2.2.2.2.2.1.lt, hHeld.2.2.2.2.2.2.keep B hHeld.2.2.2.2.2.2.lt⟩
                  clear hK K
                  (try simp only [Act.put, List.setIfInBounds_toArray, List.set_cons_zero, List.set_cons_succ])
                  clear B
                  refine wpAnyH_take (i := 39) (oi := ({ dst := some 147, op := Go.Op.binOp Go.BinOp.eql 9 (Go.Operand.tmp 146) (Go.Operand.const (Go.Value.string { data := #[45, 51, 47, 50] })) 9, type := 4, pos := "law.go:46", after := #[{ on := 38, ground := Go.Ground.data }, { on := 36, ground := Go.Ground.guard }], guard := some (36, true) } : Oper)) (v := ?v39_33jr_12_2) rfl (by kernel_rfl) (by kernel_rfl) (by kernel_rfl) (fun _ _ _ h => h) (Or.inl ⟨by rfl, ?hy39_33jr_12_2⟩) (by assumption) ?re39_33jr_12_2
                  case hy39_33jr_12_2 => ((intro w hSw; have e00 := hSw.1.c0; have e01 := hSw.1.c1; have e10 := hSw.2.1.c0; have e11 := hSw.2.1.c1; have e20 := hSw.2.2.1.c0; have e21 := hSw.2.2.1.c1; have e30 := hSw.2.2.2.1.c0; have e31 := hSw.2.2.2.1.c1; have e40 := hSw.2.2.2.2.1.c0; have e41 := hSw.2.2.2.2.1.c1; have e50 := hSw.2.2.2.2.2.1.c0; have e51 := hSw.2.2.2.2.2.1.c1; have e60 := hSw.2.2.2.2.2.2.c0; have e61 := hSw.2.2.2.2.2.2.c1; go_simp) <;> with_reducible rfl)
                  (try simp only [Act.put, List.setIfInBounds_toArray, List.set_cons_zero, List.set_cons_succ])
                  refine wpAnyH_take (i := 40) (oi := ({ dst := some 148, op := Go.Op.pick (Go.Operand.tmp 144) (Go.Operand.tmp 147) (Go.Operand.const (Go.Value.bool false)), type := 4, pos := "law.go:46", after := #[{ on := 36, ground := Go.Ground.data }, { on := 39, ground := Go.Ground.data }], guard := none } : Oper)) (v := ?v40_34jr_12_2) rfl (by kernel_rfl) (by kernel_rfl) (by kernel_rfl) (fun _ _ _ h => h) (Or.inl ⟨by rfl, ?hy40_34jr_12_2⟩) (by assumption) ?re40_34jr_12_2
                  case hy40_34jr_12_2 => ((intro w hSw; have e00 := hSw.1.c0; have e01 := hSw.1.c1; have e10 := hSw.2.1.c0; have e11 := hSw.2.1.c1; have e20 := hSw.2.2.1.c0; have e21 := hSw.2.2.1.c1; have e30 := hSw.2.2.2.1.c0; have e31 := hSw.2.2.2.1.c1; have e40 := hSw.2.2.2.2.1.c0; have e41 := hSw.2.2.2.2.1.c1; have e50 := hSw.2.2.2.2.2.1.c0; have e51 := hSw.2.2.2.2.2.1.c1; have e60 := hSw.2.2.2.2.2.2.c0; have e61 := hSw.2.2.2.2.2.2.c1; go_simp) <;> with_reducible rfl)
                  (try simp only [Act.put, List.setIfInBounds_toArray, List.set_cons_zero, List.set_cons_succ])
                  refine wpAnyH_take (i := 41) (oi := ({ dst := some 149, op := Go.Op.move (Go.Operand.tmp 148), type := 4, pos := "law.go:46", after := #[{ on := 40, ground := Go.Ground.data }, { on := 38, ground := Go.Ground.chain }], guard := none } : Oper)) (v := ?v41_35jr_12_2) rfl (by kernel_rfl) (by kernel_rfl) (by kernel_rfl) (fun _ _ _ h => h) (Or.inl ⟨by rfl, ?hy41_35jr_12_2⟩) (by assumption) ?re41_35jr_12_2
                  case hy41_35jr_12_2 => ((intro w hSw; have e00 := hSw.1.c0; have e01 := hSw.1.c1; have e10 := hSw.2.1.c0; have e11 := hSw.2.1.c1; have e20 := hSw.2.2.1.c0; have e21 := hSw.2.2.1.c1; have e30 := hSw.2.2.2.1.c0; have e31 := hSw.2.2.2.1.c1; have e40 := hSw.2.2.2.2.1.c0; have e41 := hSw.2.2.2.2.1.c1; have e50 := hSw.2.2.2.2.2.1.c0; have e51 := hSw.2.2.2.2.2.1.c1; have e60 := hSw.2.2.2.2.2.2.c0; have e61 := hSw.2.2.2.2.2.2.c1; go_simp) <;> with_reducible rfl)
                  (try simp only [Act.put, List.setIfInBounds_toArray, List.set_cons_zero, List.set_cons_succ])
                  refine wpAnyH_ready (rs := [42]) (by kernel_rfl) (by simp) ?_
                  refine AllReadyH.cons (o := ({ dst := some 150, op := Go.Op.call { callee := Go.Callee.value (Go.Operand.func 54), args := #[Go.Operand.const (Go.Value.string { data := #[49] }), Go.Operand.const (Go.Value.string { data := #[51] })], argTypes := #[9, 9] }, type := 23, pos := "law.go:46", after := #[{ on := 41, ground := Go.Ground.chain }, { on := 41, ground := Go.Ground.guard }], guard := some (41, true) } : Oper)) rfl (fun K hK => ?_) ?_
                  · go_simp
                    go_at_call 54
                    refine (is_any _ _ _).mono ?_
                    rintro e Wjr12_8 ⟨rfl, B⟩
                    have An := Lib.hid (A.out.keep B A.out.lt)
                    have Bbn := Lib.hid (Bb.out.keep B Bb.out.lt)
                    have Cn := Lib.hid (C.out.keep B C.out.lt)
                    have Dn := Lib.hid (D.out.keep B D.out.lt)
                    have Vn := Lib.hid (V.out.keep B V.out.lt)
                    have KKn := Lib.hid (KK.out.keep B KK.out.lt)
                    have Mn := Lib.hid (M.out.keep B M.out.lt)
                    have On := Lib.hid (O.out.keep B O.out.lt)
                    have HBn := Lib.hid (HB.out.trans (B.mono HB.out.size))
                    clear A Bb C D V KK M O HB
                    have A := An
                    have Bb := Bbn
                    have C := Cn
                    have D := Dn
                    have V := Vn
                    have KK := KKn
                    have M := Mn
                    have O := On
                    have HB := HBn
                    clear An Bbn Cn Dn Vn KKn Mn On HBn
                    (try go_wp2_with fail)
                    refine hK.out _ _ ?_ (fun hHeld => ?_)
                    · exact ⟨hHeld.1.keep B hHeld.1.lt, hHeld.2.1.keep B hHeld.2.1.lt, hHeld.2.2.1.keep B hHeld.2.2.1.lt, hHeld.2.2.2.1.keep B hHeld.2.2.2.1.lt, hHeld.2.2.2.2.1.keep B hHeld.2.2.2.2.1.lt, hHeld.2.2.2.2.2.1.keep B hHeld.2.2.2.2.2.1.lt, hHeld.2.2.2.2.2.2.keep B hHeld.2.2.2.2.2.2.lt⟩
                    clear hK K
                    (try simp only [Act.put, List.setIfInBounds_toArray, List.set_cons_zero, List.set_cons_succ])
                    clear B
                    refine wpAnyH_ready (rs := [43]) (by kernel_rfl) (by simp) ?_
                    refine AllReadyH.cons (o := ({ dst := some 151, op := Go.Op.call { callee := Go.Callee.value (Go.Operand.func 54), args := #[Go.Operand.const (Go.Value.string { data := #[51, 51, 51, 51, 51] }), Go.Operand.const (Go.Value.string { data := #[49, 48, 48, 48, 48, 48] })], argTypes := #[9, 9] }, type := 23, pos := "law.go:46", after := #[{ on := 42, ground := Go.Ground.chain }, { on := 41, ground := Go.Ground.guard }], guard := some (41, true) } : Oper)) rfl (fun K hK => ?_) ?_
                    · go_simp
                      go_at_call 54
                      refine (is_any _ _ _).mono ?_
                      rintro e Wjr12_9 ⟨rfl, B⟩
                      have An := Lib.hid (A.out.keep B A.out.lt)
                      have Bbn := Lib.hid (Bb.out.keep B Bb.out.lt)
                      have Cn := Lib.hid (C.out.keep B C.out.lt)
                      have Dn := Lib.hid (D.out.keep B D.out.lt)
                      have Vn := Lib.hid (V.out.keep B V.out.lt)
                      have KKn := Lib.hid (KK.out.keep B KK.out.lt)
                      have Mn := Lib.hid (M.out.keep B M.out.lt)
                      have On := Lib.hid (O.out.keep B O.out.lt)
                      have HBn := Lib.hid (HB.out.trans (B.mono HB.out.size))
                      clear A Bb C D V KK M O HB
                      have A := An
                      have Bb := Bbn
                      have C := Cn
                      have D := Dn
                      have V := Vn
                      have KK := KKn
                      have M := Mn
                      have O := On
                      have HB := HBn
                      clear An Bbn Cn Dn Vn KKn Mn On HBn
                      (try go_wp2_with fail)
                      refine hK.out _ _ ?_ (fun hHeld => ?_)
                      · exact ⟨hHeld.1.keep B hHeld.1.lt, hHeld.2.1.keep B hHeld.2.1.lt, hHeld.2.2.1.keep B hHeld.2.2.1.lt, hHeld.2.2.2.1.keep B hHeld.2.2.2.1.lt, hHeld.2.2.2.2.1.keep B hHeld.2.2.2.2.1.lt, hHeld.2.2.2.2.2.1.keep B hHeld.2.2.2.2.2.1.lt, hHeld.2.2.2.2.2.2.keep B hHeld.2.2.2.2.2.2.lt⟩
                      clear hK K
                      (try simp only [Act.put, List.setIfInBounds_toArray, List.set_cons_zero, List.set_cons_succ])
                      clear B
                      refine wpAnyH_ready (rs := [44]) (by kernel_rfl) (by simp) ?_
                      refine AllReadyH.cons (o := ({ dst := some 152, op := Go.Op.call { callee := Go.Callee.value (Go.Operand.func 21), args := #[Go.Operand.tmp 150, Go.Operand.tmp 151], argTypes := #[23, 23] }, type := 3, pos := "law.go:46", after := #[{ on := 42, ground := Go.Ground.data }, { on := 43, ground := Go.Ground.data }, { on := 43, ground := Go.Ground.chain }, { on := 41, ground := Go.Ground.guard }], guard := some (41, true) } : Oper)) rfl (fun K hK => ?_) ?_
                      · go_simp
                        go_at_call 21
                        refine (s_cmp _).mono ?_
                        rintro e Wjr12_10 ⟨rfl, B⟩
                        have An := Lib.hid (A.out.keep B A.out.lt)
                        have Bbn := Lib.hid (Bb.out.keep B Bb.out.lt)
                        have Cn := Lib.hid (C.out.keep B C.out.lt)
                        have Dn := Lib.hid (D.out.keep B D.out.lt)
                        have Vn := Lib.hid (V.out.keep B V.out.lt)
                        have KKn := Lib.hid (KK.out.keep B KK.out.lt)
                        have Mn := Lib.hid (M.out.keep B M.out.lt)
                        have On := Lib.hid (O.out.keep B O.out.lt)
                        have HBn := Lib.hid (HB.out.trans (B.mono HB.out.size))
                        clear A Bb C D V KK M O HB
                        have A := An
                        have Bb := Bbn
                        have C := Cn
                        have D := Dn
                        have V := Vn
                        have KK := KKn
                        have M := Mn
                        have O := On
                        have HB := HBn
                        clear An Bbn Cn Dn Vn KKn Mn On HBn
                        (try go_wp2_with fail)
                        refine hK.out _ _ ?_ (fun hHeld => ?_)
                        · exact ⟨hHeld.1.keep B hHeld.1.lt, hHeld.2.1.keep B hHeld.2.1.lt, hHeld.2.2.1.keep B hHeld.2.2.1.lt, hHeld.2.2.2.1.keep B hHeld.2.2.2.1.lt, hHeld.2.2.2.2.1.keep B hHeld.2.2.2.2.1.lt, hHeld.2.2.2.2.2.1.keep B hHeld.2.2.2.2.2.1.lt, hHeld.2.2.2.2.2.2.keep B hHeld.2.2.2.2.2.2.lt⟩
                        clear hK K
                        (try simp only [Act.put, List.setIfInBounds_toArray, List.set_cons_zero, List.set_cons_succ])
                        clear B
                        refine wpAnyH_take (i := 45) (oi := ({ dst := some 153, op := Go.Op.binOp Go.BinOp.eql 3 (Go.Operand.tmp 152) (Go.Operand.const (Go.Value.int Go.IntKind.i64 1)) 3, type := 4, pos := "law.go:46", after := #[{ on := 44, ground := Go.Ground.data }, { on := 41, ground := Go.Ground.guard }], guard := some (41, true) } : Oper)) (v := ?v45_36jr_12_2) rfl (by kernel_rfl) (by kernel_rfl) (by kernel_rfl) (fun _ _ _ h => h) (Or.inl ⟨by rfl, ?hy45_36jr_12_2⟩) (by assumption) ?re45_36jr_12_2
                        case hy45_36jr_12_2 => ((intro w hSw; have e00 := hSw.1.c0; have e01 := hSw.1.c1; have e10 := hSw.2.1.c0; have e11 := hSw.2.1.c1; have e20 := hSw.2.2.1.c0; have e21 := hSw.2.2.1.c1; have e30 := hSw.2.2.2.1.c0; have e31 := hSw.2.2.2.1.c1; have e40 := hSw.2.2.2.2.1.c0; have e41 := hSw.2.2.2.2.1.c1; have e50 := hSw.2.2.2.2.2.1.c0; have e51 := hSw.2.2.2.2.2.1.c1; have e60 := hSw.2.2.2.2.2.2.c0; have e61 := hSw.2.2.2.2.2.2.c1; go_simp) <;> with_reducible rfl)
                        (try simp only [Act.put, List.setIfInBounds_toArray, List.set_cons_zero, List.set_cons_succ])
                        refine wpAnyH_take (i := 46) (oi := ({ dst := some 154, op := Go.Op.pick (Go.Operand.tmp 149) (Go.Operand.tmp 153) (Go.Operand.const (Go.Value.bool false)), type := 4, pos := "law.go:46", after := #[{ on := 41, ground := Go.Ground.data }, { on := 45, ground := Go.Ground.data }], guard := none } : Oper)) (v := ?v46_37jr_12_2) rfl (by kernel_rfl) (by kernel_rfl) (by kernel_rfl) (fun _ _ _ h => h) (Or.inl ⟨by rfl, ?hy46_37jr_12_2⟩) (by assumption) ?re46_37jr_12_2
                        case hy46_37jr_12_2 => ((intro w hSw; have e00 := hSw.1.c0; have e01 := hSw.1.c1; have e10 := hSw.2.1.c0; have e11 := hSw.2.1.c1; have e20 := hSw.2.2.1.c0; have e21 := hSw.2.2.1.c1; have e30 := hSw.2.2.2.1.c0; have e31 := hSw.2.2.2.1.c1; have e40 := hSw.2.2.2.2.1.c0; have e41 := hSw.2.2.2.2.1.c1; have e50 := hSw.2.2.2.2.2.1.c0; have e51 := hSw.2.2.2.2.2.1.c1; have e60 := hSw.2.2.2.2.2.2.c0; have e61 := hSw.2.2.2.2.2.2.c1; go_simp) <;> with_reducible rfl)
                        (try simp only [Act.put, List.setIfInBounds_toArray, List.set_cons_zero, List.set_cons_succ])
                        refine wpAnyH_take (i := 47) (oi := ({ dst := some 155, op := Go.Op.move (Go.Operand.tmp 154), type := 4, pos := "law.go:46", after := #[{ on := 46, ground := Go.Ground.data }, { on := 44, ground := Go.Ground.chain }], guard := none } : Oper)) (v := ?v47_38jr_12_2) rfl (by kernel_rfl) (by kernel_rfl) (by kernel_rfl) (fun _ _ _ h => h) (Or.inl ⟨by rfl, ?hy47_38jr_12_2⟩) (by assumption) ?re47_38jr_12_2
                        case hy47_38jr_12_2 => ((intro w hSw; have e00 := hSw.1.c0; have e01 := hSw.1.c1; have e10 := hSw.2.1.c0; have e11 := hSw.2.1.c1; have e20 := hSw.2.2.1.c0; have e21 := hSw.2.2.1.c1; have e30 := hSw.2.2.2.1.c0; have e31 := hSw.2.2.2.1.c1; have e40 := hSw.2.2.2.2.1.c0; have e41 := hSw.2.2.2.2.1.c1; have e50 := hSw.2.2.2.2.2.1.c0; have e51 := hSw.2.2.2.2.2.1.c1; have e60 := hSw.2.2.2.2.2.2.c0; have e61 := hSw.2.2.2.2.2.2.c1; go_simp) <;> with_reducible rfl)
                        (try simp only [Act.put, List.setIfInBounds_toArray, List.set_cons_zero, List.set_cons_succ])
                        refine wpAnyH_take (i := 48) (oi := ({ dst := some 156, op := Go.Op.load 23 (Go.Operand.tmp 1), type := 23, pos := "law.go:46", after := #[{ on := 47, ground := Go.Ground.guard }], guard := some (47, true) } : Oper)) (v := ?v48_39jr_12_2) rfl (by kernel_rfl) (by kernel_rfl) (by kernel_rfl) (fun _ _ _ h => h) (Or.inl ⟨by rfl, ?hy48_39jr_12_2⟩) (by assumption) ?re48_39jr_12_2
                        case hy48_39jr_12_2 => ((intro w hSw; have e00 := hSw.1.c0; have e01 := hSw.1.c1; have e10 := hSw.2.1.c0; have e11 := hSw.2.1.c1; have e20 := hSw.2.2.1.c0; have e21 := hSw.2.2.1.c1; have e30 := hSw.2.2.2.1.c0; have e31 := hSw.2.2.2.1.c1; have e40 := hSw.2.2.2.2.1.c0; have e41 := hSw.2.2.2.2.1.c1; have e50 := hSw.2.2.2.2.2.1.c0; have e51 := hSw.2.2.2.2.2.1.c1; have e60 := hSw.2.2.2.2.2.2.c0; have e61 := hSw.2.2.2.2.2.2.c1; go_simp) <;> with_reducible rfl)
                        (try simp only [Act.put, List.setIfInBounds_toArray, List.set_cons_zero, List.set_cons_succ])
                        refine wpAnyH_ready (rs := [49]) (by kernel_rfl) (by simp) ?_
                        refine AllReadyH.cons (o := ({ dst := some 157, op := Go.Op.call { callee := Go.Callee.value (Go.Operand.func 30), args := #[Go.Operand.tmp 156], argTypes := #[23] }, type := 4, pos := "law.go:46", after := #[{ on := 48, ground := Go.Ground.data }, { on := 47, ground := Go.Ground.chain }, { on := 47, ground := Go.Ground.guard }], guard := some (47, true) } : Oper)) rfl (fun K hK => ?_) ?_
                        · go_simp
                          go_at_call 30
                          refine (s_valid _).mono ?_
                          rintro e Wjr12_11 ⟨rfl, B⟩
                          have An := Lib.hid (A.out.keep B A.out.lt)
                          have Bbn := Lib.hid (Bb.out.keep B Bb.out.lt)
                          have Cn := Lib.hid (C.out.keep B C.out.lt)
                          have Dn := Lib.hid (D.out.keep B D.out.lt)
                          have Vn := Lib.hid (V.out.keep B V.out.lt)
                          have KKn := Lib.hid (KK.out.keep B KK.out.lt)
                          have Mn := Lib.hid (M.out.keep B M.out.lt)
                          have On := Lib.hid (O.out.keep B O.out.lt)
                          have HBn := Lib.hid (HB.out.trans (B.mono HB.out.size))
                          clear A Bb C D V KK M O HB
                          have A := An
                          have Bb := Bbn
                          have C := Cn
                          have D := Dn
                          have V := Vn
                          have KK := KKn
                          have M := Mn
                          have O := On
                          have HB := HBn
                          clear An Bbn Cn Dn Vn KKn Mn On HBn
                          (try go_wp2_with fail)
                          refine hK.out _ _ ?_ (fun hHeld => ?_)
                          · exact ⟨hHeld.1.keep B hHeld.1.lt, hHeld.2.1.keep B hHeld.2.1.lt, hHeld.2.2.1.keep B hHeld.2.2.1.lt, hHeld.2.2.2.1.keep B hHeld.2.2.2.1.lt, hHeld.2.2.2.2.1.keep B hHeld.2.2.2.2.1.lt, hHeld.2.2.2.2.2.1.keep B hHeld.2.2.2.2.2.1.lt, hHeld.2.2.2.2.2.2.keep B hHeld.2.2.2.2.2.2.lt⟩
                          clear hK K
                          (try simp only [Act.put, List.setIfInBounds_toArray, List.set_cons_zero, List.set_cons_succ])
                          clear B
                          refine wpAnyH_take (i := 50) (oi := ({ dst := some 158, op := Go.Op.pick (Go.Operand.tmp 155) (Go.Operand.tmp 157) (Go.Operand.const (Go.Value.bool false)), type := 4, pos := "law.go:46", after := #[{ on := 47, ground := Go.Ground.data }, { on := 49, ground := Go.Ground.data }], guard := none } : Oper)) (v := ?v50_40jr_12_2) rfl (by kernel_rfl) (by kernel_rfl) (by kernel_rfl) (fun _ _ _ h => h) (Or.inl ⟨by rfl, ?hy50_40jr_12_2⟩) (by assumption) ?re50_40jr_12_2
                          case hy50_40jr_12_2 => ((intro w hSw; have e00 := hSw.1.c0; have e01 := hSw.1.c1; have e10 := hSw.2.1.c0; have e11 := hSw.2.1.c1; have e20 := hSw.2.2.1.c0; have e21 := hSw.2.2.1.c1; have e30 := hSw.2.2.2.1.c0; have e31 := hSw.2.2.2.1.c1; have e40 := hSw.2.2.2.2.1.c0; have e41 := hSw.2.2.2.2.1.c1; have e50 := hSw.2.2.2.2.2.1.c0; have e51 := hSw.2.2.2.2.2.1.c1; have e60 := hSw.2.2.2.2.2.2.c0; have e61 := hSw.2.2.2.2.2.2.c1; go_simp) <;> with_reducible rfl)
                          (try simp only [Act.put, List.setIfInBounds_toArray, List.set_cons_zero, List.set_cons_succ])
                          refine wpAnyH_take (i := 51) (oi := ({ dst := some 159, op := Go.Op.move (Go.Operand.tmp 158), type := 4, pos := "law.go:46", after := #[{ on := 50, ground := Go.Ground.data }, { on := 49, ground := Go.Ground.chain }], guard := none } : Oper)) (v := ?v51_41jr_12_2) rfl (by kernel_rfl) (by kernel_rfl) (by kernel_rfl) (fun _ _ _ h => h) (Or.inl ⟨by rfl, ?hy51_41jr_12_2⟩) (by assumption) ?re51_41jr_12_2
                          case hy51_41jr_12_2 => ((intro w hSw; have e00 := hSw.1.c0; have e01 := hSw.1.c1; have e10 := hSw.2.1.c0; have e11 := hSw.2.1.c1; have e20 := hSw.2.2.1.c0; have e21 := hSw.2.2.1.c1; have e30 := hSw.2.2.2.1.c0; have e31 := hSw.2.2.2.1.c1; have e40 := hSw.2.2.2.2.1.c0; have e41 := hSw.2.2.2.2.1.c1; have e50 := hSw.2.2.2.2.2.1.c0; have e51 := hSw.2.2.2.2.2.1.c1; have e60 := hSw.2.2.2.2.2.2.c0; have e61 := hSw.2.2.2.2.2.2.c1; go_simp) <;> with_reducible rfl)
                          (try simp only [Act.put, List.setIfInBounds_toArray, List.set_cons_zero, List.set_cons_succ])
                          refine wpAnyH_take (i := 52) (oi := ({ dst := some 160, op := Go.Op.build 23 #[], type := 23, pos := "law.go:46", after := #[{ on := 51, ground := Go.Ground.guard }], guard := some (51, true) } : Oper)) (v := ?v52_42jr_12_2) rfl (by kernel_rfl) (by kernel_rfl) (by kernel_rfl) (fun _ _ _ h => h) (Or.inl ⟨by rfl, ?hy52_42jr_12_2⟩) (by assumption) ?re52_42jr_12_2
                          case hy52_42jr_12_2 => ((intro w hSw; have e00 := hSw.1.c0; have e01 := hSw.1.c1; have e10 := hSw.2.1.c0; have e11 := hSw.2.1.c1; have e20 := hSw.2.2.1.c0; have e21 := hSw.2.2.1.c1; have e30 := hSw.2.2.2.1.c0; have e31 := hSw.2.2.2.1.c1; have e40 := hSw.2.2.2.2.1.c0; have e41 := hSw.2.2.2.2.1.c1; have e50 := hSw.2.2.2.2.2.1.c0; have e51 := hSw.2.2.2.2.2.1.c1; have e60 := hSw.2.2.2.2.2.2.c0; have e61 := hSw.2.2.2.2.2.2.c1; go_simp) <;> with_reducible rfl)
                          (try simp only [Act.put, List.setIfInBounds_toArray, List.set_cons_zero, List.set_cons_succ])
                          refine wpAnyH_ready (rs := [53]) (by kernel_rfl) (by simp) ?_
                          refine AllReadyH.cons (o := ({ dst := some 161, op := Go.Op.call { callee := Go.Callee.value (Go.Operand.func 30), args := #[Go.Operand.tmp 160], argTypes := #[23] }, type := 4, pos := "law.go:46", after := #[{ on := 52, ground := Go.Ground.data }, { on := 51, ground := Go.Ground.chain }, { on := 51, ground := Go.Ground.guard }], guard := some (51, true) } : Oper)) rfl (fun K hK => ?_) ?_
                          · go_simp
                            go_at_call 30
                            refine (s_valid0 _).mono ?_
                            rintro e Wjr12_12 ⟨rfl, B⟩
                            have An := Lib.hid (A.out.keep B A.out.lt)
                            have Bbn := Lib.hid (Bb.out.keep B Bb.out.lt)
                            have Cn := Lib.hid (C.out.keep B C.out.lt)
                            have Dn := Lib.hid (D.out.keep B D.out.lt)
                            have Vn := Lib.hid (V.out.keep B V.out.lt)
                            have KKn := Lib.hid (KK.out.keep B KK.out.lt)
                            have Mn := Lib.hid (M.out.keep B M.out.lt)
                            have On := Lib.hid (O.out.keep B O.out.lt)
                            have HBn := Lib.hid (HB.out.trans (B.mono HB.out.size))
                            clear A Bb C D V KK M O HB
                            have A := An
                            have Bb := Bbn
                            have C := Cn
                            have D := Dn
                            have V := Vn
                            have KK := KKn
                            have M := Mn
                            have O := On
                            have HB := HBn
                            clear An Bbn Cn Dn Vn KKn Mn On HBn
                            (try go_wp2_with fail)
                            refine hK.out _ _ ?_ (fun hHeld => ?_)
                            · exact ⟨hHeld.1.keep B hHeld.1.lt, hHeld.2.1.keep B hHeld.2.1.lt, hHeld.2.2.1.keep B hHeld.2.2.1.lt, hHeld.2.2.2.1.keep B hHeld.2.2.2.1.lt, hHeld.2.2.2.2.1.keep B hHeld.2.2.2.2.1.lt, hHeld.2.2.2.2.2.1.keep B hHeld.2.2.2.2.2.1.lt, hHeld.2.2.2.2.2.2.keep B hHeld.2.2.2.2.2.2.lt⟩
                            clear hK K
                            (try simp only [Act.put, List.setIfInBounds_toArray, List.set_cons_zero, List.set_cons_succ])
                            clear B
                            refine wpAnyH_take (i := 54) (oi := ({ dst := some 162, op := Go.Op.unOp Go.UnOp.not 4 (Go.Operand.tmp 161), type := 4, pos := "law.go:46", after := #[{ on := 53, ground := Go.Ground.data }, { on := 51, ground := Go.Ground.guard }], guard := some (51, true) } : Oper)) (v := ?v54_43jr_12_2) rfl (by kernel_rfl) (by kernel_rfl) (by kernel_rfl) (fun _ _ _ h => h) (Or.inl ⟨by rfl, ?hy54_43jr_12_2⟩) (by assumption) ?re54_43jr_12_2
                            case hy54_43jr_12_2 => ((intro w hSw; have e00 := hSw.1.c0; have e01 := hSw.1.c1; have e10 := hSw.2.1.c0; have e11 := hSw.2.1.c1; have e20 := hSw.2.2.1.c0; have e21 := hSw.2.2.1.c1; have e30 := hSw.2.2.2.1.c0; have e31 := hSw.2.2.2.1.c1; have e40 := hSw.2.2.2.2.1.c0; have e41 := hSw.2.2.2.2.1.c1; have e50 := hSw.2.2.2.2.2.1.c0; have e51 := hSw.2.2.2.2.2.1.c1; have e60 := hSw.2.2.2.2.2.2.c0; have e61 := hSw.2.2.2.2.2.2.c1; go_simp) <;> with_reducible rfl)
                            (try simp only [Act.put, List.setIfInBounds_toArray, List.set_cons_zero, List.set_cons_succ])
                            refine wpAnyH_take (i := 55) (oi := ({ dst := some 163, op := Go.Op.pick (Go.Operand.tmp 159) (Go.Operand.tmp 162) (Go.Operand.const (Go.Value.bool false)), type := 4, pos := "law.go:46", after := #[{ on := 51, ground := Go.Ground.data }, { on := 54, ground := Go.Ground.data }], guard := none } : Oper)) (v := ?v55_44jr_12_2) rfl (by kernel_rfl) (by kernel_rfl) (by kernel_rfl) (fun _ _ _ h => h) (Or.inl ⟨by rfl, ?hy55_44jr_12_2⟩) (by assumption) ?re55_44jr_12_2
                            case hy55_44jr_12_2 => ((intro w hSw; have e00 := hSw.1.c0; have e01 := hSw.1.c1; have e10 := hSw.2.1.c0; have e11 := hSw.2.1.c1; have e20 := hSw.2.2.1.c0; have e21 := hSw.2.2.1.c1; have e30 := hSw.2.2.2.1.c0; have e31 := hSw.2.2.2.1.c1; have e40 := hSw.2.2.2.2.1.c0; have e41 := hSw.2.2.2.2.1.c1; have e50 := hSw.2.2.2.2.2.1.c0; have e51 := hSw.2.2.2.2.2.1.c1; have e60 := hSw.2.2.2.2.2.2.c0; have e61 := hSw.2.2.2.2.2.2.c1; go_simp) <;> with_reducible rfl)
                            (try simp only [Act.put, List.setIfInBounds_toArray, List.set_cons_zero, List.set_cons_succ])
                            refine wpAnyH_take (i := 56) (oi := ({ dst := some 0, op := Go.Op.assign (Go.Operand.tmp 163), type := 4, pos := "law.go:46", after := #[{ on := 55, ground := Go.Ground.data }, { on := 53, ground := Go.Ground.chain }, { on := 0, ground := Go.Ground.phase }, { on := 1, ground := Go.Ground.phase }, { on := 2, ground := Go.Ground.phase }, { on := 3, ground := Go.Ground.phase }, { on := 4, ground := Go.Ground.phase }, { on := 5, ground := Go.Ground.phase }, { on := 6, ground := Go.Ground.phase }, { on := 7, ground := Go.Ground.phase }, { on := 8, ground := Go.Ground.phase }, { on := 9, ground := Go.Ground.phase }, { on := 10, ground := Go.Ground.phase }, { on := 11, ground := Go.Ground.phase }, { on := 12, ground := Go.Ground.phase }, { on := 13, ground := Go.Ground.phase }, { on := 14, ground := Go.Ground.phase }, { on := 15, ground := Go.Ground.phase }, { on := 16, ground := Go.Ground.phase }, { on := 17, ground := Go.Ground.phase }, { on := 18, ground := Go.Ground.phase }, { on := 19, ground := Go.Ground.phase }, { on := 20, ground := Go.Ground.phase }, { on := 21, ground := Go.Ground.phase }, { on := 22, ground := Go.Ground.phase }, { on := 23, ground := Go.Ground.phase }, { on := 24, ground := Go.Ground.phase }, { on := 25, ground := Go.Ground.phase }, { on := 26, ground := Go.Ground.phase }, { on := 27, ground := Go.Ground.phase }, { on := 28, ground := Go.Ground.phase }, { on := 29, ground := Go.Ground.phase }, { on := 30, ground := Go.Ground.phase }, { on := 31, ground := Go.Ground.phase }, { on := 32, ground := Go.Ground.phase }, { on := 33, ground := Go.Ground.phase }, { on := 34, ground := Go.Ground.phase }, { on := 35, ground := Go.Ground.phase }, { on := 36, ground := Go.Ground.phase }, { on := 37, ground := Go.Ground.phase }, { on := 38, ground := Go.Ground.phase }, { on := 39, ground := Go.Ground.phase }, { on := 40, ground := Go.Ground.phase }, { on := 41, ground := Go.Ground.phase }, { on := 42, ground := Go.Ground.phase }, { on := 43, ground := Go.Ground.phase }, { on := 44, ground := Go.Ground.phase }, { on := 45, ground := Go.Ground.phase }, { on := 46, ground := Go.Ground.phase }, { on := 47, ground := Go.Ground.phase }, { on := 48, ground := Go.Ground.phase }, { on := 49, ground := Go.Ground.phase }, { on := 50, ground := Go.Ground.phase }, { on := 51, ground := Go.Ground.phase }, { on := 52, ground := Go.Ground.phase }, { on := 53, ground := Go.Ground.phase }, { on := 54, ground := Go.Ground.phase }, { on := 55, ground := Go.Ground.phase }], guard := none } : Oper)) (v := ?v56_45jr_12_2) rfl (by kernel_rfl) (by kernel_rfl) (by kernel_rfl) (fun _ _ _ h => h) (Or.inl ⟨by rfl, ?hy56_45jr_12_2⟩) (by assumption) ?re56_45jr_12_2
                            case hy56_45jr_12_2 => ((intro w hSw; have e00 := hSw.1.c0; have e01 := hSw.1.c1; have e10 := hSw.2.1.c0; have e11 := hSw.2.1.c1; have e20 := hSw.2.2.1.c0; have e21 := hSw.2.2.1.c1; have e30 := hSw.2.2.2.1.c0; have e31 := hSw.2.2.2.1.c1; have e40 := hSw.2.2.2.2.1.c0; have e41 := hSw.2.2.2.2.1.c1; have e50 := hSw.2.2.2.2.2.1.c0; have e51 := hSw.2.2.2.2.2.1.c1; have e60 := hSw.2.2.2.2.2.2.c0; have e61 := hSw.2.2.2.2.2.2.c1; go_simp) <;> with_reducible rfl)
                            (try simp only [Act.put, List.setIfInBounds_toArray, List.set_cons_zero])
                            refine wpAnyH_done (by kernel_rfl) ?_ _
                            refine NoPanic.normal ?_
                            (try go_wp2_with fail)
                            go_ret
                            exact ⟨rfl, HB.out⟩
                          exact AllReadyH.nil
                        exact AllReadyH.nil
                      exact AllReadyH.nil
                    exact AllReadyH.nil
                  exact AllReadyH.nil
                exact AllReadyH.nil
              exact AllReadyH.nil
            exact AllReadyH.nil
          exact AllReadyH.nil
        exact AllReadyH.nil
      exact AllReadyH.nil
    exact AllReadyH.nil
end Go.Proofs.YtdnbhgkbfbgnaaaGreatDoor


namespace Go.Proofs.YtdnbhgkbfbgnaaaGreatDoor
open Go.RowKit

/-- a block of cells -/
def CBlk (w : World) (g : Nat) (cs : Array Value) (t : TypeId) : Prop := w.heap[g]? = some (.cells cs t (0, 0))
theorem CBlk.lt {w : World} {g : Nat} {cs : Array Value} {t : TypeId} (h : CBlk w g cs t) : g < w.heap.size := (Array.getElem?_eq_some_iff.1 h).1
theorem CBlk.keep {w w' : World} {n g : Nat} {cs : Array Value} {t : TypeId} (h : CBlk w g cs t) (hb : Below n w w') (hg : g < n) : CBlk w' g cs t := (hb.block g hg).trans h
theorem CBlk.c {w : World} {g : Nat} {cs : Array Value} {t : TypeId} (h : CBlk w g cs t) (j : Nat) {v : Value} (hv : cs[j]? = some v) : w.cell? ⟨g, j, none⟩ = some v := by rw [World.cell?, h]; exact hv
theorem CBlk.f {w : World} {g : Nat} {cs : Array Value} {t : TypeId} (h : CBlk w g cs t) (j : Nat) : w.frozen? ⟨g, j, none⟩ = false := by rw [World.frozen?, h]; simp
theorem CBlk.set {w : World} {g : Nat} {cs : Array Value} {t : TypeId} (h : CBlk w g cs t) (j : Nat) (v : Value) : CBlk (w.setCell ⟨g, j, none⟩ v) g (cs.setIfInBounds j v) t := by
  rw [CBlk, heap_setCell_same w g j _ _ v h]
theorem CBlk.new (w : World) (cs : Array Value) (t : TypeId) : CBlk (w.alloc (.cells cs t)) w.heap.size cs t := Go.heap_alloc_new w _
theorem CBlk.alloc {w : World} {g : Nat} {cs : Array Value} {t : TypeId} (h : CBlk w g cs t) (o : Obj) : CBlk (w.alloc o) g cs t := h.keep (below_alloc w o) h.lt
theorem CBlk.other {w : World} {g : Nat} {cs : Array Value} {t : TypeId} (h : CBlk w g cs t) (p : Addr) (v : Value) (hp : g ≠ p.block) : CBlk (w.setCell p v) g cs t := (heap_setCell_other w p g v hp).trans h
end Go.Proofs.YtdnbhgkbfbgnaaaGreatDoor


namespace Go.Proofs.YtdnbhgkbfbgnaaaGreatDoor
open Go.RowKit

/-- a block of two cells -/
def PB (t : TypeId) (w : World) (g : Nat) (x y : Value) : Prop := w.heap[g]? = some (.cells #[x, y] t (0, 0))
theorem PB.lt {t : TypeId} {w : World} {g : Nat} {x y : Value} (h : PB t w g x y) : g < w.heap.size := (Array.getElem?_eq_some_iff.1 h).1
theorem PB.keep {t : TypeId} {w w' : World} {n g : Nat} {x y : Value} (h : PB t w g x y) (hb : Below n w w') (hg : g < n) : PB t w' g x y := (hb.block g hg).trans h
theorem PB.c0 {t : TypeId} {w : World} {g : Nat} {x y : Value} (h : PB t w g x y) : w.cell? ⟨g, 0, none⟩ = some x := by rw [World.cell?, h]; rfl
theorem PB.c1 {t : TypeId} {w : World} {g : Nat} {x y : Value} (h : PB t w g x y) : w.cell? ⟨g, 1, none⟩ = some y := by rw [World.cell?, h]; rfl
theorem PB.f {t : TypeId} {w : World} {g : Nat} {x y : Value} (h : PB t w g x y) (j : Nat) : w.frozen? ⟨g, j, none⟩ = false := by rw [World.frozen?, h]; simp
theorem PB.s0 {t : TypeId} {w : World} {g : Nat} {x y : Value} (h : PB t w g x y) (v : Value) : PB t (w.setCell ⟨g, 0, none⟩ v) g v y := by
  rw [PB, heap_setCell_same w g 0 _ _ v h]; rfl
theorem PB.s1 {t : TypeId} {w : World} {g : Nat} {x y : Value} (h : PB t w g x y) (v : Value) : PB t (w.setCell ⟨g, 1, none⟩ v) g x v := by
  rw [PB, heap_setCell_same w g 1 _ _ v h]; rfl
theorem PB.new (t : TypeId) (w : World) (x y : Value) : PB t (w.alloc (.cells #[x, y] t)) w.heap.size x y := Go.heap_alloc_new w _
theorem PB.alloc {t : TypeId} {w : World} {g : Nat} {x y : Value} (h : PB t w g x y) (o : Obj) : PB t (w.alloc o) g x y := h.keep (below_alloc w o) h.lt
theorem PB.drew {t : TypeId} {w : World} {g : Nat} {x y : Value} (h : PB t w g x y) : PB t w.drew g x y := h
theorem PB.other {t : TypeId} {w : World} {g : Nat} {x y : Value} (h : PB t w g x y) (p : Addr) (v : Value) (hp : g ≠ p.block) : PB t (w.setCell p v) g x y := (heap_setCell_other w p g v hp).trans h


theorem v4pick_100 (c : Int) (w : World) (h1 : -9223372036854775808 ≤ c) (h2 : c ≤ 9223372036854775807) :
    Calls Tryz.prog 55 #[.int .i64 c, .int .i64 100] w fun e w' => ∃ p : Nat, e = .returned (.int .i64 (p : Int)) ∧ p < 100 ∧ Below w.heap.size w w' := by
  by_cases h : c < 0
  · have e1 : wrap64 (c + 1) = c + 1 := by simp [wrap64]; omega
    have e2 : wrap64 (-(c + 1)) = -(c + 1) := by simp [wrap64]; omega
    have e3 := Lib.hid (show -((c + 1).tmod 100) = ((-(c + 1)).toNat % 100 : Nat) by rw [← Int.neg_tmod, Int.tmod_eq_emod_of_nonneg (by omega)]; omega)
    go_enter Tryz.func55, Tryz.ntmps55
    go_wp2
    go_ret
    exact ⟨_, by rw [← e3.out]; rfl, Nat.mod_lt _ (by decide), Below.refl _ _⟩
  · have e3 := Lib.hid (show c % 100 = (c.toNat % 100 : Nat) by omega)
    go_enter Tryz.func55, Tryz.ntmps55
    go_wp2
    go_ret
    exact ⟨_, by rw [← e3.out]; rfl, Nat.mod_lt _ (by decide), Below.refl _ _⟩

theorem v4pick_1000000007 (c : Int) (w : World) (h1 : -9223372036854775808 ≤ c) (h2 : c ≤ 9223372036854775807) :
    Calls Tryz.prog 55 #[.int .i64 c, .int .i64 1000000007] w fun e w' => ∃ p : Nat, e = .returned (.int .i64 (p : Int)) ∧ p < 1000000007 ∧ Below w.heap.size w w' := by
  by_cases h : c < 0
  · have e1 : wrap64 (c + 1) = c + 1 := by simp [wrap64]; omega
    have e2 : wrap64 (-(c + 1)) = -(c + 1) := by simp [wrap64]; omega
    have e3 := Lib.hid (show -((c + 1).tmod 1000000007) = ((-(c + 1)).toNat % 1000000007 : Nat) by rw [← Int.neg_tmod, Int.tmod_eq_emod_of_nonneg (by omega)]; omega)
    go_enter Tryz.func55, Tryz.ntmps55
    go_wp2
    go_ret
    exact ⟨_, by rw [← e3.out]; rfl, Nat.mod_lt _ (by decide), Below.refl _ _⟩
  · have e3 := Lib.hid (show c % 1000000007 = (c.toNat % 1000000007 : Nat) by omega)
    go_enter Tryz.func55, Tryz.ntmps55
    go_wp2
    go_ret
    exact ⟨_, by rw [← e3.out]; rfl, Nat.mod_lt _ (by decide), Below.refl _ _⟩

theorem v4pick_2 (c : Int) (w : World) (h1 : -9223372036854775808 ≤ c) (h2 : c ≤ 9223372036854775807) :
    Calls Tryz.prog 55 #[.int .i64 c, .int .i64 2] w fun e w' => ∃ p : Nat, e = .returned (.int .i64 (p : Int)) ∧ p < 2 ∧ Below w.heap.size w w' := by
  by_cases h : c < 0
  · have e1 : wrap64 (c + 1) = c + 1 := by simp [wrap64]; omega
    have e2 : wrap64 (-(c + 1)) = -(c + 1) := by simp [wrap64]; omega
    have e3 := Lib.hid (show -((c + 1).tmod 2) = ((-(c + 1)).toNat % 2 : Nat) by rw [← Int.neg_tmod, Int.tmod_eq_emod_of_nonneg (by omega)]; omega)
    go_enter Tryz.func55, Tryz.ntmps55
    go_wp2
    go_ret
    exact ⟨_, by rw [← e3.out]; rfl, Nat.mod_lt _ (by decide), Below.refl _ _⟩
  · have e3 := Lib.hid (show c % 2 = (c.toNat % 2 : Nat) by omega)
    go_enter Tryz.func55, Tryz.ntmps55
    go_wp2
    go_ret
    exact ⟨_, by rw [← e3.out]; rfl, Nat.mod_lt _ (by decide), Below.refl _ _⟩

theorem v4Make_R (n d : Int) (w : World) (hn : n.natAbs < 10 ^ 200) (hd : d.natAbs < 10 ^ 200) (h0 : d ≠ 0) :
    Calls Tryz.prog 29 #[.string (S n), .string (S d)] w fun e w' => e = .returned (.tuple #[RV (Rat.divInt n d), .int .i64 0]) ∧ Below w.heap.size w w' := by
  have h := make_G n d hn hd w
  rw [decide_eq_true h0, opR_R _ _ _ (fun _ => sg_pos h0), sg_R, opQ, if_pos rfl] at h
  exact h
end Go.Proofs.YtdnbhgkbfbgnaaaGreatDoor



namespace Go.Proofs.YtdnbhgkbfbgnaaaGreatDoor
open Go.RowKit

/-- a natural number of at most 100 digits, in writing -/
def DG (s : ByteArray) : Prop := ∃ n : Nat, s = S (n : Int) ∧ n < 10 ^ 100
theorem dg_of {s : ByteArray} {L : List UInt8} (hL : s.data.toList = L) (ha : L.all isDg = true) (h0 : 0 < L.length) (h9 : L.length ≤ 100) (hd : L.length = 1 ∨ L.head? ≠ some 48) : DG s := by
  have key : ∃ n, L = txN n := by
    by_cases h : L.head? = some 48
    · have h1 := hd.resolve_right (fun e => e h)
      refine ⟨0, ?_⟩
      match L, h1, h with
      | [c], _, h => simp at h; subst h; rw [← dec_txN]; rw [Lib.decDigits, dif_pos (by decide)]; rfl
    · exact ⟨_, (txN_of ha h0 h).1.symm⟩
  obtain ⟨n, hn⟩ := key
  refine ⟨n, ?_, txN_len' (by rw [← hn]; exact h9)⟩
  refine S_of hL ?_
  rw [txt, if_neg (by omega), Int.natAbs_natCast]; exact hn
theorem dgit (c : Nat) : isDg (UInt8.ofNat (48 + c % 10)) = true := by
  rw [isDg_iff, UInt8.toNat_ofNat_of_lt' (by show 48 + c % 10 < 256; omega)]
  omega

theorem S_minus (n : Int) (h : 0 < n) : S (-n) = ⟨#[45]⟩ ++ S n := by
  refine toList_inj ?_
  rw [ByteArray.toList_eq, ByteArray.toList_eq, ByteArray.data_append, Array.toList_append, S_list, S_list, txt, if_pos (by omega), txt, if_neg (by omega), Int.natAbs_neg]
  rfl
theorem mk_fit100 (n d : Int) (hn : n.natAbs < 10 ^ 100) (hd : d.natAbs < 10 ^ 100) (h0 : d ≠ 0) : fitR 100 (Rat.divInt n d) := by
  rw [← sg_R]
  exact mk_fit (by unfold sg; split <;> omega) (by unfold sg; split <;> omega) (by have := sg_pos h0; omega)

set_option maxRecDepth 100000 in
set_option maxHeartbeats 8000000 in
theorem Long_any (x0 x1 x2 x3 : Int) (w : World) (b0 : -9223372036854775808 ≤ x0 ∧ x0 ≤ 9223372036854775807) (b1 : -9223372036854775808 ≤ x1 ∧ x1 ≤ 9223372036854775807) (b2 : -9223372036854775808 ≤ x2 ∧ x2 ≤ 9223372036854775807) (b3 : -9223372036854775808 ≤ x3 ∧ x3 ≤ 9223372036854775807) :
    Calls Tryz.prog 14 #[.agg #[.int .i64 x0, .int .i64 x1, .int .i64 x2, .int .i64 x3]] w fun e w' => ∃ q, e = .returned (RV q) ∧ fitR 100 q ∧ Below w.heap.size w w' := by
  have h1 : (w.alloc (.cells #[.int .i64 x0, .int .i64 x1, .int .i64 x2, .int .i64 x3] 24)).heap.size = w.heap.size + 1 := World.size_alloc _ _
  have h2 : ((w.alloc (.cells #[.int .i64 x0, .int .i64 x1, .int .i64 x2, .int .i64 x3] 24)).alloc (.cells #[.string ⟨#[]⟩, .string ⟨#[]⟩] 23)).heap.size = w.heap.size + 1 + 1 := by rw [World.size_alloc, h1]
  have A := Lib.hid (((CBlk.new w #[.int .i64 x0, .int .i64 x1, .int .i64 x2, .int .i64 x3] 24).alloc (.cells #[.string ⟨#[]⟩, .string ⟨#[]⟩] 23)).alloc (.cells #[.string ⟨#[]⟩, .string ⟨#[]⟩] 73))
  have Z := Lib.hid ((h1 ▸ RBlk.new (w.alloc (.cells #[.int .i64 x0, .int .i64 x1, .int .i64 x2, .int .i64 x3] 24)) (.string ⟨#[]⟩) (.string ⟨#[]⟩) : RBlk ((w.alloc (.cells #[.int .i64 x0, .int .i64 x1, .int .i64 x2, .int .i64 x3] 24)).alloc (.cells #[.string ⟨#[]⟩, .string ⟨#[]⟩] 23)) (w.heap.size + 1) (.string ⟨#[]⟩) (.string ⟨#[]⟩)).alloc (.cells #[.string ⟨#[]⟩, .string ⟨#[]⟩] 73))
  have O := Lib.hid (h2 ▸ PB.new 73 ((w.alloc (.cells #[.int .i64 x0, .int .i64 x1, .int .i64 x2, .int .i64 x3] 24)).alloc (.cells #[.string ⟨#[]⟩, .string ⟨#[]⟩] 23)) (.string ⟨#[]⟩) (.string ⟨#[]⟩) : PB 73 (((w.alloc (.cells #[.int .i64 x0, .int .i64 x1, .int .i64 x2, .int .i64 x3] 24)).alloc (.cells #[.string ⟨#[]⟩, .string ⟨#[]⟩] 23)).alloc (.cells #[.string ⟨#[]⟩, .string ⟨#[]⟩] 73)) (w.heap.size + 1 + 1) (.string ⟨#[]⟩) (.string ⟨#[]⟩))
  have HB := Lib.hid (((below_alloc w (.cells #[.int .i64 x0, .int .i64 x1, .int .i64 x2, .int .i64 x3] 24)).alloc (by rw [h1]; omega) (.cells #[.string ⟨#[]⟩, .string ⟨#[]⟩] 23)).alloc (by rw [h2]; omega) (.cells #[.string ⟨#[]⟩, .string ⟨#[]⟩] 73))
  clear h1 h2
  go_enter Tryz.func14, Tryz.ntmps14
  go_wp2_with fail
  go_loopw [4] (fun kv wr => ∃ (k : Nat) (o0 o1 : ByteArray), k ≤ 2 ∧ kv = .int .i64 (k : Int) ∧ Hid (CBlk wr w.heap.size #[.int .i64 x0, .int .i64 x1, .int .i64 x2, .int .i64 x3] 24) ∧ Hid (RBlk wr (w.heap.size + 1) (.string ⟨#[]⟩) (.string ⟨#[]⟩)) ∧ Hid (PB 73 wr (w.heap.size + 1 + 1) (.string o0) (.string o1)) ∧ Hid ((0 < k → DG o0) ∧ (1 < k → DG o1)) ∧ Hid (Below w.heap.size w wr)) (fun i _ => 2 - (intOf i).toNat)
  case atStart => exact ⟨0, _, _, by omega, rfl, A, Z, O, Lib.hid ⟨fun h => absurd h (by decide), fun h => absurd h (by decide)⟩, HB⟩
  case round =>
    clear A Z O HB
    obtain ⟨k, o0, o1, hk, rfl, A, Z, O, HD, HB⟩ := hrel
    by_cases hlt : k < 2
    · rcases (by omega : k = 0 ∨ k = 1) with rfl | rfl
      · have Ac0 := A.out.c 0 rfl
        have Ac1 := A.out.c 1 rfl
        go_wp2_with fail
        go_at_call 55
        refine (v4pick_100 x1 _ b1.1 b1.2).mono ?_
        rintro e WA ⟨n0, rfl, hn0, B⟩
        clear Ac0 Ac1
        have An := Lib.hid (A.out.keep B A.out.lt)
        have Zn := Lib.hid (Z.out.keep B Z.out.lt)
        have On := Lib.hid (O.out.keep B O.out.lt)
        have HBn := Lib.hid (HB.out.trans (B.mono HB.out.size))
        clear A Z O HB
        have A := An
        have Z := Zn
        have O := On
        have HB := HBn
        clear An Zn On HBn
        clear B
        have wn : IntKind.i64.wrap (1 + (n0 : Int)) = 1 + (n0 : Int) := by simp [IntKind.wrap, IntKind.bits, IntKind.signed]; omega
        have Ac0 := A.out.c 0 rfl
        go_wp2_with fail
        go_at_call 55
        refine (v4pick_1000000007 x0 _ b0.1 b0.2).mono ?_
        rintro e WB ⟨c0, rfl, hc0, B⟩
        clear Ac0
        have An := Lib.hid (A.out.keep B A.out.lt)
        have Zn := Lib.hid (Z.out.keep B Z.out.lt)
        have On := Lib.hid (O.out.keep B O.out.lt)
        have HBn := Lib.hid (HB.out.trans (B.mono HB.out.size))
        clear A Z O HB
        have A := An
        have Z := Zn
        have O := On
        have HB := HBn
        clear An Zn On HBn
        clear B
        go_wp2_with fail
        go_loopw [6, 7] (fun sv cv wr => ∃ (t : ByteArray) (c : Nat), sv = .string t ∧ cv = .int .i64 (c : Int) ∧ Hid (t.data.toList.all isDg = true) ∧ t.size ≤ 1 + n0 ∧ c < 2147483647 ∧ Hid (CBlk wr w.heap.size #[.int .i64 x0, .int .i64 x1, .int .i64 x2, .int .i64 x3] 24) ∧ Hid (RBlk wr (w.heap.size + 1) (.string ⟨#[]⟩) (.string ⟨#[]⟩)) ∧ Hid (PB 73 wr (w.heap.size + 1 + 1) (.string o0) (.string o1)) ∧ Hid (Below w.heap.size w wr)) (fun sv _ _ => 1 + n0 - (match sv with | .string t => t.size | _ => 0))
        case atStart => exact ⟨_, c0, rfl, rfl, Lib.hid rfl, by show 0 ≤ _; omega, by omega, A, Z, O, HB⟩
        case round =>
          clear A Z O HB
          obtain ⟨t, c, rfl, rfl, hT, hsz, hc, A, Z, O, HB⟩ := hrel
          by_cases hlt : t.size < 1 + n0
          · have hli : ((t.size : Nat) : Int) < 1 + (n0 : Int) := by omega
            have w1 : IntKind.i64.wrap ((c : Int) * 48271) = (c : Int) * 48271 := by simp [IntKind.wrap, IntKind.bits, IntKind.signed]; omega
            have w2 : IntKind.i64.wrap ((c : Int) * 48271 + 11) = (c : Int) * 48271 + 11 := by simp [IntKind.wrap, IntKind.bits, IntKind.signed]; omega
            obtain ⟨c2, hc2⟩ : ∃ c2 : Nat, c2 = (c * 48271 + 11) % 2147483647 := ⟨_, rfl⟩
            have hc2i : ((c : Int) * 48271 + 11) % 2147483647 = (c2 : Int) := by omega
            have hc29 : c2 < 2147483647 := by omega
            obtain ⟨d, hd⟩ : ∃ d : UInt8, d = UInt8.ofNat (48 + c2 / 65536 % 10) := ⟨_, rfl⟩
            have hdn : d.toNat = 48 + c2 / 65536 % 10 := by rw [hd, UInt8.toNat_ofNat_of_lt' (by show 48 + c2 / 65536 % 10 < 256; omega)]
            have hdv : (48 : Int) + (c2 : Int) / 65536 % 10 = (d.toNat : Int) := by omega
            have hdd := Lib.hid (show isDg d = true by rw [hd]; exact dgit (c2 / 65536))
            have wd : IntKind.u8.wrap (d.toNat : Int) = (d.toNat : Int) := by have := d.toNat_lt; simp [IntKind.wrap, IntKind.bits, IntKind.signed]; omega
            have hcv := run_convert_bytes_back (P := Tryz.prog) (wr.alloc (.cells #[.int .u8 (d.toNat : Int)] 5)) 48 9 5 ⟨wr.heap.size, 0, none⟩ 1 [d] Tryz.underlying48 Tryz.underlying5 Tryz.underlying9 (fun j hj => by
              obtain rfl : j = 0 := by simpa using hj
              rw [World.cell?]
              rw [show (⟨wr.heap.size, 0, none⟩ : Addr).add 0 = ⟨wr.heap.size, 0, none⟩ from rfl, Go.heap_alloc_new]; rfl)
            rw [show ([d] : List UInt8).length = 1 from rfl] at hcv
            have zz : (⟨([d] : List UInt8).toArray⟩ : ByteArray).size = 1 := rfl
            have hds := Lib.hid (show (⟨([d] : List UInt8).toArray⟩ : ByteArray).data.toList = [d] by simp)
            generalize (⟨([d] : List UInt8).toArray⟩ : ByteArray) = ds at *
            clear hc2 hd hdn hli
            have hli : ((t.size : Nat) : Int) < 1 + (n0 : Int) := by omega
            go_wp2_with fail
            go_roundw
            case rel => exact ⟨t ++ ds, c2, rfl, by rw [hc2i], Lib.hid (by rw [ByteArray.data_append, Array.toList_append, List.all_append, hT.out, hds.out, List.all_cons, hdd.out]; rfl), by rw [ByteArray.size_append]; omega, hc29, Lib.hid (A.out.alloc _), Lib.hid (Z.out.alloc _), Lib.hid (O.out.alloc _), Lib.hid (HB.out.alloc HB.out.size _)⟩
            case measure => show 1 + n0 - (t ++ ds).size < 1 + n0 - t.size; rw [ByteArray.size_append]; omega
          · have hli : ¬ (((t.size : Nat) : Int) < 1 + (n0 : Int)) := by omega
            have ht1 : 0 < t.size := by omega
            have ht9 : t.size ≤ 100 := by omega
            go_wp2_with fail
            go_loopw [6] (fun sv wq => ∃ t : ByteArray, sv = .string t ∧ Hid (t.data.toList.all isDg = true) ∧ 0 < t.size ∧ t.size ≤ 100 ∧ wr = wq) (fun sv _ => match sv with | .string t => t.size | _ => 0)
            case atStart => exact ⟨t, rfl, hT, ht1, ht9, by first | rfl | trivial⟩
            case round =>
              clear hT ht1 ht9 hsz hlt hli
              obtain ⟨t, rfl, hT, ht1, ht9, hw⟩ := hrel
              subst hw
              obtain ⟨l, hl⟩ : ∃ l, t.data.toList = l := ⟨_, rfl⟩
              have hs := bytes_size hl
              cases l with
              | nil => rw [List.length_nil] at hs; omega
              | cons x l =>
                rw [List.length_cons] at hs
                have hx := bytes_head hl ht1
                have htl := bytes_tail hl
                have HL := Lib.hid hl
                have HTL := Lib.hid htl
                have HS := Lib.hid hs
                clear hl htl
                cases l with
                | nil =>
                  have HG := Lib.hid (dg_of HL.out (by rw [← HL.out]; exact hT.out) (by rw [List.length_cons]; omega) (by rw [List.length_cons, List.length_nil]; omega) (.inl rfl))
                  rw [List.length_nil] at hs
                  have e0 : decide ((1 : Int) < (t.size : Int)) = false := by rw [hs]; rfl
                  clear hs hx HS
                  have Oc := O.out.c0
                  have Of := O.out.f 0
                  go_wp2_with fail
                  go_roundw
                  case rel => exact ⟨1, t, o1, by omega, by go_num, Lib.hid (A.out.other ⟨w.heap.size + 1 + 1, 0, none⟩ (.string t) (by show w.heap.size ≠ w.heap.size + 1 + 1; omega)), Lib.hid (Z.out.other ⟨w.heap.size + 1 + 1, 0, none⟩ (.string t) (by show w.heap.size + 1 ≠ w.heap.size + 1 + 1; omega)), Lib.hid (O.out.s0 (.string t)), Lib.hid ⟨fun _ => HG.out, fun h => absurd h (by decide)⟩, Lib.hid (HB.out.setCell (p := ⟨w.heap.size + 1 + 1, 0, none⟩) (by show w.heap.size ≤ w.heap.size + 1 + 1; omega) (.string t))⟩
                  case measure => simp [intOf]
                | cons y l =>
                  rw [List.length_cons] at hs
                  have e0 : decide ((1 : Int) < (t.size : Int)) = true := by rw [decide_eq_true_eq]; omega
                  by_cases h48 : x = 48
                  · have H48 := Lib.hid h48
                    have e2 : ((x.toNat : Int) == 48) = true := by rw [h48]; rfl
                    clear h48 hs
                    go_wp2_with fail
                    go_roundw
                    case rel =>
                      refine ⟨_, rfl, Lib.hid ?_, ?_, ?_, by first | rfl | trivial⟩
                      · rw [HTL.out]; have h := hT.out; rw [HL.out, List.all_cons, Bool.and_eq_true] at h; exact h.2
                      · rw [ByteArray.size_extract, HS.out, List.length_cons]; omega
                      · rw [ByteArray.size_extract]; omega
                    case measure => show (t.extract 1 t.size).size < t.size; rw [ByteArray.size_extract]; omega
                  · have HG := Lib.hid (dg_of HL.out (by rw [← HL.out]; exact hT.out) (by rw [List.length_cons]; omega) (by rw [List.length_cons, ← HS.out]; exact ht9) (.inr (by simp only [List.head?_cons]; intro e; exact h48 (Option.some.inj e))))
                    have e2 : ((x.toNat : Int) == 48) = false := by
                      rw [beq_eq_false_iff_ne]; intro e
                      exact h48 (UInt8.toNat_inj.1 (by have h48n : (48 : UInt8).toNat = 48 := rfl; omega))
                    clear h48 hs
                    have Oc := O.out.c0
                    have Of := O.out.f 0
                    go_wp2_with fail
                    go_roundw
                    case rel => exact ⟨1, t, o1, by omega, by go_num, Lib.hid (A.out.other ⟨w.heap.size + 1 + 1, 0, none⟩ (.string t) (by show w.heap.size ≠ w.heap.size + 1 + 1; omega)), Lib.hid (Z.out.other ⟨w.heap.size + 1 + 1, 0, none⟩ (.string t) (by show w.heap.size + 1 ≠ w.heap.size + 1 + 1; omega)), Lib.hid (O.out.s0 (.string t)), Lib.hid ⟨fun _ => HG.out, fun h => absurd h (by decide)⟩, Lib.hid (HB.out.setCell (p := ⟨w.heap.size + 1 + 1, 0, none⟩) (by show w.heap.size ≤ w.heap.size + 1 + 1; omega) (.string t))⟩
                    case measure => simp [intOf]
      · have Ac0 := A.out.c 2 rfl
        have Ac1 := A.out.c 3 rfl
        go_wp2_with fail
        go_at_call 55
        refine (v4pick_100 x3 _ b3.1 b3.2).mono ?_
        rintro e WA ⟨n0, rfl, hn0, B⟩
        clear Ac0 Ac1
        have An := Lib.hid (A.out.keep B A.out.lt)
        have Zn := Lib.hid (Z.out.keep B Z.out.lt)
        have On := Lib.hid (O.out.keep B O.out.lt)
        have HBn := Lib.hid (HB.out.trans (B.mono HB.out.size))
        clear A Z O HB
        have A := An
        have Z := Zn
        have O := On
        have HB := HBn
        clear An Zn On HBn
        clear B
        have wn : IntKind.i64.wrap (1 + (n0 : Int)) = 1 + (n0 : Int) := by simp [IntKind.wrap, IntKind.bits, IntKind.signed]; omega
        have Ac0 := A.out.c 2 rfl
        go_wp2_with fail
        go_at_call 55
        refine (v4pick_1000000007 x2 _ b2.1 b2.2).mono ?_
        rintro e WB ⟨c0, rfl, hc0, B⟩
        clear Ac0
        have An := Lib.hid (A.out.keep B A.out.lt)
        have Zn := Lib.hid (Z.out.keep B Z.out.lt)
        have On := Lib.hid (O.out.keep B O.out.lt)
        have HBn := Lib.hid (HB.out.trans (B.mono HB.out.size))
        clear A Z O HB
        have A := An
        have Z := Zn
        have O := On
        have HB := HBn
        clear An Zn On HBn
        clear B
        go_wp2_with fail
        go_loopw [6, 7] (fun sv cv wr => ∃ (t : ByteArray) (c : Nat), sv = .string t ∧ cv = .int .i64 (c : Int) ∧ Hid (t.data.toList.all isDg = true) ∧ t.size ≤ 1 + n0 ∧ c < 2147483647 ∧ Hid (CBlk wr w.heap.size #[.int .i64 x0, .int .i64 x1, .int .i64 x2, .int .i64 x3] 24) ∧ Hid (RBlk wr (w.heap.size + 1) (.string ⟨#[]⟩) (.string ⟨#[]⟩)) ∧ Hid (PB 73 wr (w.heap.size + 1 + 1) (.string o0) (.string o1)) ∧ Hid (Below w.heap.size w wr)) (fun sv _ _ => 1 + n0 - (match sv with | .string t => t.size | _ => 0))
        case atStart => exact ⟨_, c0, rfl, rfl, Lib.hid rfl, by show 0 ≤ _; omega, by omega, A, Z, O, HB⟩
        case round =>
          clear A Z O HB
          obtain ⟨t, c, rfl, rfl, hT, hsz, hc, A, Z, O, HB⟩ := hrel
          by_cases hlt : t.size < 1 + n0
          · have hli : ((t.size : Nat) : Int) < 1 + (n0 : Int) := by omega
            have w1 : IntKind.i64.wrap ((c : Int) * 48271) = (c : Int) * 48271 := by simp [IntKind.wrap, IntKind.bits, IntKind.signed]; omega
            have w2 : IntKind.i64.wrap ((c : Int) * 48271 + 11) = (c : Int) * 48271 + 11 := by simp [IntKind.wrap, IntKind.bits, IntKind.signed]; omega
            obtain ⟨c2, hc2⟩ : ∃ c2 : Nat, c2 = (c * 48271 + 11) % 2147483647 := ⟨_, rfl⟩
            have hc2i : ((c : Int) * 48271 + 11) % 2147483647 = (c2 : Int) := by omega
            have hc29 : c2 < 2147483647 := by omega
            obtain ⟨d, hd⟩ : ∃ d : UInt8, d = UInt8.ofNat (48 + c2 / 65536 % 10) := ⟨_, rfl⟩
            have hdn : d.toNat = 48 + c2 / 65536 % 10 := by rw [hd, UInt8.toNat_ofNat_of_lt' (by show 48 + c2 / 65536 % 10 < 256; omega)]
            have hdv : (48 : Int) + (c2 : Int) / 65536 % 10 = (d.toNat : Int) := by omega
            have hdd := Lib.hid (show isDg d = true by rw [hd]; exact dgit (c2 / 65536))
            have wd : IntKind.u8.wrap (d.toNat : Int) = (d.toNat : Int) := by have := d.toNat_lt; simp [IntKind.wrap, IntKind.bits, IntKind.signed]; omega
            have hcv := run_convert_bytes_back (P := Tryz.prog) (wr.alloc (.cells #[.int .u8 (d.toNat : Int)] 5)) 48 9 5 ⟨wr.heap.size, 0, none⟩ 1 [d] Tryz.underlying48 Tryz.underlying5 Tryz.underlying9 (fun j hj => by
              obtain rfl : j = 0 := by simpa using hj
              rw [World.cell?]
              rw [show (⟨wr.heap.size, 0, none⟩ : Addr).add 0 = ⟨wr.heap.size, 0, none⟩ from rfl, Go.heap_alloc_new]; rfl)
            rw [show ([d] : List UInt8).length = 1 from rfl] at hcv
            have zz : (⟨([d] : List UInt8).toArray⟩ : ByteArray).size = 1 := rfl
            have hds := Lib.hid (show (⟨([d] : List UInt8).toArray⟩ : ByteArray).data.toList = [d] by simp)
            generalize (⟨([d] : List UInt8).toArray⟩ : ByteArray) = ds at *
            clear hc2 hd hdn hli
            have hli : ((t.size : Nat) : Int) < 1 + (n0 : Int) := by omega
            go_wp2_with fail
            go_roundw
            case rel => exact ⟨t ++ ds, c2, rfl, by rw [hc2i], Lib.hid (by rw [ByteArray.data_append, Array.toList_append, List.all_append, hT.out, hds.out, List.all_cons, hdd.out]; rfl), by rw [ByteArray.size_append]; omega, hc29, Lib.hid (A.out.alloc _), Lib.hid (Z.out.alloc _), Lib.hid (O.out.alloc _), Lib.hid (HB.out.alloc HB.out.size _)⟩
            case measure => show 1 + n0 - (t ++ ds).size < 1 + n0 - t.size; rw [ByteArray.size_append]; omega
          · have hli : ¬ (((t.size : Nat) : Int) < 1 + (n0 : Int)) := by omega
            have ht1 : 0 < t.size := by omega
            have ht9 : t.size ≤ 100 := by omega
            go_wp2_with fail
            go_loopw [6] (fun sv wq => ∃ t : ByteArray, sv = .string t ∧ Hid (t.data.toList.all isDg = true) ∧ 0 < t.size ∧ t.size ≤ 100 ∧ wr = wq) (fun sv _ => match sv with | .string t => t.size | _ => 0)
            case atStart => exact ⟨t, rfl, hT, ht1, ht9, by first | rfl | trivial⟩
            case round =>
              clear hT ht1 ht9 hsz hlt hli
              obtain ⟨t, rfl, hT, ht1, ht9, hw⟩ := hrel
              subst hw
              obtain ⟨l, hl⟩ : ∃ l, t.data.toList = l := ⟨_, rfl⟩
              have hs := bytes_size hl
              cases l with
              | nil => rw [List.length_nil] at hs; omega
              | cons x l =>
                rw [List.length_cons] at hs
                have hx := bytes_head hl ht1
                have htl := bytes_tail hl
                have HL := Lib.hid hl
                have HTL := Lib.hid htl
                have HS := Lib.hid hs
                clear hl htl
                cases l with
                | nil =>
                  have HG := Lib.hid (dg_of HL.out (by rw [← HL.out]; exact hT.out) (by rw [List.length_cons]; omega) (by rw [List.length_cons, List.length_nil]; omega) (.inl rfl))
                  rw [List.length_nil] at hs
                  have e0 : decide ((1 : Int) < (t.size : Int)) = false := by rw [hs]; rfl
                  clear hs hx HS
                  have Oc := O.out.c1
                  have Of := O.out.f 1
                  go_wp2_with fail
                  go_roundw
                  case rel => exact ⟨2, o0, t, by omega, by go_num, Lib.hid (A.out.other ⟨w.heap.size + 1 + 1, 1, none⟩ (.string t) (by show w.heap.size ≠ w.heap.size + 1 + 1; omega)), Lib.hid (Z.out.other ⟨w.heap.size + 1 + 1, 1, none⟩ (.string t) (by show w.heap.size + 1 ≠ w.heap.size + 1 + 1; omega)), Lib.hid (O.out.s1 (.string t)), Lib.hid ⟨fun _ => HD.out.1 (by decide), fun h => HG.out⟩, Lib.hid (HB.out.setCell (p := ⟨w.heap.size + 1 + 1, 1, none⟩) (by show w.heap.size ≤ w.heap.size + 1 + 1; omega) (.string t))⟩
                  case measure => simp [intOf]
                | cons y l =>
                  rw [List.length_cons] at hs
                  have e0 : decide ((1 : Int) < (t.size : Int)) = true := by rw [decide_eq_true_eq]; omega
                  by_cases h48 : x = 48
                  · have H48 := Lib.hid h48
                    have e2 : ((x.toNat : Int) == 48) = true := by rw [h48]; rfl
                    clear h48 hs
                    go_wp2_with fail
                    go_roundw
                    case rel =>
                      refine ⟨_, rfl, Lib.hid ?_, ?_, ?_, by first | rfl | trivial⟩
                      · rw [HTL.out]; have h := hT.out; rw [HL.out, List.all_cons, Bool.and_eq_true] at h; exact h.2
                      · rw [ByteArray.size_extract, HS.out, List.length_cons]; omega
                      · rw [ByteArray.size_extract]; omega
                    case measure => show (t.extract 1 t.size).size < t.size; rw [ByteArray.size_extract]; omega
                  · have HG := Lib.hid (dg_of HL.out (by rw [← HL.out]; exact hT.out) (by rw [List.length_cons]; omega) (by rw [List.length_cons, ← HS.out]; exact ht9) (.inr (by simp only [List.head?_cons]; intro e; exact h48 (Option.some.inj e))))
                    have e2 : ((x.toNat : Int) == 48) = false := by
                      rw [beq_eq_false_iff_ne]; intro e
                      exact h48 (UInt8.toNat_inj.1 (by have h48n : (48 : UInt8).toNat = 48 := rfl; omega))
                    clear h48 hs
                    have Oc := O.out.c1
                    have Of := O.out.f 1
                    go_wp2_with fail
                    go_roundw
                    case rel => exact ⟨2, o0, t, by omega, by go_num, Lib.hid (A.out.other ⟨w.heap.size + 1 + 1, 1, none⟩ (.string t) (by show w.heap.size ≠ w.heap.size + 1 + 1; omega)), Lib.hid (Z.out.other ⟨w.heap.size + 1 + 1, 1, none⟩ (.string t) (by show w.heap.size + 1 ≠ w.heap.size + 1 + 1; omega)), Lib.hid (O.out.s1 (.string t)), Lib.hid ⟨fun _ => HD.out.1 (by decide), fun h => HG.out⟩, Lib.hid (HB.out.setCell (p := ⟨w.heap.size + 1 + 1, 1, none⟩) (by show w.heap.size ≤ w.heap.size + 1 + 1; omega) (.string t))⟩
                    case measure => simp [intOf]
    · obtain rfl : k = 2 := by omega
      obtain ⟨n0, rfl, hn0⟩ := HD.out.1 (by decide)
      obtain ⟨n1, rfl, hn1⟩ := HD.out.2 (by decide)
      have ht1 := S_eq0 (n1 : Int)
      have ht0 := S_eq0 (n0 : Int)
      have z0 := S_size2 (z := (n0 : Int)) (by rw [Int.natAbs_natCast]; exact Nat.lt_of_lt_of_le hn0 (by decide))
      have z45 : (⟨#[45]⟩ : ByteArray).size = 1 := rfl
      by_cases h1 : n1 = 0
      · have ht1b : ((S (n1 : Int)).toList == [48]) = true := by rw [ht1]; exact decide_eq_true (by omega)
        clear ht1 h1
        generalize S (n1 : Int) = s1 at *
        have e7 : S 7 = ⟨#[55]⟩ := S_lit (L := [55]) (by decide)
        have Oc1 := O.out.c1
        have Of1 := O.out.f 1
        have Ac0 := A.out.c 0 rfl
        have Ae0 := (A.out.other ⟨w.heap.size + 1 + 1, 1, none⟩ (.string ⟨#[55]⟩) (by show w.heap.size ≠ w.heap.size + 1 + 1; omega)).c 0 rfl
        go_wp2_with fail
        clear Oc1 Of1 Ae0
        have An := Lib.hid (A.out.other ⟨w.heap.size + 1 + 1, 1, none⟩ (.string ⟨#[55]⟩) (by show w.heap.size ≠ w.heap.size + 1 + 1; omega))
        have Zn := Lib.hid (Z.out.other ⟨w.heap.size + 1 + 1, 1, none⟩ (.string ⟨#[55]⟩) (by show w.heap.size + 1 ≠ w.heap.size + 1 + 1; omega))
        have On := Lib.hid (O.out.s1 (.string ⟨#[55]⟩))
        have HBn := Lib.hid (HB.out.setCell (p := ⟨w.heap.size + 1 + 1, 1, none⟩) (by show w.heap.size ≤ w.heap.size + 1 + 1; omega) (.string ⟨#[55]⟩))
        clear A Z O HB
        have A := An
        have Z := Zn
        have O := On
        have HB := HBn
        clear An Zn On HBn
        go_at_call 55
        refine (v4pick_2 x0 _ b0.1 b0.2).mono ?_
        rintro e WC ⟨p, rfl, hp, B⟩
        have An := Lib.hid (A.out.keep B A.out.lt)
        have Zn := Lib.hid (Z.out.keep B Z.out.lt)
        have On := Lib.hid (O.out.keep B O.out.lt)
        have HBn := Lib.hid (HB.out.trans (B.mono HB.out.size))
        clear A Z O HB
        have A := An
        have Z := Zn
        have O := On
        have HB := HBn
        clear An Zn On HBn
        clear B Ac0
        by_cases hp0 : p = 0
        · subst hp0
          by_cases h0 : n0 = 0
          · have ht0b : ((S (n0 : Int)).toList == [48]) = true := by rw [ht0]; exact decide_eq_true (by omega)
            clear ht0
            have hz := mk_fit100 ((n0 : Int)) (7) (by rw [Int.natAbs_natCast]; exact hn0) (by decide) (by decide)
            have cm := fun W => v4Make_R ((n0 : Int)) (7) W (wide (p := 100) (by rw [Int.natAbs_natCast]; exact hn0) (by decide)) (wide (p := 100) (by decide) (by decide)) (by decide)
            rw [e7] at cm
            unfold RV at cm
            generalize Rat.divInt ((n0 : Int)) (7) = z at *
            have CM := Lib.hid cm
            have HZ := Lib.hid hz
            clear cm hz
            generalize S (n0 : Int) = s0 at *
            have Oc0 := O.out.c0
            have Oc1 := O.out.c1
            have Of0 := O.out.f 0
            go_wp2_with fail
            go_at_call 29
            refine (CM.out _).mono ?_
            rintro e WD ⟨rfl, B⟩
            have V := Lib.hid (RBlk.new WD (.string (S z.num)) (.string (S (z.den : Int))))
            have Zn := Lib.hid ((Z.out.keep B Z.out.lt).alloc (.cells #[.string (S z.num), .string (S (z.den : Int))] 23))
            have HBn := Lib.hid ((HB.out.trans (B.mono HB.out.size)).alloc (HB.out.trans (B.mono HB.out.size)).size (.cells #[.string (S z.num), .string (S (z.den : Int))] 23))
            clear Z HB A O B Oc0 Oc1
            have vc0 := V.out.c0
            have vc1 := V.out.c1
            have c0 := Zn.out.c0
            have c1 := Zn.out.c1
            have f0 := Zn.out.f 0
            have f1 := Zn.out.f 1
            have hs := Zn.out.s0 (.string (S z.num))
            have d1 := hs.c1
            have g1 := hs.f 1
            have HS := Lib.hid (hs.s1 (.string (S (z.den : Int))))
            have HBS := Lib.hid ((HBn.out.setCell (p := ⟨w.heap.size + 1, 0, none⟩) (by show w.heap.size ≤ w.heap.size + 1; omega) (.string (S z.num))).setCell (p := ⟨w.heap.size + 1, 1, none⟩) (by show w.heap.size ≤ w.heap.size + 1; omega) (.string (S (z.den : Int))))
            clear hs
            go_wp2_with fail
            refine bodyPost_ret (results_ratio1 rfl _ _ (w.heap.size + 1) _ _ rfl HS.out) rfl ?_
            exact ⟨z, rfl, HZ.out, HBS.out⟩
          · have ht0b : ((S (n0 : Int)).toList == [48]) = false := by rw [ht0]; exact decide_eq_false (by omega)
            clear ht0
            have e45 := S_minus (n0 : Int) (by omega)
            have hz := mk_fit100 (-(n0 : Int)) (7) (by rw [Int.natAbs_neg, Int.natAbs_natCast]; exact hn0) (by decide) (by decide)
            have cm := fun W => v4Make_R (-(n0 : Int)) (7) W (wide (p := 100) (by rw [Int.natAbs_neg, Int.natAbs_natCast]; exact hn0) (by decide)) (wide (p := 100) (by decide) (by decide)) (by decide)
            rw [e7] at cm
            unfold RV at cm
            generalize Rat.divInt (-(n0 : Int)) (7) = z at *
            have CM := Lib.hid cm
            have HZ := Lib.hid hz
            clear cm hz
            rw [e45] at CM
            generalize S (n0 : Int) = s0 at *
            have Oc0 := O.out.c0
            have Oc1 := O.out.c1
            have Of0 := O.out.f 0
            have Oz := O.out.s0 (.string (⟨#[45]⟩ ++ s0))
            have Oz0 := Oz.c0
            have Oz1 := Oz.c1
            clear Oz
            go_wp2_with fail
            clear Oz0 Oz1
            have An := Lib.hid (A.out.other ⟨w.heap.size + 1 + 1, 0, none⟩ (.string (⟨#[45]⟩ ++ s0)) (by show w.heap.size ≠ w.heap.size + 1 + 1; omega))
            have Zn := Lib.hid (Z.out.other ⟨w.heap.size + 1 + 1, 0, none⟩ (.string (⟨#[45]⟩ ++ s0)) (by show w.heap.size + 1 ≠ w.heap.size + 1 + 1; omega))
            have On := Lib.hid (O.out.s0 (.string (⟨#[45]⟩ ++ s0)))
            have HBn := Lib.hid (HB.out.setCell (p := ⟨w.heap.size + 1 + 1, 0, none⟩) (by show w.heap.size ≤ w.heap.size + 1 + 1; omega) (.string (⟨#[45]⟩ ++ s0)))
            clear A Z O HB
            have A := An
            have Z := Zn
            have O := On
            have HB := HBn
            clear An Zn On HBn
            go_at_call 29
            refine (CM.out _).mono ?_
            rintro e WD ⟨rfl, B⟩
            have V := Lib.hid (RBlk.new WD (.string (S z.num)) (.string (S (z.den : Int))))
            have Zn := Lib.hid ((Z.out.keep B Z.out.lt).alloc (.cells #[.string (S z.num), .string (S (z.den : Int))] 23))
            have HBn := Lib.hid ((HB.out.trans (B.mono HB.out.size)).alloc (HB.out.trans (B.mono HB.out.size)).size (.cells #[.string (S z.num), .string (S (z.den : Int))] 23))
            clear Z HB A O B Oc0 Oc1
            have vc0 := V.out.c0
            have vc1 := V.out.c1
            have c0 := Zn.out.c0
            have c1 := Zn.out.c1
            have f0 := Zn.out.f 0
            have f1 := Zn.out.f 1
            have hs := Zn.out.s0 (.string (S z.num))
            have d1 := hs.c1
            have g1 := hs.f 1
            have HS := Lib.hid (hs.s1 (.string (S (z.den : Int))))
            have HBS := Lib.hid ((HBn.out.setCell (p := ⟨w.heap.size + 1, 0, none⟩) (by show w.heap.size ≤ w.heap.size + 1; omega) (.string (S z.num))).setCell (p := ⟨w.heap.size + 1, 1, none⟩) (by show w.heap.size ≤ w.heap.size + 1; omega) (.string (S (z.den : Int))))
            clear hs
            go_wp2_with fail
            refine bodyPost_ret (results_ratio1 rfl _ _ (w.heap.size + 1) _ _ rfl HS.out) rfl ?_
            exact ⟨z, rfl, HZ.out, HBS.out⟩
        · have hp1 : ¬ ((p : Int) = 0) := by omega
          have hz := mk_fit100 ((n0 : Int)) (7) (by rw [Int.natAbs_natCast]; exact hn0) (by decide) (by decide)
          have cm := fun W => v4Make_R ((n0 : Int)) (7) W (wide (p := 100) (by rw [Int.natAbs_natCast]; exact hn0) (by decide)) (wide (p := 100) (by decide) (by decide)) (by decide)
          rw [e7] at cm
          unfold RV at cm
          generalize Rat.divInt ((n0 : Int)) (7) = z at *
          have CM := Lib.hid cm
          have HZ := Lib.hid hz
          clear cm hz
          generalize S (n0 : Int) = s0 at *
          have Oc0 := O.out.c0
          have Oc1 := O.out.c1
          have Of0 := O.out.f 0
          go_wp2_with fail
          go_at_call 29
          refine (CM.out _).mono ?_
          rintro e WD ⟨rfl, B⟩
          have V := Lib.hid (RBlk.new WD (.string (S z.num)) (.string (S (z.den : Int))))
          have Zn := Lib.hid ((Z.out.keep B Z.out.lt).alloc (.cells #[.string (S z.num), .string (S (z.den : Int))] 23))
          have HBn := Lib.hid ((HB.out.trans (B.mono HB.out.size)).alloc (HB.out.trans (B.mono HB.out.size)).size (.cells #[.string (S z.num), .string (S (z.den : Int))] 23))
          clear Z HB A O B Oc0 Oc1
          have vc0 := V.out.c0
          have vc1 := V.out.c1
          have c0 := Zn.out.c0
          have c1 := Zn.out.c1
          have f0 := Zn.out.f 0
          have f1 := Zn.out.f 1
          have hs := Zn.out.s0 (.string (S z.num))
          have d1 := hs.c1
          have g1 := hs.f 1
          have HS := Lib.hid (hs.s1 (.string (S (z.den : Int))))
          have HBS := Lib.hid ((HBn.out.setCell (p := ⟨w.heap.size + 1, 0, none⟩) (by show w.heap.size ≤ w.heap.size + 1; omega) (.string (S z.num))).setCell (p := ⟨w.heap.size + 1, 1, none⟩) (by show w.heap.size ≤ w.heap.size + 1; omega) (.string (S (z.den : Int))))
          clear hs
          go_wp2_with fail
          refine bodyPost_ret (results_ratio1 rfl _ _ (w.heap.size + 1) _ _ rfl HS.out) rfl ?_
          exact ⟨z, rfl, HZ.out, HBS.out⟩
      · have ht1b : ((S (n1 : Int)).toList == [48]) = false := by rw [ht1]; exact decide_eq_false (by omega)
        clear ht1
        have Oc1 := O.out.c1
        have Ac0 := A.out.c 0 rfl
        go_wp2_with fail
        clear Oc1
        go_at_call 55
        refine (v4pick_2 x0 _ b0.1 b0.2).mono ?_
        rintro e WC ⟨p, rfl, hp, B⟩
        have An := Lib.hid (A.out.keep B A.out.lt)
        have Zn := Lib.hid (Z.out.keep B Z.out.lt)
        have On := Lib.hid (O.out.keep B O.out.lt)
        have HBn := Lib.hid (HB.out.trans (B.mono HB.out.size))
        clear A Z O HB
        have A := An
        have Z := Zn
        have O := On
        have HB := HBn
        clear An Zn On HBn
        clear B Ac0
        by_cases hp0 : p = 0
        · subst hp0
          by_cases h0 : n0 = 0
          · have ht0b : ((S (n0 : Int)).toList == [48]) = true := by rw [ht0]; exact decide_eq_true (by omega)
            clear ht0
            have hz := mk_fit100 ((n0 : Int)) ((n1 : Int)) (by rw [Int.natAbs_natCast]; exact hn0) (by rw [Int.natAbs_natCast]; exact hn1) (by omega)
            have cm := fun W => v4Make_R ((n0 : Int)) ((n1 : Int)) W (wide (p := 100) (by rw [Int.natAbs_natCast]; exact hn0) (by decide)) (wide (p := 100) (by rw [Int.natAbs_natCast]; exact hn1) (by decide)) (by omega)
            unfold RV at cm
            generalize Rat.divInt ((n0 : Int)) ((n1 : Int)) = z at *
            have CM := Lib.hid cm
            have HZ := Lib.hid hz
            clear cm hz
            generalize S (n0 : Int) = s0 at *
            have Oc0 := O.out.c0
            have Oc1 := O.out.c1
            have Of0 := O.out.f 0
            go_wp2_with fail
            go_at_call 29
            refine (CM.out _).mono ?_
            rintro e WD ⟨rfl, B⟩
            have V := Lib.hid (RBlk.new WD (.string (S z.num)) (.string (S (z.den : Int))))
            have Zn := Lib.hid ((Z.out.keep B Z.out.lt).alloc (.cells #[.string (S z.num), .string (S (z.den : Int))] 23))
            have HBn := Lib.hid ((HB.out.trans (B.mono HB.out.size)).alloc (HB.out.trans (B.mono HB.out.size)).size (.cells #[.string (S z.num), .string (S (z.den : Int))] 23))
            clear Z HB A O B Oc0 Oc1
            have vc0 := V.out.c0
            have vc1 := V.out.c1
            have c0 := Zn.out.c0
            have c1 := Zn.out.c1
            have f0 := Zn.out.f 0
            have f1 := Zn.out.f 1
            have hs := Zn.out.s0 (.string (S z.num))
            have d1 := hs.c1
            have g1 := hs.f 1
            have HS := Lib.hid (hs.s1 (.string (S (z.den : Int))))
            have HBS := Lib.hid ((HBn.out.setCell (p := ⟨w.heap.size + 1, 0, none⟩) (by show w.heap.size ≤ w.heap.size + 1; omega) (.string (S z.num))).setCell (p := ⟨w.heap.size + 1, 1, none⟩) (by show w.heap.size ≤ w.heap.size + 1; omega) (.string (S (z.den : Int))))
            clear hs
            go_wp2_with fail
            refine bodyPost_ret (results_ratio1 rfl _ _ (w.heap.size + 1) _ _ rfl HS.out) rfl ?_
            exact ⟨z, rfl, HZ.out, HBS.out⟩
          · have ht0b : ((S (n0 : Int)).toList == [48]) = false := by rw [ht0]; exact decide_eq_false (by omega)
            clear ht0
            have e45 := S_minus (n0 : Int) (by omega)
            have hz := mk_fit100 (-(n0 : Int)) ((n1 : Int)) (by rw [Int.natAbs_neg, Int.natAbs_natCast]; exact hn0) (by rw [Int.natAbs_natCast]; exact hn1) (by omega)
            have cm := fun W => v4Make_R (-(n0 : Int)) ((n1 : Int)) W (wide (p := 100) (by rw [Int.natAbs_neg, Int.natAbs_natCast]; exact hn0) (by decide)) (wide (p := 100) (by rw [Int.natAbs_natCast]; exact hn1) (by decide)) (by omega)
            unfold RV at cm
            generalize Rat.divInt (-(n0 : Int)) ((n1 : Int)) = z at *
            have CM := Lib.hid cm
            have HZ := Lib.hid hz
            clear cm hz
            rw [e45] at CM
            generalize S (n0 : Int) = s0 at *
            have Oc0 := O.out.c0
            have Oc1 := O.out.c1
            have Of0 := O.out.f 0
            have Oz := O.out.s0 (.string (⟨#[45]⟩ ++ s0))
            have Oz0 := Oz.c0
            have Oz1 := Oz.c1
            clear Oz
            go_wp2_with fail
            clear Oz0 Oz1
            have An := Lib.hid (A.out.other ⟨w.heap.size + 1 + 1, 0, none⟩ (.string (⟨#[45]⟩ ++ s0)) (by show w.heap.size ≠ w.heap.size + 1 + 1; omega))
            have Zn := Lib.hid (Z.out.other ⟨w.heap.size + 1 + 1, 0, none⟩ (.string (⟨#[45]⟩ ++ s0)) (by show w.heap.size + 1 ≠ w.heap.size + 1 + 1; omega))
            have On := Lib.hid (O.out.s0 (.string (⟨#[45]⟩ ++ s0)))
            have HBn := Lib.hid (HB.out.setCell (p := ⟨w.heap.size + 1 + 1, 0, none⟩) (by show w.heap.size ≤ w.heap.size + 1 + 1; omega) (.string (⟨#[45]⟩ ++ s0)))
            clear A Z O HB
            have A := An
            have Z := Zn
            have O := On
            have HB := HBn
            clear An Zn On HBn
            go_at_call 29
            refine (CM.out _).mono ?_
            rintro e WD ⟨rfl, B⟩
            have V := Lib.hid (RBlk.new WD (.string (S z.num)) (.string (S (z.den : Int))))
            have Zn := Lib.hid ((Z.out.keep B Z.out.lt).alloc (.cells #[.string (S z.num), .string (S (z.den : Int))] 23))
            have HBn := Lib.hid ((HB.out.trans (B.mono HB.out.size)).alloc (HB.out.trans (B.mono HB.out.size)).size (.cells #[.string (S z.num), .string (S (z.den : Int))] 23))
            clear Z HB A O B Oc0 Oc1
            have vc0 := V.out.c0
            have vc1 := V.out.c1
            have c0 := Zn.out.c0
            have c1 := Zn.out.c1
            have f0 := Zn.out.f 0
            have f1 := Zn.out.f 1
            have hs := Zn.out.s0 (.string (S z.num))
            have d1 := hs.c1
            have g1 := hs.f 1
            have HS := Lib.hid (hs.s1 (.string (S (z.den : Int))))
            have HBS := Lib.hid ((HBn.out.setCell (p := ⟨w.heap.size + 1, 0, none⟩) (by show w.heap.size ≤ w.heap.size + 1; omega) (.string (S z.num))).setCell (p := ⟨w.heap.size + 1, 1, none⟩) (by show w.heap.size ≤ w.heap.size + 1; omega) (.string (S (z.den : Int))))
            clear hs
            go_wp2_with fail
            refine bodyPost_ret (results_ratio1 rfl _ _ (w.heap.size + 1) _ _ rfl HS.out) rfl ?_
            exact ⟨z, rfl, HZ.out, HBS.out⟩
        · have hp1 : ¬ ((p : Int) = 0) := by omega
          have hz := mk_fit100 ((n0 : Int)) ((n1 : Int)) (by rw [Int.natAbs_natCast]; exact hn0) (by rw [Int.natAbs_natCast]; exact hn1) (by omega)
          have cm := fun W => v4Make_R ((n0 : Int)) ((n1 : Int)) W (wide (p := 100) (by rw [Int.natAbs_natCast]; exact hn0) (by decide)) (wide (p := 100) (by rw [Int.natAbs_natCast]; exact hn1) (by decide)) (by omega)
          unfold RV at cm
          generalize Rat.divInt ((n0 : Int)) ((n1 : Int)) = z at *
          have CM := Lib.hid cm
          have HZ := Lib.hid hz
          clear cm hz
          generalize S (n0 : Int) = s0 at *
          have Oc0 := O.out.c0
          have Oc1 := O.out.c1
          have Of0 := O.out.f 0
          go_wp2_with fail
          go_at_call 29
          refine (CM.out _).mono ?_
          rintro e WD ⟨rfl, B⟩
          have V := Lib.hid (RBlk.new WD (.string (S z.num)) (.string (S (z.den : Int))))
          have Zn := Lib.hid ((Z.out.keep B Z.out.lt).alloc (.cells #[.string (S z.num), .string (S (z.den : Int))] 23))
          have HBn := Lib.hid ((HB.out.trans (B.mono HB.out.size)).alloc (HB.out.trans (B.mono HB.out.size)).size (.cells #[.string (S z.num), .string (S (z.den : Int))] 23))
          clear Z HB A O B Oc0 Oc1
          have vc0 := V.out.c0
          have vc1 := V.out.c1
          have c0 := Zn.out.c0
          have c1 := Zn.out.c1
          have f0 := Zn.out.f 0
          have f1 := Zn.out.f 1
          have hs := Zn.out.s0 (.string (S z.num))
          have d1 := hs.c1
          have g1 := hs.f 1
          have HS := Lib.hid (hs.s1 (.string (S (z.den : Int))))
          have HBS := Lib.hid ((HBn.out.setCell (p := ⟨w.heap.size + 1, 0, none⟩) (by show w.heap.size ≤ w.heap.size + 1; omega) (.string (S z.num))).setCell (p := ⟨w.heap.size + 1, 1, none⟩) (by show w.heap.size ≤ w.heap.size + 1; omega) (.string (S (z.den : Int))))
          clear hs
          go_wp2_with fail
          refine bodyPost_ret (results_ratio1 rfl _ _ (w.heap.size + 1) _ _ rfl HS.out) rfl ?_
          exact ⟨z, rfl, HZ.out, HBS.out⟩
end Go.Proofs.YtdnbhgkbfbgnaaaGreatDoor











namespace Go.Proofs.YtdnbhgkbfbgnaaaGreatDoor
open Go.ChangeShapes Go.WideShapes Go.ChangeAt Go.RowKit

theorem own : ownKnob Tryz.prog.godebug = none := by kernel_rfl
theorem laidOutT : laidOutB Tryz.prog = true := by kernel_rfl

section
variable {H : Type} {enc : TypeId × Value → H} {W W' : World}

theorem trodAll_stays (hb : Below W.heap.size W W') : ∀ {ts : List TypeId} {vs : List Value} {ds : List (DataW H)} {ps : List MemPlace},
    (∀ t ∈ ts, Tryz.prog.readableRec t = true ∧ t < Tryz.prog.types.size) → (∀ x ∈ ps, x.block < W.heap.size) →
    DataW.TrodAll enc Tryz.prog W 0 (fun _ => true) true ts vs ds ps → DataW.TrodAll enc Tryz.prog W' 0 (fun b => decide (b < W.heap.size)) true ts vs ds ps
  | [], _, _, _, _, _, h => by
    obtain ⟨rfl, rfl, rfl⟩ := trodAll_nil h
    exact trodAll_mk0
  | t :: ts, _, _, _, ht, hp, h => by
    obtain ⟨v, vs, d, ds, a, b, rfl, rfl, rfl, h1, h2⟩ := trodAll_cons h
    have g := ht t (by simp)
    exact trodAll_cons_mk (Below.trod laidOutT g.1 g.2 h1 hb (fun x hx => hp x (by simp [hx]))) (trodAll_stays hb (fun u hu => ht u (by simp [hu])) (fun x hx => hp x (by simp [hx])) h2)

/-- A law that has answered true, and turned nothing that lay when it was called, has kept its row. -/
theorem law_done {f : Func} {s : ChangeSpec} {args : Array Value} {ds gs : List (DataW H)} {before : List MemPlace}
    (hp : ∀ t ∈ f.params.toList, Tryz.prog.readableRec t = true ∧ t < Tryz.prog.types.size) (hr : f.resultTypes = #[4]) (hv : s.vars = [])
    (hs : (s.fn H ds).results = [.lit (.bool true)] ∧ (s.fn H ds).args = ds ∧ (s.fn H ds).vars = [])
    (hW : DataW.Whole enc Tryz.prog f.params.toList s.vars false W args.toList ds gs before) (hb : Below W.heap.size W W') :
    s.post enc Tryz.prog f false true false false W args (.bool true) W' := by
  have hW' := hW
  have hlt : ∀ p ∈ before, p.block < W.heap.size := fun p hp => hW.lt p hp
  obtain ⟨p, q, hA, hV, rfl, hz, hn⟩ := hW
  rw [hv] at hV
  obtain ⟨rfl, rfl⟩ := trodVars_none hV
  simp only [List.append_nil] at hlt
  refine ⟨ds, [], p ++ [], [], p, [], hW', ?_, ?_, ?_, World.keptBut_mono (fun x hx => ⟨hx, .inr (by simpa using hx)⟩) (hb.frame (· ∈ p ++ [])), fun h => by cases h⟩
  · rw [hr, List.append_nil, hs.1]
    exact trodAll_cons_mk (shut_bool Tryz.underlying4 _) trodAll_mk0
  · rw [List.append_nil, hs.2.1]
    exact trodAll_stays hb hp hlt hA
  · rw [hv, List.append_nil, hs.2.2]
    rfl
end
end Go.Proofs.YtdnbhgkbfbgnaaaGreatDoor




namespace Go.Proofs.YtdnbhgkbfbgnaaaGreatDoor
open Go.ChangeShapes Go.WideShapes Go.ChangeAt Go.RowKit

theorem laid_mem {w : World} {n : String} {d : DataW Unit} : ∀ {l : List (String × DataW Unit)} {ps : List MemPlace}, DataW.LaidVars Tryz.prog w l ps → (n, d) ∈ l →
    ∃ g t cs fuel p, Tryz.prog.globalNamed n = some g ∧ (Tryz.prog.globals[g]?).map (·.type) = some t ∧ w.var? Tryz.prog n = some cs ∧ DataW.trod (fun _ => ()) Tryz.prog w 0 (fun _ => true) false fuel t cs.toList = some (d, p)
  | [], _, _, h => by cases h
  | (m, e) :: r, _, hl, h => by
    obtain ⟨g, t, cs, fuel, p, q, h1, h2, h3, h4, h5, _⟩ := hl
    rcases List.mem_cons.1 h with h | h
    · cases h; exact ⟨g, t, cs, fuel, p, h1, h2, h3, h4⟩
    · exact laid_mem h5 h
theorem gPow : Tryz.prog.globalNamed "internal/strconv.uint64pow10" = some 2 := by kernel_rfl
theorem gPowType : (Tryz.prog.globals[2]?).map (·.type) = some 223 := by kernel_rfl
theorem cellsA : Tryz.prog.cellsOf 223 = 20 := by kernel_rfl
theorem cellsE : Tryz.prog.cellsOf 172 = 1 := by kernel_rfl
theorem int_of_shape {P : Program} {w : World} {g : Nat} {t : TypeId} {k : IntKind} {zero : Array Value} (h : w.ShapedOpen P) (hg : g < P.globals.size)
    (h0 : ((begin P (fun _ _ => 0) default).world.heap[g]?).bind Obj.row? = some (zero, t)) (hz : zero.size = 1)
    (hb : P.buildable t = true) (hc : P.cellTypes P.depth t = some [t]) (hu : P.underlying t = some (.int k)) : ∃ m, w.cell? ⟨g, 0, none⟩ = some (.int k m) := by
  obtain ⟨cs, hh, hs, hr⟩ := h.1 g zero t hg h0
  obtain ⟨ts, hts, _, hall⟩ := hr hb
  rw [hc] at hts
  cases hts
  have h1 : 0 < cs.size := by omega
  obtain ⟨u, hu', hok⟩ := hall 0 cs[0] (by simp [h1])
  have : u = t := by simpa using hu'.symm
  subst this
  have hcell : w.cell? ⟨g, 0, none⟩ = some cs[0] := by simp [World.cell?, hh, h1]
  rw [hcell]
  unfold Cell.ok at hok
  rw [hu] at hok
  cases hv : cs[0] <;> rw [hv] at hok <;> first | (obtain ⟨rfl, _⟩ := hok; exact ⟨_, rfl⟩) | simp at hok
theorem tz_of {W : World} {laid : List (String × DataW Unit)} (h : laidMet Tryz.prog laid W) (h1 : ("internal/strconv.uint64pow10", Lib.tabData .u64 Lib.pow10Tab) ∈ laid) (hS : W.ShapedOpen Tryz.prog) : Tz W := by
  obtain ⟨ps, hL, _⟩ := h
  obtain ⟨g, t, cs, fuel, p, hg, ht, hvar, hd⟩ := laid_mem hL h1
  obtain rfl := Option.some.inj (gPow.symm.trans hg)
  obtain rfl := Option.some.inj (gPowType.symm.trans ht)
  obtain ⟨m, hm⟩ : ∃ m, W.cell? ⟨1, 0, none⟩ = some (.int .i64 m) := int_of_shape (t := 3) (zero := #[.int .i64 0]) hS (of_decide_eq_true (by kernel_rfl)) (by kernel_rfl) rfl (by kernel_rfl) (by kernel_rfl) Tryz.underlying3
  refine ⟨?_, World.block_lt_of_cell? _ _ hm, m, hm⟩
  unfold Lib.TabIs
  rw [hvar, ← Lib.cells_of_tab Tryz.underlying223 Tryz.underlying172 cellsE cellsA hd]
end Go.Proofs.YtdnbhgkbfbgnaaaGreatDoor


namespace Go.Proofs.YtdnbhgkbfbgnaaaGreatDoor
open Go.ChangeShapes Go.WideShapes Go.ChangeAt Go.RowKit

theorem cInt : Tryz.prog.cellsOf 3 = 1 := by kernel_rfl
theorem c4 : Tryz.prog.cellsOf 24 = 4 := by kernel_rfl
theorem c2 : Tryz.prog.cellsOf 25 = 2 := by kernel_rfl
theorem wfb {n : Int} (h : (Lit.int .i64 n).wf = true) : -9223372036854775808 ≤ n ∧ n ≤ 9223372036854775807 := by
  simpa [Lit.wf, IntKind.min, IntKind.max, IntKind.signed, IntKind.bits] using h
set_option maxRecDepth 100000 in
theorem open_i4 {H : Type} {enc : TypeId × Value → H} {W : World} {b : Nat} {sp : Nat → Bool} {held : Bool} {base : Nat} {v : Value} {d : DataW H} {p : List MemPlace}
    (hval : Value.okWide Tryz.prog W .any b 24 v) (h : DataW.Trod enc Tryz.prog W base sp held 24 v d p) :
    ∃ a0 a1 a2 a3 : Int, v = .agg #[.int .i64 a0, .int .i64 a1, .int .i64 a2, .int .i64 a3] ∧ (-9223372036854775808 ≤ a0 ∧ a0 ≤ 9223372036854775807) ∧ (-9223372036854775808 ≤ a1 ∧ a1 ≤ 9223372036854775807) ∧ (-9223372036854775808 ≤ a2 ∧ a2 ≤ 9223372036854775807) ∧ (-9223372036854775808 ≤ a3 ∧ a3 ≤ 9223372036854775807) := by
  simp only [Value.okWide, Tryz.underlying24] at hval
  obtain ⟨cs, rfl, hs, _⟩ := hval
  obtain ⟨fuel, hf⟩ := h
  obtain ⟨xs, m, rfl, hx, hl, hn, hi⟩ := DataW.trod_array Tryz.underlying24 hf
  rw [c4] at hs
  obtain ⟨c0, c1, c2, c3, rfl⟩ : ∃ c0 c1 c2 c3, cs = #[c0, c1, c2, c3] := by
    rcases cs with ⟨l⟩
    match l, hs with
    | [c0, c1, c2, c3], _ => exact ⟨c0, c1, c2, c3, rfl⟩
  match xs, hn with
  | [x0, x1, x2, x3], _ =>
    have i0 := hi 0 (by omega)
    have i1 := hi 1 (by omega)
    have i2 := hi 2 (by omega)
    have i3 := hi 3 (by omega)
    simp [cInt, Value.cells] at i0 i1 i2 i3
    obtain ⟨s0, e0, _, l0⟩ := DataW.trod_int Tryz.underlying3 i0
    obtain ⟨s1, e1, _, l1⟩ := DataW.trod_int Tryz.underlying3 i1
    obtain ⟨s2, e2, _, l2⟩ := DataW.trod_int Tryz.underlying3 i2
    obtain ⟨s3, e3, _, l3⟩ := DataW.trod_int Tryz.underlying3 i3
    simp only [List.cons.injEq, and_true] at e0 e1 e2 e3
    subst e0 e1 e2 e3
    exact ⟨s0, s1, s2, s3, rfl, wfb l0, wfb l1, wfb l2, wfb l3⟩
end Go.Proofs.YtdnbhgkbfbgnaaaGreatDoor



namespace Go.Proofs.YtdnbhgkbfbgnaaaGreatDoor
open Go.ChangeShapes Go.WideShapes Go.ChangeAt Go.RowKit

theorem cRatio : Tryz.prog.cellsOf 23 = 2 := by kernel_rfl
theorem cStr : Tryz.prog.cellsOf 9 = 1 := by kernel_rfl
set_option maxRecDepth 100000 in
theorem open_ratio {H : Type} {enc : TypeId × Value → H} {W : World} {b : Nat} {sp : Nat → Bool} {held : Bool} {base : Nat} {v : Value} {d : DataW H} {p : List MemPlace}
    (hval : Value.okWide Tryz.prog W .any b 23 v) (h : DataW.Trod enc Tryz.prog W base sp held 23 v d p) :
    ∃ a0 a1 : ByteArray, v = .agg #[.string a0, .string a1] ∧ a0.size ≤ maxLen ∧ a1.size ≤ maxLen := by
  simp only [Value.okWide, Tryz.underlying23] at hval
  obtain ⟨cs, rfl, hs, _⟩ := hval
  obtain ⟨fuel, hf⟩ := h
  obtain ⟨y0, y1, n, _, _, h0, h1⟩ := trod_struct2 Tryz.underlying23 hf
  rw [cRatio] at hs
  obtain ⟨c0, c1, rfl⟩ : ∃ c0 c1, cs = #[c0, c1] := by
    rcases cs with ⟨l⟩
    match l, hs with
    | [c0, c1], _ => exact ⟨c0, c1, rfl⟩
  simp [cStr, Value.cells] at h0 h1
  obtain ⟨s0, e0, _, l0⟩ := DataW.trod_string Tryz.underlying9 h0
  obtain ⟨s1, e1, _, l1⟩ := DataW.trod_string Tryz.underlying9 h1
  simp only [List.cons.injEq, and_true] at e0 e1
  subst e0 e1
  exact ⟨s0, s1, rfl, l0, l1⟩
theorem max_le {s : ByteArray} (h : s.size ≤ maxLen) : s.size ≤ 9223372036854775807 := Nat.le_trans h (by decide)
theorem byte_of {c : Int} (h : (Lit.int .u8 c).wf = true) : ∃ u : UInt8, c = (u.toNat : Int) := by
  have h2 : 0 ≤ c ∧ c ≤ 255 := by simpa [Lit.wf, IntKind.min, IntKind.max, IntKind.signed, IntKind.bits] using h
  refine ⟨UInt8.ofNat c.toNat, ?_⟩
  rw [UInt8.toNat_ofNat_of_lt' (by show c.toNat < 256; omega)]
  omega
end Go.Proofs.YtdnbhgkbfbgnaaaGreatDoor



namespace Go.Proofs.YtdnbhgkbfbgnaaaGreatDoor
open Go.RowKit

def z1 (z : Int) : Int := if z = 0 then 0 else 1
end Go.Proofs.YtdnbhgkbfbgnaaaGreatDoor



namespace Go.Proofs.YtdnbhgkbfbgnaaaGreatDoor
open Go.RowKit

theorem below_undrew {n : Nat} {w W : World} (h : Below n w W.drew) : Below n w W := ⟨h.1, h.2, h.3, h.4, h.5⟩

set_option maxRecDepth 100000 in
set_option maxHeartbeats 2000000 in
theorem v4Print_no (s1 s2 : ByteArray) (L1 L2 : List UInt8) (w : World) (hL1 : s1.data.toList = L1) (hL2 : s2.data.toList = L2) (hl1 : L1.length ≤ 60000) (hl2 : L2.length ≤ 60000) (hv : vR L1 L2 = false) :
    Calls Tryz.prog 36 #[.agg #[.string s1, .string s2]] w fun e w' => e = .returned (.string ⟨#[]⟩) ∧ Below w.heap.size w w' := by
  have cv := fun W => v4Valid_any s1 s2 L1 L2 W hL1 hL2 hl1 hl2
  rw [hv] at cv
  have CV := Lib.hid cv
  have r := RBlk.new w (.string s1) (.string s2)
  have HB := Lib.hid (below_alloc w (.cells #[.string s1, .string s2] 23))
  have a0 := r.c0
  have a1 := r.c1
  have HR := Lib.hid r
  clear r cv hL1 hL2 hl1 hl2 hv
  go_enter Tryz.func36, Tryz.ntmps36
  go_wp2_with (go_at_call 31; (with_reducible refine (CV.out _).mono ?_); rintro e W ⟨rfl, B⟩; have hr := (HR.out.keep B HR.out.lt); have hb := HB.out.trans (B.mono HB.out.size); clear HR HB B a0 a1; have HR := Lib.hid hr; have HB := Lib.hid hb; have a0 := hr.c0; have a1 := hr.c1; clear hr hb)
  go_ret
  exact ⟨rfl, HB.out⟩
set_option maxRecDepth 100000 in
set_option maxHeartbeats 2000000 in
theorem v4Print_R (a : Rat) (ha : fitR 200 a) (w : World) :
    Calls Tryz.prog 36 #[RV a] w fun e w' => e = .returned (.string (prt a)) ∧ Below w.heap.size w w' := by
  have hA := den_abs a ha
  have cv := fun W => v4Valid_any (S a.num) (S (a.den : Int)) (txt a.num) (txt (a.den : Int)) W (S_list _) (S_list _) (S_len ha.1) (S_len hA)
  rw [vR_q a ha] at cv
  have CV := Lib.hid cv
  have ht : ((S (a.den : Int)).toList == [49]) = decide (a.den = 1) := by
    rw [S1_tl, decide_eq_decide]; omega
  have z1 := S_size2 ha.1
  have z2 := S_size2 hA
  have z3 : (⟨#[47]⟩ : ByteArray).size = 1 := rfl
  unfold RV prt
  generalize S a.num = s1 at *
  generalize S (a.den : Int) = s2 at *
  have r := RBlk.new w (.string s1) (.string s2)
  have HB := Lib.hid (below_alloc w (.cells #[.string s1, .string s2] 23))
  have a0 := r.c0
  have a1 := r.c1
  have HR := Lib.hid r
  clear r cv ha hA
  by_cases h : a.den = 1
  · rw [if_pos h]
    rw [decide_eq_true h] at ht
    clear h
    go_enter Tryz.func36, Tryz.ntmps36
    go_wp2_with (go_at_call 31; (with_reducible refine (CV.out _).mono ?_); rintro e W ⟨rfl, B⟩; have hr := (HR.out.keep B HR.out.lt); have hb := HB.out.trans (B.mono HB.out.size); clear HR HB B a0 a1; have HR := Lib.hid hr; have HB := Lib.hid hb; have a0 := hr.c0; have a1 := hr.c1; clear hr hb)
    go_ret
    exact ⟨rfl, HB.out⟩
  · rw [if_neg h]
    rw [decide_eq_false h] at ht
    clear h
    have z4 : (s1 ++ ⟨#[47]⟩).size = s1.size + 1 := by rw [ByteArray.size_append]; rfl
    go_enter Tryz.func36, Tryz.ntmps36
    go_wp2_with (go_at_call 31; (with_reducible refine (CV.out _).mono ?_); rintro e W ⟨rfl, B⟩; have hr := (HR.out.keep B HR.out.lt); have hb := HB.out.trans (B.mono HB.out.size); clear HR HB B a0 a1; have HR := Lib.hid hr; have HB := Lib.hid hb; have a0 := hr.c0; have a1 := hr.c1; clear hr hb)
    go_ret
    exact ⟨rfl, HB.out⟩

set_option maxRecDepth 100000 in
set_option maxHeartbeats 8000000 in
theorem v4Parse_walk (s x y z : ByteArray) (L : List UInt8) (n k : Nat) (found v : Bool) (w : World) (hL : s.data.toList = L) (hn : s.size = n) (hn9 : n ≤ 60000) (hk : k ≤ n) (hno : ∀ j c, j < k → L[j]? = some c → c.toNat ≠ 47)
    (hf : (found = false ∧ k = n ∧ x = s ∧ y = ⟨#[49]⟩) ∨ (found = true ∧ k < n ∧ L[k]? = some 47 ∧ s.extract 0 k = x ∧ s.extract (k + 1) s.size = y))
    (cv : ∀ W, Calls Tryz.prog 31 #[.agg #[.string x, .string y]] W fun e w' => e = .returned (.bool v) ∧ Below W.heap.size W w')
    (cp : ∀ W, Calls Tryz.prog 36 #[.agg #[.string x, .string y]] W fun e w' => e = .returned (.string z) ∧ Below W.heap.size W w') :
    Calls Tryz.prog 37 #[.string s] w fun e w' => e = .returned (if v = true ∧ z = s then .tuple #[.agg #[.string x, .string y], .int .i64 0] else .tuple #[RZ, .int .i64 40]) ∧ Below w.heap.size w w' := by
  obtain ⟨r1, r2⟩ := two_ratios w (.string ⟨#[]⟩) (.string ⟨#[]⟩) (.string s) (.string ⟨#[49]⟩)
  have hb := (below_alloc w (.cells #[.string ⟨#[]⟩, .string ⟨#[]⟩] 23)).alloc (by rw [World.size_alloc]; omega) (.cells #[.string s, .string ⟨#[49]⟩] 23)
  have neAZ : w.heap.size ≠ w.heap.size + 1 := by omega
  have gA : w.heap.size ≤ w.heap.size + 1 := by omega
  have A := Lib.hid r2
  have Z := Lib.hid r1
  have HB := Lib.hid hb
  have CV := Lib.hid cv
  have CP := Lib.hid cp
  have HF := Lib.hid hf
  have HN := Lib.hid hno
  have HL := Lib.hid hL
  clear r1 r2 hb cv cp hf hno hL
  have key : (v = false ∧ (if v = true ∧ z = s then Value.tuple #[.agg #[.string x, .string y], .int .i64 0] else .tuple #[RZ, .int .i64 40]) = .tuple #[.agg #[.string ⟨#[]⟩, .string ⟨#[]⟩], .int .i64 40]) ∨ (v = true ∧ (z.toList == s.toList) = false ∧ (if v = true ∧ z = s then Value.tuple #[.agg #[.string x, .string y], .int .i64 0] else .tuple #[RZ, .int .i64 40]) = .tuple #[.agg #[.string ⟨#[]⟩, .string ⟨#[]⟩], .int .i64 40]) ∨ (v = true ∧ (z.toList == s.toList) = true ∧ (if v = true ∧ z = s then Value.tuple #[.agg #[.string x, .string y], .int .i64 0] else .tuple #[RZ, .int .i64 40]) = .tuple #[.agg #[.string x, .string y], .int .i64 0]) := by
    cases v
    · exact .inl ⟨rfl, by rw [if_neg (fun e => absurd e.1 (by decide))]; rfl⟩
    · by_cases h : z = s
      · exact .inr (.inr ⟨rfl, by rw [h]; simp, by rw [if_pos ⟨rfl, h⟩]⟩)
      · exact .inr (.inl ⟨rfl, beq_eq_false_iff_ne.2 (fun e => h (toList_inj e)), by rw [if_neg (fun e => h e.2)]; rfl⟩)
  generalize (if v = true ∧ z = s then Value.tuple #[.agg #[.string x, .string y], .int .i64 0] else .tuple #[RZ, .int .i64 40]) = R at *
  have KEY := Lib.hid key
  clear key
  go_enter Tryz.func37, Tryz.ntmps37
  go_wp2_with fail
  go_loopw [5] (fun iv wr => ∃ i : Nat, i ≤ k ∧ iv = .int .i64 (i : Int) ∧ Hid (RBlk wr w.heap.size (.string ⟨#[]⟩) (.string ⟨#[]⟩)) ∧ Hid (RBlk wr (w.heap.size + 1) (.string s) (.string ⟨#[49]⟩)) ∧ Hid (Below w.heap.size w wr)) (fun iv _ => k - (intOf iv).toNat)
  case atStart => exact ⟨0, by omega, rfl, Z, A, HB⟩
  case round =>
    clear Z A HB
    obtain ⟨i, hi, rfl, Z, A, HB⟩ := hrel
    by_cases hlt : i < k
    · obtain ⟨c, hc⟩ : ∃ c, L[i]? = some c := ⟨_, List.getElem?_eq_getElem (by rw [← HL.out]; show i < s.data.size; have : s.data.size = n := hn; omega)⟩
      have hg := fun h : i < s.size => bytes_at HL.out hc h
      have hcn := HN.out i c hlt hc
      have hli : (i : Int) < (n : Int) := by omega
      clear hc
      go_wp2_with fail
      go_roundw
      case rel => exact ⟨i + 1, by omega, rfl, Z, A, HB⟩
      case measure => show k - (i + 1) < k - i; omega
    · obtain rfl : i = k := by omega
      clear hlt hi
      rcases HF.out with ⟨_, h2, h3, h4⟩ | ⟨_, h2, h3, h4, h5⟩
      · have h3 := h3.symm
        subst h2 h3 h4
        clear HF HN hk
        rcases KEY.out with ⟨rfl, h⟩ | ⟨rfl, ht, h⟩ | ⟨rfl, ht, h⟩
        all_goals subst h
        all_goals clear KEY
        · have a0 := A.out.c0
          have a1 := A.out.c1
          go_wp2_with fail
          clear a0 a1
          go_at_call 31
          refine (CV.out _).mono ?_
          rintro e W1 ⟨rfl, B⟩
          have Zn := Lib.hid ((Z.out.keep B Z.out.lt))
          have An := Lib.hid ((A.out.keep B A.out.lt))
          have HBn := Lib.hid (HB.out.trans (B.mono HB.out.size))
          clear Z A HB
          have Z := Zn
          have A := An
          have HB := HBn
          clear Zn An HBn
          clear B
          have c0 := Z.out.c0
          have c1 := Z.out.c1
          have f0 := Z.out.f 0
          have f1 := Z.out.f 1
          have hs := Z.out.s0 (.string ⟨#[]⟩)
          have d1 := hs.c1
          have g1 := hs.f 1
          have HS := Lib.hid (hs.s1 (.string ⟨#[]⟩))
          have HBS := Lib.hid ((HB.out.setCell (p := ⟨w.heap.size, 0, none⟩) (Nat.le_refl _) (.string ⟨#[]⟩)).setCell (p := ⟨w.heap.size, 1, none⟩) (Nat.le_refl _) (.string ⟨#[]⟩))
          clear hs
          go_wp2_with fail
          refine bodyPost_ret (results_ratio rfl _ _ w.heap.size _ _ rfl HS.out) rfl ?_
          exact ⟨rfl, HBS.out⟩
        · have a0 := A.out.c0
          have a1 := A.out.c1
          go_wp2_with fail
          clear a0 a1
          go_at_call 31
          refine (CV.out _).mono ?_
          rintro e W1 ⟨rfl, B⟩
          have Zn := Lib.hid ((Z.out.keep B Z.out.lt))
          have An := Lib.hid ((A.out.keep B A.out.lt))
          have HBn := Lib.hid (HB.out.trans (B.mono HB.out.size))
          clear Z A HB
          have Z := Zn
          have A := An
          have HB := HBn
          clear Zn An HBn
          clear B
          have a0 := A.out.c0
          have a1 := A.out.c1
          go_wp2_with fail
          clear a0 a1
          go_at_call 36
          refine (CP.out _).mono ?_
          rintro e W2 ⟨rfl, B⟩
          have Zn := Lib.hid ((Z.out.keep B Z.out.lt))
          have An := Lib.hid ((A.out.keep B A.out.lt))
          have HBn := Lib.hid (HB.out.trans (B.mono HB.out.size))
          clear Z A HB
          have Z := Zn
          have A := An
          have HB := HBn
          clear Zn An HBn
          clear B
          have c0 := Z.out.c0
          have c1 := Z.out.c1
          have f0 := Z.out.f 0
          have f1 := Z.out.f 1
          have hs := Z.out.s0 (.string ⟨#[]⟩)
          have d1 := hs.c1
          have g1 := hs.f 1
          have HS := Lib.hid (hs.s1 (.string ⟨#[]⟩))
          have HBS := Lib.hid ((HB.out.setCell (p := ⟨w.heap.size, 0, none⟩) (Nat.le_refl _) (.string ⟨#[]⟩)).setCell (p := ⟨w.heap.size, 1, none⟩) (Nat.le_refl _) (.string ⟨#[]⟩))
          clear hs
          go_wp2_with fail
          refine bodyPost_ret (results_ratio rfl _ _ w.heap.size _ _ rfl HS.out) rfl ?_
          exact ⟨rfl, HBS.out⟩
        · have a0 := A.out.c0
          have a1 := A.out.c1
          go_wp2_with fail
          clear a0 a1
          go_at_call 31
          refine (CV.out _).mono ?_
          rintro e W1 ⟨rfl, B⟩
          have Zn := Lib.hid ((Z.out.keep B Z.out.lt))
          have An := Lib.hid ((A.out.keep B A.out.lt))
          have HBn := Lib.hid (HB.out.trans (B.mono HB.out.size))
          clear Z A HB
          have Z := Zn
          have A := An
          have HB := HBn
          clear Zn An HBn
          clear B
          have a0 := A.out.c0
          have a1 := A.out.c1
          go_wp2_with fail
          clear a0 a1
          go_at_call 36
          refine (CP.out _).mono ?_
          rintro e W2 ⟨rfl, B⟩
          have Zn := Lib.hid ((Z.out.keep B Z.out.lt))
          have An := Lib.hid ((A.out.keep B A.out.lt))
          have HBn := Lib.hid (HB.out.trans (B.mono HB.out.size))
          clear Z A HB
          have Z := Zn
          have A := An
          have HB := HBn
          clear Zn An HBn
          clear B
          have a0 := A.out.c0
          have a1 := A.out.c1
          have c0 := Z.out.c0
          have c1 := Z.out.c1
          have f0 := Z.out.f 0
          have f1 := Z.out.f 1
          have hs := Z.out.s0 (.string s)
          have d1 := hs.c1
          have g1 := hs.f 1
          have HS := Lib.hid (hs.s1 (.string ⟨#[49]⟩))
          have HBS := Lib.hid ((HB.out.setCell (p := ⟨w.heap.size, 0, none⟩) (Nat.le_refl _) (.string s)).setCell (p := ⟨w.heap.size, 1, none⟩) (Nat.le_refl _) (.string ⟨#[49]⟩))
          clear hs
          go_wp2_with fail
          refine bodyPost_ret (results_ratio rfl _ _ w.heap.size _ _ rfl HS.out) rfl ?_
          exact ⟨rfl, HBS.out⟩
      · have hg := fun h : i < s.size => bytes_at HL.out h3 h
        have hli : (i : Int) < (n : Int) := by omega
        have u1 : (i : Int) ≤ (s.size : Int) := by omega
        have u2 : (0 : Int) ≤ (i : Int) := by omega
        have u3 : (i : Int) + 1 ≤ (s.size : Int) := by omega
        have u4 : (0 : Int) ≤ (i : Int) + 1 := by omega
        have u5 : i ≤ n := by omega
        have u6 : i + 1 ≤ n := by omega
        have u7 : IntKind.i64.wrap ((i : Int) + 1) = (i : Int) + 1 := by simp [IntKind.wrap, IntKind.bits, IntKind.signed]; omega
        have u8 : ((i : Int) + 1).toNat = i + 1 := by omega
        have u9' : (i : Int) + 1 ≤ (n : Int) := by omega
        rw [hn] at h5
        clear h3 HF HN hk
        have KH := KEY
        clear KEY
        go_upto_region 6 with fail
        refine wp_region_noPanic ?_
        refine wp_region_held_drew (S := fun W => RBlk W (w.heap.size) (.string ⟨#[]⟩) (.string ⟨#[]⟩)) (by kernel_rfl) ?_ (fun hHeld => ?_)
        · exact Z.out
        have Zn := Lib.hid Z.out.drew
        have An := Lib.hid A.out.drew
        have HBn := Lib.hid HB.out.drew
        clear Z A HB
        have Z := Zn
        have A := An
        have HB := HBn
        clear Zn An HBn
        refine wpAnyH_take (i := 0) (v := ?v0_1_6_1) rfl (by kernel_rfl) (by kernel_rfl) (by kernel_rfl) (fun _ _ _ h => h) (Or.inl ⟨by rfl, ?hy0_1_6_1⟩) (by assumption) ?re0_1_6_1
        case hy0_1_6_1 => ((intro w hSw; go_simp) <;> with_reducible rfl)
        (try simp only [Act.put, List.setIfInBounds_toArray, List.set_cons_zero, List.set_cons_succ])
        refine wpAnyH_take (i := 1) (v := ?v1_2_6_1) rfl (by kernel_rfl) (by kernel_rfl) (by kernel_rfl) (fun _ _ _ h => h) (Or.inl ⟨by rfl, ?hy1_2_6_1⟩) (by assumption) ?re1_2_6_1
        case hy1_2_6_1 => ((intro w hSw; go_simp) <;> with_reducible rfl)
        (try simp only [Act.put, List.setIfInBounds_toArray, List.set_cons_zero, List.set_cons_succ])
        refine wpAnyH_take (i := 3) (v := ?v3_3_6_1) rfl (by kernel_rfl) (by kernel_rfl) (by kernel_rfl) (fun _ _ _ h => h) (Or.inl ⟨by rfl, ?hy3_3_6_1⟩) (by assumption) ?re3_3_6_1
        case hy3_3_6_1 => ((intro w hSw; go_simp) <;> with_reducible rfl)
        (try simp only [Act.put, List.setIfInBounds_toArray, List.set_cons_zero, List.set_cons_succ])
        refine wpAnyH_take (i := 4) (v := ?v4_4_6_1) rfl (by kernel_rfl) (by kernel_rfl) (by kernel_rfl) (fun _ _ _ h => h) (Or.inl ⟨by rfl, ?hy4_4_6_1⟩) (by assumption) ?re4_4_6_1
        case hy4_4_6_1 => ((intro w hSw; go_simp) <;> with_reducible rfl)
        (try simp only [Act.put, List.setIfInBounds_toArray, List.set_cons_zero, List.set_cons_succ])
        refine wpAnyH_take (i := 2) (v := ?v2_5_6_1) rfl (by kernel_rfl) (by kernel_rfl) (by kernel_rfl) (fun _ _ _ h => h) (Or.inl ⟨by rfl, ?hy2_5_6_1⟩) (by assumption) ?re2_5_6_1
        case hy2_5_6_1 => ((intro w hSw; go_simp) <;> with_reducible rfl)
        (try simp only [Act.put, List.setIfInBounds_toArray, List.set_cons_zero, List.set_cons_succ])
        refine wpAnyH_take (i := 5) (v := ?v5_6_6_1) rfl (by kernel_rfl) (by kernel_rfl) (by kernel_rfl) (fun _ _ _ h => h) (Or.inl ⟨by rfl, ?hy5_6_6_1⟩) (by assumption) ?re5_6_6_1
        case hy5_6_6_1 => ((intro w hSw; go_simp) <;> with_reducible rfl)
        (try simp only [Act.put, List.setIfInBounds_toArray, List.set_cons_zero, List.set_cons_succ])
        refine wpAnyH_take (i := 6) (v := ?v6_7_6_1) rfl (by kernel_rfl) (by kernel_rfl) (by kernel_rfl) (fun _ _ _ h => h) (Or.inl ⟨by rfl, ?hy6_7_6_1⟩) (by assumption) ?re6_7_6_1
        case hy6_7_6_1 => ((intro w hSw; go_simp) <;> with_reducible rfl)
        (try simp only [Act.put, List.setIfInBounds_toArray, List.set_cons_zero, List.set_cons_succ])
        refine wpAnyH_take (i := 7) (v := ?v7_8_6_1) rfl (by kernel_rfl) (by kernel_rfl) (by kernel_rfl) (fun _ _ _ h => h) (Or.inl ⟨by rfl, ?hy7_8_6_1⟩) (by assumption) ?re7_8_6_1
        case hy7_8_6_1 => ((intro w hSw; go_simp) <;> with_reducible rfl)
        (try simp only [Act.put, List.setIfInBounds_toArray, List.set_cons_zero, List.set_cons_succ])
        refine wpAnyH_ready (rs := [8]) (by kernel_rfl) (by simp) ?_
        refine AllReadyH.cons (o := ({ dst := none, op := Go.Op.store 23 (Go.Operand.tmp 4) (Go.Operand.tmp 26), type := 0, pos := "ref.go:216", after := #[{ on := 7, ground := Go.Ground.data }, { on := 0, ground := Go.Ground.phase }, { on := 1, ground := Go.Ground.phase }, { on := 2, ground := Go.Ground.phase }, { on := 3, ground := Go.Ground.phase }, { on := 4, ground := Go.Ground.phase }, { on := 5, ground := Go.Ground.phase }, { on := 6, ground := Go.Ground.phase }, { on := 7, ground := Go.Ground.phase }], guard := none } : Oper)) rfl (fun K hK => ?_) ?_
        · have c0 := (show RBlk wr (w.heap.size + 1) (.string s) (.string ⟨#[49]⟩) from A.out).c0
          have c1 := (show RBlk wr (w.heap.size + 1) (.string s) (.string ⟨#[49]⟩) from A.out).c1
          have f0 := (show RBlk wr (w.heap.size + 1) (.string s) (.string ⟨#[49]⟩) from A.out).f 0
          have f1 := (show RBlk wr (w.heap.size + 1) (.string s) (.string ⟨#[49]⟩) from A.out).f 1
          have hs := (show RBlk wr (w.heap.size + 1) (.string s) (.string ⟨#[49]⟩) from A.out).s0 (.string x)
          have d1 := hs.c1
          have g1 := hs.f 1
          have Zn : Hid (RBlk wr (w.heap.size) (.string ⟨#[]⟩) (.string ⟨#[]⟩)) := Lib.hid Z.out
          clear Z
          have Z := Zn
          clear Zn
          have HBn : Hid (Below w.heap.size w wr) := Lib.hid (below_undrew HB.out)
          clear HB
          have HB := HBn
          clear HBn
          go_simp
          have An := Lib.hid ((hs.s1 (.string y)).drew)
          have Zn := Lib.hid (((Z.out.other ⟨w.heap.size + 1, 0, none⟩ (.string x) neAZ).other ⟨w.heap.size + 1, 1, none⟩ (.string y) neAZ).drew)
          have HBn := Lib.hid (((HB.out.setCell (p := ⟨w.heap.size + 1, 0, none⟩) gA (.string x)).setCell (p := ⟨w.heap.size + 1, 1, none⟩) gA (.string y)).drew)
          clear hs c0 c1 f0 f1 d1 g1
          clear A Z HB
          have A := An
          have Z := Zn
          have HB := HBn
          clear An Zn HBn
          refine hK.out _ _ ?_ (fun hHeld => ?_)
          · exact (hHeld.other ⟨w.heap.size + 1, 0, none⟩ (.string x) neAZ).other ⟨w.heap.size + 1, 1, none⟩ (.string y) neAZ
          clear hK K
          (try simp only [Act.put, List.setIfInBounds_toArray, List.set_cons_zero, List.set_cons_succ])
          refine wpAnyH_done (by kernel_rfl) ?_ _
          refine NoPanic.normal ?_
          rcases KH.out with ⟨rfl, h⟩ | ⟨rfl, ht, h⟩ | ⟨rfl, ht, h⟩
          all_goals subst h
          all_goals clear KH
          · have a0 := A.out.c0
            have a1 := A.out.c1
            go_wp2_with fail
            clear a0 a1
            go_at_call 31
            refine (CV.out _).mono ?_
            rintro e W1 ⟨rfl, B⟩
            have Zn := Lib.hid ((Z.out.keep B Z.out.lt))
            have An := Lib.hid ((A.out.keep B A.out.lt))
            have HBn := Lib.hid (HB.out.trans (B.mono HB.out.size))
            clear Z A HB
            have Z := Zn
            have A := An
            have HB := HBn
            clear Zn An HBn
            clear B
            have c0 := Z.out.c0
            have c1 := Z.out.c1
            have f0 := Z.out.f 0
            have f1 := Z.out.f 1
            have hs := Z.out.s0 (.string ⟨#[]⟩)
            have d1 := hs.c1
            have g1 := hs.f 1
            have HS := Lib.hid (hs.s1 (.string ⟨#[]⟩))
            have HBS := Lib.hid ((HB.out.setCell (p := ⟨w.heap.size, 0, none⟩) (Nat.le_refl _) (.string ⟨#[]⟩)).setCell (p := ⟨w.heap.size, 1, none⟩) (Nat.le_refl _) (.string ⟨#[]⟩))
            clear hs
            go_wp2_with fail
            refine bodyPost_ret (results_ratio rfl _ _ w.heap.size _ _ rfl HS.out) rfl ?_
            exact ⟨rfl, HBS.out⟩
          · have a0 := A.out.c0
            have a1 := A.out.c1
            go_wp2_with fail
            clear a0 a1
            go_at_call 31
            refine (CV.out _).mono ?_
            rintro e W1 ⟨rfl, B⟩
            have Zn := Lib.hid ((Z.out.keep B Z.out.lt))
            have An := Lib.hid ((A.out.keep B A.out.lt))
            have HBn := Lib.hid (HB.out.trans (B.mono HB.out.size))
            clear Z A HB
            have Z := Zn
            have A := An
            have HB := HBn
            clear Zn An HBn
            clear B
            have a0 := A.out.c0
            have a1 := A.out.c1
            go_wp2_with fail
            clear a0 a1
            go_at_call 36
            refine (CP.out _).mono ?_
            rintro e W2 ⟨rfl, B⟩
            have Zn := Lib.hid ((Z.out.keep B Z.out.lt))
            have An := Lib.hid ((A.out.keep B A.out.lt))
            have HBn := Lib.hid (HB.out.trans (B.mono HB.out.size))
            clear Z A HB
            have Z := Zn
            have A := An
            have HB := HBn
            clear Zn An HBn
            clear B
            have c0 := Z.out.c0
            have c1 := Z.out.c1
            have f0 := Z.out.f 0
            have f1 := Z.out.f 1
            have hs := Z.out.s0 (.string ⟨#[]⟩)
            have d1 := hs.c1
            have g1 := hs.f 1
            have HS := Lib.hid (hs.s1 (.string ⟨#[]⟩))
            have HBS := Lib.hid ((HB.out.setCell (p := ⟨w.heap.size, 0, none⟩) (Nat.le_refl _) (.string ⟨#[]⟩)).setCell (p := ⟨w.heap.size, 1, none⟩) (Nat.le_refl _) (.string ⟨#[]⟩))
            clear hs
            go_wp2_with fail
            refine bodyPost_ret (results_ratio rfl _ _ w.heap.size _ _ rfl HS.out) rfl ?_
            exact ⟨rfl, HBS.out⟩
          · have a0 := A.out.c0
            have a1 := A.out.c1
            go_wp2_with fail
            clear a0 a1
            go_at_call 31
            refine (CV.out _).mono ?_
            rintro e W1 ⟨rfl, B⟩
            have Zn := Lib.hid ((Z.out.keep B Z.out.lt))
            have An := Lib.hid ((A.out.keep B A.out.lt))
            have HBn := Lib.hid (HB.out.trans (B.mono HB.out.size))
            clear Z A HB
            have Z := Zn
            have A := An
            have HB := HBn
            clear Zn An HBn
            clear B
            have a0 := A.out.c0
            have a1 := A.out.c1
            go_wp2_with fail
            clear a0 a1
            go_at_call 36
            refine (CP.out _).mono ?_
            rintro e W2 ⟨rfl, B⟩
            have Zn := Lib.hid ((Z.out.keep B Z.out.lt))
            have An := Lib.hid ((A.out.keep B A.out.lt))
            have HBn := Lib.hid (HB.out.trans (B.mono HB.out.size))
            clear Z A HB
            have Z := Zn
            have A := An
            have HB := HBn
            clear Zn An HBn
            clear B
            have a0 := A.out.c0
            have a1 := A.out.c1
            have c0 := Z.out.c0
            have c1 := Z.out.c1
            have f0 := Z.out.f 0
            have f1 := Z.out.f 1
            have hs := Z.out.s0 (.string x)
            have d1 := hs.c1
            have g1 := hs.f 1
            have HS := Lib.hid (hs.s1 (.string y))
            have HBS := Lib.hid ((HB.out.setCell (p := ⟨w.heap.size, 0, none⟩) (Nat.le_refl _) (.string x)).setCell (p := ⟨w.heap.size, 1, none⟩) (Nat.le_refl _) (.string y))
            clear hs
            go_wp2_with fail
            refine bodyPost_ret (results_ratio rfl _ _ w.heap.size _ _ rfl HS.out) rfl ?_
            exact ⟨rfl, HBS.out⟩
        exact AllReadyH.nil

theorem slash_at (L : List UInt8) : ∃ k, k ≤ L.length ∧ (∀ j c, j < k → L[j]? = some c → c.toNat ≠ 47) ∧ (k = L.length ∨ (k < L.length ∧ L[k]? = some 47)) := by
  induction L with
  | nil => exact ⟨0, Nat.le_refl _, fun j c h => absurd h (by omega), .inl rfl⟩
  | cons b l ih =>
    by_cases hb : b = 47
    · exact ⟨0, Nat.zero_le _, fun j c h => absurd h (by omega), .inr ⟨by simp, by simp [hb]⟩⟩
    · obtain ⟨k, h1, h2, h3⟩ := ih
      refine ⟨k + 1, by simp; omega, fun j c hj he => ?_, ?_⟩
      · cases j with
        | zero =>
          simp at he; subst he
          exact fun e => hb (UInt8.toNat_inj.1 (by rw [e]; rfl))
        | succ j => exact h2 j c (by omega) (by simpa using he)
      · rcases h3 with h3 | h3
        · exact .inl (by simp [h3])
        · exact .inr ⟨by simp; omega, by simpa using h3.2⟩
/-- the two texts that the reference's Parse reads -/
theorem v4Parse_any (s : ByteArray) (hs : s.size ≤ 60000) : ∃ x y : ByteArray, x.data.toList.length ≤ 60000 ∧ y.data.toList.length ≤ 60000 ∧ (∀ a : Rat, prt a = s → .agg #[.string x, .string y] = RV a) ∧
    ∀ (v : Bool) (z : ByteArray), (∀ W, Calls Tryz.prog 31 #[.agg #[.string x, .string y]] W fun e w' => e = .returned (.bool v) ∧ Below W.heap.size W w') →
      (∀ W, Calls Tryz.prog 36 #[.agg #[.string x, .string y]] W fun e w' => e = .returned (.string z) ∧ Below W.heap.size W w') →
      ∀ w, Calls Tryz.prog 37 #[.string s] w fun e w' => e = .returned (if v = true ∧ z = s then .tuple #[.agg #[.string x, .string y], .int .i64 0] else .tuple #[RZ, .int .i64 40]) ∧ Below w.heap.size w w' := by
  obtain ⟨k, h1, h2, h3⟩ := slash_at s.data.toList
  have hl : s.data.toList.length = s.size := rfl
  rcases h3 with h3 | ⟨h3, h4⟩
  · refine ⟨s, ⟨#[49]⟩, by omega, by decide, fun a ha => ?_, fun v z cv cp w => v4Parse_walk s s ⟨#[49]⟩ z _ _ k false v w rfl rfl hs (by omega) h2 (.inl ⟨rfl, by omega, rfl, rfl⟩) cv cp⟩
    have hd : a.den = 1 := Classical.byContradiction fun hd => by
      have e := prt_list a
      rw [if_neg hd, ha] at e
      have h5 : s.data.toList[(txt a.num).length]? = some 47 := by rw [e]; simp
      have h6 : (txt a.num).length < s.data.toList.length := by rw [e]; simp
      exact h2 _ _ (by omega) h5 rfl
    have e : prt a = S a.num := by rw [prt, if_pos hd]
    rw [RV, hd, ← ha, e]
    show _ = Value.agg #[.string (S a.num), .string (S 1)]
    rw [S_one]
  · refine ⟨s.extract 0 k, s.extract (k + 1) s.size, by show (s.extract 0 k).size ≤ _; rw [ByteArray.size_extract]; omega, by show (s.extract (k + 1) s.size).size ≤ _; rw [ByteArray.size_extract]; omega, fun a ha => ?_, fun v z cv cp w => v4Parse_walk s _ _ z _ _ k true v w rfl rfl hs (by omega) h2 (.inr ⟨rfl, by omega, h4, rfl, rfl⟩) cv cp⟩
    have e := prt_list a
    rw [ha] at e
    by_cases hd : a.den = 1
    · rw [if_pos hd] at e
      exact absurd (List.mem_of_getElem? (e ▸ h4)) (txt_no a.num)
    · rw [if_neg hd] at e
      have hk : k = (txt a.num).length := by
        rcases Nat.lt_trichotomy k (txt a.num).length with h | h | h
        · exact absurd (List.mem_of_getElem? (show (txt a.num)[k]? = some 47 by rw [e, List.getElem?_append_left h] at h4; exact h4)) (txt_no a.num)
        · exact h
        · exact absurd rfl (h2 _ 47 h (by rw [e]; simp))
      have e1 : s.extract 0 k = S a.num := by
        refine S_of (L := (s.extract 0 k).data.toList) rfl ?_
        rw [ByteArray.data_extract, Array.toList_extract, e, hk]
        simp
      have e2 : s.extract (k + 1) s.size = S (a.den : Int) := by
        refine S_of (L := (s.extract (k + 1) s.size).data.toList) rfl ?_
        rw [ByteArray.data_extract, Array.toList_extract, ← hl, e, hk]
        simp
        rw [List.take_of_length_le (by omega)]
      rw [RV, e1, e2]
end Go.Proofs.YtdnbhgkbfbgnaaaGreatDoor



namespace Go.Proofs.YtdnbhgkbfbgnaaaGreatDoor
open Go.RowKit

theorem v4Valid_R (a : Rat) (ha : fitR 200 a) (w : World) : Calls Tryz.prog 31 #[RV a] w fun e w' => e = .returned (.bool true) ∧ Below w.heap.size w w' := by
  have h := v4Valid_any (S a.num) (S (a.den : Int)) (txt a.num) (txt (a.den : Int)) w (S_list _) (S_list _) (S_len ha.1) (S_len (den_abs a ha))
  rwa [vR_q a ha] at h

/-- two texts: a fraction that fits, or none -/
theorem pair_cases (s1 s2 : ByteArray) : vR s1.data.toList s2.data.toList = false ∨ ∃ q, (Value.agg #[.string s1, .string s2] = RV q ∧ fitR 200 q) := by
  cases h : vR s1.data.toList s2.data.toList
  · exact .inl rfl
  · obtain ⟨q, h1, h2, h3⟩ := vR_R h
    exact .inr ⟨q, by rw [RV, S_of rfl h1, S_of rfl h2], h3⟩
section
variable (s1 s2 s3 s4 : ByteArray) (hl1 : s1.data.toList.length ≤ 60000) (hl2 : s2.data.toList.length ≤ 60000) (hl3 : s3.data.toList.length ≤ 60000) (hl4 : s4.data.toList.length ≤ 60000)
include hl1 hl2 hl3 hl4
end
section
variable (s1 s2 : ByteArray) (hl1 : s1.data.toList.length ≤ 60000) (hl2 : s2.data.toList.length ≤ 60000)
include hl1 hl2
/-- Print and Valid of any two texts -/
theorem agPrint_4 : ∃ (s : ByteArray) (b : Bool), s.size ≤ 403 ∧ (s.size = 0 ↔ b = false) ∧ (b = true → ∃ q, Value.agg #[.string s1, .string s2] = RV q ∧ fitR 200 q ∧ s = prt q) ∧ (∀ a, fitR 200 a → Value.agg #[.string s1, .string s2] = RV a → b = true) ∧
    (∀ W, Calls Tryz.prog 34 #[.agg #[.string s1, .string s2]] W fun o w' => o = .returned (.string s) ∧ Below W.heap.size W w') ∧
    (∀ W, Calls Tryz.prog 36 #[.agg #[.string s1, .string s2]] W fun o w' => o = .returned (.string s) ∧ Below W.heap.size W w') ∧
    (∀ W, Calls Tryz.prog 30 #[.agg #[.string s1, .string s2]] W fun o w' => o = .returned (.bool b) ∧ Below W.heap.size W w') ∧
    (∀ W, Calls Tryz.prog 31 #[.agg #[.string s1, .string s2]] W fun o w' => o = .returned (.bool b) ∧ Below W.heap.size W w') := by
  rcases pair_cases s1 s2 with h | ⟨q, e1, hq⟩
  · have h1 := fun W => qValid_any s1 s2 _ _ W rfl rfl hl1 hl2
    have h2 := fun W => v4Valid_any s1 s2 _ _ W rfl rfl hl1 hl2
    rw [h] at h1 h2
    have hno : ∀ a, fitR 200 a → Value.agg #[.string s1, .string s2] = RV a → false = true := fun a ha e => by
      rw [RV] at e
      have e2 : s1 = S a.num ∧ s2 = S (a.den : Int) := by simpa using e
      rw [e2.1, e2.2, S_list, S_list, vR_q a ha] at h
      exact h.symm
    exact ⟨⟨#[]⟩, false, by decide, by decide, (fun e => by cases e), hno, fun W => qPrint_no s1 s2 _ _ W rfl rfl hl1 hl2 h, fun W => v4Print_no s1 s2 _ _ W rfl rfl hl1 hl2 h, h1, h2⟩
  · rw [e1]
    refine ⟨prt q, true, prt_size hq, ?_, fun _ => ⟨q, rfl, hq, rfl⟩, fun _ _ _ => rfl, fun W => qPrint_R q hq W, fun W => v4Print_R q hq W, fun W => qValid_R q hq W, fun W => v4Valid_R q hq W⟩
    refine ⟨fun h => absurd ?_ (prt_ne hq), fun h => by cases h⟩
    have h9 : (prt q).data.toList = [] := List.eq_nil_of_length_eq_zero h
    refine toList_inj ?_
    rw [ByteArray.toList_eq, ByteArray.toList_eq, h9]
end
/-- Parse of any text: what it answers, and whose text it is -/
theorem agParse_4 (s : ByteArray) (hs : s.size ≤ 50000) : ∃ (x y : ByteArray) (e : Int), (e = 0 ∨ e = 40) ∧ (e = 0 → ∃ q, Value.agg #[.string x, .string y] = RV q ∧ fitR 200 q ∧ s = prt q) ∧ (∀ q, fitR 200 q → s = prt q → e = 0) ∧
    (∀ W, Tz W → Calls Tryz.prog 35 #[.string s] W fun o w' => o = .returned (.tuple #[.agg #[.string x, .string y], .int .i64 e]) ∧ Below W.heap.size W w') ∧
    (∀ W, Calls Tryz.prog 37 #[.string s] W fun o w' => o = .returned (.tuple #[.agg #[.string x, .string y], .int .i64 e]) ∧ Below W.heap.size W w') := by
  obtain ⟨x, y, hx, hy, hxy, hp⟩ := v4Parse_any s (by omega)
  obtain ⟨z, b, hz, hz0, hb, hbv, _, cp, _, cv⟩ := agPrint_4 x y hx hy
  have c := hp b z cv cp
  by_cases h : b = true ∧ z = s
  · rw [if_pos h] at c
    obtain ⟨q, e1, hq, e2⟩ := hb h.1
    refine ⟨x, y, 0, .inl rfl, fun _ => ⟨q, e1, hq, by rw [← h.2, e2]⟩, fun _ _ _ => rfl, fun W hW => ?_, c⟩
    rw [← h.2, e2, e1]
    exact qParse_R q hq W hW
  · rw [if_neg h] at c
    have hno : ∀ a, fitR 200 a → prt a ≠ s := fun a ha e => h (by
      have e1 := hxy a e
      have hbt := hbv a ha e1
      obtain ⟨q, e3, hq, e4⟩ := hb hbt
      have : q = a := RV_inj (by rw [← e3, e1])
      exact ⟨hbt, by rw [e4, this, e]⟩)
    exact ⟨⟨#[]⟩, ⟨#[]⟩, 40, .inr rfl, fun e => absurd e (by decide), fun q hq e => absurd e.symm (hno q hq), fun W hW => qParse_no s W hW hs hno, c⟩
end Go.Proofs.YtdnbhgkbfbgnaaaGreatDoor

