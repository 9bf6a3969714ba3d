/- The walks of the laws' heads and of the reference's Same. -/
import Derived.Test.YtdjdoepnljdlcaaDoorWd
import Derived.Test.YtdjdoepnljdlcaaDoorWc
namespace Go.Proofs.YtdjdoepnljdlcaaDoor
open Go.RowKit

set_option maxRecDepth 100000 in
set_option maxHeartbeats 4000000 in
theorem same_some (A B : List ByteArray) (b1 o1 c1 b2 o2 c2 n : Nat) (w : World) (hn : A.length = n) (hm : B.length = n)
    (hsA : StrRow w b1 o1 A) (hsB : StrRow w b2 o2 B) (hc1 : n ≤ c1) (hc2 : n ≤ c2) (hd1 : c1 ≤ 9223372036854775807) :
    Calls Tryd.prog 26 #[.slice (some ⟨b1, o1, none⟩) n c1, .slice (some ⟨b2, o2, none⟩) n c2] w fun e w' => e = .returned (.bool (decide (A = B))) ∧ ∃ q, w' = w.drewN q := by
  have HN := Lib.hid hn
  have HM := Lib.hid hm
  have HsA := Lib.hid hsA
  have HsB := Lib.hid hsB
  clear hn hm hsA hsB
  go_enter Tryd.func26, Tryd.ntmps26
  go_wp2
  go_loopw [5] (fun i wr => ∃ k : Nat, k ≤ n ∧ i = .int .i64 (k : Int) ∧ Hid (A.take k = B.take k) ∧ Hid (∃ q, wr = w.drewN q)) (fun i _ => n - (intOf i).toNat)
  case atStart => exact ⟨0, by omega, rfl, Lib.hid rfl, Lib.hid ⟨0, rfl⟩⟩
  case round =>
    obtain ⟨k, hkn, rfl, hno, hW⟩ := hrel
    by_cases h1 : k < n
    · have k1 : k < A.length := by rw [HN.out]; exact h1
      have k2 : k < B.length := by rw [HM.out]; exact h1
      have hx : wr.cell? ⟨b1, o1 + k, none⟩ = some (.string A[k]) := by obtain ⟨q, rfl⟩ := hW.out; exact HsA.out k _ (List.getElem?_eq_getElem k1)
      have hy : wr.cell? ⟨b2, o2 + k, none⟩ = some (.string B[k]) := by obtain ⟨q, rfl⟩ := hW.out; exact HsB.out k _ (List.getElem?_eq_getElem k2)
      have HT := Lib.hid (show A[k] = B[k] → A.take (k + 1) = B.take (k + 1) from fun h => by rw [List.take_succ_eq_append_getElem k1, List.take_succ_eq_append_getElem k2, hno.out, h])
      have HNe := Lib.hid (show A[k] ≠ B[k] → decide (A = B) = false from fun h => decide_eq_false fun e => h (by subst e; rfl))
      obtain ⟨x, hx'⟩ : ∃ x, A[k] = x := ⟨_, rfl⟩
      obtain ⟨y, hy'⟩ : ∃ y, B[k] = y := ⟨_, rfl⟩
      rw [hx'] at hx HT HNe
      rw [hy'] at hy HT HNe
      clear hx' hy' k1 k2
      by_cases hxy : x = y
      · have q : (x.toList == y.toList) = true := by rw [eqB]; simp [hxy]
        have HT2 := Lib.hid (HT.out hxy)
        clear hxy HT HNe hno
        go_wp2
        go_quiet (fail)
        go_wp2
        go_roundw
        case rel => exact ⟨k + 1, by omega, by go_num, HT2, Lib.hid (by obtain ⟨q, rfl⟩ := hW.out; exact ⟨_, World.drewN_drewN ..⟩)⟩
        case measure => simp [intOf]; omega
      · have q : (x.toList == y.toList) = false := by rw [eqB]; simp [hxy]
        have HT2 := Lib.hid (HNe.out hxy)
        clear hxy HT HNe hno
        go_wp2
        go_quiet (fail)
        go_wp2
        go_ret
        exact ⟨by rw [HT2.out]; rfl, by obtain ⟨q, rfl⟩ := hW.out; exact ⟨_, World.drewN_drewN ..⟩⟩
    · have hk : k = n := by omega
      have HR0 := Lib.hid (show decide (A = B) = true from decide_eq_true (by have h := hno.out; rwa [List.take_of_length_le (by rw [HN.out]; omega), List.take_of_length_le (by rw [HM.out]; omega)] at h))
      subst hk
      go_wp2
      go_ret
      exact ⟨by rw [HR0.out]; rfl, hW.out⟩

set_option maxRecDepth 100000 in
theorem same_len (a1 : Option Addr) (n1 c1 : Nat) (a2 : Option Addr) (n2 c2 : Nat) (w : World) (h : n1 ≠ n2) :
    Calls Tryd.prog 26 #[.slice a1 n1 c1, .slice a2 n2 c2] w fun e w' => e = .returned (.bool false) ∧ w = w' := by
  have q : ((n1 : Int) == (n2 : Int)) = false := by rw [beq_eq_false_iff_ne, ne_eq]; omega
  have q' : ((n1 : Int) != (n2 : Int)) = true := by rw [bne, q]; rfl
  have q2 : (n1 == n2) = false := by rw [beq_eq_false_iff_ne, ne_eq]; exact h
  clear h
  go_enter Tryd.func26, Tryd.ntmps26
  go_wp2
  go_ret
  exact ⟨rfl, rfl⟩
set_option maxRecDepth 100000 in
theorem same_zero (a1 : Option Addr) (c1 : Nat) (a2 : Option Addr) (c2 : Nat) (w : World) :
    Calls Tryd.prog 26 #[.slice a1 0 c1, .slice a2 0 c2] w fun e w' => e = .returned (.bool true) ∧ w = w' := by
  go_enter Tryd.func26, Tryd.ntmps26
  go_wp2
  go_loop [5] (fun i => i = .int .i64 0) (fun i => 0)
  case atStart => exact rfl
  case round =>
    subst hrel
    go_wp2
    go_ret
    exact ⟨rfl, rfl⟩

theorem same_any (A B : List ByteArray) (v1 v2 : Value) (w : World) (hs1 : Sl w v1 A) (hs2 : Sl w v2 B) :
    Calls Tryd.prog 26 #[v1, v2] w fun e w' => e = .returned (.bool (decide (A = B))) ∧ ∃ q, w' = w.drewN q := by
  have f1 : ∃ a c, v1 = .slice a A.length c ∧ (A.length = 0 ∨ ∃ b o, a = some ⟨b, o, none⟩ ∧ StrRow w b o A ∧ A.length ≤ c ∧ c ≤ 9223372036854775807) := by
    rcases hs1 with ⟨rfl, rfl⟩ | ⟨b1, o1, c1, rfl, l1, d1, m1, r1⟩
    · exact ⟨none, 0, rfl, .inl rfl⟩
    · exact ⟨_, _, rfl, .inr ⟨_, _, rfl, r1, l1, d1⟩⟩
  have f2 : ∃ a c, v2 = .slice a B.length c ∧ (B.length = 0 ∨ ∃ b o, a = some ⟨b, o, none⟩ ∧ StrRow w b o B ∧ B.length ≤ c) := by
    rcases hs2 with ⟨rfl, rfl⟩ | ⟨b1, o1, c1, rfl, l1, d1, m1, r1⟩
    · exact ⟨none, 0, rfl, .inl rfl⟩
    · exact ⟨_, _, rfl, .inr ⟨_, _, rfl, r1, l1⟩⟩
  obtain ⟨a1, c1, rfl, g1⟩ := f1
  obtain ⟨a2, c2, rfl, g2⟩ := f2
  by_cases hl : A.length = B.length
  · rcases g1 with g1 | ⟨b1, o1, rfl, r1, l1, d1⟩
    · have e : decide (A = B) = true := decide_eq_true (by rw [List.length_eq_zero_iff.1 g1, List.length_eq_zero_iff.1 (hl.symm.trans g1)])
      rw [e, ← hl, g1]
      exact (same_zero a1 c1 a2 c2 w).mono fun _ _ g => ⟨g.1, 0, g.2.symm⟩
    · rcases g2 with g2 | ⟨b2, o2, rfl, r2, l2⟩
      · have e : decide (A = B) = true := decide_eq_true (by rw [List.length_eq_zero_iff.1 (hl.trans g2), List.length_eq_zero_iff.1 g2])
        rw [e, hl, g2]
        exact (same_zero _ c1 a2 c2 w).mono fun _ _ g => ⟨g.1, 0, g.2.symm⟩
      · rw [← hl]
        exact same_some A B b1 o1 c1 b2 o2 c2 _ w rfl hl.symm r1 r2 l1 (by omega) d1
  · have e : decide (A = B) = false := decide_eq_false fun h => hl (by rw [h])
    rw [e]
    exact (same_len a1 _ c1 a2 _ c2 w hl).mono fun _ _ g => ⟨g.1, 0, g.2.symm⟩
end Go.Proofs.YtdjdoepnljdlcaaDoor
