/- Walks of package wire's PutInt and PutString, and of the law's NumberFrom. -/
import Derived.Test.YtmhpcbaoicboaaaDoorWa
import Derived.Test.YtmhpcbaoicboaaaDoorWf
import Derived.WalkKit
import Derived.WalkLawsBesides
import Derived.WalkSpells
import Derived.Lib.Hide
namespace Go.Proofs.YtmhpcbaoicboaaaDoor
open Go.RowKit

/-- the encoding of an integer, as a string -/
def encB (n : Int) : ByteArray := ⟨(enc n).toArray⟩
theorem encB_list (n : Int) : (encB n).data.toList = enc n := rfl
theorem encB_size (n : Int) : (encB n).size = (enc n).length := by simp [encB, ByteArray.size]

theorem encB_any (m : Int) (h0 : -4611686018427387903 ≤ m) (h1 : m ≤ 4611686018427387903) (w : World) :
    Calls Tryd.prog 23 #[.int .i64 m] w fun e w' => e = .returned (.string (encB m)) ∧ Below w.heap.size w w' := encode_any m h0 h1 w

theorem putInt_ok (m : Int) (h0 : -4611686018427387903 ≤ m) (h1 : m ≤ 4611686018427387903) (w : World) :
    Calls Tryd.prog 12 #[.int .i64 m] w fun e w' => e = .returned (.tuple #[.string (encB m), .int .i64 0]) ∧ Below w.heap.size w w' := by
  have g0 : ¬ m < -4611686018427387903 := by omega
  have g1 : ¬ 4611686018427387903 < m := by omega
  go_enter Tryd.func12, Tryd.ntmps12
  go_wp2_with (go_at_call 23; refine (encB_any m h0 h1 _).mono ?_; rintro e w' ⟨rfl, hb⟩)
  go_ret2
  exact ⟨rfl, hb⟩

theorem putInt_bad (m : Int) (h : m < -4611686018427387903 ∨ 4611686018427387903 < m) (w : World) :
    Calls Tryd.prog 12 #[.int .i64 m] w fun e w' => e = .returned (.tuple #[.string ⟨#[]⟩, .int .i64 10]) ∧ w = w' := by
  by_cases h0 : m < -4611686018427387903
  · clear h
    go_enter Tryd.func12, Tryd.ntmps12
    go_wp2
    go_ret2
    exact ⟨rfl, rfl⟩
  · have h1 : 4611686018427387903 < m := by omega
    clear h
    go_enter Tryd.func12, Tryd.ntmps12
    go_wp2
    go_ret2
    exact ⟨rfl, rfl⟩

theorem putString_ok (s : ByteArray) (hs : s.size ≤ 65536) (w : World) :
    Calls Tryd.prog 19 #[.string s] w fun e w' => e = .returned (.tuple #[.string (encB s.size ++ s), .int .i64 0]) ∧ Below w.heap.size w w' := by
  have h1 : ¬ (65536 : Int) < s.size := by omega
  have hl := enc_len s.size
  have hz : (encB s.size).size ≤ 9 := by rw [encB_size]; exact hl
  go_enter Tryd.func19, Tryd.ntmps19
  go_wp2_with (go_at_call 23; refine (encB_any s.size (by omega) (by omega) _).mono ?_; rintro e w' ⟨rfl, hb⟩)
  go_ret2
  exact ⟨rfl, hb⟩

theorem pk_range (c n : Int) (h : 0 < n) : 0 ≤ pk c n ∧ pk c n < n := by
  unfold pk; exact ⟨Int.emod_nonneg _ (by omega), Int.emod_lt_of_pos _ h⟩

def nfT : List Int := [64, 128, 8192, 16384, 1073741824, 36028797018963968, 576460752303423488, 2]
/-- the integer that NumberFrom determines -/
def nf (c : Int) : Int := if 8 ≤ pk c 16 then -(pk (pk c 4611686018427387904 / 8) (nfT.getD (pk c 8).toNat 0)) else pk (pk c 4611686018427387904 / 8) (nfT.getD (pk c 8).toNat 0)

set_option maxHeartbeats 1000000 in
theorem number_at (c : Int) (h0 : -9223372036854775808 ≤ c) (h1 : c ≤ 9223372036854775807) (j : Nat) (hj : j < 8) (hc : pk c 8 = (j : Int)) (w : World) :
    Calls Tryd.prog 11 #[.int .i64 c] w fun e w' => e = .returned (.int .i64 (nf c)) ∧ Below w.heap.size w w' := by
  have HN : nf c = if 8 ≤ pk c 16 then -(pk (pk c 4611686018427387904 / 8) (nfT.getD j 0)) else pk (pk c 4611686018427387904 / 8) (nfT.getD j 0) := by rw [nf, hc]; rfl
  have HH := Lib.hid HN
  clear HN
  obtain ⟨b0, b1⟩ := pk_range c 4611686018427387904 (by omega)
  have e : j = 0 ∨ j = 1 ∨ j = 2 ∨ j = 3 ∨ j = 4 ∨ j = 5 ∨ j = 6 ∨ j = 7 := by omega
  rcases e with rfl | rfl | rfl | rfl | rfl | rfl | rfl | rfl
  · obtain ⟨d0, d1⟩ := pk_range (pk c 4611686018427387904 / 8) 64 (by omega)
    go_enter Tryd.func11, Tryd.ntmps11
    go_wp2_with (go_at_call 14; refine (pick_any _ _ _ (by omega) (by omega) (by omega) (by omega)).mono ?_; rintro e w' ⟨rfl, rfl⟩)
    · have h8 : 8 ≤ pk c 16 := by assumption
      go_ret
      exact ⟨ret_int (by rw [HH.out, if_pos h8]; rfl), (Below.refl _ _).alloc (Nat.le_refl _) _⟩
    · have h8 : pk c 16 < 8 := by assumption
      go_ret
      exact ⟨ret_int (by rw [HH.out, if_neg (by omega)]; rfl), (Below.refl _ _).alloc (Nat.le_refl _) _⟩
  · obtain ⟨d0, d1⟩ := pk_range (pk c 4611686018427387904 / 8) 128 (by omega)
    go_enter Tryd.func11, Tryd.ntmps11
    go_wp2_with (go_at_call 14; refine (pick_any _ _ _ (by omega) (by omega) (by omega) (by omega)).mono ?_; rintro e w' ⟨rfl, rfl⟩)
    · have h8 : 8 ≤ pk c 16 := by assumption
      go_ret
      exact ⟨ret_int (by rw [HH.out, if_pos h8]; rfl), (Below.refl _ _).alloc (Nat.le_refl _) _⟩
    · have h8 : pk c 16 < 8 := by assumption
      go_ret
      exact ⟨ret_int (by rw [HH.out, if_neg (by omega)]; rfl), (Below.refl _ _).alloc (Nat.le_refl _) _⟩
  · obtain ⟨d0, d1⟩ := pk_range (pk c 4611686018427387904 / 8) 8192 (by omega)
    go_enter Tryd.func11, Tryd.ntmps11
    go_wp2_with (go_at_call 14; refine (pick_any _ _ _ (by omega) (by omega) (by omega) (by omega)).mono ?_; rintro e w' ⟨rfl, rfl⟩)
    · have h8 : 8 ≤ pk c 16 := by assumption
      go_ret
      exact ⟨ret_int (by rw [HH.out, if_pos h8]; rfl), (Below.refl _ _).alloc (Nat.le_refl _) _⟩
    · have h8 : pk c 16 < 8 := by assumption
      go_ret
      exact ⟨ret_int (by rw [HH.out, if_neg (by omega)]; rfl), (Below.refl _ _).alloc (Nat.le_refl _) _⟩
  · obtain ⟨d0, d1⟩ := pk_range (pk c 4611686018427387904 / 8) 16384 (by omega)
    go_enter Tryd.func11, Tryd.ntmps11
    go_wp2_with (go_at_call 14; refine (pick_any _ _ _ (by omega) (by omega) (by omega) (by omega)).mono ?_; rintro e w' ⟨rfl, rfl⟩)
    · have h8 : 8 ≤ pk c 16 := by assumption
      go_ret
      exact ⟨ret_int (by rw [HH.out, if_pos h8]; rfl), (Below.refl _ _).alloc (Nat.le_refl _) _⟩
    · have h8 : pk c 16 < 8 := by assumption
      go_ret
      exact ⟨ret_int (by rw [HH.out, if_neg (by omega)]; rfl), (Below.refl _ _).alloc (Nat.le_refl _) _⟩
  · obtain ⟨d0, d1⟩ := pk_range (pk c 4611686018427387904 / 8) 1073741824 (by omega)
    go_enter Tryd.func11, Tryd.ntmps11
    go_wp2_with (go_at_call 14; refine (pick_any _ _ _ (by omega) (by omega) (by omega) (by omega)).mono ?_; rintro e w' ⟨rfl, rfl⟩)
    · have h8 : 8 ≤ pk c 16 := by assumption
      go_ret
      exact ⟨ret_int (by rw [HH.out, if_pos h8]; rfl), (Below.refl _ _).alloc (Nat.le_refl _) _⟩
    · have h8 : pk c 16 < 8 := by assumption
      go_ret
      exact ⟨ret_int (by rw [HH.out, if_neg (by omega)]; rfl), (Below.refl _ _).alloc (Nat.le_refl _) _⟩
  · obtain ⟨d0, d1⟩ := pk_range (pk c 4611686018427387904 / 8) 36028797018963968 (by omega)
    go_enter Tryd.func11, Tryd.ntmps11
    go_wp2_with (go_at_call 14; refine (pick_any _ _ _ (by omega) (by omega) (by omega) (by omega)).mono ?_; rintro e w' ⟨rfl, rfl⟩)
    · have h8 : 8 ≤ pk c 16 := by assumption
      go_ret
      exact ⟨ret_int (by rw [HH.out, if_pos h8]; rfl), (Below.refl _ _).alloc (Nat.le_refl _) _⟩
    · have h8 : pk c 16 < 8 := by assumption
      go_ret
      exact ⟨ret_int (by rw [HH.out, if_neg (by omega)]; rfl), (Below.refl _ _).alloc (Nat.le_refl _) _⟩
  · obtain ⟨d0, d1⟩ := pk_range (pk c 4611686018427387904 / 8) 576460752303423488 (by omega)
    go_enter Tryd.func11, Tryd.ntmps11
    go_wp2_with (go_at_call 14; refine (pick_any _ _ _ (by omega) (by omega) (by omega) (by omega)).mono ?_; rintro e w' ⟨rfl, rfl⟩)
    · have h8 : 8 ≤ pk c 16 := by assumption
      go_ret
      exact ⟨ret_int (by rw [HH.out, if_pos h8]; rfl), (Below.refl _ _).alloc (Nat.le_refl _) _⟩
    · have h8 : pk c 16 < 8 := by assumption
      go_ret
      exact ⟨ret_int (by rw [HH.out, if_neg (by omega)]; rfl), (Below.refl _ _).alloc (Nat.le_refl _) _⟩
  · obtain ⟨d0, d1⟩ := pk_range (pk c 4611686018427387904 / 8) 2 (by omega)
    go_enter Tryd.func11, Tryd.ntmps11
    go_wp2_with (go_at_call 14; refine (pick_any _ _ _ (by omega) (by omega) (by omega) (by omega)).mono ?_; rintro e w' ⟨rfl, rfl⟩)
    · have h8 : 8 ≤ pk c 16 := by assumption
      go_ret
      exact ⟨ret_int (by rw [HH.out, if_pos h8]; rfl), (Below.refl _ _).alloc (Nat.le_refl _) _⟩
    · have h8 : pk c 16 < 8 := by assumption
      go_ret
      exact ⟨ret_int (by rw [HH.out, if_neg (by omega)]; rfl), (Below.refl _ _).alloc (Nat.le_refl _) _⟩

theorem number_any (c : Int) (h0 : -9223372036854775808 ≤ c) (h1 : c ≤ 9223372036854775807) (w : World) :
    Calls Tryd.prog 11 #[.int .i64 c] w fun e w' => e = .returned (.int .i64 (nf c)) ∧ Below w.heap.size w w' := by
  have h := pk_range c 8 (by omega)
  exact number_at c h0 h1 (pk c 8).toNat (by omega) (by omega) w

theorem nf_range (c : Int) : -4611686018427387903 ≤ nf c ∧ nf c ≤ 4611686018427387903 := by
  have h8 := pk_range c 8 (by omega)
  have key : ∀ j : Nat, j < 8 → 0 ≤ pk (pk c 4611686018427387904 / 8) (nfT.getD j 0) ∧ pk (pk c 4611686018427387904 / 8) (nfT.getD j 0) ≤ 4611686018427387903 := by
    intro j hj
    have hp : 0 < nfT.getD j 0 ∧ nfT.getD j 0 ≤ 576460752303423488 := by
      have : ∀ i : Fin 8, 0 < nfT.getD i.1 0 ∧ nfT.getD i.1 0 ≤ 576460752303423488 := by decide
      exact this ⟨j, hj⟩
    have h := pk_range (pk c 4611686018427387904 / 8) (nfT.getD j 0) hp.1
    omega
  have h := key (pk c 8).toNat (by omega)
  unfold nf
  split <;> omega
end Go.Proofs.YtmhpcbaoicboaaaDoor
