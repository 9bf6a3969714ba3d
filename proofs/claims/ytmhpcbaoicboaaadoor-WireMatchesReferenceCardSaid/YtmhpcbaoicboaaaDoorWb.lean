/- Walks of package wire's Int, Clone and String. -/
import Derived.Test.YtmhpcbaoicboaaaDoorChecked
import Derived.Test.YtmhpcbaoicboaaaDoorWa
import Derived.WalkKit
import Derived.Lib.LaidTab
import Derived.WalkLawsBesides
import Derived.WalkSpells
import Derived.Lib.IndexBytes
import Derived.Lib.Hide
namespace Go.Proofs.YtmhpcbaoicboaaaDoor
open Go.RowKit
theorem extract_list (s : ByteArray) (a b : Nat) : (s.extract a b).data.toList = (s.data.toList.drop a).take (b - a) := by
  simp [ByteArray.data_extract]
theorem extract_end (s : ByteArray) (a : Nat) : (s.extract a s.size).data.toList = s.data.toList.drop a := by
  rw [extract_list, List.take_of_length_le (by simp)]

theorem jv_lt (l : List UInt8) (z k : Nat) (h : jn l 0 0 = some (z, k)) : z < 9223372036854775808 ∧ 0 < k ∧ k ≤ 9 ∧ k ≤ l.length := by
  obtain ⟨z', rfl, h1, h2, h3, h4, h5, h6⟩ := jn_inv _ _ _ _ _ h
  exact ⟨by simpa using h4, h1, h3, by omega⟩
theorem unz_range (z : Nat) (h : z < 9223372036854775808) : -4611686018427387904 ≤ unz z ∧ unz z ≤ 4611686018427387903 := by
  unfold unz; split <;> omega
theorem ret3 {a b c a' b' c' : Int} (h : a = a') (h' : b = b') (h'' : c = c') : Ending.returned (.tuple #[.int .i64 a, .int .i64 b, .int .i64 c]) = .returned (.tuple #[.int .i64 a', .int .i64 b', .int .i64 c']) := by rw [h, h', h'']

theorem int_off (s : ByteArray) (hs : s.size ≤ maxLen) (a : Int) (w : World) (h : a < 0 ∨ (s.size : Int) < a) :
    Calls Tryd.prog 15 #[.string s, .int .i64 a] w fun e w' => e = .returned (.tuple #[.int .i64 0, .int .i64 0, .int .i64 2]) ∧ w = w' := by
  unfold maxLen at hs
  rcases h with h | h
  · go_enter Tryd.func15, Tryd.ntmps15
    go_wp2
    go_ret3
    exact ⟨rfl, rfl⟩
  · have h0 : ¬ a < 0 := by omega
    go_enter Tryd.func15, Tryd.ntmps15
    go_wp2
    go_ret3
    exact ⟨rfl, rfl⟩

theorem int_join (s : ByteArray) (hs : s.size ≤ maxLen) (a : Nat) (w : World) (_ha : a ≤ s.size) :
    Calls Tryd.prog 25 #[.string (s.extract a s.size)] w fun e w' => e = .returned (.tuple #[.int .u64 (jv (s.data.toList.drop a)).1, .int .i64 (jv (s.data.toList.drop a)).2]) ∧ w = w' := by
  have h := join_any (s.extract a s.size) (by simp; omega) w
  rw [extract_end] at h
  exact h

theorem int_short (s : ByteArray) (hs : s.size ≤ maxLen) (a : Nat) (ha : a ≤ s.size) (w : World) (h : jn (s.data.toList.drop a) 0 0 = none) :
    Calls Tryd.prog 15 #[.string s, .int .i64 a] w fun e w' => e = .returned (.tuple #[.int .i64 0, .int .i64 0, .int .i64 10]) ∧ w = w' := by
  have hj := int_join s hs a w ha
  rw [show jv (s.data.toList.drop a) = (0, 0) by rw [jv, h]; rfl] at hj
  clear h
  unfold maxLen at hs
  go_enter Tryd.func15, Tryd.ntmps15
  go_wp2_with (go_at_call 25; refine hj.mono ?_; rintro e w' ⟨rfl, rfl⟩)
  go_ret3
  exact ⟨rfl, rfl⟩

theorem int_read (s : ByteArray) (hs : s.size ≤ maxLen) (a : Nat) (ha : a ≤ s.size) (w : World) (z k : Nat) (h : jn (s.data.toList.drop a) 0 0 = some (z, k)) :
    Calls Tryd.prog 15 #[.string s, .int .i64 a] w fun e w' => e = .returned (.tuple (if unz z < -4611686018427387903 then #[.int .i64 0, .int .i64 0, .int .i64 10] else #[.int .i64 (unz z), .int .i64 ((a : Int) + k), .int .i64 0])) ∧ w = w' := by
  have hj := int_join s hs a w ha
  rw [show jv (s.data.toList.drop a) = (z, k) by rw [jv, h]; rfl] at hj
  obtain ⟨hz, hk0, hk9, hkl⟩ := jv_lt _ _ _ h
  simp only [List.length_drop, Array.length_toList] at hkl
  have hks : a + k ≤ s.size := by have e : s.data.size = s.size := rfl; omega
  clear hkl
  obtain ⟨hu0, hu1⟩ := unz_range z hz
  have hu := unfold_any z hz
  clear h
  generalize unz z = n at *
  unfold maxLen at hs
  have hk : ((k : Int) == 0) = false := by simp; omega
  have hn1 : ¬ 4611686018427387903 < n := by omega
  by_cases hn : n < -4611686018427387903
  · go_enter Tryd.func15, Tryd.ntmps15
    go_wp2_with (first | (go_at_call 25; refine hj.mono ?_; rintro e w' ⟨rfl, rfl⟩) | (go_at_call 26; refine (hu _).mono ?_; rintro e w' ⟨rfl, rfl⟩))
    go_ret3
    exact ⟨rfl, rfl⟩
  · go_enter Tryd.func15, Tryd.ntmps15
    go_wp2_with (first | (go_at_call 25; refine hj.mono ?_; rintro e w' ⟨rfl, rfl⟩) | (go_at_call 26; refine (hu _).mono ?_; rintro e w' ⟨rfl, rfl⟩))
    go_ret3
    exact ⟨rfl, rfl⟩

/-- Int, where no integer is read -/
theorem int_none (s : ByteArray) (hs : s.size ≤ maxLen) (a : Nat) (ha : a ≤ s.size) (w : World) (h : dI (s.data.toList.drop a) = none) :
    Calls Tryd.prog 15 #[.string s, .int .i64 a] w fun e w' => e = .returned (.tuple #[.int .i64 0, .int .i64 0, .int .i64 10]) ∧ w = w' := by
  cases hj : jn (s.data.toList.drop a) 0 0 with
  | none => exact int_short s hs a ha w hj
  | some p =>
    obtain ⟨z, k⟩ := p
    have hz := unz_range z (jv_lt _ _ _ hj).1
    refine (int_read s hs a ha w z k hj).mono ?_
    rintro e w' ⟨rfl, rfl⟩
    rw [dI, hj] at h
    simp only at h
    split at h
    · rename_i hc
      rw [if_pos (by omega)]
      exact ⟨rfl, rfl⟩
    · cases h

/-- Int, where one is -/
theorem int_some (s : ByteArray) (hs : s.size ≤ maxLen) (a : Nat) (ha : a ≤ s.size) (w : World) (n : Int) (k : Nat) (h : dI (s.data.toList.drop a) = some (n, k)) :
    Calls Tryd.prog 15 #[.string s, .int .i64 a] w fun e w' => e = .returned (.tuple #[.int .i64 n, .int .i64 ((a : Int) + k), .int .i64 0]) ∧ w = w' := by
  cases hj : jn (s.data.toList.drop a) 0 0 with
  | none => rw [dI, hj] at h; cases h
  | some p =>
    obtain ⟨z, k'⟩ := p
    refine (int_read s hs a ha w z k' hj).mono ?_
    rintro e w' ⟨rfl, rfl⟩
    rw [dI, hj] at h
    simp only at h
    split at h
    · cases h
    · rename_i hc
      simp only [Option.some.injEq, Prod.mk.injEq] at h
      obtain ⟨rfl, rfl⟩ := h
      rw [if_neg (by omega)]
      exact ⟨rfl, rfl⟩
end Go.Proofs.YtmhpcbaoicboaaaDoor
