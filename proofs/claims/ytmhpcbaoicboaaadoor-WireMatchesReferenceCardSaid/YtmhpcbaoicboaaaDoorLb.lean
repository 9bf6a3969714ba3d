/- The walk of the law WireTruncated. -/
import Derived.Test.YtmhpcbaoicboaaaDoorLa
namespace Go.Proofs.YtmhpcbaoicboaaaDoor
open Go.RowKit

theorem extract_front (s : ByteArray) (m : Nat) : (s.extract 0 m).data.toList = s.data.toList.take m := by
  rw [extract_list]; simp

/-- a proper beginning of an integer's encoding is not read -/
theorem int_cut (n : Int) (m : Nat) (hm : m < (encB n).size) (w : World) :
    Calls Tryd.prog 15 #[.string ((encB n).extract 0 m), .int .i64 0] w fun e w' => e = .returned (.tuple #[.int .i64 0, .int .i64 0, .int .i64 10]) ∧ w = w' := by
  have hl := enc_len n
  rw [encB_size] at hm
  exact int_none _ (by unfold maxLen; rw [ByteArray.size_extract]; omega) 0 (by omega) w (by rw [List.drop_zero, extract_front, encB_list]; exact dI_cut n m hm)

/-- nor is one of a string's -/
theorem string_cut (u : ByteArray) (hu : u.size ≤ 65536) (m : Nat) (hm : m < (encB u.size ++ u).size) (w : World) :
    Calls Tryd.prog 17 #[.string ((encB u.size ++ u).extract 0 m), .int .i64 0] w fun e w' => e = .returned (.tuple #[.string ⟨#[]⟩, .int .i64 0, .int .i64 10]) ∧ w = w' := by
  have hl := enc_len u.size
  rw [ByteArray.size_append] at hm
  have hs : ((encB u.size ++ u).extract 0 m).size = m := by rw [ByteArray.size_extract, ByteArray.size_append]; omega
  have hz : (encB u.size).size ≤ 9 := by rw [encB_size]; exact hl
  have hmax : ((encB u.size ++ u).extract 0 m).size ≤ maxLen := by unfold maxLen; omega
  have hd : ((encB u.size ++ u).extract 0 m).data.toList = (enc u.size ++ u.data.toList).take m := by rw [extract_front, list_append, encB_list]
  by_cases h : m < (encB u.size).size
  · refine string_err _ 0 10 w (.inr rfl) (fun w => int_none _ hmax 0 (by omega) w ?_)
    rw [encB_size] at h
    rw [List.drop_zero, hd, List.take_append_of_le_length (by omega)]
    exact dI_cut _ m h
  · have he : (enc u.size ++ u.data.toList).take m = enc u.size ++ u.data.toList.take (m - (enc u.size).length) := by
      rw [List.take_append]
      rw [encB_size] at h
      rw [List.take_of_length_le (by omega)]
    exact string_bad _ hmax 0 u.size (encB u.size).size w (by omega) (by omega) (fun w => by
      have hi := int_some ((encB u.size ++ u).extract 0 m) hmax 0 (by omega) w u.size (enc u.size).length (by rw [List.drop_zero, hd, he]; exact dI_enc _ _ (by omega) (by omega))
      rw [← encB_size] at hi
      simpa using hi)

set_option maxRecDepth 100000 in
set_option maxHeartbeats 1000000 in
theorem truncated_walk (c d : Int) (t : ByteArray) (k : Int) (hc0 : -9223372036854775808 ≤ c) (hc1 : c ≤ 9223372036854775807) (hd0 : -9223372036854775808 ≤ d) (hd1 : d ≤ 9223372036854775807)
    (ht : t.size ≤ maxLen) (hk0 : -9223372036854775808 ≤ k) (hk1 : k ≤ 9223372036854775807) (w : World) (hT : Tab w) :
    Calls Tryd.prog 7 #[.int .i64 c, .int .i64 d, .string t, .int .i64 k] w fun e w' => e = .returned (.bool true) ∧ Below w.heap.size w w' := by
  unfold maxLen at ht
  have HB := Below.refl w.heap.size w
  have HT := Lib.hid hT
  clear hT
  obtain ⟨u, hu, hu2⟩ := cut200 t
  obtain ⟨n0, n1⟩ := nf_range c
  obtain ⟨m0, m1⟩ := nf_range d
  have hNc := fun w => number_any c hc0 hc1 w
  have hNd := fun w => number_any d hd0 hd1 w
  have hPc := fun w => putInt_ok (nf c) n0 n1 w
  have hPd := fun w => putInt_ok (nf d) m0 m1 w
  have l1 := enc_len (nf c)
  have l2 := enc_len (nf d)
  have l3 := enc_len u.size
  have g1 := enc_pos (nf c)
  have g3 := enc_pos u.size
  rw [← encB_size] at l1 l2 l3 g1 g3
  have hPS := fun w => putString_ok u (by omega) w
  obtain ⟨x0, x1⟩ := pk_range k (encB (nf c)).size (by omega)
  obtain ⟨y0, y1⟩ := pk_range k (((encB u.size).size : Int) + (u.size : Int)) (by omega)
  have hx := fun w => pick_any k (encB (nf c)).size w hk0 hk1 (by omega) (by omega)
  have hy := fun w => pick_any k (((encB u.size).size : Int) + (u.size : Int)) w hk0 hk1 (by omega) (by omega)
  have hI := fun w => int_cut (nf c) (pk k (encB (nf c)).size).toNat (by omega) w
  have hS := fun w => string_cut u (by omega) (pk k (((encB u.size).size : Int) + (u.size : Int))).toNat (by rw [ByteArray.size_append]; omega) w
  have z1 : (((encB (nf c)).size : Int) == 0) = false := by simp only [beq_eq_false_iff_ne, ne_eq]; omega
  have z2 : ((((encB u.size).size : Int) + (u.size : Int)) == 0) = false := by simp only [beq_eq_false_iff_ne, ne_eq]; omega
  generalize nf c = x at *
  generalize nf d = y at *
  by_cases hxy : y = x
  · subst hxy
    have e1 : (encB y).extract 0 (encB y).size = encB y := ext_list (by rw [extract_front, ← size_list, List.take_length])
    go_enter Tryd.func7, Tryd.ntmps7
    go_wp2_with (first
      | (go_at_call 10; (with_reducible refine (sane_any _ HT.out).mono ?_); rintro e w' ⟨rfl, hb⟩; replace HB := HB.trans (hb.mono HB.size); clear hb)
      | (go_at_call 11; (with_reducible refine (hNc _).mono ?_); rintro e w' ⟨rfl, hb⟩; replace HB := HB.trans (hb.mono HB.size); clear hb)
      | (go_at_call 11; (with_reducible refine (hNd _).mono ?_); rintro e w' ⟨rfl, hb⟩; replace HB := HB.trans (hb.mono HB.size); clear hb)
      | (go_at_call 12; (with_reducible refine (hPd _).mono ?_); rintro e w' ⟨rfl, hb⟩; replace HB := HB.trans (hb.mono HB.size); clear hb)
      | (go_at_call 19; (with_reducible refine (hPS _).mono ?_); rintro e w' ⟨rfl, hb⟩; replace HB := HB.trans (hb.mono HB.size); clear hb)
      | (go_at_call 14; (with_reducible refine (hx _).mono ?_); rintro e w' ⟨rfl, rfl⟩)
      | (go_at_call 14; (with_reducible refine (hy _).mono ?_); rintro e w' ⟨rfl, rfl⟩)
      | (go_at_call 15; (with_reducible refine (hI _).mono ?_); rintro e w' ⟨rfl, rfl⟩)
      | (go_at_call 17; (with_reducible refine (hS _).mono ?_); rintro e w' ⟨rfl, rfl⟩))
    go_ret
    exact ⟨rfl, HB⟩
  · have hne : (x == y) = false := by simp only [beq_eq_false_iff_ne, ne_eq]; omega
    by_cases hle : (encB x).size ≤ (encB y).size
    · have hle' : decide ((encB x).size ≤ (encB y).size) = true := by simpa using hle
      have hno : (((encB y).extract 0 (encB x).size).toList == (encB x).toList) = false := by
        rw [Bool.eq_false_iff]
        intro h
        have h := eq_of_beq h
        rw [Lib.toList_data, Lib.toList_data, extract_front, encB_list, encB_list, encB_size] at h
        exact hxy (enc_prefix x y n0 n1 m0 m1 h).symm
      go_enter Tryd.func7, Tryd.ntmps7
      go_wp2_with (first
        | (go_at_call 10; (with_reducible refine (sane_any _ HT.out).mono ?_); rintro e w' ⟨rfl, hb⟩; replace HB := HB.trans (hb.mono HB.size); clear hb)
        | (go_at_call 11; (with_reducible refine (hNc _).mono ?_); rintro e w' ⟨rfl, hb⟩; replace HB := HB.trans (hb.mono HB.size); clear hb)
        | (go_at_call 11; (with_reducible refine (hNd _).mono ?_); rintro e w' ⟨rfl, hb⟩; replace HB := HB.trans (hb.mono HB.size); clear hb)
        | (go_at_call 12; (with_reducible refine (hPc _).mono ?_); rintro e w' ⟨rfl, hb⟩; replace HB := HB.trans (hb.mono HB.size); clear hb)
        | (go_at_call 12; (with_reducible refine (hPd _).mono ?_); rintro e w' ⟨rfl, hb⟩; replace HB := HB.trans (hb.mono HB.size); clear hb)
        | (go_at_call 19; (with_reducible refine (hPS _).mono ?_); rintro e w' ⟨rfl, hb⟩; replace HB := HB.trans (hb.mono HB.size); clear hb)
        | (go_at_call 14; (with_reducible refine (hx _).mono ?_); rintro e w' ⟨rfl, rfl⟩)
        | (go_at_call 14; (with_reducible refine (hy _).mono ?_); rintro e w' ⟨rfl, rfl⟩)
        | (go_at_call 15; (with_reducible refine (hI _).mono ?_); rintro e w' ⟨rfl, rfl⟩)
        | (go_at_call 17; (with_reducible refine (hS _).mono ?_); rintro e w' ⟨rfl, rfl⟩))
      go_ret
      exact ⟨rfl, HB⟩
    · have hle' : decide ((encB x).size ≤ (encB y).size) = false := by simpa using hle
      go_enter Tryd.func7, Tryd.ntmps7
      go_wp2_with (first
        | (go_at_call 10; (with_reducible refine (sane_any _ HT.out).mono ?_); rintro e w' ⟨rfl, hb⟩; replace HB := HB.trans (hb.mono HB.size); clear hb)
        | (go_at_call 11; (with_reducible refine (hNc _).mono ?_); rintro e w' ⟨rfl, hb⟩; replace HB := HB.trans (hb.mono HB.size); clear hb)
        | (go_at_call 11; (with_reducible refine (hNd _).mono ?_); rintro e w' ⟨rfl, hb⟩; replace HB := HB.trans (hb.mono HB.size); clear hb)
        | (go_at_call 12; (with_reducible refine (hPc _).mono ?_); rintro e w' ⟨rfl, hb⟩; replace HB := HB.trans (hb.mono HB.size); clear hb)
        | (go_at_call 12; (with_reducible refine (hPd _).mono ?_); rintro e w' ⟨rfl, hb⟩; replace HB := HB.trans (hb.mono HB.size); clear hb)
        | (go_at_call 19; (with_reducible refine (hPS _).mono ?_); rintro e w' ⟨rfl, hb⟩; replace HB := HB.trans (hb.mono HB.size); clear hb)
        | (go_at_call 14; (with_reducible refine (hx _).mono ?_); rintro e w' ⟨rfl, rfl⟩)
        | (go_at_call 14; (with_reducible refine (hy _).mono ?_); rintro e w' ⟨rfl, rfl⟩)
        | (go_at_call 15; (with_reducible refine (hI _).mono ?_); rintro e w' ⟨rfl, rfl⟩)
        | (go_at_call 17; (with_reducible refine (hS _).mono ?_); rintro e w' ⟨rfl, rfl⟩))
      go_ret
      exact ⟨rfl, HB⟩
end Go.Proofs.YtmhpcbaoicboaaaDoor
