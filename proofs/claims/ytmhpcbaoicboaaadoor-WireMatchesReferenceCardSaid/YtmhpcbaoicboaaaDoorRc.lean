/- Walks of the reference implementation's PutString, Int and String. -/
import Derived.Test.YtmhpcbaoicboaaaDoorLb
import Derived.Test.YtmhpcbaoicboaaaDoorRa
namespace Go.Proofs.YtmhpcbaoicboaaaDoor
open Go.RowKit

theorem rputString_ok (s : ByteArray) (hs : s.size ≤ 65536) (w : World) :
    Calls Tryd.prog 20 #[.string s] w fun e w' => e = .returned (.tuple #[.string (encB s.size ++ s), .int .i64 0]) ∧ Below w.heap.size w w' := by
  have h1 : ¬ (65536 : Int) < s.size := by omega
  have hl := enc_len s.size
  have hz : (encB s.size).size ≤ 9 := by rw [encB_size]; exact hl
  have hp := fun w => rput_ok s.size (by omega) (by omega) w
  go_enter Tryd.func20, Tryd.ntmps20
  go_wp2_with (go_at_call 13; (with_reducible refine (hp _).mono ?_); rintro e w' ⟨rfl, hb⟩)
  go_ret2
  exact ⟨rfl, hb⟩

theorem rint_off (s : ByteArray) (hs : s.size ≤ maxLen) (a : Int) (w : World) (h : a < 0 ∨ (s.size : Int) < a) :
    Calls Tryd.prog 16 #[.string s, .int .i64 a] w fun e w' => e = .returned (.tuple #[.int .i64 0, .int .i64 0, .int .i64 2]) ∧ w = w' := by
  unfold maxLen at hs
  rcases h with h | h
  · go_enter Tryd.func16, Tryd.ntmps16
    go_wp2
    go_ret3
    exact ⟨rfl, rfl⟩
  · have h0 : ¬ a < 0 := by omega
    go_enter Tryd.func16, Tryd.ntmps16
    go_wp2
    go_ret3
    exact ⟨rfl, rfl⟩

/-- where a byte below 128 has come: what is read there is read nowhere else -/
theorem stop_some (l tl : List UInt8) (b : UInt8) (k acc k' : Nat) (n' : Int) (h9 : k < 9) (hb : b.toNat < 128) (hj : jn l 0 0 = jn (b :: tl) k acc) (hd : dI l = some (n', k')) :
    n' = unz (acc + b.toNat % 128 * 128 ^ k) ∧ k' = k + 1 := by
  by_cases h0 : b.toNat = 0 ∧ 0 < k
  · rw [dI, hj, jn_no tl b k acc h0.1 h0.2] at hd; cases hd
  · rw [dI, hj, jn_yes tl b k acc h9 hb h0] at hd
    simp only at hd
    split at hd
    · cases hd
    · simp only [Option.some.injEq, Prod.mk.injEq] at hd
      exact ⟨hd.1.symm, hd.2.symm⟩

theorem stop_none (l : List UInt8) (n : Int) (k : Nat) (h0 : -4611686018427387903 ≤ n) (h1 : n ≤ 4611686018427387903) (hd : dI l = none) : l.take k ≠ enc n := by
  intro h
  have e : l = enc n ++ l.drop k := by rw [← h, List.take_append_drop]
  rw [e, dI_enc n _ h0 h1] at hd
  cases hd

theorem go_past (l : List UInt8) (h : jn l 0 0 = none) : dI l = none := by rw [dI, h]

theorem acc_lt (k acc b : Nat) (h9 : k < 9) (ha : acc < 128 ^ k) : acc + b % 128 * 128 ^ k < 9223372036854775808 :=
  Nat.lt_of_lt_of_le (next_lt k acc b ha) (pow9 k h9)

set_option maxRecDepth 100000 in
set_option maxHeartbeats 1000000 in
theorem rint_some (s : ByteArray) (hs : s.size ≤ maxLen) (a : Nat) (ha : a ≤ s.size) (w : World) (n : Int) (kk : Nat) (hd : dI (s.data.toList.drop a) = some (n, kk)) :
    Calls Tryd.prog 16 #[.string s, .int .i64 a] w fun e w' => e = .returned (.tuple #[.int .i64 n, .int .i64 ((a : Int) + kk), .int .i64 0]) ∧ Below w.heap.size w w' := by
  obtain ⟨n0, n1, kk0, kk9, kkl, hx⟩ := dI_inv _ _ _ hd
  rw [List.length_drop, size_list] at kkl
  have hex : s.extract a (a + kk) = encB n := ext_list (by rw [extract_list, encB_list, ← hx, Nat.add_sub_cancel_left])
  have hp := fun w => rput_ok n n0 n1 w
  have HD := Lib.hid hd
  have HX := Lib.hid hex
  clear hd hx hex
  unfold maxLen at hs
  have q0 : decide ((a : Int) < 0) = false := by simp
  have q1 : ¬ ((a : Int) < 0) := by omega
  have q2 : ¬ ((s.size : Int) < a) := by omega
  go_enter Tryd.func16, Tryd.ntmps16
  go_wp2
  go_loop [7, 8] (fun z i => ∃ k acc : Nat, k ≤ 9 ∧ a + k ≤ s.size ∧ acc < 128 ^ k ∧ z = .int .u64 acc ∧ i = .int .i64 k ∧ jn (s.data.toList.drop a) 0 0 = jn (s.data.toList.drop (a + k)) k acc) (fun _ i => 9 - (intOf i).toNat)
  case atStart => exact ⟨0, 0, by omega, by omega, by omega, rfl, rfl, rfl⟩
  case round =>
    obtain ⟨k, acc, hk9, hk, hacc, rfl, rfl, hj⟩ := hrel
    have HJ := Lib.hid hj
    clear hj
    by_cases h9 : k < 9
    · by_cases hlt : a + k < s.size
      · have HDD := Lib.hid (drop_byte s (a + k) hlt)
        have hcb := s[a + k].toNat_lt
        have hw := next_wrap k acc s[a + k].toNat h9 hacc
        have hal := acc_lt k acc s[a + k].toNat h9 hacc
        have hnl := next_lt k acc s[a + k].toNat hacc
        obtain ⟨bt, hbt⟩ : ∃ bt : UInt8, s[a + k] = bt := ⟨_, rfl⟩
        rw [hbt] at hw hal hnl hcb
        have HB := Lib.hid hbt
        have HGO := Lib.hid (jn_go (s.data.toList.drop (a + k + 1)) bt k acc h9)
        have HST := Lib.hid (stop_some (s.data.toList.drop a) (s.data.toList.drop (a + k + 1)) bt k acc kk n h9)
        obtain ⟨c, hc⟩ : ∃ c : Nat, bt.toNat = c := ⟨_, rfl⟩
        rw [hc] at hw hal hnl hcb
        have hcb' : c < 256 := hcb
        clear hcb
        obtain ⟨z, hz⟩ : ∃ z : Nat, acc + c % 128 * 128 ^ k = z := ⟨_, rfl⟩
        rw [hz] at hw hal hnl
        have HZ := Lib.hid hz
        have HNL := Lib.hid hnl
        clear hz hnl
        by_cases hA : 128 ≤ c
        · go_wp2
          go_round
          case rel => exact ⟨k + 1, z, by omega, by omega, HNL.out, rfl, by go_num, by rw [HJ.out, HDD.out, HB.out, HGO.out (by rw [hc]; exact hA), hc, HZ.out]; rfl⟩
          case measure => simp [intOf]; omega
        · have hs1 := HST.out (by rw [hc]; omega) (by rw [HJ.out, HDD.out, HB.out]) HD.out
          rw [hc, HZ.out] at hs1
          obtain ⟨hn, hkk⟩ := hs1
          have HN := Lib.hid hn
          have HK := Lib.hid hkk
          clear hn hkk
          by_cases hod : z % 2 = 1
          · have ho : (((z : Nat) : Int) % 2 == 1) = true := by rw [beq_iff_eq]; omega
            have hnz : -((z : Int) / 2) - 1 = n := by have h := HN.out; rw [unz, if_pos hod] at h; omega
            have hxx : s.extract a (a + k + 1) = encB n := by have h := HX.out; rw [HK.out] at h; exact h
            clear hod
            go_wp2_with (go_at_call 13; (with_reducible refine (hp _).mono ?_); rintro e w' ⟨rfl, hb⟩)
            go_ret3
            exact ⟨ret3 rfl (by rw [HK.out]; omega) rfl, hb⟩
          · have ho : (((z : Nat) : Int) % 2 == 1) = false := by rw [beq_eq_false_iff_ne, ne_eq]; omega
            have hnz : (z : Int) / 2 = n := by have h := HN.out; rw [unz, if_neg hod] at h; omega
            have hxx : s.extract a (a + k + 1) = encB n := by have h := HX.out; rw [HK.out] at h; exact h
            clear hod
            go_wp2_with (go_at_call 13; (with_reducible refine (hp _).mono ?_); rintro e w' ⟨rfl, hb⟩)
            go_ret3
            exact ⟨ret3 rfl (by rw [HK.out]; omega) rfl, hb⟩
      · exfalso
        have h := HD.out
        rw [go_past _ (by rw [HJ.out, List.drop_of_length_le (by rw [size_list]; omega)]; rfl)] at h
        cases h
    · exfalso
      have h := HD.out
      have e : jn (s.data.toList.drop (a + k)) k acc = none := by
        cases s.data.toList.drop (a + k) with
        | nil => rfl
        | cons b l => rw [jn, if_pos (by omega)]
      rw [go_past _ (by rw [HJ.out]; exact e)] at h
      cases h

set_option maxRecDepth 100000 in
set_option maxHeartbeats 2000000 in
theorem rint_none (s : ByteArray) (hs : s.size ≤ maxLen) (a : Nat) (ha : a ≤ s.size) (w : World) (hd : dI (s.data.toList.drop a) = none) :
    Calls Tryd.prog 16 #[.string s, .int .i64 a] w fun e w' => e = .returned (.tuple #[.int .i64 0, .int .i64 0, .int .i64 10]) ∧ Below w.heap.size w w' := by
  have HD := Lib.hid hd
  clear hd
  unfold maxLen at hs
  have q0 : decide ((a : Int) < 0) = false := by simp
  have q1 : ¬ ((a : Int) < 0) := by omega
  have q2 : ¬ ((s.size : Int) < a) := by omega
  go_enter Tryd.func16, Tryd.ntmps16
  go_wp2
  go_loop [7, 8] (fun z i => ∃ k acc : Nat, k ≤ 9 ∧ a + k ≤ s.size ∧ acc < 128 ^ k ∧ z = .int .u64 acc ∧ i = .int .i64 k ∧ jn (s.data.toList.drop a) 0 0 = jn (s.data.toList.drop (a + k)) k acc) (fun _ i => 9 - (intOf i).toNat)
  case atStart => exact ⟨0, 0, by omega, by omega, by omega, rfl, rfl, rfl⟩
  case round =>
    obtain ⟨k, acc, hk9, hk, hacc, rfl, rfl, hj⟩ := hrel
    have HJ := Lib.hid hj
    clear hj
    by_cases h9 : k < 9
    · by_cases hlt : a + k < s.size
      · have HDD := Lib.hid (drop_byte s (a + k) hlt)
        have hcb := s[a + k].toNat_lt
        have hw := next_wrap k acc s[a + k].toNat h9 hacc
        have hal := acc_lt k acc s[a + k].toNat h9 hacc
        have hnl := next_lt k acc s[a + k].toNat hacc
        obtain ⟨bt, hbt⟩ : ∃ bt : UInt8, s[a + k] = bt := ⟨_, rfl⟩
        rw [hbt] at hw hal hnl hcb
        have HB := Lib.hid hbt
        have HGO := Lib.hid (jn_go (s.data.toList.drop (a + k + 1)) bt k acc h9)
        obtain ⟨c, hc⟩ : ∃ c : Nat, bt.toNat = c := ⟨_, rfl⟩
        rw [hc] at hw hal hnl hcb
        have hcb' : c < 256 := hcb
        clear hcb
        obtain ⟨z, hz⟩ : ∃ z : Nat, acc + c % 128 * 128 ^ k = z := ⟨_, rfl⟩
        rw [hz] at hw hal hnl
        have HZ := Lib.hid hz
        have HNL := Lib.hid hnl
        clear hz hnl
        by_cases hA : 128 ≤ c
        · go_wp2
          go_round
          case rel => exact ⟨k + 1, z, by omega, by omega, HNL.out, rfl, by go_num, by rw [HJ.out, HDD.out, HB.out, HGO.out (by rw [hc]; exact hA), hc, HZ.out]; rfl⟩
          case measure => simp [intOf]; omega
        · obtain ⟨n, hn⟩ : ∃ n, n = unz z := ⟨_, rfl⟩
          obtain ⟨m0, m1⟩ := unz_range z hal
          rw [← hn] at m0 m1
          have HN := Lib.hid hn
          clear hn
          by_cases hbad : n < -4611686018427387903
          · have hp := fun w => rput_bad n (.inl hbad) w
            by_cases hod : z % 2 = 1
            · have ho : (((z : Nat) : Int) % 2 == 1) = true := by rw [beq_iff_eq]; omega
              have hnz : -((z : Int) / 2) - 1 = n := by have h := HN.out; rw [unz, if_pos hod] at h; omega
              clear hod
              go_wp2_with (go_at_call 13; (with_reducible refine (hp _).mono ?_); rintro e w' ⟨rfl, rfl⟩)
              go_ret3
              exact ⟨rfl, Below.refl _ _⟩
            · have ho : (((z : Nat) : Int) % 2 == 1) = false := by rw [beq_eq_false_iff_ne, ne_eq]; omega
              have hnz : (z : Int) / 2 = n := by have h := HN.out; rw [unz, if_neg hod] at h; omega
              clear hod
              omega
          · have hp := fun w => rput_ok n (by omega) m1 w
            have hne : s.extract a (a + k + 1) ≠ encB n := fun e => stop_none (s.data.toList.drop a) n (k + 1) (by omega) m1 HD.out (by
              have h := congrArg (fun t : ByteArray => t.data.toList) e
              simp only [extract_list, encB_list] at h
              rw [← h]
              congr 1
              omega)
            have h1 : ((encB n).toList == (s.extract a (a + k + 1)).toList) = false := by
              rw [Bool.eq_false_iff]
              intro h
              have h := eq_of_beq h
              rw [Lib.toList_data, Lib.toList_data] at h
              exact hne (ext_list h.symm)
            have h2 : ((encB n).toList != (s.extract a (a + k + 1)).toList) = true := by rw [bne, h1]; rfl
            clear hne
            by_cases hod : z % 2 = 1
            · have ho : (((z : Nat) : Int) % 2 == 1) = true := by rw [beq_iff_eq]; omega
              have hnz : -((z : Int) / 2) - 1 = n := by have h := HN.out; rw [unz, if_pos hod] at h; omega
              clear hod
              go_wp2_with (go_at_call 13; (with_reducible refine (hp _).mono ?_); rintro e w' ⟨rfl, hb⟩)
              go_ret3
              exact ⟨rfl, hb⟩
            · have ho : (((z : Nat) : Int) % 2 == 1) = false := by rw [beq_eq_false_iff_ne, ne_eq]; omega
              have hnz : (z : Int) / 2 = n := by have h := HN.out; rw [unz, if_neg hod] at h; omega
              clear hod
              go_wp2_with (go_at_call 13; (with_reducible refine (hp _).mono ?_); rintro e w' ⟨rfl, hb⟩)
              go_ret3
              exact ⟨rfl, hb⟩
      · go_wp2
        go_ret3
        exact ⟨rfl, Below.refl _ _⟩
    · go_wp2
      go_ret3
      exact ⟨rfl, Below.refl _ _⟩

theorem rstring_err (s : ByteArray) (a r : Int) (w : World) (hr : r = 2 ∨ r = 10)
    (hi : ∀ w, Calls Tryd.prog 16 #[.string s, .int .i64 a] w fun e w' => e = .returned (.tuple #[.int .i64 0, .int .i64 0, .int .i64 r]) ∧ Below w.heap.size w w') :
    Calls Tryd.prog 18 #[.string s, .int .i64 a] w fun e w' => e = .returned (.tuple #[.string ⟨#[]⟩, .int .i64 0, .int .i64 r]) ∧ Below w.heap.size w w' := by
  rcases hr with rfl | rfl
  · go_enter Tryd.func18, Tryd.ntmps18
    go_wp2_with (go_at_call 16; (with_reducible refine (hi _).mono ?_); rintro e w' ⟨rfl, hb⟩)
    go_ret3
    exact ⟨rfl, hb⟩
  · go_enter Tryd.func18, Tryd.ntmps18
    go_wp2_with (go_at_call 16; (with_reducible refine (hi _).mono ?_); rintro e w' ⟨rfl, hb⟩)
    go_ret3
    exact ⟨rfl, hb⟩

theorem rstring_bad (s : ByteArray) (_hs : s.size ≤ maxLen) (a n : Int) (b : Nat) (w : World) (hb : b ≤ s.size) (hn : n < 0 ∨ 65536 < n ∨ (s.size : Int) - b < n)
    (hi : ∀ w, Calls Tryd.prog 16 #[.string s, .int .i64 a] w fun e w' => e = .returned (.tuple #[.int .i64 n, .int .i64 b, .int .i64 0]) ∧ Below w.heap.size w w') :
    Calls Tryd.prog 18 #[.string s, .int .i64 a] w fun e w' => e = .returned (.tuple #[.string ⟨#[]⟩, .int .i64 0, .int .i64 10]) ∧ Below w.heap.size w w' := by
  unfold maxLen at _hs
  by_cases h0 : n < 0
  · go_enter Tryd.func18, Tryd.ntmps18
    go_wp2_with (go_at_call 16; (with_reducible refine (hi _).mono ?_); rintro e w' ⟨rfl, hb⟩)
    go_ret3
    exact ⟨rfl, hb⟩
  · by_cases h1 : 65536 < n
    · clear hn
      go_enter Tryd.func18, Tryd.ntmps18
      go_wp2_with (go_at_call 16; (with_reducible refine (hi _).mono ?_); rintro e w' ⟨rfl, hb⟩)
      go_ret3
      exact ⟨rfl, hb⟩
    · have h2 : (s.size : Int) - b < n := by omega
      clear hn
      go_enter Tryd.func18, Tryd.ntmps18
      go_wp2_with (go_at_call 16; (with_reducible refine (hi _).mono ?_); rintro e w' ⟨rfl, hb⟩)
      go_ret3
      exact ⟨rfl, hb⟩

theorem rstring_ok (s : ByteArray) (_hs : s.size ≤ maxLen) (a : Int) (n b : Nat) (w : World) (h1 : n ≤ 65536) (h2 : b + n ≤ s.size)
    (hi : ∀ w, Calls Tryd.prog 16 #[.string s, .int .i64 a] w fun e w' => e = .returned (.tuple #[.int .i64 n, .int .i64 b, .int .i64 0]) ∧ Below w.heap.size w w') :
    Calls Tryd.prog 18 #[.string s, .int .i64 a] w fun e w' => e = .returned (.tuple #[.string (s.extract b (b + n)), .int .i64 ((b + n : Nat) : Int), .int .i64 0]) ∧ Below w.heap.size w w' := by
  unfold maxLen at _hs
  have h3 : ¬ (s.size : Int) - b < n := by omega
  have h4 : (b : Int) + n ≤ s.size := by omega
  go_enter Tryd.func18, Tryd.ntmps18
  go_wp2_with (go_at_call 16; (with_reducible refine (hi _).mono ?_); rintro e w' ⟨rfl, hb⟩)
  go_ret3
  exact ⟨rfl, hb⟩

theorem keep_world {e e' : Ending} {w w' : World} (h : e = e' ∧ w = w') : e = e' ∧ Below w.heap.size w w' := by
  obtain ⟨h1, rfl⟩ := h
  exact ⟨h1, Below.refl _ _⟩

/-- the program's Int and the reference's agree at every offset -/
theorem int_both (s : ByteArray) (hs : s.size ≤ maxLen) (a : Int) : ∃ n b r : Int,
    (∀ w, Calls Tryd.prog 15 #[.string s, .int .i64 a] w fun e w' => e = .returned (.tuple #[.int .i64 n, .int .i64 b, .int .i64 r]) ∧ w = w') ∧
    (∀ w, Calls Tryd.prog 16 #[.string s, .int .i64 a] w fun e w' => e = .returned (.tuple #[.int .i64 n, .int .i64 b, .int .i64 r]) ∧ Below w.heap.size w w') ∧
    ((r = 0 ∧ ∃ m : Nat, b = m ∧ m ≤ s.size) ∨ ((r = 2 ∨ r = 10) ∧ n = 0 ∧ b = 0)) := by
  by_cases h : a < 0 ∨ (s.size : Int) < a
  · exact ⟨0, 0, 2, fun w => int_off s hs a w h, fun w => (rint_off s hs a w h).mono fun _ _ => keep_world, .inr ⟨.inl rfl, rfl, rfl⟩⟩
  · obtain ⟨k, rfl⟩ : ∃ k : Nat, a = k := ⟨a.toNat, by omega⟩
    cases hd : dI (s.data.toList.drop k) with
    | none => exact ⟨0, 0, 10, fun w => int_none s hs k (by omega) w hd, fun w => rint_none s hs k (by omega) w hd, .inr ⟨.inr rfl, rfl, rfl⟩⟩
    | some p =>
      obtain ⟨n, j⟩ := p
      obtain ⟨_, _, _, _, hl, _⟩ := dI_inv _ _ _ hd
      rw [List.length_drop, size_list] at hl
      exact ⟨n, (k : Int) + j, 0, fun w => int_some s hs k (by omega) w n j hd, fun w => rint_some s hs k (by omega) w n j hd, .inl ⟨rfl, k + j, by omega, by omega⟩⟩

/-- so do both Strings -/
theorem string_both (s : ByteArray) (hs : s.size ≤ maxLen) (a : Int) : ∃ (v : ByteArray) (b r : Int),
    (∀ w, Calls Tryd.prog 17 #[.string s, .int .i64 a] w fun e w' => e = .returned (.tuple #[.string v, .int .i64 b, .int .i64 r]) ∧ Below w.heap.size w w') ∧
    (∀ w, Calls Tryd.prog 18 #[.string s, .int .i64 a] w fun e w' => e = .returned (.tuple #[.string v, .int .i64 b, .int .i64 r]) ∧ Below w.heap.size w w') := by
  obtain ⟨n, b, r, h1, h2, h3⟩ := int_both s hs a
  rcases h3 with ⟨rfl, m, rfl, hm⟩ | ⟨hr, rfl, rfl⟩
  · by_cases hn : n < 0 ∨ 65536 < n ∨ (s.size : Int) - m < n
    · exact ⟨⟨#[]⟩, 0, 10, fun w => (string_bad s hs a n m w hm hn h1).mono fun _ _ => keep_world, fun w => rstring_bad s hs a n m w hm hn h2⟩
    · obtain ⟨j, rfl⟩ : ∃ j : Nat, n = j := ⟨n.toNat, by omega⟩
      exact ⟨s.extract m (m + j), ((m + j : Nat) : Int), 0, fun w => string_ok s hs a j m w (by omega) (by omega) h1, fun w => rstring_ok s hs a j m w (by omega) (by omega) h2⟩
  · exact ⟨⟨#[]⟩, 0, r, fun w => (string_err s a r w hr h1).mono fun _ _ => keep_world, fun w => rstring_err s a r w hr h2⟩

/-- so do both PutInts -/
theorem putInt_both (m : Int) : ∃ (v : ByteArray) (r : Int),
    (∀ w, Calls Tryd.prog 12 #[.int .i64 m] w fun e w' => e = .returned (.tuple #[.string v, .int .i64 r]) ∧ Below w.heap.size w w') ∧
    (∀ w, Calls Tryd.prog 13 #[.int .i64 m] w fun e w' => e = .returned (.tuple #[.string v, .int .i64 r]) ∧ Below w.heap.size w w') := by
  by_cases h : m < -4611686018427387903 ∨ 4611686018427387903 < m
  · exact ⟨⟨#[]⟩, 10, fun w => (putInt_bad m h w).mono fun _ _ => keep_world, fun w => (rput_bad m h w).mono fun _ _ => keep_world⟩
  · exact ⟨encB m, 0, fun w => putInt_ok m (by omega) (by omega) w, fun w => rput_ok m (by omega) (by omega) w⟩
end Go.Proofs.YtmhpcbaoicboaaaDoor
