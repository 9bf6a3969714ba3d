/- The walk of the law WireUnique. -/
import Derived.Test.YtmhpcbaoicboaaaDoorLb
namespace Go.Proofs.YtmhpcbaoicboaaaDoor
open Go.RowKit

/-- a string, cut to 300 bytes -/
theorem cut300 (s : ByteArray) : ∃ p : ByteArray, s.extract 0 (min (s.size : Int) 300).toNat = p ∧ p.size ≤ 300 := ⟨_, rfl, by rw [ByteArray.size_extract]; omega⟩

/-- what Int reads at an offset, and that it is the only encoding -/
theorem int_at (s : ByteArray) (hs : s.size ≤ maxLen) (a : Nat) (ha : a ≤ s.size) :
    (∃ (n : Int) (b : Nat), (∀ w, Calls Tryd.prog 15 #[.string s, .int .i64 a] w fun e w' => e = .returned (.tuple #[.int .i64 n, .int .i64 b, .int .i64 0]) ∧ w = w') ∧ -4611686018427387903 ≤ n ∧ n ≤ 4611686018427387903 ∧ a ≤ b ∧ b ≤ s.size ∧ s.extract a b = encB n) ∨
    (∀ w, Calls Tryd.prog 15 #[.string s, .int .i64 a] w fun e w' => e = .returned (.tuple #[.int .i64 0, .int .i64 0, .int .i64 10]) ∧ w = w') := by
  cases h : dI (s.data.toList.drop a) with
  | none => exact .inr (fun w => int_none s hs a ha w h)
  | some p =>
    obtain ⟨n, k⟩ := p
    obtain ⟨h0, h1, h2, h3, h4, h5⟩ := dI_inv _ _ _ h
    rw [List.length_drop, size_list] at h4
    refine .inl ⟨n, a + k, fun w => ?_, h0, h1, by omega, by omega, ext_list ?_⟩
    · have hi := int_some s hs a ha w n k h
      rw [← Int.natCast_add] at hi
      exact hi
    · rw [extract_list, encB_list, ← h5, Nat.add_sub_cancel_left]

/-- what String reads at an offset, and that it is the only encoding -/
theorem string_at (s : ByteArray) (hs : s.size ≤ maxLen) (a : Nat) (ha : a ≤ s.size) :
    (∃ (v : ByteArray) (b : Nat), (∀ w, Calls Tryd.prog 17 #[.string s, .int .i64 a] w fun e w' => e = .returned (.tuple #[.string v, .int .i64 b, .int .i64 0]) ∧ Below w.heap.size w w') ∧ v.size ≤ 65536 ∧ a ≤ b ∧ b ≤ s.size ∧ s.extract a b = encB v.size ++ v) ∨
    (∀ w, Calls Tryd.prog 17 #[.string s, .int .i64 a] w fun e w' => e = .returned (.tuple #[.string ⟨#[]⟩, .int .i64 0, .int .i64 10]) ∧ w = w') := by
  rcases int_at s hs a ha with ⟨n, b, hi, h0, h1, h2, h3, h4⟩ | hi
  · by_cases hn : n < 0 ∨ 65536 < n ∨ (s.size : Int) - b < n
    · exact .inr (fun w => string_bad s hs a n b w h3 hn hi)
    · obtain ⟨m, rfl⟩ : ∃ m : Nat, n = m := ⟨n.toNat, by omega⟩
      have hz : (s.extract b (b + m)).size = m := by rw [ByteArray.size_extract]; omega
      refine .inl ⟨s.extract b (b + m), b + m, fun w => string_ok s hs a m b w (by omega) (by omega) hi, by omega, by omega, by omega, ?_⟩
      rw [hz, ← h4]
      apply ext_list
      rw [list_append, extract_list, extract_list, extract_list]
      have e1 : b + m - a = (b - a) + m := by omega
      have e2 : b + m - b = m := by omega
      rw [e1, e2, List.take_add, List.drop_drop]
      congr 3
      omega
  · exact .inr (fun w => string_err s a 10 w (.inr rfl) hi)

theorem one_byte (f : UInt8) (W : World) : (convert 38 9 (.slice (some ⟨W.heap.size, 0, none⟩) 1 1)).run Tryd.prog (W.alloc (.cells #[.int .u8 f.toNat] 5)).drew = .ok (.string ⟨#[f]⟩) (W.alloc (.cells #[.int .u8 f.toNat] 5)).drew :=
  run_convert_bytes_back (P := Tryd.prog) (W.alloc (.cells #[.int .u8 f.toNat] 5)).drew 38 9 5 ⟨W.heap.size, 0, none⟩ 1 [f] Tryd.underlying38 Tryd.underlying5 Tryd.underlying9 (fun j hj => by
    have h0 : j = 0 := by simpa using hj
    subst h0
    exact (new_l W (.int .u8 f.toNat) 5).1)

set_option maxRecDepth 100000 in
set_option maxHeartbeats 1000000 in
theorem unique_walk (s : ByteArray) (k : Int) (f : UInt8) (hs : s.size ≤ maxLen) (hk0 : -9223372036854775808 ≤ k) (hk1 : k ≤ 9223372036854775807) (w : World) (hT : Tab w) :
    Calls Tryd.prog 5 #[.string s, .int .i64 k, .int .u8 f.toNat] w fun e w' => e = .returned (.bool true) ∧ Below w.heap.size w w' := by
  unfold maxLen at hs
  have HB := Below.refl w.heap.size w
  have HT := Lib.hid hT
  clear hT
  obtain ⟨p, hp, hp2⟩ := cut300 s
  obtain ⟨t, ht⟩ : ∃ t : ByteArray, (⟨#[f]⟩ : ByteArray) ++ p = t := ⟨_, rfl⟩
  have ht2 : t.size ≤ 301 := by rw [← ht, ByteArray.size_append]; show 1 + p.size ≤ 301; omega
  obtain ⟨x0, x1⟩ := pk_range k ((t.size : Int) + 1) (by omega)
  have hpick := fun w => pick_any k ((t.size : Int) + 1) w hk0 hk1 (by omega) (by omega)
  obtain ⟨kk, hkk⟩ : ∃ kk : Nat, pk k ((t.size : Int) + 1) = kk := ⟨(pk k ((t.size : Int) + 1)).toNat, by omega⟩
  rw [hkk] at x1 hpick
  have hkt : kk ≤ t.size := by omega
  clear x0 x1 hkk
  have hcv := one_byte f
  have hmax : t.size ≤ maxLen := by unfold maxLen; omega
  go_enter Tryd.func5, Tryd.ntmps5
  go_wp2_with (first
    | (go_at_call 10; (with_reducible refine (sane_any _ HT.out).mono ?_); rintro e w' ⟨rfl, hb⟩; replace HB := HB.trans (hb.mono HB.size); clear hb))
  go_region
  clear hcv hp
  obtain ⟨W1, hW1⟩ : ∃ W1, (w'.alloc (.cells #[.int .u8 f.toNat] 5)).drew = W1 := ⟨_, rfl⟩
  have HB1 : Below w.heap.size w W1 := by rw [← hW1]; exact (HB.alloc HB.size _).drew
  rw [hW1]
  clear hW1 ht HB HT
  go_wp2_with (go_at_call 14; (with_reducible refine (hpick _).mono ?_); rintro e w' ⟨rfl, rfl⟩)
  obtain ⟨g0, g1⟩ := two_cells W1 (.int .i64 0) (.int .i64 kk) 3
  have hB2 : Below w.heap.size w (W1.alloc (.cells #[.int .i64 0, .int .i64 kk] 3)) := HB1.alloc HB1.size _
  have hlt1 : W1.heap.size < (W1.alloc (.cells #[.int .i64 0, .int .i64 kk] 3)).heap.size := by simp
  obtain ⟨B, hB⟩ : ∃ B, W1.heap.size = B := ⟨_, rfl⟩
  obtain ⟨W2, hW2⟩ : ∃ W2, W1.alloc (.cells #[.int .i64 0, .int .i64 kk] 3) = W2 := ⟨_, rfl⟩
  rw [hB] at g0 g1 hlt1 ⊢
  rw [hW2] at g0 g1 hB2 hlt1 ⊢
  clear hB hW2 HB1
  go_loopw [38] (fun i wr => ∃ j : Nat, j ≤ 2 ∧ i = .int .i64 j ∧ Below w.heap.size w wr ∧ B < wr.heap.size ∧ wr.cell? ⟨B, 0, none⟩ = some (.int .i64 0) ∧ wr.cell? ⟨B, 1, none⟩ = some (.int .i64 kk)) (fun i _ => 2 - (intOf i).toNat)
  case atStart => exact ⟨0, by omega, rfl, hB2, hlt1, g0, g1⟩
  case round =>
    obtain ⟨j, hj, rfl, hR, hBl, c0, c1⟩ := hrel
    clear g0 g1 hB2 hlt1
    by_cases hj2 : j < 2
    · obtain ⟨a, ha, hca⟩ : ∃ a : Nat, a ≤ t.size ∧ wr.cell? ⟨B, j, none⟩ = some (.int .i64 a) := by
        have e : j = 0 ∨ j = 1 := by omega
        rcases e with rfl | rfl
        · exact ⟨0, by omega, c0⟩
        · exact ⟨kk, hkt, c1⟩
      have C := Lib.hid (And.intro c0 c1)
      clear c0 c1
      rcases int_at t hmax a ha with ⟨n, b, hI, n0, n1, b0, b1, hx⟩ | hI
      · have hPI := fun w => putInt_ok n n0 n1 w
        rcases string_at t hmax a ha with ⟨v, d, hS, v0, d0, d1, hy⟩ | hS
        · have hPS := fun w => putString_ok v v0 w
          go_wp2_with (first
            | (go_at_call 15; (with_reducible refine (hI _).mono ?_); rintro e w' ⟨rfl, rfl⟩)
            | (go_at_call 12; (with_reducible refine (hPI _).mono ?_); rintro e w' ⟨rfl, hb⟩; replace C := Lib.hid (And.intro (cell_later hb C.out.1) (cell_later hb C.out.2)); replace hR := hR.trans (hb.mono hR.size); replace hBl := Nat.lt_of_lt_of_le hBl hb.size; clear hb)
            | (go_at_call 17; (with_reducible refine (hS _).mono ?_); rintro e w' ⟨rfl, hb⟩; replace C := Lib.hid (And.intro (cell_later hb C.out.1) (cell_later hb C.out.2)); replace hR := hR.trans (hb.mono hR.size); replace hBl := Nat.lt_of_lt_of_le hBl hb.size; clear hb)
            | (go_at_call 19; (with_reducible refine (hPS _).mono ?_); rintro e w' ⟨rfl, hb⟩; replace C := Lib.hid (And.intro (cell_later hb C.out.1) (cell_later hb C.out.2)); replace hR := hR.trans (hb.mono hR.size); replace hBl := Nat.lt_of_lt_of_le hBl hb.size; clear hb))
          go_roundw
          case rel => exact ⟨j + 1, by omega, by go_num, hR, hBl, C.out.1, C.out.2⟩
          case measure => simp [intOf]; omega
        · have hPS := fun w => putString_ok ⟨#[]⟩ (show (0 : Nat) ≤ 65536 by omega) w
          go_wp2_with (first
            | (go_at_call 15; (with_reducible refine (hI _).mono ?_); rintro e w' ⟨rfl, rfl⟩)
            | (go_at_call 12; (with_reducible refine (hPI _).mono ?_); rintro e w' ⟨rfl, hb⟩; replace C := Lib.hid (And.intro (cell_later hb C.out.1) (cell_later hb C.out.2)); replace hR := hR.trans (hb.mono hR.size); replace hBl := Nat.lt_of_lt_of_le hBl hb.size; clear hb)
            | (go_at_call 17; (with_reducible refine (hS _).mono ?_); rintro e w' ⟨rfl, rfl⟩)
            | (go_at_call 19; (with_reducible refine (hPS _).mono ?_); rintro e w' ⟨rfl, hb⟩; replace C := Lib.hid (And.intro (cell_later hb C.out.1) (cell_later hb C.out.2)); replace hR := hR.trans (hb.mono hR.size); replace hBl := Nat.lt_of_lt_of_le hBl hb.size; clear hb))
          go_roundw
          case rel => exact ⟨j + 1, by omega, by go_num, hR, hBl, C.out.1, C.out.2⟩
          case measure => simp [intOf]; omega
      · have hPI := fun w => putInt_ok 0 (by omega) (by omega) w
        rcases string_at t hmax a ha with ⟨v, d, hS, v0, d0, d1, hy⟩ | hS
        · have hPS := fun w => putString_ok v v0 w
          go_wp2_with (first
            | (go_at_call 15; (with_reducible refine (hI _).mono ?_); rintro e w' ⟨rfl, rfl⟩)
            | (go_at_call 12; (with_reducible refine (hPI _).mono ?_); rintro e w' ⟨rfl, hb⟩; replace C := Lib.hid (And.intro (cell_later hb C.out.1) (cell_later hb C.out.2)); replace hR := hR.trans (hb.mono hR.size); replace hBl := Nat.lt_of_lt_of_le hBl hb.size; clear hb)
            | (go_at_call 17; (with_reducible refine (hS _).mono ?_); rintro e w' ⟨rfl, hb⟩; replace C := Lib.hid (And.intro (cell_later hb C.out.1) (cell_later hb C.out.2)); replace hR := hR.trans (hb.mono hR.size); replace hBl := Nat.lt_of_lt_of_le hBl hb.size; clear hb)
            | (go_at_call 19; (with_reducible refine (hPS _).mono ?_); rintro e w' ⟨rfl, hb⟩; replace C := Lib.hid (And.intro (cell_later hb C.out.1) (cell_later hb C.out.2)); replace hR := hR.trans (hb.mono hR.size); replace hBl := Nat.lt_of_lt_of_le hBl hb.size; clear hb))
          go_roundw
          case rel => exact ⟨j + 1, by omega, by go_num, hR, hBl, C.out.1, C.out.2⟩
          case measure => simp [intOf]; omega
        · have hPS := fun w => putString_ok ⟨#[]⟩ (show (0 : Nat) ≤ 65536 by omega) w
          go_wp2_with (first
            | (go_at_call 15; (with_reducible refine (hI _).mono ?_); rintro e w' ⟨rfl, rfl⟩)
            | (go_at_call 12; (with_reducible refine (hPI _).mono ?_); rintro e w' ⟨rfl, hb⟩; replace C := Lib.hid (And.intro (cell_later hb C.out.1) (cell_later hb C.out.2)); replace hR := hR.trans (hb.mono hR.size); replace hBl := Nat.lt_of_lt_of_le hBl hb.size; clear hb)
            | (go_at_call 17; (with_reducible refine (hS _).mono ?_); rintro e w' ⟨rfl, rfl⟩)
            | (go_at_call 19; (with_reducible refine (hPS _).mono ?_); rintro e w' ⟨rfl, hb⟩; replace C := Lib.hid (And.intro (cell_later hb C.out.1) (cell_later hb C.out.2)); replace hR := hR.trans (hb.mono hR.size); replace hBl := Nat.lt_of_lt_of_le hBl hb.size; clear hb))
          go_roundw
          case rel => exact ⟨j + 1, by omega, by go_num, hR, hBl, C.out.1, C.out.2⟩
          case measure => simp [intOf]; omega
    · go_wp2
      go_ret
      exact ⟨rfl, hR⟩

theorem unique_byte (s : ByteArray) (k f : Int) (hs : s.size ≤ maxLen) (hk0 : -9223372036854775808 ≤ k) (hk1 : k ≤ 9223372036854775807) (hf : 0 ≤ f ∧ f ≤ 255) (w : World) (hT : Tab w) :
    Calls Tryd.prog 5 #[.string s, .int .i64 k, .int .u8 f] w fun e w' => e = .returned (.bool true) ∧ Below w.heap.size w w' := by
  have e : (((UInt8.ofNat f.toNat).toNat : Nat) : Int) = f := by rw [UInt8.toNat_ofNat']; omega
  have h := unique_walk s k (UInt8.ofNat f.toNat) hs hk0 hk1 w hT
  rw [e] at h
  exact h
end Go.Proofs.YtmhpcbaoicboaaaDoor
