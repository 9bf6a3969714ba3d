/- The walk of the law WireMatchesReference. -/
import Derived.Test.YtmhpcbaoicboaaaDoorRb
import Derived.Test.YtmhpcbaoicboaaaDoorRc
namespace Go.Proofs.YtmhpcbaoicboaaaDoor
open Go.RowKit

theorem upto300 (s : ByteArray) : ∃ p : ByteArray, s.extract 0 (min (s.size : Int) 300).toNat = p ∧ p.size ≤ 300 := ⟨_, rfl, by rw [ByteArray.size_extract]; omega⟩

set_option maxRecDepth 100000 in
set_option maxHeartbeats 4000000 in
theorem matches_walk (n : Int) (s : ByteArray) (k : Int) (hn0 : -9223372036854775808 ≤ n) (hn1 : n ≤ 9223372036854775807) (hs : s.size ≤ maxLen) (hk0 : -9223372036854775808 ≤ k) (hk1 : k ≤ 9223372036854775807) (w : World) (hT : Tab w) :
    Calls Tryd.prog 3 #[.int .i64 n, .string s, .int .i64 k] w fun e w' => e = .returned (.bool true) ∧ Below w.heap.size w w' := by
  unfold maxLen at hs
  have HB := Below.refl w.heap.size w
  have HT := Lib.hid hT
  clear hT
  obtain ⟨p, hp, hp2⟩ := upto300 s
  have hmax : p.size ≤ maxLen := maxLen_ge _ (by omega)
  have hN := fun w => number_any n hn0 hn1 w
  have hP := fun w => pick_any k ((p.size : Int) + 2) w hk0 hk1 (by omega) (by omega)
  have hQ := fun w => putString_ok p (by omega) w
  have hR := fun w => rputString_ok p (by omega) w
  have hS := fun w ht => sum_any p hmax w ht
  have hU := fun w => rsum_any p hmax w
  generalize ck p.data.toList = cv at *
  generalize pk k ((p.size : Int) + 2) = kp at *
  generalize nf n = nn at *
  go_enter Tryd.func3, Tryd.ntmps3
  go_wp2_with (first
    | (go_at_call 10; (with_reducible refine (sane_any _ HT.out).mono ?_); rintro e w' ⟨rfl, hb⟩; replace HB := HB.trans (hb.mono HB.size); replace HT := Lib.hid (HT.out.below hb); clear hb)
    | (go_at_call 11; (with_reducible refine (hN _).mono ?_); rintro e w' ⟨rfl, hb⟩; replace HB := HB.trans (hb.mono HB.size); replace HT := Lib.hid (HT.out.below hb); clear hb))
  clear hN
  obtain ⟨g0, g1⟩ := two_cells w' (.int .i64 n) (.int .i64 nn) 3
  have hB2 : Below w.heap.size w (w'.alloc (.cells #[.int .i64 n, .int .i64 nn] 3)) := HB.alloc HB.size _
  have hT2 := HT.out.below ((Below.refl _ w').alloc (Nat.le_refl _) (.cells #[.int .i64 n, .int .i64 nn] 3))
  have hlt1 : w'.heap.size < (w'.alloc (.cells #[.int .i64 n, .int .i64 nn] 3)).heap.size := by simp
  obtain ⟨B, hB⟩ : ∃ B, w'.heap.size = B := ⟨_, rfl⟩
  obtain ⟨W2, hW2⟩ : ∃ W2, w'.alloc (.cells #[.int .i64 n, .int .i64 nn] 3) = W2 := ⟨_, rfl⟩
  rw [hB] at g0 g1 hlt1 ⊢
  rw [hW2] at g0 g1 hB2 hT2 hlt1 ⊢
  clear hB hW2 HB HT
  go_loopw [44] (fun i wr => ∃ j : Nat, j ≤ 2 ∧ i = .int .i64 j ∧ Below w.heap.size w wr ∧ Tab wr ∧ wr.cell? ⟨B, 0, none⟩ = some (.int .i64 n) ∧ wr.cell? ⟨B, 1, none⟩ = some (.int .i64 nn)) (fun i _ => 2 - (intOf i).toNat)
  case atStart => exact ⟨0, by omega, rfl, hB2, hT2, g0, g1⟩
  case round =>
    obtain ⟨j, hj, rfl, hBr, hTr, c0, c1⟩ := hrel
    clear g0 g1 hB2 hT2 hlt1
    by_cases hj2 : j < 2
    · obtain ⟨m, hca⟩ : ∃ m : Int, wr.cell? ⟨B, j, none⟩ = some (.int .i64 m) := by
        have e : j = 0 ∨ j = 1 := by omega
        rcases e with rfl | rfl
        · exact ⟨n, c0⟩
        · exact ⟨nn, c1⟩
      obtain ⟨v, r, hv1, hv2⟩ := putInt_both m
      have C := Lib.hid (And.intro c0 (And.intro c1 (And.intro hBr hTr)))
      clear c0 c1 hBr hTr
      go_wp2_with (first
        | (go_at_call 12; (with_reducible refine (hv1 _).mono ?_); rintro e w' ⟨rfl, hb⟩; replace C := Lib.hid (And.intro (cell_later hb C.out.1) (And.intro (cell_later hb C.out.2.1) (And.intro (C.out.2.2.1.trans (hb.mono C.out.2.2.1.size)) (C.out.2.2.2.below hb)))); clear hb)
        | (go_at_call 13; (with_reducible refine (hv2 _).mono ?_); rintro e w' ⟨rfl, hb⟩; replace C := Lib.hid (And.intro (cell_later hb C.out.1) (And.intro (cell_later hb C.out.2.1) (And.intro (C.out.2.2.1.trans (hb.mono C.out.2.2.1.size)) (C.out.2.2.2.below hb)))); clear hb))
      go_roundw
      case rel => exact ⟨j + 1, by omega, by go_num, C.out.2.2.1, C.out.2.2.2, C.out.1, C.out.2.1⟩
      case measure => simp [intOf]; omega
    · have ej : j = 2 := by omega
      subst ej
      clear c0 c1
      obtain ⟨wo, rfl⟩ : ∃ wo : World, wo = wr := ⟨_, rfl⟩
      go_wp2_with (go_at_call 14; (with_reducible refine (hP _).mono ?_); rintro e w' ⟨rfl, rfl⟩)
      clear hP
      obtain ⟨g0, g1⟩ := two_cells wo (.int .i64 k) (.int .i64 kp) 3
      have hB2 : Below w.heap.size w (wo.alloc (.cells #[.int .i64 k, .int .i64 kp] 3)) := hBr.alloc hBr.size _
      have hT2 := hTr.below ((Below.refl _ wo).alloc (Nat.le_refl _) (.cells #[.int .i64 k, .int .i64 kp] 3))
      obtain ⟨D, hD⟩ : ∃ D, wo.heap.size = D := ⟨_, rfl⟩
      obtain ⟨W3, hW3⟩ : ∃ W3, wo.alloc (.cells #[.int .i64 k, .int .i64 kp] 3) = W3 := ⟨_, rfl⟩
      rw [hD] at g0 g1 ⊢
      rw [hW3] at g0 g1 hB2 hT2 ⊢
      clear hD hW3 hBr hTr
      go_loopw [75] (fun i wr => ∃ j : Nat, j ≤ 2 ∧ i = .int .i64 j ∧ Below w.heap.size w wr ∧ Tab wr ∧ wr.cell? ⟨D, 0, none⟩ = some (.int .i64 k) ∧ wr.cell? ⟨D, 1, none⟩ = some (.int .i64 kp)) (fun i _ => 2 - (intOf i).toNat)
      case atStart => exact ⟨0, by omega, rfl, hB2, hT2, g0, g1⟩
      case round =>
        obtain ⟨j, hj, rfl, hBr, hTr, c0, c1⟩ := hrel
        clear g0 g1 hB2 hT2
        by_cases hj2 : j < 2
        · obtain ⟨m, hca⟩ : ∃ m : Int, wr.cell? ⟨D, j, none⟩ = some (.int .i64 m) := by
            have e : j = 0 ∨ j = 1 := by omega
            rcases e with rfl | rfl
            · exact ⟨k, c0⟩
            · exact ⟨kp, c1⟩
          obtain ⟨x, y, z, hv1, hv2, _⟩ := int_both p hmax m
          obtain ⟨x', y', z', hv3, hv4⟩ := string_both p hmax m
          have C := Lib.hid (And.intro c0 (And.intro c1 (And.intro hBr hTr)))
          clear c0 c1 hBr hTr
          go_wp2_with (first
            | (go_at_call 15; (with_reducible refine (hv1 _).mono ?_); rintro e w' ⟨rfl, rfl⟩)
            | (go_at_call 16; (with_reducible refine (hv2 _).mono ?_); rintro e w' ⟨rfl, hb⟩; replace C := Lib.hid (And.intro (cell_later hb C.out.1) (And.intro (cell_later hb C.out.2.1) (And.intro (C.out.2.2.1.trans (hb.mono C.out.2.2.1.size)) (C.out.2.2.2.below hb)))); clear hb)
            | (go_at_call 17; (with_reducible refine (hv3 _).mono ?_); rintro e w' ⟨rfl, hb⟩; replace C := Lib.hid (And.intro (cell_later hb C.out.1) (And.intro (cell_later hb C.out.2.1) (And.intro (C.out.2.2.1.trans (hb.mono C.out.2.2.1.size)) (C.out.2.2.2.below hb)))); clear hb)
            | (go_at_call 18; (with_reducible refine (hv4 _).mono ?_); rintro e w' ⟨rfl, hb⟩; replace C := Lib.hid (And.intro (cell_later hb C.out.1) (And.intro (cell_later hb C.out.2.1) (And.intro (C.out.2.2.1.trans (hb.mono C.out.2.2.1.size)) (C.out.2.2.2.below hb)))); clear hb))
          go_roundw
          case rel => exact ⟨j + 1, by omega, by go_num, C.out.2.2.1, C.out.2.2.2, C.out.1, C.out.2.1⟩
          case measure => simp [intOf]; omega
        · have ej : j = 2 := by omega
          subst ej
          clear c0 c1
          have C := Lib.hid (And.intro hBr hTr)
          clear hBr hTr
          go_wp2_with (first
            | (go_at_call 19; (with_reducible refine (hQ _).mono ?_); rintro e w' ⟨rfl, hb⟩; replace C := Lib.hid (And.intro (C.out.1.trans (hb.mono C.out.1.size)) (C.out.2.below hb)); clear hb)
            | (go_at_call 20; (with_reducible refine (hR _).mono ?_); rintro e w' ⟨rfl, hb⟩; replace C := Lib.hid (And.intro (C.out.1.trans (hb.mono C.out.1.size)) (C.out.2.below hb)); clear hb)
            | (go_at_call 21; (with_reducible refine (hS _ C.out.2).mono ?_); rintro e w' ⟨rfl, rfl⟩)
            | (go_at_call 22; (with_reducible refine (hU _).mono ?_); rintro e w' ⟨rfl, rfl⟩))
          go_ret
          exact ⟨rfl, C.out.1⟩
end Go.Proofs.YtmhpcbaoicboaaaDoor
