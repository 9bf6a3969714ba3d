/- The walk of the law's sane: the fixed examples. -/
import Derived.Test.YtmhpcbaoicboaaaDoorWb
import Derived.Test.YtmhpcbaoicboaaaDoorWc
import Derived.Test.YtmhpcbaoicboaaaDoorWd
import Derived.Test.YtmhpcbaoicboaaaDoorWg
namespace Go.Proofs.YtmhpcbaoicboaaaDoor
open Go.RowKit

theorem maxLen_ge (n : Nat) (h : n ≤ 9223372036854775807) : n ≤ maxLen := by unfold maxLen; omega

theorem sane1 (w : World) : Calls Tryd.prog 12 #[.int .i64 (-64)] w fun e w' => e = .returned (.tuple #[.string ⟨#[127]⟩, .int .i64 0]) ∧ Below w.heap.size w w' := putInt_ok (-64) (by decide) (by decide) w
theorem sane2 (w : World) : Calls Tryd.prog 12 #[.int .i64 64] w fun e w' => e = .returned (.tuple #[.string ⟨#[128, 1]⟩, .int .i64 0]) ∧ Below w.heap.size w w' := putInt_ok 64 (by decide) (by decide) w
theorem sane3 (w : World) : Calls Tryd.prog 15 #[.string ⟨#[97, 172, 2, 98]⟩, .int .i64 1] w fun e w' => e = .returned (.tuple #[.int .i64 150, .int .i64 3, .int .i64 0]) ∧ w = w' :=
  int_some ⟨#[97, 172, 2, 98]⟩ (maxLen_ge _ (by decide)) 1 (by decide) w 150 2 (by decide)
theorem sane4 (w : World) : Calls Tryd.prog 15 #[.string ⟨#[128, 0]⟩, .int .i64 0] w fun e w' => e = .returned (.tuple #[.int .i64 0, .int .i64 0, .int .i64 10]) ∧ w = w' :=
  int_none ⟨#[128, 0]⟩ (maxLen_ge _ (by decide)) 0 (by decide) w (by decide)
theorem sane5 (w : World) : Calls Tryd.prog 19 #[.string ⟨#[97, 98]⟩] w fun e w' => e = .returned (.tuple #[.string ⟨#[4, 97, 98]⟩, .int .i64 0]) ∧ Below w.heap.size w w' := putString_ok ⟨#[97, 98]⟩ (by decide) w
theorem sane6 (w : World) : Calls Tryd.prog 17 #[.string ⟨#[4, 97, 98, 99]⟩, .int .i64 0] w fun e w' => e = .returned (.tuple #[.string ⟨#[97, 98]⟩, .int .i64 3, .int .i64 0]) ∧ Below w.heap.size w w' :=
  string_ok ⟨#[4, 97, 98, 99]⟩ (maxLen_ge _ (by decide)) 0 2 1 w (by decide) (by decide) (fun w => int_some ⟨#[4, 97, 98, 99]⟩ (maxLen_ge _ (by decide)) 0 (by decide) w 2 1 (by decide))
theorem sane7 (w : World) : Calls Tryd.prog 17 #[.string ⟨#[4, 97]⟩, .int .i64 0] w fun e w' => e = .returned (.tuple #[.string ⟨#[]⟩, .int .i64 0, .int .i64 10]) ∧ w = w' :=
  string_bad ⟨#[4, 97]⟩ (maxLen_ge _ (by decide)) 0 2 1 w (by decide) (by decide) (fun w => int_some ⟨#[4, 97]⟩ (maxLen_ge _ (by decide)) 0 (by decide) w 2 1 (by decide))
theorem sane8 (w : World) : Calls Tryd.prog 12 #[.int .i64 4611686018427387904] w fun e w' => e = .returned (.tuple #[.string ⟨#[]⟩, .int .i64 10]) ∧ w = w' := putInt_bad _ (by decide) w
theorem sane9 (w : World) : Calls Tryd.prog 15 #[.string ⟨#[]⟩, .int .i64 1] w fun e w' => e = .returned (.tuple #[.int .i64 0, .int .i64 0, .int .i64 2]) ∧ w = w' := int_off ⟨#[]⟩ (maxLen_ge _ (by decide)) 1 w (by decide)
theorem sane10 (w : World) (ht : Tab w) : Calls Tryd.prog 21 #[.string ⟨#[49, 50, 51, 52, 53, 54, 55, 56, 57]⟩] w fun e w' => e = .returned (.int .i64 3808858755) ∧ w = w' := by
  have h := sum_any ⟨#[49, 50, 51, 52, 53, 54, 55, 56, 57]⟩ (maxLen_ge _ (by decide)) w ht
  rw [show ck (⟨#[49, 50, 51, 52, 53, 54, 55, 56, 57]⟩ : ByteArray).data.toList = 3808858755 by decide +kernel] at h
  exact h

set_option maxRecDepth 100000 in
set_option maxHeartbeats 1000000 in
theorem sane_any (w : World) (ht : Tab w) : Calls Tryd.prog 10 #[] w fun e w' => e = .returned (.bool true) ∧ Below w.heap.size w w' := by
  have HB := Below.refl w.heap.size w
  have HT := Lib.hid ht
  clear ht
  go_enter Tryd.func10, Tryd.ntmps10
  go_wp2_with (first
    | (go_at_call 12; (with_reducible refine (sane1 _).mono ?_); rintro e w' ⟨rfl, hb⟩; replace HB := HB.trans (hb.mono HB.size); replace HT := Lib.hid (HT.out.below hb); clear hb)
    | (go_at_call 12; (with_reducible refine (sane2 _).mono ?_); rintro e w' ⟨rfl, hb⟩; replace HB := HB.trans (hb.mono HB.size); replace HT := Lib.hid (HT.out.below hb); clear hb)
    | (go_at_call 12; (with_reducible refine (sane8 _).mono ?_); rintro e w' ⟨rfl, rfl⟩)
    | (go_at_call 15; (with_reducible refine (sane3 _).mono ?_); rintro e w' ⟨rfl, rfl⟩)
    | (go_at_call 15; (with_reducible refine (sane4 _).mono ?_); rintro e w' ⟨rfl, rfl⟩)
    | (go_at_call 15; (with_reducible refine (sane9 _).mono ?_); rintro e w' ⟨rfl, rfl⟩)
    | (go_at_call 19; (with_reducible refine (sane5 _).mono ?_); rintro e w' ⟨rfl, hb⟩; replace HB := HB.trans (hb.mono HB.size); replace HT := Lib.hid (HT.out.below hb); clear hb)
    | (go_at_call 17; (with_reducible refine (sane6 _).mono ?_); rintro e w' ⟨rfl, hb⟩; replace HB := HB.trans (hb.mono HB.size); replace HT := Lib.hid (HT.out.below hb); clear hb)
    | (go_at_call 17; (with_reducible refine (sane7 _).mono ?_); rintro e w' ⟨rfl, rfl⟩)
    | (go_at_call 21; (with_reducible refine (sane10 _ HT.out).mono ?_); rintro e w' ⟨rfl, rfl⟩))
  go_ret
  exact ⟨rfl, HB⟩
end Go.Proofs.YtmhpcbaoicboaaaDoor
