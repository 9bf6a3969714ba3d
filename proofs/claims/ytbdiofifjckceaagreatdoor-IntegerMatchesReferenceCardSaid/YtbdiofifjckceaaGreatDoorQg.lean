/- The law's fixed examples. -/
import Derived.Test.YtbdiofifjckceaaGreatDoorQf
import Derived.Deep.Cut
namespace Go.Proofs.YtbdiofifjckceaaGreatDoor
open Go.RowKit

theorem res_num {L : List UInt8} (h : vld L = true) : res true (num L) = L := by
  have := vld_txt h
  rw [res, if_pos rfl, rs, if_pos this.2, this.1]
theorem ree_num {L : List UInt8} (h : vld L = true) : ree true (num L) = 0 := by
  have := vld_txt h
  rw [ree, if_pos rfl, er, if_pos this.2]
theorem txt_lit {L : List UInt8} (h : vld L = true) : txt (num L) = L := (vld_txt h).1
theorem ex1 (w : World) : Calls Tryz.prog 9 #[.string ⟨#[57, 57, 57]⟩, .string ⟨#[49]⟩] w fun e w' => e = .returned (.tuple #[.string ⟨#[49, 48, 48, 48]⟩, .int .i64 0]) ∧ Below w.heap.size w w' := by
  have h := Add_any ⟨#[57, 57, 57]⟩ ⟨#[49]⟩ [57, 57, 57] [49] w rfl rfl (by decide) (by decide)
  rw [show (vld [57, 57, 57] && vld [49]) = true from by decide, show num [57, 57, 57] + num [49] = num [49, 48, 48, 48] from by decide, res_num (by decide), ree_num (by decide)] at h
  exact h
theorem ex2 (w : World) : Calls Tryz.prog 11 #[.string ⟨#[49]⟩, .string ⟨#[49, 48, 48, 48]⟩] w fun e w' => e = .returned (.tuple #[.string ⟨#[45, 57, 57, 57]⟩, .int .i64 0]) ∧ Below w.heap.size w w' := by
  have h := Sub_any ⟨#[49]⟩ ⟨#[49, 48, 48, 48]⟩ [49] [49, 48, 48, 48] w rfl rfl (by decide) (by decide)
  rw [show (vld [49] && vld [49, 48, 48, 48]) = true from by decide, show num [49] - num [49, 48, 48, 48] = num [45, 57, 57, 57] from by decide, res_num (by decide), ree_num (by decide)] at h
  exact h
theorem ex3 (w : World) : Calls Tryz.prog 13 #[.string ⟨#[45, 49, 50]⟩, .string ⟨#[49, 50]⟩] w fun e w' => e = .returned (.tuple #[.string ⟨#[45, 49, 52, 52]⟩, .int .i64 0]) ∧ Below w.heap.size w w' := by
  have h := Mul_any ⟨#[45, 49, 50]⟩ ⟨#[49, 50]⟩ [45, 49, 50] [49, 50] w rfl rfl (by decide) (by decide)
  rw [show (vld [45, 49, 50] && vld [49, 50]) = true from by decide, show num [45, 49, 50] * num [49, 50] = num [45, 49, 52, 52] from by decide, res_num (by decide), ree_num (by decide)] at h
  exact h
theorem ex4 (w : World) : Calls Tryz.prog 15 #[.string ⟨#[45, 55]⟩, .string ⟨#[50]⟩] w fun e w' => e = .returned (.tuple #[.string ⟨#[45, 52]⟩, .string ⟨#[49]⟩, .int .i64 0]) ∧ Below w.heap.size w w' := by
  have h := Div_any ⟨#[45, 55]⟩ ⟨#[50]⟩ [45, 55] [50] w rfl rfl (by decide) (by decide) (by decide)
  rw [show num [45, 55] / num [50] = num [45, 52] from by decide, show num [45, 55] % num [50] = num [49] from by decide, txt_lit (by decide), txt_lit (by decide)] at h
  exact h
theorem ex5 (w : World) : Calls Tryz.prog 15 #[.string ⟨#[45, 55]⟩, .string ⟨#[45, 50]⟩] w fun e w' => e = .returned (.tuple #[.string ⟨#[52]⟩, .string ⟨#[49]⟩, .int .i64 0]) ∧ Below w.heap.size w w' := by
  have h := Div_any ⟨#[45, 55]⟩ ⟨#[45, 50]⟩ [45, 55] [45, 50] w rfl rfl (by decide) (by decide) (by decide)
  rw [show num [45, 55] / num [45, 50] = num [52] from by decide, show num [45, 55] % num [45, 50] = num [49] from by decide, txt_lit (by decide), txt_lit (by decide)] at h
  exact h
theorem ex6 (w : World) : Calls Tryz.prog 17 #[.string ⟨#[49, 50]⟩, .string ⟨#[45, 49, 56]⟩] w fun e w' => e = .returned (.tuple #[.string ⟨#[54]⟩, .int .i64 0]) ∧ Below w.heap.size w w' := by
  have h := Gcd_any ⟨#[49, 50]⟩ ⟨#[45, 49, 56]⟩ [49, 50] [45, 49, 56] w rfl rfl (by decide) (by decide)
  rw [show (vld [49, 50] && vld [45, 49, 56]) = true from by decide, show ((Nat.gcd (num [49, 50]).natAbs (num [45, 49, 56]).natAbs : Nat) : Int) = num [54] from by decide, res_num (by decide), ree_num (by decide)] at h
  exact h
theorem ex7 (w : World) : Calls Tryz.prog 9 #[.string ⟨#[48, 48, 55]⟩, .string ⟨#[49]⟩] w fun e w' => e = .returned (.tuple #[.string ⟨#[]⟩, .int .i64 30]) ∧ Below w.heap.size w w' := by
  have h := Add_any ⟨#[48, 48, 55]⟩ ⟨#[49]⟩ [48, 48, 55] [49] w rfl rfl (by decide) (by decide)
  rw [show (vld [48, 48, 55] && vld [49]) = false from by decide] at h
  exact h
theorem exr (w : World) : Calls Tryz.prog 19 #[.string ⟨#[57, 57]⟩] w fun e w' => e = .returned (.tuple #[.string ⟨#[57]⟩, .int .i64 0]) ∧ Below w.heap.size w w' := by
  refine (Root_any ⟨#[57, 57]⟩ [57, 57] w rfl (by decide) (by decide)).mono fun e w' h => ?_
  obtain ⟨r, he, h1, h2, hb⟩ := h
  rw [show num [57, 57] = 99 from by decide] at h1 h2
  have hr : r = 9 := by
    have g1 : r * r ≤ 99 := by exact_mod_cast h1
    have g2 : 99 < (r + 1) * (r + 1) := by exact_mod_cast h2
    have g3 : r < 10 := by
      rcases Nat.lt_or_ge r 10 with h | h
      · exact h
      · have := Nat.mul_le_mul h h; omega
    have g4 : 9 ≤ r := by
      rcases Nat.lt_or_ge r 9 with h | h
      · have := Nat.mul_le_mul (show r + 1 ≤ 9 by omega) (show r + 1 ≤ 9 by omega); omega
      · exact h
    omega
  subst hr
  rw [show ((9 : Nat) : Int) = num [57] from by decide, txt_lit (by decide)] at he
  exact ⟨he, hb⟩
theorem exs (w : World) : Calls Tryz.prog 19 #[.string ⟨#[45, 49]⟩] w fun e w' => e = .returned (.tuple #[.string ⟨#[]⟩, .int .i64 30]) ∧ Below w.heap.size w w' :=
  Root_no ⟨#[45, 49]⟩ [45, 49] w rfl (by decide) (fun _ => by decide)
theorem exv1 (w : World) : Calls Tryz.prog 23 #[.string ⟨#[45, 55]⟩] w fun e w' => e = .returned (.bool true) ∧ Below w.heap.size w w' := by
  have h := Valid_any ⟨#[45, 55]⟩ [45, 55] w rfl (by decide)
  rw [show vld [45, 55] = true from by decide] at h
  exact h
theorem exv2 (w : World) : Calls Tryz.prog 23 #[.string ⟨#[45, 48]⟩] w fun e w' => e = .returned (.bool false) ∧ Below w.heap.size w w' := by
  have h := Valid_any ⟨#[45, 48]⟩ [45, 48] w rfl (by decide)
  rw [show vld [45, 48] = false from by decide] at h
  exact h
theorem exv3 (w : World) : Calls Tryz.prog 23 #[.string ⟨#[]⟩] w fun e w' => e = .returned (.bool false) ∧ Below w.heap.size w w' := by
  have h := Valid_any ⟨#[]⟩ [] w rfl (by decide)
  rw [show vld [] = false from by decide] at h
  exact h
theorem exc (w : World) : Calls Tryz.prog 25 #[.string ⟨#[45, 56]⟩, .string ⟨#[45, 55]⟩] w fun e w' => e = .returned (.int .i64 (-1)) ∧ Below w.heap.size w w' := by
  have h := Compare_any ⟨#[45, 56]⟩ ⟨#[45, 55]⟩ [45, 56] [45, 55] w rfl rfl (by decide) (by decide)
  rw [show (if (vld [45, 56] && vld [45, 55]) = true then cmpN (num [45, 56]) (num [45, 55]) else 0) = -1 from by decide] at h
  exact h

set_option maxRecDepth 100000 in
set_option maxHeartbeats 1000000 in
theorem sane_any (w : World) : Calls Tryz.prog 6 #[] w fun e w' => e = .returned (.bool true) ∧ Below w.heap.size w w' := by
  have H := Lib.hid (Below.refl w.heap.size w)
  go_enter Tryz.func6, Tryz.ntmps6
  go_wp2_with (first | (go_at_call 9; (with_reducible refine (ex1 _).mono ?_); rintro e W ⟨rfl, B1⟩; have B2 := H.out.trans (B1.mono H.out.size); clear H B1; have H := Lib.hid B2; clear B2) | (go_at_call 11; (with_reducible refine (ex2 _).mono ?_); rintro e W ⟨rfl, B1⟩; have B2 := H.out.trans (B1.mono H.out.size); clear H B1; have H := Lib.hid B2; clear B2) | (go_at_call 13; (with_reducible refine (ex3 _).mono ?_); rintro e W ⟨rfl, B1⟩; have B2 := H.out.trans (B1.mono H.out.size); clear H B1; have H := Lib.hid B2; clear B2) | (go_at_call 15; (with_reducible refine (ex4 _).mono ?_); rintro e W ⟨rfl, B1⟩; have B2 := H.out.trans (B1.mono H.out.size); clear H B1; have H := Lib.hid B2; clear B2) | (go_at_call 15; (with_reducible refine (ex5 _).mono ?_); rintro e W ⟨rfl, B1⟩; have B2 := H.out.trans (B1.mono H.out.size); clear H B1; have H := Lib.hid B2; clear B2) | (go_at_call 17; (with_reducible refine (ex6 _).mono ?_); rintro e W ⟨rfl, B1⟩; have B2 := H.out.trans (B1.mono H.out.size); clear H B1; have H := Lib.hid B2; clear B2) | (go_at_call 9; (with_reducible refine (ex7 _).mono ?_); rintro e W ⟨rfl, B1⟩; have B2 := H.out.trans (B1.mono H.out.size); clear H B1; have H := Lib.hid B2; clear B2) | (go_at_call 19; (with_reducible refine (exr _).mono ?_); rintro e W ⟨rfl, B1⟩; have B2 := H.out.trans (B1.mono H.out.size); clear H B1; have H := Lib.hid B2; clear B2) | (go_at_call 19; (with_reducible refine (exs _).mono ?_); rintro e W ⟨rfl, B1⟩; have B2 := H.out.trans (B1.mono H.out.size); clear H B1; have H := Lib.hid B2; clear B2) | (go_at_call 23; (with_reducible refine (exv1 _).mono ?_); rintro e W ⟨rfl, B1⟩; have B2 := H.out.trans (B1.mono H.out.size); clear H B1; have H := Lib.hid B2; clear B2) | (go_at_call 23; (with_reducible refine (exv2 _).mono ?_); rintro e W ⟨rfl, B1⟩; have B2 := H.out.trans (B1.mono H.out.size); clear H B1; have H := Lib.hid B2; clear B2) | (go_at_call 23; (with_reducible refine (exv3 _).mono ?_); rintro e W ⟨rfl, B1⟩; have B2 := H.out.trans (B1.mono H.out.size); clear H B1; have H := Lib.hid B2; clear B2) | (go_at_call 25; (with_reducible refine (exc _).mono ?_); rintro e W ⟨rfl, B1⟩; have B2 := H.out.trans (B1.mono H.out.size); clear H B1; have H := Lib.hid B2; clear B2))
  go_ret
  exact ⟨rfl, H.out⟩

end Go.Proofs.YtbdiofifjckceaaGreatDoor
