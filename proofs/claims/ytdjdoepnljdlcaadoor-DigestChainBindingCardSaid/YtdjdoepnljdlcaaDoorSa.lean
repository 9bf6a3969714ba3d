/- Walks of package digest's right and turned. -/
import Derived.Test.YtdjdoepnljdlcaaDoorChecked
import Derived.Test.YtdjdoepnljdlcaaDoorKb
import Derived.WalkKit
import Derived.WalkLawsBesides
import Derived.WalkSpells
import Derived.Lib.Hide
import Derived.Laws.BitsAllLaws
namespace Go.Proofs.YtdjdoepnljdlcaaDoor
open Go.RowKit

theorem w_xor (x y : UInt32) : bits .xor .u32 (x.toNat : Int) (y.toNat : Int) = ((x ^^^ y).toNat : Int) := by rw [u32_xor_nat _ _ x.toNat_lt y.toNat_lt, UInt32.toNat_xor]
theorem w_and (x y : UInt32) : bits .and .u32 (x.toNat : Int) (y.toNat : Int) = ((x &&& y).toNat : Int) := by rw [u32_and_nat _ _ x.toNat_lt y.toNat_lt, UInt32.toNat_and]
theorem w_or (x y : UInt32) : bits .or .u32 (x.toNat : Int) (y.toNat : Int) = ((x ||| y).toNat : Int) := by rw [u32_or_nat _ _ x.toNat_lt y.toNat_lt, UInt32.toNat_or]
theorem w_add (x y : UInt32) : IntKind.u32.wrap ((x.toNat : Int) + (y.toNat : Int)) = ((x + y).toNat : Int) := by
  rw [IntKind.wrap_u32', UInt32.toNat_add]; omega
theorem w_shr (x n : UInt32) (h : n.toNat < 32) : (x.toNat : Int) / ((2 ^ n.toNat : Nat) : Int) = ((x >>> n).toNat : Int) := by
  rw [UInt32.toNat_shiftRight, Nat.mod_eq_of_lt h, Nat.shiftRight_eq_div_pow]; rfl
theorem w_shl (x n : UInt32) (h : n.toNat < 32) : ((x.toNat : Int) * ((2 ^ n.toNat : Nat) : Int)) % 4294967296 = ((x <<< n).toNat : Int) := by
  rw [UInt32.toNat_shiftLeft, Nat.mod_eq_of_lt h, Nat.shiftLeft_eq]; rfl
theorem w_rr (x n m : UInt32) (hn : n.toNat < 32) (hm : m.toNat < 32) (h : 32 - n = m) :
    bits .or .u32 ((x.toNat : Int) * ((2 ^ m.toNat : Nat) : Int) % 4294967296) ((x.toNat : Int) / ((2 ^ n.toNat : Nat) : Int)) = ((Sh.rr x n).toNat : Int) := by
  rw [w_shl x m hm, w_shr x n hn, w_or, Sh.rr, h, UInt32.or_comm]
theorem ret_u32 {a b : Int} (h : a = b) : Ending.returned (.int .u32 a) = .returned (.int .u32 b) := by rw [h]

theorem rot2 (x : UInt32) (w : World) : Calls Tryd.prog 81 #[.int .u32 (x.toNat : Int), .int .i64 (-2)] w fun e w' => e = .returned (.int .u32 ((Sh.rr x 2).toNat : Int)) ∧ w = w' := by
  have hx := x.toNat_lt
  have hb : bits .and .u64 (IntKind.u64.wrap (-2)) 31 = 30 := by decide
  go_enter Tryd.func81, Tryd.ntmps81
  go_wp2
  go_ret
  exact ⟨ret_u32 (w_rr x 2 30 (by decide) (by decide) (by decide)), rfl⟩
theorem right2 (x : UInt32) (w : World) : Calls Tryd.prog 75 #[.int .u32 (x.toNat : Int), .int .i64 2] w fun e w' => e = .returned (.int .u32 ((Sh.rr x 2).toNat : Int)) ∧ w = w' := by
  have hx := x.toNat_lt
  go_enter Tryd.func75, Tryd.ntmps75
  go_wp2_with (go_at_call 81; (with_reducible refine (rot2 x _).mono ?_); rintro e w' ⟨rfl, rfl⟩)
  go_ret
  exact ⟨rfl, rfl⟩
theorem rot6 (x : UInt32) (w : World) : Calls Tryd.prog 81 #[.int .u32 (x.toNat : Int), .int .i64 (-6)] w fun e w' => e = .returned (.int .u32 ((Sh.rr x 6).toNat : Int)) ∧ w = w' := by
  have hx := x.toNat_lt
  have hb : bits .and .u64 (IntKind.u64.wrap (-6)) 31 = 26 := by decide
  go_enter Tryd.func81, Tryd.ntmps81
  go_wp2
  go_ret
  exact ⟨ret_u32 (w_rr x 6 26 (by decide) (by decide) (by decide)), rfl⟩
theorem right6 (x : UInt32) (w : World) : Calls Tryd.prog 75 #[.int .u32 (x.toNat : Int), .int .i64 6] w fun e w' => e = .returned (.int .u32 ((Sh.rr x 6).toNat : Int)) ∧ w = w' := by
  have hx := x.toNat_lt
  go_enter Tryd.func75, Tryd.ntmps75
  go_wp2_with (go_at_call 81; (with_reducible refine (rot6 x _).mono ?_); rintro e w' ⟨rfl, rfl⟩)
  go_ret
  exact ⟨rfl, rfl⟩
theorem rot7 (x : UInt32) (w : World) : Calls Tryd.prog 81 #[.int .u32 (x.toNat : Int), .int .i64 (-7)] w fun e w' => e = .returned (.int .u32 ((Sh.rr x 7).toNat : Int)) ∧ w = w' := by
  have hx := x.toNat_lt
  have hb : bits .and .u64 (IntKind.u64.wrap (-7)) 31 = 25 := by decide
  go_enter Tryd.func81, Tryd.ntmps81
  go_wp2
  go_ret
  exact ⟨ret_u32 (w_rr x 7 25 (by decide) (by decide) (by decide)), rfl⟩
theorem right7 (x : UInt32) (w : World) : Calls Tryd.prog 75 #[.int .u32 (x.toNat : Int), .int .i64 7] w fun e w' => e = .returned (.int .u32 ((Sh.rr x 7).toNat : Int)) ∧ w = w' := by
  have hx := x.toNat_lt
  go_enter Tryd.func75, Tryd.ntmps75
  go_wp2_with (go_at_call 81; (with_reducible refine (rot7 x _).mono ?_); rintro e w' ⟨rfl, rfl⟩)
  go_ret
  exact ⟨rfl, rfl⟩
theorem rot11 (x : UInt32) (w : World) : Calls Tryd.prog 81 #[.int .u32 (x.toNat : Int), .int .i64 (-11)] w fun e w' => e = .returned (.int .u32 ((Sh.rr x 11).toNat : Int)) ∧ w = w' := by
  have hx := x.toNat_lt
  have hb : bits .and .u64 (IntKind.u64.wrap (-11)) 31 = 21 := by decide
  go_enter Tryd.func81, Tryd.ntmps81
  go_wp2
  go_ret
  exact ⟨ret_u32 (w_rr x 11 21 (by decide) (by decide) (by decide)), rfl⟩
theorem right11 (x : UInt32) (w : World) : Calls Tryd.prog 75 #[.int .u32 (x.toNat : Int), .int .i64 11] w fun e w' => e = .returned (.int .u32 ((Sh.rr x 11).toNat : Int)) ∧ w = w' := by
  have hx := x.toNat_lt
  go_enter Tryd.func75, Tryd.ntmps75
  go_wp2_with (go_at_call 81; (with_reducible refine (rot11 x _).mono ?_); rintro e w' ⟨rfl, rfl⟩)
  go_ret
  exact ⟨rfl, rfl⟩
theorem rot13 (x : UInt32) (w : World) : Calls Tryd.prog 81 #[.int .u32 (x.toNat : Int), .int .i64 (-13)] w fun e w' => e = .returned (.int .u32 ((Sh.rr x 13).toNat : Int)) ∧ w = w' := by
  have hx := x.toNat_lt
  have hb : bits .and .u64 (IntKind.u64.wrap (-13)) 31 = 19 := by decide
  go_enter Tryd.func81, Tryd.ntmps81
  go_wp2
  go_ret
  exact ⟨ret_u32 (w_rr x 13 19 (by decide) (by decide) (by decide)), rfl⟩
theorem right13 (x : UInt32) (w : World) : Calls Tryd.prog 75 #[.int .u32 (x.toNat : Int), .int .i64 13] w fun e w' => e = .returned (.int .u32 ((Sh.rr x 13).toNat : Int)) ∧ w = w' := by
  have hx := x.toNat_lt
  go_enter Tryd.func75, Tryd.ntmps75
  go_wp2_with (go_at_call 81; (with_reducible refine (rot13 x _).mono ?_); rintro e w' ⟨rfl, rfl⟩)
  go_ret
  exact ⟨rfl, rfl⟩
theorem rot17 (x : UInt32) (w : World) : Calls Tryd.prog 81 #[.int .u32 (x.toNat : Int), .int .i64 (-17)] w fun e w' => e = .returned (.int .u32 ((Sh.rr x 17).toNat : Int)) ∧ w = w' := by
  have hx := x.toNat_lt
  have hb : bits .and .u64 (IntKind.u64.wrap (-17)) 31 = 15 := by decide
  go_enter Tryd.func81, Tryd.ntmps81
  go_wp2
  go_ret
  exact ⟨ret_u32 (w_rr x 17 15 (by decide) (by decide) (by decide)), rfl⟩
theorem right17 (x : UInt32) (w : World) : Calls Tryd.prog 75 #[.int .u32 (x.toNat : Int), .int .i64 17] w fun e w' => e = .returned (.int .u32 ((Sh.rr x 17).toNat : Int)) ∧ w = w' := by
  have hx := x.toNat_lt
  go_enter Tryd.func75, Tryd.ntmps75
  go_wp2_with (go_at_call 81; (with_reducible refine (rot17 x _).mono ?_); rintro e w' ⟨rfl, rfl⟩)
  go_ret
  exact ⟨rfl, rfl⟩
theorem rot18 (x : UInt32) (w : World) : Calls Tryd.prog 81 #[.int .u32 (x.toNat : Int), .int .i64 (-18)] w fun e w' => e = .returned (.int .u32 ((Sh.rr x 18).toNat : Int)) ∧ w = w' := by
  have hx := x.toNat_lt
  have hb : bits .and .u64 (IntKind.u64.wrap (-18)) 31 = 14 := by decide
  go_enter Tryd.func81, Tryd.ntmps81
  go_wp2
  go_ret
  exact ⟨ret_u32 (w_rr x 18 14 (by decide) (by decide) (by decide)), rfl⟩
theorem right18 (x : UInt32) (w : World) : Calls Tryd.prog 75 #[.int .u32 (x.toNat : Int), .int .i64 18] w fun e w' => e = .returned (.int .u32 ((Sh.rr x 18).toNat : Int)) ∧ w = w' := by
  have hx := x.toNat_lt
  go_enter Tryd.func75, Tryd.ntmps75
  go_wp2_with (go_at_call 81; (with_reducible refine (rot18 x _).mono ?_); rintro e w' ⟨rfl, rfl⟩)
  go_ret
  exact ⟨rfl, rfl⟩
theorem rot19 (x : UInt32) (w : World) : Calls Tryd.prog 81 #[.int .u32 (x.toNat : Int), .int .i64 (-19)] w fun e w' => e = .returned (.int .u32 ((Sh.rr x 19).toNat : Int)) ∧ w = w' := by
  have hx := x.toNat_lt
  have hb : bits .and .u64 (IntKind.u64.wrap (-19)) 31 = 13 := by decide
  go_enter Tryd.func81, Tryd.ntmps81
  go_wp2
  go_ret
  exact ⟨ret_u32 (w_rr x 19 13 (by decide) (by decide) (by decide)), rfl⟩
theorem right19 (x : UInt32) (w : World) : Calls Tryd.prog 75 #[.int .u32 (x.toNat : Int), .int .i64 19] w fun e w' => e = .returned (.int .u32 ((Sh.rr x 19).toNat : Int)) ∧ w = w' := by
  have hx := x.toNat_lt
  go_enter Tryd.func75, Tryd.ntmps75
  go_wp2_with (go_at_call 81; (with_reducible refine (rot19 x _).mono ?_); rintro e w' ⟨rfl, rfl⟩)
  go_ret
  exact ⟨rfl, rfl⟩
theorem rot22 (x : UInt32) (w : World) : Calls Tryd.prog 81 #[.int .u32 (x.toNat : Int), .int .i64 (-22)] w fun e w' => e = .returned (.int .u32 ((Sh.rr x 22).toNat : Int)) ∧ w = w' := by
  have hx := x.toNat_lt
  have hb : bits .and .u64 (IntKind.u64.wrap (-22)) 31 = 10 := by decide
  go_enter Tryd.func81, Tryd.ntmps81
  go_wp2
  go_ret
  exact ⟨ret_u32 (w_rr x 22 10 (by decide) (by decide) (by decide)), rfl⟩
theorem right22 (x : UInt32) (w : World) : Calls Tryd.prog 75 #[.int .u32 (x.toNat : Int), .int .i64 22] w fun e w' => e = .returned (.int .u32 ((Sh.rr x 22).toNat : Int)) ∧ w = w' := by
  have hx := x.toNat_lt
  go_enter Tryd.func75, Tryd.ntmps75
  go_wp2_with (go_at_call 81; (with_reducible refine (rot22 x _).mono ?_); rintro e w' ⟨rfl, rfl⟩)
  go_ret
  exact ⟨rfl, rfl⟩
theorem rot25 (x : UInt32) (w : World) : Calls Tryd.prog 81 #[.int .u32 (x.toNat : Int), .int .i64 (-25)] w fun e w' => e = .returned (.int .u32 ((Sh.rr x 25).toNat : Int)) ∧ w = w' := by
  have hx := x.toNat_lt
  have hb : bits .and .u64 (IntKind.u64.wrap (-25)) 31 = 7 := by decide
  go_enter Tryd.func81, Tryd.ntmps81
  go_wp2
  go_ret
  exact ⟨ret_u32 (w_rr x 25 7 (by decide) (by decide) (by decide)), rfl⟩
theorem right25 (x : UInt32) (w : World) : Calls Tryd.prog 75 #[.int .u32 (x.toNat : Int), .int .i64 25] w fun e w' => e = .returned (.int .u32 ((Sh.rr x 25).toNat : Int)) ∧ w = w' := by
  have hx := x.toNat_lt
  go_enter Tryd.func75, Tryd.ntmps75
  go_wp2_with (go_at_call 81; (with_reducible refine (rot25 x _).mono ?_); rintro e w' ⟨rfl, rfl⟩)
  go_ret
  exact ⟨rfl, rfl⟩
theorem turned6 (x : UInt32) (w : World) : Calls Tryd.prog 66 #[.int .u32 (x.toNat : Int), .int .i64 6, .int .i64 11, .int .i64 25] w fun e w' => e = .returned (.int .u32 ((Sh.turn x 6 11 25).toNat : Int)) ∧ w = w' := by
  have hx := x.toNat_lt
  go_enter Tryd.func66, Tryd.ntmps66
  go_wp2_with (first | (go_at_call 75; (with_reducible refine (right6 x _).mono ?_); rintro e w' ⟨rfl, rfl⟩) | (go_at_call 75; (with_reducible refine (right11 x _).mono ?_); rintro e w' ⟨rfl, rfl⟩) | (go_at_call 75; (with_reducible refine (right25 x _).mono ?_); rintro e w' ⟨rfl, rfl⟩))
  go_ret
  exact ⟨ret_u32 (by rw [w_xor, w_xor, Sh.turn]), rfl⟩
theorem turned2 (x : UInt32) (w : World) : Calls Tryd.prog 66 #[.int .u32 (x.toNat : Int), .int .i64 2, .int .i64 13, .int .i64 22] w fun e w' => e = .returned (.int .u32 ((Sh.turn x 2 13 22).toNat : Int)) ∧ w = w' := by
  have hx := x.toNat_lt
  go_enter Tryd.func66, Tryd.ntmps66
  go_wp2_with (first | (go_at_call 75; (with_reducible refine (right2 x _).mono ?_); rintro e w' ⟨rfl, rfl⟩) | (go_at_call 75; (with_reducible refine (right13 x _).mono ?_); rintro e w' ⟨rfl, rfl⟩) | (go_at_call 75; (with_reducible refine (right22 x _).mono ?_); rintro e w' ⟨rfl, rfl⟩))
  go_ret
  exact ⟨ret_u32 (by rw [w_xor, w_xor, Sh.turn]), rfl⟩
end Go.Proofs.YtdjdoepnljdlcaaDoor
