/- The walk of the reference implementation's Sum. -/
import Derived.Test.YtmhpcbaoicboaaaDoorWd
import Derived.Test.YtmhpcbaoicboaaaDoorMb
import Derived.WalkKit
import Derived.WalkLawsBesides
import Derived.WalkSpells
import Derived.Lib.Hide
import Derived.Laws.BitsAllLaws
namespace Go.Proofs.YtmhpcbaoicboaaaDoor
open Go.RowKit

theorem sts_last (j x : Nat) : crcs.sts (j + 1) x = crcs.st (crcs.sts j x) := by rw [crcs.sts_add]; rfl
theorem sts_lt (j x : Nat) (h : x < 4294967296) : crcs.sts j x < 4294967296 := by
  induction j with
  | zero => exact h
  | succ j ih => rw [sts_last]; exact crcs.st_lt _ ih
theorem by1_sts (r : Nat) (b : UInt8) : by1 r b = crcs.sts 8 (r ^^^ b.toNat) := by
  show crcs.shN (crcs.shN (r ^^^ b.toNat)) = _
  rw [crcs.sh_sts, crcs.sh_sts, ← crcs.sts_add]

set_option maxRecDepth 100000 in
set_option maxHeartbeats 1000000 in
theorem rsum_any (s : ByteArray) (hs : s.size ≤ maxLen) (w : World) :
    Calls Tryd.prog 22 #[.string s] w fun e w' => e = .returned (.int .i64 ((ck s.data.toList : Nat) : Int)) ∧ w = w' := by
  unfold maxLen at hs
  go_enter Tryd.func22, Tryd.ntmps22
  go_wp2
  go_loop [3, 4] (fun r i => ∃ k : Nat, k ≤ s.size ∧ r = .int .u32 ((crc 4294967295 (s.data.toList.take k) : Nat) : Int) ∧ i = .int .i64 k) (fun _ i => s.size - (intOf i).toNat)
  case atStart => exact ⟨0, by omega, rfl, rfl⟩
  case round =>
    obtain ⟨k, hk, rfl, rfl⟩ := hrel
    have hl := crc_lt (s.data.toList.take k) 4294967295 (by omega)
    by_cases hlt : k < s.size
    · have HS := Lib.hid (take_snoc s k hlt)
      have hq : crc 4294967295 (s.data.toList.take (k + 1)) = crcs.sts 8 (crc 4294967295 (s.data.toList.take k) ^^^ s[k].toNat) := by rw [HS.out, crc_snoc, by1_sts]
      have HQ := Lib.hid hq
      clear hq
      generalize crc 4294967295 (s.data.toList.take k) = r at *
      have hb : s[k].toNat < 4294967296 := by have := s[k].toNat_lt; omega
      have hx : bits .xor .u32 (r : Int) ((s[k].toNat : Int) % 4294967296) = ((r ^^^ s[k].toNat : Nat) : Int) := by
        rw [Int.emod_eq_of_lt (by omega) (by omega)]
        exact u32_xor_nat r s[k].toNat hl hb
      have h1 : r ^^^ s[k].toNat < 4294967296 := Nat.xor_lt_two_pow (n := 32) hl hb
      clear hb
      generalize r ^^^ s[k].toNat = x at *
      go_wp2
      clear hx
      go_loop [3, 5] (fun r i => ∃ j : Nat, j ≤ 8 ∧ r = .int .u32 ((crcs.sts j x : Nat) : Int) ∧ i = .int .i64 j) (fun _ i => 8 - (intOf i).toNat)
      case atStart => exact ⟨0, by omega, rfl, rfl⟩
      case round =>
        obtain ⟨j, hj, rfl, rfl⟩ := hrel
        have hy := sts_lt j x h1
        have HL := Lib.hid (sts_last j x)
        by_cases hj8 : j < 8
        · generalize crcs.sts j x = y at *
          by_cases hod : y % 2 = 1
          · have ho : (((y : Nat) : Int) % 2 == 1) = true := by rw [beq_iff_eq]; omega
            have hxx := u32_xor_nat (y / 2) 2197175160 (by omega) (by omega)
            have e : crcs.st y = y / 2 ^^^ 2197175160 := by rw [crcs.st, if_pos hod]
            have HE := Lib.hid e
            have HXX := Lib.hid hxx
            clear hod e hxx
            go_wp2
            go_round
            case rel => exact ⟨j + 1, by omega, by rw [HL.out, HE.out]; exact congrArg _ HXX.out, by go_num⟩
            case measure => simp [intOf]; omega
          · have ho : (((y : Nat) : Int) % 2 == 1) = false := by rw [beq_eq_false_iff_ne, ne_eq]; omega
            have e : crcs.st y = y / 2 := by rw [crcs.st, if_neg hod, Nat.xor_zero]
            have HE := Lib.hid e
            clear hod e
            go_wp2
            go_round
            case rel => exact ⟨j + 1, by omega, by rw [HL.out, HE.out]; go_num, by go_num⟩
            case measure => simp [intOf]; omega
        · have hj' : j = 8 := by omega
          subst hj'
          go_wp2
          go_round
          case rel => exact ⟨k + 1, by omega, by rw [HQ.out], by go_num⟩
          case measure => simp [intOf]; omega
    · have hu : bits .xor .u32 IntKind.u32.max ((crc 4294967295 (s.data.toList.take k) : Nat) : Int) = ((ck s.data.toList : Nat) : Int) := by
        have h := u32_xor_nat 4294967295 (crc 4294967295 (s.data.toList.take k)) (by decide) hl
        rw [ck, ← List.take_of_length_le (i := k) (l := s.data.toList) (by simp; omega), List.take_take, Nat.min_self]
        exact h
      have HU := Lib.hid hu
      clear hu
      go_wp2
      go_ret
      exact ⟨ret_int (by rw [HU.out]; exact wrap64_nat _ (ck_lt _)), rfl⟩
end Go.Proofs.YtmhpcbaoicboaaaDoor
