/- Walks of package wire's small functions. -/
import Derived.Test.YtmhpcbaoicboaaaDoorChecked
import Derived.Test.YtmhpcbaoicboaaaDoorMa
import Derived.WalkKit
import Derived.Lib.LaidTab
import Derived.WalkLawsBesides
import Derived.WalkSpells
import Derived.Lib.IndexBytes
import Derived.Lib.Hide
namespace Go.Proofs.YtmhpcbaoicboaaaDoor
open Go.RowKit
theorem ret_int {k : IntKind} {a b : Int} (h : a = b) : Ending.returned (.int k a) = .returned (.int k b) := by rw [h]

def pk (c n : Int) : Int := (if c < 0 then -(c + 1) else c) % n

theorem pick_any (c n : Int) (w : World) (h0 : -9223372036854775808 ≤ c) (h1 : c ≤ 9223372036854775807) (h2 : 0 < n) (h3 : n ≤ 9223372036854775807) :
    Calls Tryd.prog 14 #[.int .i64 c, .int .i64 n] w fun e w' => e = .returned (.int .i64 (pk c n)) ∧ w = w' := by
  by_cases hc : c < 0
  · go_enter Tryd.func14, Tryd.ntmps14
    go_wp2
    go_ret
    exact ⟨ret_int (by rw [pk, if_pos hc, ← Int.neg_tmod, Int.tmod_eq_emod_of_nonneg (by omega)]), rfl⟩
  · go_enter Tryd.func14, Tryd.ntmps14
    go_wp2
    go_ret
    exact ⟨ret_int (by rw [pk, if_neg (by omega)]), rfl⟩

theorem unfold_any (z : Nat) (h0 : z < 9223372036854775808) (w : World) :
    Calls Tryd.prog 26 #[.int .u64 z] w fun e w' => e = .returned (.int .i64 (unz z)) ∧ w = w' := by
  by_cases hc : z % 2 = 1
  · have hb : (((z : Nat) : Int) % 2 == 1) = true := by simp; omega
    go_enter Tryd.func26, Tryd.ntmps26
    go_wp2
    go_ret
    exact ⟨ret_int (by rw [unz, if_pos hc]; omega), rfl⟩
  · have hb : (((z : Nat) : Int) % 2 == 1) = false := by simp; omega
    go_enter Tryd.func26, Tryd.ntmps26
    go_wp2
    go_ret
    exact ⟨ret_int (by rw [unz, if_neg hc]; omega), rfl⟩

theorem fold_any (n : Int) (h0 : -4611686018427387903 ≤ n) (h1 : n ≤ 4611686018427387903) (w : World) :
    Calls Tryd.prog 30 #[.int .i64 n] w fun e w' => e = .returned (.int .u64 (zig n)) ∧ w = w' := by
  by_cases hc : n < 0
  · go_enter Tryd.func30, Tryd.ntmps30
    go_wp2
    go_ret
    exact ⟨ret_int (by rw [zig, if_pos hc]; omega), rfl⟩
  · go_enter Tryd.func30, Tryd.ntmps30
    go_wp2
    go_ret
    exact ⟨ret_int (by rw [zig, if_neg (by omega)]; omega), rfl⟩

def jv (l : List UInt8) : Nat × Nat := (jn l 0 0).getD (0, 0)

theorem wrap_u64 (x : Int) (h0 : 0 ≤ x) (h1 : x < 18446744073709551616) : IntKind.u64.wrap x = x := by
  simp only [IntKind.wrap, IntKind.bits, IntKind.signed]
  exact Int.emod_eq_of_lt h0 (by simpa using h1)

theorem pow9 (k : Nat) (h : k < 9) : 128 ^ (k + 1) ≤ 9223372036854775808 :=
  Nat.le_trans (Nat.pow_le_pow_right (by omega) (show k + 1 ≤ 9 by omega)) (by decide)

theorem next_lt (k acc b : Nat) (ha : acc < 128 ^ k) : acc + b % 128 * 128 ^ k < 128 ^ (k + 1) := by
  have h : (b % 128 + 1) * 128 ^ k ≤ 128 * 128 ^ k := Nat.mul_le_mul_right _ (by omega)
  rw [Nat.add_mul, Nat.one_mul] at h
  rw [Nat.pow_succ]
  omega

theorem next_wrap (k acc b : Nat) (hk : k < 9) (ha : acc < 128 ^ k) :
    IntKind.u64.wrap ((acc : Int) + IntKind.u64.wrap ((b : Int) % 128 * 2 ^ (7 * k))) = ((acc + b % 128 * 128 ^ k : Nat) : Int) := by
  have h1 := next_lt k acc b ha
  have h2 := pow9 k hk
  have e : (b : Int) % 128 * 2 ^ (7 * k) = ((b % 128 * 128 ^ k : Nat) : Int) := by
    rw [Int.pow_mul]; simp
  rw [e, wrap_u64 ((b % 128 * 128 ^ k : Nat) : Int) (by omega) (by omega), ← Int.natCast_add, wrap_u64 _ (by omega) (by omega)]

theorem drop_byte (s : ByteArray) (k : Nat) (h : k < s.size) : s.data.toList.drop k = s[k] :: s.data.toList.drop (k + 1) := by
  rw [List.drop_eq_getElem_cons (by simpa using h)]; rfl

theorem jn_go (l : List UInt8) (b : UInt8) (k acc : Nat) (h9 : k < 9) (hb : 128 ≤ b.toNat) : jn (b :: l) k acc = jn l (k + 1) (acc + b.toNat % 128 * 128 ^ k) := by
  have := b.toNat_lt
  have e : b.toNat - 128 = b.toNat % 128 := by omega
  rw [jn, if_neg (by omega), if_pos hb, e]
theorem jn_no (l : List UInt8) (b : UInt8) (k acc : Nat) (hb : b.toNat = 0) (h0 : 0 < k) : jn (b :: l) k acc = none := by
  rw [jn]
  split
  · rfl
  · rw [if_neg (by omega), if_pos ⟨hb, h0⟩]
theorem jn_yes (l : List UInt8) (b : UInt8) (k acc : Nat) (h9 : k < 9) (hb : b.toNat < 128) (h0 : ¬ (b.toNat = 0 ∧ 0 < k)) : jn (b :: l) k acc = some (acc + b.toNat % 128 * 128 ^ k, k + 1) := by
  rw [jn, if_neg (by omega), if_neg (by omega), if_neg h0, Nat.mod_eq_of_lt hb]
theorem ret2 {a b : Int} {c d : Int} (h : a = c) (h' : b = d) : Ending.returned (.tuple #[.int .u64 a, .int .i64 b]) = .returned (.tuple #[.int .u64 c, .int .i64 d]) := by rw [h, h']

set_option maxRecDepth 100000 in
theorem join_any (s : ByteArray) (hs : s.size ≤ maxLen) (w : World) :
    Calls Tryd.prog 25 #[.string s] w fun e w' => e = .returned (.tuple #[.int .u64 (jv s.data.toList).1, .int .i64 (jv s.data.toList).2]) ∧ w = w' := by
  unfold maxLen at hs
  go_enter Tryd.func25, Tryd.ntmps25
  go_wp2
  go_loop [4, 5] (fun z i => ∃ k acc : Nat, k ≤ s.size ∧ k ≤ 9 ∧ acc < 128 ^ k ∧ z = .int .u64 acc ∧ i = .int .i64 k ∧ jn s.data.toList 0 0 = jn (s.data.toList.drop k) k acc) (fun _ i => s.size - (intOf i).toNat)
  case atStart => exact ⟨0, 0, by omega, by omega, by omega, rfl, rfl, by simp⟩
  case round =>
    obtain ⟨k, acc, hk, hk9, hacc, rfl, rfl, hj⟩ := hrel
    have HJ := Lib.hid hj
    clear hj
    by_cases hlt : k < s.size
    · have hd := drop_byte s k hlt
      have HD := Lib.hid hd
      clear hd
      by_cases h9 : k < 9
      · have hw := next_wrap k acc s[k].toNat h9 hacc
        have HW := Lib.hid hw
        clear hw
        by_cases hA : 128 ≤ (s[k].toNat : Int)
        · go_wp2
          go_round
          case rel => exact ⟨k + 1, _, by omega, by omega, next_lt k acc s[k].toNat hacc, by rw [HW.out], by go_num, by rw [HJ.out, HD.out, jn_go _ _ _ _ h9 (by omega)]⟩
          case measure => simp [intOf]; omega
        · by_cases hB : s[k].toNat = 0
          · have hB1 : ((s[k].toNat : Int) == 0) = true := by simp [hB]
            by_cases h0 : 0 < k
            · have HN := Lib.hid (jn_no (s.data.toList.drop (k + 1)) s[k] k acc hB h0)
              clear hB
              go_wp2
              go_ret2
              exact ⟨ret2 (by rw [jv, HJ.out, HD.out, HN.out]; rfl) (by rw [jv, HJ.out, HD.out, HN.out]; rfl), rfl⟩
            · have HN := Lib.hid (jn_yes (s.data.toList.drop (k + 1)) s[k] k acc h9 (by omega) (by omega))
              clear hB
              go_wp2
              go_ret2
              exact ⟨ret2 (by rw [jv, HJ.out, HD.out, HN.out, HW.out]; rfl) (by rw [jv, HJ.out, HD.out, HN.out]; rfl), rfl⟩
          · have hB1 : ((s[k].toNat : Int) == 0) = false := by simp; omega
            have HN := Lib.hid (jn_yes (s.data.toList.drop (k + 1)) s[k] k acc h9 (by omega) (by omega))
            clear hB
            go_wp2
            go_ret2
            exact ⟨ret2 (by rw [jv, HJ.out, HD.out, HN.out, HW.out]; rfl) (by rw [jv, HJ.out, HD.out, HN.out]; rfl), rfl⟩
      · go_wp2
        go_ret2
        exact ⟨ret2 (by rw [jv, HJ.out, HD.out, jn, if_pos (by omega)]; rfl) (by rw [jv, HJ.out, HD.out, jn, if_pos (by omega)]; rfl), rfl⟩
    · go_wp2
      go_ret2
      exact ⟨ret2 (by rw [jv, HJ.out, List.drop_of_length_le (by simp; omega)]; rfl) (by rw [jv, HJ.out, List.drop_of_length_le (by simp; omega)]; rfl), rfl⟩
end Go.Proofs.YtmhpcbaoicboaaaDoor
