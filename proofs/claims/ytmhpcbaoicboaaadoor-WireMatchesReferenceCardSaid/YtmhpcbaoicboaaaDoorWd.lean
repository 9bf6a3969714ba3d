/- Walks of package wire's Sum. -/
import Derived.Test.YtmhpcbaoicboaaaDoorChecked
import Derived.Test.YtmhpcbaoicboaaaDoorWa
import Derived.WalkKit
import Derived.Lib.LaidTab
import Derived.WalkLawsBesides
import Derived.WalkSpells
import Derived.Lib.IndexBytes
import Derived.Lib.Hide
import Derived.Laws.BitsAllLaws
namespace Go.Proofs.YtmhpcbaoicboaaaDoor
open Go.RowKit

def tab : List Nat := [0, 274646895, 549293790, 820201905, 1098587580, 1361435347, 1640403810, 1905808397, 2197175160, 2460548119, 2722870694, 2987750089, 3280807620, 3553878443, 3811616794, 4084100981]

/-- the register, shifted by 4 bits -/
def sh (r : Nat) : Nat := r / 16 ^^^ tab.getD (r % 16) 0
/-- the register behind a byte -/
def by1 (r : Nat) (b : UInt8) : Nat := sh (sh (r ^^^ b.toNat))
/-- the register behind a string -/
def crc (r : Nat) (l : List UInt8) : Nat := l.foldl by1 r

theorem tab_lt (i : Nat) : tab.getD i 0 < 4294967296 := by
  by_cases h : i < 16
  · have : ∀ i : Fin 16, tab.getD i 0 < 4294967296 := by decide
    exact this ⟨i, h⟩
  · rw [List.getD_eq_getElem?_getD, List.getElem?_eq_none (by simp [tab]; omega)]; decide
theorem sh_lt (r : Nat) (h : r < 4294967296) : sh r < 4294967296 :=
  Nat.xor_lt_two_pow (n := 32) (show r / 16 < 2 ^ 32 by omega) (tab_lt _)
theorem by1_lt (r : Nat) (b : UInt8) (h : r < 4294967296) : by1 r b < 4294967296 :=
  sh_lt _ (sh_lt _ (Nat.xor_lt_two_pow (n := 32) h (by have := b.toNat_lt; omega)))
theorem crc_lt (l : List UInt8) : ∀ r, r < 4294967296 → crc r l < 4294967296 := by
  induction l with
  | nil => intro r h; exact h
  | cons b l ih => intro r h; exact ih _ (by1_lt r b h)
theorem crc_snoc (r : Nat) (l : List UInt8) (b : UInt8) : crc r (l ++ [b]) = by1 (crc r l) b := by simp [crc]

/-- the table lies where the program lays it -/
def Tab (w : World) : Prop := ∀ i, i < 16 → w.cell? ⟨0, i, none⟩ = some (.int .u32 ((tab.getD i 0 : Nat) : Int))

theorem Tab.below {w w' : World} (h : Tab w) (hb : Below w.heap.size w w') : Tab w' := fun i hi => cell_later hb (h i hi)

theorem shift_any (r : Nat) (h1 : r < 4294967296) (w : World) (ht : Tab w) :
    Calls Tryd.prog 28 #[.int .u32 r] w fun e w' => e = .returned (.int .u32 ((sh r : Nat) : Int)) ∧ w = w' := by
  have hz := ht (r % 16) (by omega)
  have HT := Lib.hid ht
  clear ht
  have hx := u32_xor_nat (r / 16) (tab.getD (r % 16) 0) (by omega) (tab_lt _)
  have HX := Lib.hid hx
  clear hx
  go_enter Tryd.func28, Tryd.ntmps28
  go_wp2
  go_ret
  exact ⟨ret_int (by have h := HX.out; simpa [sh] using h), rfl⟩

theorem take_snoc (s : ByteArray) (k : Nat) (h : k < s.size) : s.data.toList.take (k + 1) = s.data.toList.take k ++ [s[k]] := by
  rw [List.take_succ_eq_append_getElem (by simpa using h)]; rfl

/-- the checksum -/
def ck (l : List UInt8) : Nat := 4294967295 ^^^ crc 4294967295 l
theorem ck_lt (l : List UInt8) : ck l < 4294967296 := Nat.xor_lt_two_pow (n := 32) (by decide) (crc_lt l _ (by decide))
theorem wrap64_nat (n : Nat) (h : n < 4294967296) : wrap64 (n : Int) = n := by unfold wrap64; omega

set_option maxRecDepth 100000 in
theorem sum_any (s : ByteArray) (hs : s.size ≤ maxLen) (w : World) (ht : Tab w) :
    Calls Tryd.prog 21 #[.string s] w fun e w' => e = .returned (.int .i64 ((ck s.data.toList : Nat) : Int)) ∧ w = w' := by
  unfold maxLen at hs
  have HT := Lib.hid ht
  clear ht
  go_enter Tryd.func21, Tryd.ntmps21
  go_wp2
  go_loop [3, 4] (fun r i => ∃ k : Nat, k ≤ s.size ∧ r = .int .u32 ((crc 4294967295 (s.data.toList.take k) : Nat) : Int) ∧ i = .int .i64 k) (fun _ i => s.size - (intOf i).toNat)
  case atStart => exact ⟨0, by omega, rfl, rfl⟩
  case round =>
    obtain ⟨k, hk, rfl, rfl⟩ := hrel
    have hl := crc_lt (s.data.toList.take k) 4294967295 (by omega)
    by_cases hlt : k < s.size
    · have HS := Lib.hid (take_snoc s k hlt)
      have hq : crc 4294967295 (s.data.toList.take (k + 1)) = sh (sh (crc 4294967295 (s.data.toList.take k) ^^^ s[k].toNat)) := by rw [HS.out, crc_snoc, by1]
      have HQ := Lib.hid hq
      clear hq
      generalize crc 4294967295 (s.data.toList.take k) = r at *
      have hb : s[k].toNat < 4294967296 := by have := s[k].toNat_lt; omega
      have hx : bits .xor .u32 (r : Int) ((s[k].toNat : Int) % 4294967296) = ((r ^^^ s[k].toNat : Nat) : Int) := by
        rw [Int.emod_eq_of_lt (by omega) (by omega)]
        exact u32_xor_nat r s[k].toNat hl hb
      have h1 : r ^^^ s[k].toNat < 4294967296 := Nat.xor_lt_two_pow (n := 32) hl hb
      have h2 := sh_lt _ h1
      clear hb
      go_wp2_with (go_at_call 28; refine (shift_any _ (by assumption) _ HT.out).mono ?_; rintro e w' ⟨rfl, rfl⟩)
      go_round
      case rel => exact ⟨k + 1, by omega, by rw [HQ.out], by go_num⟩
      case measure => simp [intOf]; omega
    · have hu : bits .xor .u32 IntKind.u32.max ((crc 4294967295 (s.data.toList.take k) : Nat) : Int) = ((ck s.data.toList : Nat) : Int) := by
        have h := u32_xor_nat 4294967295 (crc 4294967295 (s.data.toList.take k)) (by decide) hl
        rw [ck, ← List.take_of_length_le (i := k) (l := s.data.toList) (by simp; omega), List.take_take, Nat.min_self]
        exact h
      have HU := Lib.hid hu
      clear hu
      go_wp2
      go_ret
      exact ⟨ret_int (by rw [HU.out]; exact wrap64_nat _ (ck_lt _)), rfl⟩
end Go.Proofs.YtmhpcbaoicboaaaDoor
