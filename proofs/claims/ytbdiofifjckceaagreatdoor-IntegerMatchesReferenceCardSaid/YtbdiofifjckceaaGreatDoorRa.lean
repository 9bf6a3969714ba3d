/- Package integer's functions over integers in writing. -/
import Derived.Test.YtbdiofifjckceaaGreatDoorQg
namespace Go.Proofs.YtbdiofifjckceaaGreatDoor
open Go.RowKit

/-- an integer in writing -/
def S (z : Int) : ByteArray := ⟨(txt z).toArray⟩
theorem S_list (z : Int) : (S z).data.toList = txt z := by simp [S]
theorem S_lit {L : List UInt8} (h : vld L = true) : S (num L) = ⟨L.toArray⟩ := by rw [S, txt_lit h]
theorem S_zero : S 0 = ⟨#[48]⟩ := S_lit (L := [48]) (by decide)
theorem S_one : S 1 = ⟨#[49]⟩ := S_lit (L := [49]) (by decide)
theorem S_inj {a b : Int} (h : S a = S b) : a = b := by
  have := congrArg (fun x : ByteArray => x.data.toList) h
  simp only [S_list] at this
  exact txt_inj this
theorem S_dec (a b : Int) : decide (S a = S b) = decide (a = b) := by
  by_cases h : a = b
  · subst h; simp
  · rw [decide_eq_false h, decide_eq_false (fun e => h (S_inj e))]
theorem S_len {z : Int} (h : z.natAbs < 10 ^ 200) : (txt z).length ≤ 60000 := by
  have := (vld_digits (txt_vld h)).2.2
  omega
theorem mulb {a b : Int} {p q r : Nat} (h1 : a.natAbs < 10 ^ p) (h2 : b.natAbs < 10 ^ q) (h : p + q ≤ r) : (a * b).natAbs < 10 ^ r := by
  rw [Int.natAbs_mul]
  have h3 := Nat.mul_lt_mul'' h1 h2
  rw [← Nat.pow_add] at h3
  exact Nat.lt_of_lt_of_le h3 (Nat.pow_le_pow_right (by decide) h)
theorem addb {a b : Int} {p : Nat} (h1 : a.natAbs < 10 ^ p) (h2 : b.natAbs < 10 ^ p) : (a + b).natAbs < 10 ^ (p + 1) := by
  rw [Nat.pow_succ]; omega
theorem subb {a b : Int} {p : Nat} (h1 : a.natAbs < 10 ^ p) (h2 : b.natAbs < 10 ^ p) : (a - b).natAbs < 10 ^ (p + 1) := by
  rw [Nat.pow_succ]; omega
theorem wide {a : Int} {p q : Nat} (h1 : a.natAbs < 10 ^ p) (h : p ≤ q) : a.natAbs < 10 ^ q := Nat.lt_of_lt_of_le h1 (Nat.pow_le_pow_right (by decide) h)

theorem Add_S (x y : Int) (hx : x.natAbs < 10 ^ 200) (hy : y.natAbs < 10 ^ 200) (hz : (x + y).natAbs < 10 ^ 200) (w : World) :
    Calls Tryz.prog 9 #[.string (S x), .string (S y)] w fun e w' => e = .returned (.tuple #[.string (S (x + y)), .int .i64 0]) ∧ Below w.heap.size w w' := by
  have h := Add_any (S x) (S y) (txt x) (txt y) w (S_list x) (S_list y) (S_len hx) (S_len hy)
  rw [txt_vld hx, txt_vld hy, Bool.and_true, txt_num, txt_num, res, ree, rs, er, if_pos rfl, if_pos rfl, if_pos hz, if_pos hz] at h
  exact h
theorem Add_F (x y : Int) (hx : x.natAbs < 10 ^ 200) (hy : y.natAbs < 10 ^ 200) (hz : ¬ (x + y).natAbs < 10 ^ 200) (w : World) :
    Calls Tryz.prog 9 #[.string (S x), .string (S y)] w fun e w' => e = .returned (.tuple #[.string ⟨#[]⟩, .int .i64 30]) ∧ Below w.heap.size w w' := by
  have h := Add_any (S x) (S y) (txt x) (txt y) w (S_list x) (S_list y) (S_len hx) (S_len hy)
  rw [txt_vld hx, txt_vld hy, Bool.and_true, txt_num, txt_num, res, ree, rs, er, if_pos rfl, if_pos rfl, if_neg hz, if_neg hz] at h
  exact h

theorem Sub_S (x y : Int) (hx : x.natAbs < 10 ^ 200) (hy : y.natAbs < 10 ^ 200) (hz : (x - y).natAbs < 10 ^ 200) (w : World) :
    Calls Tryz.prog 11 #[.string (S x), .string (S y)] w fun e w' => e = .returned (.tuple #[.string (S (x - y)), .int .i64 0]) ∧ Below w.heap.size w w' := by
  have h := Sub_any (S x) (S y) (txt x) (txt y) w (S_list x) (S_list y) (S_len hx) (S_len hy)
  rw [txt_vld hx, txt_vld hy, Bool.and_true, txt_num, txt_num, res, ree, rs, er, if_pos rfl, if_pos rfl, if_pos hz, if_pos hz] at h
  exact h
theorem Sub_F (x y : Int) (hx : x.natAbs < 10 ^ 200) (hy : y.natAbs < 10 ^ 200) (hz : ¬ (x - y).natAbs < 10 ^ 200) (w : World) :
    Calls Tryz.prog 11 #[.string (S x), .string (S y)] w fun e w' => e = .returned (.tuple #[.string ⟨#[]⟩, .int .i64 30]) ∧ Below w.heap.size w w' := by
  have h := Sub_any (S x) (S y) (txt x) (txt y) w (S_list x) (S_list y) (S_len hx) (S_len hy)
  rw [txt_vld hx, txt_vld hy, Bool.and_true, txt_num, txt_num, res, ree, rs, er, if_pos rfl, if_pos rfl, if_neg hz, if_neg hz] at h
  exact h

theorem Mul_S (x y : Int) (hx : x.natAbs < 10 ^ 200) (hy : y.natAbs < 10 ^ 200) (hz : (x * y).natAbs < 10 ^ 200) (w : World) :
    Calls Tryz.prog 13 #[.string (S x), .string (S y)] w fun e w' => e = .returned (.tuple #[.string (S (x * y)), .int .i64 0]) ∧ Below w.heap.size w w' := by
  have h := Mul_any (S x) (S y) (txt x) (txt y) w (S_list x) (S_list y) (S_len hx) (S_len hy)
  rw [txt_vld hx, txt_vld hy, Bool.and_true, txt_num, txt_num, res, ree, rs, er, if_pos rfl, if_pos rfl, if_pos hz, if_pos hz] at h
  exact h
theorem Mul_F (x y : Int) (hx : x.natAbs < 10 ^ 200) (hy : y.natAbs < 10 ^ 200) (hz : ¬ (x * y).natAbs < 10 ^ 200) (w : World) :
    Calls Tryz.prog 13 #[.string (S x), .string (S y)] w fun e w' => e = .returned (.tuple #[.string ⟨#[]⟩, .int .i64 30]) ∧ Below w.heap.size w w' := by
  have h := Mul_any (S x) (S y) (txt x) (txt y) w (S_list x) (S_list y) (S_len hx) (S_len hy)
  rw [txt_vld hx, txt_vld hy, Bool.and_true, txt_num, txt_num, res, ree, rs, er, if_pos rfl, if_pos rfl, if_neg hz, if_neg hz] at h
  exact h

theorem Gcd_S (x y : Int) (hx : x.natAbs < 10 ^ 200) (hy : y.natAbs < 10 ^ 200) (hz : (((Nat.gcd x.natAbs y.natAbs : Nat) : Int)).natAbs < 10 ^ 200) (w : World) :
    Calls Tryz.prog 17 #[.string (S x), .string (S y)] w fun e w' => e = .returned (.tuple #[.string (S (((Nat.gcd x.natAbs y.natAbs : Nat) : Int))), .int .i64 0]) ∧ Below w.heap.size w w' := by
  have h := Gcd_any (S x) (S y) (txt x) (txt y) w (S_list x) (S_list y) (S_len hx) (S_len hy)
  rw [txt_vld hx, txt_vld hy, Bool.and_true, txt_num, txt_num, res, ree, rs, er, if_pos rfl, if_pos rfl, if_pos hz, if_pos hz] at h
  exact h
theorem Gcd_F (x y : Int) (hx : x.natAbs < 10 ^ 200) (hy : y.natAbs < 10 ^ 200) (hz : ¬ (((Nat.gcd x.natAbs y.natAbs : Nat) : Int)).natAbs < 10 ^ 200) (w : World) :
    Calls Tryz.prog 17 #[.string (S x), .string (S y)] w fun e w' => e = .returned (.tuple #[.string ⟨#[]⟩, .int .i64 30]) ∧ Below w.heap.size w w' := by
  have h := Gcd_any (S x) (S y) (txt x) (txt y) w (S_list x) (S_list y) (S_len hx) (S_len hy)
  rw [txt_vld hx, txt_vld hy, Bool.and_true, txt_num, txt_num, res, ree, rs, er, if_pos rfl, if_pos rfl, if_neg hz, if_neg hz] at h
  exact h

theorem Div_S (x y : Int) (hx : x.natAbs < 10 ^ 200) (hy : y.natAbs < 10 ^ 200) (h0 : y ≠ 0) (w : World) :
    Calls Tryz.prog 15 #[.string (S x), .string (S y)] w fun e w' => e = .returned (.tuple #[.string (S (x / y)), .string (S (x % y)), .int .i64 0]) ∧ Below w.heap.size w w' := by
  have h := Div_any (S x) (S y) (txt x) (txt y) w (S_list x) (S_list y) (txt_vld hx) (txt_vld hy) (by rw [txt_num]; exact h0)
  rw [txt_num, txt_num] at h
  exact h
theorem Div_Z (x : Int) (hx : x.natAbs < 10 ^ 200) (w : World) :
    Calls Tryz.prog 15 #[.string (S x), .string (S 0)] w fun e w' => e = .returned (.tuple #[.string ⟨#[]⟩, .string ⟨#[]⟩, .int .i64 30]) ∧ Below w.heap.size w w' :=
  Div_no (S x) (S 0) (txt x) (txt 0) w (S_list x) (S_list 0) (S_len hx) (S_len (by decide)) (fun _ => txt_num 0)
theorem Compare_S (x y : Int) (hx : x.natAbs < 10 ^ 200) (hy : y.natAbs < 10 ^ 200) (w : World) :
    Calls Tryz.prog 25 #[.string (S x), .string (S y)] w fun e w' => e = .returned (.int .i64 (cmpN x y)) ∧ Below w.heap.size w w' := by
  have h := Compare_any (S x) (S y) (txt x) (txt y) w (S_list x) (S_list y) (S_len hx) (S_len hy)
  rw [txt_vld hx, txt_vld hy, Bool.and_true, if_pos rfl, txt_num, txt_num] at h
  exact h
theorem Valid_S (x : Int) (hx : x.natAbs < 10 ^ 200) (w : World) :
    Calls Tryz.prog 23 #[.string (S x)] w fun e w' => e = .returned (.bool true) ∧ Below w.heap.size w w' := by
  have h := Valid_any (S x) (txt x) w (S_list x) (S_len hx)
  rw [txt_vld hx] at h
  exact h
theorem Root_S (x : Int) (hx : x.natAbs < 10 ^ 200) (h0 : 0 ≤ x) (w : World) :
    Calls Tryz.prog 19 #[.string (S x)] w fun e w' => ∃ r : Nat, e = .returned (.tuple #[.string (S r), .int .i64 0]) ∧ (r : Int) * r ≤ x ∧ x < (r + 1) * (r + 1) ∧ Below w.heap.size w w' := by
  have h := Root_any (S x) (txt x) w (S_list x) (txt_vld hx) (by rw [txt_num]; exact h0)
  rw [txt_num] at h
  exact h
theorem Root_N (x : Int) (hx : x.natAbs < 10 ^ 200) (h0 : x < 0) (w : World) :
    Calls Tryz.prog 19 #[.string (S x)] w fun e w' => e = .returned (.tuple #[.string ⟨#[]⟩, .int .i64 30]) ∧ Below w.heap.size w w' :=
  Root_no (S x) (txt x) w (S_list x) (S_len hx) (fun _ => by rw [txt_num]; exact h0)
theorem Made_S (s : ByteArray) (most : Nat) (w : World) (h9 : most ≤ 200) (h0 : 0 < most) (hs : s.size ≤ 9223372036854775807) :
    Calls Tryz.prog 7 #[.string s, .int .i64 (most : Int)] w fun e w' => ∃ z : Int, e = .returned (.string (S z)) ∧ z.natAbs < 10 ^ most ∧ Below w.heap.size w w' := Made_any s most w h9 h0 hs
end Go.Proofs.YtbdiofifjckceaaGreatDoor
