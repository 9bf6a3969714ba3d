/- Program and reference agree, function by function. -/
import Derived.Test.YtbdiofifjckceaaGreatDoorUm
import Derived.Test.YtbdiofifjckceaaGreatDoorZb
namespace Go.Proofs.YtbdiofifjckceaaGreatDoor
open Go.RowKit

set_option maxRecDepth 100000 in
theorem rRoot_no (s : ByteArray) (L : List UInt8) (w : World) (hL : s.data.toList = L) (hz : L.length ≤ 60000) (hv : vld L = false) :
    Calls Tryz.prog 20 #[.string s] w fun e w' => e = .returned (.tuple #[.string ⟨#[]⟩, .int .i64 30]) ∧ Below w.heap.size w w' := by
  have cV := fun W => rValid_any s L W hL hz
  rw [hv] at cV
  clear hL hz hv
  go_enter Tryz.func20, Tryz.ntmps20
  go_wp2_with (go_at_call 24; (with_reducible refine (cV _).mono ?_); rintro e w1 ⟨rfl, rfl⟩)
  go_ret2
  exact ⟨rfl, Below.refl _ _⟩
set_option maxRecDepth 100000 in
theorem rRoot_neg (z : Int) (w : World) (hz : z.natAbs < 10 ^ 200) (hp : z < 0) :
    Calls Tryz.prog 20 #[.string (S z)] w fun e w' => e = .returned (.tuple #[.string ⟨#[]⟩, .int .i64 30]) ∧ Below w.heap.size w w' := by
  have cV := fun W => rValid_any (S z) (txt z) W (S_list z) (S_len hz)
  rw [txt_vld hz] at cV
  have hsl := S_list z
  rw [txt, if_pos hp] at hsl
  generalize S z = s at *
  have hsz := bytes_size hsl
  rw [List.length_cons] at hsz
  have hg0 := fun h : 0 < s.size => bytes_at (j := 0) hsl rfl h
  have hs0 : 0 < s.size := by omega
  clear hsl hsz hz hp
  go_enter Tryz.func20, Tryz.ntmps20
  go_wp2_with (go_at_call 24; (with_reducible refine (cV _).mono ?_); rintro e w1 ⟨rfl, rfl⟩)
  go_ret2
  exact ⟨rfl, Below.refl _ _⟩

theorem root_uniq {n r s : Nat} (h1 : r * r ≤ n) (h2 : n < (r + 1) * (r + 1)) (h3 : s * s ≤ n) (h4 : n < (s + 1) * (s + 1)) : r = s := by
  rcases Nat.lt_trichotomy r s with h | h | h
  · have := Nat.mul_le_mul (show r + 1 ≤ s from h) (show r + 1 ≤ s from h); omega
  · exact h
  · have := Nat.mul_le_mul (show s + 1 ≤ r from h) (show s + 1 ≤ r from h); omega
theorem root_ex (n : Nat) : ∃ r, r * r ≤ n ∧ n < (r + 1) * (r + 1) := by
  induction n with
  | zero => exact ⟨0, by omega, by omega⟩
  | succ n ih =>
    obtain ⟨r, h1, h2⟩ := ih
    by_cases h : n + 1 < (r + 1) * (r + 1)
    · exact ⟨r, by omega, h⟩
    · exact ⟨r + 1, by omega, by
        have : (r + 1 + 1) * (r + 1 + 1) = (r + 1) * (r + 1) + (r + 1) + (r + 1) + 1 := by rw [Nat.add_mul (r + 1) 1, Nat.mul_add (r + 1), Nat.mul_one, Nat.one_mul]; omega
        omega⟩

/-- two functions of the program answer the same -/
def Ag (f g : FuncId) (args : Array Value) (v : Value) : Prop := ∀ W, Tz W → (Calls Tryz.prog f args W fun e w' => e = .returned v ∧ Below W.heap.size W w') ∧ (Calls Tryz.prog g args W fun e w' => e = .returned v ∧ Below W.heap.size W w')
variable (s1 s2 : ByteArray) (L1 L2 : List UInt8) (hL1 : s1.data.toList = L1) (hL2 : s2.data.toList = L2) (hl1 : L1.length ≤ 60000) (hl2 : L2.length ≤ 60000)
include hL1 hL2 hl1 hl2
theorem agAdd : ∃ R E, Ag 9 10 #[.string s1, .string s2] (.tuple #[.string R, .int .i64 E]) := by
  cases hv : vld L1 && vld L2
  · refine ⟨_, _, fun W _ => ⟨?_, rAdd_no s1 s2 L1 L2 W hL1 hL2 hl1 hl2 hv⟩⟩
    have h := Add_any s1 s2 L1 L2 W hL1 hL2 hl1 hl2
    rw [hv] at h
    exact h
  · have hb := (Bool.and_eq_true _ _).mp hv
    refine ⟨_, _, fun W _ => ⟨?_, rAdd_ok s1 s2 L1 L2 W hL1 hL2 hb.1 hb.2⟩⟩
    have h := Add_any s1 s2 L1 L2 W hL1 hL2 hl1 hl2
    rw [hv, res, ree, if_pos rfl, if_pos rfl] at h
    exact h
theorem agSub : ∃ R E, Ag 11 12 #[.string s1, .string s2] (.tuple #[.string R, .int .i64 E]) := by
  cases hv : vld L1 && vld L2
  · refine ⟨_, _, fun W _ => ⟨?_, rSub_no s1 s2 L1 L2 W hL1 hL2 hl1 hl2 hv⟩⟩
    have h := Sub_any s1 s2 L1 L2 W hL1 hL2 hl1 hl2
    rw [hv] at h
    exact h
  · have hb := (Bool.and_eq_true _ _).mp hv
    refine ⟨_, _, fun W _ => ⟨?_, rSub_ok s1 s2 L1 L2 W hL1 hL2 hb.1 hb.2⟩⟩
    have h := Sub_any s1 s2 L1 L2 W hL1 hL2 hl1 hl2
    rw [hv, res, ree, if_pos rfl, if_pos rfl] at h
    exact h
theorem agMul : ∃ R E, Ag 13 14 #[.string s1, .string s2] (.tuple #[.string R, .int .i64 E]) := by
  cases hv : vld L1 && vld L2
  · refine ⟨_, _, fun W _ => ⟨?_, rMul_no s1 s2 L1 L2 W hL1 hL2 hl1 hl2 hv⟩⟩
    have h := Mul_any s1 s2 L1 L2 W hL1 hL2 hl1 hl2
    rw [hv] at h
    exact h
  · have hb := (Bool.and_eq_true _ _).mp hv
    refine ⟨_, _, fun W _ => ⟨?_, rMul_ok s1 s2 L1 L2 W hL1 hL2 hb.1 hb.2⟩⟩
    have h := Mul_any s1 s2 L1 L2 W hL1 hL2 hl1 hl2
    rw [hv, res, ree, if_pos rfl, if_pos rfl] at h
    exact h
theorem agGcd : ∃ R E, Ag 17 18 #[.string s1, .string s2] (.tuple #[.string R, .int .i64 E]) := by
  cases hv : vld L1 && vld L2
  · refine ⟨_, _, fun W _ => ⟨?_, rGcd_no s1 s2 L1 L2 W hL1 hL2 hl1 hl2 hv⟩⟩
    have h := Gcd_any s1 s2 L1 L2 W hL1 hL2 hl1 hl2
    rw [hv] at h
    exact h
  · have hb := (Bool.and_eq_true _ _).mp hv
    refine ⟨_, _, fun W _ => ⟨?_, rGcd_ok s1 s2 L1 L2 W hL1 hL2 hb.1 hb.2⟩⟩
    have h := Gcd_any s1 s2 L1 L2 W hL1 hL2 hl1 hl2
    rw [hv, res, ree, if_pos rfl, if_pos rfl] at h
    exact h
theorem agDiv : ∃ R R2 E, Ag 15 16 #[.string s1, .string s2] (.tuple #[.string R, .string R2, .int .i64 E]) := by
  cases hv : vld L1 && vld L2
  · exact ⟨_, _, _, fun W _ => ⟨Div_no s1 s2 L1 L2 W hL1 hL2 hl1 hl2 (fun h => by rw [hv] at h; cases h), rDiv_no s1 s2 L1 L2 W hL1 hL2 hl1 hl2 hv⟩⟩
  · have hb := (Bool.and_eq_true _ _).mp hv
    by_cases h0 : num L2 = 0
    · exact ⟨_, _, _, fun W _ => ⟨Div_no s1 s2 L1 L2 W hL1 hL2 hl1 hl2 (fun _ => h0), rDiv_zero s1 s2 L1 L2 W hL1 hL2 hb.1 hb.2 h0⟩⟩
    · exact ⟨_, _, _, fun W _ => ⟨Div_any s1 s2 L1 L2 W hL1 hL2 hb.1 hb.2 h0, rDiv_ok s1 s2 L1 L2 W hL1 hL2 hb.1 hb.2 h0⟩⟩
theorem agCompare : ∃ C, Ag 25 26 #[.string s1, .string s2] (.int .i64 C) := by
  cases hv : vld L1 && vld L2
  · refine ⟨_, fun W _ => ⟨?_, rCompare_no s1 s2 L1 L2 W hL1 hL2 hl1 hl2 hv⟩⟩
    have h := Compare_any s1 s2 L1 L2 W hL1 hL2 hl1 hl2
    rw [hv] at h
    exact h
  · have hb := (Bool.and_eq_true _ _).mp hv
    refine ⟨_, fun W _ => ⟨?_, rCompare_ok s1 s2 L1 L2 W hL1 hL2 hb.1 hb.2⟩⟩
    have h := Compare_any s1 s2 L1 L2 W hL1 hL2 hl1 hl2
    rw [hv, if_pos rfl] at h
    exact h
omit hL2 hl2
theorem agValid : ∃ b, Ag 23 24 #[.string s1] (.bool b) :=
  ⟨vld L1, fun W _ => ⟨(Valid_any s1 L1 W hL1 hl1).mono fun e w' h => ⟨h.1, by first | exact h.2 | (rw [← h.2]; exact Below.refl _ _)⟩, (rValid_any s1 L1 W hL1 hl1).mono fun e w' h => ⟨h.1, by rw [← h.2]; exact Below.refl _ _⟩⟩⟩
theorem agToInt : ∃ K E, Ag 21 22 #[.string s1] (.tuple #[.int .i64 K, .int .i64 E]) := by
  cases hv : vld L1
  · exact ⟨_, _, fun W _ => ⟨ToInt_no s1 L1 W hL1 hl1 hv, rToInt_no s1 L1 W hL1 hl1 hv⟩⟩
  · have hz := (vld_txt hv).2
    have he : s1 = S (num L1) := by rw [S_lit hv, ← hL1]
    by_cases h0 : -9223372036854775808 ≤ num L1 ∧ num L1 ≤ 9223372036854775807
    · rw [he]
      exact ⟨_, _, fun W _ => ⟨ToInt_ok (num L1) W h0.1 h0.2, rToInt_S (num L1) W h0.1 h0.2⟩⟩
    · refine ⟨_, _, fun W hT => ⟨?_, rToInt_out s1 L1 W hL1 hv h0⟩⟩
      rw [he]
      exact ToInt_out (num L1) W hz h0 hT
theorem agRoot : ∃ R E, Ag 19 20 #[.string s1] (.tuple #[.string R, .int .i64 E]) := by
  cases hv : vld L1
  · exact ⟨_, _, fun W _ => ⟨Root_no s1 L1 W hL1 hl1 (fun h => by rw [hv] at h; cases h), rRoot_no s1 L1 W hL1 hl1 hv⟩⟩
  · have hz := (vld_txt hv).2
    have he : s1 = S (num L1) := by rw [S_lit hv, ← hL1]
    by_cases h0 : num L1 < 0
    · refine ⟨_, _, fun W _ => ⟨Root_no s1 L1 W hL1 hl1 (fun _ => h0), ?_⟩⟩
      rw [he]
      exact rRoot_neg (num L1) W hz h0
    · obtain ⟨r, h1, h2⟩ := root_ex (num L1).natAbs
      refine ⟨S r, 0, fun W _ => ⟨?_, ?_⟩⟩
      · refine (Root_any s1 L1 W hL1 hv (by omega)).mono fun e w' ⟨q, he, g1, g2, hb⟩ => ⟨?_, hb⟩
        have hq : q = r := root_uniq (n := (num L1).natAbs) (by
          have : ((q * q : Nat) : Int) = (q : Int) * q := Int.natCast_mul q q
          omega) (by
          have : (((q + 1) * (q + 1) : Nat) : Int) = ((q : Int) + 1) * ((q : Int) + 1) := by rw [Int.natCast_mul]; rfl
          omega) h1 h2
        rw [he, hq]; rfl
      · rw [he]
        refine (rRoot_S (num L1) W hz (by omega)).mono fun e w' ⟨⟨q, he, g1, g2⟩, hb⟩ => ⟨?_, hb⟩
        rw [he, root_uniq g1 g2 h1 h2]
end Go.Proofs.YtbdiofifjckceaaGreatDoor
