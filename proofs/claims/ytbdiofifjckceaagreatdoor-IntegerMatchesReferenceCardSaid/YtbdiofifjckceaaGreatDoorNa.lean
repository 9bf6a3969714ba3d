/- Naturals in groups of four digits, plain: values, carrying, trimming, order. -/
import Derived.WalkKit
namespace Go.Proofs.YtbdiofifjckceaaGreatDoor
/-- the groups of a number, the least significant one first -/
def grp (n : Nat) : List Int := if h : n = 0 then [] else ((n % 10000 : Nat) : Int) :: grp (n / 10000)
termination_by n
decreasing_by omega
/-- the value of groups -/
def vl : List Int → Int
  | [] => 0
  | x :: l => x + 10000 * vl l
theorem grp_zero : grp 0 = [] := by rw [grp]; rfl
theorem grp_pos {n : Nat} (h : 0 < n) : grp n = ((n % 10000 : Nat) : Int) :: grp (n / 10000) := by rw [grp, dif_neg (by omega)]
theorem vl_grp (n : Nat) : vl (grp n) = n := by
  induction n using Nat.strongRecOn with
  | ind n ih =>
    by_cases h : n = 0
    · subst h; rw [grp_zero]; rfl
    · rw [grp_pos (by omega), vl, ih _ (by omega)]; omega
def Dig (l : List Int) : Prop := ∀ x ∈ l, 0 ≤ x ∧ x < 10000
theorem Dig.tail {x : Int} {l : List Int} (h : Dig (x :: l)) : Dig l := fun y hy => h y (by simp [hy])
theorem Dig.head {x : Int} {l : List Int} (h : Dig (x :: l)) : 0 ≤ x ∧ x < 10000 := h x (by simp)
theorem dig_nil : Dig [] := fun _ h => by cases h
theorem grp_dig (n : Nat) : Dig (grp n) := by
  induction n using Nat.strongRecOn with
  | ind n ih =>
    by_cases h : n = 0
    · subst h; rw [grp_zero]; exact dig_nil
    · rw [grp_pos (by omega)]
      intro x hx
      rcases List.mem_cons.1 hx with rfl | hx
      · omega
      · exact ih _ (by omega) x hx
theorem vl_nonneg {l : List Int} (h : Dig l) : 0 ≤ vl l := by
  induction l with
  | nil => exact Int.le_refl _
  | cons x l ih => have := ih h.tail; have := h.head; rw [vl]; omega
theorem vl_lt {l : List Int} (h : Dig l) : vl l < 10000 ^ l.length := by
  induction l with
  | nil => decide
  | cons x l ih =>
    have := ih h.tail
    have := h.head
    rw [vl, List.length_cons, Int.pow_succ]
    omega
theorem vl_append (a b : List Int) : vl (a ++ b) = vl a + 10000 ^ a.length * vl b := by
  induction a with
  | nil => simp [vl]
  | cons x a ih =>
    rw [List.cons_append, vl, ih, vl, List.length_cons, Int.pow_succ, Int.mul_add, Int.add_assoc]
    congr 2
    rw [Int.mul_comm ((10000 : Int) ^ a.length) 10000, Int.mul_assoc]
theorem vl_zeros (k : Nat) : vl (List.replicate k 0) = 0 := by
  induction k with
  | zero => rfl
  | succ k ih => rw [List.replicate_succ, vl, ih]; rfl

/-- what trimmed leaves: no zeros at the end -/
def trz : List Int → List Int
  | [] => []
  | x :: l => if trz l = [] ∧ x = 0 then [] else x :: trz l
theorem trz_vl (l : List Int) : vl (trz l) = vl l := by
  induction l with
  | nil => rfl
  | cons x l ih =>
    rw [trz]
    split
    · rename_i h; have e : vl l = 0 := by rw [← ih, h.1]; rfl
      show 0 = x + 10000 * vl l
      rw [e, h.2]; rfl
    · rw [vl, vl, ih]
theorem trz_len (l : List Int) : (trz l).length ≤ l.length := by
  induction l with
  | nil => simp [trz]
  | cons x l ih => rw [trz]; split <;> simp; exact ih
theorem trz_take (l : List Int) : trz l = l.take (trz l).length := by
  induction l with
  | nil => rfl
  | cons x l ih =>
    rw [trz]
    split
    · simp
    · rw [List.length_cons, List.take_succ_cons, ← ih]
theorem trz_dig {l : List Int} (h : Dig l) : Dig (trz l) := by rw [trz_take]; exact fun x hx => h x (List.mem_of_mem_take hx)
theorem trz_snoc0 (l : List Int) : trz (l ++ [0]) = trz l := by
  induction l with
  | nil => simp [trz]
  | cons x l ih => rw [List.cons_append, trz, ih, trz]
theorem trz_snoc (l : List Int) (x : Int) (h : x ≠ 0) : trz (l ++ [x]) = l ++ [x] := by
  induction l with
  | nil => simp [trz, h]
  | cons y l ih => rw [List.cons_append, trz, ih, if_neg (by simp)]
theorem vl_zero {l : List Int} (h : Dig l) (h0 : vl l = 0) : trz l = [] := by
  induction l with
  | nil => rfl
  | cons x l ih =>
    have h1 := h.head
    have h2 := vl_nonneg h.tail
    rw [vl] at h0
    rw [trz, if_pos ⟨ih h.tail (by omega), by omega⟩]
theorem trz_grp {l : List Int} (h : Dig l) : trz l = grp (vl l).toNat := by
  induction l with
  | nil => rw [vl]; exact grp_zero.symm
  | cons x l ih =>
    have h1 := h.head
    have h2 := vl_nonneg h.tail
    by_cases h0 : vl (x :: l) = 0
    · rw [vl_zero h h0, h0]; exact grp_zero.symm
    · have h3 : 0 < (vl (x :: l)).toNat := by rw [vl] at h0 ⊢; omega
      have e1 : (((vl (x :: l)).toNat % 10000 : Nat) : Int) = x := by rw [vl]; omega
      have e2 : (vl (x :: l)).toNat / 10000 = (vl l).toNat := by rw [vl]; omega
      rw [grp_pos h3, e1, e2, ← ih h.tail, trz, if_neg ?_]
      rintro ⟨ht, hx⟩
      rw [← trz_vl] at h0
      rw [trz, if_pos ⟨ht, hx⟩] at h0
      exact h0 rfl
theorem grp_len {n k : Nat} (h : n < 10000 ^ k) : (grp n).length ≤ k := by
  induction k generalizing n with
  | zero => rw [Nat.pow_zero] at h; rw [show n = 0 by omega, grp_zero]; exact Nat.le_refl _
  | succ k ih =>
    by_cases h0 : n = 0
    · subst h0; rw [grp_zero]; exact Nat.zero_le _
    · rw [grp_pos (by omega), List.length_cons]
      have := ih (n := n / 10000) (by rw [Nat.pow_succ] at h; omega)
      omega
theorem grp_lt (n : Nat) : n < 10000 ^ (grp n).length := by
  have h := vl_lt (grp_dig n)
  rw [vl_grp] at h
  have e : ((10000 ^ (grp n).length : Nat) : Int) = (10000 : Int) ^ (grp n).length := by simp
  omega
theorem grp_nil {n : Nat} : grp n = [] ↔ n = 0 := by
  constructor
  · intro h; have := vl_grp n; rw [h] at this; rw [vl] at this; omega
  · rintro rfl; exact grp_zero
theorem grp_inj {n m : Nat} (h : grp n = grp m) : n = m := by have := vl_grp n; rw [h, vl_grp] at this; omega
theorem grp_last (n : Nat) : trz (grp n) = grp n := by rw [trz_grp (grp_dig n), vl_grp]; rfl
theorem grp_ge {n : Nat} (h : 0 < n) : 10000 ^ ((grp n).length - 1) ≤ n := by
  induction n using Nat.strongRecOn with
  | ind n ih =>
    rw [grp_pos h, List.length_cons, Nat.add_sub_cancel]
    by_cases h1 : n / 10000 = 0
    · rw [h1, grp_zero]; exact h
    · have := ih (n / 10000) (by omega) (by omega)
      have h2 : 0 < (grp (n / 10000)).length := List.length_pos_iff.2 fun e => h1 (grp_nil.1 e)
      obtain ⟨k, hk⟩ : ∃ k, (grp (n / 10000)).length = k + 1 := ⟨(grp (n / 10000)).length - 1, by omega⟩
      rw [hk, Nat.add_sub_cancel] at this
      rw [hk, Nat.pow_succ]
      omega

/-- carrying -/
def carr : Int → List Int → List Int
  | _, [] => []
  | c, x :: l => (x + c) % 10000 :: carr ((x + c) / 10000) l
def cout : Int → List Int → Int
  | c, [] => c
  | c, x :: l => cout ((x + c) / 10000) l
theorem carr_len (l : List Int) (c : Int) : (carr c l).length = l.length := by
  induction l generalizing c with
  | nil => rfl
  | cons x l ih => rw [carr, List.length_cons, List.length_cons, ih]
theorem carr_dig (l : List Int) (c : Int) : Dig (carr c l) := by
  induction l generalizing c with
  | nil => exact dig_nil
  | cons x l ih =>
    intro y hy
    rw [carr] at hy
    rcases List.mem_cons.1 hy with rfl | hy
    · omega
    · exact ih _ y hy
theorem carr_vl (l : List Int) (c : Int) : vl (carr c l) + 10000 ^ l.length * cout c l = vl l + c := by
  induction l generalizing c with
  | nil => simp [carr, cout, vl]
  | cons x l ih =>
    have h := ih ((x + c) / 10000)
    rw [carr, vl, vl, cout, List.length_cons, Int.pow_succ, Int.mul_comm ((10000 : Int) ^ l.length) 10000, Int.mul_assoc]
    omega
theorem carr_snoc (l : List Int) (c x : Int) : carr c (l ++ [x]) = carr c l ++ [(x + cout c l) % 10000] := by
  induction l generalizing c with
  | nil => rfl
  | cons y l ih => rw [List.cons_append, carr, ih, carr, cout, List.cons_append]
theorem cout_snoc (l : List Int) (c x : Int) : cout c (l ++ [x]) = (x + cout c l) / 10000 := by
  induction l generalizing c with
  | nil => rfl
  | cons y l ih => rw [List.cons_append, cout, ih, cout]
theorem carr_fits {l : List Int} {c : Int} (h0 : 0 ≤ vl l + c) (h1 : vl l + c < 10000 ^ l.length) : cout c l = 0 ∧ vl (carr c l) = vl l + c := by
  have h := carr_vl l c
  have h2 := vl_nonneg (carr_dig l c)
  have h3 := vl_lt (carr_dig l c)
  rw [carr_len] at h3
  have hp : (0 : Int) < 10000 ^ l.length := Int.pow_pos (by decide)
  generalize (10000 : Int) ^ l.length = P at *
  have h4 : cout c l = 0 := by
    rcases Int.lt_trichotomy (cout c l) 0 with g | g | g
    · have : P * cout c l ≤ P * (-1) := Int.mul_le_mul_of_nonneg_left (by omega) (by omega)
      omega
    · exact g
    · have : P * 1 ≤ P * cout c l := Int.mul_le_mul_of_nonneg_left (by omega) (by omega)
      omega
  refine ⟨h4, ?_⟩
  rw [h4, Int.mul_zero] at h
  omega

/-- the order of numbers -/
def cmpN (a b : Int) : Int := if a < b then -1 else if b < a then 1 else 0
theorem vl_last_lt {p q s : List Int} {x y : Int} (hp : Dig p) (hq : Dig q) (hl : p.length = q.length) (h : x < y) : vl (p ++ x :: s) < vl (q ++ y :: s) := by
  rw [vl_append, vl_append, vl, vl, ← hl]
  have h1 := vl_lt hp
  have h2 := vl_nonneg hq
  generalize (10000 : Int) ^ p.length = P at *
  have h3 : P * (x + 10000 * vl s) + P ≤ P * (y + 10000 * vl s) := by
    have : P * (x + 10000 * vl s) + P = P * (x + 10000 * vl s + 1) := by rw [Int.mul_add P (x + 10000 * vl s) 1, Int.mul_one]
    rw [this]
    have h0 : 0 ≤ P := by have := vl_nonneg hp; omega
    exact Int.mul_le_mul_of_nonneg_left (by omega) h0
  omega
theorem grp_len_lt {n m : Nat} (h : (grp n).length < (grp m).length) : n < m := by
  have h1 := grp_lt n
  have h2 : 0 < m := by
    rcases Nat.eq_zero_or_pos m with e | e
    · subst e; rw [grp_zero] at h; simp at h
    · exact e
  have h3 := grp_ge h2
  have h4 : 10000 ^ (grp n).length ≤ 10000 ^ ((grp m).length - 1) := Nat.pow_le_pow_right (by decide) (by omega)
  omega
end Go.Proofs.YtbdiofifjckceaaGreatDoor
