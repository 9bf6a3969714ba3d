/- The functions of the packages and of the references, by contract: part 1. -/
import Derived.Below
import Derived.BigQuiet
import Derived.Deep.AppendLies
import Derived.Deep.AppendSrc
import Derived.Deep.MidRow
import Derived.Deep.QuietTactic
import Derived.Deep.RegionHeld3
import Derived.KernelRfl
import Derived.Laws.AppendOwn
import Derived.Laws.CopyOwn
import Derived.Laws.EntriesVeiled
import Derived.Laws.OwnMore
import Derived.Lib.Hide
import Derived.Lib.SliceRun
import Derived.LoopIn
import Derived.LoopNIn
import Derived.LoopTactic
import Derived.Maps.AppendAt
import Derived.Maps.Range
import Derived.Outline
import Derived.OwnWalk
import Derived.OwnWalkIn
import Derived.RangeFuncBox
import Derived.RangeFuncCalls
import Derived.RangeFuncLeaves
import Derived.RangeFuncNested
import Derived.RangeFuncRecord
import Derived.RegionTactic
import Derived.Shelf.Abstract
import Derived.TacticsInMore
import Derived.Test.YtdnbhgkbfbgnaaaGreatDoorProg
import Derived.WalkKit
import Derived.WalkSpells
namespace Go.Proofs.YtdnbhgkbfbgnaaaGreatDoor
def grp (n : Nat) : List Int := if h : n = 0 then [] else ((n % 10000 : Nat) : Int) :: grp (n / 10000)
termination_by n
decreasing_by omega
def vl : List Int → Int
 | [] => 0
 | x :: l => x + 10000 * vl l
theorem grp_zero : grp 0 = [] := by rw [grp]; rfl
theorem grp_pos {n : Nat} (h : 0 < n) : grp n = ((n % 10000 : Nat) : Int) :: grp (n / 10000) := by rw [grp, dif_neg (by omega)]
theorem vl_grp (n : Nat) : vl (grp n) = n := by
 induction n using Nat.strongRecOn with
 | ind n ih =>
  by_cases h : n = 0
  ·
   subst h; rw [grp_zero]; rfl
  ·
   rw [grp_pos (by omega), vl, ih _ (by omega)]; omega
def Dig (l : List Int) : Prop := ∀ x ∈ l, 0 ≤ x ∧ x < 10000
theorem Dig.tail {x : Int} {l : List Int} (h : Dig (x :: l)) : Dig l := fun y hy => h y (by simp [hy])
theorem Dig.head {x : Int} {l : List Int} (h : Dig (x :: l)) : 0 ≤ x ∧ x < 10000 := h x (by simp)
theorem dig_nil : Dig [] := fun _ h => by cases h
theorem grp_dig (n : Nat) : Dig (grp n) := by
 induction n using Nat.strongRecOn with
 | ind n ih =>
  by_cases h : n = 0
  ·
   subst h; rw [grp_zero]; exact dig_nil
  ·
   rw [grp_pos (by omega)]
   intro x hx
   rcases List.mem_cons.1 hx with rfl | hx
   ·
    omega
   ·
    exact ih _ (by omega) x hx
theorem vl_nonneg {l : List Int} (h : Dig l) : 0 ≤ vl l := by
 induction l with
 | nil => exact Int.le_refl _
 | cons x l ih => have := ih h.tail; have := h.head; rw [vl]; omega
theorem vl_lt {l : List Int} (h : Dig l) : vl l < 10000 ^ l.length := by
 induction l with
 | nil => decide
 | cons x l ih =>
  have := ih h.tail
  have := h.head
  rw [vl, List.length_cons, Int.pow_succ]
  omega
theorem vl_append (a b : List Int) : vl (a ++ b) = vl a + 10000 ^ a.length * vl b := by
 induction a with
 | nil => simp [vl]
 | cons x a ih =>
  rw [List.cons_append, vl, ih, vl, List.length_cons, Int.pow_succ, Int.mul_add, Int.add_assoc]
  congr 2
  rw [Int.mul_comm ((10000 : Int) ^ a.length) 10000, Int.mul_assoc]
theorem vl_zeros (k : Nat) : vl (List.replicate k 0) = 0 := by
 induction k with
 | zero => rfl
 | succ k ih => rw [List.replicate_succ, vl, ih]; rfl
def trz : List Int → List Int
 | [] => []
 | x :: l => if trz l = [] ∧ x = 0 then [] else x :: trz l
theorem trz_vl (l : List Int) : vl (trz l) = vl l := by
 induction l with
 | nil => rfl
 | cons x l ih =>
  rw [trz]
  split
  ·
   rename_i h; have e : vl l = 0 := by rw [← ih, h.1]; rfl
   show 0 = x + 10000 * vl l
   rw [e, h.2]; rfl
  ·
   rw [vl, vl, ih]
theorem trz_len (l : List Int) : (trz l).length ≤ l.length := by
 induction l with
 | nil => simp [trz]
 | cons x l ih => rw [trz]; split <;> simp; exact ih
theorem trz_take (l : List Int) : trz l = l.take (trz l).length := by
 induction l with
 | nil => rfl
 | cons x l ih =>
  rw [trz]
  split
  ·
   simp
  ·
   rw [List.length_cons, List.take_succ_cons, ← ih]
theorem trz_snoc0 (l : List Int) : trz (l ++ [0]) = trz l := by
 induction l with
 | nil => simp [trz]
 | cons x l ih => rw [List.cons_append, trz, ih, trz]
theorem trz_snoc (l : List Int) (x : Int) (h : x ≠ 0) : trz (l ++ [x]) = l ++ [x] := by
 induction l with
 | nil => simp [trz, h]
 | cons y l ih => rw [List.cons_append, trz, ih, if_neg (by simp)]
theorem vl_zero {l : List Int} (h : Dig l) (h0 : vl l = 0) : trz l = [] := by
 induction l with
 | nil => rfl
 | cons x l ih =>
  have h1 := h.head
  have h2 := vl_nonneg h.tail
  rw [vl] at h0
  rw [trz, if_pos ⟨ih h.tail (by omega), by omega⟩]
theorem trz_grp {l : List Int} (h : Dig l) : trz l = grp (vl l).toNat := by
 induction l with
 | nil => rw [vl]; exact grp_zero.symm
 | cons x l ih =>
  have h1 := h.head
  have h2 := vl_nonneg h.tail
  by_cases h0 : vl (x :: l) = 0
  ·
   rw [vl_zero h h0, h0]; exact grp_zero.symm
  ·
   have h3 : 0 < (vl (x :: l)).toNat := by rw [vl] at h0 ⊢; omega
   have e1 : (((vl (x :: l)).toNat % 10000 : Nat) : Int) = x := by rw [vl]; omega
   have e2 : (vl (x :: l)).toNat / 10000 = (vl l).toNat := by rw [vl]; omega
   rw [grp_pos h3, e1, e2, ← ih h.tail, trz, if_neg ?_]
   rintro ⟨ht, hx⟩
   rw [← trz_vl] at h0
   rw [trz, if_pos ⟨ht, hx⟩] at h0
   exact h0 rfl
theorem grp_len {n k : Nat} (h : n < 10000 ^ k) : (grp n).length ≤ k := by
 induction k generalizing n with
 | zero => rw [Nat.pow_zero] at h; rw [show n = 0 by omega, grp_zero]; exact Nat.le_refl _
 | succ k ih =>
  by_cases h0 : n = 0
  ·
   subst h0; rw [grp_zero]; exact Nat.zero_le _
  ·
   rw [grp_pos (by omega), List.length_cons]
   have := ih (n := n / 10000) (by rw [Nat.pow_succ] at h; omega)
   omega
theorem grp_lt (n : Nat) : n < 10000 ^ (grp n).length := by
 have h := vl_lt (grp_dig n)
 rw [vl_grp] at h
 have e : ((10000 ^ (grp n).length : Nat) : Int) = (10000 : Int) ^ (grp n).length := by simp
 omega
theorem grp_nil {n : Nat} : grp n = [] ↔ n = 0 := by
 constructor
 ·
  intro h; have := vl_grp n; rw [h] at this; rw [vl] at this; omega
 ·
  rintro rfl; exact grp_zero
theorem grp_inj {n m : Nat} (h : grp n = grp m) : n = m := by have := vl_grp n; rw [h, vl_grp] at this; omega
theorem grp_last (n : Nat) : trz (grp n) = grp n := by rw [trz_grp (grp_dig n), vl_grp]; rfl
theorem grp_ge {n : Nat} (h : 0 < n) : 10000 ^ ((grp n).length - 1) ≤ n := by
 induction n using Nat.strongRecOn with
 | ind n ih =>
  rw [grp_pos h, List.length_cons, Nat.add_sub_cancel]
  by_cases h1 : n / 10000 = 0
  ·
   rw [h1, grp_zero]; exact h
  ·
   have := ih (n / 10000) (by omega) (by omega)
   have h2 : 0 < (grp (n / 10000)).length := List.length_pos_iff.2 fun e => h1 (grp_nil.1 e)
   obtain ⟨k, hk⟩ : ∃ k, (grp (n / 10000)).length = k + 1 := ⟨(grp (n / 10000)).length - 1, by omega⟩
   rw [hk, Nat.add_sub_cancel] at this
   rw [hk, Nat.pow_succ]
   omega
def carr : Int → List Int → List Int
 | _, [] => []
 | c, x :: l => (x + c) % 10000 :: carr ((x + c) / 10000) l
def cout : Int → List Int → Int
 | c, [] => c
 | c, x :: l => cout ((x + c) / 10000) l
theorem carr_len (l : List Int) (c : Int) : (carr c l).length = l.length := by
 induction l generalizing c with
 | nil => rfl
 | cons x l ih => rw [carr, List.length_cons, List.length_cons, ih]
theorem carr_dig (l : List Int) (c : Int) : Dig (carr c l) := by
 induction l generalizing c with
 | nil => exact dig_nil
 | cons x l ih =>
  intro y hy
  rw [carr] at hy
  rcases List.mem_cons.1 hy with rfl | hy
  ·
   omega
  ·
   exact ih _ y hy
theorem carr_vl (l : List Int) (c : Int) : vl (carr c l) + 10000 ^ l.length * cout c l = vl l + c := by
 induction l generalizing c with
 | nil => simp [carr, cout, vl]
 | cons x l ih =>
  have h := ih ((x + c) / 10000)
  rw [carr, vl, vl, cout, List.length_cons, Int.pow_succ, Int.mul_comm ((10000 : Int) ^ l.length) 10000, Int.mul_assoc]
  omega
theorem carr_snoc (l : List Int) (c x : Int) : carr c (l ++ [x]) = carr c l ++ [(x + cout c l) % 10000] := by
 induction l generalizing c with
 | nil => rfl
 | cons y l ih => rw [List.cons_append, carr, ih, carr, cout, List.cons_append]
theorem cout_snoc (l : List Int) (c x : Int) : cout c (l ++ [x]) = (x + cout c l) / 10000 := by
 induction l generalizing c with
 | nil => rfl
 | cons y l ih => rw [List.cons_append, cout, ih, cout]
theorem carr_fits {l : List Int} {c : Int} (h0 : 0 ≤ vl l + c) (h1 : vl l + c < 10000 ^ l.length) : cout c l = 0 ∧ vl (carr c l) = vl l + c := by
 have h := carr_vl l c
 have h2 := vl_nonneg (carr_dig l c)
 have h3 := vl_lt (carr_dig l c)
 rw [carr_len] at h3
 have hp : (0 : Int) < 10000 ^ l.length := Int.pow_pos (by decide)
 generalize (10000 : Int) ^ l.length = P at *
 have h4 : cout c l = 0 := by
  rcases Int.lt_trichotomy (cout c l) 0 with g | g | g
  ·
   have : P * cout c l ≤ P * (-1) := Int.mul_le_mul_of_nonneg_left (by omega) (by omega)
   omega
  ·
   exact g
  ·
   have : P * 1 ≤ P * cout c l := Int.mul_le_mul_of_nonneg_left (by omega) (by omega)
   omega
 refine ⟨h4, ?_⟩
 rw [h4, Int.mul_zero] at h
 omega
def cmpN (a b : Int) : Int := if a < b then -1 else if b < a then 1 else 0
theorem vl_last_lt {p q s : List Int} {x y : Int} (hp : Dig p) (hq : Dig q) (hl : p.length = q.length) (h : x < y) : vl (p ++ x :: s) < vl (q ++ y :: s) := by
 rw [vl_append, vl_append, vl, vl, ← hl]
 have h1 := vl_lt hp
 have h2 := vl_nonneg hq
 generalize (10000 : Int) ^ p.length = P at *
 have h3 : P * (x + 10000 * vl s) + P ≤ P * (y + 10000 * vl s) := by
  have : P * (x + 10000 * vl s) + P = P * (x + 10000 * vl s + 1) := by rw [Int.mul_add P (x + 10000 * vl s) 1, Int.mul_one]
  rw [this]
  have h0 : 0 ≤ P := by have := vl_nonneg hp; omega
  exact Int.mul_le_mul_of_nonneg_left (by omega) h0
 omega
theorem grp_len_lt {n m : Nat} (h : (grp n).length < (grp m).length) : n < m := by
 have h1 := grp_lt n
 have h2 : 0 < m := by
  rcases Nat.eq_zero_or_pos m with e | e
  ·
   subst e; rw [grp_zero] at h; simp at h
  ·
   exact e
 have h3 := grp_ge h2
 have h4 : 10000 ^ (grp n).length ≤ 10000 ^ ((grp m).length - 1) := Nat.pow_le_pow_right (by decide) (by omega)
 omega
end Go.Proofs.YtdnbhgkbfbgnaaaGreatDoor
namespace Go.Proofs.YtdnbhgkbfbgnaaaGreatDoor
def grpX (n : Nat) : List Int := if h : n = 0 then [] else ((n % 10 : Nat) : Int) :: grpX (n / 10)
termination_by n
decreasing_by omega
def vlX : List Int → Int
 | [] => 0
 | x :: l => x + 10 * vlX l
theorem grpX_zero : grpX 0 = [] := by rw [grpX]; rfl
theorem grpX_pos {n : Nat} (h : 0 < n) : grpX n = ((n % 10 : Nat) : Int) :: grpX (n / 10) := by rw [grpX, dif_neg (by omega)]
theorem vlX_grp (n : Nat) : vlX (grpX n) = n := by
 induction n using Nat.strongRecOn with
 | ind n ih =>
  by_cases h : n = 0
  ·
   subst h; rw [grpX_zero]; rfl
  ·
   rw [grpX_pos (by omega), vlX, ih _ (by omega)]; omega
def DigX (l : List Int) : Prop := ∀ x ∈ l, 0 ≤ x ∧ x < 10
theorem DigX.tail {x : Int} {l : List Int} (h : DigX (x :: l)) : DigX l := fun y hy => h y (by simp [hy])
theorem DigX.head {x : Int} {l : List Int} (h : DigX (x :: l)) : 0 ≤ x ∧ x < 10 := h x (by simp)
theorem digX_nil : DigX [] := fun _ h => by cases h
theorem grpX_dig (n : Nat) : DigX (grpX n) := by
 induction n using Nat.strongRecOn with
 | ind n ih =>
  by_cases h : n = 0
  ·
   subst h; rw [grpX_zero]; exact digX_nil
  ·
   rw [grpX_pos (by omega)]
   intro x hx
   rcases List.mem_cons.1 hx with rfl | hx
   ·
    omega
   ·
    exact ih _ (by omega) x hx
theorem vlX_nonneg {l : List Int} (h : DigX l) : 0 ≤ vlX l := by
 induction l with
 | nil => exact Int.le_refl _
 | cons x l ih => have := ih h.tail; have := h.head; rw [vlX]; omega
theorem vlX_lt {l : List Int} (h : DigX l) : vlX l < 10 ^ l.length := by
 induction l with
 | nil => decide
 | cons x l ih =>
  have := ih h.tail
  have := h.head
  rw [vlX, List.length_cons, Int.pow_succ]
  omega
theorem vlX_append (a b : List Int) : vlX (a ++ b) = vlX a + 10 ^ a.length * vlX b := by
 induction a with
 | nil => simp [vlX]
 | cons x a ih =>
  rw [List.cons_append, vlX, ih, vlX, List.length_cons, Int.pow_succ, Int.mul_add, Int.add_assoc]
  congr 2
  rw [Int.mul_comm ((10 : Int) ^ a.length) 10, Int.mul_assoc]
theorem vlX_zeros (k : Nat) : vlX (List.replicate k 0) = 0 := by
 induction k with
 | zero => rfl
 | succ k ih => rw [List.replicate_succ, vlX, ih]; rfl
theorem trzX_vl (l : List Int) : vlX (trz l) = vlX l := by
 induction l with
 | nil => rfl
 | cons x l ih =>
  rw [trz]
  split
  ·
   rename_i h; have e : vlX l = 0 := by rw [← ih, h.1]; rfl
   show 0 = x + 10 * vlX l
   rw [e, h.2]; rfl
  ·
   rw [vlX, vlX, ih]
theorem vlX_zero {l : List Int} (h : DigX l) (h0 : vlX l = 0) : trz l = [] := by
 induction l with
 | nil => rfl
 | cons x l ih =>
  have h1 := h.head
  have h2 := vlX_nonneg h.tail
  rw [vlX] at h0
  rw [trz, if_pos ⟨ih h.tail (by omega), by omega⟩]
theorem trzX_grp {l : List Int} (h : DigX l) : trz l = grpX (vlX l).toNat := by
 induction l with
 | nil => rw [vlX]; exact grpX_zero.symm
 | cons x l ih =>
  have h1 := h.head
  have h2 := vlX_nonneg h.tail
  by_cases h0 : vlX (x :: l) = 0
  ·
   rw [vlX_zero h h0, h0]; exact grpX_zero.symm
  ·
   have h3 : 0 < (vlX (x :: l)).toNat := by rw [vlX] at h0 ⊢; omega
   have e1 : (((vlX (x :: l)).toNat % 10 : Nat) : Int) = x := by rw [vlX]; omega
   have e2 : (vlX (x :: l)).toNat / 10 = (vlX l).toNat := by rw [vlX]; omega
   rw [grpX_pos h3, e1, e2, ← ih h.tail, trz, if_neg ?_]
   rintro ⟨ht, hx⟩
   rw [← trzX_vl] at h0
   rw [trz, if_pos ⟨ht, hx⟩] at h0
   exact h0 rfl
theorem grpX_len {n k : Nat} (h : n < 10 ^ k) : (grpX n).length ≤ k := by
 induction k generalizing n with
 | zero => rw [Nat.pow_zero] at h; rw [show n = 0 by omega, grpX_zero]; exact Nat.le_refl _
 | succ k ih =>
  by_cases h0 : n = 0
  ·
   subst h0; rw [grpX_zero]; exact Nat.zero_le _
  ·
   rw [grpX_pos (by omega), List.length_cons]
   have := ih (n := n / 10) (by rw [Nat.pow_succ] at h; omega)
   omega
theorem grpX_lt (n : Nat) : n < 10 ^ (grpX n).length := by
 have h := vlX_lt (grpX_dig n)
 rw [vlX_grp] at h
 have e : ((10 ^ (grpX n).length : Nat) : Int) = (10 : Int) ^ (grpX n).length := by simp
 omega
theorem grpX_nil {n : Nat} : grpX n = [] ↔ n = 0 := by
 constructor
 ·
  intro h; have := vlX_grp n; rw [h] at this; rw [vlX] at this; omega
 ·
  rintro rfl; exact grpX_zero
theorem grpX_inj {n m : Nat} (h : grpX n = grpX m) : n = m := by have := vlX_grp n; rw [h, vlX_grp] at this; omega
theorem grpX_last (n : Nat) : trz (grpX n) = grpX n := by rw [trzX_grp (grpX_dig n), vlX_grp]; rfl
def d4 (g : Int) : List Int := [g % 10, g / 10 % 10, g / 10 / 10 % 10, g / 10 / 10 / 10 % 10]
def fd (l : List Int) : List Int := l.flatMap d4
theorem fd_dig {l : List Int} : DigX (fd l) := by
 intro x hx
 obtain ⟨g, _, h⟩ := List.mem_flatMap.1 hx
 simp [d4] at h
 rcases h with rfl | rfl | rfl | rfl <;> omega
theorem fd_vl {l : List Int} (h : Dig l) : vlX (fd l) = vl l := by
 induction l with
 | nil => rfl
 | cons x l ih =>
  have h1 := h.head
  have h2 := ih h.tail
  show vlX (d4 x ++ fd l) = _
  rw [vlX_append, h2, vl]
  simp only [d4, vlX, List.length_cons, List.length_nil]
  omega
theorem fd_len (l : List Int) : (fd l).length = 4 * l.length := by
 induction l with
 | nil => rfl
 | cons x l ih => show (d4 x ++ fd l).length = _; rw [List.length_append, ih]; simp [d4]; omega
theorem fd_trz (n : Nat) : trz (fd (grp n)) = grpX n := by rw [trzX_grp fd_dig, fd_vl (grp_dig n), vl_grp]; rfl
def ltr (d : Int) : UInt8 := UInt8.ofNat (48 + d.toNat)
theorem ltr_zero {d : Int} (h : 0 ≤ d ∧ d < 10) : (ltr d == 48) = decide (d = 0) := by
 obtain ⟨k, rfl⟩ : ∃ k : Nat, d = k := ⟨d.toNat, by omega⟩
 have hk : k < 10 := by omega
 have : ∀ k : Fin 10, (ltr (k.1 : Int) == 48) = decide ((k.1 : Int) = 0) := by decide
 exact this ⟨k, hk⟩
theorem ltr_nat {d : Int} (h : 0 ≤ d ∧ d < 10) : ((ltr d).toNat : Int) = 48 + d := by
 obtain ⟨k, rfl⟩ : ∃ k : Nat, d = k := ⟨d.toNat, by omega⟩
 have hk : k < 10 := by omega
 have : ∀ k : Fin 10, ((ltr (k.1 : Int)).toNat : Int) = 48 + (k.1 : Int) := by decide
 exact this ⟨k, hk⟩
def lts (l : List Int) : List UInt8 := (l.map ltr).reverse
theorem lts_cons (x : Int) (l : List Int) : lts (x :: l) = lts l ++ [ltr x] := by simp [lts]
theorem lts_len (l : List Int) : (lts l).length = l.length := by simp [lts]
theorem lts_nil {l : List Int} : lts l = [] ↔ l = [] := by simp [lts]
theorem lts_trz {l : List Int} (h : DigX l) : (lts l).dropWhile (· == 48) = lts (trz l) := by
 induction l with
 | nil => rfl
 | cons x l ih =>
  have h1 := ltr_zero h.head
  have h2 := ih h.tail
  rw [lts_cons, List.dropWhile_append, h2]
  by_cases ht : trz l = []
  ·
   have e : (lts (trz l)).isEmpty = true := by rw [ht]; rfl
   rw [if_pos e]
   by_cases hx : x = 0
   ·
    have : (ltr x == 48) = true := by rw [h1]; simp [hx]
    have t : trz (x :: l) = [] := by rw [trz, if_pos ⟨ht, hx⟩]
    rw [t, List.dropWhile_cons, this]
    rfl
   ·
    have : (ltr x == 48) = false := by rw [h1]; simp [hx]
    have t : trz (x :: l) = [x] := by rw [trz, if_neg (fun c => hx c.2), ht]
    rw [t, List.dropWhile_cons, this]
    rfl
  ·
   have e : ¬ (lts (trz l)).isEmpty = true := by rw [List.isEmpty_iff, lts_nil]; exact ht
   have t : trz (x :: l) = x :: trz l := by rw [trz, if_neg (fun c => ht c.1)]
   rw [if_neg e, t, lts_cons]
def txN (n : Nat) : List UInt8 := if n = 0 then [48] else lts (grpX n)
def txt (z : Int) : List UInt8 := if z < 0 then 45 :: txN z.natAbs else txN z.natAbs
def nmN (l : List UInt8) : Nat := l.foldl (fun a c => 10 * a + (c.toNat - 48)) 0
def num : List UInt8 → Int
 | 45 :: l => - (nmN l : Int)
 | l => (nmN l : Int)
def isDg (c : UInt8) : Bool := 48 ≤ c && c ≤ 57
def bare (s : List UInt8) : List UInt8 := if s.head? = some 45 then s.tail else s
def vld (s : List UInt8) : Bool := decide (0 < (bare s).length ∧ (bare s).length ≤ 200) && (if (bare s).head? = some 48 then decide (s = [48]) else (bare s).all isDg)
def dgs (l : List UInt8) : List Int := (l.map fun c => (c.toNat : Int) - 48).reverse
theorem isDg_iff (c : UInt8) : isDg c = true ↔ 48 ≤ c.toNat ∧ c.toNat ≤ 57 := by
 unfold isDg
 simp [UInt8.le_iff_toNat_le]
theorem ltr_dg {c : UInt8} (h : isDg c = true) : ltr ((c.toNat : Int) - 48) = c := by
 rw [isDg_iff] at h
 unfold ltr
 have : 48 + ((c.toNat : Int) - 48).toNat = c.toNat := by omega
 rw [this]
 exact UInt8.ofNat_toNat
theorem dgs_cons (c : UInt8) (l : List UInt8) : dgs (c :: l) = dgs l ++ [(c.toNat : Int) - 48] := by simp [dgs]
theorem dgs_snoc (c : UInt8) (l : List UInt8) : dgs (l ++ [c]) = ((c.toNat : Int) - 48) :: dgs l := by simp [dgs]
theorem dgs_len (l : List UInt8) : (dgs l).length = l.length := by simp [dgs]
theorem dgs_dig {l : List UInt8} (h : l.all isDg = true) : DigX (dgs l) := by
 intro x hx
 simp only [dgs, List.mem_reverse, List.mem_map] at hx
 obtain ⟨c, hc, rfl⟩ := hx
 have := (isDg_iff c).1 (List.all_eq_true.1 h c hc)
 omega
theorem lts_dgs {l : List UInt8} (h : l.all isDg = true) : lts (dgs l) = l := by
 induction l with
 | nil => rfl
 | cons c l ih =>
  rw [List.all_cons, Bool.and_eq_true] at h
  have e : lts (dgs l ++ [(c.toNat : Int) - 48]) = ltr ((c.toNat : Int) - 48) :: lts (dgs l) := by simp [lts]
  rw [dgs_cons, e, ih h.2, ltr_dg h.1]
theorem nmN_snoc (l : List UInt8) (c : UInt8) : nmN (l ++ [c]) = 10 * nmN l + (c.toNat - 48) := by simp [nmN]
theorem nmN_dgs {l : List UInt8} (h : l.all isDg = true) : (nmN l : Int) = vlX (dgs l) := by
 rw [← List.reverse_reverse l] at h ⊢
 generalize l.reverse = r at h ⊢
 induction r with
 | nil => rfl
 | cons c r ih =>
  rw [List.reverse_cons, List.all_append, Bool.and_eq_true] at h
  have h2 := (isDg_iff c).1 (by simpa using h.2)
  have h3 := ih h.1
  rw [List.reverse_cons, nmN_snoc, dgs_snoc, vlX, ← h3]
  omega
theorem lts_all {l : List Int} (h : DigX l) : (lts l).all isDg = true := by
 rw [List.all_eq_true]
 intro c hc
 simp only [lts, List.mem_reverse, List.mem_map] at hc
 obtain ⟨d, hd, rfl⟩ := hc
 have h1 := ltr_nat (h d hd)
 have h2 := h d hd
 rw [isDg_iff]
 omega
theorem dgs_lts {l : List Int} (h : DigX l) : dgs (lts l) = l := by
 induction l with
 | nil => rfl
 | cons x l ih => rw [lts_cons, dgs_snoc, ih h.tail, ltr_nat h.head]; congr 1; omega
theorem txN_all (n : Nat) : (txN n).all isDg = true := by
 unfold txN
 split
 ·
  decide
 ·
  exact lts_all (grpX_dig n)
theorem txN_num (n : Nat) : nmN (txN n) = n := by
 have h := nmN_dgs (txN_all n)
 unfold txN at h ⊢
 split
 ·
  rename_i h0; subst h0; rfl
 ·
  rename_i h0
  rw [if_neg h0] at h
  rw [dgs_lts (grpX_dig n), vlX_grp] at h
  omega
theorem txN_len {n k : Nat} (h : n < 10 ^ k) (hk : 0 < k) : (txN n).length ≤ k := by
 unfold txN
 split
 ·
  exact hk
 ·
  rw [lts_len]; exact grpX_len h
theorem txN_pos (n : Nat) : 0 < (txN n).length := by
 unfold txN
 split
 ·
  decide
 ·
  rename_i h; rw [lts_len]; exact List.length_pos_iff.2 fun e => h (grpX_nil.1 e)
theorem txN_len' {n k : Nat} (h : (txN n).length ≤ k) : n < 10 ^ k := by
 unfold txN at h
 split at h
 ·
  rename_i h0; subst h0; exact Nat.pow_pos (by decide)
 ·
  rw [lts_len] at h
  exact Nat.lt_of_lt_of_le (grpX_lt n) (Nat.pow_le_pow_right (by decide) h)
theorem getLast_trz {l : List Int} (h : l.getLast? ≠ some 0) : trz l = l := by
 rcases List.eq_nil_or_concat l with rfl | ⟨q, x, rfl⟩
 ·
  rfl
 ·
  rw [List.concat_eq_append] at h ⊢
  exact trz_snoc q x fun e => h (by simp [e])
theorem grpX_getLast (n : Nat) : (grpX n).getLast? ≠ some 0 := by
 intro h
 have e := grpX_last n
 rcases List.eq_nil_or_concat (grpX n) with h0 | ⟨q, x, h0⟩
 ·
  rw [h0] at h; cases h
 ·
  rw [List.concat_eq_append] at h0
  rw [h0] at h e
  have hx : x = 0 := by simpa using h
  subst hx
  rw [trz_snoc0] at e
  have := trz_len q
  have := congrArg List.length e
  simp at this
  omega
theorem txN_head {n : Nat} (h : n ≠ 0) : (txN n).head? ≠ some 48 := by
 unfold txN
 rw [if_neg h]
 intro e
 have h1 := grpX_getLast n
 have h2 : (lts (grpX n)).head? = (grpX n).getLast?.map ltr := by simp [lts]
 rw [h2] at e
 cases hg : (grpX n).getLast? with
 | none => rw [hg] at e; cases e
 | some d =>
  rw [hg] at e h1
  have hd := grpX_dig n d (List.mem_of_getLast? hg)
  have := ltr_zero hd
  have e' : ltr d = 48 := by simpa using e
  rw [e'] at this
  exact h1 (by rw [of_decide_eq_true this.symm])
theorem txN_of {l : List UInt8} (h : l.all isDg = true) (h0 : 0 < l.length) (h1 : l.head? ≠ some 48) : txN (nmN l) = l ∧ nmN l ≠ 0 := by
 have hd := dgs_dig h
 have hv := nmN_dgs h
 have hl : (dgs l).getLast? ≠ some 0 := by
  cases l with
  | nil => cases h0
  | cons c r =>
   rw [dgs_cons]
   simp at h1 ⊢
   intro e
   apply h1
   have hc := (isDg_iff c).1 (List.all_eq_true.1 h c (by simp))
   have : c.toNat = 48 := by omega
   exact UInt8.toNat_inj.1 this
 have ht := getLast_trz hl
 rw [trzX_grp hd, ← hv, Int.toNat_natCast] at ht
 have hn : nmN l ≠ 0 := by
  intro e
  rw [e, grpX_zero] at ht
  have := dgs_len l
  rw [← ht] at this
  simp at this
  omega
 exact ⟨by rw [txN, if_neg hn, ht, lts_dgs h], hn⟩
theorem num_neg (l : List UInt8) : num (45 :: l) = - (nmN l : Int) := rfl
theorem num_pos {l : List UInt8} (h : l.head? ≠ some 45) : num l = (nmN l : Int) := by
 unfold num
 split
 ·
  exact absurd rfl h
 ·
  rfl
theorem txN_no45 (n : Nat) : (txN n).head? ≠ some 45 := by
 have h := txN_all n
 cases ht : txN n with
 | nil => intro e; cases e
 | cons c r =>
  rw [ht] at h
  intro e
  have e' : c = 45 := by simpa using e
  subst e'
  exact absurd (List.all_eq_true.1 h 45 (by simp)) (by decide)
theorem txt_num (z : Int) : num (txt z) = z := by
 unfold txt
 split
 ·
  rw [num_neg, txN_num]; omega
 ·
  rw [num_pos (txN_no45 _), txN_num]; omega
theorem txt_bare (z : Int) : bare (txt z) = txN z.natAbs := by
 unfold txt bare
 split
 ·
  rfl
 ·
  rw [if_neg (txN_no45 _)]
theorem txt_vld {z : Int} (h : z.natAbs < 10 ^ 200) : vld (txt z) = true := by
 unfold vld
 rw [txt_bare, decide_eq_true ⟨txN_pos _, txN_len h (by decide)⟩, Bool.true_and]
 by_cases h0 : z = 0
 ·
  subst h0; decide
 ·
  rw [if_neg (txN_head (by omega))]; exact txN_all _
theorem txt_not {z : Int} (h : ¬ z.natAbs < 10 ^ 200) : vld (txt z) = false := by
 unfold vld
 rw [txt_bare, decide_eq_false (fun c => h (txN_len' c.2)), Bool.false_and]
theorem vld_txt {s : List UInt8} (h : vld s = true) : txt (num s) = s ∧ (num s).natAbs < 10 ^ 200 := by
 unfold vld at h
 rw [Bool.and_eq_true, decide_eq_true_eq] at h
 obtain ⟨⟨h1, h2⟩, h3⟩ := h
 split at h3
 ·
  rw [of_decide_eq_true h3]
  exact ⟨by decide, by decide⟩
 ·
  rename_i hb
  obtain ⟨h4, h5⟩ := txN_of h3 h1 hb
  have h6 : nmN (bare s) < 10 ^ 200 := txN_len' (by rw [h4]; exact h2)
  by_cases hs : s.head? = some 45
  ·
   obtain ⟨r, rfl⟩ : ∃ r, s = 45 :: r := by
    cases s with
    | nil => cases hs
    | cons c r => exact ⟨r, by simp at hs; rw [hs]⟩
   have hb2 : bare (45 :: r) = r := by simp [bare]
   rw [hb2] at h4 h5 h6
   rw [num_neg]
   refine ⟨?_, by omega⟩
   rw [txt, if_pos (by omega), show (-(nmN r : Int)).natAbs = nmN r by omega, h4]
  ·
   have hb2 : bare s = s := by simp [bare, hs]
   rw [hb2] at h4 h5 h6
   rw [num_pos hs]
   refine ⟨?_, by omega⟩
   rw [txt, if_neg (by omega), show ((nmN s : Int)).natAbs = nmN s by omega, h4]
theorem txt_inj {a b : Int} (h : txt a = txt b) : a = b := by rw [← txt_num a, h, txt_num]
end Go.Proofs.YtdnbhgkbfbgnaaaGreatDoor
namespace Go.Proofs.YtdnbhgkbfbgnaaaGreatDoor
open Go.RowKit
theorem tk {P : Program} {md : Region.Mode} {ops : Array Oper} {Q : Exit → Act → World → Prop} {S : World → Prop} (i : Nat) {oi : Oper} {v : Value} {fuel : Nat} {listed : Array Bool} {a : Act} {w : World}
    (hy : ∀ w, S w → (execOp a.eval oi).run P w = .ok (.value v) w)
    (h : wpAnyH P md ops Q S fuel (listed.setIfInBounds i true) (a.put oi.dst v) w) (hi : ops[i]? = some oi := by rfl)
    (hs : Region.noSelect ops = true := by kernel_rfl) (hf : Region.free md ops listed i = true := by kernel_rfl) (hr : (Region.ready md ops listed).contains i = true := by kernel_rfl)
    (hQ : ∀ c a w, Q (.panic c) (a.put oi.dst v) w → Q (.panic c) a w := by exact fun _ _ _ h => h) (hS : S w := by assumption) (hg : Region.wanted oi (yielded ops a.tmps) = true := by first | kernel_rfl | rfl) : wpAnyH P md ops Q S (fuel + 1) listed a w :=
  wpAnyH_take hi hs hf hr hQ (.inl ⟨hg, hy⟩) hS h
theorem tdivmod (g : Int) (h : g < 0) : (g.tmod 10000 < 0 → g.tdiv 10000 - 1 = g / 10000 ∧ g.tmod 10000 + 10000 = g % 10000) ∧ (¬ g.tmod 10000 < 0 → g.tdiv 10000 = g / 10000 ∧ g.tmod 10000 = g % 10000) ∧ (-461168601842738 ≤ g / 10000 → g.tdiv 10000 ≤ 0) := by
 obtain ⟨k, rfl⟩ : ∃ k : Nat, g = -(k : Int) := ⟨g.natAbs, by omega⟩
 rw [Int.neg_tdiv, Int.neg_tmod]
 have e1 : (k : Int).tdiv 10000 = ((k / 10000 : Nat) : Int) := rfl
 have e2 : (k : Int).tmod 10000 = ((k % 10000 : Nat) : Int) := rfl
 rw [e1, e2]
 omega
set_option maxHeartbeats 1000000 in
theorem split_any (g : Int) (w : World) (h0 : -4611686018427387904 ≤ g) (h1 : g ≤ 4611686018427387904) :
  Calls Tryz.prog 200 #[.int .i64 g] w fun e w' => e = .returned (.tuple #[.int .i64 (g / 10000), .int .i64 (g % 10000)]) ∧ w = w' := by
 by_cases hg : 0 ≤ g
 ·
  have hr : ¬ g % 10000 < 0 := by omega
  go_enter Tryz.func200, Tryz.ntmps200
  go_wp2
  go_ret2
  exact ⟨rfl, rfl⟩
 ·
  obtain ⟨t1, t2, _⟩ := tdivmod g (by omega)
  by_cases hr : g.tmod 10000 < 0
  ·
   obtain ⟨e1, e2⟩ := t1 hr
   have b1 : -461168601842739 ≤ g.tdiv 10000 - 1 := by omega
   have b2 : -10000 ≤ g.tmod 10000 := by omega
   have b3 : g.tdiv 10000 ≤ 1 := by omega
   rw [← e1, ← e2]
   clear e1 e2 t1 t2
   go_enter Tryz.func200, Tryz.ntmps200
   go_wp2
   go_ret2
   exact ⟨rfl, rfl⟩
  ·
   obtain ⟨e1, e2⟩ := t2 hr
   rw [← e1, ← e2]
   clear e1 e2 t1 t2
   go_enter Tryz.func200, Tryz.ntmps200
   go_wp2
   go_ret2
   exact ⟨rfl, rfl⟩
def IRow (w : World) (b o : Nat) (l : List Int) : Prop := ∀ j x, l[j]? = some x → w.cell? ⟨b, o + j, none⟩ = some (.int .i64 x)
theorem IRow.below {w w' : World} {n b o : Nat} {l : List Int} (h : IRow w b o l) (hb : Below n w w') (hn : b < n) : IRow w' b o l := fun j x hj => (hb.cell (p := ⟨b, o + j, none⟩) hn).trans (h j x hj)
theorem IRow.drewN {w : World} {b o : Nat} {l : List Int} (h : IRow w b o l) (q : Nat) : IRow (w.drewN q) b o l := h
theorem IRow.take {w : World} {b o : Nat} {l : List Int} (h : IRow w b o l) (k : Nat) : IRow w b o (l.take k) := fun j x hj => by
 rw [List.getElem?_take] at hj
 split at hj
 ·
  exact h j x hj
 ·
  cases hj
set_option maxRecDepth 100000 in
set_option maxHeartbeats 1000000 in
theorem trimmed_some (l : List Int) (b o n c : Nat) (w : World) (hn : l.length = n) (hc : n ≤ c) (hc2 : c ≤ 9223372036854775807) (hr : IRow w b o l) :
  Calls Tryz.prog 176 #[.slice (some ⟨b, o, none⟩) n c] w fun e w' => e = .returned (.slice (some ⟨b, o, none⟩) (trz l).length c) ∧ ∃ q, w' = w.drewN q := by
 have HN := Lib.hid hn
 have HR := Lib.hid hr
 clear hn hr
 go_enter Tryz.func176, Tryz.ntmps176
 go_wp2
 go_loopw [0] (fun v wr => ∃ k : Nat, k ≤ n ∧ v = .slice (some ⟨b, o, none⟩) k c ∧ Hid (trz (l.take k) = trz l) ∧ Hid (∃ q, wr = w.drewN q)) (fun v _ => match v with | .slice _ k _ => k | _ => 0)
 case atStart => exact ⟨n, Nat.le_refl _, rfl, Lib.hid (by rw [List.take_of_length_le (by rw [HN.out]; exact Nat.le_refl _)]), Lib.hid ⟨0, rfl⟩⟩
 case round =>
  obtain ⟨k, hk, rfl, HT, HW⟩ := hrel
  by_cases h0 : k = 0
  ·
   subst h0
   have HL := Lib.hid (show (trz l).length = 0 by rw [← HT.out]; rfl)
   go_wp2
   go_ret
   exact ⟨by rw [HL.out]; rfl, HW.out⟩
  ·
   obtain ⟨m, rfl⟩ : ∃ m, k = m + 1 := ⟨k - 1, by omega⟩
   have k1 : m < l.length := by rw [HN.out]; omega
   have hx : wr.cell? ⟨b, o + m, none⟩ = some (.int .i64 l[m]) := by obtain ⟨q, rfl⟩ := HW.out; exact HR.out m _ (List.getElem?_eq_getElem k1)
   have HK := Lib.hid (List.take_succ_eq_append_getElem k1)
   obtain ⟨x, hx'⟩ : ∃ x, l[m] = x := ⟨_, rfl⟩
   rw [hx'] at hx HK
   clear hx' k1 h0
   by_cases hx0 : x = 0
   ·
    subst hx0
    have HT2 := Lib.hid (show trz (l.take m) = trz l by rw [← HT.out, HK.out, trz_snoc0])
    go_wp2
    go_roundw
    case rel => exact ⟨m, by omega, rfl, HT2, HW⟩
    case measure => exact Nat.lt_succ_self m
   ·
    have q1 : (x == 0) = false := by rw [beq_eq_false_iff_ne]; exact hx0
    have HL := Lib.hid (show (trz l).length = m + 1 by rw [← HT.out, HK.out, trz_snoc _ _ hx0, List.length_append, List.length_take, HN.out]; simp; omega)
    go_wp2
    go_ret
    exact ⟨by rw [HL.out]; rfl, HW.out⟩
theorem isNaN_any (x : Int) (w : World) : Calls Tryz.prog 205 #[.int .i64 x] w fun e w' => e = .returned (.bool false) ∧ w = w' := by
 have q : (x == x) = true := by simp
 have q2 : (x != x) = false := by simp
 go_enter Tryz.func205, Tryz.ntmps205
 go_wp2
 go_ret
 exact ⟨by simp, rfl⟩
theorem cmpInt_any (x y : Int) (w : World) : Calls Tryz.prog 179 #[.int .i64 x, .int .i64 y] w fun e w' => e = .returned (.int .i64 (cmpN x y)) ∧ w = w' := by
 have c : ∀ x W, Calls Tryz.prog 205 #[.int .i64 x] W fun e w' => e = .returned (.bool false) ∧ W = w' := isNaN_any
 unfold cmpN
 by_cases h1 : x < y
 ·
  rw [if_pos h1]
  go_enter Tryz.func179, Tryz.ntmps179
  go_wp2_with (go_at_call 205; (with_reducible refine (c _ _).mono ?_); rintro e w' ⟨rfl, rfl⟩)
  go_ret
  exact ⟨rfl, rfl⟩
 ·
  rw [if_neg h1]
  by_cases h2 : y < x
  ·
   rw [if_pos h2]
   go_enter Tryz.func179, Tryz.ntmps179
   go_wp2_with (go_at_call 205; (with_reducible refine (c _ _).mono ?_); rintro e w' ⟨rfl, rfl⟩)
   go_ret
   exact ⟨rfl, rfl⟩
  ·
   rw [if_neg h2]
   go_enter Tryz.func179, Tryz.ntmps179
   go_wp2_with (go_at_call 205; (with_reducible refine (c _ _).mono ?_); rintro e w' ⟨rfl, rfl⟩)
   go_ret
   exact ⟨rfl, rfl⟩
def ABlk (w : World) (g : Nat) (L : List Int) : Prop := ∃ T : List Value, w.heap[g]? = some (.cells (L.map (Value.int .i64) ++ T).toArray 3 (0, 0))
theorem ABlk.lt {w : World} {g : Nat} {L : List Int} (h : ABlk w g L) : g < w.heap.size := by obtain ⟨T, h⟩ := h; exact (Array.getElem?_eq_some_iff.1 h).1
theorem ABlk.cell {w : World} {g : Nat} {L : List Int} (h : ABlk w g L) {j : Nat} {x : Int} (hj : L[j]? = some x) : w.cell? ⟨g, j, none⟩ = some (.int .i64 x) := by
 obtain ⟨T, h⟩ := h
 have hl := (List.getElem?_eq_some_iff.1 hj).1
 rw [World.cell?, h]
 simp only [List.getElem?_toArray]
 rw [List.getElem?_append_left (by simpa using hl), List.getElem?_map, hj]
 rfl
theorem ABlk.free {w : World} {g : Nat} {L : List Int} (h : ABlk w g L) (j : Nat) : w.frozen? ⟨g, j, none⟩ = false := by
 obtain ⟨T, h⟩ := h
 rw [World.frozen?, h]; simp
theorem ABlk.set {w : World} {g : Nat} {L : List Int} (h : ABlk w g L) (j : Nat) (x : Int) : ABlk (w.setCell ⟨g, j, none⟩ (.int .i64 x)) g (L.set j x) := by
 obtain ⟨T, h⟩ := h
 have := heap_setCell_same w g j _ _ (.int .i64 x) h
 by_cases hj : j < L.length
 ·
  refine ⟨T, ?_⟩
  rw [this, List.setIfInBounds_toArray, List.set_append_left _ _ (by simpa using hj), List.map_set]
 ·
  refine ⟨T.set (j - L.length) (.int .i64 x), ?_⟩
  rw [this, List.setIfInBounds_toArray, List.set_append_right _ _ (by simpa using hj), List.length_map, show L.set j x = L from List.set_eq_of_length_le (by omega)]
theorem setCell_grown (w : World) (g j : Nat) (u : Value) : w.grownBy (w.setCell ⟨g, j, none⟩ u) (some g) := ⟨rfl, rfl, rfl, by simp, fun k _ hk => heap_setCell_other w ⟨g, j, none⟩ k u (fun e => hk (by simp [e]))⟩
theorem ABlk.row {w : World} {g : Nat} {P l S : List Int} (h : ABlk w g (P ++ l ++ S)) : IRow w g P.length l := fun j x hj => by
 refine h.cell ?_
 have hl := (List.getElem?_eq_some_iff.1 hj).1
 rw [List.append_assoc, List.getElem?_append_right (by omega), Nat.add_sub_cancel_left, List.getElem?_append_left hl, hj]
theorem set_mid (A : List Int) (x v : Int) (B : List Int) : (A ++ x :: B).set A.length v = A ++ v :: B := by
 induction A with
 | nil => rfl
 | cons a A ih => simp [ih]
theorem mid_get (A : List Int) (x : Int) (B : List Int) : (A ++ x :: B)[A.length]? = some x := by simp
set_option maxRecDepth 100000 in
set_option maxHeartbeats 1000000 in
theorem carried_any (P l S : List Int) (g o n c : Nat) (w : World) (hP : P.length = o) (hn : l.length = n) (hA : ABlk w g (P ++ l ++ S)) (hb : ∀ x ∈ l, -1000000000000000 ≤ x ∧ x ≤ 1000000000000000) (hc : n ≤ c) (hc2 : c ≤ 9223372036854775807) :
  Calls Tryz.prog 177 #[.slice (some ⟨g, o, none⟩) n c] w fun e w' => e = .returned (.slice (some ⟨g, o, none⟩) (trz (carr 0 l)).length c) ∧ ABlk w' g (P ++ carr 0 l ++ S) ∧ w.grownBy w' (some g) ∧ w'.heap.size = w.heap.size := by
 have HP := Lib.hid hP
 have HN := Lib.hid hn
 have HB := Lib.hid hb
 have HA := Lib.hid hA
 have cT : ∀ (W : World) q, ABlk W g q → q = P ++ carr 0 l ++ S → Calls Tryz.prog 176 #[.slice (some ⟨g, o, none⟩) n c] W fun e w' => e = .returned (.slice (some ⟨g, o, none⟩) (trz (carr 0 l)).length c) ∧ ∃ q, w' = W.drewN q := fun W q h e => by
  subst e
  exact trimmed_some (carr 0 l) g o n c W (by rw [carr_len, hn]) hc hc2 (hP ▸ h.row)
 clear hP hn hb hA
 go_enter Tryz.func177, Tryz.ntmps177
 go_wp2
 go_loopw [3, 8] (fun cy i wr => ∃ (k : Nat) (y : Int), k ≤ n ∧ i = .int .i64 (k : Int) ∧ cy = .int .i64 y ∧ -1000000000000 ≤ y ∧ y ≤ 1000000000000 ∧ Hid (y = cout 0 (l.take k)) ∧ Hid (ABlk wr g (P ++ carr 0 (l.take k) ++ (l.drop k ++ S))) ∧ Hid (w.grownBy wr (some g) ∧ wr.heap.size = w.heap.size)) (fun _ i _ => n - (intOf i).toNat)
 case atStart => exact ⟨0, 0, by omega, rfl, rfl, by decide, by decide, Lib.hid rfl, Lib.hid (by have h := HA.out; simpa [carr] using h), Lib.hid ⟨⟨rfl, rfl, rfl, Nat.le_refl _, fun _ _ _ => rfl⟩, rfl⟩⟩
 case round =>
  obtain ⟨k, y, hk, rfl, rfl, hy1, hy2, hy, hA, hG⟩ := hrel
  by_cases h1 : k < n
  ·
   have k1 : k < l.length := by rw [HN.out]; exact h1
   have hdr : l.drop k = l[k] :: l.drop (k + 1) := List.drop_eq_getElem_cons k1
   have htk : l.take (k + 1) = l.take k ++ [l[k]] := List.take_succ_eq_append_getElem k1
   have hx := HB.out _ (List.getElem_mem k1)
   have hlen : (P ++ carr 0 (l.take k)).length = o + k := by rw [List.length_append, carr_len, List.length_take, HP.out]; omega
   have hA2 := hA.out
   rw [hdr, List.cons_append] at hA2
   have hcell : wr.cell? ⟨g, o + k, none⟩ = some (.int .i64 l[k]) := by rw [← hlen]; exact hA2.cell (mid_get _ _ _)
   have hfree : wr.frozen? ⟨g, o + k, none⟩ = false := hA2.free _
   have hA3 := hA2.set (o + k) ((l[k] + y) % 10000)
   rw [← hlen, set_mid, hlen] at hA3
   have HA3 := Lib.hid (show ABlk (wr.setCell ⟨g, o + k, none⟩ (.int .i64 ((l[k] + y) % 10000))) g (P ++ carr 0 (l.take (k + 1)) ++ (l.drop (k + 1) ++ S)) by
    rw [htk, carr_snoc, ← hy.out]
    simpa using hA3)
   have HY := Lib.hid (show (l[k] + y) / 10000 = cout 0 (l.take (k + 1)) by rw [htk, cout_snoc, ← hy.out])
   have HG := Lib.hid (show w.grownBy (wr.setCell ⟨g, o + k, none⟩ (.int .i64 ((l[k] + y) % 10000))) (some g) ∧ (wr.setCell ⟨g, o + k, none⟩ (.int .i64 ((l[k] + y) % 10000))).heap.size = w.heap.size from ⟨hG.out.1.trans (setCell_grown _ _ _ _), by simp [hG.out.2]⟩)
   generalize l[k] = x at *
   have cS : ∀ W, Calls Tryz.prog 200 #[.int .i64 (x + y)] W fun e w' => e = .returned (.tuple #[.int .i64 ((x + y) / 10000), .int .i64 ((x + y) % 10000)]) ∧ W = w' := fun W => split_any (x + y) W (by omega) (by omega)
   clear hdr htk hlen hA2 hA3 hA hG hy cT k1
   go_wp2_with (go_at_call 200; (with_reducible refine (cS _).mono ?_); rintro e w' ⟨rfl, rfl⟩)
   go_roundw
   case rel => exact ⟨k + 1, _, by omega, by go_num, rfl, by omega, by omega, HY, HA3, HG⟩
   case measure => simp [intOf]; omega
  ·
   have hk : k = n := by omega
   have e1 : l.take k = l := List.take_of_length_le (by rw [HN.out]; omega)
   have e2 : l.drop k = [] := List.drop_eq_nil_of_le (by rw [HN.out]; omega)
   have hA2 := hA.out
   rw [e1, e2, List.nil_append] at hA2
   have cT2 := cT wr _ hA2 rfl
   have HA2 := Lib.hid hA2
   subst hk
   clear cT e1 e2 hA2 hA hy
   go_wp2_with (go_at_call 176; (with_reducible refine cT2.mono ?_); rintro e w' ⟨rfl, q, rfl⟩)
   go_ret
   exact ⟨rfl, HA2.out, hG.out.1.trans ⟨rfl, rfl, rfl, Nat.le_refl _, fun _ _ _ => rfl⟩, hG.out.2⟩
def subk : List Int → List Int → Int → List Int
 | x :: l, d :: D, k => (x - k * d) :: subk l D k
 | l, _, _ => l
theorem subk_nil (l : List Int) (k : Int) : subk l [] k = l := by cases l <;> rfl
theorem subk_len (l D : List Int) (k : Int) : (subk l D k).length = l.length := by
 induction l generalizing D with
 | nil => cases D <;> rfl
 | cons x l ih => cases D with
  | nil => rfl
  | cons d D => simp [subk, ih]
theorem subk_snoc (D : List Int) (d : Int) (k : Int) : ∀ l : List Int, D.length < l.length → subk l (D ++ [d]) k = (subk l D k).set D.length (((subk l D k).getD D.length 0) - k * d) ∧ (subk l D k).getD D.length 0 = l.getD D.length 0 := by
 induction D with
 | nil =>
  intro l h
  cases l with
  | nil => simp at h
  | cons x l => simp [subk, subk_nil]
 | cons e D ih =>
  intro l h
  cases l with
  | nil => simp at h
  | cons x l =>
   obtain ⟨h1, h2⟩ := ih l (by simpa using h)
   simp only [List.cons_append, subk, List.length_cons]
   constructor
   ·
    rw [h1]; simp
   ·
    simpa using h2
theorem subk_vl (l D : List Int) (k : Int) (h : D.length ≤ l.length) : vl (subk l D k) = vl l - k * vl D := by
 induction l generalizing D with
 | nil => cases D with
  | nil => simp [subk, vl]
  | cons d D => simp at h
 | cons x l ih => cases D with
  | nil => simp [subk, vl]
  | cons d D =>
   rw [subk, vl, vl, vl, ih D (by simpa using h), Int.mul_add, Int.mul_sub]
   have : k * (10000 * vl D) = 10000 * (k * vl D) := by rw [← Int.mul_assoc, Int.mul_comm k, Int.mul_assoc]
   omega
theorem subk_bound (l D : List Int) (k : Int) (hl : ∀ x ∈ l, -10000000 ≤ x ∧ x ≤ 10000000) (hD : Dig D) (hk : 0 ≤ k ∧ k ≤ 10000000) : ∀ x ∈ subk l D k, -1000000000000000 ≤ x ∧ x ≤ 1000000000000000 := by
 induction l generalizing D with
 | nil => intro x hx; cases D <;> simp [subk] at hx
 | cons y l ih => cases D with
  | nil => intro x hx; rw [subk_nil] at hx; have := hl x hx; omega
  | cons d D =>
   intro x hx
   rw [subk] at hx
   rcases List.mem_cons.1 hx with rfl | hx
   ·
    have h1 := hl y (by simp)
    have h2 := hD.head
    have h3 : 0 ≤ k * d := Int.mul_nonneg hk.1 h2.1
    have h4 : k * d ≤ 10000000 * 10000 := Int.mul_le_mul hk.2 (by omega) h2.1 (by omega)
    omega
   ·
    exact ih D (fun z hz => hl z (by simp [hz])) hD.tail x hx
theorem IRow.grown {w w' : World} {b o : Nat} {l : List Int} {row : Option Nat} (h : IRow w b o l) (hb : b < w.heap.size) (hg : w.grownBy w' row) (hne : some b ≠ row) : IRow w' b o l := fun j x hj => by
 have e := hg.block b hb hne
 rw [World.cell?_of_block (a := ⟨b, o + j, none⟩) e]
 exact h j x hj
set_option maxRecDepth 100000 in
set_option maxHeartbeats 1000000 in
theorem take_any (P l S D : List Int) (g o n c b2 o2 m c2 : Nat) (k : Int) (w : World) (hP : P.length = o) (hn : l.length = n) (hA : ABlk w g (P ++ l ++ S)) (hl : ∀ x ∈ l, -10000000 ≤ x ∧ x ≤ 10000000) (hc : n ≤ c) (hc2 : c ≤ 9223372036854775807)
  (hm : D.length = m) (hD : Dig D) (hDr : IRow w b2 o2 D) (hbl : b2 < w.heap.size) (hne : b2 ≠ g) (hmn : m ≤ n) (hmc : m ≤ c2) (hk : 0 ≤ k ∧ k ≤ 10000000) :
  Calls Tryz.prog 175 #[.slice (some ⟨g, o, none⟩) n c, .slice (some ⟨b2, o2, none⟩) m c2, .int .i64 k] w fun e w' => (∃ v, e = .returned v) ∧ ABlk w' g (P ++ carr 0 (subk l D k) ++ S) ∧ w.grownBy w' (some g) ∧ w'.heap.size = w.heap.size := by
 have HP := Lib.hid hP
 have HN := Lib.hid hn
 have HM := Lib.hid hm
 have HD := Lib.hid hD
 have HDr := Lib.hid hDr
 have HL := Lib.hid hl
 have HA := Lib.hid hA
 have hk0 := hk.1
 have hk1 := hk.2
 have cT : ∀ (W : World) q, ABlk W g q → q = P ++ subk l D k ++ S → Calls Tryz.prog 177 #[.slice (some ⟨g, o, none⟩) n c] W fun e w' => e = .returned (.slice (some ⟨g, o, none⟩) (trz (carr 0 (subk l D k))).length c) ∧ ABlk w' g (P ++ carr 0 (subk l D k) ++ S) ∧ W.grownBy w' (some g) ∧ w'.heap.size = W.heap.size := fun W q h e => by
  subst e
  exact carried_any P (subk l D k) S g o n c W hP (by rw [subk_len, hn]) h (subk_bound l D k hl hD hk) hc hc2
 clear hP hn hm hl hA hDr hD hk
 go_enter Tryz.func175, Tryz.ntmps175
 go_wp2
 go_loopw [10] (fun i wr => ∃ (j : Nat), j ≤ m ∧ i = .int .i64 (j : Int) ∧ Hid (ABlk wr g (P ++ subk l (D.take j) k ++ S)) ∧ Hid (w.grownBy wr (some g) ∧ wr.heap.size = w.heap.size)) (fun i _ => m - (intOf i).toNat)
 case atStart => exact ⟨0, by omega, rfl, Lib.hid (by rw [List.take_zero, subk_nil]; exact HA.out), Lib.hid ⟨⟨rfl, rfl, rfl, Nat.le_refl _, fun _ _ _ => rfl⟩, rfl⟩⟩
 case round =>
  obtain ⟨j, hj, rfl, hA, hG⟩ := hrel
  by_cases h1 : j < m
  ·
   have j1 : j < D.length := by rw [HM.out]; exact h1
   have hd : wr.cell? ⟨b2, o2 + j, none⟩ = some (.int .i64 D[j]) := (HDr.out.grown hbl hG.out.1 (by simpa using hne)) j _ (List.getElem?_eq_getElem j1)
   have hdb := HD.out _ (List.getElem_mem j1)
   have htk : D.take (j + 1) = D.take j ++ [D[j]] := List.take_succ_eq_append_getElem j1
   have hlj : (D.take j).length = j := by rw [List.length_take, HM.out]; omega
   obtain ⟨s1, s2⟩ := subk_snoc (D.take j) D[j] k l (by rw [hlj, HN.out]; omega)
   rw [hlj] at s1 s2
   have hjl : j < l.length := by rw [HN.out]; omega
   have s3 : l.getD j 0 = l[j] := by rw [List.getD_eq_getElem?_getD, List.getElem?_eq_getElem hjl]; rfl
   rw [s2, s3] at s1
   have hlb := HL.out _ (List.getElem_mem hjl)
   have hsl : j < (subk l (D.take j) k).length := by rw [subk_len]; exact hjl
   have s4 : (subk l (D.take j) k)[j]? = some l[j] := by
    rw [List.getElem?_eq_getElem hsl]
    rw [List.getD_eq_getElem?_getD, List.getElem?_eq_getElem hsl] at s2
    rw [← s3, ← s2]; rfl
   have hcell : wr.cell? ⟨g, o + j, none⟩ = some (.int .i64 l[j]) := by
    have := hA.out.row j _ s4
    rwa [HP.out] at this
   have hfree : wr.frozen? ⟨g, o + j, none⟩ = false := hA.out.free _
   have hA3 := hA.out.set (o + j) (l[j] - k * D[j])
   have HA3 := Lib.hid (show ABlk (wr.setCell ⟨g, o + j, none⟩ (.int .i64 (l[j] - k * D[j]))) g (P ++ subk l (D.take (j + 1)) k ++ S) by
    rw [htk, s1]
    have e : (P ++ subk l (D.take j) k ++ S).set (o + j) (l[j] - k * D[j]) = P ++ (subk l (D.take j) k).set j (l[j] - k * D[j]) ++ S := by
     rw [List.append_assoc, List.set_append_right _ _ (by rw [HP.out]; omega), HP.out, Nat.add_sub_cancel_left, List.set_append_left _ _ hsl, List.append_assoc]
    rw [← e]; exact hA3)
   have HG := Lib.hid (show w.grownBy (wr.setCell ⟨g, o + j, none⟩ (.int .i64 (l[j] - k * D[j]))) (some g) ∧ (wr.setCell ⟨g, o + j, none⟩ (.int .i64 (l[j] - k * D[j]))).heap.size = w.heap.size from ⟨hG.out.1.trans (setCell_grown _ _ _ _), by simp [hG.out.2]⟩)
   generalize D[j] = d at *
   generalize l[j] = x at *
   have m1 : 0 ≤ k * d := Int.mul_nonneg hk0 hdb.1
   have m2 : k * d ≤ 10000000 * 10000 := Int.mul_le_mul hk1 (by omega) hdb.1 (by omega)
   clear htk hlj s1 s2 s3 s4 hjl hsl hA3 hA hG cT j1
   go_wp2
   go_roundw
   case rel => exact ⟨j + 1, by omega, by go_num, HA3, HG⟩
   case measure => simp [intOf]; omega
  ·
   have hk : j = m := by omega
   have e1 : D.take j = D := List.take_of_length_le (by rw [HM.out]; omega)
   have hA2 := hA.out
   rw [e1] at hA2
   have cT2 := cT wr _ hA2 rfl
   subst hk
   clear cT e1 hA2 hA
   go_wp2_with (go_at_call 177; (with_reducible refine cT2.mono ?_); rintro e w' ⟨rfl, h1', h2', h3'⟩; have HX := Lib.hid (And.intro h1' (And.intro h2' h3')); clear h1' h2' h3')
   go_end0
   exact ⟨⟨_, rfl⟩, HX.out.1, hG.out.1.trans HX.out.2.1, HX.out.2.2.trans hG.out.2⟩
def ISl (w : World) (v : Value) (l : List Int) : Prop := (∃ a c, v = .slice a 0 c ∧ l = []) ∨ ∃ b o c, v = .slice (some ⟨b, o, none⟩) l.length c ∧ l.length ≤ c ∧ c ≤ 9223372036854775807 ∧ b < w.heap.size ∧ IRow w b o l
theorem ISl.below {w w' : World} {v : Value} {l : List Int} (h : ISl w v l) (hb : Below w.heap.size w w') : ISl w' v l := by
 rcases h with h | ⟨b, o, c, h1, h2, h3, h4, h5⟩
 ·
  exact .inl h
 ·
  exact .inr ⟨b, o, c, h1, h2, h3, Nat.lt_of_lt_of_le h4 hb.size, h5.below hb h4⟩
theorem ISl.cases {w : World} {v : Value} {l : List Int} (h : ISl w v l) : (∃ a c, v = .slice a 0 c ∧ l = []) ∨ ∃ b o n c, v = .slice (some ⟨b, o, none⟩) n c ∧ l.length = n ∧ 0 < n ∧ n ≤ c ∧ c ≤ 9223372036854775807 ∧ b < w.heap.size ∧ IRow w b o l := by
 rcases h with h | ⟨b, o, c, h1, h2, h3, h4, h5⟩
 ·
  exact .inl h
 ·
  by_cases h0 : l.length = 0
  ·
   exact .inl ⟨_, c, by rw [h1, h0], List.length_eq_zero_iff.1 h0⟩
  ·
   exact .inr ⟨b, o, _, c, h1, rfl, by omega, h2, h3, h4, h5⟩
def ints (l : List Int) : List Value := l.map (Value.int .i64)
theorem ints_len (l : List Int) : (ints l).length = l.length * 1 := by rw [ints, List.length_map, Nat.mul_one]
theorem ints_one (l : List Int) : ∀ u ∈ ints l, u.oneCell' = true := by
 intro u hu
 obtain ⟨x, _, rfl⟩ := List.mem_map.1 hu
 rfl
theorem IRow.news {w : World} {b o : Nat} {l : List Int} (h : IRow w b o l) : ∀ j u, (ints l)[j]? = some u → w.cell? ((⟨b, o, none⟩ : Addr).add j) = some u := by
 intro j u hj
 rw [ints, List.getElem?_map] at hj
 cases hq : l[j]? with
 | none => rw [hq] at hj; cases hj
 | some x => rw [hq] at hj; cases hj; rw [Addr.add_mid]; exact h j x hq
theorem own_blk {w : World} {base n cap g : Nat} {l : List Int} (h : w.ownsRow base 3 1 (.slice (some ⟨g, 0, none⟩) n cap) n (ints l)) : ABlk w g l ∧ l.length = n ∧ n ≤ cap ∧ cap ≤ 9223372036854775807 ∧ base ≤ g := by
 have hl : l.length = n := by have := h.1; rw [ints_len] at this; omega
 rcases h.2 with ⟨h', _⟩ | ⟨g', cap', cur, h', hb, hg, hnc, hcm, hcs, htake⟩
 ·
  cases h'
 ·
  simp only [Value.slice.injEq, Option.some.injEq, Addr.mk.injEq] at h'
  obtain ⟨⟨rfl, _⟩, _, rfl⟩ := h'
  refine ⟨⟨cur.toList.drop n, ?_⟩, hl, hnc, by unfold maxLen at hcm; omega, hb⟩
  rw [hg]
  have e : List.map (Value.int .i64) l = cur.toList.take n := by rw [← ints, ← htake, Nat.mul_one]
  rw [e, List.take_append_drop, Array.toArray_toList]
theorem ABlk.sl {w : World} {g n c : Nat} {l S : List Int} (h : ABlk w g (l ++ S)) (hn : l.length = n) (hc : n ≤ c) (hc2 : c ≤ 9223372036854775807) : ISl w (.slice (some ⟨g, 0, none⟩) n c) l := by
 subst hn
 exact .inr ⟨g, 0, c, rfl, hc, hc2, h.lt, ABlk.row (P := []) h⟩
theorem ABlk.grown {w w' : World} {g : Nat} {L : List Int} {row : Option Nat} (h : ABlk w g L) (hg : w.grownBy w' row) (hne : some g ≠ row) : ABlk w' g L := by
 have hl := h.lt
 obtain ⟨T, h⟩ := h
 exact ⟨T, (hg.block g hl hne).trans h⟩
theorem ABlk.below {w w' : World} {n g : Nat} {L : List Int} (h : ABlk w g L) (hb : Below n w w') (hn : g < n) : ABlk w' g L := by
 obtain ⟨T, h⟩ := h
 exact ⟨T, (hb.block g hn).trans h⟩
theorem below_drewN {n : Nat} {w w' : World} (h : Below n w w') (q : Nat) : Below n w (w'.drewN q) := h.trans ⟨rfl, rfl, rfl, Nat.le_refl _, fun _ _ => rfl⟩
theorem below_own {n g : Nat} {w w' w2 : World} (h : Below n w w') (hg : w'.grownBy w2 (some g)) (hs : n ≤ w.heap.size) (hn : n ≤ g) : Below n w w2 := h.grown hg (Nat.le_trans hs h.size) (fun k e => by cases e; exact hn)
theorem info_int : (Tryz.prog.info? 3).map (fun i => (i.zero, i.size, i.bytes)) = some (some (.int .i64 0), 1, 8) := by kernel_rfl
theorem trimmed_zero (a : Option Addr) (c : Nat) (w : World) : Calls Tryz.prog 176 #[.slice a 0 c] w fun e w' => e = .returned (.slice a 0 c) ∧ w = w' := by
 go_enter Tryz.func176, Tryz.ntmps176
 go_wp2
 go_loop [0] (fun v => v = .slice a 0 c) (fun _ => 0)
 case atStart => exact rfl
 case round =>
  subst hrel
  go_wp2
  go_ret
  exact ⟨rfl, rfl⟩
theorem carried_zero (a : Option Addr) (c : Nat) (w : World) : Calls Tryz.prog 177 #[.slice a 0 c] w fun e w' => e = .returned (.slice a 0 c) ∧ w = w' := by
 have cT := trimmed_zero a c
 go_enter Tryz.func177, Tryz.ntmps177
 go_wp2
 go_loop [3, 8] (fun x i => i = .int .i64 0) (fun _ _ => 0)
 case atStart => exact rfl
 case round =>
  subst hrel
  go_wp2_with (go_at_call 176; (with_reducible refine (cT _).mono ?_); rintro e w' ⟨rfl, rfl⟩)
  go_ret
  exact ⟨rfl, rfl⟩
theorem take_zero (a : Option Addr) (c : Nat) (a2 : Option Addr) (c2 : Nat) (k : Int) (w : World) : Calls Tryz.prog 175 #[.slice a 0 c, .slice a2 0 c2, .int .i64 k] w fun e w' => (∃ v, e = .returned v) ∧ w = w' := by
 have cT := carried_zero a c
 go_enter Tryz.func175, Tryz.ntmps175
 go_wp2
 go_loop [10] (fun i => i = .int .i64 0) (fun _ => 0)
 case atStart => exact rfl
 case round =>
  subst hrel
  go_wp2_with (go_at_call 177; (with_reducible refine (cT _).mono ?_); rintro e w' ⟨rfl, rfl⟩)
  go_end0
  exact ⟨⟨_, rfl⟩, rfl⟩
theorem wpList_append_none {w : World} {ops : Array Oper} {rest : List Oper} {o : Oper} {a : Act} {Q : Exit → Act → World → Prop} (hgd : o.guard = none) (s x : Operand)
  (ho : o.op = .call { callee := .builtin .append, args := #[s, x], argTypes := #[112, 112] }) (b : Nat) (hs : a.eval s = .slice (some ⟨b, 0, none⟩) 0 0) (ad : Option Addr) (c : Nat) (hx : a.eval x = .slice ad 0 c)
  (h : wpList Tryz.prog ops Q rest (a.put o.dst (.slice (some ⟨b, 0, none⟩) 0 0)) w) : wpList Tryz.prog ops Q (o :: rest) a w :=
 wpList_plain hgd fun _ hK => by
  obtain ⟨i0, hi, _, hsz, _⟩ := info_parts info_int
  have hsrc : Src Tryz.prog i0.size 112 (.slice ad 0 c) 0 [] w := by
   cases ad with
   | none => exact Src.ofNil w Tryz.underlying112 c
   | some a => exact Src.ofSlice w Tryz.underlying112 a 0 c [] (by simp) (fun j u h => by simp at h) (fun _ h => by cases h)
  have hr := run_append_room_src w 112 112 o.type 3 i0 Tryz.underlying112 hi b 0 0 0 (.slice ad 0 c) 0 [] hsrc (by omega) (fun j h => absurd h (by simp)) (fun j h => absurd h (by simp))
  unfold Oper.wp execOp
  simp only [ho, resolve, invoke, builtin, Sem.run_bind, Sem.run_pure, Result.andThen_ok, List.map_toArray, List.map_cons, List.map_nil, hs, hx, hr]
  exact hK _ _ h
theorem own_empty {W : World} {base : Nat} (h : base ≤ W.heap.size) : (W.alloc (.cells #[] 3)).ownsRow base 3 1 (.slice (some ⟨W.heap.size, 0, none⟩) 0 0) 0 [] :=
 ⟨rfl, .inr ⟨W.heap.size, 0, #[], rfl, h, by rw [World.alloc_heap_new], Nat.le_refl _, Nat.zero_le _, rfl, rfl⟩⟩
set_option maxRecDepth 100000 in
theorem clone_zero (a : Option Addr) (c : Nat) (w : World) : Calls Tryz.prog 173 #[.slice a 0 c] w fun e w' => (∃ a' c', e = .returned (.slice a' 0 c')) ∧ Below w.heap.size w w' := by
 cases a with
 | none =>
  have qn : ∀ W, (binOp .eql 112 (.slice none 0 c) (.slice none 0 0)).run Tryz.prog W = .ok (.bool true) W := fun W => Lib.run_eql_slice_nil W 112 3 none 0 c 0 0 Tryz.underlying112
  go_enter Tryz.func173, Tryz.ntmps173
  go_wp2
  go_ret
  exact ⟨⟨_, _, rfl⟩, Below.refl _ _⟩
 | some a =>
  have qn : ∀ W, (binOp .eql 112 (.slice (some a) 0 c) (.slice none 0 0)).run Tryz.prog W = .ok (.bool false) W := fun W => Lib.run_eql_slice_nil W 112 3 (some a) 0 c 0 0 Tryz.underlying112
  go_enter Tryz.func173, Tryz.ntmps173
  go_wp2_with (at_builtin; (refine wpList_append_none rfl (.tmp 5) (.tmp 6) rfl w.heap.size rfl (some a) c rfl ?_))
  go_ret
  exact ⟨⟨_, _, rfl⟩, (Below.refl _ w).alloc (Nat.le_refl _) _⟩
set_option maxRecDepth 100000 in
theorem clone_some (l : List Int) (b o n c : Nat) (w : World) (hn : l.length = n) (h0 : 0 < n) (hn2 : n ≤ 1000000) (hb : b < w.heap.size) (hr : IRow w b o l) :
  Calls Tryz.prog 173 #[.slice (some ⟨b, o, none⟩) n c] w fun e w' => ∃ g cap, e = .returned (.slice (some ⟨g, 0, none⟩) n cap) ∧ w.heap.size ≤ g ∧ n ≤ cap ∧ cap ≤ 9223372036854775807 ∧ ABlk w' g l ∧ Below w.heap.size w w' := by
 obtain ⟨i0, hi, hz0, hz1, hz2⟩ := info_parts info_int
 have hA1 : Below w.heap.size w (w.alloc (.cells #[] 3)) := (Below.refl _ w).alloc (Nat.le_refl _) _
 have s1 := hA1.size
 have HO := Lib.hid (own_empty (W := w) (base := w.heap.size) (Nat.le_refl _))
 have HX := Lib.hid ((hr.below hA1 hb).news)
 have HL := Lib.hid (show (ints l).length = n * 1 by rw [ints_len, hn])
 have HS := Lib.hid (ints_one l)
 have qn : ∀ W, (binOp .eql 112 (.slice (some ⟨b, o, none⟩) n c) (.slice none 0 0)).run Tryz.prog W = .ok (.bool false) W := fun W => Lib.run_eql_slice_nil W 112 3 (some ⟨b, o, none⟩) n c 0 0 Tryz.underlying112
 clear hr hn
 go_enter Tryz.func173, Tryz.ntmps173
 go_wp2_with (at_builtin; (refine wpList_append_lies _ rfl (.tmp 5) (.tmp 6) 112 rfl w.heap.size 3 i0 (.int .i64 0) 1 8 Tryz.underlying112 hi hz0 hz1 hz2 rfl (by decide) _ 0 [] rfl HO.out ⟨b, o, none⟩ n c (ints l) rfl HL.out HX.out HS.out h0 (by unfold maxLen; omega) (by omega) s1 _ rfl ?_; intro g cap w' hown hgrow _ _; rw [Nat.zero_add, List.nil_append] at hown; have hB := hA1.grown hgrow s1 fun k e => (HO.out.lt k e).1; have HOW := Lib.hid (own_blk hown); clear hown hgrow))
 go_ret
 exact ⟨g, cap, rfl, HOW.out.2.2.2.2, HOW.out.2.2.1, HOW.out.2.2.2.1, HOW.out.1, hB⟩
set_option maxRecDepth 100000 in
theorem take_none (P l S : List Int) (g o n c : Nat) (a2 : Option Addr) (c2 : Nat) (k : Int) (w : World) (hP : P.length = o) (hn : l.length = n) (hA : ABlk w g (P ++ l ++ S)) (hl : ∀ x ∈ l, -10000000 ≤ x ∧ x ≤ 10000000) (hc : n ≤ c) (hc2 : c ≤ 9223372036854775807) :
  Calls Tryz.prog 175 #[.slice (some ⟨g, o, none⟩) n c, .slice a2 0 c2, .int .i64 k] w fun e w' => (∃ v, e = .returned v) ∧ ABlk w' g (P ++ carr 0 l ++ S) ∧ w.grownBy w' (some g) ∧ w'.heap.size = w.heap.size := by
 have cT := carried_any P l S g o n c w hP hn hA (fun x hx => by have := hl x hx; omega) hc hc2
 clear hP hn hA hl
 go_enter Tryz.func175, Tryz.ntmps175
 go_wp2
 go_loop [10] (fun i => i = .int .i64 0) (fun _ => 0)
 case atStart => exact rfl
 case round =>
  subst hrel
  go_wp2_with (go_at_call 177; (with_reducible refine cT.mono ?_); rintro e w' ⟨rfl, h1, h2, h3⟩; have HX := Lib.hid (And.intro h1 (And.intro h2 h3)); clear h1 h2 h3)
  go_end0
  exact ⟨⟨_, rfl⟩, HX.out⟩
def NSl (w : World) (v : Value) (n : Nat) : Prop := ISl w v (grp n)
theorem grp_small (n : Nat) : ∀ x ∈ grp n, -10000000 ≤ x ∧ x ≤ 10000000 := fun x hx => by have := grp_dig n x hx; omega
theorem grp_mono {n m : Nat} (h : m ≤ n) : (grp m).length ≤ (grp n).length := grp_len (Nat.lt_of_le_of_lt h (grp_lt n))
theorem NSl.of_blk {w : World} {g n c : Nat} {l S : List Int} {r : Nat} (h : ABlk w g (l ++ S)) (hn : l.length = n) (hd : Dig l) (hv : vl l = r) (hc : n ≤ c) (hc2 : c ≤ 9223372036854775807) : NSl w (.slice (some ⟨g, 0, none⟩) (trz l).length c) r := by
 have e : trz l = grp r := by rw [trz_grp hd, hv]; rfl
 have hl := trz_len l
 have h2 : ABlk w g (trz l ++ (l.drop (trz l).length ++ S)) := by
  rw [← List.append_assoc]
  have : trz l ++ l.drop (trz l).length = l := by
   conv => lhs; lhs; rw [trz_take l]
   exact List.take_append_drop _ _
  rw [this]; exact h
 rw [NSl, ← e]
 exact h2.sl rfl (by omega) hc2
set_option maxRecDepth 100000 in
theorem minus_any (n m : Nat) (v1 v2 : Value) (w : World) (h : m ≤ n) (hl : (grp n).length ≤ 100000) (h1 : NSl w v1 n) (h2 : NSl w v2 m) :
  Calls Tryz.prog 153 #[v1, v2] w fun e w' => ∃ v, e = .returned v ∧ NSl w' v (n - m) ∧ Below w.heap.size w w' := by
 rcases h1.cases with ⟨a, c, rfl, e1⟩ | ⟨b, o, k, c, rfl, hk, hk0, hkc, hc2, hb, hr⟩
 ·
  have hn : n = 0 := grp_nil.1 e1
  subst hn
  have hm : m = 0 := by omega
  subst hm
  obtain ⟨a2, c2, rfl⟩ : ∃ a c, v2 = .slice a 0 c := by
   rcases h2 with ⟨a, c, rfl, _⟩ | ⟨b, o, c, rfl, _⟩
   ·
    exact ⟨a, c, rfl⟩
   ·
    rw [grp_zero]; exact ⟨_, c, rfl⟩
  have cC : Calls Tryz.prog 173 #[.slice a 0 c] w fun e w' => (∃ a' c', e = .returned (.slice a' 0 c')) ∧ Below w.heap.size w w' := clone_zero a c w
  have cT := take_zero
  have cR := trimmed_zero
  clear h1 h2 hl e1
  go_enter Tryz.func153, Tryz.ntmps153
  go_wp2_with (first | (go_at_call 173; (with_reducible refine cC.mono ?_); rintro e w' ⟨⟨a', c', rfl⟩, hB⟩) | (go_at_call 175; (with_reducible refine (cT _ _ _ _ _ _).mono ?_); rintro e w2 ⟨⟨v, rfl⟩, rfl⟩) | (go_at_call 176; (with_reducible refine (cR _ _ _).mono ?_); rintro e w2 ⟨rfl, rfl⟩))
  go_ret
  exact ⟨_, rfl, .inl ⟨_, _, rfl, grp_zero⟩, hB⟩
 ·
  obtain ⟨g2, hg2⟩ : ∃ l, grp n = l := ⟨_, rfl⟩
  have hfit := carr_fits (l := subk (grp n) (grp m) 1) (c := 0) (by rw [subk_vl _ _ _ (grp_mono h), vl_grp, vl_grp]; omega) (by
   rw [subk_vl _ _ _ (grp_mono h), vl_grp, vl_grp, subk_len]
   have := vl_lt (grp_dig n)
   rw [vl_grp] at this
   omega)
  have hv : vl (carr 0 (subk (grp n) (grp m) 1)) = ((n - m : Nat) : Int) := by rw [hfit.2, subk_vl _ _ _ (grp_mono h), vl_grp, vl_grp]; omega
  have hlen : (carr 0 (subk (grp n) (grp m) 1)).length = k := by rw [carr_len, subk_len, hk]
  have hdig := carr_dig (subk (grp n) (grp m) 1) 0
  have cC : Calls Tryz.prog 173 #[.slice (some ⟨b, o, none⟩) k c] w fun e w' => ∃ g cap, e = .returned (.slice (some ⟨g, 0, none⟩) k cap) ∧ w.heap.size ≤ g ∧ k ≤ cap ∧ cap ≤ 9223372036854775807 ∧ ABlk w' g (grp n) ∧ Below w.heap.size w w' := clone_some (grp n) b o k c w hk hk0 (by omega) hb hr
  have cT : ∀ W g cap, w.heap.size ≤ g → k ≤ cap → cap ≤ 9223372036854775807 → ABlk W g (grp n) → Below w.heap.size w W → Calls Tryz.prog 175 #[.slice (some ⟨g, 0, none⟩) k cap, v2, .int .i64 1] W fun e w' => (∃ v, e = .returned v) ∧ ABlk w' g (carr 0 (subk (grp n) (grp m) 1) ++ []) ∧ Below w.heap.size w w' := fun W g cap hg g1 g2 hA hB => by
   rcases h2.cases with ⟨a, c2, rfl, e⟩ | ⟨b2, o2, k2, c2, rfl, e1, e2, e3, e4, e5, e6⟩
   ·
    rw [e, subk_nil]
    exact (take_none [] (grp n) [] g 0 k cap a c2 1 W rfl hk (by simpa using hA) (grp_small n) g1 g2).mono fun e w' ⟨x1, x2, x3, x4⟩ => ⟨x1, by simpa using x2, below_own hB x3 (Nat.le_refl _) hg⟩
   ·
    exact (take_any [] (grp n) [] (grp m) g 0 k cap b2 o2 k2 c2 1 W rfl hk (by simpa using hA) (grp_small n) g1 g2 e1 (grp_dig m) (e6.below hB e5) (Nat.lt_of_lt_of_le e5 hB.size) (by omega) (by rw [← e1, ← hk]; exact grp_mono h) e3 (by decide)).mono fun e w' ⟨x1, x2, x3, x4⟩ => ⟨x1, by simpa using x2, below_own hB x3 (Nat.le_refl _) hg⟩
  have cR : ∀ W g cap, k ≤ cap → cap ≤ 9223372036854775807 → ABlk W g (carr 0 (subk (grp n) (grp m) 1) ++ []) → Below w.heap.size w W → Calls Tryz.prog 176 #[.slice (some ⟨g, 0, none⟩) k cap] W fun e w' => ∃ v, e = .returned v ∧ NSl w' v (n - m) ∧ Below w.heap.size w w' := fun W g cap g1 g2 hA hB =>
   (trimmed_some (carr 0 (subk (grp n) (grp m) 1)) g 0 k cap W hlen g1 g2 (ABlk.row (P := []) hA)).mono fun e w' ⟨he, q, hq⟩ => by
    subst hq
    exact ⟨_, he, NSl.of_blk (S := []) hA hlen hdig hv g1 g2, below_drewN hB q⟩
  generalize carr 0 (subk (grp n) (grp m) 1) = R at *
  clear h1 h2 hl hfit hv hlen hdig hg2 g2 hr hk
  go_enter Tryz.func153, Tryz.ntmps153
  go_wp2_with (first | (go_at_call 173; (with_reducible refine cC.mono ?_); rintro e w' ⟨g, cap, rfl, hg, g1, g2, hA, hB⟩) | (go_at_call 175; (with_reducible refine (cT _ _ _ hg g1 g2 hA hB).mono ?_); rintro e w2 ⟨⟨v, rfl⟩, hA2, hB2⟩) | (go_at_call 176; (with_reducible refine (cR _ _ _ g1 g2 hA2 hB2).mono ?_); rintro e w2 ⟨v3, rfl, hN, hB3⟩))
  go_ret
  exact ⟨_, rfl, hN, hB3⟩
theorem made_zeros (n : Nat) : (madeCells (Value.int .i64 0).cells (n * 1)).toList = ints (List.replicate n 0) := by
 rw [show (Value.int .i64 0).cells = #[.int .i64 0] from rfl, toList_madeCells_one, Nat.mul_one, ints, List.map_replicate]
theorem info_size : (Tryz.prog.info? 3).map (·.size) = some 1 := by kernel_rfl
theorem wpList_copy_blk {w : World} {ops : Array Oper} {rest : List Oper} {o : Oper} {a : Act} {Q : Exit → Act → World → Prop} (hgd : o.guard = none) (d s : Operand)
  (ho : o.op = .call { callee := .builtin .copy, args := #[d, s], argTypes := #[112, 112] }) (g dLen dCap sLen : Nat) (hd : a.eval d = .slice (some ⟨g, 0, none⟩) dLen dCap) (v : Value) (hs : a.eval s = v) (l L : List Int) (hv : ISl w v l) (hl : l.length = sLen)
  (hA : ABlk w g L) (hL : L.length = dLen) (hle : sLen ≤ dLen) (w0 : World) (hb : Below w0.heap.size w0 w) (hg : w0.heap.size ≤ g)
  (h : ∀ w', ABlk w' g (l ++ L.drop sLen) → Below w0.heap.size w0 w' → wpList Tryz.prog ops Q rest (a.put o.dst (goInt sLen)) w') : wpList Tryz.prog ops Q (o :: rest) a w := by
 obtain ⟨T, hT⟩ := hA
 have hvv : ∃ sp sCap, v = .slice sp sLen sCap ∧ (0 < sLen → ∃ ad, sp = some ad ∧ ∀ j u, (ints l)[j]? = some u → w.cell? (ad.add j) = some u) := by
  rcases hv with ⟨a, c, rfl, rfl⟩ | ⟨b, o, c, rfl, h1, h2, h3, h4⟩
  ·
   exact ⟨a, c, by rw [← hl]; rfl, fun h => by rw [← hl] at h; exact absurd h (by simp)⟩
  ·
   exact ⟨_, c, by rw [← hl], fun _ => ⟨_, rfl, h4.news⟩⟩
 obtain ⟨sp, sCap, rfl, hsrc⟩ := hvv
 have hcs : (ints l).length = sLen := by rw [ints_len, hl, Nat.mul_one]
 refine wpList_copy_splice hgd d s 112 112 ho 3 Tryz.underlying112 info_size (some ⟨g, 0, none⟩) sp dLen dCap sLen sCap hd hs g 0 _ 3 hT (ints l) (by rw [hcs]; exact (Nat.min_eq_left hle).symm) (fun hp => ⟨rfl, hsrc (by omega)⟩) (by rw [hcs, List.length_append, List.length_map]; omega) (ints_one l) w0.heap.size w0 hb hg ?_
 intro w' hw' hB
 rw [hcs]
 refine h w' ⟨T, ?_⟩ hB
 rw [hw'.out]
 have e : splice (List.map (Value.int .i64) L ++ T) 0 (ints l) = List.map (Value.int .i64) (l ++ L.drop sLen) ++ T := by
  simp only [splice, List.take_zero, List.nil_append, Nat.zero_add, hcs]
  rw [List.drop_append_of_le_length (by rw [List.length_map]; omega), List.map_append, List.map_drop, ints, List.append_assoc]
 rw [e]
theorem addk_bound (l D : List Int) (hl : ∀ x ∈ l, -10000000 ≤ x ∧ x ≤ 10000000) (hD : Dig D) : ∀ x ∈ subk l D (-1), -1000000000000000 ≤ x ∧ x ≤ 1000000000000000 := by
 induction l generalizing D with
 | nil => intro x hx; cases D <;> simp [subk] at hx
 | cons y l ih => cases D with
  | nil => intro x hx; rw [subk_nil] at hx; have := hl x hx; omega
  | cons d D =>
   intro x hx
   rw [subk] at hx
   rcases List.mem_cons.1 hx with rfl | hx
   ·
    have h1 := hl y (by simp)
    have h2 := hD.head
    omega
   ·
    exact ih D (fun z hz => hl z (by simp [hz])) hD.tail x hx
theorem pow_le {a b : Nat} (h : a ≤ b) : (10000 : Int) ^ a ≤ 10000 ^ b := by
 have := Nat.pow_le_pow_right (n := 10000) (by decide) h
 have e : ∀ k : Nat, ((10000 ^ k : Nat) : Int) = (10000 : Int) ^ k := fun k => by simp
 rw [← e, ← e]; omega
set_option maxRecDepth 100000 in
set_option maxHeartbeats 1000000 in
theorem plus_any (n m : Nat) (v1 v2 : Value) (w : World) (hl1 : (grp n).length ≤ 100000) (hl2 : (grp m).length ≤ 100000) (h1 : NSl w v1 n) (h2 : NSl w v2 m) :
  Calls Tryz.prog 152 #[v1, v2] w fun e w' => ∃ v, e = .returned v ∧ NSl w' v (n + m) ∧ Below w.heap.size w w' := by
 obtain ⟨a1, c1, rfl⟩ : ∃ a c, v1 = .slice a (grp n).length c := by
  rcases h1 with ⟨a, c, rfl, e⟩ | ⟨b, o, c, rfl, _⟩
  ·
   rw [e]; exact ⟨a, c, rfl⟩
  ·
   exact ⟨_, c, rfl⟩
 have hrow : ∃ a2 c2, v2 = .slice a2 (grp m).length c2 ∧ ∀ j (hj : j < (grp m).length), ∃ b2 o2, a2 = some ⟨b2, o2, none⟩ ∧ b2 < w.heap.size ∧ (grp m).length ≤ c2 ∧ IRow w b2 o2 (grp m) := by
  rcases h2 with ⟨a, c, rfl, e⟩ | ⟨b, o, c, rfl, g1, g2, g3, g4⟩
  ·
   rw [e]; exact ⟨a, c, rfl, fun j hj => absurd hj (by simp)⟩
  ·
   exact ⟨_, c, rfl, fun j hj => ⟨b, o, rfl, g3, g1, g4⟩⟩
 obtain ⟨a2, c2, rfl, hrow⟩ := hrow
 obtain ⟨i0, hi, hz0, hz1, hz2⟩ := info_parts info_int
 have hsum : ((n + m : Nat) : Int) < 10000 ^ (max (grp n).length (grp m).length + 1) := by
  have e1 := vl_lt (grp_dig n)
  have e2 := vl_lt (grp_dig m)
  rw [vl_grp] at e1 e2
  have e3 := pow_le (Nat.le_max_left (grp n).length (grp m).length)
  have e4 := pow_le (Nat.le_max_right (grp n).length (grp m).length)
  rw [Int.pow_succ]
  omega
 have hvn := vl_grp n
 have hvm := vl_grp m
 have hdn := grp_dig n
 have hdm := grp_dig m
 obtain ⟨A, hA⟩ : ∃ l, grp n = l := ⟨_, rfl⟩
 obtain ⟨D, hD⟩ : ∃ l, grp m = l := ⟨_, rfl⟩
 rw [NSl, hA] at h1
 rw [hA] at hvn hdn hl1 hsum ⊢
 rw [hD] at hvm hdm hl2 hsum hrow ⊢
 clear h2 hA hD
 obtain ⟨p, hp⟩ : ∃ k, A.length = k := ⟨_, rfl⟩
 obtain ⟨q, hq⟩ : ∃ k, D.length = k := ⟨_, rfl⟩
 rw [hp] at hl1 hsum ⊢
 rw [hp] at h1
 rw [hq] at hl2 hsum hrow ⊢
 obtain ⟨k, hk⟩ : ∃ k, max p q = k := ⟨_, rfl⟩
 rw [hk] at hsum
 have kp : p ≤ k := by omega
 have kq : q ≤ k := by omega
 have kk : max (p : Int) (q : Int) = (k : Int) := by omega
 have KK := Lib.hid kk
 have hk9 : k ≤ 100000 := by omega
 -- the row of the sum
 have hZ : ∀ w', w'.ownsRow w.heap.size 3 1 (.slice (some ⟨w.heap.size, 0, none⟩) (k + 1) (k + 1)) (k + 1) (madeCells (Value.int .i64 0).cells ((k + 1) * 1)).toList → ABlk w' w.heap.size (List.replicate (k + 1) 0) := fun w' h => by
  rw [made_zeros] at h
  exact (own_blk h).1
 have HZ := Lib.hid hZ
 have H1 := Lib.hid h1
 have HP := Lib.hid hp
 have HQ := Lib.hid hq
 have HR := Lib.hid hrow
 have HD := Lib.hid hdm
 have hLb : ∀ x ∈ A ++ List.replicate (k + 1 - p) 0, -10000000 ≤ x ∧ x ≤ 10000000 := fun x hx => by
  rcases List.mem_append.1 hx with hx | hx
  ·
   have := hdn x hx; omega
  ·
   have := List.eq_of_mem_replicate hx; omega
 have hll : (A ++ List.replicate (k + 1 - p) 0).length = k + 1 := by rw [List.length_append, List.length_replicate, hp]; omega
 have hvL : vl (A ++ List.replicate (k + 1 - p) 0) = n := by rw [vl_append, vl_zeros, hvn]; simp
 have HAL := Lib.hid (show A ++ (List.replicate (k + 1) (0 : Int)).drop p = A ++ List.replicate (k + 1 - p) 0 by rw [List.drop_replicate])
 generalize A ++ List.replicate (k + 1 - p) 0 = L at *
 have HLB := Lib.hid hLb
 have HLL := Lib.hid hll
 have hfit := carr_fits (l := subk L D (-1)) (c := 0) (by rw [subk_vl _ _ _ (by omega), hvL, hvm]; omega) (by rw [subk_vl _ _ _ (by omega), hvL, hvm, subk_len, hll]; omega)
 have hv : vl (carr 0 (subk L D (-1))) = ((n + m : Nat) : Int) := by rw [hfit.2, subk_vl _ _ _ (by omega), hvL, hvm]; omega
 have cT : ∀ W, ABlk W w.heap.size (subk L D (-1)) → Below w.heap.size w W → Calls Tryz.prog 177 #[.slice (some ⟨w.heap.size, 0, none⟩) (k + 1) (k + 1)] W fun e w' => ∃ v, e = .returned v ∧ NSl w' v (n + m) ∧ Below w.heap.size w w' := fun W hA hB =>
  (carried_any [] (subk L D (-1)) [] w.heap.size 0 (k + 1) (k + 1) W rfl (by rw [subk_len, hll]) (by simpa using hA) (addk_bound L D hLb hdm) (Nat.le_refl _) (by omega)).mono fun e w' ⟨he, g1, g2, g3⟩ =>
   ⟨_, he, NSl.of_blk (S := []) (by simpa using g1) (by rw [carr_len, subk_len, hll]) (carr_dig _ _) hv (Nat.le_refl _) (by omega), below_own hB g2 (Nat.le_refl _) (Nat.le_refl _)⟩
 have CT := Lib.hid cT
 have hb48 : i0.bytes * (k + 1) ≤ 281474976710656 := by rw [hz2]; omega
 have hmx : k + 1 ≤ maxLen := by unfold maxLen; omega
 have HBY := Lib.hid hb48
 clear hZ h1 hp hq hrow hdm hdn hLb hll hvL hfit hv cT hsum hvn hvm hz2 hb48 hk
 go_enter Tryz.func152, Tryz.ntmps152
 go_wp2_with (first | (refine wpList_make_full w rfl (.tmp 13) (.tmp 13) 112 rfl w.heap.size 3 i0 (.int .i64 0) 1 Tryz.underlying112 hi hz0 hz1 .i64 .i64 _ _ (k + 1) rfl rfl (by omega) (by omega) HBY.out hmx (Nat.le_refl _) ?_; intro w1 hown1 hgrow1; have hA1 := HZ.out w1 hown1; have hB1 := (Below.refl w.heap.size w).grown hgrow1 (Nat.le_refl _) (fun k e => by cases e); have HA1 := Lib.hid hA1; clear hown1 hgrow1 hA1) | (with_reducible refine wpList_copy_blk rfl (.tmp 15) (.tmp 16) rfl w.heap.size (k + 1) (k + 1) p rfl (.slice a1 p c1) rfl A (List.replicate (k + 1) 0) (H1.out.below hB1) HP.out HA1.out (List.length_replicate ..) (by omega) w hB1 (Nat.le_refl _) ?_; intro w2 hA2 hB2; have HA2 := Lib.hid hA2; clear hA2))
 all_goals
  have hA2 := HA2.out
  rw [HAL.out] at hA2
  have HA3 := Lib.hid hA2
  clear hA2
  go_loopw [20] (fun i wr => ∃ (j : Nat), j ≤ q ∧ i = .int .i64 (j : Int) ∧ Hid (ABlk wr w.heap.size (subk L (D.take j) (-1))) ∧ Below w.heap.size w wr) (fun i _ => q - (intOf i).toNat)
  case atStart => exact ⟨0, by omega, rfl, Lib.hid (by rw [List.take_zero, subk_nil]; exact HA3.out), hB2⟩
  case round =>
   clear HA3 hB2 HA2 HA1 hB1
   obtain ⟨j, hj, rfl, hA, hB⟩ := hrel
   by_cases h1 : j < q
   ·
    have j1 : j < D.length := by rw [HQ.out]; exact h1
    obtain ⟨b2, o2, rfl, hb2, hqc, hDr⟩ := HR.out j h1
    have hd : wr.cell? ⟨b2, o2 + j, none⟩ = some (.int .i64 D[j]) := (hDr.below hB hb2) j _ (List.getElem?_eq_getElem j1)
    have hdb := HD.out _ (List.getElem_mem j1)
    have htk : D.take (j + 1) = D.take j ++ [D[j]] := List.take_succ_eq_append_getElem j1
    have hlj : (D.take j).length = j := by rw [List.length_take, HQ.out]; omega
    obtain ⟨s1, s2⟩ := subk_snoc (D.take j) D[j] (-1) L (by rw [hlj, HLL.out]; omega)
    rw [hlj] at s1 s2
    have hjl : j < L.length := by rw [HLL.out]; omega
    have s3 : L.getD j 0 = L[j] := by rw [List.getD_eq_getElem?_getD, List.getElem?_eq_getElem hjl]; rfl
    rw [s2, s3] at s1
    have hlb := HLB.out _ (List.getElem_mem hjl)
    have hsl : j < (subk L (D.take j) (-1)).length := by rw [subk_len]; exact hjl
    have s4 : (subk L (D.take j) (-1))[j]? = some L[j] := by
     rw [List.getElem?_eq_getElem hsl]
     rw [List.getD_eq_getElem?_getD, List.getElem?_eq_getElem hsl] at s2
     rw [← s3, ← s2]; rfl
    have hcell : wr.cell? ⟨w.heap.size, j, none⟩ = some (.int .i64 L[j]) := hA.out.cell s4
    have hfree : wr.frozen? ⟨w.heap.size, j, none⟩ = false := hA.out.free _
    have HA3 := Lib.hid (show ABlk (wr.setCell ⟨w.heap.size, j, none⟩ (.int .i64 (L[j] + D[j]))) w.heap.size (subk L (D.take (j + 1)) (-1)) by
     rw [htk, s1, show L[j] - -1 * D[j] = L[j] + D[j] by omega]
     exact hA.out.set j (L[j] + D[j]))
    have HB := Lib.hid (hB.setCell (p := ⟨w.heap.size, j, none⟩) (Nat.le_refl _) (.int .i64 (L[j] + D[j])))
    generalize D[j] = d at *
    generalize L[j] = x at *
    clear htk hlj s1 s2 s3 s4 hjl hsl hA hB hDr j1
    go_wp2
    go_roundw
    case rel => exact ⟨j + 1, by omega, by go_num, HA3, HB.out⟩
    case measure => simp [intOf]; omega
   ·
    have hk : j = q := by omega
    have e1 : D.take j = D := List.take_of_length_le (by rw [HQ.out]; omega)
    have hA2 := hA.out
    rw [e1] at hA2
    have cT2 := CT.out wr hA2 hB
    subst hk
    clear e1 hA2 hA
    go_wp2_with (go_at_call 177; (with_reducible refine cT2.mono ?_); rintro e w' ⟨v, rfl, hN, hB2⟩)
    go_ret
    exact ⟨_, rfl, hN, hB2⟩
end Go.Proofs.YtdnbhgkbfbgnaaaGreatDoor
namespace Go.Proofs.YtdnbhgkbfbgnaaaGreatDoor
open Go.RowKit Go.Shelf
attribute [local go_sem] Oper.semAt_some
def ix (l : List Int) (j : Nat) : Int := l[j]?.getD 0
theorem ix_lt {l : List Int} {j : Nat} (h : j < l.length) : ix l j = l[j] := by rw [ix, List.getElem?_eq_getElem h]; rfl
def idxs (len k : Nat) : List Nat := (List.range k).map fun j => len - 1 - j
theorem idxs_succ (len k : Nat) : idxs len (k + 1) = idxs len k ++ [len - 1 - k] := by simp [idxs, List.range_succ]
theorem idxs_len (len k : Nat) : (idxs len k).length = k := by simp [idxs]
theorem mem_idxs {len k i : Nat} (hk : k ≤ len) : i ∈ idxs len k ↔ len - k ≤ i ∧ i < len := by
 simp only [idxs, List.mem_map, List.mem_range]
 constructor
 ·
  rintro ⟨j, hj, rfl⟩; omega
 ·
  intro h; exact ⟨len - 1 - i, by omega, by omega⟩
def KpR (R n₀ : Nat) (W W' : World) : Prop := ∀ k, k < n₀ → k ≠ R → W'.heap[k]? = W.heap[k]?
theorem KpR.refl (R n₀ : Nat) (W : World) : KpR R n₀ W W := fun _ _ _ => rfl
theorem KpR.trans {R n₀ : Nat} {A B C : World} (h : KpR R n₀ A B) (k : KpR R n₀ B C) : KpR R n₀ A C := fun i hi hr => (k i hi hr).trans (h i hi hr)
theorem KpR.cell {R n₀ b o : Nat} {W W' : World} {v : Value} (h : KpR R n₀ W W') (hb : b < n₀) (hr : b ≠ R) (hc : W.cell? ⟨b, o, none⟩ = some v) : W'.cell? ⟨b, o, none⟩ = some v := by
 rw [World.cell?_of_block (a := ⟨b, o, none⟩) (h b hb hr)]; exact hc
theorem KpR.set (R n₀ : Nat) (W : World) (j : Nat) (v : Value) : KpR R n₀ W (W.setCell ⟨R, j, none⟩ v) := fun k _ hr => heap_setCell_other W ⟨R, j, none⟩ k v hr
set_option maxRecDepth 100000 in
set_option maxHeartbeats 2000000 in
theorem backward1_in (F : Fence) (n : Nat) (h8 : F.fn 206) (hro : F.round = none) (hn : 1 ≤ n) (lp Bs R n₀ b off len cap : Nat) (zs : List Int) (hzs : zs.length = len) (hreach : len ≤ 100000) (hlc : len ≤ cap) (hb : b < n₀) (hbR : b ≠ R) (hBR : Bs ≠ R) (J Jx : List (Fin len) → World → Prop)
  (hY : ∀ pre x W, J pre W → pre.length < len → YieldAt F (n - 1) Tryz.prog lp #[.int .i64 ((x : Fin len).1 : Int), .int .i64 ((ix zs x.1))] W fun e W' =>
   (e = .returned (.bool true) ∧ J (pre ++ [x]) W' ∧ KpR R n₀ W W') ∨ (e = .returned (.bool false) ∧ Jx (pre ++ [x]) W'))
  (W : World) (hBn : Bs < n₀) (hBs : W.cell? ⟨Bs, 0, none⟩ = some (.slice (some ⟨b, off, none⟩) len cap)) (hc : IRow W b off zs) (h0 : J [] W) :
  CallsIn F n Tryz.prog 206 #[.func (.yield lp) #[] #[], .pointer (some ⟨Bs, 0, none⟩)] W fun e W' => (∃ v, e = .returned v) ∧
   ((∃ ys : List (Fin len), ys.map (·.1) = idxs len len ∧ J ys W') ∨ (∃ pre : List (Fin len), (∃ k, k ≤ len ∧ pre.map (·.1) = idxs len k) ∧ Jx pre W')) := by
 refine callsIn_of_wp Tryz.func206 rfl h8 ?_ hro
 simp only [Tryz.ntmps206, List.size_toArray, List.length_cons, List.length_nil, Nat.reduceAdd, Nat.reduceSub, Array.replicate_succ, Array.replicate_zero, List.push_toArray, List.append_toArray, List.nil_append, List.cons_append]
 have HZ := Lib.hid hzs
 have HC := Lib.hid hc
 have HJ0 := Lib.hid h0
 have HY := Lib.hid hY
 clear hzs hc h0 hY
 gi_wp2
 gi_loopw [3] (fun i wr => ∃ m k : Nat, m + k = len ∧ i = .int .i64 ((m : Int) - 1) ∧ Hid (∃ pre : List (Fin len), pre.map (·.1) = idxs len k ∧ J pre wr) ∧ KpR R n₀ W wr)
  (fun i _ => (intOf i + 1).toNat)
 case atStart => exact ⟨len, 0, by omega, rfl, Lib.hid ⟨[], rfl, HJ0.out⟩, KpR.refl _ _ _⟩
 case round =>
  obtain ⟨m, k, hk, rfl, hJs, hnx⟩ := hrel
  have hBs2 := hnx.cell hBn hBR hBs
  cases m with
  | zero =>
   obtain rfl : k = len := by omega
   simp only [Int.natCast_zero, Int.zero_sub]
   gi_wp2
   go_end0
   obtain ⟨pre, e1, e2⟩ := hJs.out
   exact ⟨⟨_, rfl⟩, .inl ⟨_, e1, e2⟩⟩
  | succ m =>
   have hm1 : ((m + 1 : Nat) : Int) - 1 = (m : Int) := by omega
   rw [hm1]
   have hml : m < zs.length := by rw [HZ.out]; omega
   have hcx : wr.cell? ⟨b, off + m, none⟩ = some (.int .i64 zs[m]) := hnx.cell hb hbR (HC.out m _ (List.getElem?_eq_getElem hml))
   have hget : ix zs m = zs[m] := ix_lt hml
   have HS := Lib.hid (show idxs len (k + 1) = idxs len k ++ [m] by rw [idxs_succ, show len - 1 - k = m by omega])
   obtain ⟨pre, hpre, hJp⟩ := hJs.out
   have hpl : pre.length = k := by have := congrArg List.length hpre; rwa [List.length_map, idxs_len] at this
   have hml2 : m < len := by omega
   have hY0 := HY.out pre ⟨m, hml2⟩ wr hJp (by omega)
   rw [← hget] at hcx
   have HP := Lib.hid (show (pre ++ [(⟨m, hml2⟩ : Fin len)]).map (·.1) = idxs len (k + 1) by rw [HS.out, List.map_append, hpre]; rfl)
   clear hpl
   obtain ⟨fn, tmps, assign, body, hy, hR⟩ := hY0
   dsimp only at hy
   generalize ix zs m = x at *
   have hmb : m < len := by omega
   have hm3 : (m : Int) < (len : Int) := by omega
   clear hm1 hml hget hpre hJp
   gi_wp2
   refine hR.mono ?_
   rintro e W3 (⟨rfl, hJ3, hk3⟩ | ⟨rfl, hJx3⟩)
   ·
    have HJ3 := Lib.hid hJ3
    clear hJ3
    gi_wp2
    go_roundw
    case rel => exact ⟨m, k + 1, by omega, rfl, Lib.hid ⟨_, HP.out, HJ3.out⟩, hnx.trans hk3⟩
    case measure => simp [intOf]
   ·
    gi_wp2
    refine bodyPost_ret (results_none rfl _ _ _) rfl ?_
    exact ⟨⟨_, rfl⟩, .inr ⟨_, ⟨k + 1, by omega, HP.out⟩, hJx3⟩⟩
set_option maxHeartbeats 1000000 in
theorem backward_in (F : Fence) (n : Nat) (h6 : F.fn 180) (hro : F.round = none) (a : Option Addr) (len cap : Nat) (w : World) :
  CallsIn F n Tryz.prog 180 #[.slice a len cap] w fun e w' => e = .returned (.func (.func 206) #[] #[.pointer (some ⟨w.heap.size, 0, none⟩)]) ∧ w' = w.alloc (.cells #[.slice a len cap] 112) := by
 refine callsIn_of_wp Tryz.func180 rfl h6 ?_ hro
 simp only [Tryz.ntmps180, List.size_toArray, List.length_cons, List.length_nil, Nat.reduceAdd, Nat.reduceSub, Array.replicate_succ, Array.replicate_zero, List.push_toArray, List.append_toArray, List.nil_append, List.cons_append]
 gi_wp2
 go_ret
 exact ⟨rfl, rfl⟩
theorem backward_stops (F : Fence) (n : Nat) (h8 : F.fn 206) (hro : F.round = none) (hn : 1 ≤ n) (Bs R n₀ b off len cap : Nat) (zs : List Int) (hzs : zs.length = len) (hreach : len ≤ 100000) (hlc : len ≤ cap) (hb : b < n₀) (hbR : b ≠ R) (hBR : Bs ≠ R) (hBn : Bs < n₀) (w : World) (hn₀ : n₀ ≤ w.heap.size)
  (hBs : w.cell? ⟨Bs, 0, none⟩ = some (.slice (some ⟨b, off, none⟩) len cap)) (hc : IRow w b off zs) :
  SeqStopsK F n Tryz.prog 206 #[.pointer (some ⟨Bs, 0, none⟩)] (fun x : Fin len => #[Value.int .i64 (x.1 : Int), Value.int .i64 ((ix zs x.1))]) (KpR R n₀) (fun ys => ys.map (·.1) = idxs len len) (fun pre => ∃ k, k ≤ len ∧ pre.map (·.1) = idxs len k) len w := fun l J Jx W hW _ _ hY h0 =>
 backward1_in F n h8 hro hn l Bs R n₀ b off len cap zs hzs hreach hlc hb hbR hBR J Jx hY W hBn ((hW.cell (p := ⟨Bs, 0, none⟩) (Nat.lt_of_lt_of_le hBn hn₀)).trans hBs) (hc.below hW (Nat.lt_of_lt_of_le hb hn₀)) h0
set_option maxRecDepth 100000 in
set_option maxHeartbeats 4000000 in
theorem compare_in (n : Nat) (hn : 5 ≤ n) (A B : List Int) (b1 o1 b2 o2 k c1 c2 : Nat) (w : World) (hA : A.length = k) (hB' : B.length = k) (hk : k ≤ 100000) (hkc1 : k ≤ c1)
  (hb1 : b1 < w.heap.size) (hb2 : b2 < w.heap.size) (hr1 : IRow w b1 o1 A) (hr2 : IRow w b2 o2 B) :
  CallsIn Fence.wide n Tryz.prog 156 #[.slice (some ⟨b1, o1, none⟩) k c1, .slice (some ⟨b2, o2, none⟩) k c2] w fun e W' => (∃ r : Int, e = .returned (.int .i64 r) ∧ ((r = 0 ∧ ∀ j, j < k → (ix A j) = (ix B j)) ∨ ∃ j, j < k ∧ (ix A j) ≠ (ix B j) ∧ r = cmpN ((ix A j)) ((ix B j)) ∧ ∀ i, j < i → i < k → (ix A i) = (ix B i))) ∧ Below w.heap.size w W' := by
 have h1 : 1 ≤ n := by omega
 refine callsIn_of_wp_marks Tryz.func156 rfl trivial ?_ rfl
 simp only [Tryz.ntmps156, List.size_toArray, List.length_cons, List.length_nil, Nat.reduceAdd, Nat.reduceSub, Array.replicate_succ, Array.replicate_zero, List.push_toArray, List.append_toArray, List.nil_append, List.cons_append]
 gi_wp2_with (refine ⟨trivial, ?_⟩; gi_at_call 180; refine (backward_in Fence.wide (n - 1) trivial rfl _ _ _ _).mono ?_; rintro e w' ⟨rfl, rfl⟩)
 have bM := Boxed.new w 112 (.slice (some ⟨b2, o2, none⟩) k c2)
 have bR := Boxed.new (w.alloc (.cells #[.slice (some ⟨b2, o2, none⟩) k c2] 112)) 3 (.int .i64 0)
 have bN := Boxed.new ((w.alloc (.cells #[.slice (some ⟨b2, o2, none⟩) k c2] 112)).alloc (.cells #[.int .i64 0] 3)) 112 (.slice (some ⟨b1, o1, none⟩) k c1)
 rw [World.size_alloc] at bR
 rw [World.size_alloc, World.size_alloc] at bN
 have hB0 : Below w.heap.size w (((w.alloc (.cells #[.slice (some ⟨b2, o2, none⟩) k c2] 112)).alloc (.cells #[.int .i64 0] 3)).alloc (.cells #[.slice (some ⟨b1, o1, none⟩) k c1] 112)) := (((Below.refl _ w).alloc (Nat.le_refl _) _).alloc (by simp) _).alloc (by simp; omega) _
 refine wpIn_rangeFunc_ownG (F := Fence.wide) (n := n) (ps := #[19, 20]) (show Fence.wide.round = none from rfl) h1 (gf := 206) (lb := #[.pointer (some ⟨w.heap.size + 1 + 1, 0, none⟩)]) rfl trivial (enters_of Tryz.func206 (by kernel_rfl) rfl)
  (backward_stops Fence.wide (n - 1) trivial rfl (by omega) (w.heap.size + 1 + 1) (w.heap.size + 1) (w.heap.size + 1 + 1 + 1) b1 o1 k c1 A hA hk hkc1 (by omega) (by omega) (by omega) (by omega) _ (by simp) bN.cell (hr1.below hB0 hb1)) KpR.trans (fun W l o o' hl _ _ _ => fun j hj _ => World.putObj_heap_other (by simp at hl; omega)) (Below.refl _ _) (fun _ => rfl)
  (fun pre W => ((∀ p ∈ pre, (ix A p.1) = (ix B p.1)) ∧ W.cell? ⟨w.heap.size + 1, 0, none⟩ = some (.int .i64 0) ∧ W.frozen? ⟨w.heap.size + 1, 0, none⟩ = false ∧ W.cell? ⟨w.heap.size, 0, none⟩ = some (.slice (some ⟨b2, o2, none⟩) k c2)) ∧ Below w.heap.size w W)
  (fun c pre W => (c = .ret ∧ ∃ ini last, pre = ini ++ [last] ∧ (∀ p ∈ ini, (ix A p.1) = (ix B p.1)) ∧ (ix A last.1) ≠ (ix B last.1) ∧ W.cell? ⟨w.heap.size + 1, 0, none⟩ = some (.int .i64 (cmpN ((ix A last.1)) ((ix B last.1))))) ∧ Below w.heap.size w W)
  (OwnFrom.and (Own.from (fun s A B row hs hg hr => ⟨hs.1, cell_kept hs.2.1 hg hr, (frozen_kept hs.2.1 hg hr).trans hs.2.2.1, cell_kept hs.2.2.2 hg hr⟩) _) (ownFrom_below (Nat.le_refl _) (by simp; omega)))
  (fun c => OwnFrom.and (Own.from (fun s A B row hs hg hr => by obtain ⟨hc, ini, last, e1, e2, e3, e4⟩ := hs; exact ⟨hc, ini, last, e1, e2, e3, cell_kept e4 hg hr⟩) _) (ownFrom_below (Nat.le_refl _) (by simp; omega)))
  ⟨⟨by simp, (bR.alloc _).cell, (bR.alloc _).frozen, ((bM.alloc _).alloc _).cell⟩, hB0⟩
  (fun x : Fin k => { tmps := #[.slice (some ⟨b1, o1, none⟩) k c1, .slice (some ⟨b2, o2, none⟩) k c2, undef, .pointer (some ⟨w.heap.size, 0, none⟩), .pointer (some ⟨w.heap.size + 1, 0, none⟩), .int .i64 (x.1 : Int), .int .i64 ((ix A x.1)), .slice (some ⟨b1, o1, none⟩) k c1, .int .i64 (k : Int), .slice (some ⟨b2, o2, none⟩) k c2, .int .i64 (k : Int), .bool false, undef, undef, undef, undef, undef, .slice (some ⟨b1, o1, none⟩) k c1, .func (.func 206) #[] #[.pointer (some ⟨w.heap.size + 1 + 1, 0, none⟩)], .int .i64 (x.1 : Int), .int .i64 ((ix A x.1)), undef, undef, undef, undef, undef, undef, undef, undef, undef, undef, undef, undef], defers := [] }) ?assign ?body ?done ?stop
 case assign =>
  intro l x W K hK
  gi_wp2
  exact hK
 case body =>
  rintro l pre x W ⟨⟨hp, hcr, hfr, hbx⟩, hB⟩ _
  have hxl : x.1 < B.length := by rw [hB']; exact x.2
  have hcx : W.cell? ⟨b2, o2 + x.1, none⟩ = some (.int .i64 ((ix B x.1))) := (hr2.below hB hb2) x.1 _ (by rw [List.getElem?_eq_getElem hxl, ix_lt hxl])
  have hx1 := x.2
  have hx3 : (x.1 : Int) < (k : Int) := by omega
  obtain ⟨y, hy⟩ : ∃ y, ix A x.1 = y := ⟨_, rfl⟩
  obtain ⟨z, hz⟩ : ∃ z, ix B x.1 = z := ⟨_, rfl⟩
  have HY := Lib.hid hy
  have HZ := Lib.hid hz
  rw [hy]
  rw [hz] at hcx
  clear hy hz
  have hn2 : 1 ≤ n - 1 - 1 := by omega
  have cC : ∀ W, CallsIn (Fence.wide.inRound l) (n - 1 - 1 - 1) Tryz.prog 179 #[.int .i64 y, .int .i64 z] W fun e w' => e = .returned (.int .i64 (cmpN y z)) ∧ W = w' := fun W => CallsIn.inRound l (callsIn_wide.2 (cmpInt_any y z W))
  by_cases hyz : y = z
  ·
   have q1 : (y == z) = true := by rw [hyz]; simp
   have q2 : (y != z) = false := by rw [bne, q1]; rfl
   have HYZ := Lib.hid hyz
   clear hyz
   gi_wp2
   exact ⟨KeepsFrom.refl _ _, KpR.refl _ _ _, ⟨fun p hp' => (List.mem_append.1 hp').elim (hp p) (fun e => by simp at e; subst e; rw [HY.out, HZ.out]; exact HYZ.out), hcr, hfr, hbx⟩, hB⟩
  ·
   have q1 : (y == z) = false := by rw [beq_eq_false_iff_ne]; exact hyz
   have q2 : (y != z) = true := by rw [bne, q1]; rfl
   have HYZ := Lib.hid hyz
   clear hyz
   gi_wp2_with (refine ⟨trivial, ?_⟩; gi_at_call 179; refine (cC _).mono ?_; rintro e w' ⟨rfl, rfl⟩)
   exact ⟨(KeepsOthers.setCell _ _ _).from _, ⟨rfl, pre, x, rfl, hp, by rw [HY.out, HZ.out]; exact HYZ.out, by rw [HY.out, HZ.out]; exact World.cell?_setCell_same' _ _ _ (by rw [hcr]; rfl)⟩, hB.setCell (p := ⟨w.heap.size + 1, 0, none⟩) (Nat.le_succ _) _⟩
 case done =>
  rintro D ys W hD hys ⟨⟨hne, hcr, hfr, hbx⟩, hB⟩ hK
  gi_wp2
  have hK' := (KeepsOthers.setCell W ⟨w.heap.size + 1, 0, none⟩ (.int .i64 0)).same D _ hK rfl
  refine ⟨by simp, .inl ⟨_, _, rfl, run_takeDeferred hK', ?_⟩⟩
  have hc5 := cell_kept (World.cell?_setCell_same' W ⟨w.heap.size + 1, 0, none⟩ (.int .i64 0) (by rw [hcr]; rfl)) (grownBy_putObj' _ D (.deferred none)) (fun r e => by cases e; exact ⟨_, hK', rfl⟩)
  refine ⟨.int .i64 0, ?_, ⟨0, rfl, .inl ⟨rfl, fun j hj => ?_⟩⟩, (hB.setCell (p := ⟨w.heap.size + 1, 0, none⟩) (Nat.le_succ _) _).trans (belowK_b (w := w) (Nat.le_refl _) _ D _ _ (by simp at hD; omega) hK' rfl rfl)⟩
  ·
   simp [results, Tryz.f156, go_sem, hc5]
  ·
   have : j ∈ ys.map (·.1) := by rw [hys, mem_idxs (Nat.le_refl _)]; omega
   obtain ⟨p, hp, rfl⟩ := List.mem_map.1 this
   exact hne p hp
 case stop =>
  rintro D c pre W hD ⟨k', hk', hpre⟩ ⟨⟨rfl, ini, last, e1, e2, e3, hcr⟩, hB⟩ hK
  gi_wp2
  refine ⟨by simp, .inl ⟨_, _, rfl, run_takeDeferred hK, ?_⟩⟩
  have hc5 := cell_kept hcr (grownBy_putObj' _ D (.deferred none)) (fun r e => by cases e; exact ⟨_, hK, rfl⟩)
  obtain ⟨k2, rfl⟩ : ∃ k2, k' = k2 + 1 := by
   cases k' with
   | zero => rw [e1] at hpre; simp [idxs] at hpre
   | succ k2 => exact ⟨k2, rfl⟩
  rw [e1, idxs_succ, List.map_append] at hpre
  obtain ⟨h5, h6⟩ := List.append_inj' hpre rfl
  have h7 : last.1 = k - 1 - k2 := by simpa using h6
  refine ⟨.int .i64 (cmpN ((ix A last.1)) ((ix B last.1))), ?_, ⟨_, rfl, .inr ⟨last.1, last.2, e3, rfl, fun i hi hik => ?_⟩⟩, hB.trans (belowK_b (w := w) (Nat.le_refl _) W D _ _ (by simp at hD; omega) hK rfl rfl)⟩
  ·
   simp [results, Tryz.f156, go_sem, hc5]
  ·
   have : i ∈ ini.map (·.1) := by rw [h5, mem_idxs (by omega)]; omega
   obtain ⟨p, hp, rfl⟩ := List.mem_map.1 this
   exact e2 p hp
theorem cmp_of {A B : List Int} {k : Nat} {r : Int} (hA : A.length = k) (hB : B.length = k) (dA : Dig A) (dB : Dig B)
  (h : (r = 0 ∧ ∀ j, j < k → ix A j = ix B j) ∨ ∃ j, j < k ∧ ix A j ≠ ix B j ∧ r = cmpN (ix A j) (ix B j) ∧ ∀ i, j < i → i < k → ix A i = ix B i) : r = cmpN (vl A) (vl B) := by
 have ext : ∀ {X Y : List Int}, X.length = Y.length → (∀ j, j < X.length → ix X j = ix Y j) → X = Y := fun {X Y} hl h => by
  apply List.ext_getElem hl
  intro i h1 h2
  have := h i h1
  rwa [ix_lt h1, ix_lt h2] at this
 rcases h with ⟨rfl, h⟩ | ⟨j, hj, hne, rfl, h⟩
 ·
  have : A = B := ext (by omega) fun j hj => h j (by omega)
  rw [this]; simp [cmpN]
 ·
  have jA : j < A.length := by omega
  have jB : j < B.length := by omega
  have eA : A = A.take j ++ A[j] :: A.drop (j + 1) := by rw [← List.drop_eq_getElem_cons jA, List.take_append_drop]
  have eB : B = B.take j ++ B[j] :: B.drop (j + 1) := by rw [← List.drop_eq_getElem_cons jB, List.take_append_drop]
  have eS : A.drop (j + 1) = B.drop (j + 1) := ext (by rw [List.length_drop, List.length_drop]; omega) fun i hi => by
   rw [List.length_drop] at hi
   have := h (j + 1 + i) (by omega) (by omega)
   simp only [ix, List.getElem?_drop] at this ⊢
   exact this
  have tA : Dig (A.take j) := fun x hx => dA x (List.mem_of_mem_take hx)
  have tB : Dig (B.take j) := fun x hx => dB x (List.mem_of_mem_take hx)
  have tl : (A.take j).length = (B.take j).length := by rw [List.length_take, List.length_take]; omega
  rw [ix_lt jA, ix_lt jB] at hne ⊢
  generalize A[j] = x at *
  generalize B[j] = y at *
  unfold cmpN
  rcases Int.lt_trichotomy x y with g | g | g
  ·
   have h2 := vl_last_lt (s := A.drop (j + 1)) tA tB tl g
   rw [← eA, eS, ← eB] at h2
   rw [if_pos g, if_pos h2]
  ·
   exact absurd g hne
  ·
   have h2 := vl_last_lt (s := B.drop (j + 1)) tB tA tl.symm g
   rw [← eB, ← eS, ← eA] at h2
   rw [if_neg (by omega), if_pos g, if_neg (by omega), if_pos h2]
set_option maxRecDepth 100000 in
set_option maxHeartbeats 1000000 in
theorem compare_len (n : Nat) (hn : 5 ≤ n) (a1 a2 : Option Addr) (k1 k2 c1 c2 : Nat) (w : World) (h : k1 ≠ k2) :
  CallsIn Fence.wide n Tryz.prog 156 #[.slice a1 k1 c1, .slice a2 k2 c2] w fun e W' => e = .returned (.int .i64 (cmpN (k1 : Int) (k2 : Int))) ∧ Below w.heap.size w W' := by
 have h1 : 1 ≤ n := by omega
 have q1 : ((k1 : Int) == (k2 : Int)) = false := by rw [beq_eq_false_iff_ne, ne_eq]; omega
 have q2 : ((k1 : Int) != (k2 : Int)) = true := by rw [bne, q1]; rfl
 have q3 : (k1 == k2) = false := by rw [beq_eq_false_iff_ne]; exact h
 have cC : ∀ W, CallsIn Fence.wide (n - 1) Tryz.prog 179 #[.int .i64 (k1 : Int), .int .i64 (k2 : Int)] W fun e w' => e = .returned (.int .i64 (cmpN (k1 : Int) (k2 : Int))) ∧ W = w' := fun W => callsIn_wide.2 (cmpInt_any k1 k2 W)
 generalize cmpN (k1 : Int) (k2 : Int) = r at *
 clear h
 refine callsIn_of_wp_marks Tryz.func156 rfl trivial ?_ rfl
 simp only [Tryz.ntmps156, List.size_toArray, List.length_cons, List.length_nil, Nat.reduceAdd, Nat.reduceSub, Array.replicate_succ, Array.replicate_zero, List.push_toArray, List.append_toArray, List.nil_append, List.cons_append]
 gi_wp2_with (refine ⟨trivial, ?_⟩; gi_at_call 179; refine (cC _).mono ?_; rintro e w' ⟨rfl, rfl⟩)
 have bR := Boxed.new (w.alloc (.cells #[.slice a2 k2 c2] 112)) 3 (.int .i64 r)
 rw [World.size_alloc] at bR
 have hc5 := bR.cell
 refine ⟨.int .i64 r, ?_, rfl, ((Below.refl _ _).alloc (Nat.le_refl _) _).alloc (by simp) _⟩
 simp [results, Tryz.f156, go_sem, hc5]
set_option maxRecDepth 100000 in
set_option maxHeartbeats 1000000 in
theorem backward1_zero (n : Nat) (lp Bs : Nat) (a : Option Addr) (cap : Nat) (J : List (Fin 0) → World → Prop) (W : World) (hBs : W.cell? ⟨Bs, 0, none⟩ = some (.slice a 0 cap)) (h0 : J [] W) :
  CallsIn Fence.wide n Tryz.prog 206 #[.func (.yield lp) #[] #[], .pointer (some ⟨Bs, 0, none⟩)] W fun e W' => (∃ v, e = .returned v) ∧ J [] W' := by
 refine callsIn_of_wp Tryz.func206 rfl trivial ?_ rfl
 simp only [Tryz.ntmps206, List.size_toArray, List.length_cons, List.length_nil, Nat.reduceAdd, Nat.reduceSub, Array.replicate_succ, Array.replicate_zero, List.push_toArray, List.append_toArray, List.nil_append, List.cons_append]
 gi_wp2
 gi_loopw [3] (fun i wr => i = .int .i64 (-1) ∧ J [] wr) (fun _ _ => 0)
 case atStart => exact ⟨rfl, h0⟩
 case round =>
  obtain ⟨rfl, hJs⟩ := hrel
  gi_wp2
  go_end0
  exact ⟨⟨_, rfl⟩, hJs⟩
theorem backward_zero_stops (n : Nat) (Bs : Nat) (a : Option Addr) (cap : Nat) (w : World) (hBn : Bs < w.heap.size) (hBs : w.cell? ⟨Bs, 0, none⟩ = some (.slice a 0 cap)) :
  SeqStopsK Fence.wide n Tryz.prog 206 #[.pointer (some ⟨Bs, 0, none⟩)] (fun x : Fin 0 => #[Value.int .i64 (x.1 : Int), Value.int .i64 0]) (KpR 0 0) (fun ys => ys = []) (fun _ => False) 0 w := fun l J _ W hW _ _ _ h0 =>
 (backward1_zero n l Bs a cap J W ((hW.cell (p := ⟨Bs, 0, none⟩) hBn).trans hBs) h0).mono fun _ _ ⟨he, hj⟩ => ⟨he, .inl ⟨_, rfl, hj⟩⟩
set_option maxRecDepth 100000 in
set_option maxHeartbeats 4000000 in
theorem compare_zero (n : Nat) (hn : 5 ≤ n) (a1 a2 : Option Addr) (c1 c2 : Nat) (w : World) :
  CallsIn Fence.wide n Tryz.prog 156 #[.slice a1 0 c1, .slice a2 0 c2] w fun e W' => e = .returned (.int .i64 0) ∧ Below w.heap.size w W' := by
 have h1 : 1 ≤ n := by omega
 refine callsIn_of_wp_marks Tryz.func156 rfl trivial ?_ rfl
 simp only [Tryz.ntmps156, List.size_toArray, List.length_cons, List.length_nil, Nat.reduceAdd, Nat.reduceSub, Array.replicate_succ, Array.replicate_zero, List.push_toArray, List.append_toArray, List.nil_append, List.cons_append]
 gi_wp2_with (refine ⟨trivial, ?_⟩; gi_at_call 180; refine (backward_in Fence.wide (n - 1) trivial rfl _ _ _ _).mono ?_; rintro e w' ⟨rfl, rfl⟩)
 have bR := Boxed.new (w.alloc (.cells #[.slice a2 0 c2] 112)) 3 (.int .i64 0)
 have bN := Boxed.new ((w.alloc (.cells #[.slice a2 0 c2] 112)).alloc (.cells #[.int .i64 0] 3)) 112 (.slice a1 0 c1)
 rw [World.size_alloc] at bR
 rw [World.size_alloc, World.size_alloc] at bN
 have hB0 : Below w.heap.size w (((w.alloc (.cells #[.slice a2 0 c2] 112)).alloc (.cells #[.int .i64 0] 3)).alloc (.cells #[.slice a1 0 c1] 112)) := (((Below.refl _ w).alloc (Nat.le_refl _) _).alloc (by simp) _).alloc (by simp; omega) _
 refine wpIn_rangeFunc_ownG (F := Fence.wide) (n := n) (ps := #[19, 20]) (show Fence.wide.round = none from rfl) h1 (gf := 206) (lb := #[.pointer (some ⟨w.heap.size + 1 + 1, 0, none⟩)]) rfl trivial (enters_of Tryz.func206 (by kernel_rfl) rfl)
  (backward_zero_stops (n - 1) (w.heap.size + 1 + 1) a1 c1 _ (by simp) bN.cell) KpR.trans (fun W l o o' hl _ _ _ => fun j hj _ => absurd hj (by omega)) (Below.refl _ _) (fun _ => rfl)
  (fun pre W => (W.cell? ⟨w.heap.size + 1, 0, none⟩ = some (.int .i64 0) ∧ W.frozen? ⟨w.heap.size + 1, 0, none⟩ = false) ∧ Below w.heap.size w W)
  (fun c pre W => False ∧ Below w.heap.size w W)
  (OwnFrom.and (Own.from (fun s A B row hs hg hr => ⟨cell_kept hs.1 hg hr, (frozen_kept hs.1 hg hr).trans hs.2⟩) _) (ownFrom_below (Nat.le_refl _) (by simp; omega)))
  (fun c => OwnFrom.and (Own.from (fun s A B row hs hg hr => hs.elim) _) (ownFrom_below (Nat.le_refl _) (by simp; omega)))
  ⟨⟨(bR.alloc _).cell, (bR.alloc _).frozen⟩, hB0⟩
  (fun x : Fin 0 => { tmps := #[], defers := [] }) ?assign ?body ?done ?stop
 case assign =>
  intro l x W K hK
  exact absurd x.2 (by omega)
 case body =>
  rintro l pre x W _ _
  exact absurd x.2 (by omega)
 case done =>
  rintro D ys W hD hys ⟨⟨hcr, hfr⟩, hB⟩ hK
  gi_wp2
  have hK' := (KeepsOthers.setCell W ⟨w.heap.size + 1, 0, none⟩ (.int .i64 0)).same D _ hK rfl
  refine ⟨by simp, .inl ⟨_, _, rfl, run_takeDeferred hK', ?_⟩⟩
  have hc5 := cell_kept (World.cell?_setCell_same' W ⟨w.heap.size + 1, 0, none⟩ (.int .i64 0) (by rw [hcr]; rfl)) (grownBy_putObj' _ D (.deferred none)) (fun r e => by cases e; exact ⟨_, hK', rfl⟩)
  refine ⟨.int .i64 0, ?_, rfl, (hB.setCell (p := ⟨w.heap.size + 1, 0, none⟩) (Nat.le_succ _) _).trans (belowK_b (w := w) (Nat.le_refl _) _ D _ _ (by simp at hD; omega) hK' rfl rfl)⟩
  simp [results, Tryz.f156, go_sem, hc5]
 case stop =>
  rintro D c pre W hD h _ _
  exact h.elim
theorem cmp_lens {n m : Nat} (h : (grp n).length ≠ (grp m).length) : cmpN ((grp n).length : Int) ((grp m).length : Int) = cmpN (n : Int) (m : Int) := by
 unfold cmpN
 rcases Nat.lt_or_gt_of_ne h with g | g
 ·
  have := grp_len_lt g
  rw [if_pos (by omega), if_pos (by omega)]
 ·
  have := grp_len_lt g
  rw [if_neg (by omega), if_pos (by omega), if_neg (by omega), if_pos (by omega)]
theorem compare_any (n m : Nat) (v1 v2 : Value) (w : World) (hl1 : (grp n).length ≤ 100000) (h1 : NSl w v1 n) (h2 : NSl w v2 m) :
  Calls Tryz.prog 156 #[v1, v2] w fun e w' => e = .returned (.int .i64 (cmpN (n : Int) (m : Int))) ∧ Below w.heap.size w w' := by
 have f1 : ∃ a c, v1 = .slice a (grp n).length c := by
  rcases h1 with ⟨a, c, rfl, e⟩ | ⟨b, o, c, rfl, _⟩
  ·
   rw [e]; exact ⟨a, c, rfl⟩
  ·
   exact ⟨_, c, rfl⟩
 have f2 : ∃ a c, v2 = .slice a (grp m).length c := by
  rcases h2 with ⟨a, c, rfl, e⟩ | ⟨b, o, c, rfl, _⟩
  ·
   rw [e]; exact ⟨a, c, rfl⟩
  ·
   exact ⟨_, c, rfl⟩
 refine (callsIn_wide (n := 9)).1 ?_
 by_cases hl : (grp n).length = (grp m).length
 ·
  rcases h1 with ⟨a, c, rfl, e⟩ | ⟨b, o, c, rfl, g1, g2, g3, g4⟩
  ·
   obtain ⟨a2, c2, rfl⟩ := f2
   rw [← hl, e]
   have hn : n = 0 := grp_nil.1 e
   have hm : m = 0 := grp_nil.1 (List.length_eq_zero_iff.1 (by rw [← hl, e]; rfl))
   rw [hn, hm]
   exact compare_zero 9 (by decide) a a2 c c2 w
  ·
   rcases h2 with ⟨a, c2, rfl, e⟩ | ⟨b2, o2, c2, rfl, k1, k2, k3, k4⟩
   ·
    have hm : m = 0 := grp_nil.1 e
    have hn : n = 0 := grp_nil.1 (List.length_eq_zero_iff.1 (by rw [hl, e]; rfl))
    subst hm; subst hn
    rw [grp_zero]
    exact compare_zero 9 (by decide) _ a c c2 w
   ·
    rw [← hl]
    refine (compare_in 9 (by decide) (grp n) (grp m) b o b2 o2 _ c c2 w rfl hl.symm hl1 g1 g3 k3 g4 k4).mono fun e w' ⟨⟨r, he, hr⟩, hB⟩ => ⟨?_, hB⟩
    rw [he, cmp_of rfl hl.symm (grp_dig n) (grp_dig m) hr, vl_grp, vl_grp]
 ·
  obtain ⟨a1, c1, rfl⟩ := f1
  obtain ⟨a2, c2, rfl⟩ := f2
  rw [← cmp_lens hl]
  exact compare_len 9 (by decide) a1 a2 _ _ c1 c2 w hl
end Go.Proofs.YtdnbhgkbfbgnaaaGreatDoor
namespace Go.Proofs.YtdnbhgkbfbgnaaaGreatDoor
open Go.RowKit
set_option maxRecDepth 100000 in
theorem value_step (s g p : Int) (B : Nat) (w : World) (hA : ABlk w B [p]) (hs : 0 ≤ s ∧ s ≤ 100000000000000) (hg : 0 ≤ g ∧ g < 10000) (hp : 0 ≤ p ∧ p ≤ 1000000000000) :
  Calls Tryz.prog 218 #[.int .i64 s, .int .i64 g, .pointer (some ⟨B, 0, none⟩)] w fun e w' => e = .returned (.int .i64 (s + g * p)) ∧ w' = w.setCell ⟨B, 0, none⟩ (.int .i64 (p * 10000)) := by
 have hc := hA.cell (j := 0) (x := p) rfl
 have hf := hA.free 0
 have s0 := hs.1
 have s1 := hs.2
 have p0 := hp.1
 have p1 := hp.2
 have m1 : 0 ≤ g * p := Int.mul_nonneg hg.1 hp.1
 have m2 : g * p ≤ 10000 * 1000000000000 := Int.mul_le_mul (by omega) hp.2 hp.1 (by omega)
 clear hA hs hg hp
 go_enter Tryz.func218, Tryz.ntmps218
 go_wp2
 go_ret
 exact ⟨rfl, rfl⟩
theorem pow_small {i : Nat} (h : i ≤ 3) : 0 ≤ (10000 : Int) ^ i ∧ (10000 : Int) ^ i ≤ 1000000000000 := by
 have : ∀ i : Fin 4, 0 ≤ (10000 : Int) ^ i.1 ∧ (10000 : Int) ^ i.1 ≤ 1000000000000 := by decide
 exact this ⟨i, by omega⟩
set_option maxRecDepth 100000 in
set_option maxHeartbeats 1000000 in
theorem foldI_any (l : List Int) (b o n c B : Nat) (w : World) (hn : l.length = n) (hn3 : n ≤ 3) (hnc : n ≤ c) (hd : Dig l) (hr : IRow w b o l) (hb : b < w.heap.size) (hne : b ≠ B) (hA : ABlk w B [1]) :
  Calls Tryz.prog 217 #[.slice (some ⟨b, o, none⟩) n c, .int .i64 0, .func (.func 218) #[] #[.pointer (some ⟨B, 0, none⟩)]] w fun e w' => e = .returned (.int .i64 (vl l)) ∧ w.grownBy w' (some B) := by
 have HN := Lib.hid hn
 have HD := Lib.hid hd
 have HR := Lib.hid hr
 have HA := Lib.hid hA
 clear hn hd hr hA
 go_enter Tryz.func217, Tryz.ntmps217
 go_wp2
 go_loopw [1, 11] (fun s i wr => ∃ k : Nat, k ≤ n ∧ i = .int .i64 (k : Int) ∧ s = .int .i64 (vl (l.take k)) ∧ Hid (ABlk wr B [10000 ^ k]) ∧ Hid (w.grownBy wr (some B))) (fun _ i _ => n - (intOf i).toNat)
 case atStart => exact ⟨0, by omega, rfl, rfl, HA, Lib.hid ⟨rfl, rfl, rfl, Nat.le_refl _, fun _ _ _ => rfl⟩⟩
 case round =>
  obtain ⟨k, hk, rfl, rfl, hA, hG⟩ := hrel
  by_cases h1 : k < n
  ·
   have k1 : k < l.length := by rw [HN.out]; exact h1
   have hx : wr.cell? ⟨b, o + k, none⟩ = some (.int .i64 l[k]) := (HR.out.grown hb hG.out (by simpa using hne)) k _ (List.getElem?_eq_getElem k1)
   have hxd := HD.out _ (List.getElem_mem k1)
   have htd : Dig (l.take k) := fun x hx => HD.out x (List.mem_of_mem_take hx)
   have hv0 := vl_nonneg htd
   have hv1 := vl_lt htd
   have htl : (l.take k).length = k := by rw [List.length_take]; omega
   have hp := pow_small (i := k) (by omega)
   rw [htl] at hv1
   have HS := Lib.hid (show vl (l.take (k + 1)) = vl (l.take k) + l[k] * 10000 ^ k by rw [List.take_succ_eq_append_getElem k1, vl_append, htl]; simp [vl, Int.mul_comm])
   have HA2 := Lib.hid (show ABlk (wr.setCell ⟨B, 0, none⟩ (.int .i64 (10000 ^ k * 10000))) B [10000 ^ (k + 1)] by rw [Int.pow_succ]; exact hA.out.set 0 _)
   have HG2 := Lib.hid (hG.out.trans (setCell_grown wr B 0 (.int .i64 (10000 ^ k * 10000))))
   have cS := value_step (vl (l.take k)) l[k] (10000 ^ k) B wr hA.out (by omega) hxd hp
   generalize vl (l.take k) = s at *
   generalize l[k] = x at *
   generalize (10000 : Int) ^ k = p at *
   clear hxd htd hv0 hv1 htl hp k1 hA hG
   go_wp2_with (go_at_call 218; (with_reducible refine cS.mono ?_); rintro e w' ⟨rfl, rfl⟩)
   go_roundw
   case rel => exact ⟨k + 1, by omega, by go_num, by rw [HS.out], HA2, HG2⟩
   case measure => simp [intOf]; omega
  ·
   have hk : k = n := by omega
   have e1 : l.take k = l := List.take_of_length_le (by rw [HN.out]; omega)
   rw [e1]
   subst hk
   clear e1
   go_wp2
   go_ret
   exact ⟨rfl, hG.out⟩
set_option maxRecDepth 100000 in
theorem value_any (l : List Int) (b o n c : Nat) (w : World) (hn : l.length = n) (hn3 : n ≤ 3) (hnc : n ≤ c) (hd : Dig l) (hr : IRow w b o l) (hb : b < w.heap.size) :
  Calls Tryz.prog 196 #[.slice (some ⟨b, o, none⟩) n c] w fun e w' => e = .returned (.int .i64 (vl l)) ∧ Below w.heap.size w w' := by
 have hB1 : Below w.heap.size w (w.alloc (.cells #[.int .i64 1] 3)) := (Below.refl _ w).alloc (Nat.le_refl _) _
 have cF := foldI_any l b o n c w.heap.size (w.alloc (.cells #[.int .i64 1] 3)) hn hn3 hnc hd (hr.below hB1 hb) (by rw [World.size_alloc]; omega) (by omega) ⟨[], World.alloc_heap_new w _⟩
 clear hn hd hr
 go_enter Tryz.func196, Tryz.ntmps196
 go_wp2_with (go_at_call 217; (with_reducible refine cF.mono ?_); rintro e w' ⟨rfl, hG⟩)
 go_ret
 exact ⟨rfl, hB1.grown hG hB1.size (fun k e => by cases e; exact Nat.le_refl _)⟩
def cont (N D : List Int) (k : Int) : Bool := decide (cout 0 (subk N D k) = 0)
theorem subk_get (N D : List Int) (k : Int) (i : Nat) (hi : i < N.length) : (subk N D k)[i]? = some (N.getD i 0 - k * D.getD i 0) := by
 induction N generalizing D i with
 | nil => simp at hi
 | cons x N ih => cases D with
  | nil => rw [subk_nil, List.getD_eq_getElem?_getD, List.getElem?_eq_getElem hi]; simp
  | cons d D => cases i with
   | zero => simp [subk]
   | succ i => simpa [subk] using ih D i (by simpa using hi)
set_option maxRecDepth 100000 in
set_option maxHeartbeats 1000000 in
theorem contains_any (N D : List Int) (b1 o1 n c1 b2 o2 m c2 : Nat) (k : Int) (w : World) (hn : N.length = n) (hm : D.length = m) (hn9 : n ≤ 100000) (hmn : m ≤ n) (hnc : n ≤ c1) (dN : Dig N) (dD : Dig D) (hk : 0 ≤ k ∧ k ≤ 10000000)
  (hr1 : IRow w b1 o1 N) (hr2 : IRow w b2 o2 D) :
  Calls Tryz.prog 197 #[.slice (some ⟨b1, o1, none⟩) n c1, .slice (some ⟨b2, o2, none⟩) m c2, .int .i64 k] w fun e w' => e = .returned (.bool (cont N D k)) ∧ w = w' := by
 have HN := Lib.hid hn
 have HM := Lib.hid hm
 have HDN := Lib.hid dN
 have HDD := Lib.hid dD
 have H1 := Lib.hid hr1
 have H2 := Lib.hid hr2
 have HB := Lib.hid (subk_bound N D k (fun x hx => by have := dN x hx; omega) dD hk)
 have k0 := hk.1
 have k9 := hk.2
 have HL := Lib.hid (subk_len N D k)
 have HG := Lib.hid (subk_get N D k)
 clear hn hm dN dD hr1 hr2 hk
 go_enter Tryz.func197, Tryz.ntmps197
 go_wp2
 go_loop [7, 12] (fun cy i => ∃ (j : Nat) (y : Int), j ≤ n ∧ i = .int .i64 (j : Int) ∧ cy = .int .i64 y ∧ -1000000000000 ≤ y ∧ y ≤ 1000000000000 ∧ Hid (y = cout 0 ((subk N D k).take j))) (fun _ i => n - (intOf i).toNat)
 case atStart => exact ⟨0, 0, by omega, rfl, rfl, by decide, by decide, Lib.hid rfl⟩
 case round =>
  obtain ⟨j, y, hj, rfl, rfl, hy1, hy2, hy⟩ := hrel
  by_cases h1 : j < n
  ·
   have j1 : j < N.length := by rw [HN.out]; exact h1
   have jl : j < (subk N D k).length := by rw [HL.out]; exact j1
   have hx : w.cell? ⟨b1, o1 + j, none⟩ = some (.int .i64 N[j]) := H1.out j _ (List.getElem?_eq_getElem j1)
   have hxd := HDN.out _ (List.getElem_mem j1)
   have hg0 := HG.out j j1
   rw [List.getElem?_eq_getElem jl] at hg0
   have hg := Option.some.inj hg0
   clear hg0
   have hxe : N.getD j 0 = N[j] := by rw [List.getD_eq_getElem?_getD, List.getElem?_eq_getElem j1]; rfl
   have hzb := HB.out _ (List.getElem_mem jl)
   have HY := Lib.hid (show ((subk N D k)[j] + y) / 10000 = cout 0 ((subk N D k).take (j + 1)) by rw [List.take_succ_eq_append_getElem jl, cout_snoc, ← hy.out])
   obtain ⟨z, hz⟩ : ∃ z, (subk N D k)[j] = z := ⟨_, rfl⟩
   rw [hz] at hg hzb HY
   rw [hxe] at hg
   have cS : ∀ W, Calls Tryz.prog 200 #[.int .i64 (z + y)] W fun e w' => e = .returned (.tuple #[.int .i64 ((z + y) / 10000), .int .i64 ((z + y) % 10000)]) ∧ W = w' := fun W => split_any (z + y) W (by omega) (by omega)
   by_cases h2 : j < m
   ·
    have j2 : j < D.length := by rw [HM.out]; exact h2
    have hd : w.cell? ⟨b2, o2 + j, none⟩ = some (.int .i64 D[j]) := H2.out j _ (List.getElem?_eq_getElem j2)
    have hdd := HDD.out _ (List.getElem_mem j2)
    have hde : D.getD j 0 = D[j] := by rw [List.getD_eq_getElem?_getD, List.getElem?_eq_getElem j2]; rfl
    rw [hde] at hg
    generalize N[j] = x at *
    generalize D[j] = d at *
    have m1 : 0 ≤ k * d := Int.mul_nonneg k0 hdd.1
    have m2 : k * d ≤ 10000000 * 10000 := Int.mul_le_mul k9 (by omega) hdd.1 (by omega)
    rw [hg] at cS HY
    clear hxe hde hz j1 jl hy hg
    go_wp2_with (go_at_call 200; (with_reducible refine (cS _).mono ?_); rintro e w' ⟨rfl, rfl⟩)
    go_round
    case rel => exact ⟨j + 1, _, by omega, by go_num, rfl, by omega, by omega, HY⟩
    case measure => simp [intOf]; omega
   ·
    have hde : D.getD j 0 = 0 := by rw [List.getD_eq_getElem?_getD, List.getElem?_eq_none (by rw [HM.out]; omega)]; rfl
    rw [hde, Int.mul_zero, Int.sub_zero] at hg
    generalize N[j] = x at *
    rw [hg] at cS HY
    clear hxe hde hz j1 jl hy hg
    go_wp2_with (go_at_call 200; (with_reducible refine (cS _).mono ?_); rintro e w' ⟨rfl, rfl⟩)
    go_round
    case rel => exact ⟨j + 1, _, by omega, by go_num, rfl, by omega, by omega, HY⟩
    case measure => simp [intOf]; omega
  ·
   have hk : j = n := by omega
   have e1 : (subk N D k).take j = subk N D k := List.take_of_length_le (by rw [HL.out, HN.out]; omega)
   have hy' := hy.out
   rw [e1] at hy'
   subst hk
   by_cases h0 : y = 0
   ·
    have q : (y == 0) = true := by rw [h0]; rfl
    have HC := Lib.hid (show cont N D k = true by rw [cont, ← hy']; simp [h0])
    clear hy' h0 e1 hy
    go_wp2
    go_ret
    exact ⟨by rw [HC.out]; rfl, rfl⟩
   ·
    have q : (y == 0) = false := by rw [beq_eq_false_iff_ne]; exact h0
    have HC := Lib.hid (show cont N D k = false by rw [cont, ← hy']; simp [h0])
    clear hy' h0 e1 hy
    go_wp2
    go_ret
    exact ⟨by rw [HC.out]; rfl, rfl⟩
theorem cont_iff {N D : List Int} {k : Int} (dN : Dig N) (dD : Dig D) (hk : 0 ≤ k) (hl : D.length ≤ N.length) : cont N D k = true ↔ k * vl D ≤ vl N := by
 rw [cont, decide_eq_true_eq]
 have e := carr_vl (subk N D k) 0
 have b1 := vl_nonneg (carr_dig (subk N D k) 0)
 have b2 := vl_lt (carr_dig (subk N D k) 0)
 rw [subk_vl _ _ _ hl, subk_len] at e
 rw [carr_len, subk_len] at b2
 have b3 := vl_lt dN
 have b4 := Int.mul_nonneg hk (vl_nonneg dD)
 have hp : (0 : Int) < 10000 ^ N.length := Int.pow_pos (by decide)
 generalize (10000 : Int) ^ N.length = P at *
 generalize cout 0 (subk N D k) = c at *
 generalize k * vl D = q at *
 constructor
 ·
  intro h; subst h; rw [Int.mul_zero] at e; omega
 ·
  intro h
  rcases Int.lt_trichotomy c 0 with g | g | g
  ·
   have : P * c ≤ P * (-1) := Int.mul_le_mul_of_nonneg_left (by omega) (by omega)
   omega
  ·
   exact g
  ·
   have : P * 1 ≤ P * c := Int.mul_le_mul_of_nonneg_left (by omega) (by omega)
   omega
set_option maxRecDepth 100000 in
theorem group_step (N D : List Int) (b1 o1 n c1 b2 o2 m c2 B1 B2 B3 : Nat) (lo i : Int) (w : World) (hn : N.length = n) (hm : D.length = m) (hn9 : n ≤ 100000) (hmn : m ≤ n) (hnc : n ≤ c1) (dN : Dig N) (dD : Dig D) (hk : 0 ≤ lo ∧ lo ≤ 1000000) (hi : 0 ≤ i ∧ i ≤ 1000000)
  (hr1 : IRow w b1 o1 N) (hr2 : IRow w b2 o2 D) (h1 : w.cell? ⟨B1, 0, none⟩ = some (.func (.func 197) #[.slice (some ⟨b1, o1, none⟩) n c1] #[])) (h2 : w.cell? ⟨B2, 0, none⟩ = some (.slice (some ⟨b2, o2, none⟩) m c2)) (h3 : w.cell? ⟨B3, 0, none⟩ = some (.int .i64 lo)) :
  Calls Tryz.prog 199 #[.int .i64 i, .pointer (some ⟨B1, 0, none⟩), .pointer (some ⟨B2, 0, none⟩), .pointer (some ⟨B3, 0, none⟩)] w fun e w' => e = .returned (.bool (!cont N D (lo + i + 1))) ∧ w = w' := by
 have cC : ∀ W, W = w → Calls Tryz.prog 197 #[.slice (some ⟨b1, o1, none⟩) n c1, .slice (some ⟨b2, o2, none⟩) m c2, .int .i64 (lo + i + 1)] W fun e w' => e = .returned (.bool (cont N D (lo + i + 1))) ∧ W = w' := fun W e => by
  subst e; exact contains_any N D b1 o1 n c1 b2 o2 m c2 (lo + i + 1) W hn hm hn9 hmn hnc dN dD (by omega) hr1 hr2
 have i0 := hi.1
 have i1 := hi.2
 have l0 := hk.1
 have l1 := hk.2
 generalize cont N D (lo + i + 1) = r at *
 clear hn hm dN dD hr1 hr2 hk hi
 go_enter Tryz.func199, Tryz.ntmps199
 go_wp2_with (go_at_call 197; (with_reducible refine (cC _ rfl).mono ?_); rintro e w' ⟨rfl, rfl⟩)
 go_ret
 exact ⟨rfl, rfl⟩
set_option maxRecDepth 100000 in
set_option maxHeartbeats 1000000 in
theorem search_any (n : Nat) (P : Nat → Bool) (p1 p2 p3 : Value) (w : World) (hn : n ≤ 1000000) (mono : ∀ i j, i ≤ j → P i = true → P j = true)
  (hf : ∀ i : Nat, i < n → Calls Tryz.prog 199 #[.int .i64 (i : Int), p1, p2, p3] w fun e w' => e = .returned (.bool (P i)) ∧ w = w') :
  Calls Tryz.prog 198 #[.int .i64 (n : Int), .func (.func 199) #[] #[p1, p2, p3]] w fun e w' => (∃ r : Nat, e = .returned (.int .i64 (r : Int)) ∧ r ≤ n ∧ (∀ i, i < r → P i = false) ∧ (r < n → P r = true)) ∧ w = w' := by
 have HM := Lib.hid mono
 have HF := Lib.hid hf
 clear mono hf
 go_enter Tryz.func198, Tryz.ntmps198
 go_wp2
 go_loop [5, 6] (fun u v => ∃ (i j : Nat), i ≤ j ∧ j ≤ n ∧ u = .int .i64 (i : Int) ∧ v = .int .i64 (j : Int) ∧ Hid (∀ x, x < i → P x = false) ∧ Hid (j < n → P j = true)) (fun u v => (intOf v - intOf u).toNat)
 case atStart => exact ⟨0, n, by omega, by omega, rfl, rfl, Lib.hid (fun x h => by omega), Lib.hid (fun h => by omega)⟩
 case round =>
  obtain ⟨i, j, hij, hjn, rfl, rfl, hI, hJ⟩ := hrel
  by_cases h1 : i < j
  ·
   obtain ⟨h, hh⟩ : ∃ h, (i + j) / 2 = h := ⟨_, rfl⟩
   have hh1 : i ≤ h := by omega
   have hh2 : h < j := by omega
   have hhI : ((i : Int) + (j : Int)) / 2 = (h : Int) := by omega
   have cS := HF.out h (by omega)
   have HI := Lib.hid (show P h = false → ∀ x, x < h + 1 → P x = false from fun e x hx => by
    cases hP : P x with
    | false => rfl
    | true => rw [HM.out x h (by omega) hP] at e; cases e)
   have HPh := Lib.hid (show P h = P h from rfl)
   obtain ⟨r, hr⟩ : ∃ r, P h = r := ⟨_, rfl⟩
   rw [hr] at cS
   have HR := Lib.hid hr
   have HH := Lib.hid hhI
   clear hh hr HPh
   cases r
   ·
    go_wp2_with (go_at_call 199; (with_reducible refine cS.mono ?_); rintro e w' ⟨rfl, rfl⟩)
    go_round
    case rel => exact ⟨h + 1, j, by omega, hjn, by go_num, rfl, Lib.hid (HI.out HR.out), hJ⟩
    case measure => simp [intOf]; omega
   ·
    go_wp2_with (go_at_call 199; (with_reducible refine cS.mono ?_); rintro e w' ⟨rfl, rfl⟩)
    go_round
    case rel => exact ⟨i, h, by omega, by omega, rfl, by go_num, hI, Lib.hid (fun _ => HR.out)⟩
    case measure => simp [intOf]; omega
  ·
   have hk : i = j := by omega
   subst hk
   have HX := Lib.hid (And.intro hI.out hJ.out)
   clear hI hJ
   go_wp2
   go_ret
   exact ⟨⟨i, rfl, hjn, HX.out.1, HX.out.2⟩, rfl⟩
theorem group_bounds {N D : List Int} {m : Nat} {f : Int} (dN : Dig N) (dD : Dig D) (hm : D.length = m + 1) (hf : D = D.take m ++ [f]) (hf1 : 1 ≤ f) (hlt : vl N < 10000 * vl D) (hmn : m ≤ N.length) :
  vl (N.drop m) / (f + 1) ≤ vl N / vl D ∧ vl N / vl D ≤ vl (N.drop m) / f ∧ vl (N.drop m) / f ≤ 20000 ∧ 0 ≤ vl (N.drop m) / (f + 1) ∧ vl (N.drop m) / (f + 1) ≤ 10000 ∧ 0 < vl D := by
 have tl : (D.take m).length = m := by rw [List.length_take]; omega
 have nl : (N.take m).length = m := by rw [List.length_take]; omega
 have eD : vl D = vl (D.take m) + 10000 ^ m * f := by
  conv => lhs; rw [hf]
  rw [vl_append, tl]; simp [vl]
 have eN : vl N = vl (N.take m) + 10000 ^ m * vl (N.drop m) := by
  conv => lhs; rw [← List.take_append_drop m N]
  rw [vl_append, nl]
 have dT : Dig (D.take m) := fun x hx => dD x (List.mem_of_mem_take hx)
 have nT : Dig (N.take m) := fun x hx => dN x (List.mem_of_mem_take hx)
 have nD : Dig (N.drop m) := fun x hx => dN x (List.mem_of_mem_drop hx)
 have a1 := vl_nonneg dT
 have a2 := vl_lt dT
 have a3 := vl_nonneg nT
 have a4 := vl_lt nT
 have a5 := vl_nonneg nD
 rw [tl] at a2
 rw [nl] at a4
 have hP : (0 : Int) < 10000 ^ m := Int.pow_pos (by decide)
 rw [eN, eD] at hlt
 rw [eN, eD]
 generalize (10000 : Int) ^ m = P at *
 generalize vl (N.drop m) = t at *
 generalize vl (N.take m) = x at *
 generalize vl (D.take m) = y at *
 have hPf : P * 1 ≤ P * f := Int.mul_le_mul_of_nonneg_left (by omega) (by omega)
 have hVD : 0 < y + P * f := by omega
 have ht : t < 10000 * (f + 1) := by
  refine Int.lt_of_not_ge fun h => ?_
  have h1 : P * (10000 * (f + 1)) ≤ P * t := Int.mul_le_mul_of_nonneg_left h (by omega)
  have h2 : P * (10000 * (f + 1)) = 10000 * (P * f) + 10000 * P := by rw [Int.mul_add, Int.mul_add, Int.mul_one, ← Int.mul_assoc, Int.mul_comm P 10000, Int.mul_assoc]
  omega
 refine ⟨?_, ?_, ?_, Int.ediv_nonneg a5 (by omega), ?_, hVD⟩
 ·
  rw [Int.le_ediv_iff_mul_le hVD]
  have h1 := Int.ediv_mul_le t (show f + 1 ≠ 0 by omega)
  have h0 : 0 ≤ t / (f + 1) := Int.ediv_nonneg a5 (by omega)
  generalize t / (f + 1) = q at *
  have h2 : P * (q * (f + 1)) ≤ P * t := Int.mul_le_mul_of_nonneg_left h1 (by omega)
  have h3 : q * y ≤ q * P := Int.mul_le_mul_of_nonneg_left (by omega) h0
  have h4 : q * (y + P * f) = q * y + P * (q * f) := by rw [Int.mul_add, ← Int.mul_assoc, Int.mul_comm q P, Int.mul_assoc]
  have h5 : P * (q * (f + 1)) = P * (q * f) + q * P := by rw [Int.mul_add, Int.mul_one, Int.mul_add, Int.mul_comm P q]
  omega
 ·
  have h1 : x + P * t < (t / f + 1) * (y + P * f) := by
   have h2 := Int.lt_ediv_add_one_mul_self t (show 0 < f by omega)
   generalize t / f = q at *
   have h0 : 0 ≤ q + 1 := by
    refine Int.le_of_not_gt fun h => ?_
    have : (q + 1) * f ≤ 0 * f := Int.mul_le_mul_of_nonneg_right (by omega) (by omega)
    omega
   have h3 : P * (t + 1) ≤ P * ((q + 1) * f) := Int.mul_le_mul_of_nonneg_left (by omega) (by omega)
   have h4 : (q + 1) * (y + P * f) = (q + 1) * y + P * ((q + 1) * f) := by rw [Int.mul_add, ← Int.mul_assoc (q + 1) P f, Int.mul_comm (q + 1) P, Int.mul_assoc]
   have h5 : 0 ≤ (q + 1) * y := Int.mul_nonneg h0 a1
   rw [Int.mul_add, Int.mul_one] at h3
   omega
  have := (Int.ediv_lt_iff_lt_mul hVD).2 h1
  omega
 ·
  have : t / f < 20001 := by
   rw [Int.ediv_lt_iff_lt_mul (by omega)]
   omega
  omega
 ·
  have : t / (f + 1) < 10001 := by
   rw [Int.ediv_lt_iff_lt_mul (by omega)]
   omega
  omega
set_option maxRecDepth 100000 in
set_option maxHeartbeats 2000000 in
theorem group_any (N D : List Int) (b1 o1 n c1 b2 o2 m c2 : Nat) (w : World) (hn : N.length = n) (hm : D.length = m + 1) (hn9 : n ≤ 90000) (hmn : m + 1 ≤ n) (hnm : n ≤ m + 2) (hnc : n ≤ c1) (hcc : c1 ≤ 9223372036854775807) (dN : Dig N) (dD : Dig D) (hlast : D.getLast? ≠ some 0) (hlt : vl N < 10000 * vl D)
  (hr1 : IRow w b1 o1 N) (hr2 : IRow w b2 o2 D) (hb1 : b1 < w.heap.size) (hb2 : b2 < w.heap.size) :
  Calls Tryz.prog 174 #[.slice (some ⟨b1, o1, none⟩) n c1, .slice (some ⟨b2, o2, none⟩) (m + 1) c2] w fun e w' => e = .returned (.int .i64 (vl N / vl D)) ∧ Below w.heap.size w w' := by
 have hml : m < D.length := by omega
 obtain ⟨f, hf⟩ : ∃ f, D[m] = f := ⟨_, rfl⟩
 have hDf : D = D.take m ++ [f] := by
  have := List.take_append_drop m D
  rw [List.drop_eq_getElem_cons hml, List.drop_eq_nil_of_le (by omega), hf] at this
  exact this.symm
 have hf0 : 0 ≤ f ∧ f < 10000 := dD f (by rw [← hf]; exact List.getElem_mem hml)
 have hfne : f ≠ 0 := fun h => hlast (by rw [hDf, h]; simp)
 obtain ⟨g1, g2, g3, g4, g5, g6⟩ := group_bounds dN dD hm hDf (by omega) hlt (by omega)
 have hfc : w.cell? ⟨b2, o2 + m, none⟩ = some (.int .i64 f) := hr2 m _ (by rw [List.getElem?_eq_getElem hml, hf])
 have hB1 : Below w.heap.size w (w.alloc (.cells #[.slice (some ⟨b2, o2, none⟩) (m + 1) c2] 112)) := (Below.refl _ w).alloc (Nat.le_refl _) _
 have hrow : IRow w b1 (o1 + m) (N.drop m) := fun j x hj => by
  rw [List.getElem?_drop] at hj
  have := hr1 _ x hj
  rwa [show o1 + (m + j) = o1 + m + j by omega] at this
 have nD : Dig (N.drop m) := fun x hx => dN x (List.mem_of_mem_drop hx)
 have cV := value_any (N.drop m) b1 (o1 + m) (n - m) (c1 - m) (w.alloc (.cells #[.slice (some ⟨b2, o2, none⟩) (m + 1) c2] 112)) (by rw [List.length_drop]; omega) (by omega) (by omega) nD (hrow.below hB1 hb1) (by rw [World.size_alloc]; omega)
 have ht0 := vl_nonneg nD
 have ht8 : vl (N.drop m) ≤ 1000000000 := by
  have h1 := Int.lt_mul_of_ediv_lt (show 0 < f by omega) (show vl (N.drop m) / f < 20001 by omega)
  have h2 : 20001 * f ≤ 20001 * 10000 := Int.mul_le_mul_of_nonneg_left (by omega) (by omega)
  omega
 have hQ0 : 0 ≤ vl N / vl D := by omega
 -- what the search finds
 have hS : ∀ (W : World) (p1 p2 p3 : Value) (lo hi : Int), lo = vl (N.drop m) / (f + 1) → hi = vl (N.drop m) / f → (∀ i : Nat, i < (hi - lo).toNat → Calls Tryz.prog 199 #[.int .i64 (i : Int), p1, p2, p3] W fun e w' => e = .returned (.bool (!cont N D (lo + i + 1))) ∧ W = w') →
   Calls Tryz.prog 198 #[.int .i64 (hi - lo), .func (.func 199) #[] #[p1, p2, p3]] W fun e w' => e = .returned (.int .i64 (vl N / vl D - lo)) ∧ W = w' := fun W p1 p2 p3 lo hi e1 e2 hf => by
  subst e1 e2
  have hci : ∀ i : Nat, (!cont N D (vl (N.drop m) / (f + 1) + i + 1)) = true ↔ vl N / vl D ≤ vl (N.drop m) / (f + 1) + i := fun i => by
   rw [Bool.not_eq_true', ← Bool.not_eq_true, cont_iff dN dD (by omega) (by omega), ← Int.le_ediv_iff_mul_le g6]
   omega
  have h := search_any (vl (N.drop m) / f - vl (N.drop m) / (f + 1)).toNat (fun i => !cont N D (vl (N.drop m) / (f + 1) + i + 1)) p1 p2 p3 W (by omega) (fun i j hij hi => by
   have := (hci i).1 hi
   exact (hci j).2 (by omega)) hf
  rw [show (((vl (N.drop m) / f - vl (N.drop m) / (f + 1)).toNat : Nat) : Int) = vl (N.drop m) / f - vl (N.drop m) / (f + 1) by omega] at h
  refine h.mono fun e w' ⟨⟨r, he, h1, h2, h3⟩, hw⟩ => ⟨?_, hw⟩
  have hr : (r : Int) = vl N / vl D - vl (N.drop m) / (f + 1) := by
   have k1 : (r : Int) ≤ vl N / vl D - vl (N.drop m) / (f + 1) := by
    refine Int.le_of_not_gt fun hgt => ?_
    have := h2 (vl N / vl D - vl (N.drop m) / (f + 1)).toNat (by omega)
    rw [Bool.eq_false_iff] at this
    exact this ((hci _).2 (by omega))
   rcases Nat.lt_or_ge r (vl (N.drop m) / f - vl (N.drop m) / (f + 1)).toNat with h4 | h4
   ·
    have := (hci r).1 (h3 h4)
    omega
   ·
    omega
  rw [he, hr]
 obtain ⟨t, ht⟩ : ∃ t, vl (N.drop m) = t := ⟨_, rfl⟩
 obtain ⟨Q, hQ⟩ : ∃ t, vl N / vl D = t := ⟨_, rfl⟩
 rw [ht] at g1 g2 g3 g4 g5 cV ht0 ht8 hS
 rw [hQ] at g1 g2 hQ0 hS ⊢
 have hstep : ∀ (W : World) (B1 B3 : Nat), Below w.heap.size w W → W.cell? ⟨B1, 0, none⟩ = some (.func (.func 197) #[.slice (some ⟨b1, o1, none⟩) n c1] #[]) → W.cell? ⟨w.heap.size, 0, none⟩ = some (.slice (some ⟨b2, o2, none⟩) (m + 1) c2) → W.cell? ⟨B3, 0, none⟩ = some (.int .i64 (t / (f + 1))) →
   Calls Tryz.prog 198 #[.int .i64 (t / f - t / (f + 1)), .func (.func 199) #[] #[.pointer (some ⟨B1, 0, none⟩), .pointer (some ⟨w.heap.size, 0, none⟩), .pointer (some ⟨B3, 0, none⟩)]] W fun e w' => e = .returned (.int .i64 (Q - t / (f + 1))) ∧ W = w' := fun W B1 B3 hB x1 x2 x3 =>
  hS W _ _ _ _ _ rfl rfl fun i hi => group_step N D b1 o1 n c1 b2 o2 (m + 1) c2 B1 w.heap.size B3 (t / (f + 1)) i W hn hm (by omega) hmn hnc dN dD (by omega) (by omega) (hr1.below hB hb1) (hr2.below hB hb2) x1 x2 x3
 have j0 : (0 : Int) ≤ (m : Int) := by omega
 have j1 : (m : Int) ≤ (n : Int) := by omega
 have j2 : (n : Int) ≤ (c1 : Int) := by omega
 have j3 : (m : Int) < (c1 : Int) := by omega
 have j4 : (m : Int) ≤ (c1 : Int) := by omega
 have j5 : ¬ c1 = m := by omega
 have f1 : 1 ≤ f := by omega
 have f2 : f ≤ 10000 := by omega
 have cd1 : (w.alloc (.cells #[.slice (some ⟨b2, o2, none⟩) (m + 1) c2] 112)).cell? ⟨b2, o2 + m, none⟩ = some (.int .i64 f) := (hB1.cell (p := ⟨b2, o2 + m, none⟩) hb2).trans hfc
 have bD := Boxed.new w 112 (.slice (some ⟨b2, o2, none⟩) (m + 1) c2)
 clear hS hr1 hr2 hrow nD dN dD hlast hlt hDf hf hml hn hm ht hQ hf0 hfne hfc g6
 go_enter Tryz.func174, Tryz.ntmps174
 go_wp2_with (go_at_call 196; (with_reducible refine cV.mono ?_); rintro e w1 ⟨rfl, hBv⟩)
 have hb0 : Below w.heap.size w w1 := hB1.trans (hBv.mono (by rw [World.size_alloc]; omega))
 have hcD : w1.cell? ⟨w.heap.size, 0, none⟩ = some (.slice (some ⟨b2, o2, none⟩) (m + 1) c2) := (hBv.cell (p := ⟨w.heap.size, 0, none⟩) (by show w.heap.size < _; rw [World.size_alloc]; omega)).trans bD.cell
 have hsz : w.heap.size < w1.heap.size := by have := hBv.size; rw [World.size_alloc] at this; omega
 clear cV hBv bD cd1 hB1
 go_region
 have hA1 : Below w1.heap.size w1 (w1.alloc (.cells #[.int .i64 (t / (f + 1))] 3)).drew := ((Below.refl _ w1).alloc (Nat.le_refl _) _).drew
 have bL := Boxed.new w1 3 (.int .i64 (t / (f + 1)))
 have hcL : (w1.alloc (.cells #[.int .i64 (t / (f + 1))] 3)).drew.cell? ⟨w1.heap.size, 0, none⟩ = some (.int .i64 (t / (f + 1))) := bL.cell
 have hs2 : (w1.alloc (.cells #[.int .i64 (t / (f + 1))] 3)).drew.heap.size = w1.heap.size + 1 := World.size_alloc _ _
 have hcD2 := (hA1.cell (p := ⟨w.heap.size, 0, none⟩) hsz).trans hcD
 have hb2 := hb0.trans (hA1.mono hb0.size)
 generalize (w1.alloc (.cells #[.int .i64 (t / (f + 1))] 3)).drew = w2 at *
 obtain ⟨B3, hB3⟩ : ∃ B, w1.heap.size = B := ⟨_, rfl⟩
 rw [hB3] at hcL hs2 ⊢
 have h3s : B3 < w2.heap.size := by omega
 have hA2 : Below w2.heap.size w2 (w2.alloc (.cells #[.func (.func 197) #[.slice (some ⟨b1, o1, none⟩) n c1] #[]] 182)) := (Below.refl _ w2).alloc (Nat.le_refl _) _
 have bF := Boxed.new w2 182 (.func (.func 197) #[.slice (some ⟨b1, o1, none⟩) n c1] #[])
 have hcF := bF.cell
 have hcL2 := (hA2.cell (p := ⟨B3, 0, none⟩) h3s).trans hcL
 have hcD3 := (hA2.cell (p := ⟨w.heap.size, 0, none⟩) (Nat.lt_of_lt_of_le hsz (by omega))).trans hcD2
 have hb3 := hb2.trans (hA2.mono hb2.size)
 have cS : ∀ q, Calls Tryz.prog 198 #[.int .i64 (t / f - t / (f + 1)), .func (.func 199) #[] #[.pointer (some ⟨w2.heap.size, 0, none⟩), .pointer (some ⟨w.heap.size, 0, none⟩), .pointer (some ⟨B3, 0, none⟩)]] ((w2.alloc (.cells #[.func (.func 197) #[.slice (some ⟨b1, o1, none⟩) n c1] #[]] 182)).drewN q) fun e w' => e = .returned (.int .i64 (Q - t / (f + 1))) ∧ w' = (w2.alloc (.cells #[.func (.func 197) #[.slice (some ⟨b1, o1, none⟩) n c1] #[]] 182)).drewN q := fun q =>
  (hstep _ w2.heap.size B3 (below_drewN hb3 q) hcF hcD3 hcL2).mono fun e w' ⟨h1, h2⟩ => ⟨h1, h2.symm⟩
 clear hA1 bL hcL hcD2 hb2 hA2 bF hcF hcD hb0 hsz hstep hcD3
 obtain ⟨hB3', hs2'⟩ := And.intro (Lib.hid hB3) (Lib.hid hs2)
 clear hB3 hs2
 go_wp2
 generalize w2.alloc (.cells #[.func (.func 197) #[.slice (some ⟨b1, o1, none⟩) n c1] #[]] 182) = w3 at *
 have e1 : IntKind.i64.wrap (t / f - t / (f + 1)) = t / f - t / (f + 1) := by rw [IntKind.wrap_i64]; omega
 have e2 : IntKind.i64.wrap (t / (f + 1) + (Q - t / (f + 1))) = Q := by rw [IntKind.wrap_i64]; omega
 have hlo : 0 ≤ t / (f + 1) := g4
 generalize t / (f + 1) = lo at *
 generalize t / f = hi at *
 go_quiet ((go_at_call 198; exact Calls.quiet_of_same (cS _)))
 go_wp2
 go_ret
 exact ⟨rfl, below_drewN hb3 _⟩
structure OvI (w0 W : World) (g g2 p k j : Nat) (n d : Int) (P X Q : List Int) : Prop where
 hP : P.length = j
 hX : X.length + j = p
 dP : Dig P
 dX : Dig X
 lt : vl X < d
 hA : ABlk W g (P ++ X)
 hQ : Q.length + j = k
 dQ : Dig Q
 hA2 : ABlk W g2 (List.replicate j 0 ++ Q)
 eq : n = vl (P ++ X) + d * (10000 ^ j * vl Q)
 hB : Below w0.heap.size w0 W
theorem vl_zero_high {l : List Int} {e : Nat} (h : Dig l) (hl : vl l < 10000 ^ e) : vl (l.drop e) = 0 := by
 by_cases he : l.length ≤ e
 ·
  rw [List.drop_eq_nil_of_le he]; rfl
 ·
  have e1 : vl l = vl (l.take e) + 10000 ^ e * vl (l.drop e) := by
   conv => lhs; rw [← List.take_append_drop e l]
   rw [vl_append, List.length_take, Nat.min_eq_left (by omega)]
  have h1 := vl_nonneg (l := l.take e) (fun x hx => h x (List.mem_of_mem_take hx))
  have h2 := vl_nonneg (l := l.drop e) (fun x hx => h x (List.mem_of_mem_drop hx))
  have hp : (0 : Int) < 10000 ^ e := Int.pow_pos (by decide)
  rcases Int.lt_or_eq_of_le h2 with h3 | h3
  ·
   have : (10000 : Int) ^ e * 1 ≤ 10000 ^ e * vl (l.drop e) := Int.mul_le_mul_of_nonneg_left (by omega) (by omega)
   omega
  ·
   exact h3.symm
theorem set_at {A : List Int} {n : Nat} {x v : Int} {B : List Int} (h : A.length = n) : (A ++ x :: B).set n v = A ++ v :: B := by subst h; exact set_mid A x v B
theorem OvI.step {w0 W W' : World} {g g2 p k j : Nat} {n d : Int} {P X Q : List Int} {D : List Int} {x : Int} {e : Nat} (h : OvI w0 W g g2 p k (j + 1) n d (P ++ [x]) X Q) (hD : vl D = d) (hd : 0 < d)
  (hs : D.length ≤ e) (he : e ≤ p - j) (hz : vl ((x :: X).drop e) = 0)
  (hA : ABlk W' g (P ++ carr 0 (subk ((x :: X).take e) D (vl ((x :: X).take e) / d)) ++ (x :: X).drop e)) (hA2 : ABlk W' g2 (List.replicate j 0 ++ (vl ((x :: X).take e) / d :: Q))) (hq : vl ((x :: X).take e) / d < 10000) (hB : Below w0.heap.size w0 W') :
  OvI w0 W' g g2 p k j n d P (carr 0 (subk ((x :: X).take e) D (vl ((x :: X).take e) / d)) ++ (x :: X).drop e) (vl ((x :: X).take e) / d :: Q) := by
 have hPl : P.length = j := by have := h.hP; simp at this; omega
 have hXl := h.hX
 have dx : Dig (x :: X) := fun y hy => by
  rcases List.mem_cons.1 hy with rfl | hy
  ·
   exact h.dP y (by simp)
  ·
   exact h.dX y hy
 have dL : Dig ((x :: X).take e) := fun y hy => dx y (List.mem_of_mem_take hy)
 have dS : Dig ((x :: X).drop e) := fun y hy => dx y (List.mem_of_mem_drop hy)
 have hLl : ((x :: X).take e).length = e := by rw [List.length_take, List.length_cons]; omega
 have hsplit : vl (x :: X) = vl ((x :: X).take e) := by
  conv => lhs; rw [← List.take_append_drop e (x :: X)]
  rw [vl_append, hz, Int.mul_zero, Int.add_zero]
 have hL0 := vl_nonneg dL
 have hLlt := vl_lt dL
 obtain ⟨v, hv⟩ : ∃ v, vl ((x :: X).take e) = v := ⟨_, rfl⟩
 have hm0 := Int.emod_nonneg v (show d ≠ 0 by omega)
 have hm1 := Int.emod_lt_of_pos v hd
 have hdm := Int.mul_ediv_add_emod v d
 have hq0 : 0 ≤ v / d := Int.ediv_nonneg (by omega) (by omega)
 have hfit := carr_fits (l := subk ((x :: X).take e) D (v / d)) (c := 0) (by rw [subk_vl _ _ _ (by omega), hv, hD, Int.mul_comm]; omega) (by
  rw [subk_vl _ _ _ (by omega), subk_len, hD, Int.mul_comm]
  have := Int.mul_nonneg hq0 (show 0 ≤ d by omega)
  rw [Int.mul_comm] at this
  omega)
 rw [hv] at hA hA2 hq ⊢
 have hcv : vl (carr 0 (subk ((x :: X).take e) D (v / d))) = v % d := by rw [hfit.2, subk_vl _ _ _ (by omega), hv, hD, Int.mul_comm]; omega
 have hcl : (carr 0 (subk ((x :: X).take e) D (v / d))).length = e := by rw [carr_len, subk_len, hLl]
 have hXv : vl (carr 0 (subk ((x :: X).take e) D (v / d)) ++ (x :: X).drop e) = v % d := by rw [vl_append, hz, Int.mul_zero, hcv, Int.add_zero]
 refine ⟨hPl, by rw [List.length_append, hcl, List.length_drop, List.length_cons]; omega, fun y hy => h.dP y (by simp [hy]), fun y hy => ?_, by rw [hXv]; omega, by rw [← List.append_assoc]; exact hA, by have := h.hQ; rw [List.length_cons]; omega, fun y hy => ?_, hA2, ?_, hB⟩
 ·
  rcases List.mem_append.1 hy with hy | hy
  ·
   exact carr_dig _ _ y hy
  ·
   exact dS y hy
 ·
  rcases List.mem_cons.1 hy with rfl | hy
  ·
   exact ⟨hq0, hq⟩
  ·
   exact h.dQ y hy
 ·
  have e1 := h.eq
  rw [show P ++ [x] ++ X = P ++ (x :: X) by simp, vl_append, hPl, hsplit, hv] at e1
  rw [vl_append, hPl, hXv, vl, e1, Int.pow_succ]
  have : v = v % d + d * (v / d) := by omega
  have e2 : (10000 : Int) ^ j * v = 10000 ^ j * (v % d) + d * (10000 ^ j * (v / d)) := by
   conv => lhs; rw [this]
   rw [Int.mul_add, ← Int.mul_assoc, ← Int.mul_assoc, Int.mul_comm d (10000 ^ j)]
  have e3 : d * (10000 ^ j * (v / d + 10000 * vl Q)) = d * (10000 ^ j * (v / d)) + d * (10000 ^ j * 10000 * vl Q) := by
   rw [Int.mul_add (10000 ^ j), Int.mul_add d, Int.mul_assoc (10000 ^ j) 10000]
  omega
set_option maxRecDepth 100000 in
set_option maxHeartbeats 4000000 in
theorem over_some (n d : Nat) (b1 o1 p c1 b2 o2 m c2 : Nat) (w : World) (hd : 0 < d) (hN : (grp n).length = p) (hD : (grp d).length = m + 1) (hp9 : p ≤ 80000) (hps : m + 1 ≤ p) (hmc : m + 1 ≤ c2)
  (hr1 : IRow w b1 o1 (grp n)) (hr2 : IRow w b2 o2 (grp d)) (hb1 : b1 < w.heap.size) (hb2 : b2 < w.heap.size) :
  Calls Tryz.prog 151 #[.slice (some ⟨b1, o1, none⟩) p c1, .slice (some ⟨b2, o2, none⟩) (m + 1) c2] w fun e w' => ∃ v1 v2, e = .returned (.tuple #[v1, v2]) ∧ NSl w' v1 (n / d) ∧ NSl w' v2 (n % d) ∧ Below w.heap.size w w' := by
 obtain ⟨k, hk⟩ : ∃ k, p - m = k := ⟨_, rfl⟩
 have hk1 : 1 ≤ k := by omega
 have hkp : k + m = p := by omega
 obtain ⟨i0, hi, hz0, hz1, hz2⟩ := info_parts info_int
 have hlast : (grp d).getLast? ≠ some 0 := by
  intro h
  have e := grp_last d
  rcases List.eq_nil_or_concat (grp d) with h0 | ⟨q, x, h0⟩
  ·
   rw [h0] at h; cases h
  ·
   rw [List.concat_eq_append] at h0
   rw [h0] at h e
   have hx : x = 0 := by simpa using h
   subst hx
   rw [trz_snoc0] at e
   have h1 := trz_len q
   have h2 := congrArg List.length e
   simp at h2
   omega
 have hdge : (10000 : Int) ^ m ≤ (d : Int) := by
  have := grp_ge hd
  rw [hD, Nat.add_sub_cancel] at this
  have e : ((10000 ^ m : Nat) : Int) = (10000 : Int) ^ m := by simp
  omega
 have hdlt : (d : Int) < 10000 ^ (m + 1) := by
  have := vl_lt (grp_dig d)
  rwa [vl_grp, hD] at this
 have dN := grp_dig n
 have dD := grp_dig d
 have vN := vl_grp n
 have vD := vl_grp d
 obtain ⟨N, hN'⟩ : ∃ l, grp n = l := ⟨_, rfl⟩
 obtain ⟨D, hD'⟩ : ∃ l, grp d = l := ⟨_, rfl⟩
 rw [hN'] at hN dN vN hr1
 rw [hD'] at hD dD vD hr2 hlast
 have hdI : (0 : Int) < (d : Int) := by omega
 have cC : Calls Tryz.prog 173 #[.slice (some ⟨b1, o1, none⟩) p c1] w fun e w' => ∃ g cap, e = .returned (.slice (some ⟨g, 0, none⟩) p cap) ∧ w.heap.size ≤ g ∧ p ≤ cap ∧ cap ≤ 9223372036854775807 ∧ ABlk w' g N ∧ Below w.heap.size w w' := clone_some N b1 o1 p c1 w hN (by omega) (by omega) hb1 hr1
 have hstart : ∀ (W : World) g g2, ABlk W g N → ABlk W g2 (List.replicate k 0) → Below w.heap.size w W → OvI w W g g2 p k k n d (N.take k) (N.drop k) [] := fun W g g2 h1 h2 hB => by
  have hX : (N.drop k).length = m := by rw [List.length_drop]; omega
  have dX : Dig (N.drop k) := fun y hy => dN y (List.mem_of_mem_drop hy)
  have := vl_lt dX
  rw [hX] at this
  exact ⟨by rw [List.length_take]; omega, by omega, fun y hy => dN y (List.mem_of_mem_take hy), dX, by omega, by rw [List.take_append_drop]; exact h1, by simp, dig_nil, by simpa using h2, by rw [List.take_append_drop, vN]; simp [vl], hB⟩
 have HST := Lib.hid hstart
 have HDD := Lib.hid dD
 have HD := Lib.hid hD
 have HVD := Lib.hid vD
 have HR2 := Lib.hid hr2
 have HLast := Lib.hid hlast
 have HDlt := Lib.hid hdlt
 have HDi := Lib.hid hdI
 have hb48 : i0.bytes * k ≤ 281474976710656 := by rw [hz2]; omega
 have HBY := Lib.hid hb48
 have hmx : k ≤ maxLen := by unfold maxLen; omega
 have hZ : ∀ w' : World, ∀ base g, w'.ownsRow base 3 1 (.slice (some ⟨g, 0, none⟩) k k) k (madeCells (Value.int .i64 0).cells (k * 1)).toList → ABlk w' g (List.replicate k 0) := fun w' base g h => by
  rw [made_zeros] at h
  exact (own_blk h).1
 have HZ := Lib.hid hZ
 clear hstart dD hD vD hr2 hlast hdlt hdI hz2 hb48 hZ hr1 dN vN hN hN' hD' hdge hk hd
 go_enter Tryz.func151, Tryz.ntmps151
 go_wp2_with (first | (go_at_call 173; (with_reducible refine cC.mono ?_); rintro e w1 ⟨g, cap, rfl, hg, hgc, hcap, hA, hB⟩; have HA := Lib.hid hA; clear hA) | (refine wpList_make_full _ rfl (.tmp 18) (.tmp 18) 112 rfl w.heap.size 3 i0 (.int .i64 0) 1 Tryz.underlying112 hi hz0 hz1 .i64 .i64 _ _ k rfl rfl (by omega) (by omega) HBY.out hmx hB.size ?_; intro w2 hown2 hgrow2; have HA1 := Lib.hid (HA.out.grown hgrow2 (by simp)); have HA2 := Lib.hid (HZ.out _ _ _ hown2); have hB2 := hB.grown hgrow2 hB.size (fun k e => by cases e); have hne : g < w1.heap.size := HA.out.lt; clear hown2 hgrow2))
 have HS := Lib.hid (HST.out w2 g w1.heap.size HA1.out HA2.out hB2)
 have hgne : g ≠ w1.heap.size := by omega
 have hgb := hB.size
 obtain ⟨g2, hg2⟩ : ∃ x, w1.heap.size = x := ⟨_, rfl⟩
 rw [hg2] at HS hgne hne hgb ⊢
 clear HST HA HA1 HA2 cC hg2 HZ hB HBY
 go_loopw [8] (fun i wr => ∃ j : Nat, j ≤ k ∧ i = .int .i64 ((j : Int) - 1) ∧ Hid (∃ P X Q, OvI w wr g g2 p k j n d P X Q)) (fun i _ => (intOf i + 1).toNat)
 case atStart => exact ⟨k, Nat.le_refl _, rfl, Lib.hid ⟨_, _, _, HS.out⟩⟩
 case round =>
  clear HS hB2
  obtain ⟨j, hj, rfl, hI⟩ := hrel
  cases j with
  | zero =>
   obtain ⟨P, X, Q, h⟩ := hI.out
   have hP0 : P = [] := List.length_eq_zero_iff.1 h.hP
   subst hP0
   have hXl : X.length = p := by have := h.hX; omega
   have hQl : Q.length = k := by have := h.hQ; omega
   have hX0 := vl_nonneg h.dX
   have hQ0 := vl_nonneg h.dQ
   have hd0 := HDi.out
   have heq : (n : Int) = vl X + d * vl Q := by have := h.eq; simpa using this
   have hvQ : vl Q = ((n / d : Nat) : Int) := by
    have h1 : (n : Int) / d = vl Q := by
     rw [heq, Int.add_mul_ediv_left _ _ (by omega), Int.ediv_eq_zero_of_lt hX0 h.lt, Int.zero_add]
    rw [← h1]; rfl
   have hvX : vl X = ((n % d : Nat) : Int) := by
    have h1 : (n : Int) % d = vl X := by
     rw [heq, Int.add_mul_emod_self_left, Int.emod_eq_of_lt hX0 h.lt]
    rw [← h1]; rfl
   have hA := h.hA
   have hA2 := h.hA2
   have hB := h.hB
   rw [List.nil_append] at hA
   rw [List.replicate_zero, List.nil_append] at hA2
   have cQ : ∀ W q, W = wr.drewN q → Calls Tryz.prog 176 #[.slice (some ⟨g2, 0, none⟩) k k] W fun e w' => ∃ v, e = .returned v ∧ Hid (∀ q, NSl (wr.drewN q) v (n / d)) ∧ ∃ q, w' = wr.drewN q := fun W q hW => by
    subst hW
    exact (trimmed_some Q g2 0 k k _ hQl (Nat.le_refl _) (by omega) (ABlk.row (P := []) (S := []) (by simpa using (show ABlk (wr.drewN q) g2 Q from hA2)))).mono fun e w' ⟨he, q', hq'⟩ => ⟨_, he, Lib.hid fun q => NSl.of_blk (S := []) (by simpa using (show ABlk (wr.drewN q) g2 Q from hA2)) hQl h.dQ hvQ (Nat.le_refl _) (by omega), q + q', by rw [hq', World.drewN_drewN]⟩
   have cX : ∀ W q, W = wr.drewN q → Calls Tryz.prog 176 #[.slice (some ⟨g, 0, none⟩) p cap] W fun e w' => ∃ v, e = .returned v ∧ Hid (∀ q, NSl (wr.drewN q) v (n % d)) ∧ ∃ q, w' = wr.drewN q := fun W q hW => by
    subst hW
    exact (trimmed_some X g 0 p cap _ hXl hgc hcap (ABlk.row (P := []) (S := []) (by simpa using (show ABlk (wr.drewN q) g X from hA)))).mono fun e w' ⟨he, q', hq'⟩ => ⟨_, he, Lib.hid fun q => NSl.of_blk (S := []) (by simpa using (show ABlk (wr.drewN q) g X from hA)) hXl h.dX hvX hgc hcap, q + q', by rw [hq', World.drewN_drewN]⟩
   have hBN : ∀ q, Below w.heap.size w (wr.drewN q) := fun q => below_drewN hB q
   have HBN := Lib.hid hBN
   have cQ0 := cQ wr 0 rfl
   clear h heq hvQ hvX hA hA2 hB hX0 hQ0 hd0 hXl hQl cQ hI hBN
   simp only [Int.natCast_zero, Int.zero_sub]
   go_wp2_with (first | (go_at_call 176; (with_reducible refine cQ0.mono ?_); rintro e w3 ⟨v1, rfl, hv1, q1, rfl⟩) | (go_at_call 176; (with_reducible refine (cX _ q1 rfl).mono ?_); rintro e w3 ⟨v2, rfl, hv2, q2, rfl⟩))
   go_ret2
   exact ⟨_, _, rfl, hv1.out _, hv2.out _, HBN.out _⟩
  | succ j =>
   have hj1 : ((j + 1 : Nat) : Int) - 1 = (j : Int) := by omega
   rw [hj1]
   obtain ⟨P1, X, Q, h⟩ := hI.out
   obtain ⟨P, x, rfl⟩ : ∃ P x, P1 = P ++ [x] := by
    rcases List.eq_nil_or_concat P1 with h0 | ⟨P, x, h0⟩
    ·
     have := h.hP; rw [h0] at this; simp at this
    ·
     exact ⟨P, x, by rw [h0, List.concat_eq_append]⟩
   have hPl : P.length = j := by have := h.hP; simp at this; omega
   have hXl := h.hX
   have hQl := h.hQ
   have dx : Dig (x :: X) := fun y hy => by
    rcases List.mem_cons.1 hy with rfl | hy
    ·
     exact h.dP y (by simp)
    ·
     exact h.dX y hy
   obtain ⟨e, he, hez⟩ : ∃ e, m + 1 ≤ e ∧ e ≤ m + 2 ∧ e ≤ p - j ∧ min ((j : Int) + (m + 1) + 1) p = (j : Int) + e ∧ (e = m + 2 ∨ e = p - j) := by
    by_cases h1 : j + m + 2 ≤ p
    ·
     exact ⟨m + 2, by omega, by omega, by omega, by omega, .inl rfl⟩
    ·
     exact ⟨p - j, by omega, by omega, by omega, by omega, .inr rfl⟩
   obtain ⟨he2, hep, hemin, hecase⟩ := hez
   have hTl : (x :: X).length = p - j := by rw [List.length_cons]; omega
   have hX0 := vl_nonneg h.dX
   have hd0 := HDi.out
   have hDlt := HDlt.out
   have hTv : vl (x :: X) < 10000 * d := by
    have := h.lt
    have := dx.head
    rw [vl]; omega
   have hz : vl ((x :: X).drop e) = 0 := by
    rcases hecase with h1 | h1
    ·
     refine vl_zero_high dx ?_
     rw [h1, show m + 2 = (m + 1) + 1 from rfl, Int.pow_succ]
     omega
    ·
     rw [List.drop_eq_nil_of_le (by omega)]; rfl
   have hsplit : vl (x :: X) = vl ((x :: X).take e) := by
    conv => lhs; rw [← List.take_append_drop e (x :: X)]
    rw [vl_append, hz, Int.mul_zero, Int.add_zero]
   have dL : Dig ((x :: X).take e) := fun y hy => dx y (List.mem_of_mem_take hy)
   have hLl : ((x :: X).take e).length = e := by rw [List.length_take]; omega
   have hLv : vl ((x :: X).take e) < 10000 * d := by rw [← hsplit]; exact hTv
   have hL0 := vl_nonneg dL
   have hA := h.hA
   rw [show P ++ [x] ++ X = P ++ (x :: X).take e ++ (x :: X).drop e by rw [List.append_assoc, List.append_assoc, List.take_append_drop]; rfl] at hA
   have hA2 := h.hA2
   rw [show List.replicate (j + 1) (0 : Int) ++ Q = List.replicate j 0 ++ 0 :: Q by rw [List.replicate_succ', List.append_assoc]; rfl] at hA2
   have hrowL : IRow wr g j ((x :: X).take e) := by have := hA.row; rwa [hPl] at this
   have hB := h.hB
   have hgl := hA.lt
   have hq0 : 0 ≤ vl ((x :: X).take e) / (d : Int) := Int.ediv_nonneg hL0 (by omega)
   have hq1 : vl ((x :: X).take e) / (d : Int) < 10000 := by rw [Int.ediv_lt_iff_lt_mul hd0]; omega
   have cG := group_any ((x :: X).take e) D g j e (cap - j) b2 o2 m c2 wr hLl HD.out (by omega) he (by omega) (by omega) (by omega) dL HDD.out HLast.out (by rw [HVD.out]; exact hLv) hrowL (HR2.out.below hB hb2) hgl (Nat.lt_of_lt_of_le hb2 hB.size)
   rw [HVD.out] at cG
   obtain ⟨q, hq⟩ : ∃ q, vl ((x :: X).take e) / (d : Int) = q := ⟨_, rfl⟩
   have hfin : ∀ W', ABlk W' g (P ++ carr 0 (subk ((x :: X).take e) D q) ++ (x :: X).drop e) → ABlk W' g2 (List.replicate j 0 ++ q :: Q) → Below w.heap.size w W' → ∃ P X Q, OvI w W' g g2 p k j n d P X Q := fun W' x1 x2 x3 => by
    rw [← hq] at x1 x2
    exact ⟨_, _, _, h.step HVD.out hd0 (by rw [HD.out]; omega) hep hz x1 x2 hq1 x3⟩
   rw [hq] at cG hq0 hq1
   have hlj : (List.replicate j (0 : Int)).length = j := List.length_replicate ..
   have cT : ∀ W2, Below wr.heap.size wr W2 → Calls Tryz.prog 175 #[.slice (some ⟨g, j, none⟩) e (cap - j), .slice (some ⟨b2, o2, none⟩) (m + 1) c2, .int .i64 q] (W2.setCell ⟨g2, j, none⟩ (.int .i64 q)) fun e w' => (∃ v, e = .returned v) ∧ Hid (∃ P X Q, OvI w w' g g2 p k j n d P X Q) := fun W2 hB2 => by
    have a1 := (hA.below hB2 hgl).grown (setCell_grown W2 g2 j (.int .i64 q)) (by simpa using hgne)
    have a2 := (hA2.below hB2 hA2.lt).set j q
    rw [set_at hlj] at a2
    have hBw := hB.trans (hB2.mono hB.size)
    have hBs : Below w.heap.size w (W2.setCell ⟨g2, j, none⟩ (.int .i64 q)) := hBw.setCell (p := ⟨g2, j, none⟩) (by show w.heap.size ≤ g2; omega) _
    refine (take_any P ((x :: X).take e) ((x :: X).drop e) D g j e (cap - j) b2 o2 (m + 1) c2 q _ hPl hLl a1 (fun y hy => by have := dL y hy; omega) (by omega) (by omega) HD.out HDD.out (HR2.out.below hBs hb2) (Nat.lt_of_lt_of_le hb2 hBs.size) (by omega) (by omega) (by omega) (by omega)).mono fun e w' ⟨x1, x2, x3, x4⟩ => ⟨x1, Lib.hid (hfin w' x2 (a2.grown x3 (by simpa using hgne.symm)) (below_own hBs x3 (Nat.le_refl _) hg))⟩
   have hc0 : ∀ W2, Below wr.heap.size wr W2 → W2.cell? ⟨g2, j, none⟩ = some (.int .i64 0) ∧ W2.frozen? ⟨g2, j, none⟩ = false := fun W2 hB2 => by
    have a2 := hA2.below hB2 hA2.lt
    exact ⟨a2.cell (by have := mid_get (List.replicate j (0 : Int)) 0 Q; rwa [hlj] at this), a2.free _⟩
   have s1 : (0 : Int) ≤ (j : Int) := by omega
   have s2 : (j : Int) ≤ (j : Int) + (e : Int) := by omega
   have s3 : (j : Int) + (e : Int) ≤ (cap : Int) := by omega
   have s4 : ¬ cap = j := by omega
   have s5 : (j : Int) < (k : Int) := by omega
   have s6 : (j : Int) < (cap : Int) := by omega
   have hecase2 : e ≤ p - j ∧ (j + m + 2 ≤ p → e = m + 2) ∧ (p < j + m + 2 → e = p - j) := by omega
   clear hz hsplit dL hLl hLv hL0 hA hA2 hrowL hB hgl hq hfin hlj hTl hX0 hd0 hDlt hTv hPl hXl hQl dx h hI hecase hj1
   have hk2 : k + m ≤ p := by omega
   have hk3 : p ≤ k + m := by omega
   have HC0 := Lib.hid hc0
   clear hkp hc0 hemin
   rcases Nat.lt_trichotomy (j + m + 2) p with h1 | h1 | h1
   ·
    have hE1 : ((j : Int) + ((m : Int) + 1) + 1).toNat - j = e := by omega
    clear hecase2
    go_wp2_with (first | (go_at_call 174; (with_reducible refine cG.mono ?_); rintro e3 w3 ⟨rfl, hB3⟩; obtain ⟨c0, c1'⟩ := HC0.out _ hB3; have cT2 := cT _ hB3; clear HC0 cT cG) | (go_at_call 175; (with_reducible refine cT2.mono ?_); rintro e4 w4 ⟨⟨v, rfl⟩, hI⟩))
    all_goals
     go_roundw
     case rel => exact ⟨j, by omega, rfl, by assumption⟩
     case measure => simp [intOf]
   ·
    have hE1 : ((j : Int) + ((m : Int) + 1) + 1).toNat - j = e := by omega
    have hE2 : p - j = e := by omega
    have h2 : p ≤ j + m + 2 := by omega
    have h3 : j + m + 2 ≤ p := by omega
    clear h1 hecase2
    go_wp2_with (first | (go_at_call 174; (with_reducible refine cG.mono ?_); rintro e3 w3 ⟨rfl, hB3⟩; obtain ⟨c0, c1'⟩ := HC0.out _ hB3; have cT2 := cT _ hB3; clear HC0 cT cG) | (go_at_call 175; (with_reducible refine cT2.mono ?_); rintro e4 w4 ⟨⟨v, rfl⟩, hI⟩))
    all_goals
     go_roundw
     case rel => exact ⟨j, by omega, rfl, by assumption⟩
     case measure => simp [intOf]
   ·
    have hE2 : p - j = e := by omega
    clear hecase2
    go_wp2_with (first | (go_at_call 174; (with_reducible refine cG.mono ?_); rintro e3 w3 ⟨rfl, hB3⟩; obtain ⟨c0, c1'⟩ := HC0.out _ hB3; have cT2 := cT _ hB3; clear HC0 cT cG) | (go_at_call 175; (with_reducible refine cT2.mono ?_); rintro e4 w4 ⟨⟨v, rfl⟩, hI⟩))
    all_goals
     go_roundw
     case rel => exact ⟨j, by omega, rfl, by assumption⟩
     case measure => simp [intOf]
set_option maxRecDepth 100000 in
set_option maxHeartbeats 1000000 in
theorem over_small (n d : Nat) (a1 : Option Addr) (p c1 : Nat) (a2 : Option Addr) (s c2 : Nat) (w : World) (hN : (grp n).length = p) (hD : (grp d).length = s) (hp9 : p ≤ 80000) (hps : p < s) (hs9 : s ≤ 90000) (h1 : NSl w (.slice a1 p c1) n) :
  Calls Tryz.prog 151 #[.slice a1 p c1, .slice a2 s c2] w fun e w' => ∃ v1 v2, e = .returned (.tuple #[v1, v2]) ∧ NSl w' v1 (n / d) ∧ NSl w' v2 (n % d) ∧ Below w.heap.size w w' := by
 have hnd : n < d := grp_len_lt (by rw [hN, hD]; exact hps)
 rw [Nat.div_eq_of_lt hnd, Nat.mod_eq_of_lt hnd]
 obtain ⟨i0, hi, hz0, hz1, hz2⟩ := info_parts info_int
 have hb48 : i0.bytes * 0 ≤ 281474976710656 := by omega
 have hmx : 0 ≤ maxLen := Nat.zero_le _
 -- the clone, and its trimming
 have cC : Calls Tryz.prog 173 #[.slice a1 p c1] w fun e w' => ∃ a cap, e = .returned (.slice a p cap) ∧ Below w.heap.size w w' ∧ Hid (∀ W2, Below w'.heap.size w' W2 → Calls Tryz.prog 176 #[.slice a p cap] W2 fun e w3 => ∃ v, e = .returned v ∧ NSl w3 v n ∧ Below W2.heap.size W2 w3) := by
  rcases h1.cases with ⟨a, c, e1, e2⟩ | ⟨b, o, k, c, e1, e2, e3, e4, e5, e6, e7⟩
  ·
   simp only [Value.slice.injEq] at e1
   obtain ⟨rfl, rfl, rfl⟩ := e1
   have hn0 : n = 0 := grp_nil.1 e2
   subst hn0
   refine (clone_zero a1 c1 w).mono fun e w' ⟨⟨a', c', he⟩, hB⟩ => ⟨a', c', he, hB, Lib.hid fun W2 hW => (trimmed_zero a' c' W2).mono fun e w3 ⟨h, h'⟩ => ⟨_, h, .inl ⟨_, _, rfl, grp_zero⟩, h' ▸ Below.refl _ _⟩⟩
  ·
   simp only [Value.slice.injEq] at e1
   obtain ⟨rfl, rfl, rfl⟩ := e1
   refine (clone_some (grp n) b o p c1 w hN e3 (by omega) e6 e7).mono fun e w' ⟨g, cap, he, g1, g2, g3, hA, hB⟩ => ⟨_, cap, he, hB, Lib.hid fun W2 hW => ?_⟩
   have hA2 : ABlk W2 g (grp n ++ []) := by rw [List.append_nil]; exact hA.below hW hA.lt
   exact (trimmed_some (grp n) g 0 p cap W2 hN g2 g3 (ABlk.row (P := []) hA2)).mono fun e w3 ⟨h, q, hq⟩ => ⟨_, h, by rw [hq]; exact NSl.of_blk (S := []) hA2 hN (grp_dig n) (vl_grp n) g2 g3, by rw [hq]; exact ⟨rfl, rfl, rfl, Nat.le_refl _, fun _ _ => rfl⟩⟩
 have cZ := trimmed_zero
 clear h1 hN hD hz2 hnd
 go_enter Tryz.func151, Tryz.ntmps151
 go_wp2_with (first | (go_at_call 173; (with_reducible refine cC.mono ?_); rintro e w1 ⟨a, cap, rfl, hB, hT⟩) | (refine wpList_make_full _ rfl (.tmp 18) (.tmp 18) 112 rfl w.heap.size 3 i0 (.int .i64 0) 1 Tryz.underlying112 hi hz0 hz1 .i64 .i64 _ _ 0 rfl rfl (by omega) (by omega) hb48 hmx hB.size ?_; intro w2 hown2 hgrow2; have hB2 := hB.grown hgrow2 hB.size (fun k e => by cases e); have hB3 := (Below.refl w1.heap.size w1).grown hgrow2 (Nat.le_refl _) (fun k e => by cases e); clear hown2 hgrow2))
 all_goals
  obtain ⟨g2, hg2⟩ : ∃ x, w1.heap.size = x := ⟨_, rfl⟩
  have hT2 := hT.out w2 hB3
  rw [hg2]
  have HT := Lib.hid hT2
  clear hg2 hT hB hT2 cC
  go_loopw [8] (fun i wr => i = .int .i64 (-1) ∧ Hid (wr = w2)) (fun _ _ => 0)
  case atStart => exact ⟨rfl, Lib.hid rfl⟩
  case round =>
   obtain ⟨rfl, hw⟩ := hrel
   obtain rfl : wr = w2 := hw.out
   have cT := HT.out
   clear hw
   go_wp2_with (first | (go_at_call 176; (with_reducible refine (cZ (some ⟨g2, 0, none⟩) 0 _).mono ?_); rintro e w3 ⟨rfl, rfl⟩) | (go_at_call 176; (with_reducible refine cT.mono ?_); rintro e w3 ⟨v2, rfl, hv2, hB4⟩))
   go_ret2
   exact ⟨_, _, rfl, .inl ⟨_, _, rfl, grp_zero⟩, hv2, hB2.trans (hB4.mono hB2.size)⟩
theorem over_any (n d : Nat) (v1 v2 : Value) (w : World) (hd : 0 < d) (hl1 : (grp n).length ≤ 80000) (hl2 : (grp d).length ≤ 80000) (h1 : NSl w v1 n) (h2 : NSl w v2 d) :
  Calls Tryz.prog 151 #[v1, v2] w fun e w' => ∃ u1 u2, e = .returned (.tuple #[u1, u2]) ∧ NSl w' u1 (n / d) ∧ NSl w' u2 (n % d) ∧ Below w.heap.size w w' := by
 have f1 : ∃ a c, v1 = .slice a (grp n).length c := by
  rcases h1 with ⟨a, c, rfl, e⟩ | ⟨b, o, c, rfl, _⟩
  ·
   rw [e]; exact ⟨a, c, rfl⟩
  ·
   exact ⟨_, c, rfl⟩
 have hdl : 0 < (grp d).length := List.length_pos_iff.2 fun e => by have := grp_nil.1 e; omega
 rcases h2.cases with ⟨a, c, _, e⟩ | ⟨b2, o2, s, c2, rfl, e1, e2, e3, e4, e5, e6⟩
 ·
  rw [e] at hdl; exact absurd hdl (by simp)
 ·
  rcases Nat.lt_or_ge (grp n).length s with h | h
  ·
   obtain ⟨a1, c1, rfl⟩ := f1
   exact over_small n d a1 _ c1 _ s c2 w rfl e1 hl1 h (by omega) h1
  ·
   rcases h1.cases with ⟨a, c, rfl, e⟩ | ⟨b1, o1, p, c1, rfl, g1, g2, g3, g4, g5, g6⟩
   ·
    rw [e] at h; simp at h; omega
   ·
    obtain ⟨m, rfl⟩ : ∃ m, s = m + 1 := ⟨s - 1, by omega⟩
    exact over_some n d b1 o1 p c1 b2 o2 m c2 w hd g1 e1 (by omega) (by omega) e3 g6 e6 g5 e5
theorem NSl.below {w w' : World} {v : Value} {n : Nat} (h : NSl w v n) (hb : Below w.heap.size w w') : NSl w' v n := ISl.below h hb
theorem NSl.form {w : World} {v : Value} {n : Nat} (h : NSl w v n) : ∃ a c, v = .slice a (grp n).length c := by
 rcases h with ⟨a, c, rfl, e⟩ | ⟨b, o, c, rfl, _⟩
 ·
  rw [e]; exact ⟨a, c, rfl⟩
 ·
  exact ⟨_, c, rfl⟩
theorem IRow.inj {w : World} {b o : Nat} {l m : List Int} (h1 : IRow w b o l) (h2 : IRow w b o m) (h : l.length = m.length) : l = m := by
 refine List.ext_getElem h fun j hj hj2 => ?_
 have e1 := h1 j _ (List.getElem?_eq_getElem hj)
 have e2 := h2 j _ (List.getElem?_eq_getElem hj2)
 rw [e1] at e2
 simpa using e2
theorem ISl.inj {w : World} {v : Value} {l m : List Int} (h1 : ISl w v l) (h2 : ISl w v m) : l = m := by
 rcases h1 with ⟨a, c, rfl, rfl⟩ | ⟨b, o, c, rfl, _, _, _, g1⟩
 ·
  rcases h2 with ⟨a', c', _, rfl⟩ | ⟨b', o', c', e, _⟩
  ·
   rfl
  ·
   simp only [Value.slice.injEq] at e
   exact (List.length_eq_zero_iff.1 e.2.1.symm).symm
 ·
  rcases h2 with ⟨a', c', e, rfl⟩ | ⟨b', o', c', e, _, _, _, g2⟩
  ·
   simp only [Value.slice.injEq] at e
   exact List.length_eq_zero_iff.1 e.2.1
  ·
   simp only [Value.slice.injEq, Option.some.injEq, Addr.mk.injEq] at e
   obtain ⟨⟨rfl, rfl, _⟩, e2, _⟩ := e
   exact g1.inj g2 e2
noncomputable def nvOf (w : World) (v : Value) : Nat := open Classical in if h : ∃ n, NSl w v n then h.choose else 0
theorem nvOf_eq {w : World} {v : Value} {n : Nat} (h : NSl w v n) : nvOf w v = n := by
 have hx : ∃ n, NSl w v n := ⟨n, h⟩
 rw [nvOf, dif_pos hx]
 exact grp_inj (ISl.inj hx.choose_spec h)
set_option maxRecDepth 100000 in
set_option maxHeartbeats 1000000 in
theorem gcd_any (n m : Nat) (v1 v2 : Value) (w : World) (hl1 : (grp n).length ≤ 80000) (hl2 : (grp m).length ≤ 80000) (h1 : NSl w v1 n) (h2 : NSl w v2 m) :
  Calls Tryz.prog 164 #[v1, v2] w fun e w' => ∃ v, e = .returned v ∧ NSl w' v (Nat.gcd n m) ∧ Below w.heap.size w w' := by
 have H1 := Lib.hid h1
 have H2 := Lib.hid h2
 have HL1 := Lib.hid hl1
 have HL2 := Lib.hid hl2
 clear h1 h2 hl1 hl2
 go_enter Tryz.func164, Tryz.ntmps164
 go_wp2
 go_loopw [0, 1] (fun u1 u2 wr => ∃ (x y : Nat) (a : Option Addr) (c : Nat), u2 = .slice a (grp y).length c ∧ Hid (NSl wr u1 x) ∧ Hid (NSl wr u2 y) ∧ Hid ((grp x).length ≤ 80000 ∧ (grp y).length ≤ 80000 ∧ Nat.gcd x y = Nat.gcd n m) ∧ Below w.heap.size w wr) (fun _ u2 wr => nvOf wr u2)
 case atStart =>
  obtain ⟨a, c, e⟩ := H2.out.form
  exact ⟨n, m, a, c, e, H1, H2, Lib.hid ⟨HL1.out, HL2.out, rfl⟩, Below.refl _ _⟩
 case round =>
  obtain ⟨x, y, a, c, rfl, hx, hy, hg, hB⟩ := hrel
  obtain ⟨k, hk⟩ : ∃ k, (grp y).length = k := ⟨_, rfl⟩
  obtain ⟨g1, g2, g3⟩ := hg.out
  by_cases h0 : k = 0
  ·
   have hy0 : y = 0 := grp_nil.1 (List.length_eq_zero_iff.1 (hk.trans h0))
   have HX := Lib.hid (show NSl wr u0 (Nat.gcd n m) by rw [← g3, hy0, Nat.gcd_zero_right]; exact hx.out)
   rw [hk]
   subst h0
   clear hk hy0 g1 g2 g3
   go_wp2
   go_ret
   exact ⟨_, rfl, HX.out, hB⟩
  ·
   have hyp : 0 < y := by
    rcases Nat.eq_zero_or_pos y with h | h
    ·
     rw [h, grp_zero] at hk; simp at hk; omega
    ·
     exact h
   have cO := over_any x y u0 (.slice a (grp y).length c) wr hyp g1 g2 hx.out hy.out
   have HS : ∀ (w' : World) (v : Value), NSl w' v (x % y) → ∃ a c, v = .slice a (grp (x % y)).length c := fun w' v h => h.form
   have hlt : (grp (x % y)).length ≤ k := by rw [← hk]; exact grp_mono (Nat.le_of_lt (Nat.mod_lt _ hyp))
   have HG := Lib.hid (show (grp y).length ≤ 80000 ∧ (grp (x % y)).length ≤ 80000 ∧ Nat.gcd y (x % y) = Nat.gcd n m from ⟨g2, by omega, by rw [← g3, Nat.gcd_comm x y, Nat.gcd_rec y x, Nat.gcd_comm]⟩)
   have HM := fun (w' : World) (v : Value) (h : NSl w' v (x % y)) => show nvOf w' v < nvOf wr (.slice a (grp y).length c) by
    rw [nvOf_eq h, nvOf_eq hy.out]; exact Nat.mod_lt _ hyp
   have HHM := Lib.hid HM
   have HHS := Lib.hid HS
   rw [hk] at cO HM hy HHM ⊢
   clear hlt g1 g2 g3 hg hyp HS HM hx
   go_wp2_with (go_at_call 151; (with_reducible refine cO.mono ?_); rintro e w' ⟨v1, v2, rfl, k1, k2, hB2⟩; obtain ⟨a2, c2, e2⟩ := HHS.out _ _ k2; have Q2 := Lib.hid k2; have Q3 := Lib.hid (hy.out.below hB2); have Q4 := Lib.hid (hB.trans (hB2.mono hB.size)); have Q5 := Lib.hid (HHM.out _ _ k2); clear k1 k2 cO hB2 hB hy HHM)
   go_roundw
   case rel => exact ⟨y, x % y, a2, c2, rfl, Q3, e2 ▸ Q2, HG, Q4.out⟩
   case measure => exact e2 ▸ Q5.out
def Two (G B : Nat) (w w' : World) : Prop := w'.os = w.os ∧ w'.tape = w.tape ∧ w'.output = w.output ∧ w.heap.size ≤ w'.heap.size ∧ ∀ k, k ≠ G → k ≠ B → w'.heap[k]? = w.heap[k]?
theorem Two.refl (G B : Nat) (w : World) : Two G B w w := ⟨rfl, rfl, rfl, Nat.le_refl _, fun _ _ _ => rfl⟩
theorem Two.trans {G B : Nat} {a b c : World} (h : Two G B a b) (k : Two G B b c) : Two G B a c :=
 ⟨k.1.trans h.1, k.2.1.trans h.2.1, k.2.2.1.trans h.2.2.1, Nat.le_trans h.2.2.2.1 k.2.2.2.1, fun i h1 h2 => (k.2.2.2.2 i h1 h2).trans (h.2.2.2.2 i h1 h2)⟩
theorem Two.setL {G B : Nat} {a w : World} (h : Two G B a w) (j : Nat) (v : Value) : Two G B a (w.setCell ⟨G, j, none⟩ v) :=
 h.trans ⟨rfl, rfl, rfl, by simp [World.setCell], fun k h1 _ => Below.heap_setCell _ _ _ _ h1⟩
theorem Two.setR {G B : Nat} {a w : World} (h : Two G B a w) (j : Nat) (v : Value) : Two G B a (w.setCell ⟨B, j, none⟩ v) :=
 h.trans ⟨rfl, rfl, rfl, by simp [World.setCell], fun k _ h2 => Below.heap_setCell _ _ _ _ h2⟩
theorem Two.drewN {G B : Nat} {a w : World} (h : Two G B a w) (q : Nat) : Two G B a (w.drewN q) := h.trans ⟨rfl, rfl, rfl, Nat.le_refl _, fun _ _ _ => rfl⟩
theorem Two.below {G B n : Nat} {a w : World} (h : Two G B a w) (h1 : n ≤ G) (h2 : n ≤ B) : Below n a w := ⟨h.1, h.2.1, h.2.2.1, h.2.2.2.1, fun k hk => h.2.2.2.2 k (by omega) (by omega)⟩
theorem ABlk.other {w : World} {g b j : Nat} {L : List Int} {v : Value} (h : ABlk w b L) (hne : b ≠ g) : ABlk (w.setCell ⟨g, j, none⟩ v) b L := by
 obtain ⟨T, e⟩ := h; exact ⟨T, (Below.heap_setCell _ _ _ _ hne).trans e⟩
theorem Two.row {G B b o : Nat} {L : List Int} {a w : World} (h : Two G B a w) (h1 : b ≠ G) (h2 : b ≠ B) (hA : IRow a b o L) : IRow w b o L := fun j x hj => by
 have := hA j x hj
 rw [World.cell?] at this ⊢
 rw [h.2.2.2.2 b h1 h2]
 exact this
def addAt (L : List Int) (p : Nat) (x : Int) (D : List Int) : List Int := L.take p ++ subk (L.drop p) D (-x)
set_option maxRecDepth 100000 in
set_option maxHeartbeats 1000000 in
theorem times_step (L D : List Int) (x : Int) (G h c p M B q c2 : Nat) (a2 : Option Addr) (w : World) (hA : ABlk w G L) (hh : L.length = h) (hD : D.length = q) (hpq : p + q ≤ h) (h9 : h ≤ 100000)
  (hM : w.cell? ⟨M, 0, none⟩ = some (.slice a2 q c2)) (hB : ABlk w B [(p : Int)]) (hGB : G ≠ B)
  (hrow : ∀ j, j < q → ∃ b2 o2, a2 = some ⟨b2, o2, none⟩ ∧ b2 ≠ G ∧ b2 ≠ B ∧ q ≤ c2 ∧ IRow w b2 o2 D) (hd : Dig D) (hx : 0 ≤ x ∧ x < 10000) (hb : ∀ y ∈ L, 0 ≤ y ∧ y ≤ 1000000000000) :
  Calls Tryz.prog 210 #[.slice (some ⟨G, 0, none⟩) h c, .int .i64 x, .pointer (some ⟨M, 0, none⟩), .pointer (some ⟨B, 0, none⟩)] w fun e w' => e = .returned (.slice (some ⟨G, 0, none⟩) h c) ∧ ABlk w' G (addAt L p x D) ∧ ABlk w' B [(p : Int) + 1] ∧ Two G B w w' := by
 have HA := Lib.hid hA
 have HH := Lib.hid hh
 have HD := Lib.hid hD
 have HR := Lib.hid hrow
 have HDD := Lib.hid hd
 have HB := Lib.hid hB
 have HX := Lib.hid hx
 have HLB := Lib.hid hb
 clear hA hh hD hrow hd hB hx hb
 go_enter Tryz.func210, Tryz.ntmps210
 go_wp2
 go_loopw [11] (fun i wr => ∃ (j : Nat), j ≤ q ∧ i = .int .i64 (j : Int) ∧ Hid (ABlk wr G (addAt L p x (D.take j))) ∧ Hid (ABlk wr B [(p : Int)]) ∧ Hid (Two G B w wr)) (fun i _ => q - (intOf i).toNat)
 case atStart => exact ⟨0, by omega, rfl, Lib.hid (by rw [List.take_zero, addAt, subk_nil, List.take_append_drop]; exact HA.out), HB, Lib.hid (Two.refl _ _ _)⟩
 case round =>
  obtain ⟨j, hj, rfl, hA, hB, hT⟩ := hrel
  by_cases h1 : j < q
  ·
   have j1 : j < D.length := by rw [HD.out]; exact h1
   obtain ⟨b2, o2, rfl, hb1, hb2, hqc, hDr⟩ := HR.out j h1
   have hd : wr.cell? ⟨b2, o2 + j, none⟩ = some (.int .i64 D[j]) := (hT.out.row hb1 hb2 hDr) j _ (List.getElem?_eq_getElem j1)
   have hdb := HDD.out _ (List.getElem_mem j1)
   have hcp : wr.cell? ⟨B, 0, none⟩ = some (.int .i64 (p : Int)) := hB.out.cell (j := 0) rfl
   have htk : D.take (j + 1) = D.take j ++ [D[j]] := List.take_succ_eq_append_getElem j1
   have hlj : (D.take j).length = j := by rw [List.length_take, HD.out]; omega
   have hRl : (L.drop p).length = h - p := by rw [List.length_drop, HH.out]
   have hAl : (L.take p).length = p := by rw [List.length_take, HH.out]; omega
   obtain ⟨s1, s2⟩ := subk_snoc (D.take j) D[j] (-x) (L.drop p) (by rw [hlj, hRl]; omega)
   rw [hlj] at s1 s2
   have hjl : p + j < L.length := by rw [HH.out]; omega
   have s3 : (L.drop p).getD j 0 = L[p + j] := by rw [List.getD_eq_getElem?_getD, List.getElem?_drop, List.getElem?_eq_getElem hjl]; rfl
   rw [s2, s3] at s1
   have hlb := HLB.out _ (List.getElem_mem hjl)
   have hsl : j < (subk (L.drop p) (D.take j) (-x)).length := by rw [subk_len, hRl]; omega
   have s4 : (addAt L p x (D.take j))[p + j]? = some L[p + j] := by
    rw [addAt, List.getElem?_append_right (by omega), hAl, Nat.add_sub_cancel_left, List.getElem?_eq_getElem hsl]
    rw [List.getD_eq_getElem?_getD, List.getElem?_eq_getElem hsl] at s2
    rw [← s3, ← s2]; rfl
   have s5 : (addAt L p x (D.take j)).set (p + j) (L[p + j] + x * D[j]) = addAt L p x (D.take (j + 1)) := by
    rw [htk, addAt, addAt, s1, List.set_append_right _ _ (by omega), hAl, Nat.add_sub_cancel_left, show L[p + j] - -x * D[j] = L[p + j] + x * D[j] by rw [Int.neg_mul]; omega]
   have hcell : wr.cell? ⟨G, p + j, none⟩ = some (.int .i64 L[p + j]) := hA.out.cell s4
   have hfree : wr.frozen? ⟨G, p + j, none⟩ = false := hA.out.free _
   have HA3 := Lib.hid (show ABlk (wr.setCell ⟨G, p + j, none⟩ (.int .i64 (L[p + j] + x * D[j]))) G (addAt L p x (D.take (j + 1))) by
    rw [← s5]
    exact hA.out.set (p + j) (L[p + j] + x * D[j]))
   have HB3 := Lib.hid (hB.out.other (g := G) (j := p + j) (v := .int .i64 (L[p + j] + x * D[j])) (Ne.symm hGB))
   have HT3 := Lib.hid (hT.out.setL (p + j) (.int .i64 (L[p + j] + x * D[j])))
   have hx0 := HX.out.1
   have hx9 := HX.out.2
   generalize D[j] = d at *
   generalize L[p + j] = y at *
   have m1 : 0 ≤ x * d := Int.mul_nonneg hx0 hdb.1
   have m2 : x * d ≤ 10000 * 10000 := Int.mul_le_mul (by omega) (by omega) hdb.1 (by omega)
   clear htk hlj s1 s2 s3 s4 s5 hjl hsl hA hB hDr j1 hT hRl hAl hdb hx0 hx9
   go_wp2
   go_roundw
   case rel => exact ⟨j + 1, by omega, by go_num, HA3, HB3, HT3⟩
   case measure => simp [intOf]; omega
  ·
   have hk : j = q := by omega
   have e1 : D.take j = D := List.take_of_length_le (by rw [HD.out]; omega)
   have hA2 := hA.out
   rw [e1] at hA2
   have HA2 := Lib.hid hA2
   have hcp : wr.cell? ⟨B, 0, none⟩ = some (.int .i64 (p : Int)) := hB.out.cell (j := 0) rfl
   have hfp : wr.frozen? ⟨B, 0, none⟩ = false := hB.out.free 0
   subst hk
   clear e1 hA2 hA
   go_wp2
   go_ret
   exact ⟨rfl, HA2.out.other hGB, hB.out.set 0 _, hT.out.setR 0 _⟩
theorem addAt_len {L D : List Int} {p : Nat} {x : Int} (h : p ≤ L.length) : (addAt L p x D).length = L.length := by
 rw [addAt, List.length_append, List.length_take, subk_len, List.length_drop]; omega
theorem addAt_vl {L D : List Int} {p : Nat} {x : Int} (h : p + D.length ≤ L.length) : vl (addAt L p x D) = vl L + 10000 ^ p * (x * vl D) := by
 have hl : (L.take p).length = p := by rw [List.length_take]; omega
 have e : vl L = vl (L.take p) + 10000 ^ p * vl (L.drop p) := by
  have := vl_append (L.take p) (L.drop p)
  rw [List.take_append_drop, hl] at this
  exact this
 rw [addAt, vl_append, hl, subk_vl _ _ _ (by rw [List.length_drop]; omega), e, Int.neg_mul, Int.sub_neg, Int.mul_add, Int.add_assoc]
theorem subk_add (l D : List Int) (x c : Int) (hl : ∀ y ∈ l, 0 ≤ y ∧ y ≤ c) (hD : Dig D) (hx : 0 ≤ x ∧ x < 10000) : ∀ y ∈ subk l D (-x), 0 ≤ y ∧ y ≤ c + 100000000 := by
 induction l generalizing D with
 | nil => intro y hy; cases D <;> simp [subk] at hy
 | cons z l ih => cases D with
  | nil => intro y hy; rw [subk_nil] at hy; have := hl y hy; omega
  | cons d D =>
   intro y hy
   have hd := hD.head
   rw [subk] at hy
   rcases List.mem_cons.1 hy with rfl | hy
   ·
    have m1 : 0 ≤ x * d := Int.mul_nonneg hx.1 hd.1
    have m2 : x * d ≤ 10000 * 10000 := Int.mul_le_mul (by omega) (by omega) hd.1 (by omega)
    have := hl z (by simp)
    rw [Int.neg_mul]; omega
   ·
    exact ih D (fun y hy => hl y (by simp [hy])) hD.tail y hy
theorem addAt_bound {L D : List Int} {p : Nat} {x c : Int} (hl : ∀ y ∈ L, 0 ≤ y ∧ y ≤ c) (hD : Dig D) (hx : 0 ≤ x ∧ x < 10000) : ∀ y ∈ addAt L p x D, 0 ≤ y ∧ y ≤ c + 100000000 := by
 intro y hy
 rcases List.mem_append.1 hy with h | h
 ·
  have := hl y (List.mem_of_mem_take h); omega
 ·
  exact subk_add _ D x c (fun y hy => hl y (List.mem_of_mem_drop hy)) hD hx y h
theorem Two.cell {G B b j : Nat} {v : Value} {a w : World} (h : Two G B a w) (h1 : b ≠ G) (h2 : b ≠ B) (hc : a.cell? ⟨b, j, none⟩ = some v) : w.cell? ⟨b, j, none⟩ = some v := by
 rw [World.cell?] at hc ⊢
 rw [h.2.2.2.2 b h1 h2]
 exact hc
set_option maxRecDepth 100000 in
set_option maxHeartbeats 1000000 in
theorem foldN_any (A D Z : List Int) (G h ch M B n c1 q c2 : Nat) (a1 a2 : Option Addr) (w : World) (hZ : ABlk w G Z) (hzl : Z.length = h) (hz0 : ∀ y ∈ Z, 0 ≤ y ∧ y ≤ 0) (hzv : vl Z = 0) (hA : A.length = n) (hD : D.length = q) (hh : n + q = h) (hn : n ≤ 5000) (h9 : q ≤ 5000)
  (hM : w.cell? ⟨M, 0, none⟩ = some (.slice a2 q c2)) (hB : ABlk w B [0]) (hGM : M ≠ G) (hMB : M ≠ B) (hGB : G ≠ B)
  (hra : ∀ j, j < n → ∃ b1 o1, a1 = some ⟨b1, o1, none⟩ ∧ b1 ≠ G ∧ b1 ≠ B ∧ n ≤ c1 ∧ IRow w b1 o1 A) (hda : Dig A)
  (hrow : ∀ j, j < q → ∃ b2 o2, a2 = some ⟨b2, o2, none⟩ ∧ b2 ≠ G ∧ b2 ≠ B ∧ q ≤ c2 ∧ IRow w b2 o2 D) (hd : Dig D) :
  Calls Tryz.prog 209 #[.slice a1 n c1, .slice (some ⟨G, 0, none⟩) h ch, .func (.func 210) #[] #[.pointer (some ⟨M, 0, none⟩), .pointer (some ⟨B, 0, none⟩)]] w fun e w' => e = .returned (.slice (some ⟨G, 0, none⟩) h ch) ∧ (∃ L, ABlk w' G L ∧ L.length = h ∧ vl L = vl A * vl D ∧ ∀ y ∈ L, 0 ≤ y ∧ y ≤ 1000000000000) ∧ Two G B w w' := by
 have HZ := Lib.hid hZ
 have HI := Lib.hid (And.intro hzl (And.intro hzv hz0))
 have HA := Lib.hid hA
 have HD := Lib.hid hD
 have HB := Lib.hid hB
 have HM := Lib.hid hM
 have HRA := Lib.hid hra
 have HR := Lib.hid hrow
 have HDA := Lib.hid hda
 have HDD := Lib.hid hd
 clear hZ hzl hz0 hzv hA hD hB hM hra hrow hda hd
 go_enter Tryz.func209, Tryz.ntmps209
 go_wp2
 go_loopw [1, 11] (fun s i wr => ∃ (k : Nat) (L : List Int), k ≤ n ∧ i = .int .i64 (k : Int) ∧ s = .slice (some ⟨G, 0, none⟩) h ch ∧ Hid (ABlk wr G L) ∧ Hid (L.length = h ∧ vl L = vl (A.take k) * vl D ∧ ∀ y ∈ L, 0 ≤ y ∧ y ≤ (k : Int) * 100000000) ∧ Hid (ABlk wr B [(k : Int)]) ∧ Hid (Two G B w wr)) (fun _ i _ => n - (intOf i).toNat)
 case atStart => exact ⟨0, Z, by omega, rfl, rfl, HZ, Lib.hid ⟨HI.out.1, by rw [HI.out.2.1]; simp [vl], fun y hy => by have := HI.out.2.2 y hy; omega⟩, HB, Lib.hid (Two.refl _ _ _)⟩
 case round =>
  obtain ⟨k, L, hk, rfl, rfl, hL, hI, hB, hT⟩ := hrel
  by_cases h1 : k < n
  ·
   have k1 : k < A.length := by rw [HA.out]; exact h1
   obtain ⟨b1, o1, rfl, hb1, hb2, hnc, hAr⟩ := HRA.out k h1
   have hx : wr.cell? ⟨b1, o1 + k, none⟩ = some (.int .i64 A[k]) := (hT.out.row hb1 hb2 hAr) k _ (List.getElem?_eq_getElem k1)
   have hxd := HDA.out _ (List.getElem_mem k1)
   have hMc := hT.out.cell hGM hMB HM.out
   have htl : (A.take k).length = k := by rw [List.length_take]; omega
   obtain ⟨i1, i2, i3⟩ := hI.out
   have HI2 := Lib.hid (show (addAt L k A[k] D).length = h ∧ vl (addAt L k A[k] D) = vl (A.take (k + 1)) * vl D ∧ ∀ y ∈ addAt L k A[k] D, 0 ≤ y ∧ y ≤ ((k + 1 : Nat) : Int) * 100000000 by
    refine ⟨by rw [addAt_len (by omega)]; exact i1, ?_, fun y hy => ?_⟩
    ·
     rw [addAt_vl (by rw [HD.out]; omega), i2, List.take_succ_eq_append_getElem k1, vl_append, htl, Int.add_mul, Int.mul_assoc]; simp [vl]
    ·
     have := addAt_bound i3 HDD.out hxd y hy; omega)
   have cS := times_step L D A[k] G h ch k M B q c2 a2 wr hL.out i1 HD.out (by omega) (by omega) hMc hB.out hGB (fun j hj => by
    obtain ⟨b, o, e1, e2, e3, e4, e5⟩ := HR.out j hj
    exact ⟨b, o, e1, e2, e3, e4, hT.out.row e2 e3 e5⟩) HDD.out hxd (fun y hy => by have := i3 y hy; omega)
   generalize addAt L k A[k] D = L2 at *
   generalize A[k] = x at *
   have HT := hT
   clear hxd htl k1 hL hI i1 i2 i3 hB hMc hAr hT
   go_wp2_with (go_at_call 210; (with_reducible refine cS.mono ?_); rintro e w' ⟨rfl, hL2, hB2, hT2⟩; have HL2 := Lib.hid hL2; have HB2 := Lib.hid hB2; have HT2 := Lib.hid (HT.out.trans hT2); clear hL2 hB2 hT2 HT cS)
   go_roundw
   case rel => exact ⟨k + 1, L2, by omega, by go_num, rfl, HL2, HI2, HB2, HT2⟩
   case measure => simp [intOf]; omega
  ·
   have hk : k = n := by omega
   subst hk
   have e1 : A.take k = A := List.take_of_length_le (by rw [HA.out]; omega)
   have HR2 := Lib.hid (show ∃ L, ABlk wr G L ∧ L.length = h ∧ vl L = vl A * vl D ∧ ∀ y ∈ L, 0 ≤ y ∧ y ≤ 1000000000000 from ⟨L, hL.out, hI.out.1, by rw [hI.out.2.1, e1], fun y hy => by have := hI.out.2.2 y hy; omega⟩)
   clear e1 hL hI
   go_wp2
   go_ret
   exact ⟨rfl, HR2.out, hT.out⟩
set_option maxRecDepth 100000 in
set_option maxHeartbeats 1000000 in
theorem times_any (n m : Nat) (v1 v2 : Value) (w : World) (hl1 : (grp n).length ≤ 5000) (hl2 : (grp m).length ≤ 5000) (h1 : NSl w v1 n) (h2 : NSl w v2 m) :
  Calls Tryz.prog 186 #[v1, v2] w fun e w' => ∃ v, e = .returned v ∧ NSl w' v (n * m) ∧ Below w.heap.size w w' := by
 have hrow : ∀ (v : Value) (n : Nat), NSl w v n → ∃ a2 c2, v = .slice a2 (grp n).length c2 ∧ ∀ j, j < (grp n).length → ∃ b2 o2, a2 = some ⟨b2, o2, none⟩ ∧ b2 < w.heap.size ∧ (grp n).length ≤ c2 ∧ IRow w b2 o2 (grp n) := fun v n h => by
  rcases h with ⟨a, c, rfl, e⟩ | ⟨b, o, c, rfl, g1, g2, g3, g4⟩
  ·
   rw [e]; exact ⟨a, c, rfl, fun j hj => absurd hj (by simp)⟩
  ·
   exact ⟨_, c, rfl, fun j hj => ⟨b, o, rfl, g3, g1, g4⟩⟩
 obtain ⟨a1, c1, rfl, hr1⟩ := hrow v1 n h1
 obtain ⟨a2, c2, rfl, hr2⟩ := hrow v2 m h2
 clear hrow h1 h2
 obtain ⟨i0, hi, hz0, hz1, hz2⟩ := info_parts info_int
 have hvn := vl_grp n
 have hvm := vl_grp m
 have hdn := grp_dig n
 have hdm := grp_dig m
 have en := vl_lt hdn
 have em := vl_lt hdm
 generalize grp n = A at *
 generalize grp m = D at *
 obtain ⟨p, hp⟩ : ∃ k, A.length = k := ⟨_, rfl⟩
 obtain ⟨q, hq⟩ : ∃ k, D.length = k := ⟨_, rfl⟩
 rw [hp] at hl1 hr1 en ⊢
 rw [hq] at hl2 hr2 em ⊢
 have hsum : ((n * m : Nat) : Int) < 10000 ^ (p + q) := by
  rw [Int.natCast_mul, Int.pow_add]
  rw [hvn] at en
  rw [hvm] at em
  rcases Nat.eq_zero_or_pos m with h | h
  ·
   subst h
   have : (0 : Int) < 10000 ^ p := Int.pow_pos (by decide)
   have : (0 : Int) < 10000 ^ q := Int.pow_pos (by decide)
   have := Int.mul_pos ‹(0 : Int) < 10000 ^ p› this
   simpa using this
  ·
   exact Int.mul_lt_mul en (Int.le_of_lt em) (by omega) (Int.le_of_lt (Int.pow_pos (by decide)))
 have HBY := Lib.hid (show i0.bytes * (p + q) ≤ 281474976710656 by rw [hz2]; omega)
 have hmx : p + q ≤ maxLen := by unfold maxLen; omega
 have HZ := Lib.hid (show ∀ w', w'.ownsRow (w.heap.size + 1 + 1) 3 1 (.slice (some ⟨w.heap.size + 1 + 1, 0, none⟩) (p + q) (p + q)) (p + q) (madeCells (Value.int .i64 0).cells ((p + q) * 1)).toList → ABlk w' (w.heap.size + 1 + 1) (List.replicate (p + q) 0) from fun w' h => by
  rw [made_zeros] at h
  exact (own_blk h).1)
 have hB0 : Below w.heap.size w ((w.alloc (.cells #[.slice a2 q c2] 112)).alloc (.cells #[.int .i64 0] 3)) := ((Below.refl _ w).alloc (Nat.le_refl _) _).alloc (by simp only [World.size_alloc]; omega) _
 have cF : ∀ w1, (((w.alloc (.cells #[.slice a2 q c2] 112)).alloc (.cells #[.int .i64 0] 3))).grownBy w1 none → ABlk w1 (w.heap.size + 1 + 1) (List.replicate (p + q) 0) →
   Calls Tryz.prog 209 #[.slice a1 p c1, .slice (some ⟨w.heap.size + 1 + 1, 0, none⟩) (p + q) (p + q), .func (.func 210) #[] #[.pointer (some ⟨w.heap.size, 0, none⟩), .pointer (some ⟨w.heap.size + 1, 0, none⟩)]] w1 fun e w' => e = .returned (.slice (some ⟨w.heap.size + 1 + 1, 0, none⟩) (p + q) (p + q)) ∧ (∃ L, ABlk w' (w.heap.size + 1 + 1) L ∧ L.length = p + q ∧ vl L = vl A * vl D ∧ ∀ y ∈ L, 0 ≤ y ∧ y ≤ 1000000000000) ∧ Two (w.heap.size + 1 + 1) (w.heap.size + 1) w1 w' := fun w1 hg hZ => by
  have hB1 : Below w.heap.size w w1 := hB0.grown hg (by simp only [World.size_alloc]; omega) (fun k e => by cases e)
  have hMo : w1.heap[w.heap.size]? = some (.cells #[.slice a2 q c2] 112) := by
   rw [hg.block _ (by simp only [World.size_alloc]; omega) (by simp), Below.heap_alloc _ _ _ (by simp)]
   exact World.alloc_heap_new w _
  have hBo : w1.heap[w.heap.size + 1]? = some (.cells #[.int .i64 0] 3) := by
   have e := World.alloc_heap_new (w.alloc (.cells #[.slice a2 q c2] 112)) (.cells #[.int .i64 0] 3)
   rw [World.size_alloc] at e
   rw [hg.block _ (by simp only [World.size_alloc]; omega) (by simp)]
   exact e
  exact foldN_any A D _ (w.heap.size + 1 + 1) (p + q) (p + q) w.heap.size (w.heap.size + 1) p c1 q c2 a1 a2 w1 hZ (by simp) (fun y hy => by have := List.eq_of_mem_replicate hy; omega) (vl_zeros _) hp hq rfl hl1 hl2 (by rw [World.cell?, hMo]; rfl) ⟨[], hBo⟩ (by omega) (by omega) (by omega)
   (fun j hj => by
    obtain ⟨b, o, e1, e2, e3, e4⟩ := hr1 j hj
    exact ⟨b, o, e1, by omega, by omega, e3, e4.below hB1 e2⟩) hdn
   (fun j hj => by
    obtain ⟨b, o, e1, e2, e3, e4⟩ := hr2 j hj
    exact ⟨b, o, e1, by omega, by omega, e3, e4.below hB1 e2⟩) hdm
 have cT : ∀ w1 W L, Below w.heap.size w w1 → Two (w.heap.size + 1 + 1) (w.heap.size + 1) w1 W → ABlk W (w.heap.size + 1 + 1) L → L.length = p + q → vl L = vl A * vl D → (∀ y ∈ L, 0 ≤ y ∧ y ≤ 1000000000000) →
   Calls Tryz.prog 177 #[.slice (some ⟨w.heap.size + 1 + 1, 0, none⟩) (p + q) (p + q)] W fun e w' => ∃ v, e = .returned v ∧ NSl w' v (n * m) ∧ Below w.heap.size w w' := fun w1 W L hB1 hT hL hl hv hb => by
  have hv2 : vl L = ((n * m : Nat) : Int) := by rw [hv, hvn, hvm, Int.natCast_mul]
  have hfit := carr_fits (l := L) (c := 0) (by rw [hv2]; omega) (by rw [hl, hv2, Int.add_zero]; exact hsum)
  exact (carried_any [] L [] (w.heap.size + 1 + 1) 0 (p + q) (p + q) W rfl hl (by simpa using hL) (fun y hy => by have := hb y hy; omega) (Nat.le_refl _) (by omega)).mono fun e w' ⟨he, g1, g2, g3⟩ =>
   ⟨_, he, NSl.of_blk (S := []) (by simpa using g1) (by rw [carr_len, hl]) (carr_dig _ _) (by rw [hfit.2, hv2, Int.add_zero]) (Nat.le_refl _) (by omega), below_own (hB1.trans (hT.below (by omega) (by omega))) g2 (Nat.le_refl _) (by omega)⟩
 have CF := Lib.hid cF
 have CT := Lib.hid cT
 have HB0 := Lib.hid hB0
 clear cF cT hB0 hr1 hr2 hvn hvm hdn hdm en em hp hq hsum hz2
 go_enter Tryz.func186, Tryz.ntmps186
 go_wp2_with (first | (refine wpList_make_full _ rfl (.tmp 12) (.tmp 12) 112 rfl (w.heap.size + 1 + 1) 3 i0 (.int .i64 0) 1 Tryz.underlying112 hi hz0 hz1 .i64 .i64 _ _ (p + q) rfl rfl (by omega) (by omega) HBY.out hmx (by simp) ?_; intro w1 hown1 hgrow1; simp only [World.size_alloc] at hown1 ⊢; have hA1 := HZ.out w1 hown1; have hB1 := HB0.out.grown hgrow1 (by simp only [World.size_alloc]; omega) (fun k e => by cases e); have HB1 := Lib.hid hB1; have cF2 := CF.out w1 hgrow1 hA1; clear hown1 hgrow1 hA1 hB1) | (go_at_call 209; (with_reducible refine cF2.mono ?_); rintro e w2 ⟨rfl, ⟨L, hL, hl, hv, hb⟩, hT⟩; have cT2 := CT.out w1 w2 L HB1.out hT hL hl hv hb; clear hL hl hv hb hT cF2) | (go_at_call 177; (with_reducible refine cT2.mono ?_); rintro e w3 ⟨v, rfl, hN, hB3⟩; have HN := Lib.hid hN; have HB3 := Lib.hid hB3; clear hN hB3))
 all_goals
  go_ret
  exact ⟨_, rfl, HN.out, HB3.out⟩
theorem bytes_head {t : ByteArray} {x : UInt8} {l : List UInt8} (e : t.data.toList = x :: l) (h : 0 < t.size) : t[0] = x := by
 have h1 : t.data.toList[0]? = some x := by rw [e]; rfl
 have h2 : t.data[0]? = some x := by rw [← Array.getElem?_toList]; exact h1
 exact (Array.getElem?_eq_some_iff.1 h2).2
theorem bytes_size {t : ByteArray} {l : List UInt8} (e : t.data.toList = l) : t.size = l.length := by rw [← e]; rfl
theorem bytes_tail {t : ByteArray} {x : UInt8} {l : List UInt8} (e : t.data.toList = x :: l) : (t.extract 1 t.size).data.toList = l := by
 rw [ByteArray.data_extract]
 have hs : t.size = l.length + 1 := bytes_size e
 rw [Array.toList_extract, hs, e]
 simp
set_option maxRecDepth 100000 in
theorem trim_any (s : ByteArray) (w : World) (hz : s.size ≤ 1000000) :
  Calls Tryz.prog 201 #[.string s, .int .u8 48] w fun e w' => e = .returned (.string ⟨(s.data.toList.dropWhile (· == 48)).toArray⟩) ∧ w = w' := by
 go_enter Tryz.func201, Tryz.ntmps201
 go_wp2
 go_loopw [0] (fun u wr => ∃ t : ByteArray, u = .string t ∧ Hid (t.data.toList.dropWhile (· == 48) = s.data.toList.dropWhile (· == 48)) ∧ t.size ≤ 1000000 ∧ w = wr) (fun u _ => match u with | .string t => t.size | _ => 0)
 case atStart => exact ⟨s, rfl, Lib.hid rfl, hz, rfl⟩
 case round =>
  obtain ⟨t, rfl, ht, hz2, rfl⟩ := hrel
  obtain ⟨l, hl⟩ : ∃ l, t.data.toList = l := ⟨_, rfl⟩
  have hs := bytes_size hl
  rw [hl] at ht
  have HT := ht
  clear ht
  cases l with
  | nil =>
   rw [List.length_nil] at hs
   have e0 : decide ((0 : Int) < (t.size : Int)) = false := by rw [hs]; rfl
   have HL := Lib.hid hl
   clear hl e0
   go_wp2
   go_ret
   rw [← HT.out]
   exact ⟨by rw [show t = ⟨([] : List UInt8).toArray⟩ from ByteArray.ext (by rw [← Array.toList_inj]; exact HL.out)]; rfl, rfl⟩
  | cons x l =>
   rw [List.length_cons] at hs
   have h0 : 0 < t.size := by omega
   have hx := bytes_head hl h0
   have e0 : decide ((0 : Int) < (t.size : Int)) = true := by rw [decide_eq_true_eq]; omega
   have htl := bytes_tail hl
   have HL := Lib.hid hl
   by_cases h48 : x = 48
   ·
    have HTL := Lib.hid htl
    have H48 := Lib.hid h48
    have HS := Lib.hid hs
    have e2 : ((x.toNat : Int) == 48) = true := by rw [h48]; rfl
    clear hl htl h48
    go_wp2
    refine ⟨⟨_, rfl, Lib.hid ?_, ?_, trivial⟩, ?_⟩
    ·
     rw [← HT.out, ← HS.out, HTL.out, H48.out]; rfl
    ·
     rw [← HS.out, ByteArray.size_extract]; omega
    ·
     show (t.extract 1 (l.length + 1)).size < t.size
     rw [← HS.out, ByteArray.size_extract]; omega
   ·
    have e2 : ((x.toNat : Int) == 48) = false := by
     rw [beq_eq_false_iff_ne, ne_eq]
     intro h
     exact h48 (UInt8.toNat_inj.1 (by have : x.toNat = 48 := by omega
                                      rw [this]; rfl))
    have HX := Lib.hid h48
    clear hl htl h48
    go_wp2
    go_ret
    refine ⟨?_, rfl⟩
    rw [← HT.out, List.dropWhile_cons_of_neg (by simpa using HX.out), ← HL.out]
    show Ending.returned (Value.string t) = Ending.returned (.string ⟨t.data.toList.toArray⟩)
    rw [Array.toArray_toList]
set_option maxRecDepth 100000 in
theorem trimLeft_any (s : ByteArray) (w : World) (h0 : 0 < s.size) (hz : s.size ≤ 1000000) :
  Calls Tryz.prog 178 #[.string s, .string ⟨#[48]⟩] w fun e w' => e = .returned (.string ⟨(s.data.toList.dropWhile (· == 48)).toArray⟩) ∧ w = w' := by
 have e1 : s.toList.isEmpty = false := by
  rw [ByteArray.toList_eq, List.isEmpty_eq_false_iff]
  intro h
  have := bytes_size h
  rw [List.length_nil] at this; omega
 have e48 : (((⟨#[48]⟩ : ByteArray)[0]'(by decide)).toNat : Int) = 48 := rfl
 have cT := trim_any s w hz
 generalize (s.data.toList.dropWhile (· == 48)).toArray = r at *
 go_enter Tryz.func178, Tryz.ntmps178
 go_wp2_with (go_at_call 201; (with_reducible refine cT.mono ?_); rintro e w' ⟨rfl, rfl⟩)
 go_ret
 exact ⟨rfl, rfl⟩
def UBlk (w : World) (g : Nat) (L : List Int) : Prop := ∃ T : List Value, w.heap[g]? = some (.cells (L.map (Value.int .u8) ++ T).toArray 5 (0, 0))
theorem UBlk.cell {w : World} {g : Nat} {L : List Int} (h : UBlk w g L) {j : Nat} {x : Int} (hj : L[j]? = some x) : w.cell? ⟨g, j, none⟩ = some (.int .u8 x) := by
 obtain ⟨T, h⟩ := h
 have hl := (List.getElem?_eq_some_iff.1 hj).1
 rw [World.cell?, h]
 simp only [List.getElem?_toArray]
 rw [List.getElem?_append_left (by simpa using hl), List.getElem?_map, hj]
 rfl
theorem UBlk.free {w : World} {g : Nat} {L : List Int} (h : UBlk w g L) (j : Nat) : w.frozen? ⟨g, j, none⟩ = false := by
 obtain ⟨T, h⟩ := h
 rw [World.frozen?, h]; simp
theorem UBlk.set {w : World} {g : Nat} {L : List Int} (h : UBlk w g L) (j : Nat) (x : Int) : UBlk (w.setCell ⟨g, j, none⟩ (.int .u8 x)) g (L.set j x) := by
 obtain ⟨T, h⟩ := h
 have := heap_setCell_same w g j _ _ (.int .u8 x) h
 by_cases hj : j < L.length
 ·
  refine ⟨T, ?_⟩
  rw [this, List.setIfInBounds_toArray, List.set_append_left _ _ (by simpa using hj), List.map_set]
 ·
  refine ⟨T.set (j - L.length) (.int .u8 x), ?_⟩
  rw [this, List.setIfInBounds_toArray, List.set_append_right _ _ (by simpa using hj), List.length_map, show L.set j x = L from List.set_eq_of_length_le (by omega)]
theorem own_ublk {w : World} {base n cap g : Nat} {l : List Int} (h : w.ownsRow base 5 1 (.slice (some ⟨g, 0, none⟩) n cap) n (l.map (Value.int .u8))) : UBlk w g l := by
 rcases h.2 with ⟨h', _⟩ | ⟨g', cap', cur, h', hb, hg, hnc, hcm, hcs, htake⟩
 ·
  cases h'
 ·
  simp only [Value.slice.injEq, Option.some.injEq, Addr.mk.injEq] at h'
  obtain ⟨⟨rfl, _⟩, _, rfl⟩ := h'
  refine ⟨cur.toList.drop n, ?_⟩
  rw [hg]
  have e : List.map (Value.int .u8) l = cur.toList.take n := by rw [← htake, Nat.mul_one]
  rw [e, List.take_append_drop, Array.toArray_toList]
theorem made_bytes (n : Nat) : (madeCells (Value.int .u8 0).cells (n * 1)).toList = (List.replicate n 0).map (Value.int .u8) := by
 rw [show (Value.int .u8 0).cells = #[.int .u8 0] from rfl, toList_madeCells_one, Nat.mul_one, List.map_replicate]
theorem info_u8 : (Tryz.prog.info? 5).map (fun i => (i.zero, i.size, i.bytes)) = some (some (.int .u8 0), 1, 1) := by kernel_rfl
def wr4 (l : List Int) : List Int := (l.map (48 + ·)).reverse
theorem wr4_snoc (l : List Int) (d : Int) : wr4 (l ++ [d]) = (48 + d) :: wr4 l := by simp [wr4]
theorem wr4_lts {l : List Int} (h : DigX l) : wr4 l = (lts l).map (fun b => (b.toNat : Int)) := by
 rw [wr4, lts, List.map_reverse, List.map_map]
 congr 1
 exact List.map_congr_left fun x hx => by simp only [Function.comp]; rw [ltr_nat (h x hx)]
def dN : Nat → Int → List Int
 | 0, _ => []
 | j + 1, g => g % 10 :: dN j (g / 10)
set_option maxRecDepth 100000 in
set_option maxHeartbeats 1000000 in
theorem text_any (m : Nat) (v : Value) (w : World) (hl : (grp m).length ≤ 5000) (h1 : NSl w v m) :
  Calls Tryz.prog 155 #[v] w fun e w' => e = .returned (.string ⟨(txN m).toArray⟩) ∧ Below w.heap.size w w' := by
 rcases h1.cases with ⟨a, c, rfl, e1⟩ | ⟨b, o, n, c, rfl, hn, hn0, hnc, hc2, hb, hr⟩
 ·
  have hm : m = 0 := grp_nil.1 e1
  subst hm
  clear h1
  go_enter Tryz.func155, Tryz.ntmps155
  go_wp2
  go_ret
  exact ⟨rfl, Below.refl _ _⟩
 ·
  have hfd := fd_trz m
  have hdm := grp_dig m
  have hm0 : m ≠ 0 := fun h => by rw [h, grp_zero] at hn; simp at hn; omega
  have htx : txN m = lts (grpX m) := by rw [txN, if_neg hm0]
  rw [hn] at hl
  obtain ⟨A, hA⟩ : ∃ A, grp m = A := ⟨_, rfl⟩
  rw [hA] at hn hr hfd hdm
  clear h1 hA
  obtain ⟨i0, hi, hz0, hz1, hz2⟩ := info_parts info_u8
  obtain ⟨H, hH⟩ : ∃ H, 4 * n = H := ⟨_, rfl⟩
  have eW : 4 * (n : Int) = (H : Int) := by omega
  have HBY := Lib.hid (show i0.bytes * H ≤ 281474976710656 by rw [hz2]; omega)
  have hmx : H ≤ maxLen := by unfold maxLen; omega
  have HZ := Lib.hid (show ∀ w', w'.ownsRow w.heap.size 5 1 (.slice (some ⟨w.heap.size, 0, none⟩) H H) H (madeCells (Value.int .u8 0).cells (H * 1)).toList → UBlk w' w.heap.size (List.replicate H 0) from fun w' h => by
   rw [made_bytes] at h
   exact own_ublk h)
  have HN := Lib.hid hn
  have HR := Lib.hid hr
  have HD := Lib.hid hdm
  have HX := Lib.hid (And.intro hfd htx)
  have HH := Lib.hid hH
  clear hz2 hfd hdm htx hn hr hH
  go_enter Tryz.func155, Tryz.ntmps155
  go_wp2_with (first | (refine wpList_make_full _ rfl (.tmp 12) (.tmp 12) 48 rfl w.heap.size 5 i0 (.int .u8 0) 1 Tryz.underlying48 hi hz0 hz1 .i64 .i64 _ _ H rfl rfl (by omega) (by omega) HBY.out hmx (Nat.le_refl _) ?_; intro w1 hown1 hgrow1; have hA1 := HZ.out w1 hown1; have hB1 := (Below.refl w.heap.size w).grown hgrow1 (Nat.le_refl _) (fun k e => by cases e); have HA1 := Lib.hid hA1; clear hown1 hgrow1 hA1))
  all_goals
   go_loopw [4, 18] (fun at' i wr => ∃ (k t : Nat), k ≤ n ∧ t + 4 * k = H ∧ at' = .int .i64 (t : Int) ∧ i = .int .i64 (k : Int) ∧ Hid (UBlk wr w.heap.size (List.replicate t 0 ++ wr4 (fd (A.take k)))) ∧ Below w.heap.size w wr) (fun _ i _ => n - (intOf i).toNat)
   case atStart => exact ⟨0, H, by omega, by omega, rfl, rfl, Lib.hid (by rw [List.take_zero]; simpa [fd, wr4] using HA1.out), hB1⟩
   case round =>
    clear HA1 hB1
    obtain ⟨k, t, hk, hkt, rfl, rfl, hU, hB⟩ := hrel
    by_cases h1 : k < n
    ·
     have k1 : k < A.length := by rw [HN.out]; exact h1
     have hx : wr.cell? ⟨b, o + k, none⟩ = some (.int .i64 A[k]) := (HR.out.below hB hb) k _ (List.getElem?_eq_getElem k1)
     have hxd := HD.out _ (List.getElem_mem k1)
     have HF := Lib.hid (show fd (A.take (k + 1)) = fd (A.take k) ++ dN 4 A[k] by rw [List.take_succ_eq_append_getElem k1, fd, List.flatMap_append]; simp [fd, d4, dN])
     have x0 := hxd.1
     have x9 := hxd.2
     generalize A[k] = x at *
     generalize fd (A.take k) = F at *
     clear hxd k1
     go_wp2
     go_loopw [4, 6, 22] (fun at' gg ct wi => ∃ (j u : Nat) (g : Int), j ≤ 4 ∧ u + j = t ∧ at' = .int .i64 (u : Int) ∧ gg = .int .i64 g ∧ ct = .int .i64 (j : Int) ∧ 0 ≤ g ∧ g < 10000 ∧ Hid (∃ pre, dN 4 x = pre ++ dN (4 - j) g ∧ UBlk wi w.heap.size (List.replicate u 0 ++ wr4 (F ++ pre))) ∧ Below w.heap.size w wi) (fun _ _ ct _ => 4 - (intOf ct).toNat)
     case atStart => exact ⟨0, t, x, by omega, by omega, rfl, rfl, rfl, x0, x9, Lib.hid ⟨[], rfl, by simpa using hU.out⟩, hB⟩
     case round =>
      obtain ⟨j, u, g, hj, hut, rfl, rfl, rfl, g0, g9, hP, hBi⟩ := hrel
      by_cases h4 : j < 4
      ·
       obtain ⟨v, rfl⟩ : ∃ v, u = v + 1 := ⟨u - 1, by omega⟩
       obtain ⟨pre, p1, p2⟩ := hP.out
       rw [List.replicate_succ', List.append_assoc, List.singleton_append] at p2
       have hlr : (List.replicate v (0 : Int)).length = v := by simp
       have hcell : wr.cell? ⟨w.heap.size, v, none⟩ = some (.int .u8 0) := p2.cell (by have := mid_get (List.replicate v 0) 0 (wr4 (F ++ pre)); rwa [hlr] at this)
       have hfree : wr.frozen? ⟨w.heap.size, v, none⟩ = false := p2.free v
       have p3 := p2.set v (48 + g % 10)
       have hset := set_mid (List.replicate v 0) 0 (48 + g % 10) (wr4 (F ++ pre))
       rw [hlr] at hset
       rw [hset] at p3
       have HP2 := Lib.hid (show ∃ pre, dN 4 x = pre ++ dN (4 - (j + 1)) (g / 10) ∧ UBlk (wr.setCell ⟨w.heap.size, v, none⟩ (.int .u8 (48 + g % 10))) w.heap.size (List.replicate v 0 ++ wr4 (F ++ pre)) from ⟨pre ++ [g % 10], by
        rw [p1, show 4 - j = (4 - (j + 1)) + 1 by omega, dN]; simp, by
        rw [← List.append_assoc, wr4_snoc]; exact p3⟩)
       have HB2 := Lib.hid (hBi.setCell (p := ⟨w.heap.size, v, none⟩) (Nat.le_refl _) (.int .u8 (48 + g % 10)))
       have y0 : 0 ≤ g % 10 := Int.emod_nonneg _ (by decide)
       have y1 : g % 10 < 10 := Int.emod_lt_of_pos _ (by decide)
       have yd : 0 ≤ g / 10 ∧ g / 10 < 10000 := by omega
       have YD := Lib.hid yd
       have ew : IntKind.u8.wrap (48 + g % 10) = 48 + g % 10 := by simp [IntKind.wrap, IntKind.bits, IntKind.signed]; omega
       clear p1 p2 p3 hset hlr hP hBi yd
       go_wp2
       exact ⟨⟨j + 1, v, g / 10, by omega, by omega, rfl, rfl, by go_num, YD.out.1, YD.out.2, HP2, HB2.out⟩, by simp [intOf]; omega⟩
      ·
       have hj4 : j = 4 := by omega
       subst hj4
       obtain ⟨pre, p1, p2⟩ := hP.out
       have HP2 := Lib.hid (show UBlk wr w.heap.size (List.replicate u 0 ++ wr4 (fd (A.take (k + 1)))) by
        rw [HF.out, p1]; simpa [dN] using p2)
       clear p1 p2 hP
       go_wp2
       exact ⟨⟨k + 1, u, by omega, by omega, rfl, by go_num, HP2, hBi⟩, by simp [intOf]; omega⟩
    ·
     have hk : k = n := by omega
     have ht0 : t = 0 := by omega
     subst ht0
     have e1 : A.take k = A := List.take_of_length_le (by rw [HN.out]; omega)
     have hU2 := hU.out
     rw [e1, List.replicate_zero, List.nil_append, wr4_lts fd_dig] at hU2
     have hll : (lts (fd A)).length = H := by rw [lts_len, fd_len, HN.out]; omega
     have hcv := run_convert_bytes_back (P := Tryz.prog) wr 48 9 5 ⟨w.heap.size, 0, none⟩ H (lts (fd A)) Tryz.underlying48 Tryz.underlying5 Tryz.underlying9 (fun j hj => by
      rw [Addr.add_mid]
      exact hU2.cell (by rw [List.getElem?_map, List.getElem?_eq_getElem (by omega)]; simp))
     rw [hll] at hcv
     have cT := trimLeft_any ⟨(lts (fd A)).toArray⟩ wr (by rw [show (⟨(lts (fd A)).toArray⟩ : ByteArray).size = H by rw [← hll]; simp [ByteArray.size]]; omega) (by rw [show (⟨(lts (fd A)).toArray⟩ : ByteArray).size = H by rw [← hll]; simp [ByteArray.size]]; omega)
     have er : ((⟨(lts (fd A)).toArray⟩ : ByteArray).data.toList.dropWhile (· == 48)) = txN m := by
      rw [HX.out.2, ← HX.out.1, ← lts_trz fd_dig]
     rw [er] at cT
     generalize (⟨(lts (fd A)).toArray⟩ : ByteArray) = S at *
     clear hU2 hU e1 hll er
     go_wp2_with (go_at_call 178; (with_reducible refine cT.mono ?_); rintro e w' ⟨rfl, rfl⟩)
     go_ret
     exact ⟨rfl, hB⟩
theorem nmN_app (a b : List UInt8) : nmN (a ++ b) = nmN a * 10 ^ b.length + nmN b := by
 induction b generalizing a with
 | nil => simp [nmN]
 | cons c b ih =>
  have h := ih [c]
  have h2 := ih (a ++ [c])
  rw [List.singleton_append] at h
  rw [List.append_assoc, List.singleton_append] at h2
  rw [h2, h, nmN_snoc, show ([c] : List UInt8) = [] ++ [c] from rfl, nmN_snoc, List.length_cons, Nat.pow_succ, Nat.add_mul]
  have e1 : 10 * nmN a * 10 ^ b.length = nmN a * (10 ^ b.length * 10) := by
   rw [Nat.mul_comm 10, Nat.mul_assoc, Nat.mul_comm 10]
  have e2 : nmN [] = 0 := rfl
  rw [e1, e2]; simp only [Nat.mul_zero, Nat.zero_add]; omega
theorem nmN_lt {l : List UInt8} (h : l.all isDg = true) : nmN l < 10 ^ l.length := by
 have h1 := nmN_dgs h
 have h2 := vlX_lt (dgs_dig h)
 rw [dgs_len, ← h1] at h2
 have e : ((10 ^ l.length : Nat) : Int) = (10 : Int) ^ l.length := by simp
 omega
theorem all_mid {L : List UInt8} (h : L.all isDg = true) (a b : Nat) : ((L.drop a).take b).all isDg = true := by
 rw [List.all_eq_true] at h ⊢
 exact fun x hx => h x (List.mem_of_mem_drop (List.mem_of_mem_take hx))
theorem one_newI (W : World) (x : Int) : ∀ j u, [Value.int .i64 x][j]? = some u → (W.alloc (.cells #[.int .i64 x] 3)).cell? ((⟨W.heap.size, 0, none⟩ : Addr).add j) = some u := by
 intro j u hj
 have hj0 : j = 0 := by
  have := (List.getElem?_eq_some_iff.1 hj).1
  simp at this; exact this
 subst hj0
 rw [Addr.add_mid, World.cell?, World.alloc_heap_new]
 simpa using hj
set_option maxRecDepth 100000 in
set_option maxHeartbeats 1000000 in
theorem readNatural_any (s : ByteArray) (L : List UInt8) (sz : Nat) (w : World) (hL : s.data.toList = L) (hs : L.length = sz) (h9 : sz ≤ 200) (hd : L.all isDg = true) :
  Calls Tryz.prog 172 #[.string s] w fun e w' => ∃ v, e = .returned v ∧ NSl w' v (nmN L) ∧ Below w.heap.size w w' := by
 have hsz : s.size = sz := by rw [← hs]; exact bytes_size hL
 obtain ⟨i0, hi, hz0, hz1, hz2⟩ := info_parts info_int
 have HBY := Lib.hid (show i0.bytes * (sz / 4 + 1) ≤ 281474976710656 by rw [hz2]; omega)
 have hmx : sz / 4 + 1 ≤ maxLen := by unfold maxLen; omega
 have HL := Lib.hid hL
 have HS := Lib.hid hs
 have HD := Lib.hid hd
 have HZ2 := Lib.hid hz2
 clear hL hs hd hz2
 go_enter Tryz.func172, Tryz.ntmps172
 go_wp2_with (first | (refine wpList_make_own _ rfl (.const (.int .i64 0)) (.tmp 10) 112 rfl w.heap.size 3 i0 (.int .i64 0) 1 Tryz.underlying112 hi hz0 hz1 .i64 .i64 _ (sz / 4 + 1) rfl rfl (by omega) HBY.out hmx (Nat.le_refl _) ?_; intro w1 hown1 hgrow1; have HO := Lib.hid hown1; have hB1 := (Below.refl w.heap.size w).grown hgrow1 (Nat.le_refl _) (fun k e => by cases e); clear hown1 hgrow1))
 all_goals
  go_loopw [3, 4] (fun v en wr => ∃ (k g cap : Nat) (z : Int) (l : List Int), v = .slice (some ⟨g, 0, none⟩) k cap ∧ en = .int .i64 z ∧ z + 4 * (k : Int) = (sz : Int) ∧ -4 < z ∧ Hid (wr.ownsRow w.heap.size 3 1 (.slice (some ⟨g, 0, none⟩) k cap) k (ints l) ∧ Dig l ∧ vl l = nmN (L.drop z.toNat)) ∧ Below w.heap.size w wr) (fun _ en _ => (intOf en).toNat)
  case atStart =>
   exact ⟨0, w.heap.size, sz / 4 + 1, sz, [], rfl, rfl, by omega, by omega, Lib.hid ⟨HO.out, dig_nil, by rw [List.drop_eq_nil_of_le (by rw [HS.out]; omega)]; rfl⟩, hB1⟩
  case round =>
   clear HO hB1
   obtain ⟨k, g, cap, z, l, rfl, rfl, hz, hz4, hP, hB⟩ := hrel
   by_cases h1 : 0 < z
   ·
    obtain ⟨e, rfl⟩ : ∃ e : Nat, z = (e : Int) := ⟨z.toNat, by omega⟩
    obtain ⟨lo, hlo⟩ : ∃ lo : Nat, e - 4 = lo := ⟨_, rfl⟩
    have em : max ((e : Int) - 4) 0 = (lo : Int) := by omega
    have hle : lo ≤ e := by omega
    have hes : e ≤ sz := by omega
    have HP := hP
    have HB := Lib.hid hB
    clear hP hB
    go_wp2
    all_goals
     go_loopw [5, 6] (fun gr i wi => ∃ j : Nat, lo ≤ j ∧ j ≤ e ∧ i = .int .i64 (j : Int) ∧ gr = .int .i64 (nmN ((L.drop lo).take (j - lo)) : Int) ∧ wr = wi) (fun _ i _ => e - (intOf i).toNat)
     case atStart => exact ⟨lo, Nat.le_refl _, hle, by (first | rfl | (congr 1; omega)), by rw [Nat.sub_self, List.take_zero]; rfl, rfl⟩
     case round =>
      obtain ⟨j, hj1, hj2, rfl, rfl, rfl⟩ := hrel
      have hal := all_mid HD.out lo (j - lo)
      have hnl := nmN_lt hal
      have hn4 : nmN ((L.drop lo).take (j - lo)) < 10 ^ 4 := Nat.lt_of_lt_of_le hnl (Nat.pow_le_pow_right (by decide) (by rw [List.length_take]; omega))
      by_cases h2 : j < e
      ·
       have hjL : j < L.length := by rw [HS.out]; omega
       obtain ⟨x, hx⟩ : ∃ x, L[j]? = some x := ⟨_, List.getElem?_eq_getElem hjL⟩
       have hxs : ∀ h : j < s.size, s[j] = x := fun h => by
        have h1 : s.data[j]? = some x := by rw [← Array.getElem?_toList, HL.out]; exact hx
        exact (Array.getElem?_eq_some_iff.1 h1).2
       have hxd : isDg x = true := (List.all_eq_true.1 HD.out) x (List.mem_of_getElem? hx)
       have hxb := (isDg_iff x).1 hxd
       have ew : IntKind.u8.wrap ((x.toNat : Int) - 48) = (x.toNat : Int) - 48 := by simp [IntKind.wrap, IntKind.bits, IntKind.signed]; omega
       have HT := Lib.hid (show (nmN ((L.drop lo).take (j + 1 - lo)) : Int) = 10 * (nmN ((L.drop lo).take (j - lo)) : Int) + ((x.toNat : Int) - 48) by
        rw [show j + 1 - lo = (j - lo) + 1 by omega, List.take_add_one, List.getElem?_drop, show lo + (j - lo) = j by omega, hx]
        simp only [Option.toList_some]
        rw [nmN_snoc]; omega)
       have x48 := hxb.1
       have x57 := hxb.2
       generalize nmN ((L.drop lo).take (j - lo)) = N at *
       clear hal hnl hxd hxb hjL hx
       go_wp2
       exact ⟨⟨j + 1, by omega, by omega, by go_num, by rw [HT.out], trivial⟩, by simp [intOf]; omega⟩
      ·
       have hje : j = e := by omega
       subst hje
       obtain ⟨o1, o2, o3⟩ := HP.out
       obtain ⟨b1, b2, b3, b4, b5⟩ := own_blk o1
       have hdr : (L.drop j).length = 4 * k := by rw [List.length_drop, HS.out]; omega
       have hcat : L.drop lo = (L.drop lo).take (j - lo) ++ L.drop j := by
        have := (List.take_append_drop (j - lo) (L.drop lo)).symm
        rwa [List.drop_drop, show lo + (j - lo) = j by omega] at this
       have hval : (nmN (L.drop lo) : Int) = vl l + 10000 ^ k * (nmN ((L.drop lo).take (j - lo)) : Int) := by
        have h := nmN_app ((L.drop lo).take (j - lo)) (L.drop j)
        rw [← hcat, hdr] at h
        rw [h, o3, show ((j : Int)).toNat = j by omega, Int.natCast_add, Int.natCast_mul, Int.natCast_pow, Int.pow_mul]
        rw [show ((10 : Nat) : Int) ^ 4 = 10000 by decide, Int.mul_comm, Int.add_comm]
       generalize nmN ((L.drop lo).take (j - lo)) = N at *
       have hP2 : ∀ (w3 : World) (g2 cap2 : Nat), w3.ownsRow w.heap.size 3 1 (.slice (some ⟨g2, 0, none⟩) (k + 1) cap2) (k + 1) (ints l ++ [.int .i64 (N : Int)]) → w3.ownsRow w.heap.size 3 1 (.slice (some ⟨g2, 0, none⟩) (k + 1) cap2) (k + 1) (ints (l ++ [(N : Int)])) ∧ Dig (l ++ [(N : Int)]) ∧ vl (l ++ [(N : Int)]) = nmN (L.drop lo) := fun w3 g2 cap2 h => by
        refine ⟨by simpa [ints] using h, fun y hy => ?_, ?_⟩
        ·
         rcases List.mem_append.1 hy with hy | hy
         ·
          exact o2 y hy
         ·
          rw [List.mem_singleton.1 hy]; omega
        ·
         rw [hval, vl_append, b2]; simp [vl]
       have HP2 := Lib.hid hP2
       have HOA := Lib.hid (o1.alloc (.cells #[.int .i64 (N : Int)] 3))
       have HBA := Lib.hid (HB.out.alloc HB.out.size (.cells #[.int .i64 (N : Int)] 3))
       have HB5 := Lib.hid b5
       have hk9 : k ≤ 50 := by omega
       clear hal hnl hn4 o1 o2 o3 b1 b2 b3 b4 b5 hdr hcat hval hP2 HP HB em
       go_wp2_with (at_builtin; refine wpList_append_lies _ rfl (.tmp 34) (.tmp 36) 112 rfl w.heap.size 3 i0 (.int .i64 0) 1 8 Tryz.underlying112 hi hz0 hz1 HZ2.out rfl (by decide) _ k (ints l) rfl HOA.out ⟨wr.heap.size, 0, none⟩ 1 1 [.int .i64 (N : Int)] rfl rfl (one_newI wr _) (by intro u hu; simp at hu; subst hu; rfl) (by decide) (by unfold maxLen; omega) (by omega) HBA.out.size _ rfl ?_; intro g2 cap2 w3 hown3 hgrow _ _; have HO3 := Lib.hid (HP2.out w3 g2 cap2 hown3); have HB3 := Lib.hid (HBA.out.grown hgrow HBA.out.size (fun q hq => by cases hq; exact HB5.out)); clear hown3 hgrow)
       exact ⟨⟨k + 1, g2, cap2, (j : Int) - 4, l ++ [(N : Int)], rfl, rfl, by omega, by omega, Lib.hid ⟨HO3.out.1, HO3.out.2.1, by rw [HO3.out.2.2, show ((j : Int) - 4).toNat = lo by omega]⟩, HB3.out⟩, by simp [intOf]; omega⟩
   ·
    have hz0' : z.toNat = 0 := by omega
    obtain ⟨o1, o2, o3⟩ := hP.out
    obtain ⟨b1, b2, b3, b4, b5⟩ := own_blk o1
    rw [hz0', List.drop_zero] at o3
    have cT := trimmed_some l g 0 k cap wr b2 b3 b4 (ABlk.row (P := []) (S := []) (by simpa using b1))
    have hNS : ∀ q, NSl (wr.drewN q) (.slice (some ⟨g, 0, none⟩) (trz l).length cap) (nmN L) := fun q => NSl.of_blk (S := []) (by rw [List.append_nil]; exact b1) b2 o2 o3 b3 b4
    have HNS := Lib.hid hNS
    have HB := Lib.hid hB
    clear hNS o1 o2 o3 b1 b2 b3 b4 b5 hP hB
    go_wp2_with (go_at_call 176; (with_reducible refine cT.mono ?_); rintro e w' ⟨rfl, q, rfl⟩)
    go_ret
    exact ⟨_, rfl, HNS.out _, below_drewN HB.out _⟩
theorem bytes_take1 {s : ByteArray} {x : UInt8} {l : List UInt8} (e : s.data.toList = x :: l) : s.extract 0 1 = ⟨#[x]⟩ := by
 apply ByteArray.ext
 rw [ByteArray.data_extract, ← Array.toList_inj, Array.toList_extract, e]
 simp
set_option maxRecDepth 100000 in
theorem hasPrefix_any (s : ByteArray) (L : List UInt8) (w : World) (hL : s.data.toList = L) (hz : L.length ≤ 60000) :
  Calls Tryz.prog 183 #[.string s, .string ⟨#[45]⟩] w fun e w' => e = .returned (.bool (L.head? == some 45)) ∧ w = w' := by
 have hs := bytes_size hL
 have hp : (⟨#[45]⟩ : ByteArray).size = 1 := rfl
 cases L with
 | nil =>
  rw [List.length_nil] at hs
  clear hL
  go_enter Tryz.func183, Tryz.ntmps183
  go_wp2
  go_ret
  exact ⟨rfl, rfl⟩
 | cons x l =>
  rw [List.length_cons] at hs hz
  have h1 := bytes_take1 hL
  have h3 := Lib.hid (show ((x :: l).head? == some 45) = (x == 45) by simp)
  have h4 : (1 : Int) ≤ (s.size : Int) := by omega
  clear hL
  go_enter Tryz.func183, Tryz.ntmps183
  go_wp2
  go_ret
  exact ⟨by rw [h3.out]; rfl, rfl⟩
theorem bytes_tail' {t : ByteArray} {x : UInt8} {l : List UInt8} (e : t.data.toList = x :: l) : t.extract 1 t.size = ⟨l.toArray⟩ := by
 apply ByteArray.ext
 rw [← Array.toList_inj, bytes_tail e]
set_option maxRecDepth 100000 in
theorem cutS_any (s : ByteArray) (L : List UInt8) (w : World) (hL : s.data.toList = L) (hz : L.length ≤ 60000) :
  Calls Tryz.prog 195 #[.string s, .string ⟨#[45]⟩] w fun e w' => e = .returned (.tuple #[.string ⟨(bare L).toArray⟩, .bool (L.head? == some 45)]) ∧ w = w' := by
 have hs := bytes_size hL
 have hp : (⟨#[45]⟩ : ByteArray).size = 1 := rfl
 have cH := fun W => hasPrefix_any s L W hL hz
 by_cases h : L.head? = some 45
 ·
  obtain ⟨l, rfl⟩ : ∃ l, L = 45 :: l := by
   cases L with
   | nil => simp at h
   | cons x l => simp at h; exact ⟨l, by rw [h]⟩
  have ht := bytes_tail' hL
  rw [List.length_cons] at hs hz
  have hb : bare (45 :: l) = l := by simp [bare]
  have he : ((45 :: l : List UInt8).head? == some 45) = true := by simp
  rw [hb, he]
  simp only [he] at cH
  rw [hs] at ht
  have h4 : (1 : Int) ≤ (s.size : Int) := by omega
  clear hL hb he h
  go_enter Tryz.func195, Tryz.ntmps195
  go_wp2_with (go_at_call 183; (with_reducible refine (cH _).mono ?_); rintro e w' ⟨rfl, rfl⟩)
  go_ret2
  exact ⟨rfl, rfl⟩
 ·
  have hb : bare L = L := by rw [bare, if_neg h]
  have he : (L.head? == some 45) = false := by simpa using h
  have hS : s = ⟨L.toArray⟩ := ByteArray.ext (by rw [← Array.toList_inj, hL])
  rw [hb, he]
  simp only [he] at cH
  have HS := Lib.hid hS
  clear hL hb he h hS
  go_enter Tryz.func195, Tryz.ntmps195
  go_wp2_with (go_at_call 183; (with_reducible refine (cH _).mono ?_); rintro e w' ⟨rfl, rfl⟩)
  go_ret2
  exact ⟨by rw [← HS.out]; rfl, rfl⟩
set_option maxRecDepth 100000 in
theorem trimS_any (s : ByteArray) (L : List UInt8) (w : World) (hL : s.data.toList = L) (hz : L.length ≤ 60000) :
  Calls Tryz.prog 194 #[.string s, .string ⟨#[45]⟩] w fun e w' => e = .returned (.string ⟨(bare L).toArray⟩) ∧ w = w' := by
 have hs := bytes_size hL
 have hp : (⟨#[45]⟩ : ByteArray).size = 1 := rfl
 have cH := fun W => hasPrefix_any s L W hL hz
 by_cases h : L.head? = some 45
 ·
  obtain ⟨l, rfl⟩ : ∃ l, L = 45 :: l := by
   cases L with
   | nil => simp at h
   | cons x l => simp at h; exact ⟨l, by rw [h]⟩
  have ht := bytes_tail' hL
  rw [List.length_cons] at hs hz
  have hb : bare (45 :: l) = l := by simp [bare]
  have he : ((45 :: l : List UInt8).head? == some 45) = true := by simp
  rw [hb]
  simp only [he] at cH
  rw [hs] at ht
  have h4 : (1 : Int) ≤ (s.size : Int) := by omega
  clear hL hb he h
  go_enter Tryz.func194, Tryz.ntmps194
  go_wp2_with (go_at_call 183; (with_reducible refine (cH _).mono ?_); rintro e w' ⟨rfl, rfl⟩)
  go_ret
  exact ⟨rfl, rfl⟩
 ·
  have hb : bare L = L := by rw [bare, if_neg h]
  have he : (L.head? == some 45) = false := by simpa using h
  have hS : s = ⟨L.toArray⟩ := ByteArray.ext (by rw [← Array.toList_inj, hL])
  rw [hb]
  simp only [he] at cH
  have HS := Lib.hid hS
  clear hL hb he h hS
  go_enter Tryz.func194, Tryz.ntmps194
  go_wp2_with (go_at_call 183; (with_reducible refine (cH _).mono ?_); rintro e w' ⟨rfl, rfl⟩)
  go_ret
  exact ⟨by rw [← HS.out]; rfl, rfl⟩
set_option maxRecDepth 100000 in
theorem cut_any (s : ByteArray) (L : List UInt8) (w : World) (hL : s.data.toList = L) (hz : L.length ≤ 60000) :
  Calls Tryz.prog 171 #[.string s, .string ⟨#[45]⟩] w fun e w' => e = .returned (.tuple #[.string ⟨(bare L).toArray⟩, .bool (L.head? == some 45)]) ∧ w = w' := by
 have cS := fun W => cutS_any s L W hL hz
 generalize (bare L).toArray = r at *
 generalize (L.head? == some 45) = b at *
 clear hL hz
 go_enter Tryz.func171, Tryz.ntmps171
 go_wp2_with (go_at_call 195; (with_reducible refine (cS _).mono ?_); rintro e w' ⟨rfl, rfl⟩)
 go_ret2
 exact ⟨rfl, rfl⟩
set_option maxRecDepth 100000 in
theorem trimP_any (s : ByteArray) (L : List UInt8) (w : World) (hL : s.data.toList = L) (hz : L.length ≤ 60000) :
  Calls Tryz.prog 170 #[.string s, .string ⟨#[45]⟩] w fun e w' => e = .returned (.string ⟨(bare L).toArray⟩) ∧ w = w' := by
 have cS := fun W => trimS_any s L W hL hz
 generalize (bare L).toArray = r at *
 clear hL hz
 go_enter Tryz.func170, Tryz.ntmps170
 go_wp2_with (go_at_call 194; (with_reducible refine (cS _).mono ?_); rintro e w' ⟨rfl, rfl⟩)
 go_ret
 exact ⟨rfl, rfl⟩
def Num (w : World) (v : Value) (z : Int) : Prop := ∃ u, v = .agg #[.bool (decide (z < 0)), u] ∧ NSl w u z.natAbs
theorem Num.below {w w' : World} {v : Value} {z : Int} (h : Num w v z) (hb : Below w.heap.size w w') : Num w' v z := by
 obtain ⟨u, e, h⟩ := h
 exact ⟨u, e, h.below hb⟩
theorem info_number : (Tryz.prog.info? 114).map (·.size) = some 2 := by kernel_rfl
theorem below_alloc (w : World) (o : Obj) : Below w.heap.size w (w.alloc o) := (Below.refl _ w).alloc (Nat.le_refl _) o
set_option maxRecDepth 100000 in
theorem signed_any (b : Bool) (n : Nat) (u : Value) (w : World) (h : NSl w u n) (hl : (grp n).length ≤ 60000) :
  Calls Tryz.prog 154 #[.bool b, u] w fun e w' => ∃ v, e = .returned v ∧ Num w' v (if b then -(n : Int) else n) ∧ Below w.heap.size w w' := by
 obtain ⟨a, c, rfl⟩ := h.form
 obtain ⟨k, hk⟩ : ∃ k, (grp n).length = k := ⟨_, rfl⟩
 have hk0 : k = 0 ↔ n = 0 := by rw [← hk]; exact List.length_eq_zero_iff.trans grp_nil
 rw [hk] at h hl ⊢
 have H := Lib.hid h
 have HK := Lib.hid hk0
 clear h hk hk0
 cases b
 ·
  go_enter Tryz.func154, Tryz.ntmps154
  go_wp2
  refine bodyPost_ret (results_cell_row rfl _ _ w.heap.size 114 #[.bool false, .slice a k c] (0, 0) _ rfl (World.alloc_heap_new w _) Tryz.underlying114 rfl info_number) rfl ?_
  refine ⟨_, rfl, ⟨_, ?_, NSl.below (by simpa using H.out) (below_alloc w _)⟩, below_alloc w _⟩
  have e : decide ((n : Int) < 0) = false := by simp
  rw [← e]
 ·
  by_cases h0 : k = 0
  ·
   have hn := HK.out.1 h0
   subst h0
   subst hn
   go_enter Tryz.func154, Tryz.ntmps154
   go_wp2
   refine bodyPost_ret (results_cell_row rfl _ _ w.heap.size 114 #[.bool false, .slice a 0 c] (0, 0) _ rfl (World.alloc_heap_new w _) Tryz.underlying114 rfl info_number) rfl ?_
   refine ⟨_, rfl, ⟨.slice a 0 c, ?_, NSl.below (by simpa using H.out) (below_alloc w _)⟩, below_alloc w _⟩
   rfl
  ·
   have hn : 0 < n := by have := HK.out; omega
   have hk1 : decide (0 < k) = true := by rw [decide_eq_true_eq]; omega
   have HK1 := Lib.hid hk1
   clear hk1
   go_enter Tryz.func154, Tryz.ntmps154
   go_wp2
   refine bodyPost_ret (results_cell_row rfl _ _ w.heap.size 114 #[.bool (decide (0 < k)), .slice a k c] (0, 0) _ rfl (World.alloc_heap_new w _) Tryz.underlying114 rfl info_number) rfl ?_
   refine ⟨_, rfl, ⟨_, ?_, NSl.below (by simpa using H.out) (below_alloc w _)⟩, below_alloc w _⟩
   rw [HK1.out]
   have e : decide (-(n : Int) < 0) = true := by simp; omega
   rw [← e]
theorem vld_sign {L : List UInt8} (h : vld L = true) : decide (num L < 0) = (L.head? == some 45) ∧ (num L).natAbs = nmN (bare L) := by
 by_cases h0 : L.head? = some 45
 ·
  obtain ⟨l, rfl⟩ : ∃ l, L = 45 :: l := by
   cases L with
   | nil => simp at h0
   | cons x l => simp at h0; exact ⟨l, by rw [h0]⟩
  have h1 := (vld_txt h).1
  have hb : bare (45 :: l) = l := by simp [bare]
  rw [hb, num_neg]
  refine ⟨?_, by omega⟩
  rw [show ((45 :: l : List UInt8).head? == some 45) = true by simp, decide_eq_true_eq]
  rcases Nat.eq_zero_or_pos (nmN l) with hz | hz
  ·
   exfalso
   rw [num_neg, hz] at h1
   have : txt (-((0 : Nat) : Int)) = [48] := by rw [txt, if_neg (by simp), txN, if_pos (by simp)]
   rw [this] at h1
   simp at h1
  ·
   omega
 ·
  rw [num_pos h0, bare, if_neg h0]
  refine ⟨?_, by omega⟩
  rw [show (L.head? == some 45) = false by simpa using h0]
  simp
theorem vld_digits {L : List UInt8} (h : vld L = true) : (bare L).all isDg = true ∧ (bare L).length ≤ 200 ∧ L.length ≤ 201 := by
 have h1 := vld_txt h
 have h2 := txt_bare (num L)
 rw [h1.1] at h2
 have h3 : (bare L).length ≤ 200 := by
  rw [vld, Bool.and_eq_true, decide_eq_true_eq] at h
  exact h.1.2
 refine ⟨by rw [h2]; exact txN_all _, h3, ?_⟩
 rw [bare] at h3
 split at h3
 ·
  have := List.length_tail (l := L); omega
 ·
  omega
def NBlk (w : World) (g : Nat) (x y : Value) : Prop := w.heap[g]? = some (.cells #[x, y] 114 (0, 0))
theorem NBlk.c0 {w : World} {g : Nat} {x y : Value} (h : NBlk w g x y) : w.cell? ⟨g, 0, none⟩ = some x := by rw [World.cell?, h]; rfl
theorem NBlk.c1 {w : World} {g : Nat} {x y : Value} (h : NBlk w g x y) : w.cell? ⟨g, 1, none⟩ = some y := by rw [World.cell?, h]; rfl
theorem NBlk.c2 {w : World} {g : Nat} {x y : Value} (h : NBlk w g x y) {j : Nat} (hj : 2 ≤ j) : w.cell? ⟨g, j, none⟩ = none := by
 rw [World.cell?, h]
 simp only [List.getElem?_toArray]
 exact List.getElem?_eq_none (by simpa using hj)
theorem NSl.over {w w2 : World} {v : Value} {n g : Nat} {p : Bool} {u : Value} (h : NSl w v n) (h0 : w.cell? ⟨g, 0, none⟩ = some (.bool p)) (h1 : w.cell? ⟨g, 1, none⟩ = some u) (heq : ∀ k, k ≠ g → w2.heap[k]? = w.heap[k]?) (hsz : w.heap.size ≤ w2.heap.size) (h2 : ∀ j, 2 ≤ j → w.cell? ⟨g, j, none⟩ = none) (hu : ∀ x, u ≠ .int .i64 x) : NSl w2 v n := by
 rcases h with h | ⟨b, o, c, rfl, g1, g2, g3, g4⟩
 ·
  exact .inl h
 ·
  by_cases hb : b = g
  ·
   subst hb
   have hl : grp n = [] := by
    cases hg : grp n with
    | nil => rfl
    | cons x l =>
     exfalso
     have h3 := g4 0 x (by rw [hg]; rfl)
     rw [Nat.add_zero] at h3
     rcases Nat.lt_or_ge o 2 with ho | ho
     ·
      rcases (show o = 0 ∨ o = 1 by omega) with rfl | rfl
      ·
       rw [h0] at h3; cases h3
      ·
       rw [h1] at h3; exact hu x (Option.some.inj h3)
     ·
      rw [h2 o ho] at h3; cases h3
   exact .inl ⟨_, c, by rw [hl]; rfl, hl⟩
  ·
   refine .inr ⟨b, o, c, rfl, g1, g2, Nat.lt_of_lt_of_le g3 hsz, fun j x hj => ?_⟩
   have h3 := g4 j x hj
   rw [World.cell?] at h3 ⊢
   rw [heq b hb]; exact h3
theorem NBlk.f {w : World} {g : Nat} {x y : Value} (h : NBlk w g x y) (j : Nat) : w.frozen? ⟨g, j, none⟩ = false := by rw [World.frozen?, h]; simp
theorem NBlk.s0 {w : World} {g : Nat} {x y : Value} (h : NBlk w g x y) (v : Value) : NBlk (w.setCell ⟨g, 0, none⟩ v) g v y := by
 rw [NBlk, heap_setCell_same w g 0 _ _ v h]; rfl
theorem NBlk.s1 {w : World} {g : Nat} {x y : Value} (h : NBlk w g x y) (v : Value) : NBlk (w.setCell ⟨g, 1, none⟩ v) g x v := by
 rw [NBlk, heap_setCell_same w g 1 _ _ v h]; rfl
set_option maxRecDepth 100000 in
theorem read_any (s : ByteArray) (L : List UInt8) (w : World) (hL : s.data.toList = L) (hv : vld L = true) :
  Calls Tryz.prog 150 #[.string s] w fun e w' => ∃ v, e = .returned v ∧ Num w' v (num L) ∧ Below w.heap.size w w' := by
 obtain ⟨d1, d2, d3⟩ := vld_digits hv
 obtain ⟨s1, s2⟩ := vld_sign hv
 have cC := fun W => cut_any s L W hL (by omega)
 have cR := fun W => readNatural_any ⟨(bare L).toArray⟩ (bare L) _ W (by simp) rfl d2 d1
 have S2 := Lib.hid s2
 have S1 := Lib.hid s1
 generalize (bare L).toArray = r at *
 generalize (L.head? == some 45) = b at *
 clear hL d1 d2 d3 s1 s2
 go_enter Tryz.func150, Tryz.ntmps150
 go_wp2_with (first | (go_at_call 171; (with_reducible refine (cC _).mono ?_); rintro e w' ⟨rfl, rfl⟩) | (go_at_call 172; (with_reducible refine (cR _).mono ?_); rintro e w' ⟨u, rfl, hN, hB⟩; obtain ⟨a, c, rfl⟩ := hN.form; have h0 : NBlk w' w.heap.size (.bool false) (.slice none 0 0) := (hB.block _ (by simp)).trans (World.alloc_heap_new w _); have c0 := h0.c0; have c1' := h0.c1; have N2 := Lib.hid (fun j (hj : 2 ≤ j) => h0.c2 hj); have f0 := h0.f 0; have hA := h0.s0 (.bool b); have c1 := hA.c1; have f1 := hA.f 1; have HA := Lib.hid (hA.s1 (.slice a (grp (nmN (bare L))).length c)); have HN := Lib.hid hN; have HB := Lib.hid hB; clear h0 hA hN hB))
 have HB2 := (((below_alloc w (.cells #[.bool false, .slice none 0 0] 114)).trans (HB.out.mono (by simp))).setCell (p := ⟨w.heap.size, 0, none⟩) (Nat.le_refl _) (.bool b)).setCell (p := ⟨w.heap.size, 1, none⟩) (Nat.le_refl _) (.slice a (grp (nmN (bare L))).length c)
 have hN2 := HN.out.over (w2 := (w'.setCell ⟨w.heap.size, 0, none⟩ (.bool b)).setCell ⟨w.heap.size, 1, none⟩ (.slice a (grp (nmN (bare L))).length c)) c0 c1' (fun k hk => (Below.heap_setCell _ _ _ _ hk).trans (Below.heap_setCell _ _ _ _ hk)) (by simp [World.setCell]) N2.out (fun x e => by cases e)
 refine bodyPost_ret (results_cell_row rfl _ _ w.heap.size 114 #[.bool b, .slice a (grp (nmN (bare L))).length c] (0, 0) _ rfl HA.out Tryz.underlying114 rfl info_number) rfl ?_
 exact ⟨_, rfl, ⟨_, by rw [S1.out], by rw [S2.out]; exact hN2⟩, HB2⟩
theorem bytes_get {t : ByteArray} {j : Nat} {x : UInt8} {l : List UInt8} (e : t.data.toList = l) (hx : l[j]? = some x) : ∀ h : j < t.size, t[j] = x := fun h => by
 have h1 : t.data[j]? = some x := by rw [← Array.getElem?_toList, e]; exact hx
 exact (Array.getElem?_eq_some_iff.1 h1).2
set_option maxRecDepth 100000 in
set_option maxHeartbeats 1000000 in
theorem Valid_any (s : ByteArray) (L : List UInt8) (w : World) (hL : s.data.toList = L) (hz : L.length ≤ 60000) :
  Calls Tryz.prog 149 #[.string s] w fun e w' => e = .returned (.bool (vld L)) ∧ Below w.heap.size w w' := by
 have cT := fun W => trimP_any s L W hL hz
 obtain ⟨d, hd⟩ : ∃ d : ByteArray, d = ⟨(bare L).toArray⟩ := ⟨_, rfl⟩
 have hdl : d.data.toList = bare L := by rw [hd]
 have hds := bytes_size hdl
 rw [← hd] at cT
 clear hd
 have hbl : (bare L).length ≤ 60000 := by rw [bare]; split <;> (try rw [List.length_tail]) <;> omega
 by_cases hA : bare L = []
 ·
  have hv : vld L = false := by rw [vld, hA]; simp
  rw [hA, List.length_nil] at hds
  rw [hv]
  have e1 : d.toList.isEmpty = true := by rw [ByteArray.toList_eq, hdl, hA]; rfl
  clear hdl hL hA hv hbl
  go_enter Tryz.func149, Tryz.ntmps149
  go_wp2_with (go_at_call 170; (with_reducible refine (cT _).mono ?_); rintro e w' ⟨rfl, rfl⟩)
  go_ret
  exact ⟨rfl, ⟨rfl, rfl, rfl, Nat.le_refl _, fun _ _ => rfl⟩⟩
 ·
  obtain ⟨x, D, hD⟩ : ∃ x D, bare L = x :: D := by
   cases h : bare L with
   | nil => exact absurd h hA
   | cons x D => exact ⟨x, D, rfl⟩
  have e1 : d.toList.isEmpty = false := by rw [ByteArray.toList_eq, hdl, hD]; rfl
  obtain ⟨n, hn⟩ : ∃ n, (bare L).length = n := ⟨_, rfl⟩
  have hn0 : 0 < n := by rw [← hn, hD]; simp
  rw [hn] at hds hbl
  by_cases hB : 200 < n
  ·
   have hv : vld L = false := by rw [vld, hn, decide_eq_false (by omega)]; rfl
   rw [hv]
   clear hdl hL hA hv hD hn
   go_enter Tryz.func149, Tryz.ntmps149
   go_wp2_with (go_at_call 170; (with_reducible refine (cT _).mono ?_); rintro e w' ⟨rfl, rfl⟩)
   go_ret
   exact ⟨rfl, ⟨rfl, rfl, rfl, Nat.le_refl _, fun _ _ => rfl⟩⟩
  ·
   have hg : decide (0 < (bare L).length ∧ (bare L).length ≤ 200) = true := by rw [decide_eq_true_eq]; omega
   have hx0 := bytes_get (j := 0) hdl (by rw [hD]; rfl)
   have hnB : (n : Int) ≤ 200 := by omega
   by_cases h48 : x = 48
   ·
    have hv : vld L = (s.toList == [48]) := by
     rw [vld, hg, hD, h48, Bool.true_and, if_pos (show (48 :: D).head? = some 48 from rfl), ByteArray.toList_eq, hL]
     by_cases h : L = [48]
     ·
      subst h; rfl
     ·
      rw [decide_eq_false h]; symm; rw [beq_eq_false_iff_ne]; exact h
    subst h48
    have HV := Lib.hid hv
    clear hdl hL hA hv hD hn hg
    go_enter Tryz.func149, Tryz.ntmps149
    go_wp2_with (go_at_call 170; (with_reducible refine (cT _).mono ?_); rintro e w' ⟨rfl, rfl⟩)
    go_ret
    exact ⟨by rw [HV.out]; rfl, ⟨rfl, rfl, rfl, Nat.le_refl _, fun _ _ => rfl⟩⟩
   ·
    have e2 : ((x.toNat : Int) == 48) = false := by
     rw [beq_eq_false_iff_ne, ne_eq]
     intro h
     exact h48 (UInt8.toNat_inj.1 (by have : x.toNat = 48 := by omega
                                      rw [this]; rfl))
    have hv : vld L = (bare L).all isDg := by
     rw [vld, hg, Bool.true_and, if_neg (by rw [hD]; simpa using h48)]
    have HV := Lib.hid hv
    have HDL := Lib.hid hdl
    have HN := Lib.hid hn
    clear hdl hL hA hv hD hn hg h48
    go_enter Tryz.func149, Tryz.ntmps149
    go_wp2_with (go_at_call 170; (with_reducible refine (cT _).mono ?_); rintro e w' ⟨rfl, rfl⟩)
    go_loopw [21] (fun i wr => ∃ j : Nat, j ≤ n ∧ i = .int .i64 (j : Int) ∧ Hid (((bare L).take j).all isDg = true) ∧ w = wr) (fun i _ => n - (intOf i).toNat)
    case atStart => exact ⟨0, by omega, rfl, Lib.hid (by rw [List.take_zero]; rfl), rfl⟩
    case round =>
     clear hx0 e2
     obtain ⟨j, hj, rfl, hP, rfl⟩ := hrel
     by_cases h1 : j < n
     ·
      have hjl : j < (bare L).length := by rw [HN.out]; exact h1
      obtain ⟨y, hy⟩ : ∃ y, (bare L)[j]? = some y := ⟨_, List.getElem?_eq_getElem hjl⟩
      have hyd := bytes_get HDL.out hy
      have HM := Lib.hid (List.mem_of_getElem? hy)
      have HT := Lib.hid (show ((bare L).take (j + 1)).all isDg = isDg y by
       rw [List.take_add_one, hy, List.all_append, hP.out]; simp)
      by_cases h48 : y.toNat < 48
      ·
       have hF : vld L = false := by
        rw [HV.out]
        rw [Bool.eq_false_iff]
        intro h
        have := (isDg_iff y).1 (List.all_eq_true.1 h y HM.out)
        omega
       have HF := Lib.hid hF
       clear hF hP hjl hy
       go_wp2
       go_ret
       exact ⟨by rw [HF.out]; rfl, ⟨rfl, rfl, rfl, Nat.le_refl _, fun _ _ => rfl⟩⟩
      ·
       by_cases h57 : 57 < y.toNat
       ·
        have hF : vld L = false := by
         rw [HV.out]
         rw [Bool.eq_false_iff]
         intro h
         have := (isDg_iff y).1 (List.all_eq_true.1 h y HM.out)
         omega
        have HF := Lib.hid hF
        clear hF hP hjl hy
        go_wp2
        go_ret
        exact ⟨by rw [HF.out]; rfl, ⟨rfl, rfl, rfl, Nat.le_refl _, fun _ _ => rfl⟩⟩
       ·
        have hd := (isDg_iff y).2 ⟨by omega, by omega⟩
        rw [hd] at HT
        clear hP hjl hy hd
        go_wp2
        exact ⟨⟨j + 1, by omega, by go_num, HT, trivial⟩, by simp [intOf]; omega⟩
     ·
      have hjn : j = n := by omega
      have e3 : (bare L).take j = bare L := List.take_of_length_le (by rw [HN.out]; omega)
      rw [e3] at hP
      have hT : vld L = true := by rw [HV.out, hP.out]
      have HTT := Lib.hid hT
      subst hjn
      clear hT hP e3
      go_wp2
      go_ret
      exact ⟨by rw [HTT.out]; rfl, ⟨rfl, rfl, rfl, Nat.le_refl _, fun _ _ => rfl⟩⟩
set_option maxRecDepth 100000 in
set_option maxHeartbeats 1000000 in
theorem ncompare_any (x y : Int) (v1 v2 : Value) (w : World) (hl1 : (grp x.natAbs).length ≤ 50000) (hl2 : (grp y.natAbs).length ≤ 50000) (h1 : Num w v1 x) (h2 : Num w v2 y) :
  Calls Tryz.prog 115 #[v1, v2] w fun e w' => e = .returned (.int .i64 (cmpN x y)) ∧ Below w.heap.size w w' := by
 obtain ⟨u1, rfl, h1⟩ := h1
 obtain ⟨u2, rfl, h2⟩ := h2
 obtain ⟨a1, c1, rfl⟩ := h1.form
 obtain ⟨a2, c2, rfl⟩ := h2.form
 have cA : ∀ W, Below w.heap.size w W → _ := fun W hB => compare_any x.natAbs y.natAbs _ _ W (by omega) (h1.below hB) (h2.below hB)
 have cB : ∀ W, Below w.heap.size w W → _ := fun W hB => compare_any y.natAbs x.natAbs _ _ W (by omega) (h2.below hB) (h1.below hB)
 generalize (grp x.natAbs).length = k1 at *
 generalize (grp y.natAbs).length = k2 at *
 obtain ⟨b1, hb1⟩ : ∃ b, decide (x < 0) = b := ⟨_, rfl⟩
 obtain ⟨b2, hb2⟩ : ∃ b, decide (y < 0) = b := ⟨_, rfl⟩
 rw [hb1, hb2]
 have s1 : Below w.heap.size w w := Below.refl _ _
 clear h1 h2
 cases b1 <;> cases b2
 all_goals
  simp only [decide_eq_false_iff_not, decide_eq_true_eq] at hb1 hb2
  obtain ⟨z, hz⟩ : ∃ z, cmpN x y = z := ⟨_, rfl⟩
  rw [hz]
 ·
  have e : cmpN (x.natAbs : Int) (y.natAbs : Int) = z := by rw [← hz, show (x.natAbs : Int) = x by omega, show (y.natAbs : Int) = y by omega]
  rw [e] at cA
  clear cB hb1 hb2 hz e
  have hBB := (below_alloc w (.cells #[.bool false, .slice a1 k1 c1] 114)).alloc (by simp) (.cells #[.bool false, .slice a2 k2 c2] 114)
  go_enter Tryz.func115, Tryz.ntmps115
  go_wp2_with (go_at_call 156; (with_reducible refine (cA _ hBB).mono ?_); rintro e w' ⟨rfl, hB'⟩)
  go_ret
  exact ⟨rfl, hBB.trans (hB'.mono hBB.size)⟩
 ·
  have e : z = 1 := by rw [← hz, cmpN, if_neg (by omega), if_pos (by omega)]
  subst e
  clear cA cB hb1 hb2 hz
  have hBB := (below_alloc w (.cells #[.bool false, .slice a1 k1 c1] 114)).alloc (by simp) (.cells #[.bool true, .slice a2 k2 c2] 114)
  go_enter Tryz.func115, Tryz.ntmps115
  go_wp2
  go_ret
  exact ⟨rfl, hBB⟩
 ·
  have e : z = -1 := by rw [← hz, cmpN, if_pos (by omega)]
  subst e
  clear cA cB hb1 hb2 hz
  have hBB := (below_alloc w (.cells #[.bool true, .slice a1 k1 c1] 114)).alloc (by simp) (.cells #[.bool false, .slice a2 k2 c2] 114)
  go_enter Tryz.func115, Tryz.ntmps115
  go_wp2
  go_ret
  exact ⟨rfl, hBB⟩
 ·
  have e : cmpN (y.natAbs : Int) (x.natAbs : Int) = z := by
   rw [← hz]; unfold cmpN
   split <;> split <;> (try split) <;> (try split) <;> omega
  rw [e] at cB
  clear cA hb1 hb2 hz e
  have hBB := (below_alloc w (.cells #[.bool true, .slice a1 k1 c1] 114)).alloc (by simp) (.cells #[.bool true, .slice a2 k2 c2] 114)
  go_enter Tryz.func115, Tryz.ntmps115
  go_wp2_with (go_at_call 156; (with_reducible refine (cB _ hBB).mono ?_); rintro e w' ⟨rfl, hB'⟩)
  go_ret
  exact ⟨rfl, hBB.trans (hB'.mono hBB.size)⟩
theorem isZero_any (x : Int) (v : Value) (w : World) (h1 : Num w v x) :
  Calls Tryz.prog 112 #[v] w fun e w' => e = .returned (.bool (decide (x = 0))) ∧ Below w.heap.size w w' := by
 obtain ⟨u1, rfl, h1⟩ := h1
 obtain ⟨a1, c1, rfl⟩ := h1.form
 obtain ⟨k, hk⟩ : ∃ k, (grp x.natAbs).length = k := ⟨_, rfl⟩
 have hk0 : k = 0 ↔ x.natAbs = 0 := by rw [← hk]; exact List.length_eq_zero_iff.trans grp_nil
 have hx : decide (x = 0) = ((k : Int) == 0) := by
  by_cases h : k = 0
  ·
   rw [decide_eq_true (by have := hk0.1 h; omega), h]; rfl
  ·
   rw [decide_eq_false (fun e => h (hk0.2 (by omega)))]
   symm
   rw [beq_eq_false_iff_ne]; omega
 rw [hx, hk]
 generalize decide (x < 0) = b at *
 have hBB := below_alloc w (.cells #[.bool b, .slice a1 k c1] 114)
 clear h1 hk hk0 hx
 go_enter Tryz.func112, Tryz.ntmps112
 go_wp2
 go_ret
 exact ⟨rfl, hBB⟩
set_option maxRecDepth 100000 in
theorem ntext_any (x : Int) (v : Value) (w : World) (hl : (grp x.natAbs).length ≤ 5000) (h1 : Num w v x) :
  Calls Tryz.prog 114 #[v] w fun e w' => e = .returned (.string ⟨(txt x).toArray⟩) ∧ Below w.heap.size w w' := by
 obtain ⟨u1, rfl, h1⟩ := h1
 obtain ⟨a1, c1, rfl⟩ := h1.form
 have cT : ∀ W, Below w.heap.size w W → _ := fun W hB => text_any x.natAbs _ W hl (h1.below hB)
 have hbig : (txN x.natAbs).length ≤ 4 * (grp x.natAbs).length + 1 := txN_len (Nat.lt_of_lt_of_le (grp_lt _) (by
  rw [show (10000 : Nat) = 10 ^ 4 from rfl, ← Nat.pow_mul]
  exact Nat.pow_le_pow_right (by decide) (by omega))) (by omega)
 generalize (grp x.natAbs).length = k at *
 by_cases hx : x < 0
 ·
  rw [decide_eq_true hx]
  have ht : txt x = 45 :: txN x.natAbs := by rw [txt, if_pos hx]
  have hcat : (⟨#[45]⟩ : ByteArray) ++ ⟨(txN x.natAbs).toArray⟩ = ⟨(txt x).toArray⟩ := by
   rw [ht]; apply ByteArray.ext; rw [ByteArray.data_append, ← Array.toList_inj]; simp
  have hsz : (⟨(txN x.natAbs).toArray⟩ : ByteArray).size = (txN x.natAbs).length := rfl
  rw [← hsz] at hbig
  have hBB := below_alloc w (.cells #[.bool true, .slice a1 k c1] 114)
  rw [← hcat]
  generalize (⟨(txN x.natAbs).toArray⟩ : ByteArray) = S at *
  clear h1 hcat ht hsz
  go_enter Tryz.func114, Tryz.ntmps114
  go_wp2_with (go_at_call 155; (with_reducible refine (cT _ hBB).mono ?_); rintro e w' ⟨rfl, hB'⟩)
  go_ret
  exact ⟨rfl, hBB.trans (hB'.mono hBB.size)⟩
 ·
  rw [decide_eq_false hx]
  have ht : txt x = txN x.natAbs := by rw [txt, if_neg hx]
  rw [ht]
  have hBB := below_alloc w (.cells #[.bool false, .slice a1 k c1] 114)
  generalize (⟨(txN x.natAbs).toArray⟩ : ByteArray) = S at *
  clear h1 ht
  go_enter Tryz.func114, Tryz.ntmps114
  go_wp2_with (go_at_call 155; (with_reducible refine (cT _ hBB).mono ?_); rintro e w' ⟨rfl, hB'⟩)
  go_ret
  exact ⟨rfl, hBB.trans (hB'.mono hBB.size)⟩
theorem NBlk.lt {w : World} {g : Nat} {x y : Value} (h : NBlk w g x y) : g < w.heap.size := (Array.getElem?_eq_some_iff.1 h).1
theorem NBlk.keep {w w' : World} {n g : Nat} {x y : Value} (h : NBlk w g x y) (hb : Below n w w') (hg : g < n) : NBlk w' g x y := (hb.block g hg).trans h
theorem signed_plus (n : Nat) (u : Value) (w : World) (h : NSl w u n) (hl : (grp n).length ≤ 60000) :
  Calls Tryz.prog 154 #[.bool false, u] w fun e w' => ∃ a k c, e = .returned (.agg #[.bool false, .slice a k c]) ∧ NSl w' (.slice a k c) n ∧ Below w.heap.size w w' :=
 (signed_any false n u w h hl).mono fun e w' ⟨v, he, ⟨u', hu, hn⟩, hb⟩ => by
  obtain ⟨a, c, rfl⟩ := hn.form
  refine ⟨a, _, c, ?_, by simpa using hn, hb⟩
  rw [he, hu]
  simp
set_option maxRecDepth 100000 in
set_option maxHeartbeats 1000000 in
theorem ngcd_any (x y : Int) (v1 v2 : Value) (w : World) (hl1 : (grp x.natAbs).length ≤ 50000) (hl2 : (grp y.natAbs).length ≤ 50000) (h1 : Num w v1 x) (h2 : Num w v2 y) :
  Calls Tryz.prog 127 #[v1, v2] w fun e w' => ∃ v, e = .returned v ∧ Num w' v (Nat.gcd x.natAbs y.natAbs : Nat) ∧ Below w.heap.size w w' := by
 obtain ⟨u1, rfl, h1⟩ := h1
 obtain ⟨u2, rfl, h2⟩ := h2
 obtain ⟨a1, c1, rfl⟩ := h1.form
 obtain ⟨a2, c2, rfl⟩ := h2.form
 have cA : ∀ W, Below w.heap.size w W → _ := fun W hB => gcd_any x.natAbs y.natAbs _ _ W (by omega) (by omega) (h1.below hB) (h2.below hB)
 have hg : (grp (Nat.gcd x.natAbs y.natAbs)).length ≤ 60000 := by
  rcases Nat.eq_zero_or_pos x.natAbs with h | h
  ·
   rw [h, Nat.gcd_zero_left]; omega
  ·
   exact Nat.le_trans (grp_mono (Nat.gcd_le_left _ h)) (by omega)
 generalize (grp x.natAbs).length = k1 at *
 generalize (grp y.natAbs).length = k2 at *
 generalize decide (x < 0) = b1 at *
 generalize decide (y < 0) = b2 at *
 have cS := fun (W : World) u n (h : NSl W u n) (hl : (grp n).length ≤ 60000) => signed_plus n u W h hl
 have CS := Lib.hid cS
 have CA := Lib.hid cA
 clear h1 h2 cS cA
 go_enter Tryz.func127, Tryz.ntmps127
 have hB3 := (((below_alloc w (.cells #[.bool b1, .slice a1 k1 c1] 114)).alloc (by simp only [World.size_alloc]; omega) (.cells #[.bool b2, .slice a2 k2 c2] 114)).alloc (by simp only [World.size_alloc]; omega) (.cells #[.bool false, .slice none 0 0] 114))
 have hW : NBlk (((w.alloc (.cells #[.bool b1, .slice a1 k1 c1] 114)).alloc (.cells #[.bool b2, .slice a2 k2 c2] 114)).alloc (.cells #[.bool false, .slice none 0 0] 114)) (w.heap.size + 1 + 1) (.bool false) (.slice none 0 0) := by
  have e := World.alloc_heap_new ((w.alloc (.cells #[.bool b1, .slice a1 k1 c1] 114)).alloc (.cells #[.bool b2, .slice a2 k2 c2] 114)) (.cells #[.bool false, .slice none 0 0] 114)
  rw [World.size_alloc, World.size_alloc] at e
  exact e
 have HB3 := Lib.hid hB3
 have HW := Lib.hid hW
 clear hB3 hW
 go_wp2_with (first | (go_at_call 164; (with_reducible refine (CA.out _ HB3.out).mono ?_); rintro e w1 ⟨g, rfl, n1, B1⟩; have hW1 := HW.out.keep B1 (by simp only [World.size_alloc]; omega); have N1 := Lib.hid n1; have BB1 := Lib.hid (HB3.out.trans (B1.mono (by simp only [World.size_alloc]; omega))); have HW1 := Lib.hid hW1; clear n1 B1 hW1) | (go_at_call 154; (with_reducible refine (CS.out _ _ _ N1.out hg).mono ?_); rintro e w2 ⟨a, k, c, rfl, n2, B2⟩; have h0 := HW1.out.keep B2 HW1.out.lt; have c0 := h0.c0; have f0 := h0.f 0; have c1' := h0.c1; have N2 := Lib.hid (fun j (hj : 2 ≤ j) => h0.c2 hj); have hA := h0.s0 (.bool false); have c1 := hA.c1; have f1 := hA.f 1; have HA := Lib.hid (hA.s1 (.slice a k c)); clear hA; have HN2 := Lib.hid n2; have BB2 := Lib.hid (BB1.out.trans (B2.mono BB1.out.size)); clear h0 n2 B2))
 have hB9 := (BB2.out.setCell (p := ⟨w.heap.size + 1 + 1, 0, none⟩) (by show w.heap.size ≤ w.heap.size + 1 + 1; omega) (.bool false)).setCell (p := ⟨w.heap.size + 1 + 1, 1, none⟩) (by show w.heap.size ≤ w.heap.size + 1 + 1; omega) (.slice a k c)
 have hN9 := HN2.out.over (w2 := (w2.setCell ⟨w.heap.size + 1 + 1, 0, none⟩ (.bool false)).setCell ⟨w.heap.size + 1 + 1, 1, none⟩ (.slice a k c)) c0 c1' (fun q hq => (Below.heap_setCell _ _ _ _ hq).trans (Below.heap_setCell _ _ _ _ hq)) (by simp [World.setCell]) N2.out (fun x e => by cases e)
 refine bodyPost_ret (results_cell_row rfl _ _ (w.heap.size + 1 + 1) 114 #[.bool false, .slice a k c] (0, 0) _ rfl HA.out Tryz.underlying114 rfl info_number) rfl ?_
 exact ⟨_, rfl, ⟨.slice a k c, by simp, by simpa using hN9⟩, hB9⟩
theorem mul_sign (x y : Int) : decide (x * y < 0) = ((decide (x < 0) != decide (y < 0)) && decide (0 < x.natAbs * y.natAbs)) := by
 rcases Int.lt_trichotomy x 0 with hx | hx | hx <;> rcases Int.lt_trichotomy y 0 with hy | hy | hy
 ·
  have := Int.mul_pos_of_neg_of_neg hx hy
  rw [decide_eq_false (by omega), decide_eq_true hx, decide_eq_true hy]; rfl
 ·
  subst hy; simp
 ·
  have := Int.mul_neg_of_neg_of_pos hx hy
  rw [decide_eq_true this, decide_eq_true hx, decide_eq_false (by omega), decide_eq_true (Nat.mul_pos (by omega) (by omega))]; rfl
 ·
  subst hx; simp
 ·
  subst hx; simp
 ·
  subst hx; simp
 ·
  have := Int.mul_neg_of_pos_of_neg hx hy
  rw [decide_eq_true this, decide_eq_false (by omega), decide_eq_true hy, decide_eq_true (Nat.mul_pos (by omega) (by omega))]; rfl
 ·
  subst hy; simp
 ·
  have := Int.mul_pos hx hy
  rw [decide_eq_false (by omega), decide_eq_false (by omega), decide_eq_false (by omega)]; rfl
theorem signed_form (b : Bool) (n : Nat) (u : Value) (w : World) (h : NSl w u n) (hl : (grp n).length ≤ 60000) :
  Calls Tryz.prog 154 #[.bool b, u] w fun e w' => ∃ q a k c, e = .returned (.agg #[.bool q, .slice a k c]) ∧ q = (b && decide (0 < n)) ∧ NSl w' (.slice a k c) n ∧ Below w.heap.size w w' :=
 (signed_any b n u w h hl).mono fun e w' ⟨v, he, ⟨u', hu, hn⟩, hb⟩ => by
  obtain ⟨a, c, rfl⟩ := hn.form
  refine ⟨b && decide (0 < n), a, _, c, ?_, rfl, by cases b <;> simpa using hn, hb⟩
  rw [he, hu]
  cases b
  ·
   simp
  ·
   simp only [if_true, Bool.true_and]
   have e : decide (-(n : Int) < 0) = decide (0 < n) := by
    by_cases h : 0 < n
    ·
     rw [decide_eq_true h, decide_eq_true (by omega)]
    ·
     rw [decide_eq_false h, decide_eq_false (by omega)]
   rw [e, Int.natAbs_neg, Int.natAbs_natCast]
theorem three_blocks (w : World) (x y x' y' x'' y'' : Value) : NBlk (((w.alloc (.cells #[x, y] 114)).alloc (.cells #[x', y'] 114)).alloc (.cells #[x'', y''] 114)) w.heap.size x y ∧ NBlk (((w.alloc (.cells #[x, y] 114)).alloc (.cells #[x', y'] 114)).alloc (.cells #[x'', y''] 114)) (w.heap.size + 1) x' y' ∧ NBlk (((w.alloc (.cells #[x, y] 114)).alloc (.cells #[x', y'] 114)).alloc (.cells #[x'', y''] 114)) (w.heap.size + 1 + 1) x'' y'' := by
 refine ⟨?_, ?_, ?_⟩
 ·
  exact (Go.heap_alloc_old _ _ (by simp only [World.size_alloc]; omega)).trans ((Go.heap_alloc_old _ _ (by simp only [World.size_alloc]; omega)).trans (Go.heap_alloc_new w _))
 ·
  have e := Go.heap_alloc_new (w.alloc (.cells #[x, y] 114)) (.cells #[x', y'] 114)
  rw [World.size_alloc] at e
  exact (Go.heap_alloc_old _ _ (by simp only [World.size_alloc]; omega)).trans e
 ·
  have e := Go.heap_alloc_new ((w.alloc (.cells #[x, y] 114)).alloc (.cells #[x', y'] 114)) (.cells #[x'', y''] 114)
  rw [World.size_alloc, World.size_alloc] at e
  exact e
theorem drew_left {n : Nat} {w w1 : World} (h : Below n w.drew w1) : Below n w w1 := ⟨h.os, h.tape, h.output, h.size, h.block⟩
theorem NBlk.far {w : World} {g g2 j : Nat} {x y v : Value} (h : NBlk w g x y) (hg : g ≠ g2) : NBlk (w.setCell ⟨g2, j, none⟩ v) g x y := (Below.heap_setCell _ _ _ _ hg).trans h
set_option maxRecDepth 100000 in
set_option maxHeartbeats 1000000 in
theorem ntimes_any (x y : Int) (v1 v2 : Value) (w : World) (hl1 : (grp x.natAbs).length ≤ 5000) (hl2 : (grp y.natAbs).length ≤ 5000) (h1 : Num w v1 x) (h2 : Num w v2 y) :
  Calls Tryz.prog 163 #[v1, v2] w fun e w' => ∃ v, e = .returned v ∧ Num w' v (x * y) ∧ Below w.heap.size w w' := by
 obtain ⟨u1, rfl, h1⟩ := h1
 obtain ⟨u2, rfl, h2⟩ := h2
 obtain ⟨a1, c1, rfl⟩ := h1.form
 obtain ⟨a2, c2, rfl⟩ := h2.form
 have cA : ∀ W, Below w.heap.size w W → _ := fun W hB => times_any x.natAbs y.natAbs _ _ W (by omega) (by omega) (h1.below hB) (h2.below hB)
 have hg : (grp (x.natAbs * y.natAbs)).length ≤ 60000 := by
  have h : x.natAbs * y.natAbs < 10000 ^ ((grp x.natAbs).length + (grp y.natAbs).length) := by
   rw [Nat.pow_add]
   exact Nat.mul_lt_mul'' (grp_lt _) (grp_lt _)
  exact Nat.le_trans (grp_len h) (by omega)
 have HP := Lib.hid (mul_sign x y)
 generalize (grp x.natAbs).length = k1 at *
 generalize (grp y.natAbs).length = k2 at *
 have HQ := Lib.hid (Int.natAbs_mul x y)
 generalize x.natAbs * y.natAbs = M at *
 generalize decide (x < 0) = b1 at *
 generalize decide (y < 0) = b2 at *
 have cS := fun (W : World) b u n (h : NSl W u n) (hl : (grp n).length ≤ 60000) => signed_form b n u W h hl
 have CS := Lib.hid cS
 have CA := Lib.hid cA
 clear h1 h2 cS cA
 cases b1 <;> cases b2
 ·
  go_enter Tryz.func163, Tryz.ntmps163
  have hB3 := (((below_alloc w (.cells #[.bool false, .slice a1 k1 c1] 114)).alloc (by simp only [World.size_alloc]; omega) (.cells #[.bool false, .slice a2 k2 c2] 114)).alloc (by simp only [World.size_alloc]; omega) (.cells #[.bool false, .slice none 0 0] 114))
  obtain ⟨hW0, hW1, hW⟩ := three_blocks w (.bool false) (.slice a1 k1 c1) (.bool false) (.slice a2 k2 c2) (.bool false) (.slice none 0 0)
  have HB3 := Lib.hid hB3
  have HW := Lib.hid hW
  have HW0 := Lib.hid hW0
  have HW1 := Lib.hid hW1
  clear hB3 hW hW0 hW1
  go_wp2_with fail
  refine wp_region_noPanic ?_
  refine wp_region_held_drew (S := fun W => NBlk W w.heap.size (.bool false) (.slice a1 k1 c1) ∧ NBlk W (w.heap.size + 1) (.bool false) (.slice a2 k2 c2)) (by kernel_rfl) ?_ (fun hHeld => ?_)
  ·
   exact ⟨HW0.out, HW1.out⟩
  refine tk 0 (oi := ({ dst := some 5, op := .fieldAddr 114 (.tmp 2) 0, type := 0, pos := "number.go:62", after := #[], guard := none } : Oper)) (v := ?v0_1ff) ?hy0_1ff ?re0_1ff
  case hy0_1ff => ((intro w hSw; obtain ⟨q1, q2⟩ := hSw; have e1 := q1.c0; have e2 := q1.c1; have e3 := q2.c0; have e4 := q2.c1; go_simp) <;> with_reducible rfl)
  (try simp only [Act.put, List.setIfInBounds_toArray, List.set_cons_zero, List.set_cons_succ])
  refine tk 1 (oi := ({ dst := some 6, op := .load 4 (.tmp 5), type := 4, pos := "number.go:62", after := #[⟨0, .data⟩], guard := none } : Oper)) (v := ?v1_2ff) ?hy1_2ff ?re1_2ff
  case hy1_2ff => ((intro w hSw; obtain ⟨q1, q2⟩ := hSw; have e1 := q1.c0; have e2 := q1.c1; have e3 := q2.c0; have e4 := q2.c1; go_simp) <;> with_reducible rfl)
  (try simp only [Act.put, List.setIfInBounds_toArray, List.set_cons_zero, List.set_cons_succ])
  refine tk 2 (oi := ({ dst := some 7, op := .fieldAddr 114 (.tmp 3) 0, type := 0, pos := "number.go:62", after := #[], guard := none } : Oper)) (v := ?v2_3ff) ?hy2_3ff ?re2_3ff
  case hy2_3ff => ((intro w hSw; obtain ⟨q1, q2⟩ := hSw; have e1 := q1.c0; have e2 := q1.c1; have e3 := q2.c0; have e4 := q2.c1; go_simp) <;> with_reducible rfl)
  (try simp only [Act.put, List.setIfInBounds_toArray, List.set_cons_zero, List.set_cons_succ])
  refine tk 3 (oi := ({ dst := some 8, op := .load 4 (.tmp 7), type := 4, pos := "number.go:62", after := #[⟨2, .data⟩], guard := none } : Oper)) (v := ?v3_4ff) ?hy3_4ff ?re3_4ff
  case hy3_4ff => ((intro w hSw; obtain ⟨q1, q2⟩ := hSw; have e1 := q1.c0; have e2 := q1.c1; have e3 := q2.c0; have e4 := q2.c1; go_simp) <;> with_reducible rfl)
  (try simp only [Act.put, List.setIfInBounds_toArray, List.set_cons_zero, List.set_cons_succ])
  refine tk 4 (oi := ({ dst := some 9, op := .binOp .neq 4 (.tmp 6) (.tmp 8) 4, type := 4, pos := "number.go:62", after := #[⟨1, .data⟩, ⟨3, .data⟩], guard := none } : Oper)) (v := ?v4_5ff) ?hy4_5ff ?re4_5ff
  case hy4_5ff => ((intro w hSw; obtain ⟨q1, q2⟩ := hSw; have e1 := q1.c0; have e2 := q1.c1; have e3 := q2.c0; have e4 := q2.c1; go_simp) <;> with_reducible rfl)
  (try simp only [Act.put, List.setIfInBounds_toArray, List.set_cons_zero, List.set_cons_succ])
  refine tk 5 (oi := ({ dst := some 10, op := .fieldAddr 114 (.tmp 2) 1, type := 0, pos := "number.go:62", after := #[], guard := none } : Oper)) (v := ?v5_6ff) ?hy5_6ff ?re5_6ff
  case hy5_6ff => ((intro w hSw; obtain ⟨q1, q2⟩ := hSw; have e1 := q1.c0; have e2 := q1.c1; have e3 := q2.c0; have e4 := q2.c1; go_simp) <;> with_reducible rfl)
  (try simp only [Act.put, List.setIfInBounds_toArray, List.set_cons_zero, List.set_cons_succ])
  refine tk 6 (oi := ({ dst := some 11, op := .load 112 (.tmp 10), type := 112, pos := "number.go:62", after := #[⟨5, .data⟩], guard := none } : Oper)) (v := ?v6_7ff) ?hy6_7ff ?re6_7ff
  case hy6_7ff => ((intro w hSw; obtain ⟨q1, q2⟩ := hSw; have e1 := q1.c0; have e2 := q1.c1; have e3 := q2.c0; have e4 := q2.c1; go_simp) <;> with_reducible rfl)
  (try simp only [Act.put, List.setIfInBounds_toArray, List.set_cons_zero, List.set_cons_succ])
  refine tk 7 (oi := ({ dst := some 12, op := .fieldAddr 114 (.tmp 3) 1, type := 0, pos := "number.go:62", after := #[], guard := none } : Oper)) (v := ?v7_8ff) ?hy7_8ff ?re7_8ff
  case hy7_8ff => ((intro w hSw; obtain ⟨q1, q2⟩ := hSw; have e1 := q1.c0; have e2 := q1.c1; have e3 := q2.c0; have e4 := q2.c1; go_simp) <;> with_reducible rfl)
  (try simp only [Act.put, List.setIfInBounds_toArray, List.set_cons_zero, List.set_cons_succ])
  refine tk 8 (oi := ({ dst := some 13, op := .load 112 (.tmp 12), type := 112, pos := "number.go:62", after := #[⟨7, .data⟩], guard := none } : Oper)) (v := ?v8_9ff) ?hy8_9ff ?re8_9ff
  case hy8_9ff => ((intro w hSw; obtain ⟨q1, q2⟩ := hSw; have e1 := q1.c0; have e2 := q1.c1; have e3 := q2.c0; have e4 := q2.c1; go_simp) <;> with_reducible rfl)
  (try simp only [Act.put, List.setIfInBounds_toArray, List.set_cons_zero, List.set_cons_succ])
  refine wpAnyH_ready (rs := [9]) (by kernel_rfl) (by simp) ?_
  refine AllReadyH.cons (o := ({ dst := some 14, op := .call { callee := .value (.func 186), args := #[.tmp 11, .tmp 13], argTypes := #[112, 112] }, type := 112, pos := "number.go:62", after := #[⟨6, .data⟩, ⟨8, .data⟩], guard := none } : Oper)) rfl (fun K hK => ?_) ?_
  ·
   go_simp
   go_at_call 186
   refine (CA.out _ HB3.out.drew).mono ?_
   rintro e w1 ⟨g, rfl, n1, B1⟩
   have hW1 := HW.out.keep (drew_left B1) (by simp only [Go.heap_drew, World.size_alloc]; omega); have N1 := Lib.hid n1; have BB1 := Lib.hid (HB3.out.trans ((drew_left B1).mono (by simp only [Go.heap_drew, World.size_alloc]; omega))); have HW1' := Lib.hid hW1; clear n1 hW1
   (try go_wp2_with fail)
   refine hK.out _ _ ?_ (fun hHeld => ?_)
   ·
    exact ⟨hHeld.1.keep B1 hHeld.1.lt, hHeld.2.keep B1 hHeld.2.lt⟩
   clear hK K
   (try simp only [Act.put, List.setIfInBounds_toArray, List.set_cons_zero, List.set_cons_succ])
   refine wpAnyH_ready (rs := [10]) (by kernel_rfl) (by simp) ?_
   refine AllReadyH.cons (o := ({ dst := some 15, op := .call { callee := .value (.func 154), args := #[.tmp 9, .tmp 14], argTypes := #[4, 112] }, type := 114, pos := "number.go:62", after := #[⟨4, .data⟩, ⟨9, .data⟩, ⟨9, .chain⟩], guard := none } : Oper)) rfl (fun K hK => ?_) ?_
   ·
    go_simp
    go_at_call 154
    refine (CS.out _ _ _ _ N1.out hg).mono ?_
    rintro e w2 ⟨q, a, k, c, rfl, hq, n2, B2⟩
    have h0 := HW1'.out.keep B2 HW1'.out.lt; have c0 := h0.c0; have f0 := h0.f 0; have c1' := h0.c1; have N2 := Lib.hid (fun j (hj : 2 ≤ j) => h0.c2 hj); have hA := h0.s0 (.bool q); have c1 := hA.c1; have f1 := hA.f 1; have HA := Lib.hid (hA.s1 (.slice a k c)); clear hA; have HN2 := Lib.hid n2; have BB2 := Lib.hid (BB1.out.trans (B2.mono BB1.out.size)); have HZ := Lib.hid hq; clear h0 n2 hq
    (try go_wp2_with fail)
    refine hK.out _ _ ?_ (fun hHeld => ?_)
    ·
     exact ⟨hHeld.1.keep B2 hHeld.1.lt, hHeld.2.keep B2 hHeld.2.lt⟩
    clear hK K
    (try simp only [Act.put, List.setIfInBounds_toArray, List.set_cons_zero, List.set_cons_succ])
    refine wpAnyH_ready (rs := [11]) (by kernel_rfl) (by simp) ?_
    refine AllReadyH.cons (o := ({ dst := none, op := .store 114 (.tmp 4) (.tmp 15), type := 0, pos := "number.go:62", after := #[⟨10, .data⟩, ⟨10, .chain⟩, ⟨0, .phase⟩, ⟨1, .phase⟩, ⟨2, .phase⟩, ⟨3, .phase⟩, ⟨4, .phase⟩, ⟨5, .phase⟩, ⟨6, .phase⟩, ⟨7, .phase⟩, ⟨8, .phase⟩, ⟨9, .phase⟩, ⟨10, .phase⟩], guard := none } : Oper)) rfl (fun K hK => ?_) ?_
    ·
     go_simp
     refine hK.out _ _ ?_ (fun hHeld => ?_)
     ·
      exact ⟨(hHeld.1.far (by omega)).far (by omega), (hHeld.2.far (by omega)).far (by omega)⟩
     clear hK K
     (try simp only [Act.put, List.setIfInBounds_toArray, List.set_cons_zero, List.set_cons_succ])
     refine wpAnyH_done (by kernel_rfl) ?_ _
     refine NoPanic.normal ?_
     go_wp2_with fail
     have hB9 := (BB2.out.setCell (p := ⟨w.heap.size + 1 + 1, 0, none⟩) (by show w.heap.size ≤ w.heap.size + 1 + 1; omega) (.bool q)).setCell (p := ⟨w.heap.size + 1 + 1, 1, none⟩) (by show w.heap.size ≤ w.heap.size + 1 + 1; omega) (.slice a k c)
     have hN9 := HN2.out.over (w2 := (w2.setCell ⟨w.heap.size + 1 + 1, 0, none⟩ (.bool q)).setCell ⟨w.heap.size + 1 + 1, 1, none⟩ (.slice a k c)) c0 c1' (fun q hq => (Below.heap_setCell _ _ _ _ hq).trans (Below.heap_setCell _ _ _ _ hq)) (by simp [World.setCell]) N2.out (fun x e => by cases e)
     refine bodyPost_ret (results_cell_row rfl _ _ (w.heap.size + 1 + 1) 114 #[.bool q, .slice a k c] (0, 0) _ rfl HA.out Tryz.underlying114 rfl info_number) rfl ?_
     exact ⟨_, rfl, ⟨.slice a k c, by rw [HP.out, HZ.out]; rfl, by rw [HQ.out]; exact hN9⟩, hB9⟩
    exact AllReadyH.nil
   exact AllReadyH.nil
  exact AllReadyH.nil
 ·
  go_enter Tryz.func163, Tryz.ntmps163
  have hB3 := (((below_alloc w (.cells #[.bool false, .slice a1 k1 c1] 114)).alloc (by simp only [World.size_alloc]; omega) (.cells #[.bool true, .slice a2 k2 c2] 114)).alloc (by simp only [World.size_alloc]; omega) (.cells #[.bool false, .slice none 0 0] 114))
  obtain ⟨hW0, hW1, hW⟩ := three_blocks w (.bool false) (.slice a1 k1 c1) (.bool true) (.slice a2 k2 c2) (.bool false) (.slice none 0 0)
  have HB3 := Lib.hid hB3
  have HW := Lib.hid hW
  have HW0 := Lib.hid hW0
  have HW1 := Lib.hid hW1
  clear hB3 hW hW0 hW1
  go_wp2_with fail
  refine wp_region_noPanic ?_
  refine wp_region_held_drew (S := fun W => NBlk W w.heap.size (.bool false) (.slice a1 k1 c1) ∧ NBlk W (w.heap.size + 1) (.bool true) (.slice a2 k2 c2)) (by kernel_rfl) ?_ (fun hHeld => ?_)
  ·
   exact ⟨HW0.out, HW1.out⟩
  refine tk 0 (oi := ({ dst := some 5, op := .fieldAddr 114 (.tmp 2) 0, type := 0, pos := "number.go:62", after := #[], guard := none } : Oper)) (v := ?v0_1ft) ?hy0_1ft ?re0_1ft
  case hy0_1ft => ((intro w hSw; obtain ⟨q1, q2⟩ := hSw; have e1 := q1.c0; have e2 := q1.c1; have e3 := q2.c0; have e4 := q2.c1; go_simp) <;> with_reducible rfl)
  (try simp only [Act.put, List.setIfInBounds_toArray, List.set_cons_zero, List.set_cons_succ])
  refine tk 1 (oi := ({ dst := some 6, op := .load 4 (.tmp 5), type := 4, pos := "number.go:62", after := #[⟨0, .data⟩], guard := none } : Oper)) (v := ?v1_2ft) ?hy1_2ft ?re1_2ft
  case hy1_2ft => ((intro w hSw; obtain ⟨q1, q2⟩ := hSw; have e1 := q1.c0; have e2 := q1.c1; have e3 := q2.c0; have e4 := q2.c1; go_simp) <;> with_reducible rfl)
  (try simp only [Act.put, List.setIfInBounds_toArray, List.set_cons_zero, List.set_cons_succ])
  refine tk 2 (oi := ({ dst := some 7, op := .fieldAddr 114 (.tmp 3) 0, type := 0, pos := "number.go:62", after := #[], guard := none } : Oper)) (v := ?v2_3ft) ?hy2_3ft ?re2_3ft
  case hy2_3ft => ((intro w hSw; obtain ⟨q1, q2⟩ := hSw; have e1 := q1.c0; have e2 := q1.c1; have e3 := q2.c0; have e4 := q2.c1; go_simp) <;> with_reducible rfl)
  (try simp only [Act.put, List.setIfInBounds_toArray, List.set_cons_zero, List.set_cons_succ])
  refine tk 3 (oi := ({ dst := some 8, op := .load 4 (.tmp 7), type := 4, pos := "number.go:62", after := #[⟨2, .data⟩], guard := none } : Oper)) (v := ?v3_4ft) ?hy3_4ft ?re3_4ft
  case hy3_4ft => ((intro w hSw; obtain ⟨q1, q2⟩ := hSw; have e1 := q1.c0; have e2 := q1.c1; have e3 := q2.c0; have e4 := q2.c1; go_simp) <;> with_reducible rfl)
  (try simp only [Act.put, List.setIfInBounds_toArray, List.set_cons_zero, List.set_cons_succ])
  refine tk 4 (oi := ({ dst := some 9, op := .binOp .neq 4 (.tmp 6) (.tmp 8) 4, type := 4, pos := "number.go:62", after := #[⟨1, .data⟩, ⟨3, .data⟩], guard := none } : Oper)) (v := ?v4_5ft) ?hy4_5ft ?re4_5ft
  case hy4_5ft => ((intro w hSw; obtain ⟨q1, q2⟩ := hSw; have e1 := q1.c0; have e2 := q1.c1; have e3 := q2.c0; have e4 := q2.c1; go_simp) <;> with_reducible rfl)
  (try simp only [Act.put, List.setIfInBounds_toArray, List.set_cons_zero, List.set_cons_succ])
  refine tk 5 (oi := ({ dst := some 10, op := .fieldAddr 114 (.tmp 2) 1, type := 0, pos := "number.go:62", after := #[], guard := none } : Oper)) (v := ?v5_6ft) ?hy5_6ft ?re5_6ft
  case hy5_6ft => ((intro w hSw; obtain ⟨q1, q2⟩ := hSw; have e1 := q1.c0; have e2 := q1.c1; have e3 := q2.c0; have e4 := q2.c1; go_simp) <;> with_reducible rfl)
  (try simp only [Act.put, List.setIfInBounds_toArray, List.set_cons_zero, List.set_cons_succ])
  refine tk 6 (oi := ({ dst := some 11, op := .load 112 (.tmp 10), type := 112, pos := "number.go:62", after := #[⟨5, .data⟩], guard := none } : Oper)) (v := ?v6_7ft) ?hy6_7ft ?re6_7ft
  case hy6_7ft => ((intro w hSw; obtain ⟨q1, q2⟩ := hSw; have e1 := q1.c0; have e2 := q1.c1; have e3 := q2.c0; have e4 := q2.c1; go_simp) <;> with_reducible rfl)
  (try simp only [Act.put, List.setIfInBounds_toArray, List.set_cons_zero, List.set_cons_succ])
  refine tk 7 (oi := ({ dst := some 12, op := .fieldAddr 114 (.tmp 3) 1, type := 0, pos := "number.go:62", after := #[], guard := none } : Oper)) (v := ?v7_8ft) ?hy7_8ft ?re7_8ft
  case hy7_8ft => ((intro w hSw; obtain ⟨q1, q2⟩ := hSw; have e1 := q1.c0; have e2 := q1.c1; have e3 := q2.c0; have e4 := q2.c1; go_simp) <;> with_reducible rfl)
  (try simp only [Act.put, List.setIfInBounds_toArray, List.set_cons_zero, List.set_cons_succ])
  refine tk 8 (oi := ({ dst := some 13, op := .load 112 (.tmp 12), type := 112, pos := "number.go:62", after := #[⟨7, .data⟩], guard := none } : Oper)) (v := ?v8_9ft) ?hy8_9ft ?re8_9ft
  case hy8_9ft => ((intro w hSw; obtain ⟨q1, q2⟩ := hSw; have e1 := q1.c0; have e2 := q1.c1; have e3 := q2.c0; have e4 := q2.c1; go_simp) <;> with_reducible rfl)
  (try simp only [Act.put, List.setIfInBounds_toArray, List.set_cons_zero, List.set_cons_succ])
  refine wpAnyH_ready (rs := [9]) (by kernel_rfl) (by simp) ?_
  refine AllReadyH.cons (o := ({ dst := some 14, op := .call { callee := .value (.func 186), args := #[.tmp 11, .tmp 13], argTypes := #[112, 112] }, type := 112, pos := "number.go:62", after := #[⟨6, .data⟩, ⟨8, .data⟩], guard := none } : Oper)) rfl (fun K hK => ?_) ?_
  ·
   go_simp
   go_at_call 186
   refine (CA.out _ HB3.out.drew).mono ?_
   rintro e w1 ⟨g, rfl, n1, B1⟩
   have hW1 := HW.out.keep (drew_left B1) (by simp only [Go.heap_drew, World.size_alloc]; omega); have N1 := Lib.hid n1; have BB1 := Lib.hid (HB3.out.trans ((drew_left B1).mono (by simp only [Go.heap_drew, World.size_alloc]; omega))); have HW1' := Lib.hid hW1; clear n1 hW1
   (try go_wp2_with fail)
   refine hK.out _ _ ?_ (fun hHeld => ?_)
   ·
    exact ⟨hHeld.1.keep B1 hHeld.1.lt, hHeld.2.keep B1 hHeld.2.lt⟩
   clear hK K
   (try simp only [Act.put, List.setIfInBounds_toArray, List.set_cons_zero, List.set_cons_succ])
   refine wpAnyH_ready (rs := [10]) (by kernel_rfl) (by simp) ?_
   refine AllReadyH.cons (o := ({ dst := some 15, op := .call { callee := .value (.func 154), args := #[.tmp 9, .tmp 14], argTypes := #[4, 112] }, type := 114, pos := "number.go:62", after := #[⟨4, .data⟩, ⟨9, .data⟩, ⟨9, .chain⟩], guard := none } : Oper)) rfl (fun K hK => ?_) ?_
   ·
    go_simp
    go_at_call 154
    refine (CS.out _ _ _ _ N1.out hg).mono ?_
    rintro e w2 ⟨q, a, k, c, rfl, hq, n2, B2⟩
    have h0 := HW1'.out.keep B2 HW1'.out.lt; have c0 := h0.c0; have f0 := h0.f 0; have c1' := h0.c1; have N2 := Lib.hid (fun j (hj : 2 ≤ j) => h0.c2 hj); have hA := h0.s0 (.bool q); have c1 := hA.c1; have f1 := hA.f 1; have HA := Lib.hid (hA.s1 (.slice a k c)); clear hA; have HN2 := Lib.hid n2; have BB2 := Lib.hid (BB1.out.trans (B2.mono BB1.out.size)); have HZ := Lib.hid hq; clear h0 n2 hq
    (try go_wp2_with fail)
    refine hK.out _ _ ?_ (fun hHeld => ?_)
    ·
     exact ⟨hHeld.1.keep B2 hHeld.1.lt, hHeld.2.keep B2 hHeld.2.lt⟩
    clear hK K
    (try simp only [Act.put, List.setIfInBounds_toArray, List.set_cons_zero, List.set_cons_succ])
    refine wpAnyH_ready (rs := [11]) (by kernel_rfl) (by simp) ?_
    refine AllReadyH.cons (o := ({ dst := none, op := .store 114 (.tmp 4) (.tmp 15), type := 0, pos := "number.go:62", after := #[⟨10, .data⟩, ⟨10, .chain⟩, ⟨0, .phase⟩, ⟨1, .phase⟩, ⟨2, .phase⟩, ⟨3, .phase⟩, ⟨4, .phase⟩, ⟨5, .phase⟩, ⟨6, .phase⟩, ⟨7, .phase⟩, ⟨8, .phase⟩, ⟨9, .phase⟩, ⟨10, .phase⟩], guard := none } : Oper)) rfl (fun K hK => ?_) ?_
    ·
     go_simp
     refine hK.out _ _ ?_ (fun hHeld => ?_)
     ·
      exact ⟨(hHeld.1.far (by omega)).far (by omega), (hHeld.2.far (by omega)).far (by omega)⟩
     clear hK K
     (try simp only [Act.put, List.setIfInBounds_toArray, List.set_cons_zero, List.set_cons_succ])
     refine wpAnyH_done (by kernel_rfl) ?_ _
     refine NoPanic.normal ?_
     go_wp2_with fail
     have hB9 := (BB2.out.setCell (p := ⟨w.heap.size + 1 + 1, 0, none⟩) (by show w.heap.size ≤ w.heap.size + 1 + 1; omega) (.bool q)).setCell (p := ⟨w.heap.size + 1 + 1, 1, none⟩) (by show w.heap.size ≤ w.heap.size + 1 + 1; omega) (.slice a k c)
     have hN9 := HN2.out.over (w2 := (w2.setCell ⟨w.heap.size + 1 + 1, 0, none⟩ (.bool q)).setCell ⟨w.heap.size + 1 + 1, 1, none⟩ (.slice a k c)) c0 c1' (fun q hq => (Below.heap_setCell _ _ _ _ hq).trans (Below.heap_setCell _ _ _ _ hq)) (by simp [World.setCell]) N2.out (fun x e => by cases e)
     refine bodyPost_ret (results_cell_row rfl _ _ (w.heap.size + 1 + 1) 114 #[.bool q, .slice a k c] (0, 0) _ rfl HA.out Tryz.underlying114 rfl info_number) rfl ?_
     exact ⟨_, rfl, ⟨.slice a k c, by rw [HP.out, HZ.out]; rfl, by rw [HQ.out]; exact hN9⟩, hB9⟩
    exact AllReadyH.nil
   exact AllReadyH.nil
  exact AllReadyH.nil
 ·
  go_enter Tryz.func163, Tryz.ntmps163
  have hB3 := (((below_alloc w (.cells #[.bool true, .slice a1 k1 c1] 114)).alloc (by simp only [World.size_alloc]; omega) (.cells #[.bool false, .slice a2 k2 c2] 114)).alloc (by simp only [World.size_alloc]; omega) (.cells #[.bool false, .slice none 0 0] 114))
  obtain ⟨hW0, hW1, hW⟩ := three_blocks w (.bool true) (.slice a1 k1 c1) (.bool false) (.slice a2 k2 c2) (.bool false) (.slice none 0 0)
  have HB3 := Lib.hid hB3
  have HW := Lib.hid hW
  have HW0 := Lib.hid hW0
  have HW1 := Lib.hid hW1
  clear hB3 hW hW0 hW1
  go_wp2_with fail
  refine wp_region_noPanic ?_
  refine wp_region_held_drew (S := fun W => NBlk W w.heap.size (.bool true) (.slice a1 k1 c1) ∧ NBlk W (w.heap.size + 1) (.bool false) (.slice a2 k2 c2)) (by kernel_rfl) ?_ (fun hHeld => ?_)
  ·
   exact ⟨HW0.out, HW1.out⟩
  refine tk 0 (oi := ({ dst := some 5, op := .fieldAddr 114 (.tmp 2) 0, type := 0, pos := "number.go:62", after := #[], guard := none } : Oper)) (v := ?v0_1tf) ?hy0_1tf ?re0_1tf
  case hy0_1tf => ((intro w hSw; obtain ⟨q1, q2⟩ := hSw; have e1 := q1.c0; have e2 := q1.c1; have e3 := q2.c0; have e4 := q2.c1; go_simp) <;> with_reducible rfl)
  (try simp only [Act.put, List.setIfInBounds_toArray, List.set_cons_zero, List.set_cons_succ])
  refine tk 1 (oi := ({ dst := some 6, op := .load 4 (.tmp 5), type := 4, pos := "number.go:62", after := #[⟨0, .data⟩], guard := none } : Oper)) (v := ?v1_2tf) ?hy1_2tf ?re1_2tf
  case hy1_2tf => ((intro w hSw; obtain ⟨q1, q2⟩ := hSw; have e1 := q1.c0; have e2 := q1.c1; have e3 := q2.c0; have e4 := q2.c1; go_simp) <;> with_reducible rfl)
  (try simp only [Act.put, List.setIfInBounds_toArray, List.set_cons_zero, List.set_cons_succ])
  refine tk 2 (oi := ({ dst := some 7, op := .fieldAddr 114 (.tmp 3) 0, type := 0, pos := "number.go:62", after := #[], guard := none } : Oper)) (v := ?v2_3tf) ?hy2_3tf ?re2_3tf
  case hy2_3tf => ((intro w hSw; obtain ⟨q1, q2⟩ := hSw; have e1 := q1.c0; have e2 := q1.c1; have e3 := q2.c0; have e4 := q2.c1; go_simp) <;> with_reducible rfl)
  (try simp only [Act.put, List.setIfInBounds_toArray, List.set_cons_zero, List.set_cons_succ])
  refine tk 3 (oi := ({ dst := some 8, op := .load 4 (.tmp 7), type := 4, pos := "number.go:62", after := #[⟨2, .data⟩], guard := none } : Oper)) (v := ?v3_4tf) ?hy3_4tf ?re3_4tf
  case hy3_4tf => ((intro w hSw; obtain ⟨q1, q2⟩ := hSw; have e1 := q1.c0; have e2 := q1.c1; have e3 := q2.c0; have e4 := q2.c1; go_simp) <;> with_reducible rfl)
  (try simp only [Act.put, List.setIfInBounds_toArray, List.set_cons_zero, List.set_cons_succ])
  refine tk 4 (oi := ({ dst := some 9, op := .binOp .neq 4 (.tmp 6) (.tmp 8) 4, type := 4, pos := "number.go:62", after := #[⟨1, .data⟩, ⟨3, .data⟩], guard := none } : Oper)) (v := ?v4_5tf) ?hy4_5tf ?re4_5tf
  case hy4_5tf => ((intro w hSw; obtain ⟨q1, q2⟩ := hSw; have e1 := q1.c0; have e2 := q1.c1; have e3 := q2.c0; have e4 := q2.c1; go_simp) <;> with_reducible rfl)
  (try simp only [Act.put, List.setIfInBounds_toArray, List.set_cons_zero, List.set_cons_succ])
  refine tk 5 (oi := ({ dst := some 10, op := .fieldAddr 114 (.tmp 2) 1, type := 0, pos := "number.go:62", after := #[], guard := none } : Oper)) (v := ?v5_6tf) ?hy5_6tf ?re5_6tf
  case hy5_6tf => ((intro w hSw; obtain ⟨q1, q2⟩ := hSw; have e1 := q1.c0; have e2 := q1.c1; have e3 := q2.c0; have e4 := q2.c1; go_simp) <;> with_reducible rfl)
  (try simp only [Act.put, List.setIfInBounds_toArray, List.set_cons_zero, List.set_cons_succ])
  refine tk 6 (oi := ({ dst := some 11, op := .load 112 (.tmp 10), type := 112, pos := "number.go:62", after := #[⟨5, .data⟩], guard := none } : Oper)) (v := ?v6_7tf) ?hy6_7tf ?re6_7tf
  case hy6_7tf => ((intro w hSw; obtain ⟨q1, q2⟩ := hSw; have e1 := q1.c0; have e2 := q1.c1; have e3 := q2.c0; have e4 := q2.c1; go_simp) <;> with_reducible rfl)
  (try simp only [Act.put, List.setIfInBounds_toArray, List.set_cons_zero, List.set_cons_succ])
  refine tk 7 (oi := ({ dst := some 12, op := .fieldAddr 114 (.tmp 3) 1, type := 0, pos := "number.go:62", after := #[], guard := none } : Oper)) (v := ?v7_8tf) ?hy7_8tf ?re7_8tf
  case hy7_8tf => ((intro w hSw; obtain ⟨q1, q2⟩ := hSw; have e1 := q1.c0; have e2 := q1.c1; have e3 := q2.c0; have e4 := q2.c1; go_simp) <;> with_reducible rfl)
  (try simp only [Act.put, List.setIfInBounds_toArray, List.set_cons_zero, List.set_cons_succ])
  refine tk 8 (oi := ({ dst := some 13, op := .load 112 (.tmp 12), type := 112, pos := "number.go:62", after := #[⟨7, .data⟩], guard := none } : Oper)) (v := ?v8_9tf) ?hy8_9tf ?re8_9tf
  case hy8_9tf => ((intro w hSw; obtain ⟨q1, q2⟩ := hSw; have e1 := q1.c0; have e2 := q1.c1; have e3 := q2.c0; have e4 := q2.c1; go_simp) <;> with_reducible rfl)
  (try simp only [Act.put, List.setIfInBounds_toArray, List.set_cons_zero, List.set_cons_succ])
  refine wpAnyH_ready (rs := [9]) (by kernel_rfl) (by simp) ?_
  refine AllReadyH.cons (o := ({ dst := some 14, op := .call { callee := .value (.func 186), args := #[.tmp 11, .tmp 13], argTypes := #[112, 112] }, type := 112, pos := "number.go:62", after := #[⟨6, .data⟩, ⟨8, .data⟩], guard := none } : Oper)) rfl (fun K hK => ?_) ?_
  ·
   go_simp
   go_at_call 186
   refine (CA.out _ HB3.out.drew).mono ?_
   rintro e w1 ⟨g, rfl, n1, B1⟩
   have hW1 := HW.out.keep (drew_left B1) (by simp only [Go.heap_drew, World.size_alloc]; omega); have N1 := Lib.hid n1; have BB1 := Lib.hid (HB3.out.trans ((drew_left B1).mono (by simp only [Go.heap_drew, World.size_alloc]; omega))); have HW1' := Lib.hid hW1; clear n1 hW1
   (try go_wp2_with fail)
   refine hK.out _ _ ?_ (fun hHeld => ?_)
   ·
    exact ⟨hHeld.1.keep B1 hHeld.1.lt, hHeld.2.keep B1 hHeld.2.lt⟩
   clear hK K
   (try simp only [Act.put, List.setIfInBounds_toArray, List.set_cons_zero, List.set_cons_succ])
   refine wpAnyH_ready (rs := [10]) (by kernel_rfl) (by simp) ?_
   refine AllReadyH.cons (o := ({ dst := some 15, op := .call { callee := .value (.func 154), args := #[.tmp 9, .tmp 14], argTypes := #[4, 112] }, type := 114, pos := "number.go:62", after := #[⟨4, .data⟩, ⟨9, .data⟩, ⟨9, .chain⟩], guard := none } : Oper)) rfl (fun K hK => ?_) ?_
   ·
    go_simp
    go_at_call 154
    refine (CS.out _ _ _ _ N1.out hg).mono ?_
    rintro e w2 ⟨q, a, k, c, rfl, hq, n2, B2⟩
    have h0 := HW1'.out.keep B2 HW1'.out.lt; have c0 := h0.c0; have f0 := h0.f 0; have c1' := h0.c1; have N2 := Lib.hid (fun j (hj : 2 ≤ j) => h0.c2 hj); have hA := h0.s0 (.bool q); have c1 := hA.c1; have f1 := hA.f 1; have HA := Lib.hid (hA.s1 (.slice a k c)); clear hA; have HN2 := Lib.hid n2; have BB2 := Lib.hid (BB1.out.trans (B2.mono BB1.out.size)); have HZ := Lib.hid hq; clear h0 n2 hq
    (try go_wp2_with fail)
    refine hK.out _ _ ?_ (fun hHeld => ?_)
    ·
     exact ⟨hHeld.1.keep B2 hHeld.1.lt, hHeld.2.keep B2 hHeld.2.lt⟩
    clear hK K
    (try simp only [Act.put, List.setIfInBounds_toArray, List.set_cons_zero, List.set_cons_succ])
    refine wpAnyH_ready (rs := [11]) (by kernel_rfl) (by simp) ?_
    refine AllReadyH.cons (o := ({ dst := none, op := .store 114 (.tmp 4) (.tmp 15), type := 0, pos := "number.go:62", after := #[⟨10, .data⟩, ⟨10, .chain⟩, ⟨0, .phase⟩, ⟨1, .phase⟩, ⟨2, .phase⟩, ⟨3, .phase⟩, ⟨4, .phase⟩, ⟨5, .phase⟩, ⟨6, .phase⟩, ⟨7, .phase⟩, ⟨8, .phase⟩, ⟨9, .phase⟩, ⟨10, .phase⟩], guard := none } : Oper)) rfl (fun K hK => ?_) ?_
    ·
     go_simp
     refine hK.out _ _ ?_ (fun hHeld => ?_)
     ·
      exact ⟨(hHeld.1.far (by omega)).far (by omega), (hHeld.2.far (by omega)).far (by omega)⟩
     clear hK K
     (try simp only [Act.put, List.setIfInBounds_toArray, List.set_cons_zero, List.set_cons_succ])
     refine wpAnyH_done (by kernel_rfl) ?_ _
     refine NoPanic.normal ?_
     go_wp2_with fail
     have hB9 := (BB2.out.setCell (p := ⟨w.heap.size + 1 + 1, 0, none⟩) (by show w.heap.size ≤ w.heap.size + 1 + 1; omega) (.bool q)).setCell (p := ⟨w.heap.size + 1 + 1, 1, none⟩) (by show w.heap.size ≤ w.heap.size + 1 + 1; omega) (.slice a k c)
     have hN9 := HN2.out.over (w2 := (w2.setCell ⟨w.heap.size + 1 + 1, 0, none⟩ (.bool q)).setCell ⟨w.heap.size + 1 + 1, 1, none⟩ (.slice a k c)) c0 c1' (fun q hq => (Below.heap_setCell _ _ _ _ hq).trans (Below.heap_setCell _ _ _ _ hq)) (by simp [World.setCell]) N2.out (fun x e => by cases e)
     refine bodyPost_ret (results_cell_row rfl _ _ (w.heap.size + 1 + 1) 114 #[.bool q, .slice a k c] (0, 0) _ rfl HA.out Tryz.underlying114 rfl info_number) rfl ?_
     exact ⟨_, rfl, ⟨.slice a k c, by rw [HP.out, HZ.out]; rfl, by rw [HQ.out]; exact hN9⟩, hB9⟩
    exact AllReadyH.nil
   exact AllReadyH.nil
  exact AllReadyH.nil
 ·
  go_enter Tryz.func163, Tryz.ntmps163
  have hB3 := (((below_alloc w (.cells #[.bool true, .slice a1 k1 c1] 114)).alloc (by simp only [World.size_alloc]; omega) (.cells #[.bool true, .slice a2 k2 c2] 114)).alloc (by simp only [World.size_alloc]; omega) (.cells #[.bool false, .slice none 0 0] 114))
  obtain ⟨hW0, hW1, hW⟩ := three_blocks w (.bool true) (.slice a1 k1 c1) (.bool true) (.slice a2 k2 c2) (.bool false) (.slice none 0 0)
  have HB3 := Lib.hid hB3
  have HW := Lib.hid hW
  have HW0 := Lib.hid hW0
  have HW1 := Lib.hid hW1
  clear hB3 hW hW0 hW1
  go_wp2_with fail
  refine wp_region_noPanic ?_
  refine wp_region_held_drew (S := fun W => NBlk W w.heap.size (.bool true) (.slice a1 k1 c1) ∧ NBlk W (w.heap.size + 1) (.bool true) (.slice a2 k2 c2)) (by kernel_rfl) ?_ (fun hHeld => ?_)
  ·
   exact ⟨HW0.out, HW1.out⟩
  refine tk 0 (oi := ({ dst := some 5, op := .fieldAddr 114 (.tmp 2) 0, type := 0, pos := "number.go:62", after := #[], guard := none } : Oper)) (v := ?v0_1tt) ?hy0_1tt ?re0_1tt
  case hy0_1tt => ((intro w hSw; obtain ⟨q1, q2⟩ := hSw; have e1 := q1.c0; have e2 := q1.c1; have e3 := q2.c0; have e4 := q2.c1; go_simp) <;> with_reducible rfl)
  (try simp only [Act.put, List.setIfInBounds_toArray, List.set_cons_zero, List.set_cons_succ])
  refine tk 1 (oi := ({ dst := some 6, op := .load 4 (.tmp 5), type := 4, pos := "number.go:62", after := #[⟨0, .data⟩], guard := none } : Oper)) (v := ?v1_2tt) ?hy1_2tt ?re1_2tt
  case hy1_2tt => ((intro w hSw; obtain ⟨q1, q2⟩ := hSw; have e1 := q1.c0; have e2 := q1.c1; have e3 := q2.c0; have e4 := q2.c1; go_simp) <;> with_reducible rfl)
  (try simp only [Act.put, List.setIfInBounds_toArray, List.set_cons_zero, List.set_cons_succ])
  refine tk 2 (oi := ({ dst := some 7, op := .fieldAddr 114 (.tmp 3) 0, type := 0, pos := "number.go:62", after := #[], guard := none } : Oper)) (v := ?v2_3tt) ?hy2_3tt ?re2_3tt
  case hy2_3tt => ((intro w hSw; obtain ⟨q1, q2⟩ := hSw; have e1 := q1.c0; have e2 := q1.c1; have e3 := q2.c0; have e4 := q2.c1; go_simp) <;> with_reducible rfl)
  (try simp only [Act.put, List.setIfInBounds_toArray, List.set_cons_zero, List.set_cons_succ])
  refine tk 3 (oi := ({ dst := some 8, op := .load 4 (.tmp 7), type := 4, pos := "number.go:62", after := #[⟨2, .data⟩], guard := none } : Oper)) (v := ?v3_4tt) ?hy3_4tt ?re3_4tt
  case hy3_4tt => ((intro w hSw; obtain ⟨q1, q2⟩ := hSw; have e1 := q1.c0; have e2 := q1.c1; have e3 := q2.c0; have e4 := q2.c1; go_simp) <;> with_reducible rfl)
  (try simp only [Act.put, List.setIfInBounds_toArray, List.set_cons_zero, List.set_cons_succ])
  refine tk 4 (oi := ({ dst := some 9, op := .binOp .neq 4 (.tmp 6) (.tmp 8) 4, type := 4, pos := "number.go:62", after := #[⟨1, .data⟩, ⟨3, .data⟩], guard := none } : Oper)) (v := ?v4_5tt) ?hy4_5tt ?re4_5tt
  case hy4_5tt => ((intro w hSw; obtain ⟨q1, q2⟩ := hSw; have e1 := q1.c0; have e2 := q1.c1; have e3 := q2.c0; have e4 := q2.c1; go_simp) <;> with_reducible rfl)
  (try simp only [Act.put, List.setIfInBounds_toArray, List.set_cons_zero, List.set_cons_succ])
  refine tk 5 (oi := ({ dst := some 10, op := .fieldAddr 114 (.tmp 2) 1, type := 0, pos := "number.go:62", after := #[], guard := none } : Oper)) (v := ?v5_6tt) ?hy5_6tt ?re5_6tt
  case hy5_6tt => ((intro w hSw; obtain ⟨q1, q2⟩ := hSw; have e1 := q1.c0; have e2 := q1.c1; have e3 := q2.c0; have e4 := q2.c1; go_simp) <;> with_reducible rfl)
  (try simp only [Act.put, List.setIfInBounds_toArray, List.set_cons_zero, List.set_cons_succ])
  refine tk 6 (oi := ({ dst := some 11, op := .load 112 (.tmp 10), type := 112, pos := "number.go:62", after := #[⟨5, .data⟩], guard := none } : Oper)) (v := ?v6_7tt) ?hy6_7tt ?re6_7tt
  case hy6_7tt => ((intro w hSw; obtain ⟨q1, q2⟩ := hSw; have e1 := q1.c0; have e2 := q1.c1; have e3 := q2.c0; have e4 := q2.c1; go_simp) <;> with_reducible rfl)
  (try simp only [Act.put, List.setIfInBounds_toArray, List.set_cons_zero, List.set_cons_succ])
  refine tk 7 (oi := ({ dst := some 12, op := .fieldAddr 114 (.tmp 3) 1, type := 0, pos := "number.go:62", after := #[], guard := none } : Oper)) (v := ?v7_8tt) ?hy7_8tt ?re7_8tt
  case hy7_8tt => ((intro w hSw; obtain ⟨q1, q2⟩ := hSw; have e1 := q1.c0; have e2 := q1.c1; have e3 := q2.c0; have e4 := q2.c1; go_simp) <;> with_reducible rfl)
  (try simp only [Act.put, List.setIfInBounds_toArray, List.set_cons_zero, List.set_cons_succ])
  refine tk 8 (oi := ({ dst := some 13, op := .load 112 (.tmp 12), type := 112, pos := "number.go:62", after := #[⟨7, .data⟩], guard := none } : Oper)) (v := ?v8_9tt) ?hy8_9tt ?re8_9tt
  case hy8_9tt => ((intro w hSw; obtain ⟨q1, q2⟩ := hSw; have e1 := q1.c0; have e2 := q1.c1; have e3 := q2.c0; have e4 := q2.c1; go_simp) <;> with_reducible rfl)
  (try simp only [Act.put, List.setIfInBounds_toArray, List.set_cons_zero, List.set_cons_succ])
  refine wpAnyH_ready (rs := [9]) (by kernel_rfl) (by simp) ?_
  refine AllReadyH.cons (o := ({ dst := some 14, op := .call { callee := .value (.func 186), args := #[.tmp 11, .tmp 13], argTypes := #[112, 112] }, type := 112, pos := "number.go:62", after := #[⟨6, .data⟩, ⟨8, .data⟩], guard := none } : Oper)) rfl (fun K hK => ?_) ?_
  ·
   go_simp
   go_at_call 186
   refine (CA.out _ HB3.out.drew).mono ?_
   rintro e w1 ⟨g, rfl, n1, B1⟩
   have hW1 := HW.out.keep (drew_left B1) (by simp only [Go.heap_drew, World.size_alloc]; omega); have N1 := Lib.hid n1; have BB1 := Lib.hid (HB3.out.trans ((drew_left B1).mono (by simp only [Go.heap_drew, World.size_alloc]; omega))); have HW1' := Lib.hid hW1; clear n1 hW1
   (try go_wp2_with fail)
   refine hK.out _ _ ?_ (fun hHeld => ?_)
   ·
    exact ⟨hHeld.1.keep B1 hHeld.1.lt, hHeld.2.keep B1 hHeld.2.lt⟩
   clear hK K
   (try simp only [Act.put, List.setIfInBounds_toArray, List.set_cons_zero, List.set_cons_succ])
   refine wpAnyH_ready (rs := [10]) (by kernel_rfl) (by simp) ?_
   refine AllReadyH.cons (o := ({ dst := some 15, op := .call { callee := .value (.func 154), args := #[.tmp 9, .tmp 14], argTypes := #[4, 112] }, type := 114, pos := "number.go:62", after := #[⟨4, .data⟩, ⟨9, .data⟩, ⟨9, .chain⟩], guard := none } : Oper)) rfl (fun K hK => ?_) ?_
   ·
    go_simp
    go_at_call 154
    refine (CS.out _ _ _ _ N1.out hg).mono ?_
    rintro e w2 ⟨q, a, k, c, rfl, hq, n2, B2⟩
    have h0 := HW1'.out.keep B2 HW1'.out.lt; have c0 := h0.c0; have f0 := h0.f 0; have c1' := h0.c1; have N2 := Lib.hid (fun j (hj : 2 ≤ j) => h0.c2 hj); have hA := h0.s0 (.bool q); have c1 := hA.c1; have f1 := hA.f 1; have HA := Lib.hid (hA.s1 (.slice a k c)); clear hA; have HN2 := Lib.hid n2; have BB2 := Lib.hid (BB1.out.trans (B2.mono BB1.out.size)); have HZ := Lib.hid hq; clear h0 n2 hq
    (try go_wp2_with fail)
    refine hK.out _ _ ?_ (fun hHeld => ?_)
    ·
     exact ⟨hHeld.1.keep B2 hHeld.1.lt, hHeld.2.keep B2 hHeld.2.lt⟩
    clear hK K
    (try simp only [Act.put, List.setIfInBounds_toArray, List.set_cons_zero, List.set_cons_succ])
    refine wpAnyH_ready (rs := [11]) (by kernel_rfl) (by simp) ?_
    refine AllReadyH.cons (o := ({ dst := none, op := .store 114 (.tmp 4) (.tmp 15), type := 0, pos := "number.go:62", after := #[⟨10, .data⟩, ⟨10, .chain⟩, ⟨0, .phase⟩, ⟨1, .phase⟩, ⟨2, .phase⟩, ⟨3, .phase⟩, ⟨4, .phase⟩, ⟨5, .phase⟩, ⟨6, .phase⟩, ⟨7, .phase⟩, ⟨8, .phase⟩, ⟨9, .phase⟩, ⟨10, .phase⟩], guard := none } : Oper)) rfl (fun K hK => ?_) ?_
    ·
     go_simp
     refine hK.out _ _ ?_ (fun hHeld => ?_)
     ·
      exact ⟨(hHeld.1.far (by omega)).far (by omega), (hHeld.2.far (by omega)).far (by omega)⟩
     clear hK K
     (try simp only [Act.put, List.setIfInBounds_toArray, List.set_cons_zero, List.set_cons_succ])
     refine wpAnyH_done (by kernel_rfl) ?_ _
     refine NoPanic.normal ?_
     go_wp2_with fail
     have hB9 := (BB2.out.setCell (p := ⟨w.heap.size + 1 + 1, 0, none⟩) (by show w.heap.size ≤ w.heap.size + 1 + 1; omega) (.bool q)).setCell (p := ⟨w.heap.size + 1 + 1, 1, none⟩) (by show w.heap.size ≤ w.heap.size + 1 + 1; omega) (.slice a k c)
     have hN9 := HN2.out.over (w2 := (w2.setCell ⟨w.heap.size + 1 + 1, 0, none⟩ (.bool q)).setCell ⟨w.heap.size + 1 + 1, 1, none⟩ (.slice a k c)) c0 c1' (fun q hq => (Below.heap_setCell _ _ _ _ hq).trans (Below.heap_setCell _ _ _ _ hq)) (by simp [World.setCell]) N2.out (fun x e => by cases e)
     refine bodyPost_ret (results_cell_row rfl _ _ (w.heap.size + 1 + 1) 114 #[.bool q, .slice a k c] (0, 0) _ rfl HA.out Tryz.underlying114 rfl info_number) rfl ?_
     exact ⟨_, rfl, ⟨.slice a k c, by rw [HP.out, HZ.out]; rfl, by rw [HQ.out]; exact hN9⟩, hB9⟩
    exact AllReadyH.nil
   exact AllReadyH.nil
  exact AllReadyH.nil
end Go.Proofs.YtdnbhgkbfbgnaaaGreatDoor
