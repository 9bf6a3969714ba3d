/- Naturals in decimal digits, plain; their texts. -/
import Derived.Test.YtbdiofifjckceaaGreatDoorNa
namespace Go.Proofs.YtbdiofifjckceaaGreatDoor
/-- the decimal digits of a number, the lowest one first -/
def grpX (n : Nat) : List Int := if h : n = 0 then [] else ((n % 10 : Nat) : Int) :: grpX (n / 10)
termination_by n
decreasing_by omega
/-- the value of digits -/
def vlX : List Int → Int
  | [] => 0
  | x :: l => x + 10 * vlX l
theorem grpX_zero : grpX 0 = [] := by rw [grpX]; rfl
theorem grpX_pos {n : Nat} (h : 0 < n) : grpX n = ((n % 10 : Nat) : Int) :: grpX (n / 10) := by rw [grpX, dif_neg (by omega)]
theorem vlX_grp (n : Nat) : vlX (grpX n) = n := by
  induction n using Nat.strongRecOn with
  | ind n ih =>
    by_cases h : n = 0
    · subst h; rw [grpX_zero]; rfl
    · rw [grpX_pos (by omega), vlX, ih _ (by omega)]; omega
def DigX (l : List Int) : Prop := ∀ x ∈ l, 0 ≤ x ∧ x < 10
theorem DigX.tail {x : Int} {l : List Int} (h : DigX (x :: l)) : DigX l := fun y hy => h y (by simp [hy])
theorem DigX.head {x : Int} {l : List Int} (h : DigX (x :: l)) : 0 ≤ x ∧ x < 10 := h x (by simp)
theorem digX_nil : DigX [] := fun _ h => by cases h
theorem grpX_dig (n : Nat) : DigX (grpX n) := by
  induction n using Nat.strongRecOn with
  | ind n ih =>
    by_cases h : n = 0
    · subst h; rw [grpX_zero]; exact digX_nil
    · rw [grpX_pos (by omega)]
      intro x hx
      rcases List.mem_cons.1 hx with rfl | hx
      · omega
      · exact ih _ (by omega) x hx
theorem vlX_nonneg {l : List Int} (h : DigX l) : 0 ≤ vlX l := by
  induction l with
  | nil => exact Int.le_refl _
  | cons x l ih => have := ih h.tail; have := h.head; rw [vlX]; omega
theorem vlX_lt {l : List Int} (h : DigX l) : vlX l < 10 ^ l.length := by
  induction l with
  | nil => decide
  | cons x l ih =>
    have := ih h.tail
    have := h.head
    rw [vlX, List.length_cons, Int.pow_succ]
    omega
theorem vlX_append (a b : List Int) : vlX (a ++ b) = vlX a + 10 ^ a.length * vlX b := by
  induction a with
  | nil => simp [vlX]
  | cons x a ih =>
    rw [List.cons_append, vlX, ih, vlX, List.length_cons, Int.pow_succ, Int.mul_add, Int.add_assoc]
    congr 2
    rw [Int.mul_comm ((10 : Int) ^ a.length) 10, Int.mul_assoc]
theorem vlX_zeros (k : Nat) : vlX (List.replicate k 0) = 0 := by
  induction k with
  | zero => rfl
  | succ k ih => rw [List.replicate_succ, vlX, ih]; rfl

theorem trzX_vl (l : List Int) : vlX (trz l) = vlX l := by
  induction l with
  | nil => rfl
  | cons x l ih =>
    rw [trz]
    split
    · rename_i h; have e : vlX l = 0 := by rw [← ih, h.1]; rfl
      show 0 = x + 10 * vlX l
      rw [e, h.2]; rfl
    · rw [vlX, vlX, ih]
theorem trzX_dig {l : List Int} (h : DigX l) : DigX (trz l) := by rw [trz_take]; exact fun x hx => h x (List.mem_of_mem_take hx)
theorem vlX_zero {l : List Int} (h : DigX l) (h0 : vlX l = 0) : trz l = [] := by
  induction l with
  | nil => rfl
  | cons x l ih =>
    have h1 := h.head
    have h2 := vlX_nonneg h.tail
    rw [vlX] at h0
    rw [trz, if_pos ⟨ih h.tail (by omega), by omega⟩]
theorem trzX_grp {l : List Int} (h : DigX l) : trz l = grpX (vlX l).toNat := by
  induction l with
  | nil => rw [vlX]; exact grpX_zero.symm
  | cons x l ih =>
    have h1 := h.head
    have h2 := vlX_nonneg h.tail
    by_cases h0 : vlX (x :: l) = 0
    · rw [vlX_zero h h0, h0]; exact grpX_zero.symm
    · have h3 : 0 < (vlX (x :: l)).toNat := by rw [vlX] at h0 ⊢; omega
      have e1 : (((vlX (x :: l)).toNat % 10 : Nat) : Int) = x := by rw [vlX]; omega
      have e2 : (vlX (x :: l)).toNat / 10 = (vlX l).toNat := by rw [vlX]; omega
      rw [grpX_pos h3, e1, e2, ← ih h.tail, trz, if_neg ?_]
      rintro ⟨ht, hx⟩
      rw [← trzX_vl] at h0
      rw [trz, if_pos ⟨ht, hx⟩] at h0
      exact h0 rfl
theorem grpX_len {n k : Nat} (h : n < 10 ^ k) : (grpX n).length ≤ k := by
  induction k generalizing n with
  | zero => rw [Nat.pow_zero] at h; rw [show n = 0 by omega, grpX_zero]; exact Nat.le_refl _
  | succ k ih =>
    by_cases h0 : n = 0
    · subst h0; rw [grpX_zero]; exact Nat.zero_le _
    · rw [grpX_pos (by omega), List.length_cons]
      have := ih (n := n / 10) (by rw [Nat.pow_succ] at h; omega)
      omega
theorem grpX_lt (n : Nat) : n < 10 ^ (grpX n).length := by
  have h := vlX_lt (grpX_dig n)
  rw [vlX_grp] at h
  have e : ((10 ^ (grpX n).length : Nat) : Int) = (10 : Int) ^ (grpX n).length := by simp
  omega
theorem grpX_nil {n : Nat} : grpX n = [] ↔ n = 0 := by
  constructor
  · intro h; have := vlX_grp n; rw [h] at this; rw [vlX] at this; omega
  · rintro rfl; exact grpX_zero
theorem grpX_inj {n m : Nat} (h : grpX n = grpX m) : n = m := by have := vlX_grp n; rw [h, vlX_grp] at this; omega
theorem grpX_last (n : Nat) : trz (grpX n) = grpX n := by rw [trzX_grp (grpX_dig n), vlX_grp]; rfl
theorem grpX_ge {n : Nat} (h : 0 < n) : 10 ^ ((grpX n).length - 1) ≤ n := by
  induction n using Nat.strongRecOn with
  | ind n ih =>
    rw [grpX_pos h, List.length_cons, Nat.add_sub_cancel]
    by_cases h1 : n / 10 = 0
    · rw [h1, grpX_zero]; exact h
    · have := ih (n / 10) (by omega) (by omega)
      have h2 : 0 < (grpX (n / 10)).length := List.length_pos_iff.2 fun e => h1 (grpX_nil.1 e)
      obtain ⟨k, hk⟩ : ∃ k, (grpX (n / 10)).length = k + 1 := ⟨(grpX (n / 10)).length - 1, by omega⟩
      rw [hk, Nat.add_sub_cancel] at this
      rw [hk, Nat.pow_succ]
      omega

/-- the four digits of a group -/
def d4 (g : Int) : List Int := [g % 10, g / 10 % 10, g / 10 / 10 % 10, g / 10 / 10 / 10 % 10]
def fd (l : List Int) : List Int := l.flatMap d4
theorem fd_dig {l : List Int} : DigX (fd l) := by
  intro x hx
  obtain ⟨g, _, h⟩ := List.mem_flatMap.1 hx
  simp [d4] at h
  rcases h with rfl | rfl | rfl | rfl <;> omega
theorem fd_vl {l : List Int} (h : Dig l) : vlX (fd l) = vl l := by
  induction l with
  | nil => rfl
  | cons x l ih =>
    have h1 := h.head
    have h2 := ih h.tail
    show vlX (d4 x ++ fd l) = _
    rw [vlX_append, h2, vl]
    simp only [d4, vlX, List.length_cons, List.length_nil]
    omega
theorem fd_len (l : List Int) : (fd l).length = 4 * l.length := by
  induction l with
  | nil => rfl
  | cons x l ih => show (d4 x ++ fd l).length = _; rw [List.length_append, ih]; simp [d4]; omega
theorem fd_trz (n : Nat) : trz (fd (grp n)) = grpX n := by rw [trzX_grp fd_dig, fd_vl (grp_dig n), vl_grp]; rfl

/-- a digit's letter -/
def ltr (d : Int) : UInt8 := UInt8.ofNat (48 + d.toNat)
theorem ltr_zero {d : Int} (h : 0 ≤ d ∧ d < 10) : (ltr d == 48) = decide (d = 0) := by
  obtain ⟨k, rfl⟩ : ∃ k : Nat, d = k := ⟨d.toNat, by omega⟩
  have hk : k < 10 := by omega
  have : ∀ k : Fin 10, (ltr (k.1 : Int) == 48) = decide ((k.1 : Int) = 0) := by decide
  exact this ⟨k, hk⟩
theorem ltr_nat {d : Int} (h : 0 ≤ d ∧ d < 10) : ((ltr d).toNat : Int) = 48 + d := by
  obtain ⟨k, rfl⟩ : ∃ k : Nat, d = k := ⟨d.toNat, by omega⟩
  have hk : k < 10 := by omega
  have : ∀ k : Fin 10, ((ltr (k.1 : Int)).toNat : Int) = 48 + (k.1 : Int) := by decide
  exact this ⟨k, hk⟩
/-- the letters, the highest one first -/
def lts (l : List Int) : List UInt8 := (l.map ltr).reverse
theorem lts_cons (x : Int) (l : List Int) : lts (x :: l) = lts l ++ [ltr x] := by simp [lts]
theorem lts_len (l : List Int) : (lts l).length = l.length := by simp [lts]
theorem lts_nil {l : List Int} : lts l = [] ↔ l = [] := by simp [lts]
theorem lts_trz {l : List Int} (h : DigX l) : (lts l).dropWhile (· == 48) = lts (trz l) := by
  induction l with
  | nil => rfl
  | cons x l ih =>
    have h1 := ltr_zero h.head
    have h2 := ih h.tail
    rw [lts_cons, List.dropWhile_append, h2]
    by_cases ht : trz l = []
    · have e : (lts (trz l)).isEmpty = true := by rw [ht]; rfl
      rw [if_pos e]
      by_cases hx : x = 0
      · have : (ltr x == 48) = true := by rw [h1]; simp [hx]
        have t : trz (x :: l) = [] := by rw [trz, if_pos ⟨ht, hx⟩]
        rw [t, List.dropWhile_cons, this]
        rfl
      · have : (ltr x == 48) = false := by rw [h1]; simp [hx]
        have t : trz (x :: l) = [x] := by rw [trz, if_neg (fun c => hx c.2), ht]
        rw [t, List.dropWhile_cons, this]
        rfl
    · have e : ¬ (lts (trz l)).isEmpty = true := by rw [List.isEmpty_iff, lts_nil]; exact ht
      have t : trz (x :: l) = x :: trz l := by rw [trz, if_neg (fun c => ht c.1)]
      rw [if_neg e, t, lts_cons]
/-- a natural's text -/
def txN (n : Nat) : List UInt8 := if n = 0 then [48] else lts (grpX n)
/-- an integer's text -/
def txt (z : Int) : List UInt8 := if z < 0 then 45 :: txN z.natAbs else txN z.natAbs
/-- what digits stand for -/
def nmN (l : List UInt8) : Nat := l.foldl (fun a c => 10 * a + (c.toNat - 48)) 0
def num : List UInt8 → Int
  | 45 :: l => - (nmN l : Int)
  | l => (nmN l : Int)
def isDg (c : UInt8) : Bool := 48 ≤ c && c ≤ 57
/-- Valid -/
def bare (s : List UInt8) : List UInt8 := if s.head? = some 45 then s.tail else s
def vld (s : List UInt8) : Bool := decide (0 < (bare s).length ∧ (bare s).length ≤ 200) && (if (bare s).head? = some 48 then decide (s = [48]) else (bare s).all isDg)
/-- a text's digits, the lowest one first -/
def dgs (l : List UInt8) : List Int := (l.map fun c => (c.toNat : Int) - 48).reverse
theorem isDg_iff (c : UInt8) : isDg c = true ↔ 48 ≤ c.toNat ∧ c.toNat ≤ 57 := by
  unfold isDg
  simp [UInt8.le_iff_toNat_le]
theorem ltr_dg {c : UInt8} (h : isDg c = true) : ltr ((c.toNat : Int) - 48) = c := by
  rw [isDg_iff] at h
  unfold ltr
  have : 48 + ((c.toNat : Int) - 48).toNat = c.toNat := by omega
  rw [this]
  exact UInt8.ofNat_toNat
theorem dgs_cons (c : UInt8) (l : List UInt8) : dgs (c :: l) = dgs l ++ [(c.toNat : Int) - 48] := by simp [dgs]
theorem dgs_snoc (c : UInt8) (l : List UInt8) : dgs (l ++ [c]) = ((c.toNat : Int) - 48) :: dgs l := by simp [dgs]
theorem dgs_len (l : List UInt8) : (dgs l).length = l.length := by simp [dgs]
theorem dgs_dig {l : List UInt8} (h : l.all isDg = true) : DigX (dgs l) := by
  intro x hx
  simp only [dgs, List.mem_reverse, List.mem_map] at hx
  obtain ⟨c, hc, rfl⟩ := hx
  have := (isDg_iff c).1 (List.all_eq_true.1 h c hc)
  omega
theorem lts_dgs {l : List UInt8} (h : l.all isDg = true) : lts (dgs l) = l := by
  induction l with
  | nil => rfl
  | cons c l ih =>
    rw [List.all_cons, Bool.and_eq_true] at h
    have e : lts (dgs l ++ [(c.toNat : Int) - 48]) = ltr ((c.toNat : Int) - 48) :: lts (dgs l) := by simp [lts]
    rw [dgs_cons, e, ih h.2, ltr_dg h.1]
theorem nmN_snoc (l : List UInt8) (c : UInt8) : nmN (l ++ [c]) = 10 * nmN l + (c.toNat - 48) := by simp [nmN]
theorem nmN_dgs {l : List UInt8} (h : l.all isDg = true) : (nmN l : Int) = vlX (dgs l) := by
  rw [← List.reverse_reverse l] at h ⊢
  generalize l.reverse = r at h ⊢
  induction r with
  | nil => rfl
  | cons c r ih =>
    rw [List.reverse_cons, List.all_append, Bool.and_eq_true] at h
    have h2 := (isDg_iff c).1 (by simpa using h.2)
    have h3 := ih h.1
    rw [List.reverse_cons, nmN_snoc, dgs_snoc, vlX, ← h3]
    omega
theorem lts_all {l : List Int} (h : DigX l) : (lts l).all isDg = true := by
  rw [List.all_eq_true]
  intro c hc
  simp only [lts, List.mem_reverse, List.mem_map] at hc
  obtain ⟨d, hd, rfl⟩ := hc
  have h1 := ltr_nat (h d hd)
  have h2 := h d hd
  rw [isDg_iff]
  omega
theorem dgs_lts {l : List Int} (h : DigX l) : dgs (lts l) = l := by
  induction l with
  | nil => rfl
  | cons x l ih => rw [lts_cons, dgs_snoc, ih h.tail, ltr_nat h.head]; congr 1; omega
theorem txN_all (n : Nat) : (txN n).all isDg = true := by
  unfold txN
  split
  · decide
  · exact lts_all (grpX_dig n)
theorem txN_num (n : Nat) : nmN (txN n) = n := by
  have h := nmN_dgs (txN_all n)
  unfold txN at h ⊢
  split
  · rename_i h0; subst h0; rfl
  · rename_i h0
    rw [if_neg h0] at h
    rw [dgs_lts (grpX_dig n), vlX_grp] at h
    omega
theorem txN_len {n k : Nat} (h : n < 10 ^ k) (hk : 0 < k) : (txN n).length ≤ k := by
  unfold txN
  split
  · exact hk
  · rw [lts_len]; exact grpX_len h
theorem txN_pos (n : Nat) : 0 < (txN n).length := by
  unfold txN
  split
  · decide
  · rename_i h; rw [lts_len]; exact List.length_pos_iff.2 fun e => h (grpX_nil.1 e)
theorem txN_len' {n k : Nat} (h : (txN n).length ≤ k) : n < 10 ^ k := by
  unfold txN at h
  split at h
  · rename_i h0; subst h0; exact Nat.pow_pos (by decide)
  · rw [lts_len] at h
    exact Nat.lt_of_lt_of_le (grpX_lt n) (Nat.pow_le_pow_right (by decide) h)
theorem getLast_trz {l : List Int} (h : l.getLast? ≠ some 0) : trz l = l := by
  rcases List.eq_nil_or_concat l with rfl | ⟨q, x, rfl⟩
  · rfl
  · rw [List.concat_eq_append] at h ⊢
    exact trz_snoc q x fun e => h (by simp [e])
theorem grpX_getLast (n : Nat) : (grpX n).getLast? ≠ some 0 := by
  intro h
  have e := grpX_last n
  rcases List.eq_nil_or_concat (grpX n) with h0 | ⟨q, x, h0⟩
  · rw [h0] at h; cases h
  · rw [List.concat_eq_append] at h0
    rw [h0] at h e
    have hx : x = 0 := by simpa using h
    subst hx
    rw [trz_snoc0] at e
    have := trz_len q
    have := congrArg List.length e
    simp at this
    omega
theorem txN_head {n : Nat} (h : n ≠ 0) : (txN n).head? ≠ some 48 := by
  unfold txN
  rw [if_neg h]
  intro e
  have h1 := grpX_getLast n
  have h2 : (lts (grpX n)).head? = (grpX n).getLast?.map ltr := by simp [lts]
  rw [h2] at e
  cases hg : (grpX n).getLast? with
  | none => rw [hg] at e; cases e
  | some d =>
    rw [hg] at e h1
    have hd := grpX_dig n d (List.mem_of_getLast? hg)
    have := ltr_zero hd
    have e' : ltr d = 48 := by simpa using e
    rw [e'] at this
    exact h1 (by rw [of_decide_eq_true this.symm])
theorem txN_of {l : List UInt8} (h : l.all isDg = true) (h0 : 0 < l.length) (h1 : l.head? ≠ some 48) : txN (nmN l) = l ∧ nmN l ≠ 0 := by
  have hd := dgs_dig h
  have hv := nmN_dgs h
  have hl : (dgs l).getLast? ≠ some 0 := by
    cases l with
    | nil => cases h0
    | cons c r =>
      rw [dgs_cons]
      simp at h1 ⊢
      intro e
      apply h1
      have hc := (isDg_iff c).1 (List.all_eq_true.1 h c (by simp))
      have : c.toNat = 48 := by omega
      exact UInt8.toNat_inj.1 this
  have ht := getLast_trz hl
  rw [trzX_grp hd, ← hv, Int.toNat_natCast] at ht
  have hn : nmN l ≠ 0 := by
    intro e
    rw [e, grpX_zero] at ht
    have := dgs_len l
    rw [← ht] at this
    simp at this
    omega
  exact ⟨by rw [txN, if_neg hn, ht, lts_dgs h], hn⟩
theorem num_neg (l : List UInt8) : num (45 :: l) = - (nmN l : Int) := rfl
theorem num_pos {l : List UInt8} (h : l.head? ≠ some 45) : num l = (nmN l : Int) := by
  unfold num
  split
  · exact absurd rfl h
  · rfl
theorem txN_no45 (n : Nat) : (txN n).head? ≠ some 45 := by
  have h := txN_all n
  cases ht : txN n with
  | nil => intro e; cases e
  | cons c r =>
    rw [ht] at h
    intro e
    have e' : c = 45 := by simpa using e
    subst e'
    exact absurd (List.all_eq_true.1 h 45 (by simp)) (by decide)
theorem txt_num (z : Int) : num (txt z) = z := by
  unfold txt
  split
  · rw [num_neg, txN_num]; omega
  · rw [num_pos (txN_no45 _), txN_num]; omega
theorem txt_bare (z : Int) : bare (txt z) = txN z.natAbs := by
  unfold txt bare
  split
  · rfl
  · rw [if_neg (txN_no45 _)]
theorem txt_vld {z : Int} (h : z.natAbs < 10 ^ 200) : vld (txt z) = true := by
  unfold vld
  rw [txt_bare, decide_eq_true ⟨txN_pos _, txN_len h (by decide)⟩, Bool.true_and]
  by_cases h0 : z = 0
  · subst h0; decide
  · rw [if_neg (txN_head (by omega))]; exact txN_all _
theorem txt_not {z : Int} (h : ¬ z.natAbs < 10 ^ 200) : vld (txt z) = false := by
  unfold vld
  rw [txt_bare, decide_eq_false (fun c => h (txN_len' c.2)), Bool.false_and]
theorem vld_txt {s : List UInt8} (h : vld s = true) : txt (num s) = s ∧ (num s).natAbs < 10 ^ 200 := by
  unfold vld at h
  rw [Bool.and_eq_true, decide_eq_true_eq] at h
  obtain ⟨⟨h1, h2⟩, h3⟩ := h
  split at h3
  · rw [of_decide_eq_true h3]
    exact ⟨by decide, by decide⟩
  · rename_i hb
    obtain ⟨h4, h5⟩ := txN_of h3 h1 hb
    have h6 : nmN (bare s) < 10 ^ 200 := txN_len' (by rw [h4]; exact h2)
    by_cases hs : s.head? = some 45
    · obtain ⟨r, rfl⟩ : ∃ r, s = 45 :: r := by
        cases s with
        | nil => cases hs
        | cons c r => exact ⟨r, by simp at hs; rw [hs]⟩
      have hb2 : bare (45 :: r) = r := by simp [bare]
      rw [hb2] at h4 h5 h6
      rw [num_neg]
      refine ⟨?_, by omega⟩
      rw [txt, if_pos (by omega), show (-(nmN r : Int)).natAbs = nmN r by omega, h4]
    · have hb2 : bare s = s := by simp [bare, hs]
      rw [hb2] at h4 h5 h6
      rw [num_pos hs]
      refine ⟨?_, by omega⟩
      rw [txt, if_neg (by omega), show ((nmN s : Int)).natAbs = nmN s by omega, h4]
theorem txt_inj {a b : Int} (h : txt a = txt b) : a = b := by rw [← txt_num a, h, txt_num]
end Go.Proofs.YtbdiofifjckceaaGreatDoor
