/- The plain mathematics of the checksum: the register and what is still to come are one number, which is shifted bit by bit. Nothing of the program stands here. -/
import Derived.RowKit3
namespace Go.Proofs.YtmhpcbaoicboaaaDoor.crcs

def tabN : List Nat := [0, 274646895, 549293790, 820201905, 1098587580, 1361435347, 1640403810, 1905808397, 2197175160, 2460548119, 2722870694, 2987750089, 3280807620, 3553878443, 3811616794, 4084100981]
def shN (r : Nat) : Nat := r / 16 ^^^ tabN.getD (r % 16) 0
def byN (r : Nat) (b : UInt8) : Nat := shN (shN (r ^^^ b.toNat))
def crcN (r : Nat) (l : List UInt8) : Nat := l.foldl byN r

/-- one bit -/
def st (x : Nat) : Nat := x / 2 ^^^ (if x % 2 = 1 then 2197175160 else 0)
def sts : Nat → Nat → Nat
  | 0, x => x
  | n + 1, x => sts n (st x)

theorem xor_div2 (a b : Nat) : (a ^^^ b) / 2 = a / 2 ^^^ b / 2 := by
  have h := Nat.shiftRight_xor_distrib (a := a) (b := b) (i := 1)
  simpa [Nat.shiftRight_eq_div_pow] using h
theorem xor_mod2 (a b : Nat) : (a ^^^ b) % 2 = (a % 2 + b % 2) % 2 := by
  have h := Nat.xor_mod_two_pow (a := a) (b := b) (n := 1)
  simp only [Nat.pow_one] at h
  rw [h]
  have ha : a % 2 = 0 ∨ a % 2 = 1 := by omega
  have hb : b % 2 = 0 ∨ b % 2 = 1 := by omega
  rcases ha with ha | ha <;> rcases hb with hb | hb <;> rw [ha, hb] <;> rfl

theorem xor4 (a b c d : Nat) : (a ^^^ b) ^^^ (c ^^^ d) = (a ^^^ c) ^^^ (b ^^^ d) := by
  rw [Nat.xor_assoc, ← Nat.xor_assoc b c d, Nat.xor_comm b c, Nat.xor_assoc c b d, ← Nat.xor_assoc]

theorem st_xor (a b : Nat) : st (a ^^^ b) = st a ^^^ st b := by
  unfold st
  rw [xor_div2, xor_mod2, xor4]
  congr 1
  have ha : a % 2 = 0 ∨ a % 2 = 1 := by omega
  have hb : b % 2 = 0 ∨ b % 2 = 1 := by omega
  rcases ha with ha | ha <;> rcases hb with hb | hb <;> rw [ha, hb] <;> simp

theorem sts_xor (n : Nat) : ∀ a b, sts n (a ^^^ b) = sts n a ^^^ sts n b := by
  induction n with
  | zero => intro a b; rfl
  | succ n ih => intro a b; simp only [sts]; rw [st_xor, ih]
theorem sts_add (m n : Nat) : ∀ x, sts (m + n) x = sts n (sts m x) := by
  induction m with
  | zero => intro x; rw [Nat.zero_add]; rfl
  | succ m ih => intro x; rw [Nat.add_right_comm]; simp only [sts]; exact ih _
theorem st_double (x : Nat) : st (2 * x) = x := by
  unfold st
  rw [if_neg (by omega), Nat.xor_zero]; omega
theorem sts_pow (n : Nat) : ∀ x, sts n (2 ^ n * x) = x := by
  induction n with
  | zero => intro x; simp [sts]
  | succ n ih => intro x; simp only [sts]; rw [Nat.pow_succ, Nat.mul_comm (2 ^ n) 2, Nat.mul_assoc, st_double, ih]
theorem sts_zero (n : Nat) : sts n 0 = 0 := by
  have h := sts_pow n 0
  simpa using h

theorem st_lt (x : Nat) (h : x < 4294967296) : st x < 4294967296 := by
  unfold st
  refine Nat.xor_lt_two_pow (n := 32) (by omega) ?_
  split <;> decide
theorem xor_eq_zero {a b : Nat} (h : a ^^^ b = 0) : a = b := by
  have h2 : (a ^^^ b) ^^^ b = 0 ^^^ b := by rw [h]
  rw [Nat.xor_assoc, Nat.xor_self, Nat.xor_zero, Nat.zero_xor] at h2
  exact h2
theorem st_ne (x : Nat) (h : x < 4294967296) (h0 : x ≠ 0) : st x ≠ 0 := by
  unfold st
  intro e
  have e := xor_eq_zero e
  split at e <;> omega
theorem sts_ne (n : Nat) : ∀ x, x < 4294967296 → x ≠ 0 → sts n x ≠ 0 := by
  induction n with
  | zero => intro x _ h; exact h
  | succ n ih => intro x h h0; exact ih _ (st_lt x h) (st_ne x h h0)

theorem add_xor (k x y : Nat) (h : y < 2 ^ k) : 2 ^ k * x + y = 2 ^ k * x ^^^ y := by
  apply Nat.eq_of_testBit_eq
  intro i
  rw [Nat.testBit_xor, Nat.testBit_two_pow_mul_add _ h, Nat.testBit_two_pow_mul]
  by_cases hi : i < k
  · rw [if_pos hi, decide_eq_false (by omega)]; simp
  · rw [if_neg hi, decide_eq_true (by omega), Nat.testBit_lt_two_pow (x := y) (Nat.lt_of_lt_of_le h (Nat.pow_le_pow_right (by omega) (by omega)))]; simp

theorem tab_sts : ∀ i : Fin 16, tabN.getD i.1 0 = sts 4 i.1 := by decide
theorem sh_sts (r : Nat) : shN r = sts 4 r := by
  have e : r = 2 ^ 4 * (r / 16) ^^^ r % 16 := by
    rw [← add_xor 4 (r / 16) (r % 16) (by omega)]; omega
  conv => rhs; rw [e]
  rw [sts_xor, sts_pow, shN]
  congr 1
  exact tab_sts ⟨r % 16, by omega⟩

/-- a string as a number, the first byte the lowest -/
def le : List UInt8 → Nat
  | [] => 0
  | b :: l => b.toNat + 256 * le l

theorem crc_sts (l : List UInt8) : ∀ r, r < 4294967296 → crcN r l = sts (8 * l.length) (r ^^^ le l) := by
  induction l with
  | nil => intro r _; simp [crcN, le, sts]
  | cons b l ih =>
    intro r hr
    have hb := b.toNat_lt
    have h8 : byN r b = sts 8 (r ^^^ b.toNat) := by
      rw [byN, sh_sts, sh_sts, ← sts_add]
    have hlt : byN r b < 4294967296 := by
      rw [h8]
      have hx : r ^^^ b.toNat < 4294967296 := Nat.xor_lt_two_pow (n := 32) hr (by omega)
      have key : ∀ n x, x < 4294967296 → sts n x < 4294967296 := by
        intro n
        induction n with
        | zero => intro x h; exact h
        | succ n ih => intro x h; exact ih _ (st_lt x h)
      exact key 8 _ hx
    show crcN (byN r b) l = _
    rw [ih _ hlt, h8, List.length_cons, Nat.mul_add, Nat.mul_one, Nat.add_comm (8 * l.length) 8, sts_add]
    congr 1
    have e : le (b :: l) = 2 ^ 8 * le l ^^^ b.toNat := by
      rw [← add_xor 8 (le l) b.toNat (by omega), le]; omega
    rw [e, Nat.xor_comm (2 ^ 8 * le l), ← Nat.xor_assoc, sts_xor 8 (r ^^^ b.toNat), sts_pow]

/-- a change of bits e, from bit 'at' on, of which e has 32 at the most -/
theorem crc_burst (l m : List UInt8) (r e at' : Nat) (hr : r < 4294967296) (hl : m.length = l.length) (he : e < 4294967296) (h0 : e ≠ 0) (hat : at' ≤ 8 * l.length)
    (h : le m = le l ^^^ 2 ^ at' * e) : crcN r m ≠ crcN r l := by
  intro hc
  rw [crc_sts m r hr, crc_sts l r hr, hl, h, ← Nat.xor_assoc, sts_xor] at hc
  have hz : sts (8 * l.length) (2 ^ at' * e) = 0 := by
    have h2 : (sts (8 * l.length) (r ^^^ le l) ^^^ sts (8 * l.length) (2 ^ at' * e)) ^^^ sts (8 * l.length) (r ^^^ le l) = sts (8 * l.length) (r ^^^ le l) ^^^ sts (8 * l.length) (r ^^^ le l) := by rw [hc]
    rw [Nat.xor_self, Nat.xor_comm (sts (8 * l.length) (r ^^^ le l)), Nat.xor_assoc, Nat.xor_self, Nat.xor_zero] at h2
    exact h2
  obtain ⟨k, hk⟩ : ∃ k, 8 * l.length = at' + k := ⟨8 * l.length - at', by omega⟩
  rw [hk, sts_add, sts_pow] at hz
  exact sts_ne k e he h0 hz

theorem shN_xor (a b : Nat) : shN (a ^^^ b) = shN a ^^^ shN b := by rw [sh_sts, sh_sts, sh_sts, sts_xor]
theorem byN_xor (r s : Nat) (b c d : UInt8) (h : d.toNat = b.toNat ^^^ c.toNat) : byN (r ^^^ s) d = byN r b ^^^ byN s c := by
  rw [byN, byN, byN, h, xor4, shN_xor, shN_xor]

/-- the sum of the XOR of three strings -/
theorem crc_xor3 (a : List UInt8) : ∀ (b c : List UInt8) (x : List UInt8) (r s t : Nat), b.length = a.length → c.length = a.length → x.length = a.length →
    (∀ i, i < a.length → (x[i]?.getD 0).toNat = (a[i]?.getD 0).toNat ^^^ (b[i]?.getD 0).toNat ^^^ (c[i]?.getD 0).toNat) →
    crcN (r ^^^ s ^^^ t) x = crcN r a ^^^ crcN s b ^^^ crcN t c := by
  induction a with
  | nil =>
    intro b c x r s t hb hc hx _
    simp at hb hc hx
    subst hb hc hx
    rfl
  | cons a0 a ih =>
    intro b c x r s t hb hc hx h
    match b, c, x, hb, hc, hx with
    | b0 :: b, c0 :: c, x0 :: x, hb, hc, hx =>
      have h0 := h 0 (by simp)
      simp only [List.getElem?_cons_zero, Option.getD_some] at h0
      have e : byN (r ^^^ s ^^^ t) x0 = byN r a0 ^^^ byN s b0 ^^^ byN t c0 := by
        have hab : (UInt8.ofNat (a0.toNat ^^^ b0.toNat)).toNat = a0.toNat ^^^ b0.toNat := by
          rw [UInt8.toNat_ofNat']
          exact Nat.mod_eq_of_lt (Nat.xor_lt_two_pow (n := 8) a0.toNat_lt b0.toNat_lt)
        rw [byN_xor (r ^^^ s) t (UInt8.ofNat (a0.toNat ^^^ b0.toNat)) c0 x0 (by rw [hab]; exact h0), byN_xor r s a0 b0 _ hab]
      show crcN (byN (r ^^^ s ^^^ t) x0) x = crcN (byN r a0) a ^^^ crcN (byN s b0) b ^^^ crcN (byN t c0) c
      rw [e]
      refine ih b c x _ _ _ (by simpa using hb) (by simpa using hc) (by simpa using hx) (fun i hi => ?_)
      have := h (i + 1) (by simp; omega)
      simpa using this

/-- one bit of one byte is changed -/
theorem le_set (l : List UInt8) : ∀ (k : Nat) (v : UInt8), k / 8 < l.length → v.toNat = (l[k / 8]?.getD 0).toNat ^^^ 2 ^ (k % 8) → le (l.set (k / 8) v) = le l ^^^ 2 ^ k := by
  induction l with
  | nil => intro k v h; simp at h
  | cons b l ih =>
    intro k v hk hv
    have hb := b.toNat_lt
    have hv2 := v.toNat_lt
    have sp : ∀ (c : UInt8) (m : List UInt8), le (c :: m) = 2 ^ 8 * le m ^^^ c.toNat := by
      intro c m
      have := c.toNat_lt
      rw [← add_xor 8 (le m) c.toNat (by omega), le]; omega
    by_cases h8 : k < 8
    · have e0 : k / 8 = 0 := by omega
      rw [e0] at hv ⊢
      simp only [List.getElem?_cons_zero, Option.getD_some] at hv
      rw [List.set_cons_zero, sp, sp, hv, ← Nat.xor_assoc, Nat.mod_eq_of_lt h8]
    · obtain ⟨j, hj⟩ : ∃ j, k / 8 = j + 1 := ⟨k / 8 - 1, by omega⟩
      have hj' : (k - 8) / 8 = j := by omega
      have hm : (k - 8) % 8 = k % 8 := by omega
      rw [hj] at hv hk ⊢
      simp only [List.getElem?_cons_succ, List.length_cons] at hv hk
      rw [List.set_cons_succ, sp, sp]
      have h := ih (k - 8) v (by omega) (by rw [hj', hm]; exact hv)
      rw [hj'] at h
      rw [h]
      have e2 : 2 ^ k = 2 ^ 8 * 2 ^ (k - 8) := by rw [← Nat.pow_add]; congr 1; omega
      rw [e2]
      have e3 : 2 ^ 8 * (le l ^^^ 2 ^ (k - 8)) = 2 ^ 8 * le l ^^^ 2 ^ 8 * 2 ^ (k - 8) := by
        apply Nat.eq_of_testBit_eq
        intro i
        rw [Nat.testBit_xor, Nat.testBit_two_pow_mul, Nat.testBit_two_pow_mul, Nat.testBit_two_pow_mul, Nat.testBit_xor]
        by_cases hi : i ≥ 8 <;> simp [hi]
      rw [e3, Nat.xor_assoc, Nat.xor_comm (2 ^ 8 * 2 ^ (k - 8)), ← Nat.xor_assoc]

end Go.Proofs.YtmhpcbaoicboaaaDoor.crcs
