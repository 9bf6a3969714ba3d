/- The plain mathematics of the encoding of integers: groups of seven bits, the least first, and the one way to read them back. Nothing of the program stands here. -/
import Derived.RowKit3
namespace Go.Proofs.YtmhpcbaoicboaaaDoor

/-- the number whose groups are encoded -/
def zig (n : Int) : Nat := if n < 0 then (-2 * n - 1).toNat else (2 * n).toNat
/-- its inverse -/
def unz (z : Nat) : Int := if z % 2 = 1 then -((z / 2 : Nat) : Int) - 1 else ((z / 2 : Nat) : Int)

/-- the groups of z, at most f of them -/
def grp : Nat → Nat → List UInt8
  | 0, _ => []
  | f + 1, z => if z < 128 then [UInt8.ofNat z] else UInt8.ofNat (z % 128 + 128) :: grp f (z / 128)

/-- reading groups: i of them have been read, their number is z -/
def jn : List UInt8 → Nat → Nat → Option (Nat × Nat)
  | [], _, _ => none
  | b :: l, i, z =>
    if 9 ≤ i then none
    else if 128 ≤ b.toNat then jn l (i + 1) (z + (b.toNat - 128) * 128 ^ i)
    else if b.toNat = 0 ∧ 0 < i then none
    else some (z + b.toNat * 128 ^ i, i + 1)

theorem toNat_lo (z : Nat) (h : z < 128) : (UInt8.ofNat z).toNat = z := by
  rw [UInt8.toNat_ofNat']; omega
theorem toNat_hi (z : Nat) : (UInt8.ofNat (z % 128 + 128)).toNat = z % 128 + 128 := by
  rw [UInt8.toNat_ofNat']; omega

theorem grp_ne (f z : Nat) : grp (f + 1) z ≠ [] := by
  simp only [grp]; split <;> simp
theorem grp_len (f z : Nat) : (grp f z).length ≤ f := by
  induction f generalizing z with
  | zero => simp [grp]
  | succ f ih => simp only [grp]; split
                 · simp
                 · have := ih (z / 128); simp; omega

/-- what was written is read, whatever follows -/
theorem jn_grp (f : Nat) : ∀ (z i acc : Nat) (l : List UInt8), z < 128 ^ f → i + f ≤ 9 → (0 < i → 0 < z) →
    0 < f → jn (grp f z ++ l) i acc = some (acc + z * 128 ^ i, i + (grp f z).length) := by
  induction f with
  | zero => intro z i acc l _ _ _ h; omega
  | succ f ih =>
    intro z i acc l hz hi hp _
    have h9 : ¬ 9 ≤ i := by omega
    by_cases hlt : z < 128
    · simp only [grp, if_pos hlt, List.cons_append, List.nil_append, jn, toNat_lo z hlt, if_neg h9]
      rw [if_neg (by omega), if_neg (by omega)]
      simp
    · have hf : 0 < f := by
        rcases f with _ | f
        · simp at hz; omega
        · omega
      have hz' : z / 128 < 128 ^ f := by rw [Nat.pow_succ] at hz; omega
      simp only [grp, if_neg hlt, List.cons_append, jn, toNat_hi, if_neg h9]
      rw [if_pos (by omega), ih (z / 128) (i + 1) _ l hz' (by omega) (by omega) hf]
      simp only [List.length_cons, Option.some.injEq, Prod.mk.injEq]
      refine ⟨?_, by omega⟩
      have e1 : z % 128 + 128 - 128 = z % 128 := by omega
      have e2 : z / 128 * (128 ^ i * 128) = (z / 128 * 128) * 128 ^ i := by
        rw [Nat.mul_comm (128 ^ i) 128, Nat.mul_assoc]
      have e3 : z % 128 + z / 128 * 128 = z := by omega
      rw [e1, Nat.pow_succ, Nat.add_assoc, e2, ← Nat.add_mul, e3]

/-- what is read is what was written: its groups are the only ones -/
theorem jn_inv : ∀ (l : List UInt8) (i acc v k : Nat), jn l i acc = some (v, k) →
    ∃ z, v = acc + z * 128 ^ i ∧ i < k ∧ k - i ≤ l.length ∧ k ≤ 9 ∧ z < 128 ^ (9 - i) ∧ (0 < i → 0 < z) ∧ l.take (k - i) = grp (9 - i) z := by
  intro l
  induction l with
  | nil => intro i acc v k h; simp [jn] at h
  | cons b l ih =>
    intro i acc v k h
    have hb : b.toNat < 256 := b.toNat_lt
    simp only [jn] at h
    by_cases h9 : 9 ≤ i
    · rw [if_pos h9] at h; cases h
    rw [if_neg h9] at h
    obtain ⟨f, hf⟩ : ∃ f, 9 - i = f + 1 := ⟨8 - i, by omega⟩
    by_cases hb1 : 128 ≤ b.toNat
    · rw [if_pos hb1] at h
      obtain ⟨z, rfl, hik, hkl, hk9, hz, hp, ht⟩ := ih _ _ _ _ h
      have hz0 : 0 < z := hp (by omega)
      have hf' : 9 - (i + 1) = f := by omega
      rw [hf'] at hz ht
      refine ⟨b.toNat - 128 + 128 * z, ?_, by omega, ?_, hk9, ?_, by omega, ?_⟩
      · rw [Nat.pow_succ, Nat.add_mul, Nat.add_assoc]
        congr 2
        rw [Nat.mul_comm 128 z, Nat.mul_assoc, Nat.mul_comm (128 ^ i) 128]
      · simp; omega
      · rw [hf, Nat.pow_succ]; omega
      · have e : k - i = (k - (i + 1)) + 1 := by omega
        rw [e, hf, List.take_succ_cons, ht]
        simp only [grp]
        rw [if_neg (by omega)]
        congr 1
        · apply UInt8.toNat_inj.1
          rw [toNat_hi]; omega
        · congr 1; omega
    · rw [if_neg hb1] at h
      by_cases hb0 : b.toNat = 0 ∧ 0 < i
      · rw [if_pos hb0] at h; cases h
      rw [if_neg hb0] at h
      simp only [Option.some.injEq, Prod.mk.injEq] at h
      obtain ⟨rfl, rfl⟩ := h
      refine ⟨b.toNat, rfl, by omega, by simp, by omega, ?_, by omega, ?_⟩
      · rw [hf, Nat.pow_succ]
        have : 0 < 128 ^ f := Nat.pow_pos (by omega)
        omega
      · have e : i + 1 - i = 1 := by omega
        rw [e, hf, List.take_succ_cons]
        simp only [grp]
        rw [if_pos (by omega)]
        simp only [List.take_zero, List.cons.injEq, and_true]
        apply UInt8.toNat_inj.1
        rw [toNat_lo _ (by omega)]

/-- no proper beginning is read -/
theorem jn_cut (f : Nat) : ∀ (z i acc m : Nat), m < (grp f z).length → jn ((grp f z).take m) i acc = none := by
  induction f with
  | zero => intro z i acc m h; simp [grp] at h
  | succ f ih =>
    intro z i acc m hm
    cases m with
    | zero => simp [jn]
    | succ m =>
      by_cases hlt : z < 128
      · simp only [grp, if_pos hlt] at hm; simp at hm
      · simp only [grp, if_neg hlt, List.length_cons] at hm ⊢
        rw [List.take_succ_cons, jn, toNat_hi]
        split
        · rfl
        · rw [if_pos (by omega)]; exact ih _ _ _ _ (by omega)

theorem unz_zig (n : Int) : unz (zig n) = n := by
  unfold unz zig; split <;> split <;> omega
theorem zig_unz (z : Nat) : zig (unz z) = z := by
  unfold unz zig; split <;> split <;> omega
theorem zig_lt (n : Int) (h0 : -4611686018427387903 ≤ n) (h1 : n ≤ 4611686018427387903) : zig n < 128 ^ 9 := by
  unfold zig; split <;> omega

/-- the encoding of an integer -/
def enc (n : Int) : List UInt8 := grp 9 (zig n)

/-- what is read at the beginning of l -/
def dI (l : List UInt8) : Option (Int × Nat) :=
  match jn l 0 0 with
  | none => none
  | some (z, k) => if unz z < -4611686018427387903 ∨ 4611686018427387903 < unz z then none else some (unz z, k)

theorem dI_enc (n : Int) (l : List UInt8) (h0 : -4611686018427387903 ≤ n) (h1 : n ≤ 4611686018427387903) :
    dI (enc n ++ l) = some (n, (enc n).length) := by
  unfold dI enc
  rw [jn_grp 9 (zig n) 0 0 l (zig_lt n h0 h1) (by omega) (by omega) (by omega)]
  simp only [Nat.pow_zero, Nat.mul_one, Nat.zero_add, unz_zig]
  rw [if_neg (by omega)]

theorem dI_inv (l : List UInt8) (n : Int) (k : Nat) (h : dI l = some (n, k)) :
    -4611686018427387903 ≤ n ∧ n ≤ 4611686018427387903 ∧ 0 < k ∧ k ≤ 9 ∧ k ≤ l.length ∧ l.take k = enc n := by
  unfold dI at h
  split at h
  · cases h
  · rename_i z k' hj
    split at h
    · cases h
    · simp only [Option.some.injEq, Prod.mk.injEq] at h
      obtain ⟨rfl, rfl⟩ := h
      obtain ⟨z', rfl, h1, h2, h3, h4, h5, h6⟩ := jn_inv _ _ _ _ _ hj
      refine ⟨by omega, by omega, h1, h3, by omega, ?_⟩
      simp only [Nat.sub_zero, Nat.pow_zero, Nat.mul_one, Nat.zero_add] at h6 ⊢
      rw [h6, enc, zig_unz]

theorem dI_cut (n : Int) (m : Nat) (h : m < (enc n).length) : dI ((enc n).take m) = none := by
  unfold dI
  rw [show jn ((enc n).take m) 0 0 = none from jn_cut 9 (zig n) 0 0 m h]

theorem enc_len (n : Int) : (enc n).length ≤ 9 := grp_len _ _
theorem enc_pos (n : Int) : 0 < (enc n).length := by
  have := grp_ne 8 (zig n)
  exact List.length_pos_iff.2 this

/-- the encodings of different integers are not prefixes of each other -/
theorem enc_prefix (n m : Int) (h0 : -4611686018427387903 ≤ n) (h1 : n ≤ 4611686018427387903) (h2 : -4611686018427387903 ≤ m) (h3 : m ≤ 4611686018427387903)
    (h : (enc m).take (enc n).length = enc n) : n = m := by
  have e : enc m = enc n ++ (enc m).drop (enc n).length := by
    conv => lhs; rw [← List.take_append_drop (enc n).length (enc m)]
    rw [h]
  have a := dI_enc m [] h2 h3
  rw [List.append_nil, e, dI_enc n _ h0 h1] at a
  simp only [Option.some.injEq, Prod.mk.injEq] at a
  exact a.1

end Go.Proofs.YtmhpcbaoicboaaaDoor
