/- RationalField: the four operations on fractions that may be missing, and its mathematics. -/
import Derived.Test.YtdnbhgkbfbgnaaaGreatDoorMe
namespace Go.Proofs.YtdnbhgkbfbgnaaaGreatDoor
open Go.RowKit

/-- the texts and the error of an answer that may be missing -/
def n1 : Option Rat → ByteArray
  | some q => S q.num
  | none => ⟨#[]⟩
def n2 : Option Rat → ByteArray
  | some q => S (q.den : Int)
  | none => ⟨#[]⟩
def ec : Option Rat → Int
  | some _ => 0
  | none => 40
def OV (o : Option Rat) : Value := .agg #[.string (n1 o), .string (n2 o)]
def okO (k : Nat) (o : Option Rat) : Prop := ∀ q, o = some q → fitR k q
def opO (ok : Rat → Rat → Bool) (f : Rat → Rat → Rat) : Option Rat → Option Rat → Option Rat
  | some a, some b => if ok a b then some (f a b) else none
  | _, _ => none
def addO := opO okA (· + ·)
def subO := opO okS (· - ·)
def mulO := opO okM (· * ·)
def divO := opO okD (· / ·)
theorem OV_opO (ok : Rat → Rat → Bool) (f : Rat → Rat → Rat) (a b : Rat) : opQ (ok a b) (f a b) = .tuple #[OV (opO ok f (some a) (some b)), .int .i64 (ec (opO ok f (some a) (some b)))] := by
  cases h : ok a b
  · rw [opQ, if_neg (by decide), opO, h, if_neg (by decide)]; rfl
  · rw [opQ, if_pos rfl, opO, h, if_pos rfl]; rfl
theorem lst (o : Option Rat) (h : okO 200 o) : ∃ L1 L2 : List UInt8, (n1 o).data.toList = L1 ∧ (n2 o).data.toList = L2 ∧ L1.length ≤ 60000 ∧ L2.length ≤ 60000 ∧ (o = none → vR L1 L2 = false) := by
  cases o with
  | none => exact ⟨[], [], rfl, rfl, by decide, by decide, fun _ => by decide⟩
  | some q => exact ⟨txt q.num, txt (q.den : Int), S_list _, S_list _, S_len (h q rfl).1, S_len (den_abs q (h q rfl)), fun e => by cases e⟩
theorem opO_call (F : FuncId) (ok : Rat → Rat → Bool) (f : Rat → Rat → Rat)
    (hR : ∀ (a b : Rat), fitR 200 a → fitR 200 b → ∀ w, Calls Tryz.prog F #[RV a, RV b] w fun e w' => e = .returned (opQ (ok a b) (f a b)) ∧ Below w.heap.size w w')
    (hN : ∀ (s1 s2 s3 s4 : ByteArray) (L1 L2 L3 L4 : List UInt8) (w : World), s1.data.toList = L1 → s2.data.toList = L2 → s3.data.toList = L3 → s4.data.toList = L4 → L1.length ≤ 60000 → L2.length ≤ 60000 → L3.length ≤ 60000 → L4.length ≤ 60000 → (vR L1 L2 && vR L3 L4) = false → Calls Tryz.prog F #[.agg #[.string s1, .string s2], .agg #[.string s3, .string s4]] w fun e w' => e = .returned (.tuple #[RZ, .int .i64 40]) ∧ Below w.heap.size w w')
    (a b : Option Rat) (ha : okO 200 a) (hb : okO 200 b) (w : World) :
    Calls Tryz.prog F #[OV a, OV b] w fun e w' => e = .returned (.tuple #[OV (opO ok f a b), .int .i64 (ec (opO ok f a b))]) ∧ Below w.heap.size w w' := by
  by_cases h : a = none ∨ b = none
  · obtain ⟨L1, L2, e1, e2, l1, l2, v1⟩ := lst a ha
    obtain ⟨L3, L4, e3, e4, l3, l4, v2⟩ := lst b hb
    have hv : (vR L1 L2 && vR L3 L4) = false := by
      rcases h with h | h
      · rw [v1 h, Bool.false_and]
      · rw [v2 h, Bool.and_false]
    have ho : opO ok f a b = none := by
      rcases h with h | h
      · subst h; rfl
      · subst h; cases a <;> rfl
    rw [ho]
    exact hN _ _ _ _ L1 L2 L3 L4 w e1 e2 e3 e4 l1 l2 l3 l4 hv
  · cases a with
    | none => exact absurd (.inl rfl) h
    | some a => cases b with
      | none => exact absurd (.inr rfl) h
      | some b =>
        rw [← OV_opO]
        exact hR a b (ha a rfl) (hb b rfl) w
theorem qAdd_O (a b : Option Rat) (ha : okO 200 a) (hb : okO 200 b) (w : World) : Calls Tryz.prog 38 #[OV a, OV b] w fun e w' => e = .returned (.tuple #[OV (addO a b), .int .i64 (ec (addO a b))]) ∧ Below w.heap.size w w' :=
  opO_call _ okA (· + ·) (fun a b ha hb w => qAdd_R a b ha hb w) qAdd_no a b ha hb w
theorem qSub_O (a b : Option Rat) (ha : okO 200 a) (hb : okO 200 b) (w : World) : Calls Tryz.prog 40 #[OV a, OV b] w fun e w' => e = .returned (.tuple #[OV (subO a b), .int .i64 (ec (subO a b))]) ∧ Below w.heap.size w w' :=
  opO_call _ okS (· - ·) (fun a b ha hb w => qSub_R a b ha hb w) qSub_no a b ha hb w
theorem qMul_O (a b : Option Rat) (ha : okO 200 a) (hb : okO 200 b) (w : World) : Calls Tryz.prog 39 #[OV a, OV b] w fun e w' => e = .returned (.tuple #[OV (mulO a b), .int .i64 (ec (mulO a b))]) ∧ Below w.heap.size w w' :=
  opO_call _ okM (· * ·) (fun a b ha hb w => qMul_R a b ha hb w) qMul_no a b ha hb w
theorem qDiv_O (a b : Option Rat) (ha : okO 200 a) (hb : okO 200 b) (w : World) : Calls Tryz.prog 47 #[OV a, OV b] w fun e w' => e = .returned (.tuple #[OV (divO a b), .int .i64 (ec (divO a b))]) ∧ Below w.heap.size w w' :=
  opO_call _ okD (· / ·) (fun a b ha hb w => qDiv_R a b ha hb w) qDiv_no a b ha hb w
theorem fit_of {x : Int} (h : fits x = true) : x.natAbs < 10 ^ 200 := of_decide_eq_true h
theorem opO_fit {ok : Rat → Rat → Bool} {f : Rat → Rat → Rat} (h : ∀ a b, ok a b = true → fitR 200 (f a b)) (a b : Option Rat) : okO 200 (opO ok f a b) := by
  intro q e
  cases a with
  | none => cases e
  | some a => cases b with
    | none => cases e
    | some b =>
      rw [opO] at e
      cases ho : ok a b
      · rw [ho, if_neg (by decide)] at e; cases e
      · rw [ho, if_pos rfl] at e; cases e; exact h a b ho
theorem den_fit {a b : Rat} (h : fits ((a.den : Int) * b.den) = true) : a.den * b.den < 10 ^ 200 := by
  have := fit_of h
  rw [Int.natAbs_mul, Int.natAbs_natCast, Int.natAbs_natCast] at this; exact this
theorem addO_fit (a b : Option Rat) : okO 200 (addO a b) := opO_fit (fun a b h => by
  rw [okA, Bool.and_eq_true, Bool.and_eq_true] at h
  rw [Rat.add_def']
  exact mk_fit (fit_of h.2) (den_fit (by have := h.1; rw [Bool.and_eq_true] at this; exact this.2)) (Nat.mul_pos a.den_pos b.den_pos)) a b
theorem subO_fit (a b : Option Rat) : okO 200 (subO a b) := opO_fit (fun a b h => by
  rw [okS, Bool.and_eq_true, Bool.and_eq_true] at h
  rw [Rat.sub_def']
  exact mk_fit (fit_of h.2) (den_fit (by have := h.1; rw [Bool.and_eq_true] at this; exact this.2)) (Nat.mul_pos a.den_pos b.den_pos)) a b
theorem mulO_fit (a b : Option Rat) : okO 200 (mulO a b) := opO_fit (fun a b h => by
  rw [okM, Bool.and_eq_true] at h
  rw [Rat.mul_def']
  exact mk_fit (fit_of h.1) (den_fit h.2) (Nat.mul_pos a.den_pos b.den_pos)) a b
theorem di_bd5 (X Y : Int) (hX : X.natAbs < 10 ^ 200) (hY : Y.natAbs < 10 ^ 200) (h0 : Y ≠ 0) : fitR 200 (Rat.divInt X Y) := by
  rw [← sg_R]
  have h3 : (sg Y X).natAbs = X.natAbs := by unfold sg; split <;> omega
  have h4 : (sg Y Y).toNat = Y.natAbs := by unfold sg; split <;> omega
  exact mk_fit (by omega) (by omega) (by omega)
theorem divO_fit (a b : Option Rat) : okO 200 (divO a b) := opO_fit (fun a b h => by
  rw [okD, Bool.and_eq_true, Bool.and_eq_true] at h
  rw [div_R]
  exact di_bd5 _ _ (fit_of h.1.1) (fit_of h.1.2) (Int.mul_ne_zero (by have := den_pos a; omega) (of_decide_eq_true h.2))) a b

/-- what an answer without an error is -/
theorem opO_some {ok : Rat → Rat → Bool} {f : Rat → Rat → Rat} {a b : Option Rat} (h : ec (opO ok f a b) = 0) : ∃ p q, a = some p ∧ b = some q ∧ ok p q = true ∧ opO ok f a b = some (f p q) := by
  cases a with
  | none => exact absurd h (show (40 : Int) ≠ 0 by decide)
  | some a => cases b with
    | none => exact absurd h (show (40 : Int) ≠ 0 by decide)
    | some b =>
      cases ho : ok a b
      · rw [opO, ho, if_neg (by decide)] at h; exact absurd h (show (40 : Int) ≠ 0 by decide)
      · exact ⟨a, b, rfl, rfl, ho, by rw [opO, ho, if_pos rfl]⟩
theorem ec_cases (o : Option Rat) : ec o = 0 ∨ ec o = 40 := by cases o <;> simp [ec]
theorem addO_comm (a b : Option Rat) : addO a b = addO b a := by
  cases a <;> cases b <;> try rfl
  rename_i a b
  have h : okA a b = okA b a := by
    rw [okA, okA, Int.mul_comm (b.den : Int) a.den, Int.add_comm (b.num * a.den), Bool.and_comm (fits (b.num * a.den))]
  show (if okA a b then some (a + b) else none) = (if okA b a then some (b + a) else none)
  rw [h, Rat.add_comm]
theorem mulO_comm (a b : Option Rat) : mulO a b = mulO b a := by
  cases a <;> cases b <;> try rfl
  rename_i a b
  have h : okM a b = okM b a := by rw [okM, okM, Int.mul_comm (b.den : Int) a.den, Int.mul_comm b.num a.num]
  show (if okM a b then some (a * b) else none) = (if okM b a then some (b * a) else none)
  rw [h, Rat.mul_comm]
theorem field1 (a b c : Option Rat) (h : ec (addO (addO a b) c) = 0) (h' : ec (addO a (addO b c)) = 0) : addO (addO a b) c = addO a (addO b c) := by
  obtain ⟨p, q, e1, e2, _, e3⟩ := opO_some h
  obtain ⟨p', q', e1', e2', _, e3'⟩ := opO_some h'
  rw [show addO (addO a b) c = _ from e3, show addO a (addO b c) = _ from e3']
  obtain ⟨x, y, f1, f2, _, f3⟩ := opO_some (show ec (addO a b) = 0 by rw [e1]; rfl)
  obtain ⟨x', y', f1', f2', _, f3'⟩ := opO_some (show ec (addO b c) = 0 by rw [e2']; rfl)
  subst e1' e2
  cases f1; cases f2'; subst f2; cases f1'
  cases e1.symm.trans f3; cases e2'.symm.trans f3'
  exact congrArg some (Rat.add_assoc _ _ _)
theorem field2 (a b c : Option Rat) (h : ec (mulO (mulO a b) c) = 0) (h' : ec (mulO a (mulO b c)) = 0) : mulO a (mulO b c) = mulO (mulO a b) c := by
  obtain ⟨p, q, e1, e2, _, e3⟩ := opO_some h
  obtain ⟨p', q', e1', e2', _, e3'⟩ := opO_some h'
  rw [show mulO (mulO a b) c = _ from e3, show mulO a (mulO b c) = _ from e3']
  obtain ⟨x, y, f1, f2, _, f3⟩ := opO_some (show ec (mulO a b) = 0 by rw [e1]; rfl)
  obtain ⟨x', y', f1', f2', _, f3'⟩ := opO_some (show ec (mulO b c) = 0 by rw [e2']; rfl)
  subst e1' e2
  cases f1; cases f2'; subst f2; cases f1'
  cases e1.symm.trans f3; cases e2'.symm.trans f3'
  exact congrArg some (Rat.mul_assoc _ _ _).symm
theorem field3 (a b c : Option Rat) (h : ec (addO (mulO a c) (mulO b c)) = 0) (h' : ec (mulO (addO a b) c) = 0) : addO (mulO a c) (mulO b c) = mulO (addO a b) c := by
  obtain ⟨p, q, e1, e2, _, e3⟩ := opO_some h
  obtain ⟨p', q', e1', e2', _, e3'⟩ := opO_some h'
  rw [show addO (mulO a c) (mulO b c) = _ from e3, show mulO (addO a b) c = _ from e3']
  obtain ⟨x, y, f1, f2, _, f3⟩ := opO_some (show ec (mulO a c) = 0 by rw [e1]; rfl)
  obtain ⟨x', y', f1', f2', _, f3'⟩ := opO_some (show ec (mulO b c) = 0 by rw [e2]; rfl)
  obtain ⟨u, v, g1, g2, _, g3⟩ := opO_some (show ec (addO a b) = 0 by rw [e1']; rfl)
  subst f1 f2 f1'
  cases f2'; cases g1; cases g2; cases e2'
  cases e1.symm.trans f3; cases e2.symm.trans f3'; cases e1'.symm.trans g3
  exact congrArg some (Rat.add_mul _ _ _).symm
theorem field4 (a b : Option Rat) (h : ec (subO (addO a b) b) = 0) : subO (addO a b) b = a := by
  obtain ⟨p, q, e1, e2, _, e3⟩ := opO_some h
  rw [show subO (addO a b) b = _ from e3]
  obtain ⟨x, y, f1, f2, _, f3⟩ := opO_some (show ec (addO a b) = 0 by rw [e1]; rfl)
  subst f1 f2; cases e2
  cases e1.symm.trans f3
  exact congrArg some (Rat.add_sub_cancel)
theorem field5 (a b : Option Rat) (h : ec (mulO (divO a b) b) = 0) : mulO (divO a b) b = a := by
  obtain ⟨p, q, e1, e2, _, e3⟩ := opO_some h
  rw [show mulO (divO a b) b = _ from e3]
  obtain ⟨x, y, f1, f2, hd, f3⟩ := opO_some (show ec (divO a b) = 0 by rw [e1]; rfl)
  subst f1 f2; cases e2
  cases e1.symm.trans f3
  rw [okD, Bool.and_eq_true] at hd
  have hq : q ≠ 0 := fun e => of_decide_eq_true hd.2 (by rw [e]; rfl)
  exact congrArg some (Rat.div_mul_cancel hq)
end Go.Proofs.YtdnbhgkbfbgnaaaGreatDoor
