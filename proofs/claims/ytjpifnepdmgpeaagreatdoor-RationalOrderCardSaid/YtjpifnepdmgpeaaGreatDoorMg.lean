/- Further functions by contract. -/
import Derived.Test.YtjpifnepdmgpeaaGreatDoorMf
namespace Go.Proofs.YtjpifnepdmgpeaaGreatDoor
open Go.RowKit Go.Shelf

theorem S_inj {a b : Int} (h : S a = S b) : a = b := by
  have := congrArg (fun x : ByteArray => x.data.toList) h
  simp only [S_list] at this
  exact txt_inj this
theorem cmpR_zero (a b : Rat) : cmpR a b = 0 ↔ a = b := by
  unfold cmpR
  constructor
  · intro h
    by_cases h1 : a < b
    · rw [if_pos h1] at h; exact absurd h (by decide)
    · by_cases h2 : b < a
      · rw [if_neg h1, if_pos h2] at h; exact absurd h (by decide)
      · exact Rat.le_antisymm (Rat.not_lt.1 h2) (Rat.not_lt.1 h1)
  · rintro rfl; exact cmpR_self a
theorem cmpR_le (a b : Rat) : cmpR a b ≤ 0 ↔ a ≤ b := by
  unfold cmpR
  by_cases h1 : a < b
  · rw [if_pos h1]; exact ⟨fun _ => Rat.le_of_lt h1, fun _ => by decide⟩
  · by_cases h2 : b < a
    · rw [if_neg h1, if_pos h2]; exact ⟨fun h => absurd h (by decide), fun h => absurd h2 (Rat.not_lt.2 h)⟩
    · rw [if_neg h1, if_neg h2]; exact ⟨fun _ => Rat.not_lt.1 h2, fun _ => by decide⟩
theorem cmpR_lt (a b : Rat) : cmpR a b < 0 ↔ a < b := by
  unfold cmpR
  by_cases h1 : a < b
  · rw [if_pos h1]; exact ⟨fun _ => h1, fun _ => by decide⟩
  · by_cases h2 : b < a
    · rw [if_neg h1, if_pos h2]; exact ⟨fun h => absurd h (by decide), fun h => absurd h h1⟩
    · rw [if_neg h1, if_neg h2]; exact ⟨fun h => absurd h (by decide), fun h => absurd h h1⟩
theorem cmpR_bd (a b : Rat) : cmpR a b = -1 ∨ cmpR a b = 0 ∨ cmpR a b = 1 := by
  unfold cmpR; split
  · exact .inl rfl
  · split
    · exact .inr (.inr rfl)
    · exact .inr (.inl rfl)
theorem cmpR_congr {a b c d : Rat} (h1 : a < b ↔ c < d) (h2 : b < a ↔ d < c) : cmpR a b = cmpR c d := by
  unfold cmpR
  by_cases x : a < b
  · rw [if_pos x, if_pos (h1.1 x)]
  · rw [if_neg x, if_neg (fun e => x (h1.2 e))]
    by_cases y : b < a
    · rw [if_pos y, if_pos (h2.1 y)]
    · rw [if_neg y, if_neg (fun e => y (h2.2 e))]
theorem cmpR_sub (a b : Rat) : cmpR (a - b) 0 = cmpR a b := by
  refine cmpR_congr ?_ (Rat.lt_iff_sub_pos b a).symm
  rw [Rat.lt_iff_sub_pos a b, ← Rat.neg_sub a b]
  constructor
  · intro h; have := Rat.neg_lt_neg h; simpa using this
  · intro h; have := Rat.neg_lt_neg h; simpa [Rat.neg_neg] using this
theorem cmpR_add (a b t : Rat) : cmpR (a + t) (b + t) = cmpR a b := cmpR_congr Rat.add_lt_add_right Rat.add_lt_add_right
theorem cmpR_mul (a b t : Rat) : cmpR (a * t) (b * t) = cmpR a b * cmpR t 0 := by
  by_cases h0 : 0 < t
  · rw [show cmpR t 0 = 1 by unfold cmpR; rw [if_neg (Rat.not_lt.2 (Rat.le_of_lt h0)), if_pos h0], Int.mul_one]
    exact cmpR_congr (Rat.mul_lt_mul_right h0) (Rat.mul_lt_mul_right h0)
  · by_cases h1 : t < 0
    · rw [show cmpR t 0 = -1 by unfold cmpR; rw [if_pos h1], Int.mul_neg, Int.mul_one, ← cmpR_swap]
      have hn : 0 < -t := by have := Rat.neg_lt_neg h1; simpa using this
      have e : ∀ x y : Rat, x * t < y * t ↔ y < x := fun x y => by
        rw [← Rat.mul_lt_mul_right hn (a := y) (b := x), Rat.mul_neg, Rat.mul_neg, Rat.neg_lt_neg_iff]
      exact cmpR_congr (e a b) (e b a)
    · have ht : t = 0 := Rat.le_antisymm (Rat.not_lt.1 h0) (Rat.not_lt.1 h1)
      subst ht
      rw [Rat.mul_zero, Rat.mul_zero, cmpR_self, Int.mul_zero]
set_option maxRecDepth 100000 in
theorem open_i2 {H : Type} {enc : TypeId × Value → H} {W : World} {b : Nat} {sp : Nat → Bool} {held : Bool} {base : Nat} {v : Value} {d : DataW H} {p : List MemPlace}
    (hval : Value.okWide Tryz.prog W .any b 25 v) (h : DataW.Trod enc Tryz.prog W base sp held 25 v d p) :
    ∃ a0 a1 : Int, v = .agg #[.int .i64 a0, .int .i64 a1] ∧ (-9223372036854775808 ≤ a0 ∧ a0 ≤ 9223372036854775807) ∧ (-9223372036854775808 ≤ a1 ∧ a1 ≤ 9223372036854775807) := by
  simp only [Value.okWide, Tryz.underlying25] at hval
  obtain ⟨cs, rfl, hs, _⟩ := hval
  obtain ⟨fuel, hf⟩ := h
  obtain ⟨xs, m, rfl, hx, hl, hn, hi⟩ := DataW.trod_array Tryz.underlying25 hf
  rw [c2] at hs
  obtain ⟨c0, c1, rfl⟩ : ∃ c0 c1, cs = #[c0, c1] := by
    rcases cs with ⟨l⟩
    match l, hs with
    | [c0, c1], _ => exact ⟨c0, c1, rfl⟩
  match xs, hn with
  | [x0, x1], _ =>
    have i0 := hi 0 (by omega)
    have i1 := hi 1 (by omega)
    simp [cInt, Value.cells] at i0 i1
    obtain ⟨s0, e0, _, l0⟩ := DataW.trod_int Tryz.underlying3 i0
    obtain ⟨s1, e1, _, l1⟩ := DataW.trod_int Tryz.underlying3 i1
    simp only [List.cons.injEq, and_true] at e0 e1
    subst e0 e1
    exact ⟨s0, s1, rfl, wfb l0, wfb l1⟩
end Go.Proofs.YtjpifnepdmgpeaaGreatDoor
