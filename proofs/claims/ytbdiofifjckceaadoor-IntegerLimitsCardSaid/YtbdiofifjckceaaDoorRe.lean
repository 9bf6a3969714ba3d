/- The walk of the law on limits. -/
import Derived.Test.YtbdiofifjckceaaDoorRd
namespace Go.Proofs.YtbdiofifjckceaaDoor
open Go.RowKit

/-- some nines -/
def nin (n : Nat) : ByteArray := ⟨(List.replicate n 57).toArray⟩
theorem nin_size (n : Nat) : (nin n).size = n := by simp [nin, ByteArray.size]
theorem nin_list (n : Nat) : (nin n).data.toList = List.replicate n 57 := by simp [nin]
theorem nine_all (n : Nat) : (List.replicate n (57 : UInt8)).all isDg = true := by
  rw [List.all_eq_true]; intro c hc; rw [(List.mem_replicate.1 hc).2]; decide
theorem nmN_nine (n : Nat) : nmN (List.replicate n 57) + 1 = 10 ^ n := by
  induction n with
  | zero => rfl
  | succ n ih => rw [List.replicate_succ', nmN_snoc, Nat.pow_succ, show (57 : UInt8).toNat = 57 from rfl]; omega
theorem nin_S {n : Nat} (h : 0 < n) : S (((10 ^ n - 1 : Nat) : Int)) = nin n := by
  have h1 := txN_of (nine_all n) (by rw [List.length_replicate]; exact h) (by
    obtain ⟨m, rfl⟩ : ∃ m, n = m + 1 := ⟨n - 1, by omega⟩
    rw [List.replicate_succ]; simp)
  have h2 := nmN_nine n
  rw [show nmN (List.replicate n 57) = 10 ^ n - 1 by omega] at h1
  rw [S, txt, if_neg (by omega), Int.natAbs_natCast, h1.1]; rfl
theorem neg_S {n : Nat} (h : 0 < n) : S (-((n : Nat) : Int)) = ⟨#[45]⟩ ++ S (n : Int) := by
  apply ByteArray.ext
  rw [ByteArray.data_append, ← Array.toList_inj, Array.toList_append, S_list, S_list, txt, if_pos (by omega), txt, if_neg (by omega), Int.natAbs_neg]
  rfl
theorem two_S (n : Nat) : S (((2 * 10 ^ n - 1 : Nat) : Int)) = ⟨#[49]⟩ ++ nin n := by
  have h1 := txN_of (l := 49 :: List.replicate n 57) (by rw [List.all_cons, nine_all]; decide) (by simp) (by simp)
  have h2 := nmN_nine n
  have h3 := nmN_app [49] (List.replicate n 57)
  rw [List.length_replicate, show nmN [49] = 1 from by decide, List.singleton_append] at h3
  rw [show nmN (49 :: List.replicate n 57) = 2 * 10 ^ n - 1 by omega] at h1
  apply ByteArray.ext
  rw [ByteArray.data_append, ← Array.toList_inj, Array.toList_append, S_list, nin_list, txt, if_neg (by omega), Int.natAbs_natCast, h1.1]
  rfl
theorem size_S {z k : Nat} (h1 : 10 ^ k ≤ z) (h2 : z < 10 ^ (k + 1)) : (S (z : Int)).size = k + 1 := by
  have h0 : 0 < z := Nat.lt_of_lt_of_le (Nat.pow_pos (by decide)) h1
  have g1 := grpX_lt z
  have g2 := grpX_ge h0
  have e : (S (z : Int)).size = (txN z).length := by
    rw [S, txt, if_neg (by omega), Int.natAbs_natCast]; simp [ByteArray.size]
  rw [e, txN, if_neg (by omega), lts_len]
  have a1 : k < (grpX z).length := (Nat.pow_lt_pow_iff_right (by decide : 1 < 10)).1 (Nat.lt_of_le_of_lt h1 g1)
  have a2 : (grpX z).length - 1 < k + 1 := (Nat.pow_lt_pow_iff_right (by decide : 1 < 10)).1 (Nat.lt_of_le_of_lt g2 h2)
  omega
theorem nines_B (n : Nat) (m : Int) (hm : m = n) (w : World) (hn : n ≤ 200) :
    Calls Tryd.prog 19 #[.int .i64 m] w fun e w' => e = .returned (.string (nin n)) ∧ Below w.heap.size w w' := by
  subst hm
  exact (nines_any n w hn).mono fun _ _ ⟨he, hw⟩ => ⟨he, hw ▸ Below.refl _ _⟩
theorem Add_empty (w : World) : Calls Tryd.prog 11 #[.string (nin 0), .string ⟨#[49]⟩] w fun e w' => e = .returned (.tuple #[.string ⟨#[]⟩, .int .i64 30]) ∧ Below w.heap.size w w' := by
  have h := Add_any (nin 0) ⟨#[49]⟩ [] [49] w (nin_list 0) rfl (by decide) (by decide)
  rw [show (vld [] && vld [49]) = false from by decide] at h
  exact h
theorem Valid_long (w : World) : Calls Tryd.prog 16 #[.string (nin 200 ++ ⟨#[57]⟩)] w fun e w' => e = .returned (.bool false) ∧ Below w.heap.size w w' := by
  have e1 : (nin 200 ++ ⟨#[57]⟩ : ByteArray).data.toList = List.replicate 201 57 := by
    rw [ByteArray.data_append, Array.toList_append, nin_list, List.replicate_succ' (n := 200)]
  have h := Valid_any (nin 200 ++ ⟨#[57]⟩) (List.replicate 201 57) w e1 (by rw [List.length_replicate]; decide)
  have hb : bare (List.replicate 201 (57 : UInt8)) = List.replicate 201 57 := by
    rw [bare, if_neg]; rw [List.replicate_succ]; simp
  rw [vld, hb, List.length_replicate, decide_eq_false (by omega), Bool.false_and] at h
  exact h
theorem pick_B (c : Int) (w : World) (h1 : -9223372036854775808 ≤ c) (h2 : c ≤ 9223372036854775807) :
    Calls Tryd.prog 20 #[.int .i64 c, .int .i64 200] w fun e w' => ∃ p : Nat, e = .returned (.int .i64 (p : Int)) ∧ p < 200 ∧ Below w.heap.size w w' :=
  (pick_any c w h1 h2).mono fun _ _ ⟨p, he, hp, hw⟩ => ⟨p, he, hp, hw ▸ Below.refl _ _⟩

set_option maxRecDepth 100000 in
set_option maxHeartbeats 8000000 in
theorem limits_walk (s0 : ByteArray) (cm cn : Int) (w : World) (hs0 : s0.size ≤ 9223372036854775807) (hm : -9223372036854775808 ≤ cm ∧ cm ≤ 9223372036854775807) (hn : -9223372036854775808 ≤ cn ∧ cn ≤ 9223372036854775807) :
    Calls Tryd.prog 8 #[.string s0, .int .i64 cm, .int .i64 cn] w fun e w' => e = .returned (.bool true) ∧ Below w.heap.size w w' := by
  have H := Lib.hid (Below.refl w.heap.size w)
  have cM0 := fun W => Made_I s0 5 5 rfl W (by decide) (by decide) hs0
  have cp1 := fun W => pick_B cm W hm.1 hm.2
  have cp2 := fun W => pick_B cn W hn.1 hn.2
  go_enter Tryd.func8, Tryd.ntmps8
  go_upto_region 3 with (first | (go_at_call 9; (with_reducible refine (sane_any _).mono ?_); rintro e W ⟨rfl, B1⟩; have B2 := H.out.trans (B1.mono H.out.size); clear H B1; have H := Lib.hid B2; clear B2) | (go_at_call_of 10 (Value.string s0); (with_reducible refine (cM0 _).mono ?_); rintro e W ⟨x, rfl, bx, B1⟩; have B2 := H.out.trans (B1.mono H.out.size); clear H B1; have H := Lib.hid B2; clear B2))
  clear cM0 hs0 hm hn
  have hK := nin_S (n := 200) (by decide)
  have hKn := neg_S (n := 10 ^ 200 - 1) (by decide)
  rw [hK] at hKn
  have bx2 := wide bx (show 5 ≤ 200 by decide)
  have bK : (((10 ^ 200 - 1 : Nat) : Int)).natAbs < 10 ^ 200 := by rw [Int.natAbs_natCast]; omega
  have bKn : (-((10 ^ 200 - 1 : Nat) : Int)).natAbs < 10 ^ 200 := by rw [Int.natAbs_neg]; exact bK
  have cN := fun W => nines_B 200 200 rfl W (by decide)
  have cV1 := fun W => Valid_long W
  have cV2 := fun W => Valid_S (-((10 ^ 200 - 1 : Nat) : Int)) bKn W
  have cC := fun W => Compare_S x 0 bx2 (by decide) W
  rw [S_zero] at cC
  rw [hKn] at cV2
  have hsK := nin_size 200
  have HE := Lib.hid (show ∀ n : Nat, nin n = nin n from fun _ => rfl)
  clear HE
  rcases Int.lt_or_le 0 x with hg | hg
  · rw [cmp_pos hg] at cC
    have c0 := fun W => Add_F (((10 ^ 200 - 1 : Nat) : Int)) x bK bx2 (by omega) W
    have c1 := fun W => Sub_F (-((10 ^ 200 - 1 : Nat) : Int)) x bKn bx2 (by omega) W
    rw [hK] at c0
    rw [hKn] at c1
    clear hK hKn bx bx2 bK bKn hg
    go_upto_region 8 with (first | (go_at_call 19; (with_reducible refine (cN _).mono ?_); rintro e W ⟨rfl, B1⟩; have B2 := H.out.trans (B1.mono H.out.size); clear H B1; have H := Lib.hid B2; clear B2) | (go_at_call 11; (with_reducible refine (c0 _).mono ?_); rintro e W ⟨rfl, B1⟩; have B2 := H.out.trans (B1.mono H.out.size); clear H B1; have H := Lib.hid B2; clear B2) | (go_at_call 13; (with_reducible refine (c1 _).mono ?_); rintro e W ⟨rfl, B1⟩; have B2 := H.out.trans (B1.mono H.out.size); clear H B1; have H := Lib.hid B2; clear B2) | (go_at_call_of 20 (Value.int .i64 cm); (with_reducible refine (cp1 _).mono ?_); rintro e W ⟨p, rfl, hp, B1⟩; have B2 := H.out.trans (B1.mono H.out.size); clear H B1; have H := Lib.hid B2; clear B2) | (go_at_call_of 20 (Value.int .i64 cn); (with_reducible refine (cp2 _).mono ?_); rintro e W ⟨q, rfl, hq, B1⟩; have B2 := H.out.trans (B1.mono H.out.size); clear H B1; have H := Lib.hid B2; clear B2))
    clear cp1 cp2 c0 c1
    have cNn := fun W => nines_B q q rfl W (by omega)
    have htw := two_S q
    have hP1 : 10 ^ p ≤ 10 ^ 199 := Nat.pow_le_pow_right (by decide) (by omega)
    have hQ1 : 10 ^ q ≤ 10 ^ 199 := Nat.pow_le_pow_right (by decide) (by omega)
    have hP0 : 0 < 10 ^ p := Nat.pow_pos (by decide)
    have hQ0 : 0 < 10 ^ q := Nat.pow_pos (by decide)
    have bO : (((10 ^ p : Nat) : Int)).natAbs < 10 ^ 200 := by rw [Int.natAbs_natCast]; omega
    have bT : (((2 * 10 ^ q - 1 : Nat) : Int)).natAbs < 10 ^ 200 := by rw [Int.natAbs_natCast]; omega
    have hlo : 10 ^ (p + q) ≤ 10 ^ p * (2 * 10 ^ q - 1) := by rw [Nat.pow_add]; exact Nat.mul_le_mul_left _ (by omega)
    have hhi : 10 ^ p * (2 * 10 ^ q - 1) < 10 ^ (p + q + 1) := by
      have h1 : 10 ^ p * (2 * 10 ^ q - 1) < 10 ^ p * (10 * 10 ^ q) := Nat.mul_lt_mul_of_pos_left (by omega) hP0
      rw [Nat.pow_succ, Nat.pow_add]
      have h2 : 10 ^ p * (10 * 10 ^ q) = 10 ^ p * 10 ^ q * 10 := by rw [Nat.mul_left_comm, Nat.mul_comm 10]
      omega
    have hszp := size_S hlo hhi
    have emul : ((10 ^ p : Nat) : Int) * ((2 * 10 ^ q - 1 : Nat) : Int) = ((10 ^ p * (2 * 10 ^ q - 1) : Nat) : Int) := (Int.natCast_mul _ _).symm
    have hsq := nin_size q
    obtain ⟨cO, hcO⟩ : ∃ c : Nat → Prop, c = fun _ => True := ⟨_, rfl⟩
    clear hcO cO
    by_cases hsmall : p + q < 200
    · have c5 := fun W => Mul_S (((10 ^ p : Nat) : Int)) (((2 * 10 ^ q - 1 : Nat) : Int)) bO bT (by
        rw [emul, Int.natAbs_natCast]; exact Nat.lt_of_lt_of_le hhi (Nat.pow_le_pow_right (by decide) (by omega))) W
      rw [emul, htw] at c5
      have hlen : (((S ((10 ^ p * (2 * 10 ^ q - 1) : Nat) : Int)).size : Int) == (p : Int) + (q : Int) + 1) = true := by rw [hszp]; simp
      have hsm : decide ((p : Int) + (q : Int) < 200) = true := by rw [decide_eq_true_eq]; omega
      generalize S ((10 ^ p * (2 * 10 ^ q - 1) : Nat) : Int) = A5 at *
      by_cases hp0 : p = 0
      · subst hp0
        rw [Int.natCast_zero, Int.zero_add] at hlen hsm
        have cNm := fun W => nines_B 0 0 rfl W (by decide)
        have c3 := fun W => Add_empty W
        have c4 := fun W => Add_S 0 1 (by decide) (by decide) (by decide) W
        rw [S_zero, S_one, show (0 : Int) + 1 = 1 from rfl, S_one] at c4
        rw [show (((10 ^ 0 : Nat) : Int)) = 1 from rfl, S_one] at c5
        clear htw hP1 hQ1 hP0 hQ0 bO bT hlo hhi hszp emul
        generalize nin 200 = NK at *
        generalize nin q = NQ at *
        generalize nin 0 = NZ at *
        go_wp2_with (first | (go_at_call 19; (with_reducible refine (cNm _).mono ?_); rintro e W ⟨rfl, B1⟩; have B2 := H.out.trans (B1.mono H.out.size); clear H B1; have H := Lib.hid B2; clear B2) | (go_at_call 19; (with_reducible refine (cNn _).mono ?_); rintro e W ⟨rfl, B1⟩; have B2 := H.out.trans (B1.mono H.out.size); clear H B1; have H := Lib.hid B2; clear B2) | (go_at_call 12; (with_reducible refine (c5 _).mono ?_); rintro e W ⟨rfl, B1⟩; have B2 := H.out.trans (B1.mono H.out.size); clear H B1; have H := Lib.hid B2; clear B2) | (go_at_call 15; (with_reducible refine (cC _).mono ?_); rintro e W ⟨rfl, B1⟩; have B2 := H.out.trans (B1.mono H.out.size); clear H B1; have H := Lib.hid B2; clear B2) | (go_at_call 16; (with_reducible refine (cV1 _).mono ?_); rintro e W ⟨rfl, B1⟩; have B2 := H.out.trans (B1.mono H.out.size); clear H B1; have H := Lib.hid B2; clear B2) | (go_at_call 16; (with_reducible refine (cV2 _).mono ?_); rintro e W ⟨rfl, B1⟩; have B2 := H.out.trans (B1.mono H.out.size); clear H B1; have H := Lib.hid B2; clear B2) | (go_at_call 11; (with_reducible refine (c3 _).mono ?_); rintro e W ⟨rfl, B1⟩; have B2 := H.out.trans (B1.mono H.out.size); clear H B1; have H := Lib.hid B2; clear B2) | (go_at_call 11; (with_reducible refine (c4 _).mono ?_); rintro e W ⟨rfl, B1⟩; have B2 := H.out.trans (B1.mono H.out.size); clear H B1; have H := Lib.hid B2; clear B2))
        go_ret
        exact ⟨rfl, H.out⟩
      · have cNm := fun W => nines_B p p rfl W (by omega)
        have c3 := fun W => Add_S (((10 ^ p - 1 : Nat) : Int)) 1 (by rw [Int.natAbs_natCast]; omega) (by decide) (by omega) W
        rw [nin_S (by omega), S_one, show ((10 ^ p - 1 : Nat) : Int) + 1 = ((10 ^ p : Nat) : Int) by omega] at c3
        have hp1 : ((p : Int) == 0) = false := by rw [beq_eq_false_iff_ne]; omega
        generalize S ((10 ^ p : Nat) : Int) = A6 at *
        clear htw hP1 hQ1 hP0 hQ0 bO bT hlo hhi hszp emul
        generalize nin 200 = NK at *
        generalize nin q = NQ at *
        generalize nin p = NP at *
        go_wp2_with (first | (go_at_call 19; (with_reducible refine (cNm _).mono ?_); rintro e W ⟨rfl, B1⟩; have B2 := H.out.trans (B1.mono H.out.size); clear H B1; have H := Lib.hid B2; clear B2) | (go_at_call 19; (with_reducible refine (cNn _).mono ?_); rintro e W ⟨rfl, B1⟩; have B2 := H.out.trans (B1.mono H.out.size); clear H B1; have H := Lib.hid B2; clear B2) | (go_at_call 12; (with_reducible refine (c5 _).mono ?_); rintro e W ⟨rfl, B1⟩; have B2 := H.out.trans (B1.mono H.out.size); clear H B1; have H := Lib.hid B2; clear B2) | (go_at_call 15; (with_reducible refine (cC _).mono ?_); rintro e W ⟨rfl, B1⟩; have B2 := H.out.trans (B1.mono H.out.size); clear H B1; have H := Lib.hid B2; clear B2) | (go_at_call 16; (with_reducible refine (cV1 _).mono ?_); rintro e W ⟨rfl, B1⟩; have B2 := H.out.trans (B1.mono H.out.size); clear H B1; have H := Lib.hid B2; clear B2) | (go_at_call 16; (with_reducible refine (cV2 _).mono ?_); rintro e W ⟨rfl, B1⟩; have B2 := H.out.trans (B1.mono H.out.size); clear H B1; have H := Lib.hid B2; clear B2) | (go_at_call 11; (with_reducible refine (c3 _).mono ?_); rintro e W ⟨rfl, B1⟩; have B2 := H.out.trans (B1.mono H.out.size); clear H B1; have H := Lib.hid B2; clear B2))
        go_ret
        exact ⟨rfl, H.out⟩
    · have c5 := fun W => Mul_F (((10 ^ p : Nat) : Int)) (((2 * 10 ^ q - 1 : Nat) : Int)) bO bT (by
        rw [emul, Int.natAbs_natCast, Nat.not_lt]; exact Nat.le_trans (Nat.pow_le_pow_right (by decide) (by omega)) hlo) W
      rw [htw] at c5
      have hsm : decide ((p : Int) + (q : Int) < 200) = false := by rw [decide_eq_false_iff_not]; omega
      by_cases hp0 : p = 0
      · omega
      · have cNm := fun W => nines_B p p rfl W (by omega)
        have c3 := fun W => Add_S (((10 ^ p - 1 : Nat) : Int)) 1 (by rw [Int.natAbs_natCast]; omega) (by decide) (by omega) W
        rw [nin_S (by omega), S_one, show ((10 ^ p - 1 : Nat) : Int) + 1 = ((10 ^ p : Nat) : Int) by omega] at c3
        have hp1 : ((p : Int) == 0) = false := by rw [beq_eq_false_iff_ne]; omega
        generalize S ((10 ^ p : Nat) : Int) = A6 at *
        clear htw hP1 hQ1 hP0 hQ0 bO bT hlo hhi hszp emul
        generalize nin 200 = NK at *
        generalize nin q = NQ at *
        generalize nin p = NP at *
        go_wp2_with (first | (go_at_call 19; (with_reducible refine (cNm _).mono ?_); rintro e W ⟨rfl, B1⟩; have B2 := H.out.trans (B1.mono H.out.size); clear H B1; have H := Lib.hid B2; clear B2) | (go_at_call 19; (with_reducible refine (cNn _).mono ?_); rintro e W ⟨rfl, B1⟩; have B2 := H.out.trans (B1.mono H.out.size); clear H B1; have H := Lib.hid B2; clear B2) | (go_at_call 12; (with_reducible refine (c5 _).mono ?_); rintro e W ⟨rfl, B1⟩; have B2 := H.out.trans (B1.mono H.out.size); clear H B1; have H := Lib.hid B2; clear B2) | (go_at_call 15; (with_reducible refine (cC _).mono ?_); rintro e W ⟨rfl, B1⟩; have B2 := H.out.trans (B1.mono H.out.size); clear H B1; have H := Lib.hid B2; clear B2) | (go_at_call 16; (with_reducible refine (cV1 _).mono ?_); rintro e W ⟨rfl, B1⟩; have B2 := H.out.trans (B1.mono H.out.size); clear H B1; have H := Lib.hid B2; clear B2) | (go_at_call 16; (with_reducible refine (cV2 _).mono ?_); rintro e W ⟨rfl, B1⟩; have B2 := H.out.trans (B1.mono H.out.size); clear H B1; have H := Lib.hid B2; clear B2) | (go_at_call 11; (with_reducible refine (c3 _).mono ?_); rintro e W ⟨rfl, B1⟩; have B2 := H.out.trans (B1.mono H.out.size); clear H B1; have H := Lib.hid B2; clear B2))
        go_ret
        exact ⟨rfl, H.out⟩
  · obtain ⟨k, hk⟩ : ∃ k, cmpN x 0 = k := ⟨_, rfl⟩
    have hk0 : k ≤ 0 := by rw [← hk]; exact cmp_nonpos hg
    rw [hk] at cC
    have c0 := fun W => Add_S (((10 ^ 200 - 1 : Nat) : Int)) x bK bx2 (by omega) W
    have c1 := fun W => Sub_S (-((10 ^ 200 - 1 : Nat) : Int)) x bKn bx2 (by omega) W
    generalize S (((10 ^ 200 - 1 : Nat) : Int) + x) = A1 at *
    generalize S (-((10 ^ 200 - 1 : Nat) : Int) - x) = A2 at *
    rw [hK] at c0
    rw [hKn] at c1
    clear hK hKn bx bx2 bK bKn hg hk
    go_upto_region 8 with (first | (go_at_call 19; (with_reducible refine (cN _).mono ?_); rintro e W ⟨rfl, B1⟩; have B2 := H.out.trans (B1.mono H.out.size); clear H B1; have H := Lib.hid B2; clear B2) | (go_at_call 11; (with_reducible refine (c0 _).mono ?_); rintro e W ⟨rfl, B1⟩; have B2 := H.out.trans (B1.mono H.out.size); clear H B1; have H := Lib.hid B2; clear B2) | (go_at_call 13; (with_reducible refine (c1 _).mono ?_); rintro e W ⟨rfl, B1⟩; have B2 := H.out.trans (B1.mono H.out.size); clear H B1; have H := Lib.hid B2; clear B2) | (go_at_call_of 20 (Value.int .i64 cm); (with_reducible refine (cp1 _).mono ?_); rintro e W ⟨p, rfl, hp, B1⟩; have B2 := H.out.trans (B1.mono H.out.size); clear H B1; have H := Lib.hid B2; clear B2) | (go_at_call_of 20 (Value.int .i64 cn); (with_reducible refine (cp2 _).mono ?_); rintro e W ⟨q, rfl, hq, B1⟩; have B2 := H.out.trans (B1.mono H.out.size); clear H B1; have H := Lib.hid B2; clear B2))
    clear cp1 cp2 c0 c1
    have cNn := fun W => nines_B q q rfl W (by omega)
    have htw := two_S q
    have hP1 : 10 ^ p ≤ 10 ^ 199 := Nat.pow_le_pow_right (by decide) (by omega)
    have hQ1 : 10 ^ q ≤ 10 ^ 199 := Nat.pow_le_pow_right (by decide) (by omega)
    have hP0 : 0 < 10 ^ p := Nat.pow_pos (by decide)
    have hQ0 : 0 < 10 ^ q := Nat.pow_pos (by decide)
    have bO : (((10 ^ p : Nat) : Int)).natAbs < 10 ^ 200 := by rw [Int.natAbs_natCast]; omega
    have bT : (((2 * 10 ^ q - 1 : Nat) : Int)).natAbs < 10 ^ 200 := by rw [Int.natAbs_natCast]; omega
    have hlo : 10 ^ (p + q) ≤ 10 ^ p * (2 * 10 ^ q - 1) := by rw [Nat.pow_add]; exact Nat.mul_le_mul_left _ (by omega)
    have hhi : 10 ^ p * (2 * 10 ^ q - 1) < 10 ^ (p + q + 1) := by
      have h1 : 10 ^ p * (2 * 10 ^ q - 1) < 10 ^ p * (10 * 10 ^ q) := Nat.mul_lt_mul_of_pos_left (by omega) hP0
      rw [Nat.pow_succ, Nat.pow_add]
      have h2 : 10 ^ p * (10 * 10 ^ q) = 10 ^ p * 10 ^ q * 10 := by rw [Nat.mul_left_comm, Nat.mul_comm 10]
      omega
    have hszp := size_S hlo hhi
    have emul : ((10 ^ p : Nat) : Int) * ((2 * 10 ^ q - 1 : Nat) : Int) = ((10 ^ p * (2 * 10 ^ q - 1) : Nat) : Int) := (Int.natCast_mul _ _).symm
    have hsq := nin_size q
    obtain ⟨cO, hcO⟩ : ∃ c : Nat → Prop, c = fun _ => True := ⟨_, rfl⟩
    clear hcO cO
    by_cases hsmall : p + q < 200
    · have c5 := fun W => Mul_S (((10 ^ p : Nat) : Int)) (((2 * 10 ^ q - 1 : Nat) : Int)) bO bT (by
        rw [emul, Int.natAbs_natCast]; exact Nat.lt_of_lt_of_le hhi (Nat.pow_le_pow_right (by decide) (by omega))) W
      rw [emul, htw] at c5
      have hlen : (((S ((10 ^ p * (2 * 10 ^ q - 1) : Nat) : Int)).size : Int) == (p : Int) + (q : Int) + 1) = true := by rw [hszp]; simp
      have hsm : decide ((p : Int) + (q : Int) < 200) = true := by rw [decide_eq_true_eq]; omega
      generalize S ((10 ^ p * (2 * 10 ^ q - 1) : Nat) : Int) = A5 at *
      by_cases hp0 : p = 0
      · subst hp0
        rw [Int.natCast_zero, Int.zero_add] at hlen hsm
        have cNm := fun W => nines_B 0 0 rfl W (by decide)
        have c3 := fun W => Add_empty W
        have c4 := fun W => Add_S 0 1 (by decide) (by decide) (by decide) W
        rw [S_zero, S_one, show (0 : Int) + 1 = 1 from rfl, S_one] at c4
        rw [show (((10 ^ 0 : Nat) : Int)) = 1 from rfl, S_one] at c5
        clear htw hP1 hQ1 hP0 hQ0 bO bT hlo hhi hszp emul
        generalize nin 200 = NK at *
        generalize nin q = NQ at *
        generalize nin 0 = NZ at *
        go_wp2_with (first | (go_at_call 19; (with_reducible refine (cNm _).mono ?_); rintro e W ⟨rfl, B1⟩; have B2 := H.out.trans (B1.mono H.out.size); clear H B1; have H := Lib.hid B2; clear B2) | (go_at_call 19; (with_reducible refine (cNn _).mono ?_); rintro e W ⟨rfl, B1⟩; have B2 := H.out.trans (B1.mono H.out.size); clear H B1; have H := Lib.hid B2; clear B2) | (go_at_call 12; (with_reducible refine (c5 _).mono ?_); rintro e W ⟨rfl, B1⟩; have B2 := H.out.trans (B1.mono H.out.size); clear H B1; have H := Lib.hid B2; clear B2) | (go_at_call 15; (with_reducible refine (cC _).mono ?_); rintro e W ⟨rfl, B1⟩; have B2 := H.out.trans (B1.mono H.out.size); clear H B1; have H := Lib.hid B2; clear B2) | (go_at_call 16; (with_reducible refine (cV1 _).mono ?_); rintro e W ⟨rfl, B1⟩; have B2 := H.out.trans (B1.mono H.out.size); clear H B1; have H := Lib.hid B2; clear B2) | (go_at_call 16; (with_reducible refine (cV2 _).mono ?_); rintro e W ⟨rfl, B1⟩; have B2 := H.out.trans (B1.mono H.out.size); clear H B1; have H := Lib.hid B2; clear B2) | (go_at_call 11; (with_reducible refine (c3 _).mono ?_); rintro e W ⟨rfl, B1⟩; have B2 := H.out.trans (B1.mono H.out.size); clear H B1; have H := Lib.hid B2; clear B2) | (go_at_call 11; (with_reducible refine (c4 _).mono ?_); rintro e W ⟨rfl, B1⟩; have B2 := H.out.trans (B1.mono H.out.size); clear H B1; have H := Lib.hid B2; clear B2))
        go_ret
        exact ⟨rfl, H.out⟩
      · have cNm := fun W => nines_B p p rfl W (by omega)
        have c3 := fun W => Add_S (((10 ^ p - 1 : Nat) : Int)) 1 (by rw [Int.natAbs_natCast]; omega) (by decide) (by omega) W
        rw [nin_S (by omega), S_one, show ((10 ^ p - 1 : Nat) : Int) + 1 = ((10 ^ p : Nat) : Int) by omega] at c3
        have hp1 : ((p : Int) == 0) = false := by rw [beq_eq_false_iff_ne]; omega
        generalize S ((10 ^ p : Nat) : Int) = A6 at *
        clear htw hP1 hQ1 hP0 hQ0 bO bT hlo hhi hszp emul
        generalize nin 200 = NK at *
        generalize nin q = NQ at *
        generalize nin p = NP at *
        go_wp2_with (first | (go_at_call 19; (with_reducible refine (cNm _).mono ?_); rintro e W ⟨rfl, B1⟩; have B2 := H.out.trans (B1.mono H.out.size); clear H B1; have H := Lib.hid B2; clear B2) | (go_at_call 19; (with_reducible refine (cNn _).mono ?_); rintro e W ⟨rfl, B1⟩; have B2 := H.out.trans (B1.mono H.out.size); clear H B1; have H := Lib.hid B2; clear B2) | (go_at_call 12; (with_reducible refine (c5 _).mono ?_); rintro e W ⟨rfl, B1⟩; have B2 := H.out.trans (B1.mono H.out.size); clear H B1; have H := Lib.hid B2; clear B2) | (go_at_call 15; (with_reducible refine (cC _).mono ?_); rintro e W ⟨rfl, B1⟩; have B2 := H.out.trans (B1.mono H.out.size); clear H B1; have H := Lib.hid B2; clear B2) | (go_at_call 16; (with_reducible refine (cV1 _).mono ?_); rintro e W ⟨rfl, B1⟩; have B2 := H.out.trans (B1.mono H.out.size); clear H B1; have H := Lib.hid B2; clear B2) | (go_at_call 16; (with_reducible refine (cV2 _).mono ?_); rintro e W ⟨rfl, B1⟩; have B2 := H.out.trans (B1.mono H.out.size); clear H B1; have H := Lib.hid B2; clear B2) | (go_at_call 11; (with_reducible refine (c3 _).mono ?_); rintro e W ⟨rfl, B1⟩; have B2 := H.out.trans (B1.mono H.out.size); clear H B1; have H := Lib.hid B2; clear B2))
        go_ret
        exact ⟨rfl, H.out⟩
    · have c5 := fun W => Mul_F (((10 ^ p : Nat) : Int)) (((2 * 10 ^ q - 1 : Nat) : Int)) bO bT (by
        rw [emul, Int.natAbs_natCast, Nat.not_lt]; exact Nat.le_trans (Nat.pow_le_pow_right (by decide) (by omega)) hlo) W
      rw [htw] at c5
      have hsm : decide ((p : Int) + (q : Int) < 200) = false := by rw [decide_eq_false_iff_not]; omega
      by_cases hp0 : p = 0
      · omega
      · have cNm := fun W => nines_B p p rfl W (by omega)
        have c3 := fun W => Add_S (((10 ^ p - 1 : Nat) : Int)) 1 (by rw [Int.natAbs_natCast]; omega) (by decide) (by omega) W
        rw [nin_S (by omega), S_one, show ((10 ^ p - 1 : Nat) : Int) + 1 = ((10 ^ p : Nat) : Int) by omega] at c3
        have hp1 : ((p : Int) == 0) = false := by rw [beq_eq_false_iff_ne]; omega
        generalize S ((10 ^ p : Nat) : Int) = A6 at *
        clear htw hP1 hQ1 hP0 hQ0 bO bT hlo hhi hszp emul
        generalize nin 200 = NK at *
        generalize nin q = NQ at *
        generalize nin p = NP at *
        go_wp2_with (first | (go_at_call 19; (with_reducible refine (cNm _).mono ?_); rintro e W ⟨rfl, B1⟩; have B2 := H.out.trans (B1.mono H.out.size); clear H B1; have H := Lib.hid B2; clear B2) | (go_at_call 19; (with_reducible refine (cNn _).mono ?_); rintro e W ⟨rfl, B1⟩; have B2 := H.out.trans (B1.mono H.out.size); clear H B1; have H := Lib.hid B2; clear B2) | (go_at_call 12; (with_reducible refine (c5 _).mono ?_); rintro e W ⟨rfl, B1⟩; have B2 := H.out.trans (B1.mono H.out.size); clear H B1; have H := Lib.hid B2; clear B2) | (go_at_call 15; (with_reducible refine (cC _).mono ?_); rintro e W ⟨rfl, B1⟩; have B2 := H.out.trans (B1.mono H.out.size); clear H B1; have H := Lib.hid B2; clear B2) | (go_at_call 16; (with_reducible refine (cV1 _).mono ?_); rintro e W ⟨rfl, B1⟩; have B2 := H.out.trans (B1.mono H.out.size); clear H B1; have H := Lib.hid B2; clear B2) | (go_at_call 16; (with_reducible refine (cV2 _).mono ?_); rintro e W ⟨rfl, B1⟩; have B2 := H.out.trans (B1.mono H.out.size); clear H B1; have H := Lib.hid B2; clear B2) | (go_at_call 11; (with_reducible refine (c3 _).mono ?_); rintro e W ⟨rfl, B1⟩; have B2 := H.out.trans (B1.mono H.out.size); clear H B1; have H := Lib.hid B2; clear B2))
        go_ret
        exact ⟨rfl, H.out⟩
end Go.Proofs.YtbdiofifjckceaaDoor
