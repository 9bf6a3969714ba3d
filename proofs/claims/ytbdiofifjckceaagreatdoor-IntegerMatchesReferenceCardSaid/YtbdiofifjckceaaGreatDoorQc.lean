/- Package integer's functions of two integers, and Root. -/
import Derived.Test.YtbdiofifjckceaaGreatDoorQb
namespace Go.Proofs.YtbdiofifjckceaaGreatDoor
open Go.RowKit

/-- a result in writing, and its error, of integers that are valid or not -/
def res (ok : Bool) (z : Int) : List UInt8 := if ok then rs z else []
def ree (ok : Bool) (z : Int) : Int := if ok then er z else 30
theorem sum_grp {L1 L2 : List UInt8} (h1 : vld L1 = true) (h2 : vld L2 = true) : (grp (num L1 + num L2).natAbs).length ≤ 5000 := by
  have e1 := (vld_txt h1).2
  have e2 := (vld_txt h2).2
  refine Nat.le_trans (grp_of (k := 51) ?_) (by decide)
  have : (num L1 + num L2).natAbs ≤ (num L1).natAbs + (num L2).natAbs := Int.natAbs_add_le _ _
  omega
theorem dif_grp {L1 L2 : List UInt8} (h1 : vld L1 = true) (h2 : vld L2 = true) : (grp (num L1 - num L2).natAbs).length ≤ 5000 := by
  have e1 := (vld_txt h1).2
  have e2 := (vld_txt h2).2
  refine Nat.le_trans (grp_of (k := 51) ?_) (by decide)
  omega
theorem mul_grp {L1 L2 : List UInt8} (h1 : vld L1 = true) (h2 : vld L2 = true) : (grp (num L1 * num L2).natAbs).length ≤ 5000 := by
  have e1 := (vld_txt h1).2
  have e2 := (vld_txt h2).2
  refine Nat.le_trans (grp_of (k := 100) ?_) (by decide)
  set_option exponentiation.threshold 500 in
  rw [Int.natAbs_mul, show 4 * 100 = 200 + 200 from rfl, Nat.pow_add]
  exact Nat.mul_lt_mul'' e1 e2
theorem gcd_le (a b : Nat) : Nat.gcd a b ≤ max a b := by
  rcases Nat.eq_zero_or_pos a with h | h
  · rw [h, Nat.gcd_zero_left]; omega
  · exact Nat.le_trans (Nat.gcd_le_left _ h) (by omega)
theorem gcd_lt {L1 L2 : List UInt8} (h1 : vld L1 = true) (h2 : vld L2 = true) : Nat.gcd (num L1).natAbs (num L2).natAbs < 10 ^ 200 := by
  have e1 := (vld_txt h1).2
  have e2 := (vld_txt h2).2
  have := gcd_le (num L1).natAbs (num L2).natAbs
  omega
theorem gcd_grp {L1 L2 : List UInt8} (h1 : vld L1 = true) (h2 : vld L2 = true) : (grp ((Nat.gcd (num L1).natAbs (num L2).natAbs : Nat) : Int).natAbs).length ≤ 5000 := by
  refine Nat.le_trans (grp_of (k := 50) ?_) (by decide)
  rw [Int.natAbs_natCast]
  exact gcd_lt h1 h2

set_option maxRecDepth 100000 in
theorem Add_any (s1 s2 : ByteArray) (L1 L2 : List UInt8) (w : World) (hL1 : s1.data.toList = L1) (hL2 : s2.data.toList = L2) (hl1 : L1.length ≤ 60000) (hl2 : L2.length ≤ 60000) :
    Calls Tryz.prog 9 #[.string s1, .string s2] w fun e w' => e = .returned (.tuple #[.string ⟨(res (vld L1 && vld L2) (num L1 + num L2)).toArray⟩, .int .i64 (ree (vld L1 && vld L2) (num L1 + num L2))]) ∧ Below w.heap.size w w' := by
  have cC : ∀ W, Calls Tryz.prog 30 #[.string s1, .string s2, .func (.func 31) #[] #[]] W fun e w' => e = .returned (.tuple #[.string ⟨(res (vld L1 && vld L2) (num L1 + num L2)).toArray⟩, .int .i64 (ree (vld L1 && vld L2) (num L1 + num L2))]) ∧ Below W.heap.size W w' := fun W => by
    cases hv : vld L1 && vld L2
    · exact combine_no _ s1 s2 L1 L2 W hL1 hL2 hl1 hl2 hv
    · rw [Bool.and_eq_true] at hv
      exact combine_nplus s1 s2 L1 L2 W hL1 hL2 hv.1 hv.2 (sum_grp hv.1 hv.2)
  generalize (res (vld L1 && vld L2) (num L1 + num L2)).toArray = T at *
  generalize ree (vld L1 && vld L2) (num L1 + num L2) = E at *
  clear hL1 hL2 hl1 hl2
  go_enter Tryz.func9, Tryz.ntmps9
  go_wp2_with (go_at_call 30; (with_reducible refine (cC _).mono ?_); rintro e w1 ⟨rfl, B1⟩)
  go_ret2
  exact ⟨rfl, B1⟩

set_option maxRecDepth 100000 in
theorem Sub_any (s1 s2 : ByteArray) (L1 L2 : List UInt8) (w : World) (hL1 : s1.data.toList = L1) (hL2 : s2.data.toList = L2) (hl1 : L1.length ≤ 60000) (hl2 : L2.length ≤ 60000) :
    Calls Tryz.prog 11 #[.string s1, .string s2] w fun e w' => e = .returned (.tuple #[.string ⟨(res (vld L1 && vld L2) (num L1 - num L2)).toArray⟩, .int .i64 (ree (vld L1 && vld L2) (num L1 - num L2))]) ∧ Below w.heap.size w w' := by
  have cC : ∀ W, Calls Tryz.prog 30 #[.string s1, .string s2, .func (.func 34) #[] #[]] W fun e w' => e = .returned (.tuple #[.string ⟨(res (vld L1 && vld L2) (num L1 - num L2)).toArray⟩, .int .i64 (ree (vld L1 && vld L2) (num L1 - num L2))]) ∧ Below W.heap.size W w' := fun W => by
    cases hv : vld L1 && vld L2
    · exact combine_no _ s1 s2 L1 L2 W hL1 hL2 hl1 hl2 hv
    · rw [Bool.and_eq_true] at hv
      exact combine_nminus s1 s2 L1 L2 W hL1 hL2 hv.1 hv.2 (dif_grp hv.1 hv.2)
  generalize (res (vld L1 && vld L2) (num L1 - num L2)).toArray = T at *
  generalize ree (vld L1 && vld L2) (num L1 - num L2) = E at *
  clear hL1 hL2 hl1 hl2
  go_enter Tryz.func11, Tryz.ntmps11
  go_wp2_with (go_at_call 30; (with_reducible refine (cC _).mono ?_); rintro e w1 ⟨rfl, B1⟩)
  go_ret2
  exact ⟨rfl, B1⟩

set_option maxRecDepth 100000 in
theorem Mul_any (s1 s2 : ByteArray) (L1 L2 : List UInt8) (w : World) (hL1 : s1.data.toList = L1) (hL2 : s2.data.toList = L2) (hl1 : L1.length ≤ 60000) (hl2 : L2.length ≤ 60000) :
    Calls Tryz.prog 13 #[.string s1, .string s2] w fun e w' => e = .returned (.tuple #[.string ⟨(res (vld L1 && vld L2) (num L1 * num L2)).toArray⟩, .int .i64 (ree (vld L1 && vld L2) (num L1 * num L2))]) ∧ Below w.heap.size w w' := by
  have cC : ∀ W, Calls Tryz.prog 30 #[.string s1, .string s2, .func (.func 35) #[] #[]] W fun e w' => e = .returned (.tuple #[.string ⟨(res (vld L1 && vld L2) (num L1 * num L2)).toArray⟩, .int .i64 (ree (vld L1 && vld L2) (num L1 * num L2))]) ∧ Below W.heap.size W w' := fun W => by
    cases hv : vld L1 && vld L2
    · exact combine_no _ s1 s2 L1 L2 W hL1 hL2 hl1 hl2 hv
    · rw [Bool.and_eq_true] at hv
      exact combine_ntimes s1 s2 L1 L2 W hL1 hL2 hv.1 hv.2 (mul_grp hv.1 hv.2)
  generalize (res (vld L1 && vld L2) (num L1 * num L2)).toArray = T at *
  generalize ree (vld L1 && vld L2) (num L1 * num L2) = E at *
  clear hL1 hL2 hl1 hl2
  go_enter Tryz.func13, Tryz.ntmps13
  go_wp2_with (go_at_call 30; (with_reducible refine (cC _).mono ?_); rintro e w1 ⟨rfl, B1⟩)
  go_ret2
  exact ⟨rfl, B1⟩

set_option maxRecDepth 100000 in
theorem Gcd_any (s1 s2 : ByteArray) (L1 L2 : List UInt8) (w : World) (hL1 : s1.data.toList = L1) (hL2 : s2.data.toList = L2) (hl1 : L1.length ≤ 60000) (hl2 : L2.length ≤ 60000) :
    Calls Tryz.prog 17 #[.string s1, .string s2] w fun e w' => e = .returned (.tuple #[.string ⟨(res (vld L1 && vld L2) (((Nat.gcd (num L1).natAbs (num L2).natAbs : Nat) : Int))).toArray⟩, .int .i64 (ree (vld L1 && vld L2) (((Nat.gcd (num L1).natAbs (num L2).natAbs : Nat) : Int)))]) ∧ Below w.heap.size w w' := by
  have cC : ∀ W, Calls Tryz.prog 30 #[.string s1, .string s2, .func (.func 45) #[] #[]] W fun e w' => e = .returned (.tuple #[.string ⟨(res (vld L1 && vld L2) (((Nat.gcd (num L1).natAbs (num L2).natAbs : Nat) : Int))).toArray⟩, .int .i64 (ree (vld L1 && vld L2) (((Nat.gcd (num L1).natAbs (num L2).natAbs : Nat) : Int)))]) ∧ Below W.heap.size W w' := fun W => by
    cases hv : vld L1 && vld L2
    · exact combine_no _ s1 s2 L1 L2 W hL1 hL2 hl1 hl2 hv
    · rw [Bool.and_eq_true] at hv
      exact combine_ngcd s1 s2 L1 L2 W hL1 hL2 hv.1 hv.2 (gcd_grp hv.1 hv.2)
  generalize (res (vld L1 && vld L2) (((Nat.gcd (num L1).natAbs (num L2).natAbs : Nat) : Int))).toArray = T at *
  generalize ree (vld L1 && vld L2) (((Nat.gcd (num L1).natAbs (num L2).natAbs : Nat) : Int)) = E at *
  clear hL1 hL2 hl1 hl2
  go_enter Tryz.func17, Tryz.ntmps17
  go_wp2_with (go_at_call 30; (with_reducible refine (cC _).mono ?_); rintro e w1 ⟨rfl, B1⟩)
  go_ret2
  exact ⟨rfl, B1⟩

set_option maxRecDepth 100000 in
theorem Compare_any (s1 s2 : ByteArray) (L1 L2 : List UInt8) (w : World) (hL1 : s1.data.toList = L1) (hL2 : s2.data.toList = L2) (hl1 : L1.length ≤ 60000) (hl2 : L2.length ≤ 60000) :
    Calls Tryz.prog 25 #[.string s1, .string s2] w fun e w' => e = .returned (.int .i64 (if vld L1 && vld L2 then cmpN (num L1) (num L2) else 0)) ∧ Below w.heap.size w w' := by
  cases hv : vld L1 && vld L2
  · have cR := fun W => readBoth_no s1 s2 L1 L2 W hL1 hL2 hl1 hl2 hv
    clear hL1 hL2 hl1 hl2 hv
    simp only [Bool.false_eq_true, if_false]
    go_enter Tryz.func25, Tryz.ntmps25
    go_wp2_with (go_at_call 38; (with_reducible refine (cR _).mono ?_); rintro e w1 ⟨rfl, B1⟩)
    go_ret
    exact ⟨rfl, (B1.alloc B1.size _).alloc (by have := B1.size; rw [World.size_alloc]; omega) _⟩
  · rw [Bool.and_eq_true] at hv
    have cR := fun W => readBoth_ok s1 s2 L1 L2 W hL1 hL2 hv.1 hv.2
    have g1 := vld_grp hv.1
    have g2 := vld_grp hv.2
    have CC := Lib.hid (fun W v1 v2 h1 h2 => ncompare_any (num L1) (num L2) v1 v2 W (by omega) (by omega) h1 h2)
    generalize num L1 = x at *
    generalize num L2 = y at *
    simp only [if_true]
    generalize cmpN x y = z at *
    clear hL1 hL2 hl1 hl2 hv g1 g2
    go_enter Tryz.func25, Tryz.ntmps25
    go_wp2_with (first | (go_at_call 38; (with_reducible refine (cR _).mono ?_); rintro e w1 ⟨v1, v2, rfl, n1, n2, B1⟩; obtain ⟨q1, a1, k1, c1, rfl, hq1, m1⟩ := n1.form; obtain ⟨q2, a2, k2, c2, rfl, hq2, m2⟩ := n2.form; have b4 := ((Below.refl w1.heap.size w1).alloc (Nat.le_refl _) (.cells #[.bool q1, .slice a1 k1 c1] 49)).alloc (by rw [World.size_alloc]; omega) (.cells #[.bool q2, .slice a2 k2 c2] 49); have N1 := Lib.hid (n1.below b4); have N2 := Lib.hid (n2.below b4); have HB := Lib.hid (B1.trans (b4.mono B1.size)); clear hq1 hq2 m1 m2 n1 n2 b4 B1) | (go_at_call 53; (with_reducible refine (CC.out _ _ _ N1.out N2.out).mono ?_); rintro e w5 ⟨rfl, B1⟩; have HB5 := Lib.hid (HB.out.trans (B1.mono HB.out.size))))
    go_ret
    exact ⟨rfl, HB5.out⟩

set_option maxRecDepth 100000 in
theorem Root_no (s1 : ByteArray) (L1 : List UInt8) (w : World) (hL1 : s1.data.toList = L1) (hl1 : L1.length ≤ 60000) (hv : vld L1 = true → num L1 < 0) :
    Calls Tryz.prog 19 #[.string s1] w fun e w' => e = .returned (.tuple #[.string ⟨#[]⟩, .int .i64 30]) ∧ Below w.heap.size w w' := by
  have cV := fun W => Valid_any s1 L1 W hL1 hl1
  cases h0 : vld L1
  · rw [h0] at cV
    clear hL1 hl1 hv h0
    go_enter Tryz.func19, Tryz.ntmps19
    go_wp2_with (go_at_call 23; (with_reducible refine (cV _).mono ?_); rintro e w1 ⟨rfl, B1⟩)
    go_ret2
    exact ⟨rfl, B1⟩
  · have cR := fun W => read_any s1 L1 W hL1 h0
    have hneg := hv h0
    rw [h0] at cV
    have HN := Lib.hid (decide_eq_true hneg)
    generalize num L1 = x at *
    clear hL1 hl1 hv h0 hneg
    go_enter Tryz.func19, Tryz.ntmps19
    go_wp2_with (first | (go_at_call 23; (with_reducible refine (cV _).mono ?_); rintro e w1 ⟨rfl, B1⟩; have HB1 := Lib.hid B1; clear B1) | (go_at_call 46; go_loud ((with_reducible refine (cR _).mono ?_); rintro e w2 ⟨v, rfl, n, B1⟩; have HB2 := Lib.hid (HB1.out.trans (B1.mono HB1.out.size)); obtain ⟨q, a, k, c, rfl, hq, n⟩ := n.form; obtain rfl : q = true := hq.trans HN.out; clear n B1 HB1 hq)))
    go_ret2
    exact ⟨rfl, HB2.out.alloc HB2.out.size _⟩
set_option maxRecDepth 100000 in
theorem Root_any (s1 : ByteArray) (L1 : List UInt8) (w : World) (hL1 : s1.data.toList = L1) (h0 : vld L1 = true) (hp : 0 ≤ num L1) :
    Calls Tryz.prog 19 #[.string s1] w fun e w' => ∃ r : Nat, e = .returned (.tuple #[.string ⟨(txt r).toArray⟩, .int .i64 0]) ∧ (r : Int) * r ≤ num L1 ∧ num L1 < (r + 1) * (r + 1) ∧ Below w.heap.size w w' := by
  have hl1 := (vld_digits h0).2.2
  have cV := fun W => Valid_any s1 L1 W hL1 (by omega)
  have cR := fun W => read_any s1 L1 W hL1 h0
  rw [h0] at cV
  have g1 := vld_grp h0
  obtain ⟨n, hn⟩ : ∃ n : Nat, num L1 = n := ⟨(num L1).toNat, by omega⟩
  rw [hn] at cR g1 ⊢
  rw [Int.natAbs_natCast] at g1
  have CO := Lib.hid (fun W v h => root_any n v W (by omega) h)
  have CT := Lib.hid (fun W v (r : Nat) (h : NSl W v r) (hr : r ≤ n) => text_any r v W (Nat.le_trans (grp_mono hr) (by omega)) h)
  have HT := Lib.hid (fun r : Nat => show txt (r : Int) = txN r by rw [txt, if_neg (by omega), Int.natAbs_natCast])
  have HL := Lib.hid (fun r : Nat => fun h : r * r ≤ n => show r ≤ n from Nat.le_trans (Nat.le_mul_self r) h)
  clear hL1 h0 hp hn hl1 g1
  go_enter Tryz.func19, Tryz.ntmps19
  go_wp2_with (first | (go_at_call 23; (with_reducible refine (cV _).mono ?_); rintro e w1 ⟨rfl, B1⟩; have HB1 := Lib.hid B1; clear B1) | (go_at_call 46; go_loud ((with_reducible refine (cR _).mono ?_); rintro e w2 ⟨v, rfl, m, B1⟩; obtain ⟨q, a, k, c, rfl, hq, m2⟩ := m.form; obtain rfl : q = false := hq.trans (by simp); rw [Int.natAbs_natCast] at m2; have HB3 := Lib.hid ((HB1.out.trans (B1.mono HB1.out.size)).alloc (HB1.out.trans (B1.mono HB1.out.size)).size (.cells #[.bool false, .slice a k c] 49)); have M := Lib.hid (m2.below (below_alloc w2 (.cells #[.bool false, .slice a k c] 49))); clear m m2 B1 HB1 hq)) | (go_at_call 47; (with_reducible refine (CO.out _ _ M.out).mono ?_); rintro e w4 ⟨v4, r, rfl, m4, le1, lt1, B1⟩; have M4 := Lib.hid m4; have HB4 := Lib.hid (HB3.out.trans (B1.mono HB3.out.size)); have L1 := Lib.hid le1; have L2 := Lib.hid lt1; clear m4 B1 le1 lt1 HB3) | (go_at_call 48; (with_reducible refine (CT.out _ _ _ M4.out (HL.out _ L1.out)).mono ?_); rintro e w5 ⟨rfl, B1⟩; have HB5 := Lib.hid (HB4.out.trans (B1.mono HB4.out.size)); clear B1))
  go_ret2
  refine ⟨r, by rw [HT.out]; rfl, ?_, ?_, HB5.out⟩
  · have := L1.out; exact_mod_cast this
  · have := L2.out; exact_mod_cast this
end Go.Proofs.YtbdiofifjckceaaGreatDoor
