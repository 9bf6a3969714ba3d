/- combine: what an operation makes of two integers, in writing. -/
import Derived.Test.YtbdiofifjckceaaGreatDoorQa
namespace Go.Proofs.YtbdiofifjckceaaGreatDoor
open Go.RowKit

/-- a result in writing, and its error -/
def rs (z : Int) : List UInt8 := if z.natAbs < 10 ^ 200 then txt z else []
def er (z : Int) : Int := if z.natAbs < 10 ^ 200 then 0 else 30
theorem txt_len (z : Int) (h : (grp z.natAbs).length ≤ 5000) : (txt z).length ≤ 60000 := by
  have h1 : (txN z.natAbs).length ≤ 4 * (grp z.natAbs).length + 1 := txN_len (Nat.lt_of_lt_of_le (grp_lt _) (by
    rw [show (10000 : Nat) = 10 ^ 4 from rfl, ← Nat.pow_mul]
    exact Nat.pow_le_pow_right (by decide) (by omega))) (by omega)
  rw [txt]; split
  · rw [List.length_cons]; omega
  · omega
theorem vld_grp {L : List UInt8} (h : vld L = true) : (grp (num L).natAbs).length ≤ 50 := by
  refine grp_len ?_
  rw [show (10000 : Nat) = 10 ^ 4 from rfl, ← Nat.pow_mul]
  exact (vld_txt h).2
theorem grp_of {n k : Nat} (h : n < 10 ^ (4 * k)) : (grp n).length ≤ k := by
  refine grp_len ?_
  rw [show (10000 : Nat) = 10 ^ 4 from rfl, ← Nat.pow_mul]
  exact h

set_option maxRecDepth 100000 in
set_option maxHeartbeats 1000000 in
theorem combine_no (F : Value) (s1 s2 : ByteArray) (L1 L2 : List UInt8) (w : World) (hL1 : s1.data.toList = L1) (hL2 : s2.data.toList = L2) (hl1 : L1.length ≤ 60000) (hl2 : L2.length ≤ 60000) (hv : (vld L1 && vld L2) = false) :
    Calls Tryz.prog 30 #[.string s1, .string s2, F] w fun e w' => e = .returned (.tuple #[.string ⟨#[]⟩, .int .i64 30]) ∧ Below w.heap.size w w' := by
  have cR := fun W => readBoth_no s1 s2 L1 L2 W hL1 hL2 hl1 hl2 hv
  clear hL1 hL2 hl1 hl2 hv
  go_enter Tryz.func30, Tryz.ntmps30
  go_wp2_with (go_at_call 38; (with_reducible refine (cR _).mono ?_); rintro e w1 ⟨rfl, B1⟩)
  go_ret2
  exact ⟨rfl, (B1.alloc B1.size _).alloc (by have := B1.size; rw [World.size_alloc]; omega) _⟩

set_option maxRecDepth 100000 in
set_option maxHeartbeats 1000000 in
theorem combine_nplus (s1 s2 : ByteArray) (L1 L2 : List UInt8) (w : World) (hL1 : s1.data.toList = L1) (hL2 : s2.data.toList = L2) (hv1 : vld L1 = true) (hv2 : vld L2 = true) (hz : (grp (num L1 + num L2).natAbs).length ≤ 5000) :
    Calls Tryz.prog 30 #[.string s1, .string s2, .func (.func 31) #[] #[]] w fun e w' => e = .returned (.tuple #[.string ⟨(rs (num L1 + num L2)).toArray⟩, .int .i64 (er (num L1 + num L2))]) ∧ Below w.heap.size w w' := by
  have g1 := vld_grp hv1
  have g2 := vld_grp hv2
  have cR := fun W => readBoth_ok s1 s2 L1 L2 W hL1 hL2 hv1 hv2
  have cO := fun W v1 v2 h1 h2 => nplus_any (num L1) (num L2) v1 v2 W (by omega) (by omega) h1 h2
  have CO := Lib.hid cO
  clear cO hL1 hL2 hv1 hv2 g1 g2
  generalize num L1 + num L2 = z at *
  have cT := fun W v h => ntext_any z v W hz h
  have cV := fun W => Valid_any ⟨(txt z).toArray⟩ (txt z) W (by simp) (txt_len z hz)
  have CT := Lib.hid cT
  clear cT
  by_cases hf : z.natAbs < 10 ^ 200
  · rw [txt_vld hf] at cV
    rw [rs, er, if_pos hf, if_pos hf]
    generalize (txt z).toArray = T at *
    clear hf hz
    go_enter Tryz.func30, Tryz.ntmps30
    go_wp2_with (first | (go_at_call 38; (with_reducible refine (cR _).mono ?_); rintro e w1 ⟨v1, v2, rfl, n1, n2, B1⟩; obtain ⟨q1, a1, k1, c1, rfl, hq1, m1⟩ := n1.form; obtain ⟨q2, a2, k2, c2, rfl, hq2, m2⟩ := n2.form; have b4 := ((Below.refl w1.heap.size w1).alloc (Nat.le_refl _) (.cells #[.bool q1, .slice a1 k1 c1] 49)).alloc (by rw [World.size_alloc]; omega) (.cells #[.bool q2, .slice a2 k2 c2] 49); have N1 := Lib.hid (n1.below b4); have N2 := Lib.hid (n2.below b4); have HB := Lib.hid (B1.trans (b4.mono B1.size)); clear hq1 hq2 m1 m2 n1 n2 b4 B1) | (go_at_call 31; go_loud ((with_reducible refine (CO.out _ _ _ N1.out N2.out).mono ?_); rintro e w5 ⟨v, rfl, n3, B1⟩; have N3 := Lib.hid n3; have HB5 := Lib.hid (HB.out.trans (B1.mono HB.out.size)); clear n3 B1 HB N1 N2)) | (go_at_call 41; (with_reducible refine (CT.out _ _ N3.out).mono ?_); rintro e w6 ⟨rfl, B1⟩; have HB6 := Lib.hid (HB5.out.trans (B1.mono HB5.out.size)); clear B1 HB5 N3) | (go_at_call 23; (with_reducible refine (cV _).mono ?_); rintro e w7 ⟨rfl, B1⟩; have HB := Lib.hid (HB6.out.trans (B1.mono HB6.out.size)); clear B1 HB6))
    go_ret2
    exact ⟨rfl, HB.out⟩
  · rw [txt_not hf] at cV
    rw [rs, er, if_neg hf, if_neg hf]
    generalize (txt z).toArray = T at *
    clear hf hz
    go_enter Tryz.func30, Tryz.ntmps30
    go_wp2_with (first | (go_at_call 38; (with_reducible refine (cR _).mono ?_); rintro e w1 ⟨v1, v2, rfl, n1, n2, B1⟩; obtain ⟨q1, a1, k1, c1, rfl, hq1, m1⟩ := n1.form; obtain ⟨q2, a2, k2, c2, rfl, hq2, m2⟩ := n2.form; have b4 := ((Below.refl w1.heap.size w1).alloc (Nat.le_refl _) (.cells #[.bool q1, .slice a1 k1 c1] 49)).alloc (by rw [World.size_alloc]; omega) (.cells #[.bool q2, .slice a2 k2 c2] 49); have N1 := Lib.hid (n1.below b4); have N2 := Lib.hid (n2.below b4); have HB := Lib.hid (B1.trans (b4.mono B1.size)); clear hq1 hq2 m1 m2 n1 n2 b4 B1) | (go_at_call 31; go_loud ((with_reducible refine (CO.out _ _ _ N1.out N2.out).mono ?_); rintro e w5 ⟨v, rfl, n3, B1⟩; have N3 := Lib.hid n3; have HB5 := Lib.hid (HB.out.trans (B1.mono HB.out.size)); clear n3 B1 HB N1 N2)) | (go_at_call 41; (with_reducible refine (CT.out _ _ N3.out).mono ?_); rintro e w6 ⟨rfl, B1⟩; have HB6 := Lib.hid (HB5.out.trans (B1.mono HB5.out.size)); clear B1 HB5 N3) | (go_at_call 23; (with_reducible refine (cV _).mono ?_); rintro e w7 ⟨rfl, B1⟩; have HB := Lib.hid (HB6.out.trans (B1.mono HB6.out.size)); clear B1 HB6))
    go_ret2
    exact ⟨rfl, HB.out⟩

set_option maxRecDepth 100000 in
set_option maxHeartbeats 1000000 in
theorem combine_nminus (s1 s2 : ByteArray) (L1 L2 : List UInt8) (w : World) (hL1 : s1.data.toList = L1) (hL2 : s2.data.toList = L2) (hv1 : vld L1 = true) (hv2 : vld L2 = true) (hz : (grp (num L1 - num L2).natAbs).length ≤ 5000) :
    Calls Tryz.prog 30 #[.string s1, .string s2, .func (.func 34) #[] #[]] w fun e w' => e = .returned (.tuple #[.string ⟨(rs (num L1 - num L2)).toArray⟩, .int .i64 (er (num L1 - num L2))]) ∧ Below w.heap.size w w' := by
  have g1 := vld_grp hv1
  have g2 := vld_grp hv2
  have cR := fun W => readBoth_ok s1 s2 L1 L2 W hL1 hL2 hv1 hv2
  have cO := fun W v1 v2 h1 h2 => nminus_any (num L1) (num L2) v1 v2 W (by omega) (by omega) h1 h2
  have CO := Lib.hid cO
  clear cO hL1 hL2 hv1 hv2 g1 g2
  generalize num L1 - num L2 = z at *
  have cT := fun W v h => ntext_any z v W hz h
  have cV := fun W => Valid_any ⟨(txt z).toArray⟩ (txt z) W (by simp) (txt_len z hz)
  have CT := Lib.hid cT
  clear cT
  by_cases hf : z.natAbs < 10 ^ 200
  · rw [txt_vld hf] at cV
    rw [rs, er, if_pos hf, if_pos hf]
    generalize (txt z).toArray = T at *
    clear hf hz
    go_enter Tryz.func30, Tryz.ntmps30
    go_wp2_with (first | (go_at_call 38; (with_reducible refine (cR _).mono ?_); rintro e w1 ⟨v1, v2, rfl, n1, n2, B1⟩; obtain ⟨q1, a1, k1, c1, rfl, hq1, m1⟩ := n1.form; obtain ⟨q2, a2, k2, c2, rfl, hq2, m2⟩ := n2.form; have b4 := ((Below.refl w1.heap.size w1).alloc (Nat.le_refl _) (.cells #[.bool q1, .slice a1 k1 c1] 49)).alloc (by rw [World.size_alloc]; omega) (.cells #[.bool q2, .slice a2 k2 c2] 49); have N1 := Lib.hid (n1.below b4); have N2 := Lib.hid (n2.below b4); have HB := Lib.hid (B1.trans (b4.mono B1.size)); clear hq1 hq2 m1 m2 n1 n2 b4 B1) | (go_at_call 34; go_loud ((with_reducible refine (CO.out _ _ _ N1.out N2.out).mono ?_); rintro e w5 ⟨v, rfl, n3, B1⟩; have N3 := Lib.hid n3; have HB5 := Lib.hid (HB.out.trans (B1.mono HB.out.size)); clear n3 B1 HB N1 N2)) | (go_at_call 41; (with_reducible refine (CT.out _ _ N3.out).mono ?_); rintro e w6 ⟨rfl, B1⟩; have HB6 := Lib.hid (HB5.out.trans (B1.mono HB5.out.size)); clear B1 HB5 N3) | (go_at_call 23; (with_reducible refine (cV _).mono ?_); rintro e w7 ⟨rfl, B1⟩; have HB := Lib.hid (HB6.out.trans (B1.mono HB6.out.size)); clear B1 HB6))
    go_ret2
    exact ⟨rfl, HB.out⟩
  · rw [txt_not hf] at cV
    rw [rs, er, if_neg hf, if_neg hf]
    generalize (txt z).toArray = T at *
    clear hf hz
    go_enter Tryz.func30, Tryz.ntmps30
    go_wp2_with (first | (go_at_call 38; (with_reducible refine (cR _).mono ?_); rintro e w1 ⟨v1, v2, rfl, n1, n2, B1⟩; obtain ⟨q1, a1, k1, c1, rfl, hq1, m1⟩ := n1.form; obtain ⟨q2, a2, k2, c2, rfl, hq2, m2⟩ := n2.form; have b4 := ((Below.refl w1.heap.size w1).alloc (Nat.le_refl _) (.cells #[.bool q1, .slice a1 k1 c1] 49)).alloc (by rw [World.size_alloc]; omega) (.cells #[.bool q2, .slice a2 k2 c2] 49); have N1 := Lib.hid (n1.below b4); have N2 := Lib.hid (n2.below b4); have HB := Lib.hid (B1.trans (b4.mono B1.size)); clear hq1 hq2 m1 m2 n1 n2 b4 B1) | (go_at_call 34; go_loud ((with_reducible refine (CO.out _ _ _ N1.out N2.out).mono ?_); rintro e w5 ⟨v, rfl, n3, B1⟩; have N3 := Lib.hid n3; have HB5 := Lib.hid (HB.out.trans (B1.mono HB.out.size)); clear n3 B1 HB N1 N2)) | (go_at_call 41; (with_reducible refine (CT.out _ _ N3.out).mono ?_); rintro e w6 ⟨rfl, B1⟩; have HB6 := Lib.hid (HB5.out.trans (B1.mono HB5.out.size)); clear B1 HB5 N3) | (go_at_call 23; (with_reducible refine (cV _).mono ?_); rintro e w7 ⟨rfl, B1⟩; have HB := Lib.hid (HB6.out.trans (B1.mono HB6.out.size)); clear B1 HB6))
    go_ret2
    exact ⟨rfl, HB.out⟩

set_option maxRecDepth 100000 in
set_option maxHeartbeats 1000000 in
theorem combine_ntimes (s1 s2 : ByteArray) (L1 L2 : List UInt8) (w : World) (hL1 : s1.data.toList = L1) (hL2 : s2.data.toList = L2) (hv1 : vld L1 = true) (hv2 : vld L2 = true) (hz : (grp (num L1 * num L2).natAbs).length ≤ 5000) :
    Calls Tryz.prog 30 #[.string s1, .string s2, .func (.func 35) #[] #[]] w fun e w' => e = .returned (.tuple #[.string ⟨(rs (num L1 * num L2)).toArray⟩, .int .i64 (er (num L1 * num L2))]) ∧ Below w.heap.size w w' := by
  have g1 := vld_grp hv1
  have g2 := vld_grp hv2
  have cR := fun W => readBoth_ok s1 s2 L1 L2 W hL1 hL2 hv1 hv2
  have cO := fun W v1 v2 h1 h2 => ntimes_any (num L1) (num L2) v1 v2 W (by omega) (by omega) h1 h2
  have CO := Lib.hid cO
  clear cO hL1 hL2 hv1 hv2 g1 g2
  generalize num L1 * num L2 = z at *
  have cT := fun W v h => ntext_any z v W hz h
  have cV := fun W => Valid_any ⟨(txt z).toArray⟩ (txt z) W (by simp) (txt_len z hz)
  have CT := Lib.hid cT
  clear cT
  by_cases hf : z.natAbs < 10 ^ 200
  · rw [txt_vld hf] at cV
    rw [rs, er, if_pos hf, if_pos hf]
    generalize (txt z).toArray = T at *
    clear hf hz
    go_enter Tryz.func30, Tryz.ntmps30
    go_wp2_with (first | (go_at_call 38; (with_reducible refine (cR _).mono ?_); rintro e w1 ⟨v1, v2, rfl, n1, n2, B1⟩; obtain ⟨q1, a1, k1, c1, rfl, hq1, m1⟩ := n1.form; obtain ⟨q2, a2, k2, c2, rfl, hq2, m2⟩ := n2.form; have b4 := ((Below.refl w1.heap.size w1).alloc (Nat.le_refl _) (.cells #[.bool q1, .slice a1 k1 c1] 49)).alloc (by rw [World.size_alloc]; omega) (.cells #[.bool q2, .slice a2 k2 c2] 49); have N1 := Lib.hid (n1.below b4); have N2 := Lib.hid (n2.below b4); have HB := Lib.hid (B1.trans (b4.mono B1.size)); clear hq1 hq2 m1 m2 n1 n2 b4 B1) | (go_at_call 35; go_loud ((with_reducible refine (CO.out _ _ _ N1.out N2.out).mono ?_); rintro e w5 ⟨v, rfl, n3, B1⟩; have N3 := Lib.hid n3; have HB5 := Lib.hid (HB.out.trans (B1.mono HB.out.size)); clear n3 B1 HB N1 N2)) | (go_at_call 41; (with_reducible refine (CT.out _ _ N3.out).mono ?_); rintro e w6 ⟨rfl, B1⟩; have HB6 := Lib.hid (HB5.out.trans (B1.mono HB5.out.size)); clear B1 HB5 N3) | (go_at_call 23; (with_reducible refine (cV _).mono ?_); rintro e w7 ⟨rfl, B1⟩; have HB := Lib.hid (HB6.out.trans (B1.mono HB6.out.size)); clear B1 HB6))
    go_ret2
    exact ⟨rfl, HB.out⟩
  · rw [txt_not hf] at cV
    rw [rs, er, if_neg hf, if_neg hf]
    generalize (txt z).toArray = T at *
    clear hf hz
    go_enter Tryz.func30, Tryz.ntmps30
    go_wp2_with (first | (go_at_call 38; (with_reducible refine (cR _).mono ?_); rintro e w1 ⟨v1, v2, rfl, n1, n2, B1⟩; obtain ⟨q1, a1, k1, c1, rfl, hq1, m1⟩ := n1.form; obtain ⟨q2, a2, k2, c2, rfl, hq2, m2⟩ := n2.form; have b4 := ((Below.refl w1.heap.size w1).alloc (Nat.le_refl _) (.cells #[.bool q1, .slice a1 k1 c1] 49)).alloc (by rw [World.size_alloc]; omega) (.cells #[.bool q2, .slice a2 k2 c2] 49); have N1 := Lib.hid (n1.below b4); have N2 := Lib.hid (n2.below b4); have HB := Lib.hid (B1.trans (b4.mono B1.size)); clear hq1 hq2 m1 m2 n1 n2 b4 B1) | (go_at_call 35; go_loud ((with_reducible refine (CO.out _ _ _ N1.out N2.out).mono ?_); rintro e w5 ⟨v, rfl, n3, B1⟩; have N3 := Lib.hid n3; have HB5 := Lib.hid (HB.out.trans (B1.mono HB.out.size)); clear n3 B1 HB N1 N2)) | (go_at_call 41; (with_reducible refine (CT.out _ _ N3.out).mono ?_); rintro e w6 ⟨rfl, B1⟩; have HB6 := Lib.hid (HB5.out.trans (B1.mono HB5.out.size)); clear B1 HB5 N3) | (go_at_call 23; (with_reducible refine (cV _).mono ?_); rintro e w7 ⟨rfl, B1⟩; have HB := Lib.hid (HB6.out.trans (B1.mono HB6.out.size)); clear B1 HB6))
    go_ret2
    exact ⟨rfl, HB.out⟩

set_option maxRecDepth 100000 in
set_option maxHeartbeats 1000000 in
theorem combine_ngcd (s1 s2 : ByteArray) (L1 L2 : List UInt8) (w : World) (hL1 : s1.data.toList = L1) (hL2 : s2.data.toList = L2) (hv1 : vld L1 = true) (hv2 : vld L2 = true) (hz : (grp (((Nat.gcd (num L1).natAbs (num L2).natAbs : Nat) : Int)).natAbs).length ≤ 5000) :
    Calls Tryz.prog 30 #[.string s1, .string s2, .func (.func 45) #[] #[]] w fun e w' => e = .returned (.tuple #[.string ⟨(rs (((Nat.gcd (num L1).natAbs (num L2).natAbs : Nat) : Int))).toArray⟩, .int .i64 (er (((Nat.gcd (num L1).natAbs (num L2).natAbs : Nat) : Int)))]) ∧ Below w.heap.size w w' := by
  have g1 := vld_grp hv1
  have g2 := vld_grp hv2
  have cR := fun W => readBoth_ok s1 s2 L1 L2 W hL1 hL2 hv1 hv2
  have cO := fun W v1 v2 h1 h2 => ngcd_any (num L1) (num L2) v1 v2 W (by omega) (by omega) h1 h2
  have CO := Lib.hid cO
  clear cO hL1 hL2 hv1 hv2 g1 g2
  generalize ((Nat.gcd (num L1).natAbs (num L2).natAbs : Nat) : Int) = z at *
  have cT := fun W v h => ntext_any z v W hz h
  have cV := fun W => Valid_any ⟨(txt z).toArray⟩ (txt z) W (by simp) (txt_len z hz)
  have CT := Lib.hid cT
  clear cT
  by_cases hf : z.natAbs < 10 ^ 200
  · rw [txt_vld hf] at cV
    rw [rs, er, if_pos hf, if_pos hf]
    generalize (txt z).toArray = T at *
    clear hf hz
    go_enter Tryz.func30, Tryz.ntmps30
    go_wp2_with (first | (go_at_call 38; (with_reducible refine (cR _).mono ?_); rintro e w1 ⟨v1, v2, rfl, n1, n2, B1⟩; obtain ⟨q1, a1, k1, c1, rfl, hq1, m1⟩ := n1.form; obtain ⟨q2, a2, k2, c2, rfl, hq2, m2⟩ := n2.form; have b4 := ((Below.refl w1.heap.size w1).alloc (Nat.le_refl _) (.cells #[.bool q1, .slice a1 k1 c1] 49)).alloc (by rw [World.size_alloc]; omega) (.cells #[.bool q2, .slice a2 k2 c2] 49); have N1 := Lib.hid (n1.below b4); have N2 := Lib.hid (n2.below b4); have HB := Lib.hid (B1.trans (b4.mono B1.size)); clear hq1 hq2 m1 m2 n1 n2 b4 B1) | (go_at_call 45; go_loud ((with_reducible refine (CO.out _ _ _ N1.out N2.out).mono ?_); rintro e w5 ⟨v, rfl, n3, B1⟩; have N3 := Lib.hid n3; have HB5 := Lib.hid (HB.out.trans (B1.mono HB.out.size)); clear n3 B1 HB N1 N2)) | (go_at_call 41; (with_reducible refine (CT.out _ _ N3.out).mono ?_); rintro e w6 ⟨rfl, B1⟩; have HB6 := Lib.hid (HB5.out.trans (B1.mono HB5.out.size)); clear B1 HB5 N3) | (go_at_call 23; (with_reducible refine (cV _).mono ?_); rintro e w7 ⟨rfl, B1⟩; have HB := Lib.hid (HB6.out.trans (B1.mono HB6.out.size)); clear B1 HB6))
    go_ret2
    exact ⟨rfl, HB.out⟩
  · rw [txt_not hf] at cV
    rw [rs, er, if_neg hf, if_neg hf]
    generalize (txt z).toArray = T at *
    clear hf hz
    go_enter Tryz.func30, Tryz.ntmps30
    go_wp2_with (first | (go_at_call 38; (with_reducible refine (cR _).mono ?_); rintro e w1 ⟨v1, v2, rfl, n1, n2, B1⟩; obtain ⟨q1, a1, k1, c1, rfl, hq1, m1⟩ := n1.form; obtain ⟨q2, a2, k2, c2, rfl, hq2, m2⟩ := n2.form; have b4 := ((Below.refl w1.heap.size w1).alloc (Nat.le_refl _) (.cells #[.bool q1, .slice a1 k1 c1] 49)).alloc (by rw [World.size_alloc]; omega) (.cells #[.bool q2, .slice a2 k2 c2] 49); have N1 := Lib.hid (n1.below b4); have N2 := Lib.hid (n2.below b4); have HB := Lib.hid (B1.trans (b4.mono B1.size)); clear hq1 hq2 m1 m2 n1 n2 b4 B1) | (go_at_call 45; go_loud ((with_reducible refine (CO.out _ _ _ N1.out N2.out).mono ?_); rintro e w5 ⟨v, rfl, n3, B1⟩; have N3 := Lib.hid n3; have HB5 := Lib.hid (HB.out.trans (B1.mono HB.out.size)); clear n3 B1 HB N1 N2)) | (go_at_call 41; (with_reducible refine (CT.out _ _ N3.out).mono ?_); rintro e w6 ⟨rfl, B1⟩; have HB6 := Lib.hid (HB5.out.trans (B1.mono HB5.out.size)); clear B1 HB5 N3) | (go_at_call 23; (with_reducible refine (cV _).mono ?_); rintro e w7 ⟨rfl, B1⟩; have HB := Lib.hid (HB6.out.trans (B1.mono HB6.out.size)); clear B1 HB6))
    go_ret2
    exact ⟨rfl, HB.out⟩
end Go.Proofs.YtbdiofifjckceaaGreatDoor
