/- Further functions by contract. -/
import Derived.Test.YtjpifnepdmgpeaaGreatDoorMe
namespace Go.Proofs.YtjpifnepdmgpeaaGreatDoor
open Go.RowKit Go.Shelf

theorem addb {a b : Int} {p : Nat} (h1 : a.natAbs < 10 ^ p) (h2 : b.natAbs < 10 ^ p) : (a + b).natAbs < 10 ^ (p + 1) := by
 rw [Nat.pow_succ]; omega
theorem subb {a b : Int} {p : Nat} (h1 : a.natAbs < 10 ^ p) (h2 : b.natAbs < 10 ^ p) : (a - b).natAbs < 10 ^ (p + 1) := by
 rw [Nat.pow_succ]; omega
theorem nmN_le (a b : List UInt8) : nmN a ≤ nmN (a ++ b) := by
 induction b generalizing a with
 | nil => rw [List.append_nil]; exact Nat.le_refl _
 | cons c b ih =>
  have h := ih (a ++ [c])
  rw [List.append_assoc, List.singleton_append] at h
  have h2 := nmN_snoc a c
  omega
theorem nmN_take {D : List UInt8} {i : Nat} {c : UInt8} (h : D[i]? = some c) : nmN (D.take (i + 1)) = 10 * nmN (D.take i) + (c.toNat - 48) ∧ nmN (D.take (i + 1)) ≤ nmN D := by
 constructor
 ·
  rw [List.take_add_one, h]; exact nmN_snoc _ _
 ·
  have := nmN_le (D.take (i + 1)) (D.drop (i + 1))
  rwa [List.take_append_drop] at this
def litLo : List UInt8 := [45, 57, 50, 50, 51, 51, 55, 50, 48, 51, 54, 56, 53, 52, 55, 55, 53, 56, 48, 56]
def litHi : List UInt8 := [57, 50, 50, 51, 51, 55, 50, 48, 51, 54, 56, 53, 52, 55, 55, 53, 56, 48, 55]
theorem cmp_lo (s : ByteArray) (L : List UInt8) (w : World) (hL : s.data.toList = L) (hv : vld L = true) :
  Calls Tryz.prog 53 #[.string s, .string ⟨#[45, 57, 50, 50, 51, 51, 55, 50, 48, 51, 54, 56, 53, 52, 55, 55, 53, 56, 48, 56]⟩] w fun e w' => e = .returned (.int .i64 (cmpN (num L) (-9223372036854775808))) ∧ Below w.heap.size w w' := by
 have h := rCompare_ok s ⟨#[45, 57, 50, 50, 51, 51, 55, 50, 48, 51, 54, 56, 53, 52, 55, 55, 53, 56, 48, 56]⟩ L litLo w hL rfl hv (by decide)
 rwa [show num litLo = -9223372036854775808 by decide] at h
theorem cmp_hi (s : ByteArray) (L : List UInt8) (w : World) (hL : s.data.toList = L) (hv : vld L = true) :
  Calls Tryz.prog 53 #[.string s, .string ⟨#[57, 50, 50, 51, 51, 55, 50, 48, 51, 54, 56, 53, 52, 55, 55, 53, 56, 48, 55]⟩] w fun e w' => e = .returned (.int .i64 (cmpN (num L) 9223372036854775807)) ∧ Below w.heap.size w w' := by
 have h := rCompare_ok s ⟨#[57, 50, 50, 51, 51, 55, 50, 48, 51, 54, 56, 53, 52, 55, 55, 53, 56, 48, 55]⟩ L litHi w hL rfl hv (by decide)
 rwa [show num litHi = 9223372036854775807 by decide] at h
set_option maxRecDepth 100000 in
set_option maxHeartbeats 2000000 in
theorem rToInt_S (z : Int) (w : World) (h0 : -9223372036854775808 ≤ z) (h1 : z ≤ 9223372036854775807) :
  Calls Tryz.prog 37 #[.string (S z)] w fun e w' => e = .returned (.tuple #[.int .i64 z, .int .i64 0]) ∧ Below w.heap.size w w' := by
 have hz : z.natAbs < 10 ^ 200 := by omega
 have cV := fun W => rValid_any (S z) (txt z) W (S_list z) (S_len hz)
 rw [txt_vld hz] at cV
 have c1 := fun W => cmp_lo (S z) (txt z) W (S_list z) (txt_vld hz)
 have c2 := fun W => cmp_hi (S z) (txt z) W (S_list z) (txt_vld hz)
 rw [txt_num] at c1 c2
 have hc1 : 0 ≤ cmpN z (-9223372036854775808) := by rw [cmpN, if_neg (by omega)]; split <;> omega
 have hc2 : cmpN z 9223372036854775807 ≤ 0 := by rw [cmpN]; split; omega; rw [if_neg (by omega)]; omega
 generalize cmpN z (-9223372036854775808) = z1 at *
 generalize cmpN z 9223372036854775807 = z2 at *
 have hsl := S_list z
 generalize S z = s at *
 obtain ⟨n, hn⟩ : ∃ n, z.natAbs = n := ⟨_, rfl⟩
 obtain ⟨D, hD⟩ : ∃ D, txN n = D := ⟨_, rfl⟩
 have hall : D.all isDg = true := by rw [← hD]; exact txN_all n
 have hpos : 0 < D.length := by rw [← hD]; exact txN_pos n
 have hlen : D.length ≤ 200 := by rw [← hD]; exact txN_len (by omega) (by decide)
 have hnm : nmN D = n := by rw [← hD]; exact txN_num n
 obtain ⟨m, hm⟩ : ∃ m, D.length = m := ⟨_, rfl⟩
 rw [hm] at hpos hlen
 have CV := Lib.hid cV
 have C1 := Lib.hid c1
 have C2 := Lib.hid c2
 have HA := Lib.hid hall
 have HNM := Lib.hid hnm
 clear cV c1 c2 hz
 by_cases hneg : z < 0
 ·
  rw [txt, if_pos hneg, hn, hD] at hsl
  have hsz := bytes_size hsl
  rw [List.length_cons, hm] at hsz
  have hg0 := fun h : 0 < s.size => bytes_at (j := 0) hsl rfl h
  have HD := Lib.hid (And.intro hsl hm)
  have hzn : z = -(n : Int) := by omega
  have HZN := Lib.hid hzn
  have hn9 : n ≤ 9223372036854775808 := by omega
  clear hsl hm hD hneg hn hall hnm h0 h1 hzn
  go_enter Tryz.func37, Tryz.ntmps37
  go_wp2_with (first | (go_at_call 63; (with_reducible refine (CV.out _).mono ?_); rintro e w1 ⟨rfl, rfl⟩) | (go_at_call 53; (with_reducible refine (C1.out _).mono ?_); rintro e w2 ⟨rfl, B2⟩) | (go_at_call 53; (with_reducible refine (C2.out _).mono ?_); rintro e w3 ⟨rfl, b3⟩; have B3 := B2.trans (b3.mono B2.size)))
  go_loopw [4, 5] (fun nv iv wr => ∃ i : Nat, i ≤ m + 1 ∧ nv = .int .i64 (-((nmN (D.take (i - 1)) : Nat) : Int)) ∧ iv = .int .i64 (i : Int) ∧ w3 = wr) (fun _ iv _ => m + 1 - (intOf iv).toNat)
  case atStart => exact ⟨0, Nat.zero_le _, by simp [nmN], rfl, rfl⟩
  case round =>
   clear CV C1 C2
   obtain ⟨i, hi, rfl, rfl, rfl⟩ := hrel
   by_cases hi0 : i = 0
   ·
    subst hi0
    rw [show nmN (D.take (0 - 1)) = 0 by simp [nmN]]
    go_wp2
    exact ⟨⟨1, by omega, by simp [nmN], rfl, trivial⟩, by simp [intOf]⟩
   ·
    obtain ⟨j, rfl⟩ : ∃ j, i = j + 1 := ⟨i - 1, by omega⟩
    rw [Nat.add_sub_cancel]
    by_cases hjm : j < m
    ·
     obtain ⟨c, hc⟩ : ∃ c, D[j]? = some c := ⟨_, List.getElem?_eq_getElem (by rw [HD.out.2]; exact hjm)⟩
     have hg := fun h : j + 1 < s.size => bytes_at (j := j + 1) HD.out.1 (by rw [List.getElem?_cons_succ]; exact hc) h
     have hcd := (isDg_iff c).1 (List.all_eq_true.1 HA.out c (List.mem_of_getElem? hc))
     have hq0 : ((c.toNat : Int) == 45) = false := by rw [beq_eq_false_iff_ne, ne_eq]; omega
     have ew : IntKind.u8.wrap ((c.toNat : Int) - 48) = (c.toNat : Int) - 48 := by simp [IntKind.wrap, IntKind.bits, IntKind.signed]; omega
     obtain ⟨t1, t2⟩ := nmN_take hc
     rw [HNM.out] at t2
     rw [t1] at t2
     have HT := Lib.hid t1
     clear t1
     generalize nmN (D.take j) = A at *
     have d1 := hcd.1
     have d2 := hcd.2
     clear hc hcd
     go_wp2
     exact ⟨⟨j + 2, by omega, by rw [show j + 2 - 1 = j + 1 from rfl, HT.out]; go_num, by go_num, trivial⟩, by simp [intOf]; omega⟩
    ·
     obtain rfl : j = m := by omega
     rw [List.take_of_length_le (by rw [HD.out.2]; exact Nat.le_refl _), HNM.out]
     go_wp2
     go_ret2
     exact ⟨by rw [HZN.out]; rfl, B3⟩
 ·
  rw [txt, if_neg hneg, hn, hD] at hsl
  have hsz := bytes_size hsl
  rw [hm] at hsz
  obtain ⟨c0, hc0⟩ : ∃ c, D[0]? = some c := ⟨_, List.getElem?_eq_getElem (by rw [hm]; exact hpos)⟩
  have hg0 := fun h : 0 < s.size => bytes_at hsl hc0 h
  have hc9 := (isDg_iff c0).1 (List.all_eq_true.1 HA.out c0 (List.mem_of_getElem? hc0))
  have hq00 : ((c0.toNat : Int) == 45) = false := by rw [beq_eq_false_iff_ne, ne_eq]; omega
  have HD := Lib.hid (And.intro hsl hm)
  have hzn : z = (n : Int) := by omega
  have HZN := Lib.hid hzn
  have hn9 : n ≤ 9223372036854775807 := by omega
  clear hsl hm hD hneg hn hall hnm h0 h1 hzn hc0 hc9
  go_enter Tryz.func37, Tryz.ntmps37
  go_wp2_with (first | (go_at_call 63; (with_reducible refine (CV.out _).mono ?_); rintro e w1 ⟨rfl, rfl⟩) | (go_at_call 53; (with_reducible refine (C1.out _).mono ?_); rintro e w2 ⟨rfl, B2⟩) | (go_at_call 53; (with_reducible refine (C2.out _).mono ?_); rintro e w3 ⟨rfl, b3⟩; have B3 := B2.trans (b3.mono B2.size)))
  go_loopw [4, 5] (fun nv iv wr => ∃ i : Nat, i ≤ m ∧ nv = .int .i64 ((nmN (D.take i) : Nat) : Int) ∧ iv = .int .i64 (i : Int) ∧ w3 = wr) (fun _ iv _ => m - (intOf iv).toNat)
  case atStart => exact ⟨0, Nat.zero_le _, by simp [nmN], rfl, rfl⟩
  case round =>
   clear CV C1 C2
   obtain ⟨i, hi, rfl, rfl, rfl⟩ := hrel
   by_cases hjm : i < m
   ·
    obtain ⟨c, hc⟩ : ∃ c, D[i]? = some c := ⟨_, List.getElem?_eq_getElem (by rw [HD.out.2]; exact hjm)⟩
    have hg := fun h : i < s.size => bytes_at HD.out.1 hc h
    have hcd := (isDg_iff c).1 (List.all_eq_true.1 HA.out c (List.mem_of_getElem? hc))
    have hq0 : ((c.toNat : Int) == 45) = false := by rw [beq_eq_false_iff_ne, ne_eq]; omega
    have ew : IntKind.u8.wrap ((c.toNat : Int) - 48) = (c.toNat : Int) - 48 := by simp [IntKind.wrap, IntKind.bits, IntKind.signed]; omega
    obtain ⟨t1, t2⟩ := nmN_take hc
    rw [HNM.out] at t2
    rw [t1] at t2
    have HT := Lib.hid t1
    clear t1
    generalize nmN (D.take i) = A at *
    have d1 := hcd.1
    have d2 := hcd.2
    clear hc hcd
    go_wp2
    exact ⟨⟨i + 1, by omega, by rw [HT.out]; go_num, by go_num, trivial⟩, by simp [intOf]; omega⟩
   ·
    obtain rfl : i = m := by omega
    rw [List.take_of_length_le (by rw [HD.out.2]; exact Nat.le_refl _), HNM.out]
    go_wp2
    go_ret2
    exact ⟨by rw [HZN.out]; rfl, B3⟩
def okS (a b : Rat) : Bool := fits (a.num * b.den) && fits (b.num * a.den) && fits (a.den * b.den) && fits (a.num * b.den - b.num * a.den)
theorem mk_le (a c : Int) (b d : Nat) (hb : 0 < b) (hd : 0 < d) : mkRat a b ≤ mkRat c d ↔ a * d ≤ c * b := by
 rw [Rat.le_iff_sub_nonneg, ← Rat.divInt_ofNat, ← Rat.divInt_ofNat, Rat.divInt_sub_divInt _ _ (by omega) (by omega), Rat.divInt_nonneg_iff_of_pos_right (Int.mul_pos (by omega) (by omega))]
 omega
theorem mk_lt (a c : Int) (b d : Nat) (hb : 0 < b) (hd : 0 < d) : mkRat a b < mkRat c d ↔ a * d < c * b := by
 rw [← Rat.not_le, mk_le _ _ _ _ hd hb]; omega
set_option maxRecDepth 100000 in
set_option maxHeartbeats 8000000 in
theorem qSub_walk (s1 s2 s3 s4 : ByteArray) (M : Nat → ByteArray × ByteArray) (E : Nat → Int) (w : World) (hM : M 0 = (⟨#[]⟩, ⟨#[]⟩)) (hE : E 0 = 0) (hsk : ∀ i, i < 4 → E i ≠ 0 → M (i + 1) = M i ∧ E (i + 1) = E i)
  (h1 : ∀ W p g cap, 2 ≤ cap → CS W p (.slice (some ⟨g, 0, none⟩) 2 cap) → four_cells W g s1 s2 s3 s4 → StepOK 87 #[.pointer (some ⟨p, 0, none⟩)] (M 0) (M 1) (E 1) W)
  (h2 : E 1 = 0 → ∀ W p q, CS W p (.string s4) → CS W q (.string s4) → StepOK 88 #[.pointer (some ⟨p, 0, none⟩), .pointer (some ⟨q, 0, none⟩)] (M 1) (M 2) (E 2) W)
  (h3 : E 2 = 0 → ∀ W p q r, CS W p (.string s3) → CS W q (.string s2) → CS W r (.func (.func 71) #[] #[]) → StepOK 96 #[.pointer (some ⟨p, 0, none⟩), .pointer (some ⟨q, 0, none⟩), .pointer (some ⟨r, 0, none⟩)] (M 2) (M 3) (E 3) W)
  (h4 : E 3 = 0 → ∀ W, StepOK 60 #[] (M 3) (M 4) (E 4) W) :
  Calls Tryz.prog 40 #[.agg #[.string s1, .string s2], .agg #[.string s3, .string s4]] w fun e w' => e = .returned (.tuple #[.agg #[.string (M 4).1, .string (M 4).2], .int .i64 (E 4)]) ∧ Below w.heap.size w w' := by
 obtain ⟨r1, r2, r3⟩ := three_ratios w (.string s1) (.string s2) (.string s3) (.string s4) (.string ⟨#[]⟩) (.string ⟨#[]⟩)
 have hb0 := (((below_alloc w (.cells #[.string s1, .string s2] 23)).alloc (by rw [World.size_alloc]; omega) (.cells #[.string s3, .string s4] 23)).alloc (by rw [World.size_alloc, World.size_alloc]; omega) (.cells #[.string ⟨#[]⟩, .string ⟨#[]⟩] 23))
 have HR := Lib.hid (And.intro r1 r2)
 have HX := Lib.hid r3
 have HB := Lib.hid hb0
 have H1 := Lib.hid h1
 have H2 := Lib.hid h2
 have H3 := Lib.hid h3
 have H4 := Lib.hid h4
 have HS0 := Lib.hid (And.intro hM (And.intro hE hsk))
 clear r1 r2 r3 hb0 h1 h2 h3 h4 hM hE hsk
 go_enter Tryz.func40, Tryz.ntmps40
 go_upto_region 1 with fail
 refine wp_region_noPanic ?_
 refine wp_region_held_drew (S := fun W => RBlk W w.heap.size (.string s1) (.string s2) ∧ RBlk W (w.heap.size + 1) (.string s3) (.string s4)) (by kernel_rfl) ?_ (fun hHeld => ?_)
 ·
  exact HR.out
 refine wpAnyH_take (i := 0) (oi := ({ dst := some 6, op := .load 23 (.tmp 2), type := 23, pos := "rational.go:35", after := #[], guard := none } : Oper)) (v := ?v0_1) rfl (by kernel_rfl) (by kernel_rfl) (by kernel_rfl) (fun _ _ _ h => h) (Or.inl ⟨by rfl, ?hy0_1⟩) (by assumption) ?re0_1
 case hy0_1 => ((intro w hSw; have e1 := hSw.1.c0; have e2 := hSw.1.c1; have e3 := hSw.2.c0; have e4 := hSw.2.c1; go_simp) <;> with_reducible rfl)
 (try simp only [Act.put, List.setIfInBounds_toArray, List.set_cons_zero, List.set_cons_succ])
 refine wpAnyH_take (i := 1) (oi := ({ dst := some 7, op := .load 23 (.tmp 3), type := 23, pos := "rational.go:35", after := #[], guard := none } : Oper)) (v := ?v1_2) rfl (by kernel_rfl) (by kernel_rfl) (by kernel_rfl) (fun _ _ _ h => h) (Or.inl ⟨by rfl, ?hy1_2⟩) (by assumption) ?re1_2
 case hy1_2 => ((intro w hSw; have e1 := hSw.1.c0; have e2 := hSw.1.c1; have e3 := hSw.2.c0; have e4 := hSw.2.c1; go_simp) <;> with_reducible rfl)
 (try simp only [Act.put, List.setIfInBounds_toArray, List.set_cons_zero, List.set_cons_succ])
 refine wpAnyH_take (i := 4) (oi := ({ dst := some 10, op := .fieldAddr 23 (.tmp 3) 1, type := 0, pos := "rational.go:35", after := #[], guard := none } : Oper)) (v := ?v4_3) rfl (by kernel_rfl) (by kernel_rfl) (by kernel_rfl) (fun _ _ _ h => h) (Or.inl ⟨by rfl, ?hy4_3⟩) (by assumption) ?re4_3
 case hy4_3 => ((intro w hSw; have e1 := hSw.1.c0; have e2 := hSw.1.c1; have e3 := hSw.2.c0; have e4 := hSw.2.c1; go_simp) <;> with_reducible rfl)
 (try simp only [Act.put, List.setIfInBounds_toArray, List.set_cons_zero, List.set_cons_succ])
 refine wpAnyH_take (i := 5) (oi := ({ dst := some 11, op := .load 9 (.tmp 10), type := 9, pos := "rational.go:35", after := #[⟨4, .data⟩], guard := none } : Oper)) (v := ?v5_4) rfl (by kernel_rfl) (by kernel_rfl) (by kernel_rfl) (fun _ _ _ h => h) (Or.inl ⟨by rfl, ?hy5_4⟩) (by assumption) ?re5_4
 case hy5_4 => ((intro w hSw; have e1 := hSw.1.c0; have e2 := hSw.1.c1; have e3 := hSw.2.c0; have e4 := hSw.2.c1; go_simp) <;> with_reducible rfl)
 (try simp only [Act.put, List.setIfInBounds_toArray, List.set_cons_zero, List.set_cons_succ])
 refine wpAnyH_take (i := 6) (oi := ({ dst := some 12, op := .fieldAddr 23 (.tmp 3) 1, type := 0, pos := "rational.go:35", after := #[], guard := none } : Oper)) (v := ?v6_5) rfl (by kernel_rfl) (by kernel_rfl) (by kernel_rfl) (fun _ _ _ h => h) (Or.inl ⟨by rfl, ?hy6_5⟩) (by assumption) ?re6_5
 case hy6_5 => ((intro w hSw; have e1 := hSw.1.c0; have e2 := hSw.1.c1; have e3 := hSw.2.c0; have e4 := hSw.2.c1; go_simp) <;> with_reducible rfl)
 (try simp only [Act.put, List.setIfInBounds_toArray, List.set_cons_zero, List.set_cons_succ])
 refine wpAnyH_take (i := 7) (oi := ({ dst := some 13, op := .load 9 (.tmp 12), type := 9, pos := "rational.go:35", after := #[⟨6, .data⟩], guard := none } : Oper)) (v := ?v7_6) rfl (by kernel_rfl) (by kernel_rfl) (by kernel_rfl) (fun _ _ _ h => h) (Or.inl ⟨by rfl, ?hy7_6⟩) (by assumption) ?re7_6
 case hy7_6 => ((intro w hSw; have e1 := hSw.1.c0; have e2 := hSw.1.c1; have e3 := hSw.2.c0; have e4 := hSw.2.c1; go_simp) <;> with_reducible rfl)
 (try simp only [Act.put, List.setIfInBounds_toArray, List.set_cons_zero, List.set_cons_succ])
 refine wpAnyH_take (i := 9) (oi := ({ dst := some 15, op := .fieldAddr 23 (.tmp 3) 0, type := 0, pos := "rational.go:35", after := #[], guard := none } : Oper)) (v := ?v9_7) rfl (by kernel_rfl) (by kernel_rfl) (by kernel_rfl) (fun _ _ _ h => h) (Or.inl ⟨by rfl, ?hy9_7⟩) (by assumption) ?re9_7
 case hy9_7 => ((intro w hSw; have e1 := hSw.1.c0; have e2 := hSw.1.c1; have e3 := hSw.2.c0; have e4 := hSw.2.c1; go_simp) <;> with_reducible rfl)
 (try simp only [Act.put, List.setIfInBounds_toArray, List.set_cons_zero, List.set_cons_succ])
 refine wpAnyH_take (i := 10) (oi := ({ dst := some 16, op := .load 9 (.tmp 15), type := 9, pos := "rational.go:35", after := #[⟨9, .data⟩], guard := none } : Oper)) (v := ?v10_8) rfl (by kernel_rfl) (by kernel_rfl) (by kernel_rfl) (fun _ _ _ h => h) (Or.inl ⟨by rfl, ?hy10_8⟩) (by assumption) ?re10_8
 case hy10_8 => ((intro w hSw; have e1 := hSw.1.c0; have e2 := hSw.1.c1; have e3 := hSw.2.c0; have e4 := hSw.2.c1; go_simp) <;> with_reducible rfl)
 (try simp only [Act.put, List.setIfInBounds_toArray, List.set_cons_zero, List.set_cons_succ])
 refine wpAnyH_take (i := 11) (oi := ({ dst := some 17, op := .fieldAddr 23 (.tmp 2) 1, type := 0, pos := "rational.go:35", after := #[], guard := none } : Oper)) (v := ?v11_9) rfl (by kernel_rfl) (by kernel_rfl) (by kernel_rfl) (fun _ _ _ h => h) (Or.inl ⟨by rfl, ?hy11_9⟩) (by assumption) ?re11_9
 case hy11_9 => ((intro w hSw; have e1 := hSw.1.c0; have e2 := hSw.1.c1; have e3 := hSw.2.c0; have e4 := hSw.2.c1; go_simp) <;> with_reducible rfl)
 (try simp only [Act.put, List.setIfInBounds_toArray, List.set_cons_zero, List.set_cons_succ])
 refine wpAnyH_take (i := 12) (oi := ({ dst := some 18, op := .load 9 (.tmp 17), type := 9, pos := "rational.go:35", after := #[⟨11, .data⟩], guard := none } : Oper)) (v := ?v12_10) rfl (by kernel_rfl) (by kernel_rfl) (by kernel_rfl) (fun _ _ _ h => h) (Or.inl ⟨by rfl, ?hy12_10⟩) (by assumption) ?re12_10
 case hy12_10 => ((intro w hSw; have e1 := hSw.1.c0; have e2 := hSw.1.c1; have e3 := hSw.2.c0; have e4 := hSw.2.c1; go_simp) <;> with_reducible rfl)
 (try simp only [Act.put, List.setIfInBounds_toArray, List.set_cons_zero, List.set_cons_succ])
 refine wpAnyH_ready (rs := [2]) (by kernel_rfl) (by simp) ?_
 refine AllReadyH.cons (o := ({ dst := some 8, op := .buildSlice 30 2 #[(0, .tmp 6), (1, .tmp 7)], type := 30, pos := "rational.go:35", after := #[⟨0, .data⟩, ⟨1, .data⟩], guard := none } : Oper)) rfl (fun K hK => ?_) ?_
 ·
  go_simp
  obtain ⟨W1, hW1⟩ : ∃ W, W = ((((w.alloc (.cells #[.string s1, .string s2] 23)).alloc (.cells #[.string s3, .string s4] 23)).alloc (.cells #[.string ⟨#[]⟩, .string ⟨#[]⟩] 23)).alloc (.cells #[.string s1, .string s2, .string s3, .string s4] 23)).drew := ⟨_, rfl⟩
  rw [← hW1]
  have hsz : (((w.alloc (.cells #[.string s1, .string s2] 23)).alloc (.cells #[.string s3, .string s4] 23)).alloc (.cells #[.string ⟨#[]⟩, .string ⟨#[]⟩] 23)).heap.size = w.heap.size + 1 + 1 + 1 := by rw [World.size_alloc, World.size_alloc, World.size_alloc]
  have F4 : Hid (four_cells W1 (w.heap.size + 1 + 1 + 1) s1 s2 s3 s4) := Lib.hid (by rw [hW1, ← hsz]; exact four_cells.new (((w.alloc (.cells #[.string s1, .string s2] 23)).alloc (.cells #[.string s3, .string s4] 23)).alloc (.cells #[.string ⟨#[]⟩, .string ⟨#[]⟩] 23)) s1 s2 s3 s4 23)
  have HXn : Hid (RBlk W1 (w.heap.size + 1 + 1) (.string ⟨#[]⟩) (.string ⟨#[]⟩)) := Lib.hid (by rw [hW1]; exact HX.out.alloc _)
  have HD : Hid (Below w.heap.size w W1) := Lib.hid (by rw [hW1]; exact (HB.out.alloc HB.out.size _).drew)
  have hk1 : RBlk W1 w.heap.size (.string s1) (.string s2) ∧ RBlk W1 (w.heap.size + 1) (.string s3) (.string s4) := by rw [hW1]; exact ⟨HR.out.1.alloc _, HR.out.2.alloc _⟩
  clear HX HB HR hsz hW1
  have HX := HXn
  clear HXn
  refine hK.out _ _ ?_ (fun hHeld => ?_)
  ·
   exact hk1
  clear hK K
  (try simp only [Act.put, List.setIfInBounds_toArray, List.set_cons_zero, List.set_cons_succ])
  clear hk1
  refine wpAnyH_ready (rs := [3]) (by kernel_rfl) (by simp) ?_
  refine AllReadyH.cons (o := ({ dst := some 9, op := .call { callee := .value (.func 57), args := #[.tmp 8], argTypes := #[30] }, type := 73, pos := "rational.go:35", after := #[⟨2, .data⟩], guard := none } : Oper)) rfl (fun K hK => ?_) ?_
  ·
   go_simp
   go_at_call 57
   refine (start_any _ _ _ _).mono ?_
   rintro e W2 ⟨rfl, c2, B⟩
   have HXn := Lib.hid (HX.out.keep B HX.out.lt)
   have HDn := Lib.hid (HD.out.trans (B.mono HD.out.size))
   clear HX HD
   have HX := HXn
   have HD := HDn
   clear HXn HDn
   have F4n := Lib.hid (F4.out.keep B)
   clear F4
   have F4 := F4n
   clear F4n
   have C2 := Lib.hid c2
   clear c2
   (try go_wp2_with fail)
   refine hK.out _ _ ?_ (fun hHeld => ?_)
   ·
    exact ⟨hHeld.1.keep B hHeld.1.lt, hHeld.2.keep B hHeld.2.lt⟩
   clear hK K
   (try simp only [Act.put, List.setIfInBounds_toArray, List.set_cons_zero, List.set_cons_succ])
   clear B
   refine wpAnyH_ready (rs := [8]) (by kernel_rfl) (by simp) ?_
   refine AllReadyH.cons (o := ({ dst := some 14, op := .call { callee := .value (.func 58), args := #[.tmp 11, .tmp 13], argTypes := #[9, 9] }, type := 73, pos := "rational.go:35", after := #[⟨5, .data⟩, ⟨7, .data⟩, ⟨3, .chain⟩], guard := none } : Oper)) rfl (fun K hK => ?_) ?_
   ·
    go_simp
    go_at_call 58
    refine (qtimes_any _ _ _).mono ?_
    rintro e W3 ⟨rfl, c3, B⟩
    have HXn := Lib.hid (HX.out.keep B HX.out.lt)
    have HDn := Lib.hid (HD.out.trans (B.mono HD.out.size))
    clear HX HD
    have HX := HXn
    have HD := HDn
    clear HXn HDn
    have F4n := Lib.hid (F4.out.keep B)
    have C2n := Lib.hid (C2.out.keep B)
    clear F4 C2
    have F4 := F4n
    have C2 := C2n
    clear F4n C2n
    have C3a := Lib.hid c3.1
    have C3b := Lib.hid c3.2
    clear c3
    (try go_wp2_with fail)
    refine hK.out _ _ ?_ (fun hHeld => ?_)
    ·
     exact ⟨hHeld.1.keep B hHeld.1.lt, hHeld.2.keep B hHeld.2.lt⟩
    clear hK K
    (try simp only [Act.put, List.setIfInBounds_toArray, List.set_cons_zero, List.set_cons_succ])
    clear B
    refine wpAnyH_ready (rs := [13]) (by kernel_rfl) (by simp) ?_
    refine AllReadyH.cons (o := ({ dst := some 19, op := .call { callee := .value (.func 69), args := #[.func 71, .tmp 16, .tmp 18], argTypes := #[61, 9, 9] }, type := 73, pos := "rational.go:35", after := #[⟨10, .data⟩, ⟨12, .data⟩, ⟨8, .chain⟩], guard := none } : Oper)) rfl (fun K hK => ?_) ?_
    ·
     go_simp
     go_at_call 69
     refine (combine1_any _ _ _ _).mono ?_
     rintro e W4 ⟨rfl, c4, B⟩
     have HXn := Lib.hid (HX.out.keep B HX.out.lt)
     have HDn := Lib.hid (HD.out.trans (B.mono HD.out.size))
     clear HX HD
     have HX := HXn
     have HD := HDn
     clear HXn HDn
     have F4n := Lib.hid (F4.out.keep B)
     have C2n := Lib.hid (C2.out.keep B)
     have C3an := Lib.hid (C3a.out.keep B)
     have C3bn := Lib.hid (C3b.out.keep B)
     clear F4 C2 C3a C3b
     have F4 := F4n
     have C2 := C2n
     have C3a := C3an
     have C3b := C3bn
     clear F4n C2n C3an C3bn
     have C4a := Lib.hid c4.1
     have C4b := Lib.hid c4.2.1
     have C4c := Lib.hid c4.2.2
     clear c4
     (try go_wp2_with fail)
     refine hK.out _ _ ?_ (fun hHeld => ?_)
     ·
      exact ⟨hHeld.1.keep B hHeld.1.lt, hHeld.2.keep B hHeld.2.lt⟩
     clear hK K
     (try simp only [Act.put, List.setIfInBounds_toArray, List.set_cons_zero, List.set_cons_succ])
     clear B
     refine wpAnyH_ready (rs := [14]) (by kernel_rfl) (by simp) ?_
     refine AllReadyH.cons (o := ({ dst := some 20, op := .buildSlice 101 4 #[(0, .tmp 9), (1, .tmp 14), (2, .tmp 19), (3, .func 60)], type := 101, pos := "rational.go:35", after := #[⟨3, .data⟩, ⟨8, .data⟩, ⟨13, .data⟩], guard := none } : Oper)) rfl (fun K hK => ?_) ?_
     ·
      go_simp
      obtain ⟨WB, hWB⟩ : ∃ W, W = (W4.alloc (.cells #[.func (.func 87) #[] #[.pointer (some ⟨W1.heap.size, 0, none⟩)], .func (.func 88) #[] #[.pointer (some ⟨W2.heap.size, 0, none⟩), .pointer (some ⟨W2.heap.size + 1, 0, none⟩)], .func (.func 96) #[] #[.pointer (some ⟨W3.heap.size + 1, 0, none⟩), .pointer (some ⟨W3.heap.size + 1 + 1, 0, none⟩), .pointer (some ⟨W3.heap.size, 0, none⟩)], .func (.func 60) #[] #[]] 73)) := ⟨_, rfl⟩
      rw [← hWB]
      have BA : Below W4.heap.size W4 WB := by rw [hWB]; exact below_alloc W4 _
      have hgB : W4.heap.size < WB.heap.size := by rw [hWB, World.size_alloc]; omega
      have hr0 : WB.cell? ⟨W4.heap.size, 0, none⟩ = some (.func (.func 87) #[] #[.pointer (some ⟨W1.heap.size, 0, none⟩)]) := by rw [hWB, World.cell?, Go.heap_alloc_new]; rfl
      have hr1 : WB.cell? ⟨W4.heap.size, 1, none⟩ = some (.func (.func 88) #[] #[.pointer (some ⟨W2.heap.size, 0, none⟩), .pointer (some ⟨W2.heap.size + 1, 0, none⟩)]) := by rw [hWB, World.cell?, Go.heap_alloc_new]; rfl
      have hr2 : WB.cell? ⟨W4.heap.size, 2, none⟩ = some (.func (.func 96) #[] #[.pointer (some ⟨W3.heap.size + 1, 0, none⟩), .pointer (some ⟨W3.heap.size + 1 + 1, 0, none⟩), .pointer (some ⟨W3.heap.size, 0, none⟩)]) := by rw [hWB, World.cell?, Go.heap_alloc_new]; rfl
      have hr3 : WB.cell? ⟨W4.heap.size, 3, none⟩ = some (.func (.func 60) #[] #[]) := by rw [hWB, World.cell?, Go.heap_alloc_new]; rfl
      clear hWB
      have HXn := Lib.hid (HX.out.keep BA HX.out.lt)
      have HDn := Lib.hid (HD.out.trans (BA.mono HD.out.size))
      clear HX HD
      have HX := HXn
      have HD := HDn
      clear HXn HDn
      have F4n := Lib.hid (F4.out.keep BA)
      have C2n := Lib.hid (C2.out.keep BA)
      have C3an := Lib.hid (C3a.out.keep BA)
      have C3bn := Lib.hid (C3b.out.keep BA)
      have C4an := Lib.hid (C4a.out.keep BA)
      have C4bn := Lib.hid (C4b.out.keep BA)
      have C4cn := Lib.hid (C4c.out.keep BA)
      clear F4 C2 C3a C3b C4a C4b C4c
      have F4 := F4n
      have C2 := C2n
      have C3a := C3an
      have C3b := C3bn
      have C4a := C4an
      have C4b := C4bn
      have C4c := C4cn
      clear F4n C2n C3an C3bn C4an C4bn C4cn
      refine hK.out _ _ ?_ (fun hHeld => ?_)
      ·
       exact ⟨hHeld.1.keep BA hHeld.1.lt, hHeld.2.keep BA hHeld.2.lt⟩
      clear hK K
      (try simp only [Act.put, List.setIfInBounds_toArray, List.set_cons_zero, List.set_cons_succ])
      clear BA
      refine wpAnyH_ready (rs := [15]) (by kernel_rfl) (by simp) ?_
      refine AllReadyH.cons (o := ({ dst := some 21, op := .call { callee := .value (.func 56), args := #[.tmp 20], argTypes := #[101] }, type := 36, pos := "rational.go:35", after := #[⟨14, .data⟩, ⟨13, .chain⟩], guard := none } : Oper)) rfl (fun K hK => ?_) ?_
      ·
       go_simp
       go_at_call 56
       have hbc := build_any 4 W4.heap.size 4 (fun i => if i = 0 then .func (.func 87) #[] #[.pointer (some ⟨W1.heap.size, 0, none⟩)] else if i = 1 then .func (.func 88) #[] #[.pointer (some ⟨W2.heap.size, 0, none⟩), .pointer (some ⟨W2.heap.size + 1, 0, none⟩)] else if i = 2 then .func (.func 96) #[] #[.pointer (some ⟨W3.heap.size + 1, 0, none⟩), .pointer (some ⟨W3.heap.size + 1 + 1, 0, none⟩), .pointer (some ⟨W3.heap.size, 0, none⟩)] else .func (.func 60) #[] #[]) M E WB (by decide) (by decide) hgB (fun i hi => by
         rcases (by omega : i = 0 ∨ i = 1 ∨ i = 2 ∨ i = 3) with rfl | rfl | rfl | rfl
         ·
          exact hr0
         ·
          exact hr1
         ·
          exact hr2
         ·
          exact hr3) HS0.out.1 HS0.out.2.1 (fun i hi hE => by
         rcases (by omega : i = 0 ∨ i = 1 ∨ i = 2 ∨ i = 3) with rfl | rfl | rfl | rfl
         ·
          exact ⟨87, _, rfl, enters_of Tryz.func87 (by kernel_rfl) rfl, fun W hW => H1.out W _ _ 2 (by omega) (C2.out.keep hW) (F4.out.keep hW)⟩
         ·
          exact ⟨88, _, rfl, enters_of Tryz.func88 (by kernel_rfl) rfl, fun W hW => H2.out hE W _ _ (C3a.out.keep hW) (C3b.out.keep hW)⟩
         ·
          exact ⟨96, _, rfl, enters_of Tryz.func96 (by kernel_rfl) rfl, fun W hW => H3.out hE W _ _ _ (C4b.out.keep hW) (C4c.out.keep hW) (C4a.out.keep hW)⟩
         ·
          exact ⟨60, _, rfl, enters_of Tryz.func60 (by kernel_rfl) rfl, fun W hW => H4.out hE W⟩) HS0.out.2.2
       refine hbc.mono ?_
       rintro e W9 ⟨rfl, B⟩
       have HXn := Lib.hid (HX.out.keep B HX.out.lt)
       have HDn := Lib.hid (HD.out.trans (B.mono HD.out.size))
       clear HX HD hbc
       have HX := HXn
       have HD := HDn
       clear HXn HDn
       (try go_wp2_with fail)
       refine hK.out _ _ ?_ (fun hHeld => ?_)
       ·
        exact ⟨hHeld.1.keep B hHeld.1.lt, hHeld.2.keep B hHeld.2.lt⟩
       clear hK K
       (try simp only [Act.put, List.setIfInBounds_toArray, List.set_cons_zero, List.set_cons_succ])
       clear B
       refine wpAnyH_take (i := 16) (oi := ({ dst := some 22, op := .extract (.tmp 21) 0, type := 23, pos := "rational.go:35", after := #[⟨15, .data⟩], guard := none } : Oper)) (v := ?v16_11) rfl (by kernel_rfl) (by kernel_rfl) (by kernel_rfl) (fun _ _ _ h => h) (Or.inl ⟨by rfl, ?hy16_11⟩) (by assumption) ?re16_11
       case hy16_11 => ((intro w hSw; have e1 := hSw.1.c0; have e2 := hSw.1.c1; have e3 := hSw.2.c0; have e4 := hSw.2.c1; go_simp) <;> with_reducible rfl)
       (try simp only [Act.put, List.setIfInBounds_toArray, List.set_cons_zero, List.set_cons_succ])
       refine wpAnyH_take (i := 17) (oi := ({ dst := some 23, op := .extract (.tmp 21) 1, type := 32, pos := "rational.go:35", after := #[⟨15, .data⟩], guard := none } : Oper)) (v := ?v17_12) rfl (by kernel_rfl) (by kernel_rfl) (by kernel_rfl) (fun _ _ _ h => h) (Or.inl ⟨by rfl, ?hy17_12⟩) (by assumption) ?re17_12
       case hy17_12 => ((intro w hSw; have e1 := hSw.1.c0; have e2 := hSw.1.c1; have e3 := hSw.2.c0; have e4 := hSw.2.c1; go_simp) <;> with_reducible rfl)
       (try simp only [Act.put, List.setIfInBounds_toArray, List.set_cons_zero, List.set_cons_succ])
       refine wpAnyH_ready (rs := [18]) (by kernel_rfl) (by simp) ?_
       refine AllReadyH.cons (o := ({ dst := none, op := .store 23 (.tmp 4) (.tmp 22), type := 0, pos := "rational.go:35", after := #[⟨16, .data⟩, ⟨15, .chain⟩, ⟨0, .phase⟩, ⟨1, .phase⟩, ⟨2, .phase⟩, ⟨3, .phase⟩, ⟨4, .phase⟩, ⟨5, .phase⟩, ⟨6, .phase⟩, ⟨7, .phase⟩, ⟨8, .phase⟩, ⟨9, .phase⟩, ⟨10, .phase⟩, ⟨11, .phase⟩, ⟨12, .phase⟩, ⟨13, .phase⟩, ⟨14, .phase⟩, ⟨15, .phase⟩, ⟨16, .phase⟩, ⟨17, .phase⟩], guard := none } : Oper)) rfl (fun K hK => ?_) ?_
       ·
        have c0 := HX.out.c0
        have c1 := HX.out.c1
        have f0 := HX.out.f 0
        have f1 := HX.out.f 1
        have hs := HX.out.s0 (.string (M 4).1)
        have d1 := hs.c1
        have g1 := hs.f 1
        have HS := Lib.hid (hs.s1 (.string (M 4).2))
        have HBS := Lib.hid ((HD.out.setCell (p := ⟨w.heap.size + 1 + 1, 0, none⟩) (by show w.heap.size ≤ w.heap.size + 1 + 1; omega) (.string (M 4).1)).setCell (p := ⟨w.heap.size + 1 + 1, 1, none⟩) (by show w.heap.size ≤ w.heap.size + 1 + 1; omega) (.string (M 4).2))
        clear hs
        go_simp
        refine hK.out _ _ ?_ (fun hHeld => ?_)
        ·
         exact ⟨(hHeld.1.keep ((Below.refl (w.heap.size + 1 + 1) _).setCell (p := ⟨w.heap.size + 1 + 1, 0, none⟩) (Nat.le_refl _) (.string (M 4).1)) (by omega)).keep ((Below.refl (w.heap.size + 1 + 1) _).setCell (p := ⟨w.heap.size + 1 + 1, 1, none⟩) (Nat.le_refl _) (.string (M 4).2)) (by omega), (hHeld.2.keep ((Below.refl (w.heap.size + 1 + 1) _).setCell (p := ⟨w.heap.size + 1 + 1, 0, none⟩) (Nat.le_refl _) (.string (M 4).1)) (by omega)).keep ((Below.refl (w.heap.size + 1 + 1) _).setCell (p := ⟨w.heap.size + 1 + 1, 1, none⟩) (Nat.le_refl _) (.string (M 4).2)) (by omega)⟩
        clear hK K
        (try simp only [Act.put, List.setIfInBounds_toArray, List.set_cons_zero, List.set_cons_succ])
        refine wpAnyH_take (i := 19) (oi := ({ dst := some 5, op := .assign (.tmp 23), type := 32, pos := "rational.go:35", after := #[⟨17, .data⟩, ⟨18, .chain⟩, ⟨0, .phase⟩, ⟨1, .phase⟩, ⟨2, .phase⟩, ⟨3, .phase⟩, ⟨4, .phase⟩, ⟨5, .phase⟩, ⟨6, .phase⟩, ⟨7, .phase⟩, ⟨8, .phase⟩, ⟨9, .phase⟩, ⟨10, .phase⟩, ⟨11, .phase⟩, ⟨12, .phase⟩, ⟨13, .phase⟩, ⟨14, .phase⟩, ⟨15, .phase⟩, ⟨16, .phase⟩, ⟨17, .phase⟩, ⟨18, .phase⟩], guard := none } : Oper)) (v := ?v19_13) rfl (by kernel_rfl) (by kernel_rfl) (by kernel_rfl) (fun _ _ _ h => h) (Or.inl ⟨by rfl, ?hy19_13⟩) (by assumption) ?re19_13
        case hy19_13 => ((intro w hSw; have e1 := hSw.1.c0; have e2 := hSw.1.c1; have e3 := hSw.2.c0; have e4 := hSw.2.c1; go_simp) <;> with_reducible rfl)
        (try simp only [Act.put, List.setIfInBounds_toArray, List.set_cons_zero, List.set_cons_succ])
        refine wpAnyH_done (by kernel_rfl) ?_ _
        refine NoPanic.normal ?_
        go_wp2_with fail
        refine bodyPost_ret (results_ratio rfl _ _ (w.heap.size + 1 + 1) _ _ rfl HS.out) rfl ?_
        exact ⟨rfl, HBS.out⟩
       exact AllReadyH.nil
      exact AllReadyH.nil
     exact AllReadyH.nil
    exact AllReadyH.nil
   exact AllReadyH.nil
  exact AllReadyH.nil
 exact AllReadyH.nil
theorem sub_rs (x y : Int) (hx : x.natAbs < 10 ^ 200) (hy : y.natAbs < 10 ^ 200) (W : World) :
  Calls Tryz.prog 71 #[.string (S x), .string (S y)] W fun e w' => e = .returned (.tuple #[.string ⟨(rs (x - y)).toArray⟩, .int .i64 (er (x - y))]) ∧ Below W.heap.size W w' := by
 have h := Sub_any (S x) (S y) (txt x) (txt y) W (S_list x) (S_list y) (S_len hx) (S_len hy)
 rw [txt_vld hx, txt_vld hy, Bool.and_true, txt_num, txt_num, res, ree, if_pos rfl, if_pos rfl] at h
 exact h
theorem sub_no (x : Int) (hx : x.natAbs < 10 ^ 200) (W : World) :
  Calls Tryz.prog 71 #[.string (S x), .string ⟨#[]⟩] W fun e w' => e = .returned (.tuple #[.string ⟨#[]⟩, .int .i64 30]) ∧ Below W.heap.size W w' := by
 have h := Sub_any (S x) ⟨#[]⟩ (txt x) [] W (S_list x) rfl (S_len hx) (by decide)
 rw [show vld [] = false by decide, Bool.and_false, res_f, ree_f] at h
 exact h
set_option maxHeartbeats 1000000 in
theorem qSub_R (a b : Rat) (ha : fitR 200 a) (hb : fitR 200 b) (w : World) :
  Calls Tryz.prog 40 #[RV a, RV b] w fun e w' => e = .returned (opQ (okS a b) (a - b)) ∧ Below w.heap.size w w' := by
 have hA := den_abs a ha
 have hB := den_abs b hb
 have ht : ∀ W p q, CS W p (.string (S (b.den : Int))) → CS W q (.string (S (b.den : Int))) → _ := fun W p q cp cq => times1_any (S a.num) (S (a.den : Int)) (S (b.den : Int)) (S (b.den : Int)) _ _ _ _ (er_two (a.num * b.den)) (er_two (a.den * b.den)) p q W cp cq (mul_rs a.num b.den ha.1 hB) (mul_rs a.den b.den hA hB)
 rw [okS]
 cases hx : fits (a.num * b.den)
 ·
  have h := qSub_walk (S a.num) (S (a.den : Int)) (S b.num) (S (b.den : Int)) (fun i => match i with | 0 => (⟨#[]⟩, ⟨#[]⟩) | 1 => (S a.num, S (a.den : Int)) | _ => (⟨#[]⟩, ⟨#[]⟩)) (fun i => match i with | 0 => 0 | 1 => 0 | _ => 40) w rfl rfl (fun i hi h => by
   rcases (by omega : i = 0 ∨ i = 1 ∨ i = 2 ∨ i = 3) with rfl | rfl | rfl | rfl <;> first | exact absurd rfl h | exact ⟨rfl, rfl⟩)
   (fun W p g cap hc hp hf => start_R a b ha hb W p g cap _ hc hp hf)
   (fun _ W p q cp cq => by
    have h := ht W p q cp cq
    rw [er_n hx, if_neg (by omega), if_neg (by omega), if_neg (by omega)] at h
    exact h) (fun h => absurd (show (40 : Int) = 0 from h) (by decide)) (fun h => absurd (show (40 : Int) = 0 from h) (by decide))
  rw [Bool.false_and, Bool.false_and, Bool.false_and]; exact h
 ·
  cases hd : fits (a.den * b.den)
  ·
   have h := qSub_walk (S a.num) (S (a.den : Int)) (S b.num) (S (b.den : Int)) (fun i => match i with | 0 => (⟨#[]⟩, ⟨#[]⟩) | 1 => (S a.num, S (a.den : Int)) | _ => (⟨#[]⟩, ⟨#[]⟩)) (fun i => match i with | 0 => 0 | 1 => 0 | _ => 40) w rfl rfl (fun i hi h => by
   rcases (by omega : i = 0 ∨ i = 1 ∨ i = 2 ∨ i = 3) with rfl | rfl | rfl | rfl <;> first | exact absurd rfl h | exact ⟨rfl, rfl⟩)
    (fun W p g cap hc hp hf => start_R a b ha hb W p g cap _ hc hp hf)
    (fun _ W p q cp cq => by
     have h := ht W p q cp cq
     rw [er_n hd, if_neg (by omega), if_neg (by omega), if_neg (by omega)] at h
     exact h) (fun h => absurd (show (40 : Int) = 0 from h) (by decide)) (fun h => absurd (show (40 : Int) = 0 from h) (by decide))
   rw [Bool.and_false, Bool.false_and]; exact h
  ·
   have h2 : ∀ W p q, CS W p (.string (S (b.den : Int))) → CS W q (.string (S (b.den : Int))) → StepOK 88 #[.pointer (some ⟨p, 0, none⟩), .pointer (some ⟨q, 0, none⟩)] (S a.num, S (a.den : Int)) (S (a.num * b.den), S ((a.den * b.den) : Int)) 0 W := fun W p q cp cq => by
    have h := ht W p q cp cq
    rw [er_f hx, er_f hd, if_pos ⟨rfl, rfl⟩, if_pos ⟨rfl, rfl⟩, if_pos ⟨rfl, rfl⟩, rs_f hx, rs_f hd] at h
    exact h
   have px := of_decide_eq_true hx
   have pd := of_decide_eq_true hd
   have hen : ∀ args W, (callFunc 71 args).run Tryz.prog W = .ok (.enter 71 args) W := enters_of Tryz.func71 (by kernel_rfl) rfl
   cases hz : fits (b.num * a.den)
   ·
    have h3 : ∀ W p q r, CS W p (.string (S b.num)) → CS W q (.string (S (a.den : Int))) → CS W r (.func (.func 71) #[] #[]) → StepOK 96 #[.pointer (some ⟨p, 0, none⟩), .pointer (some ⟨q, 0, none⟩), .pointer (some ⟨r, 0, none⟩)] (S (a.num * b.den), S ((a.den * b.den) : Int)) (⟨#[]⟩, ⟨#[]⟩) 40 W := fun W p q r cp cq cr => by
     have h := combine2_any (S (a.num * b.den)) (S ((a.den * b.den) : Int)) (S b.num) (S (a.den : Int)) _ ⟨#[]⟩ 71 _ 30 (er_two (b.num * a.den)) (.inr rfl) p q r W cp cq cr hen (mul_rs b.num a.den hb.1 hA) (by rw [rs_n hz]; exact sub_no _ px)
     rw [er_n hz, if_neg (by omega), if_neg (by omega), if_neg (by omega)] at h
     exact h
    have h := qSub_walk (S a.num) (S (a.den : Int)) (S b.num) (S (b.den : Int)) (fun i => match i with | 0 => (⟨#[]⟩, ⟨#[]⟩) | 1 => (S a.num, S (a.den : Int)) | 2 => (S (a.num * b.den), S ((a.den * b.den) : Int)) | _ => (⟨#[]⟩, ⟨#[]⟩)) (fun i => match i with | 0 => 0 | 1 => 0 | 2 => 0 | _ => 40) w rfl rfl (fun i hi h => by
   rcases (by omega : i = 0 ∨ i = 1 ∨ i = 2 ∨ i = 3) with rfl | rfl | rfl | rfl <;> first | exact absurd rfl h | exact ⟨rfl, rfl⟩)
     (fun W p g cap hc hp hf => start_R a b ha hb W p g cap _ hc hp hf) (fun _ => h2) (fun _ => h3) (fun h => absurd (show (40 : Int) = 0 from h) (by decide))
    rw [Bool.and_false, Bool.false_and, Bool.false_and]; exact h
   ·
    have pz := of_decide_eq_true hz
    have hc : ∀ W p q r, CS W p (.string (S b.num)) → CS W q (.string (S (a.den : Int))) → CS W r (.func (.func 71) #[] #[]) → _ := fun W p q r cp cq cr =>
     combine2_any (S (a.num * b.den)) (S ((a.den * b.den) : Int)) (S b.num) (S (a.den : Int)) _ _ 71 _ _ (er_two (b.num * a.den)) (er_two ((a.num * b.den) - (b.num * a.den))) p q r W cp cq cr hen (mul_rs b.num a.den hb.1 hA) (by rw [rs_f hz]; exact sub_rs _ _ px pz)
    cases hs : fits ((a.num * b.den) - (b.num * a.den))
    ·
     have h := qSub_walk (S a.num) (S (a.den : Int)) (S b.num) (S (b.den : Int)) (fun i => match i with | 0 => (⟨#[]⟩, ⟨#[]⟩) | 1 => (S a.num, S (a.den : Int)) | 2 => (S (a.num * b.den), S ((a.den * b.den) : Int)) | _ => (⟨#[]⟩, ⟨#[]⟩)) (fun i => match i with | 0 => 0 | 1 => 0 | 2 => 0 | _ => 40) w rfl rfl (fun i hi h => by
   rcases (by omega : i = 0 ∨ i = 1 ∨ i = 2 ∨ i = 3) with rfl | rfl | rfl | rfl <;> first | exact absurd rfl h | exact ⟨rfl, rfl⟩)
      (fun W p g cap hc hp hf => start_R a b ha hb W p g cap _ hc hp hf) (fun _ => h2) (fun _ W p q r cp cq cr => by
       have h := hc W p q r cp cq cr
       rw [er_n hs, if_neg (by omega), if_neg (by omega), if_neg (by omega)] at h
       exact h) (fun h => absurd (show (40 : Int) = 0 from h) (by decide))
     rw [Bool.and_false]; exact h
    ·
     have ps := of_decide_eq_true hs
     have d0 : ((a.den * b.den) : Int) ≠ 0 := by have := Int.mul_pos (den_pos a) (den_pos b); omega
     have h := qSub_walk (S a.num) (S (a.den : Int)) (S b.num) (S (b.den : Int)) (fun i => match i with | 0 => (⟨#[]⟩, ⟨#[]⟩) | 1 => (S a.num, S (a.den : Int)) | 2 => (S (a.num * b.den), S ((a.den * b.den) : Int)) | 3 => (S ((a.num * b.den) - (b.num * a.den)), S ((a.den * b.den) : Int)) | _ => (S (Rat.divInt ((a.num * b.den) - (b.num * a.den)) (a.den * b.den)).num, S ((Rat.divInt ((a.num * b.den) - (b.num * a.den)) (a.den * b.den)).den : Int))) (fun i => match i with | 0 => 0 | _ => 0) w rfl rfl (fun i hi h => by
   rcases (by omega : i = 0 ∨ i = 1 ∨ i = 2 ∨ i = 3) with rfl | rfl | rfl | rfl <;> first | exact absurd rfl h | exact ⟨rfl, rfl⟩)
      (fun W p g cap hc hp hf => start_R a b ha hb W p g cap _ hc hp hf) (fun _ => h2) (fun _ W p q r cp cq cr => by
       have h := hc W p q r cp cq cr
       rw [er_f hs, er_f hz, if_pos ⟨rfl, rfl⟩, if_pos ⟨rfl, rfl⟩, if_pos ⟨rfl, rfl⟩, rs_f hs] at h
       exact h) (fun _ W => reduced_R _ _ ps pd d0 W)
     have e : a - b = Rat.divInt ((a.num * b.den) - (b.num * a.den)) (a.den * b.den) := by rw [Rat.sub_def', ← Rat.divInt_ofNat, Int.natCast_mul]
     rw [e]; exact h
theorem info_r4 : (Tryz.prog.info? 31).map (·.size) = some 8 := by kernel_rfl
theorem info_e4 : (Tryz.prog.info? 33).map (·.size) = some 4 := by kernel_rfl
theorem r4_yields {w : World} {g : Nat} {cs : Array Value} (h : CBlk w g cs 31) (hs : cs.size = 8) : (loadVar 31 ⟨g, 0, none⟩).run Tryz.prog w = .ok (.agg cs) w :=
 run_loadVar_row w g _ _ _ _ _ h Tryz.underlying31 rfl (by rw [hs]; exact info_r4)
theorem e4_yields {w : World} {g : Nat} {cs : Array Value} (h : CBlk w g cs 33) (hs : cs.size = 4) : (loadVar 33 ⟨g, 0, none⟩).run Tryz.prog w = .ok (.agg cs) w :=
 run_loadVar_row w g _ _ _ _ _ h Tryz.underlying33 rfl (by rw [hs]; exact info_e4)
theorem results_two {fn : Func} {p q : Tmp} (h : fn.results = #[.cell p 31, .cell q 33]) (tmps : Array Value) (w : World) (g k : Nat) (cs ds : Array Value)
  (hp : tmps.getD p undef = .pointer (some ⟨g, 0, none⟩)) (hq : tmps.getD q undef = .pointer (some ⟨k, 0, none⟩)) (hg : CBlk w g cs 31) (hk : CBlk w k ds 33) (h8 : cs.size = 8) (h4 : ds.size = 4) :
  (results fn tmps).run Tryz.prog w = .ok (.tuple #[.agg cs, .agg ds]) w := by
 have hp' : tmps[p]?.getD undef = .pointer (some ⟨g, 0, none⟩) := by simpa using hp
 have hq' : tmps[q]?.getD undef = .pointer (some ⟨k, 0, none⟩) := by simpa using hq
 simp [results, h, hp', hq', asAddr, r4_yields hg h8, e4_yields hk h4]
set_option maxRecDepth 100000 in
set_option maxHeartbeats 8000000 in
theorem four_walk (s1 s2 s3 s4 x0 y0 x1 y1 x2 y2 x3 y3 : ByteArray) (e0 e1 e2 e3 : Int) (w : World)
  (c0 : ∀ W, Calls Tryz.prog 38 #[.agg #[.string s1, .string s2], .agg #[.string s3, .string s4]] W fun e w' => e = .returned (.tuple #[.agg #[.string x0, .string y0], .int .i64 e0]) ∧ Below W.heap.size W w')
  (c1 : ∀ W, Calls Tryz.prog 40 #[.agg #[.string s1, .string s2], .agg #[.string s3, .string s4]] W fun e w' => e = .returned (.tuple #[.agg #[.string x1, .string y1], .int .i64 e1]) ∧ Below W.heap.size W w')
  (c2 : ∀ W, Calls Tryz.prog 39 #[.agg #[.string s1, .string s2], .agg #[.string s3, .string s4]] W fun e w' => e = .returned (.tuple #[.agg #[.string x2, .string y2], .int .i64 e2]) ∧ Below W.heap.size W w')
  (c3 : ∀ W, Calls Tryz.prog 45 #[.agg #[.string s1, .string s2], .agg #[.string s3, .string s4]] W fun e w' => e = .returned (.tuple #[.agg #[.string x3, .string y3], .int .i64 e3]) ∧ Below W.heap.size W w') :
  Calls Tryz.prog 15 #[.agg #[.string s1, .string s2], .agg #[.string s3, .string s4]] w fun e w' => e = .returned (.tuple #[.agg #[.string x0, .string y0, .string x1, .string y1, .string x2, .string y2, .string x3, .string y3], .agg #[.int .i64 e0, .int .i64 e1, .int .i64 e2, .int .i64 e3]]) ∧ Below w.heap.size w w' := by
 have C0 := Lib.hid c0
 have C1 := Lib.hid c1
 have C2 := Lib.hid c2
 have C3 := Lib.hid c3
 clear c0 c1 c2 c3
 obtain ⟨r1, r2⟩ := two_ratios w (.string s1) (.string s2) (.string s3) (.string s4)
 have A := Lib.hid ((((r1.alloc (.cells #[.string ⟨#[]⟩, .string ⟨#[]⟩, .string ⟨#[]⟩, .string ⟨#[]⟩, .string ⟨#[]⟩, .string ⟨#[]⟩, .string ⟨#[]⟩, .string ⟨#[]⟩] 31)).alloc (.cells #[.int .i64 0, .int .i64 0, .int .i64 0, .int .i64 0] 33)).alloc (.cells #[.string ⟨#[]⟩, .string ⟨#[]⟩, .string ⟨#[]⟩, .string ⟨#[]⟩, .string ⟨#[]⟩, .string ⟨#[]⟩, .string ⟨#[]⟩, .string ⟨#[]⟩] 31)).alloc (.cells #[.int .i64 0, .int .i64 0, .int .i64 0, .int .i64 0] 33))
 have Bb := Lib.hid ((((r2.alloc (.cells #[.string ⟨#[]⟩, .string ⟨#[]⟩, .string ⟨#[]⟩, .string ⟨#[]⟩, .string ⟨#[]⟩, .string ⟨#[]⟩, .string ⟨#[]⟩, .string ⟨#[]⟩] 31)).alloc (.cells #[.int .i64 0, .int .i64 0, .int .i64 0, .int .i64 0] 33)).alloc (.cells #[.string ⟨#[]⟩, .string ⟨#[]⟩, .string ⟨#[]⟩, .string ⟨#[]⟩, .string ⟨#[]⟩, .string ⟨#[]⟩, .string ⟨#[]⟩, .string ⟨#[]⟩] 31)).alloc (.cells #[.int .i64 0, .int .i64 0, .int .i64 0, .int .i64 0] 33))
 have h2 : ((w.alloc (.cells #[.string s1, .string s2] 23)).alloc (.cells #[.string s3, .string s4] 23)).heap.size = w.heap.size + 1 + 1 := by rw [World.size_alloc, World.size_alloc]
 have h3 : (((w.alloc (.cells #[.string s1, .string s2] 23)).alloc (.cells #[.string s3, .string s4] 23)).alloc (.cells #[.string ⟨#[]⟩, .string ⟨#[]⟩, .string ⟨#[]⟩, .string ⟨#[]⟩, .string ⟨#[]⟩, .string ⟨#[]⟩, .string ⟨#[]⟩, .string ⟨#[]⟩] 31)).heap.size = w.heap.size + 1 + 1 + 1 := by rw [World.size_alloc, h2]
 have h4 : ((((w.alloc (.cells #[.string s1, .string s2] 23)).alloc (.cells #[.string s3, .string s4] 23)).alloc (.cells #[.string ⟨#[]⟩, .string ⟨#[]⟩, .string ⟨#[]⟩, .string ⟨#[]⟩, .string ⟨#[]⟩, .string ⟨#[]⟩, .string ⟨#[]⟩, .string ⟨#[]⟩] 31)).alloc (.cells #[.int .i64 0, .int .i64 0, .int .i64 0, .int .i64 0] 33)).heap.size = w.heap.size + 1 + 1 + 1 + 1 := by rw [World.size_alloc, h3]
 have h5 : (((((w.alloc (.cells #[.string s1, .string s2] 23)).alloc (.cells #[.string s3, .string s4] 23)).alloc (.cells #[.string ⟨#[]⟩, .string ⟨#[]⟩, .string ⟨#[]⟩, .string ⟨#[]⟩, .string ⟨#[]⟩, .string ⟨#[]⟩, .string ⟨#[]⟩, .string ⟨#[]⟩] 31)).alloc (.cells #[.int .i64 0, .int .i64 0, .int .i64 0, .int .i64 0] 33)).alloc (.cells #[.string ⟨#[]⟩, .string ⟨#[]⟩, .string ⟨#[]⟩, .string ⟨#[]⟩, .string ⟨#[]⟩, .string ⟨#[]⟩, .string ⟨#[]⟩, .string ⟨#[]⟩] 31)).heap.size = w.heap.size + 1 + 1 + 1 + 1 + 1 := by rw [World.size_alloc, h4]
 have RR := Lib.hid (show CBlk ((((((w.alloc (.cells #[.string s1, .string s2] 23)).alloc (.cells #[.string s3, .string s4] 23)).alloc (.cells #[.string ⟨#[]⟩, .string ⟨#[]⟩, .string ⟨#[]⟩, .string ⟨#[]⟩, .string ⟨#[]⟩, .string ⟨#[]⟩, .string ⟨#[]⟩, .string ⟨#[]⟩] 31)).alloc (.cells #[.int .i64 0, .int .i64 0, .int .i64 0, .int .i64 0] 33)).alloc (.cells #[.string ⟨#[]⟩, .string ⟨#[]⟩, .string ⟨#[]⟩, .string ⟨#[]⟩, .string ⟨#[]⟩, .string ⟨#[]⟩, .string ⟨#[]⟩, .string ⟨#[]⟩] 31)).alloc (.cells #[.int .i64 0, .int .i64 0, .int .i64 0, .int .i64 0] 33)) (w.heap.size + 1 + 1) #[.string ⟨#[]⟩, .string ⟨#[]⟩, .string ⟨#[]⟩, .string ⟨#[]⟩, .string ⟨#[]⟩, .string ⟨#[]⟩, .string ⟨#[]⟩, .string ⟨#[]⟩] 31 from (((h2 ▸ CBlk.new ((w.alloc (.cells #[.string s1, .string s2] 23)).alloc (.cells #[.string s3, .string s4] 23)) #[.string ⟨#[]⟩, .string ⟨#[]⟩, .string ⟨#[]⟩, .string ⟨#[]⟩, .string ⟨#[]⟩, .string ⟨#[]⟩, .string ⟨#[]⟩, .string ⟨#[]⟩] 31 : CBlk (((w.alloc (.cells #[.string s1, .string s2] 23)).alloc (.cells #[.string s3, .string s4] 23)).alloc (.cells #[.string ⟨#[]⟩, .string ⟨#[]⟩, .string ⟨#[]⟩, .string ⟨#[]⟩, .string ⟨#[]⟩, .string ⟨#[]⟩, .string ⟨#[]⟩, .string ⟨#[]⟩] 31)) (w.heap.size + 1 + 1) #[.string ⟨#[]⟩, .string ⟨#[]⟩, .string ⟨#[]⟩, .string ⟨#[]⟩, .string ⟨#[]⟩, .string ⟨#[]⟩, .string ⟨#[]⟩, .string ⟨#[]⟩] 31).alloc _).alloc _).alloc _)
 have RE := Lib.hid (show CBlk ((((((w.alloc (.cells #[.string s1, .string s2] 23)).alloc (.cells #[.string s3, .string s4] 23)).alloc (.cells #[.string ⟨#[]⟩, .string ⟨#[]⟩, .string ⟨#[]⟩, .string ⟨#[]⟩, .string ⟨#[]⟩, .string ⟨#[]⟩, .string ⟨#[]⟩, .string ⟨#[]⟩] 31)).alloc (.cells #[.int .i64 0, .int .i64 0, .int .i64 0, .int .i64 0] 33)).alloc (.cells #[.string ⟨#[]⟩, .string ⟨#[]⟩, .string ⟨#[]⟩, .string ⟨#[]⟩, .string ⟨#[]⟩, .string ⟨#[]⟩, .string ⟨#[]⟩, .string ⟨#[]⟩] 31)).alloc (.cells #[.int .i64 0, .int .i64 0, .int .i64 0, .int .i64 0] 33)) (w.heap.size + 1 + 1 + 1) #[.int .i64 0, .int .i64 0, .int .i64 0, .int .i64 0] 33 from ((h3 ▸ CBlk.new (((w.alloc (.cells #[.string s1, .string s2] 23)).alloc (.cells #[.string s3, .string s4] 23)).alloc (.cells #[.string ⟨#[]⟩, .string ⟨#[]⟩, .string ⟨#[]⟩, .string ⟨#[]⟩, .string ⟨#[]⟩, .string ⟨#[]⟩, .string ⟨#[]⟩, .string ⟨#[]⟩] 31)) #[.int .i64 0, .int .i64 0, .int .i64 0, .int .i64 0] 33 : CBlk ((((w.alloc (.cells #[.string s1, .string s2] 23)).alloc (.cells #[.string s3, .string s4] 23)).alloc (.cells #[.string ⟨#[]⟩, .string ⟨#[]⟩, .string ⟨#[]⟩, .string ⟨#[]⟩, .string ⟨#[]⟩, .string ⟨#[]⟩, .string ⟨#[]⟩, .string ⟨#[]⟩] 31)).alloc (.cells #[.int .i64 0, .int .i64 0, .int .i64 0, .int .i64 0] 33)) (w.heap.size + 1 + 1 + 1) #[.int .i64 0, .int .i64 0, .int .i64 0, .int .i64 0] 33).alloc _).alloc _)
 have VR := Lib.hid (show CBlk ((((((w.alloc (.cells #[.string s1, .string s2] 23)).alloc (.cells #[.string s3, .string s4] 23)).alloc (.cells #[.string ⟨#[]⟩, .string ⟨#[]⟩, .string ⟨#[]⟩, .string ⟨#[]⟩, .string ⟨#[]⟩, .string ⟨#[]⟩, .string ⟨#[]⟩, .string ⟨#[]⟩] 31)).alloc (.cells #[.int .i64 0, .int .i64 0, .int .i64 0, .int .i64 0] 33)).alloc (.cells #[.string ⟨#[]⟩, .string ⟨#[]⟩, .string ⟨#[]⟩, .string ⟨#[]⟩, .string ⟨#[]⟩, .string ⟨#[]⟩, .string ⟨#[]⟩, .string ⟨#[]⟩] 31)).alloc (.cells #[.int .i64 0, .int .i64 0, .int .i64 0, .int .i64 0] 33)) (w.heap.size + 1 + 1 + 1 + 1) #[.string ⟨#[]⟩, .string ⟨#[]⟩, .string ⟨#[]⟩, .string ⟨#[]⟩, .string ⟨#[]⟩, .string ⟨#[]⟩, .string ⟨#[]⟩, .string ⟨#[]⟩] 31 from (h4 ▸ CBlk.new ((((w.alloc (.cells #[.string s1, .string s2] 23)).alloc (.cells #[.string s3, .string s4] 23)).alloc (.cells #[.string ⟨#[]⟩, .string ⟨#[]⟩, .string ⟨#[]⟩, .string ⟨#[]⟩, .string ⟨#[]⟩, .string ⟨#[]⟩, .string ⟨#[]⟩, .string ⟨#[]⟩] 31)).alloc (.cells #[.int .i64 0, .int .i64 0, .int .i64 0, .int .i64 0] 33)) #[.string ⟨#[]⟩, .string ⟨#[]⟩, .string ⟨#[]⟩, .string ⟨#[]⟩, .string ⟨#[]⟩, .string ⟨#[]⟩, .string ⟨#[]⟩, .string ⟨#[]⟩] 31 : CBlk (((((w.alloc (.cells #[.string s1, .string s2] 23)).alloc (.cells #[.string s3, .string s4] 23)).alloc (.cells #[.string ⟨#[]⟩, .string ⟨#[]⟩, .string ⟨#[]⟩, .string ⟨#[]⟩, .string ⟨#[]⟩, .string ⟨#[]⟩, .string ⟨#[]⟩, .string ⟨#[]⟩] 31)).alloc (.cells #[.int .i64 0, .int .i64 0, .int .i64 0, .int .i64 0] 33)).alloc (.cells #[.string ⟨#[]⟩, .string ⟨#[]⟩, .string ⟨#[]⟩, .string ⟨#[]⟩, .string ⟨#[]⟩, .string ⟨#[]⟩, .string ⟨#[]⟩, .string ⟨#[]⟩] 31)) (w.heap.size + 1 + 1 + 1 + 1) #[.string ⟨#[]⟩, .string ⟨#[]⟩, .string ⟨#[]⟩, .string ⟨#[]⟩, .string ⟨#[]⟩, .string ⟨#[]⟩, .string ⟨#[]⟩, .string ⟨#[]⟩] 31).alloc _)
 have VE := Lib.hid (show CBlk ((((((w.alloc (.cells #[.string s1, .string s2] 23)).alloc (.cells #[.string s3, .string s4] 23)).alloc (.cells #[.string ⟨#[]⟩, .string ⟨#[]⟩, .string ⟨#[]⟩, .string ⟨#[]⟩, .string ⟨#[]⟩, .string ⟨#[]⟩, .string ⟨#[]⟩, .string ⟨#[]⟩] 31)).alloc (.cells #[.int .i64 0, .int .i64 0, .int .i64 0, .int .i64 0] 33)).alloc (.cells #[.string ⟨#[]⟩, .string ⟨#[]⟩, .string ⟨#[]⟩, .string ⟨#[]⟩, .string ⟨#[]⟩, .string ⟨#[]⟩, .string ⟨#[]⟩, .string ⟨#[]⟩] 31)).alloc (.cells #[.int .i64 0, .int .i64 0, .int .i64 0, .int .i64 0] 33)) (w.heap.size + 1 + 1 + 1 + 1 + 1) #[.int .i64 0, .int .i64 0, .int .i64 0, .int .i64 0] 33 from (h5 ▸ CBlk.new (((((w.alloc (.cells #[.string s1, .string s2] 23)).alloc (.cells #[.string s3, .string s4] 23)).alloc (.cells #[.string ⟨#[]⟩, .string ⟨#[]⟩, .string ⟨#[]⟩, .string ⟨#[]⟩, .string ⟨#[]⟩, .string ⟨#[]⟩, .string ⟨#[]⟩, .string ⟨#[]⟩] 31)).alloc (.cells #[.int .i64 0, .int .i64 0, .int .i64 0, .int .i64 0] 33)).alloc (.cells #[.string ⟨#[]⟩, .string ⟨#[]⟩, .string ⟨#[]⟩, .string ⟨#[]⟩, .string ⟨#[]⟩, .string ⟨#[]⟩, .string ⟨#[]⟩, .string ⟨#[]⟩] 31)) #[.int .i64 0, .int .i64 0, .int .i64 0, .int .i64 0] 33 : CBlk ((((((w.alloc (.cells #[.string s1, .string s2] 23)).alloc (.cells #[.string s3, .string s4] 23)).alloc (.cells #[.string ⟨#[]⟩, .string ⟨#[]⟩, .string ⟨#[]⟩, .string ⟨#[]⟩, .string ⟨#[]⟩, .string ⟨#[]⟩, .string ⟨#[]⟩, .string ⟨#[]⟩] 31)).alloc (.cells #[.int .i64 0, .int .i64 0, .int .i64 0, .int .i64 0] 33)).alloc (.cells #[.string ⟨#[]⟩, .string ⟨#[]⟩, .string ⟨#[]⟩, .string ⟨#[]⟩, .string ⟨#[]⟩, .string ⟨#[]⟩, .string ⟨#[]⟩, .string ⟨#[]⟩] 31)).alloc (.cells #[.int .i64 0, .int .i64 0, .int .i64 0, .int .i64 0] 33)) (w.heap.size + 1 + 1 + 1 + 1 + 1) #[.int .i64 0, .int .i64 0, .int .i64 0, .int .i64 0] 33))
 have HB := Lib.hid ((((((below_alloc w (.cells #[.string s1, .string s2] 23)).alloc (by rw [World.size_alloc]; omega) (.cells #[.string s3, .string s4] 23)).alloc (by rw [h2]; omega) (.cells #[.string ⟨#[]⟩, .string ⟨#[]⟩, .string ⟨#[]⟩, .string ⟨#[]⟩, .string ⟨#[]⟩, .string ⟨#[]⟩, .string ⟨#[]⟩, .string ⟨#[]⟩] 31)).alloc (by rw [h3]; omega) (.cells #[.int .i64 0, .int .i64 0, .int .i64 0, .int .i64 0] 33)).alloc (by rw [h4]; omega) (.cells #[.string ⟨#[]⟩, .string ⟨#[]⟩, .string ⟨#[]⟩, .string ⟨#[]⟩, .string ⟨#[]⟩, .string ⟨#[]⟩, .string ⟨#[]⟩, .string ⟨#[]⟩] 31)).alloc (by rw [h5]; omega) (.cells #[.int .i64 0, .int .i64 0, .int .i64 0, .int .i64 0] 33))
 clear r1 r2 h2 h3 h4 h5
 have Ac0 := A.out.c0
 have Ac1 := A.out.c1
 have Bc0 := Bb.out.c0
 have Bc1 := Bb.out.c1
 go_enter Tryz.func15, Tryz.ntmps15
 go_wp2_with fail
 go_at_call 38
 refine (C0.out _).mono ?_
 rintro e W0 ⟨rfl, B⟩
 clear Ac0 Ac1 Bc0 Bc1
 have An := Lib.hid (A.out.keep B A.out.lt)
 have Bbn := Lib.hid (Bb.out.keep B Bb.out.lt)
 have RRn := Lib.hid (RR.out.keep B RR.out.lt)
 have REn := Lib.hid (RE.out.keep B RE.out.lt)
 have VRn := Lib.hid (VR.out.keep B VR.out.lt)
 have VEn := Lib.hid (VE.out.keep B VE.out.lt)
 have HBn := Lib.hid (HB.out.trans (B.mono HB.out.size))
 clear A Bb RR RE VR VE HB B
 have A := An
 have Bb := Bbn
 have RR := RRn
 have RE := REn
 have VR := VRn
 have VE := VEn
 have HB := HBn
 clear An Bbn RRn REn VRn VEn HBn
 have pc0 : (W0).cell? ⟨w.heap.size + 1 + 1 + 1 + 1, 0, none⟩ = some (.string ⟨#[]⟩) := (VR.out).c 0 rfl
 have pf0 := (VR.out).f 0
 have pb1 : (W0).cell? ⟨w.heap.size + 1 + 1 + 1 + 1, 1, none⟩ = some (.string ⟨#[]⟩) := (VR.out).c 1 rfl
 have pg1 := (VR.out).f 1
 have pc1 : (((W0).setCell ⟨w.heap.size + 1 + 1 + 1 + 1, 0, none⟩ (.string x0))).cell? ⟨w.heap.size + 1 + 1 + 1 + 1, 1, none⟩ = some (.string ⟨#[]⟩) := ((VR.out).set 0 (.string x0)).c 1 rfl
 have pf1 := ((VR.out).set 0 (.string x0)).f 1
 have VRn : Hid (CBlk ((((W0).setCell ⟨w.heap.size + 1 + 1 + 1 + 1, 0, none⟩ (.string x0))).setCell ⟨w.heap.size + 1 + 1 + 1 + 1, 1, none⟩ (.string y0)) (w.heap.size + 1 + 1 + 1 + 1) #[.string x0, .string y0, .string ⟨#[]⟩, .string ⟨#[]⟩, .string ⟨#[]⟩, .string ⟨#[]⟩, .string ⟨#[]⟩, .string ⟨#[]⟩] 31) := Lib.hid (((VR.out).set 0 (.string x0)).set 1 (.string y0))
 have An := Lib.hid ((A.out.other ⟨w.heap.size + 1 + 1 + 1 + 1, 0, none⟩ (.string x0) (by show w.heap.size ≠ w.heap.size + 1 + 1 + 1 + 1; omega)).other ⟨w.heap.size + 1 + 1 + 1 + 1, 1, none⟩ (.string y0) (by show w.heap.size ≠ w.heap.size + 1 + 1 + 1 + 1; omega))
 have Bbn := Lib.hid ((Bb.out.other ⟨w.heap.size + 1 + 1 + 1 + 1, 0, none⟩ (.string x0) (by show w.heap.size + 1 ≠ w.heap.size + 1 + 1 + 1 + 1; omega)).other ⟨w.heap.size + 1 + 1 + 1 + 1, 1, none⟩ (.string y0) (by show w.heap.size + 1 ≠ w.heap.size + 1 + 1 + 1 + 1; omega))
 have RRn := Lib.hid ((RR.out.other ⟨w.heap.size + 1 + 1 + 1 + 1, 0, none⟩ (.string x0) (by show w.heap.size + 1 + 1 ≠ w.heap.size + 1 + 1 + 1 + 1; omega)).other ⟨w.heap.size + 1 + 1 + 1 + 1, 1, none⟩ (.string y0) (by show w.heap.size + 1 + 1 ≠ w.heap.size + 1 + 1 + 1 + 1; omega))
 have REn := Lib.hid ((RE.out.other ⟨w.heap.size + 1 + 1 + 1 + 1, 0, none⟩ (.string x0) (by show w.heap.size + 1 + 1 + 1 ≠ w.heap.size + 1 + 1 + 1 + 1; omega)).other ⟨w.heap.size + 1 + 1 + 1 + 1, 1, none⟩ (.string y0) (by show w.heap.size + 1 + 1 + 1 ≠ w.heap.size + 1 + 1 + 1 + 1; omega))
 have VEn := Lib.hid ((VE.out.other ⟨w.heap.size + 1 + 1 + 1 + 1, 0, none⟩ (.string x0) (by show w.heap.size + 1 + 1 + 1 + 1 + 1 ≠ w.heap.size + 1 + 1 + 1 + 1; omega)).other ⟨w.heap.size + 1 + 1 + 1 + 1, 1, none⟩ (.string y0) (by show w.heap.size + 1 + 1 + 1 + 1 + 1 ≠ w.heap.size + 1 + 1 + 1 + 1; omega))
 have HBn := Lib.hid ((HB.out.setCell (p := ⟨w.heap.size + 1 + 1 + 1 + 1, 0, none⟩) (by show w.heap.size ≤ w.heap.size + 1 + 1 + 1 + 1; omega) (.string x0)).setCell (p := ⟨w.heap.size + 1 + 1 + 1 + 1, 1, none⟩) (by show w.heap.size ≤ w.heap.size + 1 + 1 + 1 + 1; omega) (.string y0))
 clear A Bb RR RE VR VE HB
 have A := An
 have Bb := Bbn
 have RR := RRn
 have RE := REn
 have VR := VRn
 have VE := VEn
 have HB := HBn
 clear An Bbn RRn REn VRn VEn HBn
 have qc0 : (((((W0).setCell ⟨w.heap.size + 1 + 1 + 1 + 1, 0, none⟩ (.string x0))).setCell ⟨w.heap.size + 1 + 1 + 1 + 1, 1, none⟩ (.string y0))).cell? ⟨w.heap.size + 1 + 1 + 1 + 1 + 1, 0, none⟩ = some (.int .i64 0) := (VE.out).c 0 rfl
 have qf0 := (VE.out).f 0
 have VEn : Hid (CBlk ((((((W0).setCell ⟨w.heap.size + 1 + 1 + 1 + 1, 0, none⟩ (.string x0))).setCell ⟨w.heap.size + 1 + 1 + 1 + 1, 1, none⟩ (.string y0))).setCell ⟨w.heap.size + 1 + 1 + 1 + 1 + 1, 0, none⟩ (.int .i64 e0)) (w.heap.size + 1 + 1 + 1 + 1 + 1) #[.int .i64 e0, .int .i64 0, .int .i64 0, .int .i64 0] 33) := Lib.hid ((VE.out).set 0 (.int .i64 e0))
 have An := Lib.hid (A.out.other ⟨w.heap.size + 1 + 1 + 1 + 1 + 1, 0, none⟩ (.int .i64 e0) (by show w.heap.size ≠ w.heap.size + 1 + 1 + 1 + 1 + 1; omega))
 have Bbn := Lib.hid (Bb.out.other ⟨w.heap.size + 1 + 1 + 1 + 1 + 1, 0, none⟩ (.int .i64 e0) (by show w.heap.size + 1 ≠ w.heap.size + 1 + 1 + 1 + 1 + 1; omega))
 have RRn := Lib.hid (RR.out.other ⟨w.heap.size + 1 + 1 + 1 + 1 + 1, 0, none⟩ (.int .i64 e0) (by show w.heap.size + 1 + 1 ≠ w.heap.size + 1 + 1 + 1 + 1 + 1; omega))
 have REn := Lib.hid (RE.out.other ⟨w.heap.size + 1 + 1 + 1 + 1 + 1, 0, none⟩ (.int .i64 e0) (by show w.heap.size + 1 + 1 + 1 ≠ w.heap.size + 1 + 1 + 1 + 1 + 1; omega))
 have VRn := Lib.hid (VR.out.other ⟨w.heap.size + 1 + 1 + 1 + 1 + 1, 0, none⟩ (.int .i64 e0) (by show w.heap.size + 1 + 1 + 1 + 1 ≠ w.heap.size + 1 + 1 + 1 + 1 + 1; omega))
 have HBn := Lib.hid (HB.out.setCell (p := ⟨w.heap.size + 1 + 1 + 1 + 1 + 1, 0, none⟩) (by show w.heap.size ≤ w.heap.size + 1 + 1 + 1 + 1 + 1; omega) (.int .i64 e0))
 clear A Bb RR RE VR VE HB
 have A := An
 have Bb := Bbn
 have RR := RRn
 have RE := REn
 have VR := VRn
 have VE := VEn
 have HB := HBn
 clear An Bbn RRn REn VRn VEn HBn
 have Ac0 := A.out.c0
 have Ac1 := A.out.c1
 have Bc0 := Bb.out.c0
 have Bc1 := Bb.out.c1
 go_wp2_with fail
 clear pc0 pf0 pb1 pg1 pc1 pf1 qc0 qf0
 go_at_call 40
 refine (C1.out _).mono ?_
 rintro e W1 ⟨rfl, B⟩
 clear Ac0 Ac1 Bc0 Bc1
 have An := Lib.hid (A.out.keep B A.out.lt)
 have Bbn := Lib.hid (Bb.out.keep B Bb.out.lt)
 have RRn := Lib.hid (RR.out.keep B RR.out.lt)
 have REn := Lib.hid (RE.out.keep B RE.out.lt)
 have VRn := Lib.hid (VR.out.keep B VR.out.lt)
 have VEn := Lib.hid (VE.out.keep B VE.out.lt)
 have HBn := Lib.hid (HB.out.trans (B.mono HB.out.size))
 clear A Bb RR RE VR VE HB B
 have A := An
 have Bb := Bbn
 have RR := RRn
 have RE := REn
 have VR := VRn
 have VE := VEn
 have HB := HBn
 clear An Bbn RRn REn VRn VEn HBn
 have pc0 : (W1).cell? ⟨w.heap.size + 1 + 1 + 1 + 1, 2, none⟩ = some (.string ⟨#[]⟩) := (VR.out).c 2 rfl
 have pf0 := (VR.out).f 2
 have pb1 : (W1).cell? ⟨w.heap.size + 1 + 1 + 1 + 1, 3, none⟩ = some (.string ⟨#[]⟩) := (VR.out).c 3 rfl
 have pg1 := (VR.out).f 3
 have pc1 : (((W1).setCell ⟨w.heap.size + 1 + 1 + 1 + 1, 2, none⟩ (.string x1))).cell? ⟨w.heap.size + 1 + 1 + 1 + 1, 3, none⟩ = some (.string ⟨#[]⟩) := ((VR.out).set 2 (.string x1)).c 3 rfl
 have pf1 := ((VR.out).set 2 (.string x1)).f 3
 have VRn : Hid (CBlk ((((W1).setCell ⟨w.heap.size + 1 + 1 + 1 + 1, 2, none⟩ (.string x1))).setCell ⟨w.heap.size + 1 + 1 + 1 + 1, 3, none⟩ (.string y1)) (w.heap.size + 1 + 1 + 1 + 1) #[.string x0, .string y0, .string x1, .string y1, .string ⟨#[]⟩, .string ⟨#[]⟩, .string ⟨#[]⟩, .string ⟨#[]⟩] 31) := Lib.hid (((VR.out).set 2 (.string x1)).set 3 (.string y1))
 have An := Lib.hid ((A.out.other ⟨w.heap.size + 1 + 1 + 1 + 1, 2, none⟩ (.string x1) (by show w.heap.size ≠ w.heap.size + 1 + 1 + 1 + 1; omega)).other ⟨w.heap.size + 1 + 1 + 1 + 1, 3, none⟩ (.string y1) (by show w.heap.size ≠ w.heap.size + 1 + 1 + 1 + 1; omega))
 have Bbn := Lib.hid ((Bb.out.other ⟨w.heap.size + 1 + 1 + 1 + 1, 2, none⟩ (.string x1) (by show w.heap.size + 1 ≠ w.heap.size + 1 + 1 + 1 + 1; omega)).other ⟨w.heap.size + 1 + 1 + 1 + 1, 3, none⟩ (.string y1) (by show w.heap.size + 1 ≠ w.heap.size + 1 + 1 + 1 + 1; omega))
 have RRn := Lib.hid ((RR.out.other ⟨w.heap.size + 1 + 1 + 1 + 1, 2, none⟩ (.string x1) (by show w.heap.size + 1 + 1 ≠ w.heap.size + 1 + 1 + 1 + 1; omega)).other ⟨w.heap.size + 1 + 1 + 1 + 1, 3, none⟩ (.string y1) (by show w.heap.size + 1 + 1 ≠ w.heap.size + 1 + 1 + 1 + 1; omega))
 have REn := Lib.hid ((RE.out.other ⟨w.heap.size + 1 + 1 + 1 + 1, 2, none⟩ (.string x1) (by show w.heap.size + 1 + 1 + 1 ≠ w.heap.size + 1 + 1 + 1 + 1; omega)).other ⟨w.heap.size + 1 + 1 + 1 + 1, 3, none⟩ (.string y1) (by show w.heap.size + 1 + 1 + 1 ≠ w.heap.size + 1 + 1 + 1 + 1; omega))
 have VEn := Lib.hid ((VE.out.other ⟨w.heap.size + 1 + 1 + 1 + 1, 2, none⟩ (.string x1) (by show w.heap.size + 1 + 1 + 1 + 1 + 1 ≠ w.heap.size + 1 + 1 + 1 + 1; omega)).other ⟨w.heap.size + 1 + 1 + 1 + 1, 3, none⟩ (.string y1) (by show w.heap.size + 1 + 1 + 1 + 1 + 1 ≠ w.heap.size + 1 + 1 + 1 + 1; omega))
 have HBn := Lib.hid ((HB.out.setCell (p := ⟨w.heap.size + 1 + 1 + 1 + 1, 2, none⟩) (by show w.heap.size ≤ w.heap.size + 1 + 1 + 1 + 1; omega) (.string x1)).setCell (p := ⟨w.heap.size + 1 + 1 + 1 + 1, 3, none⟩) (by show w.heap.size ≤ w.heap.size + 1 + 1 + 1 + 1; omega) (.string y1))
 clear A Bb RR RE VR VE HB
 have A := An
 have Bb := Bbn
 have RR := RRn
 have RE := REn
 have VR := VRn
 have VE := VEn
 have HB := HBn
 clear An Bbn RRn REn VRn VEn HBn
 have qc0 : (((((W1).setCell ⟨w.heap.size + 1 + 1 + 1 + 1, 2, none⟩ (.string x1))).setCell ⟨w.heap.size + 1 + 1 + 1 + 1, 3, none⟩ (.string y1))).cell? ⟨w.heap.size + 1 + 1 + 1 + 1 + 1, 1, none⟩ = some (.int .i64 0) := (VE.out).c 1 rfl
 have qf0 := (VE.out).f 1
 have VEn : Hid (CBlk ((((((W1).setCell ⟨w.heap.size + 1 + 1 + 1 + 1, 2, none⟩ (.string x1))).setCell ⟨w.heap.size + 1 + 1 + 1 + 1, 3, none⟩ (.string y1))).setCell ⟨w.heap.size + 1 + 1 + 1 + 1 + 1, 1, none⟩ (.int .i64 e1)) (w.heap.size + 1 + 1 + 1 + 1 + 1) #[.int .i64 e0, .int .i64 e1, .int .i64 0, .int .i64 0] 33) := Lib.hid ((VE.out).set 1 (.int .i64 e1))
 have An := Lib.hid (A.out.other ⟨w.heap.size + 1 + 1 + 1 + 1 + 1, 1, none⟩ (.int .i64 e1) (by show w.heap.size ≠ w.heap.size + 1 + 1 + 1 + 1 + 1; omega))
 have Bbn := Lib.hid (Bb.out.other ⟨w.heap.size + 1 + 1 + 1 + 1 + 1, 1, none⟩ (.int .i64 e1) (by show w.heap.size + 1 ≠ w.heap.size + 1 + 1 + 1 + 1 + 1; omega))
 have RRn := Lib.hid (RR.out.other ⟨w.heap.size + 1 + 1 + 1 + 1 + 1, 1, none⟩ (.int .i64 e1) (by show w.heap.size + 1 + 1 ≠ w.heap.size + 1 + 1 + 1 + 1 + 1; omega))
 have REn := Lib.hid (RE.out.other ⟨w.heap.size + 1 + 1 + 1 + 1 + 1, 1, none⟩ (.int .i64 e1) (by show w.heap.size + 1 + 1 + 1 ≠ w.heap.size + 1 + 1 + 1 + 1 + 1; omega))
 have VRn := Lib.hid (VR.out.other ⟨w.heap.size + 1 + 1 + 1 + 1 + 1, 1, none⟩ (.int .i64 e1) (by show w.heap.size + 1 + 1 + 1 + 1 ≠ w.heap.size + 1 + 1 + 1 + 1 + 1; omega))
 have HBn := Lib.hid (HB.out.setCell (p := ⟨w.heap.size + 1 + 1 + 1 + 1 + 1, 1, none⟩) (by show w.heap.size ≤ w.heap.size + 1 + 1 + 1 + 1 + 1; omega) (.int .i64 e1))
 clear A Bb RR RE VR VE HB
 have A := An
 have Bb := Bbn
 have RR := RRn
 have RE := REn
 have VR := VRn
 have VE := VEn
 have HB := HBn
 clear An Bbn RRn REn VRn VEn HBn
 have Ac0 := A.out.c0
 have Ac1 := A.out.c1
 have Bc0 := Bb.out.c0
 have Bc1 := Bb.out.c1
 go_wp2_with fail
 clear pc0 pf0 pb1 pg1 pc1 pf1 qc0 qf0
 go_at_call 39
 refine (C2.out _).mono ?_
 rintro e W2 ⟨rfl, B⟩
 clear Ac0 Ac1 Bc0 Bc1
 have An := Lib.hid (A.out.keep B A.out.lt)
 have Bbn := Lib.hid (Bb.out.keep B Bb.out.lt)
 have RRn := Lib.hid (RR.out.keep B RR.out.lt)
 have REn := Lib.hid (RE.out.keep B RE.out.lt)
 have VRn := Lib.hid (VR.out.keep B VR.out.lt)
 have VEn := Lib.hid (VE.out.keep B VE.out.lt)
 have HBn := Lib.hid (HB.out.trans (B.mono HB.out.size))
 clear A Bb RR RE VR VE HB B
 have A := An
 have Bb := Bbn
 have RR := RRn
 have RE := REn
 have VR := VRn
 have VE := VEn
 have HB := HBn
 clear An Bbn RRn REn VRn VEn HBn
 have pc0 : (W2).cell? ⟨w.heap.size + 1 + 1 + 1 + 1, 4, none⟩ = some (.string ⟨#[]⟩) := (VR.out).c 4 rfl
 have pf0 := (VR.out).f 4
 have pb1 : (W2).cell? ⟨w.heap.size + 1 + 1 + 1 + 1, 5, none⟩ = some (.string ⟨#[]⟩) := (VR.out).c 5 rfl
 have pg1 := (VR.out).f 5
 have pc1 : (((W2).setCell ⟨w.heap.size + 1 + 1 + 1 + 1, 4, none⟩ (.string x2))).cell? ⟨w.heap.size + 1 + 1 + 1 + 1, 5, none⟩ = some (.string ⟨#[]⟩) := ((VR.out).set 4 (.string x2)).c 5 rfl
 have pf1 := ((VR.out).set 4 (.string x2)).f 5
 have VRn : Hid (CBlk ((((W2).setCell ⟨w.heap.size + 1 + 1 + 1 + 1, 4, none⟩ (.string x2))).setCell ⟨w.heap.size + 1 + 1 + 1 + 1, 5, none⟩ (.string y2)) (w.heap.size + 1 + 1 + 1 + 1) #[.string x0, .string y0, .string x1, .string y1, .string x2, .string y2, .string ⟨#[]⟩, .string ⟨#[]⟩] 31) := Lib.hid (((VR.out).set 4 (.string x2)).set 5 (.string y2))
 have An := Lib.hid ((A.out.other ⟨w.heap.size + 1 + 1 + 1 + 1, 4, none⟩ (.string x2) (by show w.heap.size ≠ w.heap.size + 1 + 1 + 1 + 1; omega)).other ⟨w.heap.size + 1 + 1 + 1 + 1, 5, none⟩ (.string y2) (by show w.heap.size ≠ w.heap.size + 1 + 1 + 1 + 1; omega))
 have Bbn := Lib.hid ((Bb.out.other ⟨w.heap.size + 1 + 1 + 1 + 1, 4, none⟩ (.string x2) (by show w.heap.size + 1 ≠ w.heap.size + 1 + 1 + 1 + 1; omega)).other ⟨w.heap.size + 1 + 1 + 1 + 1, 5, none⟩ (.string y2) (by show w.heap.size + 1 ≠ w.heap.size + 1 + 1 + 1 + 1; omega))
 have RRn := Lib.hid ((RR.out.other ⟨w.heap.size + 1 + 1 + 1 + 1, 4, none⟩ (.string x2) (by show w.heap.size + 1 + 1 ≠ w.heap.size + 1 + 1 + 1 + 1; omega)).other ⟨w.heap.size + 1 + 1 + 1 + 1, 5, none⟩ (.string y2) (by show w.heap.size + 1 + 1 ≠ w.heap.size + 1 + 1 + 1 + 1; omega))
 have REn := Lib.hid ((RE.out.other ⟨w.heap.size + 1 + 1 + 1 + 1, 4, none⟩ (.string x2) (by show w.heap.size + 1 + 1 + 1 ≠ w.heap.size + 1 + 1 + 1 + 1; omega)).other ⟨w.heap.size + 1 + 1 + 1 + 1, 5, none⟩ (.string y2) (by show w.heap.size + 1 + 1 + 1 ≠ w.heap.size + 1 + 1 + 1 + 1; omega))
 have VEn := Lib.hid ((VE.out.other ⟨w.heap.size + 1 + 1 + 1 + 1, 4, none⟩ (.string x2) (by show w.heap.size + 1 + 1 + 1 + 1 + 1 ≠ w.heap.size + 1 + 1 + 1 + 1; omega)).other ⟨w.heap.size + 1 + 1 + 1 + 1, 5, none⟩ (.string y2) (by show w.heap.size + 1 + 1 + 1 + 1 + 1 ≠ w.heap.size + 1 + 1 + 1 + 1; omega))
 have HBn := Lib.hid ((HB.out.setCell (p := ⟨w.heap.size + 1 + 1 + 1 + 1, 4, none⟩) (by show w.heap.size ≤ w.heap.size + 1 + 1 + 1 + 1; omega) (.string x2)).setCell (p := ⟨w.heap.size + 1 + 1 + 1 + 1, 5, none⟩) (by show w.heap.size ≤ w.heap.size + 1 + 1 + 1 + 1; omega) (.string y2))
 clear A Bb RR RE VR VE HB
 have A := An
 have Bb := Bbn
 have RR := RRn
 have RE := REn
 have VR := VRn
 have VE := VEn
 have HB := HBn
 clear An Bbn RRn REn VRn VEn HBn
 have qc0 : (((((W2).setCell ⟨w.heap.size + 1 + 1 + 1 + 1, 4, none⟩ (.string x2))).setCell ⟨w.heap.size + 1 + 1 + 1 + 1, 5, none⟩ (.string y2))).cell? ⟨w.heap.size + 1 + 1 + 1 + 1 + 1, 2, none⟩ = some (.int .i64 0) := (VE.out).c 2 rfl
 have qf0 := (VE.out).f 2
 have VEn : Hid (CBlk ((((((W2).setCell ⟨w.heap.size + 1 + 1 + 1 + 1, 4, none⟩ (.string x2))).setCell ⟨w.heap.size + 1 + 1 + 1 + 1, 5, none⟩ (.string y2))).setCell ⟨w.heap.size + 1 + 1 + 1 + 1 + 1, 2, none⟩ (.int .i64 e2)) (w.heap.size + 1 + 1 + 1 + 1 + 1) #[.int .i64 e0, .int .i64 e1, .int .i64 e2, .int .i64 0] 33) := Lib.hid ((VE.out).set 2 (.int .i64 e2))
 have An := Lib.hid (A.out.other ⟨w.heap.size + 1 + 1 + 1 + 1 + 1, 2, none⟩ (.int .i64 e2) (by show w.heap.size ≠ w.heap.size + 1 + 1 + 1 + 1 + 1; omega))
 have Bbn := Lib.hid (Bb.out.other ⟨w.heap.size + 1 + 1 + 1 + 1 + 1, 2, none⟩ (.int .i64 e2) (by show w.heap.size + 1 ≠ w.heap.size + 1 + 1 + 1 + 1 + 1; omega))
 have RRn := Lib.hid (RR.out.other ⟨w.heap.size + 1 + 1 + 1 + 1 + 1, 2, none⟩ (.int .i64 e2) (by show w.heap.size + 1 + 1 ≠ w.heap.size + 1 + 1 + 1 + 1 + 1; omega))
 have REn := Lib.hid (RE.out.other ⟨w.heap.size + 1 + 1 + 1 + 1 + 1, 2, none⟩ (.int .i64 e2) (by show w.heap.size + 1 + 1 + 1 ≠ w.heap.size + 1 + 1 + 1 + 1 + 1; omega))
 have VRn := Lib.hid (VR.out.other ⟨w.heap.size + 1 + 1 + 1 + 1 + 1, 2, none⟩ (.int .i64 e2) (by show w.heap.size + 1 + 1 + 1 + 1 ≠ w.heap.size + 1 + 1 + 1 + 1 + 1; omega))
 have HBn := Lib.hid (HB.out.setCell (p := ⟨w.heap.size + 1 + 1 + 1 + 1 + 1, 2, none⟩) (by show w.heap.size ≤ w.heap.size + 1 + 1 + 1 + 1 + 1; omega) (.int .i64 e2))
 clear A Bb RR RE VR VE HB
 have A := An
 have Bb := Bbn
 have RR := RRn
 have RE := REn
 have VR := VRn
 have VE := VEn
 have HB := HBn
 clear An Bbn RRn REn VRn VEn HBn
 have Ac0 := A.out.c0
 have Ac1 := A.out.c1
 have Bc0 := Bb.out.c0
 have Bc1 := Bb.out.c1
 go_wp2_with fail
 clear pc0 pf0 pb1 pg1 pc1 pf1 qc0 qf0
 go_at_call 45
 refine (C3.out _).mono ?_
 rintro e W3 ⟨rfl, B⟩
 clear Ac0 Ac1 Bc0 Bc1
 have An := Lib.hid (A.out.keep B A.out.lt)
 have Bbn := Lib.hid (Bb.out.keep B Bb.out.lt)
 have RRn := Lib.hid (RR.out.keep B RR.out.lt)
 have REn := Lib.hid (RE.out.keep B RE.out.lt)
 have VRn := Lib.hid (VR.out.keep B VR.out.lt)
 have VEn := Lib.hid (VE.out.keep B VE.out.lt)
 have HBn := Lib.hid (HB.out.trans (B.mono HB.out.size))
 clear A Bb RR RE VR VE HB B
 have A := An
 have Bb := Bbn
 have RR := RRn
 have RE := REn
 have VR := VRn
 have VE := VEn
 have HB := HBn
 clear An Bbn RRn REn VRn VEn HBn
 have pc0 : (W3).cell? ⟨w.heap.size + 1 + 1 + 1 + 1, 6, none⟩ = some (.string ⟨#[]⟩) := (VR.out).c 6 rfl
 have pf0 := (VR.out).f 6
 have pb1 : (W3).cell? ⟨w.heap.size + 1 + 1 + 1 + 1, 7, none⟩ = some (.string ⟨#[]⟩) := (VR.out).c 7 rfl
 have pg1 := (VR.out).f 7
 have pc1 : (((W3).setCell ⟨w.heap.size + 1 + 1 + 1 + 1, 6, none⟩ (.string x3))).cell? ⟨w.heap.size + 1 + 1 + 1 + 1, 7, none⟩ = some (.string ⟨#[]⟩) := ((VR.out).set 6 (.string x3)).c 7 rfl
 have pf1 := ((VR.out).set 6 (.string x3)).f 7
 have VRn : Hid (CBlk ((((W3).setCell ⟨w.heap.size + 1 + 1 + 1 + 1, 6, none⟩ (.string x3))).setCell ⟨w.heap.size + 1 + 1 + 1 + 1, 7, none⟩ (.string y3)) (w.heap.size + 1 + 1 + 1 + 1) #[.string x0, .string y0, .string x1, .string y1, .string x2, .string y2, .string x3, .string y3] 31) := Lib.hid (((VR.out).set 6 (.string x3)).set 7 (.string y3))
 have An := Lib.hid ((A.out.other ⟨w.heap.size + 1 + 1 + 1 + 1, 6, none⟩ (.string x3) (by show w.heap.size ≠ w.heap.size + 1 + 1 + 1 + 1; omega)).other ⟨w.heap.size + 1 + 1 + 1 + 1, 7, none⟩ (.string y3) (by show w.heap.size ≠ w.heap.size + 1 + 1 + 1 + 1; omega))
 have Bbn := Lib.hid ((Bb.out.other ⟨w.heap.size + 1 + 1 + 1 + 1, 6, none⟩ (.string x3) (by show w.heap.size + 1 ≠ w.heap.size + 1 + 1 + 1 + 1; omega)).other ⟨w.heap.size + 1 + 1 + 1 + 1, 7, none⟩ (.string y3) (by show w.heap.size + 1 ≠ w.heap.size + 1 + 1 + 1 + 1; omega))
 have RRn := Lib.hid ((RR.out.other ⟨w.heap.size + 1 + 1 + 1 + 1, 6, none⟩ (.string x3) (by show w.heap.size + 1 + 1 ≠ w.heap.size + 1 + 1 + 1 + 1; omega)).other ⟨w.heap.size + 1 + 1 + 1 + 1, 7, none⟩ (.string y3) (by show w.heap.size + 1 + 1 ≠ w.heap.size + 1 + 1 + 1 + 1; omega))
 have REn := Lib.hid ((RE.out.other ⟨w.heap.size + 1 + 1 + 1 + 1, 6, none⟩ (.string x3) (by show w.heap.size + 1 + 1 + 1 ≠ w.heap.size + 1 + 1 + 1 + 1; omega)).other ⟨w.heap.size + 1 + 1 + 1 + 1, 7, none⟩ (.string y3) (by show w.heap.size + 1 + 1 + 1 ≠ w.heap.size + 1 + 1 + 1 + 1; omega))
 have VEn := Lib.hid ((VE.out.other ⟨w.heap.size + 1 + 1 + 1 + 1, 6, none⟩ (.string x3) (by show w.heap.size + 1 + 1 + 1 + 1 + 1 ≠ w.heap.size + 1 + 1 + 1 + 1; omega)).other ⟨w.heap.size + 1 + 1 + 1 + 1, 7, none⟩ (.string y3) (by show w.heap.size + 1 + 1 + 1 + 1 + 1 ≠ w.heap.size + 1 + 1 + 1 + 1; omega))
 have HBn := Lib.hid ((HB.out.setCell (p := ⟨w.heap.size + 1 + 1 + 1 + 1, 6, none⟩) (by show w.heap.size ≤ w.heap.size + 1 + 1 + 1 + 1; omega) (.string x3)).setCell (p := ⟨w.heap.size + 1 + 1 + 1 + 1, 7, none⟩) (by show w.heap.size ≤ w.heap.size + 1 + 1 + 1 + 1; omega) (.string y3))
 clear A Bb RR RE VR VE HB
 have A := An
 have Bb := Bbn
 have RR := RRn
 have RE := REn
 have VR := VRn
 have VE := VEn
 have HB := HBn
 clear An Bbn RRn REn VRn VEn HBn
 have qc0 : (((((W3).setCell ⟨w.heap.size + 1 + 1 + 1 + 1, 6, none⟩ (.string x3))).setCell ⟨w.heap.size + 1 + 1 + 1 + 1, 7, none⟩ (.string y3))).cell? ⟨w.heap.size + 1 + 1 + 1 + 1 + 1, 3, none⟩ = some (.int .i64 0) := (VE.out).c 3 rfl
 have qf0 := (VE.out).f 3
 have VEn : Hid (CBlk ((((((W3).setCell ⟨w.heap.size + 1 + 1 + 1 + 1, 6, none⟩ (.string x3))).setCell ⟨w.heap.size + 1 + 1 + 1 + 1, 7, none⟩ (.string y3))).setCell ⟨w.heap.size + 1 + 1 + 1 + 1 + 1, 3, none⟩ (.int .i64 e3)) (w.heap.size + 1 + 1 + 1 + 1 + 1) #[.int .i64 e0, .int .i64 e1, .int .i64 e2, .int .i64 e3] 33) := Lib.hid ((VE.out).set 3 (.int .i64 e3))
 have An := Lib.hid (A.out.other ⟨w.heap.size + 1 + 1 + 1 + 1 + 1, 3, none⟩ (.int .i64 e3) (by show w.heap.size ≠ w.heap.size + 1 + 1 + 1 + 1 + 1; omega))
 have Bbn := Lib.hid (Bb.out.other ⟨w.heap.size + 1 + 1 + 1 + 1 + 1, 3, none⟩ (.int .i64 e3) (by show w.heap.size + 1 ≠ w.heap.size + 1 + 1 + 1 + 1 + 1; omega))
 have RRn := Lib.hid (RR.out.other ⟨w.heap.size + 1 + 1 + 1 + 1 + 1, 3, none⟩ (.int .i64 e3) (by show w.heap.size + 1 + 1 ≠ w.heap.size + 1 + 1 + 1 + 1 + 1; omega))
 have REn := Lib.hid (RE.out.other ⟨w.heap.size + 1 + 1 + 1 + 1 + 1, 3, none⟩ (.int .i64 e3) (by show w.heap.size + 1 + 1 + 1 ≠ w.heap.size + 1 + 1 + 1 + 1 + 1; omega))
 have VRn := Lib.hid (VR.out.other ⟨w.heap.size + 1 + 1 + 1 + 1 + 1, 3, none⟩ (.int .i64 e3) (by show w.heap.size + 1 + 1 + 1 + 1 ≠ w.heap.size + 1 + 1 + 1 + 1 + 1; omega))
 have HBn := Lib.hid (HB.out.setCell (p := ⟨w.heap.size + 1 + 1 + 1 + 1 + 1, 3, none⟩) (by show w.heap.size ≤ w.heap.size + 1 + 1 + 1 + 1 + 1; omega) (.int .i64 e3))
 clear A Bb RR RE VR VE HB
 have A := An
 have Bb := Bbn
 have RR := RRn
 have RE := REn
 have VR := VRn
 have VE := VEn
 have HB := HBn
 clear An Bbn RRn REn VRn VEn HBn
 have Ac0 := A.out.c0
 have Ac1 := A.out.c1
 have Bc0 := Bb.out.c0
 have Bc1 := Bb.out.c1
 go_wp2_with fail
 clear pc0 pf0 pb1 pg1 pc1 pf1 qc0 qf0
 obtain ⟨WF, hWF⟩ : ∃ W, W = ((((((W3).setCell ⟨w.heap.size + 1 + 1 + 1 + 1, 6, none⟩ (.string x3))).setCell ⟨w.heap.size + 1 + 1 + 1 + 1, 7, none⟩ (.string y3))).setCell ⟨w.heap.size + 1 + 1 + 1 + 1 + 1, 3, none⟩ (.int .i64 e3)) := ⟨_, rfl⟩
 rw [← hWF]
 rw [← hWF] at VR VE RR RE HB
 clear A Bb Ac0 Ac1 Bc0 Bc1 hWF
 refine wp_region_noPanic ?_
 refine wp_region_held_drew (S := fun W => CBlk W (w.heap.size + 1 + 1 + 1 + 1) #[.string x0, .string y0, .string x1, .string y1, .string x2, .string y2, .string x3, .string y3] 31 ∧ CBlk W (w.heap.size + 1 + 1 + 1 + 1 + 1) #[.int .i64 e0, .int .i64 e1, .int .i64 e2, .int .i64 e3] 33) (by kernel_rfl) ?_ (fun hHeld => ?_)
 ·
  exact ⟨VR.out, VE.out⟩
 refine wpAnyH_take (i := 0) (oi := ({ dst := some 40, op := .load 31 (.tmp 6), type := 31, pos := "law.go:57", after := #[], guard := none } : Oper)) (v := ?v0_1) rfl (by kernel_rfl) (by kernel_rfl) (by kernel_rfl) (fun _ _ _ h => h) (Or.inl ⟨by rfl, ?hy0_1⟩) (by assumption) ?re0_1
 case hy0_1 => ((intro w hSw; have u0 := hSw.1.c 0 rfl; have u1 := hSw.1.c 1 rfl; have u2 := hSw.1.c 2 rfl; have u3 := hSw.1.c 3 rfl; have u4 := hSw.1.c 4 rfl; have u5 := hSw.1.c 5 rfl; have u6 := hSw.1.c 6 rfl; have u7 := hSw.1.c 7 rfl; have v0 := hSw.2.c 0 rfl; have v1 := hSw.2.c 1 rfl; have v2 := hSw.2.c 2 rfl; have v3 := hSw.2.c 3 rfl; go_simp) <;> with_reducible rfl)
 (try simp only [Act.put, List.setIfInBounds_toArray, List.set_cons_zero, List.set_cons_succ])
 refine wpAnyH_take (i := 1) (oi := ({ dst := some 41, op := .load 33 (.tmp 7), type := 33, pos := "law.go:57", after := #[⟨2, .gcOnly .lateStores⟩], guard := none } : Oper)) (v := ?v1_2) rfl (by kernel_rfl) (by kernel_rfl) (by kernel_rfl) (fun _ _ _ h => h) (Or.inl ⟨by rfl, ?hy1_2⟩) (by assumption) ?re1_2
 case hy1_2 => ((intro w hSw; have u0 := hSw.1.c 0 rfl; have u1 := hSw.1.c 1 rfl; have u2 := hSw.1.c 2 rfl; have u3 := hSw.1.c 3 rfl; have u4 := hSw.1.c 4 rfl; have u5 := hSw.1.c 5 rfl; have u6 := hSw.1.c 6 rfl; have u7 := hSw.1.c 7 rfl; have v0 := hSw.2.c 0 rfl; have v1 := hSw.2.c 1 rfl; have v2 := hSw.2.c 2 rfl; have v3 := hSw.2.c 3 rfl; go_simp) <;> with_reducible rfl)
 (try simp only [Act.put, List.setIfInBounds_toArray, List.set_cons_zero, List.set_cons_succ])
 refine wpAnyH_ready (rs := [2]) (by kernel_rfl) (by simp) ?_
 refine AllReadyH.cons (o := ({ dst := none, op := .store 31 (.tmp 4) (.tmp 40), type := 0, pos := "law.go:57", after := #[⟨0, .data⟩, ⟨0, .phase⟩, ⟨1, .textOnly .lateStores⟩], guard := none } : Oper)) rfl (fun K hK => ?_) ?_
 ·
  have pc0 : (WF).cell? ⟨w.heap.size + 1 + 1, 0, none⟩ = some (.string ⟨#[]⟩) := (RR.out).c 0 rfl
  have pf0 := (RR.out).f 0
  have pb1 : (WF).cell? ⟨w.heap.size + 1 + 1, 1, none⟩ = some (.string ⟨#[]⟩) := (RR.out).c 1 rfl
  have pg1 := (RR.out).f 1
  have pb2 : (WF).cell? ⟨w.heap.size + 1 + 1, 2, none⟩ = some (.string ⟨#[]⟩) := (RR.out).c 2 rfl
  have pg2 := (RR.out).f 2
  have pb3 : (WF).cell? ⟨w.heap.size + 1 + 1, 3, none⟩ = some (.string ⟨#[]⟩) := (RR.out).c 3 rfl
  have pg3 := (RR.out).f 3
  have pb4 : (WF).cell? ⟨w.heap.size + 1 + 1, 4, none⟩ = some (.string ⟨#[]⟩) := (RR.out).c 4 rfl
  have pg4 := (RR.out).f 4
  have pb5 : (WF).cell? ⟨w.heap.size + 1 + 1, 5, none⟩ = some (.string ⟨#[]⟩) := (RR.out).c 5 rfl
  have pg5 := (RR.out).f 5
  have pb6 : (WF).cell? ⟨w.heap.size + 1 + 1, 6, none⟩ = some (.string ⟨#[]⟩) := (RR.out).c 6 rfl
  have pg6 := (RR.out).f 6
  have pb7 : (WF).cell? ⟨w.heap.size + 1 + 1, 7, none⟩ = some (.string ⟨#[]⟩) := (RR.out).c 7 rfl
  have pg7 := (RR.out).f 7
  have pc1 : (((WF).setCell ⟨w.heap.size + 1 + 1, 0, none⟩ (.string x0))).cell? ⟨w.heap.size + 1 + 1, 1, none⟩ = some (.string ⟨#[]⟩) := ((RR.out).set 0 (.string x0)).c 1 rfl
  have pf1 := ((RR.out).set 0 (.string x0)).f 1
  have pc2 : (((((WF).setCell ⟨w.heap.size + 1 + 1, 0, none⟩ (.string x0))).setCell ⟨w.heap.size + 1 + 1, 1, none⟩ (.string y0))).cell? ⟨w.heap.size + 1 + 1, 2, none⟩ = some (.string ⟨#[]⟩) := (((RR.out).set 0 (.string x0)).set 1 (.string y0)).c 2 rfl
  have pf2 := (((RR.out).set 0 (.string x0)).set 1 (.string y0)).f 2
  have pc3 : (((((((WF).setCell ⟨w.heap.size + 1 + 1, 0, none⟩ (.string x0))).setCell ⟨w.heap.size + 1 + 1, 1, none⟩ (.string y0))).setCell ⟨w.heap.size + 1 + 1, 2, none⟩ (.string x1))).cell? ⟨w.heap.size + 1 + 1, 3, none⟩ = some (.string ⟨#[]⟩) := ((((RR.out).set 0 (.string x0)).set 1 (.string y0)).set 2 (.string x1)).c 3 rfl
  have pf3 := ((((RR.out).set 0 (.string x0)).set 1 (.string y0)).set 2 (.string x1)).f 3
  have pc4 : (((((((((WF).setCell ⟨w.heap.size + 1 + 1, 0, none⟩ (.string x0))).setCell ⟨w.heap.size + 1 + 1, 1, none⟩ (.string y0))).setCell ⟨w.heap.size + 1 + 1, 2, none⟩ (.string x1))).setCell ⟨w.heap.size + 1 + 1, 3, none⟩ (.string y1))).cell? ⟨w.heap.size + 1 + 1, 4, none⟩ = some (.string ⟨#[]⟩) := (((((RR.out).set 0 (.string x0)).set 1 (.string y0)).set 2 (.string x1)).set 3 (.string y1)).c 4 rfl
  have pf4 := (((((RR.out).set 0 (.string x0)).set 1 (.string y0)).set 2 (.string x1)).set 3 (.string y1)).f 4
  have pc5 : (((((((((((WF).setCell ⟨w.heap.size + 1 + 1, 0, none⟩ (.string x0))).setCell ⟨w.heap.size + 1 + 1, 1, none⟩ (.string y0))).setCell ⟨w.heap.size + 1 + 1, 2, none⟩ (.string x1))).setCell ⟨w.heap.size + 1 + 1, 3, none⟩ (.string y1))).setCell ⟨w.heap.size + 1 + 1, 4, none⟩ (.string x2))).cell? ⟨w.heap.size + 1 + 1, 5, none⟩ = some (.string ⟨#[]⟩) := ((((((RR.out).set 0 (.string x0)).set 1 (.string y0)).set 2 (.string x1)).set 3 (.string y1)).set 4 (.string x2)).c 5 rfl
  have pf5 := ((((((RR.out).set 0 (.string x0)).set 1 (.string y0)).set 2 (.string x1)).set 3 (.string y1)).set 4 (.string x2)).f 5
  have pc6 : (((((((((((((WF).setCell ⟨w.heap.size + 1 + 1, 0, none⟩ (.string x0))).setCell ⟨w.heap.size + 1 + 1, 1, none⟩ (.string y0))).setCell ⟨w.heap.size + 1 + 1, 2, none⟩ (.string x1))).setCell ⟨w.heap.size + 1 + 1, 3, none⟩ (.string y1))).setCell ⟨w.heap.size + 1 + 1, 4, none⟩ (.string x2))).setCell ⟨w.heap.size + 1 + 1, 5, none⟩ (.string y2))).cell? ⟨w.heap.size + 1 + 1, 6, none⟩ = some (.string ⟨#[]⟩) := (((((((RR.out).set 0 (.string x0)).set 1 (.string y0)).set 2 (.string x1)).set 3 (.string y1)).set 4 (.string x2)).set 5 (.string y2)).c 6 rfl
  have pf6 := (((((((RR.out).set 0 (.string x0)).set 1 (.string y0)).set 2 (.string x1)).set 3 (.string y1)).set 4 (.string x2)).set 5 (.string y2)).f 6
  have pc7 : (((((((((((((((WF).setCell ⟨w.heap.size + 1 + 1, 0, none⟩ (.string x0))).setCell ⟨w.heap.size + 1 + 1, 1, none⟩ (.string y0))).setCell ⟨w.heap.size + 1 + 1, 2, none⟩ (.string x1))).setCell ⟨w.heap.size + 1 + 1, 3, none⟩ (.string y1))).setCell ⟨w.heap.size + 1 + 1, 4, none⟩ (.string x2))).setCell ⟨w.heap.size + 1 + 1, 5, none⟩ (.string y2))).setCell ⟨w.heap.size + 1 + 1, 6, none⟩ (.string x3))).cell? ⟨w.heap.size + 1 + 1, 7, none⟩ = some (.string ⟨#[]⟩) := ((((((((RR.out).set 0 (.string x0)).set 1 (.string y0)).set 2 (.string x1)).set 3 (.string y1)).set 4 (.string x2)).set 5 (.string y2)).set 6 (.string x3)).c 7 rfl
  have pf7 := ((((((((RR.out).set 0 (.string x0)).set 1 (.string y0)).set 2 (.string x1)).set 3 (.string y1)).set 4 (.string x2)).set 5 (.string y2)).set 6 (.string x3)).f 7
  go_simp
  obtain ⟨WG, hWG⟩ : ∃ W, W = ((((((((((((((((WF).setCell ⟨w.heap.size + 1 + 1, 0, none⟩ (.string x0))).setCell ⟨w.heap.size + 1 + 1, 1, none⟩ (.string y0))).setCell ⟨w.heap.size + 1 + 1, 2, none⟩ (.string x1))).setCell ⟨w.heap.size + 1 + 1, 3, none⟩ (.string y1))).setCell ⟨w.heap.size + 1 + 1, 4, none⟩ (.string x2))).setCell ⟨w.heap.size + 1 + 1, 5, none⟩ (.string y2))).setCell ⟨w.heap.size + 1 + 1, 6, none⟩ (.string x3))).setCell ⟨w.heap.size + 1 + 1, 7, none⟩ (.string y3)) := ⟨_, rfl⟩
  rw [← hWG]
  have RRn : Hid (CBlk WG (w.heap.size + 1 + 1) #[.string x0, .string y0, .string x1, .string y1, .string x2, .string y2, .string x3, .string y3] 31) := Lib.hid (by rw [hWG]; exact ((((((((RR.out).set 0 (.string x0)).set 1 (.string y0)).set 2 (.string x1)).set 3 (.string y1)).set 4 (.string x2)).set 5 (.string y2)).set 6 (.string x3)).set 7 (.string y3))
  have REn : Hid (CBlk WG (w.heap.size + 1 + 1 + 1) #[.int .i64 0, .int .i64 0, .int .i64 0, .int .i64 0] 33) := Lib.hid (by rw [hWG]; exact ((((((((RE.out).other ⟨w.heap.size + 1 + 1, 0, none⟩ (.string x0) (by show w.heap.size + 1 + 1 + 1 ≠ w.heap.size + 1 + 1; omega)).other ⟨w.heap.size + 1 + 1, 1, none⟩ (.string y0) (by show w.heap.size + 1 + 1 + 1 ≠ w.heap.size + 1 + 1; omega)).other ⟨w.heap.size + 1 + 1, 2, none⟩ (.string x1) (by show w.heap.size + 1 + 1 + 1 ≠ w.heap.size + 1 + 1; omega)).other ⟨w.heap.size + 1 + 1, 3, none⟩ (.string y1) (by show w.heap.size + 1 + 1 + 1 ≠ w.heap.size + 1 + 1; omega)).other ⟨w.heap.size + 1 + 1, 4, none⟩ (.string x2) (by show w.heap.size + 1 + 1 + 1 ≠ w.heap.size + 1 + 1; omega)).other ⟨w.heap.size + 1 + 1, 5, none⟩ (.string y2) (by show w.heap.size + 1 + 1 + 1 ≠ w.heap.size + 1 + 1; omega)).other ⟨w.heap.size + 1 + 1, 6, none⟩ (.string x3) (by show w.heap.size + 1 + 1 + 1 ≠ w.heap.size + 1 + 1; omega)).other ⟨w.heap.size + 1 + 1, 7, none⟩ (.string y3) (by show w.heap.size + 1 + 1 + 1 ≠ w.heap.size + 1 + 1; omega))
  have VRn : Hid (CBlk WG (w.heap.size + 1 + 1 + 1 + 1) #[.string x0, .string y0, .string x1, .string y1, .string x2, .string y2, .string x3, .string y3] 31) := Lib.hid (by rw [hWG]; exact ((((((((VR.out).other ⟨w.heap.size + 1 + 1, 0, none⟩ (.string x0) (by show w.heap.size + 1 + 1 + 1 + 1 ≠ w.heap.size + 1 + 1; omega)).other ⟨w.heap.size + 1 + 1, 1, none⟩ (.string y0) (by show w.heap.size + 1 + 1 + 1 + 1 ≠ w.heap.size + 1 + 1; omega)).other ⟨w.heap.size + 1 + 1, 2, none⟩ (.string x1) (by show w.heap.size + 1 + 1 + 1 + 1 ≠ w.heap.size + 1 + 1; omega)).other ⟨w.heap.size + 1 + 1, 3, none⟩ (.string y1) (by show w.heap.size + 1 + 1 + 1 + 1 ≠ w.heap.size + 1 + 1; omega)).other ⟨w.heap.size + 1 + 1, 4, none⟩ (.string x2) (by show w.heap.size + 1 + 1 + 1 + 1 ≠ w.heap.size + 1 + 1; omega)).other ⟨w.heap.size + 1 + 1, 5, none⟩ (.string y2) (by show w.heap.size + 1 + 1 + 1 + 1 ≠ w.heap.size + 1 + 1; omega)).other ⟨w.heap.size + 1 + 1, 6, none⟩ (.string x3) (by show w.heap.size + 1 + 1 + 1 + 1 ≠ w.heap.size + 1 + 1; omega)).other ⟨w.heap.size + 1 + 1, 7, none⟩ (.string y3) (by show w.heap.size + 1 + 1 + 1 + 1 ≠ w.heap.size + 1 + 1; omega))
  have VEn : Hid (CBlk WG (w.heap.size + 1 + 1 + 1 + 1 + 1) #[.int .i64 e0, .int .i64 e1, .int .i64 e2, .int .i64 e3] 33) := Lib.hid (by rw [hWG]; exact ((((((((VE.out).other ⟨w.heap.size + 1 + 1, 0, none⟩ (.string x0) (by show w.heap.size + 1 + 1 + 1 + 1 + 1 ≠ w.heap.size + 1 + 1; omega)).other ⟨w.heap.size + 1 + 1, 1, none⟩ (.string y0) (by show w.heap.size + 1 + 1 + 1 + 1 + 1 ≠ w.heap.size + 1 + 1; omega)).other ⟨w.heap.size + 1 + 1, 2, none⟩ (.string x1) (by show w.heap.size + 1 + 1 + 1 + 1 + 1 ≠ w.heap.size + 1 + 1; omega)).other ⟨w.heap.size + 1 + 1, 3, none⟩ (.string y1) (by show w.heap.size + 1 + 1 + 1 + 1 + 1 ≠ w.heap.size + 1 + 1; omega)).other ⟨w.heap.size + 1 + 1, 4, none⟩ (.string x2) (by show w.heap.size + 1 + 1 + 1 + 1 + 1 ≠ w.heap.size + 1 + 1; omega)).other ⟨w.heap.size + 1 + 1, 5, none⟩ (.string y2) (by show w.heap.size + 1 + 1 + 1 + 1 + 1 ≠ w.heap.size + 1 + 1; omega)).other ⟨w.heap.size + 1 + 1, 6, none⟩ (.string x3) (by show w.heap.size + 1 + 1 + 1 + 1 + 1 ≠ w.heap.size + 1 + 1; omega)).other ⟨w.heap.size + 1 + 1, 7, none⟩ (.string y3) (by show w.heap.size + 1 + 1 + 1 + 1 + 1 ≠ w.heap.size + 1 + 1; omega))
  have HBn : Hid (Below w.heap.size w WG) := Lib.hid (by rw [hWG]; exact ((((((((HB.out).setCell (p := ⟨w.heap.size + 1 + 1, 0, none⟩) (by show w.heap.size ≤ w.heap.size + 1 + 1; omega) (.string x0)).setCell (p := ⟨w.heap.size + 1 + 1, 1, none⟩) (by show w.heap.size ≤ w.heap.size + 1 + 1; omega) (.string y0)).setCell (p := ⟨w.heap.size + 1 + 1, 2, none⟩) (by show w.heap.size ≤ w.heap.size + 1 + 1; omega) (.string x1)).setCell (p := ⟨w.heap.size + 1 + 1, 3, none⟩) (by show w.heap.size ≤ w.heap.size + 1 + 1; omega) (.string y1)).setCell (p := ⟨w.heap.size + 1 + 1, 4, none⟩) (by show w.heap.size ≤ w.heap.size + 1 + 1; omega) (.string x2)).setCell (p := ⟨w.heap.size + 1 + 1, 5, none⟩) (by show w.heap.size ≤ w.heap.size + 1 + 1; omega) (.string y2)).setCell (p := ⟨w.heap.size + 1 + 1, 6, none⟩) (by show w.heap.size ≤ w.heap.size + 1 + 1; omega) (.string x3)).setCell (p := ⟨w.heap.size + 1 + 1, 7, none⟩) (by show w.heap.size ≤ w.heap.size + 1 + 1; omega) (.string y3))
  clear pc0 pf0 pb1 pg1 pb2 pg2 pb3 pg3 pb4 pg4 pb5 pg5 pb6 pg6 pb7 pg7 pc1 pf1 pc2 pf2 pc3 pf3 pc4 pf4 pc5 pf5 pc6 pf6 pc7 pf7 RR RE VR VE HB hWG
  have RR := RRn
  have RE := REn
  have VR := VRn
  have VE := VEn
  have HB := HBn
  clear RRn REn VRn VEn HBn
  refine hK.out _ _ ?_ (fun hHeld => ?_)
  ·
   exact ⟨VR.out, VE.out⟩
  clear hK K
  (try simp only [Act.put, List.setIfInBounds_toArray, List.set_cons_zero, List.set_cons_succ])
  refine wpAnyH_ready (rs := [3]) (by kernel_rfl) (by simp) ?_
  refine AllReadyH.cons (o := ({ dst := none, op := .store 33 (.tmp 5) (.tmp 41), type := 0, pos := "law.go:57", after := #[⟨1, .data⟩, ⟨2, .chain⟩, ⟨0, .phase⟩, ⟨1, .phase⟩, ⟨2, .phase⟩], guard := none } : Oper)) rfl (fun K hK => ?_) ?_
  ·
   have pc0 : (WG).cell? ⟨w.heap.size + 1 + 1 + 1, 0, none⟩ = some (.int .i64 0) := (RE.out).c 0 rfl
   have pf0 := (RE.out).f 0
   have pb1 : (WG).cell? ⟨w.heap.size + 1 + 1 + 1, 1, none⟩ = some (.int .i64 0) := (RE.out).c 1 rfl
   have pg1 := (RE.out).f 1
   have pb2 : (WG).cell? ⟨w.heap.size + 1 + 1 + 1, 2, none⟩ = some (.int .i64 0) := (RE.out).c 2 rfl
   have pg2 := (RE.out).f 2
   have pb3 : (WG).cell? ⟨w.heap.size + 1 + 1 + 1, 3, none⟩ = some (.int .i64 0) := (RE.out).c 3 rfl
   have pg3 := (RE.out).f 3
   have pc1 : (((WG).setCell ⟨w.heap.size + 1 + 1 + 1, 0, none⟩ (.int .i64 e0))).cell? ⟨w.heap.size + 1 + 1 + 1, 1, none⟩ = some (.int .i64 0) := ((RE.out).set 0 (.int .i64 e0)).c 1 rfl
   have pf1 := ((RE.out).set 0 (.int .i64 e0)).f 1
   have pc2 : (((((WG).setCell ⟨w.heap.size + 1 + 1 + 1, 0, none⟩ (.int .i64 e0))).setCell ⟨w.heap.size + 1 + 1 + 1, 1, none⟩ (.int .i64 e1))).cell? ⟨w.heap.size + 1 + 1 + 1, 2, none⟩ = some (.int .i64 0) := (((RE.out).set 0 (.int .i64 e0)).set 1 (.int .i64 e1)).c 2 rfl
   have pf2 := (((RE.out).set 0 (.int .i64 e0)).set 1 (.int .i64 e1)).f 2
   have pc3 : (((((((WG).setCell ⟨w.heap.size + 1 + 1 + 1, 0, none⟩ (.int .i64 e0))).setCell ⟨w.heap.size + 1 + 1 + 1, 1, none⟩ (.int .i64 e1))).setCell ⟨w.heap.size + 1 + 1 + 1, 2, none⟩ (.int .i64 e2))).cell? ⟨w.heap.size + 1 + 1 + 1, 3, none⟩ = some (.int .i64 0) := ((((RE.out).set 0 (.int .i64 e0)).set 1 (.int .i64 e1)).set 2 (.int .i64 e2)).c 3 rfl
   have pf3 := ((((RE.out).set 0 (.int .i64 e0)).set 1 (.int .i64 e1)).set 2 (.int .i64 e2)).f 3
   go_simp
   obtain ⟨WH, hWH⟩ : ∃ W, W = ((((((((WG).setCell ⟨w.heap.size + 1 + 1 + 1, 0, none⟩ (.int .i64 e0))).setCell ⟨w.heap.size + 1 + 1 + 1, 1, none⟩ (.int .i64 e1))).setCell ⟨w.heap.size + 1 + 1 + 1, 2, none⟩ (.int .i64 e2))).setCell ⟨w.heap.size + 1 + 1 + 1, 3, none⟩ (.int .i64 e3)) := ⟨_, rfl⟩
   rw [← hWH]
   have REn : Hid (CBlk WH (w.heap.size + 1 + 1 + 1) #[.int .i64 e0, .int .i64 e1, .int .i64 e2, .int .i64 e3] 33) := Lib.hid (by rw [hWH]; exact ((((RE.out).set 0 (.int .i64 e0)).set 1 (.int .i64 e1)).set 2 (.int .i64 e2)).set 3 (.int .i64 e3))
   have RRn : Hid (CBlk WH (w.heap.size + 1 + 1) #[.string x0, .string y0, .string x1, .string y1, .string x2, .string y2, .string x3, .string y3] 31) := Lib.hid (by rw [hWH]; exact ((((RR.out).other ⟨w.heap.size + 1 + 1 + 1, 0, none⟩ (.int .i64 e0) (by show w.heap.size + 1 + 1 ≠ w.heap.size + 1 + 1 + 1; omega)).other ⟨w.heap.size + 1 + 1 + 1, 1, none⟩ (.int .i64 e1) (by show w.heap.size + 1 + 1 ≠ w.heap.size + 1 + 1 + 1; omega)).other ⟨w.heap.size + 1 + 1 + 1, 2, none⟩ (.int .i64 e2) (by show w.heap.size + 1 + 1 ≠ w.heap.size + 1 + 1 + 1; omega)).other ⟨w.heap.size + 1 + 1 + 1, 3, none⟩ (.int .i64 e3) (by show w.heap.size + 1 + 1 ≠ w.heap.size + 1 + 1 + 1; omega))
   have VRn : Hid (CBlk WH (w.heap.size + 1 + 1 + 1 + 1) #[.string x0, .string y0, .string x1, .string y1, .string x2, .string y2, .string x3, .string y3] 31) := Lib.hid (by rw [hWH]; exact ((((VR.out).other ⟨w.heap.size + 1 + 1 + 1, 0, none⟩ (.int .i64 e0) (by show w.heap.size + 1 + 1 + 1 + 1 ≠ w.heap.size + 1 + 1 + 1; omega)).other ⟨w.heap.size + 1 + 1 + 1, 1, none⟩ (.int .i64 e1) (by show w.heap.size + 1 + 1 + 1 + 1 ≠ w.heap.size + 1 + 1 + 1; omega)).other ⟨w.heap.size + 1 + 1 + 1, 2, none⟩ (.int .i64 e2) (by show w.heap.size + 1 + 1 + 1 + 1 ≠ w.heap.size + 1 + 1 + 1; omega)).other ⟨w.heap.size + 1 + 1 + 1, 3, none⟩ (.int .i64 e3) (by show w.heap.size + 1 + 1 + 1 + 1 ≠ w.heap.size + 1 + 1 + 1; omega))
   have VEn : Hid (CBlk WH (w.heap.size + 1 + 1 + 1 + 1 + 1) #[.int .i64 e0, .int .i64 e1, .int .i64 e2, .int .i64 e3] 33) := Lib.hid (by rw [hWH]; exact ((((VE.out).other ⟨w.heap.size + 1 + 1 + 1, 0, none⟩ (.int .i64 e0) (by show w.heap.size + 1 + 1 + 1 + 1 + 1 ≠ w.heap.size + 1 + 1 + 1; omega)).other ⟨w.heap.size + 1 + 1 + 1, 1, none⟩ (.int .i64 e1) (by show w.heap.size + 1 + 1 + 1 + 1 + 1 ≠ w.heap.size + 1 + 1 + 1; omega)).other ⟨w.heap.size + 1 + 1 + 1, 2, none⟩ (.int .i64 e2) (by show w.heap.size + 1 + 1 + 1 + 1 + 1 ≠ w.heap.size + 1 + 1 + 1; omega)).other ⟨w.heap.size + 1 + 1 + 1, 3, none⟩ (.int .i64 e3) (by show w.heap.size + 1 + 1 + 1 + 1 + 1 ≠ w.heap.size + 1 + 1 + 1; omega))
   have HBn : Hid (Below w.heap.size w WH) := Lib.hid (by rw [hWH]; exact ((((HB.out).setCell (p := ⟨w.heap.size + 1 + 1 + 1, 0, none⟩) (by show w.heap.size ≤ w.heap.size + 1 + 1 + 1; omega) (.int .i64 e0)).setCell (p := ⟨w.heap.size + 1 + 1 + 1, 1, none⟩) (by show w.heap.size ≤ w.heap.size + 1 + 1 + 1; omega) (.int .i64 e1)).setCell (p := ⟨w.heap.size + 1 + 1 + 1, 2, none⟩) (by show w.heap.size ≤ w.heap.size + 1 + 1 + 1; omega) (.int .i64 e2)).setCell (p := ⟨w.heap.size + 1 + 1 + 1, 3, none⟩) (by show w.heap.size ≤ w.heap.size + 1 + 1 + 1; omega) (.int .i64 e3))
   clear pc0 pf0 pb1 pg1 pb2 pg2 pb3 pg3 pc1 pf1 pc2 pf2 pc3 pf3 RE RR VR VE HB hWH
   have RE := REn
   have RR := RRn
   have VR := VRn
   have VE := VEn
   have HB := HBn
   clear REn RRn VRn VEn HBn
   refine hK.out _ _ ?_ (fun hHeld => ?_)
   ·
    exact ⟨VR.out, VE.out⟩
   clear hK K
   (try simp only [Act.put, List.setIfInBounds_toArray, List.set_cons_zero, List.set_cons_succ])
   refine wpAnyH_done (by kernel_rfl) ?_ _
   refine NoPanic.normal ?_
   go_wp2_with fail
   refine bodyPost_ret (results_two rfl _ _ (w.heap.size + 1 + 1) (w.heap.size + 1 + 1 + 1) _ _ rfl rfl RR.out RE.out rfl rfl) rfl ?_
   exact ⟨rfl, HB.out.drew⟩
  exact AllReadyH.nil
 exact AllReadyH.nil
theorem lpick_60001 (c : Int) (w : World) (h1 : -9223372036854775808 ≤ c) (h2 : c ≤ 9223372036854775807) :
  Calls Tryz.prog 22 #[.int .i64 c, .int .i64 60001] w fun e w' => ∃ p : Nat, e = .returned (.int .i64 (p : Int)) ∧ p < 60001 ∧ Below w.heap.size w w' := by
 by_cases h : c < 0
 ·
  have e1 : wrap64 (c + 1) = c + 1 := by simp [wrap64]; omega
  have e2 : wrap64 (-(c + 1)) = -(c + 1) := by simp [wrap64]; omega
  have e3 := Lib.hid (show -((c + 1).tmod 60001) = ((-(c + 1)).toNat % 60001 : Nat) by rw [← Int.neg_tmod, Int.tmod_eq_emod_of_nonneg (by omega)]; omega)
  go_enter Tryz.func22, Tryz.ntmps22
  go_wp2
  go_ret
  exact ⟨_, by rw [← e3.out]; rfl, Nat.mod_lt _ (by decide), Below.refl _ _⟩
 ·
  have e3 := Lib.hid (show c % 60001 = (c.toNat % 60001 : Nat) by omega)
  go_enter Tryz.func22, Tryz.ntmps22
  go_wp2
  go_ret
  exact ⟨_, by rw [← e3.out]; rfl, Nat.mod_lt _ (by decide), Below.refl _ _⟩
theorem lpick_30000 (c : Int) (w : World) (h1 : -9223372036854775808 ≤ c) (h2 : c ≤ 9223372036854775807) :
  Calls Tryz.prog 22 #[.int .i64 c, .int .i64 30000] w fun e w' => ∃ p : Nat, e = .returned (.int .i64 (p : Int)) ∧ p < 30000 ∧ Below w.heap.size w w' := by
 by_cases h : c < 0
 ·
  have e1 : wrap64 (c + 1) = c + 1 := by simp [wrap64]; omega
  have e2 : wrap64 (-(c + 1)) = -(c + 1) := by simp [wrap64]; omega
  have e3 := Lib.hid (show -((c + 1).tmod 30000) = ((-(c + 1)).toNat % 30000 : Nat) by rw [← Int.neg_tmod, Int.tmod_eq_emod_of_nonneg (by omega)]; omega)
  go_enter Tryz.func22, Tryz.ntmps22
  go_wp2
  go_ret
  exact ⟨_, by rw [← e3.out]; rfl, Nat.mod_lt _ (by decide), Below.refl _ _⟩
 ·
  have e3 := Lib.hid (show c % 30000 = (c.toNat % 30000 : Nat) by omega)
  go_enter Tryz.func22, Tryz.ntmps22
  go_wp2
  go_ret
  exact ⟨_, by rw [← e3.out]; rfl, Nat.mod_lt _ (by decide), Below.refl _ _⟩
end Go.Proofs.YtjpifnepdmgpeaaGreatDoor
