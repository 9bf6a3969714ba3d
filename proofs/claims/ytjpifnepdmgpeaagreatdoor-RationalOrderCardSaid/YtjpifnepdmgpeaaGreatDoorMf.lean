/- Further functions by contract. -/
import Derived.Test.YtjpifnepdmgpeaaGreatDoorMe
namespace Go.Proofs.YtjpifnepdmgpeaaGreatDoor
open Go.RowKit Go.Shelf

theorem addb {a b : Int} {p : Nat} (h1 : a.natAbs < 10 ^ p) (h2 : b.natAbs < 10 ^ p) : (a + b).natAbs < 10 ^ (p + 1) := by
  rw [Nat.pow_succ]; omega
theorem subb {a b : Int} {p : Nat} (h1 : a.natAbs < 10 ^ p) (h2 : b.natAbs < 10 ^ p) : (a - b).natAbs < 10 ^ (p + 1) := by
  rw [Nat.pow_succ]; omega
def okS (a b : Rat) : Bool := fits (a.num * b.den) && fits (b.num * a.den) && fits (a.den * b.den) && fits (a.num * b.den - b.num * a.den)
theorem cmpR_swap (a b : Rat) : cmpR b a = - cmpR a b := by
  unfold cmpR
  have h1 : a < b → ¬ b < a := fun h => Rat.not_lt.2 (Rat.le_of_lt h)
  by_cases h : a < b
  · rw [if_neg (h1 h), if_pos h, if_pos h]; rfl
  · by_cases h2 : b < a
    · rw [if_pos h2, if_neg h, if_pos h2]
    · rw [if_neg h2, if_neg h, if_neg h, if_neg h2]; rfl
theorem mk_le (a c : Int) (b d : Nat) (hb : 0 < b) (hd : 0 < d) : mkRat a b ≤ mkRat c d ↔ a * d ≤ c * b := by
  rw [Rat.le_iff_sub_nonneg, ← Rat.divInt_ofNat, ← Rat.divInt_ofNat, Rat.divInt_sub_divInt _ _ (by omega) (by omega), Rat.divInt_nonneg_iff_of_pos_right (Int.mul_pos (by omega) (by omega))]
  omega
theorem mk_eq (a c : Int) (b d : Nat) (hb : 0 < b) (hd : 0 < d) : mkRat a b = mkRat c d ↔ a * d = c * b := Rat.mkRat_eq_iff (by omega) (by omega)
theorem dn_le (q : Rat) (t : Nat) (ht : 0 < t) : mkRat (dnN q t) t ≤ q := by
  conv => rhs; rw [← Rat.mkRat_self q]
  rw [mk_le _ _ _ _ ht q.den_pos, dnN]
  have hd : (0 : Int) < q.den := by have := q.den_pos; omega
  exact Int.ediv_mul_le _ (by omega)
theorem up_ge (q : Rat) (t : Nat) (ht : 0 < t) : q ≤ mkRat (upN q t) t := by
  conv => lhs; rw [← Rat.mkRat_self q]
  rw [mk_le _ _ _ _ q.den_pos ht, upN]
  have hd : (0 : Int) < q.den := by have := q.den_pos; omega
  have h1 := Int.mul_ediv_add_emod (q.num * t) q.den
  have h2 := Int.emod_lt_of_pos (q.num * t) hd
  split
  · rename_i h; rw [h] at h1; rw [Int.mul_comm _ (q.den : Int)]; omega
  · rw [Int.add_mul, Int.mul_comm _ (q.den : Int)]; omega
/-- what lies on the grid already -/
theorem dn_of (k : Int) (t : Nat) (ht : 0 < t) : dnN (mkRat k t) t = k ∧ upN (mkRat k t) t = k := by
  have hd : ((mkRat k t).den : Int) ≠ 0 := by have := (mkRat k t).den_pos; omega
  have h : (mkRat k t).num * t = k * (mkRat k t).den := by
    have := (Rat.mkRat_eq_iff (mkRat k t).den_nz (show t ≠ 0 by omega)).1 (Rat.mkRat_self (mkRat k t))
    exact this
  rw [dnN, upN, h, Int.mul_emod_left, if_pos rfl, Int.mul_ediv_cancel _ hd]
  exact ⟨rfl, rfl⟩
theorem up_dn (q : Rat) (t : Nat) : upN q t = - dnN (-q) t := by
  have hd : (0 : Int) < q.den := by have := q.den_pos; omega
  rw [dnN, upN, Rat.neg_num, Rat.neg_den, Int.neg_mul]
  generalize q.num * t = n at *
  generalize (q.den : Int) = d at *
  have h1 := Int.mul_ediv_add_emod n d
  have h2 := Int.emod_lt_of_pos n hd
  have h3 := Int.emod_nonneg n (show d ≠ 0 by omega)
  split
  · rename_i h
    rw [Int.neg_ediv_of_dvd (Int.dvd_of_emod_eq_zero h)]; omega
  · rename_i h
    have : (-n) / d = -(n / d + 1) := by
      refine ((Int.ediv_emod_unique hd).2 ⟨?_, ?_, ?_⟩ : _ ∧ _ = d - n % d).1
      · rw [Int.mul_neg, Int.mul_add]; omega
      · omega
      · omega
    omega
/-- exact or neighbours -/
theorem up_dn1 (q : Rat) (t : Nat) (ht : 0 < t) : (upN q t = dnN q t ∧ mkRat (dnN q t) t = q) ∨ (upN q t = dnN q t + 1 ∧ mkRat (dnN q t) t ≠ q ∧ mkRat (upN q t) t ≠ q) := by
  have hd : (0 : Int) < q.den := by have := q.den_pos; omega
  have h1 := Int.mul_ediv_add_emod (q.num * t) q.den
  have h2 := Int.emod_lt_of_pos (q.num * t) hd
  have e : ∀ k : Int, mkRat k t = q ↔ k * q.den = q.num * t := fun k => by
    conv => lhs; rhs; rw [← Rat.mkRat_self q]
    exact mk_eq k q.num t q.den ht q.den_pos
  by_cases h : (q.num * t) % q.den = 0
  · refine .inl ⟨by rw [upN, dnN, if_pos h], (e _).2 ?_⟩
    rw [dnN, Int.mul_comm]; omega
  · refine .inr ⟨by rw [upN, dnN, if_neg h], fun x => ?_, fun x => ?_⟩
    · have := (e _).1 x
      rw [dnN, Int.mul_comm] at this; omega
    · have := (e _).1 x
      rw [upN, if_neg h, Int.add_mul, Int.mul_comm] at this
      omega
theorem mul_t (k : Int) (t : Nat) (ht : 0 < t) : mkRat k t * ((t : Int) : Rat) = (k : Rat) := by
  rw [show ((t : Int) : Rat) = mkRat t 1 from (Rat.mkRat_self _).symm, Rat.mkRat_mul_mkRat, show ((k : Int) : Rat) = mkRat k 1 from (Rat.mkRat_self _).symm, Rat.mkRat_eq_iff (by omega) (by omega)]
  rw [Nat.mul_one]; omega
theorem sub_t (k l : Int) (t : Nat) (ht : 0 < t) : mkRat k t - mkRat l t = mkRat (k - l) t := by
  rw [← Rat.divInt_ofNat, ← Rat.divInt_ofNat, Rat.divInt_sub_divInt _ _ (by omega) (by omega), ← Rat.divInt_ofNat, Rat.divInt_eq_divInt_iff (by have : (0:Int) < t * t := Int.mul_pos (by omega) (by omega); omega) (by omega), ← Int.sub_mul, Int.mul_assoc]
set_option maxRecDepth 100000 in
set_option maxHeartbeats 8000000 in
theorem qSub_walk (s1 s2 s3 s4 : ByteArray) (M : Nat → ByteArray × ByteArray) (E : Nat → Int) (w : World) (hM : M 0 = (⟨#[]⟩, ⟨#[]⟩)) (hE : E 0 = 0) (hsk : ∀ i, i < 4 → E i ≠ 0 → M (i + 1) = M i ∧ E (i + 1) = E i)
    (h1 : ∀ W p g cap, 2 ≤ cap → CS W p (.slice (some ⟨g, 0, none⟩) 2 cap) → four_cells W g s1 s2 s3 s4 → StepOK 87 #[.pointer (some ⟨p, 0, none⟩)] (M 0) (M 1) (E 1) W)
    (h2 : E 1 = 0 → ∀ W p q, CS W p (.string s4) → CS W q (.string s4) → StepOK 88 #[.pointer (some ⟨p, 0, none⟩), .pointer (some ⟨q, 0, none⟩)] (M 1) (M 2) (E 2) W)
    (h3 : E 2 = 0 → ∀ W p q r, CS W p (.string s3) → CS W q (.string s2) → CS W r (.func (.func 71) #[] #[]) → StepOK 96 #[.pointer (some ⟨p, 0, none⟩), .pointer (some ⟨q, 0, none⟩), .pointer (some ⟨r, 0, none⟩)] (M 2) (M 3) (E 3) W)
    (h4 : E 3 = 0 → ∀ W, StepOK 60 #[] (M 3) (M 4) (E 4) W) :
    Calls Tryz.prog 40 #[.agg #[.string s1, .string s2], .agg #[.string s3, .string s4]] w fun e w' => e = .returned (.tuple #[.agg #[.string (M 4).1, .string (M 4).2], .int .i64 (E 4)]) ∧ Below w.heap.size w w' := by
  obtain ⟨r1, r2, r3⟩ := three_ratios w (.string s1) (.string s2) (.string s3) (.string s4) (.string ⟨#[]⟩) (.string ⟨#[]⟩)
  have hb0 := (((below_alloc w (.cells #[.string s1, .string s2] 23)).alloc (by rw [World.size_alloc]; omega) (.cells #[.string s3, .string s4] 23)).alloc (by rw [World.size_alloc, World.size_alloc]; omega) (.cells #[.string ⟨#[]⟩, .string ⟨#[]⟩] 23))
  have HR := Lib.hid (And.intro r1 r2)
  have HX := Lib.hid r3
  have HB := Lib.hid hb0
  have H1 := Lib.hid h1
  have H2 := Lib.hid h2
  have H3 := Lib.hid h3
  have H4 := Lib.hid h4
  have HS0 := Lib.hid (And.intro hM (And.intro hE hsk))
  clear r1 r2 r3 hb0 h1 h2 h3 h4 hM hE hsk
  go_enter Tryz.func40, Tryz.ntmps40
  go_upto_region 1 with fail
  refine wp_region_noPanic ?_
  refine wp_region_held_drew (S := fun W => RBlk W w.heap.size (.string s1) (.string s2) ∧ RBlk W (w.heap.size + 1) (.string s3) (.string s4)) (by kernel_rfl) ?_ (fun hHeld => ?_)
  · exact HR.out
  refine wpAnyH_take (i := 0) (oi := ({ dst := some 6, op := Go.Op.load 23 (Go.Operand.tmp 2), type := 23, pos := "rational.go:35", after := #[], guard := none } : Oper)) (v := ?v0_1) rfl (by kernel_rfl) (by kernel_rfl) (by kernel_rfl) (fun _ _ _ h => h) (Or.inl ⟨by rfl, ?hy0_1⟩) (by assumption) ?re0_1
  case hy0_1 => ((intro w hSw; have e1 := hSw.1.c0; have e2 := hSw.1.c1; have e3 := hSw.2.c0; have e4 := hSw.2.c1; go_simp) <;> with_reducible rfl)
  (try simp only [Act.put, List.setIfInBounds_toArray, List.set_cons_zero, List.set_cons_succ])
  refine wpAnyH_take (i := 1) (oi := ({ dst := some 7, op := Go.Op.load 23 (Go.Operand.tmp 3), type := 23, pos := "rational.go:35", after := #[], guard := none } : Oper)) (v := ?v1_2) rfl (by kernel_rfl) (by kernel_rfl) (by kernel_rfl) (fun _ _ _ h => h) (Or.inl ⟨by rfl, ?hy1_2⟩) (by assumption) ?re1_2
  case hy1_2 => ((intro w hSw; have e1 := hSw.1.c0; have e2 := hSw.1.c1; have e3 := hSw.2.c0; have e4 := hSw.2.c1; go_simp) <;> with_reducible rfl)
  (try simp only [Act.put, List.setIfInBounds_toArray, List.set_cons_zero, List.set_cons_succ])
  refine wpAnyH_take (i := 4) (oi := ({ dst := some 10, op := Go.Op.fieldAddr 23 (Go.Operand.tmp 3) 1, type := 0, pos := "rational.go:35", after := #[], guard := none } : Oper)) (v := ?v4_3) rfl (by kernel_rfl) (by kernel_rfl) (by kernel_rfl) (fun _ _ _ h => h) (Or.inl ⟨by rfl, ?hy4_3⟩) (by assumption) ?re4_3
  case hy4_3 => ((intro w hSw; have e1 := hSw.1.c0; have e2 := hSw.1.c1; have e3 := hSw.2.c0; have e4 := hSw.2.c1; go_simp) <;> with_reducible rfl)
  (try simp only [Act.put, List.setIfInBounds_toArray, List.set_cons_zero, List.set_cons_succ])
  refine wpAnyH_take (i := 5) (oi := ({ dst := some 11, op := Go.Op.load 9 (Go.Operand.tmp 10), type := 9, pos := "rational.go:35", after := #[{ on := 4, ground := Go.Ground.data }], guard := none } : Oper)) (v := ?v5_4) rfl (by kernel_rfl) (by kernel_rfl) (by kernel_rfl) (fun _ _ _ h => h) (Or.inl ⟨by rfl, ?hy5_4⟩) (by assumption) ?re5_4
  case hy5_4 => ((intro w hSw; have e1 := hSw.1.c0; have e2 := hSw.1.c1; have e3 := hSw.2.c0; have e4 := hSw.2.c1; go_simp) <;> with_reducible rfl)
  (try simp only [Act.put, List.setIfInBounds_toArray, List.set_cons_zero, List.set_cons_succ])
  refine wpAnyH_take (i := 6) (oi := ({ dst := some 12, op := Go.Op.fieldAddr 23 (Go.Operand.tmp 3) 1, type := 0, pos := "rational.go:35", after := #[], guard := none } : Oper)) (v := ?v6_5) rfl (by kernel_rfl) (by kernel_rfl) (by kernel_rfl) (fun _ _ _ h => h) (Or.inl ⟨by rfl, ?hy6_5⟩) (by assumption) ?re6_5
  case hy6_5 => ((intro w hSw; have e1 := hSw.1.c0; have e2 := hSw.1.c1; have e3 := hSw.2.c0; have e4 := hSw.2.c1; go_simp) <;> with_reducible rfl)
  (try simp only [Act.put, List.setIfInBounds_toArray, List.set_cons_zero, List.set_cons_succ])
  refine wpAnyH_take (i := 7) (oi := ({ dst := some 13, op := Go.Op.load 9 (Go.Operand.tmp 12), type := 9, pos := "rational.go:35", after := #[{ on := 6, ground := Go.Ground.data }], guard := none } : Oper)) (v := ?v7_6) rfl (by kernel_rfl) (by kernel_rfl) (by kernel_rfl) (fun _ _ _ h => h) (Or.inl ⟨by rfl, ?hy7_6⟩) (by assumption) ?re7_6
  case hy7_6 => ((intro w hSw; have e1 := hSw.1.c0; have e2 := hSw.1.c1; have e3 := hSw.2.c0; have e4 := hSw.2.c1; go_simp) <;> with_reducible rfl)
  (try simp only [Act.put, List.setIfInBounds_toArray, List.set_cons_zero, List.set_cons_succ])
  refine wpAnyH_take (i := 9) (oi := ({ dst := some 15, op := Go.Op.fieldAddr 23 (Go.Operand.tmp 3) 0, type := 0, pos := "rational.go:35", after := #[], guard := none } : Oper)) (v := ?v9_7) rfl (by kernel_rfl) (by kernel_rfl) (by kernel_rfl) (fun _ _ _ h => h) (Or.inl ⟨by rfl, ?hy9_7⟩) (by assumption) ?re9_7
  case hy9_7 => ((intro w hSw; have e1 := hSw.1.c0; have e2 := hSw.1.c1; have e3 := hSw.2.c0; have e4 := hSw.2.c1; go_simp) <;> with_reducible rfl)
  (try simp only [Act.put, List.setIfInBounds_toArray, List.set_cons_zero, List.set_cons_succ])
  refine wpAnyH_take (i := 10) (oi := ({ dst := some 16, op := Go.Op.load 9 (Go.Operand.tmp 15), type := 9, pos := "rational.go:35", after := #[{ on := 9, ground := Go.Ground.data }], guard := none } : Oper)) (v := ?v10_8) rfl (by kernel_rfl) (by kernel_rfl) (by kernel_rfl) (fun _ _ _ h => h) (Or.inl ⟨by rfl, ?hy10_8⟩) (by assumption) ?re10_8
  case hy10_8 => ((intro w hSw; have e1 := hSw.1.c0; have e2 := hSw.1.c1; have e3 := hSw.2.c0; have e4 := hSw.2.c1; go_simp) <;> with_reducible rfl)
  (try simp only [Act.put, List.setIfInBounds_toArray, List.set_cons_zero, List.set_cons_succ])
  refine wpAnyH_take (i := 11) (oi := ({ dst := some 17, op := Go.Op.fieldAddr 23 (Go.Operand.tmp 2) 1, type := 0, pos := "rational.go:35", after := #[], guard := none } : Oper)) (v := ?v11_9) rfl (by kernel_rfl) (by kernel_rfl) (by kernel_rfl) (fun _ _ _ h => h) (Or.inl ⟨by rfl, ?hy11_9⟩) (by assumption) ?re11_9
  case hy11_9 => ((intro w hSw; have e1 := hSw.1.c0; have e2 := hSw.1.c1; have e3 := hSw.2.c0; have e4 := hSw.2.c1; go_simp) <;> with_reducible rfl)
  (try simp only [Act.put, List.setIfInBounds_toArray, List.set_cons_zero, List.set_cons_succ])
  refine wpAnyH_take (i := 12) (oi := ({ dst := some 18, op := Go.Op.load 9 (Go.Operand.tmp 17), type := 9, pos := "rational.go:35", after := #[{ on := 11, ground := Go.Ground.data }], guard := none } : Oper)) (v := ?v12_10) rfl (by kernel_rfl) (by kernel_rfl) (by kernel_rfl) (fun _ _ _ h => h) (Or.inl ⟨by rfl, ?hy12_10⟩) (by assumption) ?re12_10
  case hy12_10 => ((intro w hSw; have e1 := hSw.1.c0; have e2 := hSw.1.c1; have e3 := hSw.2.c0; have e4 := hSw.2.c1; go_simp) <;> with_reducible rfl)
  (try simp only [Act.put, List.setIfInBounds_toArray, List.set_cons_zero, List.set_cons_succ])
  refine wpAnyH_ready (rs := [2]) (by kernel_rfl) (by simp) ?_
  refine AllReadyH.cons (o := ({ dst := some 8, op := Go.Op.buildSlice 30 2 #[(0, Go.Operand.tmp 6), (1, Go.Operand.tmp 7)], type := 30, pos := "rational.go:35", after := #[{ on := 0, ground := Go.Ground.data }, { on := 1, ground := Go.Ground.data }], guard := none } : Oper)) rfl (fun K hK => ?_) ?_
  · go_simp
    obtain ⟨W1, hW1⟩ : ∃ W, W = ((((w.alloc (.cells #[.string s1, .string s2] 23)).alloc (.cells #[.string s3, .string s4] 23)).alloc (.cells #[.string ⟨#[]⟩, .string ⟨#[]⟩] 23)).alloc (.cells #[.string s1, .string s2, .string s3, .string s4] 23)).drew := ⟨_, rfl⟩
    rw [← hW1]
    have hsz : (((w.alloc (.cells #[.string s1, .string s2] 23)).alloc (.cells #[.string s3, .string s4] 23)).alloc (.cells #[.string ⟨#[]⟩, .string ⟨#[]⟩] 23)).heap.size = w.heap.size + 1 + 1 + 1 := by rw [World.size_alloc, World.size_alloc, World.size_alloc]
    have F4 : Hid (four_cells W1 (w.heap.size + 1 + 1 + 1) s1 s2 s3 s4) := Lib.hid (by rw [hW1, ← hsz]; exact four_cells.new (((w.alloc (.cells #[.string s1, .string s2] 23)).alloc (.cells #[.string s3, .string s4] 23)).alloc (.cells #[.string ⟨#[]⟩, .string ⟨#[]⟩] 23)) s1 s2 s3 s4 23)
    have HXn : Hid (RBlk W1 (w.heap.size + 1 + 1) (.string ⟨#[]⟩) (.string ⟨#[]⟩)) := Lib.hid (by rw [hW1]; exact HX.out.alloc _)
    have HD : Hid (Below w.heap.size w W1) := Lib.hid (by rw [hW1]; exact (HB.out.alloc HB.out.size _).drew)
    have hk1 : RBlk W1 w.heap.size (.string s1) (.string s2) ∧ RBlk W1 (w.heap.size + 1) (.string s3) (.string s4) := by rw [hW1]; exact ⟨HR.out.1.alloc _, HR.out.2.alloc _⟩
    clear HX HB HR hsz hW1
    have HX := HXn
    clear HXn
    refine hK.out _ _ ?_ (fun hHeld => ?_)
    · exact hk1
    clear hK K
    (try simp only [Act.put, List.setIfInBounds_toArray, List.set_cons_zero, List.set_cons_succ])
    clear hk1
    refine wpAnyH_ready (rs := [3]) (by kernel_rfl) (by simp) ?_
    refine AllReadyH.cons (o := ({ dst := some 9, op := Go.Op.call { callee := Go.Callee.value (Go.Operand.func 57), args := #[Go.Operand.tmp 8], argTypes := #[30] }, type := 73, pos := "rational.go:35", after := #[{ on := 2, ground := Go.Ground.data }], guard := none } : Oper)) rfl (fun K hK => ?_) ?_
    · go_simp
      go_at_call 57
      refine (start_any _ _ _ _).mono ?_
      rintro e W2 ⟨rfl, c2, B⟩
      have HXn := Lib.hid (HX.out.keep B HX.out.lt)
      have HDn := Lib.hid (HD.out.trans (B.mono HD.out.size))
      clear HX HD
      have HX := HXn
      have HD := HDn
      clear HXn HDn
      have F4n := Lib.hid (F4.out.keep B)
      clear F4
      have F4 := F4n
      clear F4n
      have C2 := Lib.hid c2
      clear c2
      (try go_wp2_with fail)
      refine hK.out _ _ ?_ (fun hHeld => ?_)
      · exact ⟨hHeld.1.keep B hHeld.1.lt, hHeld.2.keep B hHeld.2.lt⟩
      clear hK K
      (try simp only [Act.put, List.setIfInBounds_toArray, List.set_cons_zero, List.set_cons_succ])
      clear B
      refine wpAnyH_ready (rs := [8]) (by kernel_rfl) (by simp) ?_
      refine AllReadyH.cons (o := ({ dst := some 14, op := Go.Op.call { callee := Go.Callee.value (Go.Operand.func 58), args := #[Go.Operand.tmp 11, Go.Operand.tmp 13], argTypes := #[9, 9] }, type := 73, pos := "rational.go:35", after := #[{ on := 5, ground := Go.Ground.data }, { on := 7, ground := Go.Ground.data }, { on := 3, ground := Go.Ground.chain }], guard := none } : Oper)) rfl (fun K hK => ?_) ?_
      · go_simp
        go_at_call 58
        refine (qtimes_any _ _ _).mono ?_
        rintro e W3 ⟨rfl, c3, B⟩
        have HXn := Lib.hid (HX.out.keep B HX.out.lt)
        have HDn := Lib.hid (HD.out.trans (B.mono HD.out.size))
        clear HX HD
        have HX := HXn
        have HD := HDn
        clear HXn HDn
        have F4n := Lib.hid (F4.out.keep B)
        have C2n := Lib.hid (C2.out.keep B)
        clear F4 C2
        have F4 := F4n
        have C2 := C2n
        clear F4n C2n
        have C3a := Lib.hid c3.1
        have C3b := Lib.hid c3.2
        clear c3
        (try go_wp2_with fail)
        refine hK.out _ _ ?_ (fun hHeld => ?_)
        · exact ⟨hHeld.1.keep B hHeld.1.lt, hHeld.2.keep B hHeld.2.lt⟩
        clear hK K
        (try simp only [Act.put, List.setIfInBounds_toArray, List.set_cons_zero, List.set_cons_succ])
        clear B
        refine wpAnyH_ready (rs := [13]) (by kernel_rfl) (by simp) ?_
        refine AllReadyH.cons (o := ({ dst := some 19, op := Go.Op.call { callee := Go.Callee.value (Go.Operand.func 69), args := #[Go.Operand.func 71, Go.Operand.tmp 16, Go.Operand.tmp 18], argTypes := #[61, 9, 9] }, type := 73, pos := "rational.go:35", after := #[{ on := 10, ground := Go.Ground.data }, { on := 12, ground := Go.Ground.data }, { on := 8, ground := Go.Ground.chain }], guard := none } : Oper)) rfl (fun K hK => ?_) ?_
        · go_simp
          go_at_call 69
          refine (combine1_any _ _ _ _).mono ?_
          rintro e W4 ⟨rfl, c4, B⟩
          have HXn := Lib.hid (HX.out.keep B HX.out.lt)
          have HDn := Lib.hid (HD.out.trans (B.mono HD.out.size))
          clear HX HD
          have HX := HXn
          have HD := HDn
          clear HXn HDn
          have F4n := Lib.hid (F4.out.keep B)
          have C2n := Lib.hid (C2.out.keep B)
          have C3an := Lib.hid (C3a.out.keep B)
          have C3bn := Lib.hid (C3b.out.keep B)
          clear F4 C2 C3a C3b
          have F4 := F4n
          have C2 := C2n
          have C3a := C3an
          have C3b := C3bn
          clear F4n C2n C3an C3bn
          have C4a := Lib.hid c4.1
          have C4b := Lib.hid c4.2.1
          have C4c := Lib.hid c4.2.2
          clear c4
          (try go_wp2_with fail)
          refine hK.out _ _ ?_ (fun hHeld => ?_)
          · exact ⟨hHeld.1.keep B hHeld.1.lt, hHeld.2.keep B hHeld.2.lt⟩
          clear hK K
          (try simp only [Act.put, List.setIfInBounds_toArray, List.set_cons_zero, List.set_cons_succ])
          clear B
          refine wpAnyH_ready (rs := [14]) (by kernel_rfl) (by simp) ?_
          refine AllReadyH.cons (o := ({ dst := some 20, op := Go.Op.buildSlice 101 4 #[(0, Go.Operand.tmp 9), (1, Go.Operand.tmp 14), (2, Go.Operand.tmp 19), (3, Go.Operand.func 60)], type := 101, pos := "rational.go:35", after := #[{ on := 3, ground := Go.Ground.data }, { on := 8, ground := Go.Ground.data }, { on := 13, ground := Go.Ground.data }], guard := none } : Oper)) rfl (fun K hK => ?_) ?_
          · go_simp
            obtain ⟨WB, hWB⟩ : ∃ W, W = (W4.alloc (.cells #[.func (.func 87) #[] #[.pointer (some ⟨W1.heap.size, 0, none⟩)], .func (.func 88) #[] #[.pointer (some ⟨W2.heap.size, 0, none⟩), .pointer (some ⟨W2.heap.size + 1, 0, none⟩)], .func (.func 96) #[] #[.pointer (some ⟨W3.heap.size + 1, 0, none⟩), .pointer (some ⟨W3.heap.size + 1 + 1, 0, none⟩), .pointer (some ⟨W3.heap.size, 0, none⟩)], .func (.func 60) #[] #[]] 73)) := ⟨_, rfl⟩
            rw [← hWB]
            have BA : Below W4.heap.size W4 WB := by rw [hWB]; exact below_alloc W4 _
            have hgB : W4.heap.size < WB.heap.size := by rw [hWB, World.size_alloc]; omega
            have hr0 : WB.cell? ⟨W4.heap.size, 0, none⟩ = some (.func (.func 87) #[] #[.pointer (some ⟨W1.heap.size, 0, none⟩)]) := by rw [hWB, World.cell?, Go.heap_alloc_new]; rfl
            have hr1 : WB.cell? ⟨W4.heap.size, 1, none⟩ = some (.func (.func 88) #[] #[.pointer (some ⟨W2.heap.size, 0, none⟩), .pointer (some ⟨W2.heap.size + 1, 0, none⟩)]) := by rw [hWB, World.cell?, Go.heap_alloc_new]; rfl
            have hr2 : WB.cell? ⟨W4.heap.size, 2, none⟩ = some (.func (.func 96) #[] #[.pointer (some ⟨W3.heap.size + 1, 0, none⟩), .pointer (some ⟨W3.heap.size + 1 + 1, 0, none⟩), .pointer (some ⟨W3.heap.size, 0, none⟩)]) := by rw [hWB, World.cell?, Go.heap_alloc_new]; rfl
            have hr3 : WB.cell? ⟨W4.heap.size, 3, none⟩ = some (.func (.func 60) #[] #[]) := by rw [hWB, World.cell?, Go.heap_alloc_new]; rfl
            clear hWB
            have HXn := Lib.hid (HX.out.keep BA HX.out.lt)
            have HDn := Lib.hid (HD.out.trans (BA.mono HD.out.size))
            clear HX HD
            have HX := HXn
            have HD := HDn
            clear HXn HDn
            have F4n := Lib.hid (F4.out.keep BA)
            have C2n := Lib.hid (C2.out.keep BA)
            have C3an := Lib.hid (C3a.out.keep BA)
            have C3bn := Lib.hid (C3b.out.keep BA)
            have C4an := Lib.hid (C4a.out.keep BA)
            have C4bn := Lib.hid (C4b.out.keep BA)
            have C4cn := Lib.hid (C4c.out.keep BA)
            clear F4 C2 C3a C3b C4a C4b C4c
            have F4 := F4n
            have C2 := C2n
            have C3a := C3an
            have C3b := C3bn
            have C4a := C4an
            have C4b := C4bn
            have C4c := C4cn
            clear F4n C2n C3an C3bn C4an C4bn C4cn
            refine hK.out _ _ ?_ (fun hHeld => ?_)
            · exact ⟨hHeld.1.keep BA hHeld.1.lt, hHeld.2.keep BA hHeld.2.lt⟩
            clear hK K
            (try simp only [Act.put, List.setIfInBounds_toArray, List.set_cons_zero, List.set_cons_succ])
            clear BA
            refine wpAnyH_ready (rs := [15]) (by kernel_rfl) (by simp) ?_
            refine AllReadyH.cons (o := ({ dst := some 21, op := Go.Op.call { callee := Go.Callee.value (Go.Operand.func 56), args := #[Go.Operand.tmp 20], argTypes := #[101] }, type := 36, pos := "rational.go:35", after := #[{ on := 14, ground := Go.Ground.data }, { on := 13, ground := Go.Ground.chain }], guard := none } : Oper)) rfl (fun K hK => ?_) ?_
            · go_simp
              go_at_call 56
              have hbc := build_any 4 W4.heap.size 4 (fun i => if i = 0 then .func (.func 87) #[] #[.pointer (some ⟨W1.heap.size, 0, none⟩)] else if i = 1 then .func (.func 88) #[] #[.pointer (some ⟨W2.heap.size, 0, none⟩), .pointer (some ⟨W2.heap.size + 1, 0, none⟩)] else if i = 2 then .func (.func 96) #[] #[.pointer (some ⟨W3.heap.size + 1, 0, none⟩), .pointer (some ⟨W3.heap.size + 1 + 1, 0, none⟩), .pointer (some ⟨W3.heap.size, 0, none⟩)] else .func (.func 60) #[] #[]) M E WB (by decide) (by decide) hgB (fun i hi => by
                  rcases (by omega : i = 0 ∨ i = 1 ∨ i = 2 ∨ i = 3) with rfl | rfl | rfl | rfl
                  · exact hr0
                  · exact hr1
                  · exact hr2
                  · exact hr3) HS0.out.1 HS0.out.2.1 (fun i hi hE => by
                  rcases (by omega : i = 0 ∨ i = 1 ∨ i = 2 ∨ i = 3) with rfl | rfl | rfl | rfl
                  · exact ⟨87, _, rfl, enters_of Tryz.func87 (by kernel_rfl) rfl, fun W hW => H1.out W _ _ 2 (by omega) (C2.out.keep hW) (F4.out.keep hW)⟩
                  · exact ⟨88, _, rfl, enters_of Tryz.func88 (by kernel_rfl) rfl, fun W hW => H2.out hE W _ _ (C3a.out.keep hW) (C3b.out.keep hW)⟩
                  · exact ⟨96, _, rfl, enters_of Tryz.func96 (by kernel_rfl) rfl, fun W hW => H3.out hE W _ _ _ (C4b.out.keep hW) (C4c.out.keep hW) (C4a.out.keep hW)⟩
                  · exact ⟨60, _, rfl, enters_of Tryz.func60 (by kernel_rfl) rfl, fun W hW => H4.out hE W⟩) HS0.out.2.2
              refine hbc.mono ?_
              rintro e W9 ⟨rfl, B⟩
              have HXn := Lib.hid (HX.out.keep B HX.out.lt)
              have HDn := Lib.hid (HD.out.trans (B.mono HD.out.size))
              clear HX HD hbc
              have HX := HXn
              have HD := HDn
              clear HXn HDn
              (try go_wp2_with fail)
              refine hK.out _ _ ?_ (fun hHeld => ?_)
              · exact ⟨hHeld.1.keep B hHeld.1.lt, hHeld.2.keep B hHeld.2.lt⟩
              clear hK K
              (try simp only [Act.put, List.setIfInBounds_toArray, List.set_cons_zero, List.set_cons_succ])
              clear B
              refine wpAnyH_take (i := 16) (oi := ({ dst := some 22, op := Go.Op.extract (Go.Operand.tmp 21) 0, type := 23, pos := "rational.go:35", after := #[{ on := 15, ground := Go.Ground.data }], guard := none } : Oper)) (v := ?v16_11) rfl (by kernel_rfl) (by kernel_rfl) (by kernel_rfl) (fun _ _ _ h => h) (Or.inl ⟨by rfl, ?hy16_11⟩) (by assumption) ?re16_11
              case hy16_11 => ((intro w hSw; have e1 := hSw.1.c0; have e2 := hSw.1.c1; have e3 := hSw.2.c0; have e4 := hSw.2.c1; go_simp) <;> with_reducible rfl)
              (try simp only [Act.put, List.setIfInBounds_toArray, List.set_cons_zero, List.set_cons_succ])
              refine wpAnyH_take (i := 17) (oi := ({ dst := some 23, op := Go.Op.extract (Go.Operand.tmp 21) 1, type := 32, pos := "rational.go:35", after := #[{ on := 15, ground := Go.Ground.data }], guard := none } : Oper)) (v := ?v17_12) rfl (by kernel_rfl) (by kernel_rfl) (by kernel_rfl) (fun _ _ _ h => h) (Or.inl ⟨by rfl, ?hy17_12⟩) (by assumption) ?re17_12
              case hy17_12 => ((intro w hSw; have e1 := hSw.1.c0; have e2 := hSw.1.c1; have e3 := hSw.2.c0; have e4 := hSw.2.c1; go_simp) <;> with_reducible rfl)
              (try simp only [Act.put, List.setIfInBounds_toArray, List.set_cons_zero, List.set_cons_succ])
              refine wpAnyH_ready (rs := [18]) (by kernel_rfl) (by simp) ?_
              refine AllReadyH.cons (o := ({ dst := none, op := Go.Op.store 23 (Go.Operand.tmp 4) (Go.Operand.tmp 22), type := 0, pos := "rational.go:35", after := #[{ on := 16, ground := Go.Ground.data }, { on := 15, ground := Go.Ground.chain }, { on := 0, ground := Go.Ground.phase }, { on := 1, ground := Go.Ground.phase }, { on := 2, ground := Go.Ground.phase }, { on := 3, ground := Go.Ground.phase }, { on := 4, ground := Go.Ground.phase }, { on := 5, ground := Go.Ground.phase }, { on := 6, ground := Go.Ground.phase }, { on := 7, ground := Go.Ground.phase }, { on := 8, ground := Go.Ground.phase }, { on := 9, ground := Go.Ground.phase }, { on := 10, ground := Go.Ground.phase }, { on := 11, ground := Go.Ground.phase }, { on := 12, ground := Go.Ground.phase }, { on := 13, ground := Go.Ground.phase }, { on := 14, ground := Go.Ground.phase }, { on := 15, ground := Go.Ground.phase }, { on := 16, ground := Go.Ground.phase }, { on := 17, ground := Go.Ground.phase }], guard := none } : Oper)) rfl (fun K hK => ?_) ?_
              · have c0 := HX.out.c0
                have c1 := HX.out.c1
                have f0 := HX.out.f 0
                have f1 := HX.out.f 1
                have hs := HX.out.s0 (.string (M 4).1)
                have d1 := hs.c1
                have g1 := hs.f 1
                have HS := Lib.hid (hs.s1 (.string (M 4).2))
                have HBS := Lib.hid ((HD.out.setCell (p := ⟨w.heap.size + 1 + 1, 0, none⟩) (by show w.heap.size ≤ w.heap.size + 1 + 1; omega) (.string (M 4).1)).setCell (p := ⟨w.heap.size + 1 + 1, 1, none⟩) (by show w.heap.size ≤ w.heap.size + 1 + 1; omega) (.string (M 4).2))
                clear hs
                go_simp
                refine hK.out _ _ ?_ (fun hHeld => ?_)
                · exact ⟨(hHeld.1.keep ((Below.refl (w.heap.size + 1 + 1) _).setCell (p := ⟨w.heap.size + 1 + 1, 0, none⟩) (Nat.le_refl _) (.string (M 4).1)) (by omega)).keep ((Below.refl (w.heap.size + 1 + 1) _).setCell (p := ⟨w.heap.size + 1 + 1, 1, none⟩) (Nat.le_refl _) (.string (M 4).2)) (by omega), (hHeld.2.keep ((Below.refl (w.heap.size + 1 + 1) _).setCell (p := ⟨w.heap.size + 1 + 1, 0, none⟩) (Nat.le_refl _) (.string (M 4).1)) (by omega)).keep ((Below.refl (w.heap.size + 1 + 1) _).setCell (p := ⟨w.heap.size + 1 + 1, 1, none⟩) (Nat.le_refl _) (.string (M 4).2)) (by omega)⟩
                clear hK K
                (try simp only [Act.put, List.setIfInBounds_toArray, List.set_cons_zero, List.set_cons_succ])
                refine wpAnyH_take (i := 19) (oi := ({ dst := some 5, op := Go.Op.assign (Go.Operand.tmp 23), type := 32, pos := "rational.go:35", after := #[{ on := 17, ground := Go.Ground.data }, { on := 18, ground := Go.Ground.chain }, { on := 0, ground := Go.Ground.phase }, { on := 1, ground := Go.Ground.phase }, { on := 2, ground := Go.Ground.phase }, { on := 3, ground := Go.Ground.phase }, { on := 4, ground := Go.Ground.phase }, { on := 5, ground := Go.Ground.phase }, { on := 6, ground := Go.Ground.phase }, { on := 7, ground := Go.Ground.phase }, { on := 8, ground := Go.Ground.phase }, { on := 9, ground := Go.Ground.phase }, { on := 10, ground := Go.Ground.phase }, { on := 11, ground := Go.Ground.phase }, { on := 12, ground := Go.Ground.phase }, { on := 13, ground := Go.Ground.phase }, { on := 14, ground := Go.Ground.phase }, { on := 15, ground := Go.Ground.phase }, { on := 16, ground := Go.Ground.phase }, { on := 17, ground := Go.Ground.phase }, { on := 18, ground := Go.Ground.phase }], guard := none } : Oper)) (v := ?v19_13) rfl (by kernel_rfl) (by kernel_rfl) (by kernel_rfl) (fun _ _ _ h => h) (Or.inl ⟨by rfl, ?hy19_13⟩) (by assumption) ?re19_13
                case hy19_13 => ((intro w hSw; have e1 := hSw.1.c0; have e2 := hSw.1.c1; have e3 := hSw.2.c0; have e4 := hSw.2.c1; go_simp) <;> with_reducible rfl)
                (try simp only [Act.put, List.setIfInBounds_toArray, List.set_cons_zero, List.set_cons_succ])
                refine wpAnyH_done (by kernel_rfl) ?_ _
                refine NoPanic.normal ?_
                go_wp2_with fail
                refine bodyPost_ret (results_ratio rfl _ _ (w.heap.size + 1 + 1) _ _ rfl HS.out) rfl ?_
                exact ⟨rfl, HBS.out⟩
              exact AllReadyH.nil
            exact AllReadyH.nil
          exact AllReadyH.nil
        exact AllReadyH.nil
      exact AllReadyH.nil
    exact AllReadyH.nil
  exact AllReadyH.nil
theorem sub_rs (x y : Int) (hx : x.natAbs < 10 ^ 200) (hy : y.natAbs < 10 ^ 200) (W : World) :
    Calls Tryz.prog 71 #[.string (S x), .string (S y)] W fun e w' => e = .returned (.tuple #[.string ⟨(rs (x - y)).toArray⟩, .int .i64 (er (x - y))]) ∧ Below W.heap.size W w' := by
  have h := Sub_any (S x) (S y) (txt x) (txt y) W (S_list x) (S_list y) (S_len hx) (S_len hy)
  rw [txt_vld hx, txt_vld hy, Bool.and_true, txt_num, txt_num, res, ree, if_pos rfl, if_pos rfl] at h
  exact h
theorem sub_no (x : Int) (hx : x.natAbs < 10 ^ 200) (W : World) :
    Calls Tryz.prog 71 #[.string (S x), .string ⟨#[]⟩] W fun e w' => e = .returned (.tuple #[.string ⟨#[]⟩, .int .i64 30]) ∧ Below W.heap.size W w' := by
  have h := Sub_any (S x) ⟨#[]⟩ (txt x) [] W (S_list x) rfl (S_len hx) (by decide)
  rw [show vld [] = false by decide, Bool.and_false, res_f, ree_f] at h
  exact h
set_option maxHeartbeats 1000000 in
theorem qSub_R (a b : Rat) (ha : fitR 200 a) (hb : fitR 200 b) (w : World) :
    Calls Tryz.prog 40 #[RV a, RV b] w fun e w' => e = .returned (opQ (okS a b) (a - b)) ∧ Below w.heap.size w w' := by
  have hA := den_abs a ha
  have hB := den_abs b hb
  have ht : ∀ W p q, CS W p (.string (S (b.den : Int))) → CS W q (.string (S (b.den : Int))) → _ := fun W p q cp cq => times1_any (S a.num) (S (a.den : Int)) (S (b.den : Int)) (S (b.den : Int)) _ _ _ _ (er_two (a.num * b.den)) (er_two (a.den * b.den)) p q W cp cq (mul_rs a.num b.den ha.1 hB) (mul_rs a.den b.den hA hB)
  rw [okS]
  cases hx : fits (a.num * b.den)
  · have h := qSub_walk (S a.num) (S (a.den : Int)) (S b.num) (S (b.den : Int)) (fun i => match i with | 0 => (⟨#[]⟩, ⟨#[]⟩) | 1 => (S a.num, S (a.den : Int)) | _ => (⟨#[]⟩, ⟨#[]⟩)) (fun i => match i with | 0 => 0 | 1 => 0 | _ => 40) w rfl rfl (fun i hi h => by
      rcases (by omega : i = 0 ∨ i = 1 ∨ i = 2 ∨ i = 3) with rfl | rfl | rfl | rfl <;> first | exact absurd rfl h | exact ⟨rfl, rfl⟩)
      (fun W p g cap hc hp hf => start_R a b ha hb W p g cap _ hc hp hf)
      (fun _ W p q cp cq => by
        have h := ht W p q cp cq
        rw [er_n hx, if_neg (by omega), if_neg (by omega), if_neg (by omega)] at h
        exact h) (fun h => absurd (show (40 : Int) = 0 from h) (by decide)) (fun h => absurd (show (40 : Int) = 0 from h) (by decide))
    rw [Bool.false_and, Bool.false_and, Bool.false_and]; exact h
  · cases hd : fits (a.den * b.den)
    · have h := qSub_walk (S a.num) (S (a.den : Int)) (S b.num) (S (b.den : Int)) (fun i => match i with | 0 => (⟨#[]⟩, ⟨#[]⟩) | 1 => (S a.num, S (a.den : Int)) | _ => (⟨#[]⟩, ⟨#[]⟩)) (fun i => match i with | 0 => 0 | 1 => 0 | _ => 40) w rfl rfl (fun i hi h => by
      rcases (by omega : i = 0 ∨ i = 1 ∨ i = 2 ∨ i = 3) with rfl | rfl | rfl | rfl <;> first | exact absurd rfl h | exact ⟨rfl, rfl⟩)
        (fun W p g cap hc hp hf => start_R a b ha hb W p g cap _ hc hp hf)
        (fun _ W p q cp cq => by
          have h := ht W p q cp cq
          rw [er_n hd, if_neg (by omega), if_neg (by omega), if_neg (by omega)] at h
          exact h) (fun h => absurd (show (40 : Int) = 0 from h) (by decide)) (fun h => absurd (show (40 : Int) = 0 from h) (by decide))
      rw [Bool.and_false, Bool.false_and]; exact h
    · have h2 : ∀ W p q, CS W p (.string (S (b.den : Int))) → CS W q (.string (S (b.den : Int))) → StepOK 88 #[.pointer (some ⟨p, 0, none⟩), .pointer (some ⟨q, 0, none⟩)] (S a.num, S (a.den : Int)) (S (a.num * b.den), S ((a.den * b.den) : Int)) 0 W := fun W p q cp cq => by
        have h := ht W p q cp cq
        rw [er_f hx, er_f hd, if_pos ⟨rfl, rfl⟩, if_pos ⟨rfl, rfl⟩, if_pos ⟨rfl, rfl⟩, rs_f hx, rs_f hd] at h
        exact h
      have px := of_decide_eq_true hx
      have pd := of_decide_eq_true hd
      have hen : ∀ args W, (callFunc 71 args).run Tryz.prog W = .ok (.enter 71 args) W := enters_of Tryz.func71 (by kernel_rfl) rfl
      cases hz : fits (b.num * a.den)
      · have h3 : ∀ W p q r, CS W p (.string (S b.num)) → CS W q (.string (S (a.den : Int))) → CS W r (.func (.func 71) #[] #[]) → StepOK 96 #[.pointer (some ⟨p, 0, none⟩), .pointer (some ⟨q, 0, none⟩), .pointer (some ⟨r, 0, none⟩)] (S (a.num * b.den), S ((a.den * b.den) : Int)) (⟨#[]⟩, ⟨#[]⟩) 40 W := fun W p q r cp cq cr => by
          have h := combine2_any (S (a.num * b.den)) (S ((a.den * b.den) : Int)) (S b.num) (S (a.den : Int)) _ ⟨#[]⟩ 71 _ 30 (er_two (b.num * a.den)) (.inr rfl) p q r W cp cq cr hen (mul_rs b.num a.den hb.1 hA) (by rw [rs_n hz]; exact sub_no _ px)
          rw [er_n hz, if_neg (by omega), if_neg (by omega), if_neg (by omega)] at h
          exact h
        have h := qSub_walk (S a.num) (S (a.den : Int)) (S b.num) (S (b.den : Int)) (fun i => match i with | 0 => (⟨#[]⟩, ⟨#[]⟩) | 1 => (S a.num, S (a.den : Int)) | 2 => (S (a.num * b.den), S ((a.den * b.den) : Int)) | _ => (⟨#[]⟩, ⟨#[]⟩)) (fun i => match i with | 0 => 0 | 1 => 0 | 2 => 0 | _ => 40) w rfl rfl (fun i hi h => by
      rcases (by omega : i = 0 ∨ i = 1 ∨ i = 2 ∨ i = 3) with rfl | rfl | rfl | rfl <;> first | exact absurd rfl h | exact ⟨rfl, rfl⟩)
          (fun W p g cap hc hp hf => start_R a b ha hb W p g cap _ hc hp hf) (fun _ => h2) (fun _ => h3) (fun h => absurd (show (40 : Int) = 0 from h) (by decide))
        rw [Bool.and_false, Bool.false_and, Bool.false_and]; exact h
      · have pz := of_decide_eq_true hz
        have hc : ∀ W p q r, CS W p (.string (S b.num)) → CS W q (.string (S (a.den : Int))) → CS W r (.func (.func 71) #[] #[]) → _ := fun W p q r cp cq cr =>
          combine2_any (S (a.num * b.den)) (S ((a.den * b.den) : Int)) (S b.num) (S (a.den : Int)) _ _ 71 _ _ (er_two (b.num * a.den)) (er_two ((a.num * b.den) - (b.num * a.den))) p q r W cp cq cr hen (mul_rs b.num a.den hb.1 hA) (by rw [rs_f hz]; exact sub_rs _ _ px pz)
        cases hs : fits ((a.num * b.den) - (b.num * a.den))
        · have h := qSub_walk (S a.num) (S (a.den : Int)) (S b.num) (S (b.den : Int)) (fun i => match i with | 0 => (⟨#[]⟩, ⟨#[]⟩) | 1 => (S a.num, S (a.den : Int)) | 2 => (S (a.num * b.den), S ((a.den * b.den) : Int)) | _ => (⟨#[]⟩, ⟨#[]⟩)) (fun i => match i with | 0 => 0 | 1 => 0 | 2 => 0 | _ => 40) w rfl rfl (fun i hi h => by
      rcases (by omega : i = 0 ∨ i = 1 ∨ i = 2 ∨ i = 3) with rfl | rfl | rfl | rfl <;> first | exact absurd rfl h | exact ⟨rfl, rfl⟩)
            (fun W p g cap hc hp hf => start_R a b ha hb W p g cap _ hc hp hf) (fun _ => h2) (fun _ W p q r cp cq cr => by
              have h := hc W p q r cp cq cr
              rw [er_n hs, if_neg (by omega), if_neg (by omega), if_neg (by omega)] at h
              exact h) (fun h => absurd (show (40 : Int) = 0 from h) (by decide))
          rw [Bool.and_false]; exact h
        · have ps := of_decide_eq_true hs
          have d0 : ((a.den * b.den) : Int) ≠ 0 := by have := Int.mul_pos (den_pos a) (den_pos b); omega
          have h := qSub_walk (S a.num) (S (a.den : Int)) (S b.num) (S (b.den : Int)) (fun i => match i with | 0 => (⟨#[]⟩, ⟨#[]⟩) | 1 => (S a.num, S (a.den : Int)) | 2 => (S (a.num * b.den), S ((a.den * b.den) : Int)) | 3 => (S ((a.num * b.den) - (b.num * a.den)), S ((a.den * b.den) : Int)) | _ => (S (Rat.divInt ((a.num * b.den) - (b.num * a.den)) (a.den * b.den)).num, S ((Rat.divInt ((a.num * b.den) - (b.num * a.den)) (a.den * b.den)).den : Int))) (fun i => match i with | 0 => 0 | _ => 0) w rfl rfl (fun i hi h => by
      rcases (by omega : i = 0 ∨ i = 1 ∨ i = 2 ∨ i = 3) with rfl | rfl | rfl | rfl <;> first | exact absurd rfl h | exact ⟨rfl, rfl⟩)
            (fun W p g cap hc hp hf => start_R a b ha hb W p g cap _ hc hp hf) (fun _ => h2) (fun _ W p q r cp cq cr => by
              have h := hc W p q r cp cq cr
              rw [er_f hs, er_f hz, if_pos ⟨rfl, rfl⟩, if_pos ⟨rfl, rfl⟩, if_pos ⟨rfl, rfl⟩, rs_f hs] at h
              exact h) (fun _ W => reduced_R _ _ ps pd d0 W)
          have e : a - b = Rat.divInt ((a.num * b.den) - (b.num * a.den)) (a.den * b.den) := by rw [Rat.sub_def', ← Rat.divInt_ofNat, Int.natCast_mul]
          rw [e]; exact h
theorem okS_zero (a : Rat) (ha : fitR 200 a) : okS 0 a = true := by
  have h1 := ha.1
  have h2 := den_abs a ha
  rw [okS, Rat.zero_num, Rat.zero_den, Int.zero_mul]
  rw [show fits 0 = true by decide, show fits (a.num * ((1 : Nat) : Int)) = true from decide_eq_true (by omega), show fits (((1 : Nat) : Int) * (a.den : Int)) = true from decide_eq_true (by omega), show fits (0 - a.num * ((1 : Nat) : Int)) = true from decide_eq_true (by omega)]
  rfl
set_option maxRecDepth 100000 in
set_option maxHeartbeats 4000000 in
theorem minus_R (a : Rat) (ha : fitR 200 a) (w : World) :
    Calls Tryz.prog 42 #[RV a] w fun e w' => e = .returned (RV (-a)) ∧ Below w.heap.size w w' := by
  have c := fun W => qSub_R 0 a (by exact ⟨by decide, by decide⟩) ha W
  rw [okS_zero a ha, opQ, if_pos rfl, RV_zero, show (0 : Rat) - a = -a by rw [Rat.sub_eq_add_neg, Rat.zero_add]] at c
  unfold RV at c ⊢
  generalize S a.num = s1 at *
  generalize S (a.den : Int) = s2 at *
  generalize S (-a).num = x1 at *
  generalize S ((-a).den : Int) = x2 at *
  have C := Lib.hid c
  clear c ha
  obtain ⟨r1, r2⟩ := two_ratios w (.string s1) (.string s2) (.string ⟨#[]⟩) (.string ⟨#[]⟩)
  have HB := Lib.hid ((below_alloc w (.cells #[.string s1, .string s2] 23)).alloc (by rw [World.size_alloc]; omega) (.cells #[.string ⟨#[]⟩, .string ⟨#[]⟩] 23))
  have A := Lib.hid r1
  have Z := Lib.hid r2
  clear r1 r2
  go_enter Tryz.func42, Tryz.ntmps42
  go_upto_region 1 with fail
  generalize hW01 : ((w.alloc (.cells #[.string s1, .string s2] 23)).alloc (.cells #[.string ⟨#[]⟩, .string ⟨#[]⟩] 23)) = W01 at *
  clear hW01
  apply join_two (fun gJ WJ => Hid (RBlk WJ (w.heap.size) (.string s1) (.string s2) ∧ RBlk WJ (w.heap.size + 1) (.string ⟨#[]⟩) (.string ⟨#[]⟩) ∧ RBlk WJ gJ (.string x1) (.string x2) ∧ Below w.heap.size w WJ))
  case m =>
    intro HJ
    refine wp_region_noPanic ?_
    refine wp_region_held_drew (S := fun W => RBlk W (w.heap.size) (.string s1) (.string s2)) (by kernel_rfl) ?_ (fun hHeld => ?_)
    · exact A.out
    have A := Lib.hid A.out.drew
    have Z := Lib.hid Z.out.drew
    have HB := Lib.hid HB.out.drew
    refine wpAnyH_take (i := 1) (oi := ({ dst := some 7, op := Go.Op.load 23 (Go.Operand.tmp 1), type := 23, pos := "law.go:29", after := #[], guard := none } : Oper)) (v := ?v1_1_1_1) rfl (by kernel_rfl) (by kernel_rfl) (by kernel_rfl) (fun _ _ _ h => h) (Or.inl ⟨by rfl, ?hy1_1_1_1⟩) (by assumption) ?re1_1_1_1
    case hy1_1_1_1 => ((intro w hSw; have e00 := hSw.c0; have e01 := hSw.c1; go_simp) <;> with_reducible rfl)
    (try simp only [Act.put, List.setIfInBounds_toArray, List.set_cons_zero, List.set_cons_succ])
    refine wpAnyH_ready (rs := [0, 6]) (by kernel_rfl) (by simp) ?_
    refine AllReadyH.cons (o := ({ dst := some 6, op := Go.Op.call { callee := Go.Callee.value (Go.Operand.func 41), args := #[Go.Operand.const (Go.Value.string { data := #[48] }), Go.Operand.const (Go.Value.string { data := #[49] })], argTypes := #[9, 9] }, type := 23, pos := "law.go:29", after := #[], guard := none } : Oper)) rfl (fun K hK => ?_) ?_
    · go_simp
      go_at_call 41
      refine (is_any _ _ _).mono ?_
      rintro e W1_1 ⟨rfl, B⟩
      have A := Lib.hid (A.out.keep B A.out.lt)
      have Z := Lib.hid (Z.out.keep B Z.out.lt)
      have HB := Lib.hid (HB.out.trans (B.mono HB.out.size))
      (try go_wp2_with fail)
      refine hK.out _ _ ?_ (fun hHeld => ?_)
      · exact hHeld.keep B hHeld.lt
      clear hK K
      (try simp only [Act.put, List.setIfInBounds_toArray, List.set_cons_zero, List.set_cons_succ])
      clear B
      refine wpAnyH_ready (rs := [2, 6]) (by kernel_rfl) (by simp) ?_
      refine AllReadyH.cons (o := ({ dst := some 8, op := Go.Op.call { callee := Go.Callee.value (Go.Operand.func 40), args := #[Go.Operand.tmp 6, Go.Operand.tmp 7], argTypes := #[23, 23] }, type := 36, pos := "law.go:29", after := #[{ on := 0, ground := Go.Ground.data }, { on := 1, ground := Go.Ground.data }, { on := 0, ground := Go.Ground.chain }], guard := none } : Oper)) rfl (fun K hK => ?_) ?_
      · go_simp
        go_at_call 40
        refine (C.out _).mono ?_
        rintro e W1_2 ⟨rfl, B⟩
        have A := Lib.hid (A.out.keep B A.out.lt)
        have Z := Lib.hid (Z.out.keep B Z.out.lt)
        have HB := Lib.hid (HB.out.trans (B.mono HB.out.size))
        (try go_wp2_with fail)
        refine hK.out _ _ ?_ (fun hHeld => ?_)
        · exact hHeld.keep B hHeld.lt
        clear hK K
        (try simp only [Act.put, List.setIfInBounds_toArray, List.set_cons_zero, List.set_cons_succ])
        clear B
        refine wpAnyH_take (i := 3) (oi := ({ dst := some 5, op := Go.Op.move (Go.Operand.tmp 8), type := 36, pos := "law.go:29", after := #[{ on := 2, ground := Go.Ground.data }], guard := none } : Oper)) (v := ?v3_2_1_1) rfl (by kernel_rfl) (by kernel_rfl) (by kernel_rfl) (fun _ _ _ h => h) (Or.inl ⟨by rfl, ?hy3_2_1_1⟩) (by assumption) ?re3_2_1_1
        case hy3_2_1_1 => ((intro w hSw; have e00 := hSw.c0; have e01 := hSw.c1; go_simp) <;> with_reducible rfl)
        (try simp only [Act.put, List.setIfInBounds_toArray, List.set_cons_zero, List.set_cons_succ])
        refine wpAnyH_take (i := 4) (oi := ({ dst := some 9, op := Go.Op.extract (Go.Operand.tmp 5) 0, type := 23, pos := "law.go:29", after := #[{ on := 3, ground := Go.Ground.data }], guard := none } : Oper)) (v := ?v4_3_1_1) rfl (by kernel_rfl) (by kernel_rfl) (by kernel_rfl) (fun _ _ _ h => h) (Or.inl ⟨by rfl, ?hy4_3_1_1⟩) (by assumption) ?re4_3_1_1
        case hy4_3_1_1 => ((intro w hSw; have e00 := hSw.c0; have e01 := hSw.c1; go_simp) <;> with_reducible rfl)
        (try simp only [Act.put, List.setIfInBounds_toArray, List.set_cons_zero, List.set_cons_succ])
        refine wpAnyH_take (i := 5) (oi := ({ dst := some 10, op := Go.Op.extract (Go.Operand.tmp 5) 1, type := 32, pos := "law.go:29", after := #[{ on := 3, ground := Go.Ground.data }, { on := 7, ground := Go.Ground.gcOnly Go.Departure.lateStores }], guard := none } : Oper)) (v := ?v5_4_1_1) rfl (by kernel_rfl) (by kernel_rfl) (by kernel_rfl) (fun _ _ _ h => h) (Or.inl ⟨by rfl, ?hy5_4_1_1⟩) (by assumption) ?re5_4_1_1
        case hy5_4_1_1 => ((intro w hSw; have e00 := hSw.c0; have e01 := hSw.c1; go_simp) <;> with_reducible rfl)
        (try simp only [Act.put, List.setIfInBounds_toArray, List.set_cons_zero, List.set_cons_succ])
        refine wpAnyH_ready (rs := [6]) (by kernel_rfl) (by simp) ?_
        refine AllReadyH.cons (o := ({ dst := some 3, op := Go.Op.alloc 23, type := 0, pos := "law.go:29", after := #[], guard := none } : Oper)) rfl (fun K hK => ?_) ?_
        · go_simp
          obtain ⟨WA1_3, hWA1_3⟩ : ∃ W, W = (W1_2.alloc (.cells #[.string ⟨#[]⟩, .string ⟨#[]⟩] 23)) := ⟨_, rfl⟩
          rw [← hWA1_3]
          have V : Hid (RBlk WA1_3 W1_2.heap.size (.string ⟨#[]⟩) (.string ⟨#[]⟩)) := Lib.hid (by rw [hWA1_3]; exact RBlk.new W1_2 (.string ⟨#[]⟩) (.string ⟨#[]⟩))
          have gV : w.heap.size ≤ W1_2.heap.size := HB.out.size
          have neVA : (w.heap.size) ≠ W1_2.heap.size := Nat.ne_of_lt A.out.lt
          have neVZ : (w.heap.size + 1) ≠ W1_2.heap.size := Nat.ne_of_lt Z.out.lt
          have hk : (fun W => RBlk W (w.heap.size) (.string s1) (.string s2)) WA1_3 := by rw [hWA1_3]; exact hHeld.alloc _
          have A : Hid (RBlk WA1_3 (w.heap.size) (.string s1) (.string s2)) := Lib.hid (by rw [hWA1_3]; exact A.out.alloc _)
          have Z : Hid (RBlk WA1_3 (w.heap.size + 1) (.string ⟨#[]⟩) (.string ⟨#[]⟩)) := Lib.hid (by rw [hWA1_3]; exact Z.out.alloc _)
          have HB : Hid (Below w.heap.size w WA1_3) := Lib.hid (by rw [hWA1_3]; exact HB.out.alloc HB.out.size _)
          clear hWA1_3
          refine hK.out _ _ ?_ (fun hHeld => ?_)
          · exact hk
          clear hK K
          (try simp only [Act.put, List.setIfInBounds_toArray, List.set_cons_zero, List.set_cons_succ])
          clear hk
          refine wpAnyH_ready (rs := [7]) (by kernel_rfl) (by simp) ?_
          refine AllReadyH.cons (o := ({ dst := none, op := Go.Op.store 23 (Go.Operand.tmp 3) (Go.Operand.tmp 9), type := 0, pos := "law.go:29", after := #[{ on := 6, ground := Go.Ground.data }, { on := 4, ground := Go.Ground.data }, { on := 2, ground := Go.Ground.chain }, { on := 0, ground := Go.Ground.phase }, { on := 1, ground := Go.Ground.phase }, { on := 2, ground := Go.Ground.phase }, { on := 3, ground := Go.Ground.phase }, { on := 4, ground := Go.Ground.phase }, { on := 5, ground := Go.Ground.textOnly Go.Departure.lateStores }, { on := 6, ground := Go.Ground.phase }], guard := none } : Oper)) rfl (fun K hK => ?_) ?_
          · have c0 := V.out.c0
            have c1 := V.out.c1
            have f0 := V.out.f 0
            have f1 := V.out.f 1
            have hs := V.out.s0 (.string x1)
            have d1 := hs.c1
            have g1 := hs.f 1
            go_simp
            have Vn := Lib.hid (hs.s1 (.string x2))
            have An := Lib.hid ((A.out.other ⟨W1_2.heap.size, 0, none⟩ (.string x1) neVA).other ⟨W1_2.heap.size, 1, none⟩ (.string x2) neVA)
            have Zn := Lib.hid ((Z.out.other ⟨W1_2.heap.size, 0, none⟩ (.string x1) neVZ).other ⟨W1_2.heap.size, 1, none⟩ (.string x2) neVZ)
            have HBn := Lib.hid ((HB.out.setCell (p := ⟨W1_2.heap.size, 0, none⟩) gV (.string x1)).setCell (p := ⟨W1_2.heap.size, 1, none⟩) gV (.string x2))
            clear hs c0 c1 f0 f1 d1 g1
            have V := Vn
            have A := An
            have Z := Zn
            have HB := HBn
            clear Vn An Zn HBn
            refine hK.out _ _ ?_ (fun hHeld => ?_)
            · exact (hHeld.other ⟨W1_2.heap.size, 0, none⟩ (.string x1) neVA).other ⟨W1_2.heap.size, 1, none⟩ (.string x2) neVA
            clear hK K
            (try simp only [Act.put, List.setIfInBounds_toArray, List.set_cons_zero, List.set_cons_succ])
            refine wpAnyH_take (i := 8) (oi := ({ dst := some 4, op := Go.Op.assign (Go.Operand.tmp 10), type := 32, pos := "law.go:29", after := #[{ on := 5, ground := Go.Ground.data }, { on := 7, ground := Go.Ground.chain }, { on := 0, ground := Go.Ground.phase }, { on := 1, ground := Go.Ground.phase }, { on := 2, ground := Go.Ground.phase }, { on := 3, ground := Go.Ground.phase }, { on := 4, ground := Go.Ground.phase }, { on := 5, ground := Go.Ground.phase }, { on := 6, ground := Go.Ground.phase }, { on := 7, ground := Go.Ground.phase }], guard := none } : Oper)) (v := ?v8_5_1_1) rfl (by kernel_rfl) (by kernel_rfl) (by kernel_rfl) (fun _ _ _ h => h) (Or.inl ⟨by rfl, ?hy8_5_1_1⟩) (by assumption) ?re8_5_1_1
            case hy8_5_1_1 => ((intro w hSw; have e00 := hSw.c0; have e01 := hSw.c1; go_simp) <;> with_reducible rfl)
            (try simp only [Act.put, List.setIfInBounds_toArray, List.set_cons_zero, List.set_cons_succ])
            refine wpAnyH_done (by kernel_rfl) ?_ _
            refine NoPanic.normal ?_
            generalize hWJ : ((WA1_3.setCell ⟨W1_2.heap.size, 0, none⟩ (.string x1)).setCell ⟨W1_2.heap.size, 1, none⟩ (.string x2)) = WJ at *
            clear hWJ
            generalize hgJ : W1_2.heap.size = gJ at *
            clear hgJ
            exact HJ gJ WJ (Lib.hid ⟨A.out, Z.out, V.out, HB.out⟩)
          exact AllReadyH.nil
        exact AllReadyH.nil
      refine AllReadyH.cons (o := ({ dst := some 3, op := Go.Op.alloc 23, type := 0, pos := "law.go:29", after := #[], guard := none } : Oper)) rfl (fun K hK => ?_) ?_
      · go_simp
        obtain ⟨WA1_5, hWA1_5⟩ : ∃ W, W = (W1_1.alloc (.cells #[.string ⟨#[]⟩, .string ⟨#[]⟩] 23)) := ⟨_, rfl⟩
        rw [← hWA1_5]
        have V : Hid (RBlk WA1_5 W1_1.heap.size (.string ⟨#[]⟩) (.string ⟨#[]⟩)) := Lib.hid (by rw [hWA1_5]; exact RBlk.new W1_1 (.string ⟨#[]⟩) (.string ⟨#[]⟩))
        have gV : w.heap.size ≤ W1_1.heap.size := HB.out.size
        have neVA : (w.heap.size) ≠ W1_1.heap.size := Nat.ne_of_lt A.out.lt
        have neVZ : (w.heap.size + 1) ≠ W1_1.heap.size := Nat.ne_of_lt Z.out.lt
        have hk : (fun W => RBlk W (w.heap.size) (.string s1) (.string s2)) WA1_5 := by rw [hWA1_5]; exact hHeld.alloc _
        have A : Hid (RBlk WA1_5 (w.heap.size) (.string s1) (.string s2)) := Lib.hid (by rw [hWA1_5]; exact A.out.alloc _)
        have Z : Hid (RBlk WA1_5 (w.heap.size + 1) (.string ⟨#[]⟩) (.string ⟨#[]⟩)) := Lib.hid (by rw [hWA1_5]; exact Z.out.alloc _)
        have HB : Hid (Below w.heap.size w WA1_5) := Lib.hid (by rw [hWA1_5]; exact HB.out.alloc HB.out.size _)
        clear hWA1_5
        refine hK.out _ _ ?_ (fun hHeld => ?_)
        · exact hk
        clear hK K
        (try simp only [Act.put, List.setIfInBounds_toArray, List.set_cons_zero, List.set_cons_succ])
        clear hk
        refine wpAnyH_ready (rs := [2]) (by kernel_rfl) (by simp) ?_
        refine AllReadyH.cons (o := ({ dst := some 8, op := Go.Op.call { callee := Go.Callee.value (Go.Operand.func 40), args := #[Go.Operand.tmp 6, Go.Operand.tmp 7], argTypes := #[23, 23] }, type := 36, pos := "law.go:29", after := #[{ on := 0, ground := Go.Ground.data }, { on := 1, ground := Go.Ground.data }, { on := 0, ground := Go.Ground.chain }], guard := none } : Oper)) rfl (fun K hK => ?_) ?_
        · go_simp
          go_at_call 40
          refine (C.out _).mono ?_
          rintro e W1_6 ⟨rfl, B⟩
          have A := Lib.hid (A.out.keep B A.out.lt)
          have Z := Lib.hid (Z.out.keep B Z.out.lt)
          have V := Lib.hid (V.out.keep B V.out.lt)
          have HB := Lib.hid (HB.out.trans (B.mono HB.out.size))
          (try go_wp2_with fail)
          refine hK.out _ _ ?_ (fun hHeld => ?_)
          · exact hHeld.keep B hHeld.lt
          clear hK K
          (try simp only [Act.put, List.setIfInBounds_toArray, List.set_cons_zero, List.set_cons_succ])
          clear B
          refine wpAnyH_take (i := 3) (oi := ({ dst := some 5, op := Go.Op.move (Go.Operand.tmp 8), type := 36, pos := "law.go:29", after := #[{ on := 2, ground := Go.Ground.data }], guard := none } : Oper)) (v := ?v3_6_1_1) rfl (by kernel_rfl) (by kernel_rfl) (by kernel_rfl) (fun _ _ _ h => h) (Or.inl ⟨by rfl, ?hy3_6_1_1⟩) (by assumption) ?re3_6_1_1
          case hy3_6_1_1 => ((intro w hSw; have e00 := hSw.c0; have e01 := hSw.c1; go_simp) <;> with_reducible rfl)
          (try simp only [Act.put, List.setIfInBounds_toArray, List.set_cons_zero, List.set_cons_succ])
          refine wpAnyH_take (i := 4) (oi := ({ dst := some 9, op := Go.Op.extract (Go.Operand.tmp 5) 0, type := 23, pos := "law.go:29", after := #[{ on := 3, ground := Go.Ground.data }], guard := none } : Oper)) (v := ?v4_7_1_1) rfl (by kernel_rfl) (by kernel_rfl) (by kernel_rfl) (fun _ _ _ h => h) (Or.inl ⟨by rfl, ?hy4_7_1_1⟩) (by assumption) ?re4_7_1_1
          case hy4_7_1_1 => ((intro w hSw; have e00 := hSw.c0; have e01 := hSw.c1; go_simp) <;> with_reducible rfl)
          (try simp only [Act.put, List.setIfInBounds_toArray, List.set_cons_zero, List.set_cons_succ])
          refine wpAnyH_take (i := 5) (oi := ({ dst := some 10, op := Go.Op.extract (Go.Operand.tmp 5) 1, type := 32, pos := "law.go:29", after := #[{ on := 3, ground := Go.Ground.data }, { on := 7, ground := Go.Ground.gcOnly Go.Departure.lateStores }], guard := none } : Oper)) (v := ?v5_8_1_1) rfl (by kernel_rfl) (by kernel_rfl) (by kernel_rfl) (fun _ _ _ h => h) (Or.inl ⟨by rfl, ?hy5_8_1_1⟩) (by assumption) ?re5_8_1_1
          case hy5_8_1_1 => ((intro w hSw; have e00 := hSw.c0; have e01 := hSw.c1; go_simp) <;> with_reducible rfl)
          (try simp only [Act.put, List.setIfInBounds_toArray, List.set_cons_zero, List.set_cons_succ])
          refine wpAnyH_ready (rs := [7]) (by kernel_rfl) (by simp) ?_
          refine AllReadyH.cons (o := ({ dst := none, op := Go.Op.store 23 (Go.Operand.tmp 3) (Go.Operand.tmp 9), type := 0, pos := "law.go:29", after := #[{ on := 6, ground := Go.Ground.data }, { on := 4, ground := Go.Ground.data }, { on := 2, ground := Go.Ground.chain }, { on := 0, ground := Go.Ground.phase }, { on := 1, ground := Go.Ground.phase }, { on := 2, ground := Go.Ground.phase }, { on := 3, ground := Go.Ground.phase }, { on := 4, ground := Go.Ground.phase }, { on := 5, ground := Go.Ground.textOnly Go.Departure.lateStores }, { on := 6, ground := Go.Ground.phase }], guard := none } : Oper)) rfl (fun K hK => ?_) ?_
          · have c0 := V.out.c0
            have c1 := V.out.c1
            have f0 := V.out.f 0
            have f1 := V.out.f 1
            have hs := V.out.s0 (.string x1)
            have d1 := hs.c1
            have g1 := hs.f 1
            go_simp
            have Vn := Lib.hid (hs.s1 (.string x2))
            have An := Lib.hid ((A.out.other ⟨W1_1.heap.size, 0, none⟩ (.string x1) neVA).other ⟨W1_1.heap.size, 1, none⟩ (.string x2) neVA)
            have Zn := Lib.hid ((Z.out.other ⟨W1_1.heap.size, 0, none⟩ (.string x1) neVZ).other ⟨W1_1.heap.size, 1, none⟩ (.string x2) neVZ)
            have HBn := Lib.hid ((HB.out.setCell (p := ⟨W1_1.heap.size, 0, none⟩) gV (.string x1)).setCell (p := ⟨W1_1.heap.size, 1, none⟩) gV (.string x2))
            clear hs c0 c1 f0 f1 d1 g1
            have V := Vn
            have A := An
            have Z := Zn
            have HB := HBn
            clear Vn An Zn HBn
            refine hK.out _ _ ?_ (fun hHeld => ?_)
            · exact (hHeld.other ⟨W1_1.heap.size, 0, none⟩ (.string x1) neVA).other ⟨W1_1.heap.size, 1, none⟩ (.string x2) neVA
            clear hK K
            (try simp only [Act.put, List.setIfInBounds_toArray, List.set_cons_zero, List.set_cons_succ])
            refine wpAnyH_take (i := 8) (oi := ({ dst := some 4, op := Go.Op.assign (Go.Operand.tmp 10), type := 32, pos := "law.go:29", after := #[{ on := 5, ground := Go.Ground.data }, { on := 7, ground := Go.Ground.chain }, { on := 0, ground := Go.Ground.phase }, { on := 1, ground := Go.Ground.phase }, { on := 2, ground := Go.Ground.phase }, { on := 3, ground := Go.Ground.phase }, { on := 4, ground := Go.Ground.phase }, { on := 5, ground := Go.Ground.phase }, { on := 6, ground := Go.Ground.phase }, { on := 7, ground := Go.Ground.phase }], guard := none } : Oper)) (v := ?v8_9_1_1) rfl (by kernel_rfl) (by kernel_rfl) (by kernel_rfl) (fun _ _ _ h => h) (Or.inl ⟨by rfl, ?hy8_9_1_1⟩) (by assumption) ?re8_9_1_1
            case hy8_9_1_1 => ((intro w hSw; have e00 := hSw.c0; have e01 := hSw.c1; go_simp) <;> with_reducible rfl)
            (try simp only [Act.put, List.setIfInBounds_toArray, List.set_cons_zero, List.set_cons_succ])
            refine wpAnyH_done (by kernel_rfl) ?_ _
            refine NoPanic.normal ?_
            generalize hWJ : ((W1_6.setCell ⟨W1_1.heap.size, 0, none⟩ (.string x1)).setCell ⟨W1_1.heap.size, 1, none⟩ (.string x2)) = WJ at *
            clear hWJ
            generalize hgJ : W1_1.heap.size = gJ at *
            clear hgJ
            exact HJ gJ WJ (Lib.hid ⟨A.out, Z.out, V.out, HB.out⟩)
          exact AllReadyH.nil
        exact AllReadyH.nil
      exact AllReadyH.nil
    refine AllReadyH.cons (o := ({ dst := some 3, op := Go.Op.alloc 23, type := 0, pos := "law.go:29", after := #[], guard := none } : Oper)) rfl (fun K hK => ?_) ?_
    · go_simp
      obtain ⟨WA1_8, hWA1_8⟩ : ∃ W, W = (W01.alloc (.cells #[.string ⟨#[]⟩, .string ⟨#[]⟩] 23)).drew := ⟨_, rfl⟩
      rw [← hWA1_8]
      have V : Hid (RBlk WA1_8 W01.heap.size (.string ⟨#[]⟩) (.string ⟨#[]⟩)) := Lib.hid (by rw [hWA1_8]; exact RBlk.new W01 (.string ⟨#[]⟩) (.string ⟨#[]⟩))
      have gV : w.heap.size ≤ W01.heap.size := HB.out.size
      have neVA : (w.heap.size) ≠ W01.heap.size := Nat.ne_of_lt A.out.lt
      have neVZ : (w.heap.size + 1) ≠ W01.heap.size := Nat.ne_of_lt Z.out.lt
      have hk : (fun W => RBlk W (w.heap.size) (.string s1) (.string s2)) WA1_8 := by rw [hWA1_8]; exact hHeld.alloc _
      have A : Hid (RBlk WA1_8 (w.heap.size) (.string s1) (.string s2)) := Lib.hid (by rw [hWA1_8]; exact A.out.alloc _)
      have Z : Hid (RBlk WA1_8 (w.heap.size + 1) (.string ⟨#[]⟩) (.string ⟨#[]⟩)) := Lib.hid (by rw [hWA1_8]; exact Z.out.alloc _)
      have HB : Hid (Below w.heap.size w WA1_8) := Lib.hid (by rw [hWA1_8]; exact HB.out.alloc HB.out.size _)
      clear hWA1_8
      refine hK.out _ _ ?_ (fun hHeld => ?_)
      · exact hk
      clear hK K
      (try simp only [Act.put, List.setIfInBounds_toArray, List.set_cons_zero, List.set_cons_succ])
      clear hk
      refine wpAnyH_ready (rs := [0]) (by kernel_rfl) (by simp) ?_
      refine AllReadyH.cons (o := ({ dst := some 6, op := Go.Op.call { callee := Go.Callee.value (Go.Operand.func 41), args := #[Go.Operand.const (Go.Value.string { data := #[48] }), Go.Operand.const (Go.Value.string { data := #[49] })], argTypes := #[9, 9] }, type := 23, pos := "law.go:29", after := #[], guard := none } : Oper)) rfl (fun K hK => ?_) ?_
      · go_simp
        go_at_call 41
        refine (is_any _ _ _).mono ?_
        rintro e W1_9 ⟨rfl, B⟩
        have A := Lib.hid (A.out.keep B A.out.lt)
        have Z := Lib.hid (Z.out.keep B Z.out.lt)
        have V := Lib.hid (V.out.keep B V.out.lt)
        have HB := Lib.hid (HB.out.trans (B.mono HB.out.size))
        (try go_wp2_with fail)
        refine hK.out _ _ ?_ (fun hHeld => ?_)
        · exact hHeld.keep B hHeld.lt
        clear hK K
        (try simp only [Act.put, List.setIfInBounds_toArray, List.set_cons_zero, List.set_cons_succ])
        clear B
        refine wpAnyH_ready (rs := [2]) (by kernel_rfl) (by simp) ?_
        refine AllReadyH.cons (o := ({ dst := some 8, op := Go.Op.call { callee := Go.Callee.value (Go.Operand.func 40), args := #[Go.Operand.tmp 6, Go.Operand.tmp 7], argTypes := #[23, 23] }, type := 36, pos := "law.go:29", after := #[{ on := 0, ground := Go.Ground.data }, { on := 1, ground := Go.Ground.data }, { on := 0, ground := Go.Ground.chain }], guard := none } : Oper)) rfl (fun K hK => ?_) ?_
        · go_simp
          go_at_call 40
          refine (C.out _).mono ?_
          rintro e W1_10 ⟨rfl, B⟩
          have A := Lib.hid (A.out.keep B A.out.lt)
          have Z := Lib.hid (Z.out.keep B Z.out.lt)
          have V := Lib.hid (V.out.keep B V.out.lt)
          have HB := Lib.hid (HB.out.trans (B.mono HB.out.size))
          (try go_wp2_with fail)
          refine hK.out _ _ ?_ (fun hHeld => ?_)
          · exact hHeld.keep B hHeld.lt
          clear hK K
          (try simp only [Act.put, List.setIfInBounds_toArray, List.set_cons_zero, List.set_cons_succ])
          clear B
          refine wpAnyH_take (i := 3) (oi := ({ dst := some 5, op := Go.Op.move (Go.Operand.tmp 8), type := 36, pos := "law.go:29", after := #[{ on := 2, ground := Go.Ground.data }], guard := none } : Oper)) (v := ?v3_10_1_1) rfl (by kernel_rfl) (by kernel_rfl) (by kernel_rfl) (fun _ _ _ h => h) (Or.inl ⟨by rfl, ?hy3_10_1_1⟩) (by assumption) ?re3_10_1_1
          case hy3_10_1_1 => ((intro w hSw; have e00 := hSw.c0; have e01 := hSw.c1; go_simp) <;> with_reducible rfl)
          (try simp only [Act.put, List.setIfInBounds_toArray, List.set_cons_zero, List.set_cons_succ])
          refine wpAnyH_take (i := 4) (oi := ({ dst := some 9, op := Go.Op.extract (Go.Operand.tmp 5) 0, type := 23, pos := "law.go:29", after := #[{ on := 3, ground := Go.Ground.data }], guard := none } : Oper)) (v := ?v4_11_1_1) rfl (by kernel_rfl) (by kernel_rfl) (by kernel_rfl) (fun _ _ _ h => h) (Or.inl ⟨by rfl, ?hy4_11_1_1⟩) (by assumption) ?re4_11_1_1
          case hy4_11_1_1 => ((intro w hSw; have e00 := hSw.c0; have e01 := hSw.c1; go_simp) <;> with_reducible rfl)
          (try simp only [Act.put, List.setIfInBounds_toArray, List.set_cons_zero, List.set_cons_succ])
          refine wpAnyH_take (i := 5) (oi := ({ dst := some 10, op := Go.Op.extract (Go.Operand.tmp 5) 1, type := 32, pos := "law.go:29", after := #[{ on := 3, ground := Go.Ground.data }, { on := 7, ground := Go.Ground.gcOnly Go.Departure.lateStores }], guard := none } : Oper)) (v := ?v5_12_1_1) rfl (by kernel_rfl) (by kernel_rfl) (by kernel_rfl) (fun _ _ _ h => h) (Or.inl ⟨by rfl, ?hy5_12_1_1⟩) (by assumption) ?re5_12_1_1
          case hy5_12_1_1 => ((intro w hSw; have e00 := hSw.c0; have e01 := hSw.c1; go_simp) <;> with_reducible rfl)
          (try simp only [Act.put, List.setIfInBounds_toArray, List.set_cons_zero, List.set_cons_succ])
          refine wpAnyH_ready (rs := [7]) (by kernel_rfl) (by simp) ?_
          refine AllReadyH.cons (o := ({ dst := none, op := Go.Op.store 23 (Go.Operand.tmp 3) (Go.Operand.tmp 9), type := 0, pos := "law.go:29", after := #[{ on := 6, ground := Go.Ground.data }, { on := 4, ground := Go.Ground.data }, { on := 2, ground := Go.Ground.chain }, { on := 0, ground := Go.Ground.phase }, { on := 1, ground := Go.Ground.phase }, { on := 2, ground := Go.Ground.phase }, { on := 3, ground := Go.Ground.phase }, { on := 4, ground := Go.Ground.phase }, { on := 5, ground := Go.Ground.textOnly Go.Departure.lateStores }, { on := 6, ground := Go.Ground.phase }], guard := none } : Oper)) rfl (fun K hK => ?_) ?_
          · have c0 := V.out.c0
            have c1 := V.out.c1
            have f0 := V.out.f 0
            have f1 := V.out.f 1
            have hs := V.out.s0 (.string x1)
            have d1 := hs.c1
            have g1 := hs.f 1
            go_simp
            have Vn := Lib.hid (hs.s1 (.string x2))
            have An := Lib.hid ((A.out.other ⟨W01.heap.size, 0, none⟩ (.string x1) neVA).other ⟨W01.heap.size, 1, none⟩ (.string x2) neVA)
            have Zn := Lib.hid ((Z.out.other ⟨W01.heap.size, 0, none⟩ (.string x1) neVZ).other ⟨W01.heap.size, 1, none⟩ (.string x2) neVZ)
            have HBn := Lib.hid ((HB.out.setCell (p := ⟨W01.heap.size, 0, none⟩) gV (.string x1)).setCell (p := ⟨W01.heap.size, 1, none⟩) gV (.string x2))
            clear hs c0 c1 f0 f1 d1 g1
            have V := Vn
            have A := An
            have Z := Zn
            have HB := HBn
            clear Vn An Zn HBn
            refine hK.out _ _ ?_ (fun hHeld => ?_)
            · exact (hHeld.other ⟨W01.heap.size, 0, none⟩ (.string x1) neVA).other ⟨W01.heap.size, 1, none⟩ (.string x2) neVA
            clear hK K
            (try simp only [Act.put, List.setIfInBounds_toArray, List.set_cons_zero, List.set_cons_succ])
            refine wpAnyH_take (i := 8) (oi := ({ dst := some 4, op := Go.Op.assign (Go.Operand.tmp 10), type := 32, pos := "law.go:29", after := #[{ on := 5, ground := Go.Ground.data }, { on := 7, ground := Go.Ground.chain }, { on := 0, ground := Go.Ground.phase }, { on := 1, ground := Go.Ground.phase }, { on := 2, ground := Go.Ground.phase }, { on := 3, ground := Go.Ground.phase }, { on := 4, ground := Go.Ground.phase }, { on := 5, ground := Go.Ground.phase }, { on := 6, ground := Go.Ground.phase }, { on := 7, ground := Go.Ground.phase }], guard := none } : Oper)) (v := ?v8_13_1_1) rfl (by kernel_rfl) (by kernel_rfl) (by kernel_rfl) (fun _ _ _ h => h) (Or.inl ⟨by rfl, ?hy8_13_1_1⟩) (by assumption) ?re8_13_1_1
            case hy8_13_1_1 => ((intro w hSw; have e00 := hSw.c0; have e01 := hSw.c1; go_simp) <;> with_reducible rfl)
            (try simp only [Act.put, List.setIfInBounds_toArray, List.set_cons_zero, List.set_cons_succ])
            refine wpAnyH_done (by kernel_rfl) ?_ _
            refine NoPanic.normal ?_
            generalize hWJ : ((W1_10.setCell ⟨W01.heap.size, 0, none⟩ (.string x1)).setCell ⟨W01.heap.size, 1, none⟩ (.string x2)) = WJ at *
            clear hWJ
            generalize hgJ : W01.heap.size = gJ at *
            clear hgJ
            exact HJ gJ WJ (Lib.hid ⟨A.out, Z.out, V.out, HB.out⟩)
          exact AllReadyH.nil
        exact AllReadyH.nil
      exact AllReadyH.nil
    exact AllReadyH.nil
  case r =>
    clear A Z HB
    intro gJ1 WJ1 hF
    obtain ⟨A', Z', V', HB'⟩ := hF.out
    have A := Lib.hid A'
    have Z := Lib.hid Z'
    have V := Lib.hid V'
    have HB := Lib.hid HB'
    clear hF A' Z' V' HB'
    have v0 := V.out.c0
    have v1 := V.out.c1
    have c0 := Z.out.c0
    have c1 := Z.out.c1
    have f0 := Z.out.f 0
    have f1 := Z.out.f 1
    have hs := Z.out.s0 (.string x1)
    have d1 := hs.c1
    have g1 := hs.f 1
    have HS := Lib.hid (hs.s1 (.string x2))
    have HBS := Lib.hid ((HB.out.setCell (p := ⟨w.heap.size + 1, 0, none⟩) (by show w.heap.size ≤ w.heap.size + 1; omega) (.string x1)).setCell (p := ⟨w.heap.size + 1, 1, none⟩) (by show w.heap.size ≤ w.heap.size + 1; omega) (.string x2))
    clear hs
    go_wp2_with fail
    refine bodyPost_ret (results_ratio1 rfl _ _ (w.heap.size + 1) _ _ rfl HS.out) rfl ?_
    exact ⟨rfl, HBS.out⟩
theorem lpick_31 (c : Int) (w : World) (h1 : -9223372036854775808 ≤ c) (h2 : c ≤ 9223372036854775807) :
    Calls Tryz.prog 22 #[.int .i64 c, .int .i64 31] w fun e w' => ∃ p : Nat, e = .returned (.int .i64 (p : Int)) ∧ p < 31 ∧ Below w.heap.size w w' := by
  by_cases h : c < 0
  · have e1 : wrap64 (c + 1) = c + 1 := by simp [wrap64]; omega
    have e2 : wrap64 (-(c + 1)) = -(c + 1) := by simp [wrap64]; omega
    have e3 := Lib.hid (show -((c + 1).tmod 31) = ((-(c + 1)).toNat % 31 : Nat) by rw [← Int.neg_tmod, Int.tmod_eq_emod_of_nonneg (by omega)]; omega)
    go_enter Tryz.func22, Tryz.ntmps22
    go_wp2
    go_ret
    exact ⟨_, by rw [← e3.out]; rfl, Nat.mod_lt _ (by decide), Below.refl _ _⟩
  · have e3 := Lib.hid (show c % 31 = (c.toNat % 31 : Nat) by omega)
    go_enter Tryz.func22, Tryz.ntmps22
    go_wp2
    go_ret
    exact ⟨_, by rw [← e3.out]; rfl, Nat.mod_lt _ (by decide), Below.refl _ _⟩
end Go.Proofs.YtjpifnepdmgpeaaGreatDoor
