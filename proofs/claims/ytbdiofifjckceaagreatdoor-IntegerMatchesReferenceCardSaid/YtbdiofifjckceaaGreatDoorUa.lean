/- The reference's digits of a number; order. -/
import Derived.Test.YtbdiofifjckceaaGreatDoorRa
namespace Go.Proofs.YtbdiofifjckceaaGreatDoor
open Go.RowKit

theorem gx_get (n i : Nat) : (grpX n)[i]? = if 10 ^ i ≤ n then some (((n / 10 ^ i) % 10 : Nat) : Int) else none := by
  induction i generalizing n with
  | zero =>
    by_cases h : n = 0
    · subst h; rw [grpX_zero, if_neg (by decide)]; rfl
    · rw [grpX_pos (by omega), if_pos (by rw [Nat.pow_zero]; omega), Nat.pow_zero, Nat.div_one]; rfl
  | succ i ih =>
    by_cases h : n = 0
    · subst h; rw [grpX_zero, if_neg (by have := Nat.pow_pos (n := i + 1) (show 0 < 10 by decide); omega)]; rfl
    · rw [grpX_pos (by omega), List.getElem?_cons_succ, ih, Nat.pow_succ, Nat.mul_comm (10 ^ i) 10, ← Nat.div_div_eq_div_mul]
      have e : 10 ^ i ≤ n / 10 ↔ 10 * 10 ^ i ≤ n := by rw [Nat.le_div_iff_mul_le (by decide), Nat.mul_comm]
      by_cases h2 : 10 ^ i ≤ n / 10
      · rw [if_pos h2, if_pos (e.1 h2)]
      · rw [if_neg h2, if_neg (fun c => h2 (e.2 c))]
theorem gx_len (n i : Nat) : i < (grpX n).length ↔ 10 ^ i ≤ n := by
  have h := gx_get n i
  constructor
  · intro hi
    rw [List.getElem?_eq_getElem hi] at h
    by_cases h2 : 10 ^ i ≤ n
    · exact h2
    · rw [if_neg h2] at h; cases h
  · intro hi
    rw [if_pos hi] at h
    exact (List.getElem?_eq_some_iff.1 h).1
theorem gx_step (n i : Nat) : n / 10 ^ i = (n / 10 ^ i) % 10 + 10 * (n / 10 ^ (i + 1)) := by
  rw [Nat.pow_succ, ← Nat.div_div_eq_div_mul]; omega
theorem gx_end {n i : Nat} (h : (grpX n).length ≤ i) : n / 10 ^ i = 0 := by
  refine Nat.div_eq_of_lt ?_
  rcases Nat.lt_or_ge n (10 ^ i) with g | g
  · exact g
  · have := (gx_len n i).2 g; omega
theorem grpX_mono {n m : Nat} (h : m ≤ n) : (grpX m).length ≤ (grpX n).length := grpX_len (Nat.lt_of_le_of_lt h (grpX_lt n))
/-- digits of a number that is great enough are its digits -/
theorem gx_of {l : List Int} {n : Nat} (hd : DigX l) (hv : vlX l = n) (h : l = [] ∨ 10 ^ (l.length - 1) ≤ n) : l = grpX n := by
  have ht := trzX_grp hd
  rw [hv, Int.toNat_natCast] at ht
  rcases h with h | h
  · subst h
    rw [← ht]; rfl
  · have h1 := trz_len l
    have h2 := (gx_len n (l.length - 1)).2 h
    rw [← ht] at h2
    have h3 := trz_take l
    rw [show (trz l).length = l.length by omega, List.take_length] at h3
    rw [← ht, h3]
theorem vlX_set (l : List Int) (j : Nat) (x v : Int) (h : l[j]? = some x) : vlX (l.set j v) = vlX l + 10 ^ j * (v - x) := by
  induction l generalizing j with
  | nil => cases h
  | cons y l ih =>
    cases j with
    | zero =>
      simp at h; subst h
      rw [List.set_cons_zero, vlX, vlX, Int.pow_zero]; omega
    | succ j =>
      rw [List.getElem?_cons_succ] at h
      rw [List.set_cons_succ, vlX, vlX, ih j h, Int.pow_succ, Int.mul_add, Int.mul_comm ((10 : Int) ^ j) 10, Int.mul_assoc]
      omega
theorem DigX.set {l : List Int} (h : DigX l) (j : Nat) {v : Int} (hv : 0 ≤ v ∧ v < 10) : DigX (l.set j v) := fun y hy => by
  rcases List.mem_or_eq_of_mem_set hy with g | g
  · exact h y g
  · rw [g]; exact hv
theorem DigX.snoc {l : List Int} (h : DigX l) {v : Int} (hv : 0 ≤ v ∧ v < 10) : DigX (l ++ [v]) := fun y hy => by
  rcases List.mem_append.1 hy with g | g
  · exact h y g
  · rw [List.mem_singleton.1 g]; exact hv

/-- the value v is the number n in decimal digits -/
def XSl (w : World) (v : Value) (n : Nat) : Prop := ISl w v (grpX n)
theorem XSl.below {w w' : World} {v : Value} {n : Nat} (h : XSl w v n) (hb : Below w.heap.size w w') : XSl w' v n := ISl.below h hb
theorem XSl.form {w : World} {v : Value} {n : Nat} (h : XSl w v n) : ∃ a c, v = .slice a (grpX n).length c := by
  rcases h with ⟨a, c, rfl, e⟩ | ⟨b, o, c, rfl, _⟩
  · rw [e]; exact ⟨a, c, rfl⟩
  · exact ⟨_, c, rfl⟩
/-- what a load of a digit finds -/
theorem XSl.at {w : World} {a : Option Addr} {k c n : Nat} (h : XSl w (.slice a k c) n) (hk : (grpX n).length = k) : ∃ b o : Nat, (∀ i, i < k → a = some ⟨b, o, none⟩ ∧ w.cell? ⟨b, o + i, none⟩ = some (.int .i64 (((n / 10 ^ i) % 10 : Nat) : Int)) ∧ k ≤ c) := by
  rcases h with ⟨a', c', e, e2⟩ | ⟨b, o, c', e, h1, h2, h3, h4⟩
  · refine ⟨0, 0, fun i hi => ?_⟩
    rw [e2] at hk; simp at hk; omega
  · simp only [Value.slice.injEq] at e
    obtain ⟨rfl, e3, rfl⟩ := e
    refine ⟨b, o, fun i hi => ⟨rfl, h4 i _ ?_, by omega⟩⟩
    rw [gx_get, if_pos ((gx_len n i).1 (by omega))]

theorem cmp_lenX {n m : Nat} (h : (grpX n).length < (grpX m).length) : n < m := by
  have h1 := grpX_lt n
  have h2 := (gx_len m _).1 h
  omega

set_option maxRecDepth 100000 in
set_option maxHeartbeats 2000000 in
theorem order_any (n m : Nat) (v1 v2 : Value) (w : World) (hl : (grpX n).length ≤ 100000) (hl2 : (grpX m).length ≤ 100000) (h1 : XSl w v1 n) (h2 : XSl w v2 m) :
    Calls Tryz.prog 49 #[v1, v2] w fun e w' => e = .returned (.int .i64 (cmpN n m)) ∧ Below w.heap.size w w' := by
  obtain ⟨a1, c1, rfl⟩ := h1.form
  obtain ⟨a2, c2, rfl⟩ := h2.form
  have hlt1 : (grpX n).length < (grpX m).length → n < m := cmp_lenX
  have hlt2 : (grpX m).length < (grpX n).length → m < n := cmp_lenX
  obtain ⟨p, hp⟩ : ∃ p, (grpX n).length = p := ⟨_, rfl⟩
  obtain ⟨q, hq⟩ : ∃ q, (grpX m).length = q := ⟨_, rfl⟩
  rw [hp] at h1 hl ⊢
  rw [hq] at h2 hl2 ⊢
  rw [hp, hq] at hlt1 hlt2
  rcases Nat.lt_trichotomy p q with hpq | hpq | hpq
  · have hc : cmpN (n : Int) (m : Int) = -1 := by have := hlt1 hpq; rw [cmpN, if_pos (by omega)]
    rw [hc]
    have q1 : ((p : Int) == (q : Int)) = false := by rw [beq_eq_false_iff_ne, ne_eq]; omega
    have q2 : ((p : Int) != (q : Int)) = true := by rw [bne, q1]; rfl
    clear h1 h2 hp hq hc hlt1 hlt2
    go_enter Tryz.func49, Tryz.ntmps49
    go_wp2
    go_ret
    exact ⟨rfl, Below.refl _ _⟩
  · subst hpq
    obtain ⟨b1, o1, r1⟩ := h1.at hp
    obtain ⟨b2, o2, r2⟩ := h2.at hq
    have R1 := Lib.hid r1
    have R2 := Lib.hid r2
    have he : n / 10 ^ p = m / 10 ^ p := by rw [gx_end (by omega), gx_end (by omega)]
    have HE := Lib.hid he
    clear h1 h2 hp hq r1 r2 he hlt1 hlt2
    go_enter Tryz.func49, Tryz.ntmps49
    go_wp2
    go_loopw [5] (fun iv wr => ∃ k t : Nat, k ≤ p ∧ iv = .int .i64 ((k : Int) - 1) ∧ Hid (n / 10 ^ k = m / 10 ^ k) ∧ wr = w.drewN t) (fun iv _ => (intOf iv + 1).toNat)
    case atStart => exact ⟨p, 0, Nat.le_refl _, rfl, HE, rfl⟩
    case round =>
      clear HE
      obtain ⟨k, t, hk, rfl, hE, rfl⟩ := hrel
      have hBt := below_drewN (Below.refl w.heap.size w) t
      by_cases h0 : k = 0
      · subst h0
        have hnm : n = m := by have := hE.out; simpa using this
        have HC := Lib.hid (show cmpN (n : Int) (m : Int) = 0 by rw [hnm, cmpN, if_neg (by omega), if_neg (by omega)])
        clear hE hnm
        go_wp2
        go_ret
        exact ⟨by rw [HC.out]; rfl, hBt⟩
      · obtain ⟨i, rfl⟩ : ∃ i, k = i + 1 := ⟨k - 1, by omega⟩
        have hip : i < p := by omega
        obtain ⟨rfl, x1, x2⟩ := R1.out i (by omega)
        obtain ⟨rfl, y1, y2⟩ := R2.out i (by omega)
        have s1 := gx_step n i
        have s2 := gx_step m i
        rw [← hE.out] at s2
        obtain ⟨x, hx⟩ : ∃ x, (n / 10 ^ i) % 10 = x := ⟨_, rfl⟩
        obtain ⟨y, hy⟩ : ∃ y, (m / 10 ^ i) % 10 = y := ⟨_, rfl⟩
        rw [hx] at x1 s1
        rw [hy] at y1 s2
        have hmono : n / 10 ^ i < m / 10 ^ i → n < m := fun h => by
          rcases Nat.lt_or_ge n m with g | g
          · exact g
          · exact absurd (Nat.div_le_div_right (c := 10 ^ i) g) (by omega)
        have hmono2 : m / 10 ^ i < n / 10 ^ i → m < n := fun h => by
          rcases Nat.lt_or_ge m n with g | g
          · exact g
          · exact absurd (Nat.div_le_div_right (c := 10 ^ i) g) (by omega)
        by_cases hxy : x = y
        · have HE2 := Lib.hid (show n / 10 ^ i = m / 10 ^ i by rw [s1, s2, hxy])
          subst hxy
          clear s1 s2 hx hy hmono hmono2 hE
          go_wp2_with fail
          refine wp_region_noPanic ?_
          refine wp_region_held_drew (S := fun W => W.cell? ⟨b1, o1 + i, none⟩ = some (.int .i64 (x : Int)) ∧ W.cell? ⟨b2, o2 + i, none⟩ = some (.int .i64 (x : Int))) (by kernel_rfl) ?_ (fun hHeld => ?_)
          · exact ⟨x1, y1⟩
          refine wpAnyH_take (i := 0) (oi := ({ dst := some 23, op := Go.Op.move (Go.Operand.tmp 0), type := 40, pos := "ref.go:67", after := #[], guard := none } : Oper)) (v := ?v0_1a) rfl (by kernel_rfl) (by kernel_rfl) (by kernel_rfl) (fun _ _ _ h => h) (Or.inl ⟨by rfl, ?hy0_1a⟩) (by assumption) ?re0_1a
          case hy0_1a => ((intro w hSw; obtain ⟨e1, e2⟩ := hSw; go_simp) <;> with_reducible rfl)
          (try simp only [Act.put, List.setIfInBounds_toArray, List.set_cons_zero, List.set_cons_succ])
          refine wpAnyH_take (i := 1) (oi := ({ dst := some 24, op := Go.Op.move (Go.Operand.tmp 5), type := 3, pos := "ref.go:67", after := #[], guard := none } : Oper)) (v := ?v1_2a) rfl (by kernel_rfl) (by kernel_rfl) (by kernel_rfl) (fun _ _ _ h => h) (Or.inl ⟨by rfl, ?hy1_2a⟩) (by assumption) ?re1_2a
          case hy1_2a => ((intro w hSw; obtain ⟨e1, e2⟩ := hSw; go_simp) <;> with_reducible rfl)
          (try simp only [Act.put, List.setIfInBounds_toArray, List.set_cons_zero, List.set_cons_succ])
          refine wpAnyH_take (i := 2) (oi := ({ dst := some 25, op := Go.Op.indexAddr 40 (Go.Operand.tmp 23) (Go.Operand.tmp 24), type := 0, pos := "ref.go:67", after := #[{ on := 0, ground := Go.Ground.data }, { on := 1, ground := Go.Ground.data }], guard := none } : Oper)) (v := ?v2_3a) rfl (by kernel_rfl) (by kernel_rfl) (by kernel_rfl) (fun _ _ _ h => h) (Or.inl ⟨by rfl, ?hy2_3a⟩) (by assumption) ?re2_3a
          case hy2_3a => ((intro w hSw; obtain ⟨e1, e2⟩ := hSw; go_simp) <;> with_reducible rfl)
          (try simp only [Act.put, List.setIfInBounds_toArray, List.set_cons_zero, List.set_cons_succ])
          refine wpAnyH_take (i := 3) (oi := ({ dst := some 26, op := Go.Op.load 3 (Go.Operand.tmp 25), type := 3, pos := "ref.go:67", after := #[{ on := 2, ground := Go.Ground.data }], guard := none } : Oper)) (v := ?v3_4a) rfl (by kernel_rfl) (by kernel_rfl) (by kernel_rfl) (fun _ _ _ h => h) (Or.inl ⟨by rfl, ?hy3_4a⟩) (by assumption) ?re3_4a
          case hy3_4a => ((intro w hSw; obtain ⟨e1, e2⟩ := hSw; go_simp) <;> with_reducible rfl)
          (try simp only [Act.put, List.setIfInBounds_toArray, List.set_cons_zero, List.set_cons_succ])
          refine wpAnyH_take (i := 4) (oi := ({ dst := some 27, op := Go.Op.move (Go.Operand.tmp 1), type := 40, pos := "ref.go:67", after := #[], guard := none } : Oper)) (v := ?v4_5a) rfl (by kernel_rfl) (by kernel_rfl) (by kernel_rfl) (fun _ _ _ h => h) (Or.inl ⟨by rfl, ?hy4_5a⟩) (by assumption) ?re4_5a
          case hy4_5a => ((intro w hSw; obtain ⟨e1, e2⟩ := hSw; go_simp) <;> with_reducible rfl)
          (try simp only [Act.put, List.setIfInBounds_toArray, List.set_cons_zero, List.set_cons_succ])
          refine wpAnyH_take (i := 5) (oi := ({ dst := some 28, op := Go.Op.move (Go.Operand.tmp 5), type := 3, pos := "ref.go:67", after := #[], guard := none } : Oper)) (v := ?v5_6a) rfl (by kernel_rfl) (by kernel_rfl) (by kernel_rfl) (fun _ _ _ h => h) (Or.inl ⟨by rfl, ?hy5_6a⟩) (by assumption) ?re5_6a
          case hy5_6a => ((intro w hSw; obtain ⟨e1, e2⟩ := hSw; go_simp) <;> with_reducible rfl)
          (try simp only [Act.put, List.setIfInBounds_toArray, List.set_cons_zero, List.set_cons_succ])
          refine wpAnyH_take (i := 6) (oi := ({ dst := some 29, op := Go.Op.indexAddr 40 (Go.Operand.tmp 27) (Go.Operand.tmp 28), type := 0, pos := "ref.go:67", after := #[{ on := 4, ground := Go.Ground.data }, { on := 5, ground := Go.Ground.data }], guard := none } : Oper)) (v := ?v6_7a) rfl (by kernel_rfl) (by kernel_rfl) (by kernel_rfl) (fun _ _ _ h => h) (Or.inl ⟨by rfl, ?hy6_7a⟩) (by assumption) ?re6_7a
          case hy6_7a => ((intro w hSw; obtain ⟨e1, e2⟩ := hSw; go_simp) <;> with_reducible rfl)
          (try simp only [Act.put, List.setIfInBounds_toArray, List.set_cons_zero, List.set_cons_succ])
          refine wpAnyH_take (i := 7) (oi := ({ dst := some 30, op := Go.Op.load 3 (Go.Operand.tmp 29), type := 3, pos := "ref.go:67", after := #[{ on := 6, ground := Go.Ground.data }], guard := none } : Oper)) (v := ?v7_8a) rfl (by kernel_rfl) (by kernel_rfl) (by kernel_rfl) (fun _ _ _ h => h) (Or.inl ⟨by rfl, ?hy7_8a⟩) (by assumption) ?re7_8a
          case hy7_8a => ((intro w hSw; obtain ⟨e1, e2⟩ := hSw; go_simp) <;> with_reducible rfl)
          (try simp only [Act.put, List.setIfInBounds_toArray, List.set_cons_zero, List.set_cons_succ])
          refine wpAnyH_take (i := 8) (oi := ({ dst := some 31, op := Go.Op.binOp Go.BinOp.neq 3 (Go.Operand.tmp 26) (Go.Operand.tmp 30) 3, type := 4, pos := "ref.go:67", after := #[{ on := 3, ground := Go.Ground.data }, { on := 7, ground := Go.Ground.data }], guard := none } : Oper)) (v := ?v8_9a) rfl (by kernel_rfl) (by kernel_rfl) (by kernel_rfl) (fun _ _ _ h => h) (Or.inl ⟨by rfl, ?hy8_9a⟩) (by assumption) ?re8_9a
          case hy8_9a => ((intro w hSw; obtain ⟨e1, e2⟩ := hSw; go_simp) <;> with_reducible rfl)
          (try simp only [Act.put, List.setIfInBounds_toArray, List.set_cons_zero, List.set_cons_succ])
          refine wpAnyH_done (by kernel_rfl) ?_ _
          refine NoPanic.normal ?_
          go_wp2_with fail
          exact ⟨⟨i, t + 1, by omega, by go_num, HE2, rfl⟩, by simp [intOf]⟩
        · have q1 : ((x : Int) == (y : Int)) = false := by rw [beq_eq_false_iff_ne, ne_eq]; omega
          have q2 : ((x : Int) != (y : Int)) = true := by rw [bne, q1]; rfl
          by_cases hlt : x < y
          · have HC := Lib.hid (show cmpN (n : Int) (m : Int) = -1 by rw [cmpN, if_pos (by have := hmono (by omega); omega)])
            clear s1 s2 hx hy hmono hmono2 hE
            go_wp2_with fail
            refine wp_region_noPanic ?_
            refine wp_region_held_drew (S := fun W => W.cell? ⟨b1, o1 + i, none⟩ = some (.int .i64 (x : Int)) ∧ W.cell? ⟨b2, o2 + i, none⟩ = some (.int .i64 (y : Int))) (by kernel_rfl) ?_ (fun hHeld => ?_)
            · exact ⟨x1, y1⟩
            refine wpAnyH_take (i := 0) (oi := ({ dst := some 23, op := Go.Op.move (Go.Operand.tmp 0), type := 40, pos := "ref.go:67", after := #[], guard := none } : Oper)) (v := ?v0_1b) rfl (by kernel_rfl) (by kernel_rfl) (by kernel_rfl) (fun _ _ _ h => h) (Or.inl ⟨by rfl, ?hy0_1b⟩) (by assumption) ?re0_1b
            case hy0_1b => ((intro w hSw; obtain ⟨e1, e2⟩ := hSw; go_simp) <;> with_reducible rfl)
            (try simp only [Act.put, List.setIfInBounds_toArray, List.set_cons_zero, List.set_cons_succ])
            refine wpAnyH_take (i := 1) (oi := ({ dst := some 24, op := Go.Op.move (Go.Operand.tmp 5), type := 3, pos := "ref.go:67", after := #[], guard := none } : Oper)) (v := ?v1_2b) rfl (by kernel_rfl) (by kernel_rfl) (by kernel_rfl) (fun _ _ _ h => h) (Or.inl ⟨by rfl, ?hy1_2b⟩) (by assumption) ?re1_2b
            case hy1_2b => ((intro w hSw; obtain ⟨e1, e2⟩ := hSw; go_simp) <;> with_reducible rfl)
            (try simp only [Act.put, List.setIfInBounds_toArray, List.set_cons_zero, List.set_cons_succ])
            refine wpAnyH_take (i := 2) (oi := ({ dst := some 25, op := Go.Op.indexAddr 40 (Go.Operand.tmp 23) (Go.Operand.tmp 24), type := 0, pos := "ref.go:67", after := #[{ on := 0, ground := Go.Ground.data }, { on := 1, ground := Go.Ground.data }], guard := none } : Oper)) (v := ?v2_3b) rfl (by kernel_rfl) (by kernel_rfl) (by kernel_rfl) (fun _ _ _ h => h) (Or.inl ⟨by rfl, ?hy2_3b⟩) (by assumption) ?re2_3b
            case hy2_3b => ((intro w hSw; obtain ⟨e1, e2⟩ := hSw; go_simp) <;> with_reducible rfl)
            (try simp only [Act.put, List.setIfInBounds_toArray, List.set_cons_zero, List.set_cons_succ])
            refine wpAnyH_take (i := 3) (oi := ({ dst := some 26, op := Go.Op.load 3 (Go.Operand.tmp 25), type := 3, pos := "ref.go:67", after := #[{ on := 2, ground := Go.Ground.data }], guard := none } : Oper)) (v := ?v3_4b) rfl (by kernel_rfl) (by kernel_rfl) (by kernel_rfl) (fun _ _ _ h => h) (Or.inl ⟨by rfl, ?hy3_4b⟩) (by assumption) ?re3_4b
            case hy3_4b => ((intro w hSw; obtain ⟨e1, e2⟩ := hSw; go_simp) <;> with_reducible rfl)
            (try simp only [Act.put, List.setIfInBounds_toArray, List.set_cons_zero, List.set_cons_succ])
            refine wpAnyH_take (i := 4) (oi := ({ dst := some 27, op := Go.Op.move (Go.Operand.tmp 1), type := 40, pos := "ref.go:67", after := #[], guard := none } : Oper)) (v := ?v4_5b) rfl (by kernel_rfl) (by kernel_rfl) (by kernel_rfl) (fun _ _ _ h => h) (Or.inl ⟨by rfl, ?hy4_5b⟩) (by assumption) ?re4_5b
            case hy4_5b => ((intro w hSw; obtain ⟨e1, e2⟩ := hSw; go_simp) <;> with_reducible rfl)
            (try simp only [Act.put, List.setIfInBounds_toArray, List.set_cons_zero, List.set_cons_succ])
            refine wpAnyH_take (i := 5) (oi := ({ dst := some 28, op := Go.Op.move (Go.Operand.tmp 5), type := 3, pos := "ref.go:67", after := #[], guard := none } : Oper)) (v := ?v5_6b) rfl (by kernel_rfl) (by kernel_rfl) (by kernel_rfl) (fun _ _ _ h => h) (Or.inl ⟨by rfl, ?hy5_6b⟩) (by assumption) ?re5_6b
            case hy5_6b => ((intro w hSw; obtain ⟨e1, e2⟩ := hSw; go_simp) <;> with_reducible rfl)
            (try simp only [Act.put, List.setIfInBounds_toArray, List.set_cons_zero, List.set_cons_succ])
            refine wpAnyH_take (i := 6) (oi := ({ dst := some 29, op := Go.Op.indexAddr 40 (Go.Operand.tmp 27) (Go.Operand.tmp 28), type := 0, pos := "ref.go:67", after := #[{ on := 4, ground := Go.Ground.data }, { on := 5, ground := Go.Ground.data }], guard := none } : Oper)) (v := ?v6_7b) rfl (by kernel_rfl) (by kernel_rfl) (by kernel_rfl) (fun _ _ _ h => h) (Or.inl ⟨by rfl, ?hy6_7b⟩) (by assumption) ?re6_7b
            case hy6_7b => ((intro w hSw; obtain ⟨e1, e2⟩ := hSw; go_simp) <;> with_reducible rfl)
            (try simp only [Act.put, List.setIfInBounds_toArray, List.set_cons_zero, List.set_cons_succ])
            refine wpAnyH_take (i := 7) (oi := ({ dst := some 30, op := Go.Op.load 3 (Go.Operand.tmp 29), type := 3, pos := "ref.go:67", after := #[{ on := 6, ground := Go.Ground.data }], guard := none } : Oper)) (v := ?v7_8b) rfl (by kernel_rfl) (by kernel_rfl) (by kernel_rfl) (fun _ _ _ h => h) (Or.inl ⟨by rfl, ?hy7_8b⟩) (by assumption) ?re7_8b
            case hy7_8b => ((intro w hSw; obtain ⟨e1, e2⟩ := hSw; go_simp) <;> with_reducible rfl)
            (try simp only [Act.put, List.setIfInBounds_toArray, List.set_cons_zero, List.set_cons_succ])
            refine wpAnyH_take (i := 8) (oi := ({ dst := some 31, op := Go.Op.binOp Go.BinOp.neq 3 (Go.Operand.tmp 26) (Go.Operand.tmp 30) 3, type := 4, pos := "ref.go:67", after := #[{ on := 3, ground := Go.Ground.data }, { on := 7, ground := Go.Ground.data }], guard := none } : Oper)) (v := ?v8_9b) rfl (by kernel_rfl) (by kernel_rfl) (by kernel_rfl) (fun _ _ _ h => h) (Or.inl ⟨by rfl, ?hy8_9b⟩) (by assumption) ?re8_9b
            case hy8_9b => ((intro w hSw; obtain ⟨e1, e2⟩ := hSw; go_simp) <;> with_reducible rfl)
            (try simp only [Act.put, List.setIfInBounds_toArray, List.set_cons_zero, List.set_cons_succ])
            refine wpAnyH_done (by kernel_rfl) ?_ _
            refine NoPanic.normal ?_
            go_wp2_with fail
            refine wp_region_noPanic ?_
            refine wp_region_held_drew (S := fun W => W.cell? ⟨b1, o1 + i, none⟩ = some (.int .i64 (x : Int)) ∧ W.cell? ⟨b2, o2 + i, none⟩ = some (.int .i64 (y : Int))) (by kernel_rfl) ?_ (fun hHeld => ?_)
            · exact ⟨x1, y1⟩
            refine wpAnyH_take (i := 0) (oi := ({ dst := some 32, op := Go.Op.move (Go.Operand.tmp 0), type := 40, pos := "ref.go:68", after := #[], guard := none } : Oper)) (v := ?v0_1c) rfl (by kernel_rfl) (by kernel_rfl) (by kernel_rfl) (fun _ _ _ h => h) (Or.inl ⟨by rfl, ?hy0_1c⟩) (by assumption) ?re0_1c
            case hy0_1c => ((intro w hSw; obtain ⟨e1, e2⟩ := hSw; go_simp) <;> with_reducible rfl)
            (try simp only [Act.put, List.setIfInBounds_toArray, List.set_cons_zero, List.set_cons_succ])
            refine wpAnyH_take (i := 1) (oi := ({ dst := some 33, op := Go.Op.move (Go.Operand.tmp 5), type := 3, pos := "ref.go:68", after := #[], guard := none } : Oper)) (v := ?v1_2c) rfl (by kernel_rfl) (by kernel_rfl) (by kernel_rfl) (fun _ _ _ h => h) (Or.inl ⟨by rfl, ?hy1_2c⟩) (by assumption) ?re1_2c
            case hy1_2c => ((intro w hSw; obtain ⟨e1, e2⟩ := hSw; go_simp) <;> with_reducible rfl)
            (try simp only [Act.put, List.setIfInBounds_toArray, List.set_cons_zero, List.set_cons_succ])
            refine wpAnyH_take (i := 2) (oi := ({ dst := some 34, op := Go.Op.indexAddr 40 (Go.Operand.tmp 32) (Go.Operand.tmp 33), type := 0, pos := "ref.go:68", after := #[{ on := 0, ground := Go.Ground.data }, { on := 1, ground := Go.Ground.data }], guard := none } : Oper)) (v := ?v2_3c) rfl (by kernel_rfl) (by kernel_rfl) (by kernel_rfl) (fun _ _ _ h => h) (Or.inl ⟨by rfl, ?hy2_3c⟩) (by assumption) ?re2_3c
            case hy2_3c => ((intro w hSw; obtain ⟨e1, e2⟩ := hSw; go_simp) <;> with_reducible rfl)
            (try simp only [Act.put, List.setIfInBounds_toArray, List.set_cons_zero, List.set_cons_succ])
            refine wpAnyH_take (i := 3) (oi := ({ dst := some 35, op := Go.Op.load 3 (Go.Operand.tmp 34), type := 3, pos := "ref.go:68", after := #[{ on := 2, ground := Go.Ground.data }], guard := none } : Oper)) (v := ?v3_4c) rfl (by kernel_rfl) (by kernel_rfl) (by kernel_rfl) (fun _ _ _ h => h) (Or.inl ⟨by rfl, ?hy3_4c⟩) (by assumption) ?re3_4c
            case hy3_4c => ((intro w hSw; obtain ⟨e1, e2⟩ := hSw; go_simp) <;> with_reducible rfl)
            (try simp only [Act.put, List.setIfInBounds_toArray, List.set_cons_zero, List.set_cons_succ])
            refine wpAnyH_take (i := 4) (oi := ({ dst := some 36, op := Go.Op.move (Go.Operand.tmp 1), type := 40, pos := "ref.go:68", after := #[], guard := none } : Oper)) (v := ?v4_5c) rfl (by kernel_rfl) (by kernel_rfl) (by kernel_rfl) (fun _ _ _ h => h) (Or.inl ⟨by rfl, ?hy4_5c⟩) (by assumption) ?re4_5c
            case hy4_5c => ((intro w hSw; obtain ⟨e1, e2⟩ := hSw; go_simp) <;> with_reducible rfl)
            (try simp only [Act.put, List.setIfInBounds_toArray, List.set_cons_zero, List.set_cons_succ])
            refine wpAnyH_take (i := 5) (oi := ({ dst := some 37, op := Go.Op.move (Go.Operand.tmp 5), type := 3, pos := "ref.go:68", after := #[], guard := none } : Oper)) (v := ?v5_6c) rfl (by kernel_rfl) (by kernel_rfl) (by kernel_rfl) (fun _ _ _ h => h) (Or.inl ⟨by rfl, ?hy5_6c⟩) (by assumption) ?re5_6c
            case hy5_6c => ((intro w hSw; obtain ⟨e1, e2⟩ := hSw; go_simp) <;> with_reducible rfl)
            (try simp only [Act.put, List.setIfInBounds_toArray, List.set_cons_zero, List.set_cons_succ])
            refine wpAnyH_take (i := 6) (oi := ({ dst := some 38, op := Go.Op.indexAddr 40 (Go.Operand.tmp 36) (Go.Operand.tmp 37), type := 0, pos := "ref.go:68", after := #[{ on := 4, ground := Go.Ground.data }, { on := 5, ground := Go.Ground.data }], guard := none } : Oper)) (v := ?v6_7c) rfl (by kernel_rfl) (by kernel_rfl) (by kernel_rfl) (fun _ _ _ h => h) (Or.inl ⟨by rfl, ?hy6_7c⟩) (by assumption) ?re6_7c
            case hy6_7c => ((intro w hSw; obtain ⟨e1, e2⟩ := hSw; go_simp) <;> with_reducible rfl)
            (try simp only [Act.put, List.setIfInBounds_toArray, List.set_cons_zero, List.set_cons_succ])
            refine wpAnyH_take (i := 7) (oi := ({ dst := some 39, op := Go.Op.load 3 (Go.Operand.tmp 38), type := 3, pos := "ref.go:68", after := #[{ on := 6, ground := Go.Ground.data }], guard := none } : Oper)) (v := ?v7_8c) rfl (by kernel_rfl) (by kernel_rfl) (by kernel_rfl) (fun _ _ _ h => h) (Or.inl ⟨by rfl, ?hy7_8c⟩) (by assumption) ?re7_8c
            case hy7_8c => ((intro w hSw; obtain ⟨e1, e2⟩ := hSw; go_simp) <;> with_reducible rfl)
            (try simp only [Act.put, List.setIfInBounds_toArray, List.set_cons_zero, List.set_cons_succ])
            refine wpAnyH_take (i := 8) (oi := ({ dst := some 40, op := Go.Op.binOp Go.BinOp.lss 3 (Go.Operand.tmp 35) (Go.Operand.tmp 39) 3, type := 4, pos := "ref.go:68", after := #[{ on := 3, ground := Go.Ground.data }, { on := 7, ground := Go.Ground.data }], guard := none } : Oper)) (v := ?v8_9c) rfl (by kernel_rfl) (by kernel_rfl) (by kernel_rfl) (fun _ _ _ h => h) (Or.inl ⟨by rfl, ?hy8_9c⟩) (by assumption) ?re8_9c
            case hy8_9c => ((intro w hSw; obtain ⟨e1, e2⟩ := hSw; go_simp) <;> with_reducible rfl)
            (try simp only [Act.put, List.setIfInBounds_toArray, List.set_cons_zero, List.set_cons_succ])
            refine wpAnyH_done (by kernel_rfl) ?_ _
            refine NoPanic.normal ?_
            go_wp2_with fail
            go_ret
            exact ⟨by rw [HC.out]; rfl, hBt.drew.drew⟩
          · have HC := Lib.hid (show cmpN (n : Int) (m : Int) = 1 by have := hmono2 (by omega); rw [cmpN, if_neg (by omega), if_pos (by omega)])
            clear s1 s2 hx hy hmono hmono2 hE
            go_wp2_with fail
            refine wp_region_noPanic ?_
            refine wp_region_held_drew (S := fun W => W.cell? ⟨b1, o1 + i, none⟩ = some (.int .i64 (x : Int)) ∧ W.cell? ⟨b2, o2 + i, none⟩ = some (.int .i64 (y : Int))) (by kernel_rfl) ?_ (fun hHeld => ?_)
            · exact ⟨x1, y1⟩
            refine wpAnyH_take (i := 0) (oi := ({ dst := some 23, op := Go.Op.move (Go.Operand.tmp 0), type := 40, pos := "ref.go:67", after := #[], guard := none } : Oper)) (v := ?v0_1d) rfl (by kernel_rfl) (by kernel_rfl) (by kernel_rfl) (fun _ _ _ h => h) (Or.inl ⟨by rfl, ?hy0_1d⟩) (by assumption) ?re0_1d
            case hy0_1d => ((intro w hSw; obtain ⟨e1, e2⟩ := hSw; go_simp) <;> with_reducible rfl)
            (try simp only [Act.put, List.setIfInBounds_toArray, List.set_cons_zero, List.set_cons_succ])
            refine wpAnyH_take (i := 1) (oi := ({ dst := some 24, op := Go.Op.move (Go.Operand.tmp 5), type := 3, pos := "ref.go:67", after := #[], guard := none } : Oper)) (v := ?v1_2d) rfl (by kernel_rfl) (by kernel_rfl) (by kernel_rfl) (fun _ _ _ h => h) (Or.inl ⟨by rfl, ?hy1_2d⟩) (by assumption) ?re1_2d
            case hy1_2d => ((intro w hSw; obtain ⟨e1, e2⟩ := hSw; go_simp) <;> with_reducible rfl)
            (try simp only [Act.put, List.setIfInBounds_toArray, List.set_cons_zero, List.set_cons_succ])
            refine wpAnyH_take (i := 2) (oi := ({ dst := some 25, op := Go.Op.indexAddr 40 (Go.Operand.tmp 23) (Go.Operand.tmp 24), type := 0, pos := "ref.go:67", after := #[{ on := 0, ground := Go.Ground.data }, { on := 1, ground := Go.Ground.data }], guard := none } : Oper)) (v := ?v2_3d) rfl (by kernel_rfl) (by kernel_rfl) (by kernel_rfl) (fun _ _ _ h => h) (Or.inl ⟨by rfl, ?hy2_3d⟩) (by assumption) ?re2_3d
            case hy2_3d => ((intro w hSw; obtain ⟨e1, e2⟩ := hSw; go_simp) <;> with_reducible rfl)
            (try simp only [Act.put, List.setIfInBounds_toArray, List.set_cons_zero, List.set_cons_succ])
            refine wpAnyH_take (i := 3) (oi := ({ dst := some 26, op := Go.Op.load 3 (Go.Operand.tmp 25), type := 3, pos := "ref.go:67", after := #[{ on := 2, ground := Go.Ground.data }], guard := none } : Oper)) (v := ?v3_4d) rfl (by kernel_rfl) (by kernel_rfl) (by kernel_rfl) (fun _ _ _ h => h) (Or.inl ⟨by rfl, ?hy3_4d⟩) (by assumption) ?re3_4d
            case hy3_4d => ((intro w hSw; obtain ⟨e1, e2⟩ := hSw; go_simp) <;> with_reducible rfl)
            (try simp only [Act.put, List.setIfInBounds_toArray, List.set_cons_zero, List.set_cons_succ])
            refine wpAnyH_take (i := 4) (oi := ({ dst := some 27, op := Go.Op.move (Go.Operand.tmp 1), type := 40, pos := "ref.go:67", after := #[], guard := none } : Oper)) (v := ?v4_5d) rfl (by kernel_rfl) (by kernel_rfl) (by kernel_rfl) (fun _ _ _ h => h) (Or.inl ⟨by rfl, ?hy4_5d⟩) (by assumption) ?re4_5d
            case hy4_5d => ((intro w hSw; obtain ⟨e1, e2⟩ := hSw; go_simp) <;> with_reducible rfl)
            (try simp only [Act.put, List.setIfInBounds_toArray, List.set_cons_zero, List.set_cons_succ])
            refine wpAnyH_take (i := 5) (oi := ({ dst := some 28, op := Go.Op.move (Go.Operand.tmp 5), type := 3, pos := "ref.go:67", after := #[], guard := none } : Oper)) (v := ?v5_6d) rfl (by kernel_rfl) (by kernel_rfl) (by kernel_rfl) (fun _ _ _ h => h) (Or.inl ⟨by rfl, ?hy5_6d⟩) (by assumption) ?re5_6d
            case hy5_6d => ((intro w hSw; obtain ⟨e1, e2⟩ := hSw; go_simp) <;> with_reducible rfl)
            (try simp only [Act.put, List.setIfInBounds_toArray, List.set_cons_zero, List.set_cons_succ])
            refine wpAnyH_take (i := 6) (oi := ({ dst := some 29, op := Go.Op.indexAddr 40 (Go.Operand.tmp 27) (Go.Operand.tmp 28), type := 0, pos := "ref.go:67", after := #[{ on := 4, ground := Go.Ground.data }, { on := 5, ground := Go.Ground.data }], guard := none } : Oper)) (v := ?v6_7d) rfl (by kernel_rfl) (by kernel_rfl) (by kernel_rfl) (fun _ _ _ h => h) (Or.inl ⟨by rfl, ?hy6_7d⟩) (by assumption) ?re6_7d
            case hy6_7d => ((intro w hSw; obtain ⟨e1, e2⟩ := hSw; go_simp) <;> with_reducible rfl)
            (try simp only [Act.put, List.setIfInBounds_toArray, List.set_cons_zero, List.set_cons_succ])
            refine wpAnyH_take (i := 7) (oi := ({ dst := some 30, op := Go.Op.load 3 (Go.Operand.tmp 29), type := 3, pos := "ref.go:67", after := #[{ on := 6, ground := Go.Ground.data }], guard := none } : Oper)) (v := ?v7_8d) rfl (by kernel_rfl) (by kernel_rfl) (by kernel_rfl) (fun _ _ _ h => h) (Or.inl ⟨by rfl, ?hy7_8d⟩) (by assumption) ?re7_8d
            case hy7_8d => ((intro w hSw; obtain ⟨e1, e2⟩ := hSw; go_simp) <;> with_reducible rfl)
            (try simp only [Act.put, List.setIfInBounds_toArray, List.set_cons_zero, List.set_cons_succ])
            refine wpAnyH_take (i := 8) (oi := ({ dst := some 31, op := Go.Op.binOp Go.BinOp.neq 3 (Go.Operand.tmp 26) (Go.Operand.tmp 30) 3, type := 4, pos := "ref.go:67", after := #[{ on := 3, ground := Go.Ground.data }, { on := 7, ground := Go.Ground.data }], guard := none } : Oper)) (v := ?v8_9d) rfl (by kernel_rfl) (by kernel_rfl) (by kernel_rfl) (fun _ _ _ h => h) (Or.inl ⟨by rfl, ?hy8_9d⟩) (by assumption) ?re8_9d
            case hy8_9d => ((intro w hSw; obtain ⟨e1, e2⟩ := hSw; go_simp) <;> with_reducible rfl)
            (try simp only [Act.put, List.setIfInBounds_toArray, List.set_cons_zero, List.set_cons_succ])
            refine wpAnyH_done (by kernel_rfl) ?_ _
            refine NoPanic.normal ?_
            go_wp2_with fail
            refine wp_region_noPanic ?_
            refine wp_region_held_drew (S := fun W => W.cell? ⟨b1, o1 + i, none⟩ = some (.int .i64 (x : Int)) ∧ W.cell? ⟨b2, o2 + i, none⟩ = some (.int .i64 (y : Int))) (by kernel_rfl) ?_ (fun hHeld => ?_)
            · exact ⟨x1, y1⟩
            refine wpAnyH_take (i := 0) (oi := ({ dst := some 32, op := Go.Op.move (Go.Operand.tmp 0), type := 40, pos := "ref.go:68", after := #[], guard := none } : Oper)) (v := ?v0_1e) rfl (by kernel_rfl) (by kernel_rfl) (by kernel_rfl) (fun _ _ _ h => h) (Or.inl ⟨by rfl, ?hy0_1e⟩) (by assumption) ?re0_1e
            case hy0_1e => ((intro w hSw; obtain ⟨e1, e2⟩ := hSw; go_simp) <;> with_reducible rfl)
            (try simp only [Act.put, List.setIfInBounds_toArray, List.set_cons_zero, List.set_cons_succ])
            refine wpAnyH_take (i := 1) (oi := ({ dst := some 33, op := Go.Op.move (Go.Operand.tmp 5), type := 3, pos := "ref.go:68", after := #[], guard := none } : Oper)) (v := ?v1_2e) rfl (by kernel_rfl) (by kernel_rfl) (by kernel_rfl) (fun _ _ _ h => h) (Or.inl ⟨by rfl, ?hy1_2e⟩) (by assumption) ?re1_2e
            case hy1_2e => ((intro w hSw; obtain ⟨e1, e2⟩ := hSw; go_simp) <;> with_reducible rfl)
            (try simp only [Act.put, List.setIfInBounds_toArray, List.set_cons_zero, List.set_cons_succ])
            refine wpAnyH_take (i := 2) (oi := ({ dst := some 34, op := Go.Op.indexAddr 40 (Go.Operand.tmp 32) (Go.Operand.tmp 33), type := 0, pos := "ref.go:68", after := #[{ on := 0, ground := Go.Ground.data }, { on := 1, ground := Go.Ground.data }], guard := none } : Oper)) (v := ?v2_3e) rfl (by kernel_rfl) (by kernel_rfl) (by kernel_rfl) (fun _ _ _ h => h) (Or.inl ⟨by rfl, ?hy2_3e⟩) (by assumption) ?re2_3e
            case hy2_3e => ((intro w hSw; obtain ⟨e1, e2⟩ := hSw; go_simp) <;> with_reducible rfl)
            (try simp only [Act.put, List.setIfInBounds_toArray, List.set_cons_zero, List.set_cons_succ])
            refine wpAnyH_take (i := 3) (oi := ({ dst := some 35, op := Go.Op.load 3 (Go.Operand.tmp 34), type := 3, pos := "ref.go:68", after := #[{ on := 2, ground := Go.Ground.data }], guard := none } : Oper)) (v := ?v3_4e) rfl (by kernel_rfl) (by kernel_rfl) (by kernel_rfl) (fun _ _ _ h => h) (Or.inl ⟨by rfl, ?hy3_4e⟩) (by assumption) ?re3_4e
            case hy3_4e => ((intro w hSw; obtain ⟨e1, e2⟩ := hSw; go_simp) <;> with_reducible rfl)
            (try simp only [Act.put, List.setIfInBounds_toArray, List.set_cons_zero, List.set_cons_succ])
            refine wpAnyH_take (i := 4) (oi := ({ dst := some 36, op := Go.Op.move (Go.Operand.tmp 1), type := 40, pos := "ref.go:68", after := #[], guard := none } : Oper)) (v := ?v4_5e) rfl (by kernel_rfl) (by kernel_rfl) (by kernel_rfl) (fun _ _ _ h => h) (Or.inl ⟨by rfl, ?hy4_5e⟩) (by assumption) ?re4_5e
            case hy4_5e => ((intro w hSw; obtain ⟨e1, e2⟩ := hSw; go_simp) <;> with_reducible rfl)
            (try simp only [Act.put, List.setIfInBounds_toArray, List.set_cons_zero, List.set_cons_succ])
            refine wpAnyH_take (i := 5) (oi := ({ dst := some 37, op := Go.Op.move (Go.Operand.tmp 5), type := 3, pos := "ref.go:68", after := #[], guard := none } : Oper)) (v := ?v5_6e) rfl (by kernel_rfl) (by kernel_rfl) (by kernel_rfl) (fun _ _ _ h => h) (Or.inl ⟨by rfl, ?hy5_6e⟩) (by assumption) ?re5_6e
            case hy5_6e => ((intro w hSw; obtain ⟨e1, e2⟩ := hSw; go_simp) <;> with_reducible rfl)
            (try simp only [Act.put, List.setIfInBounds_toArray, List.set_cons_zero, List.set_cons_succ])
            refine wpAnyH_take (i := 6) (oi := ({ dst := some 38, op := Go.Op.indexAddr 40 (Go.Operand.tmp 36) (Go.Operand.tmp 37), type := 0, pos := "ref.go:68", after := #[{ on := 4, ground := Go.Ground.data }, { on := 5, ground := Go.Ground.data }], guard := none } : Oper)) (v := ?v6_7e) rfl (by kernel_rfl) (by kernel_rfl) (by kernel_rfl) (fun _ _ _ h => h) (Or.inl ⟨by rfl, ?hy6_7e⟩) (by assumption) ?re6_7e
            case hy6_7e => ((intro w hSw; obtain ⟨e1, e2⟩ := hSw; go_simp) <;> with_reducible rfl)
            (try simp only [Act.put, List.setIfInBounds_toArray, List.set_cons_zero, List.set_cons_succ])
            refine wpAnyH_take (i := 7) (oi := ({ dst := some 39, op := Go.Op.load 3 (Go.Operand.tmp 38), type := 3, pos := "ref.go:68", after := #[{ on := 6, ground := Go.Ground.data }], guard := none } : Oper)) (v := ?v7_8e) rfl (by kernel_rfl) (by kernel_rfl) (by kernel_rfl) (fun _ _ _ h => h) (Or.inl ⟨by rfl, ?hy7_8e⟩) (by assumption) ?re7_8e
            case hy7_8e => ((intro w hSw; obtain ⟨e1, e2⟩ := hSw; go_simp) <;> with_reducible rfl)
            (try simp only [Act.put, List.setIfInBounds_toArray, List.set_cons_zero, List.set_cons_succ])
            refine wpAnyH_take (i := 8) (oi := ({ dst := some 40, op := Go.Op.binOp Go.BinOp.lss 3 (Go.Operand.tmp 35) (Go.Operand.tmp 39) 3, type := 4, pos := "ref.go:68", after := #[{ on := 3, ground := Go.Ground.data }, { on := 7, ground := Go.Ground.data }], guard := none } : Oper)) (v := ?v8_9e) rfl (by kernel_rfl) (by kernel_rfl) (by kernel_rfl) (fun _ _ _ h => h) (Or.inl ⟨by rfl, ?hy8_9e⟩) (by assumption) ?re8_9e
            case hy8_9e => ((intro w hSw; obtain ⟨e1, e2⟩ := hSw; go_simp) <;> with_reducible rfl)
            (try simp only [Act.put, List.setIfInBounds_toArray, List.set_cons_zero, List.set_cons_succ])
            refine wpAnyH_done (by kernel_rfl) ?_ _
            refine NoPanic.normal ?_
            go_wp2_with fail
            go_ret
            exact ⟨by rw [HC.out]; rfl, hBt.drew.drew⟩
  · have hc : cmpN (n : Int) (m : Int) = 1 := by have := hlt2 hpq; rw [cmpN, if_neg (by omega), if_pos (by omega)]
    rw [hc]
    have q1 : ((p : Int) == (q : Int)) = false := by rw [beq_eq_false_iff_ne, ne_eq]; omega
    have q2 : ((p : Int) != (q : Int)) = true := by rw [bne, q1]; rfl
    clear h1 h2 hp hq hc hlt1 hlt2
    go_enter Tryz.func49, Tryz.ntmps49
    go_wp2
    go_ret
    exact ⟨rfl, Below.refl _ _⟩
end Go.Proofs.YtbdiofifjckceaaGreatDoor
