/- Walks of package digest's twoValues and VerifyExtension. -/
import Derived.Test.YtdjdoepnljdlcaaDoorTd
namespace Go.Proofs.YtdjdoepnljdlcaaDoor
open Go.RowKit

theorem two_size' (old : ByteArray) (m n : Nat) (p : List ByteArray) (whole : Bool) (ho : old.size ≤ 32) (hA : All32 p) : (two old m n p whole).1.size ≤ 32 ∧ (two old m n p whole).2.1.size ≤ 32 := by
  induction hl : p.length generalizing m n p whole with
  | zero =>
    obtain rfl := List.eq_nil_of_length_eq_zero hl
    by_cases h : m < n ∧ 2 ≤ n
    · rw [two_nil h.1 h.2]; exact ⟨by decide, by decide⟩
    · cases whole
      · by_cases h2 : n ≤ m
        · rw [two_nil' h2]; exact ⟨by decide, by decide⟩
        · rw [two, dif_neg (by omega)]; exact ⟨Nat.zero_le 32, Nat.zero_le 32⟩
      · rw [two, dif_neg (by omega)]; exact ⟨ho, ho⟩
  | succ z ih =>
    rcases snoc_cases p with rfl | ⟨q, x, rfl⟩
    · simp at hl
    obtain ⟨hq, hx⟩ := all32_snoc.1 hA
    have hl' : q.length = z := by simpa using hl
    by_cases h : m < n ∧ 2 ≤ n
    · by_cases hi : m ≤ spl n
      · rw [two_lo h.1 h.2 hi]
        exact ⟨(ih m (spl n) q whole hq hl').1, Nat.le_of_eq (nodeB_size _ _)⟩
      · rw [two_hi h.1 h.2 hi]
        exact ⟨Nat.le_of_eq (nodeB_size _ _), Nat.le_of_eq (nodeB_size _ _)⟩
    · cases whole
      · rw [two, dif_neg (by omega)]; simp; omega
      · rw [two, dif_neg (by omega)]; exact ⟨ho, ho⟩

theorem cutNil_later (v : Value) (w : World) (hsl : Sl w v []) : ∀ W, Below w.heap.size w W → Calls Tryd.prog 61 #[v] W fun e w' => e = .returned (.tuple #[.slice none 0 0, .string ⟨#[]⟩, .bool false]) ∧ Below w.heap.size w w' :=
  fun W hW => (cutLast_nil v W (hsl.below hW)).mono fun _ _ g => ⟨g.1, by rw [g.2]; exact hW⟩

theorem two_any_nil (old : ByteArray) (m n : Nat) (whole : Bool) (v : Value) (w : World) (hm1 : 1 ≤ m) (hmn : m ≤ n) (hn2 : n ≤ 9223372036854775807) (hsl : Sl w v []) :
    Calls Tryd.prog 52 #[.string old, .int .i64 (m : Int), .int .i64 (n : Int), v, .bool whole] w fun e w' => e = .returned (.tuple #[.string (two old m n [] whole).1, .string (two old m n [] whole).2.1, .bool (two old m n [] whole).2.2]) ∧ Below w.heap.size w w' := by
  have cC := cutNil_later v w hsl
  have HB := Below.refl w.heap.size w
  have hv : (∃ b o c, v = .slice (some ⟨b, o, none⟩) 0 c) ∨ v = .slice none 0 0 := by
    rcases hsl with ⟨h, _⟩ | ⟨b, o, c, h, _⟩
    · exact .inr h
    · exact .inl ⟨b, o, c, h⟩
  clear hsl
  by_cases he : m = n
  · subst he
    have q : ((m : Int) == (m : Int)) = true := beq_self_eq_true _
    cases whole
    · rw [two_nil' (Nat.le_refl _)]
      rcases hv with ⟨b, o, c, rfl⟩ | rfl
      · go_enter Tryd.func52, Tryd.ntmps52
        go_wp2_with (go_at_call 61; (with_reducible refine (cC _ HB).mono ?_); rintro e w' ⟨rfl, HB⟩)
        go_ret3
        exact ⟨rfl, HB⟩
      · go_enter Tryd.func52, Tryd.ntmps52
        go_wp2_with (go_at_call 61; (with_reducible refine (cC _ HB).mono ?_); rintro e w' ⟨rfl, HB⟩)
        go_ret3
        exact ⟨rfl, HB⟩
    · rw [two_whole (Nat.le_refl _)]
      rcases hv with ⟨b, o, c, rfl⟩ | rfl
      · go_enter Tryd.func52, Tryd.ntmps52
        go_wp2
        go_ret3
        exact ⟨rfl, HB⟩
      · go_enter Tryd.func52, Tryd.ntmps52
        go_wp2
        go_ret3
        exact ⟨rfl, HB⟩
  · have q : ((m : Int) == (n : Int)) = false := by rw [beq_eq_false_iff_ne, ne_eq]; omega
    rw [two_nil (by omega) (by omega)]
    clear he
    rcases hv with ⟨b, o, c, rfl⟩ | rfl
    · go_enter Tryd.func52, Tryd.ntmps52
      go_wp2_with (go_at_call 61; (with_reducible refine (cC _ HB).mono ?_); rintro e w' ⟨rfl, HB⟩)
      go_ret3
      exact ⟨rfl, HB⟩
    · go_enter Tryd.func52, Tryd.ntmps52
      go_wp2_with (go_at_call 61; (with_reducible refine (cC _ HB).mono ?_); rintro e w' ⟨rfl, HB⟩)
      go_ret3
      exact ⟨rfl, HB⟩

set_option maxRecDepth 100000 in
set_option maxHeartbeats 2000000 in
theorem two_any (N : Nat) : ∀ (old : ByteArray) (m n : Nat) (p : List ByteArray) (whole : Bool) (v : Value) (w : World), p.length ≤ N → p.length ≤ 1000 → 1 ≤ m → m ≤ n → n ≤ 9223372036854775807 → old.size ≤ 32 → All32 p → Sl w v p → Tab w → 0 < w.heap.size →
    Calls Tryd.prog 52 #[.string old, .int .i64 (m : Int), .int .i64 (n : Int), v, .bool whole] w fun e w' => e = .returned (.tuple #[.string (two old m n p whole).1, .string (two old m n p whole).2.1, .bool (two old m n p whole).2.2]) ∧ Below w.heap.size w w' := by
  induction N with
  | zero =>
    intro old m n p whole v w hN hp1 hm1 hmn hn2 hold hA hsl ht hw
    obtain rfl := List.eq_nil_of_length_eq_zero (Nat.le_zero.1 hN)
    exact two_any_nil old m n whole v w hm1 hmn hn2 hsl
  | succ N ih =>
    intro old m n p whole v w hN hp1 hm1 hmn hn2 hold hA hsl ht hw
    rcases snoc_cases p with rfl | ⟨q, x, rfl⟩
    · exact two_any_nil old m n whole v w hm1 hmn hn2 hsl
    · obtain ⟨hAq, hx⟩ := all32_snoc.1 hA
      have HB := Below.refl w.heap.size w
      rcases hsl with ⟨_, h⟩ | ⟨b, o, c, rfl, hlc, hc, hb, hr⟩
      · exact absurd h (by simp)
      obtain ⟨z, hz⟩ : ∃ z, q.length = z := ⟨_, rfl⟩
      have hz1 : (q ++ [x]).length = z + 1 := by rw [List.length_append, hz]; rfl
      rw [hz1] at hN hp1 hlc ⊢
      have cC := cutLast_later b o c z q x w hz hlc hc hb hr
      by_cases he : m = n
      · subst he
        have q0 : ((m : Int) == (m : Int)) = true := beq_self_eq_true _
        cases whole
        · rw [two_not (Nat.le_refl _), ← empty_len, hz]
          clear ih ht hr hA hAq hz1
          go_enter Tryd.func52, Tryd.ntmps52
          go_wp2_with (go_at_call 61; (with_reducible refine (cC _ HB).mono ?_); rintro e w' ⟨rfl, HB⟩)
          go_ret3
          exact ⟨rfl, HB⟩
        · rw [two_whole (Nat.le_refl _), ← empty_len, hz1]
          clear ih ht hr hA hAq hz1
          go_enter Tryd.func52, Tryd.ntmps52
          go_wp2
          go_ret3
          exact ⟨rfl, HB⟩
      · have hlt : m < n := by omega
        have h2 : 2 ≤ n := by omega
        have q1 : ((m : Int) == (n : Int)) = false := by rw [beq_eq_false_iff_ne, ne_eq]; omega
        have hsp : ∀ W, Below w.heap.size w W → Calls Tryd.prog 47 #[.int .i64 (n : Int)] W fun e w' => e = .returned (.int .i64 ((spl n : Nat) : Int)) ∧ Below w.heap.size w w' := fun W hW => (split_any n h2 hn2 W).mono fun _ _ g => ⟨g.1, g.2 ▸ hW⟩
        have k1 := spl_lt n h2
        have k2 := spl_pos n
        have hsq : ∀ W, Below w.heap.size w W → Sl W (.slice (some ⟨b, o, none⟩) z c) q := fun W hW => by
          have := Sl.take (w := w) (k := z) hr (by omega) (by omega) hc hb
          rw [List.take_append_of_le_length (by omega), List.take_of_length_le (by omega)] at this
          exact this.below hW
        have cN : ∀ (a b' : ByteArray), a.size ≤ 32 → b'.size ≤ 32 → ∀ W, Below w.heap.size w W → Calls Tryd.prog 17 #[.string a, .string b'] W fun e w' => e = .returned (.string (nodeB a b')) ∧ Below w.heap.size w w' :=
          fun a b' ha hb' => later fun W hW => Node_any a b' (by omega) (by omega) W (ht.below hW hw) (Nat.lt_of_lt_of_le hw hW.size)
        clear he
        by_cases hik : m ≤ spl n
        · skip
          have cV : ∀ W, Below w.heap.size w W → Calls Tryd.prog 52 #[.string old, .int .i64 (m : Int), .int .i64 ((spl n : Nat) : Int), .slice (some ⟨b, o, none⟩) z c, .bool whole] W fun e w' => e = .returned (.tuple #[.string (two old m (spl n) q whole).1, .string (two old m (spl n) q whole).2.1, .bool (two old m (spl n) q whole).2.2]) ∧ Below w.heap.size w w' := later fun W hW => ih old m (spl n) q whole _ W (by omega) (by omega) hm1 hik (by omega) hold hAq (hsq W hW) (ht.below hW hw) (Nat.lt_of_lt_of_le hw hW.size)
          have cN1 := cN (two old m (spl n) q whole).2.1 x (two_size' _ _ _ _ _ (by omega) hAq).2 (by omega)
          rw [two_lo hlt h2 hik]
          obtain ⟨y, hy⟩ : ∃ y, two old m (spl n) q whole = y := ⟨_, rfl⟩
          obtain ⟨k, hk⟩ : ∃ k, spl n = k := ⟨_, rfl⟩
          rw [hy] at cV cN1 ⊢
          rw [hk] at cV hsp k1 k2 hik
          clear ih ht hr hA hAq hz1 hz hy hk hsq cN hN
          go_enter Tryd.func52, Tryd.ntmps52
          go_wp2_with (first | (go_at_call 61; (with_reducible refine (cC _ HB).mono ?_); rintro e w' ⟨rfl, HB⟩) | (go_at_call 47; (with_reducible refine (hsp _ HB).mono ?_); rintro e w' ⟨rfl, HB⟩) | (go_at_call 52; (with_reducible refine (cV _ HB).mono ?_); rintro e w' ⟨rfl, HB⟩) | (go_at_call 17; (with_reducible refine (cN1 _ HB).mono ?_); rintro e w' ⟨rfl, HB⟩))
          go_ret3
          exact ⟨rfl, HB⟩
        · skip
          have cV : ∀ W, Below w.heap.size w W → Calls Tryd.prog 52 #[.string old, .int .i64 ((m : Int) - ((spl n : Nat) : Int)), .int .i64 ((n : Int) - ((spl n : Nat) : Int)), .slice (some ⟨b, o, none⟩) z c, .bool false] W fun e w' => e = .returned (.tuple #[.string (two old (m - spl n) (n - spl n) q false).1, .string (two old (m - spl n) (n - spl n) q false).2.1, .bool (two old (m - spl n) (n - spl n) q false).2.2]) ∧ Below w.heap.size w w' := later fun W hW => by
              have := ih old (m - spl n) (n - spl n) q false _ W (by omega) (by omega) (by omega) (by omega) (by omega) hold hAq (hsq W hW) (ht.below hW hw) (Nat.lt_of_lt_of_le hw hW.size)
              rwa [show ((n - spl n : Nat) : Int) = (n : Int) - ((spl n : Nat) : Int) by omega, show ((m - spl n : Nat) : Int) = (m : Int) - ((spl n : Nat) : Int) by omega] at this
          have cN1 := cN x (two old (m - spl n) (n - spl n) q false).1 (by omega) (two_size' _ _ _ _ _ (by omega) hAq).1
          have cN2 := cN x (two old (m - spl n) (n - spl n) q false).2.1 (by omega) (two_size' _ _ _ _ _ (by omega) hAq).2
          rw [two_hi hlt h2 hik]
          obtain ⟨y, hy⟩ : ∃ y, two old (m - spl n) (n - spl n) q false = y := ⟨_, rfl⟩
          obtain ⟨k, hk⟩ : ∃ k, spl n = k := ⟨_, rfl⟩
          rw [hy] at cV cN1 cN2 ⊢
          rw [hk] at cV hsp k1 k2 hik
          clear ih ht hr hA hAq hz1 hz hy hk hsq cN hN
          go_enter Tryd.func52, Tryd.ntmps52
          go_wp2_with (first | (go_at_call 61; (with_reducible refine (cC _ HB).mono ?_); rintro e w' ⟨rfl, HB⟩) | (go_at_call 47; (with_reducible refine (hsp _ HB).mono ?_); rintro e w' ⟨rfl, HB⟩) | (go_at_call 52; (with_reducible refine (cV _ HB).mono ?_); rintro e w' ⟨rfl, HB⟩) | (go_at_call 17; (with_reducible refine (cN1 _ HB).mono ?_); rintro e w' ⟨rfl, HB⟩) | (go_at_call 17; (with_reducible refine (cN2 _ HB).mono ?_); rintro e w' ⟨rfl, HB⟩))
          go_ret3
          exact ⟨rfl, HB⟩

/-- what VerifyExtension says -/
def vex (old : ByteArray) (m : Int) (root : ByteArray) (n : Int) (p : List ByteArray) : Bool :=
  decide (0 ≤ m ∧ m ≤ n ∧ All32 [old, root] ∧ All32 p) &&
    (if m = 0 then p.isEmpty && decide (old = sumB ⟨#[]⟩)
     else (two old m.toNat n.toNat p true).2.2 && (decide ((two old m.toNat n.toNat p true).1 = old) && decide ((two old m.toNat n.toNat p true).2.1 = root)))
theorem vex_no (old : ByteArray) (m : Int) (root : ByteArray) (n : Int) (p : List ByteArray) (h : ¬ (0 ≤ m ∧ m ≤ n ∧ All32 [old, root] ∧ All32 p)) : vex old m root n p = false := by
  rw [vex, decide_eq_false h, Bool.false_and]

set_option maxRecDepth 100000 in
set_option maxHeartbeats 2000000 in
theorem VerifyExtension_any (old : ByteArray) (m : Int) (root : ByteArray) (n : Int) (p : List ByteArray) (v : Value) (w : World) (hm0 : -9223372036854775808 ≤ m) (hm1 : m ≤ 9223372036854775807) (hn0 : -9223372036854775808 ≤ n) (hn1 : n ≤ 9223372036854775807)
    (hold : old.size ≤ 9223372036854775807) (hroot : root.size ≤ 9223372036854775807) (hp1 : p.length ≤ 1000) (hz : ∀ x ∈ p, x.size ≤ 9223372036854775807) (hsl : Sl w v p) (ht : Tab w) (hw : 0 < w.heap.size) :
    Calls Tryd.prog 31 #[.string old, .int .i64 m, .string root, .int .i64 n, v] w fun e w' => e = .returned (.bool (vex old m root n p)) ∧ Below w.heap.size w w' := by
  have HB := Below.refl w.heap.size w
  have cA : ∀ W, Below w.heap.size w W → Calls Tryd.prog 48 #[v] W fun e w' => e = .returned (.bool (decide (All32 p))) ∧ Below w.heap.size w w' := fun W hW => (areDigests_any v p W (hsl.below hW) hp1 hz).mono fun _ _ g => ⟨g.1, g.2 ▸ hW⟩
  have cB : ∀ W, Below w.heap.size w W → Calls Tryd.prog 48 #[.slice (some ⟨W.heap.size, 0, none⟩) 2 2] (W.alloc (.cells #[.string old, .string root] 9)) fun e w' => e = .returned (.bool (decide (All32 [old, root]))) ∧ Below w.heap.size w w' := fun W hW =>
    (areDigests_any _ [old, root] _ (.inr ⟨W.heap.size, 0, 2, rfl, Nat.le_refl _, by decide, by simp, fun j x hj => by
      rw [Nat.zero_add, World.cell?, World.alloc_heap_new]
      match j, hj with
      | 0, hj => simp at hj; subst hj; rfl
      | 1, hj => simp at hj; subst hj; rfl⟩) (by simp) (by intro x hx; simp at hx; rcases hx with rfl | rfl <;> assumption)).mono fun _ _ g => ⟨g.1, by rw [← g.2]; exact hW.alloc hW.size _⟩
  by_cases h1 : m < 0
  · rw [vex_no _ _ _ _ _ (by omega)]
    clear hsl ht hz
    go_enter Tryd.func31, Tryd.ntmps31
    go_wp2
    go_ret
    exact ⟨rfl, HB⟩
  by_cases h2 : n < m
  · rw [vex_no _ _ _ _ _ (by omega)]
    clear hsl ht hz
    go_enter Tryd.func31, Tryd.ntmps31
    go_wp2
    go_ret
    exact ⟨rfl, HB⟩
  by_cases hO : All32 [old, root]
  · have hd : decide (All32 [old, root]) = true := decide_eq_true hO
    rw [hd] at cB
    have ho32 : old.size = 32 := hO old (by simp)
    by_cases hA : All32 p
    · have hdA : decide (All32 p) = true := decide_eq_true hA
      rw [hdA] at cA
      have hyes : vex old m root n p = (if m = 0 then p.isEmpty && decide (old = sumB ⟨#[]⟩)
          else (two old m.toNat n.toNat p true).2.2 && (decide ((two old m.toNat n.toNat p true).1 = old) && decide ((two old m.toNat n.toNat p true).2.1 = root))) := by
        rw [vex, decide_eq_true (show 0 ≤ m ∧ m ≤ n ∧ All32 [old, root] ∧ All32 p from ⟨by omega, by omega, hO, hA⟩), Bool.true_and]
      rw [hyes]
      clear hyes
      by_cases h0 : m = 0
      · subst h0
        rw [if_pos rfl]
        have cS : ∀ W, Below w.heap.size w W → Calls Tryd.prog 13 #[.string ⟨#[]⟩] W fun e w' => e = .returned (.string (sumB ⟨#[]⟩)) ∧ Below w.heap.size w w' := later fun W hW => Sum_any _ (by decide) W (ht.below hW hw) (Nat.lt_of_lt_of_le hw hW.size)
        obtain ⟨sB, hsB⟩ : ∃ s, sumB ⟨#[]⟩ = s := ⟨_, rfl⟩
        rw [hsB] at cS ⊢
        rw [← empty_len p]
        by_cases hp : p.length = 0
        · have q : ((p.length : Int) == 0) = true := by rw [hp]; rfl
          rw [q]
          rcases len_of_sl hsl with ⟨b, o, c, rfl⟩ | ⟨rfl, _⟩
          · rw [hp] at cA ⊢
            clear hsl ht hz hd hdA hO hA hsB hp q
            go_enter Tryd.func31, Tryd.ntmps31
            go_wp2_with (first | (go_at_call 48; (with_reducible refine (cB _ HB).mono ?_); rintro e w' ⟨rfl, HB⟩) | (go_at_call 48; (with_reducible refine (cA _ HB).mono ?_); rintro e w' ⟨rfl, HB⟩) | (go_at_call 13; (with_reducible refine (cS _ HB).mono ?_); rintro e w' ⟨rfl, HB⟩))
            go_ret
            exact ⟨congrArg (fun x => Ending.returned (.bool x)) (by rw [Bool.true_and]; exact eqB _ _), HB⟩
          · clear hsl ht hz hd hdA hO hA hsB hp q
            go_enter Tryd.func31, Tryd.ntmps31
            go_wp2_with (first | (go_at_call 48; (with_reducible refine (cB _ HB).mono ?_); rintro e w' ⟨rfl, HB⟩) | (go_at_call 48; (with_reducible refine (cA _ HB).mono ?_); rintro e w' ⟨rfl, HB⟩) | (go_at_call 13; (with_reducible refine (cS _ HB).mono ?_); rintro e w' ⟨rfl, HB⟩))
            go_ret
            exact ⟨congrArg (fun x => Ending.returned (.bool x)) (by rw [Bool.true_and]; exact eqB _ _), HB⟩
        · have q : ((p.length : Int) == 0) = false := by rw [beq_eq_false_iff_ne, ne_eq]; omega
          rw [q]
          rcases len_of_sl hsl with ⟨b, o, c, rfl⟩ | ⟨_, rfl⟩
          · obtain ⟨z, hz'⟩ : ∃ z, p.length = z := ⟨_, rfl⟩
            rw [hz'] at cA q ⊢
            clear hsl ht hz hd hdA hO hA hsB hp hz'
            go_enter Tryd.func31, Tryd.ntmps31
            go_wp2_with (first | (go_at_call 48; (with_reducible refine (cB _ HB).mono ?_); rintro e w' ⟨rfl, HB⟩) | (go_at_call 48; (with_reducible refine (cA _ HB).mono ?_); rintro e w' ⟨rfl, HB⟩) | (go_at_call 13; (with_reducible refine (cS _ HB).mono ?_); rintro e w' ⟨rfl, HB⟩))
            go_ret
            exact ⟨rfl, HB⟩
          · exact absurd rfl hp
      · rw [if_neg h0]
        obtain ⟨m, rfl⟩ : ∃ m' : Nat, m = (m' : Int) := ⟨m.toNat, by omega⟩
        obtain ⟨n, rfl⟩ : ∃ n' : Nat, n = (n' : Int) := ⟨n.toNat, by omega⟩
        have cV : ∀ W, Below w.heap.size w W → Calls Tryd.prog 52 #[.string old, .int .i64 (m : Int), .int .i64 (n : Int), v, .bool true] W fun e w' => e = .returned (.tuple #[.string (two old m n p true).1, .string (two old m n p true).2.1, .bool (two old m n p true).2.2]) ∧ Below w.heap.size w w' :=
          later fun W hW => two_any p.length old m n p true v W (Nat.le_refl _) hp1 (by omega) (by omega) (by omega) (by omega) hA (hsl.below hW) (ht.below hW hw) (Nat.lt_of_lt_of_le hw hW.size)
        rw [Int.toNat_natCast, Int.toNat_natCast]
        obtain ⟨⟨y1, y2, y3⟩, hy⟩ : ∃ y, two old m n p true = y := ⟨_, rfl⟩
        rw [hy] at cV ⊢
        have q0 : ((m : Int) == 0) = false := by rw [beq_eq_false_iff_ne]; exact h0
        clear hsl ht hz hd hdA hO hA hy h0
        cases y3
        · go_enter Tryd.func31, Tryd.ntmps31
          go_wp2_with (first | (go_at_call 48; (with_reducible refine (cB _ HB).mono ?_); rintro e w' ⟨rfl, HB⟩) | (go_at_call 48; (with_reducible refine (cA _ HB).mono ?_); rintro e w' ⟨rfl, HB⟩) | (go_at_call 52; (with_reducible refine (cV _ HB).mono ?_); rintro e w' ⟨rfl, HB⟩))
          go_ret
          exact ⟨rfl, HB⟩
        · by_cases h3 : y1 = old
          · subst h3
            have q3 : (y1.toList == y1.toList) = true := beq_self_eq_true _
            go_enter Tryd.func31, Tryd.ntmps31
            go_wp2_with (first | (go_at_call 48; (with_reducible refine (cB _ HB).mono ?_); rintro e w' ⟨rfl, HB⟩) | (go_at_call 48; (with_reducible refine (cA _ HB).mono ?_); rintro e w' ⟨rfl, HB⟩) | (go_at_call 52; (with_reducible refine (cV _ HB).mono ?_); rintro e w' ⟨rfl, HB⟩))
            go_ret
            exact ⟨congrArg (fun x => Ending.returned (.bool x)) (by rw [eqB]; simp), HB⟩
          · have q3 : (y1.toList == old.toList) = false := by rw [eqB, decide_eq_false h3]
            have hd3 : decide (y1 = old) = false := decide_eq_false h3
            rw [hd3]
            clear h3 hd3
            go_enter Tryd.func31, Tryd.ntmps31
            go_wp2_with (first | (go_at_call 48; (with_reducible refine (cB _ HB).mono ?_); rintro e w' ⟨rfl, HB⟩) | (go_at_call 48; (with_reducible refine (cA _ HB).mono ?_); rintro e w' ⟨rfl, HB⟩) | (go_at_call 52; (with_reducible refine (cV _ HB).mono ?_); rintro e w' ⟨rfl, HB⟩))
            go_ret
            exact ⟨rfl, HB⟩
    · have hdA : decide (All32 p) = false := decide_eq_false hA
      rw [hdA] at cA
      rw [vex_no _ _ _ _ _ (fun h => hA h.2.2.2)]
      clear hsl ht hz hd hdA hO hA
      go_enter Tryd.func31, Tryd.ntmps31
      go_wp2_with (first | (go_at_call 48; (with_reducible refine (cB _ HB).mono ?_); rintro e w' ⟨rfl, HB⟩) | (go_at_call 48; (with_reducible refine (cA _ HB).mono ?_); rintro e w' ⟨rfl, HB⟩))
      go_ret
      exact ⟨rfl, HB⟩
  · have hd : decide (All32 [old, root]) = false := decide_eq_false hO
    rw [hd] at cB
    rw [vex_no _ _ _ _ _ (fun h => hO h.2.2.1)]
    clear hsl ht hz hd hO
    go_enter Tryd.func31, Tryd.ntmps31
    go_wp2_with (first | (go_at_call 48; (with_reducible refine (cB _ HB).mono ?_); rintro e w' ⟨rfl, HB⟩))
    go_ret
    exact ⟨rfl, HB⟩
end Go.Proofs.YtdjdoepnljdlcaaDoor
