/- Walks of package digest's valueOf and Verify. -/
import Derived.Test.YtdjdoepnljdlcaaDoorTc
namespace Go.Proofs.YtdjdoepnljdlcaaDoor
open Go.RowKit

theorem cutLast_later (b o c n : Nat) (q : List ByteArray) (x : ByteArray) (w : World) (hn : q.length = n) (hl : n + 1 ≤ c) (hc : c ≤ 9223372036854775807) (hb : b < w.heap.size) (hr : StrRow w b o (q ++ [x])) :
    ∀ W, Below w.heap.size w W → Calls Tryd.prog 61 #[.slice (some ⟨b, o, none⟩) (n + 1) c] W fun e w' => e = .returned (.tuple #[.slice (some ⟨b, o, none⟩) n c, .string x, .bool true]) ∧ Below w.heap.size w w' := fun W hW =>
  (cutLast_snoc b o c n q x W hn hl hc (hr.below hW hb)).mono fun _ _ ⟨he, k, hk⟩ => ⟨he, by rw [hk]; exact hW.trans ⟨rfl, rfl, rfl, Nat.le_refl _, fun _ _ => rfl⟩⟩
theorem val_size' (n i : Nat) (s : ByteArray) (p : List ByteArray) : (val n i s p).1.size ≤ 32 := by
  by_cases h2 : 2 ≤ n
  · rcases snoc_cases p with rfl | ⟨q, x, rfl⟩
    · rw [val_nil h2]; decide
    · by_cases hi : i < spl n
      · rw [val_lo h2 hi]; exact Nat.le_of_eq (nodeB_size _ _)
      · rw [val_hi h2 hi]; exact Nat.le_of_eq (nodeB_size _ _)
  · rw [val_one (by omega)]; exact Nat.le_of_eq (leafB_size _)

theorem eqB (a b : ByteArray) : (a.toList == b.toList) = decide (a = b) := by
  rw [ByteArray.toList_eq, ByteArray.toList_eq]
  by_cases h : a = b
  · subst h; simp
  · rw [decide_eq_false h, beq_eq_false_iff_ne]
    intro e
    apply h
    cases a; cases b
    simp only [ByteArray.mk.injEq]
    exact Array.toList_inj.1 e
theorem empty_len (p : List ByteArray) : ((p.length : Int) == 0) = p.isEmpty := by cases p <;> simp; omega

theorem valueOf_nil (n i : Nat) (s : ByteArray) (v : Value) (w : World) (hn : 1 ≤ n) (hn2 : n ≤ 9223372036854775807) (hi : i < n) (hs : s.size ≤ 137438953472) (hsl : Sl w v []) (ht : Tab w) (hw : 0 < w.heap.size) :
    Calls Tryd.prog 49 #[.int .i64 (n : Int), .int .i64 (i : Int), .string s, v] w fun e w' => e = .returned (.tuple #[.string (val n i s []).1, .bool (val n i s []).2]) ∧ Below w.heap.size w w' := by
  have cL : ∀ W, Below w.heap.size w W → Calls Tryd.prog 15 #[.string s] W fun e w' => e = .returned (.string (leafB s)) ∧ Below w.heap.size w w' := later fun W hW => Leaf_any s hs W (ht.below hW hw) (Nat.lt_of_lt_of_le hw hW.size)
  have cC : ∀ W, Below w.heap.size w W → Calls Tryd.prog 61 #[v] W fun e w' => e = .returned (.tuple #[.slice none 0 0, .string ⟨#[]⟩, .bool false]) ∧ Below w.heap.size w w' := fun W hW => (cutLast_nil v W (hsl.below hW)).mono fun _ _ g => ⟨g.1, by rw [g.2]; exact hW⟩
  have HB := Below.refl w.heap.size w
  have hv : (∃ b o c, v = .slice (some ⟨b, o, none⟩) 0 c) ∨ v = .slice none 0 0 := by
    rcases hsl with ⟨h, _⟩ | ⟨b, o, c, h, _⟩
    · exact .inr h
    · exact .inl ⟨b, o, c, h⟩
  clear hsl ht
  by_cases h1 : n = 1
  · subst h1
    rw [val_one (by omega)]
    rcases hv with ⟨b, o, c, rfl⟩ | rfl
    · go_enter Tryd.func49, Tryd.ntmps49
      go_wp2_with (go_at_call 15; (with_reducible refine (cL _ HB).mono ?_); rintro e w' ⟨rfl, HB⟩)
      go_ret2
      exact ⟨rfl, HB⟩
    · go_enter Tryd.func49, Tryd.ntmps49
      go_wp2_with (go_at_call 15; (with_reducible refine (cL _ HB).mono ?_); rintro e w' ⟨rfl, HB⟩)
      go_ret2
      exact ⟨rfl, HB⟩
  · rw [val_nil (by omega)]
    have q1 : ((n : Int) == 1) = false := by rw [beq_eq_false_iff_ne, ne_eq]; omega
    clear h1
    go_enter Tryd.func49, Tryd.ntmps49
    go_wp2_with (go_at_call 61; (with_reducible refine (cC _ HB).mono ?_); rintro e w' ⟨rfl, HB⟩)
    go_ret2
    exact ⟨rfl, HB⟩

set_option maxRecDepth 100000 in
set_option maxHeartbeats 2000000 in
theorem valueOf_any (N : Nat) : ∀ (n i : Nat) (s : ByteArray) (p : List ByteArray) (v : Value) (w : World), p.length ≤ N → p.length ≤ 1000 → 1 ≤ n → n ≤ 9223372036854775807 → i < n → s.size ≤ 137438953472 → All32 p → Sl w v p → Tab w → 0 < w.heap.size →
    Calls Tryd.prog 49 #[.int .i64 (n : Int), .int .i64 (i : Int), .string s, v] w fun e w' => e = .returned (.tuple #[.string (val n i s p).1, .bool (val n i s p).2]) ∧ Below w.heap.size w w' := by
  induction N with
  | zero =>
    intro n i s p v w hN hp1 hn hn2 hi hs hA hsl ht hw
    obtain rfl := List.eq_nil_of_length_eq_zero (Nat.le_zero.1 hN)
    exact valueOf_nil n i s v w hn hn2 hi hs hsl ht hw
  | succ N ih =>
    intro n i s p v w hN hp1 hn hn2 hi hs hA hsl ht hw
    rcases snoc_cases p with rfl | ⟨q, x, rfl⟩
    · exact valueOf_nil n i s v w hn hn2 hi hs hsl ht hw
    · obtain ⟨hAq, hx⟩ := all32_snoc.1 hA
      have cL : ∀ W, Below w.heap.size w W → Calls Tryd.prog 15 #[.string s] W fun e w' => e = .returned (.string (leafB s)) ∧ Below w.heap.size w w' := later fun W hW => Leaf_any s hs W (ht.below hW hw) (Nat.lt_of_lt_of_le hw hW.size)
      have HB := Below.refl w.heap.size w
      rcases hsl with ⟨_, h⟩ | ⟨b, o, c, rfl, hlc, hc, hb, hr⟩
      · exact absurd h (by simp)
      obtain ⟨m, hm⟩ : ∃ m, q.length = m := ⟨_, rfl⟩
      have hm1 : (q ++ [x]).length = m + 1 := by rw [List.length_append, hm]; rfl
      rw [hm1] at hN hp1 hlc ⊢
      have cC := cutLast_later b o c m q x w hm hlc hc hb hr
      by_cases h1 : n = 1
      · subst h1
        rw [val_one (by omega), show (q ++ [x]).isEmpty = false by simp]
        clear ih ht hr hA hAq hm1
        go_enter Tryd.func49, Tryd.ntmps49
        go_wp2_with (go_at_call 15; (with_reducible refine (cL _ HB).mono ?_); rintro e w' ⟨rfl, HB⟩)
        go_ret2
        exact ⟨rfl, HB⟩
      · have h2 : 2 ≤ n := by omega
        have q1 : ((n : Int) == 1) = false := by rw [beq_eq_false_iff_ne, ne_eq]; omega
        have hsp : ∀ W, Below w.heap.size w W → Calls Tryd.prog 47 #[.int .i64 (n : Int)] W fun e w' => e = .returned (.int .i64 ((spl n : Nat) : Int)) ∧ Below w.heap.size w w' := fun W hW => (split_any n h2 hn2 W).mono fun _ _ g => ⟨g.1, g.2 ▸ hW⟩
        have k1 := spl_lt n h2
        have k2 := spl_pos n
        have hsq : ∀ W, Below w.heap.size w W → Sl W (.slice (some ⟨b, o, none⟩) m c) q := fun W hW => by
          have := Sl.take (w := w) (k := m) hr (by omega) (by omega) hc hb
          rw [List.take_append_of_le_length (by omega), List.take_of_length_le (by omega)] at this
          exact this.below hW
        have cN : ∀ (a b' : ByteArray), a.size ≤ 32 → b'.size ≤ 32 → ∀ W, Below w.heap.size w W → Calls Tryd.prog 17 #[.string a, .string b'] W fun e w' => e = .returned (.string (nodeB a b')) ∧ Below w.heap.size w w' :=
          fun a b' ha hb' => later fun W hW => Node_any a b' (by omega) (by omega) W (ht.below hW hw) (Nat.lt_of_lt_of_le hw hW.size)
        by_cases hik : i < spl n
        · have cV : ∀ W, Below w.heap.size w W → Calls Tryd.prog 49 #[.int .i64 ((spl n : Nat) : Int), .int .i64 (i : Int), .string s, .slice (some ⟨b, o, none⟩) m c] W fun e w' => e = .returned (.tuple #[.string (val (spl n) i s q).1, .bool (val (spl n) i s q).2]) ∧ Below w.heap.size w w' :=
            later fun W hW => ih (spl n) i s q _ W (by omega) (by omega) k2 (by omega) hik hs hAq (hsq W hW) (ht.below hW hw) (Nat.lt_of_lt_of_le hw hW.size)
          have cNN := cN (val (spl n) i s q).1 x (val_size' _ _ _ _) (by omega)
          rw [val_lo h2 hik]
          obtain ⟨y, hy⟩ : ∃ y, val (spl n) i s q = y := ⟨_, rfl⟩
          obtain ⟨k, hk⟩ : ∃ k, spl n = k := ⟨_, rfl⟩
          rw [hy] at cV cNN ⊢
          rw [hk] at cV hsp k1 k2 hik
          clear ih ht hr hA hAq hm1 hy hk hsq cN
          go_enter Tryd.func49, Tryd.ntmps49
          go_wp2_with (first | (go_at_call 61; (with_reducible refine (cC _ HB).mono ?_); rintro e w' ⟨rfl, HB⟩) | (go_at_call 47; (with_reducible refine (hsp _ HB).mono ?_); rintro e w' ⟨rfl, HB⟩) | (go_at_call 49; (with_reducible refine (cV _ HB).mono ?_); rintro e w' ⟨rfl, HB⟩) | (go_at_call 17; (with_reducible refine (cNN _ HB).mono ?_); rintro e w' ⟨rfl, HB⟩))
          go_ret2
          exact ⟨rfl, HB⟩
        · have cV : ∀ W, Below w.heap.size w W → Calls Tryd.prog 49 #[.int .i64 ((n : Int) - ((spl n : Nat) : Int)), .int .i64 ((i : Int) - ((spl n : Nat) : Int)), .string s, .slice (some ⟨b, o, none⟩) m c] W fun e w' => e = .returned (.tuple #[.string (val (n - spl n) (i - spl n) s q).1, .bool (val (n - spl n) (i - spl n) s q).2]) ∧ Below w.heap.size w w' :=
            later fun W hW => by
              have := ih (n - spl n) (i - spl n) s q _ W (by omega) (by omega) (by omega) (by omega) (by omega) hs hAq (hsq W hW) (ht.below hW hw) (Nat.lt_of_lt_of_le hw hW.size)
              rwa [show ((n - spl n : Nat) : Int) = (n : Int) - ((spl n : Nat) : Int) by omega, show ((i - spl n : Nat) : Int) = (i : Int) - ((spl n : Nat) : Int) by omega] at this
          have cNN := cN x (val (n - spl n) (i - spl n) s q).1 (by omega) (val_size' _ _ _ _)
          rw [val_hi h2 hik]
          obtain ⟨y, hy⟩ : ∃ y, val (n - spl n) (i - spl n) s q = y := ⟨_, rfl⟩
          obtain ⟨k, hk⟩ : ∃ k, spl n = k := ⟨_, rfl⟩
          rw [hy] at cV cNN ⊢
          rw [hk] at cV hsp k1 k2 hik
          clear ih ht hr hA hAq hm1 hy hk hsq cN
          go_enter Tryd.func49, Tryd.ntmps49
          go_wp2_with (first | (go_at_call 61; (with_reducible refine (cC _ HB).mono ?_); rintro e w' ⟨rfl, HB⟩) | (go_at_call 47; (with_reducible refine (hsp _ HB).mono ?_); rintro e w' ⟨rfl, HB⟩) | (go_at_call 49; (with_reducible refine (cV _ HB).mono ?_); rintro e w' ⟨rfl, HB⟩) | (go_at_call 17; (with_reducible refine (cNN _ HB).mono ?_); rintro e w' ⟨rfl, HB⟩))
          go_ret2
          exact ⟨rfl, HB⟩

/-- what Verify says -/
def ver (root : ByteArray) (n i : Int) (s : ByteArray) (p : List ByteArray) : Bool :=
  decide (0 ≤ i ∧ i < n ∧ All32 p) && ((val n.toNat i.toNat s p).2 && decide ((val n.toNat i.toNat s p).1 = root))

theorem Verify_any (root : ByteArray) (n i : Int) (s : ByteArray) (p : List ByteArray) (v : Value) (w : World) (hn0 : -9223372036854775808 ≤ n) (hn1 : n ≤ 9223372036854775807) (hi0 : -9223372036854775808 ≤ i) (hi1 : i ≤ 9223372036854775807)
    (hp1 : p.length ≤ 1000) (hs : s.size ≤ 137438953472) (hz : ∀ x ∈ p, x.size ≤ 9223372036854775807) (hsl : Sl w v p) (ht : Tab w) (hw : 0 < w.heap.size) :
    Calls Tryd.prog 29 #[.string root, .int .i64 n, .int .i64 i, .string s, v] w fun e w' => e = .returned (.bool (ver root n i s p)) ∧ Below w.heap.size w w' := by
  have HB := Below.refl w.heap.size w
  have cA : ∀ W, Below w.heap.size w W → Calls Tryd.prog 48 #[v] W fun e w' => e = .returned (.bool (decide (All32 p))) ∧ Below w.heap.size w w' := fun W hW => (areDigests_any v p W (hsl.below hW) hp1 hz).mono fun _ _ g => ⟨g.1, g.2 ▸ hW⟩
  by_cases h1 : i < 0
  · have hv : ver root n i s p = false := by simp [ver]; omega
    rw [hv]
    clear hsl ht hv
    go_enter Tryd.func29, Tryd.ntmps29
    go_wp2
    go_ret
    exact ⟨rfl, HB⟩
  · by_cases h2 : n ≤ i
    · have hv : ver root n i s p = false := by simp [ver]; omega
      rw [hv]
      clear hsl ht hv
      go_enter Tryd.func29, Tryd.ntmps29
      go_wp2
      go_ret
      exact ⟨rfl, HB⟩
    · by_cases hA : All32 p
      · obtain ⟨n, rfl⟩ : ∃ n' : Nat, n = (n' : Int) := ⟨n.toNat, by omega⟩
        obtain ⟨i, rfl⟩ : ∃ i' : Nat, i = (i' : Int) := ⟨i.toNat, by omega⟩
        have cV : ∀ W, Below w.heap.size w W → Calls Tryd.prog 49 #[.int .i64 (n : Int), .int .i64 (i : Int), .string s, v] W fun e w' => e = .returned (.tuple #[.string (val n i s p).1, .bool (val n i s p).2]) ∧ Below w.heap.size w w' :=
          later fun W hW => valueOf_any p.length n i s p v W (Nat.le_refl _) hp1 (by omega) (by omega) (by omega) hs hA (hsl.below hW) (ht.below hW hw) (Nat.lt_of_lt_of_le hw hW.size)
        have hv : ver root n i s p = ((val n i s p).2 && decide ((val n i s p).1 = root)) := by
          have : (0 : Int) ≤ (i : Int) ∧ (i : Int) < (n : Int) ∧ All32 p := ⟨by omega, by omega, hA⟩
          rw [ver, decide_eq_true this, Bool.true_and]; rfl
        rw [hv]
        have hd : decide (All32 p) = true := decide_eq_true hA
        rw [hd] at cA
        obtain ⟨⟨y1, y2⟩, hy⟩ : ∃ y, val n i s p = y := ⟨_, rfl⟩
        rw [hy] at cV ⊢
        clear hsl ht hv hy hd hA
        cases y2
        · go_enter Tryd.func29, Tryd.ntmps29
          go_wp2_with (first | (go_at_call 48; (with_reducible refine (cA _ HB).mono ?_); rintro e w' ⟨rfl, HB⟩) | (go_at_call 49; (with_reducible refine (cV _ HB).mono ?_); rintro e w' ⟨rfl, HB⟩))
          go_ret
          exact ⟨rfl, HB⟩
        · go_enter Tryd.func29, Tryd.ntmps29
          go_wp2_with (first | (go_at_call 48; (with_reducible refine (cA _ HB).mono ?_); rintro e w' ⟨rfl, HB⟩) | (go_at_call 49; (with_reducible refine (cV _ HB).mono ?_); rintro e w' ⟨rfl, HB⟩))
          go_ret
          exact ⟨congrArg (fun x => Ending.returned (.bool x)) (by rw [Bool.true_and]; exact eqB _ _), HB⟩
      · have hv : ver root n i s p = false := by simp [ver, hA]
        have hd : decide (All32 p) = false := decide_eq_false hA
        rw [hd] at cA
        rw [hv]
        clear hsl ht hv hA hd
        go_enter Tryd.func29, Tryd.ntmps29
        go_wp2_with (first | (go_at_call 48; (with_reducible refine (cA _ HB).mono ?_); rintro e w' ⟨rfl, HB⟩))
        go_ret
        exact ⟨rfl, HB⟩
end Go.Proofs.YtdjdoepnljdlcaaDoor
