/- The walks of the laws' way and collide. -/
import Derived.Test.YtdjdoepnljdlcaaDoorVb
import Derived.Test.YtdjdoepnljdlcaaDoorKc
namespace Go.Proofs.YtdjdoepnljdlcaaDoor
open Go.RowKit

theorem own_one {W : World} {base : Nat} (x : ByteArray) (h : base ≤ W.heap.size) : (W.alloc (.cells #[.string x] 9)).ownsRow base 9 1 (.slice (some ⟨W.heap.size, 0, none⟩) 1 1) 1 [.string x] :=
  ⟨rfl, .inr ⟨W.heap.size, 1, #[.string x], rfl, h, by rw [World.alloc_heap_new], Nat.le_refl _, by unfold maxLen; omega, rfl, rfl⟩⟩
theorem own_news {W : World} {base g n cap : Nat} {l : List ByteArray} (h : W.ownsRow base 9 1 (.slice (some ⟨g, 0, none⟩) n cap) n (scells l)) : ∀ j u, (scells l)[j]? = some u → W.cell? ((⟨g, 0, none⟩ : Addr).add j) = some u := by
  have hn : l.length = n := by have := h.1; rw [scells_len] at this; omega
  subst hn
  rcases own_sl h with ⟨h', _⟩ | ⟨b', o', c', h', h1, h2, h3, h4⟩
  · cases h'
  · simp only [Value.slice.injEq, Option.some.injEq, Addr.mk.injEq] at h'
    obtain ⟨⟨rfl, rfl, _⟩, _, rfl⟩ := h'
    exact str_news h4
theorem way_succ (n i : Nat) (s : ByteArray) (p : List ByteArray) : ∃ m, (way n i s p).length = m + 1 := by
  rw [way]
  split
  · split
    · exact ⟨0, rfl⟩
    · split <;> exact ⟨_, rfl⟩
  · exact ⟨0, rfl⟩
theorem way_len (N : Nat) : ∀ (n i : Nat) (s : ByteArray) (p : List ByteArray), p.length ≤ N → (way n i s p).length ≤ p.length + 1 := by
  induction N with
  | zero =>
    intro n i s p h
    obtain rfl := List.eq_nil_of_length_eq_zero (Nat.le_zero.1 h)
    rw [way]; split <;> simp
  | succ N ih =>
    intro n i s p h
    rcases snoc_cases p with rfl | ⟨q, x, rfl⟩
    · rw [way]; split <;> simp
    · by_cases h2 : 2 ≤ n
      · rw [List.length_append] at h ⊢
        by_cases hi : i < spl n
        · rw [way_lo h2 hi, List.length_cons]; have := ih (spl n) i s q (by simp at h; omega); simp; omega
        · rw [way_hi h2 hi, List.length_cons]; have := ih (n - spl n) (i - spl n) s q (by simp at h; omega); simp; omega
      · rw [way_one (by omega)]; simp

theorem way_base (i : Nat) (s : ByteArray) (v : Value) (w : World) (hs : s.size ≤ 60) (ht : Tab w) (hw : 0 < w.heap.size) :
    Calls Tryd.prog 34 #[.int .i64 ((1 : Nat) : Int), .int .i64 (i : Int), .string s, v] w fun e w' => ∃ u, e = .returned (.tuple #[u, .string (val 1 i s []).1]) ∧ w'.ownsRow w.heap.size 9 1 u (way 1 i s []).length (scells (way 1 i s [])) ∧ Below w.heap.size w w' := by
  rw [val_one (by omega), way_one (by omega)]
  have HB := Below.refl w.heap.size w
  have cL : ∀ W, Below w.heap.size w W → Calls Tryd.prog 15 #[.string s] W fun e w' => e = .returned (.string (leafB s)) ∧ Below w.heap.size w w' ∧ ∀ u k xs, W.ownsRow w.heap.size 9 1 u k xs → w'.ownsRow w.heap.size 9 1 u k xs := fun W hW => (Leaf_any s (by omega) W (ht.below hW hw) (Nat.lt_of_lt_of_le hw hW.size)).mono fun _ _ g => ⟨g.1, hW.trans (g.2.mono hW.size), fun u k xs hu => own_below hu g.2⟩
  have e1 : ∀ W, (Op.stringOp .add ⟨#[0]⟩ s).run Tryd.prog W = .ok (.string (⟨#[0]⟩ ++ s)) W := fun W => run_string_add_sum (w := W) _ _ (by show 1 + s.size ≤ _; omega)
  have HA := HB.alloc HB.size (.cells #[.string (⟨#[0]⟩ ++ s)] 9)
  have hO := own_one (W := w) (base := w.heap.size) (⟨#[0]⟩ ++ s) (Nat.le_refl _)
  generalize (⟨#[0]⟩ : ByteArray) ++ s = X at *
  generalize leafB s = R at *
  clear ht
  go_enter Tryd.func34, Tryd.ntmps34
  go_wp2_with (go_at_call 15; (with_reducible refine (cL _ HA).mono ?_); rintro e w' ⟨rfl, HB, hk⟩)
  go_ret2
  exact ⟨_, rfl, hk _ _ _ hO, HB⟩

set_option maxRecDepth 100000 in
set_option maxHeartbeats 4000000 in
theorem way_any (N : Nat) : ∀ (n i : Nat) (s : ByteArray) (p : List ByteArray) (v : Value) (w : World), p.length ≤ N → p.length ≤ 900 → 1 ≤ n → n ≤ 9223372036854775807 → i < n → s.size ≤ 60 → All32 p → (val n i s p).2 = true → Sl w v p → Tab w → 0 < w.heap.size →
    Calls Tryd.prog 34 #[.int .i64 (n : Int), .int .i64 (i : Int), .string s, v] w fun e w' => ∃ u, e = .returned (.tuple #[u, .string (val n i s p).1]) ∧ w'.ownsRow w.heap.size 9 1 u (way n i s p).length (scells (way n i s p)) ∧ Below w.heap.size w w' := by
  induction N with
  | zero =>
    intro n i s p v w hN hp1 hn hn2 hi hs hA hok hsl ht hw
    obtain rfl := List.eq_nil_of_length_eq_zero (Nat.le_zero.1 hN)
    have h1 : n = 1 := by
      rcases Nat.lt_or_ge n 2 with h | h
      · omega
      · rw [val_nil h] at hok; cases hok
    subst h1
    exact way_base i s v w hs ht hw
  | succ N ih =>
    intro n i s p v w hN hp1 hn hn2 hi hs hA hok hsl ht hw
    obtain ⟨i9, hi9, hzr9, hsz9, hby9⟩ := info_parts info9'
    by_cases h1 : n = 1
    · subst h1
      have hp : p = [] := by rw [val_one (by omega)] at hok; simpa using hok
      subst hp
      exact way_base i s v w hs ht hw
    · have h2 : 2 ≤ n := by omega
      rcases snoc_cases p with rfl | ⟨q, x, rfl⟩
      · rw [val_nil h2] at hok; cases hok
      obtain ⟨hAq, hx⟩ := all32_snoc.1 hA
      have HB := Below.refl w.heap.size w
      rcases hsl with ⟨_, h⟩ | ⟨b, o, c, rfl, hlc, hc, hb, hr⟩
      · exact absurd h (by simp)
      obtain ⟨m, hm⟩ : ∃ m, q.length = m := ⟨_, rfl⟩
      have hm1 : (q ++ [x]).length = m + 1 := by rw [List.length_append, hm]; rfl
      have hcell : w.cell? ⟨b, o + m, none⟩ = some (.string x) := hr m x (by rw [← hm]; simp)
      rw [hm1] at hN hp1 hlc ⊢
      have hsp : ∀ W, Below w.heap.size w W → Calls Tryd.prog 38 #[.int .i64 (n : Int)] W fun e w' => e = .returned (.int .i64 ((spl n : Nat) : Int)) ∧ Below w.heap.size w w' := fun W hW => (left_any n h2 hn2 W).mono fun _ _ g => ⟨g.1, g.2 ▸ hW⟩
      have k1 := spl_lt n h2
      have k2 := spl_pos n
      have hsq : ∀ W, Below w.heap.size w W → Sl W (.slice (some ⟨b, o, none⟩) m c) q := fun W hW => by
        have := Sl.take (w := w) (k := m) hr (by omega) (by omega) hc hb
        rw [List.take_append_of_le_length (by omega), List.take_of_length_le (by omega)] at this
        exact this.below hW
      have j1 : ¬ (n : Int) ≤ 1 := by omega
      by_cases hik : i < spl n
      · rw [val_lo h2 hik] at hok
        rw [val_lo h2 hik, way_lo h2 hik]
        have hys := val_size _ (spl n) i s q (Nat.le_refl _) hok
        obtain ⟨z, hz⟩ := way_succ (spl n) i s q
        have hzl := way_len _ (spl n) i s q (Nat.le_refl _)
        have cW : ∀ W, Below w.heap.size w W → Calls Tryd.prog 34 #[.int .i64 ((spl n : Nat) : Int), .int .i64 (i : Int), .string s, .slice (some ⟨b, o, none⟩) m c] W fun e w' => ∃ g cap, e = .returned (.tuple #[.slice (some ⟨g, 0, none⟩) (z + 1) cap, .string (val (spl n) i s q).1]) ∧ w'.ownsRow w.heap.size 9 1 (.slice (some ⟨g, 0, none⟩) (z + 1) cap) (z + 1) (scells (way (spl n) i s q)) ∧ Below w.heap.size w w' := fun W hW => by
          have h := ih (spl n) i s q _ W (by omega) (by omega) k2 (by omega) hik hs hAq hok (hsq W hW) (ht.below hW hw) (Nat.lt_of_lt_of_le hw hW.size)
          refine h.mono fun e w' ⟨u, he, ho, hb'⟩ => ?_
          rw [hz] at ho
          obtain ⟨g, cap, rfl⟩ := ownsRow_succ ho
          exact ⟨g, cap, he, ho.lower hW.size, hW.trans (hb'.mono hW.size)⟩
        obtain ⟨y, hy⟩ : ∃ y, (val (spl n) i s q).1 = y := ⟨_, rfl⟩
        obtain ⟨L, hL⟩ : ∃ L, (way (spl n) i s q) = L := ⟨_, rfl⟩
        obtain ⟨k, hk⟩ : ∃ k, spl n = k := ⟨_, rfl⟩
        rw [hy] at hys
        have cN : ∀ W, Below w.heap.size w W → Calls Tryd.prog 17 #[.string y, .string x] W fun e w' => e = .returned (.string (nodeB y x)) ∧ Below w.heap.size w w' ∧ ∀ u k xs, W.ownsRow w.heap.size 9 1 u k xs → w'.ownsRow w.heap.size 9 1 u k xs := fun W hW =>
          (Node_any y x (by omega) (by omega) W (ht.below hW hw) (Nat.lt_of_lt_of_le hw hW.size)).mono fun _ _ g => ⟨g.1, hW.trans (g.2.mono hW.size), fun u k xs hu => own_below hu g.2⟩
        have e1 : ∀ W, (Op.stringOp .add ⟨#[1]⟩ y).run Tryd.prog W = .ok (.string (⟨#[1]⟩ ++ y)) W := fun W => run_string_add_sum (w := W) _ _ (by show 1 + y.size ≤ _; omega)
        have e2 : ∀ W, (Op.stringOp .add (⟨#[1]⟩ ++ y) x).run Tryd.prog W = .ok (.string (⟨#[1]⟩ ++ y ++ x)) W := fun W => run_string_add_sum (w := W) _ _ (by rw [ByteArray.size_append]; show 1 + y.size + x.size ≤ _; omega)
        have HZ := Lib.hid (show (scells L).length = (z + 1) * 1 by rw [scells_len, ← hL, hz])
        have HLn := Lib.hid (show L.length + 1 = 1 + (z + 1) by rw [← hL, hz]; omega)
        have HLc := Lib.hid (show scells ((⟨#[1]⟩ ++ y ++ x) :: L) = [.string (⟨#[1]⟩ ++ y ++ x)] ++ scells L by simp [scells])
        have HS1 := Lib.hid (scells_one L)
        have HHH : ∀ W, Below w.heap.size w W → Hid ((W.alloc (.cells #[.string (⟨#[1]⟩ ++ y ++ x)] 9)).ownsRow w.heap.size 9 1 (.slice (some ⟨W.heap.size, 0, none⟩) 1 1) 1 [.string (⟨#[1]⟩ ++ y ++ x)]) := fun W h => Lib.hid (own_one (⟨#[1]⟩ ++ y ++ x) h.size)
        have hz9 : z ≤ 1000 := by omega
        rw [hy, hL] at cW
        rw [hL, hy]
        rw [hk] at cW hsp k1 k2 hik
        generalize ⟨#[1]⟩ ++ y ++ x = X at *
        generalize nodeB y x = R at *
        clear ih ht hr hA hAq hm1 hy hk hsq hz hzl hL hys hok hx hN hm
        go_enter Tryd.func34, Tryd.ntmps34
        go_wp2_with (first | (go_at_call 38; (with_reducible refine (hsp _ HB).mono ?_); rintro e w' ⟨rfl, HB⟩) | (go_at_call 34; (with_reducible refine (cW _ HB).mono ?_); rintro e w1 ⟨g, cap, rfl, ho, HB⟩; have HH1 := HHH w1 HB; have HA := HB.alloc HB.size (.cells #[.string X] 9); have HH2 := Lib.hid (own_news (ho.alloc (.cells #[.string X] 9))); clear ho) | (at_builtin; (refine wpList_append_lies _ rfl (.tmp 57) (.tmp 58) 26 rfl w.heap.size 9 i9 (.string ⟨#[]⟩) 1 16 Tryd.underlying26 hi9 hzr9 hsz9 hby9 rfl (by decide) _ 1 [.string X] rfl HH1.out ⟨g, 0, none⟩ (z + 1) cap (scells L) rfl HZ.out HH2.out HS1.out (by omega) (by unfold maxLen; omega) (by omega) HA.size _ rfl ?_; intro g2 cap2 w2 hown hgrow _ _; have HB2 := HA.grown hgrow HA.size fun k e => (HH1.out.lt k e).1; have HO := Lib.hid hown; clear hown hgrow)) | (go_at_call 17; (with_reducible refine (cN _ HB2).mono ?_); rintro e w' ⟨rfl, HB3, hkk⟩; have HK := Lib.hid hkk; clear hkk))
        go_ret2
        exact ⟨_, rfl, by rw [HLn.out, HLc.out]; exact HK.out _ _ _ HO.out, HB3⟩
      · rw [val_hi h2 hik] at hok
        rw [val_hi h2 hik, way_hi h2 hik]
        have hys := val_size _ (n - spl n) (i - spl n) s q (Nat.le_refl _) hok
        obtain ⟨z, hz⟩ := way_succ (n - spl n) (i - spl n) s q
        have hzl := way_len _ (n - spl n) (i - spl n) s q (Nat.le_refl _)
        have cW : ∀ W, Below w.heap.size w W → Calls Tryd.prog 34 #[.int .i64 ((n : Int) - ((spl n : Nat) : Int)), .int .i64 ((i : Int) - ((spl n : Nat) : Int)), .string s, .slice (some ⟨b, o, none⟩) m c] W fun e w' => ∃ g cap, e = .returned (.tuple #[.slice (some ⟨g, 0, none⟩) (z + 1) cap, .string (val (n - spl n) (i - spl n) s q).1]) ∧ w'.ownsRow w.heap.size 9 1 (.slice (some ⟨g, 0, none⟩) (z + 1) cap) (z + 1) (scells (way (n - spl n) (i - spl n) s q)) ∧ Below w.heap.size w w' := fun W hW => by
          have h := ih (n - spl n) (i - spl n) s q _ W (by omega) (by omega) (by omega) (by omega) (by omega) hs hAq hok (hsq W hW) (ht.below hW hw) (Nat.lt_of_lt_of_le hw hW.size)
          rw [show ((n - spl n : Nat) : Int) = (n : Int) - ((spl n : Nat) : Int) by omega, show ((i - spl n : Nat) : Int) = (i : Int) - ((spl n : Nat) : Int) by omega] at h
          refine h.mono fun e w' ⟨u, he, ho, hb'⟩ => ?_
          rw [hz] at ho
          obtain ⟨g, cap, rfl⟩ := ownsRow_succ ho
          exact ⟨g, cap, he, ho.lower hW.size, hW.trans (hb'.mono hW.size)⟩
        obtain ⟨y, hy⟩ : ∃ y, (val (n - spl n) (i - spl n) s q).1 = y := ⟨_, rfl⟩
        obtain ⟨L, hL⟩ : ∃ L, (way (n - spl n) (i - spl n) s q) = L := ⟨_, rfl⟩
        obtain ⟨k, hk⟩ : ∃ k, spl n = k := ⟨_, rfl⟩
        rw [hy] at hys
        have cN : ∀ W, Below w.heap.size w W → Calls Tryd.prog 17 #[.string x, .string y] W fun e w' => e = .returned (.string (nodeB x y)) ∧ Below w.heap.size w w' ∧ ∀ u k xs, W.ownsRow w.heap.size 9 1 u k xs → w'.ownsRow w.heap.size 9 1 u k xs := fun W hW =>
          (Node_any x y (by omega) (by omega) W (ht.below hW hw) (Nat.lt_of_lt_of_le hw hW.size)).mono fun _ _ g => ⟨g.1, hW.trans (g.2.mono hW.size), fun u k xs hu => own_below hu g.2⟩
        have e1 : ∀ W, (Op.stringOp .add ⟨#[1]⟩ x).run Tryd.prog W = .ok (.string (⟨#[1]⟩ ++ x)) W := fun W => run_string_add_sum (w := W) _ _ (by show 1 + x.size ≤ _; omega)
        have e2 : ∀ W, (Op.stringOp .add (⟨#[1]⟩ ++ x) y).run Tryd.prog W = .ok (.string (⟨#[1]⟩ ++ x ++ y)) W := fun W => run_string_add_sum (w := W) _ _ (by rw [ByteArray.size_append]; show 1 + x.size + y.size ≤ _; omega)
        have HZ := Lib.hid (show (scells L).length = (z + 1) * 1 by rw [scells_len, ← hL, hz])
        have HLn := Lib.hid (show L.length + 1 = 1 + (z + 1) by rw [← hL, hz]; omega)
        have HLc := Lib.hid (show scells ((⟨#[1]⟩ ++ x ++ y) :: L) = [.string (⟨#[1]⟩ ++ x ++ y)] ++ scells L by simp [scells])
        have HS1 := Lib.hid (scells_one L)
        have HHH : ∀ W, Below w.heap.size w W → Hid ((W.alloc (.cells #[.string (⟨#[1]⟩ ++ x ++ y)] 9)).ownsRow w.heap.size 9 1 (.slice (some ⟨W.heap.size, 0, none⟩) 1 1) 1 [.string (⟨#[1]⟩ ++ x ++ y)]) := fun W h => Lib.hid (own_one (⟨#[1]⟩ ++ x ++ y) h.size)
        have hz9 : z ≤ 1000 := by omega
        rw [hy, hL] at cW
        rw [hL, hy]
        rw [hk] at cW hsp k1 k2 hik
        generalize ⟨#[1]⟩ ++ x ++ y = X at *
        generalize nodeB x y = R at *
        clear ih ht hr hA hAq hm1 hy hk hsq hz hzl hL hys hok hx hN hm
        go_enter Tryd.func34, Tryd.ntmps34
        go_wp2_with (first | (go_at_call 38; (with_reducible refine (hsp _ HB).mono ?_); rintro e w' ⟨rfl, HB⟩) | (go_at_call 34; (with_reducible refine (cW _ HB).mono ?_); rintro e w1 ⟨g, cap, rfl, ho, HB⟩; have HH1 := HHH w1 HB; have HA := HB.alloc HB.size (.cells #[.string X] 9); have HH2 := Lib.hid (own_news (ho.alloc (.cells #[.string X] 9))); clear ho) | (at_builtin; (refine wpList_append_lies _ rfl (.tmp 79) (.tmp 80) 26 rfl w.heap.size 9 i9 (.string ⟨#[]⟩) 1 16 Tryd.underlying26 hi9 hzr9 hsz9 hby9 rfl (by decide) _ 1 [.string X] rfl HH1.out ⟨g, 0, none⟩ (z + 1) cap (scells L) rfl HZ.out HH2.out HS1.out (by omega) (by unfold maxLen; omega) (by omega) HA.size _ rfl ?_; intro g2 cap2 w2 hown hgrow _ _; have HB2 := HA.grown hgrow HA.size fun k e => (HH1.out.lt k e).1; have HO := Lib.hid hown; clear hown hgrow)) | (go_at_call 17; (with_reducible refine (cN _ HB2).mono ?_); rintro e w' ⟨rfl, HB3, hkk⟩; have HK := Lib.hid hkk; clear hkk))
        go_ret2
        exact ⟨_, rfl, by rw [HLn.out, HLc.out]; exact HK.out _ _ _ HO.out, HB3⟩
end Go.Proofs.YtdjdoepnljdlcaaDoor
