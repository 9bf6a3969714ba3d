/- The walk of the laws' sides. -/
import Derived.Test.YtdjdoepnljdlcaaDoorWb
namespace Go.Proofs.YtdjdoepnljdlcaaDoor
open Go.RowKit

theorem wpList_append_zero {w : World} {ops : Array Oper} {rest : List Oper} {o : Oper} {a : Act} {Q : Exit → Act → World → Prop} (hgd : o.guard = none) (s x : Operand)
    (ho : o.op = .call { callee := .builtin .append, args := #[s, x], argTypes := #[26, 26] }) (b n cp : Nat) (hs : a.eval s = .slice (some ⟨b, 0, none⟩) n cp) (ad : Option Addr) (c : Nat) (hx : a.eval x = .slice ad 0 c) (hn : n ≤ cp)
    (h : wpList Tryd.prog ops Q rest (a.put o.dst (.slice (some ⟨b, 0, none⟩) n cp)) w) : wpList Tryd.prog ops Q (o :: rest) a w :=
  wpList_plain hgd fun _ hK => by
    obtain ⟨i0, hi, _, hsz, _⟩ := info_parts info9'
    have hsrc : Src Tryd.prog i0.size 26 (.slice ad 0 c) 0 [] w := by
      cases ad with
      | none => exact Src.ofNil w Tryd.underlying26 c
      | some a => exact Src.ofSlice w Tryd.underlying26 a 0 c [] (by simp) (fun j u h => by simp at h) (fun _ h => by cases h)
    have hr := run_append_room_src w 26 26 o.type 9 i0 Tryd.underlying26 hi b 0 n cp (.slice ad 0 c) 0 [] hsrc (by omega) (fun j h => absurd h (by simp)) (fun j h => absurd h (by simp))
    unfold Oper.wp execOp
    simp only [ho, resolve, invoke, builtin, Sem.run_bind, Sem.run_pure, Result.andThen_ok, List.map_toArray, List.map_cons, List.map_nil, hs, hx, hr]
    exact hK _ _ h
theorem sid_len (N : Nat) : ∀ (old : ByteArray) (m n : Nat) (p : List ByteArray) (whole : Bool), p.length ≤ N → (sid old m n p whole).length ≤ p.length := by
  induction N with
  | zero =>
    intro old m n p whole h
    obtain rfl := List.eq_nil_of_length_eq_zero (Nat.le_zero.1 h)
    rw [sid]; split <;> simp
  | succ N ih =>
    intro old m n p whole h
    rcases snoc_cases p with rfl | ⟨q, x, rfl⟩
    · rw [sid]; split <;> simp
    · by_cases h2 : 2 ≤ n ∧ m < n
      · rw [List.length_append] at h ⊢
        by_cases hi : m ≤ spl n
        · rw [sid_lo h2.2 h2.1 hi, List.length_cons]; have := ih old m (spl n) q whole (by simp at h; omega); simp; omega
        · rw [sid_hi h2.2 h2.1 hi, List.length_cons]; have := ih old (m - spl n) (n - spl n) q false (by simp at h; omega); simp; omega
      · rw [sid, dif_neg h2]; simp

set_option maxRecDepth 100000 in
theorem sides_base (old : ByteArray) (m : Nat) (p : List ByteArray) (whole : Bool) (v : Value) (w : World) (hok : (two old m m p whole).2.2 = true) (hsl : Sl w v p) :
    Calls Tryd.prog 37 #[.string old, .int .i64 (m : Int), .int .i64 (m : Int), v, .bool whole] w fun e w' => ∃ u, e = .returned (.tuple #[u, .string (two old m m p whole).2.1]) ∧ w'.ownsRow w.heap.size 9 1 u (sid old m m p whole).length (scells (sid old m m p whole)) ∧ Below w.heap.size w w' := by
  rw [sid_end (Nat.le_refl m)]
  cases whole
  · rcases snoc_cases p with rfl | ⟨q, x, rfl⟩
    · rw [two_nil' (Nat.le_refl m)] at hok; cases hok
    rw [two_not (Nat.le_refl m)] at hok ⊢
    have hq : q = [] := by simpa using hok
    subst hq
    rcases hsl with ⟨_, h⟩ | ⟨b, o, c, rfl, hlc, hc, hb, hr⟩
    · exact absurd h (by simp)
    have hcell : w.cell? ⟨b, o, none⟩ = some (.string x) := hr 0 x rfl
    have h1 : (([] : List ByteArray) ++ [x]).length = 1 := rfl
    rw [h1] at hlc ⊢
    clear hr hok h1
    go_enter Tryd.func37, Tryd.ntmps37
    go_wp2
    go_quiet (fail)
    go_wp2
    go_ret2
    exact ⟨_, rfl, World.ownsRow_nil _ _ _ _, ⟨rfl, rfl, rfl, Nat.le_refl _, fun _ _ => rfl⟩⟩
  · rw [two_whole (Nat.le_refl m)]
    clear hsl hok
    go_enter Tryd.func37, Tryd.ntmps37
    go_wp2
    go_ret2
    exact ⟨_, rfl, World.ownsRow_nil _ _ _ _, Below.refl _ _⟩

set_option maxRecDepth 100000 in
set_option maxHeartbeats 4000000 in
theorem sides_any (N : Nat) : ∀ (old : ByteArray) (m n : Nat) (p : List ByteArray) (whole : Bool) (v : Value) (w : World), p.length ≤ N → p.length ≤ 900 → 1 ≤ m → m ≤ n → n ≤ 9223372036854775807 → old.size = 32 → All32 p → (two old m n p whole).2.2 = true → Sl w v p → Tab w → 0 < w.heap.size →
    Calls Tryd.prog 37 #[.string old, .int .i64 (m : Int), .int .i64 (n : Int), v, .bool whole] w fun e w' => ∃ u, e = .returned (.tuple #[u, .string (two old m n p whole).2.1]) ∧ w'.ownsRow w.heap.size 9 1 u (sid old m n p whole).length (scells (sid old m n p whole)) ∧ Below w.heap.size w w' := by
  induction N with
  | zero =>
    intro old m n p whole v w hN hp1 h1m hmn' hn2 hos hA hok hsl ht hw
    obtain rfl := List.eq_nil_of_length_eq_zero (Nat.le_zero.1 hN)
    rcases Nat.lt_or_ge m n with h | h
    · rw [two_nil h (by omega)] at hok; cases hok
    · obtain rfl : m = n := by omega
      exact sides_base old m [] whole v w hok hsl
  | succ N ih =>
    intro old m n p whole v w hN hp1 h1m hmn' hn2 hos hA hok hsl ht hw
    obtain ⟨i9, hi9, hzr9, hsz9, hby9⟩ := info_parts info9'
    rcases Nat.lt_or_ge m n with hmn | hmn
    · have h2 : 2 ≤ n := by omega
      rcases snoc_cases p with rfl | ⟨q, x, rfl⟩
      · rw [two_nil hmn h2] at hok; cases hok
      obtain ⟨hAq, hx⟩ := all32_snoc.1 hA
      have HB := Below.refl w.heap.size w
      rcases hsl with ⟨_, h⟩ | ⟨b, o, c, rfl, hlc, hc, hb, hr⟩
      · exact absurd h (by simp)
      obtain ⟨k, hm⟩ : ∃ m, q.length = m := ⟨_, rfl⟩
      have hm1 : (q ++ [x]).length = k + 1 := by rw [List.length_append, hm]; rfl
      have hcell : w.cell? ⟨b, o + k, none⟩ = some (.string x) := hr k x (by rw [← hm]; simp)
      rw [hm1] at hN hp1 hlc ⊢
      have hsp : ∀ W, Below w.heap.size w W → Calls Tryd.prog 38 #[.int .i64 (n : Int)] W fun e w' => e = .returned (.int .i64 ((spl n : Nat) : Int)) ∧ Below w.heap.size w w' := fun W hW => (left_any n h2 hn2 W).mono fun _ _ g => ⟨g.1, g.2 ▸ hW⟩
      have k1 := spl_lt n h2
      have k2 := spl_pos n
      have hsq : ∀ W, Below w.heap.size w W → Sl W (.slice (some ⟨b, o, none⟩) k c) q := fun W hW => by
        have := Sl.take (w := w) (k := k) hr (by omega) (by omega) hc hb
        rw [List.take_append_of_le_length (by omega), List.take_of_length_le (by omega)] at this
        exact this.below hW
      have j1 : ¬ (n : Int) ≤ (m : Int) := by omega
      by_cases hik : m ≤ spl n
      · rw [two_lo hmn h2 hik] at hok
        rw [two_lo hmn h2 hik, sid_lo hmn h2 hik]
        have hys := two_size (old := old) (whole := whole) h1m hos hAq hok
        have hzl := sid_len _ old m (spl n) q whole (Nat.le_refl _)
        obtain ⟨z, hz⟩ : ∃ z, (sid old m (spl n) q whole).length = z := ⟨_, rfl⟩
        have cW : ∀ W, Below w.heap.size w W → Calls Tryd.prog 37 #[.string old, .int .i64 (m : Int), .int .i64 ((spl n : Nat) : Int), .slice (some ⟨b, o, none⟩) k c, .bool whole] W fun e w' => ∃ ad cap, e = .returned (.tuple #[.slice ad z cap, .string (two old m (spl n) q whole).2.1]) ∧ w'.ownsRow w.heap.size 9 1 (.slice ad z cap) z (scells (sid old m (spl n) q whole)) ∧ Below w.heap.size w w' := fun W hW => by
          have h := ih old m (spl n) q whole _ W (by omega) (by omega) (by omega) (by omega) (by omega) hos hAq hok (hsq W hW) (ht.below hW hw) (Nat.lt_of_lt_of_le hw hW.size)
          refine h.mono fun e w' ⟨u, he, ho, hb'⟩ => ?_
          rw [hz] at ho
          obtain ⟨ad, cap, rfl⟩ := own_q ho
          exact ⟨ad, cap, he, ho.lower hW.size, hW.trans (hb'.mono hW.size)⟩
        obtain ⟨y, hy⟩ : ∃ y, (two old m (spl n) q whole).2.1 = y := ⟨_, rfl⟩
        obtain ⟨L, hL⟩ : ∃ L, (sid old m (spl n) q whole) = L := ⟨_, rfl⟩
        obtain ⟨r, hr'⟩ : ∃ r, spl n = r := ⟨_, rfl⟩
        rw [hy] at hys
        have cN : ∀ W, Below w.heap.size w W → Calls Tryd.prog 17 #[.string y, .string x] W fun e w' => e = .returned (.string (nodeB y x)) ∧ Below w.heap.size w w' ∧ ∀ u k xs, W.ownsRow w.heap.size 9 1 u k xs → w'.ownsRow w.heap.size 9 1 u k xs := fun W hW =>
          (Node_any y x (by omega) (by omega) W (ht.below hW hw) (Nat.lt_of_lt_of_le hw hW.size)).mono fun _ _ g => ⟨g.1, hW.trans (g.2.mono hW.size), fun u k xs hu => own_below hu g.2⟩
        have e1 : ∀ W, (Op.stringOp .add ⟨#[1]⟩ y).run Tryd.prog W = .ok (.string (⟨#[1]⟩ ++ y)) W := fun W => run_string_add_sum (w := W) _ _ (by show 1 + y.size ≤ _; omega)
        have e2 : ∀ W, (Op.stringOp .add (⟨#[1]⟩ ++ y) x).run Tryd.prog W = .ok (.string (⟨#[1]⟩ ++ y ++ x)) W := fun W => run_string_add_sum (w := W) _ _ (by rw [ByteArray.size_append]; show 1 + y.size + x.size ≤ _; omega)
        have HZ := Lib.hid (show (scells L).length = z * 1 by rw [scells_len, ← hL, hz])
        have HLn := Lib.hid (show L.length + 1 = 1 + z by rw [← hL, hz]; omega)
        have HLc := Lib.hid (show scells ((⟨#[1]⟩ ++ y ++ x) :: L) = [.string (⟨#[1]⟩ ++ y ++ x)] ++ scells L by simp [scells])
        have HS1 := Lib.hid (scells_one L)
        have HHH : ∀ W, Below w.heap.size w W → Hid ((W.alloc (.cells #[.string (⟨#[1]⟩ ++ y ++ x)] 9)).ownsRow w.heap.size 9 1 (.slice (some ⟨W.heap.size, 0, none⟩) 1 1) 1 [.string (⟨#[1]⟩ ++ y ++ x)]) := fun W h => Lib.hid (own_one (⟨#[1]⟩ ++ y ++ x) h.size)
        have hz9 : z ≤ 1000 := by omega
        rw [hy, hL] at cW
        rw [hL, hy]
        rw [hr'] at cW hsp k1 k2 hik
        generalize ⟨#[1]⟩ ++ y ++ x = X at *
        generalize nodeB y x = R at *
        rw [hL] at hz
        have HZ0 := Lib.hid (show z = 0 → scells L = [] from fun h => by rw [List.length_eq_zero_iff.1 (hz.trans h)]; rfl)
        clear ih ht hr hA hAq hm1 hy hr' hsq hz hzl hL hys hok hx hN hm hos
        by_cases hz0 : z = 0
        · have HZ1 := Lib.hid (HZ0.out hz0)
          clear HZ0
          subst hz0
          go_enter Tryd.func37, Tryd.ntmps37
          go_wp2_with (first | (go_at_call 38; (with_reducible refine (hsp _ HB).mono ?_); rintro e w' ⟨rfl, HB⟩) | (go_at_call 37; (with_reducible refine (cW _ HB).mono ?_); rintro e w1 ⟨ad, cap, rfl, ho, HB⟩; have HH1 := HHH w1 HB; have HA := HB.alloc HB.size (.cells #[.string X] 9); clear ho) | (at_builtin; (refine wpList_append_zero rfl (.tmp 66) (.tmp 67) rfl w1.heap.size 1 1 rfl ad cap rfl (by omega) ?_)) | (go_at_call 17; (with_reducible refine (cN _ HA).mono ?_); rintro e w' ⟨rfl, HB3, hkk⟩; have HK := Lib.hid hkk; clear hkk))
          go_ret2
          exact ⟨_, rfl, by rw [HLn.out, HLc.out, HZ1.out]; exact HK.out _ _ _ HH1.out, HB3⟩
        · have hzp : 0 < z := by omega
          have hgg : ∀ (W : World) ad cap, W.ownsRow w.heap.size 9 1 (.slice ad z cap) z (scells L) → ∃ g, ad = some ⟨g, 0, none⟩ := fun W ad cap ho => by
            rcases ho.2 with ⟨h'', h3⟩ | ⟨g', cap', cur', h'', _⟩
            · exact absurd h3 hz0
            · simp only [Value.slice.injEq] at h''; exact ⟨g', h''.1⟩
          go_enter Tryd.func37, Tryd.ntmps37
          go_wp2_with (first | (go_at_call 38; (with_reducible refine (hsp _ HB).mono ?_); rintro e w' ⟨rfl, HB⟩) | (go_at_call 37; (with_reducible refine (cW _ HB).mono ?_); rintro e w1 ⟨ad, cap, rfl, ho, HB⟩; obtain ⟨g, rfl⟩ := hgg _ _ _ ho; have HH1 := HHH w1 HB; have HA := HB.alloc HB.size (.cells #[.string X] 9); have HH2 := Lib.hid (own_news (ho.alloc (.cells #[.string X] 9))); clear ho) | (at_builtin; (refine wpList_append_lies _ rfl (.tmp 66) (.tmp 67) 26 rfl w.heap.size 9 i9 (.string ⟨#[]⟩) 1 16 Tryd.underlying26 hi9 hzr9 hsz9 hby9 rfl (by decide) _ 1 [.string X] rfl HH1.out ⟨g, 0, none⟩ z cap (scells L) rfl HZ.out HH2.out HS1.out (by omega) (by unfold maxLen; omega) (by omega) HA.size _ rfl ?_; intro g2 cap2 w2 hown hgrow _ _; have HB2 := HA.grown hgrow HA.size fun k e => (HH1.out.lt k e).1; have HO := Lib.hid hown; clear hown hgrow)) | (go_at_call 17; (with_reducible refine (cN _ HB2).mono ?_); rintro e w' ⟨rfl, HB3, hkk⟩; have HK := Lib.hid hkk; clear hkk))
          go_ret2
          exact ⟨_, rfl, by rw [HLn.out, HLc.out]; exact HK.out _ _ _ HO.out, HB3⟩
      · rw [two_hi hmn h2 hik] at hok
        rw [two_hi hmn h2 hik, sid_hi hmn h2 hik]
        have hys := two_size (old := old) (whole := false) (by omega) hos hAq hok
        have hzl := sid_len _ old (m - spl n) (n - spl n) q false (Nat.le_refl _)
        obtain ⟨z, hz⟩ : ∃ z, (sid old (m - spl n) (n - spl n) q false).length = z := ⟨_, rfl⟩
        have cW : ∀ W, Below w.heap.size w W → Calls Tryd.prog 37 #[.string old, .int .i64 ((m : Int) - ((spl n : Nat) : Int)), .int .i64 ((n : Int) - ((spl n : Nat) : Int)), .slice (some ⟨b, o, none⟩) k c, .bool false] W fun e w' => ∃ ad cap, e = .returned (.tuple #[.slice ad z cap, .string (two old (m - spl n) (n - spl n) q false).2.1]) ∧ w'.ownsRow w.heap.size 9 1 (.slice ad z cap) z (scells (sid old (m - spl n) (n - spl n) q false)) ∧ Below w.heap.size w w' := fun W hW => by
          have h := ih old (m - spl n) (n - spl n) q false _ W (by omega) (by omega) (by omega) (by omega) (by omega) hos hAq hok (hsq W hW) (ht.below hW hw) (Nat.lt_of_lt_of_le hw hW.size)
          rw [show ((n - spl n : Nat) : Int) = (n : Int) - ((spl n : Nat) : Int) by omega, show ((m - spl n : Nat) : Int) = (m : Int) - ((spl n : Nat) : Int) by omega] at h
          refine h.mono fun e w' ⟨u, he, ho, hb'⟩ => ?_
          rw [hz] at ho
          obtain ⟨ad, cap, rfl⟩ := own_q ho
          exact ⟨ad, cap, he, ho.lower hW.size, hW.trans (hb'.mono hW.size)⟩
        obtain ⟨y, hy⟩ : ∃ y, (two old (m - spl n) (n - spl n) q false).2.1 = y := ⟨_, rfl⟩
        obtain ⟨L, hL⟩ : ∃ L, (sid old (m - spl n) (n - spl n) q false) = L := ⟨_, rfl⟩
        obtain ⟨r, hr'⟩ : ∃ r, spl n = r := ⟨_, rfl⟩
        rw [hy] at hys
        have cN : ∀ W, Below w.heap.size w W → Calls Tryd.prog 17 #[.string x, .string y] W fun e w' => e = .returned (.string (nodeB x y)) ∧ Below w.heap.size w w' ∧ ∀ u k xs, W.ownsRow w.heap.size 9 1 u k xs → w'.ownsRow w.heap.size 9 1 u k xs := fun W hW =>
          (Node_any x y (by omega) (by omega) W (ht.below hW hw) (Nat.lt_of_lt_of_le hw hW.size)).mono fun _ _ g => ⟨g.1, hW.trans (g.2.mono hW.size), fun u k xs hu => own_below hu g.2⟩
        have e1 : ∀ W, (Op.stringOp .add ⟨#[1]⟩ x).run Tryd.prog W = .ok (.string (⟨#[1]⟩ ++ x)) W := fun W => run_string_add_sum (w := W) _ _ (by show 1 + x.size ≤ _; omega)
        have e2 : ∀ W, (Op.stringOp .add (⟨#[1]⟩ ++ x) y).run Tryd.prog W = .ok (.string (⟨#[1]⟩ ++ x ++ y)) W := fun W => run_string_add_sum (w := W) _ _ (by rw [ByteArray.size_append]; show 1 + x.size + y.size ≤ _; omega)
        have HZ := Lib.hid (show (scells L).length = z * 1 by rw [scells_len, ← hL, hz])
        have HLn := Lib.hid (show L.length + 1 = 1 + z by rw [← hL, hz]; omega)
        have HLc := Lib.hid (show scells ((⟨#[1]⟩ ++ x ++ y) :: L) = [.string (⟨#[1]⟩ ++ x ++ y)] ++ scells L by simp [scells])
        have HS1 := Lib.hid (scells_one L)
        have HHH : ∀ W, Below w.heap.size w W → Hid ((W.alloc (.cells #[.string (⟨#[1]⟩ ++ x ++ y)] 9)).ownsRow w.heap.size 9 1 (.slice (some ⟨W.heap.size, 0, none⟩) 1 1) 1 [.string (⟨#[1]⟩ ++ x ++ y)]) := fun W h => Lib.hid (own_one (⟨#[1]⟩ ++ x ++ y) h.size)
        have hz9 : z ≤ 1000 := by omega
        rw [hy, hL] at cW
        rw [hL, hy]
        rw [hr'] at cW hsp k1 k2 hik
        generalize ⟨#[1]⟩ ++ x ++ y = X at *
        generalize nodeB x y = R at *
        rw [hL] at hz
        have HZ0 := Lib.hid (show z = 0 → scells L = [] from fun h => by rw [List.length_eq_zero_iff.1 (hz.trans h)]; rfl)
        clear ih ht hr hA hAq hm1 hy hr' hsq hz hzl hL hys hok hx hN hm hos
        by_cases hz0 : z = 0
        · have HZ1 := Lib.hid (HZ0.out hz0)
          clear HZ0
          subst hz0
          go_enter Tryd.func37, Tryd.ntmps37
          go_wp2_with (first | (go_at_call 38; (with_reducible refine (hsp _ HB).mono ?_); rintro e w' ⟨rfl, HB⟩) | (go_at_call 37; (with_reducible refine (cW _ HB).mono ?_); rintro e w1 ⟨ad, cap, rfl, ho, HB⟩; have HH1 := HHH w1 HB; have HA := HB.alloc HB.size (.cells #[.string X] 9); clear ho) | (at_builtin; (refine wpList_append_zero rfl (.tmp 88) (.tmp 89) rfl w1.heap.size 1 1 rfl ad cap rfl (by omega) ?_)) | (go_at_call 17; (with_reducible refine (cN _ HA).mono ?_); rintro e w' ⟨rfl, HB3, hkk⟩; have HK := Lib.hid hkk; clear hkk))
          go_ret2
          exact ⟨_, rfl, by rw [HLn.out, HLc.out, HZ1.out]; exact HK.out _ _ _ HH1.out, HB3⟩
        · have hzp : 0 < z := by omega
          have hgg : ∀ (W : World) ad cap, W.ownsRow w.heap.size 9 1 (.slice ad z cap) z (scells L) → ∃ g, ad = some ⟨g, 0, none⟩ := fun W ad cap ho => by
            rcases ho.2 with ⟨h'', h3⟩ | ⟨g', cap', cur', h'', _⟩
            · exact absurd h3 hz0
            · simp only [Value.slice.injEq] at h''; exact ⟨g', h''.1⟩
          go_enter Tryd.func37, Tryd.ntmps37
          go_wp2_with (first | (go_at_call 38; (with_reducible refine (hsp _ HB).mono ?_); rintro e w' ⟨rfl, HB⟩) | (go_at_call 37; (with_reducible refine (cW _ HB).mono ?_); rintro e w1 ⟨ad, cap, rfl, ho, HB⟩; obtain ⟨g, rfl⟩ := hgg _ _ _ ho; have HH1 := HHH w1 HB; have HA := HB.alloc HB.size (.cells #[.string X] 9); have HH2 := Lib.hid (own_news (ho.alloc (.cells #[.string X] 9))); clear ho) | (at_builtin; (refine wpList_append_lies _ rfl (.tmp 88) (.tmp 89) 26 rfl w.heap.size 9 i9 (.string ⟨#[]⟩) 1 16 Tryd.underlying26 hi9 hzr9 hsz9 hby9 rfl (by decide) _ 1 [.string X] rfl HH1.out ⟨g, 0, none⟩ z cap (scells L) rfl HZ.out HH2.out HS1.out (by omega) (by unfold maxLen; omega) (by omega) HA.size _ rfl ?_; intro g2 cap2 w2 hown hgrow _ _; have HB2 := HA.grown hgrow HA.size fun k e => (HH1.out.lt k e).1; have HO := Lib.hid hown; clear hown hgrow)) | (go_at_call 17; (with_reducible refine (cN _ HB2).mono ?_); rintro e w' ⟨rfl, HB3, hkk⟩; have HK := Lib.hid hkk; clear hkk))
          go_ret2
          exact ⟨_, rfl, by rw [HLn.out, HLc.out]; exact HK.out _ _ _ HO.out, HB3⟩
    · obtain rfl : m = n := by omega
      exact sides_base old m p whole v w hok hsl
end Go.Proofs.YtdjdoepnljdlcaaDoor
