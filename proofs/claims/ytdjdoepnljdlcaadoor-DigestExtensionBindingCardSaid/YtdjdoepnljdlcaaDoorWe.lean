/- The walk of the law DigestExtensionBinding. -/
import Derived.Test.YtdjdoepnljdlcaaDoorWc
import Derived.Test.YtdjdoepnljdlcaaDoorWd
namespace Go.Proofs.YtdjdoepnljdlcaaDoor
open Go.RowKit

theorem two_size2 (old : ByteArray) (m n : Nat) (p : List ByteArray) (whole : Bool) (ho : old.size = 32) (hA : All32 p) : (two old m n p whole).2.1.size ≤ 32 := (two_size' old m n p whole (by omega) hA).2
theorem sid_sizes (old : ByteArray) (m n : Nat) (p : List ByteArray) (whole : Bool) (ho : old.size = 32) (hA : All32 p) : ∀ x ∈ sid old m n p whole, x.size ≤ 137438953472 := by
  have key : ∀ N m n (p : List ByteArray) (whole : Bool), n ≤ N → All32 p → ∀ x ∈ sid old m n p whole, x.size ≤ 137438953472 := by
    intro N
    induction N with
    | zero => intro m n p whole h _ x hx; rw [sid, dif_neg (by omega)] at hx; cases hx
    | succ N ih =>
      intro m n p whole h hA x hx
      by_cases h2 : 2 ≤ n ∧ m < n
      · have k1 := spl_lt n h2.1
        have k2 := spl_pos n
        rcases snoc_cases p with rfl | ⟨q, y, rfl⟩
        · rw [sid, dif_pos h2] at hx
          simp at hx
        · obtain ⟨hq, hy⟩ := all32_snoc.1 hA
          by_cases hi : m ≤ spl n
          · rw [sid_lo h2.2 h2.1 hi] at hx
            rcases List.mem_cons.1 hx with rfl | hx
            · have := two_size2 old m (spl n) q whole ho hq
              rw [ByteArray.size_append, ByteArray.size_append]; show 1 + _ + y.size ≤ _; omega
            · exact ih _ _ _ _ (by omega) hq x hx
          · rw [sid_hi h2.2 h2.1 hi] at hx
            rcases List.mem_cons.1 hx with rfl | hx
            · have := two_size2 old (m - spl n) (n - spl n) q false ho hq
              rw [ByteArray.size_append, ByteArray.size_append]; show 1 + y.size + _ ≤ _; omega
            · exact ih _ _ _ _ (by omega) hq x hx
      · rw [sid, dif_neg h2] at hx; cases hx
  exact key n m n p whole (Nat.le_refl _) hA
theorem vex_true {old root : ByteArray} {m n : Int} {p : List ByteArray} (h : vex old m root n p = true) :
    (0 ≤ m ∧ m ≤ n ∧ old.size = 32 ∧ All32 p) ∧ ((m = 0 ∧ old = sumB ⟨#[]⟩) ∨ (m ≠ 0 ∧ (two old m.toNat n.toNat p true).2.2 = true ∧ (two old m.toNat n.toNat p true).1 = old ∧ (two old m.toNat n.toNat p true).2.1 = root)) := by
  rw [vex, Bool.and_eq_true, decide_eq_true_eq] at h
  obtain ⟨⟨h1, h2, h3, h4⟩, h5⟩ := h
  refine ⟨⟨h1, h2, h3 old (by simp), h4⟩, ?_⟩
  by_cases h0 : m = 0
  · rw [if_pos h0, Bool.and_eq_true, decide_eq_true_eq] at h5
    exact .inl ⟨h0, h5.2⟩
  · rw [if_neg h0, Bool.and_eq_true, Bool.and_eq_true, decide_eq_true_eq, decide_eq_true_eq] at h5
    exact .inr ⟨h0, h5.1, h5.2.1, h5.2.2⟩

set_option maxRecDepth 100000 in
set_option maxHeartbeats 4000000 in
theorem extBind_walk (a : ByteArray) (p : List ByteArray) (vp : Value) (b : ByteArray) (q : List ByteArray) (vq : Value) (m : Int) (root : ByteArray) (n : Int) (w : World)
    (hm0 : -9223372036854775808 ≤ m) (hm1 : m ≤ 9223372036854775807) (hn0 : -9223372036854775808 ≤ n) (hn1 : n ≤ 9223372036854775807) (ha : a.size ≤ 9223372036854775807) (hb : b.size ≤ 9223372036854775807) (hr : root.size ≤ 9223372036854775807)
    (hip : In w vp p) (hzp : ∀ x ∈ p, x.size ≤ 9223372036854775807) (hiq : In w vq q) (hzq : ∀ x ∈ q, x.size ≤ 9223372036854775807) (ht : Tab w) :
    Calls Tryd.prog 10 #[.string a, vp, .string b, vq, .int .i64 m, .string root, .int .i64 n] w fun e w' => e = .returned (.bool true) ∧ Below w.heap.size w w' := by
  have hw := pos_of ht
  have G : Env w w [] := ⟨ht, hw, Below.refl _ _, fun _ h => by cases h⟩
  have cS : ∀ W, Env w W [] → Calls Tryd.prog 12 #[] W fun e w' => e = .returned (.bool true) ∧ Env w w' [] := fun W g => g.call (sane_any W g.tab g.pos)
  have cP : ∀ W, Env w W [] → Calls Tryd.prog 21 #[vp, .int .i64 70] W fun e w' => ∃ u, e = .returned u ∧ Env w w' [(u, fw p 70)] := fun W g => g.few p 70 vp (by decide) hzp hip
  have cQ : ∀ W x, Env w W [x] → Calls Tryd.prog 21 #[vq, .int .i64 70] W fun e w' => ∃ u, e = .returned u ∧ Env w w' [(u, fw q 70), x] := fun W x g => g.few q 70 vq (by decide) hzq hiq
  have hPl := fw_len p 70
  have hQl := fw_len q 70
  have hPz := fw_small p 70
  have hQz := fw_small q 70
  generalize fw p 70 = P at *
  generalize fw q 70 = Q at *
  clear hip hiq hzp hzq ht
  have cV1 : ∀ W u u2, Env w W [(u2, Q), (u, P)] → Calls Tryd.prog 31 #[.string a, .int .i64 m, .string root, .int .i64 n, u] W fun e w' => e = .returned (.bool (vex a m root n P)) ∧ Env w w' [(u2, Q), (u, P)] := fun W u u2 g =>
    g.call (VerifyExtension_any a m root n P u W hm0 hm1 hn0 hn1 ha hr (by omega) hPz g.sl2 g.tab g.pos)
  have cV2 : ∀ W u u2, Env w W [(u2, Q), (u, P)] → Calls Tryd.prog 31 #[.string b, .int .i64 m, .string root, .int .i64 n, u2] W fun e w' => e = .returned (.bool (vex b m root n Q)) ∧ Env w w' [(u2, Q), (u, P)] := fun W u u2 g =>
    g.call (VerifyExtension_any b m root n Q u2 W hm0 hm1 hn0 hn1 hb hr (by omega) hQz g.sl1 g.tab g.pos)
  cases h1 : vex a m root n P
  · rw [h1] at cV1
    generalize vex b m root n Q = b2 at *
    clear h1 hPz hQz
    go_enter Tryd.func10, Tryd.ntmps10
    go_wp2_with (first | (go_at_call 12; (with_reducible refine (cS _ G).mono ?_); rintro e w1 ⟨rfl, G⟩) | (go_at_call 21; (with_reducible refine (cP _ G).mono ?_); rintro e w1 ⟨u, rfl, G⟩) | (go_at_call 21; (with_reducible refine (cQ _ _ G).mono ?_); rintro e w1 ⟨u2, rfl, G⟩) | (go_at_call 31; (with_reducible refine (cV1 _ _ _ G).mono ?_); rintro e w1 ⟨rfl, G⟩) | (go_at_call 31; (with_reducible refine (cV2 _ _ _ G).mono ?_); rintro e w1 ⟨rfl, G⟩))
    go_ret
    exact ⟨rfl, G.below⟩
  · cases h2 : vex b m root n Q
    · rw [h1] at cV1
      rw [h2] at cV2
      clear h1 h2 hPz hQz
      go_enter Tryd.func10, Tryd.ntmps10
      go_wp2_with (first | (go_at_call 12; (with_reducible refine (cS _ G).mono ?_); rintro e w1 ⟨rfl, G⟩) | (go_at_call 21; (with_reducible refine (cP _ G).mono ?_); rintro e w1 ⟨u, rfl, G⟩) | (go_at_call 21; (with_reducible refine (cQ _ _ G).mono ?_); rintro e w1 ⟨u2, rfl, G⟩) | (go_at_call 31; (with_reducible refine (cV1 _ _ _ G).mono ?_); rintro e w1 ⟨rfl, G⟩) | (go_at_call 31; (with_reducible refine (cV2 _ _ _ G).mono ?_); rintro e w1 ⟨rfl, G⟩))
      go_ret
      exact ⟨rfl, G.below⟩
    · rw [h1] at cV1
      rw [h2] at cV2
      by_cases hst : a = b
      · have qe : (a.toList == b.toList) = true := by rw [eqB]; simp [hst]
        clear h1 h2 hPz hQz hst
        go_enter Tryd.func10, Tryd.ntmps10
        go_wp2_with (first | (go_at_call 12; (with_reducible refine (cS _ G).mono ?_); rintro e w1 ⟨rfl, G⟩) | (go_at_call 21; (with_reducible refine (cP _ G).mono ?_); rintro e w1 ⟨u, rfl, G⟩) | (go_at_call 21; (with_reducible refine (cQ _ _ G).mono ?_); rintro e w1 ⟨u2, rfl, G⟩) | (go_at_call 31; (with_reducible refine (cV1 _ _ _ G).mono ?_); rintro e w1 ⟨rfl, G⟩) | (go_at_call 31; (with_reducible refine (cV2 _ _ _ G).mono ?_); rintro e w1 ⟨rfl, G⟩))
        go_ret
        exact ⟨rfl, G.below⟩
      · have qe : (a.toList == b.toList) = false := by rw [eqB]; simp [hst]
        obtain ⟨⟨x1, x2, x3, x4⟩, x5⟩ := vex_true h1
        obtain ⟨⟨_, _, y3, y4⟩, y5⟩ := vex_true h2
        rcases x5 with ⟨x0, x5⟩ | ⟨x0, x5, x6, x7⟩
        · rcases y5 with ⟨_, y5⟩ | ⟨y0, _⟩
          · exact absurd (x5.trans y5.symm) hst
          · exact absurd x0 y0
        rcases y5 with ⟨y0, _⟩ | ⟨_, y5, y6, y7⟩
        · exact absurd y0 x0
        have hcl := sid_clash _ a b m.toNat n.toNat P Q true (Nat.le_refl _) (by omega) x4 y4 x3 y3 x5 y5 (x7.trans y7.symm) (by rw [x6, y6]; exact hst)
        obtain ⟨n, rfl⟩ : ∃ n' : Nat, n = (n' : Int) := ⟨n.toNat, by omega⟩
        obtain ⟨m, rfl⟩ : ∃ i' : Nat, m = (i' : Int) := ⟨m.toNat, by omega⟩
        simp only [Int.toNat_natCast] at x5 y5 hcl
        have z1 := sid_sizes a m n P true x3 x4
        have z2 := sid_sizes b m n Q true y3 y4
        have cW1 : ∀ W u u2, Env w W [(u2, Q), (u, P)] → Calls Tryd.prog 37 #[.string a, .int .i64 (m : Int), .int .i64 (n : Int), u, .bool true] W fun e w' => ∃ a' x, e = .returned (.tuple #[a', .string x]) ∧ Env w w' [(a', sid a m n P true), (u2, Q), (u, P)] := fun W u u2 g =>
          (sides_any _ a m n P true u W (Nat.le_refl _) (by omega) (by omega) (by omega) (by omega) x3 x4 x5 g.sl2 g.tab g.pos).mono fun _ _ ⟨u, he, ho, hb⟩ => ⟨u, _, he, (g.step hb).add (own_sl ho)⟩
        have cW2 : ∀ W u u2 a', Env w W [(a', sid a m n P true), (u2, Q), (u, P)] → Calls Tryd.prog 37 #[.string b, .int .i64 (m : Int), .int .i64 (n : Int), u2, .bool true] W fun e w' => ∃ b' x, e = .returned (.tuple #[b', .string x]) ∧ Env w w' [(b', sid b m n Q true), (a', sid a m n P true), (u2, Q), (u, P)] := fun W u u2 a' g =>
          (sides_any _ b m n Q true u2 W (Nat.le_refl _) (by omega) (by omega) (by omega) (by omega) y3 y4 y5 g.sl2 g.tab g.pos).mono fun _ _ ⟨u, he, ho, hb⟩ => ⟨u, _, he, (g.step hb).add (own_sl ho)⟩
        have cC : ∀ W a' b' ps, Env w W ((b', sid b m n Q true) :: (a', sid a m n P true) :: ps) → Calls Tryd.prog 35 #[a', b'] W fun e w' => e = .returned (.bool true) ∧ Env w w' ((b', sid b m n Q true) :: (a', sid a m n P true) :: ps) := fun W a' b' ps g =>
          g.call (collide_any true _ _ a' b' W ⟨fun _ => hcl, fun _ => rfl⟩ z1 z2 g.sl2 g.sl1 g.tab g.pos)
        generalize sid a m n P true = A at *
        generalize sid b m n Q true = B at *
        clear h1 h2 hPz hQz hst x0 x1 x2 x3 x4 x5 x6 x7 y3 y4 y5 y6 y7 hcl z1 z2
        go_enter Tryd.func10, Tryd.ntmps10
        go_wp2_with (first | (go_at_call 12; (with_reducible refine (cS _ G).mono ?_); rintro e w1 ⟨rfl, G⟩) | (go_at_call 21; (with_reducible refine (cP _ G).mono ?_); rintro e w1 ⟨u, rfl, G⟩) | (go_at_call 21; (with_reducible refine (cQ _ _ G).mono ?_); rintro e w1 ⟨u2, rfl, G⟩) | (go_at_call 31; (with_reducible refine (cV1 _ _ _ G).mono ?_); rintro e w1 ⟨rfl, G⟩) | (go_at_call 31; (with_reducible refine (cV2 _ _ _ G).mono ?_); rintro e w1 ⟨rfl, G⟩) | (go_at_call 37; (with_reducible refine (cW1 _ _ _ G).mono ?_); rintro e w1 ⟨a', xa, rfl, G⟩) | (go_at_call 37; (with_reducible refine (cW2 _ _ _ _ G).mono ?_); rintro e w1 ⟨b', xb, rfl, G⟩) | (go_at_call 35; (with_reducible refine (cC _ _ _ _ G).mono ?_); rintro e w1 ⟨rfl, G⟩))
        go_ret
        exact ⟨rfl, G.below⟩
end Go.Proofs.YtdjdoepnljdlcaaDoor
