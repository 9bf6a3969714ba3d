/- natural.root. -/
import Derived.Test.YtbdiofifjckceaaGreatDoorPi
namespace Go.Proofs.YtbdiofifjckceaaGreatDoor
open Go.RowKit

theorem grp_pow (k : Nat) : grp (10000 ^ k) = List.replicate k 0 ++ [1] := by
  induction k with
  | zero => rw [Nat.pow_zero, grp_pos (by decide)]; simp [grp_zero]
  | succ k ih =>
    have h0 : 0 < 10000 ^ k := Nat.pow_pos (by decide)
    have e1 : 10000 ^ (k + 1) % 10000 = 0 := by rw [Nat.pow_succ]; omega
    have e2 : 10000 ^ (k + 1) / 10000 = 10000 ^ k := by rw [Nat.pow_succ]; omega
    rw [grp_pos (Nat.pow_pos (by decide)), e1, e2, ih, List.replicate_succ]
    rfl
/-- Newton's step does not go below the root -/
theorem newton {n x s : Nat} (hx : 0 < x) (hs : s * s ≤ n) : s ≤ (x + n / x) / 2 := by
  rcases Nat.lt_or_ge ((x + n / x) / 2) s with h | h
  · exfalso
    have h1 : n / x < 2 * s - x := by omega
    have h2 : n < x * (2 * s - x) := by
      have := (Nat.div_lt_iff_lt_mul hx).1 h1
      rw [Nat.mul_comm]; exact this
    have h3 : x * (2 * s - x) ≤ s * s := by
      rcases Nat.lt_or_ge (2 * s) x with h4 | h4
      · rw [Nat.sub_eq_zero_of_le (by omega)]; simp
      · obtain ⟨d, hd⟩ : ∃ d, 2 * s - x = d := ⟨_, rfl⟩
        rw [hd]
        rcases Nat.le_total x s with h5 | h5
        · obtain ⟨e, rfl⟩ : ∃ e, s = x + e := ⟨s - x, by omega⟩
          have : d = x + 2 * e := by omega
          subst this
          have : (x + e) * (x + e) = x * (x + 2 * e) + e * e := by
            simp only [Nat.mul_add, Nat.add_mul, Nat.mul_comm e x, Nat.mul_left_comm x 2 e]; omega
          omega
        · obtain ⟨e, rfl⟩ : ∃ e, x = s + e := ⟨x - s, by omega⟩
          obtain ⟨f, rfl⟩ : ∃ f, s = e + f := ⟨s - e, by omega⟩
          have : d = f := by omega
          subst this
          have e1 : (e + d) * (e + d) = (e + d + e) * d + e * e := by
            simp only [Nat.mul_add, Nat.add_mul, Nat.mul_comm d e]; omega
          omega
    omega
  · exact h
theorem newton_below {n x s : Nat} (hx : 0 < x) (h : n < (s + 1) * (s + 1)) (hstop : x ≤ (x + n / x) / 2) (hxs : s ≤ x) : x = s := by
  have h1 : x ≤ n / x := by omega
  have h2 : x * x ≤ n := (Nat.le_div_iff_mul_le hx).1 h1
  rcases Nat.lt_or_ge s x with h3 | h3
  · have : (s + 1) * (s + 1) ≤ x * x := Nat.mul_le_mul h3 h3
    omega
  · omega
theorem sqrt_ex (n : Nat) : ∃ s, s * s ≤ n ∧ n < (s + 1) * (s + 1) := by
  induction n with
  | zero => exact ⟨0, by simp, by simp⟩
  | succ n ih =>
    obtain ⟨s, h1, h2⟩ := ih
    rcases Nat.lt_or_ge (n + 1) ((s + 1) * (s + 1)) with h | h
    · exact ⟨s, by omega, h⟩
    · refine ⟨s + 1, h, ?_⟩
      have : (s + 1 + 1) * (s + 1 + 1) = (s + 1) * (s + 1) + 2 * (s + 1) + 1 := by
        simp only [Nat.mul_add, Nat.add_mul]; omega
      omega

theorem lit_two (W : World) : NSl (W.alloc (.cells #[.int .i64 2] 3)) (.slice (some ⟨W.heap.size, 0, none⟩) 1 1) 2 := by
  have hA : ABlk (W.alloc (.cells #[.int .i64 2] 3)) W.heap.size [2] := ⟨[], World.alloc_heap_new W _⟩
  have e : grp 2 = [2] := by rw [grp_pos (by decide)]; simp [grp_zero]
  rw [NSl, e]
  refine .inr ⟨_, 0, 1, rfl, by simp, by omega, hA.lt, ?_⟩
  exact ABlk.row (P := []) (S := []) (by simpa using hA)
theorem grp_two : (grp 2).length ≤ 80000 := Nat.le_trans (grp_len (k := 1) (by decide)) (by decide)

set_option maxRecDepth 100000 in
set_option maxHeartbeats 1000000 in
theorem root_any (n : Nat) (v1 : Value) (w : World) (hl : (grp n).length ≤ 50000) (h1 : NSl w v1 n) :
    Calls Tryz.prog 47 #[v1] w fun e w' => ∃ v r, e = .returned v ∧ NSl w' v r ∧ r * r ≤ n ∧ n < (r + 1) * (r + 1) ∧ Below w.heap.size w w' := by
  obtain ⟨a1, c1, rfl⟩ := h1.form
  obtain ⟨k, hk⟩ : ∃ k, (grp n).length = k := ⟨_, rfl⟩
  rw [hk] at hl h1 ⊢
  have H1 := Lib.hid h1
  by_cases h0 : k = 0
  · have hn : n = 0 := grp_nil.1 (List.length_eq_zero_iff.1 (hk.trans h0))
    subst h0
    clear hk h1
    go_enter Tryz.func47, Tryz.ntmps47
    go_wp2
    go_ret
    exact ⟨_, 0, rfl, hn ▸ H1.out, by omega, by omega, Below.refl _ _⟩
  · have hnlt := grp_lt n
    rw [hk] at hnlt
    have HK := Lib.hid hk
    clear hk h1
    obtain ⟨i0, hi, hz0, hz1, hz2⟩ := info_parts info_int
    obtain ⟨s, hs1, hs2⟩ := sqrt_ex n
    obtain ⟨m, hm⟩ : ∃ m, (k + 1) / 2 = m := ⟨_, rfl⟩
    have em : ((k : Int) + 1) / 2 = (m : Int) := by omega
    have hm9 : m ≤ 30000 := by omega
    have HBY := Lib.hid (show i0.bytes * (m + 1) ≤ 281474976710656 by rw [hz2]; omega)
    have hmx : m + 1 ≤ maxLen := by unfold maxLen; omega
    have hZ : ∀ w', w'.ownsRow w.heap.size 3 1 (.slice (some ⟨w.heap.size, 0, none⟩) (m + 1) (m + 1)) (m + 1) (madeCells (Value.int .i64 0).cells ((m + 1) * 1)).toList → ABlk w' w.heap.size (List.replicate (m + 1) 0) := fun w' h => by
      rw [made_zeros] at h
      exact (own_blk h).1
    have HZ := Lib.hid hZ
    have HN := Lib.hid (And.intro hnlt (And.intro hs1 hs2))
    have HM := Lib.hid hm
    have hlast : (List.replicate (m + 1) (0 : Int))[m]? = some 0 := by simp
    have HL := Lib.hid hlast
    clear hZ hz2 hnlt hs1 hs2 hm hlast
    go_enter Tryz.func47, Tryz.ntmps47
    go_wp2_with (first | (refine wpList_make_full w rfl (.tmp 16) (.tmp 16) 47 rfl w.heap.size 3 i0 (.int .i64 0) 1 Tryz.underlying47 hi hz0 hz1 .i64 .i64 _ _ (m + 1) rfl rfl (by omega) (by omega) HBY.out hmx (Nat.le_refl _) ?_; intro w1 hown1 hgrow1; have hA1 := HZ.out w1 hown1; have hB1 := (Below.refl w.heap.size w).grown hgrow1 (Nat.le_refl _) (fun k e => by cases e); have HA1 := Lib.hid hA1; have hc1 := hA1.cell HL.out; have hf1 := hA1.free m; clear hown1 hgrow1 hA1))
    all_goals
      have hA2 : ABlk (w1.setCell ⟨w.heap.size, m, none⟩ (.int .i64 1)) w.heap.size (List.replicate m 0 ++ [1]) := by
        have h := HA1.out.set m 1
        have e : (List.replicate (m + 1) (0 : Int)).set m 1 = List.replicate m 0 ++ [1] := by
          rw [List.replicate_succ', List.set_append_right _ _ (by simp)]; simp
        rw [e] at h; exact h
      have hN2 : NSl (w1.setCell ⟨w.heap.size, m, none⟩ (.int .i64 1)) (.slice (some ⟨w.heap.size, 0, none⟩) (m + 1) (m + 1)) (10000 ^ m) := by
        rw [NSl, grp_pow]
        refine .inr ⟨_, 0, m + 1, by simp, by simp, by omega, hA2.lt, ?_⟩
        exact ABlk.row (P := []) (S := []) (by simpa using hA2)
      have hg : (grp (10000 ^ m)).length = m + 1 := by rw [grp_pow]; simp
      have hB2 : Below w.heap.size w (w1.setCell ⟨w.heap.size, m, none⟩ (.int .i64 1)) := hB1.setCell (Nat.le_refl _) _
      have HN2 := Lib.hid hN2
      have HG := Lib.hid hg
      clear hA2 hN2 hg HA1 hc1 hf1 hB1 HZ
      go_loopw [3] (fun u wr => ∃ (x : Nat) (a : Option Addr) (c : Nat), u = .slice a (grp x).length c ∧ Hid (NSl wr u x) ∧ Hid (0 < x ∧ s ≤ x ∧ x ≤ 10000 ^ m) ∧ Below w.heap.size w wr) (fun u wr => nvOf wr u)
      case atStart =>
        obtain ⟨g1, g2, g3⟩ := HN.out
        have h5 : n < 10000 ^ m * 10000 ^ m := by
          rw [← Nat.pow_add]
          exact Nat.lt_of_lt_of_le g1 (Nat.pow_le_pow_right (by decide) (by have := HM.out; omega))
        refine ⟨10000 ^ m, _, _, by rw [HG.out], HN2, Lib.hid ⟨Nat.pow_pos (by decide), ?_, Nat.le_refl _⟩, hB2⟩
        rcases Nat.lt_or_ge (10000 ^ m) s with h | h
        · have := Nat.mul_le_mul (Nat.le_of_lt h) (Nat.le_of_lt h); omega
        · exact h
      case round =>
        clear HN2 HG hB2
        obtain ⟨x, a, c, rfl, hx, hxs, hB⟩ := hrel
        obtain ⟨x0, x1, x2⟩ := hxs.out
        obtain ⟨g1, g2, g3⟩ := HN.out
        have l1 : (grp n).length ≤ 80000 := by have := grp_len g1; omega
        have l2 : (grp x).length ≤ 80000 := by
          have := grp_mono x2
          rw [grp_pow] at this; simp at this; omega
        have l3 : (grp (n / x)).length ≤ 80000 := Nat.le_trans (grp_mono (Nat.div_le_self _ _)) l1
        have l4 : (grp (x + n / x)).length ≤ 80000 := by
          have e1 : x + n / x < 10000 ^ (k + m + 1) := by
            have h1 : n / x ≤ n := Nat.div_le_self _ _
            have h2 : 10000 ^ m ≤ 10000 ^ (k + m) := Nat.pow_le_pow_right (by decide) (by omega)
            have h3 : 10000 ^ k ≤ 10000 ^ (k + m) := Nat.pow_le_pow_right (by decide) (by omega)
            rw [Nat.pow_succ]; omega
          have := grp_len e1
          omega
        have l5 : (grp ((x + n / x) / 2)).length ≤ 80000 := Nat.le_trans (grp_mono (Nat.div_le_self _ _)) l4
        have cO1 := over_any n x (.slice a1 k c1) (.slice a (grp x).length c) wr x0 l1 l2 (H1.out.below hB) hx.out
        have cP : ∀ (W : World) q, NSl W (.slice a (grp x).length c) x → NSl W q (n / x) → _ := fun W q k1 k2 => plus_any x (n / x) (.slice a (grp x).length c) q W (by omega) (by omega) k1 k2
        have cO2 : ∀ (W : World) q, NSl W q (x + n / x) → _ := fun W q k1 => over_any (x + n / x) 2 q (.slice (some ⟨W.heap.size, 0, none⟩) 1 1) (W.alloc (.cells #[.int .i64 2] 3)) (by decide) l4 grp_two (k1.below ((Below.refl _ W).alloc (Nat.le_refl _) _)) (lit_two W)
        have hnw := fun (h : x ≤ (x + n / x) / 2) => newton_below x0 g3 h x1
        have hns := newton x0 g2
        have cC : ∀ (W : World) q, NSl W q ((x + n / x) / 2) → NSl W (.slice a (grp x).length c) x → _ := fun W q k1 k2 => compare_any ((x + n / x) / 2) x q (.slice a (grp x).length c) W (by omega) k1 k2
        have hs0 : 0 < s := by
          rcases Nat.eq_zero_or_pos s with h | h
          · subst h
            have : n = 0 := by omega
            subst this
            rw [grp_zero] at l1
            exact absurd (HK.out.symm.trans (by rw [grp_zero]; rfl)) h0
          · exact h
        obtain ⟨L, hL⟩ : ∃ L, (grp x).length = L := ⟨_, rfl⟩
        have HLL := Lib.hid hL
        rw [hL] at cO1 cP cC hx ⊢
        have HV := Lib.hid (nvOf_eq hx.out)
        have CP := Lib.hid cP
        have CO := Lib.hid cO2
        have HX := hx
        obtain ⟨N, hN⟩ : ∃ N, (x + n / x) / 2 = N := ⟨_, rfl⟩
        rw [hN] at hns hnw cC CO
        obtain ⟨y, hy⟩ : ∃ y, cmpN (N : Int) (x : Int) = y := ⟨_, rfl⟩
        rw [hy] at cC
        have CC := Lib.hid cC
        have HR := Lib.hid (And.intro g2 g3)
        by_cases hst : x ≤ N
        · have y0 : 0 ≤ y := by rw [← hy, cmpN]; split <;> (try split) <;> omega
          have hxs2 := hnw hst
          have HXS := Lib.hid hxs2
          clear g1 g2 g3 l1 l2 l3 l4 x0 x1 x2 hx cP cO2 cC hnw hns hs0 hL hN hy hst hxs hxs2
          go_wp2_with (first | (go_at_call 60; (with_reducible refine cO1.mono ?_); rintro e w2 ⟨q1, r1, rfl, n1, n2, hB2⟩; have X2 := HX.out.below hB2; have HB2 := Lib.hid (hB.trans (hB2.mono hB.size)); have HX2 := Lib.hid X2; have HQ2 := Lib.hid n1; clear n1 n2 hB2 X2 cO1 HX hB) | (go_at_call 56; (with_reducible refine (CP.out _ _ HX2.out HQ2.out).mono ?_); rintro e w3 ⟨p1, rfl, n3, hB3⟩; have HX3 := Lib.hid (HX2.out.below hB3); have HP3 := Lib.hid n3; have HB3 := Lib.hid (HB2.out.trans (hB3.mono HB2.out.size)); clear n3 hB3 HX2 HB2 HQ2) | (go_at_call 60; (with_reducible refine (CO.out _ _ HP3.out).mono ?_); rintro e w4 ⟨q4, r4, rfl, n4, n5, hB4⟩; have HX4 := Lib.hid ((HX3.out.below ((Below.refl _ w3).alloc (Nat.le_refl _) (.cells #[.int .i64 2] 3))).below hB4); have HN4 := Lib.hid n4; have HB4 := Lib.hid ((HB3.out.alloc HB3.out.size (.cells #[.int .i64 2] 3)).trans (hB4.mono (HB3.out.alloc HB3.out.size (.cells #[.int .i64 2] 3)).size)); clear n4 n5 hB4 HX3 HP3 HB3) | (go_at_call 57; (with_reducible refine (CC.out _ _ HN4.out HX4.out).mono ?_); rintro e w5 ⟨rfl, hB5⟩; have HX5 := Lib.hid (HX4.out.below hB5); have HN5 := Lib.hid (HN4.out.below hB5); have HB5 := Lib.hid (HB4.out.trans (hB5.mono HB4.out.size)); clear hB5 HX4 HN4 HB4))
          go_ret
          exact ⟨_, x, rfl, HX5.out, HXS.out ▸ HR.out.1, HXS.out ▸ HR.out.2, HB5.out⟩
        · have y0 : y = -1 := by rw [← hy, cmpN, if_pos (by omega)]
          subst y0
          have HNX := Lib.hid (show 0 < N ∧ s ≤ N ∧ N ≤ 10000 ^ m ∧ N < x from ⟨by omega, hns, by omega, by omega⟩)
          clear g1 g2 g3 l1 l2 l3 l4 x0 x1 x2 hx cP cO2 cC hnw hns hs0 hL hN hy hst hxs
          go_wp2_with (first | (go_at_call 60; (with_reducible refine cO1.mono ?_); rintro e w2 ⟨q1, r1, rfl, n1, n2, hB2⟩; have X2 := HX.out.below hB2; have HB2 := Lib.hid (hB.trans (hB2.mono hB.size)); have HX2 := Lib.hid X2; have HQ2 := Lib.hid n1; clear n1 n2 hB2 X2 cO1 HX hB) | (go_at_call 56; (with_reducible refine (CP.out _ _ HX2.out HQ2.out).mono ?_); rintro e w3 ⟨p1, rfl, n3, hB3⟩; have HX3 := Lib.hid (HX2.out.below hB3); have HP3 := Lib.hid n3; have HB3 := Lib.hid (HB2.out.trans (hB3.mono HB2.out.size)); clear n3 hB3 HX2 HB2 HQ2) | (go_at_call 60; (with_reducible refine (CO.out _ _ HP3.out).mono ?_); rintro e w4 ⟨q4, r4, rfl, n4, n5, hB4⟩; have HX4 := Lib.hid ((HX3.out.below ((Below.refl _ w3).alloc (Nat.le_refl _) (.cells #[.int .i64 2] 3))).below hB4); have HN4 := Lib.hid n4; have HB4 := Lib.hid ((HB3.out.alloc HB3.out.size (.cells #[.int .i64 2] 3)).trans (hB4.mono (HB3.out.alloc HB3.out.size (.cells #[.int .i64 2] 3)).size)); clear n4 n5 hB4 HX3 HP3 HB3) | (go_at_call 57; (with_reducible refine (CC.out _ _ HN4.out HX4.out).mono ?_); rintro e w5 ⟨rfl, hB5⟩; have HX5 := Lib.hid (HX4.out.below hB5); have HN5 := Lib.hid (HN4.out.below hB5); have HB5 := Lib.hid (HB4.out.trans (hB5.mono HB4.out.size)); clear hB5 HX4 HN4 HB4))
          obtain ⟨a', c', e'⟩ := HN5.out.form
          obtain ⟨p1, p2, p3, p4⟩ := HNX.out
          refine ⟨⟨N, a', c', e', HN5, Lib.hid ⟨p1, p2, p3⟩, HB5.out⟩, ?_⟩
          rw [nvOf_eq HN5.out, HV.out]
          exact p4
end Go.Proofs.YtbdiofifjckceaaGreatDoor
