/- Contracts of over for all, gcd. -/
import Derived.Test.YtbdiofifjckceaaGreatDoorPh
namespace Go.Proofs.YtbdiofifjckceaaGreatDoor
open Go.RowKit

set_option maxRecDepth 100000 in
set_option maxHeartbeats 1000000 in
theorem over_small (n d : Nat) (a1 : Option Addr) (p c1 : Nat) (a2 : Option Addr) (s c2 : Nat) (w : World) (hN : (grp n).length = p) (hD : (grp d).length = s) (hp9 : p ≤ 80000) (hps : p < s) (hs9 : s ≤ 90000) (h1 : NSl w (.slice a1 p c1) n) :
    Calls Tryz.prog 60 #[.slice a1 p c1, .slice a2 s c2] w fun e w' => ∃ v1 v2, e = .returned (.tuple #[v1, v2]) ∧ NSl w' v1 (n / d) ∧ NSl w' v2 (n % d) ∧ Below w.heap.size w w' := by
  have hnd : n < d := grp_len_lt (by rw [hN, hD]; exact hps)
  rw [Nat.div_eq_of_lt hnd, Nat.mod_eq_of_lt hnd]
  obtain ⟨i0, hi, hz0, hz1, hz2⟩ := info_parts info_int
  have hb48 : i0.bytes * 0 ≤ 281474976710656 := by omega
  have hmx : 0 ≤ maxLen := Nat.zero_le _
  -- the clone, and its trimming
  have cC : Calls Tryz.prog 72 #[.slice a1 p c1] w fun e w' => ∃ a cap, e = .returned (.slice a p cap) ∧ Below w.heap.size w w' ∧ Hid (∀ W2, Below w'.heap.size w' W2 → Calls Tryz.prog 74 #[.slice a p cap] W2 fun e w3 => ∃ v, e = .returned v ∧ NSl w3 v n ∧ Below W2.heap.size W2 w3) := by
    rcases h1.cases with ⟨a, c, e1, e2⟩ | ⟨b, o, k, c, e1, e2, e3, e4, e5, e6, e7⟩
    · simp only [Value.slice.injEq] at e1
      obtain ⟨rfl, rfl, rfl⟩ := e1
      have hn0 : n = 0 := grp_nil.1 e2
      subst hn0
      refine (clone_zero a1 c1 w).mono fun e w' ⟨⟨a', c', he⟩, hB⟩ => ⟨a', c', he, hB, Lib.hid fun W2 hW => (trimmed_zero a' c' W2).mono fun e w3 ⟨h, h'⟩ => ⟨_, h, .inl ⟨_, _, rfl, grp_zero⟩, h' ▸ Below.refl _ _⟩⟩
    · simp only [Value.slice.injEq] at e1
      obtain ⟨rfl, rfl, rfl⟩ := e1
      refine (clone_some (grp n) b o p c1 w hN e3 (by omega) e6 e7).mono fun e w' ⟨g, cap, he, g1, g2, g3, hA, hB⟩ => ⟨_, cap, he, hB, Lib.hid fun W2 hW => ?_⟩
      have hA2 : ABlk W2 g (grp n ++ []) := by rw [List.append_nil]; exact hA.below hW hA.lt
      exact (trimmed_some (grp n) g 0 p cap W2 hN g2 g3 (ABlk.row (P := []) hA2)).mono fun e w3 ⟨h, q, hq⟩ => ⟨_, h, by rw [hq]; exact NSl.of_blk (S := []) hA2 hN (grp_dig n) (vl_grp n) g2 g3, by rw [hq]; exact ⟨rfl, rfl, rfl, Nat.le_refl _, fun _ _ => rfl⟩⟩
  have cZ := trimmed_zero
  clear h1 hN hD hz2 hnd
  go_enter Tryz.func60, Tryz.ntmps60
  go_wp2_with (first | (go_at_call 72; (with_reducible refine cC.mono ?_); rintro e w1 ⟨a, cap, rfl, hB, hT⟩) | (refine wpList_make_full _ rfl (.tmp 18) (.tmp 18) 47 rfl w.heap.size 3 i0 (.int .i64 0) 1 Tryz.underlying47 hi hz0 hz1 .i64 .i64 _ _ 0 rfl rfl (by omega) (by omega) hb48 hmx hB.size ?_; intro w2 hown2 hgrow2; have hB2 := hB.grown hgrow2 hB.size (fun k e => by cases e); have hB3 := (Below.refl w1.heap.size w1).grown hgrow2 (Nat.le_refl _) (fun k e => by cases e); clear hown2 hgrow2))
  all_goals
    obtain ⟨g2, hg2⟩ : ∃ x, w1.heap.size = x := ⟨_, rfl⟩
    have hT2 := hT.out w2 hB3
    rw [hg2]
    have HT := Lib.hid hT2
    clear hg2 hT hB hT2 cC
    go_loopw [8] (fun i wr => i = .int .i64 (-1) ∧ Hid (wr = w2)) (fun _ _ => 0)
    case atStart => exact ⟨rfl, Lib.hid rfl⟩
    case round =>
      obtain ⟨rfl, hw⟩ := hrel
      obtain rfl : wr = w2 := hw.out
      have cT := HT.out
      clear hw
      go_wp2_with (first | (go_at_call 74; (with_reducible refine (cZ (some ⟨g2, 0, none⟩) 0 _).mono ?_); rintro e w3 ⟨rfl, rfl⟩) | (go_at_call 74; (with_reducible refine cT.mono ?_); rintro e w3 ⟨v2, rfl, hv2, hB4⟩))
      go_ret2
      exact ⟨_, _, rfl, .inl ⟨_, _, rfl, grp_zero⟩, hv2, hB2.trans (hB4.mono hB2.size)⟩

theorem over_any (n d : Nat) (v1 v2 : Value) (w : World) (hd : 0 < d) (hl1 : (grp n).length ≤ 80000) (hl2 : (grp d).length ≤ 80000) (h1 : NSl w v1 n) (h2 : NSl w v2 d) :
    Calls Tryz.prog 60 #[v1, v2] w fun e w' => ∃ u1 u2, e = .returned (.tuple #[u1, u2]) ∧ NSl w' u1 (n / d) ∧ NSl w' u2 (n % d) ∧ Below w.heap.size w w' := by
  have f1 : ∃ a c, v1 = .slice a (grp n).length c := by
    rcases h1 with ⟨a, c, rfl, e⟩ | ⟨b, o, c, rfl, _⟩
    · rw [e]; exact ⟨a, c, rfl⟩
    · exact ⟨_, c, rfl⟩
  have hdl : 0 < (grp d).length := List.length_pos_iff.2 fun e => by have := grp_nil.1 e; omega
  rcases h2.cases with ⟨a, c, _, e⟩ | ⟨b2, o2, s, c2, rfl, e1, e2, e3, e4, e5, e6⟩
  · rw [e] at hdl; exact absurd hdl (by simp)
  · rcases Nat.lt_or_ge (grp n).length s with h | h
    · obtain ⟨a1, c1, rfl⟩ := f1
      exact over_small n d a1 _ c1 _ s c2 w rfl e1 hl1 h (by omega) h1
    · rcases h1.cases with ⟨a, c, rfl, e⟩ | ⟨b1, o1, p, c1, rfl, g1, g2, g3, g4, g5, g6⟩
      · rw [e] at h; simp at h; omega
      · obtain ⟨m, rfl⟩ : ∃ m, s = m + 1 := ⟨s - 1, by omega⟩
        exact over_some n d b1 o1 p c1 b2 o2 m c2 w hd g1 e1 (by omega) (by omega) e3 g6 e6 g5 e5

theorem NSl.below {w w' : World} {v : Value} {n : Nat} (h : NSl w v n) (hb : Below w.heap.size w w') : NSl w' v n := ISl.below h hb
theorem NSl.form {w : World} {v : Value} {n : Nat} (h : NSl w v n) : ∃ a c, v = .slice a (grp n).length c := by
  rcases h with ⟨a, c, rfl, e⟩ | ⟨b, o, c, rfl, _⟩
  · rw [e]; exact ⟨a, c, rfl⟩
  · exact ⟨_, c, rfl⟩

theorem IRow.inj {w : World} {b o : Nat} {l m : List Int} (h1 : IRow w b o l) (h2 : IRow w b o m) (h : l.length = m.length) : l = m := by
  refine List.ext_getElem h fun j hj hj2 => ?_
  have e1 := h1 j _ (List.getElem?_eq_getElem hj)
  have e2 := h2 j _ (List.getElem?_eq_getElem hj2)
  rw [e1] at e2
  simpa using e2
theorem ISl.inj {w : World} {v : Value} {l m : List Int} (h1 : ISl w v l) (h2 : ISl w v m) : l = m := by
  rcases h1 with ⟨a, c, rfl, rfl⟩ | ⟨b, o, c, rfl, _, _, _, g1⟩
  · rcases h2 with ⟨a', c', _, rfl⟩ | ⟨b', o', c', e, _⟩
    · rfl
    · simp only [Value.slice.injEq] at e
      exact (List.length_eq_zero_iff.1 e.2.1.symm).symm
  · rcases h2 with ⟨a', c', e, rfl⟩ | ⟨b', o', c', e, _, _, _, g2⟩
    · simp only [Value.slice.injEq] at e
      exact List.length_eq_zero_iff.1 e.2.1
    · simp only [Value.slice.injEq, Option.some.injEq, Addr.mk.injEq] at e
      obtain ⟨⟨rfl, rfl, _⟩, e2, _⟩ := e
      exact g1.inj g2 e2
/-- the number that a value stands for: the measure of gcd's and root's loops -/
noncomputable def nvOf (w : World) (v : Value) : Nat := open Classical in if h : ∃ n, NSl w v n then h.choose else 0
theorem nvOf_eq {w : World} {v : Value} {n : Nat} (h : NSl w v n) : nvOf w v = n := by
  have hx : ∃ n, NSl w v n := ⟨n, h⟩
  rw [nvOf, dif_pos hx]
  exact grp_inj (ISl.inj hx.choose_spec h)

set_option maxRecDepth 100000 in
set_option maxHeartbeats 1000000 in
theorem gcd_any (n m : Nat) (v1 v2 : Value) (w : World) (hl1 : (grp n).length ≤ 80000) (hl2 : (grp m).length ≤ 80000) (h1 : NSl w v1 n) (h2 : NSl w v2 m) :
    Calls Tryz.prog 61 #[v1, v2] w fun e w' => ∃ v, e = .returned v ∧ NSl w' v (Nat.gcd n m) ∧ Below w.heap.size w w' := by
  have H1 := Lib.hid h1
  have H2 := Lib.hid h2
  have HL1 := Lib.hid hl1
  have HL2 := Lib.hid hl2
  clear h1 h2 hl1 hl2
  go_enter Tryz.func61, Tryz.ntmps61
  go_wp2
  go_loopw [0, 1] (fun u1 u2 wr => ∃ (x y : Nat) (a : Option Addr) (c : Nat), u2 = .slice a (grp y).length c ∧ Hid (NSl wr u1 x) ∧ Hid (NSl wr u2 y) ∧ Hid ((grp x).length ≤ 80000 ∧ (grp y).length ≤ 80000 ∧ Nat.gcd x y = Nat.gcd n m) ∧ Below w.heap.size w wr) (fun _ u2 wr => nvOf wr u2)
  case atStart =>
    obtain ⟨a, c, e⟩ := H2.out.form
    exact ⟨n, m, a, c, e, H1, H2, Lib.hid ⟨HL1.out, HL2.out, rfl⟩, Below.refl _ _⟩
  case round =>
    obtain ⟨x, y, a, c, rfl, hx, hy, hg, hB⟩ := hrel
    obtain ⟨k, hk⟩ : ∃ k, (grp y).length = k := ⟨_, rfl⟩
    obtain ⟨g1, g2, g3⟩ := hg.out
    by_cases h0 : k = 0
    · have hy0 : y = 0 := grp_nil.1 (List.length_eq_zero_iff.1 (hk.trans h0))
      have HX := Lib.hid (show NSl wr u0 (Nat.gcd n m) by rw [← g3, hy0, Nat.gcd_zero_right]; exact hx.out)
      rw [hk]
      subst h0
      clear hk hy0 g1 g2 g3
      go_wp2
      go_ret
      exact ⟨_, rfl, HX.out, hB⟩
    · have hyp : 0 < y := by
        rcases Nat.eq_zero_or_pos y with h | h
        · rw [h, grp_zero] at hk; simp at hk; omega
        · exact h
      have cO := over_any x y u0 (.slice a (grp y).length c) wr hyp g1 g2 hx.out hy.out
      have HS : ∀ (w' : World) (v : Value), NSl w' v (x % y) → ∃ a c, v = .slice a (grp (x % y)).length c := fun w' v h => h.form
      have hlt : (grp (x % y)).length ≤ k := by rw [← hk]; exact grp_mono (Nat.le_of_lt (Nat.mod_lt _ hyp))
      have HG := Lib.hid (show (grp y).length ≤ 80000 ∧ (grp (x % y)).length ≤ 80000 ∧ Nat.gcd y (x % y) = Nat.gcd n m from ⟨g2, by omega, by rw [← g3, Nat.gcd_comm x y, Nat.gcd_rec y x, Nat.gcd_comm]⟩)
      have HM := fun (w' : World) (v : Value) (h : NSl w' v (x % y)) => show nvOf w' v < nvOf wr (.slice a (grp y).length c) by
        rw [nvOf_eq h, nvOf_eq hy.out]; exact Nat.mod_lt _ hyp
      have HHM := Lib.hid HM
      have HHS := Lib.hid HS
      rw [hk] at cO HM hy HHM ⊢
      clear hlt g1 g2 g3 hg hyp HS HM hx
      go_wp2_with (go_at_call 60; (with_reducible refine cO.mono ?_); rintro e w' ⟨v1, v2, rfl, k1, k2, hB2⟩; obtain ⟨a2, c2, e2⟩ := HHS.out _ _ k2; have Q2 := Lib.hid k2; have Q3 := Lib.hid (hy.out.below hB2); have Q4 := Lib.hid (hB.trans (hB2.mono hB.size)); have Q5 := Lib.hid (HHM.out _ _ k2); clear k1 k2 cO hB2 hB hy HHM)
      go_roundw
      case rel => exact ⟨y, x % y, a2, c2, rfl, Q3, e2 ▸ Q2, HG, Q4.out⟩
      case measure => exact e2 ▸ Q5.out
end Go.Proofs.YtbdiofifjckceaaGreatDoor
