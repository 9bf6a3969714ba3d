/- The walk of the law DigestBinding. -/
import Derived.Test.YtdjdoepnljdlcaaDoorWb
namespace Go.Proofs.YtdjdoepnljdlcaaDoor
open Go.RowKit

/-- a slice known to read, beside what came in -/
theorem Env.few {w W : World} {ps : List (Value × List ByteArray)} (l : List ByteArray) (n : Nat) (v : Value) (hn : n ≤ 1000) (hz : ∀ s ∈ l, s.size ≤ 9223372036854775807) (hin : In w v l) (g : Env w W ps) :
    Calls Tryd.prog 21 #[v, .int .i64 (n : Int)] W fun e w' => ∃ u, e = .returned u ∧ Env w w' ((u, fw l n) :: ps) :=
  (few_in l n v W hn hz (hin.below g.below)).mono fun _ _ ⟨u, he, ho, hb⟩ => ⟨u, he, (g.step hb).add (own_sl ho)⟩
theorem fw_small (l : List ByteArray) (n : Nat) : ∀ x ∈ fw l n, x.size ≤ 9223372036854775807 := fun x hx => by have := fw_size l n x hx; omega
theorem way_sizes (n i : Nat) (s : ByteArray) (p : List ByteArray) (hs : s.size ≤ 60) (hA : All32 p) : ∀ x ∈ way n i s p, x.size ≤ 137438953472 := by
  have key : ∀ N n i (p : List ByteArray), n ≤ N → All32 p → ∀ x ∈ way n i s p, x.size ≤ 137438953472 := by
    intro N
    induction N with
    | zero => intro n i p h _ x hx; rw [way_one (by omega)] at hx; simp at hx; subst hx; rw [ByteArray.size_append]; show 1 + s.size ≤ _; omega
    | succ N ih =>
      intro n i p h hA x hx
      by_cases h2 : 2 ≤ n
      · have k1 := spl_lt n h2
        have k2 := spl_pos n
        rcases snoc_cases p with rfl | ⟨q, y, rfl⟩
        · rw [way, dif_pos h2] at hx
          simp at hx; subst hx; rw [ByteArray.size_append]; show 1 + s.size ≤ _; omega
        · obtain ⟨hq, hy⟩ := all32_snoc.1 hA
          by_cases hi : i < spl n
          · rw [way_lo h2 hi] at hx
            rcases List.mem_cons.1 hx with rfl | hx
            · have := val_size' (spl n) i s q
              rw [ByteArray.size_append, ByteArray.size_append]; show 1 + _ + y.size ≤ _; omega
            · exact ih _ _ _ (by omega) hq x hx
          · rw [way_hi h2 hi] at hx
            rcases List.mem_cons.1 hx with rfl | hx
            · have := val_size' (n - spl n) (i - spl n) s q
              rw [ByteArray.size_append, ByteArray.size_append]; show 1 + y.size + _ ≤ _; omega
            · exact ih _ _ _ (by omega) hq x hx
      · rw [way_one (by omega)] at hx; simp at hx; subst hx; rw [ByteArray.size_append]; show 1 + s.size ≤ _; omega
  exact key n n i p (Nat.le_refl _) hA
theorem ver_true {root s : ByteArray} {n i : Int} {p : List ByteArray} (h : ver root n i s p = true) : (0 ≤ i ∧ i < n ∧ All32 p) ∧ (val n.toNat i.toNat s p).2 = true ∧ (val n.toNat i.toNat s p).1 = root := by
  rw [ver, Bool.and_eq_true, Bool.and_eq_true, decide_eq_true_eq, decide_eq_true_eq] at h
  exact ⟨h.1, h.2.1, h.2.2⟩

set_option maxRecDepth 100000 in
set_option maxHeartbeats 4000000 in
theorem bind_walk (root : ByteArray) (n i : Int) (s : ByteArray) (p : List ByteArray) (vp : Value) (t : ByteArray) (q : List ByteArray) (vq : Value) (w : World)
    (hn0 : -9223372036854775808 ≤ n) (hn1 : n ≤ 9223372036854775807) (hi0 : -9223372036854775808 ≤ i) (hi1 : i ≤ 9223372036854775807) (hs : s.size ≤ 9223372036854775807) (htz : t.size ≤ 9223372036854775807)
    (hip : In w vp p) (hzp : ∀ x ∈ p, x.size ≤ 9223372036854775807) (hiq : In w vq q) (hzq : ∀ x ∈ q, x.size ≤ 9223372036854775807) (ht : Tab w) :
    Calls Tryd.prog 8 #[.string root, .int .i64 n, .int .i64 i, .string s, vp, .string t, vq] w fun e w' => e = .returned (.bool true) ∧ Below w.heap.size w w' := by
  have hw := pos_of ht
  have G : Env w w [] := ⟨ht, hw, Below.refl _ _, fun _ h => by cases h⟩
  have cS : ∀ W, Env w W [] → Calls Tryd.prog 12 #[] W fun e w' => e = .returned (.bool true) ∧ Env w w' [] := fun W g => g.call (sane_any W g.tab g.pos)
  have cP : ∀ W, Env w W [] → Calls Tryd.prog 21 #[vp, .int .i64 70] W fun e w' => ∃ u, e = .returned u ∧ Env w w' [(u, fw p 70)] := fun W g => g.few p 70 vp (by decide) hzp hip
  have cQ : ∀ W x, Env w W [x] → Calls Tryd.prog 21 #[vq, .int .i64 70] W fun e w' => ∃ u, e = .returned u ∧ Env w w' [(u, fw q 70), x] := fun W x g => g.few q 70 vq (by decide) hzq hiq
  have u1 : 0 ≤ min (s.size : Int) 60 := by omega
  have u2 : min (s.size : Int) 60 ≤ (s.size : Int) := by omega
  have hcs : s.extract 0 (min (s.size : Int) 60).toNat = cut60 s := rfl
  have u3 : 0 ≤ min (t.size : Int) 60 := by omega
  have u4 : min (t.size : Int) 60 ≤ (t.size : Int) := by omega
  have hct : t.extract 0 (min (t.size : Int) 60).toNat = cut60 t := rfl
  have hS := cut60_size s
  have hT := cut60_size t
  have hPl := fw_len p 70
  have hQl := fw_len q 70
  have hPz := fw_small p 70
  have hQz := fw_small q 70
  generalize cut60 s = S at *
  generalize cut60 t = T at *
  generalize fw p 70 = P at *
  generalize fw q 70 = Q at *
  clear hip hiq hzp hzq ht
  have cV1 : ∀ W u u2, Env w W [(u2, Q), (u, P)] → Calls Tryd.prog 29 #[.string root, .int .i64 n, .int .i64 i, .string S, u] W fun e w' => e = .returned (.bool (ver root n i S P)) ∧ Env w w' [(u2, Q), (u, P)] := fun W u u2 g =>
    g.call (Verify_any root n i S P u W hn0 hn1 hi0 hi1 (by omega) (by omega) hPz g.sl2 g.tab g.pos)
  have cV2 : ∀ W u u2, Env w W [(u2, Q), (u, P)] → Calls Tryd.prog 29 #[.string root, .int .i64 n, .int .i64 i, .string T, u2] W fun e w' => e = .returned (.bool (ver root n i T Q)) ∧ Env w w' [(u2, Q), (u, P)] := fun W u u2 g =>
    g.call (Verify_any root n i T Q u2 W hn0 hn1 hi0 hi1 (by omega) (by omega) hQz g.sl1 g.tab g.pos)
  cases h1 : ver root n i S P
  · rw [h1] at cV1
    generalize ver root n i T Q = b2 at *
    clear h1 hPz hQz
    go_enter Tryd.func8, Tryd.ntmps8
    go_wp2_with (first | (go_at_call 12; (with_reducible refine (cS _ G).mono ?_); rintro e w1 ⟨rfl, G⟩) | (go_at_call 21; (with_reducible refine (cP _ G).mono ?_); rintro e w1 ⟨u, rfl, G⟩) | (go_at_call 21; (with_reducible refine (cQ _ _ G).mono ?_); rintro e w1 ⟨u2, rfl, G⟩) | (go_at_call 29; (with_reducible refine (cV1 _ _ _ G).mono ?_); rintro e w1 ⟨rfl, G⟩) | (go_at_call 29; (with_reducible refine (cV2 _ _ _ G).mono ?_); rintro e w1 ⟨rfl, G⟩))
    go_ret
    exact ⟨rfl, G.below⟩
  · cases h2 : ver root n i T Q
    · rw [h1] at cV1
      rw [h2] at cV2
      clear h1 h2 hPz hQz
      go_enter Tryd.func8, Tryd.ntmps8
      go_wp2_with (first | (go_at_call 12; (with_reducible refine (cS _ G).mono ?_); rintro e w1 ⟨rfl, G⟩) | (go_at_call 21; (with_reducible refine (cP _ G).mono ?_); rintro e w1 ⟨u, rfl, G⟩) | (go_at_call 21; (with_reducible refine (cQ _ _ G).mono ?_); rintro e w1 ⟨u2, rfl, G⟩) | (go_at_call 29; (with_reducible refine (cV1 _ _ _ G).mono ?_); rintro e w1 ⟨rfl, G⟩) | (go_at_call 29; (with_reducible refine (cV2 _ _ _ G).mono ?_); rintro e w1 ⟨rfl, G⟩))
      go_ret
      exact ⟨rfl, G.below⟩
    · rw [h1] at cV1
      rw [h2] at cV2
      by_cases hst : S = T
      · have qe : (S.toList == T.toList) = true := by rw [eqB]; simp [hst]
        clear h1 h2 hPz hQz hst
        go_enter Tryd.func8, Tryd.ntmps8
        go_wp2_with (first | (go_at_call 12; (with_reducible refine (cS _ G).mono ?_); rintro e w1 ⟨rfl, G⟩) | (go_at_call 21; (with_reducible refine (cP _ G).mono ?_); rintro e w1 ⟨u, rfl, G⟩) | (go_at_call 21; (with_reducible refine (cQ _ _ G).mono ?_); rintro e w1 ⟨u2, rfl, G⟩) | (go_at_call 29; (with_reducible refine (cV1 _ _ _ G).mono ?_); rintro e w1 ⟨rfl, G⟩) | (go_at_call 29; (with_reducible refine (cV2 _ _ _ G).mono ?_); rintro e w1 ⟨rfl, G⟩))
        go_ret
        exact ⟨rfl, G.below⟩
      · have qe : (S.toList == T.toList) = false := by rw [eqB]; simp [hst]
        obtain ⟨⟨a1, a2, a3⟩, a4, a5⟩ := ver_true h1
        obtain ⟨⟨_, _, a6⟩, a7, a8⟩ := ver_true h2
        have hcl := way_clash _ n.toNat i.toNat S T P Q (Nat.le_refl _) a3 a6 a4 a7 (a5.trans a8.symm) hst
        obtain ⟨n, rfl⟩ : ∃ n' : Nat, n = (n' : Int) := ⟨n.toNat, by omega⟩
        obtain ⟨i, rfl⟩ : ∃ i' : Nat, i = (i' : Int) := ⟨i.toNat, by omega⟩
        simp only [Int.toNat_natCast] at a4 a7 hcl
        have z1 := way_sizes n i S P hS a3
        have z2 := way_sizes n i T Q hT a6
        have cW1 : ∀ W u u2, Env w W [(u2, Q), (u, P)] → Calls Tryd.prog 34 #[.int .i64 (n : Int), .int .i64 (i : Int), .string S, u] W fun e w' => ∃ a x, e = .returned (.tuple #[a, .string x]) ∧ Env w w' [(a, way n i S P), (u2, Q), (u, P)] := fun W u u2 g =>
          (way_any _ n i S P u W (Nat.le_refl _) (by omega) (by omega) (by omega) (by omega) hS a3 a4 g.sl2 g.tab g.pos).mono fun _ _ ⟨a, he, ho, hb⟩ => ⟨a, _, he, (g.step hb).add (own_sl ho)⟩
        have cW2 : ∀ W u u2 a, Env w W [(a, way n i S P), (u2, Q), (u, P)] → Calls Tryd.prog 34 #[.int .i64 (n : Int), .int .i64 (i : Int), .string T, u2] W fun e w' => ∃ b x, e = .returned (.tuple #[b, .string x]) ∧ Env w w' [(b, way n i T Q), (a, way n i S P), (u2, Q), (u, P)] := fun W u u2 a g =>
          (way_any _ n i T Q u2 W (Nat.le_refl _) (by omega) (by omega) (by omega) (by omega) hT a6 a7 g.sl2 g.tab g.pos).mono fun _ _ ⟨b, he, ho, hb⟩ => ⟨b, _, he, (g.step hb).add (own_sl ho)⟩
        have cC : ∀ W a b ps, Env w W ((b, way n i T Q) :: (a, way n i S P) :: ps) → Calls Tryd.prog 35 #[a, b] W fun e w' => e = .returned (.bool true) ∧ Env w w' ((b, way n i T Q) :: (a, way n i S P) :: ps) := fun W a b ps g =>
          g.call (collide_any true _ _ a b W ⟨fun _ => hcl, fun _ => rfl⟩ z1 z2 g.sl2 g.sl1 g.tab g.pos)
        generalize way n i S P = A at *
        generalize way n i T Q = B at *
        clear h1 h2 hPz hQz hst a1 a2 a3 a4 a5 a6 a7 a8 hcl z1 z2
        go_enter Tryd.func8, Tryd.ntmps8
        go_wp2_with (first | (go_at_call 12; (with_reducible refine (cS _ G).mono ?_); rintro e w1 ⟨rfl, G⟩) | (go_at_call 21; (with_reducible refine (cP _ G).mono ?_); rintro e w1 ⟨u, rfl, G⟩) | (go_at_call 21; (with_reducible refine (cQ _ _ G).mono ?_); rintro e w1 ⟨u2, rfl, G⟩) | (go_at_call 29; (with_reducible refine (cV1 _ _ _ G).mono ?_); rintro e w1 ⟨rfl, G⟩) | (go_at_call 29; (with_reducible refine (cV2 _ _ _ G).mono ?_); rintro e w1 ⟨rfl, G⟩) | (go_at_call 34; (with_reducible refine (cW1 _ _ _ G).mono ?_); rintro e w1 ⟨a, xa, rfl, G⟩) | (go_at_call 34; (with_reducible refine (cW2 _ _ _ _ G).mono ?_); rintro e w1 ⟨b, xb, rfl, G⟩) | (go_at_call 35; (with_reducible refine (cC _ _ _ _ G).mono ?_); rintro e w1 ⟨rfl, G⟩))
        go_ret
        exact ⟨rfl, G.below⟩
end Go.Proofs.YtdjdoepnljdlcaaDoor
