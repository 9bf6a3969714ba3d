/- The walk of the law DigestChainBinding. -/
import Derived.Test.YtdjdoepnljdlcaaDoorWg
namespace Go.Proofs.YtdjdoepnljdlcaaDoor
open Go.RowKit

theorem cv32' (W : World) (b : Nat) (h : W.heap[b]? = some Z32) : (convert 43 9 (.slice (some ⟨b, 0, none⟩) 32 32)).run Tryd.prog W = .ok (.string z32) W := by
  rw [z32_eq]
  refine run_convert_bytes_back (P := Tryd.prog) W 43 9 5 ⟨b, 0, none⟩ 32 (List.replicate 32 (0 : UInt8)) Tryd.underlying43 Tryd.underlying5 Tryd.underlying9 (fun j hj => ?_)
  rw [Addr.add_mid, World.cell?, h]
  rw [List.length_replicate] at hj
  simp only [Z32, made32, List.getElem_replicate]
  simp [hj]
theorem ss_sizes (r : List ByteArray) (hz : ∀ x ∈ r, x.size ≤ 60) : ∀ x ∈ ss r, x.size ≤ 137438953472 := by
  induction r with
  | nil => intro x hx; cases hx
  | cons y r ih =>
    intro x hx
    rw [ss] at hx
    rcases List.mem_cons.1 hx with rfl | hx
    · have h1 := hr_size r
      have h2 := hz y (by simp)
      rw [ByteArray.size_append, ByteArray.size_append]; show 1 + (hr r).size + y.size ≤ _; omega
    · exact ih (fun z hz' => hz z (by simp [hz'])) x hx

set_option maxRecDepth 100000 in
set_option maxHeartbeats 4000000 in
theorem chain_walk (a : List ByteArray) (va : Value) (b : List ByteArray) (vb : Value) (w : World)
    (hip : In w va a) (hzp : ∀ x ∈ a, x.size ≤ 9223372036854775807) (hiq : In w vb b) (hzq : ∀ x ∈ b, x.size ≤ 9223372036854775807) (ht : Tab w) :
    Calls Tryd.prog 9 #[va, vb] w fun e w' => e = .returned (.bool true) ∧ Below w.heap.size w w' := by
  have hw := pos_of ht
  have G : Env w w [] := ⟨ht, hw, Below.refl _ _, fun _ h => by cases h⟩
  have cS : ∀ W, Env w W [] → Calls Tryd.prog 12 #[] W fun e w' => e = .returned (.bool true) ∧ Env w w' [] := fun W g => g.call (sane_any W g.tab g.pos)
  have cP : ∀ W, Env w W [] → Calls Tryd.prog 21 #[va, .int .i64 20] W fun e w' => ∃ u, e = .returned u ∧ Env w w' [(u, fw a 20)] := fun W g => g.few a 20 va (by decide) hzp hip
  have cQ : ∀ W x, Env w W [x] → Calls Tryd.prog 21 #[vb, .int .i64 20] W fun e w' => ∃ u, e = .returned u ∧ Env w w' [(u, fw b 20), x] := fun W x g => g.few b 20 vb (by decide) hzq hiq
  have hPl := fw_len a 20
  have hQl := fw_len b 20
  have hPz := fw_size a 20
  have hQz := fw_size b 20
  generalize fw a 20 = A at *
  generalize fw b 20 = B at *
  clear hip hiq hzp hzq ht
  have zA := ss_sizes A.reverse (fun x hx => hPz x (by simpa using hx))
  have zB := ss_sizes B.reverse (fun x hx => hQz x (by simpa using hx))
  have lA : (ss A.reverse).length = A.length := by rw [ss_len, List.length_reverse]
  have lB : (ss B.reverse).length = B.length := by rw [ss_len, List.length_reverse]
  have cH1 : ∀ W u u2, Env w W [(u2, B), (u, A)] → Calls Tryd.prog 36 #[u] W fun e w' => ∃ q c, e = .returned (.tuple #[.slice q A.length c, .string (hr A.reverse)]) ∧ Env w w' [(.slice q A.length c, ss A.reverse), (u2, B), (u, A)] := fun W u u2 g =>
    (heads_any A u W (by omega) hPz g.sl2 g.tab g.pos).mono fun _ _ ⟨x, he, ho, hb⟩ => by
      obtain ⟨q, c, rfl⟩ := own_q ho
      exact ⟨q, c, he, (g.step hb).add (own_sl (by rw [lA]; exact ho))⟩
  have cH2 : ∀ W u u2 x, Env w W [(x, ss A.reverse), (u2, B), (u, A)] → Calls Tryd.prog 36 #[u2] W fun e w' => ∃ q c, e = .returned (.tuple #[.slice q B.length c, .string (hr B.reverse)]) ∧ Env w w' [(.slice q B.length c, ss B.reverse), (x, ss A.reverse), (u2, B), (u, A)] := fun W u u2 x g =>
    (heads_any B u2 W (by omega) hQz g.sl2 g.tab g.pos).mono fun _ _ ⟨x, he, ho, hb⟩ => by
      obtain ⟨q, c, rfl⟩ := own_q ho
      exact ⟨q, c, he, (g.step hb).add (own_sl (by rw [lB]; exact ho))⟩
  have cE : ∀ W u u2 x y, Env w W [(y, ss B.reverse), (x, ss A.reverse), (u2, B), (u, A)] → Calls Tryd.prog 26 #[u, u2] W fun e w' => e = .returned (.bool (decide (A = B))) ∧ Env w w' [(y, ss B.reverse), (x, ss A.reverse), (u2, B), (u, A)] := fun W u u2 x y g =>
    (same_any A B u u2 W (g.sl (u, A) (by simp)) g.sl3).mono fun _ _ ⟨he, q, hq⟩ => ⟨he, g.step (by rw [hq]; exact ⟨rfl, rfl, rfl, Nat.le_refl _, fun _ _ => rfl⟩)⟩
  have hh1 := hr_size A.reverse
  have hh2 := hr_size B.reverse
  have hcl := chain_clash A.reverse B.reverse
  have hq1 : ((hr A.reverse).size : Int) = 32 := by rw [hh1]; rfl
  have HSZ := Lib.hid hq1
  have qh : (((hr A.reverse).size : Int) != 32) = false := by rw [hq1]; rfl
  by_cases hAB : A = B
  · subst hAB
    have qd : decide (A = A) = true := by simp
    rw [qd] at cE
    have qe : ((hr A.reverse).toList == (hr A.reverse).toList) = true := by rw [eqB]; simp
    clear hcl zA zB lA lB hPl hQl hPz hQz hh1 hh2 hq1 HSZ
    have qe2 := qe
    generalize ss A.reverse = X at *
    generalize hr A.reverse = h at *
    generalize A.length = n at *
    go_enter Tryd.func9, Tryd.ntmps9
    go_wp2_with (first | (go_at_call 12; (with_reducible refine (cS _ G).mono ?_); rintro e w1 ⟨rfl, G⟩) | (go_at_call 21; (with_reducible refine (cP _ G).mono ?_); rintro e w1 ⟨u, rfl, G⟩) | (go_at_call 21; (with_reducible refine (cQ _ _ G).mono ?_); rintro e w1 ⟨u2, rfl, G⟩) | (go_at_call 36; (with_reducible refine (cH1 _ _ _ G).mono ?_); rintro e w1 ⟨x1, xc1, rfl, G⟩) | (go_at_call 36; (with_reducible refine (cH2 _ _ _ _ G).mono ?_); rintro e w1 ⟨x2, xc2, rfl, G⟩) | (go_at_call 26; (with_reducible refine (cE _ _ _ _ _ G).mono ?_); rintro e w1 ⟨rfl, G⟩))
    go_ret
    exact ⟨rfl, G.below⟩
  · have qd : decide (A = B) = false := decide_eq_false hAB
    rw [qd] at cE
    by_cases hhk : hr A.reverse = hr B.reverse
    · have qe : ((hr A.reverse).toList == (hr B.reverse).toList) = true := by rw [eqB]; simp [hhk]
      obtain ⟨r, hrC⟩ : ∃ r : Bool, (r = true ↔ Clash (ss A.reverse) (ss B.reverse)) := by
        by_cases h : Clash (ss A.reverse) (ss B.reverse)
        · exact ⟨true, fun _ => h, fun _ => rfl⟩
        · exact ⟨false, (fun h' => by cases h'), fun h' => absurd h' h⟩
      obtain ⟨n, hN⟩ : ∃ n, A.length = n := ⟨_, rfl⟩
      obtain ⟨m, hM⟩ : ∃ m, B.length = m := ⟨_, rfl⟩
      rw [hN] at cH1
      rw [hM] at cH2
      by_cases hnm : n = m
      · have hr1 : r = true := by
          rcases hcl hhk (fun e => hAB (List.reverse_inj.1 e)) with h | h
          · exact hrC.2 h
          · exact absurd (by rw [lA, lB, hN, hM]; exact hnm) h.1
        have cC : ∀ W a b ps, Env w W ((b, ss B.reverse) :: (a, ss A.reverse) :: ps) → Calls Tryd.prog 35 #[a, b] W fun e w' => e = .returned (.bool true) ∧ Env w w' ((b, ss B.reverse) :: (a, ss A.reverse) :: ps) := fun W a b ps g =>
          hr1 ▸ g.call (collide_any r _ _ a b W hrC zA zB g.sl2 g.sl1 g.tab g.pos)
        generalize ss A.reverse = XA at *
        generalize ss B.reverse = XB at *
        generalize hr A.reverse = h at *
        generalize hr B.reverse = k at *
        clear hcl zA zB lA lB hPl hQl hPz hQz hh1 hh2 hq1 HSZ hAB hhk hrC hN hM hr1
        subst hnm
        go_enter Tryd.func9, Tryd.ntmps9
        go_wp2_with (first | (go_at_call 12; (with_reducible refine (cS _ G).mono ?_); rintro e w1 ⟨rfl, G⟩) | (go_at_call 21; (with_reducible refine (cP _ G).mono ?_); rintro e w1 ⟨u, rfl, G⟩) | (go_at_call 21; (with_reducible refine (cQ _ _ G).mono ?_); rintro e w1 ⟨u2, rfl, G⟩) | (go_at_call 36; (with_reducible refine (cH1 _ _ _ G).mono ?_); rintro e w1 ⟨x1, xc1, rfl, G⟩) | (go_at_call 36; (with_reducible refine (cH2 _ _ _ _ G).mono ?_); rintro e w1 ⟨x2, xc2, rfl, G⟩) | (go_at_call 26; (with_reducible refine (cE _ _ _ _ _ G).mono ?_); rintro e w1 ⟨rfl, G⟩))
        have GN : ∀ nq, Env w (w1.drewN nq) [(.slice x2 n xc2, XB), (.slice x1 n xc1, XA), (u2, B), (u, A)] := fun nq => G.step ⟨rfl, rfl, rfl, Nat.le_refl _, fun _ _ => rfl⟩
        go_quiet (fail)
        go_wp2_with (go_at_call 35; (with_reducible refine (cC _ _ _ _ (GN _)).mono ?_); rintro e w1 ⟨rfl, G⟩)
        go_ret
        exact ⟨rfl, G.below⟩
      · have hne : n ≠ m := hnm
        by_cases hlt : n < m
        · have hlt : n < m := by omega
          have hsz : m = (ss B.reverse).length := by rw [lB, hM]
          have hkk : n < (ss B.reverse).length := by omega
          obtain ⟨X, hX⟩ : ∃ X, (ss B.reverse)[n]? = some X := ⟨_, List.getElem?_eq_getElem hkk⟩
          have zX : X.size ≤ 137438953472 := zB X (List.mem_of_getElem? hX)
          have hzro : zro (ss A.reverse) (ss B.reverse) → sumB X = z32 := fun h => by
            have h2 := h.2
            rw [lng, if_pos (by rw [lA, lB, hN, hM]; omega), lA, lB, hN, hM, show min n m = n by omega, List.getD_eq_getElem?_getD, hX] at h2
            exact h2
          have hcellX : ∀ W q c, Sl W (.slice q m c) (ss B.reverse) → ∃ b o, q = some ⟨b, o, none⟩ ∧ m ≤ c ∧ b < W.heap.size ∧ W.cell? ⟨b, o + n, none⟩ = some (.string X) := fun W q c hs => by
            rcases hs with ⟨h', _⟩ | ⟨b', o', c', h', h1, h2, h3, h4⟩
            · simp only [Value.slice.injEq] at h'; omega
            · simp only [Value.slice.injEq] at h'
              obtain ⟨rfl, h5, rfl⟩ := h'
              exact ⟨b', o', rfl, by omega, h3, h4 _ _ hX⟩
          have cC : ∀ W a b ps, Env w W ((b, ss B.reverse) :: (a, ss A.reverse) :: ps) → Calls Tryd.prog 35 #[a, b] W fun e w' => e = .returned (.bool r) ∧ Env w w' ((b, ss B.reverse) :: (a, ss A.reverse) :: ps) := fun W a b ps g =>
            g.call (collide_any r _ _ a b W hrC zA zB g.sl2 g.sl1 g.tab g.pos)
          have cSm : ∀ W b0 o0 ps, Env w W ps → b0 < W.heap.size → W.cell? ⟨b0, o0, none⟩ = some (.string X) → Calls Tryd.prog 13 #[.string X] W fun e w' => e = .returned (.string (sumB X)) ∧ Env w w' ps ∧ w'.cell? ⟨b0, o0, none⟩ = some (.string X) ∧ ∀ k, k < W.heap.size → W.heap[k]? = some Z32 → (convert 43 9 (.slice (some ⟨k, 0, none⟩) 32 32)).run Tryd.prog w' = .ok (.string z32) w' := fun W b0 o0 ps g hb hc =>
            (Sum_any X zX W g.tab g.pos).mono fun e w' ⟨he, hb'⟩ => ⟨he, g.step hb', (hb'.cell (p := ⟨b0, o0, none⟩) hb).trans hc, fun k hk h => cv32' w' k ((hb'.block k hk).trans h)⟩
          have hz0 : r = true ∨ sumB X = z32 := by
            rcases hcl hhk (fun e => hAB (List.reverse_inj.1 e)) with h | h
            · exact .inl (hrC.2 h)
            · exact .inr (hzro h)
          have mk := mk32
          have cv := cv32
          have q1 : ((n : Int) == (m : Int)) = false := by rw [beq_eq_false_iff_ne, ne_eq]; omega
          have q1' : ((n : Int) != (m : Int)) = true := by rw [bne, q1]; rfl
          have qm : min (n : Int) (m : Int) = (n : Int) := by omega
          have j1 : (0 : Int) ≤ (n : Int) := by omega
          have j2 : (n : Int) < (m : Int) := by omega
          have QM := Lib.hid qm
          generalize ss A.reverse = XA at *
          generalize ss B.reverse = XB at *
          generalize hr A.reverse = h at *
          generalize hr B.reverse = k at *
          generalize sumB X = Y at *
          clear hX hzro hsz hkk hcl hrC lA lB zA zB hPl hQl hPz hQz hh1 hh2 hAB hq1 hne hhk hN hM qm
          cases r
          · have qz : (Y.toList == z32.toList) = true := by
              rcases hz0 with h | h
              · cases h
              · rw [eqB]; simp [h]
            clear hz0
            go_enter Tryd.func9, Tryd.ntmps9
            go_wp2_with (first | (go_at_call 12; (with_reducible refine (cS _ G).mono ?_); rintro e w1 ⟨rfl, G⟩) | (go_at_call 21; (with_reducible refine (cP _ G).mono ?_); rintro e w1 ⟨u, rfl, G⟩) | (go_at_call 21; (with_reducible refine (cQ _ _ G).mono ?_); rintro e w1 ⟨u2, rfl, G⟩) | (go_at_call 36; (with_reducible refine (cH1 _ _ _ G).mono ?_); rintro e w1 ⟨x1, xc1, rfl, G⟩) | (go_at_call 36; (with_reducible refine (cH2 _ _ _ _ G).mono ?_); rintro e w1 ⟨x2, xc2, rfl, G⟩) | (go_at_call 26; (with_reducible refine (cE _ _ _ _ _ G).mono ?_); rintro e w1 ⟨rfl, G⟩; refine Hid.out ?_))
            refine Lib.hid ?_
            obtain ⟨b0, o0, rfl, hc0, hb0, hcell⟩ := hcellX _ _ _ G.sl1
            have qm := QM.out
            go_wp2
            have hA := cSm w1.drew b0 (o0 + n) _ G.drew hb0 hcell
            have GB : Env w (w1.alloc Z32).drew [(.slice (some ⟨b0, o0, none⟩) m xc2, XB), (.slice x1 n xc1, XA), (u2, B), (u, A)] := (G.step ((Below.refl _ _).alloc (Nat.le_refl _) Z32)).drew
            have hcB0 : (w1.alloc Z32).cell? ⟨b0, o0 + n, none⟩ = some (.string X) := cell_kept hcell (World.grownBy_alloc _ _ none) (fun r e => by cases e)
            have hcB : (w1.alloc Z32).drew.cell? ⟨b0, o0 + n, none⟩ = some (.string X) := hcB0
            clear hcB0
            have hcA : w1.drew.cell? ⟨b0, o0 + n, none⟩ = some (.string X) := hcell
            have hB := (cSm (w1.alloc Z32).drew b0 (o0 + n) _ GB (by show b0 < (w1.alloc Z32).heap.size; rw [World.size_alloc]; exact Nat.lt_succ_of_lt hb0) hcB).mono fun e w' ⟨x1, x2, x3, x4⟩ => (⟨x1, x2, x3, x4 w1.heap.size (by show w1.heap.size < (w1.alloc Z32).heap.size; rw [World.size_alloc]; exact Nat.lt_succ_self _) (World.alloc_heap_new w1 Z32)⟩ : _ ∧ _ ∧ _ ∧ _)
            have cvd := cv32' (w1.alloc Z32).drew w1.heap.size (World.alloc_heap_new w1 Z32)
            clear cSm G hb0 GB
            refine wp_region_noPanic ?_
            refine wp_region_held_drew (S := fun W => W.cell? ⟨b0, o0 + n, none⟩ = some (.string X)) (by kernel_rfl) ?_ (fun hHeld => ?_)
            · exact hcA
            refine wpAnyH_take (i := 0) (oi := ({ dst := some 61, op := Op.move (Operand.tmp 6), type := 26, pos := "law.go:201", after := #[], guard := none } : Oper)) (v := ?v0_1a) rfl (by kernel_rfl) (by kernel_rfl) (by kernel_rfl) (fun _ _ _ h => h) (Or.inl ⟨by rfl, ?hy0_1a⟩) (by assumption) ?re0_1a
            case hy0_1a => ((intro w hSw; (try dsimp only at hSw); go_simp) <;> with_reducible rfl)
            (try simp only [Act.put, List.setIfInBounds_toArray, List.set_cons_zero, List.set_cons_succ])
            refine wpAnyH_take (i := 1) (oi := ({ dst := some 62, op := Op.call { callee := Callee.builtin Builtin.len, args := #[Operand.tmp 61], argTypes := #[26] }, type := 3, pos := "law.go:201", after := #[{ on := 0, ground := Ground.data }], guard := none } : Oper)) (v := ?v1_2a) rfl (by kernel_rfl) (by kernel_rfl) (by kernel_rfl) (fun _ _ _ h => h) (Or.inl ⟨by rfl, ?hy1_2a⟩) (by assumption) ?re1_2a
            case hy1_2a => ((intro w hSw; (try dsimp only at hSw); go_simp) <;> with_reducible rfl)
            (try simp only [Act.put, List.setIfInBounds_toArray, List.set_cons_zero, List.set_cons_succ])
            refine wpAnyH_take (i := 2) (oi := ({ dst := some 63, op := Op.move (Operand.tmp 8), type := 26, pos := "law.go:201", after := #[], guard := none } : Oper)) (v := ?v2_3a) rfl (by kernel_rfl) (by kernel_rfl) (by kernel_rfl) (fun _ _ _ h => h) (Or.inl ⟨by rfl, ?hy2_3a⟩) (by assumption) ?re2_3a
            case hy2_3a => ((intro w hSw; (try dsimp only at hSw); go_simp) <;> with_reducible rfl)
            (try simp only [Act.put, List.setIfInBounds_toArray, List.set_cons_zero, List.set_cons_succ])
            refine wpAnyH_take (i := 3) (oi := ({ dst := some 64, op := Op.call { callee := Callee.builtin Builtin.len, args := #[Operand.tmp 63], argTypes := #[26] }, type := 3, pos := "law.go:201", after := #[{ on := 2, ground := Ground.data }], guard := none } : Oper)) (v := ?v3_4a) rfl (by kernel_rfl) (by kernel_rfl) (by kernel_rfl) (fun _ _ _ h => h) (Or.inl ⟨by rfl, ?hy3_4a⟩) (by assumption) ?re3_4a
            case hy3_4a => ((intro w hSw; (try dsimp only at hSw); go_simp) <;> with_reducible rfl)
            (try simp only [Act.put, List.setIfInBounds_toArray, List.set_cons_zero, List.set_cons_succ])
            refine wpAnyH_take (i := 4) (oi := ({ dst := some 65, op := Op.binOp BinOp.neq 3 (Operand.tmp 62) (Operand.tmp 64) 3, type := 4, pos := "law.go:201", after := #[{ on := 1, ground := Ground.data }, { on := 3, ground := Ground.data }], guard := none } : Oper)) (v := ?v4_5a) rfl (by kernel_rfl) (by kernel_rfl) (by kernel_rfl) (fun _ _ _ h => h) (Or.inl ⟨by rfl, ?hy4_5a⟩) (by assumption) ?re4_5a
            case hy4_5a => ((intro w hSw; (try dsimp only at hSw); go_simp) <;> with_reducible rfl)
            (try simp only [Act.put, List.setIfInBounds_toArray, List.set_cons_zero, List.set_cons_succ])
            refine wpAnyH_take (i := 5) (oi := ({ dst := some 66, op := Op.move (Operand.tmp 65), type := 4, pos := "law.go:201", after := #[{ on := 4, ground := Ground.data }], guard := none } : Oper)) (v := ?v5_6a) rfl (by kernel_rfl) (by kernel_rfl) (by kernel_rfl) (fun _ _ _ h => h) (Or.inl ⟨by rfl, ?hy5_6a⟩) (by assumption) ?re5_6a
            case hy5_6a => ((intro w hSw; (try dsimp only at hSw); go_simp) <;> with_reducible rfl)
            (try simp only [Act.put, List.setIfInBounds_toArray, List.set_cons_zero, List.set_cons_succ])
            refine wpAnyH_take (i := 6) (oi := ({ dst := some 67, op := Op.move (Operand.tmp 11), type := 26, pos := "law.go:201", after := #[{ on := 5, ground := Ground.guard }], guard := some (5, true) } : Oper)) (v := ?v6_7a) rfl (by kernel_rfl) (by kernel_rfl) (by kernel_rfl) (fun _ _ _ h => h) (Or.inl ⟨by rfl, ?hy6_7a⟩) (by assumption) ?re6_7a
            case hy6_7a => ((intro w hSw; (try dsimp only at hSw); go_simp) <;> with_reducible rfl)
            (try simp only [Act.put, List.setIfInBounds_toArray, List.set_cons_zero, List.set_cons_succ])
            refine wpAnyH_take (i := 7) (oi := ({ dst := some 68, op := Op.move (Operand.tmp 6), type := 26, pos := "law.go:201", after := #[{ on := 5, ground := Ground.guard }], guard := some (5, true) } : Oper)) (v := ?v7_8a) rfl (by kernel_rfl) (by kernel_rfl) (by kernel_rfl) (fun _ _ _ h => h) (Or.inl ⟨by rfl, ?hy7_8a⟩) (by assumption) ?re7_8a
            case hy7_8a => ((intro w hSw; (try dsimp only at hSw); go_simp) <;> with_reducible rfl)
            (try simp only [Act.put, List.setIfInBounds_toArray, List.set_cons_zero, List.set_cons_succ])
            refine wpAnyH_take (i := 8) (oi := ({ dst := some 69, op := Op.call { callee := Callee.builtin Builtin.len, args := #[Operand.tmp 68], argTypes := #[26] }, type := 3, pos := "law.go:201", after := #[{ on := 7, ground := Ground.data }, { on := 5, ground := Ground.guard }], guard := some (5, true) } : Oper)) (v := ?v8_9a) rfl (by kernel_rfl) (by kernel_rfl) (by kernel_rfl) (fun _ _ _ h => h) (Or.inl ⟨by rfl, ?hy8_9a⟩) (by assumption) ?re8_9a
            case hy8_9a => ((intro w hSw; (try dsimp only at hSw); go_simp) <;> with_reducible rfl)
            (try simp only [Act.put, List.setIfInBounds_toArray, List.set_cons_zero, List.set_cons_succ])
            refine wpAnyH_take (i := 9) (oi := ({ dst := some 70, op := Op.move (Operand.tmp 8), type := 26, pos := "law.go:201", after := #[{ on := 5, ground := Ground.guard }], guard := some (5, true) } : Oper)) (v := ?v9_10a) rfl (by kernel_rfl) (by kernel_rfl) (by kernel_rfl) (fun _ _ _ h => h) (Or.inl ⟨by rfl, ?hy9_10a⟩) (by assumption) ?re9_10a
            case hy9_10a => ((intro w hSw; (try dsimp only at hSw); go_simp) <;> with_reducible rfl)
            (try simp only [Act.put, List.setIfInBounds_toArray, List.set_cons_zero, List.set_cons_succ])
            refine wpAnyH_take (i := 10) (oi := ({ dst := some 71, op := Op.call { callee := Callee.builtin Builtin.len, args := #[Operand.tmp 70], argTypes := #[26] }, type := 3, pos := "law.go:201", after := #[{ on := 9, ground := Ground.data }, { on := 5, ground := Ground.guard }], guard := some (5, true) } : Oper)) (v := ?v10_11a) rfl (by kernel_rfl) (by kernel_rfl) (by kernel_rfl) (fun _ _ _ h => h) (Or.inl ⟨by rfl, ?hy10_11a⟩) (by assumption) ?re10_11a
            case hy10_11a => ((intro w hSw; (try dsimp only at hSw); go_simp) <;> with_reducible rfl)
            (try simp only [Act.put, List.setIfInBounds_toArray, List.set_cons_zero, List.set_cons_succ])
            refine wpAnyH_take (i := 11) (oi := ({ dst := some 72, op := Op.call { callee := Callee.builtin Builtin.min, args := #[Operand.tmp 69, Operand.tmp 71], argTypes := #[3, 3] }, type := 3, pos := "law.go:201", after := #[{ on := 8, ground := Ground.data }, { on := 10, ground := Ground.data }, { on := 5, ground := Ground.guard }], guard := some (5, true) } : Oper)) (v := ?v11_12a) rfl (by kernel_rfl) (by kernel_rfl) (by kernel_rfl) (fun _ _ _ h => h) (Or.inl ⟨by rfl, ?hy11_12a⟩) (by assumption) ?re11_12a
            case hy11_12a => ((intro w hSw; (try dsimp only at hSw); go_simp) <;> with_reducible rfl)
            (try simp only [Act.put, List.setIfInBounds_toArray, List.set_cons_zero, List.set_cons_succ])
            refine wpAnyH_take (i := 12) (oi := ({ dst := some 73, op := Op.indexAddr 26 (Operand.tmp 67) (Operand.tmp 72), type := 0, pos := "law.go:201", after := #[{ on := 6, ground := Ground.data }, { on := 11, ground := Ground.data }, { on := 5, ground := Ground.guard }], guard := some (5, true) } : Oper)) (v := ?v12_13a) rfl (by kernel_rfl) (by kernel_rfl) (by kernel_rfl) (fun _ _ _ h => h) (Or.inl ⟨by rfl, ?hy12_13a⟩) (by assumption) ?re12_13a
            case hy12_13a => ((intro w hSw; (try dsimp only at hSw); go_simp) <;> with_reducible rfl)
            (try simp only [Act.put, List.setIfInBounds_toArray, List.set_cons_zero, List.set_cons_succ])
            refine wpAnyH_take (i := 13) (oi := ({ dst := some 74, op := Op.load 9 (Operand.tmp 73), type := 9, pos := "law.go:201", after := #[{ on := 12, ground := Ground.data }, { on := 5, ground := Ground.guard }], guard := some (5, true) } : Oper)) (v := ?v13_14a) rfl (by kernel_rfl) (by kernel_rfl) (by kernel_rfl) (fun _ _ _ h => h) (Or.inl ⟨by rfl, ?hy13_14a⟩) (by assumption) ?re13_14a
            case hy13_14a => ((intro w hSw; (try dsimp only at hSw); go_simp) <;> with_reducible rfl)
            (try simp only [Act.put, List.setIfInBounds_toArray, List.set_cons_zero, List.set_cons_succ])
            refine wpAnyH_ready (rs := [14, 15]) (by kernel_rfl) (by simp) ?_
            refine AllReadyH.cons (o := ({ dst := some 75, op := Op.call { callee := Callee.value (Operand.func 13), args := #[Operand.tmp 74], argTypes := #[9] }, type := 9, pos := "law.go:201", after := #[{ on := 13, ground := Ground.data }, { on := 5, ground := Ground.chain }, { on := 5, ground := Ground.guard }], guard := some (5, true) } : Oper)) rfl (fun K hK => ?_) ?_
            · go_simp
              (go_at_call 13; (with_reducible refine hA.mono ?_); rintro e w2 ⟨rfl, G2, hc2, hcv2⟩; clear hcv2)
              (try go_wp2_with fail)
              refine hK.out _ _ ?_ (fun hHeld => ?_)
              · (first | assumption | exact cell_kept (by assumption) (World.grownBy_alloc _ _ none) (fun r e => by cases e))
              clear hK K
              (try simp only [Act.put, List.setIfInBounds_toArray, List.set_cons_zero, List.set_cons_succ])
              refine wpAnyH_ready (rs := [15]) (by kernel_rfl) (by simp) ?_
              refine AllReadyH.cons (o := ({ dst := some 76, op := Op.makeSlice 43 (Operand.const (Value.int IntKind.i64 32)) (Operand.const (Value.int IntKind.i64 32)), type := 43, pos := "law.go:201", after := #[{ on := 5, ground := Ground.guard }], guard := some (5, true) } : Oper)) rfl (fun K hK => ?_) ?_
              · go_simp
                refine hK.out _ _ ?_ (fun hHeld => ?_)
                · (first | assumption | exact cell_kept (by assumption) (World.grownBy_alloc _ _ none) (fun r e => by cases e))
                clear hK K
                (try simp only [Act.put, List.setIfInBounds_toArray, List.set_cons_zero, List.set_cons_succ])
                refine wpAnyH_ready (rs := [16]) (by kernel_rfl) (by simp) ?_
                refine AllReadyH.cons (o := ({ dst := some 77, op := Op.convert 43 9 (Operand.tmp 76), type := 9, pos := "law.go:201", after := #[{ on := 15, ground := Ground.data }, { on := 5, ground := Ground.guard }], guard := some (5, true) } : Oper)) rfl (fun K hK => ?_) ?_
                · go_simp
                  refine hK.out _ _ ?_ (fun hHeld => ?_)
                  · (first | assumption | exact cell_kept (by assumption) (World.grownBy_alloc _ _ none) (fun r e => by cases e))
                  clear hK K
                  (try simp only [Act.put, List.setIfInBounds_toArray, List.set_cons_zero, List.set_cons_succ])
                  refine wpAnyH_take (i := 17) (oi := ({ dst := some 78, op := Op.binOp BinOp.eql 9 (Operand.tmp 75) (Operand.tmp 77) 9, type := 4, pos := "law.go:201", after := #[{ on := 14, ground := Ground.data }, { on := 16, ground := Ground.data }, { on := 5, ground := Ground.guard }], guard := some (5, true) } : Oper)) (v := ?v17_15a) rfl (by kernel_rfl) (by kernel_rfl) (by kernel_rfl) (fun _ _ _ h => h) (Or.inl ⟨by rfl, ?hy17_15a⟩) (by assumption) ?re17_15a
                  case hy17_15a => ((intro w hSw; (try dsimp only at hSw); go_simp) <;> with_reducible rfl)
                  (try simp only [Act.put, List.setIfInBounds_toArray, List.set_cons_zero, List.set_cons_succ])
                  refine wpAnyH_take (i := 18) (oi := ({ dst := some 79, op := Op.pick (Operand.tmp 66) (Operand.tmp 78) (Operand.const (Value.bool false)), type := 4, pos := "law.go:201", after := #[{ on := 5, ground := Ground.data }, { on := 17, ground := Ground.data }], guard := none } : Oper)) (v := ?v18_16a) rfl (by kernel_rfl) (by kernel_rfl) (by kernel_rfl) (fun _ _ _ h => h) (Or.inl ⟨by rfl, ?hy18_16a⟩) (by assumption) ?re18_16a
                  case hy18_16a => ((intro w hSw; (try dsimp only at hSw); go_simp) <;> with_reducible rfl)
                  (try simp only [Act.put, List.setIfInBounds_toArray, List.set_cons_zero, List.set_cons_succ])
                  refine wpAnyH_take (i := 19) (oi := ({ dst := some 12, op := Op.assign (Operand.tmp 79), type := 4, pos := "law.go:201", after := #[{ on := 18, ground := Ground.data }, { on := 14, ground := Ground.chain }, { on := 0, ground := Ground.phase }, { on := 1, ground := Ground.phase }, { on := 2, ground := Ground.phase }, { on := 3, ground := Ground.phase }, { on := 4, ground := Ground.phase }, { on := 5, ground := Ground.phase }, { on := 6, ground := Ground.phase }, { on := 7, ground := Ground.phase }, { on := 8, ground := Ground.phase }, { on := 9, ground := Ground.phase }, { on := 10, ground := Ground.phase }, { on := 11, ground := Ground.phase }, { on := 12, ground := Ground.phase }, { on := 13, ground := Ground.phase }, { on := 14, ground := Ground.phase }, { on := 15, ground := Ground.phase }, { on := 16, ground := Ground.phase }, { on := 17, ground := Ground.phase }, { on := 18, ground := Ground.phase }], guard := none } : Oper)) (v := ?v19_17a) rfl (by kernel_rfl) (by kernel_rfl) (by kernel_rfl) (fun _ _ _ h => h) (Or.inl ⟨by rfl, ?hy19_17a⟩) (by assumption) ?re19_17a
                  case hy19_17a => ((intro w hSw; (try dsimp only at hSw); go_simp) <;> with_reducible rfl)
                  (try simp only [Act.put, List.setIfInBounds_toArray, List.set_cons_zero, List.set_cons_succ])
                  refine wpAnyH_done (by kernel_rfl) ?_ _
                  refine NoPanic.normal ?_
                  have G3 := G2.step ((Below.refl _ _).alloc (Nat.le_refl _) Z32)
                  go_wp2_with (first | (go_at_call 35; (with_reducible refine (cC _ _ _ _ G2).mono ?_); rintro e w4 ⟨rfl, G⟩) | (go_at_call 35; (with_reducible refine (cC _ _ _ _ G3).mono ?_); rintro e w4 ⟨rfl, G⟩))
                  go_ret
                  exact ⟨rfl, G.below⟩
                exact AllReadyH.nil
              exact AllReadyH.nil
            refine AllReadyH.cons (o := ({ dst := some 76, op := Op.makeSlice 43 (Operand.const (Value.int IntKind.i64 32)) (Operand.const (Value.int IntKind.i64 32)), type := 43, pos := "law.go:201", after := #[{ on := 5, ground := Ground.guard }], guard := some (5, true) } : Oper)) rfl (fun K hK => ?_) ?_
            · go_simp
              refine hK.out _ _ ?_ (fun hHeld => ?_)
              · (first | assumption | exact cell_kept (by assumption) (World.grownBy_alloc _ _ none) (fun r e => by cases e))
              clear hK K
              (try simp only [Act.put, List.setIfInBounds_toArray, List.set_cons_zero, List.set_cons_succ])
              refine wpAnyH_ready (rs := [14, 16]) (by kernel_rfl) (by simp) ?_
              refine AllReadyH.cons (o := ({ dst := some 75, op := Op.call { callee := Callee.value (Operand.func 13), args := #[Operand.tmp 74], argTypes := #[9] }, type := 9, pos := "law.go:201", after := #[{ on := 13, ground := Ground.data }, { on := 5, ground := Ground.chain }, { on := 5, ground := Ground.guard }], guard := some (5, true) } : Oper)) rfl (fun K hK => ?_) ?_
              · go_simp
                (go_at_call 13; (with_reducible refine hB.mono ?_); rintro e w2 ⟨rfl, G2, hc2, hcv2⟩)
                (try go_wp2_with fail)
                refine hK.out _ _ ?_ (fun hHeld => ?_)
                · (first | assumption | exact cell_kept (by assumption) (World.grownBy_alloc _ _ none) (fun r e => by cases e))
                clear hK K
                (try simp only [Act.put, List.setIfInBounds_toArray, List.set_cons_zero, List.set_cons_succ])
                refine wpAnyH_ready (rs := [16]) (by kernel_rfl) (by simp) ?_
                refine AllReadyH.cons (o := ({ dst := some 77, op := Op.convert 43 9 (Operand.tmp 76), type := 9, pos := "law.go:201", after := #[{ on := 15, ground := Ground.data }, { on := 5, ground := Ground.guard }], guard := some (5, true) } : Oper)) rfl (fun K hK => ?_) ?_
                · go_simp
                  refine hK.out _ _ ?_ (fun hHeld => ?_)
                  · (first | assumption | exact cell_kept (by assumption) (World.grownBy_alloc _ _ none) (fun r e => by cases e))
                  clear hK K
                  (try simp only [Act.put, List.setIfInBounds_toArray, List.set_cons_zero, List.set_cons_succ])
                  refine wpAnyH_take (i := 17) (oi := ({ dst := some 78, op := Op.binOp BinOp.eql 9 (Operand.tmp 75) (Operand.tmp 77) 9, type := 4, pos := "law.go:201", after := #[{ on := 14, ground := Ground.data }, { on := 16, ground := Ground.data }, { on := 5, ground := Ground.guard }], guard := some (5, true) } : Oper)) (v := ?v17_18a) rfl (by kernel_rfl) (by kernel_rfl) (by kernel_rfl) (fun _ _ _ h => h) (Or.inl ⟨by rfl, ?hy17_18a⟩) (by assumption) ?re17_18a
                  case hy17_18a => ((intro w hSw; (try dsimp only at hSw); go_simp) <;> with_reducible rfl)
                  (try simp only [Act.put, List.setIfInBounds_toArray, List.set_cons_zero, List.set_cons_succ])
                  refine wpAnyH_take (i := 18) (oi := ({ dst := some 79, op := Op.pick (Operand.tmp 66) (Operand.tmp 78) (Operand.const (Value.bool false)), type := 4, pos := "law.go:201", after := #[{ on := 5, ground := Ground.data }, { on := 17, ground := Ground.data }], guard := none } : Oper)) (v := ?v18_19a) rfl (by kernel_rfl) (by kernel_rfl) (by kernel_rfl) (fun _ _ _ h => h) (Or.inl ⟨by rfl, ?hy18_19a⟩) (by assumption) ?re18_19a
                  case hy18_19a => ((intro w hSw; (try dsimp only at hSw); go_simp) <;> with_reducible rfl)
                  (try simp only [Act.put, List.setIfInBounds_toArray, List.set_cons_zero, List.set_cons_succ])
                  refine wpAnyH_take (i := 19) (oi := ({ dst := some 12, op := Op.assign (Operand.tmp 79), type := 4, pos := "law.go:201", after := #[{ on := 18, ground := Ground.data }, { on := 14, ground := Ground.chain }, { on := 0, ground := Ground.phase }, { on := 1, ground := Ground.phase }, { on := 2, ground := Ground.phase }, { on := 3, ground := Ground.phase }, { on := 4, ground := Ground.phase }, { on := 5, ground := Ground.phase }, { on := 6, ground := Ground.phase }, { on := 7, ground := Ground.phase }, { on := 8, ground := Ground.phase }, { on := 9, ground := Ground.phase }, { on := 10, ground := Ground.phase }, { on := 11, ground := Ground.phase }, { on := 12, ground := Ground.phase }, { on := 13, ground := Ground.phase }, { on := 14, ground := Ground.phase }, { on := 15, ground := Ground.phase }, { on := 16, ground := Ground.phase }, { on := 17, ground := Ground.phase }, { on := 18, ground := Ground.phase }], guard := none } : Oper)) (v := ?v19_20a) rfl (by kernel_rfl) (by kernel_rfl) (by kernel_rfl) (fun _ _ _ h => h) (Or.inl ⟨by rfl, ?hy19_20a⟩) (by assumption) ?re19_20a
                  case hy19_20a => ((intro w hSw; (try dsimp only at hSw); go_simp) <;> with_reducible rfl)
                  (try simp only [Act.put, List.setIfInBounds_toArray, List.set_cons_zero, List.set_cons_succ])
                  refine wpAnyH_done (by kernel_rfl) ?_ _
                  refine NoPanic.normal ?_
                  have G3 := G2.step ((Below.refl _ _).alloc (Nat.le_refl _) Z32)
                  go_wp2_with (first | (go_at_call 35; (with_reducible refine (cC _ _ _ _ G2).mono ?_); rintro e w4 ⟨rfl, G⟩) | (go_at_call 35; (with_reducible refine (cC _ _ _ _ G3).mono ?_); rintro e w4 ⟨rfl, G⟩))
                  go_ret
                  exact ⟨rfl, G.below⟩
                exact AllReadyH.nil
              refine AllReadyH.cons (o := ({ dst := some 77, op := Op.convert 43 9 (Operand.tmp 76), type := 9, pos := "law.go:201", after := #[{ on := 15, ground := Ground.data }, { on := 5, ground := Ground.guard }], guard := some (5, true) } : Oper)) rfl (fun K hK => ?_) ?_
              · go_simp
                refine hK.out _ _ ?_ (fun hHeld => ?_)
                · (first | assumption | exact cell_kept (by assumption) (World.grownBy_alloc _ _ none) (fun r e => by cases e))
                clear hK K
                (try simp only [Act.put, List.setIfInBounds_toArray, List.set_cons_zero, List.set_cons_succ])
                refine wpAnyH_ready (rs := [14]) (by kernel_rfl) (by simp) ?_
                refine AllReadyH.cons (o := ({ dst := some 75, op := Op.call { callee := Callee.value (Operand.func 13), args := #[Operand.tmp 74], argTypes := #[9] }, type := 9, pos := "law.go:201", after := #[{ on := 13, ground := Ground.data }, { on := 5, ground := Ground.chain }, { on := 5, ground := Ground.guard }], guard := some (5, true) } : Oper)) rfl (fun K hK => ?_) ?_
                · go_simp
                  (go_at_call 13; (with_reducible refine hB.mono ?_); rintro e w2 ⟨rfl, G2, hc2, hcv2⟩)
                  (try go_wp2_with fail)
                  refine hK.out _ _ ?_ (fun hHeld => ?_)
                  · (first | assumption | exact cell_kept (by assumption) (World.grownBy_alloc _ _ none) (fun r e => by cases e))
                  clear hK K
                  (try simp only [Act.put, List.setIfInBounds_toArray, List.set_cons_zero, List.set_cons_succ])
                  refine wpAnyH_take (i := 17) (oi := ({ dst := some 78, op := Op.binOp BinOp.eql 9 (Operand.tmp 75) (Operand.tmp 77) 9, type := 4, pos := "law.go:201", after := #[{ on := 14, ground := Ground.data }, { on := 16, ground := Ground.data }, { on := 5, ground := Ground.guard }], guard := some (5, true) } : Oper)) (v := ?v17_21a) rfl (by kernel_rfl) (by kernel_rfl) (by kernel_rfl) (fun _ _ _ h => h) (Or.inl ⟨by rfl, ?hy17_21a⟩) (by assumption) ?re17_21a
                  case hy17_21a => ((intro w hSw; (try dsimp only at hSw); go_simp) <;> with_reducible rfl)
                  (try simp only [Act.put, List.setIfInBounds_toArray, List.set_cons_zero, List.set_cons_succ])
                  refine wpAnyH_take (i := 18) (oi := ({ dst := some 79, op := Op.pick (Operand.tmp 66) (Operand.tmp 78) (Operand.const (Value.bool false)), type := 4, pos := "law.go:201", after := #[{ on := 5, ground := Ground.data }, { on := 17, ground := Ground.data }], guard := none } : Oper)) (v := ?v18_22a) rfl (by kernel_rfl) (by kernel_rfl) (by kernel_rfl) (fun _ _ _ h => h) (Or.inl ⟨by rfl, ?hy18_22a⟩) (by assumption) ?re18_22a
                  case hy18_22a => ((intro w hSw; (try dsimp only at hSw); go_simp) <;> with_reducible rfl)
                  (try simp only [Act.put, List.setIfInBounds_toArray, List.set_cons_zero, List.set_cons_succ])
                  refine wpAnyH_take (i := 19) (oi := ({ dst := some 12, op := Op.assign (Operand.tmp 79), type := 4, pos := "law.go:201", after := #[{ on := 18, ground := Ground.data }, { on := 14, ground := Ground.chain }, { on := 0, ground := Ground.phase }, { on := 1, ground := Ground.phase }, { on := 2, ground := Ground.phase }, { on := 3, ground := Ground.phase }, { on := 4, ground := Ground.phase }, { on := 5, ground := Ground.phase }, { on := 6, ground := Ground.phase }, { on := 7, ground := Ground.phase }, { on := 8, ground := Ground.phase }, { on := 9, ground := Ground.phase }, { on := 10, ground := Ground.phase }, { on := 11, ground := Ground.phase }, { on := 12, ground := Ground.phase }, { on := 13, ground := Ground.phase }, { on := 14, ground := Ground.phase }, { on := 15, ground := Ground.phase }, { on := 16, ground := Ground.phase }, { on := 17, ground := Ground.phase }, { on := 18, ground := Ground.phase }], guard := none } : Oper)) (v := ?v19_23a) rfl (by kernel_rfl) (by kernel_rfl) (by kernel_rfl) (fun _ _ _ h => h) (Or.inl ⟨by rfl, ?hy19_23a⟩) (by assumption) ?re19_23a
                  case hy19_23a => ((intro w hSw; (try dsimp only at hSw); go_simp) <;> with_reducible rfl)
                  (try simp only [Act.put, List.setIfInBounds_toArray, List.set_cons_zero, List.set_cons_succ])
                  refine wpAnyH_done (by kernel_rfl) ?_ _
                  refine NoPanic.normal ?_
                  have G3 := G2.step ((Below.refl _ _).alloc (Nat.le_refl _) Z32)
                  go_wp2_with (first | (go_at_call 35; (with_reducible refine (cC _ _ _ _ G2).mono ?_); rintro e w4 ⟨rfl, G⟩) | (go_at_call 35; (with_reducible refine (cC _ _ _ _ G3).mono ?_); rintro e w4 ⟨rfl, G⟩))
                  go_ret
                  exact ⟨rfl, G.below⟩
                exact AllReadyH.nil
              exact AllReadyH.nil
            exact AllReadyH.nil
          · clear hz0
            go_enter Tryd.func9, Tryd.ntmps9
            go_wp2_with (first | (go_at_call 12; (with_reducible refine (cS _ G).mono ?_); rintro e w1 ⟨rfl, G⟩) | (go_at_call 21; (with_reducible refine (cP _ G).mono ?_); rintro e w1 ⟨u, rfl, G⟩) | (go_at_call 21; (with_reducible refine (cQ _ _ G).mono ?_); rintro e w1 ⟨u2, rfl, G⟩) | (go_at_call 36; (with_reducible refine (cH1 _ _ _ G).mono ?_); rintro e w1 ⟨x1, xc1, rfl, G⟩) | (go_at_call 36; (with_reducible refine (cH2 _ _ _ _ G).mono ?_); rintro e w1 ⟨x2, xc2, rfl, G⟩) | (go_at_call 26; (with_reducible refine (cE _ _ _ _ _ G).mono ?_); rintro e w1 ⟨rfl, G⟩; refine Hid.out ?_))
            refine Lib.hid ?_
            obtain ⟨b0, o0, rfl, hc0, hb0, hcell⟩ := hcellX _ _ _ G.sl1
            have qm := QM.out
            go_wp2
            have hA := cSm w1.drew b0 (o0 + n) _ G.drew hb0 hcell
            have GB : Env w (w1.alloc Z32).drew [(.slice (some ⟨b0, o0, none⟩) m xc2, XB), (.slice x1 n xc1, XA), (u2, B), (u, A)] := (G.step ((Below.refl _ _).alloc (Nat.le_refl _) Z32)).drew
            have hcB0 : (w1.alloc Z32).cell? ⟨b0, o0 + n, none⟩ = some (.string X) := cell_kept hcell (World.grownBy_alloc _ _ none) (fun r e => by cases e)
            have hcB : (w1.alloc Z32).drew.cell? ⟨b0, o0 + n, none⟩ = some (.string X) := hcB0
            clear hcB0
            have hcA : w1.drew.cell? ⟨b0, o0 + n, none⟩ = some (.string X) := hcell
            have hB := (cSm (w1.alloc Z32).drew b0 (o0 + n) _ GB (by show b0 < (w1.alloc Z32).heap.size; rw [World.size_alloc]; exact Nat.lt_succ_of_lt hb0) hcB).mono fun e w' ⟨x1, x2, x3, x4⟩ => (⟨x1, x2, x3, x4 w1.heap.size (by show w1.heap.size < (w1.alloc Z32).heap.size; rw [World.size_alloc]; exact Nat.lt_succ_self _) (World.alloc_heap_new w1 Z32)⟩ : _ ∧ _ ∧ _ ∧ _)
            have cvd := cv32' (w1.alloc Z32).drew w1.heap.size (World.alloc_heap_new w1 Z32)
            clear cSm G hb0 GB
            refine wp_region_noPanic ?_
            refine wp_region_held_drew (S := fun W => W.cell? ⟨b0, o0 + n, none⟩ = some (.string X)) (by kernel_rfl) ?_ (fun hHeld => ?_)
            · exact hcA
            refine wpAnyH_take (i := 0) (oi := ({ dst := some 61, op := Op.move (Operand.tmp 6), type := 26, pos := "law.go:201", after := #[], guard := none } : Oper)) (v := ?v0_1b) rfl (by kernel_rfl) (by kernel_rfl) (by kernel_rfl) (fun _ _ _ h => h) (Or.inl ⟨by rfl, ?hy0_1b⟩) (by assumption) ?re0_1b
            case hy0_1b => ((intro w hSw; (try dsimp only at hSw); go_simp) <;> with_reducible rfl)
            (try simp only [Act.put, List.setIfInBounds_toArray, List.set_cons_zero, List.set_cons_succ])
            refine wpAnyH_take (i := 1) (oi := ({ dst := some 62, op := Op.call { callee := Callee.builtin Builtin.len, args := #[Operand.tmp 61], argTypes := #[26] }, type := 3, pos := "law.go:201", after := #[{ on := 0, ground := Ground.data }], guard := none } : Oper)) (v := ?v1_2b) rfl (by kernel_rfl) (by kernel_rfl) (by kernel_rfl) (fun _ _ _ h => h) (Or.inl ⟨by rfl, ?hy1_2b⟩) (by assumption) ?re1_2b
            case hy1_2b => ((intro w hSw; (try dsimp only at hSw); go_simp) <;> with_reducible rfl)
            (try simp only [Act.put, List.setIfInBounds_toArray, List.set_cons_zero, List.set_cons_succ])
            refine wpAnyH_take (i := 2) (oi := ({ dst := some 63, op := Op.move (Operand.tmp 8), type := 26, pos := "law.go:201", after := #[], guard := none } : Oper)) (v := ?v2_3b) rfl (by kernel_rfl) (by kernel_rfl) (by kernel_rfl) (fun _ _ _ h => h) (Or.inl ⟨by rfl, ?hy2_3b⟩) (by assumption) ?re2_3b
            case hy2_3b => ((intro w hSw; (try dsimp only at hSw); go_simp) <;> with_reducible rfl)
            (try simp only [Act.put, List.setIfInBounds_toArray, List.set_cons_zero, List.set_cons_succ])
            refine wpAnyH_take (i := 3) (oi := ({ dst := some 64, op := Op.call { callee := Callee.builtin Builtin.len, args := #[Operand.tmp 63], argTypes := #[26] }, type := 3, pos := "law.go:201", after := #[{ on := 2, ground := Ground.data }], guard := none } : Oper)) (v := ?v3_4b) rfl (by kernel_rfl) (by kernel_rfl) (by kernel_rfl) (fun _ _ _ h => h) (Or.inl ⟨by rfl, ?hy3_4b⟩) (by assumption) ?re3_4b
            case hy3_4b => ((intro w hSw; (try dsimp only at hSw); go_simp) <;> with_reducible rfl)
            (try simp only [Act.put, List.setIfInBounds_toArray, List.set_cons_zero, List.set_cons_succ])
            refine wpAnyH_take (i := 4) (oi := ({ dst := some 65, op := Op.binOp BinOp.neq 3 (Operand.tmp 62) (Operand.tmp 64) 3, type := 4, pos := "law.go:201", after := #[{ on := 1, ground := Ground.data }, { on := 3, ground := Ground.data }], guard := none } : Oper)) (v := ?v4_5b) rfl (by kernel_rfl) (by kernel_rfl) (by kernel_rfl) (fun _ _ _ h => h) (Or.inl ⟨by rfl, ?hy4_5b⟩) (by assumption) ?re4_5b
            case hy4_5b => ((intro w hSw; (try dsimp only at hSw); go_simp) <;> with_reducible rfl)
            (try simp only [Act.put, List.setIfInBounds_toArray, List.set_cons_zero, List.set_cons_succ])
            refine wpAnyH_take (i := 5) (oi := ({ dst := some 66, op := Op.move (Operand.tmp 65), type := 4, pos := "law.go:201", after := #[{ on := 4, ground := Ground.data }], guard := none } : Oper)) (v := ?v5_6b) rfl (by kernel_rfl) (by kernel_rfl) (by kernel_rfl) (fun _ _ _ h => h) (Or.inl ⟨by rfl, ?hy5_6b⟩) (by assumption) ?re5_6b
            case hy5_6b => ((intro w hSw; (try dsimp only at hSw); go_simp) <;> with_reducible rfl)
            (try simp only [Act.put, List.setIfInBounds_toArray, List.set_cons_zero, List.set_cons_succ])
            refine wpAnyH_take (i := 6) (oi := ({ dst := some 67, op := Op.move (Operand.tmp 11), type := 26, pos := "law.go:201", after := #[{ on := 5, ground := Ground.guard }], guard := some (5, true) } : Oper)) (v := ?v6_7b) rfl (by kernel_rfl) (by kernel_rfl) (by kernel_rfl) (fun _ _ _ h => h) (Or.inl ⟨by rfl, ?hy6_7b⟩) (by assumption) ?re6_7b
            case hy6_7b => ((intro w hSw; (try dsimp only at hSw); go_simp) <;> with_reducible rfl)
            (try simp only [Act.put, List.setIfInBounds_toArray, List.set_cons_zero, List.set_cons_succ])
            refine wpAnyH_take (i := 7) (oi := ({ dst := some 68, op := Op.move (Operand.tmp 6), type := 26, pos := "law.go:201", after := #[{ on := 5, ground := Ground.guard }], guard := some (5, true) } : Oper)) (v := ?v7_8b) rfl (by kernel_rfl) (by kernel_rfl) (by kernel_rfl) (fun _ _ _ h => h) (Or.inl ⟨by rfl, ?hy7_8b⟩) (by assumption) ?re7_8b
            case hy7_8b => ((intro w hSw; (try dsimp only at hSw); go_simp) <;> with_reducible rfl)
            (try simp only [Act.put, List.setIfInBounds_toArray, List.set_cons_zero, List.set_cons_succ])
            refine wpAnyH_take (i := 8) (oi := ({ dst := some 69, op := Op.call { callee := Callee.builtin Builtin.len, args := #[Operand.tmp 68], argTypes := #[26] }, type := 3, pos := "law.go:201", after := #[{ on := 7, ground := Ground.data }, { on := 5, ground := Ground.guard }], guard := some (5, true) } : Oper)) (v := ?v8_9b) rfl (by kernel_rfl) (by kernel_rfl) (by kernel_rfl) (fun _ _ _ h => h) (Or.inl ⟨by rfl, ?hy8_9b⟩) (by assumption) ?re8_9b
            case hy8_9b => ((intro w hSw; (try dsimp only at hSw); go_simp) <;> with_reducible rfl)
            (try simp only [Act.put, List.setIfInBounds_toArray, List.set_cons_zero, List.set_cons_succ])
            refine wpAnyH_take (i := 9) (oi := ({ dst := some 70, op := Op.move (Operand.tmp 8), type := 26, pos := "law.go:201", after := #[{ on := 5, ground := Ground.guard }], guard := some (5, true) } : Oper)) (v := ?v9_10b) rfl (by kernel_rfl) (by kernel_rfl) (by kernel_rfl) (fun _ _ _ h => h) (Or.inl ⟨by rfl, ?hy9_10b⟩) (by assumption) ?re9_10b
            case hy9_10b => ((intro w hSw; (try dsimp only at hSw); go_simp) <;> with_reducible rfl)
            (try simp only [Act.put, List.setIfInBounds_toArray, List.set_cons_zero, List.set_cons_succ])
            refine wpAnyH_take (i := 10) (oi := ({ dst := some 71, op := Op.call { callee := Callee.builtin Builtin.len, args := #[Operand.tmp 70], argTypes := #[26] }, type := 3, pos := "law.go:201", after := #[{ on := 9, ground := Ground.data }, { on := 5, ground := Ground.guard }], guard := some (5, true) } : Oper)) (v := ?v10_11b) rfl (by kernel_rfl) (by kernel_rfl) (by kernel_rfl) (fun _ _ _ h => h) (Or.inl ⟨by rfl, ?hy10_11b⟩) (by assumption) ?re10_11b
            case hy10_11b => ((intro w hSw; (try dsimp only at hSw); go_simp) <;> with_reducible rfl)
            (try simp only [Act.put, List.setIfInBounds_toArray, List.set_cons_zero, List.set_cons_succ])
            refine wpAnyH_take (i := 11) (oi := ({ dst := some 72, op := Op.call { callee := Callee.builtin Builtin.min, args := #[Operand.tmp 69, Operand.tmp 71], argTypes := #[3, 3] }, type := 3, pos := "law.go:201", after := #[{ on := 8, ground := Ground.data }, { on := 10, ground := Ground.data }, { on := 5, ground := Ground.guard }], guard := some (5, true) } : Oper)) (v := ?v11_12b) rfl (by kernel_rfl) (by kernel_rfl) (by kernel_rfl) (fun _ _ _ h => h) (Or.inl ⟨by rfl, ?hy11_12b⟩) (by assumption) ?re11_12b
            case hy11_12b => ((intro w hSw; (try dsimp only at hSw); go_simp) <;> with_reducible rfl)
            (try simp only [Act.put, List.setIfInBounds_toArray, List.set_cons_zero, List.set_cons_succ])
            refine wpAnyH_take (i := 12) (oi := ({ dst := some 73, op := Op.indexAddr 26 (Operand.tmp 67) (Operand.tmp 72), type := 0, pos := "law.go:201", after := #[{ on := 6, ground := Ground.data }, { on := 11, ground := Ground.data }, { on := 5, ground := Ground.guard }], guard := some (5, true) } : Oper)) (v := ?v12_13b) rfl (by kernel_rfl) (by kernel_rfl) (by kernel_rfl) (fun _ _ _ h => h) (Or.inl ⟨by rfl, ?hy12_13b⟩) (by assumption) ?re12_13b
            case hy12_13b => ((intro w hSw; (try dsimp only at hSw); go_simp) <;> with_reducible rfl)
            (try simp only [Act.put, List.setIfInBounds_toArray, List.set_cons_zero, List.set_cons_succ])
            refine wpAnyH_take (i := 13) (oi := ({ dst := some 74, op := Op.load 9 (Operand.tmp 73), type := 9, pos := "law.go:201", after := #[{ on := 12, ground := Ground.data }, { on := 5, ground := Ground.guard }], guard := some (5, true) } : Oper)) (v := ?v13_14b) rfl (by kernel_rfl) (by kernel_rfl) (by kernel_rfl) (fun _ _ _ h => h) (Or.inl ⟨by rfl, ?hy13_14b⟩) (by assumption) ?re13_14b
            case hy13_14b => ((intro w hSw; (try dsimp only at hSw); go_simp) <;> with_reducible rfl)
            (try simp only [Act.put, List.setIfInBounds_toArray, List.set_cons_zero, List.set_cons_succ])
            refine wpAnyH_ready (rs := [14, 15]) (by kernel_rfl) (by simp) ?_
            refine AllReadyH.cons (o := ({ dst := some 75, op := Op.call { callee := Callee.value (Operand.func 13), args := #[Operand.tmp 74], argTypes := #[9] }, type := 9, pos := "law.go:201", after := #[{ on := 13, ground := Ground.data }, { on := 5, ground := Ground.chain }, { on := 5, ground := Ground.guard }], guard := some (5, true) } : Oper)) rfl (fun K hK => ?_) ?_
            · go_simp
              (go_at_call 13; (with_reducible refine hA.mono ?_); rintro e w2 ⟨rfl, G2, hc2, hcv2⟩; clear hcv2)
              (try go_wp2_with fail)
              refine hK.out _ _ ?_ (fun hHeld => ?_)
              · (first | assumption | exact cell_kept (by assumption) (World.grownBy_alloc _ _ none) (fun r e => by cases e))
              clear hK K
              (try simp only [Act.put, List.setIfInBounds_toArray, List.set_cons_zero, List.set_cons_succ])
              refine wpAnyH_ready (rs := [15]) (by kernel_rfl) (by simp) ?_
              refine AllReadyH.cons (o := ({ dst := some 76, op := Op.makeSlice 43 (Operand.const (Value.int IntKind.i64 32)) (Operand.const (Value.int IntKind.i64 32)), type := 43, pos := "law.go:201", after := #[{ on := 5, ground := Ground.guard }], guard := some (5, true) } : Oper)) rfl (fun K hK => ?_) ?_
              · go_simp
                refine hK.out _ _ ?_ (fun hHeld => ?_)
                · (first | assumption | exact cell_kept (by assumption) (World.grownBy_alloc _ _ none) (fun r e => by cases e))
                clear hK K
                (try simp only [Act.put, List.setIfInBounds_toArray, List.set_cons_zero, List.set_cons_succ])
                refine wpAnyH_ready (rs := [16]) (by kernel_rfl) (by simp) ?_
                refine AllReadyH.cons (o := ({ dst := some 77, op := Op.convert 43 9 (Operand.tmp 76), type := 9, pos := "law.go:201", after := #[{ on := 15, ground := Ground.data }, { on := 5, ground := Ground.guard }], guard := some (5, true) } : Oper)) rfl (fun K hK => ?_) ?_
                · go_simp
                  refine hK.out _ _ ?_ (fun hHeld => ?_)
                  · (first | assumption | exact cell_kept (by assumption) (World.grownBy_alloc _ _ none) (fun r e => by cases e))
                  clear hK K
                  (try simp only [Act.put, List.setIfInBounds_toArray, List.set_cons_zero, List.set_cons_succ])
                  refine wpAnyH_take (i := 17) (oi := ({ dst := some 78, op := Op.binOp BinOp.eql 9 (Operand.tmp 75) (Operand.tmp 77) 9, type := 4, pos := "law.go:201", after := #[{ on := 14, ground := Ground.data }, { on := 16, ground := Ground.data }, { on := 5, ground := Ground.guard }], guard := some (5, true) } : Oper)) (v := ?v17_15b) rfl (by kernel_rfl) (by kernel_rfl) (by kernel_rfl) (fun _ _ _ h => h) (Or.inl ⟨by rfl, ?hy17_15b⟩) (by assumption) ?re17_15b
                  case hy17_15b => ((intro w hSw; (try dsimp only at hSw); go_simp) <;> with_reducible rfl)
                  (try simp only [Act.put, List.setIfInBounds_toArray, List.set_cons_zero, List.set_cons_succ])
                  refine wpAnyH_take (i := 18) (oi := ({ dst := some 79, op := Op.pick (Operand.tmp 66) (Operand.tmp 78) (Operand.const (Value.bool false)), type := 4, pos := "law.go:201", after := #[{ on := 5, ground := Ground.data }, { on := 17, ground := Ground.data }], guard := none } : Oper)) (v := ?v18_16b) rfl (by kernel_rfl) (by kernel_rfl) (by kernel_rfl) (fun _ _ _ h => h) (Or.inl ⟨by rfl, ?hy18_16b⟩) (by assumption) ?re18_16b
                  case hy18_16b => ((intro w hSw; (try dsimp only at hSw); go_simp) <;> with_reducible rfl)
                  (try simp only [Act.put, List.setIfInBounds_toArray, List.set_cons_zero, List.set_cons_succ])
                  refine wpAnyH_take (i := 19) (oi := ({ dst := some 12, op := Op.assign (Operand.tmp 79), type := 4, pos := "law.go:201", after := #[{ on := 18, ground := Ground.data }, { on := 14, ground := Ground.chain }, { on := 0, ground := Ground.phase }, { on := 1, ground := Ground.phase }, { on := 2, ground := Ground.phase }, { on := 3, ground := Ground.phase }, { on := 4, ground := Ground.phase }, { on := 5, ground := Ground.phase }, { on := 6, ground := Ground.phase }, { on := 7, ground := Ground.phase }, { on := 8, ground := Ground.phase }, { on := 9, ground := Ground.phase }, { on := 10, ground := Ground.phase }, { on := 11, ground := Ground.phase }, { on := 12, ground := Ground.phase }, { on := 13, ground := Ground.phase }, { on := 14, ground := Ground.phase }, { on := 15, ground := Ground.phase }, { on := 16, ground := Ground.phase }, { on := 17, ground := Ground.phase }, { on := 18, ground := Ground.phase }], guard := none } : Oper)) (v := ?v19_17b) rfl (by kernel_rfl) (by kernel_rfl) (by kernel_rfl) (fun _ _ _ h => h) (Or.inl ⟨by rfl, ?hy19_17b⟩) (by assumption) ?re19_17b
                  case hy19_17b => ((intro w hSw; (try dsimp only at hSw); go_simp) <;> with_reducible rfl)
                  (try simp only [Act.put, List.setIfInBounds_toArray, List.set_cons_zero, List.set_cons_succ])
                  refine wpAnyH_done (by kernel_rfl) ?_ _
                  refine NoPanic.normal ?_
                  have G3 := G2.step ((Below.refl _ _).alloc (Nat.le_refl _) Z32)
                  go_wp2_with (first | (go_at_call 35; (with_reducible refine (cC _ _ _ _ G2).mono ?_); rintro e w4 ⟨rfl, G⟩) | (go_at_call 35; (with_reducible refine (cC _ _ _ _ G3).mono ?_); rintro e w4 ⟨rfl, G⟩))
                  go_ret
                  exact ⟨rfl, G.below⟩
                exact AllReadyH.nil
              exact AllReadyH.nil
            refine AllReadyH.cons (o := ({ dst := some 76, op := Op.makeSlice 43 (Operand.const (Value.int IntKind.i64 32)) (Operand.const (Value.int IntKind.i64 32)), type := 43, pos := "law.go:201", after := #[{ on := 5, ground := Ground.guard }], guard := some (5, true) } : Oper)) rfl (fun K hK => ?_) ?_
            · go_simp
              refine hK.out _ _ ?_ (fun hHeld => ?_)
              · (first | assumption | exact cell_kept (by assumption) (World.grownBy_alloc _ _ none) (fun r e => by cases e))
              clear hK K
              (try simp only [Act.put, List.setIfInBounds_toArray, List.set_cons_zero, List.set_cons_succ])
              refine wpAnyH_ready (rs := [14, 16]) (by kernel_rfl) (by simp) ?_
              refine AllReadyH.cons (o := ({ dst := some 75, op := Op.call { callee := Callee.value (Operand.func 13), args := #[Operand.tmp 74], argTypes := #[9] }, type := 9, pos := "law.go:201", after := #[{ on := 13, ground := Ground.data }, { on := 5, ground := Ground.chain }, { on := 5, ground := Ground.guard }], guard := some (5, true) } : Oper)) rfl (fun K hK => ?_) ?_
              · go_simp
                (go_at_call 13; (with_reducible refine hB.mono ?_); rintro e w2 ⟨rfl, G2, hc2, hcv2⟩)
                (try go_wp2_with fail)
                refine hK.out _ _ ?_ (fun hHeld => ?_)
                · (first | assumption | exact cell_kept (by assumption) (World.grownBy_alloc _ _ none) (fun r e => by cases e))
                clear hK K
                (try simp only [Act.put, List.setIfInBounds_toArray, List.set_cons_zero, List.set_cons_succ])
                refine wpAnyH_ready (rs := [16]) (by kernel_rfl) (by simp) ?_
                refine AllReadyH.cons (o := ({ dst := some 77, op := Op.convert 43 9 (Operand.tmp 76), type := 9, pos := "law.go:201", after := #[{ on := 15, ground := Ground.data }, { on := 5, ground := Ground.guard }], guard := some (5, true) } : Oper)) rfl (fun K hK => ?_) ?_
                · go_simp
                  refine hK.out _ _ ?_ (fun hHeld => ?_)
                  · (first | assumption | exact cell_kept (by assumption) (World.grownBy_alloc _ _ none) (fun r e => by cases e))
                  clear hK K
                  (try simp only [Act.put, List.setIfInBounds_toArray, List.set_cons_zero, List.set_cons_succ])
                  refine wpAnyH_take (i := 17) (oi := ({ dst := some 78, op := Op.binOp BinOp.eql 9 (Operand.tmp 75) (Operand.tmp 77) 9, type := 4, pos := "law.go:201", after := #[{ on := 14, ground := Ground.data }, { on := 16, ground := Ground.data }, { on := 5, ground := Ground.guard }], guard := some (5, true) } : Oper)) (v := ?v17_18b) rfl (by kernel_rfl) (by kernel_rfl) (by kernel_rfl) (fun _ _ _ h => h) (Or.inl ⟨by rfl, ?hy17_18b⟩) (by assumption) ?re17_18b
                  case hy17_18b => ((intro w hSw; (try dsimp only at hSw); go_simp) <;> with_reducible rfl)
                  (try simp only [Act.put, List.setIfInBounds_toArray, List.set_cons_zero, List.set_cons_succ])
                  refine wpAnyH_take (i := 18) (oi := ({ dst := some 79, op := Op.pick (Operand.tmp 66) (Operand.tmp 78) (Operand.const (Value.bool false)), type := 4, pos := "law.go:201", after := #[{ on := 5, ground := Ground.data }, { on := 17, ground := Ground.data }], guard := none } : Oper)) (v := ?v18_19b) rfl (by kernel_rfl) (by kernel_rfl) (by kernel_rfl) (fun _ _ _ h => h) (Or.inl ⟨by rfl, ?hy18_19b⟩) (by assumption) ?re18_19b
                  case hy18_19b => ((intro w hSw; (try dsimp only at hSw); go_simp) <;> with_reducible rfl)
                  (try simp only [Act.put, List.setIfInBounds_toArray, List.set_cons_zero, List.set_cons_succ])
                  refine wpAnyH_take (i := 19) (oi := ({ dst := some 12, op := Op.assign (Operand.tmp 79), type := 4, pos := "law.go:201", after := #[{ on := 18, ground := Ground.data }, { on := 14, ground := Ground.chain }, { on := 0, ground := Ground.phase }, { on := 1, ground := Ground.phase }, { on := 2, ground := Ground.phase }, { on := 3, ground := Ground.phase }, { on := 4, ground := Ground.phase }, { on := 5, ground := Ground.phase }, { on := 6, ground := Ground.phase }, { on := 7, ground := Ground.phase }, { on := 8, ground := Ground.phase }, { on := 9, ground := Ground.phase }, { on := 10, ground := Ground.phase }, { on := 11, ground := Ground.phase }, { on := 12, ground := Ground.phase }, { on := 13, ground := Ground.phase }, { on := 14, ground := Ground.phase }, { on := 15, ground := Ground.phase }, { on := 16, ground := Ground.phase }, { on := 17, ground := Ground.phase }, { on := 18, ground := Ground.phase }], guard := none } : Oper)) (v := ?v19_20b) rfl (by kernel_rfl) (by kernel_rfl) (by kernel_rfl) (fun _ _ _ h => h) (Or.inl ⟨by rfl, ?hy19_20b⟩) (by assumption) ?re19_20b
                  case hy19_20b => ((intro w hSw; (try dsimp only at hSw); go_simp) <;> with_reducible rfl)
                  (try simp only [Act.put, List.setIfInBounds_toArray, List.set_cons_zero, List.set_cons_succ])
                  refine wpAnyH_done (by kernel_rfl) ?_ _
                  refine NoPanic.normal ?_
                  have G3 := G2.step ((Below.refl _ _).alloc (Nat.le_refl _) Z32)
                  go_wp2_with (first | (go_at_call 35; (with_reducible refine (cC _ _ _ _ G2).mono ?_); rintro e w4 ⟨rfl, G⟩) | (go_at_call 35; (with_reducible refine (cC _ _ _ _ G3).mono ?_); rintro e w4 ⟨rfl, G⟩))
                  go_ret
                  exact ⟨rfl, G.below⟩
                exact AllReadyH.nil
              refine AllReadyH.cons (o := ({ dst := some 77, op := Op.convert 43 9 (Operand.tmp 76), type := 9, pos := "law.go:201", after := #[{ on := 15, ground := Ground.data }, { on := 5, ground := Ground.guard }], guard := some (5, true) } : Oper)) rfl (fun K hK => ?_) ?_
              · go_simp
                refine hK.out _ _ ?_ (fun hHeld => ?_)
                · (first | assumption | exact cell_kept (by assumption) (World.grownBy_alloc _ _ none) (fun r e => by cases e))
                clear hK K
                (try simp only [Act.put, List.setIfInBounds_toArray, List.set_cons_zero, List.set_cons_succ])
                refine wpAnyH_ready (rs := [14]) (by kernel_rfl) (by simp) ?_
                refine AllReadyH.cons (o := ({ dst := some 75, op := Op.call { callee := Callee.value (Operand.func 13), args := #[Operand.tmp 74], argTypes := #[9] }, type := 9, pos := "law.go:201", after := #[{ on := 13, ground := Ground.data }, { on := 5, ground := Ground.chain }, { on := 5, ground := Ground.guard }], guard := some (5, true) } : Oper)) rfl (fun K hK => ?_) ?_
                · go_simp
                  (go_at_call 13; (with_reducible refine hB.mono ?_); rintro e w2 ⟨rfl, G2, hc2, hcv2⟩)
                  (try go_wp2_with fail)
                  refine hK.out _ _ ?_ (fun hHeld => ?_)
                  · (first | assumption | exact cell_kept (by assumption) (World.grownBy_alloc _ _ none) (fun r e => by cases e))
                  clear hK K
                  (try simp only [Act.put, List.setIfInBounds_toArray, List.set_cons_zero, List.set_cons_succ])
                  refine wpAnyH_take (i := 17) (oi := ({ dst := some 78, op := Op.binOp BinOp.eql 9 (Operand.tmp 75) (Operand.tmp 77) 9, type := 4, pos := "law.go:201", after := #[{ on := 14, ground := Ground.data }, { on := 16, ground := Ground.data }, { on := 5, ground := Ground.guard }], guard := some (5, true) } : Oper)) (v := ?v17_21b) rfl (by kernel_rfl) (by kernel_rfl) (by kernel_rfl) (fun _ _ _ h => h) (Or.inl ⟨by rfl, ?hy17_21b⟩) (by assumption) ?re17_21b
                  case hy17_21b => ((intro w hSw; (try dsimp only at hSw); go_simp) <;> with_reducible rfl)
                  (try simp only [Act.put, List.setIfInBounds_toArray, List.set_cons_zero, List.set_cons_succ])
                  refine wpAnyH_take (i := 18) (oi := ({ dst := some 79, op := Op.pick (Operand.tmp 66) (Operand.tmp 78) (Operand.const (Value.bool false)), type := 4, pos := "law.go:201", after := #[{ on := 5, ground := Ground.data }, { on := 17, ground := Ground.data }], guard := none } : Oper)) (v := ?v18_22b) rfl (by kernel_rfl) (by kernel_rfl) (by kernel_rfl) (fun _ _ _ h => h) (Or.inl ⟨by rfl, ?hy18_22b⟩) (by assumption) ?re18_22b
                  case hy18_22b => ((intro w hSw; (try dsimp only at hSw); go_simp) <;> with_reducible rfl)
                  (try simp only [Act.put, List.setIfInBounds_toArray, List.set_cons_zero, List.set_cons_succ])
                  refine wpAnyH_take (i := 19) (oi := ({ dst := some 12, op := Op.assign (Operand.tmp 79), type := 4, pos := "law.go:201", after := #[{ on := 18, ground := Ground.data }, { on := 14, ground := Ground.chain }, { on := 0, ground := Ground.phase }, { on := 1, ground := Ground.phase }, { on := 2, ground := Ground.phase }, { on := 3, ground := Ground.phase }, { on := 4, ground := Ground.phase }, { on := 5, ground := Ground.phase }, { on := 6, ground := Ground.phase }, { on := 7, ground := Ground.phase }, { on := 8, ground := Ground.phase }, { on := 9, ground := Ground.phase }, { on := 10, ground := Ground.phase }, { on := 11, ground := Ground.phase }, { on := 12, ground := Ground.phase }, { on := 13, ground := Ground.phase }, { on := 14, ground := Ground.phase }, { on := 15, ground := Ground.phase }, { on := 16, ground := Ground.phase }, { on := 17, ground := Ground.phase }, { on := 18, ground := Ground.phase }], guard := none } : Oper)) (v := ?v19_23b) rfl (by kernel_rfl) (by kernel_rfl) (by kernel_rfl) (fun _ _ _ h => h) (Or.inl ⟨by rfl, ?hy19_23b⟩) (by assumption) ?re19_23b
                  case hy19_23b => ((intro w hSw; (try dsimp only at hSw); go_simp) <;> with_reducible rfl)
                  (try simp only [Act.put, List.setIfInBounds_toArray, List.set_cons_zero, List.set_cons_succ])
                  refine wpAnyH_done (by kernel_rfl) ?_ _
                  refine NoPanic.normal ?_
                  have G3 := G2.step ((Below.refl _ _).alloc (Nat.le_refl _) Z32)
                  go_wp2_with (first | (go_at_call 35; (with_reducible refine (cC _ _ _ _ G2).mono ?_); rintro e w4 ⟨rfl, G⟩) | (go_at_call 35; (with_reducible refine (cC _ _ _ _ G3).mono ?_); rintro e w4 ⟨rfl, G⟩))
                  go_ret
                  exact ⟨rfl, G.below⟩
                exact AllReadyH.nil
              exact AllReadyH.nil
            exact AllReadyH.nil

        · have hlt : m < n := by omega
          have hsz : n = (ss A.reverse).length := by rw [lA, hN]
          have hkk : m < (ss A.reverse).length := by omega
          obtain ⟨X, hX⟩ : ∃ X, (ss A.reverse)[m]? = some X := ⟨_, List.getElem?_eq_getElem hkk⟩
          have zX : X.size ≤ 137438953472 := zA X (List.mem_of_getElem? hX)
          have hzro : zro (ss A.reverse) (ss B.reverse) → sumB X = z32 := fun h => by
            have h2 := h.2
            rw [lng, if_neg (by rw [lA, lB, hN, hM]; omega), lA, lB, hN, hM, show min n m = m by omega, List.getD_eq_getElem?_getD, hX] at h2
            exact h2
          have hcellX : ∀ W q c, Sl W (.slice q n c) (ss A.reverse) → ∃ b o, q = some ⟨b, o, none⟩ ∧ n ≤ c ∧ b < W.heap.size ∧ W.cell? ⟨b, o + m, none⟩ = some (.string X) := fun W q c hs => by
            rcases hs with ⟨h', _⟩ | ⟨b', o', c', h', h1, h2, h3, h4⟩
            · simp only [Value.slice.injEq] at h'; omega
            · simp only [Value.slice.injEq] at h'
              obtain ⟨rfl, h5, rfl⟩ := h'
              exact ⟨b', o', rfl, by omega, h3, h4 _ _ hX⟩
          have cC : ∀ W a b ps, Env w W ((b, ss B.reverse) :: (a, ss A.reverse) :: ps) → Calls Tryd.prog 35 #[a, b] W fun e w' => e = .returned (.bool r) ∧ Env w w' ((b, ss B.reverse) :: (a, ss A.reverse) :: ps) := fun W a b ps g =>
            g.call (collide_any r _ _ a b W hrC zA zB g.sl2 g.sl1 g.tab g.pos)
          have cSm : ∀ W b0 o0 ps, Env w W ps → b0 < W.heap.size → W.cell? ⟨b0, o0, none⟩ = some (.string X) → Calls Tryd.prog 13 #[.string X] W fun e w' => e = .returned (.string (sumB X)) ∧ Env w w' ps ∧ w'.cell? ⟨b0, o0, none⟩ = some (.string X) ∧ ∀ k, k < W.heap.size → W.heap[k]? = some Z32 → (convert 43 9 (.slice (some ⟨k, 0, none⟩) 32 32)).run Tryd.prog w' = .ok (.string z32) w' := fun W b0 o0 ps g hb hc =>
            (Sum_any X zX W g.tab g.pos).mono fun e w' ⟨he, hb'⟩ => ⟨he, g.step hb', (hb'.cell (p := ⟨b0, o0, none⟩) hb).trans hc, fun k hk h => cv32' w' k ((hb'.block k hk).trans h)⟩
          have hz0 : r = true ∨ sumB X = z32 := by
            rcases hcl hhk (fun e => hAB (List.reverse_inj.1 e)) with h | h
            · exact .inl (hrC.2 h)
            · exact .inr (hzro h)
          have mk := mk32
          have cv := cv32
          have q1 : ((n : Int) == (m : Int)) = false := by rw [beq_eq_false_iff_ne, ne_eq]; omega
          have q1' : ((n : Int) != (m : Int)) = true := by rw [bne, q1]; rfl
          have qm : min (n : Int) (m : Int) = (m : Int) := by omega
          have j1 : (0 : Int) ≤ (m : Int) := by omega
          have j2 : (m : Int) < (n : Int) := by omega
          have QM := Lib.hid qm
          generalize ss A.reverse = XA at *
          generalize ss B.reverse = XB at *
          generalize hr A.reverse = h at *
          generalize hr B.reverse = k at *
          generalize sumB X = Y at *
          clear hX hzro hsz hkk hcl hrC lA lB zA zB hPl hQl hPz hQz hh1 hh2 hAB hq1 hne hhk hN hM qm
          cases r
          · have qz : (Y.toList == z32.toList) = true := by
              rcases hz0 with h | h
              · cases h
              · rw [eqB]; simp [h]
            clear hz0
            go_enter Tryd.func9, Tryd.ntmps9
            go_wp2_with (first | (go_at_call 12; (with_reducible refine (cS _ G).mono ?_); rintro e w1 ⟨rfl, G⟩) | (go_at_call 21; (with_reducible refine (cP _ G).mono ?_); rintro e w1 ⟨u, rfl, G⟩) | (go_at_call 21; (with_reducible refine (cQ _ _ G).mono ?_); rintro e w1 ⟨u2, rfl, G⟩) | (go_at_call 36; (with_reducible refine (cH1 _ _ _ G).mono ?_); rintro e w1 ⟨x1, xc1, rfl, G⟩) | (go_at_call 36; (with_reducible refine (cH2 _ _ _ _ G).mono ?_); rintro e w1 ⟨x2, xc2, rfl, G⟩) | (go_at_call 26; (with_reducible refine (cE _ _ _ _ _ G).mono ?_); rintro e w1 ⟨rfl, G⟩; refine Hid.out ?_))
            refine Lib.hid ?_
            obtain ⟨b0, o0, rfl, hc0, hb0, hcell⟩ := hcellX _ _ _ G.sl2
            have qm := QM.out
            go_wp2
            have hA := cSm w1.drew b0 (o0 + m) _ G.drew hb0 hcell
            have GB : Env w (w1.alloc Z32).drew [(.slice x2 m xc2, XB), (.slice (some ⟨b0, o0, none⟩) n xc1, XA), (u2, B), (u, A)] := (G.step ((Below.refl _ _).alloc (Nat.le_refl _) Z32)).drew
            have hcB0 : (w1.alloc Z32).cell? ⟨b0, o0 + m, none⟩ = some (.string X) := cell_kept hcell (World.grownBy_alloc _ _ none) (fun r e => by cases e)
            have hcB : (w1.alloc Z32).drew.cell? ⟨b0, o0 + m, none⟩ = some (.string X) := hcB0
            clear hcB0
            have hcA : w1.drew.cell? ⟨b0, o0 + m, none⟩ = some (.string X) := hcell
            have hB := (cSm (w1.alloc Z32).drew b0 (o0 + m) _ GB (by show b0 < (w1.alloc Z32).heap.size; rw [World.size_alloc]; exact Nat.lt_succ_of_lt hb0) hcB).mono fun e w' ⟨x1, x2, x3, x4⟩ => (⟨x1, x2, x3, x4 w1.heap.size (by show w1.heap.size < (w1.alloc Z32).heap.size; rw [World.size_alloc]; exact Nat.lt_succ_self _) (World.alloc_heap_new w1 Z32)⟩ : _ ∧ _ ∧ _ ∧ _)
            have cvd := cv32' (w1.alloc Z32).drew w1.heap.size (World.alloc_heap_new w1 Z32)
            clear cSm G hb0 GB
            refine wp_region_noPanic ?_
            refine wp_region_held_drew (S := fun W => W.cell? ⟨b0, o0 + m, none⟩ = some (.string X)) (by kernel_rfl) ?_ (fun hHeld => ?_)
            · exact hcA
            refine wpAnyH_take (i := 0) (oi := ({ dst := some 61, op := Op.move (Operand.tmp 6), type := 26, pos := "law.go:201", after := #[], guard := none } : Oper)) (v := ?v0_1c) rfl (by kernel_rfl) (by kernel_rfl) (by kernel_rfl) (fun _ _ _ h => h) (Or.inl ⟨by rfl, ?hy0_1c⟩) (by assumption) ?re0_1c
            case hy0_1c => ((intro w hSw; (try dsimp only at hSw); go_simp) <;> with_reducible rfl)
            (try simp only [Act.put, List.setIfInBounds_toArray, List.set_cons_zero, List.set_cons_succ])
            refine wpAnyH_take (i := 1) (oi := ({ dst := some 62, op := Op.call { callee := Callee.builtin Builtin.len, args := #[Operand.tmp 61], argTypes := #[26] }, type := 3, pos := "law.go:201", after := #[{ on := 0, ground := Ground.data }], guard := none } : Oper)) (v := ?v1_2c) rfl (by kernel_rfl) (by kernel_rfl) (by kernel_rfl) (fun _ _ _ h => h) (Or.inl ⟨by rfl, ?hy1_2c⟩) (by assumption) ?re1_2c
            case hy1_2c => ((intro w hSw; (try dsimp only at hSw); go_simp) <;> with_reducible rfl)
            (try simp only [Act.put, List.setIfInBounds_toArray, List.set_cons_zero, List.set_cons_succ])
            refine wpAnyH_take (i := 2) (oi := ({ dst := some 63, op := Op.move (Operand.tmp 8), type := 26, pos := "law.go:201", after := #[], guard := none } : Oper)) (v := ?v2_3c) rfl (by kernel_rfl) (by kernel_rfl) (by kernel_rfl) (fun _ _ _ h => h) (Or.inl ⟨by rfl, ?hy2_3c⟩) (by assumption) ?re2_3c
            case hy2_3c => ((intro w hSw; (try dsimp only at hSw); go_simp) <;> with_reducible rfl)
            (try simp only [Act.put, List.setIfInBounds_toArray, List.set_cons_zero, List.set_cons_succ])
            refine wpAnyH_take (i := 3) (oi := ({ dst := some 64, op := Op.call { callee := Callee.builtin Builtin.len, args := #[Operand.tmp 63], argTypes := #[26] }, type := 3, pos := "law.go:201", after := #[{ on := 2, ground := Ground.data }], guard := none } : Oper)) (v := ?v3_4c) rfl (by kernel_rfl) (by kernel_rfl) (by kernel_rfl) (fun _ _ _ h => h) (Or.inl ⟨by rfl, ?hy3_4c⟩) (by assumption) ?re3_4c
            case hy3_4c => ((intro w hSw; (try dsimp only at hSw); go_simp) <;> with_reducible rfl)
            (try simp only [Act.put, List.setIfInBounds_toArray, List.set_cons_zero, List.set_cons_succ])
            refine wpAnyH_take (i := 4) (oi := ({ dst := some 65, op := Op.binOp BinOp.neq 3 (Operand.tmp 62) (Operand.tmp 64) 3, type := 4, pos := "law.go:201", after := #[{ on := 1, ground := Ground.data }, { on := 3, ground := Ground.data }], guard := none } : Oper)) (v := ?v4_5c) rfl (by kernel_rfl) (by kernel_rfl) (by kernel_rfl) (fun _ _ _ h => h) (Or.inl ⟨by rfl, ?hy4_5c⟩) (by assumption) ?re4_5c
            case hy4_5c => ((intro w hSw; (try dsimp only at hSw); go_simp) <;> with_reducible rfl)
            (try simp only [Act.put, List.setIfInBounds_toArray, List.set_cons_zero, List.set_cons_succ])
            refine wpAnyH_take (i := 5) (oi := ({ dst := some 66, op := Op.move (Operand.tmp 65), type := 4, pos := "law.go:201", after := #[{ on := 4, ground := Ground.data }], guard := none } : Oper)) (v := ?v5_6c) rfl (by kernel_rfl) (by kernel_rfl) (by kernel_rfl) (fun _ _ _ h => h) (Or.inl ⟨by rfl, ?hy5_6c⟩) (by assumption) ?re5_6c
            case hy5_6c => ((intro w hSw; (try dsimp only at hSw); go_simp) <;> with_reducible rfl)
            (try simp only [Act.put, List.setIfInBounds_toArray, List.set_cons_zero, List.set_cons_succ])
            refine wpAnyH_take (i := 6) (oi := ({ dst := some 67, op := Op.move (Operand.tmp 11), type := 26, pos := "law.go:201", after := #[{ on := 5, ground := Ground.guard }], guard := some (5, true) } : Oper)) (v := ?v6_7c) rfl (by kernel_rfl) (by kernel_rfl) (by kernel_rfl) (fun _ _ _ h => h) (Or.inl ⟨by rfl, ?hy6_7c⟩) (by assumption) ?re6_7c
            case hy6_7c => ((intro w hSw; (try dsimp only at hSw); go_simp) <;> with_reducible rfl)
            (try simp only [Act.put, List.setIfInBounds_toArray, List.set_cons_zero, List.set_cons_succ])
            refine wpAnyH_take (i := 7) (oi := ({ dst := some 68, op := Op.move (Operand.tmp 6), type := 26, pos := "law.go:201", after := #[{ on := 5, ground := Ground.guard }], guard := some (5, true) } : Oper)) (v := ?v7_8c) rfl (by kernel_rfl) (by kernel_rfl) (by kernel_rfl) (fun _ _ _ h => h) (Or.inl ⟨by rfl, ?hy7_8c⟩) (by assumption) ?re7_8c
            case hy7_8c => ((intro w hSw; (try dsimp only at hSw); go_simp) <;> with_reducible rfl)
            (try simp only [Act.put, List.setIfInBounds_toArray, List.set_cons_zero, List.set_cons_succ])
            refine wpAnyH_take (i := 8) (oi := ({ dst := some 69, op := Op.call { callee := Callee.builtin Builtin.len, args := #[Operand.tmp 68], argTypes := #[26] }, type := 3, pos := "law.go:201", after := #[{ on := 7, ground := Ground.data }, { on := 5, ground := Ground.guard }], guard := some (5, true) } : Oper)) (v := ?v8_9c) rfl (by kernel_rfl) (by kernel_rfl) (by kernel_rfl) (fun _ _ _ h => h) (Or.inl ⟨by rfl, ?hy8_9c⟩) (by assumption) ?re8_9c
            case hy8_9c => ((intro w hSw; (try dsimp only at hSw); go_simp) <;> with_reducible rfl)
            (try simp only [Act.put, List.setIfInBounds_toArray, List.set_cons_zero, List.set_cons_succ])
            refine wpAnyH_take (i := 9) (oi := ({ dst := some 70, op := Op.move (Operand.tmp 8), type := 26, pos := "law.go:201", after := #[{ on := 5, ground := Ground.guard }], guard := some (5, true) } : Oper)) (v := ?v9_10c) rfl (by kernel_rfl) (by kernel_rfl) (by kernel_rfl) (fun _ _ _ h => h) (Or.inl ⟨by rfl, ?hy9_10c⟩) (by assumption) ?re9_10c
            case hy9_10c => ((intro w hSw; (try dsimp only at hSw); go_simp) <;> with_reducible rfl)
            (try simp only [Act.put, List.setIfInBounds_toArray, List.set_cons_zero, List.set_cons_succ])
            refine wpAnyH_take (i := 10) (oi := ({ dst := some 71, op := Op.call { callee := Callee.builtin Builtin.len, args := #[Operand.tmp 70], argTypes := #[26] }, type := 3, pos := "law.go:201", after := #[{ on := 9, ground := Ground.data }, { on := 5, ground := Ground.guard }], guard := some (5, true) } : Oper)) (v := ?v10_11c) rfl (by kernel_rfl) (by kernel_rfl) (by kernel_rfl) (fun _ _ _ h => h) (Or.inl ⟨by rfl, ?hy10_11c⟩) (by assumption) ?re10_11c
            case hy10_11c => ((intro w hSw; (try dsimp only at hSw); go_simp) <;> with_reducible rfl)
            (try simp only [Act.put, List.setIfInBounds_toArray, List.set_cons_zero, List.set_cons_succ])
            refine wpAnyH_take (i := 11) (oi := ({ dst := some 72, op := Op.call { callee := Callee.builtin Builtin.min, args := #[Operand.tmp 69, Operand.tmp 71], argTypes := #[3, 3] }, type := 3, pos := "law.go:201", after := #[{ on := 8, ground := Ground.data }, { on := 10, ground := Ground.data }, { on := 5, ground := Ground.guard }], guard := some (5, true) } : Oper)) (v := ?v11_12c) rfl (by kernel_rfl) (by kernel_rfl) (by kernel_rfl) (fun _ _ _ h => h) (Or.inl ⟨by rfl, ?hy11_12c⟩) (by assumption) ?re11_12c
            case hy11_12c => ((intro w hSw; (try dsimp only at hSw); go_simp) <;> with_reducible rfl)
            (try simp only [Act.put, List.setIfInBounds_toArray, List.set_cons_zero, List.set_cons_succ])
            refine wpAnyH_take (i := 12) (oi := ({ dst := some 73, op := Op.indexAddr 26 (Operand.tmp 67) (Operand.tmp 72), type := 0, pos := "law.go:201", after := #[{ on := 6, ground := Ground.data }, { on := 11, ground := Ground.data }, { on := 5, ground := Ground.guard }], guard := some (5, true) } : Oper)) (v := ?v12_13c) rfl (by kernel_rfl) (by kernel_rfl) (by kernel_rfl) (fun _ _ _ h => h) (Or.inl ⟨by rfl, ?hy12_13c⟩) (by assumption) ?re12_13c
            case hy12_13c => ((intro w hSw; (try dsimp only at hSw); go_simp) <;> with_reducible rfl)
            (try simp only [Act.put, List.setIfInBounds_toArray, List.set_cons_zero, List.set_cons_succ])
            refine wpAnyH_take (i := 13) (oi := ({ dst := some 74, op := Op.load 9 (Operand.tmp 73), type := 9, pos := "law.go:201", after := #[{ on := 12, ground := Ground.data }, { on := 5, ground := Ground.guard }], guard := some (5, true) } : Oper)) (v := ?v13_14c) rfl (by kernel_rfl) (by kernel_rfl) (by kernel_rfl) (fun _ _ _ h => h) (Or.inl ⟨by rfl, ?hy13_14c⟩) (by assumption) ?re13_14c
            case hy13_14c => ((intro w hSw; (try dsimp only at hSw); go_simp) <;> with_reducible rfl)
            (try simp only [Act.put, List.setIfInBounds_toArray, List.set_cons_zero, List.set_cons_succ])
            refine wpAnyH_ready (rs := [14, 15]) (by kernel_rfl) (by simp) ?_
            refine AllReadyH.cons (o := ({ dst := some 75, op := Op.call { callee := Callee.value (Operand.func 13), args := #[Operand.tmp 74], argTypes := #[9] }, type := 9, pos := "law.go:201", after := #[{ on := 13, ground := Ground.data }, { on := 5, ground := Ground.chain }, { on := 5, ground := Ground.guard }], guard := some (5, true) } : Oper)) rfl (fun K hK => ?_) ?_
            · go_simp
              (go_at_call 13; (with_reducible refine hA.mono ?_); rintro e w2 ⟨rfl, G2, hc2, hcv2⟩; clear hcv2)
              (try go_wp2_with fail)
              refine hK.out _ _ ?_ (fun hHeld => ?_)
              · (first | assumption | exact cell_kept (by assumption) (World.grownBy_alloc _ _ none) (fun r e => by cases e))
              clear hK K
              (try simp only [Act.put, List.setIfInBounds_toArray, List.set_cons_zero, List.set_cons_succ])
              refine wpAnyH_ready (rs := [15]) (by kernel_rfl) (by simp) ?_
              refine AllReadyH.cons (o := ({ dst := some 76, op := Op.makeSlice 43 (Operand.const (Value.int IntKind.i64 32)) (Operand.const (Value.int IntKind.i64 32)), type := 43, pos := "law.go:201", after := #[{ on := 5, ground := Ground.guard }], guard := some (5, true) } : Oper)) rfl (fun K hK => ?_) ?_
              · go_simp
                refine hK.out _ _ ?_ (fun hHeld => ?_)
                · (first | assumption | exact cell_kept (by assumption) (World.grownBy_alloc _ _ none) (fun r e => by cases e))
                clear hK K
                (try simp only [Act.put, List.setIfInBounds_toArray, List.set_cons_zero, List.set_cons_succ])
                refine wpAnyH_ready (rs := [16]) (by kernel_rfl) (by simp) ?_
                refine AllReadyH.cons (o := ({ dst := some 77, op := Op.convert 43 9 (Operand.tmp 76), type := 9, pos := "law.go:201", after := #[{ on := 15, ground := Ground.data }, { on := 5, ground := Ground.guard }], guard := some (5, true) } : Oper)) rfl (fun K hK => ?_) ?_
                · go_simp
                  refine hK.out _ _ ?_ (fun hHeld => ?_)
                  · (first | assumption | exact cell_kept (by assumption) (World.grownBy_alloc _ _ none) (fun r e => by cases e))
                  clear hK K
                  (try simp only [Act.put, List.setIfInBounds_toArray, List.set_cons_zero, List.set_cons_succ])
                  refine wpAnyH_take (i := 17) (oi := ({ dst := some 78, op := Op.binOp BinOp.eql 9 (Operand.tmp 75) (Operand.tmp 77) 9, type := 4, pos := "law.go:201", after := #[{ on := 14, ground := Ground.data }, { on := 16, ground := Ground.data }, { on := 5, ground := Ground.guard }], guard := some (5, true) } : Oper)) (v := ?v17_15c) rfl (by kernel_rfl) (by kernel_rfl) (by kernel_rfl) (fun _ _ _ h => h) (Or.inl ⟨by rfl, ?hy17_15c⟩) (by assumption) ?re17_15c
                  case hy17_15c => ((intro w hSw; (try dsimp only at hSw); go_simp) <;> with_reducible rfl)
                  (try simp only [Act.put, List.setIfInBounds_toArray, List.set_cons_zero, List.set_cons_succ])
                  refine wpAnyH_take (i := 18) (oi := ({ dst := some 79, op := Op.pick (Operand.tmp 66) (Operand.tmp 78) (Operand.const (Value.bool false)), type := 4, pos := "law.go:201", after := #[{ on := 5, ground := Ground.data }, { on := 17, ground := Ground.data }], guard := none } : Oper)) (v := ?v18_16c) rfl (by kernel_rfl) (by kernel_rfl) (by kernel_rfl) (fun _ _ _ h => h) (Or.inl ⟨by rfl, ?hy18_16c⟩) (by assumption) ?re18_16c
                  case hy18_16c => ((intro w hSw; (try dsimp only at hSw); go_simp) <;> with_reducible rfl)
                  (try simp only [Act.put, List.setIfInBounds_toArray, List.set_cons_zero, List.set_cons_succ])
                  refine wpAnyH_take (i := 19) (oi := ({ dst := some 12, op := Op.assign (Operand.tmp 79), type := 4, pos := "law.go:201", after := #[{ on := 18, ground := Ground.data }, { on := 14, ground := Ground.chain }, { on := 0, ground := Ground.phase }, { on := 1, ground := Ground.phase }, { on := 2, ground := Ground.phase }, { on := 3, ground := Ground.phase }, { on := 4, ground := Ground.phase }, { on := 5, ground := Ground.phase }, { on := 6, ground := Ground.phase }, { on := 7, ground := Ground.phase }, { on := 8, ground := Ground.phase }, { on := 9, ground := Ground.phase }, { on := 10, ground := Ground.phase }, { on := 11, ground := Ground.phase }, { on := 12, ground := Ground.phase }, { on := 13, ground := Ground.phase }, { on := 14, ground := Ground.phase }, { on := 15, ground := Ground.phase }, { on := 16, ground := Ground.phase }, { on := 17, ground := Ground.phase }, { on := 18, ground := Ground.phase }], guard := none } : Oper)) (v := ?v19_17c) rfl (by kernel_rfl) (by kernel_rfl) (by kernel_rfl) (fun _ _ _ h => h) (Or.inl ⟨by rfl, ?hy19_17c⟩) (by assumption) ?re19_17c
                  case hy19_17c => ((intro w hSw; (try dsimp only at hSw); go_simp) <;> with_reducible rfl)
                  (try simp only [Act.put, List.setIfInBounds_toArray, List.set_cons_zero, List.set_cons_succ])
                  refine wpAnyH_done (by kernel_rfl) ?_ _
                  refine NoPanic.normal ?_
                  have G3 := G2.step ((Below.refl _ _).alloc (Nat.le_refl _) Z32)
                  go_wp2_with (first | (go_at_call 35; (with_reducible refine (cC _ _ _ _ G2).mono ?_); rintro e w4 ⟨rfl, G⟩) | (go_at_call 35; (with_reducible refine (cC _ _ _ _ G3).mono ?_); rintro e w4 ⟨rfl, G⟩))
                  go_ret
                  exact ⟨rfl, G.below⟩
                exact AllReadyH.nil
              exact AllReadyH.nil
            refine AllReadyH.cons (o := ({ dst := some 76, op := Op.makeSlice 43 (Operand.const (Value.int IntKind.i64 32)) (Operand.const (Value.int IntKind.i64 32)), type := 43, pos := "law.go:201", after := #[{ on := 5, ground := Ground.guard }], guard := some (5, true) } : Oper)) rfl (fun K hK => ?_) ?_
            · go_simp
              refine hK.out _ _ ?_ (fun hHeld => ?_)
              · (first | assumption | exact cell_kept (by assumption) (World.grownBy_alloc _ _ none) (fun r e => by cases e))
              clear hK K
              (try simp only [Act.put, List.setIfInBounds_toArray, List.set_cons_zero, List.set_cons_succ])
              refine wpAnyH_ready (rs := [14, 16]) (by kernel_rfl) (by simp) ?_
              refine AllReadyH.cons (o := ({ dst := some 75, op := Op.call { callee := Callee.value (Operand.func 13), args := #[Operand.tmp 74], argTypes := #[9] }, type := 9, pos := "law.go:201", after := #[{ on := 13, ground := Ground.data }, { on := 5, ground := Ground.chain }, { on := 5, ground := Ground.guard }], guard := some (5, true) } : Oper)) rfl (fun K hK => ?_) ?_
              · go_simp
                (go_at_call 13; (with_reducible refine hB.mono ?_); rintro e w2 ⟨rfl, G2, hc2, hcv2⟩)
                (try go_wp2_with fail)
                refine hK.out _ _ ?_ (fun hHeld => ?_)
                · (first | assumption | exact cell_kept (by assumption) (World.grownBy_alloc _ _ none) (fun r e => by cases e))
                clear hK K
                (try simp only [Act.put, List.setIfInBounds_toArray, List.set_cons_zero, List.set_cons_succ])
                refine wpAnyH_ready (rs := [16]) (by kernel_rfl) (by simp) ?_
                refine AllReadyH.cons (o := ({ dst := some 77, op := Op.convert 43 9 (Operand.tmp 76), type := 9, pos := "law.go:201", after := #[{ on := 15, ground := Ground.data }, { on := 5, ground := Ground.guard }], guard := some (5, true) } : Oper)) rfl (fun K hK => ?_) ?_
                · go_simp
                  refine hK.out _ _ ?_ (fun hHeld => ?_)
                  · (first | assumption | exact cell_kept (by assumption) (World.grownBy_alloc _ _ none) (fun r e => by cases e))
                  clear hK K
                  (try simp only [Act.put, List.setIfInBounds_toArray, List.set_cons_zero, List.set_cons_succ])
                  refine wpAnyH_take (i := 17) (oi := ({ dst := some 78, op := Op.binOp BinOp.eql 9 (Operand.tmp 75) (Operand.tmp 77) 9, type := 4, pos := "law.go:201", after := #[{ on := 14, ground := Ground.data }, { on := 16, ground := Ground.data }, { on := 5, ground := Ground.guard }], guard := some (5, true) } : Oper)) (v := ?v17_18c) rfl (by kernel_rfl) (by kernel_rfl) (by kernel_rfl) (fun _ _ _ h => h) (Or.inl ⟨by rfl, ?hy17_18c⟩) (by assumption) ?re17_18c
                  case hy17_18c => ((intro w hSw; (try dsimp only at hSw); go_simp) <;> with_reducible rfl)
                  (try simp only [Act.put, List.setIfInBounds_toArray, List.set_cons_zero, List.set_cons_succ])
                  refine wpAnyH_take (i := 18) (oi := ({ dst := some 79, op := Op.pick (Operand.tmp 66) (Operand.tmp 78) (Operand.const (Value.bool false)), type := 4, pos := "law.go:201", after := #[{ on := 5, ground := Ground.data }, { on := 17, ground := Ground.data }], guard := none } : Oper)) (v := ?v18_19c) rfl (by kernel_rfl) (by kernel_rfl) (by kernel_rfl) (fun _ _ _ h => h) (Or.inl ⟨by rfl, ?hy18_19c⟩) (by assumption) ?re18_19c
                  case hy18_19c => ((intro w hSw; (try dsimp only at hSw); go_simp) <;> with_reducible rfl)
                  (try simp only [Act.put, List.setIfInBounds_toArray, List.set_cons_zero, List.set_cons_succ])
                  refine wpAnyH_take (i := 19) (oi := ({ dst := some 12, op := Op.assign (Operand.tmp 79), type := 4, pos := "law.go:201", after := #[{ on := 18, ground := Ground.data }, { on := 14, ground := Ground.chain }, { on := 0, ground := Ground.phase }, { on := 1, ground := Ground.phase }, { on := 2, ground := Ground.phase }, { on := 3, ground := Ground.phase }, { on := 4, ground := Ground.phase }, { on := 5, ground := Ground.phase }, { on := 6, ground := Ground.phase }, { on := 7, ground := Ground.phase }, { on := 8, ground := Ground.phase }, { on := 9, ground := Ground.phase }, { on := 10, ground := Ground.phase }, { on := 11, ground := Ground.phase }, { on := 12, ground := Ground.phase }, { on := 13, ground := Ground.phase }, { on := 14, ground := Ground.phase }, { on := 15, ground := Ground.phase }, { on := 16, ground := Ground.phase }, { on := 17, ground := Ground.phase }, { on := 18, ground := Ground.phase }], guard := none } : Oper)) (v := ?v19_20c) rfl (by kernel_rfl) (by kernel_rfl) (by kernel_rfl) (fun _ _ _ h => h) (Or.inl ⟨by rfl, ?hy19_20c⟩) (by assumption) ?re19_20c
                  case hy19_20c => ((intro w hSw; (try dsimp only at hSw); go_simp) <;> with_reducible rfl)
                  (try simp only [Act.put, List.setIfInBounds_toArray, List.set_cons_zero, List.set_cons_succ])
                  refine wpAnyH_done (by kernel_rfl) ?_ _
                  refine NoPanic.normal ?_
                  have G3 := G2.step ((Below.refl _ _).alloc (Nat.le_refl _) Z32)
                  go_wp2_with (first | (go_at_call 35; (with_reducible refine (cC _ _ _ _ G2).mono ?_); rintro e w4 ⟨rfl, G⟩) | (go_at_call 35; (with_reducible refine (cC _ _ _ _ G3).mono ?_); rintro e w4 ⟨rfl, G⟩))
                  go_ret
                  exact ⟨rfl, G.below⟩
                exact AllReadyH.nil
              refine AllReadyH.cons (o := ({ dst := some 77, op := Op.convert 43 9 (Operand.tmp 76), type := 9, pos := "law.go:201", after := #[{ on := 15, ground := Ground.data }, { on := 5, ground := Ground.guard }], guard := some (5, true) } : Oper)) rfl (fun K hK => ?_) ?_
              · go_simp
                refine hK.out _ _ ?_ (fun hHeld => ?_)
                · (first | assumption | exact cell_kept (by assumption) (World.grownBy_alloc _ _ none) (fun r e => by cases e))
                clear hK K
                (try simp only [Act.put, List.setIfInBounds_toArray, List.set_cons_zero, List.set_cons_succ])
                refine wpAnyH_ready (rs := [14]) (by kernel_rfl) (by simp) ?_
                refine AllReadyH.cons (o := ({ dst := some 75, op := Op.call { callee := Callee.value (Operand.func 13), args := #[Operand.tmp 74], argTypes := #[9] }, type := 9, pos := "law.go:201", after := #[{ on := 13, ground := Ground.data }, { on := 5, ground := Ground.chain }, { on := 5, ground := Ground.guard }], guard := some (5, true) } : Oper)) rfl (fun K hK => ?_) ?_
                · go_simp
                  (go_at_call 13; (with_reducible refine hB.mono ?_); rintro e w2 ⟨rfl, G2, hc2, hcv2⟩)
                  (try go_wp2_with fail)
                  refine hK.out _ _ ?_ (fun hHeld => ?_)
                  · (first | assumption | exact cell_kept (by assumption) (World.grownBy_alloc _ _ none) (fun r e => by cases e))
                  clear hK K
                  (try simp only [Act.put, List.setIfInBounds_toArray, List.set_cons_zero, List.set_cons_succ])
                  refine wpAnyH_take (i := 17) (oi := ({ dst := some 78, op := Op.binOp BinOp.eql 9 (Operand.tmp 75) (Operand.tmp 77) 9, type := 4, pos := "law.go:201", after := #[{ on := 14, ground := Ground.data }, { on := 16, ground := Ground.data }, { on := 5, ground := Ground.guard }], guard := some (5, true) } : Oper)) (v := ?v17_21c) rfl (by kernel_rfl) (by kernel_rfl) (by kernel_rfl) (fun _ _ _ h => h) (Or.inl ⟨by rfl, ?hy17_21c⟩) (by assumption) ?re17_21c
                  case hy17_21c => ((intro w hSw; (try dsimp only at hSw); go_simp) <;> with_reducible rfl)
                  (try simp only [Act.put, List.setIfInBounds_toArray, List.set_cons_zero, List.set_cons_succ])
                  refine wpAnyH_take (i := 18) (oi := ({ dst := some 79, op := Op.pick (Operand.tmp 66) (Operand.tmp 78) (Operand.const (Value.bool false)), type := 4, pos := "law.go:201", after := #[{ on := 5, ground := Ground.data }, { on := 17, ground := Ground.data }], guard := none } : Oper)) (v := ?v18_22c) rfl (by kernel_rfl) (by kernel_rfl) (by kernel_rfl) (fun _ _ _ h => h) (Or.inl ⟨by rfl, ?hy18_22c⟩) (by assumption) ?re18_22c
                  case hy18_22c => ((intro w hSw; (try dsimp only at hSw); go_simp) <;> with_reducible rfl)
                  (try simp only [Act.put, List.setIfInBounds_toArray, List.set_cons_zero, List.set_cons_succ])
                  refine wpAnyH_take (i := 19) (oi := ({ dst := some 12, op := Op.assign (Operand.tmp 79), type := 4, pos := "law.go:201", after := #[{ on := 18, ground := Ground.data }, { on := 14, ground := Ground.chain }, { on := 0, ground := Ground.phase }, { on := 1, ground := Ground.phase }, { on := 2, ground := Ground.phase }, { on := 3, ground := Ground.phase }, { on := 4, ground := Ground.phase }, { on := 5, ground := Ground.phase }, { on := 6, ground := Ground.phase }, { on := 7, ground := Ground.phase }, { on := 8, ground := Ground.phase }, { on := 9, ground := Ground.phase }, { on := 10, ground := Ground.phase }, { on := 11, ground := Ground.phase }, { on := 12, ground := Ground.phase }, { on := 13, ground := Ground.phase }, { on := 14, ground := Ground.phase }, { on := 15, ground := Ground.phase }, { on := 16, ground := Ground.phase }, { on := 17, ground := Ground.phase }, { on := 18, ground := Ground.phase }], guard := none } : Oper)) (v := ?v19_23c) rfl (by kernel_rfl) (by kernel_rfl) (by kernel_rfl) (fun _ _ _ h => h) (Or.inl ⟨by rfl, ?hy19_23c⟩) (by assumption) ?re19_23c
                  case hy19_23c => ((intro w hSw; (try dsimp only at hSw); go_simp) <;> with_reducible rfl)
                  (try simp only [Act.put, List.setIfInBounds_toArray, List.set_cons_zero, List.set_cons_succ])
                  refine wpAnyH_done (by kernel_rfl) ?_ _
                  refine NoPanic.normal ?_
                  have G3 := G2.step ((Below.refl _ _).alloc (Nat.le_refl _) Z32)
                  go_wp2_with (first | (go_at_call 35; (with_reducible refine (cC _ _ _ _ G2).mono ?_); rintro e w4 ⟨rfl, G⟩) | (go_at_call 35; (with_reducible refine (cC _ _ _ _ G3).mono ?_); rintro e w4 ⟨rfl, G⟩))
                  go_ret
                  exact ⟨rfl, G.below⟩
                exact AllReadyH.nil
              exact AllReadyH.nil
            exact AllReadyH.nil
          · clear hz0
            go_enter Tryd.func9, Tryd.ntmps9
            go_wp2_with (first | (go_at_call 12; (with_reducible refine (cS _ G).mono ?_); rintro e w1 ⟨rfl, G⟩) | (go_at_call 21; (with_reducible refine (cP _ G).mono ?_); rintro e w1 ⟨u, rfl, G⟩) | (go_at_call 21; (with_reducible refine (cQ _ _ G).mono ?_); rintro e w1 ⟨u2, rfl, G⟩) | (go_at_call 36; (with_reducible refine (cH1 _ _ _ G).mono ?_); rintro e w1 ⟨x1, xc1, rfl, G⟩) | (go_at_call 36; (with_reducible refine (cH2 _ _ _ _ G).mono ?_); rintro e w1 ⟨x2, xc2, rfl, G⟩) | (go_at_call 26; (with_reducible refine (cE _ _ _ _ _ G).mono ?_); rintro e w1 ⟨rfl, G⟩; refine Hid.out ?_))
            refine Lib.hid ?_
            obtain ⟨b0, o0, rfl, hc0, hb0, hcell⟩ := hcellX _ _ _ G.sl2
            have qm := QM.out
            go_wp2
            have hA := cSm w1.drew b0 (o0 + m) _ G.drew hb0 hcell
            have GB : Env w (w1.alloc Z32).drew [(.slice x2 m xc2, XB), (.slice (some ⟨b0, o0, none⟩) n xc1, XA), (u2, B), (u, A)] := (G.step ((Below.refl _ _).alloc (Nat.le_refl _) Z32)).drew
            have hcB0 : (w1.alloc Z32).cell? ⟨b0, o0 + m, none⟩ = some (.string X) := cell_kept hcell (World.grownBy_alloc _ _ none) (fun r e => by cases e)
            have hcB : (w1.alloc Z32).drew.cell? ⟨b0, o0 + m, none⟩ = some (.string X) := hcB0
            clear hcB0
            have hcA : w1.drew.cell? ⟨b0, o0 + m, none⟩ = some (.string X) := hcell
            have hB := (cSm (w1.alloc Z32).drew b0 (o0 + m) _ GB (by show b0 < (w1.alloc Z32).heap.size; rw [World.size_alloc]; exact Nat.lt_succ_of_lt hb0) hcB).mono fun e w' ⟨x1, x2, x3, x4⟩ => (⟨x1, x2, x3, x4 w1.heap.size (by show w1.heap.size < (w1.alloc Z32).heap.size; rw [World.size_alloc]; exact Nat.lt_succ_self _) (World.alloc_heap_new w1 Z32)⟩ : _ ∧ _ ∧ _ ∧ _)
            have cvd := cv32' (w1.alloc Z32).drew w1.heap.size (World.alloc_heap_new w1 Z32)
            clear cSm G hb0 GB
            refine wp_region_noPanic ?_
            refine wp_region_held_drew (S := fun W => W.cell? ⟨b0, o0 + m, none⟩ = some (.string X)) (by kernel_rfl) ?_ (fun hHeld => ?_)
            · exact hcA
            refine wpAnyH_take (i := 0) (oi := ({ dst := some 61, op := Op.move (Operand.tmp 6), type := 26, pos := "law.go:201", after := #[], guard := none } : Oper)) (v := ?v0_1d) rfl (by kernel_rfl) (by kernel_rfl) (by kernel_rfl) (fun _ _ _ h => h) (Or.inl ⟨by rfl, ?hy0_1d⟩) (by assumption) ?re0_1d
            case hy0_1d => ((intro w hSw; (try dsimp only at hSw); go_simp) <;> with_reducible rfl)
            (try simp only [Act.put, List.setIfInBounds_toArray, List.set_cons_zero, List.set_cons_succ])
            refine wpAnyH_take (i := 1) (oi := ({ dst := some 62, op := Op.call { callee := Callee.builtin Builtin.len, args := #[Operand.tmp 61], argTypes := #[26] }, type := 3, pos := "law.go:201", after := #[{ on := 0, ground := Ground.data }], guard := none } : Oper)) (v := ?v1_2d) rfl (by kernel_rfl) (by kernel_rfl) (by kernel_rfl) (fun _ _ _ h => h) (Or.inl ⟨by rfl, ?hy1_2d⟩) (by assumption) ?re1_2d
            case hy1_2d => ((intro w hSw; (try dsimp only at hSw); go_simp) <;> with_reducible rfl)
            (try simp only [Act.put, List.setIfInBounds_toArray, List.set_cons_zero, List.set_cons_succ])
            refine wpAnyH_take (i := 2) (oi := ({ dst := some 63, op := Op.move (Operand.tmp 8), type := 26, pos := "law.go:201", after := #[], guard := none } : Oper)) (v := ?v2_3d) rfl (by kernel_rfl) (by kernel_rfl) (by kernel_rfl) (fun _ _ _ h => h) (Or.inl ⟨by rfl, ?hy2_3d⟩) (by assumption) ?re2_3d
            case hy2_3d => ((intro w hSw; (try dsimp only at hSw); go_simp) <;> with_reducible rfl)
            (try simp only [Act.put, List.setIfInBounds_toArray, List.set_cons_zero, List.set_cons_succ])
            refine wpAnyH_take (i := 3) (oi := ({ dst := some 64, op := Op.call { callee := Callee.builtin Builtin.len, args := #[Operand.tmp 63], argTypes := #[26] }, type := 3, pos := "law.go:201", after := #[{ on := 2, ground := Ground.data }], guard := none } : Oper)) (v := ?v3_4d) rfl (by kernel_rfl) (by kernel_rfl) (by kernel_rfl) (fun _ _ _ h => h) (Or.inl ⟨by rfl, ?hy3_4d⟩) (by assumption) ?re3_4d
            case hy3_4d => ((intro w hSw; (try dsimp only at hSw); go_simp) <;> with_reducible rfl)
            (try simp only [Act.put, List.setIfInBounds_toArray, List.set_cons_zero, List.set_cons_succ])
            refine wpAnyH_take (i := 4) (oi := ({ dst := some 65, op := Op.binOp BinOp.neq 3 (Operand.tmp 62) (Operand.tmp 64) 3, type := 4, pos := "law.go:201", after := #[{ on := 1, ground := Ground.data }, { on := 3, ground := Ground.data }], guard := none } : Oper)) (v := ?v4_5d) rfl (by kernel_rfl) (by kernel_rfl) (by kernel_rfl) (fun _ _ _ h => h) (Or.inl ⟨by rfl, ?hy4_5d⟩) (by assumption) ?re4_5d
            case hy4_5d => ((intro w hSw; (try dsimp only at hSw); go_simp) <;> with_reducible rfl)
            (try simp only [Act.put, List.setIfInBounds_toArray, List.set_cons_zero, List.set_cons_succ])
            refine wpAnyH_take (i := 5) (oi := ({ dst := some 66, op := Op.move (Operand.tmp 65), type := 4, pos := "law.go:201", after := #[{ on := 4, ground := Ground.data }], guard := none } : Oper)) (v := ?v5_6d) rfl (by kernel_rfl) (by kernel_rfl) (by kernel_rfl) (fun _ _ _ h => h) (Or.inl ⟨by rfl, ?hy5_6d⟩) (by assumption) ?re5_6d
            case hy5_6d => ((intro w hSw; (try dsimp only at hSw); go_simp) <;> with_reducible rfl)
            (try simp only [Act.put, List.setIfInBounds_toArray, List.set_cons_zero, List.set_cons_succ])
            refine wpAnyH_take (i := 6) (oi := ({ dst := some 67, op := Op.move (Operand.tmp 11), type := 26, pos := "law.go:201", after := #[{ on := 5, ground := Ground.guard }], guard := some (5, true) } : Oper)) (v := ?v6_7d) rfl (by kernel_rfl) (by kernel_rfl) (by kernel_rfl) (fun _ _ _ h => h) (Or.inl ⟨by rfl, ?hy6_7d⟩) (by assumption) ?re6_7d
            case hy6_7d => ((intro w hSw; (try dsimp only at hSw); go_simp) <;> with_reducible rfl)
            (try simp only [Act.put, List.setIfInBounds_toArray, List.set_cons_zero, List.set_cons_succ])
            refine wpAnyH_take (i := 7) (oi := ({ dst := some 68, op := Op.move (Operand.tmp 6), type := 26, pos := "law.go:201", after := #[{ on := 5, ground := Ground.guard }], guard := some (5, true) } : Oper)) (v := ?v7_8d) rfl (by kernel_rfl) (by kernel_rfl) (by kernel_rfl) (fun _ _ _ h => h) (Or.inl ⟨by rfl, ?hy7_8d⟩) (by assumption) ?re7_8d
            case hy7_8d => ((intro w hSw; (try dsimp only at hSw); go_simp) <;> with_reducible rfl)
            (try simp only [Act.put, List.setIfInBounds_toArray, List.set_cons_zero, List.set_cons_succ])
            refine wpAnyH_take (i := 8) (oi := ({ dst := some 69, op := Op.call { callee := Callee.builtin Builtin.len, args := #[Operand.tmp 68], argTypes := #[26] }, type := 3, pos := "law.go:201", after := #[{ on := 7, ground := Ground.data }, { on := 5, ground := Ground.guard }], guard := some (5, true) } : Oper)) (v := ?v8_9d) rfl (by kernel_rfl) (by kernel_rfl) (by kernel_rfl) (fun _ _ _ h => h) (Or.inl ⟨by rfl, ?hy8_9d⟩) (by assumption) ?re8_9d
            case hy8_9d => ((intro w hSw; (try dsimp only at hSw); go_simp) <;> with_reducible rfl)
            (try simp only [Act.put, List.setIfInBounds_toArray, List.set_cons_zero, List.set_cons_succ])
            refine wpAnyH_take (i := 9) (oi := ({ dst := some 70, op := Op.move (Operand.tmp 8), type := 26, pos := "law.go:201", after := #[{ on := 5, ground := Ground.guard }], guard := some (5, true) } : Oper)) (v := ?v9_10d) rfl (by kernel_rfl) (by kernel_rfl) (by kernel_rfl) (fun _ _ _ h => h) (Or.inl ⟨by rfl, ?hy9_10d⟩) (by assumption) ?re9_10d
            case hy9_10d => ((intro w hSw; (try dsimp only at hSw); go_simp) <;> with_reducible rfl)
            (try simp only [Act.put, List.setIfInBounds_toArray, List.set_cons_zero, List.set_cons_succ])
            refine wpAnyH_take (i := 10) (oi := ({ dst := some 71, op := Op.call { callee := Callee.builtin Builtin.len, args := #[Operand.tmp 70], argTypes := #[26] }, type := 3, pos := "law.go:201", after := #[{ on := 9, ground := Ground.data }, { on := 5, ground := Ground.guard }], guard := some (5, true) } : Oper)) (v := ?v10_11d) rfl (by kernel_rfl) (by kernel_rfl) (by kernel_rfl) (fun _ _ _ h => h) (Or.inl ⟨by rfl, ?hy10_11d⟩) (by assumption) ?re10_11d
            case hy10_11d => ((intro w hSw; (try dsimp only at hSw); go_simp) <;> with_reducible rfl)
            (try simp only [Act.put, List.setIfInBounds_toArray, List.set_cons_zero, List.set_cons_succ])
            refine wpAnyH_take (i := 11) (oi := ({ dst := some 72, op := Op.call { callee := Callee.builtin Builtin.min, args := #[Operand.tmp 69, Operand.tmp 71], argTypes := #[3, 3] }, type := 3, pos := "law.go:201", after := #[{ on := 8, ground := Ground.data }, { on := 10, ground := Ground.data }, { on := 5, ground := Ground.guard }], guard := some (5, true) } : Oper)) (v := ?v11_12d) rfl (by kernel_rfl) (by kernel_rfl) (by kernel_rfl) (fun _ _ _ h => h) (Or.inl ⟨by rfl, ?hy11_12d⟩) (by assumption) ?re11_12d
            case hy11_12d => ((intro w hSw; (try dsimp only at hSw); go_simp) <;> with_reducible rfl)
            (try simp only [Act.put, List.setIfInBounds_toArray, List.set_cons_zero, List.set_cons_succ])
            refine wpAnyH_take (i := 12) (oi := ({ dst := some 73, op := Op.indexAddr 26 (Operand.tmp 67) (Operand.tmp 72), type := 0, pos := "law.go:201", after := #[{ on := 6, ground := Ground.data }, { on := 11, ground := Ground.data }, { on := 5, ground := Ground.guard }], guard := some (5, true) } : Oper)) (v := ?v12_13d) rfl (by kernel_rfl) (by kernel_rfl) (by kernel_rfl) (fun _ _ _ h => h) (Or.inl ⟨by rfl, ?hy12_13d⟩) (by assumption) ?re12_13d
            case hy12_13d => ((intro w hSw; (try dsimp only at hSw); go_simp) <;> with_reducible rfl)
            (try simp only [Act.put, List.setIfInBounds_toArray, List.set_cons_zero, List.set_cons_succ])
            refine wpAnyH_take (i := 13) (oi := ({ dst := some 74, op := Op.load 9 (Operand.tmp 73), type := 9, pos := "law.go:201", after := #[{ on := 12, ground := Ground.data }, { on := 5, ground := Ground.guard }], guard := some (5, true) } : Oper)) (v := ?v13_14d) rfl (by kernel_rfl) (by kernel_rfl) (by kernel_rfl) (fun _ _ _ h => h) (Or.inl ⟨by rfl, ?hy13_14d⟩) (by assumption) ?re13_14d
            case hy13_14d => ((intro w hSw; (try dsimp only at hSw); go_simp) <;> with_reducible rfl)
            (try simp only [Act.put, List.setIfInBounds_toArray, List.set_cons_zero, List.set_cons_succ])
            refine wpAnyH_ready (rs := [14, 15]) (by kernel_rfl) (by simp) ?_
            refine AllReadyH.cons (o := ({ dst := some 75, op := Op.call { callee := Callee.value (Operand.func 13), args := #[Operand.tmp 74], argTypes := #[9] }, type := 9, pos := "law.go:201", after := #[{ on := 13, ground := Ground.data }, { on := 5, ground := Ground.chain }, { on := 5, ground := Ground.guard }], guard := some (5, true) } : Oper)) rfl (fun K hK => ?_) ?_
            · go_simp
              (go_at_call 13; (with_reducible refine hA.mono ?_); rintro e w2 ⟨rfl, G2, hc2, hcv2⟩; clear hcv2)
              (try go_wp2_with fail)
              refine hK.out _ _ ?_ (fun hHeld => ?_)
              · (first | assumption | exact cell_kept (by assumption) (World.grownBy_alloc _ _ none) (fun r e => by cases e))
              clear hK K
              (try simp only [Act.put, List.setIfInBounds_toArray, List.set_cons_zero, List.set_cons_succ])
              refine wpAnyH_ready (rs := [15]) (by kernel_rfl) (by simp) ?_
              refine AllReadyH.cons (o := ({ dst := some 76, op := Op.makeSlice 43 (Operand.const (Value.int IntKind.i64 32)) (Operand.const (Value.int IntKind.i64 32)), type := 43, pos := "law.go:201", after := #[{ on := 5, ground := Ground.guard }], guard := some (5, true) } : Oper)) rfl (fun K hK => ?_) ?_
              · go_simp
                refine hK.out _ _ ?_ (fun hHeld => ?_)
                · (first | assumption | exact cell_kept (by assumption) (World.grownBy_alloc _ _ none) (fun r e => by cases e))
                clear hK K
                (try simp only [Act.put, List.setIfInBounds_toArray, List.set_cons_zero, List.set_cons_succ])
                refine wpAnyH_ready (rs := [16]) (by kernel_rfl) (by simp) ?_
                refine AllReadyH.cons (o := ({ dst := some 77, op := Op.convert 43 9 (Operand.tmp 76), type := 9, pos := "law.go:201", after := #[{ on := 15, ground := Ground.data }, { on := 5, ground := Ground.guard }], guard := some (5, true) } : Oper)) rfl (fun K hK => ?_) ?_
                · go_simp
                  refine hK.out _ _ ?_ (fun hHeld => ?_)
                  · (first | assumption | exact cell_kept (by assumption) (World.grownBy_alloc _ _ none) (fun r e => by cases e))
                  clear hK K
                  (try simp only [Act.put, List.setIfInBounds_toArray, List.set_cons_zero, List.set_cons_succ])
                  refine wpAnyH_take (i := 17) (oi := ({ dst := some 78, op := Op.binOp BinOp.eql 9 (Operand.tmp 75) (Operand.tmp 77) 9, type := 4, pos := "law.go:201", after := #[{ on := 14, ground := Ground.data }, { on := 16, ground := Ground.data }, { on := 5, ground := Ground.guard }], guard := some (5, true) } : Oper)) (v := ?v17_15d) rfl (by kernel_rfl) (by kernel_rfl) (by kernel_rfl) (fun _ _ _ h => h) (Or.inl ⟨by rfl, ?hy17_15d⟩) (by assumption) ?re17_15d
                  case hy17_15d => ((intro w hSw; (try dsimp only at hSw); go_simp) <;> with_reducible rfl)
                  (try simp only [Act.put, List.setIfInBounds_toArray, List.set_cons_zero, List.set_cons_succ])
                  refine wpAnyH_take (i := 18) (oi := ({ dst := some 79, op := Op.pick (Operand.tmp 66) (Operand.tmp 78) (Operand.const (Value.bool false)), type := 4, pos := "law.go:201", after := #[{ on := 5, ground := Ground.data }, { on := 17, ground := Ground.data }], guard := none } : Oper)) (v := ?v18_16d) rfl (by kernel_rfl) (by kernel_rfl) (by kernel_rfl) (fun _ _ _ h => h) (Or.inl ⟨by rfl, ?hy18_16d⟩) (by assumption) ?re18_16d
                  case hy18_16d => ((intro w hSw; (try dsimp only at hSw); go_simp) <;> with_reducible rfl)
                  (try simp only [Act.put, List.setIfInBounds_toArray, List.set_cons_zero, List.set_cons_succ])
                  refine wpAnyH_take (i := 19) (oi := ({ dst := some 12, op := Op.assign (Operand.tmp 79), type := 4, pos := "law.go:201", after := #[{ on := 18, ground := Ground.data }, { on := 14, ground := Ground.chain }, { on := 0, ground := Ground.phase }, { on := 1, ground := Ground.phase }, { on := 2, ground := Ground.phase }, { on := 3, ground := Ground.phase }, { on := 4, ground := Ground.phase }, { on := 5, ground := Ground.phase }, { on := 6, ground := Ground.phase }, { on := 7, ground := Ground.phase }, { on := 8, ground := Ground.phase }, { on := 9, ground := Ground.phase }, { on := 10, ground := Ground.phase }, { on := 11, ground := Ground.phase }, { on := 12, ground := Ground.phase }, { on := 13, ground := Ground.phase }, { on := 14, ground := Ground.phase }, { on := 15, ground := Ground.phase }, { on := 16, ground := Ground.phase }, { on := 17, ground := Ground.phase }, { on := 18, ground := Ground.phase }], guard := none } : Oper)) (v := ?v19_17d) rfl (by kernel_rfl) (by kernel_rfl) (by kernel_rfl) (fun _ _ _ h => h) (Or.inl ⟨by rfl, ?hy19_17d⟩) (by assumption) ?re19_17d
                  case hy19_17d => ((intro w hSw; (try dsimp only at hSw); go_simp) <;> with_reducible rfl)
                  (try simp only [Act.put, List.setIfInBounds_toArray, List.set_cons_zero, List.set_cons_succ])
                  refine wpAnyH_done (by kernel_rfl) ?_ _
                  refine NoPanic.normal ?_
                  have G3 := G2.step ((Below.refl _ _).alloc (Nat.le_refl _) Z32)
                  go_wp2_with (first | (go_at_call 35; (with_reducible refine (cC _ _ _ _ G2).mono ?_); rintro e w4 ⟨rfl, G⟩) | (go_at_call 35; (with_reducible refine (cC _ _ _ _ G3).mono ?_); rintro e w4 ⟨rfl, G⟩))
                  go_ret
                  exact ⟨rfl, G.below⟩
                exact AllReadyH.nil
              exact AllReadyH.nil
            refine AllReadyH.cons (o := ({ dst := some 76, op := Op.makeSlice 43 (Operand.const (Value.int IntKind.i64 32)) (Operand.const (Value.int IntKind.i64 32)), type := 43, pos := "law.go:201", after := #[{ on := 5, ground := Ground.guard }], guard := some (5, true) } : Oper)) rfl (fun K hK => ?_) ?_
            · go_simp
              refine hK.out _ _ ?_ (fun hHeld => ?_)
              · (first | assumption | exact cell_kept (by assumption) (World.grownBy_alloc _ _ none) (fun r e => by cases e))
              clear hK K
              (try simp only [Act.put, List.setIfInBounds_toArray, List.set_cons_zero, List.set_cons_succ])
              refine wpAnyH_ready (rs := [14, 16]) (by kernel_rfl) (by simp) ?_
              refine AllReadyH.cons (o := ({ dst := some 75, op := Op.call { callee := Callee.value (Operand.func 13), args := #[Operand.tmp 74], argTypes := #[9] }, type := 9, pos := "law.go:201", after := #[{ on := 13, ground := Ground.data }, { on := 5, ground := Ground.chain }, { on := 5, ground := Ground.guard }], guard := some (5, true) } : Oper)) rfl (fun K hK => ?_) ?_
              · go_simp
                (go_at_call 13; (with_reducible refine hB.mono ?_); rintro e w2 ⟨rfl, G2, hc2, hcv2⟩)
                (try go_wp2_with fail)
                refine hK.out _ _ ?_ (fun hHeld => ?_)
                · (first | assumption | exact cell_kept (by assumption) (World.grownBy_alloc _ _ none) (fun r e => by cases e))
                clear hK K
                (try simp only [Act.put, List.setIfInBounds_toArray, List.set_cons_zero, List.set_cons_succ])
                refine wpAnyH_ready (rs := [16]) (by kernel_rfl) (by simp) ?_
                refine AllReadyH.cons (o := ({ dst := some 77, op := Op.convert 43 9 (Operand.tmp 76), type := 9, pos := "law.go:201", after := #[{ on := 15, ground := Ground.data }, { on := 5, ground := Ground.guard }], guard := some (5, true) } : Oper)) rfl (fun K hK => ?_) ?_
                · go_simp
                  refine hK.out _ _ ?_ (fun hHeld => ?_)
                  · (first | assumption | exact cell_kept (by assumption) (World.grownBy_alloc _ _ none) (fun r e => by cases e))
                  clear hK K
                  (try simp only [Act.put, List.setIfInBounds_toArray, List.set_cons_zero, List.set_cons_succ])
                  refine wpAnyH_take (i := 17) (oi := ({ dst := some 78, op := Op.binOp BinOp.eql 9 (Operand.tmp 75) (Operand.tmp 77) 9, type := 4, pos := "law.go:201", after := #[{ on := 14, ground := Ground.data }, { on := 16, ground := Ground.data }, { on := 5, ground := Ground.guard }], guard := some (5, true) } : Oper)) (v := ?v17_18d) rfl (by kernel_rfl) (by kernel_rfl) (by kernel_rfl) (fun _ _ _ h => h) (Or.inl ⟨by rfl, ?hy17_18d⟩) (by assumption) ?re17_18d
                  case hy17_18d => ((intro w hSw; (try dsimp only at hSw); go_simp) <;> with_reducible rfl)
                  (try simp only [Act.put, List.setIfInBounds_toArray, List.set_cons_zero, List.set_cons_succ])
                  refine wpAnyH_take (i := 18) (oi := ({ dst := some 79, op := Op.pick (Operand.tmp 66) (Operand.tmp 78) (Operand.const (Value.bool false)), type := 4, pos := "law.go:201", after := #[{ on := 5, ground := Ground.data }, { on := 17, ground := Ground.data }], guard := none } : Oper)) (v := ?v18_19d) rfl (by kernel_rfl) (by kernel_rfl) (by kernel_rfl) (fun _ _ _ h => h) (Or.inl ⟨by rfl, ?hy18_19d⟩) (by assumption) ?re18_19d
                  case hy18_19d => ((intro w hSw; (try dsimp only at hSw); go_simp) <;> with_reducible rfl)
                  (try simp only [Act.put, List.setIfInBounds_toArray, List.set_cons_zero, List.set_cons_succ])
                  refine wpAnyH_take (i := 19) (oi := ({ dst := some 12, op := Op.assign (Operand.tmp 79), type := 4, pos := "law.go:201", after := #[{ on := 18, ground := Ground.data }, { on := 14, ground := Ground.chain }, { on := 0, ground := Ground.phase }, { on := 1, ground := Ground.phase }, { on := 2, ground := Ground.phase }, { on := 3, ground := Ground.phase }, { on := 4, ground := Ground.phase }, { on := 5, ground := Ground.phase }, { on := 6, ground := Ground.phase }, { on := 7, ground := Ground.phase }, { on := 8, ground := Ground.phase }, { on := 9, ground := Ground.phase }, { on := 10, ground := Ground.phase }, { on := 11, ground := Ground.phase }, { on := 12, ground := Ground.phase }, { on := 13, ground := Ground.phase }, { on := 14, ground := Ground.phase }, { on := 15, ground := Ground.phase }, { on := 16, ground := Ground.phase }, { on := 17, ground := Ground.phase }, { on := 18, ground := Ground.phase }], guard := none } : Oper)) (v := ?v19_20d) rfl (by kernel_rfl) (by kernel_rfl) (by kernel_rfl) (fun _ _ _ h => h) (Or.inl ⟨by rfl, ?hy19_20d⟩) (by assumption) ?re19_20d
                  case hy19_20d => ((intro w hSw; (try dsimp only at hSw); go_simp) <;> with_reducible rfl)
                  (try simp only [Act.put, List.setIfInBounds_toArray, List.set_cons_zero, List.set_cons_succ])
                  refine wpAnyH_done (by kernel_rfl) ?_ _
                  refine NoPanic.normal ?_
                  have G3 := G2.step ((Below.refl _ _).alloc (Nat.le_refl _) Z32)
                  go_wp2_with (first | (go_at_call 35; (with_reducible refine (cC _ _ _ _ G2).mono ?_); rintro e w4 ⟨rfl, G⟩) | (go_at_call 35; (with_reducible refine (cC _ _ _ _ G3).mono ?_); rintro e w4 ⟨rfl, G⟩))
                  go_ret
                  exact ⟨rfl, G.below⟩
                exact AllReadyH.nil
              refine AllReadyH.cons (o := ({ dst := some 77, op := Op.convert 43 9 (Operand.tmp 76), type := 9, pos := "law.go:201", after := #[{ on := 15, ground := Ground.data }, { on := 5, ground := Ground.guard }], guard := some (5, true) } : Oper)) rfl (fun K hK => ?_) ?_
              · go_simp
                refine hK.out _ _ ?_ (fun hHeld => ?_)
                · (first | assumption | exact cell_kept (by assumption) (World.grownBy_alloc _ _ none) (fun r e => by cases e))
                clear hK K
                (try simp only [Act.put, List.setIfInBounds_toArray, List.set_cons_zero, List.set_cons_succ])
                refine wpAnyH_ready (rs := [14]) (by kernel_rfl) (by simp) ?_
                refine AllReadyH.cons (o := ({ dst := some 75, op := Op.call { callee := Callee.value (Operand.func 13), args := #[Operand.tmp 74], argTypes := #[9] }, type := 9, pos := "law.go:201", after := #[{ on := 13, ground := Ground.data }, { on := 5, ground := Ground.chain }, { on := 5, ground := Ground.guard }], guard := some (5, true) } : Oper)) rfl (fun K hK => ?_) ?_
                · go_simp
                  (go_at_call 13; (with_reducible refine hB.mono ?_); rintro e w2 ⟨rfl, G2, hc2, hcv2⟩)
                  (try go_wp2_with fail)
                  refine hK.out _ _ ?_ (fun hHeld => ?_)
                  · (first | assumption | exact cell_kept (by assumption) (World.grownBy_alloc _ _ none) (fun r e => by cases e))
                  clear hK K
                  (try simp only [Act.put, List.setIfInBounds_toArray, List.set_cons_zero, List.set_cons_succ])
                  refine wpAnyH_take (i := 17) (oi := ({ dst := some 78, op := Op.binOp BinOp.eql 9 (Operand.tmp 75) (Operand.tmp 77) 9, type := 4, pos := "law.go:201", after := #[{ on := 14, ground := Ground.data }, { on := 16, ground := Ground.data }, { on := 5, ground := Ground.guard }], guard := some (5, true) } : Oper)) (v := ?v17_21d) rfl (by kernel_rfl) (by kernel_rfl) (by kernel_rfl) (fun _ _ _ h => h) (Or.inl ⟨by rfl, ?hy17_21d⟩) (by assumption) ?re17_21d
                  case hy17_21d => ((intro w hSw; (try dsimp only at hSw); go_simp) <;> with_reducible rfl)
                  (try simp only [Act.put, List.setIfInBounds_toArray, List.set_cons_zero, List.set_cons_succ])
                  refine wpAnyH_take (i := 18) (oi := ({ dst := some 79, op := Op.pick (Operand.tmp 66) (Operand.tmp 78) (Operand.const (Value.bool false)), type := 4, pos := "law.go:201", after := #[{ on := 5, ground := Ground.data }, { on := 17, ground := Ground.data }], guard := none } : Oper)) (v := ?v18_22d) rfl (by kernel_rfl) (by kernel_rfl) (by kernel_rfl) (fun _ _ _ h => h) (Or.inl ⟨by rfl, ?hy18_22d⟩) (by assumption) ?re18_22d
                  case hy18_22d => ((intro w hSw; (try dsimp only at hSw); go_simp) <;> with_reducible rfl)
                  (try simp only [Act.put, List.setIfInBounds_toArray, List.set_cons_zero, List.set_cons_succ])
                  refine wpAnyH_take (i := 19) (oi := ({ dst := some 12, op := Op.assign (Operand.tmp 79), type := 4, pos := "law.go:201", after := #[{ on := 18, ground := Ground.data }, { on := 14, ground := Ground.chain }, { on := 0, ground := Ground.phase }, { on := 1, ground := Ground.phase }, { on := 2, ground := Ground.phase }, { on := 3, ground := Ground.phase }, { on := 4, ground := Ground.phase }, { on := 5, ground := Ground.phase }, { on := 6, ground := Ground.phase }, { on := 7, ground := Ground.phase }, { on := 8, ground := Ground.phase }, { on := 9, ground := Ground.phase }, { on := 10, ground := Ground.phase }, { on := 11, ground := Ground.phase }, { on := 12, ground := Ground.phase }, { on := 13, ground := Ground.phase }, { on := 14, ground := Ground.phase }, { on := 15, ground := Ground.phase }, { on := 16, ground := Ground.phase }, { on := 17, ground := Ground.phase }, { on := 18, ground := Ground.phase }], guard := none } : Oper)) (v := ?v19_23d) rfl (by kernel_rfl) (by kernel_rfl) (by kernel_rfl) (fun _ _ _ h => h) (Or.inl ⟨by rfl, ?hy19_23d⟩) (by assumption) ?re19_23d
                  case hy19_23d => ((intro w hSw; (try dsimp only at hSw); go_simp) <;> with_reducible rfl)
                  (try simp only [Act.put, List.setIfInBounds_toArray, List.set_cons_zero, List.set_cons_succ])
                  refine wpAnyH_done (by kernel_rfl) ?_ _
                  refine NoPanic.normal ?_
                  have G3 := G2.step ((Below.refl _ _).alloc (Nat.le_refl _) Z32)
                  go_wp2_with (first | (go_at_call 35; (with_reducible refine (cC _ _ _ _ G2).mono ?_); rintro e w4 ⟨rfl, G⟩) | (go_at_call 35; (with_reducible refine (cC _ _ _ _ G3).mono ?_); rintro e w4 ⟨rfl, G⟩))
                  go_ret
                  exact ⟨rfl, G.below⟩
                exact AllReadyH.nil
              exact AllReadyH.nil
            exact AllReadyH.nil
    · have qe : ((hr A.reverse).toList == (hr B.reverse).toList) = false := by rw [eqB]; simp [hhk]
      clear hcl zA zB lA lB hPl hQl hPz hQz hh1 hh2 hq1 HSZ hhk hAB
      generalize ss A.reverse = XA at *
      generalize ss B.reverse = XB at *
      generalize hr A.reverse = h at *
      generalize hr B.reverse = k at *
      generalize A.length = n at *
      generalize B.length = m at *
      go_enter Tryd.func9, Tryd.ntmps9
      go_wp2_with (first | (go_at_call 12; (with_reducible refine (cS _ G).mono ?_); rintro e w1 ⟨rfl, G⟩) | (go_at_call 21; (with_reducible refine (cP _ G).mono ?_); rintro e w1 ⟨u, rfl, G⟩) | (go_at_call 21; (with_reducible refine (cQ _ _ G).mono ?_); rintro e w1 ⟨u2, rfl, G⟩) | (go_at_call 36; (with_reducible refine (cH1 _ _ _ G).mono ?_); rintro e w1 ⟨x1, xc1, rfl, G⟩) | (go_at_call 36; (with_reducible refine (cH2 _ _ _ _ G).mono ?_); rintro e w1 ⟨x2, xc2, rfl, G⟩) | (go_at_call 26; (with_reducible refine (cE _ _ _ _ _ G).mono ?_); rintro e w1 ⟨rfl, G⟩))
      go_ret
      exact ⟨rfl, G.below⟩
end Go.Proofs.YtdjdoepnljdlcaaDoor
