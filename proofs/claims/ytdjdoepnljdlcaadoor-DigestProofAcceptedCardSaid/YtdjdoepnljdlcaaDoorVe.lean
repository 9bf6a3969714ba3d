/- The walk of the law DigestProofAccepted. -/
import Derived.Test.YtdjdoepnljdlcaaDoorVl
namespace Go.Proofs.YtdjdoepnljdlcaaDoor
open Go.RowKit

set_option maxRecDepth 100000 in
set_option maxHeartbeats 4000000 in
theorem prfAcc_more (l : List ByteArray) (i : Int) (v : Value) (w : World) (hi0 : -9223372036854775808 ≤ i) (hi1 : i ≤ 9223372036854775807) (hin : In w v l) (hz : ∀ s ∈ l, s.size ≤ 9223372036854775807) (ht : Tab w) (hmode : (∀ n, (fw l 40).length = n → 0 ≤ i ∧ i < (n : Int)) ∧ ∀ j : Nat, i = (j : Int) → (prf (fw l 40) j).length ≠ 0) :
    Calls Tryd.prog 6 #[v, .int .i64 i] w fun e w' => e = .returned (.bool true) ∧ Below w.heap.size w w' := by
  have hw := pos_of ht
  have G0 : Env w w [] := ⟨ht, hw, Below.refl _ _, fun _ h => by cases h⟩
  have cS : ∀ W, Env w W [] → Calls Tryd.prog 12 #[] W fun e w' => e = .returned (.bool true) ∧ Env w w' [] := fun W g => g.call (sane_any W g.tab g.pos)
  obtain ⟨F, hF⟩ : ∃ F, fw l 40 = F := ⟨_, rfl⟩
  have hF40 : F.length ≤ 40 := by rw [← hF]; exact fw_len l 40
  have hFz : ∀ s ∈ F, s.size ≤ 137438953472 := fun s hs => by have := fw_size l 40 s (by rw [hF]; exact hs); omega
  have cF : ∀ W, Env w W [] → Calls Tryd.prog 21 #[v, .int .i64 40] W fun e w' => ∃ u, e = .returned u ∧ ((∃ b o c, u = .slice (some ⟨b, o, none⟩) F.length c) ∨ (u = .slice none 0 0 ∧ F = [])) ∧ Env w w' [(u, F)] := fun W g =>
    (few_in l 40 v W (by decide) hz (hin.below g.below)).mono fun e w' ⟨u, he, ho, hb⟩ => by
      rw [hF] at ho
      exact ⟨u, he, len_of_sl (own_sl ho), (g.step hb).add (own_sl ho)⟩
  obtain ⟨i9, hi9, hzr9, hsz9, hby9⟩ := info_parts info9'
  rw [hF] at hmode
  clear hin hz ht hF
  go_enter Tryd.func6, Tryd.ntmps6
  go_wp2_with (first | (go_at_call 12; (with_reducible refine (cS _ G0).mono ?_); rintro e w1 ⟨rfl, G0⟩) | (go_at_call 21; (with_reducible refine (cF _ G0).mono ?_); rintro e w1 ⟨u, rfl, hu, G⟩; refine Hid.out ?_))
  refine Lib.hid ?_
  clear cS cF G0
  rcases hu with ⟨b, o, c, rfl⟩ | ⟨rfl, hFnil⟩
  · · obtain ⟨n, hnF⟩ : ∃ n, F.length = n := ⟨_, rfl⟩
      rw [hnF] at G ⊢
      have cRt : ∀ W, Env w W [(.slice (some ⟨b, o, none⟩) n c, F)] → Calls Tryd.prog 27 #[.slice (some ⟨b, o, none⟩) n c] W fun e w' => e = .returned (.string (root F)) ∧ Env w w' [(.slice (some ⟨b, o, none⟩) n c, F)] := fun W g => g.call (root_any F.length F _ W (Nat.le_refl _) (by omega) hFz g.sl1 g.tab g.pos)
      have cPb : ¬ (0 ≤ i ∧ i < (n : Int)) → ∀ W, Env w W [(.slice (some ⟨b, o, none⟩) n c, F)] → Calls Tryd.prog 22 #[.slice (some ⟨b, o, none⟩) n c, .int .i64 i] W fun e w' => e = .returned (.tuple #[.slice none 0 0, .int .i64 2]) ∧ Env w w' [(.slice (some ⟨b, o, none⟩) n c, F)] := fun hi W g =>
        g.same (Proof_bad F i hi0 hi1 _ W (by omega) g.sl1 (fun h => hi ⟨h.1, by omega⟩))
      have cVb : ¬ (0 ≤ i ∧ i < (n : Int)) → ∀ W, Env w W [(.slice (some ⟨b, o, none⟩) n c, F)] → Calls Tryd.prog 29 #[.string (root F), .int .i64 (n : Int), .int .i64 i, .string ⟨#[]⟩, .slice none 0 0] W fun e w' => e = .returned (.bool false) ∧ Env w w' [(.slice (some ⟨b, o, none⟩) n c, F)] := fun hi W g => by
        have h := Verify_any (root F) (n : Int) i ⟨#[]⟩ [] (.slice none 0 0) W (by omega) (by omega) hi0 hi1 (by decide) (by decide) (fun _ h => by cases h) (.inl ⟨rfl, rfl⟩) g.tab g.pos
        rw [show ver (root F) (n : Int) i ⟨#[]⟩ [] = false by rw [ver, decide_eq_false (fun h => hi ⟨h.1, h.2.1⟩)]; rfl] at h
        exact g.call h
      have hbn : bin F.length ≤ 64 := by
        have h2 : F.length < 2 ^ 6 := by omega
        unfold bin
        split
        · omega
        · have := (Nat.log2_lt (by assumption)).2 h2
          omega
      have cBin : ∀ W, Calls Tryd.prog 33 #[.int .i64 (n : Int)] W fun e w' => e = .returned (.int .i64 ((bin F.length : Nat) : Int)) ∧ W = w' := fun W => by have := binary_any F.length (by omega) W; rw [hnF] at this ⊢; exact this
      have row : ∀ (W : World) x (k : Nat) (h : k < F.length), Env w W [x, (.slice (some ⟨b, o, none⟩) n c, F)] → W.cell? ⟨b, o + k, none⟩ = some (.string F[k]) := fun W x k h g => by
        rcases g.sl2 with ⟨h', _⟩ | ⟨b', o', c', h', h1, h2, h3, h4⟩
        · cases h'
        · simp only [Value.slice.injEq, Option.some.injEq, Addr.mk.injEq] at h'
          obtain ⟨⟨rfl, rfl, _⟩, _, rfl⟩ := h'
          exact h4 k _ (List.getElem?_eq_getElem h)
      have blt : ∀ (W : World) x, Env w W [x, (.slice (some ⟨b, o, none⟩) n c, F)] → b < W.heap.size := fun W x g => by
        rcases g.sl2 with ⟨h', _⟩ | ⟨b', o', c', h', h1, h2, h3, h4⟩
        · cases h'
        · simp only [Value.slice.injEq, Option.some.injEq, Addr.mk.injEq] at h'
          obtain ⟨⟨rfl, rfl, _⟩, _, rfl⟩ := h'
          exact h3
      have cP : ∀ (k : Nat) (h : k < F.length), ∀ W, Env w W [(.slice (some ⟨b, o, none⟩) n c, F)] → Calls Tryd.prog 22 #[.slice (some ⟨b, o, none⟩) n c, .int .i64 (k : Int)] W fun e w' => ∃ q cap, e = .returned (.tuple #[.slice q (prf F k).length cap, .int .i64 0]) ∧ Env w w' [(.slice q (prf F k).length cap, prf F k), (.slice (some ⟨b, o, none⟩) n c, F)] ∧ w'.cell? ⟨b, o + k, none⟩ = some (.string F[k]) ∧ b < w'.heap.size ∧ w'.ownsRow W.heap.size 9 1 (.slice q (prf F k).length cap) (prf F k).length (scells (prf F k)) := fun k h W g =>
        (Proof_any F k (by omega) (by omega) _ W (by omega) hFz g.sl1 g.tab g.pos ⟨by omega, by omega⟩).mono fun e w' ⟨u, he, ho, hb⟩ => by
          rw [Int.toNat_natCast] at ho
          obtain ⟨q, cap, rfl⟩ := own_q ho
          have g' := (g.step hb).add (own_sl ho)
          exact ⟨q, cap, he, g', row w' _ k h g', blt w' _ g', ho⟩
      have hz32 : ∀ s ∈ F, s.size ≤ 137438953472 := hFz
      have cV : ∀ (k : Nat) (h : k < F.length), ∀ W q cap, Env w W [(.slice q (prf F k).length cap, prf F k), (.slice (some ⟨b, o, none⟩) n c, F)] → Calls Tryd.prog 29 #[.string (root F), .int .i64 (n : Int), .int .i64 (k : Int), .string F[k], .slice q (prf F k).length cap] W fun e w' => e = .returned (.bool true) ∧ Env w w' [(.slice (some ⟨b, o, none⟩) n c, F)] := fun k h W q cap g =>
        (Verify_any (root F) (n : Int) k F[k] (prf F k) _ W (by omega) (by omega) (by omega) (by omega) (Nat.le_trans (prf_len 6 F k (by omega)) (by decide)) (hFz _ (List.getElem_mem h)) (digest_small (prf_all _ F k (Nat.le_refl _))) g.sl1 g.tab g.pos).mono fun e w' ⟨he, hb⟩ => ⟨by
          have hv := ver_prf F k h
          rw [hnF] at hv
          rw [he, hv], (g.step hb).drop⟩
      have hPl : ∀ k, (prf F k).length ≤ bin F.length := fun k => prf_len _ F k (bin_bound _)
      obtain ⟨R, hR⟩ : ∃ r, root F = r := ⟨_, rfl⟩
      obtain ⟨B, hB⟩ : ∃ r, bin F.length = r := ⟨_, rfl⟩
      rw [hR] at cRt cV cVb
      rw [hB] at cBin hPl hbn
      have hn40 : n ≤ 40 := by omega
      have HF := Lib.hid hnF
      clear hnF
      go_wp2_with (first | (go_at_call 27; (with_reducible refine (cRt _ G).mono ?_); rintro e w2 ⟨rfl, G⟩))
      go_loopw [7, 8, 9] (fun i _ _ wr => ∃ k : Nat, k ≤ n ∧ i = .int .i64 (k : Int) ∧ Env w wr [(.slice (some ⟨b, o, none⟩) n c, F)]) (fun i _ _ _ => n - (intOf i).toNat)
      case atStart => exact ⟨0, by omega, rfl, G⟩
      case round =>
        clear G
        obtain ⟨k, hk, rfl, G⟩ := hrel
        by_cases hlt : k < n
        · have hkF : k < F.length := by have := HF.out; omega
          have cPk := cP k hkF
          have cVk := cV k hkF
          have hz := hPl k
          obtain ⟨z, hz'⟩ : ∃ z, (prf F k).length = z := ⟨_, rfl⟩
          obtain ⟨X, hX⟩ : ∃ z, prf F k = z := ⟨_, rfl⟩
          obtain ⟨S, hS⟩ : ∃ z, F[k] = z := ⟨_, rfl⟩
          rw [hz', hX, hS] at cPk
          rw [hz', hX, hS] at cVk
          rw [hz'] at hz
          have i1 : (k : Int) < (n : Int) := by omega
          have i2 : ¬ (B : Int) < (z : Int) := by omega
          have i3 : (0 : Int) ≤ (k : Int) := by omega
          clear hz' hX hS hkF cP cV hPl hz cPb cVb row hFz hF40 hR hB hz32
          go_wp2_with (first | (go_at_call 22; (with_reducible refine (cPk _ G).mono ?_); rintro e w3 ⟨q, cap, rfl, G, hcell, hb3, hown⟩) | (go_at_call 33; (with_reducible refine (cBin _).mono ?_); rintro e w3 ⟨rfl, rfl⟩) | (go_at_call 29; (with_reducible refine (cVk _ _ _ G).mono ?_); rintro e w3 ⟨rfl, G⟩))
          go_roundw
          case rel => exact ⟨k + 1, by omega, by go_num, G⟩
          case measure => simp [intOf]; omega
        · have i1 : ¬ (k : Int) < (n : Int) := by omega
          have hi := hmode.1 n (HF.out)
          · obtain ⟨a0, a1⟩ := hi
            obtain ⟨j, rfl⟩ : ∃ j : Nat, i = (j : Int) := ⟨i.toNat, by omega⟩
            have hjF : j < F.length := by have := HF.out; omega
            have cPj := cP j hjF
            have hlong := ver_longer F j R hjF
            have hshort := ver_shorter F j hjF
            have hX32 := prf_all _ F j (Nat.le_refl _)
            have hXl : (prf F j).length ≤ 6 := prf_len 6 F j (by omega)
            have hSz := hFz _ (List.getElem_mem hjF)
            have hR32 : R.size = 32 := hR ▸ root_size F
            have rowj := fun W x g => row W x j hjF g
            rw [hR] at hlong hshort
            rw [HF.out] at hlong hshort
            obtain ⟨X, hX⟩ : ∃ z, prf F j = z := ⟨_, rfl⟩
            obtain ⟨z, hz'⟩ : ∃ z, X.length = z := ⟨_, rfl⟩
            obtain ⟨S, hS⟩ : ∃ z, F[j] = z := ⟨_, rfl⟩
            rw [hX, hz', hS] at cPj
            rw [hX, hS] at hlong hshort
            rw [hX] at hX32 hXl
            rw [hS] at hSz
            rw [hz'] at hXl hshort
            simp only [hS] at rowj
            have cL : ∀ W u x, Env w W [(u, X ++ [R]), x, (.slice (some ⟨b, o, none⟩) n c, F)] → Calls Tryd.prog 29 #[.string R, .int .i64 (n : Int), .int .i64 (j : Int), .string S, u] W fun e w' => e = .returned (.bool false) ∧ Env w w' [x, (.slice (some ⟨b, o, none⟩) n c, F)] := fun W u x g => by
              have h := Verify_any R (n : Int) j S (X ++ [R]) u W (by omega) (by omega) (by omega) (by omega) (by rw [List.length_append, hz']; simp; omega) hSz (digest_small (all32_snoc.2 ⟨hX32, hR32⟩)) g.sl1 g.tab g.pos
              rw [hlong] at h
              exact (g.call h).mono fun _ _ g' => ⟨g'.1, g'.2.drop⟩
            clear cP cV hPl cBin row hFz hF40 hz32 cPb cVb hS hlong hjF hR hB hR32
            have hz0 : z ≠ 0 := by rw [← hz', ← hX]; exact hmode.2 j rfl
            clear hmode hX
            · have hz1 : 0 < z := by omega
              have hsh := hshort hz1
              have HS1 := Lib.hid (scells_one X)
              have HSl := Lib.hid (show (scells X).length = z * 1 by rw [scells_len, hz'])
              have cSh : ∀ W g cap, Env w W [(.slice (some ⟨g, 0, none⟩) z cap, X), (.slice (some ⟨b, o, none⟩) n c, F)] → Calls Tryd.prog 29 #[.string R, .int .i64 (n : Int), .int .i64 (j : Int), .string S, .slice (some ⟨g, 1, none⟩) (z - 1) (cap - 1)] W fun e w' => e = .returned (.bool false) ∧ Env w w' [(.slice (some ⟨g, 0, none⟩) z cap, X), (.slice (some ⟨b, o, none⟩) n c, F)] := fun W g cap g1 => by
                have hsl : Sl W (.slice (some ⟨g, 1, none⟩) (z - 1) (cap - 1)) (X.drop 1) := by
                  rcases g1.sl1 with ⟨h', _⟩ | ⟨b', o', c', h', h1, h2, h3, h4⟩
                  · cases h'
                  · simp only [Value.slice.injEq, Option.some.injEq, Addr.mk.injEq] at h'
                    obtain ⟨⟨rfl, rfl, _⟩, _, rfl⟩ := h'
                    have := Sl.drop (k := 1) h4 h1 h2 h3
                    rw [Nat.zero_add, hz'] at this
                    exact this
                have h := Verify_any R (n : Int) j S (X.drop 1) _ W (by omega) (by omega) (by omega) (by omega) (by rw [List.length_drop]; omega) hSz (digest_small (fun x hx => hX32 x (List.mem_of_mem_drop hx))) hsl g1.tab g1.pos
                rw [hsh] at h
                exact g1.call h
              have hX10 : z = 1 → X.drop 1 = [] := fun h => List.drop_eq_nil_of_le (by omega)
              have cSh1 : X.drop 1 = [] → ∀ (W : World) (gp : Nat), Env w W [(.slice (some ⟨gp, 0, none⟩) 1 1, X), (.slice (some ⟨b, o, none⟩) n c, F)] → Calls Tryd.prog 29 #[.string R, .int .i64 (n : Int), .int .i64 (j : Int), .string S, .slice (some ⟨gp, 0, none⟩) 0 0] W fun e w' => e = .returned (.bool false) ∧ Env w w' [(.slice (some ⟨gp, 0, none⟩) 1 1, X), (.slice (some ⟨b, o, none⟩) n c, F)] := fun hX1 W gp g1 => by
                have hsl : Sl W (.slice (some ⟨gp, 0, none⟩) 0 0) [] := by
                  rcases g1.sl1 with ⟨h', _⟩ | ⟨b', o', c', h', h1, h2, h3, h4⟩
                  · cases h'
                  · simp only [Value.slice.injEq, Option.some.injEq, Addr.mk.injEq] at h'
                    obtain ⟨⟨rfl, rfl, _⟩, _, rfl⟩ := h'
                    exact .inr ⟨gp, 0, 0, rfl, Nat.le_refl _, by decide, h3, fun j x hj => by cases hj⟩
                have h := Verify_any R (n : Int) j S [] _ W (by omega) (by omega) (by omega) (by omega) (by decide) hSz (fun _ h => by cases h) hsl g1.tab g1.pos
                rw [← hX1, hsh] at h
                exact g1.call h
              have HX := Lib.hid hz'
              have hz7 : z ≤ 6 := hXl
              clear hshort hz' hX32 hXl hsh hSz
              go_wp2_with (first | (go_at_call 22; (with_reducible refine (cPj _ G).mono ?_); rintro e w3 ⟨q, cap, rfl, G, hcell, hb3, hown⟩; refine Hid.out ?_))
              refine Lib.hid ?_
              obtain ⟨gp, rfl⟩ : ∃ gp, q = some ⟨gp, 0, none⟩ := by
                rcases G.sl1 with ⟨h', hX0⟩ | ⟨b', o', c', h', _⟩
                · rw [hX0] at HX; exact absurd HX.out (by simp; omega)
                · rcases hown.2 with ⟨h'', _⟩ | ⟨g', cap', cur', h'', _⟩
                  · simp only [Value.slice.injEq] at h''; omega
                  · simp only [Value.slice.injEq] at h''; exact ⟨g', h''.1⟩
              obtain ⟨hgp, hzc, hcp, hrX⟩ : gp < w3.heap.size ∧ z ≤ cap ∧ cap ≤ 9223372036854775807 ∧ StrRow w3 gp 0 X := by
                rcases G.sl1 with ⟨h', _⟩ | ⟨b', o', c', h', h1, h2, h3, h4⟩
                · cases h'
                · simp only [Value.slice.injEq, Option.some.injEq, Addr.mk.injEq] at h'
                  obtain ⟨⟨rfl, rfl, _⟩, _, rfl⟩ := h'
                  exact ⟨h3, by have := HX.out; omega, h2, h4⟩
              have hA := Below.refl w3.heap.size w3
              have hA1 := hA.alloc hA.size (.cells #[] 9)
              have hA2 := hA.alloc hA.size (.cells #[.string R] 9)
              have hA12 := hA1.alloc hA1.size (.cells #[.string R] 9)
              have hA21 := hA2.alloc hA2.size (.cells #[] 9)
              have s1 := hA1.size
              have s12 := hA12.size
              have s21 := hA21.size
              have HX1 := Lib.hid (str_news (hrX.below hA1 hgp))
              have HX12 := Lib.hid (str_news (hrX.below hA12 hgp))
              have HX21 := Lib.hid (str_news (hrX.below hA21 hgp))
              have HO1 := Lib.hid (own_empty (W := w3) (base := w3.heap.size) (Nat.le_refl _))
              have HO12 := Lib.hid (HO1.out.alloc (.cells #[.string R] 9))
              have hO21 := own_empty (W := w3.alloc (.cells #[.string R] 9)) (base := w3.heap.size) hA2.size
              have hN12 := one_newS (w3.alloc (.cells #[] 9)) (.string R)
              have q1 : (w3.alloc (.cells #[] 9)).heap.size = w3.heap.size + 1 := by simp
              have q2 : (w3.alloc (.cells #[.string R] 9)).heap.size = w3.heap.size + 1 := by simp
              rw [q1] at hN12
              rw [q2] at hO21
              have HN12 := Lib.hid hN12
              have HO21 := Lib.hid hO21
              have HN21 := Lib.hid (str_news (l := [R]) (b := w3.heap.size) (o := 0) (StrRow.below (w := w3.alloc (.cells #[.string R] 9)) (fun j x hj => by rw [Nat.zero_add]; have := one_newS w3 (.string R) j (.string x) (by cases j with | zero => simp at hj; subst hj; rfl | succ j => simp at hj); rwa [Addr.add_mid, Nat.zero_add] at this) ((Below.refl _ _).alloc (Nat.le_refl _) (.cells #[] 9)) (by simp)))
              have HXL := Lib.hid (show (X ++ [R]).length = z + 1 by rw [List.length_append, HX.out]; rfl)
              have HXC := Lib.hid (show scells (X ++ [R]) = scells X ++ [.string R] by simp [scells])
              clear hN12 hO21 q1 q2 hrX hown
              go_wp2
              have hcd : w3.drew.cell? ⟨b, o + j, none⟩ = some (.string S) := hcell
              have k1 : ((w3.alloc (.cells #[] 9)).drew).cell? ⟨b, o + j, none⟩ = some (.string S) := (hA1.cell (p := ⟨b, o + j, none⟩) hb3).trans hcell
              have k2 : ((w3.alloc (.cells #[.string R] 9)).drew).cell? ⟨b, o + j, none⟩ = some (.string S) := (hA2.cell (p := ⟨b, o + j, none⟩) hb3).trans hcell
              have k3 : (((w3.alloc (.cells #[] 9)).alloc (.cells #[.string R] 9)).drew).cell? ⟨b, o + j, none⟩ = some (.string S) := (hA12.cell (p := ⟨b, o + j, none⟩) hb3).trans hcell
              have k4 : (((w3.alloc (.cells #[.string R] 9)).alloc (.cells #[] 9)).drew).cell? ⟨b, o + j, none⟩ = some (.string S) := (hA21.cell (p := ⟨b, o + j, none⟩) hb3).trans hcell
              go_region_held3 (fun W => W.cell? ⟨b, o + j, none⟩ = some (.string S)) (first | assumption | exact cell_kept (by assumption) (World.grownBy_alloc _ _ none) (fun r e => by cases e)) (first | (refine step_lies0 rfl (.tmp 105) (.tmp 106) rfl w3.heap.size _ rfl HO1.out ⟨gp, 0, none⟩ z cap (scells X) rfl HSl.out HX1.out HS1.out hz1 (by unfold maxLen; omega) (by omega) s1 ?_; intro g4 cap4 w4 hown4 hgrow4; have hB4 := hA1.drew.grown hgrow4 s1 fun k e => (HO1.out.lt k e).1; have hc4 := rowj _ _ (G.step hB4); have hb4 : b < w4.heap.size := Nat.lt_of_lt_of_le hb3 hB4.size; clear hgrow4) | (refine step_lies0 rfl (.tmp 105) (.tmp 106) rfl w3.heap.size _ rfl HO12.out ⟨gp, 0, none⟩ z cap (scells X) rfl HSl.out HX12.out HS1.out hz1 (by unfold maxLen; omega) (by omega) s12 ?_; intro g4 cap4 w4 hown4 hgrow4; have hB4 := hA12.drew.grown hgrow4 s12 fun k e => (HO12.out.lt k e).1; have hc4 := rowj _ _ (G.step hB4); have hb4 : b < w4.heap.size := Nat.lt_of_lt_of_le hb3 hB4.size; have HNR := Lib.hid (news_far hgrow4 HN12.out (by simp) (by show some (w3.heap.size + 1) ≠ some w3.heap.size; simp)); clear hgrow4) | (refine step_lies0 rfl (.tmp 105) (.tmp 106) rfl w3.heap.size _ rfl HO21.out ⟨gp, 0, none⟩ z cap (scells X) rfl HSl.out HX21.out HS1.out hz1 (by unfold maxLen; omega) (by omega) s21 ?_; intro g4 cap4 w4 hown4 hgrow4; have hB4 := hA21.drew.grown hgrow4 s21 fun k e => (HO21.out.lt k e).1; have hc4 := rowj _ _ (G.step hB4); have hb4 : b < w4.heap.size := Nat.lt_of_lt_of_le hb3 hB4.size; have HNR := Lib.hid (news_far hgrow4 HN21.out (by simp; omega) (by show some w3.heap.size ≠ some (w3.heap.size + 1); simp)); clear hgrow4) | (refine step_append_lies _ rfl (.tmp 107) (.tmp 109) 26 rfl w3.heap.size 9 i9 (.string ⟨#[]⟩) 1 16 Tryd.underlying26 hi9 hzr9 hsz9 hby9 rfl (by decide) _ z (scells X) rfl (hown4.alloc _) ⟨w4.heap.size, 0, none⟩ 1 1 [.string R] rfl rfl (one_newS w4 _) (by intro u hu; simp at hu; subst hu; rfl) (by decide) (by unfold maxLen; omega) (by omega) (Nat.le_trans hB4.size (by simp)) _ rfl ?_; intro g5 cap5 w5 hown5 hgrow5 _ _; have hB5 := (hB4.alloc hB4.size (.cells #[.string R] 9)).grown hgrow5 (Nat.le_trans hB4.size (by simp)) fun k e => (hown4.lt k e).1; have hc5 := rowj _ _ (G.step hB5); have G5 := (G.step hB5).add (l := X ++ [R]) (own_sl (by rw [HXL.out, HXC.out]; exact hown5)); clear hown5 hgrow5) | (refine step_append_lies _ rfl (.tmp 107) (.tmp 109) 26 rfl w3.heap.size 9 i9 (.string ⟨#[]⟩) 1 16 Tryd.underlying26 hi9 hzr9 hsz9 hby9 rfl (by decide) _ z (scells X) rfl hown4 ⟨w3.heap.size + 1, 0, none⟩ 1 1 [.string R] rfl rfl HNR.out (by intro u hu; simp at hu; subst hu; rfl) (by decide) (by unfold maxLen; omega) (by omega) hB4.size _ rfl ?_; intro g5 cap5 w5 hown5 hgrow5 _ _; have hB5 := hB4.grown hgrow5 hB4.size fun k e => (hown4.lt k e).1; have hc5 := rowj _ _ (G.step hB5); have G5 := (G.step hB5).add (l := X ++ [R]) (own_sl (by rw [HXL.out, HXC.out]; exact hown5)); clear hown5 hgrow5) | (refine step_append_lies _ rfl (.tmp 107) (.tmp 109) 26 rfl w3.heap.size 9 i9 (.string ⟨#[]⟩) 1 16 Tryd.underlying26 hi9 hzr9 hsz9 hby9 rfl (by decide) _ z (scells X) rfl hown4 ⟨w3.heap.size, 0, none⟩ 1 1 [.string R] rfl rfl HNR.out (by intro u hu; simp at hu; subst hu; rfl) (by decide) (by unfold maxLen; omega) (by omega) hB4.size _ rfl ?_; intro g5 cap5 w5 hown5 hgrow5 _ _; have hB5 := hB4.grown hgrow5 hB4.size fun k e => (hown4.lt k e).1; have hc5 := rowj _ _ (G.step hB5); have G5 := (G.step hB5).add (l := X ++ [R]) (own_sl (by rw [HXL.out, HXC.out]; exact hown5)); clear hown5 hgrow5) | (go_at_call 29; (with_reducible refine (cL _ _ _ G5).mono ?_); rintro e w6 ⟨rfl, G⟩; have hc6 := rowj _ _ G))
              all_goals
                have hc7 := rowj _ _ G.drew
                have G7 := G.drew
                have hd0 : decide ((0 : Int) < (z : Int)) = true := decide_eq_true (by omega)
                by_cases hc1 : cap = 1
                · subst hc1
                  obtain rfl : z = 1 := by omega
                  have hX1 := hX10 rfl
                  have cS1 := cSh1 hX1 _ _ G7
                  clear cSh cSh1 cL hX1 hX10
                  go_wp2
                  go_region_held3 (fun W => W.cell? ⟨b, o + j, none⟩ = some (.string S)) (first | assumption) (first | (go_at_call 29; (with_reducible refine cS1.mono ?_); rintro e w7 ⟨rfl, G8⟩; have hc8 := rowj _ _ G8))
                  all_goals (go_wp2; go_ret; exact ⟨rfl, Env.below (by assumption)⟩)
                · have t1 : (1 : Int) ≤ (z : Int) := by omega
                  have t2 : (z : Int) ≤ (cap : Int) := by omega
                  have t3 : (1 : Int) < (cap : Int) := by omega
                  have t4 : (1 : Int) ≤ (cap : Int) := by omega
                  have cS1 := cSh _ gp cap G7
                  clear cSh cSh1 cL hX10
                  go_wp2
                  go_region_held3 (fun W => W.cell? ⟨b, o + j, none⟩ = some (.string S)) (first | assumption) (first | (go_at_call 29; (with_reducible refine cS1.mono ?_); rintro e w7 ⟨rfl, G8⟩; have hc8 := rowj _ _ G8))
                  all_goals (go_wp2; go_ret; exact ⟨rfl, Env.below (by assumption)⟩)
  · have := hmode.1 0 (by rw [hFnil]; rfl)
    omega
end Go.Proofs.YtdjdoepnljdlcaaDoor
