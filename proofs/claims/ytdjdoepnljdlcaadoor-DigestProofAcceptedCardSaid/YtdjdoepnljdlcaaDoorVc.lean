/- The walk of the law DigestProofAccepted. -/
import Derived.Test.YtdjdoepnljdlcaaDoorVl
namespace Go.Proofs.YtdjdoepnljdlcaaDoor
open Go.RowKit

set_option maxRecDepth 100000 in
set_option maxHeartbeats 4000000 in
theorem prfAcc_out (l : List ByteArray) (i : Int) (v : Value) (w : World) (hi0 : -9223372036854775808 ≤ i) (hi1 : i ≤ 9223372036854775807) (hin : In w v l) (hz : ∀ s ∈ l, s.size ≤ 9223372036854775807) (ht : Tab w) (hmode : ∀ n, (fw l 40).length = n → ¬ (0 ≤ i ∧ i < (n : Int))) :
    Calls Tryd.prog 6 #[v, .int .i64 i] w fun e w' => e = .returned (.bool true) ∧ Below w.heap.size w w' := by
  have hw := pos_of ht
  have G0 : Env w w [] := ⟨ht, hw, Below.refl _ _, fun _ h => by cases h⟩
  have cS : ∀ W, Env w W [] → Calls Tryd.prog 12 #[] W fun e w' => e = .returned (.bool true) ∧ Env w w' [] := fun W g => g.call (sane_any W g.tab g.pos)
  obtain ⟨F, hF⟩ : ∃ F, fw l 40 = F := ⟨_, rfl⟩
  have hF40 : F.length ≤ 40 := by rw [← hF]; exact fw_len l 40
  have hFz : ∀ s ∈ F, s.size ≤ 137438953472 := fun s hs => by have := fw_size l 40 s (by rw [hF]; exact hs); omega
  have cF : ∀ W, Env w W [] → Calls Tryd.prog 21 #[v, .int .i64 40] W fun e w' => ∃ u, e = .returned u ∧ ((∃ b o c, u = .slice (some ⟨b, o, none⟩) F.length c) ∨ (u = .slice none 0 0 ∧ F = [])) ∧ Env w w' [(u, F)] := fun W g =>
    (few_in l 40 v W (by decide) hz (hin.below g.below)).mono fun e w' ⟨u, he, ho, hb⟩ => by
      rw [hF] at ho
      exact ⟨u, he, len_of_sl (own_sl ho), (g.step hb).add (own_sl ho)⟩
  obtain ⟨i9, hi9, hzr9, hsz9, hby9⟩ := info_parts info9'
  rw [hF] at hmode
  clear hin hz ht hF
  go_enter Tryd.func6, Tryd.ntmps6
  go_wp2_with (first | (go_at_call 12; (with_reducible refine (cS _ G0).mono ?_); rintro e w1 ⟨rfl, G0⟩) | (go_at_call 21; (with_reducible refine (cF _ G0).mono ?_); rintro e w1 ⟨u, rfl, hu, G⟩; refine Hid.out ?_))
  refine Lib.hid ?_
  clear cS cF G0
  rcases hu with ⟨b, o, c, rfl⟩ | ⟨rfl, hFnil⟩
  · · obtain ⟨n, hnF⟩ : ∃ n, F.length = n := ⟨_, rfl⟩
      rw [hnF] at G ⊢
      have cRt : ∀ W, Env w W [(.slice (some ⟨b, o, none⟩) n c, F)] → Calls Tryd.prog 27 #[.slice (some ⟨b, o, none⟩) n c] W fun e w' => e = .returned (.string (root F)) ∧ Env w w' [(.slice (some ⟨b, o, none⟩) n c, F)] := fun W g => g.call (root_any F.length F _ W (Nat.le_refl _) (by omega) hFz g.sl1 g.tab g.pos)
      have cPb : ¬ (0 ≤ i ∧ i < (n : Int)) → ∀ W, Env w W [(.slice (some ⟨b, o, none⟩) n c, F)] → Calls Tryd.prog 22 #[.slice (some ⟨b, o, none⟩) n c, .int .i64 i] W fun e w' => e = .returned (.tuple #[.slice none 0 0, .int .i64 2]) ∧ Env w w' [(.slice (some ⟨b, o, none⟩) n c, F)] := fun hi W g =>
        g.same (Proof_bad F i hi0 hi1 _ W (by omega) g.sl1 (fun h => hi ⟨h.1, by omega⟩))
      have cVb : ¬ (0 ≤ i ∧ i < (n : Int)) → ∀ W, Env w W [(.slice (some ⟨b, o, none⟩) n c, F)] → Calls Tryd.prog 29 #[.string (root F), .int .i64 (n : Int), .int .i64 i, .string ⟨#[]⟩, .slice none 0 0] W fun e w' => e = .returned (.bool false) ∧ Env w w' [(.slice (some ⟨b, o, none⟩) n c, F)] := fun hi W g => by
        have h := Verify_any (root F) (n : Int) i ⟨#[]⟩ [] (.slice none 0 0) W (by omega) (by omega) hi0 hi1 (by decide) (by decide) (fun _ h => by cases h) (.inl ⟨rfl, rfl⟩) g.tab g.pos
        rw [show ver (root F) (n : Int) i ⟨#[]⟩ [] = false by rw [ver, decide_eq_false (fun h => hi ⟨h.1, h.2.1⟩)]; rfl] at h
        exact g.call h
      have hbn : bin F.length ≤ 64 := by
        have h2 : F.length < 2 ^ 6 := by omega
        unfold bin
        split
        · omega
        · have := (Nat.log2_lt (by assumption)).2 h2
          omega
      have cBin : ∀ W, Calls Tryd.prog 33 #[.int .i64 (n : Int)] W fun e w' => e = .returned (.int .i64 ((bin F.length : Nat) : Int)) ∧ W = w' := fun W => by have := binary_any F.length (by omega) W; rw [hnF] at this ⊢; exact this
      have row : ∀ (W : World) x (k : Nat) (h : k < F.length), Env w W [x, (.slice (some ⟨b, o, none⟩) n c, F)] → W.cell? ⟨b, o + k, none⟩ = some (.string F[k]) := fun W x k h g => by
        rcases g.sl2 with ⟨h', _⟩ | ⟨b', o', c', h', h1, h2, h3, h4⟩
        · cases h'
        · simp only [Value.slice.injEq, Option.some.injEq, Addr.mk.injEq] at h'
          obtain ⟨⟨rfl, rfl, _⟩, _, rfl⟩ := h'
          exact h4 k _ (List.getElem?_eq_getElem h)
      have blt : ∀ (W : World) x, Env w W [x, (.slice (some ⟨b, o, none⟩) n c, F)] → b < W.heap.size := fun W x g => by
        rcases g.sl2 with ⟨h', _⟩ | ⟨b', o', c', h', h1, h2, h3, h4⟩
        · cases h'
        · simp only [Value.slice.injEq, Option.some.injEq, Addr.mk.injEq] at h'
          obtain ⟨⟨rfl, rfl, _⟩, _, rfl⟩ := h'
          exact h3
      have cP : ∀ (k : Nat) (h : k < F.length), ∀ W, Env w W [(.slice (some ⟨b, o, none⟩) n c, F)] → Calls Tryd.prog 22 #[.slice (some ⟨b, o, none⟩) n c, .int .i64 (k : Int)] W fun e w' => ∃ q cap, e = .returned (.tuple #[.slice q (prf F k).length cap, .int .i64 0]) ∧ Env w w' [(.slice q (prf F k).length cap, prf F k), (.slice (some ⟨b, o, none⟩) n c, F)] ∧ w'.cell? ⟨b, o + k, none⟩ = some (.string F[k]) ∧ b < w'.heap.size ∧ w'.ownsRow W.heap.size 9 1 (.slice q (prf F k).length cap) (prf F k).length (scells (prf F k)) := fun k h W g =>
        (Proof_any F k (by omega) (by omega) _ W (by omega) hFz g.sl1 g.tab g.pos ⟨by omega, by omega⟩).mono fun e w' ⟨u, he, ho, hb⟩ => by
          rw [Int.toNat_natCast] at ho
          obtain ⟨q, cap, rfl⟩ := own_q ho
          have g' := (g.step hb).add (own_sl ho)
          exact ⟨q, cap, he, g', row w' _ k h g', blt w' _ g', ho⟩
      have hz32 : ∀ s ∈ F, s.size ≤ 137438953472 := hFz
      have cV : ∀ (k : Nat) (h : k < F.length), ∀ W q cap, Env w W [(.slice q (prf F k).length cap, prf F k), (.slice (some ⟨b, o, none⟩) n c, F)] → Calls Tryd.prog 29 #[.string (root F), .int .i64 (n : Int), .int .i64 (k : Int), .string F[k], .slice q (prf F k).length cap] W fun e w' => e = .returned (.bool true) ∧ Env w w' [(.slice (some ⟨b, o, none⟩) n c, F)] := fun k h W q cap g =>
        (Verify_any (root F) (n : Int) k F[k] (prf F k) _ W (by omega) (by omega) (by omega) (by omega) (Nat.le_trans (prf_len 6 F k (by omega)) (by decide)) (hFz _ (List.getElem_mem h)) (digest_small (prf_all _ F k (Nat.le_refl _))) g.sl1 g.tab g.pos).mono fun e w' ⟨he, hb⟩ => ⟨by
          have hv := ver_prf F k h
          rw [hnF] at hv
          rw [he, hv], (g.step hb).drop⟩
      have hPl : ∀ k, (prf F k).length ≤ bin F.length := fun k => prf_len _ F k (bin_bound _)
      obtain ⟨R, hR⟩ : ∃ r, root F = r := ⟨_, rfl⟩
      obtain ⟨B, hB⟩ : ∃ r, bin F.length = r := ⟨_, rfl⟩
      rw [hR] at cRt cV cVb
      rw [hB] at cBin hPl hbn
      have hn40 : n ≤ 40 := by omega
      have HF := Lib.hid hnF
      clear hnF
      go_wp2_with (first | (go_at_call 27; (with_reducible refine (cRt _ G).mono ?_); rintro e w2 ⟨rfl, G⟩))
      go_loopw [7, 8, 9] (fun i _ _ wr => ∃ k : Nat, k ≤ n ∧ i = .int .i64 (k : Int) ∧ Env w wr [(.slice (some ⟨b, o, none⟩) n c, F)]) (fun i _ _ _ => n - (intOf i).toNat)
      case atStart => exact ⟨0, by omega, rfl, G⟩
      case round =>
        clear G
        obtain ⟨k, hk, rfl, G⟩ := hrel
        by_cases hlt : k < n
        · have hkF : k < F.length := by have := HF.out; omega
          have cPk := cP k hkF
          have cVk := cV k hkF
          have hz := hPl k
          obtain ⟨z, hz'⟩ : ∃ z, (prf F k).length = z := ⟨_, rfl⟩
          obtain ⟨X, hX⟩ : ∃ z, prf F k = z := ⟨_, rfl⟩
          obtain ⟨S, hS⟩ : ∃ z, F[k] = z := ⟨_, rfl⟩
          rw [hz', hX, hS] at cPk
          rw [hz', hX, hS] at cVk
          rw [hz'] at hz
          have i1 : (k : Int) < (n : Int) := by omega
          have i2 : ¬ (B : Int) < (z : Int) := by omega
          have i3 : (0 : Int) ≤ (k : Int) := by omega
          clear hz' hX hS hkF cP cV hPl hz cPb cVb row hFz hF40 hR hB hz32
          go_wp2_with (first | (go_at_call 22; (with_reducible refine (cPk _ G).mono ?_); rintro e w3 ⟨q, cap, rfl, G, hcell, hb3, hown⟩) | (go_at_call 33; (with_reducible refine (cBin _).mono ?_); rintro e w3 ⟨rfl, rfl⟩) | (go_at_call 29; (with_reducible refine (cVk _ _ _ G).mono ?_); rintro e w3 ⟨rfl, G⟩))
          go_roundw
          case rel => exact ⟨k + 1, by omega, by go_num, G⟩
          case measure => simp [intOf]; omega
        · have i1 : ¬ (k : Int) < (n : Int) := by omega
          have hi := hmode n (HF.out)
          · clear hmode cP cV hPl cBin row hFz hF40 hR hB hz32
            have cPB := cPb hi
            have cVB := cVb hi
            have hor : i < 0 ∨ (n : Int) ≤ i := by omega
            clear cPb cVb hi
            rcases hor with a0 | a0
            · have a1 : ¬ 0 ≤ i := by omega
              go_wp2_with (first | (go_at_call 22; (with_reducible refine (cPB _ G).mono ?_); rintro e w3 ⟨rfl, G⟩) | (go_at_call 29; (with_reducible refine (cVB _ G).mono ?_); rintro e w3 ⟨rfl, G⟩))
              go_ret
              exact ⟨rfl, G.below⟩
            · have a1 : 0 ≤ i := by omega
              have a3 : decide (i < (n : Int)) = false := decide_eq_false (by omega)
              go_wp2_with (first | (go_at_call 22; (with_reducible refine (cPB _ G).mono ?_); rintro e w3 ⟨rfl, G⟩) | (go_at_call 29; (with_reducible refine (cVB _ G).mono ?_); rintro e w3 ⟨rfl, G⟩))
              go_ret
              exact ⟨rfl, G.below⟩
  · · skip
      have hn : F.length = 0 := by rw [hFnil]; rfl
      have cRt : ∀ W, Env w W [(.slice none 0 0, F)] → Calls Tryd.prog 27 #[.slice none 0 0] W fun e w' => e = .returned (.string (root F)) ∧ Env w w' [(.slice none 0 0, F)] := fun W g => g.call (root_any F.length F _ W (Nat.le_refl _) (by omega) hFz g.sl1 g.tab g.pos)
      have cPb : ¬ (0 ≤ i ∧ i < 0) → ∀ W, Env w W [(.slice none 0 0, F)] → Calls Tryd.prog 22 #[.slice none 0 0, .int .i64 i] W fun e w' => e = .returned (.tuple #[.slice none 0 0, .int .i64 2]) ∧ Env w w' [(.slice none 0 0, F)] := fun hi W g =>
        g.same (Proof_bad F i hi0 hi1 _ W (by omega) g.sl1 (fun h => hi ⟨h.1, by omega⟩))
      have cVb : ¬ (0 ≤ i ∧ i < 0) → ∀ W, Env w W [(.slice none 0 0, F)] → Calls Tryd.prog 29 #[.string (root F), .int .i64 0, .int .i64 i, .string ⟨#[]⟩, .slice none 0 0] W fun e w' => e = .returned (.bool false) ∧ Env w w' [(.slice none 0 0, F)] := fun hi W g => by
        have h := Verify_any (root F) 0 i ⟨#[]⟩ [] (.slice none 0 0) W (by omega) (by omega) hi0 hi1 (by decide) (by decide) (fun _ h => by cases h) (.inl ⟨rfl, rfl⟩) g.tab g.pos
        rw [show ver (root F) 0 i ⟨#[]⟩ [] = false by rw [ver, decide_eq_false (fun h => hi ⟨h.1, h.2.1⟩)]; rfl] at h
        exact g.call h
      have hi : ¬ (0 ≤ i ∧ i < 0) := by omega
      obtain ⟨R, hR⟩ : ∃ r, root F = r := ⟨_, rfl⟩
      rw [hR] at cRt cVb
      clear hn hFnil hF40 hFz hR
      go_wp2_with (first | (go_at_call 27; (with_reducible refine (cRt _ G).mono ?_); rintro e w2 ⟨rfl, G⟩))
      go_loopw [7, 8, 9] (fun i _ _ wr => i = .int .i64 0 ∧ Env w wr [(.slice none 0 0, F)]) (fun _ _ _ _ => 0)
      case atStart => exact ⟨rfl, G⟩
      case round =>
        clear G
        obtain ⟨rfl, G⟩ := hrel
        have cPB := cPb hi
        have cVB := cVb hi
        have hor : i < 0 ∨ 0 ≤ i := by omega
        clear cPb cVb hi
        rcases hor with a0 | a0
        · have a1 : ¬ 0 ≤ i := by omega
          go_wp2_with (first | (go_at_call 22; (with_reducible refine (cPB _ G).mono ?_); rintro e w3 ⟨rfl, G⟩) | (go_at_call 29; (with_reducible refine (cVB _ G).mono ?_); rintro e w3 ⟨rfl, G⟩))
          go_ret
          exact ⟨rfl, G.below⟩
        · have a1 : 0 ≤ i := by omega
          have a3 : decide (i < 0) = false := decide_eq_false (by omega)
          go_wp2_with (first | (go_at_call 22; (with_reducible refine (cPB _ G).mono ?_); rintro e w3 ⟨rfl, G⟩) | (go_at_call 29; (with_reducible refine (cVB _ G).mono ?_); rintro e w3 ⟨rfl, G⟩))
          go_ret
          exact ⟨rfl, G.below⟩
end Go.Proofs.YtdjdoepnljdlcaaDoor
