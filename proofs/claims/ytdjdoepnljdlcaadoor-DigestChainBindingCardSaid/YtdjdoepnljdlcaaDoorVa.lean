/- The walk of the law DigestExtensionAccepted. -/
import Derived.Test.YtdjdoepnljdlcaaDoorLk
import Derived.Test.YtdjdoepnljdlcaaDoorUb
namespace Go.Proofs.YtdjdoepnljdlcaaDoor
open Go.RowKit

theorem own_q {W : World} {base n : Nat} {v : Value} {xs : List Value} (h : W.ownsRow base 9 1 v n xs) : ∃ q cap, v = .slice q n cap := by
  rcases h.2 with ⟨rfl, rfl⟩ | ⟨g, cap, cur, rfl, _⟩
  · exact ⟨_, _, rfl⟩
  · exact ⟨_, _, rfl⟩
theorem Env.drop {w W : World} {ps : List (Value × List ByteArray)} {x : Value × List ByteArray} (h : Env w W (x :: ps)) : Env w W ps := ⟨h.tab, h.pos, h.below, fun y hy => h.sl y (by simp [hy])⟩
theorem ext_all (l : List ByteArray) (m : Nat) : All32 (ext l m) := by
  rw [ext]; split
  · exact all32_nil
  · exact part_all _ l m true (Nat.le_refl _)
theorem ext_len (l : List ByteArray) (m : Nat) (h : l.length ≤ 25) : (ext l m).length ≤ 6 := by
  rw [ext]; split
  · simp
  · exact part_len 5 l m true (by omega)
theorem ext_short (l : List ByteArray) (m : Nat) : (ext l m).length ≤ 2 * bin l.length := by
  rw [ext]; split
  · simp
  · have h := part_len (bin l.length) l m true (bin_bound _)
    by_cases h0 : l.length = 0
    · rw [part_whole (by omega)]; simp
    · have : 1 ≤ bin l.length := by unfold bin; rw [if_neg h0]; omega
      omega
theorem In.below {w w' : World} {v : Value} {l : List ByteArray} (h : In w v l) (hb : Below w.heap.size w w') : In w' v l := by
  rcases h with h | h
  · exact .inl (h.below hb)
  · exact .inr h

set_option maxRecDepth 100000 in
set_option maxHeartbeats 4000000 in
theorem extAcc_walk (l : List ByteArray) (m : Int) (v : Value) (w : World) (hm0 : -9223372036854775808 ≤ m) (hm1 : m ≤ 9223372036854775807) (hin : In w v l) (hz : ∀ s ∈ l, s.size ≤ 9223372036854775807) (ht : Tab w) :
    Calls Tryd.prog 7 #[v, .int .i64 m] w fun e w' => e = .returned (.bool true) ∧ Below w.heap.size w w' := by
  have hw := pos_of ht
  have G0 : Env w w [] := ⟨ht, hw, Below.refl _ _, fun _ h => by cases h⟩
  have cS : ∀ W, Env w W [] → Calls Tryd.prog 12 #[] W fun e w' => e = .returned (.bool true) ∧ Env w w' [] := fun W g => g.call (sane_any W g.tab g.pos)
  obtain ⟨F, hF⟩ : ∃ F, fw l 25 = F := ⟨_, rfl⟩
  have hF25 : F.length ≤ 25 := by rw [← hF]; exact fw_len l 25
  have hFz : ∀ s ∈ F, s.size ≤ 137438953472 := fun s hs => by have := fw_size l 25 s (by rw [hF]; exact hs); omega
  have cF : ∀ W, Env w W [] → Calls Tryd.prog 21 #[v, .int .i64 25] W fun e w' => ∃ u, e = .returned u ∧ ((∃ b o c, u = .slice (some ⟨b, o, none⟩) F.length c) ∨ (u = .slice none 0 0 ∧ F = [])) ∧ Env w w' [(u, F)] := fun W g =>
    (few_in l 25 v W (by decide) hz (hin.below g.below)).mono fun e w' ⟨u, he, ho, hb⟩ => by
      rw [hF] at ho
      exact ⟨u, he, len_of_sl (own_sl ho), (g.step hb).add (own_sl ho)⟩
  clear hin hz ht hF
  go_enter Tryd.func7, Tryd.ntmps7
  go_wp2_with (first | (go_at_call 12; (with_reducible refine (cS _ G0).mono ?_); rintro e w1 ⟨rfl, G0⟩) | (go_at_call 21; (with_reducible refine (cF _ G0).mono ?_); rintro e w1 ⟨u, rfl, hu, G⟩; refine Hid.out ?_))
  refine Lib.hid ?_
  clear cS cF G0
  rcases hu with ⟨b, o, c, rfl⟩ | ⟨rfl, hFnil⟩
  · · obtain ⟨n, hnF⟩ : ∃ n, F.length = n := ⟨_, rfl⟩
      rw [hnF] at G ⊢
      have cutS : ∀ (W : World) (k : Nat), k ≤ F.length → Sl W (.slice (some ⟨b, o, none⟩) n c) F → Sl W (.slice (some ⟨b, o, none⟩) k c) (F.take k) := fun W k hk hs => by
        rcases hs with ⟨h, _⟩ | ⟨b', o', c', h, h1, h2, h3, h4⟩
        · cases h
        · simp only [Value.slice.injEq, Option.some.injEq, Addr.mk.injEq] at h
          obtain ⟨⟨rfl, rfl, _⟩, _, rfl⟩ := h
          exact Sl.take h4 hk h1 h2 h3
      have hbn : bin F.length ≤ 64 := by
        have h1 : F.length ≤ 25 := hF25
        have h2 : F.length < 2 ^ 5 := by omega
        unfold bin
        split
        · omega
        · have := (Nat.log2_lt (by assumption)).2 h2
          omega
      have cRt : ∀ W, Env w W [(.slice (some ⟨b, o, none⟩) n c, F)] → Calls Tryd.prog 27 #[.slice (some ⟨b, o, none⟩) n c] W fun e w' => e = .returned (.string (root F)) ∧ Env w w' [(.slice (some ⟨b, o, none⟩) n c, F)] := fun W g => g.call (root_any F.length F _ W (Nat.le_refl _) (by omega) hFz g.sl1 g.tab g.pos)
      have cBin : ∀ W ps, Env w W ps → Calls Tryd.prog 33 #[.int .i64 (n : Int)] W fun e w' => e = .returned (.int .i64 ((bin F.length : Nat) : Int)) ∧ Env w w' ps := fun W ps g => g.same (by have := binary_any F.length (by omega) W; rw [hnF] at this ⊢; exact this)
      have cX : ∀ (k : Nat), k ≤ F.length → ∀ W, Env w W [(.slice (some ⟨b, o, none⟩) n c, F)] → Calls Tryd.prog 24 #[.slice (some ⟨b, o, none⟩) n c, .int .i64 (k : Int)] W fun e w' => ∃ q cap, e = .returned (.tuple #[.slice q (ext F k).length cap, .int .i64 0]) ∧ Env w w' [(.slice q (ext F k).length cap, ext F k), (.slice (some ⟨b, o, none⟩) n c, F)] := fun k hk W g =>
        (Extension_any F k (by omega) (by omega) _ W (by omega) hFz g.sl1 g.tab g.pos ⟨by omega, by omega⟩).mono fun e w' ⟨u, he, ho, hb⟩ => by
          rw [Int.toNat_natCast] at ho
          obtain ⟨q, cap, rfl⟩ := own_q ho
          exact ⟨q, cap, he, (g.step hb).add (own_sl ho)⟩
      have cC : ∀ (k : Nat), k ≤ F.length → ∀ W q cap, Env w W [(.slice q (ext F k).length cap, ext F k), (.slice (some ⟨b, o, none⟩) n c, F)] → Calls Tryd.prog 27 #[.slice (some ⟨b, o, none⟩) k c] W fun e w' => e = .returned (.string (root (F.take k))) ∧ Env w w' [(.slice q (ext F k).length cap, ext F k), (.slice (some ⟨b, o, none⟩) n c, F)] := fun k hk W q cap g =>
        g.call (root_any F.length (F.take k) _ W (by rw [List.length_take]; omega) (by rw [List.length_take]; omega) (fun s hs => hFz s (List.mem_of_mem_take hs)) (cutS W k hk g.sl2) g.tab g.pos)
      have cV : ∀ (k : Nat), k ≤ F.length → ∀ W q cap, Env w W [(.slice q (ext F k).length cap, ext F k), (.slice (some ⟨b, o, none⟩) n c, F)] → Calls Tryd.prog 31 #[.string (root (F.take k)), .int .i64 (k : Int), .string (root F), .int .i64 (n : Int), .slice q (ext F k).length cap] W fun e w' => e = .returned (.bool true) ∧ Env w w' [(.slice (some ⟨b, o, none⟩) n c, F)] := fun k hk W q cap g =>
        (VerifyExtension_any (root (F.take k)) k (root F) (n : Int) (ext F k) _ W (by omega) (by omega) (by omega) (by omega) (by rw [root_size]; decide) (by rw [root_size]; decide) (Nat.le_trans (ext_len F k hF25) (by decide)) (digest_small (ext_all F k)) g.sl1 g.tab g.pos).mono fun e w' ⟨he, hb⟩ => ⟨by
          rw [he]
          have h := vex_ext F k hk
          rw [hnF] at h
          rw [h], (g.step hb).drop⟩
      have cXg : (0 ≤ m ∧ m ≤ (n : Int)) → ∀ W, Env w W [(.slice (some ⟨b, o, none⟩) n c, F)] → Calls Tryd.prog 24 #[.slice (some ⟨b, o, none⟩) n c, .int .i64 m] W fun e w' => ∃ q z cap, e = .returned (.tuple #[.slice q z cap, .int .i64 0]) ∧ Env w w' [] := fun hm W g => by
        refine (Extension_any F m hm0 hm1 _ W (by omega) hFz g.sl1 g.tab g.pos ⟨by omega, by omega⟩).mono fun e w' ⟨u, he, ho, hb⟩ => ?_
        obtain ⟨q, cap, rfl⟩ := own_q ho
        exact ⟨q, _, cap, he, (g.step hb).drop⟩
      have cXb : ¬ (0 ≤ m ∧ m ≤ (n : Int)) → ∀ W, Env w W [(.slice (some ⟨b, o, none⟩) n c, F)] → Calls Tryd.prog 24 #[.slice (some ⟨b, o, none⟩) n c, .int .i64 m] W fun e w' => e = .returned (.tuple #[.slice none 0 0, .int .i64 2]) ∧ Env w w' [] := fun hm W g => by
        refine (Extension_bad F m hm0 hm1 _ W (by omega) g.sl1 (fun h => hm ⟨by omega, by omega⟩)).mono fun e w' ⟨he, hb⟩ => ?_
        subst hb
        exact ⟨he, g.drop⟩
      have cVm : ¬ (0 ≤ m ∧ m ≤ (n : Int)) → ∀ W, Env w W [] → Calls Tryd.prog 31 #[.string (root F), .int .i64 m, .string (root F), .int .i64 (n : Int), .slice none 0 0] W fun e w' => e = .returned (.bool false) ∧ Env w w' [] := fun hm W g => by
        have h := VerifyExtension_any (root F) m (root F) (n : Int) [] (.slice none 0 0) W hm0 hm1 (by omega) (by omega) (by rw [root_size]; decide) (by rw [root_size]; decide) (by decide) (fun _ h => by cases h) (.inl ⟨rfl, rfl⟩) g.tab g.pos
        rw [vex_no _ _ _ _ _ (fun h => hm ⟨h.1, h.2.1⟩)] at h
        exact g.call h
      have hXl : ∀ k, (ext F k).length ≤ 2 * bin F.length := fun k => ext_short F k
      obtain ⟨R, hR⟩ : ∃ r, root F = r := ⟨_, rfl⟩
      obtain ⟨B, hB⟩ : ∃ r, bin F.length = r := ⟨_, rfl⟩
      rw [hR] at cRt cV cVm
      rw [hB] at cBin hXl hbn
      have hn25 : n ≤ 25 := by omega
      have HF := Lib.hid hnF
      clear hnF hF25 hFz hR hB cutS
      go_wp2_with (first | (go_at_call 27; (with_reducible refine (cRt _ G).mono ?_); rintro e w2 ⟨rfl, G⟩))
      go_loopw [7, 8, 9] (fun i _ _ wr => ∃ k : Nat, k ≤ n + 1 ∧ i = .int .i64 (k : Int) ∧ Env w wr [(.slice (some ⟨b, o, none⟩) n c, F)]) (fun i _ _ _ => n + 1 - (intOf i).toNat)
      case atStart => exact ⟨0, by omega, rfl, G⟩
      case round =>
        clear G
        obtain ⟨k, hk, rfl, G⟩ := hrel
        by_cases hlt : k ≤ n
        · have hkF : k ≤ F.length := by have := HF.out; omega
          have cXk := cX k hkF
          have cCk := cC k hkF
          have cVk := cV k hkF
          have hz := hXl k
          obtain ⟨z, hz'⟩ : ∃ z, (ext F k).length = z := ⟨_, rfl⟩
          obtain ⟨X, hX⟩ : ∃ z, ext F k = z := ⟨_, rfl⟩
          obtain ⟨T, hT⟩ : ∃ z, root (F.take k) = z := ⟨_, rfl⟩
          rw [hz', hX] at cXk cCk cVk
          rw [hz'] at hz
          rw [hT] at cCk cVk
          have i1 : (k : Int) ≤ (n : Int) := by omega
          have i2 : ¬ 2 * (B : Int) < (z : Int) := by omega
          have i3 : (0 : Int) ≤ (k : Int) := by omega
          have i4 : (k : Int) ≤ (c : Int) := by rcases G.sl1 with ⟨h, _⟩ | ⟨b', o', c', h, h1, _⟩; cases h; simp only [Value.slice.injEq, Option.some.injEq, Addr.mk.injEq] at h; have := HF.out; omega
          clear hz' hX hT hkF cX cC cV hXl hz cXg cXb cVm
          go_wp2_with (first | (go_at_call 24; (with_reducible refine (cXk _ G).mono ?_); rintro e w3 ⟨q, cap, rfl, G⟩) | (go_at_call 33; (with_reducible refine (cBin _ _ G).mono ?_); rintro e w3 ⟨rfl, G⟩) | (go_at_call 27; (with_reducible refine (cCk _ _ _ G).mono ?_); rintro e w3 ⟨rfl, G⟩) | (go_at_call 31; (with_reducible refine (cVk _ _ _ G).mono ?_); rintro e w3 ⟨rfl, G⟩))
          go_roundw
          case rel => exact ⟨k + 1, by omega, by go_num, G⟩
          case measure => simp [intOf]; omega
        · have i1 : ¬ (k : Int) ≤ (n : Int) := by omega
          clear cX cC cV hXl cBin
          by_cases hm : 0 ≤ m ∧ m ≤ (n : Int)
          · have cXM := cXg hm
            obtain ⟨a0, a1⟩ := hm
            clear cVm cXg cXb
            go_wp2_with (first | (go_at_call 24; (with_reducible refine (cXM _ G).mono ?_); rintro e w3 ⟨q, z, cap, rfl, G⟩))
            go_ret
            exact ⟨rfl, G.below⟩
          · have cVM := cVm hm
            have cXM := cXb hm
            have hor : m < 0 ∨ (n : Int) < m := by omega
            clear cVm cXg cXb hm
            rcases hor with a0 | a0
            · go_wp2_with (first | (go_at_call 24; (with_reducible refine (cXM _ G).mono ?_); rintro e w3 ⟨rfl, G⟩) | (go_at_call 31; (with_reducible refine (cVM _ G).mono ?_); rintro e w3 ⟨rfl, G⟩))
              go_ret
              exact ⟨rfl, G.below⟩
            · have a1 : 0 ≤ m := by omega
              go_wp2_with (first | (go_at_call 24; (with_reducible refine (cXM _ G).mono ?_); rintro e w3 ⟨rfl, G⟩) | (go_at_call 31; (with_reducible refine (cVM _ G).mono ?_); rintro e w3 ⟨rfl, G⟩))
              go_ret
              have a2 : decide (m ≤ (n : Int)) = false := decide_eq_false (by omega)
              exact ⟨by show Ending.returned (.bool (!decide (m ≤ (n : Int)))) = .returned (.bool true); rw [a2]; rfl, G.below⟩
  · · skip
      have hn : F.length = 0 := by rw [hFnil]; rfl
      have cutS : ∀ (W : World) (k : Nat), k ≤ F.length → Sl W (.slice none 0 0) (F.take k) := fun W k hk => .inl ⟨rfl, by rw [hFnil]; simp⟩
      have hbn : bin F.length ≤ 64 := by
        have h1 : F.length ≤ 25 := hF25
        have h2 : F.length < 2 ^ 5 := by omega
        unfold bin
        split
        · omega
        · have := (Nat.log2_lt (by assumption)).2 h2
          omega
      have cRt : ∀ W, Env w W [(.slice none 0 0, F)] → Calls Tryd.prog 27 #[.slice none 0 0] W fun e w' => e = .returned (.string (root F)) ∧ Env w w' [(.slice none 0 0, F)] := fun W g => g.call (root_any F.length F _ W (Nat.le_refl _) (by omega) hFz g.sl1 g.tab g.pos)
      have cBin : ∀ W ps, Env w W ps → Calls Tryd.prog 33 #[.int .i64 0] W fun e w' => e = .returned (.int .i64 ((bin F.length : Nat) : Int)) ∧ Env w w' ps := fun W ps g => g.same (by have := binary_any F.length (by omega) W; rw [hn] at this; rw [hn]; exact this)
      have cX : ∀ (k : Nat), k ≤ F.length → ∀ W, Env w W [(.slice none 0 0, F)] → Calls Tryd.prog 24 #[.slice none 0 0, .int .i64 (k : Int)] W fun e w' => ∃ q cap, e = .returned (.tuple #[.slice q (ext F k).length cap, .int .i64 0]) ∧ Env w w' [(.slice q (ext F k).length cap, ext F k), (.slice none 0 0, F)] := fun k hk W g =>
        (Extension_any F k (by omega) (by omega) _ W (by omega) hFz g.sl1 g.tab g.pos ⟨by omega, by omega⟩).mono fun e w' ⟨u, he, ho, hb⟩ => by
          rw [Int.toNat_natCast] at ho
          obtain ⟨q, cap, rfl⟩ := own_q ho
          exact ⟨q, cap, he, (g.step hb).add (own_sl ho)⟩
      have cC : ∀ (k : Nat), k ≤ F.length → ∀ W q cap, Env w W [(.slice q (ext F k).length cap, ext F k), (.slice none 0 0, F)] → Calls Tryd.prog 27 #[.slice none 0 0] W fun e w' => e = .returned (.string (root (F.take k))) ∧ Env w w' [(.slice q (ext F k).length cap, ext F k), (.slice none 0 0, F)] := fun k hk W q cap g =>
        g.call (root_any F.length (F.take k) _ W (by rw [List.length_take]; omega) (by rw [List.length_take]; omega) (fun s hs => hFz s (List.mem_of_mem_take hs)) (cutS W k hk) g.tab g.pos)
      have cV : ∀ (k : Nat), k ≤ F.length → ∀ W q cap, Env w W [(.slice q (ext F k).length cap, ext F k), (.slice none 0 0, F)] → Calls Tryd.prog 31 #[.string (root (F.take k)), .int .i64 (k : Int), .string (root F), .int .i64 0, .slice q (ext F k).length cap] W fun e w' => e = .returned (.bool true) ∧ Env w w' [(.slice none 0 0, F)] := fun k hk W q cap g =>
        (VerifyExtension_any (root (F.take k)) k (root F) 0 (ext F k) _ W (by omega) (by omega) (by omega) (by omega) (by rw [root_size]; decide) (by rw [root_size]; decide) (Nat.le_trans (ext_len F k hF25) (by decide)) (digest_small (ext_all F k)) g.sl1 g.tab g.pos).mono fun e w' ⟨he, hb⟩ => ⟨by
          rw [he]
          have h := vex_ext F k hk
          rw [show (F.length : Int) = 0 by omega] at h
          rw [h], (g.step hb).drop⟩
      have cXg : (0 ≤ m ∧ m ≤ 0) → ∀ W, Env w W [(.slice none 0 0, F)] → Calls Tryd.prog 24 #[.slice none 0 0, .int .i64 m] W fun e w' => ∃ q z cap, e = .returned (.tuple #[.slice q z cap, .int .i64 0]) ∧ Env w w' [] := fun hm W g => by
        refine (Extension_any F m hm0 hm1 _ W (by omega) hFz g.sl1 g.tab g.pos ⟨by omega, by omega⟩).mono fun e w' ⟨u, he, ho, hb⟩ => ?_
        obtain ⟨q, cap, rfl⟩ := own_q ho
        exact ⟨q, _, cap, he, (g.step hb).drop⟩
      have cXb : ¬ (0 ≤ m ∧ m ≤ 0) → ∀ W, Env w W [(.slice none 0 0, F)] → Calls Tryd.prog 24 #[.slice none 0 0, .int .i64 m] W fun e w' => e = .returned (.tuple #[.slice none 0 0, .int .i64 2]) ∧ Env w w' [] := fun hm W g => by
        refine (Extension_bad F m hm0 hm1 _ W (by omega) g.sl1 (fun h => hm ⟨by omega, by omega⟩)).mono fun e w' ⟨he, hb⟩ => ?_
        subst hb
        exact ⟨he, g.drop⟩
      have cVm : ¬ (0 ≤ m ∧ m ≤ 0) → ∀ W, Env w W [] → Calls Tryd.prog 31 #[.string (root F), .int .i64 m, .string (root F), .int .i64 0, .slice none 0 0] W fun e w' => e = .returned (.bool false) ∧ Env w w' [] := fun hm W g => by
        have h := VerifyExtension_any (root F) m (root F) 0 [] (.slice none 0 0) W hm0 hm1 (by omega) (by omega) (by rw [root_size]; decide) (by rw [root_size]; decide) (by decide) (fun _ h => by cases h) (.inl ⟨rfl, rfl⟩) g.tab g.pos
        rw [vex_no _ _ _ _ _ (fun h => hm ⟨h.1, h.2.1⟩)] at h
        exact g.call h
      have hXl : ∀ k, (ext F k).length ≤ 2 * bin F.length := fun k => ext_short F k
      obtain ⟨R, hR⟩ : ∃ r, root F = r := ⟨_, rfl⟩
      obtain ⟨B, hB⟩ : ∃ r, bin F.length = r := ⟨_, rfl⟩
      rw [hR] at cRt cV cVm
      rw [hB] at cBin hXl hbn
      have hn25 : F.length = 0 := by omega
      have HF := Lib.hid hn
      clear hn hFnil hF25 hFz hR hB cutS
      go_wp2_with (first | (go_at_call 27; (with_reducible refine (cRt _ G).mono ?_); rintro e w2 ⟨rfl, G⟩))
      go_loopw [7, 8, 9] (fun i _ _ wr => ∃ k : Nat, k ≤ 1 ∧ i = .int .i64 (k : Int) ∧ Env w wr [(.slice none 0 0, F)]) (fun i _ _ _ => 1 - (intOf i).toNat)
      case atStart => exact ⟨0, by omega, rfl, G⟩
      case round =>
        clear G
        obtain ⟨k, hk, rfl, G⟩ := hrel
        by_cases hlt : k ≤ 0
        · have hkF : k ≤ F.length := by have := HF.out; omega
          have cXk := cX k hkF
          have cCk := cC k hkF
          have cVk := cV k hkF
          have hz := hXl k
          obtain ⟨z, hz'⟩ : ∃ z, (ext F k).length = z := ⟨_, rfl⟩
          obtain ⟨X, hX⟩ : ∃ z, ext F k = z := ⟨_, rfl⟩
          obtain ⟨T, hT⟩ : ∃ z, root (F.take k) = z := ⟨_, rfl⟩
          rw [hz', hX] at cXk cCk cVk
          rw [hz'] at hz
          rw [hT] at cCk cVk
          have i1 : (k : Int) ≤ 0 := by omega
          have i2 : ¬ 2 * (B : Int) < (z : Int) := by omega
          have i3 : (0 : Int) ≤ (k : Int) := by omega
          obtain rfl : k = 0 := by omega
          simp only [Int.cast_ofNat_Int] at cXk cCk cVk i1 i2 i3
          clear hz' hX hT hkF cX cC cV hXl hz cXg cXb cVm
          go_wp2_with (first | (go_at_call 24; (with_reducible refine (cXk _ G).mono ?_); rintro e w3 ⟨q, cap, rfl, G⟩) | (go_at_call 33; (with_reducible refine (cBin _ _ G).mono ?_); rintro e w3 ⟨rfl, G⟩) | (go_at_call 27; (with_reducible refine (cCk _ _ _ G).mono ?_); rintro e w3 ⟨rfl, G⟩) | (go_at_call 31; (with_reducible refine (cVk _ _ _ G).mono ?_); rintro e w3 ⟨rfl, G⟩))
          go_roundw
          case rel => exact ⟨0 + 1, by omega, by go_num, G⟩
          case measure => simp [intOf]
        · have i1 : ¬ (k : Int) ≤ 0 := by omega
          clear cX cC cV hXl cBin
          by_cases hm : 0 ≤ m ∧ m ≤ 0
          · have cXM := cXg hm
            obtain ⟨a0, a1⟩ := hm
            clear cVm cXg cXb
            go_wp2_with (first | (go_at_call 24; (with_reducible refine (cXM _ G).mono ?_); rintro e w3 ⟨q, z, cap, rfl, G⟩))
            go_ret
            exact ⟨rfl, G.below⟩
          · have cVM := cVm hm
            have cXM := cXb hm
            have hor : m < 0 ∨ 0 < m := by omega
            clear cVm cXg cXb hm
            rcases hor with a0 | a0
            · go_wp2_with (first | (go_at_call 24; (with_reducible refine (cXM _ G).mono ?_); rintro e w3 ⟨rfl, G⟩) | (go_at_call 31; (with_reducible refine (cVM _ G).mono ?_); rintro e w3 ⟨rfl, G⟩))
              go_ret
              exact ⟨rfl, G.below⟩
            · have a1 : 0 ≤ m := by omega
              go_wp2_with (first | (go_at_call 24; (with_reducible refine (cXM _ G).mono ?_); rintro e w3 ⟨rfl, G⟩) | (go_at_call 31; (with_reducible refine (cVM _ G).mono ?_); rintro e w3 ⟨rfl, G⟩))
              go_ret
              have a2 : decide (m ≤ 0) = false := decide_eq_false (by omega)
              exact ⟨by show Ending.returned (.bool (!decide (m ≤ 0))) = .returned (.bool true); rw [a2]; rfl, G.below⟩
end Go.Proofs.YtdjdoepnljdlcaaDoor
