/- Walks of package digest's part and Extension. -/
import Derived.Test.YtdjdoepnljdlcaaDoorTc
namespace Go.Proofs.YtdjdoepnljdlcaaDoor
open Go.RowKit

set_option maxRecDepth 100000 in
set_option maxHeartbeats 2000000 in
theorem part_any (N : Nat) : ∀ (l : List ByteArray) (m : Nat) (whole : Bool) (v : Value) (w : World), l.length ≤ N → 1 ≤ m → m ≤ l.length → l.length ≤ 1000 → (∀ s ∈ l, s.size ≤ 137438953472) → Sl w v l → Tab w → 0 < w.heap.size →
    Calls Tryd.prog 45 #[v, .int .i64 (m : Int), .bool whole] w fun e w' => ∃ u, e = .returned u ∧ w'.ownsRow w.heap.size 9 1 u (part l m whole).length (scells (part l m whole)) ∧ Below w.heap.size w w' := by
  induction N with
  | zero => intro l m whole v w hN h1 h2; omega
  | succ N ih =>
    intro l m whole v w hN hm1 hml hn hz hs ht hw
    rcases len_of_sl hs with ⟨b, o, c, rfl⟩ | ⟨_, rfl⟩
    · by_cases he : m = l.length
      · have hR := fun W (hW : Below w.heap.size w W) => root_any l.length l _ W (Nat.le_refl _) hn hz (hs.below hW) (ht.below hW hw) (Nat.lt_of_lt_of_le hw hW.size)
        have cR := hR w (Below.refl _ _)
        obtain ⟨r, hr⟩ : ∃ r, root l = r := ⟨_, rfl⟩
        cases whole
        · rw [part_not (by omega), hr]
          rw [hr] at cR
          subst he
          obtain ⟨n, hn'⟩ : ∃ n, l.length = n := ⟨_, rfl⟩
          rw [hn'] at cR hm1 hn ⊢
          clear ih hz hs ht hR hr hn' hml hN
          have q : ((n : Int) == (n : Int)) = true := beq_self_eq_true _
          go_enter Tryd.func45, Tryd.ntmps45
          go_wp2_with (go_at_call 27; (refine cR.mono ?_); rintro e w1 ⟨rfl, hb1⟩)
          go_ret
          refine ⟨_, rfl, ⟨rfl, .inr ⟨_, _, _, rfl, hb1.size, World.alloc_heap_new _ _, Nat.le_refl _, by unfold maxLen; decide, rfl, rfl⟩⟩, hb1.alloc hb1.size _⟩
        · rw [part_whole (by omega)]
          subst he
          obtain ⟨n, hn'⟩ : ∃ n, l.length = n := ⟨_, rfl⟩
          rw [hn'] at hm1 hn ⊢
          clear ih hz hs ht hR cR hr hn' hml hN
          have q : ((n : Int) == (n : Int)) = true := beq_self_eq_true _
          go_enter Tryd.func45, Tryd.ntmps45
          go_wp2
          go_ret
          exact ⟨_, rfl, World.ownsRow_nil _ _ _ _, Below.refl _ _⟩
      · replace hml : m < l.length := by omega
        obtain ⟨hbad, _⟩ | ⟨b, o, c, hv, hlc, hc, hb, hr⟩ := hs
        · cases hbad
        · cases hv
          obtain ⟨n, hn'⟩ : ∃ n, l.length = n := ⟨_, rfl⟩
          have h2 : 2 ≤ l.length := by omega
          rw [hn'] at hlc hn hN ⊢
          obtain ⟨i9, hi9, hzr9, hsz9, hby9⟩ := info_parts info9'
          obtain ⟨k, hk'⟩ : ∃ k, spl n = k := ⟨_, rfl⟩
          have k1 := spl_lt _ h2
          have k2 := spl_pos l.length
          have hsp := fun w => split_any l.length h2 (by omega) w
          have hmn : m < n := hn' ▸ hml
          have h2n : 2 ≤ n := hn' ▸ h2
          rw [hn', hk'] at k1 k2 hsp
          have hT := fun W (hW : Below w.heap.size w W) => ht.below hW hw
          have q1 : ((m : Int) == (n : Int)) = false := by rw [beq_eq_false_iff_ne, ne_eq]; omega
          have j0 : (0 : Int) ≤ (k : Int) := by omega
          have j1 : (k : Int) ≤ (n : Int) := by omega
          have j2 : (k : Int) ≤ (c : Int) := by omega
          have j3 : (k : Int) < (c : Int) := by omega
          have j4 : (n : Int) ≤ (c : Int) := by omega
          have j5 : ¬ c = k := by omega
          have jw : IntKind.i64.wrap ((m : Int) - (k : Int)) = (m : Int) - (k : Int) := by rw [IntKind.wrap_i64]; omega
          by_cases hi : m ≤ spl l.length
          · have hik : m ≤ k := by rw [hn', hk'] at hi; exact hi
            have ihh : ∀ W, Below w.heap.size w W → Calls Tryd.prog 45 #[.slice (some ⟨b, o, none⟩) k c, .int .i64 (m : Int), .bool whole] W fun e w' => ∃ u, e = .returned u ∧ w'.ownsRow W.heap.size 9 1 u (part (l.take k) m whole).length (scells (part (l.take k) m whole)) ∧ Below W.heap.size W w' := fun W hW =>
              ih (l.take k) m whole _ W (by rw [List.length_take]; omega) (by omega) (by rw [List.length_take]; omega) (by rw [List.length_take]; omega) (fun s hs => hz s (List.mem_of_mem_take hs)) ((Sl.take hr (by omega) (by omega) hc hb).below hW) (hT W hW) (Nat.lt_of_lt_of_le hw hW.size)
            have cP : ∀ W, Below w.heap.size w W → Calls Tryd.prog 45 #[.slice (some ⟨b, o, none⟩) k c, .int .i64 (m : Int), .bool whole] W fun e w' => ∃ u, e = .returned u ∧ w'.ownsRow w.heap.size 9 1 u (part (l.take k) m whole).length (scells (part (l.take k) m whole)) ∧ Below w.heap.size w w' := fun W hW =>
              Calls.mono (ihh W hW) fun e w' ⟨u, he, ho, hb'⟩ => ⟨u, he, ho.lower hW.size, hW.trans (hb'.mono hW.size)⟩
            have cR : ∀ W, Below w.heap.size w W → Calls Tryd.prog 27 #[.slice (some ⟨b, o + k, none⟩) (n - k) (c - k)] W fun e w' => e = .returned (.string (root (l.drop k))) ∧ Below w.heap.size w w' ∧ ∀ u, W.ownsRow w.heap.size 9 1 u (part (l.take k) m whole).length (scells (part (l.take k) m whole)) → w'.ownsRow w.heap.size 9 1 u (part (l.take k) m whole).length (scells (part (l.take k) m whole)) := fun W hW =>
              (root_any _ _ _ W (Nat.le_refl _) (by rw [List.length_drop]; omega) (fun s hs => hz s (List.mem_of_mem_drop hs)) (hn' ▸ (Sl.drop hr (by omega) hc hb).below hW) (hT W hW) (Nat.lt_of_lt_of_le hw hW.size)).mono fun e w' ⟨he, hb'⟩ => ⟨he, hW.trans (hb'.mono hW.size), fun u hu => own_below hu hb'⟩
            have hm : (part (l.take k) m whole).length ≤ 11 := part_len 10 (l.take k) m whole (by rw [List.length_take]; omega)
            have heq := part_lo (whole := whole) h2 hml hi
            rw [hn', hk'] at heq
            rw [heq]
            obtain ⟨p, hp⟩ : ∃ p, part (l.take k) m whole = p := ⟨_, rfl⟩
            obtain ⟨rr, hrr⟩ : ∃ r, root (l.drop k) = r := ⟨_, rfl⟩
            rw [hp] at cP cR hm ⊢
            rw [hrr] at cR ⊢
            obtain ⟨z, hm'⟩ : ∃ z, p.length = z := ⟨_, rfl⟩
            have HM := Lib.hid hm'
            rw [hm'] at cP cR hm
            have HB := (Below.refl w.heap.size w).drew
            clear ih ihh hz hr ht hT hrr hp hk' hn' hm' heq hN hi hml
            go_enter Tryd.func45, Tryd.ntmps45
            go_wp2_with (go_at_call 47; (with_reducible refine (hsp _).mono ?_); rintro e w' ⟨rfl, rfl⟩)
            go_region_law (first | (refine step_append_lies _ rfl (.tmp 27) (.tmp 32) 26 rfl w.heap.size 9 i9 (.string ⟨#[]⟩) 1 16 Tryd.underlying26 hi9 hzr9 hsz9 hby9 rfl (by decide) _ _ _ rfl ((hk2 _ ho).alloc _) ⟨w2.heap.size, 0, none⟩ 1 1 [.string rr] rfl rfl (one_newS w2 _) (by intro u hu; simp at hu; subst hu; rfl) (by decide) (by unfold maxLen; omega) (by omega) (Nat.le_trans hb2.size (by simp)) _ rfl ?_; intro g cap w3 hown3 hgrow _ _) | (go_simp; go_at_call 45; (with_reducible refine (cP _ (by assumption)).mono ?_); rintro e w1 ⟨u, rfl, ho, hb1⟩) | (go_simp; go_at_call 27; (with_reducible refine (cR _ (by assumption)).mono ?_); rintro e w2 ⟨rfl, hb2, hk2⟩))
            have hlen : (p ++ [rr]).length = z + 1 := by rw [List.length_append, HM.out]; rfl
            have hcs : scells (p ++ [rr]) = scells p ++ [.string rr] := by simp [scells]
            have hB3 : Below w.heap.size w w3 := (hb2.alloc hb2.size _).grown hgrow (Nat.le_trans hb2.size (by simp)) fun k e => (ho.lt k e).1
            have HO := Lib.hid hown3
            have HL := Lib.hid hlen
            have HC := Lib.hid hcs
            clear hown3 hgrow hlen hcs
            go_wp2
            go_ret
            exact ⟨_, rfl, by rw [HL.out, HC.out]; exact HO.out, hB3⟩
          · have hik : ¬ m ≤ k := by rw [hn', hk'] at hi; exact hi
            have ihh : ∀ W, Below w.heap.size w W → Calls Tryd.prog 45 #[.slice (some ⟨b, o + k, none⟩) (n - k) (c - k), .int .i64 ((m : Int) - (k : Int)), .bool false] W fun e w' => ∃ u, e = .returned u ∧ w'.ownsRow W.heap.size 9 1 u (part (l.drop k) (m - k) false).length (scells (part (l.drop k) (m - k) false)) ∧ Below W.heap.size W w' := fun W hW => by
              have := ih (l.drop k) (m - k) false _ W (by rw [List.length_drop]; omega) (by omega) (by rw [List.length_drop]; omega) (by rw [List.length_drop]; omega) (fun s hs => hz s (List.mem_of_mem_drop hs)) (hn' ▸ (Sl.drop (k := k) hr (by omega) hc hb).below hW) (hT W hW) (Nat.lt_of_lt_of_le hw hW.size)
              rwa [show ((m - k : Nat) : Int) = (m : Int) - (k : Int) by omega] at this
            have cP : ∀ W, Below w.heap.size w W → Calls Tryd.prog 45 #[.slice (some ⟨b, o + k, none⟩) (n - k) (c - k), .int .i64 ((m : Int) - (k : Int)), .bool false] W fun e w' => ∃ u, e = .returned u ∧ w'.ownsRow w.heap.size 9 1 u (part (l.drop k) (m - k) false).length (scells (part (l.drop k) (m - k) false)) ∧ Below w.heap.size w w' := fun W hW =>
              Calls.mono (ihh W hW) fun e w' ⟨u, he, ho, hb'⟩ => ⟨u, he, ho.lower hW.size, hW.trans (hb'.mono hW.size)⟩
            have cR : ∀ W, Below w.heap.size w W → Calls Tryd.prog 27 #[.slice (some ⟨b, o, none⟩) k c] W fun e w' => e = .returned (.string (root (l.take k))) ∧ Below w.heap.size w w' ∧ ∀ u, W.ownsRow w.heap.size 9 1 u (part (l.drop k) (m - k) false).length (scells (part (l.drop k) (m - k) false)) → w'.ownsRow w.heap.size 9 1 u (part (l.drop k) (m - k) false).length (scells (part (l.drop k) (m - k) false)) := fun W hW =>
              (root_any _ _ _ W (Nat.le_refl _) (by rw [List.length_take]; omega) (fun s hs => hz s (List.mem_of_mem_take hs)) ((Sl.take hr (by omega) (by omega) hc hb).below hW) (hT W hW) (Nat.lt_of_lt_of_le hw hW.size)).mono fun e w' ⟨he, hb'⟩ => ⟨he, hW.trans (hb'.mono hW.size), fun u hu => own_below hu hb'⟩
            have hm : (part (l.drop k) (m - k) false).length ≤ 11 := part_len 10 (l.drop k) (m - k) false (by rw [List.length_drop]; omega)
            have heq := part_hi (whole := whole) h2 hml hi
            rw [hn', hk'] at heq
            rw [heq]
            obtain ⟨p, hp⟩ : ∃ p, part (l.drop k) (m - k) false = p := ⟨_, rfl⟩
            obtain ⟨rr, hrr⟩ : ∃ r, root (l.take k) = r := ⟨_, rfl⟩
            rw [hp] at cP cR hm ⊢
            rw [hrr] at cR ⊢
            obtain ⟨z, hm'⟩ : ∃ z, p.length = z := ⟨_, rfl⟩
            have HM := Lib.hid hm'
            rw [hm'] at cP cR hm
            have HB := (Below.refl w.heap.size w).drew
            clear ih ihh hz hr ht hT hrr hp hk' hn' hm' heq hN hi hml
            go_enter Tryd.func45, Tryd.ntmps45
            go_wp2_with (go_at_call 47; (with_reducible refine (hsp _).mono ?_); rintro e w' ⟨rfl, rfl⟩)
            go_region_law (first | (refine step_append_lies _ rfl (.tmp 40) (.tmp 45) 26 rfl w.heap.size 9 i9 (.string ⟨#[]⟩) 1 16 Tryd.underlying26 hi9 hzr9 hsz9 hby9 rfl (by decide) _ _ _ rfl ((hk2 _ ho).alloc _) ⟨w2.heap.size, 0, none⟩ 1 1 [.string rr] rfl rfl (one_newS w2 _) (by intro u hu; simp at hu; subst hu; rfl) (by decide) (by unfold maxLen; omega) (by omega) (Nat.le_trans hb2.size (by simp)) _ rfl ?_; intro g cap w3 hown3 hgrow _ _) | (go_simp; go_at_call 45; (with_reducible refine (cP _ (by assumption)).mono ?_); rintro e w1 ⟨u, rfl, ho, hb1⟩) | (go_simp; go_at_call 27; (with_reducible refine (cR _ (by assumption)).mono ?_); rintro e w2 ⟨rfl, hb2, hk2⟩))
            have hlen : (p ++ [rr]).length = z + 1 := by rw [List.length_append, HM.out]; rfl
            have hcs : scells (p ++ [rr]) = scells p ++ [.string rr] := by simp [scells]
            have hB3 : Below w.heap.size w w3 := (hb2.alloc hb2.size _).grown hgrow (Nat.le_trans hb2.size (by simp)) fun k e => (ho.lt k e).1
            have HO := Lib.hid hown3
            have HL := Lib.hid hlen
            have HC := Lib.hid hcs
            clear hown3 hgrow hlen hcs
            go_wp2
            go_ret
            exact ⟨_, rfl, by rw [HL.out, HC.out]; exact HO.out, hB3⟩
    · simp at hml; omega

/-- what Extension gives -/
def ext (l : List ByteArray) (m : Nat) : List ByteArray := if m = 0 then [] else part l m true
theorem Extension_any (l : List ByteArray) (m : Int) (hi0 : -9223372036854775808 ≤ m) (hi1 : m ≤ 9223372036854775807) (v : Value) (w : World) (hn : l.length ≤ 1000) (hz : ∀ s ∈ l, s.size ≤ 137438953472) (hs : Sl w v l) (ht : Tab w) (hw : 0 < w.heap.size) (h : 0 ≤ m ∧ m ≤ l.length) :
    Calls Tryd.prog 24 #[v, .int .i64 m] w fun e w' => ∃ u, e = .returned (.tuple #[u, .int .i64 0]) ∧ w'.ownsRow w.heap.size 9 1 u (ext l m.toNat).length (scells (ext l m.toNat)) ∧ Below w.heap.size w w' := by
  obtain ⟨j, rfl⟩ : ∃ j : Nat, m = (j : Int) := ⟨m.toNat, by omega⟩
  rw [Int.toNat_natCast]
  by_cases h0 : j = 0
  · subst h0
    rw [ext, if_pos rfl]
    rcases len_of_sl hs with ⟨b, o, c, rfl⟩ | ⟨rfl, rfl⟩
    · obtain ⟨n, hn'⟩ : ∃ n, l.length = n := ⟨_, rfl⟩
      rw [hn'] at hn ⊢
      clear hs ht hz hn' h
      go_enter Tryd.func24, Tryd.ntmps24
      go_wp2
      go_ret2
      exact ⟨_, rfl, World.ownsRow_nil _ _ _ _, Below.refl _ _⟩
    · clear hs ht hz h
      go_enter Tryd.func24, Tryd.ntmps24
      go_wp2
      go_ret2
      exact ⟨_, rfl, World.ownsRow_nil _ _ _ _, Below.refl _ _⟩
  · have hc := part_any l.length l j true v w (Nat.le_refl _) (by omega) (by omega) hn hz hs ht hw
    rw [ext, if_neg h0]
    rcases len_of_sl hs with ⟨b, o, c, rfl⟩ | ⟨_, rfl⟩
    · obtain ⟨n, hn'⟩ : ∃ n, l.length = n := ⟨_, rfl⟩
      have hjn : (j : Int) ≤ (n : Int) := by omega
      have q0 : ((j : Int) == 0) = false := by rw [beq_eq_false_iff_ne, ne_eq]; omega
      rw [hn'] at hn hc ⊢
      clear hs ht hz hn' h h0
      go_enter Tryd.func24, Tryd.ntmps24
      go_wp2_with (go_at_call 45; (refine hc.mono ?_); rintro e w1 ⟨u, rfl, ho, hb1⟩; replace ho := Lib.hid ho)
      go_ret2
      exact ⟨_, rfl, ho.out, hb1⟩
    · simp at h; omega
theorem Extension_bad (l : List ByteArray) (i : Int) (hi0 : -9223372036854775808 ≤ i) (hi1 : i ≤ 9223372036854775807) (v : Value) (w : World) (hn : l.length ≤ 1000) (hs : Sl w v l) (h : ¬ (0 ≤ i ∧ i ≤ l.length)) :
    Calls Tryd.prog 24 #[v, .int .i64 i] w fun e w' => e = .returned (.tuple #[.slice none 0 0, .int .i64 2]) ∧ w = w' := by
  rcases len_of_sl hs with ⟨b, o, c, rfl⟩ | ⟨rfl, rfl⟩
  · obtain ⟨n, hn'⟩ : ∃ n, l.length = n := ⟨_, rfl⟩
    rw [hn'] at hn h ⊢
    clear hs hn'
    by_cases h1 : i < 0
    · clear h
      go_enter Tryd.func24, Tryd.ntmps24
      go_wp2
      go_ret2
      exact ⟨rfl, rfl⟩
    · have h2 : (n : Int) < i := by omega
      clear h
      go_enter Tryd.func24, Tryd.ntmps24
      go_wp2
      go_ret2
      exact ⟨rfl, rfl⟩
  · clear hs
    by_cases h1 : i < 0
    · clear h
      go_enter Tryd.func24, Tryd.ntmps24
      go_wp2
      go_ret2
      exact ⟨rfl, rfl⟩
    · have h2 : (0 : Int) < i := by simp at h; omega
      clear h
      go_enter Tryd.func24, Tryd.ntmps24
      go_wp2
      go_ret2
      exact ⟨rfl, rfl⟩
end Go.Proofs.YtdjdoepnljdlcaaDoor
