/- Walks of package digest's proofOf and Proof. -/
import Derived.Test.YtdjdoepnljdlcaaDoorTb
import Derived.Deep.RegionLaw
import Derived.Deep.AppendLies
namespace Go.Proofs.YtdjdoepnljdlcaaDoor
open Go.RowKit

theorem own_below {W W' : World} {base k : Nat} {e : TypeId} {v : Value} {xs : List Value} (h : W.ownsRow base e 1 v k xs) (hb : Below W.heap.size W W') : W'.ownsRow base e 1 v k xs :=
  h.kept (grown_below hb none) (by by_cases e : v.ownBlock = none; exact .inl e; exact .inr e)
theorem _root_.Go.World.ownsRow.lower {W : World} {base base' k : Nat} {e : TypeId} {v : Value} {xs : List Value} (h : W.ownsRow base e 1 v k xs) (hb : base' ≤ base) : W.ownsRow base' e 1 v k xs := by
  refine ⟨h.1, ?_⟩
  rcases h.2 with h | ⟨g, cap, cur, h1, h2, h3⟩
  · exact .inl h
  · exact .inr ⟨g, cap, cur, h1, Nat.le_trans hb h2, h3⟩
theorem one_newS (W : World) (v : Value) : ∀ j u, [v][j]? = some u → (W.alloc (.cells #[v] 9)).cell? ((⟨W.heap.size, 0, none⟩ : Addr).add j) = some u := by
  intro j u hj
  match j, hj with
  | 0, hj => simp at hj; subst hj; simp [Addr.add]

set_option maxRecDepth 100000 in
set_option maxHeartbeats 2000000 in
theorem proofOf_any (N : Nat) : ∀ (l : List ByteArray) (i : Nat) (v : Value) (w : World), l.length ≤ N → 1 ≤ l.length → l.length ≤ 1000 → i < l.length → (∀ s ∈ l, s.size ≤ 137438953472) → Sl w v l → Tab w → 0 < w.heap.size →
    Calls Tryd.prog 43 #[v, .int .i64 (i : Int)] w fun e w' => ∃ u, e = .returned u ∧ w'.ownsRow w.heap.size 9 1 u (prf l i).length (scells (prf l i)) ∧ Below w.heap.size w w' := by
  induction N with
  | zero => intro l i v w hN h1; omega
  | succ N ih =>
    intro l i v w hN hl1 hn hil hz hs ht hw
    rcases hs with ⟨_, rfl⟩ | ⟨b, o, c, rfl, hlc, hc, hb, hr⟩
    · simp at hl1
    · obtain ⟨n, hn'⟩ : ∃ n, l.length = n := ⟨_, rfl⟩
      rw [hn'] at hlc hn hN hl1 hil ⊢
      by_cases h1 : n = 1
      · have hp := prf_one (l := l) (i := i) (by omega)
        rw [hp]
        subst h1
        clear ih hz ht hr hp hn'
        go_enter Tryd.func43, Tryd.ntmps43
        go_wp2
        go_ret
        exact ⟨_, rfl, World.ownsRow_nil _ _ _ _, Below.refl _ _⟩
      · have h2 : 2 ≤ l.length := by omega
        obtain ⟨i9, hi9, hzr9, hsz9, hby9⟩ := info_parts info9'
        obtain ⟨k, hk'⟩ : ∃ k, spl n = k := ⟨_, rfl⟩
        have k1 := spl_lt _ h2
        have k2 := spl_pos l.length
        have hsp := fun w => split_any l.length h2 (by omega) w
        rw [hn', hk'] at k1 k2 hsp
        have hT := fun W (hW : Below w.heap.size w W) => ht.below hW hw
        have q1 : ((n : Int) == 1) = false := by rw [beq_eq_false_iff_ne, ne_eq]; omega
        have j0 : (0 : Int) ≤ (k : Int) := by omega
        have j1 : (k : Int) ≤ (n : Int) := by omega
        have j2 : (k : Int) ≤ (c : Int) := by omega
        have j3 : (k : Int) < (c : Int) := by omega
        have j4 : (n : Int) ≤ (c : Int) := by omega
        have j5 : ¬ c = k := by omega
        have jw : IntKind.i64.wrap ((i : Int) - (k : Int)) = (i : Int) - (k : Int) := by rw [IntKind.wrap_i64]; omega
        by_cases hi : i < spl l.length
        · have hik : i < k := by rw [hn', hk'] at hi; exact hi
          have cP : ∀ W, Below w.heap.size w W → Calls Tryd.prog 43 #[.slice (some ⟨b, o, none⟩) k c, .int .i64 (i : Int)] W fun e w' => ∃ u, e = .returned u ∧ w'.ownsRow w.heap.size 9 1 u (prf (l.take k) i).length (scells (prf (l.take k) i)) ∧ Below w.heap.size w w' := fun W hW =>
            Calls.mono (ih _ i _ W (by rw [List.length_take]; omega) (by rw [List.length_take]; omega) (by rw [List.length_take]; omega) (by rw [List.length_take]; omega) (fun s hs => hz s (List.mem_of_mem_take hs)) ((Sl.take hr (by omega) (by omega) hc hb).below hW) (hT W hW) (Nat.lt_of_lt_of_le hw hW.size)) fun e w' ⟨u, he, ho, hb'⟩ => ⟨u, he, ho.lower hW.size, hW.trans (hb'.mono hW.size)⟩
          have cR : ∀ W, Below w.heap.size w W → Calls Tryd.prog 27 #[.slice (some ⟨b, o + k, none⟩) (n - k) (c - k)] W fun e w' => e = .returned (.string (root (l.drop k))) ∧ Below w.heap.size w w' ∧ ∀ u, W.ownsRow w.heap.size 9 1 u (prf (l.take k) i).length (scells (prf (l.take k) i)) → w'.ownsRow w.heap.size 9 1 u (prf (l.take k) i).length (scells (prf (l.take k) i)) := fun W hW =>
            (root_any _ _ _ W (Nat.le_refl _) (by rw [List.length_drop]; omega) (fun s hs => hz s (List.mem_of_mem_drop hs)) (hn' ▸ (Sl.drop hr (by omega) hc hb).below hW) (hT W hW) (Nat.lt_of_lt_of_le hw hW.size)).mono fun e w' ⟨he, hb'⟩ => ⟨he, hW.trans (hb'.mono hW.size), fun u hu => own_below hu hb'⟩
          have hm : (prf (l.take k) i).length ≤ 10 := prf_len 10 (l.take k) i (by rw [List.length_take]; omega)
          have heq := prf_lo h2 hi
          rw [hn', hk'] at heq
          rw [heq]
          obtain ⟨p, hp⟩ : ∃ p, prf (l.take k) i = p := ⟨_, rfl⟩
          obtain ⟨rr, hrr⟩ : ∃ r, root (l.drop k) = r := ⟨_, rfl⟩
          rw [hp] at cP cR hm ⊢
          rw [hrr] at cR ⊢
          obtain ⟨m, hm'⟩ : ∃ m, p.length = m := ⟨_, rfl⟩
          have HM := Lib.hid hm'
          rw [hm'] at cP cR hm
          have HB := (Below.refl w.heap.size w).drew
          clear ih hz hr ht hT hrr hp hk' hn' hm' heq hN
          go_enter Tryd.func43, Tryd.ntmps43
          go_wp2_with (go_at_call 47; (with_reducible refine (hsp _).mono ?_); rintro e w' ⟨rfl, rfl⟩)
          go_region_law (first | (refine step_append_lies _ rfl (.tmp 19) (.tmp 24) 26 rfl w.heap.size 9 i9 (.string ⟨#[]⟩) 1 16 Tryd.underlying26 hi9 hzr9 hsz9 hby9 rfl (by decide) _ _ _ rfl ((hk2 _ ho).alloc _) ⟨w2.heap.size, 0, none⟩ 1 1 [.string rr] rfl rfl (one_newS w2 _) (by intro u hu; simp at hu; subst hu; rfl) (by decide) (by unfold maxLen; omega) (by omega) (Nat.le_trans hb2.size (by simp)) _ rfl ?_; intro g cap w3 hown3 hgrow _ _) | (go_simp; go_at_call 43; (with_reducible refine (cP _ (by assumption)).mono ?_); rintro e w1 ⟨u, rfl, ho, hb1⟩) | (go_simp; go_at_call 27; (with_reducible refine (cR _ (by assumption)).mono ?_); rintro e w2 ⟨rfl, hb2, hk2⟩))
          have hlen : (p ++ [rr]).length = m + 1 := by rw [List.length_append, HM.out]; rfl
          have hcs : scells (p ++ [rr]) = scells p ++ [.string rr] := by simp [scells]
          have hB3 : Below w.heap.size w w3 := (hb2.alloc hb2.size _).grown hgrow (Nat.le_trans hb2.size (by simp)) fun k e => (ho.lt k e).1
          have HO := Lib.hid hown3
          have HL := Lib.hid hlen
          have HC := Lib.hid hcs
          clear hown3 hgrow hlen hcs
          go_wp2
          go_ret
          exact ⟨_, rfl, by rw [HL.out, HC.out]; exact HO.out, hB3⟩
        · have hik : ¬ i < k := by rw [hn', hk'] at hi; exact hi
          have ihh : ∀ W, Below w.heap.size w W → Calls Tryd.prog 43 #[.slice (some ⟨b, o + k, none⟩) (n - k) (c - k), .int .i64 ((i : Int) - (k : Int))] W fun e w' => ∃ u, e = .returned u ∧ w'.ownsRow W.heap.size 9 1 u (prf (l.drop k) (i - k)).length (scells (prf (l.drop k) (i - k))) ∧ Below W.heap.size W w' := fun W hW => by
            have := ih (l.drop k) (i - k) _ W (by rw [List.length_drop]; omega) (by rw [List.length_drop]; omega) (by rw [List.length_drop]; omega) (by rw [List.length_drop]; omega) (fun s hs => hz s (List.mem_of_mem_drop hs)) (hn' ▸ (Sl.drop (k := k) hr (by omega) hc hb).below hW) (hT W hW) (Nat.lt_of_lt_of_le hw hW.size)
            rwa [show ((i - k : Nat) : Int) = (i : Int) - (k : Int) by omega] at this
          have cP : ∀ W, Below w.heap.size w W → Calls Tryd.prog 43 #[.slice (some ⟨b, o + k, none⟩) (n - k) (c - k), .int .i64 ((i : Int) - (k : Int))] W fun e w' => ∃ u, e = .returned u ∧ w'.ownsRow w.heap.size 9 1 u (prf (l.drop k) (i - k)).length (scells (prf (l.drop k) (i - k))) ∧ Below w.heap.size w w' := fun W hW =>
            Calls.mono (ihh W hW) fun e w' ⟨u, he, ho, hb'⟩ => ⟨u, he, ho.lower hW.size, hW.trans (hb'.mono hW.size)⟩
          have cR : ∀ W, Below w.heap.size w W → Calls Tryd.prog 27 #[.slice (some ⟨b, o, none⟩) k c] W fun e w' => e = .returned (.string (root (l.take k))) ∧ Below w.heap.size w w' ∧ ∀ u, W.ownsRow w.heap.size 9 1 u (prf (l.drop k) (i - k)).length (scells (prf (l.drop k) (i - k))) → w'.ownsRow w.heap.size 9 1 u (prf (l.drop k) (i - k)).length (scells (prf (l.drop k) (i - k))) := fun W hW =>
            (root_any _ _ _ W (Nat.le_refl _) (by rw [List.length_take]; omega) (fun s hs => hz s (List.mem_of_mem_take hs)) ((Sl.take hr (by omega) (by omega) hc hb).below hW) (hT W hW) (Nat.lt_of_lt_of_le hw hW.size)).mono fun e w' ⟨he, hb'⟩ => ⟨he, hW.trans (hb'.mono hW.size), fun u hu => own_below hu hb'⟩
          have hm : (prf (l.drop k) (i - k)).length ≤ 10 := prf_len 10 (l.drop k) (i - k) (by rw [List.length_drop]; omega)
          have heq := prf_hi h2 hi
          rw [hn', hk'] at heq
          rw [heq]
          obtain ⟨p, hp⟩ : ∃ p, prf (l.drop k) (i - k) = p := ⟨_, rfl⟩
          obtain ⟨rr, hrr⟩ : ∃ r, root (l.take k) = r := ⟨_, rfl⟩
          rw [hp] at cP cR hm ⊢
          rw [hrr] at cR ⊢
          obtain ⟨m, hm'⟩ : ∃ m, p.length = m := ⟨_, rfl⟩
          have HM := Lib.hid hm'
          rw [hm'] at cP cR hm
          have HB := (Below.refl w.heap.size w).drew
          clear ih ihh hz hr ht hT hrr hp hk' hn' hm' heq hN
          go_enter Tryd.func43, Tryd.ntmps43
          go_wp2_with (go_at_call 47; (with_reducible refine (hsp _).mono ?_); rintro e w' ⟨rfl, rfl⟩)
          go_region_law (first | (refine step_append_lies _ rfl (.tmp 32) (.tmp 37) 26 rfl w.heap.size 9 i9 (.string ⟨#[]⟩) 1 16 Tryd.underlying26 hi9 hzr9 hsz9 hby9 rfl (by decide) _ _ _ rfl ((hk2 _ ho).alloc _) ⟨w2.heap.size, 0, none⟩ 1 1 [.string rr] rfl rfl (one_newS w2 _) (by intro u hu; simp at hu; subst hu; rfl) (by decide) (by unfold maxLen; omega) (by omega) (Nat.le_trans hb2.size (by simp)) _ rfl ?_; intro g cap w3 hown3 hgrow _ _) | (go_simp; go_at_call 43; (with_reducible refine (cP _ (by assumption)).mono ?_); rintro e w1 ⟨u, rfl, ho, hb1⟩) | (go_simp; go_at_call 27; (with_reducible refine (cR _ (by assumption)).mono ?_); rintro e w2 ⟨rfl, hb2, hk2⟩))
          have hlen : (p ++ [rr]).length = m + 1 := by rw [List.length_append, HM.out]; rfl
          have hcs : scells (p ++ [rr]) = scells p ++ [.string rr] := by simp [scells]
          have hB3 : Below w.heap.size w w3 := (hb2.alloc hb2.size _).grown hgrow (Nat.le_trans hb2.size (by simp)) fun k e => (ho.lt k e).1
          have HO := Lib.hid hown3
          have HL := Lib.hid hlen
          have HC := Lib.hid hcs
          clear hown3 hgrow hlen hcs
          go_wp2
          go_ret
          exact ⟨_, rfl, by rw [HL.out, HC.out]; exact HO.out, hB3⟩

/-- a slice of the call's own, as a list -/
theorem own_sl {W : World} {base : Nat} {v : Value} {l : List ByteArray} (h : W.ownsRow base 9 1 v l.length (scells l)) : Sl W v l := by
  have h' := h
  rcases h.2 with ⟨rfl, h0⟩ | ⟨g, cap, cur, rfl, h1, h2, h3, h4, _⟩
  · exact .inl ⟨rfl, List.eq_nil_of_length_eq_zero h0⟩
  · refine .inr ⟨g, 0, cap, rfl, h3, h4, (h'.lt g rfl).2, fun j x hj => ?_⟩
    have := h'.cells (g := g) rfl j (.string x) (by rw [scells, List.getElem?_map, hj]; rfl)
    rwa [Addr.add_mid] at this
theorem len_of_sl {W : World} {v : Value} {l : List ByteArray} (h : Sl W v l) : (∃ b o c, v = .slice (some ⟨b, o, none⟩) l.length c) ∨ (v = .slice none 0 0 ∧ l = []) := by
  rcases h with h | ⟨b, o, c, h1, _⟩
  · exact .inr h
  · exact .inl ⟨b, o, c, h1⟩

theorem Proof_any (l : List ByteArray) (i : Int) (hi0 : -9223372036854775808 ≤ i) (hi1 : i ≤ 9223372036854775807) (v : Value) (w : World) (hn : l.length ≤ 1000) (hz : ∀ s ∈ l, s.size ≤ 137438953472) (hs : Sl w v l) (ht : Tab w) (hw : 0 < w.heap.size) (h : 0 ≤ i ∧ i < l.length) :
    Calls Tryd.prog 22 #[v, .int .i64 i] w fun e w' => ∃ u, e = .returned (.tuple #[u, .int .i64 0]) ∧ w'.ownsRow w.heap.size 9 1 u (prf l i.toNat).length (scells (prf l i.toNat)) ∧ Below w.heap.size w w' := by
  obtain ⟨j, rfl⟩ : ∃ j : Nat, i = (j : Int) := ⟨i.toNat, by omega⟩
  rw [Int.toNat_natCast]
  have hj : j < l.length := by omega
  have hc := proofOf_any l.length l j v w (Nat.le_refl _) (by omega) hn hj hz hs ht hw
  rcases len_of_sl hs with ⟨b, o, c, rfl⟩ | ⟨_, rfl⟩
  · obtain ⟨n, hn'⟩ : ∃ n, l.length = n := ⟨_, rfl⟩
    rw [hn'] at hn hj hc ⊢
    clear hs ht hz hn' h
    go_enter Tryd.func22, Tryd.ntmps22
    go_wp2_with (go_at_call 43; (refine hc.mono ?_); rintro e w1 ⟨u, rfl, ho, hb1⟩; replace ho := Lib.hid ho)
    go_ret2
    exact ⟨_, rfl, ho.out, hb1⟩
  · simp at hj
theorem Proof_bad (l : List ByteArray) (i : Int) (hi0 : -9223372036854775808 ≤ i) (hi1 : i ≤ 9223372036854775807) (v : Value) (w : World) (hn : l.length ≤ 1000) (hs : Sl w v l) (h : ¬ (0 ≤ i ∧ i < l.length)) :
    Calls Tryd.prog 22 #[v, .int .i64 i] w fun e w' => e = .returned (.tuple #[.slice none 0 0, .int .i64 2]) ∧ w = w' := by
  rcases len_of_sl hs with ⟨b, o, c, rfl⟩ | ⟨rfl, rfl⟩
  · obtain ⟨n, hn'⟩ : ∃ n, l.length = n := ⟨_, rfl⟩
    rw [hn'] at hn h ⊢
    clear hs hn'
    by_cases h1 : i < 0
    · clear h
      go_enter Tryd.func22, Tryd.ntmps22
      go_wp2
      go_ret2
      exact ⟨rfl, rfl⟩
    · have h2 : (n : Int) ≤ i := by omega
      clear h
      go_enter Tryd.func22, Tryd.ntmps22
      go_wp2
      go_ret2
      exact ⟨rfl, rfl⟩
  · clear hs
    by_cases h1 : i < 0
    · clear h
      go_enter Tryd.func22, Tryd.ntmps22
      go_wp2
      go_ret2
      exact ⟨rfl, rfl⟩
    · have h2 : (0 : Int) ≤ i := by omega
      clear h
      go_enter Tryd.func22, Tryd.ntmps22
      go_wp2
      go_ret2
      exact ⟨rfl, rfl⟩
end Go.Proofs.YtdjdoepnljdlcaaDoor
