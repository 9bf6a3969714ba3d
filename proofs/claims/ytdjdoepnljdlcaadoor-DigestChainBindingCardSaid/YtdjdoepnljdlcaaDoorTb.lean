/- Walks of package digest's split, areDigests, cutLast, Root. -/
import Derived.Test.YtdjdoepnljdlcaaDoorTa
import Derived.Lib.ItoaNum
import Derived.Deep.RegionHeld3
namespace Go.Proofs.YtdjdoepnljdlcaaDoor
open Go.RowKit

theorem len_any (x : Nat) (hx : x ≤ 9223372036854775807) (w : World) : Calls Tryd.prog 60 #[.int .u64 (x : Int)] w fun e w' => e = .returned (.int .i64 ((Lib.bitLen x : Nat) : Int)) ∧ w = w' := by
  have h := Any.bits_Len Tryd.laysLen (x : Int) w (by omega) (by omega)
  rw [fLen] at h
  exact h.mono fun _ _ g => ⟨g.1, g.2.symm⟩
theorem bitLen_log (x : Nat) (h : 1 ≤ x) (h2 : x ≤ 9223372036854775807) : ∃ e, Lib.bitLen x = e + 1 ∧ e ≤ 62 ∧ Nat.log2 x = e := by
  have hb := Lib.bitLenAux_bounds 64 x (by omega) (by omega)
  have hx : Lib.bitLenAux 64 x = Lib.bitLen x := rfl
  rw [hx] at hb
  obtain ⟨e, he⟩ : ∃ e, Lib.bitLen x = e + 1 := ⟨Lib.bitLen x - 1, by omega⟩
  rw [he] at hb
  refine ⟨e, he, ?_, (Nat.log2_eq_iff (by omega)).2 ⟨hb.2.1, hb.2.2⟩⟩
  have h3 : 2 ^ e < 2 ^ 63 := Nat.lt_of_le_of_lt hb.2.1 (by omega)
  have := (Nat.pow_lt_pow_iff_right (a := 2) (by decide)).1 h3
  omega

theorem split_any (n : Nat) (h : 2 ≤ n) (h2 : n ≤ 9223372036854775807) (w : World) : Calls Tryd.prog 47 #[.int .i64 (n : Int)] w fun e w' => e = .returned (.int .i64 ((spl n : Nat) : Int)) ∧ w = w' := by
  obtain ⟨e, h3, h4, h5⟩ := bitLen_log (n - 1) (by omega) (by omega)
  have hL := fun w => len_any (n - 1) (by omega) w
  rw [h3] at hL
  have e1 : ((n - 1 : Nat) : Int) = (n : Int) - 1 := by omega
  rw [e1] at hL
  have hspl : spl n = 2 ^ e := by rw [spl, h5]
  have hlt := spl_lt n h
  have hsh : (1 : Int) * 2 ^ e = ((2 ^ e : Nat) : Int) := by simp
  have hle : 2 ^ e ≤ 4611686018427387904 := Nat.le_trans (Nat.pow_le_pow_right (by decide) h4) (by decide)
  have HS := Lib.hid hspl
  clear h3 h5 e1 hspl hlt
  go_enter Tryd.func47, Tryd.ntmps47
  go_wp2_with (go_at_call 60; (with_reducible refine (hL _).mono ?_); rintro e w' ⟨rfl, rfl⟩)
  go_ret
  refine ⟨congrArg (fun x => Ending.returned (.int .i64 x)) ?_, rfl⟩
  rw [HS.out]
  have e2 : (2 : Int) ^ e = ((2 ^ e : Nat) : Int) := by simp
  show wrap64 (2 ^ e) = _
  rw [e2]
  obtain ⟨p, hp⟩ : ∃ p, 2 ^ e = p := ⟨_, rfl⟩
  rw [hp] at hle ⊢
  unfold wrap64
  omega

/-- a slice value that reads as a list of strings -/
def Sl (w : World) (v : Value) (l : List ByteArray) : Prop :=
  (v = .slice none 0 0 ∧ l = []) ∨ ∃ b o c, v = .slice (some ⟨b, o, none⟩) l.length c ∧ l.length ≤ c ∧ c ≤ 9223372036854775807 ∧ b < w.heap.size ∧ StrRow w b o l
theorem Sl.below {w w' : World} {v : Value} {l : List ByteArray} (h : Sl w v l) (hb : Below w.heap.size w w') : Sl w' v l := by
  rcases h with h | ⟨b, o, c, h1, h2, h3, h4, h5⟩
  · exact .inl h
  · exact .inr ⟨b, o, c, h1, h2, h3, Nat.lt_of_lt_of_le h4 hb.size, h5.below hb h4⟩
theorem StrRow.take {w : World} {b o : Nat} {l : List ByteArray} (h : StrRow w b o l) (k : Nat) : StrRow w b o (l.take k) := fun j x hj => by
  rw [List.getElem?_take] at hj
  split at hj
  · exact h j x hj
  · cases hj
theorem StrRow.drop {w : World} {b o : Nat} {l : List ByteArray} (h : StrRow w b o l) (k : Nat) : StrRow w b (o + k) (l.drop k) := fun j x hj => by
  rw [List.getElem?_drop] at hj
  have := h _ x hj
  rwa [show o + (k + j) = o + k + j by omega] at this
theorem Sl.take {w : World} {b o c k : Nat} {l : List ByteArray} (h : StrRow w b o l) (hk : k ≤ l.length) (hl : l.length ≤ c) (hc : c ≤ 9223372036854775807) (hb : b < w.heap.size) : Sl w (.slice (some ⟨b, o, none⟩) k c) (l.take k) :=
  .inr ⟨b, o, c, by rw [List.length_take, Nat.min_eq_left hk], by rw [List.length_take]; omega, hc, hb, h.take k⟩
theorem Sl.drop {w : World} {b o c k : Nat} {l : List ByteArray} (h : StrRow w b o l) (hl : l.length ≤ c) (hc : c ≤ 9223372036854775807) (hb : b < w.heap.size) : Sl w (.slice (some ⟨b, o + k, none⟩) (l.length - k) (c - k)) (l.drop k) :=
  .inr ⟨b, o + k, c - k, by rw [List.length_drop], by rw [List.length_drop]; omega, by omega, hb, h.drop k⟩

/-- a contract that holds in every later world -/
theorem later {f : FuncId} {args : Array Value} {r : Ending} {w : World} (h : ∀ W, Below w.heap.size w W → Calls Tryd.prog f args W fun e w' => e = r ∧ Below W.heap.size W w') :
    ∀ W, Below w.heap.size w W → Calls Tryd.prog f args W fun e w' => e = r ∧ Below w.heap.size w w' := fun W hW => (h W hW).mono fun _ _ g => ⟨g.1, hW.trans (g.2.mono hW.size)⟩

instance (l : List ByteArray) : Decidable (All32 l) := inferInstanceAs (Decidable (∀ x ∈ l, x.size = 32))
theorem areDigests_any (v : Value) (l : List ByteArray) (w : World) (hs : Sl w v l) (hn : l.length ≤ 1000) (hz : ∀ s ∈ l, s.size ≤ 9223372036854775807) :
    Calls Tryd.prog 48 #[v] w fun e w' => e = .returned (.bool (decide (All32 l))) ∧ w = w' := by
  rcases hs with ⟨rfl, rfl⟩ | ⟨b, o, c, rfl, hlc, hc, hb, hr⟩
  · have hd : decide (All32 []) = true := decide_eq_true all32_nil
    rw [hd]
    go_enter Tryd.func48, Tryd.ntmps48
    go_wp2
    go_loop [4, 7] (fun _ i => i = .int .i64 0) (fun _ _ => 0)
    case atStart => exact rfl
    case round =>
      subst hrel
      go_wp2
      go_ret
      exact ⟨rfl, rfl⟩
  · obtain ⟨n, hnn⟩ : ∃ n, l.length = n := ⟨_, rfl⟩
    rw [hnn] at hn hlc ⊢
    have HN := Lib.hid hnn
    have HR := Lib.hid hr
    have HZ := Lib.hid hz
    clear hnn hr hz
    go_enter Tryd.func48, Tryd.ntmps48
    go_wp2
    go_loop [4, 7] (fun _ i => ∃ k : Nat, k ≤ n ∧ i = .int .i64 (k : Int) ∧ Hid (All32 (l.take k))) (fun _ i => n - (intOf i).toNat)
    case atStart => exact ⟨0, by omega, rfl, Lib.hid (by rw [List.take_zero]; exact all32_nil)⟩
    case round =>
      obtain ⟨k, hk, rfl, hA⟩ := hrel
      by_cases hlt : k < n
      · have hkl : k < l.length := by rw [HN.out]; exact hlt
        have hcell := HR.out k _ (List.getElem?_eq_getElem hkl)
        have hsz := HZ.out _ (List.getElem_mem hkl)
        have hmem := Lib.hid (List.getElem_mem hkl)
        have htk := Lib.hid (List.take_succ_eq_append_getElem hkl)
        obtain ⟨s, hs⟩ : ∃ s, l[k] = s := ⟨_, rfl⟩
        rw [hs] at hcell hsz htk hmem
        clear hs hkl
        by_cases h32 : s.size = 32
        · have hq : ((s.size : Int) == 32) = true := by rw [h32]; rfl
          have H32 := Lib.hid h32
          clear h32
          go_wp2
          go_round
          case rel => exact ⟨k + 1, by omega, by go_num, Lib.hid (by rw [htk.out]; exact all32_snoc.2 ⟨hA.out, H32.out⟩)⟩
          case measure => simp [intOf]; omega
        · have hq : ((s.size : Int) == 32) = false := by rw [beq_eq_false_iff_ne, ne_eq]; omega
          have hd : decide (All32 l) = false := decide_eq_false fun h => h32 (h s hmem.out)
          have HD := Lib.hid hd
          clear h32 hd
          go_wp2
          go_ret
          exact ⟨by rw [HD.out]; rfl, rfl⟩
      · have hd : decide (All32 l) = true := decide_eq_true (by have h := hA.out; rwa [List.take_of_length_le (by rw [HN.out]; omega)] at h)
        have HD := Lib.hid hd
        clear hd
        go_wp2
        go_ret
        exact ⟨by rw [HD.out]; rfl, rfl⟩

theorem cutLast_nil (v : Value) (w : World) (hs : Sl w v []) : Calls Tryd.prog 61 #[v] w fun e w' => e = .returned (.tuple #[.slice none 0 0, .string ⟨#[]⟩, .bool false]) ∧ w' = w := by
  rcases hs with ⟨rfl, _⟩ | ⟨b, o, c, rfl, _, hc, hb, hr⟩
  · go_enter Tryd.func61, Tryd.ntmps61
    go_wp2
    go_ret3
    exact ⟨rfl, rfl⟩
  · go_enter Tryd.func61, Tryd.ntmps61
    go_wp2
    go_ret3
    exact ⟨rfl, rfl⟩
theorem cutLast_snoc (b o c n : Nat) (q : List ByteArray) (x : ByteArray) (w : World) (hn : q.length = n) (hl : n + 1 ≤ c) (hc : c ≤ 9223372036854775807) (hr : StrRow w b o (q ++ [x])) :
    Calls Tryd.prog 61 #[.slice (some ⟨b, o, none⟩) (n + 1) c] w fun e w' => e = .returned (.tuple #[.slice (some ⟨b, o, none⟩) n c, .string x, .bool true]) ∧ ∃ k, w' = w.drewN k := by
  have hcell := hr n x (by rw [← hn]; simp)
  have HR := Lib.hid hr
  have HN := Lib.hid hn
  clear hr hn
  go_enter Tryd.func61, Tryd.ntmps61
  go_wp2
  go_quiet (fail)
  go_wp2
  go_ret3
  exact ⟨rfl, nq, rfl⟩

theorem root_nil_any (v : Value) (w : World) (hs : Sl w v []) (ht : Tab w) (hw : 0 < w.heap.size) : Calls Tryd.prog 27 #[v] w fun e w' => e = .returned (.string (root [])) ∧ Below w.heap.size w w' := by
  have hS := Sum_any ⟨#[]⟩ (by decide) w ht hw
  rw [root_nil]
  rcases hs with ⟨rfl, _⟩ | ⟨b, o, c, rfl, _, hc, hb, hr⟩
  · clear ht
    go_enter Tryd.func27, Tryd.ntmps27
    go_wp2_with (go_at_call 13; (refine hS.mono ?_); rintro e w' ⟨rfl, hb⟩)
    go_ret
    exact ⟨rfl, hb⟩
  · clear ht
    go_enter Tryd.func27, Tryd.ntmps27
    go_wp2_with (go_at_call 13; (refine hS.mono ?_); rintro e w' ⟨rfl, hb⟩)
    go_ret
    exact ⟨rfl, hb⟩

set_option maxRecDepth 100000 in
set_option maxHeartbeats 2000000 in
theorem root_any (N : Nat) : ∀ (l : List ByteArray) (v : Value) (w : World), l.length ≤ N → l.length ≤ 1000 → (∀ s ∈ l, s.size ≤ 137438953472) → Sl w v l → Tab w → 0 < w.heap.size →
    Calls Tryd.prog 27 #[v] w fun e w' => e = .returned (.string (root l)) ∧ Below w.heap.size w w' := by
  induction N with
  | zero =>
    intro l v w hN _ _ hs ht hw
    obtain rfl := List.eq_nil_of_length_eq_zero (Nat.le_zero.1 hN)
    exact root_nil_any v w hs ht hw
  | succ N ih =>
    intro l v w hN hn hz hs ht hw
    by_cases h0 : l.length = 0
    · obtain rfl := List.eq_nil_of_length_eq_zero h0
      exact root_nil_any v w hs ht hw
    · rcases hs with ⟨_, rfl⟩ | ⟨b, o, c, rfl, hlc, hc, hb, hr⟩
      · exact absurd rfl h0
      · by_cases h1 : l.length = 1
        · obtain ⟨x, rfl⟩ := List.length_eq_one_iff.1 h1
          have hS := Leaf_any x (hz x (by simp)) w ht hw
          have hcell := hr 0 x rfl
          rw [Nat.add_zero] at hcell
          rw [root_one]
          have e1 : [x].length = 1 := rfl
          rw [e1] at hlc ⊢
          clear ht hr e1 h0 h1 hz
          go_enter Tryd.func27, Tryd.ntmps27
          go_wp2_with (go_at_call 15; (refine hS.mono ?_); rintro e w' ⟨rfl, hb⟩)
          go_ret
          exact ⟨rfl, hb⟩
        · have h2 : 2 ≤ l.length := by omega
          have k1 := spl_lt _ h2
          have k2 := spl_pos l.length
          have hsp := fun w => split_any l.length h2 (by omega) w
          have hT := fun W (hW : Below w.heap.size w W) => ht.below hW hw
          have cL : ∀ W, Below w.heap.size w W → Calls Tryd.prog 27 #[.slice (some ⟨b, o, none⟩) (spl l.length) c] W fun e w' => e = .returned (.string (root (l.take (spl l.length)))) ∧ Below w.heap.size w w' :=
            later fun W hW => ih _ _ W (by rw [List.length_take]; omega) (by rw [List.length_take]; omega) (fun s hs => hz s (List.mem_of_mem_take hs)) ((Sl.take hr (by omega) hlc hc hb).below hW) (hT W hW) (Nat.lt_of_lt_of_le hw hW.size)
          have cR : ∀ W, Below w.heap.size w W → Calls Tryd.prog 27 #[.slice (some ⟨b, o + spl l.length, none⟩) (l.length - spl l.length) (c - spl l.length)] W fun e w' => e = .returned (.string (root (l.drop (spl l.length)))) ∧ Below w.heap.size w w' :=
            later fun W hW => ih _ _ W (by rw [List.length_drop]; omega) (by rw [List.length_drop]; omega) (fun s hs => hz s (List.mem_of_mem_drop hs)) ((Sl.drop hr hlc hc hb).below hW) (hT W hW) (Nat.lt_of_lt_of_le hw hW.size)
          have cN : ∀ W, Below w.heap.size w W → Calls Tryd.prog 17 #[.string (root (l.take (spl l.length))), .string (root (l.drop (spl l.length)))] W fun e w' => e = .returned (.string (nodeB (root (l.take (spl l.length))) (root (l.drop (spl l.length))))) ∧ Below w.heap.size w w' :=
            later fun W hW => Node_any _ _ (by rw [root_size]; omega) (by rw [root_size]; omega) W (hT W hW) (Nat.lt_of_lt_of_le hw hW.size)
          have HRt := Lib.hid (root_two h2)
          obtain ⟨n, hn'⟩ : ∃ n, l.length = n := ⟨_, rfl⟩
          rw [hn'] at hlc h2 k1 k2 hsp cL cR cN HRt hn ⊢
          obtain ⟨k, hk'⟩ : ∃ k, spl n = k := ⟨_, rfl⟩
          rw [hk'] at k1 k2 hsp cL cR cN HRt
          obtain ⟨rl, hrl⟩ : ∃ r, root (l.take k) = r := ⟨_, rfl⟩
          obtain ⟨rr, hrr⟩ : ∃ r, root (l.drop k) = r := ⟨_, rfl⟩
          rw [hrl] at cL cN HRt
          rw [hrr] at cR cN HRt
          have q0 : ((n : Int) == 0) = false := by rw [beq_eq_false_iff_ne, ne_eq]; omega
          have q1 : ((n : Int) == 1) = false := by rw [beq_eq_false_iff_ne, ne_eq]; omega
          have i0 : (0 : Int) ≤ (k : Int) := by omega
          have i1 : (k : Int) ≤ (n : Int) := by omega
          have i2 : (k : Int) ≤ (c : Int) := by omega
          have i3 : (k : Int) < (c : Int) := by omega
          have i4 : (n : Int) ≤ (c : Int) := by omega
          have HB := (Below.refl w.heap.size w).drew
          clear ih hz hr ht hT hrl hrr hk' hn' h0 h1 hN
          go_enter Tryd.func27, Tryd.ntmps27
          go_wp2_with (go_at_call 47; (with_reducible refine (hsp _).mono ?_); rintro e w' ⟨rfl, rfl⟩)
          go_region_held3 (fun W => Below w.heap.size w W) (first | assumption) (first | (go_at_call 27; (with_reducible refine (cL _ (by assumption)).mono ?_); rintro e w'' ⟨rfl, hb⟩) | (go_at_call 27; (with_reducible refine (cR _ (by assumption)).mono ?_); rintro e w'' ⟨rfl, hb⟩) | (go_at_call 17; (with_reducible refine (cN _ (by assumption)).mono ?_); rintro e w'' ⟨rfl, hb⟩))
          all_goals (go_wp2; go_ret; exact ⟨by rw [HRt.out]; rfl, by assumption⟩)
end Go.Proofs.YtdjdoepnljdlcaaDoor
