/- The walk of the laws' collide. -/
import Derived.Test.YtdjdoepnljdlcaaDoorWa
namespace Go.Proofs.YtdjdoepnljdlcaaDoor
open Go.RowKit

theorem neB (a b : ByteArray) : (a.toList != b.toList) = decide (a ≠ b) := by
  rw [bne, eqB]; by_cases h : a = b <;> simp [h]
def Bad (a b : List ByteArray) (i : Nat) : Prop := ∃ (h : i < a.length) (h' : i < b.length), a[i] ≠ b[i] ∧ sumB a[i] = sumB b[i]

set_option maxRecDepth 100000 in
set_option maxHeartbeats 4000000 in
theorem collide_some (r : Bool) (A B : List ByteArray) (b1 o1 c1 b2 o2 c2 n m : Nat) (w : World) (hr : r = true ↔ Clash A B) (hn : A.length = n) (hm : B.length = m)
    (hA : ∀ s ∈ A, s.size ≤ 137438953472) (hB : ∀ s ∈ B, s.size ≤ 137438953472) (hsA : StrRow w b1 o1 A) (hsB : StrRow w b2 o2 B) (hc1 : n ≤ c1) (hc2 : m ≤ c2) (hd1 : c1 ≤ 9223372036854775807)
    (hb1 : b1 < w.heap.size) (hb2 : b2 < w.heap.size) (ht : Tab w) (hw : 0 < w.heap.size) :
    Calls Tryd.prog 35 #[.slice (some ⟨b1, o1, none⟩) n c1, .slice (some ⟨b2, o2, none⟩) m c2] w fun e w' => e = .returned (.bool r) ∧ Below w.heap.size w w' := by
  have HN := Lib.hid hn
  have HM := Lib.hid hm
  have HsA := Lib.hid hsA
  have HsB := Lib.hid hsB
  have HA := Lib.hid hA
  have HB := Lib.hid hB
  have HR := Lib.hid hr
  have HT := Lib.hid ht
  clear hn hm hsA hsB hA hB hr ht
  go_enter Tryd.func35, Tryd.ntmps35
  go_wp2
  go_loopw [5] (fun i wr => ∃ k : Nat, k ≤ n ∧ k ≤ m ∧ i = .int .i64 (k : Int) ∧ Hid (∀ j, j < k → ¬ Bad A B j) ∧ Below w.heap.size w wr) (fun i _ => n - (intOf i).toNat)
  case atStart => exact ⟨0, by omega, by omega, rfl, Lib.hid (fun j hj => by omega), Below.refl _ _⟩
  case round =>
    obtain ⟨k, hkn, hkm, rfl, hno, hW⟩ := hrel
    by_cases h1 : k < n
    · by_cases h2 : k < m
      · have k1 : k < A.length := by rw [HN.out]; exact h1
        have k2 : k < B.length := by rw [HM.out]; exact h2
        have hx := (HsA.out.below hW hb1) k _ (List.getElem?_eq_getElem k1)
        have hy := (HsB.out.below hW hb2) k _ (List.getElem?_eq_getElem k2)
        have zx := HA.out _ (List.getElem_mem k1)
        have zy := HB.out _ (List.getElem_mem k2)
        have HBad := Lib.hid (show Bad A B k ↔ A[k] ≠ B[k] ∧ sumB A[k] = sumB B[k] from ⟨fun ⟨_, _, h⟩ => h, fun h => ⟨k1, k2, h⟩⟩)
        obtain ⟨x, hx'⟩ : ∃ x, A[k] = x := ⟨_, rfl⟩
        obtain ⟨y, hy'⟩ : ∃ y, B[k] = y := ⟨_, rfl⟩
        rw [hx'] at hx zx HBad
        rw [hy'] at hy zy HBad
        clear hx' hy' k1 k2
        have fe : ∀ a b : ByteArray, a = b → (a.toList == b.toList) = true := fun a b h => by rw [eqB]; simp [h]
        have fn : ∀ a b : ByteArray, a ≠ b → (a.toList == b.toList) = false := fun a b h => by rw [eqB]; simp [h]
        by_cases hxy : x = y
        · have q := fe x y hxy
          have HNo := Lib.hid (show ∀ j, j < k + 1 → ¬ Bad A B j from fun j hj => by
            rcases Nat.lt_succ_iff_lt_or_eq.1 hj with h | rfl
            · exact hno.out j h
            · intro h; exact (HBad.out.1 h).1 hxy)
          have HW := Lib.hid hW
          clear hxy fe fn hno HBad hW
          go_wp2
          go_quiet (fail)
          go_wp2
          go_roundw
          case rel => exact ⟨k + 1, by omega, by omega, by go_num, HNo, HW.out.trans ⟨rfl, rfl, rfl, Nat.le_refl _, fun _ _ => rfl⟩⟩
          case measure => simp [intOf]; omega
        · have q := fn x y hxy
          have cS : ∀ W z, z.size ≤ 137438953472 → W.cell? ⟨b1, o1 + k, none⟩ = some (.string x) ∧ W.cell? ⟨b2, o2 + k, none⟩ = some (.string y) ∧ Below w.heap.size w W → Calls Tryd.prog 13 #[.string z] W fun e w' => e = .returned (.string (sumB z)) ∧ w'.cell? ⟨b1, o1 + k, none⟩ = some (.string x) ∧ w'.cell? ⟨b2, o2 + k, none⟩ = some (.string y) ∧ Below w.heap.size w w' := fun W z hz ⟨g1, g2, g3⟩ =>
            (Sum_any z hz W (HT.out.below g3 hw) (Nat.lt_of_lt_of_le hw g3.size)).mono fun e w' ⟨he, hb⟩ => ⟨he, (hb.cell (p := ⟨b1, o1 + k, none⟩) (Nat.lt_of_lt_of_le hb1 g3.size)).trans g1, (hb.cell (p := ⟨b2, o2 + k, none⟩) (Nat.lt_of_lt_of_le hb2 g3.size)).trans g2, g3.trans (hb.mono g3.size)⟩
          have cX := fun W => cS W x zx
          have cY := fun W => cS W y zy
          have hS : wr.drew.cell? ⟨b1, o1 + k, none⟩ = some (.string x) ∧ wr.drew.cell? ⟨b2, o2 + k, none⟩ = some (.string y) ∧ Below w.heap.size w wr.drew := ⟨hx, hy, hW.drew⟩
          clear hx hy hW cS
          by_cases hs : sumB x = sumB y
          · have q2 := fe _ _ hs
            have hr1 : r = true := HR.out.2 (by obtain ⟨h, h', h''⟩ := HBad.out.2 ⟨hxy, hs⟩; exact ⟨k, h, h', h''⟩)
            have HR1 := Lib.hid hr1
            generalize sumB x = X at *
            generalize sumB y = Y at *
            clear hxy fe fn hno HBad hs hr1
            go_wp2
            go_region_held3 (fun W => W.cell? ⟨b1, o1 + k, none⟩ = some (.string x) ∧ W.cell? ⟨b2, o2 + k, none⟩ = some (.string y) ∧ Below w.heap.size w W) (first | assumption | exact ⟨by assumption, by assumption, by assumption⟩) (first | (go_at_call_of 13 (Value.string x); (with_reducible refine (cX _ ?_).mono ?_); (first | assumption | exact ⟨by assumption, by assumption, by assumption⟩); rintro e w'' ⟨rfl, g1, g2, g3⟩) | (go_at_call_of 13 (Value.string y); (with_reducible refine (cY _ ?_).mono ?_); (first | assumption | exact ⟨by assumption, by assumption, by assumption⟩); rintro e w'' ⟨rfl, g1, g2, g3⟩))
            all_goals (go_wp2; go_ret; exact ⟨by rw [HR1.out]; rfl, by assumption⟩)
          · have q2 := fn _ _ hs
            have HNo := Lib.hid (show ∀ j, j < k + 1 → ¬ Bad A B j from fun j hj => by
              rcases Nat.lt_succ_iff_lt_or_eq.1 hj with h | rfl
              · exact hno.out j h
              · intro h; exact hs (HBad.out.1 h).2)
            generalize sumB x = X at *
            generalize sumB y = Y at *
            clear hxy fe fn hno HBad hs
            go_wp2
            go_region_held3 (fun W => W.cell? ⟨b1, o1 + k, none⟩ = some (.string x) ∧ W.cell? ⟨b2, o2 + k, none⟩ = some (.string y) ∧ Below w.heap.size w W) (first | assumption | exact ⟨by assumption, by assumption, by assumption⟩) (first | (go_at_call_of 13 (Value.string x); (with_reducible refine (cX _ ?_).mono ?_); (first | assumption | exact ⟨by assumption, by assumption, by assumption⟩); rintro e w'' ⟨rfl, g1, g2, g3⟩) | (go_at_call_of 13 (Value.string y); (with_reducible refine (cY _ ?_).mono ?_); (first | assumption | exact ⟨by assumption, by assumption, by assumption⟩); rintro e w'' ⟨rfl, g1, g2, g3⟩))
            all_goals go_wp2
            all_goals go_roundw
            case rel => exact ⟨k + 1, by omega, by omega, by go_num, HNo, by assumption⟩
            case measure => simp [intOf]; omega
      · have hk : k = m := by omega
        have HR0 := Lib.hid (show r = false by
          rw [Bool.eq_false_iff]; intro h
          obtain ⟨j, h1, h2, h3⟩ := HR.out.1 h
          exact hno.out j (by have := HM.out; omega) ⟨h1, h2, h3⟩)
        subst hk
        go_wp2
        go_ret
        exact ⟨by rw [HR0.out]; rfl, hW⟩
    · have hk : k = n := by omega
      have HR0 := Lib.hid (show r = false by
        rw [Bool.eq_false_iff]; intro h
        obtain ⟨j, h1, h2, h3⟩ := HR.out.1 h
        exact hno.out j (by have := HN.out; omega) ⟨h1, h2, h3⟩)
      subst hk
      go_wp2
      go_ret
      exact ⟨by rw [HR0.out]; rfl, hW⟩

set_option maxRecDepth 100000 in
theorem collide_none (a1 : Option Addr) (n1 c1 : Nat) (a2 : Option Addr) (n2 c2 : Nat) (w : World) (h : n1 = 0 ∨ n2 = 0) (hn1 : n1 ≤ 9223372036854775807) :
    Calls Tryd.prog 35 #[.slice a1 n1 c1, .slice a2 n2 c2] w fun e w' => e = .returned (.bool false) ∧ w = w' := by
  go_enter Tryd.func35, Tryd.ntmps35
  go_wp2
  go_loop [5] (fun i => i = .int .i64 0) (fun i => 0)
  case atStart => exact rfl
  case round =>
    subst hrel
    by_cases h1 : n1 = 0
    · subst h1
      clear h
      go_wp2
      go_ret
      exact ⟨rfl, rfl⟩
    · obtain rfl : n2 = 0 := by omega
      have h2 : 0 < n1 := by omega
      clear h h1
      go_wp2
      go_ret
      exact ⟨rfl, rfl⟩

theorem collide_any (r : Bool) (A B : List ByteArray) (v1 v2 : Value) (w : World) (hr : r = true ↔ Clash A B) (hA : ∀ s ∈ A, s.size ≤ 137438953472) (hB : ∀ s ∈ B, s.size ≤ 137438953472) (hs1 : Sl w v1 A) (hs2 : Sl w v2 B) (ht : Tab w) (hw : 0 < w.heap.size) :
    Calls Tryd.prog 35 #[v1, v2] w fun e w' => e = .returned (.bool r) ∧ Below w.heap.size w w' := by
  have no : A = [] ∨ B = [] → r = false := fun h => by
    rw [Bool.eq_false_iff]; intro h1
    obtain ⟨j, h2, h3, _⟩ := hr.1 h1
    rcases h with rfl | rfl
    · exact absurd h2 (by simp)
    · exact absurd h3 (by simp)
  rcases hs1 with ⟨rfl, rfl⟩ | ⟨b1, o1, c1, rfl, l1, d1, m1, r1⟩
  · rw [no (.inl rfl)]
    rcases hs2 with ⟨rfl, rfl⟩ | ⟨b2, o2, c2, rfl, l2, d2, m2, r2⟩
    · exact (collide_none none 0 0 none 0 0 w (.inl rfl) (by decide)).mono fun _ _ g => ⟨g.1, g.2 ▸ Below.refl _ _⟩
    · exact (collide_none none 0 0 _ _ _ w (.inl rfl) (by decide)).mono fun _ _ g => ⟨g.1, g.2 ▸ Below.refl _ _⟩
  · rcases hs2 with ⟨rfl, rfl⟩ | ⟨b2, o2, c2, rfl, l2, d2, m2, r2⟩
    · rw [no (.inr rfl)]
      exact (collide_none _ _ _ none 0 0 w (.inr rfl) (by omega)).mono fun _ _ g => ⟨g.1, g.2 ▸ Below.refl _ _⟩
    · exact collide_some r A B b1 o1 c1 b2 o2 c2 _ _ w hr rfl rfl hA hB r1 r2 l1 l2 d1 m1 m2 ht hw
end Go.Proofs.YtdjdoepnljdlcaaDoor
