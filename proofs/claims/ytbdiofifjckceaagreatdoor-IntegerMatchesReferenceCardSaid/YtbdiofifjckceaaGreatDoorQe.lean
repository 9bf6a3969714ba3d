/- The reference's trim and text. -/
import Derived.Test.YtbdiofifjckceaaGreatDoorQd
namespace Go.Proofs.YtbdiofifjckceaaGreatDoor
open Go.RowKit

set_option maxRecDepth 100000 in
theorem rtrim_some (l : List Int) (b o n c : Nat) (w : World) (hn : l.length = n) (hc : n ≤ c) (hc2 : c ≤ 9223372036854775807) (hr : IRow w b o l) :
    Calls Tryz.prog 29 #[.slice (some ⟨b, o, none⟩) n c] w fun e w' => e = .returned (.slice (some ⟨b, o, none⟩) (trz l).length c) ∧ ∃ q, w' = w.drewN q := by
  have HN := Lib.hid hn
  have HR := Lib.hid hr
  clear hn hr
  go_enter Tryz.func29, Tryz.ntmps29
  go_wp2
  go_loopw [0] (fun v wr => ∃ k : Nat, k ≤ n ∧ v = .slice (some ⟨b, o, none⟩) k c ∧ Hid (trz (l.take k) = trz l) ∧ Hid (∃ q, wr = w.drewN q)) (fun v _ => match v with | .slice _ k _ => k | _ => 0)
  case atStart => exact ⟨n, Nat.le_refl _, rfl, Lib.hid (by rw [List.take_of_length_le (by rw [HN.out]; exact Nat.le_refl _)]), Lib.hid ⟨0, rfl⟩⟩
  case round =>
    obtain ⟨k, hk, rfl, HT, HW⟩ := hrel
    by_cases h0 : k = 0
    · subst h0
      have HL := Lib.hid (show (trz l).length = 0 by rw [← HT.out]; rfl)
      go_wp2
      go_ret
      exact ⟨by rw [HL.out]; rfl, HW.out⟩
    · obtain ⟨m, rfl⟩ : ∃ m, k = m + 1 := ⟨k - 1, by omega⟩
      have k1 : m < l.length := by rw [HN.out]; omega
      have hx : wr.cell? ⟨b, o + m, none⟩ = some (.int .i64 l[m]) := by obtain ⟨q, rfl⟩ := HW.out; exact HR.out m _ (List.getElem?_eq_getElem k1)
      have HK := Lib.hid (List.take_succ_eq_append_getElem k1)
      obtain ⟨x, hx'⟩ : ∃ x, l[m] = x := ⟨_, rfl⟩
      rw [hx'] at hx HK
      clear hx' k1 h0
      by_cases hx0 : x = 0
      · subst hx0
        have HT2 := Lib.hid (show trz (l.take m) = trz l by rw [← HT.out, HK.out, trz_snoc0])
        go_wp2
        go_roundw
        case rel => exact ⟨m, by omega, rfl, HT2, HW⟩
        case measure => exact Nat.lt_succ_self m
      · have q1 : (x == 0) = false := by rw [beq_eq_false_iff_ne]; exact hx0
        have HL := Lib.hid (show (trz l).length = m + 1 by rw [← HT.out, HK.out, trz_snoc _ _ hx0, List.length_append, List.length_take, HN.out]; simp; omega)
        go_wp2
        go_ret
        exact ⟨by rw [HL.out]; rfl, HW.out⟩
theorem rtrim_nil (w : World) : Calls Tryz.prog 29 #[.slice none 0 0] w fun e w' => e = .returned (.slice none 0 0) ∧ w = w' := by
  go_enter Tryz.func29, Tryz.ntmps29
  go_wp2
  go_loop [0] (fun v => v = .slice none 0 0) (fun _ => 0)
  case atStart => exact rfl
  case round =>
    subst hrel
    go_wp2
    go_ret
    exact ⟨rfl, rfl⟩


theorem wr4_cons (x : Int) (l : List Int) : wr4 (x :: l) = wr4 l ++ [48 + x] := by simp [wr4]
theorem own_bytes {w : World} {base n : Nat} {v : Value} {l : List Int} (h : w.ownsRow base 5 1 v n (l.map (Value.int .u8))) (hn : 0 < n) : ∃ g cap, v = .slice (some ⟨g, 0, none⟩) n cap ∧ base ≤ g ∧ UBlk w g l := by
  rcases h.2 with ⟨_, h'⟩ | ⟨g, cap, cur, rfl, hb, _⟩
  · omega
  · exact ⟨g, cap, rfl, hb, own_ublk h⟩
theorem own_block {w : World} {base n k : Nat} {e : TypeId} {v : Value} {xs : List Value} (h : w.ownsRow base e 1 v n xs) (hk : v.ownBlock = some k) : base ≤ k := by
  rcases h.2 with ⟨rfl, _⟩ | ⟨g, cap, cur, rfl, hb, _⟩
  · cases hk
  · cases hk; exact hb
theorem one_newB (W : World) (x : Int) : ∀ j u, [Value.int .u8 x][j]? = some u → (W.alloc (.cells #[.int .u8 x] 5)).cell? ((⟨W.heap.size, 0, none⟩ : Addr).add j) = some u := by
  intro j u h
  rcases j with _ | j
  · simp at h
    subst h
    rw [Addr.add_mid, World.cell?, Go.heap_alloc_new]
    rfl
  · simp at h

set_option maxRecDepth 100000 in
set_option maxHeartbeats 1000000 in
theorem rtext_any (neg : Bool) (l : List Int) (b n c : Nat) (w : World) (hn : l.length = n) (hn0 : 0 < n) (hn9 : n ≤ 200) (hnc : n ≤ c) (hd : DigX l) (hr : IRow w b 0 l) (hb : b < w.heap.size) :
    Calls Tryz.prog 28 #[.bool neg, .slice (some ⟨b, 0, none⟩) n c] w fun e w' => e = .returned (.tuple #[.string ⟨((if neg then [45] else []) ++ lts l).toArray⟩, .bool true]) ∧ Below w.heap.size w w' := by
  have _ := hnc
  obtain ⟨i0, hi, hz0, hz1, hz2⟩ := info_parts info_u8
  have HN := Lib.hid hn
  have HD := Lib.hid hd
  have HR := Lib.hid hr
  have HZ2 := Lib.hid hz2
  have n2 : decide ((n : Int) ≤ 200) = true := by rw [decide_eq_true_eq]; omega
  have n0 : ((n : Int) == 0) = false := by rw [beq_eq_false_iff_ne]; omega
  clear hn hd hr hz2
  cases neg
  · go_enter Tryz.func28, Tryz.ntmps28
    go_wp2
    all_goals
      go_loopw [6, 7] (fun ov iv wr => ∃ (k : Nat) (ad : Option Addr) (cp : Nat), k ≤ n ∧ ov = .slice ad (n - k) cp ∧ iv = .int .i64 ((k : Int) - 1) ∧ Hid (wr.ownsRow w.heap.size 5 1 ov (n - k) (([] ++ wr4 (l.drop k)).map (Value.int .u8))) ∧ Below w.heap.size w wr) (fun _ i _ => (intOf i + 1).toNat)
      case atStart => exact ⟨n, _, _, Nat.le_refl _, by rw [Nat.sub_self], rfl, Lib.hid (by rw [List.drop_eq_nil_of_le (by rw [HN.out]; exact Nat.le_refl _), Nat.sub_self]; exact ⟨rfl, .inl ⟨rfl, rfl⟩⟩), Below.refl _ _⟩
      case round =>
        obtain ⟨k, ad, cp, hk, rfl, rfl, hO, hB⟩ := hrel
        by_cases h0 : k = 0
        · subst h0
          have hO2 := hO.out
          rw [List.drop_zero, Nat.sub_zero] at hO2
          obtain ⟨g, cap, hsl, hgb, hU⟩ := own_bytes hO2 (by omega)
          simp only [Value.slice.injEq] at hsl
          obtain ⟨rfl, _, rfl⟩ := hsl
          rw [wr4_lts HD.out, show ([] : List Int) = ([] : List UInt8).map (fun b => (b.toNat : Int)) from rfl, ← List.map_append] at hU
          have hll : (([] : List UInt8) ++ lts l).length = n := by rw [List.length_append, lts_len, HN.out]; simp
          have hcv := run_convert_bytes_back (P := Tryz.prog) wr 71 9 5 ⟨g, 0, none⟩ cp (([] : List UInt8) ++ lts l) Tryz.underlying71 Tryz.underlying5 Tryz.underlying9 (fun j hj => by
            rw [Addr.add_mid]
            exact hU.cell (by rw [List.getElem?_map, List.getElem?_eq_getElem (by omega)]; simp))
          rw [hll] at hcv
          generalize HGEN : (([] : List UInt8) ++ lts l).toArray = S at *
          have HG := Lib.hid HGEN
          clear hO hO2 hU hll HGEN
          go_wp2
          go_ret2
          exact ⟨by rw [← HG.out]; rfl, hB⟩
        · obtain ⟨m, rfl⟩ : ∃ m, k = m + 1 := ⟨k - 1, by omega⟩
          have k1 : m < l.length := by rw [HN.out]; omega
          have hx : wr.cell? ⟨b, m, none⟩ = some (.int .i64 l[m]) := by have := (HR.out.below hB hb) m _ (List.getElem?_eq_getElem k1); rwa [Nat.zero_add] at this
          have hxd := HD.out _ (List.getElem_mem k1)
          have hdr := List.drop_eq_getElem_cons k1
          generalize l[m] = x at *
          have ew : IntKind.u8.wrap (48 + x) = 48 + x := by simp [IntKind.wrap, IntKind.bits, IntKind.signed]; omega
          have HO := Lib.hid (hO.out.alloc (.cells #[.int .u8 (48 + x)] 5))
          have hO3 : ∀ (w3 : World) (v3 : Value), w3.ownsRow w.heap.size 5 1 v3 ((n - (m + 1)) + 1) (([] ++ wr4 (l.drop (m + 1))).map (Value.int .u8) ++ [.int .u8 (48 + x)]) → w3.ownsRow w.heap.size 5 1 v3 (n - m) (([] ++ wr4 (l.drop m)).map (Value.int .u8)) := fun w3 v3 h => by
            rw [show (n - (m + 1)) + 1 = (n - m) by omega] at h
            rw [hdr, wr4_cons]
            simpa using h
          have HO3 := Lib.hid hO3
          have HBA := Lib.hid (hB.alloc hB.size (.cells #[.int .u8 (48 + x)] 5))
          have hob : ∀ q, (Value.slice ad (n - (m + 1)) cp).ownBlock = some q → w.heap.size ≤ q := fun q hq => own_block hO.out hq
          have HOB := Lib.hid hob
          have x0 := hxd.1
          have x9 := hxd.2
          clear hxd hdr hO3 hob hO hB k1
          go_wp2_with (at_builtin; go_loud (refine wpList_append_lies _ rfl (.tmp 22) (.tmp 29) 71 rfl w.heap.size 5 i0 (.int .u8 0) 1 1 Tryz.underlying71 hi hz0 hz1 HZ2.out rfl (by decide) (.slice ad (n - (m + 1)) cp) _ _ rfl HO.out ⟨wr.heap.size, 0, none⟩ 1 1 [.int .u8 (48 + x)] rfl rfl (one_newB wr _) (by intro u hu; simp at hu; subst hu; rfl) (by decide) (by unfold maxLen; omega) (by omega) HBA.out.size _ rfl ?_; intro g2 cap2 w3 hown3 hgrow _ _; have HOW := Lib.hid (HO3.out w3 _ hown3); have HB3 := Lib.hid (HBA.out.grown hgrow HBA.out.size (fun q hq => HOB.out q hq)); clear hown3 hgrow))
          exact ⟨⟨m, _, _, by omega, by congr 1; omega, by go_num, HOW, HB3.out⟩, by simp [intOf]⟩
  · go_enter Tryz.func28, Tryz.ntmps28
    have hOW : w.ownsRow w.heap.size 5 1 (.slice none 0 0) 0 [] := ⟨rfl, .inl ⟨rfl, rfl⟩⟩
    have HOW0 := Lib.hid (hOW.alloc (.cells #[.int .u8 45] 5))
    clear hOW
    have HBA := Lib.hid (below_alloc w (.cells #[.int .u8 45] 5))
    go_wp2_with (at_builtin; go_loud (refine wpList_append_lies _ rfl (.tmp 12) (.tmp 13) 71 rfl w.heap.size 5 i0 (.int .u8 0) 1 1 Tryz.underlying71 hi hz0 hz1 HZ2.out rfl (by decide) (.slice none 0 0) 0 [] rfl HOW0.out ⟨w.heap.size, 0, none⟩ 1 1 [.int .u8 45] rfl rfl (one_newB w _) (by intro u hu; simp at hu; subst hu; rfl) (by decide) (by unfold maxLen; omega) (by omega) HBA.out.size _ rfl ?_; intro g1 cap1 w1 hown1 hgrow1 _ _; have HO1 := Lib.hid hown1; have HB1 := Lib.hid (HBA.out.grown hgrow1 HBA.out.size (fun q hq => by cases hq)); clear hown1 hgrow1))
    all_goals
      go_loopw [6, 7] (fun ov iv wr => ∃ (k : Nat) (ad : Option Addr) (cp : Nat), k ≤ n ∧ ov = .slice ad (1 + (n - k)) cp ∧ iv = .int .i64 ((k : Int) - 1) ∧ Hid (wr.ownsRow w.heap.size 5 1 ov (1 + (n - k)) (([45] ++ wr4 (l.drop k)).map (Value.int .u8))) ∧ Below w.heap.size w wr) (fun _ i _ => (intOf i + 1).toNat)
      case atStart => exact ⟨n, _, _, Nat.le_refl _, by rw [Nat.sub_self], rfl, Lib.hid (by rw [List.drop_eq_nil_of_le (by rw [HN.out]; exact Nat.le_refl _), Nat.sub_self]; simpa [wr4] using HO1.out), HB1.out⟩
      case round =>
        clear HO1 HB1 HOW0 HBA
        obtain ⟨k, ad, cp, hk, rfl, rfl, hO, hB⟩ := hrel
        by_cases h0 : k = 0
        · subst h0
          have hO2 := hO.out
          rw [List.drop_zero, Nat.sub_zero] at hO2
          obtain ⟨g, cap, hsl, hgb, hU⟩ := own_bytes hO2 (by omega)
          simp only [Value.slice.injEq] at hsl
          obtain ⟨rfl, _, rfl⟩ := hsl
          rw [wr4_lts HD.out, show ([45] : List Int) = ([45] : List UInt8).map (fun b => (b.toNat : Int)) from rfl, ← List.map_append] at hU
          have hll : (([45] : List UInt8) ++ lts l).length = (1 + n) := by rw [List.length_append, lts_len, HN.out]; simp
          have hcv := run_convert_bytes_back (P := Tryz.prog) wr 71 9 5 ⟨g, 0, none⟩ cp (([45] : List UInt8) ++ lts l) Tryz.underlying71 Tryz.underlying5 Tryz.underlying9 (fun j hj => by
            rw [Addr.add_mid]
            exact hU.cell (by rw [List.getElem?_map, List.getElem?_eq_getElem (by omega)]; simp))
          rw [hll] at hcv
          generalize HGEN : (([45] : List UInt8) ++ lts l).toArray = S at *
          have HG := Lib.hid HGEN
          clear hO hO2 hU hll HGEN
          go_wp2
          go_ret2
          exact ⟨by rw [← HG.out]; rfl, hB⟩
        · obtain ⟨m, rfl⟩ : ∃ m, k = m + 1 := ⟨k - 1, by omega⟩
          have k1 : m < l.length := by rw [HN.out]; omega
          have hx : wr.cell? ⟨b, m, none⟩ = some (.int .i64 l[m]) := by have := (HR.out.below hB hb) m _ (List.getElem?_eq_getElem k1); rwa [Nat.zero_add] at this
          have hxd := HD.out _ (List.getElem_mem k1)
          have hdr := List.drop_eq_getElem_cons k1
          generalize l[m] = x at *
          have ew : IntKind.u8.wrap (48 + x) = 48 + x := by simp [IntKind.wrap, IntKind.bits, IntKind.signed]; omega
          have HO := Lib.hid (hO.out.alloc (.cells #[.int .u8 (48 + x)] 5))
          have hO3 : ∀ (w3 : World) (v3 : Value), w3.ownsRow w.heap.size 5 1 v3 ((1 + (n - (m + 1))) + 1) (([45] ++ wr4 (l.drop (m + 1))).map (Value.int .u8) ++ [.int .u8 (48 + x)]) → w3.ownsRow w.heap.size 5 1 v3 (1 + (n - m)) (([45] ++ wr4 (l.drop m)).map (Value.int .u8)) := fun w3 v3 h => by
            rw [show (1 + (n - (m + 1))) + 1 = (1 + (n - m)) by omega] at h
            rw [hdr, wr4_cons]
            simpa using h
          have HO3 := Lib.hid hO3
          have HBA := Lib.hid (hB.alloc hB.size (.cells #[.int .u8 (48 + x)] 5))
          have hob : ∀ q, (Value.slice ad (1 + (n - (m + 1))) cp).ownBlock = some q → w.heap.size ≤ q := fun q hq => own_block hO.out hq
          have HOB := Lib.hid hob
          have x0 := hxd.1
          have x9 := hxd.2
          clear hxd hdr hO3 hob hO hB k1
          go_wp2_with (at_builtin; go_loud (refine wpList_append_lies _ rfl (.tmp 22) (.tmp 29) 71 rfl w.heap.size 5 i0 (.int .u8 0) 1 1 Tryz.underlying71 hi hz0 hz1 HZ2.out rfl (by decide) (.slice ad (1 + (n - (m + 1))) cp) _ _ rfl HO.out ⟨wr.heap.size, 0, none⟩ 1 1 [.int .u8 (48 + x)] rfl rfl (one_newB wr _) (by intro u hu; simp at hu; subst hu; rfl) (by decide) (by unfold maxLen; omega) (by omega) HBA.out.size _ rfl ?_; intro g2 cap2 w3 hown3 hgrow _ _; have HOW := Lib.hid (HO3.out w3 _ hown3); have HB3 := Lib.hid (HBA.out.grown hgrow HBA.out.size (fun q hq => HOB.out q hq)); clear hown3 hgrow))
          exact ⟨⟨m, _, _, by omega, by congr 1; omega, by go_num, HOW, HB3.out⟩, by simp [intOf]⟩

theorem rtext_zero (neg : Bool) (a : Option Addr) (c : Nat) (w : World) :
    Calls Tryz.prog 28 #[.bool neg, .slice a 0 c] w fun e w' => e = .returned (.tuple #[.string ⟨#[48]⟩, .bool true]) ∧ w = w' := by
  go_enter Tryz.func28, Tryz.ntmps28
  go_wp2
  go_ret2
  exact ⟨rfl, rfl⟩
end Go.Proofs.YtbdiofifjckceaaGreatDoor
