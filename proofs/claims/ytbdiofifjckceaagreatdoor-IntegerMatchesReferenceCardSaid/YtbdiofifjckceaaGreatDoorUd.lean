/- The reference's digits; its text for any length. -/
import Derived.Test.YtbdiofifjckceaaGreatDoorUc
namespace Go.Proofs.YtbdiofifjckceaaGreatDoor
open Go.RowKit

theorem own_XSl {w : World} {base i cp n : Nat} {ad : Option Addr} {l : List Int} (h : w.ownsRow base 3 1 (.slice ad i cp) i (ints l)) (hl : l.length = i) (hx : l = grpX n) : XSl w (.slice ad i cp) n := by
  rw [XSl, ← hx]
  by_cases h0 : 0 < i
  · obtain ⟨g, cap, hsl, hgb, hA, hc1, hc2⟩ := own_ints h h0
    simp only [Value.slice.injEq] at hsl
    obtain ⟨rfl, _, rfl⟩ := hsl
    exact ABlk.sl (S := []) (by simpa using hA) hl hc1 hc2
  · exact .inl ⟨ad, cp, by rw [show i = 0 by omega], List.length_eq_zero_iff.1 (by omega)⟩

set_option maxRecDepth 100000 in
set_option maxHeartbeats 2000000 in
theorem digits_any (z : Int) (w : World) (hz : z.natAbs < 10 ^ 200) :
    Calls Tryz.prog 32 #[.string (S z)] w fun e w' => ∃ v, e = .returned (.tuple #[.bool (decide (z < 0)), v]) ∧ XSl w' v z.natAbs ∧ Below w.heap.size w w' := by
  obtain ⟨i0, hi, hz0, hz1, hz2⟩ := info_parts info_int
  have HZ2 := Lib.hid hz2
  obtain ⟨s, hs⟩ : ∃ s, S z = s := ⟨_, rfl⟩
  have hsl : s.data.toList = txt z := by rw [← hs, S_list]
  rw [hs]
  obtain ⟨n, hn⟩ : ∃ n, z.natAbs = n := ⟨_, rfl⟩
  obtain ⟨D, hD⟩ : ∃ D, txN n = D := ⟨_, rfl⟩
  have hall : D.all isDg = true := by rw [← hD]; exact txN_all n
  have hpos : 0 < D.length := by rw [← hD]; exact txN_pos n
  have hlen : D.length ≤ 200 := by rw [← hD]; exact txN_len (by omega) (by decide)
  have hdg : n ≠ 0 → dgs D = grpX n := fun h => by rw [← hD, txN, if_neg h, dgs_lts (grpX_dig n)]
  have hd0 : n ≠ 0 → D ≠ [48] := fun h e => by
    have := txN_head h; rw [hD, e] at this; exact this rfl
  rw [hn]
  obtain ⟨m, hm⟩ : ∃ m, D.length = m := ⟨_, rfl⟩
  rw [hm] at hpos hlen
  have HA := Lib.hid hall
  have HG := Lib.hid hdg
  clear hz2 hs hz hall hdg
  by_cases hneg : z < 0
  · have hn0 : n ≠ 0 := by omega
    rw [txt, if_pos hneg, hn, hD] at hsl
    rw [decide_eq_true hneg]
    have ht := bytes_tail' hsl
    have hsz := bytes_size hsl
    rw [List.length_cons, hm] at hsz
    rw [hsz] at ht
    have h4 : (1 : Int) ≤ (s.size : Int) := by omega
    have hg0 := fun h : 0 < s.size => bytes_at (j := 0) hsl rfl h
    obtain ⟨d, hd⟩ : ∃ d : ByteArray, d = ⟨D.toArray⟩ := ⟨_, rfl⟩
    have hdl : d.data.toList = D := by rw [hd]
    rw [← hd] at ht
    have hds := bytes_size hdl
    rw [hm] at hds
    have HD := Lib.hid (And.intro hdl hm)
    have ht1 : (d.toList == [48]) = false := by rw [ByteArray.toList_eq, hdl, beq_eq_false_iff_ne]; exact hd0 hn0
    have ht2 : (d.toList != [48]) = true := by rw [bne, ht1]; rfl
    clear hsl hd hdl hm hd0 hneg hD hn
    go_enter Tryz.func32, Tryz.ntmps32
    go_wp2
    go_loopw [5, 6] (fun ov iv wr => ∃ (k : Nat) (ad : Option Addr) (cp : Nat), k ≤ m ∧ ov = .slice ad (m - k) cp ∧ iv = .int .i64 ((k : Int) - 1) ∧ Hid (wr.ownsRow w.heap.size 3 1 ov (m - k) (ints (dgs (D.drop k)))) ∧ Below w.heap.size w wr) (fun _ i _ => (intOf i + 1).toNat)
    case atStart => exact ⟨m, _, _, Nat.le_refl _, by rw [Nat.sub_self], rfl, Lib.hid (by rw [List.drop_eq_nil_of_le (by rw [HD.out.2]; exact Nat.le_refl _), Nat.sub_self]; exact ⟨rfl, .inl ⟨rfl, rfl⟩⟩), Below.refl _ _⟩
    case round =>
      obtain ⟨k, ad, cp, hk, rfl, rfl, hO, hB⟩ := hrel
      by_cases h0 : k = 0
      · subst h0
        have hO2 := hO.out
        rw [List.drop_zero, Nat.sub_zero] at hO2
        have HX := Lib.hid (own_XSl hO2 (by rw [dgs_len]; exact HD.out.2) (HG.out hn0))
        clear hO hO2
        go_wp2
        go_ret2
        exact ⟨_, rfl, HX.out, hB⟩
      · obtain ⟨j, rfl⟩ : ∃ j, k = j + 1 := ⟨k - 1, by omega⟩
        have k1 : j < D.length := by rw [HD.out.2]; omega
        obtain ⟨c, hc⟩ : ∃ c, D[j]? = some c := ⟨_, List.getElem?_eq_getElem k1⟩
        have hg := fun h : j < d.size => bytes_at HD.out.1 hc h
        have hcd := (isDg_iff c).1 (List.all_eq_true.1 HA.out c (List.mem_of_getElem? hc))
        have hdr := List.drop_eq_getElem_cons k1
        rw [show D[j] = c from Option.some.inj ((List.getElem?_eq_getElem k1).symm.trans hc)] at hdr
        have ew : IntKind.u8.wrap ((c.toNat : Int) - 48) = (c.toNat : Int) - 48 := by simp [IntKind.wrap, IntKind.bits, IntKind.signed]; omega
        have HO := Lib.hid (hO.out.alloc (.cells #[.int .i64 ((c.toNat : Int) - 48)] 3))
        have HO3 := Lib.hid (show ∀ (w3 : World) (v3 : Value), w3.ownsRow w.heap.size 3 1 v3 (m - (j + 1) + 1) (ints (dgs (D.drop (j + 1))) ++ [.int .i64 ((c.toNat : Int) - 48)]) → w3.ownsRow w.heap.size 3 1 v3 (m - j) (ints (dgs (D.drop j))) from fun w3 v3 h => by
          rw [show m - (j + 1) + 1 = m - j by omega] at h
          rw [hdr, dgs_cons]
          simpa [ints] using h)
        have HBA := Lib.hid (hB.alloc hB.size (.cells #[.int .i64 ((c.toNat : Int) - 48)] 3))
        have HOB := Lib.hid (show ∀ q, (Value.slice ad (m - (j + 1)) cp).ownBlock = some q → w.heap.size ≤ q from fun q hq => own_block hO.out hq)
        have d1 := hcd.1
        have d2 := hcd.2
        clear hcd hdr hO hB k1 hc
        go_wp2_with (at_builtin; go_loud (refine wpList_append_lies _ rfl (.tmp 24) (.tmp 30) 40 rfl w.heap.size 3 i0 (.int .i64 0) 1 8 Tryz.underlying40 hi hz0 hz1 HZ2.out rfl (by decide) (.slice ad (m - (j + 1)) cp) _ _ rfl HO.out ⟨wr.heap.size, 0, none⟩ 1 1 [.int .i64 ((c.toNat : Int) - 48)] rfl rfl (one_newJ wr _) (by intro u hu; simp at hu; subst hu; rfl) (by decide) (by unfold maxLen; omega) (by omega) HBA.out.size _ rfl ?_; intro g2 cap2 w3 hown3 hgrow _ _; have HOW := Lib.hid (HO3.out w3 _ hown3); have HB3 := Lib.hid (HBA.out.grown hgrow HBA.out.size (fun q hq => HOB.out q hq)); clear hown3 hgrow))
        exact ⟨⟨j, _, _, by omega, by congr 1; omega, by go_num, HOW, HB3.out⟩, by simp [intOf]⟩
  · rw [txt, if_neg hneg, hn, hD] at hsl
    rw [decide_eq_false hneg]
    have hds := bytes_size hsl
    rw [hm] at hds
    have HD := Lib.hid (And.intro hsl hm)
    obtain ⟨c0, hc0⟩ : ∃ c, D[0]? = some c := ⟨_, List.getElem?_eq_getElem (by rw [hm]; exact hpos)⟩
    have hg0 := fun h : 0 < s.size => bytes_at hsl hc0 h
    have hc9 := (isDg_iff c0).1 (List.all_eq_true.1 HA.out c0 (List.mem_of_getElem? hc0))
    have hq0 : ((c0.toNat : Int) == 45) = false := by rw [beq_eq_false_iff_ne, ne_eq]; omega
    have hs0 : 0 < s.size := by omega
    by_cases hn0 : n = 0
    · have ht1 : (s.toList == [48]) = true := by rw [ByteArray.toList_eq, hsl, ← hD, hn0]; rfl
      have ht2 : (s.toList != [48]) = false := by rw [bne, ht1]; rfl
      have HN := Lib.hid hn0
      clear hsl hm hd0 hneg hD hn hc0 hc9 hn0
      go_enter Tryz.func32, Tryz.ntmps32
      go_wp2
      go_loopw [5, 6] (fun ov iv wr => ov = .slice none 0 0 ∧ iv = .int .i64 ((m : Int) - 1) ∧ w = wr) (fun _ _ _ => 0)
      case atStart => exact ⟨rfl, rfl, rfl⟩
      case round =>
        obtain ⟨rfl, rfl, rfl⟩ := hrel
        go_wp2
        go_ret2
        exact ⟨_, rfl, by rw [HN.out]; exact .inl ⟨_, _, rfl, grpX_zero⟩, Below.refl _ _⟩
    · have ht1 : (s.toList == [48]) = false := by rw [ByteArray.toList_eq, hsl, beq_eq_false_iff_ne]; exact hd0 hn0
      have ht2 : (s.toList != [48]) = true := by rw [bne, ht1]; rfl
      clear hsl hm hd0 hneg hD hn hc0 hc9
      go_enter Tryz.func32, Tryz.ntmps32
      go_wp2
      go_loopw [5, 6] (fun ov iv wr => ∃ (k : Nat) (ad : Option Addr) (cp : Nat), k ≤ m ∧ ov = .slice ad (m - k) cp ∧ iv = .int .i64 ((k : Int) - 1) ∧ Hid (wr.ownsRow w.heap.size 3 1 ov (m - k) (ints (dgs (D.drop k)))) ∧ Below w.heap.size w wr) (fun _ i _ => (intOf i + 1).toNat)
      case atStart => exact ⟨m, _, _, Nat.le_refl _, by rw [Nat.sub_self], rfl, Lib.hid (by rw [List.drop_eq_nil_of_le (by rw [HD.out.2]; exact Nat.le_refl _), Nat.sub_self]; exact ⟨rfl, .inl ⟨rfl, rfl⟩⟩), Below.refl _ _⟩
      case round =>
        obtain ⟨k, ad, cp, hk, rfl, rfl, hO, hB⟩ := hrel
        by_cases h0 : k = 0
        · subst h0
          have hO2 := hO.out
          rw [List.drop_zero, Nat.sub_zero] at hO2
          have HX := Lib.hid (own_XSl hO2 (by rw [dgs_len]; exact HD.out.2) (HG.out hn0))
          clear hO hO2
          go_wp2
          go_ret2
          exact ⟨_, rfl, HX.out, hB⟩
        · obtain ⟨j, rfl⟩ : ∃ j, k = j + 1 := ⟨k - 1, by omega⟩
          have k1 : j < D.length := by rw [HD.out.2]; omega
          obtain ⟨c, hc⟩ : ∃ c, D[j]? = some c := ⟨_, List.getElem?_eq_getElem k1⟩
          have hg := fun h : j < s.size => bytes_at HD.out.1 hc h
          have hcd := (isDg_iff c).1 (List.all_eq_true.1 HA.out c (List.mem_of_getElem? hc))
          have hdr := List.drop_eq_getElem_cons k1
          rw [show D[j] = c from Option.some.inj ((List.getElem?_eq_getElem k1).symm.trans hc)] at hdr
          have ew : IntKind.u8.wrap ((c.toNat : Int) - 48) = (c.toNat : Int) - 48 := by simp [IntKind.wrap, IntKind.bits, IntKind.signed]; omega
          have HO := Lib.hid (hO.out.alloc (.cells #[.int .i64 ((c.toNat : Int) - 48)] 3))
          have HO3 := Lib.hid (show ∀ (w3 : World) (v3 : Value), w3.ownsRow w.heap.size 3 1 v3 (m - (j + 1) + 1) (ints (dgs (D.drop (j + 1))) ++ [.int .i64 ((c.toNat : Int) - 48)]) → w3.ownsRow w.heap.size 3 1 v3 (m - j) (ints (dgs (D.drop j))) from fun w3 v3 h => by
            rw [show m - (j + 1) + 1 = m - j by omega] at h
            rw [hdr, dgs_cons]
            simpa [ints] using h)
          have HBA := Lib.hid (hB.alloc hB.size (.cells #[.int .i64 ((c.toNat : Int) - 48)] 3))
          have HOB := Lib.hid (show ∀ q, (Value.slice ad (m - (j + 1)) cp).ownBlock = some q → w.heap.size ≤ q from fun q hq => own_block hO.out hq)
          have d1 := hcd.1
          have d2 := hcd.2
          clear hcd hdr hO hB k1 hc
          go_wp2_with (at_builtin; go_loud (refine wpList_append_lies _ rfl (.tmp 24) (.tmp 30) 40 rfl w.heap.size 3 i0 (.int .i64 0) 1 8 Tryz.underlying40 hi hz0 hz1 HZ2.out rfl (by decide) (.slice ad (m - (j + 1)) cp) _ _ rfl HO.out ⟨wr.heap.size, 0, none⟩ 1 1 [.int .i64 ((c.toNat : Int) - 48)] rfl rfl (one_newJ wr _) (by intro u hu; simp at hu; subst hu; rfl) (by decide) (by unfold maxLen; omega) (by omega) HBA.out.size _ rfl ?_; intro g2 cap2 w3 hown3 hgrow _ _; have HOW := Lib.hid (HO3.out w3 _ hown3); have HB3 := Lib.hid (HBA.out.grown hgrow HBA.out.size (fun q hq => HOB.out q hq)); clear hown3 hgrow))
          exact ⟨⟨j, _, _, by omega, by congr 1; omega, by go_num, HOW, HB3.out⟩, by simp [intOf]⟩
end Go.Proofs.YtbdiofifjckceaaGreatDoor
