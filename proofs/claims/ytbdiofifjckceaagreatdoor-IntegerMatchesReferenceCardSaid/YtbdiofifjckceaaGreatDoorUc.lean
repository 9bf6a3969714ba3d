/- The reference's Valid and digits. -/
import Derived.Test.YtbdiofifjckceaaGreatDoorUb
import Derived.Test.YtbdiofifjckceaaGreatDoorPp
namespace Go.Proofs.YtbdiofifjckceaaGreatDoor
open Go.RowKit

theorem vld_nodig {L : List UInt8} {i : Nat} {c : UInt8} (h : (bare L)[i]? = some c) (hc : ¬ (48 ≤ c.toNat ∧ c.toNat ≤ 57)) : vld L = false := by
  cases hv : vld L
  · rfl
  · have := (vld_digits hv).1
    have h2 := (isDg_iff c).1 (List.all_eq_true.1 this c (List.mem_of_getElem? h))
    exact absurd h2 hc
theorem vld_all {L : List UInt8} (h : (bare L).all isDg = true) (h48 : (bare L).head? ≠ some 48) : vld L = decide (0 < (bare L).length ∧ (bare L).length ≤ 200) := by
  rw [vld, if_neg h48, h, Bool.and_true]
theorem vld_zero {L : List UInt8} (h48 : (bare L).head? = some 48) (hL : L ≠ [48]) : vld L = false := by
  rw [vld, if_pos h48, decide_eq_false hL, Bool.and_false]
theorem all_upto {L : List UInt8} {i : Nat} (h : ∀ j c, j < i → L[j]? = some c → isDg c = true) (hi : L.length ≤ i) : L.all isDg = true := by
  rw [List.all_eq_true]
  intro c hc
  obtain ⟨j, hj, rfl⟩ := List.getElem_of_mem hc
  exact h j _ (by omega) (List.getElem?_eq_getElem hj)
theorem bytes_at {t : ByteArray} {l : List UInt8} {j : Nat} {c : UInt8} (e : t.data.toList = l) (h : l[j]? = some c) (hj : j < t.size) : t[j] = c := by
  have h1 : t.data[j]? = some c := by rw [← Array.getElem?_toList, e]; exact h
  exact (Array.getElem?_eq_some_iff.1 h1).2

set_option maxRecDepth 100000 in
set_option maxHeartbeats 2000000 in
theorem rValid_any (s : ByteArray) (L : List UInt8) (w : World) (hL : s.data.toList = L) (hz : L.length ≤ 60000) :
    Calls Tryz.prog 24 #[.string s] w fun e w' => e = .returned (.bool (vld L)) ∧ w = w' := by
  have hs := bytes_size hL
  by_cases h : L.head? = some 45
  · obtain ⟨D, rfl⟩ : ∃ l, L = 45 :: l := by
      cases L with
      | nil => simp at h
      | cons x l => simp at h; exact ⟨l, by rw [h]⟩
    have ht := bytes_tail' hL
    rw [List.length_cons] at hs hz
    rw [hs] at ht
    have h4 : (1 : Int) ≤ (s.size : Int) := by omega
    have hg0 := fun h : 0 < s.size => bytes_at (j := 0) hL rfl h
    obtain ⟨d, hd⟩ : ∃ d : ByteArray, d = ⟨D.toArray⟩ := ⟨_, rfl⟩
    have hdl : d.data.toList = D := by rw [hd]
    rw [← hd] at ht
    have hds := bytes_size hdl
    obtain ⟨n, hn⟩ : ∃ n, D.length = n := ⟨_, rfl⟩
    rw [hn] at hds hs hz ht
    have HD := Lib.hid (And.intro hdl hn)
    obtain ⟨L, hLe⟩ : ∃ L, L = 45 :: D := ⟨_, rfl⟩
    have HB := Lib.hid (show bare L = D by rw [hLe]; simp [bare])
    have HL48 : L ≠ [48] := by rw [hLe]; simp
    rw [← hLe]
    by_cases h0 : D = [48]
    · have hF := Lib.hid (show vld L = false from vld_zero (by rw [HB.out, h0]; rfl) HL48)
      have ht0 : (d.toList == [48]) = true := by rw [ByteArray.toList_eq, hdl, h0]; rfl
      clear hL hd hdl hn h0 HL48 hLe h
      go_enter Tryz.func24, Tryz.ntmps24
      go_wp2
      go_ret
      exact ⟨by rw [hF.out]; rfl, rfl⟩
    · have HNZ := Lib.hid h0
      have ht1 : (d.toList == [48]) = false := by rw [ByteArray.toList_eq, hdl, beq_eq_false_iff_ne]; exact h0
      clear hL hd hdl hn h0 hLe h
      go_enter Tryz.func24, Tryz.ntmps24
      go_wp2
      go_loopw [3] (fun iv wr => ∃ i : Nat, i ≤ n ∧ iv = .int .i64 (i : Int) ∧ Hid (∀ j c, j < i → D[j]? = some c → isDg c = true) ∧ w = wr) (fun iv _ => n - (intOf iv).toNat)
      case atStart => exact ⟨0, Nat.zero_le _, rfl, Lib.hid (fun j c h => absurd h (by omega)), rfl⟩
      case round =>
        obtain ⟨i, hi, rfl, hI, rfl⟩ := hrel
        by_cases hlt : i < n
        · obtain ⟨c, hc⟩ : ∃ c, D[i]? = some c := ⟨_, List.getElem?_eq_getElem (by rw [HD.out.2]; exact hlt)⟩
          have hg := fun h : i < d.size => bytes_at HD.out.1 hc h
          by_cases hdg : 48 ≤ c.toNat ∧ c.toNat ≤ 57
          · have hI2 := Lib.hid (show ∀ j e, j < i + 1 → D[j]? = some e → isDg e = true from fun j e hj he => by
              by_cases hji : j < i
              · exact hI.out j e hji he
              · obtain rfl : j = i := by omega
                rw [hc] at he; cases he
                exact (isDg_iff c).2 hdg)
            have d1 := hdg.1
            have d2 := hdg.2
            clear hI hc hdg
            go_wp2
            exact ⟨⟨i + 1, by omega, by go_num, hI2, trivial⟩, by simp [intOf]; omega⟩
          · have hF := Lib.hid (show vld L = false from vld_nodig (L := L) (i := i) (c := c) (by rw [HB.out]; exact hc) hdg)
            clear hI hc
            rcases Nat.lt_or_ge c.toNat 48 with d1 | d1
            · clear hdg
              go_wp2
              go_ret
              exact ⟨by rw [hF.out]; rfl, rfl⟩
            · have d2 : 57 < c.toNat := by omega
              clear hdg
              go_wp2
              go_ret
              exact ⟨by rw [hF.out]; rfl, rfl⟩
        · obtain rfl : i = n := by omega
          have hall := all_upto hI.out (by rw [HD.out.2]; exact Nat.le_refl _)
          by_cases h0 : i = 0
          · have hF := Lib.hid (show vld L = false by rw [vld, HB.out, HD.out.2, decide_eq_false (by omega)]; rfl)
            clear hI hall
            subst h0
            go_wp2
            go_ret
            exact ⟨by rw [hF.out]; rfl, rfl⟩
          · by_cases h200 : i ≤ 200
            · obtain ⟨c, hc⟩ : ∃ c, D[0]? = some c := ⟨_, List.getElem?_eq_getElem (by rw [HD.out.2]; omega)⟩
              have hg := fun h : 0 < d.size => bytes_at HD.out.1 hc h
              have hh : (bare L).head? = some c := by rw [HB.out, List.head?_eq_getElem?]; exact hc
              have hi0 : 0 < i := by omega
              by_cases h48 : c = 48
              · subst h48
                have hF := Lib.hid (show vld L = false from vld_zero hh HL48)
                have ht0 : (d.toList == [48]) = false := by
                  rw [ByteArray.toList_eq, HD.out.1, beq_eq_false_iff_ne]; exact HNZ.out
                have hq2 : ((((48 : UInt8).toNat : Nat) : Int) != 48) = false := by decide
                clear hI hall hc hh h0
                go_wp2
                go_ret
                exact ⟨by rw [hF.out]; rfl, rfl⟩
              · have hF := Lib.hid (show vld L = true by
                  rw [vld_all (by rw [HB.out]; exact hall) (by rw [hh]; simpa using h48), HB.out, HD.out.2, decide_eq_true ⟨hi0, h200⟩])
                have hq : ((c.toNat : Int) == 48) = false := by
                  rw [beq_eq_false_iff_ne, ne_eq]
                  intro h
                  exact h48 (UInt8.toNat_inj.1 (by have : c.toNat = 48 := by omega
                                                   rw [this]; rfl))
                have hq2 : ((c.toNat : Int) != 48) = true := by rw [bne, hq]; rfl
                have ht0 : (d.toList == [48]) = false := by
                  rw [ByteArray.toList_eq, HD.out.1, beq_eq_false_iff_ne]
                  intro e; rw [e] at hc; simp at hc; exact h48 hc.symm
                clear hI hall hc hh h48 h0
                go_wp2
                go_ret
                exact ⟨by rw [hF.out]; rfl, rfl⟩
            · have hF := Lib.hid (show vld L = false by rw [vld, HB.out, HD.out.2, decide_eq_false (by omega)]; rfl)
              have hi0 : 0 < i := by omega
              clear hI hall h0
              go_wp2
              go_ret
              exact ⟨by rw [hF.out]; rfl, rfl⟩
  · have HB := Lib.hid (show bare L = L by rw [bare, if_neg h])
    obtain ⟨n, hn⟩ : ∃ n, L.length = n := ⟨_, rfl⟩
    rw [hn] at hs hz
    obtain ⟨D, hDe⟩ : ∃ D, L = D := ⟨_, rfl⟩
    have HLD := Lib.hid hDe
    have HD := Lib.hid (show s.data.toList = D ∧ D.length = n by rw [← hDe]; exact ⟨hL, hn⟩)
    have HB := Lib.hid (show bare L = D by rw [HB.out]; exact hDe)
    have h45 : ∀ c, D[0]? = some c → ((c.toNat : Int) == 45) = false := fun c hc => by
      rw [beq_eq_false_iff_ne, ne_eq]
      intro e
      apply h
      rw [hDe, List.head?_eq_getElem?, hc, show c = 45 from UInt8.toNat_inj.1 (by have : c.toNat = 45 := by omega
                                                                                  rw [this]; rfl)]
    by_cases hn0 : n = 0
    · have hs0 : s.size = 0 := by omega
      have HF0 := Lib.hid (show vld L = false by rw [vld, HB.out, HD.out.2, decide_eq_false (by omega)]; rfl)
      clear h hL hn hDe h45
      go_enter Tryz.func24, Tryz.ntmps24
      go_wp2
      go_loopw [3] (fun iv wr => iv = .int .i64 0 ∧ w = wr) (fun _ _ => 0)
      case atStart => exact ⟨rfl, rfl⟩
      case round =>
        obtain ⟨rfl, rfl⟩ := hrel
        go_wp2
        go_ret
        exact ⟨by rw [HF0.out]; rfl, rfl⟩
    · have hs0 : 0 < s.size := by omega
      obtain ⟨c0, hc0⟩ : ∃ c, D[0]? = some c := ⟨_, List.getElem?_eq_getElem (by rw [HD.out.2]; omega)⟩
      have hg0 := fun h : 0 < s.size => bytes_at HD.out.1 hc0 h
      have hq0 := h45 c0 hc0
      have HC0 := Lib.hid hc0
      clear h hL hn hDe h45 hc0
      go_enter Tryz.func24, Tryz.ntmps24
      go_wp2
      go_loopw [3] (fun iv wr => ∃ i : Nat, i ≤ n ∧ iv = .int .i64 (i : Int) ∧ Hid (∀ j c, j < i → D[j]? = some c → isDg c = true) ∧ w = wr) (fun iv _ => n - (intOf iv).toNat)
      case atStart => exact ⟨0, Nat.zero_le _, rfl, Lib.hid (fun j c h => absurd h (by omega)), rfl⟩
      case round =>
        obtain ⟨i, hi, rfl, hI, rfl⟩ := hrel
        by_cases hlt : i < n
        · obtain ⟨c, hc⟩ : ∃ c, D[i]? = some c := ⟨_, List.getElem?_eq_getElem (by rw [HD.out.2]; exact hlt)⟩
          have hg := fun h : i < s.size => bytes_at HD.out.1 hc h
          by_cases hdg : 48 ≤ c.toNat ∧ c.toNat ≤ 57
          · have hI2 := Lib.hid (show ∀ j e, j < i + 1 → D[j]? = some e → isDg e = true from fun j e hj he => by
              by_cases hji : j < i
              · exact hI.out j e hji he
              · obtain rfl : j = i := by omega
                rw [hc] at he; cases he
                exact (isDg_iff c).2 hdg)
            have d1 := hdg.1
            have d2 := hdg.2
            clear hI hc hdg
            go_wp2
            exact ⟨⟨i + 1, by omega, by go_num, hI2, trivial⟩, by simp [intOf]; omega⟩
          · have hF := Lib.hid (show vld L = false from vld_nodig (L := L) (i := i) (c := c) (by rw [HB.out]; exact hc) hdg)
            clear hI hc
            rcases Nat.lt_or_ge c.toNat 48 with d1 | d1
            · clear hdg
              go_wp2
              go_ret
              exact ⟨by rw [hF.out]; rfl, rfl⟩
            · have d2 : 57 < c.toNat := by omega
              clear hdg
              go_wp2
              go_ret
              exact ⟨by rw [hF.out]; rfl, rfl⟩
        · obtain rfl : i = n := by omega
          have hall := all_upto hI.out (by rw [HD.out.2]; exact Nat.le_refl _)
          by_cases h0 : i = 0
          · have hF := Lib.hid (show vld L = false by rw [vld, HB.out, HD.out.2, decide_eq_false (by omega)]; rfl)
            clear hI hall
            subst h0
            go_wp2
            go_ret
            exact ⟨by rw [hF.out]; rfl, rfl⟩
          · by_cases h200 : i ≤ 200
            · obtain ⟨c, hc⟩ : ∃ c, D[0]? = some c := ⟨_, List.getElem?_eq_getElem (by rw [HD.out.2]; omega)⟩
              obtain rfl : c = c0 := Option.some.inj (hc.symm.trans HC0.out)
              have hg := fun h : 0 < s.size => bytes_at HD.out.1 hc h
              have hh : (bare L).head? = some c := by rw [HB.out, List.head?_eq_getElem?]; exact hc
              have hi0 : 0 < i := by omega
              by_cases h48 : c = 48
              · subst h48
                by_cases hD0 : D = [48]
                · have hF := Lib.hid (show vld L = true by rw [show L = [48] from HLD.out.trans hD0]; decide)
                  have ht0 : (s.toList == [48]) = true := by rw [ByteArray.toList_eq, HD.out.1, hD0]; rfl
                  clear hI hall hc hh h0 hD0
                  go_wp2
                  go_ret
                  exact ⟨by rw [hF.out]; rfl, rfl⟩
                · have hF := Lib.hid (show vld L = false from vld_zero hh (by rw [HLD.out]; exact hD0))
                  have ht0 : (s.toList == [48]) = false := by
                    rw [ByteArray.toList_eq, HD.out.1, beq_eq_false_iff_ne]; exact hD0
                  have hq2 : ((((48 : UInt8).toNat : Nat) : Int) != 48) = false := by decide
                  clear hI hall hc hh h0 hD0
                  go_wp2
                  go_ret
                  exact ⟨by rw [hF.out]; rfl, rfl⟩
              · have hF := Lib.hid (show vld L = true by
                  rw [vld_all (by rw [HB.out]; exact hall) (by rw [hh]; simpa using h48), HB.out, HD.out.2, decide_eq_true ⟨hi0, h200⟩])
                have hq : ((c.toNat : Int) == 48) = false := by
                  rw [beq_eq_false_iff_ne, ne_eq]
                  intro h
                  exact h48 (UInt8.toNat_inj.1 (by have : c.toNat = 48 := by omega
                                                   rw [this]; rfl))
                have hq2 : ((c.toNat : Int) != 48) = true := by rw [bne, hq]; rfl
                have ht0 : (s.toList == [48]) = false := by
                  rw [ByteArray.toList_eq, HD.out.1, beq_eq_false_iff_ne]
                  intro e; rw [e] at hc; simp at hc; exact h48 hc.symm
                clear hI hall hc hh h48 h0
                go_wp2
                go_ret
                exact ⟨by rw [hF.out]; rfl, rfl⟩
            · have hF := Lib.hid (show vld L = false by rw [vld, HB.out, HD.out.2, decide_eq_false (by omega)]; rfl)
              have hi0 : 0 < i := by omega
              clear hI hall h0
              go_wp2
              go_ret
              exact ⟨by rw [hF.out]; rfl, rfl⟩
end Go.Proofs.YtbdiofifjckceaaGreatDoor
