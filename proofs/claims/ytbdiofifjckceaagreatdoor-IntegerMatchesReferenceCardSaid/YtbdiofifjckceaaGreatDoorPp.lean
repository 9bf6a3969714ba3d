/- Valid. -/
import Derived.Test.YtbdiofifjckceaaGreatDoorPn
namespace Go.Proofs.YtbdiofifjckceaaGreatDoor
open Go.RowKit

theorem bytes_get {t : ByteArray} {j : Nat} {x : UInt8} {l : List UInt8} (e : t.data.toList = l) (hx : l[j]? = some x) : ∀ h : j < t.size, t[j] = x := fun h => by
  have h1 : t.data[j]? = some x := by rw [← Array.getElem?_toList, e]; exact hx
  exact (Array.getElem?_eq_some_iff.1 h1).2

set_option maxRecDepth 100000 in
set_option maxHeartbeats 1000000 in
theorem Valid_any (s : ByteArray) (L : List UInt8) (w : World) (hL : s.data.toList = L) (hz : L.length ≤ 60000) :
    Calls Tryz.prog 23 #[.string s] w fun e w' => e = .returned (.bool (vld L)) ∧ Below w.heap.size w w' := by
  have cT := fun W => trimP_any s L W hL hz
  obtain ⟨d, hd⟩ : ∃ d : ByteArray, d = ⟨(bare L).toArray⟩ := ⟨_, rfl⟩
  have hdl : d.data.toList = bare L := by rw [hd]
  have hds := bytes_size hdl
  rw [← hd] at cT
  clear hd
  have hbl : (bare L).length ≤ 60000 := by rw [bare]; split <;> (try rw [List.length_tail]) <;> omega
  by_cases hA : bare L = []
  · have hv : vld L = false := by rw [vld, hA]; simp
    rw [hA, List.length_nil] at hds
    rw [hv]
    have e1 : d.toList.isEmpty = true := by rw [ByteArray.toList_eq, hdl, hA]; rfl
    clear hdl hL hA hv hbl
    go_enter Tryz.func23, Tryz.ntmps23
    go_wp2_with (go_at_call 52; (with_reducible refine (cT _).mono ?_); rintro e w' ⟨rfl, rfl⟩)
    go_ret
    exact ⟨rfl, ⟨rfl, rfl, rfl, Nat.le_refl _, fun _ _ => rfl⟩⟩
  · obtain ⟨x, D, hD⟩ : ∃ x D, bare L = x :: D := by
      cases h : bare L with
      | nil => exact absurd h hA
      | cons x D => exact ⟨x, D, rfl⟩
    have e1 : d.toList.isEmpty = false := by rw [ByteArray.toList_eq, hdl, hD]; rfl
    obtain ⟨n, hn⟩ : ∃ n, (bare L).length = n := ⟨_, rfl⟩
    have hn0 : 0 < n := by rw [← hn, hD]; simp
    rw [hn] at hds hbl
    by_cases hB : 200 < n
    · have hv : vld L = false := by rw [vld, hn, decide_eq_false (by omega)]; rfl
      rw [hv]
      clear hdl hL hA hv hD hn
      go_enter Tryz.func23, Tryz.ntmps23
      go_wp2_with (go_at_call 52; (with_reducible refine (cT _).mono ?_); rintro e w' ⟨rfl, rfl⟩)
      go_ret
      exact ⟨rfl, ⟨rfl, rfl, rfl, Nat.le_refl _, fun _ _ => rfl⟩⟩
    · have hg : decide (0 < (bare L).length ∧ (bare L).length ≤ 200) = true := by rw [decide_eq_true_eq]; omega
      have hx0 := bytes_get (j := 0) hdl (by rw [hD]; rfl)
      have hnB : (n : Int) ≤ 200 := by omega
      by_cases h48 : x = 48
      · have hv : vld L = (s.toList == [48]) := by
          rw [vld, hg, hD, h48, Bool.true_and, if_pos (show (48 :: D).head? = some 48 from rfl), ByteArray.toList_eq, hL]
          by_cases h : L = [48]
          · subst h; rfl
          · rw [decide_eq_false h]; symm; rw [beq_eq_false_iff_ne]; exact h
        subst h48
        have HV := Lib.hid hv
        clear hdl hL hA hv hD hn hg
        go_enter Tryz.func23, Tryz.ntmps23
        go_wp2_with (go_at_call 52; (with_reducible refine (cT _).mono ?_); rintro e w' ⟨rfl, rfl⟩)
        go_ret
        exact ⟨by rw [HV.out]; rfl, ⟨rfl, rfl, rfl, Nat.le_refl _, fun _ _ => rfl⟩⟩
      · have e2 : ((x.toNat : Int) == 48) = false := by
          rw [beq_eq_false_iff_ne, ne_eq]
          intro h
          exact h48 (UInt8.toNat_inj.1 (by have : x.toNat = 48 := by omega
                                           rw [this]; rfl))
        have hv : vld L = (bare L).all isDg := by
          rw [vld, hg, Bool.true_and, if_neg (by rw [hD]; simpa using h48)]
        have HV := Lib.hid hv
        have HDL := Lib.hid hdl
        have HN := Lib.hid hn
        clear hdl hL hA hv hD hn hg h48
        go_enter Tryz.func23, Tryz.ntmps23
        go_wp2_with (go_at_call 52; (with_reducible refine (cT _).mono ?_); rintro e w' ⟨rfl, rfl⟩)
        go_loopw [21] (fun i wr => ∃ j : Nat, j ≤ n ∧ i = .int .i64 (j : Int) ∧ Hid (((bare L).take j).all isDg = true) ∧ w = wr) (fun i _ => n - (intOf i).toNat)
        case atStart => exact ⟨0, by omega, rfl, Lib.hid (by rw [List.take_zero]; rfl), rfl⟩
        case round =>
          clear hx0 e2
          obtain ⟨j, hj, rfl, hP, rfl⟩ := hrel
          by_cases h1 : j < n
          · have hjl : j < (bare L).length := by rw [HN.out]; exact h1
            obtain ⟨y, hy⟩ : ∃ y, (bare L)[j]? = some y := ⟨_, List.getElem?_eq_getElem hjl⟩
            have hyd := bytes_get HDL.out hy
            have HM := Lib.hid (List.mem_of_getElem? hy)
            have HT := Lib.hid (show ((bare L).take (j + 1)).all isDg = isDg y by
              rw [List.take_add_one, hy, List.all_append, hP.out]; simp)
            by_cases h48 : y.toNat < 48
            · have hF : vld L = false := by
                rw [HV.out]
                rw [Bool.eq_false_iff]
                intro h
                have := (isDg_iff y).1 (List.all_eq_true.1 h y HM.out)
                omega
              have HF := Lib.hid hF
              clear hF hP hjl hy
              go_wp2
              go_ret
              exact ⟨by rw [HF.out]; rfl, ⟨rfl, rfl, rfl, Nat.le_refl _, fun _ _ => rfl⟩⟩
            · by_cases h57 : 57 < y.toNat
              · have hF : vld L = false := by
                  rw [HV.out]
                  rw [Bool.eq_false_iff]
                  intro h
                  have := (isDg_iff y).1 (List.all_eq_true.1 h y HM.out)
                  omega
                have HF := Lib.hid hF
                clear hF hP hjl hy
                go_wp2
                go_ret
                exact ⟨by rw [HF.out]; rfl, ⟨rfl, rfl, rfl, Nat.le_refl _, fun _ _ => rfl⟩⟩
              · have hd := (isDg_iff y).2 ⟨by omega, by omega⟩
                rw [hd] at HT
                clear hP hjl hy hd
                go_wp2
                exact ⟨⟨j + 1, by omega, by go_num, HT, trivial⟩, by simp [intOf]; omega⟩
          · have hjn : j = n := by omega
            have e3 : (bare L).take j = bare L := List.take_of_length_le (by rw [HN.out]; omega)
            rw [e3] at hP
            have hT : vld L = true := by rw [HV.out, hP.out]
            have HTT := Lib.hid hT
            subst hjn
            clear hT hP e3
            go_wp2
            go_ret
            exact ⟨by rw [HTT.out]; rfl, ⟨rfl, rfl, rfl, Nat.le_refl _, fun _ _ => rfl⟩⟩
end Go.Proofs.YtbdiofifjckceaaGreatDoor
