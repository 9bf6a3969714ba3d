/- The reference's text for any list of digits, and checked. -/
import Derived.Test.YtbdiofifjckceaaGreatDoorUg
namespace Go.Proofs.YtbdiofifjckceaaGreatDoor
open Go.RowKit

set_option maxRecDepth 100000 in
set_option maxHeartbeats 1000000 in
theorem rtext_off (neg : Bool) (l : List Int) (b o n c : Nat) (B : Bool) (w : World) (hn : l.length = n) (hn0 : 0 < n) (hn9 : n ≤ 20000) (n2 : decide ((n : Int) ≤ 200) = B) (hnc : n ≤ c) (hd : DigX l) (hr : IRow w b o l) (hb : b < w.heap.size) :
    Calls Tryz.prog 28 #[.bool neg, .slice (some ⟨b, o, none⟩) n c] w fun e w' => e = .returned (.tuple #[.string ⟨((if neg then [45] else []) ++ lts l).toArray⟩, .bool B]) ∧ Below w.heap.size w w' := by
  have _ := hnc
  obtain ⟨i0, hi, hz0, hz1, hz2⟩ := info_parts info_u8
  have HN := Lib.hid hn
  have HD := Lib.hid hd
  have HR := Lib.hid hr
  have HZ2 := Lib.hid hz2
  have n0 : ((n : Int) == 0) = false := by rw [beq_eq_false_iff_ne]; omega
  clear hn hd hr hz2
  cases neg
  · go_enter Tryz.func28, Tryz.ntmps28
    go_wp2
    all_goals
      go_loopw [6, 7] (fun ov iv wr => ∃ (k : Nat) (ad : Option Addr) (cp : Nat), k ≤ n ∧ ov = .slice ad (n - k) cp ∧ iv = .int .i64 ((k : Int) - 1) ∧ Hid (wr.ownsRow w.heap.size 5 1 ov (n - k) (([] ++ wr4 (l.drop k)).map (Value.int .u8))) ∧ Below w.heap.size w wr) (fun _ i _ => (intOf i + 1).toNat)
      case atStart => exact ⟨n, _, _, Nat.le_refl _, by rw [Nat.sub_self], rfl, Lib.hid (by rw [List.drop_eq_nil_of_le (by rw [HN.out]; exact Nat.le_refl _), Nat.sub_self]; exact ⟨rfl, .inl ⟨rfl, rfl⟩⟩), Below.refl _ _⟩
      case round =>
        obtain ⟨k, ad, cp, hk, rfl, rfl, hO, hB⟩ := hrel
        by_cases h0 : k = 0
        · subst h0
          have hO2 := hO.out
          rw [List.drop_zero, Nat.sub_zero] at hO2
          obtain ⟨g, cap, hsl, hgb, hU⟩ := own_bytes hO2 (by omega)
          simp only [Value.slice.injEq] at hsl
          obtain ⟨rfl, _, rfl⟩ := hsl
          rw [wr4_lts HD.out, show ([] : List Int) = ([] : List UInt8).map (fun b => (b.toNat : Int)) from rfl, ← List.map_append] at hU
          have hll : (([] : List UInt8) ++ lts l).length = n := by rw [List.length_append, lts_len, HN.out]; simp
          have hcv := run_convert_bytes_back (P := Tryz.prog) wr 71 9 5 ⟨g, 0, none⟩ cp (([] : List UInt8) ++ lts l) Tryz.underlying71 Tryz.underlying5 Tryz.underlying9 (fun j hj => by
            rw [Addr.add_mid]
            exact hU.cell (by rw [List.getElem?_map, List.getElem?_eq_getElem (by omega)]; simp))
          rw [hll] at hcv
          generalize HGEN : (([] : List UInt8) ++ lts l).toArray = S at *
          have HG := Lib.hid HGEN
          clear hO hO2 hU hll HGEN
          go_wp2
          go_ret2
          exact ⟨by rw [← HG.out]; rfl, hB⟩
        · obtain ⟨m, rfl⟩ : ∃ m, k = m + 1 := ⟨k - 1, by omega⟩
          have k1 : m < l.length := by rw [HN.out]; omega
          have hx : wr.cell? ⟨b, o + m, none⟩ = some (.int .i64 l[m]) := by have := (HR.out.below hB hb) m _ (List.getElem?_eq_getElem k1); exact this
          have hxd := HD.out _ (List.getElem_mem k1)
          have hdr := List.drop_eq_getElem_cons k1
          generalize l[m] = x at *
          have ew : IntKind.u8.wrap (48 + x) = 48 + x := by simp [IntKind.wrap, IntKind.bits, IntKind.signed]; omega
          have HO := Lib.hid (hO.out.alloc (.cells #[.int .u8 (48 + x)] 5))
          have hO3 : ∀ (w3 : World) (v3 : Value), w3.ownsRow w.heap.size 5 1 v3 ((n - (m + 1)) + 1) (([] ++ wr4 (l.drop (m + 1))).map (Value.int .u8) ++ [.int .u8 (48 + x)]) → w3.ownsRow w.heap.size 5 1 v3 (n - m) (([] ++ wr4 (l.drop m)).map (Value.int .u8)) := fun w3 v3 h => by
            rw [show (n - (m + 1)) + 1 = (n - m) by omega] at h
            rw [hdr, wr4_cons]
            simpa using h
          have HO3 := Lib.hid hO3
          have HBA := Lib.hid (hB.alloc hB.size (.cells #[.int .u8 (48 + x)] 5))
          have hob : ∀ q, (Value.slice ad (n - (m + 1)) cp).ownBlock = some q → w.heap.size ≤ q := fun q hq => own_block hO.out hq
          have HOB := Lib.hid hob
          have x0 := hxd.1
          have x9 := hxd.2
          clear hxd hdr hO3 hob hO hB k1
          go_wp2_with (at_builtin; go_loud (refine wpList_append_lies _ rfl (.tmp 22) (.tmp 29) 71 rfl w.heap.size 5 i0 (.int .u8 0) 1 1 Tryz.underlying71 hi hz0 hz1 HZ2.out rfl (by decide) (.slice ad (n - (m + 1)) cp) _ _ rfl HO.out ⟨wr.heap.size, 0, none⟩ 1 1 [.int .u8 (48 + x)] rfl rfl (one_newB wr _) (by intro u hu; simp at hu; subst hu; rfl) (by decide) (by unfold maxLen; omega) (by omega) HBA.out.size _ rfl ?_; intro g2 cap2 w3 hown3 hgrow _ _; have HOW := Lib.hid (HO3.out w3 _ hown3); have HB3 := Lib.hid (HBA.out.grown hgrow HBA.out.size (fun q hq => HOB.out q hq)); clear hown3 hgrow))
          exact ⟨⟨m, _, _, by omega, by congr 1; omega, by go_num, HOW, HB3.out⟩, by simp [intOf]⟩
  · go_enter Tryz.func28, Tryz.ntmps28
    have hOW : w.ownsRow w.heap.size 5 1 (.slice none 0 0) 0 [] := ⟨rfl, .inl ⟨rfl, rfl⟩⟩
    have HOW0 := Lib.hid (hOW.alloc (.cells #[.int .u8 45] 5))
    clear hOW
    have HBA := Lib.hid (below_alloc w (.cells #[.int .u8 45] 5))
    go_wp2_with (at_builtin; go_loud (refine wpList_append_lies _ rfl (.tmp 12) (.tmp 13) 71 rfl w.heap.size 5 i0 (.int .u8 0) 1 1 Tryz.underlying71 hi hz0 hz1 HZ2.out rfl (by decide) (.slice none 0 0) 0 [] rfl HOW0.out ⟨w.heap.size, 0, none⟩ 1 1 [.int .u8 45] rfl rfl (one_newB w _) (by intro u hu; simp at hu; subst hu; rfl) (by decide) (by unfold maxLen; omega) (by omega) HBA.out.size _ rfl ?_; intro g1 cap1 w1 hown1 hgrow1 _ _; have HO1 := Lib.hid hown1; have HB1 := Lib.hid (HBA.out.grown hgrow1 HBA.out.size (fun q hq => by cases hq)); clear hown1 hgrow1))
    all_goals
      go_loopw [6, 7] (fun ov iv wr => ∃ (k : Nat) (ad : Option Addr) (cp : Nat), k ≤ n ∧ ov = .slice ad (1 + (n - k)) cp ∧ iv = .int .i64 ((k : Int) - 1) ∧ Hid (wr.ownsRow w.heap.size 5 1 ov (1 + (n - k)) (([45] ++ wr4 (l.drop k)).map (Value.int .u8))) ∧ Below w.heap.size w wr) (fun _ i _ => (intOf i + 1).toNat)
      case atStart => exact ⟨n, _, _, Nat.le_refl _, by rw [Nat.sub_self], rfl, Lib.hid (by rw [List.drop_eq_nil_of_le (by rw [HN.out]; exact Nat.le_refl _), Nat.sub_self]; simpa [wr4] using HO1.out), HB1.out⟩
      case round =>
        clear HO1 HB1 HOW0 HBA
        obtain ⟨k, ad, cp, hk, rfl, rfl, hO, hB⟩ := hrel
        by_cases h0 : k = 0
        · subst h0
          have hO2 := hO.out
          rw [List.drop_zero, Nat.sub_zero] at hO2
          obtain ⟨g, cap, hsl, hgb, hU⟩ := own_bytes hO2 (by omega)
          simp only [Value.slice.injEq] at hsl
          obtain ⟨rfl, _, rfl⟩ := hsl
          rw [wr4_lts HD.out, show ([45] : List Int) = ([45] : List UInt8).map (fun b => (b.toNat : Int)) from rfl, ← List.map_append] at hU
          have hll : (([45] : List UInt8) ++ lts l).length = (1 + n) := by rw [List.length_append, lts_len, HN.out]; simp
          have hcv := run_convert_bytes_back (P := Tryz.prog) wr 71 9 5 ⟨g, 0, none⟩ cp (([45] : List UInt8) ++ lts l) Tryz.underlying71 Tryz.underlying5 Tryz.underlying9 (fun j hj => by
            rw [Addr.add_mid]
            exact hU.cell (by rw [List.getElem?_map, List.getElem?_eq_getElem (by omega)]; simp))
          rw [hll] at hcv
          generalize HGEN : (([45] : List UInt8) ++ lts l).toArray = S at *
          have HG := Lib.hid HGEN
          clear hO hO2 hU hll HGEN
          go_wp2
          go_ret2
          exact ⟨by rw [← HG.out]; rfl, hB⟩
        · obtain ⟨m, rfl⟩ : ∃ m, k = m + 1 := ⟨k - 1, by omega⟩
          have k1 : m < l.length := by rw [HN.out]; omega
          have hx : wr.cell? ⟨b, o + m, none⟩ = some (.int .i64 l[m]) := by have := (HR.out.below hB hb) m _ (List.getElem?_eq_getElem k1); exact this
          have hxd := HD.out _ (List.getElem_mem k1)
          have hdr := List.drop_eq_getElem_cons k1
          generalize l[m] = x at *
          have ew : IntKind.u8.wrap (48 + x) = 48 + x := by simp [IntKind.wrap, IntKind.bits, IntKind.signed]; omega
          have HO := Lib.hid (hO.out.alloc (.cells #[.int .u8 (48 + x)] 5))
          have hO3 : ∀ (w3 : World) (v3 : Value), w3.ownsRow w.heap.size 5 1 v3 ((1 + (n - (m + 1))) + 1) (([45] ++ wr4 (l.drop (m + 1))).map (Value.int .u8) ++ [.int .u8 (48 + x)]) → w3.ownsRow w.heap.size 5 1 v3 (1 + (n - m)) (([45] ++ wr4 (l.drop m)).map (Value.int .u8)) := fun w3 v3 h => by
            rw [show (1 + (n - (m + 1))) + 1 = (1 + (n - m)) by omega] at h
            rw [hdr, wr4_cons]
            simpa using h
          have HO3 := Lib.hid hO3
          have HBA := Lib.hid (hB.alloc hB.size (.cells #[.int .u8 (48 + x)] 5))
          have hob : ∀ q, (Value.slice ad (1 + (n - (m + 1))) cp).ownBlock = some q → w.heap.size ≤ q := fun q hq => own_block hO.out hq
          have HOB := Lib.hid hob
          have x0 := hxd.1
          have x9 := hxd.2
          clear hxd hdr hO3 hob hO hB k1
          go_wp2_with (at_builtin; go_loud (refine wpList_append_lies _ rfl (.tmp 22) (.tmp 29) 71 rfl w.heap.size 5 i0 (.int .u8 0) 1 1 Tryz.underlying71 hi hz0 hz1 HZ2.out rfl (by decide) (.slice ad (1 + (n - (m + 1))) cp) _ _ rfl HO.out ⟨wr.heap.size, 0, none⟩ 1 1 [.int .u8 (48 + x)] rfl rfl (one_newB wr _) (by intro u hu; simp at hu; subst hu; rfl) (by decide) (by unfold maxLen; omega) (by omega) HBA.out.size _ rfl ?_; intro g2 cap2 w3 hown3 hgrow _ _; have HOW := Lib.hid (HO3.out w3 _ hown3); have HB3 := Lib.hid (HBA.out.grown hgrow HBA.out.size (fun q hq => HOB.out q hq)); clear hown3 hgrow))
          exact ⟨⟨m, _, _, by omega, by congr 1; omega, by go_num, HOW, HB3.out⟩, by simp [intOf]⟩


theorem gx_200 (n : Nat) : decide (((grpX n).length : Int) ≤ 200) = decide (n < 10 ^ 200) := by
  have h := gx_len n 200
  rw [decide_eq_decide]
  omega
theorem mz_zero (neg : Bool) : mz neg 0 = 0 := by cases neg <;> rfl
theorem mz_abs (neg : Bool) (n : Nat) : (mz neg n).natAbs = n := by unfold mz; cases neg <;> simp
theorem rtext_G (neg : Bool) (n : Nat) (v : Value) (w : World) (hl : (grpX n).length ≤ 20000) (h : XSl w v n) :
    Calls Tryz.prog 28 #[.bool neg, v] w fun e w' => e = .returned (.tuple #[.string (S (mz neg n)), .bool (decide (n < 10 ^ 200))]) ∧ Below w.heap.size w w' := by
  by_cases h0 : n = 0
  · subst h0
    obtain ⟨a, c, rfl⟩ := h.form
    rw [grpX_zero]
    refine (rtext_zero neg a c w).mono fun e w' h => ⟨?_, h.2 ▸ Below.refl _ _⟩
    rw [h.1, mz_zero, S_zero, show decide ((0 : Nat) < 10 ^ 200) = true from by decide]
  · have hpos : 0 < (grpX n).length := (gx_len n 0).2 (by omega)
    rcases h with ⟨a, c, rfl, e⟩ | ⟨b, o, c, rfl, h1, h2, h3, h4⟩
    · rw [e] at hpos; simp at hpos
    · refine (rtext_off neg (grpX n) b o _ c _ w rfl hpos hl (gx_200 n) (by omega) (grpX_dig n) h4 h3).mono fun e w' h => ⟨?_, h.2⟩
      rw [h.1, made_text neg n h0]; rfl
set_option maxRecDepth 100000 in
theorem checked_any (neg : Bool) (n : Nat) (v : Value) (w : World) (hl : (grpX n).length ≤ 20000) (h : XSl w v n) :
    Calls Tryz.prog 36 #[.bool neg, v] w fun e w' => e = .returned (.tuple #[.string ⟨(rs (mz neg n)).toArray⟩, .int .i64 (er (mz neg n))]) ∧ Below w.heap.size w w' := by
  have cT := rtext_G neg n v w hl h
  rw [rs, er, mz_abs]
  by_cases h9 : n < 10 ^ 200
  · rw [if_pos h9, if_pos h9, show (⟨(txt (mz neg n)).toArray⟩ : ByteArray) = S (mz neg n) from rfl]
    rw [decide_eq_true h9] at cT
    generalize S (mz neg n) = T at *
    have CT := Lib.hid cT
    clear cT h h9 hl
    go_enter Tryz.func36, Tryz.ntmps36
    go_wp2_with (go_at_call 28; (with_reducible refine CT.out.mono ?_); rintro e w1 ⟨rfl, B1⟩)
    go_ret2
    exact ⟨rfl, B1⟩
  · rw [if_neg h9, if_neg h9]
    rw [decide_eq_false h9] at cT
    generalize S (mz neg n) = T at *
    have CT := Lib.hid cT
    clear cT h h9 hl
    go_enter Tryz.func36, Tryz.ntmps36
    go_wp2_with (go_at_call 28; (with_reducible refine CT.out.mono ?_); rintro e w1 ⟨rfl, B1⟩)
    go_ret2
    exact ⟨rfl, B1⟩
end Go.Proofs.YtbdiofifjckceaaGreatDoor
