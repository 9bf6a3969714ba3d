/- The walk of the law DigestSplit. -/
import Derived.Test.YtdjdoepnljdlcaaDoorVa
import Derived.Deep.AppendSrc
namespace Go.Proofs.YtdjdoepnljdlcaaDoor
open Go.RowKit

theorem own_empty {W : World} {base : Nat} (h : base ≤ W.heap.size) : (W.alloc (.cells #[] 9)).ownsRow base 9 1 (.slice (some ⟨W.heap.size, 0, none⟩) 0 0) 0 [] :=
  ⟨rfl, .inr ⟨W.heap.size, 0, #[], rfl, h, by rw [World.alloc_heap_new], Nat.le_refl _, Nat.zero_le _, rfl, rfl⟩⟩
theorem str_news {W : World} {b o : Nat} {l : List ByteArray} (h : StrRow W b o l) : ∀ j u, (scells l)[j]? = some u → W.cell? ((⟨b, o, none⟩ : Addr).add j) = some u := by
  intro j u hj
  rw [scells, List.getElem?_map] at hj
  cases hq : l[j]? with
  | none => rw [hq] at hj; cases hj
  | some x => rw [hq] at hj; cases hj; rw [Addr.add_mid]; exact h j x hq
theorem ext_len' (l : List ByteArray) (m : Nat) (h : l.length ≤ 41) : (ext l m).length ≤ 7 := by
  rw [ext]; split
  · simp
  · exact part_len 6 l m true (by omega)
theorem Env.drew {w W : World} {ps : List (Value × List ByteArray)} (h : Env w W ps) : Env w W.drew ps := h.step (Below.refl _ W).drew
theorem wpList_append_none {w : World} {ops : Array Oper} {rest : List Oper} {o : Oper} {a : Act} {Q : Exit → Act → World → Prop} (hgd : o.guard = none) (s x : Operand)
    (ho : o.op = .call { callee := .builtin .append, args := #[s, x], argTypes := #[26, 26] }) (b : Nat) (hs : a.eval s = .slice (some ⟨b, 0, none⟩) 0 0) (ad : Option Addr) (c : Nat) (hx : a.eval x = .slice ad 0 c)
    (h : wpList Tryd.prog ops Q rest (a.put o.dst (.slice (some ⟨b, 0, none⟩) 0 0)) w) : wpList Tryd.prog ops Q (o :: rest) a w :=
  wpList_plain hgd fun _ hK => by
    obtain ⟨i0, hi, _, hsz, _⟩ := info_parts info9'
    have hsrc : Src Tryd.prog i0.size 26 (.slice ad 0 c) 0 [] w := by
      cases ad with
      | none => exact Src.ofNil w Tryd.underlying26 c
      | some a => exact Src.ofSlice w Tryd.underlying26 a 0 c [] (by simp) (fun j u h => by simp at h) (fun _ h => by cases h)
    have hr := run_append_room_src w 26 26 o.type 9 i0 Tryd.underlying26 hi b 0 0 0 (.slice ad 0 c) 0 [] hsrc (by omega) (fun j h => absurd h (by simp)) (fun j h => absurd h (by simp))
    unfold Oper.wp execOp
    simp only [ho, resolve, invoke, builtin, Sem.run_bind, Sem.run_pure, Result.andThen_ok, List.map_toArray, List.map_cons, List.map_nil, hs, hx, hr]
    exact hK _ _ h
theorem scells_len (l : List ByteArray) : (scells l).length = l.length * 1 := by rw [scells, List.length_map, Nat.mul_one]

set_option maxRecDepth 100000 in
set_option maxHeartbeats 4000000 in
theorem split_walk (l : List ByteArray) (s : ByteArray) (v : Value) (w : World) (hin : In w v l) (hz : ∀ s ∈ l, s.size ≤ 9223372036854775807) (hs : s.size ≤ 9223372036854775807) (ht : Tab w) :
    Calls Tryd.prog 11 #[v, .string s] w fun e w' => e = .returned (.bool true) ∧ Below w.heap.size w w' := by
  have hw := pos_of ht
  have G0 : Env w w [] := ⟨ht, hw, Below.refl _ _, fun _ h => by cases h⟩
  have cS : ∀ W, Env w W [] → Calls Tryd.prog 12 #[] W fun e w' => e = .returned (.bool true) ∧ Env w w' [] := fun W g => g.call (sane_any W g.tab g.pos)
  obtain ⟨F, hF⟩ : ∃ F, fw l 40 = F := ⟨_, rfl⟩
  have hF40 : F.length ≤ 40 := by rw [← hF]; exact fw_len l 40
  have hFz : ∀ s ∈ F, s.size ≤ 137438953472 := fun s hs => by have := fw_size l 40 s (by rw [hF]; exact hs); omega
  have cF : ∀ W, Env w W [] → Calls Tryd.prog 21 #[v, .int .i64 40] W fun e w' => ∃ u, e = .returned u ∧ ((∃ b o c, u = .slice (some ⟨b, o, none⟩) F.length c) ∨ (u = .slice none 0 0 ∧ F = [])) ∧ Env w w' [(u, F)] := fun W g =>
    (few_in l 40 v W (by decide) hz (hin.below g.below)).mono fun e w' ⟨u, he, ho, hb⟩ => by
      rw [hF] at ho
      exact ⟨u, he, len_of_sl (own_sl ho), (g.step hb).add (own_sl ho)⟩
  obtain ⟨i9, hi9, hzr9, hsz9, hby9⟩ := info_parts info9'
  have u1 : 0 ≤ min (s.size : Int) 60 := by omega
  have u2 : min (s.size : Int) 60 ≤ (s.size : Int) := by omega
  have hcut : s.extract 0 (min (s.size : Int) 60).toNat = cut60 s := rfl
  have hS := cut60_size s
  clear hin hz ht hF
  go_enter Tryd.func11, Tryd.ntmps11
  go_wp2_with (first | (go_at_call 12; (with_reducible refine (cS _ G0).mono ?_); rintro e w1 ⟨rfl, G0⟩) | (go_at_call 21; (with_reducible refine (cF _ G0).mono ?_); rintro e w1 ⟨u, rfl, hu, G⟩; refine Hid.out ?_))
  refine Lib.hid ?_
  clear cS cF G0
  rcases hu with ⟨b, o, c, rfl⟩ | ⟨rfl, hFnil⟩
  · obtain ⟨n, hnF⟩ : ∃ n, F.length = n := ⟨_, rfl⟩
    rw [hnF] at G ⊢
    by_cases hn0 : n = 0
    · subst hn0
      have hFnil : F = [] := List.eq_nil_of_length_eq_zero hnF
      clear hnF
      have hA1 : Below w1.heap.size w1 (w1.alloc (.cells #[] 9)) := (Below.refl _ w1).alloc (Nat.le_refl _) _
      have HO := Lib.hid (own_empty (W := w1) (base := w1.heap.size) (Nat.le_refl _))
      have hA2 := hA1.alloc hA1.size (.cells #[.string (cut60 s)] 9)
      have hsz2 := hA2.size
      have HO2 := Lib.hid (HO.out.alloc (.cells #[.string (cut60 s)] 9))
      have hN1 := one_newS (w1.alloc (.cells #[] 9)) (.string (cut60 s))
      have hq1 : (w1.alloc (.cells #[] 9)).heap.size = w1.heap.size + 1 := by simp
      rw [hq1] at hN1
      have HN1 := Lib.hid hN1
      clear hN1 hq1
      go_wp2_with (first | (at_builtin; (refine wpList_append_none rfl (.tmp 18) (.tmp 19) rfl w1.heap.size rfl (some ⟨b, o, none⟩) c rfl ?_)) | (at_builtin; (refine wpList_append_lies _ rfl (.tmp 20) (.tmp 22) 26 rfl w1.heap.size 9 i9 (.string ⟨#[]⟩) 1 16 Tryd.underlying26 hi9 hzr9 hsz9 hby9 rfl (by decide) _ 0 [] rfl HO2.out ⟨w1.heap.size + 1, 0, none⟩ 1 1 [.string (cut60 s)] rfl rfl HN1.out (by intro u hu; simp at hu; subst hu; rfl) (by decide) (by unfold maxLen; omega) (by omega) hsz2 _ rfl ?_; intro g4 cap4 w4 hown4 hgrow4 _ _; have hB4 := hA2.grown hgrow4 hsz2 fun k e => (HO2.out.lt k e).1)) | (go_at_call 24; refine Hid.out ?_))
      refine Lib.hid ?_
      have hSl4 : Sl w4 (.slice (some ⟨g4, 0, none⟩) 1 cap4) [cut60 s] := own_sl hown4
      have G4 := (G.step hB4).add hSl4
      have hMz : ∀ x ∈ [cut60 s], x.size ≤ 137438953472 := fun x hx => by
        simp at hx; subst hx; omega
      have hrl := root_nil
      have hrm := root_one (cut60 s)
      rw [← hFnil] at hrl
      have hMt : [cut60 s].take 0 = F := by rw [hFnil]; rfl
      have hML : [cut60 s].length = 1 := rfl
      have hF0 : F.length = 0 := by rw [hFnil]; rfl
      generalize cut60 s = S at *
      generalize [S] = M at *
      clear hown4 hgrow4 hB4 hA1 hA2 hsz2 HO HO2 HN1 G hSl4 hFnil
      obtain ⟨z, hz⟩ : ∃ z, (ext M 0).length = z := ⟨_, rfl⟩
      have cE : ∀ W, Env w W [(.slice (some ⟨g4, 0, none⟩) 1 cap4, M), (.slice (some ⟨b, o, none⟩) 0 c, F)] → Calls Tryd.prog 24 #[.slice (some ⟨g4, 0, none⟩) 1 cap4, .int .i64 0] W fun e w' => ∃ q cp, e = .returned (.tuple #[.slice q z cp, .int .i64 0]) ∧ Env w w' [(.slice q z cp, ext M 0), (.slice (some ⟨g4, 0, none⟩) 1 cap4, M), (.slice (some ⟨b, o, none⟩) 0 c, F)] := fun W g =>
        (Extension_any M 0 (by omega) (by omega) _ W (by omega) hMz g.sl1 g.tab g.pos ⟨by omega, by omega⟩).mono fun e w' ⟨u, he, ho, hb⟩ => by
          rw [show (0 : Int).toNat = 0 from rfl] at ho
          obtain ⟨q, cp, rfl⟩ := own_q ho
          rw [hz] at he
          exact ⟨q, cp, he, hz ▸ (g.step hb).add (own_sl ho)⟩
      have cV : ∀ W q cp, Env w W [(.slice q z cp, ext M 0), (.slice (some ⟨g4, 0, none⟩) 1 cap4, M), (.slice (some ⟨b, o, none⟩) 0 c, F)] → Calls Tryd.prog 31 #[.string (root F), .int .i64 0, .string (root M), .int .i64 1, .slice q z cp] W fun e w' => e = .returned (.bool true) ∧ Env w w' [(.slice q z cp, ext M 0), (.slice (some ⟨g4, 0, none⟩) 1 cap4, M), (.slice (some ⟨b, o, none⟩) 0 c, F)] := fun W q cp g =>
        (VerifyExtension_any (root F) 0 (root M) 1 (ext M 0) _ W (by omega) (by omega) (by omega) (by omega) (by rw [root_size]; decide) (by rw [root_size]; decide) (Nat.le_trans (ext_len' M 0 (by omega)) (by decide)) (digest_small (ext_all M 0)) g.sl1 g.tab g.pos).mono fun e w' ⟨he, hb⟩ => ⟨by
          have h := vex_ext M 0 (by omega)
          rw [hMt, hML] at h
          rw [he]
          exact congrArg (fun x => Ending.returned (.bool x)) h, g.step hb⟩
      have cRl : ∀ W x, Env w W [x, (.slice (some ⟨g4, 0, none⟩) 1 cap4, M), (.slice (some ⟨b, o, none⟩) 0 c, F)] → Calls Tryd.prog 27 #[.slice (some ⟨b, o, none⟩) 0 c] W fun e w' => e = .returned (.string (root F)) ∧ Env w w' [x, (.slice (some ⟨g4, 0, none⟩) 1 cap4, M), (.slice (some ⟨b, o, none⟩) 0 c, F)] := fun W x g =>
        g.call (root_any F.length F _ W (Nat.le_refl _) (by omega) hFz g.sl3 g.tab g.pos)
      have cRm : ∀ W x, Env w W [x, (.slice (some ⟨g4, 0, none⟩) 1 cap4, M), (.slice (some ⟨b, o, none⟩) 0 c, F)] → Calls Tryd.prog 27 #[.slice (some ⟨g4, 0, none⟩) 1 cap4] W fun e w' => e = .returned (.string (root M)) ∧ Env w w' [x, (.slice (some ⟨g4, 0, none⟩) 1 cap4, M), (.slice (some ⟨b, o, none⟩) 0 c, F)] := fun W x g =>
        g.call (root_any M.length M _ W (Nat.le_refl _) (by omega) hMz g.sl2 g.tab g.pos)
      have cLf : ∀ W x, Env w W [x, (.slice (some ⟨g4, 0, none⟩) 1 cap4, M), (.slice (some ⟨b, o, none⟩) 0 c, F)] → Calls Tryd.prog 15 #[.string S] W fun e w' => e = .returned (.string (root M)) ∧ Env w w' [x, (.slice (some ⟨g4, 0, none⟩) 1 cap4, M), (.slice (some ⟨b, o, none⟩) 0 c, F)] := fun W x g =>
        hrm ▸ g.call (Leaf_any S (by omega) W g.tab g.pos)
      have cSm : ∀ W x, Env w W [x, (.slice (some ⟨g4, 0, none⟩) 1 cap4, M), (.slice (some ⟨b, o, none⟩) 0 c, F)] → Calls Tryd.prog 13 #[.string ⟨#[]⟩] W fun e w' => e = .returned (.string (root F)) ∧ Env w w' [x, (.slice (some ⟨g4, 0, none⟩) 1 cap4, M), (.slice (some ⟨b, o, none⟩) 0 c, F)] := fun W x g =>
        hrl ▸ g.call (Sum_any ⟨#[]⟩ (by decide) W g.tab g.pos)
      obtain ⟨RF, hRF⟩ : ∃ r, root F = r := ⟨_, rfl⟩
      obtain ⟨RM, hRM⟩ : ∃ r, root M = r := ⟨_, rfl⟩
      obtain ⟨X, hX⟩ : ∃ r, ext M 0 = r := ⟨_, rfl⟩
      rw [hRF] at cRl cV cSm
      rw [hRM] at cRm cV cLf
      rw [hX] at cE cV
      clear hRF hRM hX hz hML hMt hMz hFz hF40 hcut u1 u2 hs hrl hrm hF0
      refine (cE _ G4).mono ?_
      rintro e w5 ⟨q, cp, rfl, G⟩
      clear G4 cE
      go_wp2_with (first | (go_at_call 27; (with_reducible refine (cRl _ _ G).mono ?_); rintro e w6 ⟨rfl, G⟩) | (go_at_call 27; (with_reducible refine (cRm _ _ G).mono ?_); rintro e w6 ⟨rfl, G⟩) | (go_at_call 31; (with_reducible refine (cV _ _ _ G).mono ?_); rintro e w6 ⟨rfl, G⟩) | (go_at_call 15; (with_reducible refine (cLf _ _ G).mono ?_); rintro e w6 ⟨rfl, G⟩) | (go_at_call 13; (with_reducible refine (cSm _ _ G).mono ?_); rintro e w6 ⟨rfl, G⟩))
      go_ret
      exact ⟨rfl, G.below⟩
    have hn1 : 0 < n := by omega
    obtain ⟨hlc, hc, hb, hr⟩ : n ≤ c ∧ c ≤ 9223372036854775807 ∧ b < w1.heap.size ∧ StrRow w1 b o F := by
      rcases G.sl1 with ⟨h, _⟩ | ⟨b', o', c', h, h1, h2, h3, h4⟩
      · cases h
      · simp only [Value.slice.injEq, Option.some.injEq, Addr.mk.injEq] at h
        obtain ⟨⟨rfl, rfl, _⟩, _, rfl⟩ := h
        exact ⟨by omega, h2, h3, h4⟩
    have hn40 : n ≤ 40 := by omega
    have hA1 : Below w1.heap.size w1 (w1.alloc (.cells #[] 9)) := (Below.refl _ w1).alloc (Nat.le_refl _) _
    have hN1 := str_news (hr.below hA1 hb)
    have hl1 : (scells F).length = n * 1 := by rw [scells_len, hnF]
    have hs1 := scells_one F
    have hO1 := own_empty (W := w1) (base := w1.heap.size) (Nat.le_refl _)
    clear hr
    have HN := Lib.hid hN1
    have HL := Lib.hid hl1
    have HS := Lib.hid hs1
    have HO := Lib.hid hO1
    have HF := Lib.hid hnF
    clear hN1 hl1 hs1 hO1 hnF
    go_wp2_with (first | (at_builtin; (refine wpList_append_lies _ rfl (.tmp 18) (.tmp 19) 26 rfl w1.heap.size 9 i9 (.string ⟨#[]⟩) 1 16 Tryd.underlying26 hi9 hzr9 hsz9 hby9 rfl (by decide) _ 0 [] rfl HO.out ⟨b, o, none⟩ n c (scells F) rfl HL.out HN.out HS.out hn1 (by unfold maxLen; omega) (by omega) hA1.size _ rfl ?_; intro g cap w3 hown3 hgrow _ _; rw [Nat.zero_add, List.nil_append] at hown3; have hB3 := hA1.grown hgrow hA1.size fun k e => (HO.out.lt k e).1; clear hgrow)) | (at_builtin; (refine wpList_append_lies _ rfl (.tmp 20) (.tmp 22) 26 rfl w1.heap.size 9 i9 (.string ⟨#[]⟩) 1 16 Tryd.underlying26 hi9 hzr9 hsz9 hby9 rfl (by decide) _ n (scells F) rfl (hown3.alloc _) ⟨w3.heap.size, 0, none⟩ 1 1 [.string (cut60 s)] rfl rfl (one_newS w3 _) (by intro u hu; simp at hu; subst hu; rfl) (by decide) (by unfold maxLen; omega) (by omega) (Nat.le_trans hB3.size (by simp)) _ rfl ?_; intro g4 cap4 w4 hown4 hgrow4 _ _; have hB4 := (hB3.alloc hB3.size (.cells #[.string (cut60 s)] 9)).grown hgrow4 (Nat.le_trans hB3.size (by simp)) fun k e => (hown3.lt k e).1)) | (go_at_call 24; refine Hid.out ?_))
    refine Lib.hid ?_
    have hFn := HF.out
    have hML : (F ++ [cut60 s]).length = n + 1 := by rw [List.length_append, hFn]; rfl
    have hcs : scells (F ++ [cut60 s]) = scells F ++ [.string (cut60 s)] := by simp [scells]
    have hMt : (F ++ [cut60 s]).take n = F := by rw [← hFn, List.take_left']; rfl
    have hSl4 : Sl w4 (.slice (some ⟨g4, 0, none⟩) (n + 1) cap4) (F ++ [cut60 s]) := own_sl (by rw [hML, hcs]; exact hown4)
    have G4 := (G.step hB4).add hSl4
    have hMz : ∀ x ∈ F ++ [cut60 s], x.size ≤ 137438953472 := fun x hx => by
      rcases List.mem_append.1 hx with hx | hx
      · exact hFz x hx
      · simp at hx; subst hx; omega
    clear hown4 hgrow4 hB4 hB3 hown3 hA1 HO HS HL HN G hcs hSl4 HF
    generalize F ++ [cut60 s] = M at *
    generalize hN : n + 1 = N at *
    obtain ⟨hlM, hcM, hgM, hrM⟩ : N ≤ cap4 ∧ cap4 ≤ 9223372036854775807 ∧ g4 < w4.heap.size ∧ StrRow w4 g4 0 M := by
      rcases G4.sl1 with ⟨h, _⟩ | ⟨b', o', c', h, h1, h2, h3, h4⟩
      · cases h
      · simp only [Value.slice.injEq, Option.some.injEq, Addr.mk.injEq] at h
        obtain ⟨⟨rfl, rfl, _⟩, _, rfl⟩ := h
        exact ⟨by omega, h2, h3, h4⟩
    have h2M : 2 ≤ M.length := by omega
    obtain ⟨k, hk⟩ : ∃ k, spl N = k := ⟨_, rfl⟩
    have k1 := spl_lt _ h2M
    have k2 := spl_pos M.length
    have hrt := root_two h2M
    rw [hML, hk] at k1 k2 hrt
    obtain ⟨z, hz⟩ : ∃ z, (ext M n).length = z := ⟨_, rfl⟩
    have cE : ∀ W, Env w W [(.slice (some ⟨g4, 0, none⟩) N cap4, M), (.slice (some ⟨b, o, none⟩) n c, F)] → Calls Tryd.prog 24 #[.slice (some ⟨g4, 0, none⟩) N cap4, .int .i64 (n : Int)] W fun e w' => ∃ q cp, e = .returned (.tuple #[.slice q z cp, .int .i64 0]) ∧ Env w w' [(.slice q z cp, ext M n), (.slice (some ⟨g4, 0, none⟩) N cap4, M), (.slice (some ⟨b, o, none⟩) n c, F)] := fun W g =>
      (Extension_any M n (by omega) (by omega) _ W (by omega) hMz g.sl1 g.tab g.pos ⟨by omega, by omega⟩).mono fun e w' ⟨u, he, ho, hb⟩ => by
        rw [Int.toNat_natCast] at ho
        obtain ⟨q, cp, rfl⟩ := own_q ho
        rw [hz] at he
        exact ⟨q, cp, he, hz ▸ (g.step hb).add (own_sl ho)⟩
    have cV : ∀ W q cp, Env w W [(.slice q z cp, ext M n), (.slice (some ⟨g4, 0, none⟩) N cap4, M), (.slice (some ⟨b, o, none⟩) n c, F)] → Calls Tryd.prog 31 #[.string (root F), .int .i64 (n : Int), .string (root M), .int .i64 (N : Int), .slice q z cp] W fun e w' => e = .returned (.bool true) ∧ Env w w' [(.slice q z cp, ext M n), (.slice (some ⟨g4, 0, none⟩) N cap4, M), (.slice (some ⟨b, o, none⟩) n c, F)] := fun W q cp g =>
      (VerifyExtension_any (root F) n (root M) N (ext M n) _ W (by omega) (by omega) (by omega) (by omega) (by rw [root_size]; decide) (by rw [root_size]; decide) (Nat.le_trans (ext_len' M n (by omega)) (by decide)) (digest_small (ext_all M n)) g.sl1 g.tab g.pos).mono fun e w' ⟨he, hb⟩ => ⟨by
        have h := vex_ext M n (by omega)
        rw [hMt, hML] at h
        rw [he, h], g.step hb⟩
    have cRl : ∀ W x, Env w W [x, (.slice (some ⟨g4, 0, none⟩) N cap4, M), (.slice (some ⟨b, o, none⟩) n c, F)] → Calls Tryd.prog 27 #[.slice (some ⟨b, o, none⟩) n c] W fun e w' => e = .returned (.string (root F)) ∧ Env w w' [x, (.slice (some ⟨g4, 0, none⟩) N cap4, M), (.slice (some ⟨b, o, none⟩) n c, F)] := fun W x g =>
      g.call (root_any F.length F _ W (Nat.le_refl _) (by omega) hFz g.sl3 g.tab g.pos)
    have cRm : ∀ W x, Env w W [x, (.slice (some ⟨g4, 0, none⟩) N cap4, M), (.slice (some ⟨b, o, none⟩) n c, F)] → Calls Tryd.prog 27 #[.slice (some ⟨g4, 0, none⟩) N cap4] W fun e w' => e = .returned (.string (root M)) ∧ Env w w' [x, (.slice (some ⟨g4, 0, none⟩) N cap4, M), (.slice (some ⟨b, o, none⟩) n c, F)] := fun W x g =>
      g.call (root_any M.length M _ W (Nat.le_refl _) (by omega) hMz g.sl2 g.tab g.pos)
    have cK : ∀ W x, Env w W [x, (.slice (some ⟨g4, 0, none⟩) N cap4, M), (.slice (some ⟨b, o, none⟩) n c, F)] → Calls Tryd.prog 38 #[.int .i64 (N : Int)] W fun e w' => e = .returned (.int .i64 (k : Int)) ∧ Env w w' [x, (.slice (some ⟨g4, 0, none⟩) N cap4, M), (.slice (some ⟨b, o, none⟩) n c, F)] := fun W x g =>
      g.same (hk ▸ left_any N (by omega) (by omega) W)
    have row : ∀ (W : World) x, Env w W [x, (.slice (some ⟨g4, 0, none⟩) N cap4, M), (.slice (some ⟨b, o, none⟩) n c, F)] → g4 < W.heap.size ∧ StrRow W g4 0 M := fun W x g => by
      rcases g.sl2 with ⟨h, _⟩ | ⟨b', o', c', h, h1, h2, h3, h4⟩
      · cases h
      · simp only [Value.slice.injEq, Option.some.injEq, Addr.mk.injEq] at h
        obtain ⟨⟨rfl, rfl, _⟩, _, rfl⟩ := h
        exact ⟨h3, h4⟩
    have cRt : ∀ W x, Env w W [x, (.slice (some ⟨g4, 0, none⟩) N cap4, M), (.slice (some ⟨b, o, none⟩) n c, F)] → Calls Tryd.prog 27 #[.slice (some ⟨g4, 0, none⟩) k cap4] W fun e w' => e = .returned (.string (root (M.take k))) ∧ Env w w' [x, (.slice (some ⟨g4, 0, none⟩) N cap4, M), (.slice (some ⟨b, o, none⟩) n c, F)] := fun W x g =>
      g.call (root_any M.length (M.take k) _ W (by rw [List.length_take]; omega) (by rw [List.length_take]; omega) (fun s hs => hMz s (List.mem_of_mem_take hs)) (Sl.take (row W x g).2 (by omega) (by omega) hcM (row W x g).1) g.tab g.pos)
    have cRd : ∀ W x, Env w W [x, (.slice (some ⟨g4, 0, none⟩) N cap4, M), (.slice (some ⟨b, o, none⟩) n c, F)] → Calls Tryd.prog 27 #[.slice (some ⟨g4, k, none⟩) (N - k) (cap4 - k)] W fun e w' => e = .returned (.string (root (M.drop k))) ∧ Env w w' [x, (.slice (some ⟨g4, 0, none⟩) N cap4, M), (.slice (some ⟨b, o, none⟩) n c, F)] := fun W x g =>
      g.call (root_any M.length (M.drop k) _ W (by rw [List.length_drop]; omega) (by rw [List.length_drop]; omega) (fun s hs => hMz s (List.mem_of_mem_drop hs)) (by have := Sl.drop (k := k) (row W x g).2 (by omega) hcM (row W x g).1; rw [Nat.zero_add, hML] at this; exact this) g.tab g.pos)
    have cN : ∀ W x, Env w W [x, (.slice (some ⟨g4, 0, none⟩) N cap4, M), (.slice (some ⟨b, o, none⟩) n c, F)] → Calls Tryd.prog 17 #[.string (root (M.take k)), .string (root (M.drop k))] W fun e w' => e = .returned (.string (root M)) ∧ Env w w' [x, (.slice (some ⟨g4, 0, none⟩) N cap4, M), (.slice (some ⟨b, o, none⟩) n c, F)] := fun W x g =>
      hrt ▸ g.call (Node_any (root (M.take k)) (root (M.drop k)) (by rw [root_size]; decide) (by rw [root_size]; decide) W g.tab g.pos)
    have j0 : (0 : Int) ≤ (k : Int) := by omega
    have j1 : (k : Int) ≤ (N : Int) := by omega
    have j2 : (k : Int) ≤ (cap4 : Int) := by omega
    have j3 : (k : Int) < (cap4 : Int) := by omega
    have j4 : (N : Int) ≤ (cap4 : Int) := by omega
    have j5 : ¬ cap4 = k := by omega
    have q1 : ((n : Int) == 0) = false := by rw [beq_eq_false_iff_ne, ne_eq]; omega
    obtain ⟨RF, hRF⟩ : ∃ r, root F = r := ⟨_, rfl⟩
    obtain ⟨RM, hRM⟩ : ∃ r, root M = r := ⟨_, rfl⟩
    obtain ⟨RT, hRT⟩ : ∃ r, root (M.take k) = r := ⟨_, rfl⟩
    obtain ⟨RD, hRD⟩ : ∃ r, root (M.drop k) = r := ⟨_, rfl⟩
    obtain ⟨X, hX⟩ : ∃ r, ext M n = r := ⟨_, rfl⟩
    rw [hRF] at cRl cV
    rw [hRM] at cRm cV cN
    rw [hRT] at cRt cN
    rw [hRD] at cRd cN
    rw [hX] at cE cV
    have HN := Lib.hid hN
    clear hN hRF hRM hRT hRD hX hz hrM row hML hMt hFn hMz hrt hk k1 k2 h2M hgM hFz hF40 hcut u1 u2 hs
    refine (cE _ G4).mono ?_
    rintro e w5 ⟨q, cp, rfl, G⟩
    clear G4 cE
    go_wp2_with (first | (go_at_call 27; (with_reducible refine (cRl _ _ G).mono ?_); rintro e w6 ⟨rfl, G⟩) | (go_at_call 27; (with_reducible refine (cRm _ _ G).mono ?_); rintro e w6 ⟨rfl, G⟩) | (go_at_call 31; (with_reducible refine (cV _ _ _ G).mono ?_); rintro e w6 ⟨rfl, G⟩) | (go_at_call 38; (with_reducible refine (cK _ _ G).mono ?_); rintro e w6 ⟨rfl, G⟩) | (go_at_call 27; (with_reducible refine (cRt _ _ G).mono ?_); rintro e w6 ⟨rfl, G⟩) | (go_at_call 27; (with_reducible refine (cRd _ _ G).mono ?_); rintro e w6 ⟨rfl, G⟩) | (go_at_call 17; (with_reducible refine (cN _ _ G).mono ?_); rintro e w6 ⟨rfl, G⟩))
    replace G := G.drew
    go_region_held3 (fun W => Env w W [(.slice q z cp, X), (.slice (some ⟨g4, 0, none⟩) N cap4, M), (.slice (some ⟨b, o, none⟩) n c, F)]) (first | assumption) (first | (go_at_call 27; (with_reducible refine (cRm _ _ (by assumption)).mono ?_); rintro e w'' ⟨rfl, hb⟩) | (go_at_call 27; (with_reducible refine (cRt _ _ (by assumption)).mono ?_); rintro e w'' ⟨rfl, hb⟩) | (go_at_call 27; (with_reducible refine (cRd _ _ (by assumption)).mono ?_); rintro e w'' ⟨rfl, hb⟩) | (go_at_call 17; (with_reducible refine (cN _ _ (by assumption)).mono ?_); rintro e w'' ⟨rfl, hb⟩))
    all_goals (go_wp2; go_ret; exact ⟨rfl, Env.below (by assumption)⟩)
  · have hA1 : Below w1.heap.size w1 (w1.alloc (.cells #[] 9)) := (Below.refl _ w1).alloc (Nat.le_refl _) _
    have HO := Lib.hid (own_empty (W := w1) (base := w1.heap.size) (Nat.le_refl _))
    have hA2 := hA1.alloc hA1.size (.cells #[.string (cut60 s)] 9)
    have hsz2 := hA2.size
    have HO2 := Lib.hid (HO.out.alloc (.cells #[.string (cut60 s)] 9))
    have hN1 := one_newS (w1.alloc (.cells #[] 9)) (.string (cut60 s))
    have hq1 : (w1.alloc (.cells #[] 9)).heap.size = w1.heap.size + 1 := by simp
    rw [hq1] at hN1
    have HN1 := Lib.hid hN1
    clear hN1 hq1
    go_wp2_with (first | (at_builtin; (refine wpList_append_none rfl (.tmp 18) (.tmp 19) rfl w1.heap.size rfl none 0 rfl ?_)) | (at_builtin; (refine wpList_append_lies _ rfl (.tmp 20) (.tmp 22) 26 rfl w1.heap.size 9 i9 (.string ⟨#[]⟩) 1 16 Tryd.underlying26 hi9 hzr9 hsz9 hby9 rfl (by decide) _ 0 [] rfl HO2.out ⟨w1.heap.size + 1, 0, none⟩ 1 1 [.string (cut60 s)] rfl rfl HN1.out (by intro u hu; simp at hu; subst hu; rfl) (by decide) (by unfold maxLen; omega) (by omega) hsz2 _ rfl ?_; intro g4 cap4 w4 hown4 hgrow4 _ _; have hB4 := hA2.grown hgrow4 hsz2 fun k e => (HO2.out.lt k e).1)) | (go_at_call 24; refine Hid.out ?_))
    refine Lib.hid ?_
    have hSl4 : Sl w4 (.slice (some ⟨g4, 0, none⟩) 1 cap4) [cut60 s] := own_sl hown4
    have G4 := (G.step hB4).add hSl4
    have hMz : ∀ x ∈ [cut60 s], x.size ≤ 137438953472 := fun x hx => by
      simp at hx; subst hx; omega
    have hrl := root_nil
    have hrm := root_one (cut60 s)
    rw [← hFnil] at hrl
    have hMt : [cut60 s].take 0 = F := by rw [hFnil]; rfl
    have hML : [cut60 s].length = 1 := rfl
    have hF0 : F.length = 0 := by rw [hFnil]; rfl
    generalize cut60 s = S at *
    generalize [S] = M at *
    clear hown4 hgrow4 hB4 hA1 hA2 hsz2 HO HO2 HN1 G hSl4 hFnil
    obtain ⟨z, hz⟩ : ∃ z, (ext M 0).length = z := ⟨_, rfl⟩
    have cE : ∀ W, Env w W [(.slice (some ⟨g4, 0, none⟩) 1 cap4, M), (.slice none 0 0, F)] → Calls Tryd.prog 24 #[.slice (some ⟨g4, 0, none⟩) 1 cap4, .int .i64 0] W fun e w' => ∃ q cp, e = .returned (.tuple #[.slice q z cp, .int .i64 0]) ∧ Env w w' [(.slice q z cp, ext M 0), (.slice (some ⟨g4, 0, none⟩) 1 cap4, M), (.slice none 0 0, F)] := fun W g =>
      (Extension_any M 0 (by omega) (by omega) _ W (by omega) hMz g.sl1 g.tab g.pos ⟨by omega, by omega⟩).mono fun e w' ⟨u, he, ho, hb⟩ => by
        rw [show (0 : Int).toNat = 0 from rfl] at ho
        obtain ⟨q, cp, rfl⟩ := own_q ho
        rw [hz] at he
        exact ⟨q, cp, he, hz ▸ (g.step hb).add (own_sl ho)⟩
    have cV : ∀ W q cp, Env w W [(.slice q z cp, ext M 0), (.slice (some ⟨g4, 0, none⟩) 1 cap4, M), (.slice none 0 0, F)] → Calls Tryd.prog 31 #[.string (root F), .int .i64 0, .string (root M), .int .i64 1, .slice q z cp] W fun e w' => e = .returned (.bool true) ∧ Env w w' [(.slice q z cp, ext M 0), (.slice (some ⟨g4, 0, none⟩) 1 cap4, M), (.slice none 0 0, F)] := fun W q cp g =>
      (VerifyExtension_any (root F) 0 (root M) 1 (ext M 0) _ W (by omega) (by omega) (by omega) (by omega) (by rw [root_size]; decide) (by rw [root_size]; decide) (Nat.le_trans (ext_len' M 0 (by omega)) (by decide)) (digest_small (ext_all M 0)) g.sl1 g.tab g.pos).mono fun e w' ⟨he, hb⟩ => ⟨by
        have h := vex_ext M 0 (by omega)
        rw [hMt, hML] at h
        rw [he]
        exact congrArg (fun x => Ending.returned (.bool x)) h, g.step hb⟩
    have cRl : ∀ W x, Env w W [x, (.slice (some ⟨g4, 0, none⟩) 1 cap4, M), (.slice none 0 0, F)] → Calls Tryd.prog 27 #[.slice none 0 0] W fun e w' => e = .returned (.string (root F)) ∧ Env w w' [x, (.slice (some ⟨g4, 0, none⟩) 1 cap4, M), (.slice none 0 0, F)] := fun W x g =>
      g.call (root_any F.length F _ W (Nat.le_refl _) (by omega) hFz g.sl3 g.tab g.pos)
    have cRm : ∀ W x, Env w W [x, (.slice (some ⟨g4, 0, none⟩) 1 cap4, M), (.slice none 0 0, F)] → Calls Tryd.prog 27 #[.slice (some ⟨g4, 0, none⟩) 1 cap4] W fun e w' => e = .returned (.string (root M)) ∧ Env w w' [x, (.slice (some ⟨g4, 0, none⟩) 1 cap4, M), (.slice none 0 0, F)] := fun W x g =>
      g.call (root_any M.length M _ W (Nat.le_refl _) (by omega) hMz g.sl2 g.tab g.pos)
    have cLf : ∀ W x, Env w W [x, (.slice (some ⟨g4, 0, none⟩) 1 cap4, M), (.slice none 0 0, F)] → Calls Tryd.prog 15 #[.string S] W fun e w' => e = .returned (.string (root M)) ∧ Env w w' [x, (.slice (some ⟨g4, 0, none⟩) 1 cap4, M), (.slice none 0 0, F)] := fun W x g =>
      hrm ▸ g.call (Leaf_any S (by omega) W g.tab g.pos)
    have cSm : ∀ W x, Env w W [x, (.slice (some ⟨g4, 0, none⟩) 1 cap4, M), (.slice none 0 0, F)] → Calls Tryd.prog 13 #[.string ⟨#[]⟩] W fun e w' => e = .returned (.string (root F)) ∧ Env w w' [x, (.slice (some ⟨g4, 0, none⟩) 1 cap4, M), (.slice none 0 0, F)] := fun W x g =>
      hrl ▸ g.call (Sum_any ⟨#[]⟩ (by decide) W g.tab g.pos)
    obtain ⟨RF, hRF⟩ : ∃ r, root F = r := ⟨_, rfl⟩
    obtain ⟨RM, hRM⟩ : ∃ r, root M = r := ⟨_, rfl⟩
    obtain ⟨X, hX⟩ : ∃ r, ext M 0 = r := ⟨_, rfl⟩
    rw [hRF] at cRl cV cSm
    rw [hRM] at cRm cV cLf
    rw [hX] at cE cV
    clear hRF hRM hX hz hML hMt hMz hFz hF40 hcut u1 u2 hs hrl hrm hF0
    refine (cE _ G4).mono ?_
    rintro e w5 ⟨q, cp, rfl, G⟩
    clear G4 cE
    go_wp2_with (first | (go_at_call 27; (with_reducible refine (cRl _ _ G).mono ?_); rintro e w6 ⟨rfl, G⟩) | (go_at_call 27; (with_reducible refine (cRm _ _ G).mono ?_); rintro e w6 ⟨rfl, G⟩) | (go_at_call 31; (with_reducible refine (cV _ _ _ G).mono ?_); rintro e w6 ⟨rfl, G⟩) | (go_at_call 15; (with_reducible refine (cLf _ _ G).mono ?_); rintro e w6 ⟨rfl, G⟩) | (go_at_call 13; (with_reducible refine (cSm _ _ G).mono ?_); rintro e w6 ⟨rfl, G⟩))
    go_ret
    exact ⟨rfl, G.below⟩
end Go.Proofs.YtdjdoepnljdlcaaDoor
