/- strings.TrimLeft of zeros; natural.text. -/
import Derived.Test.YtbdiofifjckceaaGreatDoorPk
namespace Go.Proofs.YtbdiofifjckceaaGreatDoor
open Go.RowKit

theorem bytes_head {t : ByteArray} {x : UInt8} {l : List UInt8} (e : t.data.toList = x :: l) (h : 0 < t.size) : t[0] = x := by
  have h1 : t.data.toList[0]? = some x := by rw [e]; rfl
  have h2 : t.data[0]? = some x := by rw [← Array.getElem?_toList]; exact h1
  exact (Array.getElem?_eq_some_iff.1 h2).2
theorem bytes_size {t : ByteArray} {l : List UInt8} (e : t.data.toList = l) : t.size = l.length := by rw [← e]; rfl
theorem bytes_tail {t : ByteArray} {x : UInt8} {l : List UInt8} (e : t.data.toList = x :: l) : (t.extract 1 t.size).data.toList = l := by
  rw [ByteArray.data_extract]
  have hs : t.size = l.length + 1 := bytes_size e
  rw [Array.toList_extract, hs, e]
  simp

set_option maxRecDepth 100000 in
theorem trim_any (s : ByteArray) (w : World) (hz : s.size ≤ 1000000) :
    Calls Tryz.prog 79 #[.string s, .int .u8 48] w fun e w' => e = .returned (.string ⟨(s.data.toList.dropWhile (· == 48)).toArray⟩) ∧ w = w' := by
  go_enter Tryz.func79, Tryz.ntmps79
  go_wp2
  go_loopw [0] (fun u wr => ∃ t : ByteArray, u = .string t ∧ Hid (t.data.toList.dropWhile (· == 48) = s.data.toList.dropWhile (· == 48)) ∧ t.size ≤ 1000000 ∧ w = wr) (fun u _ => match u with | .string t => t.size | _ => 0)
  case atStart => exact ⟨s, rfl, Lib.hid rfl, hz, rfl⟩
  case round =>
    obtain ⟨t, rfl, ht, hz2, rfl⟩ := hrel
    obtain ⟨l, hl⟩ : ∃ l, t.data.toList = l := ⟨_, rfl⟩
    have hs := bytes_size hl
    rw [hl] at ht
    have HT := ht
    clear ht
    cases l with
    | nil =>
      rw [List.length_nil] at hs
      have e0 : decide ((0 : Int) < (t.size : Int)) = false := by rw [hs]; rfl
      have HL := Lib.hid hl
      clear hl e0
      go_wp2
      go_ret
      rw [← HT.out]
      exact ⟨by rw [show t = ⟨([] : List UInt8).toArray⟩ from ByteArray.ext (by rw [← Array.toList_inj]; exact HL.out)]; rfl, rfl⟩
    | cons x l =>
      rw [List.length_cons] at hs
      have h0 : 0 < t.size := by omega
      have hx := bytes_head hl h0
      have e0 : decide ((0 : Int) < (t.size : Int)) = true := by rw [decide_eq_true_eq]; omega
      have htl := bytes_tail hl
      have HL := Lib.hid hl
      by_cases h48 : x = 48
      · have HTL := Lib.hid htl
        have H48 := Lib.hid h48
        have HS := Lib.hid hs
        have e2 : ((x.toNat : Int) == 48) = true := by rw [h48]; rfl
        clear hl htl h48
        go_wp2
        refine ⟨⟨_, rfl, Lib.hid ?_, ?_, trivial⟩, ?_⟩
        · rw [← HT.out, ← HS.out, HTL.out, H48.out]; rfl
        · rw [← HS.out, ByteArray.size_extract]; omega
        · show (t.extract 1 (l.length + 1)).size < t.size
          rw [← HS.out, ByteArray.size_extract]; omega
      · have e2 : ((x.toNat : Int) == 48) = false := by
          rw [beq_eq_false_iff_ne, ne_eq]
          intro h
          exact h48 (UInt8.toNat_inj.1 (by have : x.toNat = 48 := by omega
                                           rw [this]; rfl))
        have HX := Lib.hid h48
        clear hl htl h48
        go_wp2
        go_ret
        refine ⟨?_, rfl⟩
        rw [← HT.out, List.dropWhile_cons_of_neg (by simpa using HX.out), ← HL.out]
        show Ending.returned (Value.string t) = Ending.returned (.string ⟨t.data.toList.toArray⟩)
        rw [Array.toArray_toList]

set_option maxRecDepth 100000 in
theorem trimLeft_any (s : ByteArray) (w : World) (h0 : 0 < s.size) (hz : s.size ≤ 1000000) :
    Calls Tryz.prog 64 #[.string s, .string ⟨#[48]⟩] w fun e w' => e = .returned (.string ⟨(s.data.toList.dropWhile (· == 48)).toArray⟩) ∧ w = w' := by
  have e1 : s.toList.isEmpty = false := by
    rw [ByteArray.toList_eq, List.isEmpty_eq_false_iff]
    intro h
    have := bytes_size h
    rw [List.length_nil] at this; omega
  have e48 : (((⟨#[48]⟩ : ByteArray)[0]'(by decide)).toNat : Int) = 48 := rfl
  have cT := trim_any s w hz
  generalize (s.data.toList.dropWhile (· == 48)).toArray = r at *
  go_enter Tryz.func64, Tryz.ntmps64
  go_wp2_with (go_at_call 79; (with_reducible refine cT.mono ?_); rintro e w' ⟨rfl, rfl⟩)
  go_ret
  exact ⟨rfl, rfl⟩

/-- a block of bytes -/
def UBlk (w : World) (g : Nat) (L : List Int) : Prop := ∃ T : List Value, w.heap[g]? = some (.cells (L.map (Value.int .u8) ++ T).toArray 5 (0, 0))
theorem UBlk.cell {w : World} {g : Nat} {L : List Int} (h : UBlk w g L) {j : Nat} {x : Int} (hj : L[j]? = some x) : w.cell? ⟨g, j, none⟩ = some (.int .u8 x) := by
  obtain ⟨T, h⟩ := h
  have hl := (List.getElem?_eq_some_iff.1 hj).1
  rw [World.cell?, h]
  simp only [List.getElem?_toArray]
  rw [List.getElem?_append_left (by simpa using hl), List.getElem?_map, hj]
  rfl
theorem UBlk.free {w : World} {g : Nat} {L : List Int} (h : UBlk w g L) (j : Nat) : w.frozen? ⟨g, j, none⟩ = false := by
  obtain ⟨T, h⟩ := h
  rw [World.frozen?, h]; simp
theorem UBlk.set {w : World} {g : Nat} {L : List Int} (h : UBlk w g L) (j : Nat) (x : Int) : UBlk (w.setCell ⟨g, j, none⟩ (.int .u8 x)) g (L.set j x) := by
  obtain ⟨T, h⟩ := h
  have := heap_setCell_same w g j _ _ (.int .u8 x) h
  by_cases hj : j < L.length
  · refine ⟨T, ?_⟩
    rw [this, List.setIfInBounds_toArray, List.set_append_left _ _ (by simpa using hj), List.map_set]
  · refine ⟨T.set (j - L.length) (.int .u8 x), ?_⟩
    rw [this, List.setIfInBounds_toArray, List.set_append_right _ _ (by simpa using hj), List.length_map, show L.set j x = L from List.set_eq_of_length_le (by omega)]
theorem own_ublk {w : World} {base n cap g : Nat} {l : List Int} (h : w.ownsRow base 5 1 (.slice (some ⟨g, 0, none⟩) n cap) n (l.map (Value.int .u8))) : UBlk w g l := by
  rcases h.2 with ⟨h', _⟩ | ⟨g', cap', cur, h', hb, hg, hnc, hcm, hcs, htake⟩
  · cases h'
  · simp only [Value.slice.injEq, Option.some.injEq, Addr.mk.injEq] at h'
    obtain ⟨⟨rfl, _⟩, _, rfl⟩ := h'
    refine ⟨cur.toList.drop n, ?_⟩
    rw [hg]
    have e : List.map (Value.int .u8) l = cur.toList.take n := by rw [← htake, Nat.mul_one]
    rw [e, List.take_append_drop, Array.toArray_toList]
theorem made_bytes (n : Nat) : (madeCells (Value.int .u8 0).cells (n * 1)).toList = (List.replicate n 0).map (Value.int .u8) := by
  rw [show (Value.int .u8 0).cells = #[.int .u8 0] from rfl, toList_madeCells_one, Nat.mul_one, List.map_replicate]
theorem info_u8 : (Tryz.prog.info? 5).map (fun i => (i.zero, i.size, i.bytes)) = some (some (.int .u8 0), 1, 1) := by kernel_rfl

/-- the digits that are written, the least significant one last -/
def wr4 (l : List Int) : List Int := (l.map (48 + ·)).reverse

theorem wr4_snoc (l : List Int) (d : Int) : wr4 (l ++ [d]) = (48 + d) :: wr4 l := by simp [wr4]
theorem wr4_lts {l : List Int} (h : DigX l) : wr4 l = (lts l).map (fun b => (b.toNat : Int)) := by
  rw [wr4, lts, List.map_reverse, List.map_map]
  congr 1
  exact List.map_congr_left fun x hx => by simp only [Function.comp]; rw [ltr_nat (h x hx)]
/-- the j lowest digits -/
def dN : Nat → Int → List Int
  | 0, _ => []
  | j + 1, g => g % 10 :: dN j (g / 10)

set_option maxRecDepth 100000 in
set_option maxHeartbeats 1000000 in
theorem text_any (m : Nat) (v : Value) (w : World) (hl : (grp m).length ≤ 5000) (h1 : NSl w v m) :
    Calls Tryz.prog 48 #[v] w fun e w' => e = .returned (.string ⟨(txN m).toArray⟩) ∧ Below w.heap.size w w' := by
  rcases h1.cases with ⟨a, c, rfl, e1⟩ | ⟨b, o, n, c, rfl, hn, hn0, hnc, hc2, hb, hr⟩
  · have hm : m = 0 := grp_nil.1 e1
    subst hm
    clear h1
    go_enter Tryz.func48, Tryz.ntmps48
    go_wp2
    go_ret
    exact ⟨rfl, Below.refl _ _⟩
  · have hfd := fd_trz m
    have hdm := grp_dig m
    have hm0 : m ≠ 0 := fun h => by rw [h, grp_zero] at hn; simp at hn; omega
    have htx : txN m = lts (grpX m) := by rw [txN, if_neg hm0]
    rw [hn] at hl
    obtain ⟨A, hA⟩ : ∃ A, grp m = A := ⟨_, rfl⟩
    rw [hA] at hn hr hfd hdm
    clear h1 hA
    obtain ⟨i0, hi, hz0, hz1, hz2⟩ := info_parts info_u8
    obtain ⟨H, hH⟩ : ∃ H, 4 * n = H := ⟨_, rfl⟩
    have eW : 4 * (n : Int) = (H : Int) := by omega
    have HBY := Lib.hid (show i0.bytes * H ≤ 281474976710656 by rw [hz2]; omega)
    have hmx : H ≤ maxLen := by unfold maxLen; omega
    have HZ := Lib.hid (show ∀ w', w'.ownsRow w.heap.size 5 1 (.slice (some ⟨w.heap.size, 0, none⟩) H H) H (madeCells (Value.int .u8 0).cells (H * 1)).toList → UBlk w' w.heap.size (List.replicate H 0) from fun w' h => by
      rw [made_bytes] at h
      exact own_ublk h)
    have HN := Lib.hid hn
    have HR := Lib.hid hr
    have HD := Lib.hid hdm
    have HX := Lib.hid (And.intro hfd htx)
    have HH := Lib.hid hH
    clear hz2 hfd hdm htx hn hr hH
    go_enter Tryz.func48, Tryz.ntmps48
    go_wp2_with (first | (refine wpList_make_full _ rfl (.tmp 12) (.tmp 12) 71 rfl w.heap.size 5 i0 (.int .u8 0) 1 Tryz.underlying71 hi hz0 hz1 .i64 .i64 _ _ H rfl rfl (by omega) (by omega) HBY.out hmx (Nat.le_refl _) ?_; intro w1 hown1 hgrow1; have hA1 := HZ.out w1 hown1; have hB1 := (Below.refl w.heap.size w).grown hgrow1 (Nat.le_refl _) (fun k e => by cases e); have HA1 := Lib.hid hA1; clear hown1 hgrow1 hA1))
    all_goals
      go_loopw [4, 18] (fun at' i wr => ∃ (k t : Nat), k ≤ n ∧ t + 4 * k = H ∧ at' = .int .i64 (t : Int) ∧ i = .int .i64 (k : Int) ∧ Hid (UBlk wr w.heap.size (List.replicate t 0 ++ wr4 (fd (A.take k)))) ∧ Below w.heap.size w wr) (fun _ i _ => n - (intOf i).toNat)
      case atStart => exact ⟨0, H, by omega, by omega, rfl, rfl, Lib.hid (by rw [List.take_zero]; simpa [fd, wr4] using HA1.out), hB1⟩
      case round =>
        clear HA1 hB1
        obtain ⟨k, t, hk, hkt, rfl, rfl, hU, hB⟩ := hrel
        by_cases h1 : k < n
        · have k1 : k < A.length := by rw [HN.out]; exact h1
          have hx : wr.cell? ⟨b, o + k, none⟩ = some (.int .i64 A[k]) := (HR.out.below hB hb) k _ (List.getElem?_eq_getElem k1)
          have hxd := HD.out _ (List.getElem_mem k1)
          have HF := Lib.hid (show fd (A.take (k + 1)) = fd (A.take k) ++ dN 4 A[k] by rw [List.take_succ_eq_append_getElem k1, fd, List.flatMap_append]; simp [fd, d4, dN])
          have x0 := hxd.1
          have x9 := hxd.2
          generalize A[k] = x at *
          generalize fd (A.take k) = F at *
          clear hxd k1
          go_wp2
          go_loopw [4, 6, 22] (fun at' gg ct wi => ∃ (j u : Nat) (g : Int), j ≤ 4 ∧ u + j = t ∧ at' = .int .i64 (u : Int) ∧ gg = .int .i64 g ∧ ct = .int .i64 (j : Int) ∧ 0 ≤ g ∧ g < 10000 ∧ Hid (∃ pre, dN 4 x = pre ++ dN (4 - j) g ∧ UBlk wi w.heap.size (List.replicate u 0 ++ wr4 (F ++ pre))) ∧ Below w.heap.size w wi) (fun _ _ ct _ => 4 - (intOf ct).toNat)
          case atStart => exact ⟨0, t, x, by omega, by omega, rfl, rfl, rfl, x0, x9, Lib.hid ⟨[], rfl, by simpa using hU.out⟩, hB⟩
          case round =>
            obtain ⟨j, u, g, hj, hut, rfl, rfl, rfl, g0, g9, hP, hBi⟩ := hrel
            by_cases h4 : j < 4
            · obtain ⟨v, rfl⟩ : ∃ v, u = v + 1 := ⟨u - 1, by omega⟩
              obtain ⟨pre, p1, p2⟩ := hP.out
              rw [List.replicate_succ', List.append_assoc, List.singleton_append] at p2
              have hlr : (List.replicate v (0 : Int)).length = v := by simp
              have hcell : wr.cell? ⟨w.heap.size, v, none⟩ = some (.int .u8 0) := p2.cell (by have := mid_get (List.replicate v 0) 0 (wr4 (F ++ pre)); rwa [hlr] at this)
              have hfree : wr.frozen? ⟨w.heap.size, v, none⟩ = false := p2.free v
              have p3 := p2.set v (48 + g % 10)
              have hset := set_mid (List.replicate v 0) 0 (48 + g % 10) (wr4 (F ++ pre))
              rw [hlr] at hset
              rw [hset] at p3
              have HP2 := Lib.hid (show ∃ pre, dN 4 x = pre ++ dN (4 - (j + 1)) (g / 10) ∧ UBlk (wr.setCell ⟨w.heap.size, v, none⟩ (.int .u8 (48 + g % 10))) w.heap.size (List.replicate v 0 ++ wr4 (F ++ pre)) from ⟨pre ++ [g % 10], by
                rw [p1, show 4 - j = (4 - (j + 1)) + 1 by omega, dN]; simp, by
                rw [← List.append_assoc, wr4_snoc]; exact p3⟩)
              have HB2 := Lib.hid (hBi.setCell (p := ⟨w.heap.size, v, none⟩) (Nat.le_refl _) (.int .u8 (48 + g % 10)))
              have y0 : 0 ≤ g % 10 := Int.emod_nonneg _ (by decide)
              have y1 : g % 10 < 10 := Int.emod_lt_of_pos _ (by decide)
              have yd : 0 ≤ g / 10 ∧ g / 10 < 10000 := by omega
              have YD := Lib.hid yd
              have ew : IntKind.u8.wrap (48 + g % 10) = 48 + g % 10 := by simp [IntKind.wrap, IntKind.bits, IntKind.signed]; omega
              clear p1 p2 p3 hset hlr hP hBi yd
              go_wp2
              exact ⟨⟨j + 1, v, g / 10, by omega, by omega, rfl, rfl, by go_num, YD.out.1, YD.out.2, HP2, HB2.out⟩, by simp [intOf]; omega⟩
            · have hj4 : j = 4 := by omega
              subst hj4
              obtain ⟨pre, p1, p2⟩ := hP.out
              have HP2 := Lib.hid (show UBlk wr w.heap.size (List.replicate u 0 ++ wr4 (fd (A.take (k + 1)))) by
                rw [HF.out, p1]; simpa [dN] using p2)
              clear p1 p2 hP
              go_wp2
              exact ⟨⟨k + 1, u, by omega, by omega, rfl, by go_num, HP2, hBi⟩, by simp [intOf]; omega⟩
        · have hk : k = n := by omega
          have ht0 : t = 0 := by omega
          subst ht0
          have e1 : A.take k = A := List.take_of_length_le (by rw [HN.out]; omega)
          have hU2 := hU.out
          rw [e1, List.replicate_zero, List.nil_append, wr4_lts fd_dig] at hU2
          have hll : (lts (fd A)).length = H := by rw [lts_len, fd_len, HN.out]; omega
          have hcv := run_convert_bytes_back (P := Tryz.prog) wr 71 9 5 ⟨w.heap.size, 0, none⟩ H (lts (fd A)) Tryz.underlying71 Tryz.underlying5 Tryz.underlying9 (fun j hj => by
            rw [Addr.add_mid]
            exact hU2.cell (by rw [List.getElem?_map, List.getElem?_eq_getElem (by omega)]; simp))
          rw [hll] at hcv
          have cT := trimLeft_any ⟨(lts (fd A)).toArray⟩ wr (by rw [show (⟨(lts (fd A)).toArray⟩ : ByteArray).size = H by rw [← hll]; simp [ByteArray.size]]; omega) (by rw [show (⟨(lts (fd A)).toArray⟩ : ByteArray).size = H by rw [← hll]; simp [ByteArray.size]]; omega)
          have er : ((⟨(lts (fd A)).toArray⟩ : ByteArray).data.toList.dropWhile (· == 48)) = txN m := by
            rw [HX.out.2, ← HX.out.1, ← lts_trz fd_dig]
          rw [er] at cT
          generalize (⟨(lts (fd A)).toArray⟩ : ByteArray) = S at *
          clear hU2 hU e1 hll er
          go_wp2_with (go_at_call 64; (with_reducible refine cT.mono ?_); rintro e w' ⟨rfl, rfl⟩)
          go_ret
          exact ⟨rfl, hB⟩
end Go.Proofs.YtbdiofifjckceaaGreatDoor
