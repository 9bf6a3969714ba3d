/- The walk of the laws' heads. -/
import Derived.Test.YtdjdoepnljdlcaaDoorWf
namespace Go.Proofs.YtdjdoepnljdlcaaDoor
open Go.RowKit

/-- a row of 32 zero bytes -/
def Z32 : Obj := .cells (madeCells (Value.int .u8 0).cells 32) 5
theorem made32 : madeCells (Value.int .u8 0).cells 32 = Array.replicate 32 (.int .u8 0) :=
  Array.toList_inj.1 (by rw [show (Value.int .u8 0).cells = #[.int .u8 0] from rfl, toList_madeCells_one]; rfl)
theorem mk32 (W : World) : (Instr.makeSlice 43 (.int .i64 32) (.int .i64 32)).run Tryd.prog W = .ok (.slice (some ⟨W.heap.size, 0, none⟩) 32 32) (W.alloc Z32) := by
  obtain ⟨i5, hi, hz, hsz, hby⟩ := info_parts info5'
  have h := run_makeSlice (P := Tryd.prog) (w := W) 43 5 i5 _ Tryd.underlying43 hi hz .i64 .i64 32 32 (by decide) (by decide) (by rw [hsz]; decide) (by rw [hby]; decide) (by decide)
  rw [hsz] at h
  exact h
theorem z32_eq : z32 = ⟨(List.replicate 32 (0 : UInt8)).toArray⟩ := by rfl
theorem cv32 (W : World) : (convert 43 9 (.slice (some ⟨W.heap.size, 0, none⟩) 32 32)).run Tryd.prog (W.alloc Z32) = .ok (.string z32) (W.alloc Z32) := by
  rw [z32_eq]
  refine run_convert_bytes_back (P := Tryd.prog) (W.alloc Z32) 43 9 5 ⟨W.heap.size, 0, none⟩ 32 (List.replicate 32 (0 : UInt8)) Tryd.underlying43 Tryd.underlying5 Tryd.underlying9 (fun j hj => ?_)
  rw [Addr.add_mid, World.cell?, World.alloc_heap_new]
  rw [List.length_replicate] at hj
  simp only [Z32, made32, List.getElem_replicate]
  simp [hj]

set_option maxRecDepth 100000 in
set_option maxHeartbeats 4000000 in
theorem heads_any (l : List ByteArray) (v : Value) (w : World) (hn : l.length ≤ 900) (hz : ∀ x ∈ l, x.size ≤ 60) (hs : Sl w v l) (ht : Tab w) (hw : 0 < w.heap.size) :
    Calls Tryd.prog 36 #[v] w fun e w' => ∃ u, e = .returned (.tuple #[u, .string (hr l.reverse)]) ∧ w'.ownsRow w.heap.size 9 1 u l.length (scells (ss l.reverse)) ∧ Below w.heap.size w w' := by
  have hv : ∃ ad c, v = .slice ad l.length c ∧ (l.length = 0 ∨ ∃ b o, ad = some ⟨b, o, none⟩ ∧ b < w.heap.size ∧ StrRow w b o l ∧ l.length ≤ c) := by
    rcases hs with ⟨rfl, rfl⟩ | ⟨b1, o1, c1, rfl, l1, d1, m1, r1⟩
    · exact ⟨none, 0, rfl, .inl rfl⟩
    · exact ⟨_, _, rfl, .inr ⟨_, _, rfl, m1, r1, l1⟩⟩
  obtain ⟨ad, c, rfl, hv⟩ := hv
  obtain ⟨i9, hi9, hzr9, hsz9, hby9⟩ := info_parts info9'
  obtain ⟨n, hn'⟩ : ∃ n, l.length = n := ⟨_, rfl⟩
  have HN := Lib.hid hn'
  rw [hn'] at hn hv ⊢
  have HV := Lib.hid hv
  have HZ := Lib.hid hz
  have mk := mk32
  have cv := cv32
  have HT := Lib.hid ht
  clear hs hn' hv hz ht
  go_enter Tryd.func36, Tryd.ntmps36
  go_wp2
  have HB0 := (Below.refl w.heap.size w).alloc (Nat.le_refl _) Z32
  generalize w.alloc Z32 = w0 at *
  go_loopw [4, 5, 6] (fun h out i wr => ∃ (k : Nat) (x : ByteArray), k ≤ n ∧ i = .int .i64 (k : Int) ∧ h = .string x ∧ Hid (x = hr (l.take k).reverse) ∧ Hid (wr.ownsRow w.heap.size 9 1 out k (scells (ss (l.take k).reverse))) ∧ Below w.heap.size w wr) (fun _ _ i _ => n - (intOf i).toNat)
  case atStart => exact ⟨0, _, by omega, rfl, rfl, Lib.hid rfl, Lib.hid (World.ownsRow_nil _ _ _ _), HB0⟩
  case round =>
    clear HB0
    obtain ⟨k, h, hk, rfl, rfl, hh, HO, HB⟩ := hrel
    by_cases h1 : k < n
    · have k1 : k < l.length := by rw [HN.out]; exact h1
      have hx : (∀ W, Below w.heap.size w W → W.cell? (⟨(ad.map (·.block)).getD 0, (ad.map (·.off)).getD 0 + k, none⟩ : Addr) = some (.string l[k])) ∧ ad = some ⟨(ad.map (·.block)).getD 0, (ad.map (·.off)).getD 0, none⟩ ∧ (ad.map (·.block)).getD 0 < w.heap.size ∧ n ≤ c := by
        rcases HV.out with h0 | ⟨b, o, rfl, hb, hrr, hc⟩
        · omega
        · exact ⟨fun W hW => (hrr.below hW hb) k _ (List.getElem?_eq_getElem k1), rfl, hb, hc⟩
      have zx := HZ.out _ (List.getElem_mem k1)
      have HTk := Lib.hid (show (l.take (k + 1)).reverse = l[k] :: (l.take k).reverse by rw [List.take_succ_eq_append_getElem k1, List.reverse_append]; rfl)
      obtain ⟨x, hx'⟩ : ∃ x, l[k] = x := ⟨_, rfl⟩
      rw [hx'] at hx zx HTk
      clear hx' k1
      obtain ⟨b, hb'⟩ : ∃ b, (ad.map (·.block)).getD 0 = b := ⟨_, rfl⟩
      obtain ⟨o, ho'⟩ : ∃ o, (ad.map (·.off)).getD 0 = o := ⟨_, rfl⟩
      rw [hb', ho'] at hx
      obtain ⟨hcell0, rfl, hb, hnc⟩ := hx
      have hcell := hcell0 _ HB
      clear hb' ho'
      have hh32 : h.size = 32 := by rw [hh.out]; exact hr_size _
      have e1 : ∀ W, (Op.stringOp .add ⟨#[2]⟩ h).run Tryd.prog W = .ok (.string (⟨#[2]⟩ ++ h)) W := fun W => run_string_add_sum (w := W) _ _ (by show 1 + h.size ≤ _; omega)
      have e2 : ∀ W, (Op.stringOp .add (⟨#[2]⟩ ++ h) x).run Tryd.prog W = .ok (.string (⟨#[2]⟩ ++ h ++ x)) W := fun W => run_string_add_sum (w := W) _ _ (by rw [ByteArray.size_append]; show 1 + h.size + x.size ≤ _; omega)
      have cN : ∀ W, Below w.heap.size w W → Calls Tryd.prog 19 #[.string h, .string x] W fun e w' => e = .returned (.string (chainB h x)) ∧ Below w.heap.size w w' ∧ ∀ u k xs, W.ownsRow w.heap.size 9 1 u k xs → w'.ownsRow w.heap.size 9 1 u k xs := fun W hW =>
        (Chain_any h x (by omega) (by omega) W (HT.out.below hW hw) (Nat.lt_of_lt_of_le hw hW.size)).mono fun _ _ g => ⟨g.1, hW.trans (g.2.mono hW.size), fun u k xs hu => own_below hu g.2⟩
      have HR := Lib.hid (show chainB h x = hr (l.take (k + 1)).reverse by rw [HTk.out, hr, hh.out])
      have HS := Lib.hid (show scells (ss (l.take (k + 1)).reverse) = [.string (⟨#[2]⟩ ++ h ++ x)] ++ scells (ss (l.take k).reverse) by rw [HTk.out, ss, ← hh.out]; simp [scells])
      have HH1 := Lib.hid (own_one (W := wr) (base := w.heap.size) (⟨#[2]⟩ ++ h ++ x) HB.size)
      have HA := HB.alloc HB.size (.cells #[.string (⟨#[2]⟩ ++ h ++ x)] 9)
      have HL := Lib.hid (show (scells (ss (l.take k).reverse)).length = k * 1 by rw [scells_len, ss_len, List.length_reverse, List.length_take, HN.out]; omega)
      have HS1 := Lib.hid (scells_one (ss (l.take k).reverse))
      generalize hX : (⟨#[2]⟩ : ByteArray) ++ h ++ x = X at *
      generalize chainB h x = R at *
      have hko : (k : Int).toNat = k := Int.toNat_natCast k
      obtain ⟨q, cp, rfl⟩ := own_q HO.out
      clear hX hko
      by_cases hk0 : k = 0
      · subst hk0
        simp only [Nat.add_zero] at hcell hcell0
        have HS0 := Lib.hid (show scells (ss (l.take 0).reverse) = [] from rfl)
        go_wp2_with (first | (at_builtin; (refine wpList_append_zero rfl (.tmp 22) (.tmp 23) rfl wr.heap.size 1 1 rfl q cp rfl (by omega) ?_); have hc2 := hcell0 _ HA) | (go_at_call 19; (with_reducible refine (cN _ HA).mono ?_); rintro e w' ⟨rfl, HB3, hkk⟩; have HK := Lib.hid hkk; clear hkk))
        go_roundw
        case rel => exact ⟨0 + 1, _, by omega, by go_num, rfl, HR, Lib.hid (by rw [HS.out, HS0.out]; exact HK.out _ _ _ HH1.out), HB3⟩
        case measure => simp [intOf]; omega
      · obtain ⟨g, rfl⟩ : ∃ g, q = some ⟨g, 0, none⟩ := by
          rcases HO.out.2 with ⟨_, h3⟩ | ⟨g', cap', cur', h'', _⟩
          · exact absurd h3 hk0
          · simp only [Value.slice.injEq] at h''; exact ⟨g', h''.1⟩
        have HH2 := Lib.hid (own_news (HO.out.alloc (.cells #[.string X] 9)))
        have hk1 : 0 < k := by omega
        go_wp2_with (first | (at_builtin; (refine wpList_append_lies _ rfl (.tmp 22) (.tmp 23) 26 rfl w.heap.size 9 i9 (.string ⟨#[]⟩) 1 16 Tryd.underlying26 hi9 hzr9 hsz9 hby9 rfl (by decide) _ 1 [.string X] rfl HH1.out ⟨g, 0, none⟩ k cp (scells (ss (l.take k).reverse)) rfl HL.out HH2.out HS1.out (by omega) (by unfold maxLen; omega) (by omega) HA.size _ rfl ?_; intro g2 cap2 w2 hown hgrow _ _; have HB2 := HA.grown hgrow HA.size fun k e => (HH1.out.lt k e).1; have HO2 := Lib.hid hown; have hc2 := hcell0 _ HB2; clear hown hgrow)) | (go_at_call 19; (with_reducible refine (cN _ HB2).mono ?_); rintro e w' ⟨rfl, HB3, hkk⟩; have HK := Lib.hid hkk; clear hkk))
        go_roundw
        case rel => exact ⟨k + 1, _, by omega, by go_num, rfl, HR, Lib.hid (by rw [HS.out, show k + 1 = 1 + k from Nat.add_comm k 1]; exact HK.out _ _ _ HO2.out), HB3⟩
        case measure => simp [intOf]; omega
    · have hk : k = n := by omega
      subst hk
      have HT2 := Lib.hid (show (l.take k) = l from List.take_of_length_le (by rw [HN.out]; exact Nat.le_refl _))
      go_wp2
      go_ret2
      refine ⟨_, by rw [hh.out, HT2.out]; rfl, ?_, HB⟩
      have := HO.out
      rw [HT2.out] at this
      exact this
end Go.Proofs.YtdjdoepnljdlcaaDoor
