/- The walk of the law WireSumBurst. -/
import Derived.Test.YtmhpcbaoicboaaaDoorLc
import Derived.Test.YtmhpcbaoicboaaaDoorLd
import Derived.Lib.ConvBytes
import Derived.BigRegion
namespace Go.Proofs.YtmhpcbaoicboaaaDoor
open Go.RowKit

/-- the cells of block B from 0 on hold the bytes of l -/
def RowB (W : World) (B : Nat) (l : List UInt8) : Prop := ∀ j, j < l.length → W.cell? ⟨B, j, none⟩ = some (.int .u8 ((l[j]?.getD 0).toNat : Int)) ∧ W.frozen? ⟨B, j, none⟩ = false

theorem RowB.set {W : World} {B : Nat} {l : List UInt8} (h : RowB W B l) (k : Nat) (v : UInt8) (hk : k < l.length) : RowB (W.setCell ⟨B, k, none⟩ (.int .u8 (v.toNat : Int))) B (l.set k v) := fun j hj => by
  rw [List.length_set] at hj
  refine ⟨?_, by rw [World.frozen?_setCell]; exact (h j hj).2⟩
  by_cases e : j = k
  · subst e
    rw [World.cell?_setCell_same' _ _ _ (by rw [(h j hj).1]; rfl)]
    simp [hj]
  · have n : (⟨B, k, none⟩ : Addr) ≠ ⟨B, j, none⟩ := fun h' => e (congrArg Addr.off h').symm
    rw [World.cell?_setCell_other _ _ _ _ n, (h j hj).1, List.getElem?_set_ne (fun h' => e h'.symm)]

theorem bytes_row (W : World) (p : ByteArray) : RowB (Lib.bytesWorld W 5 p) W.heap.size p.data.toList := fun j hj => by
  rw [size_list] at hj
  refine ⟨?_, ?_⟩
  · have h := Lib.bytesWorld_cell W 5 p j hj
    rw [h, List.getD_eq_getElem?_getD]
  · rw [World.frozen?, Lib.bytesWorld_at_new]
    have hs : p.size ≤ (Lib.bytesCells W 5 p).size := by rw [Lib.bytesCells, Array.size_append, Array.size_map]; exact Nat.le_add_right _ _
    simp; omega

theorem bytes_below (W : World) (p : ByteArray) : Below W.heap.size W (Lib.bytesWorld W 5 p) :=
  ⟨rfl, rfl, rfl, by rw [Lib.bytesWorld_size]; omega, fun k hk => Lib.bytesWorld_at_old W 5 p k hk⟩

theorem bit_yes (q : Nat) (h : q % 2 = 1) : ((q : Int).tmod 2 == 1) = true := by
  rw [Int.tmod_eq_emod_of_nonneg (by omega), beq_iff_eq]; omega
theorem bit_no (q : Nat) (h : ¬ q % 2 = 1) : ((q : Int).tmod 2 == 1) = false := by
  rw [Int.tmod_eq_emod_of_nonneg (by omega), beq_eq_false_iff_ne, ne_eq]; omega

theorem mul_xor (f a b : Nat) : 2 ^ f * (a ^^^ b) = 2 ^ f * a ^^^ 2 ^ f * b := by
  have h := Nat.shiftLeft_xor_distrib (a := a) (b := b) (i := f)
  simp only [Nat.shiftLeft_eq] at h
  rw [Nat.mul_comm, h, Nat.mul_comm a, Nat.mul_comm b]

theorem low_yes (x i : Nat) (h : x / 2 ^ i % 2 = 1) : x % 2 ^ (i + 1) = x % 2 ^ i ^^^ 2 ^ i := by
  have h2 : 0 < 2 ^ i := Nat.pow_pos (by omega)
  rw [Nat.mod_pow_succ, h, Nat.add_comm, crcs.add_xor i 1 (x % 2 ^ i) (Nat.mod_lt _ h2), Nat.mul_one, Nat.xor_comm]
theorem low_no (x i : Nat) (h : ¬ x / 2 ^ i % 2 = 1) : x % 2 ^ (i + 1) = x % 2 ^ i := by
  have e : x / 2 ^ i % 2 = 0 := by omega
  rw [Nat.mod_pow_succ, e, Nat.mul_zero, Nat.add_zero]
theorem low_ne (x i : Nat) (h : x / 2 ^ i % 2 = 1) : x % 2 ^ (i + 1) ≠ 0 := by
  have h2 : 0 < 2 ^ i := Nat.pow_pos (by omega)
  rw [Nat.mod_pow_succ, h]; omega
theorem flip_le (a f x i : Nat) (h : x / 2 ^ i % 2 = 1) : a ^^^ 2 ^ f * (x % 2 ^ i) ^^^ 2 ^ (f + i) = a ^^^ 2 ^ f * (x % 2 ^ (i + 1)) := by
  rw [low_yes x i h, mul_xor, Nat.pow_add, Nat.xor_assoc]

theorem le_inj : ∀ (l m : List UInt8), l.length = m.length → crcs.le l = crcs.le m → l = m
  | [], [], _, _ => rfl
  | a :: l, b :: m, hl, h => by
    have ha := a.toNat_lt
    have hb := b.toNat_lt
    simp only [crcs.le] at h
    have e1 : a = b := UInt8.toNat_inj.1 (by omega)
    have e2 := le_inj l m (by simpa using hl) (by omega)
    rw [e1, e2]

theorem ck_ne (l m : List UInt8) (e f : Nat) (hl : m.length = l.length) (he : e < 4294967296) (h0 : e ≠ 0) (hf : f ≤ 8 * l.length) (h : crcs.le m = crcs.le l ^^^ 2 ^ f * e) : ck m ≠ ck l := by
  intro hc
  refine crcs.crc_burst l m 4294967295 e f (by decide) hl he h0 hf h ?_
  rw [← crc_same, ← crc_same]
  have h2 : 4294967295 ^^^ ck m = 4294967295 ^^^ ck l := by rw [hc]
  simpa only [ck, ← Nat.xor_assoc, Nat.xor_self, Nat.zero_xor] using h2

/-- the byte whose bit is changed -/
def nb (v : UInt8) (k : Nat) : UInt8 := UInt8.ofNat (v.toNat ^^^ 2 ^ (k % 8))
theorem nb_nat (v : UInt8) (k : Nat) : (nb v k).toNat = v.toNat ^^^ 2 ^ (k % 8) := by
  rw [nb, UInt8.toNat_ofNat']
  exact Nat.mod_eq_of_lt (Nat.xor_lt_two_pow (n := 8) v.toNat_lt (Nat.pow_lt_pow_right (by omega) (by omega)))
theorem nb_bits (v : UInt8) (k : Nat) : bits .xor .u8 (v.toNat : Int) ((2 : Int) ^ (k % 8) % 256) = (((nb v k).toNat : Nat) : Int) := by
  have h1 : 2 ^ (k % 8) < 256 := Nat.pow_lt_pow_right (m := k % 8) (n := 8) (by omega) (by omega)
  have e : (2 : Int) ^ (k % 8) % 256 = ((2 ^ (k % 8) : Nat) : Int) := by
    have e2 : (2 : Int) ^ (k % 8) = ((2 ^ (k % 8) : Nat) : Int) := by simp
    rw [e2]; exact Int.emod_eq_of_lt (Int.natCast_nonneg _) (Int.ofNat_lt.2 h1)
  rw [e, u8_xor_nat _ _ v.toNat_lt h1, nb_nat]

set_option maxRecDepth 100000 in
set_option maxHeartbeats 2000000 in
theorem burst_walk (s : ByteArray) (k : Int) (x : Nat) (hs : s.size ≤ maxLen) (hk0 : -9223372036854775808 ≤ k) (hk1 : k ≤ 9223372036854775807) (hx : x < 4294967296) (hx0 : x ≠ 0)
    (p : ByteArray) (hp : s.extract 0 (min (s.size : Int) 300).toNat = p) (hp2 : p.size ≤ 300) (hp0 : p.size ≠ 0) (w : World) (hT : Tab w) :
    Calls Tryd.prog 8 #[.string s, .int .i64 k, .int .u32 x] w fun e w' => e = .returned (.bool true) ∧ Below w.heap.size w w' := by
  unfold maxLen at hs
  have HB := Below.refl w.heap.size w
  have HT := Lib.hid hT
  clear hT
  have hconv := fun W => Lib.run_convert_string_bytes (P := Tryd.prog) W 9 38 5 p Tryd.underlying9 Tryd.underlying38 Tryd.underlying5
  have z0 : ((p.size : Int) == 0) = false := by simp only [beq_eq_false_iff_ne, ne_eq]; omega
  have z1 : ((x : Int) == 0) = false := by simp only [beq_eq_false_iff_ne, ne_eq]; omega
  obtain ⟨y0, y1⟩ := pk_range k (8 * (p.size : Int)) (by omega)
  have hpick := fun w => pick_any k (8 * (p.size : Int)) w hk0 hk1 (by omega) (by omega)
  obtain ⟨f, hf⟩ : ∃ f : Nat, pk k (8 * (p.size : Int)) = f := ⟨(pk k (8 * (p.size : Int))).toNat, by omega⟩
  rw [hf] at y1 hpick
  have hf8 : f < 8 * p.size := by omega
  clear y0 y1 hf
  go_enter Tryd.func8, Tryd.ntmps8
  go_wp2_with (first
    | (go_at_call 10; (with_reducible refine (sane_any _ HT.out).mono ?_); rintro e w' ⟨rfl, hb'⟩; replace HB := HB.trans (hb'.mono HB.size); replace HT := Lib.hid (HT.out.below hb'); clear hb')
    | (go_at_call 14; (with_reducible refine (hpick _).mono ?_); rintro e w' ⟨rfl, rfl⟩))
  have hrow := bytes_row w' p
  have hbb := bytes_below w' p
  have hB2 := HB.trans (hbb.mono HB.size)
  have hT2 := HT.out.below hbb
  have hle : w.heap.size ≤ w'.heap.size := HB.size
  have hpos : 0 < w'.heap.size := HT.out.pos
  generalize grownCap w' p.size 0 5 = cap at *
  obtain ⟨B, hB⟩ : ∃ B, w'.heap.size = B := ⟨_, rfl⟩
  obtain ⟨W2, hW2⟩ : ∃ W2, Lib.bytesWorld w' 5 p = W2 := ⟨_, rfl⟩
  rw [hB] at hrow hle hpos ⊢
  rw [hW2] at hrow hB2 hT2 ⊢
  clear hB hW2 hbb HB HT hconv hpick
  go_loopw [10, 11] (fun c i wr => ∃ (i' : Nat) (l : List UInt8) (c' : Bool), i' ≤ 32 ∧ f + i' ≤ 8 * p.size ∧ i = .int .i64 i' ∧ c = .bool c' ∧ (c' = true ↔ x % 2 ^ i' ≠ 0) ∧ l.length = p.size ∧ crcs.le l = crcs.le p.data.toList ^^^ 2 ^ f * (x % 2 ^ i') ∧ RowB wr B l ∧ Below w.heap.size w wr ∧ Tab wr) (fun _ i _ => 32 - (intOf i).toNat)
  case atStart => exact ⟨0, p.data.toList, false, by omega, by omega, rfl, rfl, by simp [Nat.mod_one], size_list p, by simp [Nat.mod_one], hrow, hB2, hT2⟩
  case round =>
    obtain ⟨i, l, c, hi, hfi, rfl, rfl, hc, hll, hle2, hr, hBr, hTr⟩ := hrel
    clear hrow hB2 hT2
    have KC := Lib.hid hc
    have KL := Lib.hid hle2
    have KR := Lib.hid hr
    have KB := Lib.hid hBr
    have KT := Lib.hid hTr
    have KN := Lib.hid hll
    clear hc hle2 hr hBr hTr hll
    by_cases hi2 : i < 32
    · by_cases hf2 : f + i < 8 * p.size
      · have hdiv : ((x : Int) / 2 ^ i) = ((x / 2 ^ i : Nat) : Int) := by rw [Int.natCast_ediv]; simp
        by_cases hbit : x / 2 ^ i % 2 = 1
        · have hb1 : (((x : Int) / 2 ^ i).tmod 2 == 1) = true := by rw [hdiv]; exact bit_yes _ hbit
          clear hdiv
          have hk8 : (f + i) / 8 < p.size := by omega
          obtain ⟨hc1, hf1⟩ := KR.out ((f + i) / 8) (by rw [KN.out]; exact hk8)
          have hv := nb_bits (l[(f + i) / 8]?.getD 0) (f + i)
          have hb2 : Below B wr (wr.setCell ⟨B, (f + i) / 8, none⟩ (.int .u8 (((nb (l[(f + i) / 8]?.getD 0) (f + i)).toNat : Nat) : Int))) := (Below.refl B wr).setCell (p := ⟨B, (f + i) / 8, none⟩) (Nat.le_refl _) _
          have HBIT := Lib.hid hbit
          clear hbit
          go_wp2
          go_region
          go_wp2
          go_roundw
          case rel => exact ⟨i + 1, l.set ((f + i) / 8) (nb (l[(f + i) / 8]?.getD 0) (f + i)), true, by omega, by omega, by go_num, rfl, ⟨fun _ => low_ne x i HBIT.out, fun _ => rfl⟩, by rw [List.length_set]; exact KN.out, by rw [crcs.le_set l (f + i) _ (by rw [KN.out]; exact hk8) (nb_nat _ _), KL.out]; exact flip_le _ f x i HBIT.out, KR.out.set _ _ (by rw [KN.out]; exact hk8), (KB.out.trans (hb2.mono hle)).drew, (KT.out.low hb2 hpos).low (Below.refl B _).drew hpos⟩
          case measure => simp [intOf]; omega
        · have hb1 : (((x : Int) / 2 ^ i).tmod 2 == 1) = false := by rw [hdiv]; exact bit_no _ hbit
          clear hdiv
          have HBIT := Lib.hid hbit
          clear hbit
          go_wp2
          go_roundw
          case rel => exact ⟨i + 1, l, c, by omega, by omega, by go_num, rfl, by rw [low_no x i HBIT.out]; exact KC.out, KN.out, by rw [low_no x i HBIT.out]; exact KL.out, KR.out, KB.out, KT.out⟩
          case measure => simp [intOf]; omega
      · have KE : x % 2 ^ i < 4294967296 := Nat.lt_of_le_of_lt (Nat.mod_le _ _) hx
        have hcv : (convert 38 9 (.slice (some ⟨B, 0, none⟩) p.size cap)).run Tryd.prog wr = .ok (.string ⟨l.toArray⟩) wr := by
          have h := run_convert_bytes_back (P := Tryd.prog) wr 38 9 5 ⟨B, 0, none⟩ cap l Tryd.underlying38 Tryd.underlying5 Tryd.underlying9 (fun j hj => by
            have ea : (⟨B, 0, none⟩ : Addr).add j = ⟨B, j, none⟩ := by unfold Addr.add; split <;> simp_all
            rw [ea, (KR.out j hj).1, List.getElem?_eq_getElem hj]; rfl)
          rw [KN.out] at h
          exact h
        have hcw : ∀ n, (convert 38 9 (.slice (some ⟨B, 0, none⟩) p.size cap)).run Tryd.prog (wr.drewN n) = .ok (.string ⟨l.toArray⟩) (wr.drewN n) := fun n => by
          have h := run_convert_bytes_back (P := Tryd.prog) (wr.drewN n) 38 9 5 ⟨B, 0, none⟩ cap l Tryd.underlying38 Tryd.underlying5 Tryd.underlying9 (fun j hj => by
            have ea : (⟨B, 0, none⟩ : Addr).add j = ⟨B, j, none⟩ := by unfold Addr.add; split <;> simp_all
            rw [ea]
            have hc := (KR.out j hj).1
            rw [List.getElem?_eq_getElem hj] at hc
            exact hc)
          rw [KN.out] at h
          exact h
        have hq : ∀ (t : ByteArray) (v : Nat), t.size ≤ 300 → ck t.data.toList = v → ∀ n, Calls Tryd.prog 21 #[.string t] (wr.drewN n) fun e w'' => e = .returned (.int .i64 v) ∧ w'' = wr.drewN n := fun t v ht hv n => by
          have h := sum_any t (maxLen_ge _ (by omega)) (wr.drewN n) (fun i hi => KT.out i hi)
          rw [hv] at h
          exact h.mono fun e w'' ⟨he, hw⟩ => ⟨he, hw.symm⟩
        have hse : s.extract 0 p.size = p := by
          have e1 : p.size = (min (s.size : Int) 300).toNat := by rw [← hp, ByteArray.size_extract]; omega
          rw [e1]; exact hp
        have hsz : p.size ≤ s.size := by rw [← hp, ByteArray.size_extract]; omega
        have qx := hq ⟨l.toArray⟩ (ck l) (by show l.toArray.size ≤ 300; rw [List.size_toArray, KN.out]; omega) rfl
        have qa := hq p (ck p.data.toList) (by omega) rfl
        by_cases hE : x % 2 ^ i = 0
        · have hc0 : c = false := by
            rcases c with _ | _
            · rfl
            · exact absurd hE (KC.out.1 rfl)
          have hl0 : l = p.data.toList := le_inj _ _ (by rw [KN.out, size_list]) (by rw [KL.out, hE, Nat.mul_zero, Nat.xor_zero])
          have hck : ck l = ck p.data.toList := by rw [hl0]
          rw [hck] at qx
          clear hck
          subst hc0
          clear hq hE hp hl0
          generalize ck p.data.toList = va at *
          generalize (⟨l.toArray⟩ : ByteArray) = sx at *
          go_wp2
          go_quiet ((first | (go_at_call 21; with_reducible exact Calls.quiet_of_same (qx _)) | (go_at_call 21; with_reducible exact Calls.quiet_of_same (qa _))))
          go_wp2
          go_ret
          exact ⟨rfl, KB.out.trans ⟨rfl, rfl, rfl, Nat.le_refl _, fun _ _ => rfl⟩⟩
        · have hc0 : c = true := KC.out.2 hE
          have hne : ck l ≠ ck p.data.toList := ck_ne p.data.toList l (x % 2 ^ i) f (by rw [KN.out, size_list]) KE hE (by rw [size_list]; omega) KL.out
          have hnn : (((ck l : Nat) : Int) != ((ck p.data.toList : Nat) : Int)) = true := by simp only [bne_iff_ne, ne_eq]; omega
          subst hc0
          clear hq hE hp hne
          generalize ck p.data.toList = va at *
          generalize ck l = vx at *
          generalize (⟨l.toArray⟩ : ByteArray) = sx at *
          go_wp2
          go_quiet ((first | (go_at_call 21; with_reducible exact Calls.quiet_of_same (qx _)) | (go_at_call 21; with_reducible exact Calls.quiet_of_same (qa _))))
          go_wp2
          go_ret
          exact ⟨rfl, KB.out.trans ⟨rfl, rfl, rfl, Nat.le_refl _, fun _ _ => rfl⟩⟩
    · have KE : x % 2 ^ i < 4294967296 := Nat.lt_of_le_of_lt (Nat.mod_le _ _) hx
      have hcv : (convert 38 9 (.slice (some ⟨B, 0, none⟩) p.size cap)).run Tryd.prog wr = .ok (.string ⟨l.toArray⟩) wr := by
        have h := run_convert_bytes_back (P := Tryd.prog) wr 38 9 5 ⟨B, 0, none⟩ cap l Tryd.underlying38 Tryd.underlying5 Tryd.underlying9 (fun j hj => by
          have ea : (⟨B, 0, none⟩ : Addr).add j = ⟨B, j, none⟩ := by unfold Addr.add; split <;> simp_all
          rw [ea, (KR.out j hj).1, List.getElem?_eq_getElem hj]; rfl)
        rw [KN.out] at h
        exact h
      have hcw : ∀ n, (convert 38 9 (.slice (some ⟨B, 0, none⟩) p.size cap)).run Tryd.prog (wr.drewN n) = .ok (.string ⟨l.toArray⟩) (wr.drewN n) := fun n => by
        have h := run_convert_bytes_back (P := Tryd.prog) (wr.drewN n) 38 9 5 ⟨B, 0, none⟩ cap l Tryd.underlying38 Tryd.underlying5 Tryd.underlying9 (fun j hj => by
          have ea : (⟨B, 0, none⟩ : Addr).add j = ⟨B, j, none⟩ := by unfold Addr.add; split <;> simp_all
          rw [ea]
          have hc := (KR.out j hj).1
          rw [List.getElem?_eq_getElem hj] at hc
          exact hc)
        rw [KN.out] at h
        exact h
      have hq : ∀ (t : ByteArray) (v : Nat), t.size ≤ 300 → ck t.data.toList = v → ∀ n, Calls Tryd.prog 21 #[.string t] (wr.drewN n) fun e w'' => e = .returned (.int .i64 v) ∧ w'' = wr.drewN n := fun t v ht hv n => by
        have h := sum_any t (maxLen_ge _ (by omega)) (wr.drewN n) (fun i hi => KT.out i hi)
        rw [hv] at h
        exact h.mono fun e w'' ⟨he, hw⟩ => ⟨he, hw.symm⟩
      have hse : s.extract 0 p.size = p := by
        have e1 : p.size = (min (s.size : Int) 300).toNat := by rw [← hp, ByteArray.size_extract]; omega
        rw [e1]; exact hp
      have hsz : p.size ≤ s.size := by rw [← hp, ByteArray.size_extract]; omega
      have qx := hq ⟨l.toArray⟩ (ck l) (by show l.toArray.size ≤ 300; rw [List.size_toArray, KN.out]; omega) rfl
      have qa := hq p (ck p.data.toList) (by omega) rfl
      by_cases hE : x % 2 ^ i = 0
      · have hc0 : c = false := by
          rcases c with _ | _
          · rfl
          · exact absurd hE (KC.out.1 rfl)
        have hl0 : l = p.data.toList := le_inj _ _ (by rw [KN.out, size_list]) (by rw [KL.out, hE, Nat.mul_zero, Nat.xor_zero])
        have hck : ck l = ck p.data.toList := by rw [hl0]
        rw [hck] at qx
        clear hck
        subst hc0
        clear hq hE hp hl0
        generalize ck p.data.toList = va at *
        generalize (⟨l.toArray⟩ : ByteArray) = sx at *
        go_wp2
        go_quiet ((first | (go_at_call 21; with_reducible exact Calls.quiet_of_same (qx _)) | (go_at_call 21; with_reducible exact Calls.quiet_of_same (qa _))))
        go_wp2
        go_ret
        exact ⟨rfl, KB.out.trans ⟨rfl, rfl, rfl, Nat.le_refl _, fun _ _ => rfl⟩⟩
      · have hc0 : c = true := KC.out.2 hE
        have hne : ck l ≠ ck p.data.toList := ck_ne p.data.toList l (x % 2 ^ i) f (by rw [KN.out, size_list]) KE hE (by rw [size_list]; omega) KL.out
        have hnn : (((ck l : Nat) : Int) != ((ck p.data.toList : Nat) : Int)) = true := by simp only [bne_iff_ne, ne_eq]; omega
        subst hc0
        clear hq hE hp hne
        generalize ck p.data.toList = va at *
        generalize ck l = vx at *
        generalize (⟨l.toArray⟩ : ByteArray) = sx at *
        go_wp2
        go_quiet ((first | (go_at_call 21; with_reducible exact Calls.quiet_of_same (qx _)) | (go_at_call 21; with_reducible exact Calls.quiet_of_same (qa _))))
        go_wp2
        go_ret
        exact ⟨rfl, KB.out.trans ⟨rfl, rfl, rfl, Nat.le_refl _, fun _ _ => rfl⟩⟩

set_option maxRecDepth 100000 in
set_option maxHeartbeats 1000000 in
theorem burst_none (s : ByteArray) (k : Int) (x : Nat) (hs : s.size ≤ maxLen)
    (p : ByteArray) (hp : s.extract 0 (min (s.size : Int) 300).toNat = p) (hp2 : p.size ≤ 300) (h : p.size = 0 ∨ x = 0) (w : World) (hT : Tab w) :
    Calls Tryd.prog 8 #[.string s, .int .i64 k, .int .u32 x] w fun e w' => e = .returned (.bool true) ∧ Below w.heap.size w w' := by
  unfold maxLen at hs
  have HB := Below.refl w.heap.size w
  have HT := Lib.hid hT
  clear hT
  have hconv := fun W => Lib.run_convert_string_bytes (P := Tryd.prog) W 9 38 5 p Tryd.underlying9 Tryd.underlying38 Tryd.underlying5
  by_cases h0 : p.size = 0
  · have z0 : ((p.size : Int) == 0) = true := by simp only [beq_iff_eq]; omega
    clear h h0
    go_enter Tryd.func8, Tryd.ntmps8
    go_wp2_with (go_at_call 10; (with_reducible refine (sane_any _ HT.out).mono ?_); rintro e w' ⟨rfl, hb'⟩; replace HB := HB.trans (hb'.mono HB.size); clear hb')
    go_ret
    exact ⟨rfl, HB.trans ((bytes_below _ _).mono HB.size)⟩
  · have z0 : ((p.size : Int) == 0) = false := by simp only [beq_eq_false_iff_ne, ne_eq]; omega
    obtain rfl : x = 0 := by omega
    clear h h0
    go_enter Tryd.func8, Tryd.ntmps8
    go_wp2_with (go_at_call 10; (with_reducible refine (sane_any _ HT.out).mono ?_); rintro e w' ⟨rfl, hb'⟩; replace HB := HB.trans (hb'.mono HB.size); clear hb')
    go_ret
    exact ⟨rfl, HB.trans ((bytes_below _ _).mono HB.size)⟩

theorem burst_all (s : ByteArray) (k x : Int) (hs : s.size ≤ maxLen) (hk0 : -9223372036854775808 ≤ k) (hk1 : k ≤ 9223372036854775807) (hx : 0 ≤ x ∧ x ≤ 4294967295) (w : World) (hT : Tab w) :
    Calls Tryd.prog 8 #[.string s, .int .i64 k, .int .u32 x] w fun e w' => e = .returned (.bool true) ∧ Below w.heap.size w w' := by
  obtain ⟨y, rfl⟩ : ∃ y : Nat, x = y := ⟨x.toNat, by omega⟩
  obtain ⟨p, hp, hp2⟩ := cut300 s
  by_cases h : p.size = 0 ∨ y = 0
  · exact burst_none s k y hs p hp hp2 h w hT
  · exact burst_walk s k y hs hk0 hk1 (by omega) (fun e => h (.inr e)) p hp hp2 (fun e => h (.inl e)) w hT
end Go.Proofs.YtmhpcbaoicboaaaDoor
