/- The functions of the packages and of the references, by contract: part 6. -/
import Derived.Carry
import Derived.ChangeSame
import Derived.ChangeSlices
import Derived.Deep.DeepHandedRow
import Derived.DeepKeys
import Derived.LaidLaws
import Derived.Lib.LaidTab
import Derived.OpenShut
import Derived.ProofKit
import Derived.SliceStrings
import Derived.Test.YtdnbhgkbfbgnaaaGreatDoorCards
import Derived.Test.YtdnbhgkbfbgnaaaGreatDoorTie
import Derived.WalkKit
import Derived.Test.YtdnbhgkbfbgnaaaGreatDoorHe
namespace Go.Proofs.YtdnbhgkbfbgnaaaGreatDoor
open Go.RowKit
def DG (s : ByteArray) : Prop := ∃ n : Nat, s = S (n : Int) ∧ n < 10 ^ 100
theorem dg_of {s : ByteArray} {L : List UInt8} (hL : s.data.toList = L) (ha : L.all isDg = true) (h0 : 0 < L.length) (h9 : L.length ≤ 100) (hd : L.length = 1 ∨ L.head? ≠ some 48) : DG s := by
 have key : ∃ n, L = txN n := by
  by_cases h : L.head? = some 48
  ·
   have h1 := hd.resolve_right (fun e => e h)
   refine ⟨0, ?_⟩
   match L, h1, h with
   | [c], _, h => simp at h; subst h; rw [← dec_txN]; rw [Lib.decDigits, dif_pos (by decide)]; rfl
  ·
   exact ⟨_, (txN_of ha h0 h).1.symm⟩
 obtain ⟨n, hn⟩ := key
 refine ⟨n, ?_, txN_len' (by rw [← hn]; exact h9)⟩
 refine S_of hL ?_
 rw [txt, if_neg (by omega), Int.natAbs_natCast]; exact hn
theorem dgit (c : Nat) : isDg (UInt8.ofNat (48 + c % 10)) = true := by
 rw [isDg_iff, UInt8.toNat_ofNat_of_lt' (by show 48 + c % 10 < 256; omega)]
 omega
theorem S_minus (n : Int) (h : 0 < n) : S (-n) = ⟨#[45]⟩ ++ S n := by
 refine toList_inj ?_
 rw [ByteArray.toList_eq, ByteArray.toList_eq, ByteArray.data_append, Array.toList_append, S_list, S_list, txt, if_pos (by omega), txt, if_neg (by omega), Int.natAbs_neg]
 rfl
theorem mk_fit100 (n d : Int) (hn : n.natAbs < 10 ^ 100) (hd : d.natAbs < 10 ^ 100) (h0 : d ≠ 0) : fitR 100 (Rat.divInt n d) := by
 rw [← sg_R]
 exact mk_fit (by unfold sg; split <;> omega) (by unfold sg; split <;> omega) (by have := sg_pos h0; omega)
set_option maxRecDepth 100000 in
set_option maxHeartbeats 8000000 in
theorem Long_any (x0 x1 x2 x3 : Int) (w : World) (b0 : -9223372036854775808 ≤ x0 ∧ x0 ≤ 9223372036854775807) (b1 : -9223372036854775808 ≤ x1 ∧ x1 ≤ 9223372036854775807) (b2 : -9223372036854775808 ≤ x2 ∧ x2 ≤ 9223372036854775807) (b3 : -9223372036854775808 ≤ x3 ∧ x3 ≤ 9223372036854775807) :
  Calls Tryz.prog 14 #[.agg #[.int .i64 x0, .int .i64 x1, .int .i64 x2, .int .i64 x3]] w fun e w' => ∃ q, e = .returned (RV q) ∧ fitR 100 q ∧ Below w.heap.size w w' := by
 have h1 : (w.alloc (.cells #[.int .i64 x0, .int .i64 x1, .int .i64 x2, .int .i64 x3] 24)).heap.size = w.heap.size + 1 := World.size_alloc _ _
 have h2 : ((w.alloc (.cells #[.int .i64 x0, .int .i64 x1, .int .i64 x2, .int .i64 x3] 24)).alloc (.cells #[.string ⟨#[]⟩, .string ⟨#[]⟩] 23)).heap.size = w.heap.size + 1 + 1 := by rw [World.size_alloc, h1]
 have A := Lib.hid (((CBlk.new w #[.int .i64 x0, .int .i64 x1, .int .i64 x2, .int .i64 x3] 24).alloc (.cells #[.string ⟨#[]⟩, .string ⟨#[]⟩] 23)).alloc (.cells #[.string ⟨#[]⟩, .string ⟨#[]⟩] 73))
 have Z := Lib.hid ((h1 ▸ RBlk.new (w.alloc (.cells #[.int .i64 x0, .int .i64 x1, .int .i64 x2, .int .i64 x3] 24)) (.string ⟨#[]⟩) (.string ⟨#[]⟩) : RBlk ((w.alloc (.cells #[.int .i64 x0, .int .i64 x1, .int .i64 x2, .int .i64 x3] 24)).alloc (.cells #[.string ⟨#[]⟩, .string ⟨#[]⟩] 23)) (w.heap.size + 1) (.string ⟨#[]⟩) (.string ⟨#[]⟩)).alloc (.cells #[.string ⟨#[]⟩, .string ⟨#[]⟩] 73))
 have O := Lib.hid (h2 ▸ PB.new 73 ((w.alloc (.cells #[.int .i64 x0, .int .i64 x1, .int .i64 x2, .int .i64 x3] 24)).alloc (.cells #[.string ⟨#[]⟩, .string ⟨#[]⟩] 23)) (.string ⟨#[]⟩) (.string ⟨#[]⟩) : PB 73 (((w.alloc (.cells #[.int .i64 x0, .int .i64 x1, .int .i64 x2, .int .i64 x3] 24)).alloc (.cells #[.string ⟨#[]⟩, .string ⟨#[]⟩] 23)).alloc (.cells #[.string ⟨#[]⟩, .string ⟨#[]⟩] 73)) (w.heap.size + 1 + 1) (.string ⟨#[]⟩) (.string ⟨#[]⟩))
 have HB := Lib.hid (((below_alloc w (.cells #[.int .i64 x0, .int .i64 x1, .int .i64 x2, .int .i64 x3] 24)).alloc (by rw [h1]; omega) (.cells #[.string ⟨#[]⟩, .string ⟨#[]⟩] 23)).alloc (by rw [h2]; omega) (.cells #[.string ⟨#[]⟩, .string ⟨#[]⟩] 73))
 clear h1 h2
 go_enter Tryz.func14, Tryz.ntmps14
 go_wp2_with fail
 go_loopw [4] (fun kv wr => ∃ (k : Nat) (o0 o1 : ByteArray), k ≤ 2 ∧ kv = .int .i64 (k : Int) ∧ Hid (CBlk wr w.heap.size #[.int .i64 x0, .int .i64 x1, .int .i64 x2, .int .i64 x3] 24) ∧ Hid (RBlk wr (w.heap.size + 1) (.string ⟨#[]⟩) (.string ⟨#[]⟩)) ∧ Hid (PB 73 wr (w.heap.size + 1 + 1) (.string o0) (.string o1)) ∧ Hid ((0 < k → DG o0) ∧ (1 < k → DG o1)) ∧ Hid (Below w.heap.size w wr)) (fun i _ => 2 - (intOf i).toNat)
 case atStart => exact ⟨0, _, _, by omega, rfl, A, Z, O, Lib.hid ⟨fun h => absurd h (by decide), fun h => absurd h (by decide)⟩, HB⟩
 case round =>
  clear A Z O HB
  obtain ⟨k, o0, o1, hk, rfl, A, Z, O, HD, HB⟩ := hrel
  by_cases hlt : k < 2
  ·
   rcases (by omega : k = 0 ∨ k = 1) with rfl | rfl
   ·
    have Ac0 := A.out.c 0 rfl
    have Ac1 := A.out.c 1 rfl
    go_wp2_with fail
    go_at_call 55
    refine (v4pick_100 x1 _ b1.1 b1.2).mono ?_
    rintro e WA ⟨n0, rfl, hn0, B⟩
    clear Ac0 Ac1
    have An := Lib.hid (A.out.keep B A.out.lt)
    have Zn := Lib.hid (Z.out.keep B Z.out.lt)
    have On := Lib.hid (O.out.keep B O.out.lt)
    have HBn := Lib.hid (HB.out.trans (B.mono HB.out.size))
    clear A Z O HB
    have A := An
    have Z := Zn
    have O := On
    have HB := HBn
    clear An Zn On HBn
    clear B
    have wn : IntKind.i64.wrap (1 + (n0 : Int)) = 1 + (n0 : Int) := by simp [IntKind.wrap, IntKind.bits, IntKind.signed]; omega
    have Ac0 := A.out.c 0 rfl
    go_wp2_with fail
    go_at_call 55
    refine (v4pick_1000000007 x0 _ b0.1 b0.2).mono ?_
    rintro e WB ⟨c0, rfl, hc0, B⟩
    clear Ac0
    have An := Lib.hid (A.out.keep B A.out.lt)
    have Zn := Lib.hid (Z.out.keep B Z.out.lt)
    have On := Lib.hid (O.out.keep B O.out.lt)
    have HBn := Lib.hid (HB.out.trans (B.mono HB.out.size))
    clear A Z O HB
    have A := An
    have Z := Zn
    have O := On
    have HB := HBn
    clear An Zn On HBn
    clear B
    go_wp2_with fail
    go_loopw [6, 7] (fun sv cv wr => ∃ (t : ByteArray) (c : Nat), sv = .string t ∧ cv = .int .i64 (c : Int) ∧ Hid (t.data.toList.all isDg = true) ∧ t.size ≤ 1 + n0 ∧ c < 2147483647 ∧ Hid (CBlk wr w.heap.size #[.int .i64 x0, .int .i64 x1, .int .i64 x2, .int .i64 x3] 24) ∧ Hid (RBlk wr (w.heap.size + 1) (.string ⟨#[]⟩) (.string ⟨#[]⟩)) ∧ Hid (PB 73 wr (w.heap.size + 1 + 1) (.string o0) (.string o1)) ∧ Hid (Below w.heap.size w wr)) (fun sv _ _ => 1 + n0 - (match sv with | .string t => t.size | _ => 0))
    case atStart => exact ⟨_, c0, rfl, rfl, Lib.hid rfl, by show 0 ≤ _; omega, by omega, A, Z, O, HB⟩
    case round =>
     clear A Z O HB
     obtain ⟨t, c, rfl, rfl, hT, hsz, hc, A, Z, O, HB⟩ := hrel
     by_cases hlt : t.size < 1 + n0
     ·
      have hli : ((t.size : Nat) : Int) < 1 + (n0 : Int) := by omega
      have w1 : IntKind.i64.wrap ((c : Int) * 48271) = (c : Int) * 48271 := by simp [IntKind.wrap, IntKind.bits, IntKind.signed]; omega
      have w2 : IntKind.i64.wrap ((c : Int) * 48271 + 11) = (c : Int) * 48271 + 11 := by simp [IntKind.wrap, IntKind.bits, IntKind.signed]; omega
      obtain ⟨c2, hc2⟩ : ∃ c2 : Nat, c2 = (c * 48271 + 11) % 2147483647 := ⟨_, rfl⟩
      have hc2i : ((c : Int) * 48271 + 11) % 2147483647 = (c2 : Int) := by omega
      have hc29 : c2 < 2147483647 := by omega
      obtain ⟨d, hd⟩ : ∃ d : UInt8, d = UInt8.ofNat (48 + c2 / 65536 % 10) := ⟨_, rfl⟩
      have hdn : d.toNat = 48 + c2 / 65536 % 10 := by rw [hd, UInt8.toNat_ofNat_of_lt' (by show 48 + c2 / 65536 % 10 < 256; omega)]
      have hdv : (48 : Int) + (c2 : Int) / 65536 % 10 = (d.toNat : Int) := by omega
      have hdd := Lib.hid (show isDg d = true by rw [hd]; exact dgit (c2 / 65536))
      have wd : IntKind.u8.wrap (d.toNat : Int) = (d.toNat : Int) := by have := d.toNat_lt; simp [IntKind.wrap, IntKind.bits, IntKind.signed]; omega
      have hcv := run_convert_bytes_back (P := Tryz.prog) (wr.alloc (.cells #[.int .u8 (d.toNat : Int)] 5)) 48 9 5 ⟨wr.heap.size, 0, none⟩ 1 [d] Tryz.underlying48 Tryz.underlying5 Tryz.underlying9 (fun j hj => by
       obtain rfl : j = 0 := by simpa using hj
       rw [World.cell?]
       rw [show (⟨wr.heap.size, 0, none⟩ : Addr).add 0 = ⟨wr.heap.size, 0, none⟩ from rfl, Go.heap_alloc_new]; rfl)
      rw [show ([d] : List UInt8).length = 1 from rfl] at hcv
      have zz : (⟨([d] : List UInt8).toArray⟩ : ByteArray).size = 1 := rfl
      have hds := Lib.hid (show (⟨([d] : List UInt8).toArray⟩ : ByteArray).data.toList = [d] by simp)
      generalize (⟨([d] : List UInt8).toArray⟩ : ByteArray) = ds at *
      clear hc2 hd hdn hli
      have hli : ((t.size : Nat) : Int) < 1 + (n0 : Int) := by omega
      go_wp2_with fail
      go_roundw
      case rel => exact ⟨t ++ ds, c2, rfl, by rw [hc2i], Lib.hid (by rw [ByteArray.data_append, Array.toList_append, List.all_append, hT.out, hds.out, List.all_cons, hdd.out]; rfl), by rw [ByteArray.size_append]; omega, hc29, Lib.hid (A.out.alloc _), Lib.hid (Z.out.alloc _), Lib.hid (O.out.alloc _), Lib.hid (HB.out.alloc HB.out.size _)⟩
      case measure => show 1 + n0 - (t ++ ds).size < 1 + n0 - t.size; rw [ByteArray.size_append]; omega
     ·
      have hli : ¬ (((t.size : Nat) : Int) < 1 + (n0 : Int)) := by omega
      have ht1 : 0 < t.size := by omega
      have ht9 : t.size ≤ 100 := by omega
      go_wp2_with fail
      go_loopw [6] (fun sv wq => ∃ t : ByteArray, sv = .string t ∧ Hid (t.data.toList.all isDg = true) ∧ 0 < t.size ∧ t.size ≤ 100 ∧ wr = wq) (fun sv _ => match sv with | .string t => t.size | _ => 0)
      case atStart => exact ⟨t, rfl, hT, ht1, ht9, by first | rfl | trivial⟩
      case round =>
       clear hT ht1 ht9 hsz hlt hli
       obtain ⟨t, rfl, hT, ht1, ht9, hw⟩ := hrel
       subst hw
       obtain ⟨l, hl⟩ : ∃ l, t.data.toList = l := ⟨_, rfl⟩
       have hs := bytes_size hl
       cases l with
       | nil => rw [List.length_nil] at hs; omega
       | cons x l =>
        rw [List.length_cons] at hs
        have hx := bytes_head hl ht1
        have htl := bytes_tail hl
        have HL := Lib.hid hl
        have HTL := Lib.hid htl
        have HS := Lib.hid hs
        clear hl htl
        cases l with
        | nil =>
         have HG := Lib.hid (dg_of HL.out (by rw [← HL.out]; exact hT.out) (by rw [List.length_cons]; omega) (by rw [List.length_cons, List.length_nil]; omega) (.inl rfl))
         rw [List.length_nil] at hs
         have e0 : decide ((1 : Int) < (t.size : Int)) = false := by rw [hs]; rfl
         clear hs hx HS
         have Oc := O.out.c0
         have Of := O.out.f 0
         go_wp2_with fail
         go_roundw
         case rel => exact ⟨1, t, o1, by omega, by go_num, Lib.hid (A.out.other ⟨w.heap.size + 1 + 1, 0, none⟩ (.string t) (by show w.heap.size ≠ w.heap.size + 1 + 1; omega)), Lib.hid (Z.out.other ⟨w.heap.size + 1 + 1, 0, none⟩ (.string t) (by show w.heap.size + 1 ≠ w.heap.size + 1 + 1; omega)), Lib.hid (O.out.s0 (.string t)), Lib.hid ⟨fun _ => HG.out, fun h => absurd h (by decide)⟩, Lib.hid (HB.out.setCell (p := ⟨w.heap.size + 1 + 1, 0, none⟩) (by show w.heap.size ≤ w.heap.size + 1 + 1; omega) (.string t))⟩
         case measure => simp [intOf]
        | cons y l =>
         rw [List.length_cons] at hs
         have e0 : decide ((1 : Int) < (t.size : Int)) = true := by rw [decide_eq_true_eq]; omega
         by_cases h48 : x = 48
         ·
          have H48 := Lib.hid h48
          have e2 : ((x.toNat : Int) == 48) = true := by rw [h48]; rfl
          clear h48 hs
          go_wp2_with fail
          go_roundw
          case rel =>
           refine ⟨_, rfl, Lib.hid ?_, ?_, ?_, by first | rfl | trivial⟩
           ·
            rw [HTL.out]; have h := hT.out; rw [HL.out, List.all_cons, Bool.and_eq_true] at h; exact h.2
           ·
            rw [ByteArray.size_extract, HS.out, List.length_cons]; omega
           ·
            rw [ByteArray.size_extract]; omega
          case measure => show (t.extract 1 t.size).size < t.size; rw [ByteArray.size_extract]; omega
         ·
          have HG := Lib.hid (dg_of HL.out (by rw [← HL.out]; exact hT.out) (by rw [List.length_cons]; omega) (by rw [List.length_cons, ← HS.out]; exact ht9) (.inr (by simp only [List.head?_cons]; intro e; exact h48 (Option.some.inj e))))
          have e2 : ((x.toNat : Int) == 48) = false := by
           rw [beq_eq_false_iff_ne]; intro e
           exact h48 (UInt8.toNat_inj.1 (by have h48n : (48 : UInt8).toNat = 48 := rfl; omega))
          clear h48 hs
          have Oc := O.out.c0
          have Of := O.out.f 0
          go_wp2_with fail
          go_roundw
          case rel => exact ⟨1, t, o1, by omega, by go_num, Lib.hid (A.out.other ⟨w.heap.size + 1 + 1, 0, none⟩ (.string t) (by show w.heap.size ≠ w.heap.size + 1 + 1; omega)), Lib.hid (Z.out.other ⟨w.heap.size + 1 + 1, 0, none⟩ (.string t) (by show w.heap.size + 1 ≠ w.heap.size + 1 + 1; omega)), Lib.hid (O.out.s0 (.string t)), Lib.hid ⟨fun _ => HG.out, fun h => absurd h (by decide)⟩, Lib.hid (HB.out.setCell (p := ⟨w.heap.size + 1 + 1, 0, none⟩) (by show w.heap.size ≤ w.heap.size + 1 + 1; omega) (.string t))⟩
          case measure => simp [intOf]
   ·
    have Ac0 := A.out.c 2 rfl
    have Ac1 := A.out.c 3 rfl
    go_wp2_with fail
    go_at_call 55
    refine (v4pick_100 x3 _ b3.1 b3.2).mono ?_
    rintro e WA ⟨n0, rfl, hn0, B⟩
    clear Ac0 Ac1
    have An := Lib.hid (A.out.keep B A.out.lt)
    have Zn := Lib.hid (Z.out.keep B Z.out.lt)
    have On := Lib.hid (O.out.keep B O.out.lt)
    have HBn := Lib.hid (HB.out.trans (B.mono HB.out.size))
    clear A Z O HB
    have A := An
    have Z := Zn
    have O := On
    have HB := HBn
    clear An Zn On HBn
    clear B
    have wn : IntKind.i64.wrap (1 + (n0 : Int)) = 1 + (n0 : Int) := by simp [IntKind.wrap, IntKind.bits, IntKind.signed]; omega
    have Ac0 := A.out.c 2 rfl
    go_wp2_with fail
    go_at_call 55
    refine (v4pick_1000000007 x2 _ b2.1 b2.2).mono ?_
    rintro e WB ⟨c0, rfl, hc0, B⟩
    clear Ac0
    have An := Lib.hid (A.out.keep B A.out.lt)
    have Zn := Lib.hid (Z.out.keep B Z.out.lt)
    have On := Lib.hid (O.out.keep B O.out.lt)
    have HBn := Lib.hid (HB.out.trans (B.mono HB.out.size))
    clear A Z O HB
    have A := An
    have Z := Zn
    have O := On
    have HB := HBn
    clear An Zn On HBn
    clear B
    go_wp2_with fail
    go_loopw [6, 7] (fun sv cv wr => ∃ (t : ByteArray) (c : Nat), sv = .string t ∧ cv = .int .i64 (c : Int) ∧ Hid (t.data.toList.all isDg = true) ∧ t.size ≤ 1 + n0 ∧ c < 2147483647 ∧ Hid (CBlk wr w.heap.size #[.int .i64 x0, .int .i64 x1, .int .i64 x2, .int .i64 x3] 24) ∧ Hid (RBlk wr (w.heap.size + 1) (.string ⟨#[]⟩) (.string ⟨#[]⟩)) ∧ Hid (PB 73 wr (w.heap.size + 1 + 1) (.string o0) (.string o1)) ∧ Hid (Below w.heap.size w wr)) (fun sv _ _ => 1 + n0 - (match sv with | .string t => t.size | _ => 0))
    case atStart => exact ⟨_, c0, rfl, rfl, Lib.hid rfl, by show 0 ≤ _; omega, by omega, A, Z, O, HB⟩
    case round =>
     clear A Z O HB
     obtain ⟨t, c, rfl, rfl, hT, hsz, hc, A, Z, O, HB⟩ := hrel
     by_cases hlt : t.size < 1 + n0
     ·
      have hli : ((t.size : Nat) : Int) < 1 + (n0 : Int) := by omega
      have w1 : IntKind.i64.wrap ((c : Int) * 48271) = (c : Int) * 48271 := by simp [IntKind.wrap, IntKind.bits, IntKind.signed]; omega
      have w2 : IntKind.i64.wrap ((c : Int) * 48271 + 11) = (c : Int) * 48271 + 11 := by simp [IntKind.wrap, IntKind.bits, IntKind.signed]; omega
      obtain ⟨c2, hc2⟩ : ∃ c2 : Nat, c2 = (c * 48271 + 11) % 2147483647 := ⟨_, rfl⟩
      have hc2i : ((c : Int) * 48271 + 11) % 2147483647 = (c2 : Int) := by omega
      have hc29 : c2 < 2147483647 := by omega
      obtain ⟨d, hd⟩ : ∃ d : UInt8, d = UInt8.ofNat (48 + c2 / 65536 % 10) := ⟨_, rfl⟩
      have hdn : d.toNat = 48 + c2 / 65536 % 10 := by rw [hd, UInt8.toNat_ofNat_of_lt' (by show 48 + c2 / 65536 % 10 < 256; omega)]
      have hdv : (48 : Int) + (c2 : Int) / 65536 % 10 = (d.toNat : Int) := by omega
      have hdd := Lib.hid (show isDg d = true by rw [hd]; exact dgit (c2 / 65536))
      have wd : IntKind.u8.wrap (d.toNat : Int) = (d.toNat : Int) := by have := d.toNat_lt; simp [IntKind.wrap, IntKind.bits, IntKind.signed]; omega
      have hcv := run_convert_bytes_back (P := Tryz.prog) (wr.alloc (.cells #[.int .u8 (d.toNat : Int)] 5)) 48 9 5 ⟨wr.heap.size, 0, none⟩ 1 [d] Tryz.underlying48 Tryz.underlying5 Tryz.underlying9 (fun j hj => by
       obtain rfl : j = 0 := by simpa using hj
       rw [World.cell?]
       rw [show (⟨wr.heap.size, 0, none⟩ : Addr).add 0 = ⟨wr.heap.size, 0, none⟩ from rfl, Go.heap_alloc_new]; rfl)
      rw [show ([d] : List UInt8).length = 1 from rfl] at hcv
      have zz : (⟨([d] : List UInt8).toArray⟩ : ByteArray).size = 1 := rfl
      have hds := Lib.hid (show (⟨([d] : List UInt8).toArray⟩ : ByteArray).data.toList = [d] by simp)
      generalize (⟨([d] : List UInt8).toArray⟩ : ByteArray) = ds at *
      clear hc2 hd hdn hli
      have hli : ((t.size : Nat) : Int) < 1 + (n0 : Int) := by omega
      go_wp2_with fail
      go_roundw
      case rel => exact ⟨t ++ ds, c2, rfl, by rw [hc2i], Lib.hid (by rw [ByteArray.data_append, Array.toList_append, List.all_append, hT.out, hds.out, List.all_cons, hdd.out]; rfl), by rw [ByteArray.size_append]; omega, hc29, Lib.hid (A.out.alloc _), Lib.hid (Z.out.alloc _), Lib.hid (O.out.alloc _), Lib.hid (HB.out.alloc HB.out.size _)⟩
      case measure => show 1 + n0 - (t ++ ds).size < 1 + n0 - t.size; rw [ByteArray.size_append]; omega
     ·
      have hli : ¬ (((t.size : Nat) : Int) < 1 + (n0 : Int)) := by omega
      have ht1 : 0 < t.size := by omega
      have ht9 : t.size ≤ 100 := by omega
      go_wp2_with fail
      go_loopw [6] (fun sv wq => ∃ t : ByteArray, sv = .string t ∧ Hid (t.data.toList.all isDg = true) ∧ 0 < t.size ∧ t.size ≤ 100 ∧ wr = wq) (fun sv _ => match sv with | .string t => t.size | _ => 0)
      case atStart => exact ⟨t, rfl, hT, ht1, ht9, by first | rfl | trivial⟩
      case round =>
       clear hT ht1 ht9 hsz hlt hli
       obtain ⟨t, rfl, hT, ht1, ht9, hw⟩ := hrel
       subst hw
       obtain ⟨l, hl⟩ : ∃ l, t.data.toList = l := ⟨_, rfl⟩
       have hs := bytes_size hl
       cases l with
       | nil => rw [List.length_nil] at hs; omega
       | cons x l =>
        rw [List.length_cons] at hs
        have hx := bytes_head hl ht1
        have htl := bytes_tail hl
        have HL := Lib.hid hl
        have HTL := Lib.hid htl
        have HS := Lib.hid hs
        clear hl htl
        cases l with
        | nil =>
         have HG := Lib.hid (dg_of HL.out (by rw [← HL.out]; exact hT.out) (by rw [List.length_cons]; omega) (by rw [List.length_cons, List.length_nil]; omega) (.inl rfl))
         rw [List.length_nil] at hs
         have e0 : decide ((1 : Int) < (t.size : Int)) = false := by rw [hs]; rfl
         clear hs hx HS
         have Oc := O.out.c1
         have Of := O.out.f 1
         go_wp2_with fail
         go_roundw
         case rel => exact ⟨2, o0, t, by omega, by go_num, Lib.hid (A.out.other ⟨w.heap.size + 1 + 1, 1, none⟩ (.string t) (by show w.heap.size ≠ w.heap.size + 1 + 1; omega)), Lib.hid (Z.out.other ⟨w.heap.size + 1 + 1, 1, none⟩ (.string t) (by show w.heap.size + 1 ≠ w.heap.size + 1 + 1; omega)), Lib.hid (O.out.s1 (.string t)), Lib.hid ⟨fun _ => HD.out.1 (by decide), fun h => HG.out⟩, Lib.hid (HB.out.setCell (p := ⟨w.heap.size + 1 + 1, 1, none⟩) (by show w.heap.size ≤ w.heap.size + 1 + 1; omega) (.string t))⟩
         case measure => simp [intOf]
        | cons y l =>
         rw [List.length_cons] at hs
         have e0 : decide ((1 : Int) < (t.size : Int)) = true := by rw [decide_eq_true_eq]; omega
         by_cases h48 : x = 48
         ·
          have H48 := Lib.hid h48
          have e2 : ((x.toNat : Int) == 48) = true := by rw [h48]; rfl
          clear h48 hs
          go_wp2_with fail
          go_roundw
          case rel =>
           refine ⟨_, rfl, Lib.hid ?_, ?_, ?_, by first | rfl | trivial⟩
           ·
            rw [HTL.out]; have h := hT.out; rw [HL.out, List.all_cons, Bool.and_eq_true] at h; exact h.2
           ·
            rw [ByteArray.size_extract, HS.out, List.length_cons]; omega
           ·
            rw [ByteArray.size_extract]; omega
          case measure => show (t.extract 1 t.size).size < t.size; rw [ByteArray.size_extract]; omega
         ·
          have HG := Lib.hid (dg_of HL.out (by rw [← HL.out]; exact hT.out) (by rw [List.length_cons]; omega) (by rw [List.length_cons, ← HS.out]; exact ht9) (.inr (by simp only [List.head?_cons]; intro e; exact h48 (Option.some.inj e))))
          have e2 : ((x.toNat : Int) == 48) = false := by
           rw [beq_eq_false_iff_ne]; intro e
           exact h48 (UInt8.toNat_inj.1 (by have h48n : (48 : UInt8).toNat = 48 := rfl; omega))
          clear h48 hs
          have Oc := O.out.c1
          have Of := O.out.f 1
          go_wp2_with fail
          go_roundw
          case rel => exact ⟨2, o0, t, by omega, by go_num, Lib.hid (A.out.other ⟨w.heap.size + 1 + 1, 1, none⟩ (.string t) (by show w.heap.size ≠ w.heap.size + 1 + 1; omega)), Lib.hid (Z.out.other ⟨w.heap.size + 1 + 1, 1, none⟩ (.string t) (by show w.heap.size + 1 ≠ w.heap.size + 1 + 1; omega)), Lib.hid (O.out.s1 (.string t)), Lib.hid ⟨fun _ => HD.out.1 (by decide), fun h => HG.out⟩, Lib.hid (HB.out.setCell (p := ⟨w.heap.size + 1 + 1, 1, none⟩) (by show w.heap.size ≤ w.heap.size + 1 + 1; omega) (.string t))⟩
          case measure => simp [intOf]
  ·
   obtain rfl : k = 2 := by omega
   obtain ⟨n0, rfl, hn0⟩ := HD.out.1 (by decide)
   obtain ⟨n1, rfl, hn1⟩ := HD.out.2 (by decide)
   have ht1 := S_eq0 (n1 : Int)
   have ht0 := S_eq0 (n0 : Int)
   have z0 := S_size2 (z := (n0 : Int)) (by rw [Int.natAbs_natCast]; exact Nat.lt_of_lt_of_le hn0 (by decide))
   have z45 : (⟨#[45]⟩ : ByteArray).size = 1 := rfl
   by_cases h1 : n1 = 0
   ·
    have ht1b : ((S (n1 : Int)).toList == [48]) = true := by rw [ht1]; exact decide_eq_true (by omega)
    clear ht1 h1
    generalize S (n1 : Int) = s1 at *
    have e7 : S 7 = ⟨#[55]⟩ := S_lit (L := [55]) (by decide)
    have Oc1 := O.out.c1
    have Of1 := O.out.f 1
    have Ac0 := A.out.c 0 rfl
    have Ae0 := (A.out.other ⟨w.heap.size + 1 + 1, 1, none⟩ (.string ⟨#[55]⟩) (by show w.heap.size ≠ w.heap.size + 1 + 1; omega)).c 0 rfl
    go_wp2_with fail
    clear Oc1 Of1 Ae0
    have An := Lib.hid (A.out.other ⟨w.heap.size + 1 + 1, 1, none⟩ (.string ⟨#[55]⟩) (by show w.heap.size ≠ w.heap.size + 1 + 1; omega))
    have Zn := Lib.hid (Z.out.other ⟨w.heap.size + 1 + 1, 1, none⟩ (.string ⟨#[55]⟩) (by show w.heap.size + 1 ≠ w.heap.size + 1 + 1; omega))
    have On := Lib.hid (O.out.s1 (.string ⟨#[55]⟩))
    have HBn := Lib.hid (HB.out.setCell (p := ⟨w.heap.size + 1 + 1, 1, none⟩) (by show w.heap.size ≤ w.heap.size + 1 + 1; omega) (.string ⟨#[55]⟩))
    clear A Z O HB
    have A := An
    have Z := Zn
    have O := On
    have HB := HBn
    clear An Zn On HBn
    go_at_call 55
    refine (v4pick_2 x0 _ b0.1 b0.2).mono ?_
    rintro e WC ⟨p, rfl, hp, B⟩
    have An := Lib.hid (A.out.keep B A.out.lt)
    have Zn := Lib.hid (Z.out.keep B Z.out.lt)
    have On := Lib.hid (O.out.keep B O.out.lt)
    have HBn := Lib.hid (HB.out.trans (B.mono HB.out.size))
    clear A Z O HB
    have A := An
    have Z := Zn
    have O := On
    have HB := HBn
    clear An Zn On HBn
    clear B Ac0
    by_cases hp0 : p = 0
    ·
     subst hp0
     by_cases h0 : n0 = 0
     ·
      have ht0b : ((S (n0 : Int)).toList == [48]) = true := by rw [ht0]; exact decide_eq_true (by omega)
      clear ht0
      have hz := mk_fit100 ((n0 : Int)) (7) (by rw [Int.natAbs_natCast]; exact hn0) (by decide) (by decide)
      have cm := fun W => v4Make_R ((n0 : Int)) (7) W (wide (p := 100) (by rw [Int.natAbs_natCast]; exact hn0) (by decide)) (wide (p := 100) (by decide) (by decide)) (by decide)
      rw [e7] at cm
      unfold RV at cm
      generalize Rat.divInt ((n0 : Int)) (7) = z at *
      have CM := Lib.hid cm
      have HZ := Lib.hid hz
      clear cm hz
      generalize S (n0 : Int) = s0 at *
      have Oc0 := O.out.c0
      have Oc1 := O.out.c1
      have Of0 := O.out.f 0
      go_wp2_with fail
      go_at_call 29
      refine (CM.out _).mono ?_
      rintro e WD ⟨rfl, B⟩
      have V := Lib.hid (RBlk.new WD (.string (S z.num)) (.string (S (z.den : Int))))
      have Zn := Lib.hid ((Z.out.keep B Z.out.lt).alloc (.cells #[.string (S z.num), .string (S (z.den : Int))] 23))
      have HBn := Lib.hid ((HB.out.trans (B.mono HB.out.size)).alloc (HB.out.trans (B.mono HB.out.size)).size (.cells #[.string (S z.num), .string (S (z.den : Int))] 23))
      clear Z HB A O B Oc0 Oc1
      have vc0 := V.out.c0
      have vc1 := V.out.c1
      have c0 := Zn.out.c0
      have c1 := Zn.out.c1
      have f0 := Zn.out.f 0
      have f1 := Zn.out.f 1
      have hs := Zn.out.s0 (.string (S z.num))
      have d1 := hs.c1
      have g1 := hs.f 1
      have HS := Lib.hid (hs.s1 (.string (S (z.den : Int))))
      have HBS := Lib.hid ((HBn.out.setCell (p := ⟨w.heap.size + 1, 0, none⟩) (by show w.heap.size ≤ w.heap.size + 1; omega) (.string (S z.num))).setCell (p := ⟨w.heap.size + 1, 1, none⟩) (by show w.heap.size ≤ w.heap.size + 1; omega) (.string (S (z.den : Int))))
      clear hs
      go_wp2_with fail
      refine bodyPost_ret (results_ratio1 rfl _ _ (w.heap.size + 1) _ _ rfl HS.out) rfl ?_
      exact ⟨z, rfl, HZ.out, HBS.out⟩
     ·
      have ht0b : ((S (n0 : Int)).toList == [48]) = false := by rw [ht0]; exact decide_eq_false (by omega)
      clear ht0
      have e45 := S_minus (n0 : Int) (by omega)
      have hz := mk_fit100 (-(n0 : Int)) (7) (by rw [Int.natAbs_neg, Int.natAbs_natCast]; exact hn0) (by decide) (by decide)
      have cm := fun W => v4Make_R (-(n0 : Int)) (7) W (wide (p := 100) (by rw [Int.natAbs_neg, Int.natAbs_natCast]; exact hn0) (by decide)) (wide (p := 100) (by decide) (by decide)) (by decide)
      rw [e7] at cm
      unfold RV at cm
      generalize Rat.divInt (-(n0 : Int)) (7) = z at *
      have CM := Lib.hid cm
      have HZ := Lib.hid hz
      clear cm hz
      rw [e45] at CM
      generalize S (n0 : Int) = s0 at *
      have Oc0 := O.out.c0
      have Oc1 := O.out.c1
      have Of0 := O.out.f 0
      have Oz := O.out.s0 (.string (⟨#[45]⟩ ++ s0))
      have Oz0 := Oz.c0
      have Oz1 := Oz.c1
      clear Oz
      go_wp2_with fail
      clear Oz0 Oz1
      have An := Lib.hid (A.out.other ⟨w.heap.size + 1 + 1, 0, none⟩ (.string (⟨#[45]⟩ ++ s0)) (by show w.heap.size ≠ w.heap.size + 1 + 1; omega))
      have Zn := Lib.hid (Z.out.other ⟨w.heap.size + 1 + 1, 0, none⟩ (.string (⟨#[45]⟩ ++ s0)) (by show w.heap.size + 1 ≠ w.heap.size + 1 + 1; omega))
      have On := Lib.hid (O.out.s0 (.string (⟨#[45]⟩ ++ s0)))
      have HBn := Lib.hid (HB.out.setCell (p := ⟨w.heap.size + 1 + 1, 0, none⟩) (by show w.heap.size ≤ w.heap.size + 1 + 1; omega) (.string (⟨#[45]⟩ ++ s0)))
      clear A Z O HB
      have A := An
      have Z := Zn
      have O := On
      have HB := HBn
      clear An Zn On HBn
      go_at_call 29
      refine (CM.out _).mono ?_
      rintro e WD ⟨rfl, B⟩
      have V := Lib.hid (RBlk.new WD (.string (S z.num)) (.string (S (z.den : Int))))
      have Zn := Lib.hid ((Z.out.keep B Z.out.lt).alloc (.cells #[.string (S z.num), .string (S (z.den : Int))] 23))
      have HBn := Lib.hid ((HB.out.trans (B.mono HB.out.size)).alloc (HB.out.trans (B.mono HB.out.size)).size (.cells #[.string (S z.num), .string (S (z.den : Int))] 23))
      clear Z HB A O B Oc0 Oc1
      have vc0 := V.out.c0
      have vc1 := V.out.c1
      have c0 := Zn.out.c0
      have c1 := Zn.out.c1
      have f0 := Zn.out.f 0
      have f1 := Zn.out.f 1
      have hs := Zn.out.s0 (.string (S z.num))
      have d1 := hs.c1
      have g1 := hs.f 1
      have HS := Lib.hid (hs.s1 (.string (S (z.den : Int))))
      have HBS := Lib.hid ((HBn.out.setCell (p := ⟨w.heap.size + 1, 0, none⟩) (by show w.heap.size ≤ w.heap.size + 1; omega) (.string (S z.num))).setCell (p := ⟨w.heap.size + 1, 1, none⟩) (by show w.heap.size ≤ w.heap.size + 1; omega) (.string (S (z.den : Int))))
      clear hs
      go_wp2_with fail
      refine bodyPost_ret (results_ratio1 rfl _ _ (w.heap.size + 1) _ _ rfl HS.out) rfl ?_
      exact ⟨z, rfl, HZ.out, HBS.out⟩
    ·
     have hp1 : ¬ ((p : Int) = 0) := by omega
     have hz := mk_fit100 ((n0 : Int)) (7) (by rw [Int.natAbs_natCast]; exact hn0) (by decide) (by decide)
     have cm := fun W => v4Make_R ((n0 : Int)) (7) W (wide (p := 100) (by rw [Int.natAbs_natCast]; exact hn0) (by decide)) (wide (p := 100) (by decide) (by decide)) (by decide)
     rw [e7] at cm
     unfold RV at cm
     generalize Rat.divInt ((n0 : Int)) (7) = z at *
     have CM := Lib.hid cm
     have HZ := Lib.hid hz
     clear cm hz
     generalize S (n0 : Int) = s0 at *
     have Oc0 := O.out.c0
     have Oc1 := O.out.c1
     have Of0 := O.out.f 0
     go_wp2_with fail
     go_at_call 29
     refine (CM.out _).mono ?_
     rintro e WD ⟨rfl, B⟩
     have V := Lib.hid (RBlk.new WD (.string (S z.num)) (.string (S (z.den : Int))))
     have Zn := Lib.hid ((Z.out.keep B Z.out.lt).alloc (.cells #[.string (S z.num), .string (S (z.den : Int))] 23))
     have HBn := Lib.hid ((HB.out.trans (B.mono HB.out.size)).alloc (HB.out.trans (B.mono HB.out.size)).size (.cells #[.string (S z.num), .string (S (z.den : Int))] 23))
     clear Z HB A O B Oc0 Oc1
     have vc0 := V.out.c0
     have vc1 := V.out.c1
     have c0 := Zn.out.c0
     have c1 := Zn.out.c1
     have f0 := Zn.out.f 0
     have f1 := Zn.out.f 1
     have hs := Zn.out.s0 (.string (S z.num))
     have d1 := hs.c1
     have g1 := hs.f 1
     have HS := Lib.hid (hs.s1 (.string (S (z.den : Int))))
     have HBS := Lib.hid ((HBn.out.setCell (p := ⟨w.heap.size + 1, 0, none⟩) (by show w.heap.size ≤ w.heap.size + 1; omega) (.string (S z.num))).setCell (p := ⟨w.heap.size + 1, 1, none⟩) (by show w.heap.size ≤ w.heap.size + 1; omega) (.string (S (z.den : Int))))
     clear hs
     go_wp2_with fail
     refine bodyPost_ret (results_ratio1 rfl _ _ (w.heap.size + 1) _ _ rfl HS.out) rfl ?_
     exact ⟨z, rfl, HZ.out, HBS.out⟩
   ·
    have ht1b : ((S (n1 : Int)).toList == [48]) = false := by rw [ht1]; exact decide_eq_false (by omega)
    clear ht1
    have Oc1 := O.out.c1
    have Ac0 := A.out.c 0 rfl
    go_wp2_with fail
    clear Oc1
    go_at_call 55
    refine (v4pick_2 x0 _ b0.1 b0.2).mono ?_
    rintro e WC ⟨p, rfl, hp, B⟩
    have An := Lib.hid (A.out.keep B A.out.lt)
    have Zn := Lib.hid (Z.out.keep B Z.out.lt)
    have On := Lib.hid (O.out.keep B O.out.lt)
    have HBn := Lib.hid (HB.out.trans (B.mono HB.out.size))
    clear A Z O HB
    have A := An
    have Z := Zn
    have O := On
    have HB := HBn
    clear An Zn On HBn
    clear B Ac0
    by_cases hp0 : p = 0
    ·
     subst hp0
     by_cases h0 : n0 = 0
     ·
      have ht0b : ((S (n0 : Int)).toList == [48]) = true := by rw [ht0]; exact decide_eq_true (by omega)
      clear ht0
      have hz := mk_fit100 ((n0 : Int)) ((n1 : Int)) (by rw [Int.natAbs_natCast]; exact hn0) (by rw [Int.natAbs_natCast]; exact hn1) (by omega)
      have cm := fun W => v4Make_R ((n0 : Int)) ((n1 : Int)) W (wide (p := 100) (by rw [Int.natAbs_natCast]; exact hn0) (by decide)) (wide (p := 100) (by rw [Int.natAbs_natCast]; exact hn1) (by decide)) (by omega)
      unfold RV at cm
      generalize Rat.divInt ((n0 : Int)) ((n1 : Int)) = z at *
      have CM := Lib.hid cm
      have HZ := Lib.hid hz
      clear cm hz
      generalize S (n0 : Int) = s0 at *
      have Oc0 := O.out.c0
      have Oc1 := O.out.c1
      have Of0 := O.out.f 0
      go_wp2_with fail
      go_at_call 29
      refine (CM.out _).mono ?_
      rintro e WD ⟨rfl, B⟩
      have V := Lib.hid (RBlk.new WD (.string (S z.num)) (.string (S (z.den : Int))))
      have Zn := Lib.hid ((Z.out.keep B Z.out.lt).alloc (.cells #[.string (S z.num), .string (S (z.den : Int))] 23))
      have HBn := Lib.hid ((HB.out.trans (B.mono HB.out.size)).alloc (HB.out.trans (B.mono HB.out.size)).size (.cells #[.string (S z.num), .string (S (z.den : Int))] 23))
      clear Z HB A O B Oc0 Oc1
      have vc0 := V.out.c0
      have vc1 := V.out.c1
      have c0 := Zn.out.c0
      have c1 := Zn.out.c1
      have f0 := Zn.out.f 0
      have f1 := Zn.out.f 1
      have hs := Zn.out.s0 (.string (S z.num))
      have d1 := hs.c1
      have g1 := hs.f 1
      have HS := Lib.hid (hs.s1 (.string (S (z.den : Int))))
      have HBS := Lib.hid ((HBn.out.setCell (p := ⟨w.heap.size + 1, 0, none⟩) (by show w.heap.size ≤ w.heap.size + 1; omega) (.string (S z.num))).setCell (p := ⟨w.heap.size + 1, 1, none⟩) (by show w.heap.size ≤ w.heap.size + 1; omega) (.string (S (z.den : Int))))
      clear hs
      go_wp2_with fail
      refine bodyPost_ret (results_ratio1 rfl _ _ (w.heap.size + 1) _ _ rfl HS.out) rfl ?_
      exact ⟨z, rfl, HZ.out, HBS.out⟩
     ·
      have ht0b : ((S (n0 : Int)).toList == [48]) = false := by rw [ht0]; exact decide_eq_false (by omega)
      clear ht0
      have e45 := S_minus (n0 : Int) (by omega)
      have hz := mk_fit100 (-(n0 : Int)) ((n1 : Int)) (by rw [Int.natAbs_neg, Int.natAbs_natCast]; exact hn0) (by rw [Int.natAbs_natCast]; exact hn1) (by omega)
      have cm := fun W => v4Make_R (-(n0 : Int)) ((n1 : Int)) W (wide (p := 100) (by rw [Int.natAbs_neg, Int.natAbs_natCast]; exact hn0) (by decide)) (wide (p := 100) (by rw [Int.natAbs_natCast]; exact hn1) (by decide)) (by omega)
      unfold RV at cm
      generalize Rat.divInt (-(n0 : Int)) ((n1 : Int)) = z at *
      have CM := Lib.hid cm
      have HZ := Lib.hid hz
      clear cm hz
      rw [e45] at CM
      generalize S (n0 : Int) = s0 at *
      have Oc0 := O.out.c0
      have Oc1 := O.out.c1
      have Of0 := O.out.f 0
      have Oz := O.out.s0 (.string (⟨#[45]⟩ ++ s0))
      have Oz0 := Oz.c0
      have Oz1 := Oz.c1
      clear Oz
      go_wp2_with fail
      clear Oz0 Oz1
      have An := Lib.hid (A.out.other ⟨w.heap.size + 1 + 1, 0, none⟩ (.string (⟨#[45]⟩ ++ s0)) (by show w.heap.size ≠ w.heap.size + 1 + 1; omega))
      have Zn := Lib.hid (Z.out.other ⟨w.heap.size + 1 + 1, 0, none⟩ (.string (⟨#[45]⟩ ++ s0)) (by show w.heap.size + 1 ≠ w.heap.size + 1 + 1; omega))
      have On := Lib.hid (O.out.s0 (.string (⟨#[45]⟩ ++ s0)))
      have HBn := Lib.hid (HB.out.setCell (p := ⟨w.heap.size + 1 + 1, 0, none⟩) (by show w.heap.size ≤ w.heap.size + 1 + 1; omega) (.string (⟨#[45]⟩ ++ s0)))
      clear A Z O HB
      have A := An
      have Z := Zn
      have O := On
      have HB := HBn
      clear An Zn On HBn
      go_at_call 29
      refine (CM.out _).mono ?_
      rintro e WD ⟨rfl, B⟩
      have V := Lib.hid (RBlk.new WD (.string (S z.num)) (.string (S (z.den : Int))))
      have Zn := Lib.hid ((Z.out.keep B Z.out.lt).alloc (.cells #[.string (S z.num), .string (S (z.den : Int))] 23))
      have HBn := Lib.hid ((HB.out.trans (B.mono HB.out.size)).alloc (HB.out.trans (B.mono HB.out.size)).size (.cells #[.string (S z.num), .string (S (z.den : Int))] 23))
      clear Z HB A O B Oc0 Oc1
      have vc0 := V.out.c0
      have vc1 := V.out.c1
      have c0 := Zn.out.c0
      have c1 := Zn.out.c1
      have f0 := Zn.out.f 0
      have f1 := Zn.out.f 1
      have hs := Zn.out.s0 (.string (S z.num))
      have d1 := hs.c1
      have g1 := hs.f 1
      have HS := Lib.hid (hs.s1 (.string (S (z.den : Int))))
      have HBS := Lib.hid ((HBn.out.setCell (p := ⟨w.heap.size + 1, 0, none⟩) (by show w.heap.size ≤ w.heap.size + 1; omega) (.string (S z.num))).setCell (p := ⟨w.heap.size + 1, 1, none⟩) (by show w.heap.size ≤ w.heap.size + 1; omega) (.string (S (z.den : Int))))
      clear hs
      go_wp2_with fail
      refine bodyPost_ret (results_ratio1 rfl _ _ (w.heap.size + 1) _ _ rfl HS.out) rfl ?_
      exact ⟨z, rfl, HZ.out, HBS.out⟩
    ·
     have hp1 : ¬ ((p : Int) = 0) := by omega
     have hz := mk_fit100 ((n0 : Int)) ((n1 : Int)) (by rw [Int.natAbs_natCast]; exact hn0) (by rw [Int.natAbs_natCast]; exact hn1) (by omega)
     have cm := fun W => v4Make_R ((n0 : Int)) ((n1 : Int)) W (wide (p := 100) (by rw [Int.natAbs_natCast]; exact hn0) (by decide)) (wide (p := 100) (by rw [Int.natAbs_natCast]; exact hn1) (by decide)) (by omega)
     unfold RV at cm
     generalize Rat.divInt ((n0 : Int)) ((n1 : Int)) = z at *
     have CM := Lib.hid cm
     have HZ := Lib.hid hz
     clear cm hz
     generalize S (n0 : Int) = s0 at *
     have Oc0 := O.out.c0
     have Oc1 := O.out.c1
     have Of0 := O.out.f 0
     go_wp2_with fail
     go_at_call 29
     refine (CM.out _).mono ?_
     rintro e WD ⟨rfl, B⟩
     have V := Lib.hid (RBlk.new WD (.string (S z.num)) (.string (S (z.den : Int))))
     have Zn := Lib.hid ((Z.out.keep B Z.out.lt).alloc (.cells #[.string (S z.num), .string (S (z.den : Int))] 23))
     have HBn := Lib.hid ((HB.out.trans (B.mono HB.out.size)).alloc (HB.out.trans (B.mono HB.out.size)).size (.cells #[.string (S z.num), .string (S (z.den : Int))] 23))
     clear Z HB A O B Oc0 Oc1
     have vc0 := V.out.c0
     have vc1 := V.out.c1
     have c0 := Zn.out.c0
     have c1 := Zn.out.c1
     have f0 := Zn.out.f 0
     have f1 := Zn.out.f 1
     have hs := Zn.out.s0 (.string (S z.num))
     have d1 := hs.c1
     have g1 := hs.f 1
     have HS := Lib.hid (hs.s1 (.string (S (z.den : Int))))
     have HBS := Lib.hid ((HBn.out.setCell (p := ⟨w.heap.size + 1, 0, none⟩) (by show w.heap.size ≤ w.heap.size + 1; omega) (.string (S z.num))).setCell (p := ⟨w.heap.size + 1, 1, none⟩) (by show w.heap.size ≤ w.heap.size + 1; omega) (.string (S (z.den : Int))))
     clear hs
     go_wp2_with fail
     refine bodyPost_ret (results_ratio1 rfl _ _ (w.heap.size + 1) _ _ rfl HS.out) rfl ?_
     exact ⟨z, rfl, HZ.out, HBS.out⟩
end Go.Proofs.YtdnbhgkbfbgnaaaGreatDoor
namespace Go.Proofs.YtdnbhgkbfbgnaaaGreatDoor
open Go.ChangeShapes Go.WideShapes Go.ChangeAt Go.RowKit
theorem own : ownKnob Tryz.prog.godebug = none := by kernel_rfl
theorem laidOutT : laidOutB Tryz.prog = true := by kernel_rfl
section
variable {H : Type} {enc : TypeId × Value → H} {W W' : World}
theorem trodAll_stays (hb : Below W.heap.size W W') : ∀ {ts : List TypeId} {vs : List Value} {ds : List (DataW H)} {ps : List MemPlace},
  (∀ t ∈ ts, Tryz.prog.readableRec t = true ∧ t < Tryz.prog.types.size) → (∀ x ∈ ps, x.block < W.heap.size) →
  DataW.TrodAll enc Tryz.prog W 0 (fun _ => true) true ts vs ds ps → DataW.TrodAll enc Tryz.prog W' 0 (fun b => decide (b < W.heap.size)) true ts vs ds ps
 | [], _, _, _, _, _, h => by
  obtain ⟨rfl, rfl, rfl⟩ := trodAll_nil h
  exact trodAll_mk0
 | t :: ts, _, _, _, ht, hp, h => by
  obtain ⟨v, vs, d, ds, a, b, rfl, rfl, rfl, h1, h2⟩ := trodAll_cons h
  have g := ht t (by simp)
  exact trodAll_cons_mk (Below.trod laidOutT g.1 g.2 h1 hb (fun x hx => hp x (by simp [hx]))) (trodAll_stays hb (fun u hu => ht u (by simp [hu])) (fun x hx => hp x (by simp [hx])) h2)
theorem law_done {f : Func} {s : ChangeSpec} {args : Array Value} {ds gs : List (DataW H)} {before : List MemPlace}
  (hp : ∀ t ∈ f.params.toList, Tryz.prog.readableRec t = true ∧ t < Tryz.prog.types.size) (hr : f.resultTypes = #[4]) (hv : s.vars = [])
  (hs : (s.fn H ds).results = [.lit (.bool true)] ∧ (s.fn H ds).args = ds ∧ (s.fn H ds).vars = [])
  (hW : DataW.Whole enc Tryz.prog f.params.toList s.vars false W args.toList ds gs before) (hb : Below W.heap.size W W') :
  s.post enc Tryz.prog f false true false false W args (.bool true) W' := by
 have hW' := hW
 have hlt : ∀ p ∈ before, p.block < W.heap.size := fun p hp => hW.lt p hp
 obtain ⟨p, q, hA, hV, rfl, hz, hn⟩ := hW
 rw [hv] at hV
 obtain ⟨rfl, rfl⟩ := trodVars_none hV
 simp only [List.append_nil] at hlt
 refine ⟨ds, [], p ++ [], [], p, [], hW', ?_, ?_, ?_, World.keptBut_mono (fun x hx => ⟨hx, .inr (by simpa using hx)⟩) (hb.frame (· ∈ p ++ [])), fun h => by cases h⟩
 ·
  rw [hr, List.append_nil, hs.1]
  exact trodAll_cons_mk (shut_bool Tryz.underlying4 _) trodAll_mk0
 ·
  rw [List.append_nil, hs.2.1]
  exact trodAll_stays hb hp hlt hA
 ·
  rw [hv, List.append_nil, hs.2.2]
  rfl
end
end Go.Proofs.YtdnbhgkbfbgnaaaGreatDoor
namespace Go.Proofs.YtdnbhgkbfbgnaaaGreatDoor
open Go.ChangeShapes Go.WideShapes Go.ChangeAt Go.RowKit
theorem laid_mem {w : World} {n : String} {d : DataW Unit} : ∀ {l : List (String × DataW Unit)} {ps : List MemPlace}, DataW.LaidVars Tryz.prog w l ps → (n, d) ∈ l →
  ∃ g t cs fuel p, Tryz.prog.globalNamed n = some g ∧ (Tryz.prog.globals[g]?).map (·.type) = some t ∧ w.var? Tryz.prog n = some cs ∧ DataW.trod (fun _ => ()) Tryz.prog w 0 (fun _ => true) false fuel t cs.toList = some (d, p)
 | [], _, _, h => by cases h
 | (m, e) :: r, _, hl, h => by
  obtain ⟨g, t, cs, fuel, p, q, h1, h2, h3, h4, h5, _⟩ := hl
  rcases List.mem_cons.1 h with h | h
  ·
   cases h; exact ⟨g, t, cs, fuel, p, h1, h2, h3, h4⟩
  ·
   exact laid_mem h5 h
theorem gPow : Tryz.prog.globalNamed "internal/strconv.uint64pow10" = some 2 := by kernel_rfl
theorem gPowType : (Tryz.prog.globals[2]?).map (·.type) = some 223 := by kernel_rfl
theorem cellsA : Tryz.prog.cellsOf 223 = 20 := by kernel_rfl
theorem cellsE : Tryz.prog.cellsOf 172 = 1 := by kernel_rfl
theorem int_of_shape {P : Program} {w : World} {g : Nat} {t : TypeId} {k : IntKind} {zero : Array Value} (h : w.ShapedOpen P) (hg : g < P.globals.size)
  (h0 : ((begin P (fun _ _ => 0) default).world.heap[g]?).bind Obj.row? = some (zero, t)) (hz : zero.size = 1)
  (hb : P.buildable t = true) (hc : P.cellTypes P.depth t = some [t]) (hu : P.underlying t = some (.int k)) : ∃ m, w.cell? ⟨g, 0, none⟩ = some (.int k m) := by
 obtain ⟨cs, hh, hs, hr⟩ := h.1 g zero t hg h0
 obtain ⟨ts, hts, _, hall⟩ := hr hb
 rw [hc] at hts
 cases hts
 have h1 : 0 < cs.size := by omega
 obtain ⟨u, hu', hok⟩ := hall 0 cs[0] (by simp [h1])
 have : u = t := by simpa using hu'.symm
 subst this
 have hcell : w.cell? ⟨g, 0, none⟩ = some cs[0] := by simp [World.cell?, hh, h1]
 rw [hcell]
 unfold Cell.ok at hok
 rw [hu] at hok
 cases hv : cs[0] <;> rw [hv] at hok <;> first | (obtain ⟨rfl, _⟩ := hok; exact ⟨_, rfl⟩) | simp at hok
theorem tz_of {W : World} {laid : List (String × DataW Unit)} (h : laidMet Tryz.prog laid W) (h1 : ("internal/strconv.uint64pow10", Lib.tabData .u64 Lib.pow10Tab) ∈ laid) (hS : W.ShapedOpen Tryz.prog) : Tz W := by
 obtain ⟨ps, hL, _⟩ := h
 obtain ⟨g, t, cs, fuel, p, hg, ht, hvar, hd⟩ := laid_mem hL h1
 obtain rfl := Option.some.inj (gPow.symm.trans hg)
 obtain rfl := Option.some.inj (gPowType.symm.trans ht)
 obtain ⟨m, hm⟩ : ∃ m, W.cell? ⟨1, 0, none⟩ = some (.int .i64 m) := int_of_shape (t := 3) (zero := #[.int .i64 0]) hS (of_decide_eq_true (by kernel_rfl)) (by kernel_rfl) rfl (by kernel_rfl) (by kernel_rfl) Tryz.underlying3
 refine ⟨?_, World.block_lt_of_cell? _ _ hm, m, hm⟩
 unfold Lib.TabIs
 rw [hvar, ← Lib.cells_of_tab Tryz.underlying223 Tryz.underlying172 cellsE cellsA hd]
end Go.Proofs.YtdnbhgkbfbgnaaaGreatDoor
namespace Go.Proofs.YtdnbhgkbfbgnaaaGreatDoor
open Go.ChangeShapes Go.WideShapes Go.ChangeAt Go.RowKit
theorem cInt : Tryz.prog.cellsOf 3 = 1 := by kernel_rfl
theorem c4 : Tryz.prog.cellsOf 24 = 4 := by kernel_rfl
theorem c2 : Tryz.prog.cellsOf 25 = 2 := by kernel_rfl
theorem wfb {n : Int} (h : (Lit.int .i64 n).wf = true) : -9223372036854775808 ≤ n ∧ n ≤ 9223372036854775807 := by
 simpa [Lit.wf, IntKind.min, IntKind.max, IntKind.signed, IntKind.bits] using h
set_option maxRecDepth 100000 in
theorem open_i4 {H : Type} {enc : TypeId × Value → H} {W : World} {b : Nat} {sp : Nat → Bool} {held : Bool} {base : Nat} {v : Value} {d : DataW H} {p : List MemPlace}
  (hval : Value.okWide Tryz.prog W .any b 24 v) (h : DataW.Trod enc Tryz.prog W base sp held 24 v d p) :
  ∃ a0 a1 a2 a3 : Int, v = .agg #[.int .i64 a0, .int .i64 a1, .int .i64 a2, .int .i64 a3] ∧ (-9223372036854775808 ≤ a0 ∧ a0 ≤ 9223372036854775807) ∧ (-9223372036854775808 ≤ a1 ∧ a1 ≤ 9223372036854775807) ∧ (-9223372036854775808 ≤ a2 ∧ a2 ≤ 9223372036854775807) ∧ (-9223372036854775808 ≤ a3 ∧ a3 ≤ 9223372036854775807) := by
 simp only [Value.okWide, Tryz.underlying24] at hval
 obtain ⟨cs, rfl, hs, _⟩ := hval
 obtain ⟨fuel, hf⟩ := h
 obtain ⟨xs, m, rfl, hx, hl, hn, hi⟩ := DataW.trod_array Tryz.underlying24 hf
 rw [c4] at hs
 obtain ⟨c0, c1, c2, c3, rfl⟩ : ∃ c0 c1 c2 c3, cs = #[c0, c1, c2, c3] := by
  rcases cs with ⟨l⟩
  match l, hs with
  | [c0, c1, c2, c3], _ => exact ⟨c0, c1, c2, c3, rfl⟩
 match xs, hn with
 | [x0, x1, x2, x3], _ =>
  have i0 := hi 0 (by omega)
  have i1 := hi 1 (by omega)
  have i2 := hi 2 (by omega)
  have i3 := hi 3 (by omega)
  simp [cInt, Value.cells] at i0 i1 i2 i3
  obtain ⟨s0, e0, _, l0⟩ := DataW.trod_int Tryz.underlying3 i0
  obtain ⟨s1, e1, _, l1⟩ := DataW.trod_int Tryz.underlying3 i1
  obtain ⟨s2, e2, _, l2⟩ := DataW.trod_int Tryz.underlying3 i2
  obtain ⟨s3, e3, _, l3⟩ := DataW.trod_int Tryz.underlying3 i3
  simp only [List.cons.injEq, and_true] at e0 e1 e2 e3
  subst e0 e1 e2 e3
  exact ⟨s0, s1, s2, s3, rfl, wfb l0, wfb l1, wfb l2, wfb l3⟩
set_option maxRecDepth 100000 in
theorem open_i2 {H : Type} {enc : TypeId × Value → H} {W : World} {b : Nat} {sp : Nat → Bool} {held : Bool} {base : Nat} {v : Value} {d : DataW H} {p : List MemPlace}
  (hval : Value.okWide Tryz.prog W .any b 25 v) (h : DataW.Trod enc Tryz.prog W base sp held 25 v d p) :
  ∃ a0 a1 : Int, v = .agg #[.int .i64 a0, .int .i64 a1] ∧ (-9223372036854775808 ≤ a0 ∧ a0 ≤ 9223372036854775807) ∧ (-9223372036854775808 ≤ a1 ∧ a1 ≤ 9223372036854775807) := by
 simp only [Value.okWide, Tryz.underlying25] at hval
 obtain ⟨cs, rfl, hs, _⟩ := hval
 obtain ⟨fuel, hf⟩ := h
 obtain ⟨xs, m, rfl, hx, hl, hn, hi⟩ := DataW.trod_array Tryz.underlying25 hf
 rw [c2] at hs
 obtain ⟨c0, c1, rfl⟩ : ∃ c0 c1, cs = #[c0, c1] := by
  rcases cs with ⟨l⟩
  match l, hs with
  | [c0, c1], _ => exact ⟨c0, c1, rfl⟩
 match xs, hn with
 | [x0, x1], _ =>
  have i0 := hi 0 (by omega)
  have i1 := hi 1 (by omega)
  simp [cInt, Value.cells] at i0 i1
  obtain ⟨s0, e0, _, l0⟩ := DataW.trod_int Tryz.underlying3 i0
  obtain ⟨s1, e1, _, l1⟩ := DataW.trod_int Tryz.underlying3 i1
  simp only [List.cons.injEq, and_true] at e0 e1
  subst e0 e1
  exact ⟨s0, s1, rfl, wfb l0, wfb l1⟩
end Go.Proofs.YtdnbhgkbfbgnaaaGreatDoor
namespace Go.Proofs.YtdnbhgkbfbgnaaaGreatDoor
open Go.ChangeShapes Go.WideShapes Go.ChangeAt Go.RowKit
theorem cRatio : Tryz.prog.cellsOf 23 = 2 := by kernel_rfl
theorem cStr : Tryz.prog.cellsOf 9 = 1 := by kernel_rfl
set_option maxRecDepth 100000 in
theorem open_ratio {H : Type} {enc : TypeId × Value → H} {W : World} {b : Nat} {sp : Nat → Bool} {held : Bool} {base : Nat} {v : Value} {d : DataW H} {p : List MemPlace}
  (hval : Value.okWide Tryz.prog W .any b 23 v) (h : DataW.Trod enc Tryz.prog W base sp held 23 v d p) :
  ∃ a0 a1 : ByteArray, v = .agg #[.string a0, .string a1] ∧ a0.size ≤ maxLen ∧ a1.size ≤ maxLen := by
 simp only [Value.okWide, Tryz.underlying23] at hval
 obtain ⟨cs, rfl, hs, _⟩ := hval
 obtain ⟨fuel, hf⟩ := h
 obtain ⟨y0, y1, n, _, _, h0, h1⟩ := trod_struct2 Tryz.underlying23 hf
 rw [cRatio] at hs
 obtain ⟨c0, c1, rfl⟩ : ∃ c0 c1, cs = #[c0, c1] := by
  rcases cs with ⟨l⟩
  match l, hs with
  | [c0, c1], _ => exact ⟨c0, c1, rfl⟩
 simp [cStr, Value.cells] at h0 h1
 obtain ⟨s0, e0, _, l0⟩ := DataW.trod_string Tryz.underlying9 h0
 obtain ⟨s1, e1, _, l1⟩ := DataW.trod_string Tryz.underlying9 h1
 simp only [List.cons.injEq, and_true] at e0 e1
 subst e0 e1
 exact ⟨s0, s1, rfl, l0, l1⟩
theorem max_le {s : ByteArray} (h : s.size ≤ maxLen) : s.size ≤ 9223372036854775807 := Nat.le_trans h (by decide)
end Go.Proofs.YtdnbhgkbfbgnaaaGreatDoor
namespace Go.Proofs.YtdnbhgkbfbgnaaaGreatDoor
open Go.RowKit
theorem rDiv_S (n d : Int) (hn : n.natAbs < 10 ^ 200) (hd : d.natAbs < 10 ^ 200) (h0 : d ≠ 0) (w : World) :
  Calls Tryz.prog 62 #[.string (S n), .string (S d)] w fun e w' => e = .returned (.tuple #[.string (S (n / d)), .string (S (n % d)), .int .i64 0]) ∧ Below w.heap.size w w' := by
 have h := rDiv_ok (S n) (S d) (txt n) (txt d) w (S_list n) (S_list d) (txt_vld hn) (txt_vld hd) (by rw [txt_num]; exact h0)
 rw [txt_num, txt_num] at h
 exact h
theorem rCompare_S (n d : Int) (hn : n.natAbs < 10 ^ 200) (hd : d.natAbs < 10 ^ 200) (w : World) :
  Calls Tryz.prog 63 #[.string (S n), .string (S d)] w fun e w' => e = .returned (.int .i64 (cmpN n d)) ∧ Below w.heap.size w w' := by
 have h := rCompare_ok (S n) (S d) (txt n) (txt d) w (S_list n) (S_list d) (txt_vld hn) (txt_vld hd)
 rw [txt_num, txt_num] at h
 exact h
def z1 (z : Int) : Int := if z = 0 then 0 else 1
set_option maxRecDepth 100000 in
set_option maxHeartbeats 2000000 in
theorem v4zeroOr_S (z : Int) (w : World) : Calls Tryz.prog 64 #[.string (S z)] w fun e w' => e = .returned (.string (S (z1 z))) ∧ Below w.heap.size w w' := by
 have ht := S_eq0 z
 by_cases h : z = 0
 ·
  rw [decide_eq_true h] at ht
  rw [z1, if_pos h, ← h]
  clear h
  generalize S z = s at *
  go_enter Tryz.func64, Tryz.ntmps64
  go_wp2
  go_ret
  exact ⟨rfl, Below.refl _ _⟩
 ·
  rw [decide_eq_false h] at ht
  rw [z1, if_neg h, S_one]
  clear h
  generalize S z = s at *
  go_enter Tryz.func64, Tryz.ntmps64
  go_wp2
  go_ret
  exact ⟨rfl, Below.refl _ _⟩
theorem cmpN_z1 (a b : Int) (ha : 0 ≤ a) (hb : 0 ≤ b) (h : a = 0 ∨ b = 0) : cmpN (z1 a) (z1 b) = cmpN a b := by
 unfold cmpN z1
 repeat' split
 all_goals omega
theorem cmpN_swap (a b : Int) : cmpN b a = - cmpN a b := by
 unfold cmpN
 repeat' split
 all_goals omega
theorem z1_lt (z : Int) : (z1 z).natAbs < 10 ^ 200 := by
 unfold z1
 split <;> decide
def strN (v : Value) : Nat := match v with | .string s => (num s.data.toList).toNat | _ => 0
theorem strN_S (z : Int) : strN (.string (S z)) = z.toNat := by
 show (num (S z).data.toList).toNat = _
 rw [S_list, txt_num]
theorem sg_mul {sg R : Int} (h : sg = 1 ∨ sg = -1) : sg * (sg * R) = R := by
 rcases h with rfl | rfl <;> omega
set_option maxRecDepth 100000 in
set_option maxHeartbeats 2000000 in
theorem v4Compare_no (s1 s2 s3 s4 : ByteArray) (L1 L2 L3 L4 : List UInt8) (w : World) (hL1 : s1.data.toList = L1) (hL2 : s2.data.toList = L2) (hL3 : s3.data.toList = L3) (hL4 : s4.data.toList = L4) (hl1 : L1.length ≤ 60000) (hl2 : L2.length ≤ 60000) (hl3 : L3.length ≤ 60000) (hl4 : L4.length ≤ 60000) (hv : (vR L1 L2 && vR L3 L4) = false) :
  Calls Tryz.prog 22 #[.agg #[.string s1, .string s2], .agg #[.string s3, .string s4]] w fun e w' => e = .returned (.int .i64 0) ∧ Below w.heap.size w w' := by
 have c1 := fun W => v4Valid_any s1 s2 L1 L2 W hL1 hL2 hl1 hl2
 have c2 := fun W => v4Valid_any s3 s4 L3 L4 W hL3 hL4 hl3 hl4
 obtain ⟨r1, r2⟩ := two_ratios w (.string s1) (.string s2) (.string s3) (.string s4)
 have HB := Lib.hid ((below_alloc w (.cells #[.string s1, .string s2] 23)).alloc (by rw [World.size_alloc]; omega) (.cells #[.string s3, .string s4] 23))
 have a0 := r1.c0
 have a1 := r1.c1
 have b0 := r2.c0
 have b1 := r2.c1
 have HR := Lib.hid (And.intro r1 r2)
 clear r1 r2 hL1 hL2 hL3 hL4 hl1 hl2 hl3 hl4
 generalize vR L1 L2 = v1 at *
 generalize vR L3 L4 = v2 at *
 have C1 := Lib.hid c1
 have C2 := Lib.hid c2
 clear c1 c2
 cases v1 <;> cases v2 <;> first | (exact absurd hv (by decide)) | skip
 all_goals
  clear hv
  go_enter Tryz.func22, Tryz.ntmps22
  go_wp2_with (first | (go_at_call 31; (with_reducible refine (C1.out _).mono ?_); rintro e W ⟨rfl, B⟩; have hr := (And.intro (HR.out.1.keep B HR.out.1.lt) (HR.out.2.keep B HR.out.2.lt)); have hb := HB.out.trans (B.mono HB.out.size); clear HR HB B a0 a1 b0 b1; have HR := Lib.hid hr; have HB := Lib.hid hb; have a0 := hr.1.c0; have a1 := hr.1.c1; have b0 := hr.2.c0; have b1 := hr.2.c1; clear hr hb) | (go_at_call 31; (with_reducible refine (C2.out _).mono ?_); rintro e W ⟨rfl, B⟩; have hr := (And.intro (HR.out.1.keep B HR.out.1.lt) (HR.out.2.keep B HR.out.2.lt)); have hb := HB.out.trans (B.mono HB.out.size); clear HR HB B a0 a1 b0 b1; have HR := Lib.hid hr; have HB := Lib.hid hb; have a0 := hr.1.c0; have a1 := hr.1.c1; have b0 := hr.2.c0; have b1 := hr.2.c1; clear hr hb))
  go_ret
  exact ⟨rfl, HB.out⟩
set_option maxRecDepth 100000 in
set_option maxHeartbeats 8000000 in
theorem v4Compare_S (n1 d1 n2 d2 R : Int) (w : World) (v1' : vR (txt n1) (txt d1) = true) (v2' : vR (txt n2) (txt d2) = true) (p1 : 0 < d1) (p2 : 0 < d2) (b1' : n1.natAbs < 10 ^ 200) (b2' : d1.natAbs < 10 ^ 200) (b3' : n2.natAbs < 10 ^ 200) (b4' : d2.natAbs < 10 ^ 200) (hR : cmpN (n1 * d2) (n2 * d1) = R) (hR3 : R = -1 ∨ R = 0 ∨ R = 1) :
  Calls Tryz.prog 22 #[.agg #[.string (S n1), .string (S d1)], .agg #[.string (S n2), .string (S d2)]] w fun e w' => e = .returned (.int .i64 R) ∧ Below w.heap.size w w' := by
 have cv1 := fun W => v4Valid_any (S n1) (S d1) (txt n1) (txt d1) W (S_list _) (S_list _) (S_len b1') (S_len b2')
 have cv2 := fun W => v4Valid_any (S n2) (S d2) (txt n2) (txt d2) W (S_list _) (S_list _) (S_len b3') (S_len b4')
 rw [v1'] at cv1
 rw [v2'] at cv2
 clear v1' v2'
 obtain ⟨r1, r2⟩ := two_ratios w (.string (S n1)) (.string (S d1)) (.string (S n2)) (.string (S d2))
 have HB := Lib.hid ((below_alloc w (.cells #[.string (S n1), .string (S d1)] 23)).alloc (by rw [World.size_alloc]; omega) (.cells #[.string (S n2), .string (S d2)] 23))
 have a0 := r1.c0
 have a1 := r1.c1
 have b0 := r2.c0
 have b1 := r2.c1
 have HR := Lib.hid (And.intro r1 r2)
 have C1 := Lib.hid cv1
 have C2 := Lib.hid cv2
 have HI := Lib.hid (show 0 < d1 ∧ 0 < d2 ∧ n1.natAbs < 10 ^ 200 ∧ d1.natAbs < 10 ^ 200 ∧ n2.natAbs < 10 ^ 200 ∧ d2.natAbs < 10 ^ 200 ∧ cmpN (n1 * d2) (n2 * d1) = 1 * R from ⟨p1, p2, b1', b2', b3', b4', by rw [Int.one_mul]; exact hR⟩)
 clear r1 r2 cv1 cv2 p1 p2 b1' b2' b3' b4' hR
 go_enter Tryz.func22, Tryz.ntmps22
 go_wp2_with (first | (go_at_call 31; (with_reducible refine (C1.out _).mono ?_); rintro e W ⟨rfl, B⟩; have hr := (And.intro (HR.out.1.keep B HR.out.1.lt) (HR.out.2.keep B HR.out.2.lt)); have hb := HB.out.trans (B.mono HB.out.size); clear HR HB B a0 a1 b0 b1; have HR := Lib.hid hr; have HB := Lib.hid hb; have a0 := hr.1.c0; have a1 := hr.1.c1; have b0 := hr.2.c0; have b1 := hr.2.c1; clear hr hb) | (go_at_call 31; (with_reducible refine (C2.out _).mono ?_); rintro e W ⟨rfl, B⟩; have hr := (And.intro (HR.out.1.keep B HR.out.1.lt) (HR.out.2.keep B HR.out.2.lt)); have hb := HB.out.trans (B.mono HB.out.size); clear HR HB B a0 a1 b0 b1; have HR := Lib.hid hr; have HB := Lib.hid hb; have a0 := hr.1.c0; have a1 := hr.1.c1; have b0 := hr.2.c0; have b1 := hr.2.c1; clear hr hb))
 clear C1 C2 HR a0 a1 b0 b1
 go_loopw [7, 8, 9, 10, 11] (fun sv nv dv mv cv wr => ∃ n1 d1 n2 d2 sg : Int, sv = .int .i64 sg ∧ nv = .string (S n1) ∧ dv = .string (S d1) ∧ mv = .string (S n2) ∧ cv = .string (S d2) ∧ (sg = 1 ∨ sg = -1) ∧ Hid (0 < d1 ∧ 0 < d2 ∧ n1.natAbs < 10 ^ 200 ∧ d1.natAbs < 10 ^ 200 ∧ n2.natAbs < 10 ^ 200 ∧ d2.natAbs < 10 ^ 200 ∧ cmpN (n1 * d2) (n2 * d1) = sg * R) ∧ Hid (Below w.heap.size w wr)) (fun _ _ dv _ cv _ => strN dv + strN cv)
 case atStart => exact ⟨n1, d1, n2, d2, 1, rfl, rfl, rfl, rfl, rfl, .inl rfl, HI, HB⟩
 case round =>
  clear HI HB
  obtain ⟨n1, d1, n2, d2, sg, rfl, rfl, rfl, rfl, rfl, hsg, hI, HB⟩ := hrel
  obtain ⟨p1, p2, b1', b2', b3', b4', hR⟩ := hI.out
  clear hI
  have q1b : (n1 / d1).natAbs < 10 ^ 200 := Nat.lt_of_le_of_lt (Int.natAbs_ediv_le_natAbs _ _) b1'
  have q2b : (n2 / d2).natAbs < 10 ^ 200 := Nat.lt_of_le_of_lt (Int.natAbs_ediv_le_natAbs _ _) b3'
  have n1p := Int.emod_nonneg n1 (show d1 ≠ 0 by omega)
  have n1l := Int.emod_lt_of_pos n1 p1
  have n2p := Int.emod_nonneg n2 (show d2 ≠ 0 by omega)
  have n2l := Int.emod_lt_of_pos n2 p2
  have r1b : (n1 % d1).natAbs < 10 ^ 200 := by omega
  have r2b : (n2 % d2).natAbs < 10 ^ 200 := by omega
  have CA := Lib.hid (fun W => rDiv_S n1 d1 b1' b2' (by omega) W)
  have CB := Lib.hid (fun W => rDiv_S n2 d2 b3' b4' (by omega) W)
  have cq := fun W => rCompare_S (n1 / d1) (n2 / d2) q1b q2b W
  have wn : IntKind.i64.wrap (-sg) = -sg := by rcases hsg with rfl | rfl <;> decide
  have wr9 : ∀ x, sg * x = R → IntKind.i64.wrap (sg * x) = R := fun x h => by
   rw [h]; rcases hR3 with rfl | rfl | rfl <;> decide
  by_cases hq : n1 / d1 = n2 / d2
  ·
   rw [show cmpN (n1 / d1) (n2 / d2) = 0 by rw [hq, cmpN, if_neg (by omega), if_neg (by omega)]] at cq
   have CQ := Lib.hid cq
   have hs2 := cmp_step2 n1 d1 n2 d2 p1 p2 hq
   have hs3 := cmp_step3 n1 d1 n2 d2 p1 p2 hq
   by_cases h0 : n1 % d1 = 0 ∨ n2 % d2 = 0
   ·
    have cr := fun W => rCompare_S (z1 (n1 % d1)) (z1 (n2 % d2)) (z1_lt _) (z1_lt _) W
    rw [cmpN_z1 _ _ n1p n2p h0, hs3 h0, hR] at cr
    have CR := Lib.hid cr
    have CZ1 := Lib.hid (fun W => v4zeroOr_S (n1 % d1) W)
    have CZ2 := Lib.hid (fun W => v4zeroOr_S (n2 % d2) W)
    have wr8 := wr9 (sg * R) (sg_mul hsg)
    have ht : ((S (n1 % d1)).toList == [48]) = true ∨ (((S (n1 % d1)).toList == [48]) = false ∧ ((S (n2 % d2)).toList == [48]) = true) := by
     rw [S_eq0, S_eq0]
     by_cases h : n1 % d1 = 0
     ·
      exact .inl (decide_eq_true h)
     ·
      exact .inr ⟨decide_eq_false h, decide_eq_true (h0.resolve_left h)⟩
    clear hs2 hs3 h0 hq hR cr cq q1b q2b r1b r2b p1 p2 b1' b2' b3' b4' n1p n1l n2p n2l wn wr9
    generalize S (z1 (n1 % d1)) = sz1 at *
    generalize S (z1 (n2 % d2)) = sz2 at *
    generalize S (n1 / d1) = sq1 at *
    generalize S (n2 / d2) = sq2 at *
    generalize S (n1 % d1) = srA at *
    generalize S (n2 % d2) = srB at *
    generalize S n1 = sn1 at *
    generalize S d1 = sd1 at *
    generalize S n2 = sn2 at *
    generalize S d2 = sd2 at *
    generalize sg * R = sR at *
    rcases ht with ht | ⟨ht, ht2⟩
    all_goals
     go_wp2_with (first | (go_at_call 62; (with_reducible refine (CA.out _).mono ?_); rintro e W ⟨rfl, B⟩; have hb := HB.out.trans (B.mono HB.out.size); clear HB B; have HB := Lib.hid hb; clear hb) | (go_at_call 62; (with_reducible refine (CB.out _).mono ?_); rintro e W ⟨rfl, B⟩; have hb := HB.out.trans (B.mono HB.out.size); clear HB B; have HB := Lib.hid hb; clear hb) | (go_at_call 63; (with_reducible refine (CQ.out _).mono ?_); rintro e W ⟨rfl, B⟩; have hb := HB.out.trans (B.mono HB.out.size); clear HB B; have HB := Lib.hid hb; clear hb) | (go_at_call 63; (with_reducible refine (CR.out _).mono ?_); rintro e W ⟨rfl, B⟩; have hb := HB.out.trans (B.mono HB.out.size); clear HB B; have HB := Lib.hid hb; clear hb) | (go_at_call 64; (with_reducible refine (CZ1.out _).mono ?_); rintro e W ⟨rfl, B⟩; have hb := HB.out.trans (B.mono HB.out.size); clear HB B; have HB := Lib.hid hb; clear hb) | (go_at_call 64; (with_reducible refine (CZ2.out _).mono ?_); rintro e W ⟨rfl, B⟩; have hb := HB.out.trans (B.mono HB.out.size); clear HB B; have HB := Lib.hid hb; clear hb))
     go_ret
     exact ⟨rfl, HB.out⟩
   ·
    have hA : n1 % d1 ≠ 0 := fun h => h0 (.inl h)
    have hB' : n2 % d2 ≠ 0 := fun h => h0 (.inr h)
    have ht : ((S (n1 % d1)).toList == [48]) = false := by rw [S_eq0]; exact decide_eq_false hA
    have ht2 : ((S (n2 % d2)).toList == [48]) = false := by rw [S_eq0]; exact decide_eq_false hB'
    have hJ : Hid (0 < n1 % d1 ∧ 0 < n2 % d2 ∧ d1.natAbs < 10 ^ 200 ∧ (n1 % d1).natAbs < 10 ^ 200 ∧ d2.natAbs < 10 ^ 200 ∧ (n2 % d2).natAbs < 10 ^ 200 ∧ cmpN (d1 * (n2 % d2)) (d2 * (n1 % d1)) = -sg * R) := Lib.hid ⟨by omega, by omega, b2', r1b, b4', r2b, by rw [cmpN_swap, hs2, hR, Int.neg_mul]⟩
    have hM : Hid ((n1 % d1).toNat + (n2 % d2).toNat < d1.toNat + d2.toNat) := Lib.hid (by omega)
    have hsg' : Hid (-sg = 1 ∨ -sg = -1) := Lib.hid (by omega)
    clear hs2 hs3 h0 hq hR hA hB' cq q1b q2b r1b r2b p1 p2 b1' b2' b3' b4' n1p n1l n2p n2l wr9 hsg
    generalize hsq1 : S (n1 / d1) = sq1 at *
    generalize hsq2 : S (n2 / d2) = sq2 at *
    generalize hrA : S (n1 % d1) = srA at *
    generalize hrB : S (n2 % d2) = srB at *
    generalize hn1 : S n1 = sn1 at *
    generalize hd1 : S d1 = sd1 at *
    generalize hn2 : S n2 = sn2 at *
    generalize hd2 : S d2 = sd2 at *
    have HE := Lib.hid (And.intro hrA (And.intro hrB (And.intro hd1 hd2)))
    clear hsq1 hsq2 hrA hrB hn1 hd1 hn2 hd2
    go_wp2_with (first | (go_at_call 62; (with_reducible refine (CA.out _).mono ?_); rintro e W ⟨rfl, B⟩; have hb := HB.out.trans (B.mono HB.out.size); clear HB B; have HB := Lib.hid hb; clear hb) | (go_at_call 62; (with_reducible refine (CB.out _).mono ?_); rintro e W ⟨rfl, B⟩; have hb := HB.out.trans (B.mono HB.out.size); clear HB B; have HB := Lib.hid hb; clear hb) | (go_at_call 63; (with_reducible refine (CQ.out _).mono ?_); rintro e W ⟨rfl, B⟩; have hb := HB.out.trans (B.mono HB.out.size); clear HB B; have HB := Lib.hid hb; clear hb))
    go_roundw
    case rel =>
     obtain ⟨g1, g2, g3, g4⟩ := HE.out
     exact ⟨d1, n1 % d1, d2, n2 % d2, -sg, rfl, by rw [g3], by rw [g1], by rw [g4], by rw [g2], hsg'.out, hJ, HB⟩
    case measure =>
     obtain ⟨g1, g2, g3, g4⟩ := HE.out
     show strN (.string srA) + strN (.string srB) < strN (.string sd1) + strN (.string sd2)
     rw [← g1, ← g2, ← g3, ← g4, strN_S, strN_S, strN_S, strN_S]
     exact hM.out
  ·
   have hs1 := cmp_step1 n1 d1 n2 d2 p1 p2 hq
   rw [hR] at hs1
   rw [hs1.1] at cq
   have CQ := Lib.hid cq
   have hne := hs1.2
   have wr8 := wr9 (sg * R) (sg_mul hsg)
   clear hs1 hq hR cq q1b q2b r1b r2b p1 p2 b1' b2' b3' b4' n1p n1l n2p n2l wn wr9
   generalize S (n1 / d1) = sq1 at *
   generalize S (n2 / d2) = sq2 at *
   generalize S (n1 % d1) = srA at *
   generalize S (n2 % d2) = srB at *
   generalize S n1 = sn1 at *
   generalize S d1 = sd1 at *
   generalize S n2 = sn2 at *
   generalize S d2 = sd2 at *
   generalize sg * R = sR at *
   go_wp2_with (first | (go_at_call 62; (with_reducible refine (CA.out _).mono ?_); rintro e W ⟨rfl, B⟩; have hb := HB.out.trans (B.mono HB.out.size); clear HB B; have HB := Lib.hid hb; clear hb) | (go_at_call 62; (with_reducible refine (CB.out _).mono ?_); rintro e W ⟨rfl, B⟩; have hb := HB.out.trans (B.mono HB.out.size); clear HB B; have HB := Lib.hid hb; clear hb) | (go_at_call 63; (with_reducible refine (CQ.out _).mono ?_); rintro e W ⟨rfl, B⟩; have hb := HB.out.trans (B.mono HB.out.size); clear HB B; have HB := Lib.hid hb; clear hb))
   go_ret
   exact ⟨rfl, HB.out⟩
theorem v4Compare_R (a b : Rat) (ha : fitR 200 a) (hb : fitR 200 b) (w : World) :
  Calls Tryz.prog 22 #[RV a, RV b] w fun e w' => e = .returned (.int .i64 (cmpR a b)) ∧ Below w.heap.size w w' :=
 v4Compare_S a.num a.den b.num b.den (cmpR a b) w (vR_q a ha) (vR_q b hb) (den_pos a) (den_pos b) ha.1 (den_abs a ha) hb.1 (den_abs b hb) (cmpR_N a b) (cmpR_bd a b)
theorem S_ten_sb (n : Nat) : S ((10 ^ (n + 1) : Nat) : Int) = S ((10 ^ n : Nat) : Int) ++ ⟨#[48]⟩ := by
 refine toList_inj ?_
 rw [ByteArray.toList_eq, ByteArray.toList_eq, ByteArray.data_append, Array.toList_append, S_ten, S_ten, ByteArray.data_append, ByteArray.data_append, Array.toList_append, Array.toList_append, List.replicate_succ']
 simp
theorem S_ten_size (n : Nat) : (S ((10 ^ n : Nat) : Int)).size = n + 1 := by
 rw [S_ten, ByteArray.size_append]
 simp [ByteArray.size]
 omega
set_option maxRecDepth 100000 in
set_option maxHeartbeats 2000000 in
theorem v4power_S (n : Nat) (w : World) (h : n ≤ 30) : Calls Tryz.prog 125 #[.int .i64 (n : Int)] w fun e w' => e = .returned (.string (S ((10 ^ n : Nat) : Int))) ∧ Below w.heap.size w w' := by
 go_enter Tryz.func125, Tryz.ntmps125
 go_wp2_with fail
 go_loopw [3, 4] (fun sv iv wr => ∃ i : Nat, i ≤ n ∧ sv = .string (S ((10 ^ i : Nat) : Int)) ∧ iv = .int .i64 (i : Int) ∧ w = wr) (fun _ iv _ => n - (intOf iv).toNat)
 case atStart => exact ⟨0, by omega, by show Value.string _ = Value.string (S 1); rw [S_one], rfl, rfl⟩
 case round =>
  obtain ⟨i, hi, rfl, rfl, rfl⟩ := hrel
  by_cases hlt : i < n
  ·
   have hz := S_ten_size i
   have HS := Lib.hid (S_ten_sb i)
   generalize S ((10 ^ i : Nat) : Int) = si at *
   go_wp2_with fail
   go_roundw
   case rel => exact ⟨i + 1, by omega, by rw [HS.out], rfl, by first | rfl | trivial⟩
   case measure => show n - (i + 1) < n - i; omega
  ·
   obtain rfl : i = n := by omega
   go_wp2_with fail
   go_ret
   exact ⟨rfl, Below.refl _ _⟩
set_option maxRecDepth 100000 in
set_option maxHeartbeats 2000000 in
theorem v4grid_no (s1 s2 : ByteArray) (L1 L2 : List UInt8) (p : Int) (w : World) (hL1 : s1.data.toList = L1) (hL2 : s2.data.toList = L2) (hl1 : L1.length ≤ 60000) (hl2 : L2.length ≤ 60000) (hv : vR L1 L2 = false ∨ ¬ (0 ≤ p ∧ p ≤ 30)) :
  Calls Tryz.prog 71 #[.agg #[.string s1, .string s2], .int .i64 p] w fun e w' => e = .returned (.tuple #[.string ⟨#[]⟩, .string ⟨#[]⟩, .string ⟨#[]⟩, .bool false]) ∧ Below w.heap.size w w' := by
 have cv := fun W => v4Valid_any s1 s2 L1 L2 W hL1 hL2 hl1 hl2
 have CV := Lib.hid cv
 have r := RBlk.new w (.string s1) (.string s2)
 have HB := Lib.hid (below_alloc w (.cells #[.string s1, .string s2] 23))
 have a0 := r.c0
 have a1 := r.c1
 have HR := Lib.hid r
 clear r cv hL1 hL2 hl1 hl2
 generalize vR L1 L2 = v at *
 cases v
 ·
  clear hv
  go_enter Tryz.func71, Tryz.ntmps71
  go_wp2_with (go_at_call 31; (with_reducible refine (CV.out _).mono ?_); rintro e W ⟨rfl, B⟩; have hr := (HR.out.keep B HR.out.lt); have hb := HB.out.trans (B.mono HB.out.size); clear HR HB B a0 a1; have HR := Lib.hid hr; have HB := Lib.hid hb; have a0 := hr.c0; have a1 := hr.c1; clear hr hb)
  refine bodyPost_ret (results_four rfl _ _) rfl ?_
  exact ⟨rfl, HB.out⟩
 ·
  have hp := hv.resolve_left (by decide)
  clear hv
  by_cases hn : p < 0
  ·
   go_enter Tryz.func71, Tryz.ntmps71
   go_wp2_with (go_at_call 31; (with_reducible refine (CV.out _).mono ?_); rintro e W ⟨rfl, B⟩; have hr := (HR.out.keep B HR.out.lt); have hb := HB.out.trans (B.mono HB.out.size); clear HR HB B a0 a1; have HR := Lib.hid hr; have HB := Lib.hid hb; have a0 := hr.c0; have a1 := hr.c1; clear hr hb)
   refine bodyPost_ret (results_four rfl _ _) rfl ?_
   exact ⟨rfl, HB.out⟩
  ·
   have h30 : 30 < p := by omega
   clear hp
   go_enter Tryz.func71, Tryz.ntmps71
   go_wp2_with (go_at_call 31; (with_reducible refine (CV.out _).mono ?_); rintro e W ⟨rfl, B⟩; have hr := (HR.out.keep B HR.out.lt); have hb := HB.out.trans (B.mono HB.out.size); clear HR HB B a0 a1; have HR := Lib.hid hr; have HB := Lib.hid hb; have a0 := hr.c0; have a1 := hr.c1; clear hr hb)
   refine bodyPost_ret (results_four rfl _ _) rfl ?_
   exact ⟨rfl, HB.out⟩
set_option maxRecDepth 100000 in
set_option maxHeartbeats 2000000 in
theorem v4grid_R (a : Rat) (ha : fitR 200 a) (n : Nat) (hn : n ≤ 30) (w : World) :
  Calls Tryz.prog 71 #[RV a, .int .i64 (n : Int)] w fun e w' => e = .returned (if fits (a.num * ((10 ^ n : Nat) : Int)) then .tuple #[.string (S (a.num * ((10 ^ n : Nat) : Int) / a.den)), .string (S (a.num * ((10 ^ n : Nat) : Int) % a.den)), .string (S ((10 ^ n : Nat) : Int)), .bool true] else .tuple #[.string ⟨#[]⟩, .string ⟨#[]⟩, .string ⟨#[]⟩, .bool false]) ∧ Below w.heap.size w w' := by
 have hA := den_abs a ha
 have cv := fun W => v4Valid_any (S a.num) (S (a.den : Int)) (txt a.num) (txt (a.den : Int)) W (S_list _) (S_list _) (S_len ha.1) (S_len hA)
 rw [vR_q a ha] at cv
 have CV := Lib.hid cv
 have CP := Lib.hid (fun W => v4power_S n W hn)
 have ht9 : (((10 ^ n : Nat)) : Int).natAbs < 10 ^ 200 := ten_lt (by omega)
 have cm := fun W => mul_any (S a.num) (S ((10 ^ n : Nat) : Int)) _ _ W (S_list _) (S_list _) (txt_vld ha.1) (txt_vld ht9)
 rw [txt_num, txt_num] at cm
 have hd0 := den_pos a
 have cd := fun (h : (a.num * ((10 ^ n : Nat) : Int)).natAbs < 10 ^ 200) W => rDiv_S (a.num * ((10 ^ n : Nat) : Int)) a.den h hA (by omega) W
 have hp1 : ¬ ((n : Int) < 0) := by omega
 have hp2 : ¬ (30 < (n : Int)) := by omega
 unfold RV
 generalize a.num * ((10 ^ n : Nat) : Int) = x at *
 generalize S ((10 ^ n : Nat) : Int) = st at *
 generalize S a.num = s1 at *
 generalize S (a.den : Int) = s2 at *
 have r := RBlk.new w (.string s1) (.string s2)
 have HB := Lib.hid (below_alloc w (.cells #[.string s1, .string s2] 23))
 have a0 := r.c0
 have a1 := r.c1
 have HR := Lib.hid r
 clear r cv ha hA ht9 hd0
 cases hf : fits x
 ·
  have e1 : er x = 30 := by rw [er, if_neg (of_decide_eq_false hf)]
  rw [e1] at cm
  have CM := Lib.hid cm
  rw [if_neg (by decide)]
  clear cm cd hf e1
  generalize (⟨(rs x).toArray⟩ : ByteArray) = sx at *
  go_enter Tryz.func71, Tryz.ntmps71
  go_wp2_with (first | (go_at_call 31; (with_reducible refine (CV.out _).mono ?_); rintro e W ⟨rfl, B⟩; have hr := (HR.out.keep B HR.out.lt); have hb := HB.out.trans (B.mono HB.out.size); clear HR HB B a0 a1; have HR := Lib.hid hr; have HB := Lib.hid hb; have a0 := hr.c0; have a1 := hr.c1; clear hr hb) | (go_at_call 125; (with_reducible refine (CP.out _).mono ?_); rintro e W ⟨rfl, B⟩; have hr := (HR.out.keep B HR.out.lt); have hb := HB.out.trans (B.mono HB.out.size); clear HR HB B a0 a1; have HR := Lib.hid hr; have HB := Lib.hid hb; have a0 := hr.c0; have a1 := hr.c1; clear hr hb) | (go_at_call 59; (with_reducible refine (CM.out _).mono ?_); rintro e W ⟨rfl, B⟩; have hr := (HR.out.keep B HR.out.lt); have hb := HB.out.trans (B.mono HB.out.size); clear HR HB B a0 a1; have HR := Lib.hid hr; have HB := Lib.hid hb; have a0 := hr.c0; have a1 := hr.c1; clear hr hb))
  refine bodyPost_ret (results_four rfl _ _) rfl ?_
  exact ⟨rfl, HB.out⟩
 ·
  have px := of_decide_eq_true hf
  have e1 : er x = 0 := by rw [er, if_pos px]
  rw [e1, rs_S px] at cm
  have CM := Lib.hid cm
  have CD := Lib.hid (cd px)
  rw [if_pos rfl]
  clear cm cd hf e1 px
  generalize S (x / (a.den : Int)) = sq at *
  generalize S (x % (a.den : Int)) = sr at *
  generalize S x = sx at *
  go_enter Tryz.func71, Tryz.ntmps71
  go_wp2_with (first | (go_at_call 31; (with_reducible refine (CV.out _).mono ?_); rintro e W ⟨rfl, B⟩; have hr := (HR.out.keep B HR.out.lt); have hb := HB.out.trans (B.mono HB.out.size); clear HR HB B a0 a1; have HR := Lib.hid hr; have HB := Lib.hid hb; have a0 := hr.c0; have a1 := hr.c1; clear hr hb) | (go_at_call 125; (with_reducible refine (CP.out _).mono ?_); rintro e W ⟨rfl, B⟩; have hr := (HR.out.keep B HR.out.lt); have hb := HB.out.trans (B.mono HB.out.size); clear HR HB B a0 a1; have HR := Lib.hid hr; have HB := Lib.hid hb; have a0 := hr.c0; have a1 := hr.c1; clear hr hb) | (go_at_call 59; (with_reducible refine (CM.out _).mono ?_); rintro e W ⟨rfl, B⟩; have hr := (HR.out.keep B HR.out.lt); have hb := HB.out.trans (B.mono HB.out.size); clear HR HB B a0 a1; have HR := Lib.hid hr; have HB := Lib.hid hb; have a0 := hr.c0; have a1 := hr.c1; clear hr hb) | (go_at_call 62; (with_reducible refine (CD.out _).mono ?_); rintro e W ⟨rfl, B⟩; have hr := (HR.out.keep B HR.out.lt); have hb := HB.out.trans (B.mono HB.out.size); clear HR HB B a0 a1; have HR := Lib.hid hr; have HB := Lib.hid hb; have a0 := hr.c0; have a1 := hr.c1; clear hr hb))
  refine bodyPost_ret (results_four rfl _ _) rfl ?_
  exact ⟨rfl, HB.out⟩
def rb (ok : Bool) (x y : ByteArray) (ev : Int) : Value := if ok then .tuple #[.agg #[.string x, .string y], .int .i64 ev] else .tuple #[RZ, .int .i64 40]
set_option maxRecDepth 100000 in
set_option maxHeartbeats 2000000 in
theorem v4Down_via (s1 s2 q rest T x y : ByteArray) (p ev : Int) (ok : Bool) (w : World)
  (cg : ∀ W, Calls Tryz.prog 71 #[.agg #[.string s1, .string s2], .int .i64 p] W fun e w' => e = .returned (.tuple #[.string q, .string rest, .string T, .bool ok]) ∧ Below W.heap.size W w')
  (cm : ok = true → ∀ W, Calls Tryz.prog 29 #[.string q, .string T] W fun e w' => e = .returned (.tuple #[.agg #[.string x, .string y], .int .i64 ev]) ∧ Below W.heap.size W w') :
  Calls Tryz.prog 25 #[.agg #[.string s1, .string s2], .int .i64 p] w fun e w' => e = .returned (rb ok x y ev) ∧ Below w.heap.size w w' := by
 obtain ⟨r1, r2⟩ := two_ratios w (.string s1) (.string s2) (.string ⟨#[]⟩) (.string ⟨#[]⟩)
 have HB := Lib.hid ((below_alloc w (.cells #[.string s1, .string s2] 23)).alloc (by rw [World.size_alloc]; omega) (.cells #[.string ⟨#[]⟩, .string ⟨#[]⟩] 23))
 have a0 := r1.c0
 have a1 := r1.c1
 have HR := Lib.hid (And.intro r1 r2)
 have CG := Lib.hid cg
 clear r1 r2 cg
 cases ok
 ·
  clear cm
  rw [rb, if_neg (by decide), RZ]
  go_enter Tryz.func25, Tryz.ntmps25
  go_wp2_with (go_at_call 71; (with_reducible refine (CG.out _).mono ?_); rintro e W ⟨rfl, B⟩; have hr := (And.intro (HR.out.1.keep B HR.out.1.lt) (HR.out.2.keep B HR.out.2.lt)); have hb := HB.out.trans (B.mono HB.out.size); clear HR HB B a0 a1; have HR := Lib.hid hr; have HB := Lib.hid hb; have a0 := hr.1.c0; have a1 := hr.1.c1; have c0 := hr.2.c0; have c1 := hr.2.c1; have f0 := hr.2.f 0; have f1 := hr.2.f 1; have hs := hr.2.s0 (.string ⟨#[]⟩); have d1 := hs.c1; have g1 := hs.f 1; have HS := Lib.hid (hs.s1 (.string ⟨#[]⟩)); have HBS := Lib.hid ((hb.setCell (p := ⟨w.heap.size + 1, 0, none⟩) (by show w.heap.size ≤ w.heap.size + 1; omega) (.string ⟨#[]⟩)).setCell (p := ⟨w.heap.size + 1, 1, none⟩) (by show w.heap.size ≤ w.heap.size + 1; omega) (.string ⟨#[]⟩)); clear hr hb hs)
  refine bodyPost_ret (results_ratio rfl _ _ (w.heap.size + 1) _ _ rfl HS.out) rfl ?_
  exact ⟨rfl, HBS.out⟩
 ·
  have CM := Lib.hid (cm rfl)
  clear cm
  rw [rb, if_pos rfl]
  go_enter Tryz.func25, Tryz.ntmps25
  go_wp2_with (first | (go_at_call 71; (with_reducible refine (CG.out _).mono ?_); rintro e W ⟨rfl, B⟩; have hr := (And.intro (HR.out.1.keep B HR.out.1.lt) (HR.out.2.keep B HR.out.2.lt)); have hb := HB.out.trans (B.mono HB.out.size); clear HR HB B a0 a1; have HR := Lib.hid hr; have HB := Lib.hid hb; have a0 := hr.1.c0; have a1 := hr.1.c1; clear hr hb) | (go_at_call 29; (with_reducible refine (CM.out _).mono ?_); rintro e W ⟨rfl, B⟩; have hr := (And.intro (HR.out.1.keep B HR.out.1.lt) (HR.out.2.keep B HR.out.2.lt)); have hb := HB.out.trans (B.mono HB.out.size); clear HR HB B a0 a1; have HR := Lib.hid hr; have HB := Lib.hid hb; have a0 := hr.1.c0; have a1 := hr.1.c1; have c0 := hr.2.c0; have c1 := hr.2.c1; have f0 := hr.2.f 0; have f1 := hr.2.f 1; have hs := hr.2.s0 (.string x); have d1 := hs.c1; have g1 := hs.f 1; have HS := Lib.hid (hs.s1 (.string y)); have HBS := Lib.hid ((hb.setCell (p := ⟨w.heap.size + 1, 0, none⟩) (by show w.heap.size ≤ w.heap.size + 1; omega) (.string x)).setCell (p := ⟨w.heap.size + 1, 1, none⟩) (by show w.heap.size ≤ w.heap.size + 1; omega) (.string y)); clear hr hb hs))
  refine bodyPost_ret (results_ratio rfl _ _ (w.heap.size + 1) _ _ rfl HS.out) rfl ?_
  exact ⟨rfl, HBS.out⟩
set_option maxRecDepth 100000 in
set_option maxHeartbeats 2000000 in
theorem v4Up_via (s1 s2 q rest T nx x y : ByteArray) (p ev : Int) (ok more : Bool) (w : World)
  (cg : ∀ W, Calls Tryz.prog 71 #[.agg #[.string s1, .string s2], .int .i64 p] W fun e w' => e = .returned (.tuple #[.string q, .string rest, .string T, .bool ok]) ∧ Below W.heap.size W w')
  (hm : (rest.toList == [48]) = !more)
  (ca : ok = true → more = true → ∀ W, Calls Tryz.prog 57 #[.string q, .string ⟨#[49]⟩] W fun e w' => e = .returned (.tuple #[.string nx, .int .i64 0]) ∧ Below W.heap.size W w')
  (hx : more = false → nx = q)
  (cm : ok = true → ∀ W, Calls Tryz.prog 29 #[.string nx, .string T] W fun e w' => e = .returned (.tuple #[.agg #[.string x, .string y], .int .i64 ev]) ∧ Below W.heap.size W w') :
  Calls Tryz.prog 27 #[.agg #[.string s1, .string s2], .int .i64 p] w fun e w' => e = .returned (rb ok x y ev) ∧ Below w.heap.size w w' := by
 obtain ⟨r1, r2⟩ := two_ratios w (.string s1) (.string s2) (.string ⟨#[]⟩) (.string ⟨#[]⟩)
 have HB := Lib.hid ((below_alloc w (.cells #[.string s1, .string s2] 23)).alloc (by rw [World.size_alloc]; omega) (.cells #[.string ⟨#[]⟩, .string ⟨#[]⟩] 23))
 have a0 := r1.c0
 have a1 := r1.c1
 have HR := Lib.hid (And.intro r1 r2)
 have CG := Lib.hid cg
 clear r1 r2 cg
 cases ok
 ·
  clear cm ca hx hm
  rw [rb, if_neg (by decide), RZ]
  go_enter Tryz.func27, Tryz.ntmps27
  go_wp2_with (go_at_call 71; (with_reducible refine (CG.out _).mono ?_); rintro e W ⟨rfl, B⟩; have hr := (And.intro (HR.out.1.keep B HR.out.1.lt) (HR.out.2.keep B HR.out.2.lt)); have hb := HB.out.trans (B.mono HB.out.size); clear HR HB B a0 a1; have HR := Lib.hid hr; have HB := Lib.hid hb; have a0 := hr.1.c0; have a1 := hr.1.c1; have c0 := hr.2.c0; have c1 := hr.2.c1; have f0 := hr.2.f 0; have f1 := hr.2.f 1; have hs := hr.2.s0 (.string ⟨#[]⟩); have d1 := hs.c1; have g1 := hs.f 1; have HS := Lib.hid (hs.s1 (.string ⟨#[]⟩)); have HBS := Lib.hid ((hb.setCell (p := ⟨w.heap.size + 1, 0, none⟩) (by show w.heap.size ≤ w.heap.size + 1; omega) (.string ⟨#[]⟩)).setCell (p := ⟨w.heap.size + 1, 1, none⟩) (by show w.heap.size ≤ w.heap.size + 1; omega) (.string ⟨#[]⟩)); clear hr hb hs)
  refine bodyPost_ret (results_ratio rfl _ _ (w.heap.size + 1) _ _ rfl HS.out) rfl ?_
  exact ⟨rfl, HBS.out⟩
 ·
  have CM := Lib.hid (cm rfl)
  clear cm
  rw [rb, if_pos rfl]
  cases more
  ·
   obtain rfl := hx rfl
   clear ca hx
   have ht : (rest.toList == [48]) = true := hm
   have ht2 : (rest.toList != [48]) = false := by rw [bne, ht]; rfl
   clear hm
   go_enter Tryz.func27, Tryz.ntmps27
   go_wp2_with (first | (go_at_call 71; (with_reducible refine (CG.out _).mono ?_); rintro e W ⟨rfl, B⟩; have hr := (And.intro (HR.out.1.keep B HR.out.1.lt) (HR.out.2.keep B HR.out.2.lt)); have hb := HB.out.trans (B.mono HB.out.size); clear HR HB B a0 a1; have HR := Lib.hid hr; have HB := Lib.hid hb; have a0 := hr.1.c0; have a1 := hr.1.c1; clear hr hb) | (go_at_call 29; (with_reducible refine (CM.out _).mono ?_); rintro e W ⟨rfl, B⟩; have hr := (And.intro (HR.out.1.keep B HR.out.1.lt) (HR.out.2.keep B HR.out.2.lt)); have hb := HB.out.trans (B.mono HB.out.size); clear HR HB B a0 a1; have HR := Lib.hid hr; have HB := Lib.hid hb; have a0 := hr.1.c0; have a1 := hr.1.c1; have c0 := hr.2.c0; have c1 := hr.2.c1; have f0 := hr.2.f 0; have f1 := hr.2.f 1; have hs := hr.2.s0 (.string x); have d1 := hs.c1; have g1 := hs.f 1; have HS := Lib.hid (hs.s1 (.string y)); have HBS := Lib.hid ((hb.setCell (p := ⟨w.heap.size + 1, 0, none⟩) (by show w.heap.size ≤ w.heap.size + 1; omega) (.string x)).setCell (p := ⟨w.heap.size + 1, 1, none⟩) (by show w.heap.size ≤ w.heap.size + 1; omega) (.string y)); clear hr hb hs))
   refine bodyPost_ret (results_ratio rfl _ _ (w.heap.size + 1) _ _ rfl HS.out) rfl ?_
   exact ⟨rfl, HBS.out⟩
  ·
   have CA := Lib.hid (ca rfl rfl)
   clear ca hx
   have ht : (rest.toList == [48]) = false := hm
   have ht2 : (rest.toList != [48]) = true := by rw [bne, ht]; rfl
   clear hm
   go_enter Tryz.func27, Tryz.ntmps27
   go_wp2_with (first | (go_at_call 71; (with_reducible refine (CG.out _).mono ?_); rintro e W ⟨rfl, B⟩; have hr := (And.intro (HR.out.1.keep B HR.out.1.lt) (HR.out.2.keep B HR.out.2.lt)); have hb := HB.out.trans (B.mono HB.out.size); clear HR HB B a0 a1; have HR := Lib.hid hr; have HB := Lib.hid hb; have a0 := hr.1.c0; have a1 := hr.1.c1; clear hr hb) | (go_at_call 57; (with_reducible refine (CA.out _).mono ?_); rintro e W ⟨rfl, B⟩; have hr := (And.intro (HR.out.1.keep B HR.out.1.lt) (HR.out.2.keep B HR.out.2.lt)); have hb := HB.out.trans (B.mono HB.out.size); clear HR HB B a0 a1; have HR := Lib.hid hr; have HB := Lib.hid hb; have a0 := hr.1.c0; have a1 := hr.1.c1; clear hr hb) | (go_at_call 29; (with_reducible refine (CM.out _).mono ?_); rintro e W ⟨rfl, B⟩; have hr := (And.intro (HR.out.1.keep B HR.out.1.lt) (HR.out.2.keep B HR.out.2.lt)); have hb := HB.out.trans (B.mono HB.out.size); clear HR HB B a0 a1; have HR := Lib.hid hr; have HB := Lib.hid hb; have a0 := hr.1.c0; have a1 := hr.1.c1; have c0 := hr.2.c0; have c1 := hr.2.c1; have f0 := hr.2.f 0; have f1 := hr.2.f 1; have hs := hr.2.s0 (.string x); have d1 := hs.c1; have g1 := hs.f 1; have HS := Lib.hid (hs.s1 (.string y)); have HBS := Lib.hid ((hb.setCell (p := ⟨w.heap.size + 1, 0, none⟩) (by show w.heap.size ≤ w.heap.size + 1; omega) (.string x)).setCell (p := ⟨w.heap.size + 1, 1, none⟩) (by show w.heap.size ≤ w.heap.size + 1; omega) (.string y)); clear hr hb hs))
   refine bodyPost_ret (results_ratio rfl _ _ (w.heap.size + 1) _ _ rfl HS.out) rfl ?_
   exact ⟨rfl, HBS.out⟩
theorem v4Down_no (s1 s2 : ByteArray) (L1 L2 : List UInt8) (p : Int) (w : World) (hL1 : s1.data.toList = L1) (hL2 : s2.data.toList = L2) (hl1 : L1.length ≤ 60000) (hl2 : L2.length ≤ 60000) (hv : vR L1 L2 = false ∨ ¬ (0 ≤ p ∧ p ≤ 30)) :
  Calls Tryz.prog 25 #[.agg #[.string s1, .string s2], .int .i64 p] w fun e w' => e = .returned (.tuple #[RZ, .int .i64 40]) ∧ Below w.heap.size w w' :=
 v4Down_via s1 s2 ⟨#[]⟩ ⟨#[]⟩ ⟨#[]⟩ ⟨#[]⟩ ⟨#[]⟩ p 0 false w (fun W => v4grid_no s1 s2 L1 L2 p W hL1 hL2 hl1 hl2 hv) (fun h => by cases h)
theorem v4Up_no (s1 s2 : ByteArray) (L1 L2 : List UInt8) (p : Int) (w : World) (hL1 : s1.data.toList = L1) (hL2 : s2.data.toList = L2) (hl1 : L1.length ≤ 60000) (hl2 : L2.length ≤ 60000) (hv : vR L1 L2 = false ∨ ¬ (0 ≤ p ∧ p ≤ 30)) :
  Calls Tryz.prog 27 #[.agg #[.string s1, .string s2], .int .i64 p] w fun e w' => e = .returned (.tuple #[RZ, .int .i64 40]) ∧ Below w.heap.size w w' :=
 v4Up_via s1 s2 ⟨#[]⟩ ⟨#[]⟩ ⟨#[]⟩ ⟨#[]⟩ ⟨#[]⟩ ⟨#[]⟩ p 0 false true w (fun W => v4grid_no s1 s2 L1 L2 p W hL1 hL2 hl1 hl2 hv) (by rw [ByteArray.toList_eq]; rfl) (fun h => by cases h) (fun h => by cases h) (fun h => by cases h)
theorem make_t (n : Int) (t : Nat) (hn : n.natAbs < 10 ^ 200) (ht : ((t : Nat) : Int).natAbs < 10 ^ 200) (h0 : 0 < t) (W : World) :
  Calls Tryz.prog 29 #[.string (S n), .string (S (t : Int))] W fun e w' => e = .returned (.tuple #[RV (mkRat n t), .int .i64 0]) ∧ Below W.heap.size W w' := by
 rw [← Rat.divInt_ofNat]
 exact v4Make_R n t W hn ht (by omega)
theorem v4Down_R (a : Rat) (ha : fitR 200 a) (p : Int) (w : World) :
  Calls Tryz.prog 25 #[RV a, .int .i64 p] w fun e w' => e = .returned (opQ (okP a p) (mkRat (dnN a (10 ^ p.toNat)) (10 ^ p.toNat))) ∧ Below w.heap.size w w' := by
 have hA := den_abs a ha
 rw [okP]
 by_cases hp : 0 ≤ p ∧ p ≤ 30
 ·
  obtain ⟨n, rfl⟩ : ∃ n : Nat, p = n := ⟨p.toNat, by omega⟩
  rw [decide_eq_true hp, Bool.true_and, Int.toNat_natCast]
  have ht9 : (((10 ^ n : Nat)) : Int).natAbs < 10 ^ 200 := ten_lt (by omega)
  have cg := fun W => v4grid_R a ha n (by omega) W
  cases hx : fits (a.num * ((10 ^ n : Nat) : Int))
  ·
   rw [hx, if_neg (by decide)] at cg
   exact v4Down_via _ _ _ _ _ ⟨#[]⟩ ⟨#[]⟩ n 0 false w cg (fun h => by cases h)
  ·
   rw [hx, if_pos rfl] at cg
   have hq : ((dnN a (10 ^ n))).natAbs < 10 ^ 200 := by
    rw [dnN]; exact Nat.lt_of_le_of_lt (Int.natAbs_ediv_le_natAbs _ _) (of_decide_eq_true hx)
   exact v4Down_via _ _ _ _ _ _ _ n 0 true w cg (fun _ W => make_t (dnN a (10 ^ n)) (10 ^ n) hq ht9 (ten_pos n) W)
 ·
  rw [decide_eq_false hp, Bool.false_and]
  exact v4Down_no (S a.num) (S (a.den : Int)) (txt a.num) (txt (a.den : Int)) p w (S_list _) (S_list _) (S_len ha.1) (S_len hA) (.inr hp)
theorem v4Up_R (a : Rat) (ha : fitR 200 a) (p : Int) (w : World) :
  Calls Tryz.prog 27 #[RV a, .int .i64 p] w fun e w' => e = .returned (opQ (okP a p) (mkRat (upN a (10 ^ p.toNat)) (10 ^ p.toNat))) ∧ Below w.heap.size w w' := by
 have hA := den_abs a ha
 rw [okP]
 by_cases hp : 0 ≤ p ∧ p ≤ 30
 ·
  obtain ⟨n, rfl⟩ : ∃ n : Nat, p = n := ⟨p.toNat, by omega⟩
  rw [decide_eq_true hp, Bool.true_and, Int.toNat_natCast]
  have ht9 : (((10 ^ n : Nat)) : Int).natAbs < 10 ^ 200 := ten_lt (by omega)
  have cg := fun W => v4grid_R a ha n (by omega) W
  cases hx : fits (a.num * ((10 ^ n : Nat) : Int))
  ·
   rw [hx, if_neg (by decide)] at cg
   exact v4Up_via _ _ _ ⟨#[]⟩ _ ⟨#[]⟩ ⟨#[]⟩ ⟨#[]⟩ n 0 false true w cg (by rw [ByteArray.toList_eq]; rfl) (fun h => by cases h) (fun h => by cases h) (fun h => by cases h)
  ·
   rw [hx, if_pos rfl] at cg
   have px := of_decide_eq_true hx
   have hq0 : (a.num * ((10 ^ n : Nat) : Int) / a.den).natAbs < 10 ^ 200 := Nat.lt_of_le_of_lt (Int.natAbs_ediv_le_natAbs _ _) px
   by_cases h : (a.num * ((10 ^ n : Nat) : Int)) % (a.den : Int) = 0
   ·
    rw [upN, if_pos h]
    exact v4Up_via _ _ _ _ _ _ _ _ n 0 true false w cg (by rw [S_eq0, decide_eq_true h]; rfl) (fun _ h => by cases h) (fun _ => rfl) (fun _ W => make_t _ (10 ^ n) hq0 ht9 (ten_pos n) W)
   ·
    have hu := up_fit px (den_pos a) h
    rw [upN, if_neg h]
    exact v4Up_via _ _ _ _ _ _ _ _ n 0 true true w cg (by rw [S_eq0, decide_eq_false h]; rfl) (fun _ _ W => by
     have e := rAdd_ok (S (a.num * ((10 ^ n : Nat) : Int) / a.den)) (S 1) _ _ W (S_list _) (S_list _) (txt_vld hq0) (txt_vld (by decide))
     rw [txt_num, txt_num, er, if_pos hu.1, rs_S hu.1, S_one] at e
     exact e) (fun h => by cases h) (fun _ W => make_t _ (10 ^ n) hu.1 ht9 (ten_pos n) W)
 ·
  rw [decide_eq_false hp, Bool.false_and]
  exact v4Up_no (S a.num) (S (a.den : Int)) (txt a.num) (txt (a.den : Int)) p w (S_list _) (S_list _) (S_len ha.1) (S_len hA) (.inr hp)
theorem below_undrew {n : Nat} {w W : World} (h : Below n w W.drew) : Below n w W := ⟨h.1, h.2, h.3, h.4, h.5⟩
def AgR (f g : FuncId) (args : Array Value) : Prop := ∃ (x y : ByteArray) (e : Int),
 (∀ W, Calls Tryz.prog f args W fun o w' => o = .returned (.tuple #[.agg #[.string x, .string y], .int .i64 e]) ∧ Below W.heap.size W w') ∧
 (∀ W, Calls Tryz.prog g args W fun o w' => o = .returned (.tuple #[.agg #[.string x, .string y], .int .i64 e]) ∧ Below W.heap.size W w')
theorem opQ_form (ok : Bool) (q : Rat) : ∃ (x y : ByteArray) (e : Int), opQ ok q = .tuple #[.agg #[.string x, .string y], .int .i64 e] := by
 cases ok
 ·
  exact ⟨_, _, 40, rfl⟩
 ·
  exact ⟨_, _, 0, rfl⟩
theorem AgR.of {f g : FuncId} {args : Array Value} {ok : Bool} {q : Rat} (hf : ∀ W, Calls Tryz.prog f args W fun o w' => o = .returned (opQ ok q) ∧ Below W.heap.size W w') (hg : ∀ W, Calls Tryz.prog g args W fun o w' => o = .returned (opQ ok q) ∧ Below W.heap.size W w') : AgR f g args := by
 obtain ⟨x, y, e, h⟩ := opQ_form ok q
 rw [h] at hf hg
 exact ⟨x, y, e, hf, hg⟩
theorem v4Add_R (a b : Rat) (ha : fitR 200 a) (hb : fitR 200 b) (w : World) :
  Calls Tryz.prog 17 #[RV a, RV b] w fun e w' => e = .returned (opQ (okA a b) (a + b)) ∧ Below w.heap.size w w' := by
 have hA := den_abs a ha
 have hB := den_abs b hb
 have h := v4Add_any (S a.num) (S (a.den : Int)) (S b.num) (S (b.den : Int)) _ _ _ _ w (S_list _) (S_list _) (S_list _) (S_list _) (S_len ha.1) (S_len hA) (S_len hb.1) (S_len hB)
 rw [vR_q a ha, vR_q b hb, txt_num, txt_num, txt_num, txt_num, Bool.and_self, Bool.true_and, opR_R _ _ _ (fun _ => Int.mul_pos (den_pos a) (den_pos b))] at h
 rw [okA]
 have e : a + b = mkRat (a.num * b.den + b.num * a.den) ((a.den : Int) * b.den).toNat := by rw [Rat.add_def', ← Int.natCast_mul, Int.toNat_natCast]
 rw [e]; exact h
theorem v4Sub_R (a b : Rat) (ha : fitR 200 a) (hb : fitR 200 b) (w : World) :
  Calls Tryz.prog 18 #[RV a, RV b] w fun e w' => e = .returned (opQ (okS a b) (a - b)) ∧ Below w.heap.size w w' := by
 have hA := den_abs a ha
 have hB := den_abs b hb
 have h := v4Sub_any (S a.num) (S (a.den : Int)) (S b.num) (S (b.den : Int)) _ _ _ _ w (S_list _) (S_list _) (S_list _) (S_list _) (S_len ha.1) (S_len hA) (S_len hb.1) (S_len hB)
 rw [vR_q a ha, vR_q b hb, txt_num, txt_num, txt_num, txt_num, Bool.and_self, Bool.true_and, opR_R _ _ _ (fun _ => Int.mul_pos (den_pos a) (den_pos b))] at h
 rw [okS]
 have e : a - b = mkRat (a.num * b.den - b.num * a.den) ((a.den : Int) * b.den).toNat := by rw [Rat.sub_def', ← Int.natCast_mul, Int.toNat_natCast]
 rw [e]; exact h
theorem v4Mul_R (a b : Rat) (ha : fitR 200 a) (hb : fitR 200 b) (w : World) :
  Calls Tryz.prog 19 #[RV a, RV b] w fun e w' => e = .returned (opQ (okM a b) (a * b)) ∧ Below w.heap.size w w' := by
 have hA := den_abs a ha
 have hB := den_abs b hb
 have h := v4Mul_any (S a.num) (S (a.den : Int)) (S b.num) (S (b.den : Int)) _ _ _ _ w (S_list _) (S_list _) (S_list _) (S_list _) (S_len ha.1) (S_len hA) (S_len hb.1) (S_len hB)
 have d0 : (a.den : Int) * b.den ≠ 0 := by have := Int.mul_pos (den_pos a) (den_pos b); omega
 rw [vR_q a ha, vR_q b hb, txt_num, txt_num, txt_num, txt_num, Bool.and_self, Bool.true_and, decide_eq_true d0, Bool.and_true, opR_R _ _ _ (fun _ => sg_pos d0), sg_R] at h
 rw [okM]
 have e : a * b = Rat.divInt (a.num * b.num) (a.den * b.den) := by rw [Rat.mul_def', ← Rat.divInt_ofNat, Int.natCast_mul]
 rw [e]; exact h
theorem v4Div_R (a b : Rat) (ha : fitR 200 a) (hb : fitR 200 b) (w : World) :
  Calls Tryz.prog 20 #[RV a, RV b] w fun e w' => e = .returned (opQ (okD a b) (a / b)) ∧ Below w.heap.size w w' := by
 have hA := den_abs a ha
 have hB := den_abs b hb
 have h := v4Div_any (S a.num) (S (a.den : Int)) (S b.num) (S (b.den : Int)) _ _ _ _ w (S_list _) (S_list _) (S_list _) (S_list _) (S_len ha.1) (S_len hA) (S_len hb.1) (S_len hB)
 rw [vR_q a ha, vR_q b hb, txt_num, txt_num, txt_num, txt_num, Bool.and_self, Bool.true_and] at h
 have hk : okD a b = (fits (a.num * b.den) && fits ((a.den : Int) * b.num) && decide ((a.den : Int) * b.num ≠ 0)) := by
  rw [okD]
  congr 1
  rw [decide_eq_decide]
  constructor
  ·
   exact fun e => Int.mul_ne_zero (by have := den_pos a; omega) e
  ·
   exact fun e e2 => e (by rw [e2, Int.mul_zero])
 rw [← hk, opR_R _ _ _ (fun e => by
  rw [hk, Bool.and_eq_true] at e
  exact sg_pos (of_decide_eq_true e.2)), sg_R] at h
 rw [div_R a b]; exact h
theorem pair_cases (s1 s2 : ByteArray) : vR s1.data.toList s2.data.toList = false ∨ ∃ q, (Value.agg #[.string s1, .string s2] = RV q ∧ fitR 200 q) := by
 cases h : vR s1.data.toList s2.data.toList
 ·
  exact .inl rfl
 ·
  obtain ⟨q, h1, h2, h3⟩ := vR_R h
  exact .inr ⟨q, by rw [RV, S_of rfl h1, S_of rfl h2], h3⟩
theorem and_no {a b : Bool} (h : a = false ∨ b = false) : (a && b) = false := by
 rcases h with rfl | rfl
 ·
  rfl
 ·
  exact Bool.and_false _
section
variable (s1 s2 s3 s4 : ByteArray) (hl1 : s1.data.toList.length ≤ 60000) (hl2 : s2.data.toList.length ≤ 60000) (hl3 : s3.data.toList.length ≤ 60000) (hl4 : s4.data.toList.length ≤ 60000)
include hl1 hl2 hl3 hl4
theorem agAdd_4 : AgR 38 17 #[.agg #[.string s1, .string s2], .agg #[.string s3, .string s4]] := by
 have no : (vR s1.data.toList s2.data.toList && vR s3.data.toList s4.data.toList) = false → AgR 38 17 #[.agg #[.string s1, .string s2], .agg #[.string s3, .string s4]] := fun hv =>
  ⟨⟨#[]⟩, ⟨#[]⟩, 40, fun W => qAdd_no s1 s2 s3 s4 _ _ _ _ W rfl rfl rfl rfl hl1 hl2 hl3 hl4 hv, fun W => by
   have h := v4Add_any s1 s2 s3 s4 _ _ _ _ W rfl rfl rfl rfl hl1 hl2 hl3 hl4
   rw [hv, Bool.false_and, Bool.false_and, opR, if_neg (by decide)] at h
   exact h⟩
 rcases pair_cases s1 s2 with h | ⟨p, e1, hp⟩
 ·
  exact no (and_no (.inl h))
 ·
  rcases pair_cases s3 s4 with h | ⟨q, e2, hq⟩
  ·
   exact no (and_no (.inr h))
  ·
   rw [e1, e2]
   exact AgR.of (fun W => qAdd_R p q hp hq W) (fun W => v4Add_R p q hp hq W)
theorem agSub_4 : AgR 40 18 #[.agg #[.string s1, .string s2], .agg #[.string s3, .string s4]] := by
 have no : (vR s1.data.toList s2.data.toList && vR s3.data.toList s4.data.toList) = false → AgR 40 18 #[.agg #[.string s1, .string s2], .agg #[.string s3, .string s4]] := fun hv =>
  ⟨⟨#[]⟩, ⟨#[]⟩, 40, fun W => qSub_no s1 s2 s3 s4 _ _ _ _ W rfl rfl rfl rfl hl1 hl2 hl3 hl4 hv, fun W => by
   have h := v4Sub_any s1 s2 s3 s4 _ _ _ _ W rfl rfl rfl rfl hl1 hl2 hl3 hl4
   rw [hv, Bool.false_and, Bool.false_and, opR, if_neg (by decide)] at h
   exact h⟩
 rcases pair_cases s1 s2 with h | ⟨p, e1, hp⟩
 ·
  exact no (and_no (.inl h))
 ·
  rcases pair_cases s3 s4 with h | ⟨q, e2, hq⟩
  ·
   exact no (and_no (.inr h))
  ·
   rw [e1, e2]
   exact AgR.of (fun W => qSub_R p q hp hq W) (fun W => v4Sub_R p q hp hq W)
theorem agMul_4 : AgR 39 19 #[.agg #[.string s1, .string s2], .agg #[.string s3, .string s4]] := by
 have no : (vR s1.data.toList s2.data.toList && vR s3.data.toList s4.data.toList) = false → AgR 39 19 #[.agg #[.string s1, .string s2], .agg #[.string s3, .string s4]] := fun hv =>
  ⟨⟨#[]⟩, ⟨#[]⟩, 40, fun W => qMul_no s1 s2 s3 s4 _ _ _ _ W rfl rfl rfl rfl hl1 hl2 hl3 hl4 hv, fun W => by
   have h := v4Mul_any s1 s2 s3 s4 _ _ _ _ W rfl rfl rfl rfl hl1 hl2 hl3 hl4
   rw [hv, Bool.false_and, Bool.false_and, opR, if_neg (by decide)] at h
   exact h⟩
 rcases pair_cases s1 s2 with h | ⟨p, e1, hp⟩
 ·
  exact no (and_no (.inl h))
 ·
  rcases pair_cases s3 s4 with h | ⟨q, e2, hq⟩
  ·
   exact no (and_no (.inr h))
  ·
   rw [e1, e2]
   exact AgR.of (fun W => qMul_R p q hp hq W) (fun W => v4Mul_R p q hp hq W)
theorem agDiv_4 : AgR 47 20 #[.agg #[.string s1, .string s2], .agg #[.string s3, .string s4]] := by
 have no : (vR s1.data.toList s2.data.toList && vR s3.data.toList s4.data.toList) = false → AgR 47 20 #[.agg #[.string s1, .string s2], .agg #[.string s3, .string s4]] := fun hv =>
  ⟨⟨#[]⟩, ⟨#[]⟩, 40, fun W => qDiv_no s1 s2 s3 s4 _ _ _ _ W rfl rfl rfl rfl hl1 hl2 hl3 hl4 hv, fun W => by
   have h := v4Div_any s1 s2 s3 s4 _ _ _ _ W rfl rfl rfl rfl hl1 hl2 hl3 hl4
   rw [hv, Bool.false_and, Bool.false_and, opR, if_neg (by decide)] at h
   exact h⟩
 rcases pair_cases s1 s2 with h | ⟨p, e1, hp⟩
 ·
  exact no (and_no (.inl h))
 ·
  rcases pair_cases s3 s4 with h | ⟨q, e2, hq⟩
  ·
   exact no (and_no (.inr h))
  ·
   rw [e1, e2]
   exact AgR.of (fun W => qDiv_R p q hp hq W) (fun W => v4Div_R p q hp hq W)
theorem agCompare_4 : ∃ r : Int, (∀ W, Calls Tryz.prog 21 #[.agg #[.string s1, .string s2], .agg #[.string s3, .string s4]] W fun o w' => o = .returned (.int .i64 r) ∧ Below W.heap.size W w') ∧
  (∀ W, Calls Tryz.prog 22 #[.agg #[.string s1, .string s2], .agg #[.string s3, .string s4]] W fun o w' => o = .returned (.int .i64 r) ∧ Below W.heap.size W w') := by
 have no : (vR s1.data.toList s2.data.toList && vR s3.data.toList s4.data.toList) = false → ∃ r : Int, (∀ W, Calls Tryz.prog 21 #[.agg #[.string s1, .string s2], .agg #[.string s3, .string s4]] W fun o w' => o = .returned (.int .i64 r) ∧ Below W.heap.size W w') ∧
  (∀ W, Calls Tryz.prog 22 #[.agg #[.string s1, .string s2], .agg #[.string s3, .string s4]] W fun o w' => o = .returned (.int .i64 r) ∧ Below W.heap.size W w') := fun hv =>
  ⟨(0 : Int), fun W => qCompare_no s1 s2 s3 s4 _ _ _ _ W rfl rfl rfl rfl hl1 hl2 hl3 hl4 hv, fun W => v4Compare_no s1 s2 s3 s4 _ _ _ _ W rfl rfl rfl rfl hl1 hl2 hl3 hl4 hv⟩
 rcases pair_cases s1 s2 with h | ⟨p, e1, hp⟩
 ·
  exact no (and_no (.inl h))
 ·
  rcases pair_cases s3 s4 with h | ⟨q, e2, hq⟩
  ·
   exact no (and_no (.inr h))
  ·
   rw [e1, e2]
   exact ⟨cmpR p q, fun W => qCompare_R p q hp hq W, fun W => v4Compare_R p q hp hq W⟩
end
section
variable (s1 s2 : ByteArray) (hl1 : s1.data.toList.length ≤ 60000) (hl2 : s2.data.toList.length ≤ 60000)
include hl1 hl2
theorem agDown_4 (p : Int) : AgR 24 25 #[.agg #[.string s1, .string s2], .int .i64 p] := by
 rcases pair_cases s1 s2 with h | ⟨q, e1, hq⟩
 ·
  exact ⟨⟨#[]⟩, ⟨#[]⟩, 40, fun W => qDown_no s1 s2 _ _ p W rfl rfl hl1 hl2 h, fun W => v4Down_no s1 s2 _ _ p W rfl rfl hl1 hl2 (.inl h)⟩
 ·
  rw [e1]; exact AgR.of (fun W => qDown_R q hq p W) (fun W => v4Down_R q hq p W)
theorem agUp_4 (p : Int) : AgR 26 27 #[.agg #[.string s1, .string s2], .int .i64 p] := by
 rcases pair_cases s1 s2 with h | ⟨q, e1, hq⟩
 ·
  exact ⟨⟨#[]⟩, ⟨#[]⟩, 40, fun W => qUp_no s1 s2 _ _ p W rfl rfl hl1 hl2 h, fun W => v4Up_no s1 s2 _ _ p W rfl rfl hl1 hl2 (.inl h)⟩
 ·
  rw [e1]; exact AgR.of (fun W => qUp_R q hq p W) (fun W => v4Up_R q hq p W)
theorem agMake_4 : AgR 28 29 #[.string s1, .string s2] := by
 by_cases h : (vld s1.data.toList && vld s2.data.toList) = true ∧ num s2.data.toList ≠ 0
 ·
  have hb := (Bool.and_eq_true _ _).mp h.1
  have k1 := (vld_txt hb.1).2
  have k2 := (vld_txt hb.2).2
  have e1 : s1 = S (num s1.data.toList) := S_of rfl (txt_lit hb.1).symm
  have e2 : s2 = S (num s2.data.toList) := S_of rfl (txt_lit hb.2).symm
  rw [e1, e2]
  exact ⟨_, _, 0, fun W => qMake_R _ _ W k1 k2 h.2, fun W => v4Make_R _ _ W k1 k2 h.2⟩
 ·
  have h2 : (vld s1.data.toList && vld s2.data.toList) = true → num s2.data.toList = 0 := fun hv => Classical.byContradiction fun h0 => h ⟨hv, h0⟩
  exact ⟨_, _, 40, fun W => qMake_no s1 s2 _ _ W rfl rfl hl1 hl2 h2, fun W => v4Make_no s1 s2 _ _ W rfl rfl hl1 hl2 h2⟩
theorem agValid_4 : ∃ b : Bool, (∀ W, Calls Tryz.prog 30 #[.agg #[.string s1, .string s2]] W fun o w' => o = .returned (.bool b) ∧ Below W.heap.size W w') ∧
  (∀ W, Calls Tryz.prog 31 #[.agg #[.string s1, .string s2]] W fun o w' => o = .returned (.bool b) ∧ Below W.heap.size W w') :=
 ⟨_, fun W => qValid_any s1 s2 _ _ W rfl rfl hl1 hl2, fun W => v4Valid_any s1 s2 _ _ W rfl rfl hl1 hl2⟩
end
theorem agOf_4 (n d : Int) (hn : -9223372036854775808 ≤ n ∧ n ≤ 9223372036854775807) (hd : -9223372036854775808 ≤ d ∧ d ≤ 9223372036854775807) : ∃ (x y : ByteArray) (e : Int),
  (∀ W, Tz W → Calls Tryz.prog 32 #[.int .i64 n, .int .i64 d] W fun o w' => o = .returned (.tuple #[.agg #[.string x, .string y], .int .i64 e]) ∧ Below W.heap.size W w') ∧
  (∀ W, Calls Tryz.prog 33 #[.int .i64 n, .int .i64 d] W fun o w' => o = .returned (.tuple #[.agg #[.string x, .string y], .int .i64 e]) ∧ Below W.heap.size W w') := by
 by_cases h : d = 0
 ·
  subst h
  exact ⟨_, _, 40, fun W hW => qOf_Z n W hn hW, fun W => v4Of_Z n W hn⟩
 ·
  exact ⟨_, _, 0, fun W hW => qOf_R n d W hn hd hW h, fun W => v4Of_R n d W hn hd h⟩
end Go.Proofs.YtdnbhgkbfbgnaaaGreatDoor
namespace Go.Proofs.YtdnbhgkbfbgnaaaGreatDoor
open Go.RowKit
theorem CBlk.drew {w : World} {g : Nat} {cs : Array Value} {t : TypeId} (h : CBlk w g cs t) : CBlk w.drew g cs t := h
def Sh (s : ByteArray) : Prop := s.data.toList.length ≤ 60000
theorem Sh.S {z : Int} (h : z.natAbs < 10 ^ 200) : Sh (S z) := by
 show (Go.Proofs.YtdnbhgkbfbgnaaaGreatDoor.S z).data.toList.length ≤ 60000
 rw [S_list]; exact S_len h
theorem cut210r (s : ByteArray) : ∃ p : ByteArray, s.extract 0 (min (s.size : Int) 210).toNat = p ∧ Sh p := ⟨_, rfl, by show (s.extract 0 _).size ≤ 60000; rw [ByteArray.size_extract]; omega⟩
theorem Long_T (x0 x1 x2 x3 : Int) (w : World) (b0 : -9223372036854775808 ≤ x0 ∧ x0 ≤ 9223372036854775807) (b1 : -9223372036854775808 ≤ x1 ∧ x1 ≤ 9223372036854775807) (b2 : -9223372036854775808 ≤ x2 ∧ x2 ≤ 9223372036854775807) (b3 : -9223372036854775808 ≤ x3 ∧ x3 ≤ 9223372036854775807) :
  Calls Tryz.prog 14 #[.agg #[.int .i64 x0, .int .i64 x1, .int .i64 x2, .int .i64 x3]] w fun e w' => ∃ a b : ByteArray, e = .returned (.agg #[.string a, .string b]) ∧ (Sh a ∧ Sh b) ∧ Below w.heap.size w w' :=
 (Long_any x0 x1 x2 x3 w b0 b1 b2 b3).mono fun _ _ ⟨q, h, s, b⟩ => ⟨_, _, h, ⟨Sh.S (s.wide (by decide)).1, Sh.S (den_abs q (s.wide (by decide)))⟩, b⟩
theorem Small_T (x0 x1 : Int) (w : World) (b0 : -9223372036854775808 ≤ x0 ∧ x0 ≤ 9223372036854775807) (b1 : -9223372036854775808 ≤ x1 ∧ x1 ≤ 9223372036854775807) :
  Calls Tryz.prog 15 #[.agg #[.int .i64 x0, .int .i64 x1]] w fun e w' => ∃ a b : ByteArray, e = .returned (.agg #[.string a, .string b]) ∧ (Sh a ∧ Sh b) ∧ Below w.heap.size w w' :=
 (Small_any x0 x1 w b0 b1).mono fun _ _ ⟨q, h, s, b⟩ => ⟨_, _, h, ⟨Sh.S s.fit.1, Sh.S (den_abs q s.fit)⟩, b⟩
set_option maxRecDepth 100000 in
set_option maxHeartbeats 2000000 in
theorem cut_T (s1 s2 : ByteArray) (w : World) (h1 : s1.size ≤ 9223372036854775807) (h2 : s2.size ≤ 9223372036854775807) :
  Calls Tryz.prog 13 #[.agg #[.string s1, .string s2]] w fun e w' => ∃ a b : ByteArray, e = .returned (.agg #[.string a, .string b]) ∧ (Sh a ∧ Sh b) ∧ Below w.heap.size w w' := by
 obtain ⟨t1, ht1, z1⟩ := cut210r s1
 obtain ⟨t2, ht2, z2⟩ := cut210r s2
 obtain ⟨r1, r2⟩ := two_ratios w (.string s1) (.string s2) (.string ⟨#[]⟩) (.string ⟨#[]⟩)
 have P := Lib.hid r1
 have Z := Lib.hid r2
 have HB := Lib.hid ((below_alloc w (.cells #[.string s1, .string s2] 23)).alloc (by rw [World.size_alloc]; omega) (.cells #[.string ⟨#[]⟩, .string ⟨#[]⟩] 23))
 have Z1 := Lib.hid z1
 have Z2 := Lib.hid z2
 have neZP : w.heap.size ≠ w.heap.size + 1 := by omega
 have gZ : w.heap.size ≤ w.heap.size + 1 := by omega
 have m1 : (0 : Int) ≤ min (s1.size : Int) 210 ∧ min (s1.size : Int) 210 ≤ (s1.size : Int) := by omega
 have m2 : (0 : Int) ≤ min (s2.size : Int) 210 ∧ min (s2.size : Int) 210 ≤ (s2.size : Int) := by omega
 clear r1 r2 z1 z2
 go_enter Tryz.func13, Tryz.ntmps13
 go_upto_region 1 with fail
 generalize hW0c1 : ((w.alloc (.cells #[.string s1, .string s2] 23)).alloc (.cells #[.string ⟨#[]⟩, .string ⟨#[]⟩] 23)) = W0c1 at *
 clear hW0c1
 refine wp_region_noPanic ?_
 refine wp_region_held_drew (S := fun W => RBlk W (w.heap.size) (.string s1) (.string s2)) (by kernel_rfl) ?_ (fun hHeld => ?_)
 ·
  exact P.out
 have Pn := Lib.hid P.out.drew
 have Zn := Lib.hid Z.out.drew
 have HBn := Lib.hid HB.out.drew
 clear P Z HB
 have P := Pn
 have Z := Zn
 have HB := HBn
 clear Pn Zn HBn
 refine tk 0 (v := ?v0_1c_1_1) ?hy0_1c_1_1 ?re0_1c_1_1
 case hy0_1c_1_1 => (intro w hSw; go_simp) <;> with_reducible rfl
 (try simp only [Act.put, List.setIfInBounds_toArray])
 refine tk 2 (v := ?v2_2c_1_1) ?hy2_2c_1_1 ?re2_2c_1_1
 case hy2_2c_1_1 => (intro w hSw; go_simp) <;> with_reducible rfl
 (try simp only [Act.put])
 refine tk 7 (v := ?v7_3c_1_1) ?hy7_3c_1_1 ?re7_3c_1_1
 case hy7_3c_1_1 => (intro w hSw; go_simp) <;> with_reducible rfl
 (try simp only [Act.put])
 refine tk 9 (v := ?v9_4c_1_1) ?hy9_4c_1_1 ?re9_4c_1_1
 case hy9_4c_1_1 => (intro w hSw; go_simp) <;> with_reducible rfl
 (try simp only [Act.put])
 refine tk 1 (v := ?v1_5c_1_1) ?hy1_5c_1_1 ?re1_5c_1_1
 case hy1_5c_1_1 => ((intro w hSw; have e0_0 := hSw.c0; have e0_1 := hSw.c1; go_simp) <;> with_reducible rfl)
 (try simp only [Act.put])
 refine tk 3 (v := ?v3_6c_1_1) ?hy3_6c_1_1 ?re3_6c_1_1
 case hy3_6c_1_1 => ((intro w hSw; have e0_0 := hSw.c0; have e0_1 := hSw.c1; go_simp) <;> with_reducible rfl)
 (try simp only [Act.put])
 refine tk 8 (v := ?v8_7c_1_1) ?hy8_7c_1_1 ?re8_7c_1_1
 case hy8_7c_1_1 => ((intro w hSw; have e0_0 := hSw.c0; have e0_1 := hSw.c1; go_simp) <;> with_reducible rfl)
 (try simp only [Act.put])
 refine tk 10 (v := ?v10_8c_1_1) ?hy10_8c_1_1 ?re10_8c_1_1
 case hy10_8c_1_1 => ((intro w hSw; have e0_0 := hSw.c0; have e0_1 := hSw.c1; go_simp) <;> with_reducible rfl)
 (try simp only [Act.put])
 refine tk 4 (v := ?v4_9c_1_1) ?hy4_9c_1_1 ?re4_9c_1_1
 case hy4_9c_1_1 => ((intro w hSw; have e0_0 := hSw.c0; have e0_1 := hSw.c1; go_simp) <;> with_reducible rfl)
 (try simp only [Act.put])
 refine tk 11 (v := ?v11_10c_1_1) ?hy11_10c_1_1 ?re11_10c_1_1
 case hy11_10c_1_1 => ((intro w hSw; have e0_0 := hSw.c0; have e0_1 := hSw.c1; go_simp) <;> with_reducible rfl)
 (try simp only [Act.put])
 refine tk 5 (v := ?v5_11c_1_1) ?hy5_11c_1_1 ?re5_11c_1_1
 case hy5_11c_1_1 => ((intro w hSw; have e0_0 := hSw.c0; have e0_1 := hSw.c1; go_simp) <;> with_reducible rfl)
 (try simp only [Act.put])
 refine tk 12 (v := ?v12_12c_1_1) ?hy12_12c_1_1 ?re12_12c_1_1
 case hy12_12c_1_1 => ((intro w hSw; have e0_0 := hSw.c0; have e0_1 := hSw.c1; go_simp) <;> with_reducible rfl)
 (try simp only [Act.put])
 refine tk 6 (v := ?v6_13c_1_1) ?hy6_13c_1_1 ?re6_13c_1_1
 case hy6_13c_1_1 => (intro w hSw; go_simp) <;> with_reducible rfl
 (try simp only [Act.put])
 refine tk 13 (v := ?v13_14c_1_1) ?hy13_14c_1_1 ?re13_14c_1_1
 case hy13_14c_1_1 => (intro w hSw; go_simp) <;> with_reducible rfl
 (try simp only [Act.put])
 refine tk 14 (v := ?v14_15c_1_1) ?hy14_15c_1_1 ?re14_15c_1_1
 case hy14_15c_1_1 => (intro w hSw; go_simp) <;> with_reducible rfl
 (try simp only [Act.put])
 refine wpAnyH_ready (rs := [15]) (by kernel_rfl) (by simp) ?_
 refine AllReadyH.cons (o := ({ dst := none, op := .store 23 (.tmp 2) (.tmp 17), type := 0, pos := "law.go:24", after := #[⟨14, .data⟩, ⟨0, .phase⟩, ⟨1, .phase⟩, ⟨2, .phase⟩, ⟨3, .phase⟩, ⟨4, .phase⟩, ⟨5, .phase⟩, ⟨6, .phase⟩, ⟨7, .phase⟩, ⟨8, .phase⟩, ⟨9, .phase⟩, ⟨10, .phase⟩, ⟨11, .phase⟩, ⟨12, .phase⟩, ⟨13, .phase⟩, ⟨14, .phase⟩], guard := none } : Oper)) rfl (fun K hK => ?_) ?_
 ·
  have c0 := (show RBlk W0c1 (w.heap.size + 1) (.string ⟨#[]⟩) (.string ⟨#[]⟩) from Z.out).c0
  have c1 := (show RBlk W0c1 (w.heap.size + 1) (.string ⟨#[]⟩) (.string ⟨#[]⟩) from Z.out).c1
  have f0 := (show RBlk W0c1 (w.heap.size + 1) (.string ⟨#[]⟩) (.string ⟨#[]⟩) from Z.out).f 0
  have f1 := (show RBlk W0c1 (w.heap.size + 1) (.string ⟨#[]⟩) (.string ⟨#[]⟩) from Z.out).f 1
  have hs := (show RBlk W0c1 (w.heap.size + 1) (.string ⟨#[]⟩) (.string ⟨#[]⟩) from Z.out).s0 (.string t1)
  have d1 := hs.c1
  have g1 := hs.f 1
  have Pn : Hid (RBlk W0c1 (w.heap.size) (.string s1) (.string s2)) := Lib.hid P.out
  clear P
  have P := Pn
  clear Pn
  have HBn : Hid (Below w.heap.size w W0c1) := Lib.hid (below_undrew HB.out)
  clear HB
  have HB := HBn
  clear HBn
  go_simp
  have Zn := Lib.hid ((hs.s1 (.string t2)).drew)
  have Pn := Lib.hid (((P.out.other ⟨w.heap.size + 1, 0, none⟩ (.string t1) neZP).other ⟨w.heap.size + 1, 1, none⟩ (.string t2) neZP).drew)
  have HBn := Lib.hid (((HB.out.setCell (p := ⟨w.heap.size + 1, 0, none⟩) gZ (.string t1)).setCell (p := ⟨w.heap.size + 1, 1, none⟩) gZ (.string t2)).drew)
  clear hs c0 c1 f0 f1 d1 g1
  clear Z P HB
  have Z := Zn
  have P := Pn
  have HB := HBn
  clear Zn Pn HBn
  refine hK.out _ _ ?_ (fun hHeldN => ?_)
  ·
   exact (hHeld.other ⟨w.heap.size + 1, 0, none⟩ (.string t1) neZP).other ⟨w.heap.size + 1, 1, none⟩ (.string t2) neZP
  clear hK K
  clear hHeld
  have hHeld := hHeldN
  clear hHeldN
  (try simp only [Act.put, List.setIfInBounds_toArray, List.set_cons_zero, List.set_cons_succ])
  refine wpAnyH_done (by kernel_rfl) ?_ _
  refine NoPanic.normal ?_
  go_wp2_with fail
  refine bodyPost_ret (results_ratio1 rfl _ _ (w.heap.size + 1) _ _ rfl Z.out) rfl ?_
  exact ⟨_, _, rfl, ⟨Z1.out, Z2.out⟩, HB.out⟩
 exact AllReadyH.nil
theorem eqItems_self {P : Program} (d : Nat) (e : TypeId) (c : Nat) (xs : Array Value) (w : World) : ∀ is : List Nat, (∀ i ∈ is, ∃ a, (part e xs (i * c)).run P w = .ok a w ∧ (Op.equalIn d e a a).run P w = .ok true w) → (Op.eqItems d e c xs xs is).run P w = .ok true w
 | [], _ => by simp [Op.eqItems]
 | i :: is, h => by
  obtain ⟨a, h1, h2⟩ := h i (by simp)
  have ih := eqItems_self d e c xs w is (fun j hj => h j (by simp [hj]))
  simp [Op.eqItems, h1, h2, ih]
theorem eq_ratio (d : Nat) (a b : ByteArray) (w : World) : (Op.equalIn (d + 2) 23 (.agg #[.string a, .string b]) (.agg #[.string a, .string b])).run Tryz.prog w = .ok true w := by
 go_simp
theorem eq_int (d : Nat) (a : Int) (w : World) : (Op.equalIn (d + 1) 32 (.int .i64 a) (.int .i64 a)).run Tryz.prog w = .ok true w := by
 go_simp
theorem cells_ratio : Tryz.prog.cellsOf 23 = 2 := by kernel_rfl
theorem cells_err : Tryz.prog.cellsOf 32 = 1 := by kernel_rfl
theorem eq_r4 (a b c d e f g h : ByteArray) (w : World) : (Op.equalIn 10000 31 (.agg #[.string a, .string b, .string c, .string d, .string e, .string f, .string g, .string h]) (.agg #[.string a, .string b, .string c, .string d, .string e, .string f, .string g, .string h])).run Tryz.prog w = .ok true w := by
 obtain ⟨i, hi⟩ := info_of_underlying Tryz.underlying23
 refine (run_equalIn_array w 9999 _ _ Tryz.underlying31 hi).trans ?_
 rw [cells_ratio]
 refine eqItems_self 9999 23 2 _ w _ fun k hk => ?_
 have hk4 : k < 4 := by simpa using hk
 rcases (by omega : k = 0 ∨ k = 1 ∨ k = 2 ∨ k = 3) with rfl | rfl | rfl | rfl
 ·
  exact ⟨.agg #[.string a, .string b], by go_simp, eq_ratio 9997 a b w⟩
 ·
  exact ⟨.agg #[.string c, .string d], by go_simp, eq_ratio 9997 c d w⟩
 ·
  exact ⟨.agg #[.string e, .string f], by go_simp, eq_ratio 9997 e f w⟩
 ·
  exact ⟨.agg #[.string g, .string h], by go_simp, eq_ratio 9997 g h w⟩
theorem eq_e4 (a b c d : Int) (w : World) : (Op.equalIn 10000 33 (.agg #[.int .i64 a, .int .i64 b, .int .i64 c, .int .i64 d]) (.agg #[.int .i64 a, .int .i64 b, .int .i64 c, .int .i64 d])).run Tryz.prog w = .ok true w := by
 obtain ⟨i, hi⟩ := info_of_underlying Tryz.underlying32
 refine (run_equalIn_array w 9999 _ _ Tryz.underlying33 hi).trans ?_
 rw [cells_err]
 refine eqItems_self 9999 32 1 _ w _ fun k hk => ?_
 have hk4 : k < 4 := by simpa using hk
 rcases (by omega : k = 0 ∨ k = 1 ∨ k = 2 ∨ k = 3) with rfl | rfl | rfl | rfl
 ·
  exact ⟨.int .i64 a, by go_simp, eq_int 9998 a w⟩
 ·
  exact ⟨.int .i64 b, by go_simp, eq_int 9998 b w⟩
 ·
  exact ⟨.int .i64 c, by go_simp, eq_int 9998 c w⟩
 ·
  exact ⟨.int .i64 d, by go_simp, eq_int 9998 d w⟩
theorem ten (x1 x2 y1 y2 l1 l2 m1 m2 q1 q2 : ByteArray) (hx1 : Sh x1) (hx2 : Sh x2) (hy1 : Sh y1) (hy2 : Sh y2) (hl1 : Sh l1) (hl2 : Sh l2) (hm1 : Sh m1) (hm2 : Sh m2) (hq1 : Sh q1) (hq2 : Sh q2) :
  ∃ P : Nat → ByteArray × ByteArray, (∀ k, Sh (P k).1 ∧ Sh (P k).2) ∧ ∀ k, k < 5 → (#[Value.string x1, .string x2, .string y1, .string y2, .string l1, .string l2, .string m1, .string m2, .string q1, .string q2] : Array Value)[k * 2]? = some (.string (P k).1) ∧ (#[Value.string x1, .string x2, .string y1, .string y2, .string l1, .string l2, .string m1, .string m2, .string q1, .string q2] : Array Value)[k * 2 + 1]? = some (.string (P k).2) := by
 refine ⟨fun k => match k with | 0 => (x1, x2) | 1 => (y1, y2) | 2 => (l1, l2) | 3 => (m1, m2) | _ => (q1, q2), fun k => ?_, fun k hk => ?_⟩
 ·
  dsimp only
  split <;> exact ⟨by assumption, by assumption⟩
 ·
  rcases (by omega : k = 0 ∨ k = 1 ∨ k = 2 ∨ k = 3 ∨ k = 4) with rfl | rfl | rfl | rfl | rfl <;> exact ⟨rfl, rfl⟩
end Go.Proofs.YtdnbhgkbfbgnaaaGreatDoor
