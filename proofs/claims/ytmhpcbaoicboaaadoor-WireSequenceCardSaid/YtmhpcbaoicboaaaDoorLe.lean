/- The walk of the law WireSequence. -/
import Derived.Test.YtmhpcbaoicboaaaDoorLb
import Derived.BigQuiet
import Derived.Deep.QuietTactic
import Derived.StillTailTactics
import Derived.Deep.RegionHeld3
import Derived.Deep.RegionWith
namespace Go.Proofs.YtmhpcbaoicboaaaDoor
open Go.RowKit

/-- a string, cut to 100 bytes -/
def cut (t : ByteArray) : ByteArray := t.extract 0 (min (t.size : Int) 100).toNat
theorem cut_size (t : ByteArray) : (cut t).size ≤ 100 := by rw [cut, ByteArray.size_extract]; omega

/-- the encodings of the first k integers and strings, one after the other -/
def seq (L : Nat → Int) (T : Nat → ByteArray) : Nat → ByteArray
  | 0 => ⟨#[]⟩
  | k + 1 => seq L T k ++ encB (nf (L k)) ++ (encB (cut (T k)).size ++ cut (T k))

theorem seq_size (L : Nat → Int) (T : Nat → ByteArray) (k : Nat) : (seq L T k).size ≤ 118 * k := by
  induction k with
  | zero => exact Nat.le_refl _
  | succ k ih =>
    have h1 := enc_len (nf (L k))
    have h2 := enc_len (cut (T k)).size
    have h3 := cut_size (T k)
    rw [← encB_size] at h1 h2
    simp only [seq, ByteArray.size_append]
    omega

theorem seq_split (L : Nat → Int) (T : Nat → ByteArray) (i m : Nat) (h : i ≤ m) : ∃ rest, seq L T m = seq L T i ++ rest := by
  induction m with
  | zero => exact ⟨⟨#[]⟩, by rw [show i = 0 by omega]; rfl⟩
  | succ m ih =>
    by_cases e : i = m + 1
    · subst e
      exact ⟨⟨#[]⟩, ext_list (by rw [list_append]; simp)⟩
    · obtain ⟨rest, hr⟩ := ih (by omega)
      exact ⟨rest ++ encB (nf (L m)) ++ (encB (cut (T m)).size ++ cut (T m)), by simp only [seq, hr, ByteArray.append_assoc]⟩

theorem seq_int (L : Nat → Int) (T : Nat → ByteArray) (i m : Nat) (h : i < m) (hm : m ≤ 20) (w : World) :
    Calls Tryd.prog 15 #[.string (seq L T m), .int .i64 (seq L T i).size] w fun e w' => e = .returned (.tuple #[.int .i64 (nf (L i)), .int .i64 (((seq L T i).size : Int) + (encB (nf (L i))).size), .int .i64 0]) ∧ w = w' := by
  obtain ⟨rest, hr⟩ := seq_split L T (i + 1) m h
  obtain ⟨n0, n1⟩ := nf_range (L i)
  have hz := seq_size L T m
  have e : seq L T m = seq L T i ++ encB (nf (L i)) ++ ((encB (cut (T i)).size ++ cut (T i)) ++ rest) := by rw [hr, seq]; simp only [ByteArray.append_assoc]
  rw [e] at hz ⊢
  exact int_in _ _ _ n0 n1 (maxLen_ge _ (by omega)) w

theorem seq_string (L : Nat → Int) (T : Nat → ByteArray) (i m : Nat) (h : i < m) (hm : m ≤ 20) (w : World) :
    Calls Tryd.prog 17 #[.string (seq L T m), .int .i64 (((seq L T i).size : Int) + (encB (nf (L i))).size)] w fun e w' => e = .returned (.tuple #[.string (cut (T i)), .int .i64 (seq L T (i + 1)).size, .int .i64 0]) ∧ Below w.heap.size w w' := by
  obtain ⟨rest, hr⟩ := seq_split L T (i + 1) m h
  have hz := seq_size L T m
  have hc := cut_size (T i)
  have e : seq L T m = (seq L T i ++ encB (nf (L i))) ++ (encB (cut (T i)).size ++ cut (T i)) ++ rest := by rw [hr, seq]
  rw [e] at hz ⊢
  have h := string_in (seq L T i ++ encB (nf (L i))) rest (cut (T i)) (by omega) (maxLen_ge _ (by omega)) w
  rw [← Int.natCast_add, ← ByteArray.size_append] at h
  rw [← Int.natCast_add, ← ByteArray.size_append]
  exact h

theorem seq_end (L : Nat → Int) (T : Nat → ByteArray) (m : Nat) (hm : m ≤ 20) (w : World) :
    Calls Tryd.prog 15 #[.string (seq L T m), .int .i64 (seq L T m).size] w fun e w' => e = .returned (.tuple #[.int .i64 0, .int .i64 0, .int .i64 10]) ∧ w = w' := by
  have hz := seq_size L T m
  exact int_none _ (maxLen_ge _ (by omega)) _ (Nat.le_refl _) w (by rw [← size_list, List.drop_length]; rfl)

set_option maxRecDepth 100000 in
set_option maxHeartbeats 8000000 in
theorem seq_walk (b0 o0 l0 c0 b1 o1 l1 c1 : Nat) (L : Nat → Int) (T : Nat → ByteArray) (m : Nat) (_hl0 : l0 ≤ 9223372036854775807) (_hl1 : l1 ≤ 9223372036854775807)
    (hm : ∀ w, (Builtin.min_ #[3, 3, 3] 3 #[.int .i64 l0, .int .i64 l1, .int .i64 20]).run Tryd.prog w = .ok (.int .i64 m) w) (hm0 : m ≤ l0) (hm1 : m ≤ l1) (hm2 : m ≤ 20) (w : World) (hT : Tab w) (hb0 : b0 < w.heap.size) (hb1 : b1 < w.heap.size)
    (hL : ∀ i, i < m → w.cell? ⟨b0, o0 + i, none⟩ = some (.int .i64 (L i)) ∧ -9223372036854775808 ≤ L i ∧ L i ≤ 9223372036854775807)
    (hS : ∀ i, i < m → w.cell? ⟨b1, o1 + i, none⟩ = some (.string (T i)) ∧ (T i).size ≤ maxLen) :
    Calls Tryd.prog 6 #[.slice (some ⟨b0, o0, none⟩) l0 c0, .slice (some ⟨b1, o1, none⟩) l1 c1] w fun e w' => e = .returned (.bool true) ∧ Below w.heap.size w w' := by
  have HB := Below.refl w.heap.size w
  have HT := Lib.hid hT
  have HL := Lib.hid hL
  have HS := Lib.hid hS
  clear hT hL hS
  go_enter Tryd.func6, Tryd.ntmps6
  go_wp2_with (first
    | (go_at_call 10; (with_reducible refine (sane_any _ HT.out).mono ?_); rintro e w' ⟨rfl, hb'⟩; replace HB := HB.trans (hb'.mono HB.size); replace HT := Lib.hid (HT.out.below hb'); clear hb'))
  clear hm
  go_loopw [7, 8] (fun x i wr => ∃ k : Nat, k ≤ m ∧ i = .int .i64 k ∧ x = .string (seq L T k) ∧ Below w.heap.size w wr) (fun _ i _ => m - (intOf i).toNat)
  case atStart => exact ⟨0, by omega, rfl, rfl, HB⟩
  case round =>
    obtain ⟨k, hk, rfl, rfl, hBr⟩ := hrel
    clear HB
    by_cases hkm : k < m
    · obtain ⟨e1, e2, e3⟩ := HL.out k hkm
      obtain ⟨f1, f2⟩ := HS.out k hkm
      have g1 := (hBr.cell (p := ⟨b0, o0 + k, none⟩) hb0).trans e1
      have g2 := (hBr.cell (p := ⟨b1, o1 + k, none⟩) hb1).trans f1
      clear e1 f1
      unfold maxLen at f2
      obtain ⟨n0, n1⟩ := nf_range (L k)
      have hN := fun w => number_any (L k) e2 e3 w
      have hP := fun w => putInt_ok (nf (L k)) n0 n1 w
      have hQ := fun w => putString_ok (cut (T k)) (by have := cut_size (T k); omega) w
      have u1 : (0 : Int) ≤ min ((T k).size : Int) 100 := by omega
      have u2 : min ((T k).size : Int) 100 ≤ ((T k).size : Int) := by omega
      have hcut : (T k).extract 0 (min ((T k).size : Int) 100).toNat = cut (T k) := rfl
      have z1 := enc_len (nf (L k))
      have z2 := enc_len (cut (T k)).size
      have z3 := cut_size (T k)
      have z4 := seq_size L T k
      rw [← encB_size] at z1 z2
      have k0 : k < l0 := by omega
      have k1 : k < l1 := by omega
      have HR := Lib.hid hBr
      clear hBr
      have G := Lib.hid (And.intro g2 (Below.refl wr.heap.size wr))
      clear g2
      go_wp2_with (first
        | (go_at_call 11; (with_reducible refine (hN _).mono ?_); rintro e w' ⟨rfl, hb⟩; replace G := Lib.hid (And.intro (cell_later hb G.out.1) (G.out.2.trans (hb.mono G.out.2.size))); clear hb)
        | (go_at_call 12; (with_reducible refine (hP _).mono ?_); rintro e w' ⟨rfl, hb⟩; replace G := Lib.hid (And.intro (cell_later hb G.out.1) (G.out.2.trans (hb.mono G.out.2.size))); clear hb))
      obtain ⟨g3, hB3⟩ := G.out
      clear G
      have hBd : Below w.heap.size w w'.drew := (HR.out.trans (hB3.mono HR.out.size)).drew
      clear hB3 hN hP HR
      go_region_held3 (fun w1 => w1.cell? ⟨b1, o1 + k, none⟩ = some (.string (T k)) ∧ Below w.heap.size w w1)
        (first | exact ⟨g5, hB5⟩ | exact ⟨g3, hBd⟩)
        (first | (go_at_call 19; (with_reducible refine (hQ _).mono ?_); rintro e w'' ⟨rfl, hb⟩; have g5 : w''.cell? ⟨b1, o1 + k, none⟩ = some (.string (T k)) := cell_later hb g3; have hB5 : Below w.heap.size w w'' := hBd.trans (hb.mono hBd.size)))
      go_wp2
      go_roundw
      case rel => exact ⟨k + 1, by omega, by go_num, rfl, hB5⟩
      case measure => simp [intOf]; omega
    · have hk' : k = m := by omega
      subst hk'
      have hE := fun w => seq_end L T k hm2 w
      obtain ⟨wo, rfl⟩ : ∃ wo : World, wo = wr := ⟨_, rfl⟩
      go_wp2
      go_loopw [13, 14] (fun x i wr => ∃ j : Nat, j ≤ k ∧ i = .int .i64 j ∧ x = .int .i64 (seq L T j).size ∧ Below w.heap.size w wr) (fun _ i _ => k - (intOf i).toNat)
      case atStart => exact ⟨0, by omega, rfl, rfl, hBr⟩
      case round =>
        obtain ⟨j, hj, rfl, rfl, hBr⟩ := hrel
        by_cases hjk : j < k
        · obtain ⟨e1, e2, e3⟩ := HL.out j hjk
          obtain ⟨f1, f2⟩ := HS.out j hjk
          have g1 := (hBr.cell (p := ⟨b0, o0 + j, none⟩) hb0).trans e1
          have g2 := (hBr.cell (p := ⟨b1, o1 + j, none⟩) hb1).trans f1
          clear e1 f1 hE
          unfold maxLen at f2
          have hN := fun w => number_any (L j) e2 e3 w
          have hI := fun w => seq_int L T j k hjk hm2 w
          have hS' := fun w => seq_string L T j k hjk hm2 w
          have u1 : (0 : Int) ≤ min ((T j).size : Int) 100 := by omega
          have u2 : min ((T j).size : Int) 100 ≤ ((T j).size : Int) := by omega
          have hcut : (T j).extract 0 (min ((T j).size : Int) 100).toNat = cut (T j) := rfl
          have k0 : j < l0 := by omega
          have k1 : j < l1 := by omega
          have z1 := enc_len (nf (L j))
          have z4 := seq_size L T j
          rw [← encB_size] at z1
          have HR := Lib.hid hBr
          clear hBr
          have G := Lib.hid (And.intro g1 (And.intro g2 (Below.refl wr.heap.size wr)))
          clear g1 g2
          go_wp2_with (first
            | (go_at_call 15; (with_reducible refine (hI _).mono ?_); rintro e w' ⟨rfl, rfl⟩)
            | (go_at_call 17; (with_reducible refine (hS' _).mono ?_); rintro e w' ⟨rfl, hb⟩; replace G := Lib.hid (And.intro (cell_later hb G.out.1) (And.intro (cell_later hb G.out.2.1) (G.out.2.2.trans (hb.mono G.out.2.2.size)))); clear hb))
          obtain ⟨g3, g4, hB3⟩ := G.out
          clear G
          have hBd : Below w.heap.size w w'.drew := (HR.out.trans (hB3.mono HR.out.size)).drew
          clear hB3 hI hS' HR
          go_region_held3 (fun w1 => w1.cell? ⟨b0, o0 + j, none⟩ = some (.int .i64 (L j)) ∧ w1.cell? ⟨b1, o1 + j, none⟩ = some (.string (T j)) ∧ Below w.heap.size w w1)
            (first | exact ⟨g5, g6, hB5⟩ | exact ⟨g3, g4, hBd⟩)
            (first | (go_at_call 11; (with_reducible refine (hN _).mono ?_); rintro e w'' ⟨rfl, hb⟩; have g5 : w''.cell? ⟨b0, o0 + j, none⟩ = some (.int .i64 (L j)) := cell_later hb g3; have g6 : w''.cell? ⟨b1, o1 + j, none⟩ = some (.string (T j)) := cell_later hb g4; have hB5 : Below w.heap.size w w'' := hBd.trans (hb.mono hBd.size)))
          go_wp2
          go_roundw
          case rel => exact ⟨j + 1, by omega, by go_num, rfl, hB5⟩
          case measure => simp [intOf]; omega
        · have hj' : j = k := by omega
          subst hj'
          go_wp2_with (go_at_call 15; (with_reducible refine (hE _).mono ?_); rintro e w' ⟨rfl, rfl⟩)
          go_ret
          exact ⟨rfl, hBr⟩

set_option maxRecDepth 100000 in
set_option maxHeartbeats 1000000 in
theorem seq_zero (p0 p1 : Option Addr) (l0 c0 l1 c1 : Nat) (_hl0 : l0 ≤ 9223372036854775807) (_hl1 : l1 ≤ 9223372036854775807)
    (hm : ∀ w, (Builtin.min_ #[3, 3, 3] 3 #[.int .i64 l0, .int .i64 l1, .int .i64 20]).run Tryd.prog w = .ok (.int .i64 0) w) (w : World) (hT : Tab w) :
    Calls Tryd.prog 6 #[.slice p0 l0 c0, .slice p1 l1 c1] w fun e w' => e = .returned (.bool true) ∧ Below w.heap.size w w' := by
  have HB := Below.refl w.heap.size w
  have HT := Lib.hid hT
  have hE : ∀ w, Calls Tryd.prog 15 #[.string ⟨#[]⟩, .int .i64 0] w fun e w' => e = .returned (.tuple #[.int .i64 0, .int .i64 0, .int .i64 10]) ∧ w = w' := fun w => int_none ⟨#[]⟩ (maxLen_ge _ (by decide)) 0 (by decide) w (by decide)
  clear hT
  go_enter Tryd.func6, Tryd.ntmps6
  go_wp2_with (first
    | (go_at_call 10; (with_reducible refine (sane_any _ HT.out).mono ?_); rintro e w' ⟨rfl, hb'⟩; replace HB := HB.trans (hb'.mono HB.size); replace HT := Lib.hid (HT.out.below hb'); clear hb'))
  clear hm
  go_loopw [7, 8] (fun x i wr => i = .int .i64 0 ∧ x = .string ⟨#[]⟩ ∧ Below w.heap.size w wr) (fun _ _ _ => 0)
  case atStart => exact ⟨rfl, rfl, HB⟩
  case round =>
    obtain ⟨rfl, rfl, hBr⟩ := hrel
    clear HB
    obtain ⟨wo, rfl⟩ : ∃ wo : World, wo = wr := ⟨_, rfl⟩
    go_wp2
    go_loopw [13, 14] (fun x i wr => i = .int .i64 0 ∧ x = .int .i64 0 ∧ Below w.heap.size w wr) (fun _ _ _ => 0)
    case atStart => exact ⟨rfl, rfl, hBr⟩
    case round =>
      obtain ⟨rfl, rfl, hBr⟩ := hrel
      go_wp2_with (go_at_call 15; (with_reducible refine (hE _).mono ?_); rintro e w' ⟨rfl, rfl⟩)
      go_ret
      exact ⟨rfl, hBr⟩

theorem min3 (l0 l1 : Nat) (w : World) : (Builtin.min_ #[3, 3, 3] 3 #[.int .i64 l0, .int .i64 l1, .int .i64 20]).run Tryd.prog w = .ok (.int .i64 (min (min l0 l1) 20 : Nat)) w := by
  simp only [Builtin.min_, List.foldlM_cons, List.foldlM_nil, Builtin.min2, pure_bind]
  show Result.ok _ w = _
  congr 2
  repeat split
  all_goals omega

/-- the law at whatever slices: nil, empty and others -/
theorem seq_all (p0 p1 : Option Addr) (l0 c0 l1 c1 : Nat) (L : Nat → Int) (T : Nat → ByteArray) (hl0 : l0 ≤ maxLen) (hl1 : l1 ≤ maxLen) (w : World) (hT : Tab w)
    (hL : ∀ i, i < l0 → ∃ b o, p0 = some ⟨b, o, none⟩ ∧ b < w.heap.size ∧ w.cell? ⟨b, o + i, none⟩ = some (.int .i64 (L i)) ∧ -9223372036854775808 ≤ L i ∧ L i ≤ 9223372036854775807)
    (hS : ∀ i, i < l1 → ∃ b o, p1 = some ⟨b, o, none⟩ ∧ b < w.heap.size ∧ w.cell? ⟨b, o + i, none⟩ = some (.string (T i)) ∧ (T i).size ≤ maxLen) :
    Calls Tryd.prog 6 #[.slice p0 l0 c0, .slice p1 l1 c1] w fun e w' => e = .returned (.bool true) ∧ Below w.heap.size w w' := by
  unfold maxLen at hl0 hl1
  by_cases h0 : min (min l0 l1) 20 = 0
  · exact seq_zero p0 p1 l0 c0 l1 c1 (by omega) (by omega) (fun w => by rw [min3, h0]; rfl) w hT
  · obtain ⟨b0, o0, rfl, hb0, _⟩ := hL 0 (by omega)
    obtain ⟨b1, o1, rfl, hb1, _⟩ := hS 0 (by omega)
    refine seq_walk b0 o0 l0 c0 b1 o1 l1 c1 L T (min (min l0 l1) 20) (by omega) (by omega) (min3 l0 l1) (by omega) (by omega) (by omega) w hT hb0 hb1 (fun i hi => ?_) (fun i hi => ?_)
    · obtain ⟨b, o, e, _, h⟩ := hL i (by omega)
      simp only [Option.some.injEq, Addr.mk.injEq, and_true] at e
      obtain ⟨rfl, rfl⟩ := e
      exact h
    · obtain ⟨b, o, e, _, h⟩ := hS i (by omega)
      simp only [Option.some.injEq, Addr.mk.injEq, and_true] at e
      obtain ⟨rfl, rfl⟩ := e
      exact h
end Go.Proofs.YtmhpcbaoicboaaaDoor
