/- FromInt and ToInt. -/
import Derived.Test.YtbdiofifjckceaaGreatDoorRa
import Derived.Test.YtbdiofifjckceaaGreatDoorZs
import Derived.Lib.AppendIntMem
namespace Go.Proofs.YtbdiofifjckceaaGreatDoor
open Go.RowKit

theorem dec_txN (u : Nat) : Lib.decDigits u = txN u := by
  induction u using Nat.strongRecOn with
  | ind u ih =>
    rw [Lib.decDigits]
    by_cases h : u < 10
    · rw [dif_pos h, txN]
      split
      · rename_i h0; subst h0; rfl
      · rename_i h0
        rw [grpX_pos (by omega), show u / 10 = 0 by omega, grpX_zero, lts_cons]
        simp only [lts, ltr, List.map_nil, List.reverse_nil, List.nil_append, Int.toNat_natCast]
        rw [show u % 10 = u by omega]
    · rw [dif_neg h, ih _ (by omega), txN, txN, if_neg (by omega), if_neg (by omega), grpX_pos (n := u) (by omega), lts_cons]
      simp only [ltr, Int.toNat_natCast]
theorem itoa_txt (n : Int) : Lib.itoa n = txt n := by
  rw [Lib.itoa, txt]
  split
  · rw [dec_txN]
  · rw [dec_txN, show n.toNat = n.natAbs by omega]

def vf (acc : Nat) (l : List UInt8) : Nat := l.foldl (fun a c => 10 * a + (c.toNat - 48)) acc
theorem vf_ge (acc : Nat) (l : List UInt8) : acc ≤ vf acc l := by
  induction l generalizing acc with
  | nil => exact Nat.le_refl _
  | cons c l ih => exact Nat.le_trans (by omega) (ih (10 * acc + (c.toNat - 48)))
theorem pM (acc : Nat) (l : List UInt8) (h : l.all isDg = true) (ha : acc ≤ 18446744073709551615) : Lib.parseUintM 18446744073709551615 acc l = if vf acc l ≤ 18446744073709551615 then .ok (vf acc l) else .range := by
  induction l generalizing acc with
  | nil => rw [Lib.parseUintM]; exact (if_pos ha).symm
  | cons c l ih =>
    rw [List.all_cons, Bool.and_eq_true] at h
    have hc := (isDg_iff c).1 h.1
    have hge := vf_ge (10 * acc + (c.toNat - 48)) l
    have hv : vf acc (c :: l) = vf (10 * acc + (c.toNat - 48)) l := rfl
    rw [Lib.parseUintM, if_pos hc, hv]
    by_cases h1 : 1844674407370955162 ≤ acc
    · rw [if_pos h1, if_neg (by omega)]
    · rw [if_neg h1]
      by_cases h2 : 18446744073709551615 < acc * 10 + (c.toNat - 48)
      · rw [if_pos h2, if_neg (by omega)]
      · rw [if_neg h2, show acc * 10 + (c.toNat - 48) = 10 * acc + (c.toNat - 48) by omega]
        exact ih _ h.2 (by omega)
theorem pU (n : Nat) : Lib.parseUintB 64 (txN n) = if n ≤ 18446744073709551615 then .ok n else .range := by
  have hp := txN_pos n
  have hne : txN n ≠ [] := fun e => by rw [e] at hp; cases hp
  have hv : vf 0 (txN n) = n := txN_num n
  rw [Lib.parseUintB, if_neg hne, show (2 ^ 64 - 1 : Nat) = 18446744073709551615 from rfl, pM 0 (txN n) (txN_all n) (by omega), hv]
theorem pI (z : Int) : Lib.parseIntB 64 (txt z) = if -9223372036854775808 ≤ z ∧ z ≤ 9223372036854775807 then .ok z else .range := by
  by_cases hz : z < 0
  · rw [txt, if_pos hz, Lib.parseIntB]
    have h45 : (45 : UInt8).toNat = 45 := rfl
    simp only [h45, or_true, if_true, true_and, not_true_eq_false, false_and, if_false]
    rw [pU]
    by_cases h1 : z.natAbs ≤ 18446744073709551615
    · rw [if_pos h1]
      simp only
      by_cases h2 : 2 ^ (64 - 1) < z.natAbs
      · rw [if_pos h2, if_neg]
        rw [show (2 : Nat) ^ (64 - 1) = 9223372036854775808 from rfl] at h2
        omega
      · rw [if_neg h2, if_pos]
        · congr 1; omega
        · rw [show (2 : Nat) ^ (64 - 1) = 9223372036854775808 from rfl] at h2
          omega
    · rw [if_neg h1]
      simp only
      rw [if_neg (by omega)]
  · rw [txt, if_neg hz]
    have hp := txN_pos z.natAbs
    have hall := txN_all z.natAbs
    have hU := pU z.natAbs
    generalize txN z.natAbs = l at *
    cases l with
    | nil => cases hp
    | cons c r =>
      rw [List.all_cons, Bool.and_eq_true] at hall
      have hc2 := (isDg_iff c).1 hall.1
      have n1 : ¬ c.toNat = 43 := by omega
      have n2 : ¬ c.toNat = 45 := by omega
      rw [Lib.parseIntB]
      simp only [n2, n1, or_false, if_false, not_false_eq_true, true_and, false_and]
      rw [hU]
      by_cases h1 : z.natAbs ≤ 18446744073709551615
      · rw [if_pos h1]
        simp only
        by_cases h2 : 2 ^ (64 - 1) ≤ z.natAbs
        · rw [if_pos h2, if_neg]
          rw [show (2 : Nat) ^ (64 - 1) = 9223372036854775808 from rfl] at h2
          omega
        · rw [if_neg h2, if_pos]
          · congr 1; omega
          · rw [show (2 : Nat) ^ (64 - 1) = 9223372036854775808 from rfl] at h2
            omega
      · rw [if_neg h1]
        simp only
        rw [if_neg (by omega)]

/-- what the contracts of FromInt and ToInt want of a world: the table of powers, and an error in the variable ErrRange -/
def Tz (w : World) : Prop := Lib.TabIs Tryz.prog w "internal/strconv.uint64pow10" .u64 Lib.pow10Tab ∧ ∃ te pe, w.var? Tryz.prog "strconv.ErrRange" = some #[.iface te pe]
theorem var_below {w w' : World} {name : String} {cs : Array Value} (h : w.var? Tryz.prog name = some cs) (hb : Below w.heap.size w w') : w'.var? Tryz.prog name = some cs := by
  unfold World.var? at h ⊢
  cases hg : Tryz.prog.globalNamed name with
  | none => rw [hg] at h; cases h
  | some g =>
    rw [hg] at h
    simp only [Option.bind_some] at h ⊢
    by_cases hlt : g < w.heap.size
    · rw [hb.block g hlt]; exact h
    · rw [Array.getElem?_eq_none (by omega)] at h; cases h
theorem Tz.below {w w' : World} (h : Tz w) (hb : Below w.heap.size w w') : Tz w' := by
  obtain ⟨h1, te, pe, h2⟩ := h
  exact ⟨var_below h1 hb, te, pe, var_below h2 hb⟩

set_option maxRecDepth 100000 in
theorem FromInt_any (n : Int) (w : World) (h0 : -9223372036854775808 ≤ n) (h1 : n ≤ 9223372036854775807) (hT : Tz w) :
    Calls Tryz.prog 27 #[.int .i64 n] w fun e w' => e = .returned (.string (S n)) ∧ Below w.heap.size w w' := by
  have c : Calls Tryz.prog 54 #[.int .i64 n] w fun e w' => e = .returned (.string (S n)) ∧ Below w.heap.size w w' := by
    have h := Any.strconv_Itoa Tryz.laysItoa n h0 h1 w hT.1
    refine h.mono fun e w' ⟨he, k, os, hw⟩ => ⟨?_, hw ▸ Lib.below_grow w.heap.size w (Nat.le_refl _) k os⟩
    rw [he, itoa_txt]; rfl
  generalize S n = T at *
  clear h0 h1 hT
  go_enter Tryz.func27, Tryz.ntmps27
  go_wp2_with (go_at_call 54; (with_reducible refine c.mono ?_); rintro e w1 ⟨rfl, B1⟩)
  go_ret
  exact ⟨rfl, B1⟩
theorem S_size {z : Int} (h : z.natAbs < 10 ^ 200) : (S z).size ≤ 201 := by
  have := (vld_digits (txt_vld h)).2.2
  rw [show (S z).size = (txt z).length by simp [S, ByteArray.size]]
  exact this

set_option maxRecDepth 100000 in
theorem ToInt_ok (z : Int) (w : World) (h0 : -9223372036854775808 ≤ z) (h1 : z ≤ 9223372036854775807) :
    Calls Tryz.prog 21 #[.string (S z)] w fun e w' => e = .returned (.tuple #[.int .i64 z, .int .i64 0]) ∧ Below w.heap.size w w' := by
  have hz : z.natAbs < 10 ^ 200 := by omega
  have hs := S_size hz
  have cV := fun W => Valid_S z hz W
  have cP := fun W => Any.strconv_ParseInt_10_at64_ok Tryz.laysParseInt (S z) (by omega) z (by rw [S_list, pI, if_pos ⟨h0, h1⟩]) W
  have cP2 : ∀ W, Calls Tryz.prog 51 #[.string (S z), .int .i64 10, .int .i64 64] W fun e w' => e = .returned (.tuple #[.int .i64 z, .nilIface]) ∧ Below W.heap.size W w' := fun W => (cP W).mono fun e w' ⟨he, hw⟩ => ⟨he, by
    rcases hw with rfl | ⟨t, rfl⟩
    · exact Below.refl _ _
    · exact Lib.bytesWorld_below W _ t⟩
  generalize S z = T at *
  clear cP hs hz h0 h1
  go_enter Tryz.func21, Tryz.ntmps21
  go_wp2_with (first | (go_at_call 23; (with_reducible refine (cV _).mono ?_); rintro e w1 ⟨rfl, B1⟩) | (go_at_call 51; (with_reducible refine (cP2 _).mono ?_); rintro e w2 ⟨rfl, B2⟩))
  go_ret2
  exact ⟨rfl, B1.trans (B2.mono B1.size)⟩

set_option maxRecDepth 100000 in
theorem ToInt_out (z : Int) (w : World) (hz : z.natAbs < 10 ^ 200) (h0 : ¬ (-9223372036854775808 ≤ z ∧ z ≤ 9223372036854775807)) (hT : Tz w) :
    Calls Tryz.prog 21 #[.string (S z)] w fun e w' => e = .returned (.tuple #[.int .i64 0, .int .i64 30]) ∧ Below w.heap.size w w' := by
  have hs := S_size hz
  have cV := fun W => Valid_S z hz W
  have cP2 : ∀ W, Tz W → Calls Tryz.prog 51 #[.string (S z), .int .i64 10, .int .i64 64] W fun e w' => ∃ v t p, e = .returned (.tuple #[.int .i64 v, .iface t p]) ∧ Below W.heap.size W w' := fun W hW => by
    obtain ⟨_, te, pe, hv⟩ := hW
    have hc : W.cell? ⟨Tryz.laysParseInt_ren.g 16, 0, none⟩ = some (.iface te pe) := by
      have := World.var?_cell (P := Tryz.prog) (n := "strconv.ErrRange") (g := Tryz.laysParseInt_ren.g 16) (by kernel_rfl) hv 0
      simpa using this
    exact (Any.strconv_ParseInt_10_at64_range Tryz.laysParseInt (S z) (by omega) (by rw [S_list, pI, if_neg h0]) (.iface te pe) W hc (.inr ⟨te, pe, rfl⟩)).mono fun e w' h => by
      obtain ⟨N, he, _, _, hb⟩ := h
      exact ⟨_, _, _, he, hb⟩
  generalize S z = T at *
  have hTT := Lib.hid hT
  clear hs hz h0 hT
  go_enter Tryz.func21, Tryz.ntmps21
  go_wp2_with (first | (go_at_call 23; (with_reducible refine (cV _).mono ?_); rintro e w1 ⟨rfl, B1⟩) | (go_at_call 51; (with_reducible refine (cP2 _ (hTT.out.below B1)).mono ?_); rintro e w2 ⟨v, t, p, rfl, B2⟩))
  go_ret2
  exact ⟨rfl, B1.trans (B2.mono B1.size)⟩
theorem ToInt_no (s : ByteArray) (L : List UInt8) (w : World) (hL : s.data.toList = L) (hz : L.length ≤ 60000) (hv : vld L = false) :
    Calls Tryz.prog 21 #[.string s] w fun e w' => e = .returned (.tuple #[.int .i64 0, .int .i64 30]) ∧ Below w.heap.size w w' := by
  have cV := fun W => Valid_any s L W hL hz
  rw [hv] at cV
  clear hL hz hv
  go_enter Tryz.func21, Tryz.ntmps21
  go_wp2_with (go_at_call 23; (with_reducible refine (cV _).mono ?_); rintro e w1 ⟨rfl, B1⟩)
  go_ret2
  exact ⟨rfl, B1⟩
end Go.Proofs.YtbdiofifjckceaaGreatDoor
