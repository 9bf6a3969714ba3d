/- Walks of the laws' few, left and binary. -/
import Derived.Test.YtdjdoepnljdlcaaDoorTc
namespace Go.Proofs.YtdjdoepnljdlcaaDoor
open Go.RowKit

/-- a string, cut to 60 bytes -/
def cut60 (s : ByteArray) : ByteArray := s.extract 0 (min (s.size : Int) 60).toNat
theorem cut60_size (s : ByteArray) : (cut60 s).size ≤ 60 := by rw [cut60, ByteArray.size_extract]; omega
/-- at most n strings, each cut -/
def fw (l : List ByteArray) (n : Nat) : List ByteArray := (l.take n).map cut60
theorem fw_len (l : List ByteArray) (n : Nat) : (fw l n).length ≤ n := by simp [fw]; omega
theorem fw_size (l : List ByteArray) (n : Nat) : ∀ s ∈ fw l n, s.size ≤ 60 := by
  intro s hs
  obtain ⟨x, _, rfl⟩ := List.mem_map.1 hs
  exact cut60_size x

set_option maxRecDepth 100000 in
set_option maxHeartbeats 2000000 in
theorem few_any (l : List ByteArray) (n : Nat) (v : Value) (w : World) (hn : n ≤ 1000) (hz : ∀ s ∈ l, s.size ≤ 9223372036854775807) (hs : Sl w v l) :
    Calls Tryd.prog 21 #[v, .int .i64 (n : Int)] w fun e w' => ∃ u, e = .returned u ∧ w'.ownsRow w.heap.size 9 1 u (fw l n).length (scells (fw l n)) ∧ Below w.heap.size w w' := by
  rcases hs with ⟨rfl, rfl⟩ | ⟨b, o, c, rfl, hlc, hc, hb, hr⟩
  · have he : fw [] n = [] := by simp [fw]
    rw [he]
    clear he
    go_enter Tryd.func21, Tryd.ntmps21
    go_wp2
    go_loopw [5, 6] (fun u i wr => i = .int .i64 0 ∧ u = .slice none 0 0 ∧ Hid (wr = w)) (fun _ _ _ => 0)
    case atStart => exact ⟨rfl, rfl, Lib.hid rfl⟩
    case round =>
      obtain ⟨rfl, rfl, hwr⟩ := hrel
      go_wp2
      go_ret
      refine ⟨_, rfl, ?_, ?_⟩
      · exact World.ownsRow_nil _ _ _ _
      · rw [hwr.out]; exact Below.refl _ _
  · obtain ⟨L, hL⟩ : ∃ L, l.length = L := ⟨_, rfl⟩
    rw [hL] at hlc ⊢
    obtain ⟨i9, hi9, hzr9, hsz9, hby9⟩ := info_parts info9'
    have HL := Lib.hid hL
    have HR := Lib.hid hr
    have HZ := Lib.hid hz
    clear hL hr hz
    go_enter Tryd.func21, Tryd.ntmps21
    go_wp2
    go_loopw [5, 6] (fun u i wr => ∃ k : Nat, k ≤ L ∧ k ≤ n ∧ i = .int .i64 (k : Int) ∧ Hid (wr.ownsRow w.heap.size 9 1 u k (scells (fw l k))) ∧ Below w.heap.size w wr) (fun _ i _ => n - (intOf i).toNat)
    case atStart => exact ⟨0, by omega, by omega, rfl, Lib.hid (World.ownsRow_nil _ _ _ _ : World.ownsRow _ _ _ _ (.slice none 0 0) 0 []), Below.refl _ _⟩
    case round =>
      obtain ⟨k, hk, hkn, rfl, HO, hB⟩ := hrel
      have hle := hB.size
      by_cases hlt : k < L
      · by_cases hlt2 : k < n
        · have hkl : k < l.length := by rw [HL.out]; exact hlt
          have hcell := (HR.out.below hB hb) k _ (List.getElem?_eq_getElem hkl)
          have hsz := HZ.out _ (List.getElem_mem hkl)
          have hfw : scells (fw l (k + 1)) = scells (fw l k) ++ [.string (cut60 l[k])] := by
            rw [fw, List.take_succ_eq_append_getElem hkl, List.map_append, scells, List.map_append]; rfl
          have HF := Lib.hid hfw
          clear hfw
          obtain ⟨s, hs⟩ : ∃ s, l[k] = s := ⟨_, rfl⟩
          rw [hs] at hcell hsz HF
          clear hs hkl
          have u1 : 0 ≤ min (s.size : Int) 60 := by omega
          have u2 : min (s.size : Int) 60 ≤ (s.size : Int) := by omega
          have hcut : s.extract 0 (min (s.size : Int) 60).toNat = cut60 s := rfl
          have c0 : (0 : Int) ≤ (k : Int) := by omega
          have c1 : (k : Int) < (L : Int) := by omega
          go_wp2
          go_region_law (first | (refine step_append_lies _ rfl (.tmp 18) (.tmp 30) 26 rfl w.heap.size 9 i9 (.string ⟨#[]⟩) 1 16 Tryd.underlying26 hi9 hzr9 hsz9 hby9 rfl (by decide) _ _ _ rfl (HO.out.alloc _) ⟨wr.heap.size, 0, none⟩ 1 1 [.string (cut60 s)] rfl rfl (one_newS wr _) (by intro u hu; simp at hu; subst hu; rfl) (by decide) (by unfold maxLen; omega) (by omega) (Nat.le_trans hB.size (by simp)) _ rfl ?_; intro g cap w3 hown3 hgrow _ _))
          all_goals
            have hB3 : Below w.heap.size w w3 := (hB.alloc hB.size (.cells #[.string (cut60 s)] 9)).drew.grown hgrow (Nat.le_trans hB.size (by simp)) fun k e => (HO.out.lt k e).1
            have HO3 := Lib.hid hown3
            clear hown3 hgrow
            go_wp2
            go_roundw
          all_goals first
            | exact ⟨k + 1, by omega, by omega, by go_num, Lib.hid (by rw [HF.out]; exact HO3.out), hB3⟩
            | (simp [intOf]; omega)
        · have hkn' : k = n := by omega
          subst hkn'
          go_wp2
          go_ret
          refine ⟨_, rfl, ?_, hB⟩
          have hl : (fw l k).length = k := by rw [fw, List.length_map, List.length_take, HL.out]; omega
          rw [hl]
          exact HO.out
      · have hkL : k = L := by omega
        subst hkL
        have hl : fw l n = fw l k := by
          rw [fw, fw, List.take_of_length_le (by rw [HL.out]; omega), List.take_of_length_le (by rw [HL.out]; omega)]
        have HFl := Lib.hid hl
        clear hl
        go_wp2
        go_ret
        refine ⟨_, rfl, ?_, hB⟩
        have hl : (fw l k).length = k := by rw [fw, List.length_map, List.length_take, HL.out]; omega
        rw [HFl.out, hl]
        exact HO.out

theorem left_any (n : Nat) (h : 2 ≤ n) (h2 : n ≤ 9223372036854775807) (w : World) : Calls Tryd.prog 38 #[.int .i64 (n : Int)] w fun e w' => e = .returned (.int .i64 ((spl n : Nat) : Int)) ∧ w = w' := by
  go_enter Tryd.func38, Tryd.ntmps38
  go_wp2
  go_loop [3] (fun x => ∃ e k : Nat, 2 ^ e = k ∧ k < n ∧ x = .int .i64 (k : Int)) (fun x => n - (intOf x).toNat)
  case atStart => exact ⟨0, 1, rfl, by omega, rfl⟩
  case round =>
    obtain ⟨e, k, he, hk, rfl⟩ := hrel
    have HE := Lib.hid he
    have hpos : 1 ≤ k := by rw [← he]; exact Nat.one_le_two_pow
    clear he
    by_cases hlt : (k : Int) < (n : Int) - (k : Int)
    · go_wp2
      go_round
      case rel => exact ⟨e + 1, 2 * k, by rw [Nat.pow_succ, HE.out]; omega, by omega, by go_num⟩
      case measure => simp [intOf]; omega
    · have hs : spl n = k := by rw [← HE.out]; exact (spl_of n e h (by rw [HE.out]; omega) (by rw [HE.out]; exact hk)).symm
      have HS := Lib.hid hs
      clear hs
      go_wp2
      go_ret
      exact ⟨by rw [HS.out]; rfl, rfl⟩
theorem left_one (n : Int) (h : n ≤ 1) (h2 : -9223372036854775807 ≤ n) (w : World) : Calls Tryd.prog 38 #[.int .i64 n] w fun e w' => e = .returned (.int .i64 1) ∧ w = w' := by
  go_enter Tryd.func38, Tryd.ntmps38
  go_wp2
  go_loop [3] (fun x => x = .int .i64 1) (fun _ => 0)
  case atStart => exact rfl
  case round =>
    subst hrel
    have hlt : ¬ (1 : Int) < n - 1 := by omega
    go_wp2
    go_ret
    exact ⟨rfl, rfl⟩

/-- the number of binary digits -/
def bin (n : Nat) : Nat := if n = 0 then 0 else Nat.log2 n + 1
theorem bin_half (n : Nat) (h : 0 < n) : bin n = bin (n / 2) + 1 := by
  unfold bin
  rw [if_neg (by omega)]
  by_cases h2 : n / 2 = 0
  · rw [if_pos h2]
    have : n = 1 := by omega
    subst this; rfl
  · rw [if_neg h2, Nat.log2_def n, if_pos (by omega)]
theorem bin_bound (n : Nat) : n ≤ 2 ^ bin n := by
  unfold bin
  split
  · omega
  · exact Nat.le_of_lt Nat.lt_log2_self
theorem binary_any (n : Nat) (h2 : n ≤ 9223372036854775807) (w : World) : Calls Tryd.prog 33 #[.int .i64 (n : Int)] w fun e w' => e = .returned (.int .i64 ((bin n : Nat) : Int)) ∧ w = w' := by
  have hb : bin n ≤ 64 := by
    unfold bin
    split
    · omega
    · have h3 : 2 ^ Nat.log2 n < 2 ^ 63 := Nat.lt_of_le_of_lt (Nat.log2_self_le (by assumption)) (by omega)
      have := (Nat.pow_lt_pow_iff_right (a := 2) (by decide)).1 h3
      omega
  go_enter Tryd.func33, Tryd.ntmps33
  go_wp2
  go_loop [0, 3] (fun x i => ∃ m k : Nat, m ≤ n ∧ k + bin m = bin n ∧ x = .int .i64 (m : Int) ∧ i = .int .i64 (k : Int)) (fun x _ => (intOf x).toNat)
  case atStart => exact ⟨n, 0, by omega, by omega, rfl, rfl⟩
  case round =>
    obtain ⟨m, k, hm, hk, rfl, rfl⟩ := hrel
    by_cases hlt : 0 < m
    · have hh := bin_half m hlt
      have HH := Lib.hid hh
      have hk2 : k ≤ 64 := by omega
      have HK := Lib.hid hk
      clear hh hk
      go_wp2
      go_round
      case rel => exact ⟨m / 2, k + 1, by omega, by have := HH.out; have := HK.out; omega, by go_num, by go_num⟩
      case measure => simp [intOf]; omega
    · obtain rfl : m = 0 := by omega
      have e : bin n = k := by rw [← hk]; simp [bin]
      have HE := Lib.hid e
      clear e hk hb
      go_wp2
      go_ret
      exact ⟨by rw [HE.out]; rfl, rfl⟩
end Go.Proofs.YtdjdoepnljdlcaaDoor
