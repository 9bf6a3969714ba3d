/- The walk of the law WireRoundTrip. -/
import Derived.Test.YtmhpcbaoicboaaaDoorWi
namespace Go.Proofs.YtmhpcbaoicboaaaDoor
open Go.RowKit

theorem two_cells (W : World) (a b : Value) (t : TypeId) : (W.alloc (.cells #[a, b] t)).cell? ⟨W.heap.size, 0, none⟩ = some a ∧ (W.alloc (.cells #[a, b] t)).cell? ⟨W.heap.size, 1, none⟩ = some b := by
  have h := World.alloc_heap_new W (.cells #[a, b] t)
  constructor <;> rw [World.cell?, h] <;> rfl

/-- a string, cut to 200 bytes -/
theorem cut200 (s : ByteArray) : ∃ p : ByteArray, s.extract 0 (min (s.size : Int) 200).toNat = p ∧ p.size ≤ 200 := ⟨_, rfl, by rw [ByteArray.size_extract]; omega⟩

set_option maxRecDepth 100000 in
set_option maxHeartbeats 1000000 in
theorem roundTrip_walk (c : Int) (t a0 a1 : ByteArray) (hc0 : -9223372036854775808 ≤ c) (hc1 : c ≤ 9223372036854775807) (ht : t.size ≤ maxLen) (h0 : a0.size ≤ maxLen) (h1 : a1.size ≤ maxLen) (w : World) (hT : Tab w) :
    Calls Tryd.prog 4 #[.int .i64 c, .string t, .agg #[.string a0, .string a1]] w fun e w' => e = .returned (.bool true) ∧ Below w.heap.size w w' := by
  unfold maxLen at ht h0 h1
  have HB := (Below.refl w.heap.size w).alloc (Nat.le_refl _) (.cells #[.string a0, .string a1] 36)
  have HT := Lib.hid (hT.below HB)
  clear hT
  obtain ⟨g0, g1⟩ := two_cells w (.string a0) (.string a1) 36
  have G := Lib.hid (And.intro g0 g1)
  clear g0 g1
  obtain ⟨p, hp, hp2⟩ := cut200 a0
  obtain ⟨q, hq, hq2⟩ := cut200 a1
  obtain ⟨u, hu, hu2⟩ := cut200 t
  obtain ⟨n0, n1⟩ := nf_range c
  have hPI := fun w => putInt_ok (nf c) n0 n1 w
  have l1 := enc_len (nf c)
  have l2 := enc_len u.size
  rw [← encB_size] at l1 l2
  have hPS := fun w => putString_ok u (by omega) w
  have hI := fun w => int_in p q (nf c) n0 n1 (by unfold maxLen; simp only [ByteArray.size_append]; omega) w
  have hS := fun w => string_in p q u (by omega) (by unfold maxLen; simp only [ByteArray.size_append]; omega) w
  go_enter Tryd.func4, Tryd.ntmps4
  go_wp2_with (first
    | (go_at_call 10; (with_reducible refine (sane_any _ HT.out).mono ?_); rintro e w' ⟨rfl, hb⟩; replace G := Lib.hid (And.intro (cell_later hb G.out.1) (cell_later hb G.out.2)); replace HB := HB.trans (hb.mono HB.size); replace HT := Lib.hid (HT.out.below hb); clear hb)
    | (go_at_call 11; (with_reducible refine (number_any _ hc0 hc1 _).mono ?_); rintro e w' ⟨rfl, hb⟩; have g0 := cell_later hb G.out.1; have g1 := cell_later hb G.out.2; clear G; replace HB := HB.trans (hb.mono HB.size); clear hb)
    | (go_at_call 12; (with_reducible refine (hPI _).mono ?_); rintro e w' ⟨rfl, hb⟩; replace HB := HB.trans (hb.mono HB.size); clear hb)
    | (go_at_call 19; (with_reducible refine (hPS _).mono ?_); rintro e w' ⟨rfl, hb⟩; replace HB := HB.trans (hb.mono HB.size); clear hb)
    | (go_at_call 15; (with_reducible refine (hI _).mono ?_); rintro e w' ⟨rfl, rfl⟩)
    | (go_at_call 17; (with_reducible refine (hS _).mono ?_); rintro e w' ⟨rfl, hb⟩; replace HB := HB.trans (hb.mono HB.size); clear hb))
  go_ret
  exact ⟨rfl, HB⟩
end Go.Proofs.YtmhpcbaoicboaaaDoor
