/- The functions of the packages and of the references, by contract: part 3. -/
import Derived.Deep.Cut
import Derived.Test.YtdnbhgkbfbgnaaaGreatDoorHb
namespace Go.Proofs.YtdnbhgkbfbgnaaaGreatDoor
open Go.RowKit
theorem step_minus {n m i : Nat} {b b' nn d : Int} {l : List Int} {T : Int} (hl : l.length = i) (h : vlX l + 10 ^ i * (((n / 10 ^ i : Nat) : Int) - ((m / 10 ^ i : Nat) : Int) - b) = T) (hn : nn = (((n / 10 ^ i) % 10 : Nat) : Int) - b - (((m / 10 ^ i) % 10 : Nat) : Int)) (hd : nn = d - 10 * b') :
  vlX (l ++ [d]) + 10 ^ (i + 1) * (((n / 10 ^ (i + 1) : Nat) : Int) - ((m / 10 ^ (i + 1) : Nat) : Int) - b') = T := by
 have s1 := gx_step n i
 have s2 := gx_step m i
 rw [vlX_snoc, hl, ← h, Int.add_assoc, Int.pow_succ, Int.mul_assoc, ← Int.mul_add]
 congr 2
 generalize n / 10 ^ (i + 1) = n1 at *
 generalize m / 10 ^ (i + 1) = m1 at *
 generalize n / 10 ^ i = n0 at *
 generalize m / 10 ^ i = m0 at *
 omega
theorem rtrim_X {w W : World} {base i cp n : Nat} {ad : Option Addr} {l : List Int} (h : w.ownsRow base 3 1 (.slice ad i cp) i (ints l)) (hl : l.length = i) (hd : DigX l) (hv : vlX l = n) (hW : Below w.heap.size w W) :
  Calls Tryz.prog 148 #[.slice ad i cp] W fun e w' => ∃ v, e = .returned v ∧ XSl w' v n ∧ Below W.heap.size W w' ∧ ∀ b o k c, v = .slice (some ⟨b, o, none⟩) k c → 0 < k → base ≤ b := by
 have ht := trzX_grp hd
 rw [hv, Int.toNat_natCast] at ht
 by_cases h0 : 0 < i
 ·
  obtain ⟨g, cap, hsl, hgb, hA, hc1, hc2⟩ := own_ints h h0
  simp only [Value.slice.injEq] at hsl
  obtain ⟨rfl, _, rfl⟩ := hsl
  have hA2 := hA.below hW hA.lt
  refine (rtrim_some l g 0 i cp W hl hc1 hc2 (ABlk.row (P := []) (S := []) (by simpa using hA2))).mono fun e w' ⟨he, q, hq⟩ => ⟨_, he, ?_, hq ▸ below_drewN (Below.refl _ _) q, fun b o k c e _ => by cases e; exact hgb⟩
  rw [hq, ht]
  refine ISl.below (w := W) ?_ (below_drewN (Below.refl _ _) q)
  have hle := trz_len l
  rw [ht] at hle
  rw [show l = grpX n ++ l.drop (grpX n).length from by
   have h3 := trz_take l
   rw [ht] at h3
   rw [← List.take_append_drop (grpX n).length l, ← h3]; simp] at hA2
  exact ABlk.sl hA2 rfl (by omega) hc2
 ·
  obtain rfl : i = 0 := by omega
  have : l = [] := List.length_eq_zero_iff.1 hl
  subst this
  have hn : n = 0 := by rw [vlX] at hv; omega
  subst hn
  exact (rtrim_zero ad cp W).mono fun e w' ⟨he, q, hq⟩ => ⟨_, he, .inl ⟨_, _, rfl, grpX_zero⟩, hq ▸ below_drewN (Below.refl _ _) q, fun b o k c e h => by cases e; omega⟩
theorem XSl.store {w : World} {v : Value} {n g i : Nat} {x : Value} (h : XSl w v n) (hf : ∀ b o k c, v = .slice (some ⟨b, o, none⟩) k c → 0 < k → b ≠ g) : XSl (w.setCell ⟨g, i, none⟩ x) v n := by
 rcases h with h | ⟨b, o, c, rfl, h1, h2, h3, h4⟩
 ·
  exact .inl h
 ·
  refine .inr ⟨b, o, c, rfl, h1, h2, by simpa [World.setCell] using h3, fun j y hj => ?_⟩
  have hl : 0 < (grpX n).length := by have := (List.getElem?_eq_some_iff.1 hj).1; omega
  have hne := hf b o _ c rfl hl
  have h5 := h4 j y hj
  rw [World.cell?] at h5 ⊢
  rw [Below.heap_setCell _ _ _ _ hne]; exact h5
set_option maxRecDepth 100000 in
set_option maxHeartbeats 2000000 in
theorem rminus_any (n m : Nat) (v1 v2 : Value) (w : World) (hnm : m ≤ n) (hl1 : (grpX n).length ≤ 20000) (h1 : XSl w v1 n) (h2 : XSl w v2 m) :
  Calls Tryz.prog 118 #[v1, v2] w fun e w' => ∃ v, e = .returned v ∧ XSl w' v (n - m) ∧ Below w.heap.size w w' ∧ ∀ b o k c, v = .slice (some ⟨b, o, none⟩) k c → 0 < k → w.heap.size ≤ b := by
 have hqp := grpX_mono hnm
 obtain ⟨a1, c1, rfl⟩ := h1.form
 obtain ⟨a2, c2, rfl⟩ := h2.form
 obtain ⟨p, hp⟩ : ∃ p, (grpX n).length = p := ⟨_, rfl⟩
 obtain ⟨q, hq⟩ : ∃ q, (grpX m).length = q := ⟨_, rfl⟩
 rw [hp] at h1 hl1 hqp ⊢
 rw [hq] at h2 hqp ⊢
 have H1 := Lib.hid h1
 have H2 := Lib.hid h2
 have HP := Lib.hid hp
 have HQ := Lib.hid hq
 have HM := Lib.hid hnm
 obtain ⟨i0, hi, hz0, hz1, hz2⟩ := info_parts info_int
 have HZ2 := Lib.hid hz2
 clear h1 h2 hp hq hz2 hnm
 go_enter Tryz.func118, Tryz.ntmps118
 go_wp2
 go_loopw [5, 6, 7] (fun ov bv iv wr => ∃ (i : Nat) (b : Int) (ad : Option Addr) (cp : Nat), ov = .slice ad i cp ∧ bv = .int .i64 b ∧ iv = .int .i64 (i : Int) ∧ i ≤ p ∧ 0 ≤ b ∧ b ≤ 1 ∧ Hid (∃ l, wr.ownsRow w.heap.size 3 1 ov i (ints l) ∧ DigX l ∧ l.length = i ∧ vlX l + 10 ^ i * (((n / 10 ^ i : Nat) : Int) - ((m / 10 ^ i : Nat) : Int) - b) = (n : Int) - m) ∧ Below w.heap.size w wr) (fun _ _ iv _ => p - (intOf iv).toNat)
 case atStart => exact ⟨0, 0, _, _, rfl, rfl, rfl, Nat.zero_le _, by omega, by omega, Lib.hid ⟨[], ⟨rfl, .inl ⟨rfl, rfl⟩⟩, digX_nil, rfl, by simp [vlX]⟩, Below.refl _ _⟩
 case round =>
  obtain ⟨i, b, ad, cp, rfl, rfl, rfl, hi9, hb0, hb1, hI, hB⟩ := hrel
  obtain ⟨l, k1, k2, k3, k4⟩ := hI.out
  clear hI
  by_cases hip : i < p
  ·
   have hW1 := H1.out.below hB
   have hW2 := H2.out.below hB
   obtain ⟨b1, o1, r1⟩ := hW1.at HP.out
   obtain ⟨b2, o2, r2⟩ := hW2.at HQ.out
   have R2 := Lib.hid r2
   obtain ⟨rfl, x1, x2⟩ := r1 i hip
   have e2 : ¬ i < q → m / 10 ^ i = 0 := fun h => gx_end (by rw [HQ.out]; omega)
   have HOB := Lib.hid (show ∀ z, (Value.slice ad i cp).ownBlock = some z → w.heap.size ≤ z from fun z hz => own_block k1 hz)
   obtain ⟨nn, hnn⟩ : ∃ nn, nn = (((n / 10 ^ i) % 10 : Nat) : Int) - b - (((m / 10 ^ i) % 10 : Nat) : Int) := ⟨_, rfl⟩
   have K4 := Lib.hid (fun (b' d : Int) (hd : nn = d - 10 * b') => step_minus k3 k4 hnn hd)
   have K1 := Lib.hid k1
   have KD := Lib.hid (And.intro k2 k3)
   have BB := Lib.hid hB
   have hdx : (n / 10 ^ i) % 10 < 10 := Nat.mod_lt _ (by decide)
   have hdy : (m / 10 ^ i) % 10 < 10 := Nat.mod_lt _ (by decide)
   clear hW1 hW2 r1 r2 k1 k2 k3 k4 hB
   by_cases hiq : i < q
   ·
    obtain ⟨rfl, y1, y2⟩ := R2.out i hiq
    obtain ⟨x, hx⟩ : ∃ x, (n / 10 ^ i) % 10 = x := ⟨_, rfl⟩
    obtain ⟨y, hy⟩ : ∃ y, (m / 10 ^ i) % 10 = y := ⟨_, rfl⟩
    rw [hx] at x1 hnn hdx
    rw [hy] at y1 hnn hdy
    have hs : (x : Int) - b - (y : Int) = nn := hnn.symm
    clear e2 hx hy R2 hnn
    by_cases hlt : nn < 0
    ·
     have HK := Lib.hid (K4.out 1 (nn + 10) (by omega))
     have HO := Lib.hid (K1.out.alloc (.cells #[.int .i64 (nn + 10)] 3))
     have HO3 := Lib.hid (show ∀ (w3 : World) (v3 : Value), w3.ownsRow w.heap.size 3 1 v3 (i + 1) (ints l ++ [.int .i64 (nn + 10)]) → w3.ownsRow w.heap.size 3 1 v3 (i + 1) (ints (l ++ [nn + 10])) from fun w3 v3 h => by simpa [ints] using h)
     have HBA := Lib.hid (BB.out.alloc BB.out.size (.cells #[.int .i64 (nn + 10)] 3))
     have hn9 : -10 ≤ nn := by omega
     clear K4 K1
     go_wp2_with (at_builtin; go_loud (refine wpList_append_lies _ rfl (.tmp 35) (.tmp 37) 40 rfl w.heap.size 3 i0 (.int .i64 0) 1 8 Tryz.underlying40 hi hz0 hz1 HZ2.out rfl (by decide) (.slice ad i cp) i _ rfl HO.out ⟨wr.heap.size, 0, none⟩ 1 1 [.int .i64 (nn + 10)] rfl rfl (one_newJ wr _) (by intro u hu; simp at hu; subst hu; rfl) (by decide) (by unfold maxLen; omega) (by omega) HBA.out.size _ rfl ?_; intro g2 cap2 w3 hown3 hgrow _ _; have HOW := Lib.hid (HO3.out w3 _ hown3); have HB3 := Lib.hid (HBA.out.grown hgrow HBA.out.size (fun q hq => HOB.out q hq)); clear hown3 hgrow))
     exact ⟨⟨i + 1, 1, _, _, rfl, rfl, by go_num, by omega, by omega, by omega, Lib.hid ⟨_, HOW.out, KD.out.1.snoc (by omega), by rw [List.length_append, KD.out.2]; rfl, HK.out⟩, HB3.out⟩, by simp [intOf]; omega⟩
    ·
     have HK := Lib.hid (K4.out 0 nn (by omega))
     have HO := Lib.hid (K1.out.alloc (.cells #[.int .i64 nn] 3))
     have HO3 := Lib.hid (show ∀ (w3 : World) (v3 : Value), w3.ownsRow w.heap.size 3 1 v3 (i + 1) (ints l ++ [.int .i64 nn]) → w3.ownsRow w.heap.size 3 1 v3 (i + 1) (ints (l ++ [nn])) from fun w3 v3 h => by simpa [ints] using h)
     have HBA := Lib.hid (BB.out.alloc BB.out.size (.cells #[.int .i64 nn] 3))
     have hn9 : nn < 10 := by omega
     clear K4 K1
     go_wp2_with (at_builtin; go_loud (refine wpList_append_lies _ rfl (.tmp 35) (.tmp 37) 40 rfl w.heap.size 3 i0 (.int .i64 0) 1 8 Tryz.underlying40 hi hz0 hz1 HZ2.out rfl (by decide) (.slice ad i cp) i _ rfl HO.out ⟨wr.heap.size, 0, none⟩ 1 1 [.int .i64 nn] rfl rfl (one_newJ wr _) (by intro u hu; simp at hu; subst hu; rfl) (by decide) (by unfold maxLen; omega) (by omega) HBA.out.size _ rfl ?_; intro g2 cap2 w3 hown3 hgrow _ _; have HOW := Lib.hid (HO3.out w3 _ hown3); have HB3 := Lib.hid (HBA.out.grown hgrow HBA.out.size (fun q hq => HOB.out q hq)); clear hown3 hgrow))
     exact ⟨⟨i + 1, 0, _, _, rfl, rfl, by go_num, by omega, by omega, by omega, Lib.hid ⟨_, HOW.out, KD.out.1.snoc (by omega), by rw [List.length_append, KD.out.2]; rfl, HK.out⟩, HB3.out⟩, by simp [intOf]; omega⟩
   ·
    obtain ⟨x, hx⟩ : ∃ x, (n / 10 ^ i) % 10 = x := ⟨_, rfl⟩
    rw [e2 hiq] at hnn
    rw [hx] at x1 hnn hdx
    have hs : (x : Int) - b = nn := by rw [hnn]; simp
    clear e2 hx R2 hnn hdy
    by_cases hlt : nn < 0
    ·
     have HK := Lib.hid (K4.out 1 (nn + 10) (by omega))
     have HO := Lib.hid (K1.out.alloc (.cells #[.int .i64 (nn + 10)] 3))
     have HO3 := Lib.hid (show ∀ (w3 : World) (v3 : Value), w3.ownsRow w.heap.size 3 1 v3 (i + 1) (ints l ++ [.int .i64 (nn + 10)]) → w3.ownsRow w.heap.size 3 1 v3 (i + 1) (ints (l ++ [nn + 10])) from fun w3 v3 h => by simpa [ints] using h)
     have HBA := Lib.hid (BB.out.alloc BB.out.size (.cells #[.int .i64 (nn + 10)] 3))
     have hn9 : -10 ≤ nn := by omega
     clear K4 K1
     go_wp2_with (at_builtin; go_loud (refine wpList_append_lies _ rfl (.tmp 35) (.tmp 37) 40 rfl w.heap.size 3 i0 (.int .i64 0) 1 8 Tryz.underlying40 hi hz0 hz1 HZ2.out rfl (by decide) (.slice ad i cp) i _ rfl HO.out ⟨wr.heap.size, 0, none⟩ 1 1 [.int .i64 (nn + 10)] rfl rfl (one_newJ wr _) (by intro u hu; simp at hu; subst hu; rfl) (by decide) (by unfold maxLen; omega) (by omega) HBA.out.size _ rfl ?_; intro g2 cap2 w3 hown3 hgrow _ _; have HOW := Lib.hid (HO3.out w3 _ hown3); have HB3 := Lib.hid (HBA.out.grown hgrow HBA.out.size (fun q hq => HOB.out q hq)); clear hown3 hgrow))
     exact ⟨⟨i + 1, 1, _, _, rfl, rfl, by go_num, by omega, by omega, by omega, Lib.hid ⟨_, HOW.out, KD.out.1.snoc (by omega), by rw [List.length_append, KD.out.2]; rfl, HK.out⟩, HB3.out⟩, by simp [intOf]; omega⟩
    ·
     have HK := Lib.hid (K4.out 0 nn (by omega))
     have HO := Lib.hid (K1.out.alloc (.cells #[.int .i64 nn] 3))
     have HO3 := Lib.hid (show ∀ (w3 : World) (v3 : Value), w3.ownsRow w.heap.size 3 1 v3 (i + 1) (ints l ++ [.int .i64 nn]) → w3.ownsRow w.heap.size 3 1 v3 (i + 1) (ints (l ++ [nn])) from fun w3 v3 h => by simpa [ints] using h)
     have HBA := Lib.hid (BB.out.alloc BB.out.size (.cells #[.int .i64 nn] 3))
     have hn9 : nn < 10 := by omega
     clear K4 K1
     go_wp2_with (at_builtin; go_loud (refine wpList_append_lies _ rfl (.tmp 35) (.tmp 37) 40 rfl w.heap.size 3 i0 (.int .i64 0) 1 8 Tryz.underlying40 hi hz0 hz1 HZ2.out rfl (by decide) (.slice ad i cp) i _ rfl HO.out ⟨wr.heap.size, 0, none⟩ 1 1 [.int .i64 nn] rfl rfl (one_newJ wr _) (by intro u hu; simp at hu; subst hu; rfl) (by decide) (by unfold maxLen; omega) (by omega) HBA.out.size _ rfl ?_; intro g2 cap2 w3 hown3 hgrow _ _; have HOW := Lib.hid (HO3.out w3 _ hown3); have HB3 := Lib.hid (HBA.out.grown hgrow HBA.out.size (fun q hq => HOB.out q hq)); clear hown3 hgrow))
     exact ⟨⟨i + 1, 0, _, _, rfl, rfl, by go_num, by omega, by omega, by omega, Lib.hid ⟨_, HOW.out, KD.out.1.snoc (by omega), by rw [List.length_append, KD.out.2]; rfl, HK.out⟩, HB3.out⟩, by simp [intOf]; omega⟩
  ·
   obtain rfl : i = p := by omega
   have g1 : n / 10 ^ i = 0 := gx_end (by rw [HP.out]; exact Nat.le_refl _)
   have g2 : m / 10 ^ i = 0 := gx_end (by rw [HQ.out]; exact hqp)
   rw [g1, g2] at k4
   have hlt := vlX_lt k2
   rw [k3] at hlt
   have hb : b = 0 := by
    rcases Int.lt_or_le 0 b with g | g
    ·
     obtain rfl : b = 1 := by omega
     have := HM.out
     simp at k4
     omega
    ·
     omega
   subst hb
   have hv : vlX l = ((n - m : Nat) : Int) := by have := HM.out; simp at k4; omega
   have CT := Lib.hid (fun W hW => rtrim_X (W := W) k1 k3 k2 hv hW)
   clear k1 k2 k3 k4 hlt hv g1 g2
   go_wp2_with (go_at_call 148; (with_reducible refine (CT.out _ (Below.refl _ _)).mono ?_); rintro e w2 ⟨v, rfl, nv, B2, fr⟩)
   go_ret
   exact ⟨_, rfl, nv, hB.trans (B2.mono hB.size), fr⟩
theorem rtrim_A {w W : World} {g i cp n : Nat} {l : List Int} (hA : ABlk w g l) (hl : l.length = i) (hd : DigX l) (hv : vlX l = n) (hc1 : i ≤ cp) (hc2 : cp ≤ 9223372036854775807) (hW : Below w.heap.size w W) :
  Calls Tryz.prog 148 #[.slice (some ⟨g, 0, none⟩) i cp] W fun e w' => ∃ v, e = .returned v ∧ XSl w' v n ∧ Below W.heap.size W w' := by
 have ht := trzX_grp hd
 rw [hv, Int.toNat_natCast] at ht
 have hA2 := hA.below hW hA.lt
 refine (rtrim_some l g 0 i cp W hl hc1 hc2 (ABlk.row (P := []) (S := []) (by simpa using hA2))).mono fun e w' ⟨he, q, hq⟩ => ⟨_, he, ?_, hq ▸ below_drewN (Below.refl _ _) q⟩
 rw [hq, ht]
 refine ISl.below (w := W) ?_ (below_drewN (Below.refl _ _) q)
 have hle := trz_len l
 rw [ht] at hle
 rw [show l = grpX n ++ l.drop (grpX n).length from by
  have h3 := trz_take l
  rw [ht] at h3
  rw [← List.take_append_drop (grpX n).length l, ← h3]; simp] at hA2
 exact ABlk.sl hA2 rfl (by omega) hc2
theorem step_times {m i k c a x M N : Nat} {T : Nat} {L : List Int} (h : vlX L + 10 ^ (i + k) * ((c + a * (m / 10 ^ k) : Nat) : Int) = (T : Int)) (hx : L[i + k]? = some (x : Int)) (hM : M = a * ((m / 10 ^ k) % 10)) (hN : N = x + c + M) :
  vlX (L.set (i + k) ((N : Int) % 10)) + 10 ^ (i + (k + 1)) * ((N / 10 + a * (m / 10 ^ (k + 1)) : Nat) : Int) = (T : Int) := by
 have s2 := gx_step m k
 rw [vlX_set L _ _ _ hx, ← h, Int.add_assoc, ← Nat.add_assoc, Int.pow_succ, Int.mul_assoc, ← Int.mul_add]
 congr 2
 have e : a * (m / 10 ^ k) = M + 10 * (a * (m / 10 ^ (k + 1))) := by
  rw [s2, Nat.mul_add, hM, Nat.mul_left_comm a 10]
 rw [e]
 generalize a * (m / 10 ^ (k + 1)) = Z at *
 omega
theorem mod_step (n i : Nat) : n % 10 ^ (i + 1) = n % 10 ^ i + 10 ^ i * ((n / 10 ^ i) % 10) := by
 rw [Nat.pow_succ, Nat.mod_mul]
set_option maxRecDepth 100000 in
set_option maxHeartbeats 4000000 in
theorem rtimes_any (n m : Nat) (v1 v2 : Value) (w : World) (hl1 : (grpX n).length ≤ 5000) (hl2 : (grpX m).length ≤ 5000) (h1 : XSl w v1 n) (h2 : XSl w v2 m) :
  Calls Tryz.prog 110 #[v1, v2] w fun e w' => ∃ v, e = .returned v ∧ XSl w' v (n * m) ∧ Below w.heap.size w w' := by
 obtain ⟨a1, c1, rfl⟩ := h1.form
 obtain ⟨a2, c2, rfl⟩ := h2.form
 obtain ⟨p, hp⟩ : ∃ p, (grpX n).length = p := ⟨_, rfl⟩
 obtain ⟨q, hq⟩ : ∃ q, (grpX m).length = q := ⟨_, rfl⟩
 have hnp := grpX_lt n
 have hmq := grpX_lt m
 rw [hp] at h1 hl1 hnp ⊢
 rw [hq] at h2 hl2 hmq ⊢
 have H1 := Lib.hid h1
 have H2 := Lib.hid h2
 have HP := Lib.hid hp
 have HQ := Lib.hid hq
 have HNP := Lib.hid hnp
 have HMQ := Lib.hid hmq
 obtain ⟨i0, hi, hz0, hz1, hz2⟩ := info_parts info_int
 obtain ⟨H, hH⟩ : ∃ H, p + q = H := ⟨_, rfl⟩
 have eW : (p : Int) + (q : Int) = (H : Int) := by omega
 have HBY := Lib.hid (show i0.bytes * H ≤ 281474976710656 by rw [hz2]; omega)
 have hmx : H ≤ maxLen := by unfold maxLen; omega
 have HZ := Lib.hid (show ∀ w', w'.ownsRow w.heap.size 3 1 (.slice (some ⟨w.heap.size, 0, none⟩) H H) H (madeCells (Value.int .i64 0).cells (H * 1)).toList → ABlk w' w.heap.size (List.replicate H 0) from fun w' h => by
  rw [made_zeros] at h
  exact (own_blk h).1)
 have HH := Lib.hid hH
 clear h1 h2 hp hq hz2 hnp hmq hH
 go_enter Tryz.func110, Tryz.ntmps110
 go_wp2_with (first | (refine wpList_make_full _ rfl (.tmp 14) (.tmp 14) 40 rfl w.heap.size 3 i0 (.int .i64 0) 1 Tryz.underlying40 hi hz0 hz1 .i64 .i64 _ _ H rfl rfl (by omega) (by omega) HBY.out hmx (Nat.le_refl _) ?_; intro w1 hown1 hgrow1; have hA1 := HZ.out w1 hown1; have hB1 := (Below.refl w.heap.size w).grown hgrow1 (Nat.le_refl _) (fun k e => by cases e); have HA1 := Lib.hid hA1; clear hown1 hgrow1 hA1))
 all_goals
  go_loopw [6] (fun iv wr => ∃ i : Nat, i ≤ p ∧ iv = .int .i64 (i : Int) ∧ Hid (∃ L, ABlk wr w.heap.size L ∧ L.length = H ∧ DigX L ∧ vlX L = (((n % 10 ^ i) * m : Nat) : Int)) ∧ Below w.heap.size w wr) (fun iv _ => p - (intOf iv).toNat)
  case atStart => exact ⟨0, Nat.zero_le _, rfl, Lib.hid ⟨_, HA1.out, by simp, (fun x hx => by rw [(List.mem_replicate.1 hx).2]; omega), by rw [vlX_zeros, Nat.pow_zero, Nat.mod_one, Nat.zero_mul]; rfl⟩, hB1⟩
  case round =>
   clear HA1 hB1
   obtain ⟨i, hi9, rfl, hI, hB⟩ := hrel
   by_cases hip : i < p
   ·
    have hW1 := H1.out.below hB
    obtain ⟨b1, o1, r1⟩ := hW1.at HP.out
    obtain ⟨rfl, x1, x2⟩ := r1 i hip
    have hms := mod_step n i
    obtain ⟨a, ha⟩ : ∃ a, (n / 10 ^ i) % 10 = a := ⟨_, rfl⟩
    have ha9 : a < 10 := by rw [← ha]; exact Nat.mod_lt _ (by decide)
    rw [ha] at x1 hms
    obtain ⟨T, hT⟩ : ∃ T, T = (n % 10 ^ (i + 1)) * m := ⟨_, rfl⟩
    have hT9 : T < 10 ^ (i + 1 + q) := by
     rw [hT, Nat.pow_add 10 (i + 1) q]
     exact Nat.mul_lt_mul'' (Nat.mod_lt _ (Nat.pow_pos (n := i + 1) (show 0 < 10 by decide))) HMQ.out
    obtain ⟨L0, k1, k2, k3, k4⟩ := hI.out
    have hst : vlX L0 + 10 ^ (i + 0) * ((0 + a * (m / 10 ^ 0) : Nat) : Int) = (T : Int) := by
     rw [k4, hT, hms, Nat.add_zero, Nat.pow_zero, Nat.div_one, Nat.zero_add, Nat.add_mul, Nat.mul_assoc]
     simp
    have HST := Lib.hid (show ∃ L, ABlk wr w.heap.size L ∧ L.length = H ∧ DigX L ∧ vlX L + 10 ^ (i + 0) * ((0 + a * (m / 10 ^ 0) : Nat) : Int) = (T : Int) from ⟨L0, k1, k2, k3, hst⟩)
    have HTT := Lib.hid (And.intro hT hT9)
    have X1 := Lib.hid (show ∀ W, Below w.heap.size w W → IRow W b1 o1 (grpX n) from fun W hW => by
     rcases H1.out.below hW with ⟨_, _, e, _⟩ | ⟨b, o, c', e, _, _, _, h4⟩
     ·
      simp at e; omega
     ·
      simp only [Value.slice.injEq, Option.some.injEq, Addr.mk.injEq] at e
      obtain ⟨⟨rfl, rfl, _⟩, _⟩ := e
      exact h4)
    have hgi : (grpX n)[i]? = some ((a : Nat) : Int) := by rw [gx_get, if_pos ((gx_len n i).1 (by rw [HP.out]; exact hip)), ha]
    have HGI := Lib.hid hgi
    clear hI k1 k2 k3 k4 hst hW1 r1 hms ha hT hT9 hgi
    go_wp2
    go_loopw [7, 8] (fun cv kv wi => ∃ (k c : Nat), k ≤ q + 1 ∧ c ≤ 9 ∧ cv = .int .i64 (c : Int) ∧ kv = .int .i64 (k : Int) ∧ Hid (∃ L, ABlk wi w.heap.size L ∧ L.length = H ∧ DigX L ∧ vlX L + 10 ^ (i + k) * ((c + a * (m / 10 ^ k) : Nat) : Int) = (T : Int)) ∧ Below w.heap.size w wi) (fun _ kv _ => q + 1 - (intOf kv).toNat)
    case atStart => exact ⟨0, 0, by omega, by omega, rfl, rfl, HST, hB⟩
    case round =>
     clear x1 HST
     obtain ⟨k, c, hk9, hc9, rfl, rfl, hI, hBi⟩ := hrel
     obtain ⟨L, k1, k2, k3, k4⟩ := hI.out
     clear hI
     have hx1 : wr.cell? ⟨b1, o1 + i, none⟩ = some (.int .i64 (a : Int)) := (X1.out _ hBi) i _ HGI.out
     by_cases hcont : k < q ∨ 0 < c
     ·
      have hkq : k ≤ q := by
       rcases hcont with h | h
       ·
        omega
       ·
        have g3 := low_of k4 k3 (Nat.le_trans (show 1 ≤ c from h) (Nat.le_add_right _ _))
        have g4 : 10 ^ (i + k) < 10 ^ (i + 1 + q) := by have := HTT.out.2; omega
        have := (Nat.pow_lt_pow_iff_right (by decide : 1 < 10)).1 g4
        omega
      obtain ⟨j, hj⟩ : ∃ j, i + k = j := ⟨_, rfl⟩
      have hjH : j < H := by have := HH.out; omega
      have hjL : j < L.length := by omega
      obtain ⟨x, hx⟩ : ∃ x : Nat, L[j] = (x : Int) := ⟨(L[j]).toNat, by have := k3 _ (List.getElem_mem hjL); omega⟩
      have hx9 : x < 10 := by have := k3 _ (List.getElem_mem hjL); omega
      have hxL : L[j]? = some (x : Int) := by rw [List.getElem?_eq_getElem hjL, hx]
      have hcell : wr.cell? ⟨w.heap.size, j, none⟩ = some (.int .i64 (x : Int)) := k1.cell hxL
      have hfree : wr.frozen? ⟨w.heap.size, j, none⟩ = false := k1.free j
      have eij : (i : Int) + (k : Int) = (j : Int) := by omega
      have hW2 := H2.out.below hBi
      obtain ⟨b2, o2, r2⟩ := hW2.at HQ.out
      have R2 := Lib.hid r2
      have e2 : ¬ k < q → m / 10 ^ k = 0 := fun h => gx_end (by rw [HQ.out]; omega)
      obtain ⟨M, hM⟩ : ∃ M, M = a * ((m / 10 ^ k) % 10) := ⟨_, rfl⟩
      obtain ⟨N, hN⟩ : ∃ N, N = x + c + M := ⟨_, rfl⟩
      have hM9 : M ≤ 81 := by
       have h5 : (m / 10 ^ k) % 10 ≤ 9 := by have := Nat.mod_lt (m / 10 ^ k) (show 0 < 10 by decide); omega
       rw [hM]; exact Nat.mul_le_mul (show a ≤ 9 by omega) h5
      rw [← hj] at hxL
      have k5 := step_times k4 hxL hM hN
      rw [hj] at hxL k5
      have HK := Lib.hid (show ∃ L2, ABlk (wr.setCell ⟨w.heap.size, j, none⟩ (.int .i64 ((N : Int) % 10))) w.heap.size L2 ∧ L2.length = H ∧ DigX L2 ∧ vlX L2 + 10 ^ (i + (k + 1)) * ((N / 10 + a * (m / 10 ^ (k + 1)) : Nat) : Int) = (T : Int) from ⟨_, k1.set j ((N : Int) % 10), by rw [List.length_set]; exact k2, k3.set j (by omega), k5⟩)
      have hB2 := Lib.hid (hBi.setCell (p := ⟨w.heap.size, j, none⟩) (Nat.le_refl _) (.int .i64 ((N : Int) % 10)))
      have HKd := Lib.hid (show ∃ L2, ABlk (wr.drew.setCell ⟨w.heap.size, j, none⟩ (.int .i64 ((N : Int) % 10))) w.heap.size L2 ∧ L2.length = H ∧ DigX L2 ∧ vlX L2 + 10 ^ (i + (k + 1)) * ((N / 10 + a * (m / 10 ^ (k + 1)) : Nat) : Int) = (T : Int) from ⟨_, ABlk.set (w := wr.drew) k1 j ((N : Int) % 10), by rw [List.length_set]; exact k2, k3.set j (by omega), k5⟩)
      have hBd := Lib.hid (hBi.drew.setCell (p := ⟨w.heap.size, j, none⟩) (Nat.le_refl _) (.int .i64 ((N : Int) % 10)))
      have hcelld : wr.drew.cell? ⟨w.heap.size, j, none⟩ = some (.int .i64 (x : Int)) := hcell
      have hfreed : wr.drew.frozen? ⟨w.heap.size, j, none⟩ = false := hfree
      have hN9 : N ≤ 99 := by omega
      have hN0 : 0 ≤ (N : Int) := by omega
      clear k1 k2 k3 k4 k5 hxL hx hW2 r2 hj hBi
      by_cases hkq2 : k < q
      ·
       obtain ⟨rfl, y1, y2⟩ := R2.out k hkq2
       obtain ⟨y, hy⟩ : ∃ y, (m / 10 ^ k) % 10 = y := ⟨_, rfl⟩
       have hy9 : y < 10 := by rw [← hy]; exact Nat.mod_lt _ (by decide)
       rw [hy] at y1 hM
       have em : (a : Int) * (y : Int) = (M : Int) := by rw [hM, Int.natCast_mul]
       have es : (x : Int) + (c : Int) + (M : Int) = (N : Int) := by omega
       clear hM hN hy e2 R2 hcont
       go_wp2_with fail
       refine wp_region_noPanic ?_
       refine wp_region_held_drew (S := fun W => W.cell? ⟨b1, o1 + i, none⟩ = some (.int .i64 (a : Int)) ∧ W.cell? ⟨b2, o2 + k, none⟩ = some (.int .i64 (y : Int))) (by kernel_rfl) ?_ (fun hHeld => ?_)
       ·
        exact ⟨hx1, y1⟩
       refine tk 0 (oi := ({ dst := some 44, op := .move (.tmp 9), type := 3, pos := "ref.go:122", after := #[], guard := none } : Oper)) (v := ?v0_1) ?hy0_1 ?re0_1
       case hy0_1 => ((intro w hSw; obtain ⟨e1, e2⟩ := hSw; go_simp) <;> with_reducible rfl)
       (try simp only [Act.put, List.setIfInBounds_toArray, List.set_cons_zero, List.set_cons_succ])
       refine tk 1 (oi := ({ dst := some 45, op := .move (.tmp 0), type := 40, pos := "ref.go:122", after := #[], guard := none } : Oper)) (v := ?v1_2) ?hy1_2 ?re1_2
       case hy1_2 => ((intro w hSw; obtain ⟨e1, e2⟩ := hSw; go_simp) <;> with_reducible rfl)
       (try simp only [Act.put, List.setIfInBounds_toArray, List.set_cons_zero, List.set_cons_succ])
       refine tk 2 (oi := ({ dst := some 46, op := .move (.tmp 6), type := 3, pos := "ref.go:122", after := #[], guard := none } : Oper)) (v := ?v2_3) ?hy2_3 ?re2_3
       case hy2_3 => ((intro w hSw; obtain ⟨e1, e2⟩ := hSw; go_simp) <;> with_reducible rfl)
       (try simp only [Act.put, List.setIfInBounds_toArray, List.set_cons_zero, List.set_cons_succ])
       refine tk 3 (oi := ({ dst := some 47, op := .indexAddr 40 (.tmp 45) (.tmp 46), type := 0, pos := "ref.go:122", after := #[⟨1, .data⟩, ⟨2, .data⟩], guard := none } : Oper)) (v := ?v3_4) ?hy3_4 ?re3_4
       case hy3_4 => ((intro w hSw; obtain ⟨e1, e2⟩ := hSw; go_simp) <;> with_reducible rfl)
       (try simp only [Act.put, List.setIfInBounds_toArray, List.set_cons_zero, List.set_cons_succ])
       refine tk 4 (oi := ({ dst := some 48, op := .load 3 (.tmp 47), type := 3, pos := "ref.go:122", after := #[⟨3, .data⟩], guard := none } : Oper)) (v := ?v4_5) ?hy4_5 ?re4_5
       case hy4_5 => ((intro w hSw; obtain ⟨e1, e2⟩ := hSw; go_simp) <;> with_reducible rfl)
       (try simp only [Act.put, List.setIfInBounds_toArray, List.set_cons_zero, List.set_cons_succ])
       refine tk 5 (oi := ({ dst := some 49, op := .move (.tmp 1), type := 40, pos := "ref.go:122", after := #[], guard := none } : Oper)) (v := ?v5_6) ?hy5_6 ?re5_6
       case hy5_6 => ((intro w hSw; obtain ⟨e1, e2⟩ := hSw; go_simp) <;> with_reducible rfl)
       (try simp only [Act.put, List.setIfInBounds_toArray, List.set_cons_zero, List.set_cons_succ])
       refine tk 6 (oi := ({ dst := some 50, op := .move (.tmp 8), type := 3, pos := "ref.go:122", after := #[], guard := none } : Oper)) (v := ?v6_7) ?hy6_7 ?re6_7
       case hy6_7 => ((intro w hSw; obtain ⟨e1, e2⟩ := hSw; go_simp) <;> with_reducible rfl)
       (try simp only [Act.put, List.setIfInBounds_toArray, List.set_cons_zero, List.set_cons_succ])
       refine tk 7 (oi := ({ dst := some 51, op := .indexAddr 40 (.tmp 49) (.tmp 50), type := 0, pos := "ref.go:122", after := #[⟨5, .data⟩, ⟨6, .data⟩], guard := none } : Oper)) (v := ?v7_8) ?hy7_8 ?re7_8
       case hy7_8 => ((intro w hSw; obtain ⟨e1, e2⟩ := hSw; go_simp) <;> with_reducible rfl)
       (try simp only [Act.put, List.setIfInBounds_toArray, List.set_cons_zero, List.set_cons_succ])
       refine tk 8 (oi := ({ dst := some 52, op := .load 3 (.tmp 51), type := 3, pos := "ref.go:122", after := #[⟨7, .data⟩], guard := none } : Oper)) (v := ?v8_9) ?hy8_9 ?re8_9
       case hy8_9 => ((intro w hSw; obtain ⟨e1, e2⟩ := hSw; go_simp) <;> with_reducible rfl)
       (try simp only [Act.put, List.setIfInBounds_toArray, List.set_cons_zero, List.set_cons_succ])
       refine tk 9 (oi := ({ dst := some 53, op := .binOp .mul 3 (.tmp 48) (.tmp 52) 3, type := 3, pos := "ref.go:122", after := #[⟨4, .data⟩, ⟨8, .data⟩], guard := none } : Oper)) (v := ?v9_10) ?hy9_10 ?re9_10
       case hy9_10 => ((intro w hSw; obtain ⟨e1, e2⟩ := hSw; go_simp) <;> with_reducible rfl)
       (try simp only [Act.put, List.setIfInBounds_toArray, List.set_cons_zero, List.set_cons_succ])
       refine tk 10 (oi := ({ dst := some 54, op := .binOp .add 3 (.tmp 44) (.tmp 53) 3, type := 3, pos := "ref.go:122", after := #[⟨0, .data⟩, ⟨9, .data⟩], guard := none } : Oper)) (v := ?v10_11) ?hy10_11 ?re10_11
       case hy10_11 => ((intro w hSw; obtain ⟨e1, e2⟩ := hSw; go_simp) <;> with_reducible rfl)
       (try simp only [Act.put, List.setIfInBounds_toArray, List.set_cons_zero, List.set_cons_succ])
       refine tk 11 (oi := ({ dst := some 9, op := .assign (.tmp 54), type := 3, pos := "ref.go:122", after := #[⟨10, .data⟩, ⟨0, .phase⟩, ⟨1, .phase⟩, ⟨2, .phase⟩, ⟨3, .phase⟩, ⟨4, .phase⟩, ⟨5, .phase⟩, ⟨6, .phase⟩, ⟨7, .phase⟩, ⟨8, .phase⟩, ⟨9, .phase⟩, ⟨10, .phase⟩], guard := none } : Oper)) (v := ?v11_12) ?hy11_12 ?re11_12
       case hy11_12 => ((intro w hSw; obtain ⟨e1, e2⟩ := hSw; go_simp) <;> with_reducible rfl)
       (try simp only [Act.put, List.setIfInBounds_toArray, List.set_cons_zero, List.set_cons_succ])
       refine wpAnyH_done (by kernel_rfl) ?_ _
       refine NoPanic.normal ?_
       go_wp2_with fail
       exact ⟨⟨k + 1, N / 10, by omega, by omega, by go_num, by go_num, HKd, hBd.out⟩, by simp [intOf]; omega⟩
      ·
       rw [e2 hkq2, Nat.zero_mod, Nat.mul_zero] at hM
       subst hM
       have es : (x : Int) + (c : Int) = (N : Int) := by omega
       have hc0 : 0 < c := by omega
       clear hN e2 R2 hcont
       go_wp2
       exact ⟨⟨k + 1, N / 10, by omega, by omega, by go_num, by go_num, HK, hB2.out⟩, by simp [intOf]; omega⟩
     ·
      obtain rfl : c = 0 := by omega
      have hkq : ¬ k < q := by omega
      have hm0 : m / 10 ^ k = 0 := gx_end (by rw [HQ.out]; omega)
      rw [hm0] at k4
      have HK := Lib.hid (show ∃ L, ABlk wr w.heap.size L ∧ L.length = H ∧ DigX L ∧ vlX L = (((n % 10 ^ (i + 1)) * m : Nat) : Int) from ⟨L, k1, k2, k3, by rw [← HTT.out.1, ← k4]; simp⟩)
      clear k1 k2 k3 k4 hm0 hcont
      go_wp2
      exact ⟨⟨i + 1, by omega, by go_num, HK, hBi⟩, by simp [intOf]; omega⟩
   ·
    obtain rfl : i = p := by omega
    obtain ⟨L, k1, k2, k3, k4⟩ := hI.out
    rw [Nat.mod_eq_of_lt HNP.out] at k4
    have CT := Lib.hid (fun W hW => rtrim_A (W := W) (cp := H) k1 k2 k3 k4 (Nat.le_refl _) (by omega) hW)
    clear hI k1 k2 k3 k4
    go_wp2_with (go_at_call 148; (with_reducible refine (CT.out _ (Below.refl _ _)).mono ?_); rintro e w2 ⟨v, rfl, nv, B2⟩)
    go_ret
    exact ⟨_, rfl, nv, hB.trans (B2.mono hB.size)⟩
theorem wpList_append_zeroX {w : World} {ops : Array Oper} {rest : List Oper} {o : Oper} {a : Act} {Q : Exit → Act → World → Prop} (hgd : o.guard = none) (s x : Operand)
  (ho : o.op = .call { callee := .builtin .append, args := #[s, x], argTypes := #[40, 40] }) (b n cp : Nat) (hs : a.eval s = .slice (some ⟨b, 0, none⟩) n cp) (ad : Option Addr) (c : Nat) (hx : a.eval x = .slice ad 0 c) (hn : n ≤ cp)
  (h : wpList Tryz.prog ops Q rest (a.put o.dst (.slice (some ⟨b, 0, none⟩) n cp)) w) : wpList Tryz.prog ops Q (o :: rest) a w :=
 wpList_plain hgd fun _ hK => by
  obtain ⟨i0, hi, _, hsz, _⟩ := info_parts info_int
  have hsrc : Src Tryz.prog i0.size 40 (.slice ad 0 c) 0 [] w := by
   cases ad with
   | none => exact Src.ofNil w Tryz.underlying40 c
   | some a => exact Src.ofSlice w Tryz.underlying40 a 0 c [] (by simp) (fun j u h => by simp at h) (fun _ h => by cases h)
  have hr := run_append_room_src w 40 40 o.type 3 i0 Tryz.underlying40 hi b 0 n cp (.slice ad 0 c) 0 [] hsrc (by omega) (fun j h => absurd h (by simp)) (fun j h => absurd h (by simp))
  unfold Oper.wp execOp
  simp only [ho, resolve, invoke, builtin, Sem.run_bind, Sem.run_pure, Result.andThen_ok, List.map_toArray, List.map_cons, List.map_nil, hs, hx, hr]
  exact hK _ _ h
theorem own_one {W : World} {base : Nat} (h : base ≤ W.heap.size) (x : Int) : (W.alloc (.cells #[.int .i64 x] 3)).ownsRow base 3 1 (.slice (some ⟨W.heap.size, 0, none⟩) 1 1) 1 (ints [x]) :=
 ⟨rfl, .inr ⟨W.heap.size, 1, #[.int .i64 x], rfl, h, World.alloc_heap_new W _, Nat.le_refl _, by unfold maxLen; omega, rfl, rfl⟩⟩
noncomputable def xvOf (w : World) (v : Value) : Nat := open Classical in if h : ∃ n, XSl w v n then h.choose else 0
theorem xvOf_eq {w : World} {v : Value} {n : Nat} (h : XSl w v n) : xvOf w v = n := by
 have hx : ∃ n, XSl w v n := ⟨n, h⟩
 rw [xvOf, dif_pos hx]
 exact grpX_inj (ISl.inj hx.choose_spec h)
theorem div_step (n d i R' : Nat) (hR : R' = (n / 10 ^ i) % 10 + 10 * ((n / 10 ^ (i + 1)) % d)) : (n / 10 ^ i) / d = 10 * ((n / 10 ^ (i + 1)) / d) + R' / d ∧ (n / 10 ^ i) % d = R' % d := by
 have h1 := gx_step n i
 have h2 := Nat.div_add_mod (n / 10 ^ (i + 1)) d
 have e : n / 10 ^ i = R' + d * (10 * ((n / 10 ^ (i + 1)) / d)) := by
  rw [hR]
  generalize n / 10 ^ (i + 1) = Z at *
  have e1 : d * (10 * (Z / d)) = 10 * (d * (Z / d)) := by rw [Nat.mul_left_comm]
  omega
 rcases Nat.eq_zero_or_pos d with h0 | h0
 ·
  subst h0; simp at e ⊢; rw [e]
 ·
  rw [e, Nat.add_mul_div_left _ _ h0, Nat.add_mul_mod_self_left]
  exact ⟨Nat.add_comm _ _, rfl⟩
set_option maxRecDepth 100000 in
set_option maxHeartbeats 4000000 in
theorem divided_any (n d : Nat) (v1 v2 : Value) (w : World) (hd : 0 < d) (hl1 : (grpX n).length ≤ 5000) (hl2 : (grpX d).length ≤ 5000) (h1 : XSl w v1 n) (h2 : XSl w v2 d) :
  Calls Tryz.prog 116 #[v1, v2] w fun e w' => ∃ u1 u2, e = .returned (.tuple #[u1, u2]) ∧ XSl w' u1 (n / d) ∧ XSl w' u2 (n % d) ∧ Below w.heap.size w w' := by
 obtain ⟨a1, c1, rfl⟩ := h1.form
 obtain ⟨p, hp⟩ : ∃ p, (grpX n).length = p := ⟨_, rfl⟩
 rw [hp] at h1 hl1 ⊢
 have H1 := Lib.hid h1
 have H2 := Lib.hid h2
 have HP := Lib.hid hp
 have HL2 := Lib.hid hl2
 have HD0 := Lib.hid hd
 obtain ⟨i0, hi, hz0', hz1, hz2⟩ := info_parts info_int
 have HBY := Lib.hid (show i0.bytes * p ≤ 281474976710656 by rw [hz2]; omega)
 have hmx : p ≤ maxLen := by unfold maxLen; omega
 have HZ := Lib.hid (show ∀ w', w'.ownsRow w.heap.size 3 1 (.slice (some ⟨w.heap.size, 0, none⟩) p p) p (madeCells (Value.int .i64 0).cells (p * 1)).toList → ABlk w' w.heap.size (List.replicate p 0) from fun w' h => by
  rw [made_zeros] at h
  exact (own_blk h).1)
 have HZ2 := Lib.hid hz2
 clear h1 h2 hp hz2 hl2 hd
 go_enter Tryz.func116, Tryz.ntmps116
 go_wp2_with (first | (refine wpList_make_full _ rfl (.tmp 10) (.tmp 10) 40 rfl w.heap.size 3 i0 (.int .i64 0) 1 Tryz.underlying40 hi hz0' hz1 .i64 .i64 _ _ p rfl rfl (by omega) (by omega) HBY.out hmx (Nat.le_refl _) ?_; intro w1 hown1 hgrow1; have hA1 := HZ.out w1 hown1; have hB1 := (Below.refl w.heap.size w).grown hgrow1 (Nat.le_refl _) (fun k e => by cases e); have HA1 := Lib.hid hA1; clear hown1 hgrow1 hA1))
 all_goals
  go_loopw [7, 8] (fun rv iv wr => ∃ (k : Nat) (ad : Option Addr) (cp : Nat), k ≤ p ∧ iv = .int .i64 ((k : Int) - 1) ∧ rv = .slice ad (grpX ((n / 10 ^ k) % d)).length cp ∧ Hid (XSl wr rv ((n / 10 ^ k) % d)) ∧ Hid (∃ L, ABlk wr w.heap.size L ∧ L.length = p ∧ DigX L ∧ vlX L = ((10 ^ k * ((n / 10 ^ k) / d) : Nat) : Int) ∧ ∀ j, j < k → L[j]? = some 0) ∧ Below w.heap.size w wr) (fun _ iv _ => (intOf iv + 1).toNat)
  case atStart =>
   have g0 : n / 10 ^ p = 0 := gx_end (by rw [HP.out]; exact Nat.le_refl _)
   refine ⟨p, none, 0, Nat.le_refl _, rfl, by rw [g0, Nat.zero_mod, grpX_zero]; rfl, Lib.hid (by rw [g0, Nat.zero_mod]; exact .inl ⟨_, _, rfl, grpX_zero⟩), Lib.hid ⟨_, HA1.out, by simp, (fun x hx => by rw [(List.mem_replicate.1 hx).2]; omega), by rw [vlX_zeros, g0, Nat.zero_div, Nat.mul_zero]; rfl, fun j hj => by rw [List.getElem?_replicate, if_pos hj]⟩, hB1⟩
  case round =>
   clear HA1 hB1
   obtain ⟨k, ad, cp, hk, rfl, rfl, hR, hI, hB⟩ := hrel
   by_cases h0 : k = 0
   ·
    subst h0
    obtain ⟨L, k1, k2, k3, k4, _⟩ := hI.out
    have hR2 := hR.out
    rw [Nat.pow_zero, Nat.div_one] at hR2
    rw [Nat.pow_zero, Nat.div_one, Nat.one_mul] at k4
    have HR := Lib.hid hR2
    have CT := Lib.hid (fun W hW => rtrim_A (W := W) (cp := p) k1 k2 k3 k4 (Nat.le_refl _) (by omega) hW)
    rw [Nat.pow_zero, Nat.div_one]
    generalize (grpX (n % d)).length = z at *
    clear hI hR k1 k2 k3 k4 hR2
    go_wp2_with (go_at_call 148; (with_reducible refine (CT.out _ (Below.refl _ _)).mono ?_); rintro e w2 ⟨v, rfl, nv, B2⟩)
    go_ret2
    exact ⟨_, _, rfl, nv, HR.out.below B2, hB.trans (B2.mono hB.size)⟩
   ·
    obtain ⟨i, rfl⟩ : ∃ i, k = i + 1 := ⟨k - 1, by omega⟩
    have hip : i < p := by omega
    obtain ⟨b1, o1, r1⟩ := (H1.out.below hB).at HP.out
    obtain ⟨rfl, x1, x2⟩ := r1 i hip
    obtain ⟨L, k1, k2, k3, k4, k5⟩ := hI.out
    obtain ⟨x, hx⟩ : ∃ x, (n / 10 ^ i) % 10 = x := ⟨_, rfl⟩
    obtain ⟨R, hRe⟩ : ∃ R, (n / 10 ^ (i + 1)) % d = R := ⟨_, rfl⟩
    have hRd : R < d := by rw [← hRe]; exact Nat.mod_lt _ HD0.out
    obtain ⟨R', hR'⟩ : ∃ R', R' = x + 10 * R := ⟨_, rfl⟩
    have hds := div_step n d i R' (by rw [hR', hx, hRe])
    have hx9 : x < 10 := by rw [← hx]; exact Nat.mod_lt _ (by decide)
    rw [hx] at x1
    rw [hRe] at hR ⊢
    have hR'd : R' < 10 * d := by omega
    have hRl : (grpX R).length ≤ 5000 := Nat.le_trans (grpX_mono (Nat.le_of_lt hRd)) HL2.out
    have hR'l : (grpX R').length ≤ 5001 := by
     have h9 : (grpX R').length ≤ (grpX d).length + 1 := by
      refine grpX_len ?_
      rw [Nat.pow_succ]
      have := grpX_lt d; omega
     have := HL2.out; omega
    have hvr : vlX ((x : Int) :: grpX R) = ((R' : Nat) : Int) := by rw [vlX, vlX_grp, hR']; omega
    have hdr : DigX ((x : Int) :: grpX R) := fun y hy => by
     rcases List.mem_cons.1 hy with g | g
     ·
      rw [g]; omega
     ·
      exact grpX_dig R y g
    have HQ := Lib.hid (show ∃ L, ABlk wr w.heap.size L ∧ L.length = p ∧ DigX L ∧ vlX L = ((10 ^ (i + 1) * ((n / 10 ^ (i + 1)) / d) : Nat) : Int) ∧ (∀ j, j < i → L[j]? = some 0) ∧ L[i]? = some 0 from ⟨L, k1, k2, k3, k4, fun j hj => k5 j (by omega), k5 i (by omega)⟩)
    have HDS := Lib.hid hds
    have HR := Lib.hid hR.out
    have HVR := Lib.hid (And.intro hvr hdr)
    have HBB := Lib.hid hB
    have hBA := hB.alloc hB.size (.cells #[.int .i64 (x : Int)] 3)
    have HBA := Lib.hid hBA
    -- the digit put ahead of the rest, trimmed
    have HXR := Lib.hid (show ∃ W9 : World → Prop, W9 = fun _ => True from ⟨_, rfl⟩)
    clear HXR hI hR k1 k2 k3 k4 k5 r1 hx hvr hdr hds hBA hRe
    obtain ⟨z, hz⟩ : ∃ z, (grpX R).length = z := ⟨_, rfl⟩
    have HZL := Lib.hid hz
    rw [hz] at hRl HR ⊢
    have CE := Lib.hid (show z = 0 → ∀ W, Below (wr.alloc (.cells #[.int .i64 (x : Int)] 3)).heap.size (wr.alloc (.cells #[.int .i64 (x : Int)] 3)) W → Calls Tryz.prog 148 #[.slice (some ⟨wr.heap.size, 0, none⟩) 1 1] W fun e w' => ∃ v, e = .returned v ∧ XSl w' v R' ∧ Below W.heap.size W w' from fun h0 W hW => by
     have hr0 : grpX R = [] := List.length_eq_zero_iff.1 (hz.trans h0)
     have h9 := HVR.out
     rw [hr0] at h9
     exact rtrim_A (g := wr.heap.size) ⟨[], World.alloc_heap_new wr _⟩ rfl h9.2 h9.1 (Nat.le_refl _) (by omega) hW)
    have CS := Lib.hid (show ∀ (W W2 : World) (g cap : Nat), W.ownsRow w.heap.size 3 1 (.slice (some ⟨g, 0, none⟩) (1 + z) cap) (1 + z) (ints [(x : Int)] ++ ints (grpX R)) → Below W.heap.size W W2 → Calls Tryz.prog 148 #[.slice (some ⟨g, 0, none⟩) (1 + z) cap] W2 fun e w' => ∃ v, e = .returned v ∧ XSl w' v R' ∧ Below W2.heap.size W2 w' from fun W W2 g cap ho hW => by
     rw [show ints [(x : Int)] ++ ints (grpX R) = ints ((x : Int) :: grpX R) by simp [ints]] at ho
     have hb := own_blk ho
     exact rtrim_A hb.1 hb.2.1 HVR.out.2 HVR.out.1 hb.2.2.1 hb.2.2.2.1 hW)
    clear hz
    by_cases hz0 : z = 0
    ·
     subst hz0
     have HGO := Lib.hid (CE.out rfl _ (Below.refl _ _))
     clear CE CS HVR HR HZL
     go_upto_region 7 with (first | (at_builtin; go_loud (refine wpList_append_zeroX rfl (.tmp 23) (.tmp 24) rfl wr.heap.size 1 1 rfl ad cp rfl (by omega) ?_)) | (go_at_call 148; go_loud ((with_reducible refine HGO.out.mono ?_); rintro e w2 ⟨v, rfl, nv, B2⟩; have NV := Lib.hid nv; have BW := Lib.hid (HBA.out.trans (B2.mono HBA.out.size)); have BQ := Lib.hid ((below_alloc wr (.cells #[.int .i64 (x : Int)] 3)).trans (B2.mono (by simp))); clear nv B2)))
     have HQ2 := Lib.hid (show ∃ L, ABlk w2 w.heap.size L ∧ L.length = p ∧ DigX L ∧ vlX L = ((10 ^ (i + 1) * ((n / 10 ^ (i + 1)) / d) + 10 ^ i * 0 : Nat) : Int) ∧ (∀ j, j < i → L[j]? = some 0) ∧ L[i]? = some ((0 : Nat) : Int) from by
      obtain ⟨L, q1, q2, q3, q4, q5, q6⟩ := HQ.out
      exact ⟨L, q1.below BQ.out q1.lt, q2, q3, by rw [q4]; simp, q5, q6⟩)
     have hR'd2 := hR'd
     have hR'l2 := hR'l
     have HRR := Lib.hid (And.intro hR'd hR'l)
     clear x1 x2 hx9 hR'd hR'l hR'd2 hR'l2 hR'
     go_loopw [7] (fun rv wi => ∃ t : Nat, Hid (t * d ≤ R' ∧ XSl wi rv (R' - t * d)) ∧ Hid (∃ L, ABlk wi w.heap.size L ∧ L.length = p ∧ DigX L ∧ vlX L = ((10 ^ (i + 1) * ((n / 10 ^ (i + 1)) / d) + 10 ^ i * t : Nat) : Int) ∧ (∀ j, j < i → L[j]? = some 0) ∧ L[i]? = some ((t : Nat) : Int)) ∧ Below w.heap.size w wi) (fun rv wi => xvOf wi rv)
     case atStart => exact ⟨0, Lib.hid ⟨by omega, by rw [Nat.zero_mul, Nat.sub_zero]; exact NV.out⟩, HQ2, BW.out⟩
     case round =>
      clear HQ2
      obtain ⟨t, hX, hQ, hBi⟩ := hrel
      obtain ⟨r, hr⟩ : ∃ r, R' - t * d = r := ⟨_, rfl⟩
      have hle := hX.out.1
      have hXr := hX.out.2
      rw [hr] at hXr
      have hrR : r ≤ R' := by omega
      have hrl := Nat.le_trans (grpX_mono hrR) HRR.out.2
      have HV := Lib.hid (xvOf_eq hXr)
      by_cases hlt : r < d
      ·
       have CO := Lib.hid (fun (W : World) (g1 : XSl W u7 r) (g2 : XSl W v2 d) => order_any r d u7 v2 W (by omega) (by have := HL2.out; omega) g1 g2)
       have hc : cmpN (r : Int) (d : Int) = -1 := by rw [cmpN, if_pos (by omega)]
       rw [hc] at CO
       have HXR := Lib.hid hXr
       have HX2 := Lib.hid (H2.out.below hBi)
       have hq1 : R' / d = t ∧ R' % d = r := by
        have e : R' = r + d * t := by rw [Nat.mul_comm d t]; omega
        rw [e, Nat.add_mul_div_left _ _ HD0.out, Nat.add_mul_mod_self_left, Nat.div_eq_of_lt hlt, Nat.mod_eq_of_lt hlt, Nat.zero_add]
        exact ⟨rfl, rfl⟩
       have HF := Lib.hid (show (n / 10 ^ i) % d = r ∧ ∃ L, ABlk wr w.heap.size L ∧ L.length = p ∧ DigX L ∧ vlX L = ((10 ^ i * ((n / 10 ^ i) / d) : Nat) : Int) ∧ ∀ j, j < i → L[j]? = some 0 from by
        obtain ⟨L, q1, q2, q3, q4, q5, q6⟩ := hQ.out
        refine ⟨by rw [HDS.out.2, hq1.2], L, q1, q2, q3, ?_, q5⟩
        rw [q4, HDS.out.1, hq1.1, Nat.mul_add, Nat.pow_succ, Nat.mul_assoc])
       clear hX hQ hle hXr hc hq1 hr hrR hrl HV
       go_wp2_with (go_at_call 120; go_loud ((with_reducible refine (CO.out _ HXR.out HX2.out).mono ?_); rintro e w5 ⟨rfl, B5⟩; have NX := Lib.hid (HXR.out.below B5); have BX := Lib.hid (hBi.trans (B5.mono hBi.size)); have B55 := Lib.hid B5; clear B5))
       obtain ⟨hF1, L, q1, q2, q3, q4, q5⟩ := HF.out
       obtain ⟨a9, c9, e9⟩ := NX.out.form
       refine ⟨⟨i, a9, c9, by omega, by go_num, by rw [hF1]; exact e9, Lib.hid (by rw [hF1]; exact NX.out), Lib.hid ⟨L, q1.below B55.out q1.lt, q2, q3, q4, q5⟩, BX.out⟩, by simp [intOf]⟩
      ·
       have hge : d ≤ r := by omega
       have CO := Lib.hid (fun (W : World) (g1 : XSl W u7 r) (g2 : XSl W v2 d) => order_any r d u7 v2 W (by omega) (by have := HL2.out; omega) g1 g2)
       obtain ⟨z9, hz9⟩ : ∃ z, cmpN (r : Int) (d : Int) = z := ⟨_, rfl⟩
       have hz90 : 0 ≤ z9 := by rw [← hz9, cmpN, if_neg (by omega)]; split <;> omega
       rw [hz9] at CO
       have CM := Lib.hid (fun (W : World) (g1 : XSl W u7 r) (g2 : XSl W v2 d) => rminus_any r d u7 v2 W hge (by omega) g1 g2)
       have HXR := Lib.hid hXr
       have HX2 := Lib.hid (H2.out.below hBi)
       have ht1 : (t + 1) * d ≤ R' ∧ R' - (t + 1) * d = r - d := by rw [Nat.add_mul, Nat.one_mul]; omega
       have ht9 : t + 1 < 10 := by
        rcases Nat.lt_or_ge (t + 1) 10 with g | g
        ·
         exact g
        ·
         have := Nat.mul_le_mul_right d g; have := HRR.out.1; omega
       have HT := Lib.hid ht1
       have HQW := Lib.hid (show ∀ W, Below wr.heap.size wr W → ∃ L, ABlk W w.heap.size L ∧ L.length = p ∧ DigX L ∧ vlX L = ((10 ^ (i + 1) * ((n / 10 ^ (i + 1)) / d) + 10 ^ i * t : Nat) : Int) ∧ (∀ j, j < i → L[j]? = some 0) ∧ L[i]? = some ((t : Nat) : Int) from fun W hW => by
        obtain ⟨L, q1, q2, q3, q4, q5, q6⟩ := hQ.out
        exact ⟨L, q1.below hW q1.lt, q2, q3, q4, q5, q6⟩)
       have HGW := Lib.hid (show w.heap.size < wr.heap.size from by obtain ⟨L, q1, _⟩ := hQ.out; exact q1.lt)
       have hdec : r - d < r := by have := HD0.out; omega
       clear hX hQ hle hXr hr hrR hz9 ht1
       go_wp2_with (first | (go_at_call 120; go_loud ((with_reducible refine (CO.out _ HXR.out HX2.out).mono ?_); rintro e w5 ⟨rfl, B5⟩; have NX := Lib.hid (HXR.out.below B5); have NX2 := Lib.hid (HX2.out.below B5); have BX := Lib.hid (hBi.trans (B5.mono hBi.size)); have B55 := Lib.hid B5; clear B5)) | (go_at_call 118; go_loud ((with_reducible refine (CM.out _ NX.out NX2.out).mono ?_); rintro e w6 ⟨v6, rfl, n6, B6, fr⟩; have hgw := Nat.lt_of_lt_of_le (show w.heap.size < wr.heap.size from HGW.out) B55.out.size; have N6 := Lib.hid (n6.store (g := w.heap.size) (i := i) (x := .int .i64 ((t : Int) + 1)) (fun b o k c e h => by have := fr b o k c e h; omega)); clear fr hgw; have BX6 := Lib.hid (BX.out.trans (B6.mono BX.out.size)); obtain ⟨L, q1, q2, q3, q4, q5, q6⟩ := HQW.out _ (B55.out.trans (B6.mono B55.out.size)); have hcell := q1.cell q6; have hfree := q1.free i; have HQL := Lib.hid (And.intro q1 (And.intro q2 (And.intro q3 (And.intro q4 (And.intro q5 q6))))); clear n6 B6 q1 q2 q3 q4 q5 q6)))
       obtain ⟨q1, q2, q3, q4, q5, q6⟩ := HQL.out
       refine ⟨⟨t + 1, Lib.hid ⟨HT.out.1, ?_⟩, Lib.hid ⟨L.set i (((t + 1 : Nat)) : Int), q1.set i _, by rw [List.length_set]; exact q2, q3.set i (by omega), ?_, fun j hj => by rw [List.getElem?_set_ne (by omega)]; exact q5 j hj, by rw [List.getElem?_set_self (by omega)]⟩, BX6.out.setCell (p := ⟨w.heap.size, i, none⟩) (Nat.le_refl _) _⟩, ?_⟩
       ·
        rw [HT.out.2]; exact N6.out
       ·
        rw [vlX_set L i _ _ q6, q4, show (((t + 1 : Nat)) : Int) - (t : Int) = 1 by omega, Int.mul_one]
        have e : 10 ^ (i + 1) * ((n / 10 ^ (i + 1)) / d) + 10 ^ i * (t + 1) = (10 ^ (i + 1) * ((n / 10 ^ (i + 1)) / d) + 10 ^ i * t) + 10 ^ i := by rw [Nat.mul_add, Nat.mul_one, Nat.add_assoc]
        rw [e, Int.natCast_add (10 ^ (i + 1) * ((n / 10 ^ (i + 1)) / d) + 10 ^ i * t) (10 ^ i), Int.natCast_pow]; rfl
       ·
        rw [xvOf_eq N6.out, HV.out]; exact hdec
    ·
     have HROW := Lib.hid (show ∃ b o, ad = some ⟨b, o, none⟩ ∧ b < wr.heap.size ∧ IRow wr b o (grpX R) ∧ z ≤ cp from by
      rcases HR.out with ⟨_, _, e, e2⟩ | ⟨b, o, c', e, e1, _, e3, e4⟩
      ·
       simp at e; omega
      ·
       simp only [Value.slice.injEq] at e
       obtain ⟨rfl, e5, rfl⟩ := e
       exact ⟨b, o, rfl, e3, e4, by omega⟩)
     obtain ⟨b3, o3, rfl, hb3, hrow, hzc⟩ := HROW.out
     have HN := Lib.hid (show ∀ j u, (ints (grpX R))[j]? = some u → (wr.alloc (.cells #[.int .i64 (x : Int)] 3)).cell? ((⟨b3, o3, none⟩ : Addr).add j) = some u from IRow.news (hrow.below (below_alloc wr _) hb3))
     have HOO := Lib.hid (own_one (W := wr) HBB.out.size (x : Int))
     have HLL := Lib.hid (show (ints (grpX R)).length = z * 1 by rw [ints_len, HZL.out])
     clear CE HROW hrow HVR
     go_upto_region 7 with (first | (at_builtin; go_loud (refine wpList_append_lies _ rfl (.tmp 23) (.tmp 24) 40 rfl w.heap.size 3 i0 (.int .i64 0) 1 8 Tryz.underlying40 hi hz0' hz1 HZ2.out rfl (by decide) (.slice (some ⟨wr.heap.size, 0, none⟩) 1 1) 1 _ rfl HOO.out ⟨b3, o3, none⟩ z cp (ints (grpX R)) rfl HLL.out HN.out (ints_one _) (by omega) (by unfold maxLen; omega) (by omega) HBA.out.size _ rfl ?_; intro g4 cap4 w4 hown4 hgrow4 _ _; have HGO := Lib.hid (CS.out w4 w4 g4 cap4 hown4 (Below.refl _ _)); have BW4 := Lib.hid (HBA.out.grown hgrow4 HBA.out.size (fun q hq => by cases hq; exact HBB.out.size)); have BQ4 := Lib.hid ((below_alloc wr (.cells #[.int .i64 (x : Int)] 3)).grown hgrow4 (by simp) (fun q hq => by cases hq; exact Nat.le_refl _)); clear hown4 hgrow4)) | (go_at_call 148; go_loud ((with_reducible refine HGO.out.mono ?_); rintro e w2 ⟨v, rfl, nv, B2⟩; have NV := Lib.hid nv; have BW := Lib.hid (BW4.out.trans (B2.mono BW4.out.size)); have BQ := Lib.hid (BQ4.out.trans (B2.mono BQ4.out.size)); clear nv B2)))
     have HQ2 := Lib.hid (show ∃ L, ABlk w2 w.heap.size L ∧ L.length = p ∧ DigX L ∧ vlX L = ((10 ^ (i + 1) * ((n / 10 ^ (i + 1)) / d) + 10 ^ i * 0 : Nat) : Int) ∧ (∀ j, j < i → L[j]? = some 0) ∧ L[i]? = some ((0 : Nat) : Int) from by
      obtain ⟨L, q1, q2, q3, q4, q5, q6⟩ := HQ.out
      exact ⟨L, q1.below BQ.out q1.lt, q2, q3, by rw [q4]; simp, q5, q6⟩)
     have hR'd2 := hR'd
     have hR'l2 := hR'l
     have HRR := Lib.hid (And.intro hR'd hR'l)
     clear x1 x2 hx9 hR'd hR'l hR'd2 hR'l2 hR'
     go_loopw [7] (fun rv wi => ∃ t : Nat, Hid (t * d ≤ R' ∧ XSl wi rv (R' - t * d)) ∧ Hid (∃ L, ABlk wi w.heap.size L ∧ L.length = p ∧ DigX L ∧ vlX L = ((10 ^ (i + 1) * ((n / 10 ^ (i + 1)) / d) + 10 ^ i * t : Nat) : Int) ∧ (∀ j, j < i → L[j]? = some 0) ∧ L[i]? = some ((t : Nat) : Int)) ∧ Below w.heap.size w wi) (fun rv wi => xvOf wi rv)
     case atStart => exact ⟨0, Lib.hid ⟨by omega, by rw [Nat.zero_mul, Nat.sub_zero]; exact NV.out⟩, HQ2, BW.out⟩
     case round =>
      clear HQ2
      obtain ⟨t, hX, hQ, hBi⟩ := hrel
      obtain ⟨r, hr⟩ : ∃ r, R' - t * d = r := ⟨_, rfl⟩
      have hle := hX.out.1
      have hXr := hX.out.2
      rw [hr] at hXr
      have hrR : r ≤ R' := by omega
      have hrl := Nat.le_trans (grpX_mono hrR) HRR.out.2
      have HV := Lib.hid (xvOf_eq hXr)
      by_cases hlt : r < d
      ·
       have CO := Lib.hid (fun (W : World) (g1 : XSl W u7 r) (g2 : XSl W v2 d) => order_any r d u7 v2 W (by omega) (by have := HL2.out; omega) g1 g2)
       have hc : cmpN (r : Int) (d : Int) = -1 := by rw [cmpN, if_pos (by omega)]
       rw [hc] at CO
       have HXR := Lib.hid hXr
       have HX2 := Lib.hid (H2.out.below hBi)
       have hq1 : R' / d = t ∧ R' % d = r := by
        have e : R' = r + d * t := by rw [Nat.mul_comm d t]; omega
        rw [e, Nat.add_mul_div_left _ _ HD0.out, Nat.add_mul_mod_self_left, Nat.div_eq_of_lt hlt, Nat.mod_eq_of_lt hlt, Nat.zero_add]
        exact ⟨rfl, rfl⟩
       have HF := Lib.hid (show (n / 10 ^ i) % d = r ∧ ∃ L, ABlk wr w.heap.size L ∧ L.length = p ∧ DigX L ∧ vlX L = ((10 ^ i * ((n / 10 ^ i) / d) : Nat) : Int) ∧ ∀ j, j < i → L[j]? = some 0 from by
        obtain ⟨L, q1, q2, q3, q4, q5, q6⟩ := hQ.out
        refine ⟨by rw [HDS.out.2, hq1.2], L, q1, q2, q3, ?_, q5⟩
        rw [q4, HDS.out.1, hq1.1, Nat.mul_add, Nat.pow_succ, Nat.mul_assoc])
       clear hX hQ hle hXr hc hq1 hr hrR hrl HV
       go_wp2_with (go_at_call 120; go_loud ((with_reducible refine (CO.out _ HXR.out HX2.out).mono ?_); rintro e w5 ⟨rfl, B5⟩; have NX := Lib.hid (HXR.out.below B5); have BX := Lib.hid (hBi.trans (B5.mono hBi.size)); have B55 := Lib.hid B5; clear B5))
       obtain ⟨hF1, L, q1, q2, q3, q4, q5⟩ := HF.out
       obtain ⟨a9, c9, e9⟩ := NX.out.form
       refine ⟨⟨i, a9, c9, by omega, by go_num, by rw [hF1]; exact e9, Lib.hid (by rw [hF1]; exact NX.out), Lib.hid ⟨L, q1.below B55.out q1.lt, q2, q3, q4, q5⟩, BX.out⟩, by simp [intOf]⟩
      ·
       have hge : d ≤ r := by omega
       have CO := Lib.hid (fun (W : World) (g1 : XSl W u7 r) (g2 : XSl W v2 d) => order_any r d u7 v2 W (by omega) (by have := HL2.out; omega) g1 g2)
       obtain ⟨z9, hz9⟩ : ∃ z, cmpN (r : Int) (d : Int) = z := ⟨_, rfl⟩
       have hz90 : 0 ≤ z9 := by rw [← hz9, cmpN, if_neg (by omega)]; split <;> omega
       rw [hz9] at CO
       have CM := Lib.hid (fun (W : World) (g1 : XSl W u7 r) (g2 : XSl W v2 d) => rminus_any r d u7 v2 W hge (by omega) g1 g2)
       have HXR := Lib.hid hXr
       have HX2 := Lib.hid (H2.out.below hBi)
       have ht1 : (t + 1) * d ≤ R' ∧ R' - (t + 1) * d = r - d := by rw [Nat.add_mul, Nat.one_mul]; omega
       have ht9 : t + 1 < 10 := by
        rcases Nat.lt_or_ge (t + 1) 10 with g | g
        ·
         exact g
        ·
         have := Nat.mul_le_mul_right d g; have := HRR.out.1; omega
       have HT := Lib.hid ht1
       have HQW := Lib.hid (show ∀ W, Below wr.heap.size wr W → ∃ L, ABlk W w.heap.size L ∧ L.length = p ∧ DigX L ∧ vlX L = ((10 ^ (i + 1) * ((n / 10 ^ (i + 1)) / d) + 10 ^ i * t : Nat) : Int) ∧ (∀ j, j < i → L[j]? = some 0) ∧ L[i]? = some ((t : Nat) : Int) from fun W hW => by
        obtain ⟨L, q1, q2, q3, q4, q5, q6⟩ := hQ.out
        exact ⟨L, q1.below hW q1.lt, q2, q3, q4, q5, q6⟩)
       have HGW := Lib.hid (show w.heap.size < wr.heap.size from by obtain ⟨L, q1, _⟩ := hQ.out; exact q1.lt)
       have hdec : r - d < r := by have := HD0.out; omega
       clear hX hQ hle hXr hr hrR hz9 ht1
       go_wp2_with (first | (go_at_call 120; go_loud ((with_reducible refine (CO.out _ HXR.out HX2.out).mono ?_); rintro e w5 ⟨rfl, B5⟩; have NX := Lib.hid (HXR.out.below B5); have NX2 := Lib.hid (HX2.out.below B5); have BX := Lib.hid (hBi.trans (B5.mono hBi.size)); have B55 := Lib.hid B5; clear B5)) | (go_at_call 118; go_loud ((with_reducible refine (CM.out _ NX.out NX2.out).mono ?_); rintro e w6 ⟨v6, rfl, n6, B6, fr⟩; have hgw := Nat.lt_of_lt_of_le (show w.heap.size < wr.heap.size from HGW.out) B55.out.size; have N6 := Lib.hid (n6.store (g := w.heap.size) (i := i) (x := .int .i64 ((t : Int) + 1)) (fun b o k c e h => by have := fr b o k c e h; omega)); clear fr hgw; have BX6 := Lib.hid (BX.out.trans (B6.mono BX.out.size)); obtain ⟨L, q1, q2, q3, q4, q5, q6⟩ := HQW.out _ (B55.out.trans (B6.mono B55.out.size)); have hcell := q1.cell q6; have hfree := q1.free i; have HQL := Lib.hid (And.intro q1 (And.intro q2 (And.intro q3 (And.intro q4 (And.intro q5 q6))))); clear n6 B6 q1 q2 q3 q4 q5 q6)))
       obtain ⟨q1, q2, q3, q4, q5, q6⟩ := HQL.out
       refine ⟨⟨t + 1, Lib.hid ⟨HT.out.1, ?_⟩, Lib.hid ⟨L.set i (((t + 1 : Nat)) : Int), q1.set i _, by rw [List.length_set]; exact q2, q3.set i (by omega), ?_, fun j hj => by rw [List.getElem?_set_ne (by omega)]; exact q5 j hj, by rw [List.getElem?_set_self (by omega)]⟩, BX6.out.setCell (p := ⟨w.heap.size, i, none⟩) (Nat.le_refl _) _⟩, ?_⟩
       ·
        rw [HT.out.2]; exact N6.out
       ·
        rw [vlX_set L i _ _ q6, q4, show (((t + 1 : Nat)) : Int) - (t : Int) = 1 by omega, Int.mul_one]
        have e : 10 ^ (i + 1) * ((n / 10 ^ (i + 1)) / d) + 10 ^ i * (t + 1) = (10 ^ (i + 1) * ((n / 10 ^ (i + 1)) / d) + 10 ^ i * t) + 10 ^ i := by rw [Nat.mul_add, Nat.mul_one, Nat.add_assoc]
        rw [e, Int.natCast_add (10 ^ (i + 1) * ((n / 10 ^ (i + 1)) / d) + 10 ^ i * t) (10 ^ i), Int.natCast_pow]; rfl
       ·
        rw [xvOf_eq N6.out, HV.out]; exact hdec
set_option maxRecDepth 100000 in
set_option maxHeartbeats 1000000 in
theorem rtext_off (neg : Bool) (l : List Int) (b o n c : Nat) (B : Bool) (w : World) (hn : l.length = n) (hn0 : 0 < n) (hn9 : n ≤ 20000) (n2 : decide ((n : Int) ≤ 200) = B) (hnc : n ≤ c) (hd : DigX l) (hr : IRow w b o l) (hb : b < w.heap.size) :
  Calls Tryz.prog 119 #[.bool neg, .slice (some ⟨b, o, none⟩) n c] w fun e w' => e = .returned (.tuple #[.string ⟨((if neg then [45] else []) ++ lts l).toArray⟩, .bool B]) ∧ Below w.heap.size w w' := by
 have _ := hnc
 obtain ⟨i0, hi, hz0, hz1, hz2⟩ := info_parts info_u8
 have HN := Lib.hid hn
 have HD := Lib.hid hd
 have HR := Lib.hid hr
 have HZ2 := Lib.hid hz2
 have n0 : ((n : Int) == 0) = false := by rw [beq_eq_false_iff_ne]; omega
 clear hn hd hr hz2
 cases neg
 ·
  go_enter Tryz.func119, Tryz.ntmps119
  go_wp2
  all_goals
   go_loopw [6, 7] (fun ov iv wr => ∃ (k : Nat) (ad : Option Addr) (cp : Nat), k ≤ n ∧ ov = .slice ad (n - k) cp ∧ iv = .int .i64 ((k : Int) - 1) ∧ Hid (wr.ownsRow w.heap.size 5 1 ov (n - k) (([] ++ wr4 (l.drop k)).map (Value.int .u8))) ∧ Below w.heap.size w wr) (fun _ i _ => (intOf i + 1).toNat)
   case atStart => exact ⟨n, _, _, Nat.le_refl _, by rw [Nat.sub_self], rfl, Lib.hid (by rw [List.drop_eq_nil_of_le (by rw [HN.out]; exact Nat.le_refl _), Nat.sub_self]; exact ⟨rfl, .inl ⟨rfl, rfl⟩⟩), Below.refl _ _⟩
   case round =>
    obtain ⟨k, ad, cp, hk, rfl, rfl, hO, hB⟩ := hrel
    by_cases h0 : k = 0
    ·
     subst h0
     have hO2 := hO.out
     rw [List.drop_zero, Nat.sub_zero] at hO2
     obtain ⟨g, cap, hsl, hgb, hU⟩ := own_bytes hO2 (by omega)
     simp only [Value.slice.injEq] at hsl
     obtain ⟨rfl, _, rfl⟩ := hsl
     rw [wr4_lts HD.out, show ([] : List Int) = ([] : List UInt8).map (fun b => (b.toNat : Int)) from rfl, ← List.map_append] at hU
     have hll : (([] : List UInt8) ++ lts l).length = n := by rw [List.length_append, lts_len, HN.out]; simp
     have hcv := run_convert_bytes_back (P := Tryz.prog) wr 48 9 5 ⟨g, 0, none⟩ cp (([] : List UInt8) ++ lts l) Tryz.underlying48 Tryz.underlying5 Tryz.underlying9 (fun j hj => by
      rw [Addr.add_mid]
      exact hU.cell (by rw [List.getElem?_map, List.getElem?_eq_getElem (by omega)]; simp))
     rw [hll] at hcv
     generalize HGEN : (([] : List UInt8) ++ lts l).toArray = S at *
     have HG := Lib.hid HGEN
     clear hO hO2 hU hll HGEN
     go_wp2
     go_ret2
     exact ⟨by rw [← HG.out]; rfl, hB⟩
    ·
     obtain ⟨m, rfl⟩ : ∃ m, k = m + 1 := ⟨k - 1, by omega⟩
     have k1 : m < l.length := by rw [HN.out]; omega
     have hx : wr.cell? ⟨b, o + m, none⟩ = some (.int .i64 l[m]) := by have := (HR.out.below hB hb) m _ (List.getElem?_eq_getElem k1); exact this
     have hxd := HD.out _ (List.getElem_mem k1)
     have hdr := List.drop_eq_getElem_cons k1
     generalize l[m] = x at *
     have ew : IntKind.u8.wrap (48 + x) = 48 + x := by simp [IntKind.wrap, IntKind.bits, IntKind.signed]; omega
     have HO := Lib.hid (hO.out.alloc (.cells #[.int .u8 (48 + x)] 5))
     have hO3 : ∀ (w3 : World) (v3 : Value), w3.ownsRow w.heap.size 5 1 v3 ((n - (m + 1)) + 1) (([] ++ wr4 (l.drop (m + 1))).map (Value.int .u8) ++ [.int .u8 (48 + x)]) → w3.ownsRow w.heap.size 5 1 v3 (n - m) (([] ++ wr4 (l.drop m)).map (Value.int .u8)) := fun w3 v3 h => by
      rw [show (n - (m + 1)) + 1 = (n - m) by omega] at h
      rw [hdr, wr4_cons]
      simpa using h
     have HO3 := Lib.hid hO3
     have HBA := Lib.hid (hB.alloc hB.size (.cells #[.int .u8 (48 + x)] 5))
     have hob : ∀ q, (Value.slice ad (n - (m + 1)) cp).ownBlock = some q → w.heap.size ≤ q := fun q hq => own_block hO.out hq
     have HOB := Lib.hid hob
     have x0 := hxd.1
     have x9 := hxd.2
     clear hxd hdr hO3 hob hO hB k1
     go_wp2_with (at_builtin; go_loud (refine wpList_append_lies _ rfl (.tmp 22) (.tmp 29) 48 rfl w.heap.size 5 i0 (.int .u8 0) 1 1 Tryz.underlying48 hi hz0 hz1 HZ2.out rfl (by decide) (.slice ad (n - (m + 1)) cp) _ _ rfl HO.out ⟨wr.heap.size, 0, none⟩ 1 1 [.int .u8 (48 + x)] rfl rfl (one_newB wr _) (by intro u hu; simp at hu; subst hu; rfl) (by decide) (by unfold maxLen; omega) (by omega) HBA.out.size _ rfl ?_; intro g2 cap2 w3 hown3 hgrow _ _; have HOW := Lib.hid (HO3.out w3 _ hown3); have HB3 := Lib.hid (HBA.out.grown hgrow HBA.out.size (fun q hq => HOB.out q hq)); clear hown3 hgrow))
     exact ⟨⟨m, _, _, by omega, by congr 1; omega, by go_num, HOW, HB3.out⟩, by simp [intOf]⟩
 ·
  go_enter Tryz.func119, Tryz.ntmps119
  have hOW : w.ownsRow w.heap.size 5 1 (.slice none 0 0) 0 [] := ⟨rfl, .inl ⟨rfl, rfl⟩⟩
  have HOW0 := Lib.hid (hOW.alloc (.cells #[.int .u8 45] 5))
  clear hOW
  have HBA := Lib.hid (below_alloc w (.cells #[.int .u8 45] 5))
  go_wp2_with (at_builtin; go_loud (refine wpList_append_lies _ rfl (.tmp 12) (.tmp 13) 48 rfl w.heap.size 5 i0 (.int .u8 0) 1 1 Tryz.underlying48 hi hz0 hz1 HZ2.out rfl (by decide) (.slice none 0 0) 0 [] rfl HOW0.out ⟨w.heap.size, 0, none⟩ 1 1 [.int .u8 45] rfl rfl (one_newB w _) (by intro u hu; simp at hu; subst hu; rfl) (by decide) (by unfold maxLen; omega) (by omega) HBA.out.size _ rfl ?_; intro g1 cap1 w1 hown1 hgrow1 _ _; have HO1 := Lib.hid hown1; have HB1 := Lib.hid (HBA.out.grown hgrow1 HBA.out.size (fun q hq => by cases hq)); clear hown1 hgrow1))
  all_goals
   go_loopw [6, 7] (fun ov iv wr => ∃ (k : Nat) (ad : Option Addr) (cp : Nat), k ≤ n ∧ ov = .slice ad (1 + (n - k)) cp ∧ iv = .int .i64 ((k : Int) - 1) ∧ Hid (wr.ownsRow w.heap.size 5 1 ov (1 + (n - k)) (([45] ++ wr4 (l.drop k)).map (Value.int .u8))) ∧ Below w.heap.size w wr) (fun _ i _ => (intOf i + 1).toNat)
   case atStart => exact ⟨n, _, _, Nat.le_refl _, by rw [Nat.sub_self], rfl, Lib.hid (by rw [List.drop_eq_nil_of_le (by rw [HN.out]; exact Nat.le_refl _), Nat.sub_self]; simpa [wr4] using HO1.out), HB1.out⟩
   case round =>
    clear HO1 HB1 HOW0 HBA
    obtain ⟨k, ad, cp, hk, rfl, rfl, hO, hB⟩ := hrel
    by_cases h0 : k = 0
    ·
     subst h0
     have hO2 := hO.out
     rw [List.drop_zero, Nat.sub_zero] at hO2
     obtain ⟨g, cap, hsl, hgb, hU⟩ := own_bytes hO2 (by omega)
     simp only [Value.slice.injEq] at hsl
     obtain ⟨rfl, _, rfl⟩ := hsl
     rw [wr4_lts HD.out, show ([45] : List Int) = ([45] : List UInt8).map (fun b => (b.toNat : Int)) from rfl, ← List.map_append] at hU
     have hll : (([45] : List UInt8) ++ lts l).length = (1 + n) := by rw [List.length_append, lts_len, HN.out]; simp
     have hcv := run_convert_bytes_back (P := Tryz.prog) wr 48 9 5 ⟨g, 0, none⟩ cp (([45] : List UInt8) ++ lts l) Tryz.underlying48 Tryz.underlying5 Tryz.underlying9 (fun j hj => by
      rw [Addr.add_mid]
      exact hU.cell (by rw [List.getElem?_map, List.getElem?_eq_getElem (by omega)]; simp))
     rw [hll] at hcv
     generalize HGEN : (([45] : List UInt8) ++ lts l).toArray = S at *
     have HG := Lib.hid HGEN
     clear hO hO2 hU hll HGEN
     go_wp2
     go_ret2
     exact ⟨by rw [← HG.out]; rfl, hB⟩
    ·
     obtain ⟨m, rfl⟩ : ∃ m, k = m + 1 := ⟨k - 1, by omega⟩
     have k1 : m < l.length := by rw [HN.out]; omega
     have hx : wr.cell? ⟨b, o + m, none⟩ = some (.int .i64 l[m]) := by have := (HR.out.below hB hb) m _ (List.getElem?_eq_getElem k1); exact this
     have hxd := HD.out _ (List.getElem_mem k1)
     have hdr := List.drop_eq_getElem_cons k1
     generalize l[m] = x at *
     have ew : IntKind.u8.wrap (48 + x) = 48 + x := by simp [IntKind.wrap, IntKind.bits, IntKind.signed]; omega
     have HO := Lib.hid (hO.out.alloc (.cells #[.int .u8 (48 + x)] 5))
     have hO3 : ∀ (w3 : World) (v3 : Value), w3.ownsRow w.heap.size 5 1 v3 ((1 + (n - (m + 1))) + 1) (([45] ++ wr4 (l.drop (m + 1))).map (Value.int .u8) ++ [.int .u8 (48 + x)]) → w3.ownsRow w.heap.size 5 1 v3 (1 + (n - m)) (([45] ++ wr4 (l.drop m)).map (Value.int .u8)) := fun w3 v3 h => by
      rw [show (1 + (n - (m + 1))) + 1 = (1 + (n - m)) by omega] at h
      rw [hdr, wr4_cons]
      simpa using h
     have HO3 := Lib.hid hO3
     have HBA := Lib.hid (hB.alloc hB.size (.cells #[.int .u8 (48 + x)] 5))
     have hob : ∀ q, (Value.slice ad (1 + (n - (m + 1))) cp).ownBlock = some q → w.heap.size ≤ q := fun q hq => own_block hO.out hq
     have HOB := Lib.hid hob
     have x0 := hxd.1
     have x9 := hxd.2
     clear hxd hdr hO3 hob hO hB k1
     go_wp2_with (at_builtin; go_loud (refine wpList_append_lies _ rfl (.tmp 22) (.tmp 29) 48 rfl w.heap.size 5 i0 (.int .u8 0) 1 1 Tryz.underlying48 hi hz0 hz1 HZ2.out rfl (by decide) (.slice ad (1 + (n - (m + 1))) cp) _ _ rfl HO.out ⟨wr.heap.size, 0, none⟩ 1 1 [.int .u8 (48 + x)] rfl rfl (one_newB wr _) (by intro u hu; simp at hu; subst hu; rfl) (by decide) (by unfold maxLen; omega) (by omega) HBA.out.size _ rfl ?_; intro g2 cap2 w3 hown3 hgrow _ _; have HOW := Lib.hid (HO3.out w3 _ hown3); have HB3 := Lib.hid (HBA.out.grown hgrow HBA.out.size (fun q hq => HOB.out q hq)); clear hown3 hgrow))
     exact ⟨⟨m, _, _, by omega, by congr 1; omega, by go_num, HOW, HB3.out⟩, by simp [intOf]⟩
theorem gx_200 (n : Nat) : decide (((grpX n).length : Int) ≤ 200) = decide (n < 10 ^ 200) := by
 have h := gx_len n 200
 rw [decide_eq_decide]
 omega
theorem mz_zero (neg : Bool) : mz neg 0 = 0 := by cases neg <;> rfl
theorem mz_abs (neg : Bool) (n : Nat) : (mz neg n).natAbs = n := by unfold mz; cases neg <;> simp
theorem rtext_G (neg : Bool) (n : Nat) (v : Value) (w : World) (hl : (grpX n).length ≤ 20000) (h : XSl w v n) :
  Calls Tryz.prog 119 #[.bool neg, v] w fun e w' => e = .returned (.tuple #[.string (S (mz neg n)), .bool (decide (n < 10 ^ 200))]) ∧ Below w.heap.size w w' := by
 by_cases h0 : n = 0
 ·
  subst h0
  obtain ⟨a, c, rfl⟩ := h.form
  rw [grpX_zero]
  refine (rtext_zero neg a c w).mono fun e w' h => ⟨?_, h.2 ▸ Below.refl _ _⟩
  rw [h.1, mz_zero, S_zero, show decide ((0 : Nat) < 10 ^ 200) = true from by decide]
 ·
  have hpos : 0 < (grpX n).length := (gx_len n 0).2 (by omega)
  rcases h with ⟨a, c, rfl, e⟩ | ⟨b, o, c, rfl, h1, h2, h3, h4⟩
  ·
   rw [e] at hpos; simp at hpos
  ·
   refine (rtext_off neg (grpX n) b o _ c _ w rfl hpos hl (gx_200 n) (by omega) (grpX_dig n) h4 h3).mono fun e w' h => ⟨?_, h.2⟩
   rw [h.1, made_text neg n h0]; rfl
set_option maxRecDepth 100000 in
theorem checked_any (neg : Bool) (n : Nat) (v : Value) (w : World) (hl : (grpX n).length ≤ 20000) (h : XSl w v n) :
  Calls Tryz.prog 109 #[.bool neg, v] w fun e w' => e = .returned (.tuple #[.string ⟨(rs (mz neg n)).toArray⟩, .int .i64 (er (mz neg n))]) ∧ Below w.heap.size w w' := by
 have cT := rtext_G neg n v w hl h
 rw [rs, er, mz_abs]
 by_cases h9 : n < 10 ^ 200
 ·
  rw [if_pos h9, if_pos h9, show (⟨(txt (mz neg n)).toArray⟩ : ByteArray) = S (mz neg n) from rfl]
  rw [decide_eq_true h9] at cT
  generalize S (mz neg n) = T at *
  have CT := Lib.hid cT
  clear cT h h9 hl
  go_enter Tryz.func109, Tryz.ntmps109
  go_wp2_with (go_at_call 119; (with_reducible refine CT.out.mono ?_); rintro e w1 ⟨rfl, B1⟩)
  go_ret2
  exact ⟨rfl, B1⟩
 ·
  rw [if_neg h9, if_neg h9]
  rw [decide_eq_false h9] at cT
  generalize S (mz neg n) = T at *
  have CT := Lib.hid cT
  clear cT h h9 hl
  go_enter Tryz.func109, Tryz.ntmps109
  go_wp2_with (go_at_call 119; (with_reducible refine CT.out.mono ?_); rintro e w1 ⟨rfl, B1⟩)
  go_ret2
  exact ⟨rfl, B1⟩
theorem mz_num (z : Int) : z = mz (decide (z < 0)) z.natAbs := by
 unfold mz
 by_cases h : z < 0
 ·
  rw [decide_eq_true h, if_pos rfl]; omega
 ·
  rw [decide_eq_false h]; simp; omega
theorem gx_le {n k : Nat} (h : n < 10 ^ k) (hk : k ≤ 5000) : (grpX n).length ≤ 5000 := Nat.le_trans (grpX_len h) hk
theorem digits_lit (s : ByteArray) (L : List UInt8) (w : World) (hL : s.data.toList = L) (hv : vld L = true) :
  Calls Tryz.prog 107 #[.string s] w fun e w' => ∃ v, e = .returned (.tuple #[.bool (decide (num L < 0)), v]) ∧ XSl w' v (num L).natAbs ∧ Below w.heap.size w w' := by
 have h := digits_any (num L) w (vld_txt hv).2
 rw [S_lit hv] at h
 have : s = ⟨L.toArray⟩ := by rw [← hL]
 rw [this]; exact h
set_option maxRecDepth 100000 in
set_option maxHeartbeats 1000000 in
theorem rsum_any (x y : Bool) (k l : Nat) (v1 v2 : Value) (w : World) (hk : k < 10 ^ 200) (hl : l < 10 ^ 200) (h1 : XSl w v1 k) (h2 : XSl w v2 l) :
  Calls Tryz.prog 108 #[.bool x, v1, .bool y, v2] w fun e w' => e = .returned (.tuple #[.string ⟨(rs (mz x k + mz y l)).toArray⟩, .int .i64 (er (mz x k + mz y l))]) ∧ Below w.heap.size w w' := by
 have gk : (grpX k).length ≤ 5000 := gx_le hk (by decide)
 have gl : (grpX l).length ≤ 5000 := gx_le hl (by decide)
 have fin : ∀ (neg : Bool) (n : Nat), n < 10 ^ 201 → mz neg n = mz x k + mz y l → ∀ W v, XSl W v n → Calls Tryz.prog 109 #[.bool neg, v] W fun e w' => e = .returned (.tuple #[.string ⟨(rs (mz x k + mz y l)).toArray⟩, .int .i64 (er (mz x k + mz y l))]) ∧ Below W.heap.size W w' := fun neg n hn e W v h => by
  have h := checked_any neg n v W (Nat.le_trans (grpX_len hn) (by decide)) h
  rwa [e] at h
 have sm : ∀ (W : World), Below w.heap.size w W → Calls Tryz.prog 117 #[v1, v2] W fun e w' => ∃ v, e = .returned v ∧ XSl w' v (k + l) ∧ Below W.heap.size W w' := fun W hb => rplus_any k l v1 v2 W (by omega) (by omega) (h1.below hb) (h2.below hb)
 have mk : l ≤ k → ∀ (W : World), Below w.heap.size w W → Calls Tryz.prog 118 #[v1, v2] W fun e w' => ∃ v, e = .returned v ∧ XSl w' v (k - l) ∧ Below W.heap.size W w' := fun hkl W hb => (rminus_any k l v1 v2 W hkl (by omega) (h1.below hb) (h2.below hb)).mono fun e w' ⟨v, a, b, c, _⟩ => ⟨v, a, b, c⟩
 have ml : k ≤ l → ∀ (W : World), Below w.heap.size w W → Calls Tryz.prog 118 #[v2, v1] W fun e w' => ∃ v, e = .returned v ∧ XSl w' v (l - k) ∧ Below W.heap.size W w' := fun hkl W hb => (rminus_any l k v2 v1 W hkl (by omega) (h2.below hb) (h1.below hb)).mono fun e w' ⟨v, a, b, c, _⟩ => ⟨v, a, b, c⟩
 have co := order_any k l v1 v2 w (by omega) (by omega) h1 h2
 have hxy : x = y → mz x (k + l) = mz x k + mz y l := fun h => by subst h; unfold mz; cases x <;> simp <;> omega
 have hxk : x ≠ y → l ≤ k → mz x (k - l) = mz x k + mz y l := fun h g => by unfold mz; cases x <;> cases y <;> simp at h ⊢ <;> omega
 have hxl : x ≠ y → k ≤ l → mz y (l - k) = mz x k + mz y l := fun h g => by unfold mz; cases x <;> cases y <;> simp at h ⊢ <;> omega
 generalize (rs (mz x k + mz y l)).toArray = R at *
 generalize er (mz x k + mz y l) = E at *
 by_cases hb : x = y
 ·
  have CF := Lib.hid (fin x (k + l) (by omega) (hxy hb))
  have SM := Lib.hid (sm w (Below.refl _ _))
  subst hb
  clear fin sm mk ml co hxy hxk hxl h1 h2 gk gl hk hl
  cases x <;>
  (go_enter Tryz.func108, Tryz.ntmps108
   go_wp2_with (first | (go_at_call 117; (with_reducible refine SM.out.mono ?_); rintro e w1 ⟨v, rfl, nv, B1⟩; have CG := Lib.hid (CF.out w1 v nv); clear CF nv) | (go_at_call 109; (with_reducible refine CG.out.mono ?_); rintro e w2 ⟨rfl, B2⟩))
   go_ret2
   exact ⟨rfl, B1.trans (B2.mono B1.size)⟩)
 ·
  by_cases hkl : l ≤ k
  ·
   have CF := Lib.hid (fin x (k - l) (by omega) (hxk hb hkl))
   have SM := Lib.hid (mk hkl)
   obtain ⟨c, hc, hc0⟩ : ∃ c : Int, cmpN (k : Int) l = c ∧ 0 ≤ c := ⟨_, rfl, by unfold cmpN; split; omega; split <;> omega⟩
   rw [hc] at co
   have CO := Lib.hid co
   clear fin sm mk ml co hxy hxk hxl h1 h2 gk gl hk hl hc
   cases x <;> cases y <;> first | exact absurd rfl hb |
   (go_enter Tryz.func108, Tryz.ntmps108
    go_wp2_with (first | (go_at_call 120; (with_reducible refine CO.out.mono ?_); rintro e w0 ⟨rfl, B0⟩; have SM0 := Lib.hid (SM.out w0 B0); clear SM) | (go_at_call 118; (with_reducible refine SM0.out.mono ?_); rintro e w1 ⟨v, rfl, nv, B1⟩; have CG := Lib.hid (CF.out w1 v nv); clear CF nv) | (go_at_call 109; (with_reducible refine CG.out.mono ?_); rintro e w2 ⟨rfl, B2⟩))
    go_ret2
    exact ⟨rfl, B0.trans ((B1.trans (B2.mono B1.size)).mono B0.size)⟩)
  ·
   have CF := Lib.hid (fin y (l - k) (by omega) (hxl hb (by omega)))
   have SM := Lib.hid (ml (by omega))
   have hc : cmpN (k : Int) l = -1 := by rw [cmpN, if_pos (by omega)]
   rw [hc] at co
   have CO := Lib.hid co
   clear fin sm mk ml co hxy hxk hxl h1 h2 gk gl hk hl hc hkl
   cases x <;> cases y <;> first | exact absurd rfl hb |
   (go_enter Tryz.func108, Tryz.ntmps108
    go_wp2_with (first | (go_at_call 120; (with_reducible refine CO.out.mono ?_); rintro e w0 ⟨rfl, B0⟩; have SM0 := Lib.hid (SM.out w0 B0); clear SM) | (go_at_call 118; (with_reducible refine SM0.out.mono ?_); rintro e w1 ⟨v, rfl, nv, B1⟩; have CG := Lib.hid (CF.out w1 v nv); clear CF nv) | (go_at_call 109; (with_reducible refine CG.out.mono ?_); rintro e w2 ⟨rfl, B2⟩))
    go_ret2
    exact ⟨rfl, B0.trans ((B1.trans (B2.mono B1.size)).mono B0.size)⟩)
theorem mz_not (b : Bool) (n : Nat) : mz (!b) n = - mz b n := by unfold mz; cases b <;> simp
theorem mz_mul (a b : Bool) (n m : Nat) : mz (a != b) (n * m) = mz a n * mz b m := by unfold mz; cases a <;> cases b <;> simp [Int.neg_mul, Int.mul_neg]
theorem mul_400 {a b : Nat} (h1 : a < 10 ^ 200) (h2 : b < 10 ^ 200) : a * b < 10 ^ 400 := by
 set_option exponentiation.threshold 500 in
 rw [show 400 = 200 + 200 from rfl, Nat.pow_add]
 exact Nat.mul_lt_mul'' h1 h2
set_option maxRecDepth 100000 in
set_option maxHeartbeats 2000000 in
theorem rAdd_ok (s1 s2 : ByteArray) (L1 L2 : List UInt8) (w : World) (hL1 : s1.data.toList = L1) (hL2 : s2.data.toList = L2) (hl1 : vld L1 = true) (hl2 : vld L2 = true) :
  Calls Tryz.prog 57 #[.string s1, .string s2] w fun e w' => e = .returned (.tuple #[.string ⟨(rs (num L1 + num L2)).toArray⟩, .int .i64 (er (num L1 + num L2))]) ∧ Below w.heap.size w w' := by
 have cv1 := fun W => rValid_any s1 L1 W hL1 (by have := (vld_digits hl1).2.2; omega)
 have cv2 := fun W => rValid_any s2 L2 W hL2 (by have := (vld_digits hl2).2.2; omega)
 rw [hl1] at cv1
 rw [hl2] at cv2
 have CV1 := Lib.hid cv1
 have CV2 := Lib.hid cv2
 have cd1 := fun W => digits_lit s1 L1 W hL1 hl1
 have cd2 := fun W => digits_lit s2 L2 W hL2 hl2
 have k1 := (vld_txt hl1).2
 have k2 := (vld_txt hl2).2
 have e1 := mz_num (num L1)
 have e2 := mz_num (num L2)
 have cs : ∀ W v1 v2, XSl W v1 (num L1).natAbs → XSl W v2 (num L2).natAbs → Calls Tryz.prog 108 #[.bool (decide (num L1 < 0)), v1, .bool (decide (num L2 < 0)), v2] W fun e w' => e = .returned (.tuple #[.string ⟨(rs (num L1 + num L2)).toArray⟩, .int .i64 (er (num L1 + num L2))]) ∧ Below W.heap.size W w' := fun W v1 v2 h1 h2 => by
  have h := rsum_any (decide (num L1 < 0)) (decide (num L2 < 0)) _ _ v1 v2 W k1 k2 h1 h2
  rwa [← mz_num, ← mz_num] at h
 clear e1 e2
 generalize (rs (num L1 + num L2)).toArray = R at *
 generalize er (num L1 + num L2) = E at *
 generalize decide (num L1 < 0) = x at *
 generalize decide (num L2 < 0) = y at *
 generalize (num L1).natAbs = k at *
 generalize (num L2).natAbs = l at *
 have CD1 := Lib.hid cd1
 have CD2 := Lib.hid cd2
 have CS := Lib.hid cs
 clear cv1 cv2 cd1 cd2 cs hL1 hL2 hl1 hl2 k1 k2
 go_enter Tryz.func57, Tryz.ntmps57
 go_wp2_with (first | (go_at_call 73; (first | (with_reducible refine (CV1.out _).mono ?_) | (with_reducible refine (CV2.out _).mono ?_)); rintro e w1 ⟨rfl, rfl⟩) | (go_at_call 107; (with_reducible refine (CD1.out _).mono ?_); rintro e w2 ⟨v1, rfl, n1, B1⟩) | (go_at_call 107; (with_reducible refine (CD2.out _).mono ?_); rintro e w3 ⟨v2, rfl, n2, B2⟩; have m1 := n1.below B2; clear n1) | (go_at_call 108; (with_reducible refine (CS.out _ _ _ m1 n2).mono ?_); rintro e w4 ⟨rfl, B3⟩))
 go_ret2
 exact ⟨rfl, B1.trans ((B2.trans (B3.mono B2.size)).mono B1.size)⟩
set_option maxRecDepth 100000 in
set_option maxHeartbeats 2000000 in
theorem rSub_ok (s1 s2 : ByteArray) (L1 L2 : List UInt8) (w : World) (hL1 : s1.data.toList = L1) (hL2 : s2.data.toList = L2) (hl1 : vld L1 = true) (hl2 : vld L2 = true) :
  Calls Tryz.prog 58 #[.string s1, .string s2] w fun e w' => e = .returned (.tuple #[.string ⟨(rs (num L1 - num L2)).toArray⟩, .int .i64 (er (num L1 - num L2))]) ∧ Below w.heap.size w w' := by
 have cv1 := fun W => rValid_any s1 L1 W hL1 (by have := (vld_digits hl1).2.2; omega)
 have cv2 := fun W => rValid_any s2 L2 W hL2 (by have := (vld_digits hl2).2.2; omega)
 rw [hl1] at cv1
 rw [hl2] at cv2
 have CV1 := Lib.hid cv1
 have CV2 := Lib.hid cv2
 have cd1 := fun W => digits_lit s1 L1 W hL1 hl1
 have cd2 := fun W => digits_lit s2 L2 W hL2 hl2
 have k1 := (vld_txt hl1).2
 have k2 := (vld_txt hl2).2
 have e1 := mz_num (num L1)
 have e2 := mz_num (num L2)
 have cs : ∀ W v1 v2, XSl W v1 (num L1).natAbs → XSl W v2 (num L2).natAbs → Calls Tryz.prog 108 #[.bool (decide (num L1 < 0)), v1, .bool (!decide (num L2 < 0)), v2] W fun e w' => e = .returned (.tuple #[.string ⟨(rs (num L1 - num L2)).toArray⟩, .int .i64 (er (num L1 - num L2))]) ∧ Below W.heap.size W w' := fun W v1 v2 h1 h2 => by
  have h := rsum_any (decide (num L1 < 0)) (!decide (num L2 < 0)) _ _ v1 v2 W k1 k2 h1 h2
  rwa [← mz_num, mz_not, ← mz_num, ← Int.sub_eq_add_neg] at h
 clear e1 e2
 generalize (rs (num L1 - num L2)).toArray = R at *
 generalize er (num L1 - num L2) = E at *
 generalize decide (num L1 < 0) = x at *
 generalize decide (num L2 < 0) = y at *
 generalize (num L1).natAbs = k at *
 generalize (num L2).natAbs = l at *
 have CD1 := Lib.hid cd1
 have CD2 := Lib.hid cd2
 have CS := Lib.hid cs
 clear cv1 cv2 cd1 cd2 cs hL1 hL2 hl1 hl2 k1 k2
 go_enter Tryz.func58, Tryz.ntmps58
 go_wp2_with (first | (go_at_call 73; (first | (with_reducible refine (CV1.out _).mono ?_) | (with_reducible refine (CV2.out _).mono ?_)); rintro e w1 ⟨rfl, rfl⟩) | (go_at_call 107; (with_reducible refine (CD1.out _).mono ?_); rintro e w2 ⟨v1, rfl, n1, B1⟩) | (go_at_call 107; (with_reducible refine (CD2.out _).mono ?_); rintro e w3 ⟨v2, rfl, n2, B2⟩; have m1 := n1.below B2; clear n1) | (go_at_call 108; (with_reducible refine (CS.out _ _ _ m1 n2).mono ?_); rintro e w4 ⟨rfl, B3⟩))
 go_ret2
 exact ⟨rfl, B1.trans ((B2.trans (B3.mono B2.size)).mono B1.size)⟩
set_option maxRecDepth 100000 in
set_option maxHeartbeats 2000000 in
theorem rMul_ok (s1 s2 : ByteArray) (L1 L2 : List UInt8) (w : World) (hL1 : s1.data.toList = L1) (hL2 : s2.data.toList = L2) (hl1 : vld L1 = true) (hl2 : vld L2 = true) :
  Calls Tryz.prog 59 #[.string s1, .string s2] w fun e w' => e = .returned (.tuple #[.string ⟨(rs (num L1 * num L2)).toArray⟩, .int .i64 (er (num L1 * num L2))]) ∧ Below w.heap.size w w' := by
 have cv1 := fun W => rValid_any s1 L1 W hL1 (by have := (vld_digits hl1).2.2; omega)
 have cv2 := fun W => rValid_any s2 L2 W hL2 (by have := (vld_digits hl2).2.2; omega)
 rw [hl1] at cv1
 rw [hl2] at cv2
 have CV1 := Lib.hid cv1
 have CV2 := Lib.hid cv2
 have cd1 := fun W => digits_lit s1 L1 W hL1 hl1
 have cd2 := fun W => digits_lit s2 L2 W hL2 hl2
 have k1 := (vld_txt hl1).2
 have k2 := (vld_txt hl2).2
 have e1 := mz_num (num L1)
 have e2 := mz_num (num L2)
 have cs : ∀ W v1 v2, XSl W v1 (num L1).natAbs → XSl W v2 (num L2).natAbs → Calls Tryz.prog 110 #[v1, v2] W fun e w' => ∃ v, e = .returned v ∧ XSl w' v ((num L1).natAbs * (num L2).natAbs) ∧ Below W.heap.size W w' := fun W v1 v2 h1 h2 => rtimes_any _ _ v1 v2 W (gx_le k1 (by decide)) (gx_le k2 (by decide)) h1 h2
 have cc : ∀ b, b = (decide (num L1 < 0) != decide (num L2 < 0)) → ∀ W v, XSl W v ((num L1).natAbs * (num L2).natAbs) → Calls Tryz.prog 109 #[.bool b, v] W fun e w' => e = .returned (.tuple #[.string ⟨(rs (num L1 * num L2)).toArray⟩, .int .i64 (er (num L1 * num L2))]) ∧ Below W.heap.size W w' := fun b hb W v h => by
  subst hb
  have h := checked_any (decide (num L1 < 0) != decide (num L2 < 0)) _ v W (Nat.le_trans (grpX_len (mul_400 k1 k2)) (by decide)) h
  rwa [mz_mul, ← mz_num, ← mz_num] at h
 have CC := Lib.hid cc
 clear cc
 clear e1 e2
 generalize (rs (num L1 * num L2)).toArray = R at *
 generalize er (num L1 * num L2) = E at *
 generalize decide (num L1 < 0) = x at *
 generalize decide (num L2 < 0) = y at *
 generalize (num L1).natAbs = k at *
 generalize (num L2).natAbs = l at *
 have CD1 := Lib.hid cd1
 have CD2 := Lib.hid cd2
 have CS := Lib.hid cs
 clear cv1 cv2 cd1 cd2 cs hL1 hL2 hl1 hl2 k1 k2
 cases x <;> cases y <;>
 (go_enter Tryz.func59, Tryz.ntmps59
  go_wp2_with (first | (go_at_call 73; (first | (with_reducible refine (CV1.out _).mono ?_) | (with_reducible refine (CV2.out _).mono ?_)); rintro e w1 ⟨rfl, rfl⟩) | (go_at_call 107; (with_reducible refine (CD1.out _).mono ?_); rintro e w2 ⟨v1, rfl, n1, B1⟩) | (go_at_call 107; (with_reducible refine (CD2.out _).mono ?_); rintro e w3 ⟨v2, rfl, n2, B2⟩; have m1 := n1.below B2; clear n1) | (go_at_call 110; (with_reducible refine (CS.out _ _ _ m1 n2).mono ?_); rintro e w4 ⟨v, rfl, n3, B3⟩) | (go_at_call 109; (with_reducible refine (CC.out _ (by decide) _ _ n3).mono ?_); rintro e w5 ⟨rfl, B4⟩))
  go_ret2
  exact ⟨rfl, B1.trans ((B2.trans ((B3.trans (B4.mono B3.size)).mono B2.size)).mono B1.size)⟩)
theorem cmp_neg (a b : Nat) : cmpN (-(a : Int)) (-(b : Int)) = cmpN (b : Int) a := by
 unfold cmpN
 rcases Nat.lt_trichotomy a b with h | h | h
 ·
  rw [if_neg (by omega), if_pos (by omega), if_neg (by omega), if_pos (by omega)]
 ·
  rw [if_neg (by omega), if_neg (by omega), if_neg (by omega), if_neg (by omega)]
 ·
  rw [if_pos (by omega), if_pos (by omega)]
theorem neg_div (k l : Nat) (hl : 0 < l) (hr : 0 < k % l) : (-(k : Int)) / l = -((k / l + 1 : Nat) : Int) ∧ (-(k : Int)) % l = ((l - k % l : Nat) : Int) := by
 have h1 := Nat.div_add_mod k l
 have h2 := Nat.mod_lt k hl
 refine (Int.ediv_emod_unique (by omega)).2 ⟨?_, by omega, by omega⟩
 generalize k / l = q at *
 generalize k % l = r at *
 subst h1
 push_cast [Nat.le_of_lt h2]
 rw [Int.mul_neg, Int.mul_add]
 omega
theorem neg_div0 (k l : Nat) (hl : 0 < l) (hr : k % l = 0) : (-(k : Int)) / l = -((k / l : Nat) : Int) ∧ (-(k : Int)) % l = 0 := by
 have h1 := Nat.div_add_mod k l
 refine (Int.ediv_emod_unique (by omega)).2 ⟨?_, by omega, by omega⟩
 rw [hr] at h1
 generalize k / l = q at *
 subst h1
 push_cast
 rw [Int.mul_neg]
 omega
set_option maxRecDepth 100000 in
set_option maxHeartbeats 2000000 in
theorem rCompare_ok (s1 s2 : ByteArray) (L1 L2 : List UInt8) (w : World) (hL1 : s1.data.toList = L1) (hL2 : s2.data.toList = L2) (hl1 : vld L1 = true) (hl2 : vld L2 = true) :
  Calls Tryz.prog 63 #[.string s1, .string s2] w fun e w' => e = .returned (.int .i64 (cmpN (num L1) (num L2))) ∧ Below w.heap.size w w' := by
 have cv1 := fun W => rValid_any s1 L1 W hL1 (by have := (vld_digits hl1).2.2; omega)
 have cv2 := fun W => rValid_any s2 L2 W hL2 (by have := (vld_digits hl2).2.2; omega)
 rw [hl1] at cv1
 rw [hl2] at cv2
 have CV1 := Lib.hid cv1
 have CV2 := Lib.hid cv2
 have cd1 := fun W => digits_lit s1 L1 W hL1 hl1
 have cd2 := fun W => digits_lit s2 L2 W hL2 hl2
 have k1 := (vld_txt hl1).2
 have k2 := (vld_txt hl2).2
 have co : ∀ W v1 v2, XSl W v1 (num L1).natAbs → XSl W v2 (num L2).natAbs → Calls Tryz.prog 120 #[v1, v2] W fun e w' => e = .returned (.int .i64 (cmpN ((num L1).natAbs : Int) (num L2).natAbs)) ∧ Below W.heap.size W w' := fun W v1 v2 h1 h2 => order_any _ _ v1 v2 W (Nat.le_trans (gx_le k1 (by decide)) (by decide)) (Nat.le_trans (gx_le k2 (by decide)) (by decide)) h1 h2
 have co2 : ∀ W v1 v2, XSl W v1 (num L1).natAbs → XSl W v2 (num L2).natAbs → Calls Tryz.prog 120 #[v2, v1] W fun e w' => e = .returned (.int .i64 (cmpN ((num L2).natAbs : Int) (num L1).natAbs)) ∧ Below W.heap.size W w' := fun W v1 v2 h1 h2 => order_any _ _ v2 v1 W (Nat.le_trans (gx_le k2 (by decide)) (by decide)) (Nat.le_trans (gx_le k1 (by decide)) (by decide)) h2 h1
 clear hL1 hL2 hl1 hl2 k1 k2 cv1 cv2
 by_cases g1 : num L1 < 0 <;> by_cases g2 : num L2 < 0
 ·
  rw [decide_eq_true g1] at cd1
  rw [decide_eq_true g2] at cd2
  have hc : cmpN (num L1) (num L2) = cmpN ((num L2).natAbs : Int) (num L1).natAbs := by rw [← cmp_neg, show -(((num L1).natAbs : Nat) : Int) = num L1 by omega, show -(((num L2).natAbs : Nat) : Int) = num L2 by omega]
  rw [hc]
  generalize cmpN ((num L2).natAbs : Int) (num L1).natAbs = C at *
  have CO := Lib.hid co2
  have CD1 := Lib.hid cd1
  have CD2 := Lib.hid cd2
  clear cd1 cd2 co co2 hc g1 g2
  generalize (num L1).natAbs = k at *
  generalize (num L2).natAbs = l at *
  go_enter Tryz.func63, Tryz.ntmps63
  go_wp2_with (first | (go_at_call 73; (first | (with_reducible refine (CV1.out _).mono ?_) | (with_reducible refine (CV2.out _).mono ?_)); rintro e w1 ⟨rfl, rfl⟩) | (go_at_call 107; (with_reducible refine (CD1.out _).mono ?_); rintro e w2 ⟨v1, rfl, n1, B1⟩) | (go_at_call 107; (with_reducible refine (CD2.out _).mono ?_); rintro e w3 ⟨v2, rfl, n2, b2⟩; have m1 := n1.below b2; have B2 := B1.trans (b2.mono B1.size); clear n1 b2) | (go_at_call 120; (with_reducible refine (CO.out _ _ _ m1 n2).mono ?_); rintro e w4 ⟨rfl, b3⟩; have B3 := B2.trans (b3.mono B2.size)))
  go_ret
  exact ⟨rfl, B3⟩
 ·
  rw [decide_eq_true g1] at cd1
  rw [decide_eq_false g2] at cd2
  have hc : cmpN (num L1) (num L2) = -1 := by rw [cmpN, if_pos (by omega)]
  rw [hc]
  have CD1 := Lib.hid cd1
  have CD2 := Lib.hid cd2
  clear cd1 cd2 co co2 hc g1 g2
  generalize (num L1).natAbs = k at *
  generalize (num L2).natAbs = l at *
  go_enter Tryz.func63, Tryz.ntmps63
  go_wp2_with (first | (go_at_call 73; (first | (with_reducible refine (CV1.out _).mono ?_) | (with_reducible refine (CV2.out _).mono ?_)); rintro e w1 ⟨rfl, rfl⟩) | (go_at_call 107; (with_reducible refine (CD1.out _).mono ?_); rintro e w2 ⟨v1, rfl, n1, B1⟩) | (go_at_call 107; (with_reducible refine (CD2.out _).mono ?_); rintro e w3 ⟨v2, rfl, n2, b2⟩; have m1 := n1.below b2; have B2 := B1.trans (b2.mono B1.size); clear n1 b2))
  go_ret
  exact ⟨rfl, B2⟩
 ·
  rw [decide_eq_false g1] at cd1
  rw [decide_eq_true g2] at cd2
  have hc : cmpN (num L1) (num L2) = 1 := by rw [cmpN, if_neg (by omega), if_pos (by omega)]
  rw [hc]
  have CD1 := Lib.hid cd1
  have CD2 := Lib.hid cd2
  clear cd1 cd2 co co2 hc g1 g2
  generalize (num L1).natAbs = k at *
  generalize (num L2).natAbs = l at *
  go_enter Tryz.func63, Tryz.ntmps63
  go_wp2_with (first | (go_at_call 73; (first | (with_reducible refine (CV1.out _).mono ?_) | (with_reducible refine (CV2.out _).mono ?_)); rintro e w1 ⟨rfl, rfl⟩) | (go_at_call 107; (with_reducible refine (CD1.out _).mono ?_); rintro e w2 ⟨v1, rfl, n1, B1⟩) | (go_at_call 107; (with_reducible refine (CD2.out _).mono ?_); rintro e w3 ⟨v2, rfl, n2, b2⟩; have m1 := n1.below b2; have B2 := B1.trans (b2.mono B1.size); clear n1 b2))
  go_ret
  exact ⟨rfl, B2⟩
 ·
  rw [decide_eq_false g1] at cd1
  rw [decide_eq_false g2] at cd2
  have hc : cmpN (num L1) (num L2) = cmpN ((num L1).natAbs : Int) (num L2).natAbs := by rw [show (((num L1).natAbs : Nat) : Int) = num L1 by omega, show (((num L2).natAbs : Nat) : Int) = num L2 by omega]
  rw [hc]
  generalize cmpN ((num L1).natAbs : Int) (num L2).natAbs = C at *
  have CO := Lib.hid co
  have CD1 := Lib.hid cd1
  have CD2 := Lib.hid cd2
  clear cd1 cd2 co co2 hc g1 g2
  generalize (num L1).natAbs = k at *
  generalize (num L2).natAbs = l at *
  go_enter Tryz.func63, Tryz.ntmps63
  go_wp2_with (first | (go_at_call 73; (first | (with_reducible refine (CV1.out _).mono ?_) | (with_reducible refine (CV2.out _).mono ?_)); rintro e w1 ⟨rfl, rfl⟩) | (go_at_call 107; (with_reducible refine (CD1.out _).mono ?_); rintro e w2 ⟨v1, rfl, n1, B1⟩) | (go_at_call 107; (with_reducible refine (CD2.out _).mono ?_); rintro e w3 ⟨v2, rfl, n2, b2⟩; have m1 := n1.below b2; have B2 := B1.trans (b2.mono B1.size); clear n1 b2) | (go_at_call 120; (with_reducible refine (CO.out _ _ _ m1 n2).mono ?_); rintro e w4 ⟨rfl, b3⟩; have B3 := B2.trans (b3.mono B2.size)))
  go_ret
  exact ⟨rfl, B3⟩
set_option maxRecDepth 100000 in
set_option maxHeartbeats 2000000 in
theorem rGcd_ok (s1 s2 : ByteArray) (L1 L2 : List UInt8) (w : World) (hL1 : s1.data.toList = L1) (hL2 : s2.data.toList = L2) (hl1 : vld L1 = true) (hl2 : vld L2 = true) :
  Calls Tryz.prog 74 #[.string s1, .string s2] w fun e w' => e = .returned (.tuple #[.string ⟨(rs (((Nat.gcd (num L1).natAbs (num L2).natAbs : Nat) : Int))).toArray⟩, .int .i64 (er (((Nat.gcd (num L1).natAbs (num L2).natAbs : Nat) : Int)))]) ∧ Below w.heap.size w w' := by
 have cv1 := fun W => rValid_any s1 L1 W hL1 (by have := (vld_digits hl1).2.2; omega)
 have cv2 := fun W => rValid_any s2 L2 W hL2 (by have := (vld_digits hl2).2.2; omega)
 rw [hl1] at cv1
 rw [hl2] at cv2
 have CV1 := Lib.hid cv1
 have CV2 := Lib.hid cv2
 have cd1 := fun W => digits_lit s1 L1 W hL1 hl1
 have cd2 := fun W => digits_lit s2 L2 W hL2 hl2
 have k1 := (vld_txt hl1).2
 have k2 := (vld_txt hl2).2
 obtain ⟨G, hG⟩ : ∃ G, Nat.gcd (num L1).natAbs (num L2).natAbs = G := ⟨_, rfl⟩
 rw [hG]
 have cc : ∀ W v, XSl W v G → Calls Tryz.prog 109 #[.bool false, v] W fun e w' => e = .returned (.tuple #[.string ⟨(rs (G : Int)).toArray⟩, .int .i64 (er (G : Int))]) ∧ Below W.heap.size W w' := fun W v h => by
  have hg := gcd_lt hl1 hl2
  rw [hG] at hg
  exact checked_any false G v W (Nat.le_trans (grpX_len hg) (by decide)) h
 have CC := Lib.hid cc
 have HG := Lib.hid hG
 have HK := Lib.hid (And.intro k1 k2)
 generalize (rs (G : Int)).toArray = R at *
 generalize er (G : Int) = E at *
 generalize decide (num L1 < 0) = x at *
 generalize decide (num L2 < 0) = y at *
 generalize (num L1).natAbs = k at *
 generalize (num L2).natAbs = l at *
 have CD1 := Lib.hid cd1
 have CD2 := Lib.hid cd2
 clear cv1 cv2 cd1 cd2 cc hL1 hL2 hl1 hl2 k1 k2 hG
 go_enter Tryz.func74, Tryz.ntmps74
 go_wp2_with (first | (go_at_call 73; (first | (with_reducible refine (CV1.out _).mono ?_) | (with_reducible refine (CV2.out _).mono ?_)); rintro e w1 ⟨rfl, rfl⟩) | (go_at_call 107; (with_reducible refine (CD1.out _).mono ?_); rintro e w2 ⟨v1, rfl, n1, B1⟩) | (go_at_call 107; (with_reducible refine (CD2.out _).mono ?_); rintro e w3 ⟨v2, rfl, n2, b2⟩; obtain ⟨a2, c2, rfl⟩ := n2.form; have m1 := n1.below b2; have B2 := B1.trans (b2.mono B1.size); have M := Lib.hid (And.intro m1 n2); clear n1 b2 m1 n2))
 go_loopw [7, 9] (fun kv lv wr => ∃ (a b : Nat) (ad : Option Addr) (cp : Nat), lv = .slice ad (grpX b).length cp ∧ Hid (XSl wr kv a) ∧ Hid (XSl wr lv b) ∧ Hid (a < 10 ^ 200 ∧ b < 10 ^ 200 ∧ Nat.gcd a b = G) ∧ Below w.heap.size w wr) (fun _ lv wr => xvOf wr lv)
 case atStart => exact ⟨k, l, _, _, rfl, Lib.hid M.out.1, Lib.hid M.out.2, Lib.hid ⟨HK.out.1, HK.out.2, HG.out⟩, B2⟩
 case round =>
  clear M HG HK B1 B2
  obtain ⟨a, b, ad, cp, rfl, h1, h2, hI, hB⟩ := hrel
  by_cases hb : b = 0
  ·
   subst hb
   have hg := hI.out.2.2
   rw [Nat.gcd_zero_right] at hg
   subst hg
   rw [grpX_zero] at h2 ⊢
   have CG := Lib.hid (CC.out wr _ h1.out)
   clear hI h1 h2 CC
   go_wp2_with (go_at_call 109; (with_reducible refine CG.out.mono ?_); rintro e w4 ⟨rfl, b3⟩; have B3 := hB.trans (b3.mono hB.size))
   go_ret2
   exact ⟨rfl, B3⟩
  ·
   have hz : 0 < (grpX b).length := (gx_len b 0).2 (by omega)
   have HX := Lib.hid (divided_any a b _ _ wr (by omega) (gx_le hI.out.1 (by decide)) (gx_le hI.out.2.1 (by decide)) h1.out h2.out)
   have HV := Lib.hid (xvOf_eq h2.out)
   have HN := Lib.hid (show a % b < b ∧ b < 10 ^ 200 ∧ Nat.gcd b (a % b) = G from ⟨Nat.mod_lt _ (by omega), hI.out.2.1, by rw [← hI.out.2.2, Nat.gcd_comm a b, Nat.gcd_rec b a, Nat.gcd_comm]⟩)
   clear hI h1 hb
   generalize (grpX b).length = z at *
   go_wp2_with (go_at_call 116; (with_reducible refine HX.out.mono ?_); rintro e w4 ⟨u1, u2, rfl, n1, n2, b3⟩; have B3 := hB.trans (b3.mono hB.size); have m2 := h2.out.below b3; obtain ⟨a3, c3, rfl⟩ := n2.form; have N2 := Lib.hid n2; clear HX n2)
   refine ⟨⟨b, a % b, _, _, rfl, Lib.hid m2, N2, Lib.hid ⟨HN.out.2.1, by have := HN.out; omega, HN.out.2.2⟩, B3⟩, ?_⟩
   rw [xvOf_eq N2.out, HV.out]; exact HN.out.1
theorem own_1 (W : World) : XSl (W.alloc (.cells #[.int .i64 1] 3)) (.slice (some ⟨W.heap.size, 0, none⟩) 1 1) 1 := own_XSl (own_one (Nat.le_refl _) 1) rfl (gx_of (fun y hy => by rw [List.mem_singleton.1 hy]; omega) (by simp [vlX]) (.inr (by decide)))
set_option maxRecDepth 100000 in
set_option maxHeartbeats 2000000 in
theorem rDiv_ok (s1 s2 : ByteArray) (L1 L2 : List UInt8) (w : World) (hL1 : s1.data.toList = L1) (hL2 : s2.data.toList = L2) (hl1 : vld L1 = true) (hl2 : vld L2 = true) (h0 : num L2 ≠ 0) :
  Calls Tryz.prog 62 #[.string s1, .string s2] w fun e w' => e = .returned (.tuple #[.string ⟨(txt (num L1 / num L2)).toArray⟩, .string ⟨(txt (num L1 % num L2)).toArray⟩, .int .i64 0]) ∧ Below w.heap.size w w' := by
 have cv1 := fun W => rValid_any s1 L1 W hL1 (by have := (vld_digits hl1).2.2; omega)
 have cv2 := fun W => rValid_any s2 L2 W hL2 (by have := (vld_digits hl2).2.2; omega)
 rw [hl1] at cv1
 rw [hl2] at cv2
 have CV1 := Lib.hid cv1
 have CV2 := Lib.hid cv2
 have cd1 := fun W => digits_lit s1 L1 W hL1 hl1
 have cd2 := fun W => digits_lit s2 L2 W hL2 hl2
 have k1 := (vld_txt hl1).2
 have k2 := (vld_txt hl2).2
 have ht1 : (s2.toList == [48]) = false := by
  rw [ByteArray.toList_eq, hL2, beq_eq_false_iff_ne]
  intro h
  rw [h] at h0
  exact h0 rfl
 have hl0 : 0 < (num L2).natAbs := by omega
 have hq9 : (num L1 / num L2).natAbs < 10 ^ 200 := by
  have h := Int.natAbs_ediv_le_natAbs (num L1) (num L2)
  omega
 have hr9 : (num L1 % num L2).natAbs < 10 ^ 200 := by
  have e1 := Int.emod_nonneg (num L1) h0
  have e3 := Int.emod_lt (num L1) h0
  omega
 have hr0 : 0 ≤ num L1 % num L2 := Int.emod_nonneg _ h0
 have cch : ∀ b m, mz b m = num L1 / num L2 → ∀ W v, XSl W v m → Calls Tryz.prog 109 #[.bool b, v] W fun e w' => e = .returned (.tuple #[.string ⟨(txt (num L1 / num L2)).toArray⟩, .int .i64 0]) ∧ Below W.heap.size W w' := fun b m hm W v h => by
  have hm9 : m < 10 ^ 200 := by have := mz_abs b m; rw [hm] at this; omega
  have h := checked_any b m v W (Nat.le_trans (grpX_len hm9) (by decide)) h
  rwa [hm, rs, er, if_pos hq9, if_pos hq9] at h
 have cte : ∀ m : Nat, (m : Int) = num L1 % num L2 → ∀ W v, XSl W v m → Calls Tryz.prog 119 #[.bool false, v] W fun e w' => e = .returned (.tuple #[.string ⟨(txt (num L1 % num L2)).toArray⟩, .bool (decide (m < 10 ^ 200))]) ∧ Below W.heap.size W w' := fun m hm W v h => by
  have hm9 : m < 10 ^ 200 := by omega
  have h := rtext_G false m v W (Nat.le_trans (grpX_len hm9) (by decide)) h
  rwa [show mz false m = num L1 % num L2 from hm] at h
 have cdv : ∀ W v1 v2, XSl W v1 (num L1).natAbs → XSl W v2 (num L2).natAbs → Calls Tryz.prog 116 #[v1, v2] W fun e w' => ∃ u1 ad cp, e = .returned (.tuple #[u1, .slice ad (grpX ((num L1).natAbs % (num L2).natAbs)).length cp]) ∧ XSl w' u1 ((num L1).natAbs / (num L2).natAbs) ∧ XSl w' (.slice ad (grpX ((num L1).natAbs % (num L2).natAbs)).length cp) ((num L1).natAbs % (num L2).natAbs) ∧ Below W.heap.size W w' := fun W v1 v2 h1 h2 => (divided_any _ _ v1 v2 W hl0 (gx_le k1 (by decide)) (gx_le k2 (by decide)) h1 h2).mono fun e w' ⟨u1, u2, he, n1, n2, b⟩ => by
  obtain ⟨a, c, rfl⟩ := n2.form
  exact ⟨u1, a, c, he, n1, n2, b⟩
 have e1 : num L1 = mz (decide (num L1 < 0)) (num L1).natAbs := mz_num _
 have e2 : num L2 = mz (decide (num L2 < 0)) (num L2).natAbs := mz_num _
 have hx0 : decide (num L1 < 0) = true → 0 < (num L1).natAbs := by intro h; have := of_decide_eq_true h; omega
 clear hL1 hL2 hl1 hl2 hq9 hr9 h0 cv1 cv2
 generalize hD : num L1 / num L2 = d at *
 generalize hM : num L1 % num L2 = m at *
 generalize decide (num L1 < 0) = x at *
 generalize decide (num L2 < 0) = y at *
 rw [e1, e2] at hD hM
 clear e1 e2
 generalize (num L1).natAbs = k at *
 generalize (num L2).natAbs = l at *
 generalize (txt d).toArray = TD at *
 generalize (txt m).toArray = TM at *
 have CD1 := Lib.hid cd1
 have CD2 := Lib.hid cd2
 have CDV := Lib.hid cdv
 have hrl : k % l < l := Nat.mod_lt _ hl0
 clear cd1 cd2 cdv
 have hdy : ∀ q r : Nat, mz x k / (l : Int) = mz x q → mz x k % (l : Int) = (r : Int) → ∀ b, b = (x != y) → mz b q = d ∧ (r : Int) = m := fun q r h1 h2 b hb => by
  subst hb
  cases y
  ·
   rw [Bool.bne_false]
   rw [show mz false l = (l : Int) from rfl] at hD hM
   exact ⟨h1.symm.trans hD, h2.symm.trans hM⟩
  ·
   rw [Bool.bne_true, mz_not]
   rw [show mz true l = -(l : Int) from rfl, Int.ediv_neg] at hD
   rw [show mz true l = -(l : Int) from rfl, Int.emod_neg] at hM
   exact ⟨by rw [← h1]; exact hD, h2.symm.trans hM⟩
 clear hD hM
 cases x
 ·
  have hf := hdy (k / l) (k % l) (by simp [mz]) (by simp [mz])
  have CC := Lib.hid (fun b hb => cch b (k / l) (hf b hb).1)
  have CT := Lib.hid (cte (k % l) (hf _ rfl).2)
  clear cch cte hdy hf hx0 hrl hl0
  generalize (grpX (k % l)).length = z at *
  cases y <;>
  (go_enter Tryz.func62, Tryz.ntmps62
   go_wp2_with (first | (go_at_call 73; (first | (with_reducible refine (CV1.out _).mono ?_) | (with_reducible refine (CV2.out _).mono ?_)); rintro e w1 ⟨rfl, rfl⟩) | (go_at_call 107; (with_reducible refine (CD1.out _).mono ?_); rintro e w2 ⟨v1, rfl, n1, B1⟩) | (go_at_call 107; (with_reducible refine (CD2.out _).mono ?_); rintro e w3 ⟨v2, rfl, n2, b2⟩; have m1 := n1.below b2; have B2 := B1.trans (b2.mono B1.size); clear n1 b2) | (go_at_call 116; (with_reducible refine (CDV.out _ _ _ m1 n2).mono ?_); rintro e w4 ⟨u1, ad, cp, rfl, p1, p2, b3⟩; have B3 := B2.trans (b3.mono B2.size); have m3 := n2.below b3; clear n2 m1 b3) | (go_at_call 109; (with_reducible refine (CC.out _ (by decide) _ _ p1).mono ?_); rintro e w5 ⟨rfl, b4⟩; have p3 := p2.below b4; have B4 := B3.trans (b4.mono B3.size)) | (go_at_call 119; (with_reducible refine (CT.out _ _ p3).mono ?_); rintro e w6 ⟨rfl, b5⟩; have B5 := B4.trans (b5.mono B4.size)))
   go_ret3
   exact ⟨rfl, B5⟩)
 ·
  by_cases hr : k % l = 0
  ·
   have hn := neg_div0 k l hl0 hr
   have hf := hdy (k / l) (k % l) (by simp only [mz, if_true]; exact hn.1) (by rw [hr]; simp only [mz, if_true]; exact hn.2)
   have CC := Lib.hid (fun b hb => cch b (k / l) (hf b hb).1)
   have ct := cte (k % l) (hf _ rfl).2
   rw [hr] at ct
   rw [hr, grpX_zero, List.length_nil] at CDV
   have CT := Lib.hid ct
   clear cch cte hdy hf hx0 hrl hl0 hn hr ct
   cases y <;>
   (go_enter Tryz.func62, Tryz.ntmps62
    go_wp2_with (first | (go_at_call 73; (first | (with_reducible refine (CV1.out _).mono ?_) | (with_reducible refine (CV2.out _).mono ?_)); rintro e w1 ⟨rfl, rfl⟩) | (go_at_call 107; (with_reducible refine (CD1.out _).mono ?_); rintro e w2 ⟨v1, rfl, n1, B1⟩) | (go_at_call 107; (with_reducible refine (CD2.out _).mono ?_); rintro e w3 ⟨v2, rfl, n2, b2⟩; have m1 := n1.below b2; have B2 := B1.trans (b2.mono B1.size); clear n1 b2) | (go_at_call 116; (with_reducible refine (CDV.out _ _ _ m1 n2).mono ?_); rintro e w4 ⟨u1, ad, cp, rfl, p1, p2, b3⟩; have B3 := B2.trans (b3.mono B2.size); have m3 := n2.below b3; clear n2 m1 b3) | (go_at_call 109; (with_reducible refine (CC.out _ (by decide) _ _ p1).mono ?_); rintro e w5 ⟨rfl, b4⟩; have p3 := p2.below b4; have B4 := B3.trans (b4.mono B3.size)) | (go_at_call 119; (with_reducible refine (CT.out _ _ p3).mono ?_); rintro e w6 ⟨rfl, b5⟩; have B5 := B4.trans (b5.mono B4.size)))
    go_ret3
    exact ⟨rfl, B5⟩)
  ·
   have hn := neg_div k l hl0 (by omega)
   have hf := hdy (k / l + 1) (l - k % l) (by simp only [mz, if_true]; exact hn.1) (by simp only [mz, if_true]; exact hn.2)
   have CC := Lib.hid (fun b hb => cch b (k / l + 1) (hf b hb).1)
   have CT := Lib.hid (cte (l - k % l) (hf _ rfl).2)
   have hz : 0 < (grpX (k % l)).length := (gx_len _ 0).2 (by omega)
   have CP := Lib.hid (show ∀ W u, XSl W u (k / l) → Calls Tryz.prog 117 #[u, .slice (some ⟨W.heap.size, 0, none⟩) 1 1] (W.alloc (.cells #[.int .i64 1] 3)) fun e w' => ∃ v, e = .returned v ∧ XSl w' v (k / l + 1) ∧ Below W.heap.size W w' from fun W u h => by
    have ha : Below W.heap.size W (W.alloc (.cells #[.int .i64 1] 3)) := below_alloc W _
    exact (rplus_any (k / l) 1 u _ _ (Nat.le_trans (gx_le (Nat.lt_of_le_of_lt (Nat.div_le_self _ _) k1) (by decide)) (by decide)) (Nat.le_trans (grpX_len (k := 1) (by decide)) (by decide)) (h.below ha) (own_1 W)).mono fun e w' ⟨v, a, b, c⟩ => ⟨v, a, b, ha.trans (c.mono ha.size)⟩)
   have CM := Lib.hid (show ∀ W u1 u2, XSl W u1 l → XSl W u2 (k % l) → Calls Tryz.prog 118 #[u1, u2] W fun e w' => ∃ v, e = .returned v ∧ XSl w' v (l - k % l) ∧ Below W.heap.size W w' from fun W u1 u2 h1 h2 => (rminus_any l (k % l) u1 u2 W (by omega) (Nat.le_trans (gx_le k2 (by decide)) (by decide)) h1 h2).mono fun e w' ⟨v, a, b, c, _⟩ => ⟨v, a, b, c⟩)
   clear cch cte hdy hf hx0 hrl hl0 hn hr k1 k2
   generalize (grpX (k % l)).length = z at *
   cases y <;>
   (go_enter Tryz.func62, Tryz.ntmps62
    go_wp2_with (first | (go_at_call 73; (first | (with_reducible refine (CV1.out _).mono ?_) | (with_reducible refine (CV2.out _).mono ?_)); rintro e w1 ⟨rfl, rfl⟩) | (go_at_call 107; (with_reducible refine (CD1.out _).mono ?_); rintro e w2 ⟨v1, rfl, n1, B1⟩) | (go_at_call 107; (with_reducible refine (CD2.out _).mono ?_); rintro e w3 ⟨v2, rfl, n2, b2⟩; have m1 := n1.below b2; have B2 := B1.trans (b2.mono B1.size); clear n1 b2) | (go_at_call 116; (with_reducible refine (CDV.out _ _ _ m1 n2).mono ?_); rintro e w4 ⟨u1, ad, cp, rfl, p1, p2, b3⟩; have B3 := B2.trans (b3.mono B2.size); have m3 := n2.below b3; clear n2 m1 b3) | (go_at_call 117; (with_reducible refine (CP.out _ _ p1).mono ?_); rintro e w7 ⟨u3, rfl, p4, b6⟩; have p5 := p2.below b6; have m4 := m3.below b6; have B6 := B3.trans (b6.mono B3.size); clear p1 p2 m3 b6) | (go_at_call 118; (with_reducible refine (CM.out _ _ _ m4 p5).mono ?_); rintro e w8 ⟨u4, rfl, p6, b7⟩; have p7 := p4.below b7; have B7 := B6.trans (b7.mono B6.size); clear p4 p5 m4 b7) | (go_at_call 109; (with_reducible refine (CC.out _ (by decide) _ _ p7).mono ?_); rintro e w5 ⟨rfl, b4⟩; have p8 := p6.below b4; have B4 := B7.trans (b4.mono B7.size)) | (go_at_call 119; (with_reducible refine (CT.out _ _ p8).mono ?_); rintro e w6 ⟨rfl, b5⟩; have B5 := B4.trans (b5.mono B4.size)))
    go_ret3
    exact ⟨rfl, B5⟩)
theorem mz_tmod (b : Bool) (q : Nat) : ((mz b q).tmod 10).natAbs = q % 10 ∧ (mz b q).tdiv 10 = mz b (q / 10) := by
 unfold mz
 cases b
 ·
  simp only [Bool.false_eq_true, if_false]
  exact ⟨by rw [Int.tmod_eq_emod_of_nonneg (by omega)]; omega, by rw [Int.tdiv_eq_ediv_of_nonneg (by omega)]; omega⟩
 ·
  simp only [if_true]
  exact ⟨by rw [Int.neg_tmod, Int.tmod_eq_emod_of_nonneg (by omega)]; omega, by rw [Int.neg_tdiv, Int.tdiv_eq_ediv_of_nonneg (by omega)]; omega⟩
theorem take_gx {N i : Nat} (h : i < (grpX N).length) : (grpX N).take (i + 1) = (grpX N).take i ++ [(((N / 10 ^ i) % 10 : Nat) : Int)] := by
 have hg := gx_get N i
 rw [if_pos ((gx_len N i).1 h)] at hg
 rw [List.take_add_one, hg]; rfl
set_option maxRecDepth 100000 in
set_option maxHeartbeats 2000000 in
theorem rFromInt_any (n : Int) (w : World) (h0 : -9223372036854775808 ≤ n) (h1 : n ≤ 9223372036854775807) :
  Calls Tryz.prog 77 #[.int .i64 n] w fun e w' => e = .returned (.string (S n)) ∧ Below w.heap.size w w' := by
 obtain ⟨i0, hi, hz0, hz1, hz2⟩ := info_parts info_int
 have HZ2 := Lib.hid hz2
 obtain ⟨N, hN⟩ : ∃ N, n.natAbs = N := ⟨_, rfl⟩
 have hnz := mz_num n
 rw [hN] at hnz
 have hN9 : N ≤ 9223372036854775808 := by omega
 have hK : (grpX N).length ≤ 20 := grpX_len (by omega)
 obtain ⟨K, hKe⟩ : ∃ K, (grpX N).length = K := ⟨_, rfl⟩
 rw [hKe] at hK
 have HK := Lib.hid hKe
 obtain ⟨b, hb⟩ : ∃ b, decide (n < 0) = b := ⟨_, rfl⟩
 rw [hb] at hnz
 have hrange : ∀ q, q ≤ N → -9223372036854775808 ≤ mz b q ∧ mz b q ≤ 9223372036854775807 := fun q hq => by
  unfold mz at hnz ⊢
  cases b <;> simp at hnz ⊢ <;> omega
 have HR := Lib.hid hrange
 have cT : ∀ W v, XSl W v N → Calls Tryz.prog 119 #[.bool (decide (n < 0)), v] W fun e w' => e = .returned (.tuple #[.string (S n), .bool (decide (N < 10 ^ 200))]) ∧ Below W.heap.size W w' := fun W v h => by
  have h := rtext_G b N v W (by rw [hKe]; omega) h
  rw [← hnz] at h
  rw [hb]; exact h
 have CT := Lib.hid cT
 have HNZ := Lib.hid hnz
 have HB := Lib.hid hb
 generalize S n = R at *
 clear hz2 hKe hnz hrange cT hN hb
 go_enter Tryz.func77, Tryz.ntmps77
 go_wp2
 go_loopw [3, 4] (fun lv mv wr => ∃ (i : Nat) (ad : Option Addr) (cp : Nat), i ≤ K ∧ lv = .slice ad i cp ∧ mv = .int .i64 (mz b (N / 10 ^ i)) ∧ Hid (wr.ownsRow w.heap.size 3 1 lv i (ints ((grpX N).take i))) ∧ Below w.heap.size w wr) (fun _ mv _ => (intOf mv).natAbs)
 case atStart => exact ⟨0, _, _, Nat.zero_le _, rfl, by rw [Nat.pow_zero, Nat.div_one, ← HNZ.out], Lib.hid ⟨rfl, .inl ⟨rfl, rfl⟩⟩, Below.refl _ _⟩
 case round =>
  obtain ⟨i, ad, cp, hi9, rfl, rfl, hO, hB⟩ := hrel
  obtain ⟨q, hq⟩ : ∃ q, N / 10 ^ i = q := ⟨_, rfl⟩
  have hqN : q ≤ N := by rw [← hq]; exact Nat.div_le_self _ _
  have hr := HR.out q hqN
  have hma := mz_abs b q
  have hmt := mz_tmod b q
  by_cases hiK : i < K
  ·
   have hq0 : 0 < q := by rw [← hq]; exact Nat.div_pos ((gx_len N i).1 (by rw [HK.out]; exact hiK)) (by exact Nat.pos_of_ne_zero (by simp))
   have hx : (N / 10 ^ i) % 10 = q % 10 := by rw [hq]
   have hq2 : N / 10 ^ (i + 1) = q / 10 := by rw [← hq, Nat.pow_succ, Nat.div_div_eq_div_mul]
   have htk := take_gx (N := N) (i := i) (by rw [HK.out]; exact hiK)
   rw [hq] at htk ⊢
   obtain ⟨x, hxe⟩ : ∃ x, q % 10 = x := ⟨_, rfl⟩
   have hx9 : x < 10 := by omega
   rw [hxe] at htk hmt
   have HM2 := Lib.hid (show mz b (q / 10) = mz b (N / 10 ^ (i + 1)) by rw [hq2])
   have hdec : (mz b (q / 10)).natAbs < q := by rw [mz_abs]; omega
   have hr2 := HR.out (q / 10) (by omega)
   obtain ⟨m2, hm2⟩ : ∃ m, mz b (q / 10) = m := ⟨_, rfl⟩
   rw [hm2] at hdec hr2 hmt HM2
   obtain ⟨m, hm⟩ : ∃ m, mz b q = m := ⟨_, rfl⟩
   rw [hm] at hma hr hmt ⊢
   obtain ⟨d, hd⟩ : ∃ d, m.tmod 10 = d := ⟨_, rfl⟩
   obtain ⟨hm1, hmd⟩ := hmt
   rw [hd] at hm1
   have q1 : (m == 0) = false := by rw [beq_eq_false_iff_ne]; omega
   have q2 : (m != 0) = true := by rw [bne, q1]; rfl
   have HO := Lib.hid (hO.out.alloc (.cells #[.int .i64 (x : Int)] 3))
   have HO3 := Lib.hid (show ∀ (w3 : World) (v3 : Value), w3.ownsRow w.heap.size 3 1 v3 (i + 1) (ints ((grpX N).take i) ++ [.int .i64 (x : Int)]) → w3.ownsRow w.heap.size 3 1 v3 (i + 1) (ints ((grpX N).take (i + 1))) from fun w3 v3 h => by rw [htk]; simpa [ints] using h)
   have HBA := Lib.hid (hB.alloc hB.size (.cells #[.int .i64 (x : Int)] 3))
   have HOB := Lib.hid (show ∀ q, (Value.slice ad i cp).ownBlock = some q → w.heap.size ≤ q from fun q hq => own_block hO.out hq)
   have hr20 := hr2.1
   have hr21 := hr2.2
   have hr0 := hr.1
   have hr1 := hr.2
   have hmq : (intOf (Value.int .i64 m)).natAbs = q := by rw [intOf]; exact hma
   clear hO hB htk hx hq2 hxe hq hr2 hr hm2 hm
   by_cases hd0 : d < 0
   ·
    have hdx : -d = (x : Int) := by omega
    go_wp2_with (at_builtin; go_loud (refine wpList_append_lies _ rfl (.tmp 19) (.tmp 21) 40 rfl w.heap.size 3 i0 (.int .i64 0) 1 8 Tryz.underlying40 hi hz0 hz1 HZ2.out rfl (by decide) (.slice ad i cp) _ _ rfl HO.out ⟨wr.heap.size, 0, none⟩ 1 1 [.int .i64 (x : Int)] rfl rfl (one_newJ wr _) (by intro u hu; simp at hu; subst hu; rfl) (by decide) (by unfold maxLen; omega) (by omega) HBA.out.size _ rfl ?_; intro g2 cap2 w3 hown3 hgrow _ _; have HOW := Lib.hid (HO3.out w3 _ hown3); have HB3 := Lib.hid (HBA.out.grown hgrow HBA.out.size (fun q hq => HOB.out q hq)); clear hown3 hgrow))
    exact ⟨⟨i + 1, _, _, by omega, rfl, by rw [HM2.out], HOW, HB3.out⟩, by rw [hmq]; simpa [intOf] using hdec⟩
   ·
    have hdx : d = (x : Int) := by omega
    subst hdx
    go_wp2_with (at_builtin; go_loud (refine wpList_append_lies _ rfl (.tmp 19) (.tmp 21) 40 rfl w.heap.size 3 i0 (.int .i64 0) 1 8 Tryz.underlying40 hi hz0 hz1 HZ2.out rfl (by decide) (.slice ad i cp) _ _ rfl HO.out ⟨wr.heap.size, 0, none⟩ 1 1 [.int .i64 (x : Int)] rfl rfl (one_newJ wr _) (by intro u hu; simp at hu; subst hu; rfl) (by decide) (by unfold maxLen; omega) (by omega) HBA.out.size _ rfl ?_; intro g2 cap2 w3 hown3 hgrow _ _; have HOW := Lib.hid (HO3.out w3 _ hown3); have HB3 := Lib.hid (HBA.out.grown hgrow HBA.out.size (fun q hq => HOB.out q hq)); clear hown3 hgrow))
    exact ⟨⟨i + 1, _, _, by omega, rfl, by rw [HM2.out], HOW, HB3.out⟩, by rw [hmq]; simpa [intOf] using hdec⟩
  ·
   obtain rfl : i = K := by omega
   have hq0 : q = 0 := by rw [← hq]; exact gx_end (by rw [HK.out]; exact Nat.le_refl _)
   subst hq0
   have hO2 := hO.out
   rw [List.take_of_length_le (by rw [HK.out]; exact Nat.le_refl _)] at hO2
   have HX := Lib.hid (own_XSl hO2 HK.out rfl)
   rw [hq, mz_zero]
   clear hO hO2 hq hr hma hmt
   go_wp2_with (go_at_call 119; go_loud ((with_reducible refine (CT.out _ _ HX.out).mono ?_); rintro e w2 ⟨rfl, b2⟩))
   go_ret
   exact ⟨rfl, hB.trans (b2.mono hB.size)⟩
def SB (W : World) (g : Nat) (x y : ByteArray) : Prop := g < W.heap.size ∧ W.cell? ⟨g, 0, none⟩ = some (.string x) ∧ W.cell? ⟨g, 1, none⟩ = some (.string y)
theorem SB.keep {W W' : World} {g : Nat} {x y : ByteArray} (h : SB W g x y) (hb : Below W.heap.size W W') : SB W' g x y :=
 ⟨Nat.lt_of_lt_of_le h.1 hb.size, (hb.cell (p := ⟨g, 0, none⟩) h.1).trans h.2.1, (hb.cell (p := ⟨g, 1, none⟩) h.1).trans h.2.2⟩
theorem SB.new (W : World) (x y : ByteArray) (t : TypeId) : SB (W.alloc (.cells #[.string x, .string y] t)) W.heap.size x y :=
 ⟨by rw [World.size_alloc]; omega, by rw [World.cell?, Go.heap_alloc_new]; rfl, by rw [World.cell?, Go.heap_alloc_new]; rfl⟩
def vR (L1 L2 : List UInt8) : Bool := vld L1 && vld L2 && decide (0 < num L2) && decide (Nat.gcd (num L1).natAbs (num L2).natAbs = 1)
theorem S1_tl (a : Int) : ((S a).toList == [49]) = decide (a = 1) := by
 rw [ByteArray.toList_eq, S_list, show ([49] : List UInt8) = txt 1 by rw [← S_list, S_one]]
 by_cases h : a = 1
 ·
  subst h; simp
 ·
  rw [decide_eq_false h, beq_eq_false_iff_ne]
  exact fun e => h (txt_inj e)
theorem cmp_z (s : ByteArray) (L : List UInt8) (w : World) (hL : s.data.toList = L) (hv : vld L = true) :
  Calls Tryz.prog 63 #[.string s, .string ⟨#[48]⟩] w fun e w' => e = .returned (.int .i64 (cmpN (num L) 0)) ∧ Below w.heap.size w w' := by
 have h := rCompare_ok s ⟨#[48]⟩ L [48] w hL rfl hv (by decide)
 rwa [show num [48] = 0 by decide] at h
theorem gcd_S (s1 s2 : ByteArray) (L1 L2 : List UInt8) (w : World) (hL1 : s1.data.toList = L1) (hL2 : s2.data.toList = L2) (hl1 : vld L1 = true) (hl2 : vld L2 = true) :
  Calls Tryz.prog 74 #[.string s1, .string s2] w fun e w' => e = .returned (.tuple #[.string (S ((Nat.gcd (num L1).natAbs (num L2).natAbs : Nat) : Int)), .int .i64 0]) ∧ Below w.heap.size w w' := by
 have h := rGcd_ok s1 s2 L1 L2 w hL1 hL2 hl1 hl2
 have hg := gcd_lt hl1 hl2
 rw [rs, er, Int.natAbs_natCast, if_pos hg, if_pos hg] at h
 exact h
set_option maxRecDepth 100000 in
set_option maxHeartbeats 2000000 in
theorem v4Valid_any (s1 s2 : ByteArray) (L1 L2 : List UInt8) (w : World) (hL1 : s1.data.toList = L1) (hL2 : s2.data.toList = L2) (hl1 : L1.length ≤ 60000) (hl2 : L2.length ≤ 60000) :
  Calls Tryz.prog 31 #[.agg #[.string s1, .string s2]] w fun e w' => e = .returned (.bool (vR L1 L2)) ∧ Below w.heap.size w w' := by
 have cv1 := fun W => rValid_any s1 L1 W hL1 hl1
 have cv2 := fun W => rValid_any s2 L2 W hL2 hl2
 have sb := SB.new w s1 s2 23
 have HB := Lib.hid (below_alloc w (.cells #[.string s1, .string s2] 23))
 have e0 := sb.2.1
 have e1 := sb.2.2
 have HS := Lib.hid sb
 clear sb
 cases b1 : vld L1
 ·
  rw [vR, b1, Bool.false_and, Bool.false_and, Bool.false_and]
  rw [b1] at cv1
  have CV1 := Lib.hid cv1
  have CV2 := Lib.hid cv2
  clear cv1 cv2 hL1 hL2 hl1 hl2 b1
  go_enter Tryz.func31, Tryz.ntmps31
  go_wp2_with ((go_at_call 73; (first | (with_reducible refine (CV1.out _).mono ?_) | (with_reducible refine (CV2.out _).mono ?_)); rintro e w1 ⟨rfl, rfl⟩))
  go_ret
  exact ⟨rfl, HB.out⟩
 ·
  cases b2 : vld L2
  ·
   rw [vR, b1, b2, Bool.and_false, Bool.false_and, Bool.false_and]
   rw [b1] at cv1
   rw [b2] at cv2
   have CV1 := Lib.hid cv1
   have CV2 := Lib.hid cv2
   clear cv1 cv2 hL1 hL2 hl1 hl2 b1 b2
   go_enter Tryz.func31, Tryz.ntmps31
   go_wp2_with ((go_at_call 73; (first | (with_reducible refine (CV1.out _).mono ?_) | (with_reducible refine (CV2.out _).mono ?_)); rintro e w1 ⟨rfl, rfl⟩))
   go_ret
   exact ⟨rfl, HB.out⟩
  ·
   have cc := fun W => cmp_z s2 L2 W hL2 b2
   have cg := fun W => gcd_S s1 s2 L1 L2 W hL1 hL2 b1 b2
   rw [b1] at cv1
   rw [b2] at cv2
   rw [vR, b1, b2, Bool.and_true, Bool.true_and]
   have CV1 := Lib.hid cv1
   have CV2 := Lib.hid cv2
   clear cv1 cv2 hL1 hL2 hl1 hl2 b1 b2
   by_cases hp : 0 < num L2
   ·
    rw [decide_eq_true hp, Bool.true_and]
    rw [show cmpN (num L2) 0 = 1 by rw [cmpN, if_neg (by omega), if_pos hp]] at cc
    have hq := S1_tl ((Nat.gcd (num L1).natAbs (num L2).natAbs : Nat) : Int)
    have hd : decide (((Nat.gcd (num L1).natAbs (num L2).natAbs : Nat) : Int) = 1) = decide (Nat.gcd (num L1).natAbs (num L2).natAbs = 1) := by rw [decide_eq_decide]; omega
    rw [hd] at hq
    generalize decide (Nat.gcd (num L1).natAbs (num L2).natAbs = 1) = B at *
    generalize S ((Nat.gcd (num L1).natAbs (num L2).natAbs : Nat) : Int) = g at *
    have CC := Lib.hid cc
    have CG := Lib.hid cg
    clear cc cg hd hp
    go_enter Tryz.func31, Tryz.ntmps31
    go_wp2_with (first | (go_at_call 73; (first | (with_reducible refine (CV1.out _).mono ?_) | (with_reducible refine (CV2.out _).mono ?_)); rintro e w1 ⟨rfl, rfl⟩) | (go_at_call 63; (with_reducible refine (CC.out _).mono ?_); rintro e w2 ⟨rfl, B2⟩; have sb := HS.out.keep B2; have f0 := sb.2.1; have f1 := sb.2.2; have HB2 := Lib.hid (HB.out.trans (B2.mono HB.out.size)); clear sb B2) | (go_at_call 74; (with_reducible refine (CG.out _).mono ?_); rintro e w3 ⟨rfl, B3⟩; have HB3 := Lib.hid (HB2.out.trans (B3.mono HB2.out.size)); clear B3))
    go_ret
    exact ⟨by rw [← hq]; rfl, HB3.out⟩
   ·
    rw [decide_eq_false hp, Bool.false_and]
    have hc : cmpN (num L2) 0 ≤ 0 := by rw [cmpN]; split <;> (try split) <;> omega
    generalize cmpN (num L2) 0 = z at *
    have CC := Lib.hid cc
    clear cc cg hp
    go_enter Tryz.func31, Tryz.ntmps31
    go_wp2_with (first | (go_at_call 73; (first | (with_reducible refine (CV1.out _).mono ?_) | (with_reducible refine (CV2.out _).mono ?_)); rintro e w1 ⟨rfl, rfl⟩) | (go_at_call 63; (with_reducible refine (CC.out _).mono ?_); rintro e w2 ⟨rfl, B2⟩; have HB2 := Lib.hid (HB.out.trans (B2.mono HB.out.size)); clear B2))
    go_ret
    exact ⟨rfl, HB2.out⟩
def RBlk (w : World) (g : Nat) (x y : Value) : Prop := w.heap[g]? = some (.cells #[x, y] 23 (0, 0))
theorem RBlk.lt {w : World} {g : Nat} {x y : Value} (h : RBlk w g x y) : g < w.heap.size := (Array.getElem?_eq_some_iff.1 h).1
theorem RBlk.keep {w w' : World} {n g : Nat} {x y : Value} (h : RBlk w g x y) (hb : Below n w w') (hg : g < n) : RBlk w' g x y := (hb.block g hg).trans h
theorem RBlk.c0 {w : World} {g : Nat} {x y : Value} (h : RBlk w g x y) : w.cell? ⟨g, 0, none⟩ = some x := by rw [World.cell?, h]; rfl
theorem RBlk.c1 {w : World} {g : Nat} {x y : Value} (h : RBlk w g x y) : w.cell? ⟨g, 1, none⟩ = some y := by rw [World.cell?, h]; rfl
theorem RBlk.f {w : World} {g : Nat} {x y : Value} (h : RBlk w g x y) (j : Nat) : w.frozen? ⟨g, j, none⟩ = false := by rw [World.frozen?, h]; simp
theorem RBlk.s0 {w : World} {g : Nat} {x y : Value} (h : RBlk w g x y) (v : Value) : RBlk (w.setCell ⟨g, 0, none⟩ v) g v y := by
 rw [RBlk, heap_setCell_same w g 0 _ _ v h]; rfl
theorem RBlk.s1 {w : World} {g : Nat} {x y : Value} (h : RBlk w g x y) (v : Value) : RBlk (w.setCell ⟨g, 1, none⟩ v) g x v := by
 rw [RBlk, heap_setCell_same w g 1 _ _ v h]; rfl
theorem RBlk.new (w : World) (x y : Value) : RBlk (w.alloc (.cells #[x, y] 23)) w.heap.size x y := Go.heap_alloc_new w _
theorem info_ratio : (Tryz.prog.info? 23).map (·.size) = some 2 := by kernel_rfl
theorem ratio_yields {w : World} {g : Nat} {x y : Value} (h : RBlk w g x y) : (loadVar 23 ⟨g, 0, none⟩).run Tryz.prog w = .ok (.agg #[x, y]) w :=
 run_loadVar_row w g _ _ _ _ _ h Tryz.underlying23 rfl info_ratio
theorem results_ratio {fn : Func} {p u : Tmp} (h : fn.results = #[.cell p 23, .tmp u]) (tmps : Array Value) (w : World) (g : Nat) (x y : Value)
  (hp : tmps.getD p undef = .pointer (some ⟨g, 0, none⟩)) (hg : RBlk w g x y) :
  (results fn tmps).run Tryz.prog w = .ok (.tuple #[.agg #[x, y], tmps.getD u undef]) w := by
 have hp' : tmps[p]?.getD undef = .pointer (some ⟨g, 0, none⟩) := by simpa using hp
 simp [results, h, hp', asAddr, ratio_yields hg]
set_option maxRecDepth 100000 in
set_option maxHeartbeats 2000000 in
theorem v4Make_no (s1 s2 : ByteArray) (L1 L2 : List UInt8) (w : World) (hL1 : s1.data.toList = L1) (hL2 : s2.data.toList = L2) (hl1 : L1.length ≤ 60000) (hl2 : L2.length ≤ 60000) (hv : (vld L1 && vld L2) = true → num L2 = 0) :
  Calls Tryz.prog 29 #[.string s1, .string s2] w fun e w' => e = .returned (.tuple #[.agg #[.string ⟨#[]⟩, .string ⟨#[]⟩], .int .i64 40]) ∧ Below w.heap.size w w' := by
 have cv1 := fun W => rValid_any s1 L1 W hL1 hl1
 have cv2 := fun W => rValid_any s2 L2 W hL2 hl2
 have hr := RBlk.new w (.string ⟨#[]⟩) (.string ⟨#[]⟩)
 have c0 := hr.c0
 have c1 := hr.c1
 have f0 := hr.f 0
 have f1 := hr.f 1
 have HR := Lib.hid hr
 have HB := Lib.hid (below_alloc w (.cells #[.string ⟨#[]⟩, .string ⟨#[]⟩] 23))
 have CV1 := Lib.hid cv1
 have CV2 := Lib.hid cv2
 have ht : (vld L1 && vld L2) = true → (s2.toList == [48]) = true := fun h => by
  have h0 := hv h
  have := txt_lit ((Bool.and_eq_true _ _).mp h).2
  rw [h0] at this
  rw [ByteArray.toList_eq, hL2, ← this]; rfl
 clear hr cv1 cv2 hL1 hL2 hl1 hl2 hv
 cases b1 : vld L1 <;> cases b2 : vld L2 <;> rw [b1] at CV1 <;> rw [b2] at CV2 <;> rw [b1, b2] at ht
 all_goals
  have ht2 := ht
  clear ht
  (try have ht3 := ht2 rfl)
  clear ht2 b1 b2
  go_enter Tryz.func29, Tryz.ntmps29
  go_wp2_with ((go_at_call 73; (first | (with_reducible refine (CV1.out _).mono ?_) | (with_reducible refine (CV2.out _).mono ?_)); rintro e w1 ⟨rfl, rfl⟩))
  refine bodyPost_ret (results_ratio rfl _ _ w.heap.size _ _ rfl HR.out) rfl ?_
  exact ⟨rfl, HB.out⟩
theorem sub0 (s : ByteArray) (L : List UInt8) (w : World) (hL : s.data.toList = L) (hv : vld L = true) :
  Calls Tryz.prog 58 #[.string ⟨#[48]⟩, .string s] w fun e w' => e = .returned (.tuple #[.string (S (-num L)), .int .i64 0]) ∧ Below w.heap.size w w' := by
 have h := rSub_ok ⟨#[48]⟩ s [48] L w rfl hL (by decide) hv
 have hz := (vld_txt hv).2
 rw [show num [48] - num L = -num L by rw [show num [48] = 0 by decide]; omega, rs, er, Int.natAbs_neg, if_pos hz, if_pos hz] at h
 exact h
theorem div_g (s : ByteArray) (L : List UInt8) (g : Nat) (w : World) (hL : s.data.toList = L) (hv : vld L = true) (hg : 0 < g) (hg9 : g < 10 ^ 200) :
  Calls Tryz.prog 62 #[.string s, .string (S (g : Int))] w fun e w' => e = .returned (.tuple #[.string (S (num L / g)), .string (S (num L % g)), .int .i64 0]) ∧ Below w.heap.size w w' := by
 have h := rDiv_ok s (S (g : Int)) L (txt (g : Int)) w hL (S_list _) hv (txt_vld (by omega)) (by rw [txt_num]; omega)
 rw [txt_num] at h
 exact h
set_option maxRecDepth 100000 in
set_option maxHeartbeats 2000000 in
theorem v4Make_ok (s1 s2 : ByteArray) (L1 L2 : List UInt8) (w : World) (hL1 : s1.data.toList = L1) (hL2 : s2.data.toList = L2) (hl1 : vld L1 = true) (hl2 : vld L2 = true) (h0 : num L2 ≠ 0) :
  Calls Tryz.prog 29 #[.string s1, .string s2] w fun e w' => e = .returned (.tuple #[.agg #[.string (S ((if num L2 < 0 then -num L1 else num L1) / (Nat.gcd (num L1).natAbs (num L2).natAbs : Nat))), .string (S ((if num L2 < 0 then -num L2 else num L2) / (Nat.gcd (num L1).natAbs (num L2).natAbs : Nat)))], .int .i64 0]) ∧ Below w.heap.size w w' := by
 have cv1 := fun W => rValid_any s1 L1 W hL1 (by have := (vld_digits hl1).2.2; omega)
 have cv2 := fun W => rValid_any s2 L2 W hL2 (by have := (vld_digits hl2).2.2; omega)
 rw [hl1] at cv1
 rw [hl2] at cv2
 have CV1 := Lib.hid cv1
 have CV2 := Lib.hid cv2
 have cc := fun W => cmp_z s2 L2 W hL2 hl2
 have HR := Lib.hid (RBlk.new w (.string ⟨#[]⟩) (.string ⟨#[]⟩))
 have HB := Lib.hid (below_alloc w (.cells #[.string ⟨#[]⟩, .string ⟨#[]⟩] 23))
 have ht1 : (s2.toList == [48]) = false := by
  rw [ByteArray.toList_eq, hL2, beq_eq_false_iff_ne]
  intro h
  rw [h] at h0
  exact h0 rfl
 have hg9 := gcd_lt hl1 hl2
 have hg0 : 0 < Nat.gcd (num L1).natAbs (num L2).natAbs := Nat.gcd_pos_of_pos_right _ (by omega)
 by_cases hneg : num L2 < 0
 ·
  rw [if_pos hneg, if_pos hneg]
  rw [show cmpN (num L2) 0 = -1 by rw [cmpN, if_pos hneg]] at cc
  have k1 := (vld_txt hl1).2
  have k2 := (vld_txt hl2).2
  have cs1 := fun W => sub0 s1 L1 W hL1 hl1
  have cs2 := fun W => sub0 s2 L2 W hL2 hl2
  have cg := fun W => gcd_S (S (-num L1)) (S (-num L2)) (txt (-num L1)) (txt (-num L2)) W (S_list _) (S_list _) (txt_vld (by omega)) (txt_vld (by omega))
  rw [txt_num, txt_num, Int.natAbs_neg, Int.natAbs_neg] at cg
  have ca := fun W => div_g (S (-num L1)) (txt (-num L1)) _ W (S_list _) (txt_vld (by omega)) hg0 hg9
  have cb := fun W => div_g (S (-num L2)) (txt (-num L2)) _ W (S_list _) (txt_vld (by omega)) hg0 hg9
  rw [txt_num] at ca cb
  generalize Nat.gcd (num L1).natAbs (num L2).natAbs = g at *
  generalize S (-num L1 % (g : Int)) = y1 at *
  generalize S (-num L2 % (g : Int)) = y2 at *
  generalize S (-num L1 / (g : Int)) = x1 at *
  generalize S (-num L2 / (g : Int)) = x2 at *
  generalize S (-num L1) = a1 at *
  generalize S (-num L2) = a2 at *
  generalize S (g : Int) = gs at *
  have CC := Lib.hid cc
  have CS1 := Lib.hid cs1
  have CS2 := Lib.hid cs2
  have CG := Lib.hid cg
  have CA := Lib.hid ca
  have CB := Lib.hid cb
  clear cv1 cv2 cc cs1 cs2 cg ca cb hL1 hL2 hl1 hl2 hg9 hg0 hneg h0 k1 k2
  go_enter Tryz.func29, Tryz.ntmps29
  go_wp2_with (first | (go_at_call 73; (first | (with_reducible refine (CV1.out _).mono ?_) | (with_reducible refine (CV2.out _).mono ?_)); rintro e w1 ⟨rfl, rfl⟩) | (go_at_call 63; (with_reducible refine (CC.out _).mono ?_); rintro e W ⟨rfl, B⟩; have hr := HR.out.keep B HR.out.lt; have hb := HB.out.trans (B.mono HB.out.size); clear HR HB B; have HR := Lib.hid hr; have HB := Lib.hid hb; clear hr hb) | (go_at_call 58; (with_reducible refine (CS1.out _).mono ?_); rintro e W ⟨rfl, B⟩; have hr := HR.out.keep B HR.out.lt; have hb := HB.out.trans (B.mono HB.out.size); clear HR HB B; have HR := Lib.hid hr; have HB := Lib.hid hb; clear hr hb) | (go_at_call 58; (with_reducible refine (CS2.out _).mono ?_); rintro e W ⟨rfl, B⟩; have hr := HR.out.keep B HR.out.lt; have hb := HB.out.trans (B.mono HB.out.size); clear HR HB B; have HR := Lib.hid hr; have HB := Lib.hid hb; clear hr hb) | (go_at_call 74; (with_reducible refine (CG.out _).mono ?_); rintro e W ⟨rfl, B⟩; have hr := HR.out.keep B HR.out.lt; have hb := HB.out.trans (B.mono HB.out.size); clear HR HB B; have HR := Lib.hid hr; have HB := Lib.hid hb; clear hr hb) | (go_at_call 62; (with_reducible refine (CA.out _).mono ?_); rintro e W ⟨rfl, B⟩; have hr := HR.out.keep B HR.out.lt; have hb := HB.out.trans (B.mono HB.out.size); clear HR HB B; have HR := Lib.hid hr; have HB := Lib.hid hb; clear hr hb) | (go_at_call 62; (with_reducible refine (CB.out _).mono ?_); rintro e W ⟨rfl, B⟩; have hr := HR.out.keep B HR.out.lt; have hb := HB.out.trans (B.mono HB.out.size); clear HR HB B; have HR := Lib.hid hr; have HB := Lib.hid hb; have c0 := hr.c0; have c1 := hr.c1; have f0 := hr.f 0; have f1 := hr.f 1; have hs := hr.s0 (.string x1); have d1 := hs.c1; have g1 := hs.f 1; have HS := Lib.hid (hs.s1 (.string x2)); have HBS := Lib.hid ((hb.setCell (p := ⟨w.heap.size, 0, none⟩) (Nat.le_refl _) (.string x1)).setCell (p := ⟨w.heap.size, 1, none⟩) (Nat.le_refl _) (.string x2)); clear hr hb hs))
  refine bodyPost_ret (results_ratio rfl _ _ w.heap.size _ _ rfl HS.out) rfl ?_
  exact ⟨rfl, HBS.out⟩
 ·
  rw [if_neg hneg, if_neg hneg]
  rw [show cmpN (num L2) 0 = 1 by rw [cmpN, if_neg hneg, if_pos (by omega)]] at cc
  have cg := fun W => gcd_S s1 s2 L1 L2 W hL1 hL2 hl1 hl2
  have ca := fun W => div_g s1 L1 _ W hL1 hl1 hg0 hg9
  have cb := fun W => div_g s2 L2 _ W hL2 hl2 hg0 hg9
  generalize Nat.gcd (num L1).natAbs (num L2).natAbs = g at *
  generalize S (num L1 % (g : Int)) = y1 at *
  generalize S (num L2 % (g : Int)) = y2 at *
  generalize S (num L1 / (g : Int)) = x1 at *
  generalize S (num L2 / (g : Int)) = x2 at *
  generalize S (g : Int) = gs at *
  have CC := Lib.hid cc
  have CG := Lib.hid cg
  have CA := Lib.hid ca
  have CB := Lib.hid cb
  clear cv1 cv2 cc cg ca cb hL1 hL2 hl1 hl2 hg9 hg0 hneg h0
  go_enter Tryz.func29, Tryz.ntmps29
  go_wp2_with (first | (go_at_call 73; (first | (with_reducible refine (CV1.out _).mono ?_) | (with_reducible refine (CV2.out _).mono ?_)); rintro e w1 ⟨rfl, rfl⟩) | (go_at_call 63; (with_reducible refine (CC.out _).mono ?_); rintro e W ⟨rfl, B⟩; have hr := HR.out.keep B HR.out.lt; have hb := HB.out.trans (B.mono HB.out.size); clear HR HB B; have HR := Lib.hid hr; have HB := Lib.hid hb; clear hr hb) | (go_at_call 74; (with_reducible refine (CG.out _).mono ?_); rintro e W ⟨rfl, B⟩; have hr := HR.out.keep B HR.out.lt; have hb := HB.out.trans (B.mono HB.out.size); clear HR HB B; have HR := Lib.hid hr; have HB := Lib.hid hb; clear hr hb) | (go_at_call 62; (with_reducible refine (CA.out _).mono ?_); rintro e W ⟨rfl, B⟩; have hr := HR.out.keep B HR.out.lt; have hb := HB.out.trans (B.mono HB.out.size); clear HR HB B; have HR := Lib.hid hr; have HB := Lib.hid hb; clear hr hb) | (go_at_call 62; (with_reducible refine (CB.out _).mono ?_); rintro e W ⟨rfl, B⟩; have hr := HR.out.keep B HR.out.lt; have hb := HB.out.trans (B.mono HB.out.size); clear HR HB B; have HR := Lib.hid hr; have HB := Lib.hid hb; have c0 := hr.c0; have c1 := hr.c1; have f0 := hr.f 0; have f1 := hr.f 1; have hs := hr.s0 (.string x1); have d1 := hs.c1; have g1 := hs.f 1; have HS := Lib.hid (hs.s1 (.string x2)); have HBS := Lib.hid ((hb.setCell (p := ⟨w.heap.size, 0, none⟩) (Nat.le_refl _) (.string x1)).setCell (p := ⟨w.heap.size, 1, none⟩) (Nat.le_refl _) (.string x2)); clear hr hb hs))
  refine bodyPost_ret (results_ratio rfl _ _ w.heap.size _ _ rfl HS.out) rfl ?_
  exact ⟨rfl, HBS.out⟩
theorem results_four {fn : Func} {t u v x : Tmp} (h : fn.results = #[.tmp t, .tmp u, .tmp v, .tmp x]) (tmps : Array Value) (w : World) :
  (results fn tmps).run Tryz.prog w = .ok (.tuple #[tmps.getD t undef, tmps.getD u undef, tmps.getD v undef, tmps.getD x undef]) w := by
 simp [results, h]
theorem RBlk.alloc {w : World} {g : Nat} {x y : Value} (h : RBlk w g x y) (o : Obj) : RBlk (w.alloc o) g x y := (Go.heap_alloc_old _ _ h.lt).trans h
theorem two_ratios (w : World) (x1 y1 x2 y2 : Value) :
  RBlk ((w.alloc (.cells #[x1, y1] 23)).alloc (.cells #[x2, y2] 23)) w.heap.size x1 y1 ∧ RBlk ((w.alloc (.cells #[x1, y1] 23)).alloc (.cells #[x2, y2] 23)) (w.heap.size + 1) x2 y2 := by
 refine ⟨(RBlk.new w x1 y1).alloc _, ?_⟩
 have h := RBlk.new (w.alloc (.cells #[x1, y1] 23)) x2 y2
 rwa [World.size_alloc] at h
theorem vR_parts {L1 L2 : List UInt8} (h : vR L1 L2 = true) : vld L1 = true ∧ vld L2 = true ∧ 0 < num L2 ∧ Nat.gcd (num L1).natAbs (num L2).natAbs = 1 := by
 unfold vR at h
 simpa [and_assoc] using h
theorem mul_any (s1 s2 : ByteArray) (L1 L2 : List UInt8) (w : World) (hL1 : s1.data.toList = L1) (hL2 : s2.data.toList = L2) (hl1 : vld L1 = true) (hl2 : vld L2 = true) :
  Calls Tryz.prog 59 #[.string s1, .string s2] w fun e w' => e = .returned (.tuple #[.string ⟨(rs (num L1 * num L2)).toArray⟩, .int .i64 (er (num L1 * num L2))]) ∧ Below w.heap.size w w' := rMul_ok s1 s2 L1 L2 w hL1 hL2 hl1 hl2
theorem er_or (z : Int) : (er z = 0 ∧ decide (z.natAbs < 10 ^ 200) = true) ∨ (er z = 30 ∧ decide (z.natAbs < 10 ^ 200) = false) := by
 unfold er
 by_cases h : z.natAbs < 10 ^ 200
 ·
  exact .inl ⟨if_pos h, decide_eq_true h⟩
 ·
  exact .inr ⟨if_neg h, decide_eq_false h⟩
variable (s1 s2 s3 s4 : ByteArray) (L1 L2 L3 L4 : List UInt8) (w : World) (hL1 : s1.data.toList = L1) (hL2 : s2.data.toList = L2) (hL3 : s3.data.toList = L3) (hL4 : s4.data.toList = L4) (hl1 : L1.length ≤ 60000) (hl2 : L2.length ≤ 60000) (hl3 : L3.length ≤ 60000) (hl4 : L4.length ≤ 60000)
include hL1 hL2 hL3 hL4 hl1 hl2 hl3 hl4
set_option maxRecDepth 100000 in
set_option maxHeartbeats 2000000 in
theorem v4cross_no (hv : (vR L1 L2 && vR L3 L4) = false) :
  Calls Tryz.prog 56 #[.agg #[.string s1, .string s2], .agg #[.string s3, .string s4]] w fun e w' => e = .returned (.tuple #[.string ⟨#[]⟩, .string ⟨#[]⟩, .string ⟨#[]⟩, .bool false]) ∧ Below w.heap.size w w' := by
 have c1 := fun W => v4Valid_any s1 s2 L1 L2 W hL1 hL2 hl1 hl2
 have c2 := fun W => v4Valid_any s3 s4 L3 L4 W hL3 hL4 hl3 hl4
 obtain ⟨r1, r2⟩ := two_ratios w (.string s1) (.string s2) (.string s3) (.string s4)
 have HB := Lib.hid ((below_alloc w (.cells #[.string s1, .string s2] 23)).alloc (by rw [World.size_alloc]; omega) (.cells #[.string s3, .string s4] 23))
 have HR := Lib.hid (And.intro r1 r2)
 generalize vR L1 L2 = v1 at *
 generalize vR L3 L4 = v2 at *
 have C1 := Lib.hid c1
 have C2 := Lib.hid c2
 clear hL1 hL2 hL3 hL4 hl1 hl2 hl3 hl4 c1 c2 r1 r2
 cases v1 <;> cases v2 <;> first | (exact absurd hv (by decide)) | skip
 all_goals
  clear hv
  go_enter Tryz.func56, Tryz.ntmps56
  go_wp2_with (first | (go_at_call 31; (with_reducible refine (C1.out _).mono ?_); rintro e W ⟨rfl, B⟩; have hr := And.intro (HR.out.1.keep B HR.out.1.lt) (HR.out.2.keep B HR.out.2.lt); have hb := HB.out.trans (B.mono HB.out.size); clear HR HB B; have HR := Lib.hid hr; have HB := Lib.hid hb; have a0 := hr.1.c0; have a1 := hr.1.c1; have b0 := hr.2.c0; have b1 := hr.2.c1; clear hr hb) | (go_at_call 31; (with_reducible refine (C2.out _).mono ?_); rintro e W ⟨rfl, B⟩; have hr := And.intro (HR.out.1.keep B HR.out.1.lt) (HR.out.2.keep B HR.out.2.lt); have hb := HB.out.trans (B.mono HB.out.size); clear HR HB B; have HR := Lib.hid hr; have HB := Lib.hid hb; have a0 := hr.1.c0; have a1 := hr.1.c1; have b0 := hr.2.c0; have b1 := hr.2.c1; clear hr hb))
  refine bodyPost_ret (results_four rfl _ _) rfl ?_
  exact ⟨rfl, HB.out⟩
set_option maxRecDepth 100000 in
set_option maxHeartbeats 4000000 in
theorem v4cross_ok (hv1 : vR L1 L2 = true) (hv2 : vR L3 L4 = true) :
  Calls Tryz.prog 56 #[.agg #[.string s1, .string s2], .agg #[.string s3, .string s4]] w fun e w' => e = .returned (.tuple #[.string ⟨(rs (num L1 * num L4)).toArray⟩, .string ⟨(rs (num L3 * num L2)).toArray⟩, .string ⟨(rs (num L2 * num L4)).toArray⟩, .bool (decide ((num L1 * num L4).natAbs < 10 ^ 200) && decide ((num L3 * num L2).natAbs < 10 ^ 200) && decide ((num L2 * num L4).natAbs < 10 ^ 200))]) ∧ Below w.heap.size w w' := by
 have c1 := fun W => v4Valid_any s1 s2 L1 L2 W hL1 hL2 hl1 hl2
 have c2 := fun W => v4Valid_any s3 s4 L3 L4 W hL3 hL4 hl3 hl4
 rw [hv1] at c1
 rw [hv2] at c2
 have p1 := vR_parts hv1
 have p2 := vR_parts hv2
 have m1 := fun W => mul_any s1 s4 L1 L4 W hL1 hL4 p1.1 p2.2.1
 have m2 := fun W => mul_any s3 s2 L3 L2 W hL3 hL2 p2.1 p1.2.1
 have m3 := fun W => mul_any s2 s4 L2 L4 W hL2 hL4 p1.2.1 p2.2.1
 obtain ⟨r1, r2⟩ := two_ratios w (.string s1) (.string s2) (.string s3) (.string s4)
 have HB := Lib.hid ((below_alloc w (.cells #[.string s1, .string s2] 23)).alloc (by rw [World.size_alloc]; omega) (.cells #[.string s3, .string s4] 23))
 have HR := Lib.hid (And.intro r1 r2)
 have o1 := er_or (num L1 * num L4)
 have o2 := er_or (num L3 * num L2)
 have o3 := er_or (num L2 * num L4)
 generalize (rs (num L1 * num L4)).toArray = x1 at *
 generalize (rs (num L3 * num L2)).toArray = x2 at *
 generalize (rs (num L2 * num L4)).toArray = x3 at *
 generalize er (num L1 * num L4) = e1 at *
 generalize er (num L3 * num L2) = e2 at *
 generalize er (num L2 * num L4) = e3 at *
 generalize decide ((num L1 * num L4).natAbs < 10 ^ 200) = f1 at *
 generalize decide ((num L3 * num L2).natAbs < 10 ^ 200) = f2 at *
 generalize decide ((num L2 * num L4).natAbs < 10 ^ 200) = f3 at *
 have C1 := Lib.hid c1
 have C2 := Lib.hid c2
 have M1 := Lib.hid m1
 have M2 := Lib.hid m2
 have M3 := Lib.hid m3
 clear hL1 hL2 hL3 hL4 hl1 hl2 hl3 hl4 c1 c2 r1 r2 m1 m2 m3 p1 p2 hv1 hv2
 rcases o1 with ⟨rfl, rfl⟩ | ⟨rfl, rfl⟩ <;> rcases o2 with ⟨rfl, rfl⟩ | ⟨rfl, rfl⟩ <;> rcases o3 with ⟨rfl, rfl⟩ | ⟨rfl, rfl⟩
 all_goals
  go_enter Tryz.func56, Tryz.ntmps56
  go_wp2_with (first | (go_at_call 31; (with_reducible refine (C1.out _).mono ?_); rintro e W ⟨rfl, B⟩; have hr := And.intro (HR.out.1.keep B HR.out.1.lt) (HR.out.2.keep B HR.out.2.lt); have hb := HB.out.trans (B.mono HB.out.size); clear HR HB B; have HR := Lib.hid hr; have HB := Lib.hid hb; have a0 := hr.1.c0; have a1 := hr.1.c1; have b0 := hr.2.c0; have b1 := hr.2.c1; clear hr hb) | (go_at_call 31; (with_reducible refine (C2.out _).mono ?_); rintro e W ⟨rfl, B⟩; have hr := And.intro (HR.out.1.keep B HR.out.1.lt) (HR.out.2.keep B HR.out.2.lt); have hb := HB.out.trans (B.mono HB.out.size); clear HR HB B; have HR := Lib.hid hr; have HB := Lib.hid hb; have a0 := hr.1.c0; have a1 := hr.1.c1; have b0 := hr.2.c0; have b1 := hr.2.c1; clear hr hb) | (go_at_call 59; (with_reducible refine (M1.out _).mono ?_); rintro e W ⟨rfl, B⟩; clear a0 a1 b0 b1; have hr := And.intro (HR.out.1.keep B HR.out.1.lt) (HR.out.2.keep B HR.out.2.lt); have hb := HB.out.trans (B.mono HB.out.size); clear HR HB B; have HR := Lib.hid hr; have HB := Lib.hid hb; have a0 := hr.1.c0; have a1 := hr.1.c1; have b0 := hr.2.c0; have b1 := hr.2.c1; clear hr hb) | (go_at_call 59; (with_reducible refine (M2.out _).mono ?_); rintro e W ⟨rfl, B⟩; clear a0 a1 b0 b1; have hr := And.intro (HR.out.1.keep B HR.out.1.lt) (HR.out.2.keep B HR.out.2.lt); have hb := HB.out.trans (B.mono HB.out.size); clear HR HB B; have HR := Lib.hid hr; have HB := Lib.hid hb; have a0 := hr.1.c0; have a1 := hr.1.c1; have b0 := hr.2.c0; have b1 := hr.2.c1; clear hr hb) | (go_at_call 59; (with_reducible refine (M3.out _).mono ?_); rintro e W ⟨rfl, B⟩; clear a0 a1 b0 b1; have hr := And.intro (HR.out.1.keep B HR.out.1.lt) (HR.out.2.keep B HR.out.2.lt); have hb := HB.out.trans (B.mono HB.out.size); clear HR HB B; have HR := Lib.hid hr; have HB := Lib.hid hb; have a0 := hr.1.c0; have a1 := hr.1.c1; have b0 := hr.2.c0; have b1 := hr.2.c1; clear hr hb))
  refine bodyPost_ret (results_four rfl _ _) rfl ?_
  exact ⟨rfl, HB.out⟩
end Go.Proofs.YtdnbhgkbfbgnaaaGreatDoor
namespace Go.Proofs.YtdnbhgkbfbgnaaaGreatDoor
open Go.RowKit
def fr (n d : Int) : ByteArray × ByteArray := (S (n / (Nat.gcd n.natAbs d.natAbs : Nat)), S (d / (Nat.gcd n.natAbs d.natAbs : Nat)))
theorem make_S (n d : Int) (hn : n.natAbs < 10 ^ 200) (hd : d.natAbs < 10 ^ 200) (h0 : 0 < d) (w : World) :
  Calls Tryz.prog 29 #[.string (S n), .string (S d)] w fun e w' => e = .returned (.tuple #[.agg #[.string (fr n d).1, .string (fr n d).2], .int .i64 0]) ∧ Below w.heap.size w w' := by
 have h := v4Make_ok (S n) (S d) (txt n) (txt d) w (S_list n) (S_list d) (txt_vld hn) (txt_vld hd) (by rw [txt_num]; omega)
 rw [txt_num, txt_num, if_neg (by omega), if_neg (by omega)] at h
 exact h
theorem three_ratios (w : World) (x1 y1 x2 y2 x3 y3 : Value) :
  RBlk (((w.alloc (.cells #[x1, y1] 23)).alloc (.cells #[x2, y2] 23)).alloc (.cells #[x3, y3] 23)) w.heap.size x1 y1 ∧ RBlk (((w.alloc (.cells #[x1, y1] 23)).alloc (.cells #[x2, y2] 23)).alloc (.cells #[x3, y3] 23)) (w.heap.size + 1) x2 y2 ∧ RBlk (((w.alloc (.cells #[x1, y1] 23)).alloc (.cells #[x2, y2] 23)).alloc (.cells #[x3, y3] 23)) (w.heap.size + 1 + 1) x3 y3 := by
 obtain ⟨r1, r2⟩ := two_ratios w x1 y1 x2 y2
 have h := RBlk.new ((w.alloc (.cells #[x1, y1] 23)).alloc (.cells #[x2, y2] 23)) x3 y3
 rw [World.size_alloc, World.size_alloc] at h
 exact ⟨r1.alloc _, r2.alloc _, h⟩
theorem rs_S {z : Int} (h : z.natAbs < 10 ^ 200) : (⟨(rs z).toArray⟩ : ByteArray) = S z := by rw [rs, if_pos h]; rfl
def opR (ok : Bool) (n d : Int) : Value := if ok then .tuple #[.agg #[.string (fr n d).1, .string (fr n d).2], .int .i64 0] else .tuple #[.agg #[.string ⟨#[]⟩, .string ⟨#[]⟩], .int .i64 40]
def fits (z : Int) : Bool := decide (z.natAbs < 10 ^ 200)
variable (s1 s2 s3 s4 : ByteArray) (L1 L2 L3 L4 : List UInt8) (w : World) (hL1 : s1.data.toList = L1) (hL2 : s2.data.toList = L2) (hL3 : s3.data.toList = L3) (hL4 : s4.data.toList = L4) (hl1 : L1.length ≤ 60000) (hl2 : L2.length ≤ 60000) (hl3 : L3.length ≤ 60000) (hl4 : L4.length ≤ 60000)
include hL1 hL2 hL3 hL4 hl1 hl2 hl3 hl4
set_option maxRecDepth 100000 in
set_option maxHeartbeats 4000000 in
theorem v4Add_any :
  Calls Tryz.prog 17 #[.agg #[.string s1, .string s2], .agg #[.string s3, .string s4]] w fun e w' => e = .returned (opR (vR L1 L2 && vR L3 L4 && (fits (num L1 * num L4) && fits (num L3 * num L2) && fits (num L2 * num L4)) && fits (num L1 * num L4 + num L3 * num L2)) (num L1 * num L4 + num L3 * num L2) (num L2 * num L4)) ∧ Below w.heap.size w w' := by
 have cn := fun W h => v4cross_no s1 s2 s3 s4 L1 L2 L3 L4 W hL1 hL2 hL3 hL4 hl1 hl2 hl3 hl4 h
 have co := fun W h1 h2 => v4cross_ok s1 s2 s3 s4 L1 L2 L3 L4 W hL1 hL2 hL3 hL4 hl1 hl2 hl3 hl4 h1 h2
 obtain ⟨r1, r2, r3⟩ := three_ratios w (.string s1) (.string s2) (.string s3) (.string s4) (.string ⟨#[]⟩) (.string ⟨#[]⟩)
 have HB := Lib.hid (((below_alloc w (.cells #[.string s1, .string s2] 23)).alloc (by rw [World.size_alloc]; omega) (.cells #[.string s3, .string s4] 23)).alloc (by rw [World.size_alloc, World.size_alloc]; omega) (.cells #[.string ⟨#[]⟩, .string ⟨#[]⟩] 23))
 have a0 := r1.c0
 have a1 := r1.c1
 have b0 := r2.c0
 have b1 := r2.c1
 have HR := Lib.hid (And.intro r1 (And.intro r2 r3))
 clear r1 r2 r3
 clear hL1 hL2 hL3 hL4 hl1 hl2 hl3 hl4
 cases hv : vR L1 L2 && vR L3 L4
 ·
  rw [Bool.false_and, Bool.false_and, opR, if_neg (by decide)]
  have CN := Lib.hid (fun W => cn W hv)
  clear cn co hv
  go_enter Tryz.func17, Tryz.ntmps17
  go_wp2_with (go_at_call 56; (with_reducible refine (CN.out _).mono ?_); rintro e W ⟨rfl, B⟩; have hr := And.intro (HR.out.1.keep B HR.out.1.lt) (And.intro (HR.out.2.1.keep B HR.out.2.1.lt) (HR.out.2.2.keep B HR.out.2.2.lt)); have hb := HB.out.trans (B.mono HB.out.size); clear HR HB B a0 a1 b0 b1; have HR := Lib.hid hr; have HB := Lib.hid hb; have a0 := hr.1.c0; have a1 := hr.1.c1; have b0 := hr.2.1.c0; have b1 := hr.2.1.c1; have c0 := hr.2.2.c0; have c1 := hr.2.2.c1; have f0 := hr.2.2.f 0; have f1 := hr.2.2.f 1; have hs := hr.2.2.s0 (.string ⟨#[]⟩); have d1 := hs.c1; have g1 := hs.f 1; have HS := Lib.hid (hs.s1 (.string ⟨#[]⟩)); have HBS := Lib.hid ((hb.setCell (p := ⟨w.heap.size + 1 + 1, 0, none⟩) (by show w.heap.size ≤ w.heap.size + 1 + 1; omega) (.string ⟨#[]⟩)).setCell (p := ⟨w.heap.size + 1 + 1, 1, none⟩) (by show w.heap.size ≤ w.heap.size + 1 + 1; omega) (.string ⟨#[]⟩)); clear hr hb hs)
  refine bodyPost_ret (results_ratio rfl _ _ (w.heap.size + 1 + 1) _ _ rfl HS.out) rfl ?_; exact ⟨rfl, HBS.out⟩
 ·
  have hb := (Bool.and_eq_true _ _).mp hv
  have cx := fun W => co W hb.1 hb.2
  have p1 := (vR_parts hb.1).2.2.1
  have p2 := (vR_parts hb.2).2.2.1
  have hd0 : 0 < num L2 * num L4 := Int.mul_pos p1 p2
  clear cn co hv hb p1 p2
  generalize num L1 * num L4 = x at *
  generalize num L3 * num L2 = y at *
  generalize num L2 * num L4 = d at *
  change ∀ W, Calls _ _ _ W (fun e w' => e = .returned (.tuple #[_, _, _, .bool (fits x && fits y && fits d)]) ∧ _) at cx
  cases hf : fits x && fits y && fits d
  ·
   rw [Bool.and_false, Bool.false_and, opR, if_neg (by decide)]
   rw [hf] at cx
   have CX := Lib.hid cx
   clear cx hf
   go_enter Tryz.func17, Tryz.ntmps17
   go_wp2_with (go_at_call 56; (with_reducible refine (CX.out _).mono ?_); rintro e W ⟨rfl, B⟩; have hr := And.intro (HR.out.1.keep B HR.out.1.lt) (And.intro (HR.out.2.1.keep B HR.out.2.1.lt) (HR.out.2.2.keep B HR.out.2.2.lt)); have hb := HB.out.trans (B.mono HB.out.size); clear HR HB B a0 a1 b0 b1; have HR := Lib.hid hr; have HB := Lib.hid hb; have a0 := hr.1.c0; have a1 := hr.1.c1; have b0 := hr.2.1.c0; have b1 := hr.2.1.c1; have c0 := hr.2.2.c0; have c1 := hr.2.2.c1; have f0 := hr.2.2.f 0; have f1 := hr.2.2.f 1; have hs := hr.2.2.s0 (.string ⟨#[]⟩); have d1 := hs.c1; have g1 := hs.f 1; have HS := Lib.hid (hs.s1 (.string ⟨#[]⟩)); have HBS := Lib.hid ((hb.setCell (p := ⟨w.heap.size + 1 + 1, 0, none⟩) (by show w.heap.size ≤ w.heap.size + 1 + 1; omega) (.string ⟨#[]⟩)).setCell (p := ⟨w.heap.size + 1 + 1, 1, none⟩) (by show w.heap.size ≤ w.heap.size + 1 + 1; omega) (.string ⟨#[]⟩)); clear hr hb hs)
   refine bodyPost_ret (results_ratio rfl _ _ (w.heap.size + 1 + 1) _ _ rfl HS.out) rfl ?_; exact ⟨rfl, HBS.out⟩
  ·
   rw [hf] at cx
   rw [Bool.and_eq_true, Bool.and_eq_true] at hf
   have gx : x.natAbs < 10 ^ 200 := of_decide_eq_true hf.1.1
   have gy : y.natAbs < 10 ^ 200 := of_decide_eq_true hf.1.2
   have gd : d.natAbs < 10 ^ 200 := of_decide_eq_true hf.2
   rw [rs_S gx, rs_S gy, rs_S gd] at cx
   have ca := fun W => rAdd_ok (S x) (S y) (txt x) (txt y) W (S_list x) (S_list y) (txt_vld gx) (txt_vld gy)
   rw [txt_num, txt_num] at ca
   rw [Bool.and_true, Bool.true_and]
   clear hf
   cases hz : fits (x + y)
   ·
    rw [opR, if_neg (by decide)]
    rw [rs, er, if_neg (of_decide_eq_false hz), if_neg (of_decide_eq_false hz)] at ca
    have CX := Lib.hid cx
    have CA := Lib.hid ca
    clear cx ca hz gx gy gd
    generalize S x = sx at *
    generalize S y = sy at *
    generalize S d = sd at *
    go_enter Tryz.func17, Tryz.ntmps17
    go_wp2_with (first | (go_at_call 56; (with_reducible refine (CX.out _).mono ?_); rintro e W ⟨rfl, B⟩; have hr := And.intro (HR.out.1.keep B HR.out.1.lt) (And.intro (HR.out.2.1.keep B HR.out.2.1.lt) (HR.out.2.2.keep B HR.out.2.2.lt)); have hb := HB.out.trans (B.mono HB.out.size); clear HR HB B a0 a1 b0 b1; have HR := Lib.hid hr; have HB := Lib.hid hb; have a0 := hr.1.c0; have a1 := hr.1.c1; have b0 := hr.2.1.c0; have b1 := hr.2.1.c1; clear hr hb) | (go_at_call 57; (with_reducible refine (CA.out _).mono ?_); rintro e W ⟨rfl, B⟩; have hr := And.intro (HR.out.1.keep B HR.out.1.lt) (And.intro (HR.out.2.1.keep B HR.out.2.1.lt) (HR.out.2.2.keep B HR.out.2.2.lt)); have hb := HB.out.trans (B.mono HB.out.size); clear HR HB B a0 a1 b0 b1; have HR := Lib.hid hr; have HB := Lib.hid hb; have a0 := hr.1.c0; have a1 := hr.1.c1; have b0 := hr.2.1.c0; have b1 := hr.2.1.c1; have c0 := hr.2.2.c0; have c1 := hr.2.2.c1; have f0 := hr.2.2.f 0; have f1 := hr.2.2.f 1; have hs := hr.2.2.s0 (.string ⟨#[]⟩); have d1 := hs.c1; have g1 := hs.f 1; have HS := Lib.hid (hs.s1 (.string ⟨#[]⟩)); have HBS := Lib.hid ((hb.setCell (p := ⟨w.heap.size + 1 + 1, 0, none⟩) (by show w.heap.size ≤ w.heap.size + 1 + 1; omega) (.string ⟨#[]⟩)).setCell (p := ⟨w.heap.size + 1 + 1, 1, none⟩) (by show w.heap.size ≤ w.heap.size + 1 + 1; omega) (.string ⟨#[]⟩)); clear hr hb hs))
    refine bodyPost_ret (results_ratio rfl _ _ (w.heap.size + 1 + 1) _ _ rfl HS.out) rfl ?_; exact ⟨rfl, HBS.out⟩
   ·
    rw [opR, if_pos rfl]
    have gz : (x + y).natAbs < 10 ^ 200 := of_decide_eq_true hz
    rw [rs_S gz, er, if_pos gz] at ca
    have cm := fun W => make_S (x + y) d gz gd hd0 W
    have CX := Lib.hid cx
    have CA := Lib.hid ca
    have CM := Lib.hid cm
    clear cx ca cm hz gx gy gd gz
    generalize (fr (x + y) d).1 = o1 at *
    generalize (fr (x + y) d).2 = o2 at *
    generalize S (x + y) = sz at *
    generalize S x = sx at *
    generalize S y = sy at *
    generalize S d = sd at *
    go_enter Tryz.func17, Tryz.ntmps17
    go_wp2_with (first | (go_at_call 56; (with_reducible refine (CX.out _).mono ?_); rintro e W ⟨rfl, B⟩; have hr := And.intro (HR.out.1.keep B HR.out.1.lt) (And.intro (HR.out.2.1.keep B HR.out.2.1.lt) (HR.out.2.2.keep B HR.out.2.2.lt)); have hb := HB.out.trans (B.mono HB.out.size); clear HR HB B a0 a1 b0 b1; have HR := Lib.hid hr; have HB := Lib.hid hb; have a0 := hr.1.c0; have a1 := hr.1.c1; have b0 := hr.2.1.c0; have b1 := hr.2.1.c1; clear hr hb) | (go_at_call 57; (with_reducible refine (CA.out _).mono ?_); rintro e W ⟨rfl, B⟩; have hr := And.intro (HR.out.1.keep B HR.out.1.lt) (And.intro (HR.out.2.1.keep B HR.out.2.1.lt) (HR.out.2.2.keep B HR.out.2.2.lt)); have hb := HB.out.trans (B.mono HB.out.size); clear HR HB B a0 a1 b0 b1; have HR := Lib.hid hr; have HB := Lib.hid hb; have a0 := hr.1.c0; have a1 := hr.1.c1; have b0 := hr.2.1.c0; have b1 := hr.2.1.c1; clear hr hb) | (go_at_call 29; (with_reducible refine (CM.out _).mono ?_); rintro e W ⟨rfl, B⟩; have hr := And.intro (HR.out.1.keep B HR.out.1.lt) (And.intro (HR.out.2.1.keep B HR.out.2.1.lt) (HR.out.2.2.keep B HR.out.2.2.lt)); have hb := HB.out.trans (B.mono HB.out.size); clear HR HB B a0 a1 b0 b1; have HR := Lib.hid hr; have HB := Lib.hid hb; have a0 := hr.1.c0; have a1 := hr.1.c1; have b0 := hr.2.1.c0; have b1 := hr.2.1.c1; have c0 := hr.2.2.c0; have c1 := hr.2.2.c1; have f0 := hr.2.2.f 0; have f1 := hr.2.2.f 1; have hs := hr.2.2.s0 (.string o1); have d1 := hs.c1; have g1 := hs.f 1; have HS := Lib.hid (hs.s1 (.string o2)); have HBS := Lib.hid ((hb.setCell (p := ⟨w.heap.size + 1 + 1, 0, none⟩) (by show w.heap.size ≤ w.heap.size + 1 + 1; omega) (.string o1)).setCell (p := ⟨w.heap.size + 1 + 1, 1, none⟩) (by show w.heap.size ≤ w.heap.size + 1 + 1; omega) (.string o2)); clear hr hb hs))
    refine bodyPost_ret (results_ratio rfl _ _ (w.heap.size + 1 + 1) _ _ rfl HS.out) rfl ?_; exact ⟨rfl, HBS.out⟩
set_option maxRecDepth 100000 in
set_option maxHeartbeats 4000000 in
theorem v4Sub_any :
  Calls Tryz.prog 18 #[.agg #[.string s1, .string s2], .agg #[.string s3, .string s4]] w fun e w' => e = .returned (opR (vR L1 L2 && vR L3 L4 && (fits (num L1 * num L4) && fits (num L3 * num L2) && fits (num L2 * num L4)) && fits (num L1 * num L4 - num L3 * num L2)) (num L1 * num L4 - num L3 * num L2) (num L2 * num L4)) ∧ Below w.heap.size w w' := by
 have cn := fun W h => v4cross_no s1 s2 s3 s4 L1 L2 L3 L4 W hL1 hL2 hL3 hL4 hl1 hl2 hl3 hl4 h
 have co := fun W h1 h2 => v4cross_ok s1 s2 s3 s4 L1 L2 L3 L4 W hL1 hL2 hL3 hL4 hl1 hl2 hl3 hl4 h1 h2
 obtain ⟨r1, r2, r3⟩ := three_ratios w (.string s1) (.string s2) (.string s3) (.string s4) (.string ⟨#[]⟩) (.string ⟨#[]⟩)
 have HB := Lib.hid (((below_alloc w (.cells #[.string s1, .string s2] 23)).alloc (by rw [World.size_alloc]; omega) (.cells #[.string s3, .string s4] 23)).alloc (by rw [World.size_alloc, World.size_alloc]; omega) (.cells #[.string ⟨#[]⟩, .string ⟨#[]⟩] 23))
 have a0 := r1.c0
 have a1 := r1.c1
 have b0 := r2.c0
 have b1 := r2.c1
 have HR := Lib.hid (And.intro r1 (And.intro r2 r3))
 clear r1 r2 r3
 clear hL1 hL2 hL3 hL4 hl1 hl2 hl3 hl4
 cases hv : vR L1 L2 && vR L3 L4
 ·
  rw [Bool.false_and, Bool.false_and, opR, if_neg (by decide)]
  have CN := Lib.hid (fun W => cn W hv)
  clear cn co hv
  go_enter Tryz.func18, Tryz.ntmps18
  go_wp2_with (go_at_call 56; (with_reducible refine (CN.out _).mono ?_); rintro e W ⟨rfl, B⟩; have hr := And.intro (HR.out.1.keep B HR.out.1.lt) (And.intro (HR.out.2.1.keep B HR.out.2.1.lt) (HR.out.2.2.keep B HR.out.2.2.lt)); have hb := HB.out.trans (B.mono HB.out.size); clear HR HB B a0 a1 b0 b1; have HR := Lib.hid hr; have HB := Lib.hid hb; have a0 := hr.1.c0; have a1 := hr.1.c1; have b0 := hr.2.1.c0; have b1 := hr.2.1.c1; have c0 := hr.2.2.c0; have c1 := hr.2.2.c1; have f0 := hr.2.2.f 0; have f1 := hr.2.2.f 1; have hs := hr.2.2.s0 (.string ⟨#[]⟩); have d1 := hs.c1; have g1 := hs.f 1; have HS := Lib.hid (hs.s1 (.string ⟨#[]⟩)); have HBS := Lib.hid ((hb.setCell (p := ⟨w.heap.size + 1 + 1, 0, none⟩) (by show w.heap.size ≤ w.heap.size + 1 + 1; omega) (.string ⟨#[]⟩)).setCell (p := ⟨w.heap.size + 1 + 1, 1, none⟩) (by show w.heap.size ≤ w.heap.size + 1 + 1; omega) (.string ⟨#[]⟩)); clear hr hb hs)
  refine bodyPost_ret (results_ratio rfl _ _ (w.heap.size + 1 + 1) _ _ rfl HS.out) rfl ?_; exact ⟨rfl, HBS.out⟩
 ·
  have hb := (Bool.and_eq_true _ _).mp hv
  have cx := fun W => co W hb.1 hb.2
  have p1 := (vR_parts hb.1).2.2.1
  have p2 := (vR_parts hb.2).2.2.1
  have hd0 : 0 < num L2 * num L4 := Int.mul_pos p1 p2
  clear cn co hv hb p1 p2
  generalize num L1 * num L4 = x at *
  generalize num L3 * num L2 = y at *
  generalize num L2 * num L4 = d at *
  change ∀ W, Calls _ _ _ W (fun e w' => e = .returned (.tuple #[_, _, _, .bool (fits x && fits y && fits d)]) ∧ _) at cx
  cases hf : fits x && fits y && fits d
  ·
   rw [Bool.and_false, Bool.false_and, opR, if_neg (by decide)]
   rw [hf] at cx
   have CX := Lib.hid cx
   clear cx hf
   go_enter Tryz.func18, Tryz.ntmps18
   go_wp2_with (go_at_call 56; (with_reducible refine (CX.out _).mono ?_); rintro e W ⟨rfl, B⟩; have hr := And.intro (HR.out.1.keep B HR.out.1.lt) (And.intro (HR.out.2.1.keep B HR.out.2.1.lt) (HR.out.2.2.keep B HR.out.2.2.lt)); have hb := HB.out.trans (B.mono HB.out.size); clear HR HB B a0 a1 b0 b1; have HR := Lib.hid hr; have HB := Lib.hid hb; have a0 := hr.1.c0; have a1 := hr.1.c1; have b0 := hr.2.1.c0; have b1 := hr.2.1.c1; have c0 := hr.2.2.c0; have c1 := hr.2.2.c1; have f0 := hr.2.2.f 0; have f1 := hr.2.2.f 1; have hs := hr.2.2.s0 (.string ⟨#[]⟩); have d1 := hs.c1; have g1 := hs.f 1; have HS := Lib.hid (hs.s1 (.string ⟨#[]⟩)); have HBS := Lib.hid ((hb.setCell (p := ⟨w.heap.size + 1 + 1, 0, none⟩) (by show w.heap.size ≤ w.heap.size + 1 + 1; omega) (.string ⟨#[]⟩)).setCell (p := ⟨w.heap.size + 1 + 1, 1, none⟩) (by show w.heap.size ≤ w.heap.size + 1 + 1; omega) (.string ⟨#[]⟩)); clear hr hb hs)
   refine bodyPost_ret (results_ratio rfl _ _ (w.heap.size + 1 + 1) _ _ rfl HS.out) rfl ?_; exact ⟨rfl, HBS.out⟩
  ·
   rw [hf] at cx
   rw [Bool.and_eq_true, Bool.and_eq_true] at hf
   have gx : x.natAbs < 10 ^ 200 := of_decide_eq_true hf.1.1
   have gy : y.natAbs < 10 ^ 200 := of_decide_eq_true hf.1.2
   have gd : d.natAbs < 10 ^ 200 := of_decide_eq_true hf.2
   rw [rs_S gx, rs_S gy, rs_S gd] at cx
   have ca := fun W => rSub_ok (S x) (S y) (txt x) (txt y) W (S_list x) (S_list y) (txt_vld gx) (txt_vld gy)
   rw [txt_num, txt_num] at ca
   rw [Bool.and_true, Bool.true_and]
   clear hf
   cases hz : fits (x - y)
   ·
    rw [opR, if_neg (by decide)]
    rw [rs, er, if_neg (of_decide_eq_false hz), if_neg (of_decide_eq_false hz)] at ca
    have CX := Lib.hid cx
    have CA := Lib.hid ca
    clear cx ca hz gx gy gd
    generalize S x = sx at *
    generalize S y = sy at *
    generalize S d = sd at *
    go_enter Tryz.func18, Tryz.ntmps18
    go_wp2_with (first | (go_at_call 56; (with_reducible refine (CX.out _).mono ?_); rintro e W ⟨rfl, B⟩; have hr := And.intro (HR.out.1.keep B HR.out.1.lt) (And.intro (HR.out.2.1.keep B HR.out.2.1.lt) (HR.out.2.2.keep B HR.out.2.2.lt)); have hb := HB.out.trans (B.mono HB.out.size); clear HR HB B a0 a1 b0 b1; have HR := Lib.hid hr; have HB := Lib.hid hb; have a0 := hr.1.c0; have a1 := hr.1.c1; have b0 := hr.2.1.c0; have b1 := hr.2.1.c1; clear hr hb) | (go_at_call 58; (with_reducible refine (CA.out _).mono ?_); rintro e W ⟨rfl, B⟩; have hr := And.intro (HR.out.1.keep B HR.out.1.lt) (And.intro (HR.out.2.1.keep B HR.out.2.1.lt) (HR.out.2.2.keep B HR.out.2.2.lt)); have hb := HB.out.trans (B.mono HB.out.size); clear HR HB B a0 a1 b0 b1; have HR := Lib.hid hr; have HB := Lib.hid hb; have a0 := hr.1.c0; have a1 := hr.1.c1; have b0 := hr.2.1.c0; have b1 := hr.2.1.c1; have c0 := hr.2.2.c0; have c1 := hr.2.2.c1; have f0 := hr.2.2.f 0; have f1 := hr.2.2.f 1; have hs := hr.2.2.s0 (.string ⟨#[]⟩); have d1 := hs.c1; have g1 := hs.f 1; have HS := Lib.hid (hs.s1 (.string ⟨#[]⟩)); have HBS := Lib.hid ((hb.setCell (p := ⟨w.heap.size + 1 + 1, 0, none⟩) (by show w.heap.size ≤ w.heap.size + 1 + 1; omega) (.string ⟨#[]⟩)).setCell (p := ⟨w.heap.size + 1 + 1, 1, none⟩) (by show w.heap.size ≤ w.heap.size + 1 + 1; omega) (.string ⟨#[]⟩)); clear hr hb hs))
    refine bodyPost_ret (results_ratio rfl _ _ (w.heap.size + 1 + 1) _ _ rfl HS.out) rfl ?_; exact ⟨rfl, HBS.out⟩
   ·
    rw [opR, if_pos rfl]
    have gz : (x - y).natAbs < 10 ^ 200 := of_decide_eq_true hz
    rw [rs_S gz, er, if_pos gz] at ca
    have cm := fun W => make_S (x - y) d gz gd hd0 W
    have CX := Lib.hid cx
    have CA := Lib.hid ca
    have CM := Lib.hid cm
    clear cx ca cm hz gx gy gd gz
    generalize (fr (x - y) d).1 = o1 at *
    generalize (fr (x - y) d).2 = o2 at *
    generalize S (x - y) = sz at *
    generalize S x = sx at *
    generalize S y = sy at *
    generalize S d = sd at *
    go_enter Tryz.func18, Tryz.ntmps18
    go_wp2_with (first | (go_at_call 56; (with_reducible refine (CX.out _).mono ?_); rintro e W ⟨rfl, B⟩; have hr := And.intro (HR.out.1.keep B HR.out.1.lt) (And.intro (HR.out.2.1.keep B HR.out.2.1.lt) (HR.out.2.2.keep B HR.out.2.2.lt)); have hb := HB.out.trans (B.mono HB.out.size); clear HR HB B a0 a1 b0 b1; have HR := Lib.hid hr; have HB := Lib.hid hb; have a0 := hr.1.c0; have a1 := hr.1.c1; have b0 := hr.2.1.c0; have b1 := hr.2.1.c1; clear hr hb) | (go_at_call 58; (with_reducible refine (CA.out _).mono ?_); rintro e W ⟨rfl, B⟩; have hr := And.intro (HR.out.1.keep B HR.out.1.lt) (And.intro (HR.out.2.1.keep B HR.out.2.1.lt) (HR.out.2.2.keep B HR.out.2.2.lt)); have hb := HB.out.trans (B.mono HB.out.size); clear HR HB B a0 a1 b0 b1; have HR := Lib.hid hr; have HB := Lib.hid hb; have a0 := hr.1.c0; have a1 := hr.1.c1; have b0 := hr.2.1.c0; have b1 := hr.2.1.c1; clear hr hb) | (go_at_call 29; (with_reducible refine (CM.out _).mono ?_); rintro e W ⟨rfl, B⟩; have hr := And.intro (HR.out.1.keep B HR.out.1.lt) (And.intro (HR.out.2.1.keep B HR.out.2.1.lt) (HR.out.2.2.keep B HR.out.2.2.lt)); have hb := HB.out.trans (B.mono HB.out.size); clear HR HB B a0 a1 b0 b1; have HR := Lib.hid hr; have HB := Lib.hid hb; have a0 := hr.1.c0; have a1 := hr.1.c1; have b0 := hr.2.1.c0; have b1 := hr.2.1.c1; have c0 := hr.2.2.c0; have c1 := hr.2.2.c1; have f0 := hr.2.2.f 0; have f1 := hr.2.2.f 1; have hs := hr.2.2.s0 (.string o1); have d1 := hs.c1; have g1 := hs.f 1; have HS := Lib.hid (hs.s1 (.string o2)); have HBS := Lib.hid ((hb.setCell (p := ⟨w.heap.size + 1 + 1, 0, none⟩) (by show w.heap.size ≤ w.heap.size + 1 + 1; omega) (.string o1)).setCell (p := ⟨w.heap.size + 1 + 1, 1, none⟩) (by show w.heap.size ≤ w.heap.size + 1 + 1; omega) (.string o2)); clear hr hb hs))
    refine bodyPost_ret (results_ratio rfl _ _ (w.heap.size + 1 + 1) _ _ rfl HS.out) rfl ?_; exact ⟨rfl, HBS.out⟩
end Go.Proofs.YtdnbhgkbfbgnaaaGreatDoor
namespace Go.Proofs.YtdnbhgkbfbgnaaaGreatDoor
open Go.RowKit
def sg (d z : Int) : Int := if d < 0 then -z else z
theorem make_G (n d : Int) (hn : n.natAbs < 10 ^ 200) (hd : d.natAbs < 10 ^ 200) (w : World) :
  Calls Tryz.prog 29 #[.string (S n), .string (S d)] w fun e w' => e = .returned (opR (decide (d ≠ 0)) (sg d n) (sg d d)) ∧ Below w.heap.size w w' := by
 by_cases h0 : d = 0
 ·
  rw [decide_eq_false (by simpa using h0), opR, if_neg (by decide)]
  exact v4Make_no (S n) (S d) (txt n) (txt d) w (S_list n) (S_list d) (S_len hn) (S_len hd) (fun _ => by rw [txt_num]; exact h0)
 ·
  rw [decide_eq_true h0, opR, if_pos rfl]
  have h := v4Make_ok (S n) (S d) (txt n) (txt d) w (S_list n) (S_list d) (txt_vld hn) (txt_vld hd) (by rw [txt_num]; exact h0)
  rw [txt_num, txt_num] at h
  unfold fr sg
  by_cases hneg : d < 0
  ·
   simp only [if_pos hneg] at h ⊢
   rw [Int.natAbs_neg, Int.natAbs_neg]; exact h
  ·
   simp only [if_neg hneg] at h ⊢
   exact h
variable (s1 s2 s3 s4 : ByteArray) (L1 L2 L3 L4 : List UInt8) (w : World) (hL1 : s1.data.toList = L1) (hL2 : s2.data.toList = L2) (hL3 : s3.data.toList = L3) (hL4 : s4.data.toList = L4) (hl1 : L1.length ≤ 60000) (hl2 : L2.length ≤ 60000) (hl3 : L3.length ≤ 60000) (hl4 : L4.length ≤ 60000)
include hL1 hL2 hL3 hL4 hl1 hl2 hl3 hl4
set_option maxRecDepth 100000 in
set_option maxHeartbeats 4000000 in
theorem v4Mul_any :
  Calls Tryz.prog 19 #[.agg #[.string s1, .string s2], .agg #[.string s3, .string s4]] w fun e w' => e = .returned (opR (vR L1 L2 && vR L3 L4 && (fits (num L1 * num L3) && fits (num L2 * num L4)) && decide (num L2 * num L4 ≠ 0)) (sg (num L2 * num L4) (num L1 * num L3)) (sg (num L2 * num L4) (num L2 * num L4))) ∧ Below w.heap.size w w' := by
 have c1 := fun W => v4Valid_any s1 s2 L1 L2 W hL1 hL2 hl1 hl2
 have c2 := fun W => v4Valid_any s3 s4 L3 L4 W hL3 hL4 hl3 hl4
 obtain ⟨r1, r2, r3⟩ := three_ratios w (.string s1) (.string s2) (.string s3) (.string s4) (.string ⟨#[]⟩) (.string ⟨#[]⟩)
 have HB := Lib.hid (((below_alloc w (.cells #[.string s1, .string s2] 23)).alloc (by rw [World.size_alloc]; omega) (.cells #[.string s3, .string s4] 23)).alloc (by rw [World.size_alloc, World.size_alloc]; omega) (.cells #[.string ⟨#[]⟩, .string ⟨#[]⟩] 23))
 have a0 := r1.c0
 have a1 := r1.c1
 have b0 := r2.c0
 have b1 := r2.c1
 have HR := Lib.hid (And.intro r1 (And.intro r2 r3))
 clear r1 r2 r3
 cases hv : vR L1 L2 && vR L3 L4
 ·
  rw [Bool.false_and, Bool.false_and, opR, if_neg (by decide)]
  generalize vR L1 L2 = v1 at *
  generalize vR L3 L4 = v2 at *
  have C1 := Lib.hid c1
  have C2 := Lib.hid c2
  clear c1 c2 hL1 hL2 hL3 hL4 hl1 hl2 hl3 hl4
  cases v1 <;> cases v2 <;> first | (exact absurd hv (by decide)) | skip
  all_goals
   clear hv
   go_enter Tryz.func19, Tryz.ntmps19
   go_wp2_with (first | (go_at_call 31; (with_reducible refine (C1.out _).mono ?_); rintro e W ⟨rfl, B⟩; have hr := And.intro (HR.out.1.keep B HR.out.1.lt) (And.intro (HR.out.2.1.keep B HR.out.2.1.lt) (HR.out.2.2.keep B HR.out.2.2.lt)); have hb := HB.out.trans (B.mono HB.out.size); clear HR HB B a0 a1 b0 b1; have HR := Lib.hid hr; have HB := Lib.hid hb; have a0 := hr.1.c0; have a1 := hr.1.c1; have b0 := hr.2.1.c0; have b1 := hr.2.1.c1; clear hr hb) | (go_at_call 31; (with_reducible refine (C2.out _).mono ?_); rintro e W ⟨rfl, B⟩; have hr := And.intro (HR.out.1.keep B HR.out.1.lt) (And.intro (HR.out.2.1.keep B HR.out.2.1.lt) (HR.out.2.2.keep B HR.out.2.2.lt)); have hb := HB.out.trans (B.mono HB.out.size); clear HR HB B a0 a1 b0 b1; have HR := Lib.hid hr; have HB := Lib.hid hb; have a0 := hr.1.c0; have a1 := hr.1.c1; have b0 := hr.2.1.c0; have b1 := hr.2.1.c1; have c0 := hr.2.2.c0; have c1 := hr.2.2.c1; have f0 := hr.2.2.f 0; have f1 := hr.2.2.f 1; have hs := hr.2.2.s0 (.string ⟨#[]⟩); have d1 := hs.c1; have g1 := hs.f 1; have HS := Lib.hid (hs.s1 (.string ⟨#[]⟩)); have HBS := Lib.hid ((hb.setCell (p := ⟨w.heap.size + 1 + 1, 0, none⟩) (by show w.heap.size ≤ w.heap.size + 1 + 1; omega) (.string ⟨#[]⟩)).setCell (p := ⟨w.heap.size + 1 + 1, 1, none⟩) (by show w.heap.size ≤ w.heap.size + 1 + 1; omega) (.string ⟨#[]⟩)); clear hr hb hs))
   refine bodyPost_ret (results_ratio rfl _ _ (w.heap.size + 1 + 1) _ _ rfl HS.out) rfl ?_; exact ⟨rfl, HBS.out⟩
 ·
  have hb := (Bool.and_eq_true _ _).mp hv
  rw [hb.1] at c1
  rw [hb.2] at c2
  have p1 := vR_parts hb.1
  have p2 := vR_parts hb.2
  have ma := fun W => mul_any s1 s3 L1 L3 W hL1 hL3 p1.1 p2.1
  have mb := fun W => mul_any s2 s4 L2 L4 W hL2 hL4 p1.2.1 p2.2.1
  clear hv hb p1 p2 hL1 hL2 hL3 hL4 hl1 hl2 hl3 hl4
  generalize num L1 * num L3 = x at *
  generalize num L2 * num L4 = d at *
  have C1 := Lib.hid c1
  have C2 := Lib.hid c2
  clear c1 c2
  by_cases gx : x.natAbs < 10 ^ 200
  ·
   rw [rs_S gx, er, if_pos gx] at ma
   rw [show fits x = true from decide_eq_true gx]
   by_cases gd : d.natAbs < 10 ^ 200
   ·
    rw [rs_S gd, er, if_pos gd] at mb
    rw [show fits d = true from decide_eq_true gd, Bool.and_true, Bool.and_true, Bool.true_and]
    have cm := fun W => make_G x d gx gd W
    have MA := Lib.hid ma
    have MB := Lib.hid mb
    clear ma mb gx gd
    generalize S x = sx at *
    generalize S d = sd at *
    cases hz : decide (d ≠ 0)
    ·
     rw [hz] at cm
     rw [opR, if_neg (by decide)] at cm ⊢
     have CM := Lib.hid cm
     clear cm hz
     go_enter Tryz.func19, Tryz.ntmps19
     go_wp2_with (first | (go_at_call 31; (with_reducible refine (C1.out _).mono ?_); rintro e W ⟨rfl, B⟩; have hr := And.intro (HR.out.1.keep B HR.out.1.lt) (And.intro (HR.out.2.1.keep B HR.out.2.1.lt) (HR.out.2.2.keep B HR.out.2.2.lt)); have hb := HB.out.trans (B.mono HB.out.size); clear HR HB B a0 a1 b0 b1; have HR := Lib.hid hr; have HB := Lib.hid hb; have a0 := hr.1.c0; have a1 := hr.1.c1; have b0 := hr.2.1.c0; have b1 := hr.2.1.c1; clear hr hb) | (go_at_call 31; (with_reducible refine (C2.out _).mono ?_); rintro e W ⟨rfl, B⟩; have hr := And.intro (HR.out.1.keep B HR.out.1.lt) (And.intro (HR.out.2.1.keep B HR.out.2.1.lt) (HR.out.2.2.keep B HR.out.2.2.lt)); have hb := HB.out.trans (B.mono HB.out.size); clear HR HB B a0 a1 b0 b1; have HR := Lib.hid hr; have HB := Lib.hid hb; have a0 := hr.1.c0; have a1 := hr.1.c1; have b0 := hr.2.1.c0; have b1 := hr.2.1.c1; clear hr hb) | (go_at_call 59; (with_reducible refine (MA.out _).mono ?_); rintro e W ⟨rfl, B⟩; have hr := And.intro (HR.out.1.keep B HR.out.1.lt) (And.intro (HR.out.2.1.keep B HR.out.2.1.lt) (HR.out.2.2.keep B HR.out.2.2.lt)); have hb := HB.out.trans (B.mono HB.out.size); clear HR HB B a0 a1 b0 b1; have HR := Lib.hid hr; have HB := Lib.hid hb; have a0 := hr.1.c0; have a1 := hr.1.c1; have b0 := hr.2.1.c0; have b1 := hr.2.1.c1; clear hr hb) | (go_at_call 59; (with_reducible refine (MB.out _).mono ?_); rintro e W ⟨rfl, B⟩; have hr := And.intro (HR.out.1.keep B HR.out.1.lt) (And.intro (HR.out.2.1.keep B HR.out.2.1.lt) (HR.out.2.2.keep B HR.out.2.2.lt)); have hb := HB.out.trans (B.mono HB.out.size); clear HR HB B a0 a1 b0 b1; have HR := Lib.hid hr; have HB := Lib.hid hb; have a0 := hr.1.c0; have a1 := hr.1.c1; have b0 := hr.2.1.c0; have b1 := hr.2.1.c1; clear hr hb) | (go_at_call 29; (with_reducible refine (CM.out _).mono ?_); rintro e W ⟨rfl, B⟩; have hr := And.intro (HR.out.1.keep B HR.out.1.lt) (And.intro (HR.out.2.1.keep B HR.out.2.1.lt) (HR.out.2.2.keep B HR.out.2.2.lt)); have hb := HB.out.trans (B.mono HB.out.size); clear HR HB B a0 a1 b0 b1; have HR := Lib.hid hr; have HB := Lib.hid hb; have a0 := hr.1.c0; have a1 := hr.1.c1; have b0 := hr.2.1.c0; have b1 := hr.2.1.c1; have c0 := hr.2.2.c0; have c1 := hr.2.2.c1; have f0 := hr.2.2.f 0; have f1 := hr.2.2.f 1; have hs := hr.2.2.s0 (.string ⟨#[]⟩); have d1 := hs.c1; have g1 := hs.f 1; have HS := Lib.hid (hs.s1 (.string ⟨#[]⟩)); have HBS := Lib.hid ((hb.setCell (p := ⟨w.heap.size + 1 + 1, 0, none⟩) (by show w.heap.size ≤ w.heap.size + 1 + 1; omega) (.string ⟨#[]⟩)).setCell (p := ⟨w.heap.size + 1 + 1, 1, none⟩) (by show w.heap.size ≤ w.heap.size + 1 + 1; omega) (.string ⟨#[]⟩)); clear hr hb hs))
     refine bodyPost_ret (results_ratio rfl _ _ (w.heap.size + 1 + 1) _ _ rfl HS.out) rfl ?_; exact ⟨rfl, HBS.out⟩
    ·
     rw [hz] at cm
     rw [opR, if_pos rfl] at cm ⊢
     generalize (fr (sg d x) (sg d d)).1 = o1 at *
     generalize (fr (sg d x) (sg d d)).2 = o2 at *
     have CM := Lib.hid cm
     clear cm hz
     go_enter Tryz.func19, Tryz.ntmps19
     go_wp2_with (first | (go_at_call 31; (with_reducible refine (C1.out _).mono ?_); rintro e W ⟨rfl, B⟩; have hr := And.intro (HR.out.1.keep B HR.out.1.lt) (And.intro (HR.out.2.1.keep B HR.out.2.1.lt) (HR.out.2.2.keep B HR.out.2.2.lt)); have hb := HB.out.trans (B.mono HB.out.size); clear HR HB B a0 a1 b0 b1; have HR := Lib.hid hr; have HB := Lib.hid hb; have a0 := hr.1.c0; have a1 := hr.1.c1; have b0 := hr.2.1.c0; have b1 := hr.2.1.c1; clear hr hb) | (go_at_call 31; (with_reducible refine (C2.out _).mono ?_); rintro e W ⟨rfl, B⟩; have hr := And.intro (HR.out.1.keep B HR.out.1.lt) (And.intro (HR.out.2.1.keep B HR.out.2.1.lt) (HR.out.2.2.keep B HR.out.2.2.lt)); have hb := HB.out.trans (B.mono HB.out.size); clear HR HB B a0 a1 b0 b1; have HR := Lib.hid hr; have HB := Lib.hid hb; have a0 := hr.1.c0; have a1 := hr.1.c1; have b0 := hr.2.1.c0; have b1 := hr.2.1.c1; clear hr hb) | (go_at_call 59; (with_reducible refine (MA.out _).mono ?_); rintro e W ⟨rfl, B⟩; have hr := And.intro (HR.out.1.keep B HR.out.1.lt) (And.intro (HR.out.2.1.keep B HR.out.2.1.lt) (HR.out.2.2.keep B HR.out.2.2.lt)); have hb := HB.out.trans (B.mono HB.out.size); clear HR HB B a0 a1 b0 b1; have HR := Lib.hid hr; have HB := Lib.hid hb; have a0 := hr.1.c0; have a1 := hr.1.c1; have b0 := hr.2.1.c0; have b1 := hr.2.1.c1; clear hr hb) | (go_at_call 59; (with_reducible refine (MB.out _).mono ?_); rintro e W ⟨rfl, B⟩; have hr := And.intro (HR.out.1.keep B HR.out.1.lt) (And.intro (HR.out.2.1.keep B HR.out.2.1.lt) (HR.out.2.2.keep B HR.out.2.2.lt)); have hb := HB.out.trans (B.mono HB.out.size); clear HR HB B a0 a1 b0 b1; have HR := Lib.hid hr; have HB := Lib.hid hb; have a0 := hr.1.c0; have a1 := hr.1.c1; have b0 := hr.2.1.c0; have b1 := hr.2.1.c1; clear hr hb) | (go_at_call 29; (with_reducible refine (CM.out _).mono ?_); rintro e W ⟨rfl, B⟩; have hr := And.intro (HR.out.1.keep B HR.out.1.lt) (And.intro (HR.out.2.1.keep B HR.out.2.1.lt) (HR.out.2.2.keep B HR.out.2.2.lt)); have hb := HB.out.trans (B.mono HB.out.size); clear HR HB B a0 a1 b0 b1; have HR := Lib.hid hr; have HB := Lib.hid hb; have a0 := hr.1.c0; have a1 := hr.1.c1; have b0 := hr.2.1.c0; have b1 := hr.2.1.c1; have c0 := hr.2.2.c0; have c1 := hr.2.2.c1; have f0 := hr.2.2.f 0; have f1 := hr.2.2.f 1; have hs := hr.2.2.s0 (.string o1); have d1 := hs.c1; have g1 := hs.f 1; have HS := Lib.hid (hs.s1 (.string o2)); have HBS := Lib.hid ((hb.setCell (p := ⟨w.heap.size + 1 + 1, 0, none⟩) (by show w.heap.size ≤ w.heap.size + 1 + 1; omega) (.string o1)).setCell (p := ⟨w.heap.size + 1 + 1, 1, none⟩) (by show w.heap.size ≤ w.heap.size + 1 + 1; omega) (.string o2)); clear hr hb hs))
     refine bodyPost_ret (results_ratio rfl _ _ (w.heap.size + 1 + 1) _ _ rfl HS.out) rfl ?_; exact ⟨rfl, HBS.out⟩
   ·
    rw [show fits d = false from decide_eq_false gd, Bool.and_false, Bool.and_false, Bool.false_and, opR, if_neg (by decide)]
    rw [rs, er, if_neg gd, if_neg gd] at mb
    have MA := Lib.hid ma
    have MB := Lib.hid mb
    clear ma mb gx gd
    generalize S x = sx at *
    go_enter Tryz.func19, Tryz.ntmps19
    go_wp2_with (first | (go_at_call 31; (with_reducible refine (C1.out _).mono ?_); rintro e W ⟨rfl, B⟩; have hr := And.intro (HR.out.1.keep B HR.out.1.lt) (And.intro (HR.out.2.1.keep B HR.out.2.1.lt) (HR.out.2.2.keep B HR.out.2.2.lt)); have hb := HB.out.trans (B.mono HB.out.size); clear HR HB B a0 a1 b0 b1; have HR := Lib.hid hr; have HB := Lib.hid hb; have a0 := hr.1.c0; have a1 := hr.1.c1; have b0 := hr.2.1.c0; have b1 := hr.2.1.c1; clear hr hb) | (go_at_call 31; (with_reducible refine (C2.out _).mono ?_); rintro e W ⟨rfl, B⟩; have hr := And.intro (HR.out.1.keep B HR.out.1.lt) (And.intro (HR.out.2.1.keep B HR.out.2.1.lt) (HR.out.2.2.keep B HR.out.2.2.lt)); have hb := HB.out.trans (B.mono HB.out.size); clear HR HB B a0 a1 b0 b1; have HR := Lib.hid hr; have HB := Lib.hid hb; have a0 := hr.1.c0; have a1 := hr.1.c1; have b0 := hr.2.1.c0; have b1 := hr.2.1.c1; clear hr hb) | (go_at_call 59; (with_reducible refine (MA.out _).mono ?_); rintro e W ⟨rfl, B⟩; have hr := And.intro (HR.out.1.keep B HR.out.1.lt) (And.intro (HR.out.2.1.keep B HR.out.2.1.lt) (HR.out.2.2.keep B HR.out.2.2.lt)); have hb := HB.out.trans (B.mono HB.out.size); clear HR HB B a0 a1 b0 b1; have HR := Lib.hid hr; have HB := Lib.hid hb; have a0 := hr.1.c0; have a1 := hr.1.c1; have b0 := hr.2.1.c0; have b1 := hr.2.1.c1; clear hr hb) | (go_at_call 59; (with_reducible refine (MB.out _).mono ?_); rintro e W ⟨rfl, B⟩; have hr := And.intro (HR.out.1.keep B HR.out.1.lt) (And.intro (HR.out.2.1.keep B HR.out.2.1.lt) (HR.out.2.2.keep B HR.out.2.2.lt)); have hb := HB.out.trans (B.mono HB.out.size); clear HR HB B a0 a1 b0 b1; have HR := Lib.hid hr; have HB := Lib.hid hb; have a0 := hr.1.c0; have a1 := hr.1.c1; have b0 := hr.2.1.c0; have b1 := hr.2.1.c1; have c0 := hr.2.2.c0; have c1 := hr.2.2.c1; have f0 := hr.2.2.f 0; have f1 := hr.2.2.f 1; have hs := hr.2.2.s0 (.string ⟨#[]⟩); have d1 := hs.c1; have g1 := hs.f 1; have HS := Lib.hid (hs.s1 (.string ⟨#[]⟩)); have HBS := Lib.hid ((hb.setCell (p := ⟨w.heap.size + 1 + 1, 0, none⟩) (by show w.heap.size ≤ w.heap.size + 1 + 1; omega) (.string ⟨#[]⟩)).setCell (p := ⟨w.heap.size + 1 + 1, 1, none⟩) (by show w.heap.size ≤ w.heap.size + 1 + 1; omega) (.string ⟨#[]⟩)); clear hr hb hs))
    refine bodyPost_ret (results_ratio rfl _ _ (w.heap.size + 1 + 1) _ _ rfl HS.out) rfl ?_; exact ⟨rfl, HBS.out⟩
  ·
   rw [show fits x = false from decide_eq_false gx, Bool.false_and, Bool.and_false, Bool.false_and, opR, if_neg (by decide)]
   rw [rs, er, if_neg gx, if_neg gx] at ma
   have MA := Lib.hid ma
   have MB := Lib.hid mb
   clear ma mb gx
   generalize (rs d).toArray = sd at *
   have eo : er d = 0 ∨ er d = 30 := (er_or d).imp And.left And.left
   generalize er d = ed at *
   rcases eo with rfl | rfl
   all_goals
    go_enter Tryz.func19, Tryz.ntmps19
    go_wp2_with (first | (go_at_call 31; (with_reducible refine (C1.out _).mono ?_); rintro e W ⟨rfl, B⟩; have hr := And.intro (HR.out.1.keep B HR.out.1.lt) (And.intro (HR.out.2.1.keep B HR.out.2.1.lt) (HR.out.2.2.keep B HR.out.2.2.lt)); have hb := HB.out.trans (B.mono HB.out.size); clear HR HB B a0 a1 b0 b1; have HR := Lib.hid hr; have HB := Lib.hid hb; have a0 := hr.1.c0; have a1 := hr.1.c1; have b0 := hr.2.1.c0; have b1 := hr.2.1.c1; clear hr hb) | (go_at_call 31; (with_reducible refine (C2.out _).mono ?_); rintro e W ⟨rfl, B⟩; have hr := And.intro (HR.out.1.keep B HR.out.1.lt) (And.intro (HR.out.2.1.keep B HR.out.2.1.lt) (HR.out.2.2.keep B HR.out.2.2.lt)); have hb := HB.out.trans (B.mono HB.out.size); clear HR HB B a0 a1 b0 b1; have HR := Lib.hid hr; have HB := Lib.hid hb; have a0 := hr.1.c0; have a1 := hr.1.c1; have b0 := hr.2.1.c0; have b1 := hr.2.1.c1; clear hr hb) | (go_at_call 59; (with_reducible refine (MA.out _).mono ?_); rintro e W ⟨rfl, B⟩; have hr := And.intro (HR.out.1.keep B HR.out.1.lt) (And.intro (HR.out.2.1.keep B HR.out.2.1.lt) (HR.out.2.2.keep B HR.out.2.2.lt)); have hb := HB.out.trans (B.mono HB.out.size); clear HR HB B a0 a1 b0 b1; have HR := Lib.hid hr; have HB := Lib.hid hb; have a0 := hr.1.c0; have a1 := hr.1.c1; have b0 := hr.2.1.c0; have b1 := hr.2.1.c1; clear hr hb) | (go_at_call 59; (with_reducible refine (MB.out _).mono ?_); rintro e W ⟨rfl, B⟩; have hr := And.intro (HR.out.1.keep B HR.out.1.lt) (And.intro (HR.out.2.1.keep B HR.out.2.1.lt) (HR.out.2.2.keep B HR.out.2.2.lt)); have hb := HB.out.trans (B.mono HB.out.size); clear HR HB B a0 a1 b0 b1; have HR := Lib.hid hr; have HB := Lib.hid hb; have a0 := hr.1.c0; have a1 := hr.1.c1; have b0 := hr.2.1.c0; have b1 := hr.2.1.c1; have c0 := hr.2.2.c0; have c1 := hr.2.2.c1; have f0 := hr.2.2.f 0; have f1 := hr.2.2.f 1; have hs := hr.2.2.s0 (.string ⟨#[]⟩); have d1 := hs.c1; have g1 := hs.f 1; have HS := Lib.hid (hs.s1 (.string ⟨#[]⟩)); have HBS := Lib.hid ((hb.setCell (p := ⟨w.heap.size + 1 + 1, 0, none⟩) (by show w.heap.size ≤ w.heap.size + 1 + 1; omega) (.string ⟨#[]⟩)).setCell (p := ⟨w.heap.size + 1 + 1, 1, none⟩) (by show w.heap.size ≤ w.heap.size + 1 + 1; omega) (.string ⟨#[]⟩)); clear hr hb hs))
    refine bodyPost_ret (results_ratio rfl _ _ (w.heap.size + 1 + 1) _ _ rfl HS.out) rfl ?_; exact ⟨rfl, HBS.out⟩
set_option maxRecDepth 100000 in
set_option maxHeartbeats 4000000 in
theorem v4Div_any :
  Calls Tryz.prog 20 #[.agg #[.string s1, .string s2], .agg #[.string s3, .string s4]] w fun e w' => e = .returned (opR (vR L1 L2 && vR L3 L4 && (fits (num L1 * num L4) && fits (num L2 * num L3)) && decide (num L2 * num L3 ≠ 0)) (sg (num L2 * num L3) (num L1 * num L4)) (sg (num L2 * num L3) (num L2 * num L3))) ∧ Below w.heap.size w w' := by
 have c1 := fun W => v4Valid_any s1 s2 L1 L2 W hL1 hL2 hl1 hl2
 have c2 := fun W => v4Valid_any s3 s4 L3 L4 W hL3 hL4 hl3 hl4
 obtain ⟨r1, r2, r3⟩ := three_ratios w (.string s1) (.string s2) (.string s3) (.string s4) (.string ⟨#[]⟩) (.string ⟨#[]⟩)
 have HB := Lib.hid (((below_alloc w (.cells #[.string s1, .string s2] 23)).alloc (by rw [World.size_alloc]; omega) (.cells #[.string s3, .string s4] 23)).alloc (by rw [World.size_alloc, World.size_alloc]; omega) (.cells #[.string ⟨#[]⟩, .string ⟨#[]⟩] 23))
 have a0 := r1.c0
 have a1 := r1.c1
 have b0 := r2.c0
 have b1 := r2.c1
 have HR := Lib.hid (And.intro r1 (And.intro r2 r3))
 clear r1 r2 r3
 cases hv : vR L1 L2 && vR L3 L4
 ·
  rw [Bool.false_and, Bool.false_and, opR, if_neg (by decide)]
  generalize vR L1 L2 = v1 at *
  generalize vR L3 L4 = v2 at *
  have C1 := Lib.hid c1
  have C2 := Lib.hid c2
  clear c1 c2 hL1 hL2 hL3 hL4 hl1 hl2 hl3 hl4
  cases v1 <;> cases v2 <;> first | (exact absurd hv (by decide)) | skip
  all_goals
   clear hv
   go_enter Tryz.func20, Tryz.ntmps20
   go_wp2_with (first | (go_at_call 31; (with_reducible refine (C1.out _).mono ?_); rintro e W ⟨rfl, B⟩; have hr := And.intro (HR.out.1.keep B HR.out.1.lt) (And.intro (HR.out.2.1.keep B HR.out.2.1.lt) (HR.out.2.2.keep B HR.out.2.2.lt)); have hb := HB.out.trans (B.mono HB.out.size); clear HR HB B a0 a1 b0 b1; have HR := Lib.hid hr; have HB := Lib.hid hb; have a0 := hr.1.c0; have a1 := hr.1.c1; have b0 := hr.2.1.c0; have b1 := hr.2.1.c1; clear hr hb) | (go_at_call 31; (with_reducible refine (C2.out _).mono ?_); rintro e W ⟨rfl, B⟩; have hr := And.intro (HR.out.1.keep B HR.out.1.lt) (And.intro (HR.out.2.1.keep B HR.out.2.1.lt) (HR.out.2.2.keep B HR.out.2.2.lt)); have hb := HB.out.trans (B.mono HB.out.size); clear HR HB B a0 a1 b0 b1; have HR := Lib.hid hr; have HB := Lib.hid hb; have a0 := hr.1.c0; have a1 := hr.1.c1; have b0 := hr.2.1.c0; have b1 := hr.2.1.c1; have c0 := hr.2.2.c0; have c1 := hr.2.2.c1; have f0 := hr.2.2.f 0; have f1 := hr.2.2.f 1; have hs := hr.2.2.s0 (.string ⟨#[]⟩); have d1 := hs.c1; have g1 := hs.f 1; have HS := Lib.hid (hs.s1 (.string ⟨#[]⟩)); have HBS := Lib.hid ((hb.setCell (p := ⟨w.heap.size + 1 + 1, 0, none⟩) (by show w.heap.size ≤ w.heap.size + 1 + 1; omega) (.string ⟨#[]⟩)).setCell (p := ⟨w.heap.size + 1 + 1, 1, none⟩) (by show w.heap.size ≤ w.heap.size + 1 + 1; omega) (.string ⟨#[]⟩)); clear hr hb hs))
   refine bodyPost_ret (results_ratio rfl _ _ (w.heap.size + 1 + 1) _ _ rfl HS.out) rfl ?_; exact ⟨rfl, HBS.out⟩
 ·
  have hb := (Bool.and_eq_true _ _).mp hv
  rw [hb.1] at c1
  rw [hb.2] at c2
  have p1 := vR_parts hb.1
  have p2 := vR_parts hb.2
  have ma := fun W => mul_any s1 s4 L1 L4 W hL1 hL4 p1.1 p2.2.1
  have mb := fun W => mul_any s2 s3 L2 L3 W hL2 hL3 p1.2.1 p2.1
  clear hv hb p1 p2 hL1 hL2 hL3 hL4 hl1 hl2 hl3 hl4
  generalize num L1 * num L4 = x at *
  generalize num L2 * num L3 = d at *
  have C1 := Lib.hid c1
  have C2 := Lib.hid c2
  clear c1 c2
  by_cases gx : x.natAbs < 10 ^ 200
  ·
   rw [rs_S gx, er, if_pos gx] at ma
   rw [show fits x = true from decide_eq_true gx]
   by_cases gd : d.natAbs < 10 ^ 200
   ·
    rw [rs_S gd, er, if_pos gd] at mb
    rw [show fits d = true from decide_eq_true gd, Bool.and_true, Bool.and_true, Bool.true_and]
    have cm := fun W => make_G x d gx gd W
    have MA := Lib.hid ma
    have MB := Lib.hid mb
    clear ma mb gx gd
    generalize S x = sx at *
    generalize S d = sd at *
    cases hz : decide (d ≠ 0)
    ·
     rw [hz] at cm
     rw [opR, if_neg (by decide)] at cm ⊢
     have CM := Lib.hid cm
     clear cm hz
     go_enter Tryz.func20, Tryz.ntmps20
     go_wp2_with (first | (go_at_call 31; (with_reducible refine (C1.out _).mono ?_); rintro e W ⟨rfl, B⟩; have hr := And.intro (HR.out.1.keep B HR.out.1.lt) (And.intro (HR.out.2.1.keep B HR.out.2.1.lt) (HR.out.2.2.keep B HR.out.2.2.lt)); have hb := HB.out.trans (B.mono HB.out.size); clear HR HB B a0 a1 b0 b1; have HR := Lib.hid hr; have HB := Lib.hid hb; have a0 := hr.1.c0; have a1 := hr.1.c1; have b0 := hr.2.1.c0; have b1 := hr.2.1.c1; clear hr hb) | (go_at_call 31; (with_reducible refine (C2.out _).mono ?_); rintro e W ⟨rfl, B⟩; have hr := And.intro (HR.out.1.keep B HR.out.1.lt) (And.intro (HR.out.2.1.keep B HR.out.2.1.lt) (HR.out.2.2.keep B HR.out.2.2.lt)); have hb := HB.out.trans (B.mono HB.out.size); clear HR HB B a0 a1 b0 b1; have HR := Lib.hid hr; have HB := Lib.hid hb; have a0 := hr.1.c0; have a1 := hr.1.c1; have b0 := hr.2.1.c0; have b1 := hr.2.1.c1; clear hr hb) | (go_at_call 59; (with_reducible refine (MA.out _).mono ?_); rintro e W ⟨rfl, B⟩; have hr := And.intro (HR.out.1.keep B HR.out.1.lt) (And.intro (HR.out.2.1.keep B HR.out.2.1.lt) (HR.out.2.2.keep B HR.out.2.2.lt)); have hb := HB.out.trans (B.mono HB.out.size); clear HR HB B a0 a1 b0 b1; have HR := Lib.hid hr; have HB := Lib.hid hb; have a0 := hr.1.c0; have a1 := hr.1.c1; have b0 := hr.2.1.c0; have b1 := hr.2.1.c1; clear hr hb) | (go_at_call 59; (with_reducible refine (MB.out _).mono ?_); rintro e W ⟨rfl, B⟩; have hr := And.intro (HR.out.1.keep B HR.out.1.lt) (And.intro (HR.out.2.1.keep B HR.out.2.1.lt) (HR.out.2.2.keep B HR.out.2.2.lt)); have hb := HB.out.trans (B.mono HB.out.size); clear HR HB B a0 a1 b0 b1; have HR := Lib.hid hr; have HB := Lib.hid hb; have a0 := hr.1.c0; have a1 := hr.1.c1; have b0 := hr.2.1.c0; have b1 := hr.2.1.c1; clear hr hb) | (go_at_call 29; (with_reducible refine (CM.out _).mono ?_); rintro e W ⟨rfl, B⟩; have hr := And.intro (HR.out.1.keep B HR.out.1.lt) (And.intro (HR.out.2.1.keep B HR.out.2.1.lt) (HR.out.2.2.keep B HR.out.2.2.lt)); have hb := HB.out.trans (B.mono HB.out.size); clear HR HB B a0 a1 b0 b1; have HR := Lib.hid hr; have HB := Lib.hid hb; have a0 := hr.1.c0; have a1 := hr.1.c1; have b0 := hr.2.1.c0; have b1 := hr.2.1.c1; have c0 := hr.2.2.c0; have c1 := hr.2.2.c1; have f0 := hr.2.2.f 0; have f1 := hr.2.2.f 1; have hs := hr.2.2.s0 (.string ⟨#[]⟩); have d1 := hs.c1; have g1 := hs.f 1; have HS := Lib.hid (hs.s1 (.string ⟨#[]⟩)); have HBS := Lib.hid ((hb.setCell (p := ⟨w.heap.size + 1 + 1, 0, none⟩) (by show w.heap.size ≤ w.heap.size + 1 + 1; omega) (.string ⟨#[]⟩)).setCell (p := ⟨w.heap.size + 1 + 1, 1, none⟩) (by show w.heap.size ≤ w.heap.size + 1 + 1; omega) (.string ⟨#[]⟩)); clear hr hb hs))
     refine bodyPost_ret (results_ratio rfl _ _ (w.heap.size + 1 + 1) _ _ rfl HS.out) rfl ?_; exact ⟨rfl, HBS.out⟩
    ·
     rw [hz] at cm
     rw [opR, if_pos rfl] at cm ⊢
     generalize (fr (sg d x) (sg d d)).1 = o1 at *
     generalize (fr (sg d x) (sg d d)).2 = o2 at *
     have CM := Lib.hid cm
     clear cm hz
     go_enter Tryz.func20, Tryz.ntmps20
     go_wp2_with (first | (go_at_call 31; (with_reducible refine (C1.out _).mono ?_); rintro e W ⟨rfl, B⟩; have hr := And.intro (HR.out.1.keep B HR.out.1.lt) (And.intro (HR.out.2.1.keep B HR.out.2.1.lt) (HR.out.2.2.keep B HR.out.2.2.lt)); have hb := HB.out.trans (B.mono HB.out.size); clear HR HB B a0 a1 b0 b1; have HR := Lib.hid hr; have HB := Lib.hid hb; have a0 := hr.1.c0; have a1 := hr.1.c1; have b0 := hr.2.1.c0; have b1 := hr.2.1.c1; clear hr hb) | (go_at_call 31; (with_reducible refine (C2.out _).mono ?_); rintro e W ⟨rfl, B⟩; have hr := And.intro (HR.out.1.keep B HR.out.1.lt) (And.intro (HR.out.2.1.keep B HR.out.2.1.lt) (HR.out.2.2.keep B HR.out.2.2.lt)); have hb := HB.out.trans (B.mono HB.out.size); clear HR HB B a0 a1 b0 b1; have HR := Lib.hid hr; have HB := Lib.hid hb; have a0 := hr.1.c0; have a1 := hr.1.c1; have b0 := hr.2.1.c0; have b1 := hr.2.1.c1; clear hr hb) | (go_at_call 59; (with_reducible refine (MA.out _).mono ?_); rintro e W ⟨rfl, B⟩; have hr := And.intro (HR.out.1.keep B HR.out.1.lt) (And.intro (HR.out.2.1.keep B HR.out.2.1.lt) (HR.out.2.2.keep B HR.out.2.2.lt)); have hb := HB.out.trans (B.mono HB.out.size); clear HR HB B a0 a1 b0 b1; have HR := Lib.hid hr; have HB := Lib.hid hb; have a0 := hr.1.c0; have a1 := hr.1.c1; have b0 := hr.2.1.c0; have b1 := hr.2.1.c1; clear hr hb) | (go_at_call 59; (with_reducible refine (MB.out _).mono ?_); rintro e W ⟨rfl, B⟩; have hr := And.intro (HR.out.1.keep B HR.out.1.lt) (And.intro (HR.out.2.1.keep B HR.out.2.1.lt) (HR.out.2.2.keep B HR.out.2.2.lt)); have hb := HB.out.trans (B.mono HB.out.size); clear HR HB B a0 a1 b0 b1; have HR := Lib.hid hr; have HB := Lib.hid hb; have a0 := hr.1.c0; have a1 := hr.1.c1; have b0 := hr.2.1.c0; have b1 := hr.2.1.c1; clear hr hb) | (go_at_call 29; (with_reducible refine (CM.out _).mono ?_); rintro e W ⟨rfl, B⟩; have hr := And.intro (HR.out.1.keep B HR.out.1.lt) (And.intro (HR.out.2.1.keep B HR.out.2.1.lt) (HR.out.2.2.keep B HR.out.2.2.lt)); have hb := HB.out.trans (B.mono HB.out.size); clear HR HB B a0 a1 b0 b1; have HR := Lib.hid hr; have HB := Lib.hid hb; have a0 := hr.1.c0; have a1 := hr.1.c1; have b0 := hr.2.1.c0; have b1 := hr.2.1.c1; have c0 := hr.2.2.c0; have c1 := hr.2.2.c1; have f0 := hr.2.2.f 0; have f1 := hr.2.2.f 1; have hs := hr.2.2.s0 (.string o1); have d1 := hs.c1; have g1 := hs.f 1; have HS := Lib.hid (hs.s1 (.string o2)); have HBS := Lib.hid ((hb.setCell (p := ⟨w.heap.size + 1 + 1, 0, none⟩) (by show w.heap.size ≤ w.heap.size + 1 + 1; omega) (.string o1)).setCell (p := ⟨w.heap.size + 1 + 1, 1, none⟩) (by show w.heap.size ≤ w.heap.size + 1 + 1; omega) (.string o2)); clear hr hb hs))
     refine bodyPost_ret (results_ratio rfl _ _ (w.heap.size + 1 + 1) _ _ rfl HS.out) rfl ?_; exact ⟨rfl, HBS.out⟩
   ·
    rw [show fits d = false from decide_eq_false gd, Bool.and_false, Bool.and_false, Bool.false_and, opR, if_neg (by decide)]
    rw [rs, er, if_neg gd, if_neg gd] at mb
    have MA := Lib.hid ma
    have MB := Lib.hid mb
    clear ma mb gx gd
    generalize S x = sx at *
    go_enter Tryz.func20, Tryz.ntmps20
    go_wp2_with (first | (go_at_call 31; (with_reducible refine (C1.out _).mono ?_); rintro e W ⟨rfl, B⟩; have hr := And.intro (HR.out.1.keep B HR.out.1.lt) (And.intro (HR.out.2.1.keep B HR.out.2.1.lt) (HR.out.2.2.keep B HR.out.2.2.lt)); have hb := HB.out.trans (B.mono HB.out.size); clear HR HB B a0 a1 b0 b1; have HR := Lib.hid hr; have HB := Lib.hid hb; have a0 := hr.1.c0; have a1 := hr.1.c1; have b0 := hr.2.1.c0; have b1 := hr.2.1.c1; clear hr hb) | (go_at_call 31; (with_reducible refine (C2.out _).mono ?_); rintro e W ⟨rfl, B⟩; have hr := And.intro (HR.out.1.keep B HR.out.1.lt) (And.intro (HR.out.2.1.keep B HR.out.2.1.lt) (HR.out.2.2.keep B HR.out.2.2.lt)); have hb := HB.out.trans (B.mono HB.out.size); clear HR HB B a0 a1 b0 b1; have HR := Lib.hid hr; have HB := Lib.hid hb; have a0 := hr.1.c0; have a1 := hr.1.c1; have b0 := hr.2.1.c0; have b1 := hr.2.1.c1; clear hr hb) | (go_at_call 59; (with_reducible refine (MA.out _).mono ?_); rintro e W ⟨rfl, B⟩; have hr := And.intro (HR.out.1.keep B HR.out.1.lt) (And.intro (HR.out.2.1.keep B HR.out.2.1.lt) (HR.out.2.2.keep B HR.out.2.2.lt)); have hb := HB.out.trans (B.mono HB.out.size); clear HR HB B a0 a1 b0 b1; have HR := Lib.hid hr; have HB := Lib.hid hb; have a0 := hr.1.c0; have a1 := hr.1.c1; have b0 := hr.2.1.c0; have b1 := hr.2.1.c1; clear hr hb) | (go_at_call 59; (with_reducible refine (MB.out _).mono ?_); rintro e W ⟨rfl, B⟩; have hr := And.intro (HR.out.1.keep B HR.out.1.lt) (And.intro (HR.out.2.1.keep B HR.out.2.1.lt) (HR.out.2.2.keep B HR.out.2.2.lt)); have hb := HB.out.trans (B.mono HB.out.size); clear HR HB B a0 a1 b0 b1; have HR := Lib.hid hr; have HB := Lib.hid hb; have a0 := hr.1.c0; have a1 := hr.1.c1; have b0 := hr.2.1.c0; have b1 := hr.2.1.c1; have c0 := hr.2.2.c0; have c1 := hr.2.2.c1; have f0 := hr.2.2.f 0; have f1 := hr.2.2.f 1; have hs := hr.2.2.s0 (.string ⟨#[]⟩); have d1 := hs.c1; have g1 := hs.f 1; have HS := Lib.hid (hs.s1 (.string ⟨#[]⟩)); have HBS := Lib.hid ((hb.setCell (p := ⟨w.heap.size + 1 + 1, 0, none⟩) (by show w.heap.size ≤ w.heap.size + 1 + 1; omega) (.string ⟨#[]⟩)).setCell (p := ⟨w.heap.size + 1 + 1, 1, none⟩) (by show w.heap.size ≤ w.heap.size + 1 + 1; omega) (.string ⟨#[]⟩)); clear hr hb hs))
    refine bodyPost_ret (results_ratio rfl _ _ (w.heap.size + 1 + 1) _ _ rfl HS.out) rfl ?_; exact ⟨rfl, HBS.out⟩
  ·
   rw [show fits x = false from decide_eq_false gx, Bool.false_and, Bool.and_false, Bool.false_and, opR, if_neg (by decide)]
   rw [rs, er, if_neg gx, if_neg gx] at ma
   have MA := Lib.hid ma
   have MB := Lib.hid mb
   clear ma mb gx
   generalize (rs d).toArray = sd at *
   have eo : er d = 0 ∨ er d = 30 := (er_or d).imp And.left And.left
   generalize er d = ed at *
   rcases eo with rfl | rfl
   all_goals
    go_enter Tryz.func20, Tryz.ntmps20
    go_wp2_with (first | (go_at_call 31; (with_reducible refine (C1.out _).mono ?_); rintro e W ⟨rfl, B⟩; have hr := And.intro (HR.out.1.keep B HR.out.1.lt) (And.intro (HR.out.2.1.keep B HR.out.2.1.lt) (HR.out.2.2.keep B HR.out.2.2.lt)); have hb := HB.out.trans (B.mono HB.out.size); clear HR HB B a0 a1 b0 b1; have HR := Lib.hid hr; have HB := Lib.hid hb; have a0 := hr.1.c0; have a1 := hr.1.c1; have b0 := hr.2.1.c0; have b1 := hr.2.1.c1; clear hr hb) | (go_at_call 31; (with_reducible refine (C2.out _).mono ?_); rintro e W ⟨rfl, B⟩; have hr := And.intro (HR.out.1.keep B HR.out.1.lt) (And.intro (HR.out.2.1.keep B HR.out.2.1.lt) (HR.out.2.2.keep B HR.out.2.2.lt)); have hb := HB.out.trans (B.mono HB.out.size); clear HR HB B a0 a1 b0 b1; have HR := Lib.hid hr; have HB := Lib.hid hb; have a0 := hr.1.c0; have a1 := hr.1.c1; have b0 := hr.2.1.c0; have b1 := hr.2.1.c1; clear hr hb) | (go_at_call 59; (with_reducible refine (MA.out _).mono ?_); rintro e W ⟨rfl, B⟩; have hr := And.intro (HR.out.1.keep B HR.out.1.lt) (And.intro (HR.out.2.1.keep B HR.out.2.1.lt) (HR.out.2.2.keep B HR.out.2.2.lt)); have hb := HB.out.trans (B.mono HB.out.size); clear HR HB B a0 a1 b0 b1; have HR := Lib.hid hr; have HB := Lib.hid hb; have a0 := hr.1.c0; have a1 := hr.1.c1; have b0 := hr.2.1.c0; have b1 := hr.2.1.c1; clear hr hb) | (go_at_call 59; (with_reducible refine (MB.out _).mono ?_); rintro e W ⟨rfl, B⟩; have hr := And.intro (HR.out.1.keep B HR.out.1.lt) (And.intro (HR.out.2.1.keep B HR.out.2.1.lt) (HR.out.2.2.keep B HR.out.2.2.lt)); have hb := HB.out.trans (B.mono HB.out.size); clear HR HB B a0 a1 b0 b1; have HR := Lib.hid hr; have HB := Lib.hid hb; have a0 := hr.1.c0; have a1 := hr.1.c1; have b0 := hr.2.1.c0; have b1 := hr.2.1.c1; have c0 := hr.2.2.c0; have c1 := hr.2.2.c1; have f0 := hr.2.2.f 0; have f1 := hr.2.2.f 1; have hs := hr.2.2.s0 (.string ⟨#[]⟩); have d1 := hs.c1; have g1 := hs.f 1; have HS := Lib.hid (hs.s1 (.string ⟨#[]⟩)); have HBS := Lib.hid ((hb.setCell (p := ⟨w.heap.size + 1 + 1, 0, none⟩) (by show w.heap.size ≤ w.heap.size + 1 + 1; omega) (.string ⟨#[]⟩)).setCell (p := ⟨w.heap.size + 1 + 1, 1, none⟩) (by show w.heap.size ≤ w.heap.size + 1 + 1; omega) (.string ⟨#[]⟩)); clear hr hb hs))
    refine bodyPost_ret (results_ratio rfl _ _ (w.heap.size + 1 + 1) _ _ rfl HS.out) rfl ?_; exact ⟨rfl, HBS.out⟩
end Go.Proofs.YtdnbhgkbfbgnaaaGreatDoor
namespace Go.Proofs.YtdnbhgkbfbgnaaaGreatDoor
open Go.RowKit
theorem res_f (z : Int) : res false z = [] := rfl
theorem ree_f (z : Int) : ree false z = 30 := rfl
set_option maxRecDepth 100000 in
set_option maxHeartbeats 2000000 in
theorem qValid_any (s1 s2 : ByteArray) (L1 L2 : List UInt8) (w : World) (hL1 : s1.data.toList = L1) (hL2 : s2.data.toList = L2) (hl1 : L1.length ≤ 60000) (hl2 : L2.length ≤ 60000) :
  Calls Tryz.prog 30 #[.agg #[.string s1, .string s2]] w fun e w' => e = .returned (.bool (vR L1 L2)) ∧ Below w.heap.size w w' := by
 have cg := fun W => Gcd_any s1 s2 L1 L2 W hL1 hL2 hl1 hl2
 have cc := fun W => Compare_any s2 ⟨#[48]⟩ L2 [48] W hL2 rfl hl2 (by decide)
 have sb := SB.new w s1 s2 23
 have HB := Lib.hid (below_alloc w (.cells #[.string s1, .string s2] 23))
 have e0 := sb.2.1
 have e1 := sb.2.2
 have HS := Lib.hid sb
 clear sb
 cases hv : vld L1 && vld L2
 ·
  rw [vR, hv, Bool.false_and, Bool.false_and]
  rw [hv, ree_f, res_f] at cg
  have CG := Lib.hid cg
  clear cg cc hL1 hL2 hl1 hl2 hv
  go_enter Tryz.func30, Tryz.ntmps30
  go_wp2_with (go_at_call 75; (with_reducible refine (CG.out _).mono ?_); rintro e w2 ⟨rfl, B2⟩; have HB2 := Lib.hid (HB.out.trans (B2.mono HB.out.size)); clear B2)
  go_ret
  exact ⟨rfl, HB2.out⟩
 ·
  have hb := (Bool.and_eq_true _ _).mp hv
  have hg9 := gcd_lt hb.1 hb.2
  rw [hv, res, ree, rs, er, if_pos rfl, if_pos rfl, Int.natAbs_natCast, if_pos hg9, if_pos hg9] at cg
  rw [hb.2, show vld [48] = true by decide, Bool.and_true, if_pos rfl, show num [48] = 0 by decide] at cc
  rw [vR, hv, Bool.true_and]
  have hq := S1_tl ((Nat.gcd (num L1).natAbs (num L2).natAbs : Nat) : Int)
  have hd : decide (((Nat.gcd (num L1).natAbs (num L2).natAbs : Nat) : Int) = 1) = decide (Nat.gcd (num L1).natAbs (num L2).natAbs = 1) := by rw [decide_eq_decide]; omega
  rw [hd] at hq
  change (ByteArray.toList ⟨(txt ((Nat.gcd (num L1).natAbs (num L2).natAbs : Nat) : Int)).toArray⟩ == [49]) = _ at hq
  have hp : decide (0 < num L2) = decide (cmpN (num L2) 0 > 0) := by
   rw [decide_eq_decide, cmpN]; split <;> (try split) <;> omega
  rw [hp]
  generalize decide (Nat.gcd (num L1).natAbs (num L2).natAbs = 1) = B at *
  generalize (txt ((Nat.gcd (num L1).natAbs (num L2).natAbs : Nat) : Int)).toArray = g at *
  generalize cmpN (num L2) 0 = z at *
  have CG := Lib.hid cg
  have CC := Lib.hid cc
  clear cg cc hL1 hL2 hl1 hl2 hv hb hg9 hd hp
  cases B
  ·
   rw [Bool.and_false]
   go_enter Tryz.func30, Tryz.ntmps30
   go_wp2_with (go_at_call 75; (with_reducible refine (CG.out _).mono ?_); rintro e w2 ⟨rfl, B2⟩; have HB2 := Lib.hid (HB.out.trans (B2.mono HB.out.size)); clear B2)
   go_ret
   exact ⟨rfl, HB2.out⟩
  ·
   rw [Bool.and_true]
   go_enter Tryz.func30, Tryz.ntmps30
   go_wp2_with (first | (go_at_call 75; (with_reducible refine (CG.out _).mono ?_); rintro e w2 ⟨rfl, B2⟩; have sb := HS.out.keep B2; have f0 := sb.2.1; have f1 := sb.2.2; have HB2 := Lib.hid (HB.out.trans (B2.mono HB.out.size)); clear sb B2) | (go_at_call 61; (with_reducible refine (CC.out _).mono ?_); rintro e w3 ⟨rfl, B3⟩; have HB3 := Lib.hid (HB2.out.trans (B3.mono HB2.out.size)); clear B3))
   go_ret
   exact ⟨rfl, HB3.out⟩
def RV (q : Rat) : Value := .agg #[.string (S q.num), .string (S (q.den : Int))]
def RZ : Value := .agg #[.string ⟨#[]⟩, .string ⟨#[]⟩]
def opQ (ok : Bool) (q : Rat) : Value := if ok then .tuple #[RV q, .int .i64 0] else .tuple #[RZ, .int .i64 40]
def fitR (k : Nat) (q : Rat) : Prop := q.num.natAbs < 10 ^ k ∧ q.den < 10 ^ k
theorem fitR.wide {k l : Nat} {q : Rat} (h : fitR k q) (hl : k ≤ l) : fitR l q :=
 ⟨Nat.lt_of_lt_of_le h.1 (Nat.pow_le_pow_right (by decide) hl), Nat.lt_of_lt_of_le h.2 (Nat.pow_le_pow_right (by decide) hl)⟩
theorem den_pos (q : Rat) : (0 : Int) < (q.den : Int) := by have := q.den_pos; omega
theorem fr_R (n d : Int) (h : 0 < d) : fr n d = (S (mkRat n d.toNat).num, S ((mkRat n d.toNat).den : Int)) := by
 obtain ⟨k, rfl⟩ : ∃ k : Nat, d = (k : Int) := ⟨d.toNat, by omega⟩
 have hk : k ≠ 0 := by omega
 rw [fr, Int.toNat_natCast, Rat.num_mkRat, Rat.den_mkRat, if_neg hk, if_neg hk, Int.natAbs_natCast, Nat.gcd_comm k, Int.natCast_ediv]
theorem opR_R (ok : Bool) (n d : Int) (h : ok = true → 0 < d) : opR ok n d = opQ ok (mkRat n d.toNat) := by
 cases ok
 ·
  rw [opR, opQ, if_neg (by decide), if_neg (by decide)]; rfl
 ·
  rw [opR, opQ, if_pos rfl, if_pos rfl, fr_R n d (h rfl)]; rfl
theorem vR_q (q : Rat) (h : fitR 200 q) : vR (txt q.num) (txt (q.den : Int)) = true := by
 rw [vR, txt_vld h.1, txt_vld (by rw [Int.natAbs_natCast]; exact h.2), txt_num, txt_num, Int.natAbs_natCast, decide_eq_true (den_pos q), decide_eq_true (show Nat.gcd q.num.natAbs q.den = 1 from q.reduced)]
 rfl
theorem vR_parts2 {L1 L2 : List UInt8} (h : vR L1 L2 = true) : vld L1 = true ∧ vld L2 = true ∧ 0 < num L2 ∧ Nat.gcd (num L1).natAbs (num L2).natAbs = 1 := by
 rw [vR, Bool.and_eq_true, Bool.and_eq_true, Bool.and_eq_true] at h
 exact ⟨h.1.1.1, h.1.1.2, of_decide_eq_true h.1.2, of_decide_eq_true h.2⟩
theorem vR_R {L1 L2 : List UInt8} (h : vR L1 L2 = true) : ∃ q : Rat, L1 = txt q.num ∧ L2 = txt (q.den : Int) ∧ fitR 200 q := by
 obtain ⟨h1, h2, h3, h4⟩ := vR_parts2 h
 have e1 := (vld_txt h1).2
 have e2 := (vld_txt h2).2
 refine ⟨⟨num L1, (num L2).natAbs, by omega, h4⟩, (txt_lit h1).symm, ?_, e1, e2⟩
 show L2 = txt (((num L2).natAbs : Nat) : Int)
 rw [show (((num L2).natAbs : Nat) : Int) = num L2 by omega, txt_lit h2]
theorem S_of {s : ByteArray} {L : List UInt8} {z : Int} (h : s.data.toList = L) (e : L = txt z) : s = S z := by
 have : s.data.toList = (S z).data.toList := by rw [h, e, S_list]
 cases s with | mk d => rw [S]; congr 1; rw [← e, ← h]
theorem div_R (a b : Rat) : a / b = Rat.divInt (a.num * b.den) (a.den * b.num) := by
 rw [Rat.div_def, Rat.inv_def]
 conv => lhs; rw [← Rat.num_divInt_den a]
 rw [Rat.divInt_mul_divInt]
theorem sg_R (x d : Int) : mkRat (sg d x) (sg d d).toNat = Rat.divInt x d := by
 unfold sg
 by_cases hd : d < 0
 ·
  rw [if_pos hd, if_pos hd, ← Rat.neg_divInt_neg x d, ← Rat.divInt_ofNat]
  congr 1; omega
 ·
  rw [if_neg hd, if_neg hd, ← Rat.divInt_ofNat]
  congr 1; omega
theorem sg_pos {d : Int} (h : d ≠ 0) : 0 < sg d d := by unfold sg; split <;> omega
def okA (a b : Rat) : Bool := fits (a.num * b.den) && fits (b.num * a.den) && fits (a.den * b.den) && fits (a.num * b.den + b.num * a.den)
def okS (a b : Rat) : Bool := fits (a.num * b.den) && fits (b.num * a.den) && fits (a.den * b.den) && fits (a.num * b.den - b.num * a.den)
def okM (a b : Rat) : Bool := fits (a.num * b.num) && fits (a.den * b.den)
def okD (a b : Rat) : Bool := fits (a.num * b.den) && fits (a.den * b.num) && decide (b.num ≠ 0)
def cmpR (a b : Rat) : Int := if a < b then -1 else if b < a then 1 else 0
theorem cmpR_N (a b : Rat) : cmpN (a.num * b.den) (b.num * a.den) = cmpR a b := by
 rw [cmpN, cmpR]
 by_cases h : a.num * b.den < b.num * a.den
 ·
  rw [if_pos h, if_pos ((Rat.lt_iff a b).2 h)]
 ·
  rw [if_neg h, if_neg (fun e => h ((Rat.lt_iff a b).1 e))]
  by_cases h2 : b.num * a.den < a.num * b.den
  ·
   rw [if_pos h2, if_pos ((Rat.lt_iff b a).2 h2)]
  ·
   rw [if_neg h2, if_neg (fun e => h2 ((Rat.lt_iff b a).1 e))]
theorem mk_fit {n : Int} {d k : Nat} (hn : n.natAbs < 10 ^ k) (hd : d < 10 ^ k) (h0 : 0 < d) : fitR k (mkRat n d) := by
 have hd0 : d ≠ 0 := by omega
 constructor
 ·
  rw [Rat.num_mkRat, if_neg hd0]
  exact Nat.lt_of_le_of_lt (Int.natAbs_ediv_le_natAbs _ _) hn
 ·
  rw [Rat.den_mkRat, if_neg hd0]
  exact Nat.lt_of_le_of_lt (Nat.div_le_self _ _) hd
theorem cmpR_bd (a b : Rat) : cmpR a b = -1 ∨ cmpR a b = 0 ∨ cmpR a b = 1 := by
 unfold cmpR; split
 ·
  exact .inl rfl
 ·
  split
  ·
   exact .inr (.inr rfl)
  ·
   exact .inr (.inl rfl)
def dnN (q : Rat) (t : Nat) : Int := (q.num * t) / q.den
def upN (q : Rat) (t : Nat) : Int := if (q.num * t) % q.den = 0 then (q.num * t) / q.den else (q.num * t) / q.den + 1
set_option maxRecDepth 100000 in
set_option maxHeartbeats 2000000 in
theorem reduced_no (s1 s2 : ByteArray) (L1 L2 : List UInt8) (w : World) (hL1 : s1.data.toList = L1) (hL2 : s2.data.toList = L2) (hl1 : L1.length ≤ 60000) (hl2 : L2.length ≤ 60000) (hv : (vld L1 && vld L2) = true → num L2 = 0) :
  Calls Tryz.prog 70 #[.agg #[.string s1, .string s2]] w fun e w' => e = .returned (.tuple #[.agg #[.string ⟨#[]⟩, .string ⟨#[]⟩], .int .i64 40]) ∧ Below w.heap.size w w' := by
 have cg := fun W => Gcd_any s1 s2 L1 L2 W hL1 hL2 hl1 hl2
 obtain ⟨r1, r2⟩ := two_ratios w (.string s1) (.string s2) (.string ⟨#[]⟩) (.string ⟨#[]⟩)
 have HB := Lib.hid ((below_alloc w (.cells #[.string s1, .string s2] 23)).alloc (by rw [World.size_alloc]; omega) (.cells #[.string ⟨#[]⟩, .string ⟨#[]⟩] 23))
 have a0 := r1.c0
 have a1 := r1.c1
 have HR := Lib.hid (And.intro r1 r2)
 clear r1 r2
 cases hb : vld L1 && vld L2
 ·
  rw [hb, ree_f, res_f] at cg
  have CG := Lib.hid cg
  clear cg hL1 hL2 hl1 hl2 hv hb
  go_enter Tryz.func70, Tryz.ntmps70
  go_wp2_with (go_at_call 75; (with_reducible refine (CG.out _).mono ?_); rintro e W ⟨rfl, B⟩; have hr := (And.intro (HR.out.1.keep B HR.out.1.lt) (HR.out.2.keep B HR.out.2.lt)); have hb := HB.out.trans (B.mono HB.out.size); clear HR HB B a0 a1; have HR := Lib.hid hr; have HB := Lib.hid hb; have a0 := hr.1.c0; have a1 := hr.1.c1; have c0 := hr.2.c0; have c1 := hr.2.c1; have f0 := hr.2.f 0; have f1 := hr.2.f 1; have hs := hr.2.s0 (.string ⟨#[]⟩); have d1 := hs.c1; have g1 := hs.f 1; have HS := Lib.hid (hs.s1 (.string ⟨#[]⟩)); have HBS := Lib.hid ((hb.setCell (p := ⟨w.heap.size + 1, 0, none⟩) (by show w.heap.size ≤ w.heap.size + 1; omega) (.string ⟨#[]⟩)).setCell (p := ⟨w.heap.size + 1, 1, none⟩) (by show w.heap.size ≤ w.heap.size + 1; omega) (.string ⟨#[]⟩)); clear hr hb hs)
  refine bodyPost_ret (results_ratio rfl _ _ (w.heap.size + 1) _ _ rfl HS.out) rfl ?_
  exact ⟨rfl, HBS.out⟩
 ·
  have h0 := hv hb
  have hp := (Bool.and_eq_true _ _).mp hb
  have hg9 := gcd_lt hp.1 hp.2
  rw [hb, res, ree, rs, er, if_pos rfl, if_pos rfl, Int.natAbs_natCast, if_pos hg9, if_pos hg9] at cg
  have ht : (s2.toList == [48]) = true := by
   have := txt_lit hp.2
   rw [h0] at this
   rw [ByteArray.toList_eq, hL2, ← this]; rfl
  generalize (txt ((Nat.gcd (num L1).natAbs (num L2).natAbs : Nat) : Int)).toArray = g at *
  have CG := Lib.hid cg
  clear cg hL1 hL2 hl1 hl2 hv hb h0 hp hg9
  go_enter Tryz.func70, Tryz.ntmps70
  go_wp2_with (go_at_call 75; (with_reducible refine (CG.out _).mono ?_); rintro e W ⟨rfl, B⟩; have hr := (And.intro (HR.out.1.keep B HR.out.1.lt) (HR.out.2.keep B HR.out.2.lt)); have hb := HB.out.trans (B.mono HB.out.size); clear HR HB B a0 a1; have HR := Lib.hid hr; have HB := Lib.hid hb; have a0 := hr.1.c0; have a1 := hr.1.c1; have c0 := hr.2.c0; have c1 := hr.2.c1; have f0 := hr.2.f 0; have f1 := hr.2.f 1; have hs := hr.2.s0 (.string ⟨#[]⟩); have d1 := hs.c1; have g1 := hs.f 1; have HS := Lib.hid (hs.s1 (.string ⟨#[]⟩)); have HBS := Lib.hid ((hb.setCell (p := ⟨w.heap.size + 1, 0, none⟩) (by show w.heap.size ≤ w.heap.size + 1; omega) (.string ⟨#[]⟩)).setCell (p := ⟨w.heap.size + 1, 1, none⟩) (by show w.heap.size ≤ w.heap.size + 1; omega) (.string ⟨#[]⟩)); clear hr hb hs)
  refine bodyPost_ret (results_ratio rfl _ _ (w.heap.size + 1) _ _ rfl HS.out) rfl ?_
  exact ⟨rfl, HBS.out⟩
theorem neg_g {n : Int} {g : Nat} (h : (g : Int) ∣ n) : n / (-(g : Int)) = (-n) / (g : Int) := by
 rw [Int.ediv_neg, Int.neg_ediv_of_dvd h]
theorem gcd_dv (n d : Int) : ((Nat.gcd n.natAbs d.natAbs : Nat) : Int) ∣ n ∧ ((Nat.gcd n.natAbs d.natAbs : Nat) : Int) ∣ d :=
 ⟨Int.ofNat_dvd_left.2 (Nat.gcd_dvd_left _ _), Int.ofNat_dvd_left.2 (Nat.gcd_dvd_right _ _)⟩
set_option maxRecDepth 100000 in
set_option maxHeartbeats 2000000 in
theorem reduced_S (n d : Int) (w : World) (hn : n.natAbs < 10 ^ 200) (hd : d.natAbs < 10 ^ 200) (h0 : d ≠ 0) :
  Calls Tryz.prog 70 #[.agg #[.string (S n), .string (S d)]] w fun e w' => e = .returned (.tuple #[.agg #[.string (fr (sg d n) (sg d d)).1, .string (fr (sg d n) (sg d d)).2], .int .i64 0]) ∧ Below w.heap.size w w' := by
 have hg9 : Nat.gcd n.natAbs d.natAbs < 10 ^ 200 := by
  have := gcd_le n.natAbs d.natAbs
  omega
 have hg0 : 0 < Nat.gcd n.natAbs d.natAbs := Nat.gcd_pos_of_pos_right _ (by omega)
 have cg := fun W => Gcd_S n d hn hd (by rw [Int.natAbs_natCast]; exact hg9) W
 have cc := fun W => Compare_S d 0 hd (by decide) W
 have ht : ((S d).toList == [48]) = false := by
  rw [ByteArray.toList_eq, S_list, show ([48] : List UInt8) = txt 0 by rw [← S_list, S_zero], beq_eq_false_iff_ne]
  exact fun e => h0 (txt_inj e)
 obtain ⟨v1, v2⟩ := gcd_dv n d
 by_cases hneg : d < 0
 ·
  rw [cmpN, if_pos hneg] at cc
  rw [sg, sg, if_pos hneg, if_pos hneg, fr, Int.natAbs_neg, Int.natAbs_neg, ← neg_g v1, ← neg_g v2]
  have cs := fun W => Sub_S 0 ((Nat.gcd n.natAbs d.natAbs : Nat) : Int) (by decide) (by omega) (by omega) W
  rw [Int.zero_sub] at cs
  have ca := fun W => Div_S n (-((Nat.gcd n.natAbs d.natAbs : Nat) : Int)) hn (by omega) (by omega) W
  have cb := fun W => Div_S d (-((Nat.gcd n.natAbs d.natAbs : Nat) : Int)) hd (by omega) (by omega) W
  rw [S_zero] at cc cs
  generalize Nat.gcd n.natAbs d.natAbs = g at *
  generalize S (n / -(g : Int)) = x1 at *
  generalize S (n % -(g : Int)) = y1 at *
  generalize S (d / -(g : Int)) = x2 at *
  generalize S (d % -(g : Int)) = y2 at *
  generalize S (-(g : Int)) = a2 at *
  generalize S (g : Int) = gs at *
  generalize S n = s1 at *
  generalize S d = s2 at *
  have CG := Lib.hid cg
  have CC := Lib.hid cc
  have CS := Lib.hid cs
  have CA := Lib.hid ca
  have CB := Lib.hid cb
  clear cg cc cs ca cb hn hd h0 hg9 hg0 v1 v2 hneg
  obtain ⟨r1, r2⟩ := two_ratios w (.string s1) (.string s2) (.string ⟨#[]⟩) (.string ⟨#[]⟩)
  have HB := Lib.hid ((below_alloc w (.cells #[.string s1, .string s2] 23)).alloc (by rw [World.size_alloc]; omega) (.cells #[.string ⟨#[]⟩, .string ⟨#[]⟩] 23))
  have a0 := r1.c0
  have a1 := r1.c1
  have HR := Lib.hid (And.intro r1 r2)
  clear r1 r2
  go_enter Tryz.func70, Tryz.ntmps70
  go_wp2_with (first | (go_at_call 75; (with_reducible refine (CG.out _).mono ?_); rintro e W ⟨rfl, B⟩; have hr := (And.intro (HR.out.1.keep B HR.out.1.lt) (HR.out.2.keep B HR.out.2.lt)); have hb := HB.out.trans (B.mono HB.out.size); clear HR HB B a0 a1; have HR := Lib.hid hr; have HB := Lib.hid hb; have a0 := hr.1.c0; have a1 := hr.1.c1; clear hr hb) | (go_at_call 61; (with_reducible refine (CC.out _).mono ?_); rintro e W ⟨rfl, B⟩; have hr := (And.intro (HR.out.1.keep B HR.out.1.lt) (HR.out.2.keep B HR.out.2.lt)); have hb := HB.out.trans (B.mono HB.out.size); clear HR HB B a0 a1; have HR := Lib.hid hr; have HB := Lib.hid hb; have a0 := hr.1.c0; have a1 := hr.1.c1; clear hr hb) | (go_at_call 82; (with_reducible refine (CS.out _).mono ?_); rintro e W ⟨rfl, B⟩; have hr := (And.intro (HR.out.1.keep B HR.out.1.lt) (HR.out.2.keep B HR.out.2.lt)); have hb := HB.out.trans (B.mono HB.out.size); clear HR HB B a0 a1; have HR := Lib.hid hr; have HB := Lib.hid hb; have a0 := hr.1.c0; have a1 := hr.1.c1; clear hr hb) | (go_at_call 60; (with_reducible refine (CA.out _).mono ?_); rintro e W ⟨rfl, B⟩; have hr := (And.intro (HR.out.1.keep B HR.out.1.lt) (HR.out.2.keep B HR.out.2.lt)); have hb := HB.out.trans (B.mono HB.out.size); clear HR HB B a0 a1; have HR := Lib.hid hr; have HB := Lib.hid hb; have a0 := hr.1.c0; have a1 := hr.1.c1; clear hr hb) | (go_at_call 60; (with_reducible refine (CB.out _).mono ?_); rintro e W ⟨rfl, B⟩; have hr := (And.intro (HR.out.1.keep B HR.out.1.lt) (HR.out.2.keep B HR.out.2.lt)); have hb := HB.out.trans (B.mono HB.out.size); clear HR HB B a0 a1; have HR := Lib.hid hr; have HB := Lib.hid hb; have a0 := hr.1.c0; have a1 := hr.1.c1; have c0 := hr.2.c0; have c1 := hr.2.c1; have f0 := hr.2.f 0; have f1 := hr.2.f 1; have hs := hr.2.s0 (.string x1); have d1 := hs.c1; have g1 := hs.f 1; have HS := Lib.hid (hs.s1 (.string x2)); have HBS := Lib.hid ((hb.setCell (p := ⟨w.heap.size + 1, 0, none⟩) (by show w.heap.size ≤ w.heap.size + 1; omega) (.string x1)).setCell (p := ⟨w.heap.size + 1, 1, none⟩) (by show w.heap.size ≤ w.heap.size + 1; omega) (.string x2)); clear hr hb hs))
  refine bodyPost_ret (results_ratio rfl _ _ (w.heap.size + 1) _ _ rfl HS.out) rfl ?_
  exact ⟨rfl, HBS.out⟩
 ·
  have hc : cmpN d 0 = 1 := by rw [cmpN, if_neg hneg, if_pos (by omega)]
  rw [hc] at cc
  rw [sg, sg, if_neg hneg, if_neg hneg, fr]
  have ca := fun W => Div_S n ((Nat.gcd n.natAbs d.natAbs : Nat) : Int) hn (by omega) (by omega) W
  have cb := fun W => Div_S d ((Nat.gcd n.natAbs d.natAbs : Nat) : Int) hd (by omega) (by omega) W
  rw [S_zero] at cc
  generalize Nat.gcd n.natAbs d.natAbs = g at *
  generalize S (n / (g : Int)) = x1 at *
  generalize S (n % (g : Int)) = y1 at *
  generalize S (d / (g : Int)) = x2 at *
  generalize S (d % (g : Int)) = y2 at *
  generalize S (g : Int) = gs at *
  generalize S n = s1 at *
  generalize S d = s2 at *
  have CG := Lib.hid cg
  have CC := Lib.hid cc
  have CA := Lib.hid ca
  have CB := Lib.hid cb
  clear cg cc ca cb hn hd h0 hg9 hg0 v1 v2 hneg hc
  obtain ⟨r1, r2⟩ := two_ratios w (.string s1) (.string s2) (.string ⟨#[]⟩) (.string ⟨#[]⟩)
  have HB := Lib.hid ((below_alloc w (.cells #[.string s1, .string s2] 23)).alloc (by rw [World.size_alloc]; omega) (.cells #[.string ⟨#[]⟩, .string ⟨#[]⟩] 23))
  have a0 := r1.c0
  have a1 := r1.c1
  have HR := Lib.hid (And.intro r1 r2)
  clear r1 r2
  go_enter Tryz.func70, Tryz.ntmps70
  go_wp2_with (first | (go_at_call 75; (with_reducible refine (CG.out _).mono ?_); rintro e W ⟨rfl, B⟩; have hr := (And.intro (HR.out.1.keep B HR.out.1.lt) (HR.out.2.keep B HR.out.2.lt)); have hb := HB.out.trans (B.mono HB.out.size); clear HR HB B a0 a1; have HR := Lib.hid hr; have HB := Lib.hid hb; have a0 := hr.1.c0; have a1 := hr.1.c1; clear hr hb) | (go_at_call 61; (with_reducible refine (CC.out _).mono ?_); rintro e W ⟨rfl, B⟩; have hr := (And.intro (HR.out.1.keep B HR.out.1.lt) (HR.out.2.keep B HR.out.2.lt)); have hb := HB.out.trans (B.mono HB.out.size); clear HR HB B a0 a1; have HR := Lib.hid hr; have HB := Lib.hid hb; have a0 := hr.1.c0; have a1 := hr.1.c1; clear hr hb) | (go_at_call 60; (with_reducible refine (CA.out _).mono ?_); rintro e W ⟨rfl, B⟩; have hr := (And.intro (HR.out.1.keep B HR.out.1.lt) (HR.out.2.keep B HR.out.2.lt)); have hb := HB.out.trans (B.mono HB.out.size); clear HR HB B a0 a1; have HR := Lib.hid hr; have HB := Lib.hid hb; have a0 := hr.1.c0; have a1 := hr.1.c1; clear hr hb) | (go_at_call 60; (with_reducible refine (CB.out _).mono ?_); rintro e W ⟨rfl, B⟩; have hr := (And.intro (HR.out.1.keep B HR.out.1.lt) (HR.out.2.keep B HR.out.2.lt)); have hb := HB.out.trans (B.mono HB.out.size); clear HR HB B a0 a1; have HR := Lib.hid hr; have HB := Lib.hid hb; have a0 := hr.1.c0; have a1 := hr.1.c1; have c0 := hr.2.c0; have c1 := hr.2.c1; have f0 := hr.2.f 0; have f1 := hr.2.f 1; have hs := hr.2.s0 (.string x1); have d1 := hs.c1; have g1 := hs.f 1; have HS := Lib.hid (hs.s1 (.string x2)); have HBS := Lib.hid ((hb.setCell (p := ⟨w.heap.size + 1, 0, none⟩) (by show w.heap.size ≤ w.heap.size + 1; omega) (.string x1)).setCell (p := ⟨w.heap.size + 1, 1, none⟩) (by show w.heap.size ≤ w.heap.size + 1; omega) (.string x2)); clear hr hb hs))
  refine bodyPost_ret (results_ratio rfl _ _ (w.heap.size + 1) _ _ rfl HS.out) rfl ?_
  exact ⟨rfl, HBS.out⟩
set_option maxRecDepth 100000 in
set_option maxHeartbeats 4000000 in
theorem build_any (k g cap : Nat) (fs : Nat → Value) (M : Nat → ByteArray × ByteArray) (E : Nat → Int) (w : World) (hk : k ≤ 10) (hkc : k ≤ cap)
  (hg : g < w.heap.size) (hrow : ∀ i, i < k → w.cell? ⟨g, i, none⟩ = some (fs i))
  (hM : M 0 = (⟨#[]⟩, ⟨#[]⟩)) (hE : E 0 = 0)
  (hst : ∀ i, i < k → E i = 0 → ∃ f caps, fs i = .func (.func f) #[] caps ∧ (∀ args W, (callFunc f args).run Tryz.prog W = .ok (.enter f args) W) ∧ ∀ W, Below w.heap.size w W → Calls Tryz.prog f (#[.agg #[.string (M i).1, .string (M i).2]] ++ caps) W fun e w' => e = .returned (.tuple #[.agg #[.string (M (i + 1)).1, .string (M (i + 1)).2], .int .i64 (E (i + 1))]) ∧ Below W.heap.size W w')
  (hsk : ∀ i, i < k → E i ≠ 0 → M (i + 1) = M i ∧ E (i + 1) = E i) :
  Calls Tryz.prog 66 #[.slice (some ⟨g, 0, none⟩) k cap] w fun e w' => e = .returned (.tuple #[.agg #[.string (M k).1, .string (M k).2], .int .i64 (E k)]) ∧ Below w.heap.size w w' := by
 obtain ⟨r1, r2⟩ := two_ratios w (.string ⟨#[]⟩) (.string ⟨#[]⟩) (.string ⟨#[]⟩) (.string ⟨#[]⟩)
 have hb := ((below_alloc w (.cells #[.string ⟨#[]⟩, .string ⟨#[]⟩] 23)).alloc (by rw [World.size_alloc]; omega) (.cells #[.string ⟨#[]⟩, .string ⟨#[]⟩] 23))
 have HR0 := Lib.hid (And.intro r1 (And.intro r2 hb))
 have HROW := Lib.hid hrow
 have HST := Lib.hid hst
 have HSK := Lib.hid hsk
 have H0 := Lib.hid (And.intro hM hE)
 clear r1 r2 hb hrow hst hsk hM hE
 go_enter Tryz.func66, Tryz.ntmps66
 go_wp2
 go_loopw [5, 11] (fun e i wr => ∃ n : Nat, n ≤ k ∧ i = .int .i64 (n : Int) ∧ e = .int .i64 (E n) ∧ Hid (RBlk wr w.heap.size (.string ⟨#[]⟩) (.string ⟨#[]⟩)) ∧ Hid (RBlk wr (w.heap.size + 1) (.string (M n).1) (.string (M n).2)) ∧ Hid (Below w.heap.size w wr)) (fun _ i _ => k - (intOf i).toNat)
 case atStart => exact ⟨0, by omega, rfl, by rw [H0.out.2], Lib.hid HR0.out.1, Lib.hid (by rw [H0.out.1]; exact HR0.out.2.1), Lib.hid HR0.out.2.2⟩
 case round =>
  obtain ⟨n, hn, rfl, rfl, hr1, hr2, hb⟩ := hrel
  by_cases hlt : n < k
  ·
   have hc : wr.cell? ⟨g, n, none⟩ = some (fs n) := (hb.out.cell (p := ⟨g, n, none⟩) hg).trans (HROW.out n hlt)
   by_cases hE : E n = 0
   ·
    obtain ⟨f, caps, hf, hen, hcall⟩ := HST.out n hlt hE
    rw [hf] at hc
    have CF := Lib.hid (hcall wr hb.out)
    have m0 := hr2.out.c0
    have m1 := hr2.out.c1
    rw [hE]
    generalize (M n).1 = x at *
    generalize (M n).2 = y at *
    clear hcall hf hE
    go_wp2_with ((with_reducible refine CF.out.mono ?_); rintro e W ⟨rfl, B⟩; have q1 := Lib.hid (hr1.out.keep B hr1.out.lt); have hs := hr2.out.keep B hr2.out.lt; have c0 := hs.c0; have c1 := hs.c1; have f0 := hs.f 0; have f1 := hs.f 1; have hs0 := hs.s0 (.string (M (n + 1)).1); have d1 := hs0.c1; have g1 := hs0.f 1; have HS := Lib.hid (hs0.s1 (.string (M (n + 1)).2)); have h2 := hb.out.trans (B.mono hb.out.size); have HBS := Lib.hid ((h2.setCell (p := ⟨w.heap.size + 1, 0, none⟩) (by show w.heap.size ≤ w.heap.size + 1; omega) (.string (M (n + 1)).1)).setCell (p := ⟨w.heap.size + 1, 1, none⟩) (by show w.heap.size ≤ w.heap.size + 1; omega) (.string (M (n + 1)).2)); have Q1 := Lib.hid ((q1.out.keep ((Below.refl (w.heap.size + 1) W).setCell (p := ⟨w.heap.size + 1, 0, none⟩) (Nat.le_refl _) (.string (M (n + 1)).1)) (by omega)).keep ((Below.refl (w.heap.size + 1) _).setCell (p := ⟨w.heap.size + 1, 1, none⟩) (Nat.le_refl _) (.string (M (n + 1)).2)) (by omega)); clear q1 hs hs0 h2 B hr1 hr2 hb CF)
    go_roundw
    case rel => exact ⟨n + 1, by omega, by go_num, rfl, Q1, HS, HBS⟩
    case measure => simp [intOf]; omega
   ·
    obtain ⟨e1, e2⟩ := HSK.out n hlt hE
    go_wp2
    go_roundw
    case rel => exact ⟨n + 1, by omega, by go_num, by rw [e2], hr1, by rw [e1]; exact hr2, hb⟩
    case measure => simp [intOf]; omega
  ·
   obtain rfl : n = k := by omega
   have m0 := hr2.out.c0
   have m1 := hr2.out.c1
   have c0 := hr1.out.c0
   have c1 := hr1.out.c1
   have f0 := hr1.out.f 0
   have f1 := hr1.out.f 1
   have hs0 := hr1.out.s0 (.string (M n).1)
   have d1 := hs0.c1
   have g1 := hs0.f 1
   have HS := Lib.hid (hs0.s1 (.string (M n).2))
   have HBS := Lib.hid ((hb.out.setCell (p := ⟨w.heap.size, 0, none⟩) (Nat.le_refl _) (.string (M n).1)).setCell (p := ⟨w.heap.size, 1, none⟩) (Nat.le_refl _) (.string (M n).2))
   clear hs0
   go_wp2
   refine bodyPost_ret (results_ratio rfl _ _ w.heap.size _ _ rfl HS.out) rfl ?_
   exact ⟨rfl, HBS.out⟩
def CS (w : World) (p : Nat) (v : Value) : Prop := p < w.heap.size ∧ w.cell? ⟨p, 0, none⟩ = some v
theorem CS.lt {w : World} {p : Nat} {v : Value} (h : CS w p v) : p < w.heap.size := h.1
theorem CS.keep {w w' : World} {p : Nat} {v : Value} (h : CS w p v) (hb : Below w.heap.size w w') : CS w' p v :=
 ⟨Nat.lt_of_lt_of_le h.1 hb.size, (hb.cell (p := ⟨p, 0, none⟩) h.1).trans h.2⟩
theorem CS.new (w : World) (v : Value) (t : TypeId) : CS (w.alloc (.cells #[v] t)) w.heap.size v :=
 ⟨by rw [World.size_alloc]; omega, by rw [World.cell?, Go.heap_alloc_new]; rfl⟩
theorem CS.alloc {w : World} {p : Nat} {v : Value} (h : CS w p v) (o : Obj) : CS (w.alloc o) p v := h.keep (below_alloc w o)
set_option maxRecDepth 100000 in
theorem start_any (a : Option Addr) (len cap : Nat) (w : World) :
  Calls Tryz.prog 67 #[.slice a len cap] w fun e w' => e = .returned (.func (.func 122) #[] #[.pointer (some ⟨w.heap.size, 0, none⟩)]) ∧ CS w' w.heap.size (.slice a len cap) ∧ Below w.heap.size w w' := by
 go_enter Tryz.func67, Tryz.ntmps67
 go_wp2
 go_ret
 exact ⟨rfl, CS.new w _ _, below_alloc w _⟩
set_option maxRecDepth 100000 in
theorem qtimes_any (s t : ByteArray) (w : World) :
  Calls Tryz.prog 68 #[.string s, .string t] w fun e w' => e = .returned (.func (.func 123) #[] #[.pointer (some ⟨w.heap.size, 0, none⟩), .pointer (some ⟨w.heap.size + 1, 0, none⟩)]) ∧ (CS w' w.heap.size (.string s) ∧ CS w' (w.heap.size + 1) (.string t)) ∧ Below w.heap.size w w' := by
 go_enter Tryz.func68, Tryz.ntmps68
 go_wp2
 go_ret
 refine ⟨rfl, ⟨(CS.new w _ _).alloc _, ?_⟩, (below_alloc w _).alloc (by rw [World.size_alloc]; omega) _⟩
 have h := CS.new (w.alloc (.cells #[.string s] 9)) (.string t) 9
 rwa [World.size_alloc] at h
set_option maxRecDepth 100000 in
theorem combine1_any (F : Nat) (s t : ByteArray) (w : World) :
  Calls Tryz.prog 80 #[.func (.func F) #[] #[], .string s, .string t] w fun e w' => e = .returned (.func (.func 131) #[] #[.pointer (some ⟨w.heap.size + 1, 0, none⟩), .pointer (some ⟨w.heap.size + 1 + 1, 0, none⟩), .pointer (some ⟨w.heap.size, 0, none⟩)]) ∧ (CS w' w.heap.size (.func (.func F) #[] #[]) ∧ CS w' (w.heap.size + 1) (.string s) ∧ CS w' (w.heap.size + 1 + 1) (.string t)) ∧ Below w.heap.size w w' := by
 go_enter Tryz.func80, Tryz.ntmps80
 go_wp2
 go_ret
 refine ⟨rfl, ⟨((CS.new w _ _).alloc _).alloc _, ?_, ?_⟩, ((below_alloc w _).alloc (by rw [World.size_alloc]; omega) _).alloc (by rw [World.size_alloc, World.size_alloc]; omega) _⟩
 ·
  have h := (CS.new (w.alloc (.cells #[.func (.func F) #[] #[]] 77)) (.string s) 9).alloc (.cells #[.string t] 9)
  rwa [World.size_alloc] at h
 ·
  have h := CS.new ((w.alloc (.cells #[.func (.func F) #[] #[]] 77)).alloc (.cells #[.string s] 9)) (.string t) 9
  rwa [World.size_alloc, World.size_alloc] at h
set_option maxRecDepth 100000 in
set_option maxHeartbeats 4000000 in
theorem start1_any (x0 y0 : ByteArray) (p g k cap : Nat) (u v : Nat → ByteArray) (lu lv : Nat → List UInt8) (w : World) (hk0 : 0 < k) (hk : k ≤ 10) (hkc : k ≤ cap) (hp : CS w p (.slice (some ⟨g, 0, none⟩) k cap)) (hg : g < w.heap.size)
  (hrow : ∀ i, i < k → w.cell? ⟨g, i * 2, none⟩ = some (.string (u i)) ∧ w.cell? ⟨g, i * 2 + 1, none⟩ = some (.string (v i)))
  (hl : ∀ i, i < k → (u i).data.toList = lu i ∧ (v i).data.toList = lv i ∧ (lu i).length ≤ 60000 ∧ (lv i).length ≤ 60000) (B : Bool) (hB : B = true ↔ ∀ i, i < k → vR (lu i) (lv i) = true) :
  Calls Tryz.prog 122 #[.agg #[.string x0, .string y0], .pointer (some ⟨p, 0, none⟩)] w fun e w' => e = .returned (.tuple #[.agg #[.string (if B then u 0 else ⟨#[]⟩), .string (if B then v 0 else ⟨#[]⟩)], .int .i64 (if B then 0 else 40)]) ∧ Below w.heap.size w w' := by
 obtain ⟨r1, r2⟩ := two_ratios w (.string x0) (.string y0) (.string ⟨#[]⟩) (.string ⟨#[]⟩)
 have hbw := ((below_alloc w (.cells #[.string x0, .string y0] 23)).alloc (by rw [World.size_alloc]; omega) (.cells #[.string ⟨#[]⟩, .string ⟨#[]⟩] 23))
 have a0 := r1.c0
 have a1 := r1.c1
 have HR := Lib.hid (And.intro r1 r2)
 have kp := (hbw.cell (p := ⟨p, 0, none⟩) hp.lt).trans hp.2
 have KP := Lib.hid hp
 have HROW := Lib.hid hrow
 have HL := Lib.hid hl
 have HBB := Lib.hid hB
 have HB := Lib.hid hbw
 clear r1 r2 hbw hp hrow hl hB a0 a1
 cases B
 ·
  simp only [Bool.false_eq_true, if_false]
  go_enter Tryz.func122, Tryz.ntmps122
  go_wp2
  go_loopw [9] (fun i wr => ∃ n : Nat, n ≤ k ∧ i = .int .i64 (n : Int) ∧ Hid (∀ i, i < n → vR (lu i) (lv i) = true) ∧ Hid (RBlk wr (w.heap.size + 1) (.string ⟨#[]⟩) (.string ⟨#[]⟩)) ∧ Hid (Below w.heap.size w wr)) (fun i _ => k - (intOf i).toNat)
  case atStart => exact ⟨0, by omega, rfl, Lib.hid (fun i h => absurd h (Nat.not_lt_zero i)), Lib.hid HR.out.2, HB⟩
  case round =>
   obtain ⟨n, hn, rfl, hv, hr, hb⟩ := hrel
   by_cases hlt : n < k
   ·
    have hc0 := (hb.out.cell (p := ⟨g, n * 2, none⟩) hg).trans (HROW.out n hlt).1
    have hc1 := (hb.out.cell (p := ⟨g, n * 2 + 1, none⟩) hg).trans (HROW.out n hlt).2
    have CV := Lib.hid (fun W => qValid_any (u n) (v n) (lu n) (lv n) W (HL.out n hlt).1 (HL.out n hlt).2.1 (HL.out n hlt).2.2.1 (HL.out n hlt).2.2.2)
    cases hV : vR (lu n) (lv n)
    ·
     rw [hV] at CV
     generalize u n = x at *
     generalize v n = y at *
     go_wp2_with (go_at_call 30; (with_reducible refine (CV.out _).mono ?_); rintro e W ⟨rfl, B⟩; have B2 := (below_alloc wr (.cells #[.string x, .string y] 23)).trans (B.mono (by rw [World.size_alloc]; omega)); have hb2 := hb.out.trans (B2.mono hb.out.size); have hr2 := hr.out.keep B2 hr.out.lt; have c0 := hr2.c0; have c1 := hr2.c1; have f0 := hr2.f 0; have f1 := hr2.f 1; have hs := hr2.s0 (.string ⟨#[]⟩); have d1 := hs.c1; have g1 := hs.f 1; have HS := Lib.hid (hs.s1 (.string ⟨#[]⟩)); have HBS := Lib.hid ((hb2.setCell (p := ⟨w.heap.size + 1, 0, none⟩) (by show w.heap.size ≤ w.heap.size + 1; omega) (.string ⟨#[]⟩)).setCell (p := ⟨w.heap.size + 1, 1, none⟩) (by show w.heap.size ≤ w.heap.size + 1; omega) (.string ⟨#[]⟩)); clear B B2 hb2 hr2 hs)
     refine bodyPost_ret (results_ratio rfl _ _ (w.heap.size + 1) _ _ rfl HS.out) rfl ?_
     exact ⟨rfl, HBS.out⟩
    ·
     rw [hV] at CV
     generalize hux : u n = x at *
     generalize hvy : v n = y at *
     go_wp2_with (go_at_call 30; (with_reducible refine (CV.out _).mono ?_); rintro e W ⟨rfl, B⟩; have B2 := (below_alloc wr (.cells #[.string x, .string y] 23)).trans (B.mono (by rw [World.size_alloc]; omega)); have HB2 := Lib.hid (hb.out.trans (B2.mono hb.out.size)); have HR2 := Lib.hid (hr.out.keep B2 hr.out.lt); clear B B2)
     go_roundw
     case rel => exact ⟨n + 1, by omega, by go_num, Lib.hid (fun i hi => by rcases Nat.lt_succ_iff_lt_or_eq.1 hi with h | h; exact hv.out i h; exact h ▸ hV), HR2, HB2⟩
     case measure => simp [intOf]; omega
   ·
    obtain rfl : n = k := by omega
    exact absurd (HBB.out.2 hv.out) (by decide)
 ·
  simp only [if_true]
  go_enter Tryz.func122, Tryz.ntmps122
  go_wp2
  go_loopw [9] (fun i wr => ∃ n : Nat, n ≤ k ∧ i = .int .i64 (n : Int) ∧ Hid (∀ i, i < n → vR (lu i) (lv i) = true) ∧ Hid (RBlk wr (w.heap.size + 1) (.string ⟨#[]⟩) (.string ⟨#[]⟩)) ∧ Hid (Below w.heap.size w wr)) (fun i _ => k - (intOf i).toNat)
  case atStart => exact ⟨0, by omega, rfl, Lib.hid (fun i h => absurd h (Nat.not_lt_zero i)), Lib.hid HR.out.2, HB⟩
  case round =>
   obtain ⟨n, hn, rfl, hv, hr, hb⟩ := hrel
   by_cases hlt : n < k
   ·
    have hc0 := (hb.out.cell (p := ⟨g, n * 2, none⟩) hg).trans (HROW.out n hlt).1
    have hc1 := (hb.out.cell (p := ⟨g, n * 2 + 1, none⟩) hg).trans (HROW.out n hlt).2
    have CV := Lib.hid (fun W => qValid_any (u n) (v n) (lu n) (lv n) W (HL.out n hlt).1 (HL.out n hlt).2.1 (HL.out n hlt).2.2.1 (HL.out n hlt).2.2.2)
    cases hV : vR (lu n) (lv n)
    ·
     exact absurd (HBB.out.1 trivial n hlt) (by rw [hV]; decide)
    ·
     rw [hV] at CV
     generalize hux : u n = x at *
     generalize hvy : v n = y at *
     go_wp2_with (go_at_call 30; (with_reducible refine (CV.out _).mono ?_); rintro e W ⟨rfl, B⟩; have B2 := (below_alloc wr (.cells #[.string x, .string y] 23)).trans (B.mono (by rw [World.size_alloc]; omega)); have HB2 := Lib.hid (hb.out.trans (B2.mono hb.out.size)); have HR2 := Lib.hid (hr.out.keep B2 hr.out.lt); clear B B2)
     go_roundw
     case rel => exact ⟨n + 1, by omega, by go_num, Lib.hid (fun i hi => by rcases Nat.lt_succ_iff_lt_or_eq.1 hi with h | h; exact hv.out i h; exact h ▸ hV), HR2, HB2⟩
     case measure => simp [intOf]; omega
   ·
    obtain rfl : n = k := by omega
    have kp2 := (hb.out.cell (p := ⟨p, 0, none⟩) KP.out.lt).trans KP.out.2
    have hc0 := (hb.out.cell (p := ⟨g, 0 * 2, none⟩) hg).trans (HROW.out 0 hk0).1
    have hc1 := (hb.out.cell (p := ⟨g, 0 * 2 + 1, none⟩) hg).trans (HROW.out 0 hk0).2
    rw [Nat.zero_mul] at hc0 hc1
    rw [Nat.zero_add] at hc1
    have c0 := hr.out.c0
    have c1 := hr.out.c1
    have f0 := hr.out.f 0
    have f1 := hr.out.f 1
    have hs := hr.out.s0 (.string (u 0))
    have d1 := hs.c1
    have g1 := hs.f 1
    have HS := Lib.hid (hs.s1 (.string (v 0)))
    have HBS := Lib.hid ((hb.out.setCell (p := ⟨w.heap.size + 1, 0, none⟩) (by show w.heap.size ≤ w.heap.size + 1; omega) (.string (u 0))).setCell (p := ⟨w.heap.size + 1, 1, none⟩) (by show w.heap.size ≤ w.heap.size + 1; omega) (.string (v 0)))
    clear hs
    go_wp2
    refine bodyPost_ret (results_ratio rfl _ _ (w.heap.size + 1) _ _ rfl HS.out) rfl ?_
    exact ⟨rfl, HBS.out⟩
set_option maxRecDepth 100000 in
set_option maxHeartbeats 4000000 in
theorem times1_any (a b s t x y : ByteArray) (e1 e2 : Int) (he1 : e1 = 0 ∨ e1 = 30) (he2 : e2 = 0 ∨ e2 = 30) (p q : Nat) (w : World) (cp : CS w p (.string s)) (cq : CS w q (.string t))
  (m1 : ∀ W, Calls Tryz.prog 124 #[.string a, .string s] W fun e w' => e = .returned (.tuple #[.string x, .int .i64 e1]) ∧ Below W.heap.size W w')
  (m2 : ∀ W, Calls Tryz.prog 124 #[.string b, .string t] W fun e w' => e = .returned (.tuple #[.string y, .int .i64 e2]) ∧ Below W.heap.size W w') :
  Calls Tryz.prog 123 #[.agg #[.string a, .string b], .pointer (some ⟨p, 0, none⟩), .pointer (some ⟨q, 0, none⟩)] w fun e w' => e = .returned (.tuple #[.agg #[.string (if e1 = 0 ∧ e2 = 0 then x else ⟨#[]⟩), .string (if e1 = 0 ∧ e2 = 0 then y else ⟨#[]⟩)], .int .i64 (if e1 = 0 ∧ e2 = 0 then 0 else 40)]) ∧ Below w.heap.size w w' := by
 obtain ⟨r1, r2⟩ := two_ratios w (.string a) (.string b) (.string ⟨#[]⟩) (.string ⟨#[]⟩)
 have hbw := ((below_alloc w (.cells #[.string a, .string b] 23)).alloc (by rw [World.size_alloc]; omega) (.cells #[.string ⟨#[]⟩, .string ⟨#[]⟩] 23))
 have a0 := r1.c0
 have a1 := r1.c1
 have HR := Lib.hid (And.intro r1 r2)
 have kp := (hbw.cell (p := ⟨p, 0, none⟩) cp.lt).trans cp.2
 have Kp := Lib.hid cp
 have kq := (hbw.cell (p := ⟨q, 0, none⟩) cq.lt).trans cq.2
 have Kq := Lib.hid cq
 have HB := Lib.hid hbw
 clear r1 r2 hbw cp cq
 have M1 := Lib.hid m1
 have M2 := Lib.hid m2
 clear m1 m2
 rcases he1 with rfl | rfl <;> rcases he2 with rfl | rfl
 ·
  rw [if_pos ⟨rfl, rfl⟩, if_pos ⟨rfl, rfl⟩, if_pos ⟨rfl, rfl⟩]
  go_enter Tryz.func123, Tryz.ntmps123
  go_wp2_with (first | (go_at_call 124; (with_reducible refine (M1.out _).mono ?_); rintro e W ⟨rfl, B⟩; have hr := (And.intro (HR.out.1.keep B HR.out.1.lt) (HR.out.2.keep B HR.out.2.lt)); have hb := HB.out.trans (B.mono HB.out.size); clear HR HB B a0 a1; have HR := Lib.hid hr; have HB := Lib.hid hb; have a0 := hr.1.c0; have a1 := hr.1.c1; have kp' := (hb.cell (p := ⟨p, 0, none⟩) Kp.out.lt).trans Kp.out.2; clear kp; have kp := kp'; clear kp'; have kq' := (hb.cell (p := ⟨q, 0, none⟩) Kq.out.lt).trans Kq.out.2; clear kq; have kq := kq'; clear kq'; clear hr hb) | (go_at_call 124; (with_reducible refine (M2.out _).mono ?_); rintro e W ⟨rfl, B⟩; have hr := (And.intro (HR.out.1.keep B HR.out.1.lt) (HR.out.2.keep B HR.out.2.lt)); have hb := HB.out.trans (B.mono HB.out.size); clear HR HB B a0 a1; have HR := Lib.hid hr; have HB := Lib.hid hb; have a0 := hr.1.c0; have a1 := hr.1.c1; have kp' := (hb.cell (p := ⟨p, 0, none⟩) Kp.out.lt).trans Kp.out.2; clear kp; have kp := kp'; clear kp'; have kq' := (hb.cell (p := ⟨q, 0, none⟩) Kq.out.lt).trans Kq.out.2; clear kq; have kq := kq'; clear kq'; have c0 := hr.2.c0; have c1 := hr.2.c1; have f0 := hr.2.f 0; have f1 := hr.2.f 1; have hs := hr.2.s0 (.string x); have d1 := hs.c1; have g1 := hs.f 1; have HS := Lib.hid (hs.s1 (.string y)); have HBS := Lib.hid ((hb.setCell (p := ⟨w.heap.size + 1, 0, none⟩) (by show w.heap.size ≤ w.heap.size + 1; omega) (.string x)).setCell (p := ⟨w.heap.size + 1, 1, none⟩) (by show w.heap.size ≤ w.heap.size + 1; omega) (.string y)); clear hr hb hs))
  refine bodyPost_ret (results_ratio rfl _ _ (w.heap.size + 1) _ _ rfl HS.out) rfl ?_
  exact ⟨rfl, HBS.out⟩
 all_goals
  rw [if_neg (by decide), if_neg (by decide), if_neg (by decide)]
  go_enter Tryz.func123, Tryz.ntmps123
  go_wp2_with (first | (go_at_call 124; (with_reducible refine (M1.out _).mono ?_); rintro e W ⟨rfl, B⟩; have hr := (And.intro (HR.out.1.keep B HR.out.1.lt) (HR.out.2.keep B HR.out.2.lt)); have hb := HB.out.trans (B.mono HB.out.size); clear HR HB B a0 a1; have HR := Lib.hid hr; have HB := Lib.hid hb; have a0 := hr.1.c0; have a1 := hr.1.c1; have kp' := (hb.cell (p := ⟨p, 0, none⟩) Kp.out.lt).trans Kp.out.2; clear kp; have kp := kp'; clear kp'; have kq' := (hb.cell (p := ⟨q, 0, none⟩) Kq.out.lt).trans Kq.out.2; clear kq; have kq := kq'; clear kq'; clear hr hb) | (go_at_call 124; (with_reducible refine (M2.out _).mono ?_); rintro e W ⟨rfl, B⟩; have hr := (And.intro (HR.out.1.keep B HR.out.1.lt) (HR.out.2.keep B HR.out.2.lt)); have hb := HB.out.trans (B.mono HB.out.size); clear HR HB B a0 a1; have HR := Lib.hid hr; have HB := Lib.hid hb; have a0 := hr.1.c0; have a1 := hr.1.c1; have kp' := (hb.cell (p := ⟨p, 0, none⟩) Kp.out.lt).trans Kp.out.2; clear kp; have kp := kp'; clear kp'; have kq' := (hb.cell (p := ⟨q, 0, none⟩) Kq.out.lt).trans Kq.out.2; clear kq; have kq := kq'; clear kq'; have c0 := hr.2.c0; have c1 := hr.2.c1; have f0 := hr.2.f 0; have f1 := hr.2.f 1; have hs := hr.2.s0 (.string ⟨#[]⟩); have d1 := hs.c1; have g1 := hs.f 1; have HS := Lib.hid (hs.s1 (.string ⟨#[]⟩)); have HBS := Lib.hid ((hb.setCell (p := ⟨w.heap.size + 1, 0, none⟩) (by show w.heap.size ≤ w.heap.size + 1; omega) (.string ⟨#[]⟩)).setCell (p := ⟨w.heap.size + 1, 1, none⟩) (by show w.heap.size ≤ w.heap.size + 1; omega) (.string ⟨#[]⟩)); clear hr hb hs))
  refine bodyPost_ret (results_ratio rfl _ _ (w.heap.size + 1) _ _ rfl HS.out) rfl ?_
  exact ⟨rfl, HBS.out⟩
set_option maxRecDepth 100000 in
set_option maxHeartbeats 4000000 in
theorem combine2_any (a b s t x y : ByteArray) (F : Nat) (e1 e2 : Int) (he1 : e1 = 0 ∨ e1 = 30) (he2 : e2 = 0 ∨ e2 = 30) (p q r : Nat) (w : World) (cp : CS w p (.string s)) (cq : CS w q (.string t)) (cr : CS w r (.func (.func F) #[] #[])) (hen : ∀ args W, (callFunc F args).run Tryz.prog W = .ok (.enter F args) W)
  (m1 : ∀ W, Calls Tryz.prog 124 #[.string s, .string t] W fun e w' => e = .returned (.tuple #[.string x, .int .i64 e1]) ∧ Below W.heap.size W w')
  (m2 : ∀ W, Calls Tryz.prog F #[.string a, .string x] W fun e w' => e = .returned (.tuple #[.string y, .int .i64 e2]) ∧ Below W.heap.size W w') :
  Calls Tryz.prog 131 #[.agg #[.string a, .string b], .pointer (some ⟨p, 0, none⟩), .pointer (some ⟨q, 0, none⟩), .pointer (some ⟨r, 0, none⟩)] w fun e w' => e = .returned (.tuple #[.agg #[.string (if e1 = 0 ∧ e2 = 0 then y else ⟨#[]⟩), .string (if e1 = 0 ∧ e2 = 0 then b else ⟨#[]⟩)], .int .i64 (if e1 = 0 ∧ e2 = 0 then 0 else 40)]) ∧ Below w.heap.size w w' := by
 obtain ⟨r1, r2⟩ := two_ratios w (.string a) (.string b) (.string ⟨#[]⟩) (.string ⟨#[]⟩)
 have hbw := ((below_alloc w (.cells #[.string a, .string b] 23)).alloc (by rw [World.size_alloc]; omega) (.cells #[.string ⟨#[]⟩, .string ⟨#[]⟩] 23))
 have a0 := r1.c0
 have a1 := r1.c1
 have HR := Lib.hid (And.intro r1 r2)
 have kp := (hbw.cell (p := ⟨p, 0, none⟩) cp.lt).trans cp.2
 have Kp := Lib.hid cp
 have kq := (hbw.cell (p := ⟨q, 0, none⟩) cq.lt).trans cq.2
 have Kq := Lib.hid cq
 have kr := (hbw.cell (p := ⟨r, 0, none⟩) cr.lt).trans cr.2
 have Kr := Lib.hid cr
 have HB := Lib.hid hbw
 clear r1 r2 hbw cp cq cr
 have M1 := Lib.hid m1
 have M2 := Lib.hid m2
 clear m1 m2
 rcases he1 with rfl | rfl <;> rcases he2 with rfl | rfl
 ·
  rw [if_pos ⟨rfl, rfl⟩, if_pos ⟨rfl, rfl⟩, if_pos ⟨rfl, rfl⟩]
  go_enter Tryz.func131, Tryz.ntmps131
  go_wp2_with (first | (go_at_call 124; (with_reducible refine (M1.out _).mono ?_); rintro e W ⟨rfl, B⟩; have hr := (And.intro (HR.out.1.keep B HR.out.1.lt) (HR.out.2.keep B HR.out.2.lt)); have hb := HB.out.trans (B.mono HB.out.size); clear HR HB B a0 a1; have HR := Lib.hid hr; have HB := Lib.hid hb; have a0 := hr.1.c0; have a1 := hr.1.c1; have kp' := (hb.cell (p := ⟨p, 0, none⟩) Kp.out.lt).trans Kp.out.2; clear kp; have kp := kp'; clear kp'; have kq' := (hb.cell (p := ⟨q, 0, none⟩) Kq.out.lt).trans Kq.out.2; clear kq; have kq := kq'; clear kq'; have kr' := (hb.cell (p := ⟨r, 0, none⟩) Kr.out.lt).trans Kr.out.2; clear kr; have kr := kr'; clear kr'; clear hr hb) | ((with_reducible refine (M2.out _).mono ?_); rintro e W ⟨rfl, B⟩; have hr := (And.intro (HR.out.1.keep B HR.out.1.lt) (HR.out.2.keep B HR.out.2.lt)); have hb := HB.out.trans (B.mono HB.out.size); clear HR HB B a0 a1; have HR := Lib.hid hr; have HB := Lib.hid hb; have a0 := hr.1.c0; have a1 := hr.1.c1; have kp' := (hb.cell (p := ⟨p, 0, none⟩) Kp.out.lt).trans Kp.out.2; clear kp; have kp := kp'; clear kp'; have kq' := (hb.cell (p := ⟨q, 0, none⟩) Kq.out.lt).trans Kq.out.2; clear kq; have kq := kq'; clear kq'; have kr' := (hb.cell (p := ⟨r, 0, none⟩) Kr.out.lt).trans Kr.out.2; clear kr; have kr := kr'; clear kr'; have c0 := hr.2.c0; have c1 := hr.2.c1; have f0 := hr.2.f 0; have f1 := hr.2.f 1; have hs := hr.2.s0 (.string y); have d1 := hs.c1; have g1 := hs.f 1; have HS := Lib.hid (hs.s1 (.string b)); have HBS := Lib.hid ((hb.setCell (p := ⟨w.heap.size + 1, 0, none⟩) (by show w.heap.size ≤ w.heap.size + 1; omega) (.string y)).setCell (p := ⟨w.heap.size + 1, 1, none⟩) (by show w.heap.size ≤ w.heap.size + 1; omega) (.string b)); clear hr hb hs))
  refine bodyPost_ret (results_ratio rfl _ _ (w.heap.size + 1) _ _ rfl HS.out) rfl ?_
  exact ⟨rfl, HBS.out⟩
 all_goals
  rw [if_neg (by decide), if_neg (by decide), if_neg (by decide)]
  go_enter Tryz.func131, Tryz.ntmps131
  go_wp2_with (first | (go_at_call 124; (with_reducible refine (M1.out _).mono ?_); rintro e W ⟨rfl, B⟩; have hr := (And.intro (HR.out.1.keep B HR.out.1.lt) (HR.out.2.keep B HR.out.2.lt)); have hb := HB.out.trans (B.mono HB.out.size); clear HR HB B a0 a1; have HR := Lib.hid hr; have HB := Lib.hid hb; have a0 := hr.1.c0; have a1 := hr.1.c1; have kp' := (hb.cell (p := ⟨p, 0, none⟩) Kp.out.lt).trans Kp.out.2; clear kp; have kp := kp'; clear kp'; have kq' := (hb.cell (p := ⟨q, 0, none⟩) Kq.out.lt).trans Kq.out.2; clear kq; have kq := kq'; clear kq'; have kr' := (hb.cell (p := ⟨r, 0, none⟩) Kr.out.lt).trans Kr.out.2; clear kr; have kr := kr'; clear kr'; clear hr hb) | ((with_reducible refine (M2.out _).mono ?_); rintro e W ⟨rfl, B⟩; have hr := (And.intro (HR.out.1.keep B HR.out.1.lt) (HR.out.2.keep B HR.out.2.lt)); have hb := HB.out.trans (B.mono HB.out.size); clear HR HB B a0 a1; have HR := Lib.hid hr; have HB := Lib.hid hb; have a0 := hr.1.c0; have a1 := hr.1.c1; have kp' := (hb.cell (p := ⟨p, 0, none⟩) Kp.out.lt).trans Kp.out.2; clear kp; have kp := kp'; clear kp'; have kq' := (hb.cell (p := ⟨q, 0, none⟩) Kq.out.lt).trans Kq.out.2; clear kq; have kq := kq'; clear kq'; have kr' := (hb.cell (p := ⟨r, 0, none⟩) Kr.out.lt).trans Kr.out.2; clear kr; have kr := kr'; clear kr'; have c0 := hr.2.c0; have c1 := hr.2.c1; have f0 := hr.2.f 0; have f1 := hr.2.f 1; have hs := hr.2.s0 (.string ⟨#[]⟩); have d1 := hs.c1; have g1 := hs.f 1; have HS := Lib.hid (hs.s1 (.string ⟨#[]⟩)); have HBS := Lib.hid ((hb.setCell (p := ⟨w.heap.size + 1, 0, none⟩) (by show w.heap.size ≤ w.heap.size + 1; omega) (.string ⟨#[]⟩)).setCell (p := ⟨w.heap.size + 1, 1, none⟩) (by show w.heap.size ≤ w.heap.size + 1; omega) (.string ⟨#[]⟩)); clear hr hb hs))
  refine bodyPost_ret (results_ratio rfl _ _ (w.heap.size + 1) _ _ rfl HS.out) rfl ?_
  exact ⟨rfl, HBS.out⟩
end Go.Proofs.YtdnbhgkbfbgnaaaGreatDoor
