/- Contract of over: long division in groups of four digits. -/
import Derived.Test.YtbdiofifjckceaaGreatDoorPg
namespace Go.Proofs.YtbdiofifjckceaaGreatDoor
open Go.RowKit

/-- what holds when the quotient's groups from j on are found -/
structure OvI (w0 W : World) (g g2 p k j : Nat) (n d : Int) (P X Q : List Int) : Prop where
  hP : P.length = j
  hX : X.length + j = p
  dP : Dig P
  dX : Dig X
  lt : vl X < d
  hA : ABlk W g (P ++ X)
  hQ : Q.length + j = k
  dQ : Dig Q
  hA2 : ABlk W g2 (List.replicate j 0 ++ Q)
  eq : n = vl (P ++ X) + d * (10000 ^ j * vl Q)
  hB : Below w0.heap.size w0 W

theorem vl_zero_high {l : List Int} {e : Nat} (h : Dig l) (hl : vl l < 10000 ^ e) : vl (l.drop e) = 0 := by
  by_cases he : l.length ≤ e
  · rw [List.drop_eq_nil_of_le he]; rfl
  · have e1 : vl l = vl (l.take e) + 10000 ^ e * vl (l.drop e) := by
      conv => lhs; rw [← List.take_append_drop e l]
      rw [vl_append, List.length_take, Nat.min_eq_left (by omega)]
    have h1 := vl_nonneg (l := l.take e) (fun x hx => h x (List.mem_of_mem_take hx))
    have h2 := vl_nonneg (l := l.drop e) (fun x hx => h x (List.mem_of_mem_drop hx))
    have hp : (0 : Int) < 10000 ^ e := Int.pow_pos (by decide)
    rcases Int.lt_or_eq_of_le h2 with h3 | h3
    · have : (10000 : Int) ^ e * 1 ≤ 10000 ^ e * vl (l.drop e) := Int.mul_le_mul_of_nonneg_left (by omega) (by omega)
      omega
    · exact h3.symm

theorem set_at {A : List Int} {n : Nat} {x v : Int} {B : List Int} (h : A.length = n) : (A ++ x :: B).set n v = A ++ v :: B := by subst h; exact set_mid A x v B

/-- one step of the division -/
theorem OvI.step {w0 W W' : World} {g g2 p k j : Nat} {n d : Int} {P X Q : List Int} {D : List Int} {x : Int} {e : Nat} (h : OvI w0 W g g2 p k (j + 1) n d (P ++ [x]) X Q) (hD : vl D = d) (hd : 0 < d)
    (hs : D.length ≤ e) (he : e ≤ p - j) (hz : vl ((x :: X).drop e) = 0)
    (hA : ABlk W' g (P ++ carr 0 (subk ((x :: X).take e) D (vl ((x :: X).take e) / d)) ++ (x :: X).drop e)) (hA2 : ABlk W' g2 (List.replicate j 0 ++ (vl ((x :: X).take e) / d :: Q))) (hq : vl ((x :: X).take e) / d < 10000) (hB : Below w0.heap.size w0 W') :
    OvI w0 W' g g2 p k j n d P (carr 0 (subk ((x :: X).take e) D (vl ((x :: X).take e) / d)) ++ (x :: X).drop e) (vl ((x :: X).take e) / d :: Q) := by
  have hPl : P.length = j := by have := h.hP; simp at this; omega
  have hXl := h.hX
  have dx : Dig (x :: X) := fun y hy => by
    rcases List.mem_cons.1 hy with rfl | hy
    · exact h.dP y (by simp)
    · exact h.dX y hy
  have dL : Dig ((x :: X).take e) := fun y hy => dx y (List.mem_of_mem_take hy)
  have dS : Dig ((x :: X).drop e) := fun y hy => dx y (List.mem_of_mem_drop hy)
  have hLl : ((x :: X).take e).length = e := by rw [List.length_take, List.length_cons]; omega
  have hsplit : vl (x :: X) = vl ((x :: X).take e) := by
    conv => lhs; rw [← List.take_append_drop e (x :: X)]
    rw [vl_append, hz, Int.mul_zero, Int.add_zero]
  have hL0 := vl_nonneg dL
  have hLlt := vl_lt dL
  obtain ⟨v, hv⟩ : ∃ v, vl ((x :: X).take e) = v := ⟨_, rfl⟩
  have hm0 := Int.emod_nonneg v (show d ≠ 0 by omega)
  have hm1 := Int.emod_lt_of_pos v hd
  have hdm := Int.mul_ediv_add_emod v d
  have hq0 : 0 ≤ v / d := Int.ediv_nonneg (by omega) (by omega)
  have hfit := carr_fits (l := subk ((x :: X).take e) D (v / d)) (c := 0) (by rw [subk_vl _ _ _ (by omega), hv, hD, Int.mul_comm]; omega) (by
    rw [subk_vl _ _ _ (by omega), subk_len, hD, Int.mul_comm]
    have := Int.mul_nonneg hq0 (show 0 ≤ d by omega)
    rw [Int.mul_comm] at this
    omega)
  rw [hv] at hA hA2 hq ⊢
  have hcv : vl (carr 0 (subk ((x :: X).take e) D (v / d))) = v % d := by rw [hfit.2, subk_vl _ _ _ (by omega), hv, hD, Int.mul_comm]; omega
  have hcl : (carr 0 (subk ((x :: X).take e) D (v / d))).length = e := by rw [carr_len, subk_len, hLl]
  have hXv : vl (carr 0 (subk ((x :: X).take e) D (v / d)) ++ (x :: X).drop e) = v % d := by rw [vl_append, hz, Int.mul_zero, hcv, Int.add_zero]
  refine ⟨hPl, by rw [List.length_append, hcl, List.length_drop, List.length_cons]; omega, fun y hy => h.dP y (by simp [hy]), fun y hy => ?_, by rw [hXv]; omega, by rw [← List.append_assoc]; exact hA, by have := h.hQ; rw [List.length_cons]; omega, fun y hy => ?_, hA2, ?_, hB⟩
  · rcases List.mem_append.1 hy with hy | hy
    · exact carr_dig _ _ y hy
    · exact dS y hy
  · rcases List.mem_cons.1 hy with rfl | hy
    · exact ⟨hq0, hq⟩
    · exact h.dQ y hy
  · have e1 := h.eq
    rw [show P ++ [x] ++ X = P ++ (x :: X) by simp, vl_append, hPl, hsplit, hv] at e1
    rw [vl_append, hPl, hXv, vl, e1, Int.pow_succ]
    have : v = v % d + d * (v / d) := by omega
    have e2 : (10000 : Int) ^ j * v = 10000 ^ j * (v % d) + d * (10000 ^ j * (v / d)) := by
      conv => lhs; rw [this]
      rw [Int.mul_add, ← Int.mul_assoc, ← Int.mul_assoc, Int.mul_comm d (10000 ^ j)]
    have e3 : d * (10000 ^ j * (v / d + 10000 * vl Q)) = d * (10000 ^ j * (v / d)) + d * (10000 ^ j * 10000 * vl Q) := by
      rw [Int.mul_add (10000 ^ j), Int.mul_add d, Int.mul_assoc (10000 ^ j) 10000]
    omega

set_option maxRecDepth 100000 in
set_option maxHeartbeats 4000000 in
theorem over_some (n d : Nat) (b1 o1 p c1 b2 o2 m c2 : Nat) (w : World) (hd : 0 < d) (hN : (grp n).length = p) (hD : (grp d).length = m + 1) (hp9 : p ≤ 80000) (hps : m + 1 ≤ p) (hmc : m + 1 ≤ c2)
    (hr1 : IRow w b1 o1 (grp n)) (hr2 : IRow w b2 o2 (grp d)) (hb1 : b1 < w.heap.size) (hb2 : b2 < w.heap.size) :
    Calls Tryz.prog 60 #[.slice (some ⟨b1, o1, none⟩) p c1, .slice (some ⟨b2, o2, none⟩) (m + 1) c2] w fun e w' => ∃ v1 v2, e = .returned (.tuple #[v1, v2]) ∧ NSl w' v1 (n / d) ∧ NSl w' v2 (n % d) ∧ Below w.heap.size w w' := by
  obtain ⟨k, hk⟩ : ∃ k, p - m = k := ⟨_, rfl⟩
  have hk1 : 1 ≤ k := by omega
  have hkp : k + m = p := by omega
  obtain ⟨i0, hi, hz0, hz1, hz2⟩ := info_parts info_int
  have hlast : (grp d).getLast? ≠ some 0 := by
    intro h
    have e := grp_last d
    rcases List.eq_nil_or_concat (grp d) with h0 | ⟨q, x, h0⟩
    · rw [h0] at h; cases h
    · rw [List.concat_eq_append] at h0
      rw [h0] at h e
      have hx : x = 0 := by simpa using h
      subst hx
      rw [trz_snoc0] at e
      have h1 := trz_len q
      have h2 := congrArg List.length e
      simp at h2
      omega
  have hdge : (10000 : Int) ^ m ≤ (d : Int) := by
    have := grp_ge hd
    rw [hD, Nat.add_sub_cancel] at this
    have e : ((10000 ^ m : Nat) : Int) = (10000 : Int) ^ m := by simp
    omega
  have hdlt : (d : Int) < 10000 ^ (m + 1) := by
    have := vl_lt (grp_dig d)
    rwa [vl_grp, hD] at this
  have dN := grp_dig n
  have dD := grp_dig d
  have vN := vl_grp n
  have vD := vl_grp d
  obtain ⟨N, hN'⟩ : ∃ l, grp n = l := ⟨_, rfl⟩
  obtain ⟨D, hD'⟩ : ∃ l, grp d = l := ⟨_, rfl⟩
  rw [hN'] at hN dN vN hr1
  rw [hD'] at hD dD vD hr2 hlast
  have hdI : (0 : Int) < (d : Int) := by omega
  have cC : Calls Tryz.prog 72 #[.slice (some ⟨b1, o1, none⟩) p c1] w fun e w' => ∃ g cap, e = .returned (.slice (some ⟨g, 0, none⟩) p cap) ∧ w.heap.size ≤ g ∧ p ≤ cap ∧ cap ≤ 9223372036854775807 ∧ ABlk w' g N ∧ Below w.heap.size w w' := clone_some N b1 o1 p c1 w hN (by omega) (by omega) hb1 hr1
  have hstart : ∀ (W : World) g g2, ABlk W g N → ABlk W g2 (List.replicate k 0) → Below w.heap.size w W → OvI w W g g2 p k k n d (N.take k) (N.drop k) [] := fun W g g2 h1 h2 hB => by
    have hX : (N.drop k).length = m := by rw [List.length_drop]; omega
    have dX : Dig (N.drop k) := fun y hy => dN y (List.mem_of_mem_drop hy)
    have := vl_lt dX
    rw [hX] at this
    exact ⟨by rw [List.length_take]; omega, by omega, fun y hy => dN y (List.mem_of_mem_take hy), dX, by omega, by rw [List.take_append_drop]; exact h1, by simp, dig_nil, by simpa using h2, by rw [List.take_append_drop, vN]; simp [vl], hB⟩
  have HST := Lib.hid hstart
  have HDD := Lib.hid dD
  have HD := Lib.hid hD
  have HVD := Lib.hid vD
  have HR2 := Lib.hid hr2
  have HLast := Lib.hid hlast
  have HDlt := Lib.hid hdlt
  have HDi := Lib.hid hdI
  have hb48 : i0.bytes * k ≤ 281474976710656 := by rw [hz2]; omega
  have HBY := Lib.hid hb48
  have hmx : k ≤ maxLen := by unfold maxLen; omega
  have hZ : ∀ w' : World, ∀ base g, w'.ownsRow base 3 1 (.slice (some ⟨g, 0, none⟩) k k) k (madeCells (Value.int .i64 0).cells (k * 1)).toList → ABlk w' g (List.replicate k 0) := fun w' base g h => by
    rw [made_zeros] at h
    exact (own_blk h).1
  have HZ := Lib.hid hZ
  clear hstart dD hD vD hr2 hlast hdlt hdI hz2 hb48 hZ hr1 dN vN hN hN' hD' hdge hk hd
  go_enter Tryz.func60, Tryz.ntmps60
  go_wp2_with (first | (go_at_call 72; (with_reducible refine cC.mono ?_); rintro e w1 ⟨g, cap, rfl, hg, hgc, hcap, hA, hB⟩; have HA := Lib.hid hA; clear hA) | (refine wpList_make_full _ rfl (.tmp 18) (.tmp 18) 47 rfl w.heap.size 3 i0 (.int .i64 0) 1 Tryz.underlying47 hi hz0 hz1 .i64 .i64 _ _ k rfl rfl (by omega) (by omega) HBY.out hmx hB.size ?_; intro w2 hown2 hgrow2; have HA1 := Lib.hid (HA.out.grown hgrow2 (by simp)); have HA2 := Lib.hid (HZ.out _ _ _ hown2); have hB2 := hB.grown hgrow2 hB.size (fun k e => by cases e); have hne : g < w1.heap.size := HA.out.lt; clear hown2 hgrow2))
  have HS := Lib.hid (HST.out w2 g w1.heap.size HA1.out HA2.out hB2)
  have hgne : g ≠ w1.heap.size := by omega
  have hgb := hB.size
  obtain ⟨g2, hg2⟩ : ∃ x, w1.heap.size = x := ⟨_, rfl⟩
  rw [hg2] at HS hgne hne hgb ⊢
  clear HST HA HA1 HA2 cC hg2 HZ hB HBY
  go_loopw [8] (fun i wr => ∃ j : Nat, j ≤ k ∧ i = .int .i64 ((j : Int) - 1) ∧ Hid (∃ P X Q, OvI w wr g g2 p k j n d P X Q)) (fun i _ => (intOf i + 1).toNat)
  case atStart => exact ⟨k, Nat.le_refl _, rfl, Lib.hid ⟨_, _, _, HS.out⟩⟩
  case round =>
    clear HS hB2
    obtain ⟨j, hj, rfl, hI⟩ := hrel
    cases j with
    | zero =>
      obtain ⟨P, X, Q, h⟩ := hI.out
      have hP0 : P = [] := List.length_eq_zero_iff.1 h.hP
      subst hP0
      have hXl : X.length = p := by have := h.hX; omega
      have hQl : Q.length = k := by have := h.hQ; omega
      have hX0 := vl_nonneg h.dX
      have hQ0 := vl_nonneg h.dQ
      have hd0 := HDi.out
      have heq : (n : Int) = vl X + d * vl Q := by have := h.eq; simpa using this
      have hvQ : vl Q = ((n / d : Nat) : Int) := by
        have h1 : (n : Int) / d = vl Q := by
          rw [heq, Int.add_mul_ediv_left _ _ (by omega), Int.ediv_eq_zero_of_lt hX0 h.lt, Int.zero_add]
        rw [← h1]; rfl
      have hvX : vl X = ((n % d : Nat) : Int) := by
        have h1 : (n : Int) % d = vl X := by
          rw [heq, Int.add_mul_emod_self_left, Int.emod_eq_of_lt hX0 h.lt]
        rw [← h1]; rfl
      have hA := h.hA
      have hA2 := h.hA2
      have hB := h.hB
      rw [List.nil_append] at hA
      rw [List.replicate_zero, List.nil_append] at hA2
      have cQ : ∀ W q, W = wr.drewN q → Calls Tryz.prog 74 #[.slice (some ⟨g2, 0, none⟩) k k] W fun e w' => ∃ v, e = .returned v ∧ Hid (∀ q, NSl (wr.drewN q) v (n / d)) ∧ ∃ q, w' = wr.drewN q := fun W q hW => by
        subst hW
        exact (trimmed_some Q g2 0 k k _ hQl (Nat.le_refl _) (by omega) (ABlk.row (P := []) (S := []) (by simpa using (show ABlk (wr.drewN q) g2 Q from hA2)))).mono fun e w' ⟨he, q', hq'⟩ => ⟨_, he, Lib.hid fun q => NSl.of_blk (S := []) (by simpa using (show ABlk (wr.drewN q) g2 Q from hA2)) hQl h.dQ hvQ (Nat.le_refl _) (by omega), q + q', by rw [hq', World.drewN_drewN]⟩
      have cX : ∀ W q, W = wr.drewN q → Calls Tryz.prog 74 #[.slice (some ⟨g, 0, none⟩) p cap] W fun e w' => ∃ v, e = .returned v ∧ Hid (∀ q, NSl (wr.drewN q) v (n % d)) ∧ ∃ q, w' = wr.drewN q := fun W q hW => by
        subst hW
        exact (trimmed_some X g 0 p cap _ hXl hgc hcap (ABlk.row (P := []) (S := []) (by simpa using (show ABlk (wr.drewN q) g X from hA)))).mono fun e w' ⟨he, q', hq'⟩ => ⟨_, he, Lib.hid fun q => NSl.of_blk (S := []) (by simpa using (show ABlk (wr.drewN q) g X from hA)) hXl h.dX hvX hgc hcap, q + q', by rw [hq', World.drewN_drewN]⟩
      have hBN : ∀ q, Below w.heap.size w (wr.drewN q) := fun q => below_drewN hB q
      have HBN := Lib.hid hBN
      have cQ0 := cQ wr 0 rfl
      clear h heq hvQ hvX hA hA2 hB hX0 hQ0 hd0 hXl hQl cQ hI hBN
      simp only [Int.natCast_zero, Int.zero_sub]
      go_wp2_with (first | (go_at_call 74; (with_reducible refine cQ0.mono ?_); rintro e w3 ⟨v1, rfl, hv1, q1, rfl⟩) | (go_at_call 74; (with_reducible refine (cX _ q1 rfl).mono ?_); rintro e w3 ⟨v2, rfl, hv2, q2, rfl⟩))
      go_ret2
      exact ⟨_, _, rfl, hv1.out _, hv2.out _, HBN.out _⟩
    | succ j =>
      have hj1 : ((j + 1 : Nat) : Int) - 1 = (j : Int) := by omega
      rw [hj1]
      obtain ⟨P1, X, Q, h⟩ := hI.out
      obtain ⟨P, x, rfl⟩ : ∃ P x, P1 = P ++ [x] := by
        rcases List.eq_nil_or_concat P1 with h0 | ⟨P, x, h0⟩
        · have := h.hP; rw [h0] at this; simp at this
        · exact ⟨P, x, by rw [h0, List.concat_eq_append]⟩
      have hPl : P.length = j := by have := h.hP; simp at this; omega
      have hXl := h.hX
      have hQl := h.hQ
      have dx : Dig (x :: X) := fun y hy => by
        rcases List.mem_cons.1 hy with rfl | hy
        · exact h.dP y (by simp)
        · exact h.dX y hy
      obtain ⟨e, he, hez⟩ : ∃ e, m + 1 ≤ e ∧ e ≤ m + 2 ∧ e ≤ p - j ∧ min ((j : Int) + (m + 1) + 1) p = (j : Int) + e ∧ (e = m + 2 ∨ e = p - j) := by
        by_cases h1 : j + m + 2 ≤ p
        · exact ⟨m + 2, by omega, by omega, by omega, by omega, .inl rfl⟩
        · exact ⟨p - j, by omega, by omega, by omega, by omega, .inr rfl⟩
      obtain ⟨he2, hep, hemin, hecase⟩ := hez
      have hTl : (x :: X).length = p - j := by rw [List.length_cons]; omega
      have hX0 := vl_nonneg h.dX
      have hd0 := HDi.out
      have hDlt := HDlt.out
      have hTv : vl (x :: X) < 10000 * d := by
        have := h.lt
        have := dx.head
        rw [vl]; omega
      have hz : vl ((x :: X).drop e) = 0 := by
        rcases hecase with h1 | h1
        · refine vl_zero_high dx ?_
          rw [h1, show m + 2 = (m + 1) + 1 from rfl, Int.pow_succ]
          omega
        · rw [List.drop_eq_nil_of_le (by omega)]; rfl
      have hsplit : vl (x :: X) = vl ((x :: X).take e) := by
        conv => lhs; rw [← List.take_append_drop e (x :: X)]
        rw [vl_append, hz, Int.mul_zero, Int.add_zero]
      have dL : Dig ((x :: X).take e) := fun y hy => dx y (List.mem_of_mem_take hy)
      have hLl : ((x :: X).take e).length = e := by rw [List.length_take]; omega
      have hLv : vl ((x :: X).take e) < 10000 * d := by rw [← hsplit]; exact hTv
      have hL0 := vl_nonneg dL
      have hA := h.hA
      rw [show P ++ [x] ++ X = P ++ (x :: X).take e ++ (x :: X).drop e by rw [List.append_assoc, List.append_assoc, List.take_append_drop]; rfl] at hA
      have hA2 := h.hA2
      rw [show List.replicate (j + 1) (0 : Int) ++ Q = List.replicate j 0 ++ 0 :: Q by rw [List.replicate_succ', List.append_assoc]; rfl] at hA2
      have hrowL : IRow wr g j ((x :: X).take e) := by have := hA.row; rwa [hPl] at this
      have hB := h.hB
      have hgl := hA.lt
      have hq0 : 0 ≤ vl ((x :: X).take e) / (d : Int) := Int.ediv_nonneg hL0 (by omega)
      have hq1 : vl ((x :: X).take e) / (d : Int) < 10000 := by rw [Int.ediv_lt_iff_lt_mul hd0]; omega
      have cG := group_any ((x :: X).take e) D g j e (cap - j) b2 o2 m c2 wr hLl HD.out (by omega) he (by omega) (by omega) (by omega) dL HDD.out HLast.out (by rw [HVD.out]; exact hLv) hrowL (HR2.out.below hB hb2) hgl (Nat.lt_of_lt_of_le hb2 hB.size)
      rw [HVD.out] at cG
      obtain ⟨q, hq⟩ : ∃ q, vl ((x :: X).take e) / (d : Int) = q := ⟨_, rfl⟩
      have hfin : ∀ W', ABlk W' g (P ++ carr 0 (subk ((x :: X).take e) D q) ++ (x :: X).drop e) → ABlk W' g2 (List.replicate j 0 ++ q :: Q) → Below w.heap.size w W' → ∃ P X Q, OvI w W' g g2 p k j n d P X Q := fun W' x1 x2 x3 => by
        rw [← hq] at x1 x2
        exact ⟨_, _, _, h.step HVD.out hd0 (by rw [HD.out]; omega) hep hz x1 x2 hq1 x3⟩
      rw [hq] at cG hq0 hq1
      have hlj : (List.replicate j (0 : Int)).length = j := List.length_replicate ..
      have cT : ∀ W2, Below wr.heap.size wr W2 → Calls Tryz.prog 73 #[.slice (some ⟨g, j, none⟩) e (cap - j), .slice (some ⟨b2, o2, none⟩) (m + 1) c2, .int .i64 q] (W2.setCell ⟨g2, j, none⟩ (.int .i64 q)) fun e w' => (∃ v, e = .returned v) ∧ Hid (∃ P X Q, OvI w w' g g2 p k j n d P X Q) := fun W2 hB2 => by
        have a1 := (hA.below hB2 hgl).grown (setCell_grown W2 g2 j (.int .i64 q)) (by simpa using hgne)
        have a2 := (hA2.below hB2 hA2.lt).set j q
        rw [set_at hlj] at a2
        have hBw := hB.trans (hB2.mono hB.size)
        have hBs : Below w.heap.size w (W2.setCell ⟨g2, j, none⟩ (.int .i64 q)) := hBw.setCell (p := ⟨g2, j, none⟩) (by show w.heap.size ≤ g2; omega) _
        refine (take_any P ((x :: X).take e) ((x :: X).drop e) D g j e (cap - j) b2 o2 (m + 1) c2 q _ hPl hLl a1 (fun y hy => by have := dL y hy; omega) (by omega) (by omega) HD.out HDD.out (HR2.out.below hBs hb2) (Nat.lt_of_lt_of_le hb2 hBs.size) (by omega) (by omega) (by omega) (by omega)).mono fun e w' ⟨x1, x2, x3, x4⟩ => ⟨x1, Lib.hid (hfin w' x2 (a2.grown x3 (by simpa using hgne.symm)) (below_own hBs x3 (Nat.le_refl _) hg))⟩
      have hc0 : ∀ W2, Below wr.heap.size wr W2 → W2.cell? ⟨g2, j, none⟩ = some (.int .i64 0) ∧ W2.frozen? ⟨g2, j, none⟩ = false := fun W2 hB2 => by
        have a2 := hA2.below hB2 hA2.lt
        exact ⟨a2.cell (by have := mid_get (List.replicate j (0 : Int)) 0 Q; rwa [hlj] at this), a2.free _⟩
      have s1 : (0 : Int) ≤ (j : Int) := by omega
      have s2 : (j : Int) ≤ (j : Int) + (e : Int) := by omega
      have s3 : (j : Int) + (e : Int) ≤ (cap : Int) := by omega
      have s4 : ¬ cap = j := by omega
      have s5 : (j : Int) < (k : Int) := by omega
      have s6 : (j : Int) < (cap : Int) := by omega
      have hecase2 : e ≤ p - j ∧ (j + m + 2 ≤ p → e = m + 2) ∧ (p < j + m + 2 → e = p - j) := by omega
      clear hz hsplit dL hLl hLv hL0 hA hA2 hrowL hB hgl hq hfin hlj hTl hX0 hd0 hDlt hTv hPl hXl hQl dx h hI hecase hj1
      have hk2 : k + m ≤ p := by omega
      have hk3 : p ≤ k + m := by omega
      have HC0 := Lib.hid hc0
      clear hkp hc0 hemin
      rcases Nat.lt_trichotomy (j + m + 2) p with h1 | h1 | h1
      · have hE1 : ((j : Int) + ((m : Int) + 1) + 1).toNat - j = e := by omega
        clear hecase2
        go_wp2_with (first | (go_at_call 77; (with_reducible refine cG.mono ?_); rintro e3 w3 ⟨rfl, hB3⟩; obtain ⟨c0, c1'⟩ := HC0.out _ hB3; have cT2 := cT _ hB3; clear HC0 cT cG) | (go_at_call 73; (with_reducible refine cT2.mono ?_); rintro e4 w4 ⟨⟨v, rfl⟩, hI⟩))
        all_goals
          go_roundw
          case rel => exact ⟨j, by omega, rfl, by assumption⟩
          case measure => simp [intOf]
      · have hE1 : ((j : Int) + ((m : Int) + 1) + 1).toNat - j = e := by omega
        have hE2 : p - j = e := by omega
        have h2 : p ≤ j + m + 2 := by omega
        have h3 : j + m + 2 ≤ p := by omega
        clear h1 hecase2
        go_wp2_with (first | (go_at_call 77; (with_reducible refine cG.mono ?_); rintro e3 w3 ⟨rfl, hB3⟩; obtain ⟨c0, c1'⟩ := HC0.out _ hB3; have cT2 := cT _ hB3; clear HC0 cT cG) | (go_at_call 73; (with_reducible refine cT2.mono ?_); rintro e4 w4 ⟨⟨v, rfl⟩, hI⟩))
        all_goals
          go_roundw
          case rel => exact ⟨j, by omega, rfl, by assumption⟩
          case measure => simp [intOf]
      · have hE2 : p - j = e := by omega
        clear hecase2
        go_wp2_with (first | (go_at_call 77; (with_reducible refine cG.mono ?_); rintro e3 w3 ⟨rfl, hB3⟩; obtain ⟨c0, c1'⟩ := HC0.out _ hB3; have cT2 := cT _ hB3; clear HC0 cT cG) | (go_at_call 73; (with_reducible refine cT2.mono ?_); rintro e4 w4 ⟨⟨v, rfl⟩, hI⟩))
        all_goals
          go_roundw
          case rel => exact ⟨j, by omega, rfl, by assumption⟩
          case measure => simp [intOf]
end Go.Proofs.YtbdiofifjckceaaGreatDoor
