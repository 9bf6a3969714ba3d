/- Contracts of plus and of what makes rows of zeros. -/
import Derived.Test.YtbdiofifjckceaaGreatDoorPc
import Derived.Laws.CopyOwn
namespace Go.Proofs.YtbdiofifjckceaaGreatDoor
open Go.RowKit

theorem made_zeros (n : Nat) : (madeCells (Value.int .i64 0).cells (n * 1)).toList = ints (List.replicate n 0) := by
  rw [show (Value.int .i64 0).cells = #[.int .i64 0] from rfl, toList_madeCells_one, Nat.mul_one, ints, List.map_replicate]
theorem info_size : (Tryz.prog.info? 3).map (·.size) = some 1 := by kernel_rfl
theorem wpList_copy_blk {w : World} {ops : Array Oper} {rest : List Oper} {o : Oper} {a : Act} {Q : Exit → Act → World → Prop} (hgd : o.guard = none) (d s : Operand)
    (ho : o.op = .call { callee := .builtin .copy, args := #[d, s], argTypes := #[47, 47] }) (g dLen dCap sLen : Nat) (hd : a.eval d = .slice (some ⟨g, 0, none⟩) dLen dCap) (v : Value) (hs : a.eval s = v) (l L : List Int) (hv : ISl w v l) (hl : l.length = sLen)
    (hA : ABlk w g L) (hL : L.length = dLen) (hle : sLen ≤ dLen) (w0 : World) (hb : Below w0.heap.size w0 w) (hg : w0.heap.size ≤ g)
    (h : ∀ w', ABlk w' g (l ++ L.drop sLen) → Below w0.heap.size w0 w' → wpList Tryz.prog ops Q rest (a.put o.dst (goInt sLen)) w') : wpList Tryz.prog ops Q (o :: rest) a w := by
  obtain ⟨T, hT⟩ := hA
  have hvv : ∃ sp sCap, v = .slice sp sLen sCap ∧ (0 < sLen → ∃ ad, sp = some ad ∧ ∀ j u, (ints l)[j]? = some u → w.cell? (ad.add j) = some u) := by
    rcases hv with ⟨a, c, rfl, rfl⟩ | ⟨b, o, c, rfl, h1, h2, h3, h4⟩
    · exact ⟨a, c, by rw [← hl]; rfl, fun h => by rw [← hl] at h; exact absurd h (by simp)⟩
    · exact ⟨_, c, by rw [← hl], fun _ => ⟨_, rfl, h4.news⟩⟩
  obtain ⟨sp, sCap, rfl, hsrc⟩ := hvv
  have hcs : (ints l).length = sLen := by rw [ints_len, hl, Nat.mul_one]
  refine wpList_copy_splice hgd d s 47 47 ho 3 Tryz.underlying47 info_size (some ⟨g, 0, none⟩) sp dLen dCap sLen sCap hd hs g 0 _ 3 hT (ints l) (by rw [hcs]; exact (Nat.min_eq_left hle).symm) (fun hp => ⟨rfl, hsrc (by omega)⟩) (by rw [hcs, List.length_append, List.length_map]; omega) (ints_one l) w0.heap.size w0 hb hg ?_
  intro w' hw' hB
  rw [hcs]
  refine h w' ⟨T, ?_⟩ hB
  rw [hw'.out]
  have e : splice (List.map (Value.int .i64) L ++ T) 0 (ints l) = List.map (Value.int .i64) (l ++ L.drop sLen) ++ T := by
    simp only [splice, List.take_zero, List.nil_append, Nat.zero_add, hcs]
    rw [List.drop_append_of_le_length (by rw [List.length_map]; omega), List.map_append, List.map_drop, ints, List.append_assoc]
  rw [e]

theorem addk_bound (l D : List Int) (hl : ∀ x ∈ l, -10000000 ≤ x ∧ x ≤ 10000000) (hD : Dig D) : ∀ x ∈ subk l D (-1), -1000000000000000 ≤ x ∧ x ≤ 1000000000000000 := by
  induction l generalizing D with
  | nil => intro x hx; cases D <;> simp [subk] at hx
  | cons y l ih => cases D with
    | nil => intro x hx; rw [subk_nil] at hx; have := hl x hx; omega
    | cons d D =>
      intro x hx
      rw [subk] at hx
      rcases List.mem_cons.1 hx with rfl | hx
      · have h1 := hl y (by simp)
        have h2 := hD.head
        omega
      · exact ih D (fun z hz => hl z (by simp [hz])) hD.tail x hx
theorem pow_le {a b : Nat} (h : a ≤ b) : (10000 : Int) ^ a ≤ 10000 ^ b := by
  have := Nat.pow_le_pow_right (n := 10000) (by decide) h
  have e : ∀ k : Nat, ((10000 ^ k : Nat) : Int) = (10000 : Int) ^ k := fun k => by simp
  rw [← e, ← e]; omega

set_option maxRecDepth 100000 in
set_option maxHeartbeats 1000000 in
theorem plus_any (n m : Nat) (v1 v2 : Value) (w : World) (hl1 : (grp n).length ≤ 100000) (hl2 : (grp m).length ≤ 100000) (h1 : NSl w v1 n) (h2 : NSl w v2 m) :
    Calls Tryz.prog 56 #[v1, v2] w fun e w' => ∃ v, e = .returned v ∧ NSl w' v (n + m) ∧ Below w.heap.size w w' := by
  obtain ⟨a1, c1, rfl⟩ : ∃ a c, v1 = .slice a (grp n).length c := by
    rcases h1 with ⟨a, c, rfl, e⟩ | ⟨b, o, c, rfl, _⟩
    · rw [e]; exact ⟨a, c, rfl⟩
    · exact ⟨_, c, rfl⟩
  have hrow : ∃ a2 c2, v2 = .slice a2 (grp m).length c2 ∧ ∀ j (hj : j < (grp m).length), ∃ b2 o2, a2 = some ⟨b2, o2, none⟩ ∧ b2 < w.heap.size ∧ (grp m).length ≤ c2 ∧ IRow w b2 o2 (grp m) := by
    rcases h2 with ⟨a, c, rfl, e⟩ | ⟨b, o, c, rfl, g1, g2, g3, g4⟩
    · rw [e]; exact ⟨a, c, rfl, fun j hj => absurd hj (by simp)⟩
    · exact ⟨_, c, rfl, fun j hj => ⟨b, o, rfl, g3, g1, g4⟩⟩
  obtain ⟨a2, c2, rfl, hrow⟩ := hrow
  obtain ⟨i0, hi, hz0, hz1, hz2⟩ := info_parts info_int
  have hsum : ((n + m : Nat) : Int) < 10000 ^ (max (grp n).length (grp m).length + 1) := by
    have e1 := vl_lt (grp_dig n)
    have e2 := vl_lt (grp_dig m)
    rw [vl_grp] at e1 e2
    have e3 := pow_le (Nat.le_max_left (grp n).length (grp m).length)
    have e4 := pow_le (Nat.le_max_right (grp n).length (grp m).length)
    rw [Int.pow_succ]
    omega
  have hvn := vl_grp n
  have hvm := vl_grp m
  have hdn := grp_dig n
  have hdm := grp_dig m
  obtain ⟨A, hA⟩ : ∃ l, grp n = l := ⟨_, rfl⟩
  obtain ⟨D, hD⟩ : ∃ l, grp m = l := ⟨_, rfl⟩
  rw [NSl, hA] at h1
  rw [hA] at hvn hdn hl1 hsum ⊢
  rw [hD] at hvm hdm hl2 hsum hrow ⊢
  clear h2 hA hD
  obtain ⟨p, hp⟩ : ∃ k, A.length = k := ⟨_, rfl⟩
  obtain ⟨q, hq⟩ : ∃ k, D.length = k := ⟨_, rfl⟩
  rw [hp] at hl1 hsum ⊢
  rw [hp] at h1
  rw [hq] at hl2 hsum hrow ⊢
  obtain ⟨k, hk⟩ : ∃ k, max p q = k := ⟨_, rfl⟩
  rw [hk] at hsum
  have kp : p ≤ k := by omega
  have kq : q ≤ k := by omega
  have kk : max (p : Int) (q : Int) = (k : Int) := by omega
  have KK := Lib.hid kk
  have hk9 : k ≤ 100000 := by omega
  -- the row of the sum
  have hZ : ∀ w', w'.ownsRow w.heap.size 3 1 (.slice (some ⟨w.heap.size, 0, none⟩) (k + 1) (k + 1)) (k + 1) (madeCells (Value.int .i64 0).cells ((k + 1) * 1)).toList → ABlk w' w.heap.size (List.replicate (k + 1) 0) := fun w' h => by
    rw [made_zeros] at h
    exact (own_blk h).1
  have HZ := Lib.hid hZ
  have H1 := Lib.hid h1
  have HP := Lib.hid hp
  have HQ := Lib.hid hq
  have HR := Lib.hid hrow
  have HD := Lib.hid hdm
  have hLb : ∀ x ∈ A ++ List.replicate (k + 1 - p) 0, -10000000 ≤ x ∧ x ≤ 10000000 := fun x hx => by
    rcases List.mem_append.1 hx with hx | hx
    · have := hdn x hx; omega
    · have := List.eq_of_mem_replicate hx; omega
  have hll : (A ++ List.replicate (k + 1 - p) 0).length = k + 1 := by rw [List.length_append, List.length_replicate, hp]; omega
  have hvL : vl (A ++ List.replicate (k + 1 - p) 0) = n := by rw [vl_append, vl_zeros, hvn]; simp
  have HAL := Lib.hid (show A ++ (List.replicate (k + 1) (0 : Int)).drop p = A ++ List.replicate (k + 1 - p) 0 by rw [List.drop_replicate])
  generalize A ++ List.replicate (k + 1 - p) 0 = L at *
  have HLB := Lib.hid hLb
  have HLL := Lib.hid hll
  have hfit := carr_fits (l := subk L D (-1)) (c := 0) (by rw [subk_vl _ _ _ (by omega), hvL, hvm]; omega) (by rw [subk_vl _ _ _ (by omega), hvL, hvm, subk_len, hll]; omega)
  have hv : vl (carr 0 (subk L D (-1))) = ((n + m : Nat) : Int) := by rw [hfit.2, subk_vl _ _ _ (by omega), hvL, hvm]; omega
  have cT : ∀ W, ABlk W w.heap.size (subk L D (-1)) → Below w.heap.size w W → Calls Tryz.prog 69 #[.slice (some ⟨w.heap.size, 0, none⟩) (k + 1) (k + 1)] W fun e w' => ∃ v, e = .returned v ∧ NSl w' v (n + m) ∧ Below w.heap.size w w' := fun W hA hB =>
    (carried_any [] (subk L D (-1)) [] w.heap.size 0 (k + 1) (k + 1) W rfl (by rw [subk_len, hll]) (by simpa using hA) (addk_bound L D hLb hdm) (Nat.le_refl _) (by omega)).mono fun e w' ⟨he, g1, g2, g3⟩ =>
      ⟨_, he, NSl.of_blk (S := []) (by simpa using g1) (by rw [carr_len, subk_len, hll]) (carr_dig _ _) hv (Nat.le_refl _) (by omega), below_own hB g2 (Nat.le_refl _) (Nat.le_refl _)⟩
  have CT := Lib.hid cT
  have hb48 : i0.bytes * (k + 1) ≤ 281474976710656 := by rw [hz2]; omega
  have hmx : k + 1 ≤ maxLen := by unfold maxLen; omega
  have HBY := Lib.hid hb48
  clear hZ h1 hp hq hrow hdm hdn hLb hll hvL hfit hv cT hsum hvn hvm hz2 hb48 hk
  go_enter Tryz.func56, Tryz.ntmps56
  go_wp2_with (first | (refine wpList_make_full w rfl (.tmp 13) (.tmp 13) 47 rfl w.heap.size 3 i0 (.int .i64 0) 1 Tryz.underlying47 hi hz0 hz1 .i64 .i64 _ _ (k + 1) rfl rfl (by omega) (by omega) HBY.out hmx (Nat.le_refl _) ?_; intro w1 hown1 hgrow1; have hA1 := HZ.out w1 hown1; have hB1 := (Below.refl w.heap.size w).grown hgrow1 (Nat.le_refl _) (fun k e => by cases e); have HA1 := Lib.hid hA1; clear hown1 hgrow1 hA1) | (with_reducible refine wpList_copy_blk rfl (.tmp 15) (.tmp 16) rfl w.heap.size (k + 1) (k + 1) p rfl (.slice a1 p c1) rfl A (List.replicate (k + 1) 0) (H1.out.below hB1) HP.out HA1.out (List.length_replicate ..) (by omega) w hB1 (Nat.le_refl _) ?_; intro w2 hA2 hB2; have HA2 := Lib.hid hA2; clear hA2))
  all_goals
    have hA2 := HA2.out
    rw [HAL.out] at hA2
    have HA3 := Lib.hid hA2
    clear hA2
    go_loopw [20] (fun i wr => ∃ (j : Nat), j ≤ q ∧ i = .int .i64 (j : Int) ∧ Hid (ABlk wr w.heap.size (subk L (D.take j) (-1))) ∧ Below w.heap.size w wr) (fun i _ => q - (intOf i).toNat)
    case atStart => exact ⟨0, by omega, rfl, Lib.hid (by rw [List.take_zero, subk_nil]; exact HA3.out), hB2⟩
    case round =>
      clear HA3 hB2 HA2 HA1 hB1
      obtain ⟨j, hj, rfl, hA, hB⟩ := hrel
      by_cases h1 : j < q
      · have j1 : j < D.length := by rw [HQ.out]; exact h1
        obtain ⟨b2, o2, rfl, hb2, hqc, hDr⟩ := HR.out j h1
        have hd : wr.cell? ⟨b2, o2 + j, none⟩ = some (.int .i64 D[j]) := (hDr.below hB hb2) j _ (List.getElem?_eq_getElem j1)
        have hdb := HD.out _ (List.getElem_mem j1)
        have htk : D.take (j + 1) = D.take j ++ [D[j]] := List.take_succ_eq_append_getElem j1
        have hlj : (D.take j).length = j := by rw [List.length_take, HQ.out]; omega
        obtain ⟨s1, s2⟩ := subk_snoc (D.take j) D[j] (-1) L (by rw [hlj, HLL.out]; omega)
        rw [hlj] at s1 s2
        have hjl : j < L.length := by rw [HLL.out]; omega
        have s3 : L.getD j 0 = L[j] := by rw [List.getD_eq_getElem?_getD, List.getElem?_eq_getElem hjl]; rfl
        rw [s2, s3] at s1
        have hlb := HLB.out _ (List.getElem_mem hjl)
        have hsl : j < (subk L (D.take j) (-1)).length := by rw [subk_len]; exact hjl
        have s4 : (subk L (D.take j) (-1))[j]? = some L[j] := by
          rw [List.getElem?_eq_getElem hsl]
          rw [List.getD_eq_getElem?_getD, List.getElem?_eq_getElem hsl] at s2
          rw [← s3, ← s2]; rfl
        have hcell : wr.cell? ⟨w.heap.size, j, none⟩ = some (.int .i64 L[j]) := hA.out.cell s4
        have hfree : wr.frozen? ⟨w.heap.size, j, none⟩ = false := hA.out.free _
        have HA3 := Lib.hid (show ABlk (wr.setCell ⟨w.heap.size, j, none⟩ (.int .i64 (L[j] + D[j]))) w.heap.size (subk L (D.take (j + 1)) (-1)) by
          rw [htk, s1, show L[j] - -1 * D[j] = L[j] + D[j] by omega]
          exact hA.out.set j (L[j] + D[j]))
        have HB := Lib.hid (hB.setCell (p := ⟨w.heap.size, j, none⟩) (Nat.le_refl _) (.int .i64 (L[j] + D[j])))
        generalize D[j] = d at *
        generalize L[j] = x at *
        clear htk hlj s1 s2 s3 s4 hjl hsl hA hB hDr j1
        go_wp2
        go_roundw
        case rel => exact ⟨j + 1, by omega, by go_num, HA3, HB.out⟩
        case measure => simp [intOf]; omega
      · have hk : j = q := by omega
        have e1 : D.take j = D := List.take_of_length_le (by rw [HQ.out]; omega)
        have hA2 := hA.out
        rw [e1] at hA2
        have cT2 := CT.out wr hA2 hB
        subst hk
        clear e1 hA2 hA
        go_wp2_with (go_at_call 69; (with_reducible refine cT2.mono ?_); rintro e w' ⟨v, rfl, hN, hB2⟩)
        go_ret
        exact ⟨_, rfl, hN, hB2⟩
end Go.Proofs.YtbdiofifjckceaaGreatDoor
