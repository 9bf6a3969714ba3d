/- The reference's trimmed and Root. -/
import Derived.Test.YtbdiofifjckceaaGreatDoorUk
namespace Go.Proofs.YtbdiofifjckceaaGreatDoor
open Go.RowKit

theorem own_none {W : World} {base : Nat} (h : base ≤ W.heap.size) : (W.alloc (.cells #[] 3)).ownsRow base 3 1 (.slice (some ⟨W.heap.size, 0, none⟩) 0 0) 0 (ints []) :=
  ⟨rfl, .inr ⟨W.heap.size, 0, #[], rfl, h, World.alloc_heap_new W _, Nat.le_refl _, by unfold maxLen; omega, rfl, rfl⟩⟩
set_option maxRecDepth 100000 in
set_option maxHeartbeats 1000000 in
theorem rtrimmed_any (L : List Int) (g p n : Nat) (w : World) (hA : ABlk w g L) (hl : L.length = p) (hp : 0 < p) (hp9 : p ≤ 5000) (hd : DigX L) (hv : vlX L = n) :
    Calls Tryz.prog 50 #[.slice (some ⟨g, 0, none⟩) p p] w fun e w' => ∃ v, e = .returned v ∧ XSl w' v n ∧ Below w.heap.size w w' := by
  obtain ⟨i0, hi, hz0, hz1, hz2⟩ := info_parts info_int
  have hba := below_alloc w (.cells #[] 3)
  have HN := Lib.hid (show ∀ j u, (ints L)[j]? = some u → (w.alloc (.cells #[] 3)).cell? ((⟨g, 0, none⟩ : Addr).add j) = some u from IRow.news ((show IRow w g 0 L from fun j x hj => by rw [Nat.zero_add]; exact hA.cell hj).below (below_alloc w _) hA.lt))
  have HLL := Lib.hid (show (ints L).length = p * 1 by rw [ints_len]; omega)
  have HOO := Lib.hid (own_none (W := w) (Nat.le_refl _))
  have HZ2 := Lib.hid hz2
  have HBA := Lib.hid hba
  have CS := Lib.hid (show ∀ (W W2 : World) (g cap : Nat), W.ownsRow w.heap.size 3 1 (.slice (some ⟨g, 0, none⟩) (0 + p) cap) (0 + p) (ints [] ++ ints L) → Below W.heap.size W W2 → Calls Tryz.prog 29 #[.slice (some ⟨g, 0, none⟩) p cap] W2 fun e w' => ∃ v, e = .returned v ∧ XSl w' v n ∧ Below W2.heap.size W2 w' from fun W W2 g cap ho hW => by
    rw [show ints [] ++ ints L = ints L from rfl, Nat.zero_add] at ho
    have hb := own_blk ho
    exact rtrim_A hb.1 hb.2.1 hd hv hb.2.2.1 hb.2.2.2.1 hW)
  clear hz2 hA hl hd hv hba
  go_enter Tryz.func50, Tryz.ntmps50
  go_wp2_with (first | (at_builtin; go_loud (refine wpList_append_lies _ rfl (.tmp 3) (.tmp 4) 40 rfl w.heap.size 3 i0 (.int .i64 0) 1 8 Tryz.underlying40 hi hz0 hz1 HZ2.out rfl (by decide) (.slice (some ⟨w.heap.size, 0, none⟩) 0 0) 0 _ rfl HOO.out ⟨g, 0, none⟩ p p (ints L) rfl HLL.out HN.out (ints_one _) (by omega) (by unfold maxLen; omega) (by omega) HBA.out.size _ rfl ?_; intro g4 cap4 w4 hown4 hgrow4 _ _; have HGO := Lib.hid (CS.out w4 w4 g4 cap4 hown4 (Below.refl _ _)); have BW4 := Lib.hid (HBA.out.grown hgrow4 HBA.out.size (fun q hq => by cases hq; exact Nat.le_refl _)); clear hown4 hgrow4)) | (go_at_call 29; go_loud ((with_reducible refine HGO.out.mono ?_); rintro e w2 ⟨v, rfl, nv, B2⟩)))
  go_ret
  exact ⟨_, rfl, nv, BW4.out.trans (B2.mono BW4.out.size)⟩

def cellN (w : World) (a : Addr) : Nat := match w.cell? a with | some (.int _ x) => x.toNat | _ => 0
theorem cellN_eq {w : World} {a : Addr} {x : Int} (h : w.cell? a = some (.int .i64 x)) : cellN w a = x.toNat := by rw [cellN, h]

set_option maxRecDepth 100000 in
set_option maxHeartbeats 4000000 in
theorem rRoot_S (z : Int) (w : World) (hz : z.natAbs < 10 ^ 200) (hp : 0 ≤ z) :
    Calls Tryz.prog 20 #[.string (S z)] w fun e w' => (∃ r : Nat, e = .returned (.tuple #[.string (S r), .int .i64 0]) ∧ r * r ≤ z.natAbs ∧ z.natAbs < (r + 1) * (r + 1)) ∧ Below w.heap.size w w' := by
  have cV := fun W => rValid_any (S z) (txt z) W (S_list z) (S_len hz)
  rw [txt_vld hz] at cV
  have cD := fun W => digits_any z W hz
  rw [decide_eq_false (by omega)] at cD
  have hsl := S_list z
  rw [txt, if_neg (by omega)] at hsl
  generalize S z = s at *
  obtain ⟨n, hn⟩ : ∃ n, z.natAbs = n := ⟨_, rfl⟩
  rw [hn] at cD hsl hz ⊢
  obtain ⟨c0, hc0⟩ : ∃ c, (txN n)[0]? = some c := ⟨_, List.getElem?_eq_getElem (txN_pos n)⟩
  have hg0 := fun h : 0 < s.size => bytes_at hsl hc0 h
  have hc9 := (isDg_iff c0).1 (List.all_eq_true.1 (txN_all n) c0 (List.mem_of_getElem? hc0))
  have hq0 : ((c0.toNat : Int) == 45) = false := by rw [beq_eq_false_iff_ne, ne_eq]; omega
  have hs0 : 0 < s.size := by rw [bytes_size hsl]; exact txN_pos n
  obtain ⟨q, hq⟩ : ∃ q, (grpX n).length = q := ⟨_, rfl⟩
  have hq9 : q ≤ 200 := by rw [← hq]; exact grpX_len hz
  have hnq : n < 10 ^ q := by rw [← hq]; exact grpX_lt n
  obtain ⟨p, hpq⟩ : ∃ p, (q + 1) / 2 = p := ⟨_, rfl⟩
  have hnp : n < 10 ^ p * 10 ^ p := by
    rw [← Nat.pow_add]
    exact Nat.lt_of_lt_of_le hnq (Nat.pow_le_pow_right (by decide) (by omega))
  have hp9 : p ≤ 100 := by omega
  have ht : (((q : Nat) : Int) + 1).tdiv 2 = (p : Int) := by
    rw [Int.tdiv_eq_ediv_of_nonneg (by omega)]; omega
  have cD2 : ∀ W, Calls Tryz.prog 32 #[.string s] W fun e w' => ∃ a c, e = .returned (.tuple #[.bool false, .slice a q c]) ∧ XSl w' (.slice a q c) n ∧ Below W.heap.size W w' := fun W => (cD W).mono fun e w' ⟨v, he, h1, h2⟩ => by
    obtain ⟨a, c, rfl⟩ := h1.form
    rw [hq] at he h1
    exact ⟨a, c, he, h1, h2⟩
  have CV := Lib.hid cV
  have CD := Lib.hid cD2
  have HNP := Lib.hid hnp
  have HZ := Lib.hid hz
  have HQ := Lib.hid hq
  have cC : ∀ r : Nat, r * r ≤ n → ∀ W v, XSl W v r → Calls Tryz.prog 36 #[.bool false, v] W fun e w' => e = .returned (.tuple #[.string (S r), .int .i64 0]) ∧ Below W.heap.size W w' := fun r hr W v h => by
    have hr9 : r < 10 ^ 200 := Nat.lt_of_le_of_lt (Nat.le_trans (by rcases Nat.eq_zero_or_pos r with h | h; omega; exact Nat.le_mul_of_pos_left r h) hr) hz
    have h := checked_any false r v W (Nat.le_trans (grpX_len hr9) (by decide)) h
    rwa [rs, er, mz_abs, if_pos hr9, if_pos hr9] at h
  have CC := Lib.hid cC
  obtain ⟨i0, hi, hz0, hz1, hz2⟩ := info_parts info_int
  have HBY := Lib.hid (show i0.bytes * p ≤ 281474976710656 by rw [hz2]; omega)
  have hmx : p ≤ maxLen := by unfold maxLen; omega
  clear cV cD cD2 cC hsl hc0 hc9 hnp hz hq hnq hn hp hz2
  go_enter Tryz.func20, Tryz.ntmps20
  go_wp2_with (first | (go_at_call 24; (with_reducible refine (CV.out _).mono ?_); rintro e w0 ⟨rfl, rfl⟩) | (go_at_call 32; (with_reducible refine (CD.out _).mono ?_); rintro e w1 ⟨a, c, rfl, n1, B1⟩; have H1 := Lib.hid n1; clear n1) | ((refine wpList_make_full _ rfl (.tmp 24) (.tmp 24) 40 rfl w1.heap.size 3 i0 (.int .i64 0) 1 Tryz.underlying40 hi hz0 hz1 .i64 .i64 _ _ p rfl rfl (by omega) (by omega) HBY.out hmx (Nat.le_refl _) ?_; intro w2 hown1 hgrow1; have HA1 := Lib.hid (show ABlk w2 w1.heap.size (List.replicate p 0) from by rw [made_zeros] at hown1; exact (own_blk hown1).1); have B2 := (Below.refl w1.heap.size w1).grown hgrow1 (Nat.le_refl _) (fun k e => by cases e); clear hown1 hgrow1)))
  go_loopw [7] (fun iv wr => ∃ (k V : Nat), k ≤ p ∧ iv = .int .i64 ((k : Int) - 1) ∧ Hid (V * V ≤ n ∧ n < (V + 10 ^ k) * (V + 10 ^ k) ∧ ∃ L, ABlk wr w1.heap.size L ∧ L.length = p ∧ DigX L ∧ vlX L = (V : Int) ∧ ∀ j, j < k → L[j]? = some 0) ∧ Below w1.heap.size w1 wr) (fun iv _ => (intOf iv + 1).toNat)
  case atStart => exact ⟨p, 0, Nat.le_refl _, rfl, Lib.hid ⟨by omega, by rw [Nat.zero_add]; exact HNP.out, _, HA1.out, by simp, (fun x hx => by rw [(List.mem_replicate.1 hx).2]; omega), vlX_zeros p, fun j hj => by rw [List.getElem?_replicate, if_pos hj]⟩, B2⟩
  case round =>
    clear HA1 B2 HNP HBY CV CD hg0 hq0 hs0
    obtain ⟨k, V, hk, rfl, hI, hB⟩ := hrel
    by_cases h0 : k = 0
    · subst h0
      obtain ⟨v1, v2, L, k1, k2, k3, k4, _⟩ := hI.out
      rw [Nat.pow_zero] at v2
      have CT := Lib.hid (fun W hW => rtrim_A (W := W) (cp := p) k1 k2 k3 k4 (Nat.le_refl _) (by omega) hW)
      have CG := Lib.hid (CC.out V v1)
      have HF := Lib.hid (And.intro v1 v2)
      clear hI v1 v2 k1 k2 k3 k4 CC
      go_wp2_with (first | (go_at_call 29; (with_reducible refine (CT.out _ (Below.refl _ _)).mono ?_); rintro e w4 ⟨v, rfl, nv, b4⟩; have B4 := hB.trans (b4.mono hB.size)) | (go_at_call 36; (with_reducible refine (CG.out _ _ nv).mono ?_); rintro e w5 ⟨rfl, b5⟩; have B5 := B4.trans (b5.mono B4.size)))
      go_ret2
      exact ⟨⟨V, rfl, HF.out.1, HF.out.2⟩, B1.trans (B5.mono B1.size)⟩
    · obtain ⟨i, rfl⟩ : ∃ i, k = i + 1 := ⟨k - 1, by omega⟩
      obtain ⟨v1, v2, L, k1, k2, k3, k4, k5⟩ := hI.out
      have hcell := k1.cell (k5 i (by omega))
      have hfree := k1.free i
      have HL := Lib.hid (show ∃ L, ABlk (wr.setCell ⟨w1.heap.size, i, none⟩ (.int .i64 9)) w1.heap.size L ∧ L.length = p ∧ DigX L ∧ L[i]? = some ((9 : Nat) : Int) ∧ (∀ j, j < i → L[j]? = some 0) ∧ vlX L = ((V + 10 ^ i * 9 : Nat) : Int) from by
        refine ⟨L.set i 9, k1.set i _, by rw [List.length_set]; exact k2, k3.set i (by omega), by rw [List.getElem?_set_self (by omega)]; rfl, fun j hj => by rw [List.getElem?_set_ne (by omega)]; exact k5 j (by omega), ?_⟩
        rw [vlX_set L i _ _ (k5 i (by omega)), k4, Int.sub_zero, Int.natCast_add, Int.natCast_mul, Int.natCast_pow]; rfl)
      have HV := Lib.hid (And.intro v1 (show n < (V + 10 ^ i * (9 + 1)) * (V + 10 ^ i * (9 + 1)) by rw [Nat.pow_succ] at v2; exact v2))
      have HBS := Lib.hid (hB.setCell (p := ⟨w1.heap.size, i, none⟩) (Nat.le_refl _) (.int .i64 9))
      clear hI v1 v2 k1 k2 k3 k4 k5 hB
      rw [show (((i + 1 : Nat)) : Int) - 1 = (i : Int) by omega]
      go_wp2
      go_loopw [] (fun wi => ∃ t : Nat, t ≤ 9 ∧ Hid (n < (V + 10 ^ i * (t + 1)) * (V + 10 ^ i * (t + 1)) ∧ ∃ L, ABlk wi w1.heap.size L ∧ L.length = p ∧ DigX L ∧ L[i]? = some (t : Int) ∧ (∀ j, j < i → L[j]? = some 0) ∧ vlX L = ((V + 10 ^ i * t : Nat) : Int)) ∧ Below w1.heap.size w1 wi) (fun wi => cellN wi ⟨w1.heap.size, i, none⟩)
      case atStart => exact ⟨9, by omega, Lib.hid ⟨HV.out.2, HL.out⟩, HBS.out⟩
      case round =>
        clear HL HBS hcell hfree
        obtain ⟨t, ht9, hJ, hB⟩ := hrel
        obtain ⟨u1, L, k1, k2, k3, k4, k5, k6⟩ := hJ.out
        have hcell := k1.cell k4
        by_cases t0 : t = 0
        · subst t0
          rw [Nat.mul_zero, Nat.add_zero] at k6
          rw [Nat.zero_add, Nat.mul_one] at u1
          have HF := Lib.hid (show V * V ≤ n ∧ n < (V + 10 ^ i) * (V + 10 ^ i) ∧ ∃ L, ABlk wr w1.heap.size L ∧ L.length = p ∧ DigX L ∧ vlX L = (V : Int) ∧ ∀ j, j < i → L[j]? = some 0 from ⟨HV.out.1, u1, L, k1, k2, k3, k6, k5⟩)
          clear hJ u1 k1 k2 k3 k4 k5 k6 HV
          rw [Int.natCast_zero] at hcell
          go_wp2
          exact ⟨⟨i, V, by omega, by go_num, HF, hB⟩, by simp [intOf]⟩
        · obtain ⟨T, hT⟩ : ∃ T, V + 10 ^ i * t = T := ⟨_, rfl⟩
          rw [hT] at k6
          have hTp : T < 10 ^ p := by
            have := vlX_lt k3
            rw [k6, k2] at this
            have h9 : ((10 : Int) ^ p) = ((10 ^ p : Nat) : Int) := by rw [Int.natCast_pow]; rfl
            rw [h9] at this
            omega
          have hTl : (grpX T).length ≤ 5000 := gx_le hTp (by omega)
          have hTT : (grpX (T * T)).length ≤ 100000 := by
            refine Nat.le_trans (grpX_len (k := p + p) ?_) (by omega)
            rw [Nat.pow_add]
            exact Nat.mul_lt_mul'' hTp hTp
          have CTR := Lib.hid (show ∀ W, Below wr.heap.size wr W → Calls Tryz.prog 50 #[.slice (some ⟨w1.heap.size, 0, none⟩) p p] W fun e w' => ∃ v, e = .returned v ∧ XSl w' v T ∧ Below W.heap.size W w' from fun W hW => rtrimmed_any L _ p T W (k1.below hW k1.lt) k2 (by omega) (by omega) k3 k6)
          have CTI := Lib.hid (show ∀ W a1 a2, XSl W a1 T → XSl W a2 T → Calls Tryz.prog 37 #[a1, a2] W fun e w' => ∃ v, e = .returned v ∧ XSl w' v (T * T) ∧ Below W.heap.size W w' from fun W a1 a2 h1 h2 => rtimes_any T T a1 a2 W hTl hTl h1 h2)
          have CO := Lib.hid (show ∀ W a1 a2, XSl W a1 (T * T) → XSl W a2 n → Calls Tryz.prog 49 #[a1, a2] W fun e w' => e = .returned (.int .i64 (cmpN ((T * T : Nat) : Int) n)) ∧ Below W.heap.size W w' from fun W a1 a2 h1 h2 => order_any (T * T) n a1 a2 W hTT (by rw [HQ.out]; omega) h1 h2)
          have HX := Lib.hid (H1.out.below hB)
          have KL := Lib.hid (And.intro k1 (And.intro k2 (And.intro k3 (And.intro k4 (And.intro k5 k6)))))
          have HU := Lib.hid u1
          have HTT := Lib.hid hT
          clear hJ u1 k1 k2 k3 k4 k5 k6 hTp hTl hTT hT
          by_cases hle : T * T ≤ n
          · obtain ⟨z9, hz9⟩ : ∃ z9, cmpN ((T * T : Nat) : Int) (n : Int) = z9 := ⟨_, rfl⟩
            have hz90 : z9 ≤ 0 := by rw [← hz9, cmpN]; split; omega; rw [if_neg (by omega)]; omega
            rw [hz9] at CO
            have HLE := Lib.hid hle
            clear hle hz9
            go_wp2_with (first | (go_at_call 50; (with_reducible refine (CTR.out _ (Below.refl _ _)).mono ?_); rintro e w4 ⟨a1, rfl, p1, b4⟩) | (go_at_call 50; (with_reducible refine (CTR.out _ b4).mono ?_); rintro e w5 ⟨a2, rfl, p2, b5⟩; have p3 := p1.below b5; have b55 := b4.trans (b5.mono b4.size); clear b4 b5 p1) | (go_at_call 37; (with_reducible refine (CTI.out _ _ _ p3 p2).mono ?_); rintro e w6 ⟨a3, rfl, p4, b6⟩; have b66 := b55.trans (b6.mono b55.size); have hx6 := HX.out.below b66; clear p2 p3 b6 b55) | (go_at_call 49; (with_reducible refine (CO.out _ _ _ p4 hx6).mono ?_); rintro e w7 ⟨rfl, b7⟩; have b7 := b66.trans (b7.mono b66.size); clear p4 hx6 b66))
            have HF : V + 10 ^ i * (t + 1) = T + 10 ^ i := by rw [← HTT.out, Nat.mul_add, Nat.mul_one, Nat.add_assoc]
            have hu := HU.out
            rw [HF] at hu
            obtain ⟨k1, k2, k3, k4, k5, k6⟩ := KL.out
            exact ⟨⟨i, T, by omega, by go_num, Lib.hid ⟨HLE.out, hu, L, k1.below b7 k1.lt, k2, k3, k6, k5⟩, hB.trans (b7.mono hB.size)⟩, by simp [intOf]⟩
          · have hz9 : cmpN ((T * T : Nat) : Int) (n : Int) = 1 := by rw [cmpN, if_neg (by omega), if_pos (by omega)]
            rw [hz9] at CO
            have HLE := Lib.hid hle
            clear hle hz9
            go_wp2_with (first | (go_at_call 50; (with_reducible refine (CTR.out _ (Below.refl _ _)).mono ?_); rintro e w4 ⟨a1, rfl, p1, b4⟩) | (go_at_call 50; (with_reducible refine (CTR.out _ b4).mono ?_); rintro e w5 ⟨a2, rfl, p2, b5⟩; have p3 := p1.below b5; have b55 := b4.trans (b5.mono b4.size); clear b4 b5 p1) | (go_at_call 37; (with_reducible refine (CTI.out _ _ _ p3 p2).mono ?_); rintro e w6 ⟨a3, rfl, p4, b6⟩; have b66 := b55.trans (b6.mono b55.size); have hx6 := HX.out.below b66; clear p2 p3 b6 b55) | (go_at_call 49; (with_reducible refine (CO.out _ _ _ p4 hx6).mono ?_); rintro e w7 ⟨rfl, b7⟩; have b7 := b66.trans (b7.mono b66.size); clear p4 hx6 b66; have hcell7 := (KL.out.1.below b7 KL.out.1.lt).cell KL.out.2.2.2.1; have hfree7 := (KL.out.1.below b7 KL.out.1.lt).free i))
            obtain ⟨k1, k2, k3, k4, k5, k6⟩ := KL.out
            obtain ⟨s, rfl⟩ : ∃ s, t = s + 1 := ⟨t - 1, by omega⟩
            have es : (((s + 1 : Nat)) : Int) - 1 = (s : Int) := by omega
            rw [es]
            have kk := (k1.below b7 k1.lt).set i (s : Int)
            have hlt := HLE.out
            refine ⟨⟨s, by omega, Lib.hid ⟨by rw [HTT.out]; omega, L.set i (s : Int), kk, by rw [List.length_set]; exact k2, k3.set i (by omega), by rw [List.getElem?_set_self (by omega)], fun j hj => by rw [List.getElem?_set_ne (by omega)]; exact k5 j hj, ?_⟩, (hB.trans (b7.mono hB.size)).setCell (p := ⟨w1.heap.size, i, none⟩) (Nat.le_refl _) _⟩, ?_⟩
            · rw [vlX_set L i _ _ k4, k6, ← HTT.out, Nat.mul_add, Nat.mul_one]
              rw [show ((s : Int) - ((s + 1 : Nat) : Int)) = -1 by omega, Int.mul_neg, Int.mul_one]
              rw [show (10 : Int) ^ i = ((10 ^ i : Nat) : Int) by rw [Int.natCast_pow]; rfl]
              omega
            · rw [cellN_eq (kk.cell (by rw [List.getElem?_set_self (by omega)])), cellN_eq (k1.cell k4)]
              omega
end Go.Proofs.YtbdiofifjckceaaGreatDoor
