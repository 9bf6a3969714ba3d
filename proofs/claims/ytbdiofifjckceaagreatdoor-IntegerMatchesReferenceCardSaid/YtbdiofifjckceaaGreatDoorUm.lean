/- The reference's FromInt and ToInt. -/
import Derived.Test.YtbdiofifjckceaaGreatDoorUl
namespace Go.Proofs.YtbdiofifjckceaaGreatDoor
open Go.RowKit

theorem mz_tmod (b : Bool) (q : Nat) : ((mz b q).tmod 10).natAbs = q % 10 ∧ (mz b q).tdiv 10 = mz b (q / 10) := by
  unfold mz
  cases b
  · simp only [Bool.false_eq_true, if_false]
    exact ⟨by rw [Int.tmod_eq_emod_of_nonneg (by omega)]; omega, by rw [Int.tdiv_eq_ediv_of_nonneg (by omega)]; omega⟩
  · simp only [if_true]
    exact ⟨by rw [Int.neg_tmod, Int.tmod_eq_emod_of_nonneg (by omega)]; omega, by rw [Int.neg_tdiv, Int.tdiv_eq_ediv_of_nonneg (by omega)]; omega⟩
theorem take_gx {N i : Nat} (h : i < (grpX N).length) : (grpX N).take (i + 1) = (grpX N).take i ++ [(((N / 10 ^ i) % 10 : Nat) : Int)] := by
  have hg := gx_get N i
  rw [if_pos ((gx_len N i).1 h)] at hg
  rw [List.take_add_one, hg]; rfl

set_option maxRecDepth 100000 in
set_option maxHeartbeats 2000000 in
theorem rFromInt_any (n : Int) (w : World) (h0 : -9223372036854775808 ≤ n) (h1 : n ≤ 9223372036854775807) :
    Calls Tryz.prog 8 #[.int .i64 n] w fun e w' => e = .returned (.string (S n)) ∧ Below w.heap.size w w' := by
  obtain ⟨i0, hi, hz0, hz1, hz2⟩ := info_parts info_int
  have HZ2 := Lib.hid hz2
  obtain ⟨N, hN⟩ : ∃ N, n.natAbs = N := ⟨_, rfl⟩
  have hnz := mz_num n
  rw [hN] at hnz
  have hN9 : N ≤ 9223372036854775808 := by omega
  have hK : (grpX N).length ≤ 20 := grpX_len (by omega)
  obtain ⟨K, hKe⟩ : ∃ K, (grpX N).length = K := ⟨_, rfl⟩
  rw [hKe] at hK
  have HK := Lib.hid hKe
  obtain ⟨b, hb⟩ : ∃ b, decide (n < 0) = b := ⟨_, rfl⟩
  rw [hb] at hnz
  have hrange : ∀ q, q ≤ N → -9223372036854775808 ≤ mz b q ∧ mz b q ≤ 9223372036854775807 := fun q hq => by
    unfold mz at hnz ⊢
    cases b <;> simp at hnz ⊢ <;> omega
  have HR := Lib.hid hrange
  have cT : ∀ W v, XSl W v N → Calls Tryz.prog 28 #[.bool (decide (n < 0)), v] W fun e w' => e = .returned (.tuple #[.string (S n), .bool (decide (N < 10 ^ 200))]) ∧ Below W.heap.size W w' := fun W v h => by
    have h := rtext_G b N v W (by rw [hKe]; omega) h
    rw [← hnz] at h
    rw [hb]; exact h
  have CT := Lib.hid cT
  have HNZ := Lib.hid hnz
  have HB := Lib.hid hb
  generalize S n = R at *
  clear hz2 hKe hnz hrange cT hN hb
  go_enter Tryz.func8, Tryz.ntmps8
  go_wp2
  go_loopw [3, 4] (fun lv mv wr => ∃ (i : Nat) (ad : Option Addr) (cp : Nat), i ≤ K ∧ lv = .slice ad i cp ∧ mv = .int .i64 (mz b (N / 10 ^ i)) ∧ Hid (wr.ownsRow w.heap.size 3 1 lv i (ints ((grpX N).take i))) ∧ Below w.heap.size w wr) (fun _ mv _ => (intOf mv).natAbs)
  case atStart => exact ⟨0, _, _, Nat.zero_le _, rfl, by rw [Nat.pow_zero, Nat.div_one, ← HNZ.out], Lib.hid ⟨rfl, .inl ⟨rfl, rfl⟩⟩, Below.refl _ _⟩
  case round =>
    obtain ⟨i, ad, cp, hi9, rfl, rfl, hO, hB⟩ := hrel
    obtain ⟨q, hq⟩ : ∃ q, N / 10 ^ i = q := ⟨_, rfl⟩
    have hqN : q ≤ N := by rw [← hq]; exact Nat.div_le_self _ _
    have hr := HR.out q hqN
    have hma := mz_abs b q
    have hmt := mz_tmod b q
    by_cases hiK : i < K
    · have hq0 : 0 < q := by rw [← hq]; exact Nat.div_pos ((gx_len N i).1 (by rw [HK.out]; exact hiK)) (by exact Nat.pos_of_ne_zero (by simp))
      have hx : (N / 10 ^ i) % 10 = q % 10 := by rw [hq]
      have hq2 : N / 10 ^ (i + 1) = q / 10 := by rw [← hq, Nat.pow_succ, Nat.div_div_eq_div_mul]
      have htk := take_gx (N := N) (i := i) (by rw [HK.out]; exact hiK)
      rw [hq] at htk ⊢
      obtain ⟨x, hxe⟩ : ∃ x, q % 10 = x := ⟨_, rfl⟩
      have hx9 : x < 10 := by omega
      rw [hxe] at htk hmt
      have HM2 := Lib.hid (show mz b (q / 10) = mz b (N / 10 ^ (i + 1)) by rw [hq2])
      have hdec : (mz b (q / 10)).natAbs < q := by rw [mz_abs]; omega
      have hr2 := HR.out (q / 10) (by omega)
      obtain ⟨m2, hm2⟩ : ∃ m, mz b (q / 10) = m := ⟨_, rfl⟩
      rw [hm2] at hdec hr2 hmt HM2
      obtain ⟨m, hm⟩ : ∃ m, mz b q = m := ⟨_, rfl⟩
      rw [hm] at hma hr hmt ⊢
      obtain ⟨d, hd⟩ : ∃ d, m.tmod 10 = d := ⟨_, rfl⟩
      obtain ⟨hm1, hmd⟩ := hmt
      rw [hd] at hm1
      have q1 : (m == 0) = false := by rw [beq_eq_false_iff_ne]; omega
      have q2 : (m != 0) = true := by rw [bne, q1]; rfl
      have HO := Lib.hid (hO.out.alloc (.cells #[.int .i64 (x : Int)] 3))
      have HO3 := Lib.hid (show ∀ (w3 : World) (v3 : Value), w3.ownsRow w.heap.size 3 1 v3 (i + 1) (ints ((grpX N).take i) ++ [.int .i64 (x : Int)]) → w3.ownsRow w.heap.size 3 1 v3 (i + 1) (ints ((grpX N).take (i + 1))) from fun w3 v3 h => by rw [htk]; simpa [ints] using h)
      have HBA := Lib.hid (hB.alloc hB.size (.cells #[.int .i64 (x : Int)] 3))
      have HOB := Lib.hid (show ∀ q, (Value.slice ad i cp).ownBlock = some q → w.heap.size ≤ q from fun q hq => own_block hO.out hq)
      have hr20 := hr2.1
      have hr21 := hr2.2
      have hr0 := hr.1
      have hr1 := hr.2
      have hmq : (intOf (Value.int .i64 m)).natAbs = q := by rw [intOf]; exact hma
      clear hO hB htk hx hq2 hxe hq hr2 hr hm2 hm
      by_cases hd0 : d < 0
      · have hdx : -d = (x : Int) := by omega
        go_wp2_with (at_builtin; go_loud (refine wpList_append_lies _ rfl (.tmp 19) (.tmp 21) 40 rfl w.heap.size 3 i0 (.int .i64 0) 1 8 Tryz.underlying40 hi hz0 hz1 HZ2.out rfl (by decide) (.slice ad i cp) _ _ rfl HO.out ⟨wr.heap.size, 0, none⟩ 1 1 [.int .i64 (x : Int)] rfl rfl (one_newJ wr _) (by intro u hu; simp at hu; subst hu; rfl) (by decide) (by unfold maxLen; omega) (by omega) HBA.out.size _ rfl ?_; intro g2 cap2 w3 hown3 hgrow _ _; have HOW := Lib.hid (HO3.out w3 _ hown3); have HB3 := Lib.hid (HBA.out.grown hgrow HBA.out.size (fun q hq => HOB.out q hq)); clear hown3 hgrow))
        exact ⟨⟨i + 1, _, _, by omega, rfl, by rw [HM2.out], HOW, HB3.out⟩, by rw [hmq]; simpa [intOf] using hdec⟩
      · have hdx : d = (x : Int) := by omega
        subst hdx
        go_wp2_with (at_builtin; go_loud (refine wpList_append_lies _ rfl (.tmp 19) (.tmp 21) 40 rfl w.heap.size 3 i0 (.int .i64 0) 1 8 Tryz.underlying40 hi hz0 hz1 HZ2.out rfl (by decide) (.slice ad i cp) _ _ rfl HO.out ⟨wr.heap.size, 0, none⟩ 1 1 [.int .i64 (x : Int)] rfl rfl (one_newJ wr _) (by intro u hu; simp at hu; subst hu; rfl) (by decide) (by unfold maxLen; omega) (by omega) HBA.out.size _ rfl ?_; intro g2 cap2 w3 hown3 hgrow _ _; have HOW := Lib.hid (HO3.out w3 _ hown3); have HB3 := Lib.hid (HBA.out.grown hgrow HBA.out.size (fun q hq => HOB.out q hq)); clear hown3 hgrow))
        exact ⟨⟨i + 1, _, _, by omega, rfl, by rw [HM2.out], HOW, HB3.out⟩, by rw [hmq]; simpa [intOf] using hdec⟩
    · obtain rfl : i = K := by omega
      have hq0 : q = 0 := by rw [← hq]; exact gx_end (by rw [HK.out]; exact Nat.le_refl _)
      subst hq0
      have hO2 := hO.out
      rw [List.take_of_length_le (by rw [HK.out]; exact Nat.le_refl _)] at hO2
      have HX := Lib.hid (own_XSl hO2 HK.out rfl)
      rw [hq, mz_zero]
      clear hO hO2 hq hr hma hmt
      go_wp2_with (go_at_call 28; go_loud ((with_reducible refine (CT.out _ _ HX.out).mono ?_); rintro e w2 ⟨rfl, b2⟩))
      go_ret
      exact ⟨rfl, hB.trans (b2.mono hB.size)⟩

theorem nmN_le (a b : List UInt8) : nmN a ≤ nmN (a ++ b) := by
  induction b generalizing a with
  | nil => rw [List.append_nil]; exact Nat.le_refl _
  | cons c b ih =>
    have h := ih (a ++ [c])
    rw [List.append_assoc, List.singleton_append] at h
    have h2 := nmN_snoc a c
    omega
theorem nmN_take {D : List UInt8} {i : Nat} {c : UInt8} (h : D[i]? = some c) : nmN (D.take (i + 1)) = 10 * nmN (D.take i) + (c.toNat - 48) ∧ nmN (D.take (i + 1)) ≤ nmN D := by
  constructor
  · rw [List.take_add_one, h]; exact nmN_snoc _ _
  · have := nmN_le (D.take (i + 1)) (D.drop (i + 1))
    rwa [List.take_append_drop] at this
def litLo : List UInt8 := [45, 57, 50, 50, 51, 51, 55, 50, 48, 51, 54, 56, 53, 52, 55, 55, 53, 56, 48, 56]
def litHi : List UInt8 := [57, 50, 50, 51, 51, 55, 50, 48, 51, 54, 56, 53, 52, 55, 55, 53, 56, 48, 55]
theorem cmp_lo (s : ByteArray) (L : List UInt8) (w : World) (hL : s.data.toList = L) (hv : vld L = true) :
    Calls Tryz.prog 26 #[.string s, .string ⟨#[45, 57, 50, 50, 51, 51, 55, 50, 48, 51, 54, 56, 53, 52, 55, 55, 53, 56, 48, 56]⟩] w fun e w' => e = .returned (.int .i64 (cmpN (num L) (-9223372036854775808))) ∧ Below w.heap.size w w' := by
  have h := rCompare_ok s ⟨#[45, 57, 50, 50, 51, 51, 55, 50, 48, 51, 54, 56, 53, 52, 55, 55, 53, 56, 48, 56]⟩ L litLo w hL rfl hv (by decide)
  rwa [show num litLo = -9223372036854775808 by decide] at h
theorem cmp_hi (s : ByteArray) (L : List UInt8) (w : World) (hL : s.data.toList = L) (hv : vld L = true) :
    Calls Tryz.prog 26 #[.string s, .string ⟨#[57, 50, 50, 51, 51, 55, 50, 48, 51, 54, 56, 53, 52, 55, 55, 53, 56, 48, 55]⟩] w fun e w' => e = .returned (.int .i64 (cmpN (num L) 9223372036854775807)) ∧ Below w.heap.size w w' := by
  have h := rCompare_ok s ⟨#[57, 50, 50, 51, 51, 55, 50, 48, 51, 54, 56, 53, 52, 55, 55, 53, 56, 48, 55]⟩ L litHi w hL rfl hv (by decide)
  rwa [show num litHi = 9223372036854775807 by decide] at h

set_option maxRecDepth 100000 in
theorem rToInt_no (s : ByteArray) (L : List UInt8) (w : World) (hL : s.data.toList = L) (hz : L.length ≤ 60000) (hv : vld L = false) :
    Calls Tryz.prog 22 #[.string s] w fun e w' => e = .returned (.tuple #[.int .i64 0, .int .i64 30]) ∧ Below w.heap.size w w' := by
  have cV := fun W => rValid_any s L W hL hz
  rw [hv] at cV
  clear hL hz hv
  go_enter Tryz.func22, Tryz.ntmps22
  go_wp2_with (go_at_call 24; (with_reducible refine (cV _).mono ?_); rintro e w1 ⟨rfl, rfl⟩)
  go_ret2
  exact ⟨rfl, Below.refl _ _⟩
set_option maxRecDepth 100000 in
set_option maxHeartbeats 1000000 in
theorem rToInt_out (s : ByteArray) (L : List UInt8) (w : World) (hL : s.data.toList = L) (hv : vld L = true) (h0 : ¬ (-9223372036854775808 ≤ num L ∧ num L ≤ 9223372036854775807)) :
    Calls Tryz.prog 22 #[.string s] w fun e w' => e = .returned (.tuple #[.int .i64 0, .int .i64 30]) ∧ Below w.heap.size w w' := by
  have cV := fun W => rValid_any s L W hL (by have := (vld_digits hv).2.2; omega)
  rw [hv] at cV
  have c1 := fun W => cmp_lo s L W hL hv
  have c2 := fun W => cmp_hi s L W hL hv
  by_cases hlo : num L < -9223372036854775808
  · rw [show cmpN (num L) (-9223372036854775808) = -1 by rw [cmpN, if_pos hlo]] at c1
    clear hL hv h0 c2 hlo
    go_enter Tryz.func22, Tryz.ntmps22
    go_wp2_with (first | (go_at_call 24; (with_reducible refine (cV _).mono ?_); rintro e w1 ⟨rfl, rfl⟩) | (go_at_call 26; (with_reducible refine (c1 _).mono ?_); rintro e w2 ⟨rfl, B2⟩))
    go_ret2
    exact ⟨rfl, B2⟩
  · rw [show cmpN (num L) 9223372036854775807 = 1 by rw [cmpN, if_neg (by omega), if_pos (by omega)]] at c2
    have hc : 0 ≤ cmpN (num L) (-9223372036854775808) := by rw [cmpN, if_neg hlo]; split <;> omega
    generalize cmpN (num L) (-9223372036854775808) = z1 at *
    clear hL hv h0 hlo
    go_enter Tryz.func22, Tryz.ntmps22
    go_wp2_with (first | (go_at_call 24; (with_reducible refine (cV _).mono ?_); rintro e w1 ⟨rfl, rfl⟩) | (go_at_call 26; (with_reducible refine (c1 _).mono ?_); rintro e w2 ⟨rfl, B2⟩) | (go_at_call 26; (with_reducible refine (c2 _).mono ?_); rintro e w3 ⟨rfl, B3⟩))
    go_ret2
    exact ⟨rfl, B2.trans (B3.mono B2.size)⟩
set_option maxRecDepth 100000 in
set_option maxHeartbeats 2000000 in
theorem rToInt_S (z : Int) (w : World) (h0 : -9223372036854775808 ≤ z) (h1 : z ≤ 9223372036854775807) :
    Calls Tryz.prog 22 #[.string (S z)] w fun e w' => e = .returned (.tuple #[.int .i64 z, .int .i64 0]) ∧ Below w.heap.size w w' := by
  have hz : z.natAbs < 10 ^ 200 := by omega
  have cV := fun W => rValid_any (S z) (txt z) W (S_list z) (S_len hz)
  rw [txt_vld hz] at cV
  have c1 := fun W => cmp_lo (S z) (txt z) W (S_list z) (txt_vld hz)
  have c2 := fun W => cmp_hi (S z) (txt z) W (S_list z) (txt_vld hz)
  rw [txt_num] at c1 c2
  have hc1 : 0 ≤ cmpN z (-9223372036854775808) := by rw [cmpN, if_neg (by omega)]; split <;> omega
  have hc2 : cmpN z 9223372036854775807 ≤ 0 := by rw [cmpN]; split; omega; rw [if_neg (by omega)]; omega
  generalize cmpN z (-9223372036854775808) = z1 at *
  generalize cmpN z 9223372036854775807 = z2 at *
  have hsl := S_list z
  generalize S z = s at *
  obtain ⟨n, hn⟩ : ∃ n, z.natAbs = n := ⟨_, rfl⟩
  obtain ⟨D, hD⟩ : ∃ D, txN n = D := ⟨_, rfl⟩
  have hall : D.all isDg = true := by rw [← hD]; exact txN_all n
  have hpos : 0 < D.length := by rw [← hD]; exact txN_pos n
  have hlen : D.length ≤ 200 := by rw [← hD]; exact txN_len (by omega) (by decide)
  have hnm : nmN D = n := by rw [← hD]; exact txN_num n
  obtain ⟨m, hm⟩ : ∃ m, D.length = m := ⟨_, rfl⟩
  rw [hm] at hpos hlen
  have CV := Lib.hid cV
  have C1 := Lib.hid c1
  have C2 := Lib.hid c2
  have HA := Lib.hid hall
  have HNM := Lib.hid hnm
  clear cV c1 c2 hz
  by_cases hneg : z < 0
  · rw [txt, if_pos hneg, hn, hD] at hsl
    have hsz := bytes_size hsl
    rw [List.length_cons, hm] at hsz
    have hg0 := fun h : 0 < s.size => bytes_at (j := 0) hsl rfl h
    have HD := Lib.hid (And.intro hsl hm)
    have hzn : z = -(n : Int) := by omega
    have HZN := Lib.hid hzn
    have hn9 : n ≤ 9223372036854775808 := by omega
    clear hsl hm hD hneg hn hall hnm h0 h1 hzn
    go_enter Tryz.func22, Tryz.ntmps22
    go_wp2_with (first | (go_at_call 24; (with_reducible refine (CV.out _).mono ?_); rintro e w1 ⟨rfl, rfl⟩) | (go_at_call 26; (with_reducible refine (C1.out _).mono ?_); rintro e w2 ⟨rfl, B2⟩) | (go_at_call 26; (with_reducible refine (C2.out _).mono ?_); rintro e w3 ⟨rfl, b3⟩; have B3 := B2.trans (b3.mono B2.size)))
    go_loopw [4, 5] (fun nv iv wr => ∃ i : Nat, i ≤ m + 1 ∧ nv = .int .i64 (-((nmN (D.take (i - 1)) : Nat) : Int)) ∧ iv = .int .i64 (i : Int) ∧ w3 = wr) (fun _ iv _ => m + 1 - (intOf iv).toNat)
    case atStart => exact ⟨0, Nat.zero_le _, by simp [nmN], rfl, rfl⟩
    case round =>
      clear CV C1 C2
      obtain ⟨i, hi, rfl, rfl, rfl⟩ := hrel
      by_cases hi0 : i = 0
      · subst hi0
        rw [show nmN (D.take (0 - 1)) = 0 by simp [nmN]]
        go_wp2
        exact ⟨⟨1, by omega, by simp [nmN], rfl, trivial⟩, by simp [intOf]⟩
      · obtain ⟨j, rfl⟩ : ∃ j, i = j + 1 := ⟨i - 1, by omega⟩
        rw [Nat.add_sub_cancel]
        by_cases hjm : j < m
        · obtain ⟨c, hc⟩ : ∃ c, D[j]? = some c := ⟨_, List.getElem?_eq_getElem (by rw [HD.out.2]; exact hjm)⟩
          have hg := fun h : j + 1 < s.size => bytes_at (j := j + 1) HD.out.1 (by rw [List.getElem?_cons_succ]; exact hc) h
          have hcd := (isDg_iff c).1 (List.all_eq_true.1 HA.out c (List.mem_of_getElem? hc))
          have hq0 : ((c.toNat : Int) == 45) = false := by rw [beq_eq_false_iff_ne, ne_eq]; omega
          have ew : IntKind.u8.wrap ((c.toNat : Int) - 48) = (c.toNat : Int) - 48 := by simp [IntKind.wrap, IntKind.bits, IntKind.signed]; omega
          obtain ⟨t1, t2⟩ := nmN_take hc
          rw [HNM.out] at t2
          rw [t1] at t2
          have HT := Lib.hid t1
          clear t1
          generalize nmN (D.take j) = A at *
          have d1 := hcd.1
          have d2 := hcd.2
          clear hc hcd
          go_wp2
          exact ⟨⟨j + 2, by omega, by rw [show j + 2 - 1 = j + 1 from rfl, HT.out]; go_num, by go_num, trivial⟩, by simp [intOf]; omega⟩
        · obtain rfl : j = m := by omega
          rw [List.take_of_length_le (by rw [HD.out.2]; exact Nat.le_refl _), HNM.out]
          go_wp2
          go_ret2
          exact ⟨by rw [HZN.out]; rfl, B3⟩
  · rw [txt, if_neg hneg, hn, hD] at hsl
    have hsz := bytes_size hsl
    rw [hm] at hsz
    obtain ⟨c0, hc0⟩ : ∃ c, D[0]? = some c := ⟨_, List.getElem?_eq_getElem (by rw [hm]; exact hpos)⟩
    have hg0 := fun h : 0 < s.size => bytes_at hsl hc0 h
    have hc9 := (isDg_iff c0).1 (List.all_eq_true.1 HA.out c0 (List.mem_of_getElem? hc0))
    have hq00 : ((c0.toNat : Int) == 45) = false := by rw [beq_eq_false_iff_ne, ne_eq]; omega
    have HD := Lib.hid (And.intro hsl hm)
    have hzn : z = (n : Int) := by omega
    have HZN := Lib.hid hzn
    have hn9 : n ≤ 9223372036854775807 := by omega
    clear hsl hm hD hneg hn hall hnm h0 h1 hzn hc0 hc9
    go_enter Tryz.func22, Tryz.ntmps22
    go_wp2_with (first | (go_at_call 24; (with_reducible refine (CV.out _).mono ?_); rintro e w1 ⟨rfl, rfl⟩) | (go_at_call 26; (with_reducible refine (C1.out _).mono ?_); rintro e w2 ⟨rfl, B2⟩) | (go_at_call 26; (with_reducible refine (C2.out _).mono ?_); rintro e w3 ⟨rfl, b3⟩; have B3 := B2.trans (b3.mono B2.size)))
    go_loopw [4, 5] (fun nv iv wr => ∃ i : Nat, i ≤ m ∧ nv = .int .i64 ((nmN (D.take i) : Nat) : Int) ∧ iv = .int .i64 (i : Int) ∧ w3 = wr) (fun _ iv _ => m - (intOf iv).toNat)
    case atStart => exact ⟨0, Nat.zero_le _, by simp [nmN], rfl, rfl⟩
    case round =>
      clear CV C1 C2
      obtain ⟨i, hi, rfl, rfl, rfl⟩ := hrel
      by_cases hjm : i < m
      · obtain ⟨c, hc⟩ : ∃ c, D[i]? = some c := ⟨_, List.getElem?_eq_getElem (by rw [HD.out.2]; exact hjm)⟩
        have hg := fun h : i < s.size => bytes_at HD.out.1 hc h
        have hcd := (isDg_iff c).1 (List.all_eq_true.1 HA.out c (List.mem_of_getElem? hc))
        have hq0 : ((c.toNat : Int) == 45) = false := by rw [beq_eq_false_iff_ne, ne_eq]; omega
        have ew : IntKind.u8.wrap ((c.toNat : Int) - 48) = (c.toNat : Int) - 48 := by simp [IntKind.wrap, IntKind.bits, IntKind.signed]; omega
        obtain ⟨t1, t2⟩ := nmN_take hc
        rw [HNM.out] at t2
        rw [t1] at t2
        have HT := Lib.hid t1
        clear t1
        generalize nmN (D.take i) = A at *
        have d1 := hcd.1
        have d2 := hcd.2
        clear hc hcd
        go_wp2
        exact ⟨⟨i + 1, by omega, by rw [HT.out]; go_num, by go_num, trivial⟩, by simp [intOf]; omega⟩
      · obtain rfl : i = m := by omega
        rw [List.take_of_length_le (by rw [HD.out.2]; exact Nat.le_refl _), HNM.out]
        go_wp2
        go_ret2
        exact ⟨by rw [HZN.out]; rfl, B3⟩
end Go.Proofs.YtbdiofifjckceaaGreatDoor
