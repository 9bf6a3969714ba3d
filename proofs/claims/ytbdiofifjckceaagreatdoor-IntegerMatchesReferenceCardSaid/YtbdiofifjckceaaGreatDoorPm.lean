/- readNatural. -/
import Derived.Test.YtbdiofifjckceaaGreatDoorPl
import Derived.Deep.AppendLies
namespace Go.Proofs.YtbdiofifjckceaaGreatDoor
open Go.RowKit

theorem nmN_app (a b : List UInt8) : nmN (a ++ b) = nmN a * 10 ^ b.length + nmN b := by
  induction b generalizing a with
  | nil => simp [nmN]
  | cons c b ih =>
    have h := ih [c]
    have h2 := ih (a ++ [c])
    rw [List.singleton_append] at h
    rw [List.append_assoc, List.singleton_append] at h2
    rw [h2, h, nmN_snoc, show ([c] : List UInt8) = [] ++ [c] from rfl, nmN_snoc, List.length_cons, Nat.pow_succ, Nat.add_mul]
    have e1 : 10 * nmN a * 10 ^ b.length = nmN a * (10 ^ b.length * 10) := by
      rw [Nat.mul_comm 10, Nat.mul_assoc, Nat.mul_comm 10]
    have e2 : nmN [] = 0 := rfl
    rw [e1, e2]; simp only [Nat.mul_zero, Nat.zero_add]; omega
theorem nmN_lt {l : List UInt8} (h : l.all isDg = true) : nmN l < 10 ^ l.length := by
  have h1 := nmN_dgs h
  have h2 := vlX_lt (dgs_dig h)
  rw [dgs_len, ← h1] at h2
  have e : ((10 ^ l.length : Nat) : Int) = (10 : Int) ^ l.length := by simp
  omega
theorem all_mid {L : List UInt8} (h : L.all isDg = true) (a b : Nat) : ((L.drop a).take b).all isDg = true := by
  rw [List.all_eq_true] at h ⊢
  exact fun x hx => h x (List.mem_of_mem_drop (List.mem_of_mem_take hx))

theorem one_newI (W : World) (x : Int) : ∀ j u, [Value.int .i64 x][j]? = some u → (W.alloc (.cells #[.int .i64 x] 3)).cell? ((⟨W.heap.size, 0, none⟩ : Addr).add j) = some u := by
  intro j u hj
  have hj0 : j = 0 := by
    have := (List.getElem?_eq_some_iff.1 hj).1
    simp at this; exact this
  subst hj0
  rw [Addr.add_mid, World.cell?, World.alloc_heap_new]
  simpa using hj

set_option maxRecDepth 100000 in
set_option maxHeartbeats 1000000 in
theorem readNatural_any (s : ByteArray) (L : List UInt8) (sz : Nat) (w : World) (hL : s.data.toList = L) (hs : L.length = sz) (h9 : sz ≤ 200) (hd : L.all isDg = true) :
    Calls Tryz.prog 63 #[.string s] w fun e w' => ∃ v, e = .returned v ∧ NSl w' v (nmN L) ∧ Below w.heap.size w w' := by
  have hsz : s.size = sz := by rw [← hs]; exact bytes_size hL
  obtain ⟨i0, hi, hz0, hz1, hz2⟩ := info_parts info_int
  have HBY := Lib.hid (show i0.bytes * (sz / 4 + 1) ≤ 281474976710656 by rw [hz2]; omega)
  have hmx : sz / 4 + 1 ≤ maxLen := by unfold maxLen; omega
  have HL := Lib.hid hL
  have HS := Lib.hid hs
  have HD := Lib.hid hd
  have HZ2 := Lib.hid hz2
  clear hL hs hd hz2
  go_enter Tryz.func63, Tryz.ntmps63
  go_wp2_with (first | (refine wpList_make_own _ rfl (.const (.int .i64 0)) (.tmp 10) 47 rfl w.heap.size 3 i0 (.int .i64 0) 1 Tryz.underlying47 hi hz0 hz1 .i64 .i64 _ (sz / 4 + 1) rfl rfl (by omega) HBY.out hmx (Nat.le_refl _) ?_; intro w1 hown1 hgrow1; have HO := Lib.hid hown1; have hB1 := (Below.refl w.heap.size w).grown hgrow1 (Nat.le_refl _) (fun k e => by cases e); clear hown1 hgrow1))
  all_goals
    go_loopw [3, 4] (fun v en wr => ∃ (k g cap : Nat) (z : Int) (l : List Int), v = .slice (some ⟨g, 0, none⟩) k cap ∧ en = .int .i64 z ∧ z + 4 * (k : Int) = (sz : Int) ∧ -4 < z ∧ Hid (wr.ownsRow w.heap.size 3 1 (.slice (some ⟨g, 0, none⟩) k cap) k (ints l) ∧ Dig l ∧ vl l = nmN (L.drop z.toNat)) ∧ Below w.heap.size w wr) (fun _ en _ => (intOf en).toNat)
    case atStart =>
      exact ⟨0, w.heap.size, sz / 4 + 1, sz, [], rfl, rfl, by omega, by omega, Lib.hid ⟨HO.out, dig_nil, by rw [List.drop_eq_nil_of_le (by rw [HS.out]; omega)]; rfl⟩, hB1⟩
    case round =>
      clear HO hB1
      obtain ⟨k, g, cap, z, l, rfl, rfl, hz, hz4, hP, hB⟩ := hrel
      by_cases h1 : 0 < z
      · obtain ⟨e, rfl⟩ : ∃ e : Nat, z = (e : Int) := ⟨z.toNat, by omega⟩
        obtain ⟨lo, hlo⟩ : ∃ lo : Nat, e - 4 = lo := ⟨_, rfl⟩
        have em : max ((e : Int) - 4) 0 = (lo : Int) := by omega
        have hle : lo ≤ e := by omega
        have hes : e ≤ sz := by omega
        have HP := hP
        have HB := Lib.hid hB
        clear hP hB
        go_wp2
        all_goals
          go_loopw [5, 6] (fun gr i wi => ∃ j : Nat, lo ≤ j ∧ j ≤ e ∧ i = .int .i64 (j : Int) ∧ gr = .int .i64 (nmN ((L.drop lo).take (j - lo)) : Int) ∧ wr = wi) (fun _ i _ => e - (intOf i).toNat)
          case atStart => exact ⟨lo, Nat.le_refl _, hle, by (first | rfl | (congr 1; omega)), by rw [Nat.sub_self, List.take_zero]; rfl, rfl⟩
          case round =>
            obtain ⟨j, hj1, hj2, rfl, rfl, rfl⟩ := hrel
            have hal := all_mid HD.out lo (j - lo)
            have hnl := nmN_lt hal
            have hn4 : nmN ((L.drop lo).take (j - lo)) < 10 ^ 4 := Nat.lt_of_lt_of_le hnl (Nat.pow_le_pow_right (by decide) (by rw [List.length_take]; omega))
            by_cases h2 : j < e
            · have hjL : j < L.length := by rw [HS.out]; omega
              obtain ⟨x, hx⟩ : ∃ x, L[j]? = some x := ⟨_, List.getElem?_eq_getElem hjL⟩
              have hxs : ∀ h : j < s.size, s[j] = x := fun h => by
                have h1 : s.data[j]? = some x := by rw [← Array.getElem?_toList, HL.out]; exact hx
                exact (Array.getElem?_eq_some_iff.1 h1).2
              have hxd : isDg x = true := (List.all_eq_true.1 HD.out) x (List.mem_of_getElem? hx)
              have hxb := (isDg_iff x).1 hxd
              have ew : IntKind.u8.wrap ((x.toNat : Int) - 48) = (x.toNat : Int) - 48 := by simp [IntKind.wrap, IntKind.bits, IntKind.signed]; omega
              have HT := Lib.hid (show (nmN ((L.drop lo).take (j + 1 - lo)) : Int) = 10 * (nmN ((L.drop lo).take (j - lo)) : Int) + ((x.toNat : Int) - 48) by
                rw [show j + 1 - lo = (j - lo) + 1 by omega, List.take_add_one, List.getElem?_drop, show lo + (j - lo) = j by omega, hx]
                simp only [Option.toList_some]
                rw [nmN_snoc]; omega)
              have x48 := hxb.1
              have x57 := hxb.2
              generalize nmN ((L.drop lo).take (j - lo)) = N at *
              clear hal hnl hxd hxb hjL hx
              go_wp2
              exact ⟨⟨j + 1, by omega, by omega, by go_num, by rw [HT.out], trivial⟩, by simp [intOf]; omega⟩
            · have hje : j = e := by omega
              subst hje
              obtain ⟨o1, o2, o3⟩ := HP.out
              obtain ⟨b1, b2, b3, b4, b5⟩ := own_blk o1
              have hdr : (L.drop j).length = 4 * k := by rw [List.length_drop, HS.out]; omega
              have hcat : L.drop lo = (L.drop lo).take (j - lo) ++ L.drop j := by
                have := (List.take_append_drop (j - lo) (L.drop lo)).symm
                rwa [List.drop_drop, show lo + (j - lo) = j by omega] at this
              have hval : (nmN (L.drop lo) : Int) = vl l + 10000 ^ k * (nmN ((L.drop lo).take (j - lo)) : Int) := by
                have h := nmN_app ((L.drop lo).take (j - lo)) (L.drop j)
                rw [← hcat, hdr] at h
                rw [h, o3, show ((j : Int)).toNat = j by omega, Int.natCast_add, Int.natCast_mul, Int.natCast_pow, Int.pow_mul]
                rw [show ((10 : Nat) : Int) ^ 4 = 10000 by decide, Int.mul_comm, Int.add_comm]
              generalize nmN ((L.drop lo).take (j - lo)) = N at *
              have hP2 : ∀ (w3 : World) (g2 cap2 : Nat), w3.ownsRow w.heap.size 3 1 (.slice (some ⟨g2, 0, none⟩) (k + 1) cap2) (k + 1) (ints l ++ [.int .i64 (N : Int)]) → w3.ownsRow w.heap.size 3 1 (.slice (some ⟨g2, 0, none⟩) (k + 1) cap2) (k + 1) (ints (l ++ [(N : Int)])) ∧ Dig (l ++ [(N : Int)]) ∧ vl (l ++ [(N : Int)]) = nmN (L.drop lo) := fun w3 g2 cap2 h => by
                refine ⟨by simpa [ints] using h, fun y hy => ?_, ?_⟩
                · rcases List.mem_append.1 hy with hy | hy
                  · exact o2 y hy
                  · rw [List.mem_singleton.1 hy]; omega
                · rw [hval, vl_append, b2]; simp [vl]
              have HP2 := Lib.hid hP2
              have HOA := Lib.hid (o1.alloc (.cells #[.int .i64 (N : Int)] 3))
              have HBA := Lib.hid (HB.out.alloc HB.out.size (.cells #[.int .i64 (N : Int)] 3))
              have HB5 := Lib.hid b5
              have hk9 : k ≤ 50 := by omega
              clear hal hnl hn4 o1 o2 o3 b1 b2 b3 b4 b5 hdr hcat hval hP2 HP HB em
              go_wp2_with (at_builtin; refine wpList_append_lies _ rfl (.tmp 34) (.tmp 36) 47 rfl w.heap.size 3 i0 (.int .i64 0) 1 8 Tryz.underlying47 hi hz0 hz1 HZ2.out rfl (by decide) _ k (ints l) rfl HOA.out ⟨wr.heap.size, 0, none⟩ 1 1 [.int .i64 (N : Int)] rfl rfl (one_newI wr _) (by intro u hu; simp at hu; subst hu; rfl) (by decide) (by unfold maxLen; omega) (by omega) HBA.out.size _ rfl ?_; intro g2 cap2 w3 hown3 hgrow _ _; have HO3 := Lib.hid (HP2.out w3 g2 cap2 hown3); have HB3 := Lib.hid (HBA.out.grown hgrow HBA.out.size (fun q hq => by cases hq; exact HB5.out)); clear hown3 hgrow)
              exact ⟨⟨k + 1, g2, cap2, (j : Int) - 4, l ++ [(N : Int)], rfl, rfl, by omega, by omega, Lib.hid ⟨HO3.out.1, HO3.out.2.1, by rw [HO3.out.2.2, show ((j : Int) - 4).toNat = lo by omega]⟩, HB3.out⟩, by simp [intOf]; omega⟩
      · have hz0' : z.toNat = 0 := by omega
        obtain ⟨o1, o2, o3⟩ := hP.out
        obtain ⟨b1, b2, b3, b4, b5⟩ := own_blk o1
        rw [hz0', List.drop_zero] at o3
        have cT := trimmed_some l g 0 k cap wr b2 b3 b4 (ABlk.row (P := []) (S := []) (by simpa using b1))
        have hNS : ∀ q, NSl (wr.drewN q) (.slice (some ⟨g, 0, none⟩) (trz l).length cap) (nmN L) := fun q => NSl.of_blk (S := []) (by rw [List.append_nil]; exact b1) b2 o2 o3 b3 b4
        have HNS := Lib.hid hNS
        have HB := Lib.hid hB
        clear hNS o1 o2 o3 b1 b2 b3 b4 b5 hP hB
        go_wp2_with (go_at_call 74; (with_reducible refine cT.mono ?_); rintro e w' ⟨rfl, q, rfl⟩)
        go_ret
        exact ⟨_, rfl, HNS.out _, below_drewN HB.out _⟩
end Go.Proofs.YtbdiofifjckceaaGreatDoor
