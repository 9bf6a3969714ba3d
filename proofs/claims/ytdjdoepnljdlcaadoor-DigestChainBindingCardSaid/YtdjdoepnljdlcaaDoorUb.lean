/- The walk of the laws' sane. -/
import Derived.Test.YtdjdoepnljdlcaaDoorUa
import Derived.Test.YtdjdoepnljdlcaaDoorTe
import Derived.Test.YtdjdoepnljdlcaaDoorTf
namespace Go.Proofs.YtdjdoepnljdlcaaDoor
open Go.RowKit

/-- what is known of a world on the way: the table, what lay before, and which slices read as which lists -/
structure Env (w W : World) (ps : List (Value × List ByteArray)) : Prop where
  tab : Tab W
  pos : 0 < W.heap.size
  below : Below w.heap.size w W
  sl : ∀ x ∈ ps, Sl W x.1 x.2
theorem Env.step {w W W' : World} {ps : List (Value × List ByteArray)} (h : Env w W ps) (hb : Below W.heap.size W W') : Env w W' ps :=
  ⟨h.tab.below hb h.pos, Nat.lt_of_lt_of_le h.pos hb.size, h.below.trans (hb.mono h.below.size), fun x hx => (h.sl x hx).below hb⟩
theorem Env.add {w W : World} {ps : List (Value × List ByteArray)} {v : Value} {l : List ByteArray} (h : Env w W ps) (hs : Sl W v l) : Env w W ((v, l) :: ps) :=
  ⟨h.tab, h.pos, h.below, fun x hx => by rcases List.mem_cons.1 hx with rfl | hx; exact hs; exact h.sl x hx⟩
theorem Env.call {w W : World} {ps : List (Value × List ByteArray)} {f : FuncId} {args : Array Value} {r : Ending} (h : Env w W ps) (hc : Calls Tryd.prog f args W fun e w' => e = r ∧ Below W.heap.size W w') :
    Calls Tryd.prog f args W fun e w' => e = r ∧ Env w w' ps := hc.mono fun _ _ g => ⟨g.1, h.step g.2⟩
theorem Env.same {w W : World} {ps : List (Value × List ByteArray)} {f : FuncId} {args : Array Value} {r : Ending} (h : Env w W ps) (hc : Calls Tryd.prog f args W fun e w' => e = r ∧ W = w') :
    Calls Tryd.prog f args W fun e w' => e = r ∧ Env w w' ps := hc.mono fun _ _ g => ⟨g.1, g.2 ▸ h⟩
theorem Env.sl1 {w W : World} {ps : List (Value × List ByteArray)} {v : Value} {l : List ByteArray} (h : Env w W ((v, l) :: ps)) : Sl W v l := h.sl (v, l) (by simp)
theorem Env.sl2 {w W : World} {ps : List (Value × List ByteArray)} {x : Value × List ByteArray} {v : Value} {l : List ByteArray} (h : Env w W (x :: (v, l) :: ps)) : Sl W v l := h.sl (v, l) (by simp)
theorem Env.sl3 {w W : World} {ps : List (Value × List ByteArray)} {x y : Value × List ByteArray} {v : Value} {l : List ByteArray} (h : Env w W (x :: y :: (v, l) :: ps)) : Sl W v l := h.sl (v, l) (by simp)

/-- the proof of an entry is accepted -/
theorem ver_prf (l : List ByteArray) (i : Nat) (h : i < l.length) : ver (root l) l.length i l[i] (prf l i) = true := by
  have hA := prf_all _ l i (Nat.le_refl _)
  rw [ver, decide_eq_true (show (0 : Int) ≤ (i : Int) ∧ (i : Int) < (l.length : Int) ∧ All32 (prf l i) from ⟨by omega, by omega, hA⟩), Int.toNat_natCast, Int.toNat_natCast, val_prf _ l i h (Nat.le_refl _)]
  simp
/-- the extension is accepted -/
theorem vex_ext (l : List ByteArray) (m : Nat) (h : m ≤ l.length) : vex (root (l.take m)) m (root l) l.length (ext l m) = true := by
  have hr : All32 [root (l.take m), root l] := by intro x hx; simp at hx; rcases hx with rfl | rfl <;> exact root_size _
  have hA : All32 (ext l m) := by
    rw [ext]; split
    · exact all32_nil
    · exact part_all _ l m true (Nat.le_refl _)
  rw [vex, decide_eq_true (show (0 : Int) ≤ (m : Int) ∧ (m : Int) ≤ (l.length : Int) ∧ All32 [root (l.take m), root l] ∧ All32 (ext l m) from ⟨by omega, by omega, hr, hA⟩), Bool.true_and]
  by_cases h0 : m = 0
  · subst h0
    simp [ext, root_nil]
  · rw [if_neg (by omega), Int.toNat_natCast, Int.toNat_natCast, ext, if_neg h0, two_part _ l m true _ (by omega) h (Nat.le_refl _) (fun _ => rfl)]
    simp

theorem own_at {W : World} {base n : Nat} {v : Value} {l : List ByteArray} (h : W.ownsRow base 9 1 v l.length (scells l)) (hn : l.length = n + 1) : ∃ g cap, v = .slice (some ⟨g, 0, none⟩) (n + 1) cap := by
  rw [hn] at h
  exact ownsRow_succ h

theorem ext_l3 : (ext l3 1).length = 2 := by
  rw [ext, if_neg (by decide), part_lo (by simp [l3]) (by simp [l3]) (by simp [l3, spl3])]
  simp only [l3, List.length_cons, List.length_nil, Nat.reduceAdd, spl3, List.take, List.length_append]
  rw [part_lo (by simp) (by simp) (by simp [spl2])]
  simp only [List.length_cons, List.length_nil, Nat.reduceAdd, spl2, List.take, List.length_append]
  rw [part_whole (by simp)]; rfl
theorem ver_d : ver (root l3) 3 2 ⟨#[100]⟩ [ab] = false := by
  have hv : val 3 2 ⟨#[100]⟩ [ab] = (nodeB ab (leafB ⟨#[100]⟩), true) := by
    have h := val_hi (n := 3) (i := 2) (s := ⟨#[100]⟩) (x := ab) (p := []) (by omega) (by rw [spl3]; omega)
    rw [List.nil_append, spl3] at h
    rw [h, val_one (by omega)]; rfl
  have hd : decide (nodeB ab (leafB ⟨#[100]⟩) = root l3) = false := decide_eq_false (by rw [root_l3]; exact ne1)
  rw [ver, show (3 : Int).toNat = 3 from rfl, show (2 : Int).toNat = 2 from rfl, hv, hd]
  simp
theorem ver_c : ver (root l3) 3 2 ⟨#[99]⟩ [ab] = true := by
  have := ver_prf l3 2 (by decide)
  rw [prf_l3] at this
  exact this
theorem ext_l3' : ext l3 1 = [leafB ⟨#[98]⟩, leafB ⟨#[99]⟩] := by
  rw [ext, if_neg (by decide), part_lo (by simp [l3]) (by simp [l3]) (by simp [l3, spl3])]
  simp only [l3, List.length_cons, List.length_nil, Nat.reduceAdd, spl3, List.take, List.drop, root_one]
  rw [part_lo (by simp) (by simp) (by simp [spl2])]
  simp only [List.length_cons, List.length_nil, Nat.reduceAdd, spl2, List.take, List.drop, root_one]
  rw [part_whole (by simp)]; rfl
theorem vex_2 : vex (root [⟨#[97]⟩, ⟨#[98]⟩]) 1 (root l3) 3 (ext l3 1) = false := by
  have h1 : two ab 1 3 [leafB ⟨#[98]⟩, leafB ⟨#[99]⟩] true = (ab, nodeB (nodeB ab (leafB ⟨#[98]⟩)) (leafB ⟨#[99]⟩), true) := by
    have h := two_lo (old := ab) (x := leafB ⟨#[99]⟩) (m := 1) (n := 3) (p := [leafB ⟨#[98]⟩]) (whole := true) (by omega) (by omega) (by rw [spl3]; omega)
    have h2 := two_lo (old := ab) (x := leafB ⟨#[98]⟩) (m := 1) (n := 2) (p := []) (whole := true) (by omega) (by omega) (by rw [spl2]; omega)
    rw [spl3] at h
    have h3 : two ab 1 1 [] true = (ab, ab, true) := by rw [two_whole (by omega)]; rfl
    rw [List.nil_append, spl2, h3] at h2
    rw [show [leafB ⟨#[98]⟩, leafB ⟨#[99]⟩] = [leafB ⟨#[98]⟩] ++ [leafB ⟨#[99]⟩] from rfl, h, h2]
  have hd : decide (nodeB (nodeB ab (leafB ⟨#[98]⟩)) (leafB ⟨#[99]⟩) = root l3) = false := decide_eq_false (by rw [root_l3]; exact ne2)
  rw [vex, root_ab, if_neg (by decide), ext_l3', show (3 : Int).toNat = 3 from rfl, show (1 : Int).toNat = 1 from rfl, h1, hd]
  simp

theorem l3_sizes : ∀ s ∈ l3, s.size ≤ 137438953472 := by intro s hs; simp [l3] at hs; rcases hs with rfl | rfl | rfl <;> decide
theorem digest_small {l : List ByteArray} (h : All32 l) : ∀ x ∈ l, x.size ≤ 9223372036854775807 := fun x hx => by rw [h x hx]; decide

set_option maxRecDepth 100000 in
set_option maxHeartbeats 4000000 in
theorem sane_any (w : World) (ht : Tab w) (hw : 0 < w.heap.size) : Calls Tryd.prog 12 #[] w fun e w' => e = .returned (.bool true) ∧ Below w.heap.size w w' := by
  have hB1 : Below w.heap.size w (w.alloc (.cells #[.string ⟨#[97]⟩, .string ⟨#[98]⟩, .string ⟨#[99]⟩] 9)) := (Below.refl _ w).alloc (Nat.le_refl _) _
  have hS1 : StrRow (w.alloc (.cells #[.string ⟨#[97]⟩, .string ⟨#[98]⟩, .string ⟨#[99]⟩] 9)) w.heap.size 0 l3 := fun j x hj => by
    rw [Nat.zero_add, World.cell?, World.alloc_heap_new]
    match j, hj with
    | 0, hj => simp [l3] at hj; subst hj; rfl
    | 1, hj => simp [l3] at hj; subst hj; rfl
    | 2, hj => simp [l3] at hj; subst hj; rfl
  have G : Env w (w.alloc (.cells #[.string ⟨#[97]⟩, .string ⟨#[98]⟩, .string ⟨#[99]⟩] 9)) [(.slice (some ⟨w.heap.size, 0, none⟩) 3 3, l3)] :=
    ⟨ht.below hB1 hw, by simp, hB1, fun x hx => by simp at hx; subst hx; exact .inr ⟨w.heap.size, 0, 3, rfl, (show l3.length ≤ 3 from by decide), by decide, by simp, hS1⟩⟩
  obtain ⟨vL, hvL⟩ : ∃ v, v = Value.slice (some ⟨w.heap.size, 0, none⟩) 3 3 := ⟨_, rfl⟩
  have hX32 : All32 (ext l3 1) := by rw [ext_l3']; intro x hx; simp at hx; rcases hx with rfl | rfl <;> exact leafB_size _
  have hP32 : All32 [ab] := by intro x hx; simp at hx; subst hx; exact nodeB_size _ _
  have cP : ∀ W, Env w W [(.slice (some ⟨w.heap.size, 0, none⟩) 3 3, l3)] → Calls Tryd.prog 22 #[.slice (some ⟨w.heap.size, 0, none⟩) 3 3, .int .i64 2] W fun e w' => ∃ g cap, e = .returned (.tuple #[.slice (some ⟨g, 0, none⟩) 1 cap, .int .i64 0]) ∧ Env w w' [(.slice (some ⟨g, 0, none⟩) 1 cap, [ab]), (.slice (some ⟨w.heap.size, 0, none⟩) 3 3, l3)] := fun W g =>
    (Proof_any l3 2 (by decide) (by decide) _ W (by decide) l3_sizes g.sl1 g.tab g.pos (by decide)).mono fun e w' ⟨u, he, ho, hb⟩ => by
      rw [show (2 : Int).toNat = 2 from rfl, prf_l3] at ho
      obtain ⟨g', cap, rfl⟩ := own_at ho (n := 0) rfl
      exact ⟨g', cap, he, (g.step hb).add (own_sl ho)⟩
  have cX : ∀ W vP, Env w W [(vP, [ab]), (.slice (some ⟨w.heap.size, 0, none⟩) 3 3, l3)] → Calls Tryd.prog 24 #[.slice (some ⟨w.heap.size, 0, none⟩) 3 3, .int .i64 1] W fun e w' => ∃ g cap, e = .returned (.tuple #[.slice (some ⟨g, 0, none⟩) 2 cap, .int .i64 0]) ∧ Env w w' [(.slice (some ⟨g, 0, none⟩) 2 cap, ext l3 1), (vP, [ab]), (.slice (some ⟨w.heap.size, 0, none⟩) 3 3, l3)] := fun W vP g =>
    (Extension_any l3 1 (by decide) (by decide) _ W (by decide) l3_sizes g.sl2 g.tab g.pos (by decide)).mono fun e w' ⟨u, he, ho, hb⟩ => by
      rw [show (1 : Int).toNat = 1 from rfl] at ho
      obtain ⟨g', cap, rfl⟩ := own_at ho (n := 1) ext_l3
      exact ⟨g', cap, he, (g.step hb).add (own_sl ho)⟩
  have cQ : ∀ W vX vP, Env w W [(vX, ext l3 1), (vP, [ab]), (.slice (some ⟨w.heap.size, 0, none⟩) 3 3, l3)] → Calls Tryd.prog 22 #[.slice (some ⟨w.heap.size, 0, none⟩) 3 3, .int .i64 3] W fun e w' => e = .returned (.tuple #[.slice none 0 0, .int .i64 2]) ∧ Env w w' [(vX, ext l3 1), (vP, [ab]), (.slice (some ⟨w.heap.size, 0, none⟩) 3 3, l3)] := fun W vX vP g =>
    g.same (Proof_bad l3 3 (by decide) (by decide) _ W (by decide) g.sl3 (by decide))
  have cR : ∀ W vX vP, Env w W [(vX, ext l3 1), (vP, [ab]), (.slice (some ⟨w.heap.size, 0, none⟩) 3 3, l3)] → Calls Tryd.prog 27 #[.slice (some ⟨w.heap.size, 0, none⟩) 3 3] W fun e w' => e = .returned (.string (root l3)) ∧ Env w w' [(vX, ext l3 1), (vP, [ab]), (.slice (some ⟨w.heap.size, 0, none⟩) 3 3, l3)] := fun W vX vP g =>
    g.call (root_any 3 l3 _ W (by decide) (by decide) l3_sizes g.sl3 g.tab g.pos)
  have cut : ∀ (W : World) (k : Nat), k ≤ 3 → Sl W (.slice (some ⟨w.heap.size, 0, none⟩) 3 3) l3 → Sl W (.slice (some ⟨w.heap.size, 0, none⟩) k 3) (l3.take k) := fun W k hk hs => by
    rcases hs with ⟨h, _⟩ | ⟨b, o, c, h, h1, h2, h3, h4⟩
    · cases h
    · simp only [Value.slice.injEq, Option.some.injEq, Addr.mk.injEq] at h
      obtain ⟨⟨rfl, rfl, _⟩, _, rfl⟩ := h
      exact Sl.take h4 hk h1 h2 h3
  have cR1 : ∀ W vX vP, Env w W [(vX, ext l3 1), (vP, [ab]), (.slice (some ⟨w.heap.size, 0, none⟩) 3 3, l3)] → Calls Tryd.prog 27 #[.slice (some ⟨w.heap.size, 0, none⟩) 1 3] W fun e w' => e = .returned (.string (root (l3.take 1))) ∧ Env w w' [(vX, ext l3 1), (vP, [ab]), (.slice (some ⟨w.heap.size, 0, none⟩) 3 3, l3)] := fun W vX vP g =>
    g.call (root_any 3 (l3.take 1) _ W (by decide) (by decide) (fun s hs => l3_sizes s (List.mem_of_mem_take hs)) (cut W 1 (by decide) g.sl3) g.tab g.pos)
  have cR2 : ∀ W vX vP, Env w W [(vX, ext l3 1), (vP, [ab]), (.slice (some ⟨w.heap.size, 0, none⟩) 3 3, l3)] → Calls Tryd.prog 27 #[.slice (some ⟨w.heap.size, 0, none⟩) 2 3] W fun e w' => e = .returned (.string (root (l3.take 2))) ∧ Env w w' [(vX, ext l3 1), (vP, [ab]), (.slice (some ⟨w.heap.size, 0, none⟩) 3 3, l3)] := fun W vX vP g =>
    g.call (root_any 3 (l3.take 2) _ W (by decide) (by decide) (fun s hs => l3_sizes s (List.mem_of_mem_take hs)) (cut W 2 (by decide) g.sl3) g.tab g.pos)
  have cS : ∀ (x : ByteArray), x.size ≤ 137438953472 → ∀ W vX vP, Env w W [(vX, ext l3 1), (vP, [ab]), (.slice (some ⟨w.heap.size, 0, none⟩) 3 3, l3)] → Calls Tryd.prog 13 #[.string x] W fun e w' => e = .returned (.string (sumB x)) ∧ Env w w' [(vX, ext l3 1), (vP, [ab]), (.slice (some ⟨w.heap.size, 0, none⟩) 3 3, l3)] := fun x hx W vX vP g =>
    g.call (Sum_any x hx W g.tab g.pos)
  have cS1 := cS ⟨#[]⟩ (by decide)
  have cS2 := cS ⟨#[97, 98, 99]⟩ (by decide)
  have cH : ∀ (x : ByteArray), x.size = 32 → ∀ W vX vP, Env w W [(vX, ext l3 1), (vP, [ab]), (.slice (some ⟨w.heap.size, 0, none⟩) 3 3, l3)] → Calls Tryd.prog 39 #[.string x] W fun e w' => e = .returned (.string ⟨(hexL x.data.toList).toArray⟩) ∧ Env w w' [(vX, ext l3 1), (vP, [ab]), (.slice (some ⟨w.heap.size, 0, none⟩) 3 3, l3)] := fun x hx W vX vP g =>
    g.call (hex_any x hx W)
  have cH1 := cH (sumB ⟨#[]⟩) (sumB_size _)
  have cH2 := cH (sumB ⟨#[97, 98, 99]⟩) (sumB_size _)
  rw [hex1] at cH1
  rw [hex2] at cH2
  have cV : ∀ (x : ByteArray) (r : Bool), x.size ≤ 137438953472 → ver (root l3) 3 2 x [ab] = r → ∀ W vX vP, Env w W [(vX, ext l3 1), (vP, [ab]), (.slice (some ⟨w.heap.size, 0, none⟩) 3 3, l3)] → Calls Tryd.prog 29 #[.string (root l3), .int .i64 3, .int .i64 2, .string x, vP] W fun e w' => e = .returned (.bool r) ∧ Env w w' [(vX, ext l3 1), (vP, [ab]), (.slice (some ⟨w.heap.size, 0, none⟩) 3 3, l3)] := fun x r hx hr W vX vP g =>
    hr ▸ g.call (Verify_any (root l3) 3 2 x [ab] vP W (by decide) (by decide) (by decide) (by decide) (by simp) hx (digest_small hP32) g.sl2 g.tab g.pos)
  have cV1 := cV ⟨#[99]⟩ true (by decide) ver_c
  have cV2 := cV ⟨#[100]⟩ false (by decide) ver_d
  have cE : ∀ (k : Nat) (r : Bool), vex (root (l3.take k)) 1 (root l3) 3 (ext l3 1) = r → ∀ W vX vP, Env w W [(vX, ext l3 1), (vP, [ab]), (.slice (some ⟨w.heap.size, 0, none⟩) 3 3, l3)] → Calls Tryd.prog 31 #[.string (root (l3.take k)), .int .i64 1, .string (root l3), .int .i64 3, vX] W fun e w' => e = .returned (.bool r) ∧ Env w w' [(vX, ext l3 1), (vP, [ab]), (.slice (some ⟨w.heap.size, 0, none⟩) 3 3, l3)] := fun k r hr W vX vP g =>
    hr ▸ g.call (VerifyExtension_any (root (l3.take k)) 1 (root l3) 3 (ext l3 1) vX W (by decide) (by decide) (by decide) (by decide) (by rw [root_size]; decide) (by rw [root_size]; decide) (by rw [ext_l3]; decide) (digest_small hX32) g.sl1 g.tab g.pos)
  have cE1 := cE 1 true (vex_ext l3 1 (by decide))
  have cE2 := cE 2 false vex_2
  clear cS cH cV cE cut hP32 hX32 hS1 ht hB1 hvL vL
  obtain ⟨R, hR⟩ : ∃ r, root l3 = r := ⟨_, rfl⟩
  obtain ⟨R1, hR1⟩ : ∃ r, root (l3.take 1) = r := ⟨_, rfl⟩
  obtain ⟨R2, hR2⟩ : ∃ r, root (l3.take 2) = r := ⟨_, rfl⟩
  obtain ⟨S1, hS1⟩ : ∃ r, sumB ⟨#[]⟩ = r := ⟨_, rfl⟩
  obtain ⟨S2, hS2⟩ : ∃ r, sumB ⟨#[97, 98, 99]⟩ = r := ⟨_, rfl⟩
  obtain ⟨X, hX⟩ : ∃ r, ext l3 1 = r := ⟨_, rfl⟩
  obtain ⟨L, hL⟩ : ∃ r, l3 = r := ⟨_, rfl⟩
  obtain ⟨A, hA⟩ : ∃ r, ab = r := ⟨_, rfl⟩
  rw [hR] at cR cV1 cV2 cE1 cE2
  rw [hR1] at cR1 cE1
  rw [hR2] at cR2 cE2
  rw [hS1] at cS1 cH1
  rw [hS2] at cS2 cH2
  rw [hX] at cX cQ cR cR1 cR2 cS1 cS2 cH1 cH2 cV1 cV2 cE1 cE2
  rw [hL] at G cP cX cQ cR cR1 cR2 cS1 cS2 cH1 cH2 cV1 cV2 cE1 cE2
  rw [hA] at cP cX cQ cR cR1 cR2 cS1 cS2 cH1 cH2 cV1 cV2 cE1 cE2
  clear hR hR1 hR2 hS1 hS2 hX hL hA
  go_enter Tryd.func12, Tryd.ntmps12
  go_wp2_with (first
    | (go_at_call 22; (with_reducible refine (cP _ G).mono ?_); rintro e w' ⟨gP, capP, rfl, G⟩)
    | (go_at_call 24; (with_reducible refine (cX _ _ G).mono ?_); rintro e w' ⟨gX, capX, rfl, G⟩)
    | (go_at_call 22; (with_reducible refine (cQ _ _ _ G).mono ?_); rintro e w' ⟨rfl, G⟩)
    | (go_at_call 27; (with_reducible refine (cR _ _ _ G).mono ?_); rintro e w' ⟨rfl, G⟩)
    | (go_at_call 27; (with_reducible refine (cR1 _ _ _ G).mono ?_); rintro e w' ⟨rfl, G⟩)
    | (go_at_call 27; (with_reducible refine (cR2 _ _ _ G).mono ?_); rintro e w' ⟨rfl, G⟩)
    | (go_at_call 13; (with_reducible refine (cS1 _ _ _ G).mono ?_); rintro e w' ⟨rfl, G⟩)
    | (go_at_call 13; (with_reducible refine (cS2 _ _ _ G).mono ?_); rintro e w' ⟨rfl, G⟩)
    | (go_at_call 39; (with_reducible refine (cH1 _ _ _ G).mono ?_); rintro e w' ⟨rfl, G⟩)
    | (go_at_call 39; (with_reducible refine (cH2 _ _ _ G).mono ?_); rintro e w' ⟨rfl, G⟩)
    | (go_at_call 29; (with_reducible refine (cV1 _ _ _ G).mono ?_); rintro e w' ⟨rfl, G⟩)
    | (go_at_call 29; (with_reducible refine (cV2 _ _ _ G).mono ?_); rintro e w' ⟨rfl, G⟩)
    | (go_at_call 31; (with_reducible refine (cE1 _ _ _ G).mono ?_); rintro e w' ⟨rfl, G⟩)
    | (go_at_call 31; (with_reducible refine (cE2 _ _ _ G).mono ?_); rintro e w' ⟨rfl, G⟩))
  go_ret
  exact ⟨rfl, G.below⟩
end Go.Proofs.YtdjdoepnljdlcaaDoor
