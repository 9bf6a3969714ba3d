/- Trees of digests, plain: roots, proofs, extensions, what they prove. -/
import Derived.Test.YtdjdoepnljdlcaaDoorKa
namespace Go.Proofs.YtdjdoepnljdlcaaDoor
/-- the digest of a string -/
def sumB (s : ByteArray) : ByteArray := ⟨(Sh.sha s.data.toList).toArray⟩
theorem sumB_size (s : ByteArray) : (sumB s).size = 32 := Sh.sha_len _

theorem log2_le' {n m : Nat} (h : n ≤ m) : Nat.log2 n ≤ Nat.log2 m := by
  by_cases hn : n = 0
  · subst hn; simp
  · have hm : m ≠ 0 := by omega
    rw [Nat.le_log2 hm]
    exact Nat.le_trans (Nat.log2_self_le hn) h
/-- the greatest power of two that is less than n -/
def spl (n : Nat) : Nat := 2 ^ Nat.log2 (n - 1)
theorem spl_pos (n : Nat) : 1 ≤ spl n := Nat.one_le_two_pow
theorem spl_lt (n : Nat) (h : 2 ≤ n) : spl n < n := by
  have := Nat.log2_self_le (n := n - 1) (by omega)
  unfold spl; omega
theorem spl_half (n : Nat) (h : 2 ≤ n) : n ≤ 2 * spl n := by
  have := Nat.lt_log2_self (n := n - 1)
  rw [Nat.pow_succ] at this
  unfold spl; omega
theorem spl_le (n c : Nat) (h : 2 ≤ n) (hc : n ≤ 2 ^ (c + 1)) : spl n ≤ 2 ^ c := by
  have h1 : 2 ^ Nat.log2 (n - 1) < 2 ^ (c + 1) := Nat.lt_of_le_of_lt (Nat.log2_self_le (n := n - 1) (by omega)) (by omega)
  have h2 := (Nat.pow_lt_pow_iff_right (a := 2) (by decide)).1 h1
  exact Nat.pow_le_pow_right (by decide) (by omega)
/-- the loop that looks for it ends there -/
theorem spl_of (n e : Nat) (h : 2 ≤ n) (h1 : n ≤ 2 * 2 ^ e) (h2 : 2 ^ e < n) : 2 ^ e = spl n := by
  have h3 : Nat.log2 (n - 1) = e := by
    refine (Nat.log2_eq_iff (by omega)).2 ⟨by omega, by rw [Nat.pow_succ]; omega⟩
  rw [spl, h3]

def leafB (s : ByteArray) : ByteArray := sumB (⟨#[0]⟩ ++ s)
def nodeB (a b : ByteArray) : ByteArray := sumB (⟨#[1]⟩ ++ a ++ b)
def chainB (h r : ByteArray) : ByteArray := sumB (⟨#[2]⟩ ++ h ++ r)

theorem take_lt {α : Type} {l : List α} (h : 2 ≤ l.length) : (l.take (spl l.length)).length < l.length := by
  have := spl_lt _ h
  simp; omega
theorem drop_lt {α : Type} {l : List α} (h : 2 ≤ l.length) : (l.drop (spl l.length)).length < l.length := by
  have := spl_pos l.length
  simp; omega

def root (l : List ByteArray) : ByteArray :=
  if h : 2 ≤ l.length then
    have := spl_lt _ h
    have := spl_pos l.length
    nodeB (root (l.take (spl l.length))) (root (l.drop (spl l.length)))
  else match l with
    | [] => sumB ⟨#[]⟩
    | x :: _ => leafB x
termination_by l.length
decreasing_by all_goals simp only [List.length_take, List.length_drop]; omega

theorem root_nil : root [] = sumB ⟨#[]⟩ := by rw [root]; simp
theorem root_one (x : ByteArray) : root [x] = leafB x := by rw [root]; simp
theorem root_two {l : List ByteArray} (h : 2 ≤ l.length) : root l = nodeB (root (l.take (spl l.length))) (root (l.drop (spl l.length))) := by
  rw [root, dif_pos h]

/-- the proof of the entry i -/
def prf (l : List ByteArray) (i : Nat) : List ByteArray :=
  if h : 2 ≤ l.length then
    have := spl_lt _ h
    have := spl_pos l.length
    if i < spl l.length then prf (l.take (spl l.length)) i ++ [root (l.drop (spl l.length))]
    else prf (l.drop (spl l.length)) (i - spl l.length) ++ [root (l.take (spl l.length))]
  else []
termination_by l.length
decreasing_by all_goals simp only [List.length_take, List.length_drop]; omega
theorem prf_one {l : List ByteArray} {i : Nat} (h : l.length ≤ 1) : prf l i = [] := by rw [prf, dif_neg (by omega)]
theorem prf_lo {l : List ByteArray} {i : Nat} (h : 2 ≤ l.length) (hi : i < spl l.length) : prf l i = prf (l.take (spl l.length)) i ++ [root (l.drop (spl l.length))] := by
  rw [prf, dif_pos h, if_pos hi]
theorem prf_hi {l : List ByteArray} {i : Nat} (h : 2 ≤ l.length) (hi : ¬ i < spl l.length) : prf l i = prf (l.drop (spl l.length)) (i - spl l.length) ++ [root (l.take (spl l.length))] := by
  rw [prf, dif_pos h, if_neg hi]

/-- the value of n, i and a proof -/
def val (n i : Nat) (s : ByteArray) (p : List ByteArray) : ByteArray × Bool :=
  if h : 2 ≤ n then
    have := spl_lt n h
    have := spl_pos n
    match p.getLast? with
    | none => (⟨#[]⟩, false)
    | some x => if i < spl n then (nodeB (val (spl n) i s p.dropLast).1 x, (val (spl n) i s p.dropLast).2)
                else (nodeB x (val (n - spl n) (i - spl n) s p.dropLast).1, (val (n - spl n) (i - spl n) s p.dropLast).2)
  else (leafB s, p.isEmpty)
termination_by n
theorem val_one {n i : Nat} {s : ByteArray} {p : List ByteArray} (h : n ≤ 1) : val n i s p = (leafB s, p.isEmpty) := by rw [val, dif_neg (by omega)]
theorem val_nil {n i : Nat} {s : ByteArray} (h : 2 ≤ n) : val n i s [] = (⟨#[]⟩, false) := by rw [val, dif_pos h]; rfl
theorem val_lo {n i : Nat} {s x : ByteArray} {p : List ByteArray} (h : 2 ≤ n) (hi : i < spl n) : val n i s (p ++ [x]) = (nodeB (val (spl n) i s p).1 x, (val (spl n) i s p).2) := by
  rw [val, dif_pos h]; simp [hi]
theorem val_hi {n i : Nat} {s x : ByteArray} {p : List ByteArray} (h : 2 ≤ n) (hi : ¬ i < spl n) : val n i s (p ++ [x]) = (nodeB x (val (n - spl n) (i - spl n) s p).1, (val (n - spl n) (i - spl n) s p).2) := by
  rw [val, dif_pos h]; simp [hi]

/-- part(l, m, whole) -/
def part (l : List ByteArray) (m : Nat) (whole : Bool) : List ByteArray :=
  if h : 2 ≤ l.length ∧ m < l.length then
    have := spl_lt _ h.1
    have := spl_pos l.length
    if m ≤ spl l.length then part (l.take (spl l.length)) m whole ++ [root (l.drop (spl l.length))]
    else part (l.drop (spl l.length)) (m - spl l.length) false ++ [root (l.take (spl l.length))]
  else if whole then [] else [root l]
termination_by l.length
decreasing_by all_goals simp only [List.length_take, List.length_drop]; omega
theorem part_whole {l : List ByteArray} {m : Nat} (h : l.length ≤ m) : part l m true = [] := by rw [part, dif_neg (by omega)]; rfl
theorem part_not {l : List ByteArray} {m : Nat} (h : l.length ≤ m) : part l m false = [root l] := by rw [part, dif_neg (by omega)]; rfl
theorem part_lo {l : List ByteArray} {m : Nat} {whole : Bool} (h : 2 ≤ l.length) (h0 : m < l.length) (hi : m ≤ spl l.length) :
    part l m whole = part (l.take (spl l.length)) m whole ++ [root (l.drop (spl l.length))] := by rw [part, dif_pos ⟨h, h0⟩, if_pos hi]
theorem part_hi {l : List ByteArray} {m : Nat} {whole : Bool} (h : 2 ≤ l.length) (h0 : m < l.length) (hi : ¬ m ≤ spl l.length) :
    part l m whole = part (l.drop (spl l.length)) (m - spl l.length) false ++ [root (l.take (spl l.length))] := by rw [part, dif_pos ⟨h, h0⟩, if_neg hi]

/-- the two values of m, n and a proof -/
def two (old : ByteArray) (m n : Nat) (p : List ByteArray) (whole : Bool) : ByteArray × ByteArray × Bool :=
  if h : 2 ≤ n ∧ m < n then
    have := spl_lt n h.1
    have := spl_pos n
    match p.getLast? with
    | none => (⟨#[]⟩, ⟨#[]⟩, false)
    | some x => if m ≤ spl n then ((two old m (spl n) p.dropLast whole).1, nodeB (two old m (spl n) p.dropLast whole).2.1 x, (two old m (spl n) p.dropLast whole).2.2)
                else (nodeB x (two old (m - spl n) (n - spl n) p.dropLast false).1, nodeB x (two old (m - spl n) (n - spl n) p.dropLast false).2.1, (two old (m - spl n) (n - spl n) p.dropLast false).2.2)
  else if whole then (old, old, p.isEmpty) else
    match p.getLast? with
    | none => (⟨#[]⟩, ⟨#[]⟩, false)
    | some x => (x, x, p.dropLast.isEmpty)
termination_by n
theorem two_whole {old : ByteArray} {m n : Nat} {p : List ByteArray} (h : n ≤ m) : two old m n p true = (old, old, p.isEmpty) := by rw [two, dif_neg (by omega)]; rfl
theorem two_nil {old : ByteArray} {m n : Nat} {whole : Bool} (h : m < n) (h2 : 2 ≤ n) : two old m n [] whole = (⟨#[]⟩, ⟨#[]⟩, false) := by rw [two, dif_pos ⟨h2, h⟩]; rfl
theorem two_nil' {old : ByteArray} {m n : Nat} (h : n ≤ m) : two old m n [] false = (⟨#[]⟩, ⟨#[]⟩, false) := by rw [two, dif_neg (by omega)]; rfl
theorem two_not {old x : ByteArray} {m n : Nat} {p : List ByteArray} (h : n ≤ m) : two old m n (p ++ [x]) false = (x, x, p.isEmpty) := by rw [two, dif_neg (by omega)]; simp
theorem two_lo {old x : ByteArray} {m n : Nat} {p : List ByteArray} {whole : Bool} (h : m < n) (h2 : 2 ≤ n) (hi : m ≤ spl n) :
    two old m n (p ++ [x]) whole = ((two old m (spl n) p whole).1, nodeB (two old m (spl n) p whole).2.1 x, (two old m (spl n) p whole).2.2) := by
  rw [two, dif_pos ⟨h2, h⟩]; simp [hi]
theorem two_hi {old x : ByteArray} {m n : Nat} {p : List ByteArray} {whole : Bool} (h : m < n) (h2 : 2 ≤ n) (hi : ¬ m ≤ spl n) :
    two old m n (p ++ [x]) whole = (nodeB x (two old (m - spl n) (n - spl n) p false).1, nodeB x (two old (m - spl n) (n - spl n) p false).2.1, (two old (m - spl n) (n - spl n) p false).2.2) := by
  rw [two, dif_pos ⟨h2, h⟩]; simp [hi]

theorem leafB_size (s : ByteArray) : (leafB s).size = 32 := sumB_size _
theorem nodeB_size (a b : ByteArray) : (nodeB a b).size = 32 := sumB_size _
theorem root_size (l : List ByteArray) : (root l).size = 32 := by
  rw [root]; split
  · exact nodeB_size _ _
  · split
    · exact sumB_size _
    · exact leafB_size _
/-- all of l are as long as digests -/
def All32 (l : List ByteArray) : Prop := ∀ x ∈ l, x.size = 32
theorem all32_snoc {l : List ByteArray} {x : ByteArray} : All32 (l ++ [x]) ↔ All32 l ∧ x.size = 32 := by
  simp only [All32, List.mem_append, List.mem_singleton]
  exact ⟨fun h => ⟨fun y hy => h y (.inl hy), h x (.inr rfl)⟩, fun h y hy => hy.elim (h.1 y) (fun e => e ▸ h.2)⟩
theorem all32_nil : All32 [] := fun _ h => by cases h

theorem snoc_cases {α : Type} (p : List α) : p = [] ∨ ∃ q x, p = q ++ [x] := by
  rcases List.eq_nil_or_concat p with h | ⟨q, x, h⟩
  · exact .inl h
  · exact .inr ⟨q, x, by simpa using h⟩

theorem prf_all (n : Nat) : ∀ (l : List ByteArray) (i : Nat), l.length ≤ n → All32 (prf l i) := by
  induction n with
  | zero => intro l i h; rw [prf_one (by omega)]; exact all32_nil
  | succ n ih =>
    intro l i h
    by_cases h2 : 2 ≤ l.length
    · have := spl_lt _ h2
      have := spl_pos l.length
      by_cases hi : i < spl l.length
      · rw [prf_lo h2 hi]; exact all32_snoc.2 ⟨ih _ _ (by simp; omega), root_size _⟩
      · rw [prf_hi h2 hi]; exact all32_snoc.2 ⟨ih _ _ (by simp; omega), root_size _⟩
    · rw [prf_one (by omega)]; exact all32_nil

theorem prf_len (c : Nat) : ∀ (l : List ByteArray) (i : Nat), l.length ≤ 2 ^ c → (prf l i).length ≤ c := by
  induction c with
  | zero => intro l i h; rw [prf_one (by simpa using h)]; simp
  | succ c ih =>
    intro l i h
    by_cases h2 : 2 ≤ l.length
    · have h3 := spl_le _ c h2 h
      have h4 := spl_half _ h2
      have := spl_lt _ h2
      by_cases hi : i < spl l.length
      · rw [prf_lo h2 hi, List.length_append]
        have := ih (l.take (spl l.length)) i (by simp; omega)
        simp only [List.length_singleton]; omega
      · rw [prf_hi h2 hi, List.length_append]
        have := ih (l.drop (spl l.length)) (i - spl l.length) (by simp; omega)
        simp only [List.length_singleton]; omega
    · rw [prf_one (by omega)]; simp

/-- the proof of an entry is accepted -/
theorem val_prf (n : Nat) : ∀ (l : List ByteArray) (i : Nat) (h : i < l.length), l.length ≤ n → val l.length i l[i] (prf l i) = (root l, true) := by
  induction n with
  | zero => intro l i h h0; omega
  | succ n ih =>
    intro l i h h0
    by_cases h2 : 2 ≤ l.length
    · have h3 := spl_lt _ h2
      have := spl_pos l.length
      by_cases hi : i < spl l.length
      · have e1 : (l.take (spl l.length)).length = spl l.length := by simp; omega
        have := ih (l.take (spl l.length)) i (by omega) (by omega)
        simp only [e1, List.getElem_take] at this
        rw [prf_lo h2 hi, val_lo h2 hi, this, ← root_two h2]
      · have e1 : (l.drop (spl l.length)).length = l.length - spl l.length := by simp
        have := ih (l.drop (spl l.length)) (i - spl l.length) (by omega) (by omega)
        have e2 : spl l.length + (i - spl l.length) = i := by omega
        simp only [e1, List.getElem_drop, e2] at this
        rw [prf_hi h2 hi, val_hi h2 hi, this, ← root_two h2]
    · obtain ⟨x, rfl⟩ : ∃ x, l = [x] := List.length_eq_one_iff.1 (by omega)
      have : i = 0 := by simpa using h
      subst this
      rw [val_one (by simp), prf_one (by simp), root_one]; rfl

/-- how many elements the proof of the entry i has -/
def dep (n i : Nat) : Nat :=
  if h : 2 ≤ n then
    have := spl_lt n h
    have := spl_pos n
    if i < spl n then dep (spl n) i + 1 else dep (n - spl n) (i - spl n) + 1
  else 0
termination_by n
theorem dep_one {n i : Nat} (h : n ≤ 1) : dep n i = 0 := by rw [dep, dif_neg (by omega)]
theorem dep_lo {n i : Nat} (h : 2 ≤ n) (hi : i < spl n) : dep n i = dep (spl n) i + 1 := by rw [dep, dif_pos h, if_pos hi]
theorem dep_hi {n i : Nat} (h : 2 ≤ n) (hi : ¬ i < spl n) : dep n i = dep (n - spl n) (i - spl n) + 1 := by rw [dep, dif_pos h, if_neg hi]

theorem val_ok (N : Nat) : ∀ (n i : Nat) (s : ByteArray) (p : List ByteArray), n ≤ N → (val n i s p).2 = decide (p.length = dep n i) := by
  induction N with
  | zero => intro n i s p h; rw [val_one (by omega), dep_one (by omega)]; cases p <;> simp
  | succ N ih =>
    intro n i s p h
    by_cases h2 : 2 ≤ n
    · have h3 := spl_lt _ h2
      have := spl_pos n
      rcases snoc_cases p with rfl | ⟨q, x, rfl⟩
      · rw [val_nil h2]
        by_cases hi : i < spl n
        · rw [dep_lo h2 hi]; simp
        · rw [dep_hi h2 hi]; simp
      · by_cases hi : i < spl n
        · rw [val_lo h2 hi, dep_lo h2 hi]; simp only [ih (spl n) i s q (by omega), List.length_append, List.length_singleton, Nat.add_right_cancel_iff]
        · rw [val_hi h2 hi, dep_hi h2 hi]; simp only [ih (n - spl n) (i - spl n) s q (by omega), List.length_append, List.length_singleton, Nat.add_right_cancel_iff]
    · rw [val_one (by omega), dep_one (by omega)]; cases p <;> simp
theorem prf_dep {l : List ByteArray} {i : Nat} (h : i < l.length) : (prf l i).length = dep l.length i := by
  have h1 := val_ok _ l.length i l[i] (prf l i) (Nat.le_refl _)
  rw [val_prf _ l i h (Nat.le_refl _)] at h1
  exact of_decide_eq_true h1.symm

/-- Extension: short, accepted -/
theorem part_all (n : Nat) : ∀ (l : List ByteArray) (m : Nat) (whole : Bool), l.length ≤ n → All32 (part l m whole) := by
  induction n with
  | zero =>
    intro l m whole h
    cases whole
    · rw [part_not (by omega)]; intro x hx; simp at hx; subst hx; exact root_size _
    · rw [part_whole (by omega)]; exact all32_nil
  | succ n ih =>
    intro l m whole h
    by_cases h2 : 2 ≤ l.length ∧ m < l.length
    · have := spl_lt _ h2.1
      have := spl_pos l.length
      by_cases hi : m ≤ spl l.length
      · rw [part_lo h2.1 h2.2 hi]; exact all32_snoc.2 ⟨ih _ _ _ (by simp; omega), root_size _⟩
      · rw [part_hi h2.1 h2.2 hi]; exact all32_snoc.2 ⟨ih _ _ _ (by simp; omega), root_size _⟩
    · rw [part, dif_neg h2]
      cases whole
      · intro x hx; simp at hx; subst hx; exact root_size _
      · exact all32_nil

theorem part_len (c : Nat) : ∀ (l : List ByteArray) (m : Nat) (whole : Bool), l.length ≤ 2 ^ c → (part l m whole).length ≤ c + 1 := by
  induction c with
  | zero =>
    intro l m whole h
    rw [part, dif_neg (by omega)]
    cases whole <;> simp
  | succ c ih =>
    intro l m whole h
    by_cases h2 : 2 ≤ l.length ∧ m < l.length
    · have h3 := spl_le _ c h2.1 h
      have h4 := spl_half _ h2.1
      have := spl_lt _ h2.1
      by_cases hi : m ≤ spl l.length
      · rw [part_lo h2.1 h2.2 hi, List.length_append]
        have := ih (l.take (spl l.length)) m whole (by simp; omega)
        simp only [List.length_singleton]; omega
      · rw [part_hi h2.1 h2.2 hi, List.length_append]
        have := ih (l.drop (spl l.length)) (m - spl l.length) false (by simp; omega)
        simp only [List.length_singleton]; omega
    · rw [part, dif_neg h2]
      cases whole <;> simp

theorem two_part (n : Nat) : ∀ (l : List ByteArray) (m : Nat) (whole : Bool) (old : ByteArray), 1 ≤ m → m ≤ l.length → l.length ≤ n → (whole = true → old = root (l.take m)) →
    two old m l.length (part l m whole) whole = (root (l.take m), root l, true) := by
  induction n with
  | zero => intro l m whole old h1 h2 h3 h4; omega
  | succ n ih =>
    intro l m whole old h1 hm h3 h4
    by_cases he : m = l.length
    · subst he
      rw [List.take_length] at h4 ⊢
      cases whole
      · rw [part_not (Nat.le_refl _)]
        have := two_not (old := old) (x := root l) (p := []) (m := l.length) (n := l.length) (Nat.le_refl _)
        rw [List.nil_append] at this
        rw [this]; rfl
      · rw [part_whole (Nat.le_refl _), two_whole (Nat.le_refl _), h4 rfl]; rfl
    · have h2 : 2 ≤ l.length := by omega
      have hlt : m < l.length := by omega
      have h5 := spl_lt _ h2
      have h6 := spl_pos l.length
      by_cases hi : m ≤ spl l.length
      · have e1 : (l.take (spl l.length)).length = spl l.length := by simp; omega
        have e2 : (l.take (spl l.length)).take m = l.take m := by rw [List.take_take, Nat.min_eq_left hi]
        have := ih (l.take (spl l.length)) m whole old h1 (by omega) (by omega) (by rw [e2]; exact h4)
        rw [e1, e2] at this
        rw [part_lo h2 hlt hi, two_lo hlt h2 hi, this, ← root_two h2]
      · have e1 : (l.drop (spl l.length)).length = l.length - spl l.length := by simp
        have := ih (l.drop (spl l.length)) (m - spl l.length) false old (by omega) (by omega) (by omega) (fun h => by cases h)
        rw [e1] at this
        rw [part_hi h2 hlt hi, two_hi hlt h2 hi, this, ← root_two h2]
        -- the root of the first m entries has the same left part
        have e3 : (l.take m).length = m := by simp; omega
        have hs : spl m = spl l.length := by
          have a1 := spl_half _ h2
          have hm2 : 2 ≤ m := by omega
          exact (spl_of m (Nat.log2 (l.length - 1)) hm2 (by show m ≤ 2 * spl l.length; omega) (by show spl l.length < m; omega)).symm
        have e4 := root_two (l := l.take m) (by omega)
        rw [e3, hs, List.take_take, Nat.min_eq_left (by omega), List.drop_take] at e4
        rw [e4]

/-- a collision -/
def Clash (a b : List ByteArray) : Prop := ∃ (i : Nat) (h : i < a.length) (h' : i < b.length), a[i] ≠ b[i] ∧ sumB a[i] = sumB b[i]
theorem Clash.cons {a b : List ByteArray} {x y : ByteArray} (h : Clash a b) : Clash (x :: a) (y :: b) := by
  obtain ⟨i, h1, h2, h3⟩ := h
  exact ⟨i + 1, by simp; omega, by simp; omega, by simpa using h3⟩
theorem Clash.head {a b : List ByteArray} {x y : ByteArray} (h : x ≠ y) (h' : sumB x = sumB y) : Clash (x :: a) (y :: b) := ⟨0, by simp, by simp, by simpa using ⟨h, h'⟩⟩

theorem ba_append_inj {a b c d : ByteArray} (h : a ++ b = c ++ d) (hs : a.size = c.size) : a = c ∧ b = d := by
  have h1 : a.data.toList ++ b.data.toList = c.data.toList ++ d.data.toList := by
    have := congrArg (fun x => x.data.toList) h
    simpa using this
  obtain ⟨h2, h3⟩ := List.append_inj h1 (by simpa using hs)
  constructor
  · cases a; cases c; simp only [ByteArray.mk.injEq]; exact Array.toList_inj.1 h2
  · cases b; cases d; simp only [ByteArray.mk.injEq]; exact Array.toList_inj.1 h3

theorem node_inj {v x v' x' : ByteArray} (h : (⟨#[1]⟩ : ByteArray) ++ v ++ x = ⟨#[1]⟩ ++ v' ++ x') (hs : v.size = v'.size) : v = v' ∧ x = x' := by
  obtain ⟨h1, h2⟩ := ba_append_inj h (by rw [ByteArray.size_append, ByteArray.size_append, hs])
  exact ⟨(ba_append_inj h1 rfl).2, h2⟩

/-- the strings of which Sum is computed for a proof, from the root on -/
def way (n i : Nat) (s : ByteArray) (p : List ByteArray) : List ByteArray :=
  if h : 2 ≤ n then
    have := spl_lt n h
    have := spl_pos n
    match p.getLast? with
    | none => [⟨#[0]⟩ ++ s]
    | some x => if i < spl n then (⟨#[1]⟩ ++ (val (spl n) i s p.dropLast).1 ++ x) :: way (spl n) i s p.dropLast
                else (⟨#[1]⟩ ++ x ++ (val (n - spl n) (i - spl n) s p.dropLast).1) :: way (n - spl n) (i - spl n) s p.dropLast
  else [⟨#[0]⟩ ++ s]
termination_by n
theorem way_one {n i : Nat} {s : ByteArray} {p : List ByteArray} (h : n ≤ 1) : way n i s p = [⟨#[0]⟩ ++ s] := by rw [way, dif_neg (by omega)]
theorem way_lo {n i : Nat} {s x : ByteArray} {p : List ByteArray} (h : 2 ≤ n) (hi : i < spl n) : way n i s (p ++ [x]) = (⟨#[1]⟩ ++ (val (spl n) i s p).1 ++ x) :: way (spl n) i s p := by
  rw [way, dif_pos h]; simp [hi]
theorem way_hi {n i : Nat} {s x : ByteArray} {p : List ByteArray} (h : 2 ≤ n) (hi : ¬ i < spl n) : way n i s (p ++ [x]) = (⟨#[1]⟩ ++ x ++ (val (n - spl n) (i - spl n) s p).1) :: way (n - spl n) (i - spl n) s p := by
  rw [way, dif_pos h]; simp [hi]

theorem val_size (N : Nat) : ∀ (n i : Nat) (s : ByteArray) (p : List ByteArray), n ≤ N → (val n i s p).2 = true → (val n i s p).1.size = 32 := by
  intro n i s p _ h
  by_cases h2 : 2 ≤ n
  · rcases snoc_cases p with rfl | ⟨q, x, rfl⟩
    · rw [val_nil h2] at h; cases h
    · by_cases hi : i < spl n
      · rw [val_lo h2 hi]; exact nodeB_size _ _
      · rw [val_hi h2 hi]; exact nodeB_size _ _
  · rw [val_one (by omega)]; exact leafB_size _

/-- Binding -/
theorem way_clash (N : Nat) : ∀ (n i : Nat) (s t : ByteArray) (p q : List ByteArray), n ≤ N → All32 p → All32 q → (val n i s p).2 = true → (val n i t q).2 = true → (val n i s p).1 = (val n i t q).1 → s ≠ t →
    Clash (way n i s p) (way n i t q) := by
  induction N with
  | zero =>
    intro n i s t p q hn _ _ h1 h2 h3 hst
    rw [val_one (by omega), val_one (by omega)] at h3
    rw [way_one (by omega), way_one (by omega)]
    exact .head (fun e => hst (ba_append_inj e rfl).2) h3
  | succ N ih =>
    intro n i s t p q hn ap aq h1 h2 h3 hst
    by_cases hn2 : 2 ≤ n
    · have h5 := spl_lt _ hn2
      have h6 := spl_pos n
      rcases snoc_cases p with rfl | ⟨p, x, rfl⟩
      · rw [val_nil hn2] at h1; cases h1
      rcases snoc_cases q with rfl | ⟨q, y, rfl⟩
      · rw [val_nil hn2] at h2; cases h2
      obtain ⟨ap, sx⟩ := all32_snoc.1 ap
      obtain ⟨aq, sy⟩ := all32_snoc.1 aq
      by_cases hi : i < spl n
      · rw [val_lo hn2 hi] at h1 h2
        rw [val_lo hn2 hi, val_lo hn2 hi] at h3
        rw [way_lo hn2 hi, way_lo hn2 hi]
        by_cases e : (⟨#[1]⟩ : ByteArray) ++ (val (spl n) i s p).1 ++ x = ⟨#[1]⟩ ++ (val (spl n) i t q).1 ++ y
        · have := (node_inj e (by rw [val_size _ _ _ _ _ (Nat.le_refl _) h1, val_size _ _ _ _ _ (Nat.le_refl _) h2])).1
          exact (ih _ _ _ _ _ _ (by omega) ap aq h1 h2 this hst).cons
        · exact .head e h3
      · rw [val_hi hn2 hi] at h1 h2
        rw [val_hi hn2 hi, val_hi hn2 hi] at h3
        rw [way_hi hn2 hi, way_hi hn2 hi]
        by_cases e : (⟨#[1]⟩ : ByteArray) ++ x ++ (val (n - spl n) (i - spl n) s p).1 = ⟨#[1]⟩ ++ y ++ (val (n - spl n) (i - spl n) t q).1
        · have := (node_inj e (by rw [sx, sy])).2
          exact (ih _ _ _ _ _ _ (by omega) ap aq h1 h2 this hst).cons
        · exact .head e h3
    · rw [val_one (by omega), val_one (by omega)] at h3
      rw [way_one (by omega), way_one (by omega)]
      exact .head (fun e => hst (ba_append_inj e rfl).2) h3
end Go.Proofs.YtdjdoepnljdlcaaDoor
