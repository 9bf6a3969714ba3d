/- Sides of an extension and heads of a chain, plain: what they prove. -/
import Derived.Test.YtdjdoepnljdlcaaDoorKb
namespace Go.Proofs.YtdjdoepnljdlcaaDoor
/-- the strings of which Sum is computed for the new root of an extension, from the root on -/
def sid (old : ByteArray) (m n : Nat) (p : List ByteArray) (whole : Bool) : List ByteArray :=
  if h : 2 ≤ n ∧ m < n then
    have := spl_lt n h.1
    have := spl_pos n
    match p.getLast? with
    | none => []
    | some x => if m ≤ spl n then (⟨#[1]⟩ ++ (two old m (spl n) p.dropLast whole).2.1 ++ x) :: sid old m (spl n) p.dropLast whole
                else (⟨#[1]⟩ ++ x ++ (two old (m - spl n) (n - spl n) p.dropLast false).2.1) :: sid old (m - spl n) (n - spl n) p.dropLast false
  else []
termination_by n
theorem sid_end {old : ByteArray} {m n : Nat} {p : List ByteArray} {whole : Bool} (h : n ≤ m) : sid old m n p whole = [] := by rw [sid, dif_neg (by omega)]
theorem sid_lo {old x : ByteArray} {m n : Nat} {p : List ByteArray} {whole : Bool} (h : m < n) (h2 : 2 ≤ n) (hi : m ≤ spl n) :
    sid old m n (p ++ [x]) whole = (⟨#[1]⟩ ++ (two old m (spl n) p whole).2.1 ++ x) :: sid old m (spl n) p whole := by
  rw [sid, dif_pos ⟨h2, h⟩]; simp [hi]
theorem sid_hi {old x : ByteArray} {m n : Nat} {p : List ByteArray} {whole : Bool} (h : m < n) (h2 : 2 ≤ n) (hi : ¬ m ≤ spl n) :
    sid old m n (p ++ [x]) whole = (⟨#[1]⟩ ++ x ++ (two old (m - spl n) (n - spl n) p false).2.1) :: sid old (m - spl n) (n - spl n) p false := by
  rw [sid, dif_pos ⟨h2, h⟩]; simp [hi]

theorem two_size {old : ByteArray} {m n : Nat} {p : List ByteArray} {whole : Bool} (h1 : 1 ≤ m) (ho : old.size = 32) (ap : All32 p) (h : (two old m n p whole).2.2 = true) : (two old m n p whole).2.1.size = 32 := by
  by_cases hmn : m < n
  · have h2 : 2 ≤ n := by omega
    rcases snoc_cases p with rfl | ⟨q, x, rfl⟩
    · rw [two_nil hmn h2] at h; cases h
    · by_cases hi : m ≤ spl n
      · rw [two_lo hmn h2 hi]; exact nodeB_size _ _
      · rw [two_hi hmn h2 hi]; exact nodeB_size _ _
  · cases whole
    · rcases snoc_cases p with rfl | ⟨q, x, rfl⟩
      · rw [two_nil' (by omega)] at h; cases h
      · rw [two_not (by omega)]; exact (all32_snoc.1 ap).2
    · rw [two_whole (by omega)]; exact ho

/-- Binding of beginnings -/
theorem sid_clash (N : Nat) : ∀ (a b : ByteArray) (m n : Nat) (p q : List ByteArray) (whole : Bool), n ≤ N → 1 ≤ m → All32 p → All32 q → a.size = 32 → b.size = 32 →
    (two a m n p whole).2.2 = true → (two b m n q whole).2.2 = true → (two a m n p whole).2.1 = (two b m n q whole).2.1 → (two a m n p whole).1 ≠ (two b m n q whole).1 →
    Clash (sid a m n p whole) (sid b m n q whole) := by
  have fin : ∀ (a b : ByteArray) (m n : Nat) (p q : List ByteArray) (whole : Bool), n ≤ m → (two a m n p whole).2.1 = (two b m n q whole).2.1 → (two a m n p whole).1 ≠ (two b m n q whole).1 → False := by
    intro a b m n p q whole h e ne
    cases whole
    · rcases snoc_cases p with rfl | ⟨p, x, rfl⟩ <;> rcases snoc_cases q with rfl | ⟨q, y, rfl⟩
      · rw [two_nil' h, two_nil' h] at ne; exact ne rfl
      · rw [two_nil' h, two_not h] at ne e; exact ne e
      · rw [two_nil' h, two_not h] at ne e; exact ne e
      · rw [two_not h, two_not h] at ne e; exact ne e
    · rw [two_whole h, two_whole h] at ne e; exact ne e
  induction N with
  | zero => intro a b m n p q whole hn h1 _ _ _ _ _ _ e ne; exact (fin _ _ _ _ _ _ _ (by omega) e ne).elim
  | succ N ih =>
    intro a b m n p q whole hn h1 ap aq sa sb k1 k2 e ne
    by_cases hmn : m < n
    · have h2 : 2 ≤ n := by omega
      have h5 := spl_lt _ h2
      have h6 := spl_pos n
      rcases snoc_cases p with rfl | ⟨p, x, rfl⟩
      · rw [two_nil hmn h2] at k1; cases k1
      rcases snoc_cases q with rfl | ⟨q, y, rfl⟩
      · rw [two_nil hmn h2] at k2; cases k2
      obtain ⟨ap, sx⟩ := all32_snoc.1 ap
      obtain ⟨aq, sy⟩ := all32_snoc.1 aq
      by_cases hi : m ≤ spl n
      · rw [two_lo hmn h2 hi] at k1 k2
        rw [two_lo hmn h2 hi, two_lo hmn h2 hi] at e ne
        rw [sid_lo hmn h2 hi, sid_lo hmn h2 hi]
        by_cases c : (⟨#[1]⟩ : ByteArray) ++ (two a m (spl n) p whole).2.1 ++ x = ⟨#[1]⟩ ++ (two b m (spl n) q whole).2.1 ++ y
        · have := (node_inj c (by rw [two_size h1 sa ap k1, two_size h1 sb aq k2])).1
          exact (ih _ _ _ _ _ _ _ (by omega) h1 ap aq sa sb k1 k2 this ne).cons
        · exact .head c e
      · rw [two_hi hmn h2 hi] at k1 k2
        rw [two_hi hmn h2 hi, two_hi hmn h2 hi] at e ne
        rw [sid_hi hmn h2 hi, sid_hi hmn h2 hi]
        by_cases c : (⟨#[1]⟩ : ByteArray) ++ x ++ (two a (m - spl n) (n - spl n) p false).2.1 = ⟨#[1]⟩ ++ y ++ (two b (m - spl n) (n - spl n) q false).2.1
        · obtain ⟨cx, c2⟩ := node_inj c (by rw [sx, sy])
          refine (ih _ _ _ _ _ _ _ (by omega) (by omega) ap aq sa sb k1 k2 c2 fun f => ne ?_).cons
          show nodeB x _ = nodeB y _
          rw [cx, f]
        · exact .head c e
    · exact (fin _ _ _ _ _ _ _ (by omega) e ne).elim

/-- 32 zero bytes -/
def z32 : ByteArray := ⟨#[0, 0, 0, 0, 0, 0, 0, 0, 0, 0, 0, 0, 0, 0, 0, 0, 0, 0, 0, 0, 0, 0, 0, 0, 0, 0, 0, 0, 0, 0, 0, 0]⟩
/-- the head of a list of records, the last one first -/
def hr : List ByteArray → ByteArray
  | [] => z32
  | x :: r => chainB (hr r) x
/-- the strings of which Sum is computed for it -/
def ss : List ByteArray → List ByteArray
  | [] => []
  | x :: r => (⟨#[2]⟩ ++ hr r ++ x) :: ss r
theorem hr_size (r : List ByteArray) : (hr r).size = 32 := by
  cases r with
  | nil => rfl
  | cons x r => exact sumB_size _
theorem ss_len (r : List ByteArray) : (ss r).length = r.length := by
  induction r with
  | nil => rfl
  | cons x r ih => simp [ss, ih]
def lng (a b : List ByteArray) : List ByteArray := if a.length < b.length then b else a
def zro (a b : List ByteArray) : Prop := a.length ≠ b.length ∧ sumB ((lng a b).getD (min a.length b.length) ⟨#[]⟩) = z32
theorem zro.cons {a b : List ByteArray} {x y : ByteArray} (h : zro a b) : zro (x :: a) (y :: b) := by
  obtain ⟨h1, h2⟩ := h
  refine ⟨by simp; omega, ?_⟩
  rw [← h2]
  congr 1
  unfold lng
  simp only [List.length_cons, Nat.add_lt_add_iff_right, Nat.add_min_add_right]
  split <;> simp
theorem chain_clash : ∀ r1 r2 : List ByteArray, hr r1 = hr r2 → r1 ≠ r2 → Clash (ss r1) (ss r2) ∨ zro (ss r1) (ss r2) := by
  intro r1
  induction r1 with
  | nil =>
    intro r2 h ne
    cases r2 with
    | nil => exact absurd rfl ne
    | cons y r2 => exact .inr ⟨by simp [ss], h.symm⟩
  | cons x r1 ih =>
    intro r2 h ne
    cases r2 with
    | nil => exact .inr ⟨by simp [ss], h⟩
    | cons y r2 =>
      by_cases c : (⟨#[2]⟩ : ByteArray) ++ hr r1 ++ x = ⟨#[2]⟩ ++ hr r2 ++ y
      · obtain ⟨c1, c2⟩ := ba_append_inj c (by rw [ByteArray.size_append, ByteArray.size_append, hr_size, hr_size])
        have c3 := (ba_append_inj c1 rfl).2
        rcases ih r2 c3 (fun e => ne (by rw [c2, e])) with g | g
        · exact .inl g.cons
        · exact .inr g.cons
      · exact .inl (.head c h)
end Go.Proofs.YtdjdoepnljdlcaaDoor
