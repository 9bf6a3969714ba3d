/- Lemmas for the walk of DigestProofAccepted. -/
import Derived.Test.YtdjdoepnljdlcaaDoorWb
namespace Go.Proofs.YtdjdoepnljdlcaaDoor
open Go.RowKit

theorem step_append_none {w : World} {ops : Array Oper} {o : Oper} {a : Act} {K : Act → World → Prop} {Q : Exit → Act → World → Prop} {E : Prop} (hgd : o.guard = none) (s x : Operand)
    (ho : o.op = .call { callee := .builtin .append, args := #[s, x], argTypes := #[26, 26] }) (b : Nat) (hs : a.eval s = .slice (some ⟨b, 0, none⟩) 0 0) (ad : Option Addr) (c : Nat) (hx : a.eval x = .slice ad 0 c)
    (h : K (a.put o.dst (.slice (some ⟨b, 0, none⟩) 0 0)) w) : if Region.wanted o (yielded ops a.tmps) = true then Oper.wp Tryd.prog o a w K Q else E := by
  have hw : Region.wanted o (yielded ops a.tmps) = true := by simp [Region.wanted, hgd]
  rw [if_pos hw]
  obtain ⟨i0, hi, _, hsz, _⟩ := info_parts info9'
  have hsrc : Src Tryd.prog i0.size 26 (.slice ad 0 c) 0 [] w := by
    cases ad with
    | none => exact Src.ofNil w Tryd.underlying26 c
    | some a => exact Src.ofSlice w Tryd.underlying26 a 0 c [] (by simp) (fun j u h => by simp at h) (fun _ h => by cases h)
  have hr := run_append_room_src w 26 26 o.type 9 i0 Tryd.underlying26 hi b 0 0 0 (.slice ad 0 c) 0 [] hsrc (by omega) (fun j h => absurd h (by simp)) (fun j h => absurd h (by simp))
  unfold Oper.wp execOp
  simp only [ho, resolve, invoke, builtin, Sem.run_bind, Sem.run_pure, Result.andThen_ok, List.map_toArray, List.map_cons, List.map_nil, hs, hx, hr]
  exact h
theorem news_far {W W' : World} {row : Option Nat} {B : Nat} {v : Value} (hg : W.grownBy W' row) (hn : ∀ j u, [v][j]? = some u → W.cell? ((⟨B, 0, none⟩ : Addr).add j) = some u) (hB : B < W.heap.size) (hne : some B ≠ row) :
    ∀ j u, [v][j]? = some u → W'.cell? ((⟨B, 0, none⟩ : Addr).add j) = some u := fun j u h => by
  rw [hg.cell_far _ (by rw [Addr.add_mid]; exact hB) (by rw [Addr.add_mid]; exact hne)]
  exact hn j u h
theorem ver_longer (l : List ByteArray) (i : Nat) (x : ByteArray) (h : i < l.length) : ver (root l) l.length i l[i] (prf l i ++ [x]) = false := by
  rw [ver, Int.toNat_natCast, Int.toNat_natCast, val_ok _ _ _ _ _ (Nat.le_refl _), List.length_append, prf_dep h]
  simp
theorem ver_shorter (l : List ByteArray) (i : Nat) (h : i < l.length) (h0 : 0 < (prf l i).length) : ver (root l) l.length i l[i] ((prf l i).drop 1) = false := by
  rw [ver, Int.toNat_natCast, Int.toNat_natCast, val_ok _ _ _ _ _ (Nat.le_refl _), List.length_drop, ← prf_dep h]
  have : decide ((prf l i).length - 1 = (prf l i).length) = false := decide_eq_false (by omega)
  rw [this]
  simp

theorem step_lies0 {w : World} {ops : Array Oper} {o : Oper} {a : Act} {K : Act → World → Prop} {Q : Exit → Act → World → Prop} {E : Prop} (hgd : o.guard = none) (s x : Operand)
    (ho : o.op = .call { callee := .builtin .append, args := #[s, x], argTypes := #[26, 26] }) (base : Nat) (v : Value) (hs : a.eval s = v) (hown : w.ownsRow base 9 1 v 0 [])
    (ad : Addr) (m c : Nat) (news : List Value) (hx : a.eval x = .slice (some ad) m c) (hl : news.length = m * 1) (hnews : ∀ j u, news[j]? = some u → w.cell? (ad.add j) = some u) (h1 : ∀ u ∈ news, u.oneCell' = true)
    (hm : 0 < m) (h63 : m ≤ maxLen) (hbytes : m * 16 ≤ 140737488355328) (hbase : base ≤ w.heap.size)
    (h : ∀ g cap w', w'.ownsRow base 9 1 (.slice (some ⟨g, 0, none⟩) m cap) m news → w.grownBy w' v.ownBlock → K (a.put o.dst (.slice (some ⟨g, 0, none⟩) m cap)) w') :
    if Region.wanted o (yielded ops a.tmps) = true then Oper.wp Tryd.prog o a w K Q else E := by
  obtain ⟨i9, hi9, hzr9, hsz9, hby9⟩ := info_parts info9'
  refine step_append_lies w hgd s x 26 ho base 9 i9 (.string ⟨#[]⟩) 1 16 Tryd.underlying26 hi9 hzr9 hsz9 hby9 rfl (by decide) v 0 [] hs hown ad m c news hx hl hnews h1 hm (by omega) (by omega) hbase _ rfl fun g cap w' ho hg _ _ => ?_
  rw [Nat.zero_add, List.nil_append] at ho
  rw [Nat.zero_add]
  exact h g cap w' ho hg
end Go.Proofs.YtdjdoepnljdlcaaDoor
