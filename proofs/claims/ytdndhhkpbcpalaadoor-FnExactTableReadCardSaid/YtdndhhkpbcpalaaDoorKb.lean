/-
  A TABLE THAT GROWS: its stations and pairs in rows of its own, each domain the tail of a row of its own.
-/
import Derived.Test.YtdndhhkpbcpalaaDoorKa
import Derived.Test.YtdndhhkpbcpalaaDoorAf
namespace Go.Proofs.YtdndhhkpbcpalaaDoor
open Go.RowKit
set_option linter.unusedVariables false

theorem own_kind {w : World} {B : Nat} {e : TypeId} {m : Nat} {v : Value} {n : Nat} {xs : List Value} (h : w.ownsRow B e m v n xs) {j : Nat} (hj : v.ownBlock = some j) : ∃ cur, w.heap[j]? = some (.cells cur e) := by
  rcases h.2 with ⟨rfl, _⟩ | ⟨g, cap, cur, rfl, _, hg, _⟩
  · simp [Value.ownBlock] at hj
  · simp [Value.ownBlock] at hj
    subst hj
    exact ⟨cur, hg⟩
theorem own_diff {w : World} {B B' : Nat} {e e' : TypeId} {m m' : Nat} {v v' : Value} {n n' : Nat} {xs xs' : List Value} (h : w.ownsRow B e m v n xs) (h' : w.ownsRow B' e' m' v' n' xs') (he : e ≠ e') : v.ownBlock = none ∨ v.ownBlock ≠ v'.ownBlock := by
  cases hv : v.ownBlock with
  | none => exact .inl rfl
  | some j =>
    refine .inr fun e2 => ?_
    obtain ⟨c1, h1⟩ := own_kind h hv
    obtain ⟨c2, h2⟩ := own_kind h' e2.symm
    rw [h1] at h2
    simp at h2
    exact he h2.2
def stC (rs : List LSt) : List Value := rs.flatMap fun r => [.int .i64 r.1, .int .i64 r.2.1, r.2.2.1]
def prC (ps : List LPr) : List Value := ps.flatMap fun p => [.int .i64 p.1, .int .i64 p.2.1, .int .i64 p.2.2]
theorem stC_add (a b : List LSt) : stC (a ++ b) = stC a ++ stC b := by simp [stC]
theorem prC_add (a b : List LPr) : prC (a ++ b) = prC a ++ prC b := by simp [prC]
theorem stC_at (rs : List LSt) (i : Nat) (h : i < rs.length) : (stC rs)[i * 3]? = some (.int .i64 rs[i].1) ∧ (stC rs)[i * 3 + 1]? = some (.int .i64 rs[i].2.1) ∧ (stC rs)[i * 3 + 2]? = some rs[i].2.2.1 := by
  induction rs generalizing i with
  | nil => simp at h
  | cons a r ih =>
    cases i with
    | zero => simp [stC]
    | succ i =>
      have h' := ih i (by simpa using h)
      have e : stC (a :: r) = .int .i64 a.1 :: .int .i64 a.2.1 :: a.2.2.1 :: stC r := by simp [stC]
      rw [e, show (i + 1) * 3 = i * 3 + 3 by omega]
      simpa using h'
theorem prC_at (ps : List LPr) (i : Nat) (h : i < ps.length) : (prC ps)[i * 3]? = some (.int .i64 ps[i].1) ∧ (prC ps)[i * 3 + 1]? = some (.int .i64 ps[i].2.1) ∧ (prC ps)[i * 3 + 2]? = some (.int .i64 ps[i].2.2) := by
  induction ps generalizing i with
  | nil => simp at h
  | cons a r ih =>
    cases i with
    | zero => simp [prC]
    | succ i =>
      have h' := ih i (by simpa using h)
      have e : prC (a :: r) = .int .i64 a.1 :: .int .i64 a.2.1 :: .int .i64 a.2.2 :: prC r := by simp [prC]
      rw [e, show (i + 1) * 3 = i * 3 + 3 by omega]
      simpa using h'
/-- A domain: the tail of a row of numbers of one's own. -/
def TailOf (w : World) (B : Nat) (r : LSt) : Prop := ∃ g o cap kap zs, r.2.2.1 = .slice (some ⟨g, o, none⟩) r.2.2.2.length cap ∧ (zs.length = 2 ∨ o = 2) ∧ 2 ≤ zs.length ∧ zs.length ≤ 1048576 ∧ r.2.2.2 = zs.drop 2 ∧ w.ownsRow B 2 1 (.slice (some ⟨g, 0, none⟩) zs.length kap) zs.length (valsZ zs)
def domB (r : LSt) : Option Nat := r.2.2.1.ownBlock
structure OwT (w : World) (B : Nat) (v1 v2 : Value) (rs : List LSt) (ps : List LPr) : Prop where
  r1 : w.ownsRow B 43 3 v1 rs.length (stC rs)
  r2 : w.ownsRow B 47 3 v2 ps.length (prC ps)
  dom : ∀ r ∈ rs, TailOf w B r
  diff : rs.Pairwise fun r s => domB r ≠ domB s
theorem OwT.nil (w : World) (B : Nat) : OwT w B (.slice none 0 0) (.slice none 0 0) [] [] := ⟨⟨rfl, .inl ⟨rfl, rfl⟩⟩, ⟨rfl, .inl ⟨rfl, rfl⟩⟩, (fun r h => by cases h), List.Pairwise.nil⟩
theorem TailOf.below {w w' : World} {B : Nat} {r : LSt} (h : TailOf w B r) (hb : Below w.heap.size w w') : TailOf w' B r := by
  obtain ⟨g, o, cap, kap, zs, h1, ho2, h2, h3, h4, h5⟩ := h
  exact ⟨g, o, cap, kap, zs, h1, ho2, h2, h3, h4, own_below h5 hb⟩
theorem OwT.below {w w' : World} {B : Nat} {v1 v2 : Value} {rs : List LSt} {ps : List LPr} (h : OwT w B v1 v2 rs ps) (hb : Below w.heap.size w w') : OwT w' B v1 v2 rs ps :=
  ⟨own_below h.r1 hb, own_below h.r2 hb, fun r hr => (h.dom r hr).below hb, h.diff⟩
theorem TailOf.dm {w : World} {B : Nat} {r : LSt} (h : TailOf w B r) : DomIn w r := by
  obtain ⟨g, o, cap, kap, zs, h1, ho2, h2, h3, h4, h5⟩ := h
  refine ⟨some ⟨g, o, none⟩, cap, h1, ?_, by rw [h4, List.length_drop]; omega⟩
  rcases h5.2 with ⟨hv, _⟩ | ⟨g', c', cur, hv, hb, hg, _⟩
  · simp at hv
  · injection hv with e1 e2 e3
    injection e1 with e1
    injection e1 with e1
    subst e1
    refine .inr ⟨g, o, rfl, (Array.getElem?_eq_some_iff.1 hg).1, fun i hi => ?_⟩
    have hi2 : i + 2 < zs.length := by rw [h4, List.length_drop] at hi; omega
    have ho : o = 2 := by rcases ho2 with h | h <;> omega
    subst ho
    have hc := h5.cellAt (i + 2) (by simpa using hi2)
    rw [show 2 + i = i + 2 by omega, hc, h4]
    simp [valsZ, List.getElem?_eq_getElem hi2, List.getD_eq_getElem?_getD, List.getElem?_drop, Nat.add_comm 2 i]
theorem own_st {w : World} {B : Nat} {v1 v2 : Value} {rs : List LSt} {ps : List LPr} (h : OwT w B v1 v2 rs ps) : ∃ sl cap, v1 = .slice sl rs.length cap ∧ Sts w sl rs := by
  have dm : ∀ r ∈ rs, DomIn w r := fun r hr => (h.dom r hr).dm
  have h1 := h.r1
  rcases h1.2 with ⟨hv, h0⟩ | ⟨g, cap, cur, hv, hb, hg, _⟩
  · exact ⟨none, 0, by rw [hv, h0], .inl (List.eq_nil_of_length_eq_zero h0), dm⟩
  · refine ⟨_, cap, hv, .inr ⟨g, 0, rfl, (Array.getElem?_eq_some_iff.1 hg).1, fun i hi => ?_⟩, dm⟩
    have e := stC_at rs i hi
    subst hv
    rw [Nat.zero_add]
    exact ⟨by rw [h1.cellAt (i * 3) (by omega), e.1], by rw [h1.cellAt (i * 3 + 1) (by omega), e.2.1], by rw [h1.cellAt (i * 3 + 2) (by omega), e.2.2]⟩
theorem own_pr {w : World} {B : Nat} {v1 v2 : Value} {rs : List LSt} {ps : List LPr} (h : OwT w B v1 v2 rs ps) : ∃ sl cap, v2 = .slice sl ps.length cap ∧ Prs w sl ps := by
  have h1 := h.r2
  rcases h1.2 with ⟨hv, h0⟩ | ⟨g, cap, cur, hv, hb, hg, _⟩
  · exact ⟨none, 0, by rw [hv, h0], .inl (List.eq_nil_of_length_eq_zero h0)⟩
  · refine ⟨_, cap, hv, .inr ⟨g, 0, rfl, (Array.getElem?_eq_some_iff.1 hg).1, fun i hi => ?_⟩⟩
    have e := prC_at ps i hi
    subst hv
    rw [Nat.zero_add]
    exact ⟨by rw [h1.cellAt (i * 3) (by omega), e.1], by rw [h1.cellAt (i * 3 + 1) (by omega), e.2.1], by rw [h1.cellAt (i * 3 + 2) (by omega), e.2.2]⟩
theorem TailOf.kept {w w' : World} {B B' : Nat} {e : TypeId} {m n : Nat} {v : Value} {xs : List Value} {r : LSt} (h : TailOf w B r) (ho : w.ownsRow B' e m v n xs) (he : (2 : TypeId) ≠ e) (hg : w.grownBy w' v.ownBlock) : TailOf w' B r := by
  obtain ⟨g, o, cap, kap, zs, h1, ho2, h2, h3, h4, h5⟩ := h
  exact ⟨g, o, cap, kap, zs, h1, ho2, h2, h3, h4, h5.kept hg (own_diff h5 ho he)⟩
/-- A station more. -/
theorem OwT.addS {w w' : World} {B : Nat} {v1 v2 v9 : Value} {rs : List LSt} {ps : List LPr} {r : LSt} (h : OwT w B v1 v2 rs ps) (hr : TailOf w B r) (hf : ∀ s ∈ rs, domB s ≠ domB r) (hg : w.grownBy w' v1.ownBlock) (own9 : w'.ownsRow B 43 3 v9 (rs.length + 1) (stC rs ++ [.int .i64 r.1, .int .i64 r.2.1, r.2.2.1])) : OwT w' B v9 v2 (rs ++ [r]) ps := by
  refine ⟨?_, h.r2.kept hg (own_diff h.r2 h.r1 (by decide)), fun s hs => ?_, ?_⟩
  · rw [List.length_append, stC_add]
    exact own9
  · rcases List.mem_append.1 hs with hs | hs
    · exact (h.dom s hs).kept h.r1 (by decide) hg
    · rw [List.mem_singleton.1 hs]
      exact hr.kept h.r1 (by decide) hg
  · refine List.pairwise_append.2 ⟨h.diff, List.pairwise_singleton _ _, fun s hs t ht => ?_⟩
    rw [List.mem_singleton.1 ht]
    exact hf s hs
/-- A pair more. -/
theorem OwT.addP {w w' : World} {B : Nat} {v1 v2 v9 : Value} {rs : List LSt} {ps : List LPr} {p : LPr} (h : OwT w B v1 v2 rs ps) (hg : w.grownBy w' v2.ownBlock) (own9 : w'.ownsRow B 47 3 v9 (ps.length + 1) (prC ps ++ [.int .i64 p.1, .int .i64 p.2.1, .int .i64 p.2.2])) : OwT w' B v1 v9 rs (ps ++ [p]) := by
  refine ⟨h.r1.kept hg (own_diff h.r1 h.r2 (by decide)), ?_, fun s hs => (h.dom s hs).kept h.r2 (by decide) hg, h.diff⟩
  rw [List.length_append, prC_add]
  exact own9
end Go.Proofs.YtdndhhkpbcpalaaDoor
