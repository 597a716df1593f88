/-
  WHO MAY NOT STAND BESIDE WHOM: impl.notBeside.
-/
import Derived.Test.YtdmfljejlhlbnaaWf
import Derived.Test.YtdmfljejlhlbnaaPi
namespace Go.Proofs.Ytdmfljejlhlbnaa
open Go.RowKit
set_option linter.unusedVariables false

theorem fm_step {α β : Type} (f : α → List β) (l : List α) (k : Nat) (h : k < l.length) : (l.take (k + 1)).flatMap f = (l.take k).flatMap f ++ f l[k] := by
  rw [List.take_succ_eq_append_getElem h, List.flatMap_append]; simp
def besO (ps : List LPr) (x y : LNb) : List (List Int) := if mayL ps x.1.1 x.1.2 y.1.1 y.1.2 = true then [] else [[-x.2, -y.2]]
def besR (ps : List LPr) (C : List LNb) (x : LNb) : List (List Int) := C.flatMap (besO ps x)
theorem besF_R (ps : List LPr) (A C : List LNb) : besF ps A C = A.flatMap (besR ps C) := rfl
theorem nbsF_fst (ds : List (List LPl)) : ∀ last, (nbsF last ds).map (fun b => b.map fun e => e.1) = ds := by
  induction ds with
  | nil => intro _; rfl
  | cons d r ih => intro last; simp only [nbsF, List.map_cons, nbF_fst, ih]
/-- One row: its places, its variables. -/
theorem row_of {rows : List LRow} {vs : List LCl} (hb : bareC vs = numR rows) (p : Nat) (hp : p < rows.length) : ∃ A, (nbsF 0 (rows.map fun r => r.2)).getD p [] = A ∧ rows[p].2 = A.map (fun e => e.1) ∧ ∃ hv : p < vs.length, vs[p].2 = A.map fun e => e.2 := by
  have hl : (nbsF 0 (rows.map fun r => r.2)).length = rows.length := by rw [nbsF_len, List.length_map]
  have hp2 : p < (nbsF 0 (rows.map fun r => r.2)).length := by rw [hl]; exact hp
  have hvl : vs.length = rows.length := by have := congrArg List.length hb; simpa [bareC, numR, hl] using this
  refine ⟨(nbsF 0 (rows.map fun r => r.2))[p], by simp [List.getD, hp2], ?_, by omega, ?_⟩
  · have e := nbsF_fst (rows.map fun r => r.2) 0
    have : ((nbsF 0 (rows.map fun r => r.2)).map (fun b => b.map fun e => e.1))[p]? = (rows.map fun r => r.2)[p]? := by rw [e]
    simpa [hp2, hp] using this.symm
  · have : (bareC vs)[p]? = (numR rows)[p]? := by rw [hb]
    have hv : p < vs.length := by omega
    simpa [bareC, numR, hp2, hv] using this
theorem blk_kept {w wa w9 : World} {B : Nat} {v : Value} {cs : List LCl} {h : Nat} {vs : Array Value} {t : TypeId} (oc : OwC w B v cs) (hh : w.heap[h]? = some (.cells vs t)) (ht : t ≠ 40) (hb : Below w.heap.size w wa) (hg : wa.grownBy w9 v.ownBlock) : w9.heap[h]? = some (.cells vs t) := by
  have hl : h < w.heap.size := (Array.getElem?_eq_some_iff.1 hh).1
  have ha := (hb.block h hl).trans hh
  refine (hg.block h (Nat.lt_of_lt_of_le hl hb.size) (fun e => ?_)).trans ha
  obtain ⟨c, hc⟩ := own_kind oc.row e.symm
  rw [hh] at hc
  simp at hc
  exact ht hc.2
/-- The places of a row, its variables. -/
def PlN (W : World) (s : Option Addr) (A : List LNb) : Prop := A = [] ∨ ∃ c o, s = some ⟨c, o, none⟩ ∧ c < W.heap.size ∧ ∀ i (h : i < A.length), W.cell? ⟨c, o + i * 2, none⟩ = some (.int .i64 A[i].1.1) ∧ W.cell? ⟨c, o + i * 2 + 1, none⟩ = some (.int .i64 A[i].1.2)
def VaN (W : World) (t : Option Addr) (A : List LNb) : Prop := A = [] ∨ ∃ d u, t = some ⟨d, u, none⟩ ∧ d < W.heap.size ∧ ∀ i (h : i < A.length), W.cell? ⟨d, u + i, none⟩ = some (.int .i64 A[i].2)
/-- What lies at row p: its places, its variables. -/
def RowAB (W : World) (cc : Nat) (slv : Option Addr) (p : Nat) (A : List LNb) : Prop :=
  (∃ s k, W.cell? ⟨cc, p, none⟩ = some (.slice s A.length k) ∧ cc < W.heap.size ∧ PlN W s A) ∧
  (∃ c o t k, slv = some ⟨c, o, none⟩ ∧ c < W.heap.size ∧ W.cell? ⟨c, o + p, none⟩ = some (.slice t A.length k) ∧ VaN W t A)
theorem rowAB_of {W : World} {cc : Nat} {slv : Option Addr} {rows : List LRow} {vs : List LCl} (hz : Rws W (some ⟨cc, 0, none⟩) rows) (hv : Cls W slv vs) (p : Nat) (A : List LNb) (hp : p < rows.length) (h1 : rows[p].2 = A.map (fun e => e.1)) (hpv : p < vs.length) (h2 : vs[p].2 = A.map (fun e => e.2)) : RowAB W cc slv p A := by
  constructor
  · rcases hz.row with e | ⟨c, e, cl, hc⟩
    · rw [e] at hp; simp at hp
    · cases e
      obtain ⟨s, k, es, ps⟩ := hz.each rows[p] (List.getElem_mem hp)
      refine ⟨s, k, ?_, cl, ?_⟩
      · rw [hc p hp, es, h1, List.length_map]
      · rcases ps with e | ⟨c, o, e, P⟩
        · exact Or.inl (by rw [h1] at e; simpa using e)
        · refine Or.inr ⟨c, o, e, P.lt, fun i hi => ?_⟩
          have hi2 : i < rows[p].2.length := by rw [h1, List.length_map]; exact hi
          have := P.cell i hi2
          simpa [h1] using this
  · obtain ⟨c, o, e, cl, hc⟩ := hv.at hpv
    obtain ⟨t, k, et, it, -⟩ := hv.each vs[p] (List.getElem_mem hpv)
    refine ⟨c, o, t, k, e, cl, ?_, ?_⟩
    · rw [hc p hpv, et, h2, List.length_map]
    · rcases it with e | ⟨d, u, e, P⟩
      · exact Or.inl (by rw [h2] at e; simpa using e)
      · refine Or.inr ⟨d, u, e, P.1, fun i hi => ?_⟩
        have hi2 : i < vs[p].2.length := by rw [h2, List.length_map]; exact hi
        rw [P.2 i hi2, h2]
        simp [hi]
end Go.Proofs.Ytdmfljejlhlbnaa
