/-
  A LIST OF RECORDS WITH MEMORY OF ITS OWN: marked and held.
-/
import Derived.Test.YtnkdkbchendpmaaDoorVa
import Derived.Test.YtnkdkbchendpmaaDoorUc
namespace Go.Proofs.YtnkdkbchendpmaaDoor
open Go.RowKit
set_option linter.unusedVariables false

abbrev RcL := List (Int × Value × List Int)
/-- A list of records, each with numbers of its own, right or not. -/
structure RecsB (B : Nat) (w : World) (v : Value) (rs : RcL) : Prop where
  row : w.ownsRow B 28 2 v rs.length (recCells rs)
  each : ∀ r ∈ rs, w.ownsRow B 2 1 r.2.1 r.2.2.length (valsZ r.2.2)
theorem RecsIn.b {B : Nat} {w : World} {v : Value} {rs : RcL} (h : RecsIn B w v rs) : RecsB B w v rs := ⟨h.row, fun r hr => (h.each r hr).1⟩
theorem RecsB.below {B : Nat} {w w' : World} {v : Value} {rs : RcL} (h : RecsB B w v rs) (hb : Below w.heap.size w w') : RecsB B w' v rs := ⟨own_below h.row hb, fun r hr => own_below (h.each r hr) hb⟩
theorem RecsB.form {B : Nat} {w : World} {v : Value} {rs : RcL} (h : RecsB B w v rs) : ∃ sl cap, v = .slice sl rs.length cap := by
  rcases h.row.2 with ⟨rfl, h0⟩ | ⟨g, cap, cur, rfl, _⟩
  · exact ⟨none, 0, by rw [h0]⟩
  · exact ⟨_, cap, rfl⟩
/-- No two records have their numbers in one row. -/
def Apart (rs : RcL) : Prop := rs.Pairwise fun a b => a.2.1.ownBlock = none ∨ a.2.1.ownBlock ≠ b.2.1.ownBlock
theorem apart_nil : Apart [] := List.Pairwise.nil
theorem Apart.add {rs : RcL} (h : Apart rs) {r : Int × Value × List Int} (hr : ∀ a ∈ rs, a.2.1.ownBlock = none ∨ a.2.1.ownBlock ≠ r.2.1.ownBlock) : Apart (rs ++ [r]) := by
  unfold Apart
  rw [List.pairwise_append]
  exact ⟨h, by simp, fun a ha b hb => by simp at hb; subst hb; exact hr a ha⟩

/-- The marks of a list of records, from k on. -/
def mkd : Int → RcL → RcL
  | _, [] => []
  | k, (_, v, zs) :: r => (k, v, marks (k + 1) zs.length) :: mkd (k + 1 + zs.length) r
/-- The number behind the last mark. -/
def tot : Int → RcL → Int
  | k, [] => k
  | k, (_, _, zs) :: r => tot (k + 1 + zs.length) r
theorem mkd_add (k : Int) (a b : RcL) : mkd k (a ++ b) = mkd k a ++ mkd (tot k a) b := by
  induction a generalizing k with
  | nil => rfl
  | cons x r ih => obtain ⟨a, v, zs⟩ := x; simp [mkd, tot, ih]
theorem tot_add (k : Int) (a b : RcL) : tot k (a ++ b) = tot (tot k a) b := by
  induction a generalizing k with
  | nil => rfl
  | cons x r ih => obtain ⟨a, v, zs⟩ := x; simp [tot, ih]
theorem mkd_len (k : Int) (a : RcL) : (mkd k a).length = a.length := by
  induction a generalizing k with
  | nil => rfl
  | cons x r ih => obtain ⟨a, v, zs⟩ := x; simp [mkd, ih]
theorem tot_le (k : Int) (a : RcL) (h : ∀ r ∈ a, r.2.2.length ≤ 60) : k ≤ tot k a ∧ tot k a ≤ k + 61 * a.length := by
  induction a generalizing k with
  | nil => simp [tot]
  | cons x r ih =>
    obtain ⟨a, v, zs⟩ := x
    have h1 := h (a, v, zs) (by simp)
    have h2 := ih (k + 1 + zs.length) (fun r hr => h r (by simp [hr]))
    simp only [tot, List.length_cons] at *
    omega
theorem mkd_blocks (k : Int) (a : RcL) : (mkd k a).map (fun r => r.2.1) = a.map (fun r => r.2.1) := by
  induction a generalizing k with
  | nil => rfl
  | cons x r ih => obtain ⟨a, v, zs⟩ := x; simp [mkd, ih]
/-- The list when i records are marked. -/
def half (rs : RcL) (i : Nat) : RcL := mkd 1 (rs.take i) ++ rs.drop i
theorem half_len (rs : RcL) (i : Nat) : (half rs i).length = rs.length := by simp [half, mkd_len]; omega
theorem half_zero (rs : RcL) : half rs 0 = rs := by simp [half, mkd]
theorem half_all (rs : RcL) : half rs rs.length = mkd 1 rs := by simp [half]
theorem take_one {α : Type} (l : List α) (i : Nat) (h : i < l.length) : l.take (i + 1) = l.take i ++ [l[i]] := by rw [List.take_add_one, List.getElem?_eq_getElem h]; rfl
theorem tot_next (rs : RcL) (i : Nat) (h : i < rs.length) : tot 1 (rs.take (i + 1)) = tot 1 (rs.take i) + 1 + rs[i].2.2.length := by
  rw [take_one _ _ h, tot_add]; rfl
theorem half_at (rs : RcL) (i : Nat) (h : i < rs.length) : half rs i = mkd 1 (rs.take i) ++ rs[i] :: rs.drop (i + 1) := by
  unfold half; rw [List.drop_eq_getElem_cons h]
theorem half_next (rs : RcL) (i : Nat) (h : i < rs.length) : half rs (i + 1) = mkd 1 (rs.take i) ++ (tot 1 (rs.take i), rs[i].2.1, marks (tot 1 (rs.take i) + 1) rs[i].2.2.length) :: rs.drop (i + 1) := by
  unfold half
  rw [take_one _ _ h, mkd_add]
  simp [mkd]
theorem recCells_at (rs : RcL) (i : Nat) (hi : i < rs.length) : (recCells rs)[i * 2]? = some (.int .i64 rs[i].1) ∧ (recCells rs)[i * 2 + 1]? = some rs[i].2.1 := by
  induction rs generalizing i with
  | nil => simp at hi
  | cons a r ih =>
    cases i with
    | zero => simp [recCells]
    | succ i =>
      have := ih i (by simpa using hi)
      rw [show (i + 1) * 2 = i * 2 + 2 by omega, show i * 2 + 2 + 1 = (i * 2 + 1) + 2 by omega]
      simpa [recCells] using this
theorem recCells_len (rs : RcL) : (recCells rs).length = rs.length * 2 := by
  induction rs with
  | nil => rfl
  | cons a r ih => rw [show recCells (a :: r) = [.int .i64 a.1, a.2.1] ++ recCells r from rfl, List.length_append, ih]; simp; omega
theorem recCells_set (p q : RcL) (a k : Int) (u : Value) (zs : List Int) : (recCells (p ++ (a, u, zs) :: q)).set (p.length * 2) (.int .i64 k) = recCells (p ++ (k, u, zs) :: q) := by
  have e (x : Int) : recCells (p ++ (x, u, zs) :: q) = recCells p ++ ([.int .i64 x, u] ++ recCells q) := by simp [recCells]
  rw [e, e, List.set_append_right _ _ (by rw [recCells_len]; exact Nat.le_refl _), recCells_len]
  simp
theorem recCells_other (p q : RcL) (k : Int) (u : Value) (zs ys : List Int) : recCells (p ++ (k, u, zs) :: q) = recCells (p ++ (k, u, ys) :: q) := by simp [recCells]

/-- The list's row: where a record lies in it. -/
theorem RecsB.at {B : Nat} {w : World} {v : Value} {rs : RcL} (h : RecsB B w v rs) (i : Nat) (hi : i < rs.length) :
    ∃ g cap, v = .slice (some ⟨g, 0, none⟩) rs.length cap ∧ B ≤ g ∧ g < w.heap.size ∧ w.cell? ⟨g, i * 2, none⟩ = some (.int .i64 rs[i].1) ∧ w.cell? ⟨g, i * 2 + 1, none⟩ = some rs[i].2.1 ∧ (∀ o, w.frozen? ⟨g, o, none⟩ = false) := by
  rcases h.row.2 with ⟨_, h0⟩ | ⟨g, cap, cur, rfl, hb, hg, hcap, hmx, hcur, hx⟩
  · omega
  · have hcc := recCells_at rs i hi
    refine ⟨g, cap, rfl, hb, (Array.getElem?_eq_some_iff.1 hg).1, ?_, ?_, fun o => by simp [World.frozen?, hg]⟩
    · rw [World.ownsRow.cellAt h.row (i * 2) (by omega), hcc.1]
    · rw [World.ownsRow.cellAt h.row (i * 2 + 1) (by omega), hcc.2]
/-- One record's kind is written. -/
theorem RecsB.kind {B : Nat} {w : World} {g n cap : Nat} {p q : RcL} {a : Int} {u : Value} {zs : List Int} (h : RecsB B w (.slice (some ⟨g, 0, none⟩) n cap) (p ++ (a, u, zs) :: q)) (k : Int) :
    RecsB B (w.setCell ⟨g, p.length * 2, none⟩ (.int .i64 k)) (.slice (some ⟨g, 0, none⟩) n cap) (p ++ (k, u, zs) :: q) ∧ w.grownBy (w.setCell ⟨g, p.length * 2, none⟩ (.int .i64 k)) (some g) := by
  have hl : (p ++ (k, u, zs) :: q).length = (p ++ (a, u, zs) :: q).length := by simp
  have hgr : w.grownBy (w.setCell ⟨g, p.length * 2, none⟩ (.int .i64 k)) (some g) := ((Only.refl g w).setCell _ _).grownBy
  have hself := h.row
  rcases h.row.2 with ⟨hv, _⟩ | ⟨g', cap', cur, hv, hb, hg, hcap, hmx, hcur, hx⟩
  · cases hv
  · simp only [Value.slice.injEq, Option.some.injEq, Addr.mk.injEq, and_true] at hv
    obtain ⟨rfl, e1, rfl⟩ := hv
    refine ⟨⟨⟨?_, .inr ⟨g, cap, cur.setIfInBounds (p.length * 2) (.int .i64 k), by rw [hl, e1], hb, heap_setCell_same w g _ cur 28 _ hg, by rw [hl]; exact hcap, hmx, by simp [hcur], ?_⟩⟩, fun r hr => ?_⟩, hgr⟩
    · rw [recCells_len]
    · rw [hl, Array.toList_setIfInBounds, List.take_set, hx, recCells_set]
    · have hr' : w.ownsRow B 2 1 r.2.1 r.2.2.length (valsZ r.2.2) := by
        rcases List.mem_append.1 hr with hm | hm
        · exact h.each r (List.mem_append_left _ hm)
        · rcases List.mem_cons.1 hm with rfl | hm
          · exact h.each (a, u, zs) (by simp)
          · exact h.each r (by simp [hm])
      refine hr'.kept hgr ?_
      rcases own_ne hself hr' with h0 | h0
      · exact .inl h0
      · exact .inr h0
/-- One record's numbers are written. -/
theorem RecsB.nums {B : Nat} {w w' : World} {v : Value} {p q : RcL} {k : Int} {u : Value} {zs ys : List Int} (h : RecsB B w v (p ++ (k, u, zs) :: q)) (ha : ∀ r ∈ p ++ q, r.2.1.ownBlock = none ∨ r.2.1.ownBlock ≠ u.ownBlock)
    (hu : w'.ownsRow B 2 1 u ys.length (valsZ ys)) (hg : w.grownBy w' u.ownBlock) : RecsB B w' v (p ++ (k, u, ys) :: q) := by
  have hu0 := h.each (k, u, zs) (by simp)
  have hl : (p ++ (k, u, zs) :: q).length = (p ++ (k, u, ys) :: q).length := by simp
  refine ⟨?_, fun r hr => ?_⟩
  · have := h.row.kept hg ?_
    · rw [recCells_other p q k u zs ys, hl] at this; exact this
    · rcases own_ne h.row hu0 with h0 | h0
      · have h0' : u.ownBlock = none := h0
        rw [h0']
        rcases hv : v.ownBlock with _ | j
        · exact .inl rfl
        · exact .inr (by simp)
      · exact .inr (fun e => h0 e.symm)
  · rcases List.mem_append.1 hr with hm | hm
    · exact (h.each r (List.mem_append_left _ hm)).kept hg (ha r (List.mem_append_left _ hm))
    · rcases List.mem_cons.1 hm with rfl | hm
      · exact hu
      · exact (h.each r (by simp [hm])).kept hg (ha r (List.mem_append_right _ hm))
/-- The others' rows are not this one's. -/
theorem Apart.at {rs : RcL} (h : Apart rs) (i : Nat) (hi : i < rs.length) : ∀ r ∈ mkd 1 (rs.take i) ++ rs.drop (i + 1), r.2.1.ownBlock = none ∨ r.2.1.ownBlock ≠ rs[i].2.1.ownBlock := by
  intro r hr
  have e : rs = rs.take i ++ rs[i] :: rs.drop (i + 1) := by rw [← List.drop_eq_getElem_cons hi, List.take_append_drop]
  have h' : Apart (rs.take i ++ rs[i] :: rs.drop (i + 1)) := by rw [← e]; exact h
  unfold Apart at h'
  rw [List.pairwise_append] at h'
  obtain ⟨h1, h2, h3⟩ := h'
  rcases List.mem_append.1 hr with hm | hm
  · have : r.2.1 ∈ (mkd 1 (rs.take i)).map (fun r => r.2.1) := List.mem_map.2 ⟨r, hm, rfl⟩
    rw [mkd_blocks] at this
    obtain ⟨a, ha, ea⟩ := List.mem_map.1 this
    have := h3 a ha rs[i] List.mem_cons_self
    rwa [ea] at this
  · have := (List.pairwise_cons.1 h2).1 r hm
    rcases this with h0 | h0
    · rw [h0]
      rcases hv : r.2.1.ownBlock with _ | j
      · exact .inl rfl
      · exact .inr (by simp)
    · exact .inr (fun e => h0 e.symm)
theorem mkd_at (k : Int) (rs : RcL) (i : Nat) (h : i < rs.length) : ∃ h' : i < (mkd k rs).length, (mkd k rs)[i] = (tot k (rs.take i), rs[i].2.1, marks (tot k (rs.take i) + 1) rs[i].2.2.length) := by
  refine ⟨by rw [mkd_len]; exact h, ?_⟩
  induction rs generalizing k i with
  | nil => simp at h
  | cons x r ih =>
    obtain ⟨a, v, zs⟩ := x
    cases i with
    | zero => simp [mkd, tot]
    | succ i => simpa [mkd, tot] using ih (k + 1 + zs.length) i (by simpa using h)

end Go.Proofs.YtnkdkbchendpmaaDoor
