/-
  THE CLAUSES OF A TABLE, as lists: gathered by stations (the program) and by variables (the model): the same.
-/
import Derived.Test.YtdmfljejlhlbnaaUe
namespace Go.Proofs.Ytdmfljejlhlbnaa
open Go.RowKit
set_option linter.unusedVariables false

/-- A place and its variable. -/
abbrev LNb := LPl × Int
/-- Places numbered behind `last`. -/
def nbF (last : Int) : List LPl → List LNb
  | [] => []
  | x :: r => (x, last + 1) :: nbF (last + 1) r
theorem nbF_len (l : List LPl) : ∀ last, (nbF last l).length = l.length := by
  induction l with
  | nil => intro _; rfl
  | cons x r ih => intro last; simp [nbF, ih]
theorem nbF_append (a b : List LPl) : ∀ last, nbF last (a ++ b) = nbF last a ++ nbF (last + a.length) b := by
  induction a with
  | nil => intro last; simp [nbF]
  | cons x r ih => intro last; simp only [List.cons_append, nbF, ih, List.length_cons]; congr 3; omega
theorem nbF_fst (l : List LPl) : ∀ last, (nbF last l).map (fun e => e.1) = l := by
  induction l with
  | nil => intro _; rfl
  | cons x r ih => intro last; simp [nbF, ih]
theorem nbF_at (l : List LPl) : ∀ (last : Int) (k : Nat) (h : k < l.length), (nbF last l)[k]'(by rw [nbF_len]; exact h) = (l[k], last + k + 1) := by
  induction l with
  | nil => intro _ k h; simp at h
  | cons x r ih =>
    intro last k h
    cases k with
    | zero => simp [nbF]
    | succ k =>
      simp only [nbF, List.getElem_cons_succ]
      rw [ih (last + 1) k (by simpa using h)]
      congr 1; push_cast; omega
/-- Row by row. -/
def nbsF (last : Int) : List (List LPl) → List (List LNb)
  | [] => []
  | d :: r => nbF last d :: nbsF (last + d.length) r
theorem nbsF_len (ds : List (List LPl)) : ∀ last, (nbsF last ds).length = ds.length := by
  induction ds with
  | nil => intro _; rfl
  | cons d r ih => intro last; simp [nbsF, ih]
theorem nbsF_flat (ds : List (List LPl)) : ∀ last, (nbsF last ds).flatten = nbF last ds.flatten := by
  induction ds with
  | nil => intro _; rfl
  | cons d r ih => intro last; simp only [nbsF, List.flatten_cons, ih, nbF_append]
theorem nbsF_append (a b : List (List LPl)) : ∀ last, nbsF last (a ++ b) = nbsF last a ++ nbsF (last + a.flatten.length) b := by
  induction a with
  | nil => intro last; simp [nbsF]
  | cons x r ih => intro last; simp only [List.cons_append, nbsF, ih, List.flatten_cons, List.length_append]; congr 3; omega

/-- Each row is that of its id. -/
def OfIds (ids : List Int) (bs : List (List LNb)) : Prop := bs.length = ids.length ∧ ∀ k (h : k < ids.length) (g : k < bs.length), ∀ e ∈ bs[k], e.1.1 = ids[k]
theorem OfIds.tail {id : Int} {ids : List Int} {b : List LNb} {bs : List (List LNb)} (h : OfIds (id :: ids) (b :: bs)) : OfIds ids bs :=
  ⟨by simpa using h.1, fun k hk hg => h.2 (k + 1) (by simpa using hk) (by simpa using hg)⟩
theorem OfIds.head {id : Int} {ids : List Int} {b : List LNb} {bs : List (List LNb)} (h : OfIds (id :: ids) (b :: bs)) : ∀ e ∈ b, e.1.1 = id := by
  exact h.2 0 (by simp) (by simp)
def ofId (id : Int) (l : List LNb) : List LNb := l.filter fun e => decide (e.1.1 = id)
theorem ofId_append (id : Int) (a b : List LNb) : ofId id (a ++ b) = ofId id a ++ ofId id b := by simp [ofId]
theorem ofId_all {id : Int} {b : List LNb} (h : ∀ e ∈ b, e.1.1 = id) : ofId id b = b := by
  unfold ofId; rw [List.filter_eq_self]; intro e he; simp [h e he]
theorem ofId_none {id x : Int} {b : List LNb} (h : ∀ e ∈ b, e.1.1 = id) (hx : x ≠ id) : ofId x b = [] := by
  unfold ofId; rw [List.filter_eq_nil_iff]; intro e he; rw [h e he]; simp; exact fun e => hx e.symm
theorem ofId_out (x : Int) : ∀ (ids : List Int) (bs : List (List LNb)), OfIds ids bs → x ∉ ids → ofId x bs.flatten = [] := by
  intro ids
  induction ids with
  | nil =>
    intro bs h _
    have := h.1
    rw [List.length_nil] at this
    rw [List.eq_nil_of_length_eq_zero this]; rfl
  | cons id ids ih =>
    intro bs h hx
    cases bs with
    | nil => simp [ofId]
    | cons b bs =>
      simp at hx
      rw [List.flatten_cons, ofId_append, ofId_none h.head hx.1, ih bs h.tail hx.2]; rfl
theorem ofId_in : ∀ (ids : List Int) (bs : List (List LNb)), OfIds ids bs → ids.Nodup → ids.map (fun id => ofId id bs.flatten) = bs := by
  intro ids
  induction ids with
  | nil =>
    intro bs h _
    have := h.1
    rw [List.length_nil] at this
    rw [List.eq_nil_of_length_eq_zero this]; rfl
  | cons id ids ih =>
    intro bs h hn
    cases bs with
    | nil => have := h.1; simp at this
    | cons b bs =>
      have hn2 := List.nodup_cons.1 hn
      rw [List.map_cons, List.flatten_cons, ofId_append, ofId_all h.head, ofId_out id ids bs h.tail hn2.1, List.append_nil]
      congr 1
      rw [← ih bs h.tail hn2.2]
      refine List.map_congr_left fun x hx => ?_
      rw [ih bs h.tail hn2.2, ofId_append, ofId_none h.head (fun e => hn2.1 (e ▸ hx)), List.nil_append]
theorem ofId_at (ids : List Int) (bs : List (List LNb)) (h : OfIds ids bs) (hn : ids.Nodup) (k : Nat) (hk : k < ids.length) (hg : k < bs.length) : ofId ids[k] bs.flatten = bs[k] := by
  have := ofId_in ids bs h hn
  have e : (ids.map (fun id => ofId id bs.flatten))[k]'(by simpa using hk) = bs[k] := by simp only [this]
  simpa using e

/-- No two of a row. -/
def twoF : List Int → List (List Int)
  | [] => []
  | x :: r => r.map (fun y => [-x, -y]) ++ twoF r
/-- No two of one id. -/
def twoS : List LNb → List (List Int)
  | [] => []
  | x :: r => (ofId x.1.1 r).map (fun y => [-x.2, -y.2]) ++ twoS r
theorem twoS_row {id : Int} (rest : List LNb) (hr : ofId id rest = []) : ∀ (b : List LNb), (∀ e ∈ b, e.1.1 = id) → twoS (b ++ rest) = twoF (b.map fun e => e.2) ++ twoS rest := by
  intro b
  induction b with
  | nil => intro _; rfl
  | cons x b ih =>
    intro h
    have hx := h x (by simp)
    have hb : ∀ e ∈ b, e.1.1 = id := fun e he => h e (by simp [he])
    simp only [List.cons_append, twoS, List.map_cons, twoF, ih hb]
    rw [hx, ofId_append, ofId_all hb, hr, List.append_nil, List.map_map, List.append_assoc]
    rfl
theorem twoS_rows : ∀ (ids : List Int) (bs : List (List LNb)), OfIds ids bs → ids.Nodup → twoS bs.flatten = bs.flatMap fun b => twoF (b.map fun e => e.2) := by
  intro ids
  induction ids with
  | nil =>
    intro bs h _
    have := h.1
    rw [List.length_nil] at this
    rw [List.eq_nil_of_length_eq_zero this]; rfl
  | cons id ids ih =>
    intro bs h hn
    cases bs with
    | nil => rfl
    | cons b bs =>
      have hn2 := List.nodup_cons.1 hn
      rw [List.flatten_cons, twoS_row _ (ofId_out id ids bs h.tail hn2.1) b h.head, ih bs h.tail hn2.2]; rfl

/-- Those of two rows that may not stand beside each other. -/
def besF (ps : List LPr) (es bs : List LNb) : List (List Int) := es.flatMap fun x => bs.flatMap fun y => if mayL ps x.1.1 x.1.2 y.1.1 y.1.2 = true then [] else [[-x.2, -y.2]]
/-- One pair's, by the variables. -/
def besS (ps : List LPr) (l : List LNb) (p : LPr) : List (List Int) := l.flatMap fun x => l.flatMap fun y => if x.1.1 = p.1 ∧ y.1.1 = p.2.1 ∧ mayL ps p.1 x.1.2 p.2.1 y.1.2 = false then [[-x.2, -y.2]] else []
theorem flatMap_of (id : Int) (f : LNb → List (List Int)) : ∀ l : List LNb, (l.flatMap fun x => if x.1.1 = id then f x else []) = (ofId id l).flatMap f := by
  intro l
  induction l with
  | nil => rfl
  | cons x r ih =>
    rw [List.flatMap_cons, ih]
    by_cases h : x.1.1 = id
    · rw [if_pos h]; simp [ofId, h]
    · rw [if_neg h]; simp [ofId, h]
theorem flatMap_cong {α β : Type} {f g : α → List β} : ∀ l : List α, (∀ x ∈ l, f x = g x) → l.flatMap f = l.flatMap g := by
  intro l
  induction l with
  | nil => intro _; rfl
  | cons x r ih => intro h; rw [List.flatMap_cons, List.flatMap_cons, h x (by simp), ih (fun y hy => h y (by simp [hy]))]
theorem besS_is (ps : List LPr) (l : List LNb) (p : LPr) : besS ps l p = besF ps (ofId p.1 l) (ofId p.2.1 l) := by
  unfold besS besF
  rw [← flatMap_of p.1 (fun x => (ofId p.2.1 l).flatMap fun y => if mayL ps x.1.1 x.1.2 y.1.1 y.1.2 = true then [] else [[-x.2, -y.2]])]
  refine flatMap_cong l fun x hx => ?_
  clear hx
  by_cases h : x.1.1 = p.1
  · rw [if_pos h, ← flatMap_of p.2.1]
    refine flatMap_cong l fun y _ => ?_
    by_cases g : y.1.1 = p.2.1
    · rw [if_pos g, h, g]
      cases mayL ps p.1 x.1.2 p.2.1 y.1.2 <;> simp
    · rw [if_neg g, if_neg]; exact fun c => g c.2.1
  · rw [if_neg h]
    induction l with
    | nil => rfl
    | cons y r ih => rw [List.flatMap_cons, ih, if_neg (fun c => h c.1)]; rfl
/-- One pair's, by the rows. -/
noncomputable def besI (ps : List LPr) (ids : List Int) (bs : List (List LNb)) (p : LPr) : List (List Int) :=
  if p.1 ∈ ids ∧ p.2.1 ∈ ids then besF ps (bs.getD (ids.idxOf p.1) []) (bs.getD (ids.idxOf p.2.1) []) else []
theorem ofId_mem (ids : List Int) (bs : List (List LNb)) (h : OfIds ids bs) (hn : ids.Nodup) (x : Int) (hx : x ∈ ids) : ofId x bs.flatten = bs.getD (ids.idxOf x) [] := by
  have hk := List.idxOf_lt_length_iff.2 hx
  have hg : ids.idxOf x < bs.length := by rw [h.1]; exact hk
  have := ofId_at ids bs h hn (ids.idxOf x) hk hg
  rw [List.getElem_idxOf] at this
  rw [this]; simp [List.getD, hg]
theorem besI_is (ps : List LPr) (ids : List Int) (bs : List (List LNb)) (h : OfIds ids bs) (hn : ids.Nodup) (p : LPr) : besI ps ids bs p = besS ps bs.flatten p := by
  rw [besS_is]
  unfold besI
  by_cases h1 : p.1 ∈ ids
  · by_cases h2 : p.2.1 ∈ ids
    · rw [if_pos ⟨h1, h2⟩, ofId_mem ids bs h hn _ h1, ofId_mem ids bs h hn _ h2]
    · rw [if_neg (fun c => h2 c.2), ofId_out _ ids bs h h2]
      unfold besF
      induction ofId p.1 bs.flatten with
      | nil => rfl
      | cons x r ih => rw [List.flatMap_cons, ← ih]; rfl
  · rw [if_neg (fun c => h1 c.1), ofId_out _ ids bs h h1]; rfl

/-- The clauses, by the rows. -/
noncomputable def cnfI (ps : List LPr) (ids : List Int) (bs : List (List LNb)) : List (List Int) :=
  bs.map (fun b => b.map fun e => e.2) ++ (bs.flatMap (fun b => twoF (b.map fun e => e.2)) ++ ps.flatMap (besI ps ids bs))
/-- The clauses, by the variables. -/
def cnfS (ps : List LPr) (ids : List Int) (l : List LNb) : List (List Int) :=
  ids.map (fun id => (ofId id l).map fun e => e.2) ++ (twoS l ++ ps.flatMap (besS ps l))
theorem cnf_same (ps : List LPr) (ids : List Int) (bs : List (List LNb)) (h : OfIds ids bs) (hn : ids.Nodup) : cnfI ps ids bs = cnfS ps ids bs.flatten := by
  unfold cnfI cnfS
  rw [twoS_rows ids bs h hn, show besI ps ids bs = besS ps bs.flatten from funext (besI_is ps ids bs h hn)]
  congr 1
  conv => lhs; rw [← ofId_in ids bs h hn]
  rw [List.map_map]
  rfl

/-- The rows of choices. -/
theorem ofIds_ch (rs : List LSt) (top : Int) : ∀ (ids : List Int) (last : Int), OfIds ids (nbsF last (ids.map (chF rs top))) := by
  intro ids
  induction ids with
  | nil => intro last; exact ⟨rfl, fun k h => by simp at h⟩
  | cons id ids ih =>
    intro last
    rw [List.map_cons, nbsF]
    have t := ih (last + (chF rs top id).length)
    refine ⟨by simpa using t.1, fun k hk hg e he => ?_⟩
    cases k with
    | zero =>
      simp only [List.getElem_cons_zero] at he ⊢
      have : e.1 ∈ (nbF last (chF rs top id)).map (fun e => e.1) := List.mem_map.2 ⟨e, he, rfl⟩
      rw [nbF_fst] at this
      unfold chF at this
      obtain ⟨c, _, hc⟩ := List.mem_map.1 this
      rw [← hc]
    | succ k =>
      simp only [List.getElem_cons_succ] at he ⊢
      exact t.2 k (by simpa using hk) (by simpa using hg) e he
theorem cnf_both (rs : List LSt) (ps : List LPr) (top : Int) (ids : List Int) (hn : ids.Nodup) : cnfI ps ids (nbsF 0 (ids.map (chF rs top))) = cnfS ps ids (nbF 0 (plF rs top ids)) := by
  rw [cnf_same ps ids _ (ofIds_ch rs top ids 0) hn, nbsF_flat]
  congr 2
end Go.Proofs.Ytdmfljejlhlbnaa
