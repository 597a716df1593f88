/-
  THE SEARCH FOR A PLAN, as lists: by recursion (seek, tryL), and as the loop that goes back (unw, fin).
  THE LOOP THAT SEEKS A PLAN: impl.tryChoices.
  THE SEARCH FOR A PLAN AS THE MODEL MAKES IT: spec's from, by its depth.
  A PLAN IS SOUGHT: impl.PlanFind and spec.PlanFind.
  A PLAN IS SOUGHT: spec.PlanFind.
  WHAT A SEARCH ANSWERS IS HELD AGAINST ANOTHER, marked and held: eqPlanOut, markPlanOut, heldPlanOut.
-/
import Derived.Test.YtdmfljejlhlbnaaUa
import Derived.Test.YtdmfljejlhlbnaaPh
import Derived.Test.YtdmfljejlhlbnaaUc
import Derived.WalkMore
import Derived.Test.YtdmfljejlhlbnaaPi
import Derived.Test.YtdmfljejlhlbnaaUe
import Derived.Lib.AppendZeros
import Derived.Test.YtdmfljejlhlbnaaVk
namespace Go.Proofs.Ytdmfljejlhlbnaa
open Go.RowKit
set_option linter.unusedVariables false

/-- What a search ends with: a plan, nothing, or a budget that is used up; and the steps. -/
inductive SRes
  | found (p : List LPl) (s : Nat)
  | none (s : Nat)
  | out (s : Nat)

/-- The choices xs of one station, one by one; k: the search behind it. -/
def tryL (f : List LPl → LPl → Bool) (bud : Nat) (k : List LPl → Nat → SRes) : List LPl → List LPl → Nat → SRes
  | [], _, s => .none s
  | x :: xs, pl, s => if s = bud then .out s else if f pl x = true then (match k (pl ++ [x]) (s + 1) with | .none s' => tryL f bud k xs pl s' | r => r) else tryL f bud k xs pl (s + 1)
/-- The search over the stations' choices. -/
def seek (f : List LPl → LPl → Bool) (bud : Nat) : List (List LPl) → List LPl → Nat → SRes
  | [], pl, s => .found pl s
  | c :: cs, pl, s => tryL f bud (seek f bud cs) c pl s
/-- What the whole search ends with, if the search behind the first n stations ends with r. -/
def unw (f : List LPl → LPl → Bool) (bud : Nat) (C : List (List LPl)) (tr : List Nat) : Nat → List LPl → SRes → SRes
  | 0, _, r => r
  | n + 1, pl, .none s => unw f bud C tr n (pl.take n) (tryL f bud (seek f bud (C.drop (n + 1))) ((C.getD n []).drop (tr.getD n 0)) (pl.take n) s)
  | _ + 1, _, r => r
/-- What the choices from tr on of the station behind pl end with. -/
def locR (f : List LPl → LPl → Bool) (bud : Nat) (C : List (List LPl)) (t : Nat) (pl : List LPl) (s : Nat) : SRes :=
  if pl.length < C.length then tryL f bud (seek f bud (C.drop (pl.length + 1))) ((C.getD pl.length []).drop t) pl s else .found pl s
def finR (f : List LPl → LPl → Bool) (bud : Nat) (C : List (List LPl)) (tr : List Nat) (pl : List LPl) (s : Nat) : SRes :=
  unw f bud C tr pl.length pl (locR f bud C (tr.getD pl.length 0) pl s)

variable (f : List LPl → LPl → Bool) (bud : Nat) (C : List (List LPl))

theorem try_end (k : List LPl → Nat → SRes) (c pl : List LPl) (i s : Nat) (h : c.length ≤ i) : tryL f bud k (c.drop i) pl s = .none s := by
  rw [List.drop_eq_nil_of_le h]; rfl
theorem try_out (k : List LPl → Nat → SRes) (c pl : List LPl) (i : Nat) (h : i < c.length) : tryL f bud k (c.drop i) pl bud = .out bud := by
  rw [List.drop_eq_getElem_cons h, tryL, if_pos rfl]
theorem try_no (k : List LPl → Nat → SRes) (c pl : List LPl) (i s : Nat) (h : i < c.length) (hs : s ≠ bud) (hf : f pl c[i] = false) : tryL f bud k (c.drop i) pl s = tryL f bud k (c.drop (i + 1)) pl (s + 1) := by
  rw [List.drop_eq_getElem_cons h, tryL, if_neg hs, hf]; rfl
theorem try_yes (k : List LPl → Nat → SRes) (c pl : List LPl) (i s : Nat) (h : i < c.length) (hs : s ≠ bud) (hf : f pl c[i] = true) : tryL f bud k (c.drop i) pl s = (match k (pl ++ [c[i]]) (s + 1) with | .none s' => tryL f bud k (c.drop (i + 1)) pl s' | r => r) := by
  rw [List.drop_eq_getElem_cons h, tryL, if_neg hs, if_pos hf]

/-- The steps of an end. -/
def SRes.st : SRes → Nat
  | .found _ s => s
  | .none s => s
  | .out s => s
theorem tryL_le (k : List LPl → Nat → SRes) (hk : ∀ pl s, s ≤ bud → s ≤ (k pl s).st ∧ (k pl s).st ≤ bud) : ∀ (xs pl : List LPl) (s : Nat), s ≤ bud → s ≤ (tryL f bud k xs pl s).st ∧ (tryL f bud k xs pl s).st ≤ bud := by
  intro xs
  induction xs with
  | nil => intro pl s h; exact ⟨Nat.le_refl _, h⟩
  | cons x xs ih =>
    intro pl s h
    rw [tryL]
    by_cases e : s = bud
    · rw [if_pos e]; exact ⟨Nat.le_refl _, h⟩
    · rw [if_neg e]
      cases hf : f pl x with
      | true =>
        rw [if_pos rfl]
        have hk1 := hk (pl ++ [x]) (s + 1) (by omega)
        generalize k (pl ++ [x]) (s + 1) = r at *
        cases r with
        | none s' =>
          have := ih pl s' hk1.2
          have h1 : s + 1 ≤ s' := hk1.1
          exact ⟨by show s ≤ (tryL f bud k xs pl s').st; have := this.1; omega, this.2⟩
        | found p s' => have h1 : s + 1 ≤ s' := hk1.1; exact ⟨by show s ≤ s'; omega, hk1.2⟩
        | out s' => have h1 : s + 1 ≤ s' := hk1.1; exact ⟨by show s ≤ s'; omega, hk1.2⟩
      | false =>
        rw [if_neg (by simp)]
        have := ih pl (s + 1) (by omega)
        exact ⟨by omega, this.2⟩
theorem seek_le : ∀ (cs : List (List LPl)) (pl : List LPl) (s : Nat), s ≤ bud → s ≤ (seek f bud cs pl s).st ∧ (seek f bud cs pl s).st ≤ bud := by
  intro cs
  induction cs with
  | nil => intro pl s h; exact ⟨Nat.le_refl _, h⟩
  | cons c cs ih => intro pl s h; exact tryL_le f bud _ ih c pl s h

/-- A found plan has a place of each station: as many as there are. -/
theorem tryL_len (k : List LPl → Nat → SRes) (n : Nat) (hk : ∀ pl s p t, k pl s = .found p t → p.length = pl.length + n) : ∀ (xs pl : List LPl) (s : Nat) (p : List LPl) (t : Nat), tryL f bud k xs pl s = .found p t → p.length = pl.length + (n + 1) := by
  intro xs
  induction xs with
  | nil => intro pl s p t h; simp [tryL] at h
  | cons x xs ih =>
    intro pl s p t h
    rw [tryL] at h
    by_cases e : s = bud
    · rw [if_pos e] at h; simp at h
    · rw [if_neg e] at h
      cases hf : f pl x with
      | true =>
        rw [hf, if_pos rfl] at h
        have hk1 := hk (pl ++ [x]) (s + 1)
        generalize k (pl ++ [x]) (s + 1) = r at *
        cases r with
        | none s' => exact ih pl s' p t h
        | found q s' =>
          have := hk1 q s' rfl
          simp only [SRes.found.injEq] at h
          rw [← h.1, this]; simp; omega
        | out s' => simp at h
      | false =>
        rw [hf, if_neg (by simp)] at h
        exact ih pl (s + 1) p t h
theorem seek_len : ∀ (cs : List (List LPl)) (pl : List LPl) (s : Nat) (p : List LPl) (t : Nat), seek f bud cs pl s = .found p t → p.length = pl.length + cs.length := by
  intro cs
  induction cs with
  | nil => intro pl s p t h; simp only [seek, SRes.found.injEq] at h; rw [← h.1]; rfl
  | cons c cs ih => intro pl s p t h; exact tryL_len f bud _ cs.length ih c pl s p t h

theorem unw_found (tr : List Nat) (n : Nat) (pl p : List LPl) (s : Nat) : unw f bud C tr n pl (.found p s) = .found p s := by cases n <;> rfl
theorem unw_out (tr : List Nat) (n : Nat) (pl : List LPl) (s : Nat) : unw f bud C tr n pl (.out s) = .out s := by cases n <;> rfl
theorem unw_congr (tr tr' : List Nat) : ∀ (n : Nat) (pl : List LPl) (r : SRes), (∀ j, j < n → tr.getD j 0 = tr'.getD j 0) → unw f bud C tr n pl r = unw f bud C tr' n pl r := by
  intro n
  induction n with
  | zero => intro pl r h; rfl
  | succ n ih =>
    intro pl r h
    cases r with
    | none s =>
      rw [unw, unw, h n (by omega)]
      exact ih _ _ (fun j hj => h j (by omega))
    | found p s => rfl
    | out s => rfl

/-- The search from the start. -/
theorem fin_start (tr : List Nat) (h : tr.getD 0 0 = 0) : finR f bud C tr [] 0 = seek f bud C [] 0 := by
  unfold finR locR
  cases C with
  | nil => rfl
  | cons c cs =>
    rw [if_pos (by simp)]
    show tryL f bud (seek f bud cs) (List.drop (tr.getD 0 0) c) [] 0 = tryL f bud (seek f bud cs) c [] 0
    rw [h]; rfl
/-- All stations have a place. -/
theorem fin_yes (tr : List Nat) (pl : List LPl) (s : Nat) (h : C.length ≤ pl.length) : finR f bud C tr pl s = .found pl s := by
  unfold finR locR
  rw [if_neg (by omega), unw_found]
/-- The budget is used up. -/
theorem fin_out (tr : List Nat) (pl : List LPl) (h : pl.length < C.length) (ht : tr.getD pl.length 0 < (C.getD pl.length []).length) : finR f bud C tr pl bud = .out bud := by
  unfold finR locR
  rw [if_pos h, try_out f bud _ _ _ _ ht, unw_out]
/-- One that does not fit. -/
theorem fin_no (tr tr' : List Nat) (pl : List LPl) (s : Nat) (h : pl.length < C.length) (hs : s ≠ bud) (ht : tr.getD pl.length 0 < (C.getD pl.length []).length) (hf : f pl ((C.getD pl.length [])[tr.getD pl.length 0]) = false)
    (h1 : ∀ j, j < pl.length → tr.getD j 0 = tr'.getD j 0) (h2 : tr'.getD pl.length 0 = tr.getD pl.length 0 + 1) : finR f bud C tr pl s = finR f bud C tr' pl (s + 1) := by
  unfold finR locR
  rw [if_pos h, if_pos h, try_no f bud _ _ _ _ _ ht hs hf, h2]
  exact unw_congr f bud C tr tr' _ _ _ h1
/-- One that fits. -/
theorem fin_put (tr tr' : List Nat) (pl : List LPl) (s : Nat) (h : pl.length < C.length) (hs : s ≠ bud) (ht : tr.getD pl.length 0 < (C.getD pl.length []).length) (hf : f pl ((C.getD pl.length [])[tr.getD pl.length 0]) = true)
    (h1 : ∀ j, j < pl.length → tr.getD j 0 = tr'.getD j 0) (h2 : tr'.getD pl.length 0 = tr.getD pl.length 0 + 1) (h3 : tr'.getD (pl.length + 1) 0 = 0) : finR f bud C tr pl s = finR f bud C tr' (pl ++ [(C.getD pl.length [])[tr.getD pl.length 0]]) (s + 1) := by
  generalize hx : (C.getD pl.length [])[tr.getD pl.length 0] = x at *
  have e1 : finR f bud C tr' (pl ++ [x]) (s + 1) = unw f bud C tr' (pl.length + 1) (pl ++ [x]) (seek f bud (C.drop (pl.length + 1)) (pl ++ [x]) (s + 1)) := by
    unfold finR locR
    rw [List.length_append, List.length_singleton, h3, List.drop_zero]
    by_cases g : pl.length + 1 < C.length
    · rw [if_pos g, List.drop_eq_getElem_cons g, seek]
      simp [g]
    · rw [if_neg g, List.drop_eq_nil_of_le (by omega), seek]
  rw [e1]
  unfold finR locR
  rw [if_pos h, try_yes f bud _ _ _ _ _ ht hs (by rw [hx]; exact hf), hx]
  generalize seek f bud (C.drop (pl.length + 1)) (pl ++ [x]) (s + 1) = r
  cases r with
  | none s' =>
    rw [unw, List.take_left, h2]
    exact unw_congr f bud C tr tr' _ _ _ h1
  | found p s' => rw [unw_found, unw_found]
  | out s' => rw [unw_out, unw_out]
/-- None is left at the first station. -/
theorem fin_none (tr : List Nat) (s : Nat) (h : 0 < C.length) (ht : (C.getD 0 []).length ≤ tr.getD 0 0) : finR f bud C tr [] s = .none s := by
  unfold finR locR
  rw [if_pos (by simpa using h)]
  show unw f bud C tr 0 [] (tryL f bud _ (List.drop (tr.getD 0 0) (C.getD 0 [])) [] s) = _
  rw [try_end f bud _ _ _ _ _ ht]
  rfl
/-- None is left at a later one: the one ahead goes on. -/
theorem fin_back (tr tr' : List Nat) (pl : List LPl) (s n : Nat) (hn : pl.length = n + 1) (h : pl.length < C.length) (ht : (C.getD pl.length []).length ≤ tr.getD pl.length 0) (h1 : ∀ j, j < pl.length → tr.getD j 0 = tr'.getD j 0) : finR f bud C tr pl s = finR f bud C tr' (pl.take n) s := by
  have e1 : finR f bud C tr' (pl.take n) s = unw f bud C tr' n (pl.take n) (tryL f bud (seek f bud (C.drop (n + 1))) ((C.getD n []).drop (tr'.getD n 0)) (pl.take n) s) := by
    unfold finR locR
    rw [List.length_take, Nat.min_eq_left (by omega), if_pos (by omega)]
  rw [e1]
  unfold finR locR
  rw [if_pos h, try_end f bud _ _ _ _ _ ht, hn, unw, h1 n (by omega)]
  exact unw_congr f bud C tr tr' _ _ _ (fun j hj => h1 j (by omega))

end Go.Proofs.Ytdmfljejlhlbnaa
namespace Go.Proofs.Ytdmfljejlhlbnaa
open Go.RowKit
set_option linter.unusedVariables false

def SRes.vd : SRes → Int
  | .found _ _ => 1
  | .none _ => 2
  | .out _ => 3
def SRes.pl : SRes → List LPl
  | .found p _ => p
  | .none _ => []
  | .out _ => []
/-- What has been tried, station by station. -/
def natV (tr : List Nat) : Array Value := (tr.map fun (n : Nat) => Value.int .i64 (n : Int)).toArray
def TrAt (w : World) (b : Nat) (tr : List Nat) : Prop := w.heap[b]? = some (.cells (natV tr) 3)
theorem TrAt.lt {w : World} {b : Nat} {tr : List Nat} (h : TrAt w b tr) : b < w.heap.size := (Array.getElem?_eq_some_iff.1 h).1
theorem TrAt.cell {w : World} {b : Nat} {tr : List Nat} (h : TrAt w b tr) (i : Nat) (hi : i < tr.length) : w.cell? ⟨b, i, none⟩ = some (.int .i64 ((tr.getD i 0 : Nat) : Int)) := by
  unfold TrAt at h; simp [World.cell?, h, natV, hi]
theorem TrAt.frozen {w : World} {b : Nat} {tr : List Nat} (h : TrAt w b tr) (i : Nat) : w.frozen? ⟨b, i, none⟩ = false := by
  unfold TrAt at h; simp [World.frozen?, h]
theorem natV_set (tr : List Nat) (i m : Nat) : (natV tr).setIfInBounds i (.int .i64 (m : Int)) = natV (tr.set i m) := by
  unfold natV
  rw [List.setIfInBounds_toArray, ← List.map_set (f := fun (n : Nat) => Value.int .i64 (n : Int))]
theorem TrAt.set {w : World} {b : Nat} {tr : List Nat} (h : TrAt w b tr) (i m : Nat) : TrAt (w.setCell ⟨b, i, none⟩ (.int .i64 (m : Int))) b (tr.set i m) := by
  have := heap_setCell_same w b i (natV tr) 3 (.int .i64 (m : Int)) h
  rwa [natV_set] at this
theorem TrAt.of {w w' : World} {b : Nat} {tr : List Nat} (h : TrAt w b tr) (e : w'.heap[b]? = w.heap[b]?) : TrAt w' b tr := e.trans h
theorem set_same (tr : List Nat) (i m : Nat) (h : i < tr.length) : (tr.set i m).getD i 0 = m := by simp [h]
theorem set_other (tr : List Nat) (i m j : Nat) (h : i ≠ j) : (tr.set i m).getD j 0 = tr.getD j 0 := by simp [h]
theorem rep_zero (n j : Nat) : (List.replicate n 0).getD j 0 = 0 := by
  rw [List.getD_eq_getElem?_getD, List.getElem?_replicate]
  split <;> rfl
theorem info3 : (Try.prog.info? 3).map (fun i => (i.zero, i.size, i.bytes)) = some (some (.int .i64 0), 1, 8) := by kernel_rfl
theorem makeI (n : Nat) (h : n ≤ 1048576) (w : World) :
    Sem.run Try.prog (Instr.makeSlice 172 (.int .i64 (n : Int)) (.int .i64 (n : Int))) w = .ok (.slice (some ⟨w.heap.size, 0, none⟩) n n) (w.alloc (.cells (natV (List.replicate n 0)) 3)) := by
  obtain ⟨i, h1, h2, h3, h4⟩ := info_parts info3
  have := run_make (P := Try.prog) w 172 3 i _ Try.underlying172 h1 h2 .i64 .i64 (n : Int) (n : Int) (by omega) (Int.le_refl _) (by rw [h4]; omega) (by omega)
  rw [this, h3]
  have e : madeCells #[Value.int .i64 0] n = natV (List.replicate n 0) := by
    apply Array.toList_inj.1
    rw [toList_madeCells_one]
    simp [natV]
  rw [← e]
  simp [Value.cells]
/-- The answer's own block, as it is laid. -/
def BoxP (w : World) (b : Nat) : Prop := w.heap[b]? = some (.cells #[.int .i64 0, .slice none 0 0, .int .i64 0, .int .i64 0] 70)
theorem BoxP.facts {w : World} {b : Nat} (h : BoxP w b) : b < w.heap.size ∧ w.cell? ⟨b, 0, none⟩ = some (.int .i64 0) ∧ w.cell? ⟨b, 1, none⟩ = some (.slice none 0 0) ∧ w.cell? ⟨b, 2, none⟩ = some (.int .i64 0) ∧ w.cell? ⟨b, 3, none⟩ = some (.int .i64 0) ∧ w.frozen? ⟨b, 0, none⟩ = false ∧ w.frozen? ⟨b, 1, none⟩ = false ∧ w.frozen? ⟨b, 2, none⟩ = false ∧ w.frozen? ⟨b, 3, none⟩ = false := by
  unfold BoxP at h
  exact ⟨(Array.getElem?_eq_some_iff.1 h).1, by simp [World.cell?, h], by simp [World.cell?, h], by simp [World.cell?, h], by simp [World.cell?, h], by simp [World.frozen?, h], by simp [World.frozen?, h], by simp [World.frozen?, h], by simp [World.frozen?, h]⟩
def set4 (w : World) (b : Nat) (v0 v1 v2 v3 : Value) : World := (((w.setCell ⟨b, 0, none⟩ v0).setCell ⟨b, 1, none⟩ v1).setCell ⟨b, 2, none⟩ v2).setCell ⟨b, 3, none⟩ v3
theorem set4_below {W w : World} {n b : Nat} (h : Below n W w) (hb : n ≤ b) (v0 v1 v2 v3 : Value) : Below n W (set4 w b v0 v1 v2 v3) :=
  (((h.setCell (p := ⟨b, 0, none⟩) hb v0).setCell (p := ⟨b, 1, none⟩) hb v1).setCell (p := ⟨b, 2, none⟩) hb v2).setCell (p := ⟨b, 3, none⟩) hb v3
theorem own_set4 {w : World} {B : Nat} {e : TypeId} {m : Nat} {v : Value} {n : Nat} {xs : List Value} (h : w.ownsRow B e m v n xs) {b : Nat} (hb : v.ownBlock ≠ some b) (v0 v1 v2 v3 : Value) : (set4 w b v0 v1 v2 v3).ownsRow B e m v n xs :=
  own_set (own_set (own_set (own_set h hb 0 v0) hb 1 v1) hb 2 v2) hb 3 v3
/-- A row cut behind its first k. -/
theorem own_cut {w : World} {B : Nat} {sl : Option Addr} {cap : Nat} {pl : List LPl} (k : Nat) (h : w.ownsRow B 34 2 (.slice sl pl.length cap) pl.length (enCells pl)) (hk : k < pl.length) : w.ownsRow B 34 2 (.slice sl k cap) k (enCells (pl.take k)) := by
  have e : enCells (pl.take k) = (enCells pl).take (k * 2) := by
    have e2 := enCells_app (pl.take k) (pl.drop k)
    rw [List.take_append_drop] at e2
    have hl : (enCells (pl.take k)).length = k * 2 := by rw [enCells_len, List.length_take, Nat.min_eq_left (by omega)]
    rw [e2, ← hl, List.take_left]
  refine ⟨by rw [enCells_len, List.length_take, Nat.min_eq_left (by omega)], ?_⟩
  rcases h.2 with ⟨hv, h0⟩ | ⟨g, cp, cur, hv, hb, hg, h1, h2, h3, h4⟩
  · omega
  · cases hv
    refine .inr ⟨g, cap, cur, rfl, hb, hg, by omega, h2, h3, ?_⟩
    rw [e, ← h4, List.take_take, Nat.min_eq_left (by omega)]
/-- What the row of station j is. -/
def RowsOf (w : World) (b n : Nat) (C : List (List LPl)) : Prop := ∀ j, j < n → ∃ rsl rcap cs, C.getD j [] = cs ∧ b < w.heap.size ∧ w.cell? ⟨b, j, none⟩ = some (.slice rsl cs.length rcap) ∧ Pls w rsl cs ∧ cs.length ≤ 96 ∧ ∀ x ∈ cs, Small x
theorem rows_of {w : World} {b : Nat} {rows : List LRow} (hr : Rws w (some ⟨b, 0, none⟩) rows) (hs : ∀ r ∈ rows, r.2.length ≤ 96 ∧ ∀ x ∈ r.2, Small x) : RowsOf w b rows.length (rows.map fun r => r.2) := by
  intro j hj
  obtain ⟨rsl, rcap, re, rp⟩ := hr.each rows[j] (List.getElem_mem hj)
  obtain ⟨h1, h2⟩ := hs rows[j] (List.getElem_mem hj)
  rcases hr.row with h | ⟨c, e, hc, hh⟩
  · rw [h] at hj; simp at hj
  · cases e
    exact ⟨rsl, rcap, rows[j].2, by simp [hj], hc, by rw [hh j hj, re], rp, h1, h2⟩
def lenV : Value → Nat
  | .slice _ n _ => n
  | _ => 0

set_option maxRecDepth 100000 in
set_option maxHeartbeats 4000000 in
/-- impl.tryChoices. -/
theorem tc_any (b : Nat) (rows : List LRow) (kb : Nat) (ps : List LPr) (bud : Nat) (w : World) (hn : rows.length ≤ 400) (hbu : bud ≤ 2000) (hr : Rws w (some ⟨b, 0, none⟩) rows) (hf : FitsAt w kb ps) (hw : ∀ p ∈ ps, WfP p) (hs : ∀ r ∈ rows, r.2.length ≤ 96 ∧ ∀ x ∈ r.2, Small x) :
    Calls Try.prog 112 #[.slice (some ⟨b, 0, none⟩) rows.length rows.length, FV kb, .int .i64 (bud : Nat)] w fun e w' => ∃ pv, e = .returned (.agg #[.int .i64 (seek (fitB ps) bud (rows.map (fun r => r.2)) [] 0).vd, pv, .int .i64 ((seek (fitB ps) bud (rows.map (fun r => r.2)) [] 0).st : Nat), .int .i64 0]) ∧ w'.ownsRow w.heap.size 34 2 pv (seek (fitB ps) bud (rows.map (fun r => r.2)) [] 0).pl.length (enCells (seek (fitB ps) bud (rows.map (fun r => r.2)) [] 0).pl) ∧ Below w.heap.size w w' := by
  obtain ⟨i3, hi3, hd0, hd1, hd2⟩ := info_parts info34
  generalize hR : seek (fitB ps) bud (rows.map (fun r => r.2)) [] 0 = R
  have HR := Lib.hid (rows_of hr hs)
  have CL := Lib.hid (show (rows.map (fun r => r.2)).length = rows.length from List.length_map _)
  generalize hC : rows.map (fun r => r.2) = C at *
  have hmk := makeI rows.length (by omega)
  have HF := Lib.hid hf
  have F0 : Hid (finR (fitB ps) bud C (List.replicate rows.length 0) [] 0 = R) := by
    show finR _ _ _ _ _ _ = R
    rw [fin_start _ _ _ _ (rep_zero _ _), hR]
  have HW := Lib.hid hw
  clear hr hf hs hw hR hC
  generalize rows.length = n at *
  clear rows
  have B0 := Lib.hid (bA (bA0 w (.cells #[.int .i64 0, .slice none 0 0, .int .i64 0, .int .i64 0] 70)) (.cells (natV (List.replicate n 0)) 3))
  have X0 : Hid (BoxP ((w.alloc (.cells #[.int .i64 0, .slice none 0 0, .int .i64 0, .int .i64 0] 70)).alloc (.cells (natV (List.replicate n 0)) 3)) w.heap.size) := ((bA0 (w.alloc (.cells #[.int .i64 0, .slice none 0 0, .int .i64 0, .int .i64 0] 70)) (.cells (natV (List.replicate n 0)) 3)).block w.heap.size (by simp)).trans (new_at _ _)
  have T0 : Hid (TrAt ((w.alloc (.cells #[.int .i64 0, .slice none 0 0, .int .i64 0, .int .i64 0] 70)).alloc (.cells (natV (List.replicate n 0)) 3)) (w.heap.size + 1) (List.replicate n 0)) := by
    have := new_at (w.alloc (.cells #[.int .i64 0, .slice none 0 0, .int .i64 0, .int .i64 0] 70)) (.cells (natV (List.replicate n 0)) 3)
    rwa [show (w.alloc (.cells #[.int .i64 0, .slice none 0 0, .int .i64 0, .int .i64 0] 70)).heap.size = w.heap.size + 1 by simp] at this
  go_enter Try.func112, Try.ntmps112
  go_wp2
  go_step3
  go_wp2
  go_step3
  go_wp2
  generalize (w.alloc (.cells #[.int .i64 0, .slice none 0 0, .int .i64 0, .int .i64 0] 70)).alloc (.cells (natV (List.replicate n 0)) 3) = w0 at *
  go_loopw [7, 9] (fun v i wr => ∃ (pl : List LPl) (s : Nat) (tr : List Nat), i = .int .i64 s ∧ s ≤ bud ∧ pl.length ≤ n ∧ Hid (tr.length = n) ∧ Hid (finR (fitB ps) bud C tr pl s = R) ∧ Hid (∀ j, pl.length < j → tr.getD j 0 = 0) ∧ Hid (∀ x ∈ pl, Small x) ∧ Hid (BoxP wr w.heap.size) ∧ Hid (TrAt wr (w.heap.size + 1) tr) ∧ Hid (wr.ownsRow (w.heap.size + 2) 34 2 v pl.length (enCells pl)) ∧ Hid (Below w.heap.size w wr)) (fun v i _ => (bud - (intOf i).toNat) * (n + 2) + lenV v)
  case atStart => exact ⟨[], 0, List.replicate n 0, rfl, Nat.zero_le _, Nat.zero_le _, List.length_replicate, F0, (fun j _ => rep_zero n j), (fun x hx => by cases hx), X0, T0, ⟨rfl, .inl ⟨rfl, rfl⟩⟩, B0⟩
  case round =>
    obtain ⟨pl, s, tr, rfl, hsb, hpl, HTL, HFI, HZE, HSM, XB, TB, OR, HB⟩ := hrel
    obtain ⟨vsl, vcap, rfl⟩ := own_v OR.out
    generalize hM : pl.length = m at *
    have HM := Lib.hid hM
    clear hM
    by_cases g1 : m < n
    · have g1' : (m : Int) < (n : Int) := by omega
      obtain ⟨rsl, rcap, cs, cm, rc1, rc2, rp, r96, rsm⟩ := HR.out m g1
      have RC := Lib.hid (And.intro rc1 rc2)
      have CM := Lib.hid cm
      have RP := Lib.hid rp
      have RS := Lib.hid rsm
      clear cm rc1 rc2 rp rsm
      generalize hRL : cs.length = rl at *
      have HRL := Lib.hid hRL
      clear hRL
      go_wp2_with fail
      go_loopw [7, 9] (fun v i wq => ∃ (s' : Nat) (tr' : List Nat), v = .slice vsl m vcap ∧ i = .int .i64 s' ∧ s ≤ s' ∧ s' ≤ bud ∧ Hid (tr'.length = n) ∧ Hid (finR (fitB ps) bud C tr' pl s' = R) ∧ Hid (∀ j, m < j → tr'.getD j 0 = 0) ∧ Hid (BoxP wq w.heap.size) ∧ Hid (TrAt wq (w.heap.size + 1) tr') ∧ Hid (wq.ownsRow (w.heap.size + 2) 34 2 (.slice vsl m vcap) m (enCells pl)) ∧ Hid (Below w.heap.size w wq)) (fun _ i _ => bud - (intOf i).toNat)
      case atStart => exact ⟨s, tr, rfl, rfl, Nat.le_refl _, hsb, HTL, HFI, HZE, XB, TB, OR, HB⟩
      case round =>
        clear XB TB OR HB HFI HZE HTL
        obtain ⟨s', tr', rfl, rfl, hss, hsb', HTL, HFI, HZE, XB, TB, OR, HB⟩ := hrel
        generalize hT : tr'.getD m 0 = t
        have HT := Lib.hid hT
        clear hT
        have tc : wr.cell? ⟨w.heap.size + 1, m, none⟩ = some (.int .i64 (t : Nat)) := by
          have := TB.out.cell m (by rw [HTL.out]; exact g1)
          rwa [HT.out] at this
        have hrc : wr.cell? ⟨b, m, none⟩ = some (.slice rsl rl rcap) := (HB.out.cell RC.out.1).trans RC.out.2
        have K6 : Hid (w.heap.size + 1 < wr.heap.size ∧ b < wr.heap.size ∧ wr.cell? ⟨w.heap.size + 1, m, none⟩ = some (.int .i64 (t : Nat)) ∧ wr.cell? ⟨b, m, none⟩ = some (.slice rsl rl rcap)) := ⟨TB.out.lt, Nat.lt_of_lt_of_le RC.out.1 HB.out.size, tc, hrc⟩
        have htl := TB.out.lt
        have hbl : b < wr.heap.size := Nat.lt_of_lt_of_le RC.out.1 HB.out.size
        have ht0 : (0 : Int) ≤ (t : Int) := by omega
        have hm0 : (0 : Int) ≤ (m : Int) := by omega
        have HS2 := HB.out.size
        by_cases g2 : t < rl
        · have g2' : (t : Int) < (rl : Int) := by omega
          by_cases g3 : s' = bud
          · have RO : Hid (R = .out bud) := by
              show R = _
              rw [← HFI.out, g3]
              exact fin_out _ _ _ _ _ (by rw [HM.out, CL.out]; exact g1) (by rw [HM.out, HT.out, CM.out, HRL.out]; exact g2)
            have g3' : (s' : Int) = (bud : Int) := by omega
            obtain ⟨xl, r0, r1, r2, r3, f0, f1, f2, f3⟩ := BoxP.facts XB.out
            have P : Hid (Below w.heap.size w (set4 wr.drew w.heap.size (.int .i64 3) (.slice none 0 0) (.int .i64 (bud : Nat)) (.int .i64 0))) := set4_below HB.out.drew (Nat.le_refl _) _ _ _ _
            unfold set4 at P
            subst g3
            clear XB TB OR HFI HZE HTL HT CM RP RS RC
            go_wp2_with fail
            refine wp_region_held_drew (S := fun W => w.heap.size + 1 < W.heap.size ∧ b < W.heap.size ∧ W.cell? ⟨w.heap.size + 1, m, none⟩ = some (.int .i64 (t : Nat)) ∧ W.cell? ⟨b, m, none⟩ = some (.slice rsl rl rcap)) (by kernel_rfl) ?_ (fun hHeld => ?_)
            · exact K6.out
            refine wpAnyH_take (i := 0) (oi := _) (v := ?_) rfl (by kernel_rfl) (by kernel_rfl) (by kernel_rfl) (fun _ _ _ h => h) (Or.inl ⟨by rfl, ?_⟩) (by assumption) ?_
            rotate_left
            · first | (intro w hSw; (try dsimp only at hSw); go_simp; done) | (intro w hSw; (try dsimp only at hSw); go_simp; with_reducible rfl)
            try simp only [Act.put, List.setIfInBounds_toArray, List.set_cons_zero, List.set_cons_succ, List.getElem_toArray, List.getElem_cons_zero]
            refine wpAnyH_take (i := 1) (oi := _) (v := ?_) rfl (by kernel_rfl) (by kernel_rfl) (by kernel_rfl) (fun _ _ _ h => h) (Or.inl ⟨by rfl, ?_⟩) (by assumption) ?_
            rotate_left
            · first | (intro w hSw; (try dsimp only at hSw); go_simp; done) | (intro w hSw; (try dsimp only at hSw); go_simp; with_reducible rfl)
            try simp only [Act.put, List.setIfInBounds_toArray, List.set_cons_zero, List.set_cons_succ, List.getElem_toArray, List.getElem_cons_succ, List.getElem_cons_zero]
            refine wpAnyH_take (i := 2) (oi := _) (v := ?_) rfl (by kernel_rfl) (by kernel_rfl) (by kernel_rfl) (fun _ _ _ h => h) (Or.inl ⟨by rfl, ?_⟩) (by assumption) ?_
            rotate_left
            · first | (intro w hSw; (try dsimp only at hSw); go_simp; done) | (intro w hSw; (try dsimp only at hSw); go_simp; with_reducible rfl)
            try simp only [Act.put, List.setIfInBounds_toArray, List.set_cons_zero, List.set_cons_succ, List.getElem_toArray, List.getElem_cons_succ, List.getElem_cons_zero]
            refine wpAnyH_take (i := 3) (oi := _) (v := ?_) rfl (by kernel_rfl) (by kernel_rfl) (by kernel_rfl) (fun _ _ _ h => h) (Or.inl ⟨by rfl, ?_⟩) (by assumption) ?_
            rotate_left
            · first | (intro w hSw; (try dsimp only at hSw); go_simp; done) | (intro w hSw; (try dsimp only at hSw); go_simp; with_reducible rfl)
            try simp only [Act.put, List.setIfInBounds_toArray, List.set_cons_zero, List.set_cons_succ, List.getElem_toArray, List.getElem_cons_succ, List.getElem_cons_zero]
            refine wpAnyH_take (i := 4) (oi := _) (v := ?_) rfl (by kernel_rfl) (by kernel_rfl) (by kernel_rfl) (fun _ _ _ h => h) (Or.inl ⟨by rfl, ?_⟩) (by assumption) ?_
            rotate_left
            · first | (intro w hSw; (try dsimp only at hSw); go_simp; done) | (intro w hSw; (try dsimp only at hSw); go_simp; with_reducible rfl)
            try simp only [Act.put, List.setIfInBounds_toArray, List.set_cons_zero, List.set_cons_succ, List.getElem_toArray, List.getElem_cons_succ, List.getElem_cons_zero]
            refine wpAnyH_take (i := 5) (oi := _) (v := ?_) rfl (by kernel_rfl) (by kernel_rfl) (by kernel_rfl) (fun _ _ _ h => h) (Or.inl ⟨by rfl, ?_⟩) (by assumption) ?_
            rotate_left
            · first | (intro w hSw; (try dsimp only at hSw); go_simp; done) | (intro w hSw; (try dsimp only at hSw); go_simp; with_reducible rfl)
            try simp only [Act.put, List.setIfInBounds_toArray, List.set_cons_zero, List.set_cons_succ, List.getElem_toArray, List.getElem_cons_succ, List.getElem_cons_zero]
            refine wpAnyH_take (i := 6) (oi := _) (v := ?_) rfl (by kernel_rfl) (by kernel_rfl) (by kernel_rfl) (fun _ _ _ h => h) (Or.inl ⟨by rfl, ?_⟩) (by assumption) ?_
            rotate_left
            · first | (intro w hSw; (try dsimp only at hSw); go_simp; done) | (intro w hSw; (try dsimp only at hSw); go_simp; with_reducible rfl)
            try simp only [Act.put, List.setIfInBounds_toArray, List.set_cons_zero, List.set_cons_succ, List.getElem_toArray, List.getElem_cons_succ, List.getElem_cons_zero]
            refine wpAnyH_take (i := 7) (oi := _) (v := ?_) rfl (by kernel_rfl) (by kernel_rfl) (by kernel_rfl) (fun _ _ _ h => h) (Or.inl ⟨by rfl, ?_⟩) (by assumption) ?_
            rotate_left
            · first | (intro w hSw; (try dsimp only at hSw); go_simp; done) | (intro w hSw; (try dsimp only at hSw); go_simp; with_reducible rfl)
            try simp only [Act.put, List.setIfInBounds_toArray, List.set_cons_zero, List.set_cons_succ, List.getElem_toArray, List.getElem_cons_succ, List.getElem_cons_zero]
            refine wpAnyH_take (i := 8) (oi := _) (v := ?_) rfl (by kernel_rfl) (by kernel_rfl) (by kernel_rfl) (fun _ _ _ h => h) (Or.inl ⟨by rfl, ?_⟩) (by assumption) ?_
            rotate_left
            · first | (intro w hSw; (try dsimp only at hSw); go_simp; done) | (intro w hSw; (try dsimp only at hSw); go_simp; with_reducible rfl)
            try simp only [Act.put, List.setIfInBounds_toArray, List.set_cons_zero, List.set_cons_succ, List.getElem_toArray, List.getElem_cons_succ, List.getElem_cons_zero]
            refine wpAnyH_take (i := 9) (oi := _) (v := ?_) rfl (by kernel_rfl) (by kernel_rfl) (by kernel_rfl) (fun _ _ _ h => h) (Or.inl ⟨by rfl, ?_⟩) (by assumption) ?_
            rotate_left
            · first | (intro w hSw; (try dsimp only at hSw); go_simp; done) | (intro w hSw; (try dsimp only at hSw); go_simp; with_reducible rfl)
            try simp only [Act.put, List.setIfInBounds_toArray, List.set_cons_zero, List.set_cons_succ, List.getElem_toArray, List.getElem_cons_succ, List.getElem_cons_zero]
            refine wpAnyH_done (by kernel_rfl) ?_ _
            clear K6
            go_wp2
            rw [Exit.noGoto_ret]
            refine bodyPost_ret (v := .agg #[.int .i64 3, .slice none 0 0, .int .i64 (s' : Nat), .int .i64 0]) (by simp [results, Try.results112, go_sem, r0, r1, r2, r3]) rfl ⟨.slice none 0 0, by rw [RO.out]; rfl, by rw [RO.out]; exact ⟨rfl, .inl ⟨rfl, rfl⟩⟩, P.out⟩
          · have g3' : ¬ (s' : Int) = (bud : Int) := by omega
            have hlt : t < cs.length := by rw [HRL.out]; exact g2
            obtain ⟨c, o, rfl, PA⟩ : ∃ c o, rsl = some ⟨c, o, none⟩ ∧ PlAt w c o cs := by
              rcases RP.out with e | h
              · rw [e] at hlt; simp at hlt
              · exact h
            obtain ⟨c0, c1⟩ := PA.cell t hlt
            have SX := RS.out cs[t] (List.getElem_mem hlt)
            obtain ⟨x, y, hp⟩ : ∃ x y, cs[t] = (x, y) := ⟨_, _, rfl⟩
            rw [hp] at c0 c1 SX
            dsimp only at c0 c1
            have SXY := Lib.hid SX
            have hcl := PA.lt
            have KS : Hid (∀ W, Below wr.heap.size wr W → w.heap.size + 1 < W.heap.size ∧ b < W.heap.size ∧ W.cell? ⟨w.heap.size + 1, m, none⟩ = some (.int .i64 (t : Nat)) ∧ W.cell? ⟨b, m, none⟩ = some (.slice (some ⟨c, o, none⟩) rl rcap) ∧ c < W.heap.size ∧ W.cell? ⟨c, o + t * 2, none⟩ = some (.int .i64 x) ∧ W.cell? ⟨c, o + t * 2 + 1, none⟩ = some (.int .i64 y)) := fun W hW => ⟨Nat.lt_of_lt_of_le htl hW.size, Nat.lt_of_lt_of_le hbl hW.size, (hW.cell htl).trans tc, (hW.cell hbl).trans hrc, Nat.lt_of_lt_of_le (Nat.lt_of_lt_of_le hcl HS2) hW.size, (hW.cell (Nat.lt_of_lt_of_le hcl HS2)).trans ((HB.out.cell hcl).trans c0), (hW.cell (Nat.lt_of_lt_of_le hcl HS2)).trans ((HB.out.cell hcl).trans c1)⟩
            have TS1 : Hid (∀ f, fitB ps pl (x, y) = f → (f = true → finR (fitB ps) bud C (tr'.set m (t + 1)) (pl ++ [(x, y)]) (s' + 1) = R) ∧ (f = false → finR (fitB ps) bud C (tr'.set m (t + 1)) pl (s' + 1) = R)) := fun f hf => by
              have q1 : pl.length < C.length := by rw [HM.out, CL.out]; exact g1
              have q2 : tr'.getD pl.length 0 < (C.getD pl.length []).length := by rw [HM.out, HT.out, CM.out]; exact hlt
              have q3 : (C.getD pl.length [])[tr'.getD pl.length 0] = (x, y) := by
                rw [← hp]
                simp only [HM.out, HT.out, CM.out]
              have q4 : ∀ j, j < pl.length → tr'.getD j 0 = (tr'.set m (t + 1)).getD j 0 := fun j hj => (set_other _ _ _ _ (by rw [HM.out] at hj; omega)).symm
              have q5 : (tr'.set m (t + 1)).getD pl.length 0 = tr'.getD pl.length 0 + 1 := by rw [HM.out, HT.out]; exact set_same _ _ _ (by rw [HTL.out]; exact g1)
              refine ⟨fun e => ?_, fun e => ?_⟩
              · subst e
                rw [← HFI.out, fin_put (fitB ps) bud C tr' (tr'.set m (t + 1)) pl s' q1 g3 q2 (by rw [q3]; exact hf) q4 q5 (by rw [HM.out, set_other _ _ _ _ (by omega)]; exact HZE.out _ (by omega)), q3]
              · subst e
                rw [← HFI.out, fin_no (fitB ps) bud C tr' (tr'.set m (t + 1)) pl s' q1 g3 q2 (by rw [q3]; exact hf) q4 q5]
            clear hp hlt PA c0 c1 SX HFI RP RS
            have K9 := Lib.hid (KS.out wr (Below.refl _ _))
            have TW : ((t + 1 : Nat) : Int) = (t : Int) + 1 := by omega
            have TV0 : TrAt (wr.setCell ⟨w.heap.size + 1, m, none⟩ (.int .i64 ((t : Int) + 1))) (w.heap.size + 1) (tr'.set m (t + 1)) := by
              have h := TB.out.set m (t + 1)
              rwa [TW] at h
            have XV0 : BoxP (wr.setCell ⟨w.heap.size + 1, m, none⟩ (.int .i64 ((t : Int) + 1))) w.heap.size := (Below.heap_setCell _ _ _ _ (by simp)).trans XB.out
            have OV0 := own_set OR.out (b := w.heap.size + 1) (fun e => by have := (OR.out.lt _ e).1; omega) m (.int .i64 ((t : Int) + 1))
            have BV0 : Below w.heap.size w (wr.setCell ⟨w.heap.size + 1, m, none⟩ (.int .i64 ((t : Int) + 1))) := HB.out.setCell (p := ⟨w.heap.size + 1, m, none⟩) (by show w.heap.size ≤ w.heap.size + 1; omega) _
            have VS0 : (wr.setCell ⟨w.heap.size + 1, m, none⟩ (.int .i64 ((t : Int) + 1))).heap.size = wr.heap.size := by simp [World.setCell]
            have hf0 := TB.out.frozen m
            have STEP : Hid (∃ W3, W3 = ((wr.setCell ⟨w.heap.size + 1, m, none⟩ (.int .i64 ((t : Int) + 1))).alloc (.cells #[.int .i64 x, .int .i64 y] 34)).drew.drew ∧ TrAt W3 (w.heap.size + 1) (tr'.set m (t + 1)) ∧ BoxP W3 w.heap.size ∧ W3.ownsRow (w.heap.size + 2) 34 2 (.slice vsl m vcap) m (enCells pl) ∧ Below w.heap.size w W3 ∧ TwoAt W3 wr.heap.size x y) := by
              generalize wr.setCell ⟨w.heap.size + 1, m, none⟩ (.int .i64 ((t : Int) + 1)) = V at *
              refine ⟨_, rfl, TV0.of (Below.heap_alloc _ _ _ TV0.lt), (Below.heap_alloc _ _ _ (XV0.facts).1).trans XV0, OV0.alloc _, (bA BV0 _).drew.drew, ?_⟩
              have := TwoAt.new V x y
              rw [VS0] at this
              exact this
            obtain ⟨W3, e3, t3, x3, o3, b3, p3⟩ := STEP.out
            have E : Hid (Calls Try.prog 125 #[.slice vsl m vcap, .agg #[.int .i64 x, .int .i64 y], .pointer (some ⟨kb, 0, none⟩)] W3 fun e w' => e = .returned (.bool (fitB ps pl (x, y))) ∧ Below W3.heap.size W3 w') := by
              have o3' := o3
              rw [← HM.out] at o3'
              obtain ⟨sl', cap', ee, pp⟩ := own_pls o3'
              cases ee
              have := fit_any vsl vcap pl x y kb ps W3 (by rw [HM.out]; omega) (by
                rcases pp with h | ⟨c', e1, h1, _⟩
                · exact .inl h
                · exact .inr ⟨c', 0, e1, h1⟩) HSM.out SXY.out HW.out (HF.out.below b3)
              rwa [HM.out] at this
            have T3 := Lib.hid t3
            have X3 := Lib.hid x3
            have O3 := Lib.hid o3
            have B3 := Lib.hid b3
            have P3 := Lib.hid p3
            have L9 : Hid ((tr'.set m (t + 1)).length = n) := by show _ = n; rw [List.length_set]; exact HTL.out
            have Z9 : Hid (∀ j, m < j → (tr'.set m (t + 1)).getD j 0 = 0) := fun j hj => by
              rw [set_other _ _ _ _ (by omega)]; exact HZE.out j hj
            clear TV0 XV0 OV0 BV0 VS0 STEP t3 x3 o3 b3 p3 TB XB OR HB HTL HZE HT CM RC
            generalize hfb : fitB ps pl (x, y) = fb at *
            have F9 := Lib.hid (TS1.out fb rfl)
            clear TS1
            go_wp2_with fail
            refine wp_region_held_drew (S := fun W => w.heap.size + 1 < W.heap.size ∧ b < W.heap.size ∧ W.cell? ⟨w.heap.size + 1, m, none⟩ = some (.int .i64 (t : Nat)) ∧ W.cell? ⟨b, m, none⟩ = some (.slice (some ⟨c, o, none⟩) rl rcap)) (by kernel_rfl) ?_ (fun hHeld => ?_)
            · exact K6.out
            refine wpAnyH_take (i := 0) (oi := _) (v := ?_) rfl (by kernel_rfl) (by kernel_rfl) (by kernel_rfl) (fun _ _ _ h => h) (Or.inl ⟨by rfl, ?_⟩) (by assumption) ?_
            rotate_left
            · first | (intro w hSw; (try dsimp only at hSw); go_simp; done) | (intro w hSw; (try dsimp only at hSw); go_simp; with_reducible rfl)
            try simp only [Act.put, List.setIfInBounds_toArray, List.set_cons_zero, List.set_cons_succ, List.getElem_toArray, List.getElem_cons_zero]
            refine wpAnyH_take (i := 1) (oi := _) (v := ?_) rfl (by kernel_rfl) (by kernel_rfl) (by kernel_rfl) (fun _ _ _ h => h) (Or.inl ⟨by rfl, ?_⟩) (by assumption) ?_
            rotate_left
            · first | (intro w hSw; (try dsimp only at hSw); go_simp; done) | (intro w hSw; (try dsimp only at hSw); go_simp; with_reducible rfl)
            try simp only [Act.put, List.setIfInBounds_toArray, List.set_cons_zero, List.set_cons_succ, List.getElem_toArray, List.getElem_cons_succ, List.getElem_cons_zero]
            refine wpAnyH_take (i := 2) (oi := _) (v := ?_) rfl (by kernel_rfl) (by kernel_rfl) (by kernel_rfl) (fun _ _ _ h => h) (Or.inl ⟨by rfl, ?_⟩) (by assumption) ?_
            rotate_left
            · first | (intro w hSw; (try dsimp only at hSw); go_simp; done) | (intro w hSw; (try dsimp only at hSw); go_simp; with_reducible rfl)
            try simp only [Act.put, List.setIfInBounds_toArray, List.set_cons_zero, List.set_cons_succ, List.getElem_toArray, List.getElem_cons_succ, List.getElem_cons_zero]
            refine wpAnyH_take (i := 3) (oi := _) (v := ?_) rfl (by kernel_rfl) (by kernel_rfl) (by kernel_rfl) (fun _ _ _ h => h) (Or.inl ⟨by rfl, ?_⟩) (by assumption) ?_
            rotate_left
            · first | (intro w hSw; (try dsimp only at hSw); go_simp; done) | (intro w hSw; (try dsimp only at hSw); go_simp; with_reducible rfl)
            try simp only [Act.put, List.setIfInBounds_toArray, List.set_cons_zero, List.set_cons_succ, List.getElem_toArray, List.getElem_cons_succ, List.getElem_cons_zero]
            refine wpAnyH_take (i := 4) (oi := _) (v := ?_) rfl (by kernel_rfl) (by kernel_rfl) (by kernel_rfl) (fun _ _ _ h => h) (Or.inl ⟨by rfl, ?_⟩) (by assumption) ?_
            rotate_left
            · first | (intro w hSw; (try dsimp only at hSw); go_simp; done) | (intro w hSw; (try dsimp only at hSw); go_simp; with_reducible rfl)
            try simp only [Act.put, List.setIfInBounds_toArray, List.set_cons_zero, List.set_cons_succ, List.getElem_toArray, List.getElem_cons_succ, List.getElem_cons_zero]
            refine wpAnyH_take (i := 5) (oi := _) (v := ?_) rfl (by kernel_rfl) (by kernel_rfl) (by kernel_rfl) (fun _ _ _ h => h) (Or.inl ⟨by rfl, ?_⟩) (by assumption) ?_
            rotate_left
            · first | (intro w hSw; (try dsimp only at hSw); go_simp; done) | (intro w hSw; (try dsimp only at hSw); go_simp; with_reducible rfl)
            try simp only [Act.put, List.setIfInBounds_toArray, List.set_cons_zero, List.set_cons_succ, List.getElem_toArray, List.getElem_cons_succ, List.getElem_cons_zero]
            refine wpAnyH_take (i := 6) (oi := _) (v := ?_) rfl (by kernel_rfl) (by kernel_rfl) (by kernel_rfl) (fun _ _ _ h => h) (Or.inl ⟨by rfl, ?_⟩) (by assumption) ?_
            rotate_left
            · first | (intro w hSw; (try dsimp only at hSw); go_simp; done) | (intro w hSw; (try dsimp only at hSw); go_simp; with_reducible rfl)
            try simp only [Act.put, List.setIfInBounds_toArray, List.set_cons_zero, List.set_cons_succ, List.getElem_toArray, List.getElem_cons_succ, List.getElem_cons_zero]
            refine wpAnyH_take (i := 7) (oi := _) (v := ?_) rfl (by kernel_rfl) (by kernel_rfl) (by kernel_rfl) (fun _ _ _ h => h) (Or.inl ⟨by rfl, ?_⟩) (by assumption) ?_
            rotate_left
            · first | (intro w hSw; (try dsimp only at hSw); go_simp; done) | (intro w hSw; (try dsimp only at hSw); go_simp; with_reducible rfl)
            try simp only [Act.put, List.setIfInBounds_toArray, List.set_cons_zero, List.set_cons_succ, List.getElem_toArray, List.getElem_cons_succ, List.getElem_cons_zero]
            refine wpAnyH_take (i := 8) (oi := _) (v := ?_) rfl (by kernel_rfl) (by kernel_rfl) (by kernel_rfl) (fun _ _ _ h => h) (Or.inl ⟨by rfl, ?_⟩) (by assumption) ?_
            rotate_left
            · first | (intro w hSw; (try dsimp only at hSw); go_simp; done) | (intro w hSw; (try dsimp only at hSw); go_simp; with_reducible rfl)
            try simp only [Act.put, List.setIfInBounds_toArray, List.set_cons_zero, List.set_cons_succ, List.getElem_toArray, List.getElem_cons_succ, List.getElem_cons_zero]
            refine wpAnyH_take (i := 9) (oi := _) (v := ?_) rfl (by kernel_rfl) (by kernel_rfl) (by kernel_rfl) (fun _ _ _ h => h) (Or.inl ⟨by rfl, ?_⟩) (by assumption) ?_
            rotate_left
            · first | (intro w hSw; (try dsimp only at hSw); go_simp; done) | (intro w hSw; (try dsimp only at hSw); go_simp; with_reducible rfl)
            try simp only [Act.put, List.setIfInBounds_toArray, List.set_cons_zero, List.set_cons_succ, List.getElem_toArray, List.getElem_cons_succ, List.getElem_cons_zero]
            refine wpAnyH_done (by kernel_rfl) ?_ _
            go_wp2_with fail
            refine wp_region_held_drew (S := fun W => w.heap.size + 1 < W.heap.size ∧ b < W.heap.size ∧ W.cell? ⟨w.heap.size + 1, m, none⟩ = some (.int .i64 (t : Nat)) ∧ W.cell? ⟨b, m, none⟩ = some (.slice (some ⟨c, o, none⟩) rl rcap) ∧ c < W.heap.size ∧ W.cell? ⟨c, o + t * 2, none⟩ = some (.int .i64 x) ∧ W.cell? ⟨c, o + t * 2 + 1, none⟩ = some (.int .i64 y)) (by kernel_rfl) ?_ (fun hHeld => ?_)
            · exact K9.out
            refine wpAnyH_take (i := 0) (oi := _) (v := ?_) rfl (by kernel_rfl) (by kernel_rfl) (by kernel_rfl) (fun _ _ _ h => h) (Or.inl ⟨by rfl, ?_⟩) (by assumption) ?_
            rotate_left
            · first | (intro w hSw; (try dsimp only at hSw); go_simp; done) | (intro w hSw; (try dsimp only at hSw); go_simp; with_reducible rfl)
            try simp only [Act.put, List.setIfInBounds_toArray, List.set_cons_zero, List.set_cons_succ, List.getElem_toArray, List.getElem_cons_zero]
            refine wpAnyH_take (i := 1) (oi := _) (v := ?_) rfl (by kernel_rfl) (by kernel_rfl) (by kernel_rfl) (fun _ _ _ h => h) (Or.inl ⟨by rfl, ?_⟩) (by assumption) ?_
            rotate_left
            · first | (intro w hSw; (try dsimp only at hSw); go_simp; done) | (intro w hSw; (try dsimp only at hSw); go_simp; with_reducible rfl)
            try simp only [Act.put, List.setIfInBounds_toArray, List.set_cons_zero, List.set_cons_succ, List.getElem_toArray, List.getElem_cons_succ, List.getElem_cons_zero]
            refine wpAnyH_take (i := 2) (oi := _) (v := ?_) rfl (by kernel_rfl) (by kernel_rfl) (by kernel_rfl) (fun _ _ _ h => h) (Or.inl ⟨by rfl, ?_⟩) (by assumption) ?_
            rotate_left
            · first | (intro w hSw; (try dsimp only at hSw); go_simp; done) | (intro w hSw; (try dsimp only at hSw); go_simp; with_reducible rfl)
            try simp only [Act.put, List.setIfInBounds_toArray, List.set_cons_zero, List.set_cons_succ, List.getElem_toArray, List.getElem_cons_succ, List.getElem_cons_zero]
            refine wpAnyH_take (i := 3) (oi := _) (v := ?_) rfl (by kernel_rfl) (by kernel_rfl) (by kernel_rfl) (fun _ _ _ h => h) (Or.inl ⟨by rfl, ?_⟩) (by assumption) ?_
            rotate_left
            · first | (intro w hSw; (try dsimp only at hSw); go_simp; done) | (intro w hSw; (try dsimp only at hSw); go_simp; with_reducible rfl)
            try simp only [Act.put, List.setIfInBounds_toArray, List.set_cons_zero, List.set_cons_succ, List.getElem_toArray, List.getElem_cons_succ, List.getElem_cons_zero]
            refine wpAnyH_take (i := 4) (oi := _) (v := ?_) rfl (by kernel_rfl) (by kernel_rfl) (by kernel_rfl) (fun _ _ _ h => h) (Or.inl ⟨by rfl, ?_⟩) (by assumption) ?_
            rotate_left
            · first | (intro w hSw; (try dsimp only at hSw); go_simp; done) | (intro w hSw; (try dsimp only at hSw); go_simp; with_reducible rfl)
            try simp only [Act.put, List.setIfInBounds_toArray, List.set_cons_zero, List.set_cons_succ, List.getElem_toArray, List.getElem_cons_succ, List.getElem_cons_zero]
            refine wpAnyH_take (i := 5) (oi := _) (v := ?_) rfl (by kernel_rfl) (by kernel_rfl) (by kernel_rfl) (fun _ _ _ h => h) (Or.inl ⟨by rfl, ?_⟩) (by assumption) ?_
            rotate_left
            · first | (intro w hSw; (try dsimp only at hSw); go_simp; done) | (intro w hSw; (try dsimp only at hSw); go_simp; with_reducible rfl)
            try simp only [Act.put, List.setIfInBounds_toArray, List.set_cons_zero, List.set_cons_succ, List.getElem_toArray, List.getElem_cons_succ, List.getElem_cons_zero]
            refine wpAnyH_take (i := 6) (oi := _) (v := ?_) rfl (by kernel_rfl) (by kernel_rfl) (by kernel_rfl) (fun _ _ _ h => h) (Or.inl ⟨by rfl, ?_⟩) (by assumption) ?_
            rotate_left
            · first | (intro w hSw; (try dsimp only at hSw); go_simp; done) | (intro w hSw; (try dsimp only at hSw); go_simp; with_reducible rfl)
            try simp only [Act.put, List.setIfInBounds_toArray, List.set_cons_zero, List.set_cons_succ, List.getElem_toArray, List.getElem_cons_succ, List.getElem_cons_zero]
            refine wpAnyH_take (i := 7) (oi := _) (v := ?_) rfl (by kernel_rfl) (by kernel_rfl) (by kernel_rfl) (fun _ _ _ h => h) (Or.inl ⟨by rfl, ?_⟩) (by assumption) ?_
            rotate_left
            · first | (intro w hSw; (try dsimp only at hSw); go_simp; done) | (intro w hSw; (try dsimp only at hSw); go_simp; with_reducible rfl)
            try simp only [Act.put, List.setIfInBounds_toArray, List.set_cons_zero, List.set_cons_succ, List.getElem_toArray, List.getElem_cons_succ, List.getElem_cons_zero]
            refine wpAnyH_take (i := 8) (oi := _) (v := ?_) rfl (by kernel_rfl) (by kernel_rfl) (by kernel_rfl) (fun _ _ _ h => h) (Or.inl ⟨by rfl, ?_⟩) (by assumption) ?_
            rotate_left
            · first | (intro w hSw; (try dsimp only at hSw); go_simp; done) | (intro w hSw; (try dsimp only at hSw); go_simp; with_reducible rfl)
            try simp only [Act.put, List.setIfInBounds_toArray, List.set_cons_zero, List.set_cons_succ, List.getElem_toArray, List.getElem_cons_succ, List.getElem_cons_zero]
            refine wpAnyH_take (i := 9) (oi := _) (v := ?_) rfl (by kernel_rfl) (by kernel_rfl) (by kernel_rfl) (fun _ _ _ h => h) (Or.inl ⟨by rfl, ?_⟩) (by assumption) ?_
            rotate_left
            · first | (intro w hSw; (try dsimp only at hSw); go_simp; done) | (intro w hSw; (try dsimp only at hSw); go_simp; with_reducible rfl)
            try simp only [Act.put, List.setIfInBounds_toArray, List.set_cons_zero, List.set_cons_succ, List.getElem_toArray, List.getElem_cons_succ, List.getElem_cons_zero]
            refine wpAnyH_ready (rs := [10]) (by kernel_rfl) (by simp) ?_
            refine AllReadyH.cons rfl (fun K hK => ?_) AllReadyH.nil
            go_simp
            refine hK.out _ _ ?_ (fun hHeld => ?_)
            · exact KS.out _ (bA (Below.refl _ _).drew.drew _)
            clear hK K
            refine wpAnyH_ready (rs := [11]) (by kernel_rfl) (by simp) ?_
            refine AllReadyH.cons rfl (fun K hK => ?_) AllReadyH.nil
            go_simp
            refine hK.out _ _ ?_ (fun hHeld => ?_)
            · exact KS.out _ (bA (Below.refl _ _) _).drew.drew
            clear hK K
            refine wpAnyH_done (by kernel_rfl) ?_ _
            clear K9 KS K6
            go_wp2_with fail
            rw [← e3]
            refine E.out.mono ?_
            rintro e w4 ⟨rfl, b4⟩
            have T4 : Hid (TrAt w4 (w.heap.size + 1) (tr'.set m (t + 1))) := T3.out.of (b4.block _ T3.out.lt)
            have X4 : Hid (BoxP w4 w.heap.size) := (b4.block _ (X3.out.facts).1).trans X3.out
            have O4 := Lib.hid (own_below O3.out b4)
            have P4 := Lib.hid (P3.out.below b4)
            have B4 := Lib.hid (bT B3.out b4)
            obtain ⟨pc0, pc1⟩ := P4.out.cells
            have pl4 := P4.out.lt
            have hs4 : w.heap.size + 2 ≤ w4.heap.size := by have := T4.out.lt; omega
            clear T3 X3 O3 P3 B3 b4 E e3 tc hrc hf0 htl hbl hcl HS2
            clear W3
            cases fb with
            | true =>
              have F8 := Lib.hid (F9.out.1 rfl)
              have HL1 : Hid ((pl ++ [(x, y)]).length = m + 1) := by show _ = _; rw [List.length_append, HM.out]; rfl
              have S9 : Hid (∀ z ∈ pl ++ [(x, y)], Small z) := fun z hz => by
                rcases List.mem_append.1 hz with h | h
                · exact HSM.out z h
                · rw [List.mem_singleton.1 h]; exact SXY.out
              have hms : (bud - (s' + 1)) * (n + 2) + (m + 1) < (bud - s) * (n + 2) + m := by
                have h1 : (bud - s') * (n + 2) ≤ (bud - s) * (n + 2) := Nat.mul_le_mul_right _ (by omega)
                have h2 : bud - s' = (bud - (s' + 1)) + 1 := by omega
                rw [h2, Nat.succ_mul] at h1
                omega
              clear F9
              go_wp2_with (first | (at_builtin; refine wpList_append_lies _ rfl (.tmp 59) (.tmp 61) 27 rfl (w.heap.size + 2) 34 i3 (.agg #[.int .i64 0, .int .i64 0]) 2 16 Try.underlying27 hi3 hd0 hd1 hd2 rfl (by decide) _ _ _ rfl (O4.out.alloc _) ⟨w4.heap.size, 0, none⟩ 1 1 [.int .i64 x, .int .i64 y] rfl rfl (cell_two_new _ _ _ _) (by intro u hu; simp at hu; rcases hu with rfl | rfl <;> rfl) (by decide) (by unfold maxLen; omega) (by omega) (by simp; omega) (w4.heap.size + 1) (by simp) ?_))
              intro g9 cap9 w9 own9 grow9 hg9 hlt9
              have OL : ∀ j, (Value.slice vsl m vcap).ownBlock = some j → w.heap.size + 2 ≤ j := fun j hj => (O4.out.lt j hj).1
              have BK : ∀ k, k < w.heap.size + 2 → w9.heap[k]? = w4.heap[k]? := fun k hk => (grow9.block k (by simp; omega) (fun e => by have := OL k e.symm; omega)).trans (Below.heap_alloc _ _ _ (by omega))
              have T9 : Hid (TrAt w9 (w.heap.size + 1) (tr'.set m (t + 1))) := T4.out.of (BK _ (by omega))
              have X9 : Hid (BoxP w9 w.heap.size) := (BK _ (by omega)).trans X4.out
              have B9 := Lib.hid ((bA B4.out (.cells #[.int .i64 x, .int .i64 y] 34)).grown grow9 (by have := B4.out.size; simp; omega) (fun j hj => by have := OL j hj; omega))
              rw [← enCells_add pl (x, y)] at own9
              have O9 : Hid (w9.ownsRow (w.heap.size + 2) 34 2 (.slice (some ⟨g9, 0, none⟩) (m + 1) cap9) (pl ++ [(x, y)]).length (enCells (pl ++ [(x, y)]))) := by
                rw [HL1.out]; exact own9
              have Z8 : Hid (∀ j, (pl ++ [(x, y)]).length < j → (tr'.set m (t + 1)).getD j 0 = 0) := fun j hj => by
                rw [HL1.out] at hj
                exact Z9.out j (by omega)
              have hl1 : (pl ++ [(x, y)]).length ≤ n := by rw [HL1.out]; omega
              clear own9 grow9 hg9 hlt9 OL BK T4 X4 B4 O4 P4
              go_wp2
              go_roundw
              case rel => exact ⟨pl ++ [(x, y)], s' + 1, tr'.set m (t + 1), by go_num, by omega, hl1, L9, F8, Z8, S9, X9, T9, O9, B9⟩
              case measure => simp [intOf, lenV]; exact hms
            | false =>
              have F8 := Lib.hid (F9.out.2 rfl)
              clear F9
              go_wp2
              go_roundw
              case rel => exact ⟨s' + 1, tr'.set m (t + 1), rfl, by go_num, by omega, by omega, L9, F8, Z9, X4, T4, O4, B4⟩
              case measure => simp [intOf]; omega
        · have g2' : ¬ (t : Int) < (rl : Int) := by omega
          have HFB : Hid ((C.getD pl.length []).length ≤ tr'.getD pl.length 0) := by
            show _ ≤ _
            rw [HM.out, HT.out, CM.out, HRL.out]
            omega
          by_cases hm : m = 0
          · subst hm
            have RO : Hid (R = .none s') := by
              show R = _
              rw [← HFI.out, List.eq_nil_of_length_eq_zero HM.out]
              refine fin_none _ _ _ _ _ (by rw [CL.out]; omega) ?_
              have := HFB.out
              rwa [HM.out] at this
            obtain ⟨xl, r0, r1, r2, r3, f0, f1, f2, f3⟩ := BoxP.facts XB.out
            have P : Hid (Below w.heap.size w (set4 wr.drew w.heap.size (.int .i64 2) (.slice none 0 0) (.int .i64 (s' : Nat)) (.int .i64 0))) := set4_below HB.out.drew (Nat.le_refl _) _ _ _ _
            unfold set4 at P
            clear XB TB OR HFI HZE HTL HT CM RP RS RC HFB
            go_wp2_with fail
            refine wp_region_held_drew (S := fun W => w.heap.size + 1 < W.heap.size ∧ b < W.heap.size ∧ W.cell? ⟨w.heap.size + 1, 0, none⟩ = some (.int .i64 (t : Nat)) ∧ W.cell? ⟨b, 0, none⟩ = some (.slice rsl rl rcap)) (by kernel_rfl) ?_ (fun hHeld => ?_)
            · exact K6.out
            refine wpAnyH_take (i := 0) (oi := _) (v := ?_) rfl (by kernel_rfl) (by kernel_rfl) (by kernel_rfl) (fun _ _ _ h => h) (Or.inl ⟨by rfl, ?_⟩) (by assumption) ?_
            rotate_left
            · first | (intro w hSw; (try dsimp only at hSw); go_simp; done) | (intro w hSw; (try dsimp only at hSw); go_simp; with_reducible rfl)
            try simp only [Act.put, List.setIfInBounds_toArray, List.set_cons_zero, List.set_cons_succ, List.getElem_toArray, List.getElem_cons_zero]
            refine wpAnyH_take (i := 1) (oi := _) (v := ?_) rfl (by kernel_rfl) (by kernel_rfl) (by kernel_rfl) (fun _ _ _ h => h) (Or.inl ⟨by rfl, ?_⟩) (by assumption) ?_
            rotate_left
            · first | (intro w hSw; (try dsimp only at hSw); go_simp; done) | (intro w hSw; (try dsimp only at hSw); go_simp; with_reducible rfl)
            try simp only [Act.put, List.setIfInBounds_toArray, List.set_cons_zero, List.set_cons_succ, List.getElem_toArray, List.getElem_cons_succ, List.getElem_cons_zero]
            refine wpAnyH_take (i := 2) (oi := _) (v := ?_) rfl (by kernel_rfl) (by kernel_rfl) (by kernel_rfl) (fun _ _ _ h => h) (Or.inl ⟨by rfl, ?_⟩) (by assumption) ?_
            rotate_left
            · first | (intro w hSw; (try dsimp only at hSw); go_simp; done) | (intro w hSw; (try dsimp only at hSw); go_simp; with_reducible rfl)
            try simp only [Act.put, List.setIfInBounds_toArray, List.set_cons_zero, List.set_cons_succ, List.getElem_toArray, List.getElem_cons_succ, List.getElem_cons_zero]
            refine wpAnyH_take (i := 3) (oi := _) (v := ?_) rfl (by kernel_rfl) (by kernel_rfl) (by kernel_rfl) (fun _ _ _ h => h) (Or.inl ⟨by rfl, ?_⟩) (by assumption) ?_
            rotate_left
            · first | (intro w hSw; (try dsimp only at hSw); go_simp; done) | (intro w hSw; (try dsimp only at hSw); go_simp; with_reducible rfl)
            try simp only [Act.put, List.setIfInBounds_toArray, List.set_cons_zero, List.set_cons_succ, List.getElem_toArray, List.getElem_cons_succ, List.getElem_cons_zero]
            refine wpAnyH_take (i := 4) (oi := _) (v := ?_) rfl (by kernel_rfl) (by kernel_rfl) (by kernel_rfl) (fun _ _ _ h => h) (Or.inl ⟨by rfl, ?_⟩) (by assumption) ?_
            rotate_left
            · first | (intro w hSw; (try dsimp only at hSw); go_simp; done) | (intro w hSw; (try dsimp only at hSw); go_simp; with_reducible rfl)
            try simp only [Act.put, List.setIfInBounds_toArray, List.set_cons_zero, List.set_cons_succ, List.getElem_toArray, List.getElem_cons_succ, List.getElem_cons_zero]
            refine wpAnyH_take (i := 5) (oi := _) (v := ?_) rfl (by kernel_rfl) (by kernel_rfl) (by kernel_rfl) (fun _ _ _ h => h) (Or.inl ⟨by rfl, ?_⟩) (by assumption) ?_
            rotate_left
            · first | (intro w hSw; (try dsimp only at hSw); go_simp; done) | (intro w hSw; (try dsimp only at hSw); go_simp; with_reducible rfl)
            try simp only [Act.put, List.setIfInBounds_toArray, List.set_cons_zero, List.set_cons_succ, List.getElem_toArray, List.getElem_cons_succ, List.getElem_cons_zero]
            refine wpAnyH_take (i := 6) (oi := _) (v := ?_) rfl (by kernel_rfl) (by kernel_rfl) (by kernel_rfl) (fun _ _ _ h => h) (Or.inl ⟨by rfl, ?_⟩) (by assumption) ?_
            rotate_left
            · first | (intro w hSw; (try dsimp only at hSw); go_simp; done) | (intro w hSw; (try dsimp only at hSw); go_simp; with_reducible rfl)
            try simp only [Act.put, List.setIfInBounds_toArray, List.set_cons_zero, List.set_cons_succ, List.getElem_toArray, List.getElem_cons_succ, List.getElem_cons_zero]
            refine wpAnyH_take (i := 7) (oi := _) (v := ?_) rfl (by kernel_rfl) (by kernel_rfl) (by kernel_rfl) (fun _ _ _ h => h) (Or.inl ⟨by rfl, ?_⟩) (by assumption) ?_
            rotate_left
            · first | (intro w hSw; (try dsimp only at hSw); go_simp; done) | (intro w hSw; (try dsimp only at hSw); go_simp; with_reducible rfl)
            try simp only [Act.put, List.setIfInBounds_toArray, List.set_cons_zero, List.set_cons_succ, List.getElem_toArray, List.getElem_cons_succ, List.getElem_cons_zero]
            refine wpAnyH_take (i := 8) (oi := _) (v := ?_) rfl (by kernel_rfl) (by kernel_rfl) (by kernel_rfl) (fun _ _ _ h => h) (Or.inl ⟨by rfl, ?_⟩) (by assumption) ?_
            rotate_left
            · first | (intro w hSw; (try dsimp only at hSw); go_simp; done) | (intro w hSw; (try dsimp only at hSw); go_simp; with_reducible rfl)
            try simp only [Act.put, List.setIfInBounds_toArray, List.set_cons_zero, List.set_cons_succ, List.getElem_toArray, List.getElem_cons_succ, List.getElem_cons_zero]
            refine wpAnyH_take (i := 9) (oi := _) (v := ?_) rfl (by kernel_rfl) (by kernel_rfl) (by kernel_rfl) (fun _ _ _ h => h) (Or.inl ⟨by rfl, ?_⟩) (by assumption) ?_
            rotate_left
            · first | (intro w hSw; (try dsimp only at hSw); go_simp; done) | (intro w hSw; (try dsimp only at hSw); go_simp; with_reducible rfl)
            try simp only [Act.put, List.setIfInBounds_toArray, List.set_cons_zero, List.set_cons_succ, List.getElem_toArray, List.getElem_cons_succ, List.getElem_cons_zero]
            refine wpAnyH_done (by kernel_rfl) ?_ _
            clear K6
            go_wp2
            rw [Exit.noGoto_ret]
            refine bodyPost_ret (v := .agg #[.int .i64 2, .slice none 0 0, .int .i64 (s' : Nat), .int .i64 0]) (by simp [results, Try.results112, go_sem, r0, r1, r2, r3]) rfl ⟨.slice none 0 0, by rw [RO.out]; rfl, by rw [RO.out]; exact ⟨rfl, .inl ⟨rfl, rfl⟩⟩, P.out⟩
          · obtain ⟨m1, hm1⟩ : ∃ m1, m = m1 + 1 := ⟨m - 1, by omega⟩
            have hm' : ¬ (m : Int) = 0 := by omega
            have hsub : (m : Int) - 1 = (m1 : Int) := by omega
            obtain ⟨g, rfl, hgB, hcap, hgl⟩ : ∃ g, vsl = some ⟨g, 0, none⟩ ∧ w.heap.size + 2 ≤ g ∧ m ≤ vcap ∧ g < wr.heap.size := by
              rcases OR.out.2 with ⟨_, h0⟩ | ⟨g, cp, cur, hv, hb, hg, h1, _⟩
              · exact absurd h0 hm
              · cases hv
                exact ⟨g, rfl, hb, h1, (Array.getElem?_eq_some_iff.1 hg).1⟩
            have hf0 := TB.out.frozen m
            have T9 : Hid (TrAt (wr.setCell ⟨w.heap.size + 1, m, none⟩ (.int .i64 0)) (w.heap.size + 1) (tr'.set m 0)) := TB.out.set m 0
            have X9 : Hid (BoxP (wr.setCell ⟨w.heap.size + 1, m, none⟩ (.int .i64 0)) w.heap.size) := (Below.heap_setCell _ _ _ _ (by simp)).trans XB.out
            have O9 : Hid ((wr.setCell ⟨w.heap.size + 1, m, none⟩ (.int .i64 0)).ownsRow (w.heap.size + 2) 34 2 (.slice (some ⟨g, 0, none⟩) m1 vcap) (pl.take m1).length (enCells (pl.take m1))) := by
              have o1 := OR.out
              rw [← HM.out] at o1
              have o2 := own_cut m1 o1 (by rw [HM.out, hm1]; omega)
              have o3 := own_set o2 (b := w.heap.size + 1) (by simp [Value.ownBlock]; omega) m (.int .i64 0)
              rwa [show (pl.take m1).length = m1 by rw [List.length_take, HM.out, hm1]; omega]
            have B9 : Hid (Below w.heap.size w (wr.setCell ⟨w.heap.size + 1, m, none⟩ (.int .i64 0))) := HB.out.setCell (p := ⟨w.heap.size + 1, m, none⟩) (by show w.heap.size ≤ w.heap.size + 1; omega) _
            have F9 : Hid (finR (fitB ps) bud C (tr'.set m 0) (pl.take m1) s' = R) := by
              show finR _ _ _ _ _ _ = R
              rw [← HFI.out]
              exact (fin_back (fitB ps) bud C tr' (tr'.set m 0) pl s' m1 (by rw [HM.out, hm1]) (by rw [HM.out, CL.out]; exact g1) HFB.out (fun j hj => (set_other _ _ _ _ (by rw [HM.out] at hj; omega)).symm)).symm
            have L9 : Hid ((tr'.set m 0).length = n) := by show _ = n; rw [List.length_set]; exact HTL.out
            have Z9 : Hid (∀ j, (pl.take m1).length < j → (tr'.set m 0).getD j 0 = 0) := fun j hj => by
              have hl1 : (pl.take m1).length = m1 := by rw [List.length_take, HM.out, hm1]; omega
              rw [hl1] at hj
              by_cases ej : m = j
              · subst ej; exact set_same _ _ _ (by rw [HTL.out]; exact g1)
              · rw [set_other _ _ _ _ ej]; exact HZE.out j (by omega)
            have S9 : Hid (∀ x ∈ pl.take m1, Small x) := fun x hx => HSM.out x (List.mem_of_mem_take hx)
            have hlm : (pl.take m1).length ≤ n := by rw [List.length_take]; omega
            have hms : (bud - s') * (n + 2) + m1 < (bud - s) * (n + 2) + m := by
              have : (bud - s') * (n + 2) ≤ (bud - s) * (n + 2) := Nat.mul_le_mul_right _ (by omega)
              omega
            clear XB TB OR HFI HZE HTL HT CM RP RS RC HFB HB hm1 hm
            go_wp2_with fail
            refine wp_region_held_drew (S := fun W => w.heap.size + 1 < W.heap.size ∧ b < W.heap.size ∧ W.cell? ⟨w.heap.size + 1, m, none⟩ = some (.int .i64 (t : Nat)) ∧ W.cell? ⟨b, m, none⟩ = some (.slice rsl rl rcap)) (by kernel_rfl) ?_ (fun hHeld => ?_)
            · exact K6.out
            refine wpAnyH_take (i := 0) (oi := _) (v := ?_) rfl (by kernel_rfl) (by kernel_rfl) (by kernel_rfl) (fun _ _ _ h => h) (Or.inl ⟨by rfl, ?_⟩) (by assumption) ?_
            rotate_left
            · first | (intro w hSw; (try dsimp only at hSw); go_simp; done) | (intro w hSw; (try dsimp only at hSw); go_simp; with_reducible rfl)
            try simp only [Act.put, List.setIfInBounds_toArray, List.set_cons_zero, List.set_cons_succ, List.getElem_toArray, List.getElem_cons_zero]
            refine wpAnyH_take (i := 1) (oi := _) (v := ?_) rfl (by kernel_rfl) (by kernel_rfl) (by kernel_rfl) (fun _ _ _ h => h) (Or.inl ⟨by rfl, ?_⟩) (by assumption) ?_
            rotate_left
            · first | (intro w hSw; (try dsimp only at hSw); go_simp; done) | (intro w hSw; (try dsimp only at hSw); go_simp; with_reducible rfl)
            try simp only [Act.put, List.setIfInBounds_toArray, List.set_cons_zero, List.set_cons_succ, List.getElem_toArray, List.getElem_cons_succ, List.getElem_cons_zero]
            refine wpAnyH_take (i := 2) (oi := _) (v := ?_) rfl (by kernel_rfl) (by kernel_rfl) (by kernel_rfl) (fun _ _ _ h => h) (Or.inl ⟨by rfl, ?_⟩) (by assumption) ?_
            rotate_left
            · first | (intro w hSw; (try dsimp only at hSw); go_simp; done) | (intro w hSw; (try dsimp only at hSw); go_simp; with_reducible rfl)
            try simp only [Act.put, List.setIfInBounds_toArray, List.set_cons_zero, List.set_cons_succ, List.getElem_toArray, List.getElem_cons_succ, List.getElem_cons_zero]
            refine wpAnyH_take (i := 3) (oi := _) (v := ?_) rfl (by kernel_rfl) (by kernel_rfl) (by kernel_rfl) (fun _ _ _ h => h) (Or.inl ⟨by rfl, ?_⟩) (by assumption) ?_
            rotate_left
            · first | (intro w hSw; (try dsimp only at hSw); go_simp; done) | (intro w hSw; (try dsimp only at hSw); go_simp; with_reducible rfl)
            try simp only [Act.put, List.setIfInBounds_toArray, List.set_cons_zero, List.set_cons_succ, List.getElem_toArray, List.getElem_cons_succ, List.getElem_cons_zero]
            refine wpAnyH_take (i := 4) (oi := _) (v := ?_) rfl (by kernel_rfl) (by kernel_rfl) (by kernel_rfl) (fun _ _ _ h => h) (Or.inl ⟨by rfl, ?_⟩) (by assumption) ?_
            rotate_left
            · first | (intro w hSw; (try dsimp only at hSw); go_simp; done) | (intro w hSw; (try dsimp only at hSw); go_simp; with_reducible rfl)
            try simp only [Act.put, List.setIfInBounds_toArray, List.set_cons_zero, List.set_cons_succ, List.getElem_toArray, List.getElem_cons_succ, List.getElem_cons_zero]
            refine wpAnyH_take (i := 5) (oi := _) (v := ?_) rfl (by kernel_rfl) (by kernel_rfl) (by kernel_rfl) (fun _ _ _ h => h) (Or.inl ⟨by rfl, ?_⟩) (by assumption) ?_
            rotate_left
            · first | (intro w hSw; (try dsimp only at hSw); go_simp; done) | (intro w hSw; (try dsimp only at hSw); go_simp; with_reducible rfl)
            try simp only [Act.put, List.setIfInBounds_toArray, List.set_cons_zero, List.set_cons_succ, List.getElem_toArray, List.getElem_cons_succ, List.getElem_cons_zero]
            refine wpAnyH_take (i := 6) (oi := _) (v := ?_) rfl (by kernel_rfl) (by kernel_rfl) (by kernel_rfl) (fun _ _ _ h => h) (Or.inl ⟨by rfl, ?_⟩) (by assumption) ?_
            rotate_left
            · first | (intro w hSw; (try dsimp only at hSw); go_simp; done) | (intro w hSw; (try dsimp only at hSw); go_simp; with_reducible rfl)
            try simp only [Act.put, List.setIfInBounds_toArray, List.set_cons_zero, List.set_cons_succ, List.getElem_toArray, List.getElem_cons_succ, List.getElem_cons_zero]
            refine wpAnyH_take (i := 7) (oi := _) (v := ?_) rfl (by kernel_rfl) (by kernel_rfl) (by kernel_rfl) (fun _ _ _ h => h) (Or.inl ⟨by rfl, ?_⟩) (by assumption) ?_
            rotate_left
            · first | (intro w hSw; (try dsimp only at hSw); go_simp; done) | (intro w hSw; (try dsimp only at hSw); go_simp; with_reducible rfl)
            try simp only [Act.put, List.setIfInBounds_toArray, List.set_cons_zero, List.set_cons_succ, List.getElem_toArray, List.getElem_cons_succ, List.getElem_cons_zero]
            refine wpAnyH_take (i := 8) (oi := _) (v := ?_) rfl (by kernel_rfl) (by kernel_rfl) (by kernel_rfl) (fun _ _ _ h => h) (Or.inl ⟨by rfl, ?_⟩) (by assumption) ?_
            rotate_left
            · first | (intro w hSw; (try dsimp only at hSw); go_simp; done) | (intro w hSw; (try dsimp only at hSw); go_simp; with_reducible rfl)
            try simp only [Act.put, List.setIfInBounds_toArray, List.set_cons_zero, List.set_cons_succ, List.getElem_toArray, List.getElem_cons_succ, List.getElem_cons_zero]
            refine wpAnyH_take (i := 9) (oi := _) (v := ?_) rfl (by kernel_rfl) (by kernel_rfl) (by kernel_rfl) (fun _ _ _ h => h) (Or.inl ⟨by rfl, ?_⟩) (by assumption) ?_
            rotate_left
            · first | (intro w hSw; (try dsimp only at hSw); go_simp; done) | (intro w hSw; (try dsimp only at hSw); go_simp; with_reducible rfl)
            try simp only [Act.put, List.setIfInBounds_toArray, List.set_cons_zero, List.set_cons_succ, List.getElem_toArray, List.getElem_cons_succ, List.getElem_cons_zero]
            refine wpAnyH_done (by kernel_rfl) ?_ _
            clear K6
            go_wp2
            go_roundw
            case rel => exact ⟨pl.take m1, s', tr'.set m 0, by go_num, hsb', hlm, L9, F9, Z9, S9, X9, T9, O9, Lib.hid B9.out.drew⟩
            case measure => simp [intOf, lenV]; exact hms
    · have g1' : ¬ (m : Int) < (n : Int) := by omega
      have RO : Hid (R = .found pl s) := by
        show R = _
        rw [← HFI.out]
        exact fin_yes _ _ _ _ _ _ (by rw [HM.out, CL.out]; omega)
      obtain ⟨xl, r0, r1, r2, r3, f0, f1, f2, f3⟩ := BoxP.facts XB.out
      have P : Hid (Below w.heap.size w (set4 wr w.heap.size (.int .i64 1) (.slice vsl m vcap) (.int .i64 (s : Nat)) (.int .i64 0))) := set4_below HB.out (Nat.le_refl _) _ _ _ _
      have O9 : Hid ((set4 wr w.heap.size (.int .i64 1) (.slice vsl m vcap) (.int .i64 (s : Nat)) (.int .i64 0)).ownsRow w.heap.size 34 2 (.slice vsl m vcap) pl.length (enCells pl)) := by
        have o1 := own_set4 OR.out (b := w.heap.size) (fun e => by have := (OR.out.lt _ e).1; omega) (.int .i64 1) (.slice vsl m vcap) (.int .i64 (s : Nat)) (.int .i64 0)
        rw [HM.out]
        exact own_mono o1 (by omega)
      unfold set4 at P O9
      clear XB TB OR HFI HZE HTL HB
      go_wp2
      refine bodyPost_ret (v := .agg #[.int .i64 1, .slice vsl m vcap, .int .i64 (s : Nat), .int .i64 0]) (by simp [results, Try.results112, go_sem, r0, r1, r2, r3]) rfl ⟨.slice vsl m vcap, by rw [RO.out]; rfl, by rw [RO.out]; exact O9.out, P.out⟩
end Go.Proofs.Ytdmfljejlhlbnaa
namespace Go.Proofs.Ytdmfljejlhlbnaa
open Go.RowKit
set_option linter.unusedVariables false

/-- Of the blocks that were there only block b may have turned. -/
structure Onl (b : Nat) (w w' : World) : Prop where
  os : w'.os = w.os
  tape : w'.tape = w.tape
  output : w'.output = w.output
  size : w.heap.size ≤ w'.heap.size
  block : ∀ k, k < w.heap.size → k ≠ b → w'.heap[k]? = w.heap[k]?
theorem Onl.refl (b : Nat) (w : World) : Onl b w w := ⟨rfl, rfl, rfl, Nat.le_refl _, fun _ _ _ => rfl⟩
theorem Onl.trans {b : Nat} {u v w : World} (h : Onl b u v) (k : Onl b v w) : Onl b u w :=
  ⟨k.os.trans h.os, k.tape.trans h.tape, k.output.trans h.output, Nat.le_trans h.size k.size, fun i hi hb => (k.block i (Nat.lt_of_lt_of_le hi h.size) hb).trans (h.block i hi hb)⟩
theorem Onl.drew {b : Nat} {u v : World} (h : Onl b u v) : Onl b u v.drew := ⟨h.os, h.tape, h.output, h.size, h.block⟩
theorem Onl.setCell {b : Nat} {u v : World} (h : Onl b u v) (o : Nat) (x : Value) : Onl b u (v.setCell ⟨b, o, none⟩ x) :=
  h.trans ⟨rfl, rfl, rfl, by simp [World.setCell], fun k _ hk => Below.heap_setCell _ _ _ _ hk⟩
theorem Onl.of_below {b : Nat} {u v : World} (h : Below u.heap.size u v) : Onl b u v := ⟨h.os, h.tape, h.output, h.size, fun k hk _ => h.block k hk⟩
theorem Onl.below {b : Nat} {u v w : World} (h : Below u.heap.size u v) (hb : u.heap.size ≤ b) (k : Onl b v w) : Below u.heap.size u w :=
  ⟨k.os.trans h.os, k.tape.trans h.tape, k.output.trans h.output, Nat.le_trans h.size k.size, fun i hi => (k.block i (Nat.lt_of_lt_of_le hi h.size) (by omega)).trans (h.block i hi)⟩
theorem Onl.cell {b : Nat} {w w' : World} (h : Onl b w w') {c o : Nat} (hc : c < w.heap.size) (hb : c ≠ b) : w'.cell? ⟨c, o, none⟩ = w.cell? ⟨c, o, none⟩ := World.cell?_of_block (w := w) (h.block c hc hb)

/-- The seeker: the table, the top, the ids, the budget, the steps, and whether it is used up. -/
def SeekAt (w : World) (kb : Nat) (a b c d : Value) (bud s : Nat) (out : Bool) : Prop := w.heap[kb]? = some (.cells #[a, b, c, d, .int .i64 (bud : Nat), .int .i64 (s : Nat), .bool out] 136)
theorem SeekAt.facts {w : World} {kb : Nat} {a b c d : Value} {bud s : Nat} {out : Bool} (h : SeekAt w kb a b c d bud s out) : kb < w.heap.size ∧ w.cell? ⟨kb, 0, none⟩ = some a ∧ w.cell? ⟨kb, 1, none⟩ = some b ∧ w.cell? ⟨kb, 2, none⟩ = some c ∧ w.cell? ⟨kb, 3, none⟩ = some d ∧ w.cell? ⟨kb, 4, none⟩ = some (.int .i64 (bud : Nat)) ∧ w.cell? ⟨kb, 5, none⟩ = some (.int .i64 (s : Nat)) ∧ w.cell? ⟨kb, 6, none⟩ = some (.bool out) ∧ w.frozen? ⟨kb, 5, none⟩ = false ∧ w.frozen? ⟨kb, 6, none⟩ = false := by
  unfold SeekAt at h
  exact ⟨(Array.getElem?_eq_some_iff.1 h).1, by simp [World.cell?, h], by simp [World.cell?, h], by simp [World.cell?, h], by simp [World.cell?, h], by simp [World.cell?, h], by simp [World.cell?, h], by simp [World.cell?, h], by simp [World.frozen?, h], by simp [World.frozen?, h]⟩
theorem SeekAt.of {w w' : World} {kb : Nat} {a b c d : Value} {bud s : Nat} {out : Bool} (h : SeekAt w kb a b c d bud s out) (hb : Below w.heap.size w w') : SeekAt w' kb a b c d bud s out := (hb.block kb h.facts.1).trans h
theorem SeekAt.step {w : World} {kb : Nat} {a b c d : Value} {bud s : Nat} {out : Bool} (h : SeekAt w kb a b c d bud s out) : SeekAt (w.setCell ⟨kb, 5, none⟩ (.int .i64 ((s : Int) + 1))) kb a b c d bud (s + 1) out := by
  have := heap_setCell_same w kb 5 _ 136 (.int .i64 ((s : Int) + 1)) h
  unfold SeekAt
  rw [this]
  simp
theorem SeekAt.used {w : World} {kb : Nat} {a b c d : Value} {bud s : Nat} {out : Bool} (h : SeekAt w kb a b c d bud s out) : SeekAt (w.setCell ⟨kb, 6, none⟩ (.bool true)) kb a b c d bud s true := by
  have := heap_setCell_same w kb 6 _ 136 (.bool true) h
  unfold SeekAt
  rw [this]
  simp
/-- A slice of places in another block. -/
def PlsN (kb : Nat) (w : World) (sl : Option Addr) (pl : List LPl) : Prop := pl = [] ∨ ∃ c o, sl = some ⟨c, o, none⟩ ∧ PlAt w c o pl ∧ kb < c
theorem PlsN.pls {kb : Nat} {w : World} {sl : Option Addr} {pl : List LPl} (h : PlsN kb w sl pl) : Pls w sl pl := by
  rcases h with h | ⟨c, o, e, h, _⟩
  · exact .inl h
  · exact .inr ⟨c, o, e, h⟩
theorem PlsN.onl {kb : Nat} {w w' : World} {sl : Option Addr} {pl : List LPl} (h : PlsN kb w sl pl) (k : Onl kb w w') : PlsN kb w' sl pl := by
  rcases h with h | ⟨c, o, e, h, hc⟩
  · exact .inl h
  · exact .inr ⟨c, o, e, ⟨Nat.lt_of_lt_of_le h.lt k.size, fun i hi => ⟨(k.cell h.lt (by omega)).trans (h.cell i hi).1, (k.cell h.lt (by omega)).trans (h.cell i hi).2⟩⟩, hc⟩
/-- What the search leaves behind it. -/
def PostF (kb : Nat) (a b c d : Value) (bud : Nat) (w' : World) (v : Value) (ok : Bool) : SRes → Prop
  | .found p s => ok = true ∧ (∃ psl pcap, v = .slice psl p.length pcap ∧ PlsN kb w' psl p) ∧ SeekAt w' kb a b c d bud s false
  | .none s => ok = false ∧ SeekAt w' kb a b c d bud s false
  | .out s => ok = false ∧ SeekAt w' kb a b c d bud s true
/-- How the search comes back. -/
def FromP (kb : Nat) (a b c d : Value) (bud : Nat) (w : World) (r : SRes) (e : Ending) (w' : World) : Prop := ∃ v ok, e = .returned (.tuple #[v, .bool ok]) ∧ PostF kb a b c d bud w' v ok r ∧ Onl kb w w'
/-- What stands behind a choice that fits. -/
def orR (r : SRes) (g : Nat → SRes) : SRes := match r with | .none s => g s | .found p s => .found p s | .out s => .out s
/-- Places put behind places: both ways of it. -/
theorem app27 {w : World} {B : Nat} {v : Value} {cs : List LPl} (h : w.ownsRow B 34 2 v cs.length (enCells cs)) {psl : Option Addr} {pcap : Nat} {pl : List LPl} (hp : Pls w psl pl) (hB : B ≤ w.heap.size) (hl : cs.length + pl.length ≤ 100000000) :
    ∃ v9 w9, (Builtin.append_ #[27, 27] 27 #[v, .slice psl pl.length pcap]).run Try.prog w = .ok v9 w9 ∧ w9.ownsRow B 34 2 v9 (cs ++ pl).length (enCells (cs ++ pl)) ∧ w.grownBy w9 v.ownBlock ∧ ∀ j, v.ownBlock = some j → B ≤ j := by
  obtain ⟨i3, hi3, hd0, hd1, hd2⟩ := info_parts info34
  have hlo : ∀ j, v.ownBlock = some j → B ≤ j := fun j hj => (h.lt j hj).1
  obtain ⟨sl, cap, rfl⟩ := own_v h
  by_cases he : pl = []
  · subst he
    refine ⟨_, w, app_none27 w 27 sl cs.length cap ?_ psl pcap, by rw [List.append_nil]; exact h, ⟨rfl, rfl, rfl, Nat.le_refl _, fun _ _ _ => rfl⟩, hlo⟩
    rcases h.2 with ⟨hv, h0⟩ | ⟨g, cp, cur, hv, _, _, h5, _⟩
    · rw [h0]; exact Nat.zero_le _
    · cases hv; exact h5
  · rcases hp with e | ⟨c, o, rfl, pa⟩
    · exact absurd e he
    · obtain ⟨g, c9, w9, hr, own9, grow9, -, -⟩ := run_append_lies (P := Try.prog) w 27 27 B 34 i3 (.agg #[.int .i64 0, .int .i64 0]) 2 16 Try.underlying27 hi3 hd0 hd1 hd2 rfl (by decide) _ _ _ h ⟨c, o, none⟩ pl.length pcap (enCells pl) (enCells_len pl) (pl_cells pa) (enCells_one pl) (List.length_pos_iff.2 he) (by unfold maxLen; omega) (by omega) hB w.heap.size rfl
      exact ⟨_, w9, hr, by rw [List.length_append, enCells_app]; exact own9, grow9, hlo⟩
theorem step_append_run (w : World) {ops : Array Oper} {o : Oper} {a : Act} {K : Act → World → Prop} {Q : Exit → Act → World → Prop} {E : Prop} (hgd : o.guard = none) (s x : Operand) (t tn : TypeId)
    (ho : o.op = .call { callee := .builtin .append, args := #[s, x], argTypes := #[t, tn] }) (vs vx : Value) (hs : a.eval s = vs) (hx : a.eval x = vx)
    (v' : Value) (w' : World) (hr : (Builtin.append_ #[t, tn] o.type #[vs, vx]).run Try.prog w = .ok v' w') (h : K (a.put o.dst v') w') : if Region.wanted o (yielded ops a.tmps) = true then Oper.wp Try.prog o a w K Q else E := by
  have hw : Region.wanted o (yielded ops a.tmps) = true := by simp [Region.wanted, hgd]
  rw [if_pos hw]
  exact Lib.wp_append_run w s x t tn ho vs vx hs hx v' w' hr h
theorem lit27 (w : World) (x y : Int) : Pls (w.alloc (.cells #[.int .i64 x, .int .i64 y] 34)) (some ⟨w.heap.size, 0, none⟩) [(x, y)] :=
  .inr ⟨w.heap.size, 0, rfl, by simp, fun i hi => by
    have h0 : i = 0 := by simp at hi; omega
    subst h0
    exact (TwoAt.new w x y).cells⟩
theorem lit27' (w : World) (o : Obj) (x y : Int) : Pls ((w.alloc o).alloc (.cells #[.int .i64 x, .int .i64 y] 34)) (some ⟨w.heap.size + 1, 0, none⟩) [(x, y)] := by
  have := lit27 (w.alloc o) x y
  rwa [show (w.alloc o).heap.size = w.heap.size + 1 by simp] at this
theorem litK27 {w w' : World} {g : Nat} {pl : List LPl} {row : Option Nat} (h : Pls w (some ⟨g, 0, none⟩) pl) (hg : w.grownBy w' row) (hr : some g ≠ row) : Pls w' (some ⟨g, 0, none⟩) pl := by
  rcases h with h | ⟨c, o, e, h⟩
  · exact .inl h
  · cases e
    exact .inr ⟨g, 0, rfl, Nat.lt_of_lt_of_le h.lt hg.size, fun i hi => ⟨(hg.cell_far _ h.lt hr).trans (h.cell i hi).1, (hg.cell_far _ h.lt hr).trans (h.cell i hi).2⟩⟩
theorem own_e34' (w : World) (o : Obj) : ((w.alloc o).alloc (.cells #[] 34)).ownsRow w.heap.size 34 2 (.slice (some ⟨w.heap.size + 1, 0, none⟩) 0 0) 0 (enCells []) := by
  have := own_e34 (w.alloc o)
  rw [show (w.alloc o).heap.size = w.heap.size + 1 by simp] at this
  exact own_mono this (by omega)
theorem all_take (f : LPl → Bool) (pl : List LPl) (j : Nat) (h : j < pl.length) : (pl.take (j + 1)).all f = ((pl.take j).all f && f pl[j]) := by
  rw [List.take_succ_eq_append_getElem h, List.all_append]
  simp

set_option maxRecDepth 100000 in
set_option maxHeartbeats 8000000 in
/-- spec's from. -/
theorem from_any (sl : Option Addr) (cap : Nat) (sl2 : Option Addr) (cap2 : Nat) (sl3 : Option Addr) (cap3 : Nat) (rs : List LSt) (ps : List LPr) (top : Int) (ids : List Int) (bud kb : Nat) (wb : World) (hkb : wb.heap.size ≤ kb) (hbu : bud ≤ 2000) (hrn : rs.length ≤ 1048576) (hl : ids.length ≤ 400) (hz : Sts wb sl rs) (hp : Prs wb sl2 ps) (TR : TabR rs ps) (hid : ∀ x ∈ ids, 1 ≤ x ∧ x ≤ 999) (hi : Ints wb sl3 ids) :
    ∀ (q : Nat) (pl : List LPl) (s : Nat) (psl : Option Addr) (pcap : Nat) (w : World), pl.length + q = ids.length → s ≤ bud → Below wb.heap.size wb w → SeekAt w kb (.slice sl rs.length cap) (.slice sl2 ps.length cap2) (.int .i64 top) (.slice sl3 ids.length cap3) bud s false → PlsN kb w psl pl → (∀ x ∈ pl, Small x) →
    Calls Try.prog 111 #[.pointer (some ⟨kb, 0, none⟩), .slice psl pl.length pcap] w (FromP kb (.slice sl rs.length cap) (.slice sl2 ps.length cap2) (.int .i64 top) (.slice sl3 ids.length cap3) bud w (seek (fitB ps) bud ((ids.map (chF rs top)).drop pl.length) pl s)) := by
  have E4' : Hid (∀ id W, Below wb.heap.size wb W → Calls Try.prog 69 #[TV sl rs.length cap sl2 ps.length cap2, .int .i64 id, .int .i64 top] W fun e w' => ∃ v, e = .returned v ∧ w'.ownsRow W.heap.size 2 1 v (rs.flatMap (domF id top)).length (valsZ (rs.flatMap (domF id top))) ∧ Below W.heap.size W w') := fun id W hW => by
    have := sdo_any sl cap sl2 cap2 rs ps id top W hrn (hz.below hW) (hp.below hW)
    rwa [show domA rs ps id top = rs.flatMap (domF id top) from if_pos (B_yes TR)] at this
  have EM' : Hid (∀ a c b d W, 0 ≤ c ∧ c ≤ 1000 → 0 ≤ d ∧ d ≤ 1000 → Below wb.heap.size wb W → Calls Try.prog 91 #[TV sl rs.length cap sl2 ps.length cap2, .int .i64 a, .int .i64 c, .int .i64 b, .int .i64 d] W fun e w' => e = .returned (.bool (mayL ps a c b d)) ∧ Below W.heap.size W w') := fun a c b d W hc hd hW => may_any sl rs.length cap sl2 cap2 ps a c b d W (by have := TR.1.2.2; omega) hc hd (hp.below hW)
  have FM := Lib.hid (fun pl x => fit_may rs ps pl x TR)
  have DS := Lib.hid (fun id x => dom_small rs ps id top x TR)
  have DL := Lib.hid (fun id => dom_le rs ps id top TR)
  have HID := Lib.hid hid
  have HI := Lib.hid hi
  clear hz hp TR hid hi
  generalize rs.length = rn at *
  generalize ps.length = pn at *
  intro q
  induction q with
  | zero =>
    intro pl s psl pcap w hq hs HB0 SK0 PN0 SM0
    have e : (ids.map (chF rs top)).drop pl.length = [] := List.drop_eq_nil_of_le (by simp; omega)
    rw [e, seek]
    obtain ⟨q0, q1, q2, q3, q4, q5, q6, q7, f5, f6⟩ := SK0.facts
    have hqq : pl.length = ids.length := by omega
    have PP := Lib.hid (And.intro PN0 SK0)
    clear SK0 PN0 E4' EM' FM DS DL HID HI e
    rw [hqq]
    have HQ := Lib.hid hqq
    clear hqq hq
    generalize ids.length = n at *
    go_enter Try.func111, Try.ntmps111
    go_wp2
    refine bodyPost_ret (v := .tuple #[.slice psl n pcap, .bool true]) (by simp [results, Try.results111, go_sem]) rfl ⟨_, true, rfl, ⟨rfl, ⟨psl, pcap, by rw [HQ.out], PP.out.1⟩, PP.out.2⟩, Onl.refl _ _⟩
  | succ q ih =>
    intro pl s psl pcap w hq hs HB0 SK0 PN0 SM0
    have hmn : pl.length < ids.length := by omega
    obtain ⟨ic, io, rfl, IA⟩ : ∃ c o, sl3 = some ⟨c, o, none⟩ ∧ IntsAt wb c o ids := by
      rcases HI.out with e | h
      · rw [e] at hmn; simp at hmn
      · exact h
    have hic : w.cell? ⟨ic, io + pl.length, none⟩ = some (.int .i64 (ids.getD pl.length 0)) := (HB0.cell IA.1).trans (IA.2 _ hmn)
    have hib : ic < w.heap.size := Nat.lt_of_lt_of_le IA.1 HB0.size
    have hdr : (ids.map (chF rs top)).drop pl.length = chF rs top (ids.getD pl.length 0) :: (ids.map (chF rs top)).drop (pl.length + 1) := by
      rw [List.drop_eq_getElem_cons (by simpa using hmn)]
      simp [hmn]
    have hidm := HID.out (ids.getD pl.length 0) (by rw [List.getD_eq_getElem?_getD, List.getElem?_eq_getElem hmn]; exact List.getElem_mem hmn)
    rw [hdr, seek]
    have E4 := Lib.hid (E4'.out (ids.getD pl.length 0))
    have IH : Hid (∀ (z : Int) (s : Nat) (v : Value) (w : World), s ≤ bud → Below wb.heap.size wb w → SeekAt w kb (.slice sl rn cap) (.slice sl2 pn cap2) (.int .i64 top) (.slice (some ⟨ic, io, none⟩) ids.length cap3) bud s false → (∃ psl pcap, v = .slice psl (pl.length + 1) pcap ∧ PlsN kb w psl (pl ++ [(ids.getD pl.length 0, z)])) → Small (ids.getD pl.length 0, z) →
      Calls Try.prog 111 #[.pointer (some ⟨kb, 0, none⟩), v] w (FromP kb (.slice sl rn cap) (.slice sl2 pn cap2) (.int .i64 top) (.slice (some ⟨ic, io, none⟩) ids.length cap3) bud w (seek (fitB ps) bud ((ids.map (chF rs top)).drop (pl.length + 1)) (pl ++ [(ids.getD pl.length 0, z)]) s))) := fun z s v w h1 h2 h3 h4 h5 => by
      obtain ⟨psl, pcap, rfl, h6⟩ := h4
      have := ih (pl ++ [(ids.getD pl.length 0, z)]) s psl pcap w (by rw [List.length_append]; simp; omega) h1 h2 h3 h6 (fun x hx => by
        rcases List.mem_append.1 hx with h | h
        · exact SM0 x h
        · rw [List.mem_singleton.1 h]; exact h5)
      rw [List.length_append] at this
      exact this
    have CF := Lib.hid (show chF rs top (ids.getD pl.length 0) = (rs.flatMap (domF (ids.getD pl.length 0) top)).map fun c => (ids.getD pl.length 0, c) from rfl)
    have DZ := Lib.hid (fun x hx => DS.out (ids.getD pl.length 0) x hx)
    have DN := DL.out (ids.getD pl.length 0)
    have SK := Lib.hid SK0
    have PN := Lib.hid PN0
    have SM := Lib.hid SM0
    have HB := Lib.hid HB0
    clear ih hdr IA HI HID DS DL E4' SK0 PN0 SM0 HB0 hq
    generalize (ids.map (chF rs top)).drop (pl.length + 1) = CD at *
    generalize hcc : chF rs top (ids.getD pl.length 0) = cs at *
    generalize ids.getD pl.length 0 = id at *
    generalize hzz : rs.flatMap (domF id top) = zs at *
    clear hzz hcc
    generalize hR : tryL (fitB ps) bud (seek (fitB ps) bud CD) cs pl s = R
    have HR : Hid (tryL (fitB ps) bud (seek (fitB ps) bud CD) (cs.drop 0) pl s = R) := hR
    clear hR
    generalize hM : pl.length = m at *
    have HM := Lib.hid hM
    clear hM
    generalize ids.length = n at *
    obtain ⟨q0, q1, q2, q3, q4, q5, q6, q7, f5, f6⟩ := SK.out.facts
    have hmn' : ¬ (m : Int) = (n : Int) := by omega
    have hmn2 : (m : Int) < (n : Int) := by omega
    have hm0 : (0 : Int) ≤ (m : Int) := by omega
    have K4 : Hid (∀ W, Below w.heap.size w W → kb < W.heap.size ∧ W.cell? ⟨kb, 0, none⟩ = some (.slice sl rn cap) ∧ W.cell? ⟨kb, 1, none⟩ = some (.slice sl2 pn cap2) ∧ W.cell? ⟨kb, 2, none⟩ = some (.int .i64 top)) := fun W hW => ⟨Nat.lt_of_lt_of_le q0 hW.size, (hW.cell q0).trans q1, (hW.cell q0).trans q2, (hW.cell q0).trans q3⟩
    go_enter Try.func111, Try.ntmps111
    go_wp2_with fail
    refine wp_region_held_drew (S := fun W => kb < W.heap.size ∧ W.cell? ⟨kb, 0, none⟩ = some (.slice sl rn cap) ∧ W.cell? ⟨kb, 1, none⟩ = some (.slice sl2 pn cap2) ∧ W.cell? ⟨kb, 2, none⟩ = some (.int .i64 top)) (by kernel_rfl) ?_ (fun hHeld => ?_)
    · exact K4.out _ (Below.refl _ _).drew
    refine wpAnyH_take (i := 0) (oi := _) (v := ?_) rfl (by kernel_rfl) (by kernel_rfl) (by kernel_rfl) (fun _ _ _ h => h) (Or.inl ⟨by rfl, ?_⟩) (by assumption) ?_
    rotate_left
    · first | (intro w hSw; (try dsimp only at hSw); go_simp; done) | (intro w hSw; (try dsimp only at hSw); go_simp; with_reducible rfl)
    try simp only [Act.put, List.setIfInBounds_toArray, List.set_cons_zero, List.set_cons_succ, List.getElem_toArray, List.getElem_cons_zero]
    refine wpAnyH_take (i := 1) (oi := _) (v := ?_) rfl (by kernel_rfl) (by kernel_rfl) (by kernel_rfl) (fun _ _ _ h => h) (Or.inl ⟨by rfl, ?_⟩) (by assumption) ?_
    rotate_left
    · first | (intro w hSw; (try dsimp only at hSw); go_simp; done) | (intro w hSw; (try dsimp only at hSw); go_simp; with_reducible rfl)
    try simp only [Act.put, List.setIfInBounds_toArray, List.set_cons_zero, List.set_cons_succ, List.getElem_toArray, List.getElem_cons_succ, List.getElem_cons_zero]
    refine wpAnyH_take (i := 2) (oi := _) (v := ?_) rfl (by kernel_rfl) (by kernel_rfl) (by kernel_rfl) (fun _ _ _ h => h) (Or.inl ⟨by rfl, ?_⟩) (by assumption) ?_
    rotate_left
    · first | (intro w hSw; (try dsimp only at hSw); go_simp; done) | (intro w hSw; (try dsimp only at hSw); go_simp; with_reducible rfl)
    try simp only [Act.put, List.setIfInBounds_toArray, List.set_cons_zero, List.set_cons_succ, List.getElem_toArray, List.getElem_cons_succ, List.getElem_cons_zero]
    refine wpAnyH_take (i := 3) (oi := _) (v := ?_) rfl (by kernel_rfl) (by kernel_rfl) (by kernel_rfl) (fun _ _ _ h => h) (Or.inl ⟨by rfl, ?_⟩) (by assumption) ?_
    rotate_left
    · first | (intro w hSw; (try dsimp only at hSw); go_simp; done) | (intro w hSw; (try dsimp only at hSw); go_simp; with_reducible rfl)
    try simp only [Act.put, List.setIfInBounds_toArray, List.set_cons_zero, List.set_cons_succ, List.getElem_toArray, List.getElem_cons_succ, List.getElem_cons_zero]
    refine wpAnyH_take (i := 4) (oi := _) (v := ?_) rfl (by kernel_rfl) (by kernel_rfl) (by kernel_rfl) (fun _ _ _ h => h) (Or.inl ⟨by rfl, ?_⟩) (by assumption) ?_
    rotate_left
    · first | (intro w hSw; (try dsimp only at hSw); go_simp; done) | (intro w hSw; (try dsimp only at hSw); go_simp; with_reducible rfl)
    try simp only [Act.put, List.setIfInBounds_toArray, List.set_cons_zero, List.set_cons_succ, List.getElem_toArray, List.getElem_cons_succ, List.getElem_cons_zero]
    refine wpAnyH_take (i := 5) (oi := _) (v := ?_) rfl (by kernel_rfl) (by kernel_rfl) (by kernel_rfl) (fun _ _ _ h => h) (Or.inl ⟨by rfl, ?_⟩) (by assumption) ?_
    rotate_left
    · first | (intro w hSw; (try dsimp only at hSw); go_simp; done) | (intro w hSw; (try dsimp only at hSw); go_simp; with_reducible rfl)
    try simp only [Act.put, List.setIfInBounds_toArray, List.set_cons_zero, List.set_cons_succ, List.getElem_toArray, List.getElem_cons_succ, List.getElem_cons_zero]
    refine wpAnyH_take (i := 6) (oi := _) (v := ?_) rfl (by kernel_rfl) (by kernel_rfl) (by kernel_rfl) (fun _ _ _ h => h) (Or.inl ⟨by rfl, ?_⟩) (by assumption) ?_
    rotate_left
    · first | (intro w hSw; (try dsimp only at hSw); go_simp; done) | (intro w hSw; (try dsimp only at hSw); go_simp; with_reducible rfl)
    try simp only [Act.put, List.setIfInBounds_toArray, List.set_cons_zero, List.set_cons_succ, List.getElem_toArray, List.getElem_cons_succ, List.getElem_cons_zero]
    refine wpAnyH_take (i := 7) (oi := _) (v := ?_) rfl (by kernel_rfl) (by kernel_rfl) (by kernel_rfl) (fun _ _ _ h => h) (Or.inl ⟨by rfl, ?_⟩) (by assumption) ?_
    rotate_left
    · first | (intro w hSw; (try dsimp only at hSw); go_simp; done) | (intro w hSw; (try dsimp only at hSw); go_simp; with_reducible rfl)
    try simp only [Act.put, List.setIfInBounds_toArray, List.set_cons_zero, List.set_cons_succ, List.getElem_toArray, List.getElem_cons_succ, List.getElem_cons_zero]
    refine wpAnyH_take (i := 8) (oi := _) (v := ?_) rfl (by kernel_rfl) (by kernel_rfl) (by kernel_rfl) (fun _ _ _ h => h) (Or.inl ⟨by rfl, ?_⟩) (by assumption) ?_
    rotate_left
    · first | (intro w hSw; (try dsimp only at hSw); go_simp; done) | (intro w hSw; (try dsimp only at hSw); go_simp; with_reducible rfl)
    try simp only [Act.put, List.setIfInBounds_toArray, List.set_cons_zero, List.set_cons_succ, List.getElem_toArray, List.getElem_cons_succ, List.getElem_cons_zero]
    refine wpAnyH_ready (rs := [9]) (by kernel_rfl) (by simp) ?_
    refine AllReadyH.cons rfl (fun K hK => ?_) AllReadyH.nil
    go_simp
    go_wp2_with (go_at_call 69; refine (E4.out _ HB.out.drew).mono ?_; rintro e w1 ⟨v1, rfl, o1, b1⟩)
    have F1 : Hid (Below w.heap.size w w1) := bT ((Below.refl w.heap.size w).drew) b1
    have O1 := Lib.hid o1
    clear b1 o1
    refine hK.out _ _ ?_ (fun hHeld => ?_)
    · exact K4.out _ F1.out
    clear hK K
    refine wpAnyH_take (i := 10) (oi := _) (v := ?_) rfl (by kernel_rfl) (by kernel_rfl) (by kernel_rfl) (fun _ _ _ h => h) (Or.inl ⟨by rfl, ?_⟩) (by assumption) ?_
    rotate_left
    · first | (intro w hSw; (try dsimp only at hSw); go_simp; done) | (intro w hSw; (try dsimp only at hSw); go_simp; with_reducible rfl)
    try simp only [Act.put, List.setIfInBounds_toArray, List.set_cons_zero, List.set_cons_succ, List.getElem_toArray, List.getElem_cons_succ, List.getElem_cons_zero]
    refine wpAnyH_done (by kernel_rfl) ?_ _
    obtain ⟨dsl, dcap, rfl, di0⟩ := own_ints O1.out
    have DB : Hid (∀ c o, dsl = some ⟨c, o, none⟩ → c ≠ kb) := fun c o e => by
      subst e
      rcases O1.out.2 with ⟨hv, _⟩ | ⟨g, cp, cur, hv, hb, _⟩
      · cases hv
      · cases hv
        have h2 : w.heap.size ≤ c := hb
        omega
    have DI := Lib.hid di0
    have SK1 := Lib.hid (SK.out.of F1.out)
    have B1 := Lib.hid (bT HB.out F1.out)
    have PN1 := Lib.hid (PN.out.onl (Onl.of_below F1.out))
    have N1 : Hid (Onl kb w w1) := Onl.of_below F1.out
    have hcl : Hid (cs.length = zs.length) := by show _ = _; rw [CF.out, List.length_map]
    clear di0 O1 SK PN HB K4 E4 F1 q0 q1 q2 q3 q4 q5 q6 q7 f5 f6
    generalize hZN : zs.length = zn at *
    have HZN := Lib.hid hZN
    clear hZN
    go_wp2_with fail
    go_loopw [8] (fun v wr => ∃ (i s' : Nat), v = .int .i64 i ∧ i ≤ zn ∧ s' ≤ bud ∧ Hid (tryL (fitB ps) bud (seek (fitB ps) bud CD) (cs.drop i) pl s' = R) ∧ Hid (SeekAt wr kb (.slice sl rn cap) (.slice sl2 pn cap2) (.int .i64 top) (.slice (some ⟨ic, io, none⟩) n cap3) bud s' false) ∧ Hid (Onl kb w1 wr)) (fun v _ => zn - (intOf v).toNat)
    case atStart => exact ⟨0, s, rfl, Nat.zero_le _, hs, HR, SK1, Onl.refl _ _⟩
    case round =>
      obtain ⟨i, s', rfl, hi, hs', HR2, SK2, HON⟩ := hrel
      clear HR SK1
      have hi0 : (0 : Int) ≤ (i : Int) := by omega
      obtain ⟨q0, q1, q2, q3, q4, q5, q6, q7, f5, f6⟩ := SK2.out.facts
      by_cases g1 : i < zn
      · have g1' : (i : Int) < (zn : Int) := by omega
        have hlt : i < zs.length := by rw [HZN.out]; exact g1
        have hltc : i < cs.length := by rw [hcl.out]; exact g1
        obtain ⟨dc, di, rfl, DA⟩ : ∃ c o, dsl = some ⟨c, o, none⟩ ∧ IntsAt w1 c o zs := by
          rcases DI.out with e | h
          · rw [e] at hlt; simp at hlt
          · exact h
        have hdk : dc ≠ kb := DB.out dc di rfl
        have hdl : dc < w1.heap.size := DA.1
        have hdc : wr.cell? ⟨dc, di + i, none⟩ = some (.int .i64 (zs.getD i 0)) := (HON.out.cell hdl hdk).trans (DA.2 i hlt)
        have ZS := DZ.out (zs.getD i 0) (by rw [List.getD_eq_getElem?_getD, List.getElem?_eq_getElem hlt]; exact List.getElem_mem hlt)
        have CI : Hid (cs[i] = (id, zs.getD i 0)) := by
          show _ = _
          simp only [CF.out, List.getElem_map]
          simp [hlt]
        have K8 : Hid (kb < wr.heap.size ∧ wr.cell? ⟨kb, 4, none⟩ = some (.int .i64 (bud : Nat)) ∧ wr.cell? ⟨kb, 5, none⟩ = some (.int .i64 (s' : Nat))) := ⟨q0, q5, q6⟩
        by_cases g2 : s' = bud
        · subst g2
          have RO : Hid (R = .out s') := by
            show R = _
            rw [← HR2.out]
            exact try_out _ _ _ _ _ _ hltc
          have US := Lib.hid SK2.out.used
          have NN := Lib.hid ((N1.out.trans HON.out).setCell 6 (.bool true))
          clear HR2 SK2 HON CI ZS hdc
          go_wp2_with fail
          refine wp_region_held_drew (S := fun W => kb < W.heap.size ∧ W.cell? ⟨kb, 4, none⟩ = some (.int .i64 (s' : Nat)) ∧ W.cell? ⟨kb, 5, none⟩ = some (.int .i64 (s' : Nat))) (by kernel_rfl) ?_ (fun hHeld => ?_)
          · exact K8.out
          refine wpAnyH_take (i := 0) (oi := _) (v := ?_) rfl (by kernel_rfl) (by kernel_rfl) (by kernel_rfl) (fun _ _ _ h => h) (Or.inl ⟨by rfl, ?_⟩) (by assumption) ?_
          rotate_left
          · first | (intro w hSw; (try dsimp only at hSw); go_simp; done) | (intro w hSw; (try dsimp only at hSw); go_simp; with_reducible rfl)
          try simp only [Act.put, List.setIfInBounds_toArray, List.set_cons_zero, List.set_cons_succ, List.getElem_toArray, List.getElem_cons_zero]
          refine wpAnyH_take (i := 1) (oi := _) (v := ?_) rfl (by kernel_rfl) (by kernel_rfl) (by kernel_rfl) (fun _ _ _ h => h) (Or.inl ⟨by rfl, ?_⟩) (by assumption) ?_
          rotate_left
          · first | (intro w hSw; (try dsimp only at hSw); go_simp; done) | (intro w hSw; (try dsimp only at hSw); go_simp; with_reducible rfl)
          try simp only [Act.put, List.setIfInBounds_toArray, List.set_cons_zero, List.set_cons_succ, List.getElem_toArray, List.getElem_cons_succ, List.getElem_cons_zero]
          refine wpAnyH_take (i := 2) (oi := _) (v := ?_) rfl (by kernel_rfl) (by kernel_rfl) (by kernel_rfl) (fun _ _ _ h => h) (Or.inl ⟨by rfl, ?_⟩) (by assumption) ?_
          rotate_left
          · first | (intro w hSw; (try dsimp only at hSw); go_simp; done) | (intro w hSw; (try dsimp only at hSw); go_simp; with_reducible rfl)
          try simp only [Act.put, List.setIfInBounds_toArray, List.set_cons_zero, List.set_cons_succ, List.getElem_toArray, List.getElem_cons_succ, List.getElem_cons_zero]
          refine wpAnyH_take (i := 3) (oi := _) (v := ?_) rfl (by kernel_rfl) (by kernel_rfl) (by kernel_rfl) (fun _ _ _ h => h) (Or.inl ⟨by rfl, ?_⟩) (by assumption) ?_
          rotate_left
          · first | (intro w hSw; (try dsimp only at hSw); go_simp; done) | (intro w hSw; (try dsimp only at hSw); go_simp; with_reducible rfl)
          try simp only [Act.put, List.setIfInBounds_toArray, List.set_cons_zero, List.set_cons_succ, List.getElem_toArray, List.getElem_cons_succ, List.getElem_cons_zero]
          refine wpAnyH_take (i := 4) (oi := _) (v := ?_) rfl (by kernel_rfl) (by kernel_rfl) (by kernel_rfl) (fun _ _ _ h => h) (Or.inl ⟨by rfl, ?_⟩) (by assumption) ?_
          rotate_left
          · first | (intro w hSw; (try dsimp only at hSw); go_simp; done) | (intro w hSw; (try dsimp only at hSw); go_simp; with_reducible rfl)
          try simp only [Act.put, List.setIfInBounds_toArray, List.set_cons_zero, List.set_cons_succ, List.getElem_toArray, List.getElem_cons_succ, List.getElem_cons_zero]
          refine wpAnyH_take (i := 5) (oi := _) (v := ?_) rfl (by kernel_rfl) (by kernel_rfl) (by kernel_rfl) (fun _ _ _ h => h) (Or.inl ⟨by rfl, ?_⟩) (by assumption) ?_
          rotate_left
          · first | (intro w hSw; (try dsimp only at hSw); go_simp; done) | (intro w hSw; (try dsimp only at hSw); go_simp; with_reducible rfl)
          try simp only [Act.put, List.setIfInBounds_toArray, List.set_cons_zero, List.set_cons_succ, List.getElem_toArray, List.getElem_cons_succ, List.getElem_cons_zero]
          refine wpAnyH_take (i := 6) (oi := _) (v := ?_) rfl (by kernel_rfl) (by kernel_rfl) (by kernel_rfl) (fun _ _ _ h => h) (Or.inl ⟨by rfl, ?_⟩) (by assumption) ?_
          rotate_left
          · first | (intro w hSw; (try dsimp only at hSw); go_simp; done) | (intro w hSw; (try dsimp only at hSw); go_simp; with_reducible rfl)
          try simp only [Act.put, List.setIfInBounds_toArray, List.set_cons_zero, List.set_cons_succ, List.getElem_toArray, List.getElem_cons_succ, List.getElem_cons_zero]
          refine wpAnyH_take (i := 7) (oi := _) (v := ?_) rfl (by kernel_rfl) (by kernel_rfl) (by kernel_rfl) (fun _ _ _ h => h) (Or.inl ⟨by rfl, ?_⟩) (by assumption) ?_
          rotate_left
          · first | (intro w hSw; (try dsimp only at hSw); go_simp; done) | (intro w hSw; (try dsimp only at hSw); go_simp; with_reducible rfl)
          try simp only [Act.put, List.setIfInBounds_toArray, List.set_cons_zero, List.set_cons_succ, List.getElem_toArray, List.getElem_cons_succ, List.getElem_cons_zero]
          refine wpAnyH_take (i := 8) (oi := _) (v := ?_) rfl (by kernel_rfl) (by kernel_rfl) (by kernel_rfl) (fun _ _ _ h => h) (Or.inl ⟨by rfl, ?_⟩) (by assumption) ?_
          rotate_left
          · first | (intro w hSw; (try dsimp only at hSw); go_simp; done) | (intro w hSw; (try dsimp only at hSw); go_simp; with_reducible rfl)
          try simp only [Act.put, List.setIfInBounds_toArray, List.set_cons_zero, List.set_cons_succ, List.getElem_toArray, List.getElem_cons_succ, List.getElem_cons_zero]
          refine wpAnyH_done (by kernel_rfl) ?_ _
          go_wp2
          refine bodyPost_ret (v := .tuple #[.slice psl m pcap, .bool false]) (by simp [results, Try.results111, go_sem]) rfl ⟨_, false, rfl, by rw [RO.out]; exact ⟨rfl, US.out⟩, NN.out.drew⟩
        · have g2' : ¬ (s' : Int) = (bud : Int) := by omega
          have hsb : ((s' : Int) == (bud : Int)) = false := by simpa using g2'
          generalize hz : zs.getD i 0 = z at *
          have SS := Lib.hid SK2.out.step
          have NS := Lib.hid (HON.out.setCell 5 (.int .i64 ((s' : Int) + 1)))
          have TN : Hid (fitB ps pl (id, z) = false → tryL (fitB ps) bud (seek (fitB ps) bud CD) (cs.drop (i + 1)) pl (s' + 1) = R) := fun hf => by
            rw [← HR2.out]
            exact (try_no _ _ _ _ _ _ _ hltc g2 (by rw [CI.out]; exact hf)).symm
          have TY0 : Hid (fitB ps pl (id, z) = true → R = orR (seek (fitB ps) bud CD (pl ++ [(id, z)]) (s' + 1)) (fun s2 => tryL (fitB ps) bud (seek (fitB ps) bud CD) (cs.drop (i + 1)) pl s2)) := fun hf => by
            rw [← HR2.out, try_yes _ _ _ _ _ _ _ hltc g2 (by rw [CI.out]; exact hf), CI.out]
            cases seek (fitB ps) bud CD (pl ++ [(id, z)]) (s' + 1) <;> rfl
          have hda : w1.cell? ⟨dc, di + i, none⟩ = some (.int .i64 z) := by rw [← hz]; exact DA.2 i hlt
          clear hz HR2 CI hlt hltc hdc DA SK2
          go_wp2_with fail
          refine wp_region_held_drew (S := fun W => kb < W.heap.size ∧ W.cell? ⟨kb, 4, none⟩ = some (.int .i64 (bud : Nat)) ∧ W.cell? ⟨kb, 5, none⟩ = some (.int .i64 (s' : Nat))) (by kernel_rfl) ?_ (fun hHeld => ?_)
          · exact K8.out
          refine wpAnyH_take (i := 0) (oi := _) (v := ?_) rfl (by kernel_rfl) (by kernel_rfl) (by kernel_rfl) (fun _ _ _ h => h) (Or.inl ⟨by rfl, ?_⟩) (by assumption) ?_
          rotate_left
          · first | (intro w hSw; (try dsimp only at hSw); go_simp; done) | (intro w hSw; (try dsimp only at hSw); go_simp; with_reducible rfl)
          try simp only [Act.put, List.setIfInBounds_toArray, List.set_cons_zero, List.set_cons_succ, List.getElem_toArray, List.getElem_cons_zero]
          refine wpAnyH_take (i := 1) (oi := _) (v := ?_) rfl (by kernel_rfl) (by kernel_rfl) (by kernel_rfl) (fun _ _ _ h => h) (Or.inl ⟨by rfl, ?_⟩) (by assumption) ?_
          rotate_left
          · first | (intro w hSw; (try dsimp only at hSw); go_simp; done) | (intro w hSw; (try dsimp only at hSw); go_simp; with_reducible rfl)
          try simp only [Act.put, List.setIfInBounds_toArray, List.set_cons_zero, List.set_cons_succ, List.getElem_toArray, List.getElem_cons_succ, List.getElem_cons_zero]
          refine wpAnyH_take (i := 2) (oi := _) (v := ?_) rfl (by kernel_rfl) (by kernel_rfl) (by kernel_rfl) (fun _ _ _ h => h) (Or.inl ⟨by rfl, ?_⟩) (by assumption) ?_
          rotate_left
          · first | (intro w hSw; (try dsimp only at hSw); go_simp; done) | (intro w hSw; (try dsimp only at hSw); go_simp; with_reducible rfl)
          try simp only [Act.put, List.setIfInBounds_toArray, List.set_cons_zero, List.set_cons_succ, List.getElem_toArray, List.getElem_cons_succ, List.getElem_cons_zero]
          refine wpAnyH_take (i := 3) (oi := _) (v := ?_) rfl (by kernel_rfl) (by kernel_rfl) (by kernel_rfl) (fun _ _ _ h => h) (Or.inl ⟨by rfl, ?_⟩) (by assumption) ?_
          rotate_left
          · first | (intro w hSw; (try dsimp only at hSw); go_simp; done) | (intro w hSw; (try dsimp only at hSw); go_simp; with_reducible rfl)
          try simp only [Act.put, List.setIfInBounds_toArray, List.set_cons_zero, List.set_cons_succ, List.getElem_toArray, List.getElem_cons_succ, List.getElem_cons_zero]
          refine wpAnyH_take (i := 4) (oi := _) (v := ?_) rfl (by kernel_rfl) (by kernel_rfl) (by kernel_rfl) (fun _ _ _ h => h) (Or.inl ⟨by rfl, ?_⟩) (by assumption) ?_
          rotate_left
          · first | (intro w hSw; (try dsimp only at hSw); go_simp; done) | (intro w hSw; (try dsimp only at hSw); go_simp; with_reducible rfl)
          try simp only [Act.put, List.setIfInBounds_toArray, List.set_cons_zero, List.set_cons_succ, List.getElem_toArray, List.getElem_cons_succ, List.getElem_cons_zero]
          refine wpAnyH_take (i := 5) (oi := _) (v := ?_) rfl (by kernel_rfl) (by kernel_rfl) (by kernel_rfl) (fun _ _ _ h => h) (Or.inl ⟨by rfl, ?_⟩) (by assumption) ?_
          rotate_left
          · first | (intro w hSw; (try dsimp only at hSw); go_simp; done) | (intro w hSw; (try dsimp only at hSw); go_simp; with_reducible rfl)
          try simp only [Act.put, List.setIfInBounds_toArray, List.set_cons_zero, List.set_cons_succ, List.getElem_toArray, List.getElem_cons_succ, List.getElem_cons_zero]
          refine wpAnyH_take (i := 6) (oi := _) (v := ?_) rfl (by kernel_rfl) (by kernel_rfl) (by kernel_rfl) (fun _ _ _ h => h) (Or.inl ⟨by rfl, ?_⟩) (by assumption) ?_
          rotate_left
          · first | (intro w hSw; (try dsimp only at hSw); go_simp; done) | (intro w hSw; (try dsimp only at hSw); go_simp; with_reducible rfl)
          try simp only [Act.put, List.setIfInBounds_toArray, List.set_cons_zero, List.set_cons_succ, List.getElem_toArray, List.getElem_cons_succ, List.getElem_cons_zero]
          refine wpAnyH_take (i := 7) (oi := _) (v := ?_) rfl (by kernel_rfl) (by kernel_rfl) (by kernel_rfl) (fun _ _ _ h => h) (Or.inl ⟨by rfl, ?_⟩) (by assumption) ?_
          rotate_left
          · first | (intro w hSw; (try dsimp only at hSw); go_simp; done) | (intro w hSw; (try dsimp only at hSw); go_simp; with_reducible rfl)
          try simp only [Act.put, List.setIfInBounds_toArray, List.set_cons_zero, List.set_cons_succ, List.getElem_toArray, List.getElem_cons_succ, List.getElem_cons_zero]
          refine wpAnyH_take (i := 8) (oi := _) (v := ?_) rfl (by kernel_rfl) (by kernel_rfl) (by kernel_rfl) (fun _ _ _ h => h) (Or.inl ⟨by rfl, ?_⟩) (by assumption) ?_
          rotate_left
          · first | (intro w hSw; (try dsimp only at hSw); go_simp; done) | (intro w hSw; (try dsimp only at hSw); go_simp; with_reducible rfl)
          try simp only [Act.put, List.setIfInBounds_toArray, List.set_cons_zero, List.set_cons_succ, List.getElem_toArray, List.getElem_cons_succ, List.getElem_cons_zero]
          refine wpAnyH_done (by kernel_rfl) ?_ _
          clear K8 hsb
          go_wp2_with fail
          obtain ⟨w4, e4⟩ : ∃ W, W = (wr.setCell ⟨kb, 5, none⟩ (.int .i64 ((s' : Int) + 1))).drew := ⟨_, rfl⟩
          rw [← e4]
          have S4 : Hid (SeekAt w4 kb (.slice sl rn cap) (.slice sl2 pn cap2) (.int .i64 top) (.slice (some ⟨ic, io, none⟩) n cap3) bud (s' + 1) false) := by rw [e4]; exact SS.out
          have N4 : Hid (Onl kb w1 w4) := by rw [e4]; exact Lib.hid NS.out.drew
          clear SS NS q0 q1 q2 q3 q4 q5 q6 q7 f5 f6 HON e4
          have B4 := Lib.hid (Onl.below B1.out hkb N4.out)
          have PN4 := Lib.hid (PN1.out.onl N4.out)
          have hpl4 : pl.length ≤ 400 := by rw [HM.out]; omega
          go_loopw [9, 10] (fun v k wq => ∃ j : Nat, v = .bool ((pl.take j).all fun o => mayL ps o.1 o.2 id z) ∧ k = .int .i64 j ∧ j ≤ m ∧ Hid (Below w4.heap.size w4 wq)) (fun _ k _ => m - (intOf k).toNat)
          case atStart => exact ⟨0, by simp, rfl, Nat.zero_le _, Below.refl _ _⟩
          case round =>
            obtain ⟨j, rfl, rfl, hj, HJ⟩ := hrel
            have hj0 : (0 : Int) ≤ (j : Int) := by omega
            have S5 := Lib.hid (S4.out.of HJ.out)
            have N5 := Lib.hid (N4.out.trans (Onl.of_below HJ.out))
            obtain ⟨q0, q1, q2, q3, q4, q5, q6, q7, f5, f6⟩ := S5.out.facts
            have hdl5 : dc < wr.heap.size := Nat.lt_of_lt_of_le hdl N5.out.size
            have hdc5 : wr.cell? ⟨dc, di + i, none⟩ = some (.int .i64 z) := (N5.out.cell hdl hdk).trans hda
            by_cases g3 : j < m
            · have g3' : (j : Int) < (m : Int) := by omega
              have hjl : j < pl.length := by rw [HM.out]; exact g3
              obtain ⟨c, o, rfl, PA⟩ : ∃ c o, psl = some ⟨c, o, none⟩ ∧ PlAt w4 c o pl := by
                rcases PN4.out with e | ⟨c, o, e, h, _⟩
                · rw [e] at hjl; simp at hjl
                · exact ⟨c, o, e, h⟩
              obtain ⟨c0, c1⟩ := (PA.below HJ.out).cell j hjl
              have pcl := (PA.below HJ.out).lt
              have SP := SM.out pl[j] (List.getElem_mem hjl)
              have AT := Lib.hid (all_take (fun o => mayL ps o.1 o.2 id z) pl j hjl)
              obtain ⟨pa, pc, hp⟩ : ∃ x y, pl[j] = (x, y) := ⟨_, _, rfl⟩
              rw [hp] at c0 c1 SP AT
              dsimp only at c0 c1 AT
              have EM := Lib.hid (fun W hW => EM'.out pa pc id z W SP.2 ⟨by omega, by omega⟩ hW)
              have DJ := Lib.hid (bT B4.out HJ.out)
              have KJ : Hid (∀ W, Below wr.heap.size wr W → kb < W.heap.size ∧ W.cell? ⟨kb, 0, none⟩ = some (.slice sl rn cap) ∧ W.cell? ⟨kb, 1, none⟩ = some (.slice sl2 pn cap2) ∧ c < W.heap.size ∧ W.cell? ⟨c, o + j * 2, none⟩ = some (.int .i64 pa) ∧ W.cell? ⟨c, o + j * 2 + 1, none⟩ = some (.int .i64 pc) ∧ dc < W.heap.size ∧ W.cell? ⟨dc, di + i, none⟩ = some (.int .i64 z)) := fun W hW => ⟨Nat.lt_of_lt_of_le q0 hW.size, (hW.cell q0).trans q1, (hW.cell q0).trans q2, Nat.lt_of_lt_of_le pcl hW.size, (hW.cell pcl).trans c0, (hW.cell pcl).trans c1, Nat.lt_of_lt_of_le hdl5 hW.size, (hW.cell hdl5).trans hdc5⟩
              generalize mayL ps pa pc id z = mb at *
              clear hp hjl PA SP
              generalize (pl.take j).all (fun o => mayL ps o.1 o.2 id z) = b1 at *
              cases b1 with
              | true =>
                go_wp2_with fail
                refine wp_region_held_drew (S := fun W => kb < W.heap.size ∧ W.cell? ⟨kb, 0, none⟩ = some (.slice sl rn cap) ∧ W.cell? ⟨kb, 1, none⟩ = some (.slice sl2 pn cap2) ∧ c < W.heap.size ∧ W.cell? ⟨c, o + j * 2, none⟩ = some (.int .i64 pa) ∧ W.cell? ⟨c, o + j * 2 + 1, none⟩ = some (.int .i64 pc) ∧ dc < W.heap.size ∧ W.cell? ⟨dc, di + i, none⟩ = some (.int .i64 z)) (by kernel_rfl) ?_ (fun hHeld => ?_)
                · exact KJ.out _ (Below.refl _ _).drew
                refine wpAnyH_take (i := 0) (oi := _) (v := ?_) rfl (by kernel_rfl) (by kernel_rfl) (by kernel_rfl) (fun _ _ _ h => h) (Or.inl ⟨by rfl, ?_⟩) (by assumption) ?_
                rotate_left
                · first | (intro w hSw; (try dsimp only at hSw); go_simp; done) | (intro w hSw; (try dsimp only at hSw); go_simp; with_reducible rfl)
                try simp only [Act.put, List.setIfInBounds_toArray, List.set_cons_zero, List.set_cons_succ, List.getElem_toArray, List.getElem_cons_zero]
                refine wpAnyH_take (i := 1) (oi := _) (v := ?_) rfl (by kernel_rfl) (by kernel_rfl) (by kernel_rfl) (fun _ _ _ h => h) (Or.inl ⟨by rfl, ?_⟩) (by assumption) ?_
                rotate_left
                · first | (intro w hSw; (try dsimp only at hSw); go_simp; done) | (intro w hSw; (try dsimp only at hSw); go_simp; with_reducible rfl)
                try simp only [Act.put, List.setIfInBounds_toArray, List.set_cons_zero, List.set_cons_succ, List.getElem_toArray, List.getElem_cons_succ, List.getElem_cons_zero]
                refine wpAnyH_take (i := 2) (oi := _) (v := ?_) rfl (by kernel_rfl) (by kernel_rfl) (by kernel_rfl) (fun _ _ _ h => h) (Or.inl ⟨by rfl, ?_⟩) (by assumption) ?_
                rotate_left
                · first | (intro w hSw; (try dsimp only at hSw); go_simp; done) | (intro w hSw; (try dsimp only at hSw); go_simp; with_reducible rfl)
                try simp only [Act.put, List.setIfInBounds_toArray, List.set_cons_zero, List.set_cons_succ, List.getElem_toArray, List.getElem_cons_succ, List.getElem_cons_zero]
                refine wpAnyH_take (i := 3) (oi := _) (v := ?_) rfl (by kernel_rfl) (by kernel_rfl) (by kernel_rfl) (fun _ _ _ h => h) (Or.inl ⟨by rfl, ?_⟩) (by assumption) ?_
                rotate_left
                · first | (intro w hSw; (try dsimp only at hSw); go_simp; done) | (intro w hSw; (try dsimp only at hSw); go_simp; with_reducible rfl)
                try simp only [Act.put, List.setIfInBounds_toArray, List.set_cons_zero, List.set_cons_succ, List.getElem_toArray, List.getElem_cons_succ, List.getElem_cons_zero]
                refine wpAnyH_take (i := 4) (oi := _) (v := ?_) rfl (by kernel_rfl) (by kernel_rfl) (by kernel_rfl) (fun _ _ _ h => h) (Or.inl ⟨by rfl, ?_⟩) (by assumption) ?_
                rotate_left
                · first | (intro w hSw; (try dsimp only at hSw); go_simp; done) | (intro w hSw; (try dsimp only at hSw); go_simp; with_reducible rfl)
                try simp only [Act.put, List.setIfInBounds_toArray, List.set_cons_zero, List.set_cons_succ, List.getElem_toArray, List.getElem_cons_succ, List.getElem_cons_zero]
                refine wpAnyH_take (i := 5) (oi := _) (v := ?_) rfl (by kernel_rfl) (by kernel_rfl) (by kernel_rfl) (fun _ _ _ h => h) (Or.inl ⟨by rfl, ?_⟩) (by assumption) ?_
                rotate_left
                · first | (intro w hSw; (try dsimp only at hSw); go_simp; done) | (intro w hSw; (try dsimp only at hSw); go_simp; with_reducible rfl)
                try simp only [Act.put, List.setIfInBounds_toArray, List.set_cons_zero, List.set_cons_succ, List.getElem_toArray, List.getElem_cons_succ, List.getElem_cons_zero]
                refine wpAnyH_take (i := 6) (oi := _) (v := ?_) rfl (by kernel_rfl) (by kernel_rfl) (by kernel_rfl) (fun _ _ _ h => h) (Or.inl ⟨by rfl, ?_⟩) (by assumption) ?_
                rotate_left
                · first | (intro w hSw; (try dsimp only at hSw); go_simp; done) | (intro w hSw; (try dsimp only at hSw); go_simp; with_reducible rfl)
                try simp only [Act.put, List.setIfInBounds_toArray, List.set_cons_zero, List.set_cons_succ, List.getElem_toArray, List.getElem_cons_succ, List.getElem_cons_zero]
                refine wpAnyH_take (i := 7) (oi := _) (v := ?_) rfl (by kernel_rfl) (by kernel_rfl) (by kernel_rfl) (fun _ _ _ h => h) (Or.inl ⟨by rfl, ?_⟩) (by assumption) ?_
                rotate_left
                · first | (intro w hSw; (try dsimp only at hSw); go_simp; done) | (intro w hSw; (try dsimp only at hSw); go_simp; with_reducible rfl)
                try simp only [Act.put, List.setIfInBounds_toArray, List.set_cons_zero, List.set_cons_succ, List.getElem_toArray, List.getElem_cons_succ, List.getElem_cons_zero]
                refine wpAnyH_take (i := 8) (oi := _) (v := ?_) rfl (by kernel_rfl) (by kernel_rfl) (by kernel_rfl) (fun _ _ _ h => h) (Or.inl ⟨by rfl, ?_⟩) (by assumption) ?_
                rotate_left
                · first | (intro w hSw; (try dsimp only at hSw); go_simp; done) | (intro w hSw; (try dsimp only at hSw); go_simp; with_reducible rfl)
                try simp only [Act.put, List.setIfInBounds_toArray, List.set_cons_zero, List.set_cons_succ, List.getElem_toArray, List.getElem_cons_succ, List.getElem_cons_zero]
                refine wpAnyH_take (i := 9) (oi := _) (v := ?_) rfl (by kernel_rfl) (by kernel_rfl) (by kernel_rfl) (fun _ _ _ h => h) (Or.inl ⟨by rfl, ?_⟩) (by assumption) ?_
                rotate_left
                · first | (intro w hSw; (try dsimp only at hSw); go_simp; done) | (intro w hSw; (try dsimp only at hSw); go_simp; with_reducible rfl)
                try simp only [Act.put, List.setIfInBounds_toArray, List.set_cons_zero, List.set_cons_succ, List.getElem_toArray, List.getElem_cons_succ, List.getElem_cons_zero]
                refine wpAnyH_take (i := 10) (oi := _) (v := ?_) rfl (by kernel_rfl) (by kernel_rfl) (by kernel_rfl) (fun _ _ _ h => h) (Or.inl ⟨by rfl, ?_⟩) (by assumption) ?_
                rotate_left
                · first | (intro w hSw; (try dsimp only at hSw); go_simp; done) | (intro w hSw; (try dsimp only at hSw); go_simp; with_reducible rfl)
                try simp only [Act.put, List.setIfInBounds_toArray, List.set_cons_zero, List.set_cons_succ, List.getElem_toArray, List.getElem_cons_succ, List.getElem_cons_zero]
                refine wpAnyH_take (i := 11) (oi := _) (v := ?_) rfl (by kernel_rfl) (by kernel_rfl) (by kernel_rfl) (fun _ _ _ h => h) (Or.inl ⟨by rfl, ?_⟩) (by assumption) ?_
                rotate_left
                · first | (intro w hSw; (try dsimp only at hSw); go_simp; done) | (intro w hSw; (try dsimp only at hSw); go_simp; with_reducible rfl)
                try simp only [Act.put, List.setIfInBounds_toArray, List.set_cons_zero, List.set_cons_succ, List.getElem_toArray, List.getElem_cons_succ, List.getElem_cons_zero]
                refine wpAnyH_take (i := 12) (oi := _) (v := ?_) rfl (by kernel_rfl) (by kernel_rfl) (by kernel_rfl) (fun _ _ _ h => h) (Or.inl ⟨by rfl, ?_⟩) (by assumption) ?_
                rotate_left
                · first | (intro w hSw; (try dsimp only at hSw); go_simp; done) | (intro w hSw; (try dsimp only at hSw); go_simp; with_reducible rfl)
                try simp only [Act.put, List.setIfInBounds_toArray, List.set_cons_zero, List.set_cons_succ, List.getElem_toArray, List.getElem_cons_succ, List.getElem_cons_zero]
                refine wpAnyH_take (i := 13) (oi := _) (v := ?_) rfl (by kernel_rfl) (by kernel_rfl) (by kernel_rfl) (fun _ _ _ h => h) (Or.inl ⟨by rfl, ?_⟩) (by assumption) ?_
                rotate_left
                · first | (intro w hSw; (try dsimp only at hSw); go_simp; done) | (intro w hSw; (try dsimp only at hSw); go_simp; with_reducible rfl)
                try simp only [Act.put, List.setIfInBounds_toArray, List.set_cons_zero, List.set_cons_succ, List.getElem_toArray, List.getElem_cons_succ, List.getElem_cons_zero]
                refine wpAnyH_take (i := 14) (oi := _) (v := ?_) rfl (by kernel_rfl) (by kernel_rfl) (by kernel_rfl) (fun _ _ _ h => h) (Or.inl ⟨by rfl, ?_⟩) (by assumption) ?_
                rotate_left
                · first | (intro w hSw; (try dsimp only at hSw); go_simp; done) | (intro w hSw; (try dsimp only at hSw); go_simp; with_reducible rfl)
                try simp only [Act.put, List.setIfInBounds_toArray, List.set_cons_zero, List.set_cons_succ, List.getElem_toArray, List.getElem_cons_succ, List.getElem_cons_zero]
                refine wpAnyH_take (i := 15) (oi := _) (v := ?_) rfl (by kernel_rfl) (by kernel_rfl) (by kernel_rfl) (fun _ _ _ h => h) (Or.inl ⟨by rfl, ?_⟩) (by assumption) ?_
                rotate_left
                · first | (intro w hSw; (try dsimp only at hSw); go_simp; done) | (intro w hSw; (try dsimp only at hSw); go_simp; with_reducible rfl)
                try simp only [Act.put, List.setIfInBounds_toArray, List.set_cons_zero, List.set_cons_succ, List.getElem_toArray, List.getElem_cons_succ, List.getElem_cons_zero]
                refine wpAnyH_take (i := 16) (oi := _) (v := ?_) rfl (by kernel_rfl) (by kernel_rfl) (by kernel_rfl) (fun _ _ _ h => h) (Or.inl ⟨by rfl, ?_⟩) (by assumption) ?_
                rotate_left
                · first | (intro w hSw; (try dsimp only at hSw); go_simp; done) | (intro w hSw; (try dsimp only at hSw); go_simp; with_reducible rfl)
                try simp only [Act.put, List.setIfInBounds_toArray, List.set_cons_zero, List.set_cons_succ, List.getElem_toArray, List.getElem_cons_succ, List.getElem_cons_zero]
                refine wpAnyH_take (i := 17) (oi := _) (v := ?_) rfl (by kernel_rfl) (by kernel_rfl) (by kernel_rfl) (fun _ _ _ h => h) (Or.inl ⟨by rfl, ?_⟩) (by assumption) ?_
                rotate_left
                · first | (intro w hSw; (try dsimp only at hSw); go_simp; done) | (intro w hSw; (try dsimp only at hSw); go_simp; with_reducible rfl)
                try simp only [Act.put, List.setIfInBounds_toArray, List.set_cons_zero, List.set_cons_succ, List.getElem_toArray, List.getElem_cons_succ, List.getElem_cons_zero]
                refine wpAnyH_take (i := 18) (oi := _) (v := ?_) rfl (by kernel_rfl) (by kernel_rfl) (by kernel_rfl) (fun _ _ _ h => h) (Or.inl ⟨by rfl, ?_⟩) (by assumption) ?_
                rotate_left
                · first | (intro w hSw; (try dsimp only at hSw); go_simp; done) | (intro w hSw; (try dsimp only at hSw); go_simp; with_reducible rfl)
                try simp only [Act.put, List.setIfInBounds_toArray, List.set_cons_zero, List.set_cons_succ, List.getElem_toArray, List.getElem_cons_succ, List.getElem_cons_zero]
                refine wpAnyH_take (i := 19) (oi := _) (v := ?_) rfl (by kernel_rfl) (by kernel_rfl) (by kernel_rfl) (fun _ _ _ h => h) (Or.inl ⟨by rfl, ?_⟩) (by assumption) ?_
                rotate_left
                · first | (intro w hSw; (try dsimp only at hSw); go_simp; done) | (intro w hSw; (try dsimp only at hSw); go_simp; with_reducible rfl)
                try simp only [Act.put, List.setIfInBounds_toArray, List.set_cons_zero, List.set_cons_succ, List.getElem_toArray, List.getElem_cons_succ, List.getElem_cons_zero]
                refine wpAnyH_take (i := 20) (oi := _) (v := ?_) rfl (by kernel_rfl) (by kernel_rfl) (by kernel_rfl) (fun _ _ _ h => h) (Or.inl ⟨by rfl, ?_⟩) (by assumption) ?_
                rotate_left
                · first | (intro w hSw; (try dsimp only at hSw); go_simp; done) | (intro w hSw; (try dsimp only at hSw); go_simp; with_reducible rfl)
                try simp only [Act.put, List.setIfInBounds_toArray, List.set_cons_zero, List.set_cons_succ, List.getElem_toArray, List.getElem_cons_succ, List.getElem_cons_zero]
                refine wpAnyH_ready (rs := [21]) (by kernel_rfl) (by simp) ?_
                refine AllReadyH.cons rfl (fun K hK => ?_) AllReadyH.nil
                go_simp
                go_wp2_with (go_at_call 91; refine (EM.out _ DJ.out.drew).mono ?_; rintro e w6 ⟨rfl, b6⟩)
                have F6 : Hid (Below wr.heap.size wr w6) := bT ((Below.refl wr.heap.size wr).drew) b6
                clear b6
                refine hK.out _ _ ?_ (fun hHeld => ?_)
                · exact KJ.out _ F6.out
                clear hK K
                refine wpAnyH_take (i := 22) (oi := _) (v := ?_) rfl (by kernel_rfl) (by kernel_rfl) (by kernel_rfl) (fun _ _ _ h => h) (Or.inl ⟨by rfl, ?_⟩) (by assumption) ?_
                rotate_left
                · first | (intro w hSw; (try dsimp only at hSw); go_simp; done) | (intro w hSw; (try dsimp only at hSw); go_simp; with_reducible rfl)
                try simp only [Act.put, List.setIfInBounds_toArray, List.set_cons_zero, List.set_cons_succ, List.getElem_toArray, List.getElem_cons_succ, List.getElem_cons_zero]
                refine wpAnyH_take (i := 23) (oi := _) (v := ?_) rfl (by kernel_rfl) (by kernel_rfl) (by kernel_rfl) (fun _ _ _ h => h) (Or.inl ⟨by rfl, ?_⟩) (by assumption) ?_
                rotate_left
                · first | (intro w hSw; (try dsimp only at hSw); go_simp; done) | (intro w hSw; (try dsimp only at hSw); go_simp; with_reducible rfl)
                try simp only [Act.put, List.setIfInBounds_toArray, List.set_cons_zero, List.set_cons_succ, List.getElem_toArray, List.getElem_cons_succ, List.getElem_cons_zero]
                refine wpAnyH_done (by kernel_rfl) ?_ _
                have D6 := Lib.hid (bT HJ.out F6.out)
                have AT2 := Lib.hid (show (pl.take (j + 1)).all (fun o => mayL ps o.1 o.2 id z) = mb by rw [AT.out]; rfl)
                clear KJ F6 EM DJ AT
                go_wp2
                go_roundw
                case rel => exact ⟨j + 1, by rw [AT2.out], by go_num, by omega, D6⟩
                case measure => simp [intOf]; omega
              | false =>
                have AT2 := Lib.hid (show (pl.take (j + 1)).all (fun o => mayL ps o.1 o.2 id z) = false by rw [AT.out]; rfl)
                clear KJ EM DJ AT
                go_wp2_with fail
                refine wp_region_held_drew (S := fun W => True) (by kernel_rfl) ?_ (fun hHeld => ?_)
                · exact trivial
                refine wpAnyH_take (i := 0) (oi := _) (v := ?_) rfl (by kernel_rfl) (by kernel_rfl) (by kernel_rfl) (fun _ _ _ h => h) (Or.inl ⟨by rfl, ?_⟩) (by assumption) ?_
                rotate_left
                · first | (intro w hSw; (try dsimp only at hSw); go_simp; done) | (intro w hSw; (try dsimp only at hSw); go_simp; with_reducible rfl)
                try simp only [Act.put, List.setIfInBounds_toArray, List.set_cons_zero, List.set_cons_succ, List.getElem_toArray, List.getElem_cons_zero]
                refine wpAnyH_take (i := 1) (oi := _) (v := ?_) rfl (by kernel_rfl) (by kernel_rfl) (by kernel_rfl) (fun _ _ _ h => h) (Or.inl ⟨by rfl, ?_⟩) (by assumption) ?_
                rotate_left
                · first | (intro w hSw; (try dsimp only at hSw); go_simp; done) | (intro w hSw; (try dsimp only at hSw); go_simp; with_reducible rfl)
                try simp only [Act.put, List.setIfInBounds_toArray, List.set_cons_zero, List.set_cons_succ, List.getElem_toArray, List.getElem_cons_succ, List.getElem_cons_zero]
                refine wpAnyH_take (i := 2) (oi := _) (v := undef) rfl (by kernel_rfl) (by kernel_rfl) (by kernel_rfl) (fun _ _ _ h => h) (Or.inr ⟨by rfl, rfl⟩) (by assumption) ?_
                try simp only [Act.put, List.setIfInBounds_toArray, List.set_cons_zero, List.set_cons_succ, List.getElem_toArray, List.getElem_cons_succ, List.getElem_cons_zero]
                refine wpAnyH_take (i := 3) (oi := _) (v := undef) rfl (by kernel_rfl) (by kernel_rfl) (by kernel_rfl) (fun _ _ _ h => h) (Or.inr ⟨by rfl, rfl⟩) (by assumption) ?_
                try simp only [Act.put, List.setIfInBounds_toArray, List.set_cons_zero, List.set_cons_succ, List.getElem_toArray, List.getElem_cons_succ, List.getElem_cons_zero]
                refine wpAnyH_take (i := 4) (oi := _) (v := undef) rfl (by kernel_rfl) (by kernel_rfl) (by kernel_rfl) (fun _ _ _ h => h) (Or.inr ⟨by rfl, rfl⟩) (by assumption) ?_
                try simp only [Act.put, List.setIfInBounds_toArray, List.set_cons_zero, List.set_cons_succ, List.getElem_toArray, List.getElem_cons_succ, List.getElem_cons_zero]
                refine wpAnyH_take (i := 5) (oi := _) (v := undef) rfl (by kernel_rfl) (by kernel_rfl) (by kernel_rfl) (fun _ _ _ h => h) (Or.inr ⟨by rfl, rfl⟩) (by assumption) ?_
                try simp only [Act.put, List.setIfInBounds_toArray, List.set_cons_zero, List.set_cons_succ, List.getElem_toArray, List.getElem_cons_succ, List.getElem_cons_zero]
                refine wpAnyH_take (i := 6) (oi := _) (v := undef) rfl (by kernel_rfl) (by kernel_rfl) (by kernel_rfl) (fun _ _ _ h => h) (Or.inr ⟨by rfl, rfl⟩) (by assumption) ?_
                try simp only [Act.put, List.setIfInBounds_toArray, List.set_cons_zero, List.set_cons_succ, List.getElem_toArray, List.getElem_cons_succ, List.getElem_cons_zero]
                refine wpAnyH_take (i := 7) (oi := _) (v := undef) rfl (by kernel_rfl) (by kernel_rfl) (by kernel_rfl) (fun _ _ _ h => h) (Or.inr ⟨by rfl, rfl⟩) (by assumption) ?_
                try simp only [Act.put, List.setIfInBounds_toArray, List.set_cons_zero, List.set_cons_succ, List.getElem_toArray, List.getElem_cons_succ, List.getElem_cons_zero]
                refine wpAnyH_take (i := 8) (oi := _) (v := undef) rfl (by kernel_rfl) (by kernel_rfl) (by kernel_rfl) (fun _ _ _ h => h) (Or.inr ⟨by rfl, rfl⟩) (by assumption) ?_
                try simp only [Act.put, List.setIfInBounds_toArray, List.set_cons_zero, List.set_cons_succ, List.getElem_toArray, List.getElem_cons_succ, List.getElem_cons_zero]
                refine wpAnyH_take (i := 9) (oi := _) (v := undef) rfl (by kernel_rfl) (by kernel_rfl) (by kernel_rfl) (fun _ _ _ h => h) (Or.inr ⟨by rfl, rfl⟩) (by assumption) ?_
                try simp only [Act.put, List.setIfInBounds_toArray, List.set_cons_zero, List.set_cons_succ, List.getElem_toArray, List.getElem_cons_succ, List.getElem_cons_zero]
                refine wpAnyH_take (i := 10) (oi := _) (v := undef) rfl (by kernel_rfl) (by kernel_rfl) (by kernel_rfl) (fun _ _ _ h => h) (Or.inr ⟨by rfl, rfl⟩) (by assumption) ?_
                try simp only [Act.put, List.setIfInBounds_toArray, List.set_cons_zero, List.set_cons_succ, List.getElem_toArray, List.getElem_cons_succ, List.getElem_cons_zero]
                refine wpAnyH_take (i := 11) (oi := _) (v := undef) rfl (by kernel_rfl) (by kernel_rfl) (by kernel_rfl) (fun _ _ _ h => h) (Or.inr ⟨by rfl, rfl⟩) (by assumption) ?_
                try simp only [Act.put, List.setIfInBounds_toArray, List.set_cons_zero, List.set_cons_succ, List.getElem_toArray, List.getElem_cons_succ, List.getElem_cons_zero]
                refine wpAnyH_take (i := 12) (oi := _) (v := undef) rfl (by kernel_rfl) (by kernel_rfl) (by kernel_rfl) (fun _ _ _ h => h) (Or.inr ⟨by rfl, rfl⟩) (by assumption) ?_
                try simp only [Act.put, List.setIfInBounds_toArray, List.set_cons_zero, List.set_cons_succ, List.getElem_toArray, List.getElem_cons_succ, List.getElem_cons_zero]
                refine wpAnyH_take (i := 13) (oi := _) (v := undef) rfl (by kernel_rfl) (by kernel_rfl) (by kernel_rfl) (fun _ _ _ h => h) (Or.inr ⟨by rfl, rfl⟩) (by assumption) ?_
                try simp only [Act.put, List.setIfInBounds_toArray, List.set_cons_zero, List.set_cons_succ, List.getElem_toArray, List.getElem_cons_succ, List.getElem_cons_zero]
                refine wpAnyH_take (i := 14) (oi := _) (v := undef) rfl (by kernel_rfl) (by kernel_rfl) (by kernel_rfl) (fun _ _ _ h => h) (Or.inr ⟨by rfl, rfl⟩) (by assumption) ?_
                try simp only [Act.put, List.setIfInBounds_toArray, List.set_cons_zero, List.set_cons_succ, List.getElem_toArray, List.getElem_cons_succ, List.getElem_cons_zero]
                refine wpAnyH_take (i := 15) (oi := _) (v := undef) rfl (by kernel_rfl) (by kernel_rfl) (by kernel_rfl) (fun _ _ _ h => h) (Or.inr ⟨by rfl, rfl⟩) (by assumption) ?_
                try simp only [Act.put, List.setIfInBounds_toArray, List.set_cons_zero, List.set_cons_succ, List.getElem_toArray, List.getElem_cons_succ, List.getElem_cons_zero]
                refine wpAnyH_take (i := 16) (oi := _) (v := undef) rfl (by kernel_rfl) (by kernel_rfl) (by kernel_rfl) (fun _ _ _ h => h) (Or.inr ⟨by rfl, rfl⟩) (by assumption) ?_
                try simp only [Act.put, List.setIfInBounds_toArray, List.set_cons_zero, List.set_cons_succ, List.getElem_toArray, List.getElem_cons_succ, List.getElem_cons_zero]
                refine wpAnyH_take (i := 17) (oi := _) (v := undef) rfl (by kernel_rfl) (by kernel_rfl) (by kernel_rfl) (fun _ _ _ h => h) (Or.inr ⟨by rfl, rfl⟩) (by assumption) ?_
                try simp only [Act.put, List.setIfInBounds_toArray, List.set_cons_zero, List.set_cons_succ, List.getElem_toArray, List.getElem_cons_succ, List.getElem_cons_zero]
                refine wpAnyH_take (i := 18) (oi := _) (v := undef) rfl (by kernel_rfl) (by kernel_rfl) (by kernel_rfl) (fun _ _ _ h => h) (Or.inr ⟨by rfl, rfl⟩) (by assumption) ?_
                try simp only [Act.put, List.setIfInBounds_toArray, List.set_cons_zero, List.set_cons_succ, List.getElem_toArray, List.getElem_cons_succ, List.getElem_cons_zero]
                refine wpAnyH_take (i := 19) (oi := _) (v := undef) rfl (by kernel_rfl) (by kernel_rfl) (by kernel_rfl) (fun _ _ _ h => h) (Or.inr ⟨by rfl, rfl⟩) (by assumption) ?_
                try simp only [Act.put, List.setIfInBounds_toArray, List.set_cons_zero, List.set_cons_succ, List.getElem_toArray, List.getElem_cons_succ, List.getElem_cons_zero]
                refine wpAnyH_take (i := 20) (oi := _) (v := undef) rfl (by kernel_rfl) (by kernel_rfl) (by kernel_rfl) (fun _ _ _ h => h) (Or.inr ⟨by rfl, rfl⟩) (by assumption) ?_
                try simp only [Act.put, List.setIfInBounds_toArray, List.set_cons_zero, List.set_cons_succ, List.getElem_toArray, List.getElem_cons_succ, List.getElem_cons_zero]
                refine wpAnyH_take (i := 21) (oi := _) (v := undef) rfl (by kernel_rfl) (by kernel_rfl) (by kernel_rfl) (fun _ _ _ h => h) (Or.inr ⟨by rfl, rfl⟩) (by assumption) ?_
                try simp only [Act.put, List.setIfInBounds_toArray, List.set_cons_zero, List.set_cons_succ, List.getElem_toArray, List.getElem_cons_succ, List.getElem_cons_zero]
                refine wpAnyH_take (i := 22) (oi := _) (v := ?_) rfl (by kernel_rfl) (by kernel_rfl) (by kernel_rfl) (fun _ _ _ h => h) (Or.inl ⟨by rfl, ?_⟩) (by assumption) ?_
                rotate_left
                · first | (intro w hSw; (try dsimp only at hSw); go_simp; done) | (intro w hSw; (try dsimp only at hSw); go_simp; with_reducible rfl)
                try simp only [Act.put, List.setIfInBounds_toArray, List.set_cons_zero, List.set_cons_succ, List.getElem_toArray, List.getElem_cons_succ, List.getElem_cons_zero]
                refine wpAnyH_take (i := 23) (oi := _) (v := ?_) rfl (by kernel_rfl) (by kernel_rfl) (by kernel_rfl) (fun _ _ _ h => h) (Or.inl ⟨by rfl, ?_⟩) (by assumption) ?_
                rotate_left
                · first | (intro w hSw; (try dsimp only at hSw); go_simp; done) | (intro w hSw; (try dsimp only at hSw); go_simp; with_reducible rfl)
                try simp only [Act.put, List.setIfInBounds_toArray, List.set_cons_zero, List.set_cons_succ, List.getElem_toArray, List.getElem_cons_succ, List.getElem_cons_zero]
                refine wpAnyH_done (by kernel_rfl) ?_ _
                go_wp2
                go_roundw
                case rel => exact ⟨j + 1, by rw [AT2.out], by go_num, by omega, Lib.hid HJ.out.drew⟩
                case measure => simp [intOf]; omega
            · have g3' : ¬ (j : Int) < (m : Int) := by omega
              have FE : Hid ((pl.take j).all (fun o => mayL ps o.1 o.2 id z) = fitB ps pl (id, z)) := by
                show _ = _
                rw [List.take_of_length_le (by rw [HM.out]; omega), FM.out pl (id, z)]
              rw [FE.out]
              clear FE
              generalize hfb : fitB ps pl (id, z) = fb at *
              clear hfb
              cases fb with
              | false =>
                have TR9 := Lib.hid (TN.out rfl)
                clear TN TY0
                go_wp2
                go_roundw
                case rel => exact ⟨i + 1, s' + 1, by go_num, by omega, by omega, TR9, S5, N5⟩
                case measure => simp [intOf]; omega
              | true =>
                have TY1 := TY0.out rfl
                have LE9 := (seek_le (fitB ps) bud CD (pl ++ [(id, z)]) (s' + 1) (by omega)).2
                have KS : Hid (∀ W, Below wr.heap.size wr W → dc < W.heap.size ∧ W.cell? ⟨dc, di + i, none⟩ = some (.int .i64 z)) := fun W hW => ⟨Nat.lt_of_lt_of_le hdl5 hW.size, (hW.cell hdl5).trans hdc5⟩
                have KN : Hid (∀ W, Onl kb wr W → dc < W.heap.size ∧ W.cell? ⟨dc, di + i, none⟩ = some (.int .i64 z)) := fun W hW => ⟨Nat.lt_of_lt_of_le hdl5 hW.size, (hW.cell hdl5 hdk).trans hdc5⟩
                have PX : Hid (∀ W, Below wr.heap.size wr W → Pls W psl pl) := fun W hW => (PN4.out.pls.below HJ.out).below hW
                have E9 : Hid (∀ v W, Below wr.heap.size wr W → W.ownsRow wr.heap.size 34 2 v (pl ++ [(id, z)]).length (enCells (pl ++ [(id, z)])) → Calls Try.prog 111 #[.pointer (some ⟨kb, 0, none⟩), v] W (FromP kb (.slice sl rn cap) (.slice sl2 pn cap2) (.int .i64 top) (.slice (some ⟨ic, io, none⟩) n cap3) bud W (seek (fitB ps) bud CD (pl ++ [(id, z)]) (s' + 1)))) := fun v W hW ow => by
                  obtain ⟨sl', cap', rfl, pp⟩ := own_pls ow
                  have hl2 : (pl ++ [(id, z)]).length = m + 1 := by rw [List.length_append, HM.out]; rfl
                  refine IH.out z (s' + 1) _ W (by omega) (bT (bT B4.out HJ.out) hW) (S5.out.of hW) ⟨sl', cap', by rw [hl2], ?_⟩ ⟨⟨by show (0 : Int) ≤ id; omega, by show id ≤ 1000; omega⟩, ⟨by show (0 : Int) ≤ z; omega, by show z ≤ 1000; omega⟩⟩
                  rcases pp with h | ⟨c', e1, h1, h2⟩
                  · exact .inl h
                  · exact .inr ⟨c', 0, e1, h1, by omega⟩
                generalize seek (fitB ps) bud CD (pl ++ [(id, z)]) (s' + 1) = r9 at *
                have NW := Lib.hid (N1.out.trans N5.out)
                have TY := Lib.hid TY1
                have LH := Lib.hid LE9
                clear TY1 LE9 TN TY0 hdc5 S5 S4 B4 PN4 HJ N4 EM'
                go_wp2_with fail
                refine wp_region_held_drew (S := fun W => dc < W.heap.size ∧ W.cell? ⟨dc, di + i, none⟩ = some (.int .i64 z)) (by kernel_rfl) ?_ (fun hHeld => ?_)
                · exact KS.out _ (Below.refl _ _).drew
                refine wpAnyH_take (i := 0) (oi := _) (v := ?_) rfl (by kernel_rfl) (by kernel_rfl) (by kernel_rfl) (fun _ _ _ h => h) (Or.inl ⟨by rfl, ?_⟩) (by assumption) ?_
                rotate_left
                · first | (intro w hSw; (try dsimp only at hSw); go_simp; done) | (intro w hSw; (try dsimp only at hSw); go_simp; with_reducible rfl)
                try simp only [Act.put, List.setIfInBounds_toArray, List.set_cons_zero, List.set_cons_succ, List.getElem_toArray, List.getElem_cons_zero]
                refine wpAnyH_take (i := 2) (oi := _) (v := ?_) rfl (by kernel_rfl) (by kernel_rfl) (by kernel_rfl) (fun _ _ _ h => h) (Or.inl ⟨by rfl, ?_⟩) (by assumption) ?_
                rotate_left
                · first | (intro w hSw; (try dsimp only at hSw); go_simp; done) | (intro w hSw; (try dsimp only at hSw); go_simp; with_reducible rfl)
                try simp only [Act.put, List.setIfInBounds_toArray, List.set_cons_zero, List.set_cons_succ, List.getElem_toArray, List.getElem_cons_succ, List.getElem_cons_zero]
                refine wpAnyH_take (i := 4) (oi := _) (v := ?_) rfl (by kernel_rfl) (by kernel_rfl) (by kernel_rfl) (fun _ _ _ h => h) (Or.inl ⟨by rfl, ?_⟩) (by assumption) ?_
                rotate_left
                · first | (intro w hSw; (try dsimp only at hSw); go_simp; done) | (intro w hSw; (try dsimp only at hSw); go_simp; with_reducible rfl)
                try simp only [Act.put, List.setIfInBounds_toArray, List.set_cons_zero, List.set_cons_succ, List.getElem_toArray, List.getElem_cons_succ, List.getElem_cons_zero]
                refine wpAnyH_take (i := 5) (oi := _) (v := ?_) rfl (by kernel_rfl) (by kernel_rfl) (by kernel_rfl) (fun _ _ _ h => h) (Or.inl ⟨by rfl, ?_⟩) (by assumption) ?_
                rotate_left
                · first | (intro w hSw; (try dsimp only at hSw); go_simp; done) | (intro w hSw; (try dsimp only at hSw); go_simp; with_reducible rfl)
                try simp only [Act.put, List.setIfInBounds_toArray, List.set_cons_zero, List.set_cons_succ, List.getElem_toArray, List.getElem_cons_succ, List.getElem_cons_zero]
                refine wpAnyH_take (i := 6) (oi := _) (v := ?_) rfl (by kernel_rfl) (by kernel_rfl) (by kernel_rfl) (fun _ _ _ h => h) (Or.inl ⟨by rfl, ?_⟩) (by assumption) ?_
                rotate_left
                · first | (intro w hSw; (try dsimp only at hSw); go_simp; done) | (intro w hSw; (try dsimp only at hSw); go_simp; with_reducible rfl)
                try simp only [Act.put, List.setIfInBounds_toArray, List.set_cons_zero, List.set_cons_succ, List.getElem_toArray, List.getElem_cons_succ, List.getElem_cons_zero]
                refine wpAnyH_take (i := 7) (oi := _) (v := ?_) rfl (by kernel_rfl) (by kernel_rfl) (by kernel_rfl) (fun _ _ _ h => h) (Or.inl ⟨by rfl, ?_⟩) (by assumption) ?_
                rotate_left
                · first | (intro w hSw; (try dsimp only at hSw); go_simp; done) | (intro w hSw; (try dsimp only at hSw); go_simp; with_reducible rfl)
                try simp only [Act.put, List.setIfInBounds_toArray, List.set_cons_zero, List.set_cons_succ, List.getElem_toArray, List.getElem_cons_succ, List.getElem_cons_zero]
                refine wpAnyH_take (i := 8) (oi := _) (v := ?_) rfl (by kernel_rfl) (by kernel_rfl) (by kernel_rfl) (fun _ _ _ h => h) (Or.inl ⟨by rfl, ?_⟩) (by assumption) ?_
                rotate_left
                · first | (intro w hSw; (try dsimp only at hSw); go_simp; done) | (intro w hSw; (try dsimp only at hSw); go_simp; with_reducible rfl)
                try simp only [Act.put, List.setIfInBounds_toArray, List.set_cons_zero, List.set_cons_succ, List.getElem_toArray, List.getElem_cons_succ, List.getElem_cons_zero]
                refine wpAnyH_take (i := 9) (oi := _) (v := ?_) rfl (by kernel_rfl) (by kernel_rfl) (by kernel_rfl) (fun _ _ _ h => h) (Or.inl ⟨by rfl, ?_⟩) (by assumption) ?_
                rotate_left
                · first | (intro w hSw; (try dsimp only at hSw); go_simp; done) | (intro w hSw; (try dsimp only at hSw); go_simp; with_reducible rfl)
                try simp only [Act.put, List.setIfInBounds_toArray, List.set_cons_zero, List.set_cons_succ, List.getElem_toArray, List.getElem_cons_succ, List.getElem_cons_zero]
                refine wpAnyH_ready (rs := [1, 10]) (by kernel_rfl) (by simp) ?_
                refine AllReadyH.cons rfl (fun K hK => ?_) (AllReadyH.cons rfl (fun K hK => ?_) AllReadyH.nil)
                · go_simp
                  refine hK.out _ _ ?_ (fun hHeld => ?_)
                  · exact KS.out _ (bA (Below.refl wr.heap.size wr) (.cells #[] 34)).drew
                  clear hK K
                  refine wpAnyH_ready (rs := [3, 10]) (by kernel_rfl) (by simp) ?_
                  refine AllReadyH.cons rfl (fun K hK => ?_) (AllReadyH.cons rfl (fun K hK => ?_) AllReadyH.nil)
                  · obtain ⟨v3, w3, hr3, ow3, gr3, lo3⟩ := app27 (show ((wr.alloc (.cells #[] 34)).drew).ownsRow wr.heap.size 34 2 (.slice (some ⟨wr.heap.size, 0, none⟩) 0 0) ([] : List LPl).length (enCells []) from own_e34 wr) (pcap := pcap) (PX.out _ (bA (Below.refl wr.heap.size wr) _).drew) (by first | omega | (simp; done) | (simp; omega)) (by first | omega | (simp; done) | (simp; omega))
                    rw [HM.out] at hr3
                    have B3 := Lib.hid (((bA (Below.refl wr.heap.size wr) (.cells #[] 34)).drew).grown gr3 (by first | omega | (simp; done) | (simp; omega)) lo3)
                    --
                    refine step_append_run _ rfl (.tmp 100) (.tmp 101) 27 27 rfl _ _ (by simp [Act.eval]) (by simp [Act.eval]) _ _ hr3 ?_
                    refine hK.out _ _ ?_ (fun hHeld => ?_)
                    · exact KS.out _ B3.out
                    clear hK K
                    try simp only [Act.put, List.setIfInBounds_toArray, List.set_cons_zero, List.set_cons_succ, List.getElem_toArray, List.getElem_cons_succ, List.getElem_cons_zero]
                    rw [List.nil_append] at ow3
                    have hs3 := B3.out.size
                    refine wpAnyH_ready (rs := [10]) (by kernel_rfl) (by simp) ?_
                    refine AllReadyH.cons rfl (fun K hK => ?_) AllReadyH.nil
                    go_simp
                    refine hK.out _ _ ?_ (fun hHeld => ?_)
                    · exact KS.out _ (bA B3.out (.cells #[.int .i64 id, .int .i64 z] 34))
                    clear hK K
                    refine wpAnyH_ready (rs := [11]) (by kernel_rfl) (by simp) ?_
                    refine AllReadyH.cons rfl (fun K hK => ?_) AllReadyH.nil
                    obtain ⟨v4, w4, hr4, ow4, gr4, lo4⟩ := app27 (ow3.alloc (.cells #[.int .i64 id, .int .i64 z] 34)) (pcap := 1) (lit27 _ _ _) (by first | omega | (simp; done) | (simp; omega)) (by first | omega | (simp; done) | (simp; omega))
                    have B4 := Lib.hid ((bA B3.out (.cells #[.int .i64 id, .int .i64 z] 34)).grown gr4 (by first | omega | (simp; done) | (simp; omega)) lo4)
                    --
                    refine step_append_run _ rfl (.tmp 102) (.tmp 109) 27 27 rfl _ _ (by simp [Act.eval]) (by simp [Act.eval]) _ _ hr4 ?_
                    refine hK.out _ _ ?_ (fun hHeld => ?_)
                    · exact KS.out _ B4.out
                    clear hK K
                    try simp only [Act.put, List.setIfInBounds_toArray, List.set_cons_zero, List.set_cons_succ, List.getElem_toArray, List.getElem_cons_succ, List.getElem_cons_zero]
                    have O9 := Lib.hid ow4
                    have hn9 := Lib.hid (E9.out v4 w4 B4.out O9.out)
                    refine wpAnyH_ready (rs := [12]) (by kernel_rfl) (by simp) ?_
                    refine AllReadyH.cons rfl (fun K hK => ?_) AllReadyH.nil
                    go_simp
                    go_wp2_with (go_at_call 111; refine hn9.out.mono ?_; rintro e w7 ⟨v7, ok7, rfl, pf7, on7⟩)
                    have N7 := Lib.hid ((Onl.of_below B4.out).trans on7)
                    clear on7 hn9
                    refine hK.out _ _ ?_ (fun hHeld => ?_)
                    · exact KN.out _ N7.out
                    clear hK K
                    cases r9 with
                    | found p s2 =>
                      obtain ⟨rfl, ⟨ps7, pc7, rfl, pn7⟩, sk7⟩ := pf7
                      refine wpAnyH_take (i := 13) (oi := _) (v := ?_) rfl (by kernel_rfl) (by kernel_rfl) (by kernel_rfl) (fun _ _ _ h => h) (Or.inl ⟨by rfl, ?_⟩) (by assumption) ?_
                      rotate_left
                      · first | (intro w hSw; (try dsimp only at hSw); go_simp; done) | (intro w hSw; (try dsimp only at hSw); go_simp; with_reducible rfl)
                      try simp only [Act.put, List.setIfInBounds_toArray, List.set_cons_zero, List.set_cons_succ, List.getElem_toArray, List.getElem_cons_succ, List.getElem_cons_zero]
                      refine wpAnyH_take (i := 14) (oi := _) (v := ?_) rfl (by kernel_rfl) (by kernel_rfl) (by kernel_rfl) (fun _ _ _ h => h) (Or.inl ⟨by rfl, ?_⟩) (by assumption) ?_
                      rotate_left
                      · first | (intro w hSw; (try dsimp only at hSw); go_simp; done) | (intro w hSw; (try dsimp only at hSw); go_simp; with_reducible rfl)
                      try simp only [Act.put, List.setIfInBounds_toArray, List.set_cons_zero, List.set_cons_succ, List.getElem_toArray, List.getElem_cons_succ, List.getElem_cons_zero]
                      refine wpAnyH_take (i := 15) (oi := _) (v := ?_) rfl (by kernel_rfl) (by kernel_rfl) (by kernel_rfl) (fun _ _ _ h => h) (Or.inl ⟨by rfl, ?_⟩) (by assumption) ?_
                      rotate_left
                      · first | (intro w hSw; (try dsimp only at hSw); go_simp; done) | (intro w hSw; (try dsimp only at hSw); go_simp; with_reducible rfl)
                      try simp only [Act.put, List.setIfInBounds_toArray, List.set_cons_zero, List.set_cons_succ, List.getElem_toArray, List.getElem_cons_succ, List.getElem_cons_zero]
                      refine wpAnyH_take (i := 16) (oi := _) (v := ?_) rfl (by kernel_rfl) (by kernel_rfl) (by kernel_rfl) (fun _ _ _ h => h) (Or.inl ⟨by rfl, ?_⟩) (by assumption) ?_
                      rotate_left
                      · first | (intro w hSw; (try dsimp only at hSw); go_simp; done) | (intro w hSw; (try dsimp only at hSw); go_simp; with_reducible rfl)
                      try simp only [Act.put, List.setIfInBounds_toArray, List.set_cons_zero, List.set_cons_succ, List.getElem_toArray, List.getElem_cons_succ, List.getElem_cons_zero]
                      refine wpAnyH_take (i := 17) (oi := _) (v := ?_) rfl (by kernel_rfl) (by kernel_rfl) (by kernel_rfl) (fun _ _ _ h => h) (Or.inl ⟨by rfl, ?_⟩) (by assumption) ?_
                      rotate_left
                      · first | (intro w hSw; (try dsimp only at hSw); go_simp; done) | (intro w hSw; (try dsimp only at hSw); go_simp; with_reducible rfl)
                      try simp only [Act.put, List.setIfInBounds_toArray, List.set_cons_zero, List.set_cons_succ, List.getElem_toArray, List.getElem_cons_succ, List.getElem_cons_zero]
                      refine wpAnyH_done (by kernel_rfl) ?_ _
                      have PF := Lib.hid (And.intro pn7 sk7)
                      have NN := Lib.hid (NW.out.trans N7.out)
                      have TR9 := Lib.hid TY.out
                      clear pn7 sk7 N7 KS KN
                      go_wp2
                      refine bodyPost_ret (v := .tuple #[.slice ps7 p.length pc7, .bool true]) (by simp [results, Try.results111, go_sem]) rfl ⟨_, true, rfl, by rw [TR9.out]; exact ⟨rfl, ⟨_, _, rfl, PF.out.1⟩, PF.out.2⟩, NN.out⟩
                    | none s2 =>
                      obtain ⟨rfl, sk7⟩ := pf7
                      refine wpAnyH_take (i := 13) (oi := _) (v := ?_) rfl (by kernel_rfl) (by kernel_rfl) (by kernel_rfl) (fun _ _ _ h => h) (Or.inl ⟨by rfl, ?_⟩) (by assumption) ?_
                      rotate_left
                      · first | (intro w hSw; (try dsimp only at hSw); go_simp; done) | (intro w hSw; (try dsimp only at hSw); go_simp; with_reducible rfl)
                      try simp only [Act.put, List.setIfInBounds_toArray, List.set_cons_zero, List.set_cons_succ, List.getElem_toArray, List.getElem_cons_succ, List.getElem_cons_zero]
                      refine wpAnyH_take (i := 14) (oi := _) (v := ?_) rfl (by kernel_rfl) (by kernel_rfl) (by kernel_rfl) (fun _ _ _ h => h) (Or.inl ⟨by rfl, ?_⟩) (by assumption) ?_
                      rotate_left
                      · first | (intro w hSw; (try dsimp only at hSw); go_simp; done) | (intro w hSw; (try dsimp only at hSw); go_simp; with_reducible rfl)
                      try simp only [Act.put, List.setIfInBounds_toArray, List.set_cons_zero, List.set_cons_succ, List.getElem_toArray, List.getElem_cons_succ, List.getElem_cons_zero]
                      refine wpAnyH_take (i := 15) (oi := _) (v := ?_) rfl (by kernel_rfl) (by kernel_rfl) (by kernel_rfl) (fun _ _ _ h => h) (Or.inl ⟨by rfl, ?_⟩) (by assumption) ?_
                      rotate_left
                      · first | (intro w hSw; (try dsimp only at hSw); go_simp; done) | (intro w hSw; (try dsimp only at hSw); go_simp; with_reducible rfl)
                      try simp only [Act.put, List.setIfInBounds_toArray, List.set_cons_zero, List.set_cons_succ, List.getElem_toArray, List.getElem_cons_succ, List.getElem_cons_zero]
                      refine wpAnyH_take (i := 16) (oi := _) (v := ?_) rfl (by kernel_rfl) (by kernel_rfl) (by kernel_rfl) (fun _ _ _ h => h) (Or.inl ⟨by rfl, ?_⟩) (by assumption) ?_
                      rotate_left
                      · first | (intro w hSw; (try dsimp only at hSw); go_simp; done) | (intro w hSw; (try dsimp only at hSw); go_simp; with_reducible rfl)
                      try simp only [Act.put, List.setIfInBounds_toArray, List.set_cons_zero, List.set_cons_succ, List.getElem_toArray, List.getElem_cons_succ, List.getElem_cons_zero]
                      refine wpAnyH_take (i := 17) (oi := _) (v := ?_) rfl (by kernel_rfl) (by kernel_rfl) (by kernel_rfl) (fun _ _ _ h => h) (Or.inl ⟨by rfl, ?_⟩) (by assumption) ?_
                      rotate_left
                      · first | (intro w hSw; (try dsimp only at hSw); go_simp; done) | (intro w hSw; (try dsimp only at hSw); go_simp; with_reducible rfl)
                      try simp only [Act.put, List.setIfInBounds_toArray, List.set_cons_zero, List.set_cons_succ, List.getElem_toArray, List.getElem_cons_succ, List.getElem_cons_zero]
                      refine wpAnyH_done (by kernel_rfl) ?_ _
                      have SK := Lib.hid sk7
                      have ND := Lib.hid (N5.out.trans N7.out)
                      have TR9 := Lib.hid TY.out
                      have hle9 := LH.out
                      obtain ⟨q0, q1, q2, q3, q4, q5, q6, q7, f5, f6⟩ := SK.out.facts
                      clear sk7 N7 KS KN
                      go_wp2
                      go_roundw
                      case rel => exact ⟨i + 1, s2, by go_num, by omega, hle9, TR9.out.symm, SK, ND⟩
                      case measure => simp [intOf]; omega
                    | out s2 =>
                      obtain ⟨rfl, sk7⟩ := pf7
                      refine wpAnyH_take (i := 13) (oi := _) (v := ?_) rfl (by kernel_rfl) (by kernel_rfl) (by kernel_rfl) (fun _ _ _ h => h) (Or.inl ⟨by rfl, ?_⟩) (by assumption) ?_
                      rotate_left
                      · first | (intro w hSw; (try dsimp only at hSw); go_simp; done) | (intro w hSw; (try dsimp only at hSw); go_simp; with_reducible rfl)
                      try simp only [Act.put, List.setIfInBounds_toArray, List.set_cons_zero, List.set_cons_succ, List.getElem_toArray, List.getElem_cons_succ, List.getElem_cons_zero]
                      refine wpAnyH_take (i := 14) (oi := _) (v := ?_) rfl (by kernel_rfl) (by kernel_rfl) (by kernel_rfl) (fun _ _ _ h => h) (Or.inl ⟨by rfl, ?_⟩) (by assumption) ?_
                      rotate_left
                      · first | (intro w hSw; (try dsimp only at hSw); go_simp; done) | (intro w hSw; (try dsimp only at hSw); go_simp; with_reducible rfl)
                      try simp only [Act.put, List.setIfInBounds_toArray, List.set_cons_zero, List.set_cons_succ, List.getElem_toArray, List.getElem_cons_succ, List.getElem_cons_zero]
                      refine wpAnyH_take (i := 15) (oi := _) (v := ?_) rfl (by kernel_rfl) (by kernel_rfl) (by kernel_rfl) (fun _ _ _ h => h) (Or.inl ⟨by rfl, ?_⟩) (by assumption) ?_
                      rotate_left
                      · first | (intro w hSw; (try dsimp only at hSw); go_simp; done) | (intro w hSw; (try dsimp only at hSw); go_simp; with_reducible rfl)
                      try simp only [Act.put, List.setIfInBounds_toArray, List.set_cons_zero, List.set_cons_succ, List.getElem_toArray, List.getElem_cons_succ, List.getElem_cons_zero]
                      refine wpAnyH_take (i := 16) (oi := _) (v := ?_) rfl (by kernel_rfl) (by kernel_rfl) (by kernel_rfl) (fun _ _ _ h => h) (Or.inl ⟨by rfl, ?_⟩) (by assumption) ?_
                      rotate_left
                      · first | (intro w hSw; (try dsimp only at hSw); go_simp; done) | (intro w hSw; (try dsimp only at hSw); go_simp; with_reducible rfl)
                      try simp only [Act.put, List.setIfInBounds_toArray, List.set_cons_zero, List.set_cons_succ, List.getElem_toArray, List.getElem_cons_succ, List.getElem_cons_zero]
                      refine wpAnyH_take (i := 17) (oi := _) (v := ?_) rfl (by kernel_rfl) (by kernel_rfl) (by kernel_rfl) (fun _ _ _ h => h) (Or.inl ⟨by rfl, ?_⟩) (by assumption) ?_
                      rotate_left
                      · first | (intro w hSw; (try dsimp only at hSw); go_simp; done) | (intro w hSw; (try dsimp only at hSw); go_simp; with_reducible rfl)
                      try simp only [Act.put, List.setIfInBounds_toArray, List.set_cons_zero, List.set_cons_succ, List.getElem_toArray, List.getElem_cons_succ, List.getElem_cons_zero]
                      refine wpAnyH_done (by kernel_rfl) ?_ _
                      have SK := Lib.hid sk7
                      have NN := Lib.hid (NW.out.trans N7.out)
                      have TR9 := Lib.hid TY.out
                      obtain ⟨q0, q1, q2, q3, q4, q5, q6, q7, f5, f6⟩ := SK.out.facts
                      clear sk7 N7 KS KN
                      go_wp2
                      refine bodyPost_ret (v := .tuple #[v7, .bool false]) (by simp [results, Try.results111, go_sem]) rfl ⟨_, false, rfl, by rw [TR9.out]; exact ⟨rfl, SK.out⟩, NN.out⟩
                  · go_simp
                    refine hK.out _ _ ?_ (fun hHeld => ?_)
                    · exact KS.out _ (bA (bA (Below.refl wr.heap.size wr) (.cells #[] 34)) (.cells #[.int .i64 id, .int .i64 z] 34)).drew
                    clear hK K
                    refine wpAnyH_ready (rs := [3]) (by kernel_rfl) (by simp) ?_
                    refine AllReadyH.cons rfl (fun K hK => ?_) AllReadyH.nil
                    obtain ⟨v3, w3, hr3, ow3, gr3, lo3⟩ := app27 (show (((wr.alloc (.cells #[] 34)).alloc (.cells #[.int .i64 id, .int .i64 z] 34)).drew).ownsRow wr.heap.size 34 2 (.slice (some ⟨wr.heap.size, 0, none⟩) 0 0) ([] : List LPl).length (enCells []) from (own_e34 wr).alloc _) (pcap := pcap) (PX.out _ (bA (bA (Below.refl wr.heap.size wr) _) _).drew) (by first | omega | (simp; done) | (simp; omega)) (by first | omega | (simp; done) | (simp; omega))
                    rw [HM.out] at hr3
                    have B3 := Lib.hid (((bA (bA (Below.refl wr.heap.size wr) (.cells #[] 34)) (.cells #[.int .i64 id, .int .i64 z] 34)).drew).grown gr3 (by first | omega | (simp; done) | (simp; omega)) lo3)
                    --
                    refine step_append_run _ rfl (.tmp 100) (.tmp 101) 27 27 rfl _ _ (by simp [Act.eval]) (by simp [Act.eval]) _ _ hr3 ?_
                    refine hK.out _ _ ?_ (fun hHeld => ?_)
                    · exact KS.out _ B3.out
                    clear hK K
                    try simp only [Act.put, List.setIfInBounds_toArray, List.set_cons_zero, List.set_cons_succ, List.getElem_toArray, List.getElem_cons_succ, List.getElem_cons_zero]
                    rw [List.nil_append] at ow3
                    have hs3 := B3.out.size
                    have hlit : Pls w3 (some ⟨wr.heap.size + 1, 0, none⟩) [(id, z)] := litK27 ((lit27' wr (.cells #[] 34) id z).below (Below.refl _ _).drew) gr3 (by simp [Value.ownBlock])
                    refine wpAnyH_ready (rs := [11]) (by kernel_rfl) (by simp) ?_
                    refine AllReadyH.cons rfl (fun K hK => ?_) AllReadyH.nil
                    obtain ⟨v4, w4, hr4, ow4, gr4, lo4⟩ := app27 (ow3) (pcap := 1) (hlit) (by first | omega | (simp; done) | (simp; omega)) (by first | omega | (simp; done) | (simp; omega))
                    have B4 := Lib.hid ((B3.out).grown gr4 (by first | omega | (simp; done) | (simp; omega)) lo4)
                    --
                    refine step_append_run _ rfl (.tmp 102) (.tmp 109) 27 27 rfl _ _ (by simp [Act.eval]) (by simp [Act.eval]) _ _ hr4 ?_
                    refine hK.out _ _ ?_ (fun hHeld => ?_)
                    · exact KS.out _ B4.out
                    clear hK K
                    try simp only [Act.put, List.setIfInBounds_toArray, List.set_cons_zero, List.set_cons_succ, List.getElem_toArray, List.getElem_cons_succ, List.getElem_cons_zero]
                    have O9 := Lib.hid ow4
                    have hn9 := Lib.hid (E9.out v4 w4 B4.out O9.out)
                    refine wpAnyH_ready (rs := [12]) (by kernel_rfl) (by simp) ?_
                    refine AllReadyH.cons rfl (fun K hK => ?_) AllReadyH.nil
                    go_simp
                    go_wp2_with (go_at_call 111; refine hn9.out.mono ?_; rintro e w7 ⟨v7, ok7, rfl, pf7, on7⟩)
                    have N7 := Lib.hid ((Onl.of_below B4.out).trans on7)
                    clear on7 hn9
                    refine hK.out _ _ ?_ (fun hHeld => ?_)
                    · exact KN.out _ N7.out
                    clear hK K
                    cases r9 with
                    | found p s2 =>
                      obtain ⟨rfl, ⟨ps7, pc7, rfl, pn7⟩, sk7⟩ := pf7
                      refine wpAnyH_take (i := 13) (oi := _) (v := ?_) rfl (by kernel_rfl) (by kernel_rfl) (by kernel_rfl) (fun _ _ _ h => h) (Or.inl ⟨by rfl, ?_⟩) (by assumption) ?_
                      rotate_left
                      · first | (intro w hSw; (try dsimp only at hSw); go_simp; done) | (intro w hSw; (try dsimp only at hSw); go_simp; with_reducible rfl)
                      try simp only [Act.put, List.setIfInBounds_toArray, List.set_cons_zero, List.set_cons_succ, List.getElem_toArray, List.getElem_cons_succ, List.getElem_cons_zero]
                      refine wpAnyH_take (i := 14) (oi := _) (v := ?_) rfl (by kernel_rfl) (by kernel_rfl) (by kernel_rfl) (fun _ _ _ h => h) (Or.inl ⟨by rfl, ?_⟩) (by assumption) ?_
                      rotate_left
                      · first | (intro w hSw; (try dsimp only at hSw); go_simp; done) | (intro w hSw; (try dsimp only at hSw); go_simp; with_reducible rfl)
                      try simp only [Act.put, List.setIfInBounds_toArray, List.set_cons_zero, List.set_cons_succ, List.getElem_toArray, List.getElem_cons_succ, List.getElem_cons_zero]
                      refine wpAnyH_take (i := 15) (oi := _) (v := ?_) rfl (by kernel_rfl) (by kernel_rfl) (by kernel_rfl) (fun _ _ _ h => h) (Or.inl ⟨by rfl, ?_⟩) (by assumption) ?_
                      rotate_left
                      · first | (intro w hSw; (try dsimp only at hSw); go_simp; done) | (intro w hSw; (try dsimp only at hSw); go_simp; with_reducible rfl)
                      try simp only [Act.put, List.setIfInBounds_toArray, List.set_cons_zero, List.set_cons_succ, List.getElem_toArray, List.getElem_cons_succ, List.getElem_cons_zero]
                      refine wpAnyH_take (i := 16) (oi := _) (v := ?_) rfl (by kernel_rfl) (by kernel_rfl) (by kernel_rfl) (fun _ _ _ h => h) (Or.inl ⟨by rfl, ?_⟩) (by assumption) ?_
                      rotate_left
                      · first | (intro w hSw; (try dsimp only at hSw); go_simp; done) | (intro w hSw; (try dsimp only at hSw); go_simp; with_reducible rfl)
                      try simp only [Act.put, List.setIfInBounds_toArray, List.set_cons_zero, List.set_cons_succ, List.getElem_toArray, List.getElem_cons_succ, List.getElem_cons_zero]
                      refine wpAnyH_take (i := 17) (oi := _) (v := ?_) rfl (by kernel_rfl) (by kernel_rfl) (by kernel_rfl) (fun _ _ _ h => h) (Or.inl ⟨by rfl, ?_⟩) (by assumption) ?_
                      rotate_left
                      · first | (intro w hSw; (try dsimp only at hSw); go_simp; done) | (intro w hSw; (try dsimp only at hSw); go_simp; with_reducible rfl)
                      try simp only [Act.put, List.setIfInBounds_toArray, List.set_cons_zero, List.set_cons_succ, List.getElem_toArray, List.getElem_cons_succ, List.getElem_cons_zero]
                      refine wpAnyH_done (by kernel_rfl) ?_ _
                      have PF := Lib.hid (And.intro pn7 sk7)
                      have NN := Lib.hid (NW.out.trans N7.out)
                      have TR9 := Lib.hid TY.out
                      clear pn7 sk7 N7 KS KN
                      go_wp2
                      refine bodyPost_ret (v := .tuple #[.slice ps7 p.length pc7, .bool true]) (by simp [results, Try.results111, go_sem]) rfl ⟨_, true, rfl, by rw [TR9.out]; exact ⟨rfl, ⟨_, _, rfl, PF.out.1⟩, PF.out.2⟩, NN.out⟩
                    | none s2 =>
                      obtain ⟨rfl, sk7⟩ := pf7
                      refine wpAnyH_take (i := 13) (oi := _) (v := ?_) rfl (by kernel_rfl) (by kernel_rfl) (by kernel_rfl) (fun _ _ _ h => h) (Or.inl ⟨by rfl, ?_⟩) (by assumption) ?_
                      rotate_left
                      · first | (intro w hSw; (try dsimp only at hSw); go_simp; done) | (intro w hSw; (try dsimp only at hSw); go_simp; with_reducible rfl)
                      try simp only [Act.put, List.setIfInBounds_toArray, List.set_cons_zero, List.set_cons_succ, List.getElem_toArray, List.getElem_cons_succ, List.getElem_cons_zero]
                      refine wpAnyH_take (i := 14) (oi := _) (v := ?_) rfl (by kernel_rfl) (by kernel_rfl) (by kernel_rfl) (fun _ _ _ h => h) (Or.inl ⟨by rfl, ?_⟩) (by assumption) ?_
                      rotate_left
                      · first | (intro w hSw; (try dsimp only at hSw); go_simp; done) | (intro w hSw; (try dsimp only at hSw); go_simp; with_reducible rfl)
                      try simp only [Act.put, List.setIfInBounds_toArray, List.set_cons_zero, List.set_cons_succ, List.getElem_toArray, List.getElem_cons_succ, List.getElem_cons_zero]
                      refine wpAnyH_take (i := 15) (oi := _) (v := ?_) rfl (by kernel_rfl) (by kernel_rfl) (by kernel_rfl) (fun _ _ _ h => h) (Or.inl ⟨by rfl, ?_⟩) (by assumption) ?_
                      rotate_left
                      · first | (intro w hSw; (try dsimp only at hSw); go_simp; done) | (intro w hSw; (try dsimp only at hSw); go_simp; with_reducible rfl)
                      try simp only [Act.put, List.setIfInBounds_toArray, List.set_cons_zero, List.set_cons_succ, List.getElem_toArray, List.getElem_cons_succ, List.getElem_cons_zero]
                      refine wpAnyH_take (i := 16) (oi := _) (v := ?_) rfl (by kernel_rfl) (by kernel_rfl) (by kernel_rfl) (fun _ _ _ h => h) (Or.inl ⟨by rfl, ?_⟩) (by assumption) ?_
                      rotate_left
                      · first | (intro w hSw; (try dsimp only at hSw); go_simp; done) | (intro w hSw; (try dsimp only at hSw); go_simp; with_reducible rfl)
                      try simp only [Act.put, List.setIfInBounds_toArray, List.set_cons_zero, List.set_cons_succ, List.getElem_toArray, List.getElem_cons_succ, List.getElem_cons_zero]
                      refine wpAnyH_take (i := 17) (oi := _) (v := ?_) rfl (by kernel_rfl) (by kernel_rfl) (by kernel_rfl) (fun _ _ _ h => h) (Or.inl ⟨by rfl, ?_⟩) (by assumption) ?_
                      rotate_left
                      · first | (intro w hSw; (try dsimp only at hSw); go_simp; done) | (intro w hSw; (try dsimp only at hSw); go_simp; with_reducible rfl)
                      try simp only [Act.put, List.setIfInBounds_toArray, List.set_cons_zero, List.set_cons_succ, List.getElem_toArray, List.getElem_cons_succ, List.getElem_cons_zero]
                      refine wpAnyH_done (by kernel_rfl) ?_ _
                      have SK := Lib.hid sk7
                      have ND := Lib.hid (N5.out.trans N7.out)
                      have TR9 := Lib.hid TY.out
                      have hle9 := LH.out
                      obtain ⟨q0, q1, q2, q3, q4, q5, q6, q7, f5, f6⟩ := SK.out.facts
                      clear sk7 N7 KS KN
                      go_wp2
                      go_roundw
                      case rel => exact ⟨i + 1, s2, by go_num, by omega, hle9, TR9.out.symm, SK, ND⟩
                      case measure => simp [intOf]; omega
                    | out s2 =>
                      obtain ⟨rfl, sk7⟩ := pf7
                      refine wpAnyH_take (i := 13) (oi := _) (v := ?_) rfl (by kernel_rfl) (by kernel_rfl) (by kernel_rfl) (fun _ _ _ h => h) (Or.inl ⟨by rfl, ?_⟩) (by assumption) ?_
                      rotate_left
                      · first | (intro w hSw; (try dsimp only at hSw); go_simp; done) | (intro w hSw; (try dsimp only at hSw); go_simp; with_reducible rfl)
                      try simp only [Act.put, List.setIfInBounds_toArray, List.set_cons_zero, List.set_cons_succ, List.getElem_toArray, List.getElem_cons_succ, List.getElem_cons_zero]
                      refine wpAnyH_take (i := 14) (oi := _) (v := ?_) rfl (by kernel_rfl) (by kernel_rfl) (by kernel_rfl) (fun _ _ _ h => h) (Or.inl ⟨by rfl, ?_⟩) (by assumption) ?_
                      rotate_left
                      · first | (intro w hSw; (try dsimp only at hSw); go_simp; done) | (intro w hSw; (try dsimp only at hSw); go_simp; with_reducible rfl)
                      try simp only [Act.put, List.setIfInBounds_toArray, List.set_cons_zero, List.set_cons_succ, List.getElem_toArray, List.getElem_cons_succ, List.getElem_cons_zero]
                      refine wpAnyH_take (i := 15) (oi := _) (v := ?_) rfl (by kernel_rfl) (by kernel_rfl) (by kernel_rfl) (fun _ _ _ h => h) (Or.inl ⟨by rfl, ?_⟩) (by assumption) ?_
                      rotate_left
                      · first | (intro w hSw; (try dsimp only at hSw); go_simp; done) | (intro w hSw; (try dsimp only at hSw); go_simp; with_reducible rfl)
                      try simp only [Act.put, List.setIfInBounds_toArray, List.set_cons_zero, List.set_cons_succ, List.getElem_toArray, List.getElem_cons_succ, List.getElem_cons_zero]
                      refine wpAnyH_take (i := 16) (oi := _) (v := ?_) rfl (by kernel_rfl) (by kernel_rfl) (by kernel_rfl) (fun _ _ _ h => h) (Or.inl ⟨by rfl, ?_⟩) (by assumption) ?_
                      rotate_left
                      · first | (intro w hSw; (try dsimp only at hSw); go_simp; done) | (intro w hSw; (try dsimp only at hSw); go_simp; with_reducible rfl)
                      try simp only [Act.put, List.setIfInBounds_toArray, List.set_cons_zero, List.set_cons_succ, List.getElem_toArray, List.getElem_cons_succ, List.getElem_cons_zero]
                      refine wpAnyH_take (i := 17) (oi := _) (v := ?_) rfl (by kernel_rfl) (by kernel_rfl) (by kernel_rfl) (fun _ _ _ h => h) (Or.inl ⟨by rfl, ?_⟩) (by assumption) ?_
                      rotate_left
                      · first | (intro w hSw; (try dsimp only at hSw); go_simp; done) | (intro w hSw; (try dsimp only at hSw); go_simp; with_reducible rfl)
                      try simp only [Act.put, List.setIfInBounds_toArray, List.set_cons_zero, List.set_cons_succ, List.getElem_toArray, List.getElem_cons_succ, List.getElem_cons_zero]
                      refine wpAnyH_done (by kernel_rfl) ?_ _
                      have SK := Lib.hid sk7
                      have NN := Lib.hid (NW.out.trans N7.out)
                      have TR9 := Lib.hid TY.out
                      obtain ⟨q0, q1, q2, q3, q4, q5, q6, q7, f5, f6⟩ := SK.out.facts
                      clear sk7 N7 KS KN
                      go_wp2
                      refine bodyPost_ret (v := .tuple #[v7, .bool false]) (by simp [results, Try.results111, go_sem]) rfl ⟨_, false, rfl, by rw [TR9.out]; exact ⟨rfl, SK.out⟩, NN.out⟩
                · go_simp
                  refine hK.out _ _ ?_ (fun hHeld => ?_)
                  · exact KS.out _ (bA (Below.refl wr.heap.size wr) (.cells #[.int .i64 id, .int .i64 z] 34)).drew
                  clear hK K
                  refine wpAnyH_ready (rs := [1]) (by kernel_rfl) (by simp) ?_
                  refine AllReadyH.cons rfl (fun K hK => ?_) AllReadyH.nil
                  go_simp
                  refine hK.out _ _ ?_ (fun hHeld => ?_)
                  · exact KS.out _ (bA (bA (Below.refl wr.heap.size wr) (.cells #[.int .i64 id, .int .i64 z] 34)) (.cells #[] 34)).drew
                  clear hK K
                  refine wpAnyH_ready (rs := [3]) (by kernel_rfl) (by simp) ?_
                  refine AllReadyH.cons rfl (fun K hK => ?_) AllReadyH.nil
                  obtain ⟨v3, w3, hr3, ow3, gr3, lo3⟩ := app27 (show (((wr.alloc (.cells #[.int .i64 id, .int .i64 z] 34)).alloc (.cells #[] 34)).drew).ownsRow wr.heap.size 34 2 (.slice (some ⟨wr.heap.size + 1, 0, none⟩) 0 0) ([] : List LPl).length (enCells []) from own_e34' wr (.cells #[.int .i64 id, .int .i64 z] 34)) (pcap := pcap) (PX.out _ (bA (bA (Below.refl wr.heap.size wr) _) _).drew) (by first | omega | (simp; done) | (simp; omega)) (by first | omega | (simp; done) | (simp; omega))
                  rw [HM.out] at hr3
                  have B3 := Lib.hid (((bA (bA (Below.refl wr.heap.size wr) (.cells #[.int .i64 id, .int .i64 z] 34)) (.cells #[] 34)).drew).grown gr3 (by first | omega | (simp; done) | (simp; omega)) lo3)
                  --
                  refine step_append_run _ rfl (.tmp 100) (.tmp 101) 27 27 rfl _ _ (by simp [Act.eval]) (by simp [Act.eval]) _ _ hr3 ?_
                  refine hK.out _ _ ?_ (fun hHeld => ?_)
                  · exact KS.out _ B3.out
                  clear hK K
                  try simp only [Act.put, List.setIfInBounds_toArray, List.set_cons_zero, List.set_cons_succ, List.getElem_toArray, List.getElem_cons_succ, List.getElem_cons_zero]
                  rw [List.nil_append] at ow3
                  have hs3 := B3.out.size
                  have hlit : Pls w3 (some ⟨wr.heap.size, 0, none⟩) [(id, z)] := litK27 ((Pls.below (lit27 wr id z) (bA0 _ _)).below (Below.refl _ _).drew) gr3 (by simp [Value.ownBlock])
                  refine wpAnyH_ready (rs := [11]) (by kernel_rfl) (by simp) ?_
                  refine AllReadyH.cons rfl (fun K hK => ?_) AllReadyH.nil
                  obtain ⟨v4, w4, hr4, ow4, gr4, lo4⟩ := app27 (ow3) (pcap := 1) (hlit) (by first | omega | (simp; done) | (simp; omega)) (by first | omega | (simp; done) | (simp; omega))
                  have B4 := Lib.hid ((B3.out).grown gr4 (by first | omega | (simp; done) | (simp; omega)) lo4)
                  --
                  refine step_append_run _ rfl (.tmp 102) (.tmp 109) 27 27 rfl _ _ (by simp [Act.eval]) (by simp [Act.eval]) _ _ hr4 ?_
                  refine hK.out _ _ ?_ (fun hHeld => ?_)
                  · exact KS.out _ B4.out
                  clear hK K
                  try simp only [Act.put, List.setIfInBounds_toArray, List.set_cons_zero, List.set_cons_succ, List.getElem_toArray, List.getElem_cons_succ, List.getElem_cons_zero]
                  have O9 := Lib.hid ow4
                  have hn9 := Lib.hid (E9.out v4 w4 B4.out O9.out)
                  refine wpAnyH_ready (rs := [12]) (by kernel_rfl) (by simp) ?_
                  refine AllReadyH.cons rfl (fun K hK => ?_) AllReadyH.nil
                  go_simp
                  go_wp2_with (go_at_call 111; refine hn9.out.mono ?_; rintro e w7 ⟨v7, ok7, rfl, pf7, on7⟩)
                  have N7 := Lib.hid ((Onl.of_below B4.out).trans on7)
                  clear on7 hn9
                  refine hK.out _ _ ?_ (fun hHeld => ?_)
                  · exact KN.out _ N7.out
                  clear hK K
                  cases r9 with
                  | found p s2 =>
                    obtain ⟨rfl, ⟨ps7, pc7, rfl, pn7⟩, sk7⟩ := pf7
                    refine wpAnyH_take (i := 13) (oi := _) (v := ?_) rfl (by kernel_rfl) (by kernel_rfl) (by kernel_rfl) (fun _ _ _ h => h) (Or.inl ⟨by rfl, ?_⟩) (by assumption) ?_
                    rotate_left
                    · first | (intro w hSw; (try dsimp only at hSw); go_simp; done) | (intro w hSw; (try dsimp only at hSw); go_simp; with_reducible rfl)
                    try simp only [Act.put, List.setIfInBounds_toArray, List.set_cons_zero, List.set_cons_succ, List.getElem_toArray, List.getElem_cons_succ, List.getElem_cons_zero]
                    refine wpAnyH_take (i := 14) (oi := _) (v := ?_) rfl (by kernel_rfl) (by kernel_rfl) (by kernel_rfl) (fun _ _ _ h => h) (Or.inl ⟨by rfl, ?_⟩) (by assumption) ?_
                    rotate_left
                    · first | (intro w hSw; (try dsimp only at hSw); go_simp; done) | (intro w hSw; (try dsimp only at hSw); go_simp; with_reducible rfl)
                    try simp only [Act.put, List.setIfInBounds_toArray, List.set_cons_zero, List.set_cons_succ, List.getElem_toArray, List.getElem_cons_succ, List.getElem_cons_zero]
                    refine wpAnyH_take (i := 15) (oi := _) (v := ?_) rfl (by kernel_rfl) (by kernel_rfl) (by kernel_rfl) (fun _ _ _ h => h) (Or.inl ⟨by rfl, ?_⟩) (by assumption) ?_
                    rotate_left
                    · first | (intro w hSw; (try dsimp only at hSw); go_simp; done) | (intro w hSw; (try dsimp only at hSw); go_simp; with_reducible rfl)
                    try simp only [Act.put, List.setIfInBounds_toArray, List.set_cons_zero, List.set_cons_succ, List.getElem_toArray, List.getElem_cons_succ, List.getElem_cons_zero]
                    refine wpAnyH_take (i := 16) (oi := _) (v := ?_) rfl (by kernel_rfl) (by kernel_rfl) (by kernel_rfl) (fun _ _ _ h => h) (Or.inl ⟨by rfl, ?_⟩) (by assumption) ?_
                    rotate_left
                    · first | (intro w hSw; (try dsimp only at hSw); go_simp; done) | (intro w hSw; (try dsimp only at hSw); go_simp; with_reducible rfl)
                    try simp only [Act.put, List.setIfInBounds_toArray, List.set_cons_zero, List.set_cons_succ, List.getElem_toArray, List.getElem_cons_succ, List.getElem_cons_zero]
                    refine wpAnyH_take (i := 17) (oi := _) (v := ?_) rfl (by kernel_rfl) (by kernel_rfl) (by kernel_rfl) (fun _ _ _ h => h) (Or.inl ⟨by rfl, ?_⟩) (by assumption) ?_
                    rotate_left
                    · first | (intro w hSw; (try dsimp only at hSw); go_simp; done) | (intro w hSw; (try dsimp only at hSw); go_simp; with_reducible rfl)
                    try simp only [Act.put, List.setIfInBounds_toArray, List.set_cons_zero, List.set_cons_succ, List.getElem_toArray, List.getElem_cons_succ, List.getElem_cons_zero]
                    refine wpAnyH_done (by kernel_rfl) ?_ _
                    have PF := Lib.hid (And.intro pn7 sk7)
                    have NN := Lib.hid (NW.out.trans N7.out)
                    have TR9 := Lib.hid TY.out
                    clear pn7 sk7 N7 KS KN
                    go_wp2
                    refine bodyPost_ret (v := .tuple #[.slice ps7 p.length pc7, .bool true]) (by simp [results, Try.results111, go_sem]) rfl ⟨_, true, rfl, by rw [TR9.out]; exact ⟨rfl, ⟨_, _, rfl, PF.out.1⟩, PF.out.2⟩, NN.out⟩
                  | none s2 =>
                    obtain ⟨rfl, sk7⟩ := pf7
                    refine wpAnyH_take (i := 13) (oi := _) (v := ?_) rfl (by kernel_rfl) (by kernel_rfl) (by kernel_rfl) (fun _ _ _ h => h) (Or.inl ⟨by rfl, ?_⟩) (by assumption) ?_
                    rotate_left
                    · first | (intro w hSw; (try dsimp only at hSw); go_simp; done) | (intro w hSw; (try dsimp only at hSw); go_simp; with_reducible rfl)
                    try simp only [Act.put, List.setIfInBounds_toArray, List.set_cons_zero, List.set_cons_succ, List.getElem_toArray, List.getElem_cons_succ, List.getElem_cons_zero]
                    refine wpAnyH_take (i := 14) (oi := _) (v := ?_) rfl (by kernel_rfl) (by kernel_rfl) (by kernel_rfl) (fun _ _ _ h => h) (Or.inl ⟨by rfl, ?_⟩) (by assumption) ?_
                    rotate_left
                    · first | (intro w hSw; (try dsimp only at hSw); go_simp; done) | (intro w hSw; (try dsimp only at hSw); go_simp; with_reducible rfl)
                    try simp only [Act.put, List.setIfInBounds_toArray, List.set_cons_zero, List.set_cons_succ, List.getElem_toArray, List.getElem_cons_succ, List.getElem_cons_zero]
                    refine wpAnyH_take (i := 15) (oi := _) (v := ?_) rfl (by kernel_rfl) (by kernel_rfl) (by kernel_rfl) (fun _ _ _ h => h) (Or.inl ⟨by rfl, ?_⟩) (by assumption) ?_
                    rotate_left
                    · first | (intro w hSw; (try dsimp only at hSw); go_simp; done) | (intro w hSw; (try dsimp only at hSw); go_simp; with_reducible rfl)
                    try simp only [Act.put, List.setIfInBounds_toArray, List.set_cons_zero, List.set_cons_succ, List.getElem_toArray, List.getElem_cons_succ, List.getElem_cons_zero]
                    refine wpAnyH_take (i := 16) (oi := _) (v := ?_) rfl (by kernel_rfl) (by kernel_rfl) (by kernel_rfl) (fun _ _ _ h => h) (Or.inl ⟨by rfl, ?_⟩) (by assumption) ?_
                    rotate_left
                    · first | (intro w hSw; (try dsimp only at hSw); go_simp; done) | (intro w hSw; (try dsimp only at hSw); go_simp; with_reducible rfl)
                    try simp only [Act.put, List.setIfInBounds_toArray, List.set_cons_zero, List.set_cons_succ, List.getElem_toArray, List.getElem_cons_succ, List.getElem_cons_zero]
                    refine wpAnyH_take (i := 17) (oi := _) (v := ?_) rfl (by kernel_rfl) (by kernel_rfl) (by kernel_rfl) (fun _ _ _ h => h) (Or.inl ⟨by rfl, ?_⟩) (by assumption) ?_
                    rotate_left
                    · first | (intro w hSw; (try dsimp only at hSw); go_simp; done) | (intro w hSw; (try dsimp only at hSw); go_simp; with_reducible rfl)
                    try simp only [Act.put, List.setIfInBounds_toArray, List.set_cons_zero, List.set_cons_succ, List.getElem_toArray, List.getElem_cons_succ, List.getElem_cons_zero]
                    refine wpAnyH_done (by kernel_rfl) ?_ _
                    have SK := Lib.hid sk7
                    have ND := Lib.hid (N5.out.trans N7.out)
                    have TR9 := Lib.hid TY.out
                    have hle9 := LH.out
                    obtain ⟨q0, q1, q2, q3, q4, q5, q6, q7, f5, f6⟩ := SK.out.facts
                    clear sk7 N7 KS KN
                    go_wp2
                    go_roundw
                    case rel => exact ⟨i + 1, s2, by go_num, by omega, hle9, TR9.out.symm, SK, ND⟩
                    case measure => simp [intOf]; omega
                  | out s2 =>
                    obtain ⟨rfl, sk7⟩ := pf7
                    refine wpAnyH_take (i := 13) (oi := _) (v := ?_) rfl (by kernel_rfl) (by kernel_rfl) (by kernel_rfl) (fun _ _ _ h => h) (Or.inl ⟨by rfl, ?_⟩) (by assumption) ?_
                    rotate_left
                    · first | (intro w hSw; (try dsimp only at hSw); go_simp; done) | (intro w hSw; (try dsimp only at hSw); go_simp; with_reducible rfl)
                    try simp only [Act.put, List.setIfInBounds_toArray, List.set_cons_zero, List.set_cons_succ, List.getElem_toArray, List.getElem_cons_succ, List.getElem_cons_zero]
                    refine wpAnyH_take (i := 14) (oi := _) (v := ?_) rfl (by kernel_rfl) (by kernel_rfl) (by kernel_rfl) (fun _ _ _ h => h) (Or.inl ⟨by rfl, ?_⟩) (by assumption) ?_
                    rotate_left
                    · first | (intro w hSw; (try dsimp only at hSw); go_simp; done) | (intro w hSw; (try dsimp only at hSw); go_simp; with_reducible rfl)
                    try simp only [Act.put, List.setIfInBounds_toArray, List.set_cons_zero, List.set_cons_succ, List.getElem_toArray, List.getElem_cons_succ, List.getElem_cons_zero]
                    refine wpAnyH_take (i := 15) (oi := _) (v := ?_) rfl (by kernel_rfl) (by kernel_rfl) (by kernel_rfl) (fun _ _ _ h => h) (Or.inl ⟨by rfl, ?_⟩) (by assumption) ?_
                    rotate_left
                    · first | (intro w hSw; (try dsimp only at hSw); go_simp; done) | (intro w hSw; (try dsimp only at hSw); go_simp; with_reducible rfl)
                    try simp only [Act.put, List.setIfInBounds_toArray, List.set_cons_zero, List.set_cons_succ, List.getElem_toArray, List.getElem_cons_succ, List.getElem_cons_zero]
                    refine wpAnyH_take (i := 16) (oi := _) (v := ?_) rfl (by kernel_rfl) (by kernel_rfl) (by kernel_rfl) (fun _ _ _ h => h) (Or.inl ⟨by rfl, ?_⟩) (by assumption) ?_
                    rotate_left
                    · first | (intro w hSw; (try dsimp only at hSw); go_simp; done) | (intro w hSw; (try dsimp only at hSw); go_simp; with_reducible rfl)
                    try simp only [Act.put, List.setIfInBounds_toArray, List.set_cons_zero, List.set_cons_succ, List.getElem_toArray, List.getElem_cons_succ, List.getElem_cons_zero]
                    refine wpAnyH_take (i := 17) (oi := _) (v := ?_) rfl (by kernel_rfl) (by kernel_rfl) (by kernel_rfl) (fun _ _ _ h => h) (Or.inl ⟨by rfl, ?_⟩) (by assumption) ?_
                    rotate_left
                    · first | (intro w hSw; (try dsimp only at hSw); go_simp; done) | (intro w hSw; (try dsimp only at hSw); go_simp; with_reducible rfl)
                    try simp only [Act.put, List.setIfInBounds_toArray, List.set_cons_zero, List.set_cons_succ, List.getElem_toArray, List.getElem_cons_succ, List.getElem_cons_zero]
                    refine wpAnyH_done (by kernel_rfl) ?_ _
                    have SK := Lib.hid sk7
                    have NN := Lib.hid (NW.out.trans N7.out)
                    have TR9 := Lib.hid TY.out
                    obtain ⟨q0, q1, q2, q3, q4, q5, q6, q7, f5, f6⟩ := SK.out.facts
                    clear sk7 N7 KS KN
                    go_wp2
                    refine bodyPost_ret (v := .tuple #[v7, .bool false]) (by simp [results, Try.results111, go_sem]) rfl ⟨_, false, rfl, by rw [TR9.out]; exact ⟨rfl, SK.out⟩, NN.out⟩
      · have g1' : ¬ (i : Int) < (zn : Int) := by omega
        have RO : Hid (R = .none s') := by
          show R = _
          rw [← HR2.out]
          exact try_end _ _ _ _ _ _ _ (by rw [hcl.out]; omega)
        have NN := Lib.hid (N1.out.trans HON.out)
        clear HR2 HON
        go_wp2
        refine bodyPost_ret (v := .tuple #[.slice psl m pcap, .bool false]) (by simp [results, Try.results111, go_sem]) rfl ⟨_, false, rfl, by rw [RO.out]; exact ⟨rfl, SK2.out⟩, NN.out⟩
end Go.Proofs.Ytdmfljejlhlbnaa
namespace Go.Proofs.Ytdmfljejlhlbnaa
open Go.RowKit
set_option linter.unusedVariables false

theorem idsR_small_x {rs : List LSt} {ps : List LPr} {ids : List Int} (h : IdsR rs ps ids) (x : Int) (hx : x ∈ ids) : 1 ≤ x ∧ x ≤ 999 := by
  have hr := inRise_of h.2.1.2.2.1 h.2.2.1 h.2.2.2
  obtain ⟨i, hi, e⟩ := List.getElem_of_mem hx
  have := (hr i hi).1
  rw [List.getD_eq_getElem?_getD, List.getElem?_eq_getElem hi] at this
  simp only [Option.getD_some] at this
  rw [e] at this
  exact this
theorem ch_small_x {rs : List LSt} {ps : List LPr} {ids : List Int} (top : Int) (h : IdsR rs ps ids) {rows : List LRow} (hm : rows.map (fun r => r.2) = ids.map (chF rs top)) : ∀ r ∈ rows, ∀ x ∈ r.2, Small x := by
  intro r hr x hx
  have : r.2 ∈ ids.map (chF rs top) := by rw [← hm]; exact List.mem_map.2 ⟨r, hr, rfl⟩
  obtain ⟨id, hid, e⟩ := List.mem_map.1 this
  rw [← e] at hx
  unfold chF at hx
  obtain ⟨c, hc, e2⟩ := List.mem_map.1 hx
  have h1 := idsR_small_x h id hid
  have h2 := dom_small rs ps id top c h.2.1 hc
  rw [← e2]
  exact ⟨⟨by show (0 : Int) ≤ id; omega, by show id ≤ 1000; omega⟩, ⟨by show (0 : Int) ≤ c; omega, by show c ≤ 1000; omega⟩⟩
theorem ch_96_x {rs : List LSt} {ps : List LPr} {ids : List Int} (top : Int) (h : TabR rs ps) {rows : List LRow} (hm : rows.map (fun r => r.2) = ids.map (chF rs top)) : ∀ r ∈ rows, r.2.length ≤ 96 := by
  intro r hr
  have : r.2 ∈ ids.map (chF rs top) := by rw [← hm]; exact List.mem_map.2 ⟨r, hr, rfl⟩
  obtain ⟨id, hid, e⟩ := List.mem_map.1 this
  rw [← e]
  unfold chF
  rw [List.length_map]
  exact dom_le rs ps id top h
/-- Is it sought at all? -/
def PfOk (rs : List LSt) (ps : List LPr) (ids : List Int) (bd : Int) : Prop := IdsR rs ps ids ∧ 0 ≤ bd ∧ bd ≤ 2000
def pfS (rs : List LSt) (ps : List LPr) (top : Int) (ids : List Int) (bd : Int) : SRes := seek (fitB ps) bd.toNat (ids.map (chF rs top)) [] 0
noncomputable def pfV (rs : List LSt) (ps : List LPr) (top : Int) (ids : List Int) (bd : Int) : Int := if B (PfOk rs ps ids bd) = true then (pfS rs ps top ids bd).vd else 0
noncomputable def pfP (rs : List LSt) (ps : List LPr) (top : Int) (ids : List Int) (bd : Int) : List LPl := if B (PfOk rs ps ids bd) = true then (pfS rs ps top ids bd).pl else []
noncomputable def pfT (rs : List LSt) (ps : List LPr) (top : Int) (ids : List Int) (bd : Int) : Int := if B (PfOk rs ps ids bd) = true then ((pfS rs ps top ids bd).st : Nat) else 0
noncomputable def pfC (rs : List LSt) (ps : List LPr) (ids : List Int) (bd : Int) : Int := if B (PfOk rs ps ids bd) = true then 0 else if 400 < ids.length then 2 else 1
theorem pf_no {rs : List LSt} {ps : List LPr} {ids : List Int} {bd : Int} (top : Int) (h : ¬ PfOk rs ps ids bd) : pfV rs ps top ids bd = 0 ∧ pfP rs ps top ids bd = [] ∧ pfT rs ps top ids bd = 0 ∧ pfC rs ps ids bd = if 400 < ids.length then 2 else 1 := by
  unfold pfV pfP pfT pfC
  rw [B_no h]
  exact ⟨rfl, rfl, rfl, rfl⟩
theorem pf_yes {rs : List LSt} {ps : List LPr} {ids : List Int} {bd : Int} (top : Int) (h : PfOk rs ps ids bd) : pfV rs ps top ids bd = (pfS rs ps top ids bd).vd ∧ pfP rs ps top ids bd = (pfS rs ps top ids bd).pl ∧ pfT rs ps top ids bd = ((pfS rs ps top ids bd).st : Nat) ∧ pfC rs ps ids bd = 0 := by
  unfold pfV pfP pfT pfC
  rw [B_yes h]
  exact ⟨rfl, rfl, rfl, rfl⟩
abbrev PV (a : Int) (v : Value) (b c : Int) : Value := .agg #[.int .i64 a, v, .int .i64 b, .int .i64 c]

set_option maxRecDepth 100000 in
set_option maxHeartbeats 8000000 in
/-- impl.PlanFind. -/
theorem ipl_any (sl : Option Addr) (cap : Nat) (sl2 : Option Addr) (cap2 : Nat) (sl3 : Option Addr) (cap3 : Nat) (rs : List LSt) (ps : List LPr) (top : Int) (ids : List Int) (bd : Int) (w : World) (hn : rs.length ≤ 1048576) (hl : ids.length ≤ maxLen) (hz : Sts w sl rs) (hp : Prs w sl2 ps) (hw : ∀ p ∈ ps, WfP p) (hi : Ints w sl3 ids) :
    Calls Try.prog 47 #[TV sl rs.length cap sl2 ps.length cap2, .int .i64 top, .slice sl3 ids.length cap3, .int .i64 bd] w fun e w' => ∃ pv, e = .returned (PV (pfV rs ps top ids bd) pv (pfT rs ps top ids bd) (pfC rs ps ids bd)) ∧ w'.ownsRow w.heap.size 34 2 pv (pfP rs ps top ids bd).length (enCells (pfP rs ps top ids bd)) ∧ Below w.heap.size w w' := by
  have E1 : Hid (∀ W, Below w.heap.size w W → Calls Try.prog 77 #[TV sl rs.length cap sl2 ps.length cap2, .slice sl3 ids.length cap3] W fun e w' => e = .returned (.bool (B (IdsR rs ps ids))) ∧ Below W.heap.size W w') := fun W hW => iir_any sl cap sl2 cap2 sl3 cap3 rs ps ids W hn hl (hz.below hW) (hp.below hW) hw (hi.below hW)
  have HT := Lib.hid ((TabAt.new w sl rs.length cap sl2 ps.length cap2).below (bA0 _ (.cells #[.int .i64 0, .slice none 0 0, .int .i64 0, .int .i64 0] 70)))
  have X0 : Hid (BoxP ((w.alloc (.cells #[.slice sl rs.length cap, .slice sl2 ps.length cap2] 26)).alloc (.cells #[.int .i64 0, .slice none 0 0, .int .i64 0, .int .i64 0] 70)) (w.heap.size + 1)) := by
    have := new_at (w.alloc (.cells #[.slice sl rs.length cap, .slice sl2 ps.length cap2] 26)) (.cells #[.int .i64 0, .slice none 0 0, .int .i64 0, .int .i64 0] 70)
    rwa [show (w.alloc (.cells #[.slice sl rs.length cap, .slice sl2 ps.length cap2] 26)).heap.size = w.heap.size + 1 by simp] at this
  have B0 := Lib.hid (bA (bA0 w (.cells #[.slice sl rs.length cap, .slice sl2 ps.length cap2] 26)) (.cells #[.int .i64 0, .slice none 0 0, .int .i64 0, .int .i64 0] 70))
  unfold maxLen at hl
  by_cases h4 : 400 < ids.length
  · have h4' : (400 : Int) < (ids.length : Int) := by omega
    obtain ⟨pe1, pe2, pe3, pe4⟩ := pf_no (bd := bd) top (fun h : PfOk rs ps ids bd => by have := h.1.1; omega)
    rw [if_pos h4] at pe4
    rw [pe1, pe2, pe3, pe4]
    clear pe1 pe2 pe3 pe4 hz hp hw hi E1 HT
    generalize rs.length = rn at *
    generalize ps.length = pn at *
    generalize ids.length = n at *
    clear B0 X0
    go_enter Try.func47, Try.ntmps47
    go_wp2
    refine bodyPost_ret (v := PV 0 (.slice none 0 0) 0 2) (by simp [results, Try.results47, go_sem]) rfl ⟨_, rfl, ⟨rfl, .inl ⟨rfl, rfl⟩⟩, bA (bA0 _ _) _⟩
  have h4' : ¬ (400 : Int) < (ids.length : Int) := by omega
  by_cases hok : PfOk rs ps ids bd
  · have hir := hok.1
    obtain ⟨pe1, pe2, pe3, pe4⟩ := pf_yes top hok
    rw [pe1, pe2, pe3, pe4]
    rw [B_yes hir] at E1
    have hbd0 : ¬ bd < 0 := by have := hok.2.1; omega
    have hbd1 : ¬ (2000 : Int) < bd := by have := hok.2.2; omega
    have hbdn : ((bd.toNat : Nat) : Int) = bd := by omega
    have E2 := Lib.hid (fun W (hW : Below w.heap.size w W) => ch_any sl cap sl2 cap2 sl3 cap3 rs ps top ids W hir.1 (hz.below hW) hir.2.1 (hi.below hW))
    have E3 := Lib.hid (fun W (hW : Below w.heap.size w W) => bi_any sl rs.length cap sl2 cap2 ps W (by have := hir.2.1.1.2.2; omega) (hp.below hW) hw)
    have E4 : Hid (∀ bc rows kb W, rows.map (fun r => r.2) = ids.map (chF rs top) → Rws W (some ⟨bc, 0, none⟩) rows → FitsAt W kb ps → Calls Try.prog 112 #[.slice (some ⟨bc, 0, none⟩) ids.length ids.length, FV kb, .int .i64 bd] W fun e w' => ∃ pv, e = .returned (.agg #[.int .i64 (pfS rs ps top ids bd).vd, pv, .int .i64 ((pfS rs ps top ids bd).st : Nat), .int .i64 0]) ∧ w'.ownsRow W.heap.size 34 2 pv (pfS rs ps top ids bd).pl.length (enCells (pfS rs ps top ids bd).pl) ∧ Below W.heap.size W w') := fun bc rows kb W hm rw' ft => by
      have hll : rows.length = ids.length := by have := congrArg List.length hm; simpa using this
      have := tc_any bc rows kb ps bd.toNat W (by rw [hll]; exact hir.1) (by omega) rw' ft hw (fun r hr => ⟨ch_96_x top hir.2.1 hm r hr, ch_small_x top hir hm r hr⟩)
      rw [hll, hm, hbdn] at this
      exact this
    clear hok hir hz hp hw hi pe1 pe2 pe3 pe4 hbdn
    generalize pfS rs ps top ids bd = R at *
    generalize hST : ((R.st : Nat) : Int) = stv at *
    generalize hVD : R.vd = vdv at *
    clear hST hVD
    generalize rs.length = rn at *
    generalize ps.length = pn at *
    generalize ids.length = n at *
    generalize hPL : R.pl.length = pln at *
    clear hPL
    generalize enCells R.pl = plc at *
    clear R
    go_enter Try.func47, Try.ntmps47
    go_wp2_with fail
    generalize (w.alloc (.cells #[.slice sl rn cap, .slice sl2 pn cap2] 26)).alloc (.cells #[.int .i64 0, .slice none 0 0, .int .i64 0, .int .i64 0] 70) = w0 at *
    refine (E1.out _ B0.out).mono ?_
    rintro e w1 ⟨rfl, b1⟩
    have D1 := Lib.hid (bT B0.out b1)
    have HT1 := Lib.hid (HT.out.below b1)
    have X1 : Hid (BoxP w1 (w.heap.size + 1)) := (b1.block _ X0.out.facts.1).trans X0.out
    have hs1 := X1.out.facts.1
    have KB : Hid (∀ W, Below (w.heap.size + 1) w1 W → w.heap.size < W.heap.size ∧ W.cell? ⟨w.heap.size, 0, none⟩ = some (.slice sl rn cap) ∧ W.cell? ⟨w.heap.size, 1, none⟩ = some (.slice sl2 pn cap2)) := fun W hW => by
      have ht : TabAt W w.heap.size sl rn cap sl2 pn cap2 := (hW.block w.heap.size (by omega)).trans HT1.out
      obtain ⟨k0, k1⟩ := ht.cells
      exact ⟨ht.lt, k0, k1⟩
    clear b1 E1 HT X0 B0
    go_wp2_with fail
    refine wp_region_held_drew (S := fun W => w.heap.size < W.heap.size ∧ W.cell? ⟨w.heap.size, 0, none⟩ = some (.slice sl rn cap) ∧ W.cell? ⟨w.heap.size, 1, none⟩ = some (.slice sl2 pn cap2)) (by kernel_rfl) ?_ (fun hHeld => ?_)
    · exact KB.out _ ((Below.refl w1.heap.size w1).drew.mono (by omega))
    refine wpAnyH_take (i := 0) (oi := _) (v := ?_) rfl (by kernel_rfl) (by kernel_rfl) (by kernel_rfl) (fun _ _ _ h => h) (Or.inl ⟨by rfl, ?_⟩) (by assumption) ?_
    rotate_left
    · first | (intro w hSw; (try dsimp only at hSw); go_simp; done) | (intro w hSw; (try dsimp only at hSw); go_simp; with_reducible rfl)
    try simp only [Act.put, List.setIfInBounds_toArray, List.set_cons_zero, List.set_cons_succ, List.getElem_toArray, List.getElem_cons_zero]
    refine wpAnyH_take (i := 1) (oi := _) (v := ?_) rfl (by kernel_rfl) (by kernel_rfl) (by kernel_rfl) (fun _ _ _ h => h) (Or.inl ⟨by rfl, ?_⟩) (by assumption) ?_
    rotate_left
    · first | (intro w hSw; (try dsimp only at hSw); go_simp; done) | (intro w hSw; (try dsimp only at hSw); go_simp; with_reducible rfl)
    try simp only [Act.put, List.setIfInBounds_toArray, List.set_cons_zero, List.set_cons_succ, List.getElem_toArray, List.getElem_cons_succ, List.getElem_cons_zero]
    refine wpAnyH_take (i := 2) (oi := _) (v := ?_) rfl (by kernel_rfl) (by kernel_rfl) (by kernel_rfl) (fun _ _ _ h => h) (Or.inl ⟨by rfl, ?_⟩) (by assumption) ?_
    rotate_left
    · first | (intro w hSw; (try dsimp only at hSw); go_simp; done) | (intro w hSw; (try dsimp only at hSw); go_simp; with_reducible rfl)
    try simp only [Act.put, List.setIfInBounds_toArray, List.set_cons_zero, List.set_cons_succ, List.getElem_toArray, List.getElem_cons_succ, List.getElem_cons_zero]
    refine wpAnyH_take (i := 4) (oi := _) (v := ?_) rfl (by kernel_rfl) (by kernel_rfl) (by kernel_rfl) (fun _ _ _ h => h) (Or.inl ⟨by rfl, ?_⟩) (by assumption) ?_
    rotate_left
    · first | (intro w hSw; (try dsimp only at hSw); go_simp; done) | (intro w hSw; (try dsimp only at hSw); go_simp; with_reducible rfl)
    try simp only [Act.put, List.setIfInBounds_toArray, List.set_cons_zero, List.set_cons_succ, List.getElem_toArray, List.getElem_cons_succ, List.getElem_cons_zero]
    refine wpAnyH_take (i := 6) (oi := _) (v := ?_) rfl (by kernel_rfl) (by kernel_rfl) (by kernel_rfl) (fun _ _ _ h => h) (Or.inl ⟨by rfl, ?_⟩) (by assumption) ?_
    rotate_left
    · first | (intro w hSw; (try dsimp only at hSw); go_simp; done) | (intro w hSw; (try dsimp only at hSw); go_simp; with_reducible rfl)
    try simp only [Act.put, List.setIfInBounds_toArray, List.set_cons_zero, List.set_cons_succ, List.getElem_toArray, List.getElem_cons_succ, List.getElem_cons_zero]
    refine wpAnyH_ready (rs := [3]) (by kernel_rfl) (by simp) ?_
    refine AllReadyH.cons rfl (fun K hK => ?_) AllReadyH.nil
    go_simp
    go_wp2_with (go_at_call 82; refine (E2.out _ D1.out.drew).mono ?_; rintro e w2 ⟨bc, rows, rfl, hm, rw2, b2⟩)
    have F2 : Hid (Below w1.heap.size w1 w2) := bT ((Below.refl w1.heap.size w1).drew) b2
    have RM := Lib.hid hm
    have RW := Lib.hid rw2
    have D2 := Lib.hid (bT D1.out F2.out)
    clear b2 hm rw2
    refine hK.out _ _ ?_ (fun hHeld => ?_)
    · exact KB.out _ (F2.out.mono (by omega))
    clear hK K
    refine wpAnyH_ready (rs := [5]) (by kernel_rfl) (by simp) ?_
    refine AllReadyH.cons rfl (fun K hK => ?_) AllReadyH.nil
    go_simp
    go_wp2_with (go_at_call 73; refine (E3.out _ D2.out).mono ?_; rintro e w3 ⟨kb, rfl, ft3, b3⟩)
    have F3 : Hid (Below w1.heap.size w1 w3) := bT F2.out b3
    have T4 := Lib.hid (E4.out bc rows kb w3 RM.out (RW.out.below b3) ft3)
    clear b3 ft3
    refine hK.out _ _ ?_ (fun hHeld => ?_)
    · exact KB.out _ (F3.out.mono (by omega))
    clear hK K
    refine wpAnyH_ready (rs := [7]) (by kernel_rfl) (by simp) ?_
    refine AllReadyH.cons rfl (fun K hK => ?_) AllReadyH.nil
    go_simp
    go_wp2_with (go_at_call 112; refine T4.out.mono ?_; rintro e w4 ⟨pv, rfl, ow4, b4⟩)
    have F4 : Hid (Below w1.heap.size w1 w4) := bT F3.out b4
    have O4 := Lib.hid ow4
    have hs4 := F3.out.size
    have hs5 := F4.out.size
    obtain ⟨psl, pcap, e9⟩ := own_v ow4
    subst e9
    obtain ⟨rl, r0, r1, r2, r3, f0, f1, f2, f3⟩ := BoxP.facts (show BoxP w4 (w.heap.size + 1) from (F4.out.block _ X1.out.facts.1).trans X1.out)
    clear b4 ow4
    refine hK.out _ _ ?_ (fun hHeld => ?_)
    · exact KB.out _ (F4.out.mono (by omega))
    clear hK K
    refine wpAnyH_ready (rs := [8]) (by kernel_rfl) (by simp) ?_
    refine AllReadyH.cons rfl (fun K hK => ?_) AllReadyH.nil
    go_simp
    refine hK.out _ _ ?_ (fun hHeld => ?_)
    · exact KB.out _ (set4_below (F4.out.mono (show w.heap.size + 1 ≤ w1.heap.size by omega)) (Nat.le_refl _) _ _ _ _)
    clear hK K
    refine wpAnyH_done (by kernel_rfl) ?_ _
    have BF := Lib.hid (set4_below (bT D1.out F4.out) (show w.heap.size ≤ w.heap.size + 1 by omega) (.int .i64 vdv) (.slice psl pln pcap) (.int .i64 stv) (.int .i64 0))
    have OF : Hid ((set4 w4 (w.heap.size + 1) (.int .i64 vdv) (.slice psl pln pcap) (.int .i64 stv) (.int .i64 0)).ownsRow w.heap.size 34 2 (.slice psl pln pcap) pln plc) := own_mono (own_set4 O4.out (fun e => by have := (O4.out.lt _ e).1; omega) _ _ _ _) (by have := D1.out.size; omega)
    unfold set4 at BF OF
    go_wp2
    refine bodyPost_ret (v := PV vdv (.slice psl pln pcap) stv 0) (by simp [results, Try.results47, go_sem, r0, r1, r2, r3]) rfl ⟨_, rfl, OF.out, BF.out⟩
  · obtain ⟨pe1, pe2, pe3, pe4⟩ := pf_no top hok
    rw [if_neg h4] at pe4
    rw [pe1, pe2, pe3, pe4]
    have HOK : Hid (B (IdsR rs ps ids) = false ∨ (B (IdsR rs ps ids) = true ∧ (bd < 0 ∨ (¬ bd < 0 ∧ (2000 : Int) < bd)))) := by
      by_cases h : IdsR rs ps ids
      · refine .inr ⟨B_yes h, ?_⟩
        by_cases h0 : bd < 0
        · exact .inl h0
        · by_cases h1 : (2000 : Int) < bd
          · exact .inr ⟨h0, h1⟩
          · exact absurd ⟨h, by omega, by omega⟩ hok
      · exact .inl (B_no h)
    clear pe1 pe2 pe3 pe4 hz hp hw hi hok HT
    generalize B (IdsR rs ps ids) = bi at *
    generalize rs.length = rn at *
    generalize ps.length = pn at *
    generalize ids.length = n at *
    have FIN : Hid (∀ w1, Below ((w.alloc (.cells #[.slice sl rn cap, .slice sl2 pn cap2] 26)).alloc (.cells #[.int .i64 0, .slice none 0 0, .int .i64 0, .int .i64 0] 70)).heap.size ((w.alloc (.cells #[.slice sl rn cap, .slice sl2 pn cap2] 26)).alloc (.cells #[.int .i64 0, .slice none 0 0, .int .i64 0, .int .i64 0] 70)) w1 → BoxP w1 (w.heap.size + 1) ∧ Below w.heap.size w (set4 w1 (w.heap.size + 1) (.int .i64 0) (.slice none 0 0) (.int .i64 0) (.int .i64 1))) := fun w1 b1 => ⟨(b1.block _ X0.out.facts.1).trans X0.out, set4_below (bT B0.out b1) (by omega) _ _ _ _⟩
    rcases HOK.out with rfl | ⟨rfl, hb | ⟨hb, hb2⟩⟩
    all_goals
      go_enter Try.func47, Try.ntmps47
      go_wp2_with fail
      generalize (w.alloc (.cells #[.slice sl rn cap, .slice sl2 pn cap2] 26)).alloc (.cells #[.int .i64 0, .slice none 0 0, .int .i64 0, .int .i64 0] 70) = w0 at *
      refine (E1.out _ B0.out).mono ?_
      rintro e w1 ⟨rfl, b1⟩
      obtain ⟨x1, p1⟩ := FIN.out w1 b1
      have P := Lib.hid p1
      unfold set4 at P
      obtain ⟨rl, r0, r1, r2, r3, f0, f1, f2, f3⟩ := BoxP.facts x1
      clear b1 p1 x1
      go_wp2
      refine bodyPost_ret (v := PV 0 (.slice none 0 0) 0 1) (by simp [results, Try.results47, go_sem, r0, r1, r2, r3]) rfl ⟨_, rfl, ⟨rfl, .inl ⟨rfl, rfl⟩⟩, P.out⟩
end Go.Proofs.Ytdmfljejlhlbnaa
namespace Go.Proofs.Ytdmfljejlhlbnaa
open Go.RowKit
set_option linter.unusedVariables false

/-- A slice of places that lies below block L. -/
def SpR (w : World) (L : Nat) (v : Value) (pl : List LPl) : Prop := ∃ sl cap, v = .slice sl pl.length cap ∧ (pl = [] ∨ ∃ c o, sl = some ⟨c, o, none⟩ ∧ PlAt w c o pl ∧ c < L)
theorem SpR.nil (w : World) (L : Nat) : SpR w L (.slice none 0 0) [] := ⟨none, 0, rfl, .inl rfl⟩
theorem SpR.kept {w w' : World} {L : Nat} {v : Value} {pl : List LPl} (h : SpR w L v pl) (hs : w.heap.size ≤ w'.heap.size) (hb : ∀ k, k < w.heap.size → k < L → w'.heap[k]? = w.heap[k]?) : SpR w' L v pl := by
  obtain ⟨sl, cap, e, h⟩ := h
  refine ⟨sl, cap, e, ?_⟩
  rcases h with h | ⟨c, o, e2, p, hl⟩
  · exact .inl h
  · exact .inr ⟨c, o, e2, ⟨Nat.lt_of_lt_of_le p.lt hs, fun i hi => ⟨(World.cell?_of_block (w := w) (hb c p.lt hl)).trans (p.cell i hi).1, (World.cell?_of_block (w := w) (hb c p.lt hl)).trans (p.cell i hi).2⟩⟩, hl⟩
theorem SpR.below {w w' : World} {L : Nat} {v : Value} {pl : List LPl} (h : SpR w L v pl) (hb : Below w.heap.size w w') : SpR w' L v pl := h.kept hb.size (fun k hk _ => hb.block k hk)
theorem SpR.down {X Y L : Nat} {w w' : World} {v : Value} {pl : List LPl} (h : SpR w L v pl) (hb : Btw X Y w w') (hX : L ≤ X) : SpR w' L v pl := h.kept hb.size (fun k hk hl => hb.block k hk (.inl (by omega)))
theorem SpR.pls {w : World} {L : Nat} {v : Value} {pl : List LPl} (h : SpR w L v pl) : ∃ sl cap, v = .slice sl pl.length cap ∧ Pls w sl pl := by
  obtain ⟨sl, cap, e, h⟩ := h
  refine ⟨sl, cap, e, ?_⟩
  rcases h with h | ⟨c, o, e2, p, hl⟩
  · exact .inl h
  · exact .inr ⟨c, o, e2, p⟩

set_option maxRecDepth 100000 in
set_option maxHeartbeats 8000000 in
/-- spec.PlanFind. -/
theorem spl_any (sl : Option Addr) (cap : Nat) (sl2 : Option Addr) (cap2 : Nat) (sl3 : Option Addr) (cap3 : Nat) (rs : List LSt) (ps : List LPr) (top : Int) (ids : List Int) (bd : Int) (w : World) (hn : rs.length ≤ 1048576) (hl : ids.length ≤ 1048576) (hz : Sts w sl rs) (hp : Prs w sl2 ps) (hi : Ints w sl3 ids) :
    Calls Try.prog 45 #[TV sl rs.length cap sl2 ps.length cap2, .int .i64 top, .slice sl3 ids.length cap3, .int .i64 bd] w fun e w' => ∃ pv, e = .returned (PV (pfV rs ps top ids bd) pv (pfT rs ps top ids bd) (pfC rs ps ids bd)) ∧ SpR w' w'.heap.size pv (pfP rs ps top ids bd) ∧ Below w.heap.size w w' := by
  have E1 : Hid (∀ W, Below w.heap.size w W → Calls Try.prog 34 #[TV sl rs.length cap sl2 ps.length cap2, .slice sl3 ids.length cap3] W fun e w' => e = .returned (.bool (B (IdsR rs ps ids))) ∧ Below W.heap.size W w') := fun W hW => sir_any sl cap sl2 cap2 sl3 cap3 rs ps ids W hn hl (hz.below hW) (hp.below hW) (hi.below hW)
  have HT := Lib.hid ((TabAt.new w sl rs.length cap sl2 ps.length cap2).below (bA0 _ (.cells #[.int .i64 0, .slice none 0 0, .int .i64 0, .int .i64 0] 70)))
  have X0 : Hid (BoxP ((w.alloc (.cells #[.slice sl rs.length cap, .slice sl2 ps.length cap2] 26)).alloc (.cells #[.int .i64 0, .slice none 0 0, .int .i64 0, .int .i64 0] 70)) (w.heap.size + 1)) := by
    have := new_at (w.alloc (.cells #[.slice sl rs.length cap, .slice sl2 ps.length cap2] 26)) (.cells #[.int .i64 0, .slice none 0 0, .int .i64 0, .int .i64 0] 70)
    rwa [show (w.alloc (.cells #[.slice sl rs.length cap, .slice sl2 ps.length cap2] 26)).heap.size = w.heap.size + 1 by simp] at this
  have B0 := Lib.hid (bA (bA0 w (.cells #[.slice sl rs.length cap, .slice sl2 ps.length cap2] 26)) (.cells #[.int .i64 0, .slice none 0 0, .int .i64 0, .int .i64 0] 70))
  by_cases h4 : 400 < ids.length
  · have h4' : (400 : Int) < (ids.length : Int) := by omega
    obtain ⟨pe1, pe2, pe3, pe4⟩ := pf_no (bd := bd) top (fun h : PfOk rs ps ids bd => by have := h.1.1; omega)
    rw [if_pos h4] at pe4
    rw [pe1, pe2, pe3, pe4]
    clear pe1 pe2 pe3 pe4 hz hp hi E1 HT
    generalize rs.length = rn at *
    generalize ps.length = pn at *
    generalize ids.length = n at *
    clear B0 X0
    go_enter Try.func45, Try.ntmps45
    go_wp2
    refine bodyPost_ret (v := PV 0 (.slice none 0 0) 0 2) (by simp [results, Try.results45, go_sem]) rfl ⟨_, rfl, SpR.nil _ _, bA (bA0 _ _) _⟩
  have h4' : ¬ (400 : Int) < (ids.length : Int) := by omega
  by_cases hok : PfOk rs ps ids bd
  · obtain ⟨bud, hbud⟩ : ∃ b : Nat, (b : Int) = bd := ⟨bd.toNat, by have := hok.2.1; omega⟩
    subst hbud
    have hir := hok.1
    obtain ⟨pe1, pe2, pe3, pe4⟩ := pf_yes top hok
    rw [pe1, pe2, pe3, pe4]
    rw [B_yes hir] at E1
    have hbd0 : ¬ (bud : Int) < 0 := by omega
    have hbd1 : ¬ (2000 : Int) < (bud : Int) := by have := hok.2.2; omega
    have ES : Hid (pfS rs ps top ids (bud : Int) = seek (fitB ps) bud (ids.map (chF rs top)) [] 0) := by unfold pfS; rw [Int.toNat_natCast]; exact Lib.hid rfl
    have FR : Hid (∀ kb wb W v pcap, Below w.heap.size w wb → wb.heap.size ≤ kb → Below wb.heap.size wb W → SeekAt W kb (.slice sl rs.length cap) (.slice sl2 ps.length cap2) (.int .i64 top) (.slice sl3 ids.length cap3) bud 0 false → Calls Try.prog 111 #[.pointer (some ⟨kb, 0, none⟩), .slice v 0 pcap] W (FromP kb (.slice sl rs.length cap) (.slice sl2 ps.length cap2) (.int .i64 top) (.slice sl3 ids.length cap3) bud W (pfS rs ps top ids (bud : Int)))) := fun kb wb W v pcap hb hk hW sk => by
      rw [ES.out]
      exact from_any sl cap sl2 cap2 sl3 cap3 rs ps top ids bud kb wb hk (by omega) hn hir.1 (hz.below hb) (hp.below hb) hir.2.1 (idsR_small_x hir) (hi.below hb) ids.length [] 0 v pcap W (Nat.zero_add _) (Nat.zero_le _) hW sk (.inl rfl) (fun x hx => by cases hx)
    clear hok hir hz hp hi pe1 pe2 pe3 pe4 ES
    generalize pfS rs ps top ids (bud : Int) = R at *
    generalize rs.length = rn at *
    generalize ps.length = pn at *
    generalize ids.length = n at *
    go_enter Try.func45, Try.ntmps45
    go_wp2_with fail
    generalize (w.alloc (.cells #[.slice sl rn cap, .slice sl2 pn cap2] 26)).alloc (.cells #[.int .i64 0, .slice none 0 0, .int .i64 0, .int .i64 0] 70) = w0 at *
    refine (E1.out _ B0.out).mono ?_
    rintro e w1 ⟨rfl, b1⟩
    have D1 := Lib.hid (bT B0.out b1)
    have HT1 := HT.out.below b1
    have X1 : Hid (BoxP w1 (w.heap.size + 1)) := (b1.block _ X0.out.facts.1).trans X0.out
    have hs1 := X1.out.facts.1
    obtain ⟨t0, t1⟩ := HT1.cells
    have tl := HT1.lt
    clear b1 E1 HT X0 B0 HT1
    have SK1 : SeekAt (w1.alloc (.cells #[.slice sl rn cap, .slice sl2 pn cap2, .int .i64 top, .slice sl3 n cap3, .int .i64 (bud : Nat), .int .i64 0, .bool false] 136)) w1.heap.size (.slice sl rn cap) (.slice sl2 pn cap2) (.int .i64 top) (.slice sl3 n cap3) bud 0 false := new_at _ _
    have F2 := Lib.hid (FR.out w1.heap.size w1 ((w1.alloc (.cells #[.slice sl rn cap, .slice sl2 pn cap2, .int .i64 top, .slice sl3 n cap3, .int .i64 (bud : Nat), .int .i64 0, .bool false] 136)).alloc (.cells #[] 34)) (some ⟨w1.heap.size + 1, 0, none⟩) 0 D1.out (Nat.le_refl _) (bA (bA0 _ _) _) (SK1.of (bA0 _ _)))
    have B2 := Lib.hid (bA (bA0 w1 (.cells #[.slice sl rn cap, .slice sl2 pn cap2, .int .i64 top, .slice sl3 n cap3, .int .i64 (bud : Nat), .int .i64 0, .bool false] 136)) (.cells #[] 34))
    clear SK1 FR
    go_wp2_with fail
    generalize (w1.alloc (.cells #[.slice sl rn cap, .slice sl2 pn cap2, .int .i64 top, .slice sl3 n cap3, .int .i64 (bud : Nat), .int .i64 0, .bool false] 136)).alloc (.cells #[] 34) = w2 at *
    refine F2.out.mono ?_
    rintro e w3 ⟨v3, ok3, rfl, pf3, on3⟩
    have B3 := Lib.hid (Onl.below B2.out (Nat.le_refl _) on3)
    have D3 := Lib.hid (bT D1.out B3.out)
    obtain ⟨rl, r0, r1, r2, r3, f0, f1, f2, f3⟩ := BoxP.facts (show BoxP w3 (w.heap.size + 1) from (B3.out.block _ hs1).trans X1.out)
    clear on3 F2 B2 X1 t0 t1 tl
    cases R with
    | found p s2 =>
      obtain ⟨rfl, ⟨ps7, pc7, rfl, pn7⟩, sk7⟩ := pf3
      obtain ⟨q0, q1, q2, q3, q4, q5, q6, q7, f5, f6⟩ := sk7.facts
      have P : Hid (Below w.heap.size w (set4 w3 (w.heap.size + 1) (.int .i64 1) (.slice ps7 p.length pc7) (.int .i64 (s2 : Nat)) (.int .i64 0))) := set4_below D3.out (by omega) _ _ _ _
      have Q : Hid (SpR (set4 w3 (w.heap.size + 1) (.int .i64 1) (.slice ps7 p.length pc7) (.int .i64 (s2 : Nat)) (.int .i64 0)) (set4 w3 (w.heap.size + 1) (.int .i64 1) (.slice ps7 p.length pc7) (.int .i64 (s2 : Nat)) (.int .i64 0)).heap.size (.slice ps7 p.length pc7) p) := by
        refine ⟨ps7, pc7, rfl, ?_⟩
        rcases pn7 with h | ⟨c, o, e, pa, hne⟩
        · exact .inl h
        · have bk : (set4 w3 (w.heap.size + 1) (.int .i64 1) (.slice ps7 p.length pc7) (.int .i64 (s2 : Nat)) (.int .i64 0)).heap[c]? = w3.heap[c]? := by
            unfold set4
            rw [Below.heap_setCell _ _ _ _ (by show c ≠ w.heap.size + 1; omega), Below.heap_setCell _ _ _ _ (by show c ≠ w.heap.size + 1; omega), Below.heap_setCell _ _ _ _ (by show c ≠ w.heap.size + 1; omega), Below.heap_setCell _ _ _ _ (by show c ≠ w.heap.size + 1; omega)]
          have sz : (set4 w3 (w.heap.size + 1) (.int .i64 1) (.slice ps7 p.length pc7) (.int .i64 (s2 : Nat)) (.int .i64 0)).heap.size = w3.heap.size := by simp [set4, World.setCell]
          exact .inr ⟨c, o, e, ⟨by rw [sz]; exact pa.lt, fun i hi => ⟨(World.cell?_of_block (w := w3) bk).trans (pa.cell i hi).1, (World.cell?_of_block (w := w3) bk).trans (pa.cell i hi).2⟩⟩, by rw [sz]; exact pa.lt⟩
      unfold set4 at P Q
      clear sk7 pn7
      go_wp2
      refine bodyPost_ret (v := PV 1 (.slice ps7 p.length pc7) (s2 : Nat) 0) (by simp [results, Try.results45, go_sem, r0, r1, r2, r3]) rfl ⟨_, rfl, Q.out, P.out⟩
    | none s2 =>
      obtain ⟨rfl, sk7⟩ := pf3
      obtain ⟨q0, q1, q2, q3, q4, q5, q6, q7, f5, f6⟩ := sk7.facts
      have P : Hid (Below w.heap.size w (set4 w3 (w.heap.size + 1) (.int .i64 2) (.slice none 0 0) (.int .i64 (s2 : Nat)) (.int .i64 0))) := set4_below D3.out (by omega) _ _ _ _
      unfold set4 at P
      clear sk7
      go_wp2
      refine bodyPost_ret (v := PV 2 (.slice none 0 0) (s2 : Nat) 0) (by simp [results, Try.results45, go_sem, r0, r1, r2, r3]) rfl ⟨_, rfl, SpR.nil _ _, P.out⟩
    | out s2 =>
      obtain ⟨rfl, sk7⟩ := pf3
      obtain ⟨q0, q1, q2, q3, q4, q5, q6, q7, f5, f6⟩ := sk7.facts
      have P : Hid (Below w.heap.size w (set4 w3 (w.heap.size + 1) (.int .i64 3) (.slice none 0 0) (.int .i64 (s2 : Nat)) (.int .i64 0))) := set4_below D3.out (by omega) _ _ _ _
      unfold set4 at P
      clear sk7
      go_wp2
      refine bodyPost_ret (v := PV 3 (.slice none 0 0) (s2 : Nat) 0) (by simp [results, Try.results45, go_sem, r0, r1, r2, r3]) rfl ⟨_, rfl, SpR.nil _ _, P.out⟩
  · obtain ⟨pe1, pe2, pe3, pe4⟩ := pf_no top hok
    rw [if_neg h4] at pe4
    rw [pe1, pe2, pe3, pe4]
    have HOK : Hid (B (IdsR rs ps ids) = false ∨ (B (IdsR rs ps ids) = true ∧ (bd < 0 ∨ (¬ bd < 0 ∧ (2000 : Int) < bd)))) := by
      by_cases h : IdsR rs ps ids
      · refine .inr ⟨B_yes h, ?_⟩
        by_cases h0 : bd < 0
        · exact .inl h0
        · by_cases h1 : (2000 : Int) < bd
          · exact .inr ⟨h0, h1⟩
          · exact absurd ⟨h, by omega, by omega⟩ hok
      · exact .inl (B_no h)
    clear pe1 pe2 pe3 pe4 hz hp hi hok HT
    generalize B (IdsR rs ps ids) = bi at *
    generalize rs.length = rn at *
    generalize ps.length = pn at *
    generalize ids.length = n at *
    have FIN : Hid (∀ w1, Below ((w.alloc (.cells #[.slice sl rn cap, .slice sl2 pn cap2] 26)).alloc (.cells #[.int .i64 0, .slice none 0 0, .int .i64 0, .int .i64 0] 70)).heap.size ((w.alloc (.cells #[.slice sl rn cap, .slice sl2 pn cap2] 26)).alloc (.cells #[.int .i64 0, .slice none 0 0, .int .i64 0, .int .i64 0] 70)) w1 → BoxP w1 (w.heap.size + 1) ∧ Below w.heap.size w (set4 w1 (w.heap.size + 1) (.int .i64 0) (.slice none 0 0) (.int .i64 0) (.int .i64 1))) := fun w1 b1 => ⟨(b1.block _ X0.out.facts.1).trans X0.out, set4_below (bT B0.out b1) (by omega) _ _ _ _⟩
    rcases HOK.out with rfl | ⟨rfl, hb | ⟨hb, hb2⟩⟩
    all_goals
      go_enter Try.func45, Try.ntmps45
      go_wp2_with fail
      generalize (w.alloc (.cells #[.slice sl rn cap, .slice sl2 pn cap2] 26)).alloc (.cells #[.int .i64 0, .slice none 0 0, .int .i64 0, .int .i64 0] 70) = w0 at *
      refine (E1.out _ B0.out).mono ?_
      rintro e w1 ⟨rfl, b1⟩
      obtain ⟨x1, p1⟩ := FIN.out w1 b1
      have P := Lib.hid p1
      unfold set4 at P
      obtain ⟨rl, r0, r1, r2, r3, f0, f1, f2, f3⟩ := BoxP.facts x1
      clear b1 p1 x1
      go_wp2
      refine bodyPost_ret (v := PV 0 (.slice none 0 0) 0 1) (by simp [results, Try.results45, go_sem, r0, r1, r2, r3]) rfl ⟨_, rfl, SpR.nil _ _, P.out⟩
end Go.Proofs.Ytdmfljejlhlbnaa
namespace Go.Proofs.Ytdmfljejlhlbnaa
open Go.RowKit
set_option linter.unusedVariables false

/-- A box with an answer. -/
def BoxQ (w : World) (b : Nat) (x0 : Int) (v : Value) (x2 x3 : Int) : Prop := w.heap[b]? = some (.cells #[.int .i64 x0, v, .int .i64 x2, .int .i64 x3] 70)
theorem BoxQ.facts {w : World} {b : Nat} {x0 x2 x3 : Int} {v : Value} (h : BoxQ w b x0 v x2 x3) : b < w.heap.size ∧ w.cell? ⟨b, 0, none⟩ = some (.int .i64 x0) ∧ w.cell? ⟨b, 1, none⟩ = some v ∧ w.cell? ⟨b, 2, none⟩ = some (.int .i64 x2) ∧ w.cell? ⟨b, 3, none⟩ = some (.int .i64 x3) := by
  unfold BoxQ at h
  refine ⟨(Array.getElem?_eq_some_iff.1 h).1, ?_, ?_, ?_, ?_⟩ <;> simp [World.cell?, h]
theorem BoxQ.below {w w' : World} {b : Nat} {x0 x2 x3 : Int} {v : Value} (h : BoxQ w b x0 v x2 x3) (hb : Below w.heap.size w w') : BoxQ w' b x0 v x2 x3 := (hb.block b h.facts.1).trans h
theorem BoxQ.btw {X Y : Nat} {w w' : World} {b : Nat} {x0 x2 x3 : Int} {v : Value} (h : BoxQ w b x0 v x2 x3) (hb : Btw X Y w w') (hc : b < X ∨ Y ≤ b) : BoxQ w' b x0 v x2 x3 := (hb.block b h.facts.1 hc).trans h
theorem BoxQ.grown {w w' : World} {b : Nat} {x0 x2 x3 : Int} {v : Value} (h : BoxQ w b x0 v x2 x3) {C n : Nat} {u : Value} {xs : List Value} (o : w.ownsRow C 34 2 u n xs) (g : w.grownBy w' u.ownBlock) : BoxQ w' b x0 v x2 x3 := by
  refine (g.block b h.facts.1 fun e => ?_).trans h
  obtain ⟨cur, hk⟩ := own_kind o e.symm
  have h2 : w.heap[b]? = some (.cells #[.int .i64 x0, v, .int .i64 x2, .int .i64 x3] 70) := h
  rw [h2] at hk
  simp at hk
/-- An owned row of cells of places. -/
def OwP (w : World) (B : Nat) (v : Value) (n : Nat) (xs : List Value) : Prop := w.ownsRow B 34 2 v n xs
theorem OwP.below {w w' : World} {B : Nat} {v : Value} {n : Nat} {xs : List Value} (h : OwP w B v n xs) (hb : Below w.heap.size w w') : OwP w' B v n xs := own_below h hb
theorem OwP.up {X Y B : Nat} {w w' : World} {v : Value} {n : Nat} {xs : List Value} (h : OwP w B v n xs) (hb : Btw X Y w w') (hY : Y ≤ B) : OwP w' B v n xs := own_btw h hb (fun j hj => .inr (Nat.le_trans hY (World.ownsRow.lt h j hj).1))
theorem BtwOf {C : Nat} {w w' : World} (h : Below C w w') : Btw C w.heap.size w w' := ⟨h.os, h.tape, h.output, h.size, fun k hk hc => by
  rcases hc with hc | hc
  · exact h.block k hc
  · omega⟩
set_option maxRecDepth 100000 in
set_option maxHeartbeats 1000000 in
theorem eqPO_any (a b c : Int) (sl sl' : Option Addr) (cap cap' : Nat) (pl : List LPl) (w : World) (hn : pl.length ≤ 1048576) (h : Pls w sl pl) (h' : Pls w sl' pl) :
    Calls Try.prog 48 #[PV a (.slice sl pl.length cap) b c, PV a (.slice sl' pl.length cap') b c] w fun e w' => e = .returned (.bool true) ∧ Below w.heap.size w w' := by
  have B0 := Lib.hid (bA (bA0 w (.cells #[.int .i64 a, .slice sl pl.length cap, .int .i64 b, .int .i64 c] 70)) (.cells #[.int .i64 a, .slice sl' pl.length cap', .int .i64 b, .int .i64 c] 70))
  have E := Lib.hid (eqPlS_any sl sl' cap cap' pl _ hn (h.below B0.out) (h'.below B0.out))
  have X1 : Hid (BoxQ ((w.alloc (.cells #[.int .i64 a, .slice sl pl.length cap, .int .i64 b, .int .i64 c] 70)).alloc (.cells #[.int .i64 a, .slice sl' pl.length cap', .int .i64 b, .int .i64 c] 70)) w.heap.size a (.slice sl pl.length cap) b c) := (Below.heap_alloc _ _ _ (by simp)).trans (new_at _ _)
  have X2 : Hid (BoxQ ((w.alloc (.cells #[.int .i64 a, .slice sl pl.length cap, .int .i64 b, .int .i64 c] 70)).alloc (.cells #[.int .i64 a, .slice sl' pl.length cap', .int .i64 b, .int .i64 c] 70)) (w.heap.size + 1) a (.slice sl' pl.length cap') b c) := by
    have := new_at (w.alloc (.cells #[.int .i64 a, .slice sl pl.length cap, .int .i64 b, .int .i64 c] 70)) (.cells #[.int .i64 a, .slice sl' pl.length cap', .int .i64 b, .int .i64 c] 70)
    rwa [show (w.alloc (.cells #[.int .i64 a, .slice sl pl.length cap, .int .i64 b, .int .i64 c] 70)).heap.size = w.heap.size + 1 by simp] at this
  clear h h'
  generalize pl.length = n at *
  go_enter Try.func48, Try.ntmps48
  go_wp2_with fail
  generalize (w.alloc (.cells #[.int .i64 a, .slice sl n cap, .int .i64 b, .int .i64 c] 70)).alloc (.cells #[.int .i64 a, .slice sl' n cap', .int .i64 b, .int .i64 c] 70) = w0 at *
  refine E.out.mono ?_
  rintro e w1 ⟨rfl, b1⟩
  have D1 := Lib.hid (bT B0.out b1)
  obtain ⟨y0, y1, y2, y3, y4⟩ := (X1.out.below b1).facts
  obtain ⟨z0, z1, z2, z3, z4⟩ := (X2.out.below b1).facts
  clear b1 E X1 X2
  go_wp2
  go_ret
  exact ⟨rfl, D1.out⟩
set_option maxRecDepth 100000 in
set_option maxHeartbeats 1000000 in
theorem mkPO_any (C : Nat) (a b c : Int) (v : Value) (n : Nat) (xs : List Value) (w : World) (hn : n ≤ 1048576) (hC : C ≤ w.heap.size) (o : OwP w C v n xs) :
    Calls Try.prog 51 #[PV a v b c, .int .i64 1] w fun e w' => e = .returned (.int .i64 (1 + 2 * (n : Int))) ∧ OwP w' C v n (valsZ (marks 1 (n * 2))) ∧ Below C w w' ∧ w.grownBy w' v.ownBlock := by
  obtain ⟨sl, cap, rfl⟩ := own_v o
  have M := Lib.hid (mark2_row C (.slice sl n cap) n xs 1 hn (by omega) (by omega) _ (World.ownsRow.alloc o (.cells #[.int .i64 a, .slice sl n cap, .int .i64 b, .int .i64 c] 70)))
  have G0 : Hid (w.grownBy (w.alloc (.cells #[.int .i64 a, .slice sl n cap, .int .i64 b, .int .i64 c] 70)) (Value.slice sl n cap).ownBlock) := ⟨rfl, rfl, rfl, by simp, fun k hk _ => Below.heap_alloc _ _ _ hk⟩
  have LO := Lib.hid (fun j hj => (World.ownsRow.lt o j hj).1)
  clear o
  go_enter Try.func51, Try.ntmps51
  go_wp2_with fail
  generalize w.alloc (.cells #[.int .i64 a, .slice sl n cap, .int .i64 b, .int .i64 c] 70) = w0 at *
  refine M.out.mono ?_
  rintro e w1 ⟨rfl, o1, g1⟩
  have O1 := Lib.hid o1
  have G1 : Hid (w.grownBy w1 (Value.slice sl n cap).ownBlock) := ⟨g1.os.trans G0.out.os, g1.tape.trans G0.out.tape, g1.output.trans G0.out.output, Nat.le_trans G0.out.size g1.size, fun k hk hne => (g1.block k (Nat.lt_of_lt_of_le hk G0.out.size) hne).trans (G0.out.block k hk hne)⟩
  have B1 : Hid (Below C w w1) := (Below.refl C w).grown G1.out hC LO.out
  clear o1 g1 M G0
  go_wp2
  go_ret
  exact ⟨rfl, O1.out, B1.out, G1.out⟩
set_option maxRecDepth 100000 in
set_option maxHeartbeats 1000000 in
theorem hdPO_any (C : Nat) (a b c : Int) (v : Value) (n : Nat) (w : World) (hn : n ≤ 1048576) (o : OwP w C v n (valsZ (marks 1 (n * 2)))) :
    Calls Try.prog 52 #[PV a v b c, .int .i64 1] w fun e w' => e = .returned (.int .i64 (1 + 2 * (n : Int))) ∧ Below w.heap.size w w' := by
  obtain ⟨sl, cap, rfl⟩ := own_v o
  have M := Lib.hid (held2_row C (.slice sl n cap) n 1 hn (by omega) (by omega) _ (World.ownsRow.alloc o (.cells #[.int .i64 a, .slice sl n cap, .int .i64 b, .int .i64 c] 70)))
  have B0 := Lib.hid (bA0 w (.cells #[.int .i64 a, .slice sl n cap, .int .i64 b, .int .i64 c] 70))
  have hneg : ¬ (1 + 2 * (n : Int)) < 0 := by omega
  clear o
  generalize 1 + 2 * (n : Int) = q at *
  go_enter Try.func52, Try.ntmps52
  go_wp2_with fail
  generalize w.alloc (.cells #[.int .i64 a, .slice sl n cap, .int .i64 b, .int .i64 c] 70) = w0 at *
  refine M.out.mono ?_
  rintro e w1 ⟨rfl, rfl⟩
  clear M
  go_wp2
  go_ret
  exact ⟨rfl, B0.out⟩
theorem pf_bare {rs rs' : List LSt} (ps : List LPr) (top : Int) (ids : List Int) (bd : Int) (h : bareS rs = bareS rs') : pfV rs ps top ids bd = pfV rs' ps top ids bd ∧ pfP rs ps top ids bd = pfP rs' ps top ids bd ∧ pfT rs ps top ids bd = pfT rs' ps top ids bd ∧ pfC rs ps ids bd = pfC rs' ps ids bd := by
  have e1 : chF rs top = chF rs' top := funext fun id => by unfold chF; rw [flat_bare id top rs rs' h]
  have e2 : B (PfOk rs ps ids bd) = B (PfOk rs' ps ids bd) := by
    have hb := BIds ps ids h
    refine B_iff ?_
    have hi : IdsR rs ps ids ↔ IdsR rs' ps ids := by
      constructor
      · intro hh
        have := B_yes hh
        rw [hb] at this
        exact B_true this
      · intro hh
        have := B_yes hh
        rw [← hb] at this
        exact B_true this
    unfold PfOk
    rw [hi]
  unfold pfV pfP pfT pfC pfS
  rw [e1, e2]
  exact ⟨rfl, rfl, rfl, rfl⟩
theorem pfP_len (rs : List LSt) (ps : List LPr) (top : Int) (ids : List Int) (bd : Int) : (pfP rs ps top ids bd).length ≤ 400 := by
  unfold pfP
  by_cases h : PfOk rs ps ids bd
  · rw [B_yes h, if_pos rfl]
    have hl := seek_len (fitB ps) bd.toNat (ids.map (chF rs top)) [] 0
    have h4 := h.1.1
    unfold pfS
    cases hr : seek (fitB ps) bd.toNat (ids.map (chF rs top)) [] 0 with
    | found p s =>
      have := hl p s hr
      simp at this
      show p.length ≤ 400
      omega
    | none s => exact Nat.zero_le _
    | out s => exact Nat.zero_le _
  · rw [B_no h]; exact Nat.zero_le _
end Go.Proofs.Ytdmfljejlhlbnaa
