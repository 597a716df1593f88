/-
  THE SEARCH FOR A PLAN, as lists: by recursion (seek, tryL), and as the loop that goes back (unw, fin).
-/
import Derived.Test.YtgfclllfkpblnaaUa
namespace Go.Proofs.Ytgfclllfkpblnaa
open Go.RowKit
set_option linter.unusedVariables false

/-- What a search ends with: a plan, nothing, or a budget that is used up; and the steps. -/
inductive SRes
  | found (p : List LPl) (s : Nat)
  | none (s : Nat)
  | out (s : Nat)

/-- The choices xs of one station, one by one; k: the search behind it. -/
def tryL (f : List LPl → LPl → Bool) (bud : Nat) (k : List LPl → Nat → SRes) : List LPl → List LPl → Nat → SRes
  | [], _, s => .none s
  | x :: xs, pl, s => if s = bud then .out s else if f pl x = true then (match k (pl ++ [x]) (s + 1) with | .none s' => tryL f bud k xs pl s' | r => r) else tryL f bud k xs pl (s + 1)
/-- The search over the stations' choices. -/
def seek (f : List LPl → LPl → Bool) (bud : Nat) : List (List LPl) → List LPl → Nat → SRes
  | [], pl, s => .found pl s
  | c :: cs, pl, s => tryL f bud (seek f bud cs) c pl s
/-- What the whole search ends with, if the search behind the first n stations ends with r. -/
def unw (f : List LPl → LPl → Bool) (bud : Nat) (C : List (List LPl)) (tr : List Nat) : Nat → List LPl → SRes → SRes
  | 0, _, r => r
  | n + 1, pl, .none s => unw f bud C tr n (pl.take n) (tryL f bud (seek f bud (C.drop (n + 1))) ((C.getD n []).drop (tr.getD n 0)) (pl.take n) s)
  | _ + 1, _, r => r
/-- What the choices from tr on of the station behind pl end with. -/
def locR (f : List LPl → LPl → Bool) (bud : Nat) (C : List (List LPl)) (t : Nat) (pl : List LPl) (s : Nat) : SRes :=
  if pl.length < C.length then tryL f bud (seek f bud (C.drop (pl.length + 1))) ((C.getD pl.length []).drop t) pl s else .found pl s
def finR (f : List LPl → LPl → Bool) (bud : Nat) (C : List (List LPl)) (tr : List Nat) (pl : List LPl) (s : Nat) : SRes :=
  unw f bud C tr pl.length pl (locR f bud C (tr.getD pl.length 0) pl s)

variable (f : List LPl → LPl → Bool) (bud : Nat) (C : List (List LPl))

theorem try_end (k : List LPl → Nat → SRes) (c pl : List LPl) (i s : Nat) (h : c.length ≤ i) : tryL f bud k (c.drop i) pl s = .none s := by
  rw [List.drop_eq_nil_of_le h]; rfl
theorem try_out (k : List LPl → Nat → SRes) (c pl : List LPl) (i : Nat) (h : i < c.length) : tryL f bud k (c.drop i) pl bud = .out bud := by
  rw [List.drop_eq_getElem_cons h, tryL, if_pos rfl]
theorem try_no (k : List LPl → Nat → SRes) (c pl : List LPl) (i s : Nat) (h : i < c.length) (hs : s ≠ bud) (hf : f pl c[i] = false) : tryL f bud k (c.drop i) pl s = tryL f bud k (c.drop (i + 1)) pl (s + 1) := by
  rw [List.drop_eq_getElem_cons h, tryL, if_neg hs, hf]; rfl
theorem try_yes (k : List LPl → Nat → SRes) (c pl : List LPl) (i s : Nat) (h : i < c.length) (hs : s ≠ bud) (hf : f pl c[i] = true) : tryL f bud k (c.drop i) pl s = (match k (pl ++ [c[i]]) (s + 1) with | .none s' => tryL f bud k (c.drop (i + 1)) pl s' | r => r) := by
  rw [List.drop_eq_getElem_cons h, tryL, if_neg hs, if_pos hf]

/-- The steps of an end. -/
def SRes.st : SRes → Nat
  | .found _ s => s
  | .none s => s
  | .out s => s
theorem tryL_le (k : List LPl → Nat → SRes) (hk : ∀ pl s, s ≤ bud → s ≤ (k pl s).st ∧ (k pl s).st ≤ bud) : ∀ (xs pl : List LPl) (s : Nat), s ≤ bud → s ≤ (tryL f bud k xs pl s).st ∧ (tryL f bud k xs pl s).st ≤ bud := by
  intro xs
  induction xs with
  | nil => intro pl s h; exact ⟨Nat.le_refl _, h⟩
  | cons x xs ih =>
    intro pl s h
    rw [tryL]
    by_cases e : s = bud
    · rw [if_pos e]; exact ⟨Nat.le_refl _, h⟩
    · rw [if_neg e]
      cases hf : f pl x with
      | true =>
        rw [if_pos rfl]
        have hk1 := hk (pl ++ [x]) (s + 1) (by omega)
        generalize k (pl ++ [x]) (s + 1) = r at *
        cases r with
        | none s' =>
          have := ih pl s' hk1.2
          have h1 : s + 1 ≤ s' := hk1.1
          exact ⟨by show s ≤ (tryL f bud k xs pl s').st; have := this.1; omega, this.2⟩
        | found p s' => have h1 : s + 1 ≤ s' := hk1.1; exact ⟨by show s ≤ s'; omega, hk1.2⟩
        | out s' => have h1 : s + 1 ≤ s' := hk1.1; exact ⟨by show s ≤ s'; omega, hk1.2⟩
      | false =>
        rw [if_neg (by simp)]
        have := ih pl (s + 1) (by omega)
        exact ⟨by omega, this.2⟩
theorem seek_le : ∀ (cs : List (List LPl)) (pl : List LPl) (s : Nat), s ≤ bud → s ≤ (seek f bud cs pl s).st ∧ (seek f bud cs pl s).st ≤ bud := by
  intro cs
  induction cs with
  | nil => intro pl s h; exact ⟨Nat.le_refl _, h⟩
  | cons c cs ih => intro pl s h; exact tryL_le f bud _ ih c pl s h

/-- A found plan has a place of each station: as many as there are. -/
theorem tryL_len (k : List LPl → Nat → SRes) (n : Nat) (hk : ∀ pl s p t, k pl s = .found p t → p.length = pl.length + n) : ∀ (xs pl : List LPl) (s : Nat) (p : List LPl) (t : Nat), tryL f bud k xs pl s = .found p t → p.length = pl.length + (n + 1) := by
  intro xs
  induction xs with
  | nil => intro pl s p t h; simp [tryL] at h
  | cons x xs ih =>
    intro pl s p t h
    rw [tryL] at h
    by_cases e : s = bud
    · rw [if_pos e] at h; simp at h
    · rw [if_neg e] at h
      cases hf : f pl x with
      | true =>
        rw [hf, if_pos rfl] at h
        have hk1 := hk (pl ++ [x]) (s + 1)
        generalize k (pl ++ [x]) (s + 1) = r at *
        cases r with
        | none s' => exact ih pl s' p t h
        | found q s' =>
          have := hk1 q s' rfl
          simp only [SRes.found.injEq] at h
          rw [← h.1, this]; simp; omega
        | out s' => simp at h
      | false =>
        rw [hf, if_neg (by simp)] at h
        exact ih pl (s + 1) p t h
theorem seek_len : ∀ (cs : List (List LPl)) (pl : List LPl) (s : Nat) (p : List LPl) (t : Nat), seek f bud cs pl s = .found p t → p.length = pl.length + cs.length := by
  intro cs
  induction cs with
  | nil => intro pl s p t h; simp only [seek, SRes.found.injEq] at h; rw [← h.1]; rfl
  | cons c cs ih => intro pl s p t h; exact tryL_len f bud _ cs.length ih c pl s p t h

theorem unw_found (tr : List Nat) (n : Nat) (pl p : List LPl) (s : Nat) : unw f bud C tr n pl (.found p s) = .found p s := by cases n <;> rfl
theorem unw_out (tr : List Nat) (n : Nat) (pl : List LPl) (s : Nat) : unw f bud C tr n pl (.out s) = .out s := by cases n <;> rfl
theorem unw_congr (tr tr' : List Nat) : ∀ (n : Nat) (pl : List LPl) (r : SRes), (∀ j, j < n → tr.getD j 0 = tr'.getD j 0) → unw f bud C tr n pl r = unw f bud C tr' n pl r := by
  intro n
  induction n with
  | zero => intro pl r h; rfl
  | succ n ih =>
    intro pl r h
    cases r with
    | none s =>
      rw [unw, unw, h n (by omega)]
      exact ih _ _ (fun j hj => h j (by omega))
    | found p s => rfl
    | out s => rfl

/-- The search from the start. -/
theorem fin_start (tr : List Nat) (h : tr.getD 0 0 = 0) : finR f bud C tr [] 0 = seek f bud C [] 0 := by
  unfold finR locR
  cases C with
  | nil => rfl
  | cons c cs =>
    rw [if_pos (by simp)]
    show tryL f bud (seek f bud cs) (List.drop (tr.getD 0 0) c) [] 0 = tryL f bud (seek f bud cs) c [] 0
    rw [h]; rfl
/-- All stations have a place. -/
theorem fin_yes (tr : List Nat) (pl : List LPl) (s : Nat) (h : C.length ≤ pl.length) : finR f bud C tr pl s = .found pl s := by
  unfold finR locR
  rw [if_neg (by omega), unw_found]
/-- The budget is used up. -/
theorem fin_out (tr : List Nat) (pl : List LPl) (h : pl.length < C.length) (ht : tr.getD pl.length 0 < (C.getD pl.length []).length) : finR f bud C tr pl bud = .out bud := by
  unfold finR locR
  rw [if_pos h, try_out f bud _ _ _ _ ht, unw_out]
/-- One that does not fit. -/
theorem fin_no (tr tr' : List Nat) (pl : List LPl) (s : Nat) (h : pl.length < C.length) (hs : s ≠ bud) (ht : tr.getD pl.length 0 < (C.getD pl.length []).length) (hf : f pl ((C.getD pl.length [])[tr.getD pl.length 0]) = false)
    (h1 : ∀ j, j < pl.length → tr.getD j 0 = tr'.getD j 0) (h2 : tr'.getD pl.length 0 = tr.getD pl.length 0 + 1) : finR f bud C tr pl s = finR f bud C tr' pl (s + 1) := by
  unfold finR locR
  rw [if_pos h, if_pos h, try_no f bud _ _ _ _ _ ht hs hf, h2]
  exact unw_congr f bud C tr tr' _ _ _ h1
/-- One that fits. -/
theorem fin_put (tr tr' : List Nat) (pl : List LPl) (s : Nat) (h : pl.length < C.length) (hs : s ≠ bud) (ht : tr.getD pl.length 0 < (C.getD pl.length []).length) (hf : f pl ((C.getD pl.length [])[tr.getD pl.length 0]) = true)
    (h1 : ∀ j, j < pl.length → tr.getD j 0 = tr'.getD j 0) (h2 : tr'.getD pl.length 0 = tr.getD pl.length 0 + 1) (h3 : tr'.getD (pl.length + 1) 0 = 0) : finR f bud C tr pl s = finR f bud C tr' (pl ++ [(C.getD pl.length [])[tr.getD pl.length 0]]) (s + 1) := by
  generalize hx : (C.getD pl.length [])[tr.getD pl.length 0] = x at *
  have e1 : finR f bud C tr' (pl ++ [x]) (s + 1) = unw f bud C tr' (pl.length + 1) (pl ++ [x]) (seek f bud (C.drop (pl.length + 1)) (pl ++ [x]) (s + 1)) := by
    unfold finR locR
    rw [List.length_append, List.length_singleton, h3, List.drop_zero]
    by_cases g : pl.length + 1 < C.length
    · rw [if_pos g, List.drop_eq_getElem_cons g, seek]
      simp [g]
    · rw [if_neg g, List.drop_eq_nil_of_le (by omega), seek]
  rw [e1]
  unfold finR locR
  rw [if_pos h, try_yes f bud _ _ _ _ _ ht hs (by rw [hx]; exact hf), hx]
  generalize seek f bud (C.drop (pl.length + 1)) (pl ++ [x]) (s + 1) = r
  cases r with
  | none s' =>
    rw [unw, List.take_left, h2]
    exact unw_congr f bud C tr tr' _ _ _ h1
  | found p s' => rw [unw_found, unw_found]
  | out s' => rw [unw_out, unw_out]
/-- None is left at the first station. -/
theorem fin_none (tr : List Nat) (s : Nat) (h : 0 < C.length) (ht : (C.getD 0 []).length ≤ tr.getD 0 0) : finR f bud C tr [] s = .none s := by
  unfold finR locR
  rw [if_pos (by simpa using h)]
  show unw f bud C tr 0 [] (tryL f bud _ (List.drop (tr.getD 0 0) (C.getD 0 [])) [] s) = _
  rw [try_end f bud _ _ _ _ _ ht]
  rfl
/-- None is left at a later one: the one ahead goes on. -/
theorem fin_back (tr tr' : List Nat) (pl : List LPl) (s n : Nat) (hn : pl.length = n + 1) (h : pl.length < C.length) (ht : (C.getD pl.length []).length ≤ tr.getD pl.length 0) (h1 : ∀ j, j < pl.length → tr.getD j 0 = tr'.getD j 0) : finR f bud C tr pl s = finR f bud C tr' (pl.take n) s := by
  have e1 : finR f bud C tr' (pl.take n) s = unw f bud C tr' n (pl.take n) (tryL f bud (seek f bud (C.drop (n + 1))) ((C.getD n []).drop (tr'.getD n 0)) (pl.take n) s) := by
    unfold finR locR
    rw [List.length_take, Nat.min_eq_left (by omega), if_pos (by omega)]
  rw [e1]
  unfold finR locR
  rw [if_pos h, try_end f bud _ _ _ _ _ ht, hn, unw, h1 n (by omega)]
  exact unw_congr f bud C tr tr' _ _ _ (fun j hj => h1 j (by omega))

end Go.Proofs.Ytgfclllfkpblnaa
