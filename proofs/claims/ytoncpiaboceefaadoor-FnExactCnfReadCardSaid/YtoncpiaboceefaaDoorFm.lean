/-
  LEMMAS READ, AS LISTS: both ways of reading tell the same.
-/
import Derived.Test.YtoncpiaboceefaaDoorFl
import Derived.Test.YtoncpiaboceefaaDoorFj
import Derived.Test.YtoncpiaboceefaaDoorFd
namespace Go.Proofs.YtoncpiaboceefaaDoor
open Go.RowKit
set_option linter.unusedVariables false

def bodyL (zs : List Int) : List UInt8 := zs.flatMap litB ++ [48]
theorem lineB_body (zs : List Int) : lineB zs = bodyL zs ++ [10] := by simp [lineB, bodyL]
theorem bodyL_cons (z : Int) (zs : List Int) : bodyL (z :: zs) = Lib.itoa z ++ 32 :: bodyL zs := by simp [bodyL, litB]
theorem itoa_not (x : Int) (c : UInt8) (hc : isDig c = false) (h45 : c ≠ 45) : c ∉ Lib.itoa x := by
  have hd : ∀ u, c ∉ Lib.decDigits u := fun u hm => by
    have := List.all_eq_true.1 (dec_dig u u (Nat.le_refl _)) c hm
    rw [hc] at this; cases this
  by_cases h : x < 0
  · rw [itoa_neg h]
    intro hm
    rcases List.mem_cons.1 hm with e | hm
    · exact h45 e
    · exact hd _ hm
  · rw [itoa_pos h]; exact hd _
theorem body_not (zs : List Int) : (10 : UInt8) ∉ bodyL zs := by
  induction zs with
  | nil => decide
  | cons z zs ih =>
    rw [bodyL_cons]
    intro hm
    rcases List.mem_append.1 hm with hm | hm
    · exact itoa_not z 10 (by decide) (by decide) hm
    · rcases List.mem_cons.1 hm with e | hm
      · exact absurd e (by decide)
      · exact ih hm
theorem split_body (zs : List Int) : splitL 32 (bodyL zs) = zs.map Lib.itoa ++ [[48]] := by
  induction zs with
  | nil => exact split_one 32 [48] (by decide)
  | cons z zs ih =>
    rw [bodyL_cons, split_cons 32 _ _ (itoa_not z 32 (by decide) (by decide)), ih]
    rfl
theorem pre_body (zs : List Int) : preW (bodyL zs) = zs.map Lib.itoa := by
  unfold preW
  rw [split_body, List.dropLast_concat]
theorem numV_back (zs : List Int) (hb : BigL zs) : (zs.map Lib.itoa).map numV = zs := by
  rw [List.map_map]
  conv => rhs; rw [← List.map_id zs]
  exact List.map_congr_left fun z hz => (num_itoa z (hb z hz)).2
theorem all_numK (zs : List Int) (hb : BigL zs) : (zs.map Lib.itoa).all numK = true := by
  rw [List.all_eq_true]
  intro x hx
  obtain ⟨z, hz, rfl⟩ := List.mem_map.1 hx
  exact (numK_iff _).2 ⟨z, hb z hz, rfl⟩
theorem lit_body (zs : List Int) (hb : BigL zs) : litK (bodyL zs) = true ∧ litV (bodyL zs) = zs := by
  unfold litK litV
  rw [pre_body, tw_all _ (all_numK zs hb), numV_back zs hb, all_numK zs hb, lineB_body]
  exact ⟨by simp, rfl⟩
theorem lit_line {a : List UInt8} (h : litK a = true) : a = bodyL (litV a) := by
  unfold litK at h
  rw [Bool.and_eq_true] at h
  have e : litV a = (preW a).map numV := by unfold litV; rw [tw_all _ h.1]
  have h2 := eq_of_beq h.2
  rw [← e, lineB_body] at h2
  exact (List.append_cancel_right h2).symm
theorem lem_big {zs : List Int} (h : lemB zs = true) : BigL zs ∧ SmN zs := by
  have h1 : zs.all (inB (-96) 96) = true := by
    unfold lemB at h
    simp only [Bool.and_eq_true] at h
    exact h.1.2
  have h2 : ∀ z ∈ zs, -96 ≤ z ∧ z ≤ 96 := fun z hz => by
    have := List.all_eq_true.1 h1 z hz
    simpa [inB] using this
  exact ⟨fun z hz => by have := h2 z hz; omega, fun z hz => by have := h2 z hz; omega⟩
theorem line_tB : ∀ (zs : List Int) (x : Int) (t : List Int), x :: t = zs ++ [0] → Lib.itoa x ++ tB t = lineB zs := by
  intro zs
  induction zs with
  | nil =>
    intro x t h
    simp at h
    obtain ⟨rfl, rfl⟩ := h
    rw [itoa_zero]; rfl
  | cons z zs ih =>
    intro x t h
    simp only [List.cons_append, List.cons.injEq] at h
    obtain ⟨rfl, rfl⟩ := h
    obtain ⟨y, u, hy⟩ : ∃ y u, zs ++ [(0 : Int)] = y :: u := by
      cases zs with
      | nil => exact ⟨0, [], rfl⟩
      | cons y u => exact ⟨y, u ++ [0], rfl⟩
    rw [hy]
    show Lib.itoa x ++ 32 :: (Lib.itoa y ++ tB u) = _
    rw [ih y u hy.symm]
    simp [lineB, litB]
theorem clos_last {ms : List Int} (h : closB ms = true) : ms = ms.dropLast ++ [0] ∧ lemB ms.dropLast = true := by
  unfold closB at h
  rw [Bool.and_eq_true] at h
  refine ⟨?_, h.2⟩
  have h1 := eq_of_beq h.1
  rcases List.eq_nil_or_concat ms with rfl | ⟨l, b, rfl⟩
  · simp at h1
  · simp at h1
    subst h1
    simp
theorem clos_of {zs : List Int} (h : lemB zs = true) : closB (zs ++ [0]) = true := by
  unfold closB
  rw [Bool.and_eq_true]
  simp [h]
theorem cut_uniq {c : UInt8} : ∀ {a b r s : List UInt8}, c ∉ a → c ∉ b → a ++ c :: r = b ++ c :: s → a = b ∧ r = s := by
  intro a
  induction a with
  | nil =>
    intro b r s _ hb h
    cases b with
    | nil => simp at h; exact ⟨rfl, h⟩
    | cons x b => simp at h; exact absurd (List.mem_cons.2 (.inl h.1)) hb
  | cons y a ih =>
    intro b r s ha hb h
    cases b with
    | nil => simp at h; exact absurd (List.mem_cons.2 (.inl h.1.symm)) ha
    | cons x b =>
      simp at h
      obtain ⟨rfl, h⟩ := h
      obtain ⟨rfl, rfl⟩ := ih (fun m => ha (List.mem_cons_of_mem _ m)) (fun m => hb (List.mem_cons_of_mem _ m)) h
      exact ⟨rfl, rfl⟩
theorem cut_ex (c : UInt8) : ∀ t : List UInt8, c ∉ t ∨ ∃ a r, t = a ++ c :: r ∧ c ∉ a := by
  intro t
  induction t with
  | nil => left; simp
  | cons x t ih =>
    by_cases hx : x = c
    · right; subst hx; exact ⟨[], t, rfl, by simp⟩
    · rcases ih with h | ⟨a, r, rfl, h⟩
      · left
        intro hm
        rcases List.mem_cons.1 hm with e | hm
        · exact hx e.symm
        · exact h hm
      · right
        refine ⟨x :: a, r, rfl, fun hm => ?_⟩
        rcases List.mem_cons.1 hm with e | hm
        · exact hx e.symm
        · exact h hm
/-- What a scan that says yes has read. -/
theorem scan_yes {n : Nat} {t : List UInt8} {ms : List Int} {r : List UInt8} (h : scan closB n .word [] t = some (ms, r)) : lemB ms.dropLast = true ∧ ms = ms.dropLast ++ [0] ∧ t = bodyL ms.dropLast ++ 10 :: r := by
  obtain ⟨x, u, e1, e2, e3⟩ := (scan_right closB n).1 _ _ _ _ h
  obtain ⟨h1, h2⟩ := clos_last e3
  refine ⟨h2, h1, ?_⟩
  rw [List.nil_append] at e1
  have := line_tB ms.dropLast x u (e1.symm.trans h1)
  rw [e2, this, lineB_body]
  simp
/-- A line of a lemma is scanned. -/
theorem scan_lem {n : Nat} {zs : List Int} {r : List UInt8} (h : lemB zs = true) (hn : 3 * (bodyL zs ++ [10]).length + 1 ≤ n) : scan closB n .word [] (bodyL zs ++ 10 :: r) = some (zs ++ [0], r) := by
  obtain ⟨x, u, hx⟩ : ∃ x u, zs ++ [(0 : Int)] = x :: u := by
    cases zs with
    | nil => exact ⟨0, [], rfl⟩
    | cons y u => exact ⟨y, u ++ [0], rfl⟩
  have e := line_tB zs x u hx.symm
  have hs : SmN (x :: u) := by rw [← hx]; exact (lem_big h).2.snoc (by omega)
  have := scan_line closB u x [] r n hs (by rw [e, lineB_body]; exact hn)
  rw [← List.append_assoc, e, lineB_body] at this
  rw [show bodyL zs ++ 10 :: r = bodyL zs ++ [10] ++ r by simp, this, List.nil_append, ← hx, if_pos (clos_of h)]

/-- The lists that these lines are, from the i-th on; else the line that is none. -/
noncomputable def specR : Nat → List (List Int) → List (List UInt8) → List (List Int) × Nat × Bool
  | _, acc, [] => (acc, 0, true)
  | i, acc, l :: r => if r = [] then (if l = [] then (acc, 0, true) else ([], i, false)) else
    (if (litK l && lemB (litV l) && decide (i < 400)) = true then specR (i + 1) (acc ++ [litV l]) r else ([], i, false))
theorem split_ne (c : UInt8) (t : List UInt8) : splitL c t ≠ [] := by simp [splitL]
theorem spec_nil (i : Nat) (acc : List (List Int)) : specR i acc (splitL 10 []) = (acc, 0, true) := by
  rw [split_one 10 [] (by simp)]
  simp [specR]
theorem spec_one (i : Nat) (acc : List (List Int)) (t : List UInt8) (ht : t ≠ []) (h : (10 : UInt8) ∉ t) : specR i acc (splitL 10 t) = ([], i, false) := by
  rw [split_one 10 t h]
  simp [specR, ht]
theorem spec_cut (i : Nat) (acc : List (List Int)) (a r : List UInt8) (h : (10 : UInt8) ∉ a) : specR i acc (splitL 10 (a ++ 10 :: r)) = if (litK a && lemB (litV a) && decide (i < 400)) = true then specR (i + 1) (acc ++ [litV a]) (splitL 10 r) else ([], i, false) := by
  rw [split_cons 10 a r h, specR, if_neg (split_ne 10 r)]
theorem spec_full (i : Nat) (acc : List (List Int)) (t : List UInt8) (ht : t ≠ []) (hi : 400 ≤ i) : specR i acc (splitL 10 t) = ([], i, false) := by
  rcases cut_ex 10 t with h | ⟨a, r, rfl, h⟩
  · exact spec_one i acc t ht h
  · rw [spec_cut i acc a r h, if_neg (by simp; intro _ _; omega)]
theorem spec_yes (i n : Nat) (acc : List (List Int)) (t r : List UInt8) (ms : List Int) (hi : i < 400) (h : scan closB n .word [] t = some (ms, r)) : specR i acc (splitL 10 t) = specR (i + 1) (acc ++ [ms.dropLast]) (splitL 10 r) := by
  obtain ⟨h1, h2, h3⟩ := scan_yes h
  obtain ⟨k1, k2⟩ := lit_body ms.dropLast (lem_big h1).1
  rw [h3, spec_cut i acc _ r (body_not _), k1, k2, h1]
  simp [hi]
theorem spec_no (i n : Nat) (acc : List (List Int)) (t : List UInt8) (ht : t ≠ []) (hn : 3 * t.length + 1 ≤ n) (h : scan closB n .word [] t = none) : specR i acc (splitL 10 t) = ([], i, false) := by
  rcases cut_ex 10 t with h0 | ⟨a, r, rfl, h0⟩
  · exact spec_one i acc t ht h0
  · rw [spec_cut i acc a r h0]
    by_cases hk : (litK a && lemB (litV a)) = true
    · exfalso
      rw [Bool.and_eq_true] at hk
      have e := lit_line hk.1
      have := scan_lem (n := n) (r := r) hk.2 (by rw [← e]; simp at hn ⊢; omega)
      rw [← e, h] at this
      cases this
    · rw [if_neg (fun g => hk (by rw [Bool.and_eq_true] at g; exact g.1))]

end Go.Proofs.YtoncpiaboceefaaDoor
