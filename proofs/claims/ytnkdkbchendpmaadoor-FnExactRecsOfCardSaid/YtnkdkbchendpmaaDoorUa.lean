/-
  RECORDS ONE BEHIND THE OTHER: what is read of a text, the thinking.
-/
import Derived.Test.YtnkdkbchendpmaaDoorRf
namespace Go.Proofs.YtnkdkbchendpmaaDoor
open Go.RowKit
set_option linter.unusedVariables false

/-- How many bytes a record with a body of n bytes takes. -/
def usedN (n : Nat) : Nat := 1 + (numB n).length + n + 4
/-- What is read of a text: its records, how many bytes they take, and why the reading ends. -/
inductive Reads : List UInt8 → List (Int × List Int) → Nat → Int → Prop
  | done : Reads [] [] 0 0
  | stop {t : List UInt8} (ht : t ≠ []) (h : ∀ n q k zs, Good t n q → ¬ IsBody (q.take n) k zs) : Reads t [] 0 (rdF t)
  | step {t : List UInt8} {n : Nat} {q : List UInt8} {k : Int} {zs : List Int} {rs : List (Int × List Int)} {u : Nat} {c : Int} (g : Good t n q) (b : IsBody (q.take n) k zs) (r : Reads (t.drop (usedN n)) rs u c) : Reads t ((k, zs) :: rs) (usedN n + u) c
theorem rdF_ne (t : List UInt8) : rdF t ≠ 0 := by
  unfold rdF
  repeat' split
  all_goals decide
theorem Good.ne {t : List UInt8} {n : Nat} {q : List UInt8} (g : Good t n q) : t ≠ [] := by rw [g.2.1]; simp
theorem Good.used {t : List UInt8} {n : Nat} {q : List UInt8} (g : Good t n q) : usedN n ≤ t.length := by
  have e := congrArg List.length g.2.1
  have := g.2.2.2.1
  simp only [List.length_cons, List.length_append] at e
  unfold usedN; omega
theorem Reads.uniq {t : List UInt8} {rs rs' : List (Int × List Int)} {u u' : Nat} {c c' : Int} (h : Reads t rs u c) (h' : Reads t rs' u' c') : rs = rs' ∧ u = u' ∧ c = c' := by
  induction h generalizing rs' u' c' with
  | done => cases h' with
    | done => exact ⟨rfl, rfl, rfl⟩
    | stop ht _ => exact absurd rfl ht
    | step g _ _ => exact absurd rfl g.ne
  | stop ht hn => cases h' with
    | done => exact absurd rfl ht
    | stop _ _ => exact ⟨rfl, rfl, rfl⟩
    | step g b _ => exact absurd b (hn _ _ _ _ g)
  | step g b r ih => cases h' with
    | done => exact absurd rfl g.ne
    | stop _ hn => exact absurd b (hn _ _ _ _ g)
    | step g' b' r' =>
      obtain ⟨rfl, rfl⟩ := g.inj g'
      obtain ⟨rfl, rfl⟩ := b.uniq b'
      obtain ⟨rfl, rfl, rfl⟩ := ih r'
      exact ⟨rfl, rfl, rfl⟩
theorem recB_parts (k : Int) (zs : List Int) : recB k zs = 82 :: (numB (bodyB k zs).length ++ (bodyB k zs ++ fourB (sumL (numB (bodyB k zs).length ++ bodyB k zs)))) := by simp [recB, lenB]
theorem four_len (s : Nat) : (fourB s).length = 4 := rfl
theorem recB_len (k : Int) (zs : List Int) : (recB k zs).length = usedN (bodyB k zs).length := by
  rw [recB_parts]; simp [four_len, usedN]; omega
theorem recB_bounds {k : Int} {zs : List Int} (h : recR k zs = true) : 8 ≤ (recB k zs).length ∧ (recB k zs).length ≤ 489 := by
  have hb := body_len h
  have hn := numB_len (bodyB k zs).length 1 (by omega)
  rw [recB_len, usedN]; omega
theorem good_rec {k : Int} {zs : List Int} (h : recR k zs = true) (x : List UInt8) (hx : (recB k zs ++ x).length ≤ 20000) :
    Good (recB k zs ++ x) (bodyB k zs).length (bodyB k zs ++ (fourB (sumL (numB (bodyB k zs).length ++ bodyB k zs)) ++ x)) ∧ IsBody ((bodyB k zs ++ (fourB (sumL (numB (bodyB k zs).length ++ bodyB k zs)) ++ x)).take (bodyB k zs).length) k zs ∧ (recB k zs ++ x).drop (usedN (bodyB k zs).length) = x := by
  have hb := body_len h
  refine ⟨⟨hx, ?_, by omega, ?_, ?_⟩, ?_, ?_⟩
  · rw [recB_parts]; simp
  · simp [four_len]
  · rw [List.drop_left, List.take_left, List.take_left' (four_len _)]
  · rw [List.take_left]; exact ⟨h, rfl⟩
  · rw [← recB_len, List.drop_left]
/-- Records, one behind the other. -/
def catB : List (Int × List Int) → List UInt8
  | [] => []
  | (k, zs) :: r => recB k zs ++ catB r
theorem catB_add (a b : List (Int × List Int)) : catB (a ++ b) = catB a ++ catB b := by
  induction a with
  | nil => rfl
  | cons x r ih => obtain ⟨k, zs⟩ := x; simp [catB, ih]
theorem reads_cat (rs : List (Int × List Int)) (h : ∀ r ∈ rs, recR r.1 r.2 = true) (x : List UInt8) (hx : (catB rs ++ x).length ≤ 20000) {rs' : List (Int × List Int)} {u : Nat} {c : Int} (hr : Reads x rs' u c) :
    Reads (catB rs ++ x) (rs ++ rs') ((catB rs).length + u) c := by
  induction rs with
  | nil => simpa [catB] using hr
  | cons a r ih =>
    obtain ⟨k, zs⟩ := a
    have h1 := h (k, zs) (by simp)
    have e : catB ((k, zs) :: r) ++ x = recB k zs ++ (catB r ++ x) := by simp [catB]
    obtain ⟨g, b, d⟩ := good_rec h1 (catB r ++ x) (by rw [← e]; exact hx)
    have hl : (catB r ++ x).length ≤ 20000 := by rw [e, List.length_append] at hx; omega
    have := ih (fun y hy => h y (by simp [hy])) hl
    rw [e]
    have s := Reads.step g b (by rw [d]; exact this)
    have e2 : usedN (bodyB k zs).length + ((catB r).length + u) = (catB ((k, zs) :: r)).length + u := by simp [catB, recB_len]; omega
    rw [e2] at s
    exact s
theorem reads_all (rs : List (Int × List Int)) (h : ∀ r ∈ rs, recR r.1 r.2 = true) (hx : (catB rs).length ≤ 20000) : Reads (catB rs) rs (catB rs).length 0 := by
  have := reads_cat rs h [] (by simpa using hx) Reads.done
  simpa using this
theorem cut_rec {k : Int} {zs : List Int} (h : recR k zs = true) (m : Nat) (h0 : 0 < m) (hm : m < (recB k zs).length) :
    rdF ((recB k zs).take m) = 6 ∧ ∀ n q k' zs', Good ((recB k zs).take m) n q → ¬ IsBody (q.take n) k' zs' := by
  have hb := body_len h
  have hn := numB_len (bodyB k zs).length 1 (by omega)
  have hlen := recB_bounds h
  have hl := recB_len k zs
  obtain ⟨j, rfl⟩ : ∃ j, m = j + 1 := ⟨m - 1, by omega⟩
  rw [recB_parts, List.take_succ_cons]
  generalize hB : bodyB k zs = body at *
  generalize hF : fourB (sumL (numB body.length ++ body)) = four
  have h4 : four.length = 4 := by rw [← hF]; rfl
  have hs20 : ((numB body.length ++ (body ++ four)).take j).length < 20000 := by rw [List.length_take]; omega
  unfold usedN at hl
  by_cases hj : j < (numB body.length).length
  · refine rdF_short hs20 ?_
    rw [List.take_append_of_le_length (by omega)]
    by_cases hb1 : body.length < 128
    · rw [numB_small hb1] at hj ⊢
      left
      have : j = 0 := by simpa using hj
      rw [this]; rfl
    · have hj2 : j < 2 := by omega
      rw [numB_big hb1]
      match j, hj2 with
      | 0, _ => left; rfl
      | 1, _ =>
        right
        refine ⟨_, rfl, ?_⟩
        rw [u8_toNat _ (by omega)]; omega
  · have e : (numB body.length ++ (body ++ four)).take j = numB body.length ++ (body ++ four).take (j - (numB body.length).length) := by
      rw [List.take_append, List.take_of_length_le (by omega)]
    rw [e] at hs20 ⊢
    refine rdF_cut hs20 ?_ (rdN_numB 2 _ _ hn.2) (by omega) (by rw [List.length_take, List.length_append]; omega)
    rintro (h1 | ⟨y, h1, h2⟩)
    · have := congrArg List.length h1
      simp only [List.length_append, List.length_nil] at this; omega
    · have hl1 := congrArg List.length h1
      simp only [List.length_append, List.length_singleton] at hl1
      have hb1 : body.length < 128 := by
        apply Classical.byContradiction
        intro hc
        rw [numB_big hc, List.length_cons] at hl1
        have : 1 ≤ (numB (body.length / 128)).length := by
          cases e' : numB (body.length / 128) with
          | nil => exact absurd e' (numB_ne _)
          | cons a r => simp
        omega
      rw [numB_small hb1] at h1
      simp only [List.cons_append, List.cons.injEq] at h1
      rw [← h1.1, u8_toNat _ (by omega)] at h2
      omega
theorem reads_cut (rs : List (Int × List Int)) (k : Int) (zs : List Int) (h : ∀ r ∈ rs, recR r.1 r.2 = true) (hr : recR k zs = true) (m : Nat) (h0 : 0 < m) (hm : m < (recB k zs).length) (hx : (catB rs ++ recB k zs).length ≤ 20000) :
    Reads (catB rs ++ (recB k zs).take m) rs (catB rs).length 6 := by
  obtain ⟨c1, c2⟩ := cut_rec hr m h0 hm
  have hne : (recB k zs).take m ≠ [] := by
    intro e
    have := congrArg List.length e
    rw [List.length_take] at this; simp only [List.length_nil] at this; omega
  have s := reads_cat rs h ((recB k zs).take m) (by simp at hx ⊢; omega) (Reads.stop hne c2)
  rw [c1] at s
  simpa using s

end Go.Proofs.YtnkdkbchendpmaaDoor
