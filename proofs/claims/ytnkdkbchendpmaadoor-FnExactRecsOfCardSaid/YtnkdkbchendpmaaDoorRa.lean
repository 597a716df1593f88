/-
  NUMBERS READ BACK: what stands ahead in some bytes.
-/
import Derived.Test.YtnkdkbchendpmaaDoorBa
namespace Go.Proofs.YtnkdkbchendpmaaDoor
open Go.RowKit
set_option linter.unusedVariables false

/-- The number that the bytes begin with, told in at most so many bytes and in no more than it needs, and what stands behind it. -/
def rdN : Nat → List UInt8 → Option (Nat × List UInt8)
  | 0, _ => none
  | _ + 1, [] => none
  | f + 1, c :: r => if c.toNat < 128 then some (c.toNat, r) else match rdN f r with
    | none => none
    | some (v, q) => if v = 0 then none else some (c.toNat - 128 + 128 * v, q)

theorem u8_toNat (m : Nat) (h : m < 256) : (m.toUInt8).toNat = m := by simp; omega
theorem u8_eq {c : UInt8} {m : Nat} (h : c.toNat = m) : c = m.toUInt8 := by
  apply UInt8.toNat_inj.1
  rw [u8_toNat m (by have := c.toNat_lt; omega), h]

theorem rdN_some (f : Nat) (l : List UInt8) (v : Nat) (q : List UInt8) (h : rdN f l = some (v, q)) : l = numB v ++ q ∧ (numB v).length ≤ f := by
  induction f generalizing l v q with
  | zero => simp [rdN] at h
  | succ f ih =>
    cases l with
    | nil => simp [rdN] at h
    | cons c r =>
      rw [rdN] at h
      by_cases hc : c.toNat < 128
      · rw [if_pos hc] at h
        simp only [Option.some.injEq, Prod.mk.injEq] at h
        obtain ⟨rfl, rfl⟩ := h
        rw [numB_small hc, ← u8_eq rfl]
        simp
      · rw [if_neg hc] at h
        cases e : rdN f r with
        | none => simp [e] at h
        | some p =>
          obtain ⟨v', q'⟩ := p
          simp only [e] at h
          by_cases hv : v' = 0
          · simp [hv] at h
          · simp only [hv, if_false, Option.some.injEq, Prod.mk.injEq] at h
            obtain ⟨hvv, rfl⟩ := h
            obtain ⟨e1, e2⟩ := ih r v' q' e
            have hlt := c.toNat_lt
            have hb : ¬ v < 128 := by omega
            rw [numB_big hb]
            have m1 : v % 128 + 128 = c.toNat := by omega
            have m2 : v / 128 = v' := by omega
            rw [m1, m2, ← u8_eq rfl]
            refine ⟨?_, ?_⟩
            · rw [e1]; rfl
            · simp; omega

theorem rdN_numB (f v : Nat) (q : List UInt8) (h : (numB v).length ≤ f) : rdN f (numB v ++ q) = some (v, q) := by
  induction f generalizing v with
  | zero =>
    exfalso
    by_cases hv : v < 128
    · rw [numB_small hv] at h; simp at h
    · rw [numB_big hv] at h; simp at h
  | succ f ih =>
    by_cases hv : v < 128
    · rw [numB_small hv]
      simp only [List.cons_append, List.nil_append, rdN]
      rw [u8_toNat v (by omega), if_pos hv]
    · rw [numB_big hv] at h ⊢
      simp only [List.cons_append, rdN]
      rw [u8_toNat _ (by omega), if_neg (by omega), ih (v / 128) (by simpa using h)]
      simp only
      rw [if_neg (by omega)]
      simp only [Option.some.injEq, Prod.mk.injEq, and_true]
      omega
theorem rdN_iff (f : Nat) (l : List UInt8) (v : Nat) (q : List UInt8) : rdN f l = some (v, q) ↔ l = numB v ++ q ∧ (numB v).length ≤ f :=
  ⟨rdN_some f l v q, fun ⟨h1, h2⟩ => by rw [h1]; exact rdN_numB f v q h2⟩
theorem rdN_mono {f g : Nat} {l : List UInt8} {v : Nat} {q : List UInt8} (h : rdN f l = some (v, q)) (hg : f ≤ g) : rdN g l = some (v, q) := by
  rw [rdN_iff] at h ⊢; exact ⟨h.1, by omega⟩
theorem numB_inj {a b : Nat} {p q : List UInt8} (h : numB a ++ p = numB b ++ q) : a = b ∧ p = q := by
  have e1 := rdN_numB ((numB a).length + (numB b).length) a p (by omega)
  have e2 := rdN_numB ((numB a).length + (numB b).length) b q (by omega)
  rw [h, e2] at e1
  simp only [Option.some.injEq, Prod.mk.injEq] at e1
  exact ⟨e1.1.symm, e1.2.symm⟩
theorem rdN_lt {f : Nat} {l : List UInt8} {v : Nat} {q : List UInt8} (h : rdN f l = some (v, q)) : v < 128 ^ f := by
  induction f generalizing l v q with
  | zero => simp [rdN] at h
  | succ f ih =>
    cases l with
    | nil => simp [rdN] at h
    | cons c r =>
      rw [rdN] at h
      by_cases hc : c.toNat < 128
      · rw [if_pos hc] at h
        simp only [Option.some.injEq, Prod.mk.injEq] at h
        have : 1 ≤ 128 ^ f := Nat.one_le_pow _ _ (by decide)
        rw [Nat.pow_succ]; omega
      · rw [if_neg hc] at h
        cases e : rdN f r with
        | none => simp [e] at h
        | some p =>
          obtain ⟨v', q'⟩ := p
          simp only [e] at h
          by_cases hv : v' = 0
          · simp [hv] at h
          · simp only [hv, if_false, Option.some.injEq, Prod.mk.injEq] at h
            have := ih e
            have hlt := c.toNat_lt
            rw [Nat.pow_succ]; omega

/-- What is read behind i bytes that are each 128 or above and tell a. -/
def fin (i a : Nat) : Option (Nat × List UInt8) → Option (Nat × List UInt8)
  | none => none
  | some (v, q) => if i ≠ 0 ∧ v = 0 then none else some (a + 128 ^ i * v, q)
theorem fin_zero (o : Option (Nat × List UInt8)) : fin 0 0 o = o := by
  cases o with
  | none => rfl
  | some p => obtain ⟨v, q⟩ := p; simp [fin]
theorem fin_step (i a f : Nat) (c : UInt8) (r : List UInt8) (hc : ¬ c.toNat < 128) : fin i a (rdN (f + 1) (c :: r)) = fin (i + 1) (a + 128 ^ i * (c.toNat - 128)) (rdN f r) := by
  rw [rdN, if_neg hc]
  cases e : rdN f r with
  | none => rfl
  | some p =>
    obtain ⟨v, q⟩ := p
    by_cases hv : v = 0
    · simp [fin, hv]
    · have h0 : c.toNat - 128 + 128 * v ≠ 0 := by omega
      simp only [hv, if_false, fin, h0, and_false]
      rw [Nat.pow_succ, Nat.mul_add, Nat.mul_assoc, Nat.add_assoc]

/-! ### A record's body, read back -/
/-- The numbers that some bytes are made of. -/
inductive Nums9 : List UInt8 → List Nat → Prop
  | nil : Nums9 [] []
  | cons {v : Nat} {l : List UInt8} {vs : List Nat} (h : (numB v).length ≤ 9) (r : Nums9 l vs) : Nums9 (numB v ++ l) (v :: vs)
theorem numB_ne (v : Nat) : numB v ≠ [] := by
  by_cases hv : v < 128
  · rw [numB_small hv]; simp
  · rw [numB_big hv]; simp
theorem Nums9.uniq {l : List UInt8} {vs us : List Nat} (h : Nums9 l vs) (k : Nums9 l us) : vs = us := by
  induction h generalizing us with
  | nil =>
    generalize hl : ([] : List UInt8) = l at k
    cases k with
    | nil => rfl
    | cons h r => exact absurd (List.append_eq_nil_iff.1 hl.symm).1 (numB_ne _)
  | @cons v l vs h r ih =>
    generalize hl : numB v ++ l = m at k
    cases k with
    | nil => exact absurd (List.append_eq_nil_iff.1 hl).1 (numB_ne _)
    | cons h' r' =>
      obtain ⟨rfl, rfl⟩ := numB_inj hl
      rw [ih r']
theorem nums_of (vs : List Nat) (h : ∀ v ∈ vs, (numB v).length ≤ 9) : Nums9 (vs.map numB).flatten vs := by
  induction vs with
  | nil => exact .nil
  | cons v r ih =>
    simp only [List.map_cons, List.flatten_cons]
    exact .cons (h v (by simp)) (ih fun u hu => h u (by simp [hu]))
theorem Nums9.flat {l : List UInt8} {vs : List Nat} (h : Nums9 l vs) : l = (vs.map numB).flatten := by
  induction h with
  | nil => rfl
  | cons h r ih => rw [ih]; simp
def signO (n : Nat) : Int := if n % 2 = 0 then ((n / 2 : Nat) : Int) else -((n / 2 : Nat) : Int) - 1
theorem signO_N (z : Int) : signO (signN z) = z := by
  unfold signO signN
  by_cases h : z < 0
  · rw [if_pos h]; split <;> omega
  · rw [if_neg h]; split <;> omega
theorem signN_O (n : Nat) : signN (signO n) = n := by
  unfold signO
  by_cases h : n % 2 = 0
  · rw [if_pos h]; unfold signN; rw [if_neg (by omega)]; omega
  · rw [if_neg h]; unfold signN; rw [if_pos (by omega)]; omega
theorem body_nums {k : Int} {zs : List Int} (h : recR k zs = true) : Nums9 (bodyB k zs) (k.toNat :: zs.length :: zs.map signN) := by
  obtain ⟨h1, h2, h3, h4⟩ := recR_parts h
  have e : bodyB k zs = ((k.toNat :: zs.length :: zs.map signN).map numB).flatten := by
    simp [bodyB, numsB, Function.comp_def]
  rw [e]
  refine nums_of _ fun v hv => ?_
  simp only [List.mem_cons, List.mem_map] at hv
  rcases hv with rfl | rfl | ⟨z, hz, rfl⟩
  · exact Nat.le_trans (numB_len _ 0 (by omega)).2 (by decide)
  · exact Nat.le_trans (numB_len _ 0 (by omega)).2 (by decide)
  · have := signN_lt (List.all_eq_true.1 h4 z hz)
    exact Nat.le_trans (numB_len _ 7 (by omega)).2 (by decide)
theorem nums_body {l : List UInt8} {k : Nat} {rest : List Nat} (h : Nums9 l (k :: rest.length :: rest)) : l = bodyB k (rest.map signO) := by
  rw [h.flat]
  simp only [bodyB, numsB, List.map_cons, List.flatten_cons, List.length_map, Int.toNat_natCast, List.map_map, Function.comp_def, signN_O, List.append_assoc]

/-- The right record whose body these bytes are. -/
def IsBody (l : List UInt8) (k : Int) (zs : List Int) : Prop := recR k zs = true ∧ l = bodyB k zs
theorem IsBody.uniq {l : List UInt8} {k k' : Int} {zs zs' : List Int} (h : IsBody l k zs) (h' : IsBody l k' zs') : k = k' ∧ zs = zs' := by
  have e1 := body_nums h.1
  have e2 := body_nums h'.1
  rw [← h.2] at e1
  rw [← h'.2] at e2
  have e := e1.uniq e2
  simp only [List.cons.injEq] at e
  obtain ⟨a, -, c⟩ := e
  have p := recR_parts h.1
  have p' := recR_parts h'.1
  refine ⟨by omega, ?_⟩
  have := congrArg (List.map signO) c
  simpa [List.map_map, Function.comp_def, signO_N] using this

end Go.Proofs.YtnkdkbchendpmaaDoor
