/-
  A LINE OF NUMBERS SCANNED: the scan as a function, and the program's, with its jumps.
-/
import Derived.Test.YtoncpiaboceefaaDoorFg
namespace Go.Proofs.YtoncpiaboceefaaDoor
open Go.RowKit
set_option linter.unusedVariables false

/-- As Q; by a goto to label l: J l. -/
def Exit.jumps (J : Nat → Act → World → Prop) (Q : Exit → Act → World → Prop) : Exit → Act → World → Prop
  | .goto l, a, w => J l a w
  | e, a, w => Q e a w
theorem wp_scope_many {Pg : Program} {a : Act} {w : World} {Q : Exit → Act → World → Prop} {c : Code} (J : Nat → Act → World → Prop) (μ : Nat → Act → World → Nat) (hf : ∀ l a w, J l a w → ∃ rest, findLabel c l = some rest)
    (first : c.wp Pg (Exit.jumps J Q) a w)
    (pass : ∀ l rest a w, findLabel c l = some rest → J l a w → rest.wp Pg (Exit.jumps (fun l' a' w' => J l' a' w' ∧ μ l' a' w' < μ l a w) Q) a w) : (Code.scope c).wp Pg Q a w := by
  intro b k cs
  have hg : ∀ l rest, findLabel c l = some rest → gotoIn l (.inScope c :: k) = some (.code rest :: .inScope c :: k) := fun l rest h => by simp [gotoIn, h]
  have key : ∀ n l rest a w, findLabel c l = some rest → μ l a w = n → J l a w → ∃ e a' w', Q e a' w' ∧ Arrives Pg (lone (b.at a (.code rest :: .inScope c :: k)) cs w) b k cs e a' w' := by
    intro n
    induction n using Nat.strongRecOn with
    | _ n ih =>
      intro l rest a w hl hn hJ
      obtain ⟨e, a₁, w₁, hq, harr⟩ := pass l rest a w hl hJ b (.inScope c :: k) cs
      cases e with
      | normal => exact ⟨.normal, a₁, w₁, hq, Steps.trans harr (.one step_inScope)⟩
      | exit id => exact ⟨.exit id, a₁, w₁, hq, fun k' hk => harr k' (by simp [exitTo, hk])⟩
      | goto l' =>
        obtain ⟨hJ', hlt⟩ := hq
        obtain ⟨rest', hl'⟩ := hf l' a₁ w₁ hJ'
        obtain ⟨e₂, a₂, w₂, hq₂, harr₂⟩ := ih _ (by omega) l' rest' a₁ w₁ hl' rfl hJ'
        exact ⟨e₂, a₂, w₂, hq₂, .of_steps (harr _ (hg l' rest' hl')) harr₂⟩
      | ret => exact ⟨_, a₁, w₁, hq, harr⟩
      | panic ch => exact ⟨_, a₁, w₁, hq, harr⟩
      | outgrown => exact ⟨_, a₁, w₁, hq, harr⟩
  obtain ⟨e, a₁, w₁, hq, harr⟩ := first b (.inScope c :: k) cs
  cases e with
  | normal => exact ⟨.normal, a₁, w₁, hq, .head step_scope (Steps.trans harr (.one step_inScope))⟩
  | exit id => exact ⟨.exit id, a₁, w₁, hq, fun k' hk => .head step_scope (harr k' (by simp [exitTo, hk]))⟩
  | goto l' =>
    obtain ⟨rest', hl'⟩ := hf l' a₁ w₁ hq
    obtain ⟨e₂, a₂, w₂, hq₂, harr₂⟩ := key _ l' rest' a₁ w₁ hl' rfl hq
    exact ⟨e₂, a₂, w₂, hq₂, .of_steps (.head step_scope (harr _ (hg l' rest' hl'))) harr₂⟩
  | ret => exact ⟨_, a₁, w₁, hq, .of_steps (.one step_scope) harr⟩
  | panic ch => exact ⟨_, a₁, w₁, hq, .of_steps (.one step_scope) harr⟩
  | outgrown => exact ⟨_, a₁, w₁, hq, .of_steps (.one step_scope) harr⟩

theorem wp_scope_from {Pg : Program} {a : Act} {w : World} {Q : Exit → Act → World → Prop} {c : Code} (J : Nat → Act → World → Prop) (μ : Nat → Act → World → Nat) (hf : ∀ l a w, J l a w → ∃ rest, findLabel c l = some rest)
    (pass : ∀ l rest a w, findLabel c l = some rest → J l a w → rest.wp Pg (Exit.jumps (fun l' a' w' => J l' a' w' ∧ μ l' a' w' < μ l a w) Q) a w)
    (first : (∀ l rest a w, findLabel c l = some rest → J l a w → rest.wp Pg (Exit.jumps J Q) a w) → c.wp Pg (Exit.jumps J Q) a w) : (Code.scope c).wp Pg Q a w :=
  wp_scope_many J μ hf (first fun l rest a w hl hj => Code.wp_mono (fun e a w h => by cases e <;> first | exact h | exact h.1) (pass l rest a w hl hj)) pass

theorem wp_scope_zero {Pg : Program} {a : Act} {w : World} {Q : Exit → Act → World → Prop} {c : Code} (J : Nat → Act → World → Prop) (μ : Nat → Act → World → Nat) (hf : ∀ l a w, J l a w → ∃ rest, findLabel c l = some rest) (hz : ∃ X, findLabel c 0 = some (.seq .skip X))
    (pass : ∀ l rest a w, l ≠ 0 → findLabel c l = some rest → J l a w → rest.wp Pg (Exit.jumps (fun l' a' w' => J l' a' w' ∧ μ l' a' w' < μ l a w) Q) a w)
    (zero : ∀ X, findLabel c 0 = some (.seq .skip X) → ∀ M a w, J 0 a w → μ 0 a w ≤ M → X.wp Pg (Exit.jumps (fun l' a' w' => J l' a' w' ∧ μ l' a' w' < M) Q) a w)
    (first : (∀ X, findLabel c 0 = some (.seq .skip X) → ∀ a w, J 0 a w → X.wp Pg (Exit.jumps J Q) a w) → c.wp Pg (Exit.jumps J Q) a w) : (Code.scope c).wp Pg Q a w := by
  refine wp_scope_many J μ hf (first fun X hX a w hj => Code.wp_mono (fun e a w h => by cases e <;> first | exact h | exact h.1) (zero X hX _ a w hj (Nat.le_refl _))) ?_
  intro l rest a w hl hj
  by_cases h0 : l = 0
  · subst h0
    obtain ⟨X, hX⟩ := hz
    obtain rfl := Option.some.inj (hl.symm.trans hX)
    exact wp_seq (wp_skip (zero X hX _ a w hj (Nat.le_refl _)))
  · exact pass l rest a w h0 hl hj

/-- Where a scan stands: at a word, behind a digit, behind a number. -/
inductive Sc where
  | word
  | digit (sg v : Int) (b : UInt8)
  | behind (x : Int) (b : UInt8)
/-- The scan over what is left, with so many steps; none: it goes wrong. -/
def scan (rt : List Int → Bool) : Nat → Sc → List Int → List UInt8 → Option (List Int × List UInt8)
  | 0, _, _, _ => none
  | n + 1, .word, ns, r =>
    if r.headD 0 = 48 then scan rt n (.behind 0 (r.tail.headD 0)) ns r.tail.tail
    else if r.headD 0 = 45 then
      (if 49 ≤ (r.tail.headD 0).toNat ∧ (r.tail.headD 0).toNat ≤ 57 then scan rt n (.digit (-1) 0 (r.tail.headD 0)) ns r.tail.tail else none)
    else if 49 ≤ (r.headD 0).toNat ∧ (r.headD 0).toNat ≤ 57 then scan rt n (.digit 1 0 (r.headD 0)) ns r.tail else none
  | n + 1, .digit sg v b, ns, r =>
    if 4000 < 10 * v + ((b.toNat : Int) - 48) then none
    else if 48 ≤ (r.headD 0).toNat ∧ (r.headD 0).toNat ≤ 57 then scan rt n (.digit sg (10 * v + ((b.toNat : Int) - 48)) (r.headD 0)) ns r.tail
    else scan rt n (.behind (sg * (10 * v + ((b.toNat : Int) - 48))) (r.headD 0)) ns r.tail
  | n + 1, .behind x b, ns, r =>
    if b = 32 then scan rt n .word (ns ++ [x]) r
    else if b = 10 ∧ rt (ns ++ [x]) = true then some (ns ++ [x], r) else none
/-- What is left of a text at a place. -/
def lef (s : ByteArray) (p : Nat) : List UInt8 := s.data.toList.drop p
theorem lef_hd (s : ByteArray) (p : Nat) : (lef s p).headD 0 = nxB s p := by
  unfold lef nxB
  by_cases h : p < s.size
  · rw [dif_pos h, List.drop_eq_getElem_cons (by simpa using h)]
    rfl
  · rw [dif_neg h, List.drop_of_length_le (by simp; omega)]
    rfl
theorem lef_tl (s : ByteArray) (p : Nat) : (lef s p).tail = lef s (nxP s p) := by
  unfold lef nxP
  by_cases h : p < s.size
  · rw [if_pos h, List.tail_drop]
  · rw [if_neg h, List.drop_of_length_le (by simp; omega)]
    rfl
theorem nxP_le (s : ByteArray) (p : Nat) (h : p ≤ s.size) : p ≤ nxP s p ∧ nxP s p ≤ s.size := by unfold nxP; split <;> omega
theorem nxP_lt (s : ByteArray) (p : Nat) (h : nxB s p ≠ 0) : p < s.size ∧ nxP s p = p + 1 := by
  unfold nxB at h
  unfold nxP
  split at h
  · rename_i h1; exact ⟨h1, if_pos h1⟩
  · exact absurd rfl h
theorem own_only {b B : Nat} {e : TypeId} {m : Nat} {v : Value} {n : Nat} {xs : List Value} {w w' : World} (h : w.ownsRow B e m v n xs) (ho : Only b w w') (hb : b < B) : w'.ownsRow B e m v n xs := by
  refine ⟨h.1, ?_⟩
  rcases h.2 with h | ⟨g, cap, cur, hv, hg, hh, r⟩
  · exact .inl h
  · exact .inr ⟨g, cap, cur, hv, hg, (ho.block g (Array.getElem?_eq_some_iff.1 hh).1 (by omega)).trans hh, r⟩

end Go.Proofs.YtoncpiaboceefaaDoor
