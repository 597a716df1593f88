/-
  HOW MANY STEPS: spec.SolveCount, impl.SolveCount; the law of SolveCount.
  THE LAW OF SOLVE: the walk.
-/
import Derived.Test.YtoobcodlgajieaaDoorKUae
import Derived.Test.YtoobcodlgajieaaDoorKWag
import Derived.Laws.Rows
import Derived.Laws.Tables
namespace Go.Proofs.YtoobcodlgajieaaDoor
open Go.RowKit
set_option linter.unusedVariables false

theorem solF_verdict (css : List (List Int)) (V : Nat) : ∀ (n : Nat) (st : Int) (L : List (List Int)) (D : List Int), (solF css V n st L D).1 = 1 ∨ (solF css V n st L D).1 = 2 ∨ (solF css V n st L D).1 = 3
  | 0, st, L, D => .inr (.inr rfl)
  | n + 1, st, L, D => by
    unfold solF
    split
    · split
      · exact .inl rfl
      · exact solF_verdict css V n _ _ _
    · split
      · exact .inr (.inl rfl)
      · exact solF_verdict css V n _ _ _

theorem solF_small (css : List (List Int)) (V : Nat) : ∀ (n : Nat) (st : Int) (L : List (List Int)) (D : List Int), (solF css V n st L D).2.1.length ≤ V ∧ (solF css V n st L D).2.2.1.length ≤ L.length + n ∧ ∀ l ∈ (solF css V n st L D).2.2.1, l ∈ L ∨ l.length ≤ D.length + n
  | 0, st, L, D => ⟨Nat.zero_le _, Nat.le_refl _, fun l hl => .inl hl⟩
  | n + 1, st, L, D => by
    unfold solF
    split
    · split
      · exact ⟨trL_len _ _, by simp, fun l hl => .inl hl⟩
      · obtain ⟨h1, h2, h3⟩ := solF_small css V n (st + 1) L (D ++ [(opn (uRun css L D).1 V 1 : Int)])
        refine ⟨h1, by omega, fun l hl => ?_⟩
        rcases h3 l hl with h | h
        · exact .inl h
        · exact .inr (by simp at h; omega)
    · split
      · refine ⟨Nat.zero_le _, by simp, fun l hl => ?_⟩
        rcases List.mem_append.1 hl with h | h
        · exact .inl h
        · rw [List.mem_singleton.1 h, negL_len]; exact .inr (by omega)
      · obtain ⟨h1, h2, h3⟩ := solF_small css V n (st + 1) (L ++ [negL D]) D.dropLast
        refine ⟨h1, by simp at h2; omega, fun l hl => ?_⟩
        rcases h3 l hl with h | h
        · rcases List.mem_append.1 h with h | h
          · exact .inl h
          · rw [List.mem_singleton.1 h, negL_len]; exact .inr (by omega)
        · exact .inr (by simp at h; omega)
theorem solA_small (vars : Int) (css : List (List Int)) (bud : Int) : (solA vars css bud).1.2.1.length ≤ 900 ∧ (solA vars css bud).1.2.2.1.length ≤ 1000 ∧ ∀ l ∈ (solA vars css bud).1.2.2.1, l.length ≤ 1000 := by
  by_cases h : SolOk vars css bud
  · rw [solA_yes h]
    obtain ⟨h1, h2, h3⟩ := solF_small css vars.toNat bud.toNat 0 [] []
    have a1 := h.1.1.1
    have a2 := h.1.1.2
    have a3 := h.2.1
    have a4 := h.2.2
    refine ⟨by simp only []; omega, by simp only [List.length_nil] at h2 ⊢; omega, fun l hl => ?_⟩
    rcases h3 l hl with g | g
    · cases g
    · simp only [List.length_nil] at g; omega
  · rw [solA_no h]; exact ⟨by simp, by simp, fun l hl => by cases hl⟩
/-- What the program answered. -/
structure LGD (B b : Nat) (s : Option Addr) (tn k : Nat) (l : Option Addr) (ln j : Nat) (x st c : Int) (xs : List Value) (ms : List LCl) (W : World) : Prop where
  row : W.ownsRow B 2 1 (.slice s tn k) tn xs
  ol : OwC W B (.slice l ln j) ms
  box : BoxS W b x (.slice s tn k) (.slice l ln j) st c
section
variable {B b : Nat} {s : Option Addr} {tn k : Nat} {l : Option Addr} {ln j : Nat} {x st c : Int} {xs : List Value} {ms : List LCl} {W W' : World}
theorem LGD.below (h : LGD B b s tn k l ln j x st c xs ms W) (hb : Below W.heap.size W W') : LGD B b s tn k l ln j x st c xs ms W' := ⟨own_below h.row hb, h.ol.below hb, h.box.below hb⟩
/-- What the model answered, below block M. -/
structure LWD (M b : Nat) (s : Option Addr) (tn k : Nat) (l : Option Addr) (ln j : Nat) (x st c : Int) (xs : List Value) (ms : List LCl) (W : World) : Prop where
  own : ∃ B, W.ownsRow B 2 1 (.slice s tn k) tn xs ∧ OwC W B (.slice l ln j) ms
  lo : (∀ i, (Value.slice s tn k).ownBlock = some i → i < M) ∧ (∀ i, (Value.slice l ln j).ownBlock = some i → i < M) ∧ ∀ r ∈ ms, ∀ i, r.1.ownBlock = some i → i < M
  box : BoxS W b x (.slice s tn k) (.slice l ln j) st c
theorem LWD.below {M : Nat} (h : LWD M b s tn k l ln j x st c xs ms W) (hb : Below W.heap.size W W') : LWD M b s tn k l ln j x st c xs ms W' := by
  obtain ⟨B, h1, h2⟩ := h.own
  exact ⟨⟨B, own_below h1 hb, h2.below hb⟩, h.lo, h.box.below hb⟩
end
/-- The copy that was handed in. -/
structure LXD (vars : Int) (n b4 C4 c1 : Nat) (cs : List LCl) (W : World) : Prop where
  box : CnfAt W b4 vars (some ⟨c1, 0, none⟩) n n
  x0 : CnO C4 W c1 cs
theorem LXD.below {vars : Int} {n b4 C4 c1 : Nat} {cs : List LCl} {W W' : World} (h : LXD vars n b4 C4 c1 cs W) (hb : Below W.heap.size W W') : LXD vars n b4 C4 c1 cs W' := ⟨h.box.below hb, h.x0.below hb⟩

end Go.Proofs.YtoobcodlgajieaaDoor
