/-
  IS A CLAUSE RIGHT? impl.clauseRight.
-/
import Derived.Test.YtllaiigjkchahaaDoorQa
import Derived.Test.YtllaiigjkchahaaDoorAd
namespace Go.Proofs.YtllaiigjkchahaaDoor
open Go.RowKit Go.Shelf
set_option linter.unusedVariables false
attribute [local go_sem] Oper.semAt_some

/-- Literals of variables up to vars, no two of one. -/
def GoodTo (vars : Int) (zs : List Int) : Prop := (∀ z ∈ zs, 1 ≤ lv z ∧ lv z ≤ vars) ∧ (zs.map lv).Nodup
/-- A clause is right, as the program asks it. -/
def ClR (vars : Int) (zs : List Int) : Prop := zs.length ≤ 16 ∧ GoodTo vars zs
theorem GoodTo.nil (vars : Int) : GoodTo vars [] := ⟨fun z h => absurd h List.not_mem_nil, List.nodup_nil⟩
theorem GoodTo.step {vars : Int} {pre : List Int} {x : Int} (h : GoodTo vars pre) (h1 : 1 ≤ lv x) (h2 : lv x ≤ vars) (h3 : lv x ∉ pre.map lv) : GoodTo vars (pre ++ [x]) := by
  refine ⟨fun z hz => ?_, ?_⟩
  · rcases List.mem_append.1 hz with hz | hz
    · exact h.1 z hz
    · rw [List.mem_singleton.1 hz]; exact ⟨h1, h2⟩
  · rw [List.map_append, List.nodup_append]
    refine ⟨h.2, by simp, fun a ha b hb => ?_⟩
    simp at hb
    rintro rfl
    subst hb
    exact h3 ha
theorem GoodTo.no1 {vars : Int} {pre : List Int} {x : Int} (h1 : ¬ (1 ≤ lv x ∧ lv x ≤ vars)) : ¬ GoodTo vars (pre ++ [x]) := fun g => h1 (g.1 x (by simp))
theorem GoodTo.no2 {vars : Int} {pre : List Int} {x : Int} (h1 : lv x ∈ pre.map lv) : ¬ GoodTo vars (pre ++ [x]) := fun g => by
  have := g.2
  rw [List.map_append, List.nodup_append] at this
  exact this.2.2 _ h1 (lv x) (by simp) rfl
theorem GoodTo.prefix {vars : Int} {pre zs : List Int} (h : pre <+: zs) (g : GoodTo vars zs) : GoodTo vars pre := by
  obtain ⟨r, rfl⟩ := h
  refine ⟨fun z hz => g.1 z (List.mem_append_left _ hz), ?_⟩
  have := g.2
  rw [List.map_append, List.nodup_append] at this
  exact this.1

theorem boxB {W W' : World} {b : Nat} {t : TypeId} {v : Value} (h : Boxed W b t v) (hb : Below W.heap.size W W') : Boxed W' b t v := (hb.block b h.lt).trans h
theorem info2c : (Tryd.prog.info? 2).map (fun i => (i.zero, i.size, i.bytes)) = some (some (.int .i64 0), 1, 8) := by kernel_rfl




end Go.Proofs.YtllaiigjkchahaaDoor
