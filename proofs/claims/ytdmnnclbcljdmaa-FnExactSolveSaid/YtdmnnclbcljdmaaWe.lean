/-
  ROWS PUT TOGETHER: slices.Grow of none, slices.Concat, at numbers.
-/
import Derived.Test.YtdmnnclbcljdmaaWb
import Derived.Test.YtdmnnclbcljdmaaKe
namespace Go.Proofs.Ytdmnnclbcljdmaa
open Go.RowKit
set_option linter.unusedVariables false

theorem valsZ_one (zs : List Int) : ∀ u ∈ valsZ zs, u.oneCell' = true := by
  intro u hu
  unfold valsZ at hu
  obtain ⟨p, _, rfl⟩ := List.mem_map.1 hu
  rfl
theorem valsZ_len1 (zs : List Int) : (valsZ zs).length = zs.length * 1 := by simp [valsZ]
theorem int_cells {w : World} {c o : Nat} {zs : List Int} (h : IntsAt w c o zs) : ∀ (j : Nat) (u : Value), (valsZ zs)[j]? = some u → w.cell? ((⟨c, o, none⟩ : Addr).add j) = some u := by
  intro j u hu
  have hl : j < zs.length := by
    have := (List.getElem?_eq_some_iff.1 hu).1
    simpa [valsZ] using this
  rw [at_add, h.2 j hl, ← hu]
  simp [valsZ, hl]
theorem app_none40 (w : World) (ty : TypeId) (base : Option Addr) (n cap : Nat) (hle : n ≤ cap) (p : Option Addr) (c : Nat) :
    (Builtin.append_ #[28, 28] ty #[.slice base n cap, .slice p 0 c]).run Try.prog w = .ok (.slice base n cap) w := by
  obtain ⟨i, h1, h2, h3, h4⟩ := info_parts info2'
  refine run_append_nothing w 28 28 ty 2 i Try.underlying28 h1 base n cap hle _ ?_
  cases p with
  | none => exact Src.ofNil _ Try.underlying28 c
  | some a => exact Src.ofSlice _ Try.underlying28 a 0 c [] (by simp) (fun j u h => by simp at h) (fun u h => by cases h)


/-- All places of the rows, one behind the other. -/
def flatC (rows : List LCl) : List Int := rows.flatMap fun r => r.2
theorem flatC_step (rows : List LCl) (k : Nat) (h : k < rows.length) : flatC (rows.take (k + 1)) = flatC (rows.take k) ++ rows[k].2 := by
  unfold flatC
  rw [List.take_succ_eq_append_getElem h, List.flatMap_append]
  simp
theorem flatC_le (rows : List LCl) (k : Nat) : (flatC (rows.take k)).length ≤ (flatC rows).length := by
  have := congrArg (fun l => (flatC l).length) (List.take_append_drop k rows)
  simp only [flatC, List.flatMap_append, List.length_append] at this
  unfold flatC
  omega

end Go.Proofs.Ytdmnnclbcljdmaa
