/-
  A DRAWN PLAN IS FOUND RIGHT: what the functions that FnPlanFind calls answer, and its walk over it.
-/
import Derived.Test.YtgfclllfkpblnaaFa
import Derived.Test.YtgfclllfkpblnaaFz
import Derived.Test.YtgfclllfkpblnaaBw
import Derived.Test.YtgfclllfkpblnaaFw
namespace Go.Proofs.Ytgfclllfkpblnaa
open Go.RowKit
set_option linter.unusedVariables false
set_option linter.unusedSimpArgs false

/-- FnPlanFind. -/
theorem law3 (sl : Option Addr) (len cap : Nat) (w : World) (hl : len ≤ maxLen) (hr : RowIn w sl len) :
    Calls Try.prog 3 #[.slice sl len cap] w fun e w' => e = .returned (.bool true) ∧ Below w.heap.size w w' := by
  refine walk3 sl len cap w hl (Lib.hid ?_)
  refine (dpf_any sl len cap w hr).mono ?_
  rintro e w1 ⟨s1, c1, s2, c2, rs, ps, top, v, zs, bd, rfl, hrs, hw, hst, hpr, hzs, ⟨C0, hC0, ov⟩, b1⟩
  obtain ⟨vs, vk, ev, pv⟩ := own_ints ov
  subst ev
  have BB := bA0 w1 (.cells #[.slice s1 rs.length c1, .slice s2 ps.length c2] 26)
  have TB := TabAt.new w1 s1 rs.length c1 s2 ps.length c2
  have X : ∀ W, Below (w1.alloc (.cells #[.slice s1 rs.length c1, .slice s2 ps.length c2] 26)).heap.size (w1.alloc (.cells #[.slice s1 rs.length c1, .slice s2 ps.length c2] 26)) W → Sts W s1 rs ∧ Prs W s2 ps ∧ Ints W vs zs := fun W hW => ⟨(hst.below BB).below hW, (hpr.below BB).below hW, (pv.below BB).below hW⟩
  have KT : ∀ W, Below (w1.alloc (.cells #[.slice s1 rs.length c1, .slice s2 ps.length c2] 26)).heap.size (w1.alloc (.cells #[.slice s1 rs.length c1, .slice s2 ps.length c2] 26)) W → w1.heap.size < W.heap.size ∧ W.cell? ⟨w1.heap.size, 0, none⟩ = some (.slice s1 rs.length c1) ∧ W.cell? ⟨w1.heap.size, 1, none⟩ = some (.slice s2 ps.length c2) := fun W hW => ⟨(TB.below hW).lt, (TB.below hW).cells⟩
  generalize hB : w1.alloc (.cells #[.slice s1 rs.length c1, .slice s2 ps.length c2] 26) = wB at *
  have h6 : (pfP rs ps top zs bd).length ≤ 400 := by
    by_cases h : PfOk rs ps zs bd
    · rw [(pf_yes top h).2.1]
      cases hr : pfS rs ps top zs bd with
      | found p t =>
        have := seek_len (fitB ps) bd.toNat (zs.map (chF rs top)) [] 0 p t hr
        show p.length ≤ 400
        simp at this
        omega
      | none s => exact Nat.zero_le _
      | out s => exact Nat.zero_le _
    · rw [(pf_no top h).2.1]; exact Nat.zero_le _
  have HCS : pfC rs ps zs bd = 1 ∨ (pfC rs ps zs bd = 0 ∧ pfT rs ps top zs bd ≤ bd ∧ (pfV rs ps top zs bd = 1 ∨ pfV rs ps top zs bd = 2 ∨ pfV rs ps top zs bd = 3)) := by
    by_cases h : PfOk rs ps zs bd
    · refine .inr ⟨(pf_yes top h).2.2.2, pf_steps top h, ?_⟩
      rw [(pf_yes top h).1]
      cases pfS rs ps top zs bd with
      | found p t => exact .inl rfl
      | none s => exact .inr (.inl rfl)
      | out s => exact .inr (.inr rfl)
    · refine .inl ?_
      rw [(pf_no top h).2.2.2, if_neg (by omega)]
  have HOK : pfC rs ps zs bd = 0 → PfOk rs ps zs bd := fun h => by
    by_cases h1 : PfOk rs ps zs bd
    · exact h1
    · rw [(pf_no top h1).2.2.2, if_neg (by omega)] at h
      omega
  have E6a : ∀ (bb : Int) (W : World) C0 v, Below wB.heap.size wB W → W.ownsRow C0 2 1 v zs.length (valsZ zs) → Calls Try.prog 6 #[TV s1 rs.length c1 s2 ps.length c2, .int .i64 top, v, .int .i64 bb] W fun e w' => ∃ s k, e = .returned (PV (pfV rs ps top zs bb) (.slice s (pfP rs ps top zs bb).length k) (pfT rs ps top zs bb) (pfC rs ps zs bb)) ∧ w'.ownsRow W.heap.size 62 2 (.slice s (pfP rs ps top zs bb).length k) (pfP rs ps top zs bb).length (enCells (pfP rs ps top zs bb)) ∧ Below W.heap.size W w' := fun bb W C0 v hW o => by
    obtain ⟨x1, x2, -⟩ := X W hW
    obtain ⟨s', k', rfl, iv⟩ := own_ints o
    refine (ipl_any s1 c1 s2 c2 s' k' rs ps top zs bb W (by omega) (by unfold maxLen; omega) x1 x2 hw iv).mono ?_
    rintro e w' ⟨pv, rfl, o', b⟩
    obtain ⟨s, k, rfl⟩ := own_v o'
    exact ⟨s, k, rfl, o', b⟩
  refine ⟨s1, rs.length, c1, s2, ps.length, c2, top, vs, zs.length, vk, bd, pfV rs ps top zs bd, pfT rs ps top zs bd, pfC rs ps zs bd, (pfP rs ps top zs bd).length, enCells (pfP rs ps top zs bd), valsZ zs, (if bd + 100 < 2000 then bd + 100 else 2000 : Int), rfl, b1, ?_⟩
  rw [hB]
  refine ⟨KT, HCS, fun h => (HOK h).2, ?_, E6a bd, ?_, ?_, ?_, ?_, ?_, ?_, ?_, ?_⟩
  · intro W hW
    obtain ⟨x1, x2, x3⟩ := X W hW
    refine (spl_any s1 c1 s2 c2 vs vk rs ps top zs bd W (by omega) (by omega) x1 x2 x3).mono ?_
    rintro e w' ⟨pv, rfl, ⟨s, k, rfl, -⟩, b⟩
    exact ⟨s, k, rfl, b⟩
  · intro W C0 v hW o hq
    have hok := HOK hq.1
    obtain ⟨m1, m2, m3⟩ := pf_more top hok hq.2
    have m4 : pfC rs ps zs (moreB bd) = 0 := by
      have : PfOk rs ps zs (moreB bd) := ⟨hok.1, by have := hok.2; unfold moreB; split <;> omega, by unfold moreB; split <;> omega⟩
      exact (pf_yes top this).2.2.2
    have := E6a (moreB bd) W C0 v hW o
    rw [m1, m2, m3, m4] at this
    exact this
  · intro W hW
    exact lwc_any vs vk zs W (by omega) (X W hW).2.2
  · intro W C0 v o
    obtain ⟨s, k, rfl, ip⟩ := own_row2 o
    exact lwp_any s k _ W (by omega) ip
  · intro hq W C0 v hW o
    obtain ⟨x1, x2, -⟩ := X W hW
    obtain ⟨s, k, rfl, ip⟩ := own_row2 o
    have := ipr_any s1 c1 s2 c2 s k rs ps (pfP rs ps top zs bd) top W (by omega) (by omega) x1 x2 hw ip (own_cap6 o)
    rw [(pf_right top (HOK hq.1) hq.2).1] at this
    exact this
  · intro hq W C0 v o
    obtain ⟨s, k, rfl, ip⟩ := own_row2 o
    have := ipi_any s k (pfP rs ps top zs bd) W (by unfold maxLen; omega) ip
    rw [show pidsA (pfP rs ps top zs bd) = zs by unfold pidsA; rw [if_pos h6]; exact (pf_right top (HOK hq.1) hq.2).2] at this
    exact this
  · intro W C0 v hW o
    obtain ⟨s, k, rfl, iv⟩ := own_ints o
    exact lws_any s vs k vk zs W (by unfold maxLen; omega) iv (X W hW).2.2
  · intro W C0 C1 v v' o o'
    obtain ⟨s, k, rfl, ip⟩ := own_row2 o
    obtain ⟨s', k', rfl, ip'⟩ := own_row2 o'
    exact lwq_any s s' k k' _ W (by omega) ip ip'
  · rintro a rfl W
    exact lmi_any _ _ W
end Go.Proofs.Ytgfclllfkpblnaa
