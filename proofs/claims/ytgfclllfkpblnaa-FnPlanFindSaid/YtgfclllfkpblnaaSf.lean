/-
  A TABLE BEING DRAWN: a station turned; and what a drawn table is.
-/
import Derived.Test.YtgfclllfkpblnaaSe
namespace Go.Proofs.Ytgfclllfkpblnaa
open Go.RowKit
set_option linter.unusedVariables false

theorem own3_set {C g n cap : Nat} {e : TypeId} {xs : List Value} {W : World} (h : W.ownsRow C e 3 (.slice (some ⟨g, 0, none⟩) n cap) n xs) (i : Nat) (x : Value) : (W.setCell ⟨g, i, none⟩ x).ownsRow C e 3 (.slice (some ⟨g, 0, none⟩) n cap) n (xs.set i x) := by
  refine ⟨by rw [List.length_set]; exact h.1, ?_⟩
  rcases h.2 with ⟨h, _⟩ | ⟨g', cap', cur, hv, hg, hh, hc, hm, hs, ht⟩
  · cases h
  · cases hv
    refine .inr ⟨g, cap, cur.setIfInBounds i x, rfl, hg, heap_setCell_same W g i cur e x hh, hc, hm, by simpa using hs, ?_⟩
    rw [Array.toList_setIfInBounds, List.take_set, ht]
theorem stC_set (rs : List LSt) (j : Nat) (h : j < rs.length) (r : LSt) : stC (rs.set j r) = (((stC rs).set (j * 3) (.int .i64 r.1)).set (j * 3 + 1) (.int .i64 r.2.1)).set (j * 3 + 2) r.2.2.1 := by
  induction rs generalizing j with
  | nil => simp at h
  | cons a t ih =>
    cases j with
    | zero => simp [stC]
    | succ j =>
      have h' : j < t.length := by simpa using h
      have := ih j h'
      unfold stC at this ⊢
      rw [List.set_cons_succ, List.flatMap_cons, List.flatMap_cons, this]
      rw [show (j + 1) * 3 = j * 3 + 3 by omega, show j * 3 + 3 + 1 = (j * 3 + 1) + 3 by omega, show j * 3 + 3 + 2 = (j * 3 + 2) + 3 by omega]
      rfl
theorem set_selfS {l : List Value} {i : Nat} {v : Value} (h : l[i]? = some v) : l.set i v = l := by
  obtain ⟨hi, e⟩ := List.getElem?_eq_some_iff.1 h
  rw [← e]
  exact List.set_getElem_self hi
theorem stC_id (rs : List LSt) (j : Nat) (h : j < rs.length) (x : Int) : stC (rs.set j (x, rs[j].2)) = (stC rs).set (j * 3) (.int .i64 x) := by
  obtain ⟨a, b, c⟩ := stC_at rs j h
  rw [stC_set rs j h]
  dsimp only
  rw [set_selfS (l := (stC rs).set (j * 3) _) (i := j * 3 + 1) (by rw [List.getElem?_set_ne (by omega)]; exact b), set_selfS (by rw [List.getElem?_set_ne (by omega)]; exact c)]
theorem stC_sc (rs : List LSt) (j : Nat) (h : j < rs.length) (x : Int) : stC (rs.set j (rs[j].1, x, rs[j].2.2)) = (stC rs).set (j * 3 + 1) (.int .i64 x) := by
  obtain ⟨a, b, c⟩ := stC_at rs j h
  rw [stC_set rs j h]
  dsimp only
  rw [set_selfS a, set_selfS (by rw [List.getElem?_set_ne (by omega)]; exact c)]
theorem stC_dom (rs : List LSt) (j : Nat) (h : j < rs.length) (d : Value) (zs : List Int) : stC (rs.set j (rs[j].1, rs[j].2.1, d, zs)) = (stC rs).set (j * 3 + 2) d := by
  obtain ⟨a, b, c⟩ := stC_at rs j h
  rw [stC_set rs j h]
  dsimp only
  rw [set_selfS a, set_selfS b]

section
variable {w : World} {b tb : Nat} {v1 v2 : Value} {rs : List LSt} {ps : List LPr} {W W' : World}
theorem dom_ne_st (h : TI w b tb v1 v2 rs ps W) {r : LSt} (hr : r ∈ rs) {j : Nat} (hj : r.2.2.1.ownBlock = some j) : v1.ownBlock ≠ some j := own_ne (h.dom r hr) h.st (by decide) hj
/-- A number of a station turned. -/
theorem TI.setI {g n cap : Nat} (h : TI w b tb (.slice (some ⟨g, 0, none⟩) n cap) v2 rs ps W) (j : Nat) (hj : j < rs.length) (o : Nat) (x : Value) (r : LSt) (hr : r.2.2 = rs[j].2.2) (hs : stC (rs.set j r) = (stC rs).set (j * 3 + o) x) :
    TI w b tb (.slice (some ⟨g, 0, none⟩) n cap) v2 (rs.set j r) ps (W.setCell ⟨g, j * 3 + o, none⟩ x) := by
  have hn : n = rs.length := by
    rcases h.st.2 with ⟨e, _⟩ | ⟨_, _, _, e, _⟩
    · cases e
    · cases e; rfl
  subst hn
  have hgl : tb + 1 ≤ g := own_base h.st rfl
  have hb := h.hb
  have ht := h.htb
  have hmem : ∀ r' ∈ rs.set j r, ∃ r0 ∈ rs, r0.2.2 = r'.2.2 := fun r' hr' => by
    obtain ⟨i, hi, rfl⟩ := List.getElem_of_mem hr'
    rw [List.length_set] at hi
    rw [List.getElem_set]
    split
    · exact ⟨rs[j], List.getElem_mem hj, hr.symm⟩
    · exact ⟨rs[i], List.getElem_mem hi, rfl⟩
  refine ⟨hb, ht, h.src.set g (by omega) _ _, h.fr.setHigh g (by omega) _ _, (Below.heap_setCell _ _ _ _ (by show tb ≠ g; omega)).trans h.tab, (Below.heap_setCell _ _ _ _ (by show w.heap.size ≠ g; omega)).trans h.rc, ?_, own_keep h.pr (fun i hi => Below.heap_setCell _ _ _ _ (by show i ≠ g; intro e; subst e; exact own_ne h.pr h.st (by decide) hi rfl)), fun r' hr' => ?_, ?_⟩
  · rw [List.length_set, hs]
    exact own3_set h.st _ _
  · obtain ⟨r0, h0, e⟩ := hmem r' hr'
    have := h.dom r0 h0
    rw [e] at this
    exact own_keep this (fun i hi => Below.heap_setCell _ _ _ _ (by show i ≠ g; intro e; subst e; exact own_ne this h.st (by decide) hi rfl))
  · have e : (rs.set j r).map (fun r => r.2.2.1.ownBlock) = rs.map (fun r => r.2.2.1.ownBlock) := by
      rw [List.map_set, hr]
      apply List.ext_getElem
      · simp
      · intro i h1 h2
        rw [List.getElem_set]
        split
        · rename_i e; subst e; simp
        · rfl
    have := h.ap
    rw [← List.pairwise_map (f := fun r : LSt => r.2.2.1.ownBlock) (R := fun a c => a ≠ c)] at this ⊢
    rwa [e]
/-- A station's domain turned. -/
theorem TI.setD {g n cap : Nat} (h : TI w b tb (.slice (some ⟨g, 0, none⟩) n cap) v2 rs ps W) (j : Nat) (hj : j < rs.length) (d : Value) (zs : List Int) {row : Option Nat} (hg : W.grownBy W' row) (hrow : ∀ k, row = some k → rs[j].2.2.1.ownBlock = some k) (ho : W'.ownsRow (tb + 1) 2 1 d zs.length (valsZ zs)) (hd : ∃ k, d.ownBlock = some k ∧ (rs[j].2.2.1.ownBlock = some k ∨ W.heap.size ≤ k)) :
    TI w b tb (.slice (some ⟨g, 0, none⟩) n cap) v2 (rs.set j (rs[j].1, rs[j].2.1, d, zs)) ps (W'.setCell ⟨g, j * 3 + 2, none⟩ d) := by
  have hn : n = rs.length := by
    rcases h.st.2 with ⟨e, _⟩ | ⟨_, _, _, e, _⟩
    · cases e
    · cases e; rfl
  subst hn
  have hgl : tb + 1 ≤ g := own_base h.st rfl
  have hb := h.hb
  have ht := h.htb
  have hdj := h.dom rs[j] (List.getElem_mem hj)
  have keep : ∀ k, k < W.heap.size → rs[j].2.2.1.ownBlock ≠ some k → W'.heap[k]? = W.heap[k]? := fun k hk hne => hg.block k hk (fun e => hne (hrow k e.symm))
  have hlo : ∀ k, row = some k → tb + 1 ≤ k := fun k hk => own_base hdj (hrow k hk)
  have hne : ∀ i (hi : i < rs.length), i ≠ j → rs[i].2.2.1.ownBlock ≠ rs[j].2.2.1.ownBlock := fun i hi hij => by
    have := List.pairwise_iff_getElem.1 h.ap
    rcases Nat.lt_or_gt_of_ne hij with l | l
    · exact this i j hi hj l
    · exact (this j i hj hi l).symm
  have st' : W'.ownsRow (tb + 1) 67 3 (.slice (some ⟨g, 0, none⟩) rs.length cap) rs.length (stC rs) := own_keep h.st (fun k hk => keep k (h.st.lt k hk).2 (fun e => own_ne hdj h.st (by decide) e hk))
  have hi' : ∀ i (hi : i < rs.length), i ≠ j → W'.ownsRow (tb + 1) 2 1 rs[i].2.2.1 rs[i].2.2.2.length (valsZ rs[i].2.2.2) := fun i hi hij => own_keep (h.dom rs[i] (List.getElem_mem hi)) (fun k hk => keep k ((h.dom rs[i] (List.getElem_mem hi)).lt k hk).2 (fun e => hne i hi hij (hk.trans e.symm)))
  refine ⟨hb, ht, (h.src.grown hg (fun k hk => by have := hlo k hk; omega)).set g (by omega) _ _, (h.fr.grown hg (fun k hk => by have := hlo k hk; omega)).setHigh g (by omega) _ _, (Below.heap_setCell _ _ _ _ (by show tb ≠ g; omega)).trans ((keep tb h.lt (fun e => by have := own_base hdj e; omega)).trans h.tab), (Below.heap_setCell _ _ _ _ (by show w.heap.size ≠ g; omega)).trans ((keep _ h.rlt (fun e => by have := own_base hdj e; omega)).trans h.rc), ?_, own_keep h.pr (fun i hi => (Below.heap_setCell _ _ _ _ (by show i ≠ g; intro e; subst e; exact own_ne h.pr h.st (by decide) hi rfl)).trans (keep i (h.pr.lt i hi).2 (fun e => own_ne h.pr hdj (by decide) hi e))), fun r' hr' => ?_, ?_⟩
  · rw [List.length_set, stC_dom rs j hj]
    exact own3_set st' _ _
  · have key : ∀ r0 : LSt, W'.ownsRow (tb + 1) 2 1 r0.2.2.1 r0.2.2.2.length (valsZ r0.2.2.2) → (W'.setCell ⟨g, j * 3 + 2, none⟩ d).ownsRow (tb + 1) 2 1 r0.2.2.1 r0.2.2.2.length (valsZ r0.2.2.2) := fun r0 h0 => own_keep h0 (fun i hi => Below.heap_setCell _ _ _ _ (by show i ≠ g; intro e; subst e; exact own_ne h0 st' (by decide) hi rfl))
    obtain ⟨i, hi, rfl⟩ := List.getElem_of_mem hr'
    rw [List.length_set] at hi
    rw [List.getElem_set]
    split
    · exact key _ ho
    · rename_i e; exact key _ (hi' i hi (fun e' => e e'.symm))
  · rw [List.pairwise_iff_getElem]
    intro i k hi hk hik
    rw [List.length_set] at hi hk
    rw [List.getElem_set, List.getElem_set]
    have low : ∀ i (hi : i < rs.length) m, rs[i].2.2.1.ownBlock = some m → m < W.heap.size := fun i hi m hm => ((h.dom rs[i] (List.getElem_mem hi)).lt m hm).2
    obtain ⟨m, hm, hm2⟩ := hd
    have ne' : ∀ i (hi : i < rs.length), i ≠ j → rs[i].2.2.1.ownBlock ≠ d.ownBlock := fun i hi hij e2 => by
      rw [hm] at e2
      rcases hm2 with e3 | e3
      · exact hne i hi hij (e2.trans e3.symm)
      · have := low i hi m e2; omega
    split
    · rename_i e1
      split
      · rename_i e2; omega
      · rename_i e2; exact (ne' k hk (fun e => e2 e.symm)).symm
    · rename_i e1
      split
      · exact ne' i hi (fun e => e1 e.symm)
      · exact List.pairwise_iff_getElem.1 h.ap i k hi hk hik
/-- What a drawn table is. -/
def LtPost (b : Nat) (w : World) (e : Ending) (w' : World) : Prop :=
  ∃ sl cap sl2 cap2 rs ps, e = .returned (TV sl (List.length rs) cap sl2 (List.length ps) cap2) ∧ rs.length ≤ 14 ∧ ps.length ≤ 41 ∧ (∀ p ∈ ps, WfP p) ∧ Src w' b ∧ Only b w w' ∧ ∀ W', w'.heap.size ≤ W'.heap.size → (∀ k, w.heap.size ≤ k → k < w'.heap.size → W'.heap[k]? = w'.heap[k]?) → Sts W' sl rs ∧ Prs W' sl2 ps
theorem TI.fin (h : TI w b tb v1 v2 rs ps W) (hd : ∀ r ∈ rs, r.2.2.2.length ≤ 1048576) : ∃ sl cap sl2 cap2, v1 = .slice sl rs.length cap ∧ v2 = .slice sl2 ps.length cap2 ∧ Src W b ∧ Only b w W ∧ ∀ W', Only b W W' → Sts W' sl rs ∧ Prs W' sl2 ps := by
  have hb := h.hb
  have ht := h.htb
  obtain ⟨sl, cap, e1, -⟩ := own_sts h.st
  obtain ⟨sl2, cap2, e2, -⟩ := own_prs h.pr
  refine ⟨sl, cap, sl2, cap2, e1, e2, h.src.src, h.fr, fun W' ho => ?_⟩
  have s' := own_only h.st ho (by omega)
  have p' := own_only h.pr ho (by omega)
  obtain ⟨sl', cap', e1', hs⟩ := own_sts s'
  obtain ⟨sl2', cap2', e2', hp⟩ := own_prs p'
  rw [e1] at e1'
  rw [e2] at e2'
  cases e1'
  cases e2'
  refine ⟨⟨hs, fun r hr => ?_⟩, hp⟩
  obtain ⟨sd, cd, e, hi⟩ := own_ints (own_only (h.dom r hr) ho (by omega))
  exact ⟨sd, cd, e, hi, hd r hr⟩
end

end Go.Proofs.Ytgfclllfkpblnaa
