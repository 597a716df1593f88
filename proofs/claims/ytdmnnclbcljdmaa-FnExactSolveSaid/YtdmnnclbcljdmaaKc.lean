/-
  IS A TRAIL RIGHT? Both sides.
-/
import Derived.Test.YtdmnnclbcljdmaaKb
namespace Go.Proofs.Ytdmnnclbcljdmaa
open Go.RowKit
set_option linter.unusedVariables false

theorem pig : ∀ (n : Nat) (l : List Nat), l.Nodup → (∀ x ∈ l, 1 ≤ x ∧ x ≤ n) → l.length ≤ n
  | 0, l, _, h => by
    cases l with
    | nil => simp
    | cons a r => have := h a (by simp); omega
  | n + 1, l, hd, h => by
    by_cases hm : n + 1 ∈ l
    · have h1 := pig n (l.erase (n + 1)) (hd.erase _) (fun x hx => by
        have h2 := (hd.mem_erase_iff).1 hx
        have := h x h2.2
        have := h2.1
        omega)
      rw [List.length_erase_of_mem hm] at h1
      omega
    · have := pig n l hd (fun x hx => by
        have h2 := h x hx
        have : x ≠ n + 1 := fun e => hm (e ▸ hx)
        omega)
      omega
theorem SpTo.short {vars : Int} {zs : List Int} (h : SpTo vars zs zs.length) (hv : vars ≤ 96) : zs.length ≤ 96 := by
  have h1 : (zs.map Int.natAbs).Nodup := by
    rw [List.nodup_iff_pairwise_ne, List.pairwise_iff_getElem]
    intro i j hi hj hij e
    simp only [List.length_map] at hi hj
    simp only [List.getElem_map] at e
    have g := (h j hj).2 i hij
    simp only [List.getD_eq_getElem?_getD, hi, hj, List.getElem?_eq_getElem, Option.getD_some] at g
    rcases Int.natAbs_eq_natAbs_iff.1 e with e | e
    · exact g.1 e
    · exact g.2 e
  have h2 := pig 96 _ h1 (fun x hx => by
    obtain ⟨z, hz, rfl⟩ := List.mem_map.1 hx
    obtain ⟨i, hi, rfl⟩ := List.getElem_of_mem hz
    have g := (h i hi).1
    simp only [List.getD_eq_getElem?_getD, hi, List.getElem?_eq_getElem, Option.getD_some] at g
    obtain ⟨g1, g2, g3⟩ := g
    omega)
  simpa using h2
theorem clS_iff {vars : Int} {zs : List Int} (hv : vars ≤ 96) : ClS vars 96 zs ↔ SpTo vars zs zs.length := ⟨fun h => h.2, fun h => ⟨h.short hv, h⟩⟩

/-- spec.l06Clause, as wide as there are variables. -/
theorem l06_wide (vars : Int) (sl : Option Addr) (cap : Nat) (zs : List Int) (w : World) (hv0 : 0 ≤ vars) (hv1 : vars ≤ 96) (hn : zs.length ≤ 1048576) (hz : Ints w sl zs) :
    Calls Try.prog 49 #[.int .i64 vars, .slice sl zs.length cap, .int .i64 96] w fun e w' => e = .returned (.bool (B (SpTo vars zs zs.length))) ∧ Below w.heap.size w w' := by
  rw [← B_iff (clS_iff hv1)]
  rcases hz with rfl | ⟨c, o, rfl, h⟩
  · rw [B_yes (p := ClS vars 96 []) ⟨by simp, fun i hi => by simp at hi⟩]
    exact l06_nil vars sl cap 96 w
  · exact l06_some vars c o cap 96 zs w hv0 hv1 hn h

/-- A trail, for right clauses. -/
def TrR (vars : Int) (css : List (List Int)) (ts : List Int) : Prop := ts.length ≤ 400 ∧ CnfR vars css ∧ SpTo vars ts ts.length


/-- Storing what lies there. -/
theorem put_same (w : World) (h : w.heap.size = w.heap.size) : ∀ W, W = w.alloc (.cells Try.zeroCells61 61) → Sem.run Try.prog (storeCells ⟨w.heap.size, 0, none⟩ Try.zeroCells61.toList) W = .ok () W := by
  rintro W rfl
  have hb : (w.alloc (.cells Try.zeroCells61 61)).heap[w.heap.size]? = some (.cells Try.zeroCells61 61) := new_at _ _
  have hone : ∀ v ∈ Try.zeroCells61.toList, v.oneCell' = true := by
    have : (Try.zeroCells61.toList.all fun v => v.oneCell') = true := by kernel_rfl
    exact fun v hv => List.all_eq_true.1 this v hv
  have key : ∀ (vs : List Value) (o : Nat) (W : World) (us : Array Value), W.heap[w.heap.size]? = some (.cells us 61) → (∀ k, k < vs.length → us[o + k]? = vs[k]?) → W.setCells w.heap.size o vs = W := by
    intro vs
    induction vs with
    | nil => intro o W us _ _; rfl
    | cons v r ih =>
      intro o W us h1 h2
      have e0 := h2 0 (by simp)
      simp only [Nat.add_zero, List.getElem?_cons_zero] at e0
      have e1 : W.setCell ⟨w.heap.size, o, none⟩ v = W := by
        have hs : us.setIfInBounds o v = us := by
          apply Array.ext
          · simp
          · intro i a1 a2
            simp only [Array.size_setIfInBounds] at a1
            rw [Array.getElem_setIfInBounds a1]
            by_cases hi : o = i
            · subst hi
              rw [if_pos rfl]
              rw [Array.getElem?_eq_getElem a2] at e0
              exact (Option.some.inj e0).symm
            · rw [if_neg hi]
        have hlt := (Array.getElem?_eq_some_iff.1 h1)
        obtain ⟨hl, hg⟩ := hlt
        have hh : (W.setCell ⟨w.heap.size, o, none⟩ v).heap = W.heap := by
          apply Array.ext_getElem?
          intro i
          by_cases hi : i = w.heap.size
          · subst hi
            rw [heap_setCell_same W _ o us 61 v h1, hs, h1]
          · exact heap_setCell_other W ⟨w.heap.size, o, none⟩ i v hi
        have : ∀ (A : World) (h : Array Obj), h = A.heap → { A with heap := h } = A := fun A h e => by subst e; rfl
        exact this W _ hh
      rw [World.setCells, e1]
      exact ih (o + 1) W us h1 (fun k hk => by
        have := h2 (k + 1) (by simp; omega)
        rw [show o + 1 + k = o + (k + 1) by omega, this]; simp)
  generalize w.alloc (.cells Try.zeroCells61 61) = W1 at *
  generalize w.heap.size = b at *
  have hr := run_storeCells_cells (P := Try.prog) b 0 Try.zeroCells61.toList 0 W1 (fun j hj => by simp at hj; simp [World.cell?, hb, hj]) (fun j hj => by simp [World.frozen?, hb]) hone
  rw [hr, key Try.zeroCells61.toList (0 + 0) _ Try.zeroCells61 hb (fun k hk => by simp)]


end Go.Proofs.Ytdmnnclbcljdmaa
