/-
  A ROW OF PAIRS' ENDS, GATHERED AND SORTED: the thinking, and how the row lies behind the sort.
-/
import Derived.Test.YtgfclllfkpblnaaAi
namespace Go.Proofs.Ytgfclllfkpblnaa
open Go.RowKit Go.Maps
set_option linter.unusedVariables false

def encE (x : Int × Int) : List Value := [.int .i64 x.1, .int .i64 x.2]
def enCells (ks : List (Int × Int)) : List Value := ks.flatMap encE
theorem enCells_len (ks : List (Int × Int)) : (enCells ks).length = ks.length * 2 := by
  induction ks with
  | nil => rfl
  | cons a r ih => rw [show enCells (a :: r) = encE a ++ enCells r from rfl, List.length_append, ih]; simp [encE]; omega
theorem enCells_add (ks : List (Int × Int)) (x : Int × Int) : enCells (ks ++ [x]) = enCells ks ++ [.int .i64 x.1, .int .i64 x.2] := by simp [enCells, encE]
theorem enCells_at (ks : List (Int × Int)) (i : Nat) (h : i < ks.length) : (enCells ks)[i * 2]? = some (.int .i64 ks[i].1) ∧ (enCells ks)[i * 2 + 1]? = some (.int .i64 ks[i].2) := by
  induction ks generalizing i with
  | nil => simp at h
  | cons a r ih =>
    cases i with
    | zero => simp [enCells, encE]
    | succ i =>
      have := ih i (by simpa using h)
      rw [show (i + 1) * 2 = i * 2 + 2 by omega, show i * 2 + 2 + 1 = (i * 2 + 1) + 2 by omega]
      simpa [enCells, encE] using this
open Go.Sort in
theorem flat_toList (ks : List (Int × Int)) : (flatK encE 2 ks.toArray).toList = enCells ks := by
  apply List.ext_getElem?
  intro t
  by_cases h : t < ks.length * 2
  · have hq : t / 2 < ks.length := by omega
    have h1 := enCells_at ks (t / 2) hq
    have hg : (flatK encE 2 ks.toArray)[t]? = some ((encE (ks.toArray)[t / 2]!)[t % 2]!) := by
      have hs : t < (flatK encE 2 ks.toArray).size := by simpa using h
      rw [Array.getElem?_eq_getElem hs, ← getElem!_pos _ t hs, get_flatK _ _ _ _ (by simpa using h)]
    rw [Array.getElem?_toList, hg]
    have he : (ks.toArray)[t / 2]! = ks[t / 2] := by simp [hq]
    rw [he]
    rcases Nat.mod_two_eq_zero_or_one t with e | e
    · rw [show (enCells ks)[t]? = (enCells ks)[t / 2 * 2]? by congr 1; omega, h1.1, e]; rfl
    · rw [show (enCells ks)[t]? = (enCells ks)[t / 2 * 2 + 1]? by congr 1; omega, h1.2, e]; rfl
  · rw [List.getElem?_eq_none (by simp; omega), List.getElem?_eq_none (by rw [enCells_len]; omega)]
open Go.Sort in
theorem holdsE {B : Nat} {w : World} {g n cap : Nat} {ks : List (Int × Int)} (h : w.ownsRow B 83 2 (.slice (some ⟨g, 0, none⟩) n cap) n (enCells ks)) (hn : n = ks.length) : HoldsK encE 2 w g 0 ks.toArray := by
  subst hn
  intro j hj
  have hj' : j < ks.length * 2 := by simpa using hj
  have hc := h.cellAt j hj'
  rw [← flat_toList] at hc
  rw [Nat.zero_add, hc]
  refine ⟨?_, ?_⟩
  · rw [Array.getElem?_toList, Array.getElem?_eq_getElem hj, ← getElem!_pos _ j hj]; rfl
  · rcases h.2 with ⟨h0, _⟩ | ⟨g', cap', cur, hv, _, hb, _⟩
    · cases h0
    · cases hv; simp [World.frozen?, hb]
open Go.Sort in
theorem sorted_own {B : Nat} {w : World} {g cap m : Nat} {os : Array Obj} {ks ks' : List (Int × Int)} (h : w.ownsRow B 83 2 (.slice (some ⟨g, 0, none⟩) ks.length cap) ks.length (enCells ks)) (hl : ks'.length = ks.length) :
    (sortWorldK encE 2 w g 0 m ks'.toArray os).ownsRow B 83 2 (.slice (some ⟨g, 0, none⟩) ks.length cap) ks.length (enCells ks') ∧ w.grownBy (sortWorldK encE 2 w g 0 m ks'.toArray os) (some g) := by
  rcases h.2 with ⟨h0, _⟩ | ⟨g', cap', cur, hv, hbase, hb, h1, h2, h3, h4⟩
  · cases h0
  · cases hv
    have hg : g < w.heap.size := (Array.getElem?_eq_some_iff.1 hb).1
    have hheap : (sortWorldK encE 2 w g 0 m ks'.toArray os).heap[g]? = some (.cells (putCells id 0 (flatK encE 2 ks'.toArray) cur) 83 (0, 0)) := by
      unfold sortWorldK putRowK
      rw [heap_grow_old _ _ (by simpa using hg)]
      simp [putRow, mapBlock, Sort.ahead, Array.getElem?_modify, hb, onCells]
    refine ⟨⟨by rw [enCells_len, hl], .inr ⟨g, cap, _, rfl, hbase, hheap, h1, h2, by simp [putCells, h3], ?_⟩⟩, ⟨rfl, rfl, rfl, by simp [sortWorldK, putRowK], fun k hk hne => ?_⟩⟩
    · have hs : (flatK encE 2 ks'.toArray).size = ks.length * 2 := by simp [hl]
      rw [← flat_toList]
      apply List.ext_getElem?
      intro j
      by_cases hj : j < ks.length * 2
      · rw [List.getElem?_take_of_lt hj, Array.getElem?_toList, Array.getElem?_toList]
        have hjf : j < (flatK encE 2 ks'.toArray).size := by omega
        rw [Array.getElem?_eq_getElem hjf, ← getElem!_pos _ j hjf]
        simp [putCells, hl, hj, show j < cur.size by omega]
      · rw [List.getElem?_take_eq_none (by omega), List.getElem?_eq_none (by simp; omega)]
    · unfold sortWorldK putRowK
      rw [heap_grow_old _ _ (by simpa using hk)]
      have : g ≠ k := fun e => hne (by rw [e])
      simp [putRow, mapBlock, Sort.ahead, Array.getElem?_modify, this]
open Go.Sort in
/-- Sorted, and no two the same: rising. -/
theorem rising_of {d d' : Array (Int × Int)} (hp : PermIn 0 d.size d d') (hs : SortedIn (ltOf cmpE) 0 d.size d') (hn : d.toList.Nodup) : d'.toList.Pairwise Lt2 ∧ d'.toList.Perm d.toList := by
  obtain ⟨h1, h2, h3⟩ := hp
  have hperm : d'.toList.Perm d.toList := by
    have e1 : d'.extract 0 d.size = d' := by rw [← h1]; simp
    have e2 : d.extract 0 d.size = d := by simp
    rwa [e1, e2] at h3
  refine ⟨?_, hperm⟩
  have hnd : d'.toList.Nodup := hperm.nodup_iff.2 hn
  rw [List.pairwise_iff_getElem]
  intro i j hi hj hij
  have hi' : i < d'.size := by simpa using hi
  have hj' : j < d'.size := by simpa using hj
  have hne : d'.toList[i] ≠ d'.toList[j] := by
    have := List.pairwise_iff_getElem.1 hnd i j hi hj hij
    exact this
  have hlt := hs i j (Nat.zero_le _) hij (by omega)
  rw [getElem!_pos d' j hj', getElem!_pos d' i hi'] at hlt
  have hno : ¬ Lt2 d'[j] d'[i] := fun e => by have := (ltOf_cmpE _ _).2 e; rw [hlt] at this; cases this
  simp only [Array.getElem_toList] at hne ⊢
  rcases Lt2.tri hne with h | h
  · exact h
  · exact absurd h hno

/-- The keys met so far. -/
structure Coll (D : DataW Unit) (left : Lit → Bool) (ks : List (Int × Int)) : Prop where
  nd : ks.Nodup
  wf : ∀ x ∈ ks, wfI x.1 ∧ wfI x.2
  mem : ∀ x, wfI x.1 ∧ wfI x.2 → (x ∈ ks ↔ Maps.has D (kOf x) = true ∧ left (kOf x) = false)
theorem Coll.start (D : DataW Unit) : Coll D (Maps.has D) [] := ⟨List.nodup_nil, fun x hx => absurd hx (by simp), fun x hx => (by simp)⟩
theorem Coll.step {D : DataW Unit} {left : Lit → Bool} {ks : List (Int × Int)} (h : Coll D left ks) {x : Int × Int} (hx : wfI x.1 ∧ wfI x.2) (hl : left (kOf x) = true) (hh : Maps.has D (kOf x) = true) : Coll D (fun z => left z && !z.sameKey (kOf x)) (ks ++ [x]) := by
  have hnx : x ∉ ks := fun hm => by have := ((h.mem x hx).1 hm).2; rw [hl] at this; cases this
  refine ⟨?_, fun y hy => ?_, fun y hy => ?_⟩
  · rw [List.nodup_append]
    refine ⟨h.nd, by simp, fun a ha b hb => ?_⟩
    simp at hb; subst hb
    exact fun e => hnx (e ▸ ha)
  · rcases List.mem_append.1 hy with hy | hy
    · exact h.wf y hy
    · simp at hy; rw [hy]; exact hx
  · by_cases e : y = x
    · subst e
      simp [hh, WideAt.sameKey_self (kOf_key y hy)]
    · have ne : kOf y ≠ kOf x := fun e' => e (kOf_inj hy hx e')
      rw [List.mem_append, h.mem y hy, sameKey_ne ne]
      simp [e]
end Go.Proofs.Ytgfclllfkpblnaa
