/-
  WHAT FnNear ASKS OF CHANNELS: a greater top takes none away; a byte of a text.
-/
import Derived.Test.YtoekggjacifppaaCa
import Derived.Test.YtoekggjacifppaaSb
namespace Go.Proofs.Ytoekggjacifppaa
open Go.RowKit
set_option linter.unusedVariables false

theorem flat_noid (id top : Int) (rs : List LSt) (h : ∀ r ∈ rs, r.1 ≠ id) : rs.flatMap (domF id top) = [] := by
  rw [List.flatMap_eq_nil_iff]
  intro r hr
  unfold domF FF
  rw [if_neg (h r hr)]
theorem rise_pairwise (lo hi : Int) (zs : List Int) (h : InRise lo hi zs) : zs.Pairwise (· < ·) := by
  rw [List.pairwise_iff_getElem]
  intro i j hi hj hij
  have := rise_lt _ _ _ h i j hij hj
  simpa [hi, hj] using this
theorem flat_begins (id top : Int) (rs : List LSt) (hd : rs.Pairwise (fun r s => r.1 < s.1)) (hr : ∀ r ∈ rs, r.2.2.2.Pairwise (· < ·)) :
    (rs.flatMap (domF id (top + 1))).take (rs.flatMap (domF id top)).length = rs.flatMap (domF id top) := by
  induction rs with
  | nil => rfl
  | cons r rs ih =>
    rw [List.pairwise_cons] at hd
    rw [List.flatMap_cons, List.flatMap_cons]
    by_cases e : r.1 = id
    · have hn : ∀ s ∈ rs, s.1 ≠ id := fun s hs => by have := hd.1 s hs; omega
      rw [flat_noid id top rs hn, flat_noid id (top + 1) rs hn, List.append_nil, List.append_nil]
      unfold domF FF
      rw [if_pos e, if_pos e]
      exact filter_begins _ _ (hr r (List.mem_cons_self ..))
    · have e1 : ∀ t, domF id t r = [] := fun t => by unfold domF FF; rw [if_neg e]
      rw [e1, e1, List.nil_append, List.nil_append]
      exact ih hd.2 (fun s hs => hr s (List.mem_cons_of_mem _ hs))
theorem ids_pairwise (rs : List LSt) (ps : List LPr) (h : TabR rs ps) : rs.Pairwise (fun r s => r.1 < s.1) := by
  have := rise_pairwise _ _ _ h.2.2.1
  unfold idsL at this
  rwa [List.pairwise_map] at this
theorem dom_begins (rs : List LSt) (ps : List LPr) (id top : Int) (h : TabR rs ps) : (domA rs ps id (top + 1)).take (domA rs ps id top).length = domA rs ps id top := by
  unfold domA
  rw [if_pos (B_yes h), if_pos (B_yes h)]
  exact flat_begins id top rs (ids_pairwise rs ps h) (fun r hr => rise_pairwise _ _ _ (h.2.1 r hr).2.2)
theorem dom_le8 (rs : List LSt) (ps : List LPr) (id top : Int) (h : TabR rs ps) : (domA rs ps id top).length ≤ 96 := by
  have hf : ∀ l : List LSt, (∀ r ∈ l, r.2.2.2.length ≤ 8) → (l.flatMap (domF id top)).length ≤ 8 * l.length := by
    intro l
    induction l with
    | nil => intro _; simp
    | cons r l ih =>
      intro hl
      rw [List.flatMap_cons, List.length_append, List.length_cons]
      have h1 := ih (fun s hs => hl s (List.mem_cons_of_mem _ hs))
      have h2 := hl r (List.mem_cons_self ..)
      have h3 : (domF id top r).length ≤ r.2.2.2.length := by
        unfold domF FF
        split
        · exact List.length_filter_le _ _
        · simp
      omega
  unfold domA
  rw [if_pos (B_yes h)]
  have := hf rs (fun r hr => (h.2.1 r hr).2.1.2)
  have := h.1
  omega
theorem near_le (rs : List LSt) (ps : List LPr) (id : Int) (h : TabR rs ps) : (nearA rs ps id).length ≤ 40 := by
  have hf : ∀ l : List (Int × Int), (l.flatMap (nearF id)).length ≤ l.length := by
    intro l
    induction l with
    | nil => simp
    | cons r l ih =>
      rw [List.flatMap_cons, List.length_append, List.length_cons]
      have : (nearF id r).length ≤ 1 := by unfold nearF; split; simp; split <;> simp
      omega
  unfold nearA
  rw [if_pos (B_yes h)]
  have := hf (ps.map ends)
  rw [List.length_map] at this
  have := h.1
  omega
theorem Ints.take {w : World} {sl : Option Addr} {zs : List Int} (h : Ints w sl zs) (k : Nat) : Ints w sl (zs.take k) := by
  rcases h with rfl | ⟨c, o, e, hc, h⟩
  · exact .inl (by simp)
  · refine .inr ⟨c, o, e, hc, fun i hi => ?_⟩
    have hi' : i < k ∧ i < zs.length := by simpa [List.length_take, Nat.lt_min] using hi
    rw [h i hi'.2]
    congr 2
    simp [List.getD, hi'.1]

theorem own_intsC {w : World} {B : Nat} {v : Value} {zs : List Int} (h : w.ownsRow B 2 1 v zs.length (valsZ zs)) : ∃ sl cap, v = .slice sl zs.length cap ∧ zs.length ≤ cap ∧ cap ≤ maxLen ∧ Ints w sl zs := by
  by_cases hn : 0 < zs.length
  · obtain ⟨g, cap, rfl, _, hg, h1, h2, hc⟩ := own_cells h hn
    exact ⟨_, _, rfl, h1, h2, .inr ⟨g, 0, rfl, hg, fun i hi => by rw [Nat.zero_add, hc i hi]; simp [valsZ, hi]⟩⟩
  · have e : zs = [] := List.eq_nil_of_length_eq_zero (by omega)
    subst e
    rcases h.2 with ⟨e, h0⟩ | ⟨g, cap, cur, e, _, _, h1, h2, _⟩
    · exact ⟨_, _, e, Nat.le_refl _, Nat.zero_le _, .inl rfl⟩
    · exact ⟨_, _, e, h1, h2, .inl rfl⟩

set_option maxHeartbeats 400000 in
/-- lwAt. -/
theorem lwat_any (sl : Option Addr) (len cap : Nat) (w : World) (hr : RowIn w sl len) :
    Calls Try.prog 17 #[.slice sl len cap, .int .i64 0, .int .i64 8] w fun e w' => ∃ r : Int, e = .returned (.int .i64 r) ∧ 0 ≤ r ∧ r < 8 ∧ Below w.heap.size w w' := by
  have hl := hr.1
  unfold maxLen at hl
  by_cases h : len = 0
  · subst h
    clear hr
    go_enter Try.func17, Try.ntmps17
    go_wp2
    go_ret
    exact ⟨0, rfl, by omega, by omega, Below.refl _ _⟩
  · obtain ⟨c, o, z, rfl, hc, z1, z2, hz⟩ := hr.2 0 (by omega)
    have h' : ((len : Int) == 0) = false := beq_eq_false_iff_ne.2 (by omega)
    have h2 : (len : Int) ≠ 0 := by omega
    have h3 : (0 : Int).tmod (len : Int) = 0 := by simp
    have h4 : (0 : Int) < (len : Int) := by omega
    rw [Nat.add_zero] at hz
    clear hr
    go_enter Try.func17, Try.ntmps17
    go_wp2
    go_ret
    exact ⟨_, rfl, by omega, by omega, Below.refl _ _⟩

end Go.Proofs.Ytoekggjacifppaa
