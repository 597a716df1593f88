/-
  A STATION'S NEIGHBOURS: the thinking.
-/
import Derived.Test.YtoekggjacifppaaAx
namespace Go.Proofs.Ytoekggjacifppaa
open Go.RowKit
set_option linter.unusedVariables false

/-- What a pair says of the neighbours of id. -/
def nearF (id : Int) (e : Int × Int) : List Int := if e.2 = id then [e.1] else if e.1 = id then [e.2] else []
noncomputable def nearA (rs : List LSt) (ps : List LPr) (id : Int) : List Int := if B (TabR rs ps) = true then (ps.map ends).flatMap (nearF id) else []
/-- A pair joins id and o. -/
def Join (id o : Int) (p : LPr) : Prop := (p.1 = id ∧ p.2.1 = o) ∨ (p.2.1 = id ∧ p.1 = o)
noncomputable def joinF (id o : Int) (p : LPr) : List Int := if B (Join id o p) = true then [o] else []
noncomputable def joinL (id : Int) (ps : List LPr) (r : LSt) : List Int := ps.flatMap (joinF id r.1)

theorem ints_unique : ∀ {l m : List Int}, l.Pairwise (· < ·) → m.Pairwise (· < ·) → (∀ x, x ∈ l ↔ x ∈ m) → l = m := by
  intro l
  induction l with
  | nil => intro m _ _ h; cases m with
    | nil => rfl
    | cons b m => exact absurd ((h b).2 (by simp)) (by simp)
  | cons a l ih =>
    intro m hl hm h
    cases m with
    | nil => exact absurd ((h a).1 (by simp)) (by simp)
    | cons b m =>
      rw [List.pairwise_cons] at hl hm
      have e : a = b := by
        have h1 := (h a).1 (by simp)
        have h2 := (h b).2 (by simp)
        simp only [List.mem_cons] at h1 h2
        rcases h1 with h1 | h1
        · exact h1
        · rcases h2 with h2 | h2
          · exact h2.symm
          · have := hl.1 b h2; have := hm.1 a h1; omega
      subst e
      congr 1
      refine ih hl.2 hm.2 (fun x => ⟨fun hx => ?_, fun hx => ?_⟩)
      · have := (h x).1 (by simp [hx])
        simp only [List.mem_cons] at this
        rcases this with rfl | this
        · have := hl.1 x hx; omega
        · exact this
      · have := (h x).2 (by simp [hx])
        simp only [List.mem_cons] at this
        rcases this with rfl | this
        · have := hm.1 x hx; omega
        · exact this
theorem mem_near (id x : Int) (e : Int × Int) (he : e.1 < e.2) : x ∈ nearF id e ↔ (e.2 = id ∧ x = e.1) ∨ (e.1 = id ∧ x = e.2) := by
  unfold nearF
  split
  · simp; omega
  · split
    · simp; omega
    · simp; omega
theorem mem_join (id o x : Int) (p : LPr) : x ∈ joinF id o p ↔ Join id o p ∧ x = o := by
  unfold joinF
  by_cases h : Join id o p
  · rw [B_yes h, if_pos rfl]; simp [h]
  · rw [B_no h, if_neg (by simp)]; simp [h]
theorem near_len (id : Int) (e : Int × Int) : (nearF id e).length ≤ 1 := by
  unfold nearF
  split
  · simp
  · split <;> simp
theorem join_len (id o : Int) (p : LPr) : (joinF id o p).length ≤ 1 := by
  unfold joinF
  split <;> simp
theorem near_rises (id : Int) (ks : List (Int × Int)) (h : ks.Pairwise Lt2) (hk : ∀ e ∈ ks, e.1 < e.2) : (ks.flatMap (nearF id)).Pairwise (· < ·) := by
  rw [List.pairwise_flatMap]
  refine ⟨fun e he => ?_, ?_⟩
  · unfold nearF
    split
    · simp
    · split <;> simp
  · refine h.imp_of_mem ?_
    intro a b ha hb hab x hx y hy
    have h1 := hk a ha
    have h2 := hk b hb
    rw [mem_near id x a h1] at hx
    rw [mem_near id y b h2] at hy
    unfold Lt2 at hab
    omega
theorem join_rises (id : Int) (rs : List LSt) (ps : List LPr) (h : TabR rs ps) : (rs.flatMap (joinL id ps)).Pairwise (· < ·) := by
  have hr := rise_lt _ _ _ h.2.2.1
  rw [List.pairwise_flatMap]
  refine ⟨fun r hr => ?_, ?_⟩
  · unfold joinL
    rw [List.pairwise_flatMap]
    refine ⟨fun p hp => ?_, ?_⟩
    · unfold joinF
      split <;> simp
    · have hs : (ps.map ends).Pairwise Lt2 := h.2.2.2.2
      rw [List.pairwise_map] at hs
      refine hs.imp_of_mem ?_
      intro a b ha hb hab x hx y hy
      rw [mem_join] at hx hy
      have h1 := (h.2.2.2.1 a ha).1
      have h2 := (h.2.2.2.1 b hb).1
      unfold Join at hx hy
      unfold Lt2 ends at hab
      dsimp only at hab
      omega
  · rw [List.pairwise_iff_getElem]
    intro i j hi hj hij x hx y hy
    have := hr i j hij (by rw [idsL_len]; exact hj)
    rw [idsL_get rs i hi, idsL_get rs j hj] at this
    unfold joinL at hx hy
    rw [List.mem_flatMap] at hx hy
    obtain ⟨p, _, hx⟩ := hx
    obtain ⟨q, _, hy⟩ := hy
    rw [mem_join] at hx hy
    omega
theorem near_mem (id x : Int) (rs : List LSt) (ps : List LPr) (h : TabR rs ps) : x ∈ (ps.map ends).flatMap (nearF id) ↔ ∃ p ∈ ps, (p.2.1 = id ∧ x = p.1) ∨ (p.1 = id ∧ x = p.2.1) := by
  rw [List.mem_flatMap]
  constructor
  · rintro ⟨e, he, hx⟩
    obtain ⟨p, hp, rfl⟩ := List.mem_map.1 he
    exact ⟨p, hp, (mem_near id x (ends p) (h.2.2.2.1 p hp).1).1 hx⟩
  · rintro ⟨p, hp, hx⟩
    exact ⟨ends p, List.mem_map.2 ⟨p, hp, rfl⟩, (mem_near id x (ends p) (h.2.2.2.1 p hp).1).2 hx⟩
/-- Both ways of gathering the neighbours come to one list. -/
theorem near_join (id : Int) (rs : List LSt) (ps : List LPr) (h : TabR rs ps) : (ps.map ends).flatMap (nearF id) = rs.flatMap (joinL id ps) := by
  refine ints_unique (near_rises id _ h.2.2.2.2 (fun e he => ?_)) (join_rises id rs ps h) (fun x => ?_)
  · obtain ⟨p, hp, rfl⟩ := List.mem_map.1 he
    exact (h.2.2.2.1 p hp).1
  · rw [near_mem id x rs ps h, List.mem_flatMap]
    constructor
    · rintro ⟨p, hp, hx⟩
      obtain ⟨_, _, m1, m2⟩ := h.2.2.2.1 p hp
      have hm : x ∈ idsL rs := by rcases hx with ⟨_, rfl⟩ | ⟨_, rfl⟩ <;> assumption
      obtain ⟨r, hr, e⟩ := List.mem_map.1 hm
      refine ⟨r, hr, ?_⟩
      unfold joinL
      rw [List.mem_flatMap]
      refine ⟨p, hp, (mem_join _ _ _ _).2 ⟨?_, e.symm⟩⟩
      unfold Join
      omega
    · rintro ⟨r, hr, hx⟩
      unfold joinL at hx
      rw [List.mem_flatMap] at hx
      obtain ⟨p, hp, hx⟩ := hx
      rw [mem_join] at hx
      refine ⟨p, hp, ?_⟩
      unfold Join at hx
      omega
theorem near_none (id : Int) (rs : List LSt) (ps : List LPr) (h : TabR rs ps) (hm : id ∉ idsL rs) : (ps.map ends).flatMap (nearF id) = [] := by
  rw [List.eq_nil_iff_forall_not_mem]
  intro x hx
  rw [near_mem id x rs ps h] at hx
  obtain ⟨p, hp, hx⟩ := hx
  obtain ⟨_, _, m1, m2⟩ := h.2.2.2.1 p hp
  rcases hx with ⟨e, _⟩ | ⟨e, _⟩
  · rw [e] at m2; exact hm m2
  · rw [e] at m1; exact hm m1

end Go.Proofs.Ytoekggjacifppaa
