/-
  TRUES MAKE THE CLAUSES OF A TABLE TRUE JUST IF THEY ARE THOSE OF A RIGHT PLAN, as lists.
-/
import Derived.Test.YtaogkdhloogmhaaHak
namespace Go.Proofs.Ytaogkdhloogmhaa
open Go.RowKit
set_option linter.unusedVariables false

theorem up_ext : ∀ (a b : List Int), a.Pairwise (· < ·) → b.Pairwise (· < ·) → (∀ x, x ∈ a ↔ x ∈ b) → a = b
  | [], [], _, _, _ => rfl
  | [], y :: s, _, _, h => by have := (h y).2 (by simp); cases this
  | x :: r, [], _, _, h => by have := (h x).1 (by simp); cases this
  | x :: r, y :: s, ha, hb, h => by
    rw [List.pairwise_cons] at ha hb
    have e : x = y := by
      rcases List.mem_cons.1 ((h x).1 (by simp)) with g | g
      · exact g
      · rcases List.mem_cons.1 ((h y).2 (by simp)) with g' | g'
        · exact g'.symm
        · have := hb.1 x g
          have := ha.1 y g'
          omega
    subst e
    rw [up_ext r s ha.2 hb.2 (fun z => ?_)]
    constructor
    · intro hz
      rcases List.mem_cons.1 ((h z).1 (by simp [hz])) with g | g
      · have := ha.1 z hz; omega
      · exact g
    · intro hz
      rcases List.mem_cons.1 ((h z).2 (by simp [hz])) with g | g
      · have := hb.1 z hz; omega
      · exact g
theorem rise_all {hi : Int} {ts : List Int} (h : InRise 1 hi ts) : ts.Pairwise (· < ·) ∧ ∀ t ∈ ts, 1 ≤ t ∧ t ≤ hi := by
  refine ⟨?_, fun t ht => ?_⟩
  · rw [List.pairwise_iff_getElem]
    intro i j hi' hj hij
    have := rise_lt ts 1 hi h i j hij hj
    simpa [hi', hj] using this
  · obtain ⟨i, hi', rfl⟩ := List.getElem_of_mem ht
    have := (h i hi').1
    simpa [hi'] using this
theorem V_in {rs : List LSt} {top : Int} {ids : List Int} {p : LPl} (h : p ∈ plF rs top ids) : p.1 ∈ ids ∧ p.2 ∈ rs.flatMap (domF p.1 top) := by
  unfold plF at h
  obtain ⟨id, hid, hp⟩ := List.mem_flatMap.1 h
  unfold chF at hp
  obtain ⟨c, hc, rfl⟩ := List.mem_map.1 hp
  exact ⟨hid, hc⟩
theorem V_up (rs : List LSt) (top : Int) {ids : List Int} (hi : ids.Pairwise (· < ·)) : (plF rs top ids).Pairwise (fun x y => x.1 ≤ y.1) := by
  unfold plF
  rw [List.pairwise_flatMap]
  refine ⟨fun id _ => ?_, hi.imp (fun {a b} hab x hx y hy => ?_)⟩
  · unfold chF
    rw [List.pairwise_map]
    exact List.pairwise_of_forall (fun _ _ => Int.le_refl _)
  · unfold chF at hx hy
    obtain ⟨c, _, rfl⟩ := List.mem_map.1 hx
    obtain ⟨d, _, rfl⟩ := List.mem_map.1 hy
    show a ≤ b
    omega
/-- The place of a variable. -/
theorem po_at {V : List LPl} {t : Int} (h : 1 ≤ t ∧ t ≤ V.length) : ∃ hm : (t - 1).toNat < V.length, V.getD (t - 1).toNat (0, 0) = V[(t - 1).toNat] := by
  have hm : (t - 1).toNat < V.length := by omega
  exact ⟨hm, by rw [List.getD_eq_getElem?_getD, List.getElem?_eq_getElem hm]; rfl⟩
/-- The trues of the plan that trues lead to are these. -/
theorem tr_back {rs : List LSt} {ps : List LPr} {top : Int} {ids ts : List Int} (h : IdsR rs ps ids) (hr : InRise 1 (plF rs top ids).length ts) : trK (poP (plF rs top ids) ts) (plF rs top ids) (plF rs top ids).length = ts := by
  obtain ⟨hup, hb⟩ := rise_all hr
  have hne := plF_ne top ids h.2.1 (ids_pair h)
  rw [List.pairwise_iff_getElem] at hne
  refine up_ext _ _ (tr_up _ _ _) hup (fun v => ?_)
  rw [tr_mem]
  constructor
  · rintro ⟨m, hm, rfl, hp⟩
    unfold poP at hp
    obtain ⟨t, ht, e⟩ := List.mem_map.1 hp
    obtain ⟨hm', e'⟩ := po_at (hb t ht)
    rw [e'] at e
    have : (t - 1).toNat = m := by
      rcases Nat.lt_trichotomy (t - 1).toNat m with g | g | g
      · exact absurd e (hne _ _ hm' hm g)
      · exact g
      · exact absurd e.symm (hne _ _ hm hm' g)
    have hb' := hb t ht
    rwa [show (m : Int) + 1 = t by omega]
  · intro hv
    have hb' := hb v hv
    obtain ⟨hm', e'⟩ := po_at hb'
    refine ⟨(v - 1).toNat, hm', by omega, ?_⟩
    unfold poP
    exact List.mem_map.2 ⟨v, hv, e'⟩
theorem fF_true {ts : List Int} {zss : List (List Int)} (h : fF ts zss = -1) : ∀ k, k ≤ zss.length → TrTo ts zss k
  | 0, _ => TrTo.zero ts zss
  | k + 1, hk => by
    have ih := fF_true h k (by omega)
    by_cases g : ClT ts (zss.getD k [])
    · exact ih.step g
    · have := fF_at (k := k) ⟨by omega, ih, g⟩
      omega
theorem fC_all {vars : Int} {zss : List (List Int)} {ts : List Int} (h : fC vars zss ts = -1) : ts.length ≤ 400 ∧ InRise 1 vars ts ∧ ∀ zs ∈ zss, ClT ts zs := by
  by_cases h1 : 400 < ts.length
  · rw [fC_long h1] at h; omega
  by_cases h2 : CnfR vars zss ∧ InRise 1 vars ts
  · rw [fC_yes h1 h2] at h
    refine ⟨by omega, h2.2, fun zs hz => ?_⟩
    obtain ⟨i, hi, rfl⟩ := List.getElem_of_mem hz
    have := fF_true h zss.length (Nat.le_refl _) i hi
    simpa [List.getD_eq_getElem?_getD, hi] using this
  · rw [fC_no h1 h2] at h; omega
theorem twoS_in : ∀ (l : List LNb) (i j : Nat) (hi : i < l.length) (hj : j < l.length), i < j → l[i].1.1 = l[j].1.1 → [-l[i].2, -l[j].2] ∈ twoS l
  | [], i, j, hi, _, _, _ => by simp at hi
  | x :: r, 0, j, hi, hj, hij, e => by
    obtain ⟨j, rfl⟩ : ∃ k, j = k + 1 := ⟨j - 1, by omega⟩
    simp only [List.getElem_cons_zero, List.getElem_cons_succ] at e ⊢
    unfold twoS
    refine List.mem_append_left _ (List.mem_map.2 ⟨r[j]'(by simpa using hj), ?_, rfl⟩)
    unfold ofId
    exact List.mem_filter.2 ⟨List.getElem_mem _, by simp [e]⟩
  | x :: r, i + 1, j, hi, hj, hij, e => by
    obtain ⟨j, rfl⟩ : ∃ k, j = k + 1 := ⟨j - 1, by omega⟩
    simp only [List.getElem_cons_succ] at e ⊢
    unfold twoS
    exact List.mem_append_right _ (twoS_in r i j (by simpa using hi) (by simpa using hj) (by omega) e)
theorem not_both {ts : List Int} {x y : Int} (hx : 0 < x ∧ x ≤ 100000) (hy : 0 < y ∧ y ≤ 100000) (h : ClT ts [-x, -y]) : ¬ (x ∈ ts ∧ y ∈ ts) := by
  rintro ⟨g1, g2⟩
  obtain ⟨z, hz, e⟩ := h
  simp only [List.mem_cons, List.not_mem_nil, or_false] at hz
  rcases hz with rfl | rfl
  · rw [lv_neg hx.1 hx.2] at e; have := e.1 g1; omega
  · rw [lv_neg hy.1 hy.2] at e; have := e.1 g2; omega
theorem may_pair : ∀ (ps : List LPr) (a c b d : Int), mayL ps a c b d = false → ∃ q ∈ ps, (q.1 = a ∧ q.2.1 = b) ∨ (q.1 = b ∧ q.2.1 = a)
  | [], a, c, b, d, h => by simp [mayL] at h
  | p :: r, a, c, b, d, h => by
    unfold mayL at h
    split at h
    · rename_i g; exact ⟨p, by simp, g⟩
    · obtain ⟨q, hq, g⟩ := may_pair r a c b d h
      exact ⟨q, by simp [hq], g⟩
/-- Trues that make the clauses true lead to a right plan of just these stations. -/
theorem true_plan {rs : List LSt} {ps : List LPr} {top : Int} {ids ts : List Int} (h : IdsR rs ps ids) (hf : fC (cnN rs ps top ids : Nat) (cnA rs ps top ids) ts = -1) : PoOK rs ps top ids ts ∧ PlanOk rs ps top (poP (plF rs top ids) ts) := by
  have hN : cnN rs ps top ids = (plF rs top ids).length := by unfold cnN; rw [B_yes h]; rfl
  obtain ⟨hl, hr, ht⟩ := fC_all hf
  rw [hN] at hr
  rw [cnA_spec top h] at ht
  have h96 := plF_96 top ids h
  obtain ⟨hup, hb⟩ := rise_all hr
  have hids := ids_pair h
  have hV := V_up rs top hids
  have hin : ∀ p ∈ plF rs top ids, p.1 ∈ ids ∧ p.2 ∈ rs.flatMap (domF p.1 top) := fun p hp => V_in hp
  generalize hVe : plF rs top ids = V at *
  have nbl : (nbF 0 V).length = V.length := nbF_len V 0
  have nba : ∀ m (hm : m < V.length), (nbF 0 V)[m]'(by omega) = (V[m], (m : Int) + 1) := fun m hm => by rw [nbF_at V 0 m hm]; simp
  -- each station has one
  have own : ∀ id ∈ ids, ∃ m, ∃ hm : m < V.length, V[m].1 = id ∧ (m : Int) + 1 ∈ ts := fun id hid => by
    obtain ⟨z, hz, e⟩ := ht (ownA V id) (List.mem_append_left _ (List.mem_map.2 ⟨id, hid, rfl⟩))
    unfold ownA ofId at hz
    obtain ⟨x, hx, rfl⟩ := List.mem_map.1 hz
    obtain ⟨hx1, hx2⟩ := List.mem_filter.1 hx
    obtain ⟨m, hm, rfl⟩ := nb_mem hx1
    have e1 : V[m].1 = id := by simpa using hx2
    rw [lv_pos (by show 0 < (m : Int) + 1; omega) (by show (m : Int) + 1 ≤ 100000; omega)] at e
    exact ⟨m, hm, e1, e.2 (by show 0 < (m : Int) + 1; omega)⟩
  -- and no two
  have two : ∀ i j (hi : i < V.length) (hj : j < V.length), i < j → (i : Int) + 1 ∈ ts → (j : Int) + 1 ∈ ts → V[i].1 ≠ V[j].1 := fun i j hi hj hij h1 h2 e => by
    have hc := twoS_in (nbF 0 V) i j (by omega) (by omega) hij (by rw [nba i hi, nba j hj]; exact e)
    rw [nba i hi, nba j hj] at hc
    exact not_both ⟨by omega, by omega⟩ ⟨by omega, by omega⟩ (ht _ (List.mem_append_right _ (List.mem_append_left _ hc))) ⟨h1, h2⟩
  have pat : ∀ t ∈ ts, ∃ hm : (t - 1).toNat < V.length, V.getD (t - 1).toNat (0, 0) = V[(t - 1).toNat] ∧ (((t - 1).toNat : Nat) : Int) + 1 = t := fun t htm => by
    have hbt := hb t htm
    obtain ⟨hm, e⟩ := po_at hbt
    exact ⟨hm, e, by omega⟩
  have hpu : (poP V ts).Pairwise (fun x y => x.1 < y.1) := by
    unfold poP
    rw [List.pairwise_map, List.pairwise_iff_getElem]
    rw [List.pairwise_iff_getElem] at hup hV
    intro i j hi hj hij
    have hlt := hup i j hi hj hij
    obtain ⟨hm1, e1, q1⟩ := pat ts[i] (List.getElem_mem hi)
    obtain ⟨hm2, e2, q2⟩ := pat ts[j] (List.getElem_mem hj)
    rw [e1, e2]
    have hmm : (ts[i] - 1).toNat < (ts[j] - 1).toNat := by omega
    have h1 := hV _ _ hm1 hm2 hmm
    have h2 := two _ _ hm1 hm2 hmm (by rw [q1]; exact List.getElem_mem hi) (by rw [q2]; exact List.getElem_mem hj)
    omega
  have hpi : pidsL (poP V ts) = ids := by
    refine up_ext _ _ ?_ hids (fun x => ?_)
    · unfold pidsL; rw [List.pairwise_map]; exact hpu
    · unfold pidsL poP
      rw [List.map_map, List.mem_map]
      constructor
      · rintro ⟨t, htm, rfl⟩
        obtain ⟨hm, e, _⟩ := pat t htm
        show (V.getD (t - 1).toNat (0, 0)).1 ∈ ids
        rw [e]
        exact (hin _ (List.getElem_mem hm)).1
      · intro hx
        obtain ⟨m, hm, e, hmt⟩ := own x hx
        refine ⟨(m : Int) + 1, hmt, ?_⟩
        obtain ⟨hm', e', q'⟩ := pat _ hmt
        show (V.getD ((m : Int) + 1 - 1).toNat (0, 0)).1 = x
        rw [e', ← e]
        have : ((m : Int) + 1 - 1).toNat = m := by omega
        simp only [this]
  have hok : PoOK rs ps top ids ts := ⟨hl, h, by rw [hVe]; exact hr, by rw [hVe]; exact hpi⟩
  refine ⟨hok, by unfold poP; rw [List.length_map]; exact hl, by rw [hpi]; exact h, fun p hp => ?_, ?_⟩
  · unfold poP at hp
    obtain ⟨t, htm, rfl⟩ := List.mem_map.1 hp
    obtain ⟨hm, e, _⟩ := pat t htm
    show (V.getD (t - 1).toNat (0, 0)).2 ∈ _
    rw [e]
    exact (hin _ (List.getElem_mem hm)).2
  · have hpu2 := hpu
    unfold poP at hpu ⊢
    rw [List.pairwise_map, List.pairwise_iff_getElem] at hpu ⊢
    intro i j hi hj hij
    have hlt := hpu i j hi hj hij
    obtain ⟨hm1, e1, q1⟩ := pat ts[i] (List.getElem_mem hi)
    obtain ⟨hm2, e2, q2⟩ := pat ts[j] (List.getElem_mem hj)
    rw [e1, e2] at hlt ⊢
    cases hmay : mayL ps V[(ts[i] - 1).toNat].1 V[(ts[i] - 1).toNat].2 V[(ts[j] - 1).toNat].1 V[(ts[j] - 1).toNat].2 with
    | true => rfl
    | false =>
      obtain ⟨q, hq, hqq⟩ := may_pair _ _ _ _ _ hmay
      have hql : q.1 < q.2.1 := (h.2.1.2.2.2.1 q hq).1
      have hq1 : q.1 = V[(ts[i] - 1).toNat].1 ∧ q.2.1 = V[(ts[j] - 1).toNat].1 := by
        rcases hqq with g | g
        · exact g
        · omega
      have hc : [-(((ts[i] - 1).toNat : Nat) : Int) - 1, -(((ts[j] - 1).toNat : Nat) : Int) - 1] = [-((((ts[i] - 1).toNat : Nat) : Int) + 1), -((((ts[j] - 1).toNat : Nat) : Int) + 1)] := by
        congr 1
        · omega
        · congr 1; omega
      have hmem : [-((((ts[i] - 1).toNat : Nat) : Int) + 1), -((((ts[j] - 1).toNat : Nat) : Int) + 1)] ∈ ps.flatMap (besS ps (nbF 0 V)) := by
        refine List.mem_flatMap.2 ⟨q, hq, ?_⟩
        unfold besS
        refine List.mem_flatMap.2 ⟨_, nb_in _ hm1, List.mem_flatMap.2 ⟨_, nb_in _ hm2, ?_⟩⟩
        rw [if_pos ⟨hq1.1.symm, hq1.2.symm, by rw [hq1.1, hq1.2]; exact hmay⟩]
        simp
      have := not_both ⟨by omega, by omega⟩ ⟨by omega, by omega⟩ (ht _ (List.mem_append_right _ (List.mem_append_right _ hmem)))
      exact absurd ⟨by rw [q1]; exact List.getElem_mem hi, by rw [q2]; exact List.getElem_mem hj⟩ this
/-- What the law asks, where there are stations. -/
theorem cnf_iff {rs : List LSt} {ps : List LPr} {top : Int} {ids ts : List Int} (h : IdsR rs ps ids) (hne : ids ≠ []) : (fC (cnN rs ps top ids : Nat) (cnA rs ps top ids) ts == -1) = (decide ((poA rs ps top ids ts).length = ids.length) && planB rs ps top (poA rs ps top ids ts)) := by
  have hpos : 0 < ids.length := List.length_pos_iff.2 hne
  rw [Bool.eq_iff_iff, beq_iff_eq, Bool.and_eq_true, decide_eq_true_iff]
  constructor
  · intro hf
    obtain ⟨hok, hpl⟩ := true_plan h hf
    rw [poA_yes hok]
    refine ⟨?_, (planB_ok _ _ _ _).2 hpl⟩
    have := congrArg List.length hok.2.2.2
    simpa [pidsL] using this
  · rintro ⟨hlen, hpl⟩
    by_cases hok : PoOK rs ps top ids ts
    · rw [poA_yes hok] at hlen hpl
      have h1 := plan_fault hpl
      rw [trA_yes hpl, hok.2.2.2, tr_back h hok.2.2.1] at h1
      exact h1
    · rw [poA_no hok] at hlen; simp at hlen; omega
/-- And where there is none. -/
theorem cnf_nil {rs : List LSt} {ps : List LPr} {top : Int} {ts : List Int} (h : IdsR rs ps []) : (fC (cnN rs ps top [] : Nat) (cnA rs ps top []) ts == -1) = decide (ts.length = 0) := by
  have hN : cnN rs ps top [] = 0 := by unfold cnN; rw [B_yes h]; rfl
  rw [Bool.eq_iff_iff, beq_iff_eq, decide_eq_true_iff]
  constructor
  · intro hf
    obtain ⟨hl, hr, _⟩ := fC_all hf
    rw [hN] at hr
    obtain ⟨_, hb⟩ := rise_all hr
    cases ts with
    | nil => rfl
    | cons t r =>
      have h2 := hb t (by simp)
      have h3 : ((0 : Nat) : Int) = 0 := rfl
      omega
  · intro ht
    have : ts = [] := List.eq_nil_of_length_eq_zero ht
    subst this
    rw [fC_yes (by simp) ⟨cnA_right top h, fun i hi => by simp at hi⟩]
    refine fF_all (Nat.le_refl _) (fun i hi => ?_)
    rw [cnA_spec top h] at hi ⊢
    have hV : plF rs top [] = [] := rfl
    have h0 : ps.flatMap (besS ps (nbF 0 (plF rs top []))) = [] := by
      rw [hV, List.flatMap_eq_nil_iff]; intro q _; rfl
    rw [h0] at hi
    simp [hV, nbF, twoS] at hi

end Go.Proofs.Ytaogkdhloogmhaa
