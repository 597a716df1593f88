/-
  THE CLAUSES OF A TABLE ARE RIGHT, as lists: how many, how long, of which literals (turned from the solver's seat).
  spec.AskAll; AskSteps: both sides.
  THE LAW FnExactAskSteps: the walk.
-/
import Derived.Test.YtnihhbfgbilimaaGreatDoorHza
import Derived.Test.YtnihhbfgbilimaaGreatDoorXao
import Derived.Test.YtnihhbfgbilimaaGreatDoorWah
import Derived.Test.YtnihhbfgbilimaaGreatDoorAkz
import Derived.Test.YtnihhbfgbilimaaGreatDoorSc
import Derived.Test.YtnihhbfgbilimaaGreatDoorGza
import Derived.Test.YtnihhbfgbilimaaGreatDoorWag
import Derived.Test.YtnihhbfgbilimaaGreatDoorKza
namespace Go.Proofs.YtnihhbfgbilimaaGreatDoor
open Go.RowKit
set_option linter.unusedVariables false

def CSm (cs : List LCl) : Prop := ∀ r ∈ cs, r.2.length ≤ 20 ∧ ∀ z ∈ r.2, -100 ≤ z ∧ z ≤ 100
theorem CSm.nil : CSm [] := fun r hr => by cases hr
theorem sub_len : ∀ (l m : List Int), l.Nodup → (∀ x ∈ l, x ∈ m) → l.length ≤ m.length
  | [], m, _, _ => Nat.zero_le _
  | a :: r, m, hd, h => by
    have ha := h a (by simp)
    rw [List.nodup_cons] at hd
    have h1 := sub_len r (m.erase a) hd.2 (fun x hx => by
      have hne : x ≠ a := fun e => hd.1 (e ▸ hx)
      exact (List.mem_erase_of_ne hne).2 (h x (by simp [hx])))
    rw [List.length_erase_of_mem ha] at h1
    have : 0 < m.length := List.length_pos_of_mem ha
    simp only [List.length_cons]
    omega
theorem rise_pair (zs : List Int) (h : RiseTo zs zs.length) (lo hi : Int) (hb : ∀ z ∈ zs, lo ≤ z ∧ z ≤ hi) : zs.Pairwise (· < ·) := by
  rw [List.pairwise_iff_getElem]
  intro i j hi' hj hij
  have := rise_lt zs lo hi (fun k hk => ⟨hb _ (getD_mem hk), fun h0 => h k hk h0⟩) i j hij hj
  simpa [hi', hj] using this
theorem ids_pair {rs : List LSt} {ps : List LPr} {zs : List Int} (h : IdsR rs ps zs) : zs.Pairwise (· < ·) := rise_pair zs h.2.2.1 1 999 (fun z hz => h.2.1.2.2.1.mem (h.2.2.2 z hz))
theorem ids_few {rs : List LSt} {ps : List LPr} {zs : List Int} (h : IdsR rs ps zs) : zs.length ≤ 12 := by
  have h1 : zs.Nodup := (ids_pair h).imp (fun h => by omega)
  have h2 := sub_len zs (idsL rs) h1 h.2.2.2
  have h3 := h.2.1.1.2.1
  rw [show (idsL rs).length = rs.length by simp [idsL]] at h2
  omega
theorem lv_pos {z : Int} (h : 0 < z) (h2 : z ≤ 100000) : lv z = z := by
  unfold lv wrap64
  rw [Int.max_def]; split <;> omega
theorem lv_neg {z : Int} (h : 0 < z) (h2 : z ≤ 100000) : lv (-z) = z := by
  unfold lv wrap64
  rw [Int.max_def]; split <;> omega
theorem nb_mem {V : List LPl} {e : LNb} (h : e ∈ nbF 0 V) : ∃ m, ∃ hm : m < V.length, e = (V[m], (m : Int) + 1) := by
  obtain ⟨m, hm, rfl⟩ := List.getElem_of_mem h
  rw [nbF_len] at hm
  refine ⟨m, hm, ?_⟩
  rw [nbF_at V 0 m hm]
  simp
theorem nb_up (V : List LPl) : (nbF 0 V).Pairwise (fun x y => x.2 < y.2) := by
  rw [List.pairwise_iff_getElem]
  intro i j hi hj hij
  rw [nbF_len] at hi hj
  rw [nbF_at V 0 i hi, nbF_at V 0 j hj]
  show (0 : Int) + i + 1 < 0 + j + 1
  omega
theorem twoS_mem : ∀ (l : List LNb), l.Pairwise (fun x y => x.2 < y.2) → ∀ zs ∈ twoS l, ∃ x ∈ l, ∃ y ∈ l, x.2 < y.2 ∧ x.1.1 = y.1.1 ∧ zs = [-x.2, -y.2]
  | [], _, zs, h => by simp [twoS] at h
  | x :: r, hp, zs, h => by
    rw [List.pairwise_cons] at hp
    unfold twoS at h
    rcases List.mem_append.1 h with h | h
    · obtain ⟨y, hy, rfl⟩ := List.mem_map.1 h
      unfold ofId at hy
      rw [List.mem_filter] at hy
      have e : y.1.1 = x.1.1 := by simpa using hy.2
      exact ⟨x, by simp, y, by simp [hy.1], hp.1 y hy.1, e.symm, rfl⟩
    · obtain ⟨a, ha, b, hb, h1⟩ := twoS_mem r hp.2 zs h
      exact ⟨a, by simp [ha], b, by simp [hb], h1⟩
theorem rise_ne {lo hi : Int} {zs : List Int} (h : InRise lo hi zs) : zs.Pairwise (· ≠ ·) := by
  rw [List.pairwise_iff_getElem]
  intro i j hi' hj hij
  have := rise_lt zs lo hi h i j hij hj
  simp [hi', hj] at this
  intro e
  rw [e] at this
  omega
theorem fm_len {α β : Type} (f : α → List β) (m : Nat) : ∀ l : List α, (∀ x ∈ l, (f x).length ≤ m) → (l.flatMap f).length ≤ l.length * m := by
  intro l
  induction l with
  | nil => intro _; simp
  | cons x l ih =>
    intro h
    have h1 := h x (by simp)
    have h2 := ih (fun y hy => h y (by simp [hy]))
    rw [List.flatMap_cons, List.length_append, List.length_cons, Nat.add_mul]
    omega
theorem dom_8 (rs : List LSt) (ps : List LPr) (id top : Int) (h : TabR rs ps) : (rs.flatMap (domF id top)).length ≤ 8 := by
  by_cases hm : id ∈ idsL rs
  · obtain ⟨k, hk, ep, hid⟩ := pos_at rs id hm
    have hu : ∀ i (h : i < rs.length), i ≠ k → rs[i].1 ≠ id := fun i hi hne e => by
      have r := rise_ne h.2.2.1
      rw [List.pairwise_iff_getElem] at r
      rcases Nat.lt_or_gt_of_ne hne with g | g
      · exact r i k (by simpa [idsL] using hi) (by simpa [idsL] using hk) g (by rw [idsL_at rs i _ hi, idsL_at rs k _ hk, e, hid])
      · exact r k i (by simpa [idsL] using hk) (by simpa [idsL] using hi) g (by rw [idsL_at rs i _ hi, idsL_at rs k _ hk, e, hid])
    rw [flat_one id top rs k hk hid hu]
    exact Nat.le_trans (List.length_filter_le _ _) (h.2.1 _ (List.getElem_mem hk)).2.1.2
  · rw [flat_none id top rs hm]; simp
theorem plF_96 {rs : List LSt} {ps : List LPr} (top : Int) (ids : List Int) (h : IdsR rs ps ids) : (plF rs top ids).length ≤ 96 := by
  have h1 : ∀ id ∈ ids, (chF rs top id).length ≤ 8 := fun id _ => by
    unfold chF; rw [List.length_map]; exact dom_8 rs ps id top h.2.1
  have := fm_len (chF rs top) 8 ids h1
  have := ids_few h
  unfold plF
  omega
theorem twoF_8 : ∀ zs : List Int, zs.length ≤ 8 → (twoF zs).length ≤ 8 * zs.length
  | [], _ => by simp [twoF]
  | x :: r, h => by
    simp only [List.length_cons] at h ⊢
    have := twoF_8 r (by omega)
    unfold twoF
    rw [List.length_append, List.length_map]
    omega
theorem besF_8 (ps : List LPr) (A C : List LNb) (ha : A.length ≤ 8) (hc : C.length ≤ 8) : (besF ps A C).length ≤ 64 := by
  have h1 : ∀ x ∈ A, (C.flatMap fun y => if mayL ps x.1.1 x.1.2 y.1.1 y.1.2 = true then [] else [[-x.2, -y.2]]).length ≤ 8 := fun x _ => by
    have := fm_len (fun y : LNb => if mayL ps x.1.1 x.1.2 y.1.1 y.1.2 = true then [] else [[-x.2, -y.2]]) 1 C (fun y _ => by split <;> simp)
    omega
  have := fm_len _ 8 A h1
  unfold besF
  omega
theorem nbs_8 (rs : List LSt) (ps : List LPr) (top : Int) (h : TabR rs ps) : ∀ (ids : List Int) (last : Int), ∀ b ∈ nbsF last (ids.map (chF rs top)), b.length ≤ 8 := by
  intro ids
  induction ids with
  | nil => intro last b hb; simp [nbsF] at hb
  | cons x r ih =>
    intro last b hb
    simp only [List.map_cons, nbsF, List.mem_cons] at hb
    rcases hb with rfl | hb
    · rw [nbF_len]; unfold chF; rw [List.length_map]; exact dom_8 rs ps x top h
    · exact ih _ b hb
theorem cnA_4000 {rs : List LSt} {ps : List LPr} (top : Int) {ids : List Int} (h : IdsR rs ps ids) : (cnA rs ps top ids).length ≤ 4000 := by
  unfold cnA
  rw [B_yes h, if_pos rfl]
  unfold cnfI
  have hb := nbs_8 rs ps top h.2.1 ids 0
  have hl : (nbsF 0 (ids.map (chF rs top))).length = ids.length := by rw [nbsF_len, List.length_map]
  generalize nbsF 0 (ids.map (chF rs top)) = bs at *
  have h12 := ids_few h
  have h40 := h.2.1.1.2.2
  have h1 := fm_len (fun b : List LNb => twoF (b.map fun e => e.2)) 64 bs (fun b hb' => by
    have := hb b hb'
    have := twoF_8 (b.map fun e => e.2) (by rw [List.length_map]; exact this)
    rw [List.length_map] at this
    omega)
  have hg : ∀ i, (bs.getD i []).length ≤ 8 := fun i => by
    by_cases hi : i < bs.length
    · simp only [List.getD_eq_getElem?_getD, List.getElem?_eq_getElem hi, Option.getD_some]; exact hb _ (List.getElem_mem hi)
    · simp [List.getD_eq_getElem?_getD, List.getElem?_eq_none (by omega : bs.length ≤ i)]
  have h2 := fm_len (besI ps ids bs) 64 ps (fun p _ => by
    unfold besI
    split
    · exact besF_8 ps _ _ (hg _) (hg _)
    · simp)
  simp only [List.length_append, List.length_map]
  omega
theorem good_two {vars x y : Int} (hx : 1 ≤ x ∧ x ≤ vars) (hy : 1 ≤ y ∧ y ≤ vars) (hv : vars ≤ 96) (hne : x ≠ y) : ClR vars [-x, -y] := by
  refine ⟨by simp, fun z hz => ?_, ?_⟩
  · simp only [List.mem_cons, List.not_mem_nil, or_false] at hz
    rcases hz with rfl | rfl
    · rw [lv_neg (by omega) (by omega)]; exact hx
    · rw [lv_neg (by omega) (by omega)]; exact hy
  · simp only [List.map_cons, List.map_nil]
    rw [lv_neg (by omega) (by omega), lv_neg (by omega) (by omega)]
    simp [hne]
/-- The clauses of a table are right. -/
theorem two_96 {x y : Int} (hx : 0 ≤ x ∧ x ≤ 96) (hy : 0 ≤ y ∧ y ≤ 96) : ∀ z ∈ [-x, -y], -96 ≤ z ∧ z ≤ 96 := fun z hz => by
  simp only [List.mem_cons, List.not_mem_nil, or_false] at hz
  rcases hz with rfl | rfl <;> omega
theorem cnA_key {rs : List LSt} {ps : List LPr} (top : Int) {ids : List Int} (h : IdsR rs ps ids) : ∀ zs ∈ cnA rs ps top ids, ClR (cnN rs ps top ids : Nat) zs ∧ ∀ z ∈ zs, -96 ≤ z ∧ z ≤ 96 := by
  have hN : cnN rs ps top ids = (plF rs top ids).length := by unfold cnN; rw [B_yes h]; rfl
  have h96 := plF_96 top ids h
  have h4 := cnA_4000 top h
  have h8 : ∀ id, (ownA (plF rs top ids) id).length ≤ 96 := fun id => by
    unfold ownA ofId
    rw [List.length_map]
    exact Nat.le_trans (List.length_filter_le _ _) (by rw [nbF_len]; exact h96)
  ·
    intro zs hz
    have hrow : ∀ b ∈ nbsF 0 (ids.map (chF rs top)), b.length ≤ 8 := nbs_8 rs ps top h.2.1 ids 0
    have hflat : (nbsF 0 (ids.map (chF rs top))).flatten = nbF 0 (plF rs top ids) := by rw [nbsF_flat]; rfl
    by_cases hown : zs ∈ (nbsF 0 (ids.map (chF rs top))).map (fun b => b.map fun e => e.2)
    · obtain ⟨b, hb, rfl⟩ := List.mem_map.1 hown
      have hsub : List.Sublist b (nbF 0 (plF rs top ids)) := by rw [← hflat]; exact List.sublist_flatten_of_mem hb
      have hup : (b.map fun e => e.2).Pairwise (· < ·) := by rw [List.pairwise_map]; exact (nb_up _).sublist hsub
      have hin : ∀ z ∈ (b.map fun e => e.2), 1 ≤ z ∧ z ≤ ((plF rs top ids).length : Int) := fun z hz => by
        obtain ⟨e, he, rfl⟩ := List.mem_map.1 hz
        obtain ⟨m, hm, rfl⟩ := nb_mem (hsub.subset he)
        exact ⟨by show (1 : Int) ≤ (m : Int) + 1; omega, by show (m : Int) + 1 ≤ _; omega⟩
      refine ⟨⟨by rw [List.length_map]; have := hrow b hb; omega, fun z hz => ?_, ?_⟩, fun z hz => ⟨by have := hin z hz; omega, by have := hin z hz; omega⟩⟩
      · have := hin z hz
        rw [lv_pos (by omega) (by omega), hN]; exact this
      · have e : (b.map fun e => e.2).map lv = b.map fun e => e.2 := by
          rw [List.map_congr_left (g := id) (fun z hz => by have := hin z hz; rw [lv_pos (by omega) (by omega)]; rfl), List.map_id]
        rw [e]
        exact hup.imp (fun {a c} hab e => by omega)
    · have hz2 := hz
      unfold cnA at hz2
      rw [B_yes h, if_pos rfl] at hz2
      rw [cnA_spec top h] at hz
      have hz3 : zs ∈ twoS (nbF 0 (plF rs top ids)) ++ ps.flatMap (besS ps (nbF 0 (plF rs top ids))) := by
        unfold cnfI at hz2
        rcases List.mem_append.1 hz2 with g | g
        · exact absurd g hown
        · have e1 := cnf_same ps ids (nbsF 0 (ids.map (chF rs top))) (ofIds_ch rs top ids 0) ((ids_pair h).imp (fun {a b} hab e => by omega))
          unfold cnfI cnfS at e1
          rw [hflat] at e1
          have e2 := List.append_inj_right e1 (by rw [List.length_map, List.length_map, nbsF_len, List.length_map])
          rw [← e2]; exact g
      rw [hN]
      rcases List.mem_append.1 hz3 with hz3 | hz3
      · obtain ⟨x, hx, y, hy, hxy, _, rfl⟩ := twoS_mem _ (nb_up _) zs hz3
        obtain ⟨a, ha, rfl⟩ := nb_mem hx
        obtain ⟨b, hb, rfl⟩ := nb_mem hy
        dsimp only at hxy ⊢
        exact ⟨good_two ⟨by omega, by omega⟩ ⟨by omega, by omega⟩ (by omega) (by omega), two_96 (by omega) (by omega)⟩
      · obtain ⟨q, hq, hz3⟩ := List.mem_flatMap.1 hz3
        unfold besS at hz3
        obtain ⟨x, hx, hz3⟩ := List.mem_flatMap.1 hz3
        obtain ⟨y, hy, hz3⟩ := List.mem_flatMap.1 hz3
        split at hz3
        · rename_i hc
          rw [List.mem_singleton] at hz3
          subst hz3
          obtain ⟨a, ha, rfl⟩ := nb_mem hx
          obtain ⟨b, hb, rfl⟩ := nb_mem hy
          obtain ⟨c1, c2, _⟩ := hc
          dsimp only at c1 c2 ⊢
          have hlt : q.1 < q.2.1 := (h.2.1.2.2.2.1 q hq).1
          refine ⟨good_two ⟨by omega, by omega⟩ ⟨by omega, by omega⟩ (by omega) (fun e => ?_), two_96 (by omega) (by omega)⟩
          obtain rfl : a = b := by omega
          omega
        · simp at hz3
/-- What l06Cnf's walk asks of the clauses of a table. -/
theorem cnA_small (rs : List LSt) (ps : List LPr) (top : Int) (ids : List Int) (cs : List LCl) (e : bareC cs = cnA rs ps top ids) : CSm cs ∧ cs.length ≤ 5000 := by
  by_cases h : IdsR rs ps ids
  · have hl : cs.length = (cnA rs ps top ids).length := by rw [← e]; simp [bareC]
    have := cnA_4000 top h
    refine ⟨fun r hr => ?_, by omega⟩
    have hm : r.2 ∈ cnA rs ps top ids := by rw [← e]; exact List.mem_map.2 ⟨r, hr, rfl⟩
    obtain ⟨h1, h2⟩ := cnA_key top h _ hm
    exact ⟨by have := h1.1; omega, fun z hz => ⟨by have := h2 z hz; omega, by have := h2 z hz; omega⟩⟩
  · have h0 : cnA rs ps top ids = [] := by unfold cnA; rw [B_no h]; rfl
    rw [h0] at e
    have : cs = [] := by simpa [bareC] using e
    subst this
    exact ⟨CSm.nil, by simp⟩

theorem solF_verdict (css : List (List Int)) (V : Nat) : ∀ (n : Nat) (st : Int) (L : List (List Int)) (D : List Int), (solF css V n st L D).1 = 1 ∨ (solF css V n st L D).1 = 2 ∨ (solF css V n st L D).1 = 3
  | 0, st, L, D => .inr (.inr rfl)
  | n + 1, st, L, D => by
    unfold solF
    split
    · split
      · exact .inl rfl
      · exact solF_verdict css V n _ _ _
    · split
      · exact .inr (.inl rfl)
      · exact solF_verdict css V n _ _ _
theorem cnA_right {rs : List LSt} {ps : List LPr} (top : Int) {ids : List Int} (h : IdsR rs ps ids) : CnfR (cnN rs ps top ids : Nat) (cnA rs ps top ids) := by
  have hN : cnN rs ps top ids = (plF rs top ids).length := by unfold cnN; rw [B_yes h]; rfl
  have h96 := plF_96 top ids h
  have h4 := cnA_4000 top h
  refine ⟨⟨by omega, by rw [hN]; omega⟩, h4, fun i hi => ?_⟩
  rw [List.getD_eq_getElem?_getD, List.getElem?_eq_getElem hi, Option.getD_some]
  exact (cnA_key top h _ (List.getElem_mem hi)).1
theorem cnA_noN {rs : List LSt} {ps : List LPr} {ids : List Int} (top : Int) (h : ¬ IdsR rs ps ids) : cnA rs ps top ids = [] ∧ cnN rs ps top ids = 0 := by
  constructor
  · unfold cnA; rw [B_no h]; rfl
  · unfold cnN; rw [B_no h]; rfl
theorem cnA_solOk (rs : List LSt) (ps : List LPr) (top : Int) (ids : List Int) (bud : Int) (hb : 0 ≤ bud ∧ bud ≤ 300) : SolOk (cnN rs ps top ids : Nat) (cnA rs ps top ids) bud := by
  by_cases h : IdsR rs ps ids
  · exact ⟨cnA_right top h, hb.1, hb.2⟩
  · obtain ⟨e1, e2⟩ := cnA_noN top h
    rw [e1, e2]
    exact ⟨⟨⟨by simp, by simp⟩, by simp, fun i hi => absurd hi (Nat.not_lt_zero _)⟩, hb.1, hb.2⟩
/-- What AskAll finds. -/
noncomputable def askR (rs : List LSt) (ps : List LPr) (top : Int) (ids : List Int) (bud : Int) : Res × Int := solA (cnN rs ps top ids : Nat) (cnA rs ps top ids) bud
noncomputable def askP (rs : List LSt) (ps : List LPr) (top : Int) (ids : List Int) (bud : Int) : List LPl := poA rs ps top ids (askR rs ps top ids bud).1.2.1
theorem askR_verdict (rs : List LSt) (ps : List LPr) (top : Int) (ids : List Int) (bud : Int) (hb : 0 ≤ bud ∧ bud ≤ 300) : (askR rs ps top ids bud).1.1 = 1 ∨ (askR rs ps top ids bud).1.1 = 2 ∨ (askR rs ps top ids bud).1.1 = 3 := by
  unfold askR
  rw [solA_yes (cnA_solOk rs ps top ids bud hb)]
  exact solF_verdict _ _ _ _ _ _
theorem tot_small {cs : List LCl} (h : ∀ r ∈ cs, r.2.length ≤ 20) : totC cs ≤ 20 * cs.length := by
  induction cs with
  | nil => simp [totC]
  | cons a r ih =>
    have h1 := h a (List.mem_cons_self)
    have h2 := ih (fun x hx => h x (List.mem_cons_of_mem _ hx))
    simp only [totC, List.map_cons, List.sum_cons, List.length_cons] at *
    omega
theorem cs_fit {rs : List LSt} {ps : List LPr} {top : Int} {ids : List Int} {cs : List LCl} (e : bareC cs = cnA rs ps top ids) : cs.length ≤ maxLen ∧ totC cs ≤ 1048576 ∧ WfC cs := by
  obtain ⟨h1, h2⟩ := cnA_small rs ps top ids cs e
  refine ⟨by unfold maxLen; omega, by have := tot_small (fun r hr => (h1 r hr).1); omega, fun r hr z hz => ?_⟩
  have := (h1 r hr).2 z hz
  unfold wfI
  have e1 : IntKind.i64.min = -9223372036854775808 := by rfl
  have e2 : IntKind.i64.max = 9223372036854775807 := by rfl
  simp only [Lit.wf, Bool.and_eq_true, decide_eq_true_eq, e1, e2]
  omega

set_option maxHeartbeats 1000000 in
/-- impl.AskAll. -/
theorem iask_any (sl : Option Addr) (cap : Nat) (sl2 : Option Addr) (cap2 : Nat) (top : Int) (sl3 : Option Addr) (cap3 : Nat) (bud : Int) (rs : List LSt) (ps : List LPr) (ids : List Int) (w : World) (hn : rs.length ≤ 1048576) (hl : ids.length ≤ maxLen) (hz : Sts w sl rs) (hp : Prs w sl2 ps) (hw : ∀ p ∈ ps, WfP p) (hi : Ints w sl3 ids) (hT : TabB w) :
    Calls Tryz.prog 21 #[TV sl rs.length cap sl2 ps.length cap2, .int .i64 top, .slice sl3 ids.length cap3, .int .i64 bud] w (AskPost (400 < ids.length) (¬ (IdsR rs ps ids ∧ BudR bud)) (askR rs ps top ids bud).1 (enCells (askP rs ps top ids bud)) (askP rs ps top ids bud).length w) :=
  iaa_any sl rs.length cap sl2 ps.length cap2 top sl3 ids.length cap3 bud (IdsR rs ps ids) (askR rs ps top ids bud) (enCells (askP rs ps top ids bud)) (askP rs ps top ids bud).length w hl
    (fun W hW => iir_any sl cap sl2 cap2 sl3 cap3 rs ps ids W hn hl (hz.below hW) (hp.below hW) hw (hi.below hW))
    (fun _ _ _ W h hW HB => byc_any h sl rs.length cap sl2 ps.length cap2 top sl3 ids.length cap3 bud (cnN rs ps top ids : Nat) (cnA rs ps top ids) (enCells (askP rs ps top ids bud)) (askP rs ps top ids bud).length (askR rs ps top ids bud) W HB
      (fun W' hW' => ico_any sl cap sl2 cap2 sl3 cap3 rs ps top ids W' hn hl (hz.below (bT hW hW')) (hp.below (bT hW hW')) hw (hi.below (bT hW hW')))
      (fun W' v cs hW' o e => by
        obtain ⟨s, c, rfl, hc⟩ := o.cls
        obtain ⟨f1, f2, f3⟩ := cs_fit e
        have := iso_any (cnN rs ps top ids : Nat) bud s c cs W' f1 hc (fun l hl z hz => by obtain ⟨r, hr, rfl⟩ := List.mem_map.1 hl; exact f3 r hr z hz) (hT.belowT (bT hW hW'))
        rw [e] at this
        exact this)
      (fun W' v hW' o _ => by
        have ol := own_len o
        obtain ⟨s, c, rfl, hs⟩ := own_ints o
        exact ipo_any sl cap sl2 cap2 sl3 cap3 s c rs ps ids _ top W' hn hl ol (hz.below (bT hW hW')) (hp.below (bT hW hW')) hw (hi.below (bT hW hW')) hs))

end Go.Proofs.YtnihhbfgbilimaaGreatDoor
namespace Go.Proofs.YtnihhbfgbilimaaGreatDoor
open Go.RowKit
set_option linter.unusedVariables false

theorem solF_len (css : List (List Int)) (V : Nat) : ∀ (n : Nat) (st : Int) (L : List (List Int)) (D : List Int), (solF css V n st L D).2.1.length ≤ V
  | 0, st, L, D => by simp [solF]
  | n + 1, st, L, D => by
    unfold solF
    split
    · split
      · exact trL_len _ _
      · exact solF_len css V n _ _ _
    · split
      · simp
      · exact solF_len css V n _ _ _
theorem askR_len (rs : List LSt) (ps : List LPr) (top : Int) (ids : List Int) (bud : Int) : (askR rs ps top ids bud).1.2.1.length ≤ 1048576 := by
  unfold askR
  by_cases h : SolOk (cnN rs ps top ids : Nat) (cnA rs ps top ids) bud
  · rw [solA_yes h]
    have h1 := solF_len (cnA rs ps top ids) ((cnN rs ps top ids : Nat) : Int).toNat bud.toNat 0 [] []
    have h2 := h.1.1.2
    refine Nat.le_trans h1 ?_
    omega
  · unfold solA
    rw [B_no h]
    simp

set_option maxHeartbeats 1000000 in
/-- spec.AskAll. -/
theorem sask_any (sl : Option Addr) (cap : Nat) (sl2 : Option Addr) (cap2 : Nat) (top : Int) (sl3 : Option Addr) (cap3 : Nat) (bud : Int) (rs : List LSt) (ps : List LPr) (ids : List Int) (w : World) (hn : rs.length ≤ 1048576) (hl : ids.length ≤ 1048576) (hz : Sts w sl rs) (hp : Prs w sl2 ps) (hi : Ints w sl3 ids) :
    Calls Tryz.prog 18 #[TV sl rs.length cap sl2 ps.length cap2, .int .i64 top, .slice sl3 ids.length cap3, .int .i64 bud] w (AskPost (400 < ids.length) (¬ (IdsR rs ps ids ∧ BudR bud)) (askR rs ps top ids bud).1 (enCells (askP rs ps top ids bud)) (askP rs ps top ids bud).length w) :=
  saa_any sl rs.length cap sl2 ps.length cap2 top sl3 ids.length cap3 bud (IdsR rs ps ids) (cnN rs ps top ids : Nat) (cnA rs ps top ids) (askR rs ps top ids bud) (enCells (askP rs ps top ids bud)) (askP rs ps top ids bud).length w (by unfold maxLen; omega)
    (fun W hW => sir_any sl cap sl2 cap2 sl3 cap3 rs ps ids W hn hl (hz.below hW) (hp.below hW) (hi.below hW))
    (fun W hW => sco_any sl cap sl2 cap2 sl3 cap3 rs ps top ids W hn hl (hz.below hW) (hp.below hW) (hi.below hW))
    (fun W v cs hW o e => by
      obtain ⟨s, c, rfl, hc⟩ := o.cls
      obtain ⟨f1, f2, f3⟩ := cs_fit e
      have := sso_any (cnN rs ps top ids : Nat) bud s c cs W f1 f2 f3 hc
      rw [e] at this
      exact this)
    (fun W v hW o _ => by
      obtain ⟨s, c, rfl, hs⟩ := own_ints o
      exact spo_any sl cap sl2 cap2 sl3 cap3 s c rs ps ids _ top W hn hl (askR_len rs ps top ids bud) (hz.below hW) (hp.below hW) (hi.below hW) hs)

/-- impl.AskSteps. -/
theorem ist_any (sl : Option Addr) (cap : Nat) (sl2 : Option Addr) (cap2 : Nat) (top : Int) (sl3 : Option Addr) (cap3 : Nat) (rs : List LSt) (ps : List LPr) (ids : List Int) (w : World) (hn : rs.length ≤ 1048576) (hl : ids.length ≤ 1048576) (hz : Sts w sl rs) (hp : Prs w sl2 ps) (hw : ∀ p ∈ ps, WfP p) (hi : Ints w sl3 ids) (hT : TabB w) :
    Calls Tryz.prog 36 #[TV sl rs.length cap sl2 ps.length cap2, .int .i64 top, .slice sl3 ids.length cap3] w fun e w' => ∃ x, e = .returned (.int .i64 x) ∧ StA (400 < ids.length) (¬ (IdsR rs ps ids ∧ BudR 300)) (askR rs ps top ids 300).1 x ∧ Below w.heap.size w w' :=
  ias_any sl rs.length cap sl2 ps.length cap2 top sl3 ids.length cap3 _ (askR rs ps top ids 300).1 (enCells (askP rs ps top ids 300)) (askP rs ps top ids 300).length w (by unfold maxLen; omega) (askR_verdict rs ps top ids 300 (by omega))
    (fun W hW => iask_any sl cap sl2 cap2 top sl3 cap3 300 rs ps ids W hn (by unfold maxLen; omega) (hz.below hW) (hp.below hW) hw (hi.below hW) (hT.belowT hW))
/-- spec.AskSteps. -/
theorem sst_any (sl : Option Addr) (cap : Nat) (sl2 : Option Addr) (cap2 : Nat) (top : Int) (sl3 : Option Addr) (cap3 : Nat) (rs : List LSt) (ps : List LPr) (ids : List Int) (w : World) (hn : rs.length ≤ 1048576) (hl : ids.length ≤ 1048576) (hz : Sts w sl rs) (hp : Prs w sl2 ps) (hi : Ints w sl3 ids) :
    Calls Tryz.prog 35 #[TV sl rs.length cap sl2 ps.length cap2, .int .i64 top, .slice sl3 ids.length cap3] w fun e w' => ∃ x, e = .returned (.int .i64 x) ∧ StA (400 < ids.length) (¬ (IdsR rs ps ids ∧ BudR 300)) (askR rs ps top ids 300).1 x ∧ Below w.heap.size w w' :=
  sas_any sl rs.length cap sl2 ps.length cap2 top sl3 ids.length cap3 _ (askR rs ps top ids 300).1 (enCells (askP rs ps top ids 300)) (askP rs ps top ids 300).length w (by unfold maxLen; omega) (askR_verdict rs ps top ids 300 (by omega))
    (fun W hW => sask_any sl cap sl2 cap2 top sl3 cap3 300 rs ps ids W hn hl (hz.below hW) (hp.below hW) (hi.below hW))

end Go.Proofs.YtnihhbfgbilimaaGreatDoor
namespace Go.Proofs.YtnihhbfgbilimaaGreatDoor
open Go.RowKit
set_option linter.unusedVariables false

theorem dom_bareR (id top : Int) {rs rs' : List LSt} (h : bareS rs = bareS rs') : rs.flatMap (domF id top) = rs'.flatMap (domF id top) := by
  have e : ∀ l : List LSt, l.flatMap (domF id top) = (bareS l).flatMap (fun r => domF id top (r.1, r.2.1, .slice none 0 0, r.2.2)) := fun l => by
    unfold bareS
    rw [List.flatMap_map]
    rfl
  rw [e, e, h]
theorem idsR_bare {rs rs' : List LSt} (ps : List LPr) (zs : List Int) (h : bareS rs = bareS rs') : IdsR rs ps zs = IdsR rs' ps zs := by
  apply propext
  unfold IdsR
  rw [idsL_bare h]
  constructor
  · rintro ⟨a, b, c⟩; exact ⟨a, TabR_bare ps h b, c⟩
  · rintro ⟨a, b, c⟩; exact ⟨a, TabR_bare ps h.symm b, c⟩
theorem chF_bareR {rs rs' : List LSt} (top : Int) (h : bareS rs = bareS rs') : chF rs top = chF rs' top := by
  funext id
  unfold chF
  rw [dom_bareR id top h]
theorem askR_bare {rs rs' : List LSt} (ps : List LPr) (top : Int) (ids : List Int) (bud : Int) (h : bareS rs = bareS rs') : askR rs ps top ids bud = askR rs' ps top ids bud := by
  have h1 : cnA rs ps top ids = cnA rs' ps top ids := by unfold cnA; rw [idsR_bare ps ids h, chF_bareR top h]
  have h2 : cnN rs ps top ids = cnN rs' ps top ids := by unfold cnN plF; rw [idsR_bare ps ids h, chF_bareR top h]
  unfold askR
  rw [h1, h2]

set_option maxRecDepth 100000 in
set_option maxHeartbeats 4000000 in
theorem law6 (sl : Option Addr) (cap : Nat) (sl2 : Option Addr) (cap2 : Nat) (sl3 : Option Addr) (cap3 : Nat) (rs : List LSt) (ps : List LPr) (l3 : List Int) (top : Int) (w : World) (hT : TabB w) (h : InT w sl sl2 rs ps) (hl3 : l3.length ≤ maxLen) (h3 : Ints w sl3 l3) :
    Calls Tryz.prog 6 #[TV sl rs.length cap sl2 ps.length cap2, .int .i64 top, .slice sl3 l3.length cap3] w fun e w' => e = .returned (.bool true) ∧ Below w.heap.size w w' := by
  have hm3 := hl3
  unfold maxLen at hm3
  by_cases hz3 : 1048576 < l3.length
  · have hz3' : (1048576 : Int) < (l3.length : Int) := by omega
    clear h h3
    generalize rs.length = n at *
    generalize ps.length = m at *
    generalize l3.length = q at *
    go_enter Tryz.func6, Tryz.ntmps6
    go_wp2
    go_ret
    exact ⟨rfl, bA0 _ _⟩
  have hz3' : ¬ (1048576 : Int) < (l3.length : Int) := by omega
  have hz3 : l3.length ≤ 1048576 := by omega
  have SZ : Hid (∀ W, Below w.heap.size w W → Calls Tryz.prog 17 #[TV sl rs.length cap sl2 ps.length cap2, .int .i64 1048576] W fun e w' => e = .returned (.int .i64 (lft 1048576 (rs.length + totD rs + ps.length))) ∧ Below W.heap.size W w') := fun W hW => szTab_any sl cap sl2 _ cap2 rs W h.ln h.lp (h.st.below hW)
  rcases lft_cases 1048576 (rs.length + totD rs + ps.length) (by omega) with ⟨e, hl⟩ | ⟨e, hl⟩
  · rw [e] at SZ
    clear h h3 e hl
    generalize rs.length = n at *
    generalize ps.length = m at *
    generalize l3.length = q at *
    go_enter Tryz.func6, Tryz.ntmps6
    go_wp2_with fail
    refine (SZ.out _ (bA0 _ _)).mono ?_
    rintro e w1 ⟨rfl, b1⟩
    have D1 := Lib.hid (bT (bA0 w _) b1)
    clear b1
    go_wp2
    go_ret
    exact ⟨rfl, D1.out⟩
  · rw [e] at SZ
    have hs : Sts w sl rs := h.st.small (by omega)
    have TO : Hid (∀ W, Below w.heap.size w W → Calls Tryz.prog 19 #[TV sl rs.length cap sl2 ps.length cap2] W fun e w' => ∃ b1 b2 rs', e = .returned (TV (some ⟨b1, 0, none⟩) rs.length rs.length (some ⟨b2, 0, none⟩) ps.length ps.length) ∧ bareS rs' = bareS rs ∧ Sts w' (some ⟨b1, 0, none⟩) rs' ∧ Prs w' (some ⟨b2, 0, none⟩) ps ∧ Below W.heap.size W w') := fun W hW => toT_any sl cap sl2 cap2 rs ps W (by omega) (by omega) (hs.below hW) (h.pr.below hW)
    have TP : Hid (∀ W, Below w.heap.size w W → Calls Tryz.prog 20 #[.slice sl3 l3.length cap3] W fun e w' => e = .returned (.slice (some ⟨W.heap.size, 0, none⟩) l3.length l3.length) ∧ Ints w' (some ⟨W.heap.size, 0, none⟩) l3 ∧ Below W.heap.size W w') := fun W hW => to_any sl3 cap3 l3 W hz3 (h3.below hW)
    have EQ : Hid (∀ c d W, Ints W (some ⟨c, 0, none⟩) l3 → Ints W (some ⟨d, 0, none⟩) l3 → Calls Tryz.prog 24 #[.slice (some ⟨c, 0, none⟩) l3.length l3.length, .slice (some ⟨d, 0, none⟩) l3.length l3.length] W fun e w' => e = .returned (.bool true) ∧ Below W.heap.size W w') := fun c d W a b => eq_any _ _ _ _ l3 W hl3 a b
    have SP : Hid (∀ b1 b2 rs' c W, bareS rs' = bareS rs → Sts W (some ⟨b1, 0, none⟩) rs' → Prs W (some ⟨b2, 0, none⟩) ps → Ints W (some ⟨c, 0, none⟩) l3 → Calls Tryz.prog 35 #[TV (some ⟨b1, 0, none⟩) rs.length rs.length (some ⟨b2, 0, none⟩) ps.length ps.length, .int .i64 top, .slice (some ⟨c, 0, none⟩) l3.length l3.length] W fun e w' => ∃ x, e = .returned (.int .i64 x) ∧ StA (400 < l3.length) (¬ (IdsR rs ps l3 ∧ BudR 300)) (askR rs ps top l3 300).1 x ∧ Below W.heap.size W w') := fun b1 b2 rs' c W eb s p i => by
      have hl' := bareS_len eb
      have := sst_any (some ⟨b1, 0, none⟩) rs.length (some ⟨b2, 0, none⟩) ps.length top (some ⟨c, 0, none⟩) l3.length rs' ps l3 W (by omega) hz3 s p i
      rwa [hl', idsR_bare ps l3 eb, askR_bare ps top l3 300 eb] at this
    have IM : Hid (∀ b1 b2 rs' c W, Below w.heap.size w W → bareS rs' = bareS rs → Sts W (some ⟨b1, 0, none⟩) rs' → Prs W (some ⟨b2, 0, none⟩) ps → Ints W (some ⟨c, 0, none⟩) l3 → Calls Tryz.prog 36 #[TV (some ⟨b1, 0, none⟩) rs.length rs.length (some ⟨b2, 0, none⟩) ps.length ps.length, .int .i64 top, .slice (some ⟨c, 0, none⟩) l3.length l3.length] W fun e w' => ∃ x, e = .returned (.int .i64 x) ∧ StA (400 < l3.length) (¬ (IdsR rs ps l3 ∧ BudR 300)) (askR rs ps top l3 300).1 x ∧ Below W.heap.size W w') := fun b1 b2 rs' c W hW eb s p i => by
      have hl' := bareS_len eb
      have := ist_any (some ⟨b1, 0, none⟩) rs.length (some ⟨b2, 0, none⟩) ps.length top (some ⟨c, 0, none⟩) l3.length rs' ps l3 W (by omega) hz3 s p h.wf i (hT.belowT hW)
      rwa [hl', idsR_bare ps l3 eb, askR_bare ps top l3 300 eb] at this
    have TE : Hid (∀ b1 b2 rs1 c1 c2 rs2 W, bareS rs1 = bareS rs → bareS rs2 = bareS rs → Sts W (some ⟨b1, 0, none⟩) rs1 → Prs W (some ⟨b2, 0, none⟩) ps → Sts W (some ⟨c1, 0, none⟩) rs2 → Prs W (some ⟨c2, 0, none⟩) ps → Calls Tryz.prog 23 #[TV (some ⟨b1, 0, none⟩) rs.length rs.length (some ⟨b2, 0, none⟩) ps.length ps.length, TV (some ⟨c1, 0, none⟩) rs.length rs.length (some ⟨c2, 0, none⟩) ps.length ps.length] W fun e w' => e = .returned (.bool true) ∧ Below W.heap.size W w') := fun b1 b2 rs1 c1 c2 rs2 W e1 e2 s1 p1 s2 p2 => by
      have := eqT_any (some ⟨b1, 0, none⟩) (some ⟨c1, 0, none⟩) rs.length rs.length (some ⟨b2, 0, none⟩) (some ⟨c2, 0, none⟩) ps.length ps.length rs1 rs2 ps W (by rw [bareS_len e1]; omega) (by omega) (e1.trans e2.symm) s1 s2 p1 p2
      rwa [bareS_len e1, bareS_len e2] at this
    have hneg : ¬ ((1048576 : Int) - ((rs.length + totD rs + ps.length : Nat) : Int)) < 0 := by omega
    clear h hs e hl h3 hT
    generalize (1048576 : Int) - ((rs.length + totD rs + ps.length : Nat) : Int) = z at *
    generalize rs.length = n at *
    generalize ps.length = m at *
    have SM := Lib.hid (fun (x y : Int) (a : StA (400 < l3.length) (¬ (IdsR rs ps l3 ∧ BudR 300)) (askR rs ps top l3 300).1 x) (b : StA (400 < l3.length) (¬ (IdsR rs ps l3 ∧ BudR 300)) (askR rs ps top l3 300).1 y) => a.same b)
    generalize (StA (400 < l3.length) (¬ (IdsR rs ps l3 ∧ BudR 300)) (askR rs ps top l3 300).1) = SQ at *
    generalize l3.length = q at *
    have HT := Lib.hid (show (w.alloc (.cells #[.slice sl n cap, .slice sl2 m cap2] 46)).heap[w.heap.size]? = some (.cells #[.slice sl n cap, .slice sl2 m cap2] 46) from new_at _ _)
    have B0 := Lib.hid (bA0 w (.cells #[.slice sl n cap, .slice sl2 m cap2] 46))
    have hw0 : (w.alloc (.cells #[.slice sl n cap, .slice sl2 m cap2] 46)).heap.size = w.heap.size + 1 := by simp
    have KT : Hid (∀ W, Below (w.heap.size + 1) (w.alloc (.cells #[.slice sl n cap, .slice sl2 m cap2] 46)) W → w.heap.size < W.heap.size ∧ W.cell? ⟨w.heap.size, 0, none⟩ = some (.slice sl n cap) ∧ W.cell? ⟨w.heap.size, 1, none⟩ = some (.slice sl2 m cap2)) := fun W hW => by
      have := (hW.block w.heap.size (by omega)).trans HT.out
      exact ⟨(Array.getElem?_eq_some_iff.1 this).1, by simp [World.cell?, this], by simp [World.cell?, this]⟩
    go_enter Tryz.func6, Tryz.ntmps6
    go_wp2_with fail
    refine (SZ.out _ (bA0 _ _)).mono ?_
    rintro e w1 ⟨rfl, b1⟩
    generalize w.alloc (.cells #[.slice sl n cap, .slice sl2 m cap2] 46) = wA at *
    have A1 : Hid (Below (w.heap.size + 1) wA w1) := by rw [← hw0]; exact b1
    have D1 := Lib.hid (bT B0.out b1)
    clear b1 SZ
    obtain ⟨tl, t0, t1⟩ := KT.out _ A1.out
    have hs1 := A1.out.size
    go_wp2_with fail
    refine (TO.out _ D1.out).mono ?_
    rintro e w2 ⟨b1, b2, rs1, rfl, e1, s1, p1, bl2⟩
    have D2 := Lib.hid (bT D1.out bl2)
    have A2 := Lib.hid (A1.out.trans (bl2.mono (by omega)))
    have S2 := Lib.hid s1
    have P2 := Lib.hid p1
    have hs2 := A2.out.size
    clear s1 p1 bl2 A1 D1 t0 t1 tl
    go_wp2_with fail
    refine (TP.out _ D2.out).mono ?_
    rintro e w2b ⟨rfl, i2, bl2⟩
    have D2b := Lib.hid (bT D2.out bl2)
    have A2b := Lib.hid (A2.out.trans (bl2.mono (by omega)))
    have T2 := Lib.hid (SP.out b1 b2 rs1 _ w2b e1 (S2.out.below bl2) (P2.out.below bl2) i2)
    have hs2b := A2b.out.size
    clear i2 bl2 e1 S2 P2 A2 D2
    go_wp2_with fail
    refine T2.out.mono ?_
    rintro e w3 ⟨x3, rfl, q3, bl3⟩
    have Q3 := Lib.hid q3
    clear q3
    have D3 := Lib.hid (bT D2b.out bl3)
    have A3 := Lib.hid (A2b.out.trans (bl3.mono (by omega)))
    clear bl3 T2 A2b D2b
    obtain ⟨tl, t0, t1⟩ := KT.out _ A3.out
    have hs3 := A3.out.size
    go_wp2_with fail
    refine (TO.out _ D3.out).mono ?_
    rintro e w4 ⟨b1', b2', rs2, rfl, e2, s2, p2, bl4⟩
    have D4 := Lib.hid (bT D3.out bl4)
    have A4 := Lib.hid (A3.out.trans (bl4.mono (by omega)))
    have E2 := Lib.hid e2
    have S2 := Lib.hid (s2.below (bA0 _ (.cells #[.slice (some ⟨b1', 0, none⟩) n n, .slice (some ⟨b2', 0, none⟩) m m] 26)))
    have P2 := Lib.hid (p2.below (bA0 _ (.cells #[.slice (some ⟨b1', 0, none⟩) n n, .slice (some ⟨b2', 0, none⟩) m m] 26)))
    have X2 := Lib.hid (TabAtD.new w4 (some ⟨b1', 0, none⟩) n n (some ⟨b2', 0, none⟩) m m)
    have D5 := Lib.hid (bA D4.out (.cells #[.slice (some ⟨b1', 0, none⟩) n n, .slice (some ⟨b2', 0, none⟩) m m] 26))
    have hs4 := A4.out.size
    have A5 := Lib.hid (A4.out.trans ((bA0 w4 (.cells #[.slice (some ⟨b1', 0, none⟩) n n, .slice (some ⟨b2', 0, none⟩) m m] 26)).mono (by omega)))
    clear e2 s2 p2 bl4 A3 D3 t0 t1 tl A4 D4
    go_wp2_with fail
    generalize w4.alloc (.cells #[.slice (some ⟨b1', 0, none⟩) n n, .slice (some ⟨b2', 0, none⟩) m m] 26) = w5 at *
    refine (TP.out _ D5.out).mono ?_
    rintro e w5b ⟨rfl, i5, bl5⟩
    have hs5 := A5.out.size
    have D5b := Lib.hid (bT D5.out bl5)
    have A5b := Lib.hid (A5.out.trans (bl5.mono (by omega)))
    have S5 := Lib.hid (S2.out.below bl5)
    have P5 := Lib.hid (P2.out.below bl5)
    have X5 := Lib.hid (X2.out.below bl5)
    have I5 := Lib.hid i5
    have hs5b := A5b.out.size
    clear i5 bl5 S2 P2 X2 A5 D5
    obtain ⟨x0, x1⟩ := X5.out.cells
    have xl := X5.out.lt
    go_wp2_with fail
    refine (IM.out b1' b2' rs2 _ w5b D5b.out E2.out S5.out P5.out I5.out).mono ?_
    rintro e w6 ⟨x6, rfl, q6, bl6⟩
    obtain rfl := SM.out _ _ Q3.out q6
    have hrr : (x3 != x3) = false := by simp
    clear q6 Q3 SM
    have D6 := Lib.hid (bT D5b.out bl6)
    have A6 := Lib.hid (A5b.out.trans (bl6.mono (by omega)))
    have S6 := Lib.hid (S5.out.below bl6)
    have P6 := Lib.hid (P5.out.below bl6)
    have X6 := Lib.hid (X5.out.below bl6)
    have I6 := Lib.hid (I5.out.below bl6)
    clear bl6 S5 P5 X5 A5b D5b IM SP x0 x1 xl I5
    have hw4 := X6.out.lt
    have hs6 := A6.out.size
    have KX : Hid (∀ W, Below w6.heap.size w6 W → w.heap.size < W.heap.size ∧ w4.heap.size < W.heap.size ∧ W.cell? ⟨w.heap.size, 0, none⟩ = some (.slice sl n cap) ∧ W.cell? ⟨w.heap.size, 1, none⟩ = some (.slice sl2 m cap2) ∧ W.cell? ⟨w4.heap.size, 0, none⟩ = some (.slice (some ⟨b1', 0, none⟩) n n) ∧ W.cell? ⟨w4.heap.size, 1, none⟩ = some (.slice (some ⟨b2', 0, none⟩) m m)) := fun W hW => by
      obtain ⟨k1, k2, k3⟩ := KT.out W (A6.out.trans (hW.mono (by omega)))
      obtain ⟨k4, k5⟩ := (X6.out.below hW).cells
      exact ⟨k1, (X6.out.below hW).lt, k2, k3, k4, k5⟩
    go_wp2_with fail
    refine wp_region_held_drew (S := fun W => w.heap.size < W.heap.size ∧ w4.heap.size < W.heap.size ∧ W.cell? ⟨w.heap.size, 0, none⟩ = some (.slice sl n cap) ∧ W.cell? ⟨w.heap.size, 1, none⟩ = some (.slice sl2 m cap2) ∧ W.cell? ⟨w4.heap.size, 0, none⟩ = some (.slice (some ⟨b1', 0, none⟩) n n) ∧ W.cell? ⟨w4.heap.size, 1, none⟩ = some (.slice (some ⟨b2', 0, none⟩) m m)) (by kernel_rfl) ?_ (fun hHeld => ?_)
    · exact KX.out _ (Below.refl _ _).drew
    refine wpAnyH_take (i := 0) (oi := _) (v := ?_) rfl (by kernel_rfl) (by kernel_rfl) (by kernel_rfl) (fun _ _ _ h => h) (Or.inl ⟨by rfl, ?_⟩) (by assumption) ?_
    rotate_left
    · first | (intro w hSw; (try dsimp only at hSw); go_simp; done) | (intro w hSw; (try dsimp only at hSw); go_simp; with_reducible rfl)
    try simp only [Act.put, List.setIfInBounds_toArray, List.set_cons_zero, List.set_cons_succ, List.getElem_toArray, List.getElem_cons_zero]
    refine wpAnyH_take (i := 1) (oi := _) (v := ?_) rfl (by kernel_rfl) (by kernel_rfl) (by kernel_rfl) (fun _ _ _ h => h) (Or.inl ⟨by rfl, ?_⟩) (by assumption) ?_
    rotate_left
    · first | (intro w hSw; (try dsimp only at hSw); go_simp; done) | (intro w hSw; (try dsimp only at hSw); go_simp; with_reducible rfl)
    try simp only [Act.put, List.setIfInBounds_toArray, List.set_cons_zero, List.set_cons_succ, List.getElem_toArray, List.getElem_cons_succ, List.getElem_cons_zero]
    refine wpAnyH_ready (rs := [2]) (by kernel_rfl) (by simp) ?_
    refine AllReadyH.cons rfl (fun K hK => ?_) AllReadyH.nil
    go_simp
    go_wp2_with (go_at_call 19; refine (TO.out _ D6.out.drew).mono ?_; rintro e w7 ⟨c1, c2, rs3, rfl, e3, s3, p3, bl7⟩)
    have D7 : Hid (Below w6.heap.size w6 w7) := bT ((Below.refl w6.heap.size w6).drew) bl7
    have S7 := Lib.hid s3
    have P7 := Lib.hid p3
    have E7 := Lib.hid e3
    clear bl7 s3 p3 e3
    refine hK.out _ _ ?_ (fun hHeld => ?_)
    · exact KX.out _ D7.out
    clear hK K
    refine wpAnyH_ready (rs := [3]) (by kernel_rfl) (by simp) ?_
    refine AllReadyH.cons rfl (fun K hK => ?_) AllReadyH.nil
    go_simp
    go_wp2_with (go_at_call 23; refine (TE.out b1' b2' rs2 c1 c2 rs3 _ E2.out E7.out (S6.out.below D7.out) (P6.out.below D7.out) S7.out P7.out).mono ?_; rintro e w8 ⟨rfl, bl8⟩)
    have D8 : Hid (Below w6.heap.size w6 w8) := bT D7.out bl8
    clear bl8
    refine hK.out _ _ ?_ (fun hHeld => ?_)
    · exact KX.out _ D8.out
    clear hK K
    refine wpAnyH_take (i := 4) (oi := _) (v := ?_) rfl (by kernel_rfl) (by kernel_rfl) (by kernel_rfl) (fun _ _ _ h => h) (Or.inl ⟨by rfl, ?_⟩) (by assumption) ?_
    rotate_left
    · first | (intro w hSw; (try dsimp only at hSw); go_simp; done) | (intro w hSw; (try dsimp only at hSw); go_simp; with_reducible rfl)
    try simp only [Act.put, List.setIfInBounds_toArray, List.set_cons_zero, List.set_cons_succ, List.getElem_toArray, List.getElem_cons_succ, List.getElem_cons_zero]
    refine wpAnyH_done (by kernel_rfl) ?_ _
    have D9 := Lib.hid (bT D6.out D8.out)
    have I9 := Lib.hid (I6.out.below D8.out)
    clear D8 D7 KX S7 P7 E7 TE TO I6
    go_wp2_with fail
    refine (TP.out _ D9.out).mono ?_
    rintro e w10 ⟨rfl, i10, bl10⟩
    have D10 := Lib.hid (bT D9.out bl10)
    have T11 := Lib.hid (EQ.out _ _ w10 (I9.out.below bl10) i10)
    clear i10 bl10 D9 I9
    go_wp2_with fail
    refine T11.out.mono ?_
    rintro e w11 ⟨rfl, bl11⟩
    have D11 := Lib.hid (bT D10.out bl11)
    clear bl11 D10 T11
    go_wp2
    go_ret
    exact ⟨rfl, D11.out⟩

end Go.Proofs.YtnihhbfgbilimaaGreatDoor
