/- -/
import Derived.Test.YtnihhbfgbilimaaGreatDoorKHah
import Derived.Test.YtnihhbfgbilimaaGreatDoorAkz
import Derived.Test.YtnihhbfgbilimaaGreatDoorSc
import Derived.Test.YtnihhbfgbilimaaGreatDoorXao
namespace Go.Proofs.YtnihhbfgbilimaaGreatDoor
open Go.RowKit
open List (setIfInBounds_toArray set_cons_zero set_cons_succ getElem_toArray getElem_cons_succ getElem_cons_zero)
set_option linter.unusedVariables false
def CSm (cs : List LCl) : Prop := ∀ r ∈ cs, r.2.length ≤ 20 ∧ ∀ z ∈ r.2, -100 ≤ z ∧ z ≤ 100
theorem CSm.nil : CSm [] := fun r hr => by cases hr
theorem sub_len : ∀ (l m : List Int), l.Nodup → (∀ x ∈ l, x ∈ m) → l.length ≤ m.length
  | [], m, _, _ => Nat.zero_le _
  | a :: r, m, hd, h => by
    have ha := h a (by simp)
    rw [List.nodup_cons] at hd
    have h1 := sub_len r (m.erase a) hd.2 (fun x hx => by
      have hne : x ≠ a := fun e => hd.1 (e ▸ hx)
      exact (List.mem_erase_of_ne hne).2 (h x (by simp [hx])))
    rw [List.length_erase_of_mem ha] at h1
    have : 0 < m.length := List.length_pos_of_mem ha
    simp only [List.length_cons]
    omega
theorem rise_pair (zs : List Int) (h : RiseTo zs zs.length) (lo hi : Int) (hb : ∀ z ∈ zs, lo ≤ z ∧ z ≤ hi) : zs.Pairwise (· < ·) := by
  rw [List.pairwise_iff_getElem]
  intro i j hi' hj hij
  have := rise_lt zs lo hi (fun k hk => ⟨hb _ (getD_mem hk), fun h0 => h k hk h0⟩) i j hij hj
  simpa [hi', hj] using this
theorem ids_pair {rs : List LSt} {ps : List LPr} {zs : List Int} (h : IdsR rs ps zs) : zs.Pairwise (· < ·) := rise_pair zs h.2.2.1 1 999 (fun z hz => h.2.1.2.2.1.mem (h.2.2.2 z hz))
theorem ids_few {rs : List LSt} {ps : List LPr} {zs : List Int} (h : IdsR rs ps zs) : zs.length ≤ 12 := by
  have h1 : zs.Nodup := (ids_pair h).imp (fun h => by omega)
  have h2 := sub_len zs (idsL rs) h1 h.2.2.2
  have h3 := h.2.1.1.2.1
  rw [show (idsL rs).length = rs.length by simp [idsL]] at h2
  omega
theorem lv_pos {z : Int} (h : 0 < z) (h2 : z ≤ 100000) : lv z = z := by
  unfold lv wrap64
  rw [Int.max_def]; split <;> omega
theorem lv_neg {z : Int} (h : 0 < z) (h2 : z ≤ 100000) : lv (-z) = z := by
  unfold lv wrap64
  rw [Int.max_def]; split <;> omega
theorem nb_mem {V : List LPl} {e : LNb} (h : e ∈ nbF 0 V) : ∃ m, ∃ hm : m < V.length, e = (V[m], (m : Int) + 1) := by
  obtain ⟨m, hm, rfl⟩ := List.getElem_of_mem h
  rw [nbF_len] at hm
  refine ⟨m, hm, ?_⟩
  rw [nbF_at V 0 m hm]
  simp
theorem nb_up (V : List LPl) : (nbF 0 V).Pairwise (fun x y => x.2 < y.2) := by
  rw [List.pairwise_iff_getElem]
  intro i j hi hj hij
  rw [nbF_len] at hi hj
  rw [nbF_at V 0 i hi, nbF_at V 0 j hj]
  show (0 : Int) + i + 1 < 0 + j + 1
  omega
theorem twoS_mem : ∀ (l : List LNb), l.Pairwise (fun x y => x.2 < y.2) → ∀ zs ∈ twoS l, ∃ x ∈ l, ∃ y ∈ l, x.2 < y.2 ∧ x.1.1 = y.1.1 ∧ zs = [-x.2, -y.2]
  | [], _, zs, h => by simp [twoS] at h
  | x :: r, hp, zs, h => by
    rw [List.pairwise_cons] at hp
    unfold twoS at h
    rcases List.mem_append.1 h with h | h
    · obtain ⟨y, hy, rfl⟩ := List.mem_map.1 h
      unfold ofId at hy
      rw [List.mem_filter] at hy
      have e : y.1.1 = x.1.1 := by simpa using hy.2
      exact ⟨x, by simp, y, by simp [hy.1], hp.1 y hy.1, e.symm, rfl⟩
    · obtain ⟨a, ha, b, hb, h1⟩ := twoS_mem r hp.2 zs h
      exact ⟨a, by simp [ha], b, by simp [hb], h1⟩
theorem rise_ne {lo hi : Int} {zs : List Int} (h : InRise lo hi zs) : zs.Pairwise (· ≠ ·) := by
  rw [List.pairwise_iff_getElem]
  intro i j hi' hj hij
  have := rise_lt zs lo hi h i j hij hj
  simp [hi', hj] at this
  intro e
  rw [e] at this
  omega
theorem fm_len {α β : Type} (f : α → List β) (m : Nat) : ∀ l : List α, (∀ x ∈ l, (f x).length ≤ m) → (l.flatMap f).length ≤ l.length * m := by
  intro l
  induction l with
  | nil => intro _; simp
  | cons x l ih =>
    intro h
    have h1 := h x (by simp)
    have h2 := ih (fun y hy => h y (by simp [hy]))
    rw [List.flatMap_cons, List.length_append, List.length_cons, Nat.add_mul]
    omega
theorem dom_8 (rs : List LSt) (ps : List LPr) (id top : Int) (h : TabR rs ps) : (rs.flatMap (domF id top)).length ≤ 8 := by
  by_cases hm : id ∈ idsL rs
  · obtain ⟨k, hk, ep, hid⟩ := pos_at rs id hm
    have hu : ∀ i (h : i < rs.length), i ≠ k → rs[i].1 ≠ id := fun i hi hne e => by
      have r := rise_ne h.2.2.1
      rw [List.pairwise_iff_getElem] at r
      rcases Nat.lt_or_gt_of_ne hne with g | g
      · exact r i k (by simpa [idsL] using hi) (by simpa [idsL] using hk) g (by rw [idsL_at rs i _ hi, idsL_at rs k _ hk, e, hid])
      · exact r k i (by simpa [idsL] using hk) (by simpa [idsL] using hi) g (by rw [idsL_at rs i _ hi, idsL_at rs k _ hk, e, hid])
    rw [flat_one id top rs k hk hid hu]
    exact Nat.le_trans (List.length_filter_le _ _) (h.2.1 _ (List.getElem_mem hk)).2.1.2
  · rw [flat_none id top rs hm]; simp
theorem plF_96 {rs : List LSt} {ps : List LPr} (top : Int) (ids : List Int) (h : IdsR rs ps ids) : (plF rs top ids).length ≤ 96 := by
  have h1 : ∀ id ∈ ids, (chF rs top id).length ≤ 8 := fun id _ => by
    unfold chF; rw [List.length_map]; exact dom_8 rs ps id top h.2.1
  have := fm_len (chF rs top) 8 ids h1
  have := ids_few h
  unfold plF
  omega
theorem twoF_8 : ∀ zs : List Int, zs.length ≤ 8 → (twoF zs).length ≤ 8 * zs.length
  | [], _ => by simp [twoF]
  | x :: r, h => by
    simp only [List.length_cons] at h ⊢
    have := twoF_8 r (by omega)
    unfold twoF
    rw [List.length_append, List.length_map]
    omega
theorem besF_8 (ps : List LPr) (A C : List LNb) (ha : A.length ≤ 8) (hc : C.length ≤ 8) : (besF ps A C).length ≤ 64 := by
  have h1 : ∀ x ∈ A, (C.flatMap fun y => if mayL ps x.1.1 x.1.2 y.1.1 y.1.2 = true then [] else [[-x.2, -y.2]]).length ≤ 8 := fun x _ => by
    have := fm_len (fun y : LNb => if mayL ps x.1.1 x.1.2 y.1.1 y.1.2 = true then [] else [[-x.2, -y.2]]) 1 C (fun y _ => by split <;> simp)
    omega
  have := fm_len _ 8 A h1
  unfold besF
  omega
theorem nbs_8 (rs : List LSt) (ps : List LPr) (top : Int) (h : TabR rs ps) : ∀ (ids : List Int) (last : Int), ∀ b ∈ nbsF last (ids.map (chF rs top)), b.length ≤ 8 := by
  intro ids
  induction ids with
  | nil => intro last b hb; simp [nbsF] at hb
  | cons x r ih =>
    intro last b hb
    simp only [List.map_cons, nbsF, List.mem_cons] at hb
    rcases hb with rfl | hb
    · rw [nbF_len]; unfold chF; rw [List.length_map]; exact dom_8 rs ps x top h
    · exact ih _ b hb
theorem cnA_4000 {rs : List LSt} {ps : List LPr} (top : Int) {ids : List Int} (h : IdsR rs ps ids) : (cnA rs ps top ids).length ≤ 4000 := by
  unfold cnA
  rw [B_yes h, if_pos rfl]
  unfold cnfI
  have hb := nbs_8 rs ps top h.2.1 ids 0
  have hl : (nbsF 0 (ids.map (chF rs top))).length = ids.length := by rw [nbsF_len, List.length_map]
  generalize nbsF 0 (ids.map (chF rs top)) = bs at *
  have h12 := ids_few h
  have h40 := h.2.1.1.2.2
  have h1 := fm_len (fun b : List LNb => twoF (b.map fun e => e.2)) 64 bs (fun b hb' => by
    have := hb b hb'
    have := twoF_8 (b.map fun e => e.2) (by rw [List.length_map]; exact this)
    rw [List.length_map] at this
    omega)
  have hg : ∀ i, (bs.getD i []).length ≤ 8 := fun i => by
    by_cases hi : i < bs.length
    · simp only [List.getD_eq_getElem?_getD, List.getElem?_eq_getElem hi, Option.getD_some]; exact hb _ (List.getElem_mem hi)
    · simp [List.getD_eq_getElem?_getD, List.getElem?_eq_none (by omega : bs.length ≤ i)]
  have h2 := fm_len (besI ps ids bs) 64 ps (fun p _ => by
    unfold besI
    split
    · exact besF_8 ps _ _ (hg _) (hg _)
    · simp)
  simp only [List.length_append, List.length_map]
  omega
theorem good_two {vars x y : Int} (hx : 1 ≤ x ∧ x ≤ vars) (hy : 1 ≤ y ∧ y ≤ vars) (hv : vars ≤ 96) (hne : x ≠ y) : ClR vars [-x, -y] := by
  refine ⟨by simp, fun z hz => ?_, ?_⟩
  · simp only [List.mem_cons, List.not_mem_nil, or_false] at hz
    rcases hz with rfl | rfl
    · rw [lv_neg (by omega) (by omega)]; exact hx
    · rw [lv_neg (by omega) (by omega)]; exact hy
  · simp only [List.map_cons, List.map_nil]
    rw [lv_neg (by omega) (by omega), lv_neg (by omega) (by omega)]
    simp [hne]
theorem two_96 {x y : Int} (hx : 0 ≤ x ∧ x ≤ 96) (hy : 0 ≤ y ∧ y ≤ 96) : ∀ z ∈ [-x, -y], -96 ≤ z ∧ z ≤ 96 := fun z hz => by
  simp only [List.mem_cons, List.not_mem_nil, or_false] at hz
  rcases hz with rfl | rfl <;> omega
theorem cnA_key {rs : List LSt} {ps : List LPr} (top : Int) {ids : List Int} (h : IdsR rs ps ids) : ∀ zs ∈ cnA rs ps top ids, ClR (cnN rs ps top ids : Nat) zs ∧ ∀ z ∈ zs, -96 ≤ z ∧ z ≤ 96 := by
  have hN : cnN rs ps top ids = (plF rs top ids).length := by unfold cnN; rw [B_yes h]; rfl
  have h96 := plF_96 top ids h
  have h4 := cnA_4000 top h
  have h8 : ∀ id, (ownA (plF rs top ids) id).length ≤ 96 := fun id => by
    unfold ownA ofId
    rw [List.length_map]
    exact Nat.le_trans (List.length_filter_le _ _) (by rw [nbF_len]; exact h96)
  ·
    intro zs hz
    have hrow : ∀ b ∈ nbsF 0 (ids.map (chF rs top)), b.length ≤ 8 := nbs_8 rs ps top h.2.1 ids 0
    have hflat : (nbsF 0 (ids.map (chF rs top))).flatten = nbF 0 (plF rs top ids) := by rw [nbsF_flat]; rfl
    by_cases hown : zs ∈ (nbsF 0 (ids.map (chF rs top))).map (fun b => b.map fun e => e.2)
    · obtain ⟨b, hb, rfl⟩ := List.mem_map.1 hown
      have hsub : List.Sublist b (nbF 0 (plF rs top ids)) := by rw [← hflat]; exact List.sublist_flatten_of_mem hb
      have hup : (b.map fun e => e.2).Pairwise (· < ·) := by rw [List.pairwise_map]; exact (nb_up _).sublist hsub
      have hin : ∀ z ∈ (b.map fun e => e.2), 1 ≤ z ∧ z ≤ ((plF rs top ids).length : Int) := fun z hz => by
        obtain ⟨e, he, rfl⟩ := List.mem_map.1 hz
        obtain ⟨m, hm, rfl⟩ := nb_mem (hsub.subset he)
        exact ⟨by show (1 : Int) ≤ (m : Int) + 1; omega, by show (m : Int) + 1 ≤ _; omega⟩
      refine ⟨⟨by rw [List.length_map]; have := hrow b hb; omega, fun z hz => ?_, ?_⟩, fun z hz => ⟨by have := hin z hz; omega, by have := hin z hz; omega⟩⟩
      · have := hin z hz
        rw [lv_pos (by omega) (by omega), hN]; exact this
      · have e : (b.map fun e => e.2).map lv = b.map fun e => e.2 := by
          rw [List.map_congr_left (g := id) (fun z hz => by have := hin z hz; rw [lv_pos (by omega) (by omega)]; rfl), List.map_id]
        rw [e]
        exact hup.imp (fun {a c} hab e => by omega)
    · have hz2 := hz
      unfold cnA at hz2
      rw [B_yes h, if_pos rfl] at hz2
      rw [cnA_spec top h] at hz
      have hz3 : zs ∈ twoS (nbF 0 (plF rs top ids)) ++ ps.flatMap (besS ps (nbF 0 (plF rs top ids))) := by
        unfold cnfI at hz2
        rcases List.mem_append.1 hz2 with g | g
        · exact absurd g hown
        · have e1 := cnf_same ps ids (nbsF 0 (ids.map (chF rs top))) (ofIds_ch rs top ids 0) ((ids_pair h).imp (fun {a b} hab e => by omega))
          unfold cnfI cnfS at e1
          rw [hflat] at e1
          have e2 := List.append_inj_right e1 (by rw [List.length_map, List.length_map, nbsF_len, List.length_map])
          rw [← e2]; exact g
      rw [hN]
      rcases List.mem_append.1 hz3 with hz3 | hz3
      · obtain ⟨x, hx, y, hy, hxy, _, rfl⟩ := twoS_mem _ (nb_up _) zs hz3
        obtain ⟨a, ha, rfl⟩ := nb_mem hx
        obtain ⟨b, hb, rfl⟩ := nb_mem hy
        dsimp only at hxy ⊢
        exact ⟨good_two ⟨by omega, by omega⟩ ⟨by omega, by omega⟩ (by omega) (by omega), two_96 (by omega) (by omega)⟩
      · obtain ⟨q, hq, hz3⟩ := List.mem_flatMap.1 hz3
        unfold besS at hz3
        obtain ⟨x, hx, hz3⟩ := List.mem_flatMap.1 hz3
        obtain ⟨y, hy, hz3⟩ := List.mem_flatMap.1 hz3
        split at hz3
        · rename_i hc
          rw [List.mem_singleton] at hz3
          subst hz3
          obtain ⟨a, ha, rfl⟩ := nb_mem hx
          obtain ⟨b, hb, rfl⟩ := nb_mem hy
          obtain ⟨c1, c2, _⟩ := hc
          dsimp only at c1 c2 ⊢
          have hlt : q.1 < q.2.1 := (h.2.1.2.2.2.1 q hq).1
          refine ⟨good_two ⟨by omega, by omega⟩ ⟨by omega, by omega⟩ (by omega) (fun e => ?_), two_96 (by omega) (by omega)⟩
          obtain rfl : a = b := by omega
          omega
        · simp at hz3
theorem cnA_small (rs : List LSt) (ps : List LPr) (top : Int) (ids : List Int) (cs : List LCl) (e : bareC cs = cnA rs ps top ids) : CSm cs ∧ cs.length ≤ 5000 := by
  by_cases h : IdsR rs ps ids
  · have hl : cs.length = (cnA rs ps top ids).length := by rw [← e]; simp [bareC]
    have := cnA_4000 top h
    refine ⟨fun r hr => ?_, by omega⟩
    have hm : r.2 ∈ cnA rs ps top ids := by rw [← e]; exact List.mem_map.2 ⟨r, hr, rfl⟩
    obtain ⟨h1, h2⟩ := cnA_key top h _ hm
    exact ⟨by have := h1.1; omega, fun z hz => ⟨by have := h2 z hz; omega, by have := h2 z hz; omega⟩⟩
  · have h0 : cnA rs ps top ids = [] := by unfold cnA; rw [B_no h]; rfl
    rw [h0] at e
    have : cs = [] := by simpa [bareC] using e
    subst this
    exact ⟨CSm.nil, by simp⟩
noncomputable def askR (rs : List LSt) (ps : List LPr) (top : Int) (ids : List Int) (bud : Int) : Res × Int := solA (cnN rs ps top ids : Nat) (cnA rs ps top ids) bud
noncomputable def askP (rs : List LSt) (ps : List LPr) (top : Int) (ids : List Int) (bud : Int) : List LPl := poA rs ps top ids (askR rs ps top ids bud).1.2.1
theorem tot_small {cs : List LCl} (h : ∀ r ∈ cs, r.2.length ≤ 20) : totC cs ≤ 20 * cs.length := by
  induction cs with
  | nil => simp [totC]
  | cons a r ih =>
    have h1 := h a (List.mem_cons_self)
    have h2 := ih (fun x hx => h x (List.mem_cons_of_mem _ hx))
    simp only [totC, List.map_cons, List.sum_cons, List.length_cons] at *
    omega
theorem cs_fit {rs : List LSt} {ps : List LPr} {top : Int} {ids : List Int} {cs : List LCl} (e : bareC cs = cnA rs ps top ids) : cs.length ≤ maxLen ∧ totC cs ≤ 1048576 ∧ WfC cs := by
  obtain ⟨h1, h2⟩ := cnA_small rs ps top ids cs e
  refine ⟨by unfold maxLen; omega, by have := tot_small (fun r hr => (h1 r hr).1); omega, fun r hr z hz => ?_⟩
  have := (h1 r hr).2 z hz
  unfold wfI
  have e1 : IntKind.i64.min = -9223372036854775808 := by rfl
  have e2 : IntKind.i64.max = 9223372036854775807 := by rfl
  simp only [Lit.wf, Bool.and_eq_true, decide_eq_true_eq, e1, e2]
  omega
set_option maxHeartbeats 1000000 in
theorem iask_any (sl : Option Addr) (cap : Nat) (sl2 : Option Addr) (cap2 : Nat) (top : Int) (sl3 : Option Addr) (cap3 : Nat) (bud : Int) (rs : List LSt) (ps : List LPr) (ids : List Int) (w : World) (hn : rs.length ≤ 1048576) (hl : ids.length ≤ maxLen) (hz : Sts w sl rs) (hp : Prs w sl2 ps) (hw : ∀ p ∈ ps, WfP p) (hi : Ints w sl3 ids) (hT : TabB w) :
    Calls Tryz.prog 21 #[TV sl rs.length cap sl2 ps.length cap2, .int .i64 top, .slice sl3 ids.length cap3, .int .i64 bud] w (AskPost (400 < ids.length) (¬ (IdsR rs ps ids ∧ BudR bud)) (askR rs ps top ids bud).1 (enCells (askP rs ps top ids bud)) (askP rs ps top ids bud).length w) :=
  iaa_any sl rs.length cap sl2 ps.length cap2 top sl3 ids.length cap3 bud (IdsR rs ps ids) (askR rs ps top ids bud) (enCells (askP rs ps top ids bud)) (askP rs ps top ids bud).length w hl
    (fun W hW => iir_any sl cap sl2 cap2 sl3 cap3 rs ps ids W hn hl (hz.below hW) (hp.below hW) hw (hi.below hW))
    (fun _ _ _ W h hW HB => byc_any h sl rs.length cap sl2 ps.length cap2 top sl3 ids.length cap3 bud (cnN rs ps top ids : Nat) (cnA rs ps top ids) (enCells (askP rs ps top ids bud)) (askP rs ps top ids bud).length (askR rs ps top ids bud) W HB
      (fun W' hW' => ico_any sl cap sl2 cap2 sl3 cap3 rs ps top ids W' hn hl (hz.below (bT hW hW')) (hp.below (bT hW hW')) hw (hi.below (bT hW hW')))
      (fun W' v cs hW' o e => by
        obtain ⟨s, c, rfl, hc⟩ := o.cls
        obtain ⟨f1, f2, f3⟩ := cs_fit e
        have := iso_any (cnN rs ps top ids : Nat) bud s c cs W' f1 hc (fun l hl z hz => by obtain ⟨r, hr, rfl⟩ := List.mem_map.1 hl; exact f3 r hr z hz) (hT.belowT (bT hW hW'))
        rw [e] at this
        exact this)
      (fun W' v hW' o _ => by
        have ol := own_len o
        obtain ⟨s, c, rfl, hs⟩ := own_ints o
        exact ipo_any sl cap sl2 cap2 sl3 cap3 s c rs ps ids _ top W' hn hl ol (hz.below (bT hW hW')) (hp.below (bT hW hW')) hw (hi.below (bT hW hW')) hs))
theorem pidsL_app (a b : List LPl) : pidsL (a ++ b) = pidsL a ++ pidsL b := by simp [pidsL]
theorem poP_get (qs : List LPl) (ts : List Int) (k : Nat) (h : k < ts.length) : (pidsL (poP qs ts)).getD k 0 = (qs.getD (ts.getD k 0 - 1).toNat (0, 0)).1 := by
  simp [pidsL, poP, h]
set_option maxRecDepth 100000 in
set_option maxHeartbeats 4000000 in
theorem spo_any (sl : Option Addr) (cap : Nat) (sl2 : Option Addr) (cap2 : Nat) (sl3 : Option Addr) (cap3 : Nat) (sl4 : Option Addr) (cap4 : Nat) (rs : List LSt) (ps : List LPr) (ids ts : List Int) (top : Int) (w : World) (hn : rs.length ≤ 1048576) (hl : ids.length ≤ 1048576) (hm : ts.length ≤ 1048576) (hz : Sts w sl rs) (hp : Prs w sl2 ps) (hi : Ints w sl3 ids) (ht : Ints w sl4 ts) :
    Calls Tryz.prog 73 #[TV sl rs.length cap sl2 ps.length cap2, .int .i64 top, .slice sl3 ids.length cap3, .slice sl4 ts.length cap4] w fun e w' => ∃ v, e = .returned v ∧ w'.ownsRow w.heap.size 131 2 v (poA rs ps top ids ts).length (enCells (poA rs ps top ids ts)) ∧ Below w.heap.size w w' := by
  obtain ⟨i3, hi3, hd0, hd1, hd2⟩ := info_parts info34
  have HT := Lib.hid (TabAtD.new w sl rs.length cap sl2 ps.length cap2)
  have B0 := Lib.hid (bA (bA0 w (.cells #[.slice sl rs.length cap, .slice sl2 ps.length cap2] 26)) (.cells #[] 131))
  have X0 := Lib.hid (HT.out.below (bA0 (w.alloc (.cells #[.slice sl rs.length cap, .slice sl2 ps.length cap2] 26)) (.cells #[] 131)))
  have O0 := Lib.hid (own_e34 (w.alloc (.cells #[.slice sl rs.length cap, .slice sl2 ps.length cap2] 26)))
  rw [show (w.alloc (.cells #[.slice sl rs.length cap, .slice sl2 ps.length cap2] 26)).heap.size = w.heap.size + 1 by simp] at O0
  have E1 : Hid (∀ W, Below w.heap.size w W → Calls Tryz.prog 56 #[TV sl rs.length cap sl2 ps.length cap2, .slice sl3 ids.length cap3] W fun e w' => e = .returned (.bool (B (IdsR rs ps ids))) ∧ Below W.heap.size W w') := fun W hW => sir_any sl cap sl2 cap2 sl3 cap3 rs ps ids W hn hl (hz.below hW) (hp.below hW) (hi.below hW)
  have E2 : Hid (∀ W, Below w.heap.size w W → Calls Tryz.prog 112 #[.slice sl4 ts.length cap4] W fun e w' => e = .returned (.bool (B (RiseTo ts ts.length))) ∧ Below W.heap.size W w') := fun W hW => ri_any sl4 cap4 ts W hm (ht.below hW)
  have E3 : Hid (∀ q : Int, ∀ W, Below w.heap.size w W → Calls Tryz.prog 135 #[.slice sl4 ts.length cap4, .int .i64 1, .int .i64 q] W fun e w' => e = .returned (.bool (ts.all (inB 1 q))) ∧ w' = W) := fun q W hW => l01All_any 1 q sl4 cap4 ts W (by unfold maxLen; omega) (ht.below hW)
  by_cases h5 : 400 < ids.length
  · have h5' : (400 : Int) < (ids.length : Int) := by omega
    rw [poA_no (fun g => by have := g.2.1.1; omega)]
    have P := Lib.hid (own_mono O0.out (Nat.le_succ w.heap.size))
    clear hz hp hi ht E1 E2 E3 O0 X0 HT
    generalize rs.length = rn at *
    generalize ps.length = pn at *
    generalize ids.length = n at *
    generalize ts.length = m at *
    go_enter Tryz.func73, Tryz.ntmps73
    go_wp2
    go_ret
    exact ⟨_, rfl, P.out, B0.out⟩
  have h5' : ¬ (400 : Int) < (ids.length : Int) := by omega
  by_cases h4 : 400 < ts.length
  · have h4' : (400 : Int) < (ts.length : Int) := by omega
    rw [poA_no (fun g => by have := g.1; omega)]
    have P := Lib.hid (own_mono O0.out (Nat.le_succ w.heap.size))
    clear hz hp hi ht E1 E2 E3 O0 X0 HT
    generalize rs.length = rn at *
    generalize ps.length = pn at *
    generalize ids.length = n at *
    generalize ts.length = m at *
    go_enter Tryz.func73, Tryz.ntmps73
    go_wp2
    go_ret
    exact ⟨_, rfl, P.out, B0.out⟩
  have h4' : ¬ (400 : Int) < (ts.length : Int) := by omega
  cases hb : B (IdsR rs ps ids) with
  | false =>
    rw [poA_no (fun g => B_false hb g.2.1)]
    rw [hb] at E1
    have P := Lib.hid (own_mono O0.out (Nat.le_succ w.heap.size))
    clear hb hz hp hi ht E2 E3 HT X0 O0
    generalize rs.length = rn at *
    generalize ps.length = pn at *
    generalize ids.length = n at *
    generalize ts.length = m at *
    go_enter Tryz.func73, Tryz.ntmps73
    go_wp2_with fail
    refine (E1.out _ B0.out).mono ?_
    rintro e w1 ⟨rfl, b1⟩
    have D1 := Lib.hid (bT B0.out b1)
    have P1 := Lib.hid (own_below P.out b1)
    clear b1 E1 P
    go_wp2
    go_ret
    exact ⟨_, rfl, P1.out, D1.out⟩
  | true =>
    rw [hb] at E1
    have IR := B_true hb
    have hpl : (plF rs top ids).length ≤ 38400 := by
      have := plF_le top ids IR.2.1
      have := IR.1
      omega
    have E4 : Hid (∀ W, Below w.heap.size w W → Calls Tryz.prog 133 #[TV sl rs.length cap sl2 ps.length cap2, .int .i64 top, .slice sl3 ids.length cap3] W fun e w' => ∃ s c, e = .returned (.slice s (plF rs top ids).length c) ∧ w'.ownsRow W.heap.size 131 2 (.slice s (plF rs top ids).length c) (plF rs top ids).length (enCells (plF rs top ids)) ∧ Below W.heap.size W w') := fun W hW => by
      have := vars_any sl cap sl2 cap2 sl3 cap3 rs ps top ids W hn IR.1 (hz.below hW) (hp.below hW) IR.2.1 (hi.below hW)
      refine this.mono ?_
      rintro e w' ⟨v, rfl, o, bl⟩
      obtain ⟨s, c, rfl⟩ := own_v o
      exact ⟨s, c, rfl, o, bl⟩
    cases hr : B (RiseTo ts ts.length) with
    | false =>
      rw [poA_no (fun g => B_false hr ((InRise.iff 1 _ ts).1 g.2.2.1).1)]
      rw [hr] at E2
      clear hr E3
      clear hb hz hp hi ht IR
      generalize hPQ : plF rs top ids = qs at *
      clear hPQ
      generalize rs.length = rn at *
      generalize ps.length = pn at *
      generalize ids.length = n at *
      generalize ts.length = m at *
      go_enter Tryz.func73, Tryz.ntmps73
      go_wp2_with fail
      refine (E1.out _ B0.out).mono ?_
      rintro e w1 ⟨rfl, b1⟩
      have D1 := Lib.hid (bT B0.out b1)
      have TA := X0.out.below b1
      obtain ⟨t0, t1⟩ := TA.cells
      have tl := TA.lt
      have O1 := Lib.hid (own_below O0.out b1)
      clear b1 E1 TA HT X0 O0
      go_wp2_with fail
      refine (E4.out _ D1.out).mono ?_
      rintro e w5 ⟨s5, c5, rfl, o5, b5⟩
      have D5 := Lib.hid (bT D1.out b5)
      have OO := Lib.hid (own_below O1.out b5)
      have O5 := Lib.hid o5
      clear o5 b5 E4 t0 t1 tl O1
      go_wp2_with fail
      refine (E2.out _ D5.out).mono ?_
      rintro e w6 ⟨rfl, b6⟩
      have D6 := Lib.hid (bT D5.out b6)
      have O6 := Lib.hid (own_below OO.out b6)
      have Z6 := Lib.hid (own_below O5.out b6)
      clear b6 E2 OO O5
      have P := Lib.hid (own_mono O6.out (Nat.le_succ w.heap.size))
      go_wp2
      go_ret
      exact ⟨_, rfl, P.out, D6.out⟩
    | true =>
      rw [hr] at E2
      cases ha : ts.all (inB 1 (plF rs top ids).length) with
      | false =>
        rw [poA_no (fun g => by have := ((InRise.iff 1 _ ts).1 g.2.2.1).2; rw [ha] at this; cases this)]
        have E3' : Hid (∀ W, Below w.heap.size w W → Calls Tryz.prog 135 #[.slice sl4 ts.length cap4, .int .i64 1, .int .i64 ((plF rs top ids).length : Int)] W fun e w' => e = .returned (.bool false) ∧ w' = W) := fun W hW => by
          have := E3.out ((plF rs top ids).length : Int) W hW
          rwa [ha] at this
        clear hr ha E3
        clear hb hz hp hi ht IR
        generalize hPQ : plF rs top ids = qs at *
        clear hPQ
        generalize rs.length = rn at *
        generalize ps.length = pn at *
        generalize ids.length = n at *
        generalize ts.length = m at *
        go_enter Tryz.func73, Tryz.ntmps73
        go_wp2_with fail
        refine (E1.out _ B0.out).mono ?_
        rintro e w1 ⟨rfl, b1⟩
        have D1 := Lib.hid (bT B0.out b1)
        have TA := X0.out.below b1
        obtain ⟨t0, t1⟩ := TA.cells
        have tl := TA.lt
        have O1 := Lib.hid (own_below O0.out b1)
        clear b1 E1 TA HT X0 O0
        go_wp2_with fail
        refine (E4.out _ D1.out).mono ?_
        rintro e w5 ⟨s5, c5, rfl, o5, b5⟩
        have D5 := Lib.hid (bT D1.out b5)
        have OO := Lib.hid (own_below O1.out b5)
        have O5 := Lib.hid o5
        clear o5 b5 E4 t0 t1 tl O1
        go_wp2_with fail
        refine (E2.out _ D5.out).mono ?_
        rintro e w6 ⟨rfl, b6⟩
        have D6 := Lib.hid (bT D5.out b6)
        have O6 := Lib.hid (own_below OO.out b6)
        have Z6 := Lib.hid (own_below O5.out b6)
        clear b6 E2 OO O5
        go_wp2_with fail
        refine (E3'.out _ D6.out).mono ?_
        rintro e w7 ⟨rfl, rfl⟩
        have P := Lib.hid (own_mono O6.out (Nat.le_succ w.heap.size))
        go_wp2
        go_ret
        exact ⟨_, rfl, P.out, D6.out⟩
      | true =>
        have IT := Lib.hid ((InRise.iff 1 ((plF rs top ids).length : Int) ts).2 ⟨B_true hr, ha⟩)
        have E3' : Hid (∀ W, Below w.heap.size w W → Calls Tryz.prog 135 #[.slice sl4 ts.length cap4, .int .i64 1, .int .i64 ((plF rs top ids).length : Int)] W fun e w' => e = .returned (.bool true) ∧ w' = W) := fun W hW => by
          have := E3.out ((plF rs top ids).length : Int) W hW
          rwa [ha] at this
        clear hr ha E3
        by_cases hlen : ts.length = ids.length
        · have YY := Lib.hid (show pidsL (poP (plF rs top ids) ts) = ids → poA rs ps top ids ts = poP (plF rs top ids) ts from fun e => poA_yes ⟨by omega, IR, IT.out, e⟩)
          have NN := Lib.hid (show ∀ k, (pidsL (poP (plF rs top ids) ts)).getD k 0 ≠ ids.getD k 0 → poA rs ps top ids ts = [] from fun k e => poA_no (fun g => e (by rw [g.2.2.2])))
          have hlen' : ((ts.length : Int) != (ts.length : Int)) = false := by simp
          have HTS := Lib.hid ht
          have HIS := Lib.hid hi
          have HLL := Lib.hid hlen
          clear hb hz hp hi ht IR
          rw [← hlen] at E1 E4 h5' ⊢
          rw [← hlen] at hl h5
          clear hlen
          generalize poA rs ps top ids ts = ans at *
          generalize plF rs top ids = qs at *
          generalize rs.length = rn at *
          generalize ps.length = pn at *
          generalize hM : ts.length = m at *
          have HM := Lib.hid hM
          clear hM
          generalize hQ : qs.length = q at *
          have HQ := Lib.hid hQ
          clear hQ
          go_enter Tryz.func73, Tryz.ntmps73
          go_wp2_with fail
          refine (E1.out _ B0.out).mono ?_
          rintro e w1 ⟨rfl, b1⟩
          have D1 := Lib.hid (bT B0.out b1)
          have TA := X0.out.below b1
          obtain ⟨t0, t1⟩ := TA.cells
          have tl := TA.lt
          have O1 := Lib.hid (own_below O0.out b1)
          clear b1 E1 TA HT X0 O0
          go_wp2_with fail
          refine (E4.out _ D1.out).mono ?_
          rintro e w5 ⟨s5, c5, rfl, o5, b5⟩
          have D5 := Lib.hid (bT D1.out b5)
          have OO := Lib.hid (own_below O1.out b5)
          obtain ⟨wb, hwb⟩ : ∃ wb, wb = w1.heap.size := ⟨_, rfl⟩
          rw [← hwb] at o5
          have O5 := Lib.hid o5
          have hwb2 : w.heap.size + 1 < wb := by
            rw [hwb]
            exact (O1.out.lt (w.heap.size + 1) rfl).2
          clear o5 b5 E4 t0 t1 tl O1 hwb D1
          go_wp2_with fail
          refine (E2.out _ D5.out).mono ?_
          rintro e w6 ⟨rfl, b6⟩
          have D6 := Lib.hid (bT D5.out b6)
          have O6 := Lib.hid (own_below OO.out b6)
          have Z6 := Lib.hid (own_below O5.out b6)
          clear b6 E2 OO O5 D5
          go_wp2_with fail
          refine (E3'.out _ D6.out).mono ?_
          rintro e w7 ⟨rfl, rfl⟩
          clear E3'
          have NE0 := Lib.hid (show ∀ jj, (Value.slice s5 q c5).ownBlock = some jj → w.heap.size + 1 < jj ∧ jj < w7.heap.size from fun jj hj => by have := Z6.out.lt jj hj; omega)
          have hw7 := (O6.out.lt (w.heap.size + 1) rfl).2
          go_wp2
          go_loopw [9, 11] (fun v i wr => ∃ (k : Nat) (cu : List LPl), i = .int .i64 k ∧ k ≤ m ∧ cu.length ≤ k ∧ Hid (cu = poP qs (ts.take k) ∧ pidsL cu = ids.take k) ∧ Hid (wr.ownsRow (w.heap.size + 1) 131 2 v cu.length (enCells cu)) ∧ Hid (wr.ownsRow wb 131 2 (.slice s5 q c5) q (enCells qs)) ∧ Hid (∀ jj, v.ownBlock = some jj → (Value.slice s5 q c5).ownBlock ≠ some jj) ∧ Hid (Below (w.heap.size + 1) w7 wr)) (fun _ i _ => m - (intOf i).toNat)
          case atStart => exact ⟨0, [], rfl, Nat.zero_le _, Nat.zero_le _, ⟨rfl, rfl⟩, O6, Z6, (fun jj hj e => by have := NE0.out jj e; simp [Value.ownBlock] at hj; omega), Below.refl _ _⟩
          case round =>
            obtain ⟨k, cu, rfl, hk, hcl, HC, OR, OZ, NE, HB⟩ := hrel
            have hk0 : (0 : Int) ≤ (k : Int) := by omega
            have DW := Lib.hid (D6.out.trans (HB.out.mono (Nat.le_succ _)))
            have hsw := HB.out.size
            by_cases g1 : k < m
            · have g1' : (k : Int) < (m : Int) := by omega
              have hlt : k < ts.length := by rw [HM.out]; exact g1
              have hlti : k < ids.length := by rw [← HLL.out]; exact g1
              obtain ⟨g, o, rfl, TI⟩ : ∃ g o, sl4 = some ⟨g, o, none⟩ ∧ IntsAt w g o ts := by
                rcases HTS.out with e | h
                · rw [e] at hlt; simp at hlt
                · exact h
              obtain ⟨gi, oi, rfl, II⟩ : ∃ g o, sl3 = some ⟨g, o, none⟩ ∧ IntsAt w g o ids := by
                rcases HIS.out with e | h
                · rw [e] at hlti; simp at hlti
                · exact h
              have hc := (DW.out.cell (p := ⟨g, o + k, none⟩) TI.1).trans (TI.2 k hlt)
              have hci := (DW.out.cell (p := ⟨gi, oi + k, none⟩) II.1).trans (II.2 k hlti)
              have gl : g < wr.heap.size := Nat.lt_of_lt_of_le TI.1 DW.out.size
              have gil : gi < wr.heap.size := Nat.lt_of_lt_of_le II.1 DW.out.size
              have hzb := (IT.out k hlt).1
              have PS := Lib.hid (poP_step qs ts k hlt)
              have PG := Lib.hid (poP_get qs ts k hlt)
              have IS := Lib.hid (show ids.take (k + 1) = ids.take k ++ [ids.getD k 0] by rw [List.take_succ_eq_append_getElem hlti]; simp [hlti])
              have NK := Lib.hid (NN.out k)
              rw [PG.out] at NK
              clear hlt hlti TI II PG
              generalize ts.getD k 0 = z at *
              generalize ids.getD k 0 = x at *
              obtain ⟨z1, z2⟩ := hzb
              obtain ⟨j, rfl⟩ : ∃ j : Nat, z = (j : Int) + 1 := ⟨(z - 1).toNat, by omega⟩
              have hjq : j < q := by omega
              have hjn : ((j : Int) + 1 - 1).toNat = j := by omega
              have hlt2 : j < qs.length := by rw [HQ.out]; exact hjq
              obtain ⟨a, b, hpj⟩ : ∃ a b, qs[j] = (a, b) := ⟨_, _, rfl⟩
              have GD : qs.getD j (0, 0) = (a, b) := by rw [← hpj]; simp [hlt2]
              rw [hjn, GD] at PS NK
              have EC := enCells_at qs j hlt2
              rw [hpj] at EC
              dsimp only at EC
              obtain ⟨c, rfl, cl, d0, d1⟩ : ∃ c, s5 = some ⟨c, 0, none⟩ ∧ c < wr.heap.size ∧ wr.cell? ⟨c, j * 2, none⟩ = some (.int .i64 a) ∧ wr.cell? ⟨c, j * 2 + 1, none⟩ = some (.int .i64 b) := by
                have hZ2 := OZ.out
                rcases hZ2.2 with ⟨_, h0⟩ | ⟨g, cp, cur, hv, _, hg, _⟩
                · omega
                · obtain rfl : s5 = some ⟨g, 0, none⟩ := (Value.slice.inj hv).1
                  exact ⟨g, rfl, (Array.getElem?_eq_some_iff.1 hg).1, by rw [hZ2.cellAt (j * 2) (by omega), EC.1], by rw [hZ2.cellAt (j * 2 + 1) (by omega), EC.2]⟩
              have hjz : (0 : Int) ≤ (j : Int) := by omega
              have hjz2 : (j : Int) < (q : Int) := by omega
              have hwj : IntKind.i64.wrap (j : Int) = (j : Int) := by rw [IntKind.wrap_i64]; omega
              have KB : Hid (g < wr.drew.heap.size ∧ c < wr.drew.heap.size ∧ gi < wr.drew.heap.size ∧ wr.drew.cell? ⟨g, o + k, none⟩ = some (.int .i64 ((j : Int) + 1)) ∧ wr.drew.cell? ⟨c, j * 2, none⟩ = some (.int .i64 a) ∧ wr.drew.cell? ⟨gi, oi + k, none⟩ = some (.int .i64 x)) := ⟨gl, cl, gil, hc, d0, hci⟩
              clear hlt2 EC GD hpj hjn z1 z2
              by_cases hax : a = x
              · have hax' : (a != x) = false := by rw [hax]; simp
                have CS := Lib.hid (show cu ++ [(a, b)] = poP qs (ts.take (k + 1)) ∧ pidsL (cu ++ [(a, b)]) = ids.take (k + 1) from ⟨by rw [PS.out, HC.out.1], by rw [pidsL_app, HC.out.2, IS.out]; simp [pidsL, hax]⟩)
                have EV := Lib.hid (show enCells cu ++ [.int .i64 a, .int .i64 b] = enCells (cu ++ [(a, b)]) from (enCells_add cu (a, b)).symm)
                have O2 : Hid (wr.drew.ownsRow (w.heap.size + 1) 131 2 _ cu.length (enCells cu)) := OR.out
                have Z2 : Hid (wr.drew.ownsRow wb 131 2 (.slice (some ⟨c, 0, none⟩) q c5) q (enCells qs)) := OZ.out
                have H2 := Lib.hid HB.out.drew
                have hcd : wr.drew.cell? ⟨g, o + k, none⟩ = some (.int .i64 ((j : Int) + 1)) := hc
                have hdd0 : wr.drew.cell? ⟨c, j * 2, none⟩ = some (.int .i64 a) := d0
                have hdd1 : wr.drew.cell? ⟨c, j * 2 + 1, none⟩ = some (.int .i64 b) := d1
                have hgd : g < wr.drew.heap.size := gl
                have hcld : c < wr.drew.heap.size := cl
                clear hax PS IS NK HC OR OZ HB DW hc hci d0 d1
                go_wp2_with fail
                refine wp_region_held_drew (S := fun W => g < W.heap.size ∧ c < W.heap.size ∧ gi < W.heap.size ∧ W.cell? ⟨g, o + k, none⟩ = some (.int .i64 ((j : Int) + 1)) ∧ W.cell? ⟨c, j * 2, none⟩ = some (.int .i64 a) ∧ W.cell? ⟨gi, oi + k, none⟩ = some (.int .i64 x)) (by kernel_rfl) ?_ (fun hHeld => ?_)
                · exact KB.out
                refine wpAnyH_take (i := 0) (v := ?_) rfl (by kernel_rfl) (by kernel_rfl) (by kernel_rfl) (fun _ _ _ h => h) (Or.inl ⟨by rfl, ?_⟩) ‹_› ?_
                rotate_left
                · intro w hSw; (try dsimp only at hSw); go_simp; try with_reducible rfl
                try simp only [Act.put, setIfInBounds_toArray, set_cons_zero, set_cons_succ, getElem_toArray, getElem_cons_zero]
                refine wpAnyH_take (i := 1) (v := ?_) rfl (by kernel_rfl) (by kernel_rfl) (by kernel_rfl) (fun _ _ _ h => h) (Or.inl ⟨by rfl, ?_⟩) ‹_› ?_
                rotate_left
                · intro w hSw; (try dsimp only at hSw); go_simp; try with_reducible rfl
                try simp only [Act.put, setIfInBounds_toArray, set_cons_zero, set_cons_succ, getElem_toArray, getElem_cons_succ, getElem_cons_zero]
                refine wpAnyH_take (i := 2) (v := ?_) rfl (by kernel_rfl) (by kernel_rfl) (by kernel_rfl) (fun _ _ _ h => h) (Or.inl ⟨by rfl, ?_⟩) ‹_› ?_
                rotate_left
                · intro w hSw; (try dsimp only at hSw); go_simp; try with_reducible rfl
                try simp only [Act.put, setIfInBounds_toArray, set_cons_zero, set_cons_succ, getElem_toArray, getElem_cons_succ, getElem_cons_zero]
                refine wpAnyH_take (i := 3) (v := ?_) rfl (by kernel_rfl) (by kernel_rfl) (by kernel_rfl) (fun _ _ _ h => h) (Or.inl ⟨by rfl, ?_⟩) ‹_› ?_
                rotate_left
                · intro w hSw; (try dsimp only at hSw); go_simp; try with_reducible rfl
                try simp only [Act.put, setIfInBounds_toArray, set_cons_zero, set_cons_succ, getElem_toArray, getElem_cons_succ, getElem_cons_zero]
                refine wpAnyH_take (i := 4) (v := ?_) rfl (by kernel_rfl) (by kernel_rfl) (by kernel_rfl) (fun _ _ _ h => h) (Or.inl ⟨by rfl, ?_⟩) ‹_› ?_
                rotate_left
                · intro w hSw; (try dsimp only at hSw); go_simp; try with_reducible rfl
                try simp only [Act.put, setIfInBounds_toArray, set_cons_zero, set_cons_succ, getElem_toArray, getElem_cons_succ, getElem_cons_zero]
                refine wpAnyH_take (i := 5) (v := ?_) rfl (by kernel_rfl) (by kernel_rfl) (by kernel_rfl) (fun _ _ _ h => h) (Or.inl ⟨by rfl, ?_⟩) ‹_› ?_
                rotate_left
                · intro w hSw; (try dsimp only at hSw); go_simp; try with_reducible rfl
                try simp only [Act.put, setIfInBounds_toArray, set_cons_zero, set_cons_succ, getElem_toArray, getElem_cons_succ, getElem_cons_zero]
                refine wpAnyH_take (i := 6) (v := ?_) rfl (by kernel_rfl) (by kernel_rfl) (by kernel_rfl) (fun _ _ _ h => h) (Or.inl ⟨by rfl, ?_⟩) ‹_› ?_
                rotate_left
                · intro w hSw; (try dsimp only at hSw); go_simp; try with_reducible rfl
                try simp only [Act.put, setIfInBounds_toArray, set_cons_zero, set_cons_succ, getElem_toArray, getElem_cons_succ, getElem_cons_zero]
                refine wpAnyH_take (i := 7) (v := ?_) rfl (by kernel_rfl) (by kernel_rfl) (by kernel_rfl) (fun _ _ _ h => h) (Or.inl ⟨by rfl, ?_⟩) ‹_› ?_
                rotate_left
                · intro w hSw; (try dsimp only at hSw); go_simp; try with_reducible rfl
                try simp only [Act.put, setIfInBounds_toArray, set_cons_zero, set_cons_succ, getElem_toArray, getElem_cons_succ, getElem_cons_zero]
                refine wpAnyH_take (i := 8) (v := ?_) rfl (by kernel_rfl) (by kernel_rfl) (by kernel_rfl) (fun _ _ _ h => h) (Or.inl ⟨by rfl, ?_⟩) ‹_› ?_
                rotate_left
                · intro w hSw; (try dsimp only at hSw); go_simp; try with_reducible rfl
                try simp only [Act.put, setIfInBounds_toArray, set_cons_zero, set_cons_succ, getElem_toArray, getElem_cons_succ, getElem_cons_zero]
                refine wpAnyH_take (i := 9) (v := ?_) rfl (by kernel_rfl) (by kernel_rfl) (by kernel_rfl) (fun _ _ _ h => h) (Or.inl ⟨by rfl, ?_⟩) ‹_› ?_
                rotate_left
                · intro w hSw; (try dsimp only at hSw); go_simp; try with_reducible rfl
                try simp only [Act.put, setIfInBounds_toArray, set_cons_zero, set_cons_succ, getElem_toArray, getElem_cons_succ, getElem_cons_zero]
                refine wpAnyH_take (i := 10) (v := ?_) rfl (by kernel_rfl) (by kernel_rfl) (by kernel_rfl) (fun _ _ _ h => h) (Or.inl ⟨by rfl, ?_⟩) ‹_› ?_
                rotate_left
                · intro w hSw; (try dsimp only at hSw); go_simp; try with_reducible rfl
                try simp only [Act.put, setIfInBounds_toArray, set_cons_zero, set_cons_succ, getElem_toArray, getElem_cons_succ, getElem_cons_zero]
                refine wpAnyH_take (i := 11) (v := ?_) rfl (by kernel_rfl) (by kernel_rfl) (by kernel_rfl) (fun _ _ _ h => h) (Or.inl ⟨by rfl, ?_⟩) ‹_› ?_
                rotate_left
                · intro w hSw; (try dsimp only at hSw); go_simp; try with_reducible rfl
                try simp only [Act.put, setIfInBounds_toArray, set_cons_zero, set_cons_succ, getElem_toArray, getElem_cons_succ, getElem_cons_zero]
                refine wpAnyH_take (i := 12) (v := ?_) rfl (by kernel_rfl) (by kernel_rfl) (by kernel_rfl) (fun _ _ _ h => h) (Or.inl ⟨by rfl, ?_⟩) ‹_› ?_
                rotate_left
                · intro w hSw; (try dsimp only at hSw); go_simp; try with_reducible rfl
                try simp only [Act.put, setIfInBounds_toArray, set_cons_zero, set_cons_succ, getElem_toArray, getElem_cons_succ, getElem_cons_zero]
                refine wpAnyH_take (i := 13) (v := ?_) rfl (by kernel_rfl) (by kernel_rfl) (by kernel_rfl) (fun _ _ _ h => h) (Or.inl ⟨by rfl, ?_⟩) ‹_› ?_
                rotate_left
                · intro w hSw; (try dsimp only at hSw); go_simp; try with_reducible rfl
                try simp only [Act.put, setIfInBounds_toArray, set_cons_zero, set_cons_succ, getElem_toArray, getElem_cons_succ, getElem_cons_zero]
                refine wpAnyH_done (by kernel_rfl) ?_ _
                go_wp2_with (first | (at_builtin; refine wpList_append_lies _ rfl (.tmp 71) (.tmp 80) 28 rfl (w.heap.size + 1) 131 i3 (.agg #[.int .i64 0, .int .i64 0]) 2 16 Tryz.underlying28 hi3 hd0 hd1 hd2 rfl (by decide) _ _ _ rfl (O2.out.alloc _) ⟨wr.heap.size, 0, none⟩ 1 1 [.int .i64 a, .int .i64 b] rfl rfl (cell_two_new wr.drew _ _ _) (by intro u hu; simp at hu; rcases hu with rfl | rfl <;> rfl) (by decide) (by unfold maxLen; omega) (by omega) (by simp; omega) (wr.heap.size + 1) (by simp) ?_))
                intro g9 cap9 w9 own9 grow9 hg9 hlt9
                have B9 := Lib.hid ((bA1 H2.out (.cells #[.int .i64 a, .int .i64 b] 131) (by show w.heap.size + 1 ≤ wr.heap.size; omega)).grown grow9 (by show w.heap.size + 1 ≤ (wr.drew.alloc _).heap.size; simp; omega) (fun jj hj => (O2.out.lt jj hj).1))
                have Z9 := Lib.hid ((Z2.out.alloc (.cells #[.int .i64 a, .int .i64 b] 131)).kept grow9 (.inr (fun e => NE.out c e.symm rfl)))
                have NE9 : Hid (∀ jj, (Value.slice (some ⟨g9, 0, none⟩) (cu.length + 1) cap9).ownBlock = some jj → (Value.slice (some ⟨c, 0, none⟩) q c5).ownBlock ≠ some jj) := fun jj hj => by
                  obtain rfl : g9 = jj := by simpa [Value.ownBlock] using hj
                  rcases hg9 with h | h
                  · exact NE.out _ h
                  · intro e
                    have : c = g9 := by simpa [Value.ownBlock] using e
                    omega
                rw [EV.out] at own9
                have N9 : Hid (w9.ownsRow (w.heap.size + 1) 131 2 (.slice (some ⟨g9, 0, none⟩) (cu.length + 1) cap9) (cu ++ [(a, b)]).length (enCells (cu ++ [(a, b)]))) := by
                  rw [List.length_append]; exact own9
                have LL := Lib.hid (show (cu ++ [(a, b)]).length ≤ k + 1 by rw [List.length_append]; simp; omega)
                clear own9 grow9 hg9 hlt9 O2 Z2 H2 EV NE
                go_wp2
                go_roundw
                case rel => exact ⟨k + 1, cu ++ [(a, b)], by go_num, by omega, LL.out, CS, N9, Z9, NE9, B9⟩
                case measure => simp [intOf]; omega
              · have hax' : (a != x) = true := by simpa using hax
                have AN := Lib.hid (NK.out hax)
                have D9 := Lib.hid (bA DW.out.drew (.cells #[] 131))
                have O9 := Lib.hid (own_mono (own_e34 wr.drew) (show w.heap.size ≤ wr.drew.heap.size from DW.out.size))
                clear hax PS IS NK HC OR OZ HB DW hc hci d0 d1
                go_wp2_with fail
                refine wp_region_held_drew (S := fun W => g < W.heap.size ∧ c < W.heap.size ∧ gi < W.heap.size ∧ W.cell? ⟨g, o + k, none⟩ = some (.int .i64 ((j : Int) + 1)) ∧ W.cell? ⟨c, j * 2, none⟩ = some (.int .i64 a) ∧ W.cell? ⟨gi, oi + k, none⟩ = some (.int .i64 x)) (by kernel_rfl) ?_ (fun hHeld => ?_)
                · exact KB.out
                refine wpAnyH_take (i := 0) (v := ?_) rfl (by kernel_rfl) (by kernel_rfl) (by kernel_rfl) (fun _ _ _ h => h) (Or.inl ⟨by rfl, ?_⟩) ‹_› ?_
                rotate_left
                · intro w hSw; (try dsimp only at hSw); go_simp; try with_reducible rfl
                try simp only [Act.put, setIfInBounds_toArray, set_cons_zero, set_cons_succ, getElem_toArray, getElem_cons_zero]
                refine wpAnyH_take (i := 1) (v := ?_) rfl (by kernel_rfl) (by kernel_rfl) (by kernel_rfl) (fun _ _ _ h => h) (Or.inl ⟨by rfl, ?_⟩) ‹_› ?_
                rotate_left
                · intro w hSw; (try dsimp only at hSw); go_simp; try with_reducible rfl
                try simp only [Act.put, setIfInBounds_toArray, set_cons_zero, set_cons_succ, getElem_toArray, getElem_cons_succ, getElem_cons_zero]
                refine wpAnyH_take (i := 2) (v := ?_) rfl (by kernel_rfl) (by kernel_rfl) (by kernel_rfl) (fun _ _ _ h => h) (Or.inl ⟨by rfl, ?_⟩) ‹_› ?_
                rotate_left
                · intro w hSw; (try dsimp only at hSw); go_simp; try with_reducible rfl
                try simp only [Act.put, setIfInBounds_toArray, set_cons_zero, set_cons_succ, getElem_toArray, getElem_cons_succ, getElem_cons_zero]
                refine wpAnyH_take (i := 3) (v := ?_) rfl (by kernel_rfl) (by kernel_rfl) (by kernel_rfl) (fun _ _ _ h => h) (Or.inl ⟨by rfl, ?_⟩) ‹_› ?_
                rotate_left
                · intro w hSw; (try dsimp only at hSw); go_simp; try with_reducible rfl
                try simp only [Act.put, setIfInBounds_toArray, set_cons_zero, set_cons_succ, getElem_toArray, getElem_cons_succ, getElem_cons_zero]
                refine wpAnyH_take (i := 4) (v := ?_) rfl (by kernel_rfl) (by kernel_rfl) (by kernel_rfl) (fun _ _ _ h => h) (Or.inl ⟨by rfl, ?_⟩) ‹_› ?_
                rotate_left
                · intro w hSw; (try dsimp only at hSw); go_simp; try with_reducible rfl
                try simp only [Act.put, setIfInBounds_toArray, set_cons_zero, set_cons_succ, getElem_toArray, getElem_cons_succ, getElem_cons_zero]
                refine wpAnyH_take (i := 5) (v := ?_) rfl (by kernel_rfl) (by kernel_rfl) (by kernel_rfl) (fun _ _ _ h => h) (Or.inl ⟨by rfl, ?_⟩) ‹_› ?_
                rotate_left
                · intro w hSw; (try dsimp only at hSw); go_simp; try with_reducible rfl
                try simp only [Act.put, setIfInBounds_toArray, set_cons_zero, set_cons_succ, getElem_toArray, getElem_cons_succ, getElem_cons_zero]
                refine wpAnyH_take (i := 6) (v := ?_) rfl (by kernel_rfl) (by kernel_rfl) (by kernel_rfl) (fun _ _ _ h => h) (Or.inl ⟨by rfl, ?_⟩) ‹_› ?_
                rotate_left
                · intro w hSw; (try dsimp only at hSw); go_simp; try with_reducible rfl
                try simp only [Act.put, setIfInBounds_toArray, set_cons_zero, set_cons_succ, getElem_toArray, getElem_cons_succ, getElem_cons_zero]
                refine wpAnyH_take (i := 7) (v := ?_) rfl (by kernel_rfl) (by kernel_rfl) (by kernel_rfl) (fun _ _ _ h => h) (Or.inl ⟨by rfl, ?_⟩) ‹_› ?_
                rotate_left
                · intro w hSw; (try dsimp only at hSw); go_simp; try with_reducible rfl
                try simp only [Act.put, setIfInBounds_toArray, set_cons_zero, set_cons_succ, getElem_toArray, getElem_cons_succ, getElem_cons_zero]
                refine wpAnyH_take (i := 8) (v := ?_) rfl (by kernel_rfl) (by kernel_rfl) (by kernel_rfl) (fun _ _ _ h => h) (Or.inl ⟨by rfl, ?_⟩) ‹_› ?_
                rotate_left
                · intro w hSw; (try dsimp only at hSw); go_simp; try with_reducible rfl
                try simp only [Act.put, setIfInBounds_toArray, set_cons_zero, set_cons_succ, getElem_toArray, getElem_cons_succ, getElem_cons_zero]
                refine wpAnyH_take (i := 9) (v := ?_) rfl (by kernel_rfl) (by kernel_rfl) (by kernel_rfl) (fun _ _ _ h => h) (Or.inl ⟨by rfl, ?_⟩) ‹_› ?_
                rotate_left
                · intro w hSw; (try dsimp only at hSw); go_simp; try with_reducible rfl
                try simp only [Act.put, setIfInBounds_toArray, set_cons_zero, set_cons_succ, getElem_toArray, getElem_cons_succ, getElem_cons_zero]
                refine wpAnyH_take (i := 10) (v := ?_) rfl (by kernel_rfl) (by kernel_rfl) (by kernel_rfl) (fun _ _ _ h => h) (Or.inl ⟨by rfl, ?_⟩) ‹_› ?_
                rotate_left
                · intro w hSw; (try dsimp only at hSw); go_simp; try with_reducible rfl
                try simp only [Act.put, setIfInBounds_toArray, set_cons_zero, set_cons_succ, getElem_toArray, getElem_cons_succ, getElem_cons_zero]
                refine wpAnyH_take (i := 11) (v := ?_) rfl (by kernel_rfl) (by kernel_rfl) (by kernel_rfl) (fun _ _ _ h => h) (Or.inl ⟨by rfl, ?_⟩) ‹_› ?_
                rotate_left
                · intro w hSw; (try dsimp only at hSw); go_simp; try with_reducible rfl
                try simp only [Act.put, setIfInBounds_toArray, set_cons_zero, set_cons_succ, getElem_toArray, getElem_cons_succ, getElem_cons_zero]
                refine wpAnyH_take (i := 12) (v := ?_) rfl (by kernel_rfl) (by kernel_rfl) (by kernel_rfl) (fun _ _ _ h => h) (Or.inl ⟨by rfl, ?_⟩) ‹_› ?_
                rotate_left
                · intro w hSw; (try dsimp only at hSw); go_simp; try with_reducible rfl
                try simp only [Act.put, setIfInBounds_toArray, set_cons_zero, set_cons_succ, getElem_toArray, getElem_cons_succ, getElem_cons_zero]
                refine wpAnyH_take (i := 13) (v := ?_) rfl (by kernel_rfl) (by kernel_rfl) (by kernel_rfl) (fun _ _ _ h => h) (Or.inl ⟨by rfl, ?_⟩) ‹_› ?_
                rotate_left
                · intro w hSw; (try dsimp only at hSw); go_simp; try with_reducible rfl
                try simp only [Act.put, setIfInBounds_toArray, set_cons_zero, set_cons_succ, getElem_toArray, getElem_cons_succ, getElem_cons_zero]
                refine wpAnyH_done (by kernel_rfl) ?_ _
                go_wp2
                go_ret
                exact ⟨_, rfl, by rw [AN.out]; exact O9.out, D9.out⟩
            · have g1' : ¬ (k : Int) < (m : Int) := by omega
              have e1 : cu = poP qs ts := by rw [HC.out.1, List.take_of_length_le (by rw [HM.out]; omega)]
              have e2 : pidsL (poP qs ts) = ids := by rw [← e1, HC.out.2, List.take_of_length_le (by rw [← HLL.out]; omega)]
              have AN := Lib.hid ((YY.out e2).trans e1.symm)
              have P := Lib.hid (own_mono OR.out (Nat.le_succ w.heap.size))
              clear OR HC OZ e1 e2
              go_wp2
              go_ret
              exact ⟨_, rfl, by rw [AN.out]; exact P.out, DW.out⟩
        · have hlen' : ((ts.length : Int) != (ids.length : Int)) = true := by simpa using (show ¬ (ts.length : Int) = (ids.length : Int) by omega)
          rw [poA_no (fun g => hlen (by have := congrArg List.length g.2.2.2; simpa [pidsL, poP] using this))]
          clear hlen IT
          clear hb hz hp hi ht IR
          generalize hPQ : plF rs top ids = qs at *
          clear hPQ
          generalize rs.length = rn at *
          generalize ps.length = pn at *
          generalize ids.length = n at *
          generalize ts.length = m at *
          go_enter Tryz.func73, Tryz.ntmps73
          go_wp2_with fail
          refine (E1.out _ B0.out).mono ?_
          rintro e w1 ⟨rfl, b1⟩
          have D1 := Lib.hid (bT B0.out b1)
          have TA := X0.out.below b1
          obtain ⟨t0, t1⟩ := TA.cells
          have tl := TA.lt
          have O1 := Lib.hid (own_below O0.out b1)
          clear b1 E1 TA HT X0 O0
          go_wp2_with fail
          refine (E4.out _ D1.out).mono ?_
          rintro e w5 ⟨s5, c5, rfl, o5, b5⟩
          have D5 := Lib.hid (bT D1.out b5)
          have OO := Lib.hid (own_below O1.out b5)
          have O5 := Lib.hid o5
          clear o5 b5 E4 t0 t1 tl O1
          go_wp2_with fail
          refine (E2.out _ D5.out).mono ?_
          rintro e w6 ⟨rfl, b6⟩
          have D6 := Lib.hid (bT D5.out b6)
          have O6 := Lib.hid (own_below OO.out b6)
          have Z6 := Lib.hid (own_below O5.out b6)
          clear b6 E2 OO O5
          go_wp2_with fail
          refine (E3'.out _ D6.out).mono ?_
          rintro e w7 ⟨rfl, rfl⟩
          have P := Lib.hid (own_mono O6.out (Nat.le_succ w.heap.size))
          go_wp2
          go_ret
          exact ⟨_, rfl, P.out, D6.out⟩
theorem solF_len (css : List (List Int)) (V : Nat) : ∀ (n : Nat) (st : Int) (L : List (List Int)) (D : List Int), (solF css V n st L D).2.1.length ≤ V
  | 0, st, L, D => by simp [solF]
  | n + 1, st, L, D => by
    unfold solF
    split
    · split
      · exact trL_len _ _
      · exact solF_len css V n _ _ _
    · split
      · simp
      · exact solF_len css V n _ _ _
theorem askR_len (rs : List LSt) (ps : List LPr) (top : Int) (ids : List Int) (bud : Int) : (askR rs ps top ids bud).1.2.1.length ≤ 1048576 := by
  unfold askR
  by_cases h : SolOk (cnN rs ps top ids : Nat) (cnA rs ps top ids) bud
  · rw [solA_yes h]
    have h1 := solF_len (cnA rs ps top ids) ((cnN rs ps top ids : Nat) : Int).toNat bud.toNat 0 [] []
    have h2 := h.1.1.2
    refine Nat.le_trans h1 ?_
    omega
  · unfold solA
    rw [B_no h]
    simp
set_option maxHeartbeats 1000000 in
theorem sask_any (sl : Option Addr) (cap : Nat) (sl2 : Option Addr) (cap2 : Nat) (top : Int) (sl3 : Option Addr) (cap3 : Nat) (bud : Int) (rs : List LSt) (ps : List LPr) (ids : List Int) (w : World) (hn : rs.length ≤ 1048576) (hl : ids.length ≤ 1048576) (hz : Sts w sl rs) (hp : Prs w sl2 ps) (hi : Ints w sl3 ids) :
    Calls Tryz.prog 18 #[TV sl rs.length cap sl2 ps.length cap2, .int .i64 top, .slice sl3 ids.length cap3, .int .i64 bud] w (AskPost (400 < ids.length) (¬ (IdsR rs ps ids ∧ BudR bud)) (askR rs ps top ids bud).1 (enCells (askP rs ps top ids bud)) (askP rs ps top ids bud).length w) :=
  saa_any sl rs.length cap sl2 ps.length cap2 top sl3 ids.length cap3 bud (IdsR rs ps ids) (cnN rs ps top ids : Nat) (cnA rs ps top ids) (askR rs ps top ids bud) (enCells (askP rs ps top ids bud)) (askP rs ps top ids bud).length w (by unfold maxLen; omega)
    (fun W hW => sir_any sl cap sl2 cap2 sl3 cap3 rs ps ids W hn hl (hz.below hW) (hp.below hW) (hi.below hW))
    (fun W hW => sco_any sl cap sl2 cap2 sl3 cap3 rs ps top ids W hn hl (hz.below hW) (hp.below hW) (hi.below hW))
    (fun W v cs hW o e => by
      obtain ⟨s, c, rfl, hc⟩ := o.cls
      obtain ⟨f1, f2, f3⟩ := cs_fit e
      have := sso_any (cnN rs ps top ids : Nat) bud s c cs W f1 f2 f3 hc
      rw [e] at this
      exact this)
    (fun W v hW o _ => by
      obtain ⟨s, c, rfl, hs⟩ := own_ints o
      exact spo_any sl cap sl2 cap2 sl3 cap3 s c rs ps ids _ top W hn hl (askR_len rs ps top ids bud) (hz.below hW) (hp.below hW) (hi.below hW) hs)
end Go.Proofs.YtnihhbfgbilimaaGreatDoor
