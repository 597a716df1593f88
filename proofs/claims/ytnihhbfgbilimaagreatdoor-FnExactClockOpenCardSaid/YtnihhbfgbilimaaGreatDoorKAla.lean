import Derived.Test.YtnihhbfgbilimaaGreatDoorKHah
import Derived.Test.YtnihhbfgbilimaaGreatDoorAkd
import Derived.Test.YtnihhbfgbilimaaGreatDoorZSb
namespace Go.Proofs.YtnihhbfgbilimaaGreatDoor
open Go.RowKit
set_option linter.unusedVariables false
def CSm (cs : List LCl) : Prop := ∀ r ∈ cs, r.2.length ≤ 20 ∧ ∀ z ∈ r.2, -100 ≤ z ∧ z ≤ 100
theorem CSm.nil : CSm [] := fun r hr => by cases hr
theorem sub_len : ∀ (l m : List Int), l.Nodup → (∀ x ∈ l, x ∈ m) → l.length ≤ m.length
 | [], m, _, _ => Nat.zero_le _
 | a :: r, m, hd, h => by
  have ha := h a (by simp)
  rw [List.nodup_cons] at hd
  have h1 := sub_len r (m.erase a) hd.2 (fun x hx => by
   have hne : x ≠ a := fun e => hd.1 (e ▸ hx)
   exact (List.mem_erase_of_ne hne).2 (h x (by simp [hx])))
  rw [List.length_erase_of_mem ha] at h1
  have : 0 < m.length := List.length_pos_of_mem ha
  simp only [List.length_cons]
  omega
theorem rise_pair (zs : List Int) (h : RiseTo zs zs.length) (lo hi : Int) (hb : ∀ z ∈ zs, lo ≤ z ∧ z ≤ hi) : zs.Pairwise (· < ·) := by
 rw [List.pairwise_iff_getElem]
 intro i j hi' hj hij
 have := rise_lt zs lo hi (fun k hk => ⟨hb _ (getD_mem hk), fun h0 => h k hk h0⟩) i j hij hj
 simpa [hi', hj] using this
theorem ids_pair {rs : List LSt} {ps : List LPr} {zs : List Int} (h : IdsR rs ps zs) : zs.Pairwise (· < ·) := rise_pair zs h.2.2.1 1 999 (fun z hz => h.2.1.2.2.1.mem (h.2.2.2 z hz))
theorem ids_few {rs : List LSt} {ps : List LPr} {zs : List Int} (h : IdsR rs ps zs) : zs.length ≤ 12 := by
 have h1 : zs.Nodup := (ids_pair h).imp (fun h => by omega)
 have h2 := sub_len zs (idsL rs) h1 h.2.2.2
 have h3 := h.2.1.1.2.1
 rw [show (idsL rs).length = rs.length by simp [idsL]] at h2
 omega
theorem lv_pos {z : Int} (h : 0 < z) (h2 : z ≤ 100000) : lv z = z := by
 unfold lv wrap64
 rw [Int.max_def]; split <;> omega
theorem lv_neg {z : Int} (h : 0 < z) (h2 : z ≤ 100000) : lv (-z) = z := by
 unfold lv wrap64
 rw [Int.max_def]; split <;> omega
theorem nb_mem {V : List LPl} {e : LNb} (h : e ∈ nbF 0 V) : ∃ m, ∃ hm : m < V.length, e = (V[m], (m : Int) + 1) := by
 obtain ⟨m, hm, rfl⟩ := List.getElem_of_mem h
 rw [nbF_len] at hm
 refine ⟨m, hm, ?_⟩
 rw [nbF_at V 0 m hm]
 simp
theorem nb_up (V : List LPl) : (nbF 0 V).Pairwise (fun x y => x.2 < y.2) := by
 rw [List.pairwise_iff_getElem]
 intro i j hi hj hij
 rw [nbF_len] at hi hj
 rw [nbF_at V 0 i hi, nbF_at V 0 j hj]
 show (0 : Int) + i + 1 < 0 + j + 1
 omega
theorem twoS_mem : ∀ (l : List LNb), l.Pairwise (fun x y => x.2 < y.2) → ∀ zs ∈ twoS l, ∃ x ∈ l, ∃ y ∈ l, x.2 < y.2 ∧ x.1.1 = y.1.1 ∧ zs = [-x.2, -y.2]
 | [], _, zs, h => by simp [twoS] at h
 | x :: r, hp, zs, h => by
  rw [List.pairwise_cons] at hp
  unfold twoS at h
  rcases List.mem_append.1 h with h | h
  ·obtain ⟨y, hy, rfl⟩ := List.mem_map.1 h
   unfold ofId at hy
   rw [List.mem_filter] at hy
   have e : y.1.1 = x.1.1 := by simpa using hy.2
   exact ⟨x, by simp, y, by simp [hy.1], hp.1 y hy.1, e.symm, rfl⟩
  ·obtain ⟨a, ha, b, hb, h1⟩ := twoS_mem r hp.2 zs h
   exact ⟨a, by simp [ha], b, by simp [hb], h1⟩
theorem rise_ne {lo hi : Int} {zs : List Int} (h : InRise lo hi zs) : zs.Pairwise (· ≠ ·) := by
 rw [List.pairwise_iff_getElem]
 intro i j hi' hj hij
 have := rise_lt zs lo hi h i j hij hj
 simp [hi', hj] at this
 intro e
 rw [e] at this
 omega
theorem fm_len {α β : Type} (f : α → List β) (m : Nat) : ∀ l : List α, (∀ x ∈ l, (f x).length ≤ m) → (l.flatMap f).length ≤ l.length * m := by
 intro l
 induction l with
 | nil => intro _; simp
 | cons x l ih =>
  intro h
  have h1 := h x (by simp)
  have h2 := ih (fun y hy => h y (by simp [hy]))
  rw [List.flatMap_cons, List.length_append, List.length_cons, Nat.add_mul]
  omega
theorem dom_8 (rs : List LSt) (ps : List LPr) (id top : Int) (h : TabR rs ps) : (rs.flatMap (domF id top)).length ≤ 8 := by
 by_cases hm : id ∈ idsL rs
 ·obtain ⟨k, hk, ep, hid⟩ := pos_at rs id hm
  have hu : ∀ i (h : i < rs.length), i ≠ k → rs[i].1 ≠ id := fun i hi hne e => by
   have r := rise_ne h.2.2.1
   rw [List.pairwise_iff_getElem] at r
   rcases Nat.lt_or_gt_of_ne hne with g | g
   ·exact r i k (by simpa [idsL] using hi) (by simpa [idsL] using hk) g (by rw [idsL_at rs i _ hi, idsL_at rs k _ hk, e, hid])
   ·exact r k i (by simpa [idsL] using hk) (by simpa [idsL] using hi) g (by rw [idsL_at rs i _ hi, idsL_at rs k _ hk, e, hid])
  rw [flat_one id top rs k hk hid hu]
  exact Nat.le_trans (List.length_filter_le _ _) (h.2.1 _ (List.getElem_mem hk)).2.1.2
 ·rw [flat_none id top rs hm]; simp
theorem plF_96 {rs : List LSt} {ps : List LPr} (top : Int) (ids : List Int) (h : IdsR rs ps ids) : (plF rs top ids).length ≤ 96 := by
 have h1 : ∀ id ∈ ids, (chF rs top id).length ≤ 8 := fun id _ => by
  unfold chF; rw [List.length_map]; exact dom_8 rs ps id top h.2.1
 have := fm_len (chF rs top) 8 ids h1
 have := ids_few h
 unfold plF
 omega
theorem twoF_8 : ∀ zs : List Int, zs.length ≤ 8 → (twoF zs).length ≤ 8 * zs.length
 | [], _ => by simp [twoF]
 | x :: r, h => by
  simp only [List.length_cons] at h ⊢
  have := twoF_8 r (by omega)
  unfold twoF
  rw [List.length_append, List.length_map]
  omega
theorem besF_8 (ps : List LPr) (A C : List LNb) (ha : A.length ≤ 8) (hc : C.length ≤ 8) : (besF ps A C).length ≤ 64 := by
 have h1 : ∀ x ∈ A, (C.flatMap fun y => if mayL ps x.1.1 x.1.2 y.1.1 y.1.2 = true then [] else [[-x.2, -y.2]]).length ≤ 8 := fun x _ => by
  have := fm_len (fun y : LNb => if mayL ps x.1.1 x.1.2 y.1.1 y.1.2 = true then [] else [[-x.2, -y.2]]) 1 C (fun y _ => by split <;> simp)
  omega
 have := fm_len _ 8 A h1
 unfold besF
 omega
theorem nbs_8 (rs : List LSt) (ps : List LPr) (top : Int) (h : TabR rs ps) : ∀ (ids : List Int) (last : Int), ∀ b ∈ nbsF last (ids.map (chF rs top)), b.length ≤ 8 := by
 intro ids
 induction ids with
 | nil => intro last b hb; simp [nbsF] at hb
 | cons x r ih =>
  intro last b hb
  simp only [List.map_cons, nbsF, List.mem_cons] at hb
  rcases hb with rfl | hb
  ·rw [nbF_len]; unfold chF; rw [List.length_map]; exact dom_8 rs ps x top h
  ·exact ih _ b hb
theorem cnA_4000 {rs : List LSt} {ps : List LPr} (top : Int) {ids : List Int} (h : IdsR rs ps ids) : (cnA rs ps top ids).length ≤ 4000 := by
 unfold cnA
 rw [B_yes h, if_pos rfl]
 unfold cnfI
 have hb := nbs_8 rs ps top h.2.1 ids 0
 have hl : (nbsF 0 (ids.map (chF rs top))).length = ids.length := by rw [nbsF_len, List.length_map]
 generalize nbsF 0 (ids.map (chF rs top)) = bs at *
 have h12 := ids_few h
 have h40 := h.2.1.1.2.2
 have h1 := fm_len (fun b : List LNb => twoF (b.map fun e => e.2)) 64 bs (fun b hb' => by
  have := hb b hb'
  have := twoF_8 (b.map fun e => e.2) (by rw [List.length_map]; exact this)
  rw [List.length_map] at this
  omega)
 have hg : ∀ i, (bs.getD i []).length ≤ 8 := fun i => by
  by_cases hi : i < bs.length
  ·simp only [List.getD_eq_getElem?_getD, List.getElem?_eq_getElem hi, Option.getD_some]; exact hb _ (List.getElem_mem hi)
  ·simp [List.getD_eq_getElem?_getD, List.getElem?_eq_none (by omega : bs.length ≤ i)]
 have h2 := fm_len (besI ps ids bs) 64 ps (fun p _ => by
  unfold besI
  split
  ·exact besF_8 ps _ _ (hg _) (hg _)
  ·simp)
 simp only [List.length_append, List.length_map]
 omega
theorem good_two {vars x y : Int} (hx : 1 ≤ x ∧ x ≤ vars) (hy : 1 ≤ y ∧ y ≤ vars) (hv : vars ≤ 96) (hne : x ≠ y) : ClR vars [-x, -y] := by
 refine ⟨by simp, fun z hz => ?_, ?_⟩
 ·simp only [List.mem_cons, List.not_mem_nil, or_false] at hz
  rcases hz with rfl | rfl
  ·rw [lv_neg (by omega) (by omega)]; exact hx
  ·rw [lv_neg (by omega) (by omega)]; exact hy
 ·simp only [List.map_cons, List.map_nil]
  rw [lv_neg (by omega) (by omega), lv_neg (by omega) (by omega)]
  simp [hne]
theorem two_96 {x y : Int} (hx : 0 ≤ x ∧ x ≤ 96) (hy : 0 ≤ y ∧ y ≤ 96) : ∀ z ∈ [-x, -y], -96 ≤ z ∧ z ≤ 96 := fun z hz => by
 simp only [List.mem_cons, List.not_mem_nil, or_false] at hz
 rcases hz with rfl | rfl <;> omega
theorem cnA_key {rs : List LSt} {ps : List LPr} (top : Int) {ids : List Int} (h : IdsR rs ps ids) : ∀ zs ∈ cnA rs ps top ids, ClR (cnN rs ps top ids : Nat) zs ∧ ∀ z ∈ zs, -96 ≤ z ∧ z ≤ 96 := by
 have hN : cnN rs ps top ids = (plF rs top ids).length := by unfold cnN; rw [B_yes h]; rfl
 have h96 := plF_96 top ids h
 have h4 := cnA_4000 top h
 have h8 : ∀ id, (ownA (plF rs top ids) id).length ≤ 96 := fun id => by
  unfold ownA ofId
  rw [List.length_map]
  exact Nat.le_trans (List.length_filter_le _ _) (by rw [nbF_len]; exact h96)
 ·
  intro zs hz
  have hrow : ∀ b ∈ nbsF 0 (ids.map (chF rs top)), b.length ≤ 8 := nbs_8 rs ps top h.2.1 ids 0
  have hflat : (nbsF 0 (ids.map (chF rs top))).flatten = nbF 0 (plF rs top ids) := by rw [nbsF_flat]; rfl
  by_cases hown : zs ∈ (nbsF 0 (ids.map (chF rs top))).map (fun b => b.map fun e => e.2)
  ·obtain ⟨b, hb, rfl⟩ := List.mem_map.1 hown
   have hsub : List.Sublist b (nbF 0 (plF rs top ids)) := by rw [← hflat]; exact List.sublist_flatten_of_mem hb
   have hup : (b.map fun e => e.2).Pairwise (· < ·) := by rw [List.pairwise_map]; exact (nb_up _).sublist hsub
   have hin : ∀ z ∈ (b.map fun e => e.2), 1 ≤ z ∧ z ≤ ((plF rs top ids).length : Int) := fun z hz => by
    obtain ⟨e, he, rfl⟩ := List.mem_map.1 hz
    obtain ⟨m, hm, rfl⟩ := nb_mem (hsub.subset he)
    exact ⟨by show (1 : Int) ≤ (m : Int) + 1; omega, by show (m : Int) + 1 ≤ _; omega⟩
   refine ⟨⟨by rw [List.length_map]; have := hrow b hb; omega, fun z hz => ?_, ?_⟩, fun z hz => ⟨by have := hin z hz; omega, by have := hin z hz; omega⟩⟩
   ·have := hin z hz
    rw [lv_pos (by omega) (by omega), hN]; exact this
   ·have e : (b.map fun e => e.2).map lv = b.map fun e => e.2 := by
     rw [List.map_congr_left (g := id) (fun z hz => by have := hin z hz; rw [lv_pos (by omega) (by omega)]; rfl), List.map_id]
    rw [e]
    exact hup.imp (fun {a c} hab e => by omega)
  ·have hz2 := hz
   unfold cnA at hz2
   rw [B_yes h, if_pos rfl] at hz2
   rw [cnA_spec top h] at hz
   have hz3 : zs ∈ twoS (nbF 0 (plF rs top ids)) ++ ps.flatMap (besS ps (nbF 0 (plF rs top ids))) := by
    unfold cnfI at hz2
    rcases List.mem_append.1 hz2 with g | g
    ·exact absurd g hown
    ·have e1 := cnf_same ps ids (nbsF 0 (ids.map (chF rs top))) (ofIds_ch rs top ids 0) ((ids_pair h).imp (fun {a b} hab e => by omega))
     unfold cnfI cnfS at e1
     rw [hflat] at e1
     have e2 := List.append_inj_right e1 (by rw [List.length_map, List.length_map, nbsF_len, List.length_map])
     rw [← e2]; exact g
   rw [hN]
   rcases List.mem_append.1 hz3 with hz3 | hz3
   ·obtain ⟨x, hx, y, hy, hxy, _, rfl⟩ := twoS_mem _ (nb_up _) zs hz3
    obtain ⟨a, ha, rfl⟩ := nb_mem hx
    obtain ⟨b, hb, rfl⟩ := nb_mem hy
    dsimp only at hxy ⊢
    exact ⟨good_two ⟨by omega, by omega⟩ ⟨by omega, by omega⟩ (by omega) (by omega), two_96 (by omega) (by omega)⟩
   ·obtain ⟨q, hq, hz3⟩ := List.mem_flatMap.1 hz3
    unfold besS at hz3
    obtain ⟨x, hx, hz3⟩ := List.mem_flatMap.1 hz3
    obtain ⟨y, hy, hz3⟩ := List.mem_flatMap.1 hz3
    split at hz3
    ·rename_i hc
     rw [List.mem_singleton] at hz3
     subst hz3
     obtain ⟨a, ha, rfl⟩ := nb_mem hx
     obtain ⟨b, hb, rfl⟩ := nb_mem hy
     obtain ⟨c1, c2, _⟩ := hc
     dsimp only at c1 c2 ⊢
     have hlt : q.1 < q.2.1 := (h.2.1.2.2.2.1 q hq).1
     refine ⟨good_two ⟨by omega, by omega⟩ ⟨by omega, by omega⟩ (by omega) (fun e => ?_), two_96 (by omega) (by omega)⟩
     obtain rfl : a = b := by omega
     omega
    ·simp at hz3
theorem cnA_small (rs : List LSt) (ps : List LPr) (top : Int) (ids : List Int) (cs : List LCl) (e : bareC cs = cnA rs ps top ids) : CSm cs ∧ cs.length ≤ 5000 := by
 by_cases h : IdsR rs ps ids
 ·have hl : cs.length = (cnA rs ps top ids).length := by rw [← e]; simp [bareC]
  have := cnA_4000 top h
  refine ⟨fun r hr => ?_, by omega⟩
  have hm : r.2 ∈ cnA rs ps top ids := by rw [← e]; exact List.mem_map.2 ⟨r, hr, rfl⟩
  obtain ⟨h1, h2⟩ := cnA_key top h _ hm
  exact ⟨by have := h1.1; omega, fun z hz => ⟨by have := h2 z hz; omega, by have := h2 z hz; omega⟩⟩
 ·have h0 : cnA rs ps top ids = [] := by unfold cnA; rw [B_no h]; rfl
  rw [h0] at e
  have : cs = [] := by simpa [bareC] using e
  subst this
  exact ⟨CSm.nil, by simp⟩
noncomputable def askR (rs : List LSt) (ps : List LPr) (top : Int) (ids : List Int) (bud : Int) : Res × Int := solA (cnN rs ps top ids : Nat) (cnA rs ps top ids) bud
noncomputable def askP (rs : List LSt) (ps : List LPr) (top : Int) (ids : List Int) (bud : Int) : List LPl := poA rs ps top ids (askR rs ps top ids bud).1.2.1
theorem tot_small {cs : List LCl} (h : ∀ r ∈ cs, r.2.length ≤ 20) : totC cs ≤ 20 * cs.length := by
 induction cs with
 | nil => simp [totC]
 | cons a r ih =>
  have h1 := h a (List.mem_cons_self)
  have h2 := ih (fun x hx => h x (List.mem_cons_of_mem _ hx))
  simp only [totC, List.map_cons, List.sum_cons, List.length_cons] at *
  omega
theorem cs_fit {rs : List LSt} {ps : List LPr} {top : Int} {ids : List Int} {cs : List LCl} (e : bareC cs = cnA rs ps top ids) : cs.length ≤ maxLen ∧ totC cs ≤ 1048576 ∧ WfC cs := by
 obtain ⟨h1, h2⟩ := cnA_small rs ps top ids cs e
 refine ⟨by unfold maxLen; omega, by have := tot_small (fun r hr => (h1 r hr).1); omega, fun r hr z hz => ?_⟩
 have := (h1 r hr).2 z hz
 unfold wfI
 have e1 : IntKind.i64.min = -9223372036854775808 := by rfl
 have e2 : IntKind.i64.max = 9223372036854775807 := by rfl
 simp only [Lit.wf, Bool.and_eq_true, decide_eq_true_eq, e1, e2]
 omega
set_option maxHeartbeats 1000000 in
theorem iask_any (sl : Option Addr) (cap : Nat) (sl2 : Option Addr) (cap2 : Nat) (top : Int) (sl3 : Option Addr) (cap3 : Nat) (bud : Int) (rs : List LSt) (ps : List LPr) (ids : List Int) (w : World) (hn : rs.length ≤ 1048576) (hl : ids.length ≤ maxLen) (hz : Sts w sl rs) (hp : Prs w sl2 ps) (hw : ∀ p ∈ ps, WfP p) (hi : Ints w sl3 ids) (hT : TabB w) :
  Calls Tryz.prog 21 #[TV sl rs.length cap sl2 ps.length cap2, .int .i64 top, .slice sl3 ids.length cap3, .int .i64 bud] w (AskPost (400 < ids.length) (¬ (IdsR rs ps ids ∧ BudR bud)) (askR rs ps top ids bud).1 (enCells (askP rs ps top ids bud)) (askP rs ps top ids bud).length w) :=
 iaa_any sl rs.length cap sl2 ps.length cap2 top sl3 ids.length cap3 bud (IdsR rs ps ids) (askR rs ps top ids bud) (enCells (askP rs ps top ids bud)) (askP rs ps top ids bud).length w hl
  (fun W hW => iir_any sl cap sl2 cap2 sl3 cap3 rs ps ids W hn hl (hz.below hW) (hp.below hW) hw (hi.below hW))
  (fun _ _ _ W h hW HB => byc_any h sl rs.length cap sl2 ps.length cap2 top sl3 ids.length cap3 bud (cnN rs ps top ids : Nat) (cnA rs ps top ids) (enCells (askP rs ps top ids bud)) (askP rs ps top ids bud).length (askR rs ps top ids bud) W HB
   (fun W' hW' => ico_any sl cap sl2 cap2 sl3 cap3 rs ps top ids W' hn hl (hz.below (bT hW hW')) (hp.below (bT hW hW')) hw (hi.below (bT hW hW')))
   (fun W' v cs hW' o e => by
    obtain ⟨s, c, rfl, hc⟩ := o.cls
    obtain ⟨f1, f2, f3⟩ := cs_fit e
    have := iso_any (cnN rs ps top ids : Nat) bud s c cs W' f1 hc (fun l hl z hz => by obtain ⟨r, hr, rfl⟩ := List.mem_map.1 hl; exact f3 r hr z hz) (hT.belowT (bT hW hW'))
    rw [e] at this
    exact this)
   (fun W' v hW' o _ => by
    have ol := own_len o
    obtain ⟨s, c, rfl, hs⟩ := own_ints o
    exact ipo_any sl cap sl2 cap2 sl3 cap3 s c rs ps ids _ top W' hn hl ol (hz.below (bT hW hW')) (hp.below (bT hW hW')) hw (hi.below (bT hW hW')) hs))
end Go.Proofs.YtnihhbfgbilimaaGreatDoor
