/-
  THE CLAUSES OF A TABLE ARE RIGHT, as lists: how many, how long, of which literals (turned from the clauses' own seat).
  CLAUSES AND A BUDGET, DRAWN: l09Budget, DrawSolve.
  BYTES AS THEY ARE HANDED IN can be read.
  THE MODEL'S SEARCH: spec.Solve.
  NUMBERS COPIED AND COMPARED, AND LISTS OF THEM: lwCopy, lwSame, lwLists.
-/
import Derived.Test.YtendehejodgljaaJaf
import Derived.Test.YtendehejodgljaaJae
import Derived.Test.YtendehejodgljaaJad
import Derived.Test.YtendehejodgljaaJac
import Derived.Test.YtendehejodgljaaJag
import Derived.Test.YtendehejodgljaaJab
import Derived.Test.YtendehejodgljaaJaa
import Derived.Test.YtendehejodgljaaJaq
import Derived.Test.YtendehejodgljaaJaj
import Derived.Test.YtendehejodgljaaJak
namespace Go.Proofs.Ytendehejodgljaa
open Go.RowKit
set_option linter.unusedVariables false

theorem nbsF_len (ds : List (List LPl)) : ∀ last, (nbsF last ds).length = ds.length := by
  induction ds with
  | nil => intro _; rfl
  | cons d r ih => intro last; simp [nbsF, ih]
theorem sub_len : ∀ (l m : List Int), l.Nodup → (∀ x ∈ l, x ∈ m) → l.length ≤ m.length
  | [], m, _, _ => Nat.zero_le _
  | a :: r, m, hd, h => by
    have ha := h a (by simp)
    rw [List.nodup_cons] at hd
    have h1 := sub_len r (m.erase a) hd.2 (fun x hx => by
      have hne : x ≠ a := fun e => hd.1 (e ▸ hx)
      exact (List.mem_erase_of_ne hne).2 (h x (by simp [hx])))
    rw [List.length_erase_of_mem ha] at h1
    have : 0 < m.length := List.length_pos_of_mem ha
    simp only [List.length_cons]
    omega
theorem rise_pair (zs : List Int) (h : RiseTo zs zs.length) (lo hi : Int) (hb : ∀ z ∈ zs, lo ≤ z ∧ z ≤ hi) : zs.Pairwise (· < ·) := by
  rw [List.pairwise_iff_getElem]
  intro i j hi' hj hij
  have := rise_lt zs lo hi (fun k hk => ⟨hb _ (getD_mem hk), fun h0 => h k hk h0⟩) i j hij hj
  simpa [hi', hj] using this
theorem ids_pair {rs : List LSt} {ps : List LPr} {zs : List Int} (h : IdsR rs ps zs) : zs.Pairwise (· < ·) := rise_pair zs h.2.2.1 1 999 (fun z hz => h.2.1.2.2.1.mem (h.2.2.2 z hz))
theorem ids_few {rs : List LSt} {ps : List LPr} {zs : List Int} (h : IdsR rs ps zs) : zs.length ≤ 12 := by
  have h1 : zs.Nodup := (ids_pair h).imp (fun h => by omega)
  have h2 := sub_len zs (idsL rs) h1 h.2.2.2
  have h3 := h.2.1.1.2.1
  rw [show (idsL rs).length = rs.length by simp [idsL]] at h2
  omega
theorem lv_pos {z : Int} (h : 0 < z) (h2 : z ≤ 100000) : lv z = z := by
  unfold lv wrap64
  rw [Int.max_def]; split <;> omega
theorem lv_neg {z : Int} (h : 0 < z) (h2 : z ≤ 100000) : lv (-z) = z := by
  unfold lv wrap64
  rw [Int.max_def]; split <;> omega
theorem nb_mem {V : List LPl} {e : LNb} (h : e ∈ nbF 0 V) : ∃ m, ∃ hm : m < V.length, e = (V[m], (m : Int) + 1) := by
  obtain ⟨m, hm, rfl⟩ := List.getElem_of_mem h
  rw [nbF_len] at hm
  refine ⟨m, hm, ?_⟩
  rw [nbF_at V 0 m hm]
  simp
theorem nb_up (V : List LPl) : (nbF 0 V).Pairwise (fun x y => x.2 < y.2) := by
  rw [List.pairwise_iff_getElem]
  intro i j hi hj hij
  rw [nbF_len] at hi hj
  rw [nbF_at V 0 i hi, nbF_at V 0 j hj]
  show (0 : Int) + i + 1 < 0 + j + 1
  omega
theorem twoS_mem : ∀ (l : List LNb), l.Pairwise (fun x y => x.2 < y.2) → ∀ zs ∈ twoS l, ∃ x ∈ l, ∃ y ∈ l, x.2 < y.2 ∧ x.1.1 = y.1.1 ∧ zs = [-x.2, -y.2]
  | [], _, zs, h => by simp [twoS] at h
  | x :: r, hp, zs, h => by
    rw [List.pairwise_cons] at hp
    unfold twoS at h
    rcases List.mem_append.1 h with h | h
    · obtain ⟨y, hy, rfl⟩ := List.mem_map.1 h
      unfold ofId at hy
      rw [List.mem_filter] at hy
      have e : y.1.1 = x.1.1 := by simpa using hy.2
      exact ⟨x, by simp, y, by simp [hy.1], hp.1 y hy.1, e.symm, rfl⟩
    · obtain ⟨a, ha, b, hb, h1⟩ := twoS_mem r hp.2 zs h
      exact ⟨a, by simp [ha], b, by simp [hb], h1⟩
theorem rise_ne {lo hi : Int} {zs : List Int} (h : InRise lo hi zs) : zs.Pairwise (· ≠ ·) := by
  rw [List.pairwise_iff_getElem]
  intro i j hi' hj hij
  have := rise_lt zs lo hi h i j hij hj
  simp [hi', hj] at this
  intro e
  rw [e] at this
  omega
theorem fm_len {α β : Type} (f : α → List β) (m : Nat) : ∀ l : List α, (∀ x ∈ l, (f x).length ≤ m) → (l.flatMap f).length ≤ l.length * m := by
  intro l
  induction l with
  | nil => intro _; simp
  | cons x l ih =>
    intro h
    have h1 := h x (by simp)
    have h2 := ih (fun y hy => h y (by simp [hy]))
    rw [List.flatMap_cons, List.length_append, List.length_cons, Nat.add_mul]
    omega
theorem dom_8 (rs : List LSt) (ps : List LPr) (id top : Int) (h : TabR rs ps) : (rs.flatMap (domF id top)).length ≤ 8 := by
  by_cases hm : id ∈ idsL rs
  · obtain ⟨k, hk, ep, hid⟩ := pos_at rs id hm
    have hu : ∀ i (h : i < rs.length), i ≠ k → rs[i].1 ≠ id := fun i hi hne e => by
      have r := rise_ne h.2.2.1
      rw [List.pairwise_iff_getElem] at r
      rcases Nat.lt_or_gt_of_ne hne with g | g
      · exact r i k (by simpa [idsL] using hi) (by simpa [idsL] using hk) g (by rw [idsL_at rs i _ hi, idsL_at rs k _ hk, e, hid])
      · exact r k i (by simpa [idsL] using hk) (by simpa [idsL] using hi) g (by rw [idsL_at rs i _ hi, idsL_at rs k _ hk, e, hid])
    rw [flat_one id top rs k hk hid hu]
    exact Nat.le_trans (List.length_filter_le _ _) (h.2.1 _ (List.getElem_mem hk)).2.1.2
  · rw [flat_none id top rs hm]; simp
theorem plF_96 {rs : List LSt} {ps : List LPr} (top : Int) (ids : List Int) (h : IdsR rs ps ids) : (plF rs top ids).length ≤ 96 := by
  have h1 : ∀ id ∈ ids, (chF rs top id).length ≤ 8 := fun id _ => by
    unfold chF; rw [List.length_map]; exact dom_8 rs ps id top h.2.1
  have := fm_len (chF rs top) 8 ids h1
  have := ids_few h
  unfold plF
  omega
theorem twoF_8 : ∀ zs : List Int, zs.length ≤ 8 → (twoF zs).length ≤ 8 * zs.length
  | [], _ => by simp [twoF]
  | x :: r, h => by
    simp only [List.length_cons] at h ⊢
    have := twoF_8 r (by omega)
    unfold twoF
    rw [List.length_append, List.length_map]
    omega
theorem besF_8 (ps : List LPr) (A C : List LNb) (ha : A.length ≤ 8) (hc : C.length ≤ 8) : (besF ps A C).length ≤ 64 := by
  have h1 : ∀ x ∈ A, (C.flatMap fun y => if mayL ps x.1.1 x.1.2 y.1.1 y.1.2 = true then [] else [[-x.2, -y.2]]).length ≤ 8 := fun x _ => by
    have := fm_len (fun y : LNb => if mayL ps x.1.1 x.1.2 y.1.1 y.1.2 = true then [] else [[-x.2, -y.2]]) 1 C (fun y _ => by split <;> simp)
    omega
  have := fm_len _ 8 A h1
  unfold besF
  omega
theorem nbs_8 (rs : List LSt) (ps : List LPr) (top : Int) (h : TabR rs ps) : ∀ (ids : List Int) (last : Int), ∀ b ∈ nbsF last (ids.map (chF rs top)), b.length ≤ 8 := by
  intro ids
  induction ids with
  | nil => intro last b hb; simp [nbsF] at hb
  | cons x r ih =>
    intro last b hb
    simp only [List.map_cons, nbsF, List.mem_cons] at hb
    rcases hb with rfl | hb
    · rw [nbF_len]; unfold chF; rw [List.length_map]; exact dom_8 rs ps x top h
    · exact ih _ b hb
theorem cnA_4000 {rs : List LSt} {ps : List LPr} (top : Int) {ids : List Int} (h : IdsR rs ps ids) : (cnA rs ps top ids).length ≤ 4000 := by
  unfold cnA
  rw [B_yes h, if_pos rfl]
  unfold cnfI
  have hb := nbs_8 rs ps top h.2.1 ids 0
  have hl : (nbsF 0 (ids.map (chF rs top))).length = ids.length := by rw [nbsF_len, List.length_map]
  generalize nbsF 0 (ids.map (chF rs top)) = bs at *
  have h12 := ids_few h
  have h40 := h.2.1.1.2.2
  have h1 := fm_len (fun b : List LNb => twoF (b.map fun e => e.2)) 64 bs (fun b hb' => by
    have := hb b hb'
    have := twoF_8 (b.map fun e => e.2) (by rw [List.length_map]; exact this)
    rw [List.length_map] at this
    omega)
  have hg : ∀ i, (bs.getD i []).length ≤ 8 := fun i => by
    by_cases hi : i < bs.length
    · simp only [List.getD_eq_getElem?_getD, List.getElem?_eq_getElem hi, Option.getD_some]; exact hb _ (List.getElem_mem hi)
    · simp [List.getD_eq_getElem?_getD, List.getElem?_eq_none (by omega : bs.length ≤ i)]
  have h2 := fm_len (besI ps ids bs) 64 ps (fun p _ => by
    unfold besI
    split
    · exact besF_8 ps _ _ (hg _) (hg _)
    · simp)
  simp only [List.length_append, List.length_map]
  omega
theorem good_two {vars x y : Int} (hx : 1 ≤ x ∧ x ≤ vars) (hy : 1 ≤ y ∧ y ≤ vars) (hv : vars ≤ 96) (hne : x ≠ y) : ClR vars [-x, -y] := by
  refine ⟨by simp, fun z hz => ?_, ?_⟩
  · simp only [List.mem_cons, List.not_mem_nil, or_false] at hz
    rcases hz with rfl | rfl
    · rw [lv_neg (by omega) (by omega)]; exact hx
    · rw [lv_neg (by omega) (by omega)]; exact hy
  · simp only [List.map_cons, List.map_nil]
    rw [lv_neg (by omega) (by omega), lv_neg (by omega) (by omega)]
    simp [hne]
/-- The clauses of a table are right. -/
theorem two_96 {x y : Int} (hx : 0 ≤ x ∧ x ≤ 96) (hy : 0 ≤ y ∧ y ≤ 96) : ∀ z ∈ [-x, -y], -96 ≤ z ∧ z ≤ 96 := fun z hz => by
  simp only [List.mem_cons, List.not_mem_nil, or_false] at hz
  rcases hz with rfl | rfl <;> omega
theorem cnA_key {rs : List LSt} {ps : List LPr} (top : Int) {ids : List Int} (h : IdsR rs ps ids) : ∀ zs ∈ cnA rs ps top ids, ClR (cnN rs ps top ids : Nat) zs ∧ ∀ z ∈ zs, -96 ≤ z ∧ z ≤ 96 := by
  have hN : cnN rs ps top ids = (plF rs top ids).length := by unfold cnN; rw [B_yes h]; rfl
  have h96 := plF_96 top ids h
  have h4 := cnA_4000 top h
  have h8 : ∀ id, (ownA (plF rs top ids) id).length ≤ 96 := fun id => by
    unfold ownA ofId
    rw [List.length_map]
    exact Nat.le_trans (List.length_filter_le _ _) (by rw [nbF_len]; exact h96)
  ·
    intro zs hz
    have hrow : ∀ b ∈ nbsF 0 (ids.map (chF rs top)), b.length ≤ 8 := nbs_8 rs ps top h.2.1 ids 0
    have hflat : (nbsF 0 (ids.map (chF rs top))).flatten = nbF 0 (plF rs top ids) := by rw [nbsF_flat]; rfl
    by_cases hown : zs ∈ (nbsF 0 (ids.map (chF rs top))).map (fun b => b.map fun e => e.2)
    · obtain ⟨b, hb, rfl⟩ := List.mem_map.1 hown
      have hsub : List.Sublist b (nbF 0 (plF rs top ids)) := by rw [← hflat]; exact List.sublist_flatten_of_mem hb
      have hup : (b.map fun e => e.2).Pairwise (· < ·) := by rw [List.pairwise_map]; exact (nb_up _).sublist hsub
      have hin : ∀ z ∈ (b.map fun e => e.2), 1 ≤ z ∧ z ≤ ((plF rs top ids).length : Int) := fun z hz => by
        obtain ⟨e, he, rfl⟩ := List.mem_map.1 hz
        obtain ⟨m, hm, rfl⟩ := nb_mem (hsub.subset he)
        exact ⟨by show (1 : Int) ≤ (m : Int) + 1; omega, by show (m : Int) + 1 ≤ _; omega⟩
      refine ⟨⟨by rw [List.length_map]; have := hrow b hb; omega, fun z hz => ?_, ?_⟩, fun z hz => ⟨by have := hin z hz; omega, by have := hin z hz; omega⟩⟩
      · have := hin z hz
        rw [lv_pos (by omega) (by omega), hN]; exact this
      · have e : (b.map fun e => e.2).map lv = b.map fun e => e.2 := by
          rw [List.map_congr_left (g := id) (fun z hz => by have := hin z hz; rw [lv_pos (by omega) (by omega)]; rfl), List.map_id]
        rw [e]
        exact hup.imp (fun {a c} hab e => by omega)
    · have hz2 := hz
      unfold cnA at hz2
      rw [B_yes h, if_pos rfl] at hz2
      rw [cnA_spec top h] at hz
      have hz3 : zs ∈ twoS (nbF 0 (plF rs top ids)) ++ ps.flatMap (besS ps (nbF 0 (plF rs top ids))) := by
        unfold cnfI at hz2
        rcases List.mem_append.1 hz2 with g | g
        · exact absurd g hown
        · have e1 := cnf_same ps ids (nbsF 0 (ids.map (chF rs top))) (ofIds_ch rs top ids 0) ((ids_pair h).imp (fun {a b} hab e => by omega))
          unfold cnfI cnfS at e1
          rw [hflat] at e1
          have e2 := List.append_inj_right e1 (by rw [List.length_map, List.length_map, nbsF_len, List.length_map])
          rw [← e2]; exact g
      rw [hN]
      rcases List.mem_append.1 hz3 with hz3 | hz3
      · obtain ⟨x, hx, y, hy, hxy, _, rfl⟩ := twoS_mem _ (nb_up _) zs hz3
        obtain ⟨a, ha, rfl⟩ := nb_mem hx
        obtain ⟨b, hb, rfl⟩ := nb_mem hy
        dsimp only at hxy ⊢
        exact ⟨good_two ⟨by omega, by omega⟩ ⟨by omega, by omega⟩ (by omega) (by omega), two_96 (by omega) (by omega)⟩
      · obtain ⟨q, hq, hz3⟩ := List.mem_flatMap.1 hz3
        unfold besS at hz3
        obtain ⟨x, hx, hz3⟩ := List.mem_flatMap.1 hz3
        obtain ⟨y, hy, hz3⟩ := List.mem_flatMap.1 hz3
        split at hz3
        · rename_i hc
          rw [List.mem_singleton] at hz3
          subst hz3
          obtain ⟨a, ha, rfl⟩ := nb_mem hx
          obtain ⟨b, hb, rfl⟩ := nb_mem hy
          obtain ⟨c1, c2, _⟩ := hc
          dsimp only at c1 c2 ⊢
          have hlt : q.1 < q.2.1 := (h.2.1.2.2.2.1 q hq).1
          refine ⟨good_two ⟨by omega, by omega⟩ ⟨by omega, by omega⟩ (by omega) (fun e => ?_), two_96 (by omega) (by omega)⟩
          obtain rfl : a = b := by omega
          omega
        · simp at hz3
/-- What l06Cnf's walk asks of the clauses of a table. -/
theorem cnA_small (rs : List LSt) (ps : List LPr) (top : Int) (ids : List Int) (cs : List LCl) (e : bareC cs = cnA rs ps top ids) : CSm cs ∧ cs.length ≤ 5000 := by
  by_cases h : IdsR rs ps ids
  · have hl : cs.length = (cnA rs ps top ids).length := by rw [← e]; simp [bareC]
    have := cnA_4000 top h
    refine ⟨fun r hr => ?_, by omega⟩
    have hm : r.2 ∈ cnA rs ps top ids := by rw [← e]; exact List.mem_map.2 ⟨r, hr, rfl⟩
    obtain ⟨h1, h2⟩ := cnA_key top h _ hm
    exact ⟨by have := h1.1; omega, fun z hz => ⟨by have := h2 z hz; omega, by have := h2 z hz; omega⟩⟩
  · have h0 : cnA rs ps top ids = [] := by unfold cnA; rw [B_no h]; rfl
    rw [h0] at e
    have : cs = [] := by simpa [bareC] using e
    subst this
    exact ⟨CSm.nil, by simp⟩
/-- spec.l06Cnf, whole. -/
theorem lcnf_all (B b : Nat) (w : World) (hs : SrcB B w b) :
    Calls Try.prog 32 #[.pointer (some ⟨b, 0, none⟩)] w fun e w' => ∃ (vars : Int) (v : Value) (cs : List LCl), e = .returned (.agg #[.int .i64 vars, v]) ∧ OwC w' w.heap.size v cs ∧ CSm cs ∧ cs.length ≤ 5000 ∧ Src w' b ∧ Only b w w' := lcnf_any B b w hs cnA_small

end Go.Proofs.Ytendehejodgljaa
namespace Go.Proofs.Ytendehejodgljaa
open Go.RowKit
set_option linter.unusedVariables false

/-- All but two blocks are as they were. -/
structure But2 (b r : Nat) (u v : World) : Prop where
  size : u.heap.size ≤ v.heap.size
  block : ∀ k, k < u.heap.size → k ≠ b → k ≠ r → v.heap[k]? = u.heap[k]?
theorem But2.of {b r : Nat} {u v : World} (h : Only b u v) : But2 b r u v := ⟨h.size, fun k hk hb _ => h.block k hk hb⟩
theorem But2.trans {b r : Nat} {u v w : World} (h : But2 b r u v) (g : But2 b r v w) : But2 b r u w := ⟨Nat.le_trans h.size g.size, fun k hk hb hr => (g.block k (Nat.lt_of_lt_of_le hk h.size) hb hr).trans (h.block k hk hb hr)⟩
theorem But2.set {b r : Nat} {u v : World} (h : But2 b r u v) (o : Nat) (x : Value) : But2 b r u (v.setCell ⟨r, o, none⟩ x) := ⟨by simpa [World.setCell] using h.size, fun k hk hb hr => (Below.heap_setCell _ _ _ _ (by show k ≠ r; omega)).trans (h.block k hk hb hr)⟩

theorem OwC.but2 {C b r : Nat} {w w' : World} {v : Value} {cs : List LCl} (h : OwC w C v cs) (hb : But2 b r w w') (h1 : b < C) (h2 : r < C) : OwC w' C v cs :=
  ⟨own_keep h.row (fun j hj => hb.block j (h.row.lt j hj).2 (by have := own_base h.row hj; omega) (by have := own_base h.row hj; omega)), fun x hx => own_keep (h.each x hx) (fun j hj => hb.block j ((h.each x hx).lt j hj).2 (by have := own_base (h.each x hx) hj; omega) (by have := own_base (h.each x hx) hj; omega)), h.diff⟩

end Go.Proofs.Ytendehejodgljaa
namespace Go.Proofs.Ytendehejodgljaa
open Go.RowKit
set_option linter.unusedVariables false

theorem lt_of_cell {w : World} {a : Addr} {v : Value} (h : w.cell? a = some v) : a.block < w.heap.size := by
  unfold World.cell? at h
  cases e : w.heap[a.block]? with
  | none => simp [e] at h
  | some o => exact (Array.getElem?_eq_some_iff.1 e).1
theorem row_in {w : World} {a : Option Addr} {len cap : Nat} {zs : List Int}
    (h : (a = none ∧ len = 0 ∧ cap = 0 ∧ zs = []) ∨ ∃ x, a = some x ∧ len ≤ cap ∧ cap ≤ maxLen ∧ zs.length = cap ∧ (∀ i, i < zs.length → w.cell? (x.add i) = some (.int .u8 (zs.getD i 0))) ∧ ∀ n ∈ zs, (Lit.int .u8 n).wf = true) : RowIn w a len := by
  rcases h with ⟨rfl, rfl, rfl, rfl⟩ | ⟨x, rfl, hl, hm, hz, hc, hw⟩
  · exact ⟨Nat.zero_le _, fun i hi => absurd hi (Nat.not_lt_zero _)⟩
  · refine ⟨Nat.le_trans hl hm, fun i hi => ?_⟩
    obtain ⟨c, o, spot⟩ := x
    have h0 := hc 0 (by omega)
    have hs : spot = none := by simpa [Addr.add] using World.cell?_spot h0
    subst hs
    have ha : (⟨c, o, none⟩ : Addr).add i = ⟨c, o + i, none⟩ := by
      unfold Addr.add
      by_cases h : i = 0 <;> simp [h]
    have h1 := hc i (by omega)
    rw [ha] at h1
    have h2 := hw (zs.getD i 0) (by rw [show zs.getD i 0 = zs[i]'(by omega) by simp [show i < zs.length by omega]]; exact List.getElem_mem _)
    have h3 : 0 ≤ zs.getD i 0 ∧ zs.getD i 0 ≤ 255 := by simpa [Lit.wf, IntKind.min, IntKind.max, IntKind.signed, IntKind.bits] using h2
    exact ⟨c, o, _, rfl, lt_of_cell h1, h3.1, h3.2, h1⟩

end Go.Proofs.Ytendehejodgljaa
namespace Go.Proofs.Ytendehejodgljaa
open Go.RowKit
set_option linter.unusedVariables false

theorem negL_take (D : List Int) (k : Nat) (h : k < D.length) : negL (D.take (k + 1)) = negL (D.take k) ++ [-D.getD k 0] := by
  rw [take_one D k h]; simp [negL]
theorem ints_pre {W : World} {s : Option Addr} {D : List Int} (h : Ints W s D) : Ints W s D.dropLast := by
  rcases h with rfl | ⟨c, o, e, hc, hi⟩
  · exact .inl rfl
  · refine .inr ⟨c, o, e, hc, fun i hi' => ?_⟩
    have h1 : i < D.length - 1 := by simpa using hi'
    have h2 : i < D.length := by omega
    rw [hi i h2]
    simp [h1, h2]

set_option maxRecDepth 100000 in
set_option maxHeartbeats 16000000 in
/-- spec.Solve. -/
theorem sso_any (vars bud : Int) (sl : Option Addr) (cap : Nat) (cs : List LCl) (w : World) (hn : cs.length ≤ maxLen) (hsm : totC cs ≤ 1048576) (hwf : WfC cs) (hz : Cls w sl cs) :
    Calls Try.prog 55 #[CV vars sl cs.length cap, .int .i64 bud] w (SPost w (solA vars (bareC cs) bud)) := by
  have b0 := bA0 w (.cells #[.int .i64 vars, .slice sl cs.length cap] 25)
  have b1 := bA b0 (.cells #[.int .i64 0, .slice none 0 0, .slice none 0 0, .int .i64 0, .int .i64 0] 82)
  have X1 : Hid (BoxO ((w.alloc (.cells #[.int .i64 vars, .slice sl cs.length cap] 25)).alloc (.cells #[.int .i64 0, .slice none 0 0, .slice none 0 0, .int .i64 0, .int .i64 0] 82)) (w.heap.size + 1)) := by
    have := new_at (w.alloc (.cells #[.int .i64 vars, .slice sl cs.length cap] 25)) (.cells #[.int .i64 0, .slice none 0 0, .slice none 0 0, .int .i64 0, .int .i64 0] 82)
    rw [show (w.alloc (.cells #[.int .i64 vars, .slice sl cs.length cap] 25)).heap.size = w.heap.size + 1 by simp] at this
    exact this
  have CA := (CnfAt.new w vars sl cs.length cap).below (bA0 _ (.cells #[.int .i64 0, .slice none 0 0, .slice none 0 0, .int .i64 0, .int .i64 0] 82))
  obtain ⟨q0, q1⟩ := CA.cells
  have ql := CA.lt
  have CA' := Lib.hid CA
  have CR := Lib.hid (scr_any vars sl cap cs ((w.alloc (.cells #[.int .i64 vars, .slice sl cs.length cap] 25)).alloc (.cells #[.int .i64 0, .slice none 0 0, .slice none 0 0, .int .i64 0, .int .i64 0] 82)) hn hsm hwf (hz.below b1))
  have B1 := Lib.hid b1
  by_cases hok : SolOk vars (bareC cs) bud
  case neg =>
    rw [solA_no hok]
    clear CA hz hwf hn b0 b1 hsm
    by_cases hcr : CnfR vars (bareC cs)
    · rw [B_yes hcr] at CR
      have hbb : bud < 0 ∨ (¬ bud < 0 ∧ 300 < bud) := by
        rcases Classical.em (bud < 0) with h | h
        · exact .inl h
        · exact .inr ⟨h, by rcases Classical.em (300 < bud) with g | g; exact g; exact absurd ⟨hcr, by omega, by omega⟩ hok⟩
      clear hcr hok
      generalize cs.length = cn at *
      rcases hbb with hbb | ⟨hbb, hbc⟩
      · skip
        go_enter Try.func55, Try.ntmps55
        go_wp2_with (go_at_call 46; refine CR.out.mono ?_; rintro e w1 ⟨rfl, bb1⟩; have X := X1.out.below bb1; obtain ⟨bl6, c0, c1, c2, c3, c4, f0, f1, f2, f3, f4⟩ := X.facts; have XX := Lib.hid X; have BB := Lib.hid (bT B1.out bb1); clear X bb1)
        have X6 := XX.out
        have V6 : SoV w.heap.size (0, [], [], 0) (.slice none 0 0) (.slice none 0 0) [] w1 := ⟨⟨rfl, .inl ⟨rfl, rfl⟩⟩, OwC.nil _ _, rfl, fun r hr j hj e => by cases e⟩
        have A6 := set5_at (v0 := .int .i64 0) (v1 := .slice none 0 0) (v2 := .slice none 0 0) (v3 := .int .i64 0) (v4 := .int .i64 1) X6
        obtain ⟨r0, r1, r2, r3, r4⟩ := cells5 A6
        exact bodyPost_ret (v := .agg #[.int .i64 0, .slice none 0 0, .slice none 0 0, .int .i64 0, .int .i64 1]) (by unfold set5 at r0 r1 r2 r3 r4; simp [results, Try.results55, go_sem, r0, r1, r2, r3, r4]) rfl ⟨_, _, [], rfl, V6.only (set5_only _ _ _ _ _ _ _) X6, Only.below BB.out (by omega) (set5_only _ _ _ _ _ _ _)⟩
      · skip
        go_enter Try.func55, Try.ntmps55
        go_wp2_with (go_at_call 46; refine CR.out.mono ?_; rintro e w1 ⟨rfl, bb1⟩; have X := X1.out.below bb1; obtain ⟨bl6, c0, c1, c2, c3, c4, f0, f1, f2, f3, f4⟩ := X.facts; have XX := Lib.hid X; have BB := Lib.hid (bT B1.out bb1); clear X bb1)
        have X6 := XX.out
        have V6 : SoV w.heap.size (0, [], [], 0) (.slice none 0 0) (.slice none 0 0) [] w1 := ⟨⟨rfl, .inl ⟨rfl, rfl⟩⟩, OwC.nil _ _, rfl, fun r hr j hj e => by cases e⟩
        have A6 := set5_at (v0 := .int .i64 0) (v1 := .slice none 0 0) (v2 := .slice none 0 0) (v3 := .int .i64 0) (v4 := .int .i64 1) X6
        obtain ⟨r0, r1, r2, r3, r4⟩ := cells5 A6
        exact bodyPost_ret (v := .agg #[.int .i64 0, .slice none 0 0, .slice none 0 0, .int .i64 0, .int .i64 1]) (by unfold set5 at r0 r1 r2 r3 r4; simp [results, Try.results55, go_sem, r0, r1, r2, r3, r4]) rfl ⟨_, _, [], rfl, V6.only (set5_only _ _ _ _ _ _ _) X6, Only.below BB.out (by omega) (set5_only _ _ _ _ _ _ _)⟩
    · rw [B_no hcr] at CR
      clear hcr hok
      generalize cs.length = cn at *
      go_enter Try.func55, Try.ntmps55
      go_wp2_with (go_at_call 46; refine CR.out.mono ?_; rintro e w1 ⟨rfl, bb1⟩; have X := X1.out.below bb1; obtain ⟨bl6, c0, c1, c2, c3, c4, f0, f1, f2, f3, f4⟩ := X.facts; have XX := Lib.hid X; have BB := Lib.hid (bT B1.out bb1); clear X bb1)
      have X6 := XX.out
      have V6 : SoV w.heap.size (0, [], [], 0) (.slice none 0 0) (.slice none 0 0) [] w1 := ⟨⟨rfl, .inl ⟨rfl, rfl⟩⟩, OwC.nil _ _, rfl, fun r hr j hj e => by cases e⟩
      have A6 := set5_at (v0 := .int .i64 0) (v1 := .slice none 0 0) (v2 := .slice none 0 0) (v3 := .int .i64 0) (v4 := .int .i64 1) X6
      obtain ⟨r0, r1, r2, r3, r4⟩ := cells5 A6
      exact bodyPost_ret (v := .agg #[.int .i64 0, .slice none 0 0, .slice none 0 0, .int .i64 0, .int .i64 1]) (by unfold set5 at r0 r1 r2 r3 r4; simp [results, Try.results55, go_sem, r0, r1, r2, r3, r4]) rfl ⟨_, _, [], rfl, V6.only (set5_only _ _ _ _ _ _ _) X6, Only.below BB.out (by omega) (set5_only _ _ _ _ _ _ _)⟩
  rw [solA_yes hok]
  obtain ⟨hcr, hb0, hb3⟩ := hok
  rw [B_yes hcr] at CR
  obtain ⟨V, rfl⟩ : ∃ V : Nat, vars = (V : Int) := ⟨vars.toNat, by have := hcr.1.1; omega⟩
  obtain ⟨bd, rfl⟩ : ∃ n : Nat, bud = (n : Int) := ⟨bud.toNat, by omega⟩
  have hV : V ≤ 96 := by have := hcr.1.2; omega
  have hcl : cs.length ≤ 4000 := by have := hcr.2.1; rwa [bareC_length] at this
  simp only [Int.toNat_natCast]
  have hwf' : ∀ l ∈ bareC cs, ∀ z ∈ l, wfI z := fun l hl z hz' => by
    obtain ⟨r, hr, rfl⟩ := List.mem_map.1 hl
    exact hwf r hr z hz'
  have HI : Hid (RunJ (bareC cs) V bd (solF (bareC cs) V bd 0 [] []) 0 (bareC []) []) := ⟨⟨cnfR_lits hcr hwf', (fun l hl => by cases hl), SpTo.zero _ _⟩, Nat.le_refl _, Nat.zero_le _, rfl⟩
  have hb0' : ¬ ((bd : Int) < 0) := by omega
  have hb3' : ¬ (300 < (bd : Int)) := by omega
  have hb3n : bd ≤ 300 := by omega
  generalize hR : solF (bareC cs) V bd 0 [] [] = R at *
  clear hR
  have C27 : Hid (∀ W O (st' : Int) (st : Nat) ls D (lv : Option Addr) lk ds dk, RunJ (bareC cs) V bd R st (bareC ls) D → SS w O V sl cs.length cap 0 [] ls D (.slice none 0 0) (.slice lv ls.length lk) (.slice ds D.length dk) st' W → Calls Try.prog 36 #[CV (V : Int) sl cs.length cap, .slice lv ls.length lk, .slice ds D.length dk] W (UPost W ((uRun (bareC cs) (bareC ls) D).1, (uRun (bareC cs) (bareC ls) D).2, 0))) := fun W O st' st ls D lv lk ds dk hi h => by
    obtain ⟨s1, k1, e1, h1⟩ := h.ol.cls
    cases e1
    obtain ⟨s2, k2, e2, h2⟩ := own_ints h.od
    cases e2
    have hlen := hi.few
    have hle := hi.le
    rw [bareC_length] at hlen
    refine srn_any V sl cap cs lv lk ls ds dk D W hV (by omega) (by omega) hi.ok.ds (fun r hr z hz' => ?_) (hz.below h.bl) h1 h2
    rcases List.mem_append.1 hr with g | g
    · exact hi.ok.cl _ (List.mem_map.2 ⟨r, g, rfl⟩) z hz'
    · exact hi.ok.lm _ (List.mem_map.2 ⟨r, g, rfl⟩) z hz'
  clear hcr hwf hwf' hn hz b0 b1 CA hsm
  generalize hcm : cs.length = cn at *
  go_enter Try.func55, Try.ntmps55
  go_wp2_with (go_at_call 46; refine CR.out.mono ?_; rintro e w1 ⟨rfl, bb1⟩)
  have S0 : Hid (SS w w1.heap.size V sl cn cap 0 [] [] [] (.slice none 0 0) (.slice none 0 0) (.slice (some ⟨w1.heap.size + 1, 0, none⟩) 0 0) 0 ((w1.alloc (.cells #[.int .i64 0, .slice none 0 0, .slice none 0 0, .int .i64 0, .int .i64 0] 82)).alloc (.cells #[] 2))) := by
    have hb1 := (bA0 w1 (.cells #[.int .i64 0, .slice none 0 0, .slice none 0 0, .int .i64 0, .int .i64 0] 82))
    have hs1 : (w1.alloc (.cells #[.int .i64 0, .slice none 0 0, .slice none 0 0, .int .i64 0, .int .i64 0] 82)).heap.size = w1.heap.size + 1 := by simp
    have hb2 := bA hb1 (.cells #[] 2)
    have x1 := X1.out.below bb1
    have ow := own_none8 (w1.alloc (.cells #[.int .i64 0, .slice none 0 0, .slice none 0 0, .int .i64 0, .int .i64 0] 82))
    rw [hs1] at ow
    have hbw : Below w.heap.size w w1 := bT B1.out bb1
    have hlt := x1.facts.1
    exact ⟨(CA'.out.below bb1).below hb2, x1.below hb2, ((bA0 (w1.alloc (.cells #[.int .i64 0, .slice none 0 0, .slice none 0 0, .int .i64 0, .int .i64 0] 82)) (.cells #[] 2)).block _ (by omega)).trans (new_at w1 _), ⟨rfl, .inl ⟨rfl, rfl⟩⟩, OwC.nil _ _, own_mono ow (by omega), (fun r hr => by cases hr), (fun r hr => by cases hr), bT hbw hb2, by omega⟩
  clear bb1 CR q0 q1 ql X1 CA' B1
  generalize (w1.alloc (.cells #[.int .i64 0, .slice none 0 0, .slice none 0 0, .int .i64 0, .int .i64 0] 82)).alloc (.cells #[] 2) = w2 at *
  generalize w1.heap.size = O at *
  go_loopg [6] (bd + 1) (fun g v wr => ∃ (st : Nat) (ls : List LCl) (D : List Int) (vl : Value), st + g = bd + 1 ∧ Hid (SS w O V sl cn cap 0 [] ls D (.slice none 0 0) vl v (st : Int) wr) ∧ Hid (RunJ (bareC cs) V bd R st (bareC ls) D))
  case atStart => exact ⟨0, [], [], _, by omega, S0, HI⟩
  case round =>
    obtain ⟨st, ls, D, vl, hg, H1, H2⟩ := hrel
    have hle := H2.out.le
    obtain ⟨ds, dk, rfl⟩ := own_v H1.out.od
    obtain ⟨lv, lk, rfl⟩ := H1.out.ol.v
    obtain ⟨oo, p0, p1, p2, p3, p4, pf, pw, pc0, pc1⟩ := H1.out.facts
    have pf0 := pf 0
    have pf1 := pf 1
    have pf2 := pf 2
    have pf3 := pf 3
    clear pf
    by_cases hst : st = bd
    · have E := Lib.hid (H2.out.stop hst)
      subst hst
      have S1 := Lib.hid (H1.out.verdict 3)
      obtain ⟨wz, hset⟩ : ∃ wz, wr.setCell ⟨O, 0, none⟩ (.int .i64 3) = wz := ⟨_, rfl⟩
      rw [hset] at S1
      have F := Lib.hid (S1.out.fin (E.out))
      have A6 := set5_at (v0 := .int .i64 3) (v1 := (.slice none 0 0)) (v2 := (.slice lv ls.length lk)) (v3 := .int .i64 (st : Int)) (v4 := .int .i64 0) S1.out.box
      obtain ⟨r0, r1, r2, r3, r4⟩ := cells5 A6
      obtain ⟨bl6, c0, c1, c2, c3, c4, f0, f1, f2, f3, f4⟩ := S1.out.box.facts
      obtain ⟨o6, i0, i1, i2, i3, i4, -, -, -, -⟩ := S1.out.facts
      unfold set5 at F r0 r1 r2 r3 r4
      clear C27 S1 E H2 A6 H1 S0 HI p1 p2 p4 pf1 pf2 pf3 pw pc0 pc1 hb3n hV hcl hb0 hb3 hb0' hb3'
      have RR := Lib.hid (And.intro r0 (And.intro r1 (And.intro r2 (And.intro r3 r4))))
      clear r0 r1 r2 r3 r4
      generalize ls.length = ln at *
      go_wp2
      obtain ⟨r0, r1, r2, r3, r4⟩ := RR.out
      exact bodyPost_ret (v := .agg #[.int .i64 3, (.slice none 0 0), (.slice lv ln lk), .int .i64 (st : Int), .int .i64 0]) (by simp [results, Try.results55, go_sem, r0, r1, r2, r3, r4]) rfl F.out
    have hst' : ¬ (st : Int) = (bd : Int) := by omega
    have hstb : ((st : Int) == (bd : Int)) = false := by simpa using hst'
    have hsw : wrap64 ((st : Int) + 1) = (st : Int) + 1 := wrap_in _ ⟨by omega, by omega⟩
    obtain ⟨wz0, hset0⟩ : ∃ wz, wr.setCell ⟨O, 3, none⟩ (.int .i64 ((st : Int) + 1)) = wz := ⟨_, rfl⟩
    have S1 := Lib.hid (H1.out.step ((st : Int) + 1))
    rw [hset0] at S1
    have CC := Lib.hid (C27.out _ O _ st ls D lv lk ds dk H2.out S1.out)
    have HD := H2.out.ok.short hV
    have hD96 : Hid (∀ z ∈ D, -96 ≤ z ∧ z ≤ 96) := fun z hz => by have h := sp_ok H2.out.ok.ds z hz; have h1 := h.2.1; have h2 := h.2.2; omega
    have hT96 := H2.out.sp.short (by omega : (V : Int) ≤ 96)
    have hL := H2.out.few
    rw [bareC_length] at hL
    obtain ⟨oo1, a0, a1, a2, a3, a4, af, aw, ac0, ac1⟩ := S1.out.facts
    clear C27 H1 p0 p1 p2 p4 pf0 pf1 pf2 pw pc0 pc1 a0 a1 a3 a4 af HI S0
    by_cases hcf : (uRun (bareC cs) (bareC ls) D).2 = -1
    · rw [hcf] at CC
      have EY := Lib.hid (fun h2 => H2.out.yes hst hcf h2)
      have EP := Lib.hid (fun h2 => H2.out.push hst hcf h2)
      clear hcf H2
      generalize (uRun (bareC cs) (bareC ls) D).1 = T at *
      go_wp2_with (go_at_call 36; refine CC.out.mono ?_; rintro e w3 ⟨v3, rfl, o3, b3⟩; obtain ⟨s3, k3, rfl⟩ := own_v o3; have HB3 := Lib.hid (bA b3 (.cells #[.slice s3 T.length k3, .int .i64 (-1), .int .i64 0] 30)); have O3 := Lib.hid (own_below o3 (bA0 w3 (.cells #[.slice s3 T.length k3, .int .i64 (-1), .int .i64 0] 30))); have S3 := Lib.hid (S1.out.below HB3.out); have N3 := Lib.hid (new_at w3 (.cells #[.slice s3 T.length k3, .int .i64 (-1), .int .i64 0] 30)); obtain ⟨z1, -, -, -, -, -, -, z8, z9, -⟩ := S3.out.facts; have hz3 := Lib.hid (show w3.heap.size + 1 = (w3.alloc (.cells #[.slice s3 T.length k3, .int .i64 (-1), .int .i64 0] 30)).heap.size by simp); clear b3 o3)
      generalize w3.alloc (.cells #[.slice s3 T.length k3, .int .i64 (-1), .int .i64 0] 30) = n3 at *
      clear CC S1 HB3 oo1 a2 aw ac0 ac1 hset0 p3 pf3 oo
      have E28 : Hid (∀ x, Calls Try.prog 48 #[.slice s3 T.length k3, .int .i64 x] n3 fun e w' => e = .returned (.bool (B (x ∈ T))) ∧ w' = n3) := fun x => by
        obtain ⟨s, k, e, hi⟩ := own_ints O3.out
        cases e
        exact lhas_any s3 k3 T x n3 (by unfold maxLen; omega) hi
      have UB : n3.cell? ⟨w3.heap.size, 0, none⟩ = some (.slice s3 T.length k3) ∧ w3.heap.size < n3.heap.size := by
        have h := N3.out
        exact ⟨by simp [World.cell?, h], (Array.getElem?_eq_some_iff.1 h).1⟩
      obtain ⟨ub0, ubl⟩ := UB
      have OY := Lib.hid (fun n k => @opn_yes T n k)
      have ON := Lib.hid (fun n k => @opn_no T n k)
      have OZ := Lib.hid (show opn T 0 (V + 1) = 0 from rfl)
      have VC := Lib.hid (val_cases T)
      generalize hTl : T.length = tl at *
      go_loopw [10, 11] (fun o i wr2 => ∃ (k x : Nat) (y : Int), i = .int .i64 y ∧ Hid (y = (k : Int) ∧ k ≤ V) ∧ o = .int .i64 x ∧ wr2 = n3 ∧ Hid (x = opn T (V - k) (k + 1))) (fun _ i _ => (intOf i).toNat)
      case atStart => exact ⟨V, 0, _, rfl, ⟨rfl, Nat.le_refl _⟩, rfl, rfl, by show _ = _; rw [Nat.sub_self, OZ.out]⟩
      case round =>
        obtain ⟨k, x, y, rfl, HK, rfl, rfl, HX⟩ := hrel
        by_cases hk0 : k = 0
        · subst hk0
          obtain ⟨hyk, -⟩ := HK.out
          have hyk' : y = 0 := hyk
          subst hyk'
          clear hyk HK
          have hxo : x = opn T V 1 := HX.out
          clear E28 OY ON OZ VC HX
          by_cases ho : x = 0
          · have E := Lib.hid (EY.out (by rw [← hxo]; exact ho))
            clear hxo
            subst ho
            rw [show ((0 : Nat) : Int) = 0 from rfl]
            obtain ⟨wz, hset⟩ : ∃ wz, wr.setCell ⟨O, 0, none⟩ (.int .i64 1) = wz := ⟨_, rfl⟩
            have S4 := Lib.hid ((S3.out.verdict 1).drop)
            rw [hset] at S4
            obtain ⟨-, y0, -, -, -, -, yf, -, -, -⟩ := S3.out.facts
            have yf0 := yf 0
            clear yf
            have N4 : Hid (wz.heap[w3.heap.size]? = some (.cells #[.slice s3 tl k3, .int .i64 (-1), .int .i64 0] 30)) := by
              show _ = _
              rw [← hset]
              refine (Below.heap_setCell _ _ _ _ (fun e => ?_)).trans N3.out
              have e' : w3.heap.size = O := e
              have h1 := N3.out
              rw [e', S3.out.out] at h1
              cases h1
            have O4 : Hid (wz.ownsRow wz0.heap.size 2 1 (.slice s3 tl k3) T.length (valsZ T)) := by
              show World.ownsRow _ _ _ _ _ _ _
              rw [← hset, hTl]
              exact own_box O3.out S3.out.out (by decide) 0 _
            have VT0 : Hid (∀ j, (Value.slice none 0 0).ownBlock = some j → wz.heap.size ≤ j) := fun j hj => by cases hj
            have TL4 : Hid (∀ j, (Value.slice s3 tl k3).ownBlock = some j → j < wz.heap.size) := fun j hj => (O4.out.lt j hj).2
            have TY := Lib.hid (fun n => @trL_yes T n)
            have TN := Lib.hid (fun n => @trL_no T n)
            have TLn := Lib.hid (trL_len T)
            have VM : Hid (∀ z, val T z = 1 ↔ z ∈ T) := fun z => by
              rcases val_cases T z with ⟨h1, h2⟩ | ⟨h1, h2, -⟩ | ⟨h1, h2, -⟩
              · exact ⟨fun _ => h2, fun _ => h1⟩
              · exact ⟨fun h => by omega, fun h => absurd h h2⟩
              · exact ⟨fun h => by omega, fun h => absurd h h2⟩
            have EF : Hid (∀ ls', bareC ls' = bareC ls → R = (1, trL T V, bareC ls', (st : Int) + 1)) := fun ls' h => by rw [h]; exact E.out
            have LH : Hid (∀ (W : World) y, W.ownsRow wz0.heap.size 2 1 (.slice s3 tl k3) T.length (valsZ T) → Calls Try.prog 48 #[.slice s3 tl k3, .int .i64 y] W fun e w' => e = .returned (.bool (B (y ∈ T))) ∧ w' = W) := fun W y ho => by
              obtain ⟨s, k, e, hi⟩ := own_ints ho
              cases e
              rw [← hTl] at *
              exact lhas_any s3 k3 T y W (by unfold maxLen; omega) hi
            generalize hwzs : wz.heap.size = NB at *
            have hNB : NB ≤ wz.heap.size := by omega
            clear EY EP S3 N3 O3 E hz3 ub0 ubl z8 z9 hwzs
            go_wp2
            go_loopw [12] (fun i wr2 => ∃ (k : Nat) (vt : Value) (y : Int), i = .int .i64 y ∧ Hid (y = (k : Int) + 1 ∧ k ≤ V) ∧ Hid (SS w O V sl cn cap 1 (trL T k) ls [] vt (.slice lv ls.length lk) (.slice none 0 0) ((st : Int) + 1) wr2) ∧ Hid (wr2.heap[w3.heap.size]? = some (.cells #[.slice s3 tl k3, .int .i64 (-1), .int .i64 0] 30)) ∧ Hid (wr2.ownsRow wz0.heap.size 2 1 (.slice s3 tl k3) T.length (valsZ T)) ∧ Hid ((∀ j, vt.ownBlock = some j → NB ≤ j) ∧ NB ≤ wr2.heap.size)) (fun i _ => V + 1 - (intOf i).toNat)
            case atStart => exact ⟨0, _, 1, rfl, ⟨rfl, Nat.zero_le _⟩, S4, N4, O4, VT0.out, hNB⟩
            case round =>
              obtain ⟨k, vt, y, rfl, HK, G1, G2, G3, G4⟩ := hrel
              obtain ⟨ts, tk, rfl⟩ := own_v G1.out.tr
              obtain ⟨g1, -, g3, -, -, -, gf, g8, g9, -⟩ := G1.out.facts
              have gf1 := gf 1
              clear gf
              have u0 : wr.cell? ⟨w3.heap.size, 0, none⟩ = some (.slice s3 tl k3) ∧ w3.heap.size < wr.heap.size := by
                have h := G2.out
                exact ⟨by simp [World.cell?, h], (Array.getElem?_eq_some_iff.1 h).1⟩
              obtain ⟨u0, u1⟩ := u0
              obtain ⟨hyk, hkV⟩ := HK.out
              by_cases hlt : k < V
              · have hle1 : y ≤ (V : Int) := by omega
                have hws : wrap64 (y + 1) = y + 1 := wrap_in _ ⟨by omega, by omega⟩
                have C1 := Lib.hid (LH.out wr y G3.out)
                have ht := TLn.out k
                have RJ : Hid (∀ (w' : World) (vt' : Value), SS w O V sl cn cap 1 (trL T (k + 1)) ls [] vt' (.slice lv ls.length lk) (.slice none 0 0) ((st : Int) + 1) w' → w'.heap[w3.heap.size]? = some (.cells #[.slice s3 tl k3, .int .i64 (-1), .int .i64 0] 30) → w'.ownsRow wz0.heap.size 2 1 (.slice s3 tl k3) T.length (valsZ T) → ((∀ j, vt'.ownBlock = some j → NB ≤ j) ∧ NB ≤ w'.heap.size) → ∃ (k : Nat) (vt : Value) (y' : Int), Value.int .i64 (y + 1) = .int .i64 y' ∧ Hid (y' = (k : Int) + 1 ∧ k ≤ V) ∧ Hid (SS w O V sl cn cap 1 (trL T k) ls [] vt (.slice lv ls.length lk) (.slice none 0 0) ((st : Int) + 1) w') ∧ Hid (w'.heap[w3.heap.size]? = some (.cells #[.slice s3 tl k3, .int .i64 (-1), .int .i64 0] 30)) ∧ Hid (w'.ownsRow wz0.heap.size 2 1 (.slice s3 tl k3) T.length (valsZ T)) ∧ Hid ((∀ j, vt.ownBlock = some j → NB ≤ j) ∧ NB ≤ w'.heap.size)) := fun w' vt' a b c d => ⟨k + 1, vt', _, rfl, ⟨by omega, by omega⟩, a, b, c, d⟩
                have MJ : Hid (V + 1 - (y + 1).toNat < V + 1 - y.toNat) := by show _ < _; omega
                by_cases hm : y ∈ T
                · rw [B_yes hm] at C1
                  have ET := Lib.hid (TY.out k (by rw [← hyk]; exact (VM.out y).2 hm))
                  have HA := G1.out.below (bA0 wr (.cells #[.int .i64 y] 2))
                  obtain ⟨v9, w9, ha, ow, gr, hj⟩ := appZ HA.tr 1 (ints_new wr y) (by have := HA.bl.size; exact this) (by simp; omega)
                  have hgs := gr.size
                  have has : (wr.alloc (.cells #[.int .i64 y] 2)).heap.size = wr.heap.size + 1 := by simp
                  rw [← hyk] at ET
                  rw [← ET.out] at ow
                  have S5 := Lib.hid (HA.true gr ow hj)
                  obtain ⟨t1, t2, t3, -⟩ := HA.slot HA.tr (by decide) (by decide) (Nat.le_refl _) gr
                  obtain ⟨s9, k9, rfl⟩ := own_v ow
                  have e1 := (cells5 t3).2.1
                  have e2 : w9.frozen? ⟨O, 1, none⟩ = false := by simp [World.frozen?, t3]
                  have e3 : O < w9.heap.size := (Array.getElem?_eq_some_iff.1 t3).1
                  have N5 : Hid ((w9.setCell ⟨O, 1, none⟩ (.slice s9 (trL T (k + 1)).length k9)).heap[w3.heap.size]? = some (.cells #[.slice s3 tl k3, .int .i64 (-1), .int .i64 0] 30)) := by
                    have h0 := ((bA0 wr (.cells #[.int .i64 y] 2)).block _ u1).trans G2.out
                    have h1 : w9.heap[w3.heap.size]? = some (.cells #[.slice s3 tl k3, .int .i64 (-1), .int .i64 0] 30) := (gr.block _ (by omega) (fun e => by
                      obtain ⟨cur, hc⟩ := own_kind HA.tr e.symm
                      rw [h0] at hc
                      cases hc)).trans h0
                    refine (Below.heap_setCell _ _ _ _ (fun e => ?_)).trans h1
                    have e' : w3.heap.size = O := e
                    rw [e', t3] at h1
                    cases h1
                  have O5 : Hid ((w9.setCell ⟨O, 1, none⟩ (.slice s9 (trL T (k + 1)).length k9)).ownsRow wz0.heap.size 2 1 (.slice s3 tl k3) T.length (valsZ T)) := by
                    refine own_box ((own_below G3.out (bA0 wr (.cells #[.int .i64 y] 2))).kept gr ?_) t3 (by decide) 1 _
                    rcases hj3 : (Value.slice s3 tl k3).ownBlock with _ | j
                    · exact .inl rfl
                    · refine .inr (fun e => ?_)
                      have h1 := TL4.out j hj3
                      have h2 := G4.out.1 j e.symm
                      omega
                  have B5 : Hid ((∀ j, (Value.slice s9 (trL T (k + 1)).length k9).ownBlock = some j → NB ≤ j) ∧ NB ≤ (w9.setCell ⟨O, 1, none⟩ (.slice s9 (trL T (k + 1)).length k9)).heap.size) := by
                    have h2 := G4.out.2
                    refine ⟨fun j hj' => ?_, by simp; omega⟩
                    rcases hj j hj' with h | h
                    · exact G4.out.1 j h
                    · omega
                  have RR := Lib.hid (RJ.out _ _ S5.out N5.out O5.out B5.out)
                  have ha' := ha 26
                  clear ha gr hj ow HA t1 t2 t3 S5 N5 O5 B5 RJ G1 G2 G3 G4 TY TN TLn VM EF LH ET hm has hgs S4 N4 O4 VT0 TL4 hyk hkV hlt HK
                  generalize (trL T (k + 1)).length = tn9 at *
                  generalize (trL T k).length = tn at *
                  go_wp2_with fail
                  refine C1.out.mono ?_
                  rintro e w4 ⟨rfl, rfl⟩
                  go_wp2_with (at_builtin; refine Lib.wpList_append_run _ rfl _ _ _ _ rfl _ _ rfl rfl _ _ ha' ?_)
                  go_roundw
                  case rel => rw [hws]; exact RR.out
                  case measure => simp only [intOf]; rw [hws]; exact MJ.out
                · rw [B_no hm] at C1
                  have ET := Lib.hid (TN.out k (by rw [← hyk]; exact fun h => hm ((VM.out y).1 h)))
                  have RR := Lib.hid (RJ.out wr _ (by rw [ET.out]; exact G1.out) G2.out G3.out G4.out)
                  clear RJ G1 G2 G3 G4 TY TN TLn VM EF LH ET hm S4 N4 O4 VT0 TL4 hyk hkV hlt HK
                  generalize (trL T k).length = tn at *
                  go_wp2_with fail
                  refine C1.out.mono ?_
                  rintro e w4 ⟨rfl, rfl⟩
                  go_wp2
                  go_roundw
                  case rel => rw [hws]; exact RR.out
                  case measure => simp only [intOf]; rw [hws]; exact MJ.out
              · have hkv : k = V := by omega
                subst hkv
                have hgt : ¬ y ≤ (k : Int) := by omega
                have F := Lib.hid (G1.out.fin (EF.out ls rfl))
                have A6 := set5_at (v0 := .int .i64 1) (v1 := .slice ts (trL T k).length tk) (v2 := .slice lv ls.length lk) (v3 := .int .i64 ((st : Int) + 1)) (v4 := .int .i64 0) G1.out.box
                obtain ⟨r0, r1, r2, r3, r4⟩ := cells5 A6
                obtain ⟨bl6, c0, c1, c2, c3, c4, f0, f1, f2, f3, f4⟩ := G1.out.box.facts
                obtain ⟨o6, i0, i1, i2, i3, i4, -, -, -, -⟩ := G1.out.facts
                unfold set5 at F r0 r1 r2 r3 r4
                have RR := Lib.hid (And.intro r0 (And.intro r1 (And.intro r2 (And.intro r3 r4))))
                clear r0 r1 r2 r3 r4 A6 G1 G2 G3 G4 TY TN TLn VM EF LH S4 N4 O4 VT0 TL4 u0 u1 g3 gf1
                generalize (trL T k).length = tn at *
                generalize ls.length = ln at *
                go_wp2
                obtain ⟨r0, r1, r2, r3, r4⟩ := RR.out
                exact bodyPost_ret (v := .agg #[.int .i64 1, .slice ts tn tk, .slice lv ln lk, .int .i64 ((st : Int) + 1), .int .i64 0]) (by simp [results, Try.results55, go_sem, r0, r1, r2, r3, r4]) rfl F.out
          · have RI := Lib.hid (EP.out (by rw [← hxo]; exact ho))
            rw [← hxo] at RI
            clear hxo
            generalize x = z at *
            have ho' : ((z : Int) == 0) = false := by simpa using ho
            have HA := S3.out.below (bA0 wr (.cells #[.int .i64 (z : Int)] 2))
            obtain ⟨v9, w9, ha, ow, gr, hj⟩ := appZ HA.od 1 (ints_new wr (z : Int)) (by have := HA.bl.size; exact this) (by simp; omega)
            have S4 := Lib.hid (HA.decide rfl gr ow hj)
            obtain ⟨s9, k9, rfl⟩ := own_v ow
            have ha' := ha 26
            clear ha gr hj ow HA EY EP S3 N3 O3 z1 z8 z9 ub0 ubl hz3
            generalize D.length = dn at *
            generalize hdn9 : (D ++ [(z : Int)]).length = dn9 at *
            go_wp2_with (at_builtin; refine Lib.wpList_append_run _ rfl _ _ _ _ rfl _ _ rfl rfl _ _ ha' ?_)
            go_roundg (gk - 1)
            case measure => omega
            case rel => exact ⟨st + 1, ls, _, _, by omega, by rw [← hdn9] at *; exact S4, RI⟩
        · obtain ⟨j, rfl⟩ : ∃ j, k = j + 1 := ⟨k - 1, by omega⟩
          obtain ⟨hyk, hk⟩ := HK.out
          have hyj : Hid (y = (j : Int) + 1) := by show y = _; rw [hyk]; rfl
          have hy1 : (1 : Int) ≤ y := by have := hyj.out; omega
          have hy2 : wrap64 (-y) = -y := wrap_in _ ⟨by have := hyj.out; omega, by have := hyj.out; omega⟩
          have hy3 : wrap64 (y - 1) = y - 1 := wrap_in _ ⟨by have := hyj.out; omega, by have := hyj.out; omega⟩
          have C1 := Lib.hid (E28.out y)
          have C2 := Lib.hid (E28.out (-y))
          have VJ := Lib.hid (VC.out y)
          have ONJ : Hid (¬ val T y = 0 → opn T (V - j) (j + 1) = opn T (V - (j + 1)) (j + 1 + 1)) := fun h => by
            have := ON.out (V - j) (j + 1) (by omega) (by rw [hyk] at h; exact h)
            rwa [Nat.sub_sub] at this
          have OYJ : Hid (val T y = 0 → opn T (V - j) (j + 1) = j + 1) := fun h => OY.out (V - j) (j + 1) (by omega) (by rw [hyk] at h; exact h)
          have YJ : Hid (y = ((j + 1 : Nat) : Int)) := hyk
          have RJ : Hid (∀ x' : Nat, x' = opn T (V - j) (j + 1) → (∃ (k x : Nat) (y' : Int), Value.int .i64 (wrap64 (y - 1)) = .int .i64 y' ∧ Hid (y' = (k : Int) ∧ k ≤ V) ∧ Value.int .i64 (x' : Int) = .int .i64 (x : Int) ∧ True ∧ Hid (x = opn T (V - k) (k + 1))) ∧ (intOf (.int .i64 (wrap64 (y - 1)))).toNat < (intOf (.int .i64 y)).toNat) := fun x' hx' => ⟨⟨j, x', _, rfl, ⟨by rw [hy3]; have := hyj.out; omega, by omega⟩, rfl, trivial, hx'⟩, by rw [hy3]; show (y - 1).toNat < y.toNat; have := hyj.out; omega⟩
          clear E28 OY ON OZ VC EY EP S3 N3 O3 hz3 z1 z8 z9 hT96 HD hL hD96 hyk hyj hk hk0 HK
          rcases VJ.out with ⟨ev, h1⟩ | ⟨ev, h1, h2⟩ | ⟨ev, h1, h2⟩
          · rw [B_yes h1] at C1
            have EO := Lib.hid (HX.out.trans (ONJ.out (by rw [ev]; decide)).symm)
            clear ev h1 VJ ONJ OYJ C2 HX YJ
            go_wp2_with (go_at_call 48; refine C1.out.mono ?_; rintro e w4 ⟨rfl, rfl⟩)
            exact RJ.out x EO.out
          · rw [B_no h1] at C1
            rw [B_yes h2] at C2
            have EO := Lib.hid (HX.out.trans (ONJ.out (by rw [ev]; decide)).symm)
            clear ev h1 h2 VJ ONJ OYJ HX YJ
            go_wp2_with fail
            refine C1.out.mono ?_
            rintro e w4 ⟨rfl, rfl⟩
            go_wp2_with fail
            refine C2.out.mono ?_
            rintro e w5 ⟨rfl, rfl⟩
            go_wp2
            exact RJ.out x EO.out
          · rw [B_no h1] at C1
            rw [B_no h2] at C2
            have EO := Lib.hid (OYJ.out ev).symm
            have YJ' := Lib.hid YJ.out
            have RJ2 := Lib.hid (RJ.out (j + 1) EO.out)
            rw [← YJ'.out] at RJ2
            clear ev h1 h2 VJ ONJ OYJ HX YJ YJ' EO RJ
            go_wp2_with fail
            refine C1.out.mono ?_
            rintro e w4 ⟨rfl, rfl⟩
            go_wp2_with fail
            refine C2.out.mono ?_
            rintro e w5 ⟨rfl, rfl⟩
            go_wp2
            exact RJ2.out
    · have hc0 : 0 ≤ (uRun (bareC cs) (bareC ls) D).2 := (resF_sign (bareC cs ++ bareC ls) (97 - D.length) D).resolve_left hcf
      have EN := Lib.hid (fun h2 => H2.out.no hst hcf h2)
      have EP := Lib.hid (fun h2 => H2.out.pop hst hcf h2)
      clear hcf H2
      generalize (uRun (bareC cs) (bareC ls) D).2 = cf at *
      generalize (uRun (bareC cs) (bareC ls) D).1 = T at *
      go_wp2_with (go_at_call 36; refine CC.out.mono ?_; rintro e w3 ⟨v3, rfl, o3, b3⟩; obtain ⟨s3, k3, rfl⟩ := own_v o3; have HB3 := Lib.hid (bA b3 (.cells #[.slice s3 T.length k3, .int .i64 cf, .int .i64 0] 30)); have S3 := Lib.hid (S1.out.below HB3.out); have hz3 := Lib.hid (show w3.heap.size + 1 = (w3.alloc (.cells #[.slice s3 T.length k3, .int .i64 cf, .int .i64 0] 30)).heap.size by simp); clear b3 o3)
      generalize w3.alloc (.cells #[.slice s3 T.length k3, .int .i64 cf, .int .i64 0] 30) = n3 at *
      clear CC S1 HB3 oo1 a2 aw ac0 ac1 hset0 p3 pf3 oo hT96
      have O8 : Hid ((n3.alloc (.cells #[] 2)).ownsRow (w3.heap.size + 1) 2 1 (.slice (some ⟨w3.heap.size + 1, 0, none⟩) 0 0) 0 []) := by
        have h := own_none8 n3
        rw [← hz3.out] at h
        exact h
      have B8 : Hid (Below n3.heap.size n3 (n3.alloc (.cells #[] 2))) := bA0 _ _
      have DC : Hid (∀ W, Below n3.heap.size n3 W → ∀ k, k < D.length → ∃ (c o : Nat) (z y : Int), ds = some ⟨c, o, none⟩ ∧ W.cell? ⟨c, o + k, none⟩ = some (.int .i64 z) ∧ wrap64 (-z) = y ∧ Hid (y = -D.getD k 0)) := fun W hW k hk => by
        obtain ⟨s, kk, e, hi⟩ := own_ints (S3.out.below hW).od
        cases e
        have hb := hD96.out (D.getD k 0) (by simp [hk])
        rcases hi with h | ⟨c, o, e, hi⟩
        · rw [h] at hk; simp at hk
        · exact ⟨c, o, _, _, e, hi.2 k hk, rfl, wrap_in _ ⟨by omega, by omega⟩⟩
      have NT := Lib.hid (fun k h => negL_take D k h)
      generalize hDn : D.length = dn at *
      have HDn := Lib.hid hDn
      clear hDn
      go_loopw [8, 9] (fun v i wr2 => ∃ (k : Nat), i = .int .i64 k ∧ k ≤ dn ∧ Hid (wr2.ownsRow (w3.heap.size + 1) 2 1 v (negL (D.take k)).length (valsZ (negL (D.take k)))) ∧ Hid (Below n3.heap.size n3 wr2)) (fun _ i _ => dn - (intOf i).toNat)
      case atStart => exact ⟨0, rfl, Nat.zero_le _, O8, B8⟩
      case round =>
        obtain ⟨k, rfl, hk, G1, G2⟩ := hrel
        have hz3' := hz3.out
        obtain ⟨vs, vk, rfl⟩ := own_v G1.out
        have hkl : (negL (D.take k)).length = k := by rw [negL_len, List.length_take, HDn.out]; omega
        rw [hkl]
        by_cases hlt : k < dn
        · have hlt' : (k : Int) < (dn : Int) := by omega
          obtain ⟨c, o, z, y, rfl, hc, hwz, HY⟩ := DC.out wr G2.out k hlt
          have HA := own_below G1.out (bA0 wr (.cells #[.int .i64 y] 2))
          have hsz := G2.out.size
          obtain ⟨v9, w9, ha, ow, gr, hj⟩ := appZ HA 1 (ints_new wr y) (by simp; omega) (by simp [hkl]; omega)
          rw [HY.out, ← NT.out k hlt] at ow
          obtain ⟨s9, k9, rfl⟩ := own_v ow
          have O9 := Lib.hid ow
          have B9 := Lib.hid ((bA G2.out (.cells #[.int .i64 y] 2)).grown gr (by simp; omega) (fun j hj' => by have := (HA.lt j hj').1; omega))
          have ha' := ha 26
          rw [hkl] at ha'
          clear ha ow gr hj HA DC NT O8 B8 EN EP S3 G1 G2 hkl HY hz3'
          have hk0 : (0 : Int) ≤ (k : Int) := by omega
          go_wp2_with (at_builtin; refine Lib.wpList_append_run _ rfl _ _ _ _ rfl _ _ rfl rfl _ _ ha' ?_)
          go_roundw
          case rel => exact ⟨k + 1, by go_num, by omega, O9, B9⟩
          case measure => simp [intOf]; omega
        · have hlt' : ¬ (k : Int) < (dn : Int) := by omega
          have hkd : k = dn := by omega
          subst hkd
          have OL : Hid (wr.ownsRow (w3.heap.size + 1) 2 1 (.slice vs k vk) (negL D).length (valsZ (negL D))) := by
            have h := G1.out
            have hnl : (negL D).length = k := by rw [negL_len, HDn.out]
            rw [List.take_of_length_le (by rw [HDn.out]; omega)] at h
            show wr.ownsRow (w3.heap.size + 1) 2 1 (.slice vs k vk) (negL D).length (valsZ (negL D))
            rw [hnl] at h ⊢
            exact h
          have S4 := S3.out.below G2.out
          have S5 := S4.below (bA0 wr (.cells #[.slice vs k vk] 26))
          have hsz := G2.out.size
          have hws := S3.out.bl.size
          have or2 := S5.ol.row
          rw [← hdC_len ls] at or2
          obtain ⟨v9, w9, ha9, ow9, gr9⟩ := appH or2 (.slice vs k vk) rfl wr.heap.size (cell_at_new wr _ 26) (by simp; omega) (by rw [hdC_len]; omega)
          obtain ⟨s9, k9, rfl⟩ := own_v ow9
          rw [hdC_len] at ow9 ha9 gr9
          obtain ⟨-, -, t3, -⟩ := S5.slot S5.ol.row (by decide) (by decide) (Nat.le_refl _) gr9
          have e2 := (cells5 t3).2.2.1
          have e3 : w9.frozen? ⟨O, 2, none⟩ = false := by simp [World.frozen?, t3]
          have e4 : O < w9.heap.size := (Array.getElem?_eq_some_iff.1 t3).1
          obtain ⟨g1, -, -, g2, -, -, -, -, -, -⟩ := S4.facts
          obtain ⟨wz, hset⟩ : ∃ wz, w9.setCell ⟨O, 2, none⟩ (.slice s9 (ls.length + 1) k9) = wz := ⟨_, rfl⟩
          have S6 := S5.lemma (r := (.slice vs k vk, negL D)) (own_mono (own_below OL.out (bA0 wr (.cells #[.slice vs k vk] 26))) (by omega)) (fun j hj => by
            have h1 := (OL.out.lt j hj).1
            refine ⟨fun s hs e => ?_, fun e => ?_, fun e => by cases e⟩
            · have := ((S3.out.ol.each s hs).lt _ e).2
              omega
            · have := (S3.out.od.lt _ e).2
              omega) gr9 ow9
          rw [hset] at S6
          have HS6 := Lib.hid S6
          have ha9' := ha9 23
          have BC : Hid (bareC (ls ++ [((.slice vs k vk : Value), negL D)]) = bareC ls ++ [negL D]) := by show _ = _; rw [bareC_add]; rfl
          have LN9 : Hid ((ls ++ [((.slice vs k vk : Value), negL D)]).length = ls.length + 1) := by show _ = _; simp
          obtain ⟨y1, y0, -, -, -, -, yf, -, -, -⟩ := S6.facts
          have yf0 := yf 0
          clear yf S6 t3 gr9 ow9 ha9 or2 S4 S5 OL G1 G2 DC NT O8 B8 S3 hkl hz3 hz3'
          by_cases hD : k = 0
          · subst hD
            have E := Lib.hid (EN.out rfl)
            obtain ⟨wy, hset2⟩ : ∃ wy, wz.setCell ⟨O, 0, none⟩ (.int .i64 2) = wy := ⟨_, rfl⟩
            have S7 := HS6.out.verdict 2
            rw [hset2] at S7
            have F := Lib.hid (S7.fin (R := R) (by rw [BC.out]; exact E.out))
            have A6 := set5_at (v0 := .int .i64 2) (v1 := .slice none 0 0) (v2 := .slice s9 (ls.length + 1) k9) (v3 := .int .i64 ((st : Int) + 1)) (v4 := .int .i64 0) S7.box
            obtain ⟨r0, r1, r2, r3, r4⟩ := cells5 A6
            obtain ⟨bl6, c0, c1, c2, c3, c4, f0, f1, f2, f3, f4⟩ := S7.box.facts
            obtain ⟨o6, i0, i1, i2, i3, i4, -, -, -, -⟩ := S7.facts
            unfold set5 at F r0 r1 r2 r3 r4
            have RR := Lib.hid (And.intro r0 (And.intro r1 (And.intro r2 (And.intro r3 r4))))
            clear r0 r1 r2 r3 r4 A6 S7 HS6 E EN EP BC LN9 hD96
            generalize ls.length = ln at *
            go_wp2_with (at_builtin; refine Lib.wpList_append_run _ rfl _ _ _ _ rfl _ _ rfl rfl _ _ ha9' ?_)
            obtain ⟨r0, r1, r2, r3, r4⟩ := RR.out
            exact bodyPost_ret (v := .agg #[.int .i64 2, .slice none 0 0, .slice s9 (ln + 1) k9, .int .i64 ((st : Int) + 1), .int .i64 0]) (by simp [results, Try.results55, go_sem, r0, r1, r2, r3, r4]) rfl F.out
          · obtain ⟨m, rfl⟩ : ∃ m, k = m + 1 := ⟨k - 1, by omega⟩
            have RI := Lib.hid (EP.out (by omega))
            obtain ⟨s, kk, e, hi⟩ := own_ints HS6.out.od
            rw [HDn.out] at e
            cases e
            have hcap := own_cap8 HS6.out.od
            rw [HDn.out] at hcap
            have hdl : Hid (D.dropLast.length = m) := by show _ = _; rw [List.length_dropLast, HDn.out]; rfl
            obtain ⟨v10, w10, ha, ow, gr, hj⟩ := appZ (zs := []) (own_none8 wz) dk ((ints_pre hi).below (bA0 wz (.cells #[] 2))) (by simp) (by simp; rw [HDn.out]; omega)
            rw [List.nil_append, hdl.out] at ow
            rw [hdl.out] at ha
            have B10 := (bA0 wz (.cells #[] 2)).grown gr (by simp) (fun j hj' => by simp [Value.ownBlock] at hj'; omega)
            obtain ⟨s10, k10, rfl⟩ := own_v ow
            have S7 := Lib.hid (HS6.out.fresh B10 (by rw [hdl.out]; exact ow) (Nat.le_refl _))
            have ha' := ha 26
            rw [← BC.out] at RI
            clear ha ow gr hj B10 HS6 EN EP BC hi hD96
            generalize ls.length = ln at *
            go_wp2_with (first | (at_builtin; refine Lib.wpList_append_run _ rfl _ _ _ _ rfl _ _ rfl rfl _ _ ha9' ?_) | (at_builtin; refine Lib.wpList_append_run _ rfl _ _ _ _ rfl _ _ rfl rfl _ _ ha' ?_))
            go_roundg (gk - 1)
            case measure => omega
            case rel => exact ⟨st + 1, _, _, _, by omega, S7, RI⟩
end Go.Proofs.Ytendehejodgljaa
namespace Go.Proofs.Ytendehejodgljaa
open Go.RowKit
set_option linter.unusedVariables false

end Go.Proofs.Ytendehejodgljaa
