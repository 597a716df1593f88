/-
  A RIGHT PLAN, ITS TRUES AND BACK, as lists.
  PLACES COPIED AND COMPARED: lwPlaces, lwPlan.
  NUMBERS COPIED AND COMPARED, AND LISTS OF THEM: lwCopy, lwSame, lwLists.
  THE FIRST CLAUSE THAT IS NOT TRUE: spec.CnfFault, spec.CnfTrue.
-/
import Derived.Test.YtdmfljejlhlbnaaHat
import Derived.Test.YtdmfljejlhlbnaaHan
import Derived.Test.YtdmfljejlhlbnaaHap
import Derived.Test.YtdmfljejlhlbnaaHao
namespace Go.Proofs.Ytdmfljejlhlbnaa
open Go.RowKit
set_option linter.unusedVariables false

theorem tr_up (pl V : List LPl) (k : Nat) : (trK pl V k).Pairwise (· < ·) := by
  unfold trK
  rw [List.pairwise_map]
  exact (List.pairwise_lt_range.filter _).imp (fun {a b} h => by omega)
theorem tr_rise (pl V : List LPl) : InRise 1 V.length (trK pl V V.length) := fun k hk =>
  ⟨by
    obtain ⟨m, hm, e, _⟩ := (tr_mem pl V _).1 (getD_mem hk)
    rw [e]; exact ⟨by omega, by omega⟩, fun h0 => pair_rise _ (tr_up pl V _) k hk h0⟩
theorem filter_one {a : Int} : ∀ l : List Int, l.Pairwise (· ≠ ·) → a ∈ l → l.filter (fun c => decide (c = a)) = [a]
  | [], _, h => by cases h
  | x :: r, hp, h => by
    rw [List.pairwise_cons] at hp
    by_cases e : x = a
    · subst e
      have hr : r.filter (fun c => decide (c = x)) = [] := List.filter_eq_nil_iff.2 (fun c hc => by have := hp.1 c hc; simp; exact fun g => this g.symm)
      rw [List.filter_cons, hr]; simp
    · have ha : a ∈ r := by
        rcases List.mem_cons.1 h with g | g
        · exact absurd g.symm e
        · exact g
      rw [List.filter_cons, filter_one r hp.2 ha]; simp [e]
theorem ch_one {rs : List LSt} {ps : List LPr} {top : Int} {pl : List LPl} (h : PlanOk rs ps top pl) {p : LPl} (hp : p ∈ pl) : (chF rs top p.1).filter (fun q => B (q ∈ pl)) = [p] := by
  unfold chF
  rw [List.filter_map]
  have e : (rs.flatMap (domF p.1 top)).filter ((fun q : LPl => B (q ∈ pl)) ∘ fun c => (p.1, c)) = (rs.flatMap (domF p.1 top)).filter (fun c => decide (c = p.2)) := by
    refine List.filter_congr (fun c _ => ?_)
    show B ((p.1, c) ∈ pl) = decide (c = p.2)
    by_cases hc : c = p.2
    · subst hc; rw [B_yes (show (p.1, p.2) ∈ pl from hp)]; simp
    · rw [B_no (fun g => hc (by have := one_id h.ids g hp rfl; rw [← this]))]; simp [hc]
  rw [e, filter_one _ (dom_ne rs ps p.1 top h.ids.2.1) (h.dom p hp)]
  rfl
theorem plan_back {rs : List LSt} {ps : List LPr} {top : Int} {pl : List LPl} (h : PlanOk rs ps top pl) : (plF rs top (pidsL pl)).filter (fun q => B (q ∈ pl)) = pl := by
  have key : ∀ l : List LPl, (∀ p ∈ l, p ∈ pl) → ((pidsL l).flatMap (chF rs top)).filter (fun q => B (q ∈ pl)) = l := by
    intro l
    induction l with
    | nil => intro _; rfl
    | cons p r ih =>
      intro hl
      simp only [pidsL, List.map_cons, List.flatMap_cons, List.filter_append]
      rw [ch_one h (hl p (by simp)), show List.filter (fun q => B (q ∈ pl)) ((r.map fun p => p.1).flatMap (chF rs top)) = r from ih (fun q hq => hl q (by simp [hq]))]
      rfl
  exact key pl (fun _ hp => hp)
theorem po_tr (pl V : List LPl) : ∀ k, k ≤ V.length → poP V (trK pl V k) = (V.take k).filter (fun q => B (q ∈ pl)) := by
  intro k
  induction k with
  | zero => intro _; rfl
  | succ k ih =>
    intro hk
    have hk' : k < V.length := by omega
    have hg : V.getD k (0, 0) = V[k] := by simp [hk']
    rw [List.take_succ_eq_append_getElem hk', List.filter_append, ← ih (by omega)]
    cases hb : B (V[k] ∈ pl) with
    | true =>
      rw [trK_yes pl V k (by rw [hg]; exact hb), List.filter_cons, hb]
      unfold poP
      rw [List.map_append]
      simp [hk']
    | false =>
      rw [trK_no pl V k (by rw [hg]; exact hb), List.filter_cons, hb]
      simp
theorem trA_yes {rs : List LSt} {ps : List LPr} {top : Int} {pl : List LPl} (h : planB rs ps top pl = true) : trA rs ps top pl = trK pl (plF rs top (pidsL pl)) (plF rs top (pidsL pl)).length := by unfold trA; rw [if_pos h]
theorem trA_no {rs : List LSt} {ps : List LPr} {top : Int} {pl : List LPl} (h : ¬ planB rs ps top pl = true) : trA rs ps top pl = [] := by unfold trA; rw [if_neg h]
/-- No clause of the table is false of the trues of a right plan. -/
theorem plan_fault {rs : List LSt} {ps : List LPr} {top : Int} {pl : List LPl} (h : planB rs ps top pl = true) : fC (cnN rs ps top (pidsL pl) : Nat) (cnA rs ps top (pidsL pl)) (trA rs ps top pl) = -1 := by
  have ok := (planB_ok rs ps top pl).1 h
  have hN : cnN rs ps top (pidsL pl) = (plF rs top (pidsL pl)).length := by unfold cnN; rw [B_yes ok.ids]; rfl
  have h96 := plF_96 top (pidsL pl) ok.ids
  rw [trA_yes h]
  have hl := trK_len pl (plF rs top (pidsL pl)) (plF rs top (pidsL pl)).length
  rw [fC_yes (by omega) ⟨cnA_right top ok.ids, by rw [hN]; exact tr_rise pl _⟩]
  refine fF_all (Nat.le_refl _) (fun i hi => ?_)
  simp only [List.getD_eq_getElem?_getD, List.getElem?_eq_getElem hi, Option.getD_some]
  exact plan_true ok _ (List.getElem_mem hi)
/-- And the trues give the plan back. -/
theorem plan_of {rs : List LSt} {ps : List LPr} {top : Int} {pl : List LPl} (h : planB rs ps top pl = true) : poA rs ps top (pidsL pl) (trA rs ps top pl) = pl := by
  have ok := (planB_ok rs ps top pl).1 h
  have h96 := plF_96 top (pidsL pl) ok.ids
  rw [trA_yes h]
  have hl := trK_len pl (plF rs top (pidsL pl)) (plF rs top (pidsL pl)).length
  have e : poP (plF rs top (pidsL pl)) (trK pl (plF rs top (pidsL pl)) (plF rs top (pidsL pl)).length) = pl := by
    rw [po_tr pl _ _ (Nat.le_refl _), List.take_length]
    exact plan_back ok
  have hok : PoOK rs ps top (pidsL pl) (trK pl (plF rs top (pidsL pl)) (plF rs top (pidsL pl)).length) := ⟨by omega, ok.ids, tr_rise pl _, by rw [e]⟩
  unfold poA
  rw [B_yes hok, if_pos rfl, e]

end Go.Proofs.Ytdmfljejlhlbnaa
namespace Go.Proofs.Ytdmfljejlhlbnaa
open Go.RowKit
set_option linter.unusedVariables false

theorem ne34 (a b : Int) (w : World) : Sem.run Try.prog (binOp .neq 34 (.agg #[.int .i64 a, .int .i64 b]) (.agg #[.int .i64 a, .int .i64 b])) w = .ok (.bool false) w := by
  have u2 := Try.underlying2
  have a2 := Try.isAgg2
  have z2 := Try.sizeOf2
  have hS : Try.prog.underlying 34 = some (.struct (Try.prog.fieldsOf 34)) := by kernel_rfl
  have hp : Try.prog.stoodInHeld 34 = false := by kernel_rfl
  rw [run_neq_struct, show (10000 : Nat) = 9999 + 1 from rfl, run_equalIn_agg w 9999 34 _ _ hS hp]
  simp only [Program.fieldsOf, Try.underlying34]
  go_simp

set_option maxRecDepth 100000 in
set_option maxHeartbeats 2000000 in
/-- laws.lwPlaces. -/
theorem lwp_any (sl : Option Addr) (cap : Nat) (pl : List LPl) (w : World) (hn : pl.length ≤ 1048576) (hz : Pls w sl pl) :
    Calls Try.prog 17 #[.slice sl pl.length cap] w fun e w' => ∃ v, e = .returned v ∧ w'.ownsRow w.heap.size 34 2 v pl.length (enCells pl) ∧ Below w.heap.size w w' := by
  have B0 := Lib.hid (bA0 w (.cells #[] 34))
  obtain ⟨v9, w9, ha, ow, gr, hj⟩ := appP (ks := []) (own_none2 w) cap (hz.below B0.out) B0.out.size (by simp; omega)
  have ha' := ha 27
  have O9 : Hid (w9.ownsRow w.heap.size 34 2 v9 pl.length (enCells pl)) := by
    have := ow
    rwa [List.nil_append] at this
  have B9 := Lib.hid (B0.out.grown gr B0.out.size hj)
  clear ha ow gr hj hz B0
  generalize pl.length = n at *
  go_enter Try.func17, Try.ntmps17
  go_wp2_with (at_builtin; refine Lib.wpList_append_run _ rfl _ _ _ _ rfl _ _ rfl rfl _ _ ha' ?_)
  go_ret
  exact ⟨_, rfl, O9.out, B9.out⟩

set_option maxRecDepth 100000 in
set_option maxHeartbeats 2000000 in
/-- laws.lwPlan, of the same places twice. -/
theorem lwq_any (sl sl' : Option Addr) (cap cap' : Nat) (pl : List LPl) (w : World) (hn : pl.length ≤ 1048576) (hz : Pls w sl pl) (hz' : Pls w sl' pl) :
    Calls Try.prog 18 #[.slice sl pl.length cap, .slice sl' pl.length cap'] w fun e w' => e = .returned (.bool true) ∧ Below w.heap.size w w' := by
  have HZ := Lib.hid hz
  have HZ' := Lib.hid hz'
  clear hz hz'
  generalize hN : pl.length = n at *
  have HN := Lib.hid hN
  clear hN
  go_enter Try.func18, Try.ntmps18
  go_wp2
  go_loopw [5] (fun i wr => ∃ k : Nat, i = .int .i64 k ∧ k ≤ n ∧ Hid (Below w.heap.size w wr)) (fun i _ => n - (intOf i).toNat)
  case atStart => exact ⟨0, rfl, Nat.zero_le _, Below.refl _ _⟩
  case round =>
    obtain ⟨k, rfl, hk, H2⟩ := hrel
    have hk0 : (0 : Int) ≤ (k : Int) := by omega
    by_cases g1 : k < n
    · have g1' : (k : Int) < (n : Int) := by omega
      have hlt : k < pl.length := by rw [HN.out]; exact g1
      obtain ⟨c, o, rfl, Z0⟩ : ∃ c o, sl = some ⟨c, o, none⟩ ∧ PlAt w c o pl := by
        rcases HZ.out with e | h
        · rw [e] at hlt; simp at hlt
        · exact h
      obtain ⟨c', o', rfl, Z0'⟩ : ∃ c o, sl' = some ⟨c, o, none⟩ ∧ PlAt w c o pl := by
        rcases HZ'.out with e | h
        · rw [e] at hlt; simp at hlt
        · exact h
      obtain ⟨⟨a, b⟩, hp⟩ : ∃ p, pl[k]'hlt = p := ⟨_, rfl⟩
      have KS : Hid ((c < wr.drew.heap.size ∧ wr.drew.cell? ⟨c, o + k * 2, none⟩ = some (.int .i64 a) ∧ wr.drew.cell? ⟨c, o + k * 2 + 1, none⟩ = some (.int .i64 b)) ∧ c' < wr.drew.heap.size ∧ wr.drew.cell? ⟨c', o' + k * 2, none⟩ = some (.int .i64 a) ∧ wr.drew.cell? ⟨c', o' + k * 2 + 1, none⟩ = some (.int .i64 b)) := by
        have q := (Z0.below H2.out.drew).cell k hlt
        have q' := (Z0'.below H2.out.drew).cell k hlt
        rw [hp] at q q'
        exact ⟨⟨(Z0.below H2.out.drew).lt, q⟩, (Z0'.below H2.out.drew).lt, q'⟩
      have D2 := Lib.hid H2.out.drew
      have hgt : Try.prog.eqGuardType Try.prog.depth 34 = false := by kernel_rfl
      have hnq := ne34 a b
      clear Z0 Z0' hp hlt
      go_wp2_with fail
      refine wp_region_held_drew (S := fun W => (c < W.heap.size ∧ W.cell? ⟨c, o + k * 2, none⟩ = some (.int .i64 a) ∧ W.cell? ⟨c, o + k * 2 + 1, none⟩ = some (.int .i64 b)) ∧ c' < W.heap.size ∧ W.cell? ⟨c', o' + k * 2, none⟩ = some (.int .i64 a) ∧ W.cell? ⟨c', o' + k * 2 + 1, none⟩ = some (.int .i64 b)) (by kernel_rfl) ?_ (fun hHeld => ?_)
      · exact KS.out
      refine wpAnyH_take (i := 0) (oi := _) (v := ?_) rfl (by kernel_rfl) (by kernel_rfl) (by kernel_rfl) (fun _ _ _ h => h) (Or.inl ⟨by rfl, ?_⟩) (by assumption) ?_
      rotate_left
      · first | (intro w hSw; (try dsimp only at hSw); go_simp; done) | (intro w hSw; (try dsimp only at hSw); go_simp; with_reducible rfl)
      try simp only [Act.put, List.setIfInBounds_toArray, List.set_cons_zero, List.set_cons_succ, List.getElem_toArray, List.getElem_cons_zero]
      refine wpAnyH_take (i := 1) (oi := _) (v := ?_) rfl (by kernel_rfl) (by kernel_rfl) (by kernel_rfl) (fun _ _ _ h => h) (Or.inl ⟨by rfl, ?_⟩) (by assumption) ?_
      rotate_left
      · first | (intro w hSw; (try dsimp only at hSw); go_simp; done) | (intro w hSw; (try dsimp only at hSw); go_simp; with_reducible rfl)
      try simp only [Act.put, List.setIfInBounds_toArray, List.set_cons_zero, List.set_cons_succ, List.getElem_toArray, List.getElem_cons_succ, List.getElem_cons_zero]
      refine wpAnyH_take (i := 2) (oi := _) (v := ?_) rfl (by kernel_rfl) (by kernel_rfl) (by kernel_rfl) (fun _ _ _ h => h) (Or.inl ⟨by rfl, ?_⟩) (by assumption) ?_
      rotate_left
      · first | (intro w hSw; (try dsimp only at hSw); go_simp; done) | (intro w hSw; (try dsimp only at hSw); go_simp; with_reducible rfl)
      try simp only [Act.put, List.setIfInBounds_toArray, List.set_cons_zero, List.set_cons_succ, List.getElem_toArray, List.getElem_cons_succ, List.getElem_cons_zero]
      refine wpAnyH_take (i := 3) (oi := _) (v := ?_) rfl (by kernel_rfl) (by kernel_rfl) (by kernel_rfl) (fun _ _ _ h => h) (Or.inl ⟨by rfl, ?_⟩) (by assumption) ?_
      rotate_left
      · first | (intro w hSw; (try dsimp only at hSw); go_simp; done) | (intro w hSw; (try dsimp only at hSw); go_simp; with_reducible rfl)
      try simp only [Act.put, List.setIfInBounds_toArray, List.set_cons_zero, List.set_cons_succ, List.getElem_toArray, List.getElem_cons_succ, List.getElem_cons_zero]
      refine wpAnyH_take (i := 4) (oi := _) (v := ?_) rfl (by kernel_rfl) (by kernel_rfl) (by kernel_rfl) (fun _ _ _ h => h) (Or.inl ⟨by rfl, ?_⟩) (by assumption) ?_
      rotate_left
      · first | (intro w hSw; (try dsimp only at hSw); go_simp; done) | (intro w hSw; (try dsimp only at hSw); go_simp; with_reducible rfl)
      try simp only [Act.put, List.setIfInBounds_toArray, List.set_cons_zero, List.set_cons_succ, List.getElem_toArray, List.getElem_cons_succ, List.getElem_cons_zero]
      refine wpAnyH_take (i := 5) (oi := _) (v := ?_) rfl (by kernel_rfl) (by kernel_rfl) (by kernel_rfl) (fun _ _ _ h => h) (Or.inl ⟨by rfl, ?_⟩) (by assumption) ?_
      rotate_left
      · first | (intro w hSw; (try dsimp only at hSw); go_simp; done) | (intro w hSw; (try dsimp only at hSw); go_simp; with_reducible rfl)
      try simp only [Act.put, List.setIfInBounds_toArray, List.set_cons_zero, List.set_cons_succ, List.getElem_toArray, List.getElem_cons_succ, List.getElem_cons_zero]
      refine wpAnyH_take (i := 6) (oi := _) (v := ?_) rfl (by kernel_rfl) (by kernel_rfl) (by kernel_rfl) (fun _ _ _ h => h) (Or.inl ⟨by rfl, ?_⟩) (by assumption) ?_
      rotate_left
      · first | (intro w hSw; (try dsimp only at hSw); go_simp; done) | (intro w hSw; (try dsimp only at hSw); go_simp; with_reducible rfl)
      try simp only [Act.put, List.setIfInBounds_toArray, List.set_cons_zero, List.set_cons_succ, List.getElem_toArray, List.getElem_cons_succ, List.getElem_cons_zero]
      refine wpAnyH_take (i := 7) (oi := _) (v := ?_) rfl (by kernel_rfl) (by kernel_rfl) (by kernel_rfl) (fun _ _ _ h => h) (Or.inl ⟨by rfl, ?_⟩) (by assumption) ?_
      rotate_left
      · first | (intro w hSw; (try dsimp only at hSw); go_simp; done) | (intro w hSw; (try dsimp only at hSw); go_simp; with_reducible rfl)
      try simp only [Act.put, List.setIfInBounds_toArray, List.set_cons_zero, List.set_cons_succ, List.getElem_toArray, List.getElem_cons_succ, List.getElem_cons_zero]
      refine wpAnyH_take (i := 8) (oi := _) (v := ?_) rfl (by kernel_rfl) (by kernel_rfl) (by kernel_rfl) (fun _ _ _ h => h) (Or.inl ⟨by rfl, ?_⟩) (by assumption) ?_
      rotate_left
      · first | (intro w hSw; (try dsimp only at hSw); go_simp; done) | (intro w hSw; (try dsimp only at hSw); go_simp; with_reducible rfl)
      try simp only [Act.put, List.setIfInBounds_toArray, List.set_cons_zero, List.set_cons_succ, List.getElem_toArray, List.getElem_cons_succ, List.getElem_cons_zero]
      refine wpAnyH_done (by kernel_rfl) ?_ _
      clear KS hnq hgt
      go_wp2
      go_roundw
      case rel => exact ⟨k + 1, by go_num, by omega, D2⟩
      case measure => simp [intOf]; omega
    · have g1' : ¬ (k : Int) < (n : Int) := by omega
      go_wp2
      go_ret
      exact ⟨rfl, H2.out⟩

end Go.Proofs.Ytdmfljejlhlbnaa
namespace Go.Proofs.Ytdmfljejlhlbnaa
open Go.RowKit
set_option linter.unusedVariables false

/-- Numbers put behind numbers: both ways of it. -/
theorem appZ {w : World} {B : Nat} {v : Value} {zs : List Int} (h : w.ownsRow B 2 1 v zs.length (valsZ zs)) {s : Option Addr} {r : List Int} (k : Nat) (hi : Ints w s r) (hB : B ≤ w.heap.size) (hl : zs.length + r.length ≤ 10000000) :
    ∃ v9 w9, (∀ ty, (Builtin.append_ #[40, 40] ty #[v, .slice s r.length k]).run Try.prog w = .ok v9 w9) ∧ w9.ownsRow B 2 1 v9 (zs ++ r).length (valsZ (zs ++ r)) ∧ w.grownBy w9 v.ownBlock ∧ ∀ j, v.ownBlock = some j → B ≤ j := by
  obtain ⟨i3, hi3, hd0, hd1, hd2⟩ := info_parts info2'
  have hlo : ∀ j, v.ownBlock = some j → B ≤ j := fun j hj => (h.lt j hj).1
  obtain ⟨sl, cap, rfl⟩ := own_v h
  by_cases he : r = []
  · subst he
    exact ⟨_, w, fun ty => app_none40 w ty sl zs.length cap (own_cap6 h) s k, by rw [List.append_nil]; exact h, ⟨rfl, rfl, rfl, Nat.le_refl _, fun _ _ _ => rfl⟩, hlo⟩
  · rcases hi with hi | ⟨c, o, rfl, hi⟩
    · exact absurd hi he
    · obtain ⟨g, c9, w9, hr, own9, grow9, hg, -⟩ := run_append_lies (P := Try.prog) w 40 40 B 2 i3 (.int .i64 0) 1 8 Try.underlying40 hi3 hd0 hd1 hd2 rfl (by decide) _ _ _ h ⟨c, o, none⟩ r.length k (valsZ r) (valsZ_len1 r) (int_cells hi) (valsZ_one r) (List.length_pos_iff.2 he) (by unfold maxLen; omega) (by omega) hB w.heap.size rfl
      exact ⟨_, w9, fun ty => hr, by rw [List.length_append, show valsZ (zs ++ r) = valsZ zs ++ valsZ r by simp [valsZ]]; exact own9, grow9, hlo⟩

set_option maxRecDepth 100000 in
set_option maxHeartbeats 2000000 in
/-- laws.lwCopy. -/
theorem lwc_any (sl : Option Addr) (cap : Nat) (zs : List Int) (w : World) (hn : zs.length ≤ 1048576) (hz : Ints w sl zs) :
    Calls Try.prog 26 #[.slice sl zs.length cap] w fun e w' => ∃ v, e = .returned v ∧ w'.ownsRow w.heap.size 2 1 v zs.length (valsZ zs) ∧ Below w.heap.size w w' := by
  have B0 := Lib.hid (bA0 w (.cells #[] 2))
  obtain ⟨v9, w9, ha, ow, gr, hj⟩ := appZ (zs := []) (own_none5 w) cap (hz.below B0.out) B0.out.size (by simp; omega)
  have ha' := ha 40
  have O9 : Hid (w9.ownsRow w.heap.size 2 1 v9 zs.length (valsZ zs)) := by
    have := ow
    rwa [List.nil_append] at this
  have B9 := Lib.hid (B0.out.grown gr B0.out.size hj)
  clear ha ow gr hj hz B0
  generalize zs.length = n at *
  go_enter Try.func26, Try.ntmps26
  go_wp2_with (at_builtin; refine Lib.wpList_append_run _ rfl _ _ _ _ rfl _ _ rfl rfl _ _ ha' ?_)
  go_ret
  exact ⟨_, rfl, O9.out, B9.out⟩

set_option maxRecDepth 100000 in
set_option maxHeartbeats 2000000 in
/-- laws.lwSame, of the same numbers twice. -/
theorem lws_any (sl sl' : Option Addr) (cap cap' : Nat) (zs : List Int) (w : World) (hn : zs.length ≤ maxLen) (hz : Ints w sl zs) (hz' : Ints w sl' zs) :
    Calls Try.prog 89 #[.slice sl zs.length cap, .slice sl' zs.length cap'] w fun e w' => e = .returned (.bool true) ∧ Below w.heap.size w w' := by
  unfold maxLen at hn
  have HZ := Lib.hid hz
  have HZ' := Lib.hid hz'
  clear hz hz'
  generalize hN : zs.length = n at *
  have HN := Lib.hid hN
  clear hN
  go_enter Try.func89, Try.ntmps89
  go_wp2
  go_loopw [5] (fun i wr => ∃ k : Nat, i = .int .i64 k ∧ k ≤ n ∧ Hid (Below w.heap.size w wr)) (fun i _ => n - (intOf i).toNat)
  case atStart => exact ⟨0, rfl, Nat.zero_le _, Below.refl _ _⟩
  case round =>
    obtain ⟨k, rfl, hk, H2⟩ := hrel
    have hk0 : (0 : Int) ≤ (k : Int) := by omega
    by_cases g1 : k < n
    · have g1' : (k : Int) < (n : Int) := by omega
      have hlt : k < zs.length := by rw [HN.out]; exact g1
      obtain ⟨c, o, rfl, Z0⟩ : ∃ c o, sl = some ⟨c, o, none⟩ ∧ IntsAt w c o zs := by
        rcases HZ.out with e | h
        · rw [e] at hlt; simp at hlt
        · exact h
      obtain ⟨c', o', rfl, Z0'⟩ : ∃ c o, sl' = some ⟨c, o, none⟩ ∧ IntsAt w c o zs := by
        rcases HZ'.out with e | h
        · rw [e] at hlt; simp at hlt
        · exact h
      have KS : Hid ((c < wr.drew.heap.size ∧ wr.drew.cell? ⟨c, o + k, none⟩ = some (.int .i64 (zs.getD k 0))) ∧ c' < wr.drew.heap.size ∧ wr.drew.cell? ⟨c', o' + k, none⟩ = some (.int .i64 (zs.getD k 0))) :=
        ⟨⟨Nat.lt_of_lt_of_le Z0.1 H2.out.drew.size, (H2.out.drew.cell (p := ⟨c, o + k, none⟩) Z0.1).trans (Z0.2 k hlt)⟩, Nat.lt_of_lt_of_le Z0'.1 H2.out.drew.size, (H2.out.drew.cell (p := ⟨c', o' + k, none⟩) Z0'.1).trans (Z0'.2 k hlt)⟩
      have D2 := Lib.hid H2.out.drew
      generalize zs.getD k 0 = a at *
      clear Z0 Z0' hlt
      go_wp2_with fail
      refine wp_region_held_drew (S := fun W => (c < W.heap.size ∧ W.cell? ⟨c, o + k, none⟩ = some (.int .i64 a)) ∧ c' < W.heap.size ∧ W.cell? ⟨c', o' + k, none⟩ = some (.int .i64 a)) (by kernel_rfl) ?_ (fun hHeld => ?_)
      · exact KS.out
      refine wpAnyH_take (i := 0) (oi := _) (v := ?_) rfl (by kernel_rfl) (by kernel_rfl) (by kernel_rfl) (fun _ _ _ h => h) (Or.inl ⟨by rfl, ?_⟩) (by assumption) ?_
      rotate_left
      · first | (intro w hSw; (try dsimp only at hSw); go_simp; done) | (intro w hSw; (try dsimp only at hSw); go_simp; with_reducible rfl)
      try simp only [Act.put, List.setIfInBounds_toArray, List.set_cons_zero, List.set_cons_succ, List.getElem_toArray, List.getElem_cons_zero]
      refine wpAnyH_take (i := 1) (oi := _) (v := ?_) rfl (by kernel_rfl) (by kernel_rfl) (by kernel_rfl) (fun _ _ _ h => h) (Or.inl ⟨by rfl, ?_⟩) (by assumption) ?_
      rotate_left
      · first | (intro w hSw; (try dsimp only at hSw); go_simp; done) | (intro w hSw; (try dsimp only at hSw); go_simp; with_reducible rfl)
      try simp only [Act.put, List.setIfInBounds_toArray, List.set_cons_zero, List.set_cons_succ, List.getElem_toArray, List.getElem_cons_succ, List.getElem_cons_zero]
      refine wpAnyH_take (i := 2) (oi := _) (v := ?_) rfl (by kernel_rfl) (by kernel_rfl) (by kernel_rfl) (fun _ _ _ h => h) (Or.inl ⟨by rfl, ?_⟩) (by assumption) ?_
      rotate_left
      · first | (intro w hSw; (try dsimp only at hSw); go_simp; done) | (intro w hSw; (try dsimp only at hSw); go_simp; with_reducible rfl)
      try simp only [Act.put, List.setIfInBounds_toArray, List.set_cons_zero, List.set_cons_succ, List.getElem_toArray, List.getElem_cons_succ, List.getElem_cons_zero]
      refine wpAnyH_take (i := 3) (oi := _) (v := ?_) rfl (by kernel_rfl) (by kernel_rfl) (by kernel_rfl) (fun _ _ _ h => h) (Or.inl ⟨by rfl, ?_⟩) (by assumption) ?_
      rotate_left
      · first | (intro w hSw; (try dsimp only at hSw); go_simp; done) | (intro w hSw; (try dsimp only at hSw); go_simp; with_reducible rfl)
      try simp only [Act.put, List.setIfInBounds_toArray, List.set_cons_zero, List.set_cons_succ, List.getElem_toArray, List.getElem_cons_succ, List.getElem_cons_zero]
      refine wpAnyH_take (i := 4) (oi := _) (v := ?_) rfl (by kernel_rfl) (by kernel_rfl) (by kernel_rfl) (fun _ _ _ h => h) (Or.inl ⟨by rfl, ?_⟩) (by assumption) ?_
      rotate_left
      · first | (intro w hSw; (try dsimp only at hSw); go_simp; done) | (intro w hSw; (try dsimp only at hSw); go_simp; with_reducible rfl)
      try simp only [Act.put, List.setIfInBounds_toArray, List.set_cons_zero, List.set_cons_succ, List.getElem_toArray, List.getElem_cons_succ, List.getElem_cons_zero]
      refine wpAnyH_take (i := 5) (oi := _) (v := ?_) rfl (by kernel_rfl) (by kernel_rfl) (by kernel_rfl) (fun _ _ _ h => h) (Or.inl ⟨by rfl, ?_⟩) (by assumption) ?_
      rotate_left
      · first | (intro w hSw; (try dsimp only at hSw); go_simp; done) | (intro w hSw; (try dsimp only at hSw); go_simp; with_reducible rfl)
      try simp only [Act.put, List.setIfInBounds_toArray, List.set_cons_zero, List.set_cons_succ, List.getElem_toArray, List.getElem_cons_succ, List.getElem_cons_zero]
      refine wpAnyH_take (i := 6) (oi := _) (v := ?_) rfl (by kernel_rfl) (by kernel_rfl) (by kernel_rfl) (fun _ _ _ h => h) (Or.inl ⟨by rfl, ?_⟩) (by assumption) ?_
      rotate_left
      · first | (intro w hSw; (try dsimp only at hSw); go_simp; done) | (intro w hSw; (try dsimp only at hSw); go_simp; with_reducible rfl)
      try simp only [Act.put, List.setIfInBounds_toArray, List.set_cons_zero, List.set_cons_succ, List.getElem_toArray, List.getElem_cons_succ, List.getElem_cons_zero]
      refine wpAnyH_take (i := 7) (oi := _) (v := ?_) rfl (by kernel_rfl) (by kernel_rfl) (by kernel_rfl) (fun _ _ _ h => h) (Or.inl ⟨by rfl, ?_⟩) (by assumption) ?_
      rotate_left
      · first | (intro w hSw; (try dsimp only at hSw); go_simp; done) | (intro w hSw; (try dsimp only at hSw); go_simp; with_reducible rfl)
      try simp only [Act.put, List.setIfInBounds_toArray, List.set_cons_zero, List.set_cons_succ, List.getElem_toArray, List.getElem_cons_succ, List.getElem_cons_zero]
      refine wpAnyH_take (i := 8) (oi := _) (v := ?_) rfl (by kernel_rfl) (by kernel_rfl) (by kernel_rfl) (fun _ _ _ h => h) (Or.inl ⟨by rfl, ?_⟩) (by assumption) ?_
      rotate_left
      · first | (intro w hSw; (try dsimp only at hSw); go_simp; done) | (intro w hSw; (try dsimp only at hSw); go_simp; with_reducible rfl)
      try simp only [Act.put, List.setIfInBounds_toArray, List.set_cons_zero, List.set_cons_succ, List.getElem_toArray, List.getElem_cons_succ, List.getElem_cons_zero]
      refine wpAnyH_done (by kernel_rfl) ?_ _
      clear KS
      go_wp2
      go_roundw
      case rel => exact ⟨k + 1, by go_num, by omega, D2⟩
      case measure => simp [intOf]; omega
    · have g1' : ¬ (k : Int) < (n : Int) := by omega
      go_wp2
      go_ret
      exact ⟨rfl, H2.out⟩

set_option maxRecDepth 100000 in
set_option maxHeartbeats 2000000 in
/-- laws.lwLists, of the same lists twice. -/
theorem lwl_any (sl sl' : Option Addr) (cap cap' : Nat) (cs ds : List LCl) (w : World) (hn : cs.length ≤ 1048576) (he : bareC cs = bareC ds) (hz : Cls w sl cs) (hz' : Cls w sl' ds) :
    Calls Try.prog 28 #[.slice sl cs.length cap, .slice sl' ds.length cap'] w fun e w' => e = .returned (.bool true) ∧ Below w.heap.size w w' := by
  rw [← bareC_len he]
  have HZ := Lib.hid hz
  have HZ' := Lib.hid hz'
  have HE := Lib.hid he
  have hl2 := Lib.hid (bareC_len he)
  clear hz hz' he
  generalize hN : cs.length = n at *
  have HN := Lib.hid hN
  clear hN
  go_enter Try.func28, Try.ntmps28
  go_wp2
  go_loopw [5] (fun i wr => ∃ k : Nat, i = .int .i64 k ∧ k ≤ n ∧ Hid (Below w.heap.size w wr)) (fun i _ => n - (intOf i).toNat)
  case atStart => exact ⟨0, rfl, Nat.zero_le _, Below.refl _ _⟩
  case round =>
    obtain ⟨k, rfl, hk, H2⟩ := hrel
    have hk0 : (0 : Int) ≤ (k : Int) := by omega
    by_cases g1 : k < n
    · have g1' : (k : Int) < (n : Int) := by omega
      have hlt : k < cs.length := by rw [HN.out]; exact g1
      have hlt' : k < ds.length := by rw [← hl2.out]; exact g1
      have D2 := Lib.hid H2.out.drew
      have Z1 := HZ.out.below D2.out
      have Z1' := HZ'.out.below D2.out
      obtain ⟨c, o, rfl, Z0⟩ := Z1.at hlt
      obtain ⟨c', o', rfl, Z0'⟩ := Z1'.at hlt'
      obtain ⟨ra, ka, ea, ia, la⟩ := Z1.each _ (List.getElem_mem hlt)
      obtain ⟨rb, kb, eb, ib, lb⟩ := Z1'.each _ (List.getElem_mem hlt')
      have e2 : cs[k].2 = ds[k].2 := by
        have := congrArg (fun l : List (List Int) => l[k]?) HE.out
        simpa [bareC, hlt, hlt'] using this
      have q := Z0.2 k hlt
      have q' := Z0'.2 k hlt'
      rw [ea] at q
      rw [eb, ← e2] at q'
      rw [← e2] at ib
      have cl := Z0.1
      have cl' := Z0'.1
      have KS : Hid (∀ W, Below wr.drew.heap.size wr.drew W → (c < W.heap.size ∧ W.cell? ⟨c, o + k, none⟩ = some (.slice ra cs[k].2.length ka)) ∧ c' < W.heap.size ∧ W.cell? ⟨c', o' + k, none⟩ = some (.slice rb cs[k].2.length kb)) := fun W hW =>
        ⟨⟨Nat.lt_of_lt_of_le cl hW.size, (hW.cell (p := ⟨c, o + k, none⟩) cl).trans q⟩, Nat.lt_of_lt_of_le cl' hW.size, (hW.cell (p := ⟨c', o' + k, none⟩) cl').trans q'⟩
      have CS := Lib.hid (lws_any ra rb ka kb cs[k].2 wr.drew la ia ib)
      clear Z0 Z0' Z1 Z1' ea eb ia ib la lb e2 q q' cl cl'
      generalize cs[k].2.length = u at *
      have K0 := Lib.hid (KS.out _ (Below.refl _ _))
      clear hlt hlt'
      go_wp2_with fail
      refine wp_region_held_drew (S := fun W => (c < W.heap.size ∧ W.cell? ⟨c, o + k, none⟩ = some (.slice ra u ka)) ∧ c' < W.heap.size ∧ W.cell? ⟨c', o' + k, none⟩ = some (.slice rb u kb)) (by kernel_rfl) ?_ (fun hHeld => ?_)
      · exact K0.out
      refine wpAnyH_take (i := 0) (oi := _) (v := ?_) rfl (by kernel_rfl) (by kernel_rfl) (by kernel_rfl) (fun _ _ _ h => h) (Or.inl ⟨by rfl, ?_⟩) (by assumption) ?_
      rotate_left
      · first | (intro w hSw; (try dsimp only at hSw); go_simp; done) | (intro w hSw; (try dsimp only at hSw); go_simp; with_reducible rfl)
      try simp only [Act.put, List.setIfInBounds_toArray, List.set_cons_zero, List.set_cons_succ, List.getElem_toArray, List.getElem_cons_zero]
      refine wpAnyH_take (i := 1) (oi := _) (v := ?_) rfl (by kernel_rfl) (by kernel_rfl) (by kernel_rfl) (fun _ _ _ h => h) (Or.inl ⟨by rfl, ?_⟩) (by assumption) ?_
      rotate_left
      · first | (intro w hSw; (try dsimp only at hSw); go_simp; done) | (intro w hSw; (try dsimp only at hSw); go_simp; with_reducible rfl)
      try simp only [Act.put, List.setIfInBounds_toArray, List.set_cons_zero, List.set_cons_succ, List.getElem_toArray, List.getElem_cons_succ, List.getElem_cons_zero]
      refine wpAnyH_take (i := 2) (oi := _) (v := ?_) rfl (by kernel_rfl) (by kernel_rfl) (by kernel_rfl) (fun _ _ _ h => h) (Or.inl ⟨by rfl, ?_⟩) (by assumption) ?_
      rotate_left
      · first | (intro w hSw; (try dsimp only at hSw); go_simp; done) | (intro w hSw; (try dsimp only at hSw); go_simp; with_reducible rfl)
      try simp only [Act.put, List.setIfInBounds_toArray, List.set_cons_zero, List.set_cons_succ, List.getElem_toArray, List.getElem_cons_succ, List.getElem_cons_zero]
      refine wpAnyH_take (i := 3) (oi := _) (v := ?_) rfl (by kernel_rfl) (by kernel_rfl) (by kernel_rfl) (fun _ _ _ h => h) (Or.inl ⟨by rfl, ?_⟩) (by assumption) ?_
      rotate_left
      · first | (intro w hSw; (try dsimp only at hSw); go_simp; done) | (intro w hSw; (try dsimp only at hSw); go_simp; with_reducible rfl)
      try simp only [Act.put, List.setIfInBounds_toArray, List.set_cons_zero, List.set_cons_succ, List.getElem_toArray, List.getElem_cons_succ, List.getElem_cons_zero]
      refine wpAnyH_take (i := 4) (oi := _) (v := ?_) rfl (by kernel_rfl) (by kernel_rfl) (by kernel_rfl) (fun _ _ _ h => h) (Or.inl ⟨by rfl, ?_⟩) (by assumption) ?_
      rotate_left
      · first | (intro w hSw; (try dsimp only at hSw); go_simp; done) | (intro w hSw; (try dsimp only at hSw); go_simp; with_reducible rfl)
      try simp only [Act.put, List.setIfInBounds_toArray, List.set_cons_zero, List.set_cons_succ, List.getElem_toArray, List.getElem_cons_succ, List.getElem_cons_zero]
      refine wpAnyH_take (i := 5) (oi := _) (v := ?_) rfl (by kernel_rfl) (by kernel_rfl) (by kernel_rfl) (fun _ _ _ h => h) (Or.inl ⟨by rfl, ?_⟩) (by assumption) ?_
      rotate_left
      · first | (intro w hSw; (try dsimp only at hSw); go_simp; done) | (intro w hSw; (try dsimp only at hSw); go_simp; with_reducible rfl)
      try simp only [Act.put, List.setIfInBounds_toArray, List.set_cons_zero, List.set_cons_succ, List.getElem_toArray, List.getElem_cons_succ, List.getElem_cons_zero]
      refine wpAnyH_take (i := 6) (oi := _) (v := ?_) rfl (by kernel_rfl) (by kernel_rfl) (by kernel_rfl) (fun _ _ _ h => h) (Or.inl ⟨by rfl, ?_⟩) (by assumption) ?_
      rotate_left
      · first | (intro w hSw; (try dsimp only at hSw); go_simp; done) | (intro w hSw; (try dsimp only at hSw); go_simp; with_reducible rfl)
      try simp only [Act.put, List.setIfInBounds_toArray, List.set_cons_zero, List.set_cons_succ, List.getElem_toArray, List.getElem_cons_succ, List.getElem_cons_zero]
      refine wpAnyH_take (i := 7) (oi := _) (v := ?_) rfl (by kernel_rfl) (by kernel_rfl) (by kernel_rfl) (fun _ _ _ h => h) (Or.inl ⟨by rfl, ?_⟩) (by assumption) ?_
      rotate_left
      · first | (intro w hSw; (try dsimp only at hSw); go_simp; done) | (intro w hSw; (try dsimp only at hSw); go_simp; with_reducible rfl)
      try simp only [Act.put, List.setIfInBounds_toArray, List.set_cons_zero, List.set_cons_succ, List.getElem_toArray, List.getElem_cons_succ, List.getElem_cons_zero]
      refine wpAnyH_ready (rs := [8]) (by kernel_rfl) (by simp) ?_
      refine AllReadyH.cons rfl (fun K hK => ?_) AllReadyH.nil
      go_simp
      go_wp2_with (go_at_call 89; refine CS.out.mono ?_; rintro e w9 ⟨rfl, b9'⟩)
      have b9 := Lib.hid b9'
      clear b9' CS
      refine hK.out _ _ ?_ (fun hHeld => ?_)
      · exact KS.out _ b9.out
      clear hK K
      refine wpAnyH_take (i := 9) (oi := _) (v := ?_) rfl (by kernel_rfl) (by kernel_rfl) (by kernel_rfl) (fun _ _ _ h => h) (Or.inl ⟨by rfl, ?_⟩) (by assumption) ?_
      rotate_left
      · first | (intro w hSw; (try dsimp only at hSw); go_simp; done) | (intro w hSw; (try dsimp only at hSw); go_simp; with_reducible rfl)
      try simp only [Act.put, List.setIfInBounds_toArray, List.set_cons_zero, List.set_cons_succ, List.getElem_toArray, List.getElem_cons_succ, List.getElem_cons_zero]
      refine wpAnyH_done (by kernel_rfl) ?_ _
      have F9 : Hid (Below w.heap.size w w9) := bT D2.out b9.out
      clear KS K0 b9
      go_wp2
      go_roundw
      case rel => exact ⟨k + 1, by go_num, by omega, F9⟩
      case measure => simp [intOf]; omega
    · have g1' : ¬ (k : Int) < (n : Int) := by omega
      go_wp2
      go_ret
      exact ⟨rfl, H2.out⟩

end Go.Proofs.Ytdmfljejlhlbnaa
namespace Go.Proofs.Ytdmfljejlhlbnaa
open Go.RowKit
set_option linter.unusedVariables false

/-- A literal is true, as the model asks it. -/
def MlT (ts : List Int) (z : Int) : Prop := (0 < z ∧ z ∈ ts) ∨ (z < 0 ∧ wrap64 (-z) ∉ ts)
/-- One of the first k is true. -/
def AnyTo (ts zs : List Int) (k : Nat) : Prop := ∃ i, i < k ∧ MlT ts (zs.getD i 0)
theorem AnyTo.zero (ts zs : List Int) : ¬ AnyTo ts zs 0 := fun ⟨i, h, _⟩ => absurd h (Nat.not_lt_zero _)
theorem AnyTo.step (ts zs : List Int) (k : Nat) : AnyTo ts zs (k + 1) ↔ AnyTo ts zs k ∨ MlT ts (zs.getD k 0) := by
  constructor
  · rintro ⟨i, hi, h⟩
    by_cases e : i = k
    · subst e; exact .inr h
    · exact .inl ⟨i, by omega, h⟩
  · rintro (⟨i, hi, h⟩ | h)
    · exact ⟨i, by omega, h⟩
    · exact ⟨k, by omega, h⟩
end Go.Proofs.Ytdmfljejlhlbnaa
