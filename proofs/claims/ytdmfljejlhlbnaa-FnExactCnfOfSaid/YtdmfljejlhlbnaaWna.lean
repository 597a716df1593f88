/-
  CLAUSES MARKED AND HELD: markInt64SS, heldInt64SS, markCnf, heldCnf, over clauses that are owned.
  CLAUSES THAT GROW IN A BOX, as the model makes them; markCnf, heldCnf.
  THE CLAUSES BY THE VARIABLES, step by step.
-/
import Derived.Test.YtdmfljejlhlbnaaWba
import Derived.Test.YtdmfljejlhlbnaaAs
import Derived.Test.YtdmfljejlhlbnaaWja
namespace Go.Proofs.Ytdmfljejlhlbnaa
open Go.RowKit
set_option linter.unusedVariables false

/-- The clauses with their marks. -/
def mkC (k : Int) : List LCl → List LCl
  | [] => []
  | r :: t => (r.1, marks k r.2.length) :: mkC (k + (r.2.length : Int)) t
theorem mkC_len (cs : List LCl) : ∀ k, (mkC k cs).length = cs.length := by
  induction cs with
  | nil => intro _; rfl
  | cons r t ih => intro k; simp [mkC, ih]
theorem mkC_append (a b : List LCl) : ∀ k, mkC k (a ++ b) = mkC k a ++ mkC (k + (totC a : Int)) b := by
  induction a with
  | nil => intro k; simp [mkC, totC]
  | cons r t ih =>
    intro k
    simp only [List.cons_append, mkC, ih]
    rw [show totC (r :: t) = r.2.length + totC t by simp [totC]]
    congr 3
    omega
theorem mkC_step (cs : List LCl) (k : Int) (i : Nat) (h : i < cs.length) : mkC k (cs.take (i + 1)) = mkC k (cs.take i) ++ [(cs[i].1, marks (k + (totC (cs.take i) : Int)) cs[i].2.length)] := by
  rw [List.take_succ_eq_append_getElem h, mkC_append]; rfl
theorem mkC_at (cs : List LCl) (k : Int) (i : Nat) (h : i < cs.length) : (mkC k cs)[i]'(by rw [mkC_len]; exact h) = (cs[i].1, marks (k + (totC (cs.take i) : Int)) cs[i].2.length) := by
  have e : mkC k cs = mkC k (cs.take (i + 1)) ++ mkC (k + (totC (cs.take (i + 1)) : Int)) (cs.drop (i + 1)) := by
    rw [← mkC_append, List.take_append_drop]
  have hl : i < (mkC k (cs.take (i + 1))).length := by rw [mkC_len, List.length_take]; omega
  have e2 : (mkC k cs)[i]? = some (cs[i].1, marks (k + (totC (cs.take i) : Int)) cs[i].2.length) := by
    rw [e, List.getElem?_append_left hl, mkC_step cs k i h, List.getElem?_append_right (by rw [mkC_len, List.length_take]; omega)]
    simp [mkC_len, List.length_take, Nat.min_eq_left (Nat.le_of_lt h)]
  rw [List.getElem?_eq_getElem (by rw [mkC_len]; exact h)] at e2
  exact Option.some.inj e2
/-- One row of them written over. -/
theorem OwC.over {w w' : World} {B : Nat} {v : Value} {ps ss : List LCl} {r : LCl} {zs : List Int} (h : OwC w B v (ps ++ r :: ss)) (hg : w.grownBy w' r.1.ownBlock) (hz : zs.length = r.2.length) (hr : w'.ownsRow B 2 1 r.1 zs.length (valsZ zs)) : OwC w' B v (ps ++ (r.1, zs) :: ss) := by
  have hp := List.pairwise_append.1 h.diff
  have hc := List.pairwise_cons.1 hp.2.1
  have hro := h.each r (by simp)
  refine ⟨?_, fun s hs => ?_, ?_⟩
  · have e1 : hdC (ps ++ (r.1, zs) :: ss) = hdC (ps ++ r :: ss) := by simp [hdC]
    have e2 : (ps ++ (r.1, zs) :: ss).length = (ps ++ r :: ss).length := by simp
    rw [e1, e2]
    exact h.row.kept hg (own_diff h.row hro (by decide))
  · rcases List.mem_append.1 hs with hs | hs
    · exact (h.each s (by simp [hs])).kept hg (hp.2.2 s hs r (by simp))
    · rcases List.mem_cons.1 hs with rfl | hs
      · exact hr
      · refine (h.each s (by simp [hs])).kept hg ?_
        rcases hc.1 s hs with e | e
        · rw [e]; cases s.1.ownBlock <;> simp
        · exact .inr (fun e2 => e e2.symm)
  · refine List.pairwise_append.2 ⟨hp.1, List.pairwise_cons.2 ⟨fun s hs => hc.1 s hs, hc.2⟩, fun a ha b hb => ?_⟩
    rcases List.mem_cons.1 hb with rfl | hb
    · exact hp.2.2 a ha r (by simp)
    · exact hp.2.2 a ha b (by simp [hb])

set_option maxRecDepth 100000 in
set_option maxHeartbeats 2000000 in
/-- markInt64SS. -/
theorem mkL_any (B : Nat) (v : Value) (cs : List LCl) (k : Int) (w : World) (hn : cs.length ≤ 100000000) (hr : ∀ r ∈ cs, r.2.length ≤ 1048576) (ht : totC cs ≤ 500000000) (k0 : 0 ≤ k) (k1 : k ≤ 1000) (hB : B ≤ w.heap.size) (h : OwC w B v cs) :
    Calls Try.prog 117 #[v, .int .i64 k] w fun e w' => e = .returned (.int .i64 (k + (totC cs : Int))) ∧ OwC w' B v (mkC k cs) ∧ Below B w w' := by
  have O0 := Lib.hid h
  have HR := Lib.hid hr
  have TL := Lib.hid (fun i => totC_le cs i)
  obtain ⟨sl, cap, rfl⟩ := h.v
  clear h hr
  generalize hN : cs.length = n at *
  have HN := Lib.hid hN
  clear hN
  go_enter Try.func117, Try.ntmps117
  go_wp2
  go_loopw [1, 5] (fun a i wr => ∃ j : Nat, i = .int .i64 j ∧ j ≤ n ∧ a = .int .i64 (k + (totC (cs.take j) : Int)) ∧ Hid (OwC wr B (.slice sl n cap) (mkC k (cs.take j) ++ cs.drop j)) ∧ Hid (Below B w wr)) (fun _ i _ => n - (intOf i).toNat)
  case atStart => exact ⟨0, rfl, Nat.zero_le _, by simp [totC], O0, Below.refl _ _⟩
  case round =>
    obtain ⟨j, rfl, hj, rfl, OC, HB⟩ := hrel
    have hj0 : (0 : Int) ≤ (j : Int) := by omega
    by_cases g1 : j < n
    · have g1' : (j : Int) < (n : Int) := by omega
      have hlt : j < cs.length := by rw [HN.out]; exact g1
      have ed : cs.drop j = cs[j] :: cs.drop (j + 1) := (List.getElem_cons_drop (h := hlt)).symm
      have oc := OC.out
      rw [ed] at oc
      have ro := oc.each cs[j] (List.mem_append_right _ (List.mem_cons_self ..))
      have ll : (mkC k (cs.take j) ++ cs[j] :: cs.drop (j + 1)).length = n := by rw [← ed, List.length_append, mkC_len, List.length_take, List.length_drop, HN.out]; omega
      have la : (mkC k (cs.take j)).length = j := by rw [mkC_len, List.length_take]; omega
      obtain ⟨s9, c9, e9, CL⟩ := oc.cls
      have hl2 : j < (mkC k (cs.take j) ++ cs[j] :: cs.drop (j + 1)).length := by rw [ll]; exact g1
      obtain ⟨c, o, rfl, cl, hcs⟩ := CL.at hl2
      obtain rfl : sl = some ⟨c, o, none⟩ := by cases e9; rfl
      have hc := hcs j hl2
      have eg : (mkC k (cs.take j) ++ cs[j] :: cs.drop (j + 1))[j]'hl2 = cs[j] := by
        rw [List.getElem_append_right (by omega)]
        simp [la]
      rw [eg] at hc
      have tb := TL.out j
      have T1 := Lib.hid (totC_take cs j hlt)
      have EM := Lib.hid (mark_row B cs[j].1 cs[j].2 (k + (totC (cs.take j) : Int)) (HR.out cs[j] (List.getElem_mem hlt)) (by omega) (by omega) wr ro)
      have NX : Hid (∀ W, W.ownsRow B 2 1 cs[j].1 cs[j].2.length (valsZ (marks (k + (totC (cs.take j) : Int)) cs[j].2.length)) → wr.grownBy W cs[j].1.ownBlock → OwC W B (.slice (some ⟨c, o, none⟩) n cap) (mkC k (cs.take (j + 1)) ++ cs.drop (j + 1))) := fun W h1 h2 => by
        rw [mkC_step cs k j hlt, List.append_assoc]
        exact oc.over h2 (marks_len _ _) (by rw [marks_len]; exact h1)
      have RB := Lib.hid (show ∀ b, cs[j].1.ownBlock = some b → B ≤ b from fun b hb => (ro.lt b hb).1)
      obtain ⟨s1, k1', v1⟩ := own_v ro
      rw [v1] at hc EM NX RB
      clear ed oc ro ll la CL e9 hl2 hcs eg OC v1
      generalize cs[j].2.length = q at *
      clear hlt
      generalize totC (cs.take j) = tj at *
      have hws := HB.out.size
      go_wp2_with fail
      refine EM.out.mono ?_
      rintro e w5 ⟨rfl, o5, gr5⟩
      have O5 := Lib.hid (NX.out w5 o5 gr5)
      have B5 := Lib.hid (HB.out.grown gr5 (by omega) (fun b hb => RB.out b hb))
      clear o5 gr5 EM NX RB HB
      go_wp2
      go_roundw
      case rel => exact ⟨j + 1, by go_num, by omega, (by rw [T1.out]; congr 1; push_cast; omega), O5, B5⟩
      case measure => simp [intOf]; omega
    · have g1' : ¬ (j : Int) < (n : Int) := by omega
      have et : cs.take j = cs := List.take_of_length_le (by rw [HN.out]; omega)
      have ed : cs.drop j = [] := List.drop_of_length_le (by rw [HN.out]; omega)
      have P : Hid (OwC wr B (.slice sl n cap) (mkC k cs)) := by have := OC.out; rw [et, ed, List.append_nil] at this; exact this
      rw [et]
      clear OC et ed
      go_wp2
      go_ret
      exact ⟨rfl, P.out, HB.out⟩

set_option maxRecDepth 100000 in
set_option maxHeartbeats 2000000 in
/-- heldInt64SS. -/
theorem hdL_any (B : Nat) (v : Value) (cs : List LCl) (k : Int) (w : World) (hn : cs.length ≤ 100000000) (hr : ∀ r ∈ cs, r.2.length ≤ 1048576) (ht : totC cs ≤ 500000000) (k0 : 0 ≤ k) (k1 : k ≤ 1000) (h : OwC w B v (mkC k cs)) :
    Calls Try.prog 118 #[v, .int .i64 k] w fun e w' => e = .returned (.int .i64 (k + (totC cs : Int))) ∧ w' = w := by
  have O0 := Lib.hid h
  have HR := Lib.hid hr
  have TL := Lib.hid (fun i => totC_le cs i)
  obtain ⟨sl, cap, rfl⟩ := h.v
  rw [mkC_len] at O0 ⊢
  clear h hr
  generalize hN : cs.length = n at *
  have HN := Lib.hid hN
  clear hN
  go_enter Try.func118, Try.ntmps118
  go_wp2
  go_loopw [1, 5] (fun a i wr => ∃ j : Nat, i = .int .i64 j ∧ j ≤ n ∧ a = .int .i64 (k + (totC (cs.take j) : Int)) ∧ wr = w) (fun _ i _ => n - (intOf i).toNat)
  case atStart => exact ⟨0, rfl, Nat.zero_le _, by simp [totC], rfl⟩
  case round =>
    obtain ⟨j, rfl, hj, rfl, rfl⟩ := hrel
    have hj0 : (0 : Int) ≤ (j : Int) := by omega
    by_cases g1 : j < n
    · have g1' : (j : Int) < (n : Int) := by omega
      have hlt : j < cs.length := by rw [HN.out]; exact g1
      have hl2 : j < (mkC k cs).length := by rw [mkC_len]; exact hlt
      have eg := mkC_at cs k j hlt
      have ro := O0.out.each _ (List.getElem_mem hl2)
      rw [eg] at ro
      dsimp only at ro
      rw [marks_len] at ro
      obtain ⟨s9, c9, e9, CL⟩ := O0.out.cls
      obtain ⟨c, o, rfl, cl, hcs⟩ := CL.at hl2
      obtain rfl : sl = some ⟨c, o, none⟩ := by cases e9; rfl
      have hc := hcs j hl2
      rw [eg] at hc
      have tb := TL.out j
      have tb2 := TL.out (j + 1)
      have T1 := Lib.hid (totC_take cs j hlt)
      have hql := HR.out cs[j] (List.getElem_mem hlt)
      have EM := Lib.hid (held_row B cs[j].1 cs[j].2.length (k + (totC (cs.take j) : Int)) hql (by omega) (by omega) wr ro)
      obtain ⟨s1, k1', v1⟩ := own_v ro
      dsimp only at hc
      rw [v1] at hc EM
      clear ro CL e9 hl2 hcs eg v1
      generalize cs[j].2.length = q at *
      clear hlt
      have hneg : ¬ (k + (totC (cs.take j) : Int) + (q : Int)) < 0 := by omega
      clear tb2
      generalize totC (cs.take j) = tj at *
      go_wp2_with fail
      refine EM.out.mono ?_
      rintro e w5 ⟨rfl, rfl⟩
      clear EM
      go_wp2
      go_roundw
      case rel => exact ⟨j + 1, by go_num, by omega, (by rw [T1.out]; congr 1; push_cast; omega), trivial⟩
      case measure => simp [intOf]; omega
    · have g1' : ¬ (j : Int) < (n : Int) := by omega
      have et : cs.take j = cs := List.take_of_length_le (by rw [HN.out]; omega)
      rw [et]
      clear et
      go_wp2
      go_ret
      exact ⟨rfl, rfl⟩
end Go.Proofs.Ytdmfljejlhlbnaa
namespace Go.Proofs.Ytdmfljejlhlbnaa
open Go.RowKit
set_option linter.unusedVariables false

/-- The clauses stand in the box bx; below wB nothing else has turned. -/
structure SpS (w wB : World) (bx : Nat) (nv : Int) (wq : World) (v : Value) (cs : List LCl) : Prop where
  h1 : w.heap.size ≤ bx
  h2 : bx < wB.heap.size
  box : wq.heap[bx]? = some (.cells #[.int .i64 nv, v] 45)
  own : OwC wq wB.heap.size v cs
  kp : Kp1 bx wB.heap.size wB wq
  bel : Below w.heap.size w wq
theorem SpS.lt {w wB wq : World} {bx : Nat} {nv : Int} {v : Value} {cs : List LCl} (h : SpS w wB bx nv wq v cs) : bx < wq.heap.size := (Array.getElem?_eq_some_iff.1 h.box).1
theorem SpS.le {w wB wq : World} {bx : Nat} {nv : Int} {v : Value} {cs : List LCl} (h : SpS w wB bx nv wq v cs) : wB.heap.size ≤ wq.heap.size := h.kp.1
theorem SpS.cell {w wB wq : World} {bx : Nat} {nv : Int} {v : Value} {cs : List LCl} (h : SpS w wB bx nv wq v cs) : wq.cell? ⟨bx, 0, none⟩ = some (.int .i64 nv) ∧ wq.cell? ⟨bx, 1, none⟩ = some v ∧ wq.frozen? ⟨bx, 1, none⟩ = false := by
  have := h.box
  refine ⟨?_, ?_, ?_⟩ <;> simp [World.cell?, World.frozen?, this]
theorem SpS.below {w wB wq wq' : World} {bx : Nat} {nv : Int} {v : Value} {cs : List LCl} (h : SpS w wB bx nv wq v cs) (hb : Below wq.heap.size wq wq') : SpS w wB bx nv wq' v cs :=
  ⟨h.h1, h.h2, (hb.block bx h.lt).trans h.box, h.own.below hb, h.kp.trans (Kp1.of (hb.mono h.le)), bT h.bel hb⟩
theorem SpS.drew {w wB wq : World} {bx : Nat} {nv : Int} {v : Value} {cs : List LCl} (h : SpS w wB bx nv wq v cs) : SpS w wB bx nv wq.drew v cs := h.below (Below.refl _ _).drew
/-- What stands below, but the box, stays. -/
theorem SpS.old {w wB wq : World} {bx : Nat} {nv : Int} {v : Value} {cs : List LCl} (h : SpS w wB bx nv wq v cs) {c : Nat} (hc : c < wB.heap.size) (hb : c ≠ bx) (o : Nat) : c < wq.heap.size ∧ wq.cell? ⟨c, o, none⟩ = wB.cell? ⟨c, o, none⟩ := ⟨Nat.lt_of_lt_of_le hc h.le, h.kp.cell hc hb⟩
theorem SpS.far {w wB wq wa w9 : World} {bx : Nat} {nv : Int} {v : Value} {cs : List LCl} (h : SpS w wB bx nv wq v cs) (hb : Below wq.heap.size wq wa) (hg : wa.grownBy w9 v.ownBlock) : w9.heap[bx]? = some (.cells #[.int .i64 nv, v] 45) := blk_kept h.own h.box (by decide) hb hg
/-- The world behind the append, before the store. -/
theorem SpS.mid {w wB wq wa w9 : World} {bx : Nat} {nv : Int} {v : Value} {cs : List LCl} (h : SpS w wB bx nv wq v cs) (hb : Below wq.heap.size wq wa) (hg : wa.grownBy w9 v.ownBlock) : bx < w9.heap.size ∧ w9.cell? ⟨bx, 1, none⟩ = some v ∧ w9.frozen? ⟨bx, 1, none⟩ = false := by
  have e := h.far hb hg
  refine ⟨(Array.getElem?_eq_some_iff.1 e).1, ?_, ?_⟩ <;> simp [World.cell?, World.frozen?, e]
theorem SpS.add {w wB wq wa w9 : World} {bx : Nat} {nv : Int} {v v9 : Value} {cs : List LCl} {r : LCl} (h : SpS w wB bx nv wq v cs) (hb : Below wq.heap.size wq wa) (hr : wa.ownsRow wB.heap.size 2 1 r.1 r.2.length (valsZ r.2)) (hf : ∀ j, r.1.ownBlock = some j → wq.heap.size ≤ j) (hg : wa.grownBy w9 v.ownBlock) (own9 : w9.ownsRow wB.heap.size 40 1 v9 (cs.length + 1) (hdC cs ++ [r.1])) : SpS w wB bx nv (w9.setCell ⟨bx, 1, none⟩ v9) v9 (cs ++ [r]) := by
  have hlo : ∀ j, v.ownBlock = some j → wB.heap.size ≤ j := fun j hj => (h.own.row.lt j hj).1
  have hs := h.le
  have hs2 := hb.size
  have hw := h.bel.size
  have b9 : Below wB.heap.size wa w9 := (Below.refl _ _).grown hg (by omega) hlo
  refine ⟨h.h1, h.h2, ?_, (h.own.new hb hr hf hg own9).set h.h2 _ _, ?_, ?_⟩
  · exact heap_setCell_same w9 bx 1 _ 45 v9 (h.far hb hg)
  · exact (((h.kp.trans (Kp1.of (hb.mono h.le))).trans (Kp1.of b9))).set 1 v9
  · exact (((bT h.bel hb).grown hg (by omega) (fun j hj => by have := hlo j hj; have := h.h1; have := h.h2; omega))).setCell h.h1 _
/-- Another block made since stays, too. -/
theorem SpS.blk {w wB wq wa w9 : World} {bx : Nat} {nv : Int} {v v9 : Value} {cs : List LCl} (h : SpS w wB bx nv wq v cs) (hb : Below wq.heap.size wq wa) (hg : wa.grownBy w9 v.ownBlock) {b : Nat} {us : Array Value} {t : TypeId} (hh : wq.heap[b]? = some (.cells us t)) (ht : t ≠ 40) (hne : b ≠ bx) : (w9.setCell ⟨bx, 1, none⟩ v9).heap[b]? = some (.cells us t) :=
  (Below.heap_setCell _ _ _ _ hne).trans (blk_kept h.own hh ht hb hg)
theorem SpS.v {w wB wq : World} {bx : Nat} {nv : Int} {v : Value} {cs : List LCl} (h : SpS w wB bx nv wq v cs) : ∃ sl cap, v = .slice sl cs.length cap := h.own.v

set_option maxRecDepth 100000 in
set_option maxHeartbeats 1000000 in
/-- markCnf. -/
theorem mkCn_any (B : Nat) (nv : Int) (v : Value) (cs : List LCl) (k : Int) (w : World) (hn : cs.length ≤ 100000000) (hr : ∀ r ∈ cs, r.2.length ≤ 1048576) (ht : totC cs ≤ 500000000) (k0 : 0 ≤ k) (k1 : k ≤ 1000) (hB : B ≤ w.heap.size) (h : OwC w B v cs) :
    Calls Try.prog 57 #[.agg #[.int .i64 nv, v], .int .i64 k] w fun e w' => e = .returned (.int .i64 (k + (totC cs : Int))) ∧ OwC w' B v (mkC k cs) ∧ Below B w w' := by
  have E := Lib.hid (mkL_any B v cs k (w.alloc (.cells #[.int .i64 nv, v] 45)) hn hr ht k0 k1 (by simp; omega) (h.below (bA0 _ _)))
  have B0 := Lib.hid ((bA0 w (.cells #[.int .i64 nv, v] 45)).mono hB)
  obtain ⟨sl, cap, rfl⟩ := h.v
  have ht0 : (0 : Int) ≤ (totC cs : Int) := by omega
  clear h hr
  generalize totC cs = t at *
  generalize cs.length = n at *
  go_enter Try.func57, Try.ntmps57
  go_wp2_with fail
  refine E.out.mono ?_
  rintro e w1 ⟨rfl, o1, b1⟩
  have O1 := Lib.hid o1
  have B1 := Lib.hid (B0.out.trans b1)
  clear o1 b1 E
  go_wp2
  go_ret
  exact ⟨rfl, O1.out, B1.out⟩
set_option maxRecDepth 100000 in
set_option maxHeartbeats 1000000 in
/-- heldCnf. -/
theorem hdCn_any (B : Nat) (nv : Int) (v : Value) (cs : List LCl) (k : Int) (w : World) (hn : cs.length ≤ 100000000) (hr : ∀ r ∈ cs, r.2.length ≤ 1048576) (ht : totC cs ≤ 500000000) (k0 : 0 ≤ k) (k1 : k ≤ 1000) (h : OwC w B v (mkC k cs)) :
    Calls Try.prog 58 #[.agg #[.int .i64 nv, v], .int .i64 k] w fun e w' => e = .returned (.int .i64 (k + (totC cs : Int))) ∧ Below w.heap.size w w' := by
  have E := Lib.hid (hdL_any B v cs k (w.alloc (.cells #[.int .i64 nv, v] 45)) hn hr ht k0 k1 (h.below (bA0 _ _)))
  have B0 := Lib.hid (bA0 w (.cells #[.int .i64 nv, v] 45))
  obtain ⟨sl, cap, rfl⟩ := h.v
  have ht0 : ¬ (k + (totC cs : Int)) < 0 := by omega
  clear h hr
  generalize hT : k + (totC cs : Int) = t at *
  clear hT
  generalize (mkC k cs).length = n at *
  go_enter Try.func58, Try.ntmps58
  go_wp2_with fail
  refine E.out.mono ?_
  rintro e w1 ⟨rfl, rfl⟩
  clear E
  go_wp2
  go_ret
  exact ⟨rfl, B0.out⟩
end Go.Proofs.Ytdmfljejlhlbnaa
namespace Go.Proofs.Ytdmfljejlhlbnaa
open Go.RowKit
set_option linter.unusedVariables false

def ownL (id : Int) (V : List LPl) (m : Nat) : List Int := (ofId id ((nbF 0 V).take m)).map fun e => e.2
def ownA (V : List LPl) (id : Int) : List Int := (ofId id (nbF 0 V)).map fun e => e.2
theorem nb_take (V : List LPl) (m : Nat) (h : m < V.length) : (nbF 0 V).take (m + 1) = (nbF 0 V).take m ++ [(V[m], (m : Int) + 1)] := by
  have hl : m < (nbF 0 V).length := by rw [nbF_len]; exact h
  rw [List.take_succ_eq_append_getElem hl, nbF_at V 0 m h]
  simp
theorem ofId_one (id : Int) (e : LNb) : ofId id [e] = if e.1.1 = id then [e] else [] := by
  by_cases h : e.1.1 = id <;> simp [ofId, h]
theorem ownL_step (id : Int) (V : List LPl) (m : Nat) (h : m < V.length) : ownL id V (m + 1) = ownL id V m ++ if V[m].1 = id then [(m : Int) + 1] else [] := by
  unfold ownL
  rw [nb_take V m h, ofId_append, List.map_append, ofId_one]
  by_cases h : V[m].1 = id <;> simp [h]
theorem ownL_zero (id : Int) (V : List LPl) : ownL id V 0 = [] := by simp [ownL, ofId]
theorem ownL_all (id : Int) (V : List LPl) (m : Nat) (h : V.length ≤ m) : ownL id V m = ownA V id := by
  unfold ownL ownA; rw [List.take_of_length_le (by rw [nbF_len]; exact h)]
/-- The clauses of variable a, with the next m. -/
def twoL (V : List LPl) (a m : Nat) (x : Int) : List (List Int) := (ofId x (((nbF 0 V).drop (a + 1)).take m)).map fun y => [-(a : Int) - 1, -y.2]
theorem twoL_zero (V : List LPl) (a : Nat) (x : Int) : twoL V a 0 x = [] := by simp [twoL, ofId]
theorem twoL_step (V : List LPl) (a m : Nat) (x : Int) (h : a + 1 + m < V.length) : twoL V a (m + 1) x = twoL V a m x ++ if V[a + 1 + m].1 = x then [[-(a : Int) - 1, -((a + 1 + m : Nat) : Int) - 1]] else [] := by
  unfold twoL
  have hl : m < ((nbF 0 V).drop (a + 1)).length := by rw [List.length_drop, nbF_len]; omega
  rw [List.take_succ_eq_append_getElem hl, ofId_append, List.map_append, List.getElem_drop, nbF_at V 0 (a + 1 + m) h, ofId_one]
  by_cases g : V[a + 1 + m].1 = x
  · simp [g]; omega
  · simp [g]
theorem twoL_step' (V : List LPl) (a b : Nat) (x : Int) (h1 : a + 1 ≤ b) (h : b < V.length) : twoL V a (b + 1 - (a + 1)) x = twoL V a (b - (a + 1)) x ++ if V[b].1 = x then [[-(a : Int) - 1, -(b : Int) - 1]] else [] := by
  obtain ⟨m, rfl⟩ := Nat.exists_eq_add_of_le h1
  have := twoL_step V a m x h
  rw [show a + 1 + m + 1 - (a + 1) = m + 1 by omega, show a + 1 + m - (a + 1) = m by omega]
  exact this
theorem twoS_at (V : List LPl) (a : Nat) (h : a < V.length) (m : Nat) (hm : V.length ≤ a + 1 + m) : twoS ((nbF 0 V).drop a) = twoL V a m V[a].1 ++ twoS ((nbF 0 V).drop (a + 1)) := by
  have hl : a < (nbF 0 V).length := by rw [nbF_len]; exact h
  rw [← List.getElem_cons_drop (h := hl), twoS, nbF_at V 0 a h]
  unfold twoL
  rw [List.take_of_length_le (by rw [List.length_drop, nbF_len]; omega)]
  congr 1
  refine List.map_congr_left fun y _ => ?_
  simp; omega
/-- Two variables and a pair. -/
def besY (ps : List LPr) (p : LPr) (a : Nat) (x : LPl) (b : Nat) (y : LPl) : List (List Int) := if x.1 = p.1 ∧ y.1 = p.2.1 ∧ mayL ps p.1 x.2 p.2.1 y.2 = false then [[-(a : Int) - 1, -(b : Int) - 1]] else []
def besL (ps : List LPr) (p : LPr) (V : List LPl) (a : Nat) (x : LPl) (m : Nat) : List (List Int) := ((nbF 0 V).take m).flatMap fun y => if x.1 = p.1 ∧ y.1.1 = p.2.1 ∧ mayL ps p.1 x.2 p.2.1 y.1.2 = false then [[-(a : Int) - 1, -y.2]] else []
theorem besL_zero (ps : List LPr) (p : LPr) (V : List LPl) (a : Nat) (x : LPl) : besL ps p V a x 0 = [] := by simp [besL]
theorem besL_step (ps : List LPr) (p : LPr) (V : List LPl) (a : Nat) (x : LPl) (m : Nat) (h : m < V.length) : besL ps p V a x (m + 1) = besL ps p V a x m ++ besY ps p a x m V[m] := by
  unfold besL
  rw [nb_take V m h, List.flatMap_append]
  congr 1
  unfold besY
  by_cases g : x.1 = p.1 ∧ V[m].1 = p.2.1 ∧ mayL ps p.1 x.2 p.2.1 V[m].2 = false
  · simp [g]; omega
  · simp [g]
def besK (ps : List LPr) (p : LPr) (V : List LPl) (a : Nat) : List (List Int) := ((nbF 0 V).take a).flatMap fun x => (nbF 0 V).flatMap fun y => if x.1.1 = p.1 ∧ y.1.1 = p.2.1 ∧ mayL ps p.1 x.1.2 p.2.1 y.1.2 = false then [[-x.2, -y.2]] else []
theorem besK_zero (ps : List LPr) (p : LPr) (V : List LPl) : besK ps p V 0 = [] := by simp [besK]
theorem besK_step (ps : List LPr) (p : LPr) (V : List LPl) (a : Nat) (h : a < V.length) (m : Nat) (hm : V.length ≤ m) : besK ps p V (a + 1) = besK ps p V a ++ besL ps p V a V[a] m := by
  unfold besK
  rw [nb_take V a h, List.flatMap_append]
  congr 1
  unfold besL
  rw [List.take_of_length_le (show (nbF 0 V).length ≤ m by rw [nbF_len]; exact hm)]
  simp only [List.flatMap_cons, List.flatMap_nil, List.append_nil]
  refine flatMap_cong _ fun y _ => ?_
  rw [show -((a : Int) + 1) = -(a : Int) - 1 by omega]
theorem besK_all (ps : List LPr) (p : LPr) (V : List LPl) (m : Nat) (hm : V.length ≤ m) : besK ps p V m = besS ps (nbF 0 V) p := by
  unfold besK besS
  rw [List.take_of_length_le (show (nbF 0 V).length ≤ m by rw [nbF_len]; exact hm)]
theorem cnA_spec {rs : List LSt} {ps : List LPr} {ids : List Int} (top : Int) (h : IdsR rs ps ids) : cnA rs ps top ids = ids.map (ownA (plF rs top ids)) ++ (twoS (nbF 0 (plF rs top ids)) ++ ps.flatMap (besS ps (nbF 0 (plF rs top ids)))) := by
  unfold cnA
  rw [if_pos (B_yes h), cnf_both rs ps top ids (rises_nodup (idsR_rise h))]
  rfl
theorem cnA_no {rs : List LSt} {ps : List LPr} {ids : List Int} (top : Int) (h : ¬ IdsR rs ps ids) : cnA rs ps top ids = [] ∧ cnN rs ps top ids = 0 := by
  unfold cnA cnN
  rw [B_no h]
  simp
end Go.Proofs.Ytdmfljejlhlbnaa
