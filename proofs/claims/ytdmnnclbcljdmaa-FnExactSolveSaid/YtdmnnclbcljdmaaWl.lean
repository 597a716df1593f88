/-
  CLAUSES MARKED AND HELD: markInt64SS, heldInt64SS, markCnf, heldCnf, over clauses that are owned.
-/
import Derived.Test.YtdmnnclbcljdmaaWb
import Derived.Test.YtdmnnclbcljdmaaNa
import Derived.Test.YtdmnnclbcljdmaaMe
namespace Go.Proofs.Ytdmnnclbcljdmaa
open Go.RowKit
set_option linter.unusedVariables false

/-- The clauses with their marks. -/
def mkC (k : Int) : List LCl → List LCl
  | [] => []
  | r :: t => (r.1, marks k r.2.length) :: mkC (k + (r.2.length : Int)) t
theorem mkC_len (cs : List LCl) : ∀ k, (mkC k cs).length = cs.length := by
  induction cs with
  | nil => intro _; rfl
  | cons r t ih => intro k; simp [mkC, ih]
theorem mkC_append (a b : List LCl) : ∀ k, mkC k (a ++ b) = mkC k a ++ mkC (k + (totC a : Int)) b := by
  induction a with
  | nil => intro k; simp [mkC, totC]
  | cons r t ih =>
    intro k
    simp only [List.cons_append, mkC, ih]
    rw [show totC (r :: t) = r.2.length + totC t by simp [totC]]
    congr 3
    omega
theorem mkC_step (cs : List LCl) (k : Int) (i : Nat) (h : i < cs.length) : mkC k (cs.take (i + 1)) = mkC k (cs.take i) ++ [(cs[i].1, marks (k + (totC (cs.take i) : Int)) cs[i].2.length)] := by
  rw [List.take_succ_eq_append_getElem h, mkC_append]; rfl
theorem mkC_at (cs : List LCl) (k : Int) (i : Nat) (h : i < cs.length) : (mkC k cs)[i]'(by rw [mkC_len]; exact h) = (cs[i].1, marks (k + (totC (cs.take i) : Int)) cs[i].2.length) := by
  have e : mkC k cs = mkC k (cs.take (i + 1)) ++ mkC (k + (totC (cs.take (i + 1)) : Int)) (cs.drop (i + 1)) := by
    rw [← mkC_append, List.take_append_drop]
  have hl : i < (mkC k (cs.take (i + 1))).length := by rw [mkC_len, List.length_take]; omega
  have e2 : (mkC k cs)[i]? = some (cs[i].1, marks (k + (totC (cs.take i) : Int)) cs[i].2.length) := by
    rw [e, List.getElem?_append_left hl, mkC_step cs k i h, List.getElem?_append_right (by rw [mkC_len, List.length_take]; omega)]
    simp [mkC_len, List.length_take, Nat.min_eq_left (Nat.le_of_lt h)]
  rw [List.getElem?_eq_getElem (by rw [mkC_len]; exact h)] at e2
  exact Option.some.inj e2
/-- One row of them written over. -/
theorem OwC.over {w w' : World} {B : Nat} {v : Value} {ps ss : List LCl} {r : LCl} {zs : List Int} (h : OwC w B v (ps ++ r :: ss)) (hg : w.grownBy w' r.1.ownBlock) (hz : zs.length = r.2.length) (hr : w'.ownsRow B 2 1 r.1 zs.length (valsZ zs)) : OwC w' B v (ps ++ (r.1, zs) :: ss) := by
  have hp := List.pairwise_append.1 h.diff
  have hc := List.pairwise_cons.1 hp.2.1
  have hro := h.each r (by simp)
  refine ⟨?_, fun s hs => ?_, ?_⟩
  · have e1 : hdC (ps ++ (r.1, zs) :: ss) = hdC (ps ++ r :: ss) := by simp [hdC]
    have e2 : (ps ++ (r.1, zs) :: ss).length = (ps ++ r :: ss).length := by simp
    rw [e1, e2]
    exact h.row.kept hg (own_diff h.row hro (by decide))
  · rcases List.mem_append.1 hs with hs | hs
    · exact (h.each s (by simp [hs])).kept hg (hp.2.2 s hs r (by simp))
    · rcases List.mem_cons.1 hs with rfl | hs
      · exact hr
      · refine (h.each s (by simp [hs])).kept hg ?_
        rcases hc.1 s hs with e | e
        · rw [e]; cases s.1.ownBlock <;> simp
        · exact .inr (fun e2 => e e2.symm)
  · refine List.pairwise_append.2 ⟨hp.1, List.pairwise_cons.2 ⟨fun s hs => hc.1 s hs, hc.2⟩, fun a ha b hb => ?_⟩
    rcases List.mem_cons.1 hb with rfl | hb
    · exact hp.2.2 a ha r (by simp)
    · exact hp.2.2 a ha b (by simp [hb])

set_option maxRecDepth 100000 in
set_option maxHeartbeats 2000000 in
/-- markInt64SS. -/
theorem mkL_any (B : Nat) (v : Value) (cs : List LCl) (k : Int) (w : World) (vt : Value) (nt : Nat) (xt : List Value) (hvt : w.ownsRow B 2 1 vt nt xt) (ap : ∀ r ∈ cs, ∀ j, r.1.ownBlock = some j → vt.ownBlock ≠ some j) (hn : cs.length ≤ 100000000) (hr : ∀ r ∈ cs, r.2.length ≤ 1048576) (ht : totC cs ≤ 500000000) (k0 : 0 ≤ k) (k1 : k ≤ 1000) (hB : B ≤ w.heap.size) (h : OwC w B v cs) :
    Calls Try.prog 39 #[v, .int .i64 k] w fun e w' => e = .returned (.int .i64 (k + (totC cs : Int))) ∧ OwC w' B v (mkC k cs) ∧ Below B w w' ∧ K30 w w' ∧ w'.ownsRow B 2 1 vt nt xt := by
  have O0 := Lib.hid h
  have HR := Lib.hid hr
  have T0 := Lib.hid hvt
  have AP := Lib.hid ap
  have TL := Lib.hid (fun i => totC_le cs i)
  obtain ⟨sl, cap, rfl⟩ := h.v
  clear h hr hvt ap
  generalize hN : cs.length = n at *
  have HN := Lib.hid hN
  clear hN
  go_enter Try.func39, Try.ntmps39
  go_wp2
  go_loopw [1, 5] (fun a i wr => ∃ j : Nat, i = .int .i64 j ∧ j ≤ n ∧ a = .int .i64 (k + (totC (cs.take j) : Int)) ∧ Hid (OwC wr B (.slice sl n cap) (mkC k (cs.take j) ++ cs.drop j)) ∧ Hid (Below B w wr) ∧ Hid (K30 w wr ∧ wr.ownsRow B 2 1 vt nt xt)) (fun _ i _ => n - (intOf i).toNat)
  case atStart => exact ⟨0, rfl, Nat.zero_le _, by simp [totC], O0, Below.refl _ _, K30.refl _, T0.out⟩
  case round =>
    obtain ⟨j, rfl, hj, rfl, OC, HB, HT⟩ := hrel
    have hj0 : (0 : Int) ≤ (j : Int) := by omega
    by_cases g1 : j < n
    · have g1' : (j : Int) < (n : Int) := by omega
      have hlt : j < cs.length := by rw [HN.out]; exact g1
      have ed : cs.drop j = cs[j] :: cs.drop (j + 1) := (List.getElem_cons_drop (h := hlt)).symm
      have oc := OC.out
      rw [ed] at oc
      have ro := oc.each cs[j] (List.mem_append_right _ (List.mem_cons_self ..))
      have ll : (mkC k (cs.take j) ++ cs[j] :: cs.drop (j + 1)).length = n := by rw [← ed, List.length_append, mkC_len, List.length_take, List.length_drop, HN.out]; omega
      have la : (mkC k (cs.take j)).length = j := by rw [mkC_len, List.length_take]; omega
      obtain ⟨s9, c9, e9, CL⟩ := oc.cls
      have hl2 : j < (mkC k (cs.take j) ++ cs[j] :: cs.drop (j + 1)).length := by rw [ll]; exact g1
      obtain ⟨c, o, rfl, cl, hcs⟩ := CL.at hl2
      obtain rfl : sl = some ⟨c, o, none⟩ := by cases e9; rfl
      have hc := hcs j hl2
      have eg : (mkC k (cs.take j) ++ cs[j] :: cs.drop (j + 1))[j]'hl2 = cs[j] := by
        rw [List.getElem_append_right (by omega)]
        simp [la]
      rw [eg] at hc
      have tb := TL.out j
      have T1 := Lib.hid (totC_take cs j hlt)
      have EM := Lib.hid (mark_row B cs[j].1 cs[j].2 (k + (totC (cs.take j) : Int)) (HR.out cs[j] (List.getElem_mem hlt)) (by omega) (by omega) wr ro)
      have NX : Hid (∀ W, W.ownsRow B 2 1 cs[j].1 cs[j].2.length (valsZ (marks (k + (totC (cs.take j) : Int)) cs[j].2.length)) → wr.grownBy W cs[j].1.ownBlock → OwC W B (.slice (some ⟨c, o, none⟩) n cap) (mkC k (cs.take (j + 1)) ++ cs.drop (j + 1))) := fun W h1 h2 => by
        rw [mkC_step cs k j hlt, List.append_assoc]
        exact oc.over h2 (marks_len _ _) (by rw [marks_len]; exact h1)
      have RB := Lib.hid (show ∀ b, cs[j].1.ownBlock = some b → B ≤ b from fun b hb => (ro.lt b hb).1)
      have KN : Hid (∀ W, wr.grownBy W cs[j].1.ownBlock → K30 w W ∧ W.ownsRow B 2 1 vt nt xt) := fun W h2 => ⟨HT.out.1.grown ro (by decide) h2, HT.out.2.kept h2 (by
        rcases hv : vt.ownBlock with _ | q
        · exact .inl rfl
        · exact .inr (fun e => AP.out cs[j] (List.getElem_mem hlt) q e.symm hv))⟩
      obtain ⟨s1, k1', v1⟩ := own_v ro
      rw [v1] at hc EM NX RB KN
      clear ed oc ro ll la CL e9 hl2 hcs eg OC v1
      generalize cs[j].2.length = q at *
      clear hlt
      generalize totC (cs.take j) = tj at *
      have hws := HB.out.size
      go_wp2_with fail
      refine EM.out.mono ?_
      rintro e w5 ⟨rfl, o5, gr5⟩
      have O5 := Lib.hid (NX.out w5 o5 gr5)
      have K5 := Lib.hid (KN.out w5 gr5)
      have B5 := Lib.hid (HB.out.grown gr5 (by omega) (fun b hb => RB.out b hb))
      clear o5 gr5 EM NX RB HB KN HT
      go_wp2
      go_roundw
      case rel => exact ⟨j + 1, by go_num, by omega, (by rw [T1.out]; congr 1; push_cast; omega), O5, B5, K5⟩
      case measure => simp [intOf]; omega
    · have g1' : ¬ (j : Int) < (n : Int) := by omega
      have et : cs.take j = cs := List.take_of_length_le (by rw [HN.out]; omega)
      have ed : cs.drop j = [] := List.drop_of_length_le (by rw [HN.out]; omega)
      have P : Hid (OwC wr B (.slice sl n cap) (mkC k cs)) := by have := OC.out; rw [et, ed, List.append_nil] at this; exact this
      rw [et]
      clear OC et ed
      go_wp2
      go_ret
      exact ⟨rfl, P.out, HB.out, HT.out.1, HT.out.2⟩

set_option maxRecDepth 100000 in
set_option maxHeartbeats 2000000 in
/-- heldInt64SS. -/
theorem hdL_any (B : Nat) (v : Value) (cs : List LCl) (k : Int) (w : World) (hn : cs.length ≤ 100000000) (hr : ∀ r ∈ cs, r.2.length ≤ 1048576) (ht : totC cs ≤ 500000000) (k0 : 0 ≤ k) (k1 : k ≤ 1000) (h : OwC w B v (mkC k cs)) :
    Calls Try.prog 42 #[v, .int .i64 k] w fun e w' => e = .returned (.int .i64 (k + (totC cs : Int))) ∧ w' = w := by
  have O0 := Lib.hid h
  have HR := Lib.hid hr
  have TL := Lib.hid (fun i => totC_le cs i)
  obtain ⟨sl, cap, rfl⟩ := h.v
  rw [mkC_len] at O0 ⊢
  clear h hr
  generalize hN : cs.length = n at *
  have HN := Lib.hid hN
  clear hN
  go_enter Try.func42, Try.ntmps42
  go_wp2
  go_loopw [1, 5] (fun a i wr => ∃ j : Nat, i = .int .i64 j ∧ j ≤ n ∧ a = .int .i64 (k + (totC (cs.take j) : Int)) ∧ wr = w) (fun _ i _ => n - (intOf i).toNat)
  case atStart => exact ⟨0, rfl, Nat.zero_le _, by simp [totC], rfl⟩
  case round =>
    obtain ⟨j, rfl, hj, rfl, rfl⟩ := hrel
    have hj0 : (0 : Int) ≤ (j : Int) := by omega
    by_cases g1 : j < n
    · have g1' : (j : Int) < (n : Int) := by omega
      have hlt : j < cs.length := by rw [HN.out]; exact g1
      have hl2 : j < (mkC k cs).length := by rw [mkC_len]; exact hlt
      have eg := mkC_at cs k j hlt
      have ro := O0.out.each _ (List.getElem_mem hl2)
      rw [eg] at ro
      dsimp only at ro
      rw [marks_len] at ro
      obtain ⟨s9, c9, e9, CL⟩ := O0.out.cls
      obtain ⟨c, o, rfl, cl, hcs⟩ := CL.at hl2
      obtain rfl : sl = some ⟨c, o, none⟩ := by cases e9; rfl
      have hc := hcs j hl2
      rw [eg] at hc
      have tb := TL.out j
      have tb2 := TL.out (j + 1)
      have T1 := Lib.hid (totC_take cs j hlt)
      have hql := HR.out cs[j] (List.getElem_mem hlt)
      have EM := Lib.hid (held_row B cs[j].1 cs[j].2.length (k + (totC (cs.take j) : Int)) hql (by omega) (by omega) wr ro)
      obtain ⟨s1, k1', v1⟩ := own_v ro
      dsimp only at hc
      rw [v1] at hc EM
      clear ro CL e9 hl2 hcs eg v1
      generalize cs[j].2.length = q at *
      clear hlt
      have hneg : ¬ (k + (totC (cs.take j) : Int) + (q : Int)) < 0 := by omega
      clear tb2
      generalize totC (cs.take j) = tj at *
      go_wp2_with fail
      refine EM.out.mono ?_
      rintro e w5 ⟨rfl, rfl⟩
      clear EM
      go_wp2
      go_roundw
      case rel => exact ⟨j + 1, by go_num, by omega, (by rw [T1.out]; congr 1; push_cast; omega), trivial⟩
      case measure => simp [intOf]; omega
    · have g1' : ¬ (j : Int) < (n : Int) := by omega
      have et : cs.take j = cs := List.take_of_length_le (by rw [HN.out]; omega)
      rw [et]
      clear et
      go_wp2
      go_ret
      exact ⟨rfl, rfl⟩
end Go.Proofs.Ytdmnnclbcljdmaa
