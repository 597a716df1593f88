/-
  CLAUSES MARKED, and what stays: blocks of another kind.
-/
import Derived.Test.YtdmfljejlhlbnaaWm
namespace Go.Proofs.Ytdmfljejlhlbnaa
open Go.RowKit
set_option linter.unusedVariables false

/-- Blocks of another kind than numbers' stay. -/
def KeepT (w w' : World) : Prop := ∀ (b : Nat) (us : Array Value) (t : TypeId), t ≠ 2 → w.heap[b]? = some (.cells us t) → w'.heap[b]? = some (.cells us t)
theorem KeepT.refl (w : World) : KeepT w w := fun _ _ _ _ h => h
theorem KeepT.trans {u v w : World} (h : KeepT u v) (k : KeepT v w) : KeepT u w := fun b us t ht g => k b us t ht (h b us t ht g)
theorem KeepT.below {w w' : World} (h : Below w.heap.size w w') : KeepT w w' := fun b us t _ g => (h.block b (Array.getElem?_eq_some_iff.1 g).1).trans g
theorem KeepT.row {w w' : World} {B : Nat} {v : Value} {n : Nat} {xs : List Value} (h : w.ownsRow B 2 1 v n xs) (hg : w.grownBy w' v.ownBlock) : KeepT w w' := fun b us t ht g => by
  refine (hg.block b (Array.getElem?_eq_some_iff.1 g).1 (fun e => ?_)).trans g
  obtain ⟨c, hc⟩ := own_kind h e.symm
  rw [g] at hc
  simp at hc
  exact ht hc.2

set_option maxRecDepth 100000 in
set_option maxHeartbeats 2000000 in
/-- markInt64SS. -/
theorem mkLK_any (B : Nat) (v : Value) (cs : List LCl) (k : Int) (w : World) (hn : cs.length ≤ 100000000) (hr : ∀ r ∈ cs, r.2.length ≤ 1048576) (ht : totC cs ≤ 500000000) (k0 : 0 ≤ k) (k1 : k ≤ 1000) (hB : B ≤ w.heap.size) (h : OwC w B v cs) :
    Calls Try.prog 117 #[v, .int .i64 k] w fun e w' => e = .returned (.int .i64 (k + (totC cs : Int))) ∧ OwC w' B v (mkC k cs) ∧ Below B w w' ∧ KeepT w w' := by
  have O0 := Lib.hid h
  have HR := Lib.hid hr
  have TL := Lib.hid (fun i => totC_le cs i)
  obtain ⟨sl, cap, rfl⟩ := h.v
  clear h hr
  generalize hN : cs.length = n at *
  have HN := Lib.hid hN
  clear hN
  go_enter Try.func117, Try.ntmps117
  go_wp2
  go_loopw [1, 5] (fun a i wr => ∃ j : Nat, i = .int .i64 j ∧ j ≤ n ∧ a = .int .i64 (k + (totC (cs.take j) : Int)) ∧ Hid (OwC wr B (.slice sl n cap) (mkC k (cs.take j) ++ cs.drop j)) ∧ Hid (Below B w wr) ∧ Hid (KeepT w wr)) (fun _ i _ => n - (intOf i).toNat)
  case atStart => exact ⟨0, rfl, Nat.zero_le _, by simp [totC], O0, Below.refl _ _, KeepT.refl _⟩
  case round =>
    obtain ⟨j, rfl, hj, rfl, OC, HB, HK⟩ := hrel
    have hj0 : (0 : Int) ≤ (j : Int) := by omega
    by_cases g1 : j < n
    · have g1' : (j : Int) < (n : Int) := by omega
      have hlt : j < cs.length := by rw [HN.out]; exact g1
      have ed : cs.drop j = cs[j] :: cs.drop (j + 1) := (List.getElem_cons_drop (h := hlt)).symm
      have oc := OC.out
      rw [ed] at oc
      have ro := oc.each cs[j] (List.mem_append_right _ (List.mem_cons_self ..))
      have ll : (mkC k (cs.take j) ++ cs[j] :: cs.drop (j + 1)).length = n := by rw [← ed, List.length_append, mkC_len, List.length_take, List.length_drop, HN.out]; omega
      have la : (mkC k (cs.take j)).length = j := by rw [mkC_len, List.length_take]; omega
      obtain ⟨s9, c9, e9, CL⟩ := oc.cls
      have hl2 : j < (mkC k (cs.take j) ++ cs[j] :: cs.drop (j + 1)).length := by rw [ll]; exact g1
      obtain ⟨c, o, rfl, cl, hcs⟩ := CL.at hl2
      obtain rfl : sl = some ⟨c, o, none⟩ := by cases e9; rfl
      have hc := hcs j hl2
      have eg : (mkC k (cs.take j) ++ cs[j] :: cs.drop (j + 1))[j]'hl2 = cs[j] := by
        rw [List.getElem_append_right (by omega)]
        simp [la]
      rw [eg] at hc
      have tb := TL.out j
      have T1 := Lib.hid (totC_take cs j hlt)
      have EM := Lib.hid (mark_row B cs[j].1 cs[j].2 (k + (totC (cs.take j) : Int)) (HR.out cs[j] (List.getElem_mem hlt)) (by omega) (by omega) wr ro)
      have NX : Hid (∀ W, W.ownsRow B 2 1 cs[j].1 cs[j].2.length (valsZ (marks (k + (totC (cs.take j) : Int)) cs[j].2.length)) → wr.grownBy W cs[j].1.ownBlock → OwC W B (.slice (some ⟨c, o, none⟩) n cap) (mkC k (cs.take (j + 1)) ++ cs.drop (j + 1))) := fun W h1 h2 => by
        rw [mkC_step cs k j hlt, List.append_assoc]
        exact oc.over h2 (marks_len _ _) (by rw [marks_len]; exact h1)
      have KR := Lib.hid (show ∀ W, wr.grownBy W cs[j].1.ownBlock → KeepT wr W from fun W h => KeepT.row ro h)
      have RB := Lib.hid (show ∀ b, cs[j].1.ownBlock = some b → B ≤ b from fun b hb => (ro.lt b hb).1)
      obtain ⟨s1, k1', v1⟩ := own_v ro
      rw [v1] at hc EM NX RB KR
      clear ed oc ro ll la CL e9 hl2 hcs eg OC v1
      generalize cs[j].2.length = q at *
      clear hlt
      generalize totC (cs.take j) = tj at *
      have hws := HB.out.size
      go_wp2_with fail
      refine EM.out.mono ?_
      rintro e w5 ⟨rfl, o5, gr5⟩
      have O5 := Lib.hid (NX.out w5 o5 gr5)
      have B5 := Lib.hid (HB.out.grown gr5 (by omega) (fun b hb => RB.out b hb))
      have K5 := Lib.hid (HK.out.trans (KR.out w5 gr5))
      clear o5 gr5 EM NX RB HB HK KR
      go_wp2
      go_roundw
      case rel => exact ⟨j + 1, by go_num, by omega, (by rw [T1.out]; congr 1; push_cast; omega), O5, B5, K5⟩
      case measure => simp [intOf]; omega
    · have g1' : ¬ (j : Int) < (n : Int) := by omega
      have et : cs.take j = cs := List.take_of_length_le (by rw [HN.out]; omega)
      have ed : cs.drop j = [] := List.drop_of_length_le (by rw [HN.out]; omega)
      have P : Hid (OwC wr B (.slice sl n cap) (mkC k cs)) := by have := OC.out; rw [et, ed, List.append_nil] at this; exact this
      rw [et]
      clear OC et ed
      go_wp2
      go_ret
      exact ⟨rfl, P.out, HB.out, HK.out⟩

set_option maxRecDepth 100000 in
set_option maxHeartbeats 1000000 in
/-- markCnf. -/
theorem mkCnK_any (B : Nat) (nv : Int) (v : Value) (cs : List LCl) (k : Int) (w : World) (hn : cs.length ≤ 100000000) (hr : ∀ r ∈ cs, r.2.length ≤ 1048576) (ht : totC cs ≤ 500000000) (k0 : 0 ≤ k) (k1 : k ≤ 1000) (hB : B ≤ w.heap.size) (h : OwC w B v cs) :
    Calls Try.prog 57 #[.agg #[.int .i64 nv, v], .int .i64 k] w fun e w' => e = .returned (.int .i64 (k + (totC cs : Int))) ∧ OwC w' B v (mkC k cs) ∧ Below B w w' ∧ KeepT w w' := by
  have E := Lib.hid (mkLK_any B v cs k (w.alloc (.cells #[.int .i64 nv, v] 45)) hn hr ht k0 k1 (by simp; omega) (h.below (bA0 _ _)))
  have B0 := Lib.hid ((bA0 w (.cells #[.int .i64 nv, v] 45)).mono hB)
  have K0 := Lib.hid (KeepT.below (bA0 w (.cells #[.int .i64 nv, v] 45)))
  obtain ⟨sl, cap, rfl⟩ := h.v
  have ht0 : (0 : Int) ≤ (totC cs : Int) := by omega
  clear h hr
  generalize totC cs = t at *
  generalize cs.length = n at *
  go_enter Try.func57, Try.ntmps57
  go_wp2_with fail
  refine E.out.mono ?_
  rintro e w1 ⟨rfl, o1, b1, k1'⟩
  have O1 := Lib.hid o1
  have B1 := Lib.hid (B0.out.trans b1)
  have K1 := Lib.hid (K0.out.trans k1')
  clear o1 b1 E k1'
  go_wp2
  go_ret
  exact ⟨rfl, O1.out, B1.out, K1.out⟩
end Go.Proofs.Ytdmfljejlhlbnaa
