/-
  A LEMMA THAT FOLLOWS: prover.conflict, proverOf.
-/
import Derived.Test.YtoobcodlgajieaaDoorJa
namespace Go.Proofs.YtoobcodlgajieaaDoor
open Go.RowKit
set_option linter.unusedVariables false
set_option linter.unusedSimpArgs false

set_option maxRecDepth 100000 in
set_option maxHeartbeats 4000000 in
/-- prover.conflict. -/
theorem pcon_any {vars : Int} {b B bb : Nat} {vc : Value} {hs : List Value} {ms : List LCl} (T : List Int) (w : World) (hv : VAt 5 87 (PFh vars bb) w b T) (hv1 : vars ≤ 96) (hsp : SpTo vars T T.length) (hK : Bk B bb vc hs ms (occI (bareC ms)) w) (hms : ms.length ≤ 90000) (hw : ∀ r ∈ ms, (∀ z ∈ r.2, OkZ vars z) ∧ r.2.Nodup ∧ r.2.length ≤ 1000) (hz : ∀ W, KeepB b w W → ∀ r ∈ ms, ClIn W r) (hT : TabB w) (hb0 : b ≠ 0) :
    Calls Tryd.prog 72 #[.pointer (some ⟨b, 0, none⟩)] w fun e w' => e = .returned (.bool (!((resF (bareC ms) (97 - T.length) T).2 == -1))) ∧ Only b w w' := by
  have FO : Hid (Calls Tryd.prog 54 #[.pointer (some ⟨b, 5, none⟩), .pointer (some ⟨bb, 0, none⟩)] w.drew fun e w' => ∃ v fl, e = .returned (.tuple #[v, .int .i64 (resF (bareC ms) (97 - T.length) T).2]) ∧ T ++ fl = (resF (bareC ms) (97 - T.length) T).1 ∧ w'.ownsRow w.heap.size 2 1 v fl.length (valsZ fl) ∧ Only b w.drew w' ∧ VAt 5 87 (PFh vars bb) w' b (resF (bareC ms) (97 - T.length) T).1) :=
    fol_any vars T w.drew (hv.below (below_drew' w)) (by decide) hv1 hsp (hK.below (below_drew' w)) hms hw (fun W hW => hz W hW) (hT.belowT (below_drew' w)) hb0
  obtain ⟨f0, f1, f2⟩ := fld5 hv
  clear hv hK hw hz hT hsp
  generalize resF (bareC ms) (97 - T.length) T = R at *
  go_enter Tryd.func72, Tryd.ntmps72
  go_wp2_with fail
  go_region_with (go_at_call 54; refine FO.out.mono ?_; rintro e w1 ⟨v, fl, rfl, h1, h2, h3, h4⟩; have P1 : Hid (Only b w w1) := (Only.refl b w).drew.trans h3; obtain ⟨vs, vk, rfl⟩ := own_v h2; clear h1 h2 h3 h4)
  all_goals
    go_wp2
    go_ret
    exact ⟨rfl, P1.out⟩

theorem zero87 : Tryd.zeroCells87.size = 102 := by kernel_rfl
theorem built87 (vars : Int) (bb : Nat) : ((Tryd.zeroCells87.setIfInBounds 0 (.int .i64 vars)).setIfInBounds 1 (.pointer (some ⟨bb, 0, none⟩))) = (PFh vars bb ++ List.replicate 97 (Value.int .i64 0)).toArray := by kernel_rfl
theorem size87 (vars : Int) (bb : Nat) : (PFh vars bb ++ List.replicate 97 (Value.int .i64 0)).toArray.size = 102 := by kernel_rfl
theorem one87 (vars : Int) (bb : Nat) : ((PFh vars bb ++ List.replicate 97 (Value.int .i64 0)).toArray.all (·.oneCell')) = true := by kernel_rfl
theorem info87 : (Tryd.prog.info? 87).map (·.size) = some 102 := by kernel_rfl
theorem Only.setRow {g : Nat} (X : World) (cells : Array Value) : Only g X (X.setRow g cells) := ⟨rfl, rfl, rfl, by simp, fun k _ hk => setRow_other _ _ _ _ hk⟩

set_option maxRecDepth 100000 in
set_option maxHeartbeats 4000000 in
/-- impl.proverOf. -/
theorem prov_any (vars : Int) (sl : Option Addr) (cap : Nat) (cs : List LCl) (sl2 : Option Addr) (cap2 : Nat) (ds : List LCl) (w : World) (hn : cs.length ≤ 40000) (hm : ds.length ≤ 40000) (hz : Cls w sl cs) (ht : Cls w sl2 ds) (hw : ∀ r ∈ cs ++ ds, LitOk r.2) :
    Calls Tryd.prog 70 #[CV vars sl cs.length cap, .slice sl2 ds.length cap2] w fun e w' => ∃ pc, e = .returned (.agg pc) ∧ Hid (pc = (PFh vars (w.heap.size + 1 + 1 + 1) ++ List.replicate 97 (Value.int .i64 0)).toArray) ∧ (∃ (vc : Value) (hs : List Value), Bk (w.heap.size + 1 + 1) (w.heap.size + 1 + 1 + 1) vc hs (cs ++ ds) (occI (bareC (cs ++ ds))) w') ∧ Below w.heap.size w w' := by
  have b1 := bA (bA0 w (.cells #[.int .i64 vars, .slice sl cs.length cap] 25)) (.cells Tryd.zeroCells87 87)
  have CA := (CnfAt.new w vars sl cs.length cap).below (bA0 _ (.cells Tryd.zeroCells87 87))
  have hs1 : (w.alloc (.cells #[.int .i64 vars, .slice sl cs.length cap] 25)).heap.size = w.heap.size + 1 := by simp
  have hs2 : ((w.alloc (.cells #[.int .i64 vars, .slice sl cs.length cap] 25)).alloc (.cells Tryd.zeroCells87 87)).heap.size = w.heap.size + 1 + 1 := by simp
  have nw := new_at (w.alloc (.cells #[.int .i64 vars, .slice sl cs.length cap] 25)) (.cells Tryd.zeroCells87 87)
  rw [hs1] at nw
  have BK : Hid (∀ W2, Below w.heap.size w W2 → W2.heap.size = w.heap.size + 1 + 1 → Calls Tryd.prog 55 #[CV vars sl cs.length cap, .slice sl2 ds.length cap2] W2 fun e w' => e = .returned (.pointer (some ⟨w.heap.size + 1 + 1 + 1, 0, none⟩)) ∧ (∃ (vc : Value) (hs : List Value), Bk (w.heap.size + 1 + 1) (w.heap.size + 1 + 1 + 1) vc hs (cs ++ ds) (occI (bareC (cs ++ ds))) w') ∧ Below (w.heap.size + 1 + 1) W2 w') := fun W2 hb hs => by
    have := bookOf_any vars sl cap cs sl2 cap2 ds W2 hn hm (hz.below hb) (ht.below hb) hw
    rwa [hs] at this
  have KS : Hid (∀ W, Below (w.heap.size + 1 + 1) ((w.alloc (.cells #[.int .i64 vars, .slice sl cs.length cap] 25)).alloc (.cells Tryd.zeroCells87 87)) W → w.heap.size < W.heap.size ∧ W.cell? ⟨w.heap.size, 0, none⟩ = some (.int .i64 vars) ∧ W.cell? ⟨w.heap.size, 1, none⟩ = some (.slice sl cs.length cap)) := fun W hW => by
    have h : CnfAt W w.heap.size vars sl cs.length cap := (hW.block _ (by omega)).trans CA
    exact ⟨h.lt, h.cells⟩
  have B1 := Lib.hid b1
  have N1 := Lib.hid nw
  have Z2 := Lib.hid hs2
  clear b1 CA hs1 hs2 nw hz ht hw
  generalize bareC (cs ++ ds) = css at *
  generalize cs.length = n at *
  generalize ds.length = m at *
  go_enter Tryd.func70, Tryd.ntmps70
  go_wp2_with fail
  generalize (w.alloc (.cells #[.int .i64 vars, .slice sl n cap] 25)).alloc (.cells Tryd.zeroCells87 87) = w2 at *
  refine wp_region_held_drew (S := fun W => w.heap.size < W.heap.size ∧ W.cell? ⟨w.heap.size, 0, none⟩ = some (.int .i64 vars) ∧ W.cell? ⟨w.heap.size, 1, none⟩ = some (.slice sl n cap)) (by kernel_rfl) ?_ (fun hHeld => ?_)
  · exact KS.out _ (Below.refl _ _).drew
  refine wpAnyH_take (i := 0) (oi := _) (v := ?_) rfl (by kernel_rfl) (by kernel_rfl) (by kernel_rfl) (fun _ _ _ h => h) (Or.inl ⟨by rfl, ?_⟩) (by assumption) ?_
  rotate_left
  · first | (intro w hSw; (try dsimp only at hSw); go_simp; done) | (intro w hSw; (try dsimp only at hSw); go_simp; with_reducible rfl)
  try simp only [Act.put, List.setIfInBounds_toArray, List.set_cons_zero, List.set_cons_succ, List.getElem_toArray, List.getElem_cons_zero]
  refine wpAnyH_take (i := 1) (oi := _) (v := ?_) rfl (by kernel_rfl) (by kernel_rfl) (by kernel_rfl) (fun _ _ _ h => h) (Or.inl ⟨by rfl, ?_⟩) (by assumption) ?_
  rotate_left
  · first | (intro w hSw; (try dsimp only at hSw); go_simp; done) | (intro w hSw; (try dsimp only at hSw); go_simp; with_reducible rfl)
  try simp only [Act.put, List.setIfInBounds_toArray, List.set_cons_zero, List.set_cons_succ, List.getElem_toArray, List.getElem_cons_succ, List.getElem_cons_zero]
  refine wpAnyH_take (i := 2) (oi := _) (v := ?_) rfl (by kernel_rfl) (by kernel_rfl) (by kernel_rfl) (fun _ _ _ h => h) (Or.inl ⟨by rfl, ?_⟩) (by assumption) ?_
  rotate_left
  · first | (intro w hSw; (try dsimp only at hSw); go_simp; done) | (intro w hSw; (try dsimp only at hSw); go_simp; with_reducible rfl)
  try simp only [Act.put, List.setIfInBounds_toArray, List.set_cons_zero, List.set_cons_succ, List.getElem_toArray, List.getElem_cons_succ, List.getElem_cons_zero]
  refine wpAnyH_take (i := 3) (oi := _) (v := ?_) rfl (by kernel_rfl) (by kernel_rfl) (by kernel_rfl) (fun _ _ _ h => h) (Or.inl ⟨by rfl, ?_⟩) (by assumption) ?_
  rotate_left
  · first | (intro w hSw; (try dsimp only at hSw); go_simp; done) | (intro w hSw; (try dsimp only at hSw); go_simp; with_reducible rfl)
  try simp only [Act.put, List.setIfInBounds_toArray, List.set_cons_zero, List.set_cons_succ, List.getElem_toArray, List.getElem_cons_succ, List.getElem_cons_zero]
  refine wpAnyH_ready (rs := [4]) (by kernel_rfl) (by simp) ?_
  refine AllReadyH.cons rfl (fun K hK => ?_) AllReadyH.nil
  go_simp
  go_wp2_with (go_at_call 55; refine (BK.out _ B1.out.drew Z2.out).mono ?_; rintro e w3 ⟨rfl, ⟨vc, hs, k3⟩, b3⟩)
  have B3 : Hid (Below (w.heap.size + 1 + 1) w2 w3) := (Below.refl (w.heap.size + 1 + 1) w2).drew.trans b3
  have D3 := Lib.hid (B1.out.trans (B3.out.mono (by omega)))
  have R3 : Hid (w3.heap[w.heap.size + 1]? = some (.cells Tryd.zeroCells87 87)) := (B3.out.block _ (by omega)).trans N1.out
  have K3 := Lib.hid k3
  clear k3 b3
  refine hK.out _ _ ?_ (fun hHeld => ?_)
  · exact KS.out _ B3.out
  clear hK K
  refine wpAnyH_take (i := 5) (oi := _) (v := ?_) rfl (by kernel_rfl) (by kernel_rfl) (by kernel_rfl) (fun _ _ _ h => h) (Or.inl ⟨by rfl, ?_⟩) (by assumption) ?_
  rotate_left
  · first | (intro w hSw; (try dsimp only at hSw); go_simp; done) | (intro w hSw; (try dsimp only at hSw); go_simp; with_reducible rfl)
  try simp only [Act.put, List.setIfInBounds_toArray, List.set_cons_zero, List.set_cons_succ, List.getElem_toArray, List.getElem_cons_succ, List.getElem_cons_zero]
  refine wpAnyH_ready (rs := [6]) (by kernel_rfl) (by simp) ?_
  refine AllReadyH.cons rfl (fun K hK => ?_) AllReadyH.nil
  refine wp_store_row 87 _ _ rfl (w.heap.size + 1) (PFh vars (w.heap.size + 1 + 1 + 1) ++ List.replicate 97 (Value.int .i64 0)).toArray (by simp [Act.eval]) (by exact congrArg Value.agg (built87 vars _)) 87 _ R3.out info87 (by kernel_rfl) (one87 vars _) ?_
  have O4 : Only (w.heap.size + 1) w3 (w3.setRow (w.heap.size + 1) (PFh vars (w.heap.size + 1 + 1 + 1) ++ List.replicate 97 (Value.int .i64 0)).toArray) := Only.setRow _ _
  have K4 := Lib.hid (K3.out.only O4 R3.out (by decide))
  have D4 := Lib.hid (Only.below D3.out (by omega) O4)
  have R4 : Hid ((w3.setRow (w.heap.size + 1) (PFh vars (w.heap.size + 1 + 1 + 1) ++ List.replicate 97 (Value.int .i64 0)).toArray).heap[w.heap.size + 1]? = some (.cells (PFh vars (w.heap.size + 1 + 1 + 1) ++ List.replicate 97 (Value.int .i64 0)).toArray 87)) := setRow_heap _ _ _ _ _ _ R3.out
  have S4 : Hid (w.heap.size < (w3.setRow (w.heap.size + 1) (PFh vars (w.heap.size + 1 + 1 + 1) ++ List.replicate 97 (Value.int .i64 0)).toArray).heap.size ∧ (w3.setRow (w.heap.size + 1) (PFh vars (w.heap.size + 1 + 1 + 1) ++ List.replicate 97 (Value.int .i64 0)).toArray).cell? ⟨w.heap.size, 0, none⟩ = some (.int .i64 vars) ∧ (w3.setRow (w.heap.size + 1) (PFh vars (w.heap.size + 1 + 1 + 1) ++ List.replicate 97 (Value.int .i64 0)).toArray).cell? ⟨w.heap.size, 1, none⟩ = some (.slice sl n cap)) := by
    obtain ⟨a1, a2, a3⟩ := KS.out _ B3.out
    exact ⟨Nat.lt_of_lt_of_le a1 O4.size, (O4.cell a1 (by omega)).trans a2, (O4.cell a1 (by omega)).trans a3⟩
  clear O4
  refine hK.out _ _ ?_ (fun hHeld => ?_)
  · exact S4.out
  clear hK K S4
  try simp only [Act.put, List.getElem_toArray, List.getElem_cons_succ, List.getElem_cons_zero]
  refine wpAnyH_done (by kernel_rfl) ?_ _
  generalize hpc : (PFh vars (w.heap.size + 1 + 1 + 1) ++ List.replicate 97 (Value.int .i64 0)).toArray = pc at *
  have HS : Hid (pc.size = 102) := by rw [← hpc]; exact size87 _ _
  have HP := Lib.hid hpc.symm
  clear hpc
  generalize w3.setRow (w.heap.size + 1) pc = w4 at *
  go_wp2
  exact bodyPost_ret (v := .agg pc) (results_cell_row Tryd.results70 _ w4 (w.heap.size + 1) 87 pc (0, 0) _ (by rfl) R4.out Tryd.underlying87 rfl (by rw [HS.out]; exact info87)) rfl ⟨pc, rfl, HP, ⟨_, _, K4.out⟩, D4.out⟩

end Go.Proofs.YtoobcodlgajieaaDoor
