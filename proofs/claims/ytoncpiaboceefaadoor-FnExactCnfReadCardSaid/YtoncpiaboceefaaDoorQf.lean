/-
  ARE CLAUSES RIGHT? The model's answer is the program's.
-/
import Derived.Test.YtoncpiaboceefaaDoorQe
import Derived.OpenShut
namespace Go.Proofs.YtoncpiaboceefaaDoor
open Go.RowKit
set_option linter.unusedVariables false

theorem wfI_in {z : Int} (h : wfI z) : -9223372036854775808 ≤ z ∧ z ≤ 9223372036854775807 := bounds_i64 h
theorem lv_ok {vars z : Int} (hv0 : 0 ≤ vars) (hv1 : vars ≤ 96) (h : OkZ vars z) : lv z = max z (-z) := by
  unfold lv
  rw [wrap_in _ ⟨by have := h.2.1; omega, by have := h.2.2; omega⟩]
theorem lv_in {vars z : Int} (hv0 : 0 ≤ vars) (hv1 : vars ≤ 96) (hw : wfI z) : (1 ≤ lv z ∧ lv z ≤ vars) ↔ OkZ vars z := by
  have hb := wfI_in hw
  constructor
  · rintro ⟨h1, h2⟩
    unfold lv wrap64 at h1 h2
    unfold OkZ
    omega
  · intro h
    rw [lv_ok hv0 hv1 h]
    unfold OkZ at h
    omega
theorem clr_cls {vars : Int} {zs : List Int} (hv0 : 0 ≤ vars) (hv1 : vars ≤ 96) (hw : ∀ z ∈ zs, wfI z) : ClS vars 16 zs ↔ ClR vars zs := by
  have gd : ∀ i (h : i < zs.length), zs.getD i 0 = zs[i] := fun i h => by simp [h]
  constructor
  · rintro ⟨h1, h2⟩
    have ok : ∀ z ∈ zs, OkZ vars z := fun z hz => by
      obtain ⟨i, hi, rfl⟩ := List.getElem_of_mem hz
      have := (h2 i hi).1
      rwa [gd i hi] at this
    refine ⟨h1, fun z hz => (lv_in hv0 hv1 (hw z hz)).2 (ok z hz), ?_⟩
    rw [List.Nodup, List.pairwise_map, List.pairwise_iff_getElem]
    intro i j hi hj hij
    have := (h2 j hj).2 i hij
    rw [gd i hi, gd j hj] at this
    rw [lv_ok hv0 hv1 (ok _ (List.getElem_mem hi)), lv_ok hv0 hv1 (ok _ (List.getElem_mem hj))]
    omega
  · rintro ⟨h1, h2, h3⟩
    rw [List.Nodup, List.pairwise_map, List.pairwise_iff_getElem] at h3
    have ok : ∀ z ∈ zs, OkZ vars z := fun z hz => (lv_in hv0 hv1 (hw z hz)).1 (h2 z hz)
    refine ⟨h1, fun j hj => ⟨by rw [gd j hj]; exact ok _ (List.getElem_mem hj), fun i hij => ?_⟩⟩
    have hi : i < zs.length := by omega
    have := h3 i j hi hj hij
    rw [lv_ok hv0 hv1 (ok _ (List.getElem_mem hi)), lv_ok hv0 hv1 (ok _ (List.getElem_mem hj))] at this
    rw [gd i hi, gd j hj]
    omega
/-- spec.l06Clause at 16 literals. -/
theorem l06_any (vars : Int) (sl : Option Addr) (cap : Nat) (zs : List Int) (w : World) (hv0 : 0 ≤ vars) (hv1 : vars ≤ 96) (hn : zs.length ≤ 1048576) (hw : ∀ z ∈ zs, wfI z) (hz : Ints w sl zs) :
    Calls Tryd.prog 80 #[.int .i64 vars, .slice sl zs.length cap, .int .i64 16] w fun e w' => e = .returned (.bool (B (ClR vars zs))) ∧ Below w.heap.size w w' := by
  rw [← B_iff (clr_cls hv0 hv1 hw)]
  rcases hz with rfl | ⟨c, o, rfl, h⟩
  · rw [B_yes (show ClS vars 16 [] from ⟨Nat.zero_le _, SpTo.zero _ _⟩)]
    exact l06_nil vars sl cap 16 w
  · exact l06_some vars c o cap 16 zs w hv0 hv1 hn h

/-- All literals are numbers of 64 bits. -/
def WfC (cs : List LCl) : Prop := ∀ r ∈ cs, ∀ z ∈ r.2, wfI z
theorem WfC.bare {cs cs' : List LCl} (h : WfC cs) (e : bareC cs' = bareC cs) : WfC cs' := fun r hr z hz => by
  have : r.2 ∈ bareC cs := by rw [← e]; exact List.mem_map_of_mem hr
  obtain ⟨r', hr', e'⟩ := List.mem_map.1 this
  exact h r' hr' z (by rw [e']; exact hz)

set_option maxRecDepth 100000 in
set_option maxHeartbeats 2000000 in
/-- spec.CnfRight. -/
theorem scr_any (vars : Int) (sl : Option Addr) (cap : Nat) (cs : List LCl) (w : World) (hn : cs.length ≤ maxLen) (hs : totC cs ≤ 1048576) (hwf : WfC cs) (hz : Cls w sl cs) :
    Calls Tryd.prog 76 #[CV vars sl cs.length cap] w fun e w' => e = .returned (.bool (B (CnfR vars (bareC cs)))) ∧ Below w.heap.size w w' := by
  unfold maxLen at hn
  have CA := Lib.hid (CnfAt.new w vars sl cs.length cap)
  have B0 := Lib.hid (bA0 w (.cells #[.int .i64 vars, .slice sl cs.length cap] 27))
  have HB := Lib.hid (bareC_length cs)
  by_cases c1 : vars < 0
  · have NO := Lib.hid (B_no (p := CnfR vars (bareC cs)) (fun g => by have := g.1.1; omega))
    rw [NO.out]
    clear NO hz HB hwf
    generalize cs.length = n at *
    go_enter Tryd.func76, Tryd.ntmps76
    go_wp2
    go_ret
    exact ⟨rfl, B0.out⟩
  by_cases c2 : 96 < vars
  · have NO := Lib.hid (B_no (p := CnfR vars (bareC cs)) (fun g => by have := g.1.2; omega))
    rw [NO.out]
    clear NO hz HB hwf
    generalize cs.length = n at *
    go_enter Tryd.func76, Tryd.ntmps76
    go_wp2
    go_ret
    exact ⟨rfl, B0.out⟩
  by_cases c3 : 4000 < cs.length
  · have NO := Lib.hid (B_no (p := CnfR vars (bareC cs)) (fun g => by have := g.2.1; rw [HB.out] at this; omega))
    have c3' : (4000 : Int) < (cs.length : Int) := by omega
    rw [NO.out]
    clear NO hz HB hwf
    generalize cs.length = n at *
    go_enter Tryd.func76, Tryd.ntmps76
    go_wp2
    go_ret
    exact ⟨rfl, B0.out⟩
  have c3' : ¬ (4000 : Int) < (cs.length : Int) := by omega
  have YY := Lib.hid (show ∀ k, cs.length ≤ k → ClsTo vars (bareC cs) k → B (CnfR vars (bareC cs)) = true from fun k hk h => B_yes ⟨⟨by omega, by omega⟩, by rw [HB.out]; omega, fun i hi => h i (by rw [HB.out] at hi; omega)⟩)
  have NN := Lib.hid (show ∀ k, k < cs.length → ¬ ClR vars ((bareC cs).getD k []) → B (CnfR vars (bareC cs)) = false from fun k hk h => B_no (fun g => h (g.2.2 k (by rw [HB.out]; exact hk))))
  have HZ := Lib.hid hz
  have HS := Lib.hid (fun r hr => Nat.le_trans (totC_mem cs r hr) hs)
  have HW := Lib.hid hwf
  clear hz HB hs hwf
  generalize hN : cs.length = n at *
  have HN := Lib.hid hN
  clear hN
  go_enter Tryd.func76, Tryd.ntmps76
  go_wp2
  go_loopw [3] (fun i wr => ∃ k : Nat, i = .int .i64 k ∧ k ≤ n ∧ Hid (ClsTo vars (bareC cs) k) ∧ Hid (Below (w.alloc (.cells #[.int .i64 vars, .slice sl n cap] 27)).heap.size (w.alloc (.cells #[.int .i64 vars, .slice sl n cap] 27)) wr)) (fun i _ => n - (intOf i).toNat)
  case atStart => exact ⟨0, rfl, Nat.zero_le _, ClsTo.zero _ _, Below.refl _ _⟩
  case round =>
    obtain ⟨k, rfl, hk, IT, H2⟩ := hrel
    have hk0 : (0 : Int) ≤ (k : Int) := by omega
    have DW := Lib.hid (bT B0.out H2.out)
    have TA := CA.out.below H2.out
    obtain ⟨t0, t1⟩ := TA.cells
    have tl := TA.lt
    by_cases g1 : k < n
    · have g1' : (k : Int) < (n : Int) := by omega
      have hlt : k < cs.length := by rw [HN.out]; exact g1
      obtain ⟨g, o, rfl, Z0⟩ := HZ.out.at hlt
      have hc := (Z0.below DW.out).2 k hlt
      have hgl := (Z0.below DW.out).1
      obtain ⟨s1, k1, v1, i1, l1⟩ := (HZ.out.each cs[k] (List.getElem_mem hlt)).below DW.out
      rw [v1] at hc
      have E : Hid (∀ W, Below wr.heap.size wr W → Calls Tryd.prog 80 #[.int .i64 vars, .slice s1 cs[k].2.length k1, .int .i64 16] W fun e w' => e = .returned (.bool (B (ClR vars cs[k].2))) ∧ Below W.heap.size W w') := fun W hW => l06_any vars s1 k1 cs[k].2 W (by omega) (by omega) (HS.out _ (List.getElem_mem hlt)) (HW.out _ (List.getElem_mem hlt)) (i1.below hW)
      have BG := Lib.hid (bareC_get hlt)
      cases hb : B (ClR vars cs[k].2) with
      | true =>
        rw [hb] at E
        have IT2 := Lib.hid (IT.out.step (by rw [BG.out]; exact B_true hb))
        clear hb IT i1 l1 Z0 v1 BG
        generalize cs[k].2.length = q at *
        clear hlt
        have KB : Hid (∀ W, Below wr.heap.size wr W → w.heap.size < W.heap.size ∧ g < W.heap.size ∧ W.cell? ⟨w.heap.size, 0, none⟩ = some (.int .i64 vars) ∧ W.cell? ⟨w.heap.size, 1, none⟩ = some (.slice (some ⟨g, o, none⟩) n cap) ∧ W.cell? ⟨g, o + k, none⟩ = some (.slice s1 q k1)) := fun W hW => ⟨Nat.lt_of_lt_of_le tl hW.size, Nat.lt_of_lt_of_le hgl hW.size, (hW.cell tl).trans t0, (hW.cell tl).trans t1, (hW.cell hgl).trans hc⟩
        clear TA
        go_wp2_with fail
        refine wp_region_held_drew (S := fun W => w.heap.size < W.heap.size ∧ g < W.heap.size ∧ W.cell? ⟨w.heap.size, 0, none⟩ = some (.int .i64 vars) ∧ W.cell? ⟨w.heap.size, 1, none⟩ = some (.slice (some ⟨g, o, none⟩) n cap) ∧ W.cell? ⟨g, o + k, none⟩ = some (.slice s1 q k1)) (by kernel_rfl) ?_ (fun hHeld => ?_)
        · exact KB.out _ (Below.refl _ _).drew
        refine wpAnyH_take (i := 0) (oi := _) (v := ?_) rfl (by kernel_rfl) (by kernel_rfl) (by kernel_rfl) (fun _ _ _ h => h) (Or.inl ⟨by rfl, ?_⟩) (by assumption) ?_
        rotate_left
        · first | (intro w hSw; (try dsimp only at hSw); go_simp; done) | (intro w hSw; (try dsimp only at hSw); go_simp; with_reducible rfl)
        try simp only [Act.put, List.setIfInBounds_toArray, List.set_cons_zero, List.set_cons_succ, List.getElem_toArray, List.getElem_cons_zero]
        refine wpAnyH_take (i := 1) (oi := _) (v := ?_) rfl (by kernel_rfl) (by kernel_rfl) (by kernel_rfl) (fun _ _ _ h => h) (Or.inl ⟨by rfl, ?_⟩) (by assumption) ?_
        rotate_left
        · first | (intro w hSw; (try dsimp only at hSw); go_simp; done) | (intro w hSw; (try dsimp only at hSw); go_simp; with_reducible rfl)
        try simp only [Act.put, List.setIfInBounds_toArray, List.set_cons_zero, List.set_cons_succ, List.getElem_toArray, List.getElem_cons_succ, List.getElem_cons_zero]
        refine wpAnyH_take (i := 2) (oi := _) (v := ?_) rfl (by kernel_rfl) (by kernel_rfl) (by kernel_rfl) (fun _ _ _ h => h) (Or.inl ⟨by rfl, ?_⟩) (by assumption) ?_
        rotate_left
        · first | (intro w hSw; (try dsimp only at hSw); go_simp; done) | (intro w hSw; (try dsimp only at hSw); go_simp; with_reducible rfl)
        try simp only [Act.put, List.setIfInBounds_toArray, List.set_cons_zero, List.set_cons_succ, List.getElem_toArray, List.getElem_cons_succ, List.getElem_cons_zero]
        refine wpAnyH_take (i := 3) (oi := _) (v := ?_) rfl (by kernel_rfl) (by kernel_rfl) (by kernel_rfl) (fun _ _ _ h => h) (Or.inl ⟨by rfl, ?_⟩) (by assumption) ?_
        rotate_left
        · first | (intro w hSw; (try dsimp only at hSw); go_simp; done) | (intro w hSw; (try dsimp only at hSw); go_simp; with_reducible rfl)
        try simp only [Act.put, List.setIfInBounds_toArray, List.set_cons_zero, List.set_cons_succ, List.getElem_toArray, List.getElem_cons_succ, List.getElem_cons_zero]
        refine wpAnyH_take (i := 4) (oi := _) (v := ?_) rfl (by kernel_rfl) (by kernel_rfl) (by kernel_rfl) (fun _ _ _ h => h) (Or.inl ⟨by rfl, ?_⟩) (by assumption) ?_
        rotate_left
        · first | (intro w hSw; (try dsimp only at hSw); go_simp; done) | (intro w hSw; (try dsimp only at hSw); go_simp; with_reducible rfl)
        try simp only [Act.put, List.setIfInBounds_toArray, List.set_cons_zero, List.set_cons_succ, List.getElem_toArray, List.getElem_cons_succ, List.getElem_cons_zero]
        refine wpAnyH_take (i := 5) (oi := _) (v := ?_) rfl (by kernel_rfl) (by kernel_rfl) (by kernel_rfl) (fun _ _ _ h => h) (Or.inl ⟨by rfl, ?_⟩) (by assumption) ?_
        rotate_left
        · first | (intro w hSw; (try dsimp only at hSw); go_simp; done) | (intro w hSw; (try dsimp only at hSw); go_simp; with_reducible rfl)
        try simp only [Act.put, List.setIfInBounds_toArray, List.set_cons_zero, List.set_cons_succ, List.getElem_toArray, List.getElem_cons_succ, List.getElem_cons_zero]
        refine wpAnyH_take (i := 6) (oi := _) (v := ?_) rfl (by kernel_rfl) (by kernel_rfl) (by kernel_rfl) (fun _ _ _ h => h) (Or.inl ⟨by rfl, ?_⟩) (by assumption) ?_
        rotate_left
        · first | (intro w hSw; (try dsimp only at hSw); go_simp; done) | (intro w hSw; (try dsimp only at hSw); go_simp; with_reducible rfl)
        try simp only [Act.put, List.setIfInBounds_toArray, List.set_cons_zero, List.set_cons_succ, List.getElem_toArray, List.getElem_cons_succ, List.getElem_cons_zero]
        refine wpAnyH_ready (rs := [7]) (by kernel_rfl) (by simp) ?_
        refine AllReadyH.cons rfl (fun K hK => ?_) AllReadyH.nil
        go_simp
        go_wp2_with (go_at_call 80; refine (E.out _ (by first | exact Below.refl _ _ | exact (Below.refl _ _).drew | exact Go.below_drewN (Below.refl _ _) _)).mono ?_; rintro e w5 ⟨rfl, b5⟩)
        have D5 : Hid (Below wr.heap.size wr w5) := bT ((Below.refl wr.heap.size wr).drew) b5
        clear b5
        refine hK.out _ _ ?_ (fun hHeld => ?_)
        · exact KB.out _ D5.out
        clear hK K
        refine wpAnyH_take (i := 8) (oi := _) (v := ?_) rfl (by kernel_rfl) (by kernel_rfl) (by kernel_rfl) (fun _ _ _ h => h) (Or.inl ⟨by rfl, ?_⟩) (by assumption) ?_
        rotate_left
        · first | (intro w hSw; (try dsimp only at hSw); go_simp; done) | (intro w hSw; (try dsimp only at hSw); go_simp; with_reducible rfl)
        try simp only [Act.put, List.setIfInBounds_toArray, List.set_cons_zero, List.set_cons_succ, List.getElem_toArray, List.getElem_cons_succ, List.getElem_cons_zero]
        refine wpAnyH_done (by kernel_rfl) ?_ _
        have BQ5 := Lib.hid (bT H2.out D5.out)
        clear D5 KB E
        go_wp2_with fail
        go_roundw
        case rel => exact ⟨k + 1, by go_num, by omega, IT2, BQ5⟩
        case measure => simp [intOf]; omega
      | false =>
        rw [hb] at E
        have NO := Lib.hid (NN.out k g1 (by rw [BG.out]; exact B_false hb))
        clear hb IT i1 l1 Z0 v1 BG
        generalize cs[k].2.length = q at *
        clear hlt
        have KB : Hid (∀ W, Below wr.heap.size wr W → w.heap.size < W.heap.size ∧ g < W.heap.size ∧ W.cell? ⟨w.heap.size, 0, none⟩ = some (.int .i64 vars) ∧ W.cell? ⟨w.heap.size, 1, none⟩ = some (.slice (some ⟨g, o, none⟩) n cap) ∧ W.cell? ⟨g, o + k, none⟩ = some (.slice s1 q k1)) := fun W hW => ⟨Nat.lt_of_lt_of_le tl hW.size, Nat.lt_of_lt_of_le hgl hW.size, (hW.cell tl).trans t0, (hW.cell tl).trans t1, (hW.cell hgl).trans hc⟩
        clear TA
        go_wp2_with fail
        refine wp_region_held_drew (S := fun W => w.heap.size < W.heap.size ∧ g < W.heap.size ∧ W.cell? ⟨w.heap.size, 0, none⟩ = some (.int .i64 vars) ∧ W.cell? ⟨w.heap.size, 1, none⟩ = some (.slice (some ⟨g, o, none⟩) n cap) ∧ W.cell? ⟨g, o + k, none⟩ = some (.slice s1 q k1)) (by kernel_rfl) ?_ (fun hHeld => ?_)
        · exact KB.out _ (Below.refl _ _).drew
        refine wpAnyH_take (i := 0) (oi := _) (v := ?_) rfl (by kernel_rfl) (by kernel_rfl) (by kernel_rfl) (fun _ _ _ h => h) (Or.inl ⟨by rfl, ?_⟩) (by assumption) ?_
        rotate_left
        · first | (intro w hSw; (try dsimp only at hSw); go_simp; done) | (intro w hSw; (try dsimp only at hSw); go_simp; with_reducible rfl)
        try simp only [Act.put, List.setIfInBounds_toArray, List.set_cons_zero, List.set_cons_succ, List.getElem_toArray, List.getElem_cons_zero]
        refine wpAnyH_take (i := 1) (oi := _) (v := ?_) rfl (by kernel_rfl) (by kernel_rfl) (by kernel_rfl) (fun _ _ _ h => h) (Or.inl ⟨by rfl, ?_⟩) (by assumption) ?_
        rotate_left
        · first | (intro w hSw; (try dsimp only at hSw); go_simp; done) | (intro w hSw; (try dsimp only at hSw); go_simp; with_reducible rfl)
        try simp only [Act.put, List.setIfInBounds_toArray, List.set_cons_zero, List.set_cons_succ, List.getElem_toArray, List.getElem_cons_succ, List.getElem_cons_zero]
        refine wpAnyH_take (i := 2) (oi := _) (v := ?_) rfl (by kernel_rfl) (by kernel_rfl) (by kernel_rfl) (fun _ _ _ h => h) (Or.inl ⟨by rfl, ?_⟩) (by assumption) ?_
        rotate_left
        · first | (intro w hSw; (try dsimp only at hSw); go_simp; done) | (intro w hSw; (try dsimp only at hSw); go_simp; with_reducible rfl)
        try simp only [Act.put, List.setIfInBounds_toArray, List.set_cons_zero, List.set_cons_succ, List.getElem_toArray, List.getElem_cons_succ, List.getElem_cons_zero]
        refine wpAnyH_take (i := 3) (oi := _) (v := ?_) rfl (by kernel_rfl) (by kernel_rfl) (by kernel_rfl) (fun _ _ _ h => h) (Or.inl ⟨by rfl, ?_⟩) (by assumption) ?_
        rotate_left
        · first | (intro w hSw; (try dsimp only at hSw); go_simp; done) | (intro w hSw; (try dsimp only at hSw); go_simp; with_reducible rfl)
        try simp only [Act.put, List.setIfInBounds_toArray, List.set_cons_zero, List.set_cons_succ, List.getElem_toArray, List.getElem_cons_succ, List.getElem_cons_zero]
        refine wpAnyH_take (i := 4) (oi := _) (v := ?_) rfl (by kernel_rfl) (by kernel_rfl) (by kernel_rfl) (fun _ _ _ h => h) (Or.inl ⟨by rfl, ?_⟩) (by assumption) ?_
        rotate_left
        · first | (intro w hSw; (try dsimp only at hSw); go_simp; done) | (intro w hSw; (try dsimp only at hSw); go_simp; with_reducible rfl)
        try simp only [Act.put, List.setIfInBounds_toArray, List.set_cons_zero, List.set_cons_succ, List.getElem_toArray, List.getElem_cons_succ, List.getElem_cons_zero]
        refine wpAnyH_take (i := 5) (oi := _) (v := ?_) rfl (by kernel_rfl) (by kernel_rfl) (by kernel_rfl) (fun _ _ _ h => h) (Or.inl ⟨by rfl, ?_⟩) (by assumption) ?_
        rotate_left
        · first | (intro w hSw; (try dsimp only at hSw); go_simp; done) | (intro w hSw; (try dsimp only at hSw); go_simp; with_reducible rfl)
        try simp only [Act.put, List.setIfInBounds_toArray, List.set_cons_zero, List.set_cons_succ, List.getElem_toArray, List.getElem_cons_succ, List.getElem_cons_zero]
        refine wpAnyH_take (i := 6) (oi := _) (v := ?_) rfl (by kernel_rfl) (by kernel_rfl) (by kernel_rfl) (fun _ _ _ h => h) (Or.inl ⟨by rfl, ?_⟩) (by assumption) ?_
        rotate_left
        · first | (intro w hSw; (try dsimp only at hSw); go_simp; done) | (intro w hSw; (try dsimp only at hSw); go_simp; with_reducible rfl)
        try simp only [Act.put, List.setIfInBounds_toArray, List.set_cons_zero, List.set_cons_succ, List.getElem_toArray, List.getElem_cons_succ, List.getElem_cons_zero]
        refine wpAnyH_ready (rs := [7]) (by kernel_rfl) (by simp) ?_
        refine AllReadyH.cons rfl (fun K hK => ?_) AllReadyH.nil
        go_simp
        go_wp2_with (go_at_call 80; refine (E.out _ (by first | exact Below.refl _ _ | exact (Below.refl _ _).drew | exact Go.below_drewN (Below.refl _ _) _)).mono ?_; rintro e w5 ⟨rfl, b5⟩)
        have D5 : Hid (Below wr.heap.size wr w5) := bT ((Below.refl wr.heap.size wr).drew) b5
        clear b5
        refine hK.out _ _ ?_ (fun hHeld => ?_)
        · exact KB.out _ D5.out
        clear hK K
        refine wpAnyH_take (i := 8) (oi := _) (v := ?_) rfl (by kernel_rfl) (by kernel_rfl) (by kernel_rfl) (fun _ _ _ h => h) (Or.inl ⟨by rfl, ?_⟩) (by assumption) ?_
        rotate_left
        · first | (intro w hSw; (try dsimp only at hSw); go_simp; done) | (intro w hSw; (try dsimp only at hSw); go_simp; with_reducible rfl)
        try simp only [Act.put, List.setIfInBounds_toArray, List.set_cons_zero, List.set_cons_succ, List.getElem_toArray, List.getElem_cons_succ, List.getElem_cons_zero]
        refine wpAnyH_done (by kernel_rfl) ?_ _
        have BQ5 := Lib.hid (bT DW.out D5.out)
        clear D5 KB E
        go_wp2_with fail
        go_ret
        exact ⟨by rw [NO.out]; rfl, BQ5.out⟩
    · have g1' : ¬ (k : Int) < (n : Int) := by omega
      have YES := Lib.hid (YY.out k (by omega) IT.out)
      clear IT
      go_wp2
      go_ret
      exact ⟨by rw [YES.out]; rfl, DW.out⟩

end Go.Proofs.YtoncpiaboceefaaDoor
