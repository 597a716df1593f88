/-
  A LINE READ, AS THE PROGRAM DOES: readLine.
-/
import Derived.Test.YtgblfippmjfpdaaGreatDoorLm
import Derived.Test.YtgblfippmjfpdaaGreatDoorLh
import Derived.Deep.RegionHeld3
import Derived.Deep.RegionHeldLaw
namespace Go.Proofs.YtgblfippmjfpdaaGreatDoor
open Go.RowKit
set_option linter.unusedVariables false
set_option linter.unusedSimpArgs false

theorem own_strs2 {w : World} {B : Nat} {v : Value} {ls : List (List UInt8)} (h : w.ownsRow B 9 1 v ls.length (strs ls)) (h1 : 1 ≤ ls.length) : ∃ g cap, v = .slice (some ⟨g, 0, none⟩) ls.length cap ∧ g < w.heap.size ∧ ls.length ≤ cap ∧ ∀ i x, ls[i]? = some x → w.cell? ⟨g, i, none⟩ = some (strV x) := by
  have h2 := own_strs h h1
  rcases h.2 with ⟨_, h0⟩ | ⟨g, cap, cur, hv, hb, hg, hc, _⟩
  · omega
  · obtain ⟨g', cap', hv', hl', hx'⟩ := h2
    rw [hv] at hv'
    cases hv'
    exact ⟨g, cap, hv, hl', hc, hx'⟩
/-- What readLine hands back. -/
def RdP (a : Addr) (r : Bool) (e : Ending) : Prop := ∃ v1 v2 v3, e = .returned (.tuple #[v1, v2, v3]) ∧ (r = true → v3 = .nilIface) ∧ (r = false → v3 = .iface 340 (.pointer (some a)))

theorem set5 {w : World} {b : Nat} {t : TypeId} {a0 a1 a2 a3 a4 : Value} (h : w.heap[b]? = some (.cells #[a0, a1, a2, a3, a4] t)) (x0 x1 x2 x3 x4 : Value) :
    (((((w.setCell ⟨b, 0, none⟩ x0).setCell ⟨b, 1, none⟩ x1).setCell ⟨b, 2, none⟩ x2).setCell ⟨b, 3, none⟩ x3).setCell ⟨b, 4, none⟩ x4).heap[b]? = some (.cells #[x0, x1, x2, x3, x4] t) := by
  rw [heap_setCell_same _ b _ _ t _ (heap_setCell_same _ b _ _ t _ (heap_setCell_same _ b _ _ t _ (heap_setCell_same _ b _ _ t _ (heap_setCell_same _ b _ _ t _ h))))]
  simp only [List.setIfInBounds_toArray, List.set_cons_zero, List.set_cons_succ]
theorem cells5 {w : World} {b : Nat} {t : TypeId} {a0 a1 a2 a3 a4 : Value} (h : w.heap[b]? = some (.cells #[a0, a1, a2, a3, a4] t)) :
    w.cell? ⟨b, 0, none⟩ = some a0 ∧ w.cell? ⟨b, 1, none⟩ = some a1 ∧ w.cell? ⟨b, 2, none⟩ = some a2 ∧ w.cell? ⟨b, 3, none⟩ = some a3 ∧ w.cell? ⟨b, 4, none⟩ = some a4 ∧ (∀ o, w.frozen? ⟨b, o, none⟩ = false) ∧ b < w.heap.size := by
  refine ⟨?_, ?_, ?_, ?_, ?_, fun o => ?_, (Array.getElem?_eq_some_iff.1 h).1⟩ <;> simp [World.cell?, World.frozen?, h]
set_option maxRecDepth 100000 in
set_option maxHeartbeats 8000000 in
theorem rdl_any (s : ByteArray) (a : Addr) (w : World) (hs : s.size ≤ 1048576) (hp : PowTab w) (hg : w.cell? ⟨0, 0, none⟩ = some (.iface 340 (.pointer (some a)))) (h0 : 0 < w.heap.size) :
    Calls Tryz.prog 8 #[.string s] w fun e w' => RdP a (lineI s.data.toList) e ∧ Below w.heap.size w w' := by
  by_cases h60 : s.size ≤ 60
  case neg =>
    have HF : lineI s.data.toList = false := by unfold lineI; rw [decide_eq_false (by simp; omega), Bool.false_and]
    rw [HF]
    have h60' : (60 : Int) < (s.size : Int) := by omega
    clear HF hp
    go_enter Tryz.func8, Tryz.ntmps8
    go_wp2
    go_quiet (fail)
    go_wp2
    exact bodyPost_ret (v := .tuple #[.string ⟨#[]⟩, .slice none 0 0, .iface 340 (.pointer (some a))]) (by simp [results, Tryz.results8, go_sem]) rfl ⟨⟨_, _, _, rfl, fun h => (by cases h), fun _ => rfl⟩, below_drewN (Below.refl _ _) _⟩
  have h60' : ¬ (60 : Int) < (s.size : Int) := by omega
  have BL := Lib.hid (blw_any s w (by omega))
  have HP := Lib.hid (spl_piece 32 s.data.toList)
  have LW : (splitL 32 s.data.toList).length ≤ 61 := by have := (split_len 32 s.data.toList).2; simp at this; omega
  have L1 := (split_len 32 s.data.toList).1
  have HZ : lineI s.data.toList = ((splitL 32 s.data.toList).tail.all numI && (wordI ((splitL 32 s.data.toList).headD []) (splitL 32 s.data.toList).tail.length && ((splitL 32 s.data.toList).tail.map digv).all okM)) := by unfold lineI; rw [decide_eq_true (by simp; omega), Bool.true_and]
  rw [HZ]
  clear HZ
  generalize splitL 32 s.data.toList = ws at *
  obtain ⟨wd, ps, rfl⟩ : ∃ wd ps, ws = wd :: ps := by
    cases ws with
    | nil => simp at L1
    | cons a b => exact ⟨a, b, rfl⟩
  have hb : Hid (∀ x ∈ ps, x.length ≤ 1000) := fun x hx => by
    have := HP.out x (List.mem_cons_of_mem _ hx)
    simp at this
    omega
  have hl : ps.length ≤ 60 := by simp at LW; omega
  simp only [List.tail_cons, List.headD_cons]
  have RN := Lib.hid (show ps.all numI = false → (ps.all numI && (wordI wd ps.length && (ps.map digv).all okM)) = false from fun h => by rw [h, Bool.false_and])
  have RY := Lib.hid (show ps.all numI = true → (ps.all numI && (wordI wd ps.length && (ps.map digv).all okM)) = (wordI wd ps.length && (ps.map digv).all okM) from fun h => by rw [h, Bool.true_and])
  have R0 := Lib.hid (show cmdOf cmdsL wd = none → (ps.all numI && (wordI wd ps.length && (ps.map digv).all okM)) = false from fun h => by unfold wordI; rw [h]; simp)
  have W1 := Lib.hid (show ∀ k, cmdOf cmdsL wd = some k → wordI wd ps.length = tkB k.2.1 k.2.2 ps.length from fun k h => by unfold wordI; rw [h])
  generalize (ps.all numI && (wordI wd ps.length && (ps.map digv).all okM)) = r at *
  clear HP LW L1
  have HPW := Lib.hid hp
  have HG := Lib.hid hg
  clear hp hg
  go_enter Tryz.func8, Tryz.ntmps8
  go_wp2_with fail
  refine BL.out.mono ?_
  rintro e w1 ⟨v, rfl, ow, b1⟩
  obtain ⟨g, cap, rfl, gl, hcap, gc⟩ := own_strs2 ow (by simp)
  simp only [List.length_cons] at ow hcap ⊢
  have D1 := Lib.hid b1
  have GC := Lib.hid gc
  have KX : Hid (∀ W, Below w1.heap.size w1 W → g < W.heap.size ∧ W.cell? ⟨g, 0, none⟩ = some (.string ⟨wd.toArray⟩)) := fun W hW => ⟨Nat.lt_of_lt_of_le gl hW.size, (hW.cell (p := ⟨g, 0, none⟩) gl).trans (gc 0 wd rfl)⟩
  have NB : Hid (∀ W, Below w1.heap.size w1 W → Calls Tryz.prog 13 #[.slice (some ⟨g, 1, none⟩) ps.length (cap - 1)] W fun e w' => ∃ v, e = .returned (.tuple #[v, .bool (ps.all numI)]) ∧ (ps.all numI = true → w'.ownsRow W.heap.size 2 1 v ps.length (valsZ (ps.map digv))) ∧ (∃ sl n c, v = .slice sl n c) ∧ Below W.heap.size W w') := fun W hW => nbs_any g 1 (cap - 1) ps W (by omega) hb.out (Nat.lt_of_lt_of_le gl hW.size) (fun i x hx => (hW.cell (p := ⟨g, 1 + i, none⟩) gl).trans (by rw [Nat.add_comm]; exact gc (i + 1) x (by rw [List.getElem?_cons_succ]; exact hx))) (HPW.out.below (bT b1 hW))
  have NB0 : Hid (cap = 1 → ∀ W, Below w1.heap.size w1 W → Calls Tryz.prog 13 #[.slice (some ⟨g, 0, none⟩) ps.length 0] W fun e w' => ∃ v, e = .returned (.tuple #[v, .bool (ps.all numI)]) ∧ (ps.all numI = true → w'.ownsRow W.heap.size 2 1 v ps.length (valsZ (ps.map digv))) ∧ (∃ sl n c, v = .slice sl n c) ∧ Below W.heap.size W w') := fun h1 W hW => nbs_any g 0 0 ps W (by omega) hb.out (Nat.lt_of_lt_of_le gl hW.size) (fun i x hx => by
    have := (List.getElem?_eq_some_iff.1 hx).1
    omega) (HPW.out.below (bT b1 hW))
  have hs1 := b1.size
  have HGW : Hid (∀ W, Below w1.heap.size w1 W → W.cell? ⟨0, 0, none⟩ = some (.iface 340 (.pointer (some a))) ∧ 0 < W.heap.size) := fun W hW => ⟨((bT b1 hW).cell (p := ⟨0, 0, none⟩) h0).trans HG.out, Nat.lt_of_lt_of_le h0 (bT b1 hW).size⟩
  clear ow b1 BL gc hb HPW HG gl
  have CO := Lib.hid com_any
  have LK0 := Lib.hid run_look
  have EL : ((ps.length : Int) + 1) = ((ps.length + 1 : Nat) : Int) := by omega
  clear EL
  cases hc : cmdOf cmdsL wd with
  | none =>
    go_wp2_with fail
    refine wp_region_held_drew (S := fun W => g < W.heap.size ∧ W.cell? ⟨g, 0, none⟩ = some (.string ⟨wd.toArray⟩)) (by kernel_rfl) ?_ (fun hHeld => ?_)
    · exact KX.out _ (Below.refl _ _).drew
    refine wpAnyH_take (i := 1) (oi := _) (v := ?_) rfl (by kernel_rfl) (by kernel_rfl) (by kernel_rfl) (fun _ _ _ h => h) (Or.inl ⟨by rfl, ?_⟩) (by assumption) ?_
    rotate_left
    · first | (intro w hSw; (try dsimp only at hSw); go_simp; done) | (intro w hSw; (try dsimp only at hSw); go_simp; with_reducible rfl)
    try simp only [Act.put, List.setIfInBounds_toArray, List.set_cons_zero, List.set_cons_succ, List.getElem_toArray, List.getElem_cons_succ, List.getElem_cons_zero]
    refine wpAnyH_take (i := 2) (oi := _) (v := ?_) rfl (by kernel_rfl) (by kernel_rfl) (by kernel_rfl) (fun _ _ _ h => h) (Or.inl ⟨by rfl, ?_⟩) (by assumption) ?_
    rotate_left
    · first | (intro w hSw; (try dsimp only at hSw); go_simp; done) | (intro w hSw; (try dsimp only at hSw); go_simp; with_reducible rfl)
    try simp only [Act.put, List.setIfInBounds_toArray, List.set_cons_zero, List.set_cons_succ, List.getElem_toArray, List.getElem_cons_succ, List.getElem_cons_zero]
    refine wpAnyH_take (i := 3) (oi := _) (v := ?_) rfl (by kernel_rfl) (by kernel_rfl) (by kernel_rfl) (fun _ _ _ h => h) (Or.inl ⟨by rfl, ?_⟩) (by assumption) ?_
    rotate_left
    · first | (intro w hSw; (try dsimp only at hSw); go_simp; done) | (intro w hSw; (try dsimp only at hSw); go_simp; with_reducible rfl)
    try simp only [Act.put, List.setIfInBounds_toArray, List.set_cons_zero, List.set_cons_succ, List.getElem_toArray, List.getElem_cons_succ, List.getElem_cons_zero]
    refine wpAnyH_ready (rs := [0, 8]) (by kernel_rfl) (by simp) ?_
    refine AllReadyH.cons rfl (fun K hK => ?_) (AllReadyH.cons rfl (fun K hK => ?_) AllReadyH.nil)
    · go_simp
      go_wp2_with (go_at_call 12; refine (CO.out _).mono ?_; rintro e w2 ⟨rfl, cm, b2⟩)
      have F2 : Hid (Below w1.heap.size w1 w2) := bT ((Below.refl w1.heap.size w1).drew) b2
      clear b2
      refine hK.out _ _ ?_ (fun hHeld => ?_)
      · exact KX.out _ F2.out
      clear hK K
      refine wpAnyH_ready (rs := [4, 8]) (by kernel_rfl) (by simp) ?_
      refine AllReadyH.cons rfl (fun K hK => ?_) (AllReadyH.cons rfl (fun K hK => ?_) AllReadyH.nil)
      · have cm2 : CM w2 w1.heap.size cmdsL := cm
        obtain LK := (LK0.out w2 _ wd cm2).1 hc
        go_simp
        refine hK.out _ _ ?_ (fun hHeld => ?_)
        · exact KX.out _ F2.out
        clear hK K
        clear LK cm cm2
        refine wpAnyH_take (i := 5) (oi := _) (v := ?_) rfl (by kernel_rfl) (by kernel_rfl) (by kernel_rfl) (fun _ _ _ h => h) (Or.inl ⟨by rfl, ?_⟩) (by assumption) ?_
        rotate_left
        · first | (intro w hSw; (try dsimp only at hSw); go_simp; done) | (intro w hSw; (try dsimp only at hSw); go_simp; with_reducible rfl)
        try simp only [Act.put, List.setIfInBounds_toArray, List.set_cons_zero, List.set_cons_succ, List.getElem_toArray, List.getElem_cons_succ, List.getElem_cons_zero]
        refine wpAnyH_take (i := 6) (oi := _) (v := ?_) rfl (by kernel_rfl) (by kernel_rfl) (by kernel_rfl) (fun _ _ _ h => h) (Or.inl ⟨by rfl, ?_⟩) (by assumption) ?_
        rotate_left
        · first | (intro w hSw; (try dsimp only at hSw); go_simp; done) | (intro w hSw; (try dsimp only at hSw); go_simp; with_reducible rfl)
        try simp only [Act.put, List.setIfInBounds_toArray, List.set_cons_zero, List.set_cons_succ, List.getElem_toArray, List.getElem_cons_succ, List.getElem_cons_zero]
        refine wpAnyH_take (i := 7) (oi := _) (v := ?_) rfl (by kernel_rfl) (by kernel_rfl) (by kernel_rfl) (fun _ _ _ h => h) (Or.inl ⟨by rfl, ?_⟩) (by assumption) ?_
        rotate_left
        · first | (intro w hSw; (try dsimp only at hSw); go_simp; done) | (intro w hSw; (try dsimp only at hSw); go_simp; with_reducible rfl)
        try simp only [Act.put, List.setIfInBounds_toArray, List.set_cons_zero, List.set_cons_succ, List.getElem_toArray, List.getElem_cons_succ, List.getElem_cons_zero]
        refine wpAnyH_ready (rs := [8]) (by kernel_rfl) (by simp) ?_
        refine AllReadyH.cons rfl (fun K hK => ?_) AllReadyH.nil
        go_simp
        refine hK.out _ _ ?_ (fun hHeld => ?_)
        · exact KX.out _ (bA F2.out (.cells #[.int .i64 0, .bool false, .bool false, .bool false, .nilFunc] 38))
        clear hK K
        have X4 := Lib.hid (bA F2.out (.cells #[.int .i64 0, .bool false, .bool false, .bool false, .nilFunc] 38))
        have M4 := Lib.hid (heap_alloc_new w2 (.cells #[.int .i64 0, .bool false, .bool false, .bool false, .nilFunc] 38))
        refine wpAnyH_ready (rs := [9]) (by kernel_rfl) (by simp) ?_
        refine AllReadyH.cons rfl (fun K hK => ?_) AllReadyH.nil
        go_simp
        refine hK.out _ _ ?_ (fun hHeld => ?_)
        · exact KX.out _ X4.out
        clear hK K
        refine wpAnyH_take (i := 10) (oi := _) (v := ?_) rfl (by kernel_rfl) (by kernel_rfl) (by kernel_rfl) (fun _ _ _ h => h) (Or.inl ⟨by rfl, ?_⟩) (by assumption) ?_
        rotate_left
        · first | (intro w hSw; (try dsimp only at hSw); go_simp; done) | (intro w hSw; (try dsimp only at hSw); go_simp; with_reducible rfl)
        try simp only [Act.put, List.setIfInBounds_toArray, List.set_cons_zero, List.set_cons_succ, List.getElem_toArray, List.getElem_cons_succ, List.getElem_cons_zero]
        refine wpAnyH_done (by kernel_rfl) ?_ _
        generalize w2.alloc (.cells #[.int .i64 0, .bool false, .bool false, .bool false, .nilFunc] 38) = w4 at *
        have D4 := Lib.hid (bT D1.out X4.out)
        have e1 : (1 : Int) ≤ (ps.length : Int) + 1 := by omega
        by_cases hc1 : cap = 1
        · go_wp2_with fail
          refine (NB0.out hc1 _ X4.out).mono ?_
          rintro e w5 ⟨v5, rfl, hv5, ⟨sl5, n5, c5, e5⟩, b5⟩
          have D5 := Lib.hid (bT D4.out b5)
          have X5 := Lib.hid (bT X4.out b5)
          obtain ⟨hg5, h05⟩ := HGW.out _ X5.out
          subst e5
          have HF := R0.out hc
          subst HF
          clear b5 hv5 NB NB0 KX LK0 CO R0 RN RY W1 GC HGW hc D4 X4 M4
          generalize ps.all numI = told at *
          cases told
          · go_wp2
            go_quiet (fail)
            go_wp2
            exact bodyPost_ret (v := .tuple #[.string ⟨#[]⟩, .slice none 0 0, .iface 340 (.pointer (some a))]) (by simp [results, Tryz.results8, go_sem]) rfl ⟨⟨_, _, _, rfl, fun h => (by cases h), fun _ => rfl⟩, below_drewN D5.out _⟩
          · go_wp2
            go_quiet (fail)
            go_wp2
            exact bodyPost_ret (v := .tuple #[.string ⟨#[]⟩, .slice none 0 0, .iface 340 (.pointer (some a))]) (by simp [results, Tryz.results8, go_sem]) rfl ⟨⟨_, _, _, rfl, fun h => (by cases h), fun _ => rfl⟩, below_drewN D5.out _⟩
        · go_wp2_with fail
          refine (NB.out _ X4.out).mono ?_
          rintro e w5 ⟨v5, rfl, hv5, ⟨sl5, n5, c5, e5⟩, b5⟩
          have D5 := Lib.hid (bT D4.out b5)
          have X5 := Lib.hid (bT X4.out b5)
          obtain ⟨hg5, h05⟩ := HGW.out _ X5.out
          subst e5
          have HF := R0.out hc
          subst HF
          clear b5 hv5 NB NB0 KX LK0 CO R0 RN RY W1 GC HGW hc D4 X4 M4
          generalize ps.all numI = told at *
          cases told
          · go_wp2
            go_quiet (fail)
            go_wp2
            exact bodyPost_ret (v := .tuple #[.string ⟨#[]⟩, .slice none 0 0, .iface 340 (.pointer (some a))]) (by simp [results, Tryz.results8, go_sem]) rfl ⟨⟨_, _, _, rfl, fun h => (by cases h), fun _ => rfl⟩, below_drewN D5.out _⟩
          · go_wp2
            go_quiet (fail)
            go_wp2
            exact bodyPost_ret (v := .tuple #[.string ⟨#[]⟩, .slice none 0 0, .iface 340 (.pointer (some a))]) (by simp [results, Tryz.results8, go_sem]) rfl ⟨⟨_, _, _, rfl, fun h => (by cases h), fun _ => rfl⟩, below_drewN D5.out _⟩
      · go_simp
        refine hK.out _ _ ?_ (fun hHeld => ?_)
        · exact KX.out _ (bA F2.out (.cells #[.int .i64 0, .bool false, .bool false, .bool false, .nilFunc] 38))
        clear hK K
        have cm2 : CM (w2.alloc (.cells #[.int .i64 0, .bool false, .bool false, .bool false, .nilFunc] 38)) w1.heap.size cmdsL := CM.below (r := w1.heap.size) cm (bA0 _ _)
        obtain LK := (LK0.out _ _ wd cm2).1 hc
        refine wpAnyH_ready (rs := [4]) (by kernel_rfl) (by simp) ?_
        refine AllReadyH.cons rfl (fun K hK => ?_) AllReadyH.nil
        go_simp
        refine hK.out _ _ ?_ (fun hHeld => ?_)
        · exact KX.out _ (bA F2.out (.cells #[.int .i64 0, .bool false, .bool false, .bool false, .nilFunc] 38))
        clear hK K
        clear LK cm cm2
        refine wpAnyH_take (i := 5) (oi := _) (v := ?_) rfl (by kernel_rfl) (by kernel_rfl) (by kernel_rfl) (fun _ _ _ h => h) (Or.inl ⟨by rfl, ?_⟩) (by assumption) ?_
        rotate_left
        · first | (intro w hSw; (try dsimp only at hSw); go_simp; done) | (intro w hSw; (try dsimp only at hSw); go_simp; with_reducible rfl)
        try simp only [Act.put, List.setIfInBounds_toArray, List.set_cons_zero, List.set_cons_succ, List.getElem_toArray, List.getElem_cons_succ, List.getElem_cons_zero]
        refine wpAnyH_take (i := 6) (oi := _) (v := ?_) rfl (by kernel_rfl) (by kernel_rfl) (by kernel_rfl) (fun _ _ _ h => h) (Or.inl ⟨by rfl, ?_⟩) (by assumption) ?_
        rotate_left
        · first | (intro w hSw; (try dsimp only at hSw); go_simp; done) | (intro w hSw; (try dsimp only at hSw); go_simp; with_reducible rfl)
        try simp only [Act.put, List.setIfInBounds_toArray, List.set_cons_zero, List.set_cons_succ, List.getElem_toArray, List.getElem_cons_succ, List.getElem_cons_zero]
        refine wpAnyH_take (i := 7) (oi := _) (v := ?_) rfl (by kernel_rfl) (by kernel_rfl) (by kernel_rfl) (fun _ _ _ h => h) (Or.inl ⟨by rfl, ?_⟩) (by assumption) ?_
        rotate_left
        · first | (intro w hSw; (try dsimp only at hSw); go_simp; done) | (intro w hSw; (try dsimp only at hSw); go_simp; with_reducible rfl)
        try simp only [Act.put, List.setIfInBounds_toArray, List.set_cons_zero, List.set_cons_succ, List.getElem_toArray, List.getElem_cons_succ, List.getElem_cons_zero]
        have X4 := Lib.hid (bA F2.out (.cells #[.int .i64 0, .bool false, .bool false, .bool false, .nilFunc] 38))
        have M4 := Lib.hid (heap_alloc_new w2 (.cells #[.int .i64 0, .bool false, .bool false, .bool false, .nilFunc] 38))
        refine wpAnyH_ready (rs := [9]) (by kernel_rfl) (by simp) ?_
        refine AllReadyH.cons rfl (fun K hK => ?_) AllReadyH.nil
        go_simp
        refine hK.out _ _ ?_ (fun hHeld => ?_)
        · exact KX.out _ X4.out
        clear hK K
        refine wpAnyH_take (i := 10) (oi := _) (v := ?_) rfl (by kernel_rfl) (by kernel_rfl) (by kernel_rfl) (fun _ _ _ h => h) (Or.inl ⟨by rfl, ?_⟩) (by assumption) ?_
        rotate_left
        · first | (intro w hSw; (try dsimp only at hSw); go_simp; done) | (intro w hSw; (try dsimp only at hSw); go_simp; with_reducible rfl)
        try simp only [Act.put, List.setIfInBounds_toArray, List.set_cons_zero, List.set_cons_succ, List.getElem_toArray, List.getElem_cons_succ, List.getElem_cons_zero]
        refine wpAnyH_done (by kernel_rfl) ?_ _
        generalize w2.alloc (.cells #[.int .i64 0, .bool false, .bool false, .bool false, .nilFunc] 38) = w4 at *
        have D4 := Lib.hid (bT D1.out X4.out)
        have e1 : (1 : Int) ≤ (ps.length : Int) + 1 := by omega
        by_cases hc1 : cap = 1
        · go_wp2_with fail
          refine (NB0.out hc1 _ X4.out).mono ?_
          rintro e w5 ⟨v5, rfl, hv5, ⟨sl5, n5, c5, e5⟩, b5⟩
          have D5 := Lib.hid (bT D4.out b5)
          have X5 := Lib.hid (bT X4.out b5)
          obtain ⟨hg5, h05⟩ := HGW.out _ X5.out
          subst e5
          have HF := R0.out hc
          subst HF
          clear b5 hv5 NB NB0 KX LK0 CO R0 RN RY W1 GC HGW hc D4 X4 M4
          generalize ps.all numI = told at *
          cases told
          · go_wp2
            go_quiet (fail)
            go_wp2
            exact bodyPost_ret (v := .tuple #[.string ⟨#[]⟩, .slice none 0 0, .iface 340 (.pointer (some a))]) (by simp [results, Tryz.results8, go_sem]) rfl ⟨⟨_, _, _, rfl, fun h => (by cases h), fun _ => rfl⟩, below_drewN D5.out _⟩
          · go_wp2
            go_quiet (fail)
            go_wp2
            exact bodyPost_ret (v := .tuple #[.string ⟨#[]⟩, .slice none 0 0, .iface 340 (.pointer (some a))]) (by simp [results, Tryz.results8, go_sem]) rfl ⟨⟨_, _, _, rfl, fun h => (by cases h), fun _ => rfl⟩, below_drewN D5.out _⟩
        · go_wp2_with fail
          refine (NB.out _ X4.out).mono ?_
          rintro e w5 ⟨v5, rfl, hv5, ⟨sl5, n5, c5, e5⟩, b5⟩
          have D5 := Lib.hid (bT D4.out b5)
          have X5 := Lib.hid (bT X4.out b5)
          obtain ⟨hg5, h05⟩ := HGW.out _ X5.out
          subst e5
          have HF := R0.out hc
          subst HF
          clear b5 hv5 NB NB0 KX LK0 CO R0 RN RY W1 GC HGW hc D4 X4 M4
          generalize ps.all numI = told at *
          cases told
          · go_wp2
            go_quiet (fail)
            go_wp2
            exact bodyPost_ret (v := .tuple #[.string ⟨#[]⟩, .slice none 0 0, .iface 340 (.pointer (some a))]) (by simp [results, Tryz.results8, go_sem]) rfl ⟨⟨_, _, _, rfl, fun h => (by cases h), fun _ => rfl⟩, below_drewN D5.out _⟩
          · go_wp2
            go_quiet (fail)
            go_wp2
            exact bodyPost_ret (v := .tuple #[.string ⟨#[]⟩, .slice none 0 0, .iface 340 (.pointer (some a))]) (by simp [results, Tryz.results8, go_sem]) rfl ⟨⟨_, _, _, rfl, fun h => (by cases h), fun _ => rfl⟩, below_drewN D5.out _⟩
    · go_simp
      refine hK.out _ _ ?_ (fun hHeld => ?_)
      · exact KX.out _ (bA (Below.refl w1.heap.size w1).drew (.cells #[.int .i64 0, .bool false, .bool false, .bool false, .nilFunc] 38))
      clear hK K
      refine wpAnyH_ready (rs := [0]) (by kernel_rfl) (by simp) ?_
      refine AllReadyH.cons rfl (fun K hK => ?_) AllReadyH.nil
      go_simp
      go_wp2_with (go_at_call 12; refine (CO.out _).mono ?_; rintro e w2 ⟨rfl, cm, b2⟩)
      have F2 : Hid (Below w1.heap.size w1 w2) := bT (bA (Below.refl w1.heap.size w1).drew (.cells #[.int .i64 0, .bool false, .bool false, .bool false, .nilFunc] 38)) b2
      have M2 : w2.heap[w1.heap.size]? = some (.cells #[.int .i64 0, .bool false, .bool false, .bool false, .nilFunc] 38) := (b2.block w1.heap.size (by simp [World.drew])).trans (heap_alloc_new w1.drew _)
      obtain ⟨q0, q1, q2, q3, q4, qf, ql⟩ := cells5 M2
      have cm2 : CM w2 (w1.heap.size + 1) cmdsL := by have := cm; simpa using this
      clear b2 cm
      refine hK.out _ _ ?_ (fun hHeld => ?_)
      · exact KX.out _ F2.out
      clear hK K
      obtain LK := (LK0.out w2 _ wd cm2).1 hc
      refine wpAnyH_ready (rs := [4]) (by kernel_rfl) (by simp) ?_
      refine AllReadyH.cons rfl (fun K hK => ?_) AllReadyH.nil
      go_simp
      refine hK.out _ _ ?_ (fun hHeld => ?_)
      · exact KX.out _ F2.out
      clear hK K
      clear LK cm2
      refine wpAnyH_take (i := 5) (oi := _) (v := ?_) rfl (by kernel_rfl) (by kernel_rfl) (by kernel_rfl) (fun _ _ _ h => h) (Or.inl ⟨by rfl, ?_⟩) (by assumption) ?_
      rotate_left
      · first | (intro w hSw; (try dsimp only at hSw); go_simp; done) | (intro w hSw; (try dsimp only at hSw); go_simp; with_reducible rfl)
      try simp only [Act.put, List.setIfInBounds_toArray, List.set_cons_zero, List.set_cons_succ, List.getElem_toArray, List.getElem_cons_succ, List.getElem_cons_zero]
      refine wpAnyH_take (i := 6) (oi := _) (v := ?_) rfl (by kernel_rfl) (by kernel_rfl) (by kernel_rfl) (fun _ _ _ h => h) (Or.inl ⟨by rfl, ?_⟩) (by assumption) ?_
      rotate_left
      · first | (intro w hSw; (try dsimp only at hSw); go_simp; done) | (intro w hSw; (try dsimp only at hSw); go_simp; with_reducible rfl)
      try simp only [Act.put, List.setIfInBounds_toArray, List.set_cons_zero, List.set_cons_succ, List.getElem_toArray, List.getElem_cons_succ, List.getElem_cons_zero]
      refine wpAnyH_take (i := 7) (oi := _) (v := ?_) rfl (by kernel_rfl) (by kernel_rfl) (by kernel_rfl) (fun _ _ _ h => h) (Or.inl ⟨by rfl, ?_⟩) (by assumption) ?_
      rotate_left
      · first | (intro w hSw; (try dsimp only at hSw); go_simp; done) | (intro w hSw; (try dsimp only at hSw); go_simp; with_reducible rfl)
      try simp only [Act.put, List.setIfInBounds_toArray, List.set_cons_zero, List.set_cons_succ, List.getElem_toArray, List.getElem_cons_succ, List.getElem_cons_zero]
      have X4 := Lib.hid (((((F2.out.setCell (p := ⟨w1.heap.size, 0, none⟩) (Nat.le_refl _) (.int .i64 0)).setCell (p := ⟨w1.heap.size, 1, none⟩) (Nat.le_refl _) (.bool false)).setCell (p := ⟨w1.heap.size, 2, none⟩) (Nat.le_refl _) (.bool false)).setCell (p := ⟨w1.heap.size, 3, none⟩) (Nat.le_refl _) (.bool false)).setCell (p := ⟨w1.heap.size, 4, none⟩) (Nat.le_refl _) (.nilFunc))
      have M4 := Lib.hid (show (((((w2.setCell ⟨w1.heap.size, 0, none⟩ (.int .i64 0)).setCell ⟨w1.heap.size, 1, none⟩ (.bool false)).setCell ⟨w1.heap.size, 2, none⟩ (.bool false)).setCell ⟨w1.heap.size, 3, none⟩ (.bool false)).setCell ⟨w1.heap.size, 4, none⟩ (.nilFunc)).heap[w1.heap.size]? = some (.cells #[.int .i64 0, .bool false, .bool false, .bool false, .nilFunc] 38) from set5 M2 (.int .i64 0) (.bool false) (.bool false) (.bool false) (.nilFunc))
      refine wpAnyH_ready (rs := [9]) (by kernel_rfl) (by simp) ?_
      refine AllReadyH.cons rfl (fun K hK => ?_) AllReadyH.nil
      go_simp
      refine hK.out _ _ ?_ (fun hHeld => ?_)
      · exact KX.out _ X4.out
      clear hK K
      refine wpAnyH_take (i := 10) (oi := _) (v := ?_) rfl (by kernel_rfl) (by kernel_rfl) (by kernel_rfl) (fun _ _ _ h => h) (Or.inl ⟨by rfl, ?_⟩) (by assumption) ?_
      rotate_left
      · first | (intro w hSw; (try dsimp only at hSw); go_simp; done) | (intro w hSw; (try dsimp only at hSw); go_simp; with_reducible rfl)
      try simp only [Act.put, List.setIfInBounds_toArray, List.set_cons_zero, List.set_cons_succ, List.getElem_toArray, List.getElem_cons_succ, List.getElem_cons_zero]
      refine wpAnyH_done (by kernel_rfl) ?_ _
      generalize (((((w2.setCell ⟨w1.heap.size, 0, none⟩ (.int .i64 0)).setCell ⟨w1.heap.size, 1, none⟩ (.bool false)).setCell ⟨w1.heap.size, 2, none⟩ (.bool false)).setCell ⟨w1.heap.size, 3, none⟩ (.bool false)).setCell ⟨w1.heap.size, 4, none⟩ (.nilFunc)) = w4 at *
      clear q0 q1 q2 q3 q4 qf ql M2
      have D4 := Lib.hid (bT D1.out X4.out)
      have e1 : (1 : Int) ≤ (ps.length : Int) + 1 := by omega
      by_cases hc1 : cap = 1
      · go_wp2_with fail
        refine (NB0.out hc1 _ X4.out).mono ?_
        rintro e w5 ⟨v5, rfl, hv5, ⟨sl5, n5, c5, e5⟩, b5⟩
        have D5 := Lib.hid (bT D4.out b5)
        have X5 := Lib.hid (bT X4.out b5)
        obtain ⟨hg5, h05⟩ := HGW.out _ X5.out
        subst e5
        have HF := R0.out hc
        subst HF
        clear b5 hv5 NB NB0 KX LK0 CO R0 RN RY W1 GC HGW hc D4 X4 M4
        generalize ps.all numI = told at *
        cases told
        · go_wp2
          go_quiet (fail)
          go_wp2
          exact bodyPost_ret (v := .tuple #[.string ⟨#[]⟩, .slice none 0 0, .iface 340 (.pointer (some a))]) (by simp [results, Tryz.results8, go_sem]) rfl ⟨⟨_, _, _, rfl, fun h => (by cases h), fun _ => rfl⟩, below_drewN D5.out _⟩
        · go_wp2
          go_quiet (fail)
          go_wp2
          exact bodyPost_ret (v := .tuple #[.string ⟨#[]⟩, .slice none 0 0, .iface 340 (.pointer (some a))]) (by simp [results, Tryz.results8, go_sem]) rfl ⟨⟨_, _, _, rfl, fun h => (by cases h), fun _ => rfl⟩, below_drewN D5.out _⟩
      · go_wp2_with fail
        refine (NB.out _ X4.out).mono ?_
        rintro e w5 ⟨v5, rfl, hv5, ⟨sl5, n5, c5, e5⟩, b5⟩
        have D5 := Lib.hid (bT D4.out b5)
        have X5 := Lib.hid (bT X4.out b5)
        obtain ⟨hg5, h05⟩ := HGW.out _ X5.out
        subst e5
        have HF := R0.out hc
        subst HF
        clear b5 hv5 NB NB0 KX LK0 CO R0 RN RY W1 GC HGW hc D4 X4 M4
        generalize ps.all numI = told at *
        cases told
        · go_wp2
          go_quiet (fail)
          go_wp2
          exact bodyPost_ret (v := .tuple #[.string ⟨#[]⟩, .slice none 0 0, .iface 340 (.pointer (some a))]) (by simp [results, Tryz.results8, go_sem]) rfl ⟨⟨_, _, _, rfl, fun h => (by cases h), fun _ => rfl⟩, below_drewN D5.out _⟩
        · go_wp2
          go_quiet (fail)
          go_wp2
          exact bodyPost_ret (v := .tuple #[.string ⟨#[]⟩, .slice none 0 0, .iface 340 (.pointer (some a))]) (by simp [results, Tryz.results8, go_sem]) rfl ⟨⟨_, _, _, rfl, fun h => (by cases h), fun _ => rfl⟩, below_drewN D5.out _⟩

  | some k =>
    go_wp2_with fail
    refine wp_region_held_drew (S := fun W => g < W.heap.size ∧ W.cell? ⟨g, 0, none⟩ = some (.string ⟨wd.toArray⟩)) (by kernel_rfl) ?_ (fun hHeld => ?_)
    · exact KX.out _ (Below.refl _ _).drew
    refine wpAnyH_take (i := 1) (oi := _) (v := ?_) rfl (by kernel_rfl) (by kernel_rfl) (by kernel_rfl) (fun _ _ _ h => h) (Or.inl ⟨by rfl, ?_⟩) (by assumption) ?_
    rotate_left
    · first | (intro w hSw; (try dsimp only at hSw); go_simp; done) | (intro w hSw; (try dsimp only at hSw); go_simp; with_reducible rfl)
    try simp only [Act.put, List.setIfInBounds_toArray, List.set_cons_zero, List.set_cons_succ, List.getElem_toArray, List.getElem_cons_succ, List.getElem_cons_zero]
    refine wpAnyH_take (i := 2) (oi := _) (v := ?_) rfl (by kernel_rfl) (by kernel_rfl) (by kernel_rfl) (fun _ _ _ h => h) (Or.inl ⟨by rfl, ?_⟩) (by assumption) ?_
    rotate_left
    · first | (intro w hSw; (try dsimp only at hSw); go_simp; done) | (intro w hSw; (try dsimp only at hSw); go_simp; with_reducible rfl)
    try simp only [Act.put, List.setIfInBounds_toArray, List.set_cons_zero, List.set_cons_succ, List.getElem_toArray, List.getElem_cons_succ, List.getElem_cons_zero]
    refine wpAnyH_take (i := 3) (oi := _) (v := ?_) rfl (by kernel_rfl) (by kernel_rfl) (by kernel_rfl) (fun _ _ _ h => h) (Or.inl ⟨by rfl, ?_⟩) (by assumption) ?_
    rotate_left
    · first | (intro w hSw; (try dsimp only at hSw); go_simp; done) | (intro w hSw; (try dsimp only at hSw); go_simp; with_reducible rfl)
    try simp only [Act.put, List.setIfInBounds_toArray, List.set_cons_zero, List.set_cons_succ, List.getElem_toArray, List.getElem_cons_succ, List.getElem_cons_zero]
    refine wpAnyH_ready (rs := [0, 8]) (by kernel_rfl) (by simp) ?_
    refine AllReadyH.cons rfl (fun K hK => ?_) (AllReadyH.cons rfl (fun K hK => ?_) AllReadyH.nil)
    · go_simp
      go_wp2_with (go_at_call 12; refine (CO.out _).mono ?_; rintro e w2 ⟨rfl, cm, b2⟩)
      have F2 : Hid (Below w1.heap.size w1 w2) := bT ((Below.refl w1.heap.size w1).drew) b2
      clear b2
      refine hK.out _ _ ?_ (fun hHeld => ?_)
      · exact KX.out _ F2.out
      clear hK K
      refine wpAnyH_ready (rs := [4, 8]) (by kernel_rfl) (by simp) ?_
      refine AllReadyH.cons rfl (fun K hK => ?_) (AllReadyH.cons rfl (fun K hK => ?_) AllReadyH.nil)
      · have cm2 : CM w2 w1.heap.size cmdsL := cm
        obtain ⟨ob, cb, fx, fy, fz, LK⟩ := (LK0.out w2 _ wd cm2).2 k hc
        go_simp
        refine hK.out _ _ ?_ (fun hHeld => ?_)
        · exact KX.out _ F2.out
        clear hK K
        clear LK cm cm2
        refine wpAnyH_take (i := 5) (oi := _) (v := ?_) rfl (by kernel_rfl) (by kernel_rfl) (by kernel_rfl) (fun _ _ _ h => h) (Or.inl ⟨by rfl, ?_⟩) (by assumption) ?_
        rotate_left
        · first | (intro w hSw; (try dsimp only at hSw); go_simp; done) | (intro w hSw; (try dsimp only at hSw); go_simp; with_reducible rfl)
        try simp only [Act.put, List.setIfInBounds_toArray, List.set_cons_zero, List.set_cons_succ, List.getElem_toArray, List.getElem_cons_succ, List.getElem_cons_zero]
        refine wpAnyH_take (i := 6) (oi := _) (v := ?_) rfl (by kernel_rfl) (by kernel_rfl) (by kernel_rfl) (fun _ _ _ h => h) (Or.inl ⟨by rfl, ?_⟩) (by assumption) ?_
        rotate_left
        · first | (intro w hSw; (try dsimp only at hSw); go_simp; done) | (intro w hSw; (try dsimp only at hSw); go_simp; with_reducible rfl)
        try simp only [Act.put, List.setIfInBounds_toArray, List.set_cons_zero, List.set_cons_succ, List.getElem_toArray, List.getElem_cons_succ, List.getElem_cons_zero]
        refine wpAnyH_take (i := 7) (oi := _) (v := ?_) rfl (by kernel_rfl) (by kernel_rfl) (by kernel_rfl) (fun _ _ _ h => h) (Or.inl ⟨by rfl, ?_⟩) (by assumption) ?_
        rotate_left
        · first | (intro w hSw; (try dsimp only at hSw); go_simp; done) | (intro w hSw; (try dsimp only at hSw); go_simp; with_reducible rfl)
        try simp only [Act.put, List.setIfInBounds_toArray, List.set_cons_zero, List.set_cons_succ, List.getElem_toArray, List.getElem_cons_succ, List.getElem_cons_zero]
        refine wpAnyH_ready (rs := [8]) (by kernel_rfl) (by simp) ?_
        refine AllReadyH.cons rfl (fun K hK => ?_) AllReadyH.nil
        go_simp
        refine hK.out _ _ ?_ (fun hHeld => ?_)
        · exact KX.out _ (bA F2.out (.cells #[.int .i64 0, .bool false, .bool false, .bool false, .nilFunc] 38))
        clear hK K
        have X4 := Lib.hid (bA F2.out (.cells #[.int .i64 k.2.1, .bool k.2.2, .bool ob, .bool cb, .func fx fy fz] 38))
        have M4 := Lib.hid (heap_alloc_new w2 (.cells #[.int .i64 k.2.1, .bool k.2.2, .bool ob, .bool cb, .func fx fy fz] 38))
        refine wpAnyH_ready (rs := [9]) (by kernel_rfl) (by simp) ?_
        refine AllReadyH.cons rfl (fun K hK => ?_) AllReadyH.nil
        go_simp
        refine hK.out _ _ ?_ (fun hHeld => ?_)
        · exact KX.out _ X4.out
        clear hK K
        refine wpAnyH_take (i := 10) (oi := _) (v := ?_) rfl (by kernel_rfl) (by kernel_rfl) (by kernel_rfl) (fun _ _ _ h => h) (Or.inl ⟨by rfl, ?_⟩) (by assumption) ?_
        rotate_left
        · first | (intro w hSw; (try dsimp only at hSw); go_simp; done) | (intro w hSw; (try dsimp only at hSw); go_simp; with_reducible rfl)
        try simp only [Act.put, List.setIfInBounds_toArray, List.set_cons_zero, List.set_cons_succ, List.getElem_toArray, List.getElem_cons_succ, List.getElem_cons_zero]
        refine wpAnyH_done (by kernel_rfl) ?_ _
        generalize w2.alloc (.cells #[.int .i64 k.2.1, .bool k.2.2, .bool ob, .bool cb, .func fx fy fz] 38) = w4 at *
        have D4 := Lib.hid (bT D1.out X4.out)
        have e1 : (1 : Int) ≤ (ps.length : Int) + 1 := by omega
        by_cases hc1 : cap = 1
        · go_wp2_with fail
          refine (NB0.out hc1 _ X4.out).mono ?_
          rintro e w5 ⟨v5, rfl, hv5, ⟨sl5, n5, c5, e5⟩, b5⟩
          have D5 := Lib.hid (bT D4.out b5)
          have X5 := Lib.hid (bT X4.out b5)
          obtain ⟨hg5, h05⟩ := HGW.out _ X5.out
          have hl4 : w2.heap.size < w4.heap.size := (Array.getElem?_eq_some_iff.1 M4.out).1
          have M5 := (b5.block (w2.heap.size) hl4).trans M4.out
          obtain ⟨q0, q1, q2, q3, q4, qf, ql⟩ := cells5 M5
          have TK := Lib.hid (tak_any k.2.1 k.2.2 ob cb (.func fx fy fz) (ps.length : Int) w5)
          have WW := Lib.hid (W1.out k hc)
          clear b5 hl4 M5 M4 NB NB0 LK0 CO R0 W1 D4 X4 GC hc
          cases ha : ps.all numI
          · have HF := RN.out ha
            subst HF
            subst e5
            clear hv5 ha KX HGW RN RY TK WW
            go_wp2
            go_quiet (fail)
            go_wp2
            exact bodyPost_ret (v := .tuple #[.string ⟨#[]⟩, .slice none 0 0, .iface 340 (.pointer (some a))]) (by simp [results, Tryz.results8, go_sem]) rfl ⟨⟨_, _, _, rfl, fun h => (by cases h), fun _ => rfl⟩, below_drewN D5.out _⟩
          have HR := Lib.hid (RY.out ha)
          have ow := hv5 ha
          obtain ⟨sl, c, ev, iv⟩ := own_ints (zs := ps.map digv) (by rw [List.length_map]; exact ow)
          rw [List.length_map] at ev
          subst ev
          have CF : Hid (∀ W, Below w5.heap.size w5 W → Calls Tryz.prog 16 #[.slice sl ps.length c, TG] W fun e w' => e = .returned (.bool (!((ps.map digv).all okM))) ∧ Below W.heap.size W w') := fun W hW => by
            have := cog_any sl c (ps.map digv) W (by rw [List.length_map]; omega) (iv.below hW)
            rwa [List.length_map] at this
          clear e5 ow iv hv5 ha RN RY
          generalize (ps.map digv).all okM = oo at *
          rw [WW.out] at HR
          clear WW
          go_wp2_with fail
          refine TK.out.mono ?_
          rintro e w6 ⟨rfl, b6⟩
          have D6 := Lib.hid (bT D5.out b6)
          have X6 := Lib.hid (bT X5.out b6)
          have Y6 := Lib.hid b6
          obtain ⟨hg6, h06⟩ := HGW.out _ X6.out
          generalize tkB k.2.1 k.2.2 (ps.length : Int) = tk at *
          clear b6 hg5 h05 q0 q1 q2 q3 q4 qf ql TK
          cases tk
          · have HF : r = false := HR.out
            subst HF
            clear HR KX HGW CF
            go_wp2
            go_quiet (fail)
            go_wp2
            exact bodyPost_ret (v := .tuple #[.string ⟨#[]⟩, .slice none 0 0, .iface 340 (.pointer (some a))]) (by simp [results, Tryz.results8, go_sem]) rfl ⟨⟨_, _, _, rfl, fun h => (by cases h), fun _ => rfl⟩, below_drewN D6.out _⟩
          go_wp2_with fail
          refine (CF.out _ Y6.out).mono ?_
          rintro e w7 ⟨rfl, b7⟩
          have D7 := Lib.hid (bT D6.out b7)
          have X7 := Lib.hid (bT X6.out b7)
          obtain ⟨hg7, h07⟩ := HGW.out _ X7.out
          obtain ⟨gl7, gc7⟩ := KX.out _ X7.out
          clear b7 hg6 h06 CF KX HGW Y6
          cases oo
          · have HF : r = false := HR.out
            subst HF
            clear HR
            go_wp2
            go_quiet (fail)
            go_wp2
            exact bodyPost_ret (v := .tuple #[.string ⟨#[]⟩, .slice none 0 0, .iface 340 (.pointer (some a))]) (by simp [results, Tryz.results8, go_sem]) rfl ⟨⟨_, _, _, rfl, fun h => (by cases h), fun _ => rfl⟩, below_drewN D7.out _⟩
          · have HF : r = true := HR.out
            subst HF
            clear HR
            go_wp2
            exact bodyPost_ret (v := .tuple #[.string ⟨wd.toArray⟩, .slice sl ps.length c, .nilIface]) (by simp [results, Tryz.results8, go_sem]) rfl ⟨⟨_, _, _, rfl, fun _ => rfl, fun h => (by cases h)⟩, D7.out⟩
        · go_wp2_with fail
          refine (NB.out _ X4.out).mono ?_
          rintro e w5 ⟨v5, rfl, hv5, ⟨sl5, n5, c5, e5⟩, b5⟩
          have D5 := Lib.hid (bT D4.out b5)
          have X5 := Lib.hid (bT X4.out b5)
          obtain ⟨hg5, h05⟩ := HGW.out _ X5.out
          have hl4 : w2.heap.size < w4.heap.size := (Array.getElem?_eq_some_iff.1 M4.out).1
          have M5 := (b5.block (w2.heap.size) hl4).trans M4.out
          obtain ⟨q0, q1, q2, q3, q4, qf, ql⟩ := cells5 M5
          have TK := Lib.hid (tak_any k.2.1 k.2.2 ob cb (.func fx fy fz) (ps.length : Int) w5)
          have WW := Lib.hid (W1.out k hc)
          clear b5 hl4 M5 M4 NB NB0 LK0 CO R0 W1 D4 X4 GC hc
          cases ha : ps.all numI
          · have HF := RN.out ha
            subst HF
            subst e5
            clear hv5 ha KX HGW RN RY TK WW
            go_wp2
            go_quiet (fail)
            go_wp2
            exact bodyPost_ret (v := .tuple #[.string ⟨#[]⟩, .slice none 0 0, .iface 340 (.pointer (some a))]) (by simp [results, Tryz.results8, go_sem]) rfl ⟨⟨_, _, _, rfl, fun h => (by cases h), fun _ => rfl⟩, below_drewN D5.out _⟩
          have HR := Lib.hid (RY.out ha)
          have ow := hv5 ha
          obtain ⟨sl, c, ev, iv⟩ := own_ints (zs := ps.map digv) (by rw [List.length_map]; exact ow)
          rw [List.length_map] at ev
          subst ev
          have CF : Hid (∀ W, Below w5.heap.size w5 W → Calls Tryz.prog 16 #[.slice sl ps.length c, TG] W fun e w' => e = .returned (.bool (!((ps.map digv).all okM))) ∧ Below W.heap.size W w') := fun W hW => by
            have := cog_any sl c (ps.map digv) W (by rw [List.length_map]; omega) (iv.below hW)
            rwa [List.length_map] at this
          clear e5 ow iv hv5 ha RN RY
          generalize (ps.map digv).all okM = oo at *
          rw [WW.out] at HR
          clear WW
          go_wp2_with fail
          refine TK.out.mono ?_
          rintro e w6 ⟨rfl, b6⟩
          have D6 := Lib.hid (bT D5.out b6)
          have X6 := Lib.hid (bT X5.out b6)
          have Y6 := Lib.hid b6
          obtain ⟨hg6, h06⟩ := HGW.out _ X6.out
          generalize tkB k.2.1 k.2.2 (ps.length : Int) = tk at *
          clear b6 hg5 h05 q0 q1 q2 q3 q4 qf ql TK
          cases tk
          · have HF : r = false := HR.out
            subst HF
            clear HR KX HGW CF
            go_wp2
            go_quiet (fail)
            go_wp2
            exact bodyPost_ret (v := .tuple #[.string ⟨#[]⟩, .slice none 0 0, .iface 340 (.pointer (some a))]) (by simp [results, Tryz.results8, go_sem]) rfl ⟨⟨_, _, _, rfl, fun h => (by cases h), fun _ => rfl⟩, below_drewN D6.out _⟩
          go_wp2_with fail
          refine (CF.out _ Y6.out).mono ?_
          rintro e w7 ⟨rfl, b7⟩
          have D7 := Lib.hid (bT D6.out b7)
          have X7 := Lib.hid (bT X6.out b7)
          obtain ⟨hg7, h07⟩ := HGW.out _ X7.out
          obtain ⟨gl7, gc7⟩ := KX.out _ X7.out
          clear b7 hg6 h06 CF KX HGW Y6
          cases oo
          · have HF : r = false := HR.out
            subst HF
            clear HR
            go_wp2
            go_quiet (fail)
            go_wp2
            exact bodyPost_ret (v := .tuple #[.string ⟨#[]⟩, .slice none 0 0, .iface 340 (.pointer (some a))]) (by simp [results, Tryz.results8, go_sem]) rfl ⟨⟨_, _, _, rfl, fun h => (by cases h), fun _ => rfl⟩, below_drewN D7.out _⟩
          · have HF : r = true := HR.out
            subst HF
            clear HR
            go_wp2
            exact bodyPost_ret (v := .tuple #[.string ⟨wd.toArray⟩, .slice sl ps.length c, .nilIface]) (by simp [results, Tryz.results8, go_sem]) rfl ⟨⟨_, _, _, rfl, fun _ => rfl, fun h => (by cases h)⟩, D7.out⟩
      · go_simp
        refine hK.out _ _ ?_ (fun hHeld => ?_)
        · exact KX.out _ (bA F2.out (.cells #[.int .i64 0, .bool false, .bool false, .bool false, .nilFunc] 38))
        clear hK K
        have cm2 : CM (w2.alloc (.cells #[.int .i64 0, .bool false, .bool false, .bool false, .nilFunc] 38)) w1.heap.size cmdsL := CM.below (r := w1.heap.size) cm (bA0 _ _)
        obtain ⟨ob, cb, fx, fy, fz, LK⟩ := (LK0.out _ _ wd cm2).2 k hc
        refine wpAnyH_ready (rs := [4]) (by kernel_rfl) (by simp) ?_
        refine AllReadyH.cons rfl (fun K hK => ?_) AllReadyH.nil
        go_simp
        refine hK.out _ _ ?_ (fun hHeld => ?_)
        · exact KX.out _ (bA F2.out (.cells #[.int .i64 0, .bool false, .bool false, .bool false, .nilFunc] 38))
        clear hK K
        clear LK cm cm2
        refine wpAnyH_take (i := 5) (oi := _) (v := ?_) rfl (by kernel_rfl) (by kernel_rfl) (by kernel_rfl) (fun _ _ _ h => h) (Or.inl ⟨by rfl, ?_⟩) (by assumption) ?_
        rotate_left
        · first | (intro w hSw; (try dsimp only at hSw); go_simp; done) | (intro w hSw; (try dsimp only at hSw); go_simp; with_reducible rfl)
        try simp only [Act.put, List.setIfInBounds_toArray, List.set_cons_zero, List.set_cons_succ, List.getElem_toArray, List.getElem_cons_succ, List.getElem_cons_zero]
        refine wpAnyH_take (i := 6) (oi := _) (v := ?_) rfl (by kernel_rfl) (by kernel_rfl) (by kernel_rfl) (fun _ _ _ h => h) (Or.inl ⟨by rfl, ?_⟩) (by assumption) ?_
        rotate_left
        · first | (intro w hSw; (try dsimp only at hSw); go_simp; done) | (intro w hSw; (try dsimp only at hSw); go_simp; with_reducible rfl)
        try simp only [Act.put, List.setIfInBounds_toArray, List.set_cons_zero, List.set_cons_succ, List.getElem_toArray, List.getElem_cons_succ, List.getElem_cons_zero]
        refine wpAnyH_take (i := 7) (oi := _) (v := ?_) rfl (by kernel_rfl) (by kernel_rfl) (by kernel_rfl) (fun _ _ _ h => h) (Or.inl ⟨by rfl, ?_⟩) (by assumption) ?_
        rotate_left
        · first | (intro w hSw; (try dsimp only at hSw); go_simp; done) | (intro w hSw; (try dsimp only at hSw); go_simp; with_reducible rfl)
        try simp only [Act.put, List.setIfInBounds_toArray, List.set_cons_zero, List.set_cons_succ, List.getElem_toArray, List.getElem_cons_succ, List.getElem_cons_zero]
        have X4 := Lib.hid (bA F2.out (.cells #[.int .i64 k.2.1, .bool k.2.2, .bool ob, .bool cb, .func fx fy fz] 38))
        have M4 := Lib.hid (heap_alloc_new w2 (.cells #[.int .i64 k.2.1, .bool k.2.2, .bool ob, .bool cb, .func fx fy fz] 38))
        refine wpAnyH_ready (rs := [9]) (by kernel_rfl) (by simp) ?_
        refine AllReadyH.cons rfl (fun K hK => ?_) AllReadyH.nil
        go_simp
        refine hK.out _ _ ?_ (fun hHeld => ?_)
        · exact KX.out _ X4.out
        clear hK K
        refine wpAnyH_take (i := 10) (oi := _) (v := ?_) rfl (by kernel_rfl) (by kernel_rfl) (by kernel_rfl) (fun _ _ _ h => h) (Or.inl ⟨by rfl, ?_⟩) (by assumption) ?_
        rotate_left
        · first | (intro w hSw; (try dsimp only at hSw); go_simp; done) | (intro w hSw; (try dsimp only at hSw); go_simp; with_reducible rfl)
        try simp only [Act.put, List.setIfInBounds_toArray, List.set_cons_zero, List.set_cons_succ, List.getElem_toArray, List.getElem_cons_succ, List.getElem_cons_zero]
        refine wpAnyH_done (by kernel_rfl) ?_ _
        generalize w2.alloc (.cells #[.int .i64 k.2.1, .bool k.2.2, .bool ob, .bool cb, .func fx fy fz] 38) = w4 at *
        have D4 := Lib.hid (bT D1.out X4.out)
        have e1 : (1 : Int) ≤ (ps.length : Int) + 1 := by omega
        by_cases hc1 : cap = 1
        · go_wp2_with fail
          refine (NB0.out hc1 _ X4.out).mono ?_
          rintro e w5 ⟨v5, rfl, hv5, ⟨sl5, n5, c5, e5⟩, b5⟩
          have D5 := Lib.hid (bT D4.out b5)
          have X5 := Lib.hid (bT X4.out b5)
          obtain ⟨hg5, h05⟩ := HGW.out _ X5.out
          have hl4 : w2.heap.size < w4.heap.size := (Array.getElem?_eq_some_iff.1 M4.out).1
          have M5 := (b5.block (w2.heap.size) hl4).trans M4.out
          obtain ⟨q0, q1, q2, q3, q4, qf, ql⟩ := cells5 M5
          have TK := Lib.hid (tak_any k.2.1 k.2.2 ob cb (.func fx fy fz) (ps.length : Int) w5)
          have WW := Lib.hid (W1.out k hc)
          clear b5 hl4 M5 M4 NB NB0 LK0 CO R0 W1 D4 X4 GC hc
          cases ha : ps.all numI
          · have HF := RN.out ha
            subst HF
            subst e5
            clear hv5 ha KX HGW RN RY TK WW
            go_wp2
            go_quiet (fail)
            go_wp2
            exact bodyPost_ret (v := .tuple #[.string ⟨#[]⟩, .slice none 0 0, .iface 340 (.pointer (some a))]) (by simp [results, Tryz.results8, go_sem]) rfl ⟨⟨_, _, _, rfl, fun h => (by cases h), fun _ => rfl⟩, below_drewN D5.out _⟩
          have HR := Lib.hid (RY.out ha)
          have ow := hv5 ha
          obtain ⟨sl, c, ev, iv⟩ := own_ints (zs := ps.map digv) (by rw [List.length_map]; exact ow)
          rw [List.length_map] at ev
          subst ev
          have CF : Hid (∀ W, Below w5.heap.size w5 W → Calls Tryz.prog 16 #[.slice sl ps.length c, TG] W fun e w' => e = .returned (.bool (!((ps.map digv).all okM))) ∧ Below W.heap.size W w') := fun W hW => by
            have := cog_any sl c (ps.map digv) W (by rw [List.length_map]; omega) (iv.below hW)
            rwa [List.length_map] at this
          clear e5 ow iv hv5 ha RN RY
          generalize (ps.map digv).all okM = oo at *
          rw [WW.out] at HR
          clear WW
          go_wp2_with fail
          refine TK.out.mono ?_
          rintro e w6 ⟨rfl, b6⟩
          have D6 := Lib.hid (bT D5.out b6)
          have X6 := Lib.hid (bT X5.out b6)
          have Y6 := Lib.hid b6
          obtain ⟨hg6, h06⟩ := HGW.out _ X6.out
          generalize tkB k.2.1 k.2.2 (ps.length : Int) = tk at *
          clear b6 hg5 h05 q0 q1 q2 q3 q4 qf ql TK
          cases tk
          · have HF : r = false := HR.out
            subst HF
            clear HR KX HGW CF
            go_wp2
            go_quiet (fail)
            go_wp2
            exact bodyPost_ret (v := .tuple #[.string ⟨#[]⟩, .slice none 0 0, .iface 340 (.pointer (some a))]) (by simp [results, Tryz.results8, go_sem]) rfl ⟨⟨_, _, _, rfl, fun h => (by cases h), fun _ => rfl⟩, below_drewN D6.out _⟩
          go_wp2_with fail
          refine (CF.out _ Y6.out).mono ?_
          rintro e w7 ⟨rfl, b7⟩
          have D7 := Lib.hid (bT D6.out b7)
          have X7 := Lib.hid (bT X6.out b7)
          obtain ⟨hg7, h07⟩ := HGW.out _ X7.out
          obtain ⟨gl7, gc7⟩ := KX.out _ X7.out
          clear b7 hg6 h06 CF KX HGW Y6
          cases oo
          · have HF : r = false := HR.out
            subst HF
            clear HR
            go_wp2
            go_quiet (fail)
            go_wp2
            exact bodyPost_ret (v := .tuple #[.string ⟨#[]⟩, .slice none 0 0, .iface 340 (.pointer (some a))]) (by simp [results, Tryz.results8, go_sem]) rfl ⟨⟨_, _, _, rfl, fun h => (by cases h), fun _ => rfl⟩, below_drewN D7.out _⟩
          · have HF : r = true := HR.out
            subst HF
            clear HR
            go_wp2
            exact bodyPost_ret (v := .tuple #[.string ⟨wd.toArray⟩, .slice sl ps.length c, .nilIface]) (by simp [results, Tryz.results8, go_sem]) rfl ⟨⟨_, _, _, rfl, fun _ => rfl, fun h => (by cases h)⟩, D7.out⟩
        · go_wp2_with fail
          refine (NB.out _ X4.out).mono ?_
          rintro e w5 ⟨v5, rfl, hv5, ⟨sl5, n5, c5, e5⟩, b5⟩
          have D5 := Lib.hid (bT D4.out b5)
          have X5 := Lib.hid (bT X4.out b5)
          obtain ⟨hg5, h05⟩ := HGW.out _ X5.out
          have hl4 : w2.heap.size < w4.heap.size := (Array.getElem?_eq_some_iff.1 M4.out).1
          have M5 := (b5.block (w2.heap.size) hl4).trans M4.out
          obtain ⟨q0, q1, q2, q3, q4, qf, ql⟩ := cells5 M5
          have TK := Lib.hid (tak_any k.2.1 k.2.2 ob cb (.func fx fy fz) (ps.length : Int) w5)
          have WW := Lib.hid (W1.out k hc)
          clear b5 hl4 M5 M4 NB NB0 LK0 CO R0 W1 D4 X4 GC hc
          cases ha : ps.all numI
          · have HF := RN.out ha
            subst HF
            subst e5
            clear hv5 ha KX HGW RN RY TK WW
            go_wp2
            go_quiet (fail)
            go_wp2
            exact bodyPost_ret (v := .tuple #[.string ⟨#[]⟩, .slice none 0 0, .iface 340 (.pointer (some a))]) (by simp [results, Tryz.results8, go_sem]) rfl ⟨⟨_, _, _, rfl, fun h => (by cases h), fun _ => rfl⟩, below_drewN D5.out _⟩
          have HR := Lib.hid (RY.out ha)
          have ow := hv5 ha
          obtain ⟨sl, c, ev, iv⟩ := own_ints (zs := ps.map digv) (by rw [List.length_map]; exact ow)
          rw [List.length_map] at ev
          subst ev
          have CF : Hid (∀ W, Below w5.heap.size w5 W → Calls Tryz.prog 16 #[.slice sl ps.length c, TG] W fun e w' => e = .returned (.bool (!((ps.map digv).all okM))) ∧ Below W.heap.size W w') := fun W hW => by
            have := cog_any sl c (ps.map digv) W (by rw [List.length_map]; omega) (iv.below hW)
            rwa [List.length_map] at this
          clear e5 ow iv hv5 ha RN RY
          generalize (ps.map digv).all okM = oo at *
          rw [WW.out] at HR
          clear WW
          go_wp2_with fail
          refine TK.out.mono ?_
          rintro e w6 ⟨rfl, b6⟩
          have D6 := Lib.hid (bT D5.out b6)
          have X6 := Lib.hid (bT X5.out b6)
          have Y6 := Lib.hid b6
          obtain ⟨hg6, h06⟩ := HGW.out _ X6.out
          generalize tkB k.2.1 k.2.2 (ps.length : Int) = tk at *
          clear b6 hg5 h05 q0 q1 q2 q3 q4 qf ql TK
          cases tk
          · have HF : r = false := HR.out
            subst HF
            clear HR KX HGW CF
            go_wp2
            go_quiet (fail)
            go_wp2
            exact bodyPost_ret (v := .tuple #[.string ⟨#[]⟩, .slice none 0 0, .iface 340 (.pointer (some a))]) (by simp [results, Tryz.results8, go_sem]) rfl ⟨⟨_, _, _, rfl, fun h => (by cases h), fun _ => rfl⟩, below_drewN D6.out _⟩
          go_wp2_with fail
          refine (CF.out _ Y6.out).mono ?_
          rintro e w7 ⟨rfl, b7⟩
          have D7 := Lib.hid (bT D6.out b7)
          have X7 := Lib.hid (bT X6.out b7)
          obtain ⟨hg7, h07⟩ := HGW.out _ X7.out
          obtain ⟨gl7, gc7⟩ := KX.out _ X7.out
          clear b7 hg6 h06 CF KX HGW Y6
          cases oo
          · have HF : r = false := HR.out
            subst HF
            clear HR
            go_wp2
            go_quiet (fail)
            go_wp2
            exact bodyPost_ret (v := .tuple #[.string ⟨#[]⟩, .slice none 0 0, .iface 340 (.pointer (some a))]) (by simp [results, Tryz.results8, go_sem]) rfl ⟨⟨_, _, _, rfl, fun h => (by cases h), fun _ => rfl⟩, below_drewN D7.out _⟩
          · have HF : r = true := HR.out
            subst HF
            clear HR
            go_wp2
            exact bodyPost_ret (v := .tuple #[.string ⟨wd.toArray⟩, .slice sl ps.length c, .nilIface]) (by simp [results, Tryz.results8, go_sem]) rfl ⟨⟨_, _, _, rfl, fun _ => rfl, fun h => (by cases h)⟩, D7.out⟩
    · go_simp
      refine hK.out _ _ ?_ (fun hHeld => ?_)
      · exact KX.out _ (bA (Below.refl w1.heap.size w1).drew (.cells #[.int .i64 0, .bool false, .bool false, .bool false, .nilFunc] 38))
      clear hK K
      refine wpAnyH_ready (rs := [0]) (by kernel_rfl) (by simp) ?_
      refine AllReadyH.cons rfl (fun K hK => ?_) AllReadyH.nil
      go_simp
      go_wp2_with (go_at_call 12; refine (CO.out _).mono ?_; rintro e w2 ⟨rfl, cm, b2⟩)
      have F2 : Hid (Below w1.heap.size w1 w2) := bT (bA (Below.refl w1.heap.size w1).drew (.cells #[.int .i64 0, .bool false, .bool false, .bool false, .nilFunc] 38)) b2
      have M2 : w2.heap[w1.heap.size]? = some (.cells #[.int .i64 0, .bool false, .bool false, .bool false, .nilFunc] 38) := (b2.block w1.heap.size (by simp [World.drew])).trans (heap_alloc_new w1.drew _)
      obtain ⟨q0, q1, q2, q3, q4, qf, ql⟩ := cells5 M2
      have cm2 : CM w2 (w1.heap.size + 1) cmdsL := by have := cm; simpa using this
      clear b2 cm
      refine hK.out _ _ ?_ (fun hHeld => ?_)
      · exact KX.out _ F2.out
      clear hK K
      obtain ⟨ob, cb, fx, fy, fz, LK⟩ := (LK0.out w2 _ wd cm2).2 k hc
      refine wpAnyH_ready (rs := [4]) (by kernel_rfl) (by simp) ?_
      refine AllReadyH.cons rfl (fun K hK => ?_) AllReadyH.nil
      go_simp
      refine hK.out _ _ ?_ (fun hHeld => ?_)
      · exact KX.out _ F2.out
      clear hK K
      clear LK cm2
      refine wpAnyH_take (i := 5) (oi := _) (v := ?_) rfl (by kernel_rfl) (by kernel_rfl) (by kernel_rfl) (fun _ _ _ h => h) (Or.inl ⟨by rfl, ?_⟩) (by assumption) ?_
      rotate_left
      · first | (intro w hSw; (try dsimp only at hSw); go_simp; done) | (intro w hSw; (try dsimp only at hSw); go_simp; with_reducible rfl)
      try simp only [Act.put, List.setIfInBounds_toArray, List.set_cons_zero, List.set_cons_succ, List.getElem_toArray, List.getElem_cons_succ, List.getElem_cons_zero]
      refine wpAnyH_take (i := 6) (oi := _) (v := ?_) rfl (by kernel_rfl) (by kernel_rfl) (by kernel_rfl) (fun _ _ _ h => h) (Or.inl ⟨by rfl, ?_⟩) (by assumption) ?_
      rotate_left
      · first | (intro w hSw; (try dsimp only at hSw); go_simp; done) | (intro w hSw; (try dsimp only at hSw); go_simp; with_reducible rfl)
      try simp only [Act.put, List.setIfInBounds_toArray, List.set_cons_zero, List.set_cons_succ, List.getElem_toArray, List.getElem_cons_succ, List.getElem_cons_zero]
      refine wpAnyH_take (i := 7) (oi := _) (v := ?_) rfl (by kernel_rfl) (by kernel_rfl) (by kernel_rfl) (fun _ _ _ h => h) (Or.inl ⟨by rfl, ?_⟩) (by assumption) ?_
      rotate_left
      · first | (intro w hSw; (try dsimp only at hSw); go_simp; done) | (intro w hSw; (try dsimp only at hSw); go_simp; with_reducible rfl)
      try simp only [Act.put, List.setIfInBounds_toArray, List.set_cons_zero, List.set_cons_succ, List.getElem_toArray, List.getElem_cons_succ, List.getElem_cons_zero]
      have X4 := Lib.hid (((((F2.out.setCell (p := ⟨w1.heap.size, 0, none⟩) (Nat.le_refl _) (.int .i64 k.2.1)).setCell (p := ⟨w1.heap.size, 1, none⟩) (Nat.le_refl _) (.bool k.2.2)).setCell (p := ⟨w1.heap.size, 2, none⟩) (Nat.le_refl _) (.bool ob)).setCell (p := ⟨w1.heap.size, 3, none⟩) (Nat.le_refl _) (.bool cb)).setCell (p := ⟨w1.heap.size, 4, none⟩) (Nat.le_refl _) (.func fx fy fz))
      have M4 := Lib.hid (show (((((w2.setCell ⟨w1.heap.size, 0, none⟩ (.int .i64 k.2.1)).setCell ⟨w1.heap.size, 1, none⟩ (.bool k.2.2)).setCell ⟨w1.heap.size, 2, none⟩ (.bool ob)).setCell ⟨w1.heap.size, 3, none⟩ (.bool cb)).setCell ⟨w1.heap.size, 4, none⟩ (.func fx fy fz)).heap[w1.heap.size]? = some (.cells #[.int .i64 k.2.1, .bool k.2.2, .bool ob, .bool cb, .func fx fy fz] 38) from set5 M2 (.int .i64 k.2.1) (.bool k.2.2) (.bool ob) (.bool cb) (.func fx fy fz))
      refine wpAnyH_ready (rs := [9]) (by kernel_rfl) (by simp) ?_
      refine AllReadyH.cons rfl (fun K hK => ?_) AllReadyH.nil
      go_simp
      refine hK.out _ _ ?_ (fun hHeld => ?_)
      · exact KX.out _ X4.out
      clear hK K
      refine wpAnyH_take (i := 10) (oi := _) (v := ?_) rfl (by kernel_rfl) (by kernel_rfl) (by kernel_rfl) (fun _ _ _ h => h) (Or.inl ⟨by rfl, ?_⟩) (by assumption) ?_
      rotate_left
      · first | (intro w hSw; (try dsimp only at hSw); go_simp; done) | (intro w hSw; (try dsimp only at hSw); go_simp; with_reducible rfl)
      try simp only [Act.put, List.setIfInBounds_toArray, List.set_cons_zero, List.set_cons_succ, List.getElem_toArray, List.getElem_cons_succ, List.getElem_cons_zero]
      refine wpAnyH_done (by kernel_rfl) ?_ _
      generalize (((((w2.setCell ⟨w1.heap.size, 0, none⟩ (.int .i64 k.2.1)).setCell ⟨w1.heap.size, 1, none⟩ (.bool k.2.2)).setCell ⟨w1.heap.size, 2, none⟩ (.bool ob)).setCell ⟨w1.heap.size, 3, none⟩ (.bool cb)).setCell ⟨w1.heap.size, 4, none⟩ (.func fx fy fz)) = w4 at *
      clear q0 q1 q2 q3 q4 qf ql M2
      have D4 := Lib.hid (bT D1.out X4.out)
      have e1 : (1 : Int) ≤ (ps.length : Int) + 1 := by omega
      by_cases hc1 : cap = 1
      · go_wp2_with fail
        refine (NB0.out hc1 _ X4.out).mono ?_
        rintro e w5 ⟨v5, rfl, hv5, ⟨sl5, n5, c5, e5⟩, b5⟩
        have D5 := Lib.hid (bT D4.out b5)
        have X5 := Lib.hid (bT X4.out b5)
        obtain ⟨hg5, h05⟩ := HGW.out _ X5.out
        have hl4 : w1.heap.size < w4.heap.size := (Array.getElem?_eq_some_iff.1 M4.out).1
        have M5 := (b5.block (w1.heap.size) hl4).trans M4.out
        obtain ⟨q0, q1, q2, q3, q4, qf, ql⟩ := cells5 M5
        have TK := Lib.hid (tak_any k.2.1 k.2.2 ob cb (.func fx fy fz) (ps.length : Int) w5)
        have WW := Lib.hid (W1.out k hc)
        clear b5 hl4 M5 M4 NB NB0 LK0 CO R0 W1 D4 X4 GC hc
        cases ha : ps.all numI
        · have HF := RN.out ha
          subst HF
          subst e5
          clear hv5 ha KX HGW RN RY TK WW
          go_wp2
          go_quiet (fail)
          go_wp2
          exact bodyPost_ret (v := .tuple #[.string ⟨#[]⟩, .slice none 0 0, .iface 340 (.pointer (some a))]) (by simp [results, Tryz.results8, go_sem]) rfl ⟨⟨_, _, _, rfl, fun h => (by cases h), fun _ => rfl⟩, below_drewN D5.out _⟩
        have HR := Lib.hid (RY.out ha)
        have ow := hv5 ha
        obtain ⟨sl, c, ev, iv⟩ := own_ints (zs := ps.map digv) (by rw [List.length_map]; exact ow)
        rw [List.length_map] at ev
        subst ev
        have CF : Hid (∀ W, Below w5.heap.size w5 W → Calls Tryz.prog 16 #[.slice sl ps.length c, TG] W fun e w' => e = .returned (.bool (!((ps.map digv).all okM))) ∧ Below W.heap.size W w') := fun W hW => by
          have := cog_any sl c (ps.map digv) W (by rw [List.length_map]; omega) (iv.below hW)
          rwa [List.length_map] at this
        clear e5 ow iv hv5 ha RN RY
        generalize (ps.map digv).all okM = oo at *
        rw [WW.out] at HR
        clear WW
        go_wp2_with fail
        refine TK.out.mono ?_
        rintro e w6 ⟨rfl, b6⟩
        have D6 := Lib.hid (bT D5.out b6)
        have X6 := Lib.hid (bT X5.out b6)
        have Y6 := Lib.hid b6
        obtain ⟨hg6, h06⟩ := HGW.out _ X6.out
        generalize tkB k.2.1 k.2.2 (ps.length : Int) = tk at *
        clear b6 hg5 h05 q0 q1 q2 q3 q4 qf ql TK
        cases tk
        · have HF : r = false := HR.out
          subst HF
          clear HR KX HGW CF
          go_wp2
          go_quiet (fail)
          go_wp2
          exact bodyPost_ret (v := .tuple #[.string ⟨#[]⟩, .slice none 0 0, .iface 340 (.pointer (some a))]) (by simp [results, Tryz.results8, go_sem]) rfl ⟨⟨_, _, _, rfl, fun h => (by cases h), fun _ => rfl⟩, below_drewN D6.out _⟩
        go_wp2_with fail
        refine (CF.out _ Y6.out).mono ?_
        rintro e w7 ⟨rfl, b7⟩
        have D7 := Lib.hid (bT D6.out b7)
        have X7 := Lib.hid (bT X6.out b7)
        obtain ⟨hg7, h07⟩ := HGW.out _ X7.out
        obtain ⟨gl7, gc7⟩ := KX.out _ X7.out
        clear b7 hg6 h06 CF KX HGW Y6
        cases oo
        · have HF : r = false := HR.out
          subst HF
          clear HR
          go_wp2
          go_quiet (fail)
          go_wp2
          exact bodyPost_ret (v := .tuple #[.string ⟨#[]⟩, .slice none 0 0, .iface 340 (.pointer (some a))]) (by simp [results, Tryz.results8, go_sem]) rfl ⟨⟨_, _, _, rfl, fun h => (by cases h), fun _ => rfl⟩, below_drewN D7.out _⟩
        · have HF : r = true := HR.out
          subst HF
          clear HR
          go_wp2
          exact bodyPost_ret (v := .tuple #[.string ⟨wd.toArray⟩, .slice sl ps.length c, .nilIface]) (by simp [results, Tryz.results8, go_sem]) rfl ⟨⟨_, _, _, rfl, fun _ => rfl, fun h => (by cases h)⟩, D7.out⟩
      · go_wp2_with fail
        refine (NB.out _ X4.out).mono ?_
        rintro e w5 ⟨v5, rfl, hv5, ⟨sl5, n5, c5, e5⟩, b5⟩
        have D5 := Lib.hid (bT D4.out b5)
        have X5 := Lib.hid (bT X4.out b5)
        obtain ⟨hg5, h05⟩ := HGW.out _ X5.out
        have hl4 : w1.heap.size < w4.heap.size := (Array.getElem?_eq_some_iff.1 M4.out).1
        have M5 := (b5.block (w1.heap.size) hl4).trans M4.out
        obtain ⟨q0, q1, q2, q3, q4, qf, ql⟩ := cells5 M5
        have TK := Lib.hid (tak_any k.2.1 k.2.2 ob cb (.func fx fy fz) (ps.length : Int) w5)
        have WW := Lib.hid (W1.out k hc)
        clear b5 hl4 M5 M4 NB NB0 LK0 CO R0 W1 D4 X4 GC hc
        cases ha : ps.all numI
        · have HF := RN.out ha
          subst HF
          subst e5
          clear hv5 ha KX HGW RN RY TK WW
          go_wp2
          go_quiet (fail)
          go_wp2
          exact bodyPost_ret (v := .tuple #[.string ⟨#[]⟩, .slice none 0 0, .iface 340 (.pointer (some a))]) (by simp [results, Tryz.results8, go_sem]) rfl ⟨⟨_, _, _, rfl, fun h => (by cases h), fun _ => rfl⟩, below_drewN D5.out _⟩
        have HR := Lib.hid (RY.out ha)
        have ow := hv5 ha
        obtain ⟨sl, c, ev, iv⟩ := own_ints (zs := ps.map digv) (by rw [List.length_map]; exact ow)
        rw [List.length_map] at ev
        subst ev
        have CF : Hid (∀ W, Below w5.heap.size w5 W → Calls Tryz.prog 16 #[.slice sl ps.length c, TG] W fun e w' => e = .returned (.bool (!((ps.map digv).all okM))) ∧ Below W.heap.size W w') := fun W hW => by
          have := cog_any sl c (ps.map digv) W (by rw [List.length_map]; omega) (iv.below hW)
          rwa [List.length_map] at this
        clear e5 ow iv hv5 ha RN RY
        generalize (ps.map digv).all okM = oo at *
        rw [WW.out] at HR
        clear WW
        go_wp2_with fail
        refine TK.out.mono ?_
        rintro e w6 ⟨rfl, b6⟩
        have D6 := Lib.hid (bT D5.out b6)
        have X6 := Lib.hid (bT X5.out b6)
        have Y6 := Lib.hid b6
        obtain ⟨hg6, h06⟩ := HGW.out _ X6.out
        generalize tkB k.2.1 k.2.2 (ps.length : Int) = tk at *
        clear b6 hg5 h05 q0 q1 q2 q3 q4 qf ql TK
        cases tk
        · have HF : r = false := HR.out
          subst HF
          clear HR KX HGW CF
          go_wp2
          go_quiet (fail)
          go_wp2
          exact bodyPost_ret (v := .tuple #[.string ⟨#[]⟩, .slice none 0 0, .iface 340 (.pointer (some a))]) (by simp [results, Tryz.results8, go_sem]) rfl ⟨⟨_, _, _, rfl, fun h => (by cases h), fun _ => rfl⟩, below_drewN D6.out _⟩
        go_wp2_with fail
        refine (CF.out _ Y6.out).mono ?_
        rintro e w7 ⟨rfl, b7⟩
        have D7 := Lib.hid (bT D6.out b7)
        have X7 := Lib.hid (bT X6.out b7)
        obtain ⟨hg7, h07⟩ := HGW.out _ X7.out
        obtain ⟨gl7, gc7⟩ := KX.out _ X7.out
        clear b7 hg6 h06 CF KX HGW Y6
        cases oo
        · have HF : r = false := HR.out
          subst HF
          clear HR
          go_wp2
          go_quiet (fail)
          go_wp2
          exact bodyPost_ret (v := .tuple #[.string ⟨#[]⟩, .slice none 0 0, .iface 340 (.pointer (some a))]) (by simp [results, Tryz.results8, go_sem]) rfl ⟨⟨_, _, _, rfl, fun h => (by cases h), fun _ => rfl⟩, below_drewN D7.out _⟩
        · have HF : r = true := HR.out
          subst HF
          clear HR
          go_wp2
          exact bodyPost_ret (v := .tuple #[.string ⟨wd.toArray⟩, .slice sl ps.length c, .nilIface]) (by simp [results, Tryz.results8, go_sem]) rfl ⟨⟨_, _, _, rfl, fun _ => rfl, fun h => (by cases h)⟩, D7.out⟩


end Go.Proofs.YtgblfippmjfpdaaGreatDoor
