/-
  A CNF READ BY THE PROGRAM: cnfIn.
-/
import Derived.Test.YtoncpiaboceefaaDoorGa
import Derived.Test.YtoncpiaboceefaaDoorGy
import Derived.Test.YtoncpiaboceefaaDoorGg
import Derived.Test.YtoncpiaboceefaaDoorFr
namespace Go.Proofs.YtoncpiaboceefaaDoor
open Go.RowKit
set_option linter.unusedVariables false

/-- A Cnf that goes right, or the line that is none. -/
def CiPost (s : ByteArray) (w : World) (e : Ending) (w' : World) : Prop :=
  (((readS s.data.toList).2.2.2 = true ∧ ∃ sl n cap cs, e = .returned (.tuple #[.agg #[.int .i64 (readS s.data.toList).1, .slice sl n cap], .nilIface]) ∧ bareC cs = (readS s.data.toList).2.1 ∧ n = cs.length ∧ OwC w' w.heap.size (.slice sl n cap) cs) ∨
   ((readS s.data.toList).2.2.2 = false ∧ ∃ v0, e = .returned (.tuple #[.agg #[.int .i64 v0, .slice none 0 0], .iface 136 (.agg #[.int .i64 ((readS s.data.toList).2.2.1 : Nat)])]))) ∧ Below w.heap.size w w'

set_option maxRecDepth 100000 in
set_option maxHeartbeats 2000000 in
theorem ci_pre (s : ByteArray) (w : World) (hs : s.size ≤ 20000) (hp : preP s = false) :
    Calls Tryd.prog 81 #[.string s] w fun e w' => CiPost s w e w' := by
  have hz1 : (w.alloc (.cells #[.int .i64 0, .slice none 0 0] 27)).heap.size = w.heap.size + 1 := by simp
  have S0 : Hid (ScAt ((w.alloc (.cells #[.int .i64 0, .slice none 0 0] 27)).alloc (.cells #[.string s, .int .i64 0, .int .i64 0] 140)) (w.heap.size + 1) s 0 0) := by
    have := new_at (w.alloc (.cells #[.int .i64 0, .slice none 0 0] 27)) (.cells #[.string s, .int .i64 0, .int .i64 0] 140)
    rw [hz1] at this
    exact this
  have Z0 : Hid (((w.alloc (.cells #[.int .i64 0, .slice none 0 0] 27)).alloc (.cells #[.string s, .int .i64 0, .int .i64 0] 140)).heap[w.heap.size]? = some (.cells #[.int .i64 0, .slice none 0 0] 27)) :=
    ((bA0 (w.alloc (.cells #[.int .i64 0, .slice none 0 0] 27)) (.cells #[.string s, .int .i64 0, .int .i64 0] 140)).block w.heap.size (by simp)).trans (new_at w _)
  have B0 : Hid (Below w.heap.size w ((w.alloc (.cells #[.int .i64 0, .slice none 0 0] 27)).alloc (.cells #[.string s, .int .i64 0, .int .i64 0] 140))) := bA (bA0 _ _) _
  have CP : Hid (Calls Tryd.prog 121 #[.string s, .string { data := #[112, 32, 99, 110, 102, 32] }] (w.alloc (.cells #[.int .i64 0, .slice none 0 0] 27)) fun e w' => e = .returned (.tuple #[.string s, .bool false]) ∧ w' = (w.alloc (.cells #[.int .i64 0, .slice none 0 0] 27))) := by
    have := cutp_any s (w.alloc (.cells #[.int .i64 0, .slice none 0 0] 27)) (by omega)
    rw [hp] at this
    exact this
  have FA := Lib.hid (fa_any (w.heap.size + 1) s 0 0 _ S0.out)
  have RS := Lib.hid (readS_pre s.data.toList (preP_no hp))
  have PN : Hid (∀ w', Below w.heap.size w w' → CiPost s w (.returned (.tuple #[.agg #[.int .i64 0, .slice none 0 0], .iface 136 (.agg #[.int .i64 0])])) w') := fun w' hb => ⟨.inr ⟨by rw [RS.out], 0, by rw [RS.out]; rfl⟩, hb⟩
  obtain ⟨c0, c1, cf, clt⟩ := cells2 Z0.out
  clear S0 RS
  go_enter Tryd.func81, Tryd.ntmps81
  go_wp2_with (first | (go_at_call 121; refine CP.out.mono ?_; rintro e w2 ⟨rfl, rfl⟩) | (go_at_call 122; refine FA.out.mono ?_; rintro e w2 ⟨rfl, rfl⟩))
  exact bodyPost_ret (v := .tuple #[.agg #[.int .i64 0, .slice none 0 0], .iface 136 (.agg #[.int .i64 0])]) (by simp [results, Tryd.results81, go_sem, c0, c1]) rfl (PN.out _ B0.out)

set_option maxRecDepth 100000 in
set_option maxHeartbeats 4000000 in
theorem ci_yes (s : ByteArray) (w : World) (hs : s.size ≤ 20000) (hp : preP s = true) :
    Calls Tryd.prog 81 #[.string s] w fun e w' => CiPost s w e w' := by
  obtain ⟨h6, hsp⟩ := preP_yes hp
  have hu : (s.extract 6 s.size).size ≤ 20000 := by simp; omega
  have CP : Hid (Calls Tryd.prog 121 #[.string s, .string { data := #[112, 32, 99, 110, 102, 32] }] (w.alloc (.cells #[.int .i64 0, .slice none 0 0] 27)) fun e w' => e = .returned (.tuple #[.string (s.extract 6 s.size), .bool true]) ∧ w' = (w.alloc (.cells #[.int .i64 0, .slice none 0 0] 27))) := by
    have := cutp_any s (w.alloc (.cells #[.int .i64 0, .slice none 0 0] 27)) (by omega)
    rw [hp] at this
    exact this
  generalize s.extract 6 s.size = u at *
  have hz1 : (w.alloc (.cells #[.int .i64 0, .slice none 0 0] 27)).heap.size = w.heap.size + 1 := by simp
  have hz2 : ((w.alloc (.cells #[.int .i64 0, .slice none 0 0] 27)).alloc (.cells #[.string u, .int .i64 0, .int .i64 0] 140)).heap.size = w.heap.size + 2 := by simp
  have S0 : Hid (ScAt ((w.alloc (.cells #[.int .i64 0, .slice none 0 0] 27)).alloc (.cells #[.string u, .int .i64 0, .int .i64 0] 140)) (w.heap.size + 1) u 0 0) := by
    have := new_at (w.alloc (.cells #[.int .i64 0, .slice none 0 0] 27)) (.cells #[.string u, .int .i64 0, .int .i64 0] 140)
    rw [hz1] at this
    exact this
  have Z0 : Hid (((w.alloc (.cells #[.int .i64 0, .slice none 0 0] 27)).alloc (.cells #[.string u, .int .i64 0, .int .i64 0] 140)).heap[w.heap.size]? = some (.cells #[.int .i64 0, .slice none 0 0] 27)) :=
    ((bA0 (w.alloc (.cells #[.int .i64 0, .slice none 0 0] 27)) (.cells #[.string u, .int .i64 0, .int .i64 0] 140)).block w.heap.size (by simp)).trans (new_at w _)
  have B0 : Hid (Below w.heap.size w ((w.alloc (.cells #[.int .i64 0, .slice none 0 0] 27)).alloc (.cells #[.string u, .int .i64 0, .int .i64 0] 140))) := bA (bA0 _ _) _
  have h96 : Tryd.prog.isIface 96 = true := by kernel_rfl
  have NU : Hid (Calls Tryd.prog 123 #[.pointer (some ⟨w.heap.size + 1, 0, none⟩), .func (.func 124) #[] #[]] ((w.alloc (.cells #[.int .i64 0, .slice none 0 0] 27)).alloc (.cells #[.string u, .int .i64 0, .int .i64 0] 140)) fun e w' => NumsPost ((w.alloc (.cells #[.int .i64 0, .slice none 0 0] 27)).alloc (.cells #[.string u, .int .i64 0, .int .i64 0] 140)) (w.heap.size + 1) u 0 (scan headB (3 * (u.size - 0) + 1) .word [] (lef u 0)) e w') := by
    refine nu2_any (w.heap.size + 1) 0 u 0 0 headB ((w.alloc (.cells #[.int .i64 0, .slice none 0 0] 27)).alloc (.cells #[.string u, .int .i64 0, .int .i64 0] 140)) S0.out (Nat.zero_le _) (by omega) ⟨by omega, by omega⟩ ?_
    intro W v zs hO hown hz1 hsm
    obtain ⟨g, cp, rfl, -, hg, hcp, hmx, hcell⟩ := own_cells hown (by omega)
    refine hr_any g cp zs W (by omega) hcp ⟨hg, fun i hi => ?_⟩
    rw [Nat.zero_add, hcell i hi]; simp [valsZ, hi]
  rw [lef_zero] at NU
  have HSP := Lib.hid hsp
  have hul : u.data.toList.length = u.size := by simp
  generalize hRES : scan headB (3 * (u.size - 0) + 1) .word [] u.data.toList = RES at *
  have HRES := Lib.hid hRES
  have PP := Lib.hid (fun e w' (h : CiPost s w e w') => h)
  clear hRES hsp hp S0
  go_enter Tryd.func81, Tryd.ntmps81
  go_wp2_with (go_at_call 121; refine CP.out.mono ?_; rintro e w2 ⟨rfl, rfl⟩)
  refine NU.out.mono ?_
  rintro e w5 (⟨ms, r, v5, p5, rfl, rfl, own5, s5, hl5, hp5, hm5, hsm, o5⟩ | ⟨rfl, rfl, ⟨p5, s5⟩, o5⟩)
  · obtain ⟨vr, m, rfl, hr, hRS⟩ := readS_yes HRES.out
    rw [← HSP.out] at hRS
    obtain ⟨many, rfl⟩ : ∃ k : Nat, m = k := ⟨m.toNat, by have := hr.2.1; omega⟩
    rw [Int.toNat_natCast] at hRS
    obtain ⟨g, cp, rfl, hgB, hg5, hcp, hmx, hcell⟩ := own_cells own5 (by simp)
    have x0 : w5.cell? ⟨g, 0, none⟩ = some (.int .i64 vr) := by rw [hcell 0 (by simp)]; rfl
    have x1 : w5.cell? ⟨g, 1, none⟩ = some (.int .i64 (many : Int)) := by rw [hcell 1 (by simp)]; rfl
    have KX : Hid (∀ W, Below w5.heap.size w5 W → W.cell? ⟨g, 0, none⟩ = some (.int .i64 vr) ∧ W.cell? ⟨g, 1, none⟩ = some (.int .i64 (many : Int)) ∧ g < W.heap.size) := fun W hW => ⟨(hW.cell hg5).trans x0, (hW.cell hg5).trans x1, Nat.lt_of_lt_of_le hg5 hW.size⟩
    have hcp2 : (2 : Int) ≤ (cp : Int) := by simp at hcp; omega
    have Z5 : Hid (w5.heap[w.heap.size]? = some (.cells #[.int .i64 0, .slice none 0 0] 27)) := (o5.block w.heap.size (by omega) (by omega)).trans Z0.out
    have B5 : Hid (Below w.heap.size w w5) := ⟨o5.os.trans B0.out.os, o5.tape.trans B0.out.tape, o5.output.trans B0.out.output, Nat.le_trans B0.out.size o5.size, fun k hk => (o5.block k (by omega) (by omega)).trans (B0.out.block k hk)⟩
    have S5 := Lib.hid s5
    have RS := Lib.hid hRS
    have HL5 := Lib.hid hl5
    have hw5 : w.heap.size + 2 ≤ w5.heap.size := by have := o5.size; omega
    clear own5 s5 hRS hl5 o5 hcell x0 x1 hsm hm5 NU HRES CP
    show _
    simp only [List.length_cons, List.length_nil] at *
    go_wp2_with fail
    refine wp_region_held_drew (S := fun W => W.cell? ⟨g, 0, none⟩ = some (.int .i64 vr) ∧ W.cell? ⟨g, 1, none⟩ = some (.int .i64 (many : Int)) ∧ g < W.heap.size) (by kernel_rfl) ?_ (fun hHeld => ?_)
    · exact KX.out _ (Below.refl _ _).drew
    refine wpAnyH_take (i := 0) (oi := _) (v := ?_) rfl (by kernel_rfl) (by kernel_rfl) (by kernel_rfl) (fun _ _ _ h => h) (Or.inl ⟨by rfl, ?_⟩) (by assumption) ?_
    rotate_left
    · first | (intro w hSw; (try dsimp only at hSw); go_simp; done) | (intro w hSw; (try dsimp only at hSw); go_simp; with_reducible rfl)
    try simp only [Act.put, List.setIfInBounds_toArray, List.set_cons_zero, List.set_cons_succ, List.getElem_toArray, List.getElem_cons_zero]
    refine wpAnyH_take (i := 1) (oi := _) (v := ?_) rfl (by kernel_rfl) (by kernel_rfl) (by kernel_rfl) (fun _ _ _ h => h) (Or.inl ⟨by rfl, ?_⟩) (by assumption) ?_
    rotate_left
    · first | (intro w hSw; (try dsimp only at hSw); go_simp; done) | (intro w hSw; (try dsimp only at hSw); go_simp; with_reducible rfl)
    try simp only [Act.put, List.setIfInBounds_toArray, List.set_cons_zero, List.set_cons_succ, List.getElem_toArray, List.getElem_cons_succ, List.getElem_cons_zero]
    refine wpAnyH_take (i := 2) (oi := _) (v := ?_) rfl (by kernel_rfl) (by kernel_rfl) (by kernel_rfl) (fun _ _ _ h => h) (Or.inl ⟨by rfl, ?_⟩) (by assumption) ?_
    rotate_left
    · first | (intro w hSw; (try dsimp only at hSw); go_simp; done) | (intro w hSw; (try dsimp only at hSw); go_simp; with_reducible rfl)
    try simp only [Act.put, List.setIfInBounds_toArray, List.set_cons_zero, List.set_cons_succ, List.getElem_toArray, List.getElem_cons_succ, List.getElem_cons_zero]
    refine wpAnyH_take (i := 3) (oi := _) (v := ?_) rfl (by kernel_rfl) (by kernel_rfl) (by kernel_rfl) (fun _ _ _ h => h) (Or.inl ⟨by rfl, ?_⟩) (by assumption) ?_
    rotate_left
    · first | (intro w hSw; (try dsimp only at hSw); go_simp; done) | (intro w hSw; (try dsimp only at hSw); go_simp; with_reducible rfl)
    try simp only [Act.put, List.setIfInBounds_toArray, List.set_cons_zero, List.set_cons_succ, List.getElem_toArray, List.getElem_cons_succ, List.getElem_cons_zero]
    refine wpAnyH_take (i := 4) (oi := _) (v := ?_) rfl (by kernel_rfl) (by kernel_rfl) (by kernel_rfl) (fun _ _ _ h => h) (Or.inl ⟨by rfl, ?_⟩) (by assumption) ?_
    rotate_left
    · first | (intro w hSw; (try dsimp only at hSw); go_simp; done) | (intro w hSw; (try dsimp only at hSw); go_simp; with_reducible rfl)
    try simp only [Act.put, List.setIfInBounds_toArray, List.set_cons_zero, List.set_cons_succ, List.getElem_toArray, List.getElem_cons_succ, List.getElem_cons_zero]
    refine wpAnyH_take (i := 5) (oi := _) (v := ?_) rfl (by kernel_rfl) (by kernel_rfl) (by kernel_rfl) (fun _ _ _ h => h) (Or.inl ⟨by rfl, ?_⟩) (by assumption) ?_
    rotate_left
    · first | (intro w hSw; (try dsimp only at hSw); go_simp; done) | (intro w hSw; (try dsimp only at hSw); go_simp; with_reducible rfl)
    try simp only [Act.put, List.setIfInBounds_toArray, List.set_cons_zero, List.set_cons_succ, List.getElem_toArray, List.getElem_cons_succ, List.getElem_cons_zero]
    refine wpAnyH_ready (rs := [6]) (by kernel_rfl) (by simp) ?_
    refine AllReadyH.cons rfl (fun K hK => ?_) AllReadyH.nil
    go_simp
    try go_wp2_with fail
    refine hK.out _ _ ?_ (fun hHeld => ?_)
    · exact KX.out _ (bA (Below.refl _ _).drew _)
    clear hK K
    refine wpAnyH_ready (rs := [7]) (by kernel_rfl) (by simp) ?_
    refine AllReadyH.cons rfl (fun K hK => ?_) AllReadyH.nil
    go_simp
    try go_wp2_with fail
    refine hK.out _ _ ?_ (fun hHeld => ?_)
    · exact KX.out _ (bA0 w5 _).drew
    clear hK K
    refine wpAnyH_take (i := 8) (oi := _) (v := ?_) rfl (by kernel_rfl) (by kernel_rfl) (by kernel_rfl) (fun _ _ _ h => h) (Or.inl ⟨by rfl, ?_⟩) (by assumption) ?_
    rotate_left
    · first | (intro w hSw; (try dsimp only at hSw); go_simp; done) | (intro w hSw; (try dsimp only at hSw); go_simp; with_reducible rfl)
    try simp only [Act.put, List.setIfInBounds_toArray, List.set_cons_zero, List.set_cons_succ, List.getElem_toArray, List.getElem_cons_succ, List.getElem_cons_zero]
    refine wpAnyH_done (by kernel_rfl) ?_ _
    have B6 : Hid (Below w5.heap.size w5 (w5.alloc (.cells #[.int .i64 vr] 2)).drew) := (bA0 w5 _).drew
    have V6 : Hid ((w5.alloc (.cells #[.int .i64 vr] 2)).drew.cell? ⟨w5.heap.size, 0, none⟩ = some (.int .i64 vr)) := by
      have := new_at w5 (.cells #[.int .i64 vr] 2)
      show (w5.alloc (.cells #[.int .i64 vr] 2)).cell? ⟨w5.heap.size, 0, none⟩ = _
      simp only [World.cell?, this]
      rfl
    have Z6 : Hid ((w5.alloc (.cells #[.int .i64 vr] 2)).drew.heap.size = w5.heap.size + 1) := by show _ = _; simp [World.drew]
    generalize (w5.alloc (.cells #[.int .i64 vr] 2)).drew = W6 at *
    have S6 : Hid (ScAt W6 (w.heap.size + 1) u p5 1) := by
      have := S5.out.below B6.out
      exact this
    have CL := Lib.hid (cl2_any w5.heap.size (w.heap.size + 1) p5 many vr u W6 S6.out hp5 hu (by have := hr.2.2; omega) hr.1.2 (by rw [Z6.out]; omega) (by omega) V6.out)
    rw [HL5.out] at CL
    clear S5 S6 HL5 KX hcp2
    go_wp2_with fail
    refine CL.out.mono ?_
    rintro e w7 ⟨hc, ho⟩
    have v7 : w7.cell? ⟨w5.heap.size, 0, none⟩ = some (.int .i64 vr) := (ho.cell (by rw [Z6.out]; omega) (by omega)).trans V6.out
    have Z7 : Hid (w7.heap[w.heap.size]? = some (.cells #[.int .i64 0, .slice none 0 0] 27)) := (ho.block w.heap.size (by rw [Z6.out]; omega) (by omega)).trans ((B6.out.block w.heap.size (by omega)).trans Z5.out)
    have B7 : Hid (Below w.heap.size w w7) := ⟨ho.os.trans (B6.out.os.trans B5.out.os), ho.tape.trans (B6.out.tape.trans B5.out.tape), ho.output.trans (B6.out.output.trans B5.out.output), Nat.le_trans (Nat.le_trans B5.out.size B6.out.size) ho.size, fun k hk => (ho.block k (by rw [Z6.out]; omega) (by omega)).trans ((B6.out.block k (by omega)).trans (B5.out.block k hk))⟩
    obtain ⟨c0, c1, cf, clt⟩ := cells2 Z7.out
    rw [Z6.out] at hc
    clear CL ho
    generalize specC vr many 0 [] (splitL 10 r) = RR at *
    rcases hc with ⟨hr1, v, cs, rfl, hb, hC⟩ | ⟨hr1, rfl⟩
    · obtain ⟨sl, cap, rfl⟩ := hC.v
      have hP := put2 Z7.out (.int .i64 vr) (.slice sl cs.length cap)
      obtain ⟨q0, q1, -, -⟩ := cells2 hP
      have O9 := Lib.hid (((OwC.setLow hC (b := w.heap.size) (by omega) 0 (.int .i64 vr)).setLow (b := w.heap.size) (by omega) 1 (.slice sl cs.length cap)).mono (B' := w.heap.size) (by omega))
      have B9 := Lib.hid ((B7.out.setCell (p := ⟨w.heap.size, 0, none⟩) (Nat.le_refl _) (.int .i64 vr)).setCell (p := ⟨w.heap.size, 1, none⟩) (Nat.le_refl _) (.slice sl cs.length cap))
      have HB := Lib.hid hb
      have HN : Hid (cs.length = cs.length) := rfl
      clear hP hC hb
      generalize hn : cs.length = n at *
      have HNN := Lib.hid hn
      clear hn
      go_wp2
      exact bodyPost_ret (v := .tuple #[.agg #[.int .i64 vr, .slice sl n cap], .nilIface]) (by simp [results, Tryd.results81, go_sem, q0, q1]) rfl ⟨.inl ⟨by rw [RS.out]; exact hr1, sl, n, cap, cs, by rw [RS.out], by rw [RS.out]; exact HB.out, HNN.out.symm, O9.out⟩, B9.out⟩
    · have hP := put2 Z7.out (.int .i64 vr) (.slice none 0 0)
      obtain ⟨q0, q1, -, -⟩ := cells2 hP
      have B9 := Lib.hid ((B7.out.setCell (p := ⟨w.heap.size, 0, none⟩) (Nat.le_refl _) (.int .i64 vr)).setCell (p := ⟨w.heap.size, 1, none⟩) (Nat.le_refl _) (.slice none 0 0))
      clear hP
      go_wp2
      exact bodyPost_ret (v := .tuple #[.agg #[.int .i64 vr, .slice none 0 0], .iface 136 (.agg #[.int .i64 (RR.2.1 : Nat)])]) (by simp [results, Tryd.results81, go_sem, q0, q1]) rfl ⟨.inr ⟨by rw [RS.out]; exact hr1, vr, by rw [RS.out]⟩, B9.out⟩
  · have RN := Lib.hid (readS_no (n := 3 * (u.size - 0) + 1) (by omega) HRES.out)
    rw [← HSP.out] at RN
    have Z5 : Hid (w5.heap[w.heap.size]? = some (.cells #[.int .i64 0, .slice none 0 0] 27)) := (o5.block w.heap.size (by omega) (by omega)).trans Z0.out
    have B5 : Hid (Below w.heap.size w w5) := ⟨o5.os.trans B0.out.os, o5.tape.trans B0.out.tape, o5.output.trans B0.out.output, Nat.le_trans B0.out.size o5.size, fun k hk => (o5.block k (by omega) (by omega)).trans (B0.out.block k hk)⟩
    obtain ⟨c0, c1, cf, clt⟩ := cells2 Z5.out
    have hP := put2 Z5.out (.int .i64 0) (.slice none 0 0)
    obtain ⟨q0, q1, -, -⟩ := cells2 hP
    have B9 := Lib.hid ((B5.out.setCell (p := ⟨w.heap.size, 0, none⟩) (Nat.le_refl _) (.int .i64 0)).setCell (p := ⟨w.heap.size, 1, none⟩) (Nat.le_refl _) (.slice none 0 0))
    clear s5 o5 NU hP
    go_wp2
    exact bodyPost_ret (v := .tuple #[.agg #[.int .i64 0, .slice none 0 0], .iface 136 (.agg #[.int .i64 0])]) (by simp [results, Tryd.results81, go_sem, q0, q1]) rfl ⟨.inr ⟨by rw [RN.out], 0, by rw [RN.out]; rfl⟩, B9.out⟩

theorem ci_any (s : ByteArray) (w : World) (hs : s.size ≤ 20000) :
    Calls Tryd.prog 81 #[.string s] w fun e w' => CiPost s w e w' := by
  cases hp : preP s with
  | true => exact ci_yes s w hs hp
  | false => exact ci_pre s w hs hp

end Go.Proofs.YtoncpiaboceefaaDoor
