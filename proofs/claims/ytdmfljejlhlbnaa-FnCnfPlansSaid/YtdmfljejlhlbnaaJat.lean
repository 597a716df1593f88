/-
  A TABLE, A TOP, A PLAN AND AN ID, DRAWN: DrawPlanAdd.
  A TABLE, A TOP AND A PLAN, DRAWN: l05Three, DrawTruesOf.
  A TABLE, A TOP AND A PLAN, DRAWN: DrawTruesOf.
  THE CLAUSES OF A TABLE as the program makes them: impl.CnfOf.
  CLAUSES MARKED AND HELD: markInt64SS, heldInt64SS, markCnf, heldCnf, over clauses that are owned.
  CLAUSES THAT GROW IN A BOX, as the model makes them; markCnf, heldCnf.
  THE CLAUSES BY THE VARIABLES, step by step.
  THE LAWS' CLAUSES copied into a Cnf; are clauses right? As both sides answer it.
  ARE CLAUSES RIGHT? The model's answer.
  IS A CLAUSE TRUE? impl.clauseTrue; is a number in a list? spec.l01Has.
-/
import Derived.Test.YtdmfljejlhlbnaaJar
import Derived.Test.YtdmfljejlhlbnaaJas
import Derived.Test.YtdmfljejlhlbnaaJaq
import Derived.Test.YtdmfljejlhlbnaaJap
import Derived.Test.YtdmfljejlhlbnaaJac
import Derived.Test.YtdmfljejlhlbnaaJao
import Derived.Test.YtdmfljejlhlbnaaJab
import Derived.BigQuiet
import Derived.OpenShut
namespace Go.Proofs.Ytdmfljejlhlbnaa
open Go.RowKit
set_option linter.unusedVariables false

/-- All but two blocks are as they were. -/
structure But2 (b r : Nat) (u v : World) : Prop where
  size : u.heap.size ≤ v.heap.size
  block : ∀ k, k < u.heap.size → k ≠ b → k ≠ r → v.heap[k]? = u.heap[k]?
theorem But2.of {b r : Nat} {u v : World} (h : Only b u v) : But2 b r u v := ⟨h.size, fun k hk hb _ => h.block k hk hb⟩
theorem But2.trans {b r : Nat} {u v w : World} (h : But2 b r u v) (g : But2 b r v w) : But2 b r u w := ⟨Nat.le_trans h.size g.size, fun k hk hb hr => (g.block k (Nat.lt_of_lt_of_le hk h.size) hb hr).trans (h.block k hk hb hr)⟩
theorem But2.set {b r : Nat} {u v : World} (h : But2 b r u v) (o : Nat) (x : Value) : But2 b r u (v.setCell ⟨r, o, none⟩ x) := ⟨by simpa [World.setCell] using h.size, fun k hk hb hr => (Below.heap_setCell _ _ _ _ (by show k ≠ r; omega)).trans (h.block k hk hb hr)⟩

end Go.Proofs.Ytdmfljejlhlbnaa
namespace Go.Proofs.Ytdmfljejlhlbnaa
open Go.RowKit
set_option linter.unusedVariables false

/-- What is drawn. -/
def DtPost (w : World) (e : Ending) (w' : World) : Prop :=
  ∃ (s1 : Option Addr) (c1 : Nat) (s2 : Option Addr) (c2 : Nat) (rs : List LSt) (ps : List LPr) (top : Int) (v : Value) (pl : List LPl), e = .returned (.tuple #[TV s1 rs.length c1 s2 ps.length c2, .int .i64 top, v]) ∧ rs.length ≤ 14 ∧ (∀ p ∈ ps, WfP p) ∧ Sts w' s1 rs ∧ Prs w' s2 ps ∧ pl.length ≤ 401 ∧ (∃ C, w.heap.size < C ∧ C ≤ w'.heap.size ∧ w'.ownsRow C 34 2 v pl.length (enCells pl)) ∧ (∀ W, w'.heap.size ≤ W.heap.size → (∀ k, w.heap.size < k → k < w'.heap.size → W.heap[k]? = w'.heap[k]?) → Sts W s1 rs ∧ Prs W s2 ps) ∧ Below w.heap.size w w'

set_option maxRecDepth 100000 in
set_option maxHeartbeats 8000000 in
/-- spec.l05Three. -/
theorem l3_any (sl : Option Addr) (len cap : Nat) (w : World) (hr : RowIn w sl len) :
    Calls Try.prog 79 #[.slice sl len cap] w fun e w' => DtPost w e w' := by
  have HS := Lib.hid (source_any sl len cap (w.alloc (.cells #[.slice none 0 0, .slice none 0 0] 26)) (hr.below (bA0 _ _)))
  have R0 := Lib.hid (new_at w (.cells #[.slice none 0 0, .slice none 0 0] 26))
  have B0 := Lib.hid (bA0 w (.cells #[.slice none 0 0, .slice none 0 0] 26))
  have hz : (w.alloc (.cells #[.slice none 0 0, .slice none 0 0] 26)).heap.size = w.heap.size + 1 := by simp
  clear hr
  go_enter Try.func79, Try.ntmps79
  go_wp2_with fail
  generalize w.alloc (.cells #[.slice none 0 0, .slice none 0 0] 26) = w0 at *
  refine HS.out.mono ?_
  rintro e w1 ⟨rfl, s1, b1⟩
  rw [hz] at s1 b1
  have T1 := Lib.hid (tab_any (w.heap.size + 1) w1 s1)
  have B1 := Lib.hid (B0.out.trans (b1.mono (by omega)))
  have R1 := Lib.hid ((b1.block w.heap.size (by omega)).trans R0.out)
  have h1z : w.heap.size + 1 < w1.heap.size := s1.lt
  clear s1 b1 HS R0 B0
  rw [hz]
  go_wp2_with fail
  refine T1.out.mono ?_
  rintro e w2 ⟨sl1, cap1, sl2, cap2, rs, ps, rfl, h1, h2, hw, sr, ho, hk⟩
  have R2 := Lib.hid ((ho.block w.heap.size (by omega) (by omega)).trans R1.out)
  have hs2 := ho.size
  have B2 : Hid (Below w.heap.size w w2) := ho.below B1.out (by omega)
  have SB3 := Lib.hid ((SrcB.of sr).below (bA0 w2 (.cells #[.slice sl1 rs.length cap1, .slice sl2 ps.length cap2] 26)))
  have N3 : Hid (Only (w.heap.size + 1) w2 (w2.alloc (.cells #[.slice sl1 rs.length cap1, .slice sl2 ps.length cap2] 26))) := Only.of_below (bA0 w2 (.cells #[.slice sl1 rs.length cap1, .slice sl2 ps.length cap2] 26))
  have K : Hid (∀ W, But2 (w.heap.size + 1) w.heap.size w2 W → Sts W sl1 rs ∧ Prs W sl2 ps) := fun W a => hk W a.size (fun k k1 k2 => a.block k k2 (by omega) (by omega))
  have TB := Lib.hid (TabAt.new w2 sl1 rs.length cap1 sl2 ps.length cap2)
  have LP : Hid (∀ top W, Only (w.heap.size + 1) w2 W → SrcB w2.heap.size W (w.heap.size + 1) → Calls Try.prog 66 #[.pointer (some ⟨w.heap.size + 1, 0, none⟩), TV sl1 rs.length cap1 sl2 ps.length cap2, .int .i64 top] W fun e w' => ∃ v pl, e = .returned v ∧ List.length pl ≤ 401 ∧ w'.ownsRow W.heap.size 34 2 v pl.length (enCells pl) ∧ SrcB w2.heap.size w' (w.heap.size + 1) ∧ Only (w.heap.size + 1) W w') := fun top W h1' h2' => lplan_any w2.heap.size (w.heap.size + 1) sl1 cap1 sl2 cap2 rs ps top W h1 h2' (fun W' h' => K.out W' (But2.of (h1'.trans h')))
  have HW := Lib.hid hw
  have HK := Lib.hid hk
  clear sr ho hk T1 R1 B1 hw
  generalize hN : rs.length = n at *
  have HN := Lib.hid hN
  clear hN
  generalize hMM : ps.length = m at *
  have HM := Lib.hid hMM
  clear hMM
  go_wp2_with fail
  generalize w2.alloc (.cells #[.slice sl1 n cap1, .slice sl2 m cap2] 26) = w3 at *
  refine (top_any w2.heap.size (w.heap.size + 1) w3 SB3.out).mono ?_
  rintro e w4 ⟨top, rfl, s4, o4⟩
  have N4 := Lib.hid (N3.out.trans o4)
  have T4 : Hid (TabAt w4 w2.heap.size sl1 n cap1 sl2 m cap2) := (o4.block w2.heap.size TB.out.lt (by omega)).trans TB.out
  have S4 : Hid (SrcB w2.heap.size w4.drew (w.heap.size + 1)) := ⟨s4.1, s4.2.1, s4.2.2⟩
  have N4d : Hid (Only (w.heap.size + 1) w2 w4.drew) := N4.out.drew
  have L4 := Lib.hid (LP.out top w4.drew N4d.out S4.out)
  have TX : Hid (∀ W, But2 (w.heap.size + 1) w.heap.size w4 W → w2.heap.size < W.heap.size ∧ W.cell? ⟨w2.heap.size, 0, none⟩ = some (.slice sl1 n cap1) ∧ W.cell? ⟨w2.heap.size, 1, none⟩ = some (.slice sl2 m cap2)) := fun W a => by
    have : TabAt W w2.heap.size sl1 n cap1 sl2 m cap2 := (a.block w2.heap.size T4.out.lt (by omega) (by omega)).trans T4.out
    exact ⟨this.lt, this.cells⟩
  have D4 : Hid (But2 (w.heap.size + 1) w.heap.size w4 w4.drew) := ⟨Nat.le_refl _, fun _ _ _ _ => rfl⟩
  have hs4 := N4.out.size
  clear s4 o4 N3 TB SB3 LP T4
  go_wp2_with fail
  refine wp_region_held_drew (S := fun W => w2.heap.size < W.heap.size ∧ W.cell? ⟨w2.heap.size, 0, none⟩ = some (.slice sl1 n cap1) ∧ W.cell? ⟨w2.heap.size, 1, none⟩ = some (.slice sl2 m cap2)) (by kernel_rfl) ?_ (fun hHeld => ?_)
  · exact TX.out _ D4.out
  refine wpAnyH_take (i := 0) (oi := _) (v := ?_) rfl (by kernel_rfl) (by kernel_rfl) (by kernel_rfl) (fun _ _ _ h => h) (Or.inl ⟨by rfl, ?_⟩) (by assumption) ?_
  rotate_left
  · first | (intro w hSw; (try dsimp only at hSw); go_simp; done) | (intro w hSw; (try dsimp only at hSw); go_simp; with_reducible rfl)
  try simp only [Act.put, List.setIfInBounds_toArray, List.set_cons_zero, List.set_cons_succ, List.getElem_toArray, List.getElem_cons_zero]
  refine wpAnyH_take (i := 1) (oi := _) (v := ?_) rfl (by kernel_rfl) (by kernel_rfl) (by kernel_rfl) (fun _ _ _ h => h) (Or.inl ⟨by rfl, ?_⟩) (by assumption) ?_
  rotate_left
  · first | (intro w hSw; (try dsimp only at hSw); go_simp; done) | (intro w hSw; (try dsimp only at hSw); go_simp; with_reducible rfl)
  try simp only [Act.put, List.setIfInBounds_toArray, List.set_cons_zero, List.set_cons_succ, List.getElem_toArray, List.getElem_cons_succ, List.getElem_cons_zero]
  refine wpAnyH_take (i := 2) (oi := _) (v := ?_) rfl (by kernel_rfl) (by kernel_rfl) (by kernel_rfl) (fun _ _ _ h => h) (Or.inl ⟨by rfl, ?_⟩) (by assumption) ?_
  rotate_left
  · first | (intro w hSw; (try dsimp only at hSw); go_simp; done) | (intro w hSw; (try dsimp only at hSw); go_simp; with_reducible rfl)
  try simp only [Act.put, List.setIfInBounds_toArray, List.set_cons_zero, List.set_cons_succ, List.getElem_toArray, List.getElem_cons_succ, List.getElem_cons_zero]
  refine wpAnyH_take (i := 3) (oi := _) (v := ?_) rfl (by kernel_rfl) (by kernel_rfl) (by kernel_rfl) (fun _ _ _ h => h) (Or.inl ⟨by rfl, ?_⟩) (by assumption) ?_
  rotate_left
  · first | (intro w hSw; (try dsimp only at hSw); go_simp; done) | (intro w hSw; (try dsimp only at hSw); go_simp; with_reducible rfl)
  try simp only [Act.put, List.setIfInBounds_toArray, List.set_cons_zero, List.set_cons_succ, List.getElem_toArray, List.getElem_cons_succ, List.getElem_cons_zero]
  refine wpAnyH_take (i := 4) (oi := _) (v := ?_) rfl (by kernel_rfl) (by kernel_rfl) (by kernel_rfl) (fun _ _ _ h => h) (Or.inl ⟨by rfl, ?_⟩) (by assumption) ?_
  rotate_left
  · first | (intro w hSw; (try dsimp only at hSw); go_simp; done) | (intro w hSw; (try dsimp only at hSw); go_simp; with_reducible rfl)
  try simp only [Act.put, List.setIfInBounds_toArray, List.set_cons_zero, List.set_cons_succ, List.getElem_toArray, List.getElem_cons_succ, List.getElem_cons_zero]
  refine wpAnyH_ready (rs := [5]) (by kernel_rfl) (by simp) ?_
  refine AllReadyH.cons rfl (fun K1 hK1 => ?_) AllReadyH.nil
  go_simp
  go_wp2_with (go_at_call 66; refine L4.out.mono ?_; rintro e w5 ⟨v, pl, rfl, hpl, o5, s5, n5⟩)
  have N5 := Lib.hid (N4d.out.trans n5)
  have D5 : Hid (But2 (w.heap.size + 1) w.heap.size w4 w5) := D4.out.trans (But2.of n5)
  have R5 : Hid (w5.heap[w.heap.size]? = some (.cells #[.slice none 0 0, .slice none 0 0] 26)) := (N5.out.block w.heap.size (by omega) (by omega)).trans R2.out
  obtain ⟨vs, vk, rfl⟩ := own_v o5
  have B5 : Hid (Below w.heap.size w w5) := N5.out.below B2.out (by omega)
  have hs45 : w4.heap.size ≤ w5.heap.size := n5.size
  have FIN : Hid (∀ W, But2 (w.heap.size + 1) w.heap.size w5 W → Below w.heap.size w W → DtPost w (.returned (.tuple #[TV sl1 n cap1 sl2 m cap2, .int .i64 top, .slice vs pl.length vk])) W) := fun W a bl => by
    obtain ⟨x1, x2⟩ := K.out W ((But2.of N5.out).trans a)
    refine ⟨sl1, cap1, sl2, cap2, rs, ps, top, .slice vs pl.length vk, pl, by rw [HN.out, HM.out], by rw [HN.out]; exact h1, HW.out, x1, x2, hpl, ⟨w4.heap.size, by omega, by have := a.size; omega, own_keep o5 (fun j hj => ?_)⟩, fun W' s' k' => HK.out W' (by have := N5.out.size; have := a.size; omega) (fun k k1 k2 => (k' k (by omega) (by have := N5.out.size; have := a.size; omega)).trans ((a.block k (by have := N5.out.size; omega) (by omega) (by omega)).trans (N5.out.block k k2 (by omega)))), bl⟩
    have hj1 : w4.heap.size ≤ j := own_base o5 hj
    have hj2 := (o5.lt j hj).2
    exact a.block j hj2 (by omega) (by omega)
  refine hK1.out _ _ ?_ (fun hHeld => ?_)
  · exact TX.out _ D5.out
  refine wpAnyH_ready (rs := [6]) (by kernel_rfl) (by simp) ?_
  refine AllReadyH.cons rfl (fun K2 hK2 => ?_) AllReadyH.nil
  have R7 := heap_setCell_same _ w.heap.size 1 _ 26 (.slice sl2 m cap2) (heap_setCell_same w5 w.heap.size 0 _ 26 (.slice sl1 n cap1) R5.out)
  have c0 : w5.cell? ⟨w.heap.size, 0, none⟩ = some (.slice none 0 0) := by simp [World.cell?, R5.out]
  have c1 : w5.cell? ⟨w.heap.size, 1, none⟩ = some (.slice none 0 0) := by simp [World.cell?, R5.out]
  have f0 : w5.frozen? ⟨w.heap.size, 0, none⟩ = false := by simp [World.frozen?, R5.out]
  have f1 : w5.frozen? ⟨w.heap.size, 1, none⟩ = false := by simp [World.frozen?, R5.out]
  have lt7 : w.heap.size < w5.heap.size := by omega
  have D7 := Lib.hid ((D5.out.set 0 (.slice sl1 n cap1)).set 1 (.slice sl2 m cap2))
  have e5 : ((w5.setCell ⟨w.heap.size, 0, none⟩ (.slice sl1 n cap1)).setCell ⟨w.heap.size, 1, none⟩ (.slice sl2 m cap2)).cell? ⟨w.heap.size, 0, none⟩ = some (.slice sl1 n cap1) := by simp [World.cell?, R7]
  have e6 : ((w5.setCell ⟨w.heap.size, 0, none⟩ (.slice sl1 n cap1)).setCell ⟨w.heap.size, 1, none⟩ (.slice sl2 m cap2)).cell? ⟨w.heap.size, 1, none⟩ = some (.slice sl2 m cap2) := by simp [World.cell?, R7]
  have P := Lib.hid (FIN.out ((w5.setCell ⟨w.heap.size, 0, none⟩ (.slice sl1 n cap1)).setCell ⟨w.heap.size, 1, none⟩ (.slice sl2 m cap2)) (((But2.of (Only.refl _ _)).set 0 _).set 1 _) ((B5.out.setCell (Nat.le_refl _) _).setCell (Nat.le_refl _) _))
  clear R7 FIN
  go_simp
  refine hK2.out _ _ ?_ (fun hHeld => ?_)
  · exact TX.out _ D7.out
  refine wpAnyH_take (i := 7) (oi := _) (v := ?_) rfl (by kernel_rfl) (by kernel_rfl) (by kernel_rfl) (fun _ _ _ h => h) (Or.inl ⟨by rfl, ?_⟩) (by assumption) ?_
  rotate_left
  · first | (intro w hSw; (try dsimp only at hSw); go_simp; done) | (intro w hSw; (try dsimp only at hSw); go_simp; with_reducible rfl)
  try simp only [Act.put, List.setIfInBounds_toArray, List.set_cons_zero, List.set_cons_succ, List.getElem_toArray, List.getElem_cons_succ, List.getElem_cons_zero]
  refine wpAnyH_take (i := 8) (oi := _) (v := ?_) rfl (by kernel_rfl) (by kernel_rfl) (by kernel_rfl) (fun _ _ _ h => h) (Or.inl ⟨by rfl, ?_⟩) (by assumption) ?_
  rotate_left
  · first | (intro w hSw; (try dsimp only at hSw); go_simp; done) | (intro w hSw; (try dsimp only at hSw); go_simp; with_reducible rfl)
  try simp only [Act.put, List.setIfInBounds_toArray, List.set_cons_zero, List.set_cons_succ, List.getElem_toArray, List.getElem_cons_succ, List.getElem_cons_zero]
  refine wpAnyH_done (by kernel_rfl) ?_ _
  clear TX D7
  go_wp2
  exact bodyPost_ret (v := .tuple #[.agg #[.slice sl1 n cap1, .slice sl2 m cap2], .int .i64 top, .slice vs pl.length vk]) (by simp [results, Try.results79, go_sem, e5, e6]) rfl P.out

end Go.Proofs.Ytdmfljejlhlbnaa
namespace Go.Proofs.Ytdmfljejlhlbnaa
open Go.RowKit
set_option linter.unusedVariables false

set_option maxRecDepth 100000 in
set_option maxHeartbeats 2000000 in
/-- spec.DrawTruesOf. -/
theorem dto_any (sl : Option Addr) (len cap : Nat) (w : World) (hr : RowIn w sl len) :
    Calls Try.prog 21 #[.slice sl len cap] w fun e w' => DtPost w e w' := by
  have HS := Lib.hid (l3_any sl len cap (w.alloc (.cells #[.slice none 0 0, .slice none 0 0] 26)) (hr.below (bA0 _ _)))
  have R0 := Lib.hid (new_at w (.cells #[.slice none 0 0, .slice none 0 0] 26))
  have B0 := Lib.hid (bA0 w (.cells #[.slice none 0 0, .slice none 0 0] 26))
  have hz : (w.alloc (.cells #[.slice none 0 0, .slice none 0 0] 26)).heap.size = w.heap.size + 1 := by simp
  clear hr
  go_enter Try.func21, Try.ntmps21
  go_wp2_with fail
  generalize w.alloc (.cells #[.slice none 0 0, .slice none 0 0] 26) = w0 at *
  refine HS.out.mono ?_
  rintro e w1 ⟨s1, c1, s2, c2, rs, ps, top, v, pl, rfl, h1, hw, hst, hpr, hpl, ⟨C, hC0, hC, ov⟩, hkk, b1⟩
  have R1 := Lib.hid ((b1.block w.heap.size (by omega)).trans R0.out)
  have B1 : Hid (Below w.heap.size w w1) := bT B0.out b1
  obtain ⟨vs, vk, rfl⟩ := own_v ov
  have hs1 := b1.size
  have c0 : w1.cell? ⟨w.heap.size, 0, none⟩ = some (.slice none 0 0) := by simp [World.cell?, R1.out]
  have c1' : w1.cell? ⟨w.heap.size, 1, none⟩ = some (.slice none 0 0) := by simp [World.cell?, R1.out]
  have f0 : w1.frozen? ⟨w.heap.size, 0, none⟩ = false := by simp [World.frozen?, R1.out]
  have f1 : w1.frozen? ⟨w.heap.size, 1, none⟩ = false := by simp [World.frozen?, R1.out]
  have lt1 : w.heap.size < w1.heap.size := by omega
  have R7 := heap_setCell_same _ w.heap.size 1 _ 26 (.slice s2 ps.length c2) (heap_setCell_same w1 w.heap.size 0 _ 26 (.slice s1 rs.length c1) R1.out)
  have e5 : ((w1.setCell ⟨w.heap.size, 0, none⟩ (.slice s1 rs.length c1)).setCell ⟨w.heap.size, 1, none⟩ (.slice s2 ps.length c2)).cell? ⟨w.heap.size, 0, none⟩ = some (.slice s1 rs.length c1) := by simp [World.cell?, R7]
  have e6 : ((w1.setCell ⟨w.heap.size, 0, none⟩ (.slice s1 rs.length c1)).setCell ⟨w.heap.size, 1, none⟩ (.slice s2 ps.length c2)).cell? ⟨w.heap.size, 1, none⟩ = some (.slice s2 ps.length c2) := by simp [World.cell?, R7]
  have P : Hid (DtPost w (.returned (.tuple #[TV s1 rs.length c1 s2 ps.length c2, .int .i64 top, .slice vs pl.length vk])) ((w1.setCell ⟨w.heap.size, 0, none⟩ (.slice s1 rs.length c1)).setCell ⟨w.heap.size, 1, none⟩ (.slice s2 ps.length c2))) := by
    have keep : ∀ k, k ≠ w.heap.size → ((w1.setCell ⟨w.heap.size, 0, none⟩ (.slice s1 rs.length c1)).setCell ⟨w.heap.size, 1, none⟩ (.slice s2 ps.length c2)).heap[k]? = w1.heap[k]? := fun k hk => (Below.heap_setCell _ _ _ _ hk).trans (Below.heap_setCell _ _ _ _ hk)
    have hsz : ((w1.setCell ⟨w.heap.size, 0, none⟩ (.slice s1 rs.length c1)).setCell ⟨w.heap.size, 1, none⟩ (.slice s2 ps.length c2)).heap.size = w1.heap.size := by simp [World.setCell]
    obtain ⟨x1, x2⟩ := hkk _ (by simp [World.setCell]) (fun k hk1 hk2 => keep k (by omega))
    refine ⟨s1, c1, s2, c2, rs, ps, top, .slice vs pl.length vk, pl, rfl, h1, hw, x1, x2, hpl, ⟨C, by omega, by simpa [World.setCell] using hC, own_keep ov (fun j hj => keep j (by have := own_base ov hj; omega))⟩, fun W s' k' => hkk W (by have := hsz; omega) (fun k hk1 hk2 => (k' k (by omega) (by omega)).trans (keep k (by omega))), (B1.out.setCell (Nat.le_refl _) _).setCell (Nat.le_refl _) _⟩
  clear R7 hst hpr hw ov hkk
  generalize rs.length = n at *
  generalize ps.length = m at *
  generalize pl.length = pn at *
  go_wp2
  exact bodyPost_ret (v := .tuple #[.agg #[.slice s1 n c1, .slice s2 m c2], .int .i64 top, .slice vs pn vk]) (by simp [results, Try.results21, go_sem, e5, e6]) rfl P.out

end Go.Proofs.Ytdmfljejlhlbnaa
namespace Go.Proofs.Ytdmfljejlhlbnaa
open Go.RowKit
set_option linter.unusedVariables false

/-- The result's box, before it is filled. -/
def BoxR (w : World) (b : Nat) : Prop := w.heap[b]? = some (.cells #[.int .i64 0, .slice none 0 0] 45)
theorem BoxR.facts {w : World} {b : Nat} (h : BoxR w b) : b < w.heap.size ∧ w.cell? ⟨b, 0, none⟩ = some (.int .i64 0) ∧ w.cell? ⟨b, 1, none⟩ = some (.slice none 0 0) ∧ w.frozen? ⟨b, 0, none⟩ = false ∧ w.frozen? ⟨b, 1, none⟩ = false := by
  unfold BoxR at h
  refine ⟨(Array.getElem?_eq_some_iff.1 h).1, ?_, ?_, ?_, ?_⟩ <;> simp [World.cell?, World.frozen?, h]

set_option maxRecDepth 100000 in
set_option maxHeartbeats 8000000 in
/-- impl.CnfOf. -/
theorem ico_any (sl : Option Addr) (cap : Nat) (sl2 : Option Addr) (cap2 : Nat) (sl3 : Option Addr) (cap3 : Nat) (rs : List LSt) (ps : List LPr) (top : Int) (ids : List Int) (w : World) (hn : rs.length ≤ 1048576) (hl : ids.length ≤ maxLen) (hz : Sts w sl rs) (hp : Prs w sl2 ps) (hw : ∀ p ∈ ps, WfP p) (hi : Ints w sl3 ids) :
    Calls Try.prog 25 #[TV sl rs.length cap sl2 ps.length cap2, .int .i64 top, .slice sl3 ids.length cap3] w fun e w' => ∃ v cs, e = .returned (.agg #[.int .i64 (cnN rs ps top ids : Nat), v]) ∧ OwC w' w.heap.size v cs ∧ bareC cs = cnA rs ps top ids ∧ Below w.heap.size w w' := by
  obtain ⟨i4, hi4, hd0, hd1, hd2⟩ := info_parts info40
  have E1 : Hid (∀ W, Below w.heap.size w W → Calls Try.prog 77 #[TV sl rs.length cap sl2 ps.length cap2, .slice sl3 ids.length cap3] W fun e w' => e = .returned (.bool (B (IdsR rs ps ids))) ∧ Below W.heap.size W w') := fun W hW => iir_any sl cap sl2 cap2 sl3 cap3 rs ps ids W hn hl (hz.below hW) (hp.below hW) hw (hi.below hW)
  have HT := Lib.hid ((TabAt.new w sl rs.length cap sl2 ps.length cap2).below (bA0 _ (.cells #[.int .i64 0, .slice none 0 0] 45)))
  have HR : Hid (BoxR ((w.alloc (.cells #[.slice sl rs.length cap, .slice sl2 ps.length cap2] 26)).alloc (.cells #[.int .i64 0, .slice none 0 0] 45)) (w.heap.size + 1)) := by
    have := new_at (w.alloc (.cells #[.slice sl rs.length cap, .slice sl2 ps.length cap2] 26)) (.cells #[.int .i64 0, .slice none 0 0] 45)
    rwa [show (w.alloc (.cells #[.slice sl rs.length cap, .slice sl2 ps.length cap2] 26)).heap.size = w.heap.size + 1 by simp] at this
  have B0 := Lib.hid (bA (bA0 w (.cells #[.slice sl rs.length cap, .slice sl2 ps.length cap2] 26)) (.cells #[.int .i64 0, .slice none 0 0] 45))
  have S0 : ((w.alloc (.cells #[.slice sl rs.length cap, .slice sl2 ps.length cap2] 26)).alloc (.cells #[.int .i64 0, .slice none 0 0] 45)).heap.size = w.heap.size + 2 := by simp
  by_cases hIR : IdsR rs ps ids
  · have IR := Lib.hid hIR
    rw [B_yes hIR] at E1
    have h400 : ids.length ≤ 400 := hIR.1
    have E2 := Lib.hid (fun W (hW : Below w.heap.size w W) => ch_any sl cap sl2 cap2 sl3 cap3 rs ps top ids W h400 (hz.below hW) hIR.2.1 (hi.below hW))
    have HP := Lib.hid hp
    have HI := Lib.hid hi
    have HW := Lib.hid hw
    have CN := Lib.hid (show cnN rs ps top ids = (plF rs top ids).length by unfold cnN; rw [if_pos (B_yes hIR)])
    have CA := Lib.hid (show cnA rs ps top ids = cnfI ps ids (nbsF 0 (ids.map (chF rs top))) by unfold cnA; rw [if_pos (B_yes hIR)])
    have PL := plF_le top ids hIR.2.1
    rw [CN.out]
    clear hIR hz hp hi hw CN
    generalize rs.length = rn at *
    generalize hPn : ps.length = pn at *
    have HPN := Lib.hid hPn
    clear hPn
    generalize hNi : ids.length = ni at *
    have HNI := Lib.hid hNi
    clear hNi
    go_enter Try.func25, Try.ntmps25
    go_wp2_with fail
    generalize (w.alloc (.cells #[.slice sl rn cap, .slice sl2 pn cap2] 26)).alloc (.cells #[.int .i64 0, .slice none 0 0] 45) = w0 at *
    refine (E1.out _ B0.out).mono ?_
    rintro e w1 ⟨rfl, b1⟩
    have D1 := Lib.hid b1
    have XT1 := HT.out.below b1
    obtain ⟨t0, t1⟩ := XT1.cells
    have tl := XT1.lt
    clear b1 XT1
    go_wp2_with fail
    refine (E2.out _ (bT B0.out D1.out)).mono ?_
    rintro e w2 ⟨bc, rows, rfl, hm, RW, b2⟩
    have HM := Lib.hid hm
    have RW2 := Lib.hid RW
    have D2 := Lib.hid (bT D1.out b2)
    have RL : rows.length = ni := by have := congrArg List.length hm; rw [List.length_map, List.length_map, HNI.out] at this; exact this
    have FR := Lib.hid (flatR_map hm)
    have hFL : (flatR rows).length ≤ 1048576 := by rw [FR.out]; omega
    have E3 := Lib.hid (vo_any (some ⟨bc, 0, none⟩) ni rows w2 (by omega) hFL RW)
    rw [RL] at E3
    clear hm RW b2 t0 t1 tl E1 E2
    go_wp2_with fail
    refine E3.out.mono ?_
    rintro e w3 ⟨vv, vs, rfl, OV, hbv, b3⟩
    have D3 := Lib.hid (bT D2.out b3)
    have RW3 := Lib.hid (RW2.out.below b3)
    have OV3 := Lib.hid (OV.mono (show w0.heap.size ≤ w2.heap.size from D2.out.size))
    have HBV := Lib.hid hbv
    have VL : vs.length = ni := by have := congrArg List.length hbv; rw [numR_len, RL] at this; simpa [bareC] using this
    obtain ⟨vsl, vcap, rfl⟩ := OV.v
    have V96 : Hid (∀ r ∈ vs, VarB r.2 ∧ r.2.length ≤ 96) := fun r hr => by
      have hm : r.2 ∈ numR rows := by rw [← hbv]; exact List.mem_map.2 ⟨r, hr, rfl⟩
      refine ⟨fun z hz => ?_, numR_row rows 96 (ch_96 top IR.out.2.1 HM.out) _ hm⟩
      have := numR_mem rows _ hm z hz
      omega
    clear OV hbv b3 RW2 E3 D1 D2
    rw [VL]
    obtain ⟨CV, hCV⟩ : ∃ c, c = vcap := ⟨_, rfl⟩
    go_wp2
    go_loopw [9, 25] (fun v i wr => ∃ (k : Nat) (ds : List LCl), i = .int .i64 k ∧ k ≤ ni ∧ Hid (OwC wr w3.heap.size v ds) ∧ ds.length ≤ k * 10000 ∧ Hid (bareC ds = ((bareC vs).take k).flatMap twoF) ∧ Hid (Below w3.heap.size w3 wr)) (fun _ i _ => ni - (intOf i).toNat)
    case atStart => exact ⟨0, [], rfl, Nat.zero_le _, OwC.nil _ _, Nat.zero_le _, rfl, Below.refl _ _⟩
    case round =>
      obtain ⟨k, ds, rfl, hk, OD, hdl, BD, HD⟩ := hrel
      have hk0 : (0 : Int) ≤ (k : Int) := by omega
      by_cases g1 : k < ni
      · have g1' : (k : Int) < (ni : Int) := by omega
        have hlt : k < vs.length := by rw [VL]; exact g1
        have OVr := OV3.out.below HD.out
        obtain ⟨sl9, cap9, e9, CL⟩ := OVr.cls
        obtain ⟨c, o, rfl, cl, hcs⟩ := CL.at hlt
        obtain ⟨rfl, rfl⟩ : vsl = some ⟨c, o, none⟩ ∧ vcap = cap9 := by cases e9; exact ⟨rfl, rfl⟩
        have hc := hcs k hlt
        have hro := OVr.each vs[k] (List.getElem_mem hlt)
        obtain ⟨s1, k1, v1, I1⟩ := own_ints hro
        rw [v1] at hc hro
        have hcap1 := own_cap hro
        obtain ⟨hVB, h96⟩ := V96.out vs[k] (List.getElem_mem hlt)
        have EN := Lib.hid (nt_any s1 k1 vs[k].2 wr (by omega) hcap1 hVB I1)
        have BS := Lib.hid (show ((bareC vs).take (k + 1)).flatMap twoF = bareC ds ++ twoF vs[k].2 by
          rw [fm_step twoF (bareC vs) k (by simpa [bareC] using hlt), BD.out]; simp [bareC])
        have T2 : (twoF vs[k].2).length ≤ 9216 := Nat.le_trans (twoF_len _) (Nat.mul_le_mul h96 h96)
        have T3 := Lib.hid (show ∀ es : List LCl, bareC es = twoF vs[k].2 → es.length ≤ 9216 from fun es he => by
          have := congrArg List.length he; rw [bareC, List.length_map] at this; omega)
        clear hcs hro v1 I1 hVB CL e9 BD OVr hcap1 T2
        generalize vs[k].2 = zs at *
        clear hlt
        generalize zs.length = nz at *
        obtain ⟨dsl, dcap, rfl⟩ := OD.out.v
        have hdc := own_cap OD.out.row
        go_wp2_with fail
        refine EN.out.mono ?_
        rintro e w4 ⟨v4, es, rfl, O4, be4, b4⟩
        have H4 := Lib.hid (bT HD.out b4)
        have OE := Lib.hid O4
        have les := T3.out es be4
        have BN : Hid (bareC (ds ++ es) = ((bareC vs).take (k + 1)).flatMap twoF) := by rw [BS.out, bareC_add, be4]; exact Lib.hid rfl
        have hs3 := HD.out.size
        obtain ⟨v9, w9, hr9, n9, grow9, hlo9⟩ := app43 OD.out b4 O4 hs3 (by omega)
        have N9 := Lib.hid n9
        have H9 := Lib.hid (H4.out.grown grow9 (by have := H4.out.size; omega) hlo9)
        have L9 : (ds ++ es).length ≤ (k + 1) * 10000 := by rw [List.length_append]; omega
        clear n9 grow9 hlo9 b4 O4 OE be4 EN OD HD H4
        generalize ds ++ es = ds9 at *
        go_wp2_with (at_builtin; refine Lib.wpList_append_run _ rfl _ _ _ _ rfl _ _ rfl rfl _ _ hr9 ?_)
        go_roundw
        case rel => exact ⟨k + 1, ds9, by go_num, by omega, N9, L9, BN, H9⟩
        case measure => simp [intOf]; omega
      · have g1' : ¬ (k : Int) < (ni : Int) := by omega
        have hdl4 : ds.length ≤ 4000000 := by omega
        have DA := Lib.hid (bT D3.out HD.out)
        have XT := HT.out.below DA.out
        obtain ⟨t0, t1⟩ := XT.cells
        have tl := XT.lt
        have hs3 := HD.out.size
        have hs0 := D3.out.size
        have BT := Lib.hid (show bareC ds = (numR rows).flatMap twoF by rw [BD.out, HBV.out, List.take_of_length_le (by rw [numR_len, RL]; omega)])
        obtain ⟨sl8, cap8, e8, CL8⟩ := (OV3.out.below HD.out).cls
        obtain ⟨rfl, rfl⟩ : vsl = sl8 ∧ vcap = cap8 := by cases e8; exact ⟨rfl, rfl⟩
        have E5 := Lib.hid (nb_any sl rn cap sl2 cap2 sl3 cap3 bc ni vsl vcap rs ps ids rows vs wr IR.out.2.1 (HP.out.below (bT B0.out DA.out)) HW.out (HI.out.below (bT B0.out DA.out)) (by rw [HNI.out]; exact h400) (idsR_rise IR.out) (by rw [RL, HNI.out]) (RW3.out.below HD.out) CL8 HBV.out (ch_small top IR.out HM.out) (fun r hr => (V96.out r hr).1) (ch_96 top IR.out.2.1 HM.out))
        rw [HPN.out, HNI.out, RL, VL] at E5
        obtain ⟨dsl, dcap, rfl⟩ := OD.out.v
        clear XT BD CL8 e8 hFL
        go_wp2_with fail
        refine E5.out.mono ?_
        rintro e w5 ⟨v5, es, rfl, O5, be5, les, b5⟩
        have H5 := Lib.hid (bT HD.out b5)
        obtain ⟨v6, w6, hr6, o6, grow6, hlo6⟩ := app43 OD.out b5 O5 hs3 (by omega)
        have O6 := Lib.hid o6
        have H6 := Lib.hid (H5.out.grown grow6 (by have := H5.out.size; omega) hlo6)
        have L6 : (ds ++ es).length ≤ 4400000 := by rw [List.length_append]; omega
        have B6 := Lib.hid (show bareC (ds ++ es) = (numR rows).flatMap twoF ++ ps.flatMap (besI ps ids (nbsF 0 (rows.map fun r => r.2))) by rw [bareC_add, BT.out, be5])
        clear o6 grow6 hlo6 b5 O5 be5 OD HD H5 BT E5 t0 t1 tl
        generalize ds ++ es = cs6 at *
        obtain ⟨s6, c6, rfl⟩ := O6.out.v
        obtain ⟨sl8, cap8, e8, CL8⟩ := (OV3.out.below H6.out).cls
        obtain ⟨rfl, rfl⟩ : vsl = sl8 ∧ vcap = cap8 := by cases e8; exact ⟨rfl, rfl⟩
        have FV := Lib.hid (show (flatC vs).length = (plF rs top ids).length by rw [flatC_bare, HBV.out, numR_flat, FR.out])
        have E7 := Lib.hid (catZ_any vsl vcap vs w6 (by omega) (by rw [FV.out]; omega) CL8)
        rw [VL, FV.out] at E7
        clear CL8 e8
        generalize hPF : (plF rs top ids).length = pf at *
        have HPF := Lib.hid hPF
        clear hPF
        go_wp2_with (first | (at_builtin; refine Lib.wpList_append_run _ rfl _ _ _ _ rfl _ _ rfl rfl _ _ hr6 ?_))
        refine E7.out.mono ?_
        rintro e w7 ⟨v7, rfl, o7, b7⟩
        obtain ⟨s7, c7, rfl⟩ := own_v o7
        have H7 := Lib.hid (bT H6.out b7)
        obtain ⟨v9, w9, hr9, o9, grow9, hlo9⟩ := app43 OV3.out H7.out (O6.out.below b7) hs0 (by omega)
        rw [VL] at hr9 grow9 hlo9
        obtain ⟨s9, c9, e9⟩ := o9.v
        generalize (vs ++ cs6).length = n9 at *
        subst e9
        have H9 := Lib.hid ((bT D3.out H7.out).grown grow9 (by have := (bT D3.out H7.out).size; omega) hlo9)
        obtain ⟨rl, r0, r1, f0, f1⟩ := BoxR.facts (show BoxR w9 (w.heap.size + 1) from (H9.out.block _ (by omega)).trans HR.out)
        have P : Hid (OwC ((w9.setCell ⟨w.heap.size + 1, 0, none⟩ (.int .i64 (pf : Nat))).setCell ⟨w.heap.size + 1, 1, none⟩ (.slice s9 n9 c9)) w.heap.size (.slice s9 n9 c9) (vs ++ cs6) ∧ bareC (vs ++ cs6) = cnA rs ps top ids ∧ Below w.heap.size w ((w9.setCell ⟨w.heap.size + 1, 0, none⟩ (.int .i64 (pf : Nat))).setCell ⟨w.heap.size + 1, 1, none⟩ (.slice s9 n9 c9))) := by
          refine ⟨((o9.set (by omega) _ _).set (by omega) _ _).mono (by omega), ?_, (((B0.out.trans (H9.out.mono (by omega)))).setCell (Nat.le_add_right _ 1) _).setCell (Nat.le_add_right _ 1) _⟩
          rw [bareC_add, B6.out, HBV.out, CA.out, HM.out]
          unfold cnfI numR
          rw [HM.out, List.flatMap_map]
        clear o9 grow9 hlo9 b7 o7 E7 H9 H7 O6 H6 OV3
        go_wp2_with (first | (at_builtin; refine Lib.wpList_append_run _ rfl _ _ _ _ rfl _ _ rfl rfl _ _ hr9 ?_))
        refine bodyPost_ret (v := .agg #[.int .i64 (pf : Nat), .slice s9 n9 c9]) (by simp [results, Try.results25, go_sem, r0, r1]) rfl ⟨_, vs ++ cs6, by rw [HPF.out], P.out⟩
  · rw [B_no hIR] at E1
    have CN := Lib.hid (show cnN rs ps top ids = 0 by unfold cnN; rw [if_neg (by rw [B_no hIR]; simp)])
    have CA := Lib.hid (show cnA rs ps top ids = [] by unfold cnA; rw [if_neg (by rw [B_no hIR]; simp)])
    rw [CN.out, CA.out]
    clear hIR hz hp hi hw CN CA
    generalize rs.length = rn at *
    generalize ps.length = pn at *
    generalize ids.length = ni at *
    go_enter Try.func25, Try.ntmps25
    go_wp2_with fail
    generalize (w.alloc (.cells #[.slice sl rn cap, .slice sl2 pn cap2] 26)).alloc (.cells #[.int .i64 0, .slice none 0 0] 45) = w0 at *
    refine (E1.out _ B0.out).mono ?_
    rintro e w1 ⟨rfl, b1⟩
    have D1 := Lib.hid (bT B0.out b1)
    obtain ⟨rl, r0, r1, f0, f1⟩ := BoxR.facts (show BoxR w1 (w.heap.size + 1) from (b1.block _ (by omega)).trans HR.out)
    have P : Hid (Below w.heap.size w ((w1.setCell ⟨w.heap.size + 1, 0, none⟩ (.int .i64 0)).setCell ⟨w.heap.size + 1, 1, none⟩ (.slice none 0 0))) := (D1.out.setCell (Nat.le_add_right _ 1) _).setCell (Nat.le_add_right _ 1) _
    clear b1 E1 HT HR
    go_wp2
    refine bodyPost_ret (v := .agg #[.int .i64 0, .slice none 0 0]) (by simp [results, Try.results25, go_sem, r0, r1]) rfl ⟨_, [], rfl, OwC.nil _ _, rfl, P.out⟩
end Go.Proofs.Ytdmfljejlhlbnaa
namespace Go.Proofs.Ytdmfljejlhlbnaa
open Go.RowKit
set_option linter.unusedVariables false

/-- One row of them written over. -/
theorem OwC.over {w w' : World} {B : Nat} {v : Value} {ps ss : List LCl} {r : LCl} {zs : List Int} (h : OwC w B v (ps ++ r :: ss)) (hg : w.grownBy w' r.1.ownBlock) (hz : zs.length = r.2.length) (hr : w'.ownsRow B 2 1 r.1 zs.length (valsZ zs)) : OwC w' B v (ps ++ (r.1, zs) :: ss) := by
  have hp := List.pairwise_append.1 h.diff
  have hc := List.pairwise_cons.1 hp.2.1
  have hro := h.each r (by simp)
  refine ⟨?_, fun s hs => ?_, ?_⟩
  · have e1 : hdC (ps ++ (r.1, zs) :: ss) = hdC (ps ++ r :: ss) := by simp [hdC]
    have e2 : (ps ++ (r.1, zs) :: ss).length = (ps ++ r :: ss).length := by simp
    rw [e1, e2]
    exact h.row.kept hg (own_diff h.row hro (by decide))
  · rcases List.mem_append.1 hs with hs | hs
    · exact (h.each s (by simp [hs])).kept hg (hp.2.2 s hs r (by simp))
    · rcases List.mem_cons.1 hs with rfl | hs
      · exact hr
      · refine (h.each s (by simp [hs])).kept hg ?_
        rcases hc.1 s hs with e | e
        · rw [e]; cases s.1.ownBlock <;> simp
        · exact .inr (fun e2 => e e2.symm)
  · refine List.pairwise_append.2 ⟨hp.1, List.pairwise_cons.2 ⟨fun s hs => hc.1 s hs, hc.2⟩, fun a ha b hb => ?_⟩
    rcases List.mem_cons.1 hb with rfl | hb
    · exact hp.2.2 a ha r (by simp)
    · exact hp.2.2 a ha b (by simp [hb])

end Go.Proofs.Ytdmfljejlhlbnaa
namespace Go.Proofs.Ytdmfljejlhlbnaa
open Go.RowKit
set_option linter.unusedVariables false

/-- The clauses stand in the box bx; below wB nothing else has turned. -/
structure SpS (w wB : World) (bx : Nat) (nv : Int) (wq : World) (v : Value) (cs : List LCl) : Prop where
  h1 : w.heap.size ≤ bx
  h2 : bx < wB.heap.size
  box : wq.heap[bx]? = some (.cells #[.int .i64 nv, v] 45)
  own : OwC wq wB.heap.size v cs
  kp : Kp1 bx wB.heap.size wB wq
  bel : Below w.heap.size w wq
theorem SpS.lt {w wB wq : World} {bx : Nat} {nv : Int} {v : Value} {cs : List LCl} (h : SpS w wB bx nv wq v cs) : bx < wq.heap.size := (Array.getElem?_eq_some_iff.1 h.box).1
theorem SpS.le {w wB wq : World} {bx : Nat} {nv : Int} {v : Value} {cs : List LCl} (h : SpS w wB bx nv wq v cs) : wB.heap.size ≤ wq.heap.size := h.kp.1
theorem SpS.cell {w wB wq : World} {bx : Nat} {nv : Int} {v : Value} {cs : List LCl} (h : SpS w wB bx nv wq v cs) : wq.cell? ⟨bx, 0, none⟩ = some (.int .i64 nv) ∧ wq.cell? ⟨bx, 1, none⟩ = some v ∧ wq.frozen? ⟨bx, 1, none⟩ = false := by
  have := h.box
  refine ⟨?_, ?_, ?_⟩ <;> simp [World.cell?, World.frozen?, this]
theorem SpS.below {w wB wq wq' : World} {bx : Nat} {nv : Int} {v : Value} {cs : List LCl} (h : SpS w wB bx nv wq v cs) (hb : Below wq.heap.size wq wq') : SpS w wB bx nv wq' v cs :=
  ⟨h.h1, h.h2, (hb.block bx h.lt).trans h.box, h.own.below hb, h.kp.trans (Kp1.of (hb.mono h.le)), bT h.bel hb⟩
theorem SpS.drew {w wB wq : World} {bx : Nat} {nv : Int} {v : Value} {cs : List LCl} (h : SpS w wB bx nv wq v cs) : SpS w wB bx nv wq.drew v cs := h.below (Below.refl _ _).drew
/-- What stands below, but the box, stays. -/
theorem SpS.old {w wB wq : World} {bx : Nat} {nv : Int} {v : Value} {cs : List LCl} (h : SpS w wB bx nv wq v cs) {c : Nat} (hc : c < wB.heap.size) (hb : c ≠ bx) (o : Nat) : c < wq.heap.size ∧ wq.cell? ⟨c, o, none⟩ = wB.cell? ⟨c, o, none⟩ := ⟨Nat.lt_of_lt_of_le hc h.le, h.kp.cell hc hb⟩
theorem SpS.far {w wB wq wa w9 : World} {bx : Nat} {nv : Int} {v : Value} {cs : List LCl} (h : SpS w wB bx nv wq v cs) (hb : Below wq.heap.size wq wa) (hg : wa.grownBy w9 v.ownBlock) : w9.heap[bx]? = some (.cells #[.int .i64 nv, v] 45) := blk_kept h.own h.box (by decide) hb hg
/-- The world behind the append, before the store. -/
theorem SpS.mid {w wB wq wa w9 : World} {bx : Nat} {nv : Int} {v : Value} {cs : List LCl} (h : SpS w wB bx nv wq v cs) (hb : Below wq.heap.size wq wa) (hg : wa.grownBy w9 v.ownBlock) : bx < w9.heap.size ∧ w9.cell? ⟨bx, 1, none⟩ = some v ∧ w9.frozen? ⟨bx, 1, none⟩ = false := by
  have e := h.far hb hg
  refine ⟨(Array.getElem?_eq_some_iff.1 e).1, ?_, ?_⟩ <;> simp [World.cell?, World.frozen?, e]
theorem SpS.add {w wB wq wa w9 : World} {bx : Nat} {nv : Int} {v v9 : Value} {cs : List LCl} {r : LCl} (h : SpS w wB bx nv wq v cs) (hb : Below wq.heap.size wq wa) (hr : wa.ownsRow wB.heap.size 2 1 r.1 r.2.length (valsZ r.2)) (hf : ∀ j, r.1.ownBlock = some j → wq.heap.size ≤ j) (hg : wa.grownBy w9 v.ownBlock) (own9 : w9.ownsRow wB.heap.size 40 1 v9 (cs.length + 1) (hdC cs ++ [r.1])) : SpS w wB bx nv (w9.setCell ⟨bx, 1, none⟩ v9) v9 (cs ++ [r]) := by
  have hlo : ∀ j, v.ownBlock = some j → wB.heap.size ≤ j := fun j hj => (h.own.row.lt j hj).1
  have hs := h.le
  have hs2 := hb.size
  have hw := h.bel.size
  have b9 : Below wB.heap.size wa w9 := (Below.refl _ _).grown hg (by omega) hlo
  refine ⟨h.h1, h.h2, ?_, (h.own.new hb hr hf hg own9).set h.h2 _ _, ?_, ?_⟩
  · exact heap_setCell_same w9 bx 1 _ 45 v9 (h.far hb hg)
  · exact (((h.kp.trans (Kp1.of (hb.mono h.le))).trans (Kp1.of b9))).set 1 v9
  · exact (((bT h.bel hb).grown hg (by omega) (fun j hj => by have := hlo j hj; have := h.h1; have := h.h2; omega))).setCell h.h1 _
/-- Another block made since stays, too. -/
theorem SpS.blk {w wB wq wa w9 : World} {bx : Nat} {nv : Int} {v v9 : Value} {cs : List LCl} (h : SpS w wB bx nv wq v cs) (hb : Below wq.heap.size wq wa) (hg : wa.grownBy w9 v.ownBlock) {b : Nat} {us : Array Value} {t : TypeId} (hh : wq.heap[b]? = some (.cells us t)) (ht : t ≠ 40) (hne : b ≠ bx) : (w9.setCell ⟨bx, 1, none⟩ v9).heap[b]? = some (.cells us t) :=
  (Below.heap_setCell _ _ _ _ hne).trans (blk_kept h.own hh ht hb hg)
theorem SpS.v {w wB wq : World} {bx : Nat} {nv : Int} {v : Value} {cs : List LCl} (h : SpS w wB bx nv wq v cs) : ∃ sl cap, v = .slice sl cs.length cap := h.own.v

end Go.Proofs.Ytdmfljejlhlbnaa
namespace Go.Proofs.Ytdmfljejlhlbnaa
open Go.RowKit
set_option linter.unusedVariables false

def ownL (id : Int) (V : List LPl) (m : Nat) : List Int := (ofId id ((nbF 0 V).take m)).map fun e => e.2
def ownA (V : List LPl) (id : Int) : List Int := (ofId id (nbF 0 V)).map fun e => e.2
theorem nb_take (V : List LPl) (m : Nat) (h : m < V.length) : (nbF 0 V).take (m + 1) = (nbF 0 V).take m ++ [(V[m], (m : Int) + 1)] := by
  have hl : m < (nbF 0 V).length := by rw [nbF_len]; exact h
  rw [List.take_succ_eq_append_getElem hl, nbF_at V 0 m h]
  simp
theorem ofId_one (id : Int) (e : LNb) : ofId id [e] = if e.1.1 = id then [e] else [] := by
  by_cases h : e.1.1 = id <;> simp [ofId, h]
theorem ownL_step (id : Int) (V : List LPl) (m : Nat) (h : m < V.length) : ownL id V (m + 1) = ownL id V m ++ if V[m].1 = id then [(m : Int) + 1] else [] := by
  unfold ownL
  rw [nb_take V m h, ofId_append, List.map_append, ofId_one]
  by_cases h : V[m].1 = id <;> simp [h]
theorem ownL_zero (id : Int) (V : List LPl) : ownL id V 0 = [] := by simp [ownL, ofId]
theorem ownL_all (id : Int) (V : List LPl) (m : Nat) (h : V.length ≤ m) : ownL id V m = ownA V id := by
  unfold ownL ownA; rw [List.take_of_length_le (by rw [nbF_len]; exact h)]
/-- The clauses of variable a, with the next m. -/
def twoL (V : List LPl) (a m : Nat) (x : Int) : List (List Int) := (ofId x (((nbF 0 V).drop (a + 1)).take m)).map fun y => [-(a : Int) - 1, -y.2]
theorem twoL_zero (V : List LPl) (a : Nat) (x : Int) : twoL V a 0 x = [] := by simp [twoL, ofId]
theorem twoL_step (V : List LPl) (a m : Nat) (x : Int) (h : a + 1 + m < V.length) : twoL V a (m + 1) x = twoL V a m x ++ if V[a + 1 + m].1 = x then [[-(a : Int) - 1, -((a + 1 + m : Nat) : Int) - 1]] else [] := by
  unfold twoL
  have hl : m < ((nbF 0 V).drop (a + 1)).length := by rw [List.length_drop, nbF_len]; omega
  rw [List.take_succ_eq_append_getElem hl, ofId_append, List.map_append, List.getElem_drop, nbF_at V 0 (a + 1 + m) h, ofId_one]
  by_cases g : V[a + 1 + m].1 = x
  · simp [g]; omega
  · simp [g]
theorem twoL_step' (V : List LPl) (a b : Nat) (x : Int) (h1 : a + 1 ≤ b) (h : b < V.length) : twoL V a (b + 1 - (a + 1)) x = twoL V a (b - (a + 1)) x ++ if V[b].1 = x then [[-(a : Int) - 1, -(b : Int) - 1]] else [] := by
  obtain ⟨m, rfl⟩ := Nat.exists_eq_add_of_le h1
  have := twoL_step V a m x h
  rw [show a + 1 + m + 1 - (a + 1) = m + 1 by omega, show a + 1 + m - (a + 1) = m by omega]
  exact this
theorem twoS_at (V : List LPl) (a : Nat) (h : a < V.length) (m : Nat) (hm : V.length ≤ a + 1 + m) : twoS ((nbF 0 V).drop a) = twoL V a m V[a].1 ++ twoS ((nbF 0 V).drop (a + 1)) := by
  have hl : a < (nbF 0 V).length := by rw [nbF_len]; exact h
  rw [← List.getElem_cons_drop (h := hl), twoS, nbF_at V 0 a h]
  unfold twoL
  rw [List.take_of_length_le (by rw [List.length_drop, nbF_len]; omega)]
  congr 1
  refine List.map_congr_left fun y _ => ?_
  simp; omega
/-- Two variables and a pair. -/
def besY (ps : List LPr) (p : LPr) (a : Nat) (x : LPl) (b : Nat) (y : LPl) : List (List Int) := if x.1 = p.1 ∧ y.1 = p.2.1 ∧ mayL ps p.1 x.2 p.2.1 y.2 = false then [[-(a : Int) - 1, -(b : Int) - 1]] else []
def besL (ps : List LPr) (p : LPr) (V : List LPl) (a : Nat) (x : LPl) (m : Nat) : List (List Int) := ((nbF 0 V).take m).flatMap fun y => if x.1 = p.1 ∧ y.1.1 = p.2.1 ∧ mayL ps p.1 x.2 p.2.1 y.1.2 = false then [[-(a : Int) - 1, -y.2]] else []
theorem besL_zero (ps : List LPr) (p : LPr) (V : List LPl) (a : Nat) (x : LPl) : besL ps p V a x 0 = [] := by simp [besL]
theorem besL_step (ps : List LPr) (p : LPr) (V : List LPl) (a : Nat) (x : LPl) (m : Nat) (h : m < V.length) : besL ps p V a x (m + 1) = besL ps p V a x m ++ besY ps p a x m V[m] := by
  unfold besL
  rw [nb_take V m h, List.flatMap_append]
  congr 1
  unfold besY
  by_cases g : x.1 = p.1 ∧ V[m].1 = p.2.1 ∧ mayL ps p.1 x.2 p.2.1 V[m].2 = false
  · simp [g]; omega
  · simp [g]
def besK (ps : List LPr) (p : LPr) (V : List LPl) (a : Nat) : List (List Int) := ((nbF 0 V).take a).flatMap fun x => (nbF 0 V).flatMap fun y => if x.1.1 = p.1 ∧ y.1.1 = p.2.1 ∧ mayL ps p.1 x.1.2 p.2.1 y.1.2 = false then [[-x.2, -y.2]] else []
theorem besK_zero (ps : List LPr) (p : LPr) (V : List LPl) : besK ps p V 0 = [] := by simp [besK]
theorem besK_step (ps : List LPr) (p : LPr) (V : List LPl) (a : Nat) (h : a < V.length) (m : Nat) (hm : V.length ≤ m) : besK ps p V (a + 1) = besK ps p V a ++ besL ps p V a V[a] m := by
  unfold besK
  rw [nb_take V a h, List.flatMap_append]
  congr 1
  unfold besL
  rw [List.take_of_length_le (show (nbF 0 V).length ≤ m by rw [nbF_len]; exact hm)]
  simp only [List.flatMap_cons, List.flatMap_nil, List.append_nil]
  refine flatMap_cong _ fun y _ => ?_
  rw [show -((a : Int) + 1) = -(a : Int) - 1 by omega]
theorem besK_all (ps : List LPr) (p : LPr) (V : List LPl) (m : Nat) (hm : V.length ≤ m) : besK ps p V m = besS ps (nbF 0 V) p := by
  unfold besK besS
  rw [List.take_of_length_le (show (nbF 0 V).length ≤ m by rw [nbF_len]; exact hm)]
theorem cnA_spec {rs : List LSt} {ps : List LPr} {ids : List Int} (top : Int) (h : IdsR rs ps ids) : cnA rs ps top ids = ids.map (ownA (plF rs top ids)) ++ (twoS (nbF 0 (plF rs top ids)) ++ ps.flatMap (besS ps (nbF 0 (plF rs top ids)))) := by
  unfold cnA
  rw [if_pos (B_yes h), cnf_both rs ps top ids (rises_nodup (idsR_rise h))]
  rfl
theorem cnA_no {rs : List LSt} {ps : List LPr} {ids : List Int} (top : Int) (h : ¬ IdsR rs ps ids) : cnA rs ps top ids = [] ∧ cnN rs ps top ids = 0 := by
  unfold cnA cnN
  rw [B_no h]
  simp
end Go.Proofs.Ytdmfljejlhlbnaa
namespace Go.Proofs.Ytdmfljejlhlbnaa
open Go.RowKit
set_option linter.unusedVariables false

/-- The first k clauses are right. -/
def ClsTo (vars : Int) (zss : List (List Int)) (k : Nat) : Prop := ∀ i, i < k → ClR vars (zss.getD i [])
/-- Clauses are right. -/
def CnfR (vars : Int) (zss : List (List Int)) : Prop := (0 ≤ vars ∧ vars ≤ 96) ∧ zss.length ≤ 4000 ∧ ClsTo vars zss zss.length
theorem ClsTo.zero (vars : Int) (zss : List (List Int)) : ClsTo vars zss 0 := fun i h => absurd h (Nat.not_lt_zero _)
theorem ClsTo.step {vars : Int} {zss : List (List Int)} {k : Nat} (h : ClsTo vars zss k) (g : ClR vars (zss.getD k [])) : ClsTo vars zss (k + 1) := fun i hi => by
  by_cases e : i = k
  · subst e; exact g
  · exact h i (by omega)
theorem bareC_get {cs : List LCl} {k : Nat} (h : k < cs.length) : (bareC cs).getD k [] = cs[k].2 := by simp [bareC, h]
theorem bareC_length (cs : List LCl) : (bareC cs).length = cs.length := by simp [bareC]
/-- A Cnf lies in block b. -/
def CnfAt (w : World) (b : Nat) (vars : Int) (sl : Option Addr) (n cap : Nat) : Prop := w.heap[b]? = some (.cells #[.int .i64 vars, .slice sl n cap] 45)
theorem CnfAt.lt {w : World} {b : Nat} {vars : Int} {sl : Option Addr} {n cap : Nat} (h : CnfAt w b vars sl n cap) : b < w.heap.size := (Array.getElem?_eq_some_iff.1 h).1
theorem CnfAt.below {w w' : World} {b : Nat} {vars : Int} {sl : Option Addr} {n cap : Nat} (h : CnfAt w b vars sl n cap) (hb : Below w.heap.size w w') : CnfAt w' b vars sl n cap := (hb.block b h.lt).trans h
theorem CnfAt.cells {w : World} {b : Nat} {vars : Int} {sl : Option Addr} {n cap : Nat} (h : CnfAt w b vars sl n cap) : w.cell? ⟨b, 0, none⟩ = some (.int .i64 vars) ∧ w.cell? ⟨b, 1, none⟩ = some (.slice sl n cap) := by
  unfold CnfAt at h
  constructor <;> simp [World.cell?, h]
theorem CnfAt.new (w : World) (vars : Int) (sl : Option Addr) (n cap : Nat) : CnfAt (w.alloc (.cells #[.int .i64 vars, .slice sl n cap] 45)) w.heap.size vars sl n cap := new_at _ _

set_option maxRecDepth 100000 in
set_option maxHeartbeats 2000000 in
/-- impl.CnfRight. -/
theorem icr_any (vars : Int) (sl : Option Addr) (cap : Nat) (cs : List LCl) (w : World) (hn : cs.length ≤ maxLen) (hz : Cls w sl cs) :
    Calls Try.prog 27 #[CV vars sl cs.length cap] w fun e w' => e = .returned (.bool (B (CnfR vars (bareC cs)))) ∧ Below w.heap.size w w' := by
  unfold maxLen at hn
  have CA := Lib.hid (CnfAt.new w vars sl cs.length cap)
  have B0 := Lib.hid (bA0 w (.cells #[.int .i64 vars, .slice sl cs.length cap] 45))
  have HB := Lib.hid (bareC_length cs)
  by_cases c1 : vars < 0
  · have NO := Lib.hid (B_no (p := CnfR vars (bareC cs)) (fun g => by have := g.1.1; omega))
    rw [NO.out]
    clear NO hz HB
    generalize cs.length = n at *
    go_enter Try.func27, Try.ntmps27
    go_wp2
    go_ret
    exact ⟨rfl, B0.out⟩
  by_cases c2 : 96 < vars
  · have NO := Lib.hid (B_no (p := CnfR vars (bareC cs)) (fun g => by have := g.1.2; omega))
    rw [NO.out]
    clear NO hz HB
    generalize cs.length = n at *
    go_enter Try.func27, Try.ntmps27
    go_wp2
    go_ret
    exact ⟨rfl, B0.out⟩
  by_cases c3 : 4000 < cs.length
  · have NO := Lib.hid (B_no (p := CnfR vars (bareC cs)) (fun g => by have := g.2.1; rw [HB.out] at this; omega))
    have c3' : (4000 : Int) < (cs.length : Int) := by omega
    rw [NO.out]
    clear NO hz HB
    generalize cs.length = n at *
    go_enter Try.func27, Try.ntmps27
    go_wp2
    go_ret
    exact ⟨rfl, B0.out⟩
  have c3' : ¬ (4000 : Int) < (cs.length : Int) := by omega
  have YY := Lib.hid (show ∀ k, cs.length ≤ k → ClsTo vars (bareC cs) k → B (CnfR vars (bareC cs)) = true from fun k hk h => B_yes ⟨⟨by omega, by omega⟩, by rw [HB.out]; omega, fun i hi => h i (by rw [HB.out] at hi; omega)⟩)
  have NN := Lib.hid (show ∀ k, k < cs.length → ¬ ClR vars ((bareC cs).getD k []) → B (CnfR vars (bareC cs)) = false from fun k hk h => B_no (fun g => h (g.2.2 k (by rw [HB.out]; exact hk))))
  have HZ := Lib.hid hz
  clear hz HB
  generalize hN : cs.length = n at *
  have HN := Lib.hid hN
  clear hN
  go_enter Try.func27, Try.ntmps27
  go_wp2
  go_loopw [22] (fun i wr => ∃ k : Nat, i = .int .i64 k ∧ k ≤ n ∧ Hid (ClsTo vars (bareC cs) k) ∧ Hid (Below (w.alloc (.cells #[.int .i64 vars, .slice sl n cap] 45)).heap.size (w.alloc (.cells #[.int .i64 vars, .slice sl n cap] 45)) wr)) (fun i _ => n - (intOf i).toNat)
  case atStart => exact ⟨0, rfl, Nat.zero_le _, ClsTo.zero _ _, Below.refl _ _⟩
  case round =>
    obtain ⟨k, rfl, hk, IT, H2⟩ := hrel
    have hk0 : (0 : Int) ≤ (k : Int) := by omega
    have DW := Lib.hid (bT B0.out H2.out)
    by_cases g1 : k < n
    · have g1' : (k : Int) < (n : Int) := by omega
      have hlt : k < cs.length := by rw [HN.out]; exact g1
      have TA := CA.out.below H2.out
      obtain ⟨t0, t1⟩ := TA.cells
      have tl := TA.lt
      obtain ⟨c, o, rfl, Z0⟩ := HZ.out.at hlt
      have hc := (Z0.below DW.out).2 k hlt
      obtain ⟨s1, k1, v1, i1, l1⟩ := (HZ.out.each cs[k] (List.getElem_mem hlt)).below DW.out
      rw [v1] at hc
      have E := Lib.hid (clr_any vars s1 k1 cs[k].2 wr i1)
      have BG := Lib.hid (bareC_get hlt)
      cases hb : B (ClR vars cs[k].2) with
      | true =>
        rw [hb] at E
        have IT2 := Lib.hid (IT.out.step (by rw [BG.out]; exact B_true hb))
        clear hb IT i1 l1 Z0 TA v1 BG
        generalize cs[k].2.length = q at *
        clear hlt
        go_wp2_with fail
        refine E.out.mono ?_
        rintro e w5 ⟨rfl, b5⟩
        have D5 := Lib.hid (bT H2.out b5)
        clear b5 E
        go_wp2
        go_roundw
        case rel => exact ⟨k + 1, by go_num, by omega, IT2, D5⟩
        case measure => simp [intOf]; omega
      | false =>
        rw [hb] at E
        have NO := Lib.hid (NN.out k g1 (by rw [BG.out]; exact B_false hb))
        clear hb IT i1 l1 Z0 TA v1 BG
        generalize cs[k].2.length = q at *
        clear hlt
        go_wp2_with fail
        refine E.out.mono ?_
        rintro e w5 ⟨rfl, b5⟩
        have D5 := Lib.hid (bT DW.out b5)
        clear b5 E
        go_wp2
        go_ret
        exact ⟨by rw [NO.out]; rfl, D5.out⟩
    · have g1' : ¬ (k : Int) < (n : Int) := by omega
      have YES := Lib.hid (YY.out k (by omega) IT.out)
      clear IT
      go_wp2
      go_ret
      exact ⟨by rw [YES.out]; rfl, DW.out⟩

end Go.Proofs.Ytdmfljejlhlbnaa
namespace Go.Proofs.Ytdmfljejlhlbnaa
open Go.RowKit
set_option linter.unusedVariables false

/-- A literal of a variable up to vars. -/
def OkZ (vars z : Int) : Prop := z ≠ 0 ∧ z ≤ vars ∧ -vars ≤ z
/-- The one at i is of another variable than the first k. -/
def ApartQ (zs : List Int) (i k : Nat) : Prop := ∀ j, j < k → zs.getD j 0 ≠ zs.getD i 0 ∧ zs.getD j 0 ≠ -zs.getD i 0
def SpTo (vars : Int) (zs : List Int) (n : Nat) : Prop := ∀ i, i < n → OkZ vars (zs.getD i 0) ∧ ApartQ zs i i
theorem SpTo.zero (vars : Int) (zs : List Int) : SpTo vars zs 0 := fun i h => absurd h (Nat.not_lt_zero _)
theorem SpTo.step {vars : Int} {zs : List Int} {k : Nat} (h : SpTo vars zs k) (g : OkZ vars (zs.getD k 0)) (a : ApartQ zs k k) : SpTo vars zs (k + 1) := fun i hi => by
  by_cases e : i = k
  · subst e; exact ⟨g, a⟩
  · exact h i (by omega)
theorem ApartQ.zero (zs : List Int) (i : Nat) : ApartQ zs i 0 := fun j h => absurd h (Nat.not_lt_zero _)
theorem ApartQ.step {zs : List Int} {i k : Nat} (h : ApartQ zs i k) (g1 : zs.getD k 0 ≠ zs.getD i 0) (g2 : zs.getD k 0 ≠ -zs.getD i 0) : ApartQ zs i (k + 1) := fun j hj => by
  by_cases e : j = k
  · subst e; exact ⟨g1, g2⟩
  · exact h j (by omega)

end Go.Proofs.Ytdmfljejlhlbnaa
namespace Go.Proofs.Ytdmfljejlhlbnaa
open Go.RowKit Go.Shelf
set_option linter.unusedVariables false
attribute [local go_sem] Oper.semAt_some

/-- One of the literals is true. -/
def ClT (ts zs : List Int) : Prop := ∃ z ∈ zs, (lv z ∈ ts ↔ 0 < z)
def NoT (ts zs : List Int) : Prop := ∀ z ∈ zs, ¬ (lv z ∈ ts ↔ 0 < z)
theorem NoT.nil (ts : List Int) : NoT ts [] := fun z h => absurd h List.not_mem_nil
theorem NoT.step {ts pre : List Int} {x : Int} (h : NoT ts pre) (g : ¬ (lv x ∈ ts ↔ 0 < x)) : NoT ts (pre ++ [x]) := fun z hz => by
  rcases List.mem_append.1 hz with hz | hz
  · exact h z hz
  · rw [List.mem_singleton.1 hz]; exact g
theorem ClT.prefix {ts pre zs : List Int} (h : pre <+: zs) (g : ClT ts pre) : ClT ts zs := by
  obtain ⟨z, hz, e⟩ := g
  exact ⟨z, h.subset hz, e⟩
theorem NoT.no {ts zs : List Int} (h : NoT ts zs) : ¬ ClT ts zs := fun ⟨z, hz, e⟩ => h z hz e

set_option maxRecDepth 100000 in
set_option maxHeartbeats 4000000 in
/-- impl.clauseTrue. -/
theorem clt_any (sl : Option Addr) (cap : Nat) (zs : List Int) (sl2 : Option Addr) (cap2 : Nat) (ts : List Int) (w : World) (hn : zs.length ≤ 1048576) (hm : ts.length ≤ 1048576) (hz : Ints w sl zs) (ht : Ints w sl2 ts) :
    Calls Try.prog 93 #[.slice sl zs.length cap, .slice sl2 ts.length cap2] w fun e w' => e = .returned (.bool (B (ClT ts zs))) ∧ Below w.heap.size w w' := by
  have HZ : Hid (∀ W, Below w.heap.size w W → zs = [] ∨ ∃ b off, sl = some ⟨b, off, none⟩ ∧ b < w.heap.size ∧ ∀ j, j < zs.length → W.cell? ⟨b, off + j, none⟩ = some (.int .i64 (zs[j]?.getD 0))) := fun W hW => by
    rcases hz with e | ⟨c, o, e, hl, hc⟩
    · exact .inl e
    · exact .inr ⟨c, o, e, hl, fun j hj => (hW.cell (p := ⟨c, o + j, none⟩) hl).trans (by rw [hc j hj]; simp)⟩
  have HT : Hid (∀ x W, Below w.heap.size w W → Calls Try.prog 78 #[.slice sl2 ts.length cap2, .int .i64 x] W fun e w' => e = .returned (.bool (B (x ∈ ts))) ∧ Below W.heap.size W w') := fun x W hW => has_any sl2 cap2 x ts W hm (ht.below hW)
  have HN := Lib.hid hn
  clear hz hn ht hm
  generalize ts.length = m at *
  refine (callsIn_wide (n := 6)).1 ?_
  refine callsIn_of_wp_marks Try.func93 rfl trivial ?_ rfl
  simp only [Try.ntmps93, List.size_toArray, List.length_cons, List.length_nil, Nat.reduceAdd, Nat.reduceSub, Array.replicate_succ, Array.replicate_zero, List.push_toArray, List.append_toArray, List.nil_append, List.cons_append]
  gi_wp2_with (refine ⟨trivial, ?_⟩; gi_at_call 134; refine (lits_in Fence.wide _ trivial rfl _ _ _ _).mono ?_; rintro e w' ⟨rfl, rfl⟩)
  have bT0 := Boxed.new w 40 (.slice sl2 m cap2)
  have bR := Boxed.new (w.alloc (.cells #[.slice sl2 m cap2] 40)) 4 (.bool false)
  have bC := Boxed.new ((w.alloc (.cells #[.slice sl2 m cap2] 40)).alloc (.cells #[.bool false] 4)) 40 (.slice sl zs.length cap)
  simp only [World.size_alloc] at bR bC
  have hB0 : Below w.heap.size w (((w.alloc (.cells #[.slice sl2 m cap2] 40)).alloc (.cells #[.bool false] 4)).alloc (.cells #[.slice sl zs.length cap] 40)) := bA (bA (bA0 _ _) _) _
  refine wpIn_rangeFunc_ownG rfl (by omega) (gf := 149) (lb := #[.pointer (some ⟨w.heap.size + 1 + 1, 0, none⟩)]) rfl trivial (enters_of Try.func149 (by kernel_rfl) rfl)
    (lits_stops Fence.wide _ trivial rfl (by omega) (w.heap.size + 1 + 1) w.heap.size sl cap zs HN.out _ (by simp) (by simp; omega) bC.cell (HZ.out _ hB0)) belowK_t (belowK_b (by simp; omega)) (Below.refl _ _) (fun _ => rfl)
    (fun pre W => Boxed W w.heap.size 40 (.slice sl2 m cap2) ∧ Boxed W (w.heap.size + 1) 4 (.bool false) ∧ NoT ts pre ∧ Below w.heap.size w W)
    (fun c pre W => Boxed W (w.heap.size + 1) 4 (.bool true) ∧ (c = .ret ∧ ClT ts pre) ∧ Below w.heap.size w W)
    (OwnFrom.and (Own.from (boxed_own _ _ _) _) (OwnFrom.and (Own.from (boxed_own _ _ _) _) (OwnFrom.and (ownFrom_pure _ _) (ownFrom_below (Nat.le_refl _) (by simp; omega)))))
    (fun c => OwnFrom.and (Own.from (boxed_own _ _ _) _) (OwnFrom.and (ownFrom_pure _ _) (ownFrom_below (Nat.le_refl _) (by simp; omega))))
    ⟨(bT0.alloc _).alloc _, bR.alloc _, NoT.nil ts, hB0⟩
    (fun x => { tmps := #[.slice sl zs.length cap, .slice sl2 m cap2, undef, .pointer (some ⟨w.heap.size, 0, none⟩), .pointer (some ⟨w.heap.size + 1, 0, none⟩), .int .i64 (lv x), .bool (decide (0 < x)), .slice sl zs.length cap, .func (.func 149) #[] #[.pointer (some ⟨w.heap.size + 1 + 1, 0, none⟩)], .int .i64 (lv x), .bool (decide (0 < x)), undef, undef, undef, undef, undef], defers := [] }) ?assign ?body ?done ?stop
  case assign =>
    intro l x W K hK
    gi_wp2
    exact hK
  case body =>
    rintro l pre x W ⟨bT1, bR, hG, hB⟩ hlt
    have hc := bT1.cell
    have E := Lib.hid (HT.out (lv x) W hB)
    have hk1 : 1 ≤ 6 - 1 - 1 := by omega
    have HG := Lib.hid hG
    clear hG
    cases hb : B (lv x ∈ ts) with
    | true =>
      rw [hb] at E
      cases hx : decide (0 < x) with
      | true =>
        have YG := Lib.hid (show ClT ts (pre ++ [x]) from ⟨x, by simp, ⟨fun _ => of_decide_eq_true hx, fun _ => B_true hb⟩⟩)
        clear hb hx
        generalize lv x = y at *
        gi_wp2_with (refine ⟨trivial, ?_⟩; gi_at_call 78; refine (CallsIn.inRound l (callsIn_wide.2 E.out)).mono ?_; rintro e w1 ⟨rfl, b1⟩; have bR1 := boxB bR b1; have hcr1 := bR1.cell; have hfr1 := bR1.frozen)
        exact ⟨(keeps_below b1).trans ((KeepsOthers.setCell _ _ _).from _), bR1.set _, ⟨rfl, YG.out⟩, (bT hB b1).setCell (p := ⟨w.heap.size + 1, 0, none⟩) (by simp) _⟩
      | false =>
        have NG := Lib.hid (HG.out.step (x := x) (fun g => of_decide_eq_false hx (g.1 (B_true hb))))
        clear hb hx
        generalize lv x = y at *
        gi_wp2_with (refine ⟨trivial, ?_⟩; gi_at_call 78; refine (CallsIn.inRound l (callsIn_wide.2 E.out)).mono ?_; rintro e w1 ⟨rfl, b1⟩)
        exact ⟨keeps_below b1, b1.mono hB.size, boxB bT1 b1, boxB bR b1, NG.out, bT hB b1⟩
    | false =>
      rw [hb] at E
      cases hx : decide (0 < x) with
      | true =>
        have NG := Lib.hid (HG.out.step (x := x) (fun g => B_false hb (g.2 (of_decide_eq_true hx))))
        clear hb hx
        generalize lv x = y at *
        gi_wp2_with (refine ⟨trivial, ?_⟩; gi_at_call 78; refine (CallsIn.inRound l (callsIn_wide.2 E.out)).mono ?_; rintro e w1 ⟨rfl, b1⟩)
        exact ⟨keeps_below b1, b1.mono hB.size, boxB bT1 b1, boxB bR b1, NG.out, bT hB b1⟩
      | false =>
        have YG := Lib.hid (show ClT ts (pre ++ [x]) from ⟨x, by simp, ⟨fun h => absurd h (B_false hb), fun h => absurd h (of_decide_eq_false hx)⟩⟩)
        clear hb hx
        generalize lv x = y at *
        gi_wp2_with (refine ⟨trivial, ?_⟩; gi_at_call 78; refine (CallsIn.inRound l (callsIn_wide.2 E.out)).mono ?_; rintro e w1 ⟨rfl, b1⟩; have bR1 := boxB bR b1; have hcr1 := bR1.cell; have hfr1 := bR1.frozen)
        exact ⟨(keeps_below b1).trans ((KeepsOthers.setCell _ _ _).from _), bR1.set _, ⟨rfl, YG.out⟩, (bT hB b1).setCell (p := ⟨w.heap.size + 1, 0, none⟩) (by simp) _⟩
  case done =>
    rintro D ys W hD rfl ⟨-, bR, hG, hB⟩ hK
    have hcr := bR.cell
    have hfr := bR.frozen
    gi_wp2
    have hK' := (KeepsOthers.setCell W ⟨w.heap.size + 1, 0, none⟩ (.bool false)).same D _ hK rfl
    refine ⟨by simp, .inl ⟨_, _, rfl, run_takeDeferred hK', ?_⟩⟩
    have hc5 := cell_kept (World.cell?_setCell_same' W ⟨w.heap.size + 1, 0, none⟩ (.bool false) (by rw [hcr]; rfl)) (grownBy_putObj' _ D (.deferred none)) (fun r e => by cases e; exact ⟨_, hK', rfl⟩)
    refine ⟨.bool false, ?_, by rw [B_no hG.no], (hB.setCell (p := ⟨w.heap.size + 1, 0, none⟩) (by simp) _).trans (belowK_b (w := w) (Nat.le_refl _) _ D _ _ (by simp at hD; omega) hK' rfl rfl)⟩
    simp [results, Try.f93, go_sem, hc5]
  case stop =>
    rintro D c pre W hD hpre ⟨bR, ⟨rfl, hG⟩, hB⟩ hK
    have hcr := bR.cell
    gi_wp2
    refine ⟨by simp, .inl ⟨_, _, rfl, run_takeDeferred hK, ?_⟩⟩
    have hc5 := cell_kept hcr (grownBy_putObj' _ D (.deferred none)) (fun r e => by cases e; exact ⟨_, hK, rfl⟩)
    refine ⟨.bool true, ?_, by rw [B_yes (hG.prefix hpre)], hB.trans (belowK_b (w := w) (Nat.le_refl _) W D _ _ (by simp at hD; omega) hK rfl rfl)⟩
    simp [results, Try.f93, go_sem, hc5]

end Go.Proofs.Ytdmfljejlhlbnaa
