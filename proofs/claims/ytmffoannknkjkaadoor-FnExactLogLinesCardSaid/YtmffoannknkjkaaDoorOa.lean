/-
  THE LOG OPENED: both sides; what the records of a text are, as one list.
-/
import Derived.Test.YtmffoannknkjkaaDoorDac
import Derived.Test.YtmffoannknkjkaaDoorRaf
import Derived.Test.YtmffoannknkjkaaDoorRae
namespace Go.Proofs.YtmffoannknkjkaaDoor
open Go.RowKit
set_option linter.unusedVariables false

theorem reads_all (m : Nat) : ∀ t : List UInt8, t.length ≤ m → ∃ rs u c, Reads t rs u c := by
  induction m with
  | zero =>
    intro t ht
    obtain rfl : t = [] := List.length_eq_zero_iff.1 (by omega)
    exact ⟨[], 0, 0, .done⟩
  | succ m ih =>
    intro t ht
    by_cases he : t = []
    · subst he; exact ⟨[], 0, 0, .done⟩
    by_cases h : ∃ n q k zs, Good t n q ∧ IsBody (q.take n) k zs
    · obtain ⟨n, q, k, zs, g, b⟩ := h
      have h0 : 0 < t.length := List.length_pos_iff.2 he
      have h1 : 0 < usedN n := by unfold usedN; omega
      obtain ⟨rs, u, c, r⟩ := ih (t.drop (usedN n)) (by rw [List.length_drop]; omega)
      exact ⟨_, _, _, .step g b r⟩
    · exact ⟨[], 0, _, .stop he fun n q k zs g b => h ⟨n, q, k, zs, g, b⟩⟩
theorem reads_ex (t : List UInt8) : ∃ rs u c, Reads t rs u c := reads_all t.length t (Nat.le_refl _)
theorem Reads.le {t : List UInt8} {rs : List (Int × List Int)} {u : Nat} {c : Int} (h : Reads t rs u c) : u ≤ t.length := by
  induction h with
  | done => simp
  | stop _ _ => simp
  | @step t n q k zs rs u c g b r ih =>
    have := g.used
    rw [List.length_drop] at ih
    omega
/-- How many bytes of a disk are its log. -/
noncomputable def lou (s : ByteArray) (ss : List ByteArray) : Nat := (reads_ex (dT s ss).data.toList).choose_spec.choose
theorem lou_is {s : ByteArray} {ss : List ByteArray} {rs : List (Int × List Int)} {u : Nat} {c : Int} (h : Reads (dT s ss).data.toList rs u c) : u = lou s ss := by
  obtain ⟨c', h'⟩ := (reads_ex (dT s ss).data.toList).choose_spec.choose_spec
  exact (h.uniq h').2.1
theorem lou_le (s : ByteArray) (ss : List ByteArray) : lou s ss ≤ (dT s ss).size := by
  obtain ⟨c', h'⟩ := (reads_ex (dT s ss).data.toList).choose_spec.choose_spec
  have := h'.le
  have e : (dT s ss).data.toList.length = (dT s ss).size := by simp
  rw [e] at this
  exact this
/-- The disk behind LogOpen: what is safe of it, and what is loose. -/
noncomputable def loS (s : ByteArray) (ss : List ByteArray) : ByteArray := if dR s ss then (dT s ss).extract 0 (lou s ss) else s
def loL (s : ByteArray) (ss : List ByteArray) : List ByteArray := if dR s ss then [] else ss

theorem Two.after {w : World} {s : ByteArray} {v : Value} {W : World} (h : Two w s v W) (s' : ByteArray) (v' : Value) :
    ((W.setCell ⟨w.heap.size + 1, 0, none⟩ (.string s')).setCell ⟨w.heap.size + 1, 1, none⟩ v').cell? ⟨w.heap.size, 0, none⟩ = some (.string s) ∧ ((W.setCell ⟨w.heap.size + 1, 0, none⟩ (.string s')).setCell ⟨w.heap.size + 1, 1, none⟩ v').cell? ⟨w.heap.size, 1, none⟩ = some v := by
  have hb : DAt 27 ((W.setCell ⟨w.heap.size + 1, 0, none⟩ (.string s')).setCell ⟨w.heap.size + 1, 1, none⟩ v') w.heap.size s v :=
    (Below.heap_setCell _ _ _ _ (by simp)).trans ((Below.heap_setCell _ _ _ _ (by simp)).trans h.box)
  exact hb.cells
theorem Two.four {w : World} {s : ByteArray} {v : Value} {W : World} (h : Two w s v W) : W.cell? ⟨w.heap.size, 0, none⟩ = some (.string s) ∧ W.cell? ⟨w.heap.size, 1, none⟩ = some v := h.box.cells
theorem fld37 (v : Value) (u k : Int) (w : World) : Sem.run Tryd.prog (Instr.field 37 (.agg #[v, .int .i64 u, .int .i64 k]) 1) w = .ok (.int .i64 u) w := by kernel_rfl
theorem fld37l (v : Value) (u k : Int) (w : World) : Sem.run Tryd.prog (Instr.field 37 (.agg #[v, .int .i64 u, .int .i64 k]) 0) w = .ok v w := by kernel_rfl

set_option maxHeartbeats 1000000 in
theorem slo_any (s : ByteArray) (sl : Option Addr) (cap : Nat) (ss : List ByteArray) (w : World) (hn : ss.length ≤ 1048576) (hz : Strs w sl ss) :
    Calls Tryd.prog 14 #[DV s sl ss.length cap] w fun e w' => CopPost (loS s ss) (loL s ss) w e w' := by
  have R : Hid (∀ w1, Below w.heap.size w w1 → Calls Tryd.prog 26 #[DV s sl ss.length cap] w1 fun e w' => e = .returned (.bool (dR s ss)) ∧ Below w1.heap.size w1 w') := fun w1 hb => sdr_any s sl cap ss w1 (hz.below hb)
  have T0 := Lib.hid (Two.start w s (.slice sl ss.length cap))
  cases hr : dR s ss
  · have e1 : loS s ss = s := by simp [loS, hr]
    have e2 : loL s ss = ss := by simp [loL, hr]
    have C : Hid (∀ w1, Below w.heap.size w w1 → Calls Tryd.prog 27 #[DV s sl ss.length cap] w1 fun e w' => CopPost s ss w1 e w') := fun w1 hb => scopy_any s sl cap ss w1 (by omega) (hz.below hb)
    rw [e1, e2]
    rw [hr] at R
    clear hz hn e1 e2 hr
    generalize ss.length = n at *
    go_enter Tryd.func14, Tryd.ntmps14
    go_wp2_with fail
    refine (R.out _ T0.out.bel).mono ?_
    rintro e w1 ⟨rfl, b1⟩
    have T1 := Lib.hid (T0.out.below b1)
    clear b1 T0
    obtain ⟨c0, c1, c2, c3, cf, cl⟩ := T1.out.facts
    go_wp2_with fail
    refine (C.out _ T1.out.bel).mono ?_
    rintro e w3 ⟨v3, rfl, o3, b3⟩
    obtain ⟨sl3, c3', rfl, -⟩ := o3.strs
    have O3 := Lib.hid o3
    have T3 := Lib.hid (T1.out.below b3)
    clear b3 o3 c0 c1 c2 c3 cf
    obtain ⟨c0, c1, c2, c3, cf, cl3⟩ := T3.out.facts
    obtain ⟨q0, q1, qf⟩ := T3.out.end s (.slice sl3 ss.length c3')
    have QF := Lib.hid qf
    clear qf T1
    generalize ss.length = n3 at *
    go_wp2
    exact bodyPost_ret (v := .agg #[.string s, .slice sl3 n3 c3']) (by simp [results, Tryd.results14, go_sem, q0, q1]) rfl (QF.out _ _ O3.out (by omega))
  · have e1 : loS s ss = (dT s ss).extract 0 (lou s ss) := by simp [loS, hr]
    have e2 : loL s ss = [] := by simp [loL, hr]
    have hT : (dT s ss).size ≤ 20000 := by rw [dT_size hr]; exact (dR_parts hr).2.2
    have T : Hid (∀ w1, Below w.heap.size w w1 → Calls Tryd.prog 19 #[DV s sl ss.length cap] w1 fun e w' => e = .returned (.string (dT s ss)) ∧ Below w1.heap.size w1 w') := fun w1 hb => sdt_any s sl cap ss w1 (hz.below hb)
    have RC : Hid (∀ w1, Calls Tryd.prog 18 #[.string (dT s ss)] w1 fun e w' => ∃ v c, e = .returned (.agg #[v, .int .i64 (lou s ss), .int .i64 c]) ∧ Below w1.heap.size w1 w') := fun w1 => by
      refine (mrs_any (dT s ss) w1).mono ?_
      rintro e w' ⟨rs, v, u, c, hr, rfl, -, b⟩
      rw [lou_is hr]
      exact ⟨v, c, rfl, b⟩
    have C : Hid (∀ w1, Below w.heap.size w w1 → Calls Tryd.prog 28 #[DV s sl ss.length cap, .int .i64 (lou s ss)] w1 fun e w' => CopPost ((dT s ss).extract 0 (lou s ss)) [] w1 e w') :=
      fun w1 hb => scut_yes s sl cap ss (lou s ss) w1 (hz.below hb) hr (lou_le s ss) hT
    rw [e1, e2]
    rw [hr] at R
    clear hz hn e1 e2 hr hT
    generalize ss.length = n at *
    generalize (dT s ss).extract 0 (lou s ss) = E at *
    generalize dT s ss = F at *
    generalize lou s ss = u at *
    have F1 := fun v k w1 => fld37 v u k w1
    go_enter Tryd.func14, Tryd.ntmps14
    go_wp2_with fail
    refine (R.out _ T0.out.bel).mono ?_
    rintro e w1 ⟨rfl, b1⟩
    have T1 := Lib.hid (T0.out.below b1)
    clear b1 T0
    obtain ⟨c0, c1, c2, c3, cf, cl⟩ := T1.out.facts
    go_wp2_with fail
    go_region_held3 (fun w' => w'.cell? ⟨w.heap.size, 0, none⟩ = some (.string s) ∧ w'.cell? ⟨w.heap.size, 1, none⟩ = some (.slice sl n cap))
      (first | exact T1.out.four | exact T1.out.drew.four | exact (T1.out.drew.below b5).four | exact ((T1.out.drew.below b5).below b6).four | exact (((T1.out.drew.below b5).below b6).below b7).four | exact (((T1.out.drew.below b5).below b6).below b7).after _ _)
      (first | (go_at_call 19; refine (T.out _ (by first | exact T1.out.bel | exact T1.out.bel.drew)).mono ?_; rintro e w5 ⟨rfl, b5⟩) | (go_at_call 18; refine (RC.out _).mono ?_; rintro e w6 ⟨v6, k6, rfl, b6⟩) | (go_at_call 28; refine (C.out _ ((T1.out.drew.below b5).below b6).bel).mono ?_; rintro e w7 ⟨v7, rfl, o7, b7⟩; obtain ⟨sl7, c7, rfl, -⟩ := o7.strs; obtain ⟨d0, d1, d2, d3, df, dl⟩ := (((T1.out.drew.below b5).below b6).below b7).facts))
    have l6 := ((T1.out.drew.below b5).below b6).facts.2.2.2.2.2
    have T7 := Lib.hid (((T1.out.drew.below b5).below b6).below b7)
    obtain ⟨q0, q1, qf⟩ := T7.out.end E (.slice sl7 0 c7)
    have QF := Lib.hid qf
    clear qf
    go_wp2
    exact bodyPost_ret (v := .agg #[.string E, .slice sl7 0 c7]) (by simp [results, Tryd.results14, go_sem, q0, q1]) rfl (QF.out _ _ o7 (by omega))

set_option maxHeartbeats 1000000 in
theorem ilo_any (s : ByteArray) (sl : Option Addr) (cap : Nat) (ss : List ByteArray) (w : World) (hS : s.size + tot ss ≤ 4000000) (hn : ss.length ≤ 1048576) (hz : Strs w sl ss) (ht : U8 w) :
    Calls Tryd.prog 15 #[DV s sl ss.length cap] w fun e w' => CopPost (loS s ss) (loL s ss) w e w' := by
  have T0 := Lib.hid (Two.start w s (.slice sl ss.length cap))
  have T : Hid (∀ w1, Below w.heap.size w w1 → Calls Tryd.prog 23 #[DV s sl ss.length cap] w1 fun e w' => e = .returned (.string (dT s ss)) ∧ Below w1.heap.size w1 w') := fun w1 hb => idt_any s sl cap ss w1 hS (hz.below hb)
  have RC : Hid (∀ w1, Below w.heap.size w w1 → Calls Tryd.prog 22 #[.string (dT s ss)] w1 fun e w' => ∃ v c, e = .returned (.agg #[v, .int .i64 (lou s ss), .int .i64 c]) ∧ Below w1.heap.size w1 w') := fun w1 hb => by
    refine (rcsX_any (dT s ss) w1 (ht.below hb)).mono ?_
    rintro e w' ⟨rs, v, u, c, hr, rfl, -, -, b⟩
    rw [lou_is hr]
    exact ⟨v, c, rfl, b⟩
  have C : Hid (∀ w1, Below w.heap.size w w1 → Calls Tryd.prog 29 #[DV s sl ss.length cap, .int .i64 (lou s ss)] w1 fun e w' => CopPost (loS s ss) (loL s ss) w1 e w') := fun w1 hb => by
    cases hr : dR s ss
    · have e1 : loS s ss = s := by simp [loS, hr]
      have e2 : loL s ss = ss := by simp [loL, hr]
      rw [e1, e2]
      exact icut_no s sl cap ss _ w1 hS hn (hz.below hb) (.inl hr)
    · have e1 : loS s ss = (dT s ss).extract 0 (lou s ss) := by simp [loS, hr]
      have e2 : loL s ss = [] := by simp [loL, hr]
      rw [e1, e2]
      exact icut_yes s sl cap ss (lou s ss) w1 hS (hz.below hb) hr (lou_le s ss) (by rw [dT_size hr]; exact (dR_parts hr).2.2)
  clear hz hn hS ht
  generalize ss.length = n at *
  generalize loS s ss = E at *
  generalize loL s ss = L at *
  generalize dT s ss = F at *
  generalize lou s ss = u at *
  have F1 := fun v k w1 => fld37 v u k w1
  go_enter Tryd.func15, Tryd.ntmps15
  go_wp2_with fail
  go_region_held3 (fun w' => w'.cell? ⟨w.heap.size, 0, none⟩ = some (.string s) ∧ w'.cell? ⟨w.heap.size, 1, none⟩ = some (.slice sl n cap))
    (first | exact T0.out.four | exact T0.out.drew.four | exact (T0.out.drew.below b5).four | exact ((T0.out.drew.below b5).below b6).four | exact (((T0.out.drew.below b5).below b6).below b7).four | exact (((T0.out.drew.below b5).below b6).below b7).after _ _)
    (first | (go_at_call 23; refine (T.out _ (by first | exact T0.out.bel | exact T0.out.bel.drew)).mono ?_; rintro e w5 ⟨rfl, b5⟩) | (go_at_call 22; refine (RC.out _ (T0.out.drew.below b5).bel).mono ?_; rintro e w6 ⟨v6, k6, rfl, b6⟩) | (go_at_call 29; refine (C.out _ ((T0.out.drew.below b5).below b6).bel).mono ?_; rintro e w7 ⟨v7, rfl, o7, b7⟩; obtain ⟨sl7, c7, rfl, -⟩ := o7.strs; obtain ⟨d0, d1, d2, d3, df, dl⟩ := (((T0.out.drew.below b5).below b6).below b7).facts))
  have l6 := ((T0.out.drew.below b5).below b6).facts.2.2.2.2.2
  have T7 := Lib.hid (((T0.out.drew.below b5).below b6).below b7)
  obtain ⟨q0, q1, qf⟩ := T7.out.end E (.slice sl7 L.length c7)
  have QF := Lib.hid qf
  clear qf
  generalize L.length = m at *
  go_wp2
  exact bodyPost_ret (v := .agg #[.string E, .slice sl7 m c7]) (by simp [results, Tryd.results15, go_sem, q0, q1]) rfl (QF.out _ _ o7 (by omega))

end Go.Proofs.YtmffoannknkjkaaDoor
