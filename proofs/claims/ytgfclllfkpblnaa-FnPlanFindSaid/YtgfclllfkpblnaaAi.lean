/-
  TWO STATIONS AS A MAP's KEY; the map of kinds.
-/
import Derived.Test.YtgfclllfkpblnaaAh
import Derived.DeepKeys4
import Derived.MapViews
import Derived.Maps.Own
import Derived.Maps.OwnOps
import Derived.Maps.OwnSet
import Derived.Maps.RangeWalk
namespace Go.Proofs.Ytgfclllfkpblnaa
open Go.RowKit Go.Maps
set_option linter.unusedVariables false

theorem laidOut : laidOutB Try.prog = true := by kernel_rfl
theorem row63 : (83 : TypeId) < Try.prog.types.size := of_decide_eq_true (by kernel_rfl)
theorem wide63 : (match Try.prog.underlying 83 with | some (.array _ _) | some (.struct _) => true | _ => false) = true := by rw [Try.underlying83]
theorem deep63 : Try.prog.keyTypeAt 2 83 = true := by kernel_rfl
set_option maxRecDepth 100000 in
theorem law63 : Keyed Try.prog 83 := Keyed.of_law (deep_law_laid laidOut (m := 2) (Nat.le_of_ble_eq_true rfl) row63 deep63 wide63)
theorem keyType63 : Try.prog.keyType 83 = true := by kernel_rfl
theorem cells63 : Try.prog.cellsOf 83 = 2 := by kernel_rfl
theorem cells2 : Try.prog.cellsOf 2 = 1 := by kernel_rfl
theorem formed63 (x : Int × Int) : (EV x).formed Try.prog 83 = true := by simp [Value.formed, Try.underlying83, cells63]
theorem size_types : ∃ m, Try.prog.types.size + 1 = m + 1 + 1 := ⟨Try.prog.types.size - 1, by have h : (83 : Nat) < Try.prog.types.size := row63; omega⟩
theorem key_some (x : Int × Int) (h1 : wfI x.1) (h2 : wfI x.2) : keyOf Try.prog 83 (EV x) = some (.string (keyBytes [.int .i64 x.1, .int .i64 x.2])) := by
  unfold keyOf
  simp only [Try.underlying83]
  rw [if_pos (by rw [keyType63, formed63]; rfl)]
  obtain ⟨m, hm⟩ := size_types
  rw [hm]
  unfold Program.keyLits
  simp only [Try.underlying83, Value.cells]
  unfold wfI at h1 h2
  rw [if_pos ⟨by rw [cells63]; rfl, by simp⟩, List.mapM_cons, List.mapM_cons, List.mapM_nil]
  simp [Program.keyLits, cells2, Try.underlying2, h1, h2]
theorem lits2 {d : Nat} {c : Value} {ls : List Lit} (h : Try.prog.keyLits (d + 1) 2 [c] = some ls) : ∃ a : Int, c = .int .i64 a ∧ wfI a := by
  unfold Program.keyLits at h
  simp only [Try.underlying2] at h
  cases c <;> simp at h
  exact ⟨_, by rw [h.1.1], h.1.2⟩
theorem key_inv (v : Value) (kl : Lit) (h : keyOf Try.prog 83 v = some kl) : ∃ x : Int × Int, v = EV x ∧ wfI x.1 ∧ wfI x.2 := by
  unfold keyOf at h
  simp only [Try.underlying83] at h
  split at h
  · rename_i hf
    rw [Bool.and_eq_true] at hf
    obtain ⟨-, hf⟩ := hf
    cases v <;> simp [Value.formed, Try.underlying83] at hf
    rename_i cs
    rw [cells63] at hf
    obtain ⟨c0, c1, rfl⟩ : ∃ c0 c1, cs = #[c0, c1] := by
      obtain ⟨l⟩ := cs
      rcases l with _ | ⟨a, _ | ⟨b, _ | ⟨c, r⟩⟩⟩ <;> simp at hf
      exact ⟨a, b, rfl⟩
    obtain ⟨m, hm⟩ := size_types
    rw [hm] at h
    unfold Program.keyLits at h
    simp only [Try.underlying83, Value.cells] at h
    rw [if_pos ⟨by rw [cells63]; rfl, by simp⟩, List.mapM_cons, List.mapM_cons, List.mapM_nil] at h
    simp only [cells2, List.drop_zero, List.drop_succ_cons, List.take_succ_cons, List.take_zero, List.take_nil] at h
    cases e0 : Try.prog.keyLits (m + 1) 2 [c0] with
    | none => rw [e0] at h; simp at h
    | some l0 =>
      cases e1 : Try.prog.keyLits (m + 1) 2 [c1] with
      | none => rw [e0, e1] at h; simp at h
      | some l1 =>
        obtain ⟨a, rfl, wa⟩ := lits2 e0
        obtain ⟨b, rfl, wb⟩ := lits2 e1
        exact ⟨(a, b), rfl, wa, wb⟩
  · cases h
/-- What a key reads as. -/
noncomputable def kOf (x : Int × Int) : Lit := .string (keyBytes [.int .i64 x.1, .int .i64 x.2])
theorem key_is (x : Int × Int) (h : wfI x.1 ∧ wfI x.2) : keyOf Try.prog 83 (EV x) = some (kOf x) := key_some x h.1 h.2
theorem kOf_inj {x y : Int × Int} (hx : wfI x.1 ∧ wfI x.2) (hy : wfI y.1 ∧ wfI y.2) (h : kOf x = kOf y) : x = y := by
  have := law63.inj (key_is x hx) (by rw [h]; exact key_is y hy)
  simp only [EV, Value.agg.injEq, Array.mk.injEq, List.cons.injEq, Value.int.injEq, true_and, and_true] at this
  exact Prod.ext this.1 this.2
theorem kOf_key (x : Int × Int) (h : wfI x.1 ∧ wfI x.2) : WideAt.IsKeyLit (kOf x) := law63.key (key_is x h)

/-- The map of kinds, as the first k pairs make it. -/
noncomputable def Kd (ps : List LPr) : DataW Unit := ps.foldl (fun D p => D.put (kOf (ends p)) (.lit (.int .i64 p.2.2))) (.map [])
theorem Kd_add (ps : List LPr) (p : LPr) : Kd (ps ++ [p]) = (Kd ps).put (kOf (ends p)) (.lit (.int .i64 p.2.2)) := by simp [Kd]
theorem fold_map (ps : List LPr) : ∀ D : DataW Unit, IsMap D → IsMap (ps.foldl (fun D p => D.put (kOf (ends p)) (.lit (.int .i64 p.2.2))) D) := by
  induction ps with
  | nil => intro D h; exact h
  | cons p r ih => intro D h; exact ih _ (h.put _ _)
theorem Kd_map (ps : List LPr) : IsMap (Kd ps) := fold_map ps _ isMap_empty
theorem fold_has (ps : List LPr) (hw : ∀ p ∈ ps, WfP p) (x : Int × Int) (hx : wfI x.1 ∧ wfI x.2) : ∀ D : DataW Unit, IsMap D → (Maps.has (ps.foldl (fun D p => D.put (kOf (ends p)) (.lit (.int .i64 p.2.2))) D) (kOf x) = true ↔ Maps.has D (kOf x) = true ∨ x ∈ ps.map ends) := by
  induction ps with
  | nil => intro D h; simp
  | cons p r ih =>
    intro D h
    have hp := hw p (by simp)
    rw [List.foldl_cons, ih (fun q hq => hw q (by simp [hq])) _ (h.put _ _)]
    by_cases e : x = ends p
    · subst e
      rw [has_put_same h (kOf_key _ hp.1)]
      simp
    · have ne : kOf x ≠ kOf (ends p) := fun h' => e (kOf_inj hx hp.1 h')
      rw [has_put_other ne]
      simp [e]
theorem Kd_has (ps : List LPr) (hw : ∀ p ∈ ps, WfP p) (x : Int × Int) (hx : wfI x.1 ∧ wfI x.2) : Maps.has (Kd ps) (kOf x) = true ↔ x ∈ ps.map ends := by
  unfold Kd
  rw [fold_has ps hw x hx _ isMap_empty]
  simp [Maps.has]

set_option maxHeartbeats 400000 in
theorem en_any (p : LPr) (w : World) : Calls Try.prog 45 #[.agg #[.int .i64 p.1, .int .i64 p.2.1, .int .i64 p.2.2]] w fun e w' => e = .returned (EV (ends p)) ∧ Below w.heap.size w w' := by
  obtain ⟨a, b, q⟩ := p
  unfold ends
  go_enter Try.func45, Try.ntmps45
  go_wp2
  exact bodyPost_ret (v := EV (a, b)) (by simp [results, Try.results45, go_sem]) rfl ⟨rfl, bA (bA0 _ _) _⟩

theorem mk_map (n : Int) (w : World) : Sem.run Try.prog (Instr.makeMap 80 (some (.int .i64 n))) w = .ok (.map (some w.heap.size)) (w.alloc (.map #[] 0)) := by
  simp [Instr.makeMap, run_underlying Try.underlying80, Result.andThen, asInt, asIntOf]

set_option maxRecDepth 100000 in
set_option maxHeartbeats 1000000 in
theorem ks_nil (sl : Option Addr) (cap : Nat) (w : World) :
    Calls Try.prog 38 #[.slice sl 0 cap] w fun e w' => e = .returned (.map (some w.heap.size)) ∧ w'.ownsMap Try.prog 83 (plainElem (H := Unit) Try.prog 2) w.heap.size 0 (.map []) ∧ Below w.heap.size w w' := by
  have hmm := mk_map
  go_enter Try.func38, Try.ntmps38
  go_wp2
  refine wp_loop_rounds 1 ?_
  rw [rounds_succ]
  go_wp2
  go_ret
  exact ⟨rfl, World.ownsMap_made _ _ _ _, bA0 _ _⟩

/-- A pair in a block of its own. -/
def PAt3 (w : World) (b : Nat) (x y z : Int) : Prop := w.heap[b]? = some (.cells #[.int .i64 x, .int .i64 y, .int .i64 z] 69)
theorem PAt3.new (w : World) (x y z : Int) : PAt3 (w.alloc (.cells #[.int .i64 x, .int .i64 y, .int .i64 z] 69)) w.heap.size x y z := by
  show (w.heap.push _)[w.heap.size]? = _
  simp
theorem PAt3.lt {w : World} {b : Nat} {x y z : Int} (h : PAt3 w b x y z) : b < w.heap.size := (Array.getElem?_eq_some_iff.1 h).1
theorem PAt3.below {w w' : World} {b : Nat} {x y z : Int} (h : PAt3 w b x y z) (hb : Below w.heap.size w w') : PAt3 w' b x y z := (hb.block b h.lt).trans h
theorem PAt3.cells {w : World} {b : Nat} {x y z : Int} (h : PAt3 w b x y z) : b < w.heap.size ∧ w.cell? ⟨b, 0, none⟩ = some (.int .i64 x) ∧ w.cell? ⟨b, 1, none⟩ = some (.int .i64 y) ∧ w.cell? ⟨b, 2, none⟩ = some (.int .i64 z) := by
  have hl := h.lt
  unfold PAt3 at h
  refine ⟨hl, ?_, ?_, ?_⟩ <;> simp [World.cell?, h]
theorem PAt3.kept {w w' : World} {b : Nat} {x y z : Int} (h : PAt3 w b x y z) (hb : Below w.heap.size w w') : b < w'.heap.size ∧ w'.cell? ⟨b, 0, none⟩ = some (.int .i64 x) ∧ w'.cell? ⟨b, 1, none⟩ = some (.int .i64 y) ∧ w'.cell? ⟨b, 2, none⟩ = some (.int .i64 z) := (h.below hb).cells
theorem PAt3.grown {w w' : World} {b c : Nat} {x y z : Int} (h : PAt3 w b x y z) (hg : w.grownBy w' (some c)) (hc : c ≠ b) : b < w'.heap.size ∧ w'.cell? ⟨b, 0, none⟩ = some (.int .i64 x) ∧ w'.cell? ⟨b, 1, none⟩ = some (.int .i64 y) ∧ w'.cell? ⟨b, 2, none⟩ = some (.int .i64 z) :=
  PAt3.cells ((hg.block b h.lt (fun e => hc (Option.some.inj e).symm)).trans h)
theorem Below.grownN {w w' : World} (h : Below w.heap.size w w') : w.grownBy w' none := ⟨h.os, h.tape, h.output, h.size, fun k hk _ => h.block k hk⟩
theorem _root_.Go.World.ownsMap.belowM {H : Type} {P : Program} {k : TypeId} {R : Value → Option (DataW H × List MemPlace)} {w w' : World} {b n : Nat} {D : DataW H} (h : w.ownsMap P k R b n D) (hb : Below w.heap.size w w') : w'.ownsMap P k R b n D := h.kept (Below.grownN hb) (by simp)

set_option maxRecDepth 100000 in
set_option maxHeartbeats 1000000 in
theorem ks_some (c o cap : Nat) (ps : List LPr) (w : World) (hn : ps.length ≤ 1000) (hz : PrAt w c o ps) (hw : ∀ p ∈ ps, WfP p) :
    Calls Try.prog 38 #[.slice (some ⟨c, o, none⟩) ps.length cap] w fun e w' => e = .returned (.map (some w.heap.size)) ∧ w'.ownsMap Try.prog 83 (plainElem (H := Unit) Try.prog 2) w.heap.size ps.length (Kd ps) ∧ Below w.heap.size w w' := by
  have HZ := Lib.hid hz
  have HW := Lib.hid hw
  clear hz hw
  generalize hN : ps.length = n at *
  have HN := Lib.hid hN
  clear hN
  have hmm := mk_map
  go_enter Try.func38, Try.ntmps38
  go_wp2
  have HM0 := Lib.hid (World.ownsMap_made w Try.prog 83 (plainElem (H := Unit) Try.prog 2))
  go_loopw [11] (fun i wr => ∃ k : Nat, i = .int .i64 k ∧ k ≤ n ∧ Hid (wr.ownsMap Try.prog 83 (plainElem (H := Unit) Try.prog 2) w.heap.size k (Kd (ps.take k))) ∧ Hid (Below w.heap.size w wr)) (fun i _ => n - (intOf i).toNat)
  case atStart => exact ⟨0, rfl, Nat.zero_le _, HM0, bA0 _ _⟩
  case round =>
    obtain ⟨k, rfl, hk, M0, H2⟩ := hrel
    have hk0 : (0 : Int) ≤ (k : Int) := by omega
    by_cases h1 : k < n
    · have h1' : (k : Int) < (n : Int) := by omega
      have hlt : k < ps.length := by rw [HN.out]; exact h1
      obtain ⟨a, b, q, hp⟩ : ∃ a b q, ps[k] = (a, b, q) := ⟨_, _, _, rfl⟩
      have hc0 := (H2.out.cell HZ.out.lt).trans (HZ.out.cell k hlt).1
      have hc1 := (H2.out.cell HZ.out.lt).trans (HZ.out.cell k hlt).2.1
      have hc2 := (H2.out.cell HZ.out.lt).trans (HZ.out.cell k hlt).2.2
      have HW1 := Lib.hid (HW.out ps[k] (List.getElem_mem hlt))
      have KE := Lib.hid (show Kd (ps.take (k + 1)) = (Kd (ps.take k)).put (kOf (ends ps[k])) (.lit (.int .i64 ps[k].2.2)) by rw [List.take_add_one, List.getElem?_eq_getElem hlt]; exact Kd_add _ _)
      rw [hp] at hc0 hc1 hc2 HW1 KE
      dsimp only at hc0 hc1 hc2 HW1 KE
      have hcl : c < wr.heap.size := Nat.lt_of_lt_of_le HZ.out.lt H2.out.size
      have hs2 := H2.out.size
      have E1 : Hid (∀ W, Calls Try.prog 45 #[.agg #[.int .i64 a, .int .i64 b, .int .i64 q]] W fun e w' => e = .returned (.agg #[.int .i64 a, .int .i64 b]) ∧ Below W.heap.size W w') := fun W => en_any (a, b, q) W
      have hml := M0.out.lt
      have M1 := Lib.hid (M0.out.alloc (.cells #[.int .i64 a, .int .i64 b, .int .i64 q] 69))
      have B1 := Lib.hid (bA H2.out (.cells #[.int .i64 a, .int .i64 b, .int .i64 q] 69))
      have PA := Lib.hid (PAt3.new wr a b q)
      clear hp hlt
      go_wp2_with fail
      generalize wr.alloc (.cells #[.int .i64 a, .int .i64 b, .int .i64 q] 69) = w1 at *
      have KB : Hid (∀ W, Below w1.heap.size w1 W → wr.heap.size < W.heap.size ∧ W.cell? ⟨wr.heap.size, 0, none⟩ = some (.int .i64 a) ∧ W.cell? ⟨wr.heap.size, 1, none⟩ = some (.int .i64 b) ∧ W.cell? ⟨wr.heap.size, 2, none⟩ = some (.int .i64 q)) := fun W hW => PA.out.kept hW
      have KG : Hid (∀ W W', Below w1.heap.size w1 W → W.grownBy W' (some w.heap.size) → wr.heap.size < W'.heap.size ∧ W'.cell? ⟨wr.heap.size, 0, none⟩ = some (.int .i64 a) ∧ W'.cell? ⟨wr.heap.size, 1, none⟩ = some (.int .i64 b) ∧ W'.cell? ⟨wr.heap.size, 2, none⟩ = some (.int .i64 q)) := fun W W' hW hg => (PA.out.below hW).grown hg (by omega)
      refine wp_region_held_drew (S := fun W => wr.heap.size < W.heap.size ∧ W.cell? ⟨wr.heap.size, 0, none⟩ = some (.int .i64 a) ∧ W.cell? ⟨wr.heap.size, 1, none⟩ = some (.int .i64 b) ∧ W.cell? ⟨wr.heap.size, 2, none⟩ = some (.int .i64 q)) (by kernel_rfl) ?_ (fun hHeld => ?_)
      · exact KB.out _ (Below.refl _ _).drew
      refine wpAnyH_take (i := 0) (oi := _) (v := ?_) rfl (by kernel_rfl) (by kernel_rfl) (by kernel_rfl) (fun _ _ _ h => h) (Or.inl ⟨by rfl, ?_⟩) (by assumption) ?_
      rotate_left
      · first | (intro w hSw; (try dsimp only at hSw); go_simp; done) | (intro w hSw; (try dsimp only at hSw); go_simp; with_reducible rfl)
      try simp only [Act.put, List.setIfInBounds_toArray, List.set_cons_zero, List.set_cons_succ, List.getElem_toArray, List.getElem_cons_zero]
      refine wpAnyH_take (i := 1) (oi := _) (v := ?_) rfl (by kernel_rfl) (by kernel_rfl) (by kernel_rfl) (fun _ _ _ h => h) (Or.inl ⟨by rfl, ?_⟩) (by assumption) ?_
      rotate_left
      · first | (intro w hSw; (try dsimp only at hSw); go_simp; done) | (intro w hSw; (try dsimp only at hSw); go_simp; with_reducible rfl)
      try simp only [Act.put, List.setIfInBounds_toArray, List.set_cons_zero, List.set_cons_succ, List.getElem_toArray, List.getElem_cons_succ, List.getElem_cons_zero]
      refine wpAnyH_take (i := 3) (oi := _) (v := ?_) rfl (by kernel_rfl) (by kernel_rfl) (by kernel_rfl) (fun _ _ _ h => h) (Or.inl ⟨by rfl, ?_⟩) (by assumption) ?_
      rotate_left
      · first | (intro w hSw; (try dsimp only at hSw); go_simp; done) | (intro w hSw; (try dsimp only at hSw); go_simp; with_reducible rfl)
      try simp only [Act.put, List.setIfInBounds_toArray, List.set_cons_zero, List.set_cons_succ, List.getElem_toArray, List.getElem_cons_succ, List.getElem_cons_zero]
      refine wpAnyH_take (i := 4) (oi := _) (v := ?_) rfl (by kernel_rfl) (by kernel_rfl) (by kernel_rfl) (fun _ _ _ h => h) (Or.inl ⟨by rfl, ?_⟩) (by assumption) ?_
      rotate_left
      · first | (intro w hSw; (try dsimp only at hSw); go_simp; done) | (intro w hSw; (try dsimp only at hSw); go_simp; with_reducible rfl)
      try simp only [Act.put, List.setIfInBounds_toArray, List.set_cons_zero, List.set_cons_succ, List.getElem_toArray, List.getElem_cons_succ, List.getElem_cons_zero]
      refine wpAnyH_ready (rs := [2]) (by kernel_rfl) (by simp) ?_
      refine AllReadyH.cons rfl (fun K hK => ?_) AllReadyH.nil
      go_simp
      go_wp2_with (go_at_call 45; refine (E1.out _).mono ?_; rintro e w5 ⟨rfl, b5⟩)
      have D5 : Hid (Below w1.heap.size w1 w5) := bT ((Below.refl w1.heap.size w1).drew) b5
      clear b5
      refine hK.out _ _ ?_ (fun hHeld => ?_)
      · exact KB.out _ D5.out
      clear hK K
      refine wpAnyH_ready (rs := [5]) (by kernel_rfl) (by simp) ?_
      refine AllReadyH.cons rfl (fun K hK => ?_) AllReadyH.nil
      have M5 := Lib.hid (M1.out.belowM D5.out)
      obtain ⟨w6, hrun, own6, grow6⟩ := M5.out.update law63 Try.underlying80 (by unfold maxLen; omega) (key_is (a, b) HW1.out.1) (plainElem_int Try.underlying2 HW1.out.2)
      have D6 := Lib.hid grow6
      clear grow6
      dsimp only [EV] at hrun
      go_simp
      refine hK.out _ _ ?_ (fun hHeld => ?_)
      · exact KG.out _ _ D5.out D6.out
      clear hK K
      refine wpAnyH_done (by kernel_rfl) ?_ _
      have B6 := Lib.hid ((bT B1.out D5.out).grown D6.out (Nat.le_trans H2.out.size (Nat.le_trans (by have := PA.out.lt; omega) D5.out.size)) (fun j hj => by cases hj; exact Nat.le_refl _))
      have N6 : Hid (w6.ownsMap Try.prog 83 (plainElem (H := Unit) Try.prog 2) w.heap.size (k + 1) (Kd (ps.take (k + 1)))) := by rw [KE.out]; exact own6
      clear own6 hrun M5 D5 D6 KB KG PA
      go_wp2_with fail
      go_roundw
      case rel => exact ⟨k + 1, by go_num, by omega, N6, B6⟩
      case measure => simp [intOf]; omega
    · have h1' : ¬ (k : Int) < (n : Int) := by omega
      have e : k = n := by omega
      have M9 := M0.out
      rw [List.take_of_length_le (by rw [HN.out]; omega), e] at M9
      have P := Lib.hid (And.intro M9 H2.out)
      clear M9 M0
      go_wp2
      go_ret
      exact ⟨rfl, P.out.1, P.out.2⟩

theorem ks_any (sl : Option Addr) (cap : Nat) (ps : List LPr) (w : World) (hn : ps.length ≤ 1000) (hz : Prs w sl ps) (hw : ∀ p ∈ ps, WfP p) :
    Calls Try.prog 38 #[.slice sl ps.length cap] w fun e w' => e = .returned (.map (some w.heap.size)) ∧ w'.ownsMap Try.prog 83 (plainElem (H := Unit) Try.prog 2) w.heap.size ps.length (Kd ps) ∧ Below w.heap.size w w' := by
  rcases hz with rfl | ⟨c, o, rfl, h⟩
  · exact ks_nil sl cap w
  · exact ks_some c o cap ps w hn h hw

end Go.Proofs.Ytgfclllfkpblnaa
