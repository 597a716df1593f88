/-
  THE LAWS' CLAUSES copied into a Cnf; are clauses right? As both sides answer it.
-/
import Derived.Test.YtoncpiaboceefaaDoorQc
import Derived.Test.YtoncpiaboceefaaDoorQb
namespace Go.Proofs.YtoncpiaboceefaaDoor
open Go.RowKit
set_option linter.unusedVariables false

set_option maxRecDepth 100000 in
set_option maxHeartbeats 1000000 in
/-- toCnf. -/
theorem toC_any (vars : Int) (sl : Option Addr) (cap : Nat) (cs : List LCl) (w : World) (hn : cs.length ≤ 1048576) (hs : totC cs ≤ 1048576) (hz : Cls w sl cs) :
    Calls Tryd.prog 29 #[CV vars sl cs.length cap] w fun e w' => ∃ b cs', e = .returned (CV vars (some ⟨b, 0, none⟩) cs.length cs.length) ∧ bareC cs' = bareC cs ∧ Cls w' (some ⟨b, 0, none⟩) cs' ∧ Below w.heap.size w w' := by
  have E1 : Hid (∀ W, Below w.heap.size w W → Calls Tryd.prog 38 #[.slice sl cs.length cap] W fun e w' => ∃ cs' : List LCl, e = .returned (.slice (some ⟨W.heap.size, 0, none⟩) cs.length cs.length) ∧ bareC cs' = bareC cs ∧ RowV w' W.heap.size cs.length (cs'.map fun r => r.1) ∧ (∀ r ∈ cs', ClOut W.heap.size w' r) ∧ Below W.heap.size W w') := fun W hW => toL_any sl cap cs W hn hs (hz.below hW)
  clear hz
  generalize cs.length = n at *
  go_enter Tryd.func29, Tryd.ntmps29
  go_wp2_with fail
  refine (E1.out _ (bA (bA (bA0 _ _) _) _)).mono ?_
  rintro e w1 ⟨cs', rfl, eb, r1, d1, b1⟩
  obtain ⟨n0, n1, n2, n3⟩ := three_new w (.cells #[.int .i64 vars, .slice sl n cap] 53) (.cells #[.int .i64 0, .slice none 0 0] 27) (.cells #[.int .i64 vars, .slice none 0 0] 27)
  have BB := Lib.hid (bT (bA (bA (bA0 w (.cells #[.int .i64 vars, .slice sl n cap] 53)) (.cells #[.int .i64 0, .slice none 0 0] 27)) (.cells #[.int .i64 vars, .slice none 0 0] 27)) b1)
  rw [n3] at r1 d1 b1 ⊢
  have hz := b1.size
  rw [n3] at hz
  have m1 := (b1.block (w.heap.size + 1) (by omega)).trans n1
  have m2 := (b1.block (w.heap.size + 2) (by omega)).trans n2
  have R1 := Lib.hid r1
  have DD := Lib.hid d1
  have EB := Lib.hid eb
  clear r1 d1 b1 eb n0 n1 n2 n3
  have q0 : w1.cell? ⟨w.heap.size + 1 + 1, 0, none⟩ = some (.int .i64 vars) ∧ w1.cell? ⟨w.heap.size + 1 + 1, 1, none⟩ = some (.slice none 0 0) ∧ (∀ o, w1.frozen? ⟨w.heap.size + 1 + 1, o, none⟩ = false) := by
    refine ⟨?_, ?_, fun o => ?_⟩ <;> simp [World.cell?, World.frozen?, m2]
  have q1 : w1.cell? ⟨w.heap.size + 1, 0, none⟩ = some (.int .i64 0) ∧ w1.cell? ⟨w.heap.size + 1, 1, none⟩ = some (.slice none 0 0) ∧ (∀ o, w1.frozen? ⟨w.heap.size + 1, o, none⟩ = false) := by
    refine ⟨?_, ?_, fun o => ?_⟩ <;> simp [World.cell?, World.frozen?, m1]
  obtain ⟨q00, q01, q0f⟩ := q0
  obtain ⟨q10, q11, q1f⟩ := q1
  clear m1 m2
  have P : Hid (Cls (((w1.setCell ⟨w.heap.size + 1 + 1, 1, none⟩ (.slice (some ⟨w.heap.size + 3, 0, none⟩) n n)).setCell ⟨w.heap.size + 1, 0, none⟩ (.int .i64 vars)).setCell ⟨w.heap.size + 1, 1, none⟩ (.slice (some ⟨w.heap.size + 3, 0, none⟩) n n)) (some ⟨w.heap.size + 3, 0, none⟩) cs' ∧ Below w.heap.size w (((w1.setCell ⟨w.heap.size + 1 + 1, 1, none⟩ (.slice (some ⟨w.heap.size + 3, 0, none⟩) n n)).setCell ⟨w.heap.size + 1, 0, none⟩ (.int .i64 vars)).setCell ⟨w.heap.size + 1, 1, none⟩ (.slice (some ⟨w.heap.size + 3, 0, none⟩) n n))) :=
    ⟨(((R1.out.setLow (by omega) _ _).setLow (by omega) _ _).setLow (by omega) _ _).cls (fun r hr => (((DD.out r hr).set (by omega) _ _).set (by omega) _ _).set (by omega) _ _), ((BB.out.setCell (Nat.le_add_right _ 2) _).setCell (Nat.le_add_right _ 1) _).setCell (Nat.le_add_right _ 1) _⟩
  clear R1 DD BB
  go_wp2
  refine bodyPost_ret (v := CV vars (some ⟨w.heap.size + 3, 0, none⟩) n n) (by simp [results, Tryd.results29, go_sem, q10, q11]) rfl ⟨_, cs', rfl, EB.out, P.out⟩

/-- The first k clauses are right. -/
def ClsTo (vars : Int) (zss : List (List Int)) (k : Nat) : Prop := ∀ i, i < k → ClR vars (zss.getD i [])
/-- Clauses are right. -/
def CnfR (vars : Int) (zss : List (List Int)) : Prop := (0 ≤ vars ∧ vars ≤ 96) ∧ zss.length ≤ 4000 ∧ ClsTo vars zss zss.length
theorem ClsTo.zero (vars : Int) (zss : List (List Int)) : ClsTo vars zss 0 := fun i h => absurd h (Nat.not_lt_zero _)
theorem ClsTo.step {vars : Int} {zss : List (List Int)} {k : Nat} (h : ClsTo vars zss k) (g : ClR vars (zss.getD k [])) : ClsTo vars zss (k + 1) := fun i hi => by
  by_cases e : i = k
  · subst e; exact g
  · exact h i (by omega)
theorem bareC_get {cs : List LCl} {k : Nat} (h : k < cs.length) : (bareC cs).getD k [] = cs[k].2 := by simp [bareC, h]
theorem bareC_length (cs : List LCl) : (bareC cs).length = cs.length := by simp [bareC]
/-- A Cnf lies in block b. -/
def CnfAt (w : World) (b : Nat) (vars : Int) (sl : Option Addr) (n cap : Nat) : Prop := w.heap[b]? = some (.cells #[.int .i64 vars, .slice sl n cap] 27)
theorem CnfAt.lt {w : World} {b : Nat} {vars : Int} {sl : Option Addr} {n cap : Nat} (h : CnfAt w b vars sl n cap) : b < w.heap.size := (Array.getElem?_eq_some_iff.1 h).1
theorem CnfAt.below {w w' : World} {b : Nat} {vars : Int} {sl : Option Addr} {n cap : Nat} (h : CnfAt w b vars sl n cap) (hb : Below w.heap.size w w') : CnfAt w' b vars sl n cap := (hb.block b h.lt).trans h
theorem CnfAt.cells {w : World} {b : Nat} {vars : Int} {sl : Option Addr} {n cap : Nat} (h : CnfAt w b vars sl n cap) : w.cell? ⟨b, 0, none⟩ = some (.int .i64 vars) ∧ w.cell? ⟨b, 1, none⟩ = some (.slice sl n cap) := by
  unfold CnfAt at h
  constructor <;> simp [World.cell?, h]
theorem CnfAt.new (w : World) (vars : Int) (sl : Option Addr) (n cap : Nat) : CnfAt (w.alloc (.cells #[.int .i64 vars, .slice sl n cap] 27)) w.heap.size vars sl n cap := new_at _ _

set_option maxRecDepth 100000 in
set_option maxHeartbeats 2000000 in
/-- impl.CnfRight. -/
theorem icr_any (vars : Int) (sl : Option Addr) (cap : Nat) (cs : List LCl) (w : World) (hn : cs.length ≤ maxLen) (hz : Cls w sl cs) :
    Calls Tryd.prog 78 #[CV vars sl cs.length cap] w fun e w' => e = .returned (.bool (B (CnfR vars (bareC cs)))) ∧ Below w.heap.size w w' := by
  unfold maxLen at hn
  have CA := Lib.hid (CnfAt.new w vars sl cs.length cap)
  have B0 := Lib.hid (bA0 w (.cells #[.int .i64 vars, .slice sl cs.length cap] 27))
  have HB := Lib.hid (bareC_length cs)
  by_cases c1 : vars < 0
  · have NO := Lib.hid (B_no (p := CnfR vars (bareC cs)) (fun g => by have := g.1.1; omega))
    rw [NO.out]
    clear NO hz HB
    generalize cs.length = n at *
    go_enter Tryd.func78, Tryd.ntmps78
    go_wp2
    go_ret
    exact ⟨rfl, B0.out⟩
  by_cases c2 : 96 < vars
  · have NO := Lib.hid (B_no (p := CnfR vars (bareC cs)) (fun g => by have := g.1.2; omega))
    rw [NO.out]
    clear NO hz HB
    generalize cs.length = n at *
    go_enter Tryd.func78, Tryd.ntmps78
    go_wp2
    go_ret
    exact ⟨rfl, B0.out⟩
  by_cases c3 : 4000 < cs.length
  · have NO := Lib.hid (B_no (p := CnfR vars (bareC cs)) (fun g => by have := g.2.1; rw [HB.out] at this; omega))
    have c3' : (4000 : Int) < (cs.length : Int) := by omega
    rw [NO.out]
    clear NO hz HB
    generalize cs.length = n at *
    go_enter Tryd.func78, Tryd.ntmps78
    go_wp2
    go_ret
    exact ⟨rfl, B0.out⟩
  have c3' : ¬ (4000 : Int) < (cs.length : Int) := by omega
  have YY := Lib.hid (show ∀ k, cs.length ≤ k → ClsTo vars (bareC cs) k → B (CnfR vars (bareC cs)) = true from fun k hk h => B_yes ⟨⟨by omega, by omega⟩, by rw [HB.out]; omega, fun i hi => h i (by rw [HB.out] at hi; omega)⟩)
  have NN := Lib.hid (show ∀ k, k < cs.length → ¬ ClR vars ((bareC cs).getD k []) → B (CnfR vars (bareC cs)) = false from fun k hk h => B_no (fun g => h (g.2.2 k (by rw [HB.out]; exact hk))))
  have HZ := Lib.hid hz
  clear hz HB
  generalize hN : cs.length = n at *
  have HN := Lib.hid hN
  clear hN
  go_enter Tryd.func78, Tryd.ntmps78
  go_wp2
  go_loopw [22] (fun i wr => ∃ k : Nat, i = .int .i64 k ∧ k ≤ n ∧ Hid (ClsTo vars (bareC cs) k) ∧ Hid (Below (w.alloc (.cells #[.int .i64 vars, .slice sl n cap] 27)).heap.size (w.alloc (.cells #[.int .i64 vars, .slice sl n cap] 27)) wr)) (fun i _ => n - (intOf i).toNat)
  case atStart => exact ⟨0, rfl, Nat.zero_le _, ClsTo.zero _ _, Below.refl _ _⟩
  case round =>
    obtain ⟨k, rfl, hk, IT, H2⟩ := hrel
    have hk0 : (0 : Int) ≤ (k : Int) := by omega
    have DW := Lib.hid (bT B0.out H2.out)
    by_cases g1 : k < n
    · have g1' : (k : Int) < (n : Int) := by omega
      have hlt : k < cs.length := by rw [HN.out]; exact g1
      have TA := CA.out.below H2.out
      obtain ⟨t0, t1⟩ := TA.cells
      have tl := TA.lt
      obtain ⟨c, o, rfl, Z0⟩ := HZ.out.at hlt
      have hc := (Z0.below DW.out).2 k hlt
      obtain ⟨s1, k1, v1, i1, l1⟩ := (HZ.out.each cs[k] (List.getElem_mem hlt)).below DW.out
      rw [v1] at hc
      have E := Lib.hid (clr_any vars s1 k1 cs[k].2 wr i1)
      have BG := Lib.hid (bareC_get hlt)
      cases hb : B (ClR vars cs[k].2) with
      | true =>
        rw [hb] at E
        have IT2 := Lib.hid (IT.out.step (by rw [BG.out]; exact B_true hb))
        clear hb IT i1 l1 Z0 TA v1 BG
        generalize cs[k].2.length = q at *
        clear hlt
        go_wp2_with fail
        refine E.out.mono ?_
        rintro e w5 ⟨rfl, b5⟩
        have D5 := Lib.hid (bT H2.out b5)
        clear b5 E
        go_wp2
        go_roundw
        case rel => exact ⟨k + 1, by go_num, by omega, IT2, D5⟩
        case measure => simp [intOf]; omega
      | false =>
        rw [hb] at E
        have NO := Lib.hid (NN.out k g1 (by rw [BG.out]; exact B_false hb))
        clear hb IT i1 l1 Z0 TA v1 BG
        generalize cs[k].2.length = q at *
        clear hlt
        go_wp2_with fail
        refine E.out.mono ?_
        rintro e w5 ⟨rfl, b5⟩
        have D5 := Lib.hid (bT DW.out b5)
        clear b5 E
        go_wp2
        go_ret
        exact ⟨by rw [NO.out]; rfl, D5.out⟩
    · have g1' : ¬ (k : Int) < (n : Int) := by omega
      have YES := Lib.hid (YY.out k (by omega) IT.out)
      clear IT
      go_wp2
      go_ret
      exact ⟨by rw [YES.out]; rfl, DW.out⟩

end Go.Proofs.YtoncpiaboceefaaDoor
