/-
  THE VALUE OF A LITERAL: spec.l01Has, both LitValue, the law's walk.
  VALUES BY VARIABLE: an array of 97 numbers that stands for a trail; its methods of, put, take.
  IS A TRAIL RIGHT? Both sides.
  UNITS: which literals of a clause are not false, the first clause that is false or a unit; notFalse, passing, firstDue.
-/
import Derived.Test.YtendehejodgljaaJab
import Derived.Lib.SliceRun
namespace Go.Proofs.Ytendehejodgljaa
open Go.RowKit
set_option linter.unusedVariables false

set_option maxHeartbeats 1000000 in
/-- spec.l01Has. -/
theorem lhas_any (sl : Option Addr) (cap : Nat) (zs : List Int) (x : Int) (w : World) (hn : zs.length ≤ maxLen) (hz : Ints w sl zs) :
    Calls Try.prog 48 #[.slice sl zs.length cap, .int .i64 x] w fun e w' => e = .returned (.bool (B (x ∈ zs))) ∧ w' = w := by
  unfold maxLen at hn
  have HZ := Lib.hid hz
  clear hz
  generalize hR : B (x ∈ zs) = r
  have HR := Lib.hid hR
  clear hR
  generalize hN : zs.length = n at *
  have HN := Lib.hid hN
  clear hN
  go_enter Try.func48, Try.ntmps48
  go_wp2
  go_loopw [5] (fun i wr => ∃ k : Nat, i = .int .i64 k ∧ k ≤ n ∧ Hid (NotIn zs x k) ∧ wr = w) (fun i _ => n - (intOf i).toNat)
  case atStart => exact ⟨0, rfl, Nat.zero_le _, fun i h => absurd h (Nat.not_lt_zero _), rfl⟩
  case round =>
    obtain ⟨k, rfl, hk, NI, rfl⟩ := hrel
    have hk0 : (0 : Int) ≤ (k : Int) := by omega
    by_cases h1 : k < n
    · have h1' : (k : Int) < (n : Int) := by omega
      have hlt : k < zs.length := by rw [HN.out]; exact h1
      obtain ⟨c, o, rfl, ZI⟩ : ∃ c o, sl = some ⟨c, o, none⟩ ∧ IntsAt wr c o zs := by
        rcases HZ.out with e | h
        · rw [e] at hlt; simp at hlt
        · exact h
      have hc := ZI.2 k hlt
      by_cases hx : zs.getD k 0 = x
      · have R := Lib.hid (show r = true by rw [← HR.out]; exact B_yes (by rw [← hx]; simp [hlt]))
        have hx' : (zs.getD k 0 == x) = true := beq_iff_eq.2 hx
        generalize zs.getD k 0 = z at *
        clear hlt ZI hx
        go_wp2
        go_ret
        exact ⟨by rw [R.out]; rfl, rfl⟩
      · have hx' : (zs.getD k 0 == x) = false := beq_eq_false_iff_ne.2 hx
        have NI2 := Lib.hid (show NotIn zs x (k + 1) from fun i hi => by
          by_cases e : i = k
          · subst e; exact hx
          · exact NI.out i (by omega))
        generalize zs.getD k 0 = z at *
        clear hlt ZI hx NI
        go_wp2
        go_roundw
        case rel => exact ⟨k + 1, by go_num, by omega, NI2, trivial⟩
        case measure => simp [intOf]; omega
    · have h1' : ¬ (k : Int) < (n : Int) := by omega
      have R := Lib.hid (show r = false by
        rw [← HR.out]
        refine B_no (notIn_mem ?_)
        have := NI.out
        rwa [show k = zs.length by rw [HN.out]; omega] at this)
      clear NI
      go_wp2
      go_ret
      exact ⟨by rw [R.out]; rfl, rfl⟩

/-- What a literal is by a trail. -/
noncomputable def lvL (zs : List Int) (x : Int) : Int := @ite _ (x ∈ zs) (Classical.propDecidable _) 1 (@ite _ (wrap64 (-x) ∈ zs) (Classical.propDecidable _) (-1) 0)
noncomputable def litF (zs : List Int) (x : Int) : Int := if zs.length ≤ 400 then lvL zs x else 0
theorem lvL_yes {zs : List Int} {x : Int} (h : x ∈ zs) : lvL zs x = 1 := by unfold lvL; rw [if_pos h]
theorem lvL_neg {zs : List Int} {x : Int} (h : x ∉ zs) (h2 : wrap64 (-x) ∈ zs) : lvL zs x = -1 := by unfold lvL; rw [if_neg h, if_pos h2]
theorem lvL_no {zs : List Int} {x : Int} (h : x ∉ zs) (h2 : wrap64 (-x) ∉ zs) : lvL zs x = 0 := by unfold lvL; rw [if_neg h, if_neg h2]
theorem litF_long {zs : List Int} {x : Int} (h : 400 < zs.length) : litF zs x = 0 := by unfold litF; rw [if_neg (by omega)]
theorem litF_short {zs : List Int} {x : Int} (h : zs.length ≤ 400) : litF zs x = lvL zs x := by unfold litF; rw [if_pos h]

set_option maxHeartbeats 1000000 in
/-- impl.LitValue. -/
theorem ilv_any (sl : Option Addr) (cap : Nat) (zs : List Int) (x : Int) (w : World) (hn : zs.length ≤ maxLen) (hz : Ints w sl zs) :
    Calls Try.prog 14 #[.slice sl zs.length cap, .int .i64 x] w fun e w' => e = .returned (.int .i64 (litF zs x)) ∧ Below w.heap.size w w' := by
  unfold maxLen at hn
  by_cases hl : 400 < zs.length
  · rw [litF_long hl]
    have hl' : (400 : Int) < (zs.length : Int) := by omega
    clear hz
    generalize zs.length = n at *
    go_enter Try.func14, Try.ntmps14
    go_wp2
    go_ret
    exact ⟨rfl, Below.refl _ _⟩
  · rw [litF_short (by omega)]
    have hl' : ¬ (400 : Int) < (zs.length : Int) := by omega
    have E : Hid (∀ y W, Below w.heap.size w W → Calls Try.prog 43 #[.slice sl zs.length cap, .int .i64 y] W fun e w' => e = .returned (.bool (B (y ∈ zs))) ∧ Below W.heap.size W w') := fun y W hW => has_any sl cap y zs W (by omega) (hz.below hW)
    clear hz
    by_cases h1 : x ∈ zs
    · have E1 := Lib.hid (E.out x w (Below.refl _ _))
      rw [B_yes h1] at E1
      rw [lvL_yes h1]
      clear E h1
      generalize zs.length = n at *
      go_enter Try.func14, Try.ntmps14
      go_wp2_with fail
      refine E1.out.mono ?_
      rintro e w1 ⟨rfl, b1⟩
      go_wp2
      go_ret
      exact ⟨rfl, b1⟩
    · have E1 := Lib.hid (E.out x w (Below.refl _ _))
      rw [B_no h1] at E1
      have E2 := Lib.hid (E.out (wrap64 (-x)))
      by_cases h2 : wrap64 (-x) ∈ zs
      · rw [lvL_neg h1 h2]
        rw [B_yes h2] at E2
        clear E h1 h2
        generalize zs.length = n at *
        generalize hy : wrap64 (-x) = y at *
        go_enter Try.func14, Try.ntmps14
        go_wp2_with fail
        refine E1.out.mono ?_
        rintro e w1 ⟨rfl, b1⟩
        have P1 := Lib.hid b1
        clear b1
        go_wp2_with fail
        refine (E2.out _ P1.out).mono ?_
        rintro e w2 ⟨rfl, b2⟩
        have P2 := Lib.hid (bT P1.out b2)
        clear b2
        go_wp2
        go_ret
        exact ⟨rfl, P2.out⟩
      · rw [lvL_no h1 h2]
        rw [B_no h2] at E2
        clear E h1 h2
        generalize zs.length = n at *
        generalize hy : wrap64 (-x) = y at *
        go_enter Try.func14, Try.ntmps14
        go_wp2_with fail
        refine E1.out.mono ?_
        rintro e w1 ⟨rfl, b1⟩
        have P1 := Lib.hid b1
        clear b1
        go_wp2_with fail
        refine (E2.out _ P1.out).mono ?_
        rintro e w2 ⟨rfl, b2⟩
        have P2 := Lib.hid (bT P1.out b2)
        clear b2
        go_wp2
        go_ret
        exact ⟨rfl, P2.out⟩

end Go.Proofs.Ytendehejodgljaa
namespace Go.Proofs.Ytendehejodgljaa
open Go.RowKit
set_option linter.unusedVariables false

/-- What a literal is by a trail: 1, -1 or 0. -/
noncomputable def val (tr : List Int) (z : Int) : Int := @ite _ (z ∈ tr) (Classical.propDecidable _) 1 (@ite _ (-z ∈ tr) (Classical.propDecidable _) (-1) 0)
theorem val_yes {tr : List Int} {z : Int} (h : z ∈ tr) : val tr z = 1 := by unfold val; rw [if_pos h]
theorem val_neg {tr : List Int} {z : Int} (h : z ∉ tr) (h2 : -z ∈ tr) : val tr z = -1 := by unfold val; rw [if_neg h, if_pos h2]
theorem val_no {tr : List Int} {z : Int} (h : z ∉ tr) (h2 : -z ∉ tr) : val tr z = 0 := by unfold val; rw [if_neg h, if_neg h2]
theorem val_cases (tr : List Int) (z : Int) : (val tr z = 1 ∧ z ∈ tr) ∨ (val tr z = -1 ∧ z ∉ tr ∧ -z ∈ tr) ∨ (val tr z = 0 ∧ z ∉ tr ∧ -z ∉ tr) := by
  by_cases h : z ∈ tr
  · exact .inl ⟨val_yes h, h⟩
  · by_cases h2 : -z ∈ tr
    · exact .inr (.inl ⟨val_neg h h2, h, h2⟩)
    · exact .inr (.inr ⟨val_no h h2, h, h2⟩)
theorem val_iff {a b : List Int} {x : Int} (e1 : x ∈ a ↔ x ∈ b) (e2 : -x ∈ a ↔ -x ∈ b) : val b x = val a x := by
  rcases val_cases a x with ⟨e, h1⟩ | ⟨e, h1, h2⟩ | ⟨e, h1, h2⟩
  · rw [e, val_yes (e1.1 h1)]
  · rw [e, val_neg (fun h => h1 (e1.2 h)) (e2.1 h2)]
  · rw [e, val_no (fun h => h1 (e1.2 h)) (fun h => h2 (e2.2 h))]
/-- No literal of it beside its minus. -/
def Cons (tr : List Int) : Prop := ∀ z ∈ tr, -z ∉ tr
theorem val_minus {tr : List Int} (h : Cons tr) (z : Int) : -val tr (-z) = val tr z := by
  rcases val_cases tr z with ⟨e, h1⟩ | ⟨e, h1, h2⟩ | ⟨e, h1, h2⟩
  · rw [e, val_neg (h z h1) (by simpa using h1)]; rfl
  · rw [e, val_yes h2]
  · rw [e, val_no h2 (by simpa using h1)]; rfl

/-- The array of the values of a trail. -/
noncomputable def vArr (tr : List Int) : Array Value := ((List.range 97).map fun k : Nat => Value.int .i64 (val tr (k : Int))).toArray
def VAt (w : World) (b : Nat) (tr : List Int) : Prop := w.heap[b]? = some (.cells (vArr tr) 59)
theorem vArr_size (tr : List Int) : (vArr tr).size = 97 := by simp [vArr]
theorem vArr_at (tr : List Int) (k : Nat) (h : k < 97) : (vArr tr)[k]? = some (.int .i64 (val tr (k : Int))) := by simp [vArr, h]
theorem VAt.lt {w : World} {b : Nat} {tr : List Int} (h : VAt w b tr) : b < w.heap.size := (Array.getElem?_eq_some_iff.1 h).1
theorem VAt.cell {w : World} {b : Nat} {tr : List Int} (h : VAt w b tr) (k : Nat) (hk : k < 97) : w.cell? ⟨b, k, none⟩ = some (.int .i64 (val tr (k : Int))) := by
  have : w.cell? ⟨b, k, none⟩ = (vArr tr)[k]? := by unfold VAt at h; simp [World.cell?, h]
  rw [this, vArr_at tr k hk]
theorem VAt.frozen {w : World} {b : Nat} {tr : List Int} (h : VAt w b tr) (k : Nat) : w.frozen? ⟨b, k, none⟩ = false := by unfold VAt at h; simp [World.frozen?, h]
theorem VAt.kept {w w' : World} {b : Nat} {tr : List Int} (h : VAt w b tr) (e : w'.heap[b]? = w.heap[b]?) : VAt w' b tr := e.trans h
theorem VAt.below {w w' : World} {b : Nat} {tr : List Int} (h : VAt w b tr) (hb : Below w.heap.size w w') : VAt w' b tr := (hb.block b h.lt).trans h
theorem vArr_nil : Try.zeroCells59 = vArr [] := by
  have h : Try.zeroCells59 = ((List.range 97).map fun _ => Value.int .i64 0).toArray := by kernel_rfl
  rw [h]
  unfold vArr
  congr 1
  apply List.map_congr_left
  intro k _
  rw [val_no (by simp) (by simp)]
/-- A literal more. -/
theorem vArr_put (tr : List Int) (z : Int) (i : Nat) (u : Int) (h1 : z ∉ tr) (h2 : -z ∉ tr) (hi : (z = (i : Int) ∧ u = 1) ∨ (z = -(i : Int) ∧ u = -1 ∧ 0 < i)) : (vArr tr).setIfInBounds i (.int .i64 u) = vArr (tr ++ [z]) := by
  apply Array.ext
  · simp [vArr]
  · intro k a1 a2
    simp only [Array.size_setIfInBounds] at a1
    rw [Array.getElem_setIfInBounds a1]
    simp only [vArr, List.getElem_toArray, List.getElem_map, List.getElem_range]
    by_cases hk : i = k
    · subst hk
      rw [if_pos rfl]
      rcases hi with ⟨rfl, rfl⟩ | ⟨rfl, rfl, h0⟩
      · rw [val_yes (by simp)]
      · rw [val_neg (by simp at h2 ⊢; exact ⟨h2, by omega⟩) (by simp)]
    · rw [if_neg hk]
      have e1 : ((k : Int) ∈ tr ++ [z]) ↔ (k : Int) ∈ tr := by
        simp only [List.mem_append, List.mem_singleton]
        exact ⟨fun h => by rcases h with h | h; exact h; rcases hi with ⟨rfl, _⟩ | ⟨rfl, _, _⟩ <;> omega, .inl⟩
      have e2 : (-(k : Int) ∈ tr ++ [z]) ↔ -(k : Int) ∈ tr := by
        simp only [List.mem_append, List.mem_singleton]
        exact ⟨fun h => by rcases h with h | h; exact h; rcases hi with ⟨rfl, _⟩ | ⟨rfl, _, _⟩ <;> omega, .inl⟩
      rw [val_iff e1 e2]
theorem VAt.put {w : World} {b : Nat} {tr : List Int} (h : VAt w b tr) (z : Int) (i : Nat) (u : Int) (h1 : z ∉ tr) (h2 : -z ∉ tr) (hi : (z = (i : Int) ∧ u = 1) ∨ (z = -(i : Int) ∧ u = -1 ∧ 0 < i)) : VAt (w.setCell ⟨b, i, none⟩ (.int .i64 u)) b (tr ++ [z]) := by
  have := heap_setCell_same w b i (vArr tr) 59 (.int .i64 u) h
  rw [vArr_put tr z i u h1 h2 hi] at this
  exact this
theorem Cons.put {tr : List Int} {z : Int} (h : Cons tr) (h1 : z ∉ tr) (h2 : -z ∉ tr) (h0 : z ≠ 0) : Cons (tr ++ [z]) := by
  intro y hy hn
  simp only [List.mem_append, List.mem_singleton] at hy hn
  rcases hy with hy | rfl
  · rcases hn with hn | hn
    · exact h y hy hn
    · exact h2 (by rw [← hn]; simpa using hy)
  · rcases hn with hn | hn
    · exact h2 hn
    · omega

set_option maxRecDepth 100000 in
set_option maxHeartbeats 1000000 in
/-- values.of. -/
theorem of_any (b : Nat) (tr : List Int) (z : Int) (w : World) (hv : VAt w b tr) (hc : Cons tr) (h1 : -96 ≤ z) (h2 : z ≤ 96) :
    Calls Try.prog 58 #[.pointer (some ⟨b, 0, none⟩), .int .i64 z] w fun e w' => e = .returned (.int .i64 (val tr z)) ∧ w' = w := by
  have hlt := hv.lt
  by_cases h : z < 0
  · have e : Hid (-val tr (-z) = val tr z) := val_minus hc z
    obtain ⟨k, hk⟩ : ∃ k : Nat, -z = (k : Int) := ⟨(-z).toNat, by omega⟩
    have hcell := hv.cell k (by omega)
    have hw : (-z).toNat = k := by omega
    have hk4 : -z < 97 := by omega
    have hk5 : 0 ≤ -z := by omega
    have hk2 : (k : Int) < 97 := by omega
    have hk3 : k < 97 := by omega
    have e2 : Hid (wrap64 (-val tr (k : Int)) = val tr z) := by
      show wrap64 (-val tr (k : Int)) = val tr z
      rw [← hk, wrap_in, e.out]
      rcases val_cases tr (-z) with ⟨g, _⟩ | ⟨g, _⟩ | ⟨g, _⟩ <;> rw [g] <;> omega
    clear hv hk e
    generalize val tr (k : Int) = y at *
    go_enter Try.func58, Try.ntmps58
    go_wp2
    go_ret
    exact ⟨by rw [e2.out]; rfl, rfl⟩
  · obtain ⟨k, rfl⟩ : ∃ k : Nat, z = (k : Int) := ⟨z.toNat, by omega⟩
    have hcell := hv.cell k (by omega)
    have hk2 : (k : Int) < 97 := by omega
    have hk3 : k < 97 := by omega
    clear hv
    generalize val tr (k : Int) = y at *
    go_enter Try.func58, Try.ntmps58
    go_wp2
    go_ret
    exact ⟨rfl, rfl⟩

set_option maxRecDepth 100000 in
set_option maxHeartbeats 1000000 in
/-- values.put. -/
theorem put_any (b : Nat) (tr : List Int) (z : Int) (w : World) (hv : VAt w b tr) (h1 : -96 ≤ z) (h2 : z ≤ 96) (h0 : z ≠ 0) (n1 : z ∉ tr) (n2 : -z ∉ tr) :
    Calls Try.prog 59 #[.pointer (some ⟨b, 0, none⟩), .int .i64 z] w fun e w' => e = .returned (.tuple #[]) ∧ VAt w' b (tr ++ [z]) ∧ ∃ i v, w' = w.setCell ⟨b, i, none⟩ v := by
  have hlt := hv.lt
  by_cases h : z < 0
  · obtain ⟨k, hk⟩ : ∃ k : Nat, -z = (k : Int) := ⟨(-z).toNat, by omega⟩
    have hcell := hv.cell k (by omega)
    have hfr := hv.frozen k
    have hw : (-z).toNat = k := by omega
    have hk4 : -z < 97 := by omega
    have hk5 : 0 ≤ -z := by omega
    have hk2 : (k : Int) < 97 := by omega
    have hk3 : k < 97 := by omega
    have P := Lib.hid (hv.put z k (-1) n1 n2 (.inr ⟨by omega, rfl, by omega⟩))
    clear hv hk n1 n2
    go_enter Try.func59, Try.ntmps59
    go_wp2
    refine bodyPost_ret (results_none rfl _ _ _) rfl ?_
    exact ⟨rfl, P.out, _, _, rfl⟩
  · obtain ⟨k, rfl⟩ : ∃ k : Nat, z = (k : Int) := ⟨z.toNat, by omega⟩
    have hcell := hv.cell k (by omega)
    have hfr := hv.frozen k
    have hk2 : (k : Int) < 97 := by omega
    have hk3 : k < 97 := by omega
    have P := Lib.hid (hv.put k k 1 n1 n2 (.inl ⟨rfl, rfl⟩))
    clear hv n1 n2
    go_enter Try.func59, Try.ntmps59
    go_wp2
    go_end0
    exact ⟨rfl, P.out, _, _, rfl⟩

theorem SpTo.pre {vars : Int} {zs : List Int} {k : Nat} (h : SpTo vars zs k) (hk : k ≤ zs.length) : ∀ z ∈ zs.take k, OkZ vars z ∧ -z ∉ zs.take k := by
  intro z hz
  obtain ⟨i, hi, rfl⟩ := List.getElem_of_mem hz
  have hi' : i < k := by simp at hi; omega
  have hg : (zs.take k)[i] = zs.getD i 0 := by simp [show i < zs.length by omega]
  refine ⟨by rw [hg]; exact (h i hi').1, fun hn => ?_⟩
  obtain ⟨j, hj, e⟩ := List.getElem_of_mem hn
  have hj' : j < k := by simp at hj; omega
  have hg2 : (zs.take k)[j] = zs.getD j 0 := by simp [show j < zs.length by omega]
  rw [hg, hg2] at e
  have n0 := (h i hi').1.1
  rcases Nat.lt_trichotomy i j with g | g | g
  · exact ((h j hj').2 i g).2 (by omega)
  · subst g; omega
  · exact ((h i hi').2 j g).2 e
theorem SpTo.cons {vars : Int} {zs : List Int} {k : Nat} (h : SpTo vars zs k) (hk : k ≤ zs.length) : Cons (zs.take k) := fun z hz => (h.pre hk z hz).2
theorem apart_iff (zs : List Int) (k : Nat) (hk : k < zs.length) : Apart zs k k ↔ zs.getD k 0 ∉ zs.take k ∧ -zs.getD k 0 ∉ zs.take k := by
  have hg : ∀ j, j < k → ∀ h : j < (zs.take k).length, (zs.take k)[j] = zs.getD j 0 := fun j hj h => by simp [show j < zs.length by omega]
  constructor
  · intro h
    refine ⟨fun hm => ?_, fun hm => ?_⟩
    · obtain ⟨j, hj, e⟩ := List.getElem_of_mem hm
      have hj' : j < k := by simp at hj; omega
      rw [hg j hj' hj] at e
      exact (h j hj').1 e
    · obtain ⟨j, hj, e⟩ := List.getElem_of_mem hm
      have hj' : j < k := by simp at hj; omega
      rw [hg j hj' hj] at e
      exact (h j hj').2 e
  · rintro ⟨h1, h2⟩ j hj
    have hl : j < (zs.take k).length := by simp; omega
    refine ⟨fun e => h1 ?_, fun e => h2 ?_⟩
    · rw [← e, ← hg j hj hl]; exact List.getElem_mem _
    · rw [← e, ← hg j hj hl]; exact List.getElem_mem _
theorem take_one (zs : List Int) (k : Nat) (hk : k < zs.length) : zs.take (k + 1) = zs.take k ++ [zs.getD k 0] := by
  rw [List.take_succ_eq_append_getElem hk]; simp [hk]

/-- Ninety-seven cells of the array's type. -/
def VBlk (w : World) (b : Nat) : Prop := ∃ vs : Array Value, vs.size = 97 ∧ w.heap[b]? = some (.cells vs 59)
theorem VAt.blk {w : World} {b : Nat} {tr : List Int} (h : VAt w b tr) : VBlk w b := ⟨_, vArr_size tr, h⟩
theorem zero2 : ∀ w, (zeroValue 2).run Try.prog w = .ok (.int .i64 0) w := Try.zeroValue2
/-- clear: the array of no literal. -/
theorem clear_arr (b : Nat) (w : World) (h : VBlk w b) (ty : TypeId) :
    ∃ w', (Builtin.clear_ #[26] ty #[.slice (some ⟨b, 0, none⟩) 97 97]).run Try.prog w = .ok (.tuple #[]) w' ∧ VAt w' b [] ∧ Below b w w' ∧ w'.heap.size = w.heap.size := by
  obtain ⟨vs, hs, hb⟩ := h
  have hc : ∀ j, j < 97 → (w.cell? ⟨b, 0 + j, none⟩).isSome = true := fun j hj => by simp [World.cell?, hb, hs, hj]
  have hf : ∀ j, j < 97 → w.frozen? ⟨b, 0 + j, none⟩ = false := fun j hj => by simp [World.frozen?, hb]
  refine ⟨_, Lib.run_clear_slice w 26 2 ty (.int .i64 0) Try.underlying26 zero2 rfl rfl b 0 97 97 (by omega) hc hf, ?_⟩
  have key : ∀ (ws : List Value) (o : Nat) (W : World) (us : Array Value), W.heap[b]? = some (.cells us 59) → o + ws.length = us.size → ∃ us', (W.setCells b o ws).heap[b]? = some (.cells us' 59) ∧ us'.size = us.size ∧ (∀ k, k < o → us'[k]? = us[k]?) ∧ (∀ k, k < ws.length → us'[o + k]? = ws[k]?) ∧ Below b W (W.setCells b o ws) ∧ (W.setCells b o ws).heap.size = W.heap.size := by
    intro ws
    induction ws with
    | nil => intro o W us h1 h2; exact ⟨us, h1, rfl, fun _ _ => rfl, fun k hk => by simp at hk, Below.refl _ _, rfl⟩
    | cons v r ih =>
      intro o W us h1 h2
      simp only [List.length_cons] at h2
      obtain ⟨us', g1, g2, g3, g4, g5, g6⟩ := ih (o + 1) (W.setCell ⟨b, o, none⟩ v) (us.setIfInBounds o v) (heap_setCell_same W b o us 59 v h1) (by simp; omega)
      refine ⟨us', g1, by rw [g2]; simp, fun k hk => ?_, fun k hk => ?_, ((Below.refl b W).setCell (p := ⟨b, o, none⟩) (Nat.le_refl _) v).trans g5, by rw [World.setCells, g6]; simp⟩
      · rw [g3 k (by omega), Array.getElem?_setIfInBounds_ne (by omega)]
      · cases k with
        | zero => rw [Nat.add_zero, g3 o (by omega), Array.getElem?_setIfInBounds_self_of_lt (by omega)]; rfl
        | succ k => 
          have := g4 k (by simpa using hk)
          rw [show o + (k + 1) = o + 1 + k by omega, this]; simp
  obtain ⟨us', g1, g2, g3, g4, g5, g6⟩ := key (List.replicate 97 (.int .i64 0)) 0 w vs hb (by simp [hs])
  refine ⟨?_, g5, g6⟩
  unfold VAt
  rw [g1]
  suffices hu : us' = vArr [] by rw [hu]
  apply Array.ext
  · rw [g2, hs, vArr_size]
  · intro i b1 b2
    have a1 : i < 97 := by rw [g2, hs] at b1; exact b1
    have e1 := g4 i (by simpa using a1)
    rw [Nat.zero_add, Array.getElem?_eq_getElem (by omega), List.getElem?_eq_getElem (by simpa using a1)] at e1
    have e2 := vArr_at [] i a1
    rw [Array.getElem?_eq_getElem (by rw [vArr_size]; exact a1)] at e2
    rw [Option.some.inj e1, Option.some.inj e2, val_no (by simp) (by simp)]
    exact List.getElem_replicate _

set_option maxRecDepth 100000 in
set_option maxHeartbeats 4000000 in
/-- values.take. -/
theorem take_any (b : Nat) (vars : Int) (sl : Option Addr) (cap : Nat) (zs : List Int) (w : World) (hb : VBlk w b) (hv0 : 0 ≤ vars) (hv1 : vars ≤ 96) (hn : zs.length ≤ maxLen) (hz : zs = [] ∨ ∃ c o, sl = some ⟨c, o, none⟩ ∧ IntsAt w c o zs ∧ c < b) :
    Calls Try.prog 39 #[.pointer (some ⟨b, 0, none⟩), .slice sl zs.length cap, .int .i64 vars] w fun e w' => e = .returned (.bool (B (SpTo vars zs zs.length))) ∧ (SpTo vars zs zs.length → VAt w' b zs) ∧ Below b w w' ∧ w'.heap.size = w.heap.size := by
  unfold maxLen at hn
  obtain ⟨w0, hrun, hva, hbl, hsz⟩ := clear_arr b w hb 0
  have hlt := hva.lt
  have hlt0 : b < w.heap.size := by omega
  have HV := Lib.hid hva
  have HB := Lib.hid hbl
  have HS := Lib.hid hsz
  have hnv : wrap64 (-vars) = -vars := wrap_in _ ⟨by omega, by omega⟩
  have ZC : Hid (∀ W, Below b w W → ∀ k, k < zs.length → ∃ c o, sl = some ⟨c, o, none⟩ ∧ W.cell? ⟨c, o + k, none⟩ = some (.int .i64 (zs.getD k 0))) := fun W hW k hk => by
    rcases hz with e | ⟨c, o, e, hi, hc⟩
    · rw [e] at hk; simp at hk
    · exact ⟨c, o, e, (hW.cell (p := ⟨c, o + k, none⟩) hc).trans (hi.2 k hk)⟩
  have PUT := Lib.hid (show ∀ W k, k < zs.length → VAt W b (zs.take k) → OkZ vars (zs.getD k 0) → Apart zs k k → Calls Try.prog 59 #[.pointer (some ⟨b, 0, none⟩), .int .i64 (zs.getD k 0)] W fun e w' => e = .returned (.tuple #[]) ∧ VAt w' b (zs.take (k + 1)) ∧ ∃ i v, w' = W.setCell ⟨b, i, none⟩ v from fun W k hk h1 h2 h3 => by
    rw [take_one zs k hk]
    have := (apart_iff zs k hk).1 h3
    exact put_any b (zs.take k) (zs.getD k 0) W h1 (by have := h2.2.2; omega) (by have := h2.2.1; omega) h2.1 this.1 this.2)
  have OF := Lib.hid (show ∀ W k, k < zs.length → VAt W b (zs.take k) → SpTo vars zs k → OkZ vars (zs.getD k 0) → Calls Try.prog 58 #[.pointer (some ⟨b, 0, none⟩), .int .i64 (zs.getD k 0)] W fun e w' => e = .returned (.int .i64 (val (zs.take k) (zs.getD k 0))) ∧ w' = W from fun W k hk h1 h2 h3 => of_any b (zs.take k) (zs.getD k 0) W h1 (h2.cons (by omega)) (by have := h3.2.2; omega) (by have := h3.2.1; omega))
  have NN := Lib.hid (show ∀ i, i < zs.length → ¬ (OkZ vars (zs.getD i 0) ∧ Apart zs i i) → ¬ SpTo vars zs zs.length from fun i hi h g => h (g i hi))
  have V0 := Lib.hid (show ∀ W, VAt W b [] → VAt W b (zs.take 0) from fun W h => by simpa using h)
  have VE := Lib.hid (show ∀ W k, zs.length ≤ k → VAt W b (zs.take k) → VAt W b zs from fun W k hk h => by rwa [List.take_of_length_le hk] at h)
  have AV := Lib.hid (show ∀ k, k < zs.length → (val (zs.take k) (zs.getD k 0) = 0 → Apart zs k k) ∧ (¬ val (zs.take k) (zs.getD k 0) = 0 → ¬ Apart zs k k) from fun k hk => by
    rw [apart_iff zs k hk]
    rcases val_cases (zs.take k) (zs.getD k 0) with ⟨e, h1⟩ | ⟨e, h1, h2⟩ | ⟨e, h1, h2⟩
    · exact ⟨fun h => by omega, fun _ g => g.1 h1⟩
    · exact ⟨fun h => by omega, fun _ g => g.2 h2⟩
    · exact ⟨fun _ => ⟨h1, h2⟩, fun h => absurd e h⟩)
  clear hz hva hbl hsz hb
  generalize hQ : SpTo vars zs zs.length = Q at *
  have HQ := Lib.hid hQ
  clear hQ
  generalize hN : zs.length = n at *
  have HN := Lib.hid hN
  clear hN
  go_enter Try.func39, Try.ntmps39
  go_wp2
  go_loopw [14] (fun i wr => ∃ k : Nat, i = .int .i64 k ∧ k ≤ n ∧ Hid (SpTo vars zs k) ∧ Hid (VAt wr b (zs.take k)) ∧ Hid (Below b w wr) ∧ Hid (wr.heap.size = w.heap.size)) (fun i _ => n - (intOf i).toNat)
  case atStart => exact ⟨0, rfl, Nat.zero_le _, SpTo.zero _ _, V0.out _ HV.out, HB.out, HS.out⟩
  case round =>
    obtain ⟨k, rfl, hk, H1, H2, H3, H4⟩ := hrel
    have hk0 : (0 : Int) ≤ (k : Int) := by omega
    have hltr : b < wr.heap.size := H2.out.lt
    by_cases h1 : k < n
    · have h1' : (k : Int) < (n : Int) := by omega
      obtain ⟨c, o, rfl, hc⟩ := ZC.out wr H3.out k h1
      have NO := Lib.hid (NN.out k h1)
      by_cases a1 : zs.getD k 0 = 0
      · have HF := Lib.hid (NO.out (fun g => g.1.1 a1))
        rw [a1] at hc
        clear NO NN AV OF PUT ZC
        go_wp2
        go_ret
        exact ⟨by rw [B_no HF.out]; rfl, fun h => absurd h HF.out, H3.out, H4.out⟩
      have a1' : (zs.getD k 0 == 0) = false := by simpa using a1
      by_cases a2 : zs.getD k 0 < -vars
      · have HF := Lib.hid (NO.out (fun g => by have := g.1.2.2; omega))
        clear NO NN AV OF PUT ZC
        generalize zs.getD k 0 = z at *
        go_wp2
        go_ret
        exact ⟨by rw [B_no HF.out]; rfl, fun h => absurd h HF.out, H3.out, H4.out⟩
      by_cases a3 : vars < zs.getD k 0
      · have HF := Lib.hid (NO.out (fun g => by have := g.1.2.1; omega))
        clear NO NN AV OF PUT ZC
        generalize zs.getD k 0 = z at *
        go_wp2
        go_ret
        exact ⟨by rw [B_no HF.out]; rfl, fun h => absurd h HF.out, H3.out, H4.out⟩
      have OK := Lib.hid (show OkZ vars (zs.getD k 0) from ⟨a1, by omega, by omega⟩)
      have CO := Lib.hid (OF.out wr k h1 H2.out H1.out OK.out)
      by_cases a4 : val (zs.take k) (zs.getD k 0) = 0
      · have AP := Lib.hid ((AV.out k h1).1 a4)
        have CP := Lib.hid (PUT.out wr k h1 H2.out OK.out AP.out)
        have HS2 := Lib.hid (H1.out.step OK.out AP.out)
        rw [a4] at CO
        clear NO NN AV OF PUT ZC AP OK a4
        generalize zs.getD k 0 = z at *
        go_wp2_with fail
        refine CO.out.mono ?_
        rintro e wq ⟨rfl, rfl⟩
        go_wp2_with fail
        refine CP.out.mono ?_
        rintro e wq ⟨rfl, hva, i, v, hset⟩
        have K3 := Lib.hid (show Below b w wq by rw [hset]; exact H3.out.setCell (p := ⟨b, i, none⟩) (Nat.le_refl _) v)
        have K4 := Lib.hid (show wq.heap.size = w.heap.size by rw [hset]; simpa using H4.out)
        have K2 := Lib.hid hva
        clear hva hset CP CO
        go_wp2
        go_roundw
        case rel => exact ⟨k + 1, by go_num, by omega, HS2, K2, K3, K4⟩
        case measure => simp [intOf]; omega
      · have HF := Lib.hid (NO.out (fun g => (AV.out k h1).2 a4 g.2))
        have a4' : (val (zs.take k) (zs.getD k 0) == 0) = false := by simpa using a4
        clear NO NN AV OF PUT ZC OK
        generalize val (zs.take k) (zs.getD k 0) = y at *
        generalize zs.getD k 0 = z at *
        go_wp2_with fail
        refine CO.out.mono ?_
        rintro e wq ⟨rfl, rfl⟩
        go_wp2
        go_ret
        exact ⟨by rw [B_no HF.out]; rfl, fun h => absurd h HF.out, H3.out, H4.out⟩
    · have h1' : ¬ (k : Int) < (n : Int) := by omega
      have HY := Lib.hid (show Q by rw [← HQ.out]; have := H1.out; rwa [show k = n by omega] at this)
      have HE := Lib.hid (VE.out wr k (by omega) H2.out)
      clear NN AV OF PUT ZC
      go_wp2
      go_ret
      exact ⟨by rw [B_yes HY.out]; rfl, fun _ => HE.out, H3.out, H4.out⟩

end Go.Proofs.Ytendehejodgljaa
namespace Go.Proofs.Ytendehejodgljaa
open Go.RowKit
set_option linter.unusedVariables false

theorem pig : ∀ (n : Nat) (l : List Nat), l.Nodup → (∀ x ∈ l, 1 ≤ x ∧ x ≤ n) → l.length ≤ n
  | 0, l, _, h => by
    cases l with
    | nil => simp
    | cons a r => have := h a (by simp); omega
  | n + 1, l, hd, h => by
    by_cases hm : n + 1 ∈ l
    · have h1 := pig n (l.erase (n + 1)) (hd.erase _) (fun x hx => by
        have h2 := (hd.mem_erase_iff).1 hx
        have := h x h2.2
        have := h2.1
        omega)
      rw [List.length_erase_of_mem hm] at h1
      omega
    · have := pig n l hd (fun x hx => by
        have h2 := h x hx
        have : x ≠ n + 1 := fun e => hm (e ▸ hx)
        omega)
      omega
theorem SpTo.short {vars : Int} {zs : List Int} (h : SpTo vars zs zs.length) (hv : vars ≤ 96) : zs.length ≤ 96 := by
  have h1 : (zs.map Int.natAbs).Nodup := by
    rw [List.nodup_iff_pairwise_ne, List.pairwise_iff_getElem]
    intro i j hi hj hij e
    simp only [List.length_map] at hi hj
    simp only [List.getElem_map] at e
    have g := (h j hj).2 i hij
    simp only [List.getD_eq_getElem?_getD, hi, hj, List.getElem?_eq_getElem, Option.getD_some] at g
    rcases Int.natAbs_eq_natAbs_iff.1 e with e | e
    · exact g.1 e
    · exact g.2 e
  have h2 := pig 96 _ h1 (fun x hx => by
    obtain ⟨z, hz, rfl⟩ := List.mem_map.1 hx
    obtain ⟨i, hi, rfl⟩ := List.getElem_of_mem hz
    have g := (h i hi).1
    simp only [List.getD_eq_getElem?_getD, hi, List.getElem?_eq_getElem, Option.getD_some] at g
    obtain ⟨g1, g2, g3⟩ := g
    omega)
  simpa using h2
theorem clS_iff {vars : Int} {zs : List Int} (hv : vars ≤ 96) : ClS vars 96 zs ↔ SpTo vars zs zs.length := ⟨fun h => h.2, fun h => ⟨h.short hv, h⟩⟩

/-- spec.l06Clause, as wide as there are variables. -/
theorem l06_wide (vars : Int) (sl : Option Addr) (cap : Nat) (zs : List Int) (w : World) (hv0 : 0 ≤ vars) (hv1 : vars ≤ 96) (hn : zs.length ≤ 1048576) (hz : Ints w sl zs) :
    Calls Try.prog 47 #[.int .i64 vars, .slice sl zs.length cap, .int .i64 96] w fun e w' => e = .returned (.bool (B (SpTo vars zs zs.length))) ∧ Below w.heap.size w w' := by
  rw [← B_iff (clS_iff hv1)]
  rcases hz with rfl | ⟨c, o, rfl, h⟩
  · rw [B_yes (p := ClS vars 96 []) ⟨by simp, fun i hi => by simp at hi⟩]
    exact l06_nil vars sl cap 96 w
  · exact l06_some vars c o cap 96 zs w hv0 hv1 hn h

/-- A trail, for right clauses. -/
def TrR (vars : Int) (css : List (List Int)) (ts : List Int) : Prop := ts.length ≤ 400 ∧ CnfR vars css ∧ SpTo vars ts ts.length

set_option maxRecDepth 100000 in
set_option maxHeartbeats 2000000 in
/-- spec.TrailRight. -/
theorem str_any (vars : Int) (sl : Option Addr) (cap : Nat) (cs : List LCl) (sl2 : Option Addr) (cap2 : Nat) (ts : List Int) (w : World) (hn : cs.length ≤ maxLen) (hs : totC cs ≤ 1048576) (hwf : WfC cs) (hm : ts.length ≤ 1048576) (hz : Cls w sl cs) (ht : Ints w sl2 ts) :
    Calls Try.prog 29 #[CV vars sl cs.length cap, .slice sl2 ts.length cap2] w fun e w' => e = .returned (.bool (B (TrR vars (bareC cs) ts))) ∧ Below w.heap.size w w' := by
  have B0 := Lib.hid (bA0 w (.cells #[.int .i64 vars, .slice sl cs.length cap] 25))
  have CA := Lib.hid (CnfAt.new w vars sl cs.length cap)
  have hln := hn
  unfold maxLen at hln
  by_cases c1 : 400 < ts.length
  · rw [B_no (p := TrR vars (bareC cs) ts) (fun g => by have := g.1; omega)]
    have c1' : ¬ (ts.length : Int) ≤ 400 := by omega
    clear hz ht hwf hs CA hn
    generalize cs.length = n at *
    generalize ts.length = m at *
    go_enter Try.func29, Try.ntmps29
    go_wp2
    go_ret
    exact ⟨rfl, B0.out⟩
  have c1' : (ts.length : Int) ≤ 400 := by omega
  have E1 := Lib.hid (scr_any vars sl cap cs _ hn hs hwf (hz.below B0.out))
  by_cases c2 : CnfR vars (bareC cs)
  · have E2 : Hid (∀ W, Below w.heap.size w W → Calls Try.prog 47 #[.int .i64 vars, .slice sl2 ts.length cap2, .int .i64 96] W fun e w' => e = .returned (.bool (B (SpTo vars ts ts.length))) ∧ Below W.heap.size W w') := fun W hW => l06_wide vars sl2 cap2 ts W c2.1.1 c2.1.2 hm (ht.below hW)
    rw [B_iff (show TrR vars (bareC cs) ts ↔ SpTo vars ts ts.length from ⟨fun g => g.2.2, fun g => ⟨by omega, c2, g⟩⟩)]
    rw [B_yes c2] at E1
    clear hz ht hwf hs hn c2
    generalize B (SpTo vars ts ts.length) = r at *
    generalize cs.length = n at *
    generalize ts.length = m at *
    go_enter Try.func29, Try.ntmps29
    go_wp2_with fail
    refine E1.out.mono ?_
    rintro e w1 ⟨rfl, b1⟩
    obtain ⟨t0, t1⟩ := (CA.out.below b1).cells
    have tl := (CA.out.below b1).lt
    have D1 := Lib.hid (bT B0.out b1)
    clear b1 E1 CA
    go_wp2_with fail
    refine (E2.out _ D1.out).mono ?_
    rintro e w2 ⟨rfl, b2⟩
    have D2 := Lib.hid (bT D1.out b2)
    clear b2 E2 D1
    go_wp2
    go_ret
    exact ⟨rfl, D2.out⟩
  · rw [B_no (p := TrR vars (bareC cs) ts) (fun g => c2 g.2.1)]
    rw [B_no c2] at E1
    clear hz ht hwf hs hn c2 CA
    generalize cs.length = n at *
    generalize ts.length = m at *
    go_enter Try.func29, Try.ntmps29
    go_wp2_with fail
    refine E1.out.mono ?_
    rintro e w1 ⟨rfl, b1⟩
    have D1 := Lib.hid (bT B0.out b1)
    clear b1 E1
    go_wp2
    go_ret
    exact ⟨rfl, D1.out⟩

/-- Storing what lies there. -/
theorem put_same (w : World) (h : w.heap.size = w.heap.size) : ∀ W, W = w.alloc (.cells Try.zeroCells59 59) → Sem.run Try.prog (storeCells ⟨w.heap.size, 0, none⟩ Try.zeroCells59.toList) W = .ok () W := by
  rintro W rfl
  have hb : (w.alloc (.cells Try.zeroCells59 59)).heap[w.heap.size]? = some (.cells Try.zeroCells59 59) := new_at _ _
  have hone : ∀ v ∈ Try.zeroCells59.toList, v.oneCell' = true := by
    have : (Try.zeroCells59.toList.all fun v => v.oneCell') = true := by kernel_rfl
    exact fun v hv => List.all_eq_true.1 this v hv
  have key : ∀ (vs : List Value) (o : Nat) (W : World) (us : Array Value), W.heap[w.heap.size]? = some (.cells us 59) → (∀ k, k < vs.length → us[o + k]? = vs[k]?) → W.setCells w.heap.size o vs = W := by
    intro vs
    induction vs with
    | nil => intro o W us _ _; rfl
    | cons v r ih =>
      intro o W us h1 h2
      have e0 := h2 0 (by simp)
      simp only [Nat.add_zero, List.getElem?_cons_zero] at e0
      have e1 : W.setCell ⟨w.heap.size, o, none⟩ v = W := by
        have hs : us.setIfInBounds o v = us := by
          apply Array.ext
          · simp
          · intro i a1 a2
            simp only [Array.size_setIfInBounds] at a1
            rw [Array.getElem_setIfInBounds a1]
            by_cases hi : o = i
            · subst hi
              rw [if_pos rfl]
              rw [Array.getElem?_eq_getElem a2] at e0
              exact (Option.some.inj e0).symm
            · rw [if_neg hi]
        have hlt := (Array.getElem?_eq_some_iff.1 h1)
        obtain ⟨hl, hg⟩ := hlt
        have hh : (W.setCell ⟨w.heap.size, o, none⟩ v).heap = W.heap := by
          apply Array.ext_getElem?
          intro i
          by_cases hi : i = w.heap.size
          · subst hi
            rw [heap_setCell_same W _ o us 59 v h1, hs, h1]
          · exact heap_setCell_other W ⟨w.heap.size, o, none⟩ i v hi
        have : ∀ (A : World) (h : Array Obj), h = A.heap → { A with heap := h } = A := fun A h e => by subst e; rfl
        exact this W _ hh
      rw [World.setCells, e1]
      exact ih (o + 1) W us h1 (fun k hk => by
        have := h2 (k + 1) (by simp; omega)
        rw [show o + 1 + k = o + (k + 1) by omega, this]; simp)
  generalize w.alloc (.cells Try.zeroCells59 59) = W1 at *
  generalize w.heap.size = b at *
  have hr := run_storeCells_cells (P := Try.prog) b 0 Try.zeroCells59.toList 0 W1 (fun j hj => by simp at hj; simp [World.cell?, hb, hj]) (fun j hj => by simp [World.frozen?, hb]) hone
  rw [hr, key Try.zeroCells59.toList (0 + 0) _ Try.zeroCells59 hb (fun k hk => by simp)]

set_option maxRecDepth 100000 in
set_option maxHeartbeats 2000000 in
/-- impl.TrailRight. -/
theorem itr_any (vars : Int) (sl : Option Addr) (cap : Nat) (cs : List LCl) (sl2 : Option Addr) (cap2 : Nat) (ts : List Int) (w : World) (hn : cs.length ≤ maxLen) (hm : ts.length ≤ maxLen) (hz : Cls w sl cs) (ht : Ints w sl2 ts) :
    Calls Try.prog 12 #[CV vars sl cs.length cap, .slice sl2 ts.length cap2] w fun e w' => e = .returned (.bool (B (TrR vars (bareC cs) ts))) ∧ Below w.heap.size w w' := by
  have CA := Lib.hid (CnfAt.new w vars sl cs.length cap)
  have B0 := Lib.hid (bA0 w (.cells #[.int .i64 vars, .slice sl cs.length cap] 25))
  have hw0 : (w.alloc (.cells #[.int .i64 vars, .slice sl cs.length cap] 25)).heap.size = w.heap.size + 1 := by simp
  have PS := put_same (w.alloc (.cells #[.int .i64 vars, .slice sl cs.length cap] 25)) rfl _ rfl
  rw [hw0] at PS
  have VA : Hid (VAt ((w.alloc (.cells #[.int .i64 vars, .slice sl cs.length cap] 25)).alloc (.cells Try.zeroCells59 59)) (w.heap.size + 1) []) := by
    have := new_at (w.alloc (.cells #[.int .i64 vars, .slice sl cs.length cap] 25)) (.cells Try.zeroCells59 59)
    rw [hw0] at this
    show _ = _
    rw [this, vArr_nil]
  have B1 := Lib.hid (bA B0.out (.cells Try.zeroCells59 59))
  have CB := Lib.hid (CA.out.below (bA0 _ (.cells Try.zeroCells59 59)))
  clear CA B0
  have hln := hn
  have hlm := hm
  unfold maxLen at hln hlm
  by_cases c1 : 400 < ts.length
  · rw [B_no (p := TrR vars (bareC cs) ts) (fun g => by have := g.1; omega)]
    have c1' : ¬ (ts.length : Int) ≤ 400 := by omega
    clear hz ht hn CB VA hm
    generalize cs.length = n at *
    generalize ts.length = m at *
    go_enter Try.func12, Try.ntmps12
    go_wp2
    go_ret
    exact ⟨rfl, B1.out⟩
  have c1' : (ts.length : Int) ≤ 400 := by omega
  have E1 := Lib.hid (icr_any vars sl cap cs _ hn (hz.below B1.out))
  by_cases c2 : CnfR vars (bareC cs)
  · have E2 : Hid (∀ W, Below w.heap.size w W → VAt W (w.heap.size + 1) [] → Calls Try.prog 39 #[.pointer (some ⟨w.heap.size + 1, 0, none⟩), .slice sl2 ts.length cap2, .int .i64 vars] W fun e w' => e = .returned (.bool (B (SpTo vars ts ts.length))) ∧ Below w.heap.size W w') := fun W hW hv => by
      refine (take_any (w.heap.size + 1) vars sl2 cap2 ts W hv.blk c2.1.1 c2.1.2 hm ?_).mono ?_
      · rcases ht with e | ⟨c, o, e, hi⟩
        · exact .inl e
        · exact .inr ⟨c, o, e, hi.below hW, by have := hi.1; omega⟩
      · rintro e w' ⟨rfl, _, hb, _⟩
        exact ⟨rfl, hb.mono (by omega)⟩
    rw [B_iff (show TrR vars (bareC cs) ts ↔ SpTo vars ts ts.length from ⟨fun g => g.2.2, fun g => ⟨by omega, c2, g⟩⟩)]
    rw [B_yes c2] at E1
    clear hz ht hn c2 hm
    generalize B (SpTo vars ts ts.length) = r at *
    generalize cs.length = n at *
    generalize ts.length = m at *
    go_enter Try.func12, Try.ntmps12
    go_wp2_with fail
    refine E1.out.mono ?_
    rintro e w1 ⟨rfl, b1⟩
    obtain ⟨t0, t1⟩ := (CB.out.below b1).cells
    have tl := (CB.out.below b1).lt
    have D1 := Lib.hid (bT B1.out b1)
    have V1 := Lib.hid (VA.out.below b1)
    clear b1 E1 CB VA
    go_wp2_with fail
    refine (E2.out _ D1.out V1.out).mono ?_
    rintro e w2 ⟨rfl, b2⟩
    have D2 := Lib.hid (D1.out.trans b2)
    clear b2 E2 D1
    go_wp2
    go_ret
    exact ⟨rfl, D2.out⟩
  · rw [B_no (p := TrR vars (bareC cs) ts) (fun g => c2 g.2.1)]
    rw [B_no c2] at E1
    clear hz ht hn c2 CB VA hm
    generalize cs.length = n at *
    generalize ts.length = m at *
    go_enter Try.func12, Try.ntmps12
    go_wp2_with fail
    refine E1.out.mono ?_
    rintro e w1 ⟨rfl, b1⟩
    have D1 := Lib.hid (bT B1.out b1)
    clear b1 E1
    go_wp2
    go_ret
    exact ⟨rfl, D1.out⟩

end Go.Proofs.Ytendehejodgljaa
namespace Go.Proofs.Ytendehejodgljaa
open Go.RowKit
set_option linter.unusedVariables false

/-- The literals of a clause that are not false. -/
noncomputable def nfl (tr zs : List Int) : List Int := zs.filter fun z => decide (0 ≤ val tr z)
/-- 0 of a false clause, the literal of a unit, none else. -/
noncomputable def unitOf (tr zs : List Int) : Option Int :=
  match nfl tr zs with
  | [] => some 0
  | [z] => if val tr z = 0 then some z else none
  | _ => none
theorem nfl_step (tr zs : List Int) (k : Nat) (h : k < zs.length) : nfl tr (zs.take (k + 1)) = if 0 ≤ val tr (zs.getD k 0) then nfl tr (zs.take k) ++ [zs.getD k 0] else nfl tr (zs.take k) := by
  rw [take_one zs k h]
  unfold nfl
  rw [List.filter_append]
  by_cases g : 0 ≤ val tr (zs.getD k 0)
  · rw [if_pos g, List.filter_cons_of_pos (by simpa using g), List.filter_nil]
  · rw [if_neg g, List.filter_cons_of_neg (by simpa using g), List.filter_nil, List.append_nil]
theorem nfl_more (tr zs : List Int) (k : Nat) : (nfl tr (zs.take k)).length ≤ (nfl tr zs).length := by
  have := congrArg (fun l => (nfl tr l).length) (List.take_append_drop k zs)
  simp only [nfl, List.filter_append, List.length_append] at this
  unfold nfl
  omega

set_option maxRecDepth 100000 in
set_option maxHeartbeats 1000000 in
/-- values.notFalse. -/
theorem nf_any (b : Nat) (tr : List Int) (z : Int) (w : World) (hv : VAt w b tr) (hc : Cons tr) (h1 : -96 ≤ z) (h2 : z ≤ 96) :
    Calls Try.prog 70 #[.pointer (some ⟨b, 0, none⟩), .int .i64 z] w fun e w' => e = .returned (.bool (decide (0 ≤ val tr z))) ∧ w' = w := by
  have E := Lib.hid (of_any b tr z w hv hc h1 h2)
  clear hv hc
  generalize val tr z = y at *
  go_enter Try.func70, Try.ntmps70
  go_wp2_with fail
  refine E.out.mono ?_
  rintro e w1 ⟨rfl, rfl⟩
  go_wp2
  go_ret
  exact ⟨rfl, rfl⟩

/-- What passing tells. -/
def Pas (nf : List Int) (last : Int) (count : Nat) : Prop := (nf = [] ∧ last = 0 ∧ count = 0) ∨ (nf = [last] ∧ count = 1) ∨ (2 ≤ nf.length ∧ count = 2)

set_option maxRecDepth 100000 in
set_option maxHeartbeats 2000000 in
/-- listOf.passing, of those that are not false. -/
theorem pas_any (b : Nat) (tr : List Int) (sl : Option Addr) (cap : Nat) (zs : List Int) (w : World) (hv : VAt w b tr) (hc : Cons tr) (hn : zs.length ≤ maxLen) (hw : ∀ z ∈ zs, -96 ≤ z ∧ z ≤ 96) (hz : Ints w sl zs) :
    Calls Try.prog 69 #[.slice sl zs.length cap, .func (.func 70) #[.pointer (some ⟨b, 0, none⟩)] #[]] w fun e w' => ∃ (last : Int) (count : Nat), e = .returned (.tuple #[.int .i64 last, .int .i64 count]) ∧ Hid (Pas (nfl tr zs) last count) ∧ w' = w := by
  unfold maxLen at hn
  have NF := Lib.hid (show ∀ k, k < zs.length → Calls Try.prog 70 #[.pointer (some ⟨b, 0, none⟩), .int .i64 (zs.getD k 0)] w fun e w' => e = .returned (.bool (decide (0 ≤ val tr (zs.getD k 0)))) ∧ w' = w from fun k hk => by
    have := hw (zs.getD k 0) (by simp [hk])
    exact nf_any b tr _ w hv hc this.1 this.2)
  have ST := Lib.hid (fun k h => nfl_step tr zs k h)
  have MO := Lib.hid (fun k => nfl_more tr zs k)
  have HZ := Lib.hid hz
  have N0 := Lib.hid (show nfl tr (zs.take 0) = [] by simp [nfl])
  have NE := Lib.hid (show ∀ k, zs.length ≤ k → nfl tr (zs.take k) = nfl tr zs from fun k h => by rw [List.take_of_length_le h])
  clear hv hc hw hz
  generalize hN : zs.length = n at *
  have HN := Lib.hid hN
  clear hN
  go_enter Try.func69, Try.ntmps69
  go_wp2
  go_loopw [6, 7, 12] (fun l c i wr => ∃ (k : Nat) (last : Int) (count : Nat), i = .int .i64 k ∧ k ≤ n ∧ l = .int .i64 last ∧ c = .int .i64 count ∧ count ≤ 1 ∧ Hid ((nfl tr (zs.take k) = [] ∧ last = 0 ∧ count = 0) ∨ (nfl tr (zs.take k) = [last] ∧ count = 1)) ∧ wr = w) (fun _ _ i _ => n - (intOf i).toNat)
  case atStart => exact ⟨0, 0, 0, rfl, Nat.zero_le _, rfl, rfl, Nat.zero_le _, .inl ⟨N0.out, rfl, rfl⟩, rfl⟩
  case round =>
    obtain ⟨k, last, count, rfl, hk, rfl, rfl, hct, HP, rfl⟩ := hrel
    have hk0 : (0 : Int) ≤ (k : Int) := by omega
    by_cases g1 : k < n
    · have g1' : (k : Int) < (n : Int) := by omega
      have hlt : k < zs.length := by rw [HN.out]; exact g1
      obtain ⟨c, o, rfl, ZI⟩ : ∃ c o, sl = some ⟨c, o, none⟩ ∧ IntsAt wr c o zs := by
        rcases HZ.out with e | h
        · rw [e] at hlt; simp at hlt
        · exact h
      have hcell := ZI.2 k hlt
      have E := Lib.hid (NF.out k g1)
      have S1 := Lib.hid (ST.out k g1)
      have M1 := Lib.hid (MO.out (k + 1))
      clear ZI hlt NF ST MO HZ
      generalize zs.getD k 0 = z at *
      by_cases hy : 0 ≤ val tr z
      · rw [decide_eq_true hy] at E
        rw [if_pos hy] at S1
        by_cases hq : count = 0
        · subst hq
          have P1 := Lib.hid (show nfl tr (zs.take (k + 1)) = [z] by
            rcases HP.out with ⟨h1, _, _⟩ | ⟨_, h2⟩
            · rw [S1.out, h1]; rfl
            · omega)
          clear HP S1 M1 hct
          go_wp2_with (first | (go_at_call 70; refine E.out.mono ?_; rintro e wq ⟨rfl, rfl⟩))
          go_roundw
          case rel => exact ⟨k + 1, z, 1, by go_num, by omega, rfl, rfl, by omega, .inr ⟨P1.out, rfl⟩, trivial⟩
          case measure => simp [intOf]; omega
        · obtain rfl : count = 1 := by omega
          have P1 := Lib.hid (show 2 ≤ (nfl tr zs).length by
            rcases HP.out with ⟨_, _, h2⟩ | ⟨h1, _⟩
            · omega
            · have := M1.out; rw [S1.out, h1] at this; simpa using this)
          clear HP S1 M1 hct
          go_wp2_with (first | (go_at_call 70; refine E.out.mono ?_; rintro e wq ⟨rfl, rfl⟩))
          go_ret2
          exact ⟨z, 2, rfl, .inr (.inr ⟨P1.out, rfl⟩), rfl⟩
      · rw [decide_eq_false hy] at E
        rw [if_neg hy] at S1
        have P1 := Lib.hid (show (nfl tr (zs.take (k + 1)) = [] ∧ last = 0 ∧ count = 0) ∨ (nfl tr (zs.take (k + 1)) = [last] ∧ count = 1) by rw [S1.out]; exact HP.out)
        clear HP S1 M1
        go_wp2_with (first | (go_at_call 70; refine E.out.mono ?_; rintro e wq ⟨rfl, rfl⟩))
        go_roundw
        case rel => exact ⟨k + 1, last, count, by go_num, by omega, rfl, rfl, hct, P1, trivial⟩
        case measure => simp [intOf]; omega
    · have g1' : ¬ (k : Int) < (n : Int) := by omega
      have P1 := Lib.hid (show Pas (nfl tr zs) last count by
        have := HP.out
        rw [NE.out k (by omega)] at this
        rcases this with h | h
        · exact .inl h
        · exact .inr (.inl h))
      clear HP NF ST MO
      go_wp2
      go_ret2
      exact ⟨last, count, rfl, P1, rfl⟩

/-- The first clause that is false or a unit, from place k on; 0 of a false one. -/
noncomputable def dueL (tr : List Int) : Nat → List (List Int) → Int × Int
  | _, [] => (-1, 0)
  | k, l :: r => match unitOf tr l with
    | some z => ((k : Int), z)
    | none => dueL tr (k + 1) r
theorem pas_unit {tr zs : List Int} {last : Int} {count : Nat} (h : Pas (nfl tr zs) last count) : (count = 0 → unitOf tr zs = some 0) ∧ (count = 1 → (val tr last = 0 → unitOf tr zs = some last) ∧ (¬ val tr last = 0 → unitOf tr zs = none)) ∧ (¬ count = 0 → ¬ count = 1 → unitOf tr zs = none) := by
  unfold unitOf
  rcases h with ⟨h1, h2, h3⟩ | ⟨h1, h2⟩ | ⟨h1, h2⟩
  · rw [h1]
    exact ⟨fun _ => rfl, fun h => by omega, fun h => absurd h3 h⟩
  · rw [h1]
    exact ⟨fun h => by omega, fun _ => ⟨fun g => by simp [g], fun g => by simp [g]⟩, fun _ h => absurd h2 h⟩
  · refine ⟨fun h => by omega, fun h => by omega, fun _ _ => ?_⟩
    match hx : nfl tr zs with
    | [] => rw [hx] at h1; simp at h1
    | [a] => rw [hx] at h1; simp at h1
    | a :: c :: r => rfl
theorem dueL_step (tr : List Int) (css : List (List Int)) (k : Nat) (h : k < css.length) : dueL tr k (css.drop k) = match unitOf tr (css.getD k []) with
    | some z => ((k : Int), z)
    | none => dueL tr (k + 1) (css.drop (k + 1)) := by
  rw [List.drop_eq_getElem_cons h, dueL]
  simp [h]
theorem dueL_end (tr : List Int) (css : List (List Int)) (k : Nat) (h : css.length ≤ k) : dueL tr k (css.drop k) = (-1, 0) := by
  rw [List.drop_of_length_le h, dueL]

set_option maxRecDepth 100000 in
set_option maxHeartbeats 2000000 in
/-- values.firstDue. -/
theorem due_any (b : Nat) (tr : List Int) (sl : Option Addr) (cap : Nat) (cs : List LCl) (w : World) (hv : VAt w b tr) (hc : Cons tr) (hn : cs.length ≤ 1048576) (hw : ∀ r ∈ cs, ∀ z ∈ r.2, -96 ≤ z ∧ z ≤ 96) (hz : Cls w sl cs) :
    Calls Try.prog 60 #[.pointer (some ⟨b, 0, none⟩), .slice sl cs.length cap] w fun e w' => e = .returned (.tuple #[.int .i64 (dueL tr 0 (bareC cs)).1, .int .i64 (dueL tr 0 (bareC cs)).2]) ∧ w' = w := by
  have hmf : ∀ (fn : Fn) (first cap : Array Value) (w : World), (Instr.makeFunc fn first cap).run Try.prog w = .ok (.func fn first cap) w := fun _ _ _ _ => rfl
  have PA := Lib.hid (show ∀ (k : Nat) (r : LCl), cs[k]? = some r → ∃ s kc, r.1 = .slice s r.2.length kc ∧ Calls Try.prog 69 #[.slice s r.2.length kc, .func (.func 70) #[.pointer (some ⟨b, 0, none⟩)] #[]] w fun e w' => ∃ (last : Int) (count : Nat), e = .returned (.tuple #[.int .i64 last, .int .i64 count]) ∧ Hid (Pas (nfl tr r.2) last count) ∧ w' = w from fun k r hk => by
    obtain ⟨s, kc, e, i, l⟩ := hz.each r (List.mem_of_getElem? hk)
    exact ⟨s, kc, e, pas_any b tr s kc r.2 w hv hc l (hw _ (List.mem_of_getElem? hk)) i⟩)
  have OF := Lib.hid (show ∀ z, -96 ≤ z → z ≤ 96 → Calls Try.prog 58 #[.pointer (some ⟨b, 0, none⟩), .int .i64 z] w fun e w' => e = .returned (.int .i64 (val tr z)) ∧ w' = w from fun z h1 h2 => of_any b tr z w hv hc h1 h2)
  have WI := Lib.hid (show ∀ (k : Nat) (r : LCl) (z : Int), cs[k]? = some r → nfl tr r.2 = [z] → -96 ≤ z ∧ z ≤ 96 from fun k r z hk h => hw _ (List.mem_of_getElem? hk) z (by
    have : z ∈ nfl tr r.2 := by rw [h]; simp
    exact (List.mem_filter.1 this).1))
  have DS := Lib.hid (show ∀ (k : Nat) (r : LCl), cs[k]? = some r → dueL tr k ((bareC cs).drop k) = match unitOf tr r.2 with
    | some z => ((k : Int), z)
    | none => dueL tr (k + 1) ((bareC cs).drop (k + 1)) from fun k r hk => by
    have hl := (List.getElem?_eq_some_iff.1 hk).1
    rw [dueL_step tr (bareC cs) k (by rw [bareC_length]; exact hl)]
    simp [bareC, hk])
  have DE := Lib.hid (show ∀ k, cs.length ≤ k → dueL tr k ((bareC cs).drop k) = (-1, 0) from fun k hk => dueL_end tr _ k (by rw [bareC_length]; exact hk))
  have D0 := Lib.hid (show dueL tr 0 ((bareC cs).drop 0) = dueL tr 0 (bareC cs) by simp)
  have HZ := Lib.hid hz
  clear hv hc hw hz
  generalize hD : dueL tr 0 (bareC cs) = D at *
  have HD := Lib.hid hD
  clear hD
  generalize hN : cs.length = n at *
  have HN := Lib.hid hN
  clear hN
  go_enter Try.func60, Try.ntmps60
  go_wp2
  go_loopw [12] (fun i wr => ∃ (k : Nat), i = .int .i64 k ∧ k ≤ n ∧ Hid (dueL tr k ((bareC cs).drop k) = D) ∧ wr = w) (fun i _ => n - (intOf i).toNat)
  case atStart => exact ⟨0, rfl, Nat.zero_le _, D0, rfl⟩
  case round =>
    obtain ⟨k, rfl, hk, HK, rfl⟩ := hrel
    have hk0 : (0 : Int) ≤ (k : Int) := by omega
    by_cases g1 : k < n
    · have g1' : (k : Int) < (n : Int) := by omega
      have hlt : k < cs.length := by rw [HN.out]; exact g1
      obtain ⟨c, o, rfl, cl, hcs⟩ := HZ.out.at hlt
      have hcell := hcs k hlt
      have hr := List.getElem?_eq_getElem hlt
      obtain ⟨s, kc, e1, CP⟩ := PA.out k _ hr
      rw [e1] at hcell
      have CP' := Lib.hid CP
      have D1 := Lib.hid (DS.out k _ hr)
      have W1 := Lib.hid (fun z => WI.out k _ z hr)
      clear hcs e1 CP DS WI PA hr
      generalize cs[k].2 = zs at *
      clear hlt
      generalize zs.length = m at *
      go_wp2_with fail
      refine CP'.out.mono ?_
      rintro e wq ⟨last, count, rfl, HP, rfl⟩
      have PU := Lib.hid (pas_unit HP.out)
      by_cases q0 : count = 0
      · subst q0
        have E := Lib.hid (show D = ((k : Int), 0) by rw [← HK.out, D1.out, PU.out.1 rfl])
        clear HK D1 PU HP CP' W1 OF DE
        go_wp2
        go_ret2
        exact ⟨by rw [E.out]; rfl, rfl⟩
      have q0' : ¬ (count : Int) = 0 := by omega
      by_cases q1 : count = 1
      · subst q1
        have hnf : nfl tr zs = [last] := by
          rcases HP.out with ⟨_, _, h⟩ | ⟨h, _⟩ | ⟨_, h⟩
          · omega
          · exact h
          · omega
        have wi := W1.out last hnf
        have E2 := Lib.hid (OF.out last wi.1 wi.2)
        have U := Lib.hid (PU.out.2.1 rfl)
        clear hnf wi PU HP CP' W1 OF DE
        by_cases hv : val tr last = 0
        · have E := Lib.hid (show D = ((k : Int), last) by rw [← HK.out, D1.out, U.out.1 hv])
          rw [hv] at E2
          clear HK D1 U hv
          go_wp2_with (first | (go_at_call 58; refine E2.out.mono ?_; rintro e wq ⟨rfl, rfl⟩))
          go_ret2
          exact ⟨by rw [E.out]; rfl, rfl⟩
        · have E := Lib.hid (show dueL tr (k + 1) ((bareC cs).drop (k + 1)) = D by rw [← HK.out, D1.out, U.out.2 hv])
          have hv' : (val tr last == 0) = false := by simpa using hv
          clear HK D1 U
          generalize val tr last = y at *
          go_wp2_with (first | (go_at_call 58; refine E2.out.mono ?_; rintro e wq ⟨rfl, rfl⟩))
          go_roundw
          case rel => exact ⟨k + 1, by go_num, by omega, E, trivial⟩
          case measure => simp [intOf]; omega
      · have q1' : ¬ (count : Int) = 1 := by omega
        have q0b : ((count : Int) == 0) = false := by simpa using q0'
        have q1b : ((count : Int) == 1) = false := by simpa using q1'
        have E := Lib.hid (show dueL tr (k + 1) ((bareC cs).drop (k + 1)) = D by rw [← HK.out, D1.out, PU.out.2.2 q0 q1])
        clear HK D1 PU HP CP' W1 OF DE
        go_wp2
        go_roundw
        case rel => exact ⟨k + 1, by go_num, by omega, E, trivial⟩
        case measure => simp [intOf]; omega
    · have g1' : ¬ (k : Int) < (n : Int) := by omega
      have E := Lib.hid (show D = (-1, 0) by rw [← HK.out]; exact DE.out k (by omega))
      clear HK DE DS PA OF
      go_wp2
      go_ret2
      exact ⟨by rw [E.out]; rfl, rfl⟩

end Go.Proofs.Ytendehejodgljaa
