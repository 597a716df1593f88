import Derived.Test.YtnihhbfgbilimaaGreatDoorKHah
import Derived.Test.YtnihhbfgbilimaaGreatDoorZOa
import Derived.Test.YtnihhbfgbilimaaGreatDoorZWa
namespace Go.Proofs.YtnihhbfgbilimaaGreatDoor
open Go.RowKit
set_option linter.unusedVariables false
def K2x (w0 W : World) : Prop := ∀ (k : Nat) (us : Array Value) (t : TypeId), t ≠ 2 → w0.heap[k]? = some (.cells us t) → W.heap[k]? = some (.cells us t)
theorem K2x.refl (W : World) : K2x W W := fun _ _ _ _ h => h
theorem K2x.trans {a b c : World} (h : K2x a b) (g : K2x b c) : K2x a c := fun k us t ht hk => g k us t ht (h k us t ht hk)
theorem totC_add (a b : List LCl) : totC (a ++ b) = totC a + totC b := by simp [totC]
theorem totC_take (cs : List LCl) (k : Nat) (h : k < cs.length) : totC (cs.take (k + 1)) = totC (cs.take k) + cs[k].2.length := by
 rw [show cs.take (k + 1) = cs.take k ++ [cs[k]] by rw [List.take_add_one, List.getElem?_eq_getElem h]; rfl, totC_add]
 rfl
theorem totC_le (cs : List LCl) (k : Nat) : totC (cs.take k) ≤ totC cs := by
 have := congrArg totC (List.take_append_drop k cs)
 rw [totC_add] at this
 omega
theorem bareC_len {a b : List LCl} (h : bareC a = bareC b) : a.length = b.length := by have := congrArg List.length h; simpa [bareC] using this
theorem marks_len (k : Int) (n : Nat) : (marks k n).length = n := by simp [marks]
theorem marks_get (k : Int) (n i : Nat) (h : i < n) : (marks k n)[i]? = some (k + (i : Int)) := by simp [marks, h]
set_option maxHeartbeats 400000 in
theorem mark_nil (sl : Option Addr) (cap : Nat) (k : Int) (w : World) :
  Calls Tryz.prog 26 #[.slice sl 0 cap, .int .i64 k] w fun e w' => e = .returned (.int .i64 k) ∧ w' = w := by
 go_enter Tryz.func26, Tryz.ntmps26
 go_wp2
 refine wp_loop_rounds 1 ?_
 rw [rounds_succ]
 go_wp2
 go_ret
 exact ⟨rfl, rfl⟩
set_option maxHeartbeats 400000 in
theorem held_nil (sl : Option Addr) (cap : Nat) (k : Int) (w : World) :
  Calls Tryz.prog 101 #[.slice sl 0 cap, .int .i64 k] w fun e w' => e = .returned (.int .i64 k) ∧ w' = w := by
 go_enter Tryz.func101, Tryz.ntmps101
 go_wp2
 refine wp_loop_rounds 1 ?_
 rw [rounds_succ]
 go_wp2
 go_ret
 exact ⟨rfl, rfl⟩
set_option maxHeartbeats 400000 in
theorem held_some (b n s cap : Nat) (k : Int) (hn : n ≤ 1048576) (k0 : 0 ≤ k) (k1 : k ≤ 1000000000) (w : World) (h : Marked w b s k n) :
  Calls Tryz.prog 101 #[.slice (some ⟨b, 0, none⟩) n cap, .int .i64 k] w fun e w' => e = .returned (.int .i64 (k + (n : Int))) ∧ w' = w := by
 have HM := Lib.hid h
 clear h
 go_enter Tryz.func101, Tryz.ntmps101
 go_wp2
 go_loop [1, 5] (fun m i => ∃ j : Nat, i = .int .i64 j ∧ m = .int .i64 (k + (j : Int)) ∧ j ≤ n) (fun _ i => n - (intOf i).toNat)
 case atStart => exact ⟨0, rfl, by simp, Nat.zero_le _⟩
 case round =>
  obtain ⟨j, rfl, rfl, hj⟩ := hrel
  have hj0 : (0 : Int) ≤ (j : Int) := by omega
  by_cases h1 : j < n
  ·have h1' : (j : Int) < (n : Int) := by omega
   have hc := HM.out.at j h1
   go_wp2
   go_round
   case rel => exact ⟨j + 1, by go_num, by go_num, by omega⟩
   case measure => simp [intOf]; omega
  ·have h1' : ¬ (j : Int) < (n : Int) := by omega
   have H4 : Hid ((k + (j : Int)) = k + (n : Int)) := by show (k + (j : Int)) = k + (n : Int); omega
   go_wp2
   go_ret
   exact ⟨by rw [← H4.out]; rfl, rfl⟩
theorem mark_row (B : Nat) (v : Value) (zs : List Int) (k : Int) (hn : zs.length ≤ 1048576) (k0 : 0 ≤ k) (k1 : k ≤ 1000000000) (w : World) (h : w.ownsRow B 2 1 v zs.length (valsZ zs)) :
  Calls Tryz.prog 26 #[v, .int .i64 k] w fun e w' => e = .returned (.int .i64 (k + (zs.length : Int))) ∧ w'.ownsRow B 2 1 v zs.length (valsZ (marks k zs.length)) ∧ w.grownBy w' v.ownBlock := by
 have hl : (valsZ (marks k zs.length)).length = zs.length * 1 := by simp [valsZ, marks_len]
 rcases h.2 with ⟨rfl, h0⟩ | ⟨g, cap, cur, rfl, hb, hg, hcap, hmx, hcur, hx⟩
 ·rw [h0]
  refine (mark_nil _ _ _ _).mono ?_
  rintro e w' ⟨rfl, rfl⟩
  exact ⟨by simp, ⟨by simp [valsZ, marks], .inl ⟨rfl, rfl⟩⟩, ⟨rfl, rfl, rfl, Nat.le_refl _, fun _ _ _ => rfl⟩⟩
 ·refine (mark_some g zs.length cur.size cap k hn (by omega) k0 k1 w ⟨cur, hg, rfl, fun j hj => absurd hj (Nat.not_lt_zero _)⟩).mono ?_
  rintro e w' ⟨rfl, ⟨vs, h1, h2, h3⟩, ho⟩
  refine ⟨rfl, ⟨hl, .inr ⟨g, cap, vs, rfl, hb, h1, hcap, hmx, by rw [h2, hcur], ?_⟩⟩, ho.grownBy⟩
  apply List.ext_getElem?
  intro i
  by_cases hi : i < zs.length
  ·rw [List.getElem?_take_of_lt (by omega)]
   simp only [valsZ, List.getElem?_map, marks_get k _ i hi]
   have := h3 i hi
   simpa using this
  ·rw [List.getElem?_eq_none (by simp; omega), List.getElem?_eq_none (by simp [valsZ, marks_len]; omega)]
theorem held_row (B : Nat) (v : Value) (n : Nat) (k : Int) (hn : n ≤ 1048576) (k0 : 0 ≤ k) (k1 : k ≤ 1000000000) (w : World) (h : w.ownsRow B 2 1 v n (valsZ (marks k n))) :
  Calls Tryz.prog 101 #[v, .int .i64 k] w fun e w' => e = .returned (.int .i64 (k + (n : Int))) ∧ w' = w := by
 rcases h.2 with ⟨rfl, h0⟩ | ⟨g, cap, cur, rfl, hb, hg, hcap, hmx, hcur, hx⟩
 ·rw [h0]
  refine (held_nil _ _ _ _).mono ?_
  rintro e w' ⟨rfl, rfl⟩
  exact ⟨by simp, rfl⟩
 ·refine held_some g n cur.size cap k hn k0 k1 w ⟨cur, hg, rfl, fun j hj => ?_⟩
  have := congrArg (fun l => l[j]?) hx
  simp only [valsZ, List.getElem?_map, marks_get k _ j hj] at this
  rw [List.getElem?_take_of_lt (by omega)] at this
  simpa using this
set_option maxHeartbeats 400000 in
theorem mark2_nil (sl : Option Addr) (cap : Nat) (k : Int) (w : World) :
  Calls Tryz.prog 34 #[.slice sl 0 cap, .int .i64 k] w fun e w' => e = .returned (.int .i64 k) ∧ w' = w := by
 go_enter Tryz.func34, Tryz.ntmps34
 go_wp2
 refine wp_loop_rounds 1 ?_
 rw [rounds_succ]
 go_wp2
 go_ret
 exact ⟨rfl, rfl⟩
set_option maxHeartbeats 400000 in
theorem held2_nil (sl : Option Addr) (cap : Nat) (k : Int) (w : World) :
  Calls Tryz.prog 83 #[.slice sl 0 cap, .int .i64 k] w fun e w' => e = .returned (.int .i64 k) ∧ w' = w := by
 go_enter Tryz.func83, Tryz.ntmps83
 go_wp2
 refine wp_loop_rounds 1 ?_
 rw [rounds_succ]
 go_wp2
 go_ret
 exact ⟨rfl, rfl⟩
set_option maxRecDepth 100000 in
set_option maxHeartbeats 1000000 in
theorem mark2_some (b m s cap : Nat) (k : Int) (hn : m ≤ 1048576) (hs : m * 2 ≤ s) (k0 : 0 ≤ k) (k1 : k ≤ 1000000000) (w : World) (h : MarkQ w b s k 0) :
  Calls Tryz.prog 34 #[.slice (some ⟨b, 0, none⟩) m cap, .int .i64 k] w fun e w' => e = .returned (.int .i64 (k + 2 * (m : Int))) ∧ MarkQ w' b s k (m * 2) ∧ Only b w w' := by
 have H := Lib.hid h
 clear h
 go_enter Tryz.func34, Tryz.ntmps34
 go_wp2
 go_loopw [1, 5] (fun v i wr => ∃ j : Nat, i = .int .i64 j ∧ v = .int .i64 (k + 2 * (j : Int)) ∧ j ≤ m ∧ Hid (MarkQ wr b s k (j * 2)) ∧ Hid (Only b w wr)) (fun _ i _ => m - (intOf i).toNat)
 case atStart => exact ⟨0, rfl, by simp, Nat.zero_le _, H, Only.refl _ _⟩
 case round =>
  obtain ⟨j, rfl, rfl, hj, H1, H2⟩ := hrel
  have hj0 : (0 : Int) ≤ (j : Int) := by omega
  by_cases h1 : j < m
  ·have h1' : (j : Int) < (m : Int) := by omega
   obtain ⟨⟨v0, c0⟩, f0⟩ := H1.out.cell (j * 2) (by omega)
   obtain ⟨⟨v1, c1⟩, f1⟩ := H1.out.cell (j * 2 + 1) (by omega)
   have S2 : Hid (MarkQ ((wr.setCell ⟨b, j * 2, none⟩ (.int .i64 (k + 2 * (j : Int)))).setCell ⟨b, j * 2 + 1, none⟩ (.int .i64 (k + 2 * (j : Int) + 1))) b s k ((j + 1) * 2)) := by
    have := (H1.out.step (by omega)).step (by omega)
    rw [show ((j * 2 : Nat) : Int) = 2 * (j : Int) by omega, show (k + ((j * 2 + 1 : Nat) : Int)) = k + 2 * (j : Int) + 1 by omega, show j * 2 + 1 + 1 = (j + 1) * 2 by omega] at this
    exact this
   have B2 := Lib.hid ((H2.out.setCell (j * 2) (.int .i64 (k + 2 * (j : Int)))).setCell (j * 2 + 1) (.int .i64 (k + 2 * (j : Int) + 1)))
   clear H1 H2
   go_wp2
   go_roundw
   case rel => exact ⟨j + 1, by go_num, by congr 1; push_cast; omega, by omega, S2, B2⟩
   case measure => simp [intOf]; omega
  ·have h1' : ¬ (j : Int) < (m : Int) := by omega
   have P := Lib.hid (show (k + 2 * (j : Int)) = k + 2 * (m : Int) ∧ j * 2 = m * 2 by omega)
   have Q : Hid (MarkQ wr b s k (m * 2)) := by have := H1.out; rw [P.out.2] at this; exact this
   go_wp2
   go_ret
   exact ⟨by rw [← P.out.1]; rfl, Q.out, H2.out⟩
set_option maxRecDepth 100000 in
set_option maxHeartbeats 1000000 in
theorem held2_some (b m s cap : Nat) (k : Int) (hn : m ≤ 1048576) (k0 : 0 ≤ k) (k1 : k ≤ 1000000000) (w : World) (h : MarkQ w b s k (m * 2)) :
  Calls Tryz.prog 83 #[.slice (some ⟨b, 0, none⟩) m cap, .int .i64 k] w fun e w' => e = .returned (.int .i64 (k + 2 * (m : Int))) ∧ w' = w := by
 have H := Lib.hid h
 clear h
 go_enter Tryz.func83, Tryz.ntmps83
 go_wp2
 go_loopw [1, 5] (fun v i wr => ∃ j : Nat, i = .int .i64 j ∧ v = .int .i64 (k + 2 * (j : Int)) ∧ j ≤ m ∧ wr = w) (fun _ i _ => m - (intOf i).toNat)
 case atStart => exact ⟨0, rfl, by simp, Nat.zero_le _, rfl⟩
 case round =>
  obtain ⟨j, rfl, rfl, hj, rfl⟩ := hrel
  have hj0 : (0 : Int) ≤ (j : Int) := by omega
  by_cases h1 : j < m
  ·have h1' : (j : Int) < (m : Int) := by omega
   have c0 := H.out.at (j * 2) (by omega)
   have c1 := H.out.at (j * 2 + 1) (by omega)
   have bl := H.out.lt
   rw [show (k + ((j * 2 : Nat) : Int)) = k + 2 * (j : Int) by omega] at c0
   rw [show (k + ((j * 2 + 1 : Nat) : Int)) = k + 2 * (j : Int) + 1 by omega] at c1
   have e0 : (k + 2 * (j : Int) != k + 2 * (j : Int)) = false := by simp
   have e1 : (k + 2 * (j : Int) + 1 != k + 2 * (j : Int) + 1) = false := by simp
   go_wp2
   go_roundw
   case rel => exact ⟨j + 1, by go_num, by congr 1; push_cast; omega, by omega, trivial⟩
   case measure => simp [intOf]; omega
  ·have h1' : ¬ (j : Int) < (m : Int) := by omega
   have P := Lib.hid (show (k + 2 * (j : Int)) = k + 2 * (m : Int) by omega)
   go_wp2
   go_ret
   exact ⟨by rw [← P.out]; rfl, rfl⟩
theorem mark2_row (B : Nat) (v : Value) (n : Nat) (xs : List Value) (k : Int) (hn : n ≤ 1048576) (k0 : 0 ≤ k) (k1 : k ≤ 1000000000) (w : World) (h : w.ownsRow B 131 2 v n xs) :
  Calls Tryz.prog 34 #[v, .int .i64 k] w fun e w' => e = .returned (.int .i64 (k + 2 * (n : Int))) ∧ w'.ownsRow B 131 2 v n (valsZ (marks k (n * 2))) ∧ w.grownBy w' v.ownBlock := by
 have hl : (valsZ (marks k (n * 2))).length = n * 2 := by simp [valsZ, marks_len]
 rcases h.2 with ⟨rfl, h0⟩ | ⟨g, cap, cur, rfl, hb, hg, hcap, hmx, hcur, hx⟩
 ·subst h0
  refine (mark2_nil _ _ _ _).mono ?_
  rintro e w' ⟨rfl, rfl⟩
  exact ⟨by simp, ⟨by simp [valsZ, marks], .inl ⟨rfl, rfl⟩⟩, ⟨rfl, rfl, rfl, Nat.le_refl _, fun _ _ _ => rfl⟩⟩
 ·refine (mark2_some g n cur.size cap k hn (by rw [hcur]; omega) k0 k1 w ⟨cur, hg, rfl, fun j hj => absurd hj (Nat.not_lt_zero _)⟩).mono ?_
  rintro e w' ⟨rfl, ⟨vs, h1, h2, h3⟩, ho⟩
  refine ⟨rfl, ⟨hl, .inr ⟨g, cap, vs, rfl, hb, h1, hcap, hmx, by rw [h2, hcur], ?_⟩⟩, ho.grownBy⟩
  apply List.ext_getElem?
  intro i
  by_cases hi : i < n * 2
  ·rw [List.getElem?_take_of_lt (by omega)]
   simp only [valsZ, List.getElem?_map, marks_get k _ i hi]
   have := h3 i hi
   simpa using this
  ·rw [List.getElem?_eq_none (by simp; omega), List.getElem?_eq_none (by simp [valsZ, marks_len]; omega)]
theorem held2_row (B : Nat) (v : Value) (n : Nat) (k : Int) (hn : n ≤ 1048576) (k0 : 0 ≤ k) (k1 : k ≤ 1000000000) (w : World) (h : w.ownsRow B 131 2 v n (valsZ (marks k (n * 2)))) :
  Calls Tryz.prog 83 #[v, .int .i64 k] w fun e w' => e = .returned (.int .i64 (k + 2 * (n : Int))) ∧ w' = w := by
 rcases h.2 with ⟨rfl, h0⟩ | ⟨g, cap, cur, rfl, hb, hg, hcap, hmx, hcur, hx⟩
 ·subst h0
  refine (held2_nil _ _ _ _).mono ?_
  rintro e w' ⟨rfl, rfl⟩
  exact ⟨by simp, rfl⟩
 ·refine held2_some g n cur.size cap k hn k0 k1 w ⟨cur, hg, rfl, fun j hj => ?_⟩
  have := congrArg (fun l => l[j]?) hx
  simp only [valsZ, List.getElem?_map, marks_get k _ j hj] at this
  rw [List.getElem?_take_of_lt (by omega)] at this
  simpa using this
def mkC (k : Int) : List LCl → List LCl
 | [] => []
 | r :: t => (r.1, marks k r.2.length) :: mkC (k + (r.2.length : Int)) t
theorem mkC_len (cs : List LCl) : ∀ k, (mkC k cs).length = cs.length := by
 induction cs with
 | nil => intro _; rfl
 | cons r t ih => intro k; simp [mkC, ih]
theorem mkC_append (a b : List LCl) : ∀ k, mkC k (a ++ b) = mkC k a ++ mkC (k + (totC a : Int)) b := by
 induction a with
 | nil => intro k; simp [mkC, totC]
 | cons r t ih =>
  intro k
  simp only [List.cons_append, mkC, ih]
  rw [show totC (r :: t) = r.2.length + totC t by simp [totC]]
  congr 3
  omega
theorem mkC_step (cs : List LCl) (k : Int) (i : Nat) (h : i < cs.length) : mkC k (cs.take (i + 1)) = mkC k (cs.take i) ++ [(cs[i].1, marks (k + (totC (cs.take i) : Int)) cs[i].2.length)] := by
 rw [List.take_succ_eq_append_getElem h, mkC_append]; rfl
theorem mkC_at (cs : List LCl) (k : Int) (i : Nat) (h : i < cs.length) : (mkC k cs)[i]'(by rw [mkC_len]; exact h) = (cs[i].1, marks (k + (totC (cs.take i) : Int)) cs[i].2.length) := by
 have e : mkC k cs = mkC k (cs.take (i + 1)) ++ mkC (k + (totC (cs.take (i + 1)) : Int)) (cs.drop (i + 1)) := by
  rw [← mkC_append, List.take_append_drop]
 have hl : i < (mkC k (cs.take (i + 1))).length := by rw [mkC_len, List.length_take]; omega
 have e2 : (mkC k cs)[i]? = some (cs[i].1, marks (k + (totC (cs.take i) : Int)) cs[i].2.length) := by
  rw [e, List.getElem?_append_left hl, mkC_step cs k i h, List.getElem?_append_right (by rw [mkC_len, List.length_take]; omega)]
  simp [mkC_len, List.length_take, Nat.min_eq_left (Nat.le_of_lt h)]
 rw [List.getElem?_eq_getElem (by rw [mkC_len]; exact h)] at e2
 exact Option.some.inj e2
set_option maxRecDepth 100000 in
set_option maxHeartbeats 2000000 in
theorem hdL_any (B : Nat) (v : Value) (cs : List LCl) (k : Int) (w : World) (hn : cs.length ≤ 100000000) (hr : ∀ r ∈ cs, r.2.length ≤ 1048576) (ht : totC cs ≤ 500000000) (k0 : 0 ≤ k) (k1 : k ≤ 10000000) (h : OwC w B v (mkC k cs)) :
  Calls Tryz.prog 84 #[v, .int .i64 k] w fun e w' => e = .returned (.int .i64 (k + (totC cs : Int))) ∧ w' = w := by
 have O0 := Lib.hid h
 have HR := Lib.hid hr
 have TL := Lib.hid (fun i => totC_le cs i)
 obtain ⟨sl, cap, rfl⟩ := h.v
 rw [mkC_len] at O0 ⊢
 clear h hr
 generalize hN : cs.length = n at *
 have HN := Lib.hid hN
 clear hN
 go_enter Tryz.func84, Tryz.ntmps84
 go_wp2
 go_loopw [1, 5] (fun a i wr => ∃ j : Nat, i = .int .i64 j ∧ j ≤ n ∧ a = .int .i64 (k + (totC (cs.take j) : Int)) ∧ wr = w) (fun _ i _ => n - (intOf i).toNat)
 case atStart => exact ⟨0, rfl, Nat.zero_le _, by simp [totC], rfl⟩
 case round =>
  obtain ⟨j, rfl, hj, rfl, rfl⟩ := hrel
  have hj0 : (0 : Int) ≤ (j : Int) := by omega
  by_cases g1 : j < n
  ·have g1' : (j : Int) < (n : Int) := by omega
   have hlt : j < cs.length := by rw [HN.out]; exact g1
   have hl2 : j < (mkC k cs).length := by rw [mkC_len]; exact hlt
   have eg := mkC_at cs k j hlt
   have ro := O0.out.each _ (List.getElem_mem hl2)
   rw [eg] at ro
   dsimp only at ro
   rw [marks_len] at ro
   obtain ⟨s9, c9, e9, CL⟩ := O0.out.cls
   obtain ⟨c, o, rfl, cl, hcs⟩ := CL.at hl2
   obtain rfl : sl = some ⟨c, o, none⟩ := by cases e9; rfl
   have hc := hcs j hl2
   rw [eg] at hc
   have tb := TL.out j
   have tb2 := TL.out (j + 1)
   have T1 := Lib.hid (totC_take cs j hlt)
   have hql := HR.out cs[j] (List.getElem_mem hlt)
   have EM := Lib.hid (held_row B cs[j].1 cs[j].2.length (k + (totC (cs.take j) : Int)) hql (by omega) (by omega) wr ro)
   obtain ⟨s1, k1', v1⟩ := own_v ro
   dsimp only at hc
   rw [v1] at hc EM
   clear ro CL e9 hl2 hcs eg v1
   generalize cs[j].2.length = q at *
   clear hlt
   have hneg : ¬ (k + (totC (cs.take j) : Int) + (q : Int)) < 0 := by omega
   clear tb2
   generalize totC (cs.take j) = tj at *
   go_wp2_with fail
   refine EM.out.mono ?_
   rintro e w5 ⟨rfl, rfl⟩
   clear EM
   go_wp2
   go_roundw
   case rel => exact ⟨j + 1, by go_num, by omega, (by rw [T1.out]; congr 1; push_cast; omega), trivial⟩
   case measure => simp [intOf]; omega
  ·have g1' : ¬ (j : Int) < (n : Int) := by omega
   have et : cs.take j = cs := List.take_of_length_le (by rw [HN.out]; omega)
   rw [et]
   clear et
   go_wp2
   go_ret
   exact ⟨rfl, rfl⟩
set_option maxRecDepth 100000 in
set_option maxHeartbeats 2000000 in
theorem eqL_any (sl sl' : Option Addr) (cap cap' : Nat) (cs cs' : List LCl) (w : World) (hn : cs.length ≤ 1048576) (hb : bareC cs = bareC cs') (h : Cls w sl cs) (h' : Cls w sl' cs') :
  Calls Tryz.prog 49 #[.slice sl cs.length cap, .slice sl' cs'.length cap'] w fun e w' => e = .returned (.bool true) ∧ Below w.heap.size w w' := by
 rw [← bareC_len hb]
 have H := Lib.hid h
 have H' := Lib.hid h'
 have HB := Lib.hid hb
 clear h h' hb
 generalize hN : cs.length = n at *
 have HN := Lib.hid hN
 clear hN
 go_enter Tryz.func49, Tryz.ntmps49
 go_wp2
 go_loopw [5] (fun i wr => ∃ j : Nat, i = .int .i64 j ∧ j ≤ n ∧ Hid (Below w.heap.size w wr)) (fun i _ => n - (intOf i).toNat)
 case atStart => exact ⟨0, rfl, Nat.zero_le _, Below.refl _ _⟩
 case round =>
  obtain ⟨j, rfl, hj, H2⟩ := hrel
  have hj0 : (0 : Int) ≤ (j : Int) := by omega
  by_cases h1 : j < n
  ·have h1' : (j : Int) < (n : Int) := by omega
   have hlt : j < cs.length := by rw [HN.out]; exact h1
   have hlt' : j < cs'.length := by rw [← bareC_len HB.out]; exact hlt
   obtain ⟨g, o, rfl, Z0⟩ := H.out.at hlt
   obtain ⟨g', o', rfl, Z0'⟩ := H'.out.at hlt'
   have c0 := (Z0.below H2.out).2 j hlt
   have d0 := (Z0'.below H2.out).2 j hlt'
   have hgl := (Z0.below H2.out).1
   have hgl' := (Z0'.below H2.out).1
   have e1 : cs[j].2 = cs'[j].2 := by
    have := congrArg (fun l => l[j]?) HB.out
    simpa [bareC, hlt, hlt'] using this
   obtain ⟨s1, k1, v1, i1, l1⟩ := (H.out.each cs[j] (List.getElem_mem hlt)).below H2.out
   obtain ⟨s2, k2, v2, i2, l2⟩ := (H'.out.each cs'[j] (List.getElem_mem hlt')).below H2.out
   obtain ⟨v, zs, hp⟩ : ∃ v zs, cs[j] = (v, zs) := ⟨_, _, rfl⟩
   obtain ⟨v', zs', hp'⟩ : ∃ v zs, cs'[j] = (v, zs) := ⟨_, _, rfl⟩
   rw [hp] at c0 v1 i1 l1 e1
   rw [hp'] at d0 v2 i2 l2 e1
   dsimp only at c0 d0 v1 i1 l1 v2 i2 l2 e1
   subst e1 v1 v2
   have E : Hid (∀ W, Below wr.heap.size wr W → Calls Tryz.prog 24 #[.slice s1 zs.length k1, .slice s2 zs.length k2] W fun e w' => e = .returned (.bool true) ∧ Below W.heap.size W w') := fun W hW => eq_any s1 s2 k1 k2 zs W l1 (i1.below hW) (i2.below hW)
   clear hp hp' hlt hlt' Z0 Z0' i1 i2 l1 l2
   generalize zs.length = q at *
   have KB : Hid (∀ W, Below wr.heap.size wr W → g < W.heap.size ∧ g' < W.heap.size ∧ W.cell? ⟨g, o + j, none⟩ = some (.slice s1 q k1) ∧ W.cell? ⟨g', o' + j, none⟩ = some (.slice s2 q k2)) := fun W hW => ⟨Nat.lt_of_lt_of_le hgl hW.size, Nat.lt_of_lt_of_le hgl' hW.size, (hW.cell hgl).trans c0, (hW.cell hgl').trans d0⟩
   go_wp2_with fail
   refine wp_region_held_drew (S := fun W => g < W.heap.size ∧ g' < W.heap.size ∧ W.cell? ⟨g, o + j, none⟩ = some (.slice s1 q k1) ∧ W.cell? ⟨g', o' + j, none⟩ = some (.slice s2 q k2)) (by kernel_rfl) ?_ (fun hHeld => ?_)
   ·exact KB.out _ (Below.refl _ _).drew
   refine tw (i := 0) rfl ?_
   refine tw (i := 1) rfl ?_
   refine tw (i := 2) rfl ?_
   refine tw (i := 3) rfl ?_
   try simp only [Act.put, List.setIfInBounds_toArray, List.set_cons_zero, List.set_cons_succ, List.getElem_toArray, List.getElem_cons_succ, List.getElem_cons_zero]
   refine tw (i := 4) rfl ?_
   refine tw (i := 5) rfl ?_
   refine tw (i := 6) rfl ?_
   refine tw (i := 7) rfl ?_
   try simp only [Act.put, List.setIfInBounds_toArray, List.set_cons_zero, List.set_cons_succ, List.getElem_toArray, List.getElem_cons_succ, List.getElem_cons_zero]
   refine wpAnyH_ready (rs := [8]) (by kernel_rfl) (by simp) ?_
   refine AllReadyH.cons rfl (fun K hK => ?_) AllReadyH.nil
   go_simp
   go_wp2_with (go_at_call 24; refine (E.out _ (by first | exact Below.refl _ _ | exact (Below.refl _ _).drew | exact Go.below_drewN (Below.refl _ _) _)).mono ?_; rintro e w5 ⟨rfl, b5⟩)
   have D5 : Hid (Below wr.heap.size wr w5) := bT ((Below.refl wr.heap.size wr).drew) b5
   clear b5
   refine hK.out _ _ ?_ (fun hHeld => ?_)
   ·exact KB.out _ D5.out
   clear hK K
   refine tw (i := 9) rfl ?_
   try simp only [Act.put, List.setIfInBounds_toArray, List.set_cons_zero, List.set_cons_succ, List.getElem_toArray, List.getElem_cons_succ, List.getElem_cons_zero]
   refine wpAnyH_done (by kernel_rfl) ?_ _
   have BQ5 := Lib.hid (bT H2.out D5.out)
   clear D5 KB E c0 d0
   go_wp2_with fail
   go_roundw
   case rel => exact ⟨j + 1, by go_num, by omega, BQ5⟩
   case measure => simp [intOf]; omega
  ·have h1' : ¬ (j : Int) < (n : Int) := by omega
   go_wp2
   go_ret
   exact ⟨rfl, H2.out⟩
theorem solF_small (css : List (List Int)) (V : Nat) : ∀ (n : Nat) (st : Int) (L : List (List Int)) (D : List Int), (solF css V n st L D).2.1.length ≤ V ∧ (solF css V n st L D).2.2.1.length ≤ L.length + n ∧ ∀ l ∈ (solF css V n st L D).2.2.1, l ∈ L ∨ l.length ≤ D.length + n
 | 0, st, L, D => ⟨Nat.zero_le _, Nat.le_refl _, fun l hl => .inl hl⟩
 | n + 1, st, L, D => by
  unfold solF
  split
  ·split
   ·exact ⟨trL_len _ _, by simp, fun l hl => .inl hl⟩
   ·obtain ⟨h1, h2, h3⟩ := solF_small css V n (st + 1) L (D ++ [(opn (uRun css L D).1 V 1 : Int)])
    refine ⟨h1, by omega, fun l hl => ?_⟩
    rcases h3 l hl with h | h
    ·exact .inl h
    ·exact .inr (by simp at h; omega)
  ·split
   ·refine ⟨Nat.zero_le _, by simp, fun l hl => ?_⟩
    rcases List.mem_append.1 hl with h | h
    ·exact .inl h
    ·rw [List.mem_singleton.1 h, negL_len]; exact .inr (by omega)
   ·obtain ⟨h1, h2, h3⟩ := solF_small css V n (st + 1) (L ++ [negL D]) D.dropLast
    refine ⟨h1, by simp at h2; omega, fun l hl => ?_⟩
    rcases h3 l hl with h | h
    ·rcases List.mem_append.1 h with h | h
     ·exact .inl h
     ·rw [List.mem_singleton.1 h, negL_len]; exact .inr (by omega)
    ·exact .inr (by simp at h; omega)
theorem solA_small (vars : Int) (css : List (List Int)) (bud : Int) : (solA vars css bud).1.2.1.length ≤ 900 ∧ (solA vars css bud).1.2.2.1.length ≤ 1000 ∧ ∀ l ∈ (solA vars css bud).1.2.2.1, l.length ≤ 1000 := by
 by_cases h : SolOk vars css bud
 ·rw [solA_yes h]
  obtain ⟨h1, h2, h3⟩ := solF_small css vars.toNat bud.toNat 0 [] []
  have a1 := h.1.1.1
  have a2 := h.1.1.2
  have a3 := h.2.1
  have a4 := h.2.2
  refine ⟨by simp only []; omega, by simp only [List.length_nil] at h2 ⊢; omega, fun l hl => ?_⟩
  rcases h3 l hl with g | g
  ·cases g
  ·simp only [List.length_nil] at g; omega
 ·rw [solA_no h]; exact ⟨by simp, by simp, fun l hl => by cases hl⟩
theorem tot_le {ls : List LCl} (h : ∀ r ∈ ls, r.2.length ≤ 1000) : totC ls ≤ 1000 * ls.length := by
 induction ls with
 | nil => simp [totC]
 | cons r t ih =>
  have h1 := ih (fun s hs => h s (by simp [hs]))
  have h2 := h r (by simp)
  have e : totC (r :: t) = r.2.length + totC t := by simp [totC]
  rw [e, List.length_cons]
  omega
theorem OwC.btw {X Y B : Nat} {w w' : World} {v : Value} {cs : List LCl} (h : OwC w B v cs) (hb : Btw X Y w w') (hv : ∀ j, v.ownBlock = some j → j < X ∨ Y ≤ j) (hr : ∀ r ∈ cs, ∀ j, r.1.ownBlock = some j → j < X ∨ Y ≤ j) : OwC w' B v cs :=
 ⟨own_btw h.row hb hv, fun r hr2 => own_btw (h.each r hr2) hb (hr r hr2), h.diff⟩
end Go.Proofs.YtnihhbfgbilimaaGreatDoor
