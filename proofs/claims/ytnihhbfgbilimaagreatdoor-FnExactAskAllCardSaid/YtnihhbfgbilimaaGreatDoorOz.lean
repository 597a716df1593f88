/- -/
import Derived.Test.YtnihhbfgbilimaaGreatDoorKHah
import Derived.Test.YtnihhbfgbilimaaGreatDoorOy
import Derived.Test.YtnihhbfgbilimaaGreatDoorWaf
import Derived.Test.YtnihhbfgbilimaaGreatDoorAlz
namespace Go.Proofs.YtnihhbfgbilimaaGreatDoor
open Go.RowKit
open List (setIfInBounds_toArray set_cons_zero set_cons_succ getElem_toArray getElem_cons_succ getElem_cons_zero)
set_option linter.unusedVariables false
def K2x (w0 W : World) : Prop := ∀ (k : Nat) (us : Array Value) (t : TypeId), t ≠ 2 → w0.heap[k]? = some (.cells us t) → W.heap[k]? = some (.cells us t)
theorem K2x.refl (W : World) : K2x W W := fun _ _ _ _ h => h
theorem K2x.trans {a b c : World} (h : K2x a b) (g : K2x b c) : K2x a c := fun k us t ht hk => g k us t ht (h k us t ht hk)
theorem K2x.grown {w0 W W' : World} {B m : Nat} {v : Value} {n : Nat} {xs : List Value} (h : K2x w0 W) (hv : W.ownsRow B 2 m v n xs) (hg : W.grownBy W' v.ownBlock) : K2x w0 W' := fun k us t ht hk => by
  have h1 := h k us t ht hk
  refine (hg.block k (Array.getElem?_eq_some_iff.1 h1).1 (fun e => ?_)).trans h1
  rcases hv.2 with ⟨hv0, _⟩ | ⟨g, kk, cur, hv0, hB, hh, _⟩
  · rw [hv0] at e; cases e
  · rw [hv0] at e
    have e' : k = g := by simpa [Value.ownBlock] using e
    subst e'
    rw [h1] at hh
    cases hh
    exact ht rfl
theorem totC_add (a b : List LCl) : totC (a ++ b) = totC a + totC b := by simp [totC]
theorem totC_take (cs : List LCl) (k : Nat) (h : k < cs.length) : totC (cs.take (k + 1)) = totC (cs.take k) + cs[k].2.length := by
  rw [show cs.take (k + 1) = cs.take k ++ [cs[k]] by rw [List.take_add_one, List.getElem?_eq_getElem h]; rfl, totC_add]
  rfl
theorem totC_le (cs : List LCl) (k : Nat) : totC (cs.take k) ≤ totC cs := by
  have := congrArg totC (List.take_append_drop k cs)
  rw [totC_add] at this
  omega
theorem bareC_len {a b : List LCl} (h : bareC a = bareC b) : a.length = b.length := by have := congrArg List.length h; simpa [bareC] using this
theorem marks_len (k : Int) (n : Nat) : (marks k n).length = n := by simp [marks]
theorem marks_get (k : Int) (n i : Nat) (h : i < n) : (marks k n)[i]? = some (k + (i : Int)) := by simp [marks, h]
set_option maxHeartbeats 400000 in
theorem mark_nil (sl : Option Addr) (cap : Nat) (k : Int) (w : World) :
    Calls Tryz.prog 26 #[.slice sl 0 cap, .int .i64 k] w fun e w' => e = .returned (.int .i64 k) ∧ w' = w := by
  go_enter Tryz.func26, Tryz.ntmps26
  go_wp2
  refine wp_loop_rounds 1 ?_
  rw [rounds_succ]
  go_wp2
  go_ret
  exact ⟨rfl, rfl⟩
set_option maxHeartbeats 400000 in
theorem held_nil (sl : Option Addr) (cap : Nat) (k : Int) (w : World) :
    Calls Tryz.prog 101 #[.slice sl 0 cap, .int .i64 k] w fun e w' => e = .returned (.int .i64 k) ∧ w' = w := by
  go_enter Tryz.func101, Tryz.ntmps101
  go_wp2
  refine wp_loop_rounds 1 ?_
  rw [rounds_succ]
  go_wp2
  go_ret
  exact ⟨rfl, rfl⟩
set_option maxHeartbeats 400000 in
theorem held_some (b n s cap : Nat) (k : Int) (hn : n ≤ 1048576) (k0 : 0 ≤ k) (k1 : k ≤ 1000000000) (w : World) (h : Marked w b s k n) :
    Calls Tryz.prog 101 #[.slice (some ⟨b, 0, none⟩) n cap, .int .i64 k] w fun e w' => e = .returned (.int .i64 (k + (n : Int))) ∧ w' = w := by
  have HM := Lib.hid h
  clear h
  go_enter Tryz.func101, Tryz.ntmps101
  go_wp2
  go_loop [1, 5] (fun m i => ∃ j : Nat, i = .int .i64 j ∧ m = .int .i64 (k + (j : Int)) ∧ j ≤ n) (fun _ i => n - (intOf i).toNat)
  case atStart => exact ⟨0, rfl, by simp, Nat.zero_le _⟩
  case round =>
    obtain ⟨j, rfl, rfl, hj⟩ := hrel
    have hj0 : (0 : Int) ≤ (j : Int) := by omega
    by_cases h1 : j < n
    · have h1' : (j : Int) < (n : Int) := by omega
      have hc := HM.out.at j h1
      go_wp2
      go_round
      case rel => exact ⟨j + 1, by go_num, by go_num, by omega⟩
      case measure => simp [intOf]; omega
    · have h1' : ¬ (j : Int) < (n : Int) := by omega
      have H4 : Hid ((k + (j : Int)) = k + (n : Int)) := by show (k + (j : Int)) = k + (n : Int); omega
      go_wp2
      go_ret
      exact ⟨by rw [← H4.out]; rfl, rfl⟩
theorem mark_row (B : Nat) (v : Value) (zs : List Int) (k : Int) (hn : zs.length ≤ 1048576) (k0 : 0 ≤ k) (k1 : k ≤ 1000000000) (w : World) (h : w.ownsRow B 2 1 v zs.length (valsZ zs)) :
    Calls Tryz.prog 26 #[v, .int .i64 k] w fun e w' => e = .returned (.int .i64 (k + (zs.length : Int))) ∧ w'.ownsRow B 2 1 v zs.length (valsZ (marks k zs.length)) ∧ w.grownBy w' v.ownBlock := by
  have hl : (valsZ (marks k zs.length)).length = zs.length * 1 := by simp [valsZ, marks_len]
  rcases h.2 with ⟨rfl, h0⟩ | ⟨g, cap, cur, rfl, hb, hg, hcap, hmx, hcur, hx⟩
  · rw [h0]
    refine (mark_nil _ _ _ _).mono ?_
    rintro e w' ⟨rfl, rfl⟩
    exact ⟨by simp, ⟨by simp [valsZ, marks], .inl ⟨rfl, rfl⟩⟩, ⟨rfl, rfl, rfl, Nat.le_refl _, fun _ _ _ => rfl⟩⟩
  · refine (mark_some g zs.length cur.size cap k hn (by omega) k0 k1 w ⟨cur, hg, rfl, fun j hj => absurd hj (Nat.not_lt_zero _)⟩).mono ?_
    rintro e w' ⟨rfl, ⟨vs, h1, h2, h3⟩, ho⟩
    refine ⟨rfl, ⟨hl, .inr ⟨g, cap, vs, rfl, hb, h1, hcap, hmx, by rw [h2, hcur], ?_⟩⟩, ho.grownBy⟩
    apply List.ext_getElem?
    intro i
    by_cases hi : i < zs.length
    · rw [List.getElem?_take_of_lt (by omega)]
      simp only [valsZ, List.getElem?_map, marks_get k _ i hi]
      have := h3 i hi
      simpa using this
    · rw [List.getElem?_eq_none (by simp; omega), List.getElem?_eq_none (by simp [valsZ, marks_len]; omega)]
theorem held_row (B : Nat) (v : Value) (n : Nat) (k : Int) (hn : n ≤ 1048576) (k0 : 0 ≤ k) (k1 : k ≤ 1000000000) (w : World) (h : w.ownsRow B 2 1 v n (valsZ (marks k n))) :
    Calls Tryz.prog 101 #[v, .int .i64 k] w fun e w' => e = .returned (.int .i64 (k + (n : Int))) ∧ w' = w := by
  rcases h.2 with ⟨rfl, h0⟩ | ⟨g, cap, cur, rfl, hb, hg, hcap, hmx, hcur, hx⟩
  · rw [h0]
    refine (held_nil _ _ _ _).mono ?_
    rintro e w' ⟨rfl, rfl⟩
    exact ⟨by simp, rfl⟩
  · refine held_some g n cur.size cap k hn k0 k1 w ⟨cur, hg, rfl, fun j hj => ?_⟩
    have := congrArg (fun l => l[j]?) hx
    simp only [valsZ, List.getElem?_map, marks_get k _ j hj] at this
    rw [List.getElem?_take_of_lt (by omega)] at this
    simpa using this
set_option maxHeartbeats 400000 in
theorem mark2_nil (sl : Option Addr) (cap : Nat) (k : Int) (w : World) :
    Calls Tryz.prog 34 #[.slice sl 0 cap, .int .i64 k] w fun e w' => e = .returned (.int .i64 k) ∧ w' = w := by
  go_enter Tryz.func34, Tryz.ntmps34
  go_wp2
  refine wp_loop_rounds 1 ?_
  rw [rounds_succ]
  go_wp2
  go_ret
  exact ⟨rfl, rfl⟩
set_option maxHeartbeats 400000 in
theorem held2_nil (sl : Option Addr) (cap : Nat) (k : Int) (w : World) :
    Calls Tryz.prog 83 #[.slice sl 0 cap, .int .i64 k] w fun e w' => e = .returned (.int .i64 k) ∧ w' = w := by
  go_enter Tryz.func83, Tryz.ntmps83
  go_wp2
  refine wp_loop_rounds 1 ?_
  rw [rounds_succ]
  go_wp2
  go_ret
  exact ⟨rfl, rfl⟩
set_option maxRecDepth 100000 in
set_option maxHeartbeats 1000000 in
theorem mark2_some (b m s cap : Nat) (k : Int) (hn : m ≤ 1048576) (hs : m * 2 ≤ s) (k0 : 0 ≤ k) (k1 : k ≤ 1000000000) (w : World) (h : MarkQ w b s k 0) :
    Calls Tryz.prog 34 #[.slice (some ⟨b, 0, none⟩) m cap, .int .i64 k] w fun e w' => e = .returned (.int .i64 (k + 2 * (m : Int))) ∧ MarkQ w' b s k (m * 2) ∧ Only b w w' := by
  have H := Lib.hid h
  clear h
  go_enter Tryz.func34, Tryz.ntmps34
  go_wp2
  go_loopw [1, 5] (fun v i wr => ∃ j : Nat, i = .int .i64 j ∧ v = .int .i64 (k + 2 * (j : Int)) ∧ j ≤ m ∧ Hid (MarkQ wr b s k (j * 2)) ∧ Hid (Only b w wr)) (fun _ i _ => m - (intOf i).toNat)
  case atStart => exact ⟨0, rfl, by simp, Nat.zero_le _, H, Only.refl _ _⟩
  case round =>
    obtain ⟨j, rfl, rfl, hj, H1, H2⟩ := hrel
    have hj0 : (0 : Int) ≤ (j : Int) := by omega
    by_cases h1 : j < m
    · have h1' : (j : Int) < (m : Int) := by omega
      obtain ⟨⟨v0, c0⟩, f0⟩ := H1.out.cell (j * 2) (by omega)
      obtain ⟨⟨v1, c1⟩, f1⟩ := H1.out.cell (j * 2 + 1) (by omega)
      have S2 : Hid (MarkQ ((wr.setCell ⟨b, j * 2, none⟩ (.int .i64 (k + 2 * (j : Int)))).setCell ⟨b, j * 2 + 1, none⟩ (.int .i64 (k + 2 * (j : Int) + 1))) b s k ((j + 1) * 2)) := by
        have := (H1.out.step (by omega)).step (by omega)
        rw [show ((j * 2 : Nat) : Int) = 2 * (j : Int) by omega, show (k + ((j * 2 + 1 : Nat) : Int)) = k + 2 * (j : Int) + 1 by omega, show j * 2 + 1 + 1 = (j + 1) * 2 by omega] at this
        exact this
      have B2 := Lib.hid ((H2.out.setCell (j * 2) (.int .i64 (k + 2 * (j : Int)))).setCell (j * 2 + 1) (.int .i64 (k + 2 * (j : Int) + 1)))
      clear H1 H2
      go_wp2
      go_roundw
      case rel => exact ⟨j + 1, by go_num, by congr 1; push_cast; omega, by omega, S2, B2⟩
      case measure => simp [intOf]; omega
    · have h1' : ¬ (j : Int) < (m : Int) := by omega
      have P := Lib.hid (show (k + 2 * (j : Int)) = k + 2 * (m : Int) ∧ j * 2 = m * 2 by omega)
      have Q : Hid (MarkQ wr b s k (m * 2)) := by have := H1.out; rw [P.out.2] at this; exact this
      go_wp2
      go_ret
      exact ⟨by rw [← P.out.1]; rfl, Q.out, H2.out⟩
set_option maxRecDepth 100000 in
set_option maxHeartbeats 1000000 in
theorem held2_some (b m s cap : Nat) (k : Int) (hn : m ≤ 1048576) (k0 : 0 ≤ k) (k1 : k ≤ 1000000000) (w : World) (h : MarkQ w b s k (m * 2)) :
    Calls Tryz.prog 83 #[.slice (some ⟨b, 0, none⟩) m cap, .int .i64 k] w fun e w' => e = .returned (.int .i64 (k + 2 * (m : Int))) ∧ w' = w := by
  have H := Lib.hid h
  clear h
  go_enter Tryz.func83, Tryz.ntmps83
  go_wp2
  go_loopw [1, 5] (fun v i wr => ∃ j : Nat, i = .int .i64 j ∧ v = .int .i64 (k + 2 * (j : Int)) ∧ j ≤ m ∧ wr = w) (fun _ i _ => m - (intOf i).toNat)
  case atStart => exact ⟨0, rfl, by simp, Nat.zero_le _, rfl⟩
  case round =>
    obtain ⟨j, rfl, rfl, hj, rfl⟩ := hrel
    have hj0 : (0 : Int) ≤ (j : Int) := by omega
    by_cases h1 : j < m
    · have h1' : (j : Int) < (m : Int) := by omega
      have c0 := H.out.at (j * 2) (by omega)
      have c1 := H.out.at (j * 2 + 1) (by omega)
      have bl := H.out.lt
      rw [show (k + ((j * 2 : Nat) : Int)) = k + 2 * (j : Int) by omega] at c0
      rw [show (k + ((j * 2 + 1 : Nat) : Int)) = k + 2 * (j : Int) + 1 by omega] at c1
      have e0 : (k + 2 * (j : Int) != k + 2 * (j : Int)) = false := by simp
      have e1 : (k + 2 * (j : Int) + 1 != k + 2 * (j : Int) + 1) = false := by simp
      go_wp2
      go_roundw
      case rel => exact ⟨j + 1, by go_num, by congr 1; push_cast; omega, by omega, trivial⟩
      case measure => simp [intOf]; omega
    · have h1' : ¬ (j : Int) < (m : Int) := by omega
      have P := Lib.hid (show (k + 2 * (j : Int)) = k + 2 * (m : Int) by omega)
      go_wp2
      go_ret
      exact ⟨by rw [← P.out]; rfl, rfl⟩
theorem mark2_row (B : Nat) (v : Value) (n : Nat) (xs : List Value) (k : Int) (hn : n ≤ 1048576) (k0 : 0 ≤ k) (k1 : k ≤ 1000000000) (w : World) (h : w.ownsRow B 131 2 v n xs) :
    Calls Tryz.prog 34 #[v, .int .i64 k] w fun e w' => e = .returned (.int .i64 (k + 2 * (n : Int))) ∧ w'.ownsRow B 131 2 v n (valsZ (marks k (n * 2))) ∧ w.grownBy w' v.ownBlock := by
  have hl : (valsZ (marks k (n * 2))).length = n * 2 := by simp [valsZ, marks_len]
  rcases h.2 with ⟨rfl, h0⟩ | ⟨g, cap, cur, rfl, hb, hg, hcap, hmx, hcur, hx⟩
  · subst h0
    refine (mark2_nil _ _ _ _).mono ?_
    rintro e w' ⟨rfl, rfl⟩
    exact ⟨by simp, ⟨by simp [valsZ, marks], .inl ⟨rfl, rfl⟩⟩, ⟨rfl, rfl, rfl, Nat.le_refl _, fun _ _ _ => rfl⟩⟩
  · refine (mark2_some g n cur.size cap k hn (by rw [hcur]; omega) k0 k1 w ⟨cur, hg, rfl, fun j hj => absurd hj (Nat.not_lt_zero _)⟩).mono ?_
    rintro e w' ⟨rfl, ⟨vs, h1, h2, h3⟩, ho⟩
    refine ⟨rfl, ⟨hl, .inr ⟨g, cap, vs, rfl, hb, h1, hcap, hmx, by rw [h2, hcur], ?_⟩⟩, ho.grownBy⟩
    apply List.ext_getElem?
    intro i
    by_cases hi : i < n * 2
    · rw [List.getElem?_take_of_lt (by omega)]
      simp only [valsZ, List.getElem?_map, marks_get k _ i hi]
      have := h3 i hi
      simpa using this
    · rw [List.getElem?_eq_none (by simp; omega), List.getElem?_eq_none (by simp [valsZ, marks_len]; omega)]
theorem held2_row (B : Nat) (v : Value) (n : Nat) (k : Int) (hn : n ≤ 1048576) (k0 : 0 ≤ k) (k1 : k ≤ 1000000000) (w : World) (h : w.ownsRow B 131 2 v n (valsZ (marks k (n * 2)))) :
    Calls Tryz.prog 83 #[v, .int .i64 k] w fun e w' => e = .returned (.int .i64 (k + 2 * (n : Int))) ∧ w' = w := by
  rcases h.2 with ⟨rfl, h0⟩ | ⟨g, cap, cur, rfl, hb, hg, hcap, hmx, hcur, hx⟩
  · subst h0
    refine (held2_nil _ _ _ _).mono ?_
    rintro e w' ⟨rfl, rfl⟩
    exact ⟨by simp, rfl⟩
  · refine held2_some g n cur.size cap k hn k0 k1 w ⟨cur, hg, rfl, fun j hj => ?_⟩
    have := congrArg (fun l => l[j]?) hx
    simp only [valsZ, List.getElem?_map, marks_get k _ j hj] at this
    rw [List.getElem?_take_of_lt (by omega)] at this
    simpa using this
def mkC (k : Int) : List LCl → List LCl
  | [] => []
  | r :: t => (r.1, marks k r.2.length) :: mkC (k + (r.2.length : Int)) t
theorem mkC_len (cs : List LCl) : ∀ k, (mkC k cs).length = cs.length := by
  induction cs with
  | nil => intro _; rfl
  | cons r t ih => intro k; simp [mkC, ih]
theorem mkC_append (a b : List LCl) : ∀ k, mkC k (a ++ b) = mkC k a ++ mkC (k + (totC a : Int)) b := by
  induction a with
  | nil => intro k; simp [mkC, totC]
  | cons r t ih =>
    intro k
    simp only [List.cons_append, mkC, ih]
    rw [show totC (r :: t) = r.2.length + totC t by simp [totC]]
    congr 3
    omega
theorem mkC_step (cs : List LCl) (k : Int) (i : Nat) (h : i < cs.length) : mkC k (cs.take (i + 1)) = mkC k (cs.take i) ++ [(cs[i].1, marks (k + (totC (cs.take i) : Int)) cs[i].2.length)] := by
  rw [List.take_succ_eq_append_getElem h, mkC_append]; rfl
theorem mkC_at (cs : List LCl) (k : Int) (i : Nat) (h : i < cs.length) : (mkC k cs)[i]'(by rw [mkC_len]; exact h) = (cs[i].1, marks (k + (totC (cs.take i) : Int)) cs[i].2.length) := by
  have e : mkC k cs = mkC k (cs.take (i + 1)) ++ mkC (k + (totC (cs.take (i + 1)) : Int)) (cs.drop (i + 1)) := by
    rw [← mkC_append, List.take_append_drop]
  have hl : i < (mkC k (cs.take (i + 1))).length := by rw [mkC_len, List.length_take]; omega
  have e2 : (mkC k cs)[i]? = some (cs[i].1, marks (k + (totC (cs.take i) : Int)) cs[i].2.length) := by
    rw [e, List.getElem?_append_left hl, mkC_step cs k i h, List.getElem?_append_right (by rw [mkC_len, List.length_take]; omega)]
    simp [mkC_len, List.length_take, Nat.min_eq_left (Nat.le_of_lt h)]
  rw [List.getElem?_eq_getElem (by rw [mkC_len]; exact h)] at e2
  exact Option.some.inj e2
theorem OwC.over {w w' : World} {B : Nat} {v : Value} {ps ss : List LCl} {r : LCl} {zs : List Int} (h : OwC w B v (ps ++ r :: ss)) (hg : w.grownBy w' r.1.ownBlock) (hz : zs.length = r.2.length) (hr : w'.ownsRow B 2 1 r.1 zs.length (valsZ zs)) : OwC w' B v (ps ++ (r.1, zs) :: ss) := by
  have hp := List.pairwise_append.1 h.diff
  have hc := List.pairwise_cons.1 hp.2.1
  have hro := h.each r (by simp)
  refine ⟨?_, fun s hs => ?_, ?_⟩
  · have e1 : hdC (ps ++ (r.1, zs) :: ss) = hdC (ps ++ r :: ss) := by simp [hdC]
    have e2 : (ps ++ (r.1, zs) :: ss).length = (ps ++ r :: ss).length := by simp
    rw [e1, e2]
    exact h.row.kept hg (own_diff h.row hro (by decide))
  · rcases List.mem_append.1 hs with hs | hs
    · exact (h.each s (by simp [hs])).kept hg (hp.2.2 s hs r (by simp))
    · rcases List.mem_cons.1 hs with rfl | hs
      · exact hr
      · refine (h.each s (by simp [hs])).kept hg ?_
        rcases hc.1 s hs with e | e
        · rw [e]; cases s.1.ownBlock <;> simp
        · exact .inr (fun e2 => e e2.symm)
  · refine List.pairwise_append.2 ⟨hp.1, List.pairwise_cons.2 ⟨fun s hs => hc.1 s hs, hc.2⟩, fun a ha b hb => ?_⟩
    rcases List.mem_cons.1 hb with rfl | hb
    · exact hp.2.2 a ha r (by simp)
    · exact hp.2.2 a ha b (by simp [hb])
set_option maxRecDepth 100000 in
set_option maxHeartbeats 2000000 in
theorem mkL_any (B : Nat) (v : Value) (cs : List LCl) (k : Int) (w : World) (vt : Value) (nt : Nat) (xt : List Value) (hvt : w.ownsRow B 2 1 vt nt xt) (ap : ∀ r ∈ cs, ∀ j, r.1.ownBlock = some j → vt.ownBlock ≠ some j) (hn : cs.length ≤ 100000000) (hr : ∀ r ∈ cs, r.2.length ≤ 1048576) (ht : totC cs ≤ 500000000) (k0 : 0 ≤ k) (k1 : k ≤ 10000000) (hB : B ≤ w.heap.size) (h : OwC w B v cs) :
    Calls Tryz.prog 50 #[v, .int .i64 k] w fun e w' => e = .returned (.int .i64 (k + (totC cs : Int))) ∧ OwC w' B v (mkC k cs) ∧ Below B w w' ∧ K2x w w' ∧ w'.ownsRow B 2 1 vt nt xt := by
  have O0 := Lib.hid h
  have HR := Lib.hid hr
  have T0 := Lib.hid hvt
  have AP := Lib.hid ap
  have TL := Lib.hid (fun i => totC_le cs i)
  obtain ⟨sl, cap, rfl⟩ := h.v
  clear h hr hvt ap
  generalize hN : cs.length = n at *
  have HN := Lib.hid hN
  clear hN
  go_enter Tryz.func50, Tryz.ntmps50
  go_wp2
  go_loopw [1, 5] (fun a i wr => ∃ j : Nat, i = .int .i64 j ∧ j ≤ n ∧ a = .int .i64 (k + (totC (cs.take j) : Int)) ∧ Hid (OwC wr B (.slice sl n cap) (mkC k (cs.take j) ++ cs.drop j)) ∧ Hid (Below B w wr) ∧ Hid (K2x w wr ∧ wr.ownsRow B 2 1 vt nt xt)) (fun _ i _ => n - (intOf i).toNat)
  case atStart => exact ⟨0, rfl, Nat.zero_le _, by simp [totC], O0, Below.refl _ _, K2x.refl _, T0.out⟩
  case round =>
    obtain ⟨j, rfl, hj, rfl, OC, HB, HT⟩ := hrel
    have hj0 : (0 : Int) ≤ (j : Int) := by omega
    by_cases g1 : j < n
    · have g1' : (j : Int) < (n : Int) := by omega
      have hlt : j < cs.length := by rw [HN.out]; exact g1
      have ed : cs.drop j = cs[j] :: cs.drop (j + 1) := (List.getElem_cons_drop (h := hlt)).symm
      have oc := OC.out
      rw [ed] at oc
      have ro := oc.each cs[j] (List.mem_append_right _ (List.mem_cons_self ..))
      have ll : (mkC k (cs.take j) ++ cs[j] :: cs.drop (j + 1)).length = n := by rw [← ed, List.length_append, mkC_len, List.length_take, List.length_drop, HN.out]; omega
      have la : (mkC k (cs.take j)).length = j := by rw [mkC_len, List.length_take]; omega
      obtain ⟨s9, c9, e9, CL⟩ := oc.cls
      have hl2 : j < (mkC k (cs.take j) ++ cs[j] :: cs.drop (j + 1)).length := by rw [ll]; exact g1
      obtain ⟨c, o, rfl, cl, hcs⟩ := CL.at hl2
      obtain rfl : sl = some ⟨c, o, none⟩ := by cases e9; rfl
      have hc := hcs j hl2
      have eg : (mkC k (cs.take j) ++ cs[j] :: cs.drop (j + 1))[j]'hl2 = cs[j] := by
        rw [List.getElem_append_right (by omega)]
        simp [la]
      rw [eg] at hc
      have tb := TL.out j
      have T1 := Lib.hid (totC_take cs j hlt)
      have EM := Lib.hid (mark_row B cs[j].1 cs[j].2 (k + (totC (cs.take j) : Int)) (HR.out cs[j] (List.getElem_mem hlt)) (by omega) (by omega) wr ro)
      have NX : Hid (∀ W, W.ownsRow B 2 1 cs[j].1 cs[j].2.length (valsZ (marks (k + (totC (cs.take j) : Int)) cs[j].2.length)) → wr.grownBy W cs[j].1.ownBlock → OwC W B (.slice (some ⟨c, o, none⟩) n cap) (mkC k (cs.take (j + 1)) ++ cs.drop (j + 1))) := fun W h1 h2 => by
        rw [mkC_step cs k j hlt, List.append_assoc]
        exact oc.over h2 (marks_len _ _) (by rw [marks_len]; exact h1)
      have RB := Lib.hid (show ∀ b, cs[j].1.ownBlock = some b → B ≤ b from fun b hb => (ro.lt b hb).1)
      have KN : Hid (∀ W, wr.grownBy W cs[j].1.ownBlock → K2x w W ∧ W.ownsRow B 2 1 vt nt xt) := fun W h2 => ⟨HT.out.1.grown ro h2, HT.out.2.kept h2 (by
        rcases hv : vt.ownBlock with _ | q
        · exact .inl rfl
        · exact .inr (fun e => AP.out cs[j] (List.getElem_mem hlt) q e.symm hv))⟩
      obtain ⟨s1, k1', v1⟩ := own_v ro
      rw [v1] at hc EM NX RB KN
      clear ed oc ro ll la CL e9 hl2 hcs eg OC v1
      generalize cs[j].2.length = q at *
      clear hlt
      generalize totC (cs.take j) = tj at *
      have hws := HB.out.size
      go_wp2_with fail
      refine EM.out.mono ?_
      rintro e w5 ⟨rfl, o5, gr5⟩
      have O5 := Lib.hid (NX.out w5 o5 gr5)
      have K5 := Lib.hid (KN.out w5 gr5)
      have B5 := Lib.hid (HB.out.grown gr5 (by omega) (fun b hb => RB.out b hb))
      clear o5 gr5 EM NX RB HB KN HT
      go_wp2
      go_roundw
      case rel => exact ⟨j + 1, by go_num, by omega, (by rw [T1.out]; congr 1; push_cast; omega), O5, B5, K5⟩
      case measure => simp [intOf]; omega
    · have g1' : ¬ (j : Int) < (n : Int) := by omega
      have et : cs.take j = cs := List.take_of_length_le (by rw [HN.out]; omega)
      have ed : cs.drop j = [] := List.drop_of_length_le (by rw [HN.out]; omega)
      have P : Hid (OwC wr B (.slice sl n cap) (mkC k cs)) := by have := OC.out; rw [et, ed, List.append_nil] at this; exact this
      rw [et]
      clear OC et ed
      go_wp2
      go_ret
      exact ⟨rfl, P.out, HB.out, HT.out.1, HT.out.2⟩
set_option maxRecDepth 100000 in
set_option maxHeartbeats 2000000 in
theorem hdL_any (B : Nat) (v : Value) (cs : List LCl) (k : Int) (w : World) (hn : cs.length ≤ 100000000) (hr : ∀ r ∈ cs, r.2.length ≤ 1048576) (ht : totC cs ≤ 500000000) (k0 : 0 ≤ k) (k1 : k ≤ 10000000) (h : OwC w B v (mkC k cs)) :
    Calls Tryz.prog 84 #[v, .int .i64 k] w fun e w' => e = .returned (.int .i64 (k + (totC cs : Int))) ∧ w' = w := by
  have O0 := Lib.hid h
  have HR := Lib.hid hr
  have TL := Lib.hid (fun i => totC_le cs i)
  obtain ⟨sl, cap, rfl⟩ := h.v
  rw [mkC_len] at O0 ⊢
  clear h hr
  generalize hN : cs.length = n at *
  have HN := Lib.hid hN
  clear hN
  go_enter Tryz.func84, Tryz.ntmps84
  go_wp2
  go_loopw [1, 5] (fun a i wr => ∃ j : Nat, i = .int .i64 j ∧ j ≤ n ∧ a = .int .i64 (k + (totC (cs.take j) : Int)) ∧ wr = w) (fun _ i _ => n - (intOf i).toNat)
  case atStart => exact ⟨0, rfl, Nat.zero_le _, by simp [totC], rfl⟩
  case round =>
    obtain ⟨j, rfl, hj, rfl, rfl⟩ := hrel
    have hj0 : (0 : Int) ≤ (j : Int) := by omega
    by_cases g1 : j < n
    · have g1' : (j : Int) < (n : Int) := by omega
      have hlt : j < cs.length := by rw [HN.out]; exact g1
      have hl2 : j < (mkC k cs).length := by rw [mkC_len]; exact hlt
      have eg := mkC_at cs k j hlt
      have ro := O0.out.each _ (List.getElem_mem hl2)
      rw [eg] at ro
      dsimp only at ro
      rw [marks_len] at ro
      obtain ⟨s9, c9, e9, CL⟩ := O0.out.cls
      obtain ⟨c, o, rfl, cl, hcs⟩ := CL.at hl2
      obtain rfl : sl = some ⟨c, o, none⟩ := by cases e9; rfl
      have hc := hcs j hl2
      rw [eg] at hc
      have tb := TL.out j
      have tb2 := TL.out (j + 1)
      have T1 := Lib.hid (totC_take cs j hlt)
      have hql := HR.out cs[j] (List.getElem_mem hlt)
      have EM := Lib.hid (held_row B cs[j].1 cs[j].2.length (k + (totC (cs.take j) : Int)) hql (by omega) (by omega) wr ro)
      obtain ⟨s1, k1', v1⟩ := own_v ro
      dsimp only at hc
      rw [v1] at hc EM
      clear ro CL e9 hl2 hcs eg v1
      generalize cs[j].2.length = q at *
      clear hlt
      have hneg : ¬ (k + (totC (cs.take j) : Int) + (q : Int)) < 0 := by omega
      clear tb2
      generalize totC (cs.take j) = tj at *
      go_wp2_with fail
      refine EM.out.mono ?_
      rintro e w5 ⟨rfl, rfl⟩
      clear EM
      go_wp2
      go_roundw
      case rel => exact ⟨j + 1, by go_num, by omega, (by rw [T1.out]; congr 1; push_cast; omega), trivial⟩
      case measure => simp [intOf]; omega
    · have g1' : ¬ (j : Int) < (n : Int) := by omega
      have et : cs.take j = cs := List.take_of_length_le (by rw [HN.out]; omega)
      rw [et]
      clear et
      go_wp2
      go_ret
      exact ⟨rfl, rfl⟩
set_option maxRecDepth 100000 in
set_option maxHeartbeats 2000000 in
theorem eqL_any (sl sl' : Option Addr) (cap cap' : Nat) (cs cs' : List LCl) (w : World) (hn : cs.length ≤ 1048576) (hb : bareC cs = bareC cs') (h : Cls w sl cs) (h' : Cls w sl' cs') :
    Calls Tryz.prog 49 #[.slice sl cs.length cap, .slice sl' cs'.length cap'] w fun e w' => e = .returned (.bool true) ∧ Below w.heap.size w w' := by
  rw [← bareC_len hb]
  have H := Lib.hid h
  have H' := Lib.hid h'
  have HB := Lib.hid hb
  clear h h' hb
  generalize hN : cs.length = n at *
  have HN := Lib.hid hN
  clear hN
  go_enter Tryz.func49, Tryz.ntmps49
  go_wp2
  go_loopw [5] (fun i wr => ∃ j : Nat, i = .int .i64 j ∧ j ≤ n ∧ Hid (Below w.heap.size w wr)) (fun i _ => n - (intOf i).toNat)
  case atStart => exact ⟨0, rfl, Nat.zero_le _, Below.refl _ _⟩
  case round =>
    obtain ⟨j, rfl, hj, H2⟩ := hrel
    have hj0 : (0 : Int) ≤ (j : Int) := by omega
    by_cases h1 : j < n
    · have h1' : (j : Int) < (n : Int) := by omega
      have hlt : j < cs.length := by rw [HN.out]; exact h1
      have hlt' : j < cs'.length := by rw [← bareC_len HB.out]; exact hlt
      obtain ⟨g, o, rfl, Z0⟩ := H.out.at hlt
      obtain ⟨g', o', rfl, Z0'⟩ := H'.out.at hlt'
      have c0 := (Z0.below H2.out).2 j hlt
      have d0 := (Z0'.below H2.out).2 j hlt'
      have hgl := (Z0.below H2.out).1
      have hgl' := (Z0'.below H2.out).1
      have e1 : cs[j].2 = cs'[j].2 := by
        have := congrArg (fun l => l[j]?) HB.out
        simpa [bareC, hlt, hlt'] using this
      obtain ⟨s1, k1, v1, i1, l1⟩ := (H.out.each cs[j] (List.getElem_mem hlt)).below H2.out
      obtain ⟨s2, k2, v2, i2, l2⟩ := (H'.out.each cs'[j] (List.getElem_mem hlt')).below H2.out
      obtain ⟨v, zs, hp⟩ : ∃ v zs, cs[j] = (v, zs) := ⟨_, _, rfl⟩
      obtain ⟨v', zs', hp'⟩ : ∃ v zs, cs'[j] = (v, zs) := ⟨_, _, rfl⟩
      rw [hp] at c0 v1 i1 l1 e1
      rw [hp'] at d0 v2 i2 l2 e1
      dsimp only at c0 d0 v1 i1 l1 v2 i2 l2 e1
      subst e1 v1 v2
      have E : Hid (∀ W, Below wr.heap.size wr W → Calls Tryz.prog 24 #[.slice s1 zs.length k1, .slice s2 zs.length k2] W fun e w' => e = .returned (.bool true) ∧ Below W.heap.size W w') := fun W hW => eq_any s1 s2 k1 k2 zs W l1 (i1.below hW) (i2.below hW)
      clear hp hp' hlt hlt' Z0 Z0' i1 i2 l1 l2
      generalize zs.length = q at *
      have KB : Hid (∀ W, Below wr.heap.size wr W → g < W.heap.size ∧ g' < W.heap.size ∧ W.cell? ⟨g, o + j, none⟩ = some (.slice s1 q k1) ∧ W.cell? ⟨g', o' + j, none⟩ = some (.slice s2 q k2)) := fun W hW => ⟨Nat.lt_of_lt_of_le hgl hW.size, Nat.lt_of_lt_of_le hgl' hW.size, (hW.cell hgl).trans c0, (hW.cell hgl').trans d0⟩
      go_wp2_with fail
      refine wp_region_held_drew (S := fun W => g < W.heap.size ∧ g' < W.heap.size ∧ W.cell? ⟨g, o + j, none⟩ = some (.slice s1 q k1) ∧ W.cell? ⟨g', o' + j, none⟩ = some (.slice s2 q k2)) (by kernel_rfl) ?_ (fun hHeld => ?_)
      · exact KB.out _ (Below.refl _ _).drew
      refine wpAnyH_take (i := 0) (v := ?_) rfl (by kernel_rfl) (by kernel_rfl) (by kernel_rfl) (fun _ _ _ h => h) (Or.inl ⟨by rfl, ?_⟩) ‹_› ?_
      rotate_left
      · intro w hSw; (try dsimp only at hSw); go_simp; try with_reducible rfl
      try simp only [Act.put, setIfInBounds_toArray, set_cons_zero, set_cons_succ, getElem_toArray, getElem_cons_zero]
      refine wpAnyH_take (i := 1) (v := ?_) rfl (by kernel_rfl) (by kernel_rfl) (by kernel_rfl) (fun _ _ _ h => h) (Or.inl ⟨by rfl, ?_⟩) ‹_› ?_
      rotate_left
      · intro w hSw; (try dsimp only at hSw); go_simp; try with_reducible rfl
      try simp only [Act.put, setIfInBounds_toArray, set_cons_zero, set_cons_succ, getElem_toArray, getElem_cons_succ, getElem_cons_zero]
      refine wpAnyH_take (i := 2) (v := ?_) rfl (by kernel_rfl) (by kernel_rfl) (by kernel_rfl) (fun _ _ _ h => h) (Or.inl ⟨by rfl, ?_⟩) ‹_› ?_
      rotate_left
      · intro w hSw; (try dsimp only at hSw); go_simp; try with_reducible rfl
      try simp only [Act.put, setIfInBounds_toArray, set_cons_zero, set_cons_succ, getElem_toArray, getElem_cons_succ, getElem_cons_zero]
      refine wpAnyH_take (i := 3) (v := ?_) rfl (by kernel_rfl) (by kernel_rfl) (by kernel_rfl) (fun _ _ _ h => h) (Or.inl ⟨by rfl, ?_⟩) ‹_› ?_
      rotate_left
      · intro w hSw; (try dsimp only at hSw); go_simp; try with_reducible rfl
      try simp only [Act.put, setIfInBounds_toArray, set_cons_zero, set_cons_succ, getElem_toArray, getElem_cons_succ, getElem_cons_zero]
      refine wpAnyH_take (i := 4) (v := ?_) rfl (by kernel_rfl) (by kernel_rfl) (by kernel_rfl) (fun _ _ _ h => h) (Or.inl ⟨by rfl, ?_⟩) ‹_› ?_
      rotate_left
      · intro w hSw; (try dsimp only at hSw); go_simp; try with_reducible rfl
      try simp only [Act.put, setIfInBounds_toArray, set_cons_zero, set_cons_succ, getElem_toArray, getElem_cons_succ, getElem_cons_zero]
      refine wpAnyH_take (i := 5) (v := ?_) rfl (by kernel_rfl) (by kernel_rfl) (by kernel_rfl) (fun _ _ _ h => h) (Or.inl ⟨by rfl, ?_⟩) ‹_› ?_
      rotate_left
      · intro w hSw; (try dsimp only at hSw); go_simp; try with_reducible rfl
      try simp only [Act.put, setIfInBounds_toArray, set_cons_zero, set_cons_succ, getElem_toArray, getElem_cons_succ, getElem_cons_zero]
      refine wpAnyH_take (i := 6) (v := ?_) rfl (by kernel_rfl) (by kernel_rfl) (by kernel_rfl) (fun _ _ _ h => h) (Or.inl ⟨by rfl, ?_⟩) ‹_› ?_
      rotate_left
      · intro w hSw; (try dsimp only at hSw); go_simp; try with_reducible rfl
      try simp only [Act.put, setIfInBounds_toArray, set_cons_zero, set_cons_succ, getElem_toArray, getElem_cons_succ, getElem_cons_zero]
      refine wpAnyH_take (i := 7) (v := ?_) rfl (by kernel_rfl) (by kernel_rfl) (by kernel_rfl) (fun _ _ _ h => h) (Or.inl ⟨by rfl, ?_⟩) ‹_› ?_
      rotate_left
      · intro w hSw; (try dsimp only at hSw); go_simp; try with_reducible rfl
      try simp only [Act.put, setIfInBounds_toArray, set_cons_zero, set_cons_succ, getElem_toArray, getElem_cons_succ, getElem_cons_zero]
      refine wpAnyH_ready (rs := [8]) (by kernel_rfl) (by simp) ?_
      refine AllReadyH.cons rfl (fun K hK => ?_) AllReadyH.nil
      go_simp
      go_wp2_with (go_at_call 24; refine (E.out _ (by first | exact Below.refl _ _ | exact (Below.refl _ _).drew | exact Go.below_drewN (Below.refl _ _) _)).mono ?_; rintro e w5 ⟨rfl, b5⟩)
      have D5 : Hid (Below wr.heap.size wr w5) := bT ((Below.refl wr.heap.size wr).drew) b5
      clear b5
      refine hK.out _ _ ?_ (fun hHeld => ?_)
      · exact KB.out _ D5.out
      clear hK K
      refine wpAnyH_take (i := 9) (v := ?_) rfl (by kernel_rfl) (by kernel_rfl) (by kernel_rfl) (fun _ _ _ h => h) (Or.inl ⟨by rfl, ?_⟩) ‹_› ?_
      rotate_left
      · intro w hSw; (try dsimp only at hSw); go_simp; try with_reducible rfl
      try simp only [Act.put, setIfInBounds_toArray, set_cons_zero, set_cons_succ, getElem_toArray, getElem_cons_succ, getElem_cons_zero]
      refine wpAnyH_done (by kernel_rfl) ?_ _
      have BQ5 := Lib.hid (bT H2.out D5.out)
      clear D5 KB E c0 d0
      go_wp2_with fail
      go_roundw
      case rel => exact ⟨j + 1, by go_num, by omega, BQ5⟩
      case measure => simp [intOf]; omega
    · have h1' : ¬ (j : Int) < (n : Int) := by omega
      go_wp2
      go_ret
      exact ⟨rfl, H2.out⟩
theorem solF_small (css : List (List Int)) (V : Nat) : ∀ (n : Nat) (st : Int) (L : List (List Int)) (D : List Int), (solF css V n st L D).2.1.length ≤ V ∧ (solF css V n st L D).2.2.1.length ≤ L.length + n ∧ ∀ l ∈ (solF css V n st L D).2.2.1, l ∈ L ∨ l.length ≤ D.length + n
  | 0, st, L, D => ⟨Nat.zero_le _, Nat.le_refl _, fun l hl => .inl hl⟩
  | n + 1, st, L, D => by
    unfold solF
    split
    · split
      · exact ⟨trL_len _ _, by simp, fun l hl => .inl hl⟩
      · obtain ⟨h1, h2, h3⟩ := solF_small css V n (st + 1) L (D ++ [(opn (uRun css L D).1 V 1 : Int)])
        refine ⟨h1, by omega, fun l hl => ?_⟩
        rcases h3 l hl with h | h
        · exact .inl h
        · exact .inr (by simp at h; omega)
    · split
      · refine ⟨Nat.zero_le _, by simp, fun l hl => ?_⟩
        rcases List.mem_append.1 hl with h | h
        · exact .inl h
        · rw [List.mem_singleton.1 h, negL_len]; exact .inr (by omega)
      · obtain ⟨h1, h2, h3⟩ := solF_small css V n (st + 1) (L ++ [negL D]) D.dropLast
        refine ⟨h1, by simp at h2; omega, fun l hl => ?_⟩
        rcases h3 l hl with h | h
        · rcases List.mem_append.1 h with h | h
          · exact .inl h
          · rw [List.mem_singleton.1 h, negL_len]; exact .inr (by omega)
        · exact .inr (by simp at h; omega)
theorem solA_small (vars : Int) (css : List (List Int)) (bud : Int) : (solA vars css bud).1.2.1.length ≤ 900 ∧ (solA vars css bud).1.2.2.1.length ≤ 1000 ∧ ∀ l ∈ (solA vars css bud).1.2.2.1, l.length ≤ 1000 := by
  by_cases h : SolOk vars css bud
  · rw [solA_yes h]
    obtain ⟨h1, h2, h3⟩ := solF_small css vars.toNat bud.toNat 0 [] []
    have a1 := h.1.1.1
    have a2 := h.1.1.2
    have a3 := h.2.1
    have a4 := h.2.2
    refine ⟨by simp only []; omega, by simp only [List.length_nil] at h2 ⊢; omega, fun l hl => ?_⟩
    rcases h3 l hl with g | g
    · cases g
    · simp only [List.length_nil] at g; omega
  · rw [solA_no h]; exact ⟨by simp, by simp, fun l hl => by cases hl⟩
theorem tot_le {ls : List LCl} (h : ∀ r ∈ ls, r.2.length ≤ 1000) : totC ls ≤ 1000 * ls.length := by
  induction ls with
  | nil => simp [totC]
  | cons r t ih =>
    have h1 := ih (fun s hs => h s (by simp [hs]))
    have h2 := h r (by simp)
    have e : totC (r :: t) = r.2.length + totC t := by simp [totC]
    rw [e, List.length_cons]
    omega
theorem OwC.btw {X Y B : Nat} {w w' : World} {v : Value} {cs : List LCl} (h : OwC w B v cs) (hb : Btw X Y w w') (hv : ∀ j, v.ownBlock = some j → j < X ∨ Y ≤ j) (hr : ∀ r ∈ cs, ∀ j, r.1.ownBlock = some j → j < X ∨ Y ≤ j) : OwC w' B v cs :=
  ⟨own_btw h.row hb hv, fun r hr2 => own_btw (h.each r hr2) hb (hr r hr2), h.diff⟩
theorem dom_bareR (id top : Int) {rs rs' : List LSt} (h : bareS rs = bareS rs') : rs.flatMap (domF id top) = rs'.flatMap (domF id top) := by
  have e : ∀ l : List LSt, l.flatMap (domF id top) = (bareS l).flatMap (fun r => domF id top (r.1, r.2.1, .slice none 0 0, r.2.2)) := fun l => by
    unfold bareS
    rw [List.flatMap_map]
    rfl
  rw [e, e, h]
theorem idsR_bare {rs rs' : List LSt} (ps : List LPr) (zs : List Int) (h : bareS rs = bareS rs') : IdsR rs ps zs = IdsR rs' ps zs := by
  apply propext
  unfold IdsR
  rw [idsL_bare h]
  constructor
  · rintro ⟨a, b, c⟩; exact ⟨a, TabR_bare ps h b, c⟩
  · rintro ⟨a, b, c⟩; exact ⟨a, TabR_bare ps h.symm b, c⟩
theorem chF_bareR {rs rs' : List LSt} (top : Int) (h : bareS rs = bareS rs') : chF rs top = chF rs' top := by
  funext id
  unfold chF
  rw [dom_bareR id top h]
theorem askR_bare {rs rs' : List LSt} (ps : List LPr) (top : Int) (ids : List Int) (bud : Int) (h : bareS rs = bareS rs') : askR rs ps top ids bud = askR rs' ps top ids bud := by
  have h1 : cnA rs ps top ids = cnA rs' ps top ids := by unfold cnA; rw [idsR_bare ps ids h, chF_bareR top h]
  have h2 : cnN rs ps top ids = cnN rs' ps top ids := by unfold cnN plF; rw [idsR_bare ps ids h, chF_bareR top h]
  unfold askR
  rw [h1, h2]
abbrev AV (x hw : Int) (vp vl : Value) (st c : Int) : Value := .agg #[.int .i64 x, .int .i64 hw, vp, vl, .int .i64 st, .int .i64 c]
abbrev AC (x hw : Int) (vp vl : Value) (st c : Int) : Obj := .cells #[.int .i64 x, .int .i64 hw, vp, vl, .int .i64 st, .int .i64 c] 49
theorem cells6a {w : World} {b : Nat} {t : TypeId} {a0 a1 a2 a3 a4 a5 : Value} (h : w.heap[b]? = some (.cells #[a0, a1, a2, a3, a4, a5] t)) :
    w.cell? ⟨b, 0, none⟩ = some a0 ∧ w.cell? ⟨b, 1, none⟩ = some a1 ∧ w.cell? ⟨b, 2, none⟩ = some a2 ∧ w.cell? ⟨b, 3, none⟩ = some a3 ∧ w.cell? ⟨b, 4, none⟩ = some a4 ∧ w.cell? ⟨b, 5, none⟩ = some a5 ∧ b < w.heap.size := by
  refine ⟨?_, ?_, ?_, ?_, ?_, ?_, (Array.getElem?_eq_some_iff.1 h).1⟩ <;> simp [World.cell?, h]
theorem kept_type {W W' : World} {B : Nat} {e : TypeId} {m : Nat} {v : Value} {n : Nat} {xs : List Value} (hv : W.ownsRow B e m v n xs) (hg : W.grownBy W' v.ownBlock) {k : Nat} {us : Array Value} {t : TypeId} (ht : t ≠ e) (hk : W.heap[k]? = some (.cells us t)) : W'.heap[k]? = some (.cells us t) := by
  refine (hg.block k (Array.getElem?_eq_some_iff.1 hk).1 (fun e0 => ?_)).trans hk
  rcases hv.2 with ⟨hv0, _⟩ | ⟨g, kk, cur, hv0, hB, hh, _⟩
  · rw [hv0] at e0; cases e0
  · rw [hv0] at e0
    have e' : k = g := by simpa [Value.ownBlock] using e0
    subst e'
    rw [hk] at hh
    cases hh
    exact ht rfl
theorem own_k2 {w w' : World} {B : Nat} {e : TypeId} {m : Nat} {v : Value} {n : Nat} {xs : List Value} (h : w.ownsRow B e m v n xs) (he : e ≠ 2) (k : K2x w w') : w'.ownsRow B e m v n xs := by
  refine ⟨h.1, ?_⟩
  rcases h.2 with h | ⟨g, cap, cur, hv, hb, hg, r⟩
  · exact .inl h
  · exact .inr ⟨g, cap, cur, hv, hb, k g cur e he hg, r⟩
set_option maxRecDepth 100000 in
set_option maxHeartbeats 2000000 in
theorem eqAO_any (x hw st c : Int) (P : List LPl) (s1 s2 : Option Addr) (k1 k2 : Nat) (l1 l2 : Option Addr) (j1 j2 : Nat) (ls ls' : List LCl) (w : World) (hP : P.length ≤ 1048576) (hl : ls.length ≤ 1048576) (he : bareC ls = bareC ls') (i1 : Pls w s1 P) (i2 : Pls w s2 P) (c1 : Cls w l1 ls) (c2 : Cls w l2 ls') :
    Calls Tryz.prog 22 #[AV x hw (.slice s1 P.length k1) (.slice l1 ls.length j1) st c, AV x hw (.slice s2 P.length k2) (.slice l2 ls'.length j2) st c] w fun e w' => e = .returned (.bool true) ∧ Below w.heap.size w w' := by
  have E1 : Hid (∀ W, Below w.heap.size w W → Calls Tryz.prog 33 #[.slice s1 P.length k1, .slice s2 P.length k2] W fun e w' => e = .returned (.bool true) ∧ Below W.heap.size W w') := fun W hW => eqPlS_any s1 s2 k1 k2 P W hP (i1.below hW) (i2.below hW)
  have E2 : Hid (∀ W, Below w.heap.size w W → Calls Tryz.prog 49 #[.slice l1 ls.length j1, .slice l2 ls'.length j2] W fun e w' => e = .returned (.bool true) ∧ Below W.heap.size W w') := fun W hW => eqL_any l1 l2 j1 j2 ls ls' W hl he (c1.below hW) (c2.below hW)
  clear i1 i2 c1 c2 he
  have hx : (x != x) = false := by simp
  have hh : (hw != hw) = false := by simp
  have hst : (st != st) = false := by simp
  have hc' : (c != c) = false := by simp
  generalize P.length = p at *
  generalize ls.length = n at *
  generalize ls'.length = n' at *
  go_enter Tryz.func22, Tryz.ntmps22
  go_wp2_with fail
  refine (E1.out _ (bA (bA0 _ _) _)).mono ?_
  rintro e w1 ⟨rfl, b1⟩
  have D1 := Lib.hid (bT (bA (bA0 w _) _) b1)
  have A1 := Lib.hid b1
  obtain ⟨hc, hf⟩ := bcell b1
  clear b1
  go_wp2_with fail
  refine (E2.out _ D1.out).mono ?_
  rintro e w2 ⟨rfl, b2⟩
  have D2 := Lib.hid (bT D1.out b2)
  have A2 := Lib.hid (bT A1.out b2)
  clear hc hf
  obtain ⟨hc, hf⟩ := bcell A2.out
  clear b2 A1
  go_wp2
  go_ret
  exact ⟨rfl, D2.out⟩
def K49 (w w' : World) : Prop := ∀ (k : Nat) (us : Array Value), w.heap[k]? = some (.cells us 49) → w'.heap[k]? = some (.cells us 49)
set_option maxRecDepth 100000 in
set_option maxHeartbeats 2000000 in
theorem mkAO_any (B : Nat) (x hw st c : Int) (n : Nat) (xs : List Value) (vp vl : Value) (ls : List LCl) (W : World) (hP : n ≤ 1048576) (hl : ls.length ≤ 1000) (hr : ∀ r ∈ ls, r.2.length ≤ 1000) (ht : totC ls ≤ 500000000) (hB : B ≤ W.heap.size) (o : W.ownsRow B 131 2 vp n xs) (oc : OwC W B vl ls) :
    Calls Tryz.prog 27 #[AV x hw vp vl st c, .int .i64 1] W fun e w' => e = .returned (.int .i64 (1 + 2 * (n : Int) + (totC ls : Int))) ∧ w'.ownsRow B 131 2 vp n (valsZ (marks 1 (n * 2))) ∧ OwC w' B vl (mkC (1 + 2 * (n : Int)) ls) ∧ Below B W w' ∧ K49 W w' := by
  obtain ⟨ps, pk, rfl⟩ := own_v o
  obtain ⟨lv, lk, rfl⟩ := oc.v
  have b1 := bA0 W (AC x hw (.slice ps n pk) (.slice lv ls.length lk) st c)
  have X1 : (W.alloc (AC x hw (.slice ps n pk) (.slice lv ls.length lk) st c)).heap[W.heap.size]? = some (AC x hw (.slice ps n pk) (.slice lv ls.length lk) st c) := new_at _ _
  have C1 := Lib.hid (mark2_row B (.slice ps n pk) n xs 1 hP (by omega) (by omega) (W.alloc (AC x hw (.slice ps n pk) (.slice lv ls.length lk) st c)) (own_below o b1))
  have C2 : Hid (∀ w', (W.alloc (AC x hw (.slice ps n pk) (.slice lv ls.length lk) st c)).grownBy w' (Value.slice ps n pk).ownBlock → w'.ownsRow B 131 2 (.slice ps n pk) n (valsZ (marks 1 (n * 2))) → w'.heap[W.heap.size]? = some (AC x hw (.slice ps n pk) (.slice lv ls.length lk) st c) ∧ (K49 W w' ∧ Below B W w') ∧ Calls Tryz.prog 50 #[.slice lv ls.length lk, .int .i64 (1 + 2 * (n : Int))] w' fun e w'' => e = .returned (.int .i64 (1 + 2 * (n : Int) + (totC ls : Int))) ∧ OwC w'' B (.slice lv ls.length lk) (mkC (1 + 2 * (n : Int)) ls) ∧ Below B w' w'' ∧ K2x w' w'') := fun w' hg ho => by
    have o1 := own_below o b1
    have oc1 := oc.below b1
    have oc' : OwC w' B (.slice lv ls.length lk) ls := ⟨oc1.row.kept hg (own_diff oc1.row o1 (by decide)), fun r hr => (oc1.each r hr).kept hg (own_diff (oc1.each r hr) o1 (by decide)), oc1.diff⟩
    refine ⟨kept_type o1 hg (by decide) X1, ⟨fun k us hk => kept_type o1 hg (by decide) ((b1.block k (Array.getElem?_eq_some_iff.1 hk).1).trans hk), (b1.mono hB).grown hg (by have := b1.size; omega) (fun j hj => (o1.lt j hj).1)⟩, ?_⟩
    refine (mkL_any B _ ls (1 + 2 * (n : Int)) w' (.slice none 0 0) 0 [] ⟨rfl, .inl ⟨rfl, rfl⟩⟩ (fun r _ j _ e => by cases e) (by omega) (fun r hr' => by have := hr r hr'; omega) ht (by omega) (by omega) (by have := hg.size; have := b1.size; omega) oc').mono ?_
    rintro e w'' ⟨h1, h2, h3, h4, h5⟩
    exact ⟨h1, h2, h3, h4⟩
  obtain ⟨p0, p1, p2, p3, p4, p5, y1⟩ := cells6a X1
  clear b1 X1 o oc hr
  generalize ls.length = ln at *
  go_enter Tryz.func27, Tryz.ntmps27
  go_wp2_with fail
  refine C1.out.mono ?_
  rintro e w1 ⟨rfl, o1, g1⟩
  obtain ⟨X, K1, C3⟩ := C2.out w1 g1 o1
  have CC := Lib.hid C3
  have KK := Lib.hid K1
  have O1 := Lib.hid o1
  clear C2 C1 C3 o1 g1 y1 p0 p1 p2 p3 p4 p5 K1
  obtain ⟨p0, p1, p2, p3, p4, p5, y1⟩ := cells6a X
  clear X
  go_wp2_with fail
  refine CC.out.mono ?_
  rintro e w2 ⟨rfl, oc2, b2, k2⟩
  have P := Lib.hid (show w2.ownsRow B 131 2 (.slice ps n pk) n (valsZ (marks 1 (n * 2))) ∧ OwC w2 B (.slice lv ln lk) (mkC (1 + 2 * (n : Int)) ls) ∧ Below B W w2 ∧ K49 W w2 from ⟨own_k2 O1.out (by decide) k2, oc2, KK.out.2.trans b2, fun k us hk => k2 k us 49 (by decide) (KK.out.1 k us hk)⟩)
  clear oc2 b2 k2 CC KK O1
  go_wp2
  go_ret
  exact ⟨rfl, P.out⟩
set_option maxRecDepth 100000 in
set_option maxHeartbeats 2000000 in
theorem hdAO_any (B : Nat) (x hw st c : Int) (n : Nat) (vp vl : Value) (ls : List LCl) (W : World) (hP : n ≤ 1048576) (hl : ls.length ≤ 1000) (hr : ∀ r ∈ ls, r.2.length ≤ 1000) (ht : totC ls ≤ 500000000) (o : W.ownsRow B 131 2 vp n (valsZ (marks 1 (n * 2)))) (oc : OwC W B vl (mkC (1 + 2 * (n : Int)) ls)) :
    Calls Tryz.prog 28 #[AV x hw vp vl st c, .int .i64 1] W fun e w' => e = .returned (.int .i64 (1 + 2 * (n : Int) + (totC ls : Int))) ∧ Below W.heap.size W w' := by
  obtain ⟨ps, pk, rfl⟩ := own_v o
  obtain ⟨lv, lk, e9⟩ := oc.v
  rw [mkC_len] at e9
  subst e9
  have b1 := bA0 W (AC x hw (.slice ps n pk) (.slice lv ls.length lk) st c)
  have X1 : (W.alloc (AC x hw (.slice ps n pk) (.slice lv ls.length lk) st c)).heap[W.heap.size]? = some (AC x hw (.slice ps n pk) (.slice lv ls.length lk) st c) := new_at _ _
  have C1 := Lib.hid (held2_row B (.slice ps n pk) n 1 hP (by omega) (by omega) (W.alloc (AC x hw (.slice ps n pk) (.slice lv ls.length lk) st c)) (own_below o b1))
  have C2 := Lib.hid (hdL_any B (.slice lv ls.length lk) ls (1 + 2 * (n : Int)) (W.alloc (AC x hw (.slice ps n pk) (.slice lv ls.length lk) st c)) (by omega) (fun r hr' => by have := hr r hr'; omega) ht (by omega) (by omega) (oc.below b1))
  have B1 := Lib.hid b1
  obtain ⟨p0, p1, p2, p3, p4, p5, y1⟩ := cells6a X1
  have h1 : ¬ (1 + 2 * (n : Int)) < 0 := by omega
  have h2 : ¬ (1 + 2 * (n : Int) + (totC ls : Int)) < 0 := by omega
  clear b1 X1 o oc hr
  generalize 1 + 2 * (n : Int) + (totC ls : Int) = kk at *
  generalize 1 + 2 * (n : Int) = kj at *
  generalize ls.length = ln at *
  go_enter Tryz.func28, Tryz.ntmps28
  go_wp2_with fail
  refine C1.out.mono ?_
  rintro e w1 ⟨rfl, rfl⟩
  go_wp2_with fail
  refine C2.out.mono ?_
  rintro e w2 ⟨rfl, rfl⟩
  go_wp2
  go_ret
  exact ⟨rfl, B1.out⟩
def AOw (B : Nat) (P : List LPl) (L : List (List Int)) (vp vl : Value) (W : World) : Prop := W.ownsRow B 131 2 vp P.length (enCells P) ∧ ∃ ls, OwC W B vl ls ∧ bareC ls = L
def AOm (B : Nat) (n : Nat) (L : List (List Int)) (vp vl : Value) (W : World) : Prop := W.ownsRow B 131 2 vp n (valsZ (marks 1 (n * 2))) ∧ ∃ ls, OwC W B vl (mkC (1 + 2 * (n : Int)) ls) ∧ bareC ls = L
theorem AOw.below {B : Nat} {P : List LPl} {L : List (List Int)} {vp vl : Value} {W W' : World} (h : AOw B P L vp vl W) (hb : Below W.heap.size W W') : AOw B P L vp vl W' := ⟨own_below h.1 hb, by obtain ⟨ls, o, e⟩ := h.2; exact ⟨ls, o.below hb, e⟩⟩
theorem AOm.below {B n : Nat} {L : List (List Int)} {vp vl : Value} {W W' : World} (h : AOm B n L vp vl W) (hb : Below W.heap.size W W') : AOm B n L vp vl W' := ⟨own_below h.1 hb, by obtain ⟨ls, o, e⟩ := h.2; exact ⟨ls, o.below hb, e⟩⟩
theorem AOw.btw {X Y B : Nat} {P : List LPl} {L : List (List Int)} {vp vl : Value} {W W' : World} (h : AOw B P L vp vl W) (hb : Btw X Y W W') (hY : Y ≤ B) : AOw B P L vp vl W' :=
  ⟨own_btw h.1 hb (fun j hj => .inr (Nat.le_trans hY (h.1.lt j hj).1)), by
    obtain ⟨ls, o, e⟩ := h.2
    exact ⟨ls, o.btw hb (fun j hj => .inr (Nat.le_trans hY (o.row.lt j hj).1)) (fun r hr j hj => .inr (Nat.le_trans hY ((o.each r hr).lt j hj).1)), e⟩⟩
def AOl (T : Nat) (P : List LPl) (L : List (List Int)) (vp vl : Value) (W : World) : Prop := (∃ B, W.ownsRow B 131 2 vp P.length (enCells P)) ∧ (∀ j, vp.ownBlock = some j → j < T) ∧ ∃ B ls, OwC W B vl ls ∧ bareC ls = L ∧ (∀ j, vl.ownBlock = some j → j < T) ∧ ∀ r ∈ ls, ∀ j, r.1.ownBlock = some j → j < T
theorem AOw.low {B : Nat} {P : List LPl} {L : List (List Int)} {vp vl : Value} {W : World} (h : AOw B P L vp vl W) : AOl W.heap.size P L vp vl W :=
  ⟨⟨B, h.1⟩, fun j hj => (h.1.lt j hj).2, by
    obtain ⟨ls, o, e⟩ := h.2
    exact ⟨B, ls, o, e, fun j hj => (o.row.lt j hj).2, fun r hr j hj => ((o.each r hr).lt j hj).2⟩⟩
theorem AOl.btw {X Y T : Nat} {P : List LPl} {L : List (List Int)} {vp vl : Value} {W W' : World} (h : AOl T P L vp vl W) (hb : Btw X Y W W') (hX : T ≤ X) : AOl T P L vp vl W' := by
  obtain ⟨⟨B, o⟩, l1, B', ls, oc, e, l2, l3⟩ := h
  exact ⟨⟨B, own_btw o hb (fun j hj => .inl (Nat.lt_of_lt_of_le (l1 j hj) hX))⟩, l1, B', ls, oc.btw hb (fun j hj => .inl (Nat.lt_of_lt_of_le (l2 j hj) hX)) (fun r hr j hj => .inl (Nat.lt_of_lt_of_le (l3 r hr j hj) hX)), e, l2, l3⟩
theorem AOl.below {C T : Nat} {P : List LPl} {L : List (List Int)} {vp vl : Value} {W W' : World} (h : AOl T P L vp vl W) (hb : Below C W W') (hC : T ≤ C) (hC' : C ≤ W.heap.size) : AOl T P L vp vl W' :=
  h.btw (X := C) (Y := W.heap.size) ⟨hb.os, hb.tape, hb.output, hb.size, fun k hk g => hb.block k (by omega)⟩ hC
theorem pls_of2 {w : World} {sl : Option Addr} {B : Nat} {pl : List LPl} (h : pl = [] ∨ ∃ c, sl = some ⟨c, 0, none⟩ ∧ PlAt w c 0 pl ∧ B ≤ c) : Pls w sl pl := by
  rcases h with h | ⟨c, e, h, _⟩
  · exact .inl h
  · exact .inr ⟨c, 0, e, h⟩
theorem AOl.eq {T C : Nat} {P : List LPl} {L : List (List Int)} {vp vl vp' vl' : Value} {W : World} (x hw st c : Int) (h' : AOw C P L vp' vl' W) (h : AOl T P L vp vl W) (hP : P.length ≤ 1048576) (hL : L.length ≤ 1048576) :
    Calls Tryz.prog 22 #[AV x hw vp' vl' st c, AV x hw vp vl st c] W fun e w' => e = .returned (.bool true) ∧ Below W.heap.size W w' := by
  obtain ⟨⟨B, o⟩, l1, B', ls, oc, e, l2, l3⟩ := h
  obtain ⟨o', ls', oc', e'⟩ := h'
  obtain ⟨s1, k1, rfl, i1⟩ := own_pls o
  obtain ⟨s2, k2, rfl, i2⟩ := own_pls o'
  obtain ⟨t1, j1, rfl, q1⟩ := oc.cls
  obtain ⟨t2, j2, rfl, q2⟩ := oc'.cls
  have hl : ls'.length ≤ 1048576 := by rw [← bareC_length, e']; exact hL
  exact eqAO_any x hw st c P s2 s1 k2 k1 t2 t1 j2 j1 ls' ls W hP hl (e'.trans e.symm) (pls_of2 i2) (pls_of2 i1) q2 q1
def totQ (L : List (List Int)) : Nat := (L.map List.length).sum
theorem totC_q (ls : List LCl) : totC ls = totQ (bareC ls) := by simp [totC, totQ, bareC, Function.comp_def]
theorem AOw.mark {B : Nat} {P : List LPl} {L : List (List Int)} {vp vl : Value} {W : World} (x hw st c : Int) (h : AOw B P L vp vl W) (hB : B ≤ W.heap.size) (hP : P.length ≤ 1048576) (hL : L.length ≤ 1000) (hr : ∀ l ∈ L, l.length ≤ 1000) :
    Calls Tryz.prog 27 #[AV x hw vp vl st c, .int .i64 1] W fun e w' => e = .returned (.int .i64 (1 + 2 * (P.length : Int) + (totQ L : Int))) ∧ AOm B P.length L vp vl w' ∧ Below B W w' ∧ K49 W w' := by
  obtain ⟨o, ls, oc, e⟩ := h
  subst e
  have hl : ls.length ≤ 1000 := by rw [← bareC_length]; exact hL
  have h2 : ∀ r ∈ ls, r.2.length ≤ 1000 := fun r hr2 => hr r.2 (List.mem_map.2 ⟨r, hr2, rfl⟩)
  have h3 := tot_le h2
  refine (mkAO_any B x hw st c P.length _ vp vl ls W hP hl h2 (by omega) hB o oc).mono ?_
  rintro e w' ⟨h1, h2, h3, h4, h5⟩
  rw [totC_q] at h1
  exact ⟨h1, ⟨h2, ls, h3, rfl⟩, h4, h5⟩
theorem AOm.held {B n : Nat} {L : List (List Int)} {vp vl : Value} {W : World} (x hw st c : Int) (h : AOm B n L vp vl W) (hP : n ≤ 1048576) (hL : L.length ≤ 1000) (hr : ∀ l ∈ L, l.length ≤ 1000) :
    Calls Tryz.prog 28 #[AV x hw vp vl st c, .int .i64 1] W fun e w' => e = .returned (.int .i64 (1 + 2 * (n : Int) + (totQ L : Int))) ∧ Below W.heap.size W w' := by
  obtain ⟨o, ls, oc, e⟩ := h
  subst e
  have hl : ls.length ≤ 1000 := by rw [← bareC_length]; exact hL
  have h2 : ∀ r ∈ ls, r.2.length ≤ 1000 := fun r hr2 => hr r.2 (List.mem_map.2 ⟨r, hr2, rfl⟩)
  have h3 := tot_le h2
  have := hdAO_any B x hw st c n vp vl ls W hP hl h2 (by omega) o oc
  rwa [totC_q] at this
structure AskF where
  x : Int
  hw : Int
  st : Int
  c : Int
  P : List LPl
  L : List (List Int)
open Classical in
noncomputable def askF (rs : List LSt) (ps : List LPr) (top : Int) (ids : List Int) (bud : Int) : AskF :=
  if 400 < ids.length then ⟨0, 0, 0, 2, [], []⟩ else if ¬ (IdsR rs ps ids ∧ BudR bud) then ⟨0, 0, 0, 1, [], []⟩ else
    ⟨(askR rs ps top ids bud).1.1, 2, (askR rs ps top ids bud).1.2.2.2, 0, if (askR rs ps top ids bud).1.1 = 1 then askP rs ps top ids bud else [], (askR rs ps top ids bud).1.2.2.1⟩
theorem ask_form {rs : List LSt} {ps : List LPr} {top : Int} {ids : List Int} {bud : Int} {w : World} {e : Ending} {w' : World} (h : AskPost (400 < ids.length) (¬ (IdsR rs ps ids ∧ BudR bud)) (askR rs ps top ids bud).1 (enCells (askP rs ps top ids bud)) (askP rs ps top ids bud).length w e w') :
    ∃ vp vl, e = .returned (AV (askF rs ps top ids bud).x (askF rs ps top ids bud).hw vp vl (askF rs ps top ids bud).st (askF rs ps top ids bud).c) ∧ AOw w.heap.size (askF rs ps top ids bud).P (askF rs ps top ids bud).L vp vl w' ∧ Below w.heap.size w w' := by
  classical
  obtain ⟨hb, ⟨h2, he⟩ | ⟨h2, h1, he⟩ | ⟨h2, h1, s1, n1, c1, s2, n2, c2, s3, n3, c3, he, ls, so, hy, hn⟩⟩ := h
  · have ef : askF rs ps top ids bud = ⟨0, 0, 0, 2, [], []⟩ := if_pos h2
    rw [ef]
    exact ⟨_, _, he, ⟨⟨rfl, .inl ⟨rfl, rfl⟩⟩, [], OwC.nil _ _, rfl⟩, hb⟩
  · have ef : askF rs ps top ids bud = ⟨0, 0, 0, 1, [], []⟩ := by unfold askF; rw [if_neg h2, if_pos h1]
    rw [ef]
    exact ⟨_, _, he, ⟨⟨rfl, .inl ⟨rfl, rfl⟩⟩, [], OwC.nil _ _, rfl⟩, hb⟩
  · have ef : askF rs ps top ids bud = ⟨(askR rs ps top ids bud).1.1, 2, (askR rs ps top ids bud).1.2.2.2, 0, if (askR rs ps top ids bud).1.1 = 1 then askP rs ps top ids bud else [], (askR rs ps top ids bud).1.2.2.1⟩ := by unfold askF; rw [if_neg h2, if_neg h1]
    rw [ef]
    refine ⟨_, _, he, ⟨?_, ls, so.ol, so.eq⟩, hb⟩
    by_cases hv : (askR rs ps top ids bud).1.1 = 1
    · simp only [if_pos hv]
      exact hy hv
    · simp only [if_neg hv]
      obtain ⟨rfl, rfl, rfl⟩ := hn hv
      exact ⟨rfl, .inl ⟨rfl, rfl⟩⟩
theorem askF_small (rs : List LSt) (ps : List LPr) (top : Int) (ids : List Int) (bud : Int) : (askF rs ps top ids bud).P.length ≤ 1048576 ∧ (askF rs ps top ids bud).L.length ≤ 1000 ∧ ∀ l ∈ (askF rs ps top ids bud).L, l.length ≤ 1000 := by
  classical
  unfold askF
  split
  · exact ⟨by simp, by simp, fun l hl => by cases hl⟩
  · split
    · exact ⟨by simp, by simp, fun l hl => by cases hl⟩
    · have hs := solA_small (cnN rs ps top ids : Nat) (cnA rs ps top ids) bud
      refine ⟨?_, hs.2.1, hs.2.2⟩
      have hq := askR_len rs ps top ids bud
      dsimp only
      split
      · unfold askP poA
        split
        · unfold poP; rw [List.length_map]; exact hq
        · simp
      · simp
theorem askP_bare {rs rs' : List LSt} (ps : List LPr) (top : Int) (ids : List Int) (bud : Int) (h : bareS rs = bareS rs') : askP rs ps top ids bud = askP rs' ps top ids bud := by
  have hc := chF_bareR top h
  have hp : plF rs top ids = plF rs' top ids := by unfold plF; rw [hc]
  unfold askP
  rw [askR_bare ps top ids bud h]
  unfold poA
  rw [show PoOK rs ps top ids (askR rs' ps top ids bud).1.2.1 = PoOK rs' ps top ids (askR rs' ps top ids bud).1.2.1 by unfold PoOK; rw [idsR_bare ps ids h, hp], hp]
theorem askF_bare {rs rs' : List LSt} (ps : List LPr) (top : Int) (ids : List Int) (bud : Int) (h : bareS rs = bareS rs') : askF rs ps top ids bud = askF rs' ps top ids bud := by
  unfold askF
  rw [idsR_bare ps ids h, askR_bare ps top ids bud h, askP_bare ps top ids bud h]
theorem btw_only {c : Nat} {w w' : World} (h : Only c w w') : Btw c (c + 1) w w' := (Btw.refl c (c + 1) w).only h (Nat.le_refl _) (Nat.lt_succ_self _)
theorem AOw.form {B : Nat} {P : List LPl} {L : List (List Int)} {vp vl : Value} {W : World} (h : AOw B P L vp vl W) : ∃ s1 k1 s2 k2, vp = .slice s1 P.length k1 ∧ vl = .slice s2 L.length k2 := by
  obtain ⟨o, ls, oc, e⟩ := h
  obtain ⟨s1, k1, e1⟩ := own_v o
  obtain ⟨s2, k2, e2⟩ := oc.v
  exact ⟨s1, k1, s2, k2, e1, by rw [e2, ← e, bareC_length]⟩
set_option maxRecDepth 100000 in
set_option maxHeartbeats 8000000 in
theorem law4 (sl : Option Addr) (cap : Nat) (sl2 : Option Addr) (cap2 : Nat) (sl3 : Option Addr) (cap3 : Nat) (rs : List LSt) (ps : List LPr) (l3 : List Int) (top bud : Int) (w : World) (hT : TabB w) (h : InT w sl sl2 rs ps) (hl3 : l3.length ≤ maxLen) (h3 : Ints w sl3 l3) :
    Calls Tryz.prog 4 #[TV sl rs.length cap sl2 ps.length cap2, .int .i64 top, .slice sl3 l3.length cap3, .int .i64 bud] w fun e w' => e = .returned (.bool true) ∧ Below w.heap.size w w' := by
  have hm3 := hl3
  unfold maxLen at hm3
  by_cases hz3 : 1048576 < l3.length
  · have hz3' : (1048576 : Int) < (l3.length : Int) := by omega
    clear h h3
    generalize rs.length = n at *
    generalize ps.length = m at *
    generalize l3.length = q at *
    go_enter Tryz.func4, Tryz.ntmps4
    go_wp2
    go_ret
    exact ⟨rfl, bA0 _ _⟩
  have hz3' : ¬ (1048576 : Int) < (l3.length : Int) := by omega
  have hz3 : l3.length ≤ 1048576 := by omega
  have SZ : Hid (∀ W, Below w.heap.size w W → Calls Tryz.prog 17 #[TV sl rs.length cap sl2 ps.length cap2, .int .i64 1048576] W fun e w' => e = .returned (.int .i64 (lft 1048576 (rs.length + totD rs + ps.length))) ∧ Below W.heap.size W w') := fun W hW => szTab_any sl cap sl2 _ cap2 rs W h.ln h.lp (h.st.below hW)
  rcases lft_cases 1048576 (rs.length + totD rs + ps.length) (by omega) with ⟨e, hl⟩ | ⟨e, hl⟩
  · rw [e] at SZ
    clear h h3 e hl
    generalize rs.length = n at *
    generalize ps.length = m at *
    generalize l3.length = q at *
    go_enter Tryz.func4, Tryz.ntmps4
    go_wp2_with fail
    refine (SZ.out _ (bA0 _ _)).mono ?_
    rintro e w1 ⟨rfl, b1⟩
    have D1 := Lib.hid (bT (bA0 w _) b1)
    clear b1
    go_wp2
    go_ret
    exact ⟨rfl, D1.out⟩
  rw [e] at SZ
  have hs : Sts w sl rs := h.st.small (by omega)
  have TO : Hid (∀ W, Below w.heap.size w W → Calls Tryz.prog 19 #[TV sl rs.length cap sl2 ps.length cap2] W fun e w' => ∃ b1 b2 rs', e = .returned (TV (some ⟨b1, 0, none⟩) rs.length rs.length (some ⟨b2, 0, none⟩) ps.length ps.length) ∧ bareS rs' = bareS rs ∧ OwnT W.heap.size w' b1 b2 rs' ps ∧ Below W.heap.size W w') := fun W hW => toTO_any sl cap sl2 cap2 rs ps W (by omega) (by omega) (hs.below hW) (h.pr.below hW)
  have TP : Hid (∀ W, Below w.heap.size w W → Calls Tryz.prog 20 #[.slice sl3 l3.length cap3] W fun e w' => e = .returned (.slice (some ⟨W.heap.size, 0, none⟩) l3.length l3.length) ∧ RowZ w' W.heap.size l3 ∧ Below W.heap.size W w') := fun W hW => toO_any sl3 cap3 l3 W hz3 (h3.below hW)
  have EQ : Hid (∀ c d W, RowZ W c l3 → RowZ W d l3 → Calls Tryz.prog 24 #[.slice (some ⟨c, 0, none⟩) l3.length l3.length, .slice (some ⟨d, 0, none⟩) l3.length l3.length] W fun e w' => e = .returned (.bool true) ∧ Below W.heap.size W w') := fun c d W a b => eq_any _ _ _ _ l3 W hl3 a.ints b.ints
  have SP : Hid (∀ b1 b2 rs' c C W, bareS rs' = bareS rs → OwnT C W b1 b2 rs' ps → RowZ W c l3 → Calls Tryz.prog 18 #[TV (some ⟨b1, 0, none⟩) rs.length rs.length (some ⟨b2, 0, none⟩) ps.length ps.length, .int .i64 top, .slice (some ⟨c, 0, none⟩) l3.length l3.length, .int .i64 bud] W fun e w' => ∃ vp vl, e = .returned (AV (askF rs ps top l3 bud).x (askF rs ps top l3 bud).hw vp vl (askF rs ps top l3 bud).st (askF rs ps top l3 bud).c) ∧ AOw W.heap.size (askF rs ps top l3 bud).P (askF rs ps top l3 bud).L vp vl w' ∧ Below W.heap.size W w') := fun b1 b2 rs' c C W eb o i => by
    have hl' := bareS_len eb
    have := sask_any (some ⟨b1, 0, none⟩) rs.length (some ⟨b2, 0, none⟩) ps.length top (some ⟨c, 0, none⟩) l3.length bud rs' ps l3 W (by omega) hz3 o.sts o.prs i.ints
    rw [hl'] at this
    rw [← askF_bare ps top l3 bud eb]
    exact this.mono fun e w' hq => ask_form hq
  have IM : Hid (∀ b1 b2 rs' c C W, Below w.heap.size w W → bareS rs' = bareS rs → OwnT C W b1 b2 rs' ps → RowZ W c l3 → Calls Tryz.prog 21 #[TV (some ⟨b1, 0, none⟩) rs.length rs.length (some ⟨b2, 0, none⟩) ps.length ps.length, .int .i64 top, .slice (some ⟨c, 0, none⟩) l3.length l3.length, .int .i64 bud] W fun e w' => ∃ vp vl, e = .returned (AV (askF rs ps top l3 bud).x (askF rs ps top l3 bud).hw vp vl (askF rs ps top l3 bud).st (askF rs ps top l3 bud).c) ∧ AOw W.heap.size (askF rs ps top l3 bud).P (askF rs ps top l3 bud).L vp vl w' ∧ Below W.heap.size W w') := fun b1 b2 rs' c C W hW eb o i => by
    have hl' := bareS_len eb
    have := iask_any (some ⟨b1, 0, none⟩) rs.length (some ⟨b2, 0, none⟩) ps.length top (some ⟨c, 0, none⟩) l3.length bud rs' ps l3 W (by omega) hl3 o.sts o.prs h.wf i.ints (hT.belowT hW)
    rw [hl'] at this
    rw [← askF_bare ps top l3 bud eb]
    exact this.mono fun e w' hq => ask_form hq
  have TE : Hid (∀ b1 b2 rs1 c1 c2 rs2 W, bareS rs1 = bareS rs → bareS rs2 = bareS rs → Sts W (some ⟨b1, 0, none⟩) rs1 → Prs W (some ⟨b2, 0, none⟩) ps → Sts W (some ⟨c1, 0, none⟩) rs2 → Prs W (some ⟨c2, 0, none⟩) ps → Calls Tryz.prog 23 #[TV (some ⟨b1, 0, none⟩) rs.length rs.length (some ⟨b2, 0, none⟩) ps.length ps.length, TV (some ⟨c1, 0, none⟩) rs.length rs.length (some ⟨c2, 0, none⟩) ps.length ps.length] W fun e w' => e = .returned (.bool true) ∧ Below W.heap.size W w') := fun b1 b2 rs1 c1 c2 rs2 W e1 e2 s1 p1 s2 p2 => by
    have := eqT_any (some ⟨b1, 0, none⟩) (some ⟨c1, 0, none⟩) rs.length rs.length (some ⟨b2, 0, none⟩) (some ⟨c2, 0, none⟩) ps.length ps.length rs1 rs2 ps W (by rw [bareS_len e1]; omega) (by omega) (e1.trans e2.symm) s1 s2 p1 p2
    rwa [bareS_len e1, bareS_len e2] at this
  have MT : Hid (∀ C b1 b2 rs' w0 W, bareS rs' = bareS rs → OwnT C w0 b1 b2 rs' ps → Below w0.heap.size w0 W → Calls Tryz.prog 25 #[TV (some ⟨b1, 0, none⟩) rs.length rs.length (some ⟨b2, 0, none⟩) ps.length ps.length, .int .i64 1] W fun e w' => ∃ k : Int, (0 ≤ k ∧ k ≤ 4000000) ∧ e = .returned (.int .i64 k) ∧ Btw C w0.heap.size W w') := fun C b1 b2 rs' w0 W eb o hb => by
    have o' := o.below hb
    have stm := o.stM.below hb
    have hl' := bareS_len eb
    have ht : totD rs' = totD rs := by
      have := congrArg (List.map fun r : Int × Int × List Int => r.2.2.length) eb
      unfold totD
      simpa [bareS, Function.comp_def] using congrArg List.sum this
    have hP : PrM W b2 ps.length := by obtain ⟨vs, a, b, _⟩ := o'.r2; exact ⟨vs, a, b⟩
    have hSum : rs'.length + totD rs' + ps.length ≤ 1048576 := by rw [hl', ht]; omega
    have := mkTG_any C w0.heap.size b1 b2 rs' ps.length hSum W stm hP o.lo2 o.r2.lt hb.size
    rw [hl'] at this
    exact this.mono fun e w' ⟨k, k0, he, hg, _⟩ => ⟨k, k0, he, hg⟩
  have MI : Hid (∀ (k : Int) b W, 0 ≤ k → k ≤ 1000000000 → RowZ W b l3 → Calls Tryz.prog 26 #[.slice (some ⟨b, 0, none⟩) l3.length l3.length, .int .i64 k] W fun e w' => e = .returned (.int .i64 (k + (l3.length : Int))) ∧ Only b W w') := fun k b W k0 k1 z => (mark_some b l3.length l3.length l3.length k hz3 (Nat.le_refl _) k0 k1 W ⟨_, z, vs_size _ _ (Nat.le_refl _), fun j hj => absurd hj (Nat.not_lt_zero _)⟩).mono fun e w' ⟨h1, _, h2⟩ => ⟨h1, h2⟩
  obtain ⟨hP, hL, hLr⟩ := askF_small rs ps top l3 bud
  have hneg : ¬ ((1048576 : Int) - ((rs.length + totD rs + ps.length : Nat) : Int)) < 0 := by omega
  have hq3 : (l3.length : Int) ≤ 1048576 := by omega
  clear h hs e hl h3 hT
  generalize (1048576 : Int) - ((rs.length + totD rs + ps.length : Nat) : Int) = z at *
  generalize rs.length = n at *
  generalize ps.length = m at *
  generalize l3.length = q at *
  generalize (askF rs ps top l3 bud) = fa at *
  obtain ⟨x, hw, st, c, P, L⟩ := fa
  dsimp only at SP IM hP hL hLr
  have EA : Hid (∀ T C vp vl vp' vl' W, AOw C P L vp' vl' W → AOl T P L vp vl W → Calls Tryz.prog 22 #[AV x hw vp' vl' st c, AV x hw vp vl st c] W fun e w' => e = .returned (.bool true) ∧ Below W.heap.size W w') := fun T C vp vl vp' vl' W a b => AOl.eq x hw st c a b hP (by omega)
  have MA : Hid (∀ B vp vl W, AOw B P L vp vl W → B ≤ W.heap.size → Calls Tryz.prog 27 #[AV x hw vp vl st c, .int .i64 1] W fun e w' => e = .returned (.int .i64 (1 + 2 * (P.length : Int) + (totQ L : Int))) ∧ AOm B P.length L vp vl w' ∧ Below B W w' ∧ K49 W w') := fun B vp vl W a b => a.mark x hw st c b hP hL hLr
  have HA : Hid (∀ B vp vl W, AOm B P.length L vp vl W → Calls Tryz.prog 28 #[AV x hw vp vl st c, .int .i64 1] W fun e w' => e = .returned (.int .i64 (1 + 2 * (P.length : Int) + (totQ L : Int))) ∧ Below W.heap.size W w') := fun B vp vl W a => a.held x hw st c hP hL hLr
  have hk9 : ¬ (1 + 2 * (P.length : Int) + (totQ L : Int)) < 0 := by omega
  clear hP hL hLr
  generalize (1 + 2 * (P.length : Int) + (totQ L : Int)) = kq at *
  have hkk : (kq != kq) = false := by simp
  have HT := Lib.hid (show (w.alloc (.cells #[.slice sl n cap, .slice sl2 m cap2] 46)).heap[w.heap.size]? = some (.cells #[.slice sl n cap, .slice sl2 m cap2] 46) from new_at _ _)
  have B0 := Lib.hid (bA0 w (.cells #[.slice sl n cap, .slice sl2 m cap2] 46))
  have hw0 : (w.alloc (.cells #[.slice sl n cap, .slice sl2 m cap2] 46)).heap.size = w.heap.size + 1 := by simp
  have KT : Hid (∀ W, Below (w.heap.size + 1) (w.alloc (.cells #[.slice sl n cap, .slice sl2 m cap2] 46)) W → w.heap.size < W.heap.size ∧ W.cell? ⟨w.heap.size, 0, none⟩ = some (.slice sl n cap) ∧ W.cell? ⟨w.heap.size, 1, none⟩ = some (.slice sl2 m cap2)) := fun W hW => by
    have := (hW.block w.heap.size (by omega)).trans HT.out
    exact ⟨(Array.getElem?_eq_some_iff.1 this).1, by simp [World.cell?, this], by simp [World.cell?, this]⟩
  clear HT
  go_enter Tryz.func4, Tryz.ntmps4
  go_wp2_with fail
  refine (SZ.out _ (bA0 _ _)).mono ?_
  rintro e w1 ⟨rfl, b1⟩
  generalize w.alloc (.cells #[.slice sl n cap, .slice sl2 m cap2] 46) = wA at *
  have A1 : Hid (Below (w.heap.size + 1) wA w1) := by rw [← hw0]; exact b1
  have D1 := Lib.hid (bT B0.out b1)
  clear b1 SZ
  obtain ⟨tl, t0, t1⟩ := KT.out _ A1.out
  have hs1 := A1.out.size
  go_wp2_with fail
  refine (TO.out _ D1.out).mono ?_
  rintro e w2 ⟨b1, b2, rs1, rfl, e1, o1, bl2⟩
  have D2 := Lib.hid (bT D1.out bl2)
  have A2 := Lib.hid (A1.out.trans (bl2.mono (by omega)))
  have O2 := Lib.hid o1
  have hs2 := A2.out.size
  clear o1 bl2 A1 D1 t0 t1 tl
  go_wp2_with fail
  refine (TP.out _ D2.out).mono ?_
  rintro e w2b ⟨rfl, i2, bl2⟩
  have D2b := Lib.hid (bT D2.out bl2)
  have A2b := Lib.hid (A2.out.trans (bl2.mono (by omega)))
  have T2 := Lib.hid (SP.out b1 b2 rs1 _ _ w2b e1 (O2.out.below bl2) i2)
  have hs2b := A2b.out.size
  clear i2 bl2 e1 O2 A2 D2
  go_wp2_with fail
  refine T2.out.mono ?_
  rintro e w3 ⟨vp0, vl0, rfl, q3, bl3⟩
  obtain ⟨s10, k10, s20, k20, rfl, rfl⟩ := q3.form
  have V3 := Lib.hid (q3.low)
  have D3 := Lib.hid (bT D2b.out bl3)
  have A3 := Lib.hid (A2b.out.trans (bl3.mono (by omega)))
  have hs3 := A3.out.size
  have hd3 := D3.out.size
  have X3 := Lib.hid (new_at w3 (AC x hw (.slice s10 P.length k10) (.slice s20 L.length k20) st c))
  have N3 := Lib.hid (bA0 w3 (AC x hw (.slice s10 P.length k10) (.slice s20 L.length k20) st c))
  have hsa : (w3.alloc (AC x hw (.slice s10 P.length k10) (.slice s20 L.length k20) st c)).heap.size = w3.heap.size + 1 := by simp
  have V3a := Lib.hid (V3.out.below N3.out (Nat.le_refl _) (Nat.le_refl _))
  have D3a := Lib.hid (bT D3.out N3.out)
  have A3a := Lib.hid (A3.out.trans (N3.out.mono (by omega)))
  clear q3 bl3 T2 A2b D2b V3 N3 A3 D3
  obtain ⟨tl, t0, t1⟩ := KT.out _ A3a.out
  go_wp2_with fail
  generalize w3.alloc (AC x hw (.slice s10 P.length k10) (.slice s20 L.length k20) st c) = w3a at *
  refine (TO.out _ D3a.out).mono ?_
  rintro e w4 ⟨c1, c2, rs2, rfl, e2, o2, bl4⟩
  have D4 := Lib.hid (bT D3a.out bl4)
  have A4 := Lib.hid (A3a.out.trans (bl4.mono (by omega)))
  have E4 := Lib.hid e2
  have O4 := Lib.hid o2
  have V4 := Lib.hid (V3a.out.below bl4 (by omega) (Nat.le_refl _))
  have X4 := Lib.hid ((bl4.block w3.heap.size (by omega)).trans X3.out)
  have hs4 := bl4.size
  have N4 := Lib.hid (bA0 w4 (.cells #[.slice (some ⟨c1, 0, none⟩) n n, .slice (some ⟨c2, 0, none⟩) m m] 26))
  have Y4 := Lib.hid (new_at w4 (.cells #[.slice (some ⟨c1, 0, none⟩) n n, .slice (some ⟨c2, 0, none⟩) m m] 26))
  have HSB := Lib.hid (show (w4.alloc (.cells #[.slice (some ⟨c1, 0, none⟩) n n, .slice (some ⟨c2, 0, none⟩) m m] 26)).heap.size = w4.heap.size + 1 by simp)
  have D4a := Lib.hid (bT D4.out N4.out)
  clear e2 o2 bl4 A3a D3a V3a X3 t0 t1 tl
  go_wp2_with fail
  generalize w4.alloc (.cells #[.slice (some ⟨c1, 0, none⟩) n n, .slice (some ⟨c2, 0, none⟩) m m] 26) = w4a at *
  refine (TP.out _ D4a.out).mono ?_
  rintro e w5 ⟨rfl, i5, bl5⟩
  have G5 := Lib.hid (bT N4.out bl5)
  have Z5 := Lib.hid i5
  have Y5 := Lib.hid ((bl5.block w4.heap.size (by have := HSB.out; omega)).trans Y4.out)
  have hz5 := Z5.out.lt
  have D5 := Lib.hid (bT D4a.out bl5)
  have hs5 := bl5.size
  have T6 := Lib.hid (IM.out c1 c2 rs2 _ _ w5 D5.out E4.out (O4.out.below G5.out) i5)
  clear i5 bl5 N4 Y4 D4a
  obtain ⟨y0, y1⟩ := TabAtD.cells (show TabAtD w5 w4.heap.size (some ⟨c1, 0, none⟩) n n (some ⟨c2, 0, none⟩) m m from Y5.out)
  have yl := TabAtD.lt (show TabAtD w5 w4.heap.size (some ⟨c1, 0, none⟩) n n (some ⟨c2, 0, none⟩) m m from Y5.out)
  go_wp2_with fail
  refine T6.out.mono ?_
  rintro e w6 ⟨vp6, vl6, rfl, q6, bl6⟩
  obtain ⟨s16, k16, s26, k26, rfl, rfl⟩ := q6.form
  have G6 := Lib.hid (bT G5.out bl6)
  have R6 := Lib.hid q6
  have Z6 := Lib.hid (Z5.out.below bl6)
  have hs6 := bl6.size
  have X6 := Lib.hid (new_at w6 (AC x hw (.slice s16 P.length k16) (.slice s26 L.length k26) st c))
  have N6 := Lib.hid (bA0 w6 (AC x hw (.slice s16 P.length k16) (.slice s26 L.length k26) st c))
  have hsc : (w6.alloc (AC x hw (.slice s16 P.length k16) (.slice s26 L.length k26) st c)).heap.size = w6.heap.size + 1 := by simp
  have G6a := Lib.hid (bT G6.out N6.out)
  have Y6 := Lib.hid ((bl6.block w4.heap.size yl).trans Y5.out)
  clear q6 bl6 T6 G5 Y5 y0 y1 yl D5
  have R6a := Lib.hid (R6.out.below N6.out)
  have V6a := Lib.hid (V4.out.below G6a.out (by have := HSB.out; omega) (Nat.le_refl _))
  have P6a := Lib.hid ((G6a.out.block w3.heap.size (by have := HSB.out; omega)).trans X4.out)
  obtain ⟨p0, p1, p2, p3, p4, p5, pl⟩ := cells6a P6a.out
  obtain ⟨r0, r1, r2, r3, r4, r5, rl⟩ := cells6a X6.out
  have T7 := Lib.hid (EA.out _ _ (.slice s10 P.length k10) (.slice s20 L.length k20) (.slice s16 P.length k16) (.slice s26 L.length k26) _ R6a.out V6a.out)
  have Y6a := Lib.hid ((N6.out.block w4.heap.size (Array.getElem?_eq_some_iff.1 Y6.out).1).trans Y6.out)
  have Z6a := Lib.hid (Z6.out.below N6.out)
  clear V4 X4 G6 R6 N6 Y6 Z5 Z6
  go_wp2_with fail
  generalize w6.alloc (AC x hw (.slice s16 P.length k16) (.slice s26 L.length k26) st c) = w6a at *
  refine T7.out.mono ?_
  rintro e w7 ⟨rfl, bl7⟩
  have G7 := Lib.hid (bT G6a.out bl7)
  have D7 := Lib.hid (bT D4.out G7.out)
  have A7 := Lib.hid (A4.out.trans (G7.out.mono (by have := HSB.out; omega)))
  have R7 := Lib.hid (R6a.out.below bl7)
  have V7 := Lib.hid (V6a.out.below bl7 (by have := HSB.out; omega) (Nat.le_refl _))
  have P7 := Lib.hid ((bl7.block w3.heap.size pl).trans P6a.out)
  have X7 := Lib.hid ((bl7.block w6.heap.size rl).trans X6.out)
  have Y7 := Lib.hid ((bl7.block w4.heap.size (Array.getElem?_eq_some_iff.1 Y6a.out).1).trans Y6a.out)
  have Z7 := Lib.hid (Z6a.out.below bl7)
  have hs7 := bl7.size
  clear bl7 T7 G6a R6a V6a P6a X6 Y6a Z6a p0 p1 p2 p3 p4 p5 pl r0 r1 r2 r3 r4 r5 rl
  have KX : Hid (∀ W, Below w7.heap.size w7 W → w.heap.size < W.heap.size ∧ w4.heap.size < W.heap.size ∧ W.cell? ⟨w.heap.size, 0, none⟩ = some (.slice sl n cap) ∧ W.cell? ⟨w.heap.size, 1, none⟩ = some (.slice sl2 m cap2) ∧ W.cell? ⟨w4.heap.size, 0, none⟩ = some (.slice (some ⟨c1, 0, none⟩) n n) ∧ W.cell? ⟨w4.heap.size, 1, none⟩ = some (.slice (some ⟨c2, 0, none⟩) m m)) := fun W hW => by
    obtain ⟨k1, k2, k3⟩ := KT.out W (A7.out.trans (hW.mono (by have := HSB.out; omega)))
    have yb : TabAtD W w4.heap.size (some ⟨c1, 0, none⟩) n n (some ⟨c2, 0, none⟩) m m := (hW.block _ (Array.getElem?_eq_some_iff.1 Y7.out).1).trans Y7.out
    obtain ⟨k4, k5⟩ := yb.cells
    exact ⟨k1, yb.lt, k2, k3, k4, k5⟩
  go_wp2_with fail
  refine wp_region_held_drew (S := fun W => w.heap.size < W.heap.size ∧ w4.heap.size < W.heap.size ∧ W.cell? ⟨w.heap.size, 0, none⟩ = some (.slice sl n cap) ∧ W.cell? ⟨w.heap.size, 1, none⟩ = some (.slice sl2 m cap2) ∧ W.cell? ⟨w4.heap.size, 0, none⟩ = some (.slice (some ⟨c1, 0, none⟩) n n) ∧ W.cell? ⟨w4.heap.size, 1, none⟩ = some (.slice (some ⟨c2, 0, none⟩) m m)) (by kernel_rfl) ?_ (fun hHeld => ?_)
  · exact KX.out _ (Below.refl _ _).drew
  refine wpAnyH_take (i := 0) (v := ?_) rfl (by kernel_rfl) (by kernel_rfl) (by kernel_rfl) (fun _ _ _ h => h) (Or.inl ⟨by rfl, ?_⟩) ‹_› ?_
  rotate_left
  · intro w hSw; (try dsimp only at hSw); go_simp; try with_reducible rfl
  try simp only [Act.put, setIfInBounds_toArray, set_cons_zero, set_cons_succ, getElem_toArray, getElem_cons_zero]
  refine wpAnyH_take (i := 1) (v := ?_) rfl (by kernel_rfl) (by kernel_rfl) (by kernel_rfl) (fun _ _ _ h => h) (Or.inl ⟨by rfl, ?_⟩) ‹_› ?_
  rotate_left
  · intro w hSw; (try dsimp only at hSw); go_simp; try with_reducible rfl
  try simp only [Act.put, setIfInBounds_toArray, set_cons_zero, set_cons_succ, getElem_toArray, getElem_cons_succ, getElem_cons_zero]
  refine wpAnyH_ready (rs := [2]) (by kernel_rfl) (by simp) ?_
  refine AllReadyH.cons rfl (fun K hK => ?_) AllReadyH.nil
  go_simp
  go_wp2_with (go_at_call 19; refine (TO.out _ D7.out.drew).mono ?_; rintro e w8 ⟨d1, d2, rs3, rfl, e3, o3, bl8⟩)
  have F8 : Hid (Below w7.heap.size w7 w8) := bT ((Below.refl w7.heap.size w7).drew) bl8
  have O8 := Lib.hid o3
  have E8 := Lib.hid e3
  clear bl8 o3 e3
  refine hK.out _ _ ?_ (fun hHeld => ?_)
  · exact KX.out _ F8.out
  clear hK K
  refine wpAnyH_ready (rs := [3]) (by kernel_rfl) (by simp) ?_
  refine AllReadyH.cons rfl (fun K hK => ?_) AllReadyH.nil
  go_simp
  go_wp2_with (go_at_call 23; refine (TE.out c1 c2 rs2 d1 d2 rs3 _ E4.out E8.out (((O4.out.below G7.out).below F8.out).sts) (((O4.out.below G7.out).below F8.out).prs) O8.out.sts O8.out.prs).mono ?_; rintro e w9 ⟨rfl, bl9⟩)
  have F9 : Hid (Below w7.heap.size w7 w9) := bT F8.out bl9
  clear bl9
  refine hK.out _ _ ?_ (fun hHeld => ?_)
  · exact KX.out _ F9.out
  clear hK K
  refine wpAnyH_take (i := 4) (v := ?_) rfl (by kernel_rfl) (by kernel_rfl) (by kernel_rfl) (fun _ _ _ h => h) (Or.inl ⟨by rfl, ?_⟩) ‹_› ?_
  rotate_left
  · intro w hSw; (try dsimp only at hSw); go_simp; try with_reducible rfl
  try simp only [Act.put, setIfInBounds_toArray, set_cons_zero, set_cons_succ, getElem_toArray, getElem_cons_succ, getElem_cons_zero]
  refine wpAnyH_done (by kernel_rfl) ?_ _
  have G9 := Lib.hid (bT G7.out F9.out)
  have D9 := Lib.hid (bT D7.out F9.out)
  have A9 := Lib.hid (A7.out.trans (F9.out.mono (by have := HSB.out; omega)))
  have R9 := Lib.hid (R7.out.below F9.out)
  have V9 := Lib.hid (V7.out.below F9.out (by have := HSB.out; omega) (Nat.le_refl _))
  have P9 := Lib.hid ((F9.out.block w3.heap.size (Array.getElem?_eq_some_iff.1 P7.out).1).trans P7.out)
  have X9 := Lib.hid ((F9.out.block w6.heap.size (Array.getElem?_eq_some_iff.1 X7.out).1).trans X7.out)
  have Y9 := Lib.hid ((F9.out.block w4.heap.size (Array.getElem?_eq_some_iff.1 Y7.out).1).trans Y7.out)
  have Z9 := Lib.hid (Z7.out.below F9.out)
  have hs9 := F9.out.size
  clear F9 F8 KX O8 E8 TE G7 D7 A7 R7 V7 P7 X7 Y7 Z7
  go_wp2_with fail
  refine (TP.out _ D9.out).mono ?_
  rintro e w10 ⟨rfl, i10, bl10⟩
  have T11 := Lib.hid (EQ.out _ _ w10 (Z9.out.below bl10) i10)
  have F10 := Lib.hid bl10
  clear i10 bl10
  go_wp2_with fail
  refine T11.out.mono ?_
  rintro e w11 ⟨rfl, bl11⟩
  have F11 := Lib.hid (bT F10.out bl11)
  have G11 := Lib.hid (bT G9.out F11.out)
  have D11 := Lib.hid (bT D9.out F11.out)
  have A11 := Lib.hid (A9.out.trans (F11.out.mono (by have := HSB.out; omega)))
  have R11 := Lib.hid (R9.out.below F11.out)
  have V11 := Lib.hid (V9.out.below F11.out (by have := HSB.out; omega) (Nat.le_refl _))
  have P11 := Lib.hid ((F11.out.block w3.heap.size (Array.getElem?_eq_some_iff.1 P9.out).1).trans P9.out)
  have X11 := Lib.hid ((F11.out.block w6.heap.size (Array.getElem?_eq_some_iff.1 X9.out).1).trans X9.out)
  have Y11 := Lib.hid ((F11.out.block w4.heap.size (Array.getElem?_eq_some_iff.1 Y9.out).1).trans Y9.out)
  have Z11 := Lib.hid (Z9.out.below F11.out)
  have hs11 := F11.out.size
  clear bl11 F10 F11 T11 G9 D9 A9 R9 V9 P9 X9 Y9 Z9 EQ
  have M12 := Lib.hid (MT.out _ c1 c2 rs2 w4 w11 E4.out O4.out G11.out)
  obtain ⟨y0, y1⟩ := TabAtD.cells (show TabAtD w11 w4.heap.size (some ⟨c1, 0, none⟩) n n (some ⟨c2, 0, none⟩) m m from Y11.out)
  have yl := TabAtD.lt (show TabAtD w11 w4.heap.size (some ⟨c1, 0, none⟩) n n (some ⟨c2, 0, none⟩) m m from Y11.out)
  go_wp2_with fail
  refine M12.out.mono ?_
  rintro e w12 ⟨k, ⟨k0, k1⟩, rfl, g12⟩
  have D12 := Lib.hid (D11.out.trans ((g12.below (by have := HSB.out; omega)).mono (by have := HSB.out; omega)))
  have A12 := Lib.hid (A11.out.trans ((g12.below (by have := HSB.out; omega)).mono (by have := HSB.out; omega)))
  have R12 := Lib.hid (R11.out.btw g12 (by have := HSB.out; omega))
  have V12 := Lib.hid (V11.out.btw g12 (by have := HSB.out; omega))
  have P12 := Lib.hid ((g12.block w3.heap.size (Array.getElem?_eq_some_iff.1 P11.out).1 (.inl (by have := HSB.out; omega))).trans P11.out)
  have X12 := Lib.hid ((g12.block w6.heap.size (Array.getElem?_eq_some_iff.1 X11.out).1 (.inr (by have := HSB.out; omega))).trans X11.out)
  have Z12 := Lib.hid (Z11.out.frame (g12.block w4a.heap.size Z11.out.lt (.inr (by have := HSB.out; omega))))
  have hs12 := g12.size
  clear g12 M12 MT G11 D11 A11 R11 V11 P11 X11 Y11 Z11 y0 y1 yl O4 E4
  go_wp2_with fail
  refine (MI.out _ _ _ k0 (by have := HSB.out; omega) Z12.out).mono ?_
  rintro e w13 ⟨rfl, o13⟩
  have g13 := btw_only o13
  have D13 := Lib.hid (D12.out.trans ((g13.below (by have := HSB.out; have := Z12.out.lt; omega)).mono (by have := HSB.out; omega)))
  have A13 := Lib.hid (A12.out.trans ((g13.below (by have := HSB.out; have := Z12.out.lt; omega)).mono (by have := HSB.out; omega)))
  have R13 := Lib.hid (R12.out.btw g13 (by have := HSB.out; omega))
  have V13 := Lib.hid (V12.out.btw g13 (by have := HSB.out; omega))
  have P13 := Lib.hid ((g13.block w3.heap.size (Array.getElem?_eq_some_iff.1 P12.out).1 (.inl (by have := HSB.out; omega))).trans P12.out)
  have X13 := Lib.hid ((g13.block w6.heap.size (Array.getElem?_eq_some_iff.1 X12.out).1 (.inr (by have := HSB.out; omega))).trans X12.out)
  have hs13 := g13.size
  have hkn : ¬ (k + (q : Int)) < 0 := by omega
  clear g13 o13 MI D12 A12 R12 V12 P12 X12 Z12
  obtain ⟨p0, p1, p2, p3, p4, p5, pl⟩ := cells6a P13.out
  obtain ⟨r0, r1, r2, r3, r4, r5, rl⟩ := cells6a X13.out
  generalize k + (q : Int) = kz at *
  go_wp2_with fail
  refine (EA.out _ _ (.slice s10 P.length k10) (.slice s20 L.length k20) (.slice s16 P.length k16) (.slice s26 L.length k26) w13 R13.out V13.out).mono ?_
  rintro e w14 ⟨rfl, bl14⟩
  have D14 := Lib.hid (bT D13.out bl14)
  have A14 := Lib.hid (A13.out.trans (bl14.mono (by have := HSB.out; omega)))
  have R14 := Lib.hid (R13.out.below bl14)
  have V14 := Lib.hid (V13.out.below bl14 (by have := HSB.out; omega) (Nat.le_refl _))
  have P14 := Lib.hid ((bl14.block w3.heap.size pl).trans P13.out)
  have X14 := Lib.hid ((bl14.block w6.heap.size rl).trans X13.out)
  have hs14 := bl14.size
  clear bl14 D13 A13 R13 V13 P13 X13 p0 p1 p2 p3 p4 p5 pl r0 r1 r2 r3 r4 r5 rl
  obtain ⟨r0, r1, r2, r3, r4, r5, rl⟩ := cells6a X14.out
  go_wp2_with fail
  refine (MA.out _ (.slice s16 P.length k16) (.slice s26 L.length k26) w14 R14.out (by have := HSB.out; omega)).mono ?_
  rintro e w15 ⟨rfl, m15, bl15, k15⟩
  have D15 := Lib.hid (D14.out.trans (bl15.mono (by have := HSB.out; omega)))
  have A15 := Lib.hid (A14.out.trans (bl15.mono (by have := HSB.out; omega)))
  have V15 := Lib.hid (V14.out.below bl15 (by have := HSB.out; omega) (by have := HSB.out; omega))
  have P15 := Lib.hid (k15 _ _ P14.out)
  have X15 := Lib.hid (k15 _ _ X14.out)
  have M15 := Lib.hid m15
  have hs15 := bl15.size
  clear bl15 k15 m15 D14 A14 R14 V14 P14 X14 r0 r1 r2 r3 r4 r5 rl MA
  obtain ⟨r0, r1, r2, r3, r4, r5, rl⟩ := cells6a X15.out
  go_wp2_with fail
  refine (HA.out _ (.slice s16 P.length k16) (.slice s26 L.length k26) w15 M15.out).mono ?_
  rintro e w16 ⟨rfl, bl16⟩
  have D16 := Lib.hid (bT D15.out bl16)
  have A16 := Lib.hid (A15.out.trans (bl16.mono (by have := HSB.out; omega)))
  have V16 := Lib.hid (V15.out.below bl16 (by have := HSB.out; omega) (Nat.le_refl _))
  have P16 := Lib.hid ((bl16.block w3.heap.size (Array.getElem?_eq_some_iff.1 P15.out).1).trans P15.out)
  have X16 := Lib.hid ((bl16.block w6.heap.size rl).trans X15.out)
  have M16 := Lib.hid (M15.out.below bl16)
  have hs16 := bl16.size
  clear bl16 D15 A15 V15 P15 X15 M15 r0 r1 r2 r3 r4 r5 rl
  obtain ⟨tl, t0, t1⟩ := KT.out _ A16.out
  go_wp2_with fail
  refine (TO.out _ D16.out).mono ?_
  rintro e w17 ⟨f1, f2, rs4, rfl, e4, o4, bl17⟩
  have F17 := Lib.hid bl17
  have D17 := Lib.hid (bT D16.out bl17)
  have O17 := Lib.hid o4
  have E17 := Lib.hid e4
  clear e4 o4 bl17 t0 t1 tl
  go_wp2_with fail
  refine (TP.out _ D17.out).mono ?_
  rintro e w18 ⟨rfl, i18, bl18⟩
  have F18 := Lib.hid (bT F17.out bl18)
  have D18 := Lib.hid (bT D17.out bl18)
  have T19 := Lib.hid (IM.out f1 f2 rs4 _ _ w18 D18.out E17.out (O17.out.below bl18) i18)
  clear i18 bl18 O17 E17 F17 D17
  go_wp2_with fail
  refine T19.out.mono ?_
  rintro e w19 ⟨vp19, vl19, rfl, q19, bl19⟩
  obtain ⟨s19, k19, s29, k29, rfl, rfl⟩ := q19.form
  have F19 := Lib.hid (bT F18.out bl19)
  have X19 := Lib.hid (new_at w19 (AC x hw (.slice s19 P.length k19) (.slice s29 L.length k29) st c))
  have N19 := Lib.hid (bA0 w19 (AC x hw (.slice s19 P.length k19) (.slice s29 L.length k29) st c))
  have F19a := Lib.hid (bT F19.out N19.out)
  have R19 := Lib.hid (q19.below N19.out)
  have D19 := Lib.hid (bT D16.out F19a.out)
  have V19 := Lib.hid (V16.out.below F19a.out (by have := HSB.out; omega) (Nat.le_refl _))
  have P19 := Lib.hid ((F19a.out.block w3.heap.size (Array.getElem?_eq_some_iff.1 P16.out).1).trans P16.out)
  have X16a := Lib.hid ((F19a.out.block w6.heap.size (Array.getElem?_eq_some_iff.1 X16.out).1).trans X16.out)
  have M19 := Lib.hid (M16.out.below F19a.out)
  have T20 := Lib.hid (EA.out _ _ (.slice s10 P.length k10) (.slice s20 L.length k20) (.slice s19 P.length k19) (.slice s29 L.length k29) _ R19.out V19.out)
  clear q19 bl19 T19 F18 F19 N19 F19a D16 V16 P16 X16 M16 D18
  obtain ⟨p0, p1, p2, p3, p4, p5, pl⟩ := cells6a P19.out
  obtain ⟨r0, r1, r2, r3, r4, r5, rl⟩ := cells6a X19.out
  go_wp2_with fail
  generalize w19.alloc (AC x hw (.slice s19 P.length k19) (.slice s29 L.length k29) st c) = w19a at *
  refine T20.out.mono ?_
  rintro e w20 ⟨rfl, bl20⟩
  have D20 := Lib.hid (bT D19.out bl20)
  have M20 := Lib.hid (M19.out.below bl20)
  have X20 := Lib.hid ((bl20.block w6.heap.size (Array.getElem?_eq_some_iff.1 X16a.out).1).trans X16a.out)
  clear bl20 T20 D19 M19 X16a X19 P19 V19 R19 p0 p1 p2 p3 p4 p5 pl r0 r1 r2 r3 r4 r5 rl
  obtain ⟨r0, r1, r2, r3, r4, r5, rl⟩ := cells6a X20.out
  go_wp2_with fail
  refine (HA.out _ (.slice s16 P.length k16) (.slice s26 L.length k26) w20 M20.out).mono ?_
  rintro e w21 ⟨rfl, bl21⟩
  have D21 := Lib.hid (bT D20.out bl21)
  clear bl21
  go_wp2
  go_ret
  exact ⟨rfl, D21.out⟩
end Go.Proofs.YtnihhbfgbilimaaGreatDoor
