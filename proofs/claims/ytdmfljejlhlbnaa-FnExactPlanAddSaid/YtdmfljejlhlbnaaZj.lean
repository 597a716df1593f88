/-
  A PLACE PUT INTO A ROW: slices.Clone and slices.Insert at places.
  A PLACE PUT INTO A ROW: slices.Insert at places.
  A PLACE PUT INTO A ROW: what slices.Insert answers.
  A PLACE AMONG PLACES, as lists: where it goes, and that a plan stays right just if it may stand beside all others.
  WHERE A STATION GOES IN A PLAN: slices.BinarySearch; impl.PlanAdd.
  ONE STATION MORE: impl.PlanAdd.
  A PLACE PUT AMONG PLACES: spec.l05With.
  ONE STATION MORE: spec.PlanAdd.
  THE TRUES OF A PLAN: spec.TruesOf.
  MARKS ON PLACES; two lists of numbers held against each other: slices.Equal.
  THE LAW 6: the walk.
-/
import Derived.Test.YtdmfljejlhlbnaaUb
import Derived.Shelf.RegionOpenPlain
import Derived.Lib.Overlaps
import Derived.Lib.SliceRun
import Derived.Laws.Externs
import Derived.Test.YtdmfljejlhlbnaaWi
import Derived.Test.YtdmfljejlhlbnaaPl
import Derived.Test.YtdmfljejlhlbnaaXb
import Derived.Test.YtdmfljejlhlbnaaUe
import Derived.Test.YtdmfljejlhlbnaaAt
import Derived.BigQuiet
import Derived.Test.YtdmfljejlhlbnaaAq
import Derived.Test.YtdmfljejlhlbnaaPb
namespace Go.Proofs.Ytdmfljejlhlbnaa
open Go.RowKit
set_option linter.unusedVariables false

/-- copy, at elements of two cells. -/
theorem run_copy2 (w : World) (ty : TypeId) (b o dLen dCap : Nat) (a : Addr) (sLen sCap : Nat) (cs : List Value) (hn : cs.length = Nat.min sLen dLen * 2)
    (hsrc : ∀ j v, cs[j]? = some v → w.cell? (a.add j) = some v) (hc : ∀ j, j < cs.length → (w.cell? ⟨b, o + j, none⟩).isSome = true) (hf : ∀ j, j < cs.length → w.frozen? ⟨b, o + j, none⟩ = false) (h1 : ∀ v ∈ cs, v.oneCell' = true) :
    (Builtin.copy_ #[27, 27] ty #[.slice (some ⟨b, o, none⟩) dLen dCap, .slice (some a) sLen sCap]).run Try.prog w = .ok (goInt (Nat.min sLen dLen)) (w.setCells b o cs) := by
  obtain ⟨i, hi, h0, hs, hb⟩ := info_parts info34
  have hl := run_loadCells_list (P := Try.prog) w a cs hsrc
  have hst := run_storeCells_cells (P := Try.prog) b o cs 0 w (by simpa using hc) (by simpa using hf) h1
  simp [Builtin.copy_, run_underlying Try.underlying27, Builtin.lenOf, Builtin.firstCells, sizeOf, typeInfo, hi, hs, ← hn, hl, hst]

/-- Cells of a row set one by one. -/
theorem row_set (g : Nat) (t : TypeId) : ∀ (ws : List Value) (o : Nat) (W : World) (us : Array Value), W.heap[g]? = some (.cells us t) → o + ws.length ≤ us.size →
    ∃ us', (W.setCells g o ws).heap[g]? = some (.cells us' t) ∧ us'.size = us.size ∧ (∀ k, k < o → us'[k]? = us[k]?) ∧ (∀ k, k < ws.length → us'[o + k]? = ws[k]?) ∧ (∀ k, o + ws.length ≤ k → us'[k]? = us[k]?) ∧ (∀ k, k ≠ g → (W.setCells g o ws).heap[k]? = W.heap[k]?) ∧ (W.setCells g o ws).heap.size = W.heap.size ∧ (W.setCells g o ws).os = W.os ∧ (W.setCells g o ws).tape = W.tape ∧ (W.setCells g o ws).output = W.output
  | [], o, W, us, h, _ => ⟨us, h, rfl, fun _ _ => rfl, fun k hk => by simp at hk, fun _ _ => rfl, fun _ _ => rfl, rfl, rfl, rfl, rfl⟩
  | v :: r, o, W, us, h, hl => by
    simp only [List.length_cons] at hl
    obtain ⟨us', g1, g2, g3, g4, g5, g6, g7, g8, g9, g10⟩ := row_set g t r (o + 1) (W.setCell ⟨g, o, none⟩ v) (us.setIfInBounds o v) (heap_setCell_same W g o us t v h) (by simp; omega)
    refine ⟨us', g1, by rw [g2]; simp, fun k hk => ?_, fun k hk => ?_, fun k hk => ?_, fun k hk => ?_, by rw [World.setCells, g7]; simp, g8, g9, g10⟩
    · rw [g3 k (by omega), Array.getElem?_setIfInBounds_ne (by omega)]
    · cases k with
      | zero => rw [Nat.add_zero, g3 o (by omega), Array.getElem?_setIfInBounds_self_of_lt (by omega)]; rfl
      | succ k =>
        have := g4 k (by simpa using hk)
        rw [show o + (k + 1) = o + 1 + k by omega, this]; simp
    · simp only [List.length_cons] at hk
      rw [g5 k (by omega), Array.getElem?_setIfInBounds_ne (by omega)]
    · rw [World.setCells, g6 k hk]; exact heap_setCell_other W ⟨g, o, none⟩ k v hk

theorem own_cap6 {w : World} {B : Nat} {e : TypeId} {m : Nat} {sl : Option Addr} {n cap : Nat} {k : Nat} {xs : List Value} (h : w.ownsRow B e m (.slice sl n cap) k xs) : k ≤ cap := by
  rcases h.2 with ⟨_, h0⟩ | ⟨g, cp, cur, hv, _, _, h5, _⟩
  · rw [h0]; exact Nat.zero_le _
  · cases hv; exact h5
/-- Places put behind places: both ways of it. -/
theorem appP {w : World} {B : Nat} {v : Value} {ks : List LPl} (h : w.ownsRow B 34 2 v ks.length (enCells ks)) {s : Option Addr} {r : List LPl} (k : Nat) (hi : Pls w s r) (hB : B ≤ w.heap.size) (hl : ks.length + r.length ≤ 10000000) :
    ∃ v9 w9, (∀ ty, (Builtin.append_ #[27, 27] ty #[v, .slice s r.length k]).run Try.prog w = .ok v9 w9) ∧ w9.ownsRow B 34 2 v9 (ks ++ r).length (enCells (ks ++ r)) ∧ w.grownBy w9 v.ownBlock ∧ ∀ j, v.ownBlock = some j → B ≤ j := by
  obtain ⟨i3, hi3, hd0, hd1, hd2⟩ := info_parts info34
  have hlo : ∀ j, v.ownBlock = some j → B ≤ j := fun j hj => (h.lt j hj).1
  obtain ⟨sl, cap, rfl⟩ := own_v h
  by_cases he : r = []
  · subst he
    exact ⟨_, w, fun ty => app_none27 w ty sl ks.length cap (own_cap6 h) s k, by rw [List.append_nil]; exact h, ⟨rfl, rfl, rfl, Nat.le_refl _, fun _ _ _ => rfl⟩, hlo⟩
  · rcases hi with hi | ⟨c, o, rfl, hi⟩
    · exact absurd hi he
    · obtain ⟨g, c9, w9, hr, own9, grow9, -, -⟩ := run_append_lies (P := Try.prog) w 27 27 B 34 i3 (.agg #[.int .i64 0, .int .i64 0]) 2 16 Try.underlying27 hi3 hd0 hd1 hd2 rfl (by decide) _ _ _ h ⟨c, o, none⟩ r.length k (enCells r) (enCells_len r) (pl_cells hi) (enCells_one r) (List.length_pos_iff.2 he) (by unfold maxLen; omega) (by omega) hB w.heap.size rfl
      exact ⟨_, w9, fun ty => hr, by rw [List.length_append, enCells_app]; exact own9, grow9, hlo⟩
/-- An empty row of places just made. -/
theorem own_none2 (w : World) : (w.alloc (.cells #[] 34)).ownsRow w.heap.size 34 2 (.slice (some ⟨w.heap.size, 0, none⟩) 0 0) ([] : List LPl).length (enCells []) :=
  ⟨rfl, .inr ⟨w.heap.size, 0, #[], rfl, Nat.le_refl _, by show (w.heap.push _)[w.heap.size]? = _; simp, Nat.le_refl _, Nat.zero_le _, rfl, rfl⟩⟩

set_option maxRecDepth 100000 in
set_option maxHeartbeats 2000000 in
/-- slices.Clone at places. -/
theorem clo_any (sl : Option Addr) (cap : Nat) (pl : List LPl) (w : World) (hn : pl.length ≤ 1048576) (hz : Pls w sl pl) :
    Calls Try.prog 76 #[.slice sl pl.length cap] w fun e w' => ∃ v, e = .returned v ∧ w'.ownsRow w.heap.size 34 2 v pl.length (enCells pl) ∧ Below w.heap.size w w' := by
  cases sl with
  | none =>
    have e : pl = [] := by
      rcases hz with h | ⟨c, o, e, _⟩
      · exact h
      · cases e
    subst e
    have hq := fun W : World => Lib.run_eql_slice_nil (P := Try.prog) W 27 34 none 0 cap 0 0 Try.underlying27
    simp only [Option.isNone_none] at hq
    go_enter Try.func76, Try.ntmps76
    go_wp2
    go_ret
    exact ⟨_, rfl, ⟨rfl, .inl ⟨rfl, rfl⟩⟩, Below.refl _ _⟩
  | some a =>
    have B0 := Lib.hid (bA0 w (.cells #[] 34))
    obtain ⟨v9, w9, ha, ow, gr, hj⟩ := appP (ks := []) (own_none2 w) cap (hz.below B0.out) B0.out.size (by simp; omega)
    have ha' := ha 27
    have O9 : Hid (w9.ownsRow w.heap.size 34 2 v9 pl.length (enCells pl)) := by
      have := ow
      rwa [List.nil_append] at this
    have hq := fun W : World => Lib.run_eql_slice_nil (P := Try.prog) W 27 34 (some a) pl.length cap 0 0 Try.underlying27
    simp only [Option.isNone_some] at hq
    have B9 := Lib.hid (B0.out.grown gr B0.out.size hj)
    clear ha ow gr hj hz B0
    generalize pl.length = n at *
    go_enter Try.func76, Try.ntmps76
    go_wp2_with (at_builtin; refine Lib.wpList_append_run _ rfl _ _ _ _ rfl _ _ rfl rfl _ _ ha' ?_)
    go_ret
    exact ⟨_, rfl, O9.out, B9.out⟩

end Go.Proofs.Ytdmfljejlhlbnaa
namespace Go.Proofs.Ytdmfljejlhlbnaa
open Go.RowKit
set_option linter.unusedVariables false

theorem pls_one {w : World} {b : Nat} {x y : Int} (h : w.heap[b]? = some (.cells #[.int .i64 x, .int .i64 y] 34)) : Pls w (some ⟨b, 0, none⟩) [(x, y)] := by
  refine .inr ⟨b, 0, rfl, (Array.getElem?_eq_some_iff.1 h).1, fun i hi => ?_⟩
  obtain rfl : i = 0 := by simp at hi; omega
  constructor <;> simp [World.cell?, h]

set_option maxRecDepth 100000 in
set_option maxHeartbeats 4000000 in
/-- slices.Insert at its end. -/
theorem insE_any (B vb : Nat) (x y : Int) (v : Value) (pl : List LPl) (w : World) (h : w.ownsRow B 34 2 v pl.length (enCells pl)) (hB : B ≤ w.heap.size) (hv : w.heap[vb]? = some (.cells #[.int .i64 x, .int .i64 y] 34)) (hn : pl.length ≤ 1000) :
    Calls Try.prog 75 #[v, .int .i64 pl.length, .slice (some ⟨vb, 0, none⟩) 1 1] w fun e w' => ∃ v', e = .returned v' ∧ w'.ownsRow B 34 2 v' (pl.length + 1) (enCells (pl ++ [(x, y)])) ∧ Below B w w' := by
  obtain ⟨v9, w9, ha, ow, gr, hj⟩ := appP (r := [(x, y)]) h 1 (pls_one hv) hB (by simp; omega)
  have ha' := ha 27
  have O9 := Lib.hid ow
  rw [List.length_append] at O9
  have B9 := Lib.hid ((Below.refl B w).grown gr hB hj)
  obtain ⟨sl, cap, rfl⟩ := own_v h
  clear ha ow gr hj
  generalize pl.length = n at *
  go_enter Try.func75, Try.ntmps75
  go_wp2_with (at_builtin; refine Lib.wpList_append_run _ rfl _ _ _ _ rfl _ _ rfl rfl _ _ ha' ?_)
  all_goals (go_ret; exact ⟨_, rfl, O9.out, B9.out⟩)

set_option maxRecDepth 100000 in
set_option maxHeartbeats 4000000 in
set_option maxRecDepth 100000 in
set_option maxHeartbeats 4000000 in
/-- slices.Insert, no room: a new row. -/
theorem insG_walk (g i n vb : Nat) (w : World) (hi : i < n) (hn : n ≤ 1000) (W1 W2 W3 : World) (H G : Nat)
   (hrz : ∀ ty, (Builtin.append_ #[27, 3] ty #[.slice (some ⟨g, 0, none⟩) i n, .int .i64 ((n : Int) + 1 - (i : Int))]).run Try.prog w = .ok (.slice (some ⟨H, 0, none⟩) (n + 1) G) W1) (hG : n + 1 ≤ G) (hG2 : G ≤ 9223372036854775807)
   (hcA : (Builtin.copy_ #[27, 27] 3 #[.slice (some ⟨H, i * 2, none⟩) (n + 1 - i) (G - i), .slice (some ⟨vb, 0, none⟩) 1 1]).run Try.prog W1 = .ok (.int .i64 1) W2)
   (hcB : (Builtin.copy_ #[27, 27] 3 #[.slice (some ⟨H, (i + 1) * 2, none⟩) (n - i) (G - (i + 1)), .slice (some ⟨g, i * 2, none⟩) (n - i) (n - i)]).run Try.prog W2.drew = .ok (.int .i64 ((n - i : Nat) : Int)) W3) :
    Calls Try.prog 75 #[.slice (some ⟨g, 0, none⟩) n n, .int .i64 i, .slice (some ⟨vb, 0, none⟩) 1 1] w fun e w' => e = .returned (.slice (some ⟨H, 0, none⟩) (n + 1) G) ∧ w' = W3 := by
  have hz2 : ¬ ((i : Int) = (n : Int)) := by omega
  have hz2' : ((i : Int) == (n : Int)) = false := by simpa using hz2
  have hz3 : (n : Int) < (n : Int) + 1 := by omega
  have hin : i ≤ n := by omega
  have ha' := hrz 27
  have hw1 : IntKind.i64.wrap ((i : Int) + 1) = (i : Int) + 1 := by rw [IntKind.wrap_i64]; omega
  have hb1 : (0 : Int) ≤ (i : Int) + 1 := by omega
  have htn : ((i : Int) + 1).toNat = i + 1 := by omega
  have hb3 : (i : Int) ≤ (n : Int) := by omega
  have hGi : ¬ (G = i + 1) := by omega
  have hni : ¬ (n = i) := by omega
  go_enter Try.func75, Try.ntmps75
  go_wp2_with (first | (at_builtin; refine Lib.wpList_append_run _ rfl _ _ _ _ rfl _ _ rfl rfl _ _ ha' ?_) | fail)
  refine wp_region_held_drew (S := fun W => True) (by kernel_rfl) ?_ (fun hHeld => ?_)
  · exact trivial
  refine wpAnyH_take (i := 0) (oi := _) (v := ?_) rfl (by kernel_rfl) (by kernel_rfl) (by kernel_rfl) (fun _ _ _ h => h) (Or.inl ⟨by rfl, ?_⟩) (by assumption) ?_
  rotate_left
  · first | (intro w hSw; (try dsimp only at hSw); go_simp; done) | (intro w hSw; (try dsimp only at hSw); go_simp; with_reducible rfl)
  try simp only [Act.put, List.setIfInBounds_toArray, List.set_cons_zero, List.set_cons_succ, List.getElem_toArray, List.getElem_cons_zero]
  refine wpAnyH_take (i := 1) (oi := _) (v := ?_) rfl (by kernel_rfl) (by kernel_rfl) (by kernel_rfl) (fun _ _ _ h => h) (Or.inl ⟨by rfl, ?_⟩) (by assumption) ?_
  rotate_left
  · first | (intro w hSw; (try dsimp only at hSw); go_simp; done) | (intro w hSw; (try dsimp only at hSw); go_simp; with_reducible rfl)
  try simp only [Act.put, List.setIfInBounds_toArray, List.set_cons_zero, List.set_cons_succ, List.getElem_toArray, List.getElem_cons_succ, List.getElem_cons_zero]
  refine wpAnyH_take (i := 2) (oi := _) (v := ?_) rfl (by kernel_rfl) (by kernel_rfl) (by kernel_rfl) (fun _ _ _ h => h) (Or.inl ⟨by rfl, ?_⟩) (by assumption) ?_
  rotate_left
  · first | (intro w hSw; (try dsimp only at hSw); go_simp; done) | (intro w hSw; (try dsimp only at hSw); go_simp; with_reducible rfl)
  try simp only [Act.put, List.setIfInBounds_toArray, List.set_cons_zero, List.set_cons_succ, List.getElem_toArray, List.getElem_cons_succ, List.getElem_cons_zero]
  refine wpAnyH_take (i := 3) (oi := _) (v := ?_) rfl (by kernel_rfl) (by kernel_rfl) (by kernel_rfl) (fun _ _ _ h => h) (Or.inl ⟨by rfl, ?_⟩) (by assumption) ?_
  rotate_left
  · first | (intro w hSw; (try dsimp only at hSw); go_simp; done) | (intro w hSw; (try dsimp only at hSw); go_simp; with_reducible rfl)
  try simp only [Act.put, List.setIfInBounds_toArray, List.set_cons_zero, List.set_cons_succ, List.getElem_toArray, List.getElem_cons_succ, List.getElem_cons_zero]
  refine wpAnyH_take (i := 4) (oi := _) (v := ?_) rfl (by kernel_rfl) (by kernel_rfl) (by kernel_rfl) (fun _ _ _ h => h) (Or.inl ⟨by rfl, ?_⟩) (by assumption) ?_
  rotate_left
  · first | (intro w hSw; (try dsimp only at hSw); go_simp; done) | (intro w hSw; (try dsimp only at hSw); go_simp; with_reducible rfl)
  try simp only [Act.put, List.setIfInBounds_toArray, List.set_cons_zero, List.set_cons_succ, List.getElem_toArray, List.getElem_cons_succ, List.getElem_cons_zero]
  refine wpAnyH_take (i := 5) (oi := _) (v := ?_) rfl (by kernel_rfl) (by kernel_rfl) (by kernel_rfl) (fun _ _ _ h => h) (Or.inl ⟨by rfl, ?_⟩) (by assumption) ?_
  rotate_left
  · first | (intro w hSw; (try dsimp only at hSw); go_simp; done) | (intro w hSw; (try dsimp only at hSw); go_simp; with_reducible rfl)
  try simp only [Act.put, List.setIfInBounds_toArray, List.set_cons_zero, List.set_cons_succ, List.getElem_toArray, List.getElem_cons_succ, List.getElem_cons_zero]
  refine wpAnyH_take (i := 6) (oi := _) (v := ?_) rfl (by kernel_rfl) (by kernel_rfl) (by kernel_rfl) (fun _ _ _ h => h) (Or.inl ⟨by rfl, ?_⟩) (by assumption) ?_
  rotate_left
  · first | (intro w hSw; (try dsimp only at hSw); go_simp; done) | (intro w hSw; (try dsimp only at hSw); go_simp; with_reducible rfl)
  try simp only [Act.put, List.setIfInBounds_toArray, List.set_cons_zero, List.set_cons_succ, List.getElem_toArray, List.getElem_cons_succ, List.getElem_cons_zero]
  refine wpAnyH_take (i := 7) (oi := _) (v := ?_) rfl (by kernel_rfl) (by kernel_rfl) (by kernel_rfl) (fun _ _ _ h => h) (Or.inl ⟨by rfl, ?_⟩) (by assumption) ?_
  rotate_left
  · first | (intro w hSw; (try dsimp only at hSw); go_simp; done) | (intro w hSw; (try dsimp only at hSw); go_simp; with_reducible rfl)
  try simp only [Act.put, List.setIfInBounds_toArray, List.set_cons_zero, List.set_cons_succ, List.getElem_toArray, List.getElem_cons_succ, List.getElem_cons_zero]
  refine wpAnyH_ready (rs := [8]) (by kernel_rfl) (by simp) ?_
  refine AllReadyH.cons rfl (fun K hK => ?_) AllReadyH.nil
  go_simp
  refine hK.out _ _ ?_ (fun hHeld => ?_)
  · exact trivial
  clear hK K
  refine wpAnyH_done (by kernel_rfl) ?_ _
  go_wp2
  go_ret
  exact ⟨rfl, rfl⟩

set_option maxRecDepth 100000 in
set_option maxHeartbeats 4000000 in
/-- slices.Insert, with room: in place. -/
theorem insS_walk (g i n c vb : Nat) (w : World) (hi : i < n) (hn : n ≤ 1000) (hc : n + 1 ≤ c) (hc2 : c ≤ 9223372036854775807) (W1 W2 : World)
   (hov : ∀ lb cb, (callFunc 126 #[.slice (some ⟨vb, 0, none⟩) 1 1, .slice (some ⟨g, (i + 1) * 2, none⟩) lb cb]).run Try.prog w = .ok (.value (.bool false)) w)
   (hcA : (Builtin.copy_ #[27, 27] 3 #[.slice (some ⟨g, (i + 1) * 2, none⟩) (n - i) (c - (i + 1)), .slice (some ⟨g, i * 2, none⟩) (n + 1 - i) (c - i)]).run Try.prog w.drew = .ok (.int .i64 ((n - i : Nat) : Int)) W1)
   (hcB : (Builtin.copy_ #[27, 27] 3 #[.slice (some ⟨g, i * 2, none⟩) (n + 1 - i) (c - i), .slice (some ⟨vb, 0, none⟩) 1 1]).run Try.prog W1 = .ok (.int .i64 1) W2) :
    Calls Try.prog 75 #[.slice (some ⟨g, 0, none⟩) n c, .int .i64 i, .slice (some ⟨vb, 0, none⟩) 1 1] w fun e w' => e = .returned (.slice (some ⟨g, 0, none⟩) (n + 1) c) ∧ w' = W2 := by
  have hz2 : ¬ ((i : Int) = (n : Int)) := by omega
  have hz2' : ((i : Int) == (n : Int)) = false := by simpa using hz2
  have hz3 : ¬ (c : Int) < (n : Int) + 1 := by omega
  have hin : i ≤ n := by omega
  have hw1 : IntKind.i64.wrap ((i : Int) + 1) = (i : Int) + 1 := by rw [IntKind.wrap_i64]; omega
  have hb1 : (0 : Int) ≤ (i : Int) + 1 := by omega
  have htn : ((i : Int) + 1).toNat = i + 1 := by omega
  have hb3 : (i : Int) ≤ (n : Int) := by omega
  have hb4 : (i : Int) ≤ (n : Int) + 1 := by omega
  have hGi : ¬ (c = i + 1) := by omega
  have hni : ¬ (c = i) := by omega
  go_enter Try.func75, Try.ntmps75
  go_wp2_with (simp only [hov])
  refine wp_region_held_drew (S := fun W => True) (by kernel_rfl) ?_ (fun hHeld => ?_)
  · exact trivial
  refine wpAnyH_take (i := 0) (oi := _) (v := ?_) rfl (by kernel_rfl) (by kernel_rfl) (by kernel_rfl) (fun _ _ _ h => h) (Or.inl ⟨by rfl, ?_⟩) (by assumption) ?_
  rotate_left
  · first | (intro w hSw; (try dsimp only at hSw); go_simp; done) | (intro w hSw; (try dsimp only at hSw); go_simp; with_reducible rfl)
  try simp only [Act.put, List.setIfInBounds_toArray, List.set_cons_zero, List.set_cons_succ, List.getElem_toArray, List.getElem_cons_zero]
  refine wpAnyH_take (i := 1) (oi := _) (v := ?_) rfl (by kernel_rfl) (by kernel_rfl) (by kernel_rfl) (fun _ _ _ h => h) (Or.inl ⟨by rfl, ?_⟩) (by assumption) ?_
  rotate_left
  · first | (intro w hSw; (try dsimp only at hSw); go_simp; done) | (intro w hSw; (try dsimp only at hSw); go_simp; with_reducible rfl)
  try simp only [Act.put, List.setIfInBounds_toArray, List.set_cons_zero, List.set_cons_succ, List.getElem_toArray, List.getElem_cons_succ, List.getElem_cons_zero]
  refine wpAnyH_take (i := 2) (oi := _) (v := ?_) rfl (by kernel_rfl) (by kernel_rfl) (by kernel_rfl) (fun _ _ _ h => h) (Or.inl ⟨by rfl, ?_⟩) (by assumption) ?_
  rotate_left
  · first | (intro w hSw; (try dsimp only at hSw); go_simp; done) | (intro w hSw; (try dsimp only at hSw); go_simp; with_reducible rfl)
  try simp only [Act.put, List.setIfInBounds_toArray, List.set_cons_zero, List.set_cons_succ, List.getElem_toArray, List.getElem_cons_succ, List.getElem_cons_zero]
  refine wpAnyH_take (i := 3) (oi := _) (v := ?_) rfl (by kernel_rfl) (by kernel_rfl) (by kernel_rfl) (fun _ _ _ h => h) (Or.inl ⟨by rfl, ?_⟩) (by assumption) ?_
  rotate_left
  · first | (intro w hSw; (try dsimp only at hSw); go_simp; done) | (intro w hSw; (try dsimp only at hSw); go_simp; with_reducible rfl)
  try simp only [Act.put, List.setIfInBounds_toArray, List.set_cons_zero, List.set_cons_succ, List.getElem_toArray, List.getElem_cons_succ, List.getElem_cons_zero]
  refine wpAnyH_take (i := 4) (oi := _) (v := ?_) rfl (by kernel_rfl) (by kernel_rfl) (by kernel_rfl) (fun _ _ _ h => h) (Or.inl ⟨by rfl, ?_⟩) (by assumption) ?_
  rotate_left
  · first | (intro w hSw; (try dsimp only at hSw); go_simp; done) | (intro w hSw; (try dsimp only at hSw); go_simp; with_reducible rfl)
  try simp only [Act.put, List.setIfInBounds_toArray, List.set_cons_zero, List.set_cons_succ, List.getElem_toArray, List.getElem_cons_succ, List.getElem_cons_zero]
  refine wpAnyH_take (i := 5) (oi := _) (v := ?_) rfl (by kernel_rfl) (by kernel_rfl) (by kernel_rfl) (fun _ _ _ h => h) (Or.inl ⟨by rfl, ?_⟩) (by assumption) ?_
  rotate_left
  · first | (intro w hSw; (try dsimp only at hSw); go_simp; done) | (intro w hSw; (try dsimp only at hSw); go_simp; with_reducible rfl)
  try simp only [Act.put, List.setIfInBounds_toArray, List.set_cons_zero, List.set_cons_succ, List.getElem_toArray, List.getElem_cons_succ, List.getElem_cons_zero]
  refine wpAnyH_take (i := 6) (oi := _) (v := ?_) rfl (by kernel_rfl) (by kernel_rfl) (by kernel_rfl) (fun _ _ _ h => h) (Or.inl ⟨by rfl, ?_⟩) (by assumption) ?_
  rotate_left
  · first | (intro w hSw; (try dsimp only at hSw); go_simp; done) | (intro w hSw; (try dsimp only at hSw); go_simp; with_reducible rfl)
  try simp only [Act.put, List.setIfInBounds_toArray, List.set_cons_zero, List.set_cons_succ, List.getElem_toArray, List.getElem_cons_succ, List.getElem_cons_zero]
  refine wpAnyH_take (i := 7) (oi := _) (v := ?_) rfl (by kernel_rfl) (by kernel_rfl) (by kernel_rfl) (fun _ _ _ h => h) (Or.inl ⟨by rfl, ?_⟩) (by assumption) ?_
  rotate_left
  · first | (intro w hSw; (try dsimp only at hSw); go_simp; done) | (intro w hSw; (try dsimp only at hSw); go_simp; with_reducible rfl)
  try simp only [Act.put, List.setIfInBounds_toArray, List.set_cons_zero, List.set_cons_succ, List.getElem_toArray, List.getElem_cons_succ, List.getElem_cons_zero]
  refine wpAnyH_ready (rs := [8]) (by kernel_rfl) (by simp) ?_
  refine AllReadyH.cons rfl (fun K hK => ?_) AllReadyH.nil
  go_simp
  refine hK.out _ _ ?_ (fun hHeld => ?_)
  · exact trivial
  clear hK K
  refine wpAnyH_done (by kernel_rfl) ?_ _
  go_wp2
  go_ret
  exact ⟨rfl, rfl⟩

end Go.Proofs.Ytdmfljejlhlbnaa
namespace Go.Proofs.Ytdmfljejlhlbnaa
open Go.RowKit
set_option linter.unusedVariables false

theorem en_ins (pl : List LPl) (i : Nat) (x y : Int) (hi : i ≤ pl.length) : enCells (pl.take i ++ (x, y) :: pl.drop i) = (enCells pl).take (i * 2) ++ [.int .i64 x, .int .i64 y] ++ (enCells pl).drop (i * 2) := by
  have e : enCells pl = enCells (pl.take i) ++ enCells (pl.drop i) := by rw [← enCells_app, List.take_append_drop]
  have hl : (enCells (pl.take i)).length = i * 2 := by rw [enCells_len, List.length_take, Nat.min_eq_left hi]
  rw [show pl.take i ++ (x, y) :: pl.drop i = pl.take i ++ ([(x, y)] ++ pl.drop i) by simp, enCells_app, enCells_app, e, ← hl, List.take_left, List.drop_left]
  simp [enCells, encE]
/-- A row whose cells are those of a list with one more. -/
theorem row_ins {cs : List Value} {i n : Nat} {x y : Value} {us : Array Value} (hl : cs.length = n * 2) (hi : i ≤ n) (hs : (n + 1) * 2 ≤ us.size)
    (h1 : ∀ k, k < i * 2 → us[k]? = cs[k]?) (h2 : us[i * 2]? = some x) (h3 : us[i * 2 + 1]? = some y) (h4 : ∀ k, k < n * 2 - i * 2 → us[(i + 1) * 2 + k]? = cs[i * 2 + k]?) :
    us.toList.take ((n + 1) * 2) = cs.take (i * 2) ++ [x, y] ++ cs.drop (i * 2) := by
  apply List.ext_getElem?
  intro k
  have hA : (cs.take (i * 2)).length = i * 2 := by rw [List.length_take]; omega
  by_cases k1 : k < i * 2
  · rw [List.getElem?_take_of_lt (by omega), List.append_assoc, List.getElem?_append_left (by omega), List.getElem?_take_of_lt k1]
    simpa using h1 k k1
  · rw [List.append_assoc, List.getElem?_append_right (by omega), hA]
    by_cases k2 : k = i * 2
    · subst k2
      rw [List.getElem?_take_of_lt (by omega)]
      simpa using h2
    · by_cases k3 : k = i * 2 + 1
      · subst k3
        rw [List.getElem?_take_of_lt (by omega), show i * 2 + 1 - i * 2 = 1 by omega]
        simpa using h3
      · rw [List.getElem?_append_right (by simp; omega)]
        simp only [List.length_cons, List.length_nil]
        rw [List.getElem?_drop, show i * 2 + (k - i * 2 - (0 + 1 + 1)) = k - 2 by omega]
        by_cases k4 : k < (n + 1) * 2
        · rw [List.getElem?_take_of_lt k4]
          have := h4 (k - (i + 1) * 2) (by omega)
          rw [show (i + 1) * 2 + (k - (i + 1) * 2) = k by omega, show i * 2 + (k - (i + 1) * 2) = k - 2 by omega] at this
          simpa using this
        · rw [List.getElem?_eq_none (by rw [List.length_take]; omega), List.getElem?_eq_none (by omega)]

theorem cell_row {W : World} {g : Nat} {us : Array Value} {t : TypeId} (h : W.heap[g]? = some (.cells us t)) (k : Nat) : W.cell? ⟨g, k, none⟩ = us[k]? := by simp [World.cell?, h]
theorem froz_row {W : World} {g : Nat} {us : Array Value} {t : TypeId} (h : W.heap[g]? = some (.cells us t)) (k : Nat) : W.frozen? ⟨g, k, none⟩ = false := by simp [World.frozen?, h]

set_option maxHeartbeats 2000000 in
/-- slices.Insert of one place. -/
theorem ins_any (B i vb : Nat) (x y : Int) (v : Value) (pl : List LPl) (w : World) (h : w.ownsRow B 34 2 v pl.length (enCells pl)) (hB : B ≤ w.heap.size) (hi : i ≤ pl.length) (hv : w.heap[vb]? = some (.cells #[.int .i64 x, .int .i64 y] 34)) (hne : v.ownBlock ≠ some vb) (hn : pl.length ≤ 1000) :
    Calls Try.prog 75 #[v, .int .i64 i, .slice (some ⟨vb, 0, none⟩) 1 1] w fun e w' => ∃ v', e = .returned v' ∧ w'.ownsRow B 34 2 v' (pl.length + 1) (enCells (pl.take i ++ (x, y) :: pl.drop i)) ∧ Below B w w' := by
  by_cases he : i = pl.length
  · subst he
    rw [List.take_length, List.drop_length]
    exact insE_any B vb x y v pl w h hB hv hn
  have hin : i < pl.length := by omega
  have h0 := h
  rcases h.2 with ⟨_, h0⟩ | ⟨g, c, cur, rfl, hbg, hg, hnc, hmx, hcur, hx⟩
  · omega
  have hgl := (Array.getElem?_eq_some_iff.1 hg).1
  have hvl := (Array.getElem?_eq_some_iff.1 hv).1
  have hgv : g ≠ vb := fun e => hne (by rw [← e]; rfl)
  have hcl := enCells_len pl
  have hcs : ∀ j v, (enCells pl)[j]? = some v → w.cell? ⟨g, j, none⟩ = some v := fun j v hj => by
    have := h0.cells (by rfl) j v hj
    rwa [at_add, Nat.zero_add] at this
  have hcu : ∀ k, k < pl.length * 2 → cur[k]? = (enCells pl)[k]? := fun k hk => by
    rw [← hx, List.getElem?_take_of_lt hk]; simp
  have hvs : ∀ j u, ([.int .i64 x, .int .i64 y] : List Value)[j]? = some u → w.cell? ((⟨vb, 0, none⟩ : Addr).add j) = some u := fun j u hj => by
    rw [at_add, Nat.zero_add]
    match j, hj with
    | 0, hj => simp at hj; subst hj; simp [World.cell?, hv]
    | 1, hj => simp at hj; subst hj; simp [World.cell?, hv]
  have hone : ∀ u ∈ (enCells pl).drop (i * 2), u.oneCell' = true := fun u hu => enCells_one pl u (List.mem_of_mem_drop hu)
  have hone2 : ∀ u ∈ ([.int .i64 x, .int .i64 y] : List Value), u.oneCell' = true := fun u hu => by
    simp at hu; rcases hu with rfl | rfl <;> rfl
  have hdl : ((enCells pl).drop (i * 2)).length = (pl.length - i) * 2 := by rw [List.length_drop, hcl]; omega
  unfold maxLen at hmx
  by_cases hroom : pl.length + 1 ≤ c
  · -- in place
    obtain ⟨us1, a1, a2, a3, a4, a5, a6, a7, a8, a9, a10⟩ := row_set g 34 ((enCells pl).drop (i * 2)) ((i + 1) * 2) w.drew cur hg (by rw [hdl, hcur]; omega)
    obtain ⟨us2, b1, b2, b3, b4, b5, b6, b7, b8, b9, b10⟩ := row_set g 34 [.int .i64 x, .int .i64 y] (i * 2) (w.drew.setCells g ((i + 1) * 2) ((enCells pl).drop (i * 2))) us1 a1 (by rw [a2, hcur]; simp; omega)
    have hv1 : (w.drew.setCells g ((i + 1) * 2) ((enCells pl).drop (i * 2))).heap[vb]? = some (.cells #[.int .i64 x, .int .i64 y] 34) := (a6 vb (fun e => hgv e.symm)).trans hv
    have WK := insS_walk g i pl.length c vb w hin hn hroom (by omega) _ _
      (fun lb cb => by
        rw [run_callFunc_extern (P := Try.prog) Try.func126 (by kernel_rfl) (by kernel_rfl) (by kernel_rfl) (e := Extern.SlicesOverlaps.overlaps #[27, 27] #[4]) (by kernel_rfl),
          Lib.run_overlaps_apart w 27 4 34 Try.underlying27 2 Try.sizeOf34 ⟨vb, 0, none⟩ ⟨g, (i + 1) * 2, none⟩ 1 1 lb cb (fun e => hgv e.symm) 34 34 2 (c * 2) (by simp [World.shape?, hv]) (by simp [World.shape?, hg, hcur]) (by omega) (by simp [World.frozen?, hv]) (by simp [World.frozen?, hv])]
        rfl)
      (by
        have := run_copy2 w.drew 3 g ((i + 1) * 2) (pl.length - i) (c - (i + 1)) ⟨g, i * 2, none⟩ (pl.length + 1 - i) (c - i) ((enCells pl).drop (i * 2)) (by rw [hdl]; simp only [Nat.min_def]; split <;> omega)
          (fun j u hj => by rw [at_add]; exact hcs _ u (by rwa [List.getElem?_drop] at hj))
          (fun j hj => by
            have : (w.drew.cell? ⟨g, (i + 1) * 2 + j, none⟩) = cur[(i + 1) * 2 + j]? := by show w.cell? _ = _; simp [World.cell?, hg]
            rw [this, Array.getElem?_eq_getElem (by omega)]; rfl)
          (fun j hj => by show w.frozen? _ = false; simp [World.frozen?, hg]) hone
        rw [show Nat.min (pl.length + 1 - i) (pl.length - i) = pl.length - i by simp only [Nat.min_def]; split <;> omega] at this
        exact this)
      (by
        have := run_copy2 (w.drew.setCells g ((i + 1) * 2) ((enCells pl).drop (i * 2))) 3 g (i * 2) (pl.length + 1 - i) (c - i) ⟨vb, 0, none⟩ 1 1 [.int .i64 x, .int .i64 y] (by simp only [Nat.min_def, List.length_cons, List.length_nil]; split <;> omega)
          (fun j u hj => by rw [World.cell?_of_block (show (w.drew.setCells g ((i + 1) * 2) ((enCells pl).drop (i * 2))).heap[((⟨vb, 0, none⟩ : Addr).add j).block]? = w.heap[((⟨vb, 0, none⟩ : Addr).add j).block]? by rw [at_add]; exact (a6 vb (fun e => hgv e.symm)))]; exact hvs j u hj)
          (fun j hj => by
            simp only [List.length_cons, List.length_nil] at hj
            have : ((w.drew.setCells g ((i + 1) * 2) ((enCells pl).drop (i * 2))).cell? ⟨g, i * 2 + j, none⟩) = us1[i * 2 + j]? := by simp [World.cell?, a1]
            rw [this, Array.getElem?_eq_getElem (by omega)]; rfl)
          (fun j hj => by simp [World.frozen?, a1]) hone2
        rw [show Nat.min 1 (pl.length + 1 - i) = 1 by simp only [Nat.min_def]; split <;> omega] at this
        exact this)
    refine WK.mono ?_
    rintro e w' ⟨rfl, rfl⟩
    refine ⟨_, rfl, ⟨?_, .inr ⟨g, c, us2, rfl, hbg, b1, hroom, by unfold maxLen; omega, by rw [b2, a2, hcur], ?_⟩⟩, ?_⟩
    · rw [enCells_len]; simp; omega
    · rw [en_ins pl i x y hi]
      refine row_ins (n := pl.length) hcl hi (by rw [b2, a2, hcur]; omega) (fun k hk => ?_) ?_ ?_ (fun k hk => ?_)
      · rw [b3 k hk, a3 k (by omega), hcu k (by omega)]
      · have := b4 0 (by simp); simpa using this
      · have := b4 1 (by simp); simpa using this
      · rw [b5 _ (by simp; omega), a4 k (by rw [hdl]; omega), List.getElem?_drop]
    · exact ⟨by rw [b8, a8]; rfl, by rw [b9, a9]; rfl, by rw [b10, a10]; rfl, by rw [b7, a7]; exact Nat.le_refl _, fun k hk => by rw [b6 k (by omega), a6 k (by omega)]; rfl⟩
  · -- a new row
    obtain rfl : c = pl.length := by omega
    obtain ⟨i3, hi3, hd0, hd1, hd2⟩ := info_parts info34
    have hold : (Builtin.firstCells i3.size i (.slice (some ⟨g, 0, none⟩) i pl.length)).run Try.prog w.drew = .ok ((enCells pl).take (i * 2)).toArray w.drew := by
      rw [hd1]
      exact run_firstCells_some w.drew 2 i ⟨g, 0, none⟩ i pl.length ((enCells pl).take (i * 2)) (by rw [List.length_take]; omega) (fun j u hj => by
        rw [at_add, Nat.zero_add]
        rw [List.getElem?_take] at hj
        split at hj
        · exact hcs j u hj
        · cases hj)
    have hik : i + (pl.length + 1 - i) = pl.length + 1 := by omega
    have hkk : (pl.length : Int) + 1 - (i : Int) = ((pl.length + 1 - i : Nat) : Int) := by omega
    have hG := grownCap_ge w (pl.length + 1) pl.length 34
    have hM := grownCap_le_maxLen w (pl.length + 1) pl.length 34 (by unfold maxLen; omega)
    unfold maxLen at hM
    have hrz : ∀ ty, (Builtin.append_ #[27, 3] ty #[.slice (some ⟨g, 0, none⟩) i pl.length, .int .i64 ((pl.length : Int) + 1 - (i : Int))]).run Try.prog w = .ok (.slice (some ⟨w.heap.size, 0, none⟩) (pl.length + 1) (grownCap w (pl.length + 1) pl.length 34)) (w.drew.alloc (.cells (((enCells pl).take (i * 2)).toArray ++ Builtin.zeroCells (Value.agg #[.int .i64 0, .int .i64 0]).cells (pl.length + 1 - i) ++ Builtin.zeroCells (Value.agg #[.int .i64 0, .int .i64 0]).cells (grownCap w (pl.length + 1) pl.length 34 - (pl.length + 1))) 34)) := fun ty => by
      have h := Lib.run_append_grow_zeros (P := Try.prog) w 27 3 ty 34 i3 _ .i64 .i64 Try.underlying27 Try.underlying3 hi3 hd0 (some ⟨g, 0, none⟩) i pl.length ((enCells pl).take (i * 2)) hold (pl.length + 1 - i) (by omega) (by omega) (by omega) (by omega) (by rw [hd2]; omega) (by rw [hd2, hik]; exact growslice_fits (by omega) (by omega))
      rw [hik] at h
      rw [hkk]
      exact h
    generalize grownCap w (pl.length + 1) pl.length 34 = G at *
    obtain ⟨ROW, hROW⟩ : ∃ ROW : Array Value, ROW = ((enCells pl).take (i * 2)).toArray ++ Builtin.zeroCells (Value.agg #[.int .i64 0, .int .i64 0]).cells (pl.length + 1 - i) ++ Builtin.zeroCells (Value.agg #[.int .i64 0, .int .i64 0]).cells (G - (pl.length + 1)) := ⟨_, rfl⟩
    rw [← hROW] at hrz
    have hRs : ROW.size = G * 2 := by
      rw [hROW]
      simp only [Array.size_append, size_zeroCells, List.size_toArray, List.length_take, hcl]
      rw [show (Value.agg #[.int .i64 0, .int .i64 0]).cells.size = 2 from rfl]
      omega
    have hR1 : ∀ k, k < i * 2 → ROW[k]? = (enCells pl)[k]? := fun k hk => by
      rw [hROW, Array.append_assoc, Array.getElem?_append_left (by simp; omega)]
      simp [hk]
    have hnw : (w.drew.alloc (.cells ROW 34)).heap[w.heap.size]? = some (.cells ROW 34) := new_at w.drew _
    have hwo : ∀ k, k < w.heap.size → (w.drew.alloc (.cells ROW 34)).heap[k]? = w.heap[k]? := fun k hk => Below.heap_alloc w.drew _ k hk
    obtain ⟨us1, a1, a2, a3, a4, a5, a6, a7, a8, a9, a10⟩ := row_set w.heap.size 34 [.int .i64 x, .int .i64 y] (i * 2) (w.drew.alloc (.cells ROW 34)) ROW hnw (by rw [hRs]; simp; omega)
    obtain ⟨us2, b1, b2, b3, b4, b5, b6, b7, b8, b9, b10⟩ := row_set w.heap.size 34 ((enCells pl).drop (i * 2)) ((i + 1) * 2) ((w.drew.alloc (.cells ROW 34)).setCells w.heap.size (i * 2) [.int .i64 x, .int .i64 y]).drew us1 a1 (by rw [a2, hRs, hdl]; omega)
    have WK := insG_walk g i pl.length vb w hin hn (w.drew.alloc (.cells ROW 34)) ((w.drew.alloc (.cells ROW 34)).setCells w.heap.size (i * 2) [.int .i64 x, .int .i64 y]) (((w.drew.alloc (.cells ROW 34)).setCells w.heap.size (i * 2) [.int .i64 x, .int .i64 y]).drew.setCells w.heap.size ((i + 1) * 2) ((enCells pl).drop (i * 2))) w.heap.size G hrz hG hM
      (by
        have := run_copy2 (w.drew.alloc (.cells ROW 34)) 3 w.heap.size (i * 2) (pl.length + 1 - i) (G - i) ⟨vb, 0, none⟩ 1 1 [.int .i64 x, .int .i64 y] (by simp only [Nat.min_def, List.length_cons, List.length_nil]; split <;> omega)
          (fun j u hj => by rw [World.cell?_of_block (show (w.drew.alloc (.cells ROW 34)).heap[((⟨vb, 0, none⟩ : Addr).add j).block]? = w.heap[((⟨vb, 0, none⟩ : Addr).add j).block]? by rw [at_add]; exact hwo vb hvl)]; exact hvs j u hj)
          (fun j hj => by
            simp only [List.length_cons, List.length_nil] at hj
            have : ((w.drew.alloc (.cells ROW 34)).cell? ⟨w.heap.size, i * 2 + j, none⟩) = ROW[i * 2 + j]? := cell_row hnw _
            rw [this, Array.getElem?_eq_getElem (by omega)]; rfl)
          (fun j hj => froz_row hnw _) hone2
        rw [show Nat.min 1 (pl.length + 1 - i) = 1 by simp only [Nat.min_def]; split <;> omega] at this
        exact this)
      (by
        have := run_copy2 ((w.drew.alloc (.cells ROW 34)).setCells w.heap.size (i * 2) [.int .i64 x, .int .i64 y]).drew 3 w.heap.size ((i + 1) * 2) (pl.length - i) (G - (i + 1)) ⟨g, i * 2, none⟩ (pl.length - i) (pl.length - i) ((enCells pl).drop (i * 2)) (by rw [hdl]; simp only [Nat.min_def]; split <;> omega)
          (fun j u hj => by
            rw [at_add, World.cell?_of_block (show ((w.drew.alloc (.cells ROW 34)).setCells w.heap.size (i * 2) [.int .i64 x, .int .i64 y]).drew.heap[(⟨g, i * 2 + j, none⟩ : Addr).block]? = w.heap[(⟨g, i * 2 + j, none⟩ : Addr).block]? by exact (a6 g (by omega)).trans (hwo g hgl))]
            exact hcs _ u (by rwa [List.getElem?_drop] at hj))
          (fun j hj => by
            have : (((w.drew.alloc (.cells ROW 34)).setCells w.heap.size (i * 2) [.int .i64 x, .int .i64 y]).drew.cell? ⟨w.heap.size, (i + 1) * 2 + j, none⟩) = us1[(i + 1) * 2 + j]? := cell_row (W := (w.drew.alloc (.cells ROW 34)).setCells w.heap.size (i * 2) [.int .i64 x, .int .i64 y]) a1 _
            rw [this, Array.getElem?_eq_getElem (by omega)]; rfl)
          (fun j hj => froz_row (W := (w.drew.alloc (.cells ROW 34)).setCells w.heap.size (i * 2) [.int .i64 x, .int .i64 y]) a1 _) hone
        rw [show Nat.min (pl.length - i) (pl.length - i) = pl.length - i from Nat.min_self _] at this
        exact this)
    refine WK.mono ?_
    rintro e w' ⟨rfl, rfl⟩
    refine ⟨_, rfl, ⟨?_, .inr ⟨w.heap.size, G, us2, rfl, hB, b1, hG, by unfold maxLen; omega, by rw [b2, a2, hRs], ?_⟩⟩, ?_⟩
    · rw [enCells_len]; simp; omega
    · rw [en_ins pl i x y hi]
      refine row_ins (n := pl.length) hcl hi (by rw [b2, a2, hRs]; omega) (fun k hk => ?_) ?_ ?_ (fun k hk => ?_)
      · rw [b3 k (by omega), a3 k hk, hR1 k hk]
      · rw [b3 _ (by omega)]; have := a4 0 (by simp); simpa using this
      · rw [b3 _ (by omega)]; have := a4 1 (by simp); simpa using this
      · rw [b4 k (by rw [hdl]; omega), List.getElem?_drop]
    · exact ⟨by rw [b8]; exact a8, by rw [b9]; exact a9, by rw [b10]; exact a10, by rw [b7]; show w.heap.size ≤ ((w.drew.alloc (.cells ROW 34)).setCells w.heap.size (i * 2) [.int .i64 x, .int .i64 y]).heap.size; rw [a7]; simp, fun k hk => by rw [b6 k (by omega)]; exact (a6 k (by omega)).trans (hwo k (by omega))⟩

end Go.Proofs.Ytdmfljejlhlbnaa
namespace Go.Proofs.Ytdmfljejlhlbnaa
open Go.RowKit
set_option linter.unusedVariables false

/-- A place put ahead of the first one of a greater Id. -/
def withL : List LPl → LPl → List LPl
  | [], x => [x]
  | p :: r, x => if x.1 < p.1 then x :: p :: r else p :: withL r x
theorem withL_perm : ∀ (pl : List LPl) (x : LPl), (withL pl x).Perm (x :: pl)
  | [], x => List.Perm.refl _
  | p :: r, x => by
    unfold withL
    split
    · exact List.Perm.refl _
    · exact (List.Perm.cons p (withL_perm r x)).trans (List.Perm.swap x p r)
theorem withL_len (pl : List LPl) (x : LPl) : (withL pl x).length = pl.length + 1 := by simpa using (withL_perm pl x).length_eq
theorem withL_mem {pl : List LPl} {x y : LPl} : y ∈ withL pl x ↔ y = x ∨ y ∈ pl := by rw [(withL_perm pl x).mem_iff, List.mem_cons]
theorem withL_cut : ∀ (pl : List LPl) (x : LPl) (i : Nat), i ≤ pl.length → (∀ p ∈ pl.take i, ¬ x.1 < p.1) → (∀ p ∈ pl.drop i, x.1 < p.1) → withL pl x = pl.take i ++ x :: pl.drop i
  | [], x, i, h, _, _ => by simp [withL]
  | p :: r, x, 0, _, _, h2 => by
    have := h2 p (by simp)
    simp [withL, this]
  | p :: r, x, i + 1, h, h1, h2 => by
    have := h1 p (by simp)
    simp only [withL, if_neg this, List.take_succ_cons, List.drop_succ_cons, List.cons_append]
    rw [withL_cut r x i (by simpa using h) (fun q hq => h1 q (by simp [hq])) (fun q hq => h2 q (by simpa using hq))]

theorem sub_len : ∀ (l m : List Int), l.Nodup → (∀ x ∈ l, x ∈ m) → l.length ≤ m.length
  | [], m, _, _ => Nat.zero_le _
  | a :: r, m, hd, h => by
    have ha := h a (by simp)
    rw [List.nodup_cons] at hd
    have h1 := sub_len r (m.erase a) hd.2 (fun x hx => by
      have hne : x ≠ a := fun e => hd.1 (e ▸ hx)
      exact (List.mem_erase_of_ne hne).2 (h x (by simp [hx])))
    rw [List.length_erase_of_mem ha] at h1
    have : 0 < m.length := List.length_pos_of_mem ha
    simp only [List.length_cons]
    omega

/-- No fault, said of all at once. -/
theorem fault0 (rs : List LSt) (ps : List LPr) (top : Int) : ∀ (pl pre : List LPl), (∀ p ∈ pl, p.1 ≠ 0) → (faultF rs ps top pre pl = 0 ↔ (∀ p ∈ pl, p.2 ∈ rs.flatMap (domF p.1 top)) ∧ (∀ p ∈ pl, ∀ o ∈ pre, mayL ps o.1 o.2 p.1 p.2 = true) ∧ pl.Pairwise (fun o p => mayL ps o.1 o.2 p.1 p.2 = true))
  | [], pre, _ => by simp [faultF]
  | p :: r, pre, h => by
    have hp := h p (by simp)
    have ih := fault0 rs ps top r (pre ++ [p]) (fun q hq => h q (by simp [hq]))
    unfold faultF
    by_cases hg : goodB rs ps top pre p = true
    · rw [if_pos hg, ih]
      unfold goodB at hg
      rw [Bool.and_eq_true, List.all_eq_true] at hg
      obtain ⟨g1, g2⟩ := hg
      have g1 := B_true g1
      constructor
      · rintro ⟨a, b, c⟩
        refine ⟨fun q hq => ?_, fun q hq o ho => ?_, List.pairwise_cons.2 ⟨fun q hq => b q hq p (by simp), c⟩⟩
        · rcases List.mem_cons.1 hq with rfl | hq
          · exact g1
          · exact a q hq
        · rcases List.mem_cons.1 hq with rfl | hq
          · exact g2 o ho
          · exact b q hq o (by simp [ho])
      · rintro ⟨a, b, c⟩
        rw [List.pairwise_cons] at c
        refine ⟨fun q hq => a q (by simp [hq]), fun q hq o ho => ?_, c.2⟩
        rcases List.mem_append.1 ho with ho | ho
        · exact b q (by simp [hq]) o ho
        · rw [List.mem_singleton.1 ho]; exact c.1 q hq
    · rw [if_neg hg]
      constructor
      · intro e; exact absurd e hp
      · rintro ⟨a, b, c⟩
        refine absurd ?_ hg
        unfold goodB
        rw [Bool.and_eq_true, List.all_eq_true]
        exact ⟨B_yes (a p (by simp)), fun o ho => b p (by simp) o ho⟩
/-- A right plan, said of all at once. -/
structure PlanOk (rs : List LSt) (ps : List LPr) (top : Int) (pl : List LPl) : Prop where
  ln : pl.length ≤ 400
  ids : IdsR rs ps (pidsL pl)
  dom : ∀ p ∈ pl, p.2 ∈ rs.flatMap (domF p.1 top)
  may : pl.Pairwise (fun o p => mayL ps o.1 o.2 p.1 p.2 = true)
theorem planB_ok (rs : List LSt) (ps : List LPr) (top : Int) (pl : List LPl) : planB rs ps top pl = true ↔ PlanOk rs ps top pl := by
  unfold planB faultA
  rw [Bool.and_eq_true, decide_eq_true_iff, beq_iff_eq]
  constructor
  · rintro ⟨h1, h2⟩
    rw [if_pos h1] at h2
    by_cases hi : IdsR rs ps (pidsL pl)
    · rw [B_yes hi, if_pos rfl] at h2
      have := (fault0 rs ps top pl [] (fun p hp => by have := ids_small hi p hp; omega)).1 h2
      exact ⟨h1, hi, this.1, this.2.2⟩
    · rw [B_no hi] at h2; simp at h2
  · rintro ⟨h1, hi, h3, h4⟩
    refine ⟨h1, ?_⟩
    rw [if_pos h1, B_yes hi, if_pos rfl]
    exact (fault0 rs ps top pl [] (fun p hp => by have := ids_small hi p hp; omega)).2 ⟨h3, fun p _ o ho => by simp at ho, h4⟩
theorem may_sym (rs : List LSt) (ps : List LPr) (h : TabR rs ps) (a c b d : Int) : mayL ps a c b d = mayL ps b d a c := by
  have h1 : ∀ p ∈ ps, p.1 < p.2.1 ∧ (p.2.2 = 1 ∨ p.2.2 = 2) := fun p hp => ⟨(h.2.2.2.1 p hp).1, (h.2.2.2.1 p hp).2.1⟩
  rw [may_fit1 ps a c b d h1 h.2.2.2.2, may_fit1 ps b d a c h1 h.2.2.2.2, show min a b = min b a by omega, show max a b = max b a by omega, show max c d - min c d = max d c - min d c by omega]
theorem pidsL_withL : ∀ (pl : List LPl) (x : LPl), (pidsL (withL pl x)).Perm (x.1 :: pidsL pl) := fun pl x => by
  have := (withL_perm pl x).map fun p : LPl => p.1
  simpa [pidsL] using this
theorem rise_pair (zs : List Int) (h : RiseTo zs zs.length) (lo hi : Int) (hb : ∀ z ∈ zs, lo ≤ z ∧ z ≤ hi) : zs.Pairwise (· < ·) := by
  rw [List.pairwise_iff_getElem]
  intro i j hi' hj hij
  have := rise_lt zs lo hi (fun k hk => ⟨hb _ (getD_mem hk), fun h0 => h k hk h0⟩) i j hij hj
  simpa [hi', hj] using this
theorem pair_rise (zs : List Int) (h : zs.Pairwise (· < ·)) : RiseTo zs zs.length := by
  rw [List.pairwise_iff_getElem] at h
  intro i hi h0
  have := h (i - 1) i (by omega) hi (by omega)
  simpa [hi, show i - 1 < zs.length by omega] using this
theorem withL_rise : ∀ (pl : List LPl) (x : LPl), (pidsL pl).Pairwise (· < ·) → x.1 ∉ pidsL pl → (pidsL (withL pl x)).Pairwise (· < ·)
  | [], x, _, _ => by simp [withL, pidsL]
  | p :: r, x, h, hn => by
    simp only [pidsL, List.map_cons, List.pairwise_cons, List.mem_cons, not_or] at h hn
    unfold withL
    split
    · rename_i hlt
      simp only [pidsL, List.map_cons, List.pairwise_cons, List.mem_cons]
      refine ⟨fun y hy => ?_, h.1, h.2⟩
      rcases hy with rfl | hy
      · exact hlt
      · have := h.1 y hy; omega
    · rename_i hlt
      have ih := withL_rise r x h.2 hn.2
      simp only [pidsL, List.map_cons, List.pairwise_cons]
      refine ⟨fun y hy => ?_, ih⟩
      have hy' : y ∈ pidsL (withL r x) := hy
      rw [(pidsL_withL r x).mem_iff] at hy'
      rcases List.mem_cons.1 hy' with rfl | hy'
      · have := hn.1; omega
      · exact h.1 y hy'
theorem ids_pair {rs : List LSt} {ps : List LPr} {zs : List Int} (h : IdsR rs ps zs) : zs.Pairwise (· < ·) := rise_pair zs h.2.2.1 1 999 (fun z hz => h.2.1.2.2.1.mem (h.2.2.2 z hz))
theorem ids_few {rs : List LSt} {ps : List LPr} {zs : List Int} (h : IdsR rs ps zs) : zs.length ≤ 12 := by
  have h1 : zs.Nodup := (ids_pair h).imp (fun h => by omega)
  have h2 := sub_len zs (idsL rs) h1 h.2.2.2
  have h3 := h.2.1.1.2.1
  rw [show (idsL rs).length = rs.length by simp [idsL]] at h2
  omega
/-- One station more: right just if it may stand beside all others. -/
theorem add_iff {rs : List LSt} {ps : List LPr} {top : Int} {pl : List LPl} {id c : Int} (h : PlanOk rs ps top pl) (hn : id ∉ pidsL pl) (hc : c ∈ rs.flatMap (domF id top)) : planB rs ps top (withL pl (id, c)) = fitB ps pl (id, c) := by
  have ht := h.ids.2.1
  rw [fit_may rs ps pl (id, c) ht]
  have key : planB rs ps top (withL pl (id, c)) = true ↔ pl.all (fun o => mayL ps o.1 o.2 (id, c).1 (id, c).2) = true := by
    rw [planB_ok, List.all_eq_true]
    have hp := (withL_perm pl (id, c)).pairwise_iff (R := fun o p : LPl => mayL ps o.1 o.2 p.1 p.2 = true) (fun {x y} g => by rw [may_sym rs ps ht]; exact g)
    constructor
    · intro g o ho
      have := hp.1 g.may
      rw [List.pairwise_cons] at this
      rw [may_sym rs ps ht]
      exact this.1 o ho
    · intro g
      have hid : id ∈ idsL rs := by
        by_cases hx : id ∈ idsL rs
        · exact hx
        · rw [flat_none id top rs hx] at hc; simp at hc
      have hl := ids_few h.ids
      rw [pidsL_len] at hl
      refine ⟨by rw [withL_len]; omega, ⟨by rw [pidsL_len, withL_len]; omega, ht, pair_rise _ (withL_rise pl (id, c) (ids_pair h.ids) hn), fun x hx => ?_⟩, fun p hp' => ?_, hp.2 (List.pairwise_cons.2 ⟨fun o ho => by rw [may_sym rs ps ht]; exact g o ho, h.may⟩)⟩
      · rw [(pidsL_withL pl (id, c)).mem_iff] at hx
        rcases List.mem_cons.1 hx with rfl | hx
        · exact hid
        · exact h.ids.2.2.2 x hx
      · rcases withL_mem.1 hp' with rfl | hp'
        · exact hc
        · exact h.dom p hp'
  cases e1 : planB rs ps top (withL pl (id, c)) <;> cases e2 : pl.all (fun o => mayL ps o.1 o.2 (id, c).1 (id, c).2) <;> simp_all

/-- What PlanAdd answers: the first channel that fits. -/
noncomputable def addL (ps : List LPr) (pl : List LPl) (id : Int) : List Int → List LPl
  | [] => []
  | c :: r => if fitB ps pl (id, c) = true then withL pl (id, c) else addL ps pl id r
def AddOk (rs : List LSt) (ps : List LPr) (top : Int) (pl : List LPl) (id : Int) : Prop := planB rs ps top pl = true ∧ id ∉ pidsL pl
noncomputable def addA (rs : List LSt) (ps : List LPr) (top : Int) (pl : List LPl) (id : Int) : List LPl := if B (AddOk rs ps top pl id) = true then addL ps pl id (rs.flatMap (domF id top)) else []
theorem addA_no {rs : List LSt} {ps : List LPr} {top : Int} {pl : List LPl} {id : Int} (h : ¬ AddOk rs ps top pl id) : addA rs ps top pl id = [] := by unfold addA; rw [B_no h]; rfl
theorem addA_yes {rs : List LSt} {ps : List LPr} {top : Int} {pl : List LPl} {id : Int} (h : AddOk rs ps top pl id) : addA rs ps top pl id = addL ps pl id (rs.flatMap (domF id top)) := by unfold addA; rw [B_yes h]; rfl
theorem addL_step (ps : List LPr) (pl : List LPl) (id : Int) (ds : List Int) (k : Nat) (h : k < ds.length) : addL ps pl id (ds.drop k) = if fitB ps pl (id, ds.getD k 0) = true then withL pl (id, ds.getD k 0) else addL ps pl id (ds.drop (k + 1)) := by
  rw [List.drop_eq_getElem_cons h, addL]
  simp [h]
theorem addL_end (ps : List LPr) (pl : List LPl) (id : Int) (ds : List Int) (k : Nat) (h : ds.length ≤ k) : addL ps pl id (ds.drop k) = [] := by
  rw [List.drop_of_length_le h, addL]
theorem addL_len (ps : List LPr) (pl : List LPl) (id : Int) : ∀ ds : List Int, (addL ps pl id ds).length ≤ pl.length + 1
  | [] => Nat.zero_le _
  | c :: r => by
    unfold addL
    split
    · rw [withL_len]; exact Nat.le_refl _
    · exact addL_len ps pl id r
theorem addA_len (rs : List LSt) (ps : List LPr) (top : Int) (pl : List LPl) (id : Int) : (addA rs ps top pl id).length ≤ 401 := by
  by_cases h : AddOk rs ps top pl id
  · rw [addA_yes h]
    have := addL_len ps pl id (rs.flatMap (domF id top))
    have := ((planB_ok rs ps top pl).1 h.1).ln
    omega
  · rw [addA_no h]; simp
theorem addA_bare {rs rs' : List LSt} (ps : List LPr) (top : Int) (pl : List LPl) (id : Int) (h : bareS rs = bareS rs') : addA rs ps top pl id = addA rs' ps top pl id := by
  have e : AddOk rs ps top pl id ↔ AddOk rs' ps top pl id := by unfold AddOk; rw [planB_bare ps top pl h]
  unfold addA
  rw [B_iff e, dom_bare id top h]
end Go.Proofs.Ytdmfljejlhlbnaa
namespace Go.Proofs.Ytdmfljejlhlbnaa
open Go.RowKit
set_option linter.unusedVariables false

set_option maxRecDepth 100000 in
set_option maxHeartbeats 4000000 in
/-- slices.BinarySearch at int64, and where a number that is not there would stand. -/
theorem bs2_any (sl : Option Addr) (cap : Nat) (zs : List Int) (x : Int) (w : World) (hn : zs.length ≤ 1048576) (hr : Rises zs) (hz : Ints w sl zs) :
    Calls Try.prog 71 #[.slice sl zs.length cap, .int .i64 x] w fun e w' => ∃ p : Nat, e = .returned (.tuple #[.int .i64 p, .bool (B (x ∈ zs))]) ∧ p ≤ zs.length ∧ (x ∉ zs → CutAt zs x p p) ∧ Below w.heap.size w w' := by
  have HZ := Lib.hid hz
  have HR := Lib.hid hr
  have EL := Lib.hid (fun y W => less_any y x W)
  have EN := Lib.hid (fun y W => nan2_any y W)
  clear hz hr
  generalize hN : zs.length = n at *
  have HN := Lib.hid hN
  clear hN
  go_enter Try.func71, Try.ntmps71
  go_wp2
  go_loopw [7, 8] (fun i j wr => ∃ (lo hi : Nat), i = .int .i64 lo ∧ j = .int .i64 hi ∧ lo ≤ hi ∧ hi ≤ n ∧ Hid (CutAt zs x lo hi) ∧ Hid (Below w.heap.size w wr)) (fun i j _ => (intOf j).toNat - (intOf i).toNat)
  case atStart => exact ⟨0, n, rfl, rfl, Nat.zero_le _, Nat.le_refl _, ⟨fun t ht => absurd ht (Nat.not_lt_zero _), fun t h1 h2 => by rw [HN.out] at h2; omega⟩, Below.refl _ _⟩
  case round =>
    obtain ⟨lo, hi, rfl, rfl, hlh, hin, CA, HB⟩ := hrel
    have hlo0 : (0 : Int) ≤ (lo : Int) := by omega
    have hhi0 : (0 : Int) ≤ (hi : Int) := by omega
    by_cases g1 : lo < hi
    · have g1' : (lo : Int) < (hi : Int) := by omega
      have hlt : (lo + hi) / 2 < zs.length := by rw [HN.out]; omega
      obtain ⟨c, o, rfl, ZI⟩ : ∃ c o, sl = some ⟨c, o, none⟩ ∧ IntsAt w c o zs := by
        rcases HZ.out with e | h
        · rw [e] at hlt; simp at hlt
        · exact h
      have hc := (HB.out.cell (p := ⟨c, o + (lo + hi) / 2, none⟩) ZI.1).trans (ZI.2 ((lo + hi) / 2) hlt)
      have C1 : Hid (zs.getD ((lo + hi) / 2) 0 < x → CutAt zs x ((lo + hi) / 2 + 1) hi) := fun h => ⟨fun t ht => by
        by_cases e : t = (lo + hi) / 2
        · rw [e]; exact h
        · have := HR.out t ((lo + hi) / 2) (by omega) hlt; omega, CA.out.2⟩
      have C2 : Hid (¬ zs.getD ((lo + hi) / 2) 0 < x → CutAt zs x lo ((lo + hi) / 2)) := fun h => ⟨CA.out.1, fun t h1 h2 => by
        by_cases e : t = (lo + hi) / 2
        · rw [e]; omega
        · have := HR.out ((lo + hi) / 2) t (by omega) h2; omega⟩
      clear ZI hlt CA
      generalize zs.getD ((lo + hi) / 2) 0 = y at *
      have E := Lib.hid (EL.out y)
      by_cases hyx : y < x
      · have CC := Lib.hid (C1.out hyx)
        clear C1 C2
        go_wp2_with (first | (go_at_call 122; refine (E.out _).mono ?_; rintro e w' ⟨rfl, rfl⟩))
        go_roundw
        case rel => exact ⟨(lo + hi) / 2 + 1, hi, by rw [show ((lo : Int) + (hi : Int)) / 2 + 1 = (((lo + hi) / 2 + 1 : Nat) : Int) by omega], rfl, by omega, hin, CC, HB⟩
        case measure => simp [intOf]; omega
      · have CC := Lib.hid (C2.out hyx)
        clear C1 C2
        go_wp2_with (first | (go_at_call 122; refine (E.out _).mono ?_; rintro e w' ⟨rfl, rfl⟩))
        go_roundw
        case rel => exact ⟨lo, (lo + hi) / 2, rfl, by rw [show ((lo : Int) + (hi : Int)) / 2 = (((lo + hi) / 2 : Nat) : Int) by omega], by omega, by omega, CC, HB⟩
        case measure => simp [intOf]; omega
    · have g1' : ¬ (lo : Int) < (hi : Int) := by omega
      obtain rfl : hi = lo := by omega
      by_cases g2 : hi < n
      · have g2' : (hi : Int) < (n : Int) := by omega
        have hlt : hi < zs.length := by rw [HN.out]; exact g2
        obtain ⟨c, o, rfl, ZI⟩ : ∃ c o, sl = some ⟨c, o, none⟩ ∧ IntsAt w c o zs := by
          rcases HZ.out with e | h
          · rw [e] at hlt; simp at hlt
          · exact h
        have hc := (HB.out.cell (p := ⟨c, o + hi, none⟩) ZI.1).trans (ZI.2 hi hlt)
        have C1 : Hid (zs.getD hi 0 = x → B (x ∈ zs) = true ∧ (x ∉ zs → CutAt zs x hi hi)) := fun h => ⟨B_yes (cut_in CA.out HR.out hlt h).1, fun _ => CA.out⟩
        have C2 : Hid (¬ zs.getD hi 0 = x → B (x ∈ zs) = false ∧ (x ∉ zs → CutAt zs x hi hi)) := fun h => ⟨B_no (cut_out CA.out HR.out (fun _ => h)), fun _ => CA.out⟩
        clear ZI hlt CA
        generalize zs.getD hi 0 = y at *
        have E := Lib.hid (EN.out y)
        by_cases hyx : y = x
        · have CC := Lib.hid (C1.out hyx)
          clear C1 C2
          go_wp2_with (first | (go_at_call 123; refine (E.out _).mono ?_; rintro e w' ⟨rfl, rfl⟩))
          go_ret2
          exact ⟨hi, (by rw [CC.out.1]; first | rfl | simp [*]), hin, CC.out.2, HB.out⟩
        · have CC := Lib.hid (C2.out hyx)
          clear C1 C2
          go_wp2_with (first | (go_at_call 123; refine (E.out _).mono ?_; rintro e w' ⟨rfl, rfl⟩))
          go_ret2
          exact ⟨hi, (by rw [CC.out.1]; first | rfl | simp [*]), hin, CC.out.2, HB.out⟩
      · have g2' : ¬ (hi : Int) < (n : Int) := by omega
        have hx := cut_out CA.out HR.out (fun h => absurd h (by rw [HN.out]; exact g2))
        have CC := Lib.hid (show B (x ∈ zs) = false ∧ (x ∉ zs → CutAt zs x hi hi) from ⟨B_no hx, fun _ => CA.out⟩)
        clear hx CA
        go_wp2
        go_ret2
        exact ⟨hi, (by rw [CC.out.1]; first | rfl | simp [*]), hin, CC.out.2, HB.out⟩
end Go.Proofs.Ytdmfljejlhlbnaa
namespace Go.Proofs.Ytdmfljejlhlbnaa
open Go.RowKit
set_option linter.unusedVariables false

theorem cut_with {pl : List LPl} {id c : Int} {p : Nat} (hp : p ≤ pl.length) (hn : id ∉ pidsL pl) (h : CutAt (pidsL pl) id p p) : withL pl (id, c) = pl.take p ++ (id, c) :: pl.drop p := by
  have hg : ∀ t (ht : t < pl.length), (pidsL pl).getD t 0 = pl[t].1 := fun t ht => by simp [pidsL, ht]
  refine withL_cut pl (id, c) p hp (fun q hq => ?_) (fun q hq => ?_)
  · obtain ⟨t, ht, rfl⟩ := List.getElem_of_mem hq
    have ht' : t < p ∧ t < pl.length := by simp at ht; omega
    have := h.1 t ht'.1
    rw [hg t ht'.2] at this
    simp only [List.getElem_take]
    show ¬ id < pl[t].1
    omega
  · obtain ⟨t, ht, rfl⟩ := List.getElem_of_mem hq
    have ht' : p + t < pl.length := by simp at ht; omega
    have := h.2 (p + t) (by omega) (by rw [pidsL_len]; exact ht')
    rw [hg _ ht'] at this
    simp only [List.getElem_drop]
    show id < pl[p + t].1
    have hne : pl[p + t].1 ≠ id := fun e => hn (e ▸ List.mem_map.2 ⟨pl[p + t], List.getElem_mem ht', rfl⟩)
    omega

set_option maxRecDepth 100000 in
set_option maxHeartbeats 8000000 in
/-- impl.PlanAdd. -/
theorem ipa_any (sl : Option Addr) (cap : Nat) (sl2 : Option Addr) (cap2 : Nat) (sl3 : Option Addr) (cap3 : Nat) (rs : List LSt) (ps : List LPr) (pl : List LPl) (top id : Int) (w : World) (hn : rs.length ≤ 1048576) (hl : pl.length ≤ 1048576) (hz : Sts w sl rs) (hp : Prs w sl2 ps) (hw : ∀ p ∈ ps, WfP p) (hi : Pls w sl3 pl) (hc3 : pl.length ≤ cap3) :
    Calls Try.prog 16 #[TV sl rs.length cap sl2 ps.length cap2, .int .i64 top, .slice sl3 pl.length cap3, .int .i64 id] w fun e w' => ∃ v, e = .returned v ∧ w'.ownsRow w.heap.size 34 2 v (addA rs ps top pl id).length (enCells (addA rs ps top pl id)) ∧ Below w.heap.size w w' := by
  have HT := Lib.hid (TabAt.new w sl rs.length cap sl2 ps.length cap2)
  have B0 := Lib.hid (bA0 w (.cells #[.slice sl rs.length cap, .slice sl2 ps.length cap2] 26))
  have E1 := Lib.hid (ipr_any sl cap sl2 cap2 sl3 cap3 rs ps pl top _ hn hl (hz.below B0.out) (hp.below B0.out) hw (hi.below B0.out) hc3)
  by_cases c1 : planB rs ps top pl = true
  · rw [c1] at E1
    have ok := (planB_ok rs ps top pl).1 c1
    have TR := ok.ids.2.1
    have E2 : Hid (∀ W, Below w.heap.size w W → Calls Try.prog 72 #[.slice sl3 pl.length cap3] W fun e w' => ∃ v, e = .returned v ∧ w'.ownsRow W.heap.size 2 1 v (pidsL pl).length (valsZ (pidsL pl)) ∧ Below W.heap.size W w') := fun W hW => by
      have := ipi_any sl3 cap3 pl W (by unfold maxLen; omega) (hi.below hW)
      rwa [show pidsA pl = pidsL pl from if_pos ok.ln] at this
    have E3 : Hid (∀ s k W, Ints W s (pidsL pl) → Calls Try.prog 71 #[.slice s (pidsL pl).length k, .int .i64 id] W fun e w' => ∃ p : Nat, e = .returned (.tuple #[.int .i64 p, .bool (B (id ∈ pidsL pl))]) ∧ p ≤ (pidsL pl).length ∧ (id ∉ pidsL pl → CutAt (pidsL pl) id p p) ∧ Below W.heap.size W w') := fun s k W hi' => bs2_any s k (pidsL pl) id W (by rw [pidsL_len]; omega) (idsR_rise ok.ids) hi'
    by_cases c2 : id ∈ pidsL pl
    · rw [addA_no (fun g => g.2 c2)]
      rw [B_yes c2] at E3
      have OI := Lib.hid (fun B v (W : World) (o : W.ownsRow B 2 1 v (pidsL pl).length (valsZ (pidsL pl))) => own_ints o)
      clear hz hp hw hi c1 ok TR c2 hn hl
      generalize rs.length = rn at *
      generalize ps.length = pq at *
      generalize pl.length = pn at *
      generalize pidsL pl = pd at *
      go_enter Try.func16, Try.ntmps16
      go_wp2_with fail
      refine E1.out.mono ?_
      rintro e w1 ⟨rfl, b1⟩
      have D1 := Lib.hid (bT B0.out b1)
      clear b1 E1 HT B0
      go_wp2_with fail
      refine (E2.out _ D1.out).mono ?_
      rintro e w2 ⟨v2, rfl, o2, b2⟩
      have D2 := Lib.hid (bT D1.out b2)
      obtain ⟨s2, k2, rfl, i2⟩ := OI.out _ _ _ o2
      have T3 := Lib.hid (E3.out s2 k2 w2 i2)
      clear b2 o2 i2 E2 D1 E3
      go_wp2_with fail
      refine T3.out.mono ?_
      rintro e w3 ⟨p, rfl, -, -, b3⟩
      have D3 := Lib.hid (bT D2.out b3)
      clear b3 T3 D2
      go_wp2
      go_ret
      exact ⟨_, rfl, ⟨rfl, .inl ⟨rfl, rfl⟩⟩, D3.out⟩
    rw [addA_yes ⟨c1, c2⟩]
    rw [B_no c2] at E3
    have CW := Lib.hid (show ∀ p c, p ≤ (pidsL pl).length → (id ∉ pidsL pl → CutAt (pidsL pl) id p p) → withL pl (id, c) = pl.take p ++ (id, c) :: pl.drop p from fun p c h1 h2 => cut_with (by rwa [pidsL_len] at h1) c2 (h2 c2))
    have E4 : Hid (∀ W, Below w.heap.size w W → Calls Try.prog 73 #[TV sl rs.length cap sl2 ps.length cap2] W fun e w' => ∃ kb, e = .returned (FV kb) ∧ FitsAt w' kb ps ∧ Below W.heap.size W w') := fun W hW => bi_any sl rs.length cap sl2 cap2 ps W (by have := TR.1.2.2; omega) (hp.below hW) hw
    have E5 : Hid (∀ W, Below w.heap.size w W → Calls Try.prog 74 #[TV sl rs.length cap sl2 ps.length cap2, .int .i64 id, .int .i64 top] W fun e w' => ∃ v, e = .returned v ∧ w'.ownsRow W.heap.size 2 1 v (rs.flatMap (domF id top)).length (valsZ (rs.flatMap (domF id top))) ∧ Below W.heap.size W w') := fun W hW => din_any sl cap sl2 cap2 rs ps id top W (hz.below hW) TR
    have E6 : Hid (∀ W kb c, Below w.heap.size w W → FitsAt W kb ps → c ∈ rs.flatMap (domF id top) → Calls Try.prog 125 #[.slice sl3 pl.length cap3, .agg #[.int .i64 id, .int .i64 c], .pointer (some ⟨kb, 0, none⟩)] W fun e w' => e = .returned (.bool (fitB ps pl (id, c))) ∧ Below W.heap.size W w') := fun W kb c hW hf hc => by
      have hid : id ∈ idsL rs := by
        by_cases hx : id ∈ idsL rs
        · exact hx
        · rw [flat_none id top rs hx] at hc; simp at hc
      have h1 := TR.2.2.1.mem hid
      have h2 := dom_small rs ps id top c TR hc
      exact fit_any sl3 cap3 pl id c kb ps W hl (hi.below hW) (fun p hp' => by
        have g1 := ids_small ok.ids p hp'
        have g2 := dom_small rs ps p.1 top p.2 TR (ok.dom p hp')
        exact ⟨⟨by omega, by omega⟩, ⟨by omega, by omega⟩⟩) ⟨⟨by show (0 : Int) ≤ id; omega, by show id ≤ 1000; omega⟩, ⟨by show (0 : Int) ≤ c; omega, by show c ≤ 1000; omega⟩⟩ hw hf
    have CL : Hid (∀ W, Below w.heap.size w W → Calls Try.prog 76 #[.slice sl3 pl.length cap3] W fun e w' => ∃ v, e = .returned v ∧ w'.ownsRow W.heap.size 34 2 v pl.length (enCells pl) ∧ Below W.heap.size W w') := fun W hW => clo_any sl3 cap3 pl W hl (hi.below hW)
    have INP : Hid (∀ (p B vb : Nat) (c : Int) (v : Value) (W : World), p ≤ (pidsL pl).length → W.ownsRow B 34 2 v pl.length (enCells pl) → B ≤ W.heap.size → W.heap[vb]? = some (.cells #[.int .i64 id, .int .i64 c] 34) → v.ownBlock ≠ some vb → Calls Try.prog 75 #[v, .int .i64 p, .slice (some ⟨vb, 0, none⟩) 1 1] W fun e w' => ∃ v', e = .returned v' ∧ w'.ownsRow B 34 2 v' (pl.length + 1) (enCells (pl.take p ++ (id, c) :: pl.drop p)) ∧ Below B W w') := fun p B vb c v W h1 h2 h3 h4 h5 => ins_any B p vb id c v pl W h2 h3 (by rwa [pidsL_len] at h1) h4 h5 (by have := ok.ln; omega)
    have DL := dom_le rs ps id top TR
    have OI := Lib.hid (fun B v (W : World) (o : W.ownsRow B 2 1 v (pidsL pl).length (valsZ (pidsL pl))) => own_ints o)
    have DM := Lib.hid (show ∀ k, k < (rs.flatMap (domF id top)).length → (rs.flatMap (domF id top)).getD k 0 ∈ rs.flatMap (domF id top) from fun k hk => getD_mem hk)
    have PN := Lib.hid (show ∀ c, (withL pl (id, c)).length = pl.length + 1 from fun c => withL_len pl (id, c))
    clear hz hp hw hi c1 c2 ok TR hn hl
    generalize hDS : rs.flatMap (domF id top) = ds at *
    clear hDS
    have AS := Lib.hid (fun k (h : k < ds.length) => addL_step ps pl id ds k h)
    have AE := Lib.hid (fun k (h : ds.length ≤ k) => addL_end ps pl id ds k h)
    have A0 := Lib.hid (show addL ps pl id (ds.drop 0) = addL ps pl id ds by simp)
    generalize hR : addL ps pl id ds = R at *
    clear hR
    have DI := Lib.hid (fun B v (W : World) (o : W.ownsRow B 2 1 v ds.length (valsZ ds)) => own_ints o)
    generalize hDN : ds.length = dn at *
    have HDN := Lib.hid hDN
    clear hDN
    generalize rs.length = rn at *
    generalize ps.length = pq at *
    generalize hPN : pl.length = pn at *
    clear hPN
    go_enter Try.func16, Try.ntmps16
    go_wp2_with fail
    refine E1.out.mono ?_
    rintro e w1 ⟨rfl, b1⟩
    have D1 := Lib.hid (bT B0.out b1)
    have T1 := Lib.hid (HT.out.below b1)
    clear b1 E1 HT B0
    go_wp2_with fail
    refine (E2.out _ D1.out).mono ?_
    rintro e w2 ⟨v2, rfl, o2, b2⟩
    have D2 := Lib.hid (bT D1.out b2)
    have T2 := Lib.hid (T1.out.below b2)
    obtain ⟨s2, k2, rfl, i2⟩ := OI.out _ _ _ o2
    have C3 := Lib.hid (E3.out s2 k2 w2 i2)
    clear b2 o2 i2 E2 D1 E3 T1 OI
    go_wp2_with fail
    refine C3.out.mono ?_
    rintro e w3 ⟨p, rfl, hp3, hcut, b3⟩
    have D3 := Lib.hid (bT D2.out b3)
    have T3 := Lib.hid (T2.out.below b3)
    have WCP := Lib.hid (fun c => CW.out p c hp3 hcut)
    have INS := Lib.hid (fun B vb c v W => INP.out p B vb c v W hp3)
    clear b3 C3 D2 T2 CW INP hcut hp3
    obtain ⟨t0, t1⟩ := T3.out.cells
    have tl := T3.out.lt
    go_wp2_with fail
    refine (E4.out _ D3.out).mono ?_
    rintro e w4 ⟨kb, rfl, ft4, b4⟩
    have D4 := Lib.hid (bT D3.out b4)
    have T4 := Lib.hid (T3.out.below b4)
    have F4 := Lib.hid ft4
    clear b4 ft4 D3 T3 t0 t1 tl E4
    obtain ⟨t0, t1⟩ := T4.out.cells
    have tl := T4.out.lt
    go_wp2_with fail
    refine (E5.out _ D4.out).mono ?_
    rintro e w5 ⟨v5, rfl, o5, b5⟩
    have D5 := Lib.hid (bT D4.out b5)
    have F5 := Lib.hid (F4.out.below b5)
    obtain ⟨s5, k5, rfl, i5⟩ := DI.out _ _ _ o5
    have I5 := Lib.hid i5
    clear b5 o5 i5 D4 T4 F4 t0 t1 tl E5 DI
    go_wp2
    go_loopw [35] (fun i wr => ∃ k : Nat, i = .int .i64 k ∧ k ≤ dn ∧ Hid (addL ps pl id (ds.drop k) = R) ∧ Hid (Below w5.heap.size w5 wr)) (fun i _ => dn - (intOf i).toNat)
    case atStart => exact ⟨0, rfl, Nat.zero_le _, A0, Below.refl _ _⟩
    case round =>
      obtain ⟨k, rfl, hk, HA, HB⟩ := hrel
      have hk0 : (0 : Int) ≤ (k : Int) := by omega
      by_cases h1 : k < dn
      · have h1' : (k : Int) < (dn : Int) := by omega
        have hlt : k < ds.length := by rw [HDN.out]; exact h1
        obtain ⟨cb, co, rfl, ZI⟩ : ∃ cb co, s5 = some ⟨cb, co, none⟩ ∧ IntsAt w5 cb co ds := by
          rcases I5.out with e | h
          · rw [e] at hlt; simp at hlt
          · exact h
        have hcell : wr.cell? ⟨cb, co + k, none⟩ = some (.int .i64 (ds.getD k 0)) := (HB.out.cell (p := ⟨cb, co + k, none⟩) ZI.1).trans (ZI.2 k hlt)
        have DW := Lib.hid (bT D5.out HB.out)
        have FW := Lib.hid (F5.out.below HB.out)
        have DP := Lib.hid (bA DW.out (.cells #[.int .i64 id, .int .i64 (ds.getD k 0)] 34))
        have CF := Lib.hid (E6.out (wr.alloc (.cells #[.int .i64 id, .int .i64 (ds.getD k 0)] 34)) kb _ DP.out (FW.out.below (bA0 _ _)) (DM.out k h1))
        have ASK := Lib.hid (AS.out k h1)
        have NP := Lib.hid (new_at wr (.cells #[.int .i64 id, .int .i64 (ds.getD k 0)] 34))
        have BP := Lib.hid (bA0 wr (.cells #[.int .i64 id, .int .i64 (ds.getD k 0)] 34))
        clear hlt ZI
        generalize ds.getD k 0 = c at *
        by_cases hf : fitB ps pl (id, c) = true
        · have ER := Lib.hid (show R = withL pl (id, c) by rw [← HA.out, ASK.out, if_pos hf])
          have WC := Lib.hid (WCP.out c)
          rw [hf] at CF
          clear ASK HA AS AE
          go_wp2_with fail
          generalize wr.alloc (.cells #[.int .i64 id, .int .i64 c] 34) = wB at *
          refine CF.out.mono ?_
          rintro e wq ⟨rfl, bq⟩
          have DQ := Lib.hid (bT DP.out bq)
          have KX : Hid (∀ W, Below wq.heap.size wq W → wr.heap.size < W.heap.size ∧ W.cell? ⟨wr.heap.size, 0, none⟩ = some (.int .i64 id) ∧ W.cell? ⟨wr.heap.size, 1, none⟩ = some (.int .i64 c)) := fun W hW => by
            have hb : W.heap[wr.heap.size]? = some (.cells #[.int .i64 id, .int .i64 c] 34) := (hW.block _ (by have := (Array.getElem?_eq_some_iff.1 NP.out).1; have := bq.size; omega)).trans ((bq.block _ (Array.getElem?_eq_some_iff.1 NP.out).1).trans NP.out)
            exact ⟨(Array.getElem?_eq_some_iff.1 hb).1, by simp [World.cell?, hb], by simp [World.cell?, hb]⟩
          clear bq CF
          go_wp2_with fail
          refine wp_region_held_drew (S := fun W => wr.heap.size < W.heap.size ∧ W.cell? ⟨wr.heap.size, 0, none⟩ = some (.int .i64 id) ∧ W.cell? ⟨wr.heap.size, 1, none⟩ = some (.int .i64 c)) (by kernel_rfl) ?_ (fun hHeld => ?_)
          · exact KX.out _ (Below.refl _ _).drew
          refine wpAnyH_take (i := 0) (oi := _) (v := ?_) rfl (by kernel_rfl) (by kernel_rfl) (by kernel_rfl) (fun _ _ _ h => h) (Or.inl ⟨by rfl, ?_⟩) (by assumption) ?_
          rotate_left
          · first | (intro w hSw; (try dsimp only at hSw); go_simp; done) | (intro w hSw; (try dsimp only at hSw); go_simp; with_reducible rfl)
          try simp only [Act.put, List.setIfInBounds_toArray, List.set_cons_zero, List.set_cons_succ, List.getElem_toArray, List.getElem_cons_zero]
          refine wpAnyH_take (i := 2) (oi := _) (v := ?_) rfl (by kernel_rfl) (by kernel_rfl) (by kernel_rfl) (fun _ _ _ h => h) (Or.inl ⟨by rfl, ?_⟩) (by assumption) ?_
          rotate_left
          · first | (intro w hSw; (try dsimp only at hSw); go_simp; done) | (intro w hSw; (try dsimp only at hSw); go_simp; with_reducible rfl)
          try simp only [Act.put, List.setIfInBounds_toArray, List.set_cons_zero, List.set_cons_succ, List.getElem_toArray, List.getElem_cons_succ, List.getElem_cons_zero]
          refine wpAnyH_take (i := 3) (oi := _) (v := ?_) rfl (by kernel_rfl) (by kernel_rfl) (by kernel_rfl) (fun _ _ _ h => h) (Or.inl ⟨by rfl, ?_⟩) (by assumption) ?_
          rotate_left
          · first | (intro w hSw; (try dsimp only at hSw); go_simp; done) | (intro w hSw; (try dsimp only at hSw); go_simp; with_reducible rfl)
          try simp only [Act.put, List.setIfInBounds_toArray, List.set_cons_zero, List.set_cons_succ, List.getElem_toArray, List.getElem_cons_succ, List.getElem_cons_zero]
          refine wpAnyH_ready (rs := [1, 4]) (by kernel_rfl) (by simp) ?_
          refine AllReadyH.cons rfl (fun K hK => ?_) (AllReadyH.cons rfl (fun K hK => ?_) AllReadyH.nil)
          · go_simp
            go_wp2_with (go_at_call 76; refine (CL.out _ DQ.out.drew).mono ?_; rintro e w7 ⟨v7, rfl, o7, b7⟩)
            have F7 : Hid (Below wq.heap.size wq w7) := bT ((Below.refl wq.heap.size wq).drew) b7
            have O7 : Hid (w7.ownsRow wq.heap.size 34 2 v7 pn (enCells pl)) := o7
            clear o7 b7
            refine hK.out _ _ ?_ (fun hHeld => ?_)
            · exact KX.out _ F7.out
            clear hK K
            refine wpAnyH_ready (rs := [4]) (by kernel_rfl) (by simp) ?_
            refine AllReadyH.cons rfl (fun K hK => ?_) AllReadyH.nil
            go_simp
            have F8 := Lib.hid (bT F7.out (bA0 w7 (.cells #[.int .i64 id, .int .i64 c] 34)))
            refine hK.out _ _ ?_ (fun hHeld => ?_)
            · exact KX.out _ F8.out
            clear hK K
            have IN := Lib.hid (INS.out wq.heap.size w7.heap.size c v7 (w7.alloc (.cells #[.int .i64 id, .int .i64 c] 34)) (O7.out.alloc _) (by have := F8.out.size; omega) (new_at _ _) (fun e => by have := (O7.out.lt _ e).2; omega))
            obtain ⟨BB, hBB, hBw⟩ : ∃ BB, BB = wq.heap.size ∧ w.heap.size ≤ BB := ⟨_, rfl, by have := DQ.out.size; omega⟩
            rw [← hBB] at IN
            have FX := Lib.hid (show ∀ W, Below BB (w7.alloc (.cells #[.int .i64 id, .int .i64 c] 34)) W → Below wq.heap.size wq W from fun W h => F8.out.trans (by rw [← hBB]; exact h))
            have BL := Lib.hid (show ∀ W, Below BB (w7.alloc (.cells #[.int .i64 id, .int .i64 c] 34)) W → Below w.heap.size w W from fun W h => bT DQ.out (FX.out W h))
            obtain ⟨s7, k7, rfl⟩ := own_v O7.out
            refine wpAnyH_ready (rs := [5]) (by kernel_rfl) (by simp) ?_
            refine AllReadyH.cons rfl (fun K hK => ?_) AllReadyH.nil
            go_simp
            go_wp2_with (go_at_call 75; refine IN.out.mono ?_; rintro e w9 ⟨v9, rfl, o9, b9⟩)
            have F9 := Lib.hid (FX.out w9 b9)
            have O9 := Lib.hid (own_mono o9 (show w.heap.size ≤ BB by omega))
            have G9 := Lib.hid (BL.out w9 b9)
            clear o9 b9 IN
            refine hK.out _ _ ?_ (fun hHeld => ?_)
            · exact KX.out _ F9.out
            clear hK K
            refine wpAnyH_take (i := 6) (oi := _) (v := ?_) rfl (by kernel_rfl) (by kernel_rfl) (by kernel_rfl) (fun _ _ _ h => h) (Or.inl ⟨by rfl, ?_⟩) (by assumption) ?_
            rotate_left
            · first | (intro w hSw; (try dsimp only at hSw); go_simp; done) | (intro w hSw; (try dsimp only at hSw); go_simp; with_reducible rfl)
            try simp only [Act.put, List.setIfInBounds_toArray, List.set_cons_zero, List.set_cons_succ, List.getElem_toArray, List.getElem_cons_succ, List.getElem_cons_zero]
            refine wpAnyH_done (by kernel_rfl) ?_ _
            go_wp2
            go_ret
            exact ⟨_, rfl, by rw [ER.out]; show World.ownsRow _ _ _ _ _ (withL pl (id, c)).length _; rw [PN.out c, WC.out]; exact O9.out, G9.out⟩
          · go_simp
            have F7 : Hid (Below wq.heap.size wq (wq.alloc (.cells #[.int .i64 id, .int .i64 c] 34)).drew) := ((Below.refl wq.heap.size wq).alloc (Nat.le_refl _) (.cells #[.int .i64 id, .int .i64 c] 34)).drew
            refine hK.out _ _ ?_ (fun hHeld => ?_)
            · exact KX.out _ F7.out
            clear hK K
            refine wpAnyH_ready (rs := [1]) (by kernel_rfl) (by simp) ?_
            refine AllReadyH.cons rfl (fun K hK => ?_) AllReadyH.nil
            go_simp
            go_wp2_with (go_at_call 76; refine (CL.out _ (bT DQ.out F7.out)).mono ?_; rintro e w8 ⟨v7, rfl, o7, b7⟩)
            have F8 : Hid (Below wq.heap.size wq w8) := bT F7.out b7
            have o7' : w8.ownsRow (wq.heap.size + 1) 34 2 v7 pn (enCells pl) := by simpa using o7
            have O7 := Lib.hid o7'
            clear o7'
            have N8 : Hid (w8.heap[wq.heap.size]? = some (.cells #[.int .i64 id, .int .i64 c] 34)) := (b7.block wq.heap.size (by simp)).trans (new_at wq _)
            clear o7 b7
            refine hK.out _ _ ?_ (fun hHeld => ?_)
            · exact KX.out _ F8.out
            clear hK K
            have IN := Lib.hid (INS.out (wq.heap.size + 1) wq.heap.size c v7 w8 O7.out (by have := (Array.getElem?_eq_some_iff.1 N8.out).1; omega) N8.out (fun e => by have := (O7.out.lt _ e).1; omega))
            obtain ⟨BB, hBB, hBw⟩ : ∃ BB, BB = wq.heap.size + 1 ∧ w.heap.size ≤ BB := ⟨_, rfl, by have := DQ.out.size; omega⟩
            rw [← hBB] at IN
            have FX := Lib.hid (show ∀ W, Below BB w8 W → Below wq.heap.size wq W from fun W h => F8.out.trans (h.mono (by omega)))
            have BL := Lib.hid (show ∀ W, Below BB w8 W → Below w.heap.size w W from fun W h => bT DQ.out (FX.out W h))
            obtain ⟨s7, k7, rfl⟩ := own_v O7.out
            refine wpAnyH_ready (rs := [5]) (by kernel_rfl) (by simp) ?_
            refine AllReadyH.cons rfl (fun K hK => ?_) AllReadyH.nil
            go_simp
            go_wp2_with (go_at_call 75; refine IN.out.mono ?_; rintro e w9 ⟨v9, rfl, o9, b9⟩)
            have F9 := Lib.hid (FX.out w9 b9)
            have O9 := Lib.hid (own_mono o9 (show w.heap.size ≤ BB by omega))
            have G9 := Lib.hid (BL.out w9 b9)
            clear o9 b9 IN
            refine hK.out _ _ ?_ (fun hHeld => ?_)
            · exact KX.out _ F9.out
            clear hK K
            refine wpAnyH_take (i := 6) (oi := _) (v := ?_) rfl (by kernel_rfl) (by kernel_rfl) (by kernel_rfl) (fun _ _ _ h => h) (Or.inl ⟨by rfl, ?_⟩) (by assumption) ?_
            rotate_left
            · first | (intro w hSw; (try dsimp only at hSw); go_simp; done) | (intro w hSw; (try dsimp only at hSw); go_simp; with_reducible rfl)
            try simp only [Act.put, List.setIfInBounds_toArray, List.set_cons_zero, List.set_cons_succ, List.getElem_toArray, List.getElem_cons_succ, List.getElem_cons_zero]
            refine wpAnyH_done (by kernel_rfl) ?_ _
            go_wp2
            go_ret
            exact ⟨_, rfl, by rw [ER.out]; show World.ownsRow _ _ _ _ _ (withL pl (id, c)).length _; rw [PN.out c, WC.out]; exact O9.out, G9.out⟩
        · have ER := Lib.hid (show addL ps pl id (ds.drop (k + 1)) = R by rw [← HA.out, ASK.out, if_neg hf])
          have hf' : fitB ps pl (id, c) = false := by simpa using hf
          rw [hf'] at CF
          clear ASK HA AS AE NP
          go_wp2_with fail
          refine CF.out.mono ?_
          rintro e wq ⟨rfl, bq⟩
          have BQ := Lib.hid (bT HB.out (bT BP.out bq))
          clear bq CF BP DP
          go_wp2
          go_roundw
          case rel => exact ⟨k + 1, by go_num, by omega, ER, BQ⟩
          case measure => simp [intOf]; omega
      · have h1' : ¬ (k : Int) < (dn : Int) := by omega
        have ER := Lib.hid (show R = [] by rw [← HA.out]; exact AE.out k (by omega))
        have DW := Lib.hid (bT D5.out HB.out)
        clear AS AE HA
        go_wp2
        go_ret
        exact ⟨_, rfl, by rw [ER.out]; exact ⟨rfl, .inl ⟨rfl, rfl⟩⟩, DW.out⟩
  · rw [addA_no (fun g => c1 g.1)]
    have c1' : planB rs ps top pl = false := by simpa using c1
    rw [c1'] at E1
    clear hz hp hw hi c1 c1' hn hl HT
    generalize rs.length = rn at *
    generalize ps.length = pq at *
    generalize pl.length = pn at *
    go_enter Try.func16, Try.ntmps16
    go_wp2_with fail
    refine E1.out.mono ?_
    rintro e w1 ⟨rfl, b1⟩
    have D1 := Lib.hid (bT B0.out b1)
    clear b1 E1 B0
    go_wp2
    go_ret
    exact ⟨_, rfl, ⟨rfl, .inl ⟨rfl, rfl⟩⟩, D1.out⟩

end Go.Proofs.Ytdmfljejlhlbnaa
namespace Go.Proofs.Ytdmfljejlhlbnaa
open Go.RowKit
set_option linter.unusedVariables false

/-- What is still to come. -/
def restL (pl : List LPl) (x : LPl) (d : Bool) (k : Nat) : List LPl := if d = true then pl.drop k else withL (pl.drop k) x
theorem rest_done (pl : List LPl) (x p : LPl) (k : Nat) (h : k < pl.length) (hp : pl[k] = p) : restL pl x true k = p :: restL pl x true (k + 1) := by
  subst hp
  simp only [restL, if_true]
  exact List.drop_eq_getElem_cons h
theorem rest_now (pl : List LPl) (x p : LPl) (k : Nat) (h : k < pl.length) (hp : pl[k] = p) (hg : x.1 < p.1) : restL pl x false k = x :: p :: restL pl x true (k + 1) := by
  subst hp
  simp only [restL, if_true, Bool.false_eq_true, if_false]
  rw [List.drop_eq_getElem_cons h, withL, if_pos hg]
theorem rest_not (pl : List LPl) (x p : LPl) (k : Nat) (h : k < pl.length) (hp : pl[k] = p) (hg : ¬ x.1 < p.1) : restL pl x false k = p :: restL pl x false (k + 1) := by
  subst hp
  simp only [restL, Bool.false_eq_true, if_false]
  rw [List.drop_eq_getElem_cons h, withL, if_neg hg]
theorem rest_end (pl : List LPl) (x : LPl) (d : Bool) (k : Nat) (h : pl.length ≤ k) : restL pl x d k = if d = true then [] else [x] := by
  unfold restL
  rw [List.drop_of_length_le h]
  rfl

theorem bAM {M : Nat} {W w : World} (h : Below M W w) (hs : M ≤ w.heap.size) (o : Obj) : Below M W (w.alloc o) := h.alloc hs o
set_option maxRecDepth 100000 in
set_option maxHeartbeats 4000000 in
/-- spec.l05With. -/
theorem wi_any (sl : Option Addr) (cap : Nat) (pl : List LPl) (id c : Int) (w : World) (hn : pl.length ≤ 1000) (hz : Pls w sl pl) :
    Calls Try.prog 70 #[.slice sl pl.length cap, .agg #[.int .i64 id, .int .i64 c]] w fun e w' => ∃ v, e = .returned v ∧ w'.ownsRow w.heap.size 34 2 v (withL pl (id, c)).length (enCells (withL pl (id, c))) ∧ Below w.heap.size w w' := by
  have B0 := Lib.hid (bA0 w (.cells #[.int .i64 id, .int .i64 c] 34))
  have N0 := Lib.hid (new_at w (.cells #[.int .i64 id, .int .i64 c] 34))
  have HZ := Lib.hid (hz.below B0.out)
  have hM : (w.alloc (.cells #[.int .i64 id, .int .i64 c] 34)).heap.size = w.heap.size + 1 := by simp
  have O0 := Lib.hid (own_none2 (w.alloc (.cells #[.int .i64 id, .int .i64 c] 34)))
  have B1 := Lib.hid (bA0 (w.alloc (.cells #[.int .i64 id, .int .i64 c] 34)) (.cells #[] 34))
  rw [hM] at O0 B1
  have HL := Lib.hid (withL_len pl (id, c))
  have KX : Hid (∀ W, Below (w.heap.size + 1) (w.alloc (.cells #[.int .i64 id, .int .i64 c] 34)) W → w.heap.size < W.heap.size ∧ W.cell? ⟨w.heap.size, 0, none⟩ = some (.int .i64 id) ∧ W.cell? ⟨w.heap.size, 1, none⟩ = some (.int .i64 c)) := fun W hW => by
    have hb : W.heap[w.heap.size]? = some (.cells #[.int .i64 id, .int .i64 c] 34) := (hW.block _ (Nat.lt_succ_self _)).trans N0.out
    exact ⟨(Array.getElem?_eq_some_iff.1 hb).1, by simp [World.cell?, hb], by simp [World.cell?, hb]⟩
  have PX : Hid (∀ W, Below (w.heap.size + 1) (w.alloc (.cells #[.int .i64 id, .int .i64 c] 34)) W → Pls W sl pl) := fun W hW => HZ.out.below (by rw [hM]; exact hW)
  have BX : Hid (∀ W, Below (w.heap.size + 1) (w.alloc (.cells #[.int .i64 id, .int .i64 c] 34)) W → Below w.heap.size w W) := fun W hW => B0.out.trans (hW.mono (by omega))
  have SX : Hid (∀ W, Below (w.heap.size + 1) (w.alloc (.cells #[.int .i64 id, .int .i64 c] 34)) W → w.heap.size + 1 ≤ W.heap.size) := fun W hW => by have := hW.size; rw [hM] at this; exact this
  have RE : Hid (∀ d k, pl.length ≤ k → restL pl (id, c) d k = if d = true then [] else [(id, c)]) := fun d k h => rest_end pl (id, c) d k h
  have R0 : Hid (withL pl (id, c) = [] ++ restL pl (id, c) false 0) := rfl
  clear hz N0 HZ B0 hM
  generalize hW : withL pl (id, c) = ws at *
  clear hW
  generalize hN : pl.length = n at *
  have HN := Lib.hid hN
  clear hN
  go_enter Try.func70, Try.ntmps70
  go_wp2
  generalize (w.alloc (.cells #[.int .i64 id, .int .i64 c] 34)).alloc (.cells #[] 34) = w2 at *
  generalize w.alloc (.cells #[.int .i64 id, .int .i64 c] 34) = w1 at *
  go_loopw [5, 6, 7] (fun v d i wr => ∃ (k : Nat) (b : Bool) (ks : List LPl), i = .int .i64 k ∧ d = .bool b ∧ k ≤ n ∧ Hid (wr.ownsRow (w.heap.size + 1) 34 2 v ks.length (enCells ks)) ∧ Hid (ws = ks ++ restL pl (id, c) b k) ∧ Hid (Below (w.heap.size + 1) w1 wr)) (fun _ _ i _ => n - (intOf i).toNat)
  case atStart => exact ⟨0, false, [], rfl, rfl, Nat.zero_le _, O0, R0, B1⟩
  case round =>
    obtain ⟨k, b, ks, rfl, rfl, hk, OW, RW, BW⟩ := hrel
    clear O0 R0 B1
    have hk0 : (0 : Int) ≤ (k : Int) := by omega
    have hkl : ks.length ≤ n + 1 := by have := congrArg List.length RW.out; rw [HL.out, List.length_append] at this; omega
    by_cases h1 : k < n
    · have h1' : (k : Int) < (n : Int) := by omega
      have hlt : k < pl.length := by rw [HN.out]; exact h1
      obtain ⟨cb, co, rfl⟩ : ∃ cb co, sl = some ⟨cb, co, none⟩ := by
        rcases PX.out _ BW.out with e | ⟨cb, co, e, _⟩
        · rw [e] at hlt; simp at hlt
        · exact ⟨cb, co, e⟩
      obtain ⟨⟨y0, y1⟩, hp⟩ : ∃ p, pl[k]'hlt = p := ⟨_, rfl⟩
      have CX : Hid (∀ W, Below (w.heap.size + 1) w1 W → cb < W.heap.size ∧ W.cell? ⟨cb, co + k * 2, none⟩ = some (.int .i64 y0) ∧ W.cell? ⟨cb, co + k * 2 + 1, none⟩ = some (.int .i64 y1)) := fun W hW => by
        rcases PX.out W hW with e | ⟨c', o', e, h⟩
        · rw [e] at hlt; simp at hlt
        · cases e; have := h.cell k hlt; rw [hp] at this; exact ⟨h.lt, this⟩
      have OD : Hid (wr.drew.ownsRow (w.heap.size + 1) 34 2 _ ks.length (enCells ks)) := OW.out
      have BD := Lib.hid BW.out.drew
      cases b with
      | true =>
        have RK := Lib.hid (rest_done pl (id, c) _ k hlt hp)
        clear hlt hp
        have RQ := Lib.hid (show ws = (ks ++ [(y0, y1)]) ++ restL pl (id, c) true (k + 1) by rw [RW.out, RK.out]; simp)
        clear RK RW OW
        go_wp2_with fail
        refine wp_region_held_drew (S := fun W => True) (by kernel_rfl) ?_ (fun hHeld => ?_)
        · exact trivial
        refine wpAnyH_take (i := 0) (oi := _) (v := ?_) rfl (by kernel_rfl) (by kernel_rfl) (by kernel_rfl) (fun _ _ _ h => h) (Or.inl ⟨by rfl, ?_⟩) (by assumption) ?_
        rotate_left
        · first | (intro w hSw; (try dsimp only at hSw); go_simp; done) | (intro w hSw; (try dsimp only at hSw); go_simp; with_reducible rfl)
        try simp only [Act.put, List.setIfInBounds_toArray, List.set_cons_zero, List.set_cons_succ, List.getElem_toArray, List.getElem_cons_zero]
        refine wpAnyH_take (i := 1) (oi := _) (v := ?_) rfl (by kernel_rfl) (by kernel_rfl) (by kernel_rfl) (fun _ _ _ h => h) (Or.inl ⟨by rfl, ?_⟩) (by assumption) ?_
        rotate_left
        · first | (intro w hSw; (try dsimp only at hSw); go_simp; done) | (intro w hSw; (try dsimp only at hSw); go_simp; with_reducible rfl)
        try simp only [Act.put, List.setIfInBounds_toArray, List.set_cons_zero, List.set_cons_succ, List.getElem_toArray, List.getElem_cons_succ, List.getElem_cons_zero]
        refine wpAnyH_take (i := 2) (oi := _) (v := ?_) rfl (by kernel_rfl) (by kernel_rfl) (by kernel_rfl) (fun _ _ _ h => h) (Or.inl ⟨by rfl, ?_⟩) (by assumption) ?_
        rotate_left
        · first | (intro w hSw; (try dsimp only at hSw); go_simp; done) | (intro w hSw; (try dsimp only at hSw); go_simp; with_reducible rfl)
        try simp only [Act.put, List.setIfInBounds_toArray, List.set_cons_zero, List.set_cons_succ, List.getElem_toArray, List.getElem_cons_succ, List.getElem_cons_zero]
        refine wpAnyH_take (i := 3) (oi := _) (v := undef) rfl (by kernel_rfl) (by kernel_rfl) (by kernel_rfl) (fun _ _ _ h => h) (Or.inr ⟨by rfl, rfl⟩) (by assumption) ?_
        try simp only [Act.put, List.setIfInBounds_toArray, List.set_cons_zero, List.set_cons_succ, List.getElem_toArray, List.getElem_cons_succ, List.getElem_cons_zero]
        refine wpAnyH_take (i := 4) (oi := _) (v := undef) rfl (by kernel_rfl) (by kernel_rfl) (by kernel_rfl) (fun _ _ _ h => h) (Or.inr ⟨by rfl, rfl⟩) (by assumption) ?_
        try simp only [Act.put, List.setIfInBounds_toArray, List.set_cons_zero, List.set_cons_succ, List.getElem_toArray, List.getElem_cons_succ, List.getElem_cons_zero]
        refine wpAnyH_take (i := 5) (oi := _) (v := undef) rfl (by kernel_rfl) (by kernel_rfl) (by kernel_rfl) (fun _ _ _ h => h) (Or.inr ⟨by rfl, rfl⟩) (by assumption) ?_
        try simp only [Act.put, List.setIfInBounds_toArray, List.set_cons_zero, List.set_cons_succ, List.getElem_toArray, List.getElem_cons_succ, List.getElem_cons_zero]
        refine wpAnyH_take (i := 6) (oi := _) (v := undef) rfl (by kernel_rfl) (by kernel_rfl) (by kernel_rfl) (fun _ _ _ h => h) (Or.inr ⟨by rfl, rfl⟩) (by assumption) ?_
        try simp only [Act.put, List.setIfInBounds_toArray, List.set_cons_zero, List.set_cons_succ, List.getElem_toArray, List.getElem_cons_succ, List.getElem_cons_zero]
        refine wpAnyH_take (i := 7) (oi := _) (v := undef) rfl (by kernel_rfl) (by kernel_rfl) (by kernel_rfl) (fun _ _ _ h => h) (Or.inr ⟨by rfl, rfl⟩) (by assumption) ?_
        try simp only [Act.put, List.setIfInBounds_toArray, List.set_cons_zero, List.set_cons_succ, List.getElem_toArray, List.getElem_cons_succ, List.getElem_cons_zero]
        refine wpAnyH_take (i := 8) (oi := _) (v := undef) rfl (by kernel_rfl) (by kernel_rfl) (by kernel_rfl) (fun _ _ _ h => h) (Or.inr ⟨by rfl, rfl⟩) (by assumption) ?_
        try simp only [Act.put, List.setIfInBounds_toArray, List.set_cons_zero, List.set_cons_succ, List.getElem_toArray, List.getElem_cons_succ, List.getElem_cons_zero]
        refine wpAnyH_take (i := 9) (oi := _) (v := undef) rfl (by kernel_rfl) (by kernel_rfl) (by kernel_rfl) (fun _ _ _ h => h) (Or.inr ⟨by rfl, rfl⟩) (by assumption) ?_
        try simp only [Act.put, List.setIfInBounds_toArray, List.set_cons_zero, List.set_cons_succ, List.getElem_toArray, List.getElem_cons_succ, List.getElem_cons_zero]
        refine wpAnyH_take (i := 10) (oi := _) (v := undef) rfl (by kernel_rfl) (by kernel_rfl) (by kernel_rfl) (fun _ _ _ h => h) (Or.inr ⟨by rfl, rfl⟩) (by assumption) ?_
        try simp only [Act.put, List.setIfInBounds_toArray, List.set_cons_zero, List.set_cons_succ, List.getElem_toArray, List.getElem_cons_succ, List.getElem_cons_zero]
        refine wpAnyH_take (i := 11) (oi := _) (v := ?_) rfl (by kernel_rfl) (by kernel_rfl) (by kernel_rfl) (fun _ _ _ h => h) (Or.inl ⟨by rfl, ?_⟩) (by assumption) ?_
        rotate_left
        · first | (intro w hSw; (try dsimp only at hSw); go_simp; done) | (intro w hSw; (try dsimp only at hSw); go_simp; with_reducible rfl)
        try simp only [Act.put, List.setIfInBounds_toArray, List.set_cons_zero, List.set_cons_succ, List.getElem_toArray, List.getElem_cons_succ, List.getElem_cons_zero]
        refine wpAnyH_done (by kernel_rfl) ?_ _
        generalize wr.drew = wd at *
        obtain ⟨e0, e1, e2⟩ := CX.out _ BD.out
        have s9 := SX.out _ BD.out
        obtain ⟨v9, w9, hr9, ow9, gr9, lo9⟩ := appP (OD.out.alloc (.cells #[.int .i64 y0, .int .i64 y1] 34)) 1 (pls_one (new_at wd _)) (by simp; omega) (by simp; omega)
        have hr9' := hr9 27
        have B9 := Lib.hid ((bAM BD.out s9 (.cells #[.int .i64 y0, .int .i64 y1] 34)).grown gr9 (by simp; omega) lo9)
        have O9 := Lib.hid ow9
        clear hr9 ow9 gr9 lo9
        go_wp2_with (at_builtin; refine Lib.wpList_append_run _ rfl _ _ _ _ rfl _ _ rfl rfl _ _ hr9' ?_)
        go_roundw
        case rel => exact ⟨k + 1, true, _, by go_num, rfl, by omega, O9, RQ, B9⟩
        case measure => simp [intOf]; omega
      | false =>
        by_cases hg : id < y0
        · have RK := Lib.hid (rest_now pl (id, c) _ k hlt hp hg)
          have RQ := Lib.hid (show ws = ((ks ++ [(id, c)]) ++ [(y0, y1)]) ++ restL pl (id, c) true (k + 1) by rw [RW.out, RK.out]; simp)
          clear hlt hp
          have hg' : y0 > id := hg
          have KS := Lib.hid (And.intro (KX.out _ BD.out) (CX.out _ BD.out))
          clear RK RW OW
          go_wp2_with fail
          refine wp_region_held_drew (S := fun W => (w.heap.size < W.heap.size ∧ W.cell? ⟨w.heap.size, 0, none⟩ = some (.int .i64 id) ∧ W.cell? ⟨w.heap.size, 1, none⟩ = some (.int .i64 c)) ∧ cb < W.heap.size ∧ W.cell? ⟨cb, co + k * 2, none⟩ = some (.int .i64 y0) ∧ W.cell? ⟨cb, co + k * 2 + 1, none⟩ = some (.int .i64 y1)) (by kernel_rfl) ?_ (fun hHeld => ?_)
          · exact KS.out
          refine wpAnyH_take (i := 0) (oi := _) (v := ?_) rfl (by kernel_rfl) (by kernel_rfl) (by kernel_rfl) (fun _ _ _ h => h) (Or.inl ⟨by rfl, ?_⟩) (by assumption) ?_
          rotate_left
          · first | (intro w hSw; (try dsimp only at hSw); go_simp; done) | (intro w hSw; (try dsimp only at hSw); go_simp; with_reducible rfl)
          try simp only [Act.put, List.setIfInBounds_toArray, List.set_cons_zero, List.set_cons_succ, List.getElem_toArray, List.getElem_cons_zero]
          refine wpAnyH_take (i := 1) (oi := _) (v := ?_) rfl (by kernel_rfl) (by kernel_rfl) (by kernel_rfl) (fun _ _ _ h => h) (Or.inl ⟨by rfl, ?_⟩) (by assumption) ?_
          rotate_left
          · first | (intro w hSw; (try dsimp only at hSw); go_simp; done) | (intro w hSw; (try dsimp only at hSw); go_simp; with_reducible rfl)
          try simp only [Act.put, List.setIfInBounds_toArray, List.set_cons_zero, List.set_cons_succ, List.getElem_toArray, List.getElem_cons_succ, List.getElem_cons_zero]
          refine wpAnyH_take (i := 2) (oi := _) (v := ?_) rfl (by kernel_rfl) (by kernel_rfl) (by kernel_rfl) (fun _ _ _ h => h) (Or.inl ⟨by rfl, ?_⟩) (by assumption) ?_
          rotate_left
          · first | (intro w hSw; (try dsimp only at hSw); go_simp; done) | (intro w hSw; (try dsimp only at hSw); go_simp; with_reducible rfl)
          try simp only [Act.put, List.setIfInBounds_toArray, List.set_cons_zero, List.set_cons_succ, List.getElem_toArray, List.getElem_cons_succ, List.getElem_cons_zero]
          refine wpAnyH_take (i := 3) (oi := _) (v := ?_) rfl (by kernel_rfl) (by kernel_rfl) (by kernel_rfl) (fun _ _ _ h => h) (Or.inl ⟨by rfl, ?_⟩) (by assumption) ?_
          rotate_left
          · first | (intro w hSw; (try dsimp only at hSw); go_simp; done) | (intro w hSw; (try dsimp only at hSw); go_simp; with_reducible rfl)
          try simp only [Act.put, List.setIfInBounds_toArray, List.set_cons_zero, List.set_cons_succ, List.getElem_toArray, List.getElem_cons_succ, List.getElem_cons_zero]
          refine wpAnyH_take (i := 4) (oi := _) (v := ?_) rfl (by kernel_rfl) (by kernel_rfl) (by kernel_rfl) (fun _ _ _ h => h) (Or.inl ⟨by rfl, ?_⟩) (by assumption) ?_
          rotate_left
          · first | (intro w hSw; (try dsimp only at hSw); go_simp; done) | (intro w hSw; (try dsimp only at hSw); go_simp; with_reducible rfl)
          try simp only [Act.put, List.setIfInBounds_toArray, List.set_cons_zero, List.set_cons_succ, List.getElem_toArray, List.getElem_cons_succ, List.getElem_cons_zero]
          refine wpAnyH_take (i := 5) (oi := _) (v := ?_) rfl (by kernel_rfl) (by kernel_rfl) (by kernel_rfl) (fun _ _ _ h => h) (Or.inl ⟨by rfl, ?_⟩) (by assumption) ?_
          rotate_left
          · first | (intro w hSw; (try dsimp only at hSw); go_simp; done) | (intro w hSw; (try dsimp only at hSw); go_simp; with_reducible rfl)
          try simp only [Act.put, List.setIfInBounds_toArray, List.set_cons_zero, List.set_cons_succ, List.getElem_toArray, List.getElem_cons_succ, List.getElem_cons_zero]
          refine wpAnyH_take (i := 6) (oi := _) (v := ?_) rfl (by kernel_rfl) (by kernel_rfl) (by kernel_rfl) (fun _ _ _ h => h) (Or.inl ⟨by rfl, ?_⟩) (by assumption) ?_
          rotate_left
          · first | (intro w hSw; (try dsimp only at hSw); go_simp; done) | (intro w hSw; (try dsimp only at hSw); go_simp; with_reducible rfl)
          try simp only [Act.put, List.setIfInBounds_toArray, List.set_cons_zero, List.set_cons_succ, List.getElem_toArray, List.getElem_cons_succ, List.getElem_cons_zero]
          refine wpAnyH_take (i := 7) (oi := _) (v := ?_) rfl (by kernel_rfl) (by kernel_rfl) (by kernel_rfl) (fun _ _ _ h => h) (Or.inl ⟨by rfl, ?_⟩) (by assumption) ?_
          rotate_left
          · first | (intro w hSw; (try dsimp only at hSw); go_simp; done) | (intro w hSw; (try dsimp only at hSw); go_simp; with_reducible rfl)
          try simp only [Act.put, List.setIfInBounds_toArray, List.set_cons_zero, List.set_cons_succ, List.getElem_toArray, List.getElem_cons_succ, List.getElem_cons_zero]
          refine wpAnyH_take (i := 8) (oi := _) (v := ?_) rfl (by kernel_rfl) (by kernel_rfl) (by kernel_rfl) (fun _ _ _ h => h) (Or.inl ⟨by rfl, ?_⟩) (by assumption) ?_
          rotate_left
          · first | (intro w hSw; (try dsimp only at hSw); go_simp; done) | (intro w hSw; (try dsimp only at hSw); go_simp; with_reducible rfl)
          try simp only [Act.put, List.setIfInBounds_toArray, List.set_cons_zero, List.set_cons_succ, List.getElem_toArray, List.getElem_cons_succ, List.getElem_cons_zero]
          refine wpAnyH_take (i := 9) (oi := _) (v := ?_) rfl (by kernel_rfl) (by kernel_rfl) (by kernel_rfl) (fun _ _ _ h => h) (Or.inl ⟨by rfl, ?_⟩) (by assumption) ?_
          rotate_left
          · first | (intro w hSw; (try dsimp only at hSw); go_simp; done) | (intro w hSw; (try dsimp only at hSw); go_simp; with_reducible rfl)
          try simp only [Act.put, List.setIfInBounds_toArray, List.set_cons_zero, List.set_cons_succ, List.getElem_toArray, List.getElem_cons_succ, List.getElem_cons_zero]
          refine wpAnyH_take (i := 10) (oi := _) (v := ?_) rfl (by kernel_rfl) (by kernel_rfl) (by kernel_rfl) (fun _ _ _ h => h) (Or.inl ⟨by rfl, ?_⟩) (by assumption) ?_
          rotate_left
          · first | (intro w hSw; (try dsimp only at hSw); go_simp; done) | (intro w hSw; (try dsimp only at hSw); go_simp; with_reducible rfl)
          try simp only [Act.put, List.setIfInBounds_toArray, List.set_cons_zero, List.set_cons_succ, List.getElem_toArray, List.getElem_cons_succ, List.getElem_cons_zero]
          refine wpAnyH_take (i := 11) (oi := _) (v := ?_) rfl (by kernel_rfl) (by kernel_rfl) (by kernel_rfl) (fun _ _ _ h => h) (Or.inl ⟨by rfl, ?_⟩) (by assumption) ?_
          rotate_left
          · first | (intro w hSw; (try dsimp only at hSw); go_simp; done) | (intro w hSw; (try dsimp only at hSw); go_simp; with_reducible rfl)
          try simp only [Act.put, List.setIfInBounds_toArray, List.set_cons_zero, List.set_cons_succ, List.getElem_toArray, List.getElem_cons_succ, List.getElem_cons_zero]
          refine wpAnyH_done (by kernel_rfl) ?_ _
          clear KS
          generalize wr.drew = wd at *
          obtain ⟨q0, q1, q2⟩ := KX.out _ BD.out
          have s7 := SX.out _ BD.out
          obtain ⟨v7, w7, hr7, ow7, gr7, lo7⟩ := appP (OD.out.alloc (.cells #[.int .i64 id, .int .i64 c] 34)) 1 (pls_one (new_at wd _)) (by simp; omega) (by simp; omega)
          have hr7' := hr7 27
          have B7 := Lib.hid ((bAM BD.out s7 (.cells #[.int .i64 id, .int .i64 c] 34)).grown gr7 (by simp; omega) lo7)
          have O7 := Lib.hid ow7
          clear hr7 ow7 gr7 lo7
          have hkl7 : (ks ++ [(id, c)]).length ≤ n + 2 := by simp; omega
          obtain ⟨e0, e1, e2⟩ := CX.out _ B7.out
          have s9 := SX.out _ B7.out
          obtain ⟨v9, w9, hr9, ow9, gr9, lo9⟩ := appP (O7.out.alloc (.cells #[.int .i64 y0, .int .i64 y1] 34)) 1 (pls_one (new_at w7 _)) (by simp; omega) (by simp; omega)
          have hr9' := hr9 27
          have B9 := Lib.hid ((bAM B7.out s9 (.cells #[.int .i64 y0, .int .i64 y1] 34)).grown gr9 (by simp; omega) lo9)
          have O9 := Lib.hid ow9
          clear hr9 ow9 gr9 lo9
          go_wp2_with (first | (at_builtin; refine Lib.wpList_append_run _ rfl _ _ _ _ rfl _ _ rfl rfl _ _ hr7' ?_) | (at_builtin; refine Lib.wpList_append_run _ rfl _ _ _ _ rfl _ _ rfl rfl _ _ hr9' ?_))
          go_roundw
          case rel => exact ⟨k + 1, true, _, by go_num, rfl, by omega, O9, RQ, B9⟩
          case measure => simp [intOf]; omega
        · have RK := Lib.hid (rest_not pl (id, c) _ k hlt hp hg)
          have RQ := Lib.hid (show ws = (ks ++ [(y0, y1)]) ++ restL pl (id, c) false (k + 1) by rw [RW.out, RK.out]; simp)
          clear hlt hp
          have hg' : ¬ y0 > id := fun h => hg h
          have KS := Lib.hid (And.intro (KX.out _ BD.out) (CX.out _ BD.out))
          clear RK RW OW
          go_wp2_with fail
          refine wp_region_held_drew (S := fun W => (w.heap.size < W.heap.size ∧ W.cell? ⟨w.heap.size, 0, none⟩ = some (.int .i64 id) ∧ W.cell? ⟨w.heap.size, 1, none⟩ = some (.int .i64 c)) ∧ cb < W.heap.size ∧ W.cell? ⟨cb, co + k * 2, none⟩ = some (.int .i64 y0) ∧ W.cell? ⟨cb, co + k * 2 + 1, none⟩ = some (.int .i64 y1)) (by kernel_rfl) ?_ (fun hHeld => ?_)
          · exact KS.out
          refine wpAnyH_take (i := 0) (oi := _) (v := ?_) rfl (by kernel_rfl) (by kernel_rfl) (by kernel_rfl) (fun _ _ _ h => h) (Or.inl ⟨by rfl, ?_⟩) (by assumption) ?_
          rotate_left
          · first | (intro w hSw; (try dsimp only at hSw); go_simp; done) | (intro w hSw; (try dsimp only at hSw); go_simp; with_reducible rfl)
          try simp only [Act.put, List.setIfInBounds_toArray, List.set_cons_zero, List.set_cons_succ, List.getElem_toArray, List.getElem_cons_zero]
          refine wpAnyH_take (i := 1) (oi := _) (v := ?_) rfl (by kernel_rfl) (by kernel_rfl) (by kernel_rfl) (fun _ _ _ h => h) (Or.inl ⟨by rfl, ?_⟩) (by assumption) ?_
          rotate_left
          · first | (intro w hSw; (try dsimp only at hSw); go_simp; done) | (intro w hSw; (try dsimp only at hSw); go_simp; with_reducible rfl)
          try simp only [Act.put, List.setIfInBounds_toArray, List.set_cons_zero, List.set_cons_succ, List.getElem_toArray, List.getElem_cons_succ, List.getElem_cons_zero]
          refine wpAnyH_take (i := 2) (oi := _) (v := ?_) rfl (by kernel_rfl) (by kernel_rfl) (by kernel_rfl) (fun _ _ _ h => h) (Or.inl ⟨by rfl, ?_⟩) (by assumption) ?_
          rotate_left
          · first | (intro w hSw; (try dsimp only at hSw); go_simp; done) | (intro w hSw; (try dsimp only at hSw); go_simp; with_reducible rfl)
          try simp only [Act.put, List.setIfInBounds_toArray, List.set_cons_zero, List.set_cons_succ, List.getElem_toArray, List.getElem_cons_succ, List.getElem_cons_zero]
          refine wpAnyH_take (i := 3) (oi := _) (v := ?_) rfl (by kernel_rfl) (by kernel_rfl) (by kernel_rfl) (fun _ _ _ h => h) (Or.inl ⟨by rfl, ?_⟩) (by assumption) ?_
          rotate_left
          · first | (intro w hSw; (try dsimp only at hSw); go_simp; done) | (intro w hSw; (try dsimp only at hSw); go_simp; with_reducible rfl)
          try simp only [Act.put, List.setIfInBounds_toArray, List.set_cons_zero, List.set_cons_succ, List.getElem_toArray, List.getElem_cons_succ, List.getElem_cons_zero]
          refine wpAnyH_take (i := 4) (oi := _) (v := ?_) rfl (by kernel_rfl) (by kernel_rfl) (by kernel_rfl) (fun _ _ _ h => h) (Or.inl ⟨by rfl, ?_⟩) (by assumption) ?_
          rotate_left
          · first | (intro w hSw; (try dsimp only at hSw); go_simp; done) | (intro w hSw; (try dsimp only at hSw); go_simp; with_reducible rfl)
          try simp only [Act.put, List.setIfInBounds_toArray, List.set_cons_zero, List.set_cons_succ, List.getElem_toArray, List.getElem_cons_succ, List.getElem_cons_zero]
          refine wpAnyH_take (i := 5) (oi := _) (v := ?_) rfl (by kernel_rfl) (by kernel_rfl) (by kernel_rfl) (fun _ _ _ h => h) (Or.inl ⟨by rfl, ?_⟩) (by assumption) ?_
          rotate_left
          · first | (intro w hSw; (try dsimp only at hSw); go_simp; done) | (intro w hSw; (try dsimp only at hSw); go_simp; with_reducible rfl)
          try simp only [Act.put, List.setIfInBounds_toArray, List.set_cons_zero, List.set_cons_succ, List.getElem_toArray, List.getElem_cons_succ, List.getElem_cons_zero]
          refine wpAnyH_take (i := 6) (oi := _) (v := ?_) rfl (by kernel_rfl) (by kernel_rfl) (by kernel_rfl) (fun _ _ _ h => h) (Or.inl ⟨by rfl, ?_⟩) (by assumption) ?_
          rotate_left
          · first | (intro w hSw; (try dsimp only at hSw); go_simp; done) | (intro w hSw; (try dsimp only at hSw); go_simp; with_reducible rfl)
          try simp only [Act.put, List.setIfInBounds_toArray, List.set_cons_zero, List.set_cons_succ, List.getElem_toArray, List.getElem_cons_succ, List.getElem_cons_zero]
          refine wpAnyH_take (i := 7) (oi := _) (v := ?_) rfl (by kernel_rfl) (by kernel_rfl) (by kernel_rfl) (fun _ _ _ h => h) (Or.inl ⟨by rfl, ?_⟩) (by assumption) ?_
          rotate_left
          · first | (intro w hSw; (try dsimp only at hSw); go_simp; done) | (intro w hSw; (try dsimp only at hSw); go_simp; with_reducible rfl)
          try simp only [Act.put, List.setIfInBounds_toArray, List.set_cons_zero, List.set_cons_succ, List.getElem_toArray, List.getElem_cons_succ, List.getElem_cons_zero]
          refine wpAnyH_take (i := 8) (oi := _) (v := ?_) rfl (by kernel_rfl) (by kernel_rfl) (by kernel_rfl) (fun _ _ _ h => h) (Or.inl ⟨by rfl, ?_⟩) (by assumption) ?_
          rotate_left
          · first | (intro w hSw; (try dsimp only at hSw); go_simp; done) | (intro w hSw; (try dsimp only at hSw); go_simp; with_reducible rfl)
          try simp only [Act.put, List.setIfInBounds_toArray, List.set_cons_zero, List.set_cons_succ, List.getElem_toArray, List.getElem_cons_succ, List.getElem_cons_zero]
          refine wpAnyH_take (i := 9) (oi := _) (v := ?_) rfl (by kernel_rfl) (by kernel_rfl) (by kernel_rfl) (fun _ _ _ h => h) (Or.inl ⟨by rfl, ?_⟩) (by assumption) ?_
          rotate_left
          · first | (intro w hSw; (try dsimp only at hSw); go_simp; done) | (intro w hSw; (try dsimp only at hSw); go_simp; with_reducible rfl)
          try simp only [Act.put, List.setIfInBounds_toArray, List.set_cons_zero, List.set_cons_succ, List.getElem_toArray, List.getElem_cons_succ, List.getElem_cons_zero]
          refine wpAnyH_take (i := 10) (oi := _) (v := ?_) rfl (by kernel_rfl) (by kernel_rfl) (by kernel_rfl) (fun _ _ _ h => h) (Or.inl ⟨by rfl, ?_⟩) (by assumption) ?_
          rotate_left
          · first | (intro w hSw; (try dsimp only at hSw); go_simp; done) | (intro w hSw; (try dsimp only at hSw); go_simp; with_reducible rfl)
          try simp only [Act.put, List.setIfInBounds_toArray, List.set_cons_zero, List.set_cons_succ, List.getElem_toArray, List.getElem_cons_succ, List.getElem_cons_zero]
          refine wpAnyH_take (i := 11) (oi := _) (v := ?_) rfl (by kernel_rfl) (by kernel_rfl) (by kernel_rfl) (fun _ _ _ h => h) (Or.inl ⟨by rfl, ?_⟩) (by assumption) ?_
          rotate_left
          · first | (intro w hSw; (try dsimp only at hSw); go_simp; done) | (intro w hSw; (try dsimp only at hSw); go_simp; with_reducible rfl)
          try simp only [Act.put, List.setIfInBounds_toArray, List.set_cons_zero, List.set_cons_succ, List.getElem_toArray, List.getElem_cons_succ, List.getElem_cons_zero]
          refine wpAnyH_done (by kernel_rfl) ?_ _
          clear KS
          generalize wr.drew = wd at *
          obtain ⟨e0, e1, e2⟩ := CX.out _ BD.out
          have s9 := SX.out _ BD.out
          obtain ⟨v9, w9, hr9, ow9, gr9, lo9⟩ := appP (OD.out.alloc (.cells #[.int .i64 y0, .int .i64 y1] 34)) 1 (pls_one (new_at wd _)) (by simp; omega) (by simp; omega)
          have hr9' := hr9 27
          have B9 := Lib.hid ((bAM BD.out s9 (.cells #[.int .i64 y0, .int .i64 y1] 34)).grown gr9 (by simp; omega) lo9)
          have O9 := Lib.hid ow9
          clear hr9 ow9 gr9 lo9
          go_wp2_with (at_builtin; refine Lib.wpList_append_run _ rfl _ _ _ _ rfl _ _ rfl rfl _ _ hr9' ?_)
          go_roundw
          case rel => exact ⟨k + 1, false, _, by go_num, rfl, by omega, O9, RQ, B9⟩
          case measure => simp [intOf]; omega
    · have h1' : ¬ (k : Int) < (n : Int) := by omega
      have RE' := Lib.hid (RE.out b k (by omega))
      cases b with
      | true =>
        have F := Lib.hid (show ws = ks by rw [RW.out, RE'.out]; simp)
        have OF := Lib.hid (own_mono OW.out (show w.heap.size ≤ w.heap.size + 1 by omega))
        rw [← F.out] at OF
        have BF := Lib.hid (BX.out _ BW.out)
        clear F RW OW RE'
        go_wp2
        go_ret
        exact ⟨_, rfl, OF.out, BF.out⟩
      | false =>
        have F := Lib.hid (show ws = ks ++ [(id, c)] by rw [RW.out, RE'.out]; simp)
        obtain ⟨q0, q1, q2⟩ := KX.out _ BW.out
        have s7 := SX.out _ BW.out
        obtain ⟨v7, w7, hr7, ow7, gr7, lo7⟩ := appP (OW.out.alloc (.cells #[.int .i64 id, .int .i64 c] 34)) 1 (pls_one (new_at wr _)) (by simp; omega) (by simp; omega)
        have hr7' := hr7 27
        have B7 := Lib.hid ((bAM BW.out s7 (.cells #[.int .i64 id, .int .i64 c] 34)).grown gr7 (by simp; omega) lo7)
        have OF : Hid (w7.ownsRow w.heap.size 34 2 v7 ws.length (enCells ws)) := by
          show w7.ownsRow _ _ _ _ _ _
          rw [F.out]; exact own_mono ow7 (by omega)
        have BF := Lib.hid (BX.out _ B7.out)
        clear hr7 ow7 gr7 lo7 F RW OW RE' B7
        go_wp2_with (at_builtin; refine Lib.wpList_append_run _ rfl _ _ _ _ rfl _ _ rfl rfl _ _ hr7' ?_)
        go_ret
        exact ⟨_, rfl, OF.out, BF.out⟩

end Go.Proofs.Ytdmfljejlhlbnaa
namespace Go.Proofs.Ytdmfljejlhlbnaa
open Go.RowKit
set_option linter.unusedVariables false

theorem own_row2 {w : World} {B : Nat} {v : Value} {pl : List LPl} (h : w.ownsRow B 34 2 v pl.length (enCells pl)) : ∃ s k, v = .slice s pl.length k ∧ Pls w s pl := by
  obtain ⟨s, k, e, h⟩ := own_pls h
  refine ⟨s, k, e, ?_⟩
  rcases h with h | ⟨c, e, h, _⟩
  · exact .inl h
  · exact .inr ⟨c, 0, e, h⟩
/-- An empty answer, just made. -/
theorem own_empty {w W : World} (h : Below w.heap.size w W) : (W.alloc (.cells #[] 34)).ownsRow w.heap.size 34 2 (.slice (some ⟨W.heap.size, 0, none⟩) 0 0) ([] : List LPl).length (enCells []) ∧ Below w.heap.size w (W.alloc (.cells #[] 34)) :=
  ⟨own_mono (own_none2 W) h.size, bA h _⟩

set_option maxRecDepth 100000 in
set_option maxHeartbeats 8000000 in
/-- spec.PlanAdd. -/
theorem spa_any (sl : Option Addr) (cap : Nat) (sl2 : Option Addr) (cap2 : Nat) (sl3 : Option Addr) (cap3 : Nat) (rs : List LSt) (ps : List LPr) (pl : List LPl) (top id : Int) (w : World) (hn : rs.length ≤ 1048576) (hl : pl.length ≤ 1048576) (hz : Sts w sl rs) (hp : Prs w sl2 ps) (hi : Pls w sl3 pl) :
    Calls Try.prog 15 #[TV sl rs.length cap sl2 ps.length cap2, .int .i64 top, .slice sl3 pl.length cap3, .int .i64 id] w fun e w' => ∃ v, e = .returned v ∧ w'.ownsRow w.heap.size 34 2 v (addA rs ps top pl id).length (enCells (addA rs ps top pl id)) ∧ Below w.heap.size w w' := by
  have HT := Lib.hid (TabAt.new w sl rs.length cap sl2 ps.length cap2)
  have B0 := Lib.hid (bA0 w (.cells #[.slice sl rs.length cap, .slice sl2 ps.length cap2] 26))
  have E1 := Lib.hid (spr_any sl cap sl2 cap2 sl3 cap3 rs ps pl top _ hn hl (hz.below B0.out) (hp.below B0.out) (hi.below B0.out))
  have EE := Lib.hid (fun W (h : Below w.heap.size w W) => own_empty h)
  obtain ⟨t0, t1⟩ := HT.out.cells
  have tl := HT.out.lt
  by_cases c1 : planB rs ps top pl = true
  · rw [c1] at E1
    have ok := (planB_ok rs ps top pl).1 c1
    have TR := ok.ids.2.1
    have E2 : Hid (∀ W, Below w.heap.size w W → Calls Try.prog 24 #[.slice sl3 pl.length cap3] W fun e w' => ∃ v, e = .returned v ∧ w'.ownsRow W.heap.size 2 1 v (pidsL pl).length (valsZ (pidsL pl)) ∧ Below W.heap.size W w') := fun W hW => by
      have := spi_any sl3 cap3 pl W (by unfold maxLen; omega) (hi.below hW)
      rwa [show pidsA pl = pidsL pl from if_pos ok.ln] at this
    have E3 : Hid (∀ s k W, Ints W s (pidsL pl) → Calls Try.prog 68 #[.slice s (pidsL pl).length k, .int .i64 id] W fun e w' => e = .returned (.bool (B (id ∈ pidsL pl))) ∧ w' = W) := fun s k W hi' => lh_any s k (pidsL pl) id W (by rw [pidsL_len]; unfold maxLen; omega) hi'
    have OI := Lib.hid (fun B v (W : World) (o : W.ownsRow B 2 1 v (pidsL pl).length (valsZ (pidsL pl))) => own_ints o)
    by_cases c2 : id ∈ pidsL pl
    · rw [addA_no (fun g => g.2 c2)]
      rw [B_yes c2] at E3
      clear hz hp hi c1 ok TR c2 hn hl
      generalize rs.length = rn at *
      generalize ps.length = pq at *
      generalize pl.length = pn at *
      generalize pidsL pl = pd at *
      go_enter Try.func15, Try.ntmps15
      go_wp2_with fail
      refine E1.out.mono ?_
      rintro e w1 ⟨rfl, b1⟩
      have D1 := Lib.hid (bT B0.out b1)
      clear b1 E1 HT B0 t0 t1 tl
      go_wp2_with fail
      refine (E2.out _ D1.out).mono ?_
      rintro e w2 ⟨v2, rfl, o2, b2⟩
      have D2 := Lib.hid (bT D1.out b2)
      obtain ⟨s2, k2, rfl, i2⟩ := OI.out _ _ _ o2
      have T3 := Lib.hid (E3.out s2 k2 w2 i2)
      clear b2 o2 i2 E2 D1 E3
      go_wp2_with fail
      refine T3.out.mono ?_
      rintro e w3 ⟨rfl, rfl⟩
      have FF := Lib.hid (EE.out _ D2.out)
      clear T3
      go_wp2
      go_ret
      exact ⟨_, rfl, FF.out.1, FF.out.2⟩
    rw [addA_yes ⟨c1, c2⟩]
    rw [B_no c2] at E3
    have E5 : Hid (∀ W, Below w.heap.size w W → Calls Try.prog 69 #[TV sl rs.length cap sl2 ps.length cap2, .int .i64 id, .int .i64 top] W fun e w' => ∃ v, e = .returned v ∧ w'.ownsRow W.heap.size 2 1 v (rs.flatMap (domF id top)).length (valsZ (rs.flatMap (domF id top))) ∧ Below W.heap.size W w') := fun W hW => by
      have := sdo_any sl cap sl2 cap2 rs ps id top W hn (hz.below hW) (hp.below hW)
      rwa [show domA rs ps id top = rs.flatMap (domF id top) by unfold domA; rw [B_yes TR]; rfl] at this
    have hl12 : pl.length ≤ 12 := by have := ids_few ok.ids; rwa [pidsL_len] at this
    have E6 : Hid (∀ W c, Below w.heap.size w W → Calls Try.prog 70 #[.slice sl3 pl.length cap3, .agg #[.int .i64 id, .int .i64 c]] W fun e w' => ∃ v, e = .returned v ∧ w'.ownsRow W.heap.size 34 2 v (withL pl (id, c)).length (enCells (withL pl (id, c))) ∧ Below W.heap.size W w') := fun W c hW => wi_any sl3 cap3 pl id c W (by omega) (hi.below hW)
    have E7 : Hid (∀ W c s k, Below w.heap.size w W → c ∈ rs.flatMap (domF id top) → Pls W s (withL pl (id, c)) → Calls Try.prog 22 #[TV sl rs.length cap sl2 ps.length cap2, .int .i64 top, .slice s (withL pl (id, c)).length k] W fun e w' => e = .returned (.bool (fitB ps pl (id, c))) ∧ Below W.heap.size W w') := fun W c s k hW hc hs => by
      have := spr_any sl cap sl2 cap2 s k rs ps (withL pl (id, c)) top W hn (by rw [withL_len]; omega) (hz.below hW) (hp.below hW) hs
      rwa [add_iff ok c2 hc] at this
    have DL := dom_le rs ps id top TR
    have DM := Lib.hid (show ∀ k, k < (rs.flatMap (domF id top)).length → (rs.flatMap (domF id top)).getD k 0 ∈ rs.flatMap (domF id top) from fun k hk => getD_mem hk)
    clear hz hp hi c1 c2 ok TR hn hl hl12
    generalize hDS : rs.flatMap (domF id top) = ds at *
    clear hDS
    have AS := Lib.hid (fun k (h : k < ds.length) => addL_step ps pl id ds k h)
    have AE := Lib.hid (fun k (h : ds.length ≤ k) => addL_end ps pl id ds k h)
    have A0 := Lib.hid (show addL ps pl id (ds.drop 0) = addL ps pl id ds by simp)
    generalize hR : addL ps pl id ds = R at *
    clear hR
    have DI := Lib.hid (fun B v (W : World) (o : W.ownsRow B 2 1 v ds.length (valsZ ds)) => own_ints o)
    generalize hDN : ds.length = dn at *
    have HDN := Lib.hid hDN
    clear hDN
    generalize rs.length = rn at *
    generalize ps.length = pq at *
    generalize hPN : pl.length = pn at *
    clear hPN
    go_enter Try.func15, Try.ntmps15
    go_wp2_with fail
    refine E1.out.mono ?_
    rintro e w1 ⟨rfl, b1⟩
    have D1 := Lib.hid (bT B0.out b1)
    have T1 := Lib.hid (HT.out.below b1)
    clear b1 E1 HT B0 t0 t1 tl
    go_wp2_with fail
    refine (E2.out _ D1.out).mono ?_
    rintro e w2 ⟨v2, rfl, o2, b2⟩
    have D2 := Lib.hid (bT D1.out b2)
    have T2 := Lib.hid (T1.out.below b2)
    obtain ⟨s2, k2, rfl, i2⟩ := OI.out _ _ _ o2
    have C3 := Lib.hid (E3.out s2 k2 w2 i2)
    clear b2 o2 i2 E2 D1 E3 T1 OI
    obtain ⟨t0, t1⟩ := T2.out.cells
    have tl := T2.out.lt
    go_wp2_with fail
    refine C3.out.mono ?_
    rintro e w3 ⟨rfl, rfl⟩
    clear C3
    go_wp2_with fail
    refine (E5.out _ D2.out).mono ?_
    rintro e w5 ⟨v5, rfl, o5, b5⟩
    have D5 := Lib.hid (bT D2.out b5)
    have T5 := Lib.hid (T2.out.below b5)
    obtain ⟨s5, k5, rfl, i5⟩ := DI.out _ _ _ o5
    have I5 := Lib.hid i5
    clear b5 o5 i5 D2 T2 t0 t1 tl E5 DI
    go_wp2
    go_loopw [10] (fun i wr => ∃ k : Nat, i = .int .i64 k ∧ k ≤ dn ∧ Hid (addL ps pl id (ds.drop k) = R) ∧ Hid (Below w5.heap.size w5 wr)) (fun i _ => dn - (intOf i).toNat)
    case atStart => exact ⟨0, rfl, Nat.zero_le _, A0, Below.refl _ _⟩
    case round =>
      obtain ⟨k, rfl, hk, HA, HB⟩ := hrel
      have hk0 : (0 : Int) ≤ (k : Int) := by omega
      have DW := Lib.hid (bT D5.out HB.out)
      by_cases h1 : k < dn
      · have h1' : (k : Int) < (dn : Int) := by omega
        have hlt : k < ds.length := by rw [HDN.out]; exact h1
        obtain ⟨cb, co, rfl, ZI⟩ : ∃ cb co, s5 = some ⟨cb, co, none⟩ ∧ IntsAt w5 cb co ds := by
          rcases I5.out with e | h
          · rw [e] at hlt; simp at hlt
          · exact h
        have hcell : wr.cell? ⟨cb, co + k, none⟩ = some (.int .i64 (ds.getD k 0)) := (HB.out.cell (p := ⟨cb, co + k, none⟩) ZI.1).trans (ZI.2 k hlt)
        have TW := Lib.hid (T5.out.below HB.out)
        have CF := Lib.hid (E6.out wr (ds.getD k 0) DW.out)
        have ASK := Lib.hid (AS.out k h1)
        have CM := Lib.hid (DM.out k h1)
        clear hlt ZI
        generalize ds.getD k 0 = c at *
        have E8 := Lib.hid (fun W s k (h1 : Below w.heap.size w W) (h2 : Pls W s (withL pl (id, c))) => E7.out W c s k h1 CM.out h2)
        have OR := Lib.hid (fun B v (W : World) (o : W.ownsRow B 34 2 v (withL pl (id, c)).length (enCells (withL pl (id, c)))) => own_row2 o)
        clear AS
        by_cases hf : fitB ps pl (id, c) = true
        · have ER := Lib.hid (show R = withL pl (id, c) by rw [← HA.out, ASK.out, if_pos hf])
          rw [hf] at E8
          generalize withL pl (id, c) = ws at *
          clear ASK HA AE E7
          generalize hWN : ws.length = wn at *
          have HWN := Lib.hid hWN
          clear hWN
          go_wp2_with fail
          refine CF.out.mono ?_
          rintro e w7 ⟨v7, rfl, o7, b7⟩
          have D7 := Lib.hid (bT DW.out b7)
          have T7 := Lib.hid (TW.out.below b7)
          have O7 := Lib.hid o7
          obtain ⟨s7, k7, rfl, p7⟩ := OR.out _ _ _ o7
          have C8 := Lib.hid (E8.out w7 s7 k7 D7.out p7)
          have W7 := Lib.hid DW.out.size
          clear b7 o7 p7 CF E8 TW DW OR
          obtain ⟨t0, t1⟩ := T7.out.cells
          have tl := T7.out.lt
          go_wp2_with fail
          refine C8.out.mono ?_
          rintro e w8 ⟨rfl, b8⟩
          have D8 := Lib.hid (bT D7.out b8)
          have O8 := Lib.hid (own_mono (own_below O7.out b8) W7.out)
          clear b8 C8 t0 t1 tl T7 D7 O7
          go_wp2
          go_ret
          exact ⟨_, rfl, by rw [ER.out, HWN.out]; exact O8.out, D8.out⟩
        · have HA2 := Lib.hid (show addL ps pl id (ds.drop (k + 1)) = R by rw [← HA.out, ASK.out, if_neg hf])
          rw [Bool.not_eq_true] at hf
          rw [hf] at E8
          generalize withL pl (id, c) = ws at *
          clear ASK HA AE E7
          generalize hWN : ws.length = wn at *
          clear hWN
          go_wp2_with fail
          refine CF.out.mono ?_
          rintro e w7 ⟨v7, rfl, o7, b7⟩
          have D7 := Lib.hid (bT DW.out b7)
          have F7 := Lib.hid (bT HB.out b7)
          have T7 := Lib.hid (TW.out.below b7)
          obtain ⟨s7, k7, rfl, p7⟩ := OR.out _ _ _ o7
          have C8 := Lib.hid (E8.out w7 s7 k7 D7.out p7)
          clear b7 o7 p7 CF E8 TW DW OR HB
          obtain ⟨t0, t1⟩ := T7.out.cells
          have tl := T7.out.lt
          go_wp2_with fail
          refine C8.out.mono ?_
          rintro e w8 ⟨rfl, b8⟩
          have F8 := Lib.hid (bT F7.out b8)
          clear b8 C8 t0 t1 tl T7 D7 F7
          go_wp2
          go_roundw
          case rel => exact ⟨k + 1, by go_num, by omega, HA2, F8⟩
          case measure => simp [intOf]; omega
      · have h1' : ¬ (k : Int) < (dn : Int) := by omega
        have ER := Lib.hid (show R = [] by rw [← HA.out, AE.out k (by omega)])
        have FF := Lib.hid (EE.out _ DW.out)
        clear HA AE AS
        go_wp2
        go_ret
        exact ⟨_, rfl, by rw [ER.out]; exact FF.out.1, FF.out.2⟩
  · rw [addA_no (fun g => c1 g.1)]
    rw [Bool.not_eq_true] at c1
    rw [c1] at E1
    clear hz hp hi c1 hn hl
    generalize rs.length = rn at *
    generalize ps.length = pq at *
    generalize pl.length = pn at *
    go_enter Try.func15, Try.ntmps15
    go_wp2_with fail
    refine E1.out.mono ?_
    rintro e w1 ⟨rfl, b1⟩
    have D1 := Lib.hid (bT B0.out b1)
    have FF := Lib.hid (EE.out _ D1.out)
    clear b1 E1 HT B0 t0 t1 tl
    go_wp2
    go_ret
    exact ⟨_, rfl, FF.out.1, FF.out.2⟩

end Go.Proofs.Ytdmfljejlhlbnaa
namespace Go.Proofs.Ytdmfljejlhlbnaa
open Go.RowKit
set_option linter.unusedVariables false

def NoTwo (pl : List LPl) : Prop := ∀ (i j : Nat) (hi : i < pl.length) (hj : j < pl.length), i < j → pl[i] ≠ pl[j]
theorem rise_nodup {rs : List LSt} {ps : List LPr} {pl : List LPl} (h : IdsR rs ps (pidsL pl)) (i j : Nat) (hi : i < pl.length) (hj : j < pl.length) (hij : i < j) : pl[i] ≠ pl[j] := fun e => by
  have IR := inRise_of h.2.1.2.2.1 h.2.2.1 h.2.2.2
  have := rise_lt _ _ _ IR i j hij (by rw [pidsL_len]; exact hj)
  simp [pidsL, hi, hj, e] at this
theorem own_e2 (w : World) : (w.alloc (.cells #[] 2)).ownsRow w.heap.size 2 1 (.slice (some ⟨w.heap.size, 0, none⟩) 0 0) 0 (valsZ []) := own_none5 w

set_option maxRecDepth 100000 in
set_option maxHeartbeats 4000000 in
/-- spec.TruesOf. -/
theorem sto_any (sl : Option Addr) (cap : Nat) (sl2 : Option Addr) (cap2 : Nat) (sl3 : Option Addr) (cap3 : Nat) (rs : List LSt) (ps : List LPr) (pl : List LPl) (top : Int) (w : World) (hn : rs.length ≤ 1048576) (hl : pl.length ≤ 1048576) (hz : Sts w sl rs) (hp : Prs w sl2 ps) (hi : Pls w sl3 pl) :
    Calls Try.prog 60 #[TV sl rs.length cap sl2 ps.length cap2, .int .i64 top, .slice sl3 pl.length cap3] w fun e w' => ∃ v, e = .returned v ∧ w'.ownsRow w.heap.size 2 1 v (trA rs ps top pl).length (valsZ (trA rs ps top pl)) ∧ Below w.heap.size w w' := by
  obtain ⟨i0, hi0, hz0, hz1, hz2⟩ := info_parts info2'
  have HT := Lib.hid (TabAt.new w sl rs.length cap sl2 ps.length cap2)
  have B0 := Lib.hid (bA (bA0 w (.cells #[.slice sl rs.length cap, .slice sl2 ps.length cap2] 26)) (.cells #[] 2))
  have X0 := Lib.hid (HT.out.below (bA0 (w.alloc (.cells #[.slice sl rs.length cap, .slice sl2 ps.length cap2] 26)) (.cells #[] 2)))
  have O0 := Lib.hid (own_e2 (w.alloc (.cells #[.slice sl rs.length cap, .slice sl2 ps.length cap2] 26)))
  rw [show (w.alloc (.cells #[.slice sl rs.length cap, .slice sl2 ps.length cap2] 26)).heap.size = w.heap.size + 1 by simp] at O0
  have E1 : Hid (∀ W, Below w.heap.size w W → Calls Try.prog 22 #[TV sl rs.length cap sl2 ps.length cap2, .int .i64 top, .slice sl3 pl.length cap3] W fun e w' => e = .returned (.bool (planB rs ps top pl)) ∧ Below W.heap.size W w') := fun W hW => spr_any sl cap sl2 cap2 sl3 cap3 rs ps pl top W hn hl (hz.below hW) (hp.below hW) (hi.below hW)
  by_cases h4 : 400 < pl.length
  · have h4' : (400 : Int) < (pl.length : Int) := by omega
    have TA : trA rs ps top pl = [] := by
      unfold trA planB
      rw [show decide (pl.length ≤ 400) = false by rw [decide_eq_false_iff_not]; omega]
      rfl
    rw [TA]
    have P := Lib.hid (own_mono O0.out (Nat.le_succ w.heap.size))
    clear hz hp hi TA E1 O0 X0 HT
    generalize rs.length = rn at *
    generalize ps.length = pn at *
    generalize pl.length = m at *
    go_enter Try.func60, Try.ntmps60
    go_wp2
    go_ret
    exact ⟨_, rfl, P.out, B0.out⟩
  have h4' : ¬ (400 : Int) < (pl.length : Int) := by omega
  cases hb : planB rs ps top pl with
  | false =>
    have TA : trA rs ps top pl = [] := by unfold trA; rw [hb]; rfl
    rw [TA]
    rw [hb] at E1
    have P := Lib.hid (own_mono O0.out (Nat.le_succ w.heap.size))
    clear hb hz hp hi TA O0 X0 HT
    generalize rs.length = rn at *
    generalize ps.length = pn at *
    generalize pl.length = m at *
    go_enter Try.func60, Try.ntmps60
    go_wp2_with fail
    refine (E1.out _ B0.out).mono ?_
    rintro e w1 ⟨rfl, b1⟩
    have D1 := Lib.hid (bT B0.out b1)
    have P1 := Lib.hid (own_below P.out b1)
    clear b1 E1 P
    go_wp2
    go_ret
    exact ⟨_, rfl, P1.out, D1.out⟩
  | true =>
    rw [hb] at E1
    obtain ⟨h400, IR⟩ := planB_ids hb
    have TA : trA rs ps top pl = trK pl (plF rs top (pidsL pl)) (plF rs top (pidsL pl)).length := by unfold trA; rw [hb]; rfl
    rw [TA]
    have hpl : (plF rs top (pidsL pl)).length ≤ 38400 := by
      have := plF_le top (pidsL pl) IR.2.1
      rw [pidsL_len] at this
      omega
    have ND := Lib.hid (show NoTwo pl from rise_nodup IR)
    have E2 : Hid (∀ W, Below w.heap.size w W → Calls Try.prog 24 #[.slice sl3 pl.length cap3] W fun e w' => ∃ s c, e = .returned (.slice s (pidsL pl).length c) ∧ Ints w' s (pidsL pl) ∧ Below W.heap.size W w') := fun W hW => by
      have := spi_any sl3 cap3 pl W (by unfold maxLen; omega) (hi.below hW)
      rw [pidsA_eq h400] at this
      refine this.mono ?_
      rintro e w' ⟨v, rfl, o, b⟩
      obtain ⟨s, c, rfl, i⟩ := own_ints o
      exact ⟨s, c, rfl, i, b⟩
    have E3 : Hid (∀ s c W, Below w.heap.size w W → Ints W s (pidsL pl) → Calls Try.prog 90 #[TV sl rs.length cap sl2 ps.length cap2, .int .i64 top, .slice s (pidsL pl).length c] W fun e w' => ∃ v, e = .returned v ∧ w'.ownsRow W.heap.size 34 2 v (plF rs top (pidsL pl)).length (enCells (plF rs top (pidsL pl))) ∧ Below W.heap.size W w') := fun s c W hW i => vars_any sl cap sl2 cap2 s c rs ps top (pidsL pl) W hn (by rw [pidsL_len]; exact h400) (hz.below hW) (hp.below hW) IR.2.1 i
    have HI := Lib.hid hi
    clear hb hz hp hi TA IR
    generalize hPQ : plF rs top (pidsL pl) = qs at *
    clear hPQ
    generalize (pidsL pl).length = idn at *
    generalize rs.length = rn at *
    generalize ps.length = pn at *
    generalize hM : pl.length = m at *
    have HM := Lib.hid hM
    clear hM
    go_enter Try.func60, Try.ntmps60
    go_wp2_with fail
    refine (E1.out _ B0.out).mono ?_
    rintro e w1 ⟨rfl, b1⟩
    have D1 := Lib.hid (bT B0.out b1)
    have X1 := Lib.hid (X0.out.below b1)
    have O1 := Lib.hid (own_below O0.out b1)
    have hw1 := X1.out.lt
    clear b1 E1 HT X0 O0
    have KB : Hid (∀ W, Below w1.heap.size w1 W → w.heap.size < W.heap.size ∧ W.cell? ⟨w.heap.size, 0, none⟩ = some (.slice sl rn cap) ∧ W.cell? ⟨w.heap.size, 1, none⟩ = some (.slice sl2 pn cap2)) := fun W hW => by
      obtain ⟨k0, k1⟩ := (X1.out.below hW).cells
      exact ⟨(X1.out.below hW).lt, k0, k1⟩
    go_wp2_with fail
    refine wp_region_held_drew (S := fun W => w.heap.size < W.heap.size ∧ W.cell? ⟨w.heap.size, 0, none⟩ = some (.slice sl rn cap) ∧ W.cell? ⟨w.heap.size, 1, none⟩ = some (.slice sl2 pn cap2)) (by kernel_rfl) ?_ (fun hHeld => ?_)
    · exact KB.out _ (Below.refl _ _).drew
    refine wpAnyH_take (i := 0) (oi := _) (v := ?_) rfl (by kernel_rfl) (by kernel_rfl) (by kernel_rfl) (fun _ _ _ h => h) (Or.inl ⟨by rfl, ?_⟩) (by assumption) ?_
    rotate_left
    · first | (intro w hSw; (try dsimp only at hSw); go_simp; done) | (intro w hSw; (try dsimp only at hSw); go_simp; with_reducible rfl)
    try simp only [Act.put, List.setIfInBounds_toArray, List.set_cons_zero, List.set_cons_succ, List.getElem_toArray, List.getElem_cons_zero]
    refine wpAnyH_take (i := 1) (oi := _) (v := ?_) rfl (by kernel_rfl) (by kernel_rfl) (by kernel_rfl) (fun _ _ _ h => h) (Or.inl ⟨by rfl, ?_⟩) (by assumption) ?_
    rotate_left
    · first | (intro w hSw; (try dsimp only at hSw); go_simp; done) | (intro w hSw; (try dsimp only at hSw); go_simp; with_reducible rfl)
    try simp only [Act.put, List.setIfInBounds_toArray, List.set_cons_zero, List.set_cons_succ, List.getElem_toArray, List.getElem_cons_succ, List.getElem_cons_zero]
    refine wpAnyH_take (i := 2) (oi := _) (v := ?_) rfl (by kernel_rfl) (by kernel_rfl) (by kernel_rfl) (fun _ _ _ h => h) (Or.inl ⟨by rfl, ?_⟩) (by assumption) ?_
    rotate_left
    · first | (intro w hSw; (try dsimp only at hSw); go_simp; done) | (intro w hSw; (try dsimp only at hSw); go_simp; with_reducible rfl)
    try simp only [Act.put, List.setIfInBounds_toArray, List.set_cons_zero, List.set_cons_succ, List.getElem_toArray, List.getElem_cons_succ, List.getElem_cons_zero]
    refine wpAnyH_ready (rs := [3]) (by kernel_rfl) (by simp) ?_
    refine AllReadyH.cons rfl (fun K hK => ?_) AllReadyH.nil
    go_simp
    go_wp2_with (go_at_call 24; refine (E2.out _ D1.out.drew).mono ?_; rintro e w3 ⟨s3, c3, rfl, z3, b3⟩)
    have F3 : Hid (Below w1.heap.size w1 w3) := bT ((Below.refl w1.heap.size w1).drew) b3
    have D3 := Lib.hid (bT D1.out F3.out)
    have Z3 := Lib.hid z3
    clear b3 z3
    refine hK.out _ _ ?_ (fun hHeld => ?_)
    · exact KB.out _ F3.out
    clear hK K
    refine wpAnyH_ready (rs := [4]) (by kernel_rfl) (by simp) ?_
    refine AllReadyH.cons rfl (fun K hK => ?_) AllReadyH.nil
    go_simp
    go_wp2_with (go_at_call 90; refine (E3.out s3 c3 _ D3.out Z3.out).mono ?_; rintro e w5 ⟨v5, rfl, o5, b5⟩)
    have F5 : Hid (Below w1.heap.size w1 w5) := bT F3.out b5
    have D5 := Lib.hid (bT D3.out b5)
    have O5 := Lib.hid o5
    clear b5 o5
    refine hK.out _ _ ?_ (fun hHeld => ?_)
    · exact KB.out _ F5.out
    clear hK K
    refine wpAnyH_take (i := 5) (oi := _) (v := ?_) rfl (by kernel_rfl) (by kernel_rfl) (by kernel_rfl) (fun _ _ _ h => h) (Or.inl ⟨by rfl, ?_⟩) (by assumption) ?_
    rotate_left
    · first | (intro w hSw; (try dsimp only at hSw); go_simp; done) | (intro w hSw; (try dsimp only at hSw); go_simp; with_reducible rfl)
    try simp only [Act.put, List.setIfInBounds_toArray, List.set_cons_zero, List.set_cons_succ, List.getElem_toArray, List.getElem_cons_succ, List.getElem_cons_zero]
    refine wpAnyH_done (by kernel_rfl) ?_ _
    have OO := Lib.hid (own_below O1.out F5.out)
    obtain ⟨wb, hwb⟩ : ∃ wb, wb = w3.heap.size := ⟨_, rfl⟩
    rw [← hwb] at O5
    have hw5 := F5.out.size
    clear KB E2 E3 D3 F3 Z3 X1 F5 O1 hwb
    obtain ⟨s5, c5, rfl⟩ := own_v O5.out
    generalize hQN : qs.length = q at *
    have HQ := Lib.hid hQN
    clear hQN
    go_wp2_with fail
    go_loopw [7, 9] (fun v j wr => ∃ (k : Nat) (cu : List Int), j = .int .i64 k ∧ k ≤ q ∧ cu.length ≤ k ∧ Hid (cu = trK pl qs k) ∧ Hid (wr.ownsRow (w.heap.size + 1) 2 1 v cu.length (valsZ cu)) ∧ Hid (wr.ownsRow wb 34 2 (.slice s5 q c5) q (enCells qs)) ∧ Hid (Below (w.heap.size + 1) w5 wr)) (fun _ j _ => q - (intOf j).toNat)
    case atStart => exact ⟨0, [], rfl, Nat.zero_le _, Nat.zero_le _, rfl, OO, O5, Below.refl _ _⟩
    case round =>
      obtain ⟨k, cu, rfl, hk, hcl, HC, OR, OZ, HB⟩ := hrel
      have hk0 : (0 : Int) ≤ (k : Int) := by omega
      by_cases g1 : k < q
      · have g1' : (k : Int) < (q : Int) := by omega
        have hlt : k < qs.length := by rw [HQ.out]; exact g1
        obtain ⟨a, b, hp⟩ : ∃ a b, qs[k] = (a, b) := ⟨_, _, rfl⟩
        have GD := Lib.hid (show qs.getD k (0, 0) = (a, b) by rw [← hp]; simp [hlt])
        have EC := enCells_at qs k hlt
        rw [hp] at EC
        dsimp only at EC
        have QC := Lib.hid (show ∀ W : World, W.ownsRow wb 34 2 (.slice s5 q c5) q (enCells qs) → ∃ c, s5 = some ⟨c, 0, none⟩ ∧ c < W.heap.size ∧ W.cell? ⟨c, k * 2, none⟩ = some (.int .i64 a) ∧ W.cell? ⟨c, k * 2 + 1, none⟩ = some (.int .i64 b) from fun W hZ => by
          have hZ2 := hZ
          rcases hZ.2 with ⟨_, h0⟩ | ⟨g, cp, cur, hv, _, hg, _⟩
          · omega
          · obtain rfl : s5 = some ⟨g, 0, none⟩ := (Value.slice.inj hv).1
            exact ⟨g, rfl, (Array.getElem?_eq_some_iff.1 hg).1, by rw [hZ2.cellAt (k * 2) (by omega), EC.1], by rw [hZ2.cellAt (k * 2 + 1) (by omega), EC.2]⟩)
        have TS := Lib.hid (show ∀ r, r = B ((a, b) ∈ pl) → trK pl qs (k + 1) = trK pl qs k ++ (if r = true then [(k : Int) + 1] else []) from fun r hr => by
          cases r with
          | true => rw [if_pos rfl]; exact trK_yes pl qs k (by rw [GD.out]; exact hr.symm)
          | false => rw [if_neg Bool.false_ne_true, List.append_nil]; exact trK_no pl qs k (by rw [GD.out]; exact hr.symm))
        clear hp hlt EC GD
        go_wp2
        go_loopw [7, 10] (fun v j wq => ∃ (i : Nat) (cv : List Int), j = .int .i64 i ∧ i ≤ m ∧ cv.length ≤ k + 1 ∧ Hid (cv = cu ++ (if B ((a, b) ∈ pl.take i) = true then [(k : Int) + 1] else [])) ∧ Hid (wq.ownsRow (w.heap.size + 1) 2 1 v cv.length (valsZ cv)) ∧ Hid (wq.ownsRow wb 34 2 (.slice s5 q c5) q (enCells qs)) ∧ Hid (Below (w.heap.size + 1) w5 wq)) (fun _ j _ => m - (intOf j).toNat)
        case atStart => exact ⟨0, cu, rfl, Nat.zero_le _, by omega, (by show cu = cu ++ _; rw [B_no (p := (a, b) ∈ pl.take 0) (by simp)]; simp), OR, OZ, HB⟩
        case round =>
          obtain ⟨i, cv, rfl, hi, hcv, HV, OR, OZ, HB⟩ := hrel
          have hi0' : (0 : Int) ≤ (i : Int) := by omega
          have DW := Lib.hid (D5.out.trans (HB.out.mono (Nat.le_succ _)))
          by_cases g2 : i < m
          · have g2' : (i : Int) < (m : Int) := by omega
            have hlt : i < pl.length := by rw [HM.out]; exact g2
            obtain ⟨g, o, rfl, PA⟩ : ∃ g o, sl3 = some ⟨g, o, none⟩ ∧ PlAt w g o pl := by
              rcases HI.out with e | h
              · rw [e] at hlt; simp at hlt
              · exact h
            have PB := PA.below DW.out
            obtain ⟨c0, c1⟩ := PB.cell i hlt
            have gl := PB.lt
            obtain ⟨x, y, hp⟩ : ∃ x y, pl[i] = (x, y) := ⟨_, _, rfl⟩
            rw [hp] at c0 c1
            dsimp only at c0 c1
            obtain ⟨c, rfl, cl, d0, d1⟩ := QC.out _ OZ.out
            have hgt : Try.prog.eqGuardType Try.prog.depth 34 = false := by kernel_rfl
            have hnq := eq34 x y a b
            have KB : Hid (g < wr.drew.heap.size ∧ c < wr.drew.heap.size ∧ wr.drew.cell? ⟨g, o + i * 2, none⟩ = some (.int .i64 x) ∧ wr.drew.cell? ⟨g, o + i * 2 + 1, none⟩ = some (.int .i64 y) ∧ wr.drew.cell? ⟨c, k * 2, none⟩ = some (.int .i64 a) ∧ wr.drew.cell? ⟨c, k * 2 + 1, none⟩ = some (.int .i64 b)) := ⟨gl, cl, c0, c1, d0, d1⟩
            have tk : pl.take (i + 1) = pl.take i ++ [(x, y)] := by rw [List.take_succ_eq_append_getElem hlt, hp]
            by_cases hac : x = a ∧ y = b
            · have hnb : (x == a && y == b) = true := by simp [hac]
              have hab : pl[i] = (a, b) := by rw [hp, hac.1, hac.2]
              rw [hnb] at hnq
              have NB : B ((a, b) ∈ pl.take i) = false := B_no (fun g => by
                obtain ⟨j, hj, e⟩ := List.getElem_of_mem g
                have hj' : j < i := by rw [List.length_take] at hj; omega
                rw [List.getElem_take] at e
                exact ND.out j i (by omega) hlt hj' (by rw [e, hab]))
              have CS := Lib.hid (show cv ++ [(k : Int) + 1] = cu ++ (if B ((a, b) ∈ pl.take (i + 1)) = true then [(k : Int) + 1] else []) by
                rw [HV.out, NB, B_yes (show (a, b) ∈ pl.take (i + 1) by rw [tk, hac.1, hac.2]; simp)]; simp)
              have LV := Lib.hid (show cv.length ≤ k by rw [HV.out, NB]; simpa using hcl)
              have EV := Lib.hid (show valsZ cv ++ [.int .i64 ((k : Int) + 1)] = valsZ (cv ++ [(k : Int) + 1]) by simp [valsZ])
              have hlv := LV.out
              have hsw : w.heap.size + 1 ≤ wr.heap.size := by have := HB.out.size; omega
              have O2 : Hid (wr.drew.ownsRow (w.heap.size + 1) 2 1 _ cv.length (valsZ cv)) := OR.out
              have Z2 : Hid (wr.drew.ownsRow wb 34 2 (.slice (some ⟨c, 0, none⟩) q c5) q (enCells qs)) := OZ.out
              have H2 := Lib.hid HB.out.drew
              clear hp hab hlt PA PB hnb NB tk HV OR OZ HB DW c0 c1 d0 d1 hac
              go_wp2_with fail
              refine wp_region_held_drew (S := fun W => g < W.heap.size ∧ c < W.heap.size ∧ W.cell? ⟨g, o + i * 2, none⟩ = some (.int .i64 x) ∧ W.cell? ⟨g, o + i * 2 + 1, none⟩ = some (.int .i64 y) ∧ W.cell? ⟨c, k * 2, none⟩ = some (.int .i64 a) ∧ W.cell? ⟨c, k * 2 + 1, none⟩ = some (.int .i64 b)) (by kernel_rfl) ?_ (fun hHeld => ?_)
              · exact KB.out
              refine wpAnyH_take (i := 0) (oi := _) (v := ?_) rfl (by kernel_rfl) (by kernel_rfl) (by kernel_rfl) (fun _ _ _ h => h) (Or.inl ⟨by rfl, ?_⟩) (by assumption) ?_
              rotate_left
              · first | (intro w hSw; (try dsimp only at hSw); go_simp; done) | (intro w hSw; (try dsimp only at hSw); go_simp; with_reducible rfl)
              try simp only [Act.put, List.setIfInBounds_toArray, List.set_cons_zero, List.set_cons_succ, List.getElem_toArray, List.getElem_cons_zero]
              refine wpAnyH_take (i := 1) (oi := _) (v := ?_) rfl (by kernel_rfl) (by kernel_rfl) (by kernel_rfl) (fun _ _ _ h => h) (Or.inl ⟨by rfl, ?_⟩) (by assumption) ?_
              rotate_left
              · first | (intro w hSw; (try dsimp only at hSw); go_simp; done) | (intro w hSw; (try dsimp only at hSw); go_simp; with_reducible rfl)
              try simp only [Act.put, List.setIfInBounds_toArray, List.set_cons_zero, List.set_cons_succ, List.getElem_toArray, List.getElem_cons_succ, List.getElem_cons_zero]
              refine wpAnyH_take (i := 2) (oi := _) (v := ?_) rfl (by kernel_rfl) (by kernel_rfl) (by kernel_rfl) (fun _ _ _ h => h) (Or.inl ⟨by rfl, ?_⟩) (by assumption) ?_
              rotate_left
              · first | (intro w hSw; (try dsimp only at hSw); go_simp; done) | (intro w hSw; (try dsimp only at hSw); go_simp; with_reducible rfl)
              try simp only [Act.put, List.setIfInBounds_toArray, List.set_cons_zero, List.set_cons_succ, List.getElem_toArray, List.getElem_cons_succ, List.getElem_cons_zero]
              refine wpAnyH_take (i := 3) (oi := _) (v := ?_) rfl (by kernel_rfl) (by kernel_rfl) (by kernel_rfl) (fun _ _ _ h => h) (Or.inl ⟨by rfl, ?_⟩) (by assumption) ?_
              rotate_left
              · first | (intro w hSw; (try dsimp only at hSw); go_simp; done) | (intro w hSw; (try dsimp only at hSw); go_simp; with_reducible rfl)
              try simp only [Act.put, List.setIfInBounds_toArray, List.set_cons_zero, List.set_cons_succ, List.getElem_toArray, List.getElem_cons_succ, List.getElem_cons_zero]
              refine wpAnyH_take (i := 4) (oi := _) (v := ?_) rfl (by kernel_rfl) (by kernel_rfl) (by kernel_rfl) (fun _ _ _ h => h) (Or.inl ⟨by rfl, ?_⟩) (by assumption) ?_
              rotate_left
              · first | (intro w hSw; (try dsimp only at hSw); go_simp; done) | (intro w hSw; (try dsimp only at hSw); go_simp; with_reducible rfl)
              try simp only [Act.put, List.setIfInBounds_toArray, List.set_cons_zero, List.set_cons_succ, List.getElem_toArray, List.getElem_cons_succ, List.getElem_cons_zero]
              refine wpAnyH_take (i := 5) (oi := _) (v := ?_) rfl (by kernel_rfl) (by kernel_rfl) (by kernel_rfl) (fun _ _ _ h => h) (Or.inl ⟨by rfl, ?_⟩) (by assumption) ?_
              rotate_left
              · first | (intro w hSw; (try dsimp only at hSw); go_simp; done) | (intro w hSw; (try dsimp only at hSw); go_simp; with_reducible rfl)
              try simp only [Act.put, List.setIfInBounds_toArray, List.set_cons_zero, List.set_cons_succ, List.getElem_toArray, List.getElem_cons_succ, List.getElem_cons_zero]
              refine wpAnyH_take (i := 6) (oi := _) (v := ?_) rfl (by kernel_rfl) (by kernel_rfl) (by kernel_rfl) (fun _ _ _ h => h) (Or.inl ⟨by rfl, ?_⟩) (by assumption) ?_
              rotate_left
              · first | (intro w hSw; (try dsimp only at hSw); go_simp; done) | (intro w hSw; (try dsimp only at hSw); go_simp; with_reducible rfl)
              try simp only [Act.put, List.setIfInBounds_toArray, List.set_cons_zero, List.set_cons_succ, List.getElem_toArray, List.getElem_cons_succ, List.getElem_cons_zero]
              refine wpAnyH_take (i := 7) (oi := _) (v := ?_) rfl (by kernel_rfl) (by kernel_rfl) (by kernel_rfl) (fun _ _ _ h => h) (Or.inl ⟨by rfl, ?_⟩) (by assumption) ?_
              rotate_left
              · first | (intro w hSw; (try dsimp only at hSw); go_simp; done) | (intro w hSw; (try dsimp only at hSw); go_simp; with_reducible rfl)
              try simp only [Act.put, List.setIfInBounds_toArray, List.set_cons_zero, List.set_cons_succ, List.getElem_toArray, List.getElem_cons_succ, List.getElem_cons_zero]
              refine wpAnyH_take (i := 8) (oi := _) (v := ?_) rfl (by kernel_rfl) (by kernel_rfl) (by kernel_rfl) (fun _ _ _ h => h) (Or.inl ⟨by rfl, ?_⟩) (by assumption) ?_
              rotate_left
              · first | (intro w hSw; (try dsimp only at hSw); go_simp; done) | (intro w hSw; (try dsimp only at hSw); go_simp; with_reducible rfl)
              try simp only [Act.put, List.setIfInBounds_toArray, List.set_cons_zero, List.set_cons_succ, List.getElem_toArray, List.getElem_cons_succ, List.getElem_cons_zero]
              refine wpAnyH_done (by kernel_rfl) ?_ _
              go_wp2_with (first | (at_builtin; refine wpList_append_lies _ rfl (.tmp 49) (.tmp 52) 40 rfl (w.heap.size + 1) 2 i0 (.int .i64 0) 1 8 Try.underlying40 hi0 hz0 hz1 hz2 rfl (by decide) _ _ _ rfl (O2.out.alloc _) ⟨wr.heap.size, 0, none⟩ 1 1 [.int .i64 ((k : Int) + 1)] rfl rfl (cell_one_new wr.drew _ _) (by intro u hu; simp at hu; subst hu; rfl) (by decide) (by unfold maxLen; omega) (by omega) (by simp; omega) (wr.heap.size + 1) (by simp) ?_))
              intro g9 cap9 w9 own9 grow9 hg9 hlt9
              have B9 := Lib.hid ((bA1 H2.out (.cells #[.int .i64 ((k : Int) + 1)] 2) (by simpa using hsw)).grown grow9 (by simp; omega) (fun j hj => (O2.out.lt j hj).1))
              have Z9 := Lib.hid ((Z2.out.alloc (.cells #[.int .i64 ((k : Int) + 1)] 2)).kept grow9 (own_diff (Z2.out.alloc (.cells #[.int .i64 ((k : Int) + 1)] 2)) (O2.out.alloc (.cells #[.int .i64 ((k : Int) + 1)] 2)) (by decide)))
              rw [EV.out] at own9
              have N9 : Hid (w9.ownsRow (w.heap.size + 1) 2 1 (.slice (some ⟨g9, 0, none⟩) (cv.length + 1) cap9) (cv ++ [(k : Int) + 1]).length (valsZ (cv ++ [(k : Int) + 1]))) := by
                rw [List.length_append]; exact own9
              have LL := Lib.hid (show (cv ++ [(k : Int) + 1]).length ≤ k + 1 by rw [List.length_append]; simp; omega)
              clear own9 grow9 hg9 hlt9 O2 Z2 H2 EV
              go_wp2
              go_roundw
              case rel => exact ⟨i + 1, cv ++ [(k : Int) + 1], by go_num, by omega, LL.out, CS, N9, Z9, B9⟩
              case measure => simp [intOf]; omega
            · have hnb : (x == a && y == b) = false := by
                simp
                intro h h2
                exact hac ⟨h, h2⟩
              rw [hnb] at hnq
              have CS := Lib.hid (show cv = cu ++ (if B ((a, b) ∈ pl.take (i + 1)) = true then [(k : Int) + 1] else []) by
                rw [HV.out, B_iff (show (a, b) ∈ pl.take (i + 1) ↔ (a, b) ∈ pl.take i by
                  rw [tk, List.mem_append, List.mem_singleton]
                  constructor
                  · rintro (h | h)
                    · exact h
                    · exact absurd ⟨(Prod.mk.inj h).1.symm, (Prod.mk.inj h).2.symm⟩ hac
                  · exact .inl)])
              have O2 : Hid (wr.drew.ownsRow (w.heap.size + 1) 2 1 _ cv.length (valsZ cv)) := OR.out
              have Z2 : Hid (wr.drew.ownsRow wb 34 2 (.slice (some ⟨c, 0, none⟩) q c5) q (enCells qs)) := OZ.out
              have H2 := Lib.hid HB.out.drew
              clear hp hlt PA PB hnb tk HV OR OZ HB DW c0 c1 d0 d1 hac
              go_wp2_with fail
              refine wp_region_held_drew (S := fun W => g < W.heap.size ∧ c < W.heap.size ∧ W.cell? ⟨g, o + i * 2, none⟩ = some (.int .i64 x) ∧ W.cell? ⟨g, o + i * 2 + 1, none⟩ = some (.int .i64 y) ∧ W.cell? ⟨c, k * 2, none⟩ = some (.int .i64 a) ∧ W.cell? ⟨c, k * 2 + 1, none⟩ = some (.int .i64 b)) (by kernel_rfl) ?_ (fun hHeld => ?_)
              · exact KB.out
              refine wpAnyH_take (i := 0) (oi := _) (v := ?_) rfl (by kernel_rfl) (by kernel_rfl) (by kernel_rfl) (fun _ _ _ h => h) (Or.inl ⟨by rfl, ?_⟩) (by assumption) ?_
              rotate_left
              · first | (intro w hSw; (try dsimp only at hSw); go_simp; done) | (intro w hSw; (try dsimp only at hSw); go_simp; with_reducible rfl)
              try simp only [Act.put, List.setIfInBounds_toArray, List.set_cons_zero, List.set_cons_succ, List.getElem_toArray, List.getElem_cons_zero]
              refine wpAnyH_take (i := 1) (oi := _) (v := ?_) rfl (by kernel_rfl) (by kernel_rfl) (by kernel_rfl) (fun _ _ _ h => h) (Or.inl ⟨by rfl, ?_⟩) (by assumption) ?_
              rotate_left
              · first | (intro w hSw; (try dsimp only at hSw); go_simp; done) | (intro w hSw; (try dsimp only at hSw); go_simp; with_reducible rfl)
              try simp only [Act.put, List.setIfInBounds_toArray, List.set_cons_zero, List.set_cons_succ, List.getElem_toArray, List.getElem_cons_succ, List.getElem_cons_zero]
              refine wpAnyH_take (i := 2) (oi := _) (v := ?_) rfl (by kernel_rfl) (by kernel_rfl) (by kernel_rfl) (fun _ _ _ h => h) (Or.inl ⟨by rfl, ?_⟩) (by assumption) ?_
              rotate_left
              · first | (intro w hSw; (try dsimp only at hSw); go_simp; done) | (intro w hSw; (try dsimp only at hSw); go_simp; with_reducible rfl)
              try simp only [Act.put, List.setIfInBounds_toArray, List.set_cons_zero, List.set_cons_succ, List.getElem_toArray, List.getElem_cons_succ, List.getElem_cons_zero]
              refine wpAnyH_take (i := 3) (oi := _) (v := ?_) rfl (by kernel_rfl) (by kernel_rfl) (by kernel_rfl) (fun _ _ _ h => h) (Or.inl ⟨by rfl, ?_⟩) (by assumption) ?_
              rotate_left
              · first | (intro w hSw; (try dsimp only at hSw); go_simp; done) | (intro w hSw; (try dsimp only at hSw); go_simp; with_reducible rfl)
              try simp only [Act.put, List.setIfInBounds_toArray, List.set_cons_zero, List.set_cons_succ, List.getElem_toArray, List.getElem_cons_succ, List.getElem_cons_zero]
              refine wpAnyH_take (i := 4) (oi := _) (v := ?_) rfl (by kernel_rfl) (by kernel_rfl) (by kernel_rfl) (fun _ _ _ h => h) (Or.inl ⟨by rfl, ?_⟩) (by assumption) ?_
              rotate_left
              · first | (intro w hSw; (try dsimp only at hSw); go_simp; done) | (intro w hSw; (try dsimp only at hSw); go_simp; with_reducible rfl)
              try simp only [Act.put, List.setIfInBounds_toArray, List.set_cons_zero, List.set_cons_succ, List.getElem_toArray, List.getElem_cons_succ, List.getElem_cons_zero]
              refine wpAnyH_take (i := 5) (oi := _) (v := ?_) rfl (by kernel_rfl) (by kernel_rfl) (by kernel_rfl) (fun _ _ _ h => h) (Or.inl ⟨by rfl, ?_⟩) (by assumption) ?_
              rotate_left
              · first | (intro w hSw; (try dsimp only at hSw); go_simp; done) | (intro w hSw; (try dsimp only at hSw); go_simp; with_reducible rfl)
              try simp only [Act.put, List.setIfInBounds_toArray, List.set_cons_zero, List.set_cons_succ, List.getElem_toArray, List.getElem_cons_succ, List.getElem_cons_zero]
              refine wpAnyH_take (i := 6) (oi := _) (v := ?_) rfl (by kernel_rfl) (by kernel_rfl) (by kernel_rfl) (fun _ _ _ h => h) (Or.inl ⟨by rfl, ?_⟩) (by assumption) ?_
              rotate_left
              · first | (intro w hSw; (try dsimp only at hSw); go_simp; done) | (intro w hSw; (try dsimp only at hSw); go_simp; with_reducible rfl)
              try simp only [Act.put, List.setIfInBounds_toArray, List.set_cons_zero, List.set_cons_succ, List.getElem_toArray, List.getElem_cons_succ, List.getElem_cons_zero]
              refine wpAnyH_take (i := 7) (oi := _) (v := ?_) rfl (by kernel_rfl) (by kernel_rfl) (by kernel_rfl) (fun _ _ _ h => h) (Or.inl ⟨by rfl, ?_⟩) (by assumption) ?_
              rotate_left
              · first | (intro w hSw; (try dsimp only at hSw); go_simp; done) | (intro w hSw; (try dsimp only at hSw); go_simp; with_reducible rfl)
              try simp only [Act.put, List.setIfInBounds_toArray, List.set_cons_zero, List.set_cons_succ, List.getElem_toArray, List.getElem_cons_succ, List.getElem_cons_zero]
              refine wpAnyH_take (i := 8) (oi := _) (v := ?_) rfl (by kernel_rfl) (by kernel_rfl) (by kernel_rfl) (fun _ _ _ h => h) (Or.inl ⟨by rfl, ?_⟩) (by assumption) ?_
              rotate_left
              · first | (intro w hSw; (try dsimp only at hSw); go_simp; done) | (intro w hSw; (try dsimp only at hSw); go_simp; with_reducible rfl)
              try simp only [Act.put, List.setIfInBounds_toArray, List.set_cons_zero, List.set_cons_succ, List.getElem_toArray, List.getElem_cons_succ, List.getElem_cons_zero]
              refine wpAnyH_done (by kernel_rfl) ?_ _
              go_wp2_with fail
              go_roundw
              case rel => exact ⟨i + 1, cv, by go_num, by omega, hcv, CS, O2, Z2, H2⟩
              case measure => simp [intOf]; omega
          · have g2' : ¬ (i : Int) < (m : Int) := by omega
            have CE := Lib.hid (show cv = trK pl qs (k + 1) by
              rw [TS.out _ rfl, ← HC.out]
              have := HV.out
              rwa [List.take_of_length_le (show pl.length ≤ i by rw [HM.out]; omega)] at this)
            clear HV TS
            go_wp2
            go_roundw
            case rel => exact ⟨k + 1, cv, by go_num, by omega, hcv, CE, OR, OZ, HB⟩
            case measure => simp [intOf]; omega
      · have g1' : ¬ (k : Int) < (q : Int) := by omega
        have ek : k = q := by omega
        have P := Lib.hid (own_mono OR.out (Nat.le_succ w.heap.size))
        rw [HC.out, ek, ← HQ.out] at P
        have BB := Lib.hid (D5.out.trans (HB.out.mono (Nat.le_succ _)))
        clear OR HC ek OZ
        go_wp2
        go_ret
        exact ⟨_, rfl, P.out, BB.out⟩

end Go.Proofs.Ytdmfljejlhlbnaa
namespace Go.Proofs.Ytdmfljejlhlbnaa
open Go.RowKit
set_option linter.unusedVariables false

/-- The first i cells of a row of places hold the marks. -/
def MarkQ (w : World) (b s : Nat) (k : Int) (i : Nat) : Prop := ∃ vs : Array Value, w.heap[b]? = some (.cells vs 34) ∧ vs.size = s ∧ ∀ j, j < i → vs[j]? = some (.int .i64 (k + (j : Int)))
theorem MarkQ.step {w : World} {b s : Nat} {k : Int} {i : Nat} (h : MarkQ w b s k i) (hi : i < s) : MarkQ (w.setCell ⟨b, i, none⟩ (.int .i64 (k + (i : Int)))) b s k (i + 1) := by
  obtain ⟨vs, h1, h2, h3⟩ := h
  refine ⟨_, heap_setCell_same w b i vs 34 _ h1, by simp [h2], fun j hj => ?_⟩
  rw [Array.getElem?_setIfInBounds]
  by_cases e : i = j
  · subst e; simp [h2, hi]
  · rw [if_neg e]; exact h3 j (by omega)
theorem MarkQ.cell {w : World} {b s : Nat} {k : Int} {i : Nat} (h : MarkQ w b s k i) (j : Nat) (hj : j < s) : (∃ v, w.cell? ⟨b, j, none⟩ = some v) ∧ w.frozen? ⟨b, j, none⟩ = false := by
  obtain ⟨vs, h1, h2, h3⟩ := h
  exact ⟨⟨vs[j]'(by omega), by simp [World.cell?, h1, show j < vs.size by omega]⟩, by simp [World.frozen?, h1]⟩
theorem MarkQ.at {w : World} {b s : Nat} {k : Int} {i : Nat} (h : MarkQ w b s k i) (j : Nat) (hj : j < i) : w.cell? ⟨b, j, none⟩ = some (.int .i64 (k + (j : Int))) := by
  obtain ⟨vs, h1, h2, h3⟩ := h
  have := h3 j hj
  simp [World.cell?, h1, this]
theorem MarkQ.lt {w : World} {b s : Nat} {k : Int} {i : Nat} (h : MarkQ w b s k i) : b < w.heap.size := by
  obtain ⟨vs, h1, _⟩ := h
  exact (Array.getElem?_eq_some_iff.1 h1).1

set_option maxHeartbeats 400000 in
theorem mark2_nil (sl : Option Addr) (cap : Nat) (k : Int) (w : World) :
    Calls Try.prog 43 #[.slice sl 0 cap, .int .i64 k] w fun e w' => e = .returned (.int .i64 k) ∧ w' = w := by
  go_enter Try.func43, Try.ntmps43
  go_wp2
  refine wp_loop_rounds 1 ?_
  rw [rounds_succ]
  go_wp2
  go_ret
  exact ⟨rfl, rfl⟩
set_option maxHeartbeats 400000 in
theorem held2_nil (sl : Option Addr) (cap : Nat) (k : Int) (w : World) :
    Calls Try.prog 44 #[.slice sl 0 cap, .int .i64 k] w fun e w' => e = .returned (.int .i64 k) ∧ w' = w := by
  go_enter Try.func44, Try.ntmps44
  go_wp2
  refine wp_loop_rounds 1 ?_
  rw [rounds_succ]
  go_wp2
  go_ret
  exact ⟨rfl, rfl⟩

set_option maxRecDepth 100000 in
set_option maxHeartbeats 1000000 in
theorem mark2_some (b m s cap : Nat) (k : Int) (hn : m ≤ 1048576) (hs : m * 2 ≤ s) (k0 : 0 ≤ k) (k1 : k ≤ 1000000000) (w : World) (h : MarkQ w b s k 0) :
    Calls Try.prog 43 #[.slice (some ⟨b, 0, none⟩) m cap, .int .i64 k] w fun e w' => e = .returned (.int .i64 (k + 2 * (m : Int))) ∧ MarkQ w' b s k (m * 2) ∧ Only b w w' := by
  have H := Lib.hid h
  clear h
  go_enter Try.func43, Try.ntmps43
  go_wp2
  go_loopw [1, 5] (fun v i wr => ∃ j : Nat, i = .int .i64 j ∧ v = .int .i64 (k + 2 * (j : Int)) ∧ j ≤ m ∧ Hid (MarkQ wr b s k (j * 2)) ∧ Hid (Only b w wr)) (fun _ i _ => m - (intOf i).toNat)
  case atStart => exact ⟨0, rfl, by simp, Nat.zero_le _, H, Only.refl _ _⟩
  case round =>
    obtain ⟨j, rfl, rfl, hj, H1, H2⟩ := hrel
    have hj0 : (0 : Int) ≤ (j : Int) := by omega
    by_cases h1 : j < m
    · have h1' : (j : Int) < (m : Int) := by omega
      obtain ⟨⟨v0, c0⟩, f0⟩ := H1.out.cell (j * 2) (by omega)
      obtain ⟨⟨v1, c1⟩, f1⟩ := H1.out.cell (j * 2 + 1) (by omega)
      have S2 : Hid (MarkQ ((wr.setCell ⟨b, j * 2, none⟩ (.int .i64 (k + 2 * (j : Int)))).setCell ⟨b, j * 2 + 1, none⟩ (.int .i64 (k + 2 * (j : Int) + 1))) b s k ((j + 1) * 2)) := by
        have := (H1.out.step (by omega)).step (by omega)
        rw [show ((j * 2 : Nat) : Int) = 2 * (j : Int) by omega, show (k + ((j * 2 + 1 : Nat) : Int)) = k + 2 * (j : Int) + 1 by omega, show j * 2 + 1 + 1 = (j + 1) * 2 by omega] at this
        exact this
      have B2 := Lib.hid ((H2.out.setCell (j * 2) (.int .i64 (k + 2 * (j : Int)))).setCell (j * 2 + 1) (.int .i64 (k + 2 * (j : Int) + 1)))
      clear H1 H2
      go_wp2
      go_roundw
      case rel => exact ⟨j + 1, by go_num, by congr 1; push_cast; omega, by omega, S2, B2⟩
      case measure => simp [intOf]; omega
    · have h1' : ¬ (j : Int) < (m : Int) := by omega
      have P := Lib.hid (show (k + 2 * (j : Int)) = k + 2 * (m : Int) ∧ j * 2 = m * 2 by omega)
      have Q : Hid (MarkQ wr b s k (m * 2)) := by have := H1.out; rw [P.out.2] at this; exact this
      go_wp2
      go_ret
      exact ⟨by rw [← P.out.1]; rfl, Q.out, H2.out⟩

set_option maxRecDepth 100000 in
set_option maxHeartbeats 1000000 in
theorem held2_some (b m s cap : Nat) (k : Int) (hn : m ≤ 1048576) (k0 : 0 ≤ k) (k1 : k ≤ 1000000000) (w : World) (h : MarkQ w b s k (m * 2)) :
    Calls Try.prog 44 #[.slice (some ⟨b, 0, none⟩) m cap, .int .i64 k] w fun e w' => e = .returned (.int .i64 (k + 2 * (m : Int))) ∧ w' = w := by
  have H := Lib.hid h
  clear h
  go_enter Try.func44, Try.ntmps44
  go_wp2
  go_loopw [1, 5] (fun v i wr => ∃ j : Nat, i = .int .i64 j ∧ v = .int .i64 (k + 2 * (j : Int)) ∧ j ≤ m ∧ wr = w) (fun _ i _ => m - (intOf i).toNat)
  case atStart => exact ⟨0, rfl, by simp, Nat.zero_le _, rfl⟩
  case round =>
    obtain ⟨j, rfl, rfl, hj, rfl⟩ := hrel
    have hj0 : (0 : Int) ≤ (j : Int) := by omega
    by_cases h1 : j < m
    · have h1' : (j : Int) < (m : Int) := by omega
      have c0 := H.out.at (j * 2) (by omega)
      have c1 := H.out.at (j * 2 + 1) (by omega)
      have bl := H.out.lt
      rw [show (k + ((j * 2 : Nat) : Int)) = k + 2 * (j : Int) by omega] at c0
      rw [show (k + ((j * 2 + 1 : Nat) : Int)) = k + 2 * (j : Int) + 1 by omega] at c1
      have e0 : (k + 2 * (j : Int) != k + 2 * (j : Int)) = false := by simp
      have e1 : (k + 2 * (j : Int) + 1 != k + 2 * (j : Int) + 1) = false := by simp
      go_wp2
      go_roundw
      case rel => exact ⟨j + 1, by go_num, by congr 1; push_cast; omega, by omega, trivial⟩
      case measure => simp [intOf]; omega
    · have h1' : ¬ (j : Int) < (m : Int) := by omega
      have P := Lib.hid (show (k + 2 * (j : Int)) = k + 2 * (m : Int) by omega)
      go_wp2
      go_ret
      exact ⟨by rw [← P.out]; rfl, rfl⟩

theorem mark2_row (B : Nat) (v : Value) (n : Nat) (xs : List Value) (k : Int) (hn : n ≤ 1048576) (k0 : 0 ≤ k) (k1 : k ≤ 1000000000) (w : World) (h : w.ownsRow B 34 2 v n xs) :
    Calls Try.prog 43 #[v, .int .i64 k] w fun e w' => e = .returned (.int .i64 (k + 2 * (n : Int))) ∧ w'.ownsRow B 34 2 v n (valsZ (marks k (n * 2))) ∧ w.grownBy w' v.ownBlock := by
  have hl : (valsZ (marks k (n * 2))).length = n * 2 := by simp [valsZ, marks_len]
  rcases h.2 with ⟨rfl, h0⟩ | ⟨g, cap, cur, rfl, hb, hg, hcap, hmx, hcur, hx⟩
  · subst h0
    refine (mark2_nil _ _ _ _).mono ?_
    rintro e w' ⟨rfl, rfl⟩
    exact ⟨by simp, ⟨by simp [valsZ, marks], .inl ⟨rfl, rfl⟩⟩, ⟨rfl, rfl, rfl, Nat.le_refl _, fun _ _ _ => rfl⟩⟩
  · refine (mark2_some g n cur.size cap k hn (by rw [hcur]; omega) k0 k1 w ⟨cur, hg, rfl, fun j hj => absurd hj (Nat.not_lt_zero _)⟩).mono ?_
    rintro e w' ⟨rfl, ⟨vs, h1, h2, h3⟩, ho⟩
    refine ⟨rfl, ⟨hl, .inr ⟨g, cap, vs, rfl, hb, h1, hcap, hmx, by rw [h2, hcur], ?_⟩⟩, ho.grownBy⟩
    apply List.ext_getElem?
    intro i
    by_cases hi : i < n * 2
    · rw [List.getElem?_take_of_lt (by omega)]
      simp only [valsZ, List.getElem?_map, marks_get k _ i hi]
      have := h3 i hi
      simpa using this
    · rw [List.getElem?_eq_none (by simp; omega), List.getElem?_eq_none (by simp [valsZ, marks_len]; omega)]
theorem held2_row (B : Nat) (v : Value) (n : Nat) (k : Int) (hn : n ≤ 1048576) (k0 : 0 ≤ k) (k1 : k ≤ 1000000000) (w : World) (h : w.ownsRow B 34 2 v n (valsZ (marks k (n * 2)))) :
    Calls Try.prog 44 #[v, .int .i64 k] w fun e w' => e = .returned (.int .i64 (k + 2 * (n : Int))) ∧ w' = w := by
  rcases h.2 with ⟨rfl, h0⟩ | ⟨g, cap, cur, rfl, hb, hg, hcap, hmx, hcur, hx⟩
  · subst h0
    refine (held2_nil _ _ _ _).mono ?_
    rintro e w' ⟨rfl, rfl⟩
    exact ⟨by simp, rfl⟩
  · refine held2_some g n cur.size cap k hn k0 k1 w ⟨cur, hg, rfl, fun j hj => ?_⟩
    have := congrArg (fun l => l[j]?) hx
    simp only [valsZ, List.getElem?_map, marks_get k _ j hj] at this
    rw [List.getElem?_take_of_lt (by omega)] at this
    simpa using this

/-- The first k are the same. -/
def SameTo (zs ys : List Int) (k : Nat) : Prop := ∀ i, i < k → zs.getD i 0 = ys.getD i 0
theorem SameTo.step {zs ys : List Int} {k : Nat} (h : SameTo zs ys k) (g : zs.getD k 0 = ys.getD k 0) : SameTo zs ys (k + 1) := fun i hi => by
  by_cases e : i = k
  · subst e; exact g
  · exact h i (by omega)
theorem SameTo.all {zs ys : List Int} {k : Nat} (h : SameTo zs ys k) (hl : zs.length = ys.length) (hk : zs.length ≤ k) : zs = ys := by
  apply List.ext_getElem hl
  intro i h1 h2
  have := h i (by omega)
  simpa [h1, h2] using this

set_option maxRecDepth 100000 in
set_option maxHeartbeats 1000000 in
/-- slices.Equal of numbers. -/
theorem eqz_any (sl : Option Addr) (cap : Nat) (zs : List Int) (sl2 : Option Addr) (cap2 : Nat) (ys : List Int) (w : World) (hn : zs.length ≤ 1048576) (hm : ys.length ≤ 1048576) (hz : Ints w sl zs) (hy : Ints w sl2 ys) :
    Calls Try.prog 94 #[.slice sl zs.length cap, .slice sl2 ys.length cap2] w fun e w' => e = .returned (.bool (B (zs = ys))) ∧ Below w.heap.size w w' := by
  by_cases hl : zs.length = ys.length
  · have YY := Lib.hid (show ∀ k, zs.length ≤ k → SameTo zs ys k → B (zs = ys) = true from fun k hk h => B_yes (h.all hl hk))
    have NN := Lib.hid (show ∀ k, zs.getD k 0 ≠ ys.getD k 0 → B (zs = ys) = false from fun k h => B_no (fun e => h (by rw [e])))
    have HZ := Lib.hid hz
    have HY := Lib.hid hy
    rw [← hl]
    have HLL := Lib.hid hl
    clear hz hy hm hl
    generalize hN : zs.length = n at *
    have HN := Lib.hid hN
    clear hN
    go_enter Try.func94, Try.ntmps94
    go_wp2
    go_loopw [13] (fun i wr => ∃ k : Nat, i = .int .i64 k ∧ k ≤ n ∧ Hid (SameTo zs ys k) ∧ Hid (Below w.heap.size w wr)) (fun i _ => n - (intOf i).toNat)
    case atStart => exact ⟨0, rfl, Nat.zero_le _, fun i h => absurd h (Nat.not_lt_zero _), Below.refl _ _⟩
    case round =>
      obtain ⟨k, rfl, hk, H1, H2⟩ := hrel
      have hk0 : (0 : Int) ≤ (k : Int) := by omega
      by_cases h1 : k < n
      · have h1' : (k : Int) < (n : Int) := by omega
        have hlt : k < zs.length := by rw [HN.out]; exact h1
        have hlt2 : k < ys.length := by rw [← HLL.out]; exact h1
        obtain ⟨c, o, rfl, ZI⟩ : ∃ c o, sl = some ⟨c, o, none⟩ ∧ IntsAt w c o zs := by
          rcases HZ.out with e | h
          · rw [e] at hlt; simp at hlt
          · exact h
        obtain ⟨c2, o2, rfl, YI⟩ : ∃ c o, sl2 = some ⟨c, o, none⟩ ∧ IntsAt w c o ys := by
          rcases HY.out with e | h
          · rw [e] at hlt2; simp at hlt2
          · exact h
        have hc := (H2.out.cell (p := ⟨c, o + k, none⟩) ZI.1).trans (ZI.2 k hlt)
        have hd := (H2.out.cell (p := ⟨c2, o2 + k, none⟩) YI.1).trans (YI.2 k hlt2)
        by_cases e : zs.getD k 0 = ys.getD k 0
        · have e' : (zs.getD k 0 != ys.getD k 0) = false := by rw [e]; simp
          have HS := Lib.hid (H1.out.step e)
          clear hlt hlt2 ZI YI e H1
          generalize zs.getD k 0 = z at *
          generalize ys.getD k 0 = y at *
          go_wp2
          go_quiet (fail)
          go_wp2
          go_roundw
          case rel => exact ⟨k + 1, by go_num, by omega, HS, below_drewN H2.out _⟩
          case measure => simp [intOf]; omega
        · have e' : (zs.getD k 0 != ys.getD k 0) = true := by simpa using e
          have HF := Lib.hid (NN.out k e)
          clear hlt hlt2 ZI YI e H1
          generalize zs.getD k 0 = z at *
          generalize ys.getD k 0 = y at *
          go_wp2
          go_quiet (fail)
          go_wp2
          go_ret
          exact ⟨by rw [HF.out]; rfl, below_drewN H2.out _⟩
      · have h1' : ¬ (k : Int) < (n : Int) := by omega
        have HE := Lib.hid (YY.out k (by omega) H1.out)
        go_wp2
        go_ret
        exact ⟨by rw [HE.out]; rfl, H2.out⟩
  · have hl' : ((zs.length : Int) != (ys.length : Int)) = true := by simpa using (show ¬ (zs.length : Int) = (ys.length : Int) by omega)
    rw [B_no (fun e => hl (by rw [e]))]
    clear hz hy hl
    generalize zs.length = n at *
    generalize ys.length = m at *
    go_enter Try.func94, Try.ntmps94
    go_wp2
    go_ret
    exact ⟨rfl, Below.refl _ _⟩

end Go.Proofs.Ytdmfljejlhlbnaa
namespace Go.Proofs.Ytdmfljejlhlbnaa
open Go.RowKit
set_option linter.unusedVariables false

theorem Row2.plM6 {w : World} {b n : Nat} {ts : List LPl} (h : Row2 w b n ts) : PlM w b n := by
  obtain ⟨vs, h1, h2, _⟩ := h
  exact ⟨vs, h1, by omega⟩

set_option maxRecDepth 100000 in
set_option maxHeartbeats 4000000 in
theorem law6 (sl : Option Addr) (cap : Nat) (sl2 : Option Addr) (cap2 : Nat) (sl3 : Option Addr) (cap3 : Nat) (rs : List LSt) (ps : List LPr) (l3 : List LPl) (top id : Int) (w : World) (h : InT w sl sl2 rs ps) (hl3 : l3.length ≤ maxLen) (h3 : Pls w sl3 l3) :
    Calls Try.prog 6 #[TV sl rs.length cap sl2 ps.length cap2, .int .i64 top, .slice sl3 l3.length cap3, .int .i64 id] w fun e w' => e = .returned (.bool true) ∧ Below w.heap.size w w' := by
  have SZ : Hid (∀ W, Below w.heap.size w W → Calls Try.prog 36 #[TV sl rs.length cap sl2 ps.length cap2, .int .i64 1048576] W fun e w' => e = .returned (.int .i64 (lft 1048576 (rs.length + totD rs + ps.length))) ∧ Below W.heap.size W w') := fun W hW => szTab_any sl cap sl2 _ cap2 rs W h.ln h.lp (h.st.below hW)
  rcases lft_cases 1048576 (rs.length + totD rs + ps.length) (by omega) with ⟨e, hl⟩ | ⟨e, hl⟩
  · rw [e] at SZ
    clear h h3 e hl
    generalize rs.length = n at *
    generalize ps.length = m at *
    generalize l3.length = q at *
    go_enter Try.func6, Try.ntmps6
    go_wp2_with fail
    refine (SZ.out _ (bA0 _ _)).mono ?_
    rintro e w1 ⟨rfl, b1⟩
    have D1 := Lib.hid (bT (bA0 w _) b1)
    clear b1
    go_wp2
    go_ret
    exact ⟨rfl, D1.out⟩
  rcases lft_cases (1048576 - ((rs.length + totD rs + ps.length : Nat) : Int)) l3.length (by omega) with ⟨e2, hl2⟩ | ⟨e2, hl2⟩
  · rw [e] at SZ
    have SZ2 : Hid (∀ W, Calls Try.prog 37 #[.slice sl3 l3.length cap3, .int .i64 (1048576 - ((rs.length + totD rs + ps.length : Nat) : Int))] W fun e w' => e = .returned (.int .i64 (-1)) ∧ w' = W) := fun W => by
      have := szPl_any sl3 l3.length cap3 (1048576 - ((rs.length + totD rs + ps.length : Nat) : Int)) W hl3 (by omega) (by omega)
      rwa [e2] at this
    have hneg : ¬ ((1048576 : Int) - ((rs.length + totD rs + ps.length : Nat) : Int)) < 0 := by omega
    clear h h3 e hl e2 hl2
    generalize (1048576 : Int) - ((rs.length + totD rs + ps.length : Nat) : Int) = z at *
    generalize rs.length = n at *
    generalize ps.length = m at *
    generalize l3.length = q at *
    go_enter Try.func6, Try.ntmps6
    go_wp2_with fail
    refine (SZ.out _ (bA0 _ _)).mono ?_
    rintro e w1 ⟨rfl, b1⟩
    have D1 := Lib.hid (bT (bA0 w _) b1)
    clear b1
    go_wp2_with fail
    refine (SZ2.out _).mono ?_
    rintro e w2 ⟨rfl, rfl⟩
    go_wp2
    go_ret
    exact ⟨rfl, D1.out⟩
  · rw [e] at SZ
    have SZ2 : Hid (∀ W, Calls Try.prog 37 #[.slice sl3 l3.length cap3, .int .i64 (1048576 - ((rs.length + totD rs + ps.length : Nat) : Int))] W fun e w' => e = .returned (.int .i64 ((1048576 - ((rs.length + totD rs + ps.length : Nat) : Int)) - (l3.length : Int))) ∧ w' = W) := fun W => by
      have := szPl_any sl3 l3.length cap3 (1048576 - ((rs.length + totD rs + ps.length : Nat) : Int)) W hl3 (by omega) (by omega)
      rwa [e2] at this
    have hneg2 : ¬ ((1048576 - ((rs.length + totD rs + ps.length : Nat) : Int)) - (l3.length : Int)) < 0 := by omega
    have hz3 : l3.length ≤ 1048576 := by omega
    have hs : Sts w sl rs := h.st.small (by omega)
    have TO : Hid (∀ W, Below w.heap.size w W → Calls Try.prog 38 #[TV sl rs.length cap sl2 ps.length cap2] W fun e w' => ∃ b1 b2 rs', e = .returned (TV (some ⟨b1, 0, none⟩) rs.length rs.length (some ⟨b2, 0, none⟩) ps.length ps.length) ∧ bareS rs' = bareS rs ∧ OwnT W.heap.size w' b1 b2 rs' ps ∧ Below W.heap.size W w') := fun W hW => toTO_any sl cap sl2 cap2 rs ps W (by omega) (by omega) (hs.below hW) (h.pr.below hW)
    have TP : Hid (∀ W, Below w.heap.size w W → Calls Try.prog 39 #[.slice sl3 l3.length cap3] W fun e w' => e = .returned (.slice (some ⟨W.heap.size, 0, none⟩) l3.length l3.length) ∧ Row2 w' W.heap.size l3.length l3 ∧ Below W.heap.size W w') := fun W hW => toPlS_any sl3 cap3 l3 W hz3 (h3.below hW)
    have hzl := addA_len rs ps top l3 id
    have SP : Hid (∀ b1 b2 rs' c W, bareS rs' = bareS rs → Sts W (some ⟨b1, 0, none⟩) rs' → Prs W (some ⟨b2, 0, none⟩) ps → Row2 W c l3.length l3 → Calls Try.prog 15 #[TV (some ⟨b1, 0, none⟩) rs.length rs.length (some ⟨b2, 0, none⟩) ps.length ps.length, .int .i64 top, .slice (some ⟨c, 0, none⟩) l3.length l3.length, .int .i64 id] W fun e w' => ∃ v, e = .returned v ∧ w'.ownsRow W.heap.size 34 2 v (addA rs ps top l3 id).length (enCells (addA rs ps top l3 id)) ∧ Below W.heap.size W w') := fun b1 b2 rs' c W eb s p r => by
      have hl' := bareS_len eb
      have := spa_any (some ⟨b1, 0, none⟩) rs.length (some ⟨b2, 0, none⟩) ps.length (some ⟨c, 0, none⟩) l3.length rs' ps l3 top id W (by omega) hz3 s p r.pls
      rwa [hl', addA_bare ps top l3 id eb] at this
    have IM : Hid (∀ b1 b2 rs' c W, bareS rs' = bareS rs → Sts W (some ⟨b1, 0, none⟩) rs' → Prs W (some ⟨b2, 0, none⟩) ps → Row2 W c l3.length l3 → Calls Try.prog 16 #[TV (some ⟨b1, 0, none⟩) rs.length rs.length (some ⟨b2, 0, none⟩) ps.length ps.length, .int .i64 top, .slice (some ⟨c, 0, none⟩) l3.length l3.length, .int .i64 id] W fun e w' => ∃ v, e = .returned v ∧ w'.ownsRow W.heap.size 34 2 v (addA rs ps top l3 id).length (enCells (addA rs ps top l3 id)) ∧ Below W.heap.size W w') := fun b1 b2 rs' c W eb s p r => by
      have hl' := bareS_len eb
      have := ipa_any (some ⟨b1, 0, none⟩) rs.length (some ⟨b2, 0, none⟩) ps.length (some ⟨c, 0, none⟩) l3.length rs' ps l3 top id W (by omega) hz3 s p h.wf r.pls (Nat.le_refl _)
      rwa [hl', addA_bare ps top l3 id eb] at this
    have TE : Hid (∀ b1 b2 rs1 c1 c2 rs2 W, bareS rs1 = bareS rs → bareS rs2 = bareS rs → Sts W (some ⟨b1, 0, none⟩) rs1 → Prs W (some ⟨b2, 0, none⟩) ps → Sts W (some ⟨c1, 0, none⟩) rs2 → Prs W (some ⟨c2, 0, none⟩) ps → Calls Try.prog 41 #[TV (some ⟨b1, 0, none⟩) rs.length rs.length (some ⟨b2, 0, none⟩) ps.length ps.length, TV (some ⟨c1, 0, none⟩) rs.length rs.length (some ⟨c2, 0, none⟩) ps.length ps.length] W fun e w' => e = .returned (.bool true) ∧ Below W.heap.size W w') := fun b1 b2 rs1 c1 c2 rs2 W e1 e2 s1 p1 s2 p2 => by
      have := eqT_any (some ⟨b1, 0, none⟩) (some ⟨c1, 0, none⟩) rs.length rs.length (some ⟨b2, 0, none⟩) (some ⟨c2, 0, none⟩) ps.length ps.length rs1 rs2 ps W (by rw [bareS_len e1]; omega) (by omega) (e1.trans e2.symm) s1 s2 p1 p2
      rwa [bareS_len e1, bareS_len e2] at this
    have TE2 : Hid (∀ b c W, Row2 W b l3.length l3 → Row2 W c l3.length l3 → Calls Try.prog 40 #[.slice (some ⟨b, 0, none⟩) l3.length l3.length, .slice (some ⟨c, 0, none⟩) l3.length l3.length] W fun e w' => e = .returned (.bool true) ∧ Below W.heap.size W w') := fun b c W r1 r2 => eqPlS_any _ _ _ _ l3 W hz3 r1.pls r2.pls
    have MP : Hid (∀ b k W, 0 ≤ k → k ≤ 4000000 → Row2 W b l3.length l3 → Calls Try.prog 43 #[.slice (some ⟨b, 0, none⟩) l3.length l3.length, .int .i64 k] W fun e w' => e = .returned (.int .i64 (k + 2 * (l3.length : Int))) ∧ Only b W w') := fun b k W k0 k1 r => mkPl_any b l3.length k hz3 k0 (by omega) W r.plM6
    have MT : Hid (∀ C b1 b2 rs' w0 W, bareS rs' = bareS rs → OwnT C w0 b1 b2 rs' ps → Below w0.heap.size w0 W → Calls Try.prog 42 #[TV (some ⟨b1, 0, none⟩) rs.length rs.length (some ⟨b2, 0, none⟩) ps.length ps.length, .int .i64 1] W fun e w' => ∃ k : Int, (0 ≤ k ∧ k ≤ 4000000) ∧ e = .returned (.int .i64 k) ∧ Btw C w0.heap.size W w') := fun C b1 b2 rs' w0 W eb o hb => by
      have o' := o.below hb
      have st := o.stM.below hb
      have hl' := bareS_len eb
      have ht : totD rs' = totD rs := by
        have := congrArg (List.map fun r : Int × Int × List Int => r.2.2.length) eb
        unfold totD
        simpa [bareS, Function.comp_def] using congrArg List.sum this
      have := mkT_any C w0.heap.size b1 b2 rs' ps.length (by rw [hl', ht]; omega) W st ⟨_, o'.r2.choose_spec.1, o'.r2.choose_spec.2.1⟩ o.lo2 o.r2.lt hb.size
      rwa [hl'] at this
    have hneg : ¬ ((1048576 : Int) - ((rs.length + totD rs + ps.length : Nat) : Int)) < 0 := by omega
    clear h hs e hl h3 e2 hl2
    generalize (1048576 : Int) - ((rs.length + totD rs + ps.length : Nat) : Int) = z at *
    generalize rs.length = n at *
    generalize ps.length = m at *
    generalize addA rs ps top l3 id = zs at *
    have EQ : Hid (∀ C C' v v' W, World.ownsRow W C 34 2 v zs.length (enCells zs) → World.ownsRow W C' 34 2 v' zs.length (enCells zs) → Calls Try.prog 40 #[v, v'] W fun e w' => e = .returned (.bool true) ∧ Below W.heap.size W w') := fun C C' v v' W o o' => by
      obtain ⟨s1, k1, rfl, i1⟩ := own_row2 o
      obtain ⟨s2, k2, rfl, i2⟩ := own_row2 o'
      exact eqPlS_any s1 s2 k1 k2 zs W (by omega) i1 i2
    have MR : Hid (∀ C v W, World.ownsRow W C 34 2 v zs.length (enCells zs) → Calls Try.prog 43 #[v, .int .i64 1] W fun e w' => e = .returned (.int .i64 (1 + 2 * (zs.length : Int))) ∧ w'.ownsRow C 34 2 v zs.length (valsZ (marks 1 (zs.length * 2))) ∧ W.grownBy w' v.ownBlock) := fun C v W o => mark2_row C v zs.length _ 1 (by omega) (by omega) (by omega) W o
    have HR : Hid (∀ C v W, World.ownsRow W C 34 2 v zs.length (valsZ (marks 1 (zs.length * 2))) → Calls Try.prog 44 #[v, .int .i64 1] W fun e w' => e = .returned (.int .i64 (1 + 2 * (zs.length : Int))) ∧ w' = W) := fun C v W o => held2_row C v zs.length 1 (by omega) (by omega) (by omega) W o
    generalize valsZ (marks 1 (zs.length * 2)) = ms at *
    generalize enCells zs = xs at *
    generalize zs.length = q at *
    generalize l3.length = u at *
    have HT := Lib.hid (show (w.alloc (.cells #[.slice sl n cap, .slice sl2 m cap2] 59)).heap[w.heap.size]? = some (.cells #[.slice sl n cap, .slice sl2 m cap2] 59) from new_at _ _)
    have B0 := Lib.hid (bA0 w (.cells #[.slice sl n cap, .slice sl2 m cap2] 59))
    have hw0 : (w.alloc (.cells #[.slice sl n cap, .slice sl2 m cap2] 59)).heap.size = w.heap.size + 1 := by simp
    have KT : Hid (∀ W, Below (w.heap.size + 1) (w.alloc (.cells #[.slice sl n cap, .slice sl2 m cap2] 59)) W → w.heap.size < W.heap.size ∧ W.cell? ⟨w.heap.size, 0, none⟩ = some (.slice sl n cap) ∧ W.cell? ⟨w.heap.size, 1, none⟩ = some (.slice sl2 m cap2)) := fun W hW => by
      have := (hW.block w.heap.size (by omega)).trans HT.out
      exact ⟨(Array.getElem?_eq_some_iff.1 this).1, by simp [World.cell?, this], by simp [World.cell?, this]⟩
    go_enter Try.func6, Try.ntmps6
    go_wp2_with fail
    refine (SZ.out _ (bA0 _ _)).mono ?_
    rintro e w1 ⟨rfl, b1⟩
    generalize w.alloc (.cells #[.slice sl n cap, .slice sl2 m cap2] 59) = wA at *
    have A1 : Hid (Below (w.heap.size + 1) wA w1) := by rw [← hw0]; exact b1
    have D1 := Lib.hid (bT B0.out b1)
    clear b1 SZ
    go_wp2_with fail
    refine (SZ2.out _).mono ?_
    rintro e w1' ⟨rfl, rfl⟩
    clear SZ2
    obtain ⟨tl, t0, t1⟩ := KT.out _ A1.out
    have hs1 := A1.out.size
    go_wp2_with fail
    refine (TO.out _ D1.out).mono ?_
    rintro e w2 ⟨b1, b2, rs1, rfl, e1, o1, bl2⟩
    have D2 := Lib.hid (bT D1.out bl2)
    have A2 := Lib.hid (A1.out.trans (bl2.mono (by omega)))
    have O2 := Lib.hid o1
    have E1 := Lib.hid e1
    have hs2 := A2.out.size
    clear e1 o1 bl2 A1 D1 t0 t1 tl
    go_wp2_with fail
    refine (TP.out _ D2.out).mono ?_
    rintro e w2b ⟨rfl, r2, bl2⟩
    have D2b := Lib.hid (bT D2.out bl2)
    have A2b := Lib.hid (A2.out.trans (bl2.mono (by omega)))
    have T2 := Lib.hid (SP.out b1 b2 rs1 _ w2b E1.out (O2.out.below bl2).sts (O2.out.below bl2).prs r2)
    have hs2b := A2b.out.size
    clear r2 bl2 O2 E1 A2 D2
    go_wp2_with fail
    refine T2.out.mono ?_
    rintro e w3 ⟨v0, rfl, q3, bl3⟩
    have D3 := Lib.hid (bT D2b.out bl3)
    have A3 := Lib.hid (A2b.out.trans (bl3.mono (by omega)))
    have V3 := Lib.hid q3
    have L3 := Lib.hid (fun j hj => (q3.lt j hj).2)
    have D3s := Lib.hid D3.out.size
    clear bl3 T2 A2b D2b q3
    obtain ⟨tl, t0, t1⟩ := KT.out _ A3.out
    have hs3 := A3.out.size
    go_wp2_with fail
    refine (TO.out _ D3.out).mono ?_
    rintro e w4 ⟨c1, c2, rs2, rfl, e2, o2, bl4⟩
    have D4 := Lib.hid (bT D3.out bl4)
    have A4 := Lib.hid (A3.out.trans (bl4.mono (by omega)))
    have E2 := Lib.hid e2
    have O4 := Lib.hid o2
    have V4 := Lib.hid (own_below V3.out bl4)
    have hs4 := A4.out.size
    have hs34 := bl4.size
    have X5 := Lib.hid (TabAt.new w4 (some ⟨c1, 0, none⟩) n n (some ⟨c2, 0, none⟩) m m)
    have F5 := Lib.hid (bA0 w4 (.cells #[.slice (some ⟨c1, 0, none⟩) n n, .slice (some ⟨c2, 0, none⟩) m m] 26))
    have D5 := Lib.hid (bA D4.out (.cells #[.slice (some ⟨c1, 0, none⟩) n n, .slice (some ⟨c2, 0, none⟩) m m] 26))
    clear e2 o2 bl4 A3 D3 t0 t1 tl V3
    have hw5 : w4.heap.size < (w4.alloc (.cells #[.slice (some ⟨c1, 0, none⟩) n n, .slice (some ⟨c2, 0, none⟩) m m] 26)).heap.size := by simp
    go_wp2_with fail
    generalize w4.alloc (.cells #[.slice (some ⟨c1, 0, none⟩) n n, .slice (some ⟨c2, 0, none⟩) m m] 26) = w5 at *
    refine (TP.out _ D5.out).mono ?_
    rintro e w5b ⟨rfl, r5, bl5⟩
    have F5b := Lib.hid (bT F5.out bl5)
    have X5b := Lib.hid (X5.out.below bl5)
    have R5b := Lib.hid r5
    have hs5b := R5b.out.lt
    have F6 := Lib.hid (IM.out c1 c2 rs2 _ w5b E2.out (O4.out.below F5b.out).sts (O4.out.below F5b.out).prs r5)
    clear r5 bl5 F5 X5 D5
    obtain ⟨x0, x1⟩ := X5b.out.cells
    have xl := X5b.out.lt
    go_wp2_with fail
    refine F6.out.mono ?_
    rintro e w6 ⟨v6, rfl, q6, bl6⟩
    have hs6 := bl6.size
    have G6 := Lib.hid (bT F5b.out bl6)
    have D6 := Lib.hid (bT D4.out G6.out)
    have A6 := Lib.hid (A4.out.trans (G6.out.mono (by omega)))
    have V6 := Lib.hid (own_below V4.out G6.out)
    have X6 := Lib.hid (X5b.out.below bl6)
    have P6 := Lib.hid (R5b.out.below bl6)
    have R6 := Lib.hid q6
    have L6 := Lib.hid (fun j hj => q6.lt j hj)
    clear q6 bl6 F5b F6 X5b V4 D4 A4 R5b x0 x1 xl
    have E7 := Lib.hid (EQ.out _ _ v6 v0 w6 R6.out V6.out)
    go_wp2_with fail
    refine E7.out.mono ?_
    rintro e w7 ⟨rfl, bl7⟩
    have G7 := Lib.hid (bT G6.out bl7)
    have D7 := Lib.hid (bT D6.out bl7)
    have A7 := Lib.hid (A6.out.trans (bl7.mono (by omega)))
    have V7 := Lib.hid (own_below V6.out bl7)
    have R7 := Lib.hid (own_below R6.out bl7)
    have X7 := Lib.hid (X6.out.below bl7)
    have P7 := Lib.hid (P6.out.below bl7)
    have hs7 := bl7.size
    clear bl7 G6 D6 A6 V6 R6 X6 E7 P6
    have KX : Hid (∀ W, Below w7.heap.size w7 W → w.heap.size < W.heap.size ∧ w4.heap.size < W.heap.size ∧ W.cell? ⟨w.heap.size, 0, none⟩ = some (.slice sl n cap) ∧ W.cell? ⟨w.heap.size, 1, none⟩ = some (.slice sl2 m cap2) ∧ W.cell? ⟨w4.heap.size, 0, none⟩ = some (.slice (some ⟨c1, 0, none⟩) n n) ∧ W.cell? ⟨w4.heap.size, 1, none⟩ = some (.slice (some ⟨c2, 0, none⟩) m m)) := fun W hW => by
      obtain ⟨k1, k2, k3⟩ := KT.out W (A7.out.trans (hW.mono (by omega)))
      obtain ⟨k4, k5⟩ := (X7.out.below hW).cells
      exact ⟨k1, (X7.out.below hW).lt, k2, k3, k4, k5⟩
    go_wp2_with fail
    refine wp_region_held_drew (S := fun W => w.heap.size < W.heap.size ∧ w4.heap.size < W.heap.size ∧ W.cell? ⟨w.heap.size, 0, none⟩ = some (.slice sl n cap) ∧ W.cell? ⟨w.heap.size, 1, none⟩ = some (.slice sl2 m cap2) ∧ W.cell? ⟨w4.heap.size, 0, none⟩ = some (.slice (some ⟨c1, 0, none⟩) n n) ∧ W.cell? ⟨w4.heap.size, 1, none⟩ = some (.slice (some ⟨c2, 0, none⟩) m m)) (by kernel_rfl) ?_ (fun hHeld => ?_)
    · exact KX.out _ (Below.refl _ _).drew
    refine wpAnyH_take (i := 0) (oi := _) (v := ?_) rfl (by kernel_rfl) (by kernel_rfl) (by kernel_rfl) (fun _ _ _ h => h) (Or.inl ⟨by rfl, ?_⟩) (by assumption) ?_
    rotate_left
    · first | (intro w hSw; (try dsimp only at hSw); go_simp; done) | (intro w hSw; (try dsimp only at hSw); go_simp; with_reducible rfl)
    try simp only [Act.put, List.setIfInBounds_toArray, List.set_cons_zero, List.set_cons_succ, List.getElem_toArray, List.getElem_cons_zero]
    refine wpAnyH_take (i := 1) (oi := _) (v := ?_) rfl (by kernel_rfl) (by kernel_rfl) (by kernel_rfl) (fun _ _ _ h => h) (Or.inl ⟨by rfl, ?_⟩) (by assumption) ?_
    rotate_left
    · first | (intro w hSw; (try dsimp only at hSw); go_simp; done) | (intro w hSw; (try dsimp only at hSw); go_simp; with_reducible rfl)
    try simp only [Act.put, List.setIfInBounds_toArray, List.set_cons_zero, List.set_cons_succ, List.getElem_toArray, List.getElem_cons_succ, List.getElem_cons_zero]
    refine wpAnyH_ready (rs := [2]) (by kernel_rfl) (by simp) ?_
    refine AllReadyH.cons rfl (fun K hK => ?_) AllReadyH.nil
    go_simp
    go_wp2_with (go_at_call 38; refine (TO.out _ D7.out.drew).mono ?_; rintro e w8 ⟨d1, d2, rs3, rfl, e3, o3, bl8⟩)
    have D8 : Hid (Below w7.heap.size w7 w8) := bT ((Below.refl w7.heap.size w7).drew) bl8
    have O8 := Lib.hid o3
    have E8 := Lib.hid e3
    clear bl8 o3 e3
    refine hK.out _ _ ?_ (fun hHeld => ?_)
    · exact KX.out _ D8.out
    clear hK K
    refine wpAnyH_ready (rs := [3]) (by kernel_rfl) (by simp) ?_
    refine AllReadyH.cons rfl (fun K hK => ?_) AllReadyH.nil
    go_simp
    go_wp2_with (go_at_call 41; refine (TE.out c1 c2 rs2 d1 d2 rs3 _ E2.out E8.out ((O4.out.below G7.out).below D8.out).sts ((O4.out.below G7.out).below D8.out).prs O8.out.sts O8.out.prs).mono ?_; rintro e w9 ⟨rfl, bl9⟩)
    have D9 : Hid (Below w7.heap.size w7 w9) := bT D8.out bl9
    clear bl9
    refine hK.out _ _ ?_ (fun hHeld => ?_)
    · exact KX.out _ D9.out
    clear hK K
    refine wpAnyH_take (i := 4) (oi := _) (v := ?_) rfl (by kernel_rfl) (by kernel_rfl) (by kernel_rfl) (fun _ _ _ h => h) (Or.inl ⟨by rfl, ?_⟩) (by assumption) ?_
    rotate_left
    · first | (intro w hSw; (try dsimp only at hSw); go_simp; done) | (intro w hSw; (try dsimp only at hSw); go_simp; with_reducible rfl)
    try simp only [Act.put, List.setIfInBounds_toArray, List.set_cons_zero, List.set_cons_succ, List.getElem_toArray, List.getElem_cons_succ, List.getElem_cons_zero]
    refine wpAnyH_done (by kernel_rfl) ?_ _
    have G9 := Lib.hid (bT G7.out D9.out)
    have B9 := Lib.hid (bT D7.out D9.out)
    have A9 := Lib.hid (A7.out.trans (D9.out.mono (by omega)))
    have V9 := Lib.hid (own_below V7.out D9.out)
    have R9 := Lib.hid (own_below R7.out D9.out)
    have X9 := Lib.hid (X7.out.below D9.out)
    have P9 := Lib.hid (P7.out.below D9.out)
    have hs9 := D9.out.size
    clear D9 D8 KX O8 E8 TE G7 D7 A7 V7 R7 X7 P7
    go_wp2_with fail
    refine (TP.out _ B9.out).mono ?_
    rintro e w9b ⟨rfl, r9, bl9⟩
    have T9 := Lib.hid (TE2.out _ _ w9b (P9.out.below bl9) r9)
    have F9 := Lib.hid bl9
    clear r9 bl9
    go_wp2_with fail
    refine T9.out.mono ?_
    rintro e w9c ⟨rfl, bl9⟩
    have F9c := Lib.hid (bT F9.out bl9)
    have G9c := Lib.hid (bT G9.out F9c.out)
    have B9c := Lib.hid (bT B9.out F9c.out)
    have A9c := Lib.hid (A9.out.trans (F9c.out.mono (by omega)))
    have V9c := Lib.hid (own_below V9.out F9c.out)
    have R9c := Lib.hid (own_below R9.out F9c.out)
    have X9c := Lib.hid (X9.out.below F9c.out)
    have P9c := Lib.hid (P9.out.below F9c.out)
    have hs9c := F9c.out.size
    clear bl9 F9 F9c T9 G9 B9 A9 V9 R9 X9 P9
    have M10 := Lib.hid (MT.out _ c1 c2 rs2 w4 w9c E2.out O4.out G9c.out)
    obtain ⟨x0, x1⟩ := X9c.out.cells
    have xl := X9c.out.lt
    go_wp2_with fail
    refine M10.out.mono ?_
    rintro e w10 ⟨k, ⟨k0, k1⟩, rfl, g10⟩
    have V10 := Lib.hid (own_btw V9c.out g10 (fun j hj => .inl (by have := L3.out j hj; omega)))
    have R10 := Lib.hid (own_btw R9c.out g10 (fun j hj => .inr (by have := (L6.out j hj).1; omega)))
    have P10 : Hid (Row2 w10 w5.heap.size u l3) := by
      obtain ⟨vs, a1, a2⟩ := P9c.out
      exact ⟨vs, (g10.block w5.heap.size P9c.out.lt (.inr (by omega))).trans a1, a2⟩
    have B10 := Lib.hid (B9c.out.trans ((g10.below (by omega)).mono (by have := D3s.out; omega)))
    have A10 := Lib.hid (A9c.out.trans ((g10.below (by omega)).mono (by omega)))
    have hs10 := g10.size
    clear g10 M10 V9c R9c B9c A9c X9c x0 x1 xl MT G9c O4 P9c
    go_wp2_with fail
    refine (MP.out _ k w10 k0 k1 P10.out).mono ?_
    rintro e w10b ⟨rfl, g10⟩
    have k2 : ¬ (k + 2 * (u : Int)) < 0 := by omega
    have V10b := Lib.hid (own_btw V10.out ((Btw.refl w5.heap.size (w5.heap.size + 1) w10).only g10 (Nat.le_refl _) (Nat.lt_succ_self _)) (fun j hj => .inl (by have := L3.out j hj; omega)))
    have R10b := Lib.hid (own_btw R10.out ((Btw.refl w5.heap.size (w5.heap.size + 1) w10).only g10 (Nat.le_refl _) (Nat.lt_succ_self _)) (fun j hj => .inr (by have := (L6.out j hj).1; omega)))
    have B10b := Lib.hid (B10.out.grown g10.grownBy (by have := D3s.out; omega) (fun j hj => by cases hj; have := D3s.out; omega))
    have A10b := Lib.hid (A10.out.grown g10.grownBy (by omega) (fun j hj => by cases hj; omega))
    have hs10b := g10.size
    clear g10 V10 R10 B10 A10 P10 MP
    generalize k + 2 * (u : Int) = kk at *
    go_wp2_with fail
    refine (EQ.out _ _ v6 v0 w10b R10b.out V10b.out).mono ?_
    rintro e w11 ⟨rfl, bl11⟩
    have B11 := Lib.hid (bT B10b.out bl11)
    have A11 := Lib.hid (A10b.out.trans (bl11.mono (by omega)))
    have V11 := Lib.hid (own_below V10b.out bl11)
    have R11 := Lib.hid (own_below R10b.out bl11)
    have hs11 := bl11.size
    clear bl11 B10b A10b V10b R10b
    go_wp2_with fail
    refine (MR.out _ v6 w11 R11.out).mono ?_
    rintro e w12 ⟨rfl, o12, g12⟩
    have LB : Hid (∀ j, v6.ownBlock = some j → w4.heap.size < j ∧ j < w11.heap.size) := fun j hj => by
      have := L6.out j hj
      omega
    have V12 := Lib.hid (own_btw V11.out ((Btw.refl w4.heap.size w11.heap.size w11).grown g12 (fun j hj => by have := LB.out j hj; omega)) (fun j hj => .inl (by have := L3.out j hj; omega)))
    have B12 := Lib.hid (B11.out.grown g12 (by have := D3s.out; omega) (fun j hj => by have := LB.out j hj; have := D3s.out; omega))
    have A12 := Lib.hid (A11.out.grown g12 (by omega) (fun j hj => by have := LB.out j hj; omega))
    have R12 := Lib.hid o12
    clear o12 g12 V11 B11 A11 R11 MR LB
    go_wp2_with fail
    refine (HR.out _ v6 w12 R12.out).mono ?_
    rintro e w13 ⟨rfl, rfl⟩
    have hq : ¬ (1 + 2 * (q : Int)) < 0 := by omega
    obtain ⟨tl, t0, t1⟩ := KT.out _ A12.out
    go_wp2_with fail
    refine (TO.out _ B12.out).mono ?_
    rintro e w14 ⟨f1, f2, rs4, rfl, e4, o4, bl14⟩
    have F14 := Lib.hid bl14
    have B14 := Lib.hid (bT B12.out bl14)
    have O14 := Lib.hid o4
    have E14 := Lib.hid e4
    clear e4 o4 bl14 tl t0 t1
    go_wp2_with fail
    refine (TP.out _ B14.out).mono ?_
    rintro e w14b ⟨rfl, r14, bl14⟩
    have F14b := Lib.hid (bT F14.out bl14)
    have B14b := Lib.hid (bT B14.out bl14)
    have T15 := Lib.hid (IM.out f1 f2 rs4 _ w14b E14.out (O14.out.below bl14).sts (O14.out.below bl14).prs r14)
    clear r14 bl14 O14 E14 F14 B14
    go_wp2_with fail
    refine T15.out.mono ?_
    rintro e w15 ⟨v15, rfl, q15, bl15⟩
    have B15 := Lib.hid (bT B14b.out bl15)
    have F15 := Lib.hid (bT F14b.out bl15)
    have R15 := Lib.hid q15
    clear q15 bl15 F14b B14b T15
    go_wp2_with fail
    refine (EQ.out _ _ v15 v0 w15 R15.out (own_below V12.out F15.out)).mono ?_
    rintro e w16 ⟨rfl, bl16⟩
    have B16 := Lib.hid (bT B15.out bl16)
    have F16 := Lib.hid (bT F15.out bl16)
    clear bl16 B15 F15 R15
    go_wp2_with fail
    refine (HR.out _ v6 w16 (own_below R12.out F16.out)).mono ?_
    rintro e w17 ⟨rfl, rfl⟩
    go_wp2
    go_ret
    exact ⟨rfl, B16.out⟩

end Go.Proofs.Ytdmfljejlhlbnaa
