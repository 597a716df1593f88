/-
  A PLACE PUT INTO A ROW: slices.Clone and slices.Insert at places.
  A PLACE PUT INTO A ROW: slices.Insert at places.
  A PLACE PUT INTO A ROW: what slices.Insert answers.
  A PLACE AMONG PLACES, as lists: where it goes, and that a plan stays right just if it may stand beside all others.
  WHERE A STATION GOES IN A PLAN: slices.BinarySearch; impl.PlanAdd.
  ONE STATION MORE: impl.PlanAdd.
  A PLACE PUT AMONG PLACES: spec.l05With.
  ONE STATION MORE: spec.PlanAdd.
-/
import Derived.Test.YtdmfljejlhlbnaaUb
import Derived.Shelf.RegionOpenPlain
import Derived.Lib.Overlaps
import Derived.Lib.SliceRun
import Derived.Laws.Externs
import Derived.Test.YtdmfljejlhlbnaaWi
import Derived.Test.YtdmfljejlhlbnaaPl
import Derived.Test.YtdmfljejlhlbnaaXb
namespace Go.Proofs.Ytdmfljejlhlbnaa
open Go.RowKit
set_option linter.unusedVariables false

/-- copy, at elements of two cells. -/
theorem run_copy2 (w : World) (ty : TypeId) (b o dLen dCap : Nat) (a : Addr) (sLen sCap : Nat) (cs : List Value) (hn : cs.length = Nat.min sLen dLen * 2)
    (hsrc : ∀ j v, cs[j]? = some v → w.cell? (a.add j) = some v) (hc : ∀ j, j < cs.length → (w.cell? ⟨b, o + j, none⟩).isSome = true) (hf : ∀ j, j < cs.length → w.frozen? ⟨b, o + j, none⟩ = false) (h1 : ∀ v ∈ cs, v.oneCell' = true) :
    (Builtin.copy_ #[27, 27] ty #[.slice (some ⟨b, o, none⟩) dLen dCap, .slice (some a) sLen sCap]).run Try.prog w = .ok (goInt (Nat.min sLen dLen)) (w.setCells b o cs) := by
  obtain ⟨i, hi, h0, hs, hb⟩ := info_parts info34
  have hl := run_loadCells_list (P := Try.prog) w a cs hsrc
  have hst := run_storeCells_cells (P := Try.prog) b o cs 0 w (by simpa using hc) (by simpa using hf) h1
  simp [Builtin.copy_, run_underlying Try.underlying27, Builtin.lenOf, Builtin.firstCells, sizeOf, typeInfo, hi, hs, ← hn, hl, hst]

/-- Cells of a row set one by one. -/
theorem row_set (g : Nat) (t : TypeId) : ∀ (ws : List Value) (o : Nat) (W : World) (us : Array Value), W.heap[g]? = some (.cells us t) → o + ws.length ≤ us.size →
    ∃ us', (W.setCells g o ws).heap[g]? = some (.cells us' t) ∧ us'.size = us.size ∧ (∀ k, k < o → us'[k]? = us[k]?) ∧ (∀ k, k < ws.length → us'[o + k]? = ws[k]?) ∧ (∀ k, o + ws.length ≤ k → us'[k]? = us[k]?) ∧ (∀ k, k ≠ g → (W.setCells g o ws).heap[k]? = W.heap[k]?) ∧ (W.setCells g o ws).heap.size = W.heap.size ∧ (W.setCells g o ws).os = W.os ∧ (W.setCells g o ws).tape = W.tape ∧ (W.setCells g o ws).output = W.output
  | [], o, W, us, h, _ => ⟨us, h, rfl, fun _ _ => rfl, fun k hk => by simp at hk, fun _ _ => rfl, fun _ _ => rfl, rfl, rfl, rfl, rfl⟩
  | v :: r, o, W, us, h, hl => by
    simp only [List.length_cons] at hl
    obtain ⟨us', g1, g2, g3, g4, g5, g6, g7, g8, g9, g10⟩ := row_set g t r (o + 1) (W.setCell ⟨g, o, none⟩ v) (us.setIfInBounds o v) (heap_setCell_same W g o us t v h) (by simp; omega)
    refine ⟨us', g1, by rw [g2]; simp, fun k hk => ?_, fun k hk => ?_, fun k hk => ?_, fun k hk => ?_, by rw [World.setCells, g7]; simp, g8, g9, g10⟩
    · rw [g3 k (by omega), Array.getElem?_setIfInBounds_ne (by omega)]
    · cases k with
      | zero => rw [Nat.add_zero, g3 o (by omega), Array.getElem?_setIfInBounds_self_of_lt (by omega)]; rfl
      | succ k =>
        have := g4 k (by simpa using hk)
        rw [show o + (k + 1) = o + 1 + k by omega, this]; simp
    · simp only [List.length_cons] at hk
      rw [g5 k (by omega), Array.getElem?_setIfInBounds_ne (by omega)]
    · rw [World.setCells, g6 k hk]; exact heap_setCell_other W ⟨g, o, none⟩ k v hk

theorem own_cap6 {w : World} {B : Nat} {e : TypeId} {m : Nat} {sl : Option Addr} {n cap : Nat} {k : Nat} {xs : List Value} (h : w.ownsRow B e m (.slice sl n cap) k xs) : k ≤ cap := by
  rcases h.2 with ⟨_, h0⟩ | ⟨g, cp, cur, hv, _, _, h5, _⟩
  · rw [h0]; exact Nat.zero_le _
  · cases hv; exact h5
/-- Places put behind places: both ways of it. -/
theorem appP {w : World} {B : Nat} {v : Value} {ks : List LPl} (h : w.ownsRow B 34 2 v ks.length (enCells ks)) {s : Option Addr} {r : List LPl} (k : Nat) (hi : Pls w s r) (hB : B ≤ w.heap.size) (hl : ks.length + r.length ≤ 10000000) :
    ∃ v9 w9, (∀ ty, (Builtin.append_ #[27, 27] ty #[v, .slice s r.length k]).run Try.prog w = .ok v9 w9) ∧ w9.ownsRow B 34 2 v9 (ks ++ r).length (enCells (ks ++ r)) ∧ w.grownBy w9 v.ownBlock ∧ ∀ j, v.ownBlock = some j → B ≤ j := by
  obtain ⟨i3, hi3, hd0, hd1, hd2⟩ := info_parts info34
  have hlo : ∀ j, v.ownBlock = some j → B ≤ j := fun j hj => (h.lt j hj).1
  obtain ⟨sl, cap, rfl⟩ := own_v h
  by_cases he : r = []
  · subst he
    exact ⟨_, w, fun ty => app_none27 w ty sl ks.length cap (own_cap6 h) s k, by rw [List.append_nil]; exact h, ⟨rfl, rfl, rfl, Nat.le_refl _, fun _ _ _ => rfl⟩, hlo⟩
  · rcases hi with hi | ⟨c, o, rfl, hi⟩
    · exact absurd hi he
    · obtain ⟨g, c9, w9, hr, own9, grow9, -, -⟩ := run_append_lies (P := Try.prog) w 27 27 B 34 i3 (.agg #[.int .i64 0, .int .i64 0]) 2 16 Try.underlying27 hi3 hd0 hd1 hd2 rfl (by decide) _ _ _ h ⟨c, o, none⟩ r.length k (enCells r) (enCells_len r) (pl_cells hi) (enCells_one r) (List.length_pos_iff.2 he) (by unfold maxLen; omega) (by omega) hB w.heap.size rfl
      exact ⟨_, w9, fun ty => hr, by rw [List.length_append, enCells_app]; exact own9, grow9, hlo⟩
/-- An empty row of places just made. -/
theorem own_none2 (w : World) : (w.alloc (.cells #[] 34)).ownsRow w.heap.size 34 2 (.slice (some ⟨w.heap.size, 0, none⟩) 0 0) ([] : List LPl).length (enCells []) :=
  ⟨rfl, .inr ⟨w.heap.size, 0, #[], rfl, Nat.le_refl _, by show (w.heap.push _)[w.heap.size]? = _; simp, Nat.le_refl _, Nat.zero_le _, rfl, rfl⟩⟩

set_option maxRecDepth 100000 in
set_option maxHeartbeats 2000000 in
/-- slices.Clone at places. -/
theorem clo_any (sl : Option Addr) (cap : Nat) (pl : List LPl) (w : World) (hn : pl.length ≤ 1048576) (hz : Pls w sl pl) :
    Calls Try.prog 76 #[.slice sl pl.length cap] w fun e w' => ∃ v, e = .returned v ∧ w'.ownsRow w.heap.size 34 2 v pl.length (enCells pl) ∧ Below w.heap.size w w' := by
  cases sl with
  | none =>
    have e : pl = [] := by
      rcases hz with h | ⟨c, o, e, _⟩
      · exact h
      · cases e
    subst e
    have hq := fun W : World => Lib.run_eql_slice_nil (P := Try.prog) W 27 34 none 0 cap 0 0 Try.underlying27
    simp only [Option.isNone_none] at hq
    go_enter Try.func76, Try.ntmps76
    go_wp2
    go_ret
    exact ⟨_, rfl, ⟨rfl, .inl ⟨rfl, rfl⟩⟩, Below.refl _ _⟩
  | some a =>
    have B0 := Lib.hid (bA0 w (.cells #[] 34))
    obtain ⟨v9, w9, ha, ow, gr, hj⟩ := appP (ks := []) (own_none2 w) cap (hz.below B0.out) B0.out.size (by simp; omega)
    have ha' := ha 27
    have O9 : Hid (w9.ownsRow w.heap.size 34 2 v9 pl.length (enCells pl)) := by
      have := ow
      rwa [List.nil_append] at this
    have hq := fun W : World => Lib.run_eql_slice_nil (P := Try.prog) W 27 34 (some a) pl.length cap 0 0 Try.underlying27
    simp only [Option.isNone_some] at hq
    have B9 := Lib.hid (B0.out.grown gr B0.out.size hj)
    clear ha ow gr hj hz B0
    generalize pl.length = n at *
    go_enter Try.func76, Try.ntmps76
    go_wp2_with (at_builtin; refine Lib.wpList_append_run _ rfl _ _ _ _ rfl _ _ rfl rfl _ _ ha' ?_)
    go_ret
    exact ⟨_, rfl, O9.out, B9.out⟩

end Go.Proofs.Ytdmfljejlhlbnaa
namespace Go.Proofs.Ytdmfljejlhlbnaa
open Go.RowKit
set_option linter.unusedVariables false

theorem pls_one {w : World} {b : Nat} {x y : Int} (h : w.heap[b]? = some (.cells #[.int .i64 x, .int .i64 y] 34)) : Pls w (some ⟨b, 0, none⟩) [(x, y)] := by
  refine .inr ⟨b, 0, rfl, (Array.getElem?_eq_some_iff.1 h).1, fun i hi => ?_⟩
  obtain rfl : i = 0 := by simp at hi; omega
  constructor <;> simp [World.cell?, h]

set_option maxRecDepth 100000 in
set_option maxHeartbeats 4000000 in
/-- slices.Insert at its end. -/
theorem insE_any (B vb : Nat) (x y : Int) (v : Value) (pl : List LPl) (w : World) (h : w.ownsRow B 34 2 v pl.length (enCells pl)) (hB : B ≤ w.heap.size) (hv : w.heap[vb]? = some (.cells #[.int .i64 x, .int .i64 y] 34)) (hn : pl.length ≤ 1000) :
    Calls Try.prog 75 #[v, .int .i64 pl.length, .slice (some ⟨vb, 0, none⟩) 1 1] w fun e w' => ∃ v', e = .returned v' ∧ w'.ownsRow B 34 2 v' (pl.length + 1) (enCells (pl ++ [(x, y)])) ∧ Below B w w' := by
  obtain ⟨v9, w9, ha, ow, gr, hj⟩ := appP (r := [(x, y)]) h 1 (pls_one hv) hB (by simp; omega)
  have ha' := ha 27
  have O9 := Lib.hid ow
  rw [List.length_append] at O9
  have B9 := Lib.hid ((Below.refl B w).grown gr hB hj)
  obtain ⟨sl, cap, rfl⟩ := own_v h
  clear ha ow gr hj
  generalize pl.length = n at *
  go_enter Try.func75, Try.ntmps75
  go_wp2_with (at_builtin; refine Lib.wpList_append_run _ rfl _ _ _ _ rfl _ _ rfl rfl _ _ ha' ?_)
  all_goals (go_ret; exact ⟨_, rfl, O9.out, B9.out⟩)

set_option maxRecDepth 100000 in
set_option maxHeartbeats 4000000 in
set_option maxRecDepth 100000 in
set_option maxHeartbeats 4000000 in
/-- slices.Insert, no room: a new row. -/
theorem insG_walk (g i n vb : Nat) (w : World) (hi : i < n) (hn : n ≤ 1000) (W1 W2 W3 : World) (H G : Nat)
   (hrz : ∀ ty, (Builtin.append_ #[27, 3] ty #[.slice (some ⟨g, 0, none⟩) i n, .int .i64 ((n : Int) + 1 - (i : Int))]).run Try.prog w = .ok (.slice (some ⟨H, 0, none⟩) (n + 1) G) W1) (hG : n + 1 ≤ G) (hG2 : G ≤ 9223372036854775807)
   (hcA : (Builtin.copy_ #[27, 27] 3 #[.slice (some ⟨H, i * 2, none⟩) (n + 1 - i) (G - i), .slice (some ⟨vb, 0, none⟩) 1 1]).run Try.prog W1 = .ok (.int .i64 1) W2)
   (hcB : (Builtin.copy_ #[27, 27] 3 #[.slice (some ⟨H, (i + 1) * 2, none⟩) (n - i) (G - (i + 1)), .slice (some ⟨g, i * 2, none⟩) (n - i) (n - i)]).run Try.prog W2.drew = .ok (.int .i64 ((n - i : Nat) : Int)) W3) :
    Calls Try.prog 75 #[.slice (some ⟨g, 0, none⟩) n n, .int .i64 i, .slice (some ⟨vb, 0, none⟩) 1 1] w fun e w' => e = .returned (.slice (some ⟨H, 0, none⟩) (n + 1) G) ∧ w' = W3 := by
  have hz2 : ¬ ((i : Int) = (n : Int)) := by omega
  have hz2' : ((i : Int) == (n : Int)) = false := by simpa using hz2
  have hz3 : (n : Int) < (n : Int) + 1 := by omega
  have hin : i ≤ n := by omega
  have ha' := hrz 27
  have hw1 : IntKind.i64.wrap ((i : Int) + 1) = (i : Int) + 1 := by rw [IntKind.wrap_i64]; omega
  have hb1 : (0 : Int) ≤ (i : Int) + 1 := by omega
  have htn : ((i : Int) + 1).toNat = i + 1 := by omega
  have hb3 : (i : Int) ≤ (n : Int) := by omega
  have hGi : ¬ (G = i + 1) := by omega
  have hni : ¬ (n = i) := by omega
  go_enter Try.func75, Try.ntmps75
  go_wp2_with (first | (at_builtin; refine Lib.wpList_append_run _ rfl _ _ _ _ rfl _ _ rfl rfl _ _ ha' ?_) | fail)
  refine wp_region_held_drew (S := fun W => True) (by kernel_rfl) ?_ (fun hHeld => ?_)
  · exact trivial
  refine wpAnyH_take (i := 0) (oi := _) (v := ?_) rfl (by kernel_rfl) (by kernel_rfl) (by kernel_rfl) (fun _ _ _ h => h) (Or.inl ⟨by rfl, ?_⟩) (by assumption) ?_
  rotate_left
  · first | (intro w hSw; (try dsimp only at hSw); go_simp; done) | (intro w hSw; (try dsimp only at hSw); go_simp; with_reducible rfl)
  try simp only [Act.put, List.setIfInBounds_toArray, List.set_cons_zero, List.set_cons_succ, List.getElem_toArray, List.getElem_cons_zero]
  refine wpAnyH_take (i := 1) (oi := _) (v := ?_) rfl (by kernel_rfl) (by kernel_rfl) (by kernel_rfl) (fun _ _ _ h => h) (Or.inl ⟨by rfl, ?_⟩) (by assumption) ?_
  rotate_left
  · first | (intro w hSw; (try dsimp only at hSw); go_simp; done) | (intro w hSw; (try dsimp only at hSw); go_simp; with_reducible rfl)
  try simp only [Act.put, List.setIfInBounds_toArray, List.set_cons_zero, List.set_cons_succ, List.getElem_toArray, List.getElem_cons_succ, List.getElem_cons_zero]
  refine wpAnyH_take (i := 2) (oi := _) (v := ?_) rfl (by kernel_rfl) (by kernel_rfl) (by kernel_rfl) (fun _ _ _ h => h) (Or.inl ⟨by rfl, ?_⟩) (by assumption) ?_
  rotate_left
  · first | (intro w hSw; (try dsimp only at hSw); go_simp; done) | (intro w hSw; (try dsimp only at hSw); go_simp; with_reducible rfl)
  try simp only [Act.put, List.setIfInBounds_toArray, List.set_cons_zero, List.set_cons_succ, List.getElem_toArray, List.getElem_cons_succ, List.getElem_cons_zero]
  refine wpAnyH_take (i := 3) (oi := _) (v := ?_) rfl (by kernel_rfl) (by kernel_rfl) (by kernel_rfl) (fun _ _ _ h => h) (Or.inl ⟨by rfl, ?_⟩) (by assumption) ?_
  rotate_left
  · first | (intro w hSw; (try dsimp only at hSw); go_simp; done) | (intro w hSw; (try dsimp only at hSw); go_simp; with_reducible rfl)
  try simp only [Act.put, List.setIfInBounds_toArray, List.set_cons_zero, List.set_cons_succ, List.getElem_toArray, List.getElem_cons_succ, List.getElem_cons_zero]
  refine wpAnyH_take (i := 4) (oi := _) (v := ?_) rfl (by kernel_rfl) (by kernel_rfl) (by kernel_rfl) (fun _ _ _ h => h) (Or.inl ⟨by rfl, ?_⟩) (by assumption) ?_
  rotate_left
  · first | (intro w hSw; (try dsimp only at hSw); go_simp; done) | (intro w hSw; (try dsimp only at hSw); go_simp; with_reducible rfl)
  try simp only [Act.put, List.setIfInBounds_toArray, List.set_cons_zero, List.set_cons_succ, List.getElem_toArray, List.getElem_cons_succ, List.getElem_cons_zero]
  refine wpAnyH_take (i := 5) (oi := _) (v := ?_) rfl (by kernel_rfl) (by kernel_rfl) (by kernel_rfl) (fun _ _ _ h => h) (Or.inl ⟨by rfl, ?_⟩) (by assumption) ?_
  rotate_left
  · first | (intro w hSw; (try dsimp only at hSw); go_simp; done) | (intro w hSw; (try dsimp only at hSw); go_simp; with_reducible rfl)
  try simp only [Act.put, List.setIfInBounds_toArray, List.set_cons_zero, List.set_cons_succ, List.getElem_toArray, List.getElem_cons_succ, List.getElem_cons_zero]
  refine wpAnyH_take (i := 6) (oi := _) (v := ?_) rfl (by kernel_rfl) (by kernel_rfl) (by kernel_rfl) (fun _ _ _ h => h) (Or.inl ⟨by rfl, ?_⟩) (by assumption) ?_
  rotate_left
  · first | (intro w hSw; (try dsimp only at hSw); go_simp; done) | (intro w hSw; (try dsimp only at hSw); go_simp; with_reducible rfl)
  try simp only [Act.put, List.setIfInBounds_toArray, List.set_cons_zero, List.set_cons_succ, List.getElem_toArray, List.getElem_cons_succ, List.getElem_cons_zero]
  refine wpAnyH_take (i := 7) (oi := _) (v := ?_) rfl (by kernel_rfl) (by kernel_rfl) (by kernel_rfl) (fun _ _ _ h => h) (Or.inl ⟨by rfl, ?_⟩) (by assumption) ?_
  rotate_left
  · first | (intro w hSw; (try dsimp only at hSw); go_simp; done) | (intro w hSw; (try dsimp only at hSw); go_simp; with_reducible rfl)
  try simp only [Act.put, List.setIfInBounds_toArray, List.set_cons_zero, List.set_cons_succ, List.getElem_toArray, List.getElem_cons_succ, List.getElem_cons_zero]
  refine wpAnyH_ready (rs := [8]) (by kernel_rfl) (by simp) ?_
  refine AllReadyH.cons rfl (fun K hK => ?_) AllReadyH.nil
  go_simp
  refine hK.out _ _ ?_ (fun hHeld => ?_)
  · exact trivial
  clear hK K
  refine wpAnyH_done (by kernel_rfl) ?_ _
  go_wp2
  go_ret
  exact ⟨rfl, rfl⟩

set_option maxRecDepth 100000 in
set_option maxHeartbeats 4000000 in
/-- slices.Insert, with room: in place. -/
theorem insS_walk (g i n c vb : Nat) (w : World) (hi : i < n) (hn : n ≤ 1000) (hc : n + 1 ≤ c) (hc2 : c ≤ 9223372036854775807) (W1 W2 : World)
   (hov : ∀ lb cb, (callFunc 126 #[.slice (some ⟨vb, 0, none⟩) 1 1, .slice (some ⟨g, (i + 1) * 2, none⟩) lb cb]).run Try.prog w = .ok (.value (.bool false)) w)
   (hcA : (Builtin.copy_ #[27, 27] 3 #[.slice (some ⟨g, (i + 1) * 2, none⟩) (n - i) (c - (i + 1)), .slice (some ⟨g, i * 2, none⟩) (n + 1 - i) (c - i)]).run Try.prog w.drew = .ok (.int .i64 ((n - i : Nat) : Int)) W1)
   (hcB : (Builtin.copy_ #[27, 27] 3 #[.slice (some ⟨g, i * 2, none⟩) (n + 1 - i) (c - i), .slice (some ⟨vb, 0, none⟩) 1 1]).run Try.prog W1 = .ok (.int .i64 1) W2) :
    Calls Try.prog 75 #[.slice (some ⟨g, 0, none⟩) n c, .int .i64 i, .slice (some ⟨vb, 0, none⟩) 1 1] w fun e w' => e = .returned (.slice (some ⟨g, 0, none⟩) (n + 1) c) ∧ w' = W2 := by
  have hz2 : ¬ ((i : Int) = (n : Int)) := by omega
  have hz2' : ((i : Int) == (n : Int)) = false := by simpa using hz2
  have hz3 : ¬ (c : Int) < (n : Int) + 1 := by omega
  have hin : i ≤ n := by omega
  have hw1 : IntKind.i64.wrap ((i : Int) + 1) = (i : Int) + 1 := by rw [IntKind.wrap_i64]; omega
  have hb1 : (0 : Int) ≤ (i : Int) + 1 := by omega
  have htn : ((i : Int) + 1).toNat = i + 1 := by omega
  have hb3 : (i : Int) ≤ (n : Int) := by omega
  have hb4 : (i : Int) ≤ (n : Int) + 1 := by omega
  have hGi : ¬ (c = i + 1) := by omega
  have hni : ¬ (c = i) := by omega
  go_enter Try.func75, Try.ntmps75
  go_wp2_with (simp only [hov])
  refine wp_region_held_drew (S := fun W => True) (by kernel_rfl) ?_ (fun hHeld => ?_)
  · exact trivial
  refine wpAnyH_take (i := 0) (oi := _) (v := ?_) rfl (by kernel_rfl) (by kernel_rfl) (by kernel_rfl) (fun _ _ _ h => h) (Or.inl ⟨by rfl, ?_⟩) (by assumption) ?_
  rotate_left
  · first | (intro w hSw; (try dsimp only at hSw); go_simp; done) | (intro w hSw; (try dsimp only at hSw); go_simp; with_reducible rfl)
  try simp only [Act.put, List.setIfInBounds_toArray, List.set_cons_zero, List.set_cons_succ, List.getElem_toArray, List.getElem_cons_zero]
  refine wpAnyH_take (i := 1) (oi := _) (v := ?_) rfl (by kernel_rfl) (by kernel_rfl) (by kernel_rfl) (fun _ _ _ h => h) (Or.inl ⟨by rfl, ?_⟩) (by assumption) ?_
  rotate_left
  · first | (intro w hSw; (try dsimp only at hSw); go_simp; done) | (intro w hSw; (try dsimp only at hSw); go_simp; with_reducible rfl)
  try simp only [Act.put, List.setIfInBounds_toArray, List.set_cons_zero, List.set_cons_succ, List.getElem_toArray, List.getElem_cons_succ, List.getElem_cons_zero]
  refine wpAnyH_take (i := 2) (oi := _) (v := ?_) rfl (by kernel_rfl) (by kernel_rfl) (by kernel_rfl) (fun _ _ _ h => h) (Or.inl ⟨by rfl, ?_⟩) (by assumption) ?_
  rotate_left
  · first | (intro w hSw; (try dsimp only at hSw); go_simp; done) | (intro w hSw; (try dsimp only at hSw); go_simp; with_reducible rfl)
  try simp only [Act.put, List.setIfInBounds_toArray, List.set_cons_zero, List.set_cons_succ, List.getElem_toArray, List.getElem_cons_succ, List.getElem_cons_zero]
  refine wpAnyH_take (i := 3) (oi := _) (v := ?_) rfl (by kernel_rfl) (by kernel_rfl) (by kernel_rfl) (fun _ _ _ h => h) (Or.inl ⟨by rfl, ?_⟩) (by assumption) ?_
  rotate_left
  · first | (intro w hSw; (try dsimp only at hSw); go_simp; done) | (intro w hSw; (try dsimp only at hSw); go_simp; with_reducible rfl)
  try simp only [Act.put, List.setIfInBounds_toArray, List.set_cons_zero, List.set_cons_succ, List.getElem_toArray, List.getElem_cons_succ, List.getElem_cons_zero]
  refine wpAnyH_take (i := 4) (oi := _) (v := ?_) rfl (by kernel_rfl) (by kernel_rfl) (by kernel_rfl) (fun _ _ _ h => h) (Or.inl ⟨by rfl, ?_⟩) (by assumption) ?_
  rotate_left
  · first | (intro w hSw; (try dsimp only at hSw); go_simp; done) | (intro w hSw; (try dsimp only at hSw); go_simp; with_reducible rfl)
  try simp only [Act.put, List.setIfInBounds_toArray, List.set_cons_zero, List.set_cons_succ, List.getElem_toArray, List.getElem_cons_succ, List.getElem_cons_zero]
  refine wpAnyH_take (i := 5) (oi := _) (v := ?_) rfl (by kernel_rfl) (by kernel_rfl) (by kernel_rfl) (fun _ _ _ h => h) (Or.inl ⟨by rfl, ?_⟩) (by assumption) ?_
  rotate_left
  · first | (intro w hSw; (try dsimp only at hSw); go_simp; done) | (intro w hSw; (try dsimp only at hSw); go_simp; with_reducible rfl)
  try simp only [Act.put, List.setIfInBounds_toArray, List.set_cons_zero, List.set_cons_succ, List.getElem_toArray, List.getElem_cons_succ, List.getElem_cons_zero]
  refine wpAnyH_take (i := 6) (oi := _) (v := ?_) rfl (by kernel_rfl) (by kernel_rfl) (by kernel_rfl) (fun _ _ _ h => h) (Or.inl ⟨by rfl, ?_⟩) (by assumption) ?_
  rotate_left
  · first | (intro w hSw; (try dsimp only at hSw); go_simp; done) | (intro w hSw; (try dsimp only at hSw); go_simp; with_reducible rfl)
  try simp only [Act.put, List.setIfInBounds_toArray, List.set_cons_zero, List.set_cons_succ, List.getElem_toArray, List.getElem_cons_succ, List.getElem_cons_zero]
  refine wpAnyH_take (i := 7) (oi := _) (v := ?_) rfl (by kernel_rfl) (by kernel_rfl) (by kernel_rfl) (fun _ _ _ h => h) (Or.inl ⟨by rfl, ?_⟩) (by assumption) ?_
  rotate_left
  · first | (intro w hSw; (try dsimp only at hSw); go_simp; done) | (intro w hSw; (try dsimp only at hSw); go_simp; with_reducible rfl)
  try simp only [Act.put, List.setIfInBounds_toArray, List.set_cons_zero, List.set_cons_succ, List.getElem_toArray, List.getElem_cons_succ, List.getElem_cons_zero]
  refine wpAnyH_ready (rs := [8]) (by kernel_rfl) (by simp) ?_
  refine AllReadyH.cons rfl (fun K hK => ?_) AllReadyH.nil
  go_simp
  refine hK.out _ _ ?_ (fun hHeld => ?_)
  · exact trivial
  clear hK K
  refine wpAnyH_done (by kernel_rfl) ?_ _
  go_wp2
  go_ret
  exact ⟨rfl, rfl⟩

end Go.Proofs.Ytdmfljejlhlbnaa
namespace Go.Proofs.Ytdmfljejlhlbnaa
open Go.RowKit
set_option linter.unusedVariables false

theorem en_ins (pl : List LPl) (i : Nat) (x y : Int) (hi : i ≤ pl.length) : enCells (pl.take i ++ (x, y) :: pl.drop i) = (enCells pl).take (i * 2) ++ [.int .i64 x, .int .i64 y] ++ (enCells pl).drop (i * 2) := by
  have e : enCells pl = enCells (pl.take i) ++ enCells (pl.drop i) := by rw [← enCells_app, List.take_append_drop]
  have hl : (enCells (pl.take i)).length = i * 2 := by rw [enCells_len, List.length_take, Nat.min_eq_left hi]
  rw [show pl.take i ++ (x, y) :: pl.drop i = pl.take i ++ ([(x, y)] ++ pl.drop i) by simp, enCells_app, enCells_app, e, ← hl, List.take_left, List.drop_left]
  simp [enCells, encE]
/-- A row whose cells are those of a list with one more. -/
theorem row_ins {cs : List Value} {i n : Nat} {x y : Value} {us : Array Value} (hl : cs.length = n * 2) (hi : i ≤ n) (hs : (n + 1) * 2 ≤ us.size)
    (h1 : ∀ k, k < i * 2 → us[k]? = cs[k]?) (h2 : us[i * 2]? = some x) (h3 : us[i * 2 + 1]? = some y) (h4 : ∀ k, k < n * 2 - i * 2 → us[(i + 1) * 2 + k]? = cs[i * 2 + k]?) :
    us.toList.take ((n + 1) * 2) = cs.take (i * 2) ++ [x, y] ++ cs.drop (i * 2) := by
  apply List.ext_getElem?
  intro k
  have hA : (cs.take (i * 2)).length = i * 2 := by rw [List.length_take]; omega
  by_cases k1 : k < i * 2
  · rw [List.getElem?_take_of_lt (by omega), List.append_assoc, List.getElem?_append_left (by omega), List.getElem?_take_of_lt k1]
    simpa using h1 k k1
  · rw [List.append_assoc, List.getElem?_append_right (by omega), hA]
    by_cases k2 : k = i * 2
    · subst k2
      rw [List.getElem?_take_of_lt (by omega)]
      simpa using h2
    · by_cases k3 : k = i * 2 + 1
      · subst k3
        rw [List.getElem?_take_of_lt (by omega), show i * 2 + 1 - i * 2 = 1 by omega]
        simpa using h3
      · rw [List.getElem?_append_right (by simp; omega)]
        simp only [List.length_cons, List.length_nil]
        rw [List.getElem?_drop, show i * 2 + (k - i * 2 - (0 + 1 + 1)) = k - 2 by omega]
        by_cases k4 : k < (n + 1) * 2
        · rw [List.getElem?_take_of_lt k4]
          have := h4 (k - (i + 1) * 2) (by omega)
          rw [show (i + 1) * 2 + (k - (i + 1) * 2) = k by omega, show i * 2 + (k - (i + 1) * 2) = k - 2 by omega] at this
          simpa using this
        · rw [List.getElem?_eq_none (by rw [List.length_take]; omega), List.getElem?_eq_none (by omega)]

theorem cell_row {W : World} {g : Nat} {us : Array Value} {t : TypeId} (h : W.heap[g]? = some (.cells us t)) (k : Nat) : W.cell? ⟨g, k, none⟩ = us[k]? := by simp [World.cell?, h]
theorem froz_row {W : World} {g : Nat} {us : Array Value} {t : TypeId} (h : W.heap[g]? = some (.cells us t)) (k : Nat) : W.frozen? ⟨g, k, none⟩ = false := by simp [World.frozen?, h]

set_option maxHeartbeats 2000000 in
/-- slices.Insert of one place. -/
theorem ins_any (B i vb : Nat) (x y : Int) (v : Value) (pl : List LPl) (w : World) (h : w.ownsRow B 34 2 v pl.length (enCells pl)) (hB : B ≤ w.heap.size) (hi : i ≤ pl.length) (hv : w.heap[vb]? = some (.cells #[.int .i64 x, .int .i64 y] 34)) (hne : v.ownBlock ≠ some vb) (hn : pl.length ≤ 1000) :
    Calls Try.prog 75 #[v, .int .i64 i, .slice (some ⟨vb, 0, none⟩) 1 1] w fun e w' => ∃ v', e = .returned v' ∧ w'.ownsRow B 34 2 v' (pl.length + 1) (enCells (pl.take i ++ (x, y) :: pl.drop i)) ∧ Below B w w' := by
  by_cases he : i = pl.length
  · subst he
    rw [List.take_length, List.drop_length]
    exact insE_any B vb x y v pl w h hB hv hn
  have hin : i < pl.length := by omega
  have h0 := h
  rcases h.2 with ⟨_, h0⟩ | ⟨g, c, cur, rfl, hbg, hg, hnc, hmx, hcur, hx⟩
  · omega
  have hgl := (Array.getElem?_eq_some_iff.1 hg).1
  have hvl := (Array.getElem?_eq_some_iff.1 hv).1
  have hgv : g ≠ vb := fun e => hne (by rw [← e]; rfl)
  have hcl := enCells_len pl
  have hcs : ∀ j v, (enCells pl)[j]? = some v → w.cell? ⟨g, j, none⟩ = some v := fun j v hj => by
    have := h0.cells (by rfl) j v hj
    rwa [at_add, Nat.zero_add] at this
  have hcu : ∀ k, k < pl.length * 2 → cur[k]? = (enCells pl)[k]? := fun k hk => by
    rw [← hx, List.getElem?_take_of_lt hk]; simp
  have hvs : ∀ j u, ([.int .i64 x, .int .i64 y] : List Value)[j]? = some u → w.cell? ((⟨vb, 0, none⟩ : Addr).add j) = some u := fun j u hj => by
    rw [at_add, Nat.zero_add]
    match j, hj with
    | 0, hj => simp at hj; subst hj; simp [World.cell?, hv]
    | 1, hj => simp at hj; subst hj; simp [World.cell?, hv]
  have hone : ∀ u ∈ (enCells pl).drop (i * 2), u.oneCell' = true := fun u hu => enCells_one pl u (List.mem_of_mem_drop hu)
  have hone2 : ∀ u ∈ ([.int .i64 x, .int .i64 y] : List Value), u.oneCell' = true := fun u hu => by
    simp at hu; rcases hu with rfl | rfl <;> rfl
  have hdl : ((enCells pl).drop (i * 2)).length = (pl.length - i) * 2 := by rw [List.length_drop, hcl]; omega
  unfold maxLen at hmx
  by_cases hroom : pl.length + 1 ≤ c
  · -- in place
    obtain ⟨us1, a1, a2, a3, a4, a5, a6, a7, a8, a9, a10⟩ := row_set g 34 ((enCells pl).drop (i * 2)) ((i + 1) * 2) w.drew cur hg (by rw [hdl, hcur]; omega)
    obtain ⟨us2, b1, b2, b3, b4, b5, b6, b7, b8, b9, b10⟩ := row_set g 34 [.int .i64 x, .int .i64 y] (i * 2) (w.drew.setCells g ((i + 1) * 2) ((enCells pl).drop (i * 2))) us1 a1 (by rw [a2, hcur]; simp; omega)
    have hv1 : (w.drew.setCells g ((i + 1) * 2) ((enCells pl).drop (i * 2))).heap[vb]? = some (.cells #[.int .i64 x, .int .i64 y] 34) := (a6 vb (fun e => hgv e.symm)).trans hv
    have WK := insS_walk g i pl.length c vb w hin hn hroom (by omega) _ _
      (fun lb cb => by
        rw [run_callFunc_extern (P := Try.prog) Try.func126 (by kernel_rfl) (by kernel_rfl) (by kernel_rfl) (e := Extern.SlicesOverlaps.overlaps #[27, 27] #[4]) (by kernel_rfl),
          Lib.run_overlaps_apart w 27 4 34 Try.underlying27 2 Try.sizeOf34 ⟨vb, 0, none⟩ ⟨g, (i + 1) * 2, none⟩ 1 1 lb cb (fun e => hgv e.symm) 34 34 2 (c * 2) (by simp [World.shape?, hv]) (by simp [World.shape?, hg, hcur]) (by omega) (by simp [World.frozen?, hv]) (by simp [World.frozen?, hv])]
        rfl)
      (by
        have := run_copy2 w.drew 3 g ((i + 1) * 2) (pl.length - i) (c - (i + 1)) ⟨g, i * 2, none⟩ (pl.length + 1 - i) (c - i) ((enCells pl).drop (i * 2)) (by rw [hdl]; simp only [Nat.min_def]; split <;> omega)
          (fun j u hj => by rw [at_add]; exact hcs _ u (by rwa [List.getElem?_drop] at hj))
          (fun j hj => by
            have : (w.drew.cell? ⟨g, (i + 1) * 2 + j, none⟩) = cur[(i + 1) * 2 + j]? := by show w.cell? _ = _; simp [World.cell?, hg]
            rw [this, Array.getElem?_eq_getElem (by omega)]; rfl)
          (fun j hj => by show w.frozen? _ = false; simp [World.frozen?, hg]) hone
        rw [show Nat.min (pl.length + 1 - i) (pl.length - i) = pl.length - i by simp only [Nat.min_def]; split <;> omega] at this
        exact this)
      (by
        have := run_copy2 (w.drew.setCells g ((i + 1) * 2) ((enCells pl).drop (i * 2))) 3 g (i * 2) (pl.length + 1 - i) (c - i) ⟨vb, 0, none⟩ 1 1 [.int .i64 x, .int .i64 y] (by simp only [Nat.min_def, List.length_cons, List.length_nil]; split <;> omega)
          (fun j u hj => by rw [World.cell?_of_block (show (w.drew.setCells g ((i + 1) * 2) ((enCells pl).drop (i * 2))).heap[((⟨vb, 0, none⟩ : Addr).add j).block]? = w.heap[((⟨vb, 0, none⟩ : Addr).add j).block]? by rw [at_add]; exact (a6 vb (fun e => hgv e.symm)))]; exact hvs j u hj)
          (fun j hj => by
            simp only [List.length_cons, List.length_nil] at hj
            have : ((w.drew.setCells g ((i + 1) * 2) ((enCells pl).drop (i * 2))).cell? ⟨g, i * 2 + j, none⟩) = us1[i * 2 + j]? := by simp [World.cell?, a1]
            rw [this, Array.getElem?_eq_getElem (by omega)]; rfl)
          (fun j hj => by simp [World.frozen?, a1]) hone2
        rw [show Nat.min 1 (pl.length + 1 - i) = 1 by simp only [Nat.min_def]; split <;> omega] at this
        exact this)
    refine WK.mono ?_
    rintro e w' ⟨rfl, rfl⟩
    refine ⟨_, rfl, ⟨?_, .inr ⟨g, c, us2, rfl, hbg, b1, hroom, by unfold maxLen; omega, by rw [b2, a2, hcur], ?_⟩⟩, ?_⟩
    · rw [enCells_len]; simp; omega
    · rw [en_ins pl i x y hi]
      refine row_ins (n := pl.length) hcl hi (by rw [b2, a2, hcur]; omega) (fun k hk => ?_) ?_ ?_ (fun k hk => ?_)
      · rw [b3 k hk, a3 k (by omega), hcu k (by omega)]
      · have := b4 0 (by simp); simpa using this
      · have := b4 1 (by simp); simpa using this
      · rw [b5 _ (by simp; omega), a4 k (by rw [hdl]; omega), List.getElem?_drop]
    · exact ⟨by rw [b8, a8]; rfl, by rw [b9, a9]; rfl, by rw [b10, a10]; rfl, by rw [b7, a7]; exact Nat.le_refl _, fun k hk => by rw [b6 k (by omega), a6 k (by omega)]; rfl⟩
  · -- a new row
    obtain rfl : c = pl.length := by omega
    obtain ⟨i3, hi3, hd0, hd1, hd2⟩ := info_parts info34
    have hold : (Builtin.firstCells i3.size i (.slice (some ⟨g, 0, none⟩) i pl.length)).run Try.prog w.drew = .ok ((enCells pl).take (i * 2)).toArray w.drew := by
      rw [hd1]
      exact run_firstCells_some w.drew 2 i ⟨g, 0, none⟩ i pl.length ((enCells pl).take (i * 2)) (by rw [List.length_take]; omega) (fun j u hj => by
        rw [at_add, Nat.zero_add]
        rw [List.getElem?_take] at hj
        split at hj
        · exact hcs j u hj
        · cases hj)
    have hik : i + (pl.length + 1 - i) = pl.length + 1 := by omega
    have hkk : (pl.length : Int) + 1 - (i : Int) = ((pl.length + 1 - i : Nat) : Int) := by omega
    have hG := grownCap_ge w (pl.length + 1) pl.length 34
    have hM := grownCap_le_maxLen w (pl.length + 1) pl.length 34 (by unfold maxLen; omega)
    unfold maxLen at hM
    have hrz : ∀ ty, (Builtin.append_ #[27, 3] ty #[.slice (some ⟨g, 0, none⟩) i pl.length, .int .i64 ((pl.length : Int) + 1 - (i : Int))]).run Try.prog w = .ok (.slice (some ⟨w.heap.size, 0, none⟩) (pl.length + 1) (grownCap w (pl.length + 1) pl.length 34)) (w.drew.alloc (.cells (((enCells pl).take (i * 2)).toArray ++ Builtin.zeroCells (Value.agg #[.int .i64 0, .int .i64 0]).cells (pl.length + 1 - i) ++ Builtin.zeroCells (Value.agg #[.int .i64 0, .int .i64 0]).cells (grownCap w (pl.length + 1) pl.length 34 - (pl.length + 1))) 34)) := fun ty => by
      have h := Lib.run_append_grow_zeros (P := Try.prog) w 27 3 ty 34 i3 _ .i64 .i64 Try.underlying27 Try.underlying3 hi3 hd0 (some ⟨g, 0, none⟩) i pl.length ((enCells pl).take (i * 2)) hold (pl.length + 1 - i) (by omega) (by omega) (by omega) (by omega) (by rw [hd2]; omega) (by rw [hd2, hik]; exact growslice_fits (by omega) (by omega))
      rw [hik] at h
      rw [hkk]
      exact h
    generalize grownCap w (pl.length + 1) pl.length 34 = G at *
    obtain ⟨ROW, hROW⟩ : ∃ ROW : Array Value, ROW = ((enCells pl).take (i * 2)).toArray ++ Builtin.zeroCells (Value.agg #[.int .i64 0, .int .i64 0]).cells (pl.length + 1 - i) ++ Builtin.zeroCells (Value.agg #[.int .i64 0, .int .i64 0]).cells (G - (pl.length + 1)) := ⟨_, rfl⟩
    rw [← hROW] at hrz
    have hRs : ROW.size = G * 2 := by
      rw [hROW]
      simp only [Array.size_append, size_zeroCells, List.size_toArray, List.length_take, hcl]
      rw [show (Value.agg #[.int .i64 0, .int .i64 0]).cells.size = 2 from rfl]
      omega
    have hR1 : ∀ k, k < i * 2 → ROW[k]? = (enCells pl)[k]? := fun k hk => by
      rw [hROW, Array.append_assoc, Array.getElem?_append_left (by simp; omega)]
      simp [hk]
    have hnw : (w.drew.alloc (.cells ROW 34)).heap[w.heap.size]? = some (.cells ROW 34) := new_at w.drew _
    have hwo : ∀ k, k < w.heap.size → (w.drew.alloc (.cells ROW 34)).heap[k]? = w.heap[k]? := fun k hk => Below.heap_alloc w.drew _ k hk
    obtain ⟨us1, a1, a2, a3, a4, a5, a6, a7, a8, a9, a10⟩ := row_set w.heap.size 34 [.int .i64 x, .int .i64 y] (i * 2) (w.drew.alloc (.cells ROW 34)) ROW hnw (by rw [hRs]; simp; omega)
    obtain ⟨us2, b1, b2, b3, b4, b5, b6, b7, b8, b9, b10⟩ := row_set w.heap.size 34 ((enCells pl).drop (i * 2)) ((i + 1) * 2) ((w.drew.alloc (.cells ROW 34)).setCells w.heap.size (i * 2) [.int .i64 x, .int .i64 y]).drew us1 a1 (by rw [a2, hRs, hdl]; omega)
    have WK := insG_walk g i pl.length vb w hin hn (w.drew.alloc (.cells ROW 34)) ((w.drew.alloc (.cells ROW 34)).setCells w.heap.size (i * 2) [.int .i64 x, .int .i64 y]) (((w.drew.alloc (.cells ROW 34)).setCells w.heap.size (i * 2) [.int .i64 x, .int .i64 y]).drew.setCells w.heap.size ((i + 1) * 2) ((enCells pl).drop (i * 2))) w.heap.size G hrz hG hM
      (by
        have := run_copy2 (w.drew.alloc (.cells ROW 34)) 3 w.heap.size (i * 2) (pl.length + 1 - i) (G - i) ⟨vb, 0, none⟩ 1 1 [.int .i64 x, .int .i64 y] (by simp only [Nat.min_def, List.length_cons, List.length_nil]; split <;> omega)
          (fun j u hj => by rw [World.cell?_of_block (show (w.drew.alloc (.cells ROW 34)).heap[((⟨vb, 0, none⟩ : Addr).add j).block]? = w.heap[((⟨vb, 0, none⟩ : Addr).add j).block]? by rw [at_add]; exact hwo vb hvl)]; exact hvs j u hj)
          (fun j hj => by
            simp only [List.length_cons, List.length_nil] at hj
            have : ((w.drew.alloc (.cells ROW 34)).cell? ⟨w.heap.size, i * 2 + j, none⟩) = ROW[i * 2 + j]? := cell_row hnw _
            rw [this, Array.getElem?_eq_getElem (by omega)]; rfl)
          (fun j hj => froz_row hnw _) hone2
        rw [show Nat.min 1 (pl.length + 1 - i) = 1 by simp only [Nat.min_def]; split <;> omega] at this
        exact this)
      (by
        have := run_copy2 ((w.drew.alloc (.cells ROW 34)).setCells w.heap.size (i * 2) [.int .i64 x, .int .i64 y]).drew 3 w.heap.size ((i + 1) * 2) (pl.length - i) (G - (i + 1)) ⟨g, i * 2, none⟩ (pl.length - i) (pl.length - i) ((enCells pl).drop (i * 2)) (by rw [hdl]; simp only [Nat.min_def]; split <;> omega)
          (fun j u hj => by
            rw [at_add, World.cell?_of_block (show ((w.drew.alloc (.cells ROW 34)).setCells w.heap.size (i * 2) [.int .i64 x, .int .i64 y]).drew.heap[(⟨g, i * 2 + j, none⟩ : Addr).block]? = w.heap[(⟨g, i * 2 + j, none⟩ : Addr).block]? by exact (a6 g (by omega)).trans (hwo g hgl))]
            exact hcs _ u (by rwa [List.getElem?_drop] at hj))
          (fun j hj => by
            have : (((w.drew.alloc (.cells ROW 34)).setCells w.heap.size (i * 2) [.int .i64 x, .int .i64 y]).drew.cell? ⟨w.heap.size, (i + 1) * 2 + j, none⟩) = us1[(i + 1) * 2 + j]? := cell_row (W := (w.drew.alloc (.cells ROW 34)).setCells w.heap.size (i * 2) [.int .i64 x, .int .i64 y]) a1 _
            rw [this, Array.getElem?_eq_getElem (by omega)]; rfl)
          (fun j hj => froz_row (W := (w.drew.alloc (.cells ROW 34)).setCells w.heap.size (i * 2) [.int .i64 x, .int .i64 y]) a1 _) hone
        rw [show Nat.min (pl.length - i) (pl.length - i) = pl.length - i from Nat.min_self _] at this
        exact this)
    refine WK.mono ?_
    rintro e w' ⟨rfl, rfl⟩
    refine ⟨_, rfl, ⟨?_, .inr ⟨w.heap.size, G, us2, rfl, hB, b1, hG, by unfold maxLen; omega, by rw [b2, a2, hRs], ?_⟩⟩, ?_⟩
    · rw [enCells_len]; simp; omega
    · rw [en_ins pl i x y hi]
      refine row_ins (n := pl.length) hcl hi (by rw [b2, a2, hRs]; omega) (fun k hk => ?_) ?_ ?_ (fun k hk => ?_)
      · rw [b3 k (by omega), a3 k hk, hR1 k hk]
      · rw [b3 _ (by omega)]; have := a4 0 (by simp); simpa using this
      · rw [b3 _ (by omega)]; have := a4 1 (by simp); simpa using this
      · rw [b4 k (by rw [hdl]; omega), List.getElem?_drop]
    · exact ⟨by rw [b8]; exact a8, by rw [b9]; exact a9, by rw [b10]; exact a10, by rw [b7]; show w.heap.size ≤ ((w.drew.alloc (.cells ROW 34)).setCells w.heap.size (i * 2) [.int .i64 x, .int .i64 y]).heap.size; rw [a7]; simp, fun k hk => by rw [b6 k (by omega)]; exact (a6 k (by omega)).trans (hwo k (by omega))⟩

end Go.Proofs.Ytdmfljejlhlbnaa
namespace Go.Proofs.Ytdmfljejlhlbnaa
open Go.RowKit
set_option linter.unusedVariables false

/-- A place put ahead of the first one of a greater Id. -/
def withL : List LPl → LPl → List LPl
  | [], x => [x]
  | p :: r, x => if x.1 < p.1 then x :: p :: r else p :: withL r x
theorem withL_perm : ∀ (pl : List LPl) (x : LPl), (withL pl x).Perm (x :: pl)
  | [], x => List.Perm.refl _
  | p :: r, x => by
    unfold withL
    split
    · exact List.Perm.refl _
    · exact (List.Perm.cons p (withL_perm r x)).trans (List.Perm.swap x p r)
theorem withL_len (pl : List LPl) (x : LPl) : (withL pl x).length = pl.length + 1 := by simpa using (withL_perm pl x).length_eq
theorem withL_mem {pl : List LPl} {x y : LPl} : y ∈ withL pl x ↔ y = x ∨ y ∈ pl := by rw [(withL_perm pl x).mem_iff, List.mem_cons]
theorem withL_cut : ∀ (pl : List LPl) (x : LPl) (i : Nat), i ≤ pl.length → (∀ p ∈ pl.take i, ¬ x.1 < p.1) → (∀ p ∈ pl.drop i, x.1 < p.1) → withL pl x = pl.take i ++ x :: pl.drop i
  | [], x, i, h, _, _ => by simp [withL]
  | p :: r, x, 0, _, _, h2 => by
    have := h2 p (by simp)
    simp [withL, this]
  | p :: r, x, i + 1, h, h1, h2 => by
    have := h1 p (by simp)
    simp only [withL, if_neg this, List.take_succ_cons, List.drop_succ_cons, List.cons_append]
    rw [withL_cut r x i (by simpa using h) (fun q hq => h1 q (by simp [hq])) (fun q hq => h2 q (by simpa using hq))]

theorem sub_len : ∀ (l m : List Int), l.Nodup → (∀ x ∈ l, x ∈ m) → l.length ≤ m.length
  | [], m, _, _ => Nat.zero_le _
  | a :: r, m, hd, h => by
    have ha := h a (by simp)
    rw [List.nodup_cons] at hd
    have h1 := sub_len r (m.erase a) hd.2 (fun x hx => by
      have hne : x ≠ a := fun e => hd.1 (e ▸ hx)
      exact (List.mem_erase_of_ne hne).2 (h x (by simp [hx])))
    rw [List.length_erase_of_mem ha] at h1
    have : 0 < m.length := List.length_pos_of_mem ha
    simp only [List.length_cons]
    omega

/-- No fault, said of all at once. -/
theorem fault0 (rs : List LSt) (ps : List LPr) (top : Int) : ∀ (pl pre : List LPl), (∀ p ∈ pl, p.1 ≠ 0) → (faultF rs ps top pre pl = 0 ↔ (∀ p ∈ pl, p.2 ∈ rs.flatMap (domF p.1 top)) ∧ (∀ p ∈ pl, ∀ o ∈ pre, mayL ps o.1 o.2 p.1 p.2 = true) ∧ pl.Pairwise (fun o p => mayL ps o.1 o.2 p.1 p.2 = true))
  | [], pre, _ => by simp [faultF]
  | p :: r, pre, h => by
    have hp := h p (by simp)
    have ih := fault0 rs ps top r (pre ++ [p]) (fun q hq => h q (by simp [hq]))
    unfold faultF
    by_cases hg : goodB rs ps top pre p = true
    · rw [if_pos hg, ih]
      unfold goodB at hg
      rw [Bool.and_eq_true, List.all_eq_true] at hg
      obtain ⟨g1, g2⟩ := hg
      have g1 := B_true g1
      constructor
      · rintro ⟨a, b, c⟩
        refine ⟨fun q hq => ?_, fun q hq o ho => ?_, List.pairwise_cons.2 ⟨fun q hq => b q hq p (by simp), c⟩⟩
        · rcases List.mem_cons.1 hq with rfl | hq
          · exact g1
          · exact a q hq
        · rcases List.mem_cons.1 hq with rfl | hq
          · exact g2 o ho
          · exact b q hq o (by simp [ho])
      · rintro ⟨a, b, c⟩
        rw [List.pairwise_cons] at c
        refine ⟨fun q hq => a q (by simp [hq]), fun q hq o ho => ?_, c.2⟩
        rcases List.mem_append.1 ho with ho | ho
        · exact b q (by simp [hq]) o ho
        · rw [List.mem_singleton.1 ho]; exact c.1 q hq
    · rw [if_neg hg]
      constructor
      · intro e; exact absurd e hp
      · rintro ⟨a, b, c⟩
        refine absurd ?_ hg
        unfold goodB
        rw [Bool.and_eq_true, List.all_eq_true]
        exact ⟨B_yes (a p (by simp)), fun o ho => b p (by simp) o ho⟩
/-- A right plan, said of all at once. -/
structure PlanOk (rs : List LSt) (ps : List LPr) (top : Int) (pl : List LPl) : Prop where
  ln : pl.length ≤ 400
  ids : IdsR rs ps (pidsL pl)
  dom : ∀ p ∈ pl, p.2 ∈ rs.flatMap (domF p.1 top)
  may : pl.Pairwise (fun o p => mayL ps o.1 o.2 p.1 p.2 = true)
theorem planB_ok (rs : List LSt) (ps : List LPr) (top : Int) (pl : List LPl) : planB rs ps top pl = true ↔ PlanOk rs ps top pl := by
  unfold planB faultA
  rw [Bool.and_eq_true, decide_eq_true_iff, beq_iff_eq]
  constructor
  · rintro ⟨h1, h2⟩
    rw [if_pos h1] at h2
    by_cases hi : IdsR rs ps (pidsL pl)
    · rw [B_yes hi, if_pos rfl] at h2
      have := (fault0 rs ps top pl [] (fun p hp => by have := ids_small hi p hp; omega)).1 h2
      exact ⟨h1, hi, this.1, this.2.2⟩
    · rw [B_no hi] at h2; simp at h2
  · rintro ⟨h1, hi, h3, h4⟩
    refine ⟨h1, ?_⟩
    rw [if_pos h1, B_yes hi, if_pos rfl]
    exact (fault0 rs ps top pl [] (fun p hp => by have := ids_small hi p hp; omega)).2 ⟨h3, fun p _ o ho => by simp at ho, h4⟩
theorem may_sym (rs : List LSt) (ps : List LPr) (h : TabR rs ps) (a c b d : Int) : mayL ps a c b d = mayL ps b d a c := by
  have h1 : ∀ p ∈ ps, p.1 < p.2.1 ∧ (p.2.2 = 1 ∨ p.2.2 = 2) := fun p hp => ⟨(h.2.2.2.1 p hp).1, (h.2.2.2.1 p hp).2.1⟩
  rw [may_fit1 ps a c b d h1 h.2.2.2.2, may_fit1 ps b d a c h1 h.2.2.2.2, show min a b = min b a by omega, show max a b = max b a by omega, show max c d - min c d = max d c - min d c by omega]
theorem pidsL_withL : ∀ (pl : List LPl) (x : LPl), (pidsL (withL pl x)).Perm (x.1 :: pidsL pl) := fun pl x => by
  have := (withL_perm pl x).map fun p : LPl => p.1
  simpa [pidsL] using this
theorem rise_pair (zs : List Int) (h : RiseTo zs zs.length) (lo hi : Int) (hb : ∀ z ∈ zs, lo ≤ z ∧ z ≤ hi) : zs.Pairwise (· < ·) := by
  rw [List.pairwise_iff_getElem]
  intro i j hi' hj hij
  have := rise_lt zs lo hi (fun k hk => ⟨hb _ (getD_mem hk), fun h0 => h k hk h0⟩) i j hij hj
  simpa [hi', hj] using this
theorem pair_rise (zs : List Int) (h : zs.Pairwise (· < ·)) : RiseTo zs zs.length := by
  rw [List.pairwise_iff_getElem] at h
  intro i hi h0
  have := h (i - 1) i (by omega) hi (by omega)
  simpa [hi, show i - 1 < zs.length by omega] using this
theorem withL_rise : ∀ (pl : List LPl) (x : LPl), (pidsL pl).Pairwise (· < ·) → x.1 ∉ pidsL pl → (pidsL (withL pl x)).Pairwise (· < ·)
  | [], x, _, _ => by simp [withL, pidsL]
  | p :: r, x, h, hn => by
    simp only [pidsL, List.map_cons, List.pairwise_cons, List.mem_cons, not_or] at h hn
    unfold withL
    split
    · rename_i hlt
      simp only [pidsL, List.map_cons, List.pairwise_cons, List.mem_cons]
      refine ⟨fun y hy => ?_, h.1, h.2⟩
      rcases hy with rfl | hy
      · exact hlt
      · have := h.1 y hy; omega
    · rename_i hlt
      have ih := withL_rise r x h.2 hn.2
      simp only [pidsL, List.map_cons, List.pairwise_cons]
      refine ⟨fun y hy => ?_, ih⟩
      have hy' : y ∈ pidsL (withL r x) := hy
      rw [(pidsL_withL r x).mem_iff] at hy'
      rcases List.mem_cons.1 hy' with rfl | hy'
      · have := hn.1; omega
      · exact h.1 y hy'
theorem ids_pair {rs : List LSt} {ps : List LPr} {zs : List Int} (h : IdsR rs ps zs) : zs.Pairwise (· < ·) := rise_pair zs h.2.2.1 1 999 (fun z hz => h.2.1.2.2.1.mem (h.2.2.2 z hz))
theorem ids_few {rs : List LSt} {ps : List LPr} {zs : List Int} (h : IdsR rs ps zs) : zs.length ≤ 12 := by
  have h1 : zs.Nodup := (ids_pair h).imp (fun h => by omega)
  have h2 := sub_len zs (idsL rs) h1 h.2.2.2
  have h3 := h.2.1.1.2.1
  rw [show (idsL rs).length = rs.length by simp [idsL]] at h2
  omega
/-- One station more: right just if it may stand beside all others. -/
theorem add_iff {rs : List LSt} {ps : List LPr} {top : Int} {pl : List LPl} {id c : Int} (h : PlanOk rs ps top pl) (hn : id ∉ pidsL pl) (hc : c ∈ rs.flatMap (domF id top)) : planB rs ps top (withL pl (id, c)) = fitB ps pl (id, c) := by
  have ht := h.ids.2.1
  rw [fit_may rs ps pl (id, c) ht]
  have key : planB rs ps top (withL pl (id, c)) = true ↔ pl.all (fun o => mayL ps o.1 o.2 (id, c).1 (id, c).2) = true := by
    rw [planB_ok, List.all_eq_true]
    have hp := (withL_perm pl (id, c)).pairwise_iff (R := fun o p : LPl => mayL ps o.1 o.2 p.1 p.2 = true) (fun {x y} g => by rw [may_sym rs ps ht]; exact g)
    constructor
    · intro g o ho
      have := hp.1 g.may
      rw [List.pairwise_cons] at this
      rw [may_sym rs ps ht]
      exact this.1 o ho
    · intro g
      have hid : id ∈ idsL rs := by
        by_cases hx : id ∈ idsL rs
        · exact hx
        · rw [flat_none id top rs hx] at hc; simp at hc
      have hl := ids_few h.ids
      rw [pidsL_len] at hl
      refine ⟨by rw [withL_len]; omega, ⟨by rw [pidsL_len, withL_len]; omega, ht, pair_rise _ (withL_rise pl (id, c) (ids_pair h.ids) hn), fun x hx => ?_⟩, fun p hp' => ?_, hp.2 (List.pairwise_cons.2 ⟨fun o ho => by rw [may_sym rs ps ht]; exact g o ho, h.may⟩)⟩
      · rw [(pidsL_withL pl (id, c)).mem_iff] at hx
        rcases List.mem_cons.1 hx with rfl | hx
        · exact hid
        · exact h.ids.2.2.2 x hx
      · rcases withL_mem.1 hp' with rfl | hp'
        · exact hc
        · exact h.dom p hp'
  cases e1 : planB rs ps top (withL pl (id, c)) <;> cases e2 : pl.all (fun o => mayL ps o.1 o.2 (id, c).1 (id, c).2) <;> simp_all

/-- What PlanAdd answers: the first channel that fits. -/
noncomputable def addL (ps : List LPr) (pl : List LPl) (id : Int) : List Int → List LPl
  | [] => []
  | c :: r => if fitB ps pl (id, c) = true then withL pl (id, c) else addL ps pl id r
def AddOk (rs : List LSt) (ps : List LPr) (top : Int) (pl : List LPl) (id : Int) : Prop := planB rs ps top pl = true ∧ id ∉ pidsL pl
noncomputable def addA (rs : List LSt) (ps : List LPr) (top : Int) (pl : List LPl) (id : Int) : List LPl := if B (AddOk rs ps top pl id) = true then addL ps pl id (rs.flatMap (domF id top)) else []
theorem addA_no {rs : List LSt} {ps : List LPr} {top : Int} {pl : List LPl} {id : Int} (h : ¬ AddOk rs ps top pl id) : addA rs ps top pl id = [] := by unfold addA; rw [B_no h]; rfl
theorem addA_yes {rs : List LSt} {ps : List LPr} {top : Int} {pl : List LPl} {id : Int} (h : AddOk rs ps top pl id) : addA rs ps top pl id = addL ps pl id (rs.flatMap (domF id top)) := by unfold addA; rw [B_yes h]; rfl
theorem addL_step (ps : List LPr) (pl : List LPl) (id : Int) (ds : List Int) (k : Nat) (h : k < ds.length) : addL ps pl id (ds.drop k) = if fitB ps pl (id, ds.getD k 0) = true then withL pl (id, ds.getD k 0) else addL ps pl id (ds.drop (k + 1)) := by
  rw [List.drop_eq_getElem_cons h, addL]
  simp [h]
theorem addL_end (ps : List LPr) (pl : List LPl) (id : Int) (ds : List Int) (k : Nat) (h : ds.length ≤ k) : addL ps pl id (ds.drop k) = [] := by
  rw [List.drop_of_length_le h, addL]
theorem addL_len (ps : List LPr) (pl : List LPl) (id : Int) : ∀ ds : List Int, (addL ps pl id ds).length ≤ pl.length + 1
  | [] => Nat.zero_le _
  | c :: r => by
    unfold addL
    split
    · rw [withL_len]; exact Nat.le_refl _
    · exact addL_len ps pl id r
theorem addA_len (rs : List LSt) (ps : List LPr) (top : Int) (pl : List LPl) (id : Int) : (addA rs ps top pl id).length ≤ 401 := by
  by_cases h : AddOk rs ps top pl id
  · rw [addA_yes h]
    have := addL_len ps pl id (rs.flatMap (domF id top))
    have := ((planB_ok rs ps top pl).1 h.1).ln
    omega
  · rw [addA_no h]; simp
theorem addA_bare {rs rs' : List LSt} (ps : List LPr) (top : Int) (pl : List LPl) (id : Int) (h : bareS rs = bareS rs') : addA rs ps top pl id = addA rs' ps top pl id := by
  have e : AddOk rs ps top pl id ↔ AddOk rs' ps top pl id := by unfold AddOk; rw [planB_bare ps top pl h]
  unfold addA
  rw [B_iff e, dom_bare id top h]
end Go.Proofs.Ytdmfljejlhlbnaa
namespace Go.Proofs.Ytdmfljejlhlbnaa
open Go.RowKit
set_option linter.unusedVariables false

set_option maxRecDepth 100000 in
set_option maxHeartbeats 4000000 in
/-- slices.BinarySearch at int64, and where a number that is not there would stand. -/
theorem bs2_any (sl : Option Addr) (cap : Nat) (zs : List Int) (x : Int) (w : World) (hn : zs.length ≤ 1048576) (hr : Rises zs) (hz : Ints w sl zs) :
    Calls Try.prog 71 #[.slice sl zs.length cap, .int .i64 x] w fun e w' => ∃ p : Nat, e = .returned (.tuple #[.int .i64 p, .bool (B (x ∈ zs))]) ∧ p ≤ zs.length ∧ (x ∉ zs → CutAt zs x p p) ∧ Below w.heap.size w w' := by
  have HZ := Lib.hid hz
  have HR := Lib.hid hr
  have EL := Lib.hid (fun y W => less_any y x W)
  have EN := Lib.hid (fun y W => nan2_any y W)
  clear hz hr
  generalize hN : zs.length = n at *
  have HN := Lib.hid hN
  clear hN
  go_enter Try.func71, Try.ntmps71
  go_wp2
  go_loopw [7, 8] (fun i j wr => ∃ (lo hi : Nat), i = .int .i64 lo ∧ j = .int .i64 hi ∧ lo ≤ hi ∧ hi ≤ n ∧ Hid (CutAt zs x lo hi) ∧ Hid (Below w.heap.size w wr)) (fun i j _ => (intOf j).toNat - (intOf i).toNat)
  case atStart => exact ⟨0, n, rfl, rfl, Nat.zero_le _, Nat.le_refl _, ⟨fun t ht => absurd ht (Nat.not_lt_zero _), fun t h1 h2 => by rw [HN.out] at h2; omega⟩, Below.refl _ _⟩
  case round =>
    obtain ⟨lo, hi, rfl, rfl, hlh, hin, CA, HB⟩ := hrel
    have hlo0 : (0 : Int) ≤ (lo : Int) := by omega
    have hhi0 : (0 : Int) ≤ (hi : Int) := by omega
    by_cases g1 : lo < hi
    · have g1' : (lo : Int) < (hi : Int) := by omega
      have hlt : (lo + hi) / 2 < zs.length := by rw [HN.out]; omega
      obtain ⟨c, o, rfl, ZI⟩ : ∃ c o, sl = some ⟨c, o, none⟩ ∧ IntsAt w c o zs := by
        rcases HZ.out with e | h
        · rw [e] at hlt; simp at hlt
        · exact h
      have hc := (HB.out.cell (p := ⟨c, o + (lo + hi) / 2, none⟩) ZI.1).trans (ZI.2 ((lo + hi) / 2) hlt)
      have C1 : Hid (zs.getD ((lo + hi) / 2) 0 < x → CutAt zs x ((lo + hi) / 2 + 1) hi) := fun h => ⟨fun t ht => by
        by_cases e : t = (lo + hi) / 2
        · rw [e]; exact h
        · have := HR.out t ((lo + hi) / 2) (by omega) hlt; omega, CA.out.2⟩
      have C2 : Hid (¬ zs.getD ((lo + hi) / 2) 0 < x → CutAt zs x lo ((lo + hi) / 2)) := fun h => ⟨CA.out.1, fun t h1 h2 => by
        by_cases e : t = (lo + hi) / 2
        · rw [e]; omega
        · have := HR.out ((lo + hi) / 2) t (by omega) h2; omega⟩
      clear ZI hlt CA
      generalize zs.getD ((lo + hi) / 2) 0 = y at *
      have E := Lib.hid (EL.out y)
      by_cases hyx : y < x
      · have CC := Lib.hid (C1.out hyx)
        clear C1 C2
        go_wp2_with (first | (go_at_call 122; refine (E.out _).mono ?_; rintro e w' ⟨rfl, rfl⟩))
        go_roundw
        case rel => exact ⟨(lo + hi) / 2 + 1, hi, by rw [show ((lo : Int) + (hi : Int)) / 2 + 1 = (((lo + hi) / 2 + 1 : Nat) : Int) by omega], rfl, by omega, hin, CC, HB⟩
        case measure => simp [intOf]; omega
      · have CC := Lib.hid (C2.out hyx)
        clear C1 C2
        go_wp2_with (first | (go_at_call 122; refine (E.out _).mono ?_; rintro e w' ⟨rfl, rfl⟩))
        go_roundw
        case rel => exact ⟨lo, (lo + hi) / 2, rfl, by rw [show ((lo : Int) + (hi : Int)) / 2 = (((lo + hi) / 2 : Nat) : Int) by omega], by omega, by omega, CC, HB⟩
        case measure => simp [intOf]; omega
    · have g1' : ¬ (lo : Int) < (hi : Int) := by omega
      obtain rfl : hi = lo := by omega
      by_cases g2 : hi < n
      · have g2' : (hi : Int) < (n : Int) := by omega
        have hlt : hi < zs.length := by rw [HN.out]; exact g2
        obtain ⟨c, o, rfl, ZI⟩ : ∃ c o, sl = some ⟨c, o, none⟩ ∧ IntsAt w c o zs := by
          rcases HZ.out with e | h
          · rw [e] at hlt; simp at hlt
          · exact h
        have hc := (HB.out.cell (p := ⟨c, o + hi, none⟩) ZI.1).trans (ZI.2 hi hlt)
        have C1 : Hid (zs.getD hi 0 = x → B (x ∈ zs) = true ∧ (x ∉ zs → CutAt zs x hi hi)) := fun h => ⟨B_yes (cut_in CA.out HR.out hlt h).1, fun _ => CA.out⟩
        have C2 : Hid (¬ zs.getD hi 0 = x → B (x ∈ zs) = false ∧ (x ∉ zs → CutAt zs x hi hi)) := fun h => ⟨B_no (cut_out CA.out HR.out (fun _ => h)), fun _ => CA.out⟩
        clear ZI hlt CA
        generalize zs.getD hi 0 = y at *
        have E := Lib.hid (EN.out y)
        by_cases hyx : y = x
        · have CC := Lib.hid (C1.out hyx)
          clear C1 C2
          go_wp2_with (first | (go_at_call 123; refine (E.out _).mono ?_; rintro e w' ⟨rfl, rfl⟩))
          go_ret2
          exact ⟨hi, (by rw [CC.out.1]; first | rfl | simp [*]), hin, CC.out.2, HB.out⟩
        · have CC := Lib.hid (C2.out hyx)
          clear C1 C2
          go_wp2_with (first | (go_at_call 123; refine (E.out _).mono ?_; rintro e w' ⟨rfl, rfl⟩))
          go_ret2
          exact ⟨hi, (by rw [CC.out.1]; first | rfl | simp [*]), hin, CC.out.2, HB.out⟩
      · have g2' : ¬ (hi : Int) < (n : Int) := by omega
        have hx := cut_out CA.out HR.out (fun h => absurd h (by rw [HN.out]; exact g2))
        have CC := Lib.hid (show B (x ∈ zs) = false ∧ (x ∉ zs → CutAt zs x hi hi) from ⟨B_no hx, fun _ => CA.out⟩)
        clear hx CA
        go_wp2
        go_ret2
        exact ⟨hi, (by rw [CC.out.1]; first | rfl | simp [*]), hin, CC.out.2, HB.out⟩
end Go.Proofs.Ytdmfljejlhlbnaa
namespace Go.Proofs.Ytdmfljejlhlbnaa
open Go.RowKit
set_option linter.unusedVariables false

theorem cut_with {pl : List LPl} {id c : Int} {p : Nat} (hp : p ≤ pl.length) (hn : id ∉ pidsL pl) (h : CutAt (pidsL pl) id p p) : withL pl (id, c) = pl.take p ++ (id, c) :: pl.drop p := by
  have hg : ∀ t (ht : t < pl.length), (pidsL pl).getD t 0 = pl[t].1 := fun t ht => by simp [pidsL, ht]
  refine withL_cut pl (id, c) p hp (fun q hq => ?_) (fun q hq => ?_)
  · obtain ⟨t, ht, rfl⟩ := List.getElem_of_mem hq
    have ht' : t < p ∧ t < pl.length := by simp at ht; omega
    have := h.1 t ht'.1
    rw [hg t ht'.2] at this
    simp only [List.getElem_take]
    show ¬ id < pl[t].1
    omega
  · obtain ⟨t, ht, rfl⟩ := List.getElem_of_mem hq
    have ht' : p + t < pl.length := by simp at ht; omega
    have := h.2 (p + t) (by omega) (by rw [pidsL_len]; exact ht')
    rw [hg _ ht'] at this
    simp only [List.getElem_drop]
    show id < pl[p + t].1
    have hne : pl[p + t].1 ≠ id := fun e => hn (e ▸ List.mem_map.2 ⟨pl[p + t], List.getElem_mem ht', rfl⟩)
    omega

set_option maxRecDepth 100000 in
set_option maxHeartbeats 8000000 in
/-- impl.PlanAdd. -/
theorem ipa_any (sl : Option Addr) (cap : Nat) (sl2 : Option Addr) (cap2 : Nat) (sl3 : Option Addr) (cap3 : Nat) (rs : List LSt) (ps : List LPr) (pl : List LPl) (top id : Int) (w : World) (hn : rs.length ≤ 1048576) (hl : pl.length ≤ 1048576) (hz : Sts w sl rs) (hp : Prs w sl2 ps) (hw : ∀ p ∈ ps, WfP p) (hi : Pls w sl3 pl) (hc3 : pl.length ≤ cap3) :
    Calls Try.prog 16 #[TV sl rs.length cap sl2 ps.length cap2, .int .i64 top, .slice sl3 pl.length cap3, .int .i64 id] w fun e w' => ∃ v, e = .returned v ∧ w'.ownsRow w.heap.size 34 2 v (addA rs ps top pl id).length (enCells (addA rs ps top pl id)) ∧ Below w.heap.size w w' := by
  have HT := Lib.hid (TabAt.new w sl rs.length cap sl2 ps.length cap2)
  have B0 := Lib.hid (bA0 w (.cells #[.slice sl rs.length cap, .slice sl2 ps.length cap2] 26))
  have E1 := Lib.hid (ipr_any sl cap sl2 cap2 sl3 cap3 rs ps pl top _ hn hl (hz.below B0.out) (hp.below B0.out) hw (hi.below B0.out) hc3)
  by_cases c1 : planB rs ps top pl = true
  · rw [c1] at E1
    have ok := (planB_ok rs ps top pl).1 c1
    have TR := ok.ids.2.1
    have E2 : Hid (∀ W, Below w.heap.size w W → Calls Try.prog 72 #[.slice sl3 pl.length cap3] W fun e w' => ∃ v, e = .returned v ∧ w'.ownsRow W.heap.size 2 1 v (pidsL pl).length (valsZ (pidsL pl)) ∧ Below W.heap.size W w') := fun W hW => by
      have := ipi_any sl3 cap3 pl W (by unfold maxLen; omega) (hi.below hW)
      rwa [show pidsA pl = pidsL pl from if_pos ok.ln] at this
    have E3 : Hid (∀ s k W, Ints W s (pidsL pl) → Calls Try.prog 71 #[.slice s (pidsL pl).length k, .int .i64 id] W fun e w' => ∃ p : Nat, e = .returned (.tuple #[.int .i64 p, .bool (B (id ∈ pidsL pl))]) ∧ p ≤ (pidsL pl).length ∧ (id ∉ pidsL pl → CutAt (pidsL pl) id p p) ∧ Below W.heap.size W w') := fun s k W hi' => bs2_any s k (pidsL pl) id W (by rw [pidsL_len]; omega) (idsR_rise ok.ids) hi'
    by_cases c2 : id ∈ pidsL pl
    · rw [addA_no (fun g => g.2 c2)]
      rw [B_yes c2] at E3
      have OI := Lib.hid (fun B v (W : World) (o : W.ownsRow B 2 1 v (pidsL pl).length (valsZ (pidsL pl))) => own_ints o)
      clear hz hp hw hi c1 ok TR c2 hn hl
      generalize rs.length = rn at *
      generalize ps.length = pq at *
      generalize pl.length = pn at *
      generalize pidsL pl = pd at *
      go_enter Try.func16, Try.ntmps16
      go_wp2_with fail
      refine E1.out.mono ?_
      rintro e w1 ⟨rfl, b1⟩
      have D1 := Lib.hid (bT B0.out b1)
      clear b1 E1 HT B0
      go_wp2_with fail
      refine (E2.out _ D1.out).mono ?_
      rintro e w2 ⟨v2, rfl, o2, b2⟩
      have D2 := Lib.hid (bT D1.out b2)
      obtain ⟨s2, k2, rfl, i2⟩ := OI.out _ _ _ o2
      have T3 := Lib.hid (E3.out s2 k2 w2 i2)
      clear b2 o2 i2 E2 D1 E3
      go_wp2_with fail
      refine T3.out.mono ?_
      rintro e w3 ⟨p, rfl, -, -, b3⟩
      have D3 := Lib.hid (bT D2.out b3)
      clear b3 T3 D2
      go_wp2
      go_ret
      exact ⟨_, rfl, ⟨rfl, .inl ⟨rfl, rfl⟩⟩, D3.out⟩
    rw [addA_yes ⟨c1, c2⟩]
    rw [B_no c2] at E3
    have CW := Lib.hid (show ∀ p c, p ≤ (pidsL pl).length → (id ∉ pidsL pl → CutAt (pidsL pl) id p p) → withL pl (id, c) = pl.take p ++ (id, c) :: pl.drop p from fun p c h1 h2 => cut_with (by rwa [pidsL_len] at h1) c2 (h2 c2))
    have E4 : Hid (∀ W, Below w.heap.size w W → Calls Try.prog 73 #[TV sl rs.length cap sl2 ps.length cap2] W fun e w' => ∃ kb, e = .returned (FV kb) ∧ FitsAt w' kb ps ∧ Below W.heap.size W w') := fun W hW => bi_any sl rs.length cap sl2 cap2 ps W (by have := TR.1.2.2; omega) (hp.below hW) hw
    have E5 : Hid (∀ W, Below w.heap.size w W → Calls Try.prog 74 #[TV sl rs.length cap sl2 ps.length cap2, .int .i64 id, .int .i64 top] W fun e w' => ∃ v, e = .returned v ∧ w'.ownsRow W.heap.size 2 1 v (rs.flatMap (domF id top)).length (valsZ (rs.flatMap (domF id top))) ∧ Below W.heap.size W w') := fun W hW => din_any sl cap sl2 cap2 rs ps id top W (hz.below hW) TR
    have E6 : Hid (∀ W kb c, Below w.heap.size w W → FitsAt W kb ps → c ∈ rs.flatMap (domF id top) → Calls Try.prog 125 #[.slice sl3 pl.length cap3, .agg #[.int .i64 id, .int .i64 c], .pointer (some ⟨kb, 0, none⟩)] W fun e w' => e = .returned (.bool (fitB ps pl (id, c))) ∧ Below W.heap.size W w') := fun W kb c hW hf hc => by
      have hid : id ∈ idsL rs := by
        by_cases hx : id ∈ idsL rs
        · exact hx
        · rw [flat_none id top rs hx] at hc; simp at hc
      have h1 := TR.2.2.1.mem hid
      have h2 := dom_small rs ps id top c TR hc
      exact fit_any sl3 cap3 pl id c kb ps W hl (hi.below hW) (fun p hp' => by
        have g1 := ids_small ok.ids p hp'
        have g2 := dom_small rs ps p.1 top p.2 TR (ok.dom p hp')
        exact ⟨⟨by omega, by omega⟩, ⟨by omega, by omega⟩⟩) ⟨⟨by show (0 : Int) ≤ id; omega, by show id ≤ 1000; omega⟩, ⟨by show (0 : Int) ≤ c; omega, by show c ≤ 1000; omega⟩⟩ hw hf
    have CL : Hid (∀ W, Below w.heap.size w W → Calls Try.prog 76 #[.slice sl3 pl.length cap3] W fun e w' => ∃ v, e = .returned v ∧ w'.ownsRow W.heap.size 34 2 v pl.length (enCells pl) ∧ Below W.heap.size W w') := fun W hW => clo_any sl3 cap3 pl W hl (hi.below hW)
    have INP : Hid (∀ (p B vb : Nat) (c : Int) (v : Value) (W : World), p ≤ (pidsL pl).length → W.ownsRow B 34 2 v pl.length (enCells pl) → B ≤ W.heap.size → W.heap[vb]? = some (.cells #[.int .i64 id, .int .i64 c] 34) → v.ownBlock ≠ some vb → Calls Try.prog 75 #[v, .int .i64 p, .slice (some ⟨vb, 0, none⟩) 1 1] W fun e w' => ∃ v', e = .returned v' ∧ w'.ownsRow B 34 2 v' (pl.length + 1) (enCells (pl.take p ++ (id, c) :: pl.drop p)) ∧ Below B W w') := fun p B vb c v W h1 h2 h3 h4 h5 => ins_any B p vb id c v pl W h2 h3 (by rwa [pidsL_len] at h1) h4 h5 (by have := ok.ln; omega)
    have DL := dom_le rs ps id top TR
    have OI := Lib.hid (fun B v (W : World) (o : W.ownsRow B 2 1 v (pidsL pl).length (valsZ (pidsL pl))) => own_ints o)
    have DM := Lib.hid (show ∀ k, k < (rs.flatMap (domF id top)).length → (rs.flatMap (domF id top)).getD k 0 ∈ rs.flatMap (domF id top) from fun k hk => getD_mem hk)
    have PN := Lib.hid (show ∀ c, (withL pl (id, c)).length = pl.length + 1 from fun c => withL_len pl (id, c))
    clear hz hp hw hi c1 c2 ok TR hn hl
    generalize hDS : rs.flatMap (domF id top) = ds at *
    clear hDS
    have AS := Lib.hid (fun k (h : k < ds.length) => addL_step ps pl id ds k h)
    have AE := Lib.hid (fun k (h : ds.length ≤ k) => addL_end ps pl id ds k h)
    have A0 := Lib.hid (show addL ps pl id (ds.drop 0) = addL ps pl id ds by simp)
    generalize hR : addL ps pl id ds = R at *
    clear hR
    have DI := Lib.hid (fun B v (W : World) (o : W.ownsRow B 2 1 v ds.length (valsZ ds)) => own_ints o)
    generalize hDN : ds.length = dn at *
    have HDN := Lib.hid hDN
    clear hDN
    generalize rs.length = rn at *
    generalize ps.length = pq at *
    generalize hPN : pl.length = pn at *
    clear hPN
    go_enter Try.func16, Try.ntmps16
    go_wp2_with fail
    refine E1.out.mono ?_
    rintro e w1 ⟨rfl, b1⟩
    have D1 := Lib.hid (bT B0.out b1)
    have T1 := Lib.hid (HT.out.below b1)
    clear b1 E1 HT B0
    go_wp2_with fail
    refine (E2.out _ D1.out).mono ?_
    rintro e w2 ⟨v2, rfl, o2, b2⟩
    have D2 := Lib.hid (bT D1.out b2)
    have T2 := Lib.hid (T1.out.below b2)
    obtain ⟨s2, k2, rfl, i2⟩ := OI.out _ _ _ o2
    have C3 := Lib.hid (E3.out s2 k2 w2 i2)
    clear b2 o2 i2 E2 D1 E3 T1 OI
    go_wp2_with fail
    refine C3.out.mono ?_
    rintro e w3 ⟨p, rfl, hp3, hcut, b3⟩
    have D3 := Lib.hid (bT D2.out b3)
    have T3 := Lib.hid (T2.out.below b3)
    have WCP := Lib.hid (fun c => CW.out p c hp3 hcut)
    have INS := Lib.hid (fun B vb c v W => INP.out p B vb c v W hp3)
    clear b3 C3 D2 T2 CW INP hcut hp3
    obtain ⟨t0, t1⟩ := T3.out.cells
    have tl := T3.out.lt
    go_wp2_with fail
    refine (E4.out _ D3.out).mono ?_
    rintro e w4 ⟨kb, rfl, ft4, b4⟩
    have D4 := Lib.hid (bT D3.out b4)
    have T4 := Lib.hid (T3.out.below b4)
    have F4 := Lib.hid ft4
    clear b4 ft4 D3 T3 t0 t1 tl E4
    obtain ⟨t0, t1⟩ := T4.out.cells
    have tl := T4.out.lt
    go_wp2_with fail
    refine (E5.out _ D4.out).mono ?_
    rintro e w5 ⟨v5, rfl, o5, b5⟩
    have D5 := Lib.hid (bT D4.out b5)
    have F5 := Lib.hid (F4.out.below b5)
    obtain ⟨s5, k5, rfl, i5⟩ := DI.out _ _ _ o5
    have I5 := Lib.hid i5
    clear b5 o5 i5 D4 T4 F4 t0 t1 tl E5 DI
    go_wp2
    go_loopw [35] (fun i wr => ∃ k : Nat, i = .int .i64 k ∧ k ≤ dn ∧ Hid (addL ps pl id (ds.drop k) = R) ∧ Hid (Below w5.heap.size w5 wr)) (fun i _ => dn - (intOf i).toNat)
    case atStart => exact ⟨0, rfl, Nat.zero_le _, A0, Below.refl _ _⟩
    case round =>
      obtain ⟨k, rfl, hk, HA, HB⟩ := hrel
      have hk0 : (0 : Int) ≤ (k : Int) := by omega
      by_cases h1 : k < dn
      · have h1' : (k : Int) < (dn : Int) := by omega
        have hlt : k < ds.length := by rw [HDN.out]; exact h1
        obtain ⟨cb, co, rfl, ZI⟩ : ∃ cb co, s5 = some ⟨cb, co, none⟩ ∧ IntsAt w5 cb co ds := by
          rcases I5.out with e | h
          · rw [e] at hlt; simp at hlt
          · exact h
        have hcell : wr.cell? ⟨cb, co + k, none⟩ = some (.int .i64 (ds.getD k 0)) := (HB.out.cell (p := ⟨cb, co + k, none⟩) ZI.1).trans (ZI.2 k hlt)
        have DW := Lib.hid (bT D5.out HB.out)
        have FW := Lib.hid (F5.out.below HB.out)
        have DP := Lib.hid (bA DW.out (.cells #[.int .i64 id, .int .i64 (ds.getD k 0)] 34))
        have CF := Lib.hid (E6.out (wr.alloc (.cells #[.int .i64 id, .int .i64 (ds.getD k 0)] 34)) kb _ DP.out (FW.out.below (bA0 _ _)) (DM.out k h1))
        have ASK := Lib.hid (AS.out k h1)
        have NP := Lib.hid (new_at wr (.cells #[.int .i64 id, .int .i64 (ds.getD k 0)] 34))
        have BP := Lib.hid (bA0 wr (.cells #[.int .i64 id, .int .i64 (ds.getD k 0)] 34))
        clear hlt ZI
        generalize ds.getD k 0 = c at *
        by_cases hf : fitB ps pl (id, c) = true
        · have ER := Lib.hid (show R = withL pl (id, c) by rw [← HA.out, ASK.out, if_pos hf])
          have WC := Lib.hid (WCP.out c)
          rw [hf] at CF
          clear ASK HA AS AE
          go_wp2_with fail
          generalize wr.alloc (.cells #[.int .i64 id, .int .i64 c] 34) = wB at *
          refine CF.out.mono ?_
          rintro e wq ⟨rfl, bq⟩
          have DQ := Lib.hid (bT DP.out bq)
          have KX : Hid (∀ W, Below wq.heap.size wq W → wr.heap.size < W.heap.size ∧ W.cell? ⟨wr.heap.size, 0, none⟩ = some (.int .i64 id) ∧ W.cell? ⟨wr.heap.size, 1, none⟩ = some (.int .i64 c)) := fun W hW => by
            have hb : W.heap[wr.heap.size]? = some (.cells #[.int .i64 id, .int .i64 c] 34) := (hW.block _ (by have := (Array.getElem?_eq_some_iff.1 NP.out).1; have := bq.size; omega)).trans ((bq.block _ (Array.getElem?_eq_some_iff.1 NP.out).1).trans NP.out)
            exact ⟨(Array.getElem?_eq_some_iff.1 hb).1, by simp [World.cell?, hb], by simp [World.cell?, hb]⟩
          clear bq CF
          go_wp2_with fail
          refine wp_region_held_drew (S := fun W => wr.heap.size < W.heap.size ∧ W.cell? ⟨wr.heap.size, 0, none⟩ = some (.int .i64 id) ∧ W.cell? ⟨wr.heap.size, 1, none⟩ = some (.int .i64 c)) (by kernel_rfl) ?_ (fun hHeld => ?_)
          · exact KX.out _ (Below.refl _ _).drew
          refine wpAnyH_take (i := 0) (oi := _) (v := ?_) rfl (by kernel_rfl) (by kernel_rfl) (by kernel_rfl) (fun _ _ _ h => h) (Or.inl ⟨by rfl, ?_⟩) (by assumption) ?_
          rotate_left
          · first | (intro w hSw; (try dsimp only at hSw); go_simp; done) | (intro w hSw; (try dsimp only at hSw); go_simp; with_reducible rfl)
          try simp only [Act.put, List.setIfInBounds_toArray, List.set_cons_zero, List.set_cons_succ, List.getElem_toArray, List.getElem_cons_zero]
          refine wpAnyH_take (i := 2) (oi := _) (v := ?_) rfl (by kernel_rfl) (by kernel_rfl) (by kernel_rfl) (fun _ _ _ h => h) (Or.inl ⟨by rfl, ?_⟩) (by assumption) ?_
          rotate_left
          · first | (intro w hSw; (try dsimp only at hSw); go_simp; done) | (intro w hSw; (try dsimp only at hSw); go_simp; with_reducible rfl)
          try simp only [Act.put, List.setIfInBounds_toArray, List.set_cons_zero, List.set_cons_succ, List.getElem_toArray, List.getElem_cons_succ, List.getElem_cons_zero]
          refine wpAnyH_take (i := 3) (oi := _) (v := ?_) rfl (by kernel_rfl) (by kernel_rfl) (by kernel_rfl) (fun _ _ _ h => h) (Or.inl ⟨by rfl, ?_⟩) (by assumption) ?_
          rotate_left
          · first | (intro w hSw; (try dsimp only at hSw); go_simp; done) | (intro w hSw; (try dsimp only at hSw); go_simp; with_reducible rfl)
          try simp only [Act.put, List.setIfInBounds_toArray, List.set_cons_zero, List.set_cons_succ, List.getElem_toArray, List.getElem_cons_succ, List.getElem_cons_zero]
          refine wpAnyH_ready (rs := [1, 4]) (by kernel_rfl) (by simp) ?_
          refine AllReadyH.cons rfl (fun K hK => ?_) (AllReadyH.cons rfl (fun K hK => ?_) AllReadyH.nil)
          · go_simp
            go_wp2_with (go_at_call 76; refine (CL.out _ DQ.out.drew).mono ?_; rintro e w7 ⟨v7, rfl, o7, b7⟩)
            have F7 : Hid (Below wq.heap.size wq w7) := bT ((Below.refl wq.heap.size wq).drew) b7
            have O7 : Hid (w7.ownsRow wq.heap.size 34 2 v7 pn (enCells pl)) := o7
            clear o7 b7
            refine hK.out _ _ ?_ (fun hHeld => ?_)
            · exact KX.out _ F7.out
            clear hK K
            refine wpAnyH_ready (rs := [4]) (by kernel_rfl) (by simp) ?_
            refine AllReadyH.cons rfl (fun K hK => ?_) AllReadyH.nil
            go_simp
            have F8 := Lib.hid (bT F7.out (bA0 w7 (.cells #[.int .i64 id, .int .i64 c] 34)))
            refine hK.out _ _ ?_ (fun hHeld => ?_)
            · exact KX.out _ F8.out
            clear hK K
            have IN := Lib.hid (INS.out wq.heap.size w7.heap.size c v7 (w7.alloc (.cells #[.int .i64 id, .int .i64 c] 34)) (O7.out.alloc _) (by have := F8.out.size; omega) (new_at _ _) (fun e => by have := (O7.out.lt _ e).2; omega))
            obtain ⟨BB, hBB, hBw⟩ : ∃ BB, BB = wq.heap.size ∧ w.heap.size ≤ BB := ⟨_, rfl, by have := DQ.out.size; omega⟩
            rw [← hBB] at IN
            have FX := Lib.hid (show ∀ W, Below BB (w7.alloc (.cells #[.int .i64 id, .int .i64 c] 34)) W → Below wq.heap.size wq W from fun W h => F8.out.trans (by rw [← hBB]; exact h))
            have BL := Lib.hid (show ∀ W, Below BB (w7.alloc (.cells #[.int .i64 id, .int .i64 c] 34)) W → Below w.heap.size w W from fun W h => bT DQ.out (FX.out W h))
            obtain ⟨s7, k7, rfl⟩ := own_v O7.out
            refine wpAnyH_ready (rs := [5]) (by kernel_rfl) (by simp) ?_
            refine AllReadyH.cons rfl (fun K hK => ?_) AllReadyH.nil
            go_simp
            go_wp2_with (go_at_call 75; refine IN.out.mono ?_; rintro e w9 ⟨v9, rfl, o9, b9⟩)
            have F9 := Lib.hid (FX.out w9 b9)
            have O9 := Lib.hid (own_mono o9 (show w.heap.size ≤ BB by omega))
            have G9 := Lib.hid (BL.out w9 b9)
            clear o9 b9 IN
            refine hK.out _ _ ?_ (fun hHeld => ?_)
            · exact KX.out _ F9.out
            clear hK K
            refine wpAnyH_take (i := 6) (oi := _) (v := ?_) rfl (by kernel_rfl) (by kernel_rfl) (by kernel_rfl) (fun _ _ _ h => h) (Or.inl ⟨by rfl, ?_⟩) (by assumption) ?_
            rotate_left
            · first | (intro w hSw; (try dsimp only at hSw); go_simp; done) | (intro w hSw; (try dsimp only at hSw); go_simp; with_reducible rfl)
            try simp only [Act.put, List.setIfInBounds_toArray, List.set_cons_zero, List.set_cons_succ, List.getElem_toArray, List.getElem_cons_succ, List.getElem_cons_zero]
            refine wpAnyH_done (by kernel_rfl) ?_ _
            go_wp2
            go_ret
            exact ⟨_, rfl, by rw [ER.out]; show World.ownsRow _ _ _ _ _ (withL pl (id, c)).length _; rw [PN.out c, WC.out]; exact O9.out, G9.out⟩
          · go_simp
            have F7 : Hid (Below wq.heap.size wq (wq.alloc (.cells #[.int .i64 id, .int .i64 c] 34)).drew) := ((Below.refl wq.heap.size wq).alloc (Nat.le_refl _) (.cells #[.int .i64 id, .int .i64 c] 34)).drew
            refine hK.out _ _ ?_ (fun hHeld => ?_)
            · exact KX.out _ F7.out
            clear hK K
            refine wpAnyH_ready (rs := [1]) (by kernel_rfl) (by simp) ?_
            refine AllReadyH.cons rfl (fun K hK => ?_) AllReadyH.nil
            go_simp
            go_wp2_with (go_at_call 76; refine (CL.out _ (bT DQ.out F7.out)).mono ?_; rintro e w8 ⟨v7, rfl, o7, b7⟩)
            have F8 : Hid (Below wq.heap.size wq w8) := bT F7.out b7
            have o7' : w8.ownsRow (wq.heap.size + 1) 34 2 v7 pn (enCells pl) := by simpa using o7
            have O7 := Lib.hid o7'
            clear o7'
            have N8 : Hid (w8.heap[wq.heap.size]? = some (.cells #[.int .i64 id, .int .i64 c] 34)) := (b7.block wq.heap.size (by simp)).trans (new_at wq _)
            clear o7 b7
            refine hK.out _ _ ?_ (fun hHeld => ?_)
            · exact KX.out _ F8.out
            clear hK K
            have IN := Lib.hid (INS.out (wq.heap.size + 1) wq.heap.size c v7 w8 O7.out (by have := (Array.getElem?_eq_some_iff.1 N8.out).1; omega) N8.out (fun e => by have := (O7.out.lt _ e).1; omega))
            obtain ⟨BB, hBB, hBw⟩ : ∃ BB, BB = wq.heap.size + 1 ∧ w.heap.size ≤ BB := ⟨_, rfl, by have := DQ.out.size; omega⟩
            rw [← hBB] at IN
            have FX := Lib.hid (show ∀ W, Below BB w8 W → Below wq.heap.size wq W from fun W h => F8.out.trans (h.mono (by omega)))
            have BL := Lib.hid (show ∀ W, Below BB w8 W → Below w.heap.size w W from fun W h => bT DQ.out (FX.out W h))
            obtain ⟨s7, k7, rfl⟩ := own_v O7.out
            refine wpAnyH_ready (rs := [5]) (by kernel_rfl) (by simp) ?_
            refine AllReadyH.cons rfl (fun K hK => ?_) AllReadyH.nil
            go_simp
            go_wp2_with (go_at_call 75; refine IN.out.mono ?_; rintro e w9 ⟨v9, rfl, o9, b9⟩)
            have F9 := Lib.hid (FX.out w9 b9)
            have O9 := Lib.hid (own_mono o9 (show w.heap.size ≤ BB by omega))
            have G9 := Lib.hid (BL.out w9 b9)
            clear o9 b9 IN
            refine hK.out _ _ ?_ (fun hHeld => ?_)
            · exact KX.out _ F9.out
            clear hK K
            refine wpAnyH_take (i := 6) (oi := _) (v := ?_) rfl (by kernel_rfl) (by kernel_rfl) (by kernel_rfl) (fun _ _ _ h => h) (Or.inl ⟨by rfl, ?_⟩) (by assumption) ?_
            rotate_left
            · first | (intro w hSw; (try dsimp only at hSw); go_simp; done) | (intro w hSw; (try dsimp only at hSw); go_simp; with_reducible rfl)
            try simp only [Act.put, List.setIfInBounds_toArray, List.set_cons_zero, List.set_cons_succ, List.getElem_toArray, List.getElem_cons_succ, List.getElem_cons_zero]
            refine wpAnyH_done (by kernel_rfl) ?_ _
            go_wp2
            go_ret
            exact ⟨_, rfl, by rw [ER.out]; show World.ownsRow _ _ _ _ _ (withL pl (id, c)).length _; rw [PN.out c, WC.out]; exact O9.out, G9.out⟩
        · have ER := Lib.hid (show addL ps pl id (ds.drop (k + 1)) = R by rw [← HA.out, ASK.out, if_neg hf])
          have hf' : fitB ps pl (id, c) = false := by simpa using hf
          rw [hf'] at CF
          clear ASK HA AS AE NP
          go_wp2_with fail
          refine CF.out.mono ?_
          rintro e wq ⟨rfl, bq⟩
          have BQ := Lib.hid (bT HB.out (bT BP.out bq))
          clear bq CF BP DP
          go_wp2
          go_roundw
          case rel => exact ⟨k + 1, by go_num, by omega, ER, BQ⟩
          case measure => simp [intOf]; omega
      · have h1' : ¬ (k : Int) < (dn : Int) := by omega
        have ER := Lib.hid (show R = [] by rw [← HA.out]; exact AE.out k (by omega))
        have DW := Lib.hid (bT D5.out HB.out)
        clear AS AE HA
        go_wp2
        go_ret
        exact ⟨_, rfl, by rw [ER.out]; exact ⟨rfl, .inl ⟨rfl, rfl⟩⟩, DW.out⟩
  · rw [addA_no (fun g => c1 g.1)]
    have c1' : planB rs ps top pl = false := by simpa using c1
    rw [c1'] at E1
    clear hz hp hw hi c1 c1' hn hl HT
    generalize rs.length = rn at *
    generalize ps.length = pq at *
    generalize pl.length = pn at *
    go_enter Try.func16, Try.ntmps16
    go_wp2_with fail
    refine E1.out.mono ?_
    rintro e w1 ⟨rfl, b1⟩
    have D1 := Lib.hid (bT B0.out b1)
    clear b1 E1 B0
    go_wp2
    go_ret
    exact ⟨_, rfl, ⟨rfl, .inl ⟨rfl, rfl⟩⟩, D1.out⟩

end Go.Proofs.Ytdmfljejlhlbnaa
namespace Go.Proofs.Ytdmfljejlhlbnaa
open Go.RowKit
set_option linter.unusedVariables false

/-- What is still to come. -/
def restL (pl : List LPl) (x : LPl) (d : Bool) (k : Nat) : List LPl := if d = true then pl.drop k else withL (pl.drop k) x
theorem rest_done (pl : List LPl) (x p : LPl) (k : Nat) (h : k < pl.length) (hp : pl[k] = p) : restL pl x true k = p :: restL pl x true (k + 1) := by
  subst hp
  simp only [restL, if_true]
  exact List.drop_eq_getElem_cons h
theorem rest_now (pl : List LPl) (x p : LPl) (k : Nat) (h : k < pl.length) (hp : pl[k] = p) (hg : x.1 < p.1) : restL pl x false k = x :: p :: restL pl x true (k + 1) := by
  subst hp
  simp only [restL, if_true, Bool.false_eq_true, if_false]
  rw [List.drop_eq_getElem_cons h, withL, if_pos hg]
theorem rest_not (pl : List LPl) (x p : LPl) (k : Nat) (h : k < pl.length) (hp : pl[k] = p) (hg : ¬ x.1 < p.1) : restL pl x false k = p :: restL pl x false (k + 1) := by
  subst hp
  simp only [restL, Bool.false_eq_true, if_false]
  rw [List.drop_eq_getElem_cons h, withL, if_neg hg]
theorem rest_end (pl : List LPl) (x : LPl) (d : Bool) (k : Nat) (h : pl.length ≤ k) : restL pl x d k = if d = true then [] else [x] := by
  unfold restL
  rw [List.drop_of_length_le h]
  rfl

theorem bAM {M : Nat} {W w : World} (h : Below M W w) (hs : M ≤ w.heap.size) (o : Obj) : Below M W (w.alloc o) := h.alloc hs o
set_option maxRecDepth 100000 in
set_option maxHeartbeats 4000000 in
/-- spec.l05With. -/
theorem wi_any (sl : Option Addr) (cap : Nat) (pl : List LPl) (id c : Int) (w : World) (hn : pl.length ≤ 1000) (hz : Pls w sl pl) :
    Calls Try.prog 70 #[.slice sl pl.length cap, .agg #[.int .i64 id, .int .i64 c]] w fun e w' => ∃ v, e = .returned v ∧ w'.ownsRow w.heap.size 34 2 v (withL pl (id, c)).length (enCells (withL pl (id, c))) ∧ Below w.heap.size w w' := by
  have B0 := Lib.hid (bA0 w (.cells #[.int .i64 id, .int .i64 c] 34))
  have N0 := Lib.hid (new_at w (.cells #[.int .i64 id, .int .i64 c] 34))
  have HZ := Lib.hid (hz.below B0.out)
  have hM : (w.alloc (.cells #[.int .i64 id, .int .i64 c] 34)).heap.size = w.heap.size + 1 := by simp
  have O0 := Lib.hid (own_none2 (w.alloc (.cells #[.int .i64 id, .int .i64 c] 34)))
  have B1 := Lib.hid (bA0 (w.alloc (.cells #[.int .i64 id, .int .i64 c] 34)) (.cells #[] 34))
  rw [hM] at O0 B1
  have HL := Lib.hid (withL_len pl (id, c))
  have KX : Hid (∀ W, Below (w.heap.size + 1) (w.alloc (.cells #[.int .i64 id, .int .i64 c] 34)) W → w.heap.size < W.heap.size ∧ W.cell? ⟨w.heap.size, 0, none⟩ = some (.int .i64 id) ∧ W.cell? ⟨w.heap.size, 1, none⟩ = some (.int .i64 c)) := fun W hW => by
    have hb : W.heap[w.heap.size]? = some (.cells #[.int .i64 id, .int .i64 c] 34) := (hW.block _ (Nat.lt_succ_self _)).trans N0.out
    exact ⟨(Array.getElem?_eq_some_iff.1 hb).1, by simp [World.cell?, hb], by simp [World.cell?, hb]⟩
  have PX : Hid (∀ W, Below (w.heap.size + 1) (w.alloc (.cells #[.int .i64 id, .int .i64 c] 34)) W → Pls W sl pl) := fun W hW => HZ.out.below (by rw [hM]; exact hW)
  have BX : Hid (∀ W, Below (w.heap.size + 1) (w.alloc (.cells #[.int .i64 id, .int .i64 c] 34)) W → Below w.heap.size w W) := fun W hW => B0.out.trans (hW.mono (by omega))
  have SX : Hid (∀ W, Below (w.heap.size + 1) (w.alloc (.cells #[.int .i64 id, .int .i64 c] 34)) W → w.heap.size + 1 ≤ W.heap.size) := fun W hW => by have := hW.size; rw [hM] at this; exact this
  have RE : Hid (∀ d k, pl.length ≤ k → restL pl (id, c) d k = if d = true then [] else [(id, c)]) := fun d k h => rest_end pl (id, c) d k h
  have R0 : Hid (withL pl (id, c) = [] ++ restL pl (id, c) false 0) := rfl
  clear hz N0 HZ B0 hM
  generalize hW : withL pl (id, c) = ws at *
  clear hW
  generalize hN : pl.length = n at *
  have HN := Lib.hid hN
  clear hN
  go_enter Try.func70, Try.ntmps70
  go_wp2
  generalize (w.alloc (.cells #[.int .i64 id, .int .i64 c] 34)).alloc (.cells #[] 34) = w2 at *
  generalize w.alloc (.cells #[.int .i64 id, .int .i64 c] 34) = w1 at *
  go_loopw [5, 6, 7] (fun v d i wr => ∃ (k : Nat) (b : Bool) (ks : List LPl), i = .int .i64 k ∧ d = .bool b ∧ k ≤ n ∧ Hid (wr.ownsRow (w.heap.size + 1) 34 2 v ks.length (enCells ks)) ∧ Hid (ws = ks ++ restL pl (id, c) b k) ∧ Hid (Below (w.heap.size + 1) w1 wr)) (fun _ _ i _ => n - (intOf i).toNat)
  case atStart => exact ⟨0, false, [], rfl, rfl, Nat.zero_le _, O0, R0, B1⟩
  case round =>
    obtain ⟨k, b, ks, rfl, rfl, hk, OW, RW, BW⟩ := hrel
    clear O0 R0 B1
    have hk0 : (0 : Int) ≤ (k : Int) := by omega
    have hkl : ks.length ≤ n + 1 := by have := congrArg List.length RW.out; rw [HL.out, List.length_append] at this; omega
    by_cases h1 : k < n
    · have h1' : (k : Int) < (n : Int) := by omega
      have hlt : k < pl.length := by rw [HN.out]; exact h1
      obtain ⟨cb, co, rfl⟩ : ∃ cb co, sl = some ⟨cb, co, none⟩ := by
        rcases PX.out _ BW.out with e | ⟨cb, co, e, _⟩
        · rw [e] at hlt; simp at hlt
        · exact ⟨cb, co, e⟩
      obtain ⟨⟨y0, y1⟩, hp⟩ : ∃ p, pl[k]'hlt = p := ⟨_, rfl⟩
      have CX : Hid (∀ W, Below (w.heap.size + 1) w1 W → cb < W.heap.size ∧ W.cell? ⟨cb, co + k * 2, none⟩ = some (.int .i64 y0) ∧ W.cell? ⟨cb, co + k * 2 + 1, none⟩ = some (.int .i64 y1)) := fun W hW => by
        rcases PX.out W hW with e | ⟨c', o', e, h⟩
        · rw [e] at hlt; simp at hlt
        · cases e; have := h.cell k hlt; rw [hp] at this; exact ⟨h.lt, this⟩
      have OD : Hid (wr.drew.ownsRow (w.heap.size + 1) 34 2 _ ks.length (enCells ks)) := OW.out
      have BD := Lib.hid BW.out.drew
      cases b with
      | true =>
        have RK := Lib.hid (rest_done pl (id, c) _ k hlt hp)
        clear hlt hp
        have RQ := Lib.hid (show ws = (ks ++ [(y0, y1)]) ++ restL pl (id, c) true (k + 1) by rw [RW.out, RK.out]; simp)
        clear RK RW OW
        go_wp2_with fail
        refine wp_region_held_drew (S := fun W => True) (by kernel_rfl) ?_ (fun hHeld => ?_)
        · exact trivial
        refine wpAnyH_take (i := 0) (oi := _) (v := ?_) rfl (by kernel_rfl) (by kernel_rfl) (by kernel_rfl) (fun _ _ _ h => h) (Or.inl ⟨by rfl, ?_⟩) (by assumption) ?_
        rotate_left
        · first | (intro w hSw; (try dsimp only at hSw); go_simp; done) | (intro w hSw; (try dsimp only at hSw); go_simp; with_reducible rfl)
        try simp only [Act.put, List.setIfInBounds_toArray, List.set_cons_zero, List.set_cons_succ, List.getElem_toArray, List.getElem_cons_zero]
        refine wpAnyH_take (i := 1) (oi := _) (v := ?_) rfl (by kernel_rfl) (by kernel_rfl) (by kernel_rfl) (fun _ _ _ h => h) (Or.inl ⟨by rfl, ?_⟩) (by assumption) ?_
        rotate_left
        · first | (intro w hSw; (try dsimp only at hSw); go_simp; done) | (intro w hSw; (try dsimp only at hSw); go_simp; with_reducible rfl)
        try simp only [Act.put, List.setIfInBounds_toArray, List.set_cons_zero, List.set_cons_succ, List.getElem_toArray, List.getElem_cons_succ, List.getElem_cons_zero]
        refine wpAnyH_take (i := 2) (oi := _) (v := ?_) rfl (by kernel_rfl) (by kernel_rfl) (by kernel_rfl) (fun _ _ _ h => h) (Or.inl ⟨by rfl, ?_⟩) (by assumption) ?_
        rotate_left
        · first | (intro w hSw; (try dsimp only at hSw); go_simp; done) | (intro w hSw; (try dsimp only at hSw); go_simp; with_reducible rfl)
        try simp only [Act.put, List.setIfInBounds_toArray, List.set_cons_zero, List.set_cons_succ, List.getElem_toArray, List.getElem_cons_succ, List.getElem_cons_zero]
        refine wpAnyH_take (i := 3) (oi := _) (v := undef) rfl (by kernel_rfl) (by kernel_rfl) (by kernel_rfl) (fun _ _ _ h => h) (Or.inr ⟨by rfl, rfl⟩) (by assumption) ?_
        try simp only [Act.put, List.setIfInBounds_toArray, List.set_cons_zero, List.set_cons_succ, List.getElem_toArray, List.getElem_cons_succ, List.getElem_cons_zero]
        refine wpAnyH_take (i := 4) (oi := _) (v := undef) rfl (by kernel_rfl) (by kernel_rfl) (by kernel_rfl) (fun _ _ _ h => h) (Or.inr ⟨by rfl, rfl⟩) (by assumption) ?_
        try simp only [Act.put, List.setIfInBounds_toArray, List.set_cons_zero, List.set_cons_succ, List.getElem_toArray, List.getElem_cons_succ, List.getElem_cons_zero]
        refine wpAnyH_take (i := 5) (oi := _) (v := undef) rfl (by kernel_rfl) (by kernel_rfl) (by kernel_rfl) (fun _ _ _ h => h) (Or.inr ⟨by rfl, rfl⟩) (by assumption) ?_
        try simp only [Act.put, List.setIfInBounds_toArray, List.set_cons_zero, List.set_cons_succ, List.getElem_toArray, List.getElem_cons_succ, List.getElem_cons_zero]
        refine wpAnyH_take (i := 6) (oi := _) (v := undef) rfl (by kernel_rfl) (by kernel_rfl) (by kernel_rfl) (fun _ _ _ h => h) (Or.inr ⟨by rfl, rfl⟩) (by assumption) ?_
        try simp only [Act.put, List.setIfInBounds_toArray, List.set_cons_zero, List.set_cons_succ, List.getElem_toArray, List.getElem_cons_succ, List.getElem_cons_zero]
        refine wpAnyH_take (i := 7) (oi := _) (v := undef) rfl (by kernel_rfl) (by kernel_rfl) (by kernel_rfl) (fun _ _ _ h => h) (Or.inr ⟨by rfl, rfl⟩) (by assumption) ?_
        try simp only [Act.put, List.setIfInBounds_toArray, List.set_cons_zero, List.set_cons_succ, List.getElem_toArray, List.getElem_cons_succ, List.getElem_cons_zero]
        refine wpAnyH_take (i := 8) (oi := _) (v := undef) rfl (by kernel_rfl) (by kernel_rfl) (by kernel_rfl) (fun _ _ _ h => h) (Or.inr ⟨by rfl, rfl⟩) (by assumption) ?_
        try simp only [Act.put, List.setIfInBounds_toArray, List.set_cons_zero, List.set_cons_succ, List.getElem_toArray, List.getElem_cons_succ, List.getElem_cons_zero]
        refine wpAnyH_take (i := 9) (oi := _) (v := undef) rfl (by kernel_rfl) (by kernel_rfl) (by kernel_rfl) (fun _ _ _ h => h) (Or.inr ⟨by rfl, rfl⟩) (by assumption) ?_
        try simp only [Act.put, List.setIfInBounds_toArray, List.set_cons_zero, List.set_cons_succ, List.getElem_toArray, List.getElem_cons_succ, List.getElem_cons_zero]
        refine wpAnyH_take (i := 10) (oi := _) (v := undef) rfl (by kernel_rfl) (by kernel_rfl) (by kernel_rfl) (fun _ _ _ h => h) (Or.inr ⟨by rfl, rfl⟩) (by assumption) ?_
        try simp only [Act.put, List.setIfInBounds_toArray, List.set_cons_zero, List.set_cons_succ, List.getElem_toArray, List.getElem_cons_succ, List.getElem_cons_zero]
        refine wpAnyH_take (i := 11) (oi := _) (v := ?_) rfl (by kernel_rfl) (by kernel_rfl) (by kernel_rfl) (fun _ _ _ h => h) (Or.inl ⟨by rfl, ?_⟩) (by assumption) ?_
        rotate_left
        · first | (intro w hSw; (try dsimp only at hSw); go_simp; done) | (intro w hSw; (try dsimp only at hSw); go_simp; with_reducible rfl)
        try simp only [Act.put, List.setIfInBounds_toArray, List.set_cons_zero, List.set_cons_succ, List.getElem_toArray, List.getElem_cons_succ, List.getElem_cons_zero]
        refine wpAnyH_done (by kernel_rfl) ?_ _
        generalize wr.drew = wd at *
        obtain ⟨e0, e1, e2⟩ := CX.out _ BD.out
        have s9 := SX.out _ BD.out
        obtain ⟨v9, w9, hr9, ow9, gr9, lo9⟩ := appP (OD.out.alloc (.cells #[.int .i64 y0, .int .i64 y1] 34)) 1 (pls_one (new_at wd _)) (by simp; omega) (by simp; omega)
        have hr9' := hr9 27
        have B9 := Lib.hid ((bAM BD.out s9 (.cells #[.int .i64 y0, .int .i64 y1] 34)).grown gr9 (by simp; omega) lo9)
        have O9 := Lib.hid ow9
        clear hr9 ow9 gr9 lo9
        go_wp2_with (at_builtin; refine Lib.wpList_append_run _ rfl _ _ _ _ rfl _ _ rfl rfl _ _ hr9' ?_)
        go_roundw
        case rel => exact ⟨k + 1, true, _, by go_num, rfl, by omega, O9, RQ, B9⟩
        case measure => simp [intOf]; omega
      | false =>
        by_cases hg : id < y0
        · have RK := Lib.hid (rest_now pl (id, c) _ k hlt hp hg)
          have RQ := Lib.hid (show ws = ((ks ++ [(id, c)]) ++ [(y0, y1)]) ++ restL pl (id, c) true (k + 1) by rw [RW.out, RK.out]; simp)
          clear hlt hp
          have hg' : y0 > id := hg
          have KS := Lib.hid (And.intro (KX.out _ BD.out) (CX.out _ BD.out))
          clear RK RW OW
          go_wp2_with fail
          refine wp_region_held_drew (S := fun W => (w.heap.size < W.heap.size ∧ W.cell? ⟨w.heap.size, 0, none⟩ = some (.int .i64 id) ∧ W.cell? ⟨w.heap.size, 1, none⟩ = some (.int .i64 c)) ∧ cb < W.heap.size ∧ W.cell? ⟨cb, co + k * 2, none⟩ = some (.int .i64 y0) ∧ W.cell? ⟨cb, co + k * 2 + 1, none⟩ = some (.int .i64 y1)) (by kernel_rfl) ?_ (fun hHeld => ?_)
          · exact KS.out
          refine wpAnyH_take (i := 0) (oi := _) (v := ?_) rfl (by kernel_rfl) (by kernel_rfl) (by kernel_rfl) (fun _ _ _ h => h) (Or.inl ⟨by rfl, ?_⟩) (by assumption) ?_
          rotate_left
          · first | (intro w hSw; (try dsimp only at hSw); go_simp; done) | (intro w hSw; (try dsimp only at hSw); go_simp; with_reducible rfl)
          try simp only [Act.put, List.setIfInBounds_toArray, List.set_cons_zero, List.set_cons_succ, List.getElem_toArray, List.getElem_cons_zero]
          refine wpAnyH_take (i := 1) (oi := _) (v := ?_) rfl (by kernel_rfl) (by kernel_rfl) (by kernel_rfl) (fun _ _ _ h => h) (Or.inl ⟨by rfl, ?_⟩) (by assumption) ?_
          rotate_left
          · first | (intro w hSw; (try dsimp only at hSw); go_simp; done) | (intro w hSw; (try dsimp only at hSw); go_simp; with_reducible rfl)
          try simp only [Act.put, List.setIfInBounds_toArray, List.set_cons_zero, List.set_cons_succ, List.getElem_toArray, List.getElem_cons_succ, List.getElem_cons_zero]
          refine wpAnyH_take (i := 2) (oi := _) (v := ?_) rfl (by kernel_rfl) (by kernel_rfl) (by kernel_rfl) (fun _ _ _ h => h) (Or.inl ⟨by rfl, ?_⟩) (by assumption) ?_
          rotate_left
          · first | (intro w hSw; (try dsimp only at hSw); go_simp; done) | (intro w hSw; (try dsimp only at hSw); go_simp; with_reducible rfl)
          try simp only [Act.put, List.setIfInBounds_toArray, List.set_cons_zero, List.set_cons_succ, List.getElem_toArray, List.getElem_cons_succ, List.getElem_cons_zero]
          refine wpAnyH_take (i := 3) (oi := _) (v := ?_) rfl (by kernel_rfl) (by kernel_rfl) (by kernel_rfl) (fun _ _ _ h => h) (Or.inl ⟨by rfl, ?_⟩) (by assumption) ?_
          rotate_left
          · first | (intro w hSw; (try dsimp only at hSw); go_simp; done) | (intro w hSw; (try dsimp only at hSw); go_simp; with_reducible rfl)
          try simp only [Act.put, List.setIfInBounds_toArray, List.set_cons_zero, List.set_cons_succ, List.getElem_toArray, List.getElem_cons_succ, List.getElem_cons_zero]
          refine wpAnyH_take (i := 4) (oi := _) (v := ?_) rfl (by kernel_rfl) (by kernel_rfl) (by kernel_rfl) (fun _ _ _ h => h) (Or.inl ⟨by rfl, ?_⟩) (by assumption) ?_
          rotate_left
          · first | (intro w hSw; (try dsimp only at hSw); go_simp; done) | (intro w hSw; (try dsimp only at hSw); go_simp; with_reducible rfl)
          try simp only [Act.put, List.setIfInBounds_toArray, List.set_cons_zero, List.set_cons_succ, List.getElem_toArray, List.getElem_cons_succ, List.getElem_cons_zero]
          refine wpAnyH_take (i := 5) (oi := _) (v := ?_) rfl (by kernel_rfl) (by kernel_rfl) (by kernel_rfl) (fun _ _ _ h => h) (Or.inl ⟨by rfl, ?_⟩) (by assumption) ?_
          rotate_left
          · first | (intro w hSw; (try dsimp only at hSw); go_simp; done) | (intro w hSw; (try dsimp only at hSw); go_simp; with_reducible rfl)
          try simp only [Act.put, List.setIfInBounds_toArray, List.set_cons_zero, List.set_cons_succ, List.getElem_toArray, List.getElem_cons_succ, List.getElem_cons_zero]
          refine wpAnyH_take (i := 6) (oi := _) (v := ?_) rfl (by kernel_rfl) (by kernel_rfl) (by kernel_rfl) (fun _ _ _ h => h) (Or.inl ⟨by rfl, ?_⟩) (by assumption) ?_
          rotate_left
          · first | (intro w hSw; (try dsimp only at hSw); go_simp; done) | (intro w hSw; (try dsimp only at hSw); go_simp; with_reducible rfl)
          try simp only [Act.put, List.setIfInBounds_toArray, List.set_cons_zero, List.set_cons_succ, List.getElem_toArray, List.getElem_cons_succ, List.getElem_cons_zero]
          refine wpAnyH_take (i := 7) (oi := _) (v := ?_) rfl (by kernel_rfl) (by kernel_rfl) (by kernel_rfl) (fun _ _ _ h => h) (Or.inl ⟨by rfl, ?_⟩) (by assumption) ?_
          rotate_left
          · first | (intro w hSw; (try dsimp only at hSw); go_simp; done) | (intro w hSw; (try dsimp only at hSw); go_simp; with_reducible rfl)
          try simp only [Act.put, List.setIfInBounds_toArray, List.set_cons_zero, List.set_cons_succ, List.getElem_toArray, List.getElem_cons_succ, List.getElem_cons_zero]
          refine wpAnyH_take (i := 8) (oi := _) (v := ?_) rfl (by kernel_rfl) (by kernel_rfl) (by kernel_rfl) (fun _ _ _ h => h) (Or.inl ⟨by rfl, ?_⟩) (by assumption) ?_
          rotate_left
          · first | (intro w hSw; (try dsimp only at hSw); go_simp; done) | (intro w hSw; (try dsimp only at hSw); go_simp; with_reducible rfl)
          try simp only [Act.put, List.setIfInBounds_toArray, List.set_cons_zero, List.set_cons_succ, List.getElem_toArray, List.getElem_cons_succ, List.getElem_cons_zero]
          refine wpAnyH_take (i := 9) (oi := _) (v := ?_) rfl (by kernel_rfl) (by kernel_rfl) (by kernel_rfl) (fun _ _ _ h => h) (Or.inl ⟨by rfl, ?_⟩) (by assumption) ?_
          rotate_left
          · first | (intro w hSw; (try dsimp only at hSw); go_simp; done) | (intro w hSw; (try dsimp only at hSw); go_simp; with_reducible rfl)
          try simp only [Act.put, List.setIfInBounds_toArray, List.set_cons_zero, List.set_cons_succ, List.getElem_toArray, List.getElem_cons_succ, List.getElem_cons_zero]
          refine wpAnyH_take (i := 10) (oi := _) (v := ?_) rfl (by kernel_rfl) (by kernel_rfl) (by kernel_rfl) (fun _ _ _ h => h) (Or.inl ⟨by rfl, ?_⟩) (by assumption) ?_
          rotate_left
          · first | (intro w hSw; (try dsimp only at hSw); go_simp; done) | (intro w hSw; (try dsimp only at hSw); go_simp; with_reducible rfl)
          try simp only [Act.put, List.setIfInBounds_toArray, List.set_cons_zero, List.set_cons_succ, List.getElem_toArray, List.getElem_cons_succ, List.getElem_cons_zero]
          refine wpAnyH_take (i := 11) (oi := _) (v := ?_) rfl (by kernel_rfl) (by kernel_rfl) (by kernel_rfl) (fun _ _ _ h => h) (Or.inl ⟨by rfl, ?_⟩) (by assumption) ?_
          rotate_left
          · first | (intro w hSw; (try dsimp only at hSw); go_simp; done) | (intro w hSw; (try dsimp only at hSw); go_simp; with_reducible rfl)
          try simp only [Act.put, List.setIfInBounds_toArray, List.set_cons_zero, List.set_cons_succ, List.getElem_toArray, List.getElem_cons_succ, List.getElem_cons_zero]
          refine wpAnyH_done (by kernel_rfl) ?_ _
          clear KS
          generalize wr.drew = wd at *
          obtain ⟨q0, q1, q2⟩ := KX.out _ BD.out
          have s7 := SX.out _ BD.out
          obtain ⟨v7, w7, hr7, ow7, gr7, lo7⟩ := appP (OD.out.alloc (.cells #[.int .i64 id, .int .i64 c] 34)) 1 (pls_one (new_at wd _)) (by simp; omega) (by simp; omega)
          have hr7' := hr7 27
          have B7 := Lib.hid ((bAM BD.out s7 (.cells #[.int .i64 id, .int .i64 c] 34)).grown gr7 (by simp; omega) lo7)
          have O7 := Lib.hid ow7
          clear hr7 ow7 gr7 lo7
          have hkl7 : (ks ++ [(id, c)]).length ≤ n + 2 := by simp; omega
          obtain ⟨e0, e1, e2⟩ := CX.out _ B7.out
          have s9 := SX.out _ B7.out
          obtain ⟨v9, w9, hr9, ow9, gr9, lo9⟩ := appP (O7.out.alloc (.cells #[.int .i64 y0, .int .i64 y1] 34)) 1 (pls_one (new_at w7 _)) (by simp; omega) (by simp; omega)
          have hr9' := hr9 27
          have B9 := Lib.hid ((bAM B7.out s9 (.cells #[.int .i64 y0, .int .i64 y1] 34)).grown gr9 (by simp; omega) lo9)
          have O9 := Lib.hid ow9
          clear hr9 ow9 gr9 lo9
          go_wp2_with (first | (at_builtin; refine Lib.wpList_append_run _ rfl _ _ _ _ rfl _ _ rfl rfl _ _ hr7' ?_) | (at_builtin; refine Lib.wpList_append_run _ rfl _ _ _ _ rfl _ _ rfl rfl _ _ hr9' ?_))
          go_roundw
          case rel => exact ⟨k + 1, true, _, by go_num, rfl, by omega, O9, RQ, B9⟩
          case measure => simp [intOf]; omega
        · have RK := Lib.hid (rest_not pl (id, c) _ k hlt hp hg)
          have RQ := Lib.hid (show ws = (ks ++ [(y0, y1)]) ++ restL pl (id, c) false (k + 1) by rw [RW.out, RK.out]; simp)
          clear hlt hp
          have hg' : ¬ y0 > id := fun h => hg h
          have KS := Lib.hid (And.intro (KX.out _ BD.out) (CX.out _ BD.out))
          clear RK RW OW
          go_wp2_with fail
          refine wp_region_held_drew (S := fun W => (w.heap.size < W.heap.size ∧ W.cell? ⟨w.heap.size, 0, none⟩ = some (.int .i64 id) ∧ W.cell? ⟨w.heap.size, 1, none⟩ = some (.int .i64 c)) ∧ cb < W.heap.size ∧ W.cell? ⟨cb, co + k * 2, none⟩ = some (.int .i64 y0) ∧ W.cell? ⟨cb, co + k * 2 + 1, none⟩ = some (.int .i64 y1)) (by kernel_rfl) ?_ (fun hHeld => ?_)
          · exact KS.out
          refine wpAnyH_take (i := 0) (oi := _) (v := ?_) rfl (by kernel_rfl) (by kernel_rfl) (by kernel_rfl) (fun _ _ _ h => h) (Or.inl ⟨by rfl, ?_⟩) (by assumption) ?_
          rotate_left
          · first | (intro w hSw; (try dsimp only at hSw); go_simp; done) | (intro w hSw; (try dsimp only at hSw); go_simp; with_reducible rfl)
          try simp only [Act.put, List.setIfInBounds_toArray, List.set_cons_zero, List.set_cons_succ, List.getElem_toArray, List.getElem_cons_zero]
          refine wpAnyH_take (i := 1) (oi := _) (v := ?_) rfl (by kernel_rfl) (by kernel_rfl) (by kernel_rfl) (fun _ _ _ h => h) (Or.inl ⟨by rfl, ?_⟩) (by assumption) ?_
          rotate_left
          · first | (intro w hSw; (try dsimp only at hSw); go_simp; done) | (intro w hSw; (try dsimp only at hSw); go_simp; with_reducible rfl)
          try simp only [Act.put, List.setIfInBounds_toArray, List.set_cons_zero, List.set_cons_succ, List.getElem_toArray, List.getElem_cons_succ, List.getElem_cons_zero]
          refine wpAnyH_take (i := 2) (oi := _) (v := ?_) rfl (by kernel_rfl) (by kernel_rfl) (by kernel_rfl) (fun _ _ _ h => h) (Or.inl ⟨by rfl, ?_⟩) (by assumption) ?_
          rotate_left
          · first | (intro w hSw; (try dsimp only at hSw); go_simp; done) | (intro w hSw; (try dsimp only at hSw); go_simp; with_reducible rfl)
          try simp only [Act.put, List.setIfInBounds_toArray, List.set_cons_zero, List.set_cons_succ, List.getElem_toArray, List.getElem_cons_succ, List.getElem_cons_zero]
          refine wpAnyH_take (i := 3) (oi := _) (v := ?_) rfl (by kernel_rfl) (by kernel_rfl) (by kernel_rfl) (fun _ _ _ h => h) (Or.inl ⟨by rfl, ?_⟩) (by assumption) ?_
          rotate_left
          · first | (intro w hSw; (try dsimp only at hSw); go_simp; done) | (intro w hSw; (try dsimp only at hSw); go_simp; with_reducible rfl)
          try simp only [Act.put, List.setIfInBounds_toArray, List.set_cons_zero, List.set_cons_succ, List.getElem_toArray, List.getElem_cons_succ, List.getElem_cons_zero]
          refine wpAnyH_take (i := 4) (oi := _) (v := ?_) rfl (by kernel_rfl) (by kernel_rfl) (by kernel_rfl) (fun _ _ _ h => h) (Or.inl ⟨by rfl, ?_⟩) (by assumption) ?_
          rotate_left
          · first | (intro w hSw; (try dsimp only at hSw); go_simp; done) | (intro w hSw; (try dsimp only at hSw); go_simp; with_reducible rfl)
          try simp only [Act.put, List.setIfInBounds_toArray, List.set_cons_zero, List.set_cons_succ, List.getElem_toArray, List.getElem_cons_succ, List.getElem_cons_zero]
          refine wpAnyH_take (i := 5) (oi := _) (v := ?_) rfl (by kernel_rfl) (by kernel_rfl) (by kernel_rfl) (fun _ _ _ h => h) (Or.inl ⟨by rfl, ?_⟩) (by assumption) ?_
          rotate_left
          · first | (intro w hSw; (try dsimp only at hSw); go_simp; done) | (intro w hSw; (try dsimp only at hSw); go_simp; with_reducible rfl)
          try simp only [Act.put, List.setIfInBounds_toArray, List.set_cons_zero, List.set_cons_succ, List.getElem_toArray, List.getElem_cons_succ, List.getElem_cons_zero]
          refine wpAnyH_take (i := 6) (oi := _) (v := ?_) rfl (by kernel_rfl) (by kernel_rfl) (by kernel_rfl) (fun _ _ _ h => h) (Or.inl ⟨by rfl, ?_⟩) (by assumption) ?_
          rotate_left
          · first | (intro w hSw; (try dsimp only at hSw); go_simp; done) | (intro w hSw; (try dsimp only at hSw); go_simp; with_reducible rfl)
          try simp only [Act.put, List.setIfInBounds_toArray, List.set_cons_zero, List.set_cons_succ, List.getElem_toArray, List.getElem_cons_succ, List.getElem_cons_zero]
          refine wpAnyH_take (i := 7) (oi := _) (v := ?_) rfl (by kernel_rfl) (by kernel_rfl) (by kernel_rfl) (fun _ _ _ h => h) (Or.inl ⟨by rfl, ?_⟩) (by assumption) ?_
          rotate_left
          · first | (intro w hSw; (try dsimp only at hSw); go_simp; done) | (intro w hSw; (try dsimp only at hSw); go_simp; with_reducible rfl)
          try simp only [Act.put, List.setIfInBounds_toArray, List.set_cons_zero, List.set_cons_succ, List.getElem_toArray, List.getElem_cons_succ, List.getElem_cons_zero]
          refine wpAnyH_take (i := 8) (oi := _) (v := ?_) rfl (by kernel_rfl) (by kernel_rfl) (by kernel_rfl) (fun _ _ _ h => h) (Or.inl ⟨by rfl, ?_⟩) (by assumption) ?_
          rotate_left
          · first | (intro w hSw; (try dsimp only at hSw); go_simp; done) | (intro w hSw; (try dsimp only at hSw); go_simp; with_reducible rfl)
          try simp only [Act.put, List.setIfInBounds_toArray, List.set_cons_zero, List.set_cons_succ, List.getElem_toArray, List.getElem_cons_succ, List.getElem_cons_zero]
          refine wpAnyH_take (i := 9) (oi := _) (v := ?_) rfl (by kernel_rfl) (by kernel_rfl) (by kernel_rfl) (fun _ _ _ h => h) (Or.inl ⟨by rfl, ?_⟩) (by assumption) ?_
          rotate_left
          · first | (intro w hSw; (try dsimp only at hSw); go_simp; done) | (intro w hSw; (try dsimp only at hSw); go_simp; with_reducible rfl)
          try simp only [Act.put, List.setIfInBounds_toArray, List.set_cons_zero, List.set_cons_succ, List.getElem_toArray, List.getElem_cons_succ, List.getElem_cons_zero]
          refine wpAnyH_take (i := 10) (oi := _) (v := ?_) rfl (by kernel_rfl) (by kernel_rfl) (by kernel_rfl) (fun _ _ _ h => h) (Or.inl ⟨by rfl, ?_⟩) (by assumption) ?_
          rotate_left
          · first | (intro w hSw; (try dsimp only at hSw); go_simp; done) | (intro w hSw; (try dsimp only at hSw); go_simp; with_reducible rfl)
          try simp only [Act.put, List.setIfInBounds_toArray, List.set_cons_zero, List.set_cons_succ, List.getElem_toArray, List.getElem_cons_succ, List.getElem_cons_zero]
          refine wpAnyH_take (i := 11) (oi := _) (v := ?_) rfl (by kernel_rfl) (by kernel_rfl) (by kernel_rfl) (fun _ _ _ h => h) (Or.inl ⟨by rfl, ?_⟩) (by assumption) ?_
          rotate_left
          · first | (intro w hSw; (try dsimp only at hSw); go_simp; done) | (intro w hSw; (try dsimp only at hSw); go_simp; with_reducible rfl)
          try simp only [Act.put, List.setIfInBounds_toArray, List.set_cons_zero, List.set_cons_succ, List.getElem_toArray, List.getElem_cons_succ, List.getElem_cons_zero]
          refine wpAnyH_done (by kernel_rfl) ?_ _
          clear KS
          generalize wr.drew = wd at *
          obtain ⟨e0, e1, e2⟩ := CX.out _ BD.out
          have s9 := SX.out _ BD.out
          obtain ⟨v9, w9, hr9, ow9, gr9, lo9⟩ := appP (OD.out.alloc (.cells #[.int .i64 y0, .int .i64 y1] 34)) 1 (pls_one (new_at wd _)) (by simp; omega) (by simp; omega)
          have hr9' := hr9 27
          have B9 := Lib.hid ((bAM BD.out s9 (.cells #[.int .i64 y0, .int .i64 y1] 34)).grown gr9 (by simp; omega) lo9)
          have O9 := Lib.hid ow9
          clear hr9 ow9 gr9 lo9
          go_wp2_with (at_builtin; refine Lib.wpList_append_run _ rfl _ _ _ _ rfl _ _ rfl rfl _ _ hr9' ?_)
          go_roundw
          case rel => exact ⟨k + 1, false, _, by go_num, rfl, by omega, O9, RQ, B9⟩
          case measure => simp [intOf]; omega
    · have h1' : ¬ (k : Int) < (n : Int) := by omega
      have RE' := Lib.hid (RE.out b k (by omega))
      cases b with
      | true =>
        have F := Lib.hid (show ws = ks by rw [RW.out, RE'.out]; simp)
        have OF := Lib.hid (own_mono OW.out (show w.heap.size ≤ w.heap.size + 1 by omega))
        rw [← F.out] at OF
        have BF := Lib.hid (BX.out _ BW.out)
        clear F RW OW RE'
        go_wp2
        go_ret
        exact ⟨_, rfl, OF.out, BF.out⟩
      | false =>
        have F := Lib.hid (show ws = ks ++ [(id, c)] by rw [RW.out, RE'.out]; simp)
        obtain ⟨q0, q1, q2⟩ := KX.out _ BW.out
        have s7 := SX.out _ BW.out
        obtain ⟨v7, w7, hr7, ow7, gr7, lo7⟩ := appP (OW.out.alloc (.cells #[.int .i64 id, .int .i64 c] 34)) 1 (pls_one (new_at wr _)) (by simp; omega) (by simp; omega)
        have hr7' := hr7 27
        have B7 := Lib.hid ((bAM BW.out s7 (.cells #[.int .i64 id, .int .i64 c] 34)).grown gr7 (by simp; omega) lo7)
        have OF : Hid (w7.ownsRow w.heap.size 34 2 v7 ws.length (enCells ws)) := by
          show w7.ownsRow _ _ _ _ _ _
          rw [F.out]; exact own_mono ow7 (by omega)
        have BF := Lib.hid (BX.out _ B7.out)
        clear hr7 ow7 gr7 lo7 F RW OW RE' B7
        go_wp2_with (at_builtin; refine Lib.wpList_append_run _ rfl _ _ _ _ rfl _ _ rfl rfl _ _ hr7' ?_)
        go_ret
        exact ⟨_, rfl, OF.out, BF.out⟩

end Go.Proofs.Ytdmfljejlhlbnaa
namespace Go.Proofs.Ytdmfljejlhlbnaa
open Go.RowKit
set_option linter.unusedVariables false

theorem own_row2 {w : World} {B : Nat} {v : Value} {pl : List LPl} (h : w.ownsRow B 34 2 v pl.length (enCells pl)) : ∃ s k, v = .slice s pl.length k ∧ Pls w s pl := by
  obtain ⟨s, k, e, h⟩ := own_pls h
  refine ⟨s, k, e, ?_⟩
  rcases h with h | ⟨c, e, h, _⟩
  · exact .inl h
  · exact .inr ⟨c, 0, e, h⟩
/-- An empty answer, just made. -/
theorem own_empty {w W : World} (h : Below w.heap.size w W) : (W.alloc (.cells #[] 34)).ownsRow w.heap.size 34 2 (.slice (some ⟨W.heap.size, 0, none⟩) 0 0) ([] : List LPl).length (enCells []) ∧ Below w.heap.size w (W.alloc (.cells #[] 34)) :=
  ⟨own_mono (own_none2 W) h.size, bA h _⟩

set_option maxRecDepth 100000 in
set_option maxHeartbeats 8000000 in
/-- spec.PlanAdd. -/
theorem spa_any (sl : Option Addr) (cap : Nat) (sl2 : Option Addr) (cap2 : Nat) (sl3 : Option Addr) (cap3 : Nat) (rs : List LSt) (ps : List LPr) (pl : List LPl) (top id : Int) (w : World) (hn : rs.length ≤ 1048576) (hl : pl.length ≤ 1048576) (hz : Sts w sl rs) (hp : Prs w sl2 ps) (hi : Pls w sl3 pl) :
    Calls Try.prog 15 #[TV sl rs.length cap sl2 ps.length cap2, .int .i64 top, .slice sl3 pl.length cap3, .int .i64 id] w fun e w' => ∃ v, e = .returned v ∧ w'.ownsRow w.heap.size 34 2 v (addA rs ps top pl id).length (enCells (addA rs ps top pl id)) ∧ Below w.heap.size w w' := by
  have HT := Lib.hid (TabAt.new w sl rs.length cap sl2 ps.length cap2)
  have B0 := Lib.hid (bA0 w (.cells #[.slice sl rs.length cap, .slice sl2 ps.length cap2] 26))
  have E1 := Lib.hid (spr_any sl cap sl2 cap2 sl3 cap3 rs ps pl top _ hn hl (hz.below B0.out) (hp.below B0.out) (hi.below B0.out))
  have EE := Lib.hid (fun W (h : Below w.heap.size w W) => own_empty h)
  obtain ⟨t0, t1⟩ := HT.out.cells
  have tl := HT.out.lt
  by_cases c1 : planB rs ps top pl = true
  · rw [c1] at E1
    have ok := (planB_ok rs ps top pl).1 c1
    have TR := ok.ids.2.1
    have E2 : Hid (∀ W, Below w.heap.size w W → Calls Try.prog 24 #[.slice sl3 pl.length cap3] W fun e w' => ∃ v, e = .returned v ∧ w'.ownsRow W.heap.size 2 1 v (pidsL pl).length (valsZ (pidsL pl)) ∧ Below W.heap.size W w') := fun W hW => by
      have := spi_any sl3 cap3 pl W (by unfold maxLen; omega) (hi.below hW)
      rwa [show pidsA pl = pidsL pl from if_pos ok.ln] at this
    have E3 : Hid (∀ s k W, Ints W s (pidsL pl) → Calls Try.prog 68 #[.slice s (pidsL pl).length k, .int .i64 id] W fun e w' => e = .returned (.bool (B (id ∈ pidsL pl))) ∧ w' = W) := fun s k W hi' => lh_any s k (pidsL pl) id W (by rw [pidsL_len]; unfold maxLen; omega) hi'
    have OI := Lib.hid (fun B v (W : World) (o : W.ownsRow B 2 1 v (pidsL pl).length (valsZ (pidsL pl))) => own_ints o)
    by_cases c2 : id ∈ pidsL pl
    · rw [addA_no (fun g => g.2 c2)]
      rw [B_yes c2] at E3
      clear hz hp hi c1 ok TR c2 hn hl
      generalize rs.length = rn at *
      generalize ps.length = pq at *
      generalize pl.length = pn at *
      generalize pidsL pl = pd at *
      go_enter Try.func15, Try.ntmps15
      go_wp2_with fail
      refine E1.out.mono ?_
      rintro e w1 ⟨rfl, b1⟩
      have D1 := Lib.hid (bT B0.out b1)
      clear b1 E1 HT B0 t0 t1 tl
      go_wp2_with fail
      refine (E2.out _ D1.out).mono ?_
      rintro e w2 ⟨v2, rfl, o2, b2⟩
      have D2 := Lib.hid (bT D1.out b2)
      obtain ⟨s2, k2, rfl, i2⟩ := OI.out _ _ _ o2
      have T3 := Lib.hid (E3.out s2 k2 w2 i2)
      clear b2 o2 i2 E2 D1 E3
      go_wp2_with fail
      refine T3.out.mono ?_
      rintro e w3 ⟨rfl, rfl⟩
      have FF := Lib.hid (EE.out _ D2.out)
      clear T3
      go_wp2
      go_ret
      exact ⟨_, rfl, FF.out.1, FF.out.2⟩
    rw [addA_yes ⟨c1, c2⟩]
    rw [B_no c2] at E3
    have E5 : Hid (∀ W, Below w.heap.size w W → Calls Try.prog 69 #[TV sl rs.length cap sl2 ps.length cap2, .int .i64 id, .int .i64 top] W fun e w' => ∃ v, e = .returned v ∧ w'.ownsRow W.heap.size 2 1 v (rs.flatMap (domF id top)).length (valsZ (rs.flatMap (domF id top))) ∧ Below W.heap.size W w') := fun W hW => by
      have := sdo_any sl cap sl2 cap2 rs ps id top W hn (hz.below hW) (hp.below hW)
      rwa [show domA rs ps id top = rs.flatMap (domF id top) by unfold domA; rw [B_yes TR]; rfl] at this
    have hl12 : pl.length ≤ 12 := by have := ids_few ok.ids; rwa [pidsL_len] at this
    have E6 : Hid (∀ W c, Below w.heap.size w W → Calls Try.prog 70 #[.slice sl3 pl.length cap3, .agg #[.int .i64 id, .int .i64 c]] W fun e w' => ∃ v, e = .returned v ∧ w'.ownsRow W.heap.size 34 2 v (withL pl (id, c)).length (enCells (withL pl (id, c))) ∧ Below W.heap.size W w') := fun W c hW => wi_any sl3 cap3 pl id c W (by omega) (hi.below hW)
    have E7 : Hid (∀ W c s k, Below w.heap.size w W → c ∈ rs.flatMap (domF id top) → Pls W s (withL pl (id, c)) → Calls Try.prog 22 #[TV sl rs.length cap sl2 ps.length cap2, .int .i64 top, .slice s (withL pl (id, c)).length k] W fun e w' => e = .returned (.bool (fitB ps pl (id, c))) ∧ Below W.heap.size W w') := fun W c s k hW hc hs => by
      have := spr_any sl cap sl2 cap2 s k rs ps (withL pl (id, c)) top W hn (by rw [withL_len]; omega) (hz.below hW) (hp.below hW) hs
      rwa [add_iff ok c2 hc] at this
    have DL := dom_le rs ps id top TR
    have DM := Lib.hid (show ∀ k, k < (rs.flatMap (domF id top)).length → (rs.flatMap (domF id top)).getD k 0 ∈ rs.flatMap (domF id top) from fun k hk => getD_mem hk)
    clear hz hp hi c1 c2 ok TR hn hl hl12
    generalize hDS : rs.flatMap (domF id top) = ds at *
    clear hDS
    have AS := Lib.hid (fun k (h : k < ds.length) => addL_step ps pl id ds k h)
    have AE := Lib.hid (fun k (h : ds.length ≤ k) => addL_end ps pl id ds k h)
    have A0 := Lib.hid (show addL ps pl id (ds.drop 0) = addL ps pl id ds by simp)
    generalize hR : addL ps pl id ds = R at *
    clear hR
    have DI := Lib.hid (fun B v (W : World) (o : W.ownsRow B 2 1 v ds.length (valsZ ds)) => own_ints o)
    generalize hDN : ds.length = dn at *
    have HDN := Lib.hid hDN
    clear hDN
    generalize rs.length = rn at *
    generalize ps.length = pq at *
    generalize hPN : pl.length = pn at *
    clear hPN
    go_enter Try.func15, Try.ntmps15
    go_wp2_with fail
    refine E1.out.mono ?_
    rintro e w1 ⟨rfl, b1⟩
    have D1 := Lib.hid (bT B0.out b1)
    have T1 := Lib.hid (HT.out.below b1)
    clear b1 E1 HT B0 t0 t1 tl
    go_wp2_with fail
    refine (E2.out _ D1.out).mono ?_
    rintro e w2 ⟨v2, rfl, o2, b2⟩
    have D2 := Lib.hid (bT D1.out b2)
    have T2 := Lib.hid (T1.out.below b2)
    obtain ⟨s2, k2, rfl, i2⟩ := OI.out _ _ _ o2
    have C3 := Lib.hid (E3.out s2 k2 w2 i2)
    clear b2 o2 i2 E2 D1 E3 T1 OI
    obtain ⟨t0, t1⟩ := T2.out.cells
    have tl := T2.out.lt
    go_wp2_with fail
    refine C3.out.mono ?_
    rintro e w3 ⟨rfl, rfl⟩
    clear C3
    go_wp2_with fail
    refine (E5.out _ D2.out).mono ?_
    rintro e w5 ⟨v5, rfl, o5, b5⟩
    have D5 := Lib.hid (bT D2.out b5)
    have T5 := Lib.hid (T2.out.below b5)
    obtain ⟨s5, k5, rfl, i5⟩ := DI.out _ _ _ o5
    have I5 := Lib.hid i5
    clear b5 o5 i5 D2 T2 t0 t1 tl E5 DI
    go_wp2
    go_loopw [10] (fun i wr => ∃ k : Nat, i = .int .i64 k ∧ k ≤ dn ∧ Hid (addL ps pl id (ds.drop k) = R) ∧ Hid (Below w5.heap.size w5 wr)) (fun i _ => dn - (intOf i).toNat)
    case atStart => exact ⟨0, rfl, Nat.zero_le _, A0, Below.refl _ _⟩
    case round =>
      obtain ⟨k, rfl, hk, HA, HB⟩ := hrel
      have hk0 : (0 : Int) ≤ (k : Int) := by omega
      have DW := Lib.hid (bT D5.out HB.out)
      by_cases h1 : k < dn
      · have h1' : (k : Int) < (dn : Int) := by omega
        have hlt : k < ds.length := by rw [HDN.out]; exact h1
        obtain ⟨cb, co, rfl, ZI⟩ : ∃ cb co, s5 = some ⟨cb, co, none⟩ ∧ IntsAt w5 cb co ds := by
          rcases I5.out with e | h
          · rw [e] at hlt; simp at hlt
          · exact h
        have hcell : wr.cell? ⟨cb, co + k, none⟩ = some (.int .i64 (ds.getD k 0)) := (HB.out.cell (p := ⟨cb, co + k, none⟩) ZI.1).trans (ZI.2 k hlt)
        have TW := Lib.hid (T5.out.below HB.out)
        have CF := Lib.hid (E6.out wr (ds.getD k 0) DW.out)
        have ASK := Lib.hid (AS.out k h1)
        have CM := Lib.hid (DM.out k h1)
        clear hlt ZI
        generalize ds.getD k 0 = c at *
        have E8 := Lib.hid (fun W s k (h1 : Below w.heap.size w W) (h2 : Pls W s (withL pl (id, c))) => E7.out W c s k h1 CM.out h2)
        have OR := Lib.hid (fun B v (W : World) (o : W.ownsRow B 34 2 v (withL pl (id, c)).length (enCells (withL pl (id, c)))) => own_row2 o)
        clear AS
        by_cases hf : fitB ps pl (id, c) = true
        · have ER := Lib.hid (show R = withL pl (id, c) by rw [← HA.out, ASK.out, if_pos hf])
          rw [hf] at E8
          generalize withL pl (id, c) = ws at *
          clear ASK HA AE E7
          generalize hWN : ws.length = wn at *
          have HWN := Lib.hid hWN
          clear hWN
          go_wp2_with fail
          refine CF.out.mono ?_
          rintro e w7 ⟨v7, rfl, o7, b7⟩
          have D7 := Lib.hid (bT DW.out b7)
          have T7 := Lib.hid (TW.out.below b7)
          have O7 := Lib.hid o7
          obtain ⟨s7, k7, rfl, p7⟩ := OR.out _ _ _ o7
          have C8 := Lib.hid (E8.out w7 s7 k7 D7.out p7)
          have W7 := Lib.hid DW.out.size
          clear b7 o7 p7 CF E8 TW DW OR
          obtain ⟨t0, t1⟩ := T7.out.cells
          have tl := T7.out.lt
          go_wp2_with fail
          refine C8.out.mono ?_
          rintro e w8 ⟨rfl, b8⟩
          have D8 := Lib.hid (bT D7.out b8)
          have O8 := Lib.hid (own_mono (own_below O7.out b8) W7.out)
          clear b8 C8 t0 t1 tl T7 D7 O7
          go_wp2
          go_ret
          exact ⟨_, rfl, by rw [ER.out, HWN.out]; exact O8.out, D8.out⟩
        · have HA2 := Lib.hid (show addL ps pl id (ds.drop (k + 1)) = R by rw [← HA.out, ASK.out, if_neg hf])
          rw [Bool.not_eq_true] at hf
          rw [hf] at E8
          generalize withL pl (id, c) = ws at *
          clear ASK HA AE E7
          generalize hWN : ws.length = wn at *
          clear hWN
          go_wp2_with fail
          refine CF.out.mono ?_
          rintro e w7 ⟨v7, rfl, o7, b7⟩
          have D7 := Lib.hid (bT DW.out b7)
          have F7 := Lib.hid (bT HB.out b7)
          have T7 := Lib.hid (TW.out.below b7)
          obtain ⟨s7, k7, rfl, p7⟩ := OR.out _ _ _ o7
          have C8 := Lib.hid (E8.out w7 s7 k7 D7.out p7)
          clear b7 o7 p7 CF E8 TW DW OR HB
          obtain ⟨t0, t1⟩ := T7.out.cells
          have tl := T7.out.lt
          go_wp2_with fail
          refine C8.out.mono ?_
          rintro e w8 ⟨rfl, b8⟩
          have F8 := Lib.hid (bT F7.out b8)
          clear b8 C8 t0 t1 tl T7 D7 F7
          go_wp2
          go_roundw
          case rel => exact ⟨k + 1, by go_num, by omega, HA2, F8⟩
          case measure => simp [intOf]; omega
      · have h1' : ¬ (k : Int) < (dn : Int) := by omega
        have ER := Lib.hid (show R = [] by rw [← HA.out, AE.out k (by omega)])
        have FF := Lib.hid (EE.out _ DW.out)
        clear HA AE AS
        go_wp2
        go_ret
        exact ⟨_, rfl, by rw [ER.out]; exact FF.out.1, FF.out.2⟩
  · rw [addA_no (fun g => c1 g.1)]
    rw [Bool.not_eq_true] at c1
    rw [c1] at E1
    clear hz hp hi c1 hn hl
    generalize rs.length = rn at *
    generalize ps.length = pq at *
    generalize pl.length = pn at *
    go_enter Try.func15, Try.ntmps15
    go_wp2_with fail
    refine E1.out.mono ?_
    rintro e w1 ⟨rfl, b1⟩
    have D1 := Lib.hid (bT B0.out b1)
    have FF := Lib.hid (EE.out _ D1.out)
    clear b1 E1 HT B0 t0 t1 tl
    go_wp2
    go_ret
    exact ⟨_, rfl, FF.out.1, FF.out.2⟩

end Go.Proofs.Ytdmfljejlhlbnaa
