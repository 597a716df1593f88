/-
  WHAT IS OFFERED NEXT: both sides.
-/
import Derived.Test.YtkbjhoepbcnjjaaCk
namespace Go.Proofs.Ytkbjhoepbcnjjaa
open Go.RowKit
set_option linter.unusedVariables false

/-- The price behind the next round. -/
def nxt (pr st : Int) : Int := if pr - st < 0 then 0 else pr - st
theorem nxt_bnd {pr st : Int} (h1 : 0 ≤ pr ∧ pr ≤ 1000000) (h2 : 1 ≤ st ∧ st ≤ 1000000) : 0 ≤ nxt pr st ∧ nxt pr st ≤ 1000000 := by
  unfold nxt
  split <;> omega
theorem mul_bnd {a b : Int} (h1 : 0 ≤ a ∧ a ≤ 1000) (h2 : 0 ≤ b ∧ b ≤ 1000000) : 0 ≤ a * b ∧ a * b ≤ 1000000000 := by
  refine ⟨Int.mul_nonneg h1.1 h2.1, ?_⟩
  calc a * b ≤ 1000 * b := Int.mul_le_mul_of_nonneg_right h1.2 h2.1
    _ ≤ 1000 * 1000000 := Int.mul_le_mul_of_nonneg_left h2.2 (by omega)
    _ = 1000000000 := by decide
theorem wrap_small {x : Int} (h : -1000000000000 ≤ x ∧ x ≤ 1000000000000) : IntKind.i64.wrap x = x := by
  rw [IntKind.wrap_i64]
  omega
set_option maxHeartbeats 1000000 in
/-- nextPrice. -/
theorem nx_any (sl : Option Addr) (n cap : Nat) (tl : Option Addr) (m kap : Nat) (top pr st bu : Int) (bl : Option Addr) (q cb : Nat) (pl : Option Addr) (p cp : Nat) (w : World) (h1 : 0 ≤ pr ∧ pr ≤ 1000000) (h2 : 1 ≤ st ∧ st ≤ 1000000) :
    Calls Try.prog 61 #[CV sl n cap tl m kap top pr st bu bl q cb pl p cp] w fun e w' => e = .returned (.int .i64 (nxt pr st)) ∧ Below w.heap.size w w' := by
  obtain ⟨a1, a2⟩ := h1
  obtain ⟨a3, a4⟩ := h2
  unfold nxt
  by_cases h : pr - st < 0
  · rw [if_pos h]
    have hm : max (pr - st) 0 = 0 := by omega
    go_enter Try.func61, Try.ntmps61
    go_wp2
    go_ret
    exact ⟨rfl, bA0 _ _⟩
  · rw [if_neg h]
    have hm : max (pr - st) 0 = pr - st := by omega
    go_enter Try.func61, Try.ntmps61
    go_wp2
    go_ret
    exact ⟨rfl, bA0 _ _⟩
/-- l01Max of 0. -/
theorem mx_any (x : Int) (w : World) : Calls Try.prog 60 #[.int .i64 0, .int .i64 x] w fun e w' => e = .returned (.int .i64 (if x < 0 then 0 else x)) ∧ w' = w := by
  by_cases h : x < 0
  · rw [if_pos h]
    go_enter Try.func60, Try.ntmps60
    go_wp2
    go_ret
    exact ⟨rfl, rfl⟩
  · rw [if_neg h]
    go_enter Try.func60, Try.ntmps60
    go_wp2
    go_ret
    exact ⟨rfl, rfl⟩

set_option maxRecDepth 100000 in
set_option maxHeartbeats 2000000 in
/-- offerAt. -/
theorem oa_any (c o cap : Nat) (tl : Option Addr) (m kap : Nat) (top pr st bu : Int) (bl : Option Addr) (q cb : Nat) (pl : Option Addr) (p cp : Nat) (rs : List LSt) (k : Nat) (sc : Int) (w : World) (hn : rs.length ≤ 1048576) (hz : StAt w c o rs) (hk : k < rs.length) (hsc : rs[k].2.1 = sc) (h0 : 0 ≤ sc ∧ sc ≤ 1000) (h1 : 0 ≤ pr ∧ pr ≤ 1000000) (h2 : 1 ≤ st ∧ st ≤ 1000000) :
    Calls Try.prog 40 #[CV (some ⟨c, o, none⟩) rs.length cap tl m kap top pr st bu bl q cb pl p cp, .int .i64 k] w fun e w' => e = .returned (.int .i64 (sc * nxt pr st)) ∧ Below w.heap.size w w' := by
  have E := Lib.hid (fun W => nx_any (some ⟨c, o, none⟩) rs.length cap tl m kap top pr st bu bl q cb pl p cp W h1 h2)
  have hwm := wrap_small (x := sc * nxt pr st) (by have := mul_bnd h0 (nxt_bnd h1 h2); omega)
  have hc := (hz.cell k hk).2.1
  have zl := hz.lt
  rw [hsc] at hc
  have hk1 : (k : Int) < (rs.length : Int) := by omega
  have hk0 : (0 : Int) ≤ (k : Int) := by omega
  clear hz hsc hk h0 h1 h2
  generalize nxt pr st = x at *
  generalize rs.length = n at *
  have B0 := Lib.hid (bA0 w (.cells (CC (some ⟨c, o, none⟩) n cap tl m kap top pr st bu bl q cb pl p cp) 39))
  have N0 := Lib.hid (new_at w (.cells (CC (some ⟨c, o, none⟩) n cap tl m kap top pr st bu bl q cb pl p cp) 39))
  have KX : Hid (∀ W, Below (w.heap.size + 1) (w.alloc (.cells (CC (some ⟨c, o, none⟩) n cap tl m kap top pr st bu bl q cb pl p cp) 39)) W → (w.heap.size < W.heap.size ∧ W.cell? ⟨w.heap.size, 0, none⟩ = some (.slice (some ⟨c, o, none⟩) n cap) ∧ W.cell? ⟨w.heap.size, 1, none⟩ = some (.slice tl m kap) ∧ W.cell? ⟨w.heap.size, 2, none⟩ = some (.int .i64 top) ∧ W.cell? ⟨w.heap.size, 3, none⟩ = some (.int .i64 pr) ∧ W.cell? ⟨w.heap.size, 4, none⟩ = some (.int .i64 st) ∧ W.cell? ⟨w.heap.size, 5, none⟩ = some (.int .i64 bu) ∧ W.cell? ⟨w.heap.size, 6, none⟩ = some (.slice bl q cb) ∧ W.cell? ⟨w.heap.size, 7, none⟩ = some (.slice pl p cp)) ∧ c < W.heap.size ∧ W.cell? ⟨c, o + k * 3 + 1, none⟩ = some (.int .i64 sc)) := fun W hW => by
    obtain ⟨c0, c1, c2, c3, c4, c5, c6, c7, cf, cl⟩ := cells8 ((hW.block w.heap.size (by omega)).trans N0.out)
    refine ⟨⟨cl, c0, c1, c2, c3, c4, c5, c6, c7⟩, Nat.lt_trans zl cl, ?_⟩
    rw [hW.cell (p := ⟨c, o + k * 3 + 1, none⟩) (show c < w.heap.size + 1 by omega)]
    exact (B0.out.cell (p := ⟨c, o + k * 3 + 1, none⟩) zl).trans hc
  have hS : (w.alloc (.cells (CC (some ⟨c, o, none⟩) n cap tl m kap top pr st bu bl q cb pl p cp) 39)).heap.size = w.heap.size + 1 := by simp
  clear N0
  go_enter Try.func40, Try.ntmps40
  go_wp2_with fail
  generalize w.alloc (.cells (CC (some ⟨c, o, none⟩) n cap tl m kap top pr st bu bl q cb pl p cp) 39) = wA at *
  refine wp_region_held_drew (S := fun W => (w.heap.size < W.heap.size ∧ W.cell? ⟨w.heap.size, 0, none⟩ = some (.slice (some ⟨c, o, none⟩) n cap) ∧ W.cell? ⟨w.heap.size, 1, none⟩ = some (.slice tl m kap) ∧ W.cell? ⟨w.heap.size, 2, none⟩ = some (.int .i64 top) ∧ W.cell? ⟨w.heap.size, 3, none⟩ = some (.int .i64 pr) ∧ W.cell? ⟨w.heap.size, 4, none⟩ = some (.int .i64 st) ∧ W.cell? ⟨w.heap.size, 5, none⟩ = some (.int .i64 bu) ∧ W.cell? ⟨w.heap.size, 6, none⟩ = some (.slice bl q cb) ∧ W.cell? ⟨w.heap.size, 7, none⟩ = some (.slice pl p cp)) ∧ c < W.heap.size ∧ W.cell? ⟨c, o + k * 3 + 1, none⟩ = some (.int .i64 sc)) (by kernel_rfl) ?_ (fun hHeld => ?_)
  · exact KX.out _ (by rw [← hS]; exact (Below.refl _ _).drew)
  refine wpAnyH_take (i := 0) (oi := _) (v := ?_) rfl (by kernel_rfl) (by kernel_rfl) (by kernel_rfl) (fun _ _ _ h => h) (Or.inl ⟨by rfl, ?_⟩) (by assumption) ?_
  rotate_left
  · first | (intro w hSw; (try dsimp only at hSw); go_simp; done) | (intro w hSw; (try dsimp only at hSw); go_simp; with_reducible rfl)
  try simp only [Act.put, List.setIfInBounds_toArray, List.set_cons_zero, List.set_cons_succ, List.getElem_toArray, List.getElem_cons_zero]
  refine wpAnyH_take (i := 1) (oi := _) (v := ?_) rfl (by kernel_rfl) (by kernel_rfl) (by kernel_rfl) (fun _ _ _ h => h) (Or.inl ⟨by rfl, ?_⟩) (by assumption) ?_
  rotate_left
  · first | (intro w hSw; (try dsimp only at hSw); go_simp; done) | (intro w hSw; (try dsimp only at hSw); go_simp; with_reducible rfl)
  try simp only [Act.put, List.setIfInBounds_toArray, List.set_cons_zero, List.set_cons_succ, List.getElem_toArray, List.getElem_cons_succ, List.getElem_cons_zero]
  refine wpAnyH_take (i := 2) (oi := _) (v := ?_) rfl (by kernel_rfl) (by kernel_rfl) (by kernel_rfl) (fun _ _ _ h => h) (Or.inl ⟨by rfl, ?_⟩) (by assumption) ?_
  rotate_left
  · first | (intro w hSw; (try dsimp only at hSw); go_simp; done) | (intro w hSw; (try dsimp only at hSw); go_simp; with_reducible rfl)
  try simp only [Act.put, List.setIfInBounds_toArray, List.set_cons_zero, List.set_cons_succ, List.getElem_toArray, List.getElem_cons_succ, List.getElem_cons_zero]
  refine wpAnyH_take (i := 3) (oi := _) (v := ?_) rfl (by kernel_rfl) (by kernel_rfl) (by kernel_rfl) (fun _ _ _ h => h) (Or.inl ⟨by rfl, ?_⟩) (by assumption) ?_
  rotate_left
  · first | (intro w hSw; (try dsimp only at hSw); go_simp; done) | (intro w hSw; (try dsimp only at hSw); go_simp; with_reducible rfl)
  try simp only [Act.put, List.setIfInBounds_toArray, List.set_cons_zero, List.set_cons_succ, List.getElem_toArray, List.getElem_cons_succ, List.getElem_cons_zero]
  refine wpAnyH_take (i := 4) (oi := _) (v := ?_) rfl (by kernel_rfl) (by kernel_rfl) (by kernel_rfl) (fun _ _ _ h => h) (Or.inl ⟨by rfl, ?_⟩) (by assumption) ?_
  rotate_left
  · first | (intro w hSw; (try dsimp only at hSw); go_simp; done) | (intro w hSw; (try dsimp only at hSw); go_simp; with_reducible rfl)
  try simp only [Act.put, List.setIfInBounds_toArray, List.set_cons_zero, List.set_cons_succ, List.getElem_toArray, List.getElem_cons_succ, List.getElem_cons_zero]
  refine wpAnyH_take (i := 5) (oi := _) (v := ?_) rfl (by kernel_rfl) (by kernel_rfl) (by kernel_rfl) (fun _ _ _ h => h) (Or.inl ⟨by rfl, ?_⟩) (by assumption) ?_
  rotate_left
  · first | (intro w hSw; (try dsimp only at hSw); go_simp; done) | (intro w hSw; (try dsimp only at hSw); go_simp; with_reducible rfl)
  try simp only [Act.put, List.setIfInBounds_toArray, List.set_cons_zero, List.set_cons_succ, List.getElem_toArray, List.getElem_cons_succ, List.getElem_cons_zero]
  refine wpAnyH_take (i := 6) (oi := _) (v := ?_) rfl (by kernel_rfl) (by kernel_rfl) (by kernel_rfl) (fun _ _ _ h => h) (Or.inl ⟨by rfl, ?_⟩) (by assumption) ?_
  rotate_left
  · first | (intro w hSw; (try dsimp only at hSw); go_simp; done) | (intro w hSw; (try dsimp only at hSw); go_simp; with_reducible rfl)
  try simp only [Act.put, List.setIfInBounds_toArray, List.set_cons_zero, List.set_cons_succ, List.getElem_toArray, List.getElem_cons_succ, List.getElem_cons_zero]
  refine wpAnyH_take (i := 7) (oi := _) (v := ?_) rfl (by kernel_rfl) (by kernel_rfl) (by kernel_rfl) (fun _ _ _ h => h) (Or.inl ⟨by rfl, ?_⟩) (by assumption) ?_
  rotate_left
  · first | (intro w hSw; (try dsimp only at hSw); go_simp; done) | (intro w hSw; (try dsimp only at hSw); go_simp; with_reducible rfl)
  try simp only [Act.put, List.setIfInBounds_toArray, List.set_cons_zero, List.set_cons_succ, List.getElem_toArray, List.getElem_cons_succ, List.getElem_cons_zero]
  refine wpAnyH_ready (rs := [8]) (by kernel_rfl) (by simp) ?_
  refine AllReadyH.cons rfl (fun K hK => ?_) AllReadyH.nil
  go_simp
  go_wp2_with (go_at_call 61; refine (E.out _).mono ?_; rintro e w2 ⟨rfl, b2⟩)
  have F2 : Hid (Below wA.heap.size wA w2) := bT ((Below.refl wA.heap.size wA).drew) b2
  clear b2
  refine hK.out _ _ ?_ (fun hHeld => ?_)
  · exact KX.out _ (by rw [← hS]; exact F2.out)
  clear hK K
  refine wpAnyH_take (i := 9) (oi := _) (v := ?_) rfl (by kernel_rfl) (by kernel_rfl) (by kernel_rfl) (fun _ _ _ h => h) (Or.inl ⟨by rfl, ?_⟩) (by assumption) ?_
  rotate_left
  · first | (intro w hSw; (try dsimp only at hSw); go_simp; done) | (intro w hSw; (try dsimp only at hSw); go_simp; with_reducible rfl)
  try simp only [Act.put, List.setIfInBounds_toArray, List.set_cons_zero, List.set_cons_succ, List.getElem_toArray, List.getElem_cons_succ, List.getElem_cons_zero]
  refine wpAnyH_take (i := 10) (oi := _) (v := ?_) rfl (by kernel_rfl) (by kernel_rfl) (by kernel_rfl) (fun _ _ _ h => h) (Or.inl ⟨by rfl, ?_⟩) (by assumption) ?_
  rotate_left
  · first | (intro w hSw; (try dsimp only at hSw); go_simp; done) | (intro w hSw; (try dsimp only at hSw); go_simp; with_reducible rfl)
  try simp only [Act.put, List.setIfInBounds_toArray, List.set_cons_zero, List.set_cons_succ, List.getElem_toArray, List.getElem_cons_succ, List.getElem_cons_zero]
  refine wpAnyH_done (by kernel_rfl) ?_ _

  go_wp2
  go_ret
  exact ⟨rfl, bT B0.out F2.out⟩

set_option maxRecDepth 100000 in
set_option maxHeartbeats 2000000 in
/-- l12Offer. -/
theorem so_any (c o cap : Nat) (tl : Option Addr) (m kap : Nat) (top pr st bu : Int) (bl : Option Addr) (q cb : Nat) (pl : Option Addr) (p cp : Nat) (rs : List LSt) (k : Nat) (sc : Int) (w : World) (hn : rs.length ≤ 1048576) (hz : StAt w c o rs) (hk : k < rs.length) (hsc : rs[k].2.1 = sc) (h0 : 0 ≤ sc ∧ sc ≤ 1000) (h1 : 0 ≤ pr ∧ pr ≤ 1000000) (h2 : 1 ≤ st ∧ st ≤ 1000000) :
    Calls Try.prog 39 #[CV (some ⟨c, o, none⟩) rs.length cap tl m kap top pr st bu bl q cb pl p cp, .int .i64 k] w fun e w' => e = .returned (.int .i64 (sc * nxt pr st)) ∧ Below w.heap.size w w' := by
  have E : Hid (∀ W, Calls Try.prog 60 #[.int .i64 0, .int .i64 (pr - st)] W fun e w' => e = .returned (.int .i64 (nxt pr st)) ∧ w' = W) := fun W => mx_any (pr - st) W
  have hwm := wrap_small (x := sc * nxt pr st) (by have := mul_bnd h0 (nxt_bnd h1 h2); omega)
  have hws := wrap_small (x := pr - st) (by omega)
  have hc := (hz.cell k hk).2.1
  have zl := hz.lt
  rw [hsc] at hc
  have hk1 : (k : Int) < (rs.length : Int) := by omega
  have hk0 : (0 : Int) ≤ (k : Int) := by omega
  clear hz hsc hk h0 h1 h2
  generalize nxt pr st = x at *
  generalize rs.length = n at *
  have B0 := Lib.hid (bA0 w (.cells (CC (some ⟨c, o, none⟩) n cap tl m kap top pr st bu bl q cb pl p cp) 39))
  have N0 := new_at w (.cells (CC (some ⟨c, o, none⟩) n cap tl m kap top pr st bu bl q cb pl p cp) 39)
  have hc' := (B0.out.cell (p := ⟨c, o + k * 3 + 1, none⟩) zl).trans hc
  obtain ⟨c0, c1, c2, c3, c4, c5, c6, c7, cf, cl⟩ := cells8 N0
  have zl' := Nat.lt_trans zl cl
  clear N0 hc
  go_enter Try.func39, Try.ntmps39
  go_wp2_with fail
  generalize w.alloc (.cells (CC (some ⟨c, o, none⟩) n cap tl m kap top pr st bu bl q cb pl p cp) 39) = wA at *
  go_quiet (first | (go_at_call 60; exact Calls.quiet_of_same (E.out _)))
  go_wp2
  go_ret
  exact ⟨rfl, below_drewN B0.out _⟩

end Go.Proofs.Ytkbjhoepbcnjjaa
