/-
  WHAT IS OFFERED NEXT: both sides.
  WHO STAYS BY ITS VALUE: both sides, over what they say of the values.
  MARKS ON A CLOCK AND ON A STAGE OF ONE'S OWN.
  THE LAW FnExactTruthStays: the walk.
-/
import Derived.Test.YtnkiaickkbkjnaaGreatCd
import Derived.Test.YtnkiaickkbkjnaaGreatVz
import Derived.Test.YtnkiaickkbkjnaaGreatAt
import Derived.Test.YtnkiaickkbkjnaaGreatEz
import Derived.Test.YtnkiaickkbkjnaaGreatPb
namespace Go.Proofs.YtnkiaickkbkjnaaGreat
open Go.RowKit
set_option linter.unusedVariables false

/-- The price behind the next round. -/
def nxt (pr st : Int) : Int := if pr - st < 0 then 0 else pr - st
theorem nxt_bnd {pr st : Int} (h1 : 0 ≤ pr ∧ pr ≤ 1000000) (h2 : 1 ≤ st ∧ st ≤ 1000000) : 0 ≤ nxt pr st ∧ nxt pr st ≤ 1000000 := by
  unfold nxt
  split <;> omega
theorem mul_bnd {a b : Int} (h1 : 0 ≤ a ∧ a ≤ 1000) (h2 : 0 ≤ b ∧ b ≤ 1000000) : 0 ≤ a * b ∧ a * b ≤ 1000000000 := by
  refine ⟨Int.mul_nonneg h1.1 h2.1, ?_⟩
  calc a * b ≤ 1000 * b := Int.mul_le_mul_of_nonneg_right h1.2 h2.1
    _ ≤ 1000 * 1000000 := Int.mul_le_mul_of_nonneg_left h2.2 (by omega)
    _ = 1000000000 := by decide
theorem wrap_small {x : Int} (h : -1000000000000 ≤ x ∧ x ≤ 1000000000000) : IntKind.i64.wrap x = x := by
  rw [IntKind.wrap_i64]
  omega
set_option maxHeartbeats 1000000 in
/-- nextPrice. -/
theorem nx_any (sl : Option Addr) (n cap : Nat) (tl : Option Addr) (m kap : Nat) (top pr st bu : Int) (bl : Option Addr) (q cb : Nat) (pl : Option Addr) (p cp : Nat) (w : World) (h1 : 0 ≤ pr ∧ pr ≤ 1000000) (h2 : 1 ≤ st ∧ st ≤ 1000000) :
    Calls Tryz.prog 50 #[CV sl n cap tl m kap top pr st bu bl q cb pl p cp] w fun e w' => e = .returned (.int .i64 (nxt pr st)) ∧ Below w.heap.size w w' := by
  obtain ⟨a1, a2⟩ := h1
  obtain ⟨a3, a4⟩ := h2
  unfold nxt
  by_cases h : pr - st < 0
  · rw [if_pos h]
    have hm : max (pr - st) 0 = 0 := by omega
    go_enter Tryz.func50, Tryz.ntmps50
    go_wp2
    go_ret
    exact ⟨rfl, bA0 _ _⟩
  · rw [if_neg h]
    have hm : max (pr - st) 0 = pr - st := by omega
    go_enter Tryz.func50, Tryz.ntmps50
    go_wp2
    go_ret
    exact ⟨rfl, bA0 _ _⟩
/-- l01Max of 0. -/
theorem mx_any (x : Int) (w : World) : Calls Tryz.prog 49 #[.int .i64 0, .int .i64 x] w fun e w' => e = .returned (.int .i64 (if x < 0 then 0 else x)) ∧ w' = w := by
  by_cases h : x < 0
  · rw [if_pos h]
    go_enter Tryz.func49, Tryz.ntmps49
    go_wp2
    go_ret
    exact ⟨rfl, rfl⟩
  · rw [if_neg h]
    go_enter Tryz.func49, Tryz.ntmps49
    go_wp2
    go_ret
    exact ⟨rfl, rfl⟩

set_option maxRecDepth 100000 in
set_option maxHeartbeats 2000000 in
/-- offerAt. -/
theorem oa_any (c o cap : Nat) (tl : Option Addr) (m kap : Nat) (top pr st bu : Int) (bl : Option Addr) (q cb : Nat) (pl : Option Addr) (p cp : Nat) (rs : List LSt) (k : Nat) (sc : Int) (w : World) (hn : rs.length ≤ 1048576) (hz : StAt w c o rs) (hk : k < rs.length) (hsc : rs[k].2.1 = sc) (h0 : 0 ≤ sc ∧ sc ≤ 1000) (h1 : 0 ≤ pr ∧ pr ≤ 1000000) (h2 : 1 ≤ st ∧ st ≤ 1000000) :
    Calls Tryz.prog 33 #[CV (some ⟨c, o, none⟩) rs.length cap tl m kap top pr st bu bl q cb pl p cp, .int .i64 k] w fun e w' => e = .returned (.int .i64 (sc * nxt pr st)) ∧ Below w.heap.size w w' := by
  have E := Lib.hid (fun W => nx_any (some ⟨c, o, none⟩) rs.length cap tl m kap top pr st bu bl q cb pl p cp W h1 h2)
  have hwm := wrap_small (x := sc * nxt pr st) (by have := mul_bnd h0 (nxt_bnd h1 h2); omega)
  have hc := (hz.cell k hk).2.1
  have zl := hz.lt
  rw [hsc] at hc
  have hk1 : (k : Int) < (rs.length : Int) := by omega
  have hk0 : (0 : Int) ≤ (k : Int) := by omega
  clear hz hsc hk h0 h1 h2
  generalize nxt pr st = x at *
  generalize rs.length = n at *
  have B0 := Lib.hid (bA0 w (.cells (CC (some ⟨c, o, none⟩) n cap tl m kap top pr st bu bl q cb pl p cp) 44))
  have N0 := Lib.hid (new_at w (.cells (CC (some ⟨c, o, none⟩) n cap tl m kap top pr st bu bl q cb pl p cp) 44))
  have KX : Hid (∀ W, Below (w.heap.size + 1) (w.alloc (.cells (CC (some ⟨c, o, none⟩) n cap tl m kap top pr st bu bl q cb pl p cp) 44)) W → (w.heap.size < W.heap.size ∧ W.cell? ⟨w.heap.size, 0, none⟩ = some (.slice (some ⟨c, o, none⟩) n cap) ∧ W.cell? ⟨w.heap.size, 1, none⟩ = some (.slice tl m kap) ∧ W.cell? ⟨w.heap.size, 2, none⟩ = some (.int .i64 top) ∧ W.cell? ⟨w.heap.size, 3, none⟩ = some (.int .i64 pr) ∧ W.cell? ⟨w.heap.size, 4, none⟩ = some (.int .i64 st) ∧ W.cell? ⟨w.heap.size, 5, none⟩ = some (.int .i64 bu) ∧ W.cell? ⟨w.heap.size, 6, none⟩ = some (.slice bl q cb) ∧ W.cell? ⟨w.heap.size, 7, none⟩ = some (.slice pl p cp)) ∧ c < W.heap.size ∧ W.cell? ⟨c, o + k * 3 + 1, none⟩ = some (.int .i64 sc)) := fun W hW => by
    obtain ⟨c0, c1, c2, c3, c4, c5, c6, c7, cf, cl⟩ := cells8 ((hW.block w.heap.size (by omega)).trans N0.out)
    refine ⟨⟨cl, c0, c1, c2, c3, c4, c5, c6, c7⟩, Nat.lt_trans zl cl, ?_⟩
    rw [hW.cell (p := ⟨c, o + k * 3 + 1, none⟩) (show c < w.heap.size + 1 by omega)]
    exact (B0.out.cell (p := ⟨c, o + k * 3 + 1, none⟩) zl).trans hc
  have hS : (w.alloc (.cells (CC (some ⟨c, o, none⟩) n cap tl m kap top pr st bu bl q cb pl p cp) 44)).heap.size = w.heap.size + 1 := by simp
  clear N0
  go_enter Tryz.func33, Tryz.ntmps33
  go_wp2_with fail
  generalize w.alloc (.cells (CC (some ⟨c, o, none⟩) n cap tl m kap top pr st bu bl q cb pl p cp) 44) = wA at *
  refine wp_region_held_drew (S := fun W => (w.heap.size < W.heap.size ∧ W.cell? ⟨w.heap.size, 0, none⟩ = some (.slice (some ⟨c, o, none⟩) n cap) ∧ W.cell? ⟨w.heap.size, 1, none⟩ = some (.slice tl m kap) ∧ W.cell? ⟨w.heap.size, 2, none⟩ = some (.int .i64 top) ∧ W.cell? ⟨w.heap.size, 3, none⟩ = some (.int .i64 pr) ∧ W.cell? ⟨w.heap.size, 4, none⟩ = some (.int .i64 st) ∧ W.cell? ⟨w.heap.size, 5, none⟩ = some (.int .i64 bu) ∧ W.cell? ⟨w.heap.size, 6, none⟩ = some (.slice bl q cb) ∧ W.cell? ⟨w.heap.size, 7, none⟩ = some (.slice pl p cp)) ∧ c < W.heap.size ∧ W.cell? ⟨c, o + k * 3 + 1, none⟩ = some (.int .i64 sc)) (by kernel_rfl) ?_ (fun hHeld => ?_)
  · exact KX.out _ (by rw [← hS]; exact (Below.refl _ _).drew)
  refine wpAnyH_take (i := 0) (oi := _) (v := ?_) rfl (by kernel_rfl) (by kernel_rfl) (by kernel_rfl) (fun _ _ _ h => h) (Or.inl ⟨by rfl, ?_⟩) (by assumption) ?_
  rotate_left
  · first | (intro w hSw; (try dsimp only at hSw); go_simp; done) | (intro w hSw; (try dsimp only at hSw); go_simp; with_reducible rfl)
  try simp only [Act.put, List.setIfInBounds_toArray, List.set_cons_zero, List.set_cons_succ, List.getElem_toArray, List.getElem_cons_zero]
  refine wpAnyH_take (i := 1) (oi := _) (v := ?_) rfl (by kernel_rfl) (by kernel_rfl) (by kernel_rfl) (fun _ _ _ h => h) (Or.inl ⟨by rfl, ?_⟩) (by assumption) ?_
  rotate_left
  · first | (intro w hSw; (try dsimp only at hSw); go_simp; done) | (intro w hSw; (try dsimp only at hSw); go_simp; with_reducible rfl)
  try simp only [Act.put, List.setIfInBounds_toArray, List.set_cons_zero, List.set_cons_succ, List.getElem_toArray, List.getElem_cons_succ, List.getElem_cons_zero]
  refine wpAnyH_take (i := 2) (oi := _) (v := ?_) rfl (by kernel_rfl) (by kernel_rfl) (by kernel_rfl) (fun _ _ _ h => h) (Or.inl ⟨by rfl, ?_⟩) (by assumption) ?_
  rotate_left
  · first | (intro w hSw; (try dsimp only at hSw); go_simp; done) | (intro w hSw; (try dsimp only at hSw); go_simp; with_reducible rfl)
  try simp only [Act.put, List.setIfInBounds_toArray, List.set_cons_zero, List.set_cons_succ, List.getElem_toArray, List.getElem_cons_succ, List.getElem_cons_zero]
  refine wpAnyH_take (i := 3) (oi := _) (v := ?_) rfl (by kernel_rfl) (by kernel_rfl) (by kernel_rfl) (fun _ _ _ h => h) (Or.inl ⟨by rfl, ?_⟩) (by assumption) ?_
  rotate_left
  · first | (intro w hSw; (try dsimp only at hSw); go_simp; done) | (intro w hSw; (try dsimp only at hSw); go_simp; with_reducible rfl)
  try simp only [Act.put, List.setIfInBounds_toArray, List.set_cons_zero, List.set_cons_succ, List.getElem_toArray, List.getElem_cons_succ, List.getElem_cons_zero]
  refine wpAnyH_take (i := 4) (oi := _) (v := ?_) rfl (by kernel_rfl) (by kernel_rfl) (by kernel_rfl) (fun _ _ _ h => h) (Or.inl ⟨by rfl, ?_⟩) (by assumption) ?_
  rotate_left
  · first | (intro w hSw; (try dsimp only at hSw); go_simp; done) | (intro w hSw; (try dsimp only at hSw); go_simp; with_reducible rfl)
  try simp only [Act.put, List.setIfInBounds_toArray, List.set_cons_zero, List.set_cons_succ, List.getElem_toArray, List.getElem_cons_succ, List.getElem_cons_zero]
  refine wpAnyH_take (i := 5) (oi := _) (v := ?_) rfl (by kernel_rfl) (by kernel_rfl) (by kernel_rfl) (fun _ _ _ h => h) (Or.inl ⟨by rfl, ?_⟩) (by assumption) ?_
  rotate_left
  · first | (intro w hSw; (try dsimp only at hSw); go_simp; done) | (intro w hSw; (try dsimp only at hSw); go_simp; with_reducible rfl)
  try simp only [Act.put, List.setIfInBounds_toArray, List.set_cons_zero, List.set_cons_succ, List.getElem_toArray, List.getElem_cons_succ, List.getElem_cons_zero]
  refine wpAnyH_take (i := 6) (oi := _) (v := ?_) rfl (by kernel_rfl) (by kernel_rfl) (by kernel_rfl) (fun _ _ _ h => h) (Or.inl ⟨by rfl, ?_⟩) (by assumption) ?_
  rotate_left
  · first | (intro w hSw; (try dsimp only at hSw); go_simp; done) | (intro w hSw; (try dsimp only at hSw); go_simp; with_reducible rfl)
  try simp only [Act.put, List.setIfInBounds_toArray, List.set_cons_zero, List.set_cons_succ, List.getElem_toArray, List.getElem_cons_succ, List.getElem_cons_zero]
  refine wpAnyH_take (i := 7) (oi := _) (v := ?_) rfl (by kernel_rfl) (by kernel_rfl) (by kernel_rfl) (fun _ _ _ h => h) (Or.inl ⟨by rfl, ?_⟩) (by assumption) ?_
  rotate_left
  · first | (intro w hSw; (try dsimp only at hSw); go_simp; done) | (intro w hSw; (try dsimp only at hSw); go_simp; with_reducible rfl)
  try simp only [Act.put, List.setIfInBounds_toArray, List.set_cons_zero, List.set_cons_succ, List.getElem_toArray, List.getElem_cons_succ, List.getElem_cons_zero]
  refine wpAnyH_ready (rs := [8]) (by kernel_rfl) (by simp) ?_
  refine AllReadyH.cons rfl (fun K hK => ?_) AllReadyH.nil
  go_simp
  go_wp2_with (go_at_call 50; refine (E.out _).mono ?_; rintro e w2 ⟨rfl, b2⟩)
  have F2 : Hid (Below wA.heap.size wA w2) := bT ((Below.refl wA.heap.size wA).drew) b2
  clear b2
  refine hK.out _ _ ?_ (fun hHeld => ?_)
  · exact KX.out _ (by rw [← hS]; exact F2.out)
  clear hK K
  refine wpAnyH_take (i := 9) (oi := _) (v := ?_) rfl (by kernel_rfl) (by kernel_rfl) (by kernel_rfl) (fun _ _ _ h => h) (Or.inl ⟨by rfl, ?_⟩) (by assumption) ?_
  rotate_left
  · first | (intro w hSw; (try dsimp only at hSw); go_simp; done) | (intro w hSw; (try dsimp only at hSw); go_simp; with_reducible rfl)
  try simp only [Act.put, List.setIfInBounds_toArray, List.set_cons_zero, List.set_cons_succ, List.getElem_toArray, List.getElem_cons_succ, List.getElem_cons_zero]
  refine wpAnyH_take (i := 10) (oi := _) (v := ?_) rfl (by kernel_rfl) (by kernel_rfl) (by kernel_rfl) (fun _ _ _ h => h) (Or.inl ⟨by rfl, ?_⟩) (by assumption) ?_
  rotate_left
  · first | (intro w hSw; (try dsimp only at hSw); go_simp; done) | (intro w hSw; (try dsimp only at hSw); go_simp; with_reducible rfl)
  try simp only [Act.put, List.setIfInBounds_toArray, List.set_cons_zero, List.set_cons_succ, List.getElem_toArray, List.getElem_cons_succ, List.getElem_cons_zero]
  refine wpAnyH_done (by kernel_rfl) ?_ _

  go_wp2
  go_ret
  exact ⟨rfl, bT B0.out F2.out⟩

set_option maxRecDepth 100000 in
set_option maxHeartbeats 2000000 in
/-- l12Offer. -/
theorem so_any (c o cap : Nat) (tl : Option Addr) (m kap : Nat) (top pr st bu : Int) (bl : Option Addr) (q cb : Nat) (pl : Option Addr) (p cp : Nat) (rs : List LSt) (k : Nat) (sc : Int) (w : World) (hn : rs.length ≤ 1048576) (hz : StAt w c o rs) (hk : k < rs.length) (hsc : rs[k].2.1 = sc) (h0 : 0 ≤ sc ∧ sc ≤ 1000) (h1 : 0 ≤ pr ∧ pr ≤ 1000000) (h2 : 1 ≤ st ∧ st ≤ 1000000) :
    Calls Tryz.prog 31 #[CV (some ⟨c, o, none⟩) rs.length cap tl m kap top pr st bu bl q cb pl p cp, .int .i64 k] w fun e w' => e = .returned (.int .i64 (sc * nxt pr st)) ∧ Below w.heap.size w w' := by
  have E : Hid (∀ W, Calls Tryz.prog 49 #[.int .i64 0, .int .i64 (pr - st)] W fun e w' => e = .returned (.int .i64 (nxt pr st)) ∧ w' = W) := fun W => mx_any (pr - st) W
  have hwm := wrap_small (x := sc * nxt pr st) (by have := mul_bnd h0 (nxt_bnd h1 h2); omega)
  have hws := wrap_small (x := pr - st) (by omega)
  have hc := (hz.cell k hk).2.1
  have zl := hz.lt
  rw [hsc] at hc
  have hk1 : (k : Int) < (rs.length : Int) := by omega
  have hk0 : (0 : Int) ≤ (k : Int) := by omega
  clear hz hsc hk h0 h1 h2
  generalize nxt pr st = x at *
  generalize rs.length = n at *
  have B0 := Lib.hid (bA0 w (.cells (CC (some ⟨c, o, none⟩) n cap tl m kap top pr st bu bl q cb pl p cp) 44))
  have N0 := new_at w (.cells (CC (some ⟨c, o, none⟩) n cap tl m kap top pr st bu bl q cb pl p cp) 44)
  have hc' := (B0.out.cell (p := ⟨c, o + k * 3 + 1, none⟩) zl).trans hc
  obtain ⟨c0, c1, c2, c3, c4, c5, c6, c7, cf, cl⟩ := cells8 N0
  have zl' := Nat.lt_trans zl cl
  clear N0 hc
  go_enter Tryz.func31, Tryz.ntmps31
  go_wp2_with fail
  generalize w.alloc (.cells (CC (some ⟨c, o, none⟩) n cap tl m kap top pr st bu bl q cb pl p cp) 44) = wA at *
  go_quiet (first | (go_at_call 49; exact Calls.quiet_of_same (E.out _)))
  go_wp2
  go_ret
  exact ⟨rfl, below_drewN B0.out _⟩

end Go.Proofs.YtnkiaickkbkjnaaGreat
namespace Go.Proofs.YtnkiaickkbkjnaaGreat
open Go.RowKit
set_option linter.unusedVariables false

/-- Does the Bid at place i stay by its value? -/
def truF (rs : List LSt) (pr st : Int) (bs : List LPr) (vs : List LPl) (i : Nat) : Bool :=
  match rs[i]?, bs[i]?, vs[i]? with
  | some r, some b, some v => decide (b.2.1 = 1 ∧ v.2 ≤ r.2.1 * nxt pr st)
  | _, _, _ => false
/-- Those of the first k that stay. -/
def truTo (rs : List LSt) (pr st : Int) (bs : List LPr) (vs : List LPl) (k : Nat) : List Int :=
  ((List.range k).filter (truF rs pr st bs vs)).map fun i => match bs[i]? with | some b => b.1 | none => 0
noncomputable def truA (R : Prop) (rs : List LSt) (pr st : Int) (bs : List LPr) (vs : List LPl) : List Int := if B (ValR R bs vs) = true then truTo rs pr st bs vs bs.length else []
theorem truTo_len (rs : List LSt) (pr st : Int) (bs : List LPr) (vs : List LPl) (k : Nat) : (truTo rs pr st bs vs k).length ≤ k := by
  unfold truTo
  rw [List.length_map]
  exact Nat.le_trans (List.length_filter_le _ _) (by simp)
theorem truTo_yes (rs : List LSt) (pr st : Int) (bs : List LPr) (vs : List LPl) (k : Nat) (h1 : k < rs.length) (h2 : k < bs.length) (h3 : k < vs.length) (hy : bs[k].2.1 = 1) (hv : vs[k].2 ≤ rs[k].2.1 * nxt pr st) : truTo rs pr st bs vs (k + 1) = truTo rs pr st bs vs k ++ [bs[k].1] := by
  have : truF rs pr st bs vs k = true := by simp [truF, List.getElem?_eq_getElem h1, List.getElem?_eq_getElem h2, List.getElem?_eq_getElem h3, hy, hv]
  unfold truTo
  rw [List.range_succ, List.filter_append, List.map_append]
  simp [this, List.getElem?_eq_getElem h2]
theorem truTo_no (rs : List LSt) (pr st : Int) (bs : List LPr) (vs : List LPl) (k : Nat) (h1 : k < rs.length) (h2 : k < bs.length) (h3 : k < vs.length) (hy : ¬ (bs[k].2.1 = 1 ∧ vs[k].2 ≤ rs[k].2.1 * nxt pr st)) : truTo rs pr st bs vs (k + 1) = truTo rs pr st bs vs k := by
  have : truF rs pr st bs vs k = false := by
    simp only [truF, List.getElem?_eq_getElem h1, List.getElem?_eq_getElem h2, List.getElem?_eq_getElem h3]
    exact decide_eq_false hy
  unfold truTo
  rw [List.range_succ, List.filter_append, List.map_append]
  simp [this]

set_option maxRecDepth 100000 in
set_option maxHeartbeats 8000000 in
/-- impl.TruthStays. -/
theorem its_of (sl : Option Addr) (cap : Nat) (tl : Option Addr) (m kap : Nat) (top pr st bu : Int) (bl : Option Addr) (cb : Nat) (pl : Option Addr) (p cp : Nat) (ul : Option Addr) (u cu : Nat) (ai fx : Int) (gc gf : Bool) (rs : List LSt) (bs : List LPr) (vl : Option Addr) (cv : Nat) (vs : List LPl) (R : Prop) (w : World) (hn : rs.length ≤ 1048576) (hq : bs.length ≤ 1048576) (hv : vs.length ≤ 1048576) (hz : Sts w sl rs) (hbs : Prs w bl bs) (hvs : Pls w vl vs)
    (hR : R → rs.length = bs.length ∧ (∀ r ∈ rs, 0 ≤ r.2.1 ∧ r.2.1 ≤ 1000) ∧ (0 ≤ pr ∧ pr ≤ 1000000) ∧ (1 ≤ st ∧ st ≤ 1000000))
    (VR : Hid (∀ W, Below w.heap.size w W → Calls Tryz.prog 10 #[SgV sl rs.length cap tl m kap top pr st bu bl bs.length cb pl p cp ul u cu ai fx gc gf, .slice vl vs.length cv] W fun e w' => e = .returned (.bool (B (ValR R bs vs))) ∧ Below W.heap.size W w')) :
    Calls Tryz.prog 14 #[SgV sl rs.length cap tl m kap top pr st bu bl bs.length cb pl p cp ul u cu ai fx gc gf, .slice vl vs.length cv] w fun e w' => ∃ v, e = .returned v ∧ w'.ownsRow w.heap.size 2 1 v (truA R rs pr st bs vs).length (valsZ (truA R rs pr st bs vs)) ∧ Below w.heap.size w w' := by
  obtain ⟨i0, hi0, hz0, hz1, hz2⟩ := info_parts info2'
  have V0 := Lib.hid (show B (ValR R bs vs) = false → truA R rs pr st bs vs = [] from fun g => if_neg (fun h => by rw [g] at h; cases h))
  have V1 := Lib.hid (show B (ValR R bs vs) = true → truA R rs pr st bs vs = truTo rs pr st bs vs bs.length ∧ R ∧ vs.length = bs.length ∧ ValTo bs vs vs.length from fun g => ⟨if_pos g, (B_true g).2⟩)
  have HZ := Lib.hid hz
  have HB := Lib.hid hbs
  have HV := Lib.hid hvs
  have HR := Lib.hid hR
  clear hz hbs hvs hR
  generalize truA R rs pr st bs vs = pa at *
  generalize B (ValR R bs vs) = r at *
  generalize hN : rs.length = n at *
  generalize hQ : bs.length = q at *
  generalize hA : vs.length = a at *
  have HN := Lib.hid hN
  have HQ := Lib.hid hQ
  have HA := Lib.hid hA
  clear hN hQ hA
  have B0 := Lib.hid (bA0 w (.cells (SgC sl n cap tl m kap top pr st bu bl q cb pl p cp ul u cu ai fx gc gf) 46))
  have N0 := Lib.hid (new_at w (.cells (SgC sl n cap tl m kap top pr st bu bl q cb pl p cp ul u cu ai fx gc gf) 46))
  have hS : (w.alloc (.cells (SgC sl n cap tl m kap top pr st bu bl q cb pl p cp ul u cu ai fx gc gf) 46)).heap.size = w.heap.size + 1 := by simp
  go_enter Tryz.func14, Tryz.ntmps14
  go_wp2_with fail
  generalize w.alloc (.cells (SgC sl n cap tl m kap top pr st bu bl q cb pl p cp ul u cu ai fx gc gf) 46) = wA at *
  have HS := Lib.hid hS
  clear hS
  refine (VR.out _ B0.out).mono ?_
  rintro e w1 ⟨rfl, b1⟩
  have A1 := Lib.hid b1
  have D1 := Lib.hid (bT B0.out b1)
  clear b1 VR
  cases r
  · have HF := V0.out (by trivial)
    subst HF
    clear V0 V1 HZ HB HV HR
    go_wp2
    go_ret
    exact ⟨_, rfl, ⟨rfl, .inl ⟨rfl, rfl⟩⟩, D1.out⟩
  obtain ⟨HT, hR1, hva, vto⟩ := V1.out (by trivial)
  have hva2 := hva.symm
  clear hva
  subst hva2
  obtain ⟨hrn, hsc, hpr, hst⟩ := HR.out hR1
  subst HT
  have HRN := Lib.hid hrn
  have HSC := Lib.hid hsc
  have HPR := Lib.hid hpr
  have HST := Lib.hid hst
  have VT := Lib.hid vto
  clear V0 V1 HR hR1 hrn hsc hpr hst vto
  obtain ⟨c0, c1, c2, c3, c4, c5, c6, c7, c8, c9, c10, c11, c12, cf, cl⟩ := cells13 ((A1.out.block w.heap.size (by rw [HS.out]; omega)).trans N0.out)
  go_wp2
  clear c0 c1 c2 c3 c4 c5 c6 c7 c8 c9 c10 c11 c12 cf cl
  go_loopw [5, 18] (fun v i wr => ∃ k : Nat, i = .int .i64 k ∧ k ≤ q ∧ Hid (wr.ownsRow (w.heap.size + 1) 2 1 v (truTo rs pr st bs vs k).length (valsZ (truTo rs pr st bs vs k))) ∧ Hid (Below wA.heap.size wA wr)) (fun _ i _ => q - (intOf i).toNat)
  case atStart => exact ⟨0, rfl, Nat.zero_le _, ⟨rfl, .inl ⟨rfl, rfl⟩⟩, A1⟩
  case round =>
    obtain ⟨k, rfl, hk, H1, H3⟩ := hrel
    have hk0 : (0 : Int) ≤ (k : Int) := by omega
    have H2 := Lib.hid (bT B0.out H3.out)
    obtain ⟨c0, c1, c2, c3, c4, c5, c6, c7, c8, c9, c10, c11, c12, cf, cl⟩ := cells13 ((H3.out.block w.heap.size (by rw [HS.out]; omega)).trans N0.out)
    by_cases h1 : k < q
    · have h1' : (k : Int) < (q : Int) := by omega
      have hlt : k < bs.length := by rw [HQ.out]; exact h1
      have hlv : k < vs.length := by rw [HA.out]; omega
      have hlr : k < rs.length := by rw [HN.out]; have := HRN.out; omega
      obtain ⟨g, o, rfl, ZB⟩ : ∃ c o, bl = some ⟨c, o, none⟩ ∧ PrAt w c o bs := by
        rcases HB.out with e | h
        · rw [e] at hlt; simp at hlt
        · exact h
      obtain ⟨g', o', rfl, ZV⟩ : ∃ c o, vl = some ⟨c, o, none⟩ ∧ PlAt w c o vs := by
        rcases HV.out with e | h
        · rw [e] at hlv; simp at hlv
        · exact h
      obtain ⟨gs, os, rfl, ZS⟩ : ∃ c o, sl = some ⟨c, o, none⟩ ∧ StAt w c o rs := by
        rcases HZ.out.row with e | h
        · rw [e] at hlr; simp at hlr
        · exact h
      have hsc1 := HSC.out _ (List.getElem_mem hlr)
      have vt1 := VT.out k _ _ (by omega) (List.getElem?_eq_getElem hlv) (List.getElem?_eq_getElem hlt)
      obtain ⟨x, y, z, hp⟩ : ∃ a b c, bs[k] = (a, b, c) := ⟨_, _, _, rfl⟩
      obtain ⟨x', v, hp'⟩ : ∃ a b, vs[k] = (a, b) := ⟨_, _, rfl⟩
      have ex : x' = x := by rw [hp, hp'] at vt1; exact vt1.1
      subst ex
      have KC : Hid (∀ W, Below wA.heap.size wA W → w.heap.size < W.heap.size ∧ W.cell? ⟨w.heap.size, 0, none⟩ = some (.slice (some ⟨gs, os, none⟩) n cap) ∧ W.cell? ⟨w.heap.size, 1, none⟩ = some (.slice tl m kap) ∧ W.cell? ⟨w.heap.size, 2, none⟩ = some (.int .i64 top) ∧ W.cell? ⟨w.heap.size, 3, none⟩ = some (.int .i64 pr) ∧ W.cell? ⟨w.heap.size, 4, none⟩ = some (.int .i64 st) ∧ W.cell? ⟨w.heap.size, 5, none⟩ = some (.int .i64 bu) ∧ W.cell? ⟨w.heap.size, 6, none⟩ = some (.slice (some ⟨g, o, none⟩) q cb) ∧ W.cell? ⟨w.heap.size, 7, none⟩ = some (.slice pl p cp) ∧ W.cell? ⟨w.heap.size, 8, none⟩ = some (.slice ul u cu) ∧ W.cell? ⟨w.heap.size, 9, none⟩ = some (.int .i64 ai) ∧ W.cell? ⟨w.heap.size, 10, none⟩ = some (.int .i64 fx) ∧ W.cell? ⟨w.heap.size, 11, none⟩ = some (.bool gc) ∧ W.cell? ⟨w.heap.size, 12, none⟩ = some (.bool gf)) := fun W hW => by
        obtain ⟨c0, c1, c2, c3, c4, c5, c6, c7, c8, c9, c10, c11, c12, cf, cl⟩ := cells13 ((hW.block w.heap.size (by rw [HS.out]; omega)).trans N0.out)
        exact ⟨cl, c0, c1, c2, c3, c4, c5, c6, c7, c8, c9, c10, c11, c12⟩
      have KV : Hid (∀ W, Below wA.heap.size wA W → g' < W.heap.size ∧ W.cell? ⟨g', o' + k * 2, none⟩ = some (.int .i64 x') ∧ W.cell? ⟨g', o' + k * 2 + 1, none⟩ = some (.int .i64 v)) := fun W hW => by
        obtain ⟨f0, f1⟩ := (ZV.below (bT B0.out hW)).cell k hlv
        rw [hp'] at f0 f1
        exact ⟨(ZV.below (bT B0.out hW)).lt, f0, f1⟩
      have KD : Hid (∀ W, Below wA.heap.size wA W → g < W.heap.size ∧ W.cell? ⟨g, o + k * 3, none⟩ = some (.int .i64 x') ∧ W.cell? ⟨g, o + k * 3 + 1, none⟩ = some (.int .i64 y) ∧ W.cell? ⟨g, o + k * 3 + 2, none⟩ = some (.int .i64 z)) := fun W hW => by
        obtain ⟨f0, f1, f2⟩ := (ZB.below (bT B0.out hW)).cell k hlt
        rw [hp] at f0 f1 f2
        exact ⟨(ZB.below (bT B0.out hW)).lt, f0, f1, f2⟩
      have KO : Hid (∀ W, Below w.heap.size w W → StAt W gs os rs) := fun W hW => ZS.below hW
      have YY := Lib.hid (truTo_yes rs pr st bs vs k hlr hlt hlv)
      have NN := Lib.hid (truTo_no rs pr st bs vs k hlr hlt hlv)
      rw [hp, hp'] at YY NN
      dsimp only at YY NN
      have LE : (truTo rs pr st bs vs k).length ≤ k := truTo_len rs pr st bs vs k
      have hs := H3.out.size
      have hn' : rs.length ≤ 1048576 := by rw [HN.out]; exact hn
      obtain ⟨e0, e1, e2⟩ := (KD.out wr H3.out).2
      have zl := (KD.out wr H3.out).1
      obtain ⟨f0, f1⟩ := (KV.out wr H3.out).2
      have zv := (KV.out wr H3.out).1
      have HLR := Lib.hid HN.out
      generalize hscE : rs[k].2.1 = sc at *
      have N5 := Lib.hid (new_at wr (.cells #[.int .i64 x', .int .i64 y, .int .i64 z] 63))
      have F5 := Lib.hid (bA0 wr (.cells #[.int .i64 x', .int .i64 y, .int .i64 z] 63))
      have EH := Lib.hid (hol_any 1 x' y z)
      have HS5 := Lib.hid (show (wr.alloc (.cells #[.int .i64 x', .int .i64 y, .int .i64 z] 63)).heap.size = wr.heap.size + 1 by simp)
      have R5 := Lib.hid (H1.out.alloc (.cells #[.int .i64 x', .int .i64 y, .int .i64 z] 63))
      have EO : Hid (∀ W, Below w.heap.size w W → Calls Tryz.prog 33 #[CV (some ⟨gs, os, none⟩) n cap tl m kap top pr st bu (some ⟨g, o, none⟩) q cb pl p cp, .int .i64 k] W fun e w' => e = .returned (.int .i64 (sc * nxt pr st)) ∧ Below W.heap.size W w') := fun W hW => by
        have := oa_any gs os cap tl m kap top pr st bu (some ⟨g, o, none⟩) q cb pl p cp rs k sc W hn' (KO.out W hW) hlr hscE hsc1 HPR.out HST.out
        rwa [HLR.out] at this
      clear hp hp' ZB ZV ZS hlt hlv HB HV HZ VT vt1 hscE hlr hsc1 hn'
      go_wp2_with fail
      clear c0 c1 c2 c3 c4 c5 c6 c7 c8 c9 c10 c11 c12 cf cl e0 e1 e2 f0 f1 zl zv
      generalize wr.alloc (.cells #[.int .i64 x', .int .i64 y, .int .i64 z] 63) = w5 at *
      have KX : Hid (∀ W, Below w5.heap.size w5 W → w.heap.size < W.heap.size ∧ W.cell? ⟨w.heap.size, 0, none⟩ = some (.slice (some ⟨gs, os, none⟩) n cap) ∧ W.cell? ⟨w.heap.size, 1, none⟩ = some (.slice tl m kap) ∧ W.cell? ⟨w.heap.size, 2, none⟩ = some (.int .i64 top) ∧ W.cell? ⟨w.heap.size, 3, none⟩ = some (.int .i64 pr) ∧ W.cell? ⟨w.heap.size, 4, none⟩ = some (.int .i64 st) ∧ W.cell? ⟨w.heap.size, 5, none⟩ = some (.int .i64 bu) ∧ W.cell? ⟨w.heap.size, 6, none⟩ = some (.slice (some ⟨g, o, none⟩) q cb) ∧ W.cell? ⟨w.heap.size, 7, none⟩ = some (.slice pl p cp) ∧ W.cell? ⟨w.heap.size, 8, none⟩ = some (.slice ul u cu) ∧ W.cell? ⟨w.heap.size, 9, none⟩ = some (.int .i64 ai) ∧ W.cell? ⟨w.heap.size, 10, none⟩ = some (.int .i64 fx) ∧ W.cell? ⟨w.heap.size, 11, none⟩ = some (.bool gc) ∧ W.cell? ⟨w.heap.size, 12, none⟩ = some (.bool gf) ∧ g' < W.heap.size ∧ W.cell? ⟨g', o' + k * 2, none⟩ = some (.int .i64 x') ∧ W.cell? ⟨g', o' + k * 2 + 1, none⟩ = some (.int .i64 v) ∧ wr.heap.size < W.heap.size ∧ W.cell? ⟨wr.heap.size, 0, none⟩ = some (.int .i64 x') ∧ W.cell? ⟨wr.heap.size, 1, none⟩ = some (.int .i64 y) ∧ W.cell? ⟨wr.heap.size, 2, none⟩ = some (.int .i64 z)) := fun W hW => by
        have hA := bT H3.out (bT F5.out hW)
        obtain ⟨a0, a1, a2, af, al⟩ := cells3 ((hW.block wr.heap.size (by rw [HS5.out]; omega)).trans N5.out)
        obtain ⟨k0, k1, k2, k3, k4, k5, k6, k7, k8, k9, k10, k11, k12, k13⟩ := KC.out W hA
        obtain ⟨l0, l1, l2⟩ := KV.out W hA
        exact ⟨k0, k1, k2, k3, k4, k5, k6, k7, k8, k9, k10, k11, k12, k13, l0, l1, l2, al, a0, a1, a2⟩
      have KB : Hid (∀ W, Below w5.heap.size w5 W → Below w.heap.size w W) := fun W hW => bT H2.out (bT F5.out hW)
      have KA : Hid (∀ W, Below w5.heap.size w5 W → Below wA.heap.size wA W) := fun W hW => bT H3.out (bT F5.out hW)
      by_cases hy : (y == 1) = true
      · rw [hy] at EH
        have YY1 := Lib.hid (YY.out (by simpa using hy))
        have NN1 := Lib.hid (show ¬ v ≤ sc * nxt pr st → truTo rs pr st bs vs (k + 1) = truTo rs pr st bs vs k from fun hh => NN.out (fun h => hh h.2))
        clear YY NN
        refine wp_region_held_drew (S := fun W => w.heap.size < W.heap.size ∧ W.cell? ⟨w.heap.size, 0, none⟩ = some (.slice (some ⟨gs, os, none⟩) n cap) ∧ W.cell? ⟨w.heap.size, 1, none⟩ = some (.slice tl m kap) ∧ W.cell? ⟨w.heap.size, 2, none⟩ = some (.int .i64 top) ∧ W.cell? ⟨w.heap.size, 3, none⟩ = some (.int .i64 pr) ∧ W.cell? ⟨w.heap.size, 4, none⟩ = some (.int .i64 st) ∧ W.cell? ⟨w.heap.size, 5, none⟩ = some (.int .i64 bu) ∧ W.cell? ⟨w.heap.size, 6, none⟩ = some (.slice (some ⟨g, o, none⟩) q cb) ∧ W.cell? ⟨w.heap.size, 7, none⟩ = some (.slice pl p cp) ∧ W.cell? ⟨w.heap.size, 8, none⟩ = some (.slice ul u cu) ∧ W.cell? ⟨w.heap.size, 9, none⟩ = some (.int .i64 ai) ∧ W.cell? ⟨w.heap.size, 10, none⟩ = some (.int .i64 fx) ∧ W.cell? ⟨w.heap.size, 11, none⟩ = some (.bool gc) ∧ W.cell? ⟨w.heap.size, 12, none⟩ = some (.bool gf) ∧ g' < W.heap.size ∧ W.cell? ⟨g', o' + k * 2, none⟩ = some (.int .i64 x') ∧ W.cell? ⟨g', o' + k * 2 + 1, none⟩ = some (.int .i64 v) ∧ wr.heap.size < W.heap.size ∧ W.cell? ⟨wr.heap.size, 0, none⟩ = some (.int .i64 x') ∧ W.cell? ⟨wr.heap.size, 1, none⟩ = some (.int .i64 y) ∧ W.cell? ⟨wr.heap.size, 2, none⟩ = some (.int .i64 z)) (by kernel_rfl) ?_ (fun hHeld => ?_)
        · exact KX.out _ (Below.refl _ _).drew
        refine wpAnyH_take (i := 0) (oi := _) (v := ?_) rfl (by kernel_rfl) (by kernel_rfl) (by kernel_rfl) (fun _ _ _ h => h) (Or.inl ⟨by rfl, ?_⟩) (by assumption) ?_
        rotate_left
        · first | (intro w hSw; (try dsimp only at hSw); go_simp; done) | (intro w hSw; (try dsimp only at hSw); go_simp; with_reducible rfl)
        try simp only [Act.put, List.setIfInBounds_toArray, List.set_cons_zero, List.set_cons_succ, List.getElem_toArray, List.getElem_cons_zero]
        refine wpAnyH_take (i := 1) (oi := _) (v := ?_) rfl (by kernel_rfl) (by kernel_rfl) (by kernel_rfl) (fun _ _ _ h => h) (Or.inl ⟨by rfl, ?_⟩) (by assumption) ?_
        rotate_left
        · first | (intro w hSw; (try dsimp only at hSw); go_simp; done) | (intro w hSw; (try dsimp only at hSw); go_simp; with_reducible rfl)
        try simp only [Act.put, List.setIfInBounds_toArray, List.set_cons_zero, List.set_cons_succ, List.getElem_toArray, List.getElem_cons_succ, List.getElem_cons_zero]
        refine wpAnyH_ready (rs := [2]) (by kernel_rfl) (by simp) ?_
        refine AllReadyH.cons rfl (fun K hK => ?_) AllReadyH.nil
        go_simp
        go_wp2_with (go_at_call 32; refine (EH.out _).mono ?_; rintro e w6 ⟨rfl, b6⟩)
        have F6 : Hid (Below w5.heap.size w5 w6) := bT ((Below.refl w5.heap.size w5).drew) b6
        clear b6
        refine hK.out _ _ ?_ (fun hHeld => ?_)
        · exact KX.out _ F6.out
        clear hK K
        refine wpAnyH_take (i := 3) (oi := _) (v := ?_) rfl (by kernel_rfl) (by kernel_rfl) (by kernel_rfl) (fun _ _ _ h => h) (Or.inl ⟨by rfl, ?_⟩) (by assumption) ?_
        rotate_left
        · first | (intro w hSw; (try dsimp only at hSw); go_simp; done) | (intro w hSw; (try dsimp only at hSw); go_simp; with_reducible rfl)
        try simp only [Act.put, List.setIfInBounds_toArray, List.set_cons_zero, List.set_cons_succ, List.getElem_toArray, List.getElem_cons_succ, List.getElem_cons_zero]
        refine wpAnyH_take (i := 4) (oi := _) (v := ?_) rfl (by kernel_rfl) (by kernel_rfl) (by kernel_rfl) (fun _ _ _ h => h) (Or.inl ⟨by rfl, ?_⟩) (by assumption) ?_
        rotate_left
        · first | (intro w hSw; (try dsimp only at hSw); go_simp; done) | (intro w hSw; (try dsimp only at hSw); go_simp; with_reducible rfl)
        try simp only [Act.put, List.setIfInBounds_toArray, List.set_cons_zero, List.set_cons_succ, List.getElem_toArray, List.getElem_cons_succ, List.getElem_cons_zero]
        refine wpAnyH_take (i := 5) (oi := _) (v := ?_) rfl (by kernel_rfl) (by kernel_rfl) (by kernel_rfl) (fun _ _ _ h => h) (Or.inl ⟨by rfl, ?_⟩) (by assumption) ?_
        rotate_left
        · first | (intro w hSw; (try dsimp only at hSw); go_simp; done) | (intro w hSw; (try dsimp only at hSw); go_simp; with_reducible rfl)
        try simp only [Act.put, List.setIfInBounds_toArray, List.set_cons_zero, List.set_cons_succ, List.getElem_toArray, List.getElem_cons_succ, List.getElem_cons_zero]
        refine wpAnyH_take (i := 6) (oi := _) (v := ?_) rfl (by kernel_rfl) (by kernel_rfl) (by kernel_rfl) (fun _ _ _ h => h) (Or.inl ⟨by rfl, ?_⟩) (by assumption) ?_
        rotate_left
        · first | (intro w hSw; (try dsimp only at hSw); go_simp; done) | (intro w hSw; (try dsimp only at hSw); go_simp; with_reducible rfl)
        try simp only [Act.put, List.setIfInBounds_toArray, List.set_cons_zero, List.set_cons_succ, List.getElem_toArray, List.getElem_cons_succ, List.getElem_cons_zero]
        refine wpAnyH_take (i := 8) (oi := _) (v := ?_) rfl (by kernel_rfl) (by kernel_rfl) (by kernel_rfl) (fun _ _ _ h => h) (Or.inl ⟨by rfl, ?_⟩) (by assumption) ?_
        rotate_left
        · first | (intro w hSw; (try dsimp only at hSw); go_simp; done) | (intro w hSw; (try dsimp only at hSw); go_simp; with_reducible rfl)
        try simp only [Act.put, List.setIfInBounds_toArray, List.set_cons_zero, List.set_cons_succ, List.getElem_toArray, List.getElem_cons_succ, List.getElem_cons_zero]
        refine wpAnyH_take (i := 9) (oi := _) (v := ?_) rfl (by kernel_rfl) (by kernel_rfl) (by kernel_rfl) (fun _ _ _ h => h) (Or.inl ⟨by rfl, ?_⟩) (by assumption) ?_
        rotate_left
        · first | (intro w hSw; (try dsimp only at hSw); go_simp; done) | (intro w hSw; (try dsimp only at hSw); go_simp; with_reducible rfl)
        try simp only [Act.put, List.setIfInBounds_toArray, List.set_cons_zero, List.set_cons_succ, List.getElem_toArray, List.getElem_cons_succ, List.getElem_cons_zero]
        refine wpAnyH_take (i := 10) (oi := _) (v := ?_) rfl (by kernel_rfl) (by kernel_rfl) (by kernel_rfl) (fun _ _ _ h => h) (Or.inl ⟨by rfl, ?_⟩) (by assumption) ?_
        rotate_left
        · first | (intro w hSw; (try dsimp only at hSw); go_simp; done) | (intro w hSw; (try dsimp only at hSw); go_simp; with_reducible rfl)
        try simp only [Act.put, List.setIfInBounds_toArray, List.set_cons_zero, List.set_cons_succ, List.getElem_toArray, List.getElem_cons_succ, List.getElem_cons_zero]
        refine wpAnyH_take (i := 11) (oi := _) (v := ?_) rfl (by kernel_rfl) (by kernel_rfl) (by kernel_rfl) (fun _ _ _ h => h) (Or.inl ⟨by rfl, ?_⟩) (by assumption) ?_
        rotate_left
        · first | (intro w hSw; (try dsimp only at hSw); go_simp; done) | (intro w hSw; (try dsimp only at hSw); go_simp; with_reducible rfl)
        try simp only [Act.put, List.setIfInBounds_toArray, List.set_cons_zero, List.set_cons_succ, List.getElem_toArray, List.getElem_cons_succ, List.getElem_cons_zero]
        refine wpAnyH_take (i := 12) (oi := _) (v := ?_) rfl (by kernel_rfl) (by kernel_rfl) (by kernel_rfl) (fun _ _ _ h => h) (Or.inl ⟨by rfl, ?_⟩) (by assumption) ?_
        rotate_left
        · first | (intro w hSw; (try dsimp only at hSw); go_simp; done) | (intro w hSw; (try dsimp only at hSw); go_simp; with_reducible rfl)
        try simp only [Act.put, List.setIfInBounds_toArray, List.set_cons_zero, List.set_cons_succ, List.getElem_toArray, List.getElem_cons_succ, List.getElem_cons_zero]
        refine wpAnyH_ready (rs := [7]) (by kernel_rfl) (by simp) ?_
        refine AllReadyH.cons rfl (fun K hK => ?_) AllReadyH.nil
        go_simp
        go_wp2_with (go_at_call 33; refine (EO.out _ (KB.out _ F6.out)).mono ?_; rintro e w7 ⟨rfl, b7⟩)
        have F7 : Hid (Below w6.heap.size w6 w7) := b7
        clear b7
        refine hK.out _ _ ?_ (fun hHeld => ?_)
        · exact KX.out _ (bT F6.out F7.out)
        clear hK K
        refine wpAnyH_take (i := 13) (oi := _) (v := ?_) rfl (by kernel_rfl) (by kernel_rfl) (by kernel_rfl) (fun _ _ _ h => h) (Or.inl ⟨by rfl, ?_⟩) (by assumption) ?_
        rotate_left
        · first | (intro w hSw; (try dsimp only at hSw); go_simp; done) | (intro w hSw; (try dsimp only at hSw); go_simp; with_reducible rfl)
        try simp only [Act.put, List.setIfInBounds_toArray, List.set_cons_zero, List.set_cons_succ, List.getElem_toArray, List.getElem_cons_succ, List.getElem_cons_zero]
        refine wpAnyH_take (i := 14) (oi := _) (v := ?_) rfl (by kernel_rfl) (by kernel_rfl) (by kernel_rfl) (fun _ _ _ h => h) (Or.inl ⟨by rfl, ?_⟩) (by assumption) ?_
        rotate_left
        · first | (intro w hSw; (try dsimp only at hSw); go_simp; done) | (intro w hSw; (try dsimp only at hSw); go_simp; with_reducible rfl)
        try simp only [Act.put, List.setIfInBounds_toArray, List.set_cons_zero, List.set_cons_succ, List.getElem_toArray, List.getElem_cons_succ, List.getElem_cons_zero]
        refine wpAnyH_done (by kernel_rfl) ?_ _

        have G7 := Lib.hid (bT F6.out F7.out)
        have A7 := Lib.hid (KA.out _ G7.out)
        have R7 := Lib.hid (own_below R5.out G7.out)
        have S7 := KX.out _ G7.out
        obtain ⟨s0, s1, s2, s3, s4, s5, s6, s7, s8, s9, s10, s11, s12, s13, m0, m1, m2, a3, a0, a1, a2⟩ := S7
        have hs7 := G7.out.size
        clear F6 F7 EH EO KX KB KA R5 G7 N5 KC KV KD KO
        by_cases hg : v ≤ sc * nxt pr st
        · have EQ := Lib.hid (YY1.out hg)
          have dg : decide (v ≤ sc * nxt pr st) = true := decide_eq_true hg
          clear YY1 NN1
          go_wp2_with (first | (at_builtin; refine wpList_append_lies _ rfl (.tmp 38) (.tmp 41) 30 rfl (w.heap.size + 1) 2 i0 (.int .i64 0) 1 8 Tryz.underlying30 hi0 hz0 hz1 hz2 rfl (by decide) _ _ _ rfl (R7.out.alloc _) ⟨w7.heap.size, 0, none⟩ 1 1 [.int .i64 x'] (by simp [Act.eval]) rfl (cell_one_new _ _ _) (by intro u hu; simp at hu; subst hu; rfl) (by decide) (by unfold maxLen; omega) (by omega) (by simp; omega) (w7.heap.size + 1) (by simp) ?_))
          intro g9 cap9 w9 own9 grow9 hg9 hlt9
          have B9 := Lib.hid ((bA A7.out (.cells #[.int .i64 x'] 2)).grown grow9 (by simp; omega) (fun j hj => by have := (R7.out.lt j hj).1; have := HS.out; omega))
          have N9 := Lib.hid (show w9.ownsRow (w.heap.size + 1) 2 1 _ (truTo rs pr st bs vs (k + 1)).length (valsZ (truTo rs pr st bs vs (k + 1))) by
            rw [EQ.out]
            have : valsZ (truTo rs pr st bs vs k ++ [x']) = valsZ (truTo rs pr st bs vs k) ++ [.int .i64 x'] := by simp [valsZ]
            rw [this, List.length_append]
            exact own9)
          clear own9 grow9 hg9 hlt9 EQ hs LE HLR HRN HN HQ HA R7
          try clear HS5
          go_wp2
          go_roundw
          case rel =>
            first
            | exact ⟨k + 1, by go_num, by omega, N9, B9⟩
            | (repeat apply Exists.intro
               refine ⟨⟨k + 1, ?_, by omega, N9, B9⟩, ?_⟩
               rotate_left
               · (repeat' apply And.intro) <;> rfl
               · go_num)
          case measure => simp [intOf]; omega
        · have EQ := Lib.hid (NN1.out (by omega))
          have dg : decide (v ≤ sc * nxt pr st) = false := decide_eq_false hg
          clear YY1 NN1
          have N9 := Lib.hid (show World.ownsRow _ (w.heap.size + 1) 2 1 _ (truTo rs pr st bs vs (k + 1)).length (valsZ (truTo rs pr st bs vs (k + 1))) by rw [EQ.out]; exact R7.out)
          clear EQ hs LE HLR HRN HN HQ HA R7
          try clear HS5
          go_wp2
          go_roundw
          case rel =>
            first
            | exact ⟨k + 1, by go_num, by omega, N9, A7⟩
            | (repeat apply Exists.intro
               refine ⟨⟨k + 1, ?_, by omega, N9, A7⟩, ?_⟩
               rotate_left
               · (repeat' apply And.intro) <;> rfl
               · go_num)
          case measure => simp [intOf]; omega
      · have hy' : (y == 1) = false := by simpa using hy
        rw [hy'] at EH
        have EQ := Lib.hid (NN.out (fun h => hy (by simpa using h.1)))
        clear YY NN
        refine wp_region_held_drew (S := fun W => w.heap.size < W.heap.size ∧ W.cell? ⟨w.heap.size, 0, none⟩ = some (.slice (some ⟨gs, os, none⟩) n cap) ∧ W.cell? ⟨w.heap.size, 1, none⟩ = some (.slice tl m kap) ∧ W.cell? ⟨w.heap.size, 2, none⟩ = some (.int .i64 top) ∧ W.cell? ⟨w.heap.size, 3, none⟩ = some (.int .i64 pr) ∧ W.cell? ⟨w.heap.size, 4, none⟩ = some (.int .i64 st) ∧ W.cell? ⟨w.heap.size, 5, none⟩ = some (.int .i64 bu) ∧ W.cell? ⟨w.heap.size, 6, none⟩ = some (.slice (some ⟨g, o, none⟩) q cb) ∧ W.cell? ⟨w.heap.size, 7, none⟩ = some (.slice pl p cp) ∧ W.cell? ⟨w.heap.size, 8, none⟩ = some (.slice ul u cu) ∧ W.cell? ⟨w.heap.size, 9, none⟩ = some (.int .i64 ai) ∧ W.cell? ⟨w.heap.size, 10, none⟩ = some (.int .i64 fx) ∧ W.cell? ⟨w.heap.size, 11, none⟩ = some (.bool gc) ∧ W.cell? ⟨w.heap.size, 12, none⟩ = some (.bool gf) ∧ g' < W.heap.size ∧ W.cell? ⟨g', o' + k * 2, none⟩ = some (.int .i64 x') ∧ W.cell? ⟨g', o' + k * 2 + 1, none⟩ = some (.int .i64 v) ∧ wr.heap.size < W.heap.size ∧ W.cell? ⟨wr.heap.size, 0, none⟩ = some (.int .i64 x') ∧ W.cell? ⟨wr.heap.size, 1, none⟩ = some (.int .i64 y) ∧ W.cell? ⟨wr.heap.size, 2, none⟩ = some (.int .i64 z)) (by kernel_rfl) ?_ (fun hHeld => ?_)
        · exact KX.out _ (Below.refl _ _).drew
        refine wpAnyH_take (i := 0) (oi := _) (v := ?_) rfl (by kernel_rfl) (by kernel_rfl) (by kernel_rfl) (fun _ _ _ h => h) (Or.inl ⟨by rfl, ?_⟩) (by assumption) ?_
        rotate_left
        · first | (intro w hSw; (try dsimp only at hSw); go_simp; done) | (intro w hSw; (try dsimp only at hSw); go_simp; with_reducible rfl)
        try simp only [Act.put, List.setIfInBounds_toArray, List.set_cons_zero, List.set_cons_succ, List.getElem_toArray, List.getElem_cons_zero]
        refine wpAnyH_take (i := 1) (oi := _) (v := ?_) rfl (by kernel_rfl) (by kernel_rfl) (by kernel_rfl) (fun _ _ _ h => h) (Or.inl ⟨by rfl, ?_⟩) (by assumption) ?_
        rotate_left
        · first | (intro w hSw; (try dsimp only at hSw); go_simp; done) | (intro w hSw; (try dsimp only at hSw); go_simp; with_reducible rfl)
        try simp only [Act.put, List.setIfInBounds_toArray, List.set_cons_zero, List.set_cons_succ, List.getElem_toArray, List.getElem_cons_succ, List.getElem_cons_zero]
        refine wpAnyH_ready (rs := [2]) (by kernel_rfl) (by simp) ?_
        refine AllReadyH.cons rfl (fun K hK => ?_) AllReadyH.nil
        go_simp
        go_wp2_with (go_at_call 32; refine (EH.out _).mono ?_; rintro e w6 ⟨rfl, b6⟩)
        have F6 : Hid (Below w5.heap.size w5 w6) := bT ((Below.refl w5.heap.size w5).drew) b6
        clear b6
        refine hK.out _ _ ?_ (fun hHeld => ?_)
        · exact KX.out _ F6.out
        clear hK K
        refine wpAnyH_take (i := 3) (oi := _) (v := ?_) rfl (by kernel_rfl) (by kernel_rfl) (by kernel_rfl) (fun _ _ _ h => h) (Or.inl ⟨by rfl, ?_⟩) (by assumption) ?_
        rotate_left
        · first | (intro w hSw; (try dsimp only at hSw); go_simp; done) | (intro w hSw; (try dsimp only at hSw); go_simp; with_reducible rfl)
        try simp only [Act.put, List.setIfInBounds_toArray, List.set_cons_zero, List.set_cons_succ, List.getElem_toArray, List.getElem_cons_succ, List.getElem_cons_zero]
        refine wpAnyH_take (i := 4) (oi := _) (v := undef) rfl (by kernel_rfl) (by kernel_rfl) (by kernel_rfl) (fun _ _ _ h => h) (Or.inr ⟨by rfl, rfl⟩) (by assumption) ?_
        try simp only [Act.put, List.setIfInBounds_toArray, List.set_cons_zero, List.set_cons_succ, List.getElem_toArray, List.getElem_cons_succ, List.getElem_cons_zero]
        refine wpAnyH_take (i := 5) (oi := _) (v := undef) rfl (by kernel_rfl) (by kernel_rfl) (by kernel_rfl) (fun _ _ _ h => h) (Or.inr ⟨by rfl, rfl⟩) (by assumption) ?_
        try simp only [Act.put, List.setIfInBounds_toArray, List.set_cons_zero, List.set_cons_succ, List.getElem_toArray, List.getElem_cons_succ, List.getElem_cons_zero]
        refine wpAnyH_take (i := 6) (oi := _) (v := undef) rfl (by kernel_rfl) (by kernel_rfl) (by kernel_rfl) (fun _ _ _ h => h) (Or.inr ⟨by rfl, rfl⟩) (by assumption) ?_
        try simp only [Act.put, List.setIfInBounds_toArray, List.set_cons_zero, List.set_cons_succ, List.getElem_toArray, List.getElem_cons_succ, List.getElem_cons_zero]
        refine wpAnyH_take (i := 7) (oi := _) (v := undef) rfl (by kernel_rfl) (by kernel_rfl) (by kernel_rfl) (fun _ _ _ h => h) (Or.inr ⟨by rfl, rfl⟩) (by assumption) ?_
        try simp only [Act.put, List.setIfInBounds_toArray, List.set_cons_zero, List.set_cons_succ, List.getElem_toArray, List.getElem_cons_succ, List.getElem_cons_zero]
        refine wpAnyH_take (i := 8) (oi := _) (v := undef) rfl (by kernel_rfl) (by kernel_rfl) (by kernel_rfl) (fun _ _ _ h => h) (Or.inr ⟨by rfl, rfl⟩) (by assumption) ?_
        try simp only [Act.put, List.setIfInBounds_toArray, List.set_cons_zero, List.set_cons_succ, List.getElem_toArray, List.getElem_cons_succ, List.getElem_cons_zero]
        refine wpAnyH_take (i := 9) (oi := _) (v := undef) rfl (by kernel_rfl) (by kernel_rfl) (by kernel_rfl) (fun _ _ _ h => h) (Or.inr ⟨by rfl, rfl⟩) (by assumption) ?_
        try simp only [Act.put, List.setIfInBounds_toArray, List.set_cons_zero, List.set_cons_succ, List.getElem_toArray, List.getElem_cons_succ, List.getElem_cons_zero]
        refine wpAnyH_take (i := 10) (oi := _) (v := undef) rfl (by kernel_rfl) (by kernel_rfl) (by kernel_rfl) (fun _ _ _ h => h) (Or.inr ⟨by rfl, rfl⟩) (by assumption) ?_
        try simp only [Act.put, List.setIfInBounds_toArray, List.set_cons_zero, List.set_cons_succ, List.getElem_toArray, List.getElem_cons_succ, List.getElem_cons_zero]
        refine wpAnyH_take (i := 11) (oi := _) (v := undef) rfl (by kernel_rfl) (by kernel_rfl) (by kernel_rfl) (fun _ _ _ h => h) (Or.inr ⟨by rfl, rfl⟩) (by assumption) ?_
        try simp only [Act.put, List.setIfInBounds_toArray, List.set_cons_zero, List.set_cons_succ, List.getElem_toArray, List.getElem_cons_succ, List.getElem_cons_zero]
        refine wpAnyH_take (i := 12) (oi := _) (v := undef) rfl (by kernel_rfl) (by kernel_rfl) (by kernel_rfl) (fun _ _ _ h => h) (Or.inr ⟨by rfl, rfl⟩) (by assumption) ?_
        try simp only [Act.put, List.setIfInBounds_toArray, List.set_cons_zero, List.set_cons_succ, List.getElem_toArray, List.getElem_cons_succ, List.getElem_cons_zero]
        refine wpAnyH_take (i := 13) (oi := _) (v := undef) rfl (by kernel_rfl) (by kernel_rfl) (by kernel_rfl) (fun _ _ _ h => h) (Or.inr ⟨by rfl, rfl⟩) (by assumption) ?_
        try simp only [Act.put, List.setIfInBounds_toArray, List.set_cons_zero, List.set_cons_succ, List.getElem_toArray, List.getElem_cons_succ, List.getElem_cons_zero]
        refine wpAnyH_take (i := 14) (oi := _) (v := ?_) rfl (by kernel_rfl) (by kernel_rfl) (by kernel_rfl) (fun _ _ _ h => h) (Or.inl ⟨by rfl, ?_⟩) (by assumption) ?_
        rotate_left
        · first | (intro w hSw; (try dsimp only at hSw); go_simp; done) | (intro w hSw; (try dsimp only at hSw); go_simp; with_reducible rfl)
        try simp only [Act.put, List.setIfInBounds_toArray, List.set_cons_zero, List.set_cons_succ, List.getElem_toArray, List.getElem_cons_succ, List.getElem_cons_zero]
        refine wpAnyH_done (by kernel_rfl) ?_ _

        have A7 := Lib.hid (KA.out _ F6.out)
        have R7 := Lib.hid (own_below R5.out F6.out)
        clear F6 EH EO KX KB KA R5 N5 KC KV KD KO
        have N9 := Lib.hid (show World.ownsRow _ (w.heap.size + 1) 2 1 _ (truTo rs pr st bs vs (k + 1)).length (valsZ (truTo rs pr st bs vs (k + 1))) by rw [EQ.out]; exact R7.out)
        clear EQ hs LE HLR HRN HN HQ HA R7
        try clear HS5
        go_wp2
        go_roundw
        case rel =>
          first
          | exact ⟨k + 1, by go_num, by omega, N9, A7⟩
          | (repeat apply Exists.intro
             refine ⟨⟨k + 1, ?_, by omega, N9, A7⟩, ?_⟩
             rotate_left
             · (repeat' apply And.intro) <;> rfl
             · go_num)
        case measure => simp [intOf]; omega
    · have h1' : ¬ (k : Int) < (q : Int) := by omega
      have e : k = q := by omega
      have H9 := own_mono H1.out (Nat.le_succ w.heap.size)
      rw [e] at H9
      have P := Lib.hid H9
      clear H9 H1
      go_wp2
      go_ret
      exact ⟨_, rfl, P.out, H2.out⟩

set_option maxRecDepth 100000 in
set_option maxHeartbeats 8000000 in
/-- spec.TruthStays. -/
theorem sts_of (sl : Option Addr) (cap : Nat) (tl : Option Addr) (m kap : Nat) (top pr st bu : Int) (bl : Option Addr) (cb : Nat) (pl : Option Addr) (p cp : Nat) (ul : Option Addr) (u cu : Nat) (ai fx : Int) (gc gf : Bool) (rs : List LSt) (bs : List LPr) (vl : Option Addr) (cv : Nat) (vs : List LPl) (R : Prop) (w : World) (hn : rs.length ≤ 1048576) (hq : bs.length ≤ 1048576) (hv : vs.length ≤ 1048576) (hz : Sts w sl rs) (hbs : Prs w bl bs) (hvs : Pls w vl vs)
    (hR : R → rs.length = bs.length ∧ (∀ r ∈ rs, 0 ≤ r.2.1 ∧ r.2.1 ≤ 1000) ∧ (0 ≤ pr ∧ pr ≤ 1000000) ∧ (1 ≤ st ∧ st ≤ 1000000))
    (VR : Hid (∀ W, Below w.heap.size w W → Calls Tryz.prog 7 #[SgV sl rs.length cap tl m kap top pr st bu bl bs.length cb pl p cp ul u cu ai fx gc gf, .slice vl vs.length cv] W fun e w' => e = .returned (.bool (B (ValR R bs vs))) ∧ Below W.heap.size W w')) :
    Calls Tryz.prog 13 #[SgV sl rs.length cap tl m kap top pr st bu bl bs.length cb pl p cp ul u cu ai fx gc gf, .slice vl vs.length cv] w fun e w' => ∃ v, e = .returned v ∧ w'.ownsRow w.heap.size 2 1 v (truA R rs pr st bs vs).length (valsZ (truA R rs pr st bs vs)) ∧ Below w.heap.size w w' := by
  obtain ⟨i0, hi0, hz0, hz1, hz2⟩ := info_parts info2'
  have V0 := Lib.hid (show B (ValR R bs vs) = false → truA R rs pr st bs vs = [] from fun g => if_neg (fun h => by rw [g] at h; cases h))
  have V1 := Lib.hid (show B (ValR R bs vs) = true → truA R rs pr st bs vs = truTo rs pr st bs vs bs.length ∧ R ∧ vs.length = bs.length ∧ ValTo bs vs vs.length from fun g => ⟨if_pos g, (B_true g).2⟩)
  have HZ := Lib.hid hz
  have HB := Lib.hid hbs
  have HV := Lib.hid hvs
  have HR := Lib.hid hR
  clear hz hbs hvs hR
  generalize truA R rs pr st bs vs = pa at *
  generalize B (ValR R bs vs) = r at *
  generalize hN : rs.length = n at *
  generalize hQ : bs.length = q at *
  generalize hA : vs.length = a at *
  have HN := Lib.hid hN
  have HQ := Lib.hid hQ
  have HA := Lib.hid hA
  clear hN hQ hA
  have B0 := Lib.hid (bA0 w (.cells (SgC sl n cap tl m kap top pr st bu bl q cb pl p cp ul u cu ai fx gc gf) 46))
  have N0 := Lib.hid (new_at w (.cells (SgC sl n cap tl m kap top pr st bu bl q cb pl p cp ul u cu ai fx gc gf) 46))
  have hS : (w.alloc (.cells (SgC sl n cap tl m kap top pr st bu bl q cb pl p cp ul u cu ai fx gc gf) 46)).heap.size = w.heap.size + 1 := by simp
  have O0 := Lib.hid (own_none5 (w.alloc (.cells (SgC sl n cap tl m kap top pr st bu bl q cb pl p cp ul u cu ai fx gc gf) 46)))
  rw [hS] at O0
  have A0 := Lib.hid (bA0 (w.alloc (.cells (SgC sl n cap tl m kap top pr st bu bl q cb pl p cp ul u cu ai fx gc gf) 46)) (.cells #[] 2))
  go_enter Tryz.func13, Tryz.ntmps13
  go_wp2_with fail
  generalize w.alloc (.cells (SgC sl n cap tl m kap top pr st bu bl q cb pl p cp ul u cu ai fx gc gf) 46) = wA at *
  have HS := Lib.hid hS
  clear hS
  refine (VR.out _ (bT B0.out A0.out)).mono ?_
  rintro e w1 ⟨rfl, b1⟩
  have A1 := Lib.hid (bT A0.out b1)
  have D1 := Lib.hid (bT B0.out A1.out)
  have O1 := Lib.hid (own_below O0.out b1)
  clear b1 VR A0 O0
  cases r
  · have HF := V0.out (by trivial)
    subst HF
    have P := Lib.hid (own_mono O1.out (Nat.le_succ w.heap.size))
    clear V0 V1 HZ HB HV HR O1
    go_wp2
    go_ret
    exact ⟨_, rfl, P.out, D1.out⟩
  obtain ⟨HT, hR1, hva, vto⟩ := V1.out (by trivial)
  have hva2 := hva.symm
  clear hva
  subst hva2
  obtain ⟨hrn, hsc, hpr, hst⟩ := HR.out hR1
  subst HT
  have HRN := Lib.hid hrn
  have HSC := Lib.hid hsc
  have HPR := Lib.hid hpr
  have HST := Lib.hid hst
  have VT := Lib.hid vto
  clear V0 V1 HR hR1 hrn hsc hpr hst vto
  obtain ⟨c0, c1, c2, c3, c4, c5, c6, c7, c8, c9, c10, c11, c12, cf, cl⟩ := cells13 ((A1.out.block w.heap.size (by rw [HS.out]; omega)).trans N0.out)
  go_wp2
  clear c0 c1 c2 c3 c4 c5 c6 c7 c8 c9 c10 c11 c12 cf cl
  go_loopw [5, 6] (fun v i wr => ∃ k : Nat, i = .int .i64 k ∧ k ≤ q ∧ Hid (wr.ownsRow (w.heap.size + 1) 2 1 v (truTo rs pr st bs vs k).length (valsZ (truTo rs pr st bs vs k))) ∧ Hid (Below wA.heap.size wA wr)) (fun _ i _ => q - (intOf i).toNat)
  case atStart => exact ⟨0, rfl, Nat.zero_le _, O1, A1⟩
  case round =>
    obtain ⟨k, rfl, hk, H1, H3⟩ := hrel
    have hk0 : (0 : Int) ≤ (k : Int) := by omega
    have H2 := Lib.hid (bT B0.out H3.out)
    obtain ⟨c0, c1, c2, c3, c4, c5, c6, c7, c8, c9, c10, c11, c12, cf, cl⟩ := cells13 ((H3.out.block w.heap.size (by rw [HS.out]; omega)).trans N0.out)
    by_cases h1 : k < q
    · have h1' : (k : Int) < (q : Int) := by omega
      have hlt : k < bs.length := by rw [HQ.out]; exact h1
      have hlv : k < vs.length := by rw [HA.out]; omega
      have hlr : k < rs.length := by rw [HN.out]; have := HRN.out; omega
      obtain ⟨g, o, rfl, ZB⟩ : ∃ c o, bl = some ⟨c, o, none⟩ ∧ PrAt w c o bs := by
        rcases HB.out with e | h
        · rw [e] at hlt; simp at hlt
        · exact h
      obtain ⟨g', o', rfl, ZV⟩ : ∃ c o, vl = some ⟨c, o, none⟩ ∧ PlAt w c o vs := by
        rcases HV.out with e | h
        · rw [e] at hlv; simp at hlv
        · exact h
      obtain ⟨gs, os, rfl, ZS⟩ : ∃ c o, sl = some ⟨c, o, none⟩ ∧ StAt w c o rs := by
        rcases HZ.out.row with e | h
        · rw [e] at hlr; simp at hlr
        · exact h
      have hsc1 := HSC.out _ (List.getElem_mem hlr)
      have vt1 := VT.out k _ _ (by omega) (List.getElem?_eq_getElem hlv) (List.getElem?_eq_getElem hlt)
      obtain ⟨x, y, z, hp⟩ : ∃ a b c, bs[k] = (a, b, c) := ⟨_, _, _, rfl⟩
      obtain ⟨x', v, hp'⟩ : ∃ a b, vs[k] = (a, b) := ⟨_, _, rfl⟩
      have ex : x' = x := by rw [hp, hp'] at vt1; exact vt1.1
      subst ex
      have KC : Hid (∀ W, Below wA.heap.size wA W → w.heap.size < W.heap.size ∧ W.cell? ⟨w.heap.size, 0, none⟩ = some (.slice (some ⟨gs, os, none⟩) n cap) ∧ W.cell? ⟨w.heap.size, 1, none⟩ = some (.slice tl m kap) ∧ W.cell? ⟨w.heap.size, 2, none⟩ = some (.int .i64 top) ∧ W.cell? ⟨w.heap.size, 3, none⟩ = some (.int .i64 pr) ∧ W.cell? ⟨w.heap.size, 4, none⟩ = some (.int .i64 st) ∧ W.cell? ⟨w.heap.size, 5, none⟩ = some (.int .i64 bu) ∧ W.cell? ⟨w.heap.size, 6, none⟩ = some (.slice (some ⟨g, o, none⟩) q cb) ∧ W.cell? ⟨w.heap.size, 7, none⟩ = some (.slice pl p cp) ∧ W.cell? ⟨w.heap.size, 8, none⟩ = some (.slice ul u cu) ∧ W.cell? ⟨w.heap.size, 9, none⟩ = some (.int .i64 ai) ∧ W.cell? ⟨w.heap.size, 10, none⟩ = some (.int .i64 fx) ∧ W.cell? ⟨w.heap.size, 11, none⟩ = some (.bool gc) ∧ W.cell? ⟨w.heap.size, 12, none⟩ = some (.bool gf)) := fun W hW => by
        obtain ⟨c0, c1, c2, c3, c4, c5, c6, c7, c8, c9, c10, c11, c12, cf, cl⟩ := cells13 ((hW.block w.heap.size (by rw [HS.out]; omega)).trans N0.out)
        exact ⟨cl, c0, c1, c2, c3, c4, c5, c6, c7, c8, c9, c10, c11, c12⟩
      have KV : Hid (∀ W, Below wA.heap.size wA W → g' < W.heap.size ∧ W.cell? ⟨g', o' + k * 2, none⟩ = some (.int .i64 x') ∧ W.cell? ⟨g', o' + k * 2 + 1, none⟩ = some (.int .i64 v)) := fun W hW => by
        obtain ⟨f0, f1⟩ := (ZV.below (bT B0.out hW)).cell k hlv
        rw [hp'] at f0 f1
        exact ⟨(ZV.below (bT B0.out hW)).lt, f0, f1⟩
      have KD : Hid (∀ W, Below wA.heap.size wA W → g < W.heap.size ∧ W.cell? ⟨g, o + k * 3, none⟩ = some (.int .i64 x') ∧ W.cell? ⟨g, o + k * 3 + 1, none⟩ = some (.int .i64 y) ∧ W.cell? ⟨g, o + k * 3 + 2, none⟩ = some (.int .i64 z)) := fun W hW => by
        obtain ⟨f0, f1, f2⟩ := (ZB.below (bT B0.out hW)).cell k hlt
        rw [hp] at f0 f1 f2
        exact ⟨(ZB.below (bT B0.out hW)).lt, f0, f1, f2⟩
      have KO : Hid (∀ W, Below w.heap.size w W → StAt W gs os rs) := fun W hW => ZS.below hW
      have YY := Lib.hid (truTo_yes rs pr st bs vs k hlr hlt hlv)
      have NN := Lib.hid (truTo_no rs pr st bs vs k hlr hlt hlv)
      rw [hp, hp'] at YY NN
      dsimp only at YY NN
      have LE : (truTo rs pr st bs vs k).length ≤ k := truTo_len rs pr st bs vs k
      have hs := H3.out.size
      have hn' : rs.length ≤ 1048576 := by rw [HN.out]; exact hn
      obtain ⟨e0, e1, e2⟩ := (KD.out wr H3.out).2
      have zl := (KD.out wr H3.out).1
      obtain ⟨f0, f1⟩ := (KV.out wr H3.out).2
      have zv := (KV.out wr H3.out).1
      have HLR := Lib.hid HN.out
      generalize hscE : rs[k].2.1 = sc at *
      have EO : Hid (∀ W, Below w.heap.size w W → Calls Tryz.prog 31 #[CV (some ⟨gs, os, none⟩) n cap tl m kap top pr st bu (some ⟨g, o, none⟩) q cb pl p cp, .int .i64 k] W fun e w' => e = .returned (.int .i64 (sc * nxt pr st)) ∧ Below W.heap.size W w') := fun W hW => by
        have := so_any gs os cap tl m kap top pr st bu (some ⟨g, o, none⟩) q cb pl p cp rs k sc W hn' (KO.out W hW) hlr hscE hsc1 HPR.out HST.out
        rwa [HLR.out] at this
      clear hp hp' ZB ZV ZS hlt hlv HB HV HZ VT vt1 hscE hlr hsc1 hn'
      go_wp2_with fail
      clear c0 c1 c2 c3 c4 c5 c6 c7 c8 c9 c10 c11 c12 cf cl e0 e1 e2 f0 f1 zl zv
      have KX : Hid (∀ W, Below wr.heap.size wr W → w.heap.size < W.heap.size ∧ W.cell? ⟨w.heap.size, 0, none⟩ = some (.slice (some ⟨gs, os, none⟩) n cap) ∧ W.cell? ⟨w.heap.size, 1, none⟩ = some (.slice tl m kap) ∧ W.cell? ⟨w.heap.size, 2, none⟩ = some (.int .i64 top) ∧ W.cell? ⟨w.heap.size, 3, none⟩ = some (.int .i64 pr) ∧ W.cell? ⟨w.heap.size, 4, none⟩ = some (.int .i64 st) ∧ W.cell? ⟨w.heap.size, 5, none⟩ = some (.int .i64 bu) ∧ W.cell? ⟨w.heap.size, 6, none⟩ = some (.slice (some ⟨g, o, none⟩) q cb) ∧ W.cell? ⟨w.heap.size, 7, none⟩ = some (.slice pl p cp) ∧ W.cell? ⟨w.heap.size, 8, none⟩ = some (.slice ul u cu) ∧ W.cell? ⟨w.heap.size, 9, none⟩ = some (.int .i64 ai) ∧ W.cell? ⟨w.heap.size, 10, none⟩ = some (.int .i64 fx) ∧ W.cell? ⟨w.heap.size, 11, none⟩ = some (.bool gc) ∧ W.cell? ⟨w.heap.size, 12, none⟩ = some (.bool gf) ∧ g' < W.heap.size ∧ W.cell? ⟨g', o' + k * 2, none⟩ = some (.int .i64 x') ∧ W.cell? ⟨g', o' + k * 2 + 1, none⟩ = some (.int .i64 v) ∧ g < W.heap.size ∧ W.cell? ⟨g, o + k * 3, none⟩ = some (.int .i64 x') ∧ W.cell? ⟨g, o + k * 3 + 1, none⟩ = some (.int .i64 y) ∧ W.cell? ⟨g, o + k * 3 + 2, none⟩ = some (.int .i64 z)) := fun W hW => by
        have hA := bT H3.out hW
        obtain ⟨k0, k1, k2, k3, k4, k5, k6, k7, k8, k9, k10, k11, k12, k13⟩ := KC.out W hA
        obtain ⟨l0, l1, l2⟩ := KV.out W hA
        obtain ⟨a3, a0, a1, a2⟩ := KD.out W hA
        exact ⟨k0, k1, k2, k3, k4, k5, k6, k7, k8, k9, k10, k11, k12, k13, l0, l1, l2, a3, a0, a1, a2⟩
      by_cases hy : (y == 1) = true
      · have YY1 := Lib.hid (YY.out (by simpa using hy))
        have NN1 := Lib.hid (show ¬ v ≤ sc * nxt pr st → truTo rs pr st bs vs (k + 1) = truTo rs pr st bs vs k from fun hh => NN.out (fun h => hh h.2))
        clear YY NN
        refine wp_region_held_drew (S := fun W => w.heap.size < W.heap.size ∧ W.cell? ⟨w.heap.size, 0, none⟩ = some (.slice (some ⟨gs, os, none⟩) n cap) ∧ W.cell? ⟨w.heap.size, 1, none⟩ = some (.slice tl m kap) ∧ W.cell? ⟨w.heap.size, 2, none⟩ = some (.int .i64 top) ∧ W.cell? ⟨w.heap.size, 3, none⟩ = some (.int .i64 pr) ∧ W.cell? ⟨w.heap.size, 4, none⟩ = some (.int .i64 st) ∧ W.cell? ⟨w.heap.size, 5, none⟩ = some (.int .i64 bu) ∧ W.cell? ⟨w.heap.size, 6, none⟩ = some (.slice (some ⟨g, o, none⟩) q cb) ∧ W.cell? ⟨w.heap.size, 7, none⟩ = some (.slice pl p cp) ∧ W.cell? ⟨w.heap.size, 8, none⟩ = some (.slice ul u cu) ∧ W.cell? ⟨w.heap.size, 9, none⟩ = some (.int .i64 ai) ∧ W.cell? ⟨w.heap.size, 10, none⟩ = some (.int .i64 fx) ∧ W.cell? ⟨w.heap.size, 11, none⟩ = some (.bool gc) ∧ W.cell? ⟨w.heap.size, 12, none⟩ = some (.bool gf) ∧ g' < W.heap.size ∧ W.cell? ⟨g', o' + k * 2, none⟩ = some (.int .i64 x') ∧ W.cell? ⟨g', o' + k * 2 + 1, none⟩ = some (.int .i64 v) ∧ g < W.heap.size ∧ W.cell? ⟨g, o + k * 3, none⟩ = some (.int .i64 x') ∧ W.cell? ⟨g, o + k * 3 + 1, none⟩ = some (.int .i64 y) ∧ W.cell? ⟨g, o + k * 3 + 2, none⟩ = some (.int .i64 z)) (by kernel_rfl) ?_ (fun hHeld => ?_)
        · exact KX.out _ (Below.refl _ _).drew
        refine wpAnyH_take (i := 0) (oi := _) (v := ?_) rfl (by kernel_rfl) (by kernel_rfl) (by kernel_rfl) (fun _ _ _ h => h) (Or.inl ⟨by rfl, ?_⟩) (by assumption) ?_
        rotate_left
        · first | (intro w hSw; (try dsimp only at hSw); go_simp; done) | (intro w hSw; (try dsimp only at hSw); go_simp; with_reducible rfl)
        try simp only [Act.put, List.setIfInBounds_toArray, List.set_cons_zero, List.set_cons_succ, List.getElem_toArray, List.getElem_cons_zero]
        refine wpAnyH_take (i := 1) (oi := _) (v := ?_) rfl (by kernel_rfl) (by kernel_rfl) (by kernel_rfl) (fun _ _ _ h => h) (Or.inl ⟨by rfl, ?_⟩) (by assumption) ?_
        rotate_left
        · first | (intro w hSw; (try dsimp only at hSw); go_simp; done) | (intro w hSw; (try dsimp only at hSw); go_simp; with_reducible rfl)
        try simp only [Act.put, List.setIfInBounds_toArray, List.set_cons_zero, List.set_cons_succ, List.getElem_toArray, List.getElem_cons_succ, List.getElem_cons_zero]
        refine wpAnyH_take (i := 2) (oi := _) (v := ?_) rfl (by kernel_rfl) (by kernel_rfl) (by kernel_rfl) (fun _ _ _ h => h) (Or.inl ⟨by rfl, ?_⟩) (by assumption) ?_
        rotate_left
        · first | (intro w hSw; (try dsimp only at hSw); go_simp; done) | (intro w hSw; (try dsimp only at hSw); go_simp; with_reducible rfl)
        try simp only [Act.put, List.setIfInBounds_toArray, List.set_cons_zero, List.set_cons_succ, List.getElem_toArray, List.getElem_cons_succ, List.getElem_cons_zero]
        refine wpAnyH_take (i := 3) (oi := _) (v := ?_) rfl (by kernel_rfl) (by kernel_rfl) (by kernel_rfl) (fun _ _ _ h => h) (Or.inl ⟨by rfl, ?_⟩) (by assumption) ?_
        rotate_left
        · first | (intro w hSw; (try dsimp only at hSw); go_simp; done) | (intro w hSw; (try dsimp only at hSw); go_simp; with_reducible rfl)
        try simp only [Act.put, List.setIfInBounds_toArray, List.set_cons_zero, List.set_cons_succ, List.getElem_toArray, List.getElem_cons_succ, List.getElem_cons_zero]
        refine wpAnyH_take (i := 4) (oi := _) (v := ?_) rfl (by kernel_rfl) (by kernel_rfl) (by kernel_rfl) (fun _ _ _ h => h) (Or.inl ⟨by rfl, ?_⟩) (by assumption) ?_
        rotate_left
        · first | (intro w hSw; (try dsimp only at hSw); go_simp; done) | (intro w hSw; (try dsimp only at hSw); go_simp; with_reducible rfl)
        try simp only [Act.put, List.setIfInBounds_toArray, List.set_cons_zero, List.set_cons_succ, List.getElem_toArray, List.getElem_cons_succ, List.getElem_cons_zero]
        refine wpAnyH_take (i := 5) (oi := _) (v := ?_) rfl (by kernel_rfl) (by kernel_rfl) (by kernel_rfl) (fun _ _ _ h => h) (Or.inl ⟨by rfl, ?_⟩) (by assumption) ?_
        rotate_left
        · first | (intro w hSw; (try dsimp only at hSw); go_simp; done) | (intro w hSw; (try dsimp only at hSw); go_simp; with_reducible rfl)
        try simp only [Act.put, List.setIfInBounds_toArray, List.set_cons_zero, List.set_cons_succ, List.getElem_toArray, List.getElem_cons_succ, List.getElem_cons_zero]
        refine wpAnyH_take (i := 6) (oi := _) (v := ?_) rfl (by kernel_rfl) (by kernel_rfl) (by kernel_rfl) (fun _ _ _ h => h) (Or.inl ⟨by rfl, ?_⟩) (by assumption) ?_
        rotate_left
        · first | (intro w hSw; (try dsimp only at hSw); go_simp; done) | (intro w hSw; (try dsimp only at hSw); go_simp; with_reducible rfl)
        try simp only [Act.put, List.setIfInBounds_toArray, List.set_cons_zero, List.set_cons_succ, List.getElem_toArray, List.getElem_cons_succ, List.getElem_cons_zero]
        refine wpAnyH_take (i := 7) (oi := _) (v := ?_) rfl (by kernel_rfl) (by kernel_rfl) (by kernel_rfl) (fun _ _ _ h => h) (Or.inl ⟨by rfl, ?_⟩) (by assumption) ?_
        rotate_left
        · first | (intro w hSw; (try dsimp only at hSw); go_simp; done) | (intro w hSw; (try dsimp only at hSw); go_simp; with_reducible rfl)
        try simp only [Act.put, List.setIfInBounds_toArray, List.set_cons_zero, List.set_cons_succ, List.getElem_toArray, List.getElem_cons_succ, List.getElem_cons_zero]
        refine wpAnyH_take (i := 8) (oi := _) (v := ?_) rfl (by kernel_rfl) (by kernel_rfl) (by kernel_rfl) (fun _ _ _ h => h) (Or.inl ⟨by rfl, ?_⟩) (by assumption) ?_
        rotate_left
        · first | (intro w hSw; (try dsimp only at hSw); go_simp; done) | (intro w hSw; (try dsimp only at hSw); go_simp; with_reducible rfl)
        try simp only [Act.put, List.setIfInBounds_toArray, List.set_cons_zero, List.set_cons_succ, List.getElem_toArray, List.getElem_cons_succ, List.getElem_cons_zero]
        refine wpAnyH_take (i := 9) (oi := _) (v := ?_) rfl (by kernel_rfl) (by kernel_rfl) (by kernel_rfl) (fun _ _ _ h => h) (Or.inl ⟨by rfl, ?_⟩) (by assumption) ?_
        rotate_left
        · first | (intro w hSw; (try dsimp only at hSw); go_simp; done) | (intro w hSw; (try dsimp only at hSw); go_simp; with_reducible rfl)
        try simp only [Act.put, List.setIfInBounds_toArray, List.set_cons_zero, List.set_cons_succ, List.getElem_toArray, List.getElem_cons_succ, List.getElem_cons_zero]
        refine wpAnyH_take (i := 10) (oi := _) (v := ?_) rfl (by kernel_rfl) (by kernel_rfl) (by kernel_rfl) (fun _ _ _ h => h) (Or.inl ⟨by rfl, ?_⟩) (by assumption) ?_
        rotate_left
        · first | (intro w hSw; (try dsimp only at hSw); go_simp; done) | (intro w hSw; (try dsimp only at hSw); go_simp; with_reducible rfl)
        try simp only [Act.put, List.setIfInBounds_toArray, List.set_cons_zero, List.set_cons_succ, List.getElem_toArray, List.getElem_cons_succ, List.getElem_cons_zero]
        refine wpAnyH_take (i := 11) (oi := _) (v := ?_) rfl (by kernel_rfl) (by kernel_rfl) (by kernel_rfl) (fun _ _ _ h => h) (Or.inl ⟨by rfl, ?_⟩) (by assumption) ?_
        rotate_left
        · first | (intro w hSw; (try dsimp only at hSw); go_simp; done) | (intro w hSw; (try dsimp only at hSw); go_simp; with_reducible rfl)
        try simp only [Act.put, List.setIfInBounds_toArray, List.set_cons_zero, List.set_cons_succ, List.getElem_toArray, List.getElem_cons_succ, List.getElem_cons_zero]
        refine wpAnyH_take (i := 13) (oi := _) (v := ?_) rfl (by kernel_rfl) (by kernel_rfl) (by kernel_rfl) (fun _ _ _ h => h) (Or.inl ⟨by rfl, ?_⟩) (by assumption) ?_
        rotate_left
        · first | (intro w hSw; (try dsimp only at hSw); go_simp; done) | (intro w hSw; (try dsimp only at hSw); go_simp; with_reducible rfl)
        try simp only [Act.put, List.setIfInBounds_toArray, List.set_cons_zero, List.set_cons_succ, List.getElem_toArray, List.getElem_cons_succ, List.getElem_cons_zero]
        refine wpAnyH_take (i := 14) (oi := _) (v := ?_) rfl (by kernel_rfl) (by kernel_rfl) (by kernel_rfl) (fun _ _ _ h => h) (Or.inl ⟨by rfl, ?_⟩) (by assumption) ?_
        rotate_left
        · first | (intro w hSw; (try dsimp only at hSw); go_simp; done) | (intro w hSw; (try dsimp only at hSw); go_simp; with_reducible rfl)
        try simp only [Act.put, List.setIfInBounds_toArray, List.set_cons_zero, List.set_cons_succ, List.getElem_toArray, List.getElem_cons_succ, List.getElem_cons_zero]
        refine wpAnyH_take (i := 15) (oi := _) (v := ?_) rfl (by kernel_rfl) (by kernel_rfl) (by kernel_rfl) (fun _ _ _ h => h) (Or.inl ⟨by rfl, ?_⟩) (by assumption) ?_
        rotate_left
        · first | (intro w hSw; (try dsimp only at hSw); go_simp; done) | (intro w hSw; (try dsimp only at hSw); go_simp; with_reducible rfl)
        try simp only [Act.put, List.setIfInBounds_toArray, List.set_cons_zero, List.set_cons_succ, List.getElem_toArray, List.getElem_cons_succ, List.getElem_cons_zero]
        refine wpAnyH_take (i := 16) (oi := _) (v := ?_) rfl (by kernel_rfl) (by kernel_rfl) (by kernel_rfl) (fun _ _ _ h => h) (Or.inl ⟨by rfl, ?_⟩) (by assumption) ?_
        rotate_left
        · first | (intro w hSw; (try dsimp only at hSw); go_simp; done) | (intro w hSw; (try dsimp only at hSw); go_simp; with_reducible rfl)
        try simp only [Act.put, List.setIfInBounds_toArray, List.set_cons_zero, List.set_cons_succ, List.getElem_toArray, List.getElem_cons_succ, List.getElem_cons_zero]
        refine wpAnyH_take (i := 17) (oi := _) (v := ?_) rfl (by kernel_rfl) (by kernel_rfl) (by kernel_rfl) (fun _ _ _ h => h) (Or.inl ⟨by rfl, ?_⟩) (by assumption) ?_
        rotate_left
        · first | (intro w hSw; (try dsimp only at hSw); go_simp; done) | (intro w hSw; (try dsimp only at hSw); go_simp; with_reducible rfl)
        try simp only [Act.put, List.setIfInBounds_toArray, List.set_cons_zero, List.set_cons_succ, List.getElem_toArray, List.getElem_cons_succ, List.getElem_cons_zero]
        refine wpAnyH_ready (rs := [12]) (by kernel_rfl) (by simp) ?_
        refine AllReadyH.cons rfl (fun K hK => ?_) AllReadyH.nil
        go_simp
        go_wp2_with (go_at_call 31; refine (EO.out _ (H2.out.drew)).mono ?_; rintro e w7 ⟨rfl, b7⟩)
        have F7 : Hid (Below wr.heap.size wr w7) := bT ((Below.refl wr.heap.size wr).drew) b7
        clear b7
        refine hK.out _ _ ?_ (fun hHeld => ?_)
        · exact KX.out _ F7.out
        clear hK K
        refine wpAnyH_take (i := 18) (oi := _) (v := ?_) rfl (by kernel_rfl) (by kernel_rfl) (by kernel_rfl) (fun _ _ _ h => h) (Or.inl ⟨by rfl, ?_⟩) (by assumption) ?_
        rotate_left
        · first | (intro w hSw; (try dsimp only at hSw); go_simp; done) | (intro w hSw; (try dsimp only at hSw); go_simp; with_reducible rfl)
        try simp only [Act.put, List.setIfInBounds_toArray, List.set_cons_zero, List.set_cons_succ, List.getElem_toArray, List.getElem_cons_succ, List.getElem_cons_zero]
        refine wpAnyH_take (i := 19) (oi := _) (v := ?_) rfl (by kernel_rfl) (by kernel_rfl) (by kernel_rfl) (fun _ _ _ h => h) (Or.inl ⟨by rfl, ?_⟩) (by assumption) ?_
        rotate_left
        · first | (intro w hSw; (try dsimp only at hSw); go_simp; done) | (intro w hSw; (try dsimp only at hSw); go_simp; with_reducible rfl)
        try simp only [Act.put, List.setIfInBounds_toArray, List.set_cons_zero, List.set_cons_succ, List.getElem_toArray, List.getElem_cons_succ, List.getElem_cons_zero]
        refine wpAnyH_done (by kernel_rfl) ?_ _

        have A7 := Lib.hid (bT H3.out F7.out)
        have R7 := Lib.hid (own_below H1.out F7.out)
        have S7 := KX.out _ F7.out
        obtain ⟨s0, s1, s2, s3, s4, s5, s6, s7, s8, s9, s10, s11, s12, s13, m0, m1, m2, a3, a0, a1, a2⟩ := S7
        have hs7 := F7.out.size
        clear F7 EO KX KC KV KD KO
        by_cases hg : v ≤ sc * nxt pr st
        · have EQ := Lib.hid (YY1.out hg)
          have dg : decide (v ≤ sc * nxt pr st) = true := decide_eq_true hg
          clear YY1 NN1
          go_wp2_with (first | (at_builtin; refine wpList_append_lies _ rfl (.tmp 39) (.tmp 45) 30 rfl (w.heap.size + 1) 2 i0 (.int .i64 0) 1 8 Tryz.underlying30 hi0 hz0 hz1 hz2 rfl (by decide) _ _ _ rfl (R7.out.alloc _) ⟨w7.heap.size, 0, none⟩ 1 1 [.int .i64 x'] (by simp [Act.eval]) rfl (cell_one_new _ _ _) (by intro u hu; simp at hu; subst hu; rfl) (by decide) (by unfold maxLen; omega) (by omega) (by simp; omega) (w7.heap.size + 1) (by simp) ?_))
          intro g9 cap9 w9 own9 grow9 hg9 hlt9
          have B9 := Lib.hid ((bA A7.out (.cells #[.int .i64 x'] 2)).grown grow9 (by simp; omega) (fun j hj => by have := (R7.out.lt j hj).1; have := HS.out; omega))
          have N9 := Lib.hid (show w9.ownsRow (w.heap.size + 1) 2 1 _ (truTo rs pr st bs vs (k + 1)).length (valsZ (truTo rs pr st bs vs (k + 1))) by
            rw [EQ.out]
            have : valsZ (truTo rs pr st bs vs k ++ [x']) = valsZ (truTo rs pr st bs vs k) ++ [.int .i64 x'] := by simp [valsZ]
            rw [this, List.length_append]
            exact own9)
          clear own9 grow9 hg9 hlt9 EQ hs LE HLR HRN HN HQ HA R7
          try clear HS5
          go_wp2
          go_roundw
          case rel =>
            first
            | exact ⟨k + 1, by go_num, by omega, N9, B9⟩
            | (repeat apply Exists.intro
               refine ⟨⟨k + 1, ?_, by omega, N9, B9⟩, ?_⟩
               rotate_left
               · (repeat' apply And.intro) <;> rfl
               · go_num)
          case measure => simp [intOf]; omega
        · have EQ := Lib.hid (NN1.out (by omega))
          have dg : decide (v ≤ sc * nxt pr st) = false := decide_eq_false hg
          clear YY1 NN1
          have N9 := Lib.hid (show World.ownsRow _ (w.heap.size + 1) 2 1 _ (truTo rs pr st bs vs (k + 1)).length (valsZ (truTo rs pr st bs vs (k + 1))) by rw [EQ.out]; exact R7.out)
          clear EQ hs LE HLR HRN HN HQ HA R7
          try clear HS5
          go_wp2
          go_roundw
          case rel =>
            first
            | exact ⟨k + 1, by go_num, by omega, N9, A7⟩
            | (repeat apply Exists.intro
               refine ⟨⟨k + 1, ?_, by omega, N9, A7⟩, ?_⟩
               rotate_left
               · (repeat' apply And.intro) <;> rfl
               · go_num)
          case measure => simp [intOf]; omega
      · have hy' : (y == 1) = false := by simpa using hy
        have EQ := Lib.hid (NN.out (fun h => hy (by simpa using h.1)))
        clear YY NN
        refine wp_region_held_drew (S := fun W => w.heap.size < W.heap.size ∧ W.cell? ⟨w.heap.size, 0, none⟩ = some (.slice (some ⟨gs, os, none⟩) n cap) ∧ W.cell? ⟨w.heap.size, 1, none⟩ = some (.slice tl m kap) ∧ W.cell? ⟨w.heap.size, 2, none⟩ = some (.int .i64 top) ∧ W.cell? ⟨w.heap.size, 3, none⟩ = some (.int .i64 pr) ∧ W.cell? ⟨w.heap.size, 4, none⟩ = some (.int .i64 st) ∧ W.cell? ⟨w.heap.size, 5, none⟩ = some (.int .i64 bu) ∧ W.cell? ⟨w.heap.size, 6, none⟩ = some (.slice (some ⟨g, o, none⟩) q cb) ∧ W.cell? ⟨w.heap.size, 7, none⟩ = some (.slice pl p cp) ∧ W.cell? ⟨w.heap.size, 8, none⟩ = some (.slice ul u cu) ∧ W.cell? ⟨w.heap.size, 9, none⟩ = some (.int .i64 ai) ∧ W.cell? ⟨w.heap.size, 10, none⟩ = some (.int .i64 fx) ∧ W.cell? ⟨w.heap.size, 11, none⟩ = some (.bool gc) ∧ W.cell? ⟨w.heap.size, 12, none⟩ = some (.bool gf) ∧ g' < W.heap.size ∧ W.cell? ⟨g', o' + k * 2, none⟩ = some (.int .i64 x') ∧ W.cell? ⟨g', o' + k * 2 + 1, none⟩ = some (.int .i64 v) ∧ g < W.heap.size ∧ W.cell? ⟨g, o + k * 3, none⟩ = some (.int .i64 x') ∧ W.cell? ⟨g, o + k * 3 + 1, none⟩ = some (.int .i64 y) ∧ W.cell? ⟨g, o + k * 3 + 2, none⟩ = some (.int .i64 z)) (by kernel_rfl) ?_ (fun hHeld => ?_)
        · exact KX.out _ (Below.refl _ _).drew
        refine wpAnyH_take (i := 0) (oi := _) (v := ?_) rfl (by kernel_rfl) (by kernel_rfl) (by kernel_rfl) (fun _ _ _ h => h) (Or.inl ⟨by rfl, ?_⟩) (by assumption) ?_
        rotate_left
        · first | (intro w hSw; (try dsimp only at hSw); go_simp; done) | (intro w hSw; (try dsimp only at hSw); go_simp; with_reducible rfl)
        try simp only [Act.put, List.setIfInBounds_toArray, List.set_cons_zero, List.set_cons_succ, List.getElem_toArray, List.getElem_cons_zero]
        refine wpAnyH_take (i := 1) (oi := _) (v := ?_) rfl (by kernel_rfl) (by kernel_rfl) (by kernel_rfl) (fun _ _ _ h => h) (Or.inl ⟨by rfl, ?_⟩) (by assumption) ?_
        rotate_left
        · first | (intro w hSw; (try dsimp only at hSw); go_simp; done) | (intro w hSw; (try dsimp only at hSw); go_simp; with_reducible rfl)
        try simp only [Act.put, List.setIfInBounds_toArray, List.set_cons_zero, List.set_cons_succ, List.getElem_toArray, List.getElem_cons_succ, List.getElem_cons_zero]
        refine wpAnyH_take (i := 2) (oi := _) (v := ?_) rfl (by kernel_rfl) (by kernel_rfl) (by kernel_rfl) (fun _ _ _ h => h) (Or.inl ⟨by rfl, ?_⟩) (by assumption) ?_
        rotate_left
        · first | (intro w hSw; (try dsimp only at hSw); go_simp; done) | (intro w hSw; (try dsimp only at hSw); go_simp; with_reducible rfl)
        try simp only [Act.put, List.setIfInBounds_toArray, List.set_cons_zero, List.set_cons_succ, List.getElem_toArray, List.getElem_cons_succ, List.getElem_cons_zero]
        refine wpAnyH_take (i := 3) (oi := _) (v := ?_) rfl (by kernel_rfl) (by kernel_rfl) (by kernel_rfl) (fun _ _ _ h => h) (Or.inl ⟨by rfl, ?_⟩) (by assumption) ?_
        rotate_left
        · first | (intro w hSw; (try dsimp only at hSw); go_simp; done) | (intro w hSw; (try dsimp only at hSw); go_simp; with_reducible rfl)
        try simp only [Act.put, List.setIfInBounds_toArray, List.set_cons_zero, List.set_cons_succ, List.getElem_toArray, List.getElem_cons_succ, List.getElem_cons_zero]
        refine wpAnyH_take (i := 4) (oi := _) (v := ?_) rfl (by kernel_rfl) (by kernel_rfl) (by kernel_rfl) (fun _ _ _ h => h) (Or.inl ⟨by rfl, ?_⟩) (by assumption) ?_
        rotate_left
        · first | (intro w hSw; (try dsimp only at hSw); go_simp; done) | (intro w hSw; (try dsimp only at hSw); go_simp; with_reducible rfl)
        try simp only [Act.put, List.setIfInBounds_toArray, List.set_cons_zero, List.set_cons_succ, List.getElem_toArray, List.getElem_cons_succ, List.getElem_cons_zero]
        refine wpAnyH_take (i := 5) (oi := _) (v := ?_) rfl (by kernel_rfl) (by kernel_rfl) (by kernel_rfl) (fun _ _ _ h => h) (Or.inl ⟨by rfl, ?_⟩) (by assumption) ?_
        rotate_left
        · first | (intro w hSw; (try dsimp only at hSw); go_simp; done) | (intro w hSw; (try dsimp only at hSw); go_simp; with_reducible rfl)
        try simp only [Act.put, List.setIfInBounds_toArray, List.set_cons_zero, List.set_cons_succ, List.getElem_toArray, List.getElem_cons_succ, List.getElem_cons_zero]
        refine wpAnyH_take (i := 6) (oi := _) (v := ?_) rfl (by kernel_rfl) (by kernel_rfl) (by kernel_rfl) (fun _ _ _ h => h) (Or.inl ⟨by rfl, ?_⟩) (by assumption) ?_
        rotate_left
        · first | (intro w hSw; (try dsimp only at hSw); go_simp; done) | (intro w hSw; (try dsimp only at hSw); go_simp; with_reducible rfl)
        try simp only [Act.put, List.setIfInBounds_toArray, List.set_cons_zero, List.set_cons_succ, List.getElem_toArray, List.getElem_cons_succ, List.getElem_cons_zero]
        refine wpAnyH_take (i := 7) (oi := _) (v := ?_) rfl (by kernel_rfl) (by kernel_rfl) (by kernel_rfl) (fun _ _ _ h => h) (Or.inl ⟨by rfl, ?_⟩) (by assumption) ?_
        rotate_left
        · first | (intro w hSw; (try dsimp only at hSw); go_simp; done) | (intro w hSw; (try dsimp only at hSw); go_simp; with_reducible rfl)
        try simp only [Act.put, List.setIfInBounds_toArray, List.set_cons_zero, List.set_cons_succ, List.getElem_toArray, List.getElem_cons_succ, List.getElem_cons_zero]
        refine wpAnyH_take (i := 8) (oi := _) (v := ?_) rfl (by kernel_rfl) (by kernel_rfl) (by kernel_rfl) (fun _ _ _ h => h) (Or.inl ⟨by rfl, ?_⟩) (by assumption) ?_
        rotate_left
        · first | (intro w hSw; (try dsimp only at hSw); go_simp; done) | (intro w hSw; (try dsimp only at hSw); go_simp; with_reducible rfl)
        try simp only [Act.put, List.setIfInBounds_toArray, List.set_cons_zero, List.set_cons_succ, List.getElem_toArray, List.getElem_cons_succ, List.getElem_cons_zero]
        refine wpAnyH_take (i := 9) (oi := _) (v := undef) rfl (by kernel_rfl) (by kernel_rfl) (by kernel_rfl) (fun _ _ _ h => h) (Or.inr ⟨by rfl, rfl⟩) (by assumption) ?_
        try simp only [Act.put, List.setIfInBounds_toArray, List.set_cons_zero, List.set_cons_succ, List.getElem_toArray, List.getElem_cons_succ, List.getElem_cons_zero]
        refine wpAnyH_take (i := 10) (oi := _) (v := undef) rfl (by kernel_rfl) (by kernel_rfl) (by kernel_rfl) (fun _ _ _ h => h) (Or.inr ⟨by rfl, rfl⟩) (by assumption) ?_
        try simp only [Act.put, List.setIfInBounds_toArray, List.set_cons_zero, List.set_cons_succ, List.getElem_toArray, List.getElem_cons_succ, List.getElem_cons_zero]
        refine wpAnyH_take (i := 11) (oi := _) (v := undef) rfl (by kernel_rfl) (by kernel_rfl) (by kernel_rfl) (fun _ _ _ h => h) (Or.inr ⟨by rfl, rfl⟩) (by assumption) ?_
        try simp only [Act.put, List.setIfInBounds_toArray, List.set_cons_zero, List.set_cons_succ, List.getElem_toArray, List.getElem_cons_succ, List.getElem_cons_zero]
        refine wpAnyH_take (i := 12) (oi := _) (v := undef) rfl (by kernel_rfl) (by kernel_rfl) (by kernel_rfl) (fun _ _ _ h => h) (Or.inr ⟨by rfl, rfl⟩) (by assumption) ?_
        try simp only [Act.put, List.setIfInBounds_toArray, List.set_cons_zero, List.set_cons_succ, List.getElem_toArray, List.getElem_cons_succ, List.getElem_cons_zero]
        refine wpAnyH_take (i := 13) (oi := _) (v := undef) rfl (by kernel_rfl) (by kernel_rfl) (by kernel_rfl) (fun _ _ _ h => h) (Or.inr ⟨by rfl, rfl⟩) (by assumption) ?_
        try simp only [Act.put, List.setIfInBounds_toArray, List.set_cons_zero, List.set_cons_succ, List.getElem_toArray, List.getElem_cons_succ, List.getElem_cons_zero]
        refine wpAnyH_take (i := 14) (oi := _) (v := undef) rfl (by kernel_rfl) (by kernel_rfl) (by kernel_rfl) (fun _ _ _ h => h) (Or.inr ⟨by rfl, rfl⟩) (by assumption) ?_
        try simp only [Act.put, List.setIfInBounds_toArray, List.set_cons_zero, List.set_cons_succ, List.getElem_toArray, List.getElem_cons_succ, List.getElem_cons_zero]
        refine wpAnyH_take (i := 15) (oi := _) (v := undef) rfl (by kernel_rfl) (by kernel_rfl) (by kernel_rfl) (fun _ _ _ h => h) (Or.inr ⟨by rfl, rfl⟩) (by assumption) ?_
        try simp only [Act.put, List.setIfInBounds_toArray, List.set_cons_zero, List.set_cons_succ, List.getElem_toArray, List.getElem_cons_succ, List.getElem_cons_zero]
        refine wpAnyH_take (i := 16) (oi := _) (v := undef) rfl (by kernel_rfl) (by kernel_rfl) (by kernel_rfl) (fun _ _ _ h => h) (Or.inr ⟨by rfl, rfl⟩) (by assumption) ?_
        try simp only [Act.put, List.setIfInBounds_toArray, List.set_cons_zero, List.set_cons_succ, List.getElem_toArray, List.getElem_cons_succ, List.getElem_cons_zero]
        refine wpAnyH_take (i := 17) (oi := _) (v := undef) rfl (by kernel_rfl) (by kernel_rfl) (by kernel_rfl) (fun _ _ _ h => h) (Or.inr ⟨by rfl, rfl⟩) (by assumption) ?_
        try simp only [Act.put, List.setIfInBounds_toArray, List.set_cons_zero, List.set_cons_succ, List.getElem_toArray, List.getElem_cons_succ, List.getElem_cons_zero]
        refine wpAnyH_take (i := 18) (oi := _) (v := undef) rfl (by kernel_rfl) (by kernel_rfl) (by kernel_rfl) (fun _ _ _ h => h) (Or.inr ⟨by rfl, rfl⟩) (by assumption) ?_
        try simp only [Act.put, List.setIfInBounds_toArray, List.set_cons_zero, List.set_cons_succ, List.getElem_toArray, List.getElem_cons_succ, List.getElem_cons_zero]
        refine wpAnyH_take (i := 19) (oi := _) (v := ?_) rfl (by kernel_rfl) (by kernel_rfl) (by kernel_rfl) (fun _ _ _ h => h) (Or.inl ⟨by rfl, ?_⟩) (by assumption) ?_
        rotate_left
        · first | (intro w hSw; (try dsimp only at hSw); go_simp; done) | (intro w hSw; (try dsimp only at hSw); go_simp; with_reducible rfl)
        try simp only [Act.put, List.setIfInBounds_toArray, List.set_cons_zero, List.set_cons_succ, List.getElem_toArray, List.getElem_cons_succ, List.getElem_cons_zero]
        refine wpAnyH_done (by kernel_rfl) ?_ _

        have A7 : Hid (Below wA.heap.size wA wr.drew) := H3.out.drew
        have R7 : Hid (wr.drew.ownsRow (w.heap.size + 1) 2 1 _ (truTo rs pr st bs vs k).length (valsZ (truTo rs pr st bs vs k))) := H1.out
        clear EO KX KC KV KD KO
        have N9 := Lib.hid (show World.ownsRow _ (w.heap.size + 1) 2 1 _ (truTo rs pr st bs vs (k + 1)).length (valsZ (truTo rs pr st bs vs (k + 1))) by rw [EQ.out]; exact R7.out)
        clear EQ hs LE HLR HRN HN HQ HA R7
        try clear HS5
        go_wp2
        go_roundw
        case rel =>
          first
          | exact ⟨k + 1, by go_num, by omega, N9, A7⟩
          | (repeat apply Exists.intro
             refine ⟨⟨k + 1, ?_, by omega, N9, A7⟩, ?_⟩
             rotate_left
             · (repeat' apply And.intro) <;> rfl
             · go_num)
        case measure => simp [intOf]; omega
    · have h1' : ¬ (k : Int) < (q : Int) := by omega
      have e : k = q := by omega
      have H9 := own_mono H1.out (Nat.le_succ w.heap.size)
      rw [e] at H9
      have P := Lib.hid H9
      clear H9 H1
      go_wp2
      go_ret
      exact ⟨_, rfl, P.out, H2.out⟩

end Go.Proofs.YtnkiaickkbkjnaaGreat
namespace Go.Proofs.YtnkiaickkbkjnaaGreat
open Go.RowKit
set_option linter.unusedVariables false

/-- Rows of pairs, of Bids and of places stay as they are. -/
def KeepG (w w' : World) : Prop := ∀ (b : Nat) (vs : Array Value) (t : TypeId), (t = 125 ∨ t = 63 ∨ t = 109) → w.heap[b]? = some (.cells vs t) → w'.heap[b]? = some (.cells vs t)
theorem KeepG.refl (w : World) : KeepG w w := fun _ _ _ _ h => h
theorem KeepG.trans {u v w : World} (h : KeepG u v) (k : KeepG v w) : KeepG u w := fun b vs t ht g => k b vs t ht (h b vs t ht g)
theorem KeepG.only {w w' : World} {g : Nat} {t : TypeId} {us : Array Value} (ho : Only g w w') (hg : w.heap[g]? = some (.cells us t)) (ht : t ≠ 125 ∧ t ≠ 63 ∧ t ≠ 109) : KeepG w w' := fun b vs t' ht' h => by
  by_cases e : b = g
  · subst e
    rw [hg] at h
    cases h
    rcases ht' with h | h | h
    · exact absurd h ht.1
    · exact absurd h ht.2.1
    · exact absurd h ht.2.2
  · exact (ho.block b (Array.getElem?_eq_some_iff.1 h).1 e).trans h
theorem KeepG.below {w w' : World} (hb : Below w.heap.size w w') : KeepG w w' := fun b vs t _ h => (hb.block b (Array.getElem?_eq_some_iff.1 h).1).trans h
/-- Rows of Bids and of places stay as they are. -/
def KeepB (w w' : World) : Prop := ∀ (b : Nat) (vs : Array Value) (t : TypeId), (t = 63 ∨ t = 109) → w.heap[b]? = some (.cells vs t) → w'.heap[b]? = some (.cells vs t)
theorem KeepG.b {w w' : World} (h : KeepG w w') : KeepB w w' := fun b vs t ht g => h b vs t (.inr ht) g
theorem KeepB.trans {u v w : World} (h : KeepB u v) (k : KeepB v w) : KeepB u w := fun b vs t ht g => k b vs t ht (h b vs t ht g)
theorem KeepB.only {w w' : World} {g : Nat} {us : Array Value} (ho : Only g w w') (hg : w.heap[g]? = some (.cells us 125)) : KeepB w w' := fun b vs t' ht' h => by
  by_cases e : b = g
  · subst e
    rw [hg] at h
    cases h
    rcases ht' with h | h <;> cases h
  · exact (ho.block b (Array.getElem?_eq_some_iff.1 h).1 e).trans h

set_option maxRecDepth 100000 in
set_option maxHeartbeats 1000000 in
theorem mkSG_any (C L b : Nat) (rs : List LSt) (k : Int) (hn : rs.length + totD rs ≤ 1048576) (k0 : 0 ≤ k) (k1 : k ≤ 10000000) (w : World) (h : StM C L w b rs) :
    Calls Tryz.prog 80 #[.slice (some ⟨b, 0, none⟩) rs.length rs.length, .int .i64 k] w fun e w' => e = .returned (.int .i64 (k + 2 * (rs.length : Int) + (totD rs : Int))) ∧ KeepG w w' ∧ Btw C L w w' := by
  have H := Lib.hid h
  have hlo := h.lo
  have hhi := h.hi
  clear h
  have TD := Lib.hid (fun j => totD_le rs j)
  generalize hN : rs.length = n at *
  have HN := Lib.hid hN
  clear hN
  go_enter Tryz.func80, Tryz.ntmps80
  go_wp2
  go_loopw [1, 5] (fun m i wr => ∃ j : Nat, i = .int .i64 j ∧ m = .int .i64 (k + 2 * (j : Int) + (totD (rs.take j) : Int)) ∧ j ≤ n ∧ Hid (StM C L wr b rs) ∧ Hid (KeepG w wr) ∧ Hid (Btw C L w wr)) (fun _ i _ => n - (intOf i).toNat)
  case atStart => exact ⟨0, rfl, by simp [totD], Nat.zero_le _, H, KeepG.refl _, Btw.refl _ _ _⟩
  case round =>
    obtain ⟨j, rfl, rfl, hj, H1, KP, H2⟩ := hrel
    have hj0 : (0 : Int) ≤ (j : Int) := by omega
    by_cases h1 : j < n
    · have h1' : (j : Int) < (n : Int) := by omega
      have hlt : j < rs.length := by rw [HN.out]; exact h1
      have tn := totD_take rs j hlt
      have t1 := TD.out (j + 1)
      obtain ⟨g, us, eg, hg, hus, g1, g2⟩ := H1.out.dom rs[j] (List.getElem_mem hlt)
      obtain ⟨⟨v0, c0⟩, f0⟩ := H1.out.there (j * 3) (by rw [HN.out]; omega)
      obtain ⟨⟨v1, c1⟩, f1⟩ := H1.out.there (j * 3 + 1) (by rw [HN.out]; omega)
      have c2 := H1.out.at j hlt
      rw [eg] at c2
      have TN := Lib.hid tn
      generalize hS : totD (rs.take j) = s at *
      have hz0 : 0 ≤ k + 2 * (j : Int) + (s : Int) ∧ k + 2 * (j : Int) + (s : Int) ≤ 15000000 := by omega
      generalize hZ : k + 2 * (j : Int) + (s : Int) = z at *
      obtain ⟨z0, z1⟩ := hz0
      have O1 := Lib.hid (((Only.refl b wr).setCell (j * 3) (.int .i64 z)).setCell (j * 3 + 1) (.int .i64 (z + 1)))
      have S1 := Lib.hid ((H1.out.kind (j * 3) (fun i => by omega) (.int .i64 z)).kind (j * 3 + 1) (fun i => by omega) (.int .i64 (z + 1)))
      have K1 : Hid (KeepG w ((wr.setCell ⟨b, j * 3, none⟩ (.int .i64 z)).setCell ⟨b, j * 3 + 1, none⟩ (.int .i64 (z + 1)))) := by
        obtain ⟨vs, r1, -, -⟩ := H1.out.row
        exact KP.out.trans (KeepG.only O1.out r1 (by decide))
      have B1 := Lib.hid (H2.out.only O1.out hlo hhi)
      obtain ⟨g', us', eg', hg', hus', -, -⟩ := S1.out.dom rs[j] (List.getElem_mem hlt)
      obtain rfl : g = g' := by rw [eg] at eg'; simpa using eg'
      generalize rs[j].2.2.2.length = q at *
      have M1 := Lib.hid (mark_some g q us'.size q (z + 1 + 1) (by omega) (by omega) (by omega) (by omega) _ ⟨us', hg', rfl, fun i hi => absurd hi (Nat.not_lt_zero _)⟩)
      have HG := Lib.hid hg'
      have ZE := Lib.hid hZ
      clear hg hg' hus hus' eg eg' hlt O1 H1 tn hS hZ
      go_wp2_with fail
      refine M1.out.mono ?_
      rintro e w2 ⟨rfl, ⟨us2, m1, m2, -⟩, o2⟩
      have S2 := Lib.hid (S1.out.rowed us' us2 HG.out m1 m2 o2)
      have K2 := Lib.hid (K1.out.trans (KeepG.only o2 HG.out (by decide)))
      have B2 := Lib.hid (B1.out.only o2 g1 g2)
      clear m1 m2 o2 M1 S1 K1 B1 HG KP H2
      go_wp2
      go_roundw
      case rel => exact ⟨j + 1, by go_num, by have t9 := TN.out; have z9 := ZE.out; rw [t9]; congr 1; push_cast; omega, by omega, S2, K2, B2⟩
      case measure => simp [intOf]; omega
    · have h1' : ¬ (j : Int) < (n : Int) := by omega
      have P := Lib.hid (show (k + 2 * (j : Int) + (totD (rs.take j) : Int)) = k + 2 * (n : Int) + (totD rs : Int) ∧ KeepG w wr ∧ Btw C L w wr from by
        refine ⟨?_, KP.out, H2.out⟩
        rw [List.take_of_length_le (by rw [HN.out]; omega)]
        omega)
      clear KP H2 H1
      go_wp2
      go_ret
      exact ⟨by rw [← P.out.1]; rfl, P.out.2.1, P.out.2.2⟩

/-- A row of m Bids. -/
def BdM (w : World) (b m : Nat) : Prop := ∃ vs : Array Value, w.heap[b]? = some (.cells vs 63) ∧ vs.size = m * 3
theorem BdM.set {w : World} {b m : Nat} (h : BdM w b m) (o : Nat) (v : Value) : BdM (w.setCell ⟨b, o, none⟩ v) b m := by
  obtain ⟨vs, h1, h2⟩ := h
  exact ⟨_, heap_setCell_same w b o vs 63 v h1, by simp [h2]⟩
theorem BdM.there {w : World} {b m : Nat} (h : BdM w b m) (j : Nat) (hj : j < m * 3) : (∃ v, w.cell? ⟨b, j, none⟩ = some v) ∧ w.frozen? ⟨b, j, none⟩ = false := by
  obtain ⟨vs, h1, h2⟩ := h
  exact ⟨⟨vs[j]'(by omega), by simp [World.cell?, h1, show j < vs.size by omega]⟩, by simp [World.frozen?, h1]⟩

set_option maxRecDepth 100000 in
set_option maxHeartbeats 1000000 in
theorem mkB_any (b m : Nat) (k : Int) (hn : m ≤ 1048576) (k0 : 0 ≤ k) (k1 : k ≤ 20000000) (w : World) (h : BdM w b m) :
    Calls Tryz.prog 52 #[.slice (some ⟨b, 0, none⟩) m m, .int .i64 k] w fun e w' => e = .returned (.int .i64 (k + 3 * (m : Int))) ∧ Only b w w' := by
  have H := Lib.hid h
  clear h
  go_enter Tryz.func52, Tryz.ntmps52
  go_wp2
  go_loopw [1, 5] (fun v i wr => ∃ j : Nat, i = .int .i64 j ∧ v = .int .i64 (k + 3 * (j : Int)) ∧ j ≤ m ∧ Hid (BdM wr b m) ∧ Hid (Only b w wr)) (fun _ i _ => m - (intOf i).toNat)
  case atStart => exact ⟨0, rfl, by simp, Nat.zero_le _, H, Only.refl _ _⟩
  case round =>
    obtain ⟨j, rfl, rfl, hj, H1, H2⟩ := hrel
    have hj0 : (0 : Int) ≤ (j : Int) := by omega
    by_cases h1 : j < m
    · have h1' : (j : Int) < (m : Int) := by omega
      obtain ⟨⟨v0, c0⟩, f0⟩ := H1.out.there (j * 3) (by omega)
      obtain ⟨⟨v1, c1⟩, f1⟩ := H1.out.there (j * 3 + 1) (by omega)
      obtain ⟨⟨v2, c2⟩, f2⟩ := H1.out.there (j * 3 + 2) (by omega)
      have S2 := Lib.hid (((H1.out.set (j * 3) (.int .i64 (k + 3 * (j : Int)))).set (j * 3 + 1) (.int .i64 (k + 3 * (j : Int) + 1))).set (j * 3 + 2) (.int .i64 (k + 3 * (j : Int) + 1 + 1)))
      have B2 := Lib.hid (((H2.out.setCell (j * 3) (.int .i64 (k + 3 * (j : Int)))).setCell (j * 3 + 1) (.int .i64 (k + 3 * (j : Int) + 1))).setCell (j * 3 + 2) (.int .i64 (k + 3 * (j : Int) + 1 + 1)))
      clear H1 H2
      go_wp2
      go_roundw
      case rel => exact ⟨j + 1, by go_num, by congr 1; push_cast; omega, by omega, S2, B2⟩
      case measure => simp [intOf]; omega
    · have h1' : ¬ (j : Int) < (m : Int) := by omega
      have P := Lib.hid (show (k + 3 * (j : Int)) = k + 3 * (m : Int) by omega)
      go_wp2
      go_ret
      exact ⟨by rw [← P.out]; rfl, H2.out⟩

set_option maxRecDepth 100000 in
set_option maxHeartbeats 1000000 in
/-- markTable. -/
theorem mkTG_any (C L b1 b2 : Nat) (rs : List LSt) (m : Nat) (hn : rs.length + totD rs + m ≤ 1048576) (w : World) (h : StM C L w b1 rs) (h2 : PrM w b2 m) (l1 : C ≤ b2) (l2 : b2 < L) (hL : L ≤ w.heap.size) :
    Calls Tryz.prog 51 #[TV (some ⟨b1, 0, none⟩) rs.length rs.length (some ⟨b2, 0, none⟩) m m, .int .i64 1] w fun e w' => ∃ k : Int, (0 ≤ k ∧ k ≤ 4000000) ∧ e = .returned (.int .i64 k) ∧ Btw C L w w' ∧ KeepB w w' := by
  have E1 := Lib.hid (mkSG_any C L b1 rs 1 (by omega) (by omega) (by omega) _ (h.below (bA0 w (.cells #[.slice (some ⟨b1, 0, none⟩) rs.length rs.length, .slice (some ⟨b2, 0, none⟩) m m] 40))))
  have E2 : Hid (∀ (k : Int) (W : World), 0 ≤ k → k ≤ 20000000 → PrM W b2 m → Calls Tryz.prog 81 #[.slice (some ⟨b2, 0, none⟩) m m, .int .i64 k] W fun e w' => e = .returned (.int .i64 (k + 3 * (m : Int))) ∧ Only b2 W w') := fun k W a b c => mkP_any b2 m k (by omega) a b W c
  have PM := Lib.hid h2
  have HT := Lib.hid (TabAt.new w (some ⟨b1, 0, none⟩) rs.length rs.length (some ⟨b2, 0, none⟩) m m)
  have hK : (0 : Int) ≤ 1 + 2 * (rs.length : Int) + (totD rs : Int) ∧ 1 + 2 * (rs.length : Int) + (totD rs : Int) ≤ 20000000 ∧ 1 + 2 * (rs.length : Int) + (totD rs : Int) + 3 * (m : Int) ≤ 4000000 := by omega
  clear h h2
  generalize 1 + 2 * (rs.length : Int) + (totD rs : Int) = k at *
  generalize rs.length = n at *
  obtain ⟨k0, k1, k2⟩ := hK
  go_enter Tryz.func51, Tryz.ntmps51
  go_wp2_with fail
  refine E1.out.mono ?_
  rintro e w1 ⟨rfl, kp, b1'⟩
  have PM1 : Hid (PrM w1 b2 m) := by
    obtain ⟨vs, q1, q2⟩ := PM.out
    exact ⟨vs, kp _ _ 125 (.inl rfl) (KeepG.below (bA0 w _) _ _ 125 (.inl rfl) q1), q2⟩
  have KB1 := Lib.hid ((KeepG.below (bA0 w _)).b.trans kp.b)
  have T1 := Lib.hid ((b1'.block w.heap.size (by simp) (.inr hL)).trans HT.out)
  have B1 := Lib.hid ((Btw.alloc (B := C) (L := L) w _).trans b1')
  have tl : w.heap.size < w1.heap.size := (Array.getElem?_eq_some_iff.1 T1.out).1
  obtain ⟨t0, t1⟩ := TabAt.cells (show TabAt w1 w.heap.size (some ⟨b1, 0, none⟩) n n (some ⟨b2, 0, none⟩) m m from T1.out)
  clear kp b1' E1 HT PM
  go_wp2_with fail
  refine (E2.out _ _ k0 k1 PM1.out).mono ?_
  rintro e w2 ⟨rfl, o2⟩
  have P := Lib.hid (And.intro (B1.out.only o2 l1 l2) (KB1.out.trans (KeepB.only o2 PM1.out.choose_spec.1)))
  have hq : (0 : Int) ≤ k + 3 * (m : Int) ∧ k + 3 * (m : Int) ≤ 4000000 := ⟨by omega, k2⟩
  clear k2
  clear o2 PM1 T1 B1 E2 t0 t1
  generalize k + 3 * (m : Int) = q at *
  go_wp2
  go_ret
  exact ⟨_, hq, rfl, P.out⟩

theorem Row2.plM {w : World} {b n : Nat} {ts : List LPl} (h : Row2 w b n ts) : PlM w b n := by
  obtain ⟨vs, h1, h2, _⟩ := h
  exact ⟨vs, h1, by omega⟩
set_option maxRecDepth 100000 in
set_option maxHeartbeats 2000000 in
/-- markClock. -/
theorem mkC_any (C L b1 b2 b3 b4 : Nat) (top pr st bu : Int) (rs : List LSt) (m q p : Nat) (hn : rs.length + totD rs + m + q + p ≤ 1048576) (w : World) (h : StM C L w b1 rs) (h2 : PrM w b2 m) (h3 : BdM w b3 q) (h4 : PlM w b4 p) (l1 : C ≤ b2) (l2 : b2 < L) (l3 : C ≤ b3) (l4 : b3 < L) (l5 : C ≤ b4) (l6 : b4 < L) (hL : L ≤ w.heap.size) :
    Calls Tryz.prog 34 #[CV (some ⟨b1, 0, none⟩) rs.length rs.length (some ⟨b2, 0, none⟩) m m top pr st bu (some ⟨b3, 0, none⟩) q q (some ⟨b4, 0, none⟩) p p, .int .i64 1] w fun e w' => ∃ k : Int, (0 ≤ k ∧ k ≤ 30000000) ∧ e = .returned (.int .i64 k) ∧ Btw C L w w' := by
  have E1 := Lib.hid (fun o => mkTG_any C L b1 b2 rs m (by omega) (w.alloc o) (h.below (bA0 w o)) (by obtain ⟨vs, a, b⟩ := h2; exact ⟨vs, (Below.heap_alloc _ _ _ (Array.getElem?_eq_some_iff.1 a).1).trans a, b⟩) l1 l2 (by simp; omega))
  have E2 : Hid (∀ (k : Int) (W : World), 0 ≤ k → k ≤ 20000000 → BdM W b3 q → Calls Tryz.prog 52 #[.slice (some ⟨b3, 0, none⟩) q q, .int .i64 k] W fun e w' => e = .returned (.int .i64 (k + 3 * (q : Int))) ∧ Only b3 W w') := fun k W a b c => mkB_any b3 q k (by omega) a b W c
  have E3 : Hid (∀ (k : Int) (W : World), 0 ≤ k → k ≤ 20000000 → PlM W b4 p → Calls Tryz.prog 53 #[.slice (some ⟨b4, 0, none⟩) p p, .int .i64 k] W fun e w' => e = .returned (.int .i64 (k + 2 * (p : Int))) ∧ Only b4 W w') := fun k W a b c => mkPl_any b4 p k (by omega) a b W c
  have BM := Lib.hid h3
  have PM := Lib.hid h4
  have hqq : (q : Int) ≤ 1048576 := by omega
  have hpp : (p : Int) ≤ 1048576 := by omega
  clear h h2 h3 h4 hn
  generalize rs.length = n at *
  have N0 := Lib.hid (new_at w (.cells (CC (some ⟨b1, 0, none⟩) n n (some ⟨b2, 0, none⟩) m m top pr st bu (some ⟨b3, 0, none⟩) q q (some ⟨b4, 0, none⟩) p p) 44))
  go_enter Tryz.func34, Tryz.ntmps34
  go_wp2_with fail
  refine (E1.out _).mono ?_
  rintro e w1 ⟨k, ⟨k0, k1⟩, rfl, b1', kb⟩
  have K1 := Lib.hid ((KeepG.below (bA0 w _)).b.trans kb)
  have T1 := Lib.hid ((b1'.block w.heap.size (by simp) (.inr hL)).trans N0.out)
  have B1 := Lib.hid ((Btw.alloc (B := C) (L := L) w _).trans b1')
  have BM1 : Hid (BdM w1 b3 q) := by
    obtain ⟨vs, q1, q2⟩ := BM.out
    exact ⟨vs, K1.out _ _ 63 (.inl rfl) q1, q2⟩
  have PM1 : Hid (∃ vs : Array Value, w1.heap[b4]? = some (.cells vs 109) ∧ p * 2 ≤ vs.size) := by
    obtain ⟨vs, q1, q2⟩ := PM.out
    exact ⟨vs, K1.out _ _ 109 (.inr rfl) q1, q2⟩
  obtain ⟨c0, c1, c2, c3, c4, c5, c6, c7, cf, cl⟩ := cells8 T1.out
  clear b1' kb E1 N0 BM PM K1
  go_wp2_with fail
  refine (E2.out _ _ k0 (by omega) BM1.out).mono ?_
  rintro e w2 ⟨rfl, o2⟩
  have B2 := Lib.hid (B1.out.only o2 l3 l4)
  have T2 := Lib.hid ((o2.block w.heap.size cl (by omega)).trans T1.out)
  have PM2 : Hid (PlM w2 b4 p) := by
    obtain ⟨vs, q1, q2⟩ := PM1.out
    obtain ⟨us, r1, r2⟩ := BM1.out
    refine ⟨vs, (o2.block b4 (Array.getElem?_eq_some_iff.1 q1).1 (fun e => ?_)).trans q1, q2⟩
    subst e
    rw [q1] at r1
    cases r1
  have hk2 : 0 ≤ k + 3 * (q : Int) ∧ k + 3 * (q : Int) ≤ 20000000 := by omega
  clear o2 PM1 T1 B1 E2 c0 c1 c2 c3 c4 c5 c6 c7 cf cl BM1
  generalize k + 3 * (q : Int) = y at *
  obtain ⟨y0, y1⟩ := hk2
  obtain ⟨c0, c1, c2, c3, c4, c5, c6, c7, cf, cl⟩ := cells8 T2.out
  go_wp2_with fail
  refine (E3.out _ _ y0 y1 PM2.out).mono ?_
  rintro e w3 ⟨rfl, o3⟩
  have P := Lib.hid (B2.out.only o3 l5 l6)
  have hq : (0 : Int) ≤ y + 2 * (p : Int) ∧ y + 2 * (p : Int) ≤ 30000000 := by omega
  clear o3 PM2 T2 B2 E3 c0 c1 c2 c3 c4 c5 c6 c7 cf cl
  generalize y + 2 * (p : Int) = z at *
  go_wp2
  go_ret
  exact ⟨_, hq, rfl, P.out⟩


theorem Btw.wide {B L L' : Nat} {w w' : World} (h : Btw B L w w') (hl : L ≤ L') : Btw B L' w w' := ⟨h.os, h.tape, h.output, h.size, fun k hk g => h.block k hk (by omega)⟩

/-- The parts of a stage's clock lie below its tops. -/
structure StA (C : Nat) (w : World) (b1 b2 b3 b4 b5 : Nat) (rs : List LSt) : Prop where
  st : StM C b5 w b1 rs
  l2 : b2 < b5
  l3 : b3 < b5
  l4 : b4 < b5
theorem StM.frameH {C L X : Nat} {w w' : World} {b : Nat} {rs : List LSt} (h : StM C L w b rs) (hb : X < b) (hg : ∀ r ∈ rs, ∃ g, r.2.2.1 = .slice (some ⟨g, 0, none⟩) r.2.2.2.length r.2.2.2.length ∧ X < g) (hf : ∀ c, X < c → w'.heap[c]? = w.heap[c]?) : StM C L w' b rs := by
  refine ⟨?_, fun r hr => ?_, h.lo, h.hi⟩
  · obtain ⟨vs, h1, h2⟩ := h.row
    exact ⟨vs, (hf b hb).trans h1, h2⟩
  · obtain ⟨g, us, e, hz, k⟩ := h.dom r hr
    obtain ⟨g', e', hx⟩ := hg r hr
    obtain rfl : g = g' := by rw [e] at e'; simpa using e'
    exact ⟨g, us, e, (hf g hx).trans hz, k⟩
set_option maxRecDepth 100000 in
set_option maxHeartbeats 4000000 in
/-- toStage. -/
theorem toSgM_any (sl : Option Addr) (cap : Nat) (tl : Option Addr) (kap : Nat) (top pr st bu : Int) (bl : Option Addr) (cb : Nat) (pl : Option Addr) (cp : Nat) (ul : Option Addr) (cu : Nat) (ai fx : Int) (gc gf : Bool) (rs : List LSt) (ps : List LPr) (bs : List LPr) (ls : List LPl) (us : List Int) (w : World) (hn : rs.length ≤ 1048576) (hm : ps.length ≤ 1048576) (hq : bs.length ≤ 1048576) (hl : ls.length ≤ 1048576) (hu : us.length ≤ 1048576) (hz : Sts w sl rs) (hp : Prs w tl ps) (hbs : Prs w bl bs) (hls : Pls w pl ls) (hus : Ints w ul us) :
    Calls Tryz.prog 8 #[SgV sl rs.length cap tl ps.length kap top pr st bu bl bs.length cb pl ls.length cp ul us.length cu ai fx gc gf] w fun e w' => ∃ b1 b2 b3 b4 b5 rs', e = .returned (SgV (some ⟨b1, 0, none⟩) rs.length rs.length (some ⟨b2, 0, none⟩) ps.length ps.length top pr st bu (some ⟨b3, 0, none⟩) bs.length bs.length (some ⟨b4, 0, none⟩) ls.length ls.length (some ⟨b5, 0, none⟩) us.length us.length ai fx gc gf) ∧ bareS rs' = bareS rs ∧ OwnSg w.heap.size w' b1 b2 b3 b4 b5 rs' ps bs ls us ∧ StA w.heap.size w' b1 b2 b3 b4 b5 rs' ∧ Below w.heap.size w w' := by
  have E1 : Hid (∀ W, Below w.heap.size w W → Calls Tryz.prog 24 #[CV sl rs.length cap tl ps.length kap top pr st bu bl bs.length cb pl ls.length cp] W fun e w' => ∃ b1 b2 b3 b4 rs', e = .returned (CV (some ⟨b1, 0, none⟩) rs.length rs.length (some ⟨b2, 0, none⟩) ps.length ps.length top pr st bu (some ⟨b3, 0, none⟩) bs.length bs.length (some ⟨b4, 0, none⟩) ls.length ls.length) ∧ bareS rs' = bareS rs ∧ OwnC W.heap.size w' b1 b2 b3 b4 rs' ps bs ls ∧ Below W.heap.size W w') := fun W hW => toC_any sl cap tl kap top pr st bu bl cb pl cp rs ps bs ls W hn hm hq hl (hz.below hW) (hp.below hW) (hbs.below hW) (hls.below hW)
  have E2 : Hid (∀ W, Below w.heap.size w W → Calls Tryz.prog 25 #[.slice ul us.length cu] W fun e w' => e = .returned (.slice (some ⟨W.heap.size, 0, none⟩) us.length us.length) ∧ RowZ w' W.heap.size us ∧ Below W.heap.size W w') := fun W hW => toO_any ul cu us W hu (hus.below hW)
  clear hz hp hbs hls hus
  generalize rs.length = n at *
  generalize ps.length = m at *
  generalize bs.length = q at *
  generalize ls.length = p at *
  generalize us.length = u at *
  go_enter Tryz.func8, Tryz.ntmps8
  go_wp2_with fail
  refine (E1.out _ (bA (bA (bA0 _ _) _) _)).mono ?_
  rintro e w1 ⟨b1, b2, b3, b4, rs', rfl, eb, t1, bb1⟩
  obtain ⟨n0, n1, n2, n3⟩ := three_new w (.cells (SgC sl n cap tl m kap top pr st bu bl q cb pl p cp ul u cu ai fx gc gf) 32) (.cells (SgC none 0 0 none 0 0 0 0 0 0 none 0 0 none 0 0 none 0 0 0 0 false false) 46) (.cells (SgC none 0 0 none 0 0 0 0 0 0 none 0 0 none 0 0 none 0 0 0 0 false false) 46)
  have BB := Lib.hid (bT (bA (bA (bA0 w (.cells (SgC sl n cap tl m kap top pr st bu bl q cb pl p cp ul u cu ai fx gc gf) 32)) (.cells (SgC none 0 0 none 0 0 0 0 0 0 none 0 0 none 0 0 none 0 0 0 0 false false) 46)) (.cells (SgC none 0 0 none 0 0 0 0 0 0 none 0 0 none 0 0 none 0 0 0 0 false false) 46)) bb1)
  rw [n3] at t1 bb1
  have hz := bb1.size
  rw [n3] at hz
  have m0 := (bb1.block w.heap.size (by omega)).trans n0
  have m1 := (bb1.block (w.heap.size + 1) (by omega)).trans n1
  have m2 := (bb1.block (w.heap.size + 1 + 1) (by omega)).trans n2
  have T1 := Lib.hid t1
  have SA := Lib.hid (show StM w.heap.size w1.heap.size w1 b1 rs' ∧ b2 < w1.heap.size ∧ b3 < w1.heap.size ∧ b4 < w1.heap.size from ⟨(t1.lower (D := w.heap.size) (by omega)).t.stM, t1.t.r2.lt, t1.r3.lt, t1.r4.lt⟩)
  have LO := Lib.hid (show w.heap.size + 1 + 1 < b1 ∧ ∀ r ∈ rs', ∃ g, r.2.2.1 = .slice (some ⟨g, 0, none⟩) r.2.2.2.length r.2.2.2.length ∧ w.heap.size + 1 + 1 < g from ⟨by have := t1.t.lo1; omega, fun r hr => by obtain ⟨g, e, _, hg, _⟩ := t1.t.dom r hr; exact ⟨g, e, by have := t1.t.lo1; omega⟩⟩)
  have EB := Lib.hid eb
  clear t1 bb1 eb n0 n1 n2 n3
  obtain ⟨c0, c1, c2, c3, c4, c5, c6, c7, c8, c9, c10, c11, c12, cf, cl⟩ := cells13 m0
  obtain ⟨d0, d1, d2, d3, d4, d5, d6, d7, d8, d9, d10, d11, d12, df, dl⟩ := cells13 m2
  have M0 := Lib.hid m0
  have M1 := Lib.hid m1
  have M2 := Lib.hid (setS8 m2 (.slice (some ⟨b1, 0, none⟩) n n) (.slice (some ⟨b2, 0, none⟩) m m) (.int .i64 top) (.int .i64 pr) (.int .i64 st) (.int .i64 bu) (.slice (some ⟨b3, 0, none⟩) q q) (.slice (some ⟨b4, 0, none⟩) p p))
  have O2 := Lib.hid (fun c hc => setS8_other (w := w1) (b := w.heap.size + 1 + 1) (c := c) hc (.slice (some ⟨b1, 0, none⟩) n n) (.slice (some ⟨b2, 0, none⟩) m m) (.int .i64 top) (.int .i64 pr) (.int .i64 st) (.int .i64 bu) (.slice (some ⟨b3, 0, none⟩) q q) (.slice (some ⟨b4, 0, none⟩) p p))
  have hle : w.heap.size ≤ (⟨w.heap.size + 1 + 1, 0, none⟩ : Addr).block := by show w.heap.size ≤ w.heap.size + 1 + 1; omega
  have B1 := Lib.hid (((((((((BB.out.setCell (p := ⟨w.heap.size + 1 + 1, 0, none⟩) hle (.slice (some ⟨b1, 0, none⟩) n n)).setCell (p := ⟨w.heap.size + 1 + 1, 1, none⟩) hle (.slice (some ⟨b2, 0, none⟩) m m)).setCell (p := ⟨w.heap.size + 1 + 1, 2, none⟩) hle (.int .i64 top)).setCell (p := ⟨w.heap.size + 1 + 1, 3, none⟩) hle (.int .i64 pr)).setCell (p := ⟨w.heap.size + 1 + 1, 4, none⟩) hle (.int .i64 st)).setCell (p := ⟨w.heap.size + 1 + 1, 5, none⟩) hle (.int .i64 bu)).setCell (p := ⟨w.heap.size + 1 + 1, 6, none⟩) hle (.slice (some ⟨b3, 0, none⟩) q q)).setCell (p := ⟨w.heap.size + 1 + 1, 7, none⟩) hle (.slice (some ⟨b4, 0, none⟩) p p)))
  have hsz : ((((((((w1.setCell ⟨w.heap.size + 1 + 1, 0, none⟩ (.slice (some ⟨b1, 0, none⟩) n n)).setCell ⟨w.heap.size + 1 + 1, 1, none⟩ (.slice (some ⟨b2, 0, none⟩) m m)).setCell ⟨w.heap.size + 1 + 1, 2, none⟩ (.int .i64 top)).setCell ⟨w.heap.size + 1 + 1, 3, none⟩ (.int .i64 pr)).setCell ⟨w.heap.size + 1 + 1, 4, none⟩ (.int .i64 st)).setCell ⟨w.heap.size + 1 + 1, 5, none⟩ (.int .i64 bu)).setCell ⟨w.heap.size + 1 + 1, 6, none⟩ (.slice (some ⟨b3, 0, none⟩) q q)).setCell ⟨w.heap.size + 1 + 1, 7, none⟩ (.slice (some ⟨b4, 0, none⟩) p p)).heap.size = w1.heap.size := setS_size _ _ _ _ _ _ _ _
  clear m0 m1 m2 BB hle
  go_wp2_with fail
  refine (E2.out _ B1.out).mono ?_
  rintro e w2 ⟨rfl, r2, bb2⟩
  rw [hsz] at r2 ⊢
  have b2s := bb2.size
  have k1 := (bb2.block (w.heap.size + 1) (by rw [hsz]; omega)).trans ((O2.out _ (by omega)).trans M1.out)
  have k0 := (bb2.block w.heap.size (by rw [hsz]; omega)).trans ((O2.out _ (by omega)).trans M0.out)
  have k2 := (bb2.block (w.heap.size + 1 + 1) (by rw [hsz]; omega)).trans M2.out
  have T2 := Lib.hid ((T1.out.frame (fun c hc => O2.out c (by omega))).below bb2)
  have SB := Lib.hid (show StM w.heap.size w1.heap.size w2 b1 rs' from (SA.out.1.frameH LO.out.1 LO.out.2 (fun c hc => O2.out c (by omega))).below bb2)
  have R2 := Lib.hid r2
  have B2 := Lib.hid (bT B1.out bb2)
  rw [hsz] at b2s
  clear T1 M0 M1 M2 O2 B1 r2 bb2 hsz c0 c1 c2 c3 c4 c5 c6 c7 c8 c9 c10 c11 c12 cf cl d0 d1 d2 d3 d4 d5 d6 d7 d8 d9 d10 d11 d12 df dl
  generalize w1.heap.size = b5 at *
  obtain ⟨c0, c1, c2, c3, c4, c5, c6, c7, c8, c9, c10, c11, c12, cf, cl⟩ := cells13 k0
  obtain ⟨d0, d1, d2, d3, d4, d5, d6, d7, d8, d9, d10, d11, d12, df, dl⟩ := cells13 k2
  have fl := (cells13 k1).2.2.2.2.2.2.2.2.2.2.2.2.2
  obtain ⟨f0, f1, f2, f3, f4, f5, f6, f7, f8, f9, f10, f11, f12, -, -⟩ := cells13 k1
  obtain ⟨ff, fg⟩ := fl
  have O9 := Lib.hid (fun (c : Nat) (h : c ≠ w.heap.size + 1) (h' : c ≠ w.heap.size + 1 + 1) => setS17_other (w := w2) h h' (.slice (some ⟨b5, 0, none⟩) u u) (.int .i64 ai) (.int .i64 fx) (.bool gc) (.bool gf) (.slice (some ⟨b1, 0, none⟩) n n) (.slice (some ⟨b2, 0, none⟩) m m) (.int .i64 top) (.int .i64 pr) (.int .i64 st) (.int .i64 bu) (.slice (some ⟨b3, 0, none⟩) q q) (.slice (some ⟨b4, 0, none⟩) p p) (.slice (some ⟨b5, 0, none⟩) u u) (.int .i64 ai) (.int .i64 fx) (.bool gc) (.bool gf))
  have hle : w.heap.size ≤ w.heap.size + 1 := by omega
  have hle2 : w.heap.size ≤ w.heap.size + 1 + 1 := by omega
  have B9 := Lib.hid (((((((((((((((((((B2.out.setCell (p := ⟨w.heap.size + 1 + 1, 8, none⟩) hle2 (.slice (some ⟨b5, 0, none⟩) u u)).setCell (p := ⟨w.heap.size + 1 + 1, 9, none⟩) hle2 (.int .i64 ai)).setCell (p := ⟨w.heap.size + 1 + 1, 10, none⟩) hle2 (.int .i64 fx)).setCell (p := ⟨w.heap.size + 1 + 1, 11, none⟩) hle2 (.bool gc)).setCell (p := ⟨w.heap.size + 1 + 1, 12, none⟩) hle2 (.bool gf)).setCell (p := ⟨w.heap.size + 1, 0, none⟩) hle (.slice (some ⟨b1, 0, none⟩) n n)).setCell (p := ⟨w.heap.size + 1, 1, none⟩) hle (.slice (some ⟨b2, 0, none⟩) m m)).setCell (p := ⟨w.heap.size + 1, 2, none⟩) hle (.int .i64 top)).setCell (p := ⟨w.heap.size + 1, 3, none⟩) hle (.int .i64 pr)).setCell (p := ⟨w.heap.size + 1, 4, none⟩) hle (.int .i64 st)).setCell (p := ⟨w.heap.size + 1, 5, none⟩) hle (.int .i64 bu)).setCell (p := ⟨w.heap.size + 1, 6, none⟩) hle (.slice (some ⟨b3, 0, none⟩) q q)).setCell (p := ⟨w.heap.size + 1, 7, none⟩) hle (.slice (some ⟨b4, 0, none⟩) p p)).setCell (p := ⟨w.heap.size + 1, 8, none⟩) hle (.slice (some ⟨b5, 0, none⟩) u u)).setCell (p := ⟨w.heap.size + 1, 9, none⟩) hle (.int .i64 ai)).setCell (p := ⟨w.heap.size + 1, 10, none⟩) hle (.int .i64 fx)).setCell (p := ⟨w.heap.size + 1, 11, none⟩) hle (.bool gc)).setCell (p := ⟨w.heap.size + 1, 12, none⟩) hle (.bool gf)))
  have PA := Lib.hid (show StA w.heap.size _ b1 b2 b3 b4 b5 rs' from ⟨SB.out.frameH LO.out.1 LO.out.2 (fun c hc => O9.out c (by omega) (by omega)), SA.out.2.1, SA.out.2.2.1, SA.out.2.2.2⟩)
  have P := Lib.hid (show OwnSg w.heap.size _ b1 b2 b3 b4 b5 rs' ps bs ls us from ⟨(T2.out.frame (fun c hc => O9.out c (by omega) (by omega))).lower (by omega), R2.out.frame (O9.out b5 (by omega) (by omega)), by omega⟩)
  clear T2 R2 B2 O9 SA SB LO hle hle2 k0 k1 k2
  go_wp2
  refine bodyPost_ret (v := SgV (some ⟨b1, 0, none⟩) n n (some ⟨b2, 0, none⟩) m m top pr st bu (some ⟨b3, 0, none⟩) q q (some ⟨b4, 0, none⟩) p p (some ⟨b5, 0, none⟩) u u ai fx gc gf) (by simp [results, Tryz.results8, go_sem, f0, f1, f2, f3, f4, f5, f6, f7, f8, f9, f10, f11, f12]) rfl ⟨b1, b2, b3, b4, b5, rs', rfl, EB.out, P.out, PA.out, B9.out⟩

set_option maxRecDepth 100000 in
set_option maxHeartbeats 2000000 in
/-- markStage. -/
theorem mkSg_any (C b1 b2 b3 b4 b5 : Nat) (top pr st bu ai fx : Int) (gc gf : Bool) (rs : List LSt) (m q p : Nat) (us : List Int) (hn : rs.length + totD rs + m + q + p + us.length ≤ 1048576) (w : World) (h : StM C b5 w b1 rs) (h2 : PrM w b2 m) (h3 : BdM w b3 q) (h4 : PlM w b4 p) (h5 : RowZ w b5 us) (l1 : C ≤ b2) (l2 : b2 < b5) (l3 : C ≤ b3) (l4 : b3 < b5) (l5 : C ≤ b4) (l6 : b4 < b5) (l7 : C ≤ b5) :
    Calls Tryz.prog 16 #[SgV (some ⟨b1, 0, none⟩) rs.length rs.length (some ⟨b2, 0, none⟩) m m top pr st bu (some ⟨b3, 0, none⟩) q q (some ⟨b4, 0, none⟩) p p (some ⟨b5, 0, none⟩) us.length us.length ai fx gc gf, .int .i64 1] w fun e w' => ∃ k : Int, (0 ≤ k ∧ k ≤ 40000000) ∧ e = .returned (.int .i64 k) ∧ Btw C (b5 + 1) w w' := by
  have hb5 : b5 < w.heap.size := h5.lt
  have E1 := Lib.hid (fun o => mkC_any C b5 b1 b2 b3 b4 top pr st bu rs m q p (by omega) (w.alloc o) (h.below (bA0 w o)) (by obtain ⟨vs, a, b⟩ := h2; exact ⟨vs, (Below.heap_alloc _ _ _ (Array.getElem?_eq_some_iff.1 a).1).trans a, b⟩) (by obtain ⟨vs, a, b⟩ := h3; exact ⟨vs, (Below.heap_alloc _ _ _ (Array.getElem?_eq_some_iff.1 a).1).trans a, b⟩) (by obtain ⟨vs, a, b⟩ := h4; exact ⟨vs, (Below.heap_alloc _ _ _ (Array.getElem?_eq_some_iff.1 a).1).trans a, b⟩) l1 l2 l3 l4 l5 l6 (by simp; omega))
  have E2 : Hid (∀ (k : Int) (W : World), 0 ≤ k → k ≤ 1000000000 → RowZ W b5 us → Calls Tryz.prog 18 #[.slice (some ⟨b5, 0, none⟩) us.length us.length, .int .i64 k] W fun e w' => e = .returned (.int .i64 (k + (us.length : Int))) ∧ Only b5 W w') := fun k W a b c => (mark_some b5 us.length us.length us.length k (by omega) (Nat.le_refl _) a b W ⟨_, c, vs_size _ _ (Nat.le_refl _), fun j hj => absurd hj (Nat.not_lt_zero _)⟩).mono fun e w' ⟨h1, _, h2⟩ => ⟨h1, h2⟩
  have RZ := Lib.hid h5
  have huu : (us.length : Int) ≤ 1048576 := by omega
  clear h h2 h3 h4 h5 hn
  generalize rs.length = n at *
  generalize us.length = u at *
  have N0 := Lib.hid (new_at w (.cells (SgC (some ⟨b1, 0, none⟩) n n (some ⟨b2, 0, none⟩) m m top pr st bu (some ⟨b3, 0, none⟩) q q (some ⟨b4, 0, none⟩) p p (some ⟨b5, 0, none⟩) u u ai fx gc gf) 46))
  have R0 := Lib.hid (RZ.out.below (bA0 w (.cells (SgC (some ⟨b1, 0, none⟩) n n (some ⟨b2, 0, none⟩) m m top pr st bu (some ⟨b3, 0, none⟩) q q (some ⟨b4, 0, none⟩) p p (some ⟨b5, 0, none⟩) u u ai fx gc gf) 46)))
  go_enter Tryz.func16, Tryz.ntmps16
  go_wp2_with fail
  refine (E1.out _).mono ?_
  rintro e w1 ⟨k, ⟨k0, k1⟩, rfl, b1'⟩
  have T1 := Lib.hid ((b1'.block w.heap.size (by simp) (.inr (by omega))).trans N0.out)
  have R1 : Hid (RowZ w1 b5 us) := R0.out.frame (b1'.block b5 (by simp; omega) (.inr (Nat.le_refl _)))
  have B1 := Lib.hid (((Btw.alloc (B := C) (L := b5) w _).trans b1').wide (L' := b5 + 1) (by omega))
  obtain ⟨c0, c1, c2, c3, c4, c5, c6, c7, c8, c9, c10, c11, c12, cf, cl⟩ := cells13 T1.out
  clear b1' E1 N0 R0 RZ
  go_wp2_with fail
  refine (E2.out _ _ k0 (by omega) R1.out).mono ?_
  rintro e w2 ⟨rfl, o2⟩
  have P := Lib.hid (B1.out.only o2 l7 (by omega))
  have hq : (0 : Int) ≤ k + (u : Int) ∧ k + (u : Int) ≤ 40000000 := by omega
  clear o2 T1 B1 E2 R1 c0 c1 c2 c3 c4 c5 c6 c7 c8 c9 c10 c11 c12 cf cl
  generalize k + (u : Int) = z at *
  go_wp2
  go_ret
  exact ⟨_, hq, rfl, P.out⟩

end Go.Proofs.YtnkiaickkbkjnaaGreat
namespace Go.Proofs.YtnkiaickkbkjnaaGreat
open Go.RowKit
set_option linter.unusedVariables false
set_option maxRecDepth 100000 in
set_option maxHeartbeats 1000000 in
theorem mkVlB_any (b m : Nat) (k : Int) (hn : m ≤ 1048576) (k0 : 0 ≤ k) (k1 : k ≤ 100000000) (w : World) (h : VlM w b m) :
    Calls Tryz.prog 17 #[.slice (some ⟨b, 0, none⟩) m m, .int .i64 k] w fun e w' => e = .returned (.int .i64 (k + 2 * (m : Int))) ∧ Only b w w' := by
  have H := Lib.hid h
  clear h
  go_enter Tryz.func17, Tryz.ntmps17
  go_wp2
  go_loopw [1, 5] (fun v i wr => ∃ j : Nat, i = .int .i64 j ∧ v = .int .i64 (k + 2 * (j : Int)) ∧ j ≤ m ∧ Hid (VlM wr b m) ∧ Hid (Only b w wr)) (fun _ i _ => m - (intOf i).toNat)
  case atStart => exact ⟨0, rfl, by simp, Nat.zero_le _, H, Only.refl _ _⟩
  case round =>
    obtain ⟨j, rfl, rfl, hj, H1, H2⟩ := hrel
    have hj0 : (0 : Int) ≤ (j : Int) := by omega
    by_cases h1 : j < m
    · have h1' : (j : Int) < (m : Int) := by omega
      obtain ⟨⟨v0, c0⟩, f0⟩ := H1.out.there (j * 2) (by omega)
      obtain ⟨⟨v1, c1⟩, f1⟩ := H1.out.there (j * 2 + 1) (by omega)
      have S2 := Lib.hid ((H1.out.set (j * 2) (.int .i64 (k + 2 * (j : Int)))).set (j * 2 + 1) (.int .i64 (k + 2 * (j : Int) + 1)))
      have B2 := Lib.hid ((H2.out.setCell (j * 2) (.int .i64 (k + 2 * (j : Int)))).setCell (j * 2 + 1) (.int .i64 (k + 2 * (j : Int) + 1)))
      clear H1 H2
      go_wp2
      go_roundw
      case rel => exact ⟨j + 1, by go_num, by congr 1; push_cast; omega, by omega, S2, B2⟩
      case measure => simp [intOf]; omega
    · have h1' : ¬ (j : Int) < (m : Int) := by omega
      have P := Lib.hid (show (k + 2 * (j : Int)) = k + 2 * (m : Int) by omega)
      go_wp2
      go_ret
      exact ⟨by rw [← P.out]; rfl, H2.out⟩
theorem RowV.vlM {w : World} {b n : Nat} {ts : List LPl} (h : RowV w b n ts) : VlM w b n := by
  obtain ⟨vs, h1, h2, _⟩ := h
  exact ⟨vs, h1, by omega⟩
theorem truF_bare {rs rs' : List LSt} (pr st : Int) (bs : List LPr) (vs : List LPl) (h : bareS rs = bareS rs') : truF rs pr st bs vs = truF rs' pr st bs vs := by
  funext i
  have e : (rs[i]?).map (fun r => (r.1, r.2.1, r.2.2.2)) = (rs'[i]?).map (fun r => (r.1, r.2.1, r.2.2.2)) := by
    have := congrArg (fun l => l[i]?) h
    simpa [bareS] using this
  unfold truF
  cases e1 : rs[i]? with
  | none =>
    cases e2 : rs'[i]? with
    | none => rfl
    | some r' => rw [e1, e2] at e; cases e
  | some r =>
    cases e2 : rs'[i]? with
    | none => rw [e1, e2] at e; cases e
    | some r' =>
      rw [e1, e2] at e
      simp only [Option.map_some, Option.some.injEq, Prod.mk.injEq] at e
      cases bs[i]? with
      | none => rfl
      | some b =>
        cases vs[i]? with
        | none => rfl
        | some v => simp only [e.2.1]
theorem truA_bare {rs rs' : List LSt} (ps : List LPr) (top pr st bu : Int) (bs : List LPr) (ls : List LPl) (us : List Int) (ai fx : Int) (gc gf : Bool) (vs : List LPl) (h : bareS rs = bareS rs') : truA (StgR rs ps top pr st bu bs ls us ai fx gc gf) rs pr st bs vs = truA (StgR rs' ps top pr st bu bs ls us ai fx gc gf) rs' pr st bs vs := by
  unfold truA truTo
  rw [val_bare ps top pr st bu bs ls us ai fx gc gf vs h, truF_bare pr st bs vs h]
theorem truA_len (R : Prop) (rs : List LSt) (pr st : Int) (bs : List LPr) (vs : List LPl) : (truA R rs pr st bs vs).length ≤ bs.length := by
  unfold truA
  split
  · exact truTo_len rs pr st bs vs bs.length
  · exact Nat.zero_le _
/-- What a right stage is good for. -/
theorem stg_use {rs : List LSt} {ps : List LPr} {top pr st bu : Int} {bs : List LPr} {ls : List LPl} {us : List Int} {ai fx : Int} {gc gf : Bool} (h : StgR rs ps top pr st bu bs ls us ai fx gc gf) : rs.length = bs.length ∧ (∀ r ∈ rs, 0 ≤ r.2.1 ∧ r.2.1 ≤ 1000) ∧ (0 ≤ pr ∧ pr ≤ 1000000) ∧ (1 ≤ st ∧ st ≤ 1000000) := by
  obtain ⟨⟨ht, hn, hb, _⟩, _⟩ := h
  refine ⟨?_, fun r hr => ?_, ?_, ?_⟩
  · have e := congrArg List.length hb.1
    simp [bidsI, idsL] at e
    exact e.symm
  · have := (ht.2.1 r hr).1; omega
  · exact hn.2.1
  · exact hn.2.2.1

set_option maxRecDepth 100000 in
set_option maxHeartbeats 8000000 in
theorem law4 (sl : Option Addr) (cap : Nat) (tl : Option Addr) (kap : Nat) (top pr st bu : Int) (bl : Option Addr) (cb : Nat) (pl : Option Addr) (cp : Nat) (ul : Option Addr) (cu : Nat) (ai fx : Int) (gc gf : Bool) (rs : List LSt) (ps : List LPr) (bs : List LPr) (ls : List LPl) (us : List Int) (vl : Option Addr) (cv : Nat) (vs : List LPl) (w : World) (h : InSg w sl tl bl pl ul rs ps bs ls us) (hvs : Pls w vl vs) (hvl : vs.length ≤ maxLen) :
    Calls Tryz.prog 4 #[SgV sl rs.length cap tl ps.length kap top pr st bu bl bs.length cb pl ls.length cp ul us.length cu ai fx gc gf, .slice vl vs.length cv] w fun e w' => e = .returned (.bool true) ∧ Below w.heap.size w w' := by
  have SZ : Hid (∀ W, Below w.heap.size w W → Calls Tryz.prog 5 #[SgV sl rs.length cap tl ps.length kap top pr st bu bl bs.length cb pl ls.length cp ul us.length cu ai fx gc gf, .int .i64 1048576] W fun e w' => e = .returned (.int .i64 (lft 1048576 (rs.length + totD rs + ps.length + bs.length + ls.length + us.length))) ∧ Below W.heap.size W w') := fun W hW => szSg_any sl cap tl _ kap top pr st bu bl _ cb pl _ cp ul _ cu ai fx gc gf rs W h.c.t.ln h.c.t.lp h.c.lb h.c.ll h.lu (h.c.t.st.below hW)
  rcases lft_cases 1048576 (rs.length + totD rs + ps.length + bs.length + ls.length + us.length) (by omega) with ⟨e, hT⟩ | ⟨e, hT⟩
  · rw [e] at SZ
    clear h hvs e hT hvl
    generalize rs.length = n at *
    generalize ps.length = m at *
    generalize bs.length = q at *
    generalize ls.length = p at *
    generalize us.length = u at *
    generalize vs.length = a at *
    go_enter Tryz.func4, Tryz.ntmps4
    go_wp2_with fail
    refine (SZ.out _ (bA0 _ _)).mono ?_
    rintro e w1 ⟨rfl, b1⟩
    have D1 := Lib.hid (bT (bA0 w _) b1)
    clear b1
    go_wp2
    go_ret
    exact ⟨rfl, D1.out⟩
  rw [e] at SZ
  have SZ2 : Hid (∀ W, Calls Tryz.prog 6 #[.slice vl vs.length cv, .int .i64 (1048576 - ((rs.length + totD rs + ps.length + bs.length + ls.length + us.length : Nat) : Int))] W fun e w' => e = .returned (.int .i64 (lft (1048576 - ((rs.length + totD rs + ps.length + bs.length + ls.length + us.length : Nat) : Int)) vs.length)) ∧ w' = W) := fun W => szVl_any vl vs.length cv (1048576 - ((rs.length + totD rs + ps.length + bs.length + ls.length + us.length : Nat) : Int)) W hvl (by omega) (by omega)
  have hneg : ¬ (1048576 - ((rs.length + totD rs + ps.length + bs.length + ls.length + us.length : Nat) : Int)) < 0 := by omega
  rcases lft_cases (1048576 - ((rs.length + totD rs + ps.length + bs.length + ls.length + us.length : Nat) : Int)) vs.length (by omega) with ⟨e2, hT2⟩ | ⟨e2, hT2⟩
  · rw [e2] at SZ2
    clear h hvs e hT e2 hT2 hvl
    generalize (1048576 - ((rs.length + totD rs + ps.length + bs.length + ls.length + us.length : Nat) : Int)) = z at *
    generalize rs.length = n at *
    generalize ps.length = m at *
    generalize bs.length = q at *
    generalize ls.length = p at *
    generalize us.length = u at *
    generalize vs.length = a at *
    go_enter Tryz.func4, Tryz.ntmps4
    go_wp2_with fail
    refine (SZ.out _ (bA0 _ _)).mono ?_
    rintro e w1 ⟨rfl, b1⟩
    have D1 := Lib.hid (bT (bA0 w _) b1)
    clear b1
    go_wp2_with fail
    refine (SZ2.out _).mono ?_
    rintro e w2 ⟨rfl, rfl⟩
    go_wp2
    go_ret
    exact ⟨rfl, D1.out⟩
  rw [e2] at SZ2
  have hs : Sts w sl rs := h.c.t.st.small (by omega)
  have hn : rs.length ≤ 1048576 := by omega
  have hm : ps.length ≤ 1048576 := by omega
  have hq : bs.length ≤ 1048576 := by omega
  have hl : ls.length ≤ 1048576 := by omega
  have hu : us.length ≤ 1048576 := by omega
  have ha : vs.length ≤ 1048576 := by omega
  have hneg2 : ¬ ((1048576 - ((rs.length + totD rs + ps.length + bs.length + ls.length + us.length : Nat) : Int)) - (vs.length : Int)) < 0 := by omega
  have TO : Hid (∀ W, Below w.heap.size w W → Calls Tryz.prog 8 #[SgV sl rs.length cap tl ps.length kap top pr st bu bl bs.length cb pl ls.length cp ul us.length cu ai fx gc gf] W fun e w' => ∃ b1 b2 b3 b4 b5 rs', e = .returned (SgV (some ⟨b1, 0, none⟩) rs.length rs.length (some ⟨b2, 0, none⟩) ps.length ps.length top pr st bu (some ⟨b3, 0, none⟩) bs.length bs.length (some ⟨b4, 0, none⟩) ls.length ls.length (some ⟨b5, 0, none⟩) us.length us.length ai fx gc gf) ∧ bareS rs' = bareS rs ∧ OwnSg W.heap.size w' b1 b2 b3 b4 b5 rs' ps bs ls us ∧ StA W.heap.size w' b1 b2 b3 b4 b5 rs' ∧ Below W.heap.size W w') := fun W hW => toSgM_any sl cap tl kap top pr st bu bl cb pl cp ul cu ai fx gc gf rs ps bs ls us W hn hm hq hl hu (hs.below hW) (h.c.t.pr.below hW) (h.c.bd.below hW) (h.c.pl.below hW) (h.ui.below hW)
  have TV : Hid (∀ W, Below w.heap.size w W → Calls Tryz.prog 9 #[.slice vl vs.length cv] W fun e w' => e = .returned (.slice (some ⟨W.heap.size, 0, none⟩) vs.length vs.length) ∧ RowV w' W.heap.size vs.length vs ∧ Below W.heap.size W w') := fun W hW => toVlS_any vl cv vs W ha (hvs.below hW)
  have TE : Hid (∀ b1 b2 b3 b4 b5 rs1 c1 c2 c3 c4 c5 rs2 C D W, bareS rs1 = bareS rs → bareS rs2 = bareS rs → OwnSg C W b1 b2 b3 b4 b5 rs1 ps bs ls us → OwnSg D W c1 c2 c3 c4 c5 rs2 ps bs ls us → Calls Tryz.prog 11 #[SgV (some ⟨b1, 0, none⟩) rs.length rs.length (some ⟨b2, 0, none⟩) ps.length ps.length top pr st bu (some ⟨b3, 0, none⟩) bs.length bs.length (some ⟨b4, 0, none⟩) ls.length ls.length (some ⟨b5, 0, none⟩) us.length us.length ai fx gc gf, SgV (some ⟨c1, 0, none⟩) rs.length rs.length (some ⟨c2, 0, none⟩) ps.length ps.length top pr st bu (some ⟨c3, 0, none⟩) bs.length bs.length (some ⟨c4, 0, none⟩) ls.length ls.length (some ⟨c5, 0, none⟩) us.length us.length ai fx gc gf] W fun e w' => e = .returned (.bool true) ∧ Below W.heap.size W w') := fun b1 b2 b3 b4 b5 rs1 c1 c2 c3 c4 c5 rs2 C D W e1 e2 o1 o2 => by
    have := eqSg_any (some ⟨b1, 0, none⟩) (some ⟨c1, 0, none⟩) rs.length rs.length (some ⟨b2, 0, none⟩) (some ⟨c2, 0, none⟩) ps.length ps.length top pr st bu (some ⟨b3, 0, none⟩) (some ⟨c3, 0, none⟩) bs.length bs.length (some ⟨b4, 0, none⟩) (some ⟨c4, 0, none⟩) ls.length ls.length (some ⟨b5, 0, none⟩) (some ⟨c5, 0, none⟩) us.length us.length ai fx gc gf rs1 rs2 ps bs ls us W (by rw [bareS_len e1]; exact hn) hm hq hl hu (e1.trans e2.symm) o1.sts o2.sts o1.prs o2.prs o1.bds o2.bds o1.pls o2.pls o1.tops o2.tops
    rwa [bareS_len e1, bareS_len e2] at this
  have TW : Hid (∀ b c W, RowV W b vs.length vs → RowV W c vs.length vs → Calls Tryz.prog 12 #[.slice (some ⟨b, 0, none⟩) vs.length vs.length, .slice (some ⟨c, 0, none⟩) vs.length vs.length] W fun e w' => e = .returned (.bool true) ∧ Below W.heap.size W w') := fun b c W r1 r2 => eqVlS_any _ _ _ _ vs W ha r1.pls r2.pls
  have hzl : (truA (StgR rs ps top pr st bu bs ls us ai fx gc gf) rs pr st bs vs).length ≤ 1048576 := Nat.le_trans (truA_len _ rs pr st bs vs) hq
  have SP : Hid (∀ b1 b2 b3 b4 b5 rs' C bv W, bareS rs' = bareS rs → OwnSg C W b1 b2 b3 b4 b5 rs' ps bs ls us → RowV W bv vs.length vs → Calls Tryz.prog 13 #[SgV (some ⟨b1, 0, none⟩) rs.length rs.length (some ⟨b2, 0, none⟩) ps.length ps.length top pr st bu (some ⟨b3, 0, none⟩) bs.length bs.length (some ⟨b4, 0, none⟩) ls.length ls.length (some ⟨b5, 0, none⟩) us.length us.length ai fx gc gf, .slice (some ⟨bv, 0, none⟩) vs.length vs.length] W fun e w' => ∃ v, e = .returned v ∧ w'.ownsRow W.heap.size 2 1 v (truA (StgR rs ps top pr st bu bs ls us ai fx gc gf) rs pr st bs vs).length (valsZ (truA (StgR rs ps top pr st bu bs ls us ai fx gc gf) rs pr st bs vs)) ∧ Below W.heap.size W w') := fun b1 b2 b3 b4 b5 rs' C bv W eb o rv => by
    have hl' := bareS_len eb
    have VR : Hid (∀ W', Below W.heap.size W W' → Calls Tryz.prog 7 #[SgV (some ⟨b1, 0, none⟩) rs.length rs.length (some ⟨b2, 0, none⟩) ps.length ps.length top pr st bu (some ⟨b3, 0, none⟩) bs.length bs.length (some ⟨b4, 0, none⟩) ls.length ls.length (some ⟨b5, 0, none⟩) us.length us.length ai fx gc gf, .slice (some ⟨bv, 0, none⟩) vs.length vs.length] W' fun e w' => e = .returned (.bool (B (ValR (StgR rs' ps top pr st bu bs ls us ai fx gc gf) bs vs))) ∧ Below W'.heap.size W' w') := fun W1 hW1 => by
      have o := o.below hW1
      have rv := rv.below hW1
      have SR : Hid (∀ W', Below W1.heap.size W1 W' → Calls Tryz.prog 22 #[SgV (some ⟨b1, 0, none⟩) rs.length rs.length (some ⟨b2, 0, none⟩) ps.length ps.length top pr st bu (some ⟨b3, 0, none⟩) bs.length bs.length (some ⟨b4, 0, none⟩) ls.length ls.length (some ⟨b5, 0, none⟩) us.length us.length ai fx gc gf] W' fun e w' => e = .returned (.bool (B (StgR rs' ps top pr st bu bs ls us ai fx gc gf))) ∧ Below W'.heap.size W' w') := fun W' hW => by
        have o' := o.below hW
        have := ssr_any (some ⟨b1, 0, none⟩) rs.length (some ⟨b2, 0, none⟩) ps.length top pr st bu (some ⟨b3, 0, none⟩) bs.length (some ⟨b4, 0, none⟩) ls.length (some ⟨b5, 0, none⟩) us.length ai fx gc gf rs' ps bs ls us W' (by omega) hq hl hu o'.sts o'.prs o'.bds o'.pls o'.tops
        rwa [hl'] at this
      exact svr_of (some ⟨b1, 0, none⟩) rs.length rs.length (some ⟨b2, 0, none⟩) ps.length ps.length top pr st bu (some ⟨b3, 0, none⟩) bs.length (some ⟨b4, 0, none⟩) ls.length ls.length (some ⟨b5, 0, none⟩) us.length us.length ai fx gc gf bs (some ⟨bv, 0, none⟩) vs.length vs _ W1 hq ha o.bds rv.pls SR
    rw [← hl'] at VR
    have := sts_of (some ⟨b1, 0, none⟩) rs'.length (some ⟨b2, 0, none⟩) ps.length ps.length top pr st bu (some ⟨b3, 0, none⟩) bs.length (some ⟨b4, 0, none⟩) ls.length ls.length (some ⟨b5, 0, none⟩) us.length us.length ai fx gc gf rs' bs (some ⟨bv, 0, none⟩) vs.length vs (StgR rs' ps top pr st bu bs ls us ai fx gc gf) W (by omega) hq ha o.sts o.bds rv.pls stg_use VR
    rwa [hl', truA_bare ps top pr st bu bs ls us ai fx gc gf vs eb] at this
  have IM : Hid (∀ b1 b2 b3 b4 b5 rs' C bv W, bareS rs' = bareS rs → OwnSg C W b1 b2 b3 b4 b5 rs' ps bs ls us → RowV W bv vs.length vs → Calls Tryz.prog 14 #[SgV (some ⟨b1, 0, none⟩) rs.length rs.length (some ⟨b2, 0, none⟩) ps.length ps.length top pr st bu (some ⟨b3, 0, none⟩) bs.length bs.length (some ⟨b4, 0, none⟩) ls.length ls.length (some ⟨b5, 0, none⟩) us.length us.length ai fx gc gf, .slice (some ⟨bv, 0, none⟩) vs.length vs.length] W fun e w' => ∃ v, e = .returned v ∧ w'.ownsRow W.heap.size 2 1 v (truA (StgR rs ps top pr st bu bs ls us ai fx gc gf) rs pr st bs vs).length (valsZ (truA (StgR rs ps top pr st bu bs ls us ai fx gc gf) rs pr st bs vs)) ∧ Below W.heap.size W w') := fun b1 b2 b3 b4 b5 rs' C bv W eb o rv => by
    have hl' := bareS_len eb
    have VR : Hid (∀ W', Below W.heap.size W W' → Calls Tryz.prog 10 #[SgV (some ⟨b1, 0, none⟩) rs.length rs.length (some ⟨b2, 0, none⟩) ps.length ps.length top pr st bu (some ⟨b3, 0, none⟩) bs.length bs.length (some ⟨b4, 0, none⟩) ls.length ls.length (some ⟨b5, 0, none⟩) us.length us.length ai fx gc gf, .slice (some ⟨bv, 0, none⟩) vs.length vs.length] W' fun e w' => e = .returned (.bool (B (ValR (StgR rs' ps top pr st bu bs ls us ai fx gc gf) bs vs))) ∧ Below W'.heap.size W' w') := fun W1 hW1 => by
      have o := o.below hW1
      have rv := rv.below hW1
      have SR : Hid (∀ W', Below W1.heap.size W1 W' → Calls Tryz.prog 27 #[SgV (some ⟨b1, 0, none⟩) rs.length rs.length (some ⟨b2, 0, none⟩) ps.length ps.length top pr st bu (some ⟨b3, 0, none⟩) bs.length bs.length (some ⟨b4, 0, none⟩) ls.length ls.length (some ⟨b5, 0, none⟩) us.length us.length ai fx gc gf] W' fun e w' => e = .returned (.bool (B (StgR rs' ps top pr st bu bs ls us ai fx gc gf))) ∧ Below W'.heap.size W' w') := fun W' hW => by
        have o' := o.below hW
        have := isr_any (some ⟨b1, 0, none⟩) rs.length (some ⟨b2, 0, none⟩) ps.length top pr st bu (some ⟨b3, 0, none⟩) bs.length (some ⟨b4, 0, none⟩) ls.length (some ⟨b5, 0, none⟩) us.length ai fx gc gf rs' ps bs ls us W' (by omega) hq hl hu (Nat.le_refl _) o'.sts o'.prs h.c.t.wf o'.bds o'.pls o'.tops
        rwa [hl'] at this
      exact ivr_of (some ⟨b1, 0, none⟩) rs.length rs.length (some ⟨b2, 0, none⟩) ps.length ps.length top pr st bu (some ⟨b3, 0, none⟩) bs.length (some ⟨b4, 0, none⟩) ls.length ls.length (some ⟨b5, 0, none⟩) us.length us.length ai fx gc gf bs (some ⟨bv, 0, none⟩) vs.length vs _ W1 hq ha o.bds rv.pls SR
    rw [← hl'] at VR
    have := its_of (some ⟨b1, 0, none⟩) rs'.length (some ⟨b2, 0, none⟩) ps.length ps.length top pr st bu (some ⟨b3, 0, none⟩) bs.length (some ⟨b4, 0, none⟩) ls.length ls.length (some ⟨b5, 0, none⟩) us.length us.length ai fx gc gf rs' bs (some ⟨bv, 0, none⟩) vs.length vs (StgR rs' ps top pr st bu bs ls us ai fx gc gf) W (by omega) hq ha o.sts o.bds rv.pls stg_use VR
    rwa [hl', truA_bare ps top pr st bu bs ls us ai fx gc gf vs eb] at this
  have MT : Hid (∀ C b1 b2 b3 b4 b5 rs' w0 W, bareS rs' = bareS rs → OwnSg C w0 b1 b2 b3 b4 b5 rs' ps bs ls us → StA C w0 b1 b2 b3 b4 b5 rs' → Below w0.heap.size w0 W → Calls Tryz.prog 16 #[SgV (some ⟨b1, 0, none⟩) rs.length rs.length (some ⟨b2, 0, none⟩) ps.length ps.length top pr st bu (some ⟨b3, 0, none⟩) bs.length bs.length (some ⟨b4, 0, none⟩) ls.length ls.length (some ⟨b5, 0, none⟩) us.length us.length ai fx gc gf, .int .i64 1] W fun e w' => ∃ k : Int, (0 ≤ k ∧ k ≤ 40000000) ∧ e = .returned (.int .i64 k) ∧ Btw C w0.heap.size W w') := fun C b1 b2 b3 b4 b5 rs' w0 W eb o sa hb => by
    have o' := o.below hb
    have stm := sa.st.below hb
    have hl' := bareS_len eb
    have ht : totD rs' = totD rs := by
      have := congrArg (List.map fun r : Int × Int × List Int => r.2.2.length) eb
      unfold totD
      simpa [bareS, Function.comp_def] using congrArg List.sum this
    have hP : PrM W b2 ps.length := by obtain ⟨vs, a, b, _⟩ := o'.c.t.r2; exact ⟨vs, a, b⟩
    have hB : BdM W b3 bs.length := by obtain ⟨vs, a, b, _⟩ := o'.c.r3; exact ⟨vs, a, b⟩
    have hL : PlM W b4 ls.length := o'.c.r4.plM
    have hSum : rs'.length + totD rs' + ps.length + bs.length + ls.length + us.length ≤ 1048576 := by rw [hl', ht]; omega
    have l5 : b5 < w0.heap.size := o.r5.lt
    have := mkSg_any C b1 b2 b3 b4 b5 top pr st bu ai fx gc gf rs' ps.length bs.length ls.length us hSum W stm hP hB hL o'.r5 o.c.t.lo2 sa.l2 o.c.lo3 sa.l3 o.c.lo4 sa.l4 o.lo5
    rw [hl'] at this
    exact this.mono fun e w' ⟨k, k0, he, hg⟩ => ⟨k, k0, he, hg.wide (by omega)⟩
  have MV : Hid (∀ (k : Int) b W, 0 ≤ k → k ≤ 40000000 → VlM W b vs.length → Calls Tryz.prog 17 #[.slice (some ⟨b, 0, none⟩) vs.length vs.length, .int .i64 k] W fun e w' => e = .returned (.int .i64 (k + 2 * (vs.length : Int))) ∧ Only b W w') := fun k b W h0 h1 hv => mkVlB_any b vs.length k ha h0 (by omega) W hv
  clear h hs e hT e2 hT2 hn hm hq hl hu ha hvs hvl
  generalize (1048576 - ((rs.length + totD rs + ps.length + bs.length + ls.length + us.length : Nat) : Int)) - (vs.length : Int) = z2 at *
  generalize (1048576 - ((rs.length + totD rs + ps.length + bs.length + ls.length + us.length : Nat) : Int)) = z at *
  generalize rs.length = n at *
  generalize ps.length = m at *
  generalize bs.length = q at *
  generalize ls.length = p at *
  generalize us.length = u at *
  generalize vs.length = a at *
  generalize truA (StgR rs ps top pr st bu bs ls us ai fx gc gf) rs pr st bs vs = zs at *
  have EQ : Hid (∀ C C' v v' W, World.ownsRow W C 2 1 v zs.length (valsZ zs) → World.ownsRow W C' 2 1 v' zs.length (valsZ zs) → Calls Tryz.prog 15 #[v, v'] W fun e w' => e = .returned (.bool true) ∧ Below W.heap.size W w') := fun C C' v v' W o o' => by
    obtain ⟨s1, k1, rfl, i1⟩ := own_ints o
    obtain ⟨s2, k2, rfl, i2⟩ := own_ints o'
    exact eq_any s1 s2 k1 k2 zs W (by unfold maxLen; omega) i1 i2
  have MR : Hid (∀ C v W, World.ownsRow W C 2 1 v zs.length (valsZ zs) → Calls Tryz.prog 18 #[v, .int .i64 1] W fun e w' => e = .returned (.int .i64 (1 + (zs.length : Int))) ∧ w'.ownsRow C 2 1 v zs.length (valsZ (marks 1 zs.length)) ∧ W.grownBy w' v.ownBlock) := fun C v W o => mark_row C v zs 1 hzl (by omega) (by omega) W o
  have HR : Hid (∀ C v W, World.ownsRow W C 2 1 v zs.length (valsZ (marks 1 zs.length)) → Calls Tryz.prog 19 #[v, .int .i64 1] W fun e w' => e = .returned (.int .i64 (1 + (zs.length : Int))) ∧ w' = W) := fun C v W o => held_row C v zs.length 1 hzl (by omega) (by omega) W o
  generalize valsZ (marks 1 zs.length) = ms at *
  generalize valsZ zs = xs at *
  generalize zs.length = al at *
  have N0 := Lib.hid (new_at w (.cells (SgC sl n cap tl m kap top pr st bu bl q cb pl p cp ul u cu ai fx gc gf) 32))
  have B0 := Lib.hid (bA0 w (.cells (SgC sl n cap tl m kap top pr st bu bl q cb pl p cp ul u cu ai fx gc gf) 32))
  have hw0 : (w.alloc (.cells (SgC sl n cap tl m kap top pr st bu bl q cb pl p cp ul u cu ai fx gc gf) 32)).heap.size = w.heap.size + 1 := by simp
  have KT : Hid (∀ W, Below (w.heap.size + 1) (w.alloc (.cells (SgC sl n cap tl m kap top pr st bu bl q cb pl p cp ul u cu ai fx gc gf) 32)) W → w.heap.size < W.heap.size ∧ W.cell? ⟨w.heap.size, 0, none⟩ = some (.slice sl n cap) ∧ W.cell? ⟨w.heap.size, 1, none⟩ = some (.slice tl m kap) ∧ W.cell? ⟨w.heap.size, 2, none⟩ = some (.int .i64 top) ∧ W.cell? ⟨w.heap.size, 3, none⟩ = some (.int .i64 pr) ∧ W.cell? ⟨w.heap.size, 4, none⟩ = some (.int .i64 st) ∧ W.cell? ⟨w.heap.size, 5, none⟩ = some (.int .i64 bu) ∧ W.cell? ⟨w.heap.size, 6, none⟩ = some (.slice bl q cb) ∧ W.cell? ⟨w.heap.size, 7, none⟩ = some (.slice pl p cp) ∧ W.cell? ⟨w.heap.size, 8, none⟩ = some (.slice ul u cu) ∧ W.cell? ⟨w.heap.size, 9, none⟩ = some (.int .i64 ai) ∧ W.cell? ⟨w.heap.size, 10, none⟩ = some (.int .i64 fx) ∧ W.cell? ⟨w.heap.size, 11, none⟩ = some (.bool gc) ∧ W.cell? ⟨w.heap.size, 12, none⟩ = some (.bool gf)) := fun W hW => by
    obtain ⟨x0, x1, x2, x3, x4, x5, x6, x7, x8, x9, x10, x11, x12, cf, cl⟩ := cells13 ((hW.block w.heap.size (by omega)).trans N0.out)
    exact ⟨cl, x0, x1, x2, x3, x4, x5, x6, x7, x8, x9, x10, x11, x12⟩
  clear N0
  go_enter Tryz.func4, Tryz.ntmps4
  go_wp2_with fail
  refine (SZ.out _ (bA0 _ _)).mono ?_
  rintro e w1 ⟨rfl, b1⟩
  generalize w.alloc (.cells (SgC sl n cap tl m kap top pr st bu bl q cb pl p cp ul u cu ai fx gc gf) 32) = wA at *
  have A1 : Hid (Below (w.heap.size + 1) wA w1) := by rw [← hw0]; exact b1
  have D1 := Lib.hid (bT B0.out b1)
  clear b1 SZ
  go_wp2_with fail
  refine (SZ2.out _).mono ?_
  rintro e w1' ⟨rfl, rfl⟩
  obtain ⟨tl0, t0, t1, t2, t3, t4, t5, t6, t7, t8, t9, t10, t11, t12⟩ := KT.out _ A1.out
  have hs1 := A1.out.size
  go_wp2_with fail
  refine (TO.out _ D1.out).mono ?_
  rintro e w2 ⟨b1, b2, b3, b4, b5, rs1, rfl, e1, o1, a1, bl2⟩
  have D2 := Lib.hid (bT D1.out bl2)
  have A2 := Lib.hid (A1.out.trans (bl2.mono (by omega)))
  have O2 := Lib.hid o1
  have E1 := Lib.hid e1
  clear o1 bl2 e1 a1 A1 D1 t0 t1 t2 t3 t4 t5 t6 t7 t8 t9 t10 t11 t12 tl0 SZ2
  go_wp2_with fail
  refine (TV.out _ D2.out).mono ?_
  rintro e w2v ⟨rfl, r2, bl2v⟩
  have hs2' := A2.out.size
  have D2v := Lib.hid (bT D2.out bl2v)
  have A2v := Lib.hid (A2.out.trans (bl2v.mono (by omega)))
  have T2 := Lib.hid (SP.out b1 b2 b3 b4 b5 rs1 _ _ w2v E1.out (O2.out.below bl2v) r2)
  have hs2 := A2v.out.size
  clear O2 bl2v E1 A2 D2 r2
  go_wp2_with fail
  refine T2.out.mono ?_
  rintro e w3 ⟨v0, rfl, q3, bl3⟩
  have D3 := Lib.hid (bT D2v.out bl3)
  have A3 := Lib.hid (A2v.out.trans (bl3.mono (by omega)))
  have V3 := Lib.hid q3
  have L3 := Lib.hid (fun j hj => (q3.lt j hj).2)
  have D3s := Lib.hid D3.out.size
  clear bl3 T2 A2v D2v q3
  obtain ⟨tl0, t0, t1, t2, t3, t4, t5, t6, t7, t8, t9, t10, t11, t12⟩ := KT.out _ A3.out
  have hs3 := A3.out.size
  go_wp2_with fail
  refine (TO.out _ D3.out).mono ?_
  rintro e w4 ⟨c1, c2, c3, c4, c5, rs2, rfl, e2, o2, a2, bl4⟩
  have D4 := Lib.hid (bT D3.out bl4)
  have A4 := Lib.hid (A3.out.trans (bl4.mono (by omega)))
  have E2 := Lib.hid e2
  have O4 := Lib.hid o2
  have S4 := Lib.hid a2
  have V4 := Lib.hid (own_below V3.out bl4)
  have hs4 := A4.out.size
  have hs34 := bl4.size
  have X5 := Lib.hid (new_at w4 (.cells (SgC (some ⟨c1, 0, none⟩) n n (some ⟨c2, 0, none⟩) m m top pr st bu (some ⟨c3, 0, none⟩) q q (some ⟨c4, 0, none⟩) p p (some ⟨c5, 0, none⟩) u u ai fx gc gf) 46))
  have F5 := Lib.hid (bA0 w4 (.cells (SgC (some ⟨c1, 0, none⟩) n n (some ⟨c2, 0, none⟩) m m top pr st bu (some ⟨c3, 0, none⟩) q q (some ⟨c4, 0, none⟩) p p (some ⟨c5, 0, none⟩) u u ai fx gc gf) 46))
  have HS5 := Lib.hid (show (w4.alloc (.cells (SgC (some ⟨c1, 0, none⟩) n n (some ⟨c2, 0, none⟩) m m top pr st bu (some ⟨c3, 0, none⟩) q q (some ⟨c4, 0, none⟩) p p (some ⟨c5, 0, none⟩) u u ai fx gc gf) 46)).heap.size = w4.heap.size + 1 by simp)
  clear e2 o2 a2 bl4 A3 D3 t0 t1 t2 t3 t4 t5 t6 t7 t8 t9 t10 t11 t12 tl0 V3
  go_wp2_with fail
  generalize w4.alloc (.cells (SgC (some ⟨c1, 0, none⟩) n n (some ⟨c2, 0, none⟩) m m top pr st bu (some ⟨c3, 0, none⟩) q q (some ⟨c4, 0, none⟩) p p (some ⟨c5, 0, none⟩) u u ai fx gc gf) 46) = w5 at *
  refine (TV.out _ (bT D4.out F5.out)).mono ?_
  rintro e w5v ⟨rfl, r5, bl5⟩
  have G5 := Lib.hid (bT F5.out bl5)
  have X5v := Lib.hid ((bl5.block w4.heap.size (by rw [HS5.out]; omega)).trans X5.out)
  have R5 := Lib.hid r5
  have T6 := Lib.hid (IM.out c1 c2 c3 c4 c5 rs2 _ _ w5v E2.out (O4.out.below G5.out) r5)
  have hs5v := bl5.size
  have HS5v := Lib.hid (show w4.heap.size + 1 ≤ w5v.heap.size by rw [← HS5.out]; exact bl5.size)
  clear bl5 F5 X5 r5
  obtain ⟨x0, x1, x2, x3, x4, x5, x6, x7, x8, x9, x10, x11, x12, xf, xl⟩ := cells13 X5v.out
  go_wp2_with fail
  refine T6.out.mono ?_
  rintro e w6 ⟨v6, rfl, q6, bl6⟩
  have hs6 := bl6.size
  have G6 := Lib.hid (bT G5.out bl6)
  have D6 := Lib.hid (bT D4.out G6.out)
  have A6 := Lib.hid (A4.out.trans (G6.out.mono (by omega)))
  have V6 := Lib.hid (own_below V4.out G6.out)
  have X6 := Lib.hid ((bl6.block _ xl).trans X5v.out)
  have R6 := Lib.hid q6
  have Q6 := Lib.hid (R5.out.below bl6)
  have LV := Lib.hid (show w5.heap.size < w5v.heap.size from R5.out.lt)
  have L6 := Lib.hid (fun j hj => q6.lt j hj)
  clear q6 bl6 G5 X5v V4 D4 A4 x0 x1 x2 x3 x4 x5 x6 x7 x8 x9 x10 x11 x12 xf xl T6 R5
  have E7 := Lib.hid (EQ.out _ _ v6 v0 w6 R6.out V6.out)
  go_wp2_with fail
  refine E7.out.mono ?_
  rintro e w7 ⟨rfl, bl7⟩
  have G7 := Lib.hid (bT G6.out bl7)
  have D7 := Lib.hid (bT D6.out bl7)
  have A7 := Lib.hid (A6.out.trans (bl7.mono (by have := G6.out.size; omega)))
  have V7 := Lib.hid (own_below V6.out bl7)
  have R7 := Lib.hid (own_below R6.out bl7)
  have Q7 := Lib.hid (Q6.out.below bl7)
  have X7 := Lib.hid ((bl7.block _ (Array.getElem?_eq_some_iff.1 X6.out).1).trans X6.out)
  have hs7 := bl7.size
  have hs47 := G7.out.size
  clear bl7 G6 D6 A6 V6 R6 X6 E7 Q6
  have KX : Hid (∀ W, Below w7.heap.size w7 W → w.heap.size < W.heap.size ∧ w4.heap.size < W.heap.size ∧ W.cell? ⟨w.heap.size, 0, none⟩ = some (.slice sl n cap) ∧ W.cell? ⟨w.heap.size, 1, none⟩ = some (.slice tl m kap) ∧ W.cell? ⟨w.heap.size, 2, none⟩ = some (.int .i64 top) ∧ W.cell? ⟨w.heap.size, 3, none⟩ = some (.int .i64 pr) ∧ W.cell? ⟨w.heap.size, 4, none⟩ = some (.int .i64 st) ∧ W.cell? ⟨w.heap.size, 5, none⟩ = some (.int .i64 bu) ∧ W.cell? ⟨w.heap.size, 6, none⟩ = some (.slice bl q cb) ∧ W.cell? ⟨w.heap.size, 7, none⟩ = some (.slice pl p cp) ∧ W.cell? ⟨w.heap.size, 8, none⟩ = some (.slice ul u cu) ∧ W.cell? ⟨w.heap.size, 9, none⟩ = some (.int .i64 ai) ∧ W.cell? ⟨w.heap.size, 10, none⟩ = some (.int .i64 fx) ∧ W.cell? ⟨w.heap.size, 11, none⟩ = some (.bool gc) ∧ W.cell? ⟨w.heap.size, 12, none⟩ = some (.bool gf) ∧ W.cell? ⟨w4.heap.size, 0, none⟩ = some (.slice (some ⟨c1, 0, none⟩) n n) ∧ W.cell? ⟨w4.heap.size, 1, none⟩ = some (.slice (some ⟨c2, 0, none⟩) m m) ∧ W.cell? ⟨w4.heap.size, 2, none⟩ = some (.int .i64 top) ∧ W.cell? ⟨w4.heap.size, 3, none⟩ = some (.int .i64 pr) ∧ W.cell? ⟨w4.heap.size, 4, none⟩ = some (.int .i64 st) ∧ W.cell? ⟨w4.heap.size, 5, none⟩ = some (.int .i64 bu) ∧ W.cell? ⟨w4.heap.size, 6, none⟩ = some (.slice (some ⟨c3, 0, none⟩) q q) ∧ W.cell? ⟨w4.heap.size, 7, none⟩ = some (.slice (some ⟨c4, 0, none⟩) p p) ∧ W.cell? ⟨w4.heap.size, 8, none⟩ = some (.slice (some ⟨c5, 0, none⟩) u u) ∧ W.cell? ⟨w4.heap.size, 9, none⟩ = some (.int .i64 ai) ∧ W.cell? ⟨w4.heap.size, 10, none⟩ = some (.int .i64 fx) ∧ W.cell? ⟨w4.heap.size, 11, none⟩ = some (.bool gc) ∧ W.cell? ⟨w4.heap.size, 12, none⟩ = some (.bool gf)) := fun W hW => by
    obtain ⟨k1, k20, k21, k22, k23, k24, k25, k26, k27, k28, k29, k210, k211, k212⟩ := KT.out W (A7.out.trans (hW.mono (by omega)))
    obtain ⟨y0, y1, y2, y3, y4, y5, y6, y7, y8, y9, y10, y11, y12, yf, yl⟩ := cells13 ((hW.block _ (Array.getElem?_eq_some_iff.1 X7.out).1).trans X7.out)
    exact ⟨k1, yl, k20, k21, k22, k23, k24, k25, k26, k27, k28, k29, k210, k211, k212, y0, y1, y2, y3, y4, y5, y6, y7, y8, y9, y10, y11, y12⟩
  go_wp2_with fail
  refine wp_region_held_drew (S := fun W => w.heap.size < W.heap.size ∧ w4.heap.size < W.heap.size ∧ W.cell? ⟨w.heap.size, 0, none⟩ = some (.slice sl n cap) ∧ W.cell? ⟨w.heap.size, 1, none⟩ = some (.slice tl m kap) ∧ W.cell? ⟨w.heap.size, 2, none⟩ = some (.int .i64 top) ∧ W.cell? ⟨w.heap.size, 3, none⟩ = some (.int .i64 pr) ∧ W.cell? ⟨w.heap.size, 4, none⟩ = some (.int .i64 st) ∧ W.cell? ⟨w.heap.size, 5, none⟩ = some (.int .i64 bu) ∧ W.cell? ⟨w.heap.size, 6, none⟩ = some (.slice bl q cb) ∧ W.cell? ⟨w.heap.size, 7, none⟩ = some (.slice pl p cp) ∧ W.cell? ⟨w.heap.size, 8, none⟩ = some (.slice ul u cu) ∧ W.cell? ⟨w.heap.size, 9, none⟩ = some (.int .i64 ai) ∧ W.cell? ⟨w.heap.size, 10, none⟩ = some (.int .i64 fx) ∧ W.cell? ⟨w.heap.size, 11, none⟩ = some (.bool gc) ∧ W.cell? ⟨w.heap.size, 12, none⟩ = some (.bool gf) ∧ W.cell? ⟨w4.heap.size, 0, none⟩ = some (.slice (some ⟨c1, 0, none⟩) n n) ∧ W.cell? ⟨w4.heap.size, 1, none⟩ = some (.slice (some ⟨c2, 0, none⟩) m m) ∧ W.cell? ⟨w4.heap.size, 2, none⟩ = some (.int .i64 top) ∧ W.cell? ⟨w4.heap.size, 3, none⟩ = some (.int .i64 pr) ∧ W.cell? ⟨w4.heap.size, 4, none⟩ = some (.int .i64 st) ∧ W.cell? ⟨w4.heap.size, 5, none⟩ = some (.int .i64 bu) ∧ W.cell? ⟨w4.heap.size, 6, none⟩ = some (.slice (some ⟨c3, 0, none⟩) q q) ∧ W.cell? ⟨w4.heap.size, 7, none⟩ = some (.slice (some ⟨c4, 0, none⟩) p p) ∧ W.cell? ⟨w4.heap.size, 8, none⟩ = some (.slice (some ⟨c5, 0, none⟩) u u) ∧ W.cell? ⟨w4.heap.size, 9, none⟩ = some (.int .i64 ai) ∧ W.cell? ⟨w4.heap.size, 10, none⟩ = some (.int .i64 fx) ∧ W.cell? ⟨w4.heap.size, 11, none⟩ = some (.bool gc) ∧ W.cell? ⟨w4.heap.size, 12, none⟩ = some (.bool gf)) (by kernel_rfl) ?_ (fun hHeld => ?_)
  · exact KX.out _ (Below.refl _ _).drew
  refine wpAnyH_take (i := 0) (oi := _) (v := ?_) rfl (by kernel_rfl) (by kernel_rfl) (by kernel_rfl) (fun _ _ _ h => h) (Or.inl ⟨by rfl, ?_⟩) (by assumption) ?_
  rotate_left
  · first | (intro w hSw; (try dsimp only at hSw); go_simp; done) | (intro w hSw; (try dsimp only at hSw); go_simp; with_reducible rfl)
  try simp only [Act.put, List.setIfInBounds_toArray, List.set_cons_zero, List.set_cons_succ, List.getElem_toArray, List.getElem_cons_zero]
  refine wpAnyH_take (i := 1) (oi := _) (v := ?_) rfl (by kernel_rfl) (by kernel_rfl) (by kernel_rfl) (fun _ _ _ h => h) (Or.inl ⟨by rfl, ?_⟩) (by assumption) ?_
  rotate_left
  · first | (intro w hSw; (try dsimp only at hSw); go_simp; done) | (intro w hSw; (try dsimp only at hSw); go_simp; with_reducible rfl)
  try simp only [Act.put, List.setIfInBounds_toArray, List.set_cons_zero, List.set_cons_succ, List.getElem_toArray, List.getElem_cons_succ, List.getElem_cons_zero]
  refine wpAnyH_ready (rs := [2]) (by kernel_rfl) (by simp) ?_
  refine AllReadyH.cons rfl (fun K hK => ?_) AllReadyH.nil
  go_simp
  go_wp2_with (go_at_call 8; refine (TO.out _ D7.out.drew).mono ?_; rintro e w8 ⟨d1, d2, d3, d4, d5, rs3, rfl, e3, o3, a3, bl8⟩)
  have D8 : Hid (Below w7.heap.size w7 w8) := bT ((Below.refl w7.heap.size w7).drew) bl8
  have O8 := Lib.hid o3
  have E8 := Lib.hid e3
  clear bl8 o3 e3 a3
  refine hK.out _ _ ?_ (fun hHeld => ?_)
  · exact KX.out _ D8.out
  clear hK K
  refine wpAnyH_ready (rs := [3]) (by kernel_rfl) (by simp) ?_
  refine AllReadyH.cons rfl (fun K hK => ?_) AllReadyH.nil
  go_simp
  go_wp2_with (go_at_call 11; refine (TE.out c1 c2 c3 c4 c5 rs2 d1 d2 d3 d4 d5 rs3 _ _ _ E2.out E8.out ((O4.out.below G7.out).below D8.out) O8.out).mono ?_; rintro e w9 ⟨rfl, bl9⟩)
  have D9 : Hid (Below w7.heap.size w7 w9) := bT D8.out bl9
  clear bl9
  refine hK.out _ _ ?_ (fun hHeld => ?_)
  · exact KX.out _ D9.out
  clear hK K
  refine wpAnyH_take (i := 4) (oi := _) (v := ?_) rfl (by kernel_rfl) (by kernel_rfl) (by kernel_rfl) (fun _ _ _ h => h) (Or.inl ⟨by rfl, ?_⟩) (by assumption) ?_
  rotate_left
  · first | (intro w hSw; (try dsimp only at hSw); go_simp; done) | (intro w hSw; (try dsimp only at hSw); go_simp; with_reducible rfl)
  try simp only [Act.put, List.setIfInBounds_toArray, List.set_cons_zero, List.set_cons_succ, List.getElem_toArray, List.getElem_cons_succ, List.getElem_cons_zero]
  refine wpAnyH_done (by kernel_rfl) ?_ _

  have G9 := Lib.hid (bT G7.out D9.out)
  have B9 := Lib.hid (bT D7.out D9.out)
  have A9 := Lib.hid (A7.out.trans (D9.out.mono (by omega)))
  have V9 := Lib.hid (own_below V7.out D9.out)
  have R9 := Lib.hid (own_below R7.out D9.out)
  have Q9 := Lib.hid (Q7.out.below D9.out)
  have X9 := Lib.hid ((D9.out.block _ (Array.getElem?_eq_some_iff.1 X7.out).1).trans X7.out)
  have hs9 := D9.out.size
  clear D9 D8 KX O8 E8 TE G7 D7 A7 V7 R7 X7 Q7
  go_wp2_with fail
  refine (TV.out _ B9.out).mono ?_
  rintro e w9a ⟨rfl, r9, bl9⟩
  have T9 := Lib.hid (TW.out _ _ w9a (Q9.out.below bl9) r9)
  have K9 := Lib.hid bl9
  clear bl9 r9
  go_wp2_with fail
  refine T9.out.mono ?_
  rintro e w9b ⟨rfl, bl9⟩
  have K9b := Lib.hid (bT K9.out bl9)
  have G9b := Lib.hid (bT G9.out K9b.out)
  have B9b := Lib.hid (bT B9.out K9b.out)
  have A9b := Lib.hid (A9.out.trans (K9b.out.mono (by omega)))
  have V9b := Lib.hid (own_below V9.out K9b.out)
  have R9b := Lib.hid (own_below R9.out K9b.out)
  have Q9b := Lib.hid (Q9.out.below K9b.out)
  have X9b := Lib.hid ((K9b.out.block _ (Array.getElem?_eq_some_iff.1 X9.out).1).trans X9.out)
  have hs9b := K9b.out.size
  clear bl9 K9 K9b T9 G9 B9 A9 V9 R9 Q9 X9 TW
  have M10 := Lib.hid (MT.out _ c1 c2 c3 c4 c5 rs2 w4 w9b E2.out O4.out S4.out G9b.out)
  obtain ⟨x0, x1, x2, x3, x4, x5, x6, x7, x8, x9, x10, x11, x12, xf, xl⟩ := cells13 X9b.out
  go_wp2_with fail
  refine M10.out.mono ?_
  rintro e w10 ⟨k, ⟨k0, k40⟩, rfl, g10⟩
  have V10 := Lib.hid (own_btw V9b.out g10 (fun j hj => .inl (L3.out j hj)))
  have R10 := Lib.hid (own_btw R9b.out g10 (fun j hj => .inr (by have := (L6.out j hj).1; have := HS5v.out; omega)))
  have B10 := Lib.hid (B9b.out.trans ((g10.below (by omega)).mono (by have := D3s.out; omega)))
  have A10 := Lib.hid (A9b.out.trans ((g10.below (by omega)).mono (by omega)))
  have Q10 : Hid (VlM w10 w5.heap.size a) := by
    obtain ⟨us9, u1, u2, -⟩ := Q9b.out
    exact ⟨us9, (g10.block w5.heap.size (Array.getElem?_eq_some_iff.1 u1).1 (.inr (by rw [HS5.out]; omega))).trans u1, by omega⟩
  have hs10 := g10.size
  clear g10 M10 V9b R9b B9b A9b X9b x0 x1 x2 x3 x4 x5 x6 x7 x8 x9 x10 x11 x12 xf xl MT G9b O4 S4 Q9b
  have M11 := Lib.hid (MV.out k w5.heap.size w10 k0 k40 Q10.out)
  have HL5 := Lib.hid (show w3.heap.size < w5.heap.size by rw [HS5.out]; omega)
  go_wp2_with fail
  refine M11.out.mono ?_
  rintro e w10b ⟨rfl, g10⟩
  have V10b := Lib.hid (own_btw V10.out ((Btw.refl w5.heap.size (w5.heap.size + 1) w10).only g10 (Nat.le_refl _) (Nat.lt_succ_self _)) (fun j hj => .inl (by have := L3.out j hj; have := HL5.out; omega)))
  have R10b := Lib.hid (own_btw R10.out ((Btw.refl w5.heap.size (w5.heap.size + 1) w10).only g10 (Nat.le_refl _) (Nat.lt_succ_self _)) (fun j hj => .inr (by have := (L6.out j hj).1; have := LV.out; omega)))
  have B10b := Lib.hid (B10.out.grown g10.grownBy (by have := D3s.out; omega) (fun j hj => by cases hj; have := D3s.out; have := HL5.out; omega))
  have A10b := Lib.hid (A10.out.grown g10.grownBy (by omega) (fun j hj => by cases hj; have := HL5.out; omega))
  have hs10b := g10.size
  have k1 : ¬ (k + 2 * (a : Int)) < 0 := by omega
  clear g10 M11 V10 R10 B10 A10 Q10 MV
  go_wp2_with fail
  refine (EQ.out _ _ v6 v0 w10b R10b.out V10b.out).mono ?_
  rintro e w11 ⟨rfl, bl11⟩
  have B11 := Lib.hid (bT B10b.out bl11)
  have A11 := Lib.hid (A10b.out.trans (bl11.mono (by omega)))
  have V11 := Lib.hid (own_below V10b.out bl11)
  have R11 := Lib.hid (own_below R10b.out bl11)
  have hs11 := bl11.size
  clear bl11 B10b A10b V10b R10b
  go_wp2_with fail
  refine (MR.out _ v6 w11 R11.out).mono ?_
  rintro e w12 ⟨rfl, o12, g12⟩
  have LB : Hid (∀ j, v6.ownBlock = some j → w4.heap.size < j ∧ j < w11.heap.size) := fun j hj => by
    have := L6.out j hj
    have := HS5v.out
    omega
  have V12 := Lib.hid (own_btw V11.out ((Btw.refl w4.heap.size w11.heap.size w11).grown g12 (fun j hj => by have := LB.out j hj; omega)) (fun j hj => .inl (by have := L3.out j hj; omega)))
  have B12 := Lib.hid (B11.out.grown g12 (by have := D3s.out; omega) (fun j hj => by have := LB.out j hj; have := D3s.out; omega))
  have A12 := Lib.hid (A11.out.grown g12 (by omega) (fun j hj => by have := LB.out j hj; omega))
  have R12 := Lib.hid o12
  clear o12 g12 V11 B11 A11 R11 MR LB
  go_wp2_with fail
  refine (HR.out _ v6 w12 R12.out).mono ?_
  rintro e w13 ⟨rfl, rfl⟩
  have hq : ¬ (1 + (al : Int)) < 0 := by omega
  obtain ⟨tl0, t0, t1, t2, t3, t4, t5, t6, t7, t8, t9, t10, t11, t12⟩ := KT.out _ A12.out
  go_wp2_with fail
  refine (TO.out _ B12.out).mono ?_
  rintro e w14 ⟨f1, f2, f3, f4, f5, rs4, rfl, e4, o4, a4, bl14⟩
  have F14 := Lib.hid bl14
  have B14 := Lib.hid (bT B12.out bl14)
  have O14 := Lib.hid o4
  have E14 := Lib.hid e4
  clear e4 o4 a4 bl14 t0 t1 t2 t3 t4 t5 t6 t7 t8 t9 t10 t11 t12 tl0
  go_wp2_with fail
  refine (TV.out _ B14.out).mono ?_
  rintro e w14v ⟨rfl, r14, bl14⟩
  have T15 := Lib.hid (IM.out f1 f2 f3 f4 f5 rs4 _ _ w14v E14.out (O14.out.below bl14) r14)
  have F14v := Lib.hid (bT F14.out bl14)
  have B14v := Lib.hid (bT B14.out bl14)
  clear bl14 r14 F14 B14 O14 E14
  go_wp2_with fail
  refine T15.out.mono ?_
  rintro e w15 ⟨v15, rfl, q15, bl15⟩
  have B15 := Lib.hid (bT B14v.out bl15)
  have F15 := Lib.hid (bT F14v.out bl15)
  have R15 := Lib.hid q15
  clear q15 bl15 F14v B14v T15
  go_wp2_with fail
  refine (EQ.out _ _ v15 v0 w15 R15.out (own_below V12.out F15.out)).mono ?_
  rintro e w16 ⟨rfl, bl16⟩
  have B16 := Lib.hid (bT B15.out bl16)
  have F16 := Lib.hid (bT F15.out bl16)
  clear bl16 B15 F15 R15
  go_wp2_with fail
  refine (HR.out _ v6 w16 (own_below R12.out F16.out)).mono ?_
  rintro e w17 ⟨rfl, rfl⟩
  go_wp2
  go_ret
  exact ⟨rfl, B16.out⟩

end Go.Proofs.YtnkiaickkbkjnaaGreat
