/-
  THE SUM OF THE PRICES OF ALL BIDS THAT ARE NOT OUT: both sides.
  THE LAW FnExactStageRight: the walk.
  WHAT A STAGE NEEDS: both sides.
  PAYS: rows of one's own, their marks, two held against each other.
  WHAT A STAGE PAYS: as the program tells it.
  WHAT A STAGE PAYS: as the model tells it.
-/
import Derived.Test.YtanoklpffenljaaGreatDoorCh
import Derived.Test.YtanoklpffenljaaGreatDoorEd
import Derived.Test.YtanoklpffenljaaGreatDoorTs
import Derived.Test.YtanoklpffenljaaGreatDoorPb
import Derived.Test.YtanoklpffenljaaGreatDoorAj
import Derived.Test.YtanoklpffenljaaGreatDoorAz
import Derived.BigQuiet
namespace Go.Proofs.YtanoklpffenljaaGreatDoor
open Go.RowKit
set_option linter.unusedVariables false

def totL (bs : List LPr) : Int := (bs.map fun b => if b.2.1 = 3 then (0 : Int) else b.2.2).sum
theorem totL_step (bs : List LPr) (k : Nat) (h : k < bs.length) : totL (bs.take (k + 1)) = totL (bs.take k) + (if bs[k].2.1 = 3 then (0 : Int) else bs[k].2.2) := by
  unfold totL
  rw [List.take_add_one, List.getElem?_eq_getElem h]
  simp only [Option.toList_some, List.map_append, List.map_cons, List.map_nil, List.sum_append, List.sum_cons, List.sum_nil, Int.add_zero]
theorem totL_bnd (bs : List LPr) (h : ∀ b ∈ bs, BidOK b) (k : Nat) : 0 ≤ totL (bs.take k) ∧ totL (bs.take k) ≤ 1000000000 * (k : Int) := by
  induction k with
  | zero => simp [totL]
  | succ k ih =>
    by_cases hk : k < bs.length
    · rw [totL_step bs k hk]
      have := (h _ (List.getElem_mem hk)).2
      split <;> omega
    · rw [List.take_of_length_le (show bs.length ≤ k + 1 by omega)]
      rw [List.take_of_length_le (show bs.length ≤ k by omega)] at ih
      omega
/-- What ClockTotal tells. -/
noncomputable def totA (rs : List LSt) (ps : List LPr) (top pr st bu : Int) (bs : List LPr) (ls : List LPl) : Int := if B (ClkR rs ps top pr st bu bs ls) = true then totL bs else 0
theorem totA_bare {rs rs' : List LSt} (ps : List LPr) (top pr st bu : Int) (bs : List LPr) (ls : List LPl) (h : bareS rs = bareS rs') : totA rs ps top pr st bu bs ls = totA rs' ps top pr st bu bs ls := by
  unfold totA
  rw [clk_bare ps top pr st bu bs ls h]

end Go.Proofs.YtanoklpffenljaaGreatDoor
namespace Go.Proofs.YtanoklpffenljaaGreatDoor
open Go.RowKit
set_option linter.unusedVariables false

theorem stg_bare {rs rs' : List LSt} (ps : List LPr) (top pr st bu : Int) (bs : List LPr) (ls : List LPl) (us : List Int) (ai fx : Int) (gc gf : Bool) (h : bareS rs = bareS rs') : B (StgR rs ps top pr st bu bs ls us ai fx gc gf) = B (StgR rs' ps top pr st bu bs ls us ai fx gc gf) := by
  have e := clk_bare ps top pr st bu bs ls h
  have e' : ClkR rs ps top pr st bu bs ls ↔ ClkR rs' ps top pr st bu bs ls := ⟨fun g => B_true (by rw [← e]; exact B_yes g), fun g => B_true (by rw [e]; exact B_yes g)⟩
  exact B_iff (by unfold StgR; rw [e'])

end Go.Proofs.YtanoklpffenljaaGreatDoor
namespace Go.Proofs.YtanoklpffenljaaGreatDoor
open Go.RowKit
set_option linter.unusedVariables false

set_option maxRecDepth 100000 in
set_option maxHeartbeats 4000000 in
/-- impl.promised. -/
theorem pro_any (bl : Option Addr) (cb : Nat) (bs : List LPr) (w : World) (hq : bs.length ≤ 1048576) (ok : ∀ b ∈ bs, BidOK b) (hbs : Prs w bl bs) :
    Calls Tryz.prog 127 #[.slice bl bs.length cb] w fun e w' => e = .returned (.int .i64 (totL bs)) ∧ Below w.heap.size w w' := by
  have TK := Lib.hid (show bs.take bs.length = bs from List.take_length)
  have OK := Lib.hid ok
  have HB := Lib.hid hbs
  clear hbs ok
  generalize hQ : bs.length = q at *
  have HQ := Lib.hid hQ
  clear hQ
  go_enter Tryz.func127, Tryz.ntmps127
  go_wp2
  go_loopw [4, 10] (fun t i wr => ∃ k : Nat, i = .int .i64 k ∧ k ≤ q ∧ t = .int .i64 (totL (bs.take k)) ∧ Hid (Below w.heap.size w wr)) (fun _ i _ => q - (intOf i).toNat)
  case atStart => exact ⟨0, rfl, Nat.zero_le _, rfl, Below.refl _ _⟩
  case round =>
    obtain ⟨k, rfl, hk, rfl, H2⟩ := hrel
    have hk0 : (0 : Int) ≤ (k : Int) := by omega
    by_cases h1 : k < q
    · have h1' : (k : Int) < (q : Int) := by omega
      have hlt : k < bs.length := by rw [HQ.out]; exact h1
      obtain ⟨g, o, rfl, ZI⟩ : ∃ c o, bl = some ⟨c, o, none⟩ ∧ PrAt w c o bs := by
        rcases HB.out with e | h
        · rw [e] at hlt; simp at hlt
        · exact h
      obtain ⟨e0, e1, e2⟩ := (ZI.below H2.out).cell k hlt
      have zl := (ZI.below H2.out).lt
      have ok := OK.out _ (List.getElem_mem hlt)
      have S1 := Lib.hid (totL_step bs k hlt)
      have BN := totL_bnd bs OK.out k
      obtain ⟨x, y, z, hp⟩ : ∃ a b q, bs[k] = (a, b, q) := ⟨_, _, _, rfl⟩
      rw [hp] at e0 e1 e2 S1 ok
      unfold BidOK at ok
      dsimp only at e0 e1 e2 S1 ok
      obtain ⟨-, ok1, ok2⟩ := ok
      obtain ⟨bn1, bn2⟩ := BN
      have bn3 : totL (bs.take k) ≤ 2000000000000000 := by omega
      clear hp hlt ZI bn2
      generalize totL (bs.take k) = s at *
      have E := Lib.hid (lac_any 3 x y z)
      have B5 := Lib.hid (bA H2.out (.cells #[.int .i64 x, .int .i64 y, .int .i64 z] 58))
      have N5 := Lib.hid (new_at wr (.cells #[.int .i64 x, .int .i64 y, .int .i64 z] 58))
      go_wp2_with fail
      refine (E.out _).mono ?_
      rintro e w6 ⟨rfl, b6⟩
      have B6 := Lib.hid (bT B5.out b6)
      have k6 := (b6.block wr.heap.size (by simp)).trans N5.out
      obtain ⟨d0, d1, d2, df, dl⟩ := cells3 k6
      clear b6 B5 N5 k6
      by_cases hy : y = 3
      · have S2 := Lib.hid (S1.out.trans (by rw [if_pos hy, Int.add_zero]))
        have hy' : (y != 3) = false := by simpa using hy
        rw [hy']
        clear hy hy' S1
        go_wp2
        go_roundw
        case rel => exact ⟨k + 1, by go_num, by omega, by rw [S2.out], B6⟩
        case measure => simp [intOf]; omega
      · have S2 := Lib.hid (S1.out.trans (by rw [if_neg hy]))
        have hy' : (y != 3) = true := by simpa using hy
        rw [hy']
        clear hy hy' S1
        go_wp2
        go_roundw
        case rel => exact ⟨k + 1, by go_num, by omega, by rw [S2.out], B6⟩
        case measure => simp [intOf]; omega
    · have h1' : ¬ (k : Int) < (q : Int) := by omega
      have e : k = q := by omega
      subst e
      go_wp2
      go_ret
      exact ⟨by first | (rw [TK.out]; done) | (rw [TK.out]; rfl), H2.out⟩
theorem wrap_sum (s f : Int) (h0 : 0 ≤ s) (h1 : s ≤ 2000000000000000) (h2 : 0 ≤ f) (h3 : f ≤ 1000000000000) : IntKind.i64.wrap (s + f) = s + f := by
  rw [IntKind.wrap_i64]; omega
theorem totL_all (bs : List LPr) (hq : bs.length ≤ 1048576) (ok : ∀ b ∈ bs, BidOK b) : 0 ≤ totL bs ∧ totL bs ≤ 2000000000000000 := by
  have := totL_bnd bs ok bs.length
  rw [List.take_length] at this
  exact ⟨this.1, by omega⟩

set_option maxRecDepth 100000 in
set_option maxHeartbeats 4000000 in
/-- impl.neededBy. -/
theorem nee_any (sl : Option Addr) (cap : Nat) (tl : Option Addr) (kap : Nat) (top pr st bu : Int) (bl : Option Addr) (cb : Nat) (pl : Option Addr) (cp : Nat) (ul : Option Addr) (cu : Nat) (ai fx : Int) (gc gf : Bool) (rs : List LSt) (ps : List LPr) (bs : List LPr) (ls : List LPl) (us : List Int) (w : World) (hq : bs.length ≤ 1048576) (ok : ∀ b ∈ bs, BidOK b) (hf : NouR fx) (hbs : Prs w bl bs) :
    Calls Tryz.prog 107 #[SgV sl rs.length cap tl ps.length kap top pr st bu bl bs.length cb pl ls.length cp ul us.length cu ai fx gc gf] w fun e w' => e = .returned (.int .i64 (totL bs + fx)) ∧ Below w.heap.size w w' := by
  have PR : Hid (∀ W, Below w.heap.size w W → Calls Tryz.prog 127 #[.slice bl bs.length cb] W fun e w' => e = .returned (.int .i64 (totL bs)) ∧ Below W.heap.size W w') := fun W hW => pro_any bl cb bs W hq ok (hbs.below hW)
  obtain ⟨t0, t1⟩ := totL_all bs hq ok
  obtain ⟨f0, f1⟩ := hf
  clear ok hbs hq
  generalize totL bs = s at *
  generalize rs.length = n at *
  generalize ps.length = m at *
  generalize bs.length = q at *
  generalize ls.length = p at *
  generalize us.length = u at *
  have B0 := Lib.hid (bA0 w (.cells (SgC sl n cap tl m kap top pr st bu bl q cb pl p cp ul u cu ai fx gc gf) 49))
  have N0 := Lib.hid (new_at w (.cells (SgC sl n cap tl m kap top pr st bu bl q cb pl p cp ul u cu ai fx gc gf) 49))
  have hS : (w.alloc (.cells (SgC sl n cap tl m kap top pr st bu bl q cb pl p cp ul u cu ai fx gc gf) 49)).heap.size = w.heap.size + 1 := by simp

  go_enter Tryz.func107, Tryz.ntmps107
  go_wp2_with fail
  generalize w.alloc (.cells (SgC sl n cap tl m kap top pr st bu bl q cb pl p cp ul u cu ai fx gc gf) 49) = wA at *
  have KX : Hid (∀ W, Below wA.heap.size wA W → w.heap.size < W.heap.size ∧ W.cell? ⟨w.heap.size, 0, none⟩ = some (.slice sl n cap) ∧ W.cell? ⟨w.heap.size, 1, none⟩ = some (.slice tl m kap) ∧ W.cell? ⟨w.heap.size, 2, none⟩ = some (.int .i64 top) ∧ W.cell? ⟨w.heap.size, 3, none⟩ = some (.int .i64 pr) ∧ W.cell? ⟨w.heap.size, 4, none⟩ = some (.int .i64 st) ∧ W.cell? ⟨w.heap.size, 5, none⟩ = some (.int .i64 bu) ∧ W.cell? ⟨w.heap.size, 6, none⟩ = some (.slice bl q cb) ∧ W.cell? ⟨w.heap.size, 7, none⟩ = some (.slice pl p cp) ∧ W.cell? ⟨w.heap.size, 8, none⟩ = some (.slice ul u cu) ∧ W.cell? ⟨w.heap.size, 9, none⟩ = some (.int .i64 ai) ∧ W.cell? ⟨w.heap.size, 10, none⟩ = some (.int .i64 fx) ∧ W.cell? ⟨w.heap.size, 11, none⟩ = some (.bool gc) ∧ W.cell? ⟨w.heap.size, 12, none⟩ = some (.bool gf)) := fun W hW => by
    obtain ⟨c0, c1, c2, c3, c4, c5, c6, c7, c8, c9, c10, c11, c12, cf, cl⟩ := cells13 ((hW.block w.heap.size (by rw [hS]; omega)).trans N0.out)
    exact ⟨cl, c0, c1, c2, c3, c4, c5, c6, c7, c8, c9, c10, c11, c12⟩

  refine wp_region_held_drew (S := fun W => w.heap.size < W.heap.size ∧ W.cell? ⟨w.heap.size, 0, none⟩ = some (.slice sl n cap) ∧ W.cell? ⟨w.heap.size, 1, none⟩ = some (.slice tl m kap) ∧ W.cell? ⟨w.heap.size, 2, none⟩ = some (.int .i64 top) ∧ W.cell? ⟨w.heap.size, 3, none⟩ = some (.int .i64 pr) ∧ W.cell? ⟨w.heap.size, 4, none⟩ = some (.int .i64 st) ∧ W.cell? ⟨w.heap.size, 5, none⟩ = some (.int .i64 bu) ∧ W.cell? ⟨w.heap.size, 6, none⟩ = some (.slice bl q cb) ∧ W.cell? ⟨w.heap.size, 7, none⟩ = some (.slice pl p cp) ∧ W.cell? ⟨w.heap.size, 8, none⟩ = some (.slice ul u cu) ∧ W.cell? ⟨w.heap.size, 9, none⟩ = some (.int .i64 ai) ∧ W.cell? ⟨w.heap.size, 10, none⟩ = some (.int .i64 fx) ∧ W.cell? ⟨w.heap.size, 11, none⟩ = some (.bool gc) ∧ W.cell? ⟨w.heap.size, 12, none⟩ = some (.bool gf)) (by kernel_rfl) ?_ (fun hHeld => ?_)
  · exact KX.out _ (Below.refl _ _).drew
  refine wpAnyH_take (i := 0) (oi := _) (v := ?_) rfl (by kernel_rfl) (by kernel_rfl) (by kernel_rfl) (fun _ _ _ h => h) (Or.inl ⟨by rfl, ?_⟩) (by assumption) ?_
  rotate_left
  · first | (intro w hSw; (try dsimp only at hSw); go_simp; done) | (intro w hSw; (try dsimp only at hSw); go_simp; with_reducible rfl)
  try simp only [Act.put, List.setIfInBounds_toArray, List.set_cons_zero, List.set_cons_succ, List.getElem_toArray, List.getElem_cons_zero]
  refine wpAnyH_take (i := 1) (oi := _) (v := ?_) rfl (by kernel_rfl) (by kernel_rfl) (by kernel_rfl) (fun _ _ _ h => h) (Or.inl ⟨by rfl, ?_⟩) (by assumption) ?_
  rotate_left
  · first | (intro w hSw; (try dsimp only at hSw); go_simp; done) | (intro w hSw; (try dsimp only at hSw); go_simp; with_reducible rfl)
  try simp only [Act.put, List.setIfInBounds_toArray, List.set_cons_zero, List.set_cons_succ, List.getElem_toArray, List.getElem_cons_succ, List.getElem_cons_zero]
  refine wpAnyH_take (i := 2) (oi := _) (v := ?_) rfl (by kernel_rfl) (by kernel_rfl) (by kernel_rfl) (fun _ _ _ h => h) (Or.inl ⟨by rfl, ?_⟩) (by assumption) ?_
  rotate_left
  · first | (intro w hSw; (try dsimp only at hSw); go_simp; done) | (intro w hSw; (try dsimp only at hSw); go_simp; with_reducible rfl)
  try simp only [Act.put, List.setIfInBounds_toArray, List.set_cons_zero, List.set_cons_succ, List.getElem_toArray, List.getElem_cons_succ, List.getElem_cons_zero]
  refine wpAnyH_take (i := 4) (oi := _) (v := ?_) rfl (by kernel_rfl) (by kernel_rfl) (by kernel_rfl) (fun _ _ _ h => h) (Or.inl ⟨by rfl, ?_⟩) (by assumption) ?_
  rotate_left
  · first | (intro w hSw; (try dsimp only at hSw); go_simp; done) | (intro w hSw; (try dsimp only at hSw); go_simp; with_reducible rfl)
  try simp only [Act.put, List.setIfInBounds_toArray, List.set_cons_zero, List.set_cons_succ, List.getElem_toArray, List.getElem_cons_succ, List.getElem_cons_zero]
  refine wpAnyH_take (i := 5) (oi := _) (v := ?_) rfl (by kernel_rfl) (by kernel_rfl) (by kernel_rfl) (fun _ _ _ h => h) (Or.inl ⟨by rfl, ?_⟩) (by assumption) ?_
  rotate_left
  · first | (intro w hSw; (try dsimp only at hSw); go_simp; done) | (intro w hSw; (try dsimp only at hSw); go_simp; with_reducible rfl)
  try simp only [Act.put, List.setIfInBounds_toArray, List.set_cons_zero, List.set_cons_succ, List.getElem_toArray, List.getElem_cons_succ, List.getElem_cons_zero]
  refine wpAnyH_ready (rs := [3]) (by kernel_rfl) (by simp) ?_
  refine AllReadyH.cons rfl (fun K hK => ?_) AllReadyH.nil
  go_simp
  go_wp2_with (go_at_call 127; refine (PR.out _ B0.out.drew).mono ?_; rintro e w1 ⟨rfl, b1⟩)
  have A1 : Hid (Below wA.heap.size wA w1) := bT ((Below.refl wA.heap.size wA).drew) b1
  clear b1
  refine hK.out _ _ ?_ (fun hHeld => ?_)
  · exact KX.out _ A1.out
  clear hK K
  refine wpAnyH_take (i := 6) (oi := _) (v := ?_) rfl (by kernel_rfl) (by kernel_rfl) (by kernel_rfl) (fun _ _ _ h => h) (Or.inl ⟨by rfl, ?_⟩) (by assumption) ?_
  rotate_left
  · first | (intro w hSw; (try dsimp only at hSw); go_simp; done) | (intro w hSw; (try dsimp only at hSw); go_simp; with_reducible rfl)
  try simp only [Act.put, List.setIfInBounds_toArray, List.set_cons_zero, List.set_cons_succ, List.getElem_toArray, List.getElem_cons_succ, List.getElem_cons_zero]
  refine wpAnyH_take (i := 7) (oi := _) (v := ?_) rfl (by kernel_rfl) (by kernel_rfl) (by kernel_rfl) (fun _ _ _ h => h) (Or.inl ⟨by rfl, ?_⟩) (by assumption) ?_
  rotate_left
  · first | (intro w hSw; (try dsimp only at hSw); go_simp; done) | (intro w hSw; (try dsimp only at hSw); go_simp; with_reducible rfl)
  try simp only [Act.put, List.setIfInBounds_toArray, List.set_cons_zero, List.set_cons_succ, List.getElem_toArray, List.getElem_cons_succ, List.getElem_cons_zero]
  refine wpAnyH_done (by kernel_rfl) ?_ _

  have D1 := Lib.hid (bT B0.out A1.out)
  go_wp2
  go_ret
  exact ⟨by first | rfl | (show Ending.returned (.int .i64 (IntKind.i64.wrap (s + fx))) = _; rw [wrap_sum s fx t0 t1 f0 f1]), D1.out⟩

end Go.Proofs.YtanoklpffenljaaGreatDoor
namespace Go.Proofs.YtanoklpffenljaaGreatDoor
open Go.RowKit
set_option linter.unusedVariables false

theorem infoPay : (Tryz.prog.info? 73).map (fun i => (i.zero, i.size, i.bytes)) = some (some (.agg #[.int .i64 0, .int .i64 0]), 2, 16) := by kernel_rfl
theorem own_ePay (w : World) : (w.alloc (.cells #[] 73)).ownsRow w.heap.size 73 2 (.slice (some ⟨w.heap.size, 0, none⟩) 0 0) 0 (enCells []) :=
  ⟨rfl, .inr ⟨w.heap.size, 0, #[], rfl, Nat.le_refl _, by show (w.heap.push _)[w.heap.size]? = _; simp, Nat.le_refl _, Nat.zero_le _, rfl, rfl⟩⟩
/-- The first i cells of a row of places hold the marks. -/
def MarkQ (w : World) (b s : Nat) (k : Int) (i : Nat) : Prop := ∃ vs : Array Value, w.heap[b]? = some (.cells vs 73) ∧ vs.size = s ∧ ∀ j, j < i → vs[j]? = some (.int .i64 (k + (j : Int)))
theorem MarkQ.step {w : World} {b s : Nat} {k : Int} {i : Nat} (h : MarkQ w b s k i) (hi : i < s) : MarkQ (w.setCell ⟨b, i, none⟩ (.int .i64 (k + (i : Int)))) b s k (i + 1) := by
  obtain ⟨vs, h1, h2, h3⟩ := h
  refine ⟨_, heap_setCell_same w b i vs 73 _ h1, by simp [h2], fun j hj => ?_⟩
  rw [Array.getElem?_setIfInBounds]
  by_cases e : i = j
  · subst e; simp [h2, hi]
  · rw [if_neg e]; exact h3 j (by omega)
theorem MarkQ.cell {w : World} {b s : Nat} {k : Int} {i : Nat} (h : MarkQ w b s k i) (j : Nat) (hj : j < s) : (∃ v, w.cell? ⟨b, j, none⟩ = some v) ∧ w.frozen? ⟨b, j, none⟩ = false := by
  obtain ⟨vs, h1, h2, h3⟩ := h
  exact ⟨⟨vs[j]'(by omega), by simp [World.cell?, h1, show j < vs.size by omega]⟩, by simp [World.frozen?, h1]⟩
theorem MarkQ.at {w : World} {b s : Nat} {k : Int} {i : Nat} (h : MarkQ w b s k i) (j : Nat) (hj : j < i) : w.cell? ⟨b, j, none⟩ = some (.int .i64 (k + (j : Int))) := by
  obtain ⟨vs, h1, h2, h3⟩ := h
  have := h3 j hj
  simp [World.cell?, h1, this]
theorem MarkQ.lt {w : World} {b s : Nat} {k : Int} {i : Nat} (h : MarkQ w b s k i) : b < w.heap.size := by
  obtain ⟨vs, h1, _⟩ := h
  exact (Array.getElem?_eq_some_iff.1 h1).1





theorem own_pays {w : World} {B : Nat} {v : Value} {pl : List LPl} (h : w.ownsRow B 73 2 v pl.length (enCells pl)) : ∃ sl cap, v = .slice sl pl.length cap ∧ (pl = [] ∨ ∃ c, sl = some ⟨c, 0, none⟩ ∧ PlAt w c 0 pl ∧ B ≤ c) := by
  rcases h.2 with ⟨hv, h0⟩ | ⟨g, cap, cur, hv, hb, hg, _⟩
  · exact ⟨none, 0, by rw [hv, h0], .inl (List.eq_nil_of_length_eq_zero h0)⟩
  · refine ⟨_, cap, hv, .inr ⟨g, rfl, ⟨(Array.getElem?_eq_some_iff.1 hg).1, fun i hi => ?_⟩, hb⟩⟩
    have e := enCells_at pl i hi
    subst hv
    rw [Nat.zero_add]
    exact ⟨by rw [h.cellAt (i * 2) (by omega), e.1], by rw [h.cellAt (i * 2 + 1) (by omega), e.2]⟩




end Go.Proofs.YtanoklpffenljaaGreatDoor
namespace Go.Proofs.YtanoklpffenljaaGreatDoor
open Go.RowKit
set_option linter.unusedVariables false

set_option maxRecDepth 100000 in
set_option maxHeartbeats 2000000 in
/-- slices.IndexFunc, of a State. -/
theorem ixf_any (bl : Option Addr) (cb : Nat) (bs : List LPr) (kk : Int) (w : World) (hq : bs.length ≤ 1048576) (hbs : Prs w bl bs) :
    Calls Tryz.prog 137 #[.slice bl bs.length cb, .func (.func 69) #[.int .i64 kk] #[]] w fun e w' => ∃ z : Int, e = .returned (.int .i64 z) ∧ Below w.heap.size w w' := by
  have HB := Lib.hid hbs
  clear hbs
  generalize hQ : bs.length = q at *
  have HQ := Lib.hid hQ
  clear hQ
  go_enter Tryz.func137, Tryz.ntmps137
  go_wp2
  go_loopw [8] (fun i wr => ∃ k : Nat, i = .int .i64 k ∧ k ≤ q ∧ Hid (Below w.heap.size w wr)) (fun i _ => q - (intOf i).toNat)
  case atStart => exact ⟨0, rfl, Nat.zero_le _, Below.refl _ _⟩
  case round =>
    obtain ⟨k, rfl, hk, H2⟩ := hrel
    have hk0 : (0 : Int) ≤ (k : Int) := by omega
    by_cases h1 : k < q
    · have h1' : (k : Int) < (q : Int) := by omega
      have hlt : k < bs.length := by rw [HQ.out]; exact h1
      obtain ⟨g, o, rfl, ZI⟩ : ∃ c o, bl = some ⟨c, o, none⟩ ∧ PrAt w c o bs := by
        rcases HB.out with e | h
        · rw [e] at hlt; simp at hlt
        · exact h
      obtain ⟨e0, e1, e2⟩ := (ZI.below H2.out).cell k hlt
      have zl := (ZI.below H2.out).lt
      obtain ⟨x, y, z, hp⟩ : ∃ a b q, bs[k] = (a, b, q) := ⟨_, _, _, rfl⟩
      rw [hp] at e0 e1 e2
      dsimp only at e0 e1 e2
      clear hp hlt ZI HB HQ
      have E4 := Lib.hid (hol_any kk x y z)
      go_wp2_with fail
      refine (E4.out _).mono ?_
      rintro e w6 ⟨rfl, b6⟩
      have B6 := Lib.hid (bT H2.out b6)
      clear b6
      generalize (y == kk) = r at *
      cases r
      · go_wp2
        go_roundw
        case rel => exact ⟨k + 1, by go_num, by omega, B6⟩
        case measure => simp [intOf]; omega
      · go_wp2
        go_ret
        exact ⟨_, rfl, B6.out⟩
    · have h1' : ¬ (k : Int) < (q : Int) := by omega
      go_wp2
      go_ret
      first | exact ⟨_, rfl, H2.out⟩ | exact ⟨⟨_, rfl⟩, H2.out⟩
/-- slices.ContainsFunc, of a State. -/
theorem cof_any (bl : Option Addr) (cb : Nat) (bs : List LPr) (kk : Int) (w : World) (hq : bs.length ≤ 1048576) (hbs : Prs w bl bs) :
    Calls Tryz.prog 126 #[.slice bl bs.length cb, .func (.func 69) #[.int .i64 kk] #[]] w fun e w' => ∃ b : Bool, e = .returned (.bool b) ∧ Below w.heap.size w w' := by
  have E := Lib.hid (ixf_any bl cb bs kk w hq hbs)
  clear hbs
  generalize bs.length = q at *
  go_enter Tryz.func126, Tryz.ntmps126
  go_wp2_with fail
  refine E.out.mono ?_
  rintro e w1 ⟨z, rfl, b1⟩
  have D1 := Lib.hid b1
  clear b1
  go_wp2
  go_ret
  exact ⟨_, rfl, D1.out⟩
/-- impl.anyActive. -/
theorem ana_any (bl : Option Addr) (cb : Nat) (bs : List LPr) (w : World) (hq : bs.length ≤ 1048576) (hbs : Prs w bl bs) :
    Calls Tryz.prog 106 #[.slice bl bs.length cb] w fun e w' => ∃ b : Bool, e = .returned (.bool b) ∧ Below w.heap.size w w' := by
  have E := Lib.hid (cof_any bl cb bs 1 w hq hbs)
  clear hbs
  generalize bs.length = q at *
  go_enter Tryz.func106, Tryz.ntmps106
  go_wp2_with fail
  refine E.out.mono ?_
  rintro e w1 ⟨z, rfl, b1⟩
  have D1 := Lib.hid b1
  clear b1
  go_wp2
  go_ret
  exact ⟨_, rfl, D1.out⟩

/-- What stands in a stage that is not closed. -/
def OpenV (v : Value) : Prop := v = .iface 149 (.agg #[]) ∨ v = .iface 151 (.agg #[]) ∨ ∃ (a : Int) (b : Bool), v = .iface 154 (.agg #[.int .i64 a, .bool b])
set_option maxRecDepth 100000 in
set_option maxHeartbeats 4000000 in
/-- impl.standingOf. -/
theorem sta_any (sl : Option Addr) (cap : Nat) (tl : Option Addr) (kap : Nat) (top pr st bu : Int) (bl : Option Addr) (cb : Nat) (pl : Option Addr) (cp : Nat) (ul : Option Addr) (cu : Nat) (ai fx : Int) (gc gf : Bool) (rs : List LSt) (ps : List LPr) (bs : List LPr) (ls : List LPl) (us : List Int) (w : World) (hq : bs.length ≤ 1048576) (hu : us.length ≤ 1048576) (ok : ∀ b ∈ bs, BidOK b) (hf : NouR fx) (hbs : Prs w bl bs) :
    Calls Tryz.prog 81 #[SgV sl rs.length cap tl ps.length kap top pr st bu bl bs.length cb pl ls.length cp ul us.length cu ai fx gc gf] w fun e w' => ∃ v, e = .returned v ∧ ((gc = true ∧ v = .iface 123 (.agg #[])) ∨ (gc = false ∧ OpenV v)) ∧ Below w.heap.size w w' := by
  have AN : Hid (∀ W, Below w.heap.size w W → Calls Tryz.prog 106 #[.slice bl bs.length cb] W fun e w' => ∃ b : Bool, e = .returned (.bool b) ∧ Below W.heap.size W w') := fun W hW => ana_any bl cb bs W hq (hbs.below hW)
  have NE : Hid (∀ W, Below w.heap.size w W → Calls Tryz.prog 107 #[SgV sl rs.length cap tl ps.length kap top pr st bu bl bs.length cb pl ls.length cp ul us.length cu ai fx gc gf] W fun e w' => ∃ z : Int, e = .returned (.int .i64 z) ∧ Below W.heap.size W w') := fun W hW => (nee_any sl cap tl kap top pr st bu bl cb pl cp ul cu ai fx gc gf rs ps bs ls us W hq ok hf (hbs.below hW)).mono fun e w' ⟨h1, h2⟩ => ⟨_, h1, h2⟩
  clear ok hf hbs
  generalize rs.length = n at *
  generalize ps.length = m at *
  generalize bs.length = q at *
  generalize ls.length = p at *
  generalize us.length = u at *
  have B0 := Lib.hid (bA0 w (.cells (SgC sl n cap tl m kap top pr st bu bl q cb pl p cp ul u cu ai fx gc gf) 49))
  have N0 := Lib.hid (new_at w (.cells (SgC sl n cap tl m kap top pr st bu bl q cb pl p cp ul u cu ai fx gc gf) 49))
  have hS : (w.alloc (.cells (SgC sl n cap tl m kap top pr st bu bl q cb pl p cp ul u cu ai fx gc gf) 49)).heap.size = w.heap.size + 1 := by simp

  cases gc
  case true =>
    clear AN NE
    go_enter Tryz.func81, Tryz.ntmps81
    go_wp2
    go_ret
    exact ⟨_, rfl, .inl ⟨by trivial, rfl⟩, B0.out⟩
  cases gf
  case true =>
    clear AN NE
    go_enter Tryz.func81, Tryz.ntmps81
    go_wp2
    go_ret
    exact ⟨_, rfl, .inr ⟨by trivial, .inl rfl⟩, B0.out⟩
  go_enter Tryz.func81, Tryz.ntmps81
  go_wp2_with fail
  refine (AN.out _ B0.out).mono ?_
  rintro e w1 ⟨b, rfl, b1⟩
  have D1 := Lib.hid (bT B0.out b1)
  have M1 := Lib.hid ((b1.block w.heap.size (by rw [hS]; omega)).trans N0.out)
  obtain ⟨c0, c1, c2, c3, c4, c5, c6, c7, c8, c9, c10, c11, c12, cf, cl⟩ := cells13 M1.out
  have L1 := Lib.hid cl
  clear b1 N0 hS B0 AN
  cases b
  case true =>
    clear NE
    go_wp2
    go_ret
    exact ⟨_, rfl, .inr ⟨by trivial, .inr (.inl rfl)⟩, D1.out⟩
  have KX : Hid (∀ W, Below w1.heap.size w1 W → w.heap.size < W.heap.size ∧ W.cell? ⟨w.heap.size, 0, none⟩ = some (.slice sl n cap) ∧ W.cell? ⟨w.heap.size, 1, none⟩ = some (.slice tl m kap) ∧ W.cell? ⟨w.heap.size, 2, none⟩ = some (.int .i64 top) ∧ W.cell? ⟨w.heap.size, 3, none⟩ = some (.int .i64 pr) ∧ W.cell? ⟨w.heap.size, 4, none⟩ = some (.int .i64 st) ∧ W.cell? ⟨w.heap.size, 5, none⟩ = some (.int .i64 bu) ∧ W.cell? ⟨w.heap.size, 6, none⟩ = some (.slice bl q cb) ∧ W.cell? ⟨w.heap.size, 7, none⟩ = some (.slice pl p cp) ∧ W.cell? ⟨w.heap.size, 8, none⟩ = some (.slice ul u cu) ∧ W.cell? ⟨w.heap.size, 9, none⟩ = some (.int .i64 ai) ∧ W.cell? ⟨w.heap.size, 10, none⟩ = some (.int .i64 fx) ∧ W.cell? ⟨w.heap.size, 11, none⟩ = some (.bool false) ∧ W.cell? ⟨w.heap.size, 12, none⟩ = some (.bool false)) := fun W hW => by
    obtain ⟨c0, c1, c2, c3, c4, c5, c6, c7, c8, c9, c10, c11, c12, cf, cl⟩ := cells13 ((hW.block w.heap.size (by exact L1.out)).trans M1.out)
    exact ⟨cl, c0, c1, c2, c3, c4, c5, c6, c7, c8, c9, c10, c11, c12⟩
  go_wp2_with fail
  refine wp_region_held_drew (S := fun W => w.heap.size < W.heap.size ∧ W.cell? ⟨w.heap.size, 0, none⟩ = some (.slice sl n cap) ∧ W.cell? ⟨w.heap.size, 1, none⟩ = some (.slice tl m kap) ∧ W.cell? ⟨w.heap.size, 2, none⟩ = some (.int .i64 top) ∧ W.cell? ⟨w.heap.size, 3, none⟩ = some (.int .i64 pr) ∧ W.cell? ⟨w.heap.size, 4, none⟩ = some (.int .i64 st) ∧ W.cell? ⟨w.heap.size, 5, none⟩ = some (.int .i64 bu) ∧ W.cell? ⟨w.heap.size, 6, none⟩ = some (.slice bl q cb) ∧ W.cell? ⟨w.heap.size, 7, none⟩ = some (.slice pl p cp) ∧ W.cell? ⟨w.heap.size, 8, none⟩ = some (.slice ul u cu) ∧ W.cell? ⟨w.heap.size, 9, none⟩ = some (.int .i64 ai) ∧ W.cell? ⟨w.heap.size, 10, none⟩ = some (.int .i64 fx) ∧ W.cell? ⟨w.heap.size, 11, none⟩ = some (.bool false) ∧ W.cell? ⟨w.heap.size, 12, none⟩ = some (.bool false)) (by kernel_rfl) ?_ (fun hHeld => ?_)
  · exact KX.out _ (Below.refl _ _).drew
  refine wpAnyH_take (i := 0) (oi := _) (v := ?_) rfl (by kernel_rfl) (by kernel_rfl) (by kernel_rfl) (fun _ _ _ h => h) (Or.inl ⟨by rfl, ?_⟩) (by assumption) ?_
  rotate_left
  · first | (intro w hSw; (try dsimp only at hSw); go_simp; done) | (intro w hSw; (try dsimp only at hSw); go_simp; with_reducible rfl)
  try simp only [Act.put, List.setIfInBounds_toArray, List.set_cons_zero, List.set_cons_succ, List.getElem_toArray, List.getElem_cons_zero]
  refine wpAnyH_take (i := 2) (oi := _) (v := ?_) rfl (by kernel_rfl) (by kernel_rfl) (by kernel_rfl) (fun _ _ _ h => h) (Or.inl ⟨by rfl, ?_⟩) (by assumption) ?_
  rotate_left
  · first | (intro w hSw; (try dsimp only at hSw); go_simp; done) | (intro w hSw; (try dsimp only at hSw); go_simp; with_reducible rfl)
  try simp only [Act.put, List.setIfInBounds_toArray, List.set_cons_zero, List.set_cons_succ, List.getElem_toArray, List.getElem_cons_succ, List.getElem_cons_zero]
  refine wpAnyH_take (i := 3) (oi := _) (v := ?_) rfl (by kernel_rfl) (by kernel_rfl) (by kernel_rfl) (fun _ _ _ h => h) (Or.inl ⟨by rfl, ?_⟩) (by assumption) ?_
  rotate_left
  · first | (intro w hSw; (try dsimp only at hSw); go_simp; done) | (intro w hSw; (try dsimp only at hSw); go_simp; with_reducible rfl)
  try simp only [Act.put, List.setIfInBounds_toArray, List.set_cons_zero, List.set_cons_succ, List.getElem_toArray, List.getElem_cons_succ, List.getElem_cons_zero]
  refine wpAnyH_take (i := 4) (oi := _) (v := ?_) rfl (by kernel_rfl) (by kernel_rfl) (by kernel_rfl) (fun _ _ _ h => h) (Or.inl ⟨by rfl, ?_⟩) (by assumption) ?_
  rotate_left
  · first | (intro w hSw; (try dsimp only at hSw); go_simp; done) | (intro w hSw; (try dsimp only at hSw); go_simp; with_reducible rfl)
  try simp only [Act.put, List.setIfInBounds_toArray, List.set_cons_zero, List.set_cons_succ, List.getElem_toArray, List.getElem_cons_succ, List.getElem_cons_zero]
  refine wpAnyH_take (i := 5) (oi := _) (v := ?_) rfl (by kernel_rfl) (by kernel_rfl) (by kernel_rfl) (fun _ _ _ h => h) (Or.inl ⟨by rfl, ?_⟩) (by assumption) ?_
  rotate_left
  · first | (intro w hSw; (try dsimp only at hSw); go_simp; done) | (intro w hSw; (try dsimp only at hSw); go_simp; with_reducible rfl)
  try simp only [Act.put, List.setIfInBounds_toArray, List.set_cons_zero, List.set_cons_succ, List.getElem_toArray, List.getElem_cons_succ, List.getElem_cons_zero]
  refine wpAnyH_take (i := 6) (oi := _) (v := ?_) rfl (by kernel_rfl) (by kernel_rfl) (by kernel_rfl) (fun _ _ _ h => h) (Or.inl ⟨by rfl, ?_⟩) (by assumption) ?_
  rotate_left
  · first | (intro w hSw; (try dsimp only at hSw); go_simp; done) | (intro w hSw; (try dsimp only at hSw); go_simp; with_reducible rfl)
  try simp only [Act.put, List.setIfInBounds_toArray, List.set_cons_zero, List.set_cons_succ, List.getElem_toArray, List.getElem_cons_succ, List.getElem_cons_zero]
  refine wpAnyH_take (i := 7) (oi := _) (v := ?_) rfl (by kernel_rfl) (by kernel_rfl) (by kernel_rfl) (fun _ _ _ h => h) (Or.inl ⟨by rfl, ?_⟩) (by assumption) ?_
  rotate_left
  · first | (intro w hSw; (try dsimp only at hSw); go_simp; done) | (intro w hSw; (try dsimp only at hSw); go_simp; with_reducible rfl)
  try simp only [Act.put, List.setIfInBounds_toArray, List.set_cons_zero, List.set_cons_succ, List.getElem_toArray, List.getElem_cons_succ, List.getElem_cons_zero]
  refine wpAnyH_take (i := 8) (oi := _) (v := ?_) rfl (by kernel_rfl) (by kernel_rfl) (by kernel_rfl) (fun _ _ _ h => h) (Or.inl ⟨by rfl, ?_⟩) (by assumption) ?_
  rotate_left
  · first | (intro w hSw; (try dsimp only at hSw); go_simp; done) | (intro w hSw; (try dsimp only at hSw); go_simp; with_reducible rfl)
  try simp only [Act.put, List.setIfInBounds_toArray, List.set_cons_zero, List.set_cons_succ, List.getElem_toArray, List.getElem_cons_succ, List.getElem_cons_zero]
  refine wpAnyH_ready (rs := [1]) (by kernel_rfl) (by simp) ?_
  refine AllReadyH.cons rfl (fun K hK => ?_) AllReadyH.nil
  go_simp
  go_wp2_with (go_at_call 107; refine (NE.out _ D1.out.drew).mono ?_; rintro e w2 ⟨z, rfl, b2⟩)
  have A2 : Hid (Below w1.heap.size w1 w2) := bT ((Below.refl w1.heap.size w1).drew) b2
  clear b2
  refine hK.out _ _ ?_ (fun hHeld => ?_)
  · exact KX.out _ A2.out
  clear hK K
  refine wpAnyH_take (i := 9) (oi := _) (v := ?_) rfl (by kernel_rfl) (by kernel_rfl) (by kernel_rfl) (fun _ _ _ h => h) (Or.inl ⟨by rfl, ?_⟩) (by assumption) ?_
  rotate_left
  · first | (intro w hSw; (try dsimp only at hSw); go_simp; done) | (intro w hSw; (try dsimp only at hSw); go_simp; with_reducible rfl)
  try simp only [Act.put, List.setIfInBounds_toArray, List.set_cons_zero, List.set_cons_succ, List.getElem_toArray, List.getElem_cons_succ, List.getElem_cons_zero]
  refine wpAnyH_take (i := 10) (oi := _) (v := ?_) rfl (by kernel_rfl) (by kernel_rfl) (by kernel_rfl) (fun _ _ _ h => h) (Or.inl ⟨by rfl, ?_⟩) (by assumption) ?_
  rotate_left
  · first | (intro w hSw; (try dsimp only at hSw); go_simp; done) | (intro w hSw; (try dsimp only at hSw); go_simp; with_reducible rfl)
  try simp only [Act.put, List.setIfInBounds_toArray, List.set_cons_zero, List.set_cons_succ, List.getElem_toArray, List.getElem_cons_succ, List.getElem_cons_zero]
  refine wpAnyH_take (i := 11) (oi := _) (v := ?_) rfl (by kernel_rfl) (by kernel_rfl) (by kernel_rfl) (fun _ _ _ h => h) (Or.inl ⟨by rfl, ?_⟩) (by assumption) ?_
  rotate_left
  · first | (intro w hSw; (try dsimp only at hSw); go_simp; done) | (intro w hSw; (try dsimp only at hSw); go_simp; with_reducible rfl)
  try simp only [Act.put, List.setIfInBounds_toArray, List.set_cons_zero, List.set_cons_succ, List.getElem_toArray, List.getElem_cons_succ, List.getElem_cons_zero]
  refine wpAnyH_done (by kernel_rfl) ?_ _

  have D2 := Lib.hid (bT D1.out A2.out)
  go_wp2
  go_ret
  exact ⟨_, rfl, .inr ⟨by trivial, .inr (.inr ⟨_, _, rfl⟩)⟩, D2.out⟩

/-- The pays of Bids: the Id and Price of each that is won. -/
def paysL (bs : List LPr) : List LPl := (bs.filter fun b => b.2.1 == 4).map fun b => (b.1, b.2.2)
theorem paysL_len (bs : List LPr) : (paysL bs).length ≤ bs.length := by unfold paysL; rw [List.length_map]; exact List.length_filter_le _ _
theorem paysL_yes (bs : List LPr) (j : Nat) (h : j < bs.length) (hk : (bs[j].2.1 == 4) = true) : paysL (bs.take (j + 1)) = paysL (bs.take j) ++ [(bs[j].1, bs[j].2.2)] := by
  unfold paysL
  rw [List.take_add_one, List.getElem?_eq_getElem h]
  simp only [Option.toList_some, List.filter_append, List.map_append]
  rw [List.filter_cons_of_pos (by exact hk)]
  rfl
theorem paysL_no (bs : List LPr) (j : Nat) (h : j < bs.length) (hk : (bs[j].2.1 == 4) = false) : paysL (bs.take (j + 1)) = paysL (bs.take j) := by
  unfold paysL
  rw [List.take_add_one, List.getElem?_eq_getElem h]
  simp only [Option.toList_some, List.filter_append, List.map_append]
  rw [List.filter_cons_of_neg (by rw [hk]; simp)]
  simp
/-- What StagePays tells. -/
noncomputable def payA (rs : List LSt) (ps : List LPr) (top pr st bu : Int) (bs : List LPr) (ls : List LPl) (us : List Int) (ai fx : Int) (gc gf : Bool) : List LPl := if B (StgR rs ps top pr st bu bs ls us ai fx gc gf) = true ∧ gc = true then paysL bs else []
theorem payA_le (rs : List LSt) (ps : List LPr) (top pr st bu : Int) (bs : List LPr) (ls : List LPl) (us : List Int) (ai fx : Int) (gc gf : Bool) (h : bs.length ≤ 1048576) : (payA rs ps top pr st bu bs ls us ai fx gc gf).length ≤ 1048576 := by
  unfold payA
  split
  · exact Nat.le_trans (paysL_len bs) h
  · simp
theorem payA_bare {rs rs' : List LSt} (ps : List LPr) (top pr st bu : Int) (bs : List LPr) (ls : List LPl) (us : List Int) (ai fx : Int) (gc gf : Bool) (h : bareS rs = bareS rs') : payA rs ps top pr st bu bs ls us ai fx gc gf = payA rs' ps top pr st bu bs ls us ai fx gc gf := by
  unfold payA
  rw [stg_bare ps top pr st bu bs ls us ai fx gc gf h]
theorem ta_won (w : World) : (Instr.typeAssert (.iface 123 (.agg #[])) 20 123 true).run Tryz.prog w = .ok (.tuple #[.agg #[], .bool true]) w := by kernel_rfl
theorem ta_98 (w : World) : (Instr.typeAssert (.iface 149 (.agg #[])) 20 123 true).run Tryz.prog w = .ok (.tuple #[.agg #[], .bool false]) w := by kernel_rfl
theorem ta_100 (w : World) : (Instr.typeAssert (.iface 151 (.agg #[])) 20 123 true).run Tryz.prog w = .ok (.tuple #[.agg #[], .bool false]) w := by kernel_rfl
theorem ta_102 (a : Int) (b : Bool) (w : World) : (Instr.typeAssert (.iface 154 (.agg #[.int .i64 a, .bool b])) 20 123 true).run Tryz.prog w = .ok (.tuple #[.agg #[], .bool false]) w := by kernel_rfl

set_option maxRecDepth 100000 in
set_option maxHeartbeats 4000000 in
/-- impl.StagePays. -/
theorem isp_any (sl : Option Addr) (cap : Nat) (tl : Option Addr) (kap : Nat) (top pr st bu : Int) (bl : Option Addr) (cb : Nat) (pl : Option Addr) (cp : Nat) (ul : Option Addr) (cu : Nat) (ai fx : Int) (gc gf : Bool) (rs : List LSt) (ps : List LPr) (bs : List LPr) (ls : List LPl) (us : List Int) (w : World) (hn : rs.length ≤ 1048576) (hq : bs.length ≤ 1048576) (hl : ls.length ≤ 1048576) (hu : us.length ≤ 1048576) (hcp : ls.length ≤ cp) (hz : Sts w sl rs) (hp : Prs w tl ps) (hw : ∀ p ∈ ps, WfP p) (hbs : Prs w bl bs) (hls : Pls w pl ls) (hus : Ints w ul us) :
    Calls Tryz.prog 39 #[SgV sl rs.length cap tl ps.length kap top pr st bu bl bs.length cb pl ls.length cp ul us.length cu ai fx gc gf] w fun e w' => ∃ v, e = .returned v ∧ w'.ownsRow w.heap.size 73 2 v (payA rs ps top pr st bu bs ls us ai fx gc gf).length (enCells (payA rs ps top pr st bu bs ls us ai fx gc gf)) ∧ Below w.heap.size w w' := by
  obtain ⟨i0, hi0, hz0, hz1, hz2⟩ := info_parts infoPay
  have CR : Hid (∀ W, Below w.heap.size w W → Calls Tryz.prog 38 #[SgV sl rs.length cap tl ps.length kap top pr st bu bl bs.length cb pl ls.length cp ul us.length cu ai fx gc gf] W fun e w' => e = .returned (.bool (B (StgR rs ps top pr st bu bs ls us ai fx gc gf))) ∧ Below W.heap.size W w') := fun W hW => isr_any sl cap tl kap top pr st bu bl cb pl cp ul cu ai fx gc gf rs ps bs ls us W hn hq hl hu hcp (hz.below hW) (hp.below hW) hw (hbs.below hW) (hls.below hW) (hus.below hW)
  have ST : Hid (B (StgR rs ps top pr st bu bs ls us ai fx gc gf) = true → ∀ W, Below w.heap.size w W → Calls Tryz.prog 81 #[SgV sl rs.length cap tl ps.length kap top pr st bu bl bs.length cb pl ls.length cp ul us.length cu ai fx gc gf] W fun e w' => ∃ v, e = .returned v ∧ ((gc = true ∧ v = .iface 123 (.agg #[])) ∨ (gc = false ∧ OpenV v)) ∧ Below W.heap.size W w') := fun g W hW => sta_any sl cap tl kap top pr st bu bl cb pl cp ul cu ai fx gc gf rs ps bs ls us W hq hu (B_true g).1.2.2.1.2 (B_true g).2.2.1 (hbs.below hW)
  have V0 := Lib.hid (show B (StgR rs ps top pr st bu bs ls us ai fx gc gf) = false → payA rs ps top pr st bu bs ls us ai fx gc gf = [] from fun g => if_neg (fun h => by rw [g] at h; cases h.1))
  have V1 := Lib.hid (show gc = false → payA rs ps top pr st bu bs ls us ai fx gc gf = [] from fun g => if_neg (fun h => by rw [g] at h; cases h.2))
  have V2 := Lib.hid (show B (StgR rs ps top pr st bu bs ls us ai fx gc gf) = true → gc = true → payA rs ps top pr st bu bs ls us ai fx gc gf = paysL bs from fun g h => if_pos ⟨g, h⟩)
  have TK := Lib.hid (show bs.take bs.length = bs from List.take_length)
  have HB := Lib.hid hbs
  clear hz hp hw hbs hls hus hcp hn hl hu
  generalize payA rs ps top pr st bu bs ls us ai fx gc gf = pa at *
  generalize B (StgR rs ps top pr st bu bs ls us ai fx gc gf) = r at *
  generalize rs.length = n at *
  generalize ps.length = m at *
  generalize hQ : bs.length = q at *
  generalize ls.length = p at *
  generalize us.length = u at *
  have HQ := Lib.hid hQ
  clear hQ
  have B0 := Lib.hid (bA0 w (.cells (SgC sl n cap tl m kap top pr st bu bl q cb pl p cp ul u cu ai fx gc gf) 49))
  have N0 := Lib.hid (new_at w (.cells (SgC sl n cap tl m kap top pr st bu bl q cb pl p cp ul u cu ai fx gc gf) 49))
  have hS : (w.alloc (.cells (SgC sl n cap tl m kap top pr st bu bl q cb pl p cp ul u cu ai fx gc gf) 49)).heap.size = w.heap.size + 1 := by simp

  go_enter Tryz.func39, Tryz.ntmps39
  go_wp2_with fail
  refine (CR.out _ B0.out).mono ?_
  rintro e w1 ⟨rfl, b1⟩
  have D1 := Lib.hid (bT B0.out b1)
  have M1 := Lib.hid ((b1.block w.heap.size (by rw [hS]; omega)).trans N0.out)
  obtain ⟨c0, c1, c2, c3, c4, c5, c6, c7, c8, c9, c10, c11, c12, cf, cl⟩ := cells13 M1.out
  clear b1 N0 hS B0 CR
  cases r
  · have HV := V0.out (by trivial)
    subst HV
    clear ST V0 V1 V2
    go_wp2
    go_ret
    exact ⟨_, rfl, ⟨rfl, .inl ⟨rfl, rfl⟩⟩, D1.out⟩
  have SF := Lib.hid (ST.out (by trivial))
  have V3 := Lib.hid (V2.out (by trivial))
  clear ST V0 V2
  go_wp2_with fail
  refine (SF.out _ D1.out).mono ?_
  rintro e w2 ⟨v, rfl, hv, b2⟩
  have D2 := Lib.hid (bT D1.out b2)
  have M2 := Lib.hid ((b2.block _ cl).trans M1.out)
  clear c0 c1 c2 c3 c4 c5 c6 c7 c8 c9 c10 c11 c12 cf cl
  obtain ⟨c0, c1, c2, c3, c4, c5, c6, c7, c8, c9, c10, c11, c12, cf, cl⟩ := cells13 M2.out
  clear b2 M1 D1 SF
  rcases hv with ⟨rfl, rfl⟩ | ⟨rfl, hv⟩
  case inr =>
    have HV := V1.out (by trivial)
    subst HV
    clear V1 V3
    rcases hv with rfl | rfl | ⟨a, b, rfl⟩
    · have ta := ta_98
      go_wp2
      go_ret
      exact ⟨_, rfl, ⟨rfl, .inl ⟨rfl, rfl⟩⟩, D2.out⟩
    · have ta := ta_100
      go_wp2
      go_ret
      exact ⟨_, rfl, ⟨rfl, .inl ⟨rfl, rfl⟩⟩, D2.out⟩
    · have ta := ta_102 a b
      go_wp2
      go_ret
      exact ⟨_, rfl, ⟨rfl, .inl ⟨rfl, rfl⟩⟩, D2.out⟩
  have HV := V3.out (by trivial)
  subst HV
  clear V1 V3
  have ta := ta_won
  go_wp2
  go_loopw [3, 20] (fun v i wr => ∃ k : Nat, i = .int .i64 k ∧ k ≤ q ∧ Hid (wr.ownsRow w.heap.size 73 2 v (paysL (bs.take k)).length (enCells (paysL (bs.take k)))) ∧ Hid (Below w.heap.size w wr)) (fun _ i _ => q - (intOf i).toNat)
  case atStart => exact ⟨0, rfl, Nat.zero_le _, ⟨rfl, .inl ⟨rfl, rfl⟩⟩, D2⟩
  case round =>
    obtain ⟨k, rfl, hk, H1, H2⟩ := hrel
    have hk0 : (0 : Int) ≤ (k : Int) := by omega
    by_cases h1 : k < q
    · have h1' : (k : Int) < (q : Int) := by omega
      have hlt : k < bs.length := by rw [HQ.out]; exact h1
      obtain ⟨g, o, rfl, Z0⟩ : ∃ c o, bl = some ⟨c, o, none⟩ ∧ PrAt w c o bs := by
        rcases HB.out with e | h
        · rw [e] at hlt; simp at hlt
        · exact h
      obtain ⟨hc0, hc1, hc2⟩ := (Z0.below H2.out).cell k hlt
      have zl := (Z0.below H2.out).lt
      have LE := Lib.hid (show (paysL (bs.take k)).length ≤ k from Nat.le_trans (paysL_len _) (by rw [List.length_take]; omega))
      have YY := Lib.hid (paysL_yes bs k hlt)
      have NN := Lib.hid (paysL_no bs k hlt)
      obtain ⟨x, y, z, hp⟩ : ∃ a b q, bs[k] = (a, b, q) := ⟨_, _, _, rfl⟩
      rw [hp] at hc0 hc1 hc2 YY NN
      dsimp only at hc0 hc1 hc2 YY NN
      clear hp hlt Z0
      have LE' := LE.out
      have E := Lib.hid (hol_any 4 x y z)
      have B5 := Lib.hid (bA H2.out (.cells #[.int .i64 x, .int .i64 y, .int .i64 z] 58))
      have R5 := Lib.hid (H1.out.alloc (.cells #[.int .i64 x, .int .i64 y, .int .i64 z] 58))
      have N5 := Lib.hid (new_at wr (.cells #[.int .i64 x, .int .i64 y, .int .i64 z] 58))
      go_wp2_with fail
      refine (E.out _).mono ?_
      rintro e w6 ⟨rfl, b6⟩
      have B6 := Lib.hid (bT B5.out b6)
      have R6 := Lib.hid (own_below R5.out b6)
      have k6 := (b6.block wr.heap.size (by simp)).trans N5.out
      obtain ⟨d0, d1, d2, df, dl⟩ := cells3 k6
      have hs := B6.out.size
      clear b6 B5 N5 k6 R5 H1 H2
      by_cases hy : (y == 4) = true
      · have EQ := Lib.hid (YY.out hy)
        have EV := Lib.hid (show enCells (paysL (bs.take k)) ++ [.int .i64 x, .int .i64 z] = enCells (paysL (bs.take k) ++ [(x, z)]) from (enCells_add (paysL (bs.take k)) (x, z)).symm)
        rw [hy]
        clear hy
        go_wp2_with (first | (at_builtin; refine wpList_append_lies _ rfl (.tmp 27) (.tmp 33) 70 rfl w.heap.size 73 i0 (.agg #[.int .i64 0, .int .i64 0]) 2 16 Tryz.underlying70 hi0 hz0 hz1 hz2 rfl (by decide) _ _ _ rfl (R6.out.alloc _) ⟨w6.heap.size, 0, none⟩ 1 1 [.int .i64 x, .int .i64 z] rfl rfl (cell_two_new _ _ _ _) (by intro u hu; simp at hu; rcases hu with rfl | rfl <;> rfl) (by decide) (by unfold maxLen; omega) (by omega) (by simp; omega) (w6.heap.size + 1) (by simp) ?_))
        intro g9 cap9 w9 own9 grow9 hg9 hlt9
        have B9 := Lib.hid ((bA B6.out (.cells #[.int .i64 x, .int .i64 z] 73)).grown grow9 (by simp; omega) (fun j hj => (R6.out.lt j hj).1))
        rw [EV.out] at own9
        have N9 := Lib.hid (show w9.ownsRow w.heap.size 73 2 _ (paysL (bs.take (k + 1))).length (enCells (paysL (bs.take (k + 1)))) by rw [EQ.out, List.length_append]; exact own9)
        clear own9 grow9 hg9 hlt9 YY NN LE LE' EQ EV
        go_wp2
        go_roundw
        case rel => exact ⟨k + 1, by go_num, by omega, N9, B9⟩
        case measure => simp [intOf]; omega
      · have hy' : (y == 4) = false := by simpa using hy
        have EQ := Lib.hid (NN.out hy')
        have N9 := Lib.hid (show w6.ownsRow w.heap.size 73 2 _ (paysL (bs.take (k + 1))).length (enCells (paysL (bs.take (k + 1)))) by rw [EQ.out]; exact R6.out)
        rw [hy']
        clear hy YY NN LE LE' EQ
        go_wp2
        go_roundw
        case rel => exact ⟨k + 1, by go_num, by omega, N9, B6⟩
        case measure => simp [intOf]; omega
    · have h1' : ¬ (k : Int) < (q : Int) := by omega
      have e : k = q := by omega
      have H9 := H1.out
      rw [e, TK.out] at H9
      have P := Lib.hid (And.intro H9 H2.out)
      clear H9 H1
      go_wp2
      go_ret
      exact ⟨_, rfl, P.out.1, P.out.2⟩

end Go.Proofs.YtanoklpffenljaaGreatDoor
namespace Go.Proofs.YtanoklpffenljaaGreatDoor
open Go.RowKit
set_option linter.unusedVariables false

set_option maxRecDepth 100000 in
set_option maxHeartbeats 8000000 in
/-- spec.StagePays. -/
theorem ssp_any (sl : Option Addr) (cap : Nat) (tl : Option Addr) (kap : Nat) (top pr st bu : Int) (bl : Option Addr) (cb : Nat) (pl : Option Addr) (cp : Nat) (ul : Option Addr) (cu : Nat) (ai fx : Int) (gc gf : Bool) (rs : List LSt) (ps : List LPr) (bs : List LPr) (ls : List LPl) (us : List Int) (w : World) (hn : rs.length ≤ 1048576) (hq : bs.length ≤ 1048576) (hl : ls.length ≤ 1048576) (hu : us.length ≤ 1048576) (hz : Sts w sl rs) (hp : Prs w tl ps) (hbs : Prs w bl bs) (hls : Pls w pl ls) (hus : Ints w ul us) :
    Calls Tryz.prog 36 #[SgV sl rs.length cap tl ps.length kap top pr st bu bl bs.length cb pl ls.length cp ul us.length cu ai fx gc gf] w fun e w' => ∃ v, e = .returned v ∧ w'.ownsRow w.heap.size 73 2 v (payA rs ps top pr st bu bs ls us ai fx gc gf).length (enCells (payA rs ps top pr st bu bs ls us ai fx gc gf)) ∧ Below w.heap.size w w' := by
  obtain ⟨i0, hi0, hz0, hz1, hz2⟩ := info_parts infoPay
  have CR : Hid (∀ W, Below w.heap.size w W → Calls Tryz.prog 35 #[SgV sl rs.length cap tl ps.length kap top pr st bu bl bs.length cb pl ls.length cp ul us.length cu ai fx gc gf] W fun e w' => e = .returned (.bool (B (StgR rs ps top pr st bu bs ls us ai fx gc gf))) ∧ Below W.heap.size W w') := fun W hW => ssr_any sl cap tl kap top pr st bu bl cb pl cp ul cu ai fx gc gf rs ps bs ls us W hn hq hl hu (hz.below hW) (hp.below hW) (hbs.below hW) (hls.below hW) (hus.below hW)
  have V0 := Lib.hid (show B (StgR rs ps top pr st bu bs ls us ai fx gc gf) = false → payA rs ps top pr st bu bs ls us ai fx gc gf = [] from fun g => if_neg (fun h => by rw [g] at h; cases h.1))
  have V1 := Lib.hid (show gc = false → payA rs ps top pr st bu bs ls us ai fx gc gf = [] from fun g => if_neg (fun h => by rw [g] at h; cases h.2))
  have V2 := Lib.hid (show B (StgR rs ps top pr st bu bs ls us ai fx gc gf) = true → gc = true → payA rs ps top pr st bu bs ls us ai fx gc gf = paysL bs from fun g h => if_pos ⟨g, h⟩)
  have TK := Lib.hid (show bs.take bs.length = bs from List.take_length)
  have HB := Lib.hid hbs
  clear hz hp hbs hls hus hn hl hu
  generalize payA rs ps top pr st bu bs ls us ai fx gc gf = pa at *
  generalize B (StgR rs ps top pr st bu bs ls us ai fx gc gf) = r at *
  generalize rs.length = n at *
  generalize ps.length = m at *
  generalize hQ : bs.length = q at *
  generalize ls.length = p at *
  generalize us.length = u at *
  have HQ := Lib.hid hQ
  clear hQ
  have B0 := Lib.hid (bA0 w (.cells (SgC sl n cap tl m kap top pr st bu bl q cb pl p cp ul u cu ai fx gc gf) 49))
  have N0 := Lib.hid (new_at w (.cells (SgC sl n cap tl m kap top pr st bu bl q cb pl p cp ul u cu ai fx gc gf) 49))
  have hS : (w.alloc (.cells (SgC sl n cap tl m kap top pr st bu bl q cb pl p cp ul u cu ai fx gc gf) 49)).heap.size = w.heap.size + 1 := by simp

  have O0 := Lib.hid (own_ePay (w.alloc (.cells (SgC sl n cap tl m kap top pr st bu bl q cb pl p cp ul u cu ai fx gc gf) 49)))
  rw [hS] at O0
  have A0 := Lib.hid (bA0 (w.alloc (.cells (SgC sl n cap tl m kap top pr st bu bl q cb pl p cp ul u cu ai fx gc gf) 49)) (.cells #[] 73))
  go_enter Tryz.func36, Tryz.ntmps36
  go_wp2_with fail
  generalize w.alloc (.cells (SgC sl n cap tl m kap top pr st bu bl q cb pl p cp ul u cu ai fx gc gf) 49) = wA at *
  refine (CR.out _ (bT B0.out A0.out)).mono ?_
  rintro e w1 ⟨rfl, b1⟩
  have A1 := Lib.hid (bT A0.out b1)
  have D1 := Lib.hid (bT B0.out A1.out)
  have O1 := Lib.hid (own_below O0.out b1)
  obtain ⟨c0, c1, c2, c3, c4, c5, c6, c7, c8, c9, c10, c11, c12, cf, cl⟩ := cells13 ((A1.out.block w.heap.size (by rw [hS]; omega)).trans N0.out)
  clear b1 CR A0 O0
  cases r
  · have HV := V0.out (by trivial)
    subst HV
    have P := Lib.hid (own_mono O1.out (Nat.le_succ w.heap.size))
    clear V0 V1 V2 O1
    go_wp2
    go_ret
    exact ⟨_, rfl, P.out, D1.out⟩
  cases gc
  · have HV := V1.out (by trivial)
    subst HV
    have P := Lib.hid (own_mono O1.out (Nat.le_succ w.heap.size))
    clear V0 V1 V2 O1
    go_wp2
    go_ret
    exact ⟨_, rfl, P.out, D1.out⟩
  have HV := V2.out (by trivial) (by trivial)
  subst HV
  clear V0 V1 V2
  go_wp2
  clear c0 c1 c2 c3 c4 c5 c6 c7 c8 c9 c10 c11 c12 cf cl
  go_loopw [3, 4] (fun v i wr => ∃ k : Nat, i = .int .i64 k ∧ k ≤ q ∧ Hid (wr.ownsRow (w.heap.size + 1) 73 2 v (paysL (bs.take k)).length (enCells (paysL (bs.take k)))) ∧ Hid (Below wA.heap.size wA wr)) (fun _ i _ => q - (intOf i).toNat)
  case atStart => exact ⟨0, rfl, Nat.zero_le _, O1, A1⟩
  case round =>
    obtain ⟨k, rfl, hk, H1, H3⟩ := hrel
    have hk0 : (0 : Int) ≤ (k : Int) := by omega
    have H2 := Lib.hid (bT B0.out H3.out)
    obtain ⟨c0, c1, c2, c3, c4, c5, c6, c7, c8, c9, c10, c11, c12, cf, cl⟩ := cells13 ((H3.out.block w.heap.size (by rw [hS]; omega)).trans N0.out)
    by_cases h1 : k < q
    · have h1' : (k : Int) < (q : Int) := by omega
      have hlt : k < bs.length := by rw [HQ.out]; exact h1
      obtain ⟨g, o, rfl, Z0⟩ : ∃ c o, bl = some ⟨c, o, none⟩ ∧ PrAt w c o bs := by
        rcases HB.out with e | h
        · rw [e] at hlt; simp at hlt
        · exact h
      have KY : Hid (∀ W, Below wA.heap.size wA W → ∀ x y z, bs[k]? = some (x, y, z) → w.heap.size < W.heap.size ∧ W.cell? ⟨w.heap.size, 0, none⟩ = some (.slice sl n cap) ∧ W.cell? ⟨w.heap.size, 1, none⟩ = some (.slice tl m kap) ∧ W.cell? ⟨w.heap.size, 2, none⟩ = some (.int .i64 top) ∧ W.cell? ⟨w.heap.size, 3, none⟩ = some (.int .i64 pr) ∧ W.cell? ⟨w.heap.size, 4, none⟩ = some (.int .i64 st) ∧ W.cell? ⟨w.heap.size, 5, none⟩ = some (.int .i64 bu) ∧ W.cell? ⟨w.heap.size, 6, none⟩ = some (.slice (some ⟨g, o, none⟩) q cb) ∧ W.cell? ⟨w.heap.size, 7, none⟩ = some (.slice pl p cp) ∧ W.cell? ⟨w.heap.size, 8, none⟩ = some (.slice ul u cu) ∧ W.cell? ⟨w.heap.size, 9, none⟩ = some (.int .i64 ai) ∧ W.cell? ⟨w.heap.size, 10, none⟩ = some (.int .i64 fx) ∧ W.cell? ⟨w.heap.size, 11, none⟩ = some (.bool true) ∧ W.cell? ⟨w.heap.size, 12, none⟩ = some (.bool gf) ∧ g < W.heap.size ∧ W.cell? ⟨g, o + k * 3, none⟩ = some (.int .i64 x) ∧ W.cell? ⟨g, o + k * 3 + 2, none⟩ = some (.int .i64 z)) := fun W hW x y z hx => by
        obtain ⟨hk', hp⟩ := List.getElem?_eq_some_iff.1 hx
        obtain ⟨c0, c1, c2, c3, c4, c5, c6, c7, c8, c9, c10, c11, c12, cf, cl⟩ := cells13 ((hW.block w.heap.size (by rw [hS]; omega)).trans N0.out)
        obtain ⟨e0, e1, e2⟩ := (Z0.below (bT B0.out hW)).cell k hk'
        rw [hp] at e0 e1 e2
        exact ⟨cl, c0, c1, c2, c3, c4, c5, c6, c7, c8, c9, c10, c11, c12, (Z0.below (bT B0.out hW)).lt, e0, e2⟩
      obtain ⟨hc0, hc1, hc2⟩ := (Z0.below H2.out).cell k hlt
      have zl := (Z0.below H2.out).lt
      have LE := Lib.hid (show (paysL (bs.take k)).length ≤ k from Nat.le_trans (paysL_len _) (by rw [List.length_take]; omega))
      have YY := Lib.hid (paysL_yes bs k hlt)
      have NN := Lib.hid (paysL_no bs k hlt)
      have GE := Lib.hid (List.getElem?_eq_getElem hlt)
      obtain ⟨x, y, z, hp⟩ : ∃ a b q, bs[k] = (a, b, q) := ⟨_, _, _, rfl⟩
      rw [hp] at hc0 hc1 hc2 YY NN GE
      dsimp only at hc0 hc1 hc2 YY NN
      have KY := Lib.hid (show ∀ W, Below wA.heap.size wA W → w.heap.size < W.heap.size ∧ W.cell? ⟨w.heap.size, 0, none⟩ = some (.slice sl n cap) ∧ W.cell? ⟨w.heap.size, 1, none⟩ = some (.slice tl m kap) ∧ W.cell? ⟨w.heap.size, 2, none⟩ = some (.int .i64 top) ∧ W.cell? ⟨w.heap.size, 3, none⟩ = some (.int .i64 pr) ∧ W.cell? ⟨w.heap.size, 4, none⟩ = some (.int .i64 st) ∧ W.cell? ⟨w.heap.size, 5, none⟩ = some (.int .i64 bu) ∧ W.cell? ⟨w.heap.size, 6, none⟩ = some (.slice (some ⟨g, o, none⟩) q cb) ∧ W.cell? ⟨w.heap.size, 7, none⟩ = some (.slice pl p cp) ∧ W.cell? ⟨w.heap.size, 8, none⟩ = some (.slice ul u cu) ∧ W.cell? ⟨w.heap.size, 9, none⟩ = some (.int .i64 ai) ∧ W.cell? ⟨w.heap.size, 10, none⟩ = some (.int .i64 fx) ∧ W.cell? ⟨w.heap.size, 11, none⟩ = some (.bool true) ∧ W.cell? ⟨w.heap.size, 12, none⟩ = some (.bool gf) ∧ g < W.heap.size ∧ W.cell? ⟨g, o + k * 3, none⟩ = some (.int .i64 x) ∧ W.cell? ⟨g, o + k * 3 + 2, none⟩ = some (.int .i64 z) from fun W hW => KY.out W hW x y z GE.out)
      have KX : Hid (∀ W, Below wr.heap.size wr W → w.heap.size < W.heap.size ∧ W.cell? ⟨w.heap.size, 0, none⟩ = some (.slice sl n cap) ∧ W.cell? ⟨w.heap.size, 1, none⟩ = some (.slice tl m kap) ∧ W.cell? ⟨w.heap.size, 2, none⟩ = some (.int .i64 top) ∧ W.cell? ⟨w.heap.size, 3, none⟩ = some (.int .i64 pr) ∧ W.cell? ⟨w.heap.size, 4, none⟩ = some (.int .i64 st) ∧ W.cell? ⟨w.heap.size, 5, none⟩ = some (.int .i64 bu) ∧ W.cell? ⟨w.heap.size, 6, none⟩ = some (.slice (some ⟨g, o, none⟩) q cb) ∧ W.cell? ⟨w.heap.size, 7, none⟩ = some (.slice pl p cp) ∧ W.cell? ⟨w.heap.size, 8, none⟩ = some (.slice ul u cu) ∧ W.cell? ⟨w.heap.size, 9, none⟩ = some (.int .i64 ai) ∧ W.cell? ⟨w.heap.size, 10, none⟩ = some (.int .i64 fx) ∧ W.cell? ⟨w.heap.size, 11, none⟩ = some (.bool true) ∧ W.cell? ⟨w.heap.size, 12, none⟩ = some (.bool gf) ∧ g < W.heap.size ∧ W.cell? ⟨g, o + k * 3, none⟩ = some (.int .i64 x) ∧ W.cell? ⟨g, o + k * 3 + 2, none⟩ = some (.int .i64 z)) := fun W hW => KY.out W (bT H3.out hW)
      clear hp hlt Z0 GE
      have LE' := LE.out
      have hs := H3.out.size
      have OD := Lib.hid (show wr.drew.ownsRow (w.heap.size + 1) 73 2 _ (paysL (bs.take k)).length (enCells (paysL (bs.take k))) from H1.out)
      by_cases hy : (y == 4) = true
      · have EQ := Lib.hid (YY.out hy)
        have EV := Lib.hid (show enCells (paysL (bs.take k)) ++ [.int .i64 x, .int .i64 z] = enCells (paysL (bs.take k) ++ [(x, z)]) from (enCells_add (paysL (bs.take k)) (x, z)).symm)
        go_wp2_with fail
        refine wp_region_held_drew (S := fun W => w.heap.size < W.heap.size ∧ W.cell? ⟨w.heap.size, 0, none⟩ = some (.slice sl n cap) ∧ W.cell? ⟨w.heap.size, 1, none⟩ = some (.slice tl m kap) ∧ W.cell? ⟨w.heap.size, 2, none⟩ = some (.int .i64 top) ∧ W.cell? ⟨w.heap.size, 3, none⟩ = some (.int .i64 pr) ∧ W.cell? ⟨w.heap.size, 4, none⟩ = some (.int .i64 st) ∧ W.cell? ⟨w.heap.size, 5, none⟩ = some (.int .i64 bu) ∧ W.cell? ⟨w.heap.size, 6, none⟩ = some (.slice (some ⟨g, o, none⟩) q cb) ∧ W.cell? ⟨w.heap.size, 7, none⟩ = some (.slice pl p cp) ∧ W.cell? ⟨w.heap.size, 8, none⟩ = some (.slice ul u cu) ∧ W.cell? ⟨w.heap.size, 9, none⟩ = some (.int .i64 ai) ∧ W.cell? ⟨w.heap.size, 10, none⟩ = some (.int .i64 fx) ∧ W.cell? ⟨w.heap.size, 11, none⟩ = some (.bool true) ∧ W.cell? ⟨w.heap.size, 12, none⟩ = some (.bool gf) ∧ g < W.heap.size ∧ W.cell? ⟨g, o + k * 3, none⟩ = some (.int .i64 x) ∧ W.cell? ⟨g, o + k * 3 + 2, none⟩ = some (.int .i64 z)) (by kernel_rfl) ?_ (fun hHeld => ?_)
        · exact KX.out _ (Below.refl _ _).drew
        refine wpAnyH_take (i := 0) (oi := _) (v := ?_) rfl (by kernel_rfl) (by kernel_rfl) (by kernel_rfl) (fun _ _ _ h => h) (Or.inl ⟨by rfl, ?_⟩) (by assumption) ?_
        rotate_left
        · first | (intro w hSw; (try dsimp only at hSw); go_simp; done) | (intro w hSw; (try dsimp only at hSw); go_simp; with_reducible rfl)
        try simp only [Act.put, List.setIfInBounds_toArray, List.set_cons_zero, List.set_cons_succ, List.getElem_toArray, List.getElem_cons_zero]
        refine wpAnyH_take (i := 1) (oi := _) (v := ?_) rfl (by kernel_rfl) (by kernel_rfl) (by kernel_rfl) (fun _ _ _ h => h) (Or.inl ⟨by rfl, ?_⟩) (by assumption) ?_
        rotate_left
        · first | (intro w hSw; (try dsimp only at hSw); go_simp; done) | (intro w hSw; (try dsimp only at hSw); go_simp; with_reducible rfl)
        try simp only [Act.put, List.setIfInBounds_toArray, List.set_cons_zero, List.set_cons_succ, List.getElem_toArray, List.getElem_cons_succ, List.getElem_cons_zero]
        refine wpAnyH_take (i := 2) (oi := _) (v := ?_) rfl (by kernel_rfl) (by kernel_rfl) (by kernel_rfl) (fun _ _ _ h => h) (Or.inl ⟨by rfl, ?_⟩) (by assumption) ?_
        rotate_left
        · first | (intro w hSw; (try dsimp only at hSw); go_simp; done) | (intro w hSw; (try dsimp only at hSw); go_simp; with_reducible rfl)
        try simp only [Act.put, List.setIfInBounds_toArray, List.set_cons_zero, List.set_cons_succ, List.getElem_toArray, List.getElem_cons_succ, List.getElem_cons_zero]
        refine wpAnyH_take (i := 3) (oi := _) (v := ?_) rfl (by kernel_rfl) (by kernel_rfl) (by kernel_rfl) (fun _ _ _ h => h) (Or.inl ⟨by rfl, ?_⟩) (by assumption) ?_
        rotate_left
        · first | (intro w hSw; (try dsimp only at hSw); go_simp; done) | (intro w hSw; (try dsimp only at hSw); go_simp; with_reducible rfl)
        try simp only [Act.put, List.setIfInBounds_toArray, List.set_cons_zero, List.set_cons_succ, List.getElem_toArray, List.getElem_cons_succ, List.getElem_cons_zero]
        refine wpAnyH_take (i := 4) (oi := _) (v := ?_) rfl (by kernel_rfl) (by kernel_rfl) (by kernel_rfl) (fun _ _ _ h => h) (Or.inl ⟨by rfl, ?_⟩) (by assumption) ?_
        rotate_left
        · first | (intro w hSw; (try dsimp only at hSw); go_simp; done) | (intro w hSw; (try dsimp only at hSw); go_simp; with_reducible rfl)
        try simp only [Act.put, List.setIfInBounds_toArray, List.set_cons_zero, List.set_cons_succ, List.getElem_toArray, List.getElem_cons_succ, List.getElem_cons_zero]
        refine wpAnyH_take (i := 5) (oi := _) (v := ?_) rfl (by kernel_rfl) (by kernel_rfl) (by kernel_rfl) (fun _ _ _ h => h) (Or.inl ⟨by rfl, ?_⟩) (by assumption) ?_
        rotate_left
        · first | (intro w hSw; (try dsimp only at hSw); go_simp; done) | (intro w hSw; (try dsimp only at hSw); go_simp; with_reducible rfl)
        try simp only [Act.put, List.setIfInBounds_toArray, List.set_cons_zero, List.set_cons_succ, List.getElem_toArray, List.getElem_cons_succ, List.getElem_cons_zero]
        refine wpAnyH_take (i := 6) (oi := _) (v := ?_) rfl (by kernel_rfl) (by kernel_rfl) (by kernel_rfl) (fun _ _ _ h => h) (Or.inl ⟨by rfl, ?_⟩) (by assumption) ?_
        rotate_left
        · first | (intro w hSw; (try dsimp only at hSw); go_simp; done) | (intro w hSw; (try dsimp only at hSw); go_simp; with_reducible rfl)
        try simp only [Act.put, List.setIfInBounds_toArray, List.set_cons_zero, List.set_cons_succ, List.getElem_toArray, List.getElem_cons_succ, List.getElem_cons_zero]
        refine wpAnyH_take (i := 7) (oi := _) (v := ?_) rfl (by kernel_rfl) (by kernel_rfl) (by kernel_rfl) (fun _ _ _ h => h) (Or.inl ⟨by rfl, ?_⟩) (by assumption) ?_
        rotate_left
        · first | (intro w hSw; (try dsimp only at hSw); go_simp; done) | (intro w hSw; (try dsimp only at hSw); go_simp; with_reducible rfl)
        try simp only [Act.put, List.setIfInBounds_toArray, List.set_cons_zero, List.set_cons_succ, List.getElem_toArray, List.getElem_cons_succ, List.getElem_cons_zero]
        refine wpAnyH_take (i := 8) (oi := _) (v := ?_) rfl (by kernel_rfl) (by kernel_rfl) (by kernel_rfl) (fun _ _ _ h => h) (Or.inl ⟨by rfl, ?_⟩) (by assumption) ?_
        rotate_left
        · first | (intro w hSw; (try dsimp only at hSw); go_simp; done) | (intro w hSw; (try dsimp only at hSw); go_simp; with_reducible rfl)
        try simp only [Act.put, List.setIfInBounds_toArray, List.set_cons_zero, List.set_cons_succ, List.getElem_toArray, List.getElem_cons_succ, List.getElem_cons_zero]
        refine wpAnyH_take (i := 9) (oi := _) (v := ?_) rfl (by kernel_rfl) (by kernel_rfl) (by kernel_rfl) (fun _ _ _ h => h) (Or.inl ⟨by rfl, ?_⟩) (by assumption) ?_
        rotate_left
        · first | (intro w hSw; (try dsimp only at hSw); go_simp; done) | (intro w hSw; (try dsimp only at hSw); go_simp; with_reducible rfl)
        try simp only [Act.put, List.setIfInBounds_toArray, List.set_cons_zero, List.set_cons_succ, List.getElem_toArray, List.getElem_cons_succ, List.getElem_cons_zero]
        refine wpAnyH_take (i := 10) (oi := _) (v := ?_) rfl (by kernel_rfl) (by kernel_rfl) (by kernel_rfl) (fun _ _ _ h => h) (Or.inl ⟨by rfl, ?_⟩) (by assumption) ?_
        rotate_left
        · first | (intro w hSw; (try dsimp only at hSw); go_simp; done) | (intro w hSw; (try dsimp only at hSw); go_simp; with_reducible rfl)
        try simp only [Act.put, List.setIfInBounds_toArray, List.set_cons_zero, List.set_cons_succ, List.getElem_toArray, List.getElem_cons_succ, List.getElem_cons_zero]
        refine wpAnyH_take (i := 11) (oi := _) (v := ?_) rfl (by kernel_rfl) (by kernel_rfl) (by kernel_rfl) (fun _ _ _ h => h) (Or.inl ⟨by rfl, ?_⟩) (by assumption) ?_
        rotate_left
        · first | (intro w hSw; (try dsimp only at hSw); go_simp; done) | (intro w hSw; (try dsimp only at hSw); go_simp; with_reducible rfl)
        try simp only [Act.put, List.setIfInBounds_toArray, List.set_cons_zero, List.set_cons_succ, List.getElem_toArray, List.getElem_cons_succ, List.getElem_cons_zero]
        refine wpAnyH_take (i := 12) (oi := _) (v := ?_) rfl (by kernel_rfl) (by kernel_rfl) (by kernel_rfl) (fun _ _ _ h => h) (Or.inl ⟨by rfl, ?_⟩) (by assumption) ?_
        rotate_left
        · first | (intro w hSw; (try dsimp only at hSw); go_simp; done) | (intro w hSw; (try dsimp only at hSw); go_simp; with_reducible rfl)
        try simp only [Act.put, List.setIfInBounds_toArray, List.set_cons_zero, List.set_cons_succ, List.getElem_toArray, List.getElem_cons_succ, List.getElem_cons_zero]
        refine wpAnyH_take (i := 13) (oi := _) (v := ?_) rfl (by kernel_rfl) (by kernel_rfl) (by kernel_rfl) (fun _ _ _ h => h) (Or.inl ⟨by rfl, ?_⟩) (by assumption) ?_
        rotate_left
        · first | (intro w hSw; (try dsimp only at hSw); go_simp; done) | (intro w hSw; (try dsimp only at hSw); go_simp; with_reducible rfl)
        try simp only [Act.put, List.setIfInBounds_toArray, List.set_cons_zero, List.set_cons_succ, List.getElem_toArray, List.getElem_cons_succ, List.getElem_cons_zero]
        refine wpAnyH_take (i := 14) (oi := _) (v := ?_) rfl (by kernel_rfl) (by kernel_rfl) (by kernel_rfl) (fun _ _ _ h => h) (Or.inl ⟨by rfl, ?_⟩) (by assumption) ?_
        rotate_left
        · first | (intro w hSw; (try dsimp only at hSw); go_simp; done) | (intro w hSw; (try dsimp only at hSw); go_simp; with_reducible rfl)
        try simp only [Act.put, List.setIfInBounds_toArray, List.set_cons_zero, List.set_cons_succ, List.getElem_toArray, List.getElem_cons_succ, List.getElem_cons_zero]
        refine wpAnyH_take (i := 15) (oi := _) (v := ?_) rfl (by kernel_rfl) (by kernel_rfl) (by kernel_rfl) (fun _ _ _ h => h) (Or.inl ⟨by rfl, ?_⟩) (by assumption) ?_
        rotate_left
        · first | (intro w hSw; (try dsimp only at hSw); go_simp; done) | (intro w hSw; (try dsimp only at hSw); go_simp; with_reducible rfl)
        try simp only [Act.put, List.setIfInBounds_toArray, List.set_cons_zero, List.set_cons_succ, List.getElem_toArray, List.getElem_cons_succ, List.getElem_cons_zero]
        refine wpAnyH_ready (rs := [16]) (by kernel_rfl) (by simp) ?_
        refine AllReadyH.cons rfl (fun K hK => ?_) AllReadyH.nil
        go_simp
        go_wp2
        have F5 : Hid (Below wr.heap.size wr (wr.drew.alloc (.cells #[.int .i64 x, .int .i64 z] 73))) := bA ((Below.refl wr.heap.size wr).drew) (.cells #[.int .i64 x, .int .i64 z] 73)
        refine hK.out _ _ ?_ (fun hHeld => ?_)
        · exact KX.out _ F5.out
        clear hK K
        refine wpAnyH_ready (rs := [17]) (by kernel_rfl) (by simp) ?_
        refine AllReadyH.cons rfl (fun K hK => ?_) AllReadyH.nil
        refine step_append_lies _ rfl (.tmp 31) (.tmp 47) 70 rfl (w.heap.size + 1) 73 i0 (.agg #[.int .i64 0, .int .i64 0]) 2 16 Tryz.underlying70 hi0 hz0 hz1 hz2 rfl (by decide) _ _ _ rfl (OD.out.alloc _) ⟨wr.heap.size, 0, none⟩ 1 1 [.int .i64 x, .int .i64 z] rfl rfl (cell_two_new wr.drew _ _ _) (by intro u hu; simp at hu; rcases hu with rfl | rfl <;> rfl) (by decide) (by unfold maxLen; omega) (by omega) (by simp; omega) (wr.heap.size + 1) (by simp) ?_
        intro g9 cap9 w9 own9 grow9 hg9 hlt9
        have B9 := Lib.hid ((bA H3.out.drew (.cells #[.int .i64 x, .int .i64 z] 73)).grown grow9 (by show wA.heap.size ≤ (wr.drew.alloc _).heap.size; simp; omega) (fun j hj => by have := (H1.out.lt j hj).1; omega))
        have KS := KY.out _ B9.out
        rw [EV.out] at own9
        have N9 := Lib.hid (show w9.ownsRow (w.heap.size + 1) 73 2 _ (paysL (bs.take (k + 1))).length (enCells (paysL (bs.take (k + 1)))) by rw [EQ.out, List.length_append]; exact own9)
        clear own9 grow9 hg9 hlt9
        refine hK.out _ _ ?_ (fun hHeld => ?_)
        · exact KS
        clear hK K
        refine wpAnyH_take (i := 18) (oi := _) (v := ?_) rfl (by kernel_rfl) (by kernel_rfl) (by kernel_rfl) (fun _ _ _ h => h) (Or.inl ⟨by rfl, ?_⟩) (by assumption) ?_
        rotate_left
        · first | (intro w hSw; (try dsimp only at hSw); go_simp; done) | (intro w hSw; (try dsimp only at hSw); go_simp; with_reducible rfl)
        try simp only [Act.put, List.setIfInBounds_toArray, List.set_cons_zero, List.set_cons_succ, List.getElem_toArray, List.getElem_cons_succ, List.getElem_cons_zero]
        refine wpAnyH_done (by kernel_rfl) ?_ _

        go_wp2
        go_roundw
        case rel => exact ⟨k + 1, by go_num, by omega, N9, B9⟩
        case measure => simp [intOf]; omega
      · have hy' : (y == 4) = false := by simpa using hy
        have EQ := Lib.hid (NN.out hy')
        have N9 := Lib.hid (show wr.ownsRow (w.heap.size + 1) 73 2 _ (paysL (bs.take (k + 1))).length (enCells (paysL (bs.take (k + 1)))) by rw [EQ.out]; exact H1.out)
        clear hy YY NN LE LE' EQ KX KY
        go_wp2
        go_roundw
        case rel => exact ⟨k + 1, by go_num, by omega, N9, H3⟩
        case measure => simp [intOf]; omega
    · have h1' : ¬ (k : Int) < (q : Int) := by omega
      have e : k = q := by omega
      have H9 := H1.out
      rw [e, TK.out] at H9
      have P := Lib.hid (And.intro (own_mono H9 (Nat.le_succ w.heap.size)) H2.out)
      clear H9 H1
      go_wp2
      go_ret
      exact ⟨_, rfl, P.out.1, P.out.2⟩

end Go.Proofs.YtanoklpffenljaaGreatDoor
