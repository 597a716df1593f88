/-
  THE SUM OF THE PRICES OF ALL BIDS THAT ARE NOT OUT: both sides.
  WHAT A STAGE NEEDS: both sides.
  PAYS: rows of one's own, their marks, two held against each other.
  WHAT A STAGE PAYS: as the program tells it.
  WHAT A STAGE PAYS: as the model tells it.
  MARKS ON A CLOCK AND ON A STAGE OF ONE'S OWN.
  THE LAW FnExactStagePays: the walk.
-/
import Derived.Test.YtmmikbkgkpnkbaaGreatCh
import Derived.Test.YtmmikbkgkpnkbaaGreatEd
import Derived.Test.YtmmikbkgkpnkbaaGreatEe
import Derived.Test.YtmmikbkgkpnkbaaGreatPb
import Derived.Test.YtmmikbkgkpnkbaaGreatAj
import Derived.Test.YtmmikbkgkpnkbaaGreatAs
import Derived.BigQuiet
import Derived.Test.YtmmikbkgkpnkbaaGreatAt
import Derived.Test.YtmmikbkgkpnkbaaGreatEa
import Derived.Test.YtmmikbkgkpnkbaaGreatTs
namespace Go.Proofs.YtmmikbkgkpnkbaaGreat
open Go.RowKit
set_option linter.unusedVariables false

def totL (bs : List LPr) : Int := (bs.map fun b => if b.2.1 = 3 then (0 : Int) else b.2.2).sum
theorem totL_step (bs : List LPr) (k : Nat) (h : k < bs.length) : totL (bs.take (k + 1)) = totL (bs.take k) + (if bs[k].2.1 = 3 then (0 : Int) else bs[k].2.2) := by
  unfold totL
  rw [List.take_add_one, List.getElem?_eq_getElem h]
  simp only [Option.toList_some, List.map_append, List.map_cons, List.map_nil, List.sum_append, List.sum_cons, List.sum_nil, Int.add_zero]
theorem totL_bnd (bs : List LPr) (h : ∀ b ∈ bs, BidOK b) (k : Nat) : 0 ≤ totL (bs.take k) ∧ totL (bs.take k) ≤ 1000000000 * (k : Int) := by
  induction k with
  | zero => simp [totL]
  | succ k ih =>
    by_cases hk : k < bs.length
    · rw [totL_step bs k hk]
      have := (h _ (List.getElem_mem hk)).2
      split <;> omega
    · rw [List.take_of_length_le (show bs.length ≤ k + 1 by omega)]
      rw [List.take_of_length_le (show bs.length ≤ k by omega)] at ih
      omega
/-- What ClockTotal tells. -/
noncomputable def totA (rs : List LSt) (ps : List LPr) (top pr st bu : Int) (bs : List LPr) (ls : List LPl) : Int := if B (ClkR rs ps top pr st bu bs ls) = true then totL bs else 0
theorem totA_bare {rs rs' : List LSt} (ps : List LPr) (top pr st bu : Int) (bs : List LPr) (ls : List LPl) (h : bareS rs = bareS rs') : totA rs ps top pr st bu bs ls = totA rs' ps top pr st bu bs ls := by
  unfold totA
  rw [clk_bare ps top pr st bu bs ls h]

set_option maxRecDepth 100000 in
set_option maxHeartbeats 4000000 in
/-- spec.ClockTotal. -/
theorem sct_any (sl : Option Addr) (cap : Nat) (tl : Option Addr) (kap : Nat) (top pr st bu : Int) (bl : Option Addr) (cb : Nat) (pl : Option Addr) (cp : Nat) (rs : List LSt) (ps : List LPr) (bs : List LPr) (ls : List LPl) (w : World) (hn : rs.length ≤ 1048576) (hq : bs.length ≤ 1048576) (hl : ls.length ≤ 1048576) (hz : Sts w sl rs) (hp : Prs w tl ps) (hbs : Prs w bl bs) (hls : Pls w pl ls) :
    Calls Tryz.prog 37 #[CV sl rs.length cap tl ps.length kap top pr st bu bl bs.length cb pl ls.length cp] w fun e w' => e = .returned (.int .i64 (totA rs ps top pr st bu bs ls)) ∧ Below w.heap.size w w' := by
  have CR : Hid (∀ W, Below w.heap.size w W → Calls Tryz.prog 21 #[CV sl rs.length cap tl ps.length kap top pr st bu bl bs.length cb pl ls.length cp] W fun e w' => e = .returned (.bool (B (ClkR rs ps top pr st bu bs ls))) ∧ Below W.heap.size W w') := fun W hW => by
    rw [← clk_B]
    exact scr_any sl cap tl kap top pr st bu bl cb pl cp rs ps bs ls W hn hq hl (hz.below hW) (hp.below hW) (hbs.below hW) (hls.below hW)
  clear hz hp hls
  unfold totA
  by_cases g1 : ClkR rs ps top pr st bu bs ls
  case neg =>
    rw [B_no g1, if_neg (by simp)]
    rw [B_no g1] at CR
    clear g1 hbs
    generalize rs.length = n at *
    generalize ps.length = m at *
    generalize bs.length = q at *
    generalize ls.length = p at *
    have B0 := Lib.hid (bA0 w (.cells (CC sl n cap tl m kap top pr st bu bl q cb pl p cp) 42))
    have N0 := Lib.hid (new_at w (.cells (CC sl n cap tl m kap top pr st bu bl q cb pl p cp) 42))
    have hS : (w.alloc (.cells (CC sl n cap tl m kap top pr st bu bl q cb pl p cp) 42)).heap.size = w.heap.size + 1 := by simp
    have KC : Hid (∀ W, Below (w.heap.size + 1) (w.alloc (.cells (CC sl n cap tl m kap top pr st bu bl q cb pl p cp) 42)) W → W.heap[w.heap.size]? = some (.cells (CC sl n cap tl m kap top pr st bu bl q cb pl p cp) 42)) := fun W hW => (hW.block w.heap.size (by omega)).trans N0.out
    clear N0
    go_enter Tryz.func37, Tryz.ntmps37
    go_wp2_with fail
    refine (CR.out _ B0.out).mono ?_
    rintro e w1 ⟨rfl, b1⟩
    have D1 := Lib.hid (bT B0.out b1)
    have k1 := KC.out w1 (by rw [← hS]; exact b1)
    obtain ⟨c0, c1, c2, c3, c4, c5, c6, c7, cf, cl⟩ := cells8 k1
    have M1 := Lib.hid k1
    clear b1 k1

    go_wp2
    go_ret
    exact ⟨rfl, D1.out⟩
  rw [B_yes g1, if_pos rfl]
  rw [B_yes g1] at CR
  have TK := Lib.hid (show bs.take bs.length = bs from List.take_length)
  have OK := Lib.hid g1.2.2.1.2
  have HB := Lib.hid hbs
  clear g1 hbs
  generalize rs.length = n at *
  generalize ps.length = m at *
  generalize hQ : bs.length = q at *
  generalize ls.length = p at *
  have HQ := Lib.hid hQ
  clear hQ
  have B0 := Lib.hid (bA0 w (.cells (CC sl n cap tl m kap top pr st bu bl q cb pl p cp) 42))
  have N0 := Lib.hid (new_at w (.cells (CC sl n cap tl m kap top pr st bu bl q cb pl p cp) 42))
  have hS : (w.alloc (.cells (CC sl n cap tl m kap top pr st bu bl q cb pl p cp) 42)).heap.size = w.heap.size + 1 := by simp
  have KC : Hid (∀ W, Below (w.heap.size + 1) (w.alloc (.cells (CC sl n cap tl m kap top pr st bu bl q cb pl p cp) 42)) W → W.heap[w.heap.size]? = some (.cells (CC sl n cap tl m kap top pr st bu bl q cb pl p cp) 42)) := fun W hW => (hW.block w.heap.size (by omega)).trans N0.out
  clear N0
  go_enter Tryz.func37, Tryz.ntmps37
  go_wp2_with fail
  refine (CR.out _ B0.out).mono ?_
  rintro e w1 ⟨rfl, b1⟩
  have D1 := Lib.hid (bT B0.out b1)
  have k1 := KC.out w1 (by rw [← hS]; exact b1)
  obtain ⟨c0, c1, c2, c3, c4, c5, c6, c7, cf, cl⟩ := cells8 k1
  have M1 := Lib.hid k1
  clear b1 k1
  have L1 := Lib.hid cl
  clear c0 c1 c2 c3 c4 c5 c6 c7 cf cl
  go_wp2
  go_loopw [3, 4] (fun t i wr => ∃ k : Nat, i = .int .i64 k ∧ k ≤ q ∧ t = .int .i64 (totL (bs.take k)) ∧ Hid (Below w.heap.size w wr) ∧ Hid (Below w1.heap.size w1 wr)) (fun _ i _ => q - (intOf i).toNat)
  case atStart => exact ⟨0, rfl, Nat.zero_le _, rfl, D1, Below.refl _ _⟩
  case round =>
    obtain ⟨k, rfl, hk, rfl, H2, H3⟩ := hrel
    obtain ⟨c0, c1, c2, c3, c4, c5, c6, c7, cf, cl⟩ := cells8 ((H3.out.block _ L1.out).trans M1.out)
    have hk0 : (0 : Int) ≤ (k : Int) := by omega
    by_cases h1 : k < q
    · have h1' : (k : Int) < (q : Int) := by omega
      have hlt : k < bs.length := by rw [HQ.out]; exact h1
      obtain ⟨g, o, rfl, ZI⟩ : ∃ c o, bl = some ⟨c, o, none⟩ ∧ PrAt w c o bs := by
        rcases HB.out with e | h
        · rw [e] at hlt; simp at hlt
        · exact h
      obtain ⟨e0, e1, e2⟩ := (ZI.below H2.out).cell k hlt
      have zl := (ZI.below H2.out).lt
      have ok := OK.out _ (List.getElem_mem hlt)
      have S1 := Lib.hid (totL_step bs k hlt)
      have BN := totL_bnd bs OK.out k
      obtain ⟨x, y, z, hp⟩ : ∃ a b q, bs[k] = (a, b, q) := ⟨_, _, _, rfl⟩
      rw [hp] at e0 e1 e2 S1 ok
      unfold BidOK at ok
      dsimp only at e0 e1 e2 S1 ok
      obtain ⟨-, ok1, ok2⟩ := ok
      obtain ⟨bn1, bn2⟩ := BN
      have bn3 : totL (bs.take k) ≤ 2000000000000000 := by omega
      clear hp hlt ZI bn2
      generalize totL (bs.take k) = s at *
      by_cases hy : y = 3
      · have S2 := Lib.hid (S1.out.trans (by rw [if_pos hy, Int.add_zero]))
        have hy' : (y != 3) = false := by simpa using hy
        clear hy S1
        go_wp2
        go_roundw
        case rel => exact ⟨k + 1, by go_num, by omega, by rw [S2.out], H2, H3⟩
        case measure => simp [intOf]; omega
      · have S2 := Lib.hid (S1.out.trans (by rw [if_neg hy]))
        have hy' : (y != 3) = true := by simpa using hy
        clear hy S1
        go_wp2
        go_roundw
        case rel => exact ⟨k + 1, by go_num, by omega, by rw [S2.out], H2, H3⟩
        case measure => simp [intOf]; omega
    · have h1' : ¬ (k : Int) < (q : Int) := by omega
      have e : k = q := by omega
      subst e
      go_wp2
      go_ret
      exact ⟨by first | (rw [TK.out]; done) | (rw [TK.out]; rfl), H2.out⟩


end Go.Proofs.YtmmikbkgkpnkbaaGreat
namespace Go.Proofs.YtmmikbkgkpnkbaaGreat
open Go.RowKit
set_option linter.unusedVariables false

set_option maxRecDepth 100000 in
set_option maxHeartbeats 4000000 in
/-- impl.promised. -/
theorem pro_any (bl : Option Addr) (cb : Nat) (bs : List LPr) (w : World) (hq : bs.length ≤ 1048576) (ok : ∀ b ∈ bs, BidOK b) (hbs : Prs w bl bs) :
    Calls Tryz.prog 68 #[.slice bl bs.length cb] w fun e w' => e = .returned (.int .i64 (totL bs)) ∧ Below w.heap.size w w' := by
  have TK := Lib.hid (show bs.take bs.length = bs from List.take_length)
  have OK := Lib.hid ok
  have HB := Lib.hid hbs
  clear hbs ok
  generalize hQ : bs.length = q at *
  have HQ := Lib.hid hQ
  clear hQ
  go_enter Tryz.func68, Tryz.ntmps68
  go_wp2
  go_loopw [4, 10] (fun t i wr => ∃ k : Nat, i = .int .i64 k ∧ k ≤ q ∧ t = .int .i64 (totL (bs.take k)) ∧ Hid (Below w.heap.size w wr)) (fun _ i _ => q - (intOf i).toNat)
  case atStart => exact ⟨0, rfl, Nat.zero_le _, rfl, Below.refl _ _⟩
  case round =>
    obtain ⟨k, rfl, hk, rfl, H2⟩ := hrel
    have hk0 : (0 : Int) ≤ (k : Int) := by omega
    by_cases h1 : k < q
    · have h1' : (k : Int) < (q : Int) := by omega
      have hlt : k < bs.length := by rw [HQ.out]; exact h1
      obtain ⟨g, o, rfl, ZI⟩ : ∃ c o, bl = some ⟨c, o, none⟩ ∧ PrAt w c o bs := by
        rcases HB.out with e | h
        · rw [e] at hlt; simp at hlt
        · exact h
      obtain ⟨e0, e1, e2⟩ := (ZI.below H2.out).cell k hlt
      have zl := (ZI.below H2.out).lt
      have ok := OK.out _ (List.getElem_mem hlt)
      have S1 := Lib.hid (totL_step bs k hlt)
      have BN := totL_bnd bs OK.out k
      obtain ⟨x, y, z, hp⟩ : ∃ a b q, bs[k] = (a, b, q) := ⟨_, _, _, rfl⟩
      rw [hp] at e0 e1 e2 S1 ok
      unfold BidOK at ok
      dsimp only at e0 e1 e2 S1 ok
      obtain ⟨-, ok1, ok2⟩ := ok
      obtain ⟨bn1, bn2⟩ := BN
      have bn3 : totL (bs.take k) ≤ 2000000000000000 := by omega
      clear hp hlt ZI bn2
      generalize totL (bs.take k) = s at *
      have E := Lib.hid (lac_any 3 x y z)
      have B5 := Lib.hid (bA H2.out (.cells #[.int .i64 x, .int .i64 y, .int .i64 z] 60))
      have N5 := Lib.hid (new_at wr (.cells #[.int .i64 x, .int .i64 y, .int .i64 z] 60))
      go_wp2_with fail
      refine (E.out _).mono ?_
      rintro e w6 ⟨rfl, b6⟩
      have B6 := Lib.hid (bT B5.out b6)
      have k6 := (b6.block wr.heap.size (by simp)).trans N5.out
      obtain ⟨d0, d1, d2, df, dl⟩ := cells3 k6
      clear b6 B5 N5 k6
      by_cases hy : y = 3
      · have S2 := Lib.hid (S1.out.trans (by rw [if_pos hy, Int.add_zero]))
        have hy' : (y != 3) = false := by simpa using hy
        rw [hy']
        clear hy hy' S1
        go_wp2
        go_roundw
        case rel => exact ⟨k + 1, by go_num, by omega, by rw [S2.out], B6⟩
        case measure => simp [intOf]; omega
      · have S2 := Lib.hid (S1.out.trans (by rw [if_neg hy]))
        have hy' : (y != 3) = true := by simpa using hy
        rw [hy']
        clear hy hy' S1
        go_wp2
        go_roundw
        case rel => exact ⟨k + 1, by go_num, by omega, by rw [S2.out], B6⟩
        case measure => simp [intOf]; omega
    · have h1' : ¬ (k : Int) < (q : Int) := by omega
      have e : k = q := by omega
      subst e
      go_wp2
      go_ret
      exact ⟨by first | (rw [TK.out]; done) | (rw [TK.out]; rfl), H2.out⟩
theorem wrap_sum (s f : Int) (h0 : 0 ≤ s) (h1 : s ≤ 2000000000000000) (h2 : 0 ≤ f) (h3 : f ≤ 1000000000000) : IntKind.i64.wrap (s + f) = s + f := by
  rw [IntKind.wrap_i64]; omega
theorem totL_all (bs : List LPr) (hq : bs.length ≤ 1048576) (ok : ∀ b ∈ bs, BidOK b) : 0 ≤ totL bs ∧ totL bs ≤ 2000000000000000 := by
  have := totL_bnd bs ok bs.length
  rw [List.take_length] at this
  exact ⟨this.1, by omega⟩

set_option maxRecDepth 100000 in
set_option maxHeartbeats 4000000 in
/-- impl.neededBy. -/
theorem nee_any (sl : Option Addr) (cap : Nat) (tl : Option Addr) (kap : Nat) (top pr st bu : Int) (bl : Option Addr) (cb : Nat) (pl : Option Addr) (cp : Nat) (ul : Option Addr) (cu : Nat) (ai fx : Int) (gc gf : Bool) (rs : List LSt) (ps : List LPr) (bs : List LPr) (ls : List LPl) (us : List Int) (w : World) (hq : bs.length ≤ 1048576) (ok : ∀ b ∈ bs, BidOK b) (hf : NouR fx) (hbs : Prs w bl bs) :
    Calls Tryz.prog 38 #[SgV sl rs.length cap tl ps.length kap top pr st bu bl bs.length cb pl ls.length cp ul us.length cu ai fx gc gf] w fun e w' => e = .returned (.int .i64 (totL bs + fx)) ∧ Below w.heap.size w w' := by
  have PR : Hid (∀ W, Below w.heap.size w W → Calls Tryz.prog 68 #[.slice bl bs.length cb] W fun e w' => e = .returned (.int .i64 (totL bs)) ∧ Below W.heap.size W w') := fun W hW => pro_any bl cb bs W hq ok (hbs.below hW)
  obtain ⟨t0, t1⟩ := totL_all bs hq ok
  obtain ⟨f0, f1⟩ := hf
  clear ok hbs hq
  generalize totL bs = s at *
  generalize rs.length = n at *
  generalize ps.length = m at *
  generalize bs.length = q at *
  generalize ls.length = p at *
  generalize us.length = u at *
  have B0 := Lib.hid (bA0 w (.cells (SgC sl n cap tl m kap top pr st bu bl q cb pl p cp ul u cu ai fx gc gf) 44))
  have N0 := Lib.hid (new_at w (.cells (SgC sl n cap tl m kap top pr st bu bl q cb pl p cp ul u cu ai fx gc gf) 44))
  have hS : (w.alloc (.cells (SgC sl n cap tl m kap top pr st bu bl q cb pl p cp ul u cu ai fx gc gf) 44)).heap.size = w.heap.size + 1 := by simp

  go_enter Tryz.func38, Tryz.ntmps38
  go_wp2_with fail
  generalize w.alloc (.cells (SgC sl n cap tl m kap top pr st bu bl q cb pl p cp ul u cu ai fx gc gf) 44) = wA at *
  have KX : Hid (∀ W, Below wA.heap.size wA W → w.heap.size < W.heap.size ∧ W.cell? ⟨w.heap.size, 0, none⟩ = some (.slice sl n cap) ∧ W.cell? ⟨w.heap.size, 1, none⟩ = some (.slice tl m kap) ∧ W.cell? ⟨w.heap.size, 2, none⟩ = some (.int .i64 top) ∧ W.cell? ⟨w.heap.size, 3, none⟩ = some (.int .i64 pr) ∧ W.cell? ⟨w.heap.size, 4, none⟩ = some (.int .i64 st) ∧ W.cell? ⟨w.heap.size, 5, none⟩ = some (.int .i64 bu) ∧ W.cell? ⟨w.heap.size, 6, none⟩ = some (.slice bl q cb) ∧ W.cell? ⟨w.heap.size, 7, none⟩ = some (.slice pl p cp) ∧ W.cell? ⟨w.heap.size, 8, none⟩ = some (.slice ul u cu) ∧ W.cell? ⟨w.heap.size, 9, none⟩ = some (.int .i64 ai) ∧ W.cell? ⟨w.heap.size, 10, none⟩ = some (.int .i64 fx) ∧ W.cell? ⟨w.heap.size, 11, none⟩ = some (.bool gc) ∧ W.cell? ⟨w.heap.size, 12, none⟩ = some (.bool gf)) := fun W hW => by
    obtain ⟨c0, c1, c2, c3, c4, c5, c6, c7, c8, c9, c10, c11, c12, cf, cl⟩ := cells13 ((hW.block w.heap.size (by rw [hS]; omega)).trans N0.out)
    exact ⟨cl, c0, c1, c2, c3, c4, c5, c6, c7, c8, c9, c10, c11, c12⟩

  refine wp_region_held_drew (S := fun W => w.heap.size < W.heap.size ∧ W.cell? ⟨w.heap.size, 0, none⟩ = some (.slice sl n cap) ∧ W.cell? ⟨w.heap.size, 1, none⟩ = some (.slice tl m kap) ∧ W.cell? ⟨w.heap.size, 2, none⟩ = some (.int .i64 top) ∧ W.cell? ⟨w.heap.size, 3, none⟩ = some (.int .i64 pr) ∧ W.cell? ⟨w.heap.size, 4, none⟩ = some (.int .i64 st) ∧ W.cell? ⟨w.heap.size, 5, none⟩ = some (.int .i64 bu) ∧ W.cell? ⟨w.heap.size, 6, none⟩ = some (.slice bl q cb) ∧ W.cell? ⟨w.heap.size, 7, none⟩ = some (.slice pl p cp) ∧ W.cell? ⟨w.heap.size, 8, none⟩ = some (.slice ul u cu) ∧ W.cell? ⟨w.heap.size, 9, none⟩ = some (.int .i64 ai) ∧ W.cell? ⟨w.heap.size, 10, none⟩ = some (.int .i64 fx) ∧ W.cell? ⟨w.heap.size, 11, none⟩ = some (.bool gc) ∧ W.cell? ⟨w.heap.size, 12, none⟩ = some (.bool gf)) (by kernel_rfl) ?_ (fun hHeld => ?_)
  · exact KX.out _ (Below.refl _ _).drew
  refine wpAnyH_take (i := 0) (oi := _) (v := ?_) rfl (by kernel_rfl) (by kernel_rfl) (by kernel_rfl) (fun _ _ _ h => h) (Or.inl ⟨by rfl, ?_⟩) (by assumption) ?_
  rotate_left
  · first | (intro w hSw; (try dsimp only at hSw); go_simp; done) | (intro w hSw; (try dsimp only at hSw); go_simp; with_reducible rfl)
  try simp only [Act.put, List.setIfInBounds_toArray, List.set_cons_zero, List.set_cons_succ, List.getElem_toArray, List.getElem_cons_zero]
  refine wpAnyH_take (i := 1) (oi := _) (v := ?_) rfl (by kernel_rfl) (by kernel_rfl) (by kernel_rfl) (fun _ _ _ h => h) (Or.inl ⟨by rfl, ?_⟩) (by assumption) ?_
  rotate_left
  · first | (intro w hSw; (try dsimp only at hSw); go_simp; done) | (intro w hSw; (try dsimp only at hSw); go_simp; with_reducible rfl)
  try simp only [Act.put, List.setIfInBounds_toArray, List.set_cons_zero, List.set_cons_succ, List.getElem_toArray, List.getElem_cons_succ, List.getElem_cons_zero]
  refine wpAnyH_take (i := 2) (oi := _) (v := ?_) rfl (by kernel_rfl) (by kernel_rfl) (by kernel_rfl) (fun _ _ _ h => h) (Or.inl ⟨by rfl, ?_⟩) (by assumption) ?_
  rotate_left
  · first | (intro w hSw; (try dsimp only at hSw); go_simp; done) | (intro w hSw; (try dsimp only at hSw); go_simp; with_reducible rfl)
  try simp only [Act.put, List.setIfInBounds_toArray, List.set_cons_zero, List.set_cons_succ, List.getElem_toArray, List.getElem_cons_succ, List.getElem_cons_zero]
  refine wpAnyH_take (i := 4) (oi := _) (v := ?_) rfl (by kernel_rfl) (by kernel_rfl) (by kernel_rfl) (fun _ _ _ h => h) (Or.inl ⟨by rfl, ?_⟩) (by assumption) ?_
  rotate_left
  · first | (intro w hSw; (try dsimp only at hSw); go_simp; done) | (intro w hSw; (try dsimp only at hSw); go_simp; with_reducible rfl)
  try simp only [Act.put, List.setIfInBounds_toArray, List.set_cons_zero, List.set_cons_succ, List.getElem_toArray, List.getElem_cons_succ, List.getElem_cons_zero]
  refine wpAnyH_take (i := 5) (oi := _) (v := ?_) rfl (by kernel_rfl) (by kernel_rfl) (by kernel_rfl) (fun _ _ _ h => h) (Or.inl ⟨by rfl, ?_⟩) (by assumption) ?_
  rotate_left
  · first | (intro w hSw; (try dsimp only at hSw); go_simp; done) | (intro w hSw; (try dsimp only at hSw); go_simp; with_reducible rfl)
  try simp only [Act.put, List.setIfInBounds_toArray, List.set_cons_zero, List.set_cons_succ, List.getElem_toArray, List.getElem_cons_succ, List.getElem_cons_zero]
  refine wpAnyH_ready (rs := [3]) (by kernel_rfl) (by simp) ?_
  refine AllReadyH.cons rfl (fun K hK => ?_) AllReadyH.nil
  go_simp
  go_wp2_with (go_at_call 68; refine (PR.out _ B0.out.drew).mono ?_; rintro e w1 ⟨rfl, b1⟩)
  have A1 : Hid (Below wA.heap.size wA w1) := bT ((Below.refl wA.heap.size wA).drew) b1
  clear b1
  refine hK.out _ _ ?_ (fun hHeld => ?_)
  · exact KX.out _ A1.out
  clear hK K
  refine wpAnyH_take (i := 6) (oi := _) (v := ?_) rfl (by kernel_rfl) (by kernel_rfl) (by kernel_rfl) (fun _ _ _ h => h) (Or.inl ⟨by rfl, ?_⟩) (by assumption) ?_
  rotate_left
  · first | (intro w hSw; (try dsimp only at hSw); go_simp; done) | (intro w hSw; (try dsimp only at hSw); go_simp; with_reducible rfl)
  try simp only [Act.put, List.setIfInBounds_toArray, List.set_cons_zero, List.set_cons_succ, List.getElem_toArray, List.getElem_cons_succ, List.getElem_cons_zero]
  refine wpAnyH_take (i := 7) (oi := _) (v := ?_) rfl (by kernel_rfl) (by kernel_rfl) (by kernel_rfl) (fun _ _ _ h => h) (Or.inl ⟨by rfl, ?_⟩) (by assumption) ?_
  rotate_left
  · first | (intro w hSw; (try dsimp only at hSw); go_simp; done) | (intro w hSw; (try dsimp only at hSw); go_simp; with_reducible rfl)
  try simp only [Act.put, List.setIfInBounds_toArray, List.set_cons_zero, List.set_cons_succ, List.getElem_toArray, List.getElem_cons_succ, List.getElem_cons_zero]
  refine wpAnyH_done (by kernel_rfl) ?_ _

  have D1 := Lib.hid (bT B0.out A1.out)
  go_wp2
  go_ret
  exact ⟨by first | rfl | (show Ending.returned (.int .i64 (IntKind.i64.wrap (s + fx))) = _; rw [wrap_sum s fx t0 t1 f0 f1]), D1.out⟩
/-- What a stage needs. -/
noncomputable def neeA (rs : List LSt) (ps : List LPr) (top pr st bu : Int) (bs : List LPr) (ls : List LPl) (us : List Int) (ai fx : Int) (gc gf : Bool) : Int := if B (StgR rs ps top pr st bu bs ls us ai fx gc gf) = true then totL bs + fx else -1

set_option maxRecDepth 100000 in
set_option maxHeartbeats 4000000 in
/-- impl.StageNeeds. -/
theorem isn_any (sl : Option Addr) (cap : Nat) (tl : Option Addr) (kap : Nat) (top pr st bu : Int) (bl : Option Addr) (cb : Nat) (pl : Option Addr) (cp : Nat) (ul : Option Addr) (cu : Nat) (ai fx : Int) (gc gf : Bool) (rs : List LSt) (ps : List LPr) (bs : List LPr) (ls : List LPl) (us : List Int) (w : World) (hn : rs.length ≤ 1048576) (hq : bs.length ≤ 1048576) (hl : ls.length ≤ 1048576) (hu : us.length ≤ 1048576) (hcp : ls.length ≤ cp) (hz : Sts w sl rs) (hp : Prs w tl ps) (hw : ∀ p ∈ ps, WfP p) (hbs : Prs w bl bs) (hls : Pls w pl ls) (hus : Ints w ul us) :
    Calls Tryz.prog 18 #[SgV sl rs.length cap tl ps.length kap top pr st bu bl bs.length cb pl ls.length cp ul us.length cu ai fx gc gf] w fun e w' => e = .returned (.int .i64 (neeA rs ps top pr st bu bs ls us ai fx gc gf)) ∧ Below w.heap.size w w' := by
  have CR : Hid (∀ W, Below w.heap.size w W → Calls Tryz.prog 9 #[SgV sl rs.length cap tl ps.length kap top pr st bu bl bs.length cb pl ls.length cp ul us.length cu ai fx gc gf] W fun e w' => e = .returned (.bool (B (StgR rs ps top pr st bu bs ls us ai fx gc gf))) ∧ Below W.heap.size W w') := fun W hW => isr_any sl cap tl kap top pr st bu bl cb pl cp ul cu ai fx gc gf rs ps bs ls us W hn hq hl hu hcp (hz.below hW) (hp.below hW) hw (hbs.below hW) (hls.below hW) (hus.below hW)
  have NE : Hid (B (StgR rs ps top pr st bu bs ls us ai fx gc gf) = true → ∀ W, Below w.heap.size w W → Calls Tryz.prog 38 #[SgV sl rs.length cap tl ps.length kap top pr st bu bl bs.length cb pl ls.length cp ul us.length cu ai fx gc gf] W fun e w' => e = .returned (.int .i64 (totL bs + fx)) ∧ Below W.heap.size W w') := fun g W hW => nee_any sl cap tl kap top pr st bu bl cb pl cp ul cu ai fx gc gf rs ps bs ls us W hq (B_true g).1.2.2.1.2 (B_true g).2.2.1 (hbs.below hW)
  clear hz hp hw hbs hls hus hcp hn hq hl hu
  have V0 := Lib.hid (show B (StgR rs ps top pr st bu bs ls us ai fx gc gf) = false → neeA rs ps top pr st bu bs ls us ai fx gc gf = -1 from fun g => if_neg (by rw [g]; simp))
  have V1 := Lib.hid (show B (StgR rs ps top pr st bu bs ls us ai fx gc gf) = true → neeA rs ps top pr st bu bs ls us ai fx gc gf = totL bs + fx from fun g => if_pos g)
  generalize neeA rs ps top pr st bu bs ls us ai fx gc gf = a at *
  generalize B (StgR rs ps top pr st bu bs ls us ai fx gc gf) = r at *
  generalize totL bs + fx = s at *
  generalize rs.length = n at *
  generalize ps.length = m at *
  generalize bs.length = q at *
  generalize ls.length = p at *
  generalize us.length = u at *
  have B0 := Lib.hid (bA0 w (.cells (SgC sl n cap tl m kap top pr st bu bl q cb pl p cp ul u cu ai fx gc gf) 44))
  have N0 := Lib.hid (new_at w (.cells (SgC sl n cap tl m kap top pr st bu bl q cb pl p cp ul u cu ai fx gc gf) 44))
  have hS : (w.alloc (.cells (SgC sl n cap tl m kap top pr st bu bl q cb pl p cp ul u cu ai fx gc gf) 44)).heap.size = w.heap.size + 1 := by simp

  go_enter Tryz.func18, Tryz.ntmps18
  go_wp2_with fail
  refine (CR.out _ B0.out).mono ?_
  rintro e w1 ⟨rfl, b1⟩
  have D1 := Lib.hid (bT B0.out b1)
  have M1 := Lib.hid ((b1.block w.heap.size (by rw [hS]; omega)).trans N0.out)
  obtain ⟨c0, c1, c2, c3, c4, c5, c6, c7, c8, c9, c10, c11, c12, cf, cl⟩ := cells13 M1.out
  clear b1 N0 hS B0 CR
  cases r
  · have HV := V0.out (by trivial)
    subst HV
    clear NE V0 V1
    go_wp2
    go_ret
    exact ⟨rfl, D1.out⟩
  · have HV := V1.out (by trivial)
    subst HV
    have NF := Lib.hid (NE.out (by trivial))
    clear NE V0 V1
    go_wp2_with fail
    refine (NF.out _ D1.out).mono ?_
    rintro e w2 ⟨rfl, b2⟩
    have D2 := Lib.hid (bT D1.out b2)
    clear b2
    go_wp2
    go_ret
    exact ⟨rfl, D2.out⟩

set_option maxRecDepth 100000 in
set_option maxHeartbeats 4000000 in
/-- spec.StageNeeds. -/
theorem ssn_any (sl : Option Addr) (cap : Nat) (tl : Option Addr) (kap : Nat) (top pr st bu : Int) (bl : Option Addr) (cb : Nat) (pl : Option Addr) (cp : Nat) (ul : Option Addr) (cu : Nat) (ai fx : Int) (gc gf : Bool) (rs : List LSt) (ps : List LPr) (bs : List LPr) (ls : List LPl) (us : List Int) (w : World) (hn : rs.length ≤ 1048576) (hq : bs.length ≤ 1048576) (hl : ls.length ≤ 1048576) (hu : us.length ≤ 1048576) (hz : Sts w sl rs) (hp : Prs w tl ps) (hbs : Prs w bl bs) (hls : Pls w pl ls) (hus : Ints w ul us) :
    Calls Tryz.prog 17 #[SgV sl rs.length cap tl ps.length kap top pr st bu bl bs.length cb pl ls.length cp ul us.length cu ai fx gc gf] w fun e w' => e = .returned (.int .i64 (neeA rs ps top pr st bu bs ls us ai fx gc gf)) ∧ Below w.heap.size w w' := by
  have CR : Hid (∀ W, Below w.heap.size w W → Calls Tryz.prog 7 #[SgV sl rs.length cap tl ps.length kap top pr st bu bl bs.length cb pl ls.length cp ul us.length cu ai fx gc gf] W fun e w' => e = .returned (.bool (B (StgR rs ps top pr st bu bs ls us ai fx gc gf))) ∧ Below W.heap.size W w') := fun W hW => ssr_any sl cap tl kap top pr st bu bl cb pl cp ul cu ai fx gc gf rs ps bs ls us W hn hq hl hu (hz.below hW) (hp.below hW) (hbs.below hW) (hls.below hW) (hus.below hW)
  have NE : Hid (B (StgR rs ps top pr st bu bs ls us ai fx gc gf) = true → (∀ W, Below w.heap.size w W → Calls Tryz.prog 37 #[CV sl rs.length cap tl ps.length kap top pr st bu bl bs.length cb pl ls.length cp] W fun e w' => e = .returned (.int .i64 (totL bs)) ∧ Below W.heap.size W w') ∧ 0 ≤ totL bs ∧ totL bs ≤ 2000000000000000 ∧ 0 ≤ fx ∧ fx ≤ 1000000000000) := fun g => by
    obtain ⟨t0, t1⟩ := totL_all bs hq (B_true g).1.2.2.1.2
    refine ⟨fun W hW => ?_, t0, t1, (B_true g).2.2.1.1, (B_true g).2.2.1.2⟩
    have := sct_any sl cap tl kap top pr st bu bl cb pl cp rs ps bs ls W hn hq hl (hz.below hW) (hp.below hW) (hbs.below hW) (hls.below hW)
    rwa [show totA rs ps top pr st bu bs ls = totL bs from if_pos (B_yes (B_true g).1)] at this
  clear hz hp hbs hls hus hn hq hl hu
  have V0 := Lib.hid (show B (StgR rs ps top pr st bu bs ls us ai fx gc gf) = false → neeA rs ps top pr st bu bs ls us ai fx gc gf = -1 from fun g => if_neg (by rw [g]; simp))
  have V1 := Lib.hid (show B (StgR rs ps top pr st bu bs ls us ai fx gc gf) = true → neeA rs ps top pr st bu bs ls us ai fx gc gf = totL bs + fx from fun g => if_pos g)
  generalize neeA rs ps top pr st bu bs ls us ai fx gc gf = a at *
  generalize B (StgR rs ps top pr st bu bs ls us ai fx gc gf) = r at *
  generalize totL bs = s at *
  generalize rs.length = n at *
  generalize ps.length = m at *
  generalize bs.length = q at *
  generalize ls.length = p at *
  generalize us.length = u at *
  have B0 := Lib.hid (bA0 w (.cells (SgC sl n cap tl m kap top pr st bu bl q cb pl p cp ul u cu ai fx gc gf) 44))
  have N0 := Lib.hid (new_at w (.cells (SgC sl n cap tl m kap top pr st bu bl q cb pl p cp ul u cu ai fx gc gf) 44))
  have hS : (w.alloc (.cells (SgC sl n cap tl m kap top pr st bu bl q cb pl p cp ul u cu ai fx gc gf) 44)).heap.size = w.heap.size + 1 := by simp

  go_enter Tryz.func17, Tryz.ntmps17
  go_wp2_with fail
  refine (CR.out _ B0.out).mono ?_
  rintro e w1 ⟨rfl, b1⟩
  have D1 := Lib.hid (bT B0.out b1)
  have M1 := Lib.hid ((b1.block w.heap.size (by rw [hS]; omega)).trans N0.out)
  obtain ⟨c0, c1, c2, c3, c4, c5, c6, c7, c8, c9, c10, c11, c12, cf, cl⟩ := cells13 M1.out
  have L1 := Lib.hid cl
  clear b1 N0 hS B0 CR
  cases r
  · have HV := V0.out (by trivial)
    subst HV
    clear NE V0 V1
    go_wp2
    go_ret
    exact ⟨rfl, D1.out⟩
  · have HV := V1.out (by trivial)
    subst HV
    obtain ⟨nf, t0, t1, f0, f1⟩ := NE.out (by trivial)
    have NF := Lib.hid nf
    clear NE nf V0 V1
    have KX : Hid (∀ W, Below w1.heap.size w1 W → w.heap.size < W.heap.size ∧ W.cell? ⟨w.heap.size, 0, none⟩ = some (.slice sl n cap) ∧ W.cell? ⟨w.heap.size, 1, none⟩ = some (.slice tl m kap) ∧ W.cell? ⟨w.heap.size, 2, none⟩ = some (.int .i64 top) ∧ W.cell? ⟨w.heap.size, 3, none⟩ = some (.int .i64 pr) ∧ W.cell? ⟨w.heap.size, 4, none⟩ = some (.int .i64 st) ∧ W.cell? ⟨w.heap.size, 5, none⟩ = some (.int .i64 bu) ∧ W.cell? ⟨w.heap.size, 6, none⟩ = some (.slice bl q cb) ∧ W.cell? ⟨w.heap.size, 7, none⟩ = some (.slice pl p cp) ∧ W.cell? ⟨w.heap.size, 8, none⟩ = some (.slice ul u cu) ∧ W.cell? ⟨w.heap.size, 9, none⟩ = some (.int .i64 ai) ∧ W.cell? ⟨w.heap.size, 10, none⟩ = some (.int .i64 fx) ∧ W.cell? ⟨w.heap.size, 11, none⟩ = some (.bool gc) ∧ W.cell? ⟨w.heap.size, 12, none⟩ = some (.bool gf)) := fun W hW => by
      obtain ⟨c0, c1, c2, c3, c4, c5, c6, c7, c8, c9, c10, c11, c12, cf, cl⟩ := cells13 ((hW.block w.heap.size (by exact L1.out)).trans M1.out)
      exact ⟨cl, c0, c1, c2, c3, c4, c5, c6, c7, c8, c9, c10, c11, c12⟩

    go_wp2_with fail
    refine wp_region_held_drew (S := fun W => w.heap.size < W.heap.size ∧ W.cell? ⟨w.heap.size, 0, none⟩ = some (.slice sl n cap) ∧ W.cell? ⟨w.heap.size, 1, none⟩ = some (.slice tl m kap) ∧ W.cell? ⟨w.heap.size, 2, none⟩ = some (.int .i64 top) ∧ W.cell? ⟨w.heap.size, 3, none⟩ = some (.int .i64 pr) ∧ W.cell? ⟨w.heap.size, 4, none⟩ = some (.int .i64 st) ∧ W.cell? ⟨w.heap.size, 5, none⟩ = some (.int .i64 bu) ∧ W.cell? ⟨w.heap.size, 6, none⟩ = some (.slice bl q cb) ∧ W.cell? ⟨w.heap.size, 7, none⟩ = some (.slice pl p cp) ∧ W.cell? ⟨w.heap.size, 8, none⟩ = some (.slice ul u cu) ∧ W.cell? ⟨w.heap.size, 9, none⟩ = some (.int .i64 ai) ∧ W.cell? ⟨w.heap.size, 10, none⟩ = some (.int .i64 fx) ∧ W.cell? ⟨w.heap.size, 11, none⟩ = some (.bool gc) ∧ W.cell? ⟨w.heap.size, 12, none⟩ = some (.bool gf)) (by kernel_rfl) ?_ (fun hHeld => ?_)
    · exact KX.out _ (Below.refl _ _).drew
    refine wpAnyH_take (i := 0) (oi := _) (v := ?_) rfl (by kernel_rfl) (by kernel_rfl) (by kernel_rfl) (fun _ _ _ h => h) (Or.inl ⟨by rfl, ?_⟩) (by assumption) ?_
    rotate_left
    · first | (intro w hSw; (try dsimp only at hSw); go_simp; done) | (intro w hSw; (try dsimp only at hSw); go_simp; with_reducible rfl)
    try simp only [Act.put, List.setIfInBounds_toArray, List.set_cons_zero, List.set_cons_succ, List.getElem_toArray, List.getElem_cons_zero]
    refine wpAnyH_take (i := 1) (oi := _) (v := ?_) rfl (by kernel_rfl) (by kernel_rfl) (by kernel_rfl) (fun _ _ _ h => h) (Or.inl ⟨by rfl, ?_⟩) (by assumption) ?_
    rotate_left
    · first | (intro w hSw; (try dsimp only at hSw); go_simp; done) | (intro w hSw; (try dsimp only at hSw); go_simp; with_reducible rfl)
    try simp only [Act.put, List.setIfInBounds_toArray, List.set_cons_zero, List.set_cons_succ, List.getElem_toArray, List.getElem_cons_succ, List.getElem_cons_zero]
    refine wpAnyH_take (i := 3) (oi := _) (v := ?_) rfl (by kernel_rfl) (by kernel_rfl) (by kernel_rfl) (fun _ _ _ h => h) (Or.inl ⟨by rfl, ?_⟩) (by assumption) ?_
    rotate_left
    · first | (intro w hSw; (try dsimp only at hSw); go_simp; done) | (intro w hSw; (try dsimp only at hSw); go_simp; with_reducible rfl)
    try simp only [Act.put, List.setIfInBounds_toArray, List.set_cons_zero, List.set_cons_succ, List.getElem_toArray, List.getElem_cons_succ, List.getElem_cons_zero]
    refine wpAnyH_take (i := 4) (oi := _) (v := ?_) rfl (by kernel_rfl) (by kernel_rfl) (by kernel_rfl) (fun _ _ _ h => h) (Or.inl ⟨by rfl, ?_⟩) (by assumption) ?_
    rotate_left
    · first | (intro w hSw; (try dsimp only at hSw); go_simp; done) | (intro w hSw; (try dsimp only at hSw); go_simp; with_reducible rfl)
    try simp only [Act.put, List.setIfInBounds_toArray, List.set_cons_zero, List.set_cons_succ, List.getElem_toArray, List.getElem_cons_succ, List.getElem_cons_zero]
    refine wpAnyH_ready (rs := [2]) (by kernel_rfl) (by simp) ?_
    refine AllReadyH.cons rfl (fun K hK => ?_) AllReadyH.nil
    go_simp
    go_wp2_with (go_at_call 37; refine (NF.out _ D1.out.drew).mono ?_; rintro e w2 ⟨rfl, b2⟩)
    have A2 : Hid (Below w1.heap.size w1 w2) := bT ((Below.refl w1.heap.size w1).drew) b2
    clear b2
    refine hK.out _ _ ?_ (fun hHeld => ?_)
    · exact KX.out _ A2.out
    clear hK K
    refine wpAnyH_take (i := 5) (oi := _) (v := ?_) rfl (by kernel_rfl) (by kernel_rfl) (by kernel_rfl) (fun _ _ _ h => h) (Or.inl ⟨by rfl, ?_⟩) (by assumption) ?_
    rotate_left
    · first | (intro w hSw; (try dsimp only at hSw); go_simp; done) | (intro w hSw; (try dsimp only at hSw); go_simp; with_reducible rfl)
    try simp only [Act.put, List.setIfInBounds_toArray, List.set_cons_zero, List.set_cons_succ, List.getElem_toArray, List.getElem_cons_succ, List.getElem_cons_zero]
    refine wpAnyH_take (i := 6) (oi := _) (v := ?_) rfl (by kernel_rfl) (by kernel_rfl) (by kernel_rfl) (fun _ _ _ h => h) (Or.inl ⟨by rfl, ?_⟩) (by assumption) ?_
    rotate_left
    · first | (intro w hSw; (try dsimp only at hSw); go_simp; done) | (intro w hSw; (try dsimp only at hSw); go_simp; with_reducible rfl)
    try simp only [Act.put, List.setIfInBounds_toArray, List.set_cons_zero, List.set_cons_succ, List.getElem_toArray, List.getElem_cons_succ, List.getElem_cons_zero]
    refine wpAnyH_done (by kernel_rfl) ?_ _

    have D2 := Lib.hid (bT D1.out A2.out)
    go_wp2
    go_ret
    exact ⟨by first | rfl | (show Ending.returned (.int .i64 (IntKind.i64.wrap (s + fx))) = _; rw [wrap_sum s fx t0 t1 f0 f1]), D2.out⟩
theorem neeA_bare {rs rs' : List LSt} (ps : List LPr) (top pr st bu : Int) (bs : List LPr) (ls : List LPl) (us : List Int) (ai fx : Int) (gc gf : Bool) (h : bareS rs = bareS rs') : neeA rs ps top pr st bu bs ls us ai fx gc gf = neeA rs' ps top pr st bu bs ls us ai fx gc gf := by
  unfold neeA
  rw [stg_bare ps top pr st bu bs ls us ai fx gc gf h]
end Go.Proofs.YtmmikbkgkpnkbaaGreat
namespace Go.Proofs.YtmmikbkgkpnkbaaGreat
open Go.RowKit
set_option linter.unusedVariables false

theorem infoPay : (Tryz.prog.info? 69).map (fun i => (i.zero, i.size, i.bytes)) = some (some (.agg #[.int .i64 0, .int .i64 0]), 2, 16) := by kernel_rfl
theorem own_ePay (w : World) : (w.alloc (.cells #[] 69)).ownsRow w.heap.size 69 2 (.slice (some ⟨w.heap.size, 0, none⟩) 0 0) 0 (enCells []) :=
  ⟨rfl, .inr ⟨w.heap.size, 0, #[], rfl, Nat.le_refl _, by show (w.heap.push _)[w.heap.size]? = _; simp, Nat.le_refl _, Nat.zero_le _, rfl, rfl⟩⟩
/-- The first i cells of a row of places hold the marks. -/
def MarkQ (w : World) (b s : Nat) (k : Int) (i : Nat) : Prop := ∃ vs : Array Value, w.heap[b]? = some (.cells vs 69) ∧ vs.size = s ∧ ∀ j, j < i → vs[j]? = some (.int .i64 (k + (j : Int)))
theorem MarkQ.step {w : World} {b s : Nat} {k : Int} {i : Nat} (h : MarkQ w b s k i) (hi : i < s) : MarkQ (w.setCell ⟨b, i, none⟩ (.int .i64 (k + (i : Int)))) b s k (i + 1) := by
  obtain ⟨vs, h1, h2, h3⟩ := h
  refine ⟨_, heap_setCell_same w b i vs 69 _ h1, by simp [h2], fun j hj => ?_⟩
  rw [Array.getElem?_setIfInBounds]
  by_cases e : i = j
  · subst e; simp [h2, hi]
  · rw [if_neg e]; exact h3 j (by omega)
theorem MarkQ.cell {w : World} {b s : Nat} {k : Int} {i : Nat} (h : MarkQ w b s k i) (j : Nat) (hj : j < s) : (∃ v, w.cell? ⟨b, j, none⟩ = some v) ∧ w.frozen? ⟨b, j, none⟩ = false := by
  obtain ⟨vs, h1, h2, h3⟩ := h
  exact ⟨⟨vs[j]'(by omega), by simp [World.cell?, h1, show j < vs.size by omega]⟩, by simp [World.frozen?, h1]⟩
theorem MarkQ.at {w : World} {b s : Nat} {k : Int} {i : Nat} (h : MarkQ w b s k i) (j : Nat) (hj : j < i) : w.cell? ⟨b, j, none⟩ = some (.int .i64 (k + (j : Int))) := by
  obtain ⟨vs, h1, h2, h3⟩ := h
  have := h3 j hj
  simp [World.cell?, h1, this]
theorem MarkQ.lt {w : World} {b s : Nat} {k : Int} {i : Nat} (h : MarkQ w b s k i) : b < w.heap.size := by
  obtain ⟨vs, h1, _⟩ := h
  exact (Array.getElem?_eq_some_iff.1 h1).1

set_option maxHeartbeats 400000 in
theorem mark2_nil (sl : Option Addr) (cap : Nat) (k : Int) (w : World) :
    Calls Tryz.prog 15 #[.slice sl 0 cap, .int .i64 k] w fun e w' => e = .returned (.int .i64 k) ∧ w' = w := by
  go_enter Tryz.func15, Tryz.ntmps15
  go_wp2
  refine wp_loop_rounds 1 ?_
  rw [rounds_succ]
  go_wp2
  go_ret
  exact ⟨rfl, rfl⟩
set_option maxHeartbeats 400000 in
theorem held2_nil (sl : Option Addr) (cap : Nat) (k : Int) (w : World) :
    Calls Tryz.prog 16 #[.slice sl 0 cap, .int .i64 k] w fun e w' => e = .returned (.int .i64 k) ∧ w' = w := by
  go_enter Tryz.func16, Tryz.ntmps16
  go_wp2
  refine wp_loop_rounds 1 ?_
  rw [rounds_succ]
  go_wp2
  go_ret
  exact ⟨rfl, rfl⟩

set_option maxRecDepth 100000 in
set_option maxHeartbeats 1000000 in
theorem mark2_some (b m s cap : Nat) (k : Int) (hn : m ≤ 1048576) (hs : m * 2 ≤ s) (k0 : 0 ≤ k) (k1 : k ≤ 1000000000) (w : World) (h : MarkQ w b s k 0) :
    Calls Tryz.prog 15 #[.slice (some ⟨b, 0, none⟩) m cap, .int .i64 k] w fun e w' => e = .returned (.int .i64 (k + 2 * (m : Int))) ∧ MarkQ w' b s k (m * 2) ∧ Only b w w' := by
  have H := Lib.hid h
  clear h
  go_enter Tryz.func15, Tryz.ntmps15
  go_wp2
  go_loopw [1, 5] (fun v i wr => ∃ j : Nat, i = .int .i64 j ∧ v = .int .i64 (k + 2 * (j : Int)) ∧ j ≤ m ∧ Hid (MarkQ wr b s k (j * 2)) ∧ Hid (Only b w wr)) (fun _ i _ => m - (intOf i).toNat)
  case atStart => exact ⟨0, rfl, by simp, Nat.zero_le _, H, Only.refl _ _⟩
  case round =>
    obtain ⟨j, rfl, rfl, hj, H1, H2⟩ := hrel
    have hj0 : (0 : Int) ≤ (j : Int) := by omega
    by_cases h1 : j < m
    · have h1' : (j : Int) < (m : Int) := by omega
      obtain ⟨⟨v0, c0⟩, f0⟩ := H1.out.cell (j * 2) (by omega)
      obtain ⟨⟨v1, c1⟩, f1⟩ := H1.out.cell (j * 2 + 1) (by omega)
      have S2 : Hid (MarkQ ((wr.setCell ⟨b, j * 2, none⟩ (.int .i64 (k + 2 * (j : Int)))).setCell ⟨b, j * 2 + 1, none⟩ (.int .i64 (k + 2 * (j : Int) + 1))) b s k ((j + 1) * 2)) := by
        have := (H1.out.step (by omega)).step (by omega)
        rw [show ((j * 2 : Nat) : Int) = 2 * (j : Int) by omega, show (k + ((j * 2 + 1 : Nat) : Int)) = k + 2 * (j : Int) + 1 by omega, show j * 2 + 1 + 1 = (j + 1) * 2 by omega] at this
        exact this
      have B2 := Lib.hid ((H2.out.setCell (j * 2) (.int .i64 (k + 2 * (j : Int)))).setCell (j * 2 + 1) (.int .i64 (k + 2 * (j : Int) + 1)))
      clear H1 H2
      go_wp2
      go_roundw
      case rel => exact ⟨j + 1, by go_num, by congr 1; push_cast; omega, by omega, S2, B2⟩
      case measure => simp [intOf]; omega
    · have h1' : ¬ (j : Int) < (m : Int) := by omega
      have P := Lib.hid (show (k + 2 * (j : Int)) = k + 2 * (m : Int) ∧ j * 2 = m * 2 by omega)
      have Q : Hid (MarkQ wr b s k (m * 2)) := by have := H1.out; rw [P.out.2] at this; exact this
      go_wp2
      go_ret
      exact ⟨by rw [← P.out.1]; rfl, Q.out, H2.out⟩

set_option maxRecDepth 100000 in
set_option maxHeartbeats 1000000 in
theorem held2_some (b m s cap : Nat) (k : Int) (hn : m ≤ 1048576) (k0 : 0 ≤ k) (k1 : k ≤ 1000000000) (w : World) (h : MarkQ w b s k (m * 2)) :
    Calls Tryz.prog 16 #[.slice (some ⟨b, 0, none⟩) m cap, .int .i64 k] w fun e w' => e = .returned (.int .i64 (k + 2 * (m : Int))) ∧ w' = w := by
  have H := Lib.hid h
  clear h
  go_enter Tryz.func16, Tryz.ntmps16
  go_wp2
  go_loopw [1, 5] (fun v i wr => ∃ j : Nat, i = .int .i64 j ∧ v = .int .i64 (k + 2 * (j : Int)) ∧ j ≤ m ∧ wr = w) (fun _ i _ => m - (intOf i).toNat)
  case atStart => exact ⟨0, rfl, by simp, Nat.zero_le _, rfl⟩
  case round =>
    obtain ⟨j, rfl, rfl, hj, rfl⟩ := hrel
    have hj0 : (0 : Int) ≤ (j : Int) := by omega
    by_cases h1 : j < m
    · have h1' : (j : Int) < (m : Int) := by omega
      have c0 := H.out.at (j * 2) (by omega)
      have c1 := H.out.at (j * 2 + 1) (by omega)
      have bl := H.out.lt
      rw [show (k + ((j * 2 : Nat) : Int)) = k + 2 * (j : Int) by omega] at c0
      rw [show (k + ((j * 2 + 1 : Nat) : Int)) = k + 2 * (j : Int) + 1 by omega] at c1
      have e0 : (k + 2 * (j : Int) != k + 2 * (j : Int)) = false := by simp
      have e1 : (k + 2 * (j : Int) + 1 != k + 2 * (j : Int) + 1) = false := by simp
      go_wp2
      go_roundw
      case rel => exact ⟨j + 1, by go_num, by congr 1; push_cast; omega, by omega, trivial⟩
      case measure => simp [intOf]; omega
    · have h1' : ¬ (j : Int) < (m : Int) := by omega
      have P := Lib.hid (show (k + 2 * (j : Int)) = k + 2 * (m : Int) by omega)
      go_wp2
      go_ret
      exact ⟨by rw [← P.out]; rfl, rfl⟩

theorem mark2_row (B : Nat) (v : Value) (n : Nat) (xs : List Value) (k : Int) (hn : n ≤ 1048576) (k0 : 0 ≤ k) (k1 : k ≤ 1000000000) (w : World) (h : w.ownsRow B 69 2 v n xs) :
    Calls Tryz.prog 15 #[v, .int .i64 k] w fun e w' => e = .returned (.int .i64 (k + 2 * (n : Int))) ∧ w'.ownsRow B 69 2 v n (valsZ (marks k (n * 2))) ∧ w.grownBy w' v.ownBlock := by
  have hl : (valsZ (marks k (n * 2))).length = n * 2 := by simp [valsZ, marks_len]
  rcases h.2 with ⟨rfl, h0⟩ | ⟨g, cap, cur, rfl, hb, hg, hcap, hmx, hcur, hx⟩
  · subst h0
    refine (mark2_nil _ _ _ _).mono ?_
    rintro e w' ⟨rfl, rfl⟩
    exact ⟨by simp, ⟨by simp [valsZ, marks], .inl ⟨rfl, rfl⟩⟩, ⟨rfl, rfl, rfl, Nat.le_refl _, fun _ _ _ => rfl⟩⟩
  · refine (mark2_some g n cur.size cap k hn (by rw [hcur]; omega) k0 k1 w ⟨cur, hg, rfl, fun j hj => absurd hj (Nat.not_lt_zero _)⟩).mono ?_
    rintro e w' ⟨rfl, ⟨vs, h1, h2, h3⟩, ho⟩
    refine ⟨rfl, ⟨hl, .inr ⟨g, cap, vs, rfl, hb, h1, hcap, hmx, by rw [h2, hcur], ?_⟩⟩, ho.grownBy⟩
    apply List.ext_getElem?
    intro i
    by_cases hi : i < n * 2
    · rw [List.getElem?_take_of_lt (by omega)]
      simp only [valsZ, List.getElem?_map, marks_get k _ i hi]
      have := h3 i hi
      simpa using this
    · rw [List.getElem?_eq_none (by simp; omega), List.getElem?_eq_none (by simp [valsZ, marks_len]; omega)]
theorem held2_row (B : Nat) (v : Value) (n : Nat) (k : Int) (hn : n ≤ 1048576) (k0 : 0 ≤ k) (k1 : k ≤ 1000000000) (w : World) (h : w.ownsRow B 69 2 v n (valsZ (marks k (n * 2)))) :
    Calls Tryz.prog 16 #[v, .int .i64 k] w fun e w' => e = .returned (.int .i64 (k + 2 * (n : Int))) ∧ w' = w := by
  rcases h.2 with ⟨rfl, h0⟩ | ⟨g, cap, cur, rfl, hb, hg, hcap, hmx, hcur, hx⟩
  · subst h0
    refine (held2_nil _ _ _ _).mono ?_
    rintro e w' ⟨rfl, rfl⟩
    exact ⟨by simp, rfl⟩
  · refine held2_some g n cur.size cap k hn k0 k1 w ⟨cur, hg, rfl, fun j hj => ?_⟩
    have := congrArg (fun l => l[j]?) hx
    simp only [valsZ, List.getElem?_map, marks_get k _ j hj] at this
    rw [List.getElem?_take_of_lt (by omega)] at this
    simpa using this

theorem own_pays {w : World} {B : Nat} {v : Value} {pl : List LPl} (h : w.ownsRow B 69 2 v pl.length (enCells pl)) : ∃ sl cap, v = .slice sl pl.length cap ∧ (pl = [] ∨ ∃ c, sl = some ⟨c, 0, none⟩ ∧ PlAt w c 0 pl ∧ B ≤ c) := by
  rcases h.2 with ⟨hv, h0⟩ | ⟨g, cap, cur, hv, hb, hg, _⟩
  · exact ⟨none, 0, by rw [hv, h0], .inl (List.eq_nil_of_length_eq_zero h0)⟩
  · refine ⟨_, cap, hv, .inr ⟨g, rfl, ⟨(Array.getElem?_eq_some_iff.1 hg).1, fun i hi => ?_⟩, hb⟩⟩
    have e := enCells_at pl i hi
    subst hv
    rw [Nat.zero_add]
    exact ⟨by rw [h.cellAt (i * 2) (by omega), e.1], by rw [h.cellAt (i * 2 + 1) (by omega), e.2]⟩


theorem eqPy_any (a b : Int) (w : World) : Calls Tryz.prog 34 #[.agg #[.int .i64 a, .int .i64 b], .agg #[.int .i64 a, .int .i64 b]] w fun e w' => e = .returned (.bool true) ∧ Below w.heap.size w w' := by
  go_enter Tryz.func34, Tryz.ntmps34
  go_wp2
  go_ret
  exact ⟨rfl, bA (bA0 _ _) _⟩

set_option maxRecDepth 100000 in
set_option maxHeartbeats 2000000 in
theorem eqPyS_any (sl sl' : Option Addr) (cap cap' : Nat) (ps : List LPl) (w : World) (hn : ps.length ≤ 1048576) (h : Pls w sl ps) (h' : Pls w sl' ps) :
    Calls Tryz.prog 13 #[.slice sl ps.length cap, .slice sl' ps.length cap'] w fun e w' => e = .returned (.bool true) ∧ Below w.heap.size w w' := by
  have H := Lib.hid h
  have H' := Lib.hid h'
  clear h h'
  generalize hN : ps.length = n at *
  have HN := Lib.hid hN
  clear hN
  go_enter Tryz.func13, Tryz.ntmps13
  go_wp2
  go_loopw [5] (fun i wr => ∃ j : Nat, i = .int .i64 j ∧ j ≤ n ∧ Hid (Below w.heap.size w wr)) (fun i _ => n - (intOf i).toNat)
  case atStart => exact ⟨0, rfl, Nat.zero_le _, Below.refl _ _⟩
  case round =>
    obtain ⟨j, rfl, hj, H2⟩ := hrel
    have hj0 : (0 : Int) ≤ (j : Int) := by omega
    by_cases h1 : j < n
    · have h1' : (j : Int) < (n : Int) := by omega
      have hlt : j < ps.length := by rw [HN.out]; exact h1
      obtain ⟨g, o, rfl, Z0⟩ : ∃ c o, sl = some ⟨c, o, none⟩ ∧ PlAt w c o ps := by
        rcases H.out with e | h
        · rw [e] at hlt; simp at hlt
        · exact h
      obtain ⟨g', o', rfl, Z0'⟩ : ∃ c o, sl' = some ⟨c, o, none⟩ ∧ PlAt w c o ps := by
        rcases H'.out with e | h
        · rw [e] at hlt; simp at hlt
        · exact h
      obtain ⟨c0, c1⟩ := (Z0.below H2.out).cell j hlt
      obtain ⟨d0, d1⟩ := (Z0'.below H2.out).cell j hlt
      have hgl := (Z0.below H2.out).lt
      have hgl' := (Z0'.below H2.out).lt
      obtain ⟨x, y, hp⟩ : ∃ a b, ps[j] = (a, b) := ⟨_, _, rfl⟩
      rw [hp] at c0 c1 d0 d1
      dsimp only at c0 c1 d0 d1
      have E : Hid (∀ W, Below wr.heap.size wr W → Calls Tryz.prog 34 #[.agg #[.int .i64 x, .int .i64 y], .agg #[.int .i64 x, .int .i64 y]] W fun e w' => e = .returned (.bool true) ∧ Below W.heap.size W w') := fun W _ => eqPy_any x y W
      have KB : Hid (∀ W, Below wr.heap.size wr W → g < W.heap.size ∧ g' < W.heap.size ∧ W.cell? ⟨g, o + j * 2, none⟩ = some (.int .i64 x) ∧ W.cell? ⟨g, o + j * 2 + 1, none⟩ = some (.int .i64 y) ∧ W.cell? ⟨g', o' + j * 2, none⟩ = some (.int .i64 x) ∧ W.cell? ⟨g', o' + j * 2 + 1, none⟩ = some (.int .i64 y)) := fun W hW => ⟨Nat.lt_of_lt_of_le hgl hW.size, Nat.lt_of_lt_of_le hgl' hW.size, (hW.cell hgl).trans c0, (hW.cell hgl).trans c1, (hW.cell hgl').trans d0, (hW.cell hgl').trans d1⟩
      clear hp hlt Z0 Z0'
      go_wp2_with fail
      refine wp_region_held_drew (S := fun W => g < W.heap.size ∧ g' < W.heap.size ∧ W.cell? ⟨g, o + j * 2, none⟩ = some (.int .i64 x) ∧ W.cell? ⟨g, o + j * 2 + 1, none⟩ = some (.int .i64 y) ∧ W.cell? ⟨g', o' + j * 2, none⟩ = some (.int .i64 x) ∧ W.cell? ⟨g', o' + j * 2 + 1, none⟩ = some (.int .i64 y)) (by kernel_rfl) ?_ (fun hHeld => ?_)
      · exact KB.out _ (Below.refl _ _).drew
      refine wpAnyH_take (i := 0) (oi := _) (v := ?_) rfl (by kernel_rfl) (by kernel_rfl) (by kernel_rfl) (fun _ _ _ h => h) (Or.inl ⟨by rfl, ?_⟩) (by assumption) ?_
      rotate_left
      · first | (intro w hSw; (try dsimp only at hSw); go_simp; done) | (intro w hSw; (try dsimp only at hSw); go_simp; with_reducible rfl)
      try simp only [Act.put, List.setIfInBounds_toArray, List.set_cons_zero, List.set_cons_succ, List.getElem_toArray, List.getElem_cons_zero]
      refine wpAnyH_take (i := 1) (oi := _) (v := ?_) rfl (by kernel_rfl) (by kernel_rfl) (by kernel_rfl) (fun _ _ _ h => h) (Or.inl ⟨by rfl, ?_⟩) (by assumption) ?_
      rotate_left
      · first | (intro w hSw; (try dsimp only at hSw); go_simp; done) | (intro w hSw; (try dsimp only at hSw); go_simp; with_reducible rfl)
      try simp only [Act.put, List.setIfInBounds_toArray, List.set_cons_zero, List.set_cons_succ, List.getElem_toArray, List.getElem_cons_succ, List.getElem_cons_zero]
      refine wpAnyH_take (i := 2) (oi := _) (v := ?_) rfl (by kernel_rfl) (by kernel_rfl) (by kernel_rfl) (fun _ _ _ h => h) (Or.inl ⟨by rfl, ?_⟩) (by assumption) ?_
      rotate_left
      · first | (intro w hSw; (try dsimp only at hSw); go_simp; done) | (intro w hSw; (try dsimp only at hSw); go_simp; with_reducible rfl)
      try simp only [Act.put, List.setIfInBounds_toArray, List.set_cons_zero, List.set_cons_succ, List.getElem_toArray, List.getElem_cons_succ, List.getElem_cons_zero]
      refine wpAnyH_take (i := 3) (oi := _) (v := ?_) rfl (by kernel_rfl) (by kernel_rfl) (by kernel_rfl) (fun _ _ _ h => h) (Or.inl ⟨by rfl, ?_⟩) (by assumption) ?_
      rotate_left
      · first | (intro w hSw; (try dsimp only at hSw); go_simp; done) | (intro w hSw; (try dsimp only at hSw); go_simp; with_reducible rfl)
      try simp only [Act.put, List.setIfInBounds_toArray, List.set_cons_zero, List.set_cons_succ, List.getElem_toArray, List.getElem_cons_succ, List.getElem_cons_zero]
      refine wpAnyH_take (i := 4) (oi := _) (v := ?_) rfl (by kernel_rfl) (by kernel_rfl) (by kernel_rfl) (fun _ _ _ h => h) (Or.inl ⟨by rfl, ?_⟩) (by assumption) ?_
      rotate_left
      · first | (intro w hSw; (try dsimp only at hSw); go_simp; done) | (intro w hSw; (try dsimp only at hSw); go_simp; with_reducible rfl)
      try simp only [Act.put, List.setIfInBounds_toArray, List.set_cons_zero, List.set_cons_succ, List.getElem_toArray, List.getElem_cons_succ, List.getElem_cons_zero]
      refine wpAnyH_take (i := 5) (oi := _) (v := ?_) rfl (by kernel_rfl) (by kernel_rfl) (by kernel_rfl) (fun _ _ _ h => h) (Or.inl ⟨by rfl, ?_⟩) (by assumption) ?_
      rotate_left
      · first | (intro w hSw; (try dsimp only at hSw); go_simp; done) | (intro w hSw; (try dsimp only at hSw); go_simp; with_reducible rfl)
      try simp only [Act.put, List.setIfInBounds_toArray, List.set_cons_zero, List.set_cons_succ, List.getElem_toArray, List.getElem_cons_succ, List.getElem_cons_zero]
      refine wpAnyH_take (i := 6) (oi := _) (v := ?_) rfl (by kernel_rfl) (by kernel_rfl) (by kernel_rfl) (fun _ _ _ h => h) (Or.inl ⟨by rfl, ?_⟩) (by assumption) ?_
      rotate_left
      · first | (intro w hSw; (try dsimp only at hSw); go_simp; done) | (intro w hSw; (try dsimp only at hSw); go_simp; with_reducible rfl)
      try simp only [Act.put, List.setIfInBounds_toArray, List.set_cons_zero, List.set_cons_succ, List.getElem_toArray, List.getElem_cons_succ, List.getElem_cons_zero]
      refine wpAnyH_take (i := 7) (oi := _) (v := ?_) rfl (by kernel_rfl) (by kernel_rfl) (by kernel_rfl) (fun _ _ _ h => h) (Or.inl ⟨by rfl, ?_⟩) (by assumption) ?_
      rotate_left
      · first | (intro w hSw; (try dsimp only at hSw); go_simp; done) | (intro w hSw; (try dsimp only at hSw); go_simp; with_reducible rfl)
      try simp only [Act.put, List.setIfInBounds_toArray, List.set_cons_zero, List.set_cons_succ, List.getElem_toArray, List.getElem_cons_succ, List.getElem_cons_zero]
      refine wpAnyH_ready (rs := [8]) (by kernel_rfl) (by simp) ?_
      refine AllReadyH.cons rfl (fun K hK => ?_) AllReadyH.nil
      go_simp
      go_wp2_with (go_at_call 34; refine (E.out _ (by first | exact Below.refl _ _ | exact (Below.refl _ _).drew | exact Go.below_drewN (Below.refl _ _) _)).mono ?_; rintro e w5 ⟨rfl, b5⟩)
      have D5 : Hid (Below wr.heap.size wr w5) := bT ((Below.refl wr.heap.size wr).drew) b5
      clear b5
      refine hK.out _ _ ?_ (fun hHeld => ?_)
      · exact KB.out _ D5.out
      clear hK K
      refine wpAnyH_take (i := 9) (oi := _) (v := ?_) rfl (by kernel_rfl) (by kernel_rfl) (by kernel_rfl) (fun _ _ _ h => h) (Or.inl ⟨by rfl, ?_⟩) (by assumption) ?_
      rotate_left
      · first | (intro w hSw; (try dsimp only at hSw); go_simp; done) | (intro w hSw; (try dsimp only at hSw); go_simp; with_reducible rfl)
      try simp only [Act.put, List.setIfInBounds_toArray, List.set_cons_zero, List.set_cons_succ, List.getElem_toArray, List.getElem_cons_succ, List.getElem_cons_zero]
      refine wpAnyH_done (by kernel_rfl) ?_ _
      have BQ5 := Lib.hid (bT H2.out D5.out)
      clear D5 KB E c0 c1 d0 d1
      go_wp2_with fail
      go_roundw
      case rel => exact ⟨j + 1, by go_num, by omega, BQ5⟩
      case measure => simp [intOf]; omega
    · have h1' : ¬ (j : Int) < (n : Int) := by omega
      go_wp2
      go_ret
      exact ⟨rfl, H2.out⟩

end Go.Proofs.YtmmikbkgkpnkbaaGreat
namespace Go.Proofs.YtmmikbkgkpnkbaaGreat
open Go.RowKit
set_option linter.unusedVariables false

set_option maxRecDepth 100000 in
set_option maxHeartbeats 2000000 in
/-- slices.IndexFunc, of a State. -/
theorem ixf_any (bl : Option Addr) (cb : Nat) (bs : List LPr) (kk : Int) (w : World) (hq : bs.length ≤ 1048576) (hbs : Prs w bl bs) :
    Calls Tryz.prog 107 #[.slice bl bs.length cb, .func (.func 33) #[.int .i64 kk] #[]] w fun e w' => ∃ z : Int, e = .returned (.int .i64 z) ∧ Below w.heap.size w w' := by
  have HB := Lib.hid hbs
  clear hbs
  generalize hQ : bs.length = q at *
  have HQ := Lib.hid hQ
  clear hQ
  go_enter Tryz.func107, Tryz.ntmps107
  go_wp2
  go_loopw [8] (fun i wr => ∃ k : Nat, i = .int .i64 k ∧ k ≤ q ∧ Hid (Below w.heap.size w wr)) (fun i _ => q - (intOf i).toNat)
  case atStart => exact ⟨0, rfl, Nat.zero_le _, Below.refl _ _⟩
  case round =>
    obtain ⟨k, rfl, hk, H2⟩ := hrel
    have hk0 : (0 : Int) ≤ (k : Int) := by omega
    by_cases h1 : k < q
    · have h1' : (k : Int) < (q : Int) := by omega
      have hlt : k < bs.length := by rw [HQ.out]; exact h1
      obtain ⟨g, o, rfl, ZI⟩ : ∃ c o, bl = some ⟨c, o, none⟩ ∧ PrAt w c o bs := by
        rcases HB.out with e | h
        · rw [e] at hlt; simp at hlt
        · exact h
      obtain ⟨e0, e1, e2⟩ := (ZI.below H2.out).cell k hlt
      have zl := (ZI.below H2.out).lt
      obtain ⟨x, y, z, hp⟩ : ∃ a b q, bs[k] = (a, b, q) := ⟨_, _, _, rfl⟩
      rw [hp] at e0 e1 e2
      dsimp only at e0 e1 e2
      clear hp hlt ZI HB HQ
      have E4 := Lib.hid (hol_any kk x y z)
      go_wp2_with fail
      refine (E4.out _).mono ?_
      rintro e w6 ⟨rfl, b6⟩
      have B6 := Lib.hid (bT H2.out b6)
      clear b6
      generalize (y == kk) = r at *
      cases r
      · go_wp2
        go_roundw
        case rel => exact ⟨k + 1, by go_num, by omega, B6⟩
        case measure => simp [intOf]; omega
      · go_wp2
        go_ret
        exact ⟨_, rfl, B6.out⟩
    · have h1' : ¬ (k : Int) < (q : Int) := by omega
      go_wp2
      go_ret
      first | exact ⟨_, rfl, H2.out⟩ | exact ⟨⟨_, rfl⟩, H2.out⟩
/-- slices.ContainsFunc, of a State. -/
theorem cof_any (bl : Option Addr) (cb : Nat) (bs : List LPr) (kk : Int) (w : World) (hq : bs.length ≤ 1048576) (hbs : Prs w bl bs) :
    Calls Tryz.prog 87 #[.slice bl bs.length cb, .func (.func 33) #[.int .i64 kk] #[]] w fun e w' => ∃ b : Bool, e = .returned (.bool b) ∧ Below w.heap.size w w' := by
  have E := Lib.hid (ixf_any bl cb bs kk w hq hbs)
  clear hbs
  generalize bs.length = q at *
  go_enter Tryz.func87, Tryz.ntmps87
  go_wp2_with fail
  refine E.out.mono ?_
  rintro e w1 ⟨z, rfl, b1⟩
  have D1 := Lib.hid b1
  clear b1
  go_wp2
  go_ret
  exact ⟨_, rfl, D1.out⟩
/-- impl.anyActive. -/
theorem ana_any (bl : Option Addr) (cb : Nat) (bs : List LPr) (w : World) (hq : bs.length ≤ 1048576) (hbs : Prs w bl bs) :
    Calls Tryz.prog 64 #[.slice bl bs.length cb] w fun e w' => ∃ b : Bool, e = .returned (.bool b) ∧ Below w.heap.size w w' := by
  have E := Lib.hid (cof_any bl cb bs 1 w hq hbs)
  clear hbs
  generalize bs.length = q at *
  go_enter Tryz.func64, Tryz.ntmps64
  go_wp2_with fail
  refine E.out.mono ?_
  rintro e w1 ⟨z, rfl, b1⟩
  have D1 := Lib.hid b1
  clear b1
  go_wp2
  go_ret
  exact ⟨_, rfl, D1.out⟩

/-- What stands in a stage that is not closed. -/
def OpenV (v : Value) : Prop := v = .iface 98 (.agg #[]) ∨ v = .iface 100 (.agg #[]) ∨ ∃ (a : Int) (b : Bool), v = .iface 102 (.agg #[.int .i64 a, .bool b])
set_option maxRecDepth 100000 in
set_option maxHeartbeats 4000000 in
/-- impl.standingOf. -/
theorem sta_any (sl : Option Addr) (cap : Nat) (tl : Option Addr) (kap : Nat) (top pr st bu : Int) (bl : Option Addr) (cb : Nat) (pl : Option Addr) (cp : Nat) (ul : Option Addr) (cu : Nat) (ai fx : Int) (gc gf : Bool) (rs : List LSt) (ps : List LPr) (bs : List LPr) (ls : List LPl) (us : List Int) (w : World) (hq : bs.length ≤ 1048576) (hu : us.length ≤ 1048576) (ok : ∀ b ∈ bs, BidOK b) (hf : NouR fx) (hbs : Prs w bl bs) :
    Calls Tryz.prog 32 #[SgV sl rs.length cap tl ps.length kap top pr st bu bl bs.length cb pl ls.length cp ul us.length cu ai fx gc gf] w fun e w' => ∃ v, e = .returned v ∧ ((gc = true ∧ v = .iface 72 (.agg #[])) ∨ (gc = false ∧ OpenV v)) ∧ Below w.heap.size w w' := by
  have AN : Hid (∀ W, Below w.heap.size w W → Calls Tryz.prog 64 #[.slice bl bs.length cb] W fun e w' => ∃ b : Bool, e = .returned (.bool b) ∧ Below W.heap.size W w') := fun W hW => ana_any bl cb bs W hq (hbs.below hW)
  have NE : Hid (∀ W, Below w.heap.size w W → Calls Tryz.prog 38 #[SgV sl rs.length cap tl ps.length kap top pr st bu bl bs.length cb pl ls.length cp ul us.length cu ai fx gc gf] W fun e w' => ∃ z : Int, e = .returned (.int .i64 z) ∧ Below W.heap.size W w') := fun W hW => (nee_any sl cap tl kap top pr st bu bl cb pl cp ul cu ai fx gc gf rs ps bs ls us W hq ok hf (hbs.below hW)).mono fun e w' ⟨h1, h2⟩ => ⟨_, h1, h2⟩
  clear ok hf hbs
  generalize rs.length = n at *
  generalize ps.length = m at *
  generalize bs.length = q at *
  generalize ls.length = p at *
  generalize us.length = u at *
  have B0 := Lib.hid (bA0 w (.cells (SgC sl n cap tl m kap top pr st bu bl q cb pl p cp ul u cu ai fx gc gf) 44))
  have N0 := Lib.hid (new_at w (.cells (SgC sl n cap tl m kap top pr st bu bl q cb pl p cp ul u cu ai fx gc gf) 44))
  have hS : (w.alloc (.cells (SgC sl n cap tl m kap top pr st bu bl q cb pl p cp ul u cu ai fx gc gf) 44)).heap.size = w.heap.size + 1 := by simp

  cases gc
  case true =>
    clear AN NE
    go_enter Tryz.func32, Tryz.ntmps32
    go_wp2
    go_ret
    exact ⟨_, rfl, .inl ⟨by trivial, rfl⟩, B0.out⟩
  cases gf
  case true =>
    clear AN NE
    go_enter Tryz.func32, Tryz.ntmps32
    go_wp2
    go_ret
    exact ⟨_, rfl, .inr ⟨by trivial, .inl rfl⟩, B0.out⟩
  go_enter Tryz.func32, Tryz.ntmps32
  go_wp2_with fail
  refine (AN.out _ B0.out).mono ?_
  rintro e w1 ⟨b, rfl, b1⟩
  have D1 := Lib.hid (bT B0.out b1)
  have M1 := Lib.hid ((b1.block w.heap.size (by rw [hS]; omega)).trans N0.out)
  obtain ⟨c0, c1, c2, c3, c4, c5, c6, c7, c8, c9, c10, c11, c12, cf, cl⟩ := cells13 M1.out
  have L1 := Lib.hid cl
  clear b1 N0 hS B0 AN
  cases b
  case true =>
    clear NE
    go_wp2
    go_ret
    exact ⟨_, rfl, .inr ⟨by trivial, .inr (.inl rfl)⟩, D1.out⟩
  have KX : Hid (∀ W, Below w1.heap.size w1 W → w.heap.size < W.heap.size ∧ W.cell? ⟨w.heap.size, 0, none⟩ = some (.slice sl n cap) ∧ W.cell? ⟨w.heap.size, 1, none⟩ = some (.slice tl m kap) ∧ W.cell? ⟨w.heap.size, 2, none⟩ = some (.int .i64 top) ∧ W.cell? ⟨w.heap.size, 3, none⟩ = some (.int .i64 pr) ∧ W.cell? ⟨w.heap.size, 4, none⟩ = some (.int .i64 st) ∧ W.cell? ⟨w.heap.size, 5, none⟩ = some (.int .i64 bu) ∧ W.cell? ⟨w.heap.size, 6, none⟩ = some (.slice bl q cb) ∧ W.cell? ⟨w.heap.size, 7, none⟩ = some (.slice pl p cp) ∧ W.cell? ⟨w.heap.size, 8, none⟩ = some (.slice ul u cu) ∧ W.cell? ⟨w.heap.size, 9, none⟩ = some (.int .i64 ai) ∧ W.cell? ⟨w.heap.size, 10, none⟩ = some (.int .i64 fx) ∧ W.cell? ⟨w.heap.size, 11, none⟩ = some (.bool false) ∧ W.cell? ⟨w.heap.size, 12, none⟩ = some (.bool false)) := fun W hW => by
    obtain ⟨c0, c1, c2, c3, c4, c5, c6, c7, c8, c9, c10, c11, c12, cf, cl⟩ := cells13 ((hW.block w.heap.size (by exact L1.out)).trans M1.out)
    exact ⟨cl, c0, c1, c2, c3, c4, c5, c6, c7, c8, c9, c10, c11, c12⟩
  go_wp2_with fail
  refine wp_region_held_drew (S := fun W => w.heap.size < W.heap.size ∧ W.cell? ⟨w.heap.size, 0, none⟩ = some (.slice sl n cap) ∧ W.cell? ⟨w.heap.size, 1, none⟩ = some (.slice tl m kap) ∧ W.cell? ⟨w.heap.size, 2, none⟩ = some (.int .i64 top) ∧ W.cell? ⟨w.heap.size, 3, none⟩ = some (.int .i64 pr) ∧ W.cell? ⟨w.heap.size, 4, none⟩ = some (.int .i64 st) ∧ W.cell? ⟨w.heap.size, 5, none⟩ = some (.int .i64 bu) ∧ W.cell? ⟨w.heap.size, 6, none⟩ = some (.slice bl q cb) ∧ W.cell? ⟨w.heap.size, 7, none⟩ = some (.slice pl p cp) ∧ W.cell? ⟨w.heap.size, 8, none⟩ = some (.slice ul u cu) ∧ W.cell? ⟨w.heap.size, 9, none⟩ = some (.int .i64 ai) ∧ W.cell? ⟨w.heap.size, 10, none⟩ = some (.int .i64 fx) ∧ W.cell? ⟨w.heap.size, 11, none⟩ = some (.bool false) ∧ W.cell? ⟨w.heap.size, 12, none⟩ = some (.bool false)) (by kernel_rfl) ?_ (fun hHeld => ?_)
  · exact KX.out _ (Below.refl _ _).drew
  refine wpAnyH_take (i := 0) (oi := _) (v := ?_) rfl (by kernel_rfl) (by kernel_rfl) (by kernel_rfl) (fun _ _ _ h => h) (Or.inl ⟨by rfl, ?_⟩) (by assumption) ?_
  rotate_left
  · first | (intro w hSw; (try dsimp only at hSw); go_simp; done) | (intro w hSw; (try dsimp only at hSw); go_simp; with_reducible rfl)
  try simp only [Act.put, List.setIfInBounds_toArray, List.set_cons_zero, List.set_cons_succ, List.getElem_toArray, List.getElem_cons_zero]
  refine wpAnyH_take (i := 2) (oi := _) (v := ?_) rfl (by kernel_rfl) (by kernel_rfl) (by kernel_rfl) (fun _ _ _ h => h) (Or.inl ⟨by rfl, ?_⟩) (by assumption) ?_
  rotate_left
  · first | (intro w hSw; (try dsimp only at hSw); go_simp; done) | (intro w hSw; (try dsimp only at hSw); go_simp; with_reducible rfl)
  try simp only [Act.put, List.setIfInBounds_toArray, List.set_cons_zero, List.set_cons_succ, List.getElem_toArray, List.getElem_cons_succ, List.getElem_cons_zero]
  refine wpAnyH_take (i := 3) (oi := _) (v := ?_) rfl (by kernel_rfl) (by kernel_rfl) (by kernel_rfl) (fun _ _ _ h => h) (Or.inl ⟨by rfl, ?_⟩) (by assumption) ?_
  rotate_left
  · first | (intro w hSw; (try dsimp only at hSw); go_simp; done) | (intro w hSw; (try dsimp only at hSw); go_simp; with_reducible rfl)
  try simp only [Act.put, List.setIfInBounds_toArray, List.set_cons_zero, List.set_cons_succ, List.getElem_toArray, List.getElem_cons_succ, List.getElem_cons_zero]
  refine wpAnyH_take (i := 4) (oi := _) (v := ?_) rfl (by kernel_rfl) (by kernel_rfl) (by kernel_rfl) (fun _ _ _ h => h) (Or.inl ⟨by rfl, ?_⟩) (by assumption) ?_
  rotate_left
  · first | (intro w hSw; (try dsimp only at hSw); go_simp; done) | (intro w hSw; (try dsimp only at hSw); go_simp; with_reducible rfl)
  try simp only [Act.put, List.setIfInBounds_toArray, List.set_cons_zero, List.set_cons_succ, List.getElem_toArray, List.getElem_cons_succ, List.getElem_cons_zero]
  refine wpAnyH_take (i := 5) (oi := _) (v := ?_) rfl (by kernel_rfl) (by kernel_rfl) (by kernel_rfl) (fun _ _ _ h => h) (Or.inl ⟨by rfl, ?_⟩) (by assumption) ?_
  rotate_left
  · first | (intro w hSw; (try dsimp only at hSw); go_simp; done) | (intro w hSw; (try dsimp only at hSw); go_simp; with_reducible rfl)
  try simp only [Act.put, List.setIfInBounds_toArray, List.set_cons_zero, List.set_cons_succ, List.getElem_toArray, List.getElem_cons_succ, List.getElem_cons_zero]
  refine wpAnyH_take (i := 6) (oi := _) (v := ?_) rfl (by kernel_rfl) (by kernel_rfl) (by kernel_rfl) (fun _ _ _ h => h) (Or.inl ⟨by rfl, ?_⟩) (by assumption) ?_
  rotate_left
  · first | (intro w hSw; (try dsimp only at hSw); go_simp; done) | (intro w hSw; (try dsimp only at hSw); go_simp; with_reducible rfl)
  try simp only [Act.put, List.setIfInBounds_toArray, List.set_cons_zero, List.set_cons_succ, List.getElem_toArray, List.getElem_cons_succ, List.getElem_cons_zero]
  refine wpAnyH_take (i := 7) (oi := _) (v := ?_) rfl (by kernel_rfl) (by kernel_rfl) (by kernel_rfl) (fun _ _ _ h => h) (Or.inl ⟨by rfl, ?_⟩) (by assumption) ?_
  rotate_left
  · first | (intro w hSw; (try dsimp only at hSw); go_simp; done) | (intro w hSw; (try dsimp only at hSw); go_simp; with_reducible rfl)
  try simp only [Act.put, List.setIfInBounds_toArray, List.set_cons_zero, List.set_cons_succ, List.getElem_toArray, List.getElem_cons_succ, List.getElem_cons_zero]
  refine wpAnyH_take (i := 8) (oi := _) (v := ?_) rfl (by kernel_rfl) (by kernel_rfl) (by kernel_rfl) (fun _ _ _ h => h) (Or.inl ⟨by rfl, ?_⟩) (by assumption) ?_
  rotate_left
  · first | (intro w hSw; (try dsimp only at hSw); go_simp; done) | (intro w hSw; (try dsimp only at hSw); go_simp; with_reducible rfl)
  try simp only [Act.put, List.setIfInBounds_toArray, List.set_cons_zero, List.set_cons_succ, List.getElem_toArray, List.getElem_cons_succ, List.getElem_cons_zero]
  refine wpAnyH_ready (rs := [1]) (by kernel_rfl) (by simp) ?_
  refine AllReadyH.cons rfl (fun K hK => ?_) AllReadyH.nil
  go_simp
  go_wp2_with (go_at_call 38; refine (NE.out _ D1.out.drew).mono ?_; rintro e w2 ⟨z, rfl, b2⟩)
  have A2 : Hid (Below w1.heap.size w1 w2) := bT ((Below.refl w1.heap.size w1).drew) b2
  clear b2
  refine hK.out _ _ ?_ (fun hHeld => ?_)
  · exact KX.out _ A2.out
  clear hK K
  refine wpAnyH_take (i := 9) (oi := _) (v := ?_) rfl (by kernel_rfl) (by kernel_rfl) (by kernel_rfl) (fun _ _ _ h => h) (Or.inl ⟨by rfl, ?_⟩) (by assumption) ?_
  rotate_left
  · first | (intro w hSw; (try dsimp only at hSw); go_simp; done) | (intro w hSw; (try dsimp only at hSw); go_simp; with_reducible rfl)
  try simp only [Act.put, List.setIfInBounds_toArray, List.set_cons_zero, List.set_cons_succ, List.getElem_toArray, List.getElem_cons_succ, List.getElem_cons_zero]
  refine wpAnyH_take (i := 10) (oi := _) (v := ?_) rfl (by kernel_rfl) (by kernel_rfl) (by kernel_rfl) (fun _ _ _ h => h) (Or.inl ⟨by rfl, ?_⟩) (by assumption) ?_
  rotate_left
  · first | (intro w hSw; (try dsimp only at hSw); go_simp; done) | (intro w hSw; (try dsimp only at hSw); go_simp; with_reducible rfl)
  try simp only [Act.put, List.setIfInBounds_toArray, List.set_cons_zero, List.set_cons_succ, List.getElem_toArray, List.getElem_cons_succ, List.getElem_cons_zero]
  refine wpAnyH_take (i := 11) (oi := _) (v := ?_) rfl (by kernel_rfl) (by kernel_rfl) (by kernel_rfl) (fun _ _ _ h => h) (Or.inl ⟨by rfl, ?_⟩) (by assumption) ?_
  rotate_left
  · first | (intro w hSw; (try dsimp only at hSw); go_simp; done) | (intro w hSw; (try dsimp only at hSw); go_simp; with_reducible rfl)
  try simp only [Act.put, List.setIfInBounds_toArray, List.set_cons_zero, List.set_cons_succ, List.getElem_toArray, List.getElem_cons_succ, List.getElem_cons_zero]
  refine wpAnyH_done (by kernel_rfl) ?_ _

  have D2 := Lib.hid (bT D1.out A2.out)
  go_wp2
  go_ret
  exact ⟨_, rfl, .inr ⟨by trivial, .inr (.inr ⟨_, _, rfl⟩)⟩, D2.out⟩

/-- The pays of Bids: the Id and Price of each that is won. -/
def paysL (bs : List LPr) : List LPl := (bs.filter fun b => b.2.1 == 4).map fun b => (b.1, b.2.2)
theorem paysL_len (bs : List LPr) : (paysL bs).length ≤ bs.length := by unfold paysL; rw [List.length_map]; exact List.length_filter_le _ _
theorem paysL_yes (bs : List LPr) (j : Nat) (h : j < bs.length) (hk : (bs[j].2.1 == 4) = true) : paysL (bs.take (j + 1)) = paysL (bs.take j) ++ [(bs[j].1, bs[j].2.2)] := by
  unfold paysL
  rw [List.take_add_one, List.getElem?_eq_getElem h]
  simp only [Option.toList_some, List.filter_append, List.map_append]
  rw [List.filter_cons_of_pos (by exact hk)]
  rfl
theorem paysL_no (bs : List LPr) (j : Nat) (h : j < bs.length) (hk : (bs[j].2.1 == 4) = false) : paysL (bs.take (j + 1)) = paysL (bs.take j) := by
  unfold paysL
  rw [List.take_add_one, List.getElem?_eq_getElem h]
  simp only [Option.toList_some, List.filter_append, List.map_append]
  rw [List.filter_cons_of_neg (by rw [hk]; simp)]
  simp
/-- What StagePays tells. -/
noncomputable def payA (rs : List LSt) (ps : List LPr) (top pr st bu : Int) (bs : List LPr) (ls : List LPl) (us : List Int) (ai fx : Int) (gc gf : Bool) : List LPl := if B (StgR rs ps top pr st bu bs ls us ai fx gc gf) = true ∧ gc = true then paysL bs else []
theorem payA_le (rs : List LSt) (ps : List LPr) (top pr st bu : Int) (bs : List LPr) (ls : List LPl) (us : List Int) (ai fx : Int) (gc gf : Bool) (h : bs.length ≤ 1048576) : (payA rs ps top pr st bu bs ls us ai fx gc gf).length ≤ 1048576 := by
  unfold payA
  split
  · exact Nat.le_trans (paysL_len bs) h
  · simp
theorem payA_bare {rs rs' : List LSt} (ps : List LPr) (top pr st bu : Int) (bs : List LPr) (ls : List LPl) (us : List Int) (ai fx : Int) (gc gf : Bool) (h : bareS rs = bareS rs') : payA rs ps top pr st bu bs ls us ai fx gc gf = payA rs' ps top pr st bu bs ls us ai fx gc gf := by
  unfold payA
  rw [stg_bare ps top pr st bu bs ls us ai fx gc gf h]
theorem ta_won (w : World) : (Instr.typeAssert (.iface 72 (.agg #[])) 20 72 true).run Tryz.prog w = .ok (.tuple #[.agg #[], .bool true]) w := by kernel_rfl
theorem ta_98 (w : World) : (Instr.typeAssert (.iface 98 (.agg #[])) 20 72 true).run Tryz.prog w = .ok (.tuple #[.agg #[], .bool false]) w := by kernel_rfl
theorem ta_100 (w : World) : (Instr.typeAssert (.iface 100 (.agg #[])) 20 72 true).run Tryz.prog w = .ok (.tuple #[.agg #[], .bool false]) w := by kernel_rfl
theorem ta_102 (a : Int) (b : Bool) (w : World) : (Instr.typeAssert (.iface 102 (.agg #[.int .i64 a, .bool b])) 20 72 true).run Tryz.prog w = .ok (.tuple #[.agg #[], .bool false]) w := by kernel_rfl

set_option maxRecDepth 100000 in
set_option maxHeartbeats 4000000 in
/-- impl.StagePays. -/
theorem isp_any (sl : Option Addr) (cap : Nat) (tl : Option Addr) (kap : Nat) (top pr st bu : Int) (bl : Option Addr) (cb : Nat) (pl : Option Addr) (cp : Nat) (ul : Option Addr) (cu : Nat) (ai fx : Int) (gc gf : Bool) (rs : List LSt) (ps : List LPr) (bs : List LPr) (ls : List LPl) (us : List Int) (w : World) (hn : rs.length ≤ 1048576) (hq : bs.length ≤ 1048576) (hl : ls.length ≤ 1048576) (hu : us.length ≤ 1048576) (hcp : ls.length ≤ cp) (hz : Sts w sl rs) (hp : Prs w tl ps) (hw : ∀ p ∈ ps, WfP p) (hbs : Prs w bl bs) (hls : Pls w pl ls) (hus : Ints w ul us) :
    Calls Tryz.prog 12 #[SgV sl rs.length cap tl ps.length kap top pr st bu bl bs.length cb pl ls.length cp ul us.length cu ai fx gc gf] w fun e w' => ∃ v, e = .returned v ∧ w'.ownsRow w.heap.size 69 2 v (payA rs ps top pr st bu bs ls us ai fx gc gf).length (enCells (payA rs ps top pr st bu bs ls us ai fx gc gf)) ∧ Below w.heap.size w w' := by
  obtain ⟨i0, hi0, hz0, hz1, hz2⟩ := info_parts infoPay
  have CR : Hid (∀ W, Below w.heap.size w W → Calls Tryz.prog 9 #[SgV sl rs.length cap tl ps.length kap top pr st bu bl bs.length cb pl ls.length cp ul us.length cu ai fx gc gf] W fun e w' => e = .returned (.bool (B (StgR rs ps top pr st bu bs ls us ai fx gc gf))) ∧ Below W.heap.size W w') := fun W hW => isr_any sl cap tl kap top pr st bu bl cb pl cp ul cu ai fx gc gf rs ps bs ls us W hn hq hl hu hcp (hz.below hW) (hp.below hW) hw (hbs.below hW) (hls.below hW) (hus.below hW)
  have ST : Hid (B (StgR rs ps top pr st bu bs ls us ai fx gc gf) = true → ∀ W, Below w.heap.size w W → Calls Tryz.prog 32 #[SgV sl rs.length cap tl ps.length kap top pr st bu bl bs.length cb pl ls.length cp ul us.length cu ai fx gc gf] W fun e w' => ∃ v, e = .returned v ∧ ((gc = true ∧ v = .iface 72 (.agg #[])) ∨ (gc = false ∧ OpenV v)) ∧ Below W.heap.size W w') := fun g W hW => sta_any sl cap tl kap top pr st bu bl cb pl cp ul cu ai fx gc gf rs ps bs ls us W hq hu (B_true g).1.2.2.1.2 (B_true g).2.2.1 (hbs.below hW)
  have V0 := Lib.hid (show B (StgR rs ps top pr st bu bs ls us ai fx gc gf) = false → payA rs ps top pr st bu bs ls us ai fx gc gf = [] from fun g => if_neg (fun h => by rw [g] at h; cases h.1))
  have V1 := Lib.hid (show gc = false → payA rs ps top pr st bu bs ls us ai fx gc gf = [] from fun g => if_neg (fun h => by rw [g] at h; cases h.2))
  have V2 := Lib.hid (show B (StgR rs ps top pr st bu bs ls us ai fx gc gf) = true → gc = true → payA rs ps top pr st bu bs ls us ai fx gc gf = paysL bs from fun g h => if_pos ⟨g, h⟩)
  have TK := Lib.hid (show bs.take bs.length = bs from List.take_length)
  have HB := Lib.hid hbs
  clear hz hp hw hbs hls hus hcp hn hl hu
  generalize payA rs ps top pr st bu bs ls us ai fx gc gf = pa at *
  generalize B (StgR rs ps top pr st bu bs ls us ai fx gc gf) = r at *
  generalize rs.length = n at *
  generalize ps.length = m at *
  generalize hQ : bs.length = q at *
  generalize ls.length = p at *
  generalize us.length = u at *
  have HQ := Lib.hid hQ
  clear hQ
  have B0 := Lib.hid (bA0 w (.cells (SgC sl n cap tl m kap top pr st bu bl q cb pl p cp ul u cu ai fx gc gf) 44))
  have N0 := Lib.hid (new_at w (.cells (SgC sl n cap tl m kap top pr st bu bl q cb pl p cp ul u cu ai fx gc gf) 44))
  have hS : (w.alloc (.cells (SgC sl n cap tl m kap top pr st bu bl q cb pl p cp ul u cu ai fx gc gf) 44)).heap.size = w.heap.size + 1 := by simp

  go_enter Tryz.func12, Tryz.ntmps12
  go_wp2_with fail
  refine (CR.out _ B0.out).mono ?_
  rintro e w1 ⟨rfl, b1⟩
  have D1 := Lib.hid (bT B0.out b1)
  have M1 := Lib.hid ((b1.block w.heap.size (by rw [hS]; omega)).trans N0.out)
  obtain ⟨c0, c1, c2, c3, c4, c5, c6, c7, c8, c9, c10, c11, c12, cf, cl⟩ := cells13 M1.out
  clear b1 N0 hS B0 CR
  cases r
  · have HV := V0.out (by trivial)
    subst HV
    clear ST V0 V1 V2
    go_wp2
    go_ret
    exact ⟨_, rfl, ⟨rfl, .inl ⟨rfl, rfl⟩⟩, D1.out⟩
  have SF := Lib.hid (ST.out (by trivial))
  have V3 := Lib.hid (V2.out (by trivial))
  clear ST V0 V2
  go_wp2_with fail
  refine (SF.out _ D1.out).mono ?_
  rintro e w2 ⟨v, rfl, hv, b2⟩
  have D2 := Lib.hid (bT D1.out b2)
  have M2 := Lib.hid ((b2.block _ cl).trans M1.out)
  clear c0 c1 c2 c3 c4 c5 c6 c7 c8 c9 c10 c11 c12 cf cl
  obtain ⟨c0, c1, c2, c3, c4, c5, c6, c7, c8, c9, c10, c11, c12, cf, cl⟩ := cells13 M2.out
  clear b2 M1 D1 SF
  rcases hv with ⟨rfl, rfl⟩ | ⟨rfl, hv⟩
  case inr =>
    have HV := V1.out (by trivial)
    subst HV
    clear V1 V3
    rcases hv with rfl | rfl | ⟨a, b, rfl⟩
    · have ta := ta_98
      go_wp2
      go_ret
      exact ⟨_, rfl, ⟨rfl, .inl ⟨rfl, rfl⟩⟩, D2.out⟩
    · have ta := ta_100
      go_wp2
      go_ret
      exact ⟨_, rfl, ⟨rfl, .inl ⟨rfl, rfl⟩⟩, D2.out⟩
    · have ta := ta_102 a b
      go_wp2
      go_ret
      exact ⟨_, rfl, ⟨rfl, .inl ⟨rfl, rfl⟩⟩, D2.out⟩
  have HV := V3.out (by trivial)
  subst HV
  clear V1 V3
  have ta := ta_won
  go_wp2
  go_loopw [3, 20] (fun v i wr => ∃ k : Nat, i = .int .i64 k ∧ k ≤ q ∧ Hid (wr.ownsRow w.heap.size 69 2 v (paysL (bs.take k)).length (enCells (paysL (bs.take k)))) ∧ Hid (Below w.heap.size w wr)) (fun _ i _ => q - (intOf i).toNat)
  case atStart => exact ⟨0, rfl, Nat.zero_le _, ⟨rfl, .inl ⟨rfl, rfl⟩⟩, D2⟩
  case round =>
    obtain ⟨k, rfl, hk, H1, H2⟩ := hrel
    have hk0 : (0 : Int) ≤ (k : Int) := by omega
    by_cases h1 : k < q
    · have h1' : (k : Int) < (q : Int) := by omega
      have hlt : k < bs.length := by rw [HQ.out]; exact h1
      obtain ⟨g, o, rfl, Z0⟩ : ∃ c o, bl = some ⟨c, o, none⟩ ∧ PrAt w c o bs := by
        rcases HB.out with e | h
        · rw [e] at hlt; simp at hlt
        · exact h
      obtain ⟨hc0, hc1, hc2⟩ := (Z0.below H2.out).cell k hlt
      have zl := (Z0.below H2.out).lt
      have LE := Lib.hid (show (paysL (bs.take k)).length ≤ k from Nat.le_trans (paysL_len _) (by rw [List.length_take]; omega))
      have YY := Lib.hid (paysL_yes bs k hlt)
      have NN := Lib.hid (paysL_no bs k hlt)
      obtain ⟨x, y, z, hp⟩ : ∃ a b q, bs[k] = (a, b, q) := ⟨_, _, _, rfl⟩
      rw [hp] at hc0 hc1 hc2 YY NN
      dsimp only at hc0 hc1 hc2 YY NN
      clear hp hlt Z0
      have LE' := LE.out
      have E := Lib.hid (hol_any 4 x y z)
      have B5 := Lib.hid (bA H2.out (.cells #[.int .i64 x, .int .i64 y, .int .i64 z] 60))
      have R5 := Lib.hid (H1.out.alloc (.cells #[.int .i64 x, .int .i64 y, .int .i64 z] 60))
      have N5 := Lib.hid (new_at wr (.cells #[.int .i64 x, .int .i64 y, .int .i64 z] 60))
      go_wp2_with fail
      refine (E.out _).mono ?_
      rintro e w6 ⟨rfl, b6⟩
      have B6 := Lib.hid (bT B5.out b6)
      have R6 := Lib.hid (own_below R5.out b6)
      have k6 := (b6.block wr.heap.size (by simp)).trans N5.out
      obtain ⟨d0, d1, d2, df, dl⟩ := cells3 k6
      have hs := B6.out.size
      clear b6 B5 N5 k6 R5 H1 H2
      by_cases hy : (y == 4) = true
      · have EQ := Lib.hid (YY.out hy)
        have EV := Lib.hid (show enCells (paysL (bs.take k)) ++ [.int .i64 x, .int .i64 z] = enCells (paysL (bs.take k) ++ [(x, z)]) from (enCells_add (paysL (bs.take k)) (x, z)).symm)
        rw [hy]
        clear hy
        go_wp2_with (first | (at_builtin; refine wpList_append_lies _ rfl (.tmp 27) (.tmp 33) 48 rfl w.heap.size 69 i0 (.agg #[.int .i64 0, .int .i64 0]) 2 16 Tryz.underlying48 hi0 hz0 hz1 hz2 rfl (by decide) _ _ _ rfl (R6.out.alloc _) ⟨w6.heap.size, 0, none⟩ 1 1 [.int .i64 x, .int .i64 z] rfl rfl (cell_two_new _ _ _ _) (by intro u hu; simp at hu; rcases hu with rfl | rfl <;> rfl) (by decide) (by unfold maxLen; omega) (by omega) (by simp; omega) (w6.heap.size + 1) (by simp) ?_))
        intro g9 cap9 w9 own9 grow9 hg9 hlt9
        have B9 := Lib.hid ((bA B6.out (.cells #[.int .i64 x, .int .i64 z] 69)).grown grow9 (by simp; omega) (fun j hj => (R6.out.lt j hj).1))
        rw [EV.out] at own9
        have N9 := Lib.hid (show w9.ownsRow w.heap.size 69 2 _ (paysL (bs.take (k + 1))).length (enCells (paysL (bs.take (k + 1)))) by rw [EQ.out, List.length_append]; exact own9)
        clear own9 grow9 hg9 hlt9 YY NN LE LE' EQ EV
        go_wp2
        go_roundw
        case rel => exact ⟨k + 1, by go_num, by omega, N9, B9⟩
        case measure => simp [intOf]; omega
      · have hy' : (y == 4) = false := by simpa using hy
        have EQ := Lib.hid (NN.out hy')
        have N9 := Lib.hid (show w6.ownsRow w.heap.size 69 2 _ (paysL (bs.take (k + 1))).length (enCells (paysL (bs.take (k + 1)))) by rw [EQ.out]; exact R6.out)
        rw [hy']
        clear hy YY NN LE LE' EQ
        go_wp2
        go_roundw
        case rel => exact ⟨k + 1, by go_num, by omega, N9, B6⟩
        case measure => simp [intOf]; omega
    · have h1' : ¬ (k : Int) < (q : Int) := by omega
      have e : k = q := by omega
      have H9 := H1.out
      rw [e, TK.out] at H9
      have P := Lib.hid (And.intro H9 H2.out)
      clear H9 H1
      go_wp2
      go_ret
      exact ⟨_, rfl, P.out.1, P.out.2⟩

end Go.Proofs.YtmmikbkgkpnkbaaGreat
namespace Go.Proofs.YtmmikbkgkpnkbaaGreat
open Go.RowKit
set_option linter.unusedVariables false

set_option maxRecDepth 100000 in
set_option maxHeartbeats 8000000 in
/-- spec.StagePays. -/
theorem ssp_any (sl : Option Addr) (cap : Nat) (tl : Option Addr) (kap : Nat) (top pr st bu : Int) (bl : Option Addr) (cb : Nat) (pl : Option Addr) (cp : Nat) (ul : Option Addr) (cu : Nat) (ai fx : Int) (gc gf : Bool) (rs : List LSt) (ps : List LPr) (bs : List LPr) (ls : List LPl) (us : List Int) (w : World) (hn : rs.length ≤ 1048576) (hq : bs.length ≤ 1048576) (hl : ls.length ≤ 1048576) (hu : us.length ≤ 1048576) (hz : Sts w sl rs) (hp : Prs w tl ps) (hbs : Prs w bl bs) (hls : Pls w pl ls) (hus : Ints w ul us) :
    Calls Tryz.prog 11 #[SgV sl rs.length cap tl ps.length kap top pr st bu bl bs.length cb pl ls.length cp ul us.length cu ai fx gc gf] w fun e w' => ∃ v, e = .returned v ∧ w'.ownsRow w.heap.size 69 2 v (payA rs ps top pr st bu bs ls us ai fx gc gf).length (enCells (payA rs ps top pr st bu bs ls us ai fx gc gf)) ∧ Below w.heap.size w w' := by
  obtain ⟨i0, hi0, hz0, hz1, hz2⟩ := info_parts infoPay
  have CR : Hid (∀ W, Below w.heap.size w W → Calls Tryz.prog 7 #[SgV sl rs.length cap tl ps.length kap top pr st bu bl bs.length cb pl ls.length cp ul us.length cu ai fx gc gf] W fun e w' => e = .returned (.bool (B (StgR rs ps top pr st bu bs ls us ai fx gc gf))) ∧ Below W.heap.size W w') := fun W hW => ssr_any sl cap tl kap top pr st bu bl cb pl cp ul cu ai fx gc gf rs ps bs ls us W hn hq hl hu (hz.below hW) (hp.below hW) (hbs.below hW) (hls.below hW) (hus.below hW)
  have V0 := Lib.hid (show B (StgR rs ps top pr st bu bs ls us ai fx gc gf) = false → payA rs ps top pr st bu bs ls us ai fx gc gf = [] from fun g => if_neg (fun h => by rw [g] at h; cases h.1))
  have V1 := Lib.hid (show gc = false → payA rs ps top pr st bu bs ls us ai fx gc gf = [] from fun g => if_neg (fun h => by rw [g] at h; cases h.2))
  have V2 := Lib.hid (show B (StgR rs ps top pr st bu bs ls us ai fx gc gf) = true → gc = true → payA rs ps top pr st bu bs ls us ai fx gc gf = paysL bs from fun g h => if_pos ⟨g, h⟩)
  have TK := Lib.hid (show bs.take bs.length = bs from List.take_length)
  have HB := Lib.hid hbs
  clear hz hp hbs hls hus hn hl hu
  generalize payA rs ps top pr st bu bs ls us ai fx gc gf = pa at *
  generalize B (StgR rs ps top pr st bu bs ls us ai fx gc gf) = r at *
  generalize rs.length = n at *
  generalize ps.length = m at *
  generalize hQ : bs.length = q at *
  generalize ls.length = p at *
  generalize us.length = u at *
  have HQ := Lib.hid hQ
  clear hQ
  have B0 := Lib.hid (bA0 w (.cells (SgC sl n cap tl m kap top pr st bu bl q cb pl p cp ul u cu ai fx gc gf) 44))
  have N0 := Lib.hid (new_at w (.cells (SgC sl n cap tl m kap top pr st bu bl q cb pl p cp ul u cu ai fx gc gf) 44))
  have hS : (w.alloc (.cells (SgC sl n cap tl m kap top pr st bu bl q cb pl p cp ul u cu ai fx gc gf) 44)).heap.size = w.heap.size + 1 := by simp

  have O0 := Lib.hid (own_ePay (w.alloc (.cells (SgC sl n cap tl m kap top pr st bu bl q cb pl p cp ul u cu ai fx gc gf) 44)))
  rw [hS] at O0
  have A0 := Lib.hid (bA0 (w.alloc (.cells (SgC sl n cap tl m kap top pr st bu bl q cb pl p cp ul u cu ai fx gc gf) 44)) (.cells #[] 69))
  go_enter Tryz.func11, Tryz.ntmps11
  go_wp2_with fail
  generalize w.alloc (.cells (SgC sl n cap tl m kap top pr st bu bl q cb pl p cp ul u cu ai fx gc gf) 44) = wA at *
  refine (CR.out _ (bT B0.out A0.out)).mono ?_
  rintro e w1 ⟨rfl, b1⟩
  have A1 := Lib.hid (bT A0.out b1)
  have D1 := Lib.hid (bT B0.out A1.out)
  have O1 := Lib.hid (own_below O0.out b1)
  obtain ⟨c0, c1, c2, c3, c4, c5, c6, c7, c8, c9, c10, c11, c12, cf, cl⟩ := cells13 ((A1.out.block w.heap.size (by rw [hS]; omega)).trans N0.out)
  clear b1 CR A0 O0
  cases r
  · have HV := V0.out (by trivial)
    subst HV
    have P := Lib.hid (own_mono O1.out (Nat.le_succ w.heap.size))
    clear V0 V1 V2 O1
    go_wp2
    go_ret
    exact ⟨_, rfl, P.out, D1.out⟩
  cases gc
  · have HV := V1.out (by trivial)
    subst HV
    have P := Lib.hid (own_mono O1.out (Nat.le_succ w.heap.size))
    clear V0 V1 V2 O1
    go_wp2
    go_ret
    exact ⟨_, rfl, P.out, D1.out⟩
  have HV := V2.out (by trivial) (by trivial)
  subst HV
  clear V0 V1 V2
  go_wp2
  clear c0 c1 c2 c3 c4 c5 c6 c7 c8 c9 c10 c11 c12 cf cl
  go_loopw [3, 4] (fun v i wr => ∃ k : Nat, i = .int .i64 k ∧ k ≤ q ∧ Hid (wr.ownsRow (w.heap.size + 1) 69 2 v (paysL (bs.take k)).length (enCells (paysL (bs.take k)))) ∧ Hid (Below wA.heap.size wA wr)) (fun _ i _ => q - (intOf i).toNat)
  case atStart => exact ⟨0, rfl, Nat.zero_le _, O1, A1⟩
  case round =>
    obtain ⟨k, rfl, hk, H1, H3⟩ := hrel
    have hk0 : (0 : Int) ≤ (k : Int) := by omega
    have H2 := Lib.hid (bT B0.out H3.out)
    obtain ⟨c0, c1, c2, c3, c4, c5, c6, c7, c8, c9, c10, c11, c12, cf, cl⟩ := cells13 ((H3.out.block w.heap.size (by rw [hS]; omega)).trans N0.out)
    by_cases h1 : k < q
    · have h1' : (k : Int) < (q : Int) := by omega
      have hlt : k < bs.length := by rw [HQ.out]; exact h1
      obtain ⟨g, o, rfl, Z0⟩ : ∃ c o, bl = some ⟨c, o, none⟩ ∧ PrAt w c o bs := by
        rcases HB.out with e | h
        · rw [e] at hlt; simp at hlt
        · exact h
      have KY : Hid (∀ W, Below wA.heap.size wA W → ∀ x y z, bs[k]? = some (x, y, z) → w.heap.size < W.heap.size ∧ W.cell? ⟨w.heap.size, 0, none⟩ = some (.slice sl n cap) ∧ W.cell? ⟨w.heap.size, 1, none⟩ = some (.slice tl m kap) ∧ W.cell? ⟨w.heap.size, 2, none⟩ = some (.int .i64 top) ∧ W.cell? ⟨w.heap.size, 3, none⟩ = some (.int .i64 pr) ∧ W.cell? ⟨w.heap.size, 4, none⟩ = some (.int .i64 st) ∧ W.cell? ⟨w.heap.size, 5, none⟩ = some (.int .i64 bu) ∧ W.cell? ⟨w.heap.size, 6, none⟩ = some (.slice (some ⟨g, o, none⟩) q cb) ∧ W.cell? ⟨w.heap.size, 7, none⟩ = some (.slice pl p cp) ∧ W.cell? ⟨w.heap.size, 8, none⟩ = some (.slice ul u cu) ∧ W.cell? ⟨w.heap.size, 9, none⟩ = some (.int .i64 ai) ∧ W.cell? ⟨w.heap.size, 10, none⟩ = some (.int .i64 fx) ∧ W.cell? ⟨w.heap.size, 11, none⟩ = some (.bool true) ∧ W.cell? ⟨w.heap.size, 12, none⟩ = some (.bool gf) ∧ g < W.heap.size ∧ W.cell? ⟨g, o + k * 3, none⟩ = some (.int .i64 x) ∧ W.cell? ⟨g, o + k * 3 + 2, none⟩ = some (.int .i64 z)) := fun W hW x y z hx => by
        obtain ⟨hk', hp⟩ := List.getElem?_eq_some_iff.1 hx
        obtain ⟨c0, c1, c2, c3, c4, c5, c6, c7, c8, c9, c10, c11, c12, cf, cl⟩ := cells13 ((hW.block w.heap.size (by rw [hS]; omega)).trans N0.out)
        obtain ⟨e0, e1, e2⟩ := (Z0.below (bT B0.out hW)).cell k hk'
        rw [hp] at e0 e1 e2
        exact ⟨cl, c0, c1, c2, c3, c4, c5, c6, c7, c8, c9, c10, c11, c12, (Z0.below (bT B0.out hW)).lt, e0, e2⟩
      obtain ⟨hc0, hc1, hc2⟩ := (Z0.below H2.out).cell k hlt
      have zl := (Z0.below H2.out).lt
      have LE := Lib.hid (show (paysL (bs.take k)).length ≤ k from Nat.le_trans (paysL_len _) (by rw [List.length_take]; omega))
      have YY := Lib.hid (paysL_yes bs k hlt)
      have NN := Lib.hid (paysL_no bs k hlt)
      have GE := Lib.hid (List.getElem?_eq_getElem hlt)
      obtain ⟨x, y, z, hp⟩ : ∃ a b q, bs[k] = (a, b, q) := ⟨_, _, _, rfl⟩
      rw [hp] at hc0 hc1 hc2 YY NN GE
      dsimp only at hc0 hc1 hc2 YY NN
      have KY := Lib.hid (show ∀ W, Below wA.heap.size wA W → w.heap.size < W.heap.size ∧ W.cell? ⟨w.heap.size, 0, none⟩ = some (.slice sl n cap) ∧ W.cell? ⟨w.heap.size, 1, none⟩ = some (.slice tl m kap) ∧ W.cell? ⟨w.heap.size, 2, none⟩ = some (.int .i64 top) ∧ W.cell? ⟨w.heap.size, 3, none⟩ = some (.int .i64 pr) ∧ W.cell? ⟨w.heap.size, 4, none⟩ = some (.int .i64 st) ∧ W.cell? ⟨w.heap.size, 5, none⟩ = some (.int .i64 bu) ∧ W.cell? ⟨w.heap.size, 6, none⟩ = some (.slice (some ⟨g, o, none⟩) q cb) ∧ W.cell? ⟨w.heap.size, 7, none⟩ = some (.slice pl p cp) ∧ W.cell? ⟨w.heap.size, 8, none⟩ = some (.slice ul u cu) ∧ W.cell? ⟨w.heap.size, 9, none⟩ = some (.int .i64 ai) ∧ W.cell? ⟨w.heap.size, 10, none⟩ = some (.int .i64 fx) ∧ W.cell? ⟨w.heap.size, 11, none⟩ = some (.bool true) ∧ W.cell? ⟨w.heap.size, 12, none⟩ = some (.bool gf) ∧ g < W.heap.size ∧ W.cell? ⟨g, o + k * 3, none⟩ = some (.int .i64 x) ∧ W.cell? ⟨g, o + k * 3 + 2, none⟩ = some (.int .i64 z) from fun W hW => KY.out W hW x y z GE.out)
      have KX : Hid (∀ W, Below wr.heap.size wr W → w.heap.size < W.heap.size ∧ W.cell? ⟨w.heap.size, 0, none⟩ = some (.slice sl n cap) ∧ W.cell? ⟨w.heap.size, 1, none⟩ = some (.slice tl m kap) ∧ W.cell? ⟨w.heap.size, 2, none⟩ = some (.int .i64 top) ∧ W.cell? ⟨w.heap.size, 3, none⟩ = some (.int .i64 pr) ∧ W.cell? ⟨w.heap.size, 4, none⟩ = some (.int .i64 st) ∧ W.cell? ⟨w.heap.size, 5, none⟩ = some (.int .i64 bu) ∧ W.cell? ⟨w.heap.size, 6, none⟩ = some (.slice (some ⟨g, o, none⟩) q cb) ∧ W.cell? ⟨w.heap.size, 7, none⟩ = some (.slice pl p cp) ∧ W.cell? ⟨w.heap.size, 8, none⟩ = some (.slice ul u cu) ∧ W.cell? ⟨w.heap.size, 9, none⟩ = some (.int .i64 ai) ∧ W.cell? ⟨w.heap.size, 10, none⟩ = some (.int .i64 fx) ∧ W.cell? ⟨w.heap.size, 11, none⟩ = some (.bool true) ∧ W.cell? ⟨w.heap.size, 12, none⟩ = some (.bool gf) ∧ g < W.heap.size ∧ W.cell? ⟨g, o + k * 3, none⟩ = some (.int .i64 x) ∧ W.cell? ⟨g, o + k * 3 + 2, none⟩ = some (.int .i64 z)) := fun W hW => KY.out W (bT H3.out hW)
      clear hp hlt Z0 GE
      have LE' := LE.out
      have hs := H3.out.size
      have OD := Lib.hid (show wr.drew.ownsRow (w.heap.size + 1) 69 2 _ (paysL (bs.take k)).length (enCells (paysL (bs.take k))) from H1.out)
      by_cases hy : (y == 4) = true
      · have EQ := Lib.hid (YY.out hy)
        have EV := Lib.hid (show enCells (paysL (bs.take k)) ++ [.int .i64 x, .int .i64 z] = enCells (paysL (bs.take k) ++ [(x, z)]) from (enCells_add (paysL (bs.take k)) (x, z)).symm)
        go_wp2_with fail
        refine wp_region_held_drew (S := fun W => w.heap.size < W.heap.size ∧ W.cell? ⟨w.heap.size, 0, none⟩ = some (.slice sl n cap) ∧ W.cell? ⟨w.heap.size, 1, none⟩ = some (.slice tl m kap) ∧ W.cell? ⟨w.heap.size, 2, none⟩ = some (.int .i64 top) ∧ W.cell? ⟨w.heap.size, 3, none⟩ = some (.int .i64 pr) ∧ W.cell? ⟨w.heap.size, 4, none⟩ = some (.int .i64 st) ∧ W.cell? ⟨w.heap.size, 5, none⟩ = some (.int .i64 bu) ∧ W.cell? ⟨w.heap.size, 6, none⟩ = some (.slice (some ⟨g, o, none⟩) q cb) ∧ W.cell? ⟨w.heap.size, 7, none⟩ = some (.slice pl p cp) ∧ W.cell? ⟨w.heap.size, 8, none⟩ = some (.slice ul u cu) ∧ W.cell? ⟨w.heap.size, 9, none⟩ = some (.int .i64 ai) ∧ W.cell? ⟨w.heap.size, 10, none⟩ = some (.int .i64 fx) ∧ W.cell? ⟨w.heap.size, 11, none⟩ = some (.bool true) ∧ W.cell? ⟨w.heap.size, 12, none⟩ = some (.bool gf) ∧ g < W.heap.size ∧ W.cell? ⟨g, o + k * 3, none⟩ = some (.int .i64 x) ∧ W.cell? ⟨g, o + k * 3 + 2, none⟩ = some (.int .i64 z)) (by kernel_rfl) ?_ (fun hHeld => ?_)
        · exact KX.out _ (Below.refl _ _).drew
        refine wpAnyH_take (i := 0) (oi := _) (v := ?_) rfl (by kernel_rfl) (by kernel_rfl) (by kernel_rfl) (fun _ _ _ h => h) (Or.inl ⟨by rfl, ?_⟩) (by assumption) ?_
        rotate_left
        · first | (intro w hSw; (try dsimp only at hSw); go_simp; done) | (intro w hSw; (try dsimp only at hSw); go_simp; with_reducible rfl)
        try simp only [Act.put, List.setIfInBounds_toArray, List.set_cons_zero, List.set_cons_succ, List.getElem_toArray, List.getElem_cons_zero]
        refine wpAnyH_take (i := 1) (oi := _) (v := ?_) rfl (by kernel_rfl) (by kernel_rfl) (by kernel_rfl) (fun _ _ _ h => h) (Or.inl ⟨by rfl, ?_⟩) (by assumption) ?_
        rotate_left
        · first | (intro w hSw; (try dsimp only at hSw); go_simp; done) | (intro w hSw; (try dsimp only at hSw); go_simp; with_reducible rfl)
        try simp only [Act.put, List.setIfInBounds_toArray, List.set_cons_zero, List.set_cons_succ, List.getElem_toArray, List.getElem_cons_succ, List.getElem_cons_zero]
        refine wpAnyH_take (i := 2) (oi := _) (v := ?_) rfl (by kernel_rfl) (by kernel_rfl) (by kernel_rfl) (fun _ _ _ h => h) (Or.inl ⟨by rfl, ?_⟩) (by assumption) ?_
        rotate_left
        · first | (intro w hSw; (try dsimp only at hSw); go_simp; done) | (intro w hSw; (try dsimp only at hSw); go_simp; with_reducible rfl)
        try simp only [Act.put, List.setIfInBounds_toArray, List.set_cons_zero, List.set_cons_succ, List.getElem_toArray, List.getElem_cons_succ, List.getElem_cons_zero]
        refine wpAnyH_take (i := 3) (oi := _) (v := ?_) rfl (by kernel_rfl) (by kernel_rfl) (by kernel_rfl) (fun _ _ _ h => h) (Or.inl ⟨by rfl, ?_⟩) (by assumption) ?_
        rotate_left
        · first | (intro w hSw; (try dsimp only at hSw); go_simp; done) | (intro w hSw; (try dsimp only at hSw); go_simp; with_reducible rfl)
        try simp only [Act.put, List.setIfInBounds_toArray, List.set_cons_zero, List.set_cons_succ, List.getElem_toArray, List.getElem_cons_succ, List.getElem_cons_zero]
        refine wpAnyH_take (i := 4) (oi := _) (v := ?_) rfl (by kernel_rfl) (by kernel_rfl) (by kernel_rfl) (fun _ _ _ h => h) (Or.inl ⟨by rfl, ?_⟩) (by assumption) ?_
        rotate_left
        · first | (intro w hSw; (try dsimp only at hSw); go_simp; done) | (intro w hSw; (try dsimp only at hSw); go_simp; with_reducible rfl)
        try simp only [Act.put, List.setIfInBounds_toArray, List.set_cons_zero, List.set_cons_succ, List.getElem_toArray, List.getElem_cons_succ, List.getElem_cons_zero]
        refine wpAnyH_take (i := 5) (oi := _) (v := ?_) rfl (by kernel_rfl) (by kernel_rfl) (by kernel_rfl) (fun _ _ _ h => h) (Or.inl ⟨by rfl, ?_⟩) (by assumption) ?_
        rotate_left
        · first | (intro w hSw; (try dsimp only at hSw); go_simp; done) | (intro w hSw; (try dsimp only at hSw); go_simp; with_reducible rfl)
        try simp only [Act.put, List.setIfInBounds_toArray, List.set_cons_zero, List.set_cons_succ, List.getElem_toArray, List.getElem_cons_succ, List.getElem_cons_zero]
        refine wpAnyH_take (i := 6) (oi := _) (v := ?_) rfl (by kernel_rfl) (by kernel_rfl) (by kernel_rfl) (fun _ _ _ h => h) (Or.inl ⟨by rfl, ?_⟩) (by assumption) ?_
        rotate_left
        · first | (intro w hSw; (try dsimp only at hSw); go_simp; done) | (intro w hSw; (try dsimp only at hSw); go_simp; with_reducible rfl)
        try simp only [Act.put, List.setIfInBounds_toArray, List.set_cons_zero, List.set_cons_succ, List.getElem_toArray, List.getElem_cons_succ, List.getElem_cons_zero]
        refine wpAnyH_take (i := 7) (oi := _) (v := ?_) rfl (by kernel_rfl) (by kernel_rfl) (by kernel_rfl) (fun _ _ _ h => h) (Or.inl ⟨by rfl, ?_⟩) (by assumption) ?_
        rotate_left
        · first | (intro w hSw; (try dsimp only at hSw); go_simp; done) | (intro w hSw; (try dsimp only at hSw); go_simp; with_reducible rfl)
        try simp only [Act.put, List.setIfInBounds_toArray, List.set_cons_zero, List.set_cons_succ, List.getElem_toArray, List.getElem_cons_succ, List.getElem_cons_zero]
        refine wpAnyH_take (i := 8) (oi := _) (v := ?_) rfl (by kernel_rfl) (by kernel_rfl) (by kernel_rfl) (fun _ _ _ h => h) (Or.inl ⟨by rfl, ?_⟩) (by assumption) ?_
        rotate_left
        · first | (intro w hSw; (try dsimp only at hSw); go_simp; done) | (intro w hSw; (try dsimp only at hSw); go_simp; with_reducible rfl)
        try simp only [Act.put, List.setIfInBounds_toArray, List.set_cons_zero, List.set_cons_succ, List.getElem_toArray, List.getElem_cons_succ, List.getElem_cons_zero]
        refine wpAnyH_take (i := 9) (oi := _) (v := ?_) rfl (by kernel_rfl) (by kernel_rfl) (by kernel_rfl) (fun _ _ _ h => h) (Or.inl ⟨by rfl, ?_⟩) (by assumption) ?_
        rotate_left
        · first | (intro w hSw; (try dsimp only at hSw); go_simp; done) | (intro w hSw; (try dsimp only at hSw); go_simp; with_reducible rfl)
        try simp only [Act.put, List.setIfInBounds_toArray, List.set_cons_zero, List.set_cons_succ, List.getElem_toArray, List.getElem_cons_succ, List.getElem_cons_zero]
        refine wpAnyH_take (i := 10) (oi := _) (v := ?_) rfl (by kernel_rfl) (by kernel_rfl) (by kernel_rfl) (fun _ _ _ h => h) (Or.inl ⟨by rfl, ?_⟩) (by assumption) ?_
        rotate_left
        · first | (intro w hSw; (try dsimp only at hSw); go_simp; done) | (intro w hSw; (try dsimp only at hSw); go_simp; with_reducible rfl)
        try simp only [Act.put, List.setIfInBounds_toArray, List.set_cons_zero, List.set_cons_succ, List.getElem_toArray, List.getElem_cons_succ, List.getElem_cons_zero]
        refine wpAnyH_take (i := 11) (oi := _) (v := ?_) rfl (by kernel_rfl) (by kernel_rfl) (by kernel_rfl) (fun _ _ _ h => h) (Or.inl ⟨by rfl, ?_⟩) (by assumption) ?_
        rotate_left
        · first | (intro w hSw; (try dsimp only at hSw); go_simp; done) | (intro w hSw; (try dsimp only at hSw); go_simp; with_reducible rfl)
        try simp only [Act.put, List.setIfInBounds_toArray, List.set_cons_zero, List.set_cons_succ, List.getElem_toArray, List.getElem_cons_succ, List.getElem_cons_zero]
        refine wpAnyH_take (i := 12) (oi := _) (v := ?_) rfl (by kernel_rfl) (by kernel_rfl) (by kernel_rfl) (fun _ _ _ h => h) (Or.inl ⟨by rfl, ?_⟩) (by assumption) ?_
        rotate_left
        · first | (intro w hSw; (try dsimp only at hSw); go_simp; done) | (intro w hSw; (try dsimp only at hSw); go_simp; with_reducible rfl)
        try simp only [Act.put, List.setIfInBounds_toArray, List.set_cons_zero, List.set_cons_succ, List.getElem_toArray, List.getElem_cons_succ, List.getElem_cons_zero]
        refine wpAnyH_take (i := 13) (oi := _) (v := ?_) rfl (by kernel_rfl) (by kernel_rfl) (by kernel_rfl) (fun _ _ _ h => h) (Or.inl ⟨by rfl, ?_⟩) (by assumption) ?_
        rotate_left
        · first | (intro w hSw; (try dsimp only at hSw); go_simp; done) | (intro w hSw; (try dsimp only at hSw); go_simp; with_reducible rfl)
        try simp only [Act.put, List.setIfInBounds_toArray, List.set_cons_zero, List.set_cons_succ, List.getElem_toArray, List.getElem_cons_succ, List.getElem_cons_zero]
        refine wpAnyH_take (i := 14) (oi := _) (v := ?_) rfl (by kernel_rfl) (by kernel_rfl) (by kernel_rfl) (fun _ _ _ h => h) (Or.inl ⟨by rfl, ?_⟩) (by assumption) ?_
        rotate_left
        · first | (intro w hSw; (try dsimp only at hSw); go_simp; done) | (intro w hSw; (try dsimp only at hSw); go_simp; with_reducible rfl)
        try simp only [Act.put, List.setIfInBounds_toArray, List.set_cons_zero, List.set_cons_succ, List.getElem_toArray, List.getElem_cons_succ, List.getElem_cons_zero]
        refine wpAnyH_take (i := 15) (oi := _) (v := ?_) rfl (by kernel_rfl) (by kernel_rfl) (by kernel_rfl) (fun _ _ _ h => h) (Or.inl ⟨by rfl, ?_⟩) (by assumption) ?_
        rotate_left
        · first | (intro w hSw; (try dsimp only at hSw); go_simp; done) | (intro w hSw; (try dsimp only at hSw); go_simp; with_reducible rfl)
        try simp only [Act.put, List.setIfInBounds_toArray, List.set_cons_zero, List.set_cons_succ, List.getElem_toArray, List.getElem_cons_succ, List.getElem_cons_zero]
        refine wpAnyH_ready (rs := [16]) (by kernel_rfl) (by simp) ?_
        refine AllReadyH.cons rfl (fun K hK => ?_) AllReadyH.nil
        go_simp
        go_wp2
        have F5 : Hid (Below wr.heap.size wr (wr.drew.alloc (.cells #[.int .i64 x, .int .i64 z] 69))) := bA ((Below.refl wr.heap.size wr).drew) (.cells #[.int .i64 x, .int .i64 z] 69)
        refine hK.out _ _ ?_ (fun hHeld => ?_)
        · exact KX.out _ F5.out
        clear hK K
        refine wpAnyH_ready (rs := [17]) (by kernel_rfl) (by simp) ?_
        refine AllReadyH.cons rfl (fun K hK => ?_) AllReadyH.nil
        refine step_append_lies _ rfl (.tmp 31) (.tmp 47) 48 rfl (w.heap.size + 1) 69 i0 (.agg #[.int .i64 0, .int .i64 0]) 2 16 Tryz.underlying48 hi0 hz0 hz1 hz2 rfl (by decide) _ _ _ rfl (OD.out.alloc _) ⟨wr.heap.size, 0, none⟩ 1 1 [.int .i64 x, .int .i64 z] rfl rfl (cell_two_new wr.drew _ _ _) (by intro u hu; simp at hu; rcases hu with rfl | rfl <;> rfl) (by decide) (by unfold maxLen; omega) (by omega) (by simp; omega) (wr.heap.size + 1) (by simp) ?_
        intro g9 cap9 w9 own9 grow9 hg9 hlt9
        have B9 := Lib.hid ((bA H3.out.drew (.cells #[.int .i64 x, .int .i64 z] 69)).grown grow9 (by show wA.heap.size ≤ (wr.drew.alloc _).heap.size; simp; omega) (fun j hj => by have := (H1.out.lt j hj).1; omega))
        have KS := KY.out _ B9.out
        rw [EV.out] at own9
        have N9 := Lib.hid (show w9.ownsRow (w.heap.size + 1) 69 2 _ (paysL (bs.take (k + 1))).length (enCells (paysL (bs.take (k + 1)))) by rw [EQ.out, List.length_append]; exact own9)
        clear own9 grow9 hg9 hlt9
        refine hK.out _ _ ?_ (fun hHeld => ?_)
        · exact KS
        clear hK K
        refine wpAnyH_take (i := 18) (oi := _) (v := ?_) rfl (by kernel_rfl) (by kernel_rfl) (by kernel_rfl) (fun _ _ _ h => h) (Or.inl ⟨by rfl, ?_⟩) (by assumption) ?_
        rotate_left
        · first | (intro w hSw; (try dsimp only at hSw); go_simp; done) | (intro w hSw; (try dsimp only at hSw); go_simp; with_reducible rfl)
        try simp only [Act.put, List.setIfInBounds_toArray, List.set_cons_zero, List.set_cons_succ, List.getElem_toArray, List.getElem_cons_succ, List.getElem_cons_zero]
        refine wpAnyH_done (by kernel_rfl) ?_ _

        go_wp2
        go_roundw
        case rel => exact ⟨k + 1, by go_num, by omega, N9, B9⟩
        case measure => simp [intOf]; omega
      · have hy' : (y == 4) = false := by simpa using hy
        have EQ := Lib.hid (NN.out hy')
        have N9 := Lib.hid (show wr.ownsRow (w.heap.size + 1) 69 2 _ (paysL (bs.take (k + 1))).length (enCells (paysL (bs.take (k + 1)))) by rw [EQ.out]; exact H1.out)
        clear hy YY NN LE LE' EQ KX KY
        go_wp2
        go_roundw
        case rel => exact ⟨k + 1, by go_num, by omega, N9, H3⟩
        case measure => simp [intOf]; omega
    · have h1' : ¬ (k : Int) < (q : Int) := by omega
      have e : k = q := by omega
      have H9 := H1.out
      rw [e, TK.out] at H9
      have P := Lib.hid (And.intro (own_mono H9 (Nat.le_succ w.heap.size)) H2.out)
      clear H9 H1
      go_wp2
      go_ret
      exact ⟨_, rfl, P.out.1, P.out.2⟩

end Go.Proofs.YtmmikbkgkpnkbaaGreat
namespace Go.Proofs.YtmmikbkgkpnkbaaGreat
open Go.RowKit
set_option linter.unusedVariables false

/-- Rows of pairs, of Bids and of places stay as they are. -/
def KeepG (w w' : World) : Prop := ∀ (b : Nat) (vs : Array Value) (t : TypeId), (t = 111 ∨ t = 60 ∨ t = 115) → w.heap[b]? = some (.cells vs t) → w'.heap[b]? = some (.cells vs t)
theorem KeepG.refl (w : World) : KeepG w w := fun _ _ _ _ h => h
theorem KeepG.trans {u v w : World} (h : KeepG u v) (k : KeepG v w) : KeepG u w := fun b vs t ht g => k b vs t ht (h b vs t ht g)
theorem KeepG.only {w w' : World} {g : Nat} {t : TypeId} {us : Array Value} (ho : Only g w w') (hg : w.heap[g]? = some (.cells us t)) (ht : t ≠ 111 ∧ t ≠ 60 ∧ t ≠ 115) : KeepG w w' := fun b vs t' ht' h => by
  by_cases e : b = g
  · subst e
    rw [hg] at h
    cases h
    rcases ht' with h | h | h
    · exact absurd h ht.1
    · exact absurd h ht.2.1
    · exact absurd h ht.2.2
  · exact (ho.block b (Array.getElem?_eq_some_iff.1 h).1 e).trans h
theorem KeepG.below {w w' : World} (hb : Below w.heap.size w w') : KeepG w w' := fun b vs t _ h => (hb.block b (Array.getElem?_eq_some_iff.1 h).1).trans h
/-- Rows of Bids and of places stay as they are. -/
def KeepB (w w' : World) : Prop := ∀ (b : Nat) (vs : Array Value) (t : TypeId), (t = 60 ∨ t = 115) → w.heap[b]? = some (.cells vs t) → w'.heap[b]? = some (.cells vs t)
theorem KeepG.b {w w' : World} (h : KeepG w w') : KeepB w w' := fun b vs t ht g => h b vs t (.inr ht) g
theorem KeepB.trans {u v w : World} (h : KeepB u v) (k : KeepB v w) : KeepB u w := fun b vs t ht g => k b vs t ht (h b vs t ht g)
theorem KeepB.only {w w' : World} {g : Nat} {us : Array Value} (ho : Only g w w') (hg : w.heap[g]? = some (.cells us 111)) : KeepB w w' := fun b vs t' ht' h => by
  by_cases e : b = g
  · subst e
    rw [hg] at h
    cases h
    rcases ht' with h | h <;> cases h
  · exact (ho.block b (Array.getElem?_eq_some_iff.1 h).1 e).trans h

set_option maxRecDepth 100000 in
set_option maxHeartbeats 1000000 in
theorem mkSG_any (C L b : Nat) (rs : List LSt) (k : Int) (hn : rs.length + totD rs ≤ 1048576) (k0 : 0 ≤ k) (k1 : k ≤ 10000000) (w : World) (h : StM C L w b rs) :
    Calls Tryz.prog 88 #[.slice (some ⟨b, 0, none⟩) rs.length rs.length, .int .i64 k] w fun e w' => e = .returned (.int .i64 (k + 2 * (rs.length : Int) + (totD rs : Int))) ∧ KeepG w w' ∧ Btw C L w w' := by
  have H := Lib.hid h
  have hlo := h.lo
  have hhi := h.hi
  clear h
  have TD := Lib.hid (fun j => totD_le rs j)
  generalize hN : rs.length = n at *
  have HN := Lib.hid hN
  clear hN
  go_enter Tryz.func88, Tryz.ntmps88
  go_wp2
  go_loopw [1, 5] (fun m i wr => ∃ j : Nat, i = .int .i64 j ∧ m = .int .i64 (k + 2 * (j : Int) + (totD (rs.take j) : Int)) ∧ j ≤ n ∧ Hid (StM C L wr b rs) ∧ Hid (KeepG w wr) ∧ Hid (Btw C L w wr)) (fun _ i _ => n - (intOf i).toNat)
  case atStart => exact ⟨0, rfl, by simp [totD], Nat.zero_le _, H, KeepG.refl _, Btw.refl _ _ _⟩
  case round =>
    obtain ⟨j, rfl, rfl, hj, H1, KP, H2⟩ := hrel
    have hj0 : (0 : Int) ≤ (j : Int) := by omega
    by_cases h1 : j < n
    · have h1' : (j : Int) < (n : Int) := by omega
      have hlt : j < rs.length := by rw [HN.out]; exact h1
      have tn := totD_take rs j hlt
      have t1 := TD.out (j + 1)
      obtain ⟨g, us, eg, hg, hus, g1, g2⟩ := H1.out.dom rs[j] (List.getElem_mem hlt)
      obtain ⟨⟨v0, c0⟩, f0⟩ := H1.out.there (j * 3) (by rw [HN.out]; omega)
      obtain ⟨⟨v1, c1⟩, f1⟩ := H1.out.there (j * 3 + 1) (by rw [HN.out]; omega)
      have c2 := H1.out.at j hlt
      rw [eg] at c2
      have TN := Lib.hid tn
      generalize hS : totD (rs.take j) = s at *
      have hz0 : 0 ≤ k + 2 * (j : Int) + (s : Int) ∧ k + 2 * (j : Int) + (s : Int) ≤ 15000000 := by omega
      generalize hZ : k + 2 * (j : Int) + (s : Int) = z at *
      obtain ⟨z0, z1⟩ := hz0
      have O1 := Lib.hid (((Only.refl b wr).setCell (j * 3) (.int .i64 z)).setCell (j * 3 + 1) (.int .i64 (z + 1)))
      have S1 := Lib.hid ((H1.out.kind (j * 3) (fun i => by omega) (.int .i64 z)).kind (j * 3 + 1) (fun i => by omega) (.int .i64 (z + 1)))
      have K1 : Hid (KeepG w ((wr.setCell ⟨b, j * 3, none⟩ (.int .i64 z)).setCell ⟨b, j * 3 + 1, none⟩ (.int .i64 (z + 1)))) := by
        obtain ⟨vs, r1, -, -⟩ := H1.out.row
        exact KP.out.trans (KeepG.only O1.out r1 (by decide))
      have B1 := Lib.hid (H2.out.only O1.out hlo hhi)
      obtain ⟨g', us', eg', hg', hus', -, -⟩ := S1.out.dom rs[j] (List.getElem_mem hlt)
      obtain rfl : g = g' := by rw [eg] at eg'; simpa using eg'
      generalize rs[j].2.2.2.length = q at *
      have M1 := Lib.hid (mark_some g q us'.size q (z + 1 + 1) (by omega) (by omega) (by omega) (by omega) _ ⟨us', hg', rfl, fun i hi => absurd hi (Nat.not_lt_zero _)⟩)
      have HG := Lib.hid hg'
      have ZE := Lib.hid hZ
      clear hg hg' hus hus' eg eg' hlt O1 H1 tn hS hZ
      go_wp2_with fail
      refine M1.out.mono ?_
      rintro e w2 ⟨rfl, ⟨us2, m1, m2, -⟩, o2⟩
      have S2 := Lib.hid (S1.out.rowed us' us2 HG.out m1 m2 o2)
      have K2 := Lib.hid (K1.out.trans (KeepG.only o2 HG.out (by decide)))
      have B2 := Lib.hid (B1.out.only o2 g1 g2)
      clear m1 m2 o2 M1 S1 K1 B1 HG KP H2
      go_wp2
      go_roundw
      case rel => exact ⟨j + 1, by go_num, by have t9 := TN.out; have z9 := ZE.out; rw [t9]; congr 1; push_cast; omega, by omega, S2, K2, B2⟩
      case measure => simp [intOf]; omega
    · have h1' : ¬ (j : Int) < (n : Int) := by omega
      have P := Lib.hid (show (k + 2 * (j : Int) + (totD (rs.take j) : Int)) = k + 2 * (n : Int) + (totD rs : Int) ∧ KeepG w wr ∧ Btw C L w wr from by
        refine ⟨?_, KP.out, H2.out⟩
        rw [List.take_of_length_le (by rw [HN.out]; omega)]
        omega)
      clear KP H2 H1
      go_wp2
      go_ret
      exact ⟨by rw [← P.out.1]; rfl, P.out.2.1, P.out.2.2⟩

/-- A row of m Bids. -/
def BdM (w : World) (b m : Nat) : Prop := ∃ vs : Array Value, w.heap[b]? = some (.cells vs 60) ∧ vs.size = m * 3
theorem BdM.set {w : World} {b m : Nat} (h : BdM w b m) (o : Nat) (v : Value) : BdM (w.setCell ⟨b, o, none⟩ v) b m := by
  obtain ⟨vs, h1, h2⟩ := h
  exact ⟨_, heap_setCell_same w b o vs 60 v h1, by simp [h2]⟩
theorem BdM.there {w : World} {b m : Nat} (h : BdM w b m) (j : Nat) (hj : j < m * 3) : (∃ v, w.cell? ⟨b, j, none⟩ = some v) ∧ w.frozen? ⟨b, j, none⟩ = false := by
  obtain ⟨vs, h1, h2⟩ := h
  exact ⟨⟨vs[j]'(by omega), by simp [World.cell?, h1, show j < vs.size by omega]⟩, by simp [World.frozen?, h1]⟩

set_option maxRecDepth 100000 in
set_option maxHeartbeats 1000000 in
theorem mkB_any (b m : Nat) (k : Int) (hn : m ≤ 1048576) (k0 : 0 ≤ k) (k1 : k ≤ 20000000) (w : World) (h : BdM w b m) :
    Calls Tryz.prog 66 #[.slice (some ⟨b, 0, none⟩) m m, .int .i64 k] w fun e w' => e = .returned (.int .i64 (k + 3 * (m : Int))) ∧ Only b w w' := by
  have H := Lib.hid h
  clear h
  go_enter Tryz.func66, Tryz.ntmps66
  go_wp2
  go_loopw [1, 5] (fun v i wr => ∃ j : Nat, i = .int .i64 j ∧ v = .int .i64 (k + 3 * (j : Int)) ∧ j ≤ m ∧ Hid (BdM wr b m) ∧ Hid (Only b w wr)) (fun _ i _ => m - (intOf i).toNat)
  case atStart => exact ⟨0, rfl, by simp, Nat.zero_le _, H, Only.refl _ _⟩
  case round =>
    obtain ⟨j, rfl, rfl, hj, H1, H2⟩ := hrel
    have hj0 : (0 : Int) ≤ (j : Int) := by omega
    by_cases h1 : j < m
    · have h1' : (j : Int) < (m : Int) := by omega
      obtain ⟨⟨v0, c0⟩, f0⟩ := H1.out.there (j * 3) (by omega)
      obtain ⟨⟨v1, c1⟩, f1⟩ := H1.out.there (j * 3 + 1) (by omega)
      obtain ⟨⟨v2, c2⟩, f2⟩ := H1.out.there (j * 3 + 2) (by omega)
      have S2 := Lib.hid (((H1.out.set (j * 3) (.int .i64 (k + 3 * (j : Int)))).set (j * 3 + 1) (.int .i64 (k + 3 * (j : Int) + 1))).set (j * 3 + 2) (.int .i64 (k + 3 * (j : Int) + 1 + 1)))
      have B2 := Lib.hid (((H2.out.setCell (j * 3) (.int .i64 (k + 3 * (j : Int)))).setCell (j * 3 + 1) (.int .i64 (k + 3 * (j : Int) + 1))).setCell (j * 3 + 2) (.int .i64 (k + 3 * (j : Int) + 1 + 1)))
      clear H1 H2
      go_wp2
      go_roundw
      case rel => exact ⟨j + 1, by go_num, by congr 1; push_cast; omega, by omega, S2, B2⟩
      case measure => simp [intOf]; omega
    · have h1' : ¬ (j : Int) < (m : Int) := by omega
      have P := Lib.hid (show (k + 3 * (j : Int)) = k + 3 * (m : Int) by omega)
      go_wp2
      go_ret
      exact ⟨by rw [← P.out]; rfl, H2.out⟩

set_option maxRecDepth 100000 in
set_option maxHeartbeats 1000000 in
/-- markTable. -/
theorem mkTG_any (C L b1 b2 : Nat) (rs : List LSt) (m : Nat) (hn : rs.length + totD rs + m ≤ 1048576) (w : World) (h : StM C L w b1 rs) (h2 : PrM w b2 m) (l1 : C ≤ b2) (l2 : b2 < L) (hL : L ≤ w.heap.size) :
    Calls Tryz.prog 65 #[TV (some ⟨b1, 0, none⟩) rs.length rs.length (some ⟨b2, 0, none⟩) m m, .int .i64 1] w fun e w' => ∃ k : Int, (0 ≤ k ∧ k ≤ 4000000) ∧ e = .returned (.int .i64 k) ∧ Btw C L w w' ∧ KeepB w w' := by
  have E1 := Lib.hid (mkSG_any C L b1 rs 1 (by omega) (by omega) (by omega) _ (h.below (bA0 w (.cells #[.slice (some ⟨b1, 0, none⟩) rs.length rs.length, .slice (some ⟨b2, 0, none⟩) m m] 38))))
  have E2 : Hid (∀ (k : Int) (W : World), 0 ≤ k → k ≤ 20000000 → PrM W b2 m → Calls Tryz.prog 89 #[.slice (some ⟨b2, 0, none⟩) m m, .int .i64 k] W fun e w' => e = .returned (.int .i64 (k + 3 * (m : Int))) ∧ Only b2 W w') := fun k W a b c => mkP_any b2 m k (by omega) a b W c
  have PM := Lib.hid h2
  have HT := Lib.hid (TabAt.new w (some ⟨b1, 0, none⟩) rs.length rs.length (some ⟨b2, 0, none⟩) m m)
  have hK : (0 : Int) ≤ 1 + 2 * (rs.length : Int) + (totD rs : Int) ∧ 1 + 2 * (rs.length : Int) + (totD rs : Int) ≤ 20000000 ∧ 1 + 2 * (rs.length : Int) + (totD rs : Int) + 3 * (m : Int) ≤ 4000000 := by omega
  clear h h2
  generalize 1 + 2 * (rs.length : Int) + (totD rs : Int) = k at *
  generalize rs.length = n at *
  obtain ⟨k0, k1, k2⟩ := hK
  go_enter Tryz.func65, Tryz.ntmps65
  go_wp2_with fail
  refine E1.out.mono ?_
  rintro e w1 ⟨rfl, kp, b1'⟩
  have PM1 : Hid (PrM w1 b2 m) := by
    obtain ⟨vs, q1, q2⟩ := PM.out
    exact ⟨vs, kp _ _ 111 (.inl rfl) (KeepG.below (bA0 w _) _ _ 111 (.inl rfl) q1), q2⟩
  have KB1 := Lib.hid ((KeepG.below (bA0 w _)).b.trans kp.b)
  have T1 := Lib.hid ((b1'.block w.heap.size (by simp) (.inr hL)).trans HT.out)
  have B1 := Lib.hid ((Btw.alloc (B := C) (L := L) w _).trans b1')
  have tl : w.heap.size < w1.heap.size := (Array.getElem?_eq_some_iff.1 T1.out).1
  obtain ⟨t0, t1⟩ := TabAt.cells (show TabAt w1 w.heap.size (some ⟨b1, 0, none⟩) n n (some ⟨b2, 0, none⟩) m m from T1.out)
  clear kp b1' E1 HT PM
  go_wp2_with fail
  refine (E2.out _ _ k0 k1 PM1.out).mono ?_
  rintro e w2 ⟨rfl, o2⟩
  have P := Lib.hid (And.intro (B1.out.only o2 l1 l2) (KB1.out.trans (KeepB.only o2 PM1.out.choose_spec.1)))
  have hq : (0 : Int) ≤ k + 3 * (m : Int) ∧ k + 3 * (m : Int) ≤ 4000000 := ⟨by omega, k2⟩
  clear k2
  clear o2 PM1 T1 B1 E2 t0 t1
  generalize k + 3 * (m : Int) = q at *
  go_wp2
  go_ret
  exact ⟨_, hq, rfl, P.out⟩

theorem Row2.plM {w : World} {b n : Nat} {ts : List LPl} (h : Row2 w b n ts) : PlM w b n := by
  obtain ⟨vs, h1, h2, _⟩ := h
  exact ⟨vs, h1, by omega⟩
set_option maxRecDepth 100000 in
set_option maxHeartbeats 2000000 in
/-- markClock. -/
theorem mkC_any (C L b1 b2 b3 b4 : Nat) (top pr st bu : Int) (rs : List LSt) (m q p : Nat) (hn : rs.length + totD rs + m + q + p ≤ 1048576) (w : World) (h : StM C L w b1 rs) (h2 : PrM w b2 m) (h3 : BdM w b3 q) (h4 : PlM w b4 p) (l1 : C ≤ b2) (l2 : b2 < L) (l3 : C ≤ b3) (l4 : b3 < L) (l5 : C ≤ b4) (l6 : b4 < L) (hL : L ≤ w.heap.size) :
    Calls Tryz.prog 35 #[CV (some ⟨b1, 0, none⟩) rs.length rs.length (some ⟨b2, 0, none⟩) m m top pr st bu (some ⟨b3, 0, none⟩) q q (some ⟨b4, 0, none⟩) p p, .int .i64 1] w fun e w' => ∃ k : Int, (0 ≤ k ∧ k ≤ 30000000) ∧ e = .returned (.int .i64 k) ∧ Btw C L w w' := by
  have E1 := Lib.hid (fun o => mkTG_any C L b1 b2 rs m (by omega) (w.alloc o) (h.below (bA0 w o)) (by obtain ⟨vs, a, b⟩ := h2; exact ⟨vs, (Below.heap_alloc _ _ _ (Array.getElem?_eq_some_iff.1 a).1).trans a, b⟩) l1 l2 (by simp; omega))
  have E2 : Hid (∀ (k : Int) (W : World), 0 ≤ k → k ≤ 20000000 → BdM W b3 q → Calls Tryz.prog 66 #[.slice (some ⟨b3, 0, none⟩) q q, .int .i64 k] W fun e w' => e = .returned (.int .i64 (k + 3 * (q : Int))) ∧ Only b3 W w') := fun k W a b c => mkB_any b3 q k (by omega) a b W c
  have E3 : Hid (∀ (k : Int) (W : World), 0 ≤ k → k ≤ 20000000 → PlM W b4 p → Calls Tryz.prog 67 #[.slice (some ⟨b4, 0, none⟩) p p, .int .i64 k] W fun e w' => e = .returned (.int .i64 (k + 2 * (p : Int))) ∧ Only b4 W w') := fun k W a b c => mkPl_any b4 p k (by omega) a b W c
  have BM := Lib.hid h3
  have PM := Lib.hid h4
  have hqq : (q : Int) ≤ 1048576 := by omega
  have hpp : (p : Int) ≤ 1048576 := by omega
  clear h h2 h3 h4 hn
  generalize rs.length = n at *
  have N0 := Lib.hid (new_at w (.cells (CC (some ⟨b1, 0, none⟩) n n (some ⟨b2, 0, none⟩) m m top pr st bu (some ⟨b3, 0, none⟩) q q (some ⟨b4, 0, none⟩) p p) 42))
  go_enter Tryz.func35, Tryz.ntmps35
  go_wp2_with fail
  refine (E1.out _).mono ?_
  rintro e w1 ⟨k, ⟨k0, k1⟩, rfl, b1', kb⟩
  have K1 := Lib.hid ((KeepG.below (bA0 w _)).b.trans kb)
  have T1 := Lib.hid ((b1'.block w.heap.size (by simp) (.inr hL)).trans N0.out)
  have B1 := Lib.hid ((Btw.alloc (B := C) (L := L) w _).trans b1')
  have BM1 : Hid (BdM w1 b3 q) := by
    obtain ⟨vs, q1, q2⟩ := BM.out
    exact ⟨vs, K1.out _ _ 60 (.inl rfl) q1, q2⟩
  have PM1 : Hid (∃ vs : Array Value, w1.heap[b4]? = some (.cells vs 115) ∧ p * 2 ≤ vs.size) := by
    obtain ⟨vs, q1, q2⟩ := PM.out
    exact ⟨vs, K1.out _ _ 115 (.inr rfl) q1, q2⟩
  obtain ⟨c0, c1, c2, c3, c4, c5, c6, c7, cf, cl⟩ := cells8 T1.out
  clear b1' kb E1 N0 BM PM K1
  go_wp2_with fail
  refine (E2.out _ _ k0 (by omega) BM1.out).mono ?_
  rintro e w2 ⟨rfl, o2⟩
  have B2 := Lib.hid (B1.out.only o2 l3 l4)
  have T2 := Lib.hid ((o2.block w.heap.size cl (by omega)).trans T1.out)
  have PM2 : Hid (PlM w2 b4 p) := by
    obtain ⟨vs, q1, q2⟩ := PM1.out
    obtain ⟨us, r1, r2⟩ := BM1.out
    refine ⟨vs, (o2.block b4 (Array.getElem?_eq_some_iff.1 q1).1 (fun e => ?_)).trans q1, q2⟩
    subst e
    rw [q1] at r1
    cases r1
  have hk2 : 0 ≤ k + 3 * (q : Int) ∧ k + 3 * (q : Int) ≤ 20000000 := by omega
  clear o2 PM1 T1 B1 E2 c0 c1 c2 c3 c4 c5 c6 c7 cf cl BM1
  generalize k + 3 * (q : Int) = y at *
  obtain ⟨y0, y1⟩ := hk2
  obtain ⟨c0, c1, c2, c3, c4, c5, c6, c7, cf, cl⟩ := cells8 T2.out
  go_wp2_with fail
  refine (E3.out _ _ y0 y1 PM2.out).mono ?_
  rintro e w3 ⟨rfl, o3⟩
  have P := Lib.hid (B2.out.only o3 l5 l6)
  have hq : (0 : Int) ≤ y + 2 * (p : Int) ∧ y + 2 * (p : Int) ≤ 30000000 := by omega
  clear o3 PM2 T2 B2 E3 c0 c1 c2 c3 c4 c5 c6 c7 cf cl
  generalize y + 2 * (p : Int) = z at *
  go_wp2
  go_ret
  exact ⟨_, hq, rfl, P.out⟩


theorem Btw.wide {B L L' : Nat} {w w' : World} (h : Btw B L w w') (hl : L ≤ L') : Btw B L' w w' := ⟨h.os, h.tape, h.output, h.size, fun k hk g => h.block k hk (by omega)⟩

/-- The parts of a stage's clock lie below its tops. -/
structure StA (C : Nat) (w : World) (b1 b2 b3 b4 b5 : Nat) (rs : List LSt) : Prop where
  st : StM C b5 w b1 rs
  l2 : b2 < b5
  l3 : b3 < b5
  l4 : b4 < b5
theorem StM.frameH {C L X : Nat} {w w' : World} {b : Nat} {rs : List LSt} (h : StM C L w b rs) (hb : X < b) (hg : ∀ r ∈ rs, ∃ g, r.2.2.1 = .slice (some ⟨g, 0, none⟩) r.2.2.2.length r.2.2.2.length ∧ X < g) (hf : ∀ c, X < c → w'.heap[c]? = w.heap[c]?) : StM C L w' b rs := by
  refine ⟨?_, fun r hr => ?_, h.lo, h.hi⟩
  · obtain ⟨vs, h1, h2⟩ := h.row
    exact ⟨vs, (hf b hb).trans h1, h2⟩
  · obtain ⟨g, us, e, hz, k⟩ := h.dom r hr
    obtain ⟨g', e', hx⟩ := hg r hr
    obtain rfl : g = g' := by rw [e] at e'; simpa using e'
    exact ⟨g, us, e, (hf g hx).trans hz, k⟩
set_option maxRecDepth 100000 in
set_option maxHeartbeats 4000000 in
/-- toStage. -/
theorem toSgM_any (sl : Option Addr) (cap : Nat) (tl : Option Addr) (kap : Nat) (top pr st bu : Int) (bl : Option Addr) (cb : Nat) (pl : Option Addr) (cp : Nat) (ul : Option Addr) (cu : Nat) (ai fx : Int) (gc gf : Bool) (rs : List LSt) (ps : List LPr) (bs : List LPr) (ls : List LPl) (us : List Int) (w : World) (hn : rs.length ≤ 1048576) (hm : ps.length ≤ 1048576) (hq : bs.length ≤ 1048576) (hl : ls.length ≤ 1048576) (hu : us.length ≤ 1048576) (hz : Sts w sl rs) (hp : Prs w tl ps) (hbs : Prs w bl bs) (hls : Pls w pl ls) (hus : Ints w ul us) :
    Calls Tryz.prog 8 #[SgV sl rs.length cap tl ps.length kap top pr st bu bl bs.length cb pl ls.length cp ul us.length cu ai fx gc gf] w fun e w' => ∃ b1 b2 b3 b4 b5 rs', e = .returned (SgV (some ⟨b1, 0, none⟩) rs.length rs.length (some ⟨b2, 0, none⟩) ps.length ps.length top pr st bu (some ⟨b3, 0, none⟩) bs.length bs.length (some ⟨b4, 0, none⟩) ls.length ls.length (some ⟨b5, 0, none⟩) us.length us.length ai fx gc gf) ∧ bareS rs' = bareS rs ∧ OwnSg w.heap.size w' b1 b2 b3 b4 b5 rs' ps bs ls us ∧ StA w.heap.size w' b1 b2 b3 b4 b5 rs' ∧ Below w.heap.size w w' := by
  have E1 : Hid (∀ W, Below w.heap.size w W → Calls Tryz.prog 24 #[CV sl rs.length cap tl ps.length kap top pr st bu bl bs.length cb pl ls.length cp] W fun e w' => ∃ b1 b2 b3 b4 rs', e = .returned (CV (some ⟨b1, 0, none⟩) rs.length rs.length (some ⟨b2, 0, none⟩) ps.length ps.length top pr st bu (some ⟨b3, 0, none⟩) bs.length bs.length (some ⟨b4, 0, none⟩) ls.length ls.length) ∧ bareS rs' = bareS rs ∧ OwnC W.heap.size w' b1 b2 b3 b4 rs' ps bs ls ∧ Below W.heap.size W w') := fun W hW => toC_any sl cap tl kap top pr st bu bl cb pl cp rs ps bs ls W hn hm hq hl (hz.below hW) (hp.below hW) (hbs.below hW) (hls.below hW)
  have E2 : Hid (∀ W, Below w.heap.size w W → Calls Tryz.prog 25 #[.slice ul us.length cu] W fun e w' => e = .returned (.slice (some ⟨W.heap.size, 0, none⟩) us.length us.length) ∧ RowZ w' W.heap.size us ∧ Below W.heap.size W w') := fun W hW => toO_any ul cu us W hu (hus.below hW)
  clear hz hp hbs hls hus
  generalize rs.length = n at *
  generalize ps.length = m at *
  generalize bs.length = q at *
  generalize ls.length = p at *
  generalize us.length = u at *
  go_enter Tryz.func8, Tryz.ntmps8
  go_wp2_with fail
  refine (E1.out _ (bA (bA (bA0 _ _) _) _)).mono ?_
  rintro e w1 ⟨b1, b2, b3, b4, rs', rfl, eb, t1, bb1⟩
  obtain ⟨n0, n1, n2, n3⟩ := three_new w (.cells (SgC sl n cap tl m kap top pr st bu bl q cb pl p cp ul u cu ai fx gc gf) 32) (.cells (SgC none 0 0 none 0 0 0 0 0 0 none 0 0 none 0 0 none 0 0 0 0 false false) 44) (.cells (SgC none 0 0 none 0 0 0 0 0 0 none 0 0 none 0 0 none 0 0 0 0 false false) 44)
  have BB := Lib.hid (bT (bA (bA (bA0 w (.cells (SgC sl n cap tl m kap top pr st bu bl q cb pl p cp ul u cu ai fx gc gf) 32)) (.cells (SgC none 0 0 none 0 0 0 0 0 0 none 0 0 none 0 0 none 0 0 0 0 false false) 44)) (.cells (SgC none 0 0 none 0 0 0 0 0 0 none 0 0 none 0 0 none 0 0 0 0 false false) 44)) bb1)
  rw [n3] at t1 bb1
  have hz := bb1.size
  rw [n3] at hz
  have m0 := (bb1.block w.heap.size (by omega)).trans n0
  have m1 := (bb1.block (w.heap.size + 1) (by omega)).trans n1
  have m2 := (bb1.block (w.heap.size + 1 + 1) (by omega)).trans n2
  have T1 := Lib.hid t1
  have SA := Lib.hid (show StM w.heap.size w1.heap.size w1 b1 rs' ∧ b2 < w1.heap.size ∧ b3 < w1.heap.size ∧ b4 < w1.heap.size from ⟨(t1.lower (D := w.heap.size) (by omega)).t.stM, t1.t.r2.lt, t1.r3.lt, t1.r4.lt⟩)
  have LO := Lib.hid (show w.heap.size + 1 + 1 < b1 ∧ ∀ r ∈ rs', ∃ g, r.2.2.1 = .slice (some ⟨g, 0, none⟩) r.2.2.2.length r.2.2.2.length ∧ w.heap.size + 1 + 1 < g from ⟨by have := t1.t.lo1; omega, fun r hr => by obtain ⟨g, e, _, hg, _⟩ := t1.t.dom r hr; exact ⟨g, e, by have := t1.t.lo1; omega⟩⟩)
  have EB := Lib.hid eb
  clear t1 bb1 eb n0 n1 n2 n3
  obtain ⟨c0, c1, c2, c3, c4, c5, c6, c7, c8, c9, c10, c11, c12, cf, cl⟩ := cells13 m0
  obtain ⟨d0, d1, d2, d3, d4, d5, d6, d7, d8, d9, d10, d11, d12, df, dl⟩ := cells13 m2
  have M0 := Lib.hid m0
  have M1 := Lib.hid m1
  have M2 := Lib.hid (setS8 m2 (.slice (some ⟨b1, 0, none⟩) n n) (.slice (some ⟨b2, 0, none⟩) m m) (.int .i64 top) (.int .i64 pr) (.int .i64 st) (.int .i64 bu) (.slice (some ⟨b3, 0, none⟩) q q) (.slice (some ⟨b4, 0, none⟩) p p))
  have O2 := Lib.hid (fun c hc => setS8_other (w := w1) (b := w.heap.size + 1 + 1) (c := c) hc (.slice (some ⟨b1, 0, none⟩) n n) (.slice (some ⟨b2, 0, none⟩) m m) (.int .i64 top) (.int .i64 pr) (.int .i64 st) (.int .i64 bu) (.slice (some ⟨b3, 0, none⟩) q q) (.slice (some ⟨b4, 0, none⟩) p p))
  have hle : w.heap.size ≤ (⟨w.heap.size + 1 + 1, 0, none⟩ : Addr).block := by show w.heap.size ≤ w.heap.size + 1 + 1; omega
  have B1 := Lib.hid (((((((((BB.out.setCell (p := ⟨w.heap.size + 1 + 1, 0, none⟩) hle (.slice (some ⟨b1, 0, none⟩) n n)).setCell (p := ⟨w.heap.size + 1 + 1, 1, none⟩) hle (.slice (some ⟨b2, 0, none⟩) m m)).setCell (p := ⟨w.heap.size + 1 + 1, 2, none⟩) hle (.int .i64 top)).setCell (p := ⟨w.heap.size + 1 + 1, 3, none⟩) hle (.int .i64 pr)).setCell (p := ⟨w.heap.size + 1 + 1, 4, none⟩) hle (.int .i64 st)).setCell (p := ⟨w.heap.size + 1 + 1, 5, none⟩) hle (.int .i64 bu)).setCell (p := ⟨w.heap.size + 1 + 1, 6, none⟩) hle (.slice (some ⟨b3, 0, none⟩) q q)).setCell (p := ⟨w.heap.size + 1 + 1, 7, none⟩) hle (.slice (some ⟨b4, 0, none⟩) p p)))
  have hsz : ((((((((w1.setCell ⟨w.heap.size + 1 + 1, 0, none⟩ (.slice (some ⟨b1, 0, none⟩) n n)).setCell ⟨w.heap.size + 1 + 1, 1, none⟩ (.slice (some ⟨b2, 0, none⟩) m m)).setCell ⟨w.heap.size + 1 + 1, 2, none⟩ (.int .i64 top)).setCell ⟨w.heap.size + 1 + 1, 3, none⟩ (.int .i64 pr)).setCell ⟨w.heap.size + 1 + 1, 4, none⟩ (.int .i64 st)).setCell ⟨w.heap.size + 1 + 1, 5, none⟩ (.int .i64 bu)).setCell ⟨w.heap.size + 1 + 1, 6, none⟩ (.slice (some ⟨b3, 0, none⟩) q q)).setCell ⟨w.heap.size + 1 + 1, 7, none⟩ (.slice (some ⟨b4, 0, none⟩) p p)).heap.size = w1.heap.size := setS_size _ _ _ _ _ _ _ _
  clear m0 m1 m2 BB hle
  go_wp2_with fail
  refine (E2.out _ B1.out).mono ?_
  rintro e w2 ⟨rfl, r2, bb2⟩
  rw [hsz] at r2 ⊢
  have b2s := bb2.size
  have k1 := (bb2.block (w.heap.size + 1) (by rw [hsz]; omega)).trans ((O2.out _ (by omega)).trans M1.out)
  have k0 := (bb2.block w.heap.size (by rw [hsz]; omega)).trans ((O2.out _ (by omega)).trans M0.out)
  have k2 := (bb2.block (w.heap.size + 1 + 1) (by rw [hsz]; omega)).trans M2.out
  have T2 := Lib.hid ((T1.out.frame (fun c hc => O2.out c (by omega))).below bb2)
  have SB := Lib.hid (show StM w.heap.size w1.heap.size w2 b1 rs' from (SA.out.1.frameH LO.out.1 LO.out.2 (fun c hc => O2.out c (by omega))).below bb2)
  have R2 := Lib.hid r2
  have B2 := Lib.hid (bT B1.out bb2)
  rw [hsz] at b2s
  clear T1 M0 M1 M2 O2 B1 r2 bb2 hsz c0 c1 c2 c3 c4 c5 c6 c7 c8 c9 c10 c11 c12 cf cl d0 d1 d2 d3 d4 d5 d6 d7 d8 d9 d10 d11 d12 df dl
  generalize w1.heap.size = b5 at *
  obtain ⟨c0, c1, c2, c3, c4, c5, c6, c7, c8, c9, c10, c11, c12, cf, cl⟩ := cells13 k0
  obtain ⟨d0, d1, d2, d3, d4, d5, d6, d7, d8, d9, d10, d11, d12, df, dl⟩ := cells13 k2
  have fl := (cells13 k1).2.2.2.2.2.2.2.2.2.2.2.2.2
  obtain ⟨f0, f1, f2, f3, f4, f5, f6, f7, f8, f9, f10, f11, f12, -, -⟩ := cells13 k1
  obtain ⟨ff, fg⟩ := fl
  have O9 := Lib.hid (fun (c : Nat) (h : c ≠ w.heap.size + 1) (h' : c ≠ w.heap.size + 1 + 1) => setS17_other (w := w2) h h' (.slice (some ⟨b5, 0, none⟩) u u) (.int .i64 ai) (.int .i64 fx) (.bool gc) (.bool gf) (.slice (some ⟨b1, 0, none⟩) n n) (.slice (some ⟨b2, 0, none⟩) m m) (.int .i64 top) (.int .i64 pr) (.int .i64 st) (.int .i64 bu) (.slice (some ⟨b3, 0, none⟩) q q) (.slice (some ⟨b4, 0, none⟩) p p) (.slice (some ⟨b5, 0, none⟩) u u) (.int .i64 ai) (.int .i64 fx) (.bool gc) (.bool gf))
  have hle : w.heap.size ≤ w.heap.size + 1 := by omega
  have hle2 : w.heap.size ≤ w.heap.size + 1 + 1 := by omega
  have B9 := Lib.hid (((((((((((((((((((B2.out.setCell (p := ⟨w.heap.size + 1 + 1, 8, none⟩) hle2 (.slice (some ⟨b5, 0, none⟩) u u)).setCell (p := ⟨w.heap.size + 1 + 1, 9, none⟩) hle2 (.int .i64 ai)).setCell (p := ⟨w.heap.size + 1 + 1, 10, none⟩) hle2 (.int .i64 fx)).setCell (p := ⟨w.heap.size + 1 + 1, 11, none⟩) hle2 (.bool gc)).setCell (p := ⟨w.heap.size + 1 + 1, 12, none⟩) hle2 (.bool gf)).setCell (p := ⟨w.heap.size + 1, 0, none⟩) hle (.slice (some ⟨b1, 0, none⟩) n n)).setCell (p := ⟨w.heap.size + 1, 1, none⟩) hle (.slice (some ⟨b2, 0, none⟩) m m)).setCell (p := ⟨w.heap.size + 1, 2, none⟩) hle (.int .i64 top)).setCell (p := ⟨w.heap.size + 1, 3, none⟩) hle (.int .i64 pr)).setCell (p := ⟨w.heap.size + 1, 4, none⟩) hle (.int .i64 st)).setCell (p := ⟨w.heap.size + 1, 5, none⟩) hle (.int .i64 bu)).setCell (p := ⟨w.heap.size + 1, 6, none⟩) hle (.slice (some ⟨b3, 0, none⟩) q q)).setCell (p := ⟨w.heap.size + 1, 7, none⟩) hle (.slice (some ⟨b4, 0, none⟩) p p)).setCell (p := ⟨w.heap.size + 1, 8, none⟩) hle (.slice (some ⟨b5, 0, none⟩) u u)).setCell (p := ⟨w.heap.size + 1, 9, none⟩) hle (.int .i64 ai)).setCell (p := ⟨w.heap.size + 1, 10, none⟩) hle (.int .i64 fx)).setCell (p := ⟨w.heap.size + 1, 11, none⟩) hle (.bool gc)).setCell (p := ⟨w.heap.size + 1, 12, none⟩) hle (.bool gf)))
  have PA := Lib.hid (show StA w.heap.size _ b1 b2 b3 b4 b5 rs' from ⟨SB.out.frameH LO.out.1 LO.out.2 (fun c hc => O9.out c (by omega) (by omega)), SA.out.2.1, SA.out.2.2.1, SA.out.2.2.2⟩)
  have P := Lib.hid (show OwnSg w.heap.size _ b1 b2 b3 b4 b5 rs' ps bs ls us from ⟨(T2.out.frame (fun c hc => O9.out c (by omega) (by omega))).lower (by omega), R2.out.frame (O9.out b5 (by omega) (by omega)), by omega⟩)
  clear T2 R2 B2 O9 SA SB LO hle hle2 k0 k1 k2
  go_wp2
  refine bodyPost_ret (v := SgV (some ⟨b1, 0, none⟩) n n (some ⟨b2, 0, none⟩) m m top pr st bu (some ⟨b3, 0, none⟩) q q (some ⟨b4, 0, none⟩) p p (some ⟨b5, 0, none⟩) u u ai fx gc gf) (by simp [results, Tryz.results8, go_sem, f0, f1, f2, f3, f4, f5, f6, f7, f8, f9, f10, f11, f12]) rfl ⟨b1, b2, b3, b4, b5, rs', rfl, EB.out, P.out, PA.out, B9.out⟩

set_option maxRecDepth 100000 in
set_option maxHeartbeats 2000000 in
/-- markStage. -/
theorem mkSg_any (C b1 b2 b3 b4 b5 : Nat) (top pr st bu ai fx : Int) (gc gf : Bool) (rs : List LSt) (m q p : Nat) (us : List Int) (hn : rs.length + totD rs + m + q + p + us.length ≤ 1048576) (w : World) (h : StM C b5 w b1 rs) (h2 : PrM w b2 m) (h3 : BdM w b3 q) (h4 : PlM w b4 p) (h5 : RowZ w b5 us) (l1 : C ≤ b2) (l2 : b2 < b5) (l3 : C ≤ b3) (l4 : b3 < b5) (l5 : C ≤ b4) (l6 : b4 < b5) (l7 : C ≤ b5) :
    Calls Tryz.prog 14 #[SgV (some ⟨b1, 0, none⟩) rs.length rs.length (some ⟨b2, 0, none⟩) m m top pr st bu (some ⟨b3, 0, none⟩) q q (some ⟨b4, 0, none⟩) p p (some ⟨b5, 0, none⟩) us.length us.length ai fx gc gf, .int .i64 1] w fun e w' => ∃ k : Int, 0 ≤ k ∧ e = .returned (.int .i64 k) ∧ Btw C (b5 + 1) w w' := by
  have hb5 : b5 < w.heap.size := h5.lt
  have E1 := Lib.hid (fun o => mkC_any C b5 b1 b2 b3 b4 top pr st bu rs m q p (by omega) (w.alloc o) (h.below (bA0 w o)) (by obtain ⟨vs, a, b⟩ := h2; exact ⟨vs, (Below.heap_alloc _ _ _ (Array.getElem?_eq_some_iff.1 a).1).trans a, b⟩) (by obtain ⟨vs, a, b⟩ := h3; exact ⟨vs, (Below.heap_alloc _ _ _ (Array.getElem?_eq_some_iff.1 a).1).trans a, b⟩) (by obtain ⟨vs, a, b⟩ := h4; exact ⟨vs, (Below.heap_alloc _ _ _ (Array.getElem?_eq_some_iff.1 a).1).trans a, b⟩) l1 l2 l3 l4 l5 l6 (by simp; omega))
  have E2 : Hid (∀ (k : Int) (W : World), 0 ≤ k → k ≤ 1000000000 → RowZ W b5 us → Calls Tryz.prog 36 #[.slice (some ⟨b5, 0, none⟩) us.length us.length, .int .i64 k] W fun e w' => e = .returned (.int .i64 (k + (us.length : Int))) ∧ Only b5 W w') := fun k W a b c => (mark_some b5 us.length us.length us.length k (by omega) (Nat.le_refl _) a b W ⟨_, c, vs_size _ _ (Nat.le_refl _), fun j hj => absurd hj (Nat.not_lt_zero _)⟩).mono fun e w' ⟨h1, _, h2⟩ => ⟨h1, h2⟩
  have RZ := Lib.hid h5
  have huu : (us.length : Int) ≤ 1048576 := by omega
  clear h h2 h3 h4 h5 hn
  generalize rs.length = n at *
  generalize us.length = u at *
  have N0 := Lib.hid (new_at w (.cells (SgC (some ⟨b1, 0, none⟩) n n (some ⟨b2, 0, none⟩) m m top pr st bu (some ⟨b3, 0, none⟩) q q (some ⟨b4, 0, none⟩) p p (some ⟨b5, 0, none⟩) u u ai fx gc gf) 44))
  have R0 := Lib.hid (RZ.out.below (bA0 w (.cells (SgC (some ⟨b1, 0, none⟩) n n (some ⟨b2, 0, none⟩) m m top pr st bu (some ⟨b3, 0, none⟩) q q (some ⟨b4, 0, none⟩) p p (some ⟨b5, 0, none⟩) u u ai fx gc gf) 44)))
  go_enter Tryz.func14, Tryz.ntmps14
  go_wp2_with fail
  refine (E1.out _).mono ?_
  rintro e w1 ⟨k, ⟨k0, k1⟩, rfl, b1'⟩
  have T1 := Lib.hid ((b1'.block w.heap.size (by simp) (.inr (by omega))).trans N0.out)
  have R1 : Hid (RowZ w1 b5 us) := R0.out.frame (b1'.block b5 (by simp; omega) (.inr (Nat.le_refl _)))
  have B1 := Lib.hid (((Btw.alloc (B := C) (L := b5) w _).trans b1').wide (L' := b5 + 1) (by omega))
  obtain ⟨c0, c1, c2, c3, c4, c5, c6, c7, c8, c9, c10, c11, c12, cf, cl⟩ := cells13 T1.out
  clear b1' E1 N0 R0 RZ
  go_wp2_with fail
  refine (E2.out _ _ k0 (by omega) R1.out).mono ?_
  rintro e w2 ⟨rfl, o2⟩
  have P := Lib.hid (B1.out.only o2 l7 (by omega))
  have hq : (0 : Int) ≤ k + (u : Int) := by omega
  clear o2 T1 B1 E2 R1 c0 c1 c2 c3 c4 c5 c6 c7 c8 c9 c10 c11 c12 cf cl
  generalize k + (u : Int) = z at *
  go_wp2
  go_ret
  exact ⟨_, hq, rfl, P.out⟩

end Go.Proofs.YtmmikbkgkpnkbaaGreat
namespace Go.Proofs.YtmmikbkgkpnkbaaGreat
open Go.RowKit
set_option linter.unusedVariables false

theorem pls_ofp {w : World} {sl : Option Addr} {B : Nat} {pl : List LPl} (h : pl = [] ∨ ∃ c, sl = some ⟨c, 0, none⟩ ∧ PlAt w c 0 pl ∧ B ≤ c) : Pls w sl pl := by
  rcases h with h | ⟨c, e, h, _⟩
  · exact .inl h
  · exact .inr ⟨c, 0, e, h⟩

set_option maxRecDepth 100000 in
set_option maxHeartbeats 8000000 in
theorem law4 (sl : Option Addr) (cap : Nat) (tl : Option Addr) (kap : Nat) (top pr st bu : Int) (bl : Option Addr) (cb : Nat) (pl : Option Addr) (cp : Nat) (ul : Option Addr) (cu : Nat) (ai fx : Int) (gc gf : Bool) (rs : List LSt) (ps : List LPr) (bs : List LPr) (ls : List LPl) (us : List Int) (w : World) (h : InSg w sl tl bl pl ul rs ps bs ls us) :
    Calls Tryz.prog 4 #[SgV sl rs.length cap tl ps.length kap top pr st bu bl bs.length cb pl ls.length cp ul us.length cu ai fx gc gf] w fun e w' => e = .returned (.bool true) ∧ Below w.heap.size w w' := by
  have SZ : Hid (∀ W, Below w.heap.size w W → Calls Tryz.prog 6 #[SgV sl rs.length cap tl ps.length kap top pr st bu bl bs.length cb pl ls.length cp ul us.length cu ai fx gc gf, .int .i64 1048576] W fun e w' => e = .returned (.int .i64 (lft 1048576 (rs.length + totD rs + ps.length + bs.length + ls.length + us.length))) ∧ Below W.heap.size W w') := fun W hW => szSg_any sl cap tl _ kap top pr st bu bl _ cb pl _ cp ul _ cu ai fx gc gf rs W h.c.t.ln h.c.t.lp h.c.lb h.c.ll h.lu (h.c.t.st.below hW)
  rcases lft_cases 1048576 (rs.length + totD rs + ps.length + bs.length + ls.length + us.length) (by omega) with ⟨e, hT⟩ | ⟨e, hT⟩
  · rw [e] at SZ
    clear h e hT
    generalize rs.length = n at *
    generalize ps.length = m at *
    generalize bs.length = q at *
    generalize ls.length = p at *
    generalize us.length = u at *
    go_enter Tryz.func4, Tryz.ntmps4
    go_wp2_with fail
    refine (SZ.out _ (bA0 _ _)).mono ?_
    rintro e w1 ⟨rfl, b1⟩
    have D1 := Lib.hid (bT (bA0 w _) b1)
    clear b1
    go_wp2
    go_ret
    exact ⟨rfl, D1.out⟩
  rw [e] at SZ
  have hs : Sts w sl rs := h.c.t.st.small (by omega)
  have hn : rs.length ≤ 1048576 := by omega
  have hm : ps.length ≤ 1048576 := by omega
  have hq : bs.length ≤ 1048576 := by omega
  have hl : ls.length ≤ 1048576 := by omega
  have hu : us.length ≤ 1048576 := by omega
  have TO : Hid (∀ W, Below w.heap.size w W → Calls Tryz.prog 8 #[SgV sl rs.length cap tl ps.length kap top pr st bu bl bs.length cb pl ls.length cp ul us.length cu ai fx gc gf] W fun e w' => ∃ b1 b2 b3 b4 b5 rs', e = .returned (SgV (some ⟨b1, 0, none⟩) rs.length rs.length (some ⟨b2, 0, none⟩) ps.length ps.length top pr st bu (some ⟨b3, 0, none⟩) bs.length bs.length (some ⟨b4, 0, none⟩) ls.length ls.length (some ⟨b5, 0, none⟩) us.length us.length ai fx gc gf) ∧ bareS rs' = bareS rs ∧ OwnSg W.heap.size w' b1 b2 b3 b4 b5 rs' ps bs ls us ∧ StA W.heap.size w' b1 b2 b3 b4 b5 rs' ∧ Below W.heap.size W w') := fun W hW => toSgM_any sl cap tl kap top pr st bu bl cb pl cp ul cu ai fx gc gf rs ps bs ls us W hn hm hq hl hu (hs.below hW) (h.c.t.pr.below hW) (h.c.bd.below hW) (h.c.pl.below hW) (h.ui.below hW)
  have TE : Hid (∀ b1 b2 b3 b4 b5 rs1 c1 c2 c3 c4 c5 rs2 C D W, bareS rs1 = bareS rs → bareS rs2 = bareS rs → OwnSg C W b1 b2 b3 b4 b5 rs1 ps bs ls us → OwnSg D W c1 c2 c3 c4 c5 rs2 ps bs ls us → Calls Tryz.prog 10 #[SgV (some ⟨b1, 0, none⟩) rs.length rs.length (some ⟨b2, 0, none⟩) ps.length ps.length top pr st bu (some ⟨b3, 0, none⟩) bs.length bs.length (some ⟨b4, 0, none⟩) ls.length ls.length (some ⟨b5, 0, none⟩) us.length us.length ai fx gc gf, SgV (some ⟨c1, 0, none⟩) rs.length rs.length (some ⟨c2, 0, none⟩) ps.length ps.length top pr st bu (some ⟨c3, 0, none⟩) bs.length bs.length (some ⟨c4, 0, none⟩) ls.length ls.length (some ⟨c5, 0, none⟩) us.length us.length ai fx gc gf] W fun e w' => e = .returned (.bool true) ∧ Below W.heap.size W w') := fun b1 b2 b3 b4 b5 rs1 c1 c2 c3 c4 c5 rs2 C D W e1 e2 o1 o2 => by
    have := eqSg_any (some ⟨b1, 0, none⟩) (some ⟨c1, 0, none⟩) rs.length rs.length (some ⟨b2, 0, none⟩) (some ⟨c2, 0, none⟩) ps.length ps.length top pr st bu (some ⟨b3, 0, none⟩) (some ⟨c3, 0, none⟩) bs.length bs.length (some ⟨b4, 0, none⟩) (some ⟨c4, 0, none⟩) ls.length ls.length (some ⟨b5, 0, none⟩) (some ⟨c5, 0, none⟩) us.length us.length ai fx gc gf rs1 rs2 ps bs ls us W (by rw [bareS_len e1]; exact hn) hm hq hl hu (e1.trans e2.symm) o1.sts o2.sts o1.prs o2.prs o1.bds o2.bds o1.pls o2.pls o1.tops o2.tops
    rwa [bareS_len e1, bareS_len e2] at this
  have hzl : (payA rs ps top pr st bu bs ls us ai fx gc gf).length ≤ 1048576 := payA_le rs ps top pr st bu bs ls us ai fx gc gf hq
  have SP : Hid (∀ b1 b2 b3 b4 b5 rs' C W, bareS rs' = bareS rs → OwnSg C W b1 b2 b3 b4 b5 rs' ps bs ls us → Calls Tryz.prog 11 #[SgV (some ⟨b1, 0, none⟩) rs.length rs.length (some ⟨b2, 0, none⟩) ps.length ps.length top pr st bu (some ⟨b3, 0, none⟩) bs.length bs.length (some ⟨b4, 0, none⟩) ls.length ls.length (some ⟨b5, 0, none⟩) us.length us.length ai fx gc gf] W fun e w' => ∃ v, e = .returned v ∧ w'.ownsRow W.heap.size 69 2 v (payA rs ps top pr st bu bs ls us ai fx gc gf).length (enCells (payA rs ps top pr st bu bs ls us ai fx gc gf)) ∧ Below W.heap.size W w') := fun b1 b2 b3 b4 b5 rs' C W eb o => by
    have hl' := bareS_len eb
    have := ssp_any (some ⟨b1, 0, none⟩) rs.length (some ⟨b2, 0, none⟩) ps.length top pr st bu (some ⟨b3, 0, none⟩) bs.length (some ⟨b4, 0, none⟩) ls.length (some ⟨b5, 0, none⟩) us.length ai fx gc gf rs' ps bs ls us W (by omega) hq hl hu o.sts o.prs o.bds o.pls o.tops
    rwa [hl', payA_bare ps top pr st bu bs ls us ai fx gc gf eb] at this
  have IM : Hid (∀ b1 b2 b3 b4 b5 rs' C W, bareS rs' = bareS rs → OwnSg C W b1 b2 b3 b4 b5 rs' ps bs ls us → Calls Tryz.prog 12 #[SgV (some ⟨b1, 0, none⟩) rs.length rs.length (some ⟨b2, 0, none⟩) ps.length ps.length top pr st bu (some ⟨b3, 0, none⟩) bs.length bs.length (some ⟨b4, 0, none⟩) ls.length ls.length (some ⟨b5, 0, none⟩) us.length us.length ai fx gc gf] W fun e w' => ∃ v, e = .returned v ∧ w'.ownsRow W.heap.size 69 2 v (payA rs ps top pr st bu bs ls us ai fx gc gf).length (enCells (payA rs ps top pr st bu bs ls us ai fx gc gf)) ∧ Below W.heap.size W w') := fun b1 b2 b3 b4 b5 rs' C W eb o => by
    have hl' := bareS_len eb
    have := isp_any (some ⟨b1, 0, none⟩) rs.length (some ⟨b2, 0, none⟩) ps.length top pr st bu (some ⟨b3, 0, none⟩) bs.length (some ⟨b4, 0, none⟩) ls.length (some ⟨b5, 0, none⟩) us.length ai fx gc gf rs' ps bs ls us W (by omega) hq hl hu (Nat.le_refl _) o.sts o.prs h.c.t.wf o.bds o.pls o.tops
    rwa [hl', payA_bare ps top pr st bu bs ls us ai fx gc gf eb] at this
  have MT : Hid (∀ C b1 b2 b3 b4 b5 rs' w0 W, bareS rs' = bareS rs → OwnSg C w0 b1 b2 b3 b4 b5 rs' ps bs ls us → StA C w0 b1 b2 b3 b4 b5 rs' → Below w0.heap.size w0 W → Calls Tryz.prog 14 #[SgV (some ⟨b1, 0, none⟩) rs.length rs.length (some ⟨b2, 0, none⟩) ps.length ps.length top pr st bu (some ⟨b3, 0, none⟩) bs.length bs.length (some ⟨b4, 0, none⟩) ls.length ls.length (some ⟨b5, 0, none⟩) us.length us.length ai fx gc gf, .int .i64 1] W fun e w' => ∃ k : Int, 0 ≤ k ∧ e = .returned (.int .i64 k) ∧ Btw C w0.heap.size W w') := fun C b1 b2 b3 b4 b5 rs' w0 W eb o sa hb => by
    have o' := o.below hb
    have stm := sa.st.below hb
    have hl' := bareS_len eb
    have ht : totD rs' = totD rs := by
      have := congrArg (List.map fun r : Int × Int × List Int => r.2.2.length) eb
      unfold totD
      simpa [bareS, Function.comp_def] using congrArg List.sum this
    have hP : PrM W b2 ps.length := by obtain ⟨vs, a, b, _⟩ := o'.c.t.r2; exact ⟨vs, a, b⟩
    have hB : BdM W b3 bs.length := by obtain ⟨vs, a, b, _⟩ := o'.c.r3; exact ⟨vs, a, b⟩
    have hL : PlM W b4 ls.length := o'.c.r4.plM
    have hSum : rs'.length + totD rs' + ps.length + bs.length + ls.length + us.length ≤ 1048576 := by rw [hl', ht]; omega
    have l5 : b5 < w0.heap.size := o.r5.lt
    have := mkSg_any C b1 b2 b3 b4 b5 top pr st bu ai fx gc gf rs' ps.length bs.length ls.length us hSum W stm hP hB hL o'.r5 o.c.t.lo2 sa.l2 o.c.lo3 sa.l3 o.c.lo4 sa.l4 o.lo5
    rw [hl'] at this
    exact this.mono fun e w' ⟨k, k0, he, hg⟩ => ⟨k, k0, he, hg.wide (by omega)⟩
  have hneg : ¬ (1048576 - ((rs.length + totD rs + ps.length + bs.length + ls.length + us.length : Nat) : Int)) < 0 := by omega
  clear h hs e hT hn hm hq hl hu
  generalize (1048576 - ((rs.length + totD rs + ps.length + bs.length + ls.length + us.length : Nat) : Int)) = z at *
  generalize rs.length = n at *
  generalize ps.length = m at *
  generalize bs.length = q at *
  generalize ls.length = p at *
  generalize us.length = u at *
  generalize payA rs ps top pr st bu bs ls us ai fx gc gf = zs at *
  have EQ : Hid (∀ C C' v v' W, World.ownsRow W C 69 2 v zs.length (enCells zs) → World.ownsRow W C' 69 2 v' zs.length (enCells zs) → Calls Tryz.prog 13 #[v, v'] W fun e w' => e = .returned (.bool true) ∧ Below W.heap.size W w') := fun C C' v v' W o o' => by
    obtain ⟨s1, k1, rfl, i1⟩ := own_pays o
    obtain ⟨s2, k2, rfl, i2⟩ := own_pays o'
    exact eqPyS_any s1 s2 k1 k2 zs W hzl (pls_ofp i1) (pls_ofp i2)
  have MR : Hid (∀ C v W, World.ownsRow W C 69 2 v zs.length (enCells zs) → Calls Tryz.prog 15 #[v, .int .i64 1] W fun e w' => e = .returned (.int .i64 (1 + 2 * (zs.length : Int))) ∧ w'.ownsRow C 69 2 v zs.length (valsZ (marks 1 (zs.length * 2))) ∧ W.grownBy w' v.ownBlock) := fun C v W o => mark2_row C v zs.length _ 1 hzl (by omega) (by omega) W o
  have HR : Hid (∀ C v W, World.ownsRow W C 69 2 v zs.length (valsZ (marks 1 (zs.length * 2))) → Calls Tryz.prog 16 #[v, .int .i64 1] W fun e w' => e = .returned (.int .i64 (1 + 2 * (zs.length : Int))) ∧ w' = W) := fun C v W o => held2_row C v zs.length 1 hzl (by omega) (by omega) W o
  generalize valsZ (marks 1 (zs.length * 2)) = ms at *
  generalize enCells zs = xs at *
  generalize zs.length = a at *
  have N0 := Lib.hid (new_at w (.cells (SgC sl n cap tl m kap top pr st bu bl q cb pl p cp ul u cu ai fx gc gf) 32))
  have B0 := Lib.hid (bA0 w (.cells (SgC sl n cap tl m kap top pr st bu bl q cb pl p cp ul u cu ai fx gc gf) 32))
  have hw0 : (w.alloc (.cells (SgC sl n cap tl m kap top pr st bu bl q cb pl p cp ul u cu ai fx gc gf) 32)).heap.size = w.heap.size + 1 := by simp
  have KT : Hid (∀ W, Below (w.heap.size + 1) (w.alloc (.cells (SgC sl n cap tl m kap top pr st bu bl q cb pl p cp ul u cu ai fx gc gf) 32)) W → w.heap.size < W.heap.size ∧ W.cell? ⟨w.heap.size, 0, none⟩ = some (.slice sl n cap) ∧ W.cell? ⟨w.heap.size, 1, none⟩ = some (.slice tl m kap) ∧ W.cell? ⟨w.heap.size, 2, none⟩ = some (.int .i64 top) ∧ W.cell? ⟨w.heap.size, 3, none⟩ = some (.int .i64 pr) ∧ W.cell? ⟨w.heap.size, 4, none⟩ = some (.int .i64 st) ∧ W.cell? ⟨w.heap.size, 5, none⟩ = some (.int .i64 bu) ∧ W.cell? ⟨w.heap.size, 6, none⟩ = some (.slice bl q cb) ∧ W.cell? ⟨w.heap.size, 7, none⟩ = some (.slice pl p cp) ∧ W.cell? ⟨w.heap.size, 8, none⟩ = some (.slice ul u cu) ∧ W.cell? ⟨w.heap.size, 9, none⟩ = some (.int .i64 ai) ∧ W.cell? ⟨w.heap.size, 10, none⟩ = some (.int .i64 fx) ∧ W.cell? ⟨w.heap.size, 11, none⟩ = some (.bool gc) ∧ W.cell? ⟨w.heap.size, 12, none⟩ = some (.bool gf)) := fun W hW => by
    obtain ⟨x0, x1, x2, x3, x4, x5, x6, x7, x8, x9, x10, x11, x12, cf, cl⟩ := cells13 ((hW.block w.heap.size (by omega)).trans N0.out)
    exact ⟨cl, x0, x1, x2, x3, x4, x5, x6, x7, x8, x9, x10, x11, x12⟩
  clear N0
  go_enter Tryz.func4, Tryz.ntmps4
  go_wp2_with fail
  refine (SZ.out _ (bA0 _ _)).mono ?_
  rintro e w1 ⟨rfl, b1⟩
  generalize w.alloc (.cells (SgC sl n cap tl m kap top pr st bu bl q cb pl p cp ul u cu ai fx gc gf) 32) = wA at *
  have A1 : Hid (Below (w.heap.size + 1) wA w1) := by rw [← hw0]; exact b1
  have D1 := Lib.hid (bT B0.out b1)
  clear b1 SZ
  obtain ⟨tl0, t0, t1, t2, t3, t4, t5, t6, t7, t8, t9, t10, t11, t12⟩ := KT.out _ A1.out
  have hs1 := A1.out.size
  go_wp2_with fail
  refine (TO.out _ D1.out).mono ?_
  rintro e w2 ⟨b1, b2, b3, b4, b5, rs1, rfl, e1, o1, a1, bl2⟩
  have D2 := Lib.hid (bT D1.out bl2)
  have A2 := Lib.hid (A1.out.trans (bl2.mono (by omega)))
  have T2 := Lib.hid (SP.out b1 b2 b3 b4 b5 rs1 _ w2 e1 o1)
  clear e1 o1 a1 bl2 A1 t0 t1 t2 t3 t4 t5 t6 t7 t8 t9 t10 t11 t12 tl0
  go_wp2_with fail
  refine T2.out.mono ?_
  rintro e w3 ⟨v0, rfl, q3, bl3⟩
  have hs2 := A2.out.size
  have D3 := Lib.hid (bT D2.out bl3)
  have A3 := Lib.hid (A2.out.trans (bl3.mono (by omega)))
  have V3 := Lib.hid q3
  have L3 := Lib.hid (fun j hj => (q3.lt j hj).2)
  have D3s := Lib.hid D3.out.size
  clear bl3 T2 A2 D2 q3
  obtain ⟨tl0, t0, t1, t2, t3, t4, t5, t6, t7, t8, t9, t10, t11, t12⟩ := KT.out _ A3.out
  go_wp2_with fail
  refine (TO.out _ D3.out).mono ?_
  rintro e w4 ⟨c1, c2, c3, c4, c5, rs2, rfl, e2, o2, a2, bl4⟩
  have hs3 := A3.out.size
  have D4 := Lib.hid (bT D3.out bl4)
  have A4 := Lib.hid (A3.out.trans (bl4.mono (by omega)))
  have E2 := Lib.hid e2
  have O4 := Lib.hid o2
  have S4 := Lib.hid a2
  have V4 := Lib.hid (own_below V3.out bl4)
  have hs4 := A4.out.size
  have hs34 := bl4.size
  have X5 := Lib.hid (new_at w4 (.cells (SgC (some ⟨c1, 0, none⟩) n n (some ⟨c2, 0, none⟩) m m top pr st bu (some ⟨c3, 0, none⟩) q q (some ⟨c4, 0, none⟩) p p (some ⟨c5, 0, none⟩) u u ai fx gc gf) 44))
  have F5 := Lib.hid (bA0 w4 (.cells (SgC (some ⟨c1, 0, none⟩) n n (some ⟨c2, 0, none⟩) m m top pr st bu (some ⟨c3, 0, none⟩) q q (some ⟨c4, 0, none⟩) p p (some ⟨c5, 0, none⟩) u u ai fx gc gf) 44))
  clear e2 o2 a2 bl4 A3 D3 t0 t1 t2 t3 t4 t5 t6 t7 t8 t9 t10 t11 t12 tl0 V3
  have hw5 : (w4.alloc (.cells (SgC (some ⟨c1, 0, none⟩) n n (some ⟨c2, 0, none⟩) m m top pr st bu (some ⟨c3, 0, none⟩) q q (some ⟨c4, 0, none⟩) p p (some ⟨c5, 0, none⟩) u u ai fx gc gf) 44)).heap.size = w4.heap.size + 1 := by simp
  have F6 := Lib.hid (IM.out c1 c2 c3 c4 c5 rs2 _ (w4.alloc (.cells (SgC (some ⟨c1, 0, none⟩) n n (some ⟨c2, 0, none⟩) m m top pr st bu (some ⟨c3, 0, none⟩) q q (some ⟨c4, 0, none⟩) p p (some ⟨c5, 0, none⟩) u u ai fx gc gf) 44)) E2.out (O4.out.below F5.out))
  obtain ⟨x0, x1, x2, x3, x4, x5, x6, x7, x8, x9, x10, x11, x12, xf, xl⟩ := cells13 X5.out
  go_wp2_with fail
  generalize w4.alloc (.cells (SgC (some ⟨c1, 0, none⟩) n n (some ⟨c2, 0, none⟩) m m top pr st bu (some ⟨c3, 0, none⟩) q q (some ⟨c4, 0, none⟩) p p (some ⟨c5, 0, none⟩) u u ai fx gc gf) 44) = w5 at *
  refine F6.out.mono ?_
  rintro e w6 ⟨v6, rfl, q6, bl6⟩
  have hs6 := bl6.size
  have G6 := Lib.hid (bT F5.out bl6)
  have D6 := Lib.hid (bT D4.out G6.out)
  have A6 := Lib.hid (A4.out.trans (G6.out.mono (by omega)))
  have V6 := Lib.hid (own_below V4.out G6.out)
  have X6 := Lib.hid ((bl6.block _ xl).trans X5.out)
  have R6 := Lib.hid q6
  have L6 := Lib.hid (fun j hj => q6.lt j hj)
  clear q6 bl6 F5 F6 X5 V4 D4 A4 x0 x1 x2 x3 x4 x5 x6 x7 x8 x9 x10 x11 x12 xf xl
  have E7 := Lib.hid (EQ.out _ _ v6 v0 w6 R6.out V6.out)
  go_wp2_with fail
  refine E7.out.mono ?_
  rintro e w7 ⟨rfl, bl7⟩
  have G7 := Lib.hid (bT G6.out bl7)
  have D7 := Lib.hid (bT D6.out bl7)
  have A7 := Lib.hid (A6.out.trans (bl7.mono (by omega)))
  have V7 := Lib.hid (own_below V6.out bl7)
  have R7 := Lib.hid (own_below R6.out bl7)
  have X7 := Lib.hid ((bl7.block _ (Array.getElem?_eq_some_iff.1 X6.out).1).trans X6.out)
  have hs7 := bl7.size
  clear bl7 G6 D6 A6 V6 R6 X6 E7
  have KX : Hid (∀ W, Below w7.heap.size w7 W → w.heap.size < W.heap.size ∧ w4.heap.size < W.heap.size ∧ W.cell? ⟨w.heap.size, 0, none⟩ = some (.slice sl n cap) ∧ W.cell? ⟨w.heap.size, 1, none⟩ = some (.slice tl m kap) ∧ W.cell? ⟨w.heap.size, 2, none⟩ = some (.int .i64 top) ∧ W.cell? ⟨w.heap.size, 3, none⟩ = some (.int .i64 pr) ∧ W.cell? ⟨w.heap.size, 4, none⟩ = some (.int .i64 st) ∧ W.cell? ⟨w.heap.size, 5, none⟩ = some (.int .i64 bu) ∧ W.cell? ⟨w.heap.size, 6, none⟩ = some (.slice bl q cb) ∧ W.cell? ⟨w.heap.size, 7, none⟩ = some (.slice pl p cp) ∧ W.cell? ⟨w.heap.size, 8, none⟩ = some (.slice ul u cu) ∧ W.cell? ⟨w.heap.size, 9, none⟩ = some (.int .i64 ai) ∧ W.cell? ⟨w.heap.size, 10, none⟩ = some (.int .i64 fx) ∧ W.cell? ⟨w.heap.size, 11, none⟩ = some (.bool gc) ∧ W.cell? ⟨w.heap.size, 12, none⟩ = some (.bool gf) ∧ W.cell? ⟨w4.heap.size, 0, none⟩ = some (.slice (some ⟨c1, 0, none⟩) n n) ∧ W.cell? ⟨w4.heap.size, 1, none⟩ = some (.slice (some ⟨c2, 0, none⟩) m m) ∧ W.cell? ⟨w4.heap.size, 2, none⟩ = some (.int .i64 top) ∧ W.cell? ⟨w4.heap.size, 3, none⟩ = some (.int .i64 pr) ∧ W.cell? ⟨w4.heap.size, 4, none⟩ = some (.int .i64 st) ∧ W.cell? ⟨w4.heap.size, 5, none⟩ = some (.int .i64 bu) ∧ W.cell? ⟨w4.heap.size, 6, none⟩ = some (.slice (some ⟨c3, 0, none⟩) q q) ∧ W.cell? ⟨w4.heap.size, 7, none⟩ = some (.slice (some ⟨c4, 0, none⟩) p p) ∧ W.cell? ⟨w4.heap.size, 8, none⟩ = some (.slice (some ⟨c5, 0, none⟩) u u) ∧ W.cell? ⟨w4.heap.size, 9, none⟩ = some (.int .i64 ai) ∧ W.cell? ⟨w4.heap.size, 10, none⟩ = some (.int .i64 fx) ∧ W.cell? ⟨w4.heap.size, 11, none⟩ = some (.bool gc) ∧ W.cell? ⟨w4.heap.size, 12, none⟩ = some (.bool gf)) := fun W hW => by
    obtain ⟨k1, k20, k21, k22, k23, k24, k25, k26, k27, k28, k29, k210, k211, k212⟩ := KT.out W (A7.out.trans (hW.mono (by omega)))
    obtain ⟨y0, y1, y2, y3, y4, y5, y6, y7, y8, y9, y10, y11, y12, yf, yl⟩ := cells13 ((hW.block _ (Array.getElem?_eq_some_iff.1 X7.out).1).trans X7.out)
    exact ⟨k1, yl, k20, k21, k22, k23, k24, k25, k26, k27, k28, k29, k210, k211, k212, y0, y1, y2, y3, y4, y5, y6, y7, y8, y9, y10, y11, y12⟩
  go_wp2_with fail
  refine wp_region_held_drew (S := fun W => w.heap.size < W.heap.size ∧ w4.heap.size < W.heap.size ∧ W.cell? ⟨w.heap.size, 0, none⟩ = some (.slice sl n cap) ∧ W.cell? ⟨w.heap.size, 1, none⟩ = some (.slice tl m kap) ∧ W.cell? ⟨w.heap.size, 2, none⟩ = some (.int .i64 top) ∧ W.cell? ⟨w.heap.size, 3, none⟩ = some (.int .i64 pr) ∧ W.cell? ⟨w.heap.size, 4, none⟩ = some (.int .i64 st) ∧ W.cell? ⟨w.heap.size, 5, none⟩ = some (.int .i64 bu) ∧ W.cell? ⟨w.heap.size, 6, none⟩ = some (.slice bl q cb) ∧ W.cell? ⟨w.heap.size, 7, none⟩ = some (.slice pl p cp) ∧ W.cell? ⟨w.heap.size, 8, none⟩ = some (.slice ul u cu) ∧ W.cell? ⟨w.heap.size, 9, none⟩ = some (.int .i64 ai) ∧ W.cell? ⟨w.heap.size, 10, none⟩ = some (.int .i64 fx) ∧ W.cell? ⟨w.heap.size, 11, none⟩ = some (.bool gc) ∧ W.cell? ⟨w.heap.size, 12, none⟩ = some (.bool gf) ∧ W.cell? ⟨w4.heap.size, 0, none⟩ = some (.slice (some ⟨c1, 0, none⟩) n n) ∧ W.cell? ⟨w4.heap.size, 1, none⟩ = some (.slice (some ⟨c2, 0, none⟩) m m) ∧ W.cell? ⟨w4.heap.size, 2, none⟩ = some (.int .i64 top) ∧ W.cell? ⟨w4.heap.size, 3, none⟩ = some (.int .i64 pr) ∧ W.cell? ⟨w4.heap.size, 4, none⟩ = some (.int .i64 st) ∧ W.cell? ⟨w4.heap.size, 5, none⟩ = some (.int .i64 bu) ∧ W.cell? ⟨w4.heap.size, 6, none⟩ = some (.slice (some ⟨c3, 0, none⟩) q q) ∧ W.cell? ⟨w4.heap.size, 7, none⟩ = some (.slice (some ⟨c4, 0, none⟩) p p) ∧ W.cell? ⟨w4.heap.size, 8, none⟩ = some (.slice (some ⟨c5, 0, none⟩) u u) ∧ W.cell? ⟨w4.heap.size, 9, none⟩ = some (.int .i64 ai) ∧ W.cell? ⟨w4.heap.size, 10, none⟩ = some (.int .i64 fx) ∧ W.cell? ⟨w4.heap.size, 11, none⟩ = some (.bool gc) ∧ W.cell? ⟨w4.heap.size, 12, none⟩ = some (.bool gf)) (by kernel_rfl) ?_ (fun hHeld => ?_)
  · exact KX.out _ (Below.refl _ _).drew
  refine wpAnyH_take (i := 0) (oi := _) (v := ?_) rfl (by kernel_rfl) (by kernel_rfl) (by kernel_rfl) (fun _ _ _ h => h) (Or.inl ⟨by rfl, ?_⟩) (by assumption) ?_
  rotate_left
  · first | (intro w hSw; (try dsimp only at hSw); go_simp; done) | (intro w hSw; (try dsimp only at hSw); go_simp; with_reducible rfl)
  try simp only [Act.put, List.setIfInBounds_toArray, List.set_cons_zero, List.set_cons_succ, List.getElem_toArray, List.getElem_cons_zero]
  refine wpAnyH_take (i := 1) (oi := _) (v := ?_) rfl (by kernel_rfl) (by kernel_rfl) (by kernel_rfl) (fun _ _ _ h => h) (Or.inl ⟨by rfl, ?_⟩) (by assumption) ?_
  rotate_left
  · first | (intro w hSw; (try dsimp only at hSw); go_simp; done) | (intro w hSw; (try dsimp only at hSw); go_simp; with_reducible rfl)
  try simp only [Act.put, List.setIfInBounds_toArray, List.set_cons_zero, List.set_cons_succ, List.getElem_toArray, List.getElem_cons_succ, List.getElem_cons_zero]
  refine wpAnyH_ready (rs := [2]) (by kernel_rfl) (by simp) ?_
  refine AllReadyH.cons rfl (fun K hK => ?_) AllReadyH.nil
  go_simp
  go_wp2_with (go_at_call 8; refine (TO.out _ D7.out.drew).mono ?_; rintro e w8 ⟨d1, d2, d3, d4, d5, rs3, rfl, e3, o3, a3, bl8⟩)
  have D8 : Hid (Below w7.heap.size w7 w8) := bT ((Below.refl w7.heap.size w7).drew) bl8
  have O8 := Lib.hid o3
  have E8 := Lib.hid e3
  clear bl8 o3 e3 a3
  refine hK.out _ _ ?_ (fun hHeld => ?_)
  · exact KX.out _ D8.out
  clear hK K
  refine wpAnyH_ready (rs := [3]) (by kernel_rfl) (by simp) ?_
  refine AllReadyH.cons rfl (fun K hK => ?_) AllReadyH.nil
  go_simp
  go_wp2_with (go_at_call 10; refine (TE.out c1 c2 c3 c4 c5 rs2 d1 d2 d3 d4 d5 rs3 _ _ _ E2.out E8.out ((O4.out.below G7.out).below D8.out) O8.out).mono ?_; rintro e w9 ⟨rfl, bl9⟩)
  have D9 : Hid (Below w7.heap.size w7 w9) := bT D8.out bl9
  clear bl9
  refine hK.out _ _ ?_ (fun hHeld => ?_)
  · exact KX.out _ D9.out
  clear hK K
  refine wpAnyH_take (i := 4) (oi := _) (v := ?_) rfl (by kernel_rfl) (by kernel_rfl) (by kernel_rfl) (fun _ _ _ h => h) (Or.inl ⟨by rfl, ?_⟩) (by assumption) ?_
  rotate_left
  · first | (intro w hSw; (try dsimp only at hSw); go_simp; done) | (intro w hSw; (try dsimp only at hSw); go_simp; with_reducible rfl)
  try simp only [Act.put, List.setIfInBounds_toArray, List.set_cons_zero, List.set_cons_succ, List.getElem_toArray, List.getElem_cons_succ, List.getElem_cons_zero]
  refine wpAnyH_done (by kernel_rfl) ?_ _

  have G9 := Lib.hid (bT G7.out D9.out)
  have B9 := Lib.hid (bT D7.out D9.out)
  have A9 := Lib.hid (A7.out.trans (D9.out.mono (by omega)))
  have V9 := Lib.hid (own_below V7.out D9.out)
  have R9 := Lib.hid (own_below R7.out D9.out)
  have X9 := Lib.hid ((D9.out.block _ (Array.getElem?_eq_some_iff.1 X7.out).1).trans X7.out)
  have hs9 := D9.out.size
  clear D9 D8 KX O8 E8 TE G7 D7 A7 V7 R7 X7
  have M10 := Lib.hid (MT.out _ c1 c2 c3 c4 c5 rs2 w4 w9 E2.out O4.out S4.out G9.out)
  obtain ⟨x0, x1, x2, x3, x4, x5, x6, x7, x8, x9, x10, x11, x12, xf, xl⟩ := cells13 X9.out
  go_wp2_with fail
  refine M10.out.mono ?_
  rintro e w10 ⟨k, k0, rfl, g10⟩
  have k1 : ¬ k < 0 := by omega
  have V10 := Lib.hid (own_btw V9.out g10 (fun j hj => .inl (L3.out j hj)))
  have R10 := Lib.hid (own_btw R9.out g10 (fun j hj => .inr (by have := (L6.out j hj).1; omega)))
  have B10 := Lib.hid (B9.out.trans ((g10.below (by omega)).mono (by have := D3s.out; omega)))
  have A10 := Lib.hid (A9.out.trans ((g10.below (by omega)).mono (by omega)))
  have hs10 := g10.size
  clear g10 M10 V9 R9 B9 A9 X9 x0 x1 x2 x3 x4 x5 x6 x7 x8 x9 x10 x11 x12 xf xl MT G9 O4 S4
  go_wp2_with fail
  refine (EQ.out _ _ v6 v0 w10 R10.out V10.out).mono ?_
  rintro e w11 ⟨rfl, bl11⟩
  have B11 := Lib.hid (bT B10.out bl11)
  have A11 := Lib.hid (A10.out.trans (bl11.mono (by omega)))
  have V11 := Lib.hid (own_below V10.out bl11)
  have R11 := Lib.hid (own_below R10.out bl11)
  have hs11 := bl11.size
  clear bl11 B10 A10 V10 R10
  go_wp2_with fail
  refine (MR.out _ v6 w11 R11.out).mono ?_
  rintro e w12 ⟨rfl, o12, g12⟩
  have LB : Hid (∀ j, v6.ownBlock = some j → w4.heap.size < j ∧ j < w11.heap.size) := fun j hj => by
    have := L6.out j hj
    omega
  have V12 := Lib.hid (own_btw V11.out ((Btw.refl w4.heap.size w11.heap.size w11).grown g12 (fun j hj => by have := LB.out j hj; omega)) (fun j hj => .inl (by have := L3.out j hj; omega)))
  have B12 := Lib.hid (B11.out.grown g12 (by have := D3s.out; omega) (fun j hj => by have := LB.out j hj; have := D3s.out; omega))
  have A12 := Lib.hid (A11.out.grown g12 (by omega) (fun j hj => by have := LB.out j hj; omega))
  have R12 := Lib.hid o12
  clear o12 g12 V11 B11 A11 R11 MR LB
  go_wp2_with fail
  refine (HR.out _ v6 w12 R12.out).mono ?_
  rintro e w13 ⟨rfl, rfl⟩
  have hq : ¬ (1 + 2 * (a : Int)) < 0 := by omega
  obtain ⟨tl0, t0, t1, t2, t3, t4, t5, t6, t7, t8, t9, t10, t11, t12⟩ := KT.out _ A12.out
  go_wp2_with fail
  refine (TO.out _ B12.out).mono ?_
  rintro e w14 ⟨f1, f2, f3, f4, f5, rs4, rfl, e4, o4, a4, bl14⟩
  have F14 := Lib.hid bl14
  have B14 := Lib.hid (bT B12.out bl14)
  have T15 := Lib.hid (IM.out f1 f2 f3 f4 f5 rs4 _ w14 e4 o4)
  clear e4 o4 a4 bl14 t0 t1 t2 t3 t4 t5 t6 t7 t8 t9 t10 t11 t12 tl0
  go_wp2_with fail
  refine T15.out.mono ?_
  rintro e w15 ⟨v15, rfl, q15, bl15⟩
  have B15 := Lib.hid (bT B14.out bl15)
  have F15 := Lib.hid (bT F14.out bl15)
  have R15 := Lib.hid q15
  clear q15 bl15 F14 B14 T15
  go_wp2_with fail
  refine (EQ.out _ _ v15 v0 w15 R15.out (own_below V12.out F15.out)).mono ?_
  rintro e w16 ⟨rfl, bl16⟩
  have B16 := Lib.hid (bT B15.out bl16)
  have F16 := Lib.hid (bT F15.out bl16)
  clear bl16 B15 F15 R15
  go_wp2_with fail
  refine (HR.out _ v6 w16 (own_below R12.out F16.out)).mono ?_
  rintro e w17 ⟨rfl, rfl⟩
  go_wp2
  go_ret
  exact ⟨rfl, B16.out⟩

end Go.Proofs.YtmmikbkgkpnkbaaGreat
