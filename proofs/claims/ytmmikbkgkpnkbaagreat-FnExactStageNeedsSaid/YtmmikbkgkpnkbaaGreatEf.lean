/-
  WHAT A STAGE NEEDS: both sides.
-/
import Derived.Test.YtmmikbkgkpnkbaaGreatEd
import Derived.Test.YtmmikbkgkpnkbaaGreatCk
import Derived.Test.YtmmikbkgkpnkbaaGreatEe
namespace Go.Proofs.YtmmikbkgkpnkbaaGreat
open Go.RowKit
set_option linter.unusedVariables false

set_option maxRecDepth 100000 in
set_option maxHeartbeats 4000000 in
/-- impl.promised. -/
theorem pro_any (bl : Option Addr) (cb : Nat) (bs : List LPr) (w : World) (hq : bs.length ≤ 1048576) (ok : ∀ b ∈ bs, BidOK b) (hbs : Prs w bl bs) :
    Calls Tryz.prog 68 #[.slice bl bs.length cb] w fun e w' => e = .returned (.int .i64 (totL bs)) ∧ Below w.heap.size w w' := by
  have TK := Lib.hid (show bs.take bs.length = bs from List.take_length)
  have OK := Lib.hid ok
  have HB := Lib.hid hbs
  clear hbs ok
  generalize hQ : bs.length = q at *
  have HQ := Lib.hid hQ
  clear hQ
  go_enter Tryz.func68, Tryz.ntmps68
  go_wp2
  go_loopw [4, 10] (fun t i wr => ∃ k : Nat, i = .int .i64 k ∧ k ≤ q ∧ t = .int .i64 (totL (bs.take k)) ∧ Hid (Below w.heap.size w wr)) (fun _ i _ => q - (intOf i).toNat)
  case atStart => exact ⟨0, rfl, Nat.zero_le _, rfl, Below.refl _ _⟩
  case round =>
    obtain ⟨k, rfl, hk, rfl, H2⟩ := hrel
    have hk0 : (0 : Int) ≤ (k : Int) := by omega
    by_cases h1 : k < q
    · have h1' : (k : Int) < (q : Int) := by omega
      have hlt : k < bs.length := by rw [HQ.out]; exact h1
      obtain ⟨g, o, rfl, ZI⟩ : ∃ c o, bl = some ⟨c, o, none⟩ ∧ PrAt w c o bs := by
        rcases HB.out with e | h
        · rw [e] at hlt; simp at hlt
        · exact h
      obtain ⟨e0, e1, e2⟩ := (ZI.below H2.out).cell k hlt
      have zl := (ZI.below H2.out).lt
      have ok := OK.out _ (List.getElem_mem hlt)
      have S1 := Lib.hid (totL_step bs k hlt)
      have BN := totL_bnd bs OK.out k
      obtain ⟨x, y, z, hp⟩ : ∃ a b q, bs[k] = (a, b, q) := ⟨_, _, _, rfl⟩
      rw [hp] at e0 e1 e2 S1 ok
      unfold BidOK at ok
      dsimp only at e0 e1 e2 S1 ok
      obtain ⟨-, ok1, ok2⟩ := ok
      obtain ⟨bn1, bn2⟩ := BN
      have bn3 : totL (bs.take k) ≤ 2000000000000000 := by omega
      clear hp hlt ZI bn2
      generalize totL (bs.take k) = s at *
      have E := Lib.hid (lac_any 3 x y z)
      have B5 := Lib.hid (bA H2.out (.cells #[.int .i64 x, .int .i64 y, .int .i64 z] 60))
      have N5 := Lib.hid (new_at wr (.cells #[.int .i64 x, .int .i64 y, .int .i64 z] 60))
      go_wp2_with fail
      refine (E.out _).mono ?_
      rintro e w6 ⟨rfl, b6⟩
      have B6 := Lib.hid (bT B5.out b6)
      have k6 := (b6.block wr.heap.size (by simp)).trans N5.out
      obtain ⟨d0, d1, d2, df, dl⟩ := cells3 k6
      clear b6 B5 N5 k6
      by_cases hy : y = 3
      · have S2 := Lib.hid (S1.out.trans (by rw [if_pos hy, Int.add_zero]))
        have hy' : (y != 3) = false := by simpa using hy
        rw [hy']
        clear hy hy' S1
        go_wp2
        go_roundw
        case rel => exact ⟨k + 1, by go_num, by omega, by rw [S2.out], B6⟩
        case measure => simp [intOf]; omega
      · have S2 := Lib.hid (S1.out.trans (by rw [if_neg hy]))
        have hy' : (y != 3) = true := by simpa using hy
        rw [hy']
        clear hy hy' S1
        go_wp2
        go_roundw
        case rel => exact ⟨k + 1, by go_num, by omega, by rw [S2.out], B6⟩
        case measure => simp [intOf]; omega
    · have h1' : ¬ (k : Int) < (q : Int) := by omega
      have e : k = q := by omega
      subst e
      go_wp2
      go_ret
      exact ⟨by first | (rw [TK.out]; done) | (rw [TK.out]; rfl), H2.out⟩
theorem wrap_sum (s f : Int) (h0 : 0 ≤ s) (h1 : s ≤ 2000000000000000) (h2 : 0 ≤ f) (h3 : f ≤ 1000000000000) : IntKind.i64.wrap (s + f) = s + f := by
  rw [IntKind.wrap_i64]; omega
theorem totL_all (bs : List LPr) (hq : bs.length ≤ 1048576) (ok : ∀ b ∈ bs, BidOK b) : 0 ≤ totL bs ∧ totL bs ≤ 2000000000000000 := by
  have := totL_bnd bs ok bs.length
  rw [List.take_length] at this
  exact ⟨this.1, by omega⟩

set_option maxRecDepth 100000 in
set_option maxHeartbeats 4000000 in
/-- impl.neededBy. -/
theorem nee_any (sl : Option Addr) (cap : Nat) (tl : Option Addr) (kap : Nat) (top pr st bu : Int) (bl : Option Addr) (cb : Nat) (pl : Option Addr) (cp : Nat) (ul : Option Addr) (cu : Nat) (ai fx : Int) (gc gf : Bool) (rs : List LSt) (ps : List LPr) (bs : List LPr) (ls : List LPl) (us : List Int) (w : World) (hq : bs.length ≤ 1048576) (ok : ∀ b ∈ bs, BidOK b) (hf : NouR fx) (hbs : Prs w bl bs) :
    Calls Tryz.prog 38 #[SgV sl rs.length cap tl ps.length kap top pr st bu bl bs.length cb pl ls.length cp ul us.length cu ai fx gc gf] w fun e w' => e = .returned (.int .i64 (totL bs + fx)) ∧ Below w.heap.size w w' := by
  have PR : Hid (∀ W, Below w.heap.size w W → Calls Tryz.prog 68 #[.slice bl bs.length cb] W fun e w' => e = .returned (.int .i64 (totL bs)) ∧ Below W.heap.size W w') := fun W hW => pro_any bl cb bs W hq ok (hbs.below hW)
  obtain ⟨t0, t1⟩ := totL_all bs hq ok
  obtain ⟨f0, f1⟩ := hf
  clear ok hbs hq
  generalize totL bs = s at *
  generalize rs.length = n at *
  generalize ps.length = m at *
  generalize bs.length = q at *
  generalize ls.length = p at *
  generalize us.length = u at *
  have B0 := Lib.hid (bA0 w (.cells (SgC sl n cap tl m kap top pr st bu bl q cb pl p cp ul u cu ai fx gc gf) 44))
  have N0 := Lib.hid (new_at w (.cells (SgC sl n cap tl m kap top pr st bu bl q cb pl p cp ul u cu ai fx gc gf) 44))
  have hS : (w.alloc (.cells (SgC sl n cap tl m kap top pr st bu bl q cb pl p cp ul u cu ai fx gc gf) 44)).heap.size = w.heap.size + 1 := by simp

  go_enter Tryz.func38, Tryz.ntmps38
  go_wp2_with fail
  generalize w.alloc (.cells (SgC sl n cap tl m kap top pr st bu bl q cb pl p cp ul u cu ai fx gc gf) 44) = wA at *
  have KX : Hid (∀ W, Below wA.heap.size wA W → w.heap.size < W.heap.size ∧ W.cell? ⟨w.heap.size, 0, none⟩ = some (.slice sl n cap) ∧ W.cell? ⟨w.heap.size, 1, none⟩ = some (.slice tl m kap) ∧ W.cell? ⟨w.heap.size, 2, none⟩ = some (.int .i64 top) ∧ W.cell? ⟨w.heap.size, 3, none⟩ = some (.int .i64 pr) ∧ W.cell? ⟨w.heap.size, 4, none⟩ = some (.int .i64 st) ∧ W.cell? ⟨w.heap.size, 5, none⟩ = some (.int .i64 bu) ∧ W.cell? ⟨w.heap.size, 6, none⟩ = some (.slice bl q cb) ∧ W.cell? ⟨w.heap.size, 7, none⟩ = some (.slice pl p cp) ∧ W.cell? ⟨w.heap.size, 8, none⟩ = some (.slice ul u cu) ∧ W.cell? ⟨w.heap.size, 9, none⟩ = some (.int .i64 ai) ∧ W.cell? ⟨w.heap.size, 10, none⟩ = some (.int .i64 fx) ∧ W.cell? ⟨w.heap.size, 11, none⟩ = some (.bool gc) ∧ W.cell? ⟨w.heap.size, 12, none⟩ = some (.bool gf)) := fun W hW => by
    obtain ⟨c0, c1, c2, c3, c4, c5, c6, c7, c8, c9, c10, c11, c12, cf, cl⟩ := cells13 ((hW.block w.heap.size (by rw [hS]; omega)).trans N0.out)
    exact ⟨cl, c0, c1, c2, c3, c4, c5, c6, c7, c8, c9, c10, c11, c12⟩

  refine wp_region_held_drew (S := fun W => w.heap.size < W.heap.size ∧ W.cell? ⟨w.heap.size, 0, none⟩ = some (.slice sl n cap) ∧ W.cell? ⟨w.heap.size, 1, none⟩ = some (.slice tl m kap) ∧ W.cell? ⟨w.heap.size, 2, none⟩ = some (.int .i64 top) ∧ W.cell? ⟨w.heap.size, 3, none⟩ = some (.int .i64 pr) ∧ W.cell? ⟨w.heap.size, 4, none⟩ = some (.int .i64 st) ∧ W.cell? ⟨w.heap.size, 5, none⟩ = some (.int .i64 bu) ∧ W.cell? ⟨w.heap.size, 6, none⟩ = some (.slice bl q cb) ∧ W.cell? ⟨w.heap.size, 7, none⟩ = some (.slice pl p cp) ∧ W.cell? ⟨w.heap.size, 8, none⟩ = some (.slice ul u cu) ∧ W.cell? ⟨w.heap.size, 9, none⟩ = some (.int .i64 ai) ∧ W.cell? ⟨w.heap.size, 10, none⟩ = some (.int .i64 fx) ∧ W.cell? ⟨w.heap.size, 11, none⟩ = some (.bool gc) ∧ W.cell? ⟨w.heap.size, 12, none⟩ = some (.bool gf)) (by kernel_rfl) ?_ (fun hHeld => ?_)
  · exact KX.out _ (Below.refl _ _).drew
  refine wpAnyH_take (i := 0) (oi := _) (v := ?_) rfl (by kernel_rfl) (by kernel_rfl) (by kernel_rfl) (fun _ _ _ h => h) (Or.inl ⟨by rfl, ?_⟩) (by assumption) ?_
  rotate_left
  · first | (intro w hSw; (try dsimp only at hSw); go_simp; done) | (intro w hSw; (try dsimp only at hSw); go_simp; with_reducible rfl)
  try simp only [Act.put, List.setIfInBounds_toArray, List.set_cons_zero, List.set_cons_succ, List.getElem_toArray, List.getElem_cons_zero]
  refine wpAnyH_take (i := 1) (oi := _) (v := ?_) rfl (by kernel_rfl) (by kernel_rfl) (by kernel_rfl) (fun _ _ _ h => h) (Or.inl ⟨by rfl, ?_⟩) (by assumption) ?_
  rotate_left
  · first | (intro w hSw; (try dsimp only at hSw); go_simp; done) | (intro w hSw; (try dsimp only at hSw); go_simp; with_reducible rfl)
  try simp only [Act.put, List.setIfInBounds_toArray, List.set_cons_zero, List.set_cons_succ, List.getElem_toArray, List.getElem_cons_succ, List.getElem_cons_zero]
  refine wpAnyH_take (i := 2) (oi := _) (v := ?_) rfl (by kernel_rfl) (by kernel_rfl) (by kernel_rfl) (fun _ _ _ h => h) (Or.inl ⟨by rfl, ?_⟩) (by assumption) ?_
  rotate_left
  · first | (intro w hSw; (try dsimp only at hSw); go_simp; done) | (intro w hSw; (try dsimp only at hSw); go_simp; with_reducible rfl)
  try simp only [Act.put, List.setIfInBounds_toArray, List.set_cons_zero, List.set_cons_succ, List.getElem_toArray, List.getElem_cons_succ, List.getElem_cons_zero]
  refine wpAnyH_take (i := 4) (oi := _) (v := ?_) rfl (by kernel_rfl) (by kernel_rfl) (by kernel_rfl) (fun _ _ _ h => h) (Or.inl ⟨by rfl, ?_⟩) (by assumption) ?_
  rotate_left
  · first | (intro w hSw; (try dsimp only at hSw); go_simp; done) | (intro w hSw; (try dsimp only at hSw); go_simp; with_reducible rfl)
  try simp only [Act.put, List.setIfInBounds_toArray, List.set_cons_zero, List.set_cons_succ, List.getElem_toArray, List.getElem_cons_succ, List.getElem_cons_zero]
  refine wpAnyH_take (i := 5) (oi := _) (v := ?_) rfl (by kernel_rfl) (by kernel_rfl) (by kernel_rfl) (fun _ _ _ h => h) (Or.inl ⟨by rfl, ?_⟩) (by assumption) ?_
  rotate_left
  · first | (intro w hSw; (try dsimp only at hSw); go_simp; done) | (intro w hSw; (try dsimp only at hSw); go_simp; with_reducible rfl)
  try simp only [Act.put, List.setIfInBounds_toArray, List.set_cons_zero, List.set_cons_succ, List.getElem_toArray, List.getElem_cons_succ, List.getElem_cons_zero]
  refine wpAnyH_ready (rs := [3]) (by kernel_rfl) (by simp) ?_
  refine AllReadyH.cons rfl (fun K hK => ?_) AllReadyH.nil
  go_simp
  go_wp2_with (go_at_call 68; refine (PR.out _ B0.out.drew).mono ?_; rintro e w1 ⟨rfl, b1⟩)
  have A1 : Hid (Below wA.heap.size wA w1) := bT ((Below.refl wA.heap.size wA).drew) b1
  clear b1
  refine hK.out _ _ ?_ (fun hHeld => ?_)
  · exact KX.out _ A1.out
  clear hK K
  refine wpAnyH_take (i := 6) (oi := _) (v := ?_) rfl (by kernel_rfl) (by kernel_rfl) (by kernel_rfl) (fun _ _ _ h => h) (Or.inl ⟨by rfl, ?_⟩) (by assumption) ?_
  rotate_left
  · first | (intro w hSw; (try dsimp only at hSw); go_simp; done) | (intro w hSw; (try dsimp only at hSw); go_simp; with_reducible rfl)
  try simp only [Act.put, List.setIfInBounds_toArray, List.set_cons_zero, List.set_cons_succ, List.getElem_toArray, List.getElem_cons_succ, List.getElem_cons_zero]
  refine wpAnyH_take (i := 7) (oi := _) (v := ?_) rfl (by kernel_rfl) (by kernel_rfl) (by kernel_rfl) (fun _ _ _ h => h) (Or.inl ⟨by rfl, ?_⟩) (by assumption) ?_
  rotate_left
  · first | (intro w hSw; (try dsimp only at hSw); go_simp; done) | (intro w hSw; (try dsimp only at hSw); go_simp; with_reducible rfl)
  try simp only [Act.put, List.setIfInBounds_toArray, List.set_cons_zero, List.set_cons_succ, List.getElem_toArray, List.getElem_cons_succ, List.getElem_cons_zero]
  refine wpAnyH_done (by kernel_rfl) ?_ _

  have D1 := Lib.hid (bT B0.out A1.out)
  go_wp2
  go_ret
  exact ⟨by first | rfl | (show Ending.returned (.int .i64 (IntKind.i64.wrap (s + fx))) = _; rw [wrap_sum s fx t0 t1 f0 f1]), D1.out⟩
/-- What a stage needs. -/
noncomputable def neeA (rs : List LSt) (ps : List LPr) (top pr st bu : Int) (bs : List LPr) (ls : List LPl) (us : List Int) (ai fx : Int) (gc gf : Bool) : Int := if B (StgR rs ps top pr st bu bs ls us ai fx gc gf) = true then totL bs + fx else -1

set_option maxRecDepth 100000 in
set_option maxHeartbeats 4000000 in
/-- impl.StageNeeds. -/
theorem isn_any (sl : Option Addr) (cap : Nat) (tl : Option Addr) (kap : Nat) (top pr st bu : Int) (bl : Option Addr) (cb : Nat) (pl : Option Addr) (cp : Nat) (ul : Option Addr) (cu : Nat) (ai fx : Int) (gc gf : Bool) (rs : List LSt) (ps : List LPr) (bs : List LPr) (ls : List LPl) (us : List Int) (w : World) (hn : rs.length ≤ 1048576) (hq : bs.length ≤ 1048576) (hl : ls.length ≤ 1048576) (hu : us.length ≤ 1048576) (hcp : ls.length ≤ cp) (hz : Sts w sl rs) (hp : Prs w tl ps) (hw : ∀ p ∈ ps, WfP p) (hbs : Prs w bl bs) (hls : Pls w pl ls) (hus : Ints w ul us) :
    Calls Tryz.prog 18 #[SgV sl rs.length cap tl ps.length kap top pr st bu bl bs.length cb pl ls.length cp ul us.length cu ai fx gc gf] w fun e w' => e = .returned (.int .i64 (neeA rs ps top pr st bu bs ls us ai fx gc gf)) ∧ Below w.heap.size w w' := by
  have CR : Hid (∀ W, Below w.heap.size w W → Calls Tryz.prog 9 #[SgV sl rs.length cap tl ps.length kap top pr st bu bl bs.length cb pl ls.length cp ul us.length cu ai fx gc gf] W fun e w' => e = .returned (.bool (B (StgR rs ps top pr st bu bs ls us ai fx gc gf))) ∧ Below W.heap.size W w') := fun W hW => isr_any sl cap tl kap top pr st bu bl cb pl cp ul cu ai fx gc gf rs ps bs ls us W hn hq hl hu hcp (hz.below hW) (hp.below hW) hw (hbs.below hW) (hls.below hW) (hus.below hW)
  have NE : Hid (B (StgR rs ps top pr st bu bs ls us ai fx gc gf) = true → ∀ W, Below w.heap.size w W → Calls Tryz.prog 38 #[SgV sl rs.length cap tl ps.length kap top pr st bu bl bs.length cb pl ls.length cp ul us.length cu ai fx gc gf] W fun e w' => e = .returned (.int .i64 (totL bs + fx)) ∧ Below W.heap.size W w') := fun g W hW => nee_any sl cap tl kap top pr st bu bl cb pl cp ul cu ai fx gc gf rs ps bs ls us W hq (B_true g).1.2.2.1.2 (B_true g).2.2.1 (hbs.below hW)
  clear hz hp hw hbs hls hus hcp hn hq hl hu
  have V0 := Lib.hid (show B (StgR rs ps top pr st bu bs ls us ai fx gc gf) = false → neeA rs ps top pr st bu bs ls us ai fx gc gf = -1 from fun g => if_neg (by rw [g]; simp))
  have V1 := Lib.hid (show B (StgR rs ps top pr st bu bs ls us ai fx gc gf) = true → neeA rs ps top pr st bu bs ls us ai fx gc gf = totL bs + fx from fun g => if_pos g)
  generalize neeA rs ps top pr st bu bs ls us ai fx gc gf = a at *
  generalize B (StgR rs ps top pr st bu bs ls us ai fx gc gf) = r at *
  generalize totL bs + fx = s at *
  generalize rs.length = n at *
  generalize ps.length = m at *
  generalize bs.length = q at *
  generalize ls.length = p at *
  generalize us.length = u at *
  have B0 := Lib.hid (bA0 w (.cells (SgC sl n cap tl m kap top pr st bu bl q cb pl p cp ul u cu ai fx gc gf) 44))
  have N0 := Lib.hid (new_at w (.cells (SgC sl n cap tl m kap top pr st bu bl q cb pl p cp ul u cu ai fx gc gf) 44))
  have hS : (w.alloc (.cells (SgC sl n cap tl m kap top pr st bu bl q cb pl p cp ul u cu ai fx gc gf) 44)).heap.size = w.heap.size + 1 := by simp

  go_enter Tryz.func18, Tryz.ntmps18
  go_wp2_with fail
  refine (CR.out _ B0.out).mono ?_
  rintro e w1 ⟨rfl, b1⟩
  have D1 := Lib.hid (bT B0.out b1)
  have M1 := Lib.hid ((b1.block w.heap.size (by rw [hS]; omega)).trans N0.out)
  obtain ⟨c0, c1, c2, c3, c4, c5, c6, c7, c8, c9, c10, c11, c12, cf, cl⟩ := cells13 M1.out
  clear b1 N0 hS B0 CR
  cases r
  · have HV := V0.out (by trivial)
    subst HV
    clear NE V0 V1
    go_wp2
    go_ret
    exact ⟨rfl, D1.out⟩
  · have HV := V1.out (by trivial)
    subst HV
    have NF := Lib.hid (NE.out (by trivial))
    clear NE V0 V1
    go_wp2_with fail
    refine (NF.out _ D1.out).mono ?_
    rintro e w2 ⟨rfl, b2⟩
    have D2 := Lib.hid (bT D1.out b2)
    clear b2
    go_wp2
    go_ret
    exact ⟨rfl, D2.out⟩

set_option maxRecDepth 100000 in
set_option maxHeartbeats 4000000 in
/-- spec.StageNeeds. -/
theorem ssn_any (sl : Option Addr) (cap : Nat) (tl : Option Addr) (kap : Nat) (top pr st bu : Int) (bl : Option Addr) (cb : Nat) (pl : Option Addr) (cp : Nat) (ul : Option Addr) (cu : Nat) (ai fx : Int) (gc gf : Bool) (rs : List LSt) (ps : List LPr) (bs : List LPr) (ls : List LPl) (us : List Int) (w : World) (hn : rs.length ≤ 1048576) (hq : bs.length ≤ 1048576) (hl : ls.length ≤ 1048576) (hu : us.length ≤ 1048576) (hz : Sts w sl rs) (hp : Prs w tl ps) (hbs : Prs w bl bs) (hls : Pls w pl ls) (hus : Ints w ul us) :
    Calls Tryz.prog 17 #[SgV sl rs.length cap tl ps.length kap top pr st bu bl bs.length cb pl ls.length cp ul us.length cu ai fx gc gf] w fun e w' => e = .returned (.int .i64 (neeA rs ps top pr st bu bs ls us ai fx gc gf)) ∧ Below w.heap.size w w' := by
  have CR : Hid (∀ W, Below w.heap.size w W → Calls Tryz.prog 7 #[SgV sl rs.length cap tl ps.length kap top pr st bu bl bs.length cb pl ls.length cp ul us.length cu ai fx gc gf] W fun e w' => e = .returned (.bool (B (StgR rs ps top pr st bu bs ls us ai fx gc gf))) ∧ Below W.heap.size W w') := fun W hW => ssr_any sl cap tl kap top pr st bu bl cb pl cp ul cu ai fx gc gf rs ps bs ls us W hn hq hl hu (hz.below hW) (hp.below hW) (hbs.below hW) (hls.below hW) (hus.below hW)
  have NE : Hid (B (StgR rs ps top pr st bu bs ls us ai fx gc gf) = true → (∀ W, Below w.heap.size w W → Calls Tryz.prog 37 #[CV sl rs.length cap tl ps.length kap top pr st bu bl bs.length cb pl ls.length cp] W fun e w' => e = .returned (.int .i64 (totL bs)) ∧ Below W.heap.size W w') ∧ 0 ≤ totL bs ∧ totL bs ≤ 2000000000000000 ∧ 0 ≤ fx ∧ fx ≤ 1000000000000) := fun g => by
    obtain ⟨t0, t1⟩ := totL_all bs hq (B_true g).1.2.2.1.2
    refine ⟨fun W hW => ?_, t0, t1, (B_true g).2.2.1.1, (B_true g).2.2.1.2⟩
    have := sct_any sl cap tl kap top pr st bu bl cb pl cp rs ps bs ls W hn hq hl (hz.below hW) (hp.below hW) (hbs.below hW) (hls.below hW)
    rwa [show totA rs ps top pr st bu bs ls = totL bs from if_pos (B_yes (B_true g).1)] at this
  clear hz hp hbs hls hus hn hq hl hu
  have V0 := Lib.hid (show B (StgR rs ps top pr st bu bs ls us ai fx gc gf) = false → neeA rs ps top pr st bu bs ls us ai fx gc gf = -1 from fun g => if_neg (by rw [g]; simp))
  have V1 := Lib.hid (show B (StgR rs ps top pr st bu bs ls us ai fx gc gf) = true → neeA rs ps top pr st bu bs ls us ai fx gc gf = totL bs + fx from fun g => if_pos g)
  generalize neeA rs ps top pr st bu bs ls us ai fx gc gf = a at *
  generalize B (StgR rs ps top pr st bu bs ls us ai fx gc gf) = r at *
  generalize totL bs = s at *
  generalize rs.length = n at *
  generalize ps.length = m at *
  generalize bs.length = q at *
  generalize ls.length = p at *
  generalize us.length = u at *
  have B0 := Lib.hid (bA0 w (.cells (SgC sl n cap tl m kap top pr st bu bl q cb pl p cp ul u cu ai fx gc gf) 44))
  have N0 := Lib.hid (new_at w (.cells (SgC sl n cap tl m kap top pr st bu bl q cb pl p cp ul u cu ai fx gc gf) 44))
  have hS : (w.alloc (.cells (SgC sl n cap tl m kap top pr st bu bl q cb pl p cp ul u cu ai fx gc gf) 44)).heap.size = w.heap.size + 1 := by simp

  go_enter Tryz.func17, Tryz.ntmps17
  go_wp2_with fail
  refine (CR.out _ B0.out).mono ?_
  rintro e w1 ⟨rfl, b1⟩
  have D1 := Lib.hid (bT B0.out b1)
  have M1 := Lib.hid ((b1.block w.heap.size (by rw [hS]; omega)).trans N0.out)
  obtain ⟨c0, c1, c2, c3, c4, c5, c6, c7, c8, c9, c10, c11, c12, cf, cl⟩ := cells13 M1.out
  have L1 := Lib.hid cl
  clear b1 N0 hS B0 CR
  cases r
  · have HV := V0.out (by trivial)
    subst HV
    clear NE V0 V1
    go_wp2
    go_ret
    exact ⟨rfl, D1.out⟩
  · have HV := V1.out (by trivial)
    subst HV
    obtain ⟨nf, t0, t1, f0, f1⟩ := NE.out (by trivial)
    have NF := Lib.hid nf
    clear NE nf V0 V1
    have KX : Hid (∀ W, Below w1.heap.size w1 W → w.heap.size < W.heap.size ∧ W.cell? ⟨w.heap.size, 0, none⟩ = some (.slice sl n cap) ∧ W.cell? ⟨w.heap.size, 1, none⟩ = some (.slice tl m kap) ∧ W.cell? ⟨w.heap.size, 2, none⟩ = some (.int .i64 top) ∧ W.cell? ⟨w.heap.size, 3, none⟩ = some (.int .i64 pr) ∧ W.cell? ⟨w.heap.size, 4, none⟩ = some (.int .i64 st) ∧ W.cell? ⟨w.heap.size, 5, none⟩ = some (.int .i64 bu) ∧ W.cell? ⟨w.heap.size, 6, none⟩ = some (.slice bl q cb) ∧ W.cell? ⟨w.heap.size, 7, none⟩ = some (.slice pl p cp) ∧ W.cell? ⟨w.heap.size, 8, none⟩ = some (.slice ul u cu) ∧ W.cell? ⟨w.heap.size, 9, none⟩ = some (.int .i64 ai) ∧ W.cell? ⟨w.heap.size, 10, none⟩ = some (.int .i64 fx) ∧ W.cell? ⟨w.heap.size, 11, none⟩ = some (.bool gc) ∧ W.cell? ⟨w.heap.size, 12, none⟩ = some (.bool gf)) := fun W hW => by
      obtain ⟨c0, c1, c2, c3, c4, c5, c6, c7, c8, c9, c10, c11, c12, cf, cl⟩ := cells13 ((hW.block w.heap.size (by exact L1.out)).trans M1.out)
      exact ⟨cl, c0, c1, c2, c3, c4, c5, c6, c7, c8, c9, c10, c11, c12⟩

    go_wp2_with fail
    refine wp_region_held_drew (S := fun W => w.heap.size < W.heap.size ∧ W.cell? ⟨w.heap.size, 0, none⟩ = some (.slice sl n cap) ∧ W.cell? ⟨w.heap.size, 1, none⟩ = some (.slice tl m kap) ∧ W.cell? ⟨w.heap.size, 2, none⟩ = some (.int .i64 top) ∧ W.cell? ⟨w.heap.size, 3, none⟩ = some (.int .i64 pr) ∧ W.cell? ⟨w.heap.size, 4, none⟩ = some (.int .i64 st) ∧ W.cell? ⟨w.heap.size, 5, none⟩ = some (.int .i64 bu) ∧ W.cell? ⟨w.heap.size, 6, none⟩ = some (.slice bl q cb) ∧ W.cell? ⟨w.heap.size, 7, none⟩ = some (.slice pl p cp) ∧ W.cell? ⟨w.heap.size, 8, none⟩ = some (.slice ul u cu) ∧ W.cell? ⟨w.heap.size, 9, none⟩ = some (.int .i64 ai) ∧ W.cell? ⟨w.heap.size, 10, none⟩ = some (.int .i64 fx) ∧ W.cell? ⟨w.heap.size, 11, none⟩ = some (.bool gc) ∧ W.cell? ⟨w.heap.size, 12, none⟩ = some (.bool gf)) (by kernel_rfl) ?_ (fun hHeld => ?_)
    · exact KX.out _ (Below.refl _ _).drew
    refine wpAnyH_take (i := 0) (oi := _) (v := ?_) rfl (by kernel_rfl) (by kernel_rfl) (by kernel_rfl) (fun _ _ _ h => h) (Or.inl ⟨by rfl, ?_⟩) (by assumption) ?_
    rotate_left
    · first | (intro w hSw; (try dsimp only at hSw); go_simp; done) | (intro w hSw; (try dsimp only at hSw); go_simp; with_reducible rfl)
    try simp only [Act.put, List.setIfInBounds_toArray, List.set_cons_zero, List.set_cons_succ, List.getElem_toArray, List.getElem_cons_zero]
    refine wpAnyH_take (i := 1) (oi := _) (v := ?_) rfl (by kernel_rfl) (by kernel_rfl) (by kernel_rfl) (fun _ _ _ h => h) (Or.inl ⟨by rfl, ?_⟩) (by assumption) ?_
    rotate_left
    · first | (intro w hSw; (try dsimp only at hSw); go_simp; done) | (intro w hSw; (try dsimp only at hSw); go_simp; with_reducible rfl)
    try simp only [Act.put, List.setIfInBounds_toArray, List.set_cons_zero, List.set_cons_succ, List.getElem_toArray, List.getElem_cons_succ, List.getElem_cons_zero]
    refine wpAnyH_take (i := 3) (oi := _) (v := ?_) rfl (by kernel_rfl) (by kernel_rfl) (by kernel_rfl) (fun _ _ _ h => h) (Or.inl ⟨by rfl, ?_⟩) (by assumption) ?_
    rotate_left
    · first | (intro w hSw; (try dsimp only at hSw); go_simp; done) | (intro w hSw; (try dsimp only at hSw); go_simp; with_reducible rfl)
    try simp only [Act.put, List.setIfInBounds_toArray, List.set_cons_zero, List.set_cons_succ, List.getElem_toArray, List.getElem_cons_succ, List.getElem_cons_zero]
    refine wpAnyH_take (i := 4) (oi := _) (v := ?_) rfl (by kernel_rfl) (by kernel_rfl) (by kernel_rfl) (fun _ _ _ h => h) (Or.inl ⟨by rfl, ?_⟩) (by assumption) ?_
    rotate_left
    · first | (intro w hSw; (try dsimp only at hSw); go_simp; done) | (intro w hSw; (try dsimp only at hSw); go_simp; with_reducible rfl)
    try simp only [Act.put, List.setIfInBounds_toArray, List.set_cons_zero, List.set_cons_succ, List.getElem_toArray, List.getElem_cons_succ, List.getElem_cons_zero]
    refine wpAnyH_ready (rs := [2]) (by kernel_rfl) (by simp) ?_
    refine AllReadyH.cons rfl (fun K hK => ?_) AllReadyH.nil
    go_simp
    go_wp2_with (go_at_call 37; refine (NF.out _ D1.out.drew).mono ?_; rintro e w2 ⟨rfl, b2⟩)
    have A2 : Hid (Below w1.heap.size w1 w2) := bT ((Below.refl w1.heap.size w1).drew) b2
    clear b2
    refine hK.out _ _ ?_ (fun hHeld => ?_)
    · exact KX.out _ A2.out
    clear hK K
    refine wpAnyH_take (i := 5) (oi := _) (v := ?_) rfl (by kernel_rfl) (by kernel_rfl) (by kernel_rfl) (fun _ _ _ h => h) (Or.inl ⟨by rfl, ?_⟩) (by assumption) ?_
    rotate_left
    · first | (intro w hSw; (try dsimp only at hSw); go_simp; done) | (intro w hSw; (try dsimp only at hSw); go_simp; with_reducible rfl)
    try simp only [Act.put, List.setIfInBounds_toArray, List.set_cons_zero, List.set_cons_succ, List.getElem_toArray, List.getElem_cons_succ, List.getElem_cons_zero]
    refine wpAnyH_take (i := 6) (oi := _) (v := ?_) rfl (by kernel_rfl) (by kernel_rfl) (by kernel_rfl) (fun _ _ _ h => h) (Or.inl ⟨by rfl, ?_⟩) (by assumption) ?_
    rotate_left
    · first | (intro w hSw; (try dsimp only at hSw); go_simp; done) | (intro w hSw; (try dsimp only at hSw); go_simp; with_reducible rfl)
    try simp only [Act.put, List.setIfInBounds_toArray, List.set_cons_zero, List.set_cons_succ, List.getElem_toArray, List.getElem_cons_succ, List.getElem_cons_zero]
    refine wpAnyH_done (by kernel_rfl) ?_ _

    have D2 := Lib.hid (bT D1.out A2.out)
    go_wp2
    go_ret
    exact ⟨by first | rfl | (show Ending.returned (.int .i64 (IntKind.i64.wrap (s + fx))) = _; rw [wrap_sum s fx t0 t1 f0 f1]), D2.out⟩
theorem neeA_bare {rs rs' : List LSt} (ps : List LPr) (top pr st bu : Int) (bs : List LPr) (ls : List LPl) (us : List Int) (ai fx : Int) (gc gf : Bool) (h : bareS rs = bareS rs') : neeA rs ps top pr st bu bs ls us ai fx gc gf = neeA rs' ps top pr st bu bs ls us ai fx gc gf := by
  unfold neeA
  rw [stg_bare ps top pr st bu bs ls us ai fx gc gf h]
end Go.Proofs.YtmmikbkgkpnkbaaGreat
