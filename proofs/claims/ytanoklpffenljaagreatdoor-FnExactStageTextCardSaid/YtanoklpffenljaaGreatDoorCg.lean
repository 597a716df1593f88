/-
  IS A CLOCK RIGHT? As the model answers it; and that both answers are the same.
-/
import Derived.Test.YtanoklpffenljaaGreatDoorCf
import Derived.Test.YtanoklpffenljaaGreatDoorPg
namespace Go.Proofs.YtanoklpffenljaaGreatDoor
open Go.RowKit
set_option linter.unusedVariables false

/-- A Bid as the model asks it. -/
def SBid (on : List Int) (b : LPr) : Prop := BidOK b ∧ (b.1 ∈ on ↔ b.2.1 = 3)
def SBids (bs : List LPr) (ids on : List Int) : Prop := bidsI bs = ids ∧ ∀ b ∈ bs, SBid on b
def SBidsTo (bs : List LPr) (ids on : List Int) (k : Nat) : Prop := ∀ i (h : i < bs.length), i < k → bs[i].1 = ids.getD i 0 ∧ SBid on bs[i]
theorem SBidsTo.step {bs : List LPr} {ids on : List Int} {k : Nat} (h : SBidsTo bs ids on k) (hk : k < bs.length) (h1 : bs[k].1 = ids.getD k 0) (h2 : SBid on bs[k]) : SBidsTo bs ids on (k + 1) := by
  intro i hi hik
  by_cases e : i = k
  · subst e; exact ⟨h1, h2⟩
  · exact h i hi (by omega)
theorem SBidsTo.all {bs : List LPr} {ids on : List Int} {k : Nat} (h : SBidsTo bs ids on k) (hl : bs.length = ids.length) (hk : bs.length ≤ k) : SBids bs ids on := by
  refine ⟨?_, fun b hb => ?_⟩
  · apply List.ext_getElem (by simpa [bidsI] using hl)
    intro i h1 h2
    have h1' : i < bs.length := by simpa [bidsI] using h1
    have := (h i h1' (by omega)).1
    simpa [bidsI, h2] using this
  · obtain ⟨i, hi, rfl⟩ := List.getElem_of_mem hb
    exact (h i hi (by omega)).2
theorem SBids.at {bs : List LPr} {ids on : List Int} (h : SBids bs ids on) (k : Nat) (hk : k < bs.length) : bs[k].1 = ids.getD k 0 ∧ SBid on bs[k] := by
  refine ⟨?_, h.2 _ (List.getElem_mem hk)⟩
  rw [← h.1]
  simp [bidsI, hk]
/-- A right clock, as the model asks it. -/
def SClkR (rs : List LSt) (ps : List LPr) (top pr st bu : Int) (bs : List LPr) (ls : List LPl) : Prop :=
  TabR rs ps ∧ NumR top pr st bu ∧ bs.length = rs.length ∧ planB rs ps top ls = true ∧ SBids bs (idsL rs) (pidsA ls)

set_option maxRecDepth 100000 in
set_option maxHeartbeats 20000000 in
/-- spec.ClockRight. -/
theorem scr_any (sl : Option Addr) (cap : Nat) (tl : Option Addr) (kap : Nat) (top pr st bu : Int) (bl : Option Addr) (cb : Nat) (pl : Option Addr) (cp : Nat) (rs : List LSt) (ps : List LPr) (bs : List LPr) (ls : List LPl) (w : World) (hn : rs.length ≤ 1048576) (hq : bs.length ≤ 1048576) (hl : ls.length ≤ 1048576) (hz : Sts w sl rs) (hp : Prs w tl ps) (hbs : Prs w bl bs) (hls : Pls w pl ls) :
    Calls Tryz.prog 21 #[CV sl rs.length cap tl ps.length kap top pr st bu bl bs.length cb pl ls.length cp] w fun e w' => e = .returned (.bool (B (SClkR rs ps top pr st bu bs ls))) ∧ Below w.heap.size w w' := by
  have TR : Hid (∀ W, Below w.heap.size w W → Calls Tryz.prog 50 #[TV sl rs.length cap tl ps.length kap] W fun e w' => e = .returned (.bool (B (TabR rs ps))) ∧ Below W.heap.size W w') := fun W hW => str_any sl cap tl kap rs ps W (hz.below hW) (hp.below hW)
  have NU := Lib.hid (snum_any top pr st bu)
  have PR : Hid (∀ W, Below w.heap.size w W → Calls Tryz.prog 52 #[TV sl rs.length cap tl ps.length kap, .int .i64 top, .slice pl ls.length cp] W fun e w' => e = .returned (.bool (planB rs ps top ls)) ∧ Below W.heap.size W w') := fun W hW => spr_any sl cap tl kap pl cp rs ps ls top W hn hl (hz.below hW) (hp.below hW) (hls.below hW)
  have PI : Hid (∀ W, Below w.heap.size w W → Calls Tryz.prog 53 #[.slice pl ls.length cp] W fun e w' => ∃ s k, e = .returned (.slice s (pidsA ls).length k) ∧ Ints w' s (pidsA ls) ∧ Below W.heap.size W w') := fun W hW => (spi_any pl cp ls W (by unfold maxLen; omega) (hls.below hW)).mono fun e w' ⟨v, e1, o1, b1⟩ => by
    obtain ⟨s, k, rfl, hi⟩ := own_ints o1
    exact ⟨s, k, e1, hi, b1⟩
  have HA : Hid (∀ x W s k, Ints W s (pidsA ls) → Calls Tryz.prog 54 #[.slice s (pidsA ls).length k, .int .i64 x] W fun e w' => e = .returned (.bool (B (x ∈ pidsA ls))) ∧ w' = W) := fun x W s k h1 => lh_any s k _ x W (by have := pidsA_len ls; unfold maxLen; omega) h1
  by_cases g1 : TabR rs ps
  case neg =>
    rw [B_no (fun h => g1 h.1)]
    rw [B_no g1] at TR
    clear g1 NU PR PI HA hz hp hbs hls
    generalize rs.length = n at *
    generalize ps.length = m at *
    generalize bs.length = q at *
    generalize ls.length = p at *
    have B0 := Lib.hid (bA0 w (.cells (CC sl n cap tl m kap top pr st bu bl q cb pl p cp) 39))
    have N0 := Lib.hid (new_at w (.cells (CC sl n cap tl m kap top pr st bu bl q cb pl p cp) 39))
    have hS : (w.alloc (.cells (CC sl n cap tl m kap top pr st bu bl q cb pl p cp) 39)).heap.size = w.heap.size + 1 := by simp
    have KC : Hid (∀ W, Below (w.heap.size + 1) (w.alloc (.cells (CC sl n cap tl m kap top pr st bu bl q cb pl p cp) 39)) W → W.heap[w.heap.size]? = some (.cells (CC sl n cap tl m kap top pr st bu bl q cb pl p cp) 39)) := fun W hW => (hW.block w.heap.size (by omega)).trans N0.out
    clear N0
    go_enter Tryz.func21, Tryz.ntmps21
    go_wp2_with fail
    refine (TR.out _ B0.out).mono ?_
    rintro e w1 ⟨rfl, b1⟩
    have D1 := Lib.hid (bT B0.out b1)
    have k1 := KC.out w1 (by rw [← hS]; exact b1)
    obtain ⟨c0, c1, c2, c3, c4, c5, c6, c7, cf, cl⟩ := cells8 k1
    have M1 := Lib.hid k1
    clear b1 k1
    go_wp2
    go_ret
    exact ⟨rfl, D1.out⟩

  rw [B_yes g1] at TR
  by_cases g2 : NumR top pr st bu
  case neg =>
    rw [B_no (fun h => g2 h.2.1)]
    rw [B_no g2] at NU
    clear g1 g2 PR PI HA hz hp hbs hls
    generalize rs.length = n at *
    generalize ps.length = m at *
    generalize bs.length = q at *
    generalize ls.length = p at *
    have B0 := Lib.hid (bA0 w (.cells (CC sl n cap tl m kap top pr st bu bl q cb pl p cp) 39))
    have N0 := Lib.hid (new_at w (.cells (CC sl n cap tl m kap top pr st bu bl q cb pl p cp) 39))
    have hS : (w.alloc (.cells (CC sl n cap tl m kap top pr st bu bl q cb pl p cp) 39)).heap.size = w.heap.size + 1 := by simp
    have KC : Hid (∀ W, Below (w.heap.size + 1) (w.alloc (.cells (CC sl n cap tl m kap top pr st bu bl q cb pl p cp) 39)) W → W.heap[w.heap.size]? = some (.cells (CC sl n cap tl m kap top pr st bu bl q cb pl p cp) 39)) := fun W hW => (hW.block w.heap.size (by omega)).trans N0.out
    clear N0
    go_enter Tryz.func21, Tryz.ntmps21
    go_wp2_with fail
    refine (TR.out _ B0.out).mono ?_
    rintro e w1 ⟨rfl, b1⟩
    have D1 := Lib.hid (bT B0.out b1)
    have k1 := KC.out w1 (by rw [← hS]; exact b1)
    obtain ⟨c0, c1, c2, c3, c4, c5, c6, c7, cf, cl⟩ := cells8 k1
    have M1 := Lib.hid k1
    clear b1 k1
    go_wp2_with fail
    refine (NU.out _).mono ?_
    rintro e w1' ⟨rfl, rfl⟩
    go_wp2
    go_ret
    exact ⟨rfl, D1.out⟩

  rw [B_yes g2] at NU
  by_cases g3 : bs.length = rs.length
  case neg =>
    rw [B_no (fun h => g3 h.2.2.1)]
    have g3' : ((bs.length : Int) != (rs.length : Int)) = true := by simp; omega
    clear g1 g2 g3 PR PI HA hz hp hbs hls
    generalize rs.length = n at *
    generalize ps.length = m at *
    generalize bs.length = q at *
    generalize ls.length = p at *
    have B0 := Lib.hid (bA0 w (.cells (CC sl n cap tl m kap top pr st bu bl q cb pl p cp) 39))
    have N0 := Lib.hid (new_at w (.cells (CC sl n cap tl m kap top pr st bu bl q cb pl p cp) 39))
    have hS : (w.alloc (.cells (CC sl n cap tl m kap top pr st bu bl q cb pl p cp) 39)).heap.size = w.heap.size + 1 := by simp
    have KC : Hid (∀ W, Below (w.heap.size + 1) (w.alloc (.cells (CC sl n cap tl m kap top pr st bu bl q cb pl p cp) 39)) W → W.heap[w.heap.size]? = some (.cells (CC sl n cap tl m kap top pr st bu bl q cb pl p cp) 39)) := fun W hW => (hW.block w.heap.size (by omega)).trans N0.out
    clear N0
    go_enter Tryz.func21, Tryz.ntmps21
    go_wp2_with fail
    refine (TR.out _ B0.out).mono ?_
    rintro e w1 ⟨rfl, b1⟩
    have D1 := Lib.hid (bT B0.out b1)
    have k1 := KC.out w1 (by rw [← hS]; exact b1)
    obtain ⟨c0, c1, c2, c3, c4, c5, c6, c7, cf, cl⟩ := cells8 k1
    have M1 := Lib.hid k1
    clear b1 k1
    go_wp2_with fail
    refine (NU.out _).mono ?_
    rintro e w1' ⟨rfl, rfl⟩
    go_wp2
    go_ret
    exact ⟨rfl, D1.out⟩

  by_cases g4 : planB rs ps top ls = true
  case neg =>
    rw [B_no (fun h => g4 h.2.2.2.1)]
    rw [show planB rs ps top ls = false by simpa using g4] at PR
    have g3' : ((bs.length : Int) != (rs.length : Int)) = false := by simp; omega
    clear g1 g2 g3 g4 PI HA hz hp hbs hls
    generalize rs.length = n at *
    generalize ps.length = m at *
    generalize bs.length = q at *
    generalize ls.length = p at *
    have B0 := Lib.hid (bA0 w (.cells (CC sl n cap tl m kap top pr st bu bl q cb pl p cp) 39))
    have N0 := Lib.hid (new_at w (.cells (CC sl n cap tl m kap top pr st bu bl q cb pl p cp) 39))
    have hS : (w.alloc (.cells (CC sl n cap tl m kap top pr st bu bl q cb pl p cp) 39)).heap.size = w.heap.size + 1 := by simp
    have KC : Hid (∀ W, Below (w.heap.size + 1) (w.alloc (.cells (CC sl n cap tl m kap top pr st bu bl q cb pl p cp) 39)) W → W.heap[w.heap.size]? = some (.cells (CC sl n cap tl m kap top pr st bu bl q cb pl p cp) 39)) := fun W hW => (hW.block w.heap.size (by omega)).trans N0.out
    clear N0
    go_enter Tryz.func21, Tryz.ntmps21
    go_wp2_with fail
    refine (TR.out _ B0.out).mono ?_
    rintro e w1 ⟨rfl, b1⟩
    have D1 := Lib.hid (bT B0.out b1)
    have k1 := KC.out w1 (by rw [← hS]; exact b1)
    obtain ⟨c0, c1, c2, c3, c4, c5, c6, c7, cf, cl⟩ := cells8 k1
    have M1 := Lib.hid k1
    clear b1 k1
    go_wp2_with fail
    refine (NU.out _).mono ?_
    rintro e w1' ⟨rfl, rfl⟩
    go_wp2_with fail
    refine (PR.out _ D1.out).mono ?_
    rintro e w2 ⟨rfl, b2⟩
    have D2 := Lib.hid (bT D1.out b2)
    have M2 := Lib.hid ((b2.block _ cl).trans M1.out)
    clear b2
    go_wp2
    go_ret
    exact ⟨rfl, D2.out⟩

  rw [g4] at PR
  rw [show B (SClkR rs ps top pr st bu bs ls) = B (SBids bs (idsL rs) (pidsA ls)) from B_iff ⟨fun h => h.2.2.2.2, fun h => ⟨g1, g2, g3, g4, h⟩⟩]
  have g3' : ((bs.length : Int) != (rs.length : Int)) = false := by simp; omega
  have YY := Lib.hid (show ∀ k, bs.length ≤ k → SBidsTo bs (idsL rs) (pidsA ls) k → B (SBids bs (idsL rs) (pidsA ls)) = true from fun k hk h => B_yes (h.all (by rw [idsL_len]; exact g3) hk))
  have NN := Lib.hid (show ∀ (k : Nat) (b : LPr), bs[k]? = some b → ¬ (b.1 = (idsL rs).getD k 0 ∧ SBid (pidsA ls) b) → B (SBids bs (idsL rs) (pidsA ls)) = false from fun k b hb h => B_no (fun g => h (by obtain ⟨hk, rfl⟩ := List.getElem?_eq_some_iff.1 hb; exact g.at k hk)))
  have ST := Lib.hid (show ∀ (k : Nat) (b : LPr), bs[k]? = some b → SBidsTo bs (idsL rs) (pidsA ls) k → (b.1 = (idsL rs).getD k 0 ∧ SBid (pidsA ls) b) → SBidsTo bs (idsL rs) (pidsA ls) (k + 1) from fun k b hb h g => by obtain ⟨hk, rfl⟩ := List.getElem?_eq_some_iff.1 hb; exact h.step hk g.1 g.2)
  have HZ := Lib.hid hz
  have HB := Lib.hid hbs
  have HL := Lib.hid g3
  clear g1 g2 g3 g4 hz hp hbs hls
  generalize hN : rs.length = n at *
  generalize ps.length = m at *
  generalize hQ : bs.length = q at *
  generalize ls.length = p at *
  generalize (pidsA ls).length = a at *
  generalize B (SBids bs (idsL rs) (pidsA ls)) = r at *
  have HN := Lib.hid hN
  have HQ := Lib.hid hQ
  clear hN hQ
  have B0 := Lib.hid (bA0 w (.cells (CC sl n cap tl m kap top pr st bu bl q cb pl p cp) 39))
  have N0 := Lib.hid (new_at w (.cells (CC sl n cap tl m kap top pr st bu bl q cb pl p cp) 39))
  have hS : (w.alloc (.cells (CC sl n cap tl m kap top pr st bu bl q cb pl p cp) 39)).heap.size = w.heap.size + 1 := by simp
  have KC : Hid (∀ W, Below (w.heap.size + 1) (w.alloc (.cells (CC sl n cap tl m kap top pr st bu bl q cb pl p cp) 39)) W → W.heap[w.heap.size]? = some (.cells (CC sl n cap tl m kap top pr st bu bl q cb pl p cp) 39)) := fun W hW => (hW.block w.heap.size (by omega)).trans N0.out
  clear N0
  go_enter Tryz.func21, Tryz.ntmps21
  go_wp2_with fail
  refine (TR.out _ B0.out).mono ?_
  rintro e w1 ⟨rfl, b1⟩
  have D1 := Lib.hid (bT B0.out b1)
  have k1 := KC.out w1 (by rw [← hS]; exact b1)
  obtain ⟨c0, c1, c2, c3, c4, c5, c6, c7, cf, cl⟩ := cells8 k1
  have M1 := Lib.hid k1
  clear b1 k1
  go_wp2_with fail
  refine (NU.out _).mono ?_
  rintro e w1' ⟨rfl, rfl⟩
  go_wp2_with fail
  refine (PR.out _ D1.out).mono ?_
  rintro e w2 ⟨rfl, b2⟩
  have D2 := Lib.hid (bT D1.out b2)
  have M2 := Lib.hid ((b2.block _ cl).trans M1.out)
  clear b2
  clear c0 c1 c2 c3 c4 c5 c6 c7 cf cl M1 D1
  obtain ⟨c0, c1, c2, c3, c4, c5, c6, c7, cf, cl⟩ := cells8 M2.out
  go_wp2_with fail
  refine (PI.out _ D2.out).mono ?_
  rintro e w3 ⟨s, kk, rfl, i3, b3⟩
  have D3 := Lib.hid (bT D2.out b3)
  have M3 := Lib.hid ((b3.block _ cl).trans M2.out)
  have I3 := Lib.hid i3
  have L3 := Lib.hid (Nat.lt_of_lt_of_le cl b3.size)
  clear b3 i3 c0 c1 c2 c3 c4 c5 c6 c7 cf cl M2 D2
  go_wp2
  go_loopw [4] (fun i wr => ∃ k : Nat, i = .int .i64 k ∧ k ≤ q ∧ Hid (SBidsTo bs (idsL rs) (pidsA ls) k) ∧ Hid (Below w.heap.size w wr) ∧ Hid (Below w3.heap.size w3 wr)) (fun i _ => q - (intOf i).toNat)
  case atStart => exact ⟨0, rfl, Nat.zero_le _, fun i h h' => absurd h' (Nat.not_lt_zero _), D3, Below.refl _ _⟩
  case round =>
    obtain ⟨k, rfl, hk, H1, H2, H3⟩ := hrel
    have hk0 : (0 : Int) ≤ (k : Int) := by omega
    obtain ⟨c0, c1, c2, c3, c4, c5, c6, c7, cf, cl⟩ := cells8 ((H3.out.block _ L3.out).trans M3.out)
    by_cases h1 : k < q
    · have h1' : (k : Int) < (q : Int) := by omega
      have h2' : (k : Int) < (n : Int) := by have := HL.out; omega
      have hlt : k < bs.length := by rw [HQ.out]; exact h1
      have hlt2 : k < rs.length := by rw [HN.out]; omega
      obtain ⟨g, o, rfl, ZI⟩ : ∃ c o, bl = some ⟨c, o, none⟩ ∧ PrAt w c o bs := by
        rcases HB.out with e | h
        · rw [e] at hlt; simp at hlt
        · exact h
      obtain ⟨g2, o2, rfl, YI⟩ : ∃ c o, sl = some ⟨c, o, none⟩ ∧ StAt w c o rs := by
        rcases HZ.out.row with e | h
        · rw [e] at hlt2; simp at hlt2
        · exact h
      obtain ⟨e0, e1, e2⟩ := (ZI.below H2.out).cell k hlt
      have zl := (ZI.below H2.out).lt
      obtain ⟨f0, f1, f2⟩ := (YI.below H2.out).cell k hlt2
      have yl := (YI.below H2.out).lt
      have N1 := Lib.hid (NN.out k _ (List.getElem?_eq_getElem hlt))
      have S1 := Lib.hid (ST.out k _ (List.getElem?_eq_getElem hlt) H1.out)
      rw [idsL_get rs k hlt2] at N1 S1
      clear f1 f2
      generalize rs[k].1 = i at *
      obtain ⟨x, y, z, hp⟩ : ∃ a b q, bs[k] = (a, b, q) := ⟨_, _, _, rfl⟩
      rw [hp] at e0 e1 e2 N1 S1
      unfold SBid BidOK at N1 S1
      dsimp only at e0 e1 e2 N1 S1
      clear hp hlt hlt2 ZI YI H1
      have HAS := Lib.hid (fun W => HA.out x W s kk)
      have KI : Hid (∀ nq, Ints ((wr.alloc (.cells #[.int .i64 x, .int .i64 y, .int .i64 z] 58)).drewN nq) s (pidsA ls)) := fun nq => I3.out.below (below_drewN (bA H3.out (.cells #[.int .i64 x, .int .i64 y, .int .i64 z] 58)) nq)
      have KD : Hid (∀ nq, Hid (Below w3.heap.size w3 ((wr.alloc (.cells #[.int .i64 x, .int .i64 y, .int .i64 z] 58)).drewN nq))) := fun nq => below_drewN (bA H3.out (.cells #[.int .i64 x, .int .i64 y, .int .i64 z] 58)) nq
      have D5 := Lib.hid (bA H2.out (.cells #[.int .i64 x, .int .i64 y, .int .i64 z] 58))
      clear NN ST YY TR NU PR PI HA HZ HB HN HQ B0 hS KC D3 M3 I3 L3 H3 c1 c2 c3 c4 c5 c7 cf
      by_cases e3 : x = i
      case neg =>
        have e' : (x != i) = true := by simpa using e3
        have HF := N1.out (fun h => e3 h.1)
        subst HF
        clear e3
        go_wp2
        go_quiet (fail)
        go_wp2
        go_ret
        exact ⟨rfl, below_drewN D5.out _⟩

      have e' : (x != i) = false := by simpa using e3
      by_cases e4 : 1 ≤ y
      case neg =>
        have HF := N1.out (fun h => e4 h.2.1.1.1)
        subst HF
        clear e3
        go_wp2
        go_quiet (fail)
        go_wp2
        go_ret
        exact ⟨rfl, below_drewN D5.out _⟩

      by_cases e5 : y ≤ 4
      case neg =>
        have HF := N1.out (fun h => e5 h.2.1.1.2)
        subst HF
        have e5' : (4 : Int) < y := by omega
        have d4 : decide (y < 1) = false := decide_eq_false (by omega)
        have d5 : decide (4 < y) = true := decide_eq_true (by omega)
        clear e3
        go_wp2
        go_quiet (fail)
        go_wp2
        go_ret
        exact ⟨rfl, below_drewN D5.out _⟩

      by_cases e6 : 0 ≤ z
      case neg =>
        have HF := N1.out (fun h => e6 h.2.1.2.1)
        subst HF
        have d4 : decide (y < 1) = false := decide_eq_false (by omega)
        have d5 : decide (4 < y) = false := decide_eq_false (by omega)
        have d6 : decide (z < 0) = true := decide_eq_true (by omega)
        clear e3
        go_wp2
        go_quiet (fail)
        go_wp2
        go_ret
        exact ⟨rfl, below_drewN D5.out _⟩

      by_cases e7 : z ≤ 1000000000
      case neg =>
        have HF := N1.out (fun h => e7 h.2.1.2.2)
        subst HF
        have d4 : decide (y < 1) = false := decide_eq_false (by omega)
        have d5 : decide (4 < y) = false := decide_eq_false (by omega)
        have d6 : decide (z < 0) = false := decide_eq_false (by omega)
        have d7 : decide (1000000000 < z) = true := decide_eq_true (by omega)
        clear e3
        go_wp2
        go_quiet (fail)
        go_wp2
        go_ret
        exact ⟨rfl, below_drewN D5.out _⟩

      by_cases e8 : x ∈ pidsA ls
      · rw [B_yes e8] at HAS
        by_cases e9 : y = 3
        · have S2 := Lib.hid (S1.out ⟨e3, ⟨⟨e4, e5⟩, e6, e7⟩, ⟨fun _ => e9, fun _ => e8⟩⟩)
          have e10 : (y == 3) = true := by simpa using e9
          clear e3 e8 e9 e4 e5
          have e4 : 1 ≤ y := by have := eq_of_beq e10; omega
          have e5 : y ≤ 4 := by have := eq_of_beq e10; omega
          go_wp2
          go_quiet (first | (go_at_call 54; exact Calls.quiet_of_same (HAS.out _ (KI.out _))))
          go_wp2
          go_roundw
          case rel => exact ⟨k + 1, by go_num, by omega, S2, below_drewN D5.out _, KD.out _⟩
          case measure => simp [intOf]; omega

        · have HF := N1.out (fun h => e9 (h.2.2.1 e8))
          subst HF
          have e10 : (y == 3) = false := by simpa using e9
          clear e3 e8 e9
          go_wp2
          go_quiet (first | (go_at_call 54; exact Calls.quiet_of_same (HAS.out _ (KI.out _))))
          go_wp2
          go_ret
          exact ⟨rfl, below_drewN D5.out _⟩

      · rw [B_no e8] at HAS
        by_cases e9 : y = 3
        · have HF := N1.out (fun h => e8 (h.2.2.2 e9))
          subst HF
          have e10 : (y == 3) = true := by simpa using e9
          clear e3 e8 e9
          go_wp2
          go_quiet (first | (go_at_call 54; exact Calls.quiet_of_same (HAS.out _ (KI.out _))))
          go_wp2
          go_ret
          exact ⟨rfl, below_drewN D5.out _⟩

        · have S2 := Lib.hid (S1.out ⟨e3, ⟨⟨e4, e5⟩, e6, e7⟩, ⟨fun h => absurd h e8, fun h => absurd h e9⟩⟩)
          have e10 : (y == 3) = false := by simpa using e9
          clear e3 e8 e9
          go_wp2
          go_quiet (first | (go_at_call 54; exact Calls.quiet_of_same (HAS.out _ (KI.out _))))
          go_wp2
          go_roundw
          case rel => exact ⟨k + 1, by go_num, by omega, S2, below_drewN D5.out _, KD.out _⟩
          case measure => simp [intOf]; omega

    · have h1' : ¬ (k : Int) < (q : Int) := by omega
      have HE := YY.out k (by omega) H1.out
      subst HE
      go_wp2
      go_ret
      exact ⟨rfl, H2.out⟩

end Go.Proofs.YtanoklpffenljaaGreatDoor
