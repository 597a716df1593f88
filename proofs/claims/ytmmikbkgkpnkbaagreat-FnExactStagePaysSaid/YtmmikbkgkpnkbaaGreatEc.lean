/-
  IS A STAGE RIGHT? As the program answers it.
-/
import Derived.Test.YtmmikbkgkpnkbaaGreatEb
import Derived.Test.YtmmikbkgkpnkbaaGreatCf
namespace Go.Proofs.YtmmikbkgkpnkbaaGreat
open Go.RowKit
set_option linter.unusedVariables false

/-- A right stage. -/
def StgR (rs : List LSt) (ps : List LPr) (top pr st bu : Int) (bs : List LPr) (ls : List LPl) (us : List Int) (ai fx : Int) (gc gf : Bool) : Prop :=
  ClkR rs ps top pr st bu bs ls ∧ TopsR us ∧ NouR fx ∧ 0 ≤ ai ∧ ai < (us.length : Int) ∧ us.getD ai.toNat 0 = top ∧ ¬ (gc = true ∧ gf = true) ∧ WonTo gc bs bs.length
set_option maxRecDepth 100000 in
set_option maxHeartbeats 8000000 in
/-- impl.StageRight. -/
theorem isr_any (sl : Option Addr) (cap : Nat) (tl : Option Addr) (kap : Nat) (top pr st bu : Int) (bl : Option Addr) (cb : Nat) (pl : Option Addr) (cp : Nat) (ul : Option Addr) (cu : Nat) (ai fx : Int) (gc gf : Bool) (rs : List LSt) (ps : List LPr) (bs : List LPr) (ls : List LPl) (us : List Int) (w : World) (hn : rs.length ≤ 1048576) (hq : bs.length ≤ 1048576) (hl : ls.length ≤ 1048576) (hu : us.length ≤ 1048576) (hcp : ls.length ≤ cp) (hz : Sts w sl rs) (hp : Prs w tl ps) (hw : ∀ p ∈ ps, WfP p) (hbs : Prs w bl bs) (hls : Pls w pl ls) (hus : Ints w ul us) :
    Calls Tryz.prog 9 #[SgV sl rs.length cap tl ps.length kap top pr st bu bl bs.length cb pl ls.length cp ul us.length cu ai fx gc gf] w fun e w' => e = .returned (.bool (B (StgR rs ps top pr st bu bs ls us ai fx gc gf))) ∧ Below w.heap.size w w' := by
  have CR : Hid (∀ W, Below w.heap.size w W → Calls Tryz.prog 26 #[CV sl rs.length cap tl ps.length kap top pr st bu bl bs.length cb pl ls.length cp] W fun e w' => e = .returned (.bool (B (ClkR rs ps top pr st bu bs ls))) ∧ Below W.heap.size W w') := fun W hW => icr_any sl cap tl kap top pr st bu bl cb pl cp rs ps bs ls W hn hq hl hcp (hz.below hW) (hp.below hW) hw (hbs.below hW) (hls.below hW)
  have TR : Hid (∀ W, Below w.heap.size w W → Calls Tryz.prog 27 #[.slice ul us.length cu] W fun e w' => e = .returned (.bool (B (TopsR us))) ∧ Below W.heap.size W w') := fun W hW => tor_any ul cu us W hu (hus.below hW)
  have NU := Lib.hid (nou_any fx)
  have WO : Hid (∀ W, Below w.heap.size w W → Calls Tryz.prog 29 #[.bool gc, .slice bl bs.length cb] W fun e w' => e = .returned (.bool (B (WonTo gc bs bs.length))) ∧ Below W.heap.size W w') := fun W hW => won_any gc bl cb bs W hq (hbs.below hW)
  have F1 := Lib.hid (show B (ClkR rs ps top pr st bu bs ls) = false → B (StgR rs ps top pr st bu bs ls us ai fx gc gf) = false from fun g => B_no (fun h => B_false g h.1))
  have F2 := Lib.hid (show B (TopsR us) = false → B (StgR rs ps top pr st bu bs ls us ai fx gc gf) = false from fun g => B_no (fun h => B_false g h.2.1))
  have F3 := Lib.hid (show B (NouR fx) = false → B (StgR rs ps top pr st bu bs ls us ai fx gc gf) = false from fun g => B_no (fun h => B_false g h.2.2.1))
  have F4 := Lib.hid (show ¬ 0 ≤ ai → B (StgR rs ps top pr st bu bs ls us ai fx gc gf) = false from fun g => B_no (fun h => g h.2.2.2.1))
  have F5 := Lib.hid (show ¬ ai < (us.length : Int) → B (StgR rs ps top pr st bu bs ls us ai fx gc gf) = false from fun g => B_no (fun h => g h.2.2.2.2.1))
  have F6 := Lib.hid (show ¬ us.getD ai.toNat 0 = top → B (StgR rs ps top pr st bu bs ls us ai fx gc gf) = false from fun g => B_no (fun h => g h.2.2.2.2.2.1))
  have F7 := Lib.hid (show (gc = true ∧ gf = true) → B (StgR rs ps top pr st bu bs ls us ai fx gc gf) = false from fun g => B_no (fun h => h.2.2.2.2.2.2.1 g))
  have F8 := Lib.hid (show B (ClkR rs ps top pr st bu bs ls) = true → B (TopsR us) = true → B (NouR fx) = true → 0 ≤ ai → ai < (us.length : Int) → us.getD ai.toNat 0 = top → ¬ (gc = true ∧ gf = true) → B (StgR rs ps top pr st bu bs ls us ai fx gc gf) = B (WonTo gc bs bs.length) from fun g1 g2 g3 g4 g5 g6 g7 => B_iff ⟨fun h => h.2.2.2.2.2.2.2, fun h => ⟨B_true g1, B_true g2, B_true g3, g4, g5, g6, g7, h⟩⟩)
  have IX : Hid (∀ W, Below w.heap.size w W → 0 ≤ ai → ai < (us.length : Int) → ∃ c o, ul = some ⟨c, o, none⟩ ∧ c < W.heap.size ∧ W.cell? ⟨c, o + ai.toNat, none⟩ = some (.int .i64 (us.getD ai.toNat 0))) := fun W hW h0 h1 => by
    rcases hus with e | ⟨c, o, rfl, HZ⟩
    · rw [e] at h1; simp at h1; omega
    · exact ⟨c, o, rfl, (HZ.below hW).1, (HZ.below hW).2 _ (by omega)⟩
  clear hz hp hw hbs hls hcp hus
  generalize B (StgR rs ps top pr st bu bs ls us ai fx gc gf) = r at *
  generalize B (ClkR rs ps top pr st bu bs ls) = r1 at *
  generalize B (TopsR us) = r2 at *
  generalize B (NouR fx) = r3 at *
  generalize B (WonTo gc bs bs.length) = r4 at *
  generalize us.getD ai.toNat 0 = ut at *
  generalize rs.length = n at *
  generalize ps.length = m at *
  generalize bs.length = q at *
  generalize ls.length = p at *
  generalize us.length = u at *
  have B0 := Lib.hid (bA0 w (.cells (SgC sl n cap tl m kap top pr st bu bl q cb pl p cp ul u cu ai fx gc gf) 44))
  have N0 := Lib.hid (new_at w (.cells (SgC sl n cap tl m kap top pr st bu bl q cb pl p cp ul u cu ai fx gc gf) 44))
  have hS : (w.alloc (.cells (SgC sl n cap tl m kap top pr st bu bl q cb pl p cp ul u cu ai fx gc gf) 44)).heap.size = w.heap.size + 1 := by simp
  have KC : Hid (∀ W, Below (w.heap.size + 1) (w.alloc (.cells (SgC sl n cap tl m kap top pr st bu bl q cb pl p cp ul u cu ai fx gc gf) 44)) W → W.heap[w.heap.size]? = some (.cells (SgC sl n cap tl m kap top pr st bu bl q cb pl p cp ul u cu ai fx gc gf) 44)) := fun W hW => (hW.block w.heap.size (by omega)).trans N0.out
  clear N0
  go_enter Tryz.func9, Tryz.ntmps9
  go_wp2_with fail
  refine (CR.out _ B0.out).mono ?_
  rintro e w1 ⟨rfl, b1⟩
  have D1 := Lib.hid (bT B0.out b1)
  have M1 := Lib.hid (KC.out w1 (by rw [← hS]; exact b1))
  obtain ⟨c0, c1, c2, c3, c4, c5, c6, c7, c8, c9, c10, c11, c12, cf, cl⟩ := cells13 M1.out
  clear b1 KC hS B0 CR
  cases r1
  · have HF := F1.out (by trivial)
    subst HF
    clear F1 F2 F3 F4 F5 F6 F7 F8 TR NU WO
    go_wp2
    go_ret
    exact ⟨rfl, D1.out⟩
  go_wp2_with fail
  refine (TR.out _ D1.out).mono ?_
  rintro e w2 ⟨rfl, b2⟩
  have D2 := Lib.hid (bT D1.out b2)
  have M2 := Lib.hid ((b2.block _ cl).trans M1.out)
  clear c0 c1 c2 c3 c4 c5 c6 c7 c8 c9 c10 c11 c12 cf cl
  obtain ⟨c0, c1, c2, c3, c4, c5, c6, c7, c8, c9, c10, c11, c12, cf, cl⟩ := cells13 M2.out
  clear b2 M1 D1 TR
  cases r2
  · have HF := F2.out (by trivial)
    subst HF
    clear F1 F2 F3 F4 F5 F6 F7 F8 NU WO
    go_wp2
    go_ret
    exact ⟨rfl, D2.out⟩
  go_wp2_with fail
  refine (NU.out _).mono ?_
  rintro e w2' ⟨rfl, rfl⟩
  cases r3
  · have HF := F3.out (by trivial)
    subst HF
    clear F1 F2 F3 F4 F5 F6 F7 F8 WO
    go_wp2
    go_ret
    exact ⟨rfl, D2.out⟩
  have F9 := Lib.hid (F8.out (by trivial) (by trivial) (by trivial))
  clear F1 F2 F3 F8 NU
  by_cases g4 : 0 ≤ ai
  case neg =>
    have HF := F4.out (by omega)
    subst HF
    clear F4 F5 F6 F7 F9 WO
    go_wp2
    go_quiet (fail)
    go_wp2
    go_ret
    exact ⟨rfl, below_drewN D2.out _⟩
  by_cases g5 : ai < (u : Int)
  case neg =>
    have HF := F5.out (by omega)
    subst HF
    have g5' : (u : Int) ≤ ai := by omega
    have d4 : decide (ai < 0) = false := decide_eq_false (by omega)
    have d5 : decide ((u : Int) ≤ ai) = true := decide_eq_true (by omega)
    clear F4 F5 F6 F7 F9 WO
    go_wp2
    go_quiet (fail)
    go_wp2
    go_ret
    exact ⟨rfl, below_drewN D2.out _⟩
  obtain ⟨g, o, rfl, zl, zc⟩ := IX.out w2 D2.out g4 g5
  have d4 : decide (ai < 0) = false := decide_eq_false (by omega)
  have d5 : decide ((u : Int) ≤ ai) = false := decide_eq_false (by omega)
  have g4' : ¬ ai < 0 := by omega
  have g5' : ¬ (u : Int) ≤ ai := by omega
  clear F4 F5 IX
  by_cases g6 : ut = top
  case neg =>
    have HF := F6.out g6
    subst HF
    have g6' : (ut != top) = true := by simpa using g6
    clear F6 F7 F9 WO g6
    go_wp2
    go_quiet (fail)
    go_wp2
    go_ret
    exact ⟨rfl, below_drewN D2.out _⟩
  have g6' : (ut != top) = false := by simpa using g6
  have F10 := Lib.hid (F9.out (by omega) (by omega) g6)
  clear F6 F9 g6
  have KD : Hid (∀ nq, Hid (Below w.heap.size w (w2.drewN nq))) := fun nq => below_drewN D2.out nq
  cases gc
  · have HE := F10.out (fun h => by cases h.1)
    subst HE
    clear F7 F10
    go_wp2
    go_quiet (fail)
    go_wp2_with fail
    refine (WO.out _ (KD.out _).out).mono ?_
    rintro e w3 ⟨rfl, b3⟩
    have D3 := Lib.hid (bT (KD.out _).out b3)
    clear b3
    go_wp2
    go_ret
    exact ⟨rfl, D3.out⟩
  cases gf
  · have HE := F10.out (fun h => by cases h.2)
    subst HE
    clear F7 F10
    go_wp2
    go_quiet (fail)
    go_wp2_with fail
    refine (WO.out _ (KD.out _).out).mono ?_
    rintro e w3 ⟨rfl, b3⟩
    have D3 := Lib.hid (bT (KD.out _).out b3)
    clear b3
    go_wp2
    go_ret
    exact ⟨rfl, D3.out⟩
  · have HF := F7.out ⟨rfl, rfl⟩
    subst HF
    clear F7 F10 WO
    go_wp2
    go_quiet (fail)
    go_wp2
    go_ret
    exact ⟨rfl, (KD.out _).out⟩
end Go.Proofs.YtmmikbkgkpnkbaaGreat
