/-
  THE SUM OF THE PRICES OF ALL BIDS THAT ARE NOT OUT: both sides.
-/
import Derived.Test.YtmmikbkgkpnkbaaCh
namespace Go.Proofs.Ytmmikbkgkpnkbaa
open Go.RowKit
set_option linter.unusedVariables false

def totL (bs : List LPr) : Int := (bs.map fun b => if b.2.1 = 3 then (0 : Int) else b.2.2).sum
theorem totL_step (bs : List LPr) (k : Nat) (h : k < bs.length) : totL (bs.take (k + 1)) = totL (bs.take k) + (if bs[k].2.1 = 3 then (0 : Int) else bs[k].2.2) := by
  unfold totL
  rw [List.take_add_one, List.getElem?_eq_getElem h]
  simp only [Option.toList_some, List.map_append, List.map_cons, List.map_nil, List.sum_append, List.sum_cons, List.sum_nil, Int.add_zero]
theorem totL_bnd (bs : List LPr) (h : ∀ b ∈ bs, BidOK b) (k : Nat) : 0 ≤ totL (bs.take k) ∧ totL (bs.take k) ≤ 1000000000 * (k : Int) := by
  induction k with
  | zero => simp [totL]
  | succ k ih =>
    by_cases hk : k < bs.length
    · rw [totL_step bs k hk]
      have := (h _ (List.getElem_mem hk)).2
      split <;> omega
    · rw [List.take_of_length_le (show bs.length ≤ k + 1 by omega)]
      rw [List.take_of_length_le (show bs.length ≤ k by omega)] at ih
      omega
/-- What ClockTotal tells. -/
noncomputable def totA (rs : List LSt) (ps : List LPr) (top pr st bu : Int) (bs : List LPr) (ls : List LPl) : Int := if B (ClkR rs ps top pr st bu bs ls) = true then totL bs else 0
theorem totA_bare {rs rs' : List LSt} (ps : List LPr) (top pr st bu : Int) (bs : List LPr) (ls : List LPl) (h : bareS rs = bareS rs') : totA rs ps top pr st bu bs ls = totA rs' ps top pr st bu bs ls := by
  unfold totA
  rw [clk_bare ps top pr st bu bs ls h]

set_option maxRecDepth 100000 in
set_option maxHeartbeats 4000000 in
/-- impl.promised. -/
theorem pro_any (bl : Option Addr) (cb : Nat) (bs : List LPr) (w : World) (hq : bs.length ≤ 1048576) (ok : ∀ b ∈ bs, BidOK b) (hbs : Prs w bl bs) :
    Calls Try.prog 17 #[.slice bl bs.length cb] w fun e w' => e = .returned (.int .i64 (totL bs)) ∧ Below w.heap.size w w' := by
  have TK := Lib.hid (show bs.take bs.length = bs from List.take_length)
  have OK := Lib.hid ok
  have HB := Lib.hid hbs
  clear hbs ok
  generalize hQ : bs.length = q at *
  have HQ := Lib.hid hQ
  clear hQ
  go_enter Try.func17, Try.ntmps17
  go_wp2
  go_loopw [4, 10] (fun t i wr => ∃ k : Nat, i = .int .i64 k ∧ k ≤ q ∧ t = .int .i64 (totL (bs.take k)) ∧ Hid (Below w.heap.size w wr)) (fun _ i _ => q - (intOf i).toNat)
  case atStart => exact ⟨0, rfl, Nat.zero_le _, rfl, Below.refl _ _⟩
  case round =>
    obtain ⟨k, rfl, hk, rfl, H2⟩ := hrel
    have hk0 : (0 : Int) ≤ (k : Int) := by omega
    by_cases h1 : k < q
    · have h1' : (k : Int) < (q : Int) := by omega
      have hlt : k < bs.length := by rw [HQ.out]; exact h1
      obtain ⟨g, o, rfl, ZI⟩ : ∃ c o, bl = some ⟨c, o, none⟩ ∧ PrAt w c o bs := by
        rcases HB.out with e | h
        · rw [e] at hlt; simp at hlt
        · exact h
      obtain ⟨e0, e1, e2⟩ := (ZI.below H2.out).cell k hlt
      have zl := (ZI.below H2.out).lt
      have ok := OK.out _ (List.getElem_mem hlt)
      have S1 := Lib.hid (totL_step bs k hlt)
      have BN := totL_bnd bs OK.out k
      obtain ⟨x, y, z, hp⟩ : ∃ a b q, bs[k] = (a, b, q) := ⟨_, _, _, rfl⟩
      rw [hp] at e0 e1 e2 S1 ok
      unfold BidOK at ok
      dsimp only at e0 e1 e2 S1 ok
      obtain ⟨-, ok1, ok2⟩ := ok
      obtain ⟨bn1, bn2⟩ := BN
      have bn3 : totL (bs.take k) ≤ 2000000000000000 := by omega
      clear hp hlt ZI bn2
      generalize totL (bs.take k) = s at *
      have E := Lib.hid (lac_any 3 x y z)
      have B5 := Lib.hid (bA H2.out (.cells #[.int .i64 x, .int .i64 y, .int .i64 z] 48))
      have N5 := Lib.hid (new_at wr (.cells #[.int .i64 x, .int .i64 y, .int .i64 z] 48))
      go_wp2_with fail
      refine (E.out _).mono ?_
      rintro e w6 ⟨rfl, b6⟩
      have B6 := Lib.hid (bT B5.out b6)
      have k6 := (b6.block wr.heap.size (by simp)).trans N5.out
      obtain ⟨d0, d1, d2, df, dl⟩ := cells3 k6
      clear b6 B5 N5 k6
      by_cases hy : y = 3
      · have S2 := Lib.hid (S1.out.trans (by rw [if_pos hy, Int.add_zero]))
        have hy' : (y != 3) = false := by simpa using hy
        rw [hy']
        clear hy hy' S1
        go_wp2
        go_roundw
        case rel => exact ⟨k + 1, by go_num, by omega, by rw [S2.out], B6⟩
        case measure => simp [intOf]; omega
      · have S2 := Lib.hid (S1.out.trans (by rw [if_neg hy]))
        have hy' : (y != 3) = true := by simpa using hy
        rw [hy']
        clear hy hy' S1
        go_wp2
        go_roundw
        case rel => exact ⟨k + 1, by go_num, by omega, by rw [S2.out], B6⟩
        case measure => simp [intOf]; omega
    · have h1' : ¬ (k : Int) < (q : Int) := by omega
      have e : k = q := by omega
      subst e
      go_wp2
      go_ret
      exact ⟨by first | (rw [TK.out]; done) | (rw [TK.out]; rfl), H2.out⟩
set_option maxRecDepth 100000 in
set_option maxHeartbeats 4000000 in
/-- impl.ClockTotal. -/
theorem ict_any (sl : Option Addr) (cap : Nat) (tl : Option Addr) (kap : Nat) (top pr st bu : Int) (bl : Option Addr) (cb : Nat) (pl : Option Addr) (cp : Nat) (rs : List LSt) (ps : List LPr) (bs : List LPr) (ls : List LPl) (w : World) (hn : rs.length ≤ 1048576) (hq : bs.length ≤ 1048576) (hl : ls.length ≤ 1048576) (hcp : ls.length ≤ cp) (hz : Sts w sl rs) (hp : Prs w tl ps) (hw : ∀ p ∈ ps, WfP p) (hbs : Prs w bl bs) (hls : Pls w pl ls) :
    Calls Try.prog 7 #[CV sl rs.length cap tl ps.length kap top pr st bu bl bs.length cb pl ls.length cp] w fun e w' => e = .returned (.int .i64 (totA rs ps top pr st bu bs ls)) ∧ Below w.heap.size w w' := by
  have CR : Hid (∀ W, Below w.heap.size w W → Calls Try.prog 16 #[CV sl rs.length cap tl ps.length kap top pr st bu bl bs.length cb pl ls.length cp] W fun e w' => e = .returned (.bool (B (ClkR rs ps top pr st bu bs ls))) ∧ Below W.heap.size W w') := fun W hW => icr_any sl cap tl kap top pr st bu bl cb pl cp rs ps bs ls W hn hq hl hcp (hz.below hW) (hp.below hW) hw (hbs.below hW) (hls.below hW)
  have PR : Hid (B (ClkR rs ps top pr st bu bs ls) = true → ∀ W, Below w.heap.size w W → Calls Try.prog 17 #[.slice bl bs.length cb] W fun e w' => e = .returned (.int .i64 (totL bs)) ∧ Below W.heap.size W w') := fun g W hW => pro_any bl cb bs W hq (B_true g).2.2.1.2 (hbs.below hW)
  have V0 := Lib.hid (show B (ClkR rs ps top pr st bu bs ls) = false → totA rs ps top pr st bu bs ls = 0 from fun g => if_neg (by rw [g]; simp))
  have V1 := Lib.hid (show B (ClkR rs ps top pr st bu bs ls) = true → totA rs ps top pr st bu bs ls = totL bs from fun g => if_pos g)
  clear hz hp hw hls hcp hbs hn hq hl
  generalize totA rs ps top pr st bu bs ls = a at *
  generalize B (ClkR rs ps top pr st bu bs ls) = r at *
  generalize totL bs = s at *
  generalize rs.length = n at *
  generalize ps.length = m at *
  generalize bs.length = q at *
  generalize ls.length = p at *
  have B0 := Lib.hid (bA0 w (.cells (CC sl n cap tl m kap top pr st bu bl q cb pl p cp) 39))
  have N0 := Lib.hid (new_at w (.cells (CC sl n cap tl m kap top pr st bu bl q cb pl p cp) 39))
  have hS : (w.alloc (.cells (CC sl n cap tl m kap top pr st bu bl q cb pl p cp) 39)).heap.size = w.heap.size + 1 := by simp
  go_enter Try.func7, Try.ntmps7
  go_wp2_with fail
  refine (CR.out _ B0.out).mono ?_
  rintro e w1 ⟨rfl, b1⟩
  have D1 := Lib.hid (bT B0.out b1)
  obtain ⟨c0, c1, c2, c3, c4, c5, c6, c7, cf, cl⟩ := cells8 ((b1.block w.heap.size (by rw [hS]; omega)).trans N0.out)
  clear b1 N0 hS B0 CR
  cases r
  · have HV := V0.out (by trivial)
    subst HV
    clear PR V0 V1
    go_wp2
    go_ret
    exact ⟨rfl, D1.out⟩
  · have HV := V1.out (by trivial)
    subst HV
    have PF := Lib.hid (PR.out (by trivial))
    clear PR V0 V1
    go_wp2_with fail
    refine (PF.out _ D1.out).mono ?_
    rintro e w2 ⟨rfl, b2⟩
    have D2 := Lib.hid (bT D1.out b2)
    clear b2
    go_wp2
    go_ret
    exact ⟨rfl, D2.out⟩

set_option maxRecDepth 100000 in
set_option maxHeartbeats 4000000 in
/-- spec.ClockTotal. -/
theorem sct_any (sl : Option Addr) (cap : Nat) (tl : Option Addr) (kap : Nat) (top pr st bu : Int) (bl : Option Addr) (cb : Nat) (pl : Option Addr) (cp : Nat) (rs : List LSt) (ps : List LPr) (bs : List LPr) (ls : List LPl) (w : World) (hn : rs.length ≤ 1048576) (hq : bs.length ≤ 1048576) (hl : ls.length ≤ 1048576) (hz : Sts w sl rs) (hp : Prs w tl ps) (hbs : Prs w bl bs) (hls : Pls w pl ls) :
    Calls Try.prog 5 #[CV sl rs.length cap tl ps.length kap top pr st bu bl bs.length cb pl ls.length cp] w fun e w' => e = .returned (.int .i64 (totA rs ps top pr st bu bs ls)) ∧ Below w.heap.size w w' := by
  have CR : Hid (∀ W, Below w.heap.size w W → Calls Try.prog 12 #[CV sl rs.length cap tl ps.length kap top pr st bu bl bs.length cb pl ls.length cp] W fun e w' => e = .returned (.bool (B (ClkR rs ps top pr st bu bs ls))) ∧ Below W.heap.size W w') := fun W hW => by
    rw [← clk_B]
    exact scr_any sl cap tl kap top pr st bu bl cb pl cp rs ps bs ls W hn hq hl (hz.below hW) (hp.below hW) (hbs.below hW) (hls.below hW)
  clear hz hp hls
  unfold totA
  by_cases g1 : ClkR rs ps top pr st bu bs ls
  case neg =>
    rw [B_no g1, if_neg (by simp)]
    rw [B_no g1] at CR
    clear g1 hbs
    generalize rs.length = n at *
    generalize ps.length = m at *
    generalize bs.length = q at *
    generalize ls.length = p at *
    have B0 := Lib.hid (bA0 w (.cells (CC sl n cap tl m kap top pr st bu bl q cb pl p cp) 39))
    have N0 := Lib.hid (new_at w (.cells (CC sl n cap tl m kap top pr st bu bl q cb pl p cp) 39))
    have hS : (w.alloc (.cells (CC sl n cap tl m kap top pr st bu bl q cb pl p cp) 39)).heap.size = w.heap.size + 1 := by simp
    have KC : Hid (∀ W, Below (w.heap.size + 1) (w.alloc (.cells (CC sl n cap tl m kap top pr st bu bl q cb pl p cp) 39)) W → W.heap[w.heap.size]? = some (.cells (CC sl n cap tl m kap top pr st bu bl q cb pl p cp) 39)) := fun W hW => (hW.block w.heap.size (by omega)).trans N0.out
    clear N0
    go_enter Try.func5, Try.ntmps5
    go_wp2_with fail
    refine (CR.out _ B0.out).mono ?_
    rintro e w1 ⟨rfl, b1⟩
    have D1 := Lib.hid (bT B0.out b1)
    have k1 := KC.out w1 (by rw [← hS]; exact b1)
    obtain ⟨c0, c1, c2, c3, c4, c5, c6, c7, cf, cl⟩ := cells8 k1
    have M1 := Lib.hid k1
    clear b1 k1

    go_wp2
    go_ret
    exact ⟨rfl, D1.out⟩
  rw [B_yes g1, if_pos rfl]
  rw [B_yes g1] at CR
  have TK := Lib.hid (show bs.take bs.length = bs from List.take_length)
  have OK := Lib.hid g1.2.2.1.2
  have HB := Lib.hid hbs
  clear g1 hbs
  generalize rs.length = n at *
  generalize ps.length = m at *
  generalize hQ : bs.length = q at *
  generalize ls.length = p at *
  have HQ := Lib.hid hQ
  clear hQ
  have B0 := Lib.hid (bA0 w (.cells (CC sl n cap tl m kap top pr st bu bl q cb pl p cp) 39))
  have N0 := Lib.hid (new_at w (.cells (CC sl n cap tl m kap top pr st bu bl q cb pl p cp) 39))
  have hS : (w.alloc (.cells (CC sl n cap tl m kap top pr st bu bl q cb pl p cp) 39)).heap.size = w.heap.size + 1 := by simp
  have KC : Hid (∀ W, Below (w.heap.size + 1) (w.alloc (.cells (CC sl n cap tl m kap top pr st bu bl q cb pl p cp) 39)) W → W.heap[w.heap.size]? = some (.cells (CC sl n cap tl m kap top pr st bu bl q cb pl p cp) 39)) := fun W hW => (hW.block w.heap.size (by omega)).trans N0.out
  clear N0
  go_enter Try.func5, Try.ntmps5
  go_wp2_with fail
  refine (CR.out _ B0.out).mono ?_
  rintro e w1 ⟨rfl, b1⟩
  have D1 := Lib.hid (bT B0.out b1)
  have k1 := KC.out w1 (by rw [← hS]; exact b1)
  obtain ⟨c0, c1, c2, c3, c4, c5, c6, c7, cf, cl⟩ := cells8 k1
  have M1 := Lib.hid k1
  clear b1 k1
  have L1 := Lib.hid cl
  clear c0 c1 c2 c3 c4 c5 c6 c7 cf cl
  go_wp2
  go_loopw [3, 4] (fun t i wr => ∃ k : Nat, i = .int .i64 k ∧ k ≤ q ∧ t = .int .i64 (totL (bs.take k)) ∧ Hid (Below w.heap.size w wr) ∧ Hid (Below w1.heap.size w1 wr)) (fun _ i _ => q - (intOf i).toNat)
  case atStart => exact ⟨0, rfl, Nat.zero_le _, rfl, D1, Below.refl _ _⟩
  case round =>
    obtain ⟨k, rfl, hk, rfl, H2, H3⟩ := hrel
    obtain ⟨c0, c1, c2, c3, c4, c5, c6, c7, cf, cl⟩ := cells8 ((H3.out.block _ L1.out).trans M1.out)
    have hk0 : (0 : Int) ≤ (k : Int) := by omega
    by_cases h1 : k < q
    · have h1' : (k : Int) < (q : Int) := by omega
      have hlt : k < bs.length := by rw [HQ.out]; exact h1
      obtain ⟨g, o, rfl, ZI⟩ : ∃ c o, bl = some ⟨c, o, none⟩ ∧ PrAt w c o bs := by
        rcases HB.out with e | h
        · rw [e] at hlt; simp at hlt
        · exact h
      obtain ⟨e0, e1, e2⟩ := (ZI.below H2.out).cell k hlt
      have zl := (ZI.below H2.out).lt
      have ok := OK.out _ (List.getElem_mem hlt)
      have S1 := Lib.hid (totL_step bs k hlt)
      have BN := totL_bnd bs OK.out k
      obtain ⟨x, y, z, hp⟩ : ∃ a b q, bs[k] = (a, b, q) := ⟨_, _, _, rfl⟩
      rw [hp] at e0 e1 e2 S1 ok
      unfold BidOK at ok
      dsimp only at e0 e1 e2 S1 ok
      obtain ⟨-, ok1, ok2⟩ := ok
      obtain ⟨bn1, bn2⟩ := BN
      have bn3 : totL (bs.take k) ≤ 2000000000000000 := by omega
      clear hp hlt ZI bn2
      generalize totL (bs.take k) = s at *
      by_cases hy : y = 3
      · have S2 := Lib.hid (S1.out.trans (by rw [if_pos hy, Int.add_zero]))
        have hy' : (y != 3) = false := by simpa using hy
        clear hy S1
        go_wp2
        go_roundw
        case rel => exact ⟨k + 1, by go_num, by omega, by rw [S2.out], H2, H3⟩
        case measure => simp [intOf]; omega
      · have S2 := Lib.hid (S1.out.trans (by rw [if_neg hy]))
        have hy' : (y != 3) = true := by simpa using hy
        clear hy S1
        go_wp2
        go_roundw
        case rel => exact ⟨k + 1, by go_num, by omega, by rw [S2.out], H2, H3⟩
        case measure => simp [intOf]; omega
    · have h1' : ¬ (k : Int) < (q : Int) := by omega
      have e : k = q := by omega
      subst e
      go_wp2
      go_ret
      exact ⟨by first | (rw [TK.out]; done) | (rw [TK.out]; rfl), H2.out⟩


end Go.Proofs.Ytmmikbkgkpnkbaa
