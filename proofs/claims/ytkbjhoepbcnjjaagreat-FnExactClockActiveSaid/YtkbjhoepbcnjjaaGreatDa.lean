/-
  THE IDS OF THE ACTIVE BIDS: both sides; a clock of one's own, marked.
-/
import Derived.Test.YtkbjhoepbcnjjaaGreatCh
import Derived.Test.YtkbjhoepbcnjjaaGreatCi
import Derived.Test.YtkbjhoepbcnjjaaGreatAt
import Derived.Test.YtkbjhoepbcnjjaaGreatPc
namespace Go.Proofs.YtkbjhoepbcnjjaaGreat
open Go.RowKit
set_option linter.unusedVariables false

/-- What ClockActive tells. -/
noncomputable def actA (rs : List LSt) (ps : List LPr) (top pr st bu : Int) (bs : List LPr) (ls : List LPl) : List Int := if B (ClkR rs ps top pr st bu bs ls) = true then stIds 1 bs else []
theorem actA_bare {rs rs' : List LSt} (ps : List LPr) (top pr st bu : Int) (bs : List LPr) (ls : List LPl) (h : bareS rs = bareS rs') : actA rs ps top pr st bu bs ls = actA rs' ps top pr st bu bs ls := by
  unfold actA
  rw [clk_bare ps top pr st bu bs ls h]
theorem actA_le (rs : List LSt) (ps : List LPr) (top pr st bu : Int) (bs : List LPr) (ls : List LPl) (h : bs.length ≤ 1048576) : (actA rs ps top pr st bu bs ls).length ≤ 1048576 := by
  unfold actA
  split
  · exact Nat.le_trans (stIds_len 1 bs) h
  · simp

set_option maxRecDepth 100000 in
set_option maxHeartbeats 2000000 in
/-- impl.ClockActive. -/
theorem ica_any (sl : Option Addr) (cap : Nat) (tl : Option Addr) (kap : Nat) (top pr st bu : Int) (bl : Option Addr) (cb : Nat) (pl : Option Addr) (cp : Nat) (rs : List LSt) (ps : List LPr) (bs : List LPr) (ls : List LPl) (w : World) (hn : rs.length ≤ 1048576) (hq : bs.length ≤ 1048576) (hl : ls.length ≤ 1048576) (hcp : ls.length ≤ cp) (hz : Sts w sl rs) (hp : Prs w tl ps) (hw : ∀ p ∈ ps, WfP p) (hbs : Prs w bl bs) (hls : Pls w pl ls) :
    Calls Tryz.prog 7 #[CV sl rs.length cap tl ps.length kap top pr st bu bl bs.length cb pl ls.length cp] w fun e w' => ∃ v, e = .returned v ∧ w'.ownsRow w.heap.size 2 1 v (actA rs ps top pr st bu bs ls).length (valsZ (actA rs ps top pr st bu bs ls)) ∧ Below w.heap.size w w' := by
  have CR : Hid (∀ W, Below w.heap.size w W → Calls Tryz.prog 20 #[CV sl rs.length cap tl ps.length kap top pr st bu bl bs.length cb pl ls.length cp] W fun e w' => e = .returned (.bool (B (ClkR rs ps top pr st bu bs ls))) ∧ Below W.heap.size W w') := fun W hW => icr_any sl cap tl kap top pr st bu bl cb pl cp rs ps bs ls W hn hq hl hcp (hz.below hW) (hp.below hW) hw (hbs.below hW) (hls.below hW)
  have IT : Hid (∀ W, Below w.heap.size w W → Calls Tryz.prog 21 #[.slice bl bs.length cb, .func (.func 22) #[.int .i64 1] #[]] W fun e w' => ∃ v, e = .returned v ∧ w'.ownsRow W.heap.size 2 1 v (stIds 1 bs).length (valsZ (stIds 1 bs)) ∧ Below W.heap.size W w') := fun W hW => it_any bl cb bs 1 W hq (hbs.below hW)
  clear hz hp hw hls hcp hbs
  unfold actA
  by_cases g1 : ClkR rs ps top pr st bu bs ls
  case neg =>
    rw [B_no g1, if_neg (by simp)]
    rw [B_no g1] at CR
    clear g1 IT
    generalize rs.length = n at *
    generalize ps.length = m at *
    generalize bs.length = q at *
    generalize ls.length = p at *
    have B0 := Lib.hid (bA0 w (.cells (CC sl n cap tl m kap top pr st bu bl q cb pl p cp) 40))
    have N0 := Lib.hid (new_at w (.cells (CC sl n cap tl m kap top pr st bu bl q cb pl p cp) 40))
    have hS : (w.alloc (.cells (CC sl n cap tl m kap top pr st bu bl q cb pl p cp) 40)).heap.size = w.heap.size + 1 := by simp
    have KC : Hid (∀ W, Below (w.heap.size + 1) (w.alloc (.cells (CC sl n cap tl m kap top pr st bu bl q cb pl p cp) 40)) W → W.heap[w.heap.size]? = some (.cells (CC sl n cap tl m kap top pr st bu bl q cb pl p cp) 40)) := fun W hW => (hW.block w.heap.size (by omega)).trans N0.out
    clear N0
    go_enter Tryz.func7, Tryz.ntmps7
    go_wp2_with fail
    refine (CR.out _ B0.out).mono ?_
    rintro e w1 ⟨rfl, b1⟩
    have D1 := Lib.hid (bT B0.out b1)
    have k1 := KC.out w1 (by rw [← hS]; exact b1)
    obtain ⟨c0, c1, c2, c3, c4, c5, c6, c7, cf, cl⟩ := cells8 k1
    clear b1 k1

    go_wp2
    go_ret
    exact ⟨_, rfl, ⟨rfl, .inl ⟨rfl, rfl⟩⟩, D1.out⟩
  rw [B_yes g1, if_pos rfl]
  rw [B_yes g1] at CR
  clear g1
  generalize valsZ (stIds 1 bs) = xs at *
  generalize (stIds 1 bs).length = a at *
  generalize rs.length = n at *
  generalize ps.length = m at *
  generalize bs.length = q at *
  generalize ls.length = p at *
  have B0 := Lib.hid (bA0 w (.cells (CC sl n cap tl m kap top pr st bu bl q cb pl p cp) 40))
  have N0 := Lib.hid (new_at w (.cells (CC sl n cap tl m kap top pr st bu bl q cb pl p cp) 40))
  have hS : (w.alloc (.cells (CC sl n cap tl m kap top pr st bu bl q cb pl p cp) 40)).heap.size = w.heap.size + 1 := by simp
  have KC : Hid (∀ W, Below (w.heap.size + 1) (w.alloc (.cells (CC sl n cap tl m kap top pr st bu bl q cb pl p cp) 40)) W → W.heap[w.heap.size]? = some (.cells (CC sl n cap tl m kap top pr st bu bl q cb pl p cp) 40)) := fun W hW => (hW.block w.heap.size (by omega)).trans N0.out
  clear N0
  go_enter Tryz.func7, Tryz.ntmps7
  go_wp2_with fail
  refine (CR.out _ B0.out).mono ?_
  rintro e w1 ⟨rfl, b1⟩
  have D1 := Lib.hid (bT B0.out b1)
  have k1 := KC.out w1 (by rw [← hS]; exact b1)
  obtain ⟨c0, c1, c2, c3, c4, c5, c6, c7, cf, cl⟩ := cells8 k1
  clear b1 k1

  go_wp2_with fail
  refine (IT.out _ D1.out).mono ?_
  rintro e w2 ⟨v, rfl, o2, b2⟩
  have O2 := Lib.hid (own_mono o2 D1.out.size)
  have D2 := Lib.hid (bT D1.out b2)
  clear o2 b2
  go_wp2
  go_ret
  exact ⟨_, rfl, O2.out, D2.out⟩

set_option maxRecDepth 100000 in
set_option maxHeartbeats 4000000 in
/-- spec.ClockActive. -/
theorem sca_any (sl : Option Addr) (cap : Nat) (tl : Option Addr) (kap : Nat) (top pr st bu : Int) (bl : Option Addr) (cb : Nat) (pl : Option Addr) (cp : Nat) (rs : List LSt) (ps : List LPr) (bs : List LPr) (ls : List LPl) (w : World) (hn : rs.length ≤ 1048576) (hq : bs.length ≤ 1048576) (hl : ls.length ≤ 1048576) (hz : Sts w sl rs) (hp : Prs w tl ps) (hbs : Prs w bl bs) (hls : Pls w pl ls) :
    Calls Tryz.prog 5 #[CV sl rs.length cap tl ps.length kap top pr st bu bl bs.length cb pl ls.length cp] w fun e w' => ∃ v, e = .returned v ∧ w'.ownsRow w.heap.size 2 1 v (actA rs ps top pr st bu bs ls).length (valsZ (actA rs ps top pr st bu bs ls)) ∧ Below w.heap.size w w' := by
  have CR : Hid (∀ W, Below w.heap.size w W → Calls Tryz.prog 16 #[CV sl rs.length cap tl ps.length kap top pr st bu bl bs.length cb pl ls.length cp] W fun e w' => e = .returned (.bool (B (ClkR rs ps top pr st bu bs ls))) ∧ Below W.heap.size W w') := fun W hW => by
    rw [← clk_B]
    exact scr_any sl cap tl kap top pr st bu bl cb pl cp rs ps bs ls W hn hq hl (hz.below hW) (hp.below hW) (hbs.below hW) (hls.below hW)
  clear hz hp hls
  unfold actA
  have BX := Lib.hid (fun (n m q p : Nat) => bA (bA0 w (.cells (CC sl n cap tl m kap top pr st bu bl q cb pl p cp) 40)) (.cells #[] 2))
  have OX := Lib.hid (fun (n m q p : Nat) => show ((w.alloc (.cells (CC sl n cap tl m kap top pr st bu bl q cb pl p cp) 40)).alloc (.cells #[] 2)).ownsRow w.heap.size 2 1 (.slice (some ⟨w.heap.size + 1, 0, none⟩) 0 0) 0 [] from by
    have h := own_mono (own_none5 (w.alloc (.cells (CC sl n cap tl m kap top pr st bu bl q cb pl p cp) 40))) (show w.heap.size ≤ _ by simp)
    have e : (w.alloc (.cells (CC sl n cap tl m kap top pr st bu bl q cb pl p cp) 40)).heap.size = w.heap.size + 1 := by simp
    rw [e] at h
    exact h)
  have NX := Lib.hid (fun (n m q p : Nat) => (Below.heap_alloc (w.alloc (.cells (CC sl n cap tl m kap top pr st bu bl q cb pl p cp) 40)) (.cells #[] 2) w.heap.size (by simp)).trans (new_at w (.cells (CC sl n cap tl m kap top pr st bu bl q cb pl p cp) 40)))
  by_cases g1 : ClkR rs ps top pr st bu bs ls
  case neg =>
    rw [B_no g1, if_neg (by simp)]
    rw [B_no g1] at CR
    clear g1 hbs
    generalize rs.length = n at *
    generalize ps.length = m at *
    generalize bs.length = q at *
    generalize ls.length = p at *

    have B0 := Lib.hid (BX.out n m q p)
    have O0 := Lib.hid (OX.out n m q p)
    obtain ⟨c0, c1, c2, c3, c4, c5, c6, c7, cf, cl⟩ := cells8 (NX.out n m q p)
    clear BX OX NX
    go_enter Tryz.func5, Tryz.ntmps5
    go_wp2_with fail
    generalize (w.alloc (.cells (CC sl n cap tl m kap top pr st bu bl q cb pl p cp) 40)).alloc (.cells #[] 2) = wA at *
    refine (CR.out _ B0.out).mono ?_
    rintro e w1 ⟨rfl, b1⟩
    have P := Lib.hid (And.intro (own_below O0.out b1) (bT B0.out b1))
    clear b1 O0
    go_wp2
    go_ret
    exact ⟨_, rfl, P.out.1, P.out.2⟩
  rw [B_yes g1, if_pos rfl]
  rw [B_yes g1] at CR
  obtain ⟨i0, hi0, hz0, hz1, hz2⟩ := info_parts info2'
  have TK := Lib.hid (show bs.take bs.length = bs from List.take_length)
  have HB := Lib.hid hbs
  clear g1 hbs
  generalize rs.length = n at *
  generalize ps.length = m at *
  generalize hQ : bs.length = q at *
  generalize ls.length = p at *
  have HQ := Lib.hid hQ
  clear hQ
  have B0 := Lib.hid (BX.out n m q p)
  have O0 := Lib.hid (OX.out n m q p)
  have N0 := Lib.hid (NX.out n m q p)
  obtain ⟨c0, c1, c2, c3, c4, c5, c6, c7, cf, cl⟩ := cells8 N0.out
  clear BX OX NX
  go_enter Tryz.func5, Tryz.ntmps5
  go_wp2_with fail
  generalize (w.alloc (.cells (CC sl n cap tl m kap top pr st bu bl q cb pl p cp) 40)).alloc (.cells #[] 2) = wA at *
  refine (CR.out _ B0.out).mono ?_
  rintro e w1 ⟨rfl, b1⟩
  have O1 := Lib.hid (own_below O0.out b1)
  have D1 := Lib.hid (bT B0.out b1)
  have M1 := Lib.hid ((b1.block _ cl).trans N0.out)
  have L1 := Lib.hid (Nat.lt_of_lt_of_le cl b1.size)
  clear b1 O0 N0 c0 c1 c2 c3 c4 c5 c6 c7 cf cl
  go_wp2
  go_loopw [3, 4] (fun v i wr => ∃ k : Nat, i = .int .i64 k ∧ k ≤ q ∧ Hid (wr.ownsRow w.heap.size 2 1 v (stIds 1 (bs.take k)).length (valsZ (stIds 1 (bs.take k)))) ∧ Hid (Below w.heap.size w wr) ∧ Hid (wr.heap[w.heap.size]? = some (.cells (CC sl n cap tl m kap top pr st bu bl q cb pl p cp) 40)) ∧ Hid (w.heap.size < wr.heap.size)) (fun _ i _ => q - (intOf i).toNat)
  case atStart => exact ⟨0, rfl, Nat.zero_le _, O1, D1, M1, L1⟩
  case round =>
    obtain ⟨k, rfl, hk, H1, H2, H3, H4⟩ := hrel
    have hk0 : (0 : Int) ≤ (k : Int) := by omega
    obtain ⟨c0, c1, c2, c3, c4, c5, c6, c7, cf, cl⟩ := cells8 H3.out
    by_cases h1 : k < q
    · have h1' : (k : Int) < (q : Int) := by omega
      have hlt : k < bs.length := by rw [HQ.out]; exact h1
      obtain ⟨g, o, rfl, Z0⟩ : ∃ c o, bl = some ⟨c, o, none⟩ ∧ PrAt w c o bs := by
        rcases HB.out with e | h
        · rw [e] at hlt; simp at hlt
        · exact h
      obtain ⟨hc0, hc1, hc2⟩ := (Z0.below H2.out).cell k hlt
      have zl := (Z0.below H2.out).lt
      have LE := Lib.hid (show (stIds 1 (bs.take k)).length ≤ k from Nat.le_trans (stIds_len _ _) (by rw [List.length_take]; omega))
      have YY := Lib.hid (stIds_yes 1 bs k hlt)
      have NN := Lib.hid (stIds_no 1 bs k hlt)
      obtain ⟨x, y, z, hp⟩ : ∃ a b q, bs[k] = (a, b, q) := ⟨_, _, _, rfl⟩
      rw [hp] at hc0 hc1 hc2 YY NN
      dsimp only at hc0 hc1 hc2 YY NN
      clear hp hlt Z0
      have LE' := LE.out
      have hs := H2.out.size
      by_cases hy : (y == 1) = true
      · have EQ := Lib.hid (YY.out hy)
        go_wp2_with (first | (at_builtin; refine wpList_append_lies _ rfl (.tmp 24) (.tmp 31) 31 rfl w.heap.size 2 i0 (.int .i64 0) 1 8 Tryz.underlying31 hi0 hz0 hz1 hz2 rfl (by decide) _ _ _ rfl (H1.out.alloc _) ⟨wr.heap.size, 0, none⟩ 1 1 [.int .i64 x] rfl rfl (cell_one_new _ _ _) (by intro u hu; simp at hu; subst hu; rfl) (by decide) (by unfold maxLen; omega) (by omega) (by simp; omega) (wr.heap.size + 1) (by simp) ?_))
        intro g9 cap9 w9 own9 grow9 hg9 hlt9
        have B9 := Lib.hid ((bA H2.out (.cells #[.int .i64 x] 2)).grown grow9 (by simp; omega) (fun j hj => (H1.out.lt j hj).1))
        have M9 : Hid (w9.heap[w.heap.size]? = some (.cells (CC sl n cap tl m kap top pr st bu (some ⟨g, o, none⟩) q cb pl p cp) 40)) := (grow9.block w.heap.size (by simp; omega) (fun e => by
          have own := H1.out
          rcases own.2 with ⟨hv, _⟩ | ⟨gg, kk, cur, hv, hB, hh, _⟩
          · rw [hv] at e; cases e
          · rw [hv] at e
            have e' : w.heap.size = gg := by simpa [Value.ownBlock] using e
            rw [← e'] at hh
            rw [H3.out] at hh
            simp at hh)).trans ((Below.heap_alloc _ _ _ H4.out).trans H3.out)
        have L9 := Lib.hid (show w.heap.size < w9.heap.size from (Array.getElem?_eq_some_iff.1 M9.out).1)
        have N9 := Lib.hid (show w9.ownsRow w.heap.size 2 1 _ (stIds 1 (bs.take (k + 1))).length (valsZ (stIds 1 (bs.take (k + 1)))) by rw [EQ.out]; simpa [valsZ] using own9)
        clear own9 grow9 hg9 hlt9 YY NN LE LE' EQ
        go_wp2
        go_roundw
        case rel => exact ⟨k + 1, by go_num, by omega, N9, B9, M9, L9⟩
        case measure => simp [intOf]; omega
      · have hy' : (y == 1) = false := by simpa using hy
        have EQ := Lib.hid (NN.out hy')
        have N9 := Lib.hid (show wr.ownsRow w.heap.size 2 1 _ (stIds 1 (bs.take (k + 1))).length (valsZ (stIds 1 (bs.take (k + 1)))) by rw [EQ.out]; exact H1.out)
        clear hy YY NN LE LE' EQ
        go_wp2
        go_roundw
        case rel => exact ⟨k + 1, by go_num, by omega, N9, H2, H3, H4⟩
        case measure => simp [intOf]; omega
    · have h1' : ¬ (k : Int) < (q : Int) := by omega
      have e : k = q := by omega
      have H9 := H1.out
      rw [e, TK.out] at H9
      have P := Lib.hid (And.intro H9 H2.out)
      clear H9 H1
      go_wp2
      go_ret
      exact ⟨_, rfl, P.out.1, P.out.2⟩

set_option maxRecDepth 100000 in
set_option maxHeartbeats 2000000 in
/-- markClock. -/
theorem mkC_any (C L b1 b2 b3 b4 : Nat) (top pr st bu : Int) (rs : List LSt) (m q p : Nat) (hn : rs.length + totD rs + m + q + p ≤ 1048576) (w : World) (h : StM C L w b1 rs) (h2 : PrM w b2 m) (h3 : BdM w b3 q) (h4 : PlM w b4 p) (l1 : C ≤ b2) (l2 : b2 < L) (l3 : C ≤ b3) (l4 : b3 < L) (l5 : C ≤ b4) (l6 : b4 < L) (hL : L ≤ w.heap.size) :
    Calls Tryz.prog 10 #[CV (some ⟨b1, 0, none⟩) rs.length rs.length (some ⟨b2, 0, none⟩) m m top pr st bu (some ⟨b3, 0, none⟩) q q (some ⟨b4, 0, none⟩) p p, .int .i64 1] w fun e w' => ∃ k : Int, 0 ≤ k ∧ e = .returned (.int .i64 k) ∧ Btw C L w w' := by
  have E1 := Lib.hid (fun o => mkT_any C L b1 b2 rs m (by omega) (w.alloc o) (h.below (bA0 w o)) (by obtain ⟨vs, a, b⟩ := h2; exact ⟨vs, (Below.heap_alloc _ _ _ (Array.getElem?_eq_some_iff.1 a).1).trans a, b⟩) l1 l2 (by simp; omega))
  have E2 : Hid (∀ (k : Int) (W : World), 0 ≤ k → k ≤ 20000000 → BdM W b3 q → Calls Tryz.prog 27 #[.slice (some ⟨b3, 0, none⟩) q q, .int .i64 k] W fun e w' => e = .returned (.int .i64 (k + 3 * (q : Int))) ∧ Only b3 W w') := fun k W a b c => mkB_any b3 q k (by omega) a b W c
  have E3 : Hid (∀ (k : Int) (W : World), 0 ≤ k → k ≤ 20000000 → PlM W b4 p → Calls Tryz.prog 28 #[.slice (some ⟨b4, 0, none⟩) p p, .int .i64 k] W fun e w' => e = .returned (.int .i64 (k + 2 * (p : Int))) ∧ Only b4 W w') := fun k W a b c => mkPl_any b4 p k (by omega) a b W c
  have BM := Lib.hid h3
  have PM := Lib.hid h4
  have hqq : (q : Int) ≤ 1048576 := by omega
  have hpp : (p : Int) ≤ 1048576 := by omega
  clear h h2 h3 h4 hn
  generalize rs.length = n at *
  have N0 := Lib.hid (new_at w (.cells (CC (some ⟨b1, 0, none⟩) n n (some ⟨b2, 0, none⟩) m m top pr st bu (some ⟨b3, 0, none⟩) q q (some ⟨b4, 0, none⟩) p p) 40))
  go_enter Tryz.func10, Tryz.ntmps10
  go_wp2_with fail
  refine (E1.out _).mono ?_
  rintro e w1 ⟨k, ⟨k0, k1⟩, rfl, b1', kb⟩
  have K1 := Lib.hid ((Keep.below (bA0 w _)).b.trans kb)
  have T1 := Lib.hid ((b1'.block w.heap.size (by simp) (.inr hL)).trans N0.out)
  have B1 := Lib.hid ((Btw.alloc (B := C) (L := L) w _).trans b1')
  have BM1 : Hid (BdM w1 b3 q) := by
    obtain ⟨vs, q1, q2⟩ := BM.out
    exact ⟨vs, K1.out _ _ 52 (.inl rfl) q1, q2⟩
  have PM1 : Hid (∃ vs : Array Value, w1.heap[b4]? = some (.cells vs 79) ∧ p * 2 ≤ vs.size) := by
    obtain ⟨vs, q1, q2⟩ := PM.out
    exact ⟨vs, K1.out _ _ 79 (.inr rfl) q1, q2⟩
  obtain ⟨c0, c1, c2, c3, c4, c5, c6, c7, cf, cl⟩ := cells8 T1.out
  clear b1' kb E1 N0 BM PM K1
  go_wp2_with fail
  refine (E2.out _ _ k0 (by omega) BM1.out).mono ?_
  rintro e w2 ⟨rfl, o2⟩
  have B2 := Lib.hid (B1.out.only o2 l3 l4)
  have T2 := Lib.hid ((o2.block w.heap.size cl (by omega)).trans T1.out)
  have PM2 : Hid (PlM w2 b4 p) := by
    obtain ⟨vs, q1, q2⟩ := PM1.out
    obtain ⟨us, r1, r2⟩ := BM1.out
    refine ⟨vs, (o2.block b4 (Array.getElem?_eq_some_iff.1 q1).1 (fun e => ?_)).trans q1, q2⟩
    subst e
    rw [q1] at r1
    cases r1
  have hk2 : 0 ≤ k + 3 * (q : Int) ∧ k + 3 * (q : Int) ≤ 20000000 := by omega
  clear o2 PM1 T1 B1 E2 c0 c1 c2 c3 c4 c5 c6 c7 cf cl BM1
  generalize k + 3 * (q : Int) = y at *
  obtain ⟨y0, y1⟩ := hk2
  obtain ⟨c0, c1, c2, c3, c4, c5, c6, c7, cf, cl⟩ := cells8 T2.out
  go_wp2_with fail
  refine (E3.out _ _ y0 y1 PM2.out).mono ?_
  rintro e w3 ⟨rfl, o3⟩
  have P := Lib.hid (B2.out.only o3 l5 l6)
  have hq : (0 : Int) ≤ y + 2 * (p : Int) := by omega
  clear o3 PM2 T2 B2 E3 c0 c1 c2 c3 c4 c5 c6 c7 cf cl
  generalize y + 2 * (p : Int) = z at *
  go_wp2
  go_ret
  exact ⟨_, hq, rfl, P.out⟩

end Go.Proofs.YtkbjhoepbcnjjaaGreat
