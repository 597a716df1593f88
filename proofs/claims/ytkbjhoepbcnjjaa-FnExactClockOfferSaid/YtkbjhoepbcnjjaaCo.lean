/-
  ClockOffer: both sides.
-/
import Derived.Test.YtkbjhoepbcnjjaaCm
namespace Go.Proofs.Ytkbjhoepbcnjjaa
open Go.RowKit
set_option linter.unusedVariables false

/-- At this place the Bid of an Id is active. -/
def ActAt (bs : List LPr) (id : Int) (k : Nat) : Prop := ∃ b, bs[k]? = some b ∧ b.1 = id ∧ b.2.1 = 1
/-- What is offered to the Bid at a place. -/
def offK (rs : List LSt) (pr st : Int) (k : Nat) : Int := ((rs[k]?).map fun r => r.2.1).getD 0 * nxt pr st
open Classical in
/-- What ClockOffer tells. -/
noncomputable def offA (rs : List LSt) (ps : List LPr) (top pr st bu : Int) (bs : List LPr) (ls : List LPl) (id : Int) : Int :=
  if h : ClkR rs ps top pr st bu bs ls ∧ ∃ k, ActAt bs id k then offK rs pr st (Classical.choose h.2) else -1
theorem clk_pair {rs : List LSt} {ps : List LPr} {top pr st bu : Int} {bs : List LPr} {ls : List LPl} (g : ClkR rs ps top pr st bu bs ls) : (bidsI bs).Pairwise (· < ·) := by
  rw [g.2.2.1.1]
  exact rise_pairwise _ _ _ g.1.2.2.1
theorem act_one {bs : List LPr} (h : (bidsI bs).Pairwise (· < ·)) {id : Int} {k l : Nat} {a b : LPr} (ha : bs[k]? = some a) (hb : bs[l]? = some b) (e1 : a.1 = id) (e2 : b.1 = id) : k = l := by
  obtain ⟨hk, rfl⟩ := List.getElem?_eq_some_iff.1 ha
  obtain ⟨hl, rfl⟩ := List.getElem?_eq_some_iff.1 hb
  unfold bidsI at h
  rw [List.pairwise_map, List.pairwise_iff_getElem] at h
  rcases Nat.lt_trichotomy k l with x | x | x
  · have := h k l hk hl x; omega
  · exact x
  · have := h l k hl hk x; omega
theorem offA_hit {rs : List LSt} {ps : List LPr} {top pr st bu : Int} {bs : List LPr} {ls : List LPl} {id : Int} {k : Nat} (g : ClkR rs ps top pr st bu bs ls) (h : ActAt bs id k) : offA rs ps top pr st bu bs ls id = offK rs pr st k := by
  unfold offA
  have hh : ClkR rs ps top pr st bu bs ls ∧ ∃ k, ActAt bs id k := ⟨g, k, h⟩
  rw [dif_pos hh]
  have hc := Classical.choose_spec hh.2
  obtain ⟨a, ha, e1, _⟩ := hc
  obtain ⟨b, hb, e2, _⟩ := h
  rw [act_one (clk_pair g) ha hb e1 e2]
theorem offA_none {rs : List LSt} {ps : List LPr} {top pr st bu : Int} {bs : List LPr} {ls : List LPl} {id : Int} (h : ¬ (ClkR rs ps top pr st bu bs ls ∧ ∃ k, ActAt bs id k)) : offA rs ps top pr st bu bs ls id = -1 := by
  unfold offA
  rw [dif_neg h]
theorem offA_bare {rs rs' : List LSt} (ps : List LPr) (top pr st bu : Int) (bs : List LPr) (ls : List LPl) (id : Int) (h : bareS rs = bareS rs') : offA rs ps top pr st bu bs ls id = offA rs' ps top pr st bu bs ls id := by
  have hc : ClkR rs ps top pr st bu bs ls ↔ ClkR rs' ps top pr st bu bs ls := by
    have := clk_bare ps top pr st bu bs ls h
    constructor
    · intro g; rw [B_yes g] at this; exact B_true this.symm
    · intro g; rw [B_yes g] at this; exact B_true this
  have hk : ∀ k, offK rs pr st k = offK rs' pr st k := fun k => by
    unfold offK
    have : (bareS rs)[k]? = (bareS rs')[k]? := by rw [h]
    unfold bareS at this
    rw [List.getElem?_map, List.getElem?_map] at this
    cases h1 : rs[k]? <;> cases h2 : rs'[k]? <;> simp_all
  by_cases g : ClkR rs ps top pr st bu bs ls ∧ ∃ k, ActAt bs id k
  · obtain ⟨g1, k, g2⟩ := g
    rw [offA_hit g1 g2, offA_hit (hc.1 g1) g2, hk]
  · rw [offA_none g, offA_none (fun g' => g ⟨hc.2 g'.1, g'.2⟩)]
theorem offK_at {rs : List LSt} {pr st : Int} {k : Nat} (h : k < rs.length) : offK rs pr st k = rs[k].2.1 * nxt pr st := by
  unfold offK
  simp [h]

def NoAct (bs : List LPr) (id : Int) (k : Nat) : Prop := ∀ i, i < k → ∀ b, bs[i]? = some b → ¬ (b.1 = id ∧ b.2.1 = 1)
theorem NoAct.step {bs : List LPr} {id : Int} {k : Nat} {b : LPr} (h : NoAct bs id k) (hb : bs[k]? = some b) (hn : ¬ (b.1 = id ∧ b.2.1 = 1)) : NoAct bs id (k + 1) := by
  intro i hi c hc
  by_cases e : i = k
  · subst e
    rw [hb] at hc
    cases hc
    exact hn
  · exact h i (by omega) c hc

set_option maxRecDepth 100000 in
set_option maxHeartbeats 8000000 in
/-- impl.ClockOffer. -/
theorem ico_any (sl : Option Addr) (cap : Nat) (tl : Option Addr) (kap : Nat) (top pr st bu : Int) (bl : Option Addr) (cb : Nat) (pl : Option Addr) (cp : Nat) (rs : List LSt) (ps : List LPr) (bs : List LPr) (ls : List LPl) (id : Int) (w : World) (hn : rs.length ≤ 1048576) (hq : bs.length ≤ 1048576) (hl : ls.length ≤ 1048576) (hcp : ls.length ≤ cp) (hz : Sts w sl rs) (hp : Prs w tl ps) (hw : ∀ p ∈ ps, WfP p) (hbs : Prs w bl bs) (hls : Pls w pl ls) :
    Calls Try.prog 12 #[CV sl rs.length cap tl ps.length kap top pr st bu bl bs.length cb pl ls.length cp, .int .i64 id] w fun e w' => e = .returned (.int .i64 (offA rs ps top pr st bu bs ls id)) ∧ Below w.heap.size w w' := by
  have CR : Hid (∀ W, Below w.heap.size w W → Calls Try.prog 9 #[CV sl rs.length cap tl ps.length kap top pr st bu bl bs.length cb pl ls.length cp] W fun e w' => e = .returned (.bool (B (ClkR rs ps top pr st bu bs ls))) ∧ Below W.heap.size W w') := fun W hW => icr_any sl cap tl kap top pr st bu bl cb pl cp rs ps bs ls W hn hq hl hcp (hz.below hW) (hp.below hW) hw (hbs.below hW) (hls.below hW)
  by_cases g1 : ClkR rs ps top pr st bu bs ls
  case neg =>
    rw [offA_none (fun h => g1 h.1)]
    rw [B_no g1] at CR
    clear g1 hbs hz hp hw hls hcp
    generalize rs.length = n at *
    generalize ps.length = m at *
    generalize bs.length = q at *
    generalize ls.length = p at *
    have B0 := Lib.hid (bA0 w (.cells (CC sl n cap tl m kap top pr st bu bl q cb pl p cp) 39))
    have N0 := Lib.hid (new_at w (.cells (CC sl n cap tl m kap top pr st bu bl q cb pl p cp) 39))
    have hS : (w.alloc (.cells (CC sl n cap tl m kap top pr st bu bl q cb pl p cp) 39)).heap.size = w.heap.size + 1 := by simp
    have KC : Hid (∀ W, Below (w.heap.size + 1) (w.alloc (.cells (CC sl n cap tl m kap top pr st bu bl q cb pl p cp) 39)) W → W.heap[w.heap.size]? = some (.cells (CC sl n cap tl m kap top pr st bu bl q cb pl p cp) 39)) := fun W hW => (hW.block w.heap.size (by omega)).trans N0.out
    clear N0
    go_enter Try.func12, Try.ntmps12
    go_wp2_with fail
    refine (CR.out _ B0.out).mono ?_
    rintro e w1 ⟨rfl, b1⟩
    have D1 := Lib.hid (bT B0.out b1)
    have k1 := KC.out w1 (by rw [← hS]; exact b1)
    obtain ⟨c0, c1, c2, c3, c4, c5, c6, c7, cf, cl⟩ := cells8 k1
    have M1 := Lib.hid k1
    clear b1 k1

    go_wp2
    go_ret
    exact ⟨rfl, D1.out⟩
  rw [B_yes g1] at CR
  have OF : Hid (∀ (k : Nat) (b : LPr), bs[k]? = some b → b.1 = id → b.2.1 = 1 → ∀ W, Below w.heap.size w W → Calls Try.prog 40 #[CV sl rs.length cap tl ps.length kap top pr st bu bl bs.length cb pl ls.length cp, .int .i64 k] W fun e w' => e = .returned (.int .i64 (offA rs ps top pr st bu bs ls id)) ∧ Below W.heap.size W w') := fun k b hb e1 e2 W hW => by
    have hkb := (List.getElem?_eq_some_iff.1 hb).1
    have LEN : bs.length = rs.length := by have := congrArg List.length g1.2.2.1.1; simpa [bidsI, idsL] using this
    have hk : k < rs.length := by omega
    rw [offA_hit (id := id) g1 ⟨b, hb, e1, e2⟩, offK_at hk]
    obtain ⟨c, o, rfl, Z⟩ : ∃ c o, sl = some ⟨c, o, none⟩ ∧ StAt w c o rs := by
      rcases hz.row with e | h
      · rw [e] at hk; simp at hk
      · exact h
    exact oa_any c o cap tl ps.length kap top pr st bu bl bs.length cb pl ls.length cp rs k rs[k].2.1 W hn (Z.below hW) hk rfl (by have := (g1.1.2.1 _ (List.getElem_mem hk)).1; omega) g1.2.1.2.1 g1.2.1.2.2.1
  have NON := Lib.hid (fun (h : NoAct bs id bs.length) => offA_none (rs := rs) (ps := ps) (top := top) (pr := pr) (st := st) (bu := bu) (bs := bs) (ls := ls) (id := id) (fun g => by obtain ⟨_, k, b, hb, e1, e2⟩ := g; exact h k (List.getElem?_eq_some_iff.1 hb).1 b hb ⟨e1, e2⟩))
  have HB := Lib.hid hbs
  clear g1 hbs hz hp hw hls hcp
  generalize rs.length = n at *
  generalize ps.length = m at *
  generalize hQ : bs.length = q at *
  generalize ls.length = p at *
  generalize offA rs ps top pr st bu bs ls id = r at *
  have HQ := Lib.hid hQ
  clear hQ
  have B0 := Lib.hid (bA0 w (.cells (CC sl n cap tl m kap top pr st bu bl q cb pl p cp) 39))
  have N0 := Lib.hid (new_at w (.cells (CC sl n cap tl m kap top pr st bu bl q cb pl p cp) 39))
  have hS : (w.alloc (.cells (CC sl n cap tl m kap top pr st bu bl q cb pl p cp) 39)).heap.size = w.heap.size + 1 := by simp
  have KC : Hid (∀ W, Below (w.heap.size + 1) (w.alloc (.cells (CC sl n cap tl m kap top pr st bu bl q cb pl p cp) 39)) W → W.heap[w.heap.size]? = some (.cells (CC sl n cap tl m kap top pr st bu bl q cb pl p cp) 39)) := fun W hW => (hW.block w.heap.size (by omega)).trans N0.out
  clear N0
  go_enter Try.func12, Try.ntmps12
  go_wp2_with fail
  refine (CR.out _ B0.out).mono ?_
  rintro e w1 ⟨rfl, b1⟩
  have D1 := Lib.hid (bT B0.out b1)
  have k1 := KC.out w1 (by rw [← hS]; exact b1)
  obtain ⟨c0, c1, c2, c3, c4, c5, c6, c7, cf, cl⟩ := cells8 k1
  have M1 := Lib.hid k1
  clear b1 k1
  have L1 := Lib.hid cl
  go_wp2
  go_loopw [15] (fun i wr => ∃ k : Nat, i = .int .i64 k ∧ k ≤ q ∧ Hid (NoAct bs id k) ∧ Hid (Below w.heap.size w wr) ∧ Hid (Below w1.heap.size w1 wr)) (fun i _ => q - (intOf i).toNat)
  case atStart => exact ⟨0, rfl, Nat.zero_le _, fun i h => absurd h (Nat.not_lt_zero _), D1, Below.refl _ _⟩
  case round =>
    obtain ⟨k, rfl, hk, H1, H2, H3⟩ := hrel
    have hk0 : (0 : Int) ≤ (k : Int) := by omega
    by_cases h1 : k < q
    · have h1' : (k : Int) < (q : Int) := by omega
      have hlt : k < bs.length := by rw [HQ.out]; exact h1
      obtain ⟨g, o, rfl, ZI⟩ : ∃ c o, bl = some ⟨c, o, none⟩ ∧ PrAt w c o bs := by
        rcases HB.out with e | h
        · rw [e] at hlt; simp at hlt
        · exact h
      obtain ⟨e0, e1, e2⟩ := (ZI.below H2.out).cell k hlt
      have zl := (ZI.below H2.out).lt
      have hat := List.getElem?_eq_getElem hlt
      obtain ⟨x, y, z, hp⟩ : ∃ a b q, bs[k] = (a, b, q) := ⟨_, _, _, rfl⟩
      rw [hp] at e0 e1 e2 hat
      dsimp only at e0 e1 e2
      have ST := Lib.hid (H1.out.step hat)
      have OF1 := Lib.hid (OF.out k _ hat)
      dsimp only at OF1 ST
      clear hp hlt ZI hat
      have E := Lib.hid (hol_any 1 x y z)
      have B5 := Lib.hid (bA H2.out (.cells #[.int .i64 x, .int .i64 y, .int .i64 z] 55))
      have C5 := Lib.hid (bA H3.out (.cells #[.int .i64 x, .int .i64 y, .int .i64 z] 55))
      by_cases hx : x = id
      · have hx' : (x == id) = true := by simpa using hx
        by_cases hy : y = 1
        · have hy' : (y == 1) = true := by simpa using hy
          have OF2 := Lib.hid (OF1.out hx hy)
          clear hx hy ST OF1
          rw [hy'] at E
          clear hy'
          go_wp2_with fail
          refine (E.out _).mono ?_
          rintro e w6 ⟨rfl, b6⟩
          have B6 := Lib.hid (bT B5.out b6)
          have C6 := Lib.hid (bT C5.out b6)
          clear b6 B5 C5 c0 c1 c2 c3 c4 c5 c6 c7 cf cl e0 e1 e2 zl
          obtain ⟨c0, c1, c2, c3, c4, c5, c6, c7, cf, cl⟩ := cells8 ((C6.out.block _ L1.out).trans M1.out)
          go_wp2_with fail
          refine (OF2.out _ B6.out).mono ?_
          rintro e w7 ⟨rfl, b7⟩
          have B7 := Lib.hid (bT B6.out b7)
          clear b7
          go_wp2
          go_ret
          exact ⟨rfl, B7.out⟩
        · have hy' : (y == 1) = false := by simpa using hy
          have S2 := Lib.hid (ST.out (fun h => hy h.2))
          clear hx hy ST OF1
          rw [hy'] at E
          clear hy'
          go_wp2_with fail
          refine (E.out _).mono ?_
          rintro e w6 ⟨rfl, b6⟩
          have B6 := Lib.hid (bT B5.out b6)
          have C6 := Lib.hid (bT C5.out b6)
          clear b6 B5 C5
          go_wp2
          go_roundw
          case rel => exact ⟨k + 1, by go_num, by omega, S2, B6, C6⟩
          case measure => simp [intOf]; omega
      · have hx' : (x == id) = false := by simpa using hx
        have S2 := Lib.hid (ST.out (fun h => hx h.1))
        clear hx ST OF1
        go_wp2
        go_roundw
        case rel => exact ⟨k + 1, by go_num, by omega, S2, B5, C5⟩
        case measure => simp [intOf]; omega
    · have h1' : ¬ (k : Int) < (q : Int) := by omega
      have e : k = q := by omega
      subst e
      have HE := NON.out H1.out
      subst HE
      go_wp2
      go_ret
      exact ⟨rfl, H2.out⟩

end Go.Proofs.Ytkbjhoepbcnjjaa
