/-
  TWO LISTS HELD AGAINST EACH OTHER; is there a right Bid for each of some Ids?
-/
import Derived.Test.YtanoklpffenljaaGreatDoorCd
namespace Go.Proofs.YtanoklpffenljaaGreatDoor
open Go.RowKit
set_option linter.unusedVariables false

/-- The first k are the same. -/
def SameTo (zs ys : List Int) (k : Nat) : Prop := ∀ i, i < k → zs.getD i 0 = ys.getD i 0
theorem SameTo.step {zs ys : List Int} {k : Nat} (h : SameTo zs ys k) (g : zs.getD k 0 = ys.getD k 0) : SameTo zs ys (k + 1) := fun i hi => by
  by_cases e : i = k
  · subst e; exact g
  · exact h i (by omega)
theorem SameTo.all {zs ys : List Int} {k : Nat} (h : SameTo zs ys k) (hl : zs.length = ys.length) (hk : zs.length ≤ k) : zs = ys := by
  apply List.ext_getElem hl
  intro i h1 h2
  have := h i (by omega)
  simpa [h1, h2] using this

set_option maxRecDepth 100000 in
set_option maxHeartbeats 1000000 in
/-- slices.Equal of numbers. -/
theorem eqz_any (sl : Option Addr) (cap : Nat) (zs : List Int) (sl2 : Option Addr) (cap2 : Nat) (ys : List Int) (w : World) (hn : zs.length ≤ 1048576) (hm : ys.length ≤ 1048576) (hz : Ints w sl zs) (hy : Ints w sl2 ys) :
    Calls Tryz.prog 66 #[.slice sl zs.length cap, .slice sl2 ys.length cap2] w fun e w' => e = .returned (.bool (B (zs = ys))) ∧ Below w.heap.size w w' := by
  by_cases hl : zs.length = ys.length
  · have YY := Lib.hid (show ∀ k, zs.length ≤ k → SameTo zs ys k → B (zs = ys) = true from fun k hk h => B_yes (h.all hl hk))
    have NN := Lib.hid (show ∀ k, zs.getD k 0 ≠ ys.getD k 0 → B (zs = ys) = false from fun k h => B_no (fun e => h (by rw [e])))
    have HZ := Lib.hid hz
    have HY := Lib.hid hy
    rw [← hl]
    have HLL := Lib.hid hl
    clear hz hy hm hl
    generalize hN : zs.length = n at *
    have HN := Lib.hid hN
    clear hN
    go_enter Tryz.func66, Tryz.ntmps66
    go_wp2
    go_loopw [13] (fun i wr => ∃ k : Nat, i = .int .i64 k ∧ k ≤ n ∧ Hid (SameTo zs ys k) ∧ Hid (Below w.heap.size w wr)) (fun i _ => n - (intOf i).toNat)
    case atStart => exact ⟨0, rfl, Nat.zero_le _, fun i h => absurd h (Nat.not_lt_zero _), Below.refl _ _⟩
    case round =>
      obtain ⟨k, rfl, hk, H1, H2⟩ := hrel
      have hk0 : (0 : Int) ≤ (k : Int) := by omega
      by_cases h1 : k < n
      · have h1' : (k : Int) < (n : Int) := by omega
        have hlt : k < zs.length := by rw [HN.out]; exact h1
        have hlt2 : k < ys.length := by rw [← HLL.out]; exact h1
        obtain ⟨c, o, rfl, ZI⟩ : ∃ c o, sl = some ⟨c, o, none⟩ ∧ IntsAt w c o zs := by
          rcases HZ.out with e | h
          · rw [e] at hlt; simp at hlt
          · exact h
        obtain ⟨c2, o2, rfl, YI⟩ : ∃ c o, sl2 = some ⟨c, o, none⟩ ∧ IntsAt w c o ys := by
          rcases HY.out with e | h
          · rw [e] at hlt2; simp at hlt2
          · exact h
        have hc := (H2.out.cell (p := ⟨c, o + k, none⟩) ZI.1).trans (ZI.2 k hlt)
        have hd := (H2.out.cell (p := ⟨c2, o2 + k, none⟩) YI.1).trans (YI.2 k hlt2)
        by_cases e : zs.getD k 0 = ys.getD k 0
        · have e' : (zs.getD k 0 != ys.getD k 0) = false := by rw [e]; simp
          have HS := Lib.hid (H1.out.step e)
          clear hlt hlt2 ZI YI e H1
          generalize zs.getD k 0 = z at *
          generalize ys.getD k 0 = y at *
          go_wp2
          go_quiet (fail)
          go_wp2
          go_roundw
          case rel => exact ⟨k + 1, by go_num, by omega, HS, below_drewN H2.out _⟩
          case measure => simp [intOf]; omega
        · have e' : (zs.getD k 0 != ys.getD k 0) = true := by simpa using e
          have HF := Lib.hid (NN.out k e)
          clear hlt hlt2 ZI YI e H1
          generalize zs.getD k 0 = z at *
          generalize ys.getD k 0 = y at *
          go_wp2
          go_quiet (fail)
          go_wp2
          go_ret
          exact ⟨by rw [HF.out]; rfl, below_drewN H2.out _⟩
      · have h1' : ¬ (k : Int) < (n : Int) := by omega
        have HE := Lib.hid (YY.out k (by omega) H1.out)
        go_wp2
        go_ret
        exact ⟨by rw [HE.out]; rfl, H2.out⟩
  · have hl' : ((zs.length : Int) != (ys.length : Int)) = true := by simpa using (show ¬ (zs.length : Int) = (ys.length : Int) by omega)
    rw [B_no (fun e => hl (by rw [e]))]
    clear hz hy hl
    generalize zs.length = n at *
    generalize ys.length = m at *
    go_enter Tryz.func66, Tryz.ntmps66
    go_wp2
    go_ret
    exact ⟨rfl, Below.refl _ _⟩

/-- A right Bid, but for its Id. -/
def BidOK (b : LPr) : Prop := (1 ≤ b.2.1 ∧ b.2.1 ≤ 4) ∧ 0 ≤ b.2.2 ∧ b.2.2 ≤ 1000000000
def bidsI (bs : List LPr) : List Int := bs.map fun b => b.1
/-- A right Bid for each of the Ids, in order. -/
def BidsR (bs : List LPr) (ids : List Int) : Prop := bidsI bs = ids ∧ ∀ b ∈ bs, BidOK b
def BidsTo (bs : List LPr) (ids : List Int) (k : Nat) : Prop := ∀ i (h : i < bs.length), i < k → bs[i].1 = ids.getD i 0 ∧ BidOK bs[i]
theorem BidsTo.step {bs : List LPr} {ids : List Int} {k : Nat} (h : BidsTo bs ids k) (hk : k < bs.length) (h1 : bs[k].1 = ids.getD k 0) (h2 : BidOK bs[k]) : BidsTo bs ids (k + 1) := by
  intro i hi hik
  by_cases e : i = k
  · subst e; exact ⟨h1, h2⟩
  · exact h i hi (by omega)
theorem BidsTo.all {bs : List LPr} {ids : List Int} {k : Nat} (h : BidsTo bs ids k) (hl : bs.length = ids.length) (hk : bs.length ≤ k) : BidsR bs ids := by
  refine ⟨?_, fun b hb => ?_⟩
  · apply List.ext_getElem (by simpa [bidsI] using hl)
    intro i h1 h2
    have h1' : i < bs.length := by simpa [bidsI] using h1
    have := (h i h1' (by omega)).1
    simpa [bidsI, h2] using this
  · obtain ⟨i, hi, rfl⟩ := List.getElem_of_mem hb
    exact (h i hi (by omega)).2
theorem BidsR.at {bs : List LPr} {ids : List Int} (h : BidsR bs ids) (k : Nat) (hk : k < bs.length) : bs[k].1 = ids.getD k 0 ∧ BidOK bs[k] := by
  refine ⟨?_, h.2 _ (List.getElem_mem hk)⟩
  rw [← h.1]
  simp [bidsI, hk]

set_option maxRecDepth 100000 in
set_option maxHeartbeats 2000000 in
/-- bidsRight. -/
theorem br_any (sl : Option Addr) (cap : Nat) (bs : List LPr) (sl2 : Option Addr) (cap2 : Nat) (ids : List Int) (w : World) (hn : bs.length ≤ 1048576) (hm : ids.length ≤ 1048576) (hz : Prs w sl bs) (hy : Ints w sl2 ids) :
    Calls Tryz.prog 63 #[.slice sl bs.length cap, .slice sl2 ids.length cap2] w fun e w' => e = .returned (.bool (B (BidsR bs ids))) ∧ Below w.heap.size w w' := by
  by_cases hl : bs.length = ids.length
  case neg =>
    rw [B_no (fun h => hl (by have := congrArg List.length h.1; simpa [bidsI] using this))]
    have hl' : ((bs.length : Int) != (ids.length : Int)) = true := by simp; omega
    clear hz hy
    generalize bs.length = n at *
    generalize ids.length = m at *
    go_enter Tryz.func63, Tryz.ntmps63
    go_wp2
    go_ret
    exact ⟨rfl, Below.refl _ _⟩
  have YY := Lib.hid (show ∀ k, bs.length ≤ k → BidsTo bs ids k → B (BidsR bs ids) = true from fun k hk h => B_yes (h.all hl hk))
  have NN := Lib.hid (show ∀ (k : Nat) (b : LPr), bs[k]? = some b → ¬ (b.1 = ids.getD k 0 ∧ BidOK b) → B (BidsR bs ids) = false from fun k b hb h => B_no (fun g => h (by obtain ⟨hk, rfl⟩ := List.getElem?_eq_some_iff.1 hb; exact g.at k hk)))
  have ST := Lib.hid (show ∀ (k : Nat) (b : LPr), bs[k]? = some b → BidsTo bs ids k → (b.1 = ids.getD k 0 ∧ BidOK b) → BidsTo bs ids (k + 1) from fun k b hb h g => by obtain ⟨hk, rfl⟩ := List.getElem?_eq_some_iff.1 hb; exact h.step hk g.1 g.2)
  have HZ := Lib.hid hz
  have HY := Lib.hid hy
  rw [← hl]
  have HLL := Lib.hid hl
  clear hz hy hm hl
  generalize hN : bs.length = n at *
  have HN := Lib.hid hN
  clear hN
  generalize B (BidsR bs ids) = r at *
  go_enter Tryz.func63, Tryz.ntmps63
  go_wp2
  go_loopw [14] (fun i wr => ∃ k : Nat, i = .int .i64 k ∧ k ≤ n ∧ Hid (BidsTo bs ids k) ∧ Hid (Below w.heap.size w wr)) (fun i _ => n - (intOf i).toNat)
  case atStart => exact ⟨0, rfl, Nat.zero_le _, fun i h h' => absurd h' (Nat.not_lt_zero _), Below.refl _ _⟩
  case round =>
    obtain ⟨k, rfl, hk, H1, H2⟩ := hrel
    have hk0 : (0 : Int) ≤ (k : Int) := by omega
    by_cases h1 : k < n
    · have h1' : (k : Int) < (n : Int) := by omega
      have hlt : k < bs.length := by rw [HN.out]; exact h1
      have hlt2 : k < ids.length := by rw [← HLL.out]; exact h1
      obtain ⟨c, o, rfl, ZI⟩ : ∃ c o, sl = some ⟨c, o, none⟩ ∧ PrAt w c o bs := by
        rcases HZ.out with e | h
        · rw [e] at hlt; simp at hlt
        · exact h
      obtain ⟨c2, o2, rfl, YI⟩ : ∃ c o, sl2 = some ⟨c, o, none⟩ ∧ IntsAt w c o ids := by
        rcases HY.out with e | h
        · rw [e] at hlt2; simp at hlt2
        · exact h
      obtain ⟨hc0, hc1, hc2⟩ := (ZI.below H2.out).cell k hlt
      have zl := (ZI.below H2.out).lt
      have hd := (H2.out.cell (p := ⟨c2, o2 + k, none⟩) YI.1).trans (YI.2 k hlt2)
      have yl := Nat.lt_of_lt_of_le YI.1 H2.out.size
      have N1 := Lib.hid (NN.out k _ (List.getElem?_eq_getElem hlt))
      have S1 := Lib.hid (ST.out k _ (List.getElem?_eq_getElem hlt) H1.out)
      obtain ⟨x, y, z, hp⟩ : ∃ a b q, bs[k] = (a, b, q) := ⟨_, _, _, rfl⟩
      rw [hp] at hc0 hc1 hc2 N1 S1
      unfold BidOK at N1 S1
      dsimp only at hc0 hc1 hc2 N1 S1
      clear hp hlt hlt2 ZI YI H1
      generalize ids.getD k 0 = i at *
      have D5 := Lib.hid (bA H2.out (.cells #[.int .i64 x, .int .i64 y, .int .i64 z] 58))
      by_cases e1 : x = i
      case neg =>
        have e' : (x != i) = true := by simpa using e1
        have HF := N1.out (fun h => e1 h.1)
        subst HF
        clear e1
        go_wp2
        go_quiet (fail)
        go_wp2
        go_ret
        exact ⟨rfl, below_drewN D5.out _⟩
      have e' : (x != i) = false := by simpa using e1
      by_cases e2 : 1 ≤ y
      case neg =>
        have HF := N1.out (fun h => e2 h.2.1.1)
        subst HF
        clear e1
        go_wp2
        go_quiet (fail)
        go_wp2
        go_ret
        exact ⟨rfl, below_drewN D5.out _⟩
      by_cases e3 : y ≤ 4
      case neg =>
        have HF := N1.out (fun h => e3 h.2.1.2)
        subst HF
        clear e1
        go_wp2
        go_quiet (fail)
        go_wp2
        go_ret
        exact ⟨rfl, below_drewN D5.out _⟩
      by_cases e4 : 0 ≤ z
      case neg =>
        have HF := N1.out (fun h => e4 h.2.2.1)
        subst HF
        clear e1
        go_wp2
        go_quiet (fail)
        go_wp2
        go_ret
        exact ⟨rfl, below_drewN D5.out _⟩
      by_cases e5 : z ≤ 1000000000
      case neg =>
        have HF := N1.out (fun h => e5 h.2.2.2)
        subst HF
        clear e1
        go_wp2
        go_quiet (fail)
        go_wp2
        go_ret
        exact ⟨rfl, below_drewN D5.out _⟩
      have S2 := Lib.hid (S1.out ⟨e1, ⟨e2, e3⟩, e4, e5⟩)
      clear e1
      go_wp2
      go_quiet (fail)
      go_wp2
      go_roundw
      case rel => exact ⟨k + 1, by go_num, by omega, S2, below_drewN D5.out _⟩
      case measure => simp [intOf]; omega
    · have h1' : ¬ (k : Int) < (n : Int) := by omega
      have HE := YY.out k (by omega) H1.out
      subst HE
      go_wp2
      go_ret
      exact ⟨rfl, H2.out⟩

end Go.Proofs.YtanoklpffenljaaGreatDoor
