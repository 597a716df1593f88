/-
  ROWS PUT TOGETHER: slices.Grow of none, slices.Concat, at places.
  IS A PLACE AMONG PLACES? slices.Index and slices.Contains at places.
  THE LAW FnExactTableRight: the walk.
  THE LAWS' TABLES, copied: whose memory the copies are.
  MARKS: lists of numbers and tables of one's own written over by numbers that rise, and held against them.
  A TABLE OF ONE'S OWN, marked: what turns and what does not.
  THE LAWS' PLANS: measured, copied, held against each other, marked.
  ARE IDS RIGHT? As both sides answer it.
  MAY TWO STATIONS HAVE TWO CHANNELS? As the model answers it; and is a number in a list?
-/
import Derived.Test.YtaogkdhloogmhaaHae
import Derived.Lib.AppendZerosOnto
import Derived.Deep.Upon
import Derived.Test.YtaogkdhloogmhaaHac
import Derived.Test.YtaogkdhloogmhaaHad
import Derived.Deep.RegionHeldLaw
namespace Go.Proofs.Ytaogkdhloogmhaa
open Go.RowKit
set_option linter.unusedVariables false

theorem at_add (c o i : Nat) : (⟨c, o, none⟩ : Addr).add i = ⟨c, o + i, none⟩ := by
  unfold Addr.add
  by_cases h : i = 0 <;> simp [h]
theorem enCells_one (pl : List LPl) : ∀ u ∈ enCells pl, u.oneCell' = true := by
  intro u hu
  unfold enCells at hu
  obtain ⟨p, _, h⟩ := List.mem_flatMap.1 hu
  simp [encE] at h
  rcases h with rfl | rfl <;> rfl
theorem enCells_app (a b : List LPl) : enCells (a ++ b) = enCells a ++ enCells b := by simp [enCells]
theorem pl_cells {w : World} {c o : Nat} {pl : List LPl} (h : PlAt w c o pl) : ∀ (j : Nat) (u : Value), (enCells pl)[j]? = some u → w.cell? ((⟨c, o, none⟩ : Addr).add j) = some u := by
  intro j u hu
  have hl : j < pl.length * 2 := by
    rw [← enCells_len]
    exact (List.getElem?_eq_some_iff.1 hu).1
  rw [at_add]
  obtain ⟨i, rfl | rfl⟩ : ∃ i, j = i * 2 ∨ j = i * 2 + 1 := ⟨j / 2, by omega⟩
  · have hi : i < pl.length := by omega
    rw [(h.cell i hi).1, ← hu, (enCells_at pl i hi).1]
  · have hi : i < pl.length := by omega
    rw [← Nat.add_assoc, (h.cell i hi).2, ← hu, (enCells_at pl i hi).2]
theorem app_none27 (w : World) (ty : TypeId) (base : Option Addr) (n cap : Nat) (hle : n ≤ cap) (p : Option Addr) (c : Nat) :
    (Builtin.append_ #[37, 37] ty #[.slice base n cap, .slice p 0 c]).run Try.prog w = .ok (.slice base n cap) w := by
  obtain ⟨i, h1, h2, h3, h4⟩ := info_parts info34
  refine run_append_nothing w 37 37 ty 64 i Try.underlying37 h1 base n cap hle _ ?_
  cases p with
  | none => exact Src.ofNil _ Try.underlying37 c
  | some a => exact Src.ofSlice _ Try.underlying37 a 0 c [] (by simp) (fun j u h => by simp at h) (fun u h => by cases h)

set_option maxRecDepth 100000 in
set_option maxHeartbeats 2000000 in
/-- slices.Grow of no slice. -/
theorem grow_any (n : Nat) (w : World) (hn : n ≤ 1048576) :
    Calls Try.prog 56 #[.slice none 0 0, .int .i64 n] w fun e w' => ∃ v, e = .returned v ∧ w'.ownsRow w.heap.size 64 2 v 0 (enCells []) ∧ Below w.heap.size w w' := by
  obtain ⟨i3, hi3, hd0, hd1, hd2⟩ := info_parts info34
  by_cases h0 : n = 0
  · subst h0
    go_enter Try.func56, Try.ntmps56
    go_wp2
    go_ret
    exact ⟨_, rfl, ⟨rfl, .inl ⟨rfl, rfl⟩⟩, Below.refl _ _⟩
  · have hp : (0 : Int) < (n : Int) := by omega
    have hneg : ¬ (n : Int) < 0 := by omega
    have hrz := fun ty => Lib.run_append_nil_zeros (P := Try.prog) w 37 3 ty 64 i3 _ .i64 .i64 Try.underlying37 Try.underlying3 hi3 hd0 n (by omega) (by omega) (by omega) (by rw [hd2]; omega)
    have hG := grownCap_ge w n 0 64
    have hM := grownCap_le_maxLen w n 0 64 (by unfold maxLen; omega)
    have hM' := hM
    unfold maxLen at hM'
    generalize grownCap w n 0 64 = G at *
    have O : Hid ((w.drew.alloc (.cells (Builtin.zeroCells (Value.agg #[Value.int .i64 0, Value.int .i64 0]).cells n ++ Builtin.zeroCells (Value.agg #[Value.int .i64 0, Value.int .i64 0]).cells (G - n)) 64)).ownsRow w.heap.size 64 2 (.slice (some ⟨w.heap.size, 0, none⟩) 0 G) 0 (enCells [])) := by
      refine ⟨rfl, .inr ⟨w.heap.size, G, _, rfl, Nat.le_refl _, new_at w.drew _, Nat.zero_le _, hM, ?_, rfl⟩⟩
      simp only [Array.size_append, size_zeroCells]
      rw [← Nat.add_mul, show (Value.agg #[Value.int .i64 0, Value.int .i64 0]).cells.size = 2 from rfl]
      congr 1
      omega
    have BL : Hid (Below w.heap.size w (w.drew.alloc (.cells (Builtin.zeroCells (Value.agg #[Value.int .i64 0, Value.int .i64 0]).cells n ++ Builtin.zeroCells (Value.agg #[Value.int .i64 0, Value.int .i64 0]).cells (G - n)) 64))) := bA ((Below.refl _ _).drew) _
    generalize Builtin.zeroCells (Value.agg #[Value.int .i64 0, Value.int .i64 0]).cells n ++ Builtin.zeroCells (Value.agg #[Value.int .i64 0, Value.int .i64 0]).cells (G - n) = vs at *
    go_enter Try.func56, Try.ntmps56
    go_wp2_with (at_builtin; refine Lib.wpList_append_run _ rfl _ _ _ _ rfl _ _ rfl rfl _ _ (hrz _) ?_)
    go_ret
    exact ⟨_, rfl, O.out, BL.out⟩

/-- All places of the rows, one behind the other. -/
def flatR (rows : List LRow) : List LPl := rows.flatMap fun r => r.2
theorem flatR_step (rows : List LRow) (k : Nat) (h : k < rows.length) : flatR (rows.take (k + 1)) = flatR (rows.take k) ++ rows[k].2 := by
  unfold flatR
  rw [List.take_succ_eq_append_getElem h, List.flatMap_append]
  simp
theorem flatR_le (rows : List LRow) (k : Nat) : (flatR (rows.take k)).length ≤ (flatR rows).length := by
  have := congrArg (fun l => (flatR l).length) (List.take_append_drop k rows)
  simp only [flatR, List.flatMap_append, List.length_append] at this
  unfold flatR
  omega
theorem flatR_map {rs : List LSt} {top : Int} {ids : List Int} {rows : List LRow} (h : rows.map (fun r => r.2) = ids.map (chF rs top)) : flatR rows = plF rs top ids := by
  unfold flatR plF
  rw [List.flatMap_def, List.flatMap_def, h]

set_option maxRecDepth 100000 in
set_option maxHeartbeats 4000000 in
/-- slices.Concat at places. -/
theorem cat_any (sl : Option Addr) (cap : Nat) (rows : List LRow) (w : World) (hn : rows.length ≤ 1048576) (hT : (flatR rows).length ≤ 1048576) (hz : Rws w sl rows) :
    Calls Try.prog 34 #[.slice sl rows.length cap] w fun e w' => ∃ v, e = .returned v ∧ w'.ownsRow w.heap.size 64 2 v (flatR rows).length (enCells (flatR rows)) ∧ Below w.heap.size w w' := by
  obtain ⟨i3, hi3, hd0, hd1, hd2⟩ := info_parts info34
  have HZ := Lib.hid hz
  have EG := Lib.hid (fun (W : World) (q : Nat) (h : q ≤ 1048576) => grow_any q W h)
  clear hz
  generalize hF : flatR rows = fl at *
  have HF := Lib.hid hF
  have FL := Lib.hid (fun k => flatR_le rows k)
  rw [hF] at FL
  clear hF
  generalize hN : rows.length = n at *
  have HN := Lib.hid hN
  clear hN
  go_enter Try.func34, Try.ntmps34
  go_wp2
  go_loopw [3, 11] (fun s i wr => ∃ (k q : Nat), i = .int .i64 k ∧ k ≤ n ∧ s = .int .i64 q ∧ q ≤ 1048576 ∧ Hid (q = (flatR (rows.take k)).length) ∧ wr = w) (fun _ i _ => n - (intOf i).toNat)
  case atStart => exact ⟨0, 0, rfl, Nat.zero_le _, rfl, Nat.zero_le _, rfl, rfl⟩
  case round =>
    obtain ⟨k, q, rfl, hk, rfl, hq, HQ, rfl⟩ := hrel
    have hk0 : (0 : Int) ≤ (k : Int) := by omega
    by_cases g1 : k < n
    · have g1' : (k : Int) < (n : Int) := by omega
      have hlt : k < rows.length := by rw [HN.out]; exact g1
      obtain ⟨c, rfl, cl, hcs⟩ : ∃ c, sl = some ⟨c, 0, none⟩ ∧ c < wr.heap.size ∧ ∀ i (h : i < rows.length), wr.cell? ⟨c, i, none⟩ = some rows[i].1 := by
        rcases HZ.out.row with e | h
        · rw [e] at hlt; simp at hlt
        · exact h
      have hc := hcs k hlt
      obtain ⟨s1, k1, v1, -⟩ := HZ.out.each rows[k] (List.getElem_mem hlt)
      rw [v1] at hc
      have QN := Lib.hid (show q + rows[k].2.length = (flatR (rows.take (k + 1))).length by rw [flatR_step rows k hlt, List.length_append, HQ.out])
      have hq2 : q + rows[k].2.length ≤ 1048576 := by rw [QN.out]; have := FL.out (k + 1); omega
      clear hcs v1
      generalize rows[k].2.length = r at *
      clear hlt
      go_wp2
      go_roundw
      case rel => exact ⟨k + 1, q + r, by go_num, by omega, by go_num, hq2, QN, trivial⟩
      case measure => simp [intOf]; omega
    · have g1' : ¬ (k : Int) < (n : Int) := by omega
      have E := Lib.hid (EG.out wr q hq)
      clear EG HQ
      go_wp2_with fail
      refine E.out.mono ?_
      rintro e w1 ⟨v1, rfl, o1, b1⟩
      obtain ⟨C0, hC0⟩ : ∃ C0, C0 = wr.heap.size := ⟨_, rfl⟩
      have RD : Hid (∀ W, Below C0 w1 W → Rws W sl rows) := fun W hW => HZ.out.below (b1.trans (by rw [← hC0]; exact hW))
      have FB : Hid (∀ W, Below C0 w1 W → Below wr.heap.size wr W) := fun W hW => b1.trans (by rw [← hC0]; exact hW)
      have hs1 : C0 ≤ w1.heap.size := by rw [hC0]; exact b1.size
      have O1 : Hid (w1.ownsRow C0 64 2 v1 0 (enCells [])) := by rw [hC0]; exact o1
      have OF : Hid (∀ (W : World) v xs, W.ownsRow C0 64 2 v fl.length xs → W.ownsRow wr.heap.size 64 2 v fl.length xs) := fun W v xs h => by rw [← hC0]; exact h
      clear o1 b1 E HZ hC0
      go_wp2
      go_loopw [6, 27] (fun v i wq => ∃ (k : Nat) (cu : List LPl), i = .int .i64 k ∧ k ≤ n ∧ Hid (cu = flatR (rows.take k)) ∧ Hid (wq.ownsRow C0 64 2 v cu.length (enCells cu)) ∧ Hid (Below C0 w1 wq)) (fun _ i _ => n - (intOf i).toNat)
      case atStart => exact ⟨0, [], rfl, Nat.zero_le _, rfl, O1, Below.refl _ _⟩
      case round =>
        obtain ⟨k, cu, rfl, hk, HC, OR, HB⟩ := hrel
        have hk0 : (0 : Int) ≤ (k : Int) := by omega
        by_cases g1 : k < n
        · have g1' : (k : Int) < (n : Int) := by omega
          have hlt : k < rows.length := by rw [HN.out]; exact g1
          have RW := RD.out _ HB.out
          obtain ⟨c, rfl, cl, hcs⟩ : ∃ c, sl = some ⟨c, 0, none⟩ ∧ c < wr.heap.size ∧ ∀ i (h : i < rows.length), wr.cell? ⟨c, i, none⟩ = some rows[i].1 := by
            rcases RW.row with e | h
            · rw [e] at hlt; simp at hlt
            · exact h
          have hc := hcs k hlt
          obtain ⟨s1, k1, e1, p1⟩ := RW.each rows[k] (List.getElem_mem hlt)
          rw [e1] at hc
          have CS := Lib.hid (show cu ++ rows[k].2 = flatR (rows.take (k + 1)) by rw [HC.out]; exact (flatR_step rows k hlt).symm)
          have CL := Lib.hid (show (cu ++ rows[k].2).length ≤ 1048576 by rw [CS.out]; have := FL.out (k + 1); omega)
          obtain ⟨vsl, vcap, rfl⟩ := own_v OR.out
          have hlc : cu.length ≤ vcap := by
            rcases OR.out.2 with ⟨_, h0⟩ | ⟨g, cp, cur, hv, _, _, h5, _⟩
            · rw [h0]; exact Nat.zero_le _
            · cases hv; exact h5
          have hsw := HB.out.size
          clear hcs RW e1
          generalize rows[k].2 = r at *
          clear hlt
          by_cases hr : r = []
          · subst hr
            have CSE : Hid (cu = flatR (rows.take (k + 1))) := by have := CS.out; rwa [List.append_nil] at this
            have ha := app_none27 wr 37 vsl cu.length vcap hlc s1 k1
            go_wp2_with (at_builtin; refine Lib.wpList_append_run _ rfl _ _ _ _ rfl _ _ rfl rfl _ _ ha ?_)
            go_roundw
            case rel => exact ⟨k + 1, cu, by go_num, by omega, CSE, OR, HB⟩
            case measure => simp [intOf]; omega
          · obtain ⟨rc, ro, rfl, PA⟩ : ∃ c o, s1 = some ⟨c, o, none⟩ ∧ PlAt wr c o r := by
              rcases p1 with h | h
              · exact absurd h hr
              · exact h
            have hrl : 0 < r.length := by
              cases r with
              | nil => exact absurd rfl hr
              | cons a t => simp
            have CL2 : cu.length + r.length ≤ 1048576 := by have := CL.out; rwa [List.length_append] at this
            have OL := Lib.hid (show ∀ j, (Value.slice vsl cu.length vcap).ownBlock = some j → C0 ≤ j from fun j hj => (OR.out.lt j hj).1)
            go_wp2_with (at_builtin; refine wpList_append_lies _ rfl (.tmp 31) (.tmp 32) 37 rfl C0 64 i3 (.agg #[.int .i64 0, .int .i64 0]) 2 16 Try.underlying37 hi3 hd0 hd1 hd2 rfl (by decide) _ _ _ rfl OR.out ⟨rc, ro, none⟩ r.length k1 (enCells r) rfl (enCells_len r) (pl_cells PA) (enCells_one r) hrl (by unfold maxLen; omega) (by omega) (by omega) wr.heap.size rfl ?_)
            intro g9 cap9 w9 own9 grow9 hg9 hlt9
            have O9 : Hid (w9.ownsRow C0 64 2 (.slice (some ⟨g9, 0, none⟩) (cu.length + r.length) cap9) (cu ++ r).length (enCells (cu ++ r))) := by
              rw [enCells_app, List.length_append]; exact own9
            have B9 := Lib.hid (HB.out.grown grow9 (by omega) (fun j hj => OL.out j hj))
            clear own9 grow9 hg9 hlt9 OR HB OL p1 PA
            go_wp2
            go_roundw
            case rel => exact ⟨k + 1, cu ++ r, by go_num, by omega, CS, O9, B9⟩
            case measure => simp [intOf]; omega
        · have g1' : ¬ (k : Int) < (n : Int) := by omega
          have P := Lib.hid (show cu = fl by rw [HC.out, List.take_of_length_le (by rw [HN.out]; omega), HF.out])
          have O9 := OR.out
          rw [P.out] at O9
          have OO := Lib.hid (OF.out _ _ _ O9)
          have BB := Lib.hid (FB.out _ HB.out)
          clear O9 OR HC P
          go_wp2
          go_ret
          exact ⟨_, rfl, OO.out, BB.out⟩

end Go.Proofs.Ytaogkdhloogmhaa
namespace Go.Proofs.Ytaogkdhloogmhaa
open Go.RowKit
set_option linter.unusedVariables false

def NotP (pl : List LPl) (p : LPl) (k : Nat) : Prop := ∀ i (h : i < pl.length), i < k → pl[i] ≠ p
theorem NotP.all {pl : List LPl} {p : LPl} {k : Nat} (h : NotP pl p k) (hk : pl.length ≤ k) : p ∉ pl := fun g => by
  obtain ⟨i, hi, e⟩ := List.getElem_of_mem g
  exact h i hi (by omega) e
theorem NotP.step {pl : List LPl} {p : LPl} {k : Nat} (h : NotP pl p k) (hk : k < pl.length) (g : pl[k] ≠ p) : NotP pl p (k + 1) := fun i hi hik => by
  by_cases e : i = k
  · subst e; exact g
  · exact h i hi (by omega)
/-- Two cells. -/
def TwoAt (w : World) (b : Nat) (x y : Int) : Prop := w.heap[b]? = some (.cells #[.int .i64 x, .int .i64 y] 64)
theorem TwoAt.lt {w : World} {b : Nat} {x y : Int} (h : TwoAt w b x y) : b < w.heap.size := (Array.getElem?_eq_some_iff.1 h).1
theorem TwoAt.below {w w' : World} {b : Nat} {x y : Int} (h : TwoAt w b x y) (hb : Below w.heap.size w w') : TwoAt w' b x y := (hb.block b h.lt).trans h
theorem TwoAt.cells {w : World} {b : Nat} {x y : Int} (h : TwoAt w b x y) : w.cell? ⟨b, 0, none⟩ = some (.int .i64 x) ∧ w.cell? ⟨b, 1, none⟩ = some (.int .i64 y) := by
  unfold TwoAt at h
  constructor <;> simp [World.cell?, h]
theorem TwoAt.new (w : World) (x y : Int) : TwoAt (w.alloc (.cells #[.int .i64 x, .int .i64 y] 64)) w.heap.size x y := new_at _ _

end Go.Proofs.Ytaogkdhloogmhaa
namespace Go.Proofs.Ytaogkdhloogmhaa
open Go.RowKit
set_option linter.unusedVariables false

theorem Sts0.small {w : World} {sl : Option Addr} {rs : List LSt} (h : Sts0 w sl rs) (hs : totD rs ≤ 1048576) : Sts w sl rs := by
  refine ⟨h.row, fun r hr => ?_⟩
  obtain ⟨s, c, e, hi, _⟩ := h.dom r hr
  exact ⟨s, c, e, hi, Nat.le_trans (totD_mem rs r hr) hs⟩

end Go.Proofs.Ytaogkdhloogmhaa
namespace Go.Proofs.Ytaogkdhloogmhaa
open Go.RowKit
set_option linter.unusedVariables false

/-- The numbers zs, in a block of their own. -/
def RowZ (w : World) (g : Nat) (zs : List Int) : Prop := RowAt w g (vsOf zs zs.length)
theorem RowZ.lt {w : World} {g : Nat} {zs : List Int} (h : RowZ w g zs) : g < w.heap.size := RowAt.lt h
theorem RowZ.below {w w' : World} {g : Nat} {zs : List Int} (h : RowZ w g zs) (hb : Below w.heap.size w w') : RowZ w' g zs := (hb.block g h.lt).trans h
theorem RowZ.set {w : World} {c : Nat} {zs : List Int} (h : RowZ w c zs) {b : Nat} (hb : c ≠ b) (i : Nat) (v : Value) : RowZ (w.setCell ⟨b, i, none⟩ v) c zs := (Below.heap_setCell _ _ _ _ hb).trans h
theorem RowZ.ints {w : World} {g : Nat} {zs : List Int} (h : RowZ w g zs) : Ints w (some ⟨g, 0, none⟩) zs := .inr ⟨g, 0, rfl, RowAt.ints h (Nat.le_refl _)⟩

/-- A station whose Domain has memory of its own, above block b. -/
def DomOwn (b : Nat) (w : World) (r : LSt) : Prop := ∃ g, r.2.2.1 = .slice (some ⟨g, 0, none⟩) r.2.2.2.length r.2.2.2.length ∧ RowZ w g r.2.2.2 ∧ b < g ∧ r.2.2.2.length ≤ 1048576
theorem DomOwn.below {b : Nat} {w w' : World} {r : LSt} (h : DomOwn b w r) (hb : Below w.heap.size w w') : DomOwn b w' r := by
  obtain ⟨g, e, hi, hg, hl⟩ := h
  exact ⟨g, e, hi.below hb, hg, hl⟩
theorem DomOwn.set {b : Nat} {w : World} {r : LSt} (h : DomOwn b w r) (i : Nat) (v : Value) : DomOwn b (w.setCell ⟨b, i, none⟩ v) r := by
  obtain ⟨g, e, hi, hg, hl⟩ := h
  exact ⟨g, e, hi.set (Nat.ne_of_gt hg) i v, hg, hl⟩
theorem DomOwn.din {b : Nat} {w : World} {r : LSt} (h : DomOwn b w r) : DomIn w r := by
  obtain ⟨g, e, hi, hg, hl⟩ := h
  exact ⟨_, _, e, hi.ints, hl⟩

/-- A table in memory of its own, from block C on. -/
structure OwnT (C : Nat) (w : World) (b1 b2 : Nat) (rs : List LSt) (ps : List LPr) : Prop where
  r1 : Row3 w b1 77 rs.length (rs.map stT)
  dom : ∀ r ∈ rs, DomOwn b1 w r
  r2 : Row3 w b2 66 ps.length (ps.map prT)
  lo1 : C ≤ b1
  lo2 : C ≤ b2
theorem OwnT.below {C : Nat} {w w' : World} {b1 b2 : Nat} {rs : List LSt} {ps : List LPr} (h : OwnT C w b1 b2 rs ps) (hb : Below w.heap.size w w') : OwnT C w' b1 b2 rs ps :=
  ⟨h.r1.below hb, fun r hr => (h.dom r hr).below hb, h.r2.below hb, h.lo1, h.lo2⟩

end Go.Proofs.Ytaogkdhloogmhaa
namespace Go.Proofs.Ytaogkdhloogmhaa
open Go.RowKit
set_option linter.unusedVariables false

/-- Of the blocks that were there only block b may have turned. -/
structure Only (b : Nat) (w w' : World) : Prop where
  os : w'.os = w.os
  tape : w'.tape = w.tape
  output : w'.output = w.output
  size : w.heap.size ≤ w'.heap.size
  block : ∀ k, k < w.heap.size → k ≠ b → w'.heap[k]? = w.heap[k]?

theorem Only.refl (b : Nat) (w : World) : Only b w w := ⟨rfl, rfl, rfl, Nat.le_refl _, fun _ _ _ => rfl⟩
theorem Only.trans {b : Nat} {u v w : World} (h : Only b u v) (k : Only b v w) : Only b u w :=
  ⟨k.os.trans h.os, k.tape.trans h.tape, k.output.trans h.output, Nat.le_trans h.size k.size, fun i hi hb => (k.block i (Nat.lt_of_lt_of_le hi h.size) hb).trans (h.block i hi hb)⟩
theorem Only.drewN {b : Nat} {u v : World} (h : Only b u v) (n : Nat) : Only b u (v.drewN n) := ⟨h.os, h.tape, h.output, h.size, h.block⟩
theorem Only.drew {b : Nat} {u v : World} (h : Only b u v) : Only b u v.drew := ⟨h.os, h.tape, h.output, h.size, h.block⟩
theorem Only.setCell {b : Nat} {u v : World} (h : Only b u v) (o : Nat) (x : Value) : Only b u (v.setCell ⟨b, o, none⟩ x) :=
  h.trans ⟨rfl, rfl, rfl, by simp [World.setCell], fun k _ hk => Below.heap_setCell _ _ _ _ hk⟩
theorem Only.alloc {b : Nat} {u v : World} (h : Only b u v) (o : Obj) : Only b u (v.alloc o) :=
  h.trans ⟨rfl, rfl, rfl, by simp, fun k hk _ => Below.heap_alloc _ _ _ hk⟩
theorem Only.of_below {b : Nat} {u v : World} (h : Below u.heap.size u v) : Only b u v := ⟨h.os, h.tape, h.output, h.size, fun k hk _ => h.block k hk⟩
theorem Only.below {b : Nat} {u v w : World} (h : Below u.heap.size u v) (hb : u.heap.size ≤ b) (k : Only b v w) : Below u.heap.size u w :=
  ⟨k.os.trans h.os, k.tape.trans h.tape, k.output.trans h.output, Nat.le_trans h.size k.size, fun i hi => (k.block i (Nat.lt_of_lt_of_le hi h.size) (by omega)).trans (h.block i hi)⟩
theorem Only.cell {b : Nat} {w w' : World} (h : Only b w w') {c o : Nat} (hc : c < w.heap.size) (hb : c ≠ b) : w'.cell? ⟨c, o, none⟩ = w.cell? ⟨c, o, none⟩ := World.cell?_of_block (w := w) (h.block c hc hb)
theorem Only.frozen {b : Nat} {w w' : World} (h : Only b w w') {c o : Nat} (hc : c < w.heap.size) (hb : c ≠ b) : w'.frozen? ⟨c, o, none⟩ = w.frozen? ⟨c, o, none⟩ := World.frozen?_of_block (w := w) (h.block c hc hb)

/-- The n numbers from k on. -/
def marks (k : Int) (n : Nat) : List Int := (List.range n).map (fun i : Nat => k + (i : Int))
/-- The first i cells of a row hold the marks. -/
def Marked (w : World) (b s : Nat) (k : Int) (i : Nat) : Prop := ∃ vs : Array Value, RowAt w b vs ∧ vs.size = s ∧ ∀ j, j < i → vs[j]? = some (.int .i64 (k + (j : Int)))
theorem Marked.step {w : World} {b s : Nat} {k : Int} {i : Nat} (h : Marked w b s k i) (hi : i < s) : Marked (w.setCell ⟨b, i, none⟩ (.int .i64 (k + (i : Int)))) b s k (i + 1) := by
  obtain ⟨vs, h1, h2, h3⟩ := h
  refine ⟨_, h1.set i _, by simp [h2], fun j hj => ?_⟩
  rw [Array.getElem?_setIfInBounds]
  by_cases e : i = j
  · subst e; simp [h2, hi]
  · rw [if_neg e]; exact h3 j (by omega)
theorem Marked.cell {w : World} {b s : Nat} {k : Int} {i : Nat} (h : Marked w b s k i) (j : Nat) (hj : j < s) : (∃ v, w.cell? ⟨b, j, none⟩ = some v) ∧ w.frozen? ⟨b, j, none⟩ = false := by
  obtain ⟨vs, h1, h2, h3⟩ := h
  exact ⟨⟨vs[j]'(by omega), by rw [h1.cell j]; exact Array.getElem?_eq_getElem (by omega)⟩, h1.frozen j⟩
theorem Marked.at {w : World} {b s : Nat} {k : Int} {i : Nat} (h : Marked w b s k i) (j : Nat) (hj : j < i) : w.cell? ⟨b, j, none⟩ = some (.int .i64 (k + (j : Int))) := by
  obtain ⟨vs, h1, h2, h3⟩ := h
  rw [h1.cell j]; exact h3 j hj

theorem Only.grownBy {b : Nat} {w w' : World} (h : Only b w w') : w.grownBy w' (some b) := ⟨h.os, h.tape, h.output, h.size, fun k hk hne => h.block k hk (fun e => hne (by rw [e]))⟩
/-- Nothing has turned but blocks from B on, below L. -/
structure Btw (B L : Nat) (w w' : World) : Prop where
  os : w'.os = w.os
  tape : w'.tape = w.tape
  output : w'.output = w.output
  size : w.heap.size ≤ w'.heap.size
  block : ∀ k, k < w.heap.size → (k < B ∨ L ≤ k) → w'.heap[k]? = w.heap[k]?
theorem Btw.refl (B L : Nat) (w : World) : Btw B L w w := ⟨rfl, rfl, rfl, Nat.le_refl _, fun _ _ _ => rfl⟩
theorem Btw.trans {B L : Nat} {u v w : World} (h : Btw B L u v) (k : Btw B L v w) : Btw B L u w :=
  ⟨k.os.trans h.os, k.tape.trans h.tape, k.output.trans h.output, Nat.le_trans h.size k.size, fun j hj hc => (k.block j (Nat.lt_of_lt_of_le hj h.size) hc).trans (h.block j hj hc)⟩
theorem Btw.grown {B L : Nat} {w0 w w' : World} {row : Option Nat} (h : Btw B L w0 w) (hg : w.grownBy w' row) (hr : ∀ j, row = some j → B ≤ j ∧ j < L) : Btw B L w0 w' :=
  h.trans ⟨hg.os, hg.tape, hg.output, hg.size, fun k hk hc => hg.block k hk (fun e => by have := hr k e.symm; omega)⟩
theorem Btw.alloc {B L : Nat} (w : World) (o : Obj) : Btw B L w (w.alloc o) := (Btw.refl B L w).grown (World.grownBy_alloc w o none) (fun j hj => by cases hj)
theorem Btw.below {B L : Nat} {w w' : World} (h : Btw B L w w') (hB : B ≤ w.heap.size) : Below B w w' := ⟨h.os, h.tape, h.output, h.size, fun k hk => h.block k (Nat.lt_of_lt_of_le hk hB) (.inl hk)⟩
theorem Btw.only {B L g : Nat} {w0 w w' : World} (h : Btw B L w0 w) (hg : Only g w w') (h1 : B ≤ g) (h2 : g < L) : Btw B L w0 w' := h.grown hg.grownBy (fun j hj => by cases hj; exact ⟨h1, h2⟩)
theorem own_btw {B L C : Nat} {e : TypeId} {m : Nat} {v : Value} {n : Nat} {xs : List Value} {w w' : World} (h : w.ownsRow C e m v n xs) (hb : Btw B L w w') (hc : ∀ j, v.ownBlock = some j → j < B ∨ L ≤ j) : w'.ownsRow C e m v n xs := by
  refine ⟨h.1, ?_⟩
  rcases h.2 with h | ⟨g, cap, cur, hv, hg, hh, r⟩
  · exact .inl h
  · exact .inr ⟨g, cap, cur, hv, hg, (hb.block g (Array.getElem?_eq_some_iff.1 hh).1 (hc g (by rw [hv]; rfl))).trans hh, r⟩

/-- A row of stations whose Domains are rows of their own, all from block C on and below L. -/
structure StM (C L : Nat) (w : World) (b : Nat) (rs : List LSt) : Prop where
  row : ∃ vs : Array Value, w.heap[b]? = some (.cells vs 77) ∧ vs.size = rs.length * 3 ∧ ∀ i (h : i < rs.length), vs[i * 3 + 2]? = some rs[i].2.2.1
  dom : ∀ r ∈ rs, ∃ g us, r.2.2.1 = .slice (some ⟨g, 0, none⟩) r.2.2.2.length r.2.2.2.length ∧ RowAt w g us ∧ us.size = r.2.2.2.length ∧ C ≤ g ∧ g < L
  lo : C ≤ b
  hi : b < L
theorem StM.below {C L : Nat} {w w' : World} {b : Nat} {rs : List LSt} (h : StM C L w b rs) (hb : Below w.heap.size w w') : StM C L w' b rs := by
  refine ⟨?_, fun r hr => ?_, h.lo, h.hi⟩
  · obtain ⟨vs, h1, h2⟩ := h.row
    exact ⟨vs, (hb.block b (Array.getElem?_eq_some_iff.1 h1).1).trans h1, h2⟩
  · obtain ⟨g, us, e, hz, r⟩ := h.dom r hr
    exact ⟨g, us, e, (hb.block g hz.lt).trans hz, r⟩
theorem StM.kind {C L : Nat} {w : World} {b : Nat} {rs : List LSt} (h : StM C L w b rs) (o : Nat) (ho : ∀ i, o ≠ i * 3 + 2) (v : Value) : StM C L (w.setCell ⟨b, o, none⟩ v) b rs := by
  obtain ⟨vs, h1, h2, h3⟩ := h.row
  refine ⟨⟨_, heap_setCell_same w b o vs 77 v h1, by simp [h2], fun i hi => ?_⟩, fun r hr => ?_, h.lo, h.hi⟩
  · rw [Array.getElem?_setIfInBounds_ne (ho i)]; exact h3 i hi
  · obtain ⟨g, us, e, hz, r⟩ := h.dom r hr
    have hne : g ≠ b := by
      rintro rfl
      have hz' : w.heap[g]? = some (.cells us 2) := hz
      rw [h1] at hz'
      simp at hz'
    exact ⟨g, us, e, (Below.heap_setCell _ _ _ _ hne).trans hz, r⟩
theorem StM.there {C L : Nat} {w : World} {b : Nat} {rs : List LSt} (h : StM C L w b rs) (j : Nat) (hj : j < rs.length * 3) : (∃ v, w.cell? ⟨b, j, none⟩ = some v) ∧ w.frozen? ⟨b, j, none⟩ = false := by
  obtain ⟨vs, h1, h2, h3⟩ := h.row
  exact ⟨⟨vs[j]'(by omega), by simp [World.cell?, h1, show j < vs.size by omega]⟩, by simp [World.frozen?, h1]⟩
theorem StM.at {C L : Nat} {w : World} {b : Nat} {rs : List LSt} (h : StM C L w b rs) (i : Nat) (hi : i < rs.length) : w.cell? ⟨b, i * 3 + 2, none⟩ = some rs[i].2.2.1 := by
  obtain ⟨vs, h1, h2, h3⟩ := h.row
  simp [World.cell?, h1, h3 i hi]
/-- What no mark of a station touches: rows of pairs. -/
def Keep (w w' : World) : Prop := ∀ (b : Nat) (vs : Array Value), w.heap[b]? = some (.cells vs 66) → w'.heap[b]? = some (.cells vs 66)
theorem Keep.refl (w : World) : Keep w w := fun _ _ h => h
theorem Keep.trans {u v w : World} (h : Keep u v) (k : Keep v w) : Keep u w := fun b vs g => k b vs (h b vs g)
theorem Keep.only {w w' : World} {g : Nat} {t : TypeId} {us : Array Value} (ho : Only g w w') (hg : w.heap[g]? = some (.cells us t)) (ht : t ≠ 66) : Keep w w' := fun b vs h => by
  refine (ho.block b (Array.getElem?_eq_some_iff.1 h).1 ?_).trans h
  rintro rfl
  rw [h] at hg
  simp at hg
  exact ht hg.2.symm
theorem Keep.below {w w' : World} (hb : Below w.heap.size w w') : Keep w w' := fun b vs h => (hb.block b (Array.getElem?_eq_some_iff.1 h).1).trans h

end Go.Proofs.Ytaogkdhloogmhaa
namespace Go.Proofs.Ytaogkdhloogmhaa
open Go.RowKit
set_option linter.unusedVariables false

/-- A row of m pairs. -/
def PrM (w : World) (b m : Nat) : Prop := ∃ vs : Array Value, w.heap[b]? = some (.cells vs 66) ∧ vs.size = m * 3
theorem PrM.set {w : World} {b m : Nat} (h : PrM w b m) (o : Nat) (v : Value) : PrM (w.setCell ⟨b, o, none⟩ v) b m := by
  obtain ⟨vs, h1, h2⟩ := h
  exact ⟨_, heap_setCell_same w b o vs 66 v h1, by simp [h2]⟩
theorem PrM.there {w : World} {b m : Nat} (h : PrM w b m) (j : Nat) (hj : j < m * 3) : (∃ v, w.cell? ⟨b, j, none⟩ = some v) ∧ w.frozen? ⟨b, j, none⟩ = false := by
  obtain ⟨vs, h1, h2⟩ := h
  exact ⟨⟨vs[j]'(by omega), by simp [World.cell?, h1, show j < vs.size by omega]⟩, by simp [World.frozen?, h1]⟩

end Go.Proofs.Ytaogkdhloogmhaa
namespace Go.Proofs.Ytaogkdhloogmhaa
open Go.RowKit
set_option linter.unusedVariables false

/-- A row of places, the first of them written. -/
def Row2 (w : World) (b : Nat) (n : Nat) (ts : List LPl) : Prop :=
  ∃ vs : Array Value, w.heap[b]? = some (.cells vs 64) ∧ vs.size = n * 2 ∧ ∀ i (h : i < ts.length), vs[i * 2]? = some (.int .i64 ts[i].1) ∧ vs[i * 2 + 1]? = some (.int .i64 ts[i].2)
theorem Row2.lt {w : World} {b : Nat} {n : Nat} {ts : List LPl} (h : Row2 w b n ts) : b < w.heap.size := by
  obtain ⟨vs, h1, _⟩ := h
  exact (Array.getElem?_eq_some_iff.1 h1).1
theorem Row2.below {w w' : World} {b : Nat} {n : Nat} {ts : List LPl} (h : Row2 w b n ts) (hb : Below w.heap.size w w') : Row2 w' b n ts := by
  have hl := h.lt
  obtain ⟨vs, h1, h2, h3⟩ := h
  exact ⟨vs, (hb.block b hl).trans h1, h2, h3⟩
theorem Row2.there {w : World} {b : Nat} {n : Nat} {ts : List LPl} (h : Row2 w b n ts) (j : Nat) (hj : j < n * 2) : (∃ v, w.cell? ⟨b, j, none⟩ = some v) ∧ w.frozen? ⟨b, j, none⟩ = false := by
  obtain ⟨vs, h1, h2, h3⟩ := h
  exact ⟨⟨vs[j]'(by omega), by simp [World.cell?, h1, show j < vs.size by omega]⟩, by simp [World.frozen?, h1]⟩
theorem Row2.step {w : World} {b : Nat} {n : Nat} {ts : List LPl} (h : Row2 w b n ts) (hl : ts.length < n) (x y : Int) (k : Nat) (hk : k = ts.length) :
    Row2 ((w.setCell ⟨b, k * 2, none⟩ (.int .i64 x)).setCell ⟨b, k * 2 + 1, none⟩ (.int .i64 y)) b n (ts ++ [(x, y)]) := by
  subst hk
  obtain ⟨vs, h1, h2, h3⟩ := h
  refine ⟨_, heap_setCell_same _ b _ _ 64 _ (heap_setCell_same w b _ vs 64 _ h1), by simp [h2], fun i hi => ?_⟩
  simp only [List.length_append, List.length_singleton] at hi
  by_cases e : i < ts.length
  · obtain ⟨a1, a2⟩ := h3 i e
    simp only [List.getElem_append_left e]
    refine ⟨?_, ?_⟩
    · rw [Array.getElem?_setIfInBounds_ne (by omega), Array.getElem?_setIfInBounds_ne (by omega)]; exact a1
    · rw [Array.getElem?_setIfInBounds_ne (by omega), Array.getElem?_setIfInBounds_ne (by omega)]; exact a2
  · have e' : i = ts.length := by omega
    subst e'
    simp only [List.getElem_append_right (Nat.le_refl _), Nat.sub_self, List.getElem_cons_zero]
    refine ⟨?_, ?_⟩
    · rw [Array.getElem?_setIfInBounds_ne (by omega), Array.getElem?_setIfInBounds_self_of_lt (by omega)]
    · rw [Array.getElem?_setIfInBounds_self_of_lt (by simp; omega)]
/-- A row of m places. -/
def PlM (w : World) (b m : Nat) : Prop := ∃ vs : Array Value, w.heap[b]? = some (.cells vs 64) ∧ m * 2 ≤ vs.size
theorem PlM.set {w : World} {b m : Nat} (h : PlM w b m) (o : Nat) (v : Value) : PlM (w.setCell ⟨b, o, none⟩ v) b m := by
  obtain ⟨vs, h1, h2⟩ := h
  exact ⟨_, heap_setCell_same w b o vs 64 v h1, by simp [h2]⟩
theorem PlM.there {w : World} {b m : Nat} (h : PlM w b m) (j : Nat) (hj : j < m * 2) : (∃ v, w.cell? ⟨b, j, none⟩ = some v) ∧ w.frozen? ⟨b, j, none⟩ = false := by
  obtain ⟨vs, h1, h2⟩ := h
  exact ⟨⟨vs[j]'(by omega), by simp [World.cell?, h1, show j < vs.size by omega]⟩, by simp [World.frozen?, h1]⟩

end Go.Proofs.Ytaogkdhloogmhaa
namespace Go.Proofs.Ytaogkdhloogmhaa
open Go.RowKit
set_option linter.unusedVariables false

/-- Rising Ids of the stations of a right table. -/
def IdsR (rs : List LSt) (ps : List LPr) (zs : List Int) : Prop := zs.length ≤ 400 ∧ TabR rs ps ∧ RiseTo zs zs.length ∧ ∀ x ∈ zs, x ∈ idsL rs
/-- The first k are there. -/
def InTo (ids zs : List Int) (k : Nat) : Prop := ∀ i, i < k → zs.getD i 0 ∈ ids
theorem InTo.zero (ids zs : List Int) : InTo ids zs 0 := fun i h => absurd h (Nat.not_lt_zero _)
theorem InTo.step {ids zs : List Int} {k : Nat} (h : InTo ids zs k) (g : zs.getD k 0 ∈ ids) : InTo ids zs (k + 1) := fun i hi => by
  by_cases e : i = k
  · subst e; exact g
  · exact h i (by omega)
theorem InTo.all {ids zs : List Int} {k : Nat} (h : InTo ids zs k) (hk : zs.length ≤ k) : ∀ x ∈ zs, x ∈ ids := fun x hx => by
  obtain ⟨i, hi, rfl⟩ := List.getElem_of_mem hx
  have := h i (by omega)
  simpa [hi] using this
theorem getD_mem {zs : List Int} {k : Nat} (h : k < zs.length) : zs.getD k 0 ∈ zs := by simp [h]
theorem InRise.mem {lo hi : Int} {zs : List Int} (h : InRise lo hi zs) {x : Int} (hx : x ∈ zs) : lo ≤ x ∧ x ≤ hi := by
  obtain ⟨i, hi', rfl⟩ := List.getElem_of_mem hx
  have := (h i hi').1
  simpa [hi'] using this
theorem inRise_of {lo hi : Int} {ids zs : List Int} (h : InRise lo hi ids) (hr : RiseTo zs zs.length) (hm : ∀ x ∈ zs, x ∈ ids) : InRise lo hi zs :=
  fun i hk => ⟨h.mem (hm _ (getD_mem hk)), fun h0 => hr i hk h0⟩
theorem rise_of {lo hi : Int} {zs : List Int} (h : InRise lo hi zs) : RiseTo zs zs.length := fun i hk h0 => (h i hk).2 h0

set_option maxRecDepth 100000 in
set_option maxHeartbeats 1000000 in
/-- impl.IdsRight. -/
theorem iir_any (sl : Option Addr) (cap : Nat) (sl2 : Option Addr) (cap2 : Nat) (sl3 : Option Addr) (cap3 : Nat) (rs : List LSt) (ps : List LPr) (zs : List Int) (w : World) (hn : rs.length ≤ 1048576) (hl : zs.length ≤ maxLen) (hz : Sts w sl rs) (hp : Prs w sl2 ps) (hw : ∀ p ∈ ps, WfP p) (hi : Ints w sl3 zs) :
    Calls Try.prog 24 #[TV sl rs.length cap sl2 ps.length cap2, .slice sl3 zs.length cap3] w fun e w' => e = .returned (.bool (B (IdsR rs ps zs))) ∧ Below w.heap.size w w' := by
  have hl' := hl
  unfold maxLen at hl'
  have HT := Lib.hid (TabAt.new w sl rs.length cap sl2 ps.length cap2)
  have B0 := Lib.hid (bA0 w (.cells #[.slice sl rs.length cap, .slice sl2 ps.length cap2] 26))
  have E1 : Hid (∀ W, Below w.heap.size w W → Calls Try.prog 44 #[TV sl rs.length cap sl2 ps.length cap2] W fun e w' => e = .returned (.bool (B (TabR rs ps))) ∧ Below W.heap.size W w') := fun W hW => itr_any sl cap sl2 cap2 rs ps W (hz.below hW) (hp.below hW) hw
  have E2 : Hid (∀ W, Below w.heap.size w W → Calls Try.prog 35 #[.slice sl3 zs.length cap3, .int .i64 1, .int .i64 999] W fun e w' => e = .returned (.bool (B (InRise 1 999 zs))) ∧ Below W.heap.size W w') := fun W hW => rw_any 1 999 sl3 cap3 zs W hl (hi.below hW)
  have E3 : Hid (∀ W, Below w.heap.size w W → Calls Try.prog 45 #[TV sl rs.length cap sl2 ps.length cap2] W fun e w' => ∃ v, e = .returned v ∧ w'.ownsRow W.heap.size 2 1 v rs.length (valsZ (idsL rs)) ∧ Below W.heap.size W w') := fun W hW => ids_any sl cap sl2 ps.length cap2 rs W hn (hz.below hW)
  have HI := Lib.hid hi
  clear hz hp hw hi
  by_cases h4 : zs.length ≤ 400
  · have h4' : ¬ (400 : Int) < (zs.length : Int) := by omega
    cases hb : B (TabR rs ps) with
    | false =>
      have NO := Lib.hid (B_no (p := IdsR rs ps zs) (fun g => B_false hb g.2.1))
      rw [NO.out]
      rw [hb] at E1
      clear hb NO E2 E3
      generalize rs.length = n at *
      generalize ps.length = m at *
      generalize zs.length = q at *
      go_enter Try.func24, Try.ntmps24
      go_wp2_with fail
      refine (E1.out _ B0.out).mono ?_
      rintro e w1 ⟨rfl, b1⟩
      have D1 := Lib.hid (bT B0.out b1)
      clear b1 E1
      go_wp2
      go_ret
      exact ⟨rfl, D1.out⟩
    | true =>
      have TR := Lib.hid (B_true hb)
      rw [hb] at E1
      cases hc : B (InRise 1 999 zs) with
      | false =>
        have NO := Lib.hid (B_no (p := IdsR rs ps zs) (fun g => B_false hc (inRise_of TR.out.2.2.1 g.2.2.1 g.2.2.2)))
        rw [NO.out]
        rw [hc] at E2
        clear hb hc NO E3 TR
        generalize rs.length = n at *
        generalize ps.length = m at *
        generalize zs.length = q at *
        go_enter Try.func24, Try.ntmps24
        go_wp2_with fail
        refine (E1.out _ B0.out).mono ?_
        rintro e w1 ⟨rfl, b1⟩
        have D1 := Lib.hid (bT B0.out b1)
        clear b1 E1
        go_wp2_with fail
        refine (E2.out _ D1.out).mono ?_
        rintro e w2 ⟨rfl, b2⟩
        have D2 := Lib.hid (bT D1.out b2)
        clear b2 E2
        go_wp2
        go_ret
        exact ⟨rfl, D2.out⟩
      | true =>
        have IR := Lib.hid (B_true hc)
        rw [hc] at E2
        have K4 : Hid (∀ x C v W, World.ownsRow W C 2 1 v rs.length (valsZ (idsL rs)) → Calls Try.prog 46 #[v, .int .i64 x] W fun e w' => e = .returned (.bool (B (x ∈ idsL rs))) ∧ Below W.heap.size W w') := fun x C v W o => by
          rw [← idsL_len rs] at o
          obtain ⟨s, k, rfl, i⟩ := own_ints o
          exact has_any s k x (idsL rs) W (by rw [idsL_len]; exact hn) i
        clear hb hc
        generalize hQ : zs.length = q at *
        have HQ := Lib.hid hQ
        clear hQ
        generalize hNN : rs.length = n at *
        clear hNN
        generalize ps.length = m at *
        go_enter Try.func24, Try.ntmps24
        go_wp2_with fail
        refine (E1.out _ B0.out).mono ?_
        rintro e w1 ⟨rfl, b1⟩
        have D1 := Lib.hid (bT B0.out b1)
        have T1 := Lib.hid (HT.out.below b1)
        clear b1 E1 HT
        go_wp2_with fail
        refine (E2.out _ D1.out).mono ?_
        rintro e w2 ⟨rfl, b2⟩
        have D2 := Lib.hid (bT D1.out b2)
        have T2 := Lib.hid (T1.out.below b2)
        clear b2 E2 D1 T1
        obtain ⟨t0, t1⟩ := T2.out.cells
        have tl := T2.out.lt
        go_wp2_with fail
        refine (E3.out _ D2.out).mono ?_
        rintro e w3 ⟨v3, rfl, o3, b3⟩
        have D3 := Lib.hid (bT D2.out b3)
        have O3 := Lib.hid o3
        clear b3 o3 E3 D2 T2 t0 t1 tl
        go_wp2
        go_loopw [25] (fun i wr => ∃ k : Nat, i = .int .i64 k ∧ k ≤ q ∧ Hid (InTo (idsL rs) zs k) ∧ Hid (Below w3.heap.size w3 wr)) (fun i _ => q - (intOf i).toNat)
        case atStart => exact ⟨0, rfl, Nat.zero_le _, InTo.zero _ _, Below.refl _ _⟩
        case round =>
          obtain ⟨k, rfl, hk, IT, H2⟩ := hrel
          have hk0 : (0 : Int) ≤ (k : Int) := by omega
          have DW := Lib.hid (bT D3.out H2.out)
          by_cases g1 : k < q
          · have g1' : (k : Int) < (q : Int) := by omega
            have hlt : k < zs.length := by rw [HQ.out]; exact g1
            obtain ⟨c, o, rfl, ZI⟩ : ∃ c o, sl3 = some ⟨c, o, none⟩ ∧ IntsAt w c o zs := by
              rcases HI.out with e | h
              · rw [e] at hlt; simp at hlt
              · exact h
            have hcc := (DW.out.cell (p := ⟨c, o + k, none⟩) ZI.1).trans (ZI.2 k hlt)
            have E5 := Lib.hid (K4.out (zs.getD k 0) _ v3 wr (own_below O3.out H2.out))
            cases hm : B (zs.getD k 0 ∈ idsL rs) with
            | true =>
              rw [hm] at E5
              have IT2 := Lib.hid (IT.out.step (B_true hm))
              generalize zs.getD k 0 = z at *
              clear hm hlt ZI IT
              go_wp2_with fail
              refine E5.out.mono ?_
              rintro e w5 ⟨rfl, b5⟩
              have H5 := Lib.hid (bT H2.out b5)
              clear b5 E5
              go_wp2
              go_roundw
              case rel => exact ⟨k + 1, by go_num, by omega, IT2, H5⟩
              case measure => simp [intOf]; omega
            | false =>
              rw [hm] at E5
              have NO := Lib.hid (B_no (p := IdsR rs ps zs) (fun g => B_false hm (g.2.2.2 _ (getD_mem hlt))))
              generalize zs.getD k 0 = z at *
              clear hm hlt ZI IT
              go_wp2_with fail
              refine E5.out.mono ?_
              rintro e w5 ⟨rfl, b5⟩
              have H5 := Lib.hid (bT DW.out b5)
              clear b5 E5
              go_wp2
              go_ret
              exact ⟨by rw [NO.out]; rfl, H5.out⟩
          · have g1' : ¬ (k : Int) < (q : Int) := by omega
            have YES := Lib.hid (B_yes (p := IdsR rs ps zs) ⟨by rw [HQ.out]; exact h4, TR.out, rise_of IR.out, IT.out.all (by rw [HQ.out]; omega)⟩)
            clear IT
            go_wp2
            go_ret
            exact ⟨by rw [YES.out]; rfl, DW.out⟩
  · have h4' : (400 : Int) < (zs.length : Int) := by omega
    have NO := Lib.hid (B_no (p := IdsR rs ps zs) (fun g => h4 g.1))
    rw [NO.out]
    clear NO E1 E2 E3
    generalize rs.length = n at *
    generalize ps.length = m at *
    generalize zs.length = q at *
    go_enter Try.func24, Try.ntmps24
    go_wp2
    go_ret
    exact ⟨rfl, B0.out⟩

set_option maxRecDepth 100000 in
set_option maxHeartbeats 2000000 in
/-- spec.IdsRight. -/
theorem sir_any (sl : Option Addr) (cap : Nat) (sl2 : Option Addr) (cap2 : Nat) (sl3 : Option Addr) (cap3 : Nat) (rs : List LSt) (ps : List LPr) (zs : List Int) (w : World) (hn : rs.length ≤ 1048576) (hl : zs.length ≤ 1048576) (hz : Sts w sl rs) (hp : Prs w sl2 ps) (hi : Ints w sl3 zs) :
    Calls Try.prog 5 #[TV sl rs.length cap sl2 ps.length cap2, .slice sl3 zs.length cap3] w fun e w' => e = .returned (.bool (B (IdsR rs ps zs))) ∧ Below w.heap.size w w' := by
  have HT := Lib.hid (TabAt.new w sl rs.length cap sl2 ps.length cap2)
  have B0 := Lib.hid (bA0 w (.cells #[.slice sl rs.length cap, .slice sl2 ps.length cap2] 26))
  have E1 : Hid (∀ W, Below w.heap.size w W → Calls Try.prog 21 #[TV sl rs.length cap sl2 ps.length cap2] W fun e w' => e = .returned (.bool (B (TabR rs ps))) ∧ Below W.heap.size W w') := fun W hW => str_any sl cap sl2 cap2 rs ps W (hz.below hW) (hp.below hW)
  have E3 : Hid (∀ W, Below w.heap.size w W → Calls Try.prog 22 #[.slice sl3 zs.length cap3] W fun e w' => e = .returned (.bool (B (RiseTo zs zs.length))) ∧ Below W.heap.size W w') := fun W hW => ri_any sl3 cap3 zs W hl (hi.below hW)
  have E2 : Hid (∀ x W, Below w.heap.size w W → Calls Try.prog 23 #[TV sl rs.length cap sl2 ps.length cap2, .int .i64 x] W fun e w' => e = .returned (.int .i64 (posOf (idsL rs) x)) ∧ Below W.heap.size W w') := fun x W hW => fd_any sl cap sl2 _ cap2 x rs W hn (hz.below hW)
  have HI := Lib.hid hi
  clear hz hp hi
  by_cases h4 : zs.length ≤ 400
  · have h4' : ¬ (400 : Int) < (zs.length : Int) := by omega
    cases hb : B (TabR rs ps) with
    | false =>
      have NO := Lib.hid (B_no (p := IdsR rs ps zs) (fun g => B_false hb g.2.1))
      rw [NO.out]
      rw [hb] at E1
      clear hb NO E2 E3
      generalize rs.length = n at *
      generalize ps.length = m at *
      generalize zs.length = q at *
      go_enter Try.func5, Try.ntmps5
      go_wp2_with fail
      refine (E1.out _ B0.out).mono ?_
      rintro e w1 ⟨rfl, b1⟩
      have D1 := Lib.hid (bT B0.out b1)
      clear b1 E1
      go_wp2
      go_ret
      exact ⟨rfl, D1.out⟩
    | true =>
      have TR := Lib.hid (B_true hb)
      rw [hb] at E1
      cases hc : B (RiseTo zs zs.length) with
      | false =>
        have NO := Lib.hid (B_no (p := IdsR rs ps zs) (fun g => B_false hc g.2.2.1))
        rw [NO.out]
        rw [hc] at E3
        clear hb hc NO E2 TR
        generalize rs.length = n at *
        generalize ps.length = m at *
        generalize zs.length = q at *
        go_enter Try.func5, Try.ntmps5
        go_wp2_with fail
        refine (E1.out _ B0.out).mono ?_
        rintro e w1 ⟨rfl, b1⟩
        have D1 := Lib.hid (bT B0.out b1)
        clear b1 E1
        go_wp2_with fail
        refine (E3.out _ D1.out).mono ?_
        rintro e w2 ⟨rfl, b2⟩
        have D2 := Lib.hid (bT D1.out b2)
        clear b2 E3
        go_wp2
        go_ret
        exact ⟨rfl, D2.out⟩
      | true =>
        have IR := Lib.hid (B_true hc)
        rw [hc] at E3
        have PN := Lib.hid (fun x => posOf_neg (idsL rs) x)
        clear hb hc
        generalize hQ : zs.length = q at *
        have HQ := Lib.hid hQ
        clear hQ
        generalize hNN : rs.length = n at *
        clear hNN
        generalize ps.length = m at *
        go_enter Try.func5, Try.ntmps5
        go_wp2_with fail
        refine (E1.out _ B0.out).mono ?_
        rintro e w1 ⟨rfl, b1⟩
        have D1 := Lib.hid (bT B0.out b1)
        have T1 := Lib.hid (HT.out.below b1)
        clear b1 E1 HT
        go_wp2_with fail
        refine (E3.out _ D1.out).mono ?_
        rintro e w3 ⟨rfl, b2⟩
        have D3 := Lib.hid (bT D1.out b2)
        have T3 := Lib.hid (T1.out.below b2)
        clear b2 E3 D1 T1
        go_wp2
        go_loopw [5] (fun i wr => ∃ k : Nat, i = .int .i64 k ∧ k ≤ q ∧ Hid (InTo (idsL rs) zs k) ∧ Hid (Below w3.heap.size w3 wr)) (fun i _ => q - (intOf i).toNat)
        case atStart => exact ⟨0, rfl, Nat.zero_le _, InTo.zero _ _, Below.refl _ _⟩
        case round =>
          obtain ⟨k, rfl, hk, IT, H2⟩ := hrel
          have hk0 : (0 : Int) ≤ (k : Int) := by omega
          have DW := Lib.hid (bT D3.out H2.out)
          by_cases g1 : k < q
          · have g1' : (k : Int) < (q : Int) := by omega
            have hlt : k < zs.length := by rw [HQ.out]; exact g1
            obtain ⟨c, o, rfl, ZI⟩ : ∃ c o, sl3 = some ⟨c, o, none⟩ ∧ IntsAt w c o zs := by
              rcases HI.out with e | h
              · rw [e] at hlt; simp at hlt
              · exact h
            have hcl : c < wr.heap.size := Nat.lt_of_lt_of_le ZI.1 DW.out.size
            have hcc := (DW.out.cell (p := ⟨c, o + k, none⟩) ZI.1).trans (ZI.2 k hlt)
            have T5 := Lib.hid (T3.out.below H2.out)
            have pz := PN.out (zs.getD k 0)
            have hcase : (zs.getD k 0 ∈ idsL rs ∧ ¬ posOf (idsL rs) (zs.getD k 0) < 0) ∨ (zs.getD k 0 ∉ idsL rs ∧ posOf (idsL rs) (zs.getD k 0) < 0) := by
              by_cases hm : zs.getD k 0 ∈ idsL rs
              · exact .inl ⟨hm, fun g => pz.1 g hm⟩
              · exact .inr ⟨hm, pz.2 hm⟩
            have GM := Lib.hid (getD_mem hlt)
            have SG := Lib.hid (fun g => IT.out.step (ids := idsL rs) (zs := zs) (k := k) g)
            clear pz hlt ZI IT
            generalize zs.getD k 0 = z at *
            have E2' := Lib.hid (E2.out z)
            clear PN
            have KX : Hid (∀ W, Below wr.heap.size wr W → w.heap.size < W.heap.size ∧ W.cell? ⟨w.heap.size, 0, none⟩ = some (.slice sl n cap) ∧ W.cell? ⟨w.heap.size, 1, none⟩ = some (.slice sl2 m cap2) ∧ c < W.heap.size ∧ W.cell? ⟨c, o + k, none⟩ = some (.int .i64 z)) := fun W hW => by
              have r1 := (T5.out.below hW).cells
              exact ⟨(T5.out.below hW).lt, r1.1, r1.2, Nat.lt_of_lt_of_le hcl hW.size, (hW.cell hcl).trans hcc⟩
            generalize posOf (idsL rs) z = pp at *
            rcases hcase with ⟨hm, hp9⟩ | ⟨hm, hp9⟩
            · have IT2 := Lib.hid (SG.out hm)
              clear SG hm GM
              go_wp2_with fail
              refine wp_region_held_drew (S := fun W => w.heap.size < W.heap.size ∧ W.cell? ⟨w.heap.size, 0, none⟩ = some (.slice sl n cap) ∧ W.cell? ⟨w.heap.size, 1, none⟩ = some (.slice sl2 m cap2) ∧ c < W.heap.size ∧ W.cell? ⟨c, o + k, none⟩ = some (.int .i64 z)) (by kernel_rfl) ?_ (fun hHeld => ?_)
              · exact KX.out _ (Below.refl _ _).drew
              refine wpAnyH_take (i := 0) (oi := _) (v := ?_) rfl (by kernel_rfl) (by kernel_rfl) (by kernel_rfl) (fun _ _ _ h => h) (Or.inl ⟨by rfl, ?_⟩) (by assumption) ?_
              rotate_left
              · first | (intro w hSw; (try dsimp only at hSw); go_simp; done) | (intro w hSw; (try dsimp only at hSw); go_simp; with_reducible rfl)
              try simp only [Act.put, List.setIfInBounds_toArray, List.set_cons_zero, List.set_cons_succ, List.getElem_toArray, List.getElem_cons_zero]
              refine wpAnyH_take (i := 1) (oi := _) (v := ?_) rfl (by kernel_rfl) (by kernel_rfl) (by kernel_rfl) (fun _ _ _ h => h) (Or.inl ⟨by rfl, ?_⟩) (by assumption) ?_
              rotate_left
              · first | (intro w hSw; (try dsimp only at hSw); go_simp; done) | (intro w hSw; (try dsimp only at hSw); go_simp; with_reducible rfl)
              try simp only [Act.put, List.setIfInBounds_toArray, List.set_cons_zero, List.set_cons_succ, List.getElem_toArray, List.getElem_cons_succ, List.getElem_cons_zero]
              refine wpAnyH_take (i := 2) (oi := _) (v := ?_) rfl (by kernel_rfl) (by kernel_rfl) (by kernel_rfl) (fun _ _ _ h => h) (Or.inl ⟨by rfl, ?_⟩) (by assumption) ?_
              rotate_left
              · first | (intro w hSw; (try dsimp only at hSw); go_simp; done) | (intro w hSw; (try dsimp only at hSw); go_simp; with_reducible rfl)
              try simp only [Act.put, List.setIfInBounds_toArray, List.set_cons_zero, List.set_cons_succ, List.getElem_toArray, List.getElem_cons_succ, List.getElem_cons_zero]
              refine wpAnyH_take (i := 3) (oi := _) (v := ?_) rfl (by kernel_rfl) (by kernel_rfl) (by kernel_rfl) (fun _ _ _ h => h) (Or.inl ⟨by rfl, ?_⟩) (by assumption) ?_
              rotate_left
              · first | (intro w hSw; (try dsimp only at hSw); go_simp; done) | (intro w hSw; (try dsimp only at hSw); go_simp; with_reducible rfl)
              try simp only [Act.put, List.setIfInBounds_toArray, List.set_cons_zero, List.set_cons_succ, List.getElem_toArray, List.getElem_cons_succ, List.getElem_cons_zero]
              refine wpAnyH_take (i := 4) (oi := _) (v := ?_) rfl (by kernel_rfl) (by kernel_rfl) (by kernel_rfl) (fun _ _ _ h => h) (Or.inl ⟨by rfl, ?_⟩) (by assumption) ?_
              rotate_left
              · first | (intro w hSw; (try dsimp only at hSw); go_simp; done) | (intro w hSw; (try dsimp only at hSw); go_simp; with_reducible rfl)
              try simp only [Act.put, List.setIfInBounds_toArray, List.set_cons_zero, List.set_cons_succ, List.getElem_toArray, List.getElem_cons_succ, List.getElem_cons_zero]
              refine wpAnyH_ready (rs := [5]) (by kernel_rfl) (by simp) ?_
              refine AllReadyH.cons rfl (fun K hK => ?_) AllReadyH.nil
              go_simp
              go_wp2_with (go_at_call 23; refine (E2'.out _ DW.out.drew).mono ?_; rintro e w5 ⟨rfl, b5⟩)
              have D5 : Hid (Below wr.heap.size wr w5) := bT ((Below.refl wr.heap.size wr).drew) b5
              clear b5
              refine hK.out _ _ ?_ (fun hHeld => ?_)
              · exact KX.out _ D5.out
              clear hK K
              refine wpAnyH_take (i := 6) (oi := _) (v := ?_) rfl (by kernel_rfl) (by kernel_rfl) (by kernel_rfl) (fun _ _ _ h => h) (Or.inl ⟨by rfl, ?_⟩) (by assumption) ?_
              rotate_left
              · first | (intro w hSw; (try dsimp only at hSw); go_simp; done) | (intro w hSw; (try dsimp only at hSw); go_simp; with_reducible rfl)
              try simp only [Act.put, List.setIfInBounds_toArray, List.set_cons_zero, List.set_cons_succ, List.getElem_toArray, List.getElem_cons_succ, List.getElem_cons_zero]
              refine wpAnyH_done (by kernel_rfl) ?_ _
              have B5 := Lib.hid (bT H2.out D5.out)
              clear D5 KX
              go_wp2
              go_roundw
              case rel => exact ⟨k + 1, by go_num, by omega, IT2, B5⟩
              case measure => simp [intOf]; omega
            · have NO := Lib.hid (B_no (p := IdsR rs ps zs) (fun g => hm (g.2.2.2 _ GM.out)))
              clear SG hm GM
              go_wp2_with fail
              refine wp_region_held_drew (S := fun W => w.heap.size < W.heap.size ∧ W.cell? ⟨w.heap.size, 0, none⟩ = some (.slice sl n cap) ∧ W.cell? ⟨w.heap.size, 1, none⟩ = some (.slice sl2 m cap2) ∧ c < W.heap.size ∧ W.cell? ⟨c, o + k, none⟩ = some (.int .i64 z)) (by kernel_rfl) ?_ (fun hHeld => ?_)
              · exact KX.out _ (Below.refl _ _).drew
              refine wpAnyH_take (i := 0) (oi := _) (v := ?_) rfl (by kernel_rfl) (by kernel_rfl) (by kernel_rfl) (fun _ _ _ h => h) (Or.inl ⟨by rfl, ?_⟩) (by assumption) ?_
              rotate_left
              · first | (intro w hSw; (try dsimp only at hSw); go_simp; done) | (intro w hSw; (try dsimp only at hSw); go_simp; with_reducible rfl)
              try simp only [Act.put, List.setIfInBounds_toArray, List.set_cons_zero, List.set_cons_succ, List.getElem_toArray, List.getElem_cons_zero]
              refine wpAnyH_take (i := 1) (oi := _) (v := ?_) rfl (by kernel_rfl) (by kernel_rfl) (by kernel_rfl) (fun _ _ _ h => h) (Or.inl ⟨by rfl, ?_⟩) (by assumption) ?_
              rotate_left
              · first | (intro w hSw; (try dsimp only at hSw); go_simp; done) | (intro w hSw; (try dsimp only at hSw); go_simp; with_reducible rfl)
              try simp only [Act.put, List.setIfInBounds_toArray, List.set_cons_zero, List.set_cons_succ, List.getElem_toArray, List.getElem_cons_succ, List.getElem_cons_zero]
              refine wpAnyH_take (i := 2) (oi := _) (v := ?_) rfl (by kernel_rfl) (by kernel_rfl) (by kernel_rfl) (fun _ _ _ h => h) (Or.inl ⟨by rfl, ?_⟩) (by assumption) ?_
              rotate_left
              · first | (intro w hSw; (try dsimp only at hSw); go_simp; done) | (intro w hSw; (try dsimp only at hSw); go_simp; with_reducible rfl)
              try simp only [Act.put, List.setIfInBounds_toArray, List.set_cons_zero, List.set_cons_succ, List.getElem_toArray, List.getElem_cons_succ, List.getElem_cons_zero]
              refine wpAnyH_take (i := 3) (oi := _) (v := ?_) rfl (by kernel_rfl) (by kernel_rfl) (by kernel_rfl) (fun _ _ _ h => h) (Or.inl ⟨by rfl, ?_⟩) (by assumption) ?_
              rotate_left
              · first | (intro w hSw; (try dsimp only at hSw); go_simp; done) | (intro w hSw; (try dsimp only at hSw); go_simp; with_reducible rfl)
              try simp only [Act.put, List.setIfInBounds_toArray, List.set_cons_zero, List.set_cons_succ, List.getElem_toArray, List.getElem_cons_succ, List.getElem_cons_zero]
              refine wpAnyH_take (i := 4) (oi := _) (v := ?_) rfl (by kernel_rfl) (by kernel_rfl) (by kernel_rfl) (fun _ _ _ h => h) (Or.inl ⟨by rfl, ?_⟩) (by assumption) ?_
              rotate_left
              · first | (intro w hSw; (try dsimp only at hSw); go_simp; done) | (intro w hSw; (try dsimp only at hSw); go_simp; with_reducible rfl)
              try simp only [Act.put, List.setIfInBounds_toArray, List.set_cons_zero, List.set_cons_succ, List.getElem_toArray, List.getElem_cons_succ, List.getElem_cons_zero]
              refine wpAnyH_ready (rs := [5]) (by kernel_rfl) (by simp) ?_
              refine AllReadyH.cons rfl (fun K hK => ?_) AllReadyH.nil
              go_simp
              go_wp2_with (go_at_call 23; refine (E2'.out _ DW.out.drew).mono ?_; rintro e w5 ⟨rfl, b5⟩)
              have D5 : Hid (Below wr.heap.size wr w5) := bT ((Below.refl wr.heap.size wr).drew) b5
              clear b5
              refine hK.out _ _ ?_ (fun hHeld => ?_)
              · exact KX.out _ D5.out
              clear hK K
              refine wpAnyH_take (i := 6) (oi := _) (v := ?_) rfl (by kernel_rfl) (by kernel_rfl) (by kernel_rfl) (fun _ _ _ h => h) (Or.inl ⟨by rfl, ?_⟩) (by assumption) ?_
              rotate_left
              · first | (intro w hSw; (try dsimp only at hSw); go_simp; done) | (intro w hSw; (try dsimp only at hSw); go_simp; with_reducible rfl)
              try simp only [Act.put, List.setIfInBounds_toArray, List.set_cons_zero, List.set_cons_succ, List.getElem_toArray, List.getElem_cons_succ, List.getElem_cons_zero]
              refine wpAnyH_done (by kernel_rfl) ?_ _
              have B5 := Lib.hid (bT DW.out D5.out)
              clear D5 KX
              go_wp2
              go_ret
              exact ⟨by rw [NO.out]; rfl, B5.out⟩
          · have g1' : ¬ (k : Int) < (q : Int) := by omega
            have YES := Lib.hid (B_yes (p := IdsR rs ps zs) ⟨by rw [HQ.out]; exact h4, TR.out, by rw [HQ.out]; exact IR.out, IT.out.all (by rw [HQ.out]; omega)⟩)
            clear IT
            go_wp2
            go_ret
            exact ⟨by rw [YES.out]; rfl, DW.out⟩
  · have h4' : (400 : Int) < (zs.length : Int) := by omega
    have NO := Lib.hid (B_no (p := IdsR rs ps zs) (fun g => h4 g.1))
    rw [NO.out]
    clear NO E1 E2 E3
    generalize rs.length = n at *
    generalize ps.length = m at *
    generalize zs.length = q at *
    go_enter Try.func5, Try.ntmps5
    go_wp2
    go_ret
    exact ⟨rfl, B0.out⟩

end Go.Proofs.Ytaogkdhloogmhaa
namespace Go.Proofs.Ytaogkdhloogmhaa
open Go.RowKit
set_option linter.unusedVariables false

/-- How far a number is from 0. -/
def absI (v : Int) : Int := if v < 0 then -v else v
set_option maxHeartbeats 400000 in
theorem abs_any (v : Int) (w : World) (h1 : -1000 ≤ v) (h2 : v ≤ 1000) : Calls Try.prog 54 #[.int .i64 v] w fun e w' => e = .returned (.int .i64 (absI v)) ∧ w' = w := by
  unfold absI
  by_cases h : v < 0
  · rw [if_pos h]
    go_enter Try.func54, Try.ntmps54
    go_wp2
    go_ret
    exact ⟨rfl, rfl⟩
  · rw [if_neg h]
    go_enter Try.func54, Try.ntmps54
    go_wp2
    go_ret
    exact ⟨rfl, rfl⟩

/-- May a have the channel c, where b has d? As the first pair of the two says. -/
def mayL (ps : List LPr) (a c b d : Int) : Bool :=
  match ps with
  | [] => true
  | p :: r => if (p.1 = a ∧ p.2.1 = b) ∨ (p.1 = b ∧ p.2.1 = a) then decide (c ≠ d ∧ (p.2.2 = 1 ∨ absI (c - d) ≠ 1)) else mayL r a c b d
theorem mayL_at (ps : List LPr) (a c b d : Int) (k : Nat) (h : k < ps.length) : mayL (ps.drop k) a c b d = if (ps[k].1 = a ∧ ps[k].2.1 = b) ∨ (ps[k].1 = b ∧ ps[k].2.1 = a) then decide (c ≠ d ∧ (ps[k].2.2 = 1 ∨ absI (c - d) ≠ 1)) else mayL (ps.drop (k + 1)) a c b d := by
  rw [← List.getElem_cons_drop (h := h)]
  rfl

set_option maxRecDepth 100000 in
set_option maxHeartbeats 2000000 in
/-- spec.l05May. -/
theorem may_any (sl : Option Addr) (n cap : Nat) (sl2 : Option Addr) (cap2 : Nat) (ps : List LPr) (a c b d : Int) (w : World) (hn : ps.length ≤ 1048576) (hc : 0 ≤ c ∧ c ≤ 1000) (hd : 0 ≤ d ∧ d ≤ 1000) (hp : Prs w sl2 ps) :
    Calls Try.prog 32 #[TV sl n cap sl2 ps.length cap2, .int .i64 a, .int .i64 c, .int .i64 b, .int .i64 d] w fun e w' => e = .returned (.bool (mayL ps a c b d)) ∧ Below w.heap.size w w' := by
  have HT := Lib.hid (TabAt.new w sl n cap sl2 ps.length cap2)
  have B0 := Lib.hid (bA0 w (.cells #[.slice sl n cap, .slice sl2 ps.length cap2] 26))
  have HP := Lib.hid hp
  obtain ⟨c1, c2⟩ := hc
  obtain ⟨d1, d2⟩ := hd
  clear hp
  generalize hR : mayL ps a c b d = r
  have HR := Lib.hid hR
  clear hR
  generalize hN : ps.length = m at *
  have HN := Lib.hid hN
  clear hN
  have EA : Hid (∀ W, Calls Try.prog 54 #[.int .i64 (c - d)] W fun e w' => e = .returned (.int .i64 (absI (c - d))) ∧ w' = W) := fun W => abs_any (c - d) W (by omega) (by omega)
  go_enter Try.func32, Try.ntmps32
  go_wp2
  generalize w.alloc (.cells #[.slice sl n cap, .slice sl2 m cap2] 26) = w0 at *
  go_loopw [11] (fun i wr => ∃ k : Nat, i = .int .i64 k ∧ k ≤ m ∧ Hid (r = mayL (ps.drop k) a c b d) ∧ Hid (Below w0.heap.size w0 wr)) (fun i _ => m - (intOf i).toNat)
  case atStart => exact ⟨0, rfl, Nat.zero_le _, HR.out.symm, Below.refl _ _⟩
  case round =>
    obtain ⟨k, rfl, hk, HM, H2⟩ := hrel
    have hk0 : (0 : Int) ≤ (k : Int) := by omega
    have T2 := Lib.hid (HT.out.below H2.out)
    obtain ⟨t0, t1⟩ := T2.out.cells
    have tl := T2.out.lt
    have DW := Lib.hid (bT B0.out H2.out)
    by_cases h1 : k < m
    · have h1' : (k : Int) < (m : Int) := by omega
      have hlt : k < ps.length := by rw [HN.out]; exact h1
      obtain ⟨g, o, rfl, Z0⟩ : ∃ c o, sl2 = some ⟨c, o, none⟩ ∧ PrAt w c o ps := by
        rcases HP.out with e | h
        · rw [e] at hlt; simp at hlt
        · exact h
      have g0 := (DW.out.cell Z0.lt).trans (Z0.cell k hlt).1
      have g1 := (DW.out.cell Z0.lt).trans (Z0.cell k hlt).2.1
      have g2 := (DW.out.cell Z0.lt).trans (Z0.cell k hlt).2.2
      have MA := Lib.hid (HM.out.trans (mayL_at ps a c b d k hlt))
      obtain ⟨x, y, q, hp⟩ : ∃ x y q, ps[k] = (x, y, q) := ⟨_, _, _, rfl⟩
      rw [hp] at g0 g1 g2 MA
      dsimp only at g0 g1 g2 MA
      have B5 := Lib.hid (bA H2.out (.cells #[.int .i64 x, .int .i64 y, .int .i64 q] 66))
      have B6 := Lib.hid (bA DW.out (.cells #[.int .i64 x, .int .i64 y, .int .i64 q] 66))
      have HA9 := Lib.hid (Eq.refl (absI (c - d)))
      have hwr := H2.out.size
      clear hp hlt Z0 HM
      by_cases xa : x = a
      · have e_xa : (x == a) = true := by simp [xa]
        by_cases yb : y = b
        · have e_yb : (y == b) = true := by simp [yb]
          have hM : (x = a ∧ y = b) ∨ (x = b ∧ y = a) := .inl ⟨xa, yb⟩
          clear xa yb
          have MB := Lib.hid (MA.out.trans (if_pos hM))
          by_cases cd : c = d
          · have R := Lib.hid (show r = false by rw [MB.out]; simp [cd])
            have cd' : (c != d) = false := by simp [cd]
            clear MA MB hM EA
            go_wp2
            go_ret
            exact ⟨by rw [R.out]; rfl, B6.out⟩
          · have cd' : (c != d) = true := by simp [cd]
            by_cases q1 : q = 1
            · have R := Lib.hid (show r = true by rw [MB.out]; simp [cd, q1])
              have q1' : (q == 1) = true := by simp [q1]
              clear MA MB hM EA q1
              go_wp2
              go_ret
              exact ⟨by rw [R.out]; rfl, B6.out⟩
            · have q1' : (q == 1) = false := by simp [q1]
              by_cases a1 : absI (c - d) = 1
              · have R := Lib.hid (show r = false by rw [MB.out]; simp [cd, q1, a1])
                have a1' : (absI (c - d) != 1) = false := by simp [a1]
                generalize absI (c - d) = A at *
                clear MA MB hM q1 a1
                go_wp2_with fail
                refine (EA.out _).mono ?_
                rintro e w5 ⟨rfl, rfl⟩
                go_wp2
                go_ret
                exact ⟨by rw [R.out]; rfl, B6.out⟩
              · have R := Lib.hid (show r = true by rw [MB.out]; simp [cd, q1, a1])
                have a1' : (absI (c - d) != 1) = true := by simp [a1]
                generalize absI (c - d) = A at *
                clear MA MB hM q1 a1
                go_wp2_with fail
                refine (EA.out _).mono ?_
                rintro e w5 ⟨rfl, rfl⟩
                go_wp2
                go_ret
                exact ⟨by rw [R.out]; rfl, B6.out⟩
        · have e_yb : (y == b) = false := by simp [yb]
          have hM : ¬ ((x = a ∧ y = b) ∨ (x = b ∧ y = a)) := by rintro (⟨-, h⟩ | ⟨h3, h4⟩) <;> omega
          by_cases xb : x = b
          · have e_xb : (x == b) = true := by simp [xb]
            have e_ya : (y == a) = false := by simp; omega
            clear xa yb xb
            have MB := Lib.hid (MA.out.trans (if_neg hM))
            clear MA hM EA
            go_wp2
            go_roundw
            case rel => exact ⟨k + 1, by go_num, by omega, MB, B5⟩
            case measure => simp [intOf]; omega
          · have e_xb : (x == b) = false := by simp [xb]
            clear xa yb xb
            have MB := Lib.hid (MA.out.trans (if_neg hM))
            clear MA hM EA
            go_wp2
            go_roundw
            case rel => exact ⟨k + 1, by go_num, by omega, MB, B5⟩
            case measure => simp [intOf]; omega
      · have e_xa : (x == a) = false := by simp [xa]
        by_cases xb : x = b
        · have e_xb : (x == b) = true := by simp [xb]
          by_cases ya : y = a
          · have e_ya : (y == a) = true := by simp [ya]
            have hM : (x = a ∧ y = b) ∨ (x = b ∧ y = a) := .inr ⟨xb, ya⟩
            clear xa xb ya
            have MB := Lib.hid (MA.out.trans (if_pos hM))
            by_cases cd : c = d
            · have R := Lib.hid (show r = false by rw [MB.out]; simp [cd])
              have cd' : (c != d) = false := by simp [cd]
              clear MA MB hM EA
              go_wp2
              go_ret
              exact ⟨by rw [R.out]; rfl, B6.out⟩
            · have cd' : (c != d) = true := by simp [cd]
              by_cases q1 : q = 1
              · have R := Lib.hid (show r = true by rw [MB.out]; simp [cd, q1])
                have q1' : (q == 1) = true := by simp [q1]
                clear MA MB hM EA q1
                go_wp2
                go_ret
                exact ⟨by rw [R.out]; rfl, B6.out⟩
              · have q1' : (q == 1) = false := by simp [q1]
                by_cases a1 : absI (c - d) = 1
                · have R := Lib.hid (show r = false by rw [MB.out]; simp [cd, q1, a1])
                  have a1' : (absI (c - d) != 1) = false := by simp [a1]
                  generalize absI (c - d) = A at *
                  clear MA MB hM q1 a1
                  go_wp2_with fail
                  refine (EA.out _).mono ?_
                  rintro e w5 ⟨rfl, rfl⟩
                  go_wp2
                  go_ret
                  exact ⟨by rw [R.out]; rfl, B6.out⟩
                · have R := Lib.hid (show r = true by rw [MB.out]; simp [cd, q1, a1])
                  have a1' : (absI (c - d) != 1) = true := by simp [a1]
                  generalize absI (c - d) = A at *
                  clear MA MB hM q1 a1
                  go_wp2_with fail
                  refine (EA.out _).mono ?_
                  rintro e w5 ⟨rfl, rfl⟩
                  go_wp2
                  go_ret
                  exact ⟨by rw [R.out]; rfl, B6.out⟩
          · have e_ya : (y == a) = false := by simp [ya]
            have hM : ¬ ((x = a ∧ y = b) ∨ (x = b ∧ y = a)) := by rintro (⟨h, -⟩ | ⟨-, h⟩) <;> omega
            clear xa xb ya
            have MB := Lib.hid (MA.out.trans (if_neg hM))
            clear MA hM EA
            go_wp2
            go_roundw
            case rel => exact ⟨k + 1, by go_num, by omega, MB, B5⟩
            case measure => simp [intOf]; omega
        · have e_xb : (x == b) = false := by simp [xb]
          have hM : ¬ ((x = a ∧ y = b) ∨ (x = b ∧ y = a)) := by rintro (⟨h, -⟩ | ⟨h, -⟩) <;> omega
          clear xa xb
          have MB := Lib.hid (MA.out.trans (if_neg hM))
          clear MA hM EA
          go_wp2
          go_roundw
          case rel => exact ⟨k + 1, by go_num, by omega, MB, B5⟩
          case measure => simp [intOf]; omega
    · have h1' : ¬ (k : Int) < (m : Int) := by omega
      have R := Lib.hid (show r = true by rw [HM.out, List.drop_eq_nil_of_le (by rw [HN.out]; omega)]; rfl)
      clear HM
      go_wp2
      go_ret
      exact ⟨by rw [R.out]; rfl, DW.out⟩

end Go.Proofs.Ytaogkdhloogmhaa
