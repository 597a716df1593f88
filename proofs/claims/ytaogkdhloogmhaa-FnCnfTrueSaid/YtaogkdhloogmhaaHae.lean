/-
  THE IDS OF A TABLE, as both sides answer them.
  THE LAWS' TABLES: their sizes.
  THE LAWS' TABLES: copied into tables of the program.
  A STATION'S CHANNELS UP TO A TOP, as both sides answer them.
  A STATION'S CHANNELS UP TO A TOP: the model's answer.
  PLANS: lists of places, and their Ids as both sides gather them.
  CHOICES: for each Id its places, as the program gathers them: impl.choicesOf.
-/
import Derived.Test.YtaogkdhloogmhaaHac
import Derived.Test.YtaogkdhloogmhaaHad
import Derived.Test.YtaogkdhloogmhaaHab
namespace Go.Proofs.Ytaogkdhloogmhaa
open Go.RowKit
set_option linter.unusedVariables false

/-- An empty row just made. -/
theorem own_none (w : World) : (w.alloc (.cells #[] 2)).ownsRow w.heap.size 2 1 (.slice (some ⟨w.heap.size, 0, none⟩) 0 0) 0 [] :=
  ⟨rfl, .inr ⟨w.heap.size, 0, #[], rfl, Nat.le_refl _, by show (w.heap.push _)[w.heap.size]? = _; simp, Nat.le_refl _, Nat.zero_le _, rfl, rfl⟩⟩


end Go.Proofs.Ytaogkdhloogmhaa
namespace Go.Proofs.Ytaogkdhloogmhaa
open Go.RowKit
set_option linter.unusedVariables false

def DomIn0 (w : World) (r : LSt) : Prop := ∃ sl cap, r.2.2.1 = .slice sl r.2.2.2.length cap ∧ Ints w sl r.2.2.2 ∧ r.2.2.2.length ≤ maxLen
/-- A slice of stations of whatever size. -/
structure Sts0 (w : World) (sl : Option Addr) (rs : List LSt) : Prop where
  row : rs = [] ∨ ∃ c o, sl = some ⟨c, o, none⟩ ∧ StAt w c o rs
  dom : ∀ r ∈ rs, DomIn0 w r
theorem DomIn0.below {w w' : World} {r : LSt} (h : DomIn0 w r) (hb : Below w.heap.size w w') : DomIn0 w' r := by
  obtain ⟨sl, cap, e, hi, hl⟩ := h
  exact ⟨sl, cap, e, hi.below hb, hl⟩
theorem Sts0.below {w w' : World} {sl : Option Addr} {rs : List LSt} (h : Sts0 w sl rs) (hb : Below w.heap.size w w') : Sts0 w' sl rs := by
  refine ⟨?_, fun r hr => (h.dom r hr).below hb⟩
  rcases h.row with h | ⟨c, o, e, h⟩
  · exact .inl h
  · exact .inr ⟨c, o, e, h.below hb⟩
/-- All channels of all Domains. -/
def totD (rs : List LSt) : Nat := (rs.map fun r => r.2.2.2.length).sum
theorem totD_mem (rs : List LSt) (r : LSt) (h : r ∈ rs) : r.2.2.2.length ≤ totD rs := by
  induction rs with
  | nil => cases h
  | cons a l ih =>
    rcases List.mem_cons.1 h with rfl | h
    · simp [totD]
    · have := ih h; simp only [totD, List.map_cons, List.sum_cons] at *; omega

end Go.Proofs.Ytaogkdhloogmhaa
namespace Go.Proofs.Ytaogkdhloogmhaa
open Go.RowKit
set_option linter.unusedVariables false

theorem IntsAt.set {w : World} {c o : Nat} {zs : List Int} (h : IntsAt w c o zs) {b : Nat} (hb : c ≠ b) (i : Nat) (v : Value) : IntsAt (w.setCell ⟨b, i, none⟩ v) c o zs := by
  refine ⟨by simpa [World.setCell] using h.1, fun j hj => ?_⟩
  rw [← h.2 j hj]
  simp only [World.cell?]
  rw [Below.heap_setCell _ _ _ _ hb]
theorem Ints.set {w : World} {c o : Nat} {zs : List Int} (h : Ints w (some ⟨c, o, none⟩) zs) {b : Nat} (hb : c ≠ b) (i : Nat) (v : Value) : Ints (w.setCell ⟨b, i, none⟩ v) (some ⟨c, o, none⟩) zs := by
  rcases h with h | ⟨c', o', e, h⟩
  · exact .inl h
  · cases e; exact .inr ⟨_, _, rfl, h.set hb i v⟩

/-- A row of triples, the first of them written. -/
def Row3 (w : World) (b : Nat) (t : TypeId) (n : Nat) (ts : List (Value × Value × Value)) : Prop :=
  ∃ vs : Array Value, w.heap[b]? = some (.cells vs t) ∧ vs.size = n * 3 ∧ ∀ i (h : i < ts.length), vs[i * 3]? = some ts[i].1 ∧ vs[i * 3 + 1]? = some ts[i].2.1 ∧ vs[i * 3 + 2]? = some ts[i].2.2
theorem Row3.lt {w : World} {b : Nat} {t : TypeId} {n : Nat} {ts : List (Value × Value × Value)} (h : Row3 w b t n ts) : b < w.heap.size := by
  obtain ⟨vs, h1, _⟩ := h
  exact (Array.getElem?_eq_some_iff.1 h1).1
theorem Row3.below {w w' : World} {b : Nat} {t : TypeId} {n : Nat} {ts : List (Value × Value × Value)} (h : Row3 w b t n ts) (hb : Below w.heap.size w w') : Row3 w' b t n ts := by
  have hl := h.lt
  obtain ⟨vs, h1, h2, h3⟩ := h
  exact ⟨vs, (hb.block b hl).trans h1, h2, h3⟩
theorem Row3.there {w : World} {b : Nat} {t : TypeId} {n : Nat} {ts : List (Value × Value × Value)} (h : Row3 w b t n ts) (j : Nat) (hj : j < n * 3) : (∃ v, w.cell? ⟨b, j, none⟩ = some v) ∧ w.frozen? ⟨b, j, none⟩ = false := by
  obtain ⟨vs, h1, h2, h3⟩ := h
  exact ⟨⟨vs[j]'(by omega), by simp [World.cell?, h1, show j < vs.size by omega]⟩, by simp [World.frozen?, h1]⟩
theorem Row3.at {w : World} {b : Nat} {t : TypeId} {n : Nat} {ts : List (Value × Value × Value)} (h : Row3 w b t n ts) (i : Nat) (hi : i < ts.length) : w.cell? ⟨b, i * 3, none⟩ = some ts[i].1 ∧ w.cell? ⟨b, i * 3 + 1, none⟩ = some ts[i].2.1 ∧ w.cell? ⟨b, i * 3 + 2, none⟩ = some ts[i].2.2 := by
  obtain ⟨vs, h1, h2, h3⟩ := h
  have := h3 i hi
  refine ⟨?_, ?_, ?_⟩ <;> simp [World.cell?, h1, this]
theorem Row3.step {w : World} {b : Nat} {t : TypeId} {n : Nat} {ts : List (Value × Value × Value)} (h : Row3 w b t n ts) (hl : ts.length < n) (x y z : Value) (k : Nat) (hk : k = ts.length) :
    Row3 (((w.setCell ⟨b, k * 3, none⟩ x).setCell ⟨b, k * 3 + 1, none⟩ y).setCell ⟨b, k * 3 + 2, none⟩ z) b t n (ts ++ [(x, y, z)]) := by
  subst hk
  obtain ⟨vs, h1, h2, h3⟩ := h
  refine ⟨_, heap_setCell_same _ b _ _ t _ (heap_setCell_same _ b _ _ t _ (heap_setCell_same w b _ vs t x h1)), by simp [h2], fun i hi => ?_⟩
  simp only [List.length_append, List.length_singleton] at hi
  by_cases e : i < ts.length
  · obtain ⟨a1, a2, a3⟩ := h3 i e
    simp only [List.getElem_append_left e]
    refine ⟨?_, ?_, ?_⟩
    · rw [Array.getElem?_setIfInBounds_ne (by omega), Array.getElem?_setIfInBounds_ne (by omega), Array.getElem?_setIfInBounds_ne (by omega)]; exact a1
    · rw [Array.getElem?_setIfInBounds_ne (by omega), Array.getElem?_setIfInBounds_ne (by omega), Array.getElem?_setIfInBounds_ne (by omega)]; exact a2
    · rw [Array.getElem?_setIfInBounds_ne (by omega), Array.getElem?_setIfInBounds_ne (by omega), Array.getElem?_setIfInBounds_ne (by omega)]; exact a3
  · have e' : i = ts.length := by omega
    subst e'
    simp only [List.getElem_append_right (Nat.le_refl _), Nat.sub_self, List.getElem_cons_zero]
    refine ⟨?_, ?_, ?_⟩
    · rw [Array.getElem?_setIfInBounds_ne (by omega), Array.getElem?_setIfInBounds_ne (by omega), Array.getElem?_setIfInBounds_self_of_lt (by omega)]
    · rw [Array.getElem?_setIfInBounds_ne (by omega), Array.getElem?_setIfInBounds_self_of_lt (by simp; omega)]
    · rw [Array.getElem?_setIfInBounds_self_of_lt (by simp; omega)]

theorem new_at (w : World) (o : Obj) : (w.alloc o).heap[w.heap.size]? = some o := by
  show (w.heap.push _)[w.heap.size]? = _
  simp
def prT (p : LPr) : Value × Value × Value := (.int .i64 p.1, .int .i64 p.2.1, .int .i64 p.2.2)
def stT (r : LSt) : Value × Value × Value := (.int .i64 r.1, .int .i64 r.2.1, r.2.2.1)
/-- A station whose Domain has memory of its own, not in block b. -/
def DomOut (b : Nat) (w : World) (r : LSt) : Prop := ∃ g, r.2.2.1 = .slice (some ⟨g, 0, none⟩) r.2.2.2.length r.2.2.2.length ∧ Ints w (some ⟨g, 0, none⟩) r.2.2.2 ∧ b < g ∧ r.2.2.2.length ≤ 1048576
theorem DomOut.below {b : Nat} {w w' : World} {r : LSt} (h : DomOut b w r) (hb : Below w.heap.size w w') : DomOut b w' r := by
  obtain ⟨g, e, hi, hg, hl⟩ := h
  exact ⟨g, e, hi.below hb, hg, hl⟩
theorem DomOut.set {b : Nat} {w : World} {r : LSt} (h : DomOut b w r) (i : Nat) (v : Value) : DomOut b (w.setCell ⟨b, i, none⟩ v) r := by
  obtain ⟨g, e, hi, hg, hl⟩ := h
  exact ⟨g, e, hi.set (Nat.ne_of_gt hg) i v, hg, hl⟩
theorem DomOut.din {b : Nat} {w : World} {r : LSt} (h : DomOut b w r) : DomIn w r := by
  obtain ⟨g, e, hi, hg, hl⟩ := h
  exact ⟨_, _, e, hi, hl⟩

end Go.Proofs.Ytaogkdhloogmhaa
namespace Go.Proofs.Ytaogkdhloogmhaa
open Go.RowKit
set_option linter.unusedVariables false

/-- The channels of one station that count. -/
def FF (x id top : Int) (l : List Int) : List Int := if x = id then l.filter (fun c => decide (c ≤ top)) else []
def domF (id top : Int) (r : LSt) : List Int := FF r.1 id top r.2.2.2
theorem FF_nil (x id top : Int) : FF x id top [] = [] := by unfold FF; split <;> simp
theorem FF_yes (x id top : Int) (zs : List Int) (j : Nat) (h : j < zs.length) (h1 : x = id) (h2 : zs.getD j 0 ≤ top) : FF x id top (zs.take (j + 1)) = FF x id top (zs.take j) ++ [zs.getD j 0] := by
  have e : zs.getD j 0 = zs[j] := by simp [h]
  rw [e] at h2 ⊢
  subst h1
  unfold FF
  rw [if_pos rfl, if_pos rfl, List.take_succ_eq_append_getElem h, List.filter_append]
  simp [h2]
theorem FF_no (x id top : Int) (zs : List Int) (j : Nat) (h : j < zs.length) (h1 : ¬ (x = id ∧ zs.getD j 0 ≤ top)) : FF x id top (zs.take (j + 1)) = FF x id top (zs.take j) := by
  have e : zs.getD j 0 = zs[j] := by simp [h]
  rw [e] at h1
  unfold FF
  by_cases hx : x = id
  · have h2 : ¬ zs[j] ≤ top := fun g => h1 ⟨hx, g⟩
    rw [if_pos hx, if_pos hx, List.take_succ_eq_append_getElem h, List.filter_append]
    simp [h2]
  · simp [hx]
theorem flat_step {α β : Type} (f : α → List β) (rs : List α) (k : Nat) (h : k < rs.length) : (rs.take (k + 1)).flatMap f = (rs.take k).flatMap f ++ f rs[k] := by
  rw [List.take_succ_eq_append_getElem h, List.flatMap_append]
  simp
theorem own_apart {w : World} {C : Nat} {v : Value} {n : Nat} {xs : List Value} (h : w.ownsRow C 2 1 v n xs) {b : Nat} {cs : Array Value} {t : TypeId} (hb : w.heap[b]? = some (.cells cs t)) (ht : t ≠ 2) : v.ownBlock ≠ some b := by
  rcases h.2 with ⟨rfl, _⟩ | ⟨g, cap, cur, rfl, _, hg, _⟩
  · intro e; cases e
  · intro e
    cases e
    rw [hb] at hg
    simp at hg
    exact ht hg.2
/-- A station in a block of its own. -/
def SAt (w : World) (b : Nat) (x y : Int) (d : Value) : Prop := w.heap[b]? = some (.cells #[.int .i64 x, .int .i64 y, d] 77)
theorem SAt.lt {w : World} {b : Nat} {x y : Int} {d : Value} (h : SAt w b x y d) : b < w.heap.size := (Array.getElem?_eq_some_iff.1 h).1
theorem SAt.cells {w : World} {b : Nat} {x y : Int} {d : Value} (h : SAt w b x y d) : w.cell? ⟨b, 0, none⟩ = some (.int .i64 x) ∧ w.cell? ⟨b, 2, none⟩ = some d := by
  unfold SAt at h
  constructor <;> simp [World.cell?, h]
theorem SAt.grow {w : World} {b : Nat} {x y : Int} {d : Value} (h : SAt w b x y d) {o : Obj} {w' : World} {v : Value} (hg : (w.alloc o).grownBy w' v.ownBlock) (hv : v.ownBlock ≠ some b) : SAt w' b x y d :=
  (hg.block b (by simp; exact Nat.lt_succ_of_lt h.lt) (fun e => hv e.symm)).trans ((Below.heap_alloc _ _ _ h.lt).trans h)
noncomputable def domA (rs : List LSt) (ps : List LPr) (id top : Int) : List Int := if B (TabR rs ps) = true then rs.flatMap (domF id top) else []

set_option maxRecDepth 100000 in
set_option maxHeartbeats 1000000 in
/-- impl.domainIn, of a right table. -/
theorem din_any (sl : Option Addr) (cap : Nat) (sl2 : Option Addr) (cap2 : Nat) (rs : List LSt) (ps : List LPr) (id top : Int) (w : World) (hz : Sts w sl rs) (TR0 : TabR rs ps) :
    Calls Try.prog 47 #[TV sl rs.length cap sl2 ps.length cap2, .int .i64 id, .int .i64 top] w fun e w' => ∃ v, e = .returned v ∧ w'.ownsRow w.heap.size 2 1 v (rs.flatMap (domF id top)).length (valsZ (rs.flatMap (domF id top))) ∧ Below w.heap.size w w' := by
  obtain ⟨i0, hi0, hz0, hz1, hz2⟩ := info_parts info2'
  have HT := Lib.hid (TabAt.new w sl rs.length cap sl2 ps.length cap2)
  have B0 := Lib.hid (bA0 w (.cells #[.slice sl rs.length cap, .slice sl2 ps.length cap2] 26))
  have HZ := Lib.hid hz
  have TR := Lib.hid TR0
  clear hz TR0
  generalize hA : rs.flatMap (domF id top) = ans
  have HA := Lib.hid hA
  clear hA
  generalize hN : rs.length = n at *
  have HN := Lib.hid hN
  clear hN
  generalize ps.length = m at *
  obtain ⟨t0, t1⟩ := HT.out.cells
  have tl := HT.out.lt
  go_enter Try.func47, Try.ntmps47
  have hn12 : n ≤ 12 := by have := TR.out.1.2.1; rw [HN.out] at this; exact this
  go_wp2
  obtain ⟨w1, ew1⟩ : ∃ w1, w1 = w.alloc (.cells #[.slice sl n cap, .slice sl2 m cap2] 26) := ⟨_, rfl⟩
  rw [← ew1] at HT B0 t0 t1 tl ⊢
  have D1 := B0
  clear ew1
  go_loopw [7, 15] (fun v i wr => ∃ (k : Nat) (cur : List Int), i = .int .i64 k ∧ k ≤ n ∧ cur.length ≤ 8 * k ∧ Hid (cur = (rs.take k).flatMap (domF id top)) ∧ Hid (wr.ownsRow w1.heap.size 2 1 v cur.length (valsZ cur)) ∧ Hid (Below w1.heap.size w1 wr)) (fun _ i _ => n - (intOf i).toNat)
  case atStart => exact ⟨0, [], rfl, Nat.zero_le _, Nat.zero_le _, rfl, ⟨rfl, .inl ⟨rfl, rfl⟩⟩, Below.refl _ _⟩
  case round =>
    obtain ⟨k, cur, rfl, hk, hcl, HC, H1, H2⟩ := hrel
    have hk0 : (0 : Int) ≤ (k : Int) := by omega
    have DW := Lib.hid (D1.out.trans (H2.out.mono D1.out.size))
    by_cases h1 : k < n
    · have h1' : (k : Int) < (n : Int) := by omega
      have hlt : k < rs.length := by rw [HN.out]; exact h1
      obtain ⟨c, o, rfl, Z0⟩ : ∃ c o, sl = some ⟨c, o, none⟩ ∧ StAt w c o rs := by
        rcases HZ.out.row with e | h
        · rw [e] at hlt; simp at hlt
        · exact h
      have hc0 := (DW.out.cell Z0.lt).trans (Z0.cell k hlt).1
      have hc1 := (DW.out.cell Z0.lt).trans (Z0.cell k hlt).2.1
      have hc2 := (DW.out.cell Z0.lt).trans (Z0.cell k hlt).2.2
      obtain ⟨sld, capd, ed, hi, -⟩ := HZ.out.dom rs[k] (List.getElem_mem hlt)
      have hd8 := (TR.out.2.1 rs[k] (List.getElem_mem hlt)).2.1.2
      have FS := Lib.hid (flat_step (domF id top) rs k hlt)
      obtain ⟨x, y, dv, zs, hp⟩ : ∃ x y dv zs, rs[k] = (x, y, dv, zs) := ⟨_, _, _, _, rfl⟩
      rw [hp] at hc0 hc1 hc2 ed hi hd8 FS
      dsimp only at hc0 hc1 hc2 ed hi hd8
      subst ed
      have FS2 := Lib.hid (show (rs.take (k + 1)).flatMap (domF id top) = cur ++ FF x id top zs by rw [HC.out]; exact FS.out)
      have HI := Lib.hid hi
      generalize hQ : zs.length = q at *
      have HQ := Lib.hid hQ
      clear hi Z0 hlt hp FS hQ HC
      have S5 := Lib.hid (show SAt (wr.alloc (.cells #[.int .i64 x, .int .i64 y, .slice sld q capd] 77)) wr.heap.size x y (.slice sld q capd) from new_at _ _)
      have O5 := Lib.hid (H1.out.alloc (.cells #[.int .i64 x, .int .i64 y, .slice sld q capd] 77))
      have G5 := Lib.hid (bA H2.out (.cells #[.int .i64 x, .int .i64 y, .slice sld q capd] 77))
      have hsw := H2.out.size
      clear H1 H2
      go_wp2
      obtain ⟨w5, e5⟩ : ∃ w5, w5 = wr.alloc (.cells #[.int .i64 x, .int .i64 y, .slice sld q capd] 77) := ⟨_, rfl⟩
      rw [← e5] at S5 O5 G5 ⊢
      obtain ⟨bs, eb⟩ : ∃ bs, bs = wr.heap.size := ⟨_, rfl⟩
      rw [← eb] at S5 ⊢
      clear e5 eb hc0 hc1 hc2
      go_loopw [7, 22] (fun v i wr => ∃ (j : Nat) (cu : List Int), i = .int .i64 j ∧ j ≤ q ∧ cu.length ≤ 8 * k + j ∧ Hid (cu = cur ++ FF x id top (zs.take j)) ∧ Hid (wr.ownsRow w1.heap.size 2 1 v cu.length (valsZ cu)) ∧ Hid (SAt wr bs x y (.slice sld q capd)) ∧ Hid (Below w1.heap.size w1 wr)) (fun _ i _ => q - (intOf i).toNat)
      case atStart => exact ⟨0, cur, rfl, Nat.zero_le _, hcl, (by show cur = cur ++ FF x id top (zs.take 0); rw [List.take_zero, FF_nil, List.append_nil]), O5, S5, G5⟩
      case round =>
        obtain ⟨j, cu, rfl, hj, hcu, HC, H1, HS, H2⟩ := hrel
        have hj0 : (0 : Int) ≤ (j : Int) := by omega
        have DV := Lib.hid (D1.out.trans (H2.out.mono D1.out.size))
        have sl5 := HS.out.lt
        have hs5 := H2.out.size
        obtain ⟨s0, s2⟩ := HS.out.cells
        by_cases g1 : j < q
        · have g1' : (j : Int) < (q : Int) := by omega
          have hlt : j < zs.length := by rw [HQ.out]; exact g1
          obtain ⟨cd, od, rfl, ZI⟩ : ∃ c o, sld = some ⟨c, o, none⟩ ∧ IntsAt w c o zs := by
            rcases HI.out with e | h
            · rw [e] at hlt; simp at hlt
            · exact h
          have hc := (DV.out.cell (p := ⟨cd, od + j, none⟩) ZI.1).trans (ZI.2 j hlt)
          by_cases a1 : x = id
          · have a1' : (x == id) = true := by simp [a1]
            by_cases a2 : zs.getD j 0 ≤ top
            · have HN2 := Lib.hid (show cu ++ [zs.getD j 0] = cur ++ FF x id top (zs.take (j + 1)) by rw [FF_yes x id top zs j hlt a1 a2, ← List.append_assoc, ← HC.out])
              have EV := Lib.hid (show valsZ cu ++ [.int .i64 (zs.getD j 0)] = valsZ (cu ++ [zs.getD j 0]) by simp [valsZ])
              have NE := Lib.hid (own_apart H1.out HS.out (by decide))
              generalize zs.getD j 0 = z at *
              clear hlt ZI HC a1
              go_wp2_with (first | (at_builtin; refine wpList_append_lies _ rfl (.tmp 35) (.tmp 37) 27 rfl w1.heap.size 2 i0 (.int .i64 0) 1 8 Try.underlying27 hi0 hz0 hz1 hz2 rfl (by decide) _ _ _ rfl (H1.out.alloc _) ⟨wr.heap.size, 0, none⟩ 1 1 [.int .i64 z] rfl rfl (cell_one_new _ _ _) (by intro u hu; simp at hu; subst hu; rfl) (by decide) (by unfold maxLen; omega) (by omega) (by simp; omega) (wr.heap.size + 1) (by simp) ?_))
              intro g9 cap9 w9 own9 grow9 hg9 hlt9
              have B9 := Lib.hid ((bA H2.out (.cells #[.int .i64 z] 2)).grown grow9 (by simp; omega) (fun j hj => (H1.out.lt j hj).1))
              have S9 := Lib.hid (HS.out.grow grow9 NE.out)
              rw [EV.out] at own9
              have N9 : Hid (w9.ownsRow w1.heap.size 2 1 (.slice (some ⟨g9, 0, none⟩) (cu.length + 1) cap9) (cu ++ [z]).length (valsZ (cu ++ [z]))) := by
                rw [List.length_append]; exact own9
              have LL := Lib.hid (show (cu ++ [z]).length ≤ 8 * k + (j + 1) by rw [List.length_append]; simp; omega)
              clear own9 grow9 hg9 hlt9 H1 HS H2 EV NE
              go_wp2
              go_roundw
              case rel => exact ⟨j + 1, cu ++ [z], by go_num, by omega, LL.out, HN2, N9, S9, B9⟩
              case measure => simp [intOf]; omega
            · have HN2 := Lib.hid (show cu = cur ++ FF x id top (zs.take (j + 1)) by rw [FF_no x id top zs j hlt (fun g => a2 g.2)]; exact HC.out)
              generalize zs.getD j 0 = z at *
              clear hlt ZI HC a1
              go_wp2
              go_roundw
              case rel => exact ⟨j + 1, cu, by go_num, by omega, by omega, HN2, H1, HS, H2⟩
              case measure => simp [intOf]; omega
          · have a1' : (x == id) = false := by simp [a1]
            have HN2 := Lib.hid (show cu = cur ++ FF x id top (zs.take (j + 1)) by rw [FF_no x id top zs j hlt (fun g => a1 g.1)]; exact HC.out)
            generalize zs.getD j 0 = z at *
            clear hlt ZI HC a1
            go_wp2
            go_roundw
            case rel => exact ⟨j + 1, cu, by go_num, by omega, by omega, HN2, H1, HS, H2⟩
            case measure => simp [intOf]; omega
        · have g1' : ¬ (j : Int) < (q : Int) := by omega
          have HE := Lib.hid (show cu = (rs.take (k + 1)).flatMap (domF id top) by
            rw [FS2.out, HC.out, List.take_of_length_le (by rw [HQ.out]; omega)])
          clear HC
          go_wp2
          go_roundw
          case rel => exact ⟨k + 1, cu, by go_num, by omega, by omega, HE, H1, H2⟩
          case measure => simp [intOf]; omega
    · have h1' : ¬ (k : Int) < (n : Int) := by omega
      have P := Lib.hid (show cur = ans by rw [HC.out, List.take_of_length_le (by rw [HN.out]; omega), HA.out])
      have OP := Lib.hid (own_mono H1.out D1.out.size)
      rw [P.out] at OP
      clear H1 HC P
      go_wp2
      go_ret
      exact ⟨_, rfl, OP.out, DW.out⟩


end Go.Proofs.Ytaogkdhloogmhaa
namespace Go.Proofs.Ytaogkdhloogmhaa
open Go.RowKit
set_option linter.unusedVariables false

theorem rise_lt (zs : List Int) (lo hi : Int) (h : InRise lo hi zs) : ∀ i j, i < j → j < zs.length → zs.getD i 0 < zs.getD j 0 := by
  intro i j hij hj
  induction j with
  | zero => omega
  | succ j ih =>
    have h1 := (h (j + 1) hj).2 (by omega)
    simp only [Nat.add_sub_cancel] at h1
    by_cases e : i = j
    · subst e; exact h1
    · have := ih (by omega) (by omega); omega
theorem flat_none (id top : Int) (rs : List LSt) (h : id ∉ idsL rs) : rs.flatMap (domF id top) = [] := by
  rw [List.flatMap_eq_nil_iff]
  intro r hr
  unfold domF FF
  rw [if_neg]
  rintro rfl
  exact h (List.mem_map.2 ⟨r, hr, rfl⟩)
theorem flat_one (id top : Int) (rs : List LSt) (k : Nat) (h : k < rs.length) (hk : rs[k].1 = id) (hu : ∀ i (h : i < rs.length), i ≠ k → rs[i].1 ≠ id) : rs.flatMap (domF id top) = rs[k].2.2.2.filter (fun c => decide (c ≤ top)) := by
  have e : rs = rs.take k ++ rs[k] :: rs.drop (k + 1) := by rw [List.getElem_cons_drop, List.take_append_drop]
  have h1 : (rs.take k).flatMap (domF id top) = [] := by
    rw [List.flatMap_eq_nil_iff]
    intro r hr
    obtain ⟨i, hi, rfl⟩ := List.getElem_of_mem hr
    rw [List.length_take] at hi
    unfold domF FF
    rw [if_neg]
    rw [List.getElem_take]
    exact hu i (by omega) (by omega)
  have h2 : (rs.drop (k + 1)).flatMap (domF id top) = [] := by
    rw [List.flatMap_eq_nil_iff]
    intro r hr
    obtain ⟨i, hi, rfl⟩ := List.getElem_of_mem hr
    rw [List.length_drop] at hi
    unfold domF FF
    rw [if_neg]
    rw [List.getElem_drop]
    exact hu (k + 1 + i) (by omega) (by omega)
  have h3 : domF id top rs[k] = rs[k].2.2.2.filter (fun c => decide (c ≤ top)) := by
    unfold domF FF
    rw [if_pos hk]
  calc rs.flatMap (domF id top) = (rs.take k ++ rs[k] :: rs.drop (k + 1)).flatMap (domF id top) := by rw [← e]
    _ = rs[k].2.2.2.filter (fun c => decide (c ≤ top)) := by rw [List.flatMap_append, h1, List.flatMap_cons, h2, h3]; simp
theorem idsL_at (rs : List LSt) (k : Nat) (h : k < (idsL rs).length) (h2 : k < rs.length) : (idsL rs)[k] = rs[k].1 := by simp [idsL]
/-- Where a station is, when the ids rise. -/
theorem pos_at (rs : List LSt) (id : Int) (h : id ∈ idsL rs) : ∃ k, ∃ hk : k < rs.length, posOf (idsL rs) id = (k : Int) ∧ rs[k].1 = id := by
  have h1 := List.idxOf_lt_length_iff.2 h
  have h2 : (idsL rs).idxOf id < rs.length := by rwa [idsL_len] at h1
  refine ⟨(idsL rs).idxOf id, h2, by unfold posOf; rw [if_pos h1], ?_⟩
  rw [← idsL_at rs _ h1 h2]
  exact List.getElem_idxOf h1

set_option maxRecDepth 100000 in
set_option maxHeartbeats 1000000 in
/-- spec.DomainOf. -/
theorem sdo_any (sl : Option Addr) (cap : Nat) (sl2 : Option Addr) (cap2 : Nat) (rs : List LSt) (ps : List LPr) (id top : Int) (w : World) (hn : rs.length ≤ 1048576) (hz : Sts w sl rs) (hp : Prs w sl2 ps) :
    Calls Try.prog 53 #[TV sl rs.length cap sl2 ps.length cap2, .int .i64 id, .int .i64 top] w fun e w' => ∃ v, e = .returned v ∧ w'.ownsRow w.heap.size 2 1 v (domA rs ps id top).length (valsZ (domA rs ps id top)) ∧ Below w.heap.size w w' := by
  obtain ⟨i0, hi0, hz0, hz1, hz2⟩ := info_parts info2'
  have HT := Lib.hid (TabAt.new w sl rs.length cap sl2 ps.length cap2)
  have B0 := Lib.hid (bA0 w (.cells #[.slice sl rs.length cap, .slice sl2 ps.length cap2] 26))
  have E1 : Hid (∀ W, Below w.heap.size w W → Calls Try.prog 21 #[TV sl rs.length cap sl2 ps.length cap2] W fun e w' => e = .returned (.bool (B (TabR rs ps))) ∧ Below W.heap.size W w') := fun W hW => str_any sl cap sl2 cap2 rs ps W (hz.below hW) (hp.below hW)
  have E2 : Hid (∀ W, Below w.heap.size w W → Calls Try.prog 23 #[TV sl rs.length cap sl2 ps.length cap2, .int .i64 id] W fun e w' => e = .returned (.int .i64 (posOf (idsL rs) id)) ∧ Below W.heap.size W w') := fun W hW => fd_any sl cap sl2 _ cap2 id rs W hn (hz.below hW)
  have HZ := Lib.hid hz
  clear hz hp
  unfold domA
  have O0 := Lib.hid (own_none (w.alloc (.cells #[.slice sl rs.length cap, .slice sl2 ps.length cap2] 26)))
  have hs1 : (w.alloc (.cells #[.slice sl rs.length cap, .slice sl2 ps.length cap2] 26)).heap.size = w.heap.size + 1 := by simp
  rw [hs1] at O0
  cases hb : B (TabR rs ps) with
  | false =>
    rw [hb] at E1
    simp only [Bool.false_eq_true, if_false]
    generalize rs.length = n at *
    generalize ps.length = m at *
    clear hb E2
    go_enter Try.func53, Try.ntmps53
    go_wp2_with fail
    refine (E1.out _ (bA B0.out _)).mono ?_
    rintro e w1 ⟨rfl, b1⟩
    have D1 := Lib.hid (bT (bA B0.out _) b1)
    have O1 := Lib.hid (own_mono (own_below O0.out b1) (Nat.le_add_right w.heap.size 1))
    clear b1 E1
    go_wp2
    go_ret
    exact ⟨_, rfl, O1.out, D1.out⟩
  | true =>
    rw [hb] at E1
    simp only [if_true]
    have TR := Lib.hid (B_true hb)
    by_cases hm : id ∈ idsL rs
    · obtain ⟨k, hk, ep, hid⟩ := pos_at rs id hm
      have hu : ∀ i (h : i < rs.length), i ≠ k → rs[i].1 ≠ id := fun i hi hne e => by
        have r := rise_lt _ _ _ TR.out.2.2.1
        rw [← hid, ← idsL_get rs i hi, ← idsL_get rs k hk] at e
        rcases Nat.lt_or_gt_of_ne hne with g | g
        · have := r i k g (by rw [idsL_len]; exact hk); omega
        · have := r k i g (by rw [idsL_len]; exact hi); omega
      rw [flat_one id top rs k hk hid hu, show rs[k].2.2.2.filter (fun c => decide (c ≤ top)) = FF id id top rs[k].2.2.2 from (if_pos rfl).symm]
      rw [ep] at E2
      obtain ⟨sld, capd, ed, hi, -⟩ := HZ.out.dom rs[k] (List.getElem_mem hk)
      have hd8 := (TR.out.2.1 rs[k] (List.getElem_mem hk)).2.1.2
      obtain ⟨c, o, rfl, Z0⟩ : ∃ c o, sl = some ⟨c, o, none⟩ ∧ StAt w c o rs := by
        rcases HZ.out.row with e | h
        · rw [e] at hk; simp at hk
        · exact h
      have HC2 := Lib.hid (And.intro Z0.lt (Z0.cell k hk).2.2)
      rw [ed] at HC2
      generalize rs[k].2.2.2 = zs at *
      have HI := Lib.hid hi
      clear hi ed hu hid Z0 hm ep hb
      generalize rs.length = n at *
      generalize ps.length = m at *
      have hk' : (k : Int) < (n : Int) := by omega
      have hk0 : ¬ (k : Int) < 0 := by omega
      generalize hQ : zs.length = q at *
      have HQ := Lib.hid hQ
      clear hQ
      go_enter Try.func53, Try.ntmps53
      go_wp2_with fail
      refine (E1.out _ (bA B0.out _)).mono ?_
      rintro e w1 ⟨rfl, b1⟩
      have D1 := Lib.hid (bT (bA B0.out _) b1)
      have O1 := Lib.hid (own_below O0.out b1)
      have T1 := Lib.hid ((HT.out.below (bA0 _ _)).below b1)
      clear b1 E1 HT O0
      obtain ⟨t0, t1⟩ := T1.out.cells
      have tl := T1.out.lt
      go_wp2_with fail
      refine (E2.out _ D1.out).mono ?_
      rintro e w2 ⟨rfl, b2⟩
      have D2 := Lib.hid (bT D1.out b2)
      have O2 := Lib.hid (own_below O1.out b2)
      have T2 := Lib.hid (T1.out.below b2)
      clear b2 t0 t1 tl O1 D1 T1
      obtain ⟨t0, t1⟩ := T2.out.cells
      have tl := T2.out.lt
      have KX : Hid (∀ W, Below w2.heap.size w2 W → w.heap.size < W.heap.size ∧ W.cell? ⟨w.heap.size, 0, none⟩ = some (.slice (some ⟨c, o, none⟩) n cap) ∧ W.cell? ⟨w.heap.size, 1, none⟩ = some (.slice sl2 m cap2) ∧ c < W.heap.size ∧ W.cell? ⟨c, o + k * 3 + 2, none⟩ = some (.slice sld q capd)) := fun W hW => by
        have r1 := (T2.out.below hW).cells
        have dw := bT D2.out hW
        exact ⟨(T2.out.below hW).lt, r1.1, r1.2, Nat.lt_of_lt_of_le HC2.out.1 dw.size, (dw.cell HC2.out.1).trans HC2.out.2⟩
      go_wp2_with fail
      refine wp_region_held_drew (S := fun W => w.heap.size < W.heap.size ∧ W.cell? ⟨w.heap.size, 0, none⟩ = some (.slice (some ⟨c, o, none⟩) n cap) ∧ W.cell? ⟨w.heap.size, 1, none⟩ = some (.slice sl2 m cap2) ∧ c < W.heap.size ∧ W.cell? ⟨c, o + k * 3 + 2, none⟩ = some (.slice sld q capd)) (by kernel_rfl) ?_ (fun hHeld => ?_)
      · exact KX.out _ (Below.refl _ _).drew
      refine wpAnyH_take (i := 0) (oi := _) (v := ?_) rfl (by kernel_rfl) (by kernel_rfl) (by kernel_rfl) (fun _ _ _ h => h) (Or.inl ⟨by rfl, ?_⟩) (by assumption) ?_
      rotate_left
      · first | (intro w hSw; (try dsimp only at hSw); go_simp; done) | (intro w hSw; (try dsimp only at hSw); go_simp; with_reducible rfl)
      try simp only [Act.put, List.setIfInBounds_toArray, List.set_cons_zero, List.set_cons_succ, List.getElem_toArray, List.getElem_cons_zero]
      refine wpAnyH_take (i := 1) (oi := _) (v := ?_) rfl (by kernel_rfl) (by kernel_rfl) (by kernel_rfl) (fun _ _ _ h => h) (Or.inl ⟨by rfl, ?_⟩) (by assumption) ?_
      rotate_left
      · first | (intro w hSw; (try dsimp only at hSw); go_simp; done) | (intro w hSw; (try dsimp only at hSw); go_simp; with_reducible rfl)
      try simp only [Act.put, List.setIfInBounds_toArray, List.set_cons_zero, List.set_cons_succ, List.getElem_toArray, List.getElem_cons_succ, List.getElem_cons_zero]
      refine wpAnyH_take (i := 2) (oi := _) (v := ?_) rfl (by kernel_rfl) (by kernel_rfl) (by kernel_rfl) (fun _ _ _ h => h) (Or.inl ⟨by rfl, ?_⟩) (by assumption) ?_
      rotate_left
      · first | (intro w hSw; (try dsimp only at hSw); go_simp; done) | (intro w hSw; (try dsimp only at hSw); go_simp; with_reducible rfl)
      try simp only [Act.put, List.setIfInBounds_toArray, List.set_cons_zero, List.set_cons_succ, List.getElem_toArray, List.getElem_cons_succ, List.getElem_cons_zero]
      refine wpAnyH_take (i := 3) (oi := _) (v := ?_) rfl (by kernel_rfl) (by kernel_rfl) (by kernel_rfl) (fun _ _ _ h => h) (Or.inl ⟨by rfl, ?_⟩) (by assumption) ?_
      rotate_left
      · first | (intro w hSw; (try dsimp only at hSw); go_simp; done) | (intro w hSw; (try dsimp only at hSw); go_simp; with_reducible rfl)
      try simp only [Act.put, List.setIfInBounds_toArray, List.set_cons_zero, List.set_cons_succ, List.getElem_toArray, List.getElem_cons_succ, List.getElem_cons_zero]
      refine wpAnyH_ready (rs := [4]) (by kernel_rfl) (by simp) ?_
      refine AllReadyH.cons rfl (fun K hK => ?_) AllReadyH.nil
      go_simp
      go_wp2_with (go_at_call 23; refine (E2.out _ D2.out.drew).mono ?_; rintro e w3 ⟨rfl, b3⟩)
      have D3 : Hid (Below w2.heap.size w2 w3) := bT ((Below.refl w2.heap.size w2).drew) b3
      clear b3
      refine hK.out _ _ ?_ (fun hHeld => ?_)
      · exact KX.out _ D3.out
      clear hK K
      refine wpAnyH_take (i := 5) (oi := _) (v := ?_) rfl (by kernel_rfl) (by kernel_rfl) (by kernel_rfl) (fun _ _ _ h => h) (Or.inl ⟨by rfl, ?_⟩) (by assumption) ?_
      rotate_left
      · first | (intro w hSw; (try dsimp only at hSw); go_simp; done) | (intro w hSw; (try dsimp only at hSw); go_simp; with_reducible rfl)
      try simp only [Act.put, List.setIfInBounds_toArray, List.set_cons_zero, List.set_cons_succ, List.getElem_toArray, List.getElem_cons_succ, List.getElem_cons_zero]
      refine wpAnyH_take (i := 6) (oi := _) (v := ?_) rfl (by kernel_rfl) (by kernel_rfl) (by kernel_rfl) (fun _ _ _ h => h) (Or.inl ⟨by rfl, ?_⟩) (by assumption) ?_
      rotate_left
      · first | (intro w hSw; (try dsimp only at hSw); go_simp; done) | (intro w hSw; (try dsimp only at hSw); go_simp; with_reducible rfl)
      try simp only [Act.put, List.setIfInBounds_toArray, List.set_cons_zero, List.set_cons_succ, List.getElem_toArray, List.getElem_cons_succ, List.getElem_cons_zero]
      refine wpAnyH_take (i := 7) (oi := _) (v := ?_) rfl (by kernel_rfl) (by kernel_rfl) (by kernel_rfl) (fun _ _ _ h => h) (Or.inl ⟨by rfl, ?_⟩) (by assumption) ?_
      rotate_left
      · first | (intro w hSw; (try dsimp only at hSw); go_simp; done) | (intro w hSw; (try dsimp only at hSw); go_simp; with_reducible rfl)
      try simp only [Act.put, List.setIfInBounds_toArray, List.set_cons_zero, List.set_cons_succ, List.getElem_toArray, List.getElem_cons_succ, List.getElem_cons_zero]
      refine wpAnyH_take (i := 8) (oi := _) (v := ?_) rfl (by kernel_rfl) (by kernel_rfl) (by kernel_rfl) (fun _ _ _ h => h) (Or.inl ⟨by rfl, ?_⟩) (by assumption) ?_
      rotate_left
      · first | (intro w hSw; (try dsimp only at hSw); go_simp; done) | (intro w hSw; (try dsimp only at hSw); go_simp; with_reducible rfl)
      try simp only [Act.put, List.setIfInBounds_toArray, List.set_cons_zero, List.set_cons_succ, List.getElem_toArray, List.getElem_cons_succ, List.getElem_cons_zero]
      refine wpAnyH_done (by kernel_rfl) ?_ _
      have B3 := Lib.hid (bT D2.out D3.out)
      have O3 := Lib.hid (own_below O2.out D3.out)
      have hs3 := B3.out.size
      have hs4 : w.heap.size + 1 < w3.heap.size := (O3.out.lt (w.heap.size + 1) rfl).2
      clear KX D3 O2 D2 T2 E2 t0 t1 tl
      generalize hA : FF id id top zs = ans
      have HA := Lib.hid hA
      clear hA
      go_wp2
      go_loopw [7, 9] (fun v i wr => ∃ (j : Nat) (cu : List Int), i = .int .i64 j ∧ j ≤ q ∧ cu.length ≤ j ∧ Hid (cu = FF id id top (zs.take j)) ∧ Hid (wr.ownsRow (w.heap.size + 1) 2 1 v cu.length (valsZ cu)) ∧ Hid (Below (w.heap.size + 1) w3 wr)) (fun _ i _ => q - (intOf i).toNat)
      case atStart => exact ⟨0, [], rfl, Nat.zero_le _, Nat.zero_le _, (by show [] = FF id id top (zs.take 0); rw [List.take_zero, FF_nil]), O3, Below.refl _ _⟩
      case round =>
        obtain ⟨j, cu, rfl, hj, hcu, HC, H1, H2⟩ := hrel
        have hj0 : (0 : Int) ≤ (j : Int) := by omega
        have hs5 := H2.out.size
        have DV := Lib.hid (B3.out.trans (H2.out.mono (Nat.le_add_right _ 1)))
        by_cases g1 : j < q
        · have g1' : (j : Int) < (q : Int) := by omega
          have hlt : j < zs.length := by rw [HQ.out]; exact g1
          obtain ⟨cd, od, rfl, ZI⟩ : ∃ c o, sld = some ⟨c, o, none⟩ ∧ IntsAt w c o zs := by
            rcases HI.out with e | h
            · rw [e] at hlt; simp at hlt
            · exact h
          have hc := (DV.out.cell (p := ⟨cd, od + j, none⟩) ZI.1).trans (ZI.2 j hlt)
          by_cases a2 : zs.getD j 0 ≤ top
          · have HN2 := Lib.hid (show cu ++ [zs.getD j 0] = FF id id top (zs.take (j + 1)) by rw [FF_yes id id top zs j hlt rfl a2, ← HC.out])
            have EV := Lib.hid (show valsZ cu ++ [.int .i64 (zs.getD j 0)] = valsZ (cu ++ [zs.getD j 0]) by simp [valsZ])
            generalize zs.getD j 0 = z at *
            clear hlt ZI HC
            go_wp2_with (first | (at_builtin; refine wpList_append_lies _ rfl (.tmp 41) (.tmp 46) 27 rfl (w.heap.size + 1) 2 i0 (.int .i64 0) 1 8 Try.underlying27 hi0 hz0 hz1 hz2 rfl (by decide) _ _ _ rfl (H1.out.alloc _) ⟨wr.heap.size, 0, none⟩ 1 1 [.int .i64 z] rfl rfl (cell_one_new _ _ _) (by intro u hu; simp at hu; subst hu; rfl) (by decide) (by unfold maxLen; omega) (by omega) (by simp; omega) (wr.heap.size + 1) (by simp) ?_))
            intro g9 cap9 w9 own9 grow9 hg9 hlt9
            have B9 := Lib.hid ((H2.out.alloc (by omega) (.cells #[.int .i64 z] 2)).grown grow9 (by simp; omega) (fun j hj => (H1.out.lt j hj).1))
            rw [EV.out] at own9
            have N9 : Hid (w9.ownsRow (w.heap.size + 1) 2 1 (.slice (some ⟨g9, 0, none⟩) (cu.length + 1) cap9) (cu ++ [z]).length (valsZ (cu ++ [z]))) := by
              rw [List.length_append]; exact own9
            have LL := Lib.hid (show (cu ++ [z]).length ≤ j + 1 by rw [List.length_append]; simp; omega)
            clear own9 grow9 hg9 hlt9 H1 H2 EV
            go_wp2
            go_roundw
            case rel => exact ⟨j + 1, cu ++ [z], by go_num, by omega, LL.out, HN2, N9, B9⟩
            case measure => simp [intOf]; omega
          · have HN2 := Lib.hid (show cu = FF id id top (zs.take (j + 1)) by rw [FF_no id id top zs j hlt (fun g => a2 g.2)]; exact HC.out)
            generalize zs.getD j 0 = z at *
            clear hlt ZI HC
            go_wp2
            go_roundw
            case rel => exact ⟨j + 1, cu, by go_num, by omega, by omega, HN2, H1, H2⟩
            case measure => simp [intOf]; omega
        · have g1' : ¬ (j : Int) < (q : Int) := by omega
          have P := Lib.hid (show cu = ans by rw [HC.out, List.take_of_length_le (by rw [HQ.out]; omega), HA.out])
          have OP := Lib.hid (own_mono H1.out (Nat.le_add_right w.heap.size 1))
          rw [P.out, ← HA.out] at OP
          clear H1 HC P
          go_wp2
          go_ret
          exact ⟨_, rfl, OP.out, DV.out⟩
    · rw [flat_none id top rs hm]
      rw [posOf_miss hm] at E2
      clear hm hb
      generalize rs.length = n at *
      generalize ps.length = m at *
      go_enter Try.func53, Try.ntmps53
      go_wp2_with fail
      refine (E1.out _ (bA B0.out _)).mono ?_
      rintro e w1 ⟨rfl, b1⟩
      have D1 := Lib.hid (bT (bA B0.out _) b1)
      have O1 := Lib.hid (own_below O0.out b1)
      have T1 := Lib.hid ((HT.out.below (bA0 _ _)).below b1)
      clear b1 E1 HT O0
      obtain ⟨t0, t1⟩ := T1.out.cells
      have tl := T1.out.lt
      go_wp2_with fail
      refine (E2.out _ D1.out).mono ?_
      rintro e w2 ⟨rfl, b2⟩
      have D2 := Lib.hid (bT D1.out b2)
      have O2 := Lib.hid (own_mono (own_below O1.out b2) (Nat.le_add_right w.heap.size 1))
      clear b2
      go_wp2
      go_ret
      exact ⟨_, rfl, O2.out, D2.out⟩

end Go.Proofs.Ytaogkdhloogmhaa
namespace Go.Proofs.Ytaogkdhloogmhaa
open Go.RowKit
set_option linter.unusedVariables false

/-- A place: an Id and a Channel. -/
abbrev LPl := Int × Int
/-- Places lie from cell o of block c on. -/
structure PlAt (w : World) (c o : Nat) (pl : List LPl) : Prop where
  lt : c < w.heap.size
  cell : ∀ i (h : i < pl.length), w.cell? ⟨c, o + i * 2, none⟩ = some (.int .i64 pl[i].1) ∧ w.cell? ⟨c, o + i * 2 + 1, none⟩ = some (.int .i64 pl[i].2)
/-- A slice of the places pl. -/
def Pls (w : World) (sl : Option Addr) (pl : List LPl) : Prop := pl = [] ∨ ∃ c o, sl = some ⟨c, o, none⟩ ∧ PlAt w c o pl
theorem PlAt.below {w w' : World} {c o : Nat} {pl : List LPl} (h : PlAt w c o pl) (hb : Below w.heap.size w w') : PlAt w' c o pl :=
  ⟨Nat.lt_of_lt_of_le h.lt hb.size, fun i hi => ⟨(hb.cell h.lt).trans (h.cell i hi).1, (hb.cell h.lt).trans (h.cell i hi).2⟩⟩
theorem Pls.below {w w' : World} {sl : Option Addr} {pl : List LPl} (h : Pls w sl pl) (hb : Below w.heap.size w w') : Pls w' sl pl := by
  rcases h with h | ⟨c, o, e, h⟩
  · exact .inl h
  · exact .inr ⟨c, o, e, h.below hb⟩
def pidsL (pl : List LPl) : List Int := pl.map fun p => p.1
theorem pidsL_len (pl : List LPl) : (pidsL pl).length = pl.length := by simp [pidsL]
theorem pidsL_step (pl : List LPl) (k : Nat) (h : k < pl.length) : valsZ ((pidsL pl).take k) ++ [.int .i64 pl[k].1] = valsZ ((pidsL pl).take (k + 1)) := by
  rw [List.take_add_one, show (pidsL pl)[k]? = some pl[k].1 by simp [pidsL, h]]
  simp [valsZ]
/-- The Ids as they stand; none, if they are too many. -/
def pidsA (pl : List LPl) : List Int := if pl.length ≤ 400 then pidsL pl else []
/-- An empty row just made. -/
theorem own_none5 (w : World) : (w.alloc (.cells #[] 2)).ownsRow w.heap.size 2 1 (.slice (some ⟨w.heap.size, 0, none⟩) 0 0) 0 [] :=
  ⟨rfl, .inr ⟨w.heap.size, 0, #[], rfl, Nat.le_refl _, by show (w.heap.push _)[w.heap.size]? = _; simp, Nat.le_refl _, Nat.zero_le _, rfl, rfl⟩⟩

set_option maxHeartbeats 1000000 in
/-- impl.PlanIds. -/
theorem ipi_any (sl : Option Addr) (cap : Nat) (pl : List LPl) (w : World) (hn : pl.length ≤ maxLen) (hz : Pls w sl pl) :
    Calls Try.prog 37 #[.slice sl pl.length cap] w fun e w' => ∃ v, e = .returned v ∧ w'.ownsRow w.heap.size 2 1 v (pidsA pl).length (valsZ (pidsA pl)) ∧ Below w.heap.size w w' := by
  unfold maxLen at hn
  by_cases h4 : pl.length ≤ 400
  · rw [show pidsA pl = pidsL pl from if_pos h4]
    obtain ⟨i0, hi0, hz0, hz1, hz2⟩ := info_parts info2'
    have h4' : ¬ (400 : Int) < (pl.length : Int) := by omega
    have HZ := Lib.hid hz
    clear hz
    rw [pidsL_len]
    generalize hN : pl.length = n at *
    have HN := Lib.hid hN
    clear hN
    go_enter Try.func37, Try.ntmps37
    go_wp2
    go_loopw [3, 11] (fun v i wr => ∃ k : Nat, i = .int .i64 k ∧ k ≤ n ∧ Hid (wr.ownsRow w.heap.size 2 1 v k (valsZ ((pidsL pl).take k))) ∧ Hid (Below w.heap.size w wr)) (fun _ i _ => n - (intOf i).toNat)
    case atStart => exact ⟨0, rfl, Nat.zero_le _, ⟨rfl, .inl ⟨rfl, rfl⟩⟩, Below.refl _ _⟩
    case round =>
      obtain ⟨k, rfl, hk, H1, H2⟩ := hrel
      have hk0 : (0 : Int) ≤ (k : Int) := by omega
      by_cases h1 : k < n
      · have h1' : (k : Int) < (n : Int) := by omega
        have hlt : k < pl.length := by rw [HN.out]; exact h1
        obtain ⟨c, o, rfl, Z0⟩ : ∃ c o, sl = some ⟨c, o, none⟩ ∧ PlAt w c o pl := by
          rcases HZ.out with e | h
          · rw [e] at hlt; simp at hlt
          · exact h
        obtain ⟨hc, hc1⟩ := (Z0.below H2.out).cell k hlt
        have EV := Lib.hid (pidsL_step pl k hlt)
        generalize pl[k].1 = z at *
        generalize pl[k].2 = y at *
        clear hlt Z0
        have hown := Lib.hid (H1.out.alloc (.cells #[.int .i64 z, .int .i64 y] 64))
        have hs := H2.out.size
        go_wp2_with (first | (at_builtin; refine wpList_append_lies _ rfl (.tmp 15) (.tmp 18) 27 rfl w.heap.size 2 i0 (.int .i64 0) 1 8 Try.underlying27 hi0 hz0 hz1 hz2 rfl (by decide) _ _ _ rfl (hown.out.alloc _) ⟨wr.heap.size + 1, 0, none⟩ 1 1 [.int .i64 z] (by simp [Act.eval]) rfl (cell_one_new' _ _ _ _) (by intro u hu; simp at hu; subst hu; rfl) (by decide) (by unfold maxLen; omega) (by omega) (by simp; omega) (wr.heap.size + 2) (by simp) ?_))
        intro g9 cap9 w9 own9 grow9 hg9 hlt9
        have B9 := Lib.hid ((bA (bA H2.out (.cells #[.int .i64 z, .int .i64 y] 64)) (.cells #[.int .i64 z] 2)).grown grow9 (by simp; omega) (fun j hj => (hown.out.lt j hj).1))
        rw [EV.out] at own9
        have N9 := Lib.hid own9
        clear own9 grow9 hg9 hlt9 hown
        go_wp2
        go_roundw
        case rel => exact ⟨k + 1, by go_num, by omega, N9, B9⟩
        case measure => simp [intOf]; omega
      · have h1' : ¬ (k : Int) < (n : Int) := by omega
        have e : k = n := by omega
        have F := Lib.hid (show (pidsL pl).take k = pidsL pl from List.take_of_length_le (by rw [pidsL_len, HN.out]; omega))
        have H9 := H1.out
        rw [F.out, e] at H9
        have P := Lib.hid (And.intro H9 H2.out)
        clear H9 H1
        go_wp2
        go_ret
        exact ⟨_, rfl, P.out.1, P.out.2⟩
  · rw [show pidsA pl = [] from if_neg h4]
    have h4' : (400 : Int) < (pl.length : Int) := by omega
    clear hz
    generalize pl.length = n at *
    go_enter Try.func37, Try.ntmps37
    go_wp2
    go_ret
    exact ⟨_, rfl, ⟨rfl, .inl ⟨rfl, rfl⟩⟩, Below.refl _ _⟩

end Go.Proofs.Ytaogkdhloogmhaa
namespace Go.Proofs.Ytaogkdhloogmhaa
open Go.RowKit
set_option linter.unusedVariables false

/-- The places of one Id. -/
def chF (rs : List LSt) (top id : Int) : List LPl := (rs.flatMap (domF id top)).map fun c => (id, c)
/-- The places of all of them, one behind the other: the variables. -/
def plF (rs : List LSt) (top : Int) (ids : List Int) : List LPl := ids.flatMap (chF rs top)

/-- Nothing has turned below C but block b. -/
def Kp1 (b C : Nat) (w w' : World) : Prop := w.heap.size ≤ w'.heap.size ∧ ∀ c, c < C → c ≠ b → w'.heap[c]? = w.heap[c]?
theorem Kp1.refl (b C : Nat) (w : World) : Kp1 b C w w := ⟨Nat.le_refl _, fun _ _ _ => rfl⟩
theorem Kp1.trans {b C : Nat} {w w' w'' : World} (h : Kp1 b C w w') (g : Kp1 b C w' w'') : Kp1 b C w w'' := ⟨Nat.le_trans h.1 g.1, fun c hc hb => (g.2 c hc hb).trans (h.2 c hc hb)⟩
theorem Kp1.mono {b C C' : Nat} {w w' : World} (h : Kp1 b C w w') (hc : C' ≤ C) : Kp1 b C' w w' := ⟨h.1, fun c k hb => h.2 c (by omega) hb⟩
theorem Kp1.of {b C : Nat} {w w' : World} (h : Below C w w') : Kp1 b C w w' := ⟨h.size, fun c hc _ => h.block c hc⟩
theorem Kp1.set {b C : Nat} {w w' : World} (h : Kp1 b C w w') (i : Nat) (v : Value) : Kp1 b C w (w'.setCell ⟨b, i, none⟩ v) := ⟨by simpa [World.setCell] using h.1, fun c hc hb => (Below.heap_setCell _ _ _ _ hb).trans (h.2 c hc hb)⟩
theorem Kp1.cell {b C : Nat} {w w' : World} (h : Kp1 b C w w') {c o : Nat} (hc : c < C) (hb : c ≠ b) : w'.cell? ⟨c, o, none⟩ = w.cell? ⟨c, o, none⟩ := by
  simp only [World.cell?, h.2 c hc hb]

/-- A row of places as it lies: its slice, the places; not in block b. -/
abbrev LRow := Value × List LPl
def RowN (b : Nat) (w : World) (r : LRow) : Prop := ∃ sl cap, r.1 = .slice sl r.2.length cap ∧ (r.2 = [] ∨ ∃ c, sl = some ⟨c, 0, none⟩ ∧ PlAt w c 0 r.2 ∧ c ≠ b)
theorem RowN.kp {b C : Nat} {w w' : World} {r : LRow} (h : RowN b w r) (k : Kp1 b C w w') (hC : w.heap.size ≤ C) : RowN b w' r := by
  obtain ⟨sl, cap, e, h⟩ := h
  refine ⟨sl, cap, e, ?_⟩
  rcases h with h | ⟨c, es, h, hb⟩
  · exact .inl h
  · refine .inr ⟨c, es, ⟨Nat.lt_of_lt_of_le h.lt k.1, fun i hi => ?_⟩, hb⟩
    have hl := Nat.lt_of_lt_of_le h.lt hC
    exact ⟨(k.cell hl hb).trans (h.cell i hi).1, (k.cell hl hb).trans (h.cell i hi).2⟩
/-- The cells of the slices: those of the rows, the rest none. -/
def rowsA (rows : List LRow) (n : Nat) : Array Value := (rows.map (fun r => r.1) ++ List.replicate (n - rows.length) (Value.slice none 0 0)).toArray
def ChB (w : World) (b : Nat) (vs : Array Value) : Prop := w.heap[b]? = some (.cells vs 37)
theorem ChB.lt {w : World} {b : Nat} {vs : Array Value} (h : ChB w b vs) : b < w.heap.size := (Array.getElem?_eq_some_iff.1 h).1
theorem ChB.below {w w' : World} {b : Nat} {vs : Array Value} (h : ChB w b vs) (hb : Below w.heap.size w w') : ChB w' b vs := (hb.block b h.lt).trans h
theorem ChB.cell {w : World} {b : Nat} {vs : Array Value} (h : ChB w b vs) (i : Nat) : w.cell? ⟨b, i, none⟩ = vs[i]? := by
  unfold ChB at h; simp [World.cell?, h]
theorem ChB.frozen {w : World} {b : Nat} {vs : Array Value} (h : ChB w b vs) (i : Nat) : w.frozen? ⟨b, i, none⟩ = false := by
  unfold ChB at h; simp [World.frozen?, h]
theorem ChB.set {w : World} {b : Nat} {vs : Array Value} (h : ChB w b vs) (i : Nat) (v : Value) : ChB (w.setCell ⟨b, i, none⟩ v) b (vs.setIfInBounds i v) := heap_setCell_same w b i vs 37 v h
theorem rowsA_size (rows : List LRow) (n : Nat) (h : rows.length ≤ n) : (rowsA rows n).size = n := by simp [rowsA]; omega
theorem rowsA_nil (n : Nat) : rowsA [] n = (List.replicate n (Value.slice none 0 0)).toArray := by simp [rowsA]
theorem rowsA_at (rows : List LRow) (n : Nat) (h : rows.length < n) : (rowsA rows n)[rows.length]? = some (.slice none 0 0) := by
  simp only [rowsA, List.getElem?_toArray]
  rw [List.getElem?_append_right (by simp)]
  simp [show 0 < n - rows.length by omega]
theorem rowsA_get (rows : List LRow) (n i : Nat) (h : i < rows.length) : (rowsA rows n)[i]? = some rows[i].1 := by
  simp only [rowsA, List.getElem?_toArray]
  rw [List.getElem?_append_left (by simpa using h)]
  simp [h]
theorem rowsA_step (rows : List LRow) (n : Nat) (h : rows.length < n) (r : LRow) : (rowsA rows n).setIfInBounds rows.length r.1 = rowsA (rows ++ [r]) n := by
  obtain ⟨k, hk⟩ : ∃ k, n - rows.length = k + 1 := ⟨n - rows.length - 1, by omega⟩
  have hk' : n - (rows ++ [r]).length = k := by simp; omega
  unfold rowsA
  rw [hk, hk', List.replicate_succ, List.setIfInBounds_toArray]
  congr 1
  rw [List.set_append_right _ _ (by simp)]
  simp
theorem set_set (vs : Array Value) (i : Nat) (u v : Value) : (vs.setIfInBounds i u).setIfInBounds i v = vs.setIfInBounds i v := by simp
theorem set_self (vs : Array Value) (i : Nat) (v : Value) (h : vs[i]? = some v) : vs.setIfInBounds i v = vs := by
  apply Array.ext
  · simp
  · intro j h1 h2
    rw [Array.getElem_setIfInBounds (by simpa using h1)]
    split
    · rename_i e
      subst e
      rw [Array.getElem?_eq_getElem h2] at h
      exact (Option.some.inj h).symm
    · rfl
theorem set_at (vs : Array Value) (i : Nat) (v : Value) (h : i < vs.size) : (vs.setIfInBounds i v)[i]? = some v := by
  rw [Array.getElem?_setIfInBounds_self_of_lt h]

theorem info27 : (Try.prog.info? 37).map (fun i => (i.zero, i.size, i.bytes)) = some (some (.slice none 0 0), 1, 24) := by kernel_rfl
theorem info34 : (Try.prog.info? 64).map (fun i => (i.zero, i.size, i.bytes)) = some (some (.agg #[.int .i64 0, .int .i64 0]), 2, 16) := by kernel_rfl
theorem made27 (n : Nat) : madeCells #[Value.slice none 0 0] n = rowsA [] n := by
  apply Array.toList_inj.1
  rw [toList_madeCells_one, rowsA_nil]
theorem make27 (n : Nat) (h : n ≤ 1048576) (w : World) :
    Sem.run Try.prog (Instr.makeSlice 55 (.int .i64 (n : Int)) (.int .i64 (n : Int))) w = .ok (.slice (some ⟨w.heap.size, 0, none⟩) n n) (w.alloc (.cells (rowsA [] n) 37)) := by
  obtain ⟨i, h1, h2, h3, h4⟩ := info_parts info27
  have := run_make (P := Try.prog) w 55 37 i _ Try.underlying55 h1 h2 .i64 .i64 (n : Int) (n : Int) (by omega) (Int.le_refl _) (by rw [h4]; omega) (by omega)
  rw [this, h3, ← made27]
  simp [Value.cells]
theorem own_pls {w : World} {B : Nat} {v : Value} {pl : List LPl} (h : w.ownsRow B 64 2 v pl.length (enCells pl)) : ∃ sl cap, v = .slice sl pl.length cap ∧ (pl = [] ∨ ∃ c, sl = some ⟨c, 0, none⟩ ∧ PlAt w c 0 pl ∧ B ≤ c) := by
  rcases h.2 with ⟨hv, h0⟩ | ⟨g, cap, cur, hv, hb, hg, _⟩
  · exact ⟨none, 0, by rw [hv, h0], .inl (List.eq_nil_of_length_eq_zero h0)⟩
  · refine ⟨_, cap, hv, .inr ⟨g, rfl, ⟨(Array.getElem?_eq_some_iff.1 hg).1, fun i hi => ?_⟩, hb⟩⟩
    have e := enCells_at pl i hi
    subst hv
    rw [Nat.zero_add]
    exact ⟨by rw [h.cellAt (i * 2) (by omega), e.1], by rw [h.cellAt (i * 2 + 1) (by omega), e.2]⟩

theorem ChB.grow {w : World} {b : Nat} {vs : Array Value} (h : ChB w b vs) {o : Obj} {w' : World} {v : Value} (hg : (w.alloc o).grownBy w' v.ownBlock) (hv : v.ownBlock ≠ some b) : ChB w' b vs :=
  (hg.block b (by simp; exact Nat.lt_succ_of_lt h.lt) (fun e => hv e.symm)).trans ((Below.heap_alloc _ _ _ h.lt).trans h)
theorem Kp1.grow {b C : Nat} {w w' : World} {o : Obj} {v : Value} (hg : (w.alloc o).grownBy w' v.ownBlock) (hC : C ≤ w.heap.size) (hv : ∀ j, v.ownBlock = some j → C ≤ j) : Kp1 b C w w' :=
  ⟨by have := hg.size; simp at this; omega, fun c hc _ => (hg.block c (by simp; omega) (fun e => by have := hv c e.symm; omega)).trans (Below.heap_alloc _ _ _ (by omega))⟩
theorem own_set {w : World} {B : Nat} {e : TypeId} {m : Nat} {v : Value} {n : Nat} {xs : List Value} (h : w.ownsRow B e m v n xs) {b : Nat} (hb : v.ownBlock ≠ some b) (i : Nat) (u : Value) : (w.setCell ⟨b, i, none⟩ u).ownsRow B e m v n xs := by
  refine ⟨h.1, ?_⟩
  rcases h.2 with h | ⟨g, cap, cur, hv, hg, hh, r⟩
  · exact .inl h
  · refine .inr ⟨g, cap, cur, hv, hg, (Below.heap_setCell _ _ _ _ ?_).trans hh, r⟩
    subst hv
    intro e
    exact hb (by simp [Value.ownBlock, e])

/-- A slice of rows of places. -/
structure Rws (w : World) (sl : Option Addr) (rows : List LRow) : Prop where
  row : rows = [] ∨ ∃ c, sl = some ⟨c, 0, none⟩ ∧ c < w.heap.size ∧ ∀ i (h : i < rows.length), w.cell? ⟨c, i, none⟩ = some rows[i].1
  each : ∀ r ∈ rows, ∃ sl cap, r.1 = .slice sl r.2.length cap ∧ Pls w sl r.2
theorem Rws.below {w w' : World} {sl : Option Addr} {rows : List LRow} (h : Rws w sl rows) (hb : Below w.heap.size w w') : Rws w' sl rows := by
  refine ⟨?_, fun r hr => ?_⟩
  · rcases h.row with h | ⟨c, e, hl, h⟩
    · exact .inl h
    · exact .inr ⟨c, e, Nat.lt_of_lt_of_le hl hb.size, fun i hi => (hb.cell hl).trans (h i hi)⟩
  · obtain ⟨sl, cap, e, h⟩ := h.each r hr
    exact ⟨sl, cap, e, h.below hb⟩

theorem dom_le (rs : List LSt) (ps : List LPr) (id top : Int) (h : TabR rs ps) : (rs.flatMap (domF id top)).length ≤ 96 := by
  have h1 : ∀ l : List LSt, (∀ r ∈ l, r.2.2.2.length ≤ 8) → (l.flatMap (domF id top)).length ≤ 8 * l.length := by
    intro l
    induction l with
    | nil => intro _; simp
    | cons r t ih =>
      intro hl
      have a := ih (fun q hq => hl q (by simp [hq]))
      have b := hl r (by simp)
      have c : (domF id top r).length ≤ r.2.2.2.length := by
        unfold domF FF
        split
        · exact List.length_filter_le _ _
        · simp
      simp only [List.flatMap_cons, List.length_append, List.length_cons]
      omega
  have := h1 rs (fun r hr => (h.2.1 r hr).2.1.2)
  have := h.1.2
  omega
theorem chF_step (rs : List LSt) (top id : Int) (zs : List Int) (j : Nat) (h : j < zs.length) : ((zs.take (j + 1)).map fun c => ((id, c) : LPl)) = ((zs.take j).map fun c => (id, c)) ++ [(id, zs.getD j 0)] := by
  rw [List.take_succ_eq_append_getElem h, List.map_append]
  simp [h]

set_option maxRecDepth 100000 in
set_option maxHeartbeats 4000000 in
/-- impl.choicesOf, of a right table. -/
theorem ch_any (sl : Option Addr) (cap : Nat) (sl2 : Option Addr) (cap2 : Nat) (sl3 : Option Addr) (cap3 : Nat) (rs : List LSt) (ps : List LPr) (top : Int) (ids : List Int) (w : World) (hl : ids.length ≤ 400) (hz : Sts w sl rs) (TR0 : TabR rs ps) (hi : Ints w sl3 ids) :
    Calls Try.prog 25 #[TV sl rs.length cap sl2 ps.length cap2, .int .i64 top, .slice sl3 ids.length cap3] w fun e w' => ∃ b rows, e = .returned (.slice (some ⟨b, 0, none⟩) ids.length ids.length) ∧ rows.map (fun r => r.2) = ids.map (chF rs top) ∧ Rws w' (some ⟨b, 0, none⟩) rows ∧ Below w.heap.size w w' := by
  obtain ⟨i3, hi3, hd0, hd1, hd2⟩ := info_parts info34
  have HT := Lib.hid (TabAt.new w sl rs.length cap sl2 ps.length cap2)
  have E1 : Hid (∀ id W, Below w.heap.size w W → Calls Try.prog 47 #[TV sl rs.length cap sl2 ps.length cap2, .int .i64 id, .int .i64 top] W fun e w' => ∃ v, e = .returned v ∧ w'.ownsRow W.heap.size 2 1 v (rs.flatMap (domF id top)).length (valsZ (rs.flatMap (domF id top))) ∧ Below W.heap.size W w') := fun id W hW => din_any sl cap sl2 cap2 rs ps id top W (hz.below hW) TR0
  have DL := Lib.hid (fun id => dom_le rs ps id top TR0)
  have HI := Lib.hid hi
  have hmk := make27 ids.length (by omega)
  clear hz hi TR0
  generalize hN : ids.length = n at *
  have HN := Lib.hid hN
  clear hN
  generalize rs.length = rn at *
  generalize ps.length = pn at *
  have B0 := Lib.hid (bA (bA0 w (.cells #[.slice sl rn cap, .slice sl2 pn cap2] 26)) (.cells (rowsA [] n) 37))
  have X0 := Lib.hid (HT.out.below (bA0 (w.alloc (.cells #[.slice sl rn cap, .slice sl2 pn cap2] 26)) (.cells (rowsA [] n) 37)))
  have C0 := Lib.hid (show ChB ((w.alloc (.cells #[.slice sl rn cap, .slice sl2 pn cap2] 26)).alloc (.cells (rowsA [] n) 37)) (w.heap.size + 1) (rowsA [] n) by
    have := new_at (w.alloc (.cells #[.slice sl rn cap, .slice sl2 pn cap2] 26)) (.cells (rowsA [] n) 37)
    rwa [show (w.alloc (.cells #[.slice sl rn cap, .slice sl2 pn cap2] 26)).heap.size = w.heap.size + 1 by simp] at this)
  go_enter Try.func25, Try.ntmps25
  go_wp2
  generalize (w.alloc (.cells #[.slice sl rn cap, .slice sl2 pn cap2] 26)).alloc (.cells (rowsA [] n) 37) = wA at *
  clear HT
  go_loopw [17] (fun i wr => ∃ (k : Nat) (rows : List LRow), i = .int .i64 k ∧ k ≤ n ∧ Hid (rows.length = k ∧ rows.map (fun r => r.2) = (ids.take k).map (chF rs top)) ∧ Hid (ChB wr (w.heap.size + 1) (rowsA rows n)) ∧ Hid (∀ r ∈ rows, RowN (w.heap.size + 1) wr r) ∧ Hid (Below w.heap.size w wr) ∧ Hid (TabAt wr w.heap.size sl rn cap sl2 pn cap2)) (fun i _ => n - (intOf i).toNat)
  case atStart => exact ⟨0, [], rfl, Nat.zero_le _, ⟨rfl, rfl⟩, C0, (fun r hr => by cases hr), B0, X0⟩
  case round =>
    obtain ⟨k, rows, rfl, hk, RL, CB, RN, H2, XT⟩ := hrel
    have hk0 : (0 : Int) ≤ (k : Int) := by omega
    by_cases g1 : k < n
    · have g1' : (k : Int) < (n : Int) := by omega
      have hlt : k < ids.length := by rw [HN.out]; exact g1
      obtain ⟨c, o, rfl, ZI⟩ : ∃ c o, sl3 = some ⟨c, o, none⟩ ∧ IntsAt w c o ids := by
        rcases HI.out with e | h
        · rw [e] at hlt; simp at hlt
        · exact h
      have hc := (H2.out.cell (p := ⟨c, o + k, none⟩) ZI.1).trans (ZI.2 k hlt)
      have IS := Lib.hid (show (ids.take (k + 1)).map (chF rs top) = (ids.take k).map (chF rs top) ++ [chF rs top (ids.getD k 0)] by
        rw [List.take_succ_eq_append_getElem hlt, List.map_append]; simp [hlt])
      have E := Lib.hid (E1.out (ids.getD k 0) wr H2.out)
      have D8 := DL.out (ids.getD k 0)
      have CF := Lib.hid (show chF rs top (ids.getD k 0) = (rs.flatMap (domF (ids.getD k 0) top)).map fun c => (ids.getD k 0, c) from rfl)
      clear hlt ZI
      generalize ids.getD k 0 = x at *
      obtain ⟨t0, t1⟩ := XT.out.cells
      have tl := XT.out.lt
      generalize hzz : rs.flatMap (domF x top) = zs at *
      clear hzz
      have CT := CB.out.lt
      go_wp2_with fail
      refine E.out.mono ?_
      rintro e w3 ⟨v3, rfl, o3, b3⟩
      obtain ⟨s3, c3, rfl, z3⟩ := own_ints o3
      have Z3 := Lib.hid z3
      have ZB := Lib.hid (show ∀ c o, s3 = some ⟨c, o, none⟩ → c ≠ w.heap.size + 1 from fun c o e => by
        subst e
        rcases o3.2 with ⟨hv, _⟩ | ⟨g, cp, cur, hv, hb, _⟩
        · cases hv
        · cases hv; omega)
      have H3 := Lib.hid (bT H2.out b3)
      have CB3 := Lib.hid (CB.out.below b3)
      have X3 := Lib.hid (XT.out.below b3)
      have RN3 := Lib.hid (fun r hr => (RN.out r hr).kp (Kp1.of b3) (Nat.le_refl _))
      have RA := Lib.hid (rowsA_at rows n (by rw [RL.out.1]; exact g1))
      have RZ := Lib.hid (rowsA_size rows n (by rw [RL.out.1]; exact hk))
      have RS := Lib.hid (rowsA_step rows n (by rw [RL.out.1]; exact g1))
      rw [RL.out.1] at RA RS
      clear o3 z3 b3 E CB XT RN t0 t1 tl CT
      generalize rowsA rows n = vs0 at *
      generalize hq : zs.length = q at *
      have HQ := Lib.hid hq
      clear hq
      have C3 := Lib.hid (show ChB w3 (w.heap.size + 1) (vs0.setIfInBounds k (.slice none 0 0)) by rw [set_self _ _ _ RA.out]; exact CB3.out)
      have hw3 := CB3.out.lt
      go_wp2
      go_loopw [27] (fun j wq => ∃ (m : Nat) (v : Value), j = .int .i64 m ∧ m ≤ q ∧ Hid (ChB wq (w.heap.size + 1) (vs0.setIfInBounds k v)) ∧ Hid (wq.ownsRow w3.heap.size 64 2 v m (enCells ((zs.take m).map fun c => (x, c)))) ∧ Hid (Kp1 (w.heap.size + 1) w3.heap.size w3 wq) ∧ Hid (Below w.heap.size w wq)) (fun j _ => q - (intOf j).toNat)
      case atStart => exact ⟨0, _, rfl, Nat.zero_le _, C3, ⟨rfl, .inl ⟨rfl, rfl⟩⟩, Kp1.refl _ _ _, H3⟩
      case round =>
        obtain ⟨m, v, rfl, hm, CB, OR, KP, HB⟩ := hrel
        have hm0 : (0 : Int) ≤ (m : Int) := by omega
        by_cases g2 : m < q
        · have g2' : (m : Int) < (q : Int) := by omega
          have hlt : m < zs.length := by rw [HQ.out]; exact g2
          obtain ⟨e, p, rfl, ZI⟩ : ∃ e p, s3 = some ⟨e, p, none⟩ ∧ IntsAt w3 e p zs := by
            rcases Z3.out with e | h
            · rw [e] at hlt; simp at hlt
            · exact h
          have hzc := (KP.out.cell (o := p + m) ZI.1 (ZB.out _ _ rfl)).trans (ZI.2 m hlt)
          have FS := Lib.hid (show enCells ((zs.take m).map fun c => ((x, c) : LPl)) ++ [.int .i64 x, .int .i64 (zs.getD m 0)] = enCells ((zs.take (m + 1)).map fun c => ((x, c) : LPl)) by rw [chF_step rs top x zs m hlt, enCells_add])
          clear hlt ZI
          generalize zs.getD m 0 = z at *
          have hbc : wr.cell? ⟨w.heap.size + 1, k, none⟩ = some v := (CB.out.cell k).trans (set_at _ _ _ (by rw [RZ.out]; exact g1))
          have hbl := CB.out.lt
          have NE := Lib.hid (show v.ownBlock ≠ some (w.heap.size + 1) from fun e => by have := (OR.out.lt _ e).1; omega)
          obtain ⟨vsl, vcap, rfl⟩ := own_v OR.out
          generalize enCells ((zs.take m).map fun c => ((x, c) : LPl)) = xs at *
          have hks := KP.out.1
          go_wp2_with (first | (at_builtin; refine wpList_append_lies _ rfl (.tmp 36) (.tmp 40) 37 rfl w3.heap.size 64 i3 (.agg #[.int .i64 0, .int .i64 0]) 2 16 Try.underlying37 hi3 hd0 hd1 hd2 rfl (by decide) _ _ _ rfl (OR.out.alloc _) ⟨wr.heap.size, 0, none⟩ 1 1 [.int .i64 x, .int .i64 z] rfl rfl (cell_two_new _ _ _ _) (by intro u hu; simp at hu; rcases hu with rfl | rfl <;> rfl) (by decide) (by unfold maxLen; omega) (by omega) (by simp; omega) (wr.heap.size + 1) (by simp) ?_))
          intro g9 cap9 w9 own9 grow9 hg9 hlt9
          have OL := Lib.hid (show ∀ j, (Value.slice vsl m vcap).ownBlock = some j → w3.heap.size ≤ j from fun j hj => (OR.out.lt j hj).1)
          have NE9 := Lib.hid (show (Value.slice (some ⟨g9, 0, none⟩) (m + 1) cap9).ownBlock ≠ some (w.heap.size + 1) from fun e => by have := (own9.lt _ e).1; omega)
          have C9 := Lib.hid (show ChB (w9.setCell ⟨w.heap.size + 1, k, none⟩ (.slice (some ⟨g9, 0, none⟩) (m + 1) cap9)) (w.heap.size + 1) (vs0.setIfInBounds k (.slice (some ⟨g9, 0, none⟩) (m + 1) cap9)) by
            have := (CB.out.grow grow9 NE.out).set k (.slice (some ⟨g9, 0, none⟩) (m + 1) cap9)
            rwa [set_set] at this)
          have K9 := Lib.hid ((KP.out.trans (Kp1.grow grow9 hks OL.out)).set k (.slice (some ⟨g9, 0, none⟩) (m + 1) cap9))
          have B9 := Lib.hid (((bA HB.out (.cells #[.int .i64 x, .int .i64 z] 64)).grown grow9 (by have := HB.out.size; simp; omega) (fun j hj => by have := OL.out j hj; omega)).setCell (p := ⟨w.heap.size + 1, k, none⟩) (Nat.le_add_right _ _) (.slice (some ⟨g9, 0, none⟩) (m + 1) cap9))
          rw [FS.out] at own9
          have O9 := Lib.hid (own_set own9 NE9.out k (.slice (some ⟨g9, 0, none⟩) (m + 1) cap9))
          have CW := CB.out.grow grow9 NE.out
          have wc : w9.cell? ⟨w.heap.size + 1, k, none⟩ = some (.slice vsl m vcap) := (CW.cell k).trans (set_at _ _ _ (by rw [RZ.out]; exact g1))
          have wf := CW.frozen k
          have wl := CW.lt
          clear own9 grow9 hg9 hlt9 CB OR KP HB OL NE NE9 CW hbc FS
          go_wp2
          go_roundw
          case rel => exact ⟨m + 1, _, by go_num, by omega, C9, O9, K9, B9⟩
          case measure => simp [intOf]; omega
        · have g2' : ¬ (m : Int) < (q : Int) := by omega
          have em : zs.take m = zs := List.take_of_length_le (by rw [HQ.out]; omega)
          have emq : m = (zs.map fun c => ((x, c) : LPl)).length := by simp; rw [HQ.out]; omega
          have O9 : Hid (wr.ownsRow w3.heap.size 64 2 v (zs.map fun c => ((x, c) : LPl)).length (enCells (zs.map fun c => ((x, c) : LPl)))) := by
            have := OR.out
            rw [em, emq] at this
            exact this
          have RNN : Hid (∀ r ∈ rows ++ [(v, zs.map fun c => ((x, c) : LPl))], RowN (w.heap.size + 1) wr r) := fun r hr => by
            rcases List.mem_append.1 hr with hr | hr
            · exact (RN3.out r hr).kp KP.out (Nat.le_refl _)
            · rw [List.mem_singleton.1 hr]
              obtain ⟨sl9, cap9, e9, h9⟩ := own_pls O9.out
              refine ⟨sl9, cap9, e9, ?_⟩
              rcases h9 with h9 | ⟨c9, es, p9, hb9⟩
              · exact .inl h9
              · exact .inr ⟨c9, es, p9, by omega⟩
          have CBN : Hid (ChB wr (w.heap.size + 1) (rowsA (rows ++ [(v, zs.map fun c => ((x, c) : LPl))]) n)) := by
            have := CB.out
            rw [RS.out (v, zs.map fun c => ((x, c) : LPl))] at this
            exact this
          have RLN : Hid ((rows ++ [(v, zs.map fun c => ((x, c) : LPl))]).length = k + 1 ∧ (rows ++ [(v, zs.map fun c => ((x, c) : LPl))]).map (fun r => r.2) = (ids.take (k + 1)).map (chF rs top)) := ⟨by simp [RL.out.1], by rw [List.map_append, RL.out.2, IS.out, CF.out]; rfl⟩
          have XN : Hid (TabAt wr w.heap.size sl rn cap sl2 pn cap2) := (KP.out.2 w.heap.size (by omega) (by omega)).trans X3.out
          clear em emq O9 CB OR KP RS RA RZ
          go_wp2
          go_roundw
          case rel => exact ⟨k + 1, _, by go_num, by omega, RLN, CBN, RNN, HB, XN⟩
          case measure => simp [intOf]; omega
    · have g1' : ¬ (k : Int) < (n : Int) := by omega
      have P : Hid (rows.map (fun r => r.2) = ids.map (chF rs top) ∧ Rws wr (some ⟨w.heap.size + 1, 0, none⟩) rows ∧ Below w.heap.size w wr) := by
        refine ⟨?_, ⟨.inr ⟨_, rfl, CB.out.lt, fun i hi => ?_⟩, fun r hr => ?_⟩, H2.out⟩
        · have := RL.out.2
          rwa [List.take_of_length_le (by rw [HN.out]; omega)] at this
        · rw [CB.out.cell i, rowsA_get rows n i hi]
        · obtain ⟨sl9, cap9, e9, h9⟩ := RN.out r hr
          refine ⟨sl9, cap9, e9, ?_⟩
          rcases h9 with h9 | ⟨c9, es, p9, hb9⟩
          · exact .inl h9
          · exact .inr ⟨c9, 0, es, p9⟩
      clear RL CB RN
      go_wp2
      go_ret
      exact ⟨_, rfl, rows, P.out⟩

end Go.Proofs.Ytaogkdhloogmhaa
