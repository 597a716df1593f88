/-
  CHOICES: for each Id its places, as the program gathers them: impl.choicesOf.
-/
import Derived.Test.YtgfclllfkpblnaaAx
import Derived.Test.YtgfclllfkpblnaaAj
import Derived.Test.YtgfclllfkpblnaaPa
namespace Go.Proofs.Ytgfclllfkpblnaa
open Go.RowKit
set_option linter.unusedVariables false

/-- The places of one Id. -/
def chF (rs : List LSt) (top id : Int) : List LPl := (rs.flatMap (domF id top)).map fun c => (id, c)
/-- The places of all of them, one behind the other: the variables. -/
def plF (rs : List LSt) (top : Int) (ids : List Int) : List LPl := ids.flatMap (chF rs top)

/-- Nothing has turned below C but block b. -/
def Kp1 (b C : Nat) (w w' : World) : Prop := w.heap.size ≤ w'.heap.size ∧ ∀ c, c < C → c ≠ b → w'.heap[c]? = w.heap[c]?
theorem Kp1.refl (b C : Nat) (w : World) : Kp1 b C w w := ⟨Nat.le_refl _, fun _ _ _ => rfl⟩
theorem Kp1.trans {b C : Nat} {w w' w'' : World} (h : Kp1 b C w w') (g : Kp1 b C w' w'') : Kp1 b C w w'' := ⟨Nat.le_trans h.1 g.1, fun c hc hb => (g.2 c hc hb).trans (h.2 c hc hb)⟩
theorem Kp1.mono {b C C' : Nat} {w w' : World} (h : Kp1 b C w w') (hc : C' ≤ C) : Kp1 b C' w w' := ⟨h.1, fun c k hb => h.2 c (by omega) hb⟩
theorem Kp1.of {b C : Nat} {w w' : World} (h : Below C w w') : Kp1 b C w w' := ⟨h.size, fun c hc _ => h.block c hc⟩
theorem Kp1.set {b C : Nat} {w w' : World} (h : Kp1 b C w w') (i : Nat) (v : Value) : Kp1 b C w (w'.setCell ⟨b, i, none⟩ v) := ⟨by simpa [World.setCell] using h.1, fun c hc hb => (Below.heap_setCell _ _ _ _ hb).trans (h.2 c hc hb)⟩
theorem Kp1.cell {b C : Nat} {w w' : World} (h : Kp1 b C w w') {c o : Nat} (hc : c < C) (hb : c ≠ b) : w'.cell? ⟨c, o, none⟩ = w.cell? ⟨c, o, none⟩ := by
  simp only [World.cell?, h.2 c hc hb]

/-- A row of places as it lies: its slice, the places; not in block b. -/
abbrev LRow := Value × List LPl
def RowN (b : Nat) (w : World) (r : LRow) : Prop := ∃ sl cap, r.1 = .slice sl r.2.length cap ∧ (r.2 = [] ∨ ∃ c, sl = some ⟨c, 0, none⟩ ∧ PlAt w c 0 r.2 ∧ c ≠ b)
theorem RowN.kp {b C : Nat} {w w' : World} {r : LRow} (h : RowN b w r) (k : Kp1 b C w w') (hC : w.heap.size ≤ C) : RowN b w' r := by
  obtain ⟨sl, cap, e, h⟩ := h
  refine ⟨sl, cap, e, ?_⟩
  rcases h with h | ⟨c, es, h, hb⟩
  · exact .inl h
  · refine .inr ⟨c, es, ⟨Nat.lt_of_lt_of_le h.lt k.1, fun i hi => ?_⟩, hb⟩
    have hl := Nat.lt_of_lt_of_le h.lt hC
    exact ⟨(k.cell hl hb).trans (h.cell i hi).1, (k.cell hl hb).trans (h.cell i hi).2⟩
/-- The cells of the slices: those of the rows, the rest none. -/
def rowsA (rows : List LRow) (n : Nat) : Array Value := (rows.map (fun r => r.1) ++ List.replicate (n - rows.length) (Value.slice none 0 0)).toArray
def ChB (w : World) (b : Nat) (vs : Array Value) : Prop := w.heap[b]? = some (.cells vs 30)
theorem ChB.lt {w : World} {b : Nat} {vs : Array Value} (h : ChB w b vs) : b < w.heap.size := (Array.getElem?_eq_some_iff.1 h).1
theorem ChB.below {w w' : World} {b : Nat} {vs : Array Value} (h : ChB w b vs) (hb : Below w.heap.size w w') : ChB w' b vs := (hb.block b h.lt).trans h
theorem ChB.cell {w : World} {b : Nat} {vs : Array Value} (h : ChB w b vs) (i : Nat) : w.cell? ⟨b, i, none⟩ = vs[i]? := by
  unfold ChB at h; simp [World.cell?, h]
theorem ChB.frozen {w : World} {b : Nat} {vs : Array Value} (h : ChB w b vs) (i : Nat) : w.frozen? ⟨b, i, none⟩ = false := by
  unfold ChB at h; simp [World.frozen?, h]
theorem ChB.set {w : World} {b : Nat} {vs : Array Value} (h : ChB w b vs) (i : Nat) (v : Value) : ChB (w.setCell ⟨b, i, none⟩ v) b (vs.setIfInBounds i v) := heap_setCell_same w b i vs 30 v h
theorem rowsA_size (rows : List LRow) (n : Nat) (h : rows.length ≤ n) : (rowsA rows n).size = n := by simp [rowsA]; omega
theorem rowsA_nil (n : Nat) : rowsA [] n = (List.replicate n (Value.slice none 0 0)).toArray := by simp [rowsA]
theorem rowsA_at (rows : List LRow) (n : Nat) (h : rows.length < n) : (rowsA rows n)[rows.length]? = some (.slice none 0 0) := by
  simp only [rowsA, List.getElem?_toArray]
  rw [List.getElem?_append_right (by simp)]
  simp [show 0 < n - rows.length by omega]
theorem rowsA_get (rows : List LRow) (n i : Nat) (h : i < rows.length) : (rowsA rows n)[i]? = some rows[i].1 := by
  simp only [rowsA, List.getElem?_toArray]
  rw [List.getElem?_append_left (by simpa using h)]
  simp [h]
theorem rowsA_step (rows : List LRow) (n : Nat) (h : rows.length < n) (r : LRow) : (rowsA rows n).setIfInBounds rows.length r.1 = rowsA (rows ++ [r]) n := by
  obtain ⟨k, hk⟩ : ∃ k, n - rows.length = k + 1 := ⟨n - rows.length - 1, by omega⟩
  have hk' : n - (rows ++ [r]).length = k := by simp; omega
  unfold rowsA
  rw [hk, hk', List.replicate_succ, List.setIfInBounds_toArray]
  congr 1
  rw [List.set_append_right _ _ (by simp)]
  simp
theorem set_set (vs : Array Value) (i : Nat) (u v : Value) : (vs.setIfInBounds i u).setIfInBounds i v = vs.setIfInBounds i v := by simp
theorem set_self (vs : Array Value) (i : Nat) (v : Value) (h : vs[i]? = some v) : vs.setIfInBounds i v = vs := by
  apply Array.ext
  · simp
  · intro j h1 h2
    rw [Array.getElem_setIfInBounds (by simpa using h1)]
    split
    · rename_i e
      subst e
      rw [Array.getElem?_eq_getElem h2] at h
      exact (Option.some.inj h).symm
    · rfl
theorem set_at (vs : Array Value) (i : Nat) (v : Value) (h : i < vs.size) : (vs.setIfInBounds i v)[i]? = some v := by
  rw [Array.getElem?_setIfInBounds_self_of_lt h]

theorem info27 : (Try.prog.info? 30).map (fun i => (i.zero, i.size, i.bytes)) = some (some (.slice none 0 0), 1, 24) := by kernel_rfl
theorem info34 : (Try.prog.info? 62).map (fun i => (i.zero, i.size, i.bytes)) = some (some (.agg #[.int .i64 0, .int .i64 0]), 2, 16) := by kernel_rfl
theorem made27 (n : Nat) : madeCells #[Value.slice none 0 0] n = rowsA [] n := by
  apply Array.toList_inj.1
  rw [toList_madeCells_one, rowsA_nil]
theorem make27 (n : Nat) (h : n ≤ 1048576) (w : World) :
    Sem.run Try.prog (Instr.makeSlice 56 (.int .i64 (n : Int)) (.int .i64 (n : Int))) w = .ok (.slice (some ⟨w.heap.size, 0, none⟩) n n) (w.alloc (.cells (rowsA [] n) 30)) := by
  obtain ⟨i, h1, h2, h3, h4⟩ := info_parts info27
  have := run_make (P := Try.prog) w 56 30 i _ Try.underlying56 h1 h2 .i64 .i64 (n : Int) (n : Int) (by omega) (Int.le_refl _) (by rw [h4]; omega) (by omega)
  rw [this, h3, ← made27]
  simp [Value.cells]
theorem own_pls {w : World} {B : Nat} {v : Value} {pl : List LPl} (h : w.ownsRow B 62 2 v pl.length (enCells pl)) : ∃ sl cap, v = .slice sl pl.length cap ∧ (pl = [] ∨ ∃ c, sl = some ⟨c, 0, none⟩ ∧ PlAt w c 0 pl ∧ B ≤ c) := by
  rcases h.2 with ⟨hv, h0⟩ | ⟨g, cap, cur, hv, hb, hg, _⟩
  · exact ⟨none, 0, by rw [hv, h0], .inl (List.eq_nil_of_length_eq_zero h0)⟩
  · refine ⟨_, cap, hv, .inr ⟨g, rfl, ⟨(Array.getElem?_eq_some_iff.1 hg).1, fun i hi => ?_⟩, hb⟩⟩
    have e := enCells_at pl i hi
    subst hv
    rw [Nat.zero_add]
    exact ⟨by rw [h.cellAt (i * 2) (by omega), e.1], by rw [h.cellAt (i * 2 + 1) (by omega), e.2]⟩

theorem ChB.grow {w : World} {b : Nat} {vs : Array Value} (h : ChB w b vs) {o : Obj} {w' : World} {v : Value} (hg : (w.alloc o).grownBy w' v.ownBlock) (hv : v.ownBlock ≠ some b) : ChB w' b vs :=
  (hg.block b (by simp; exact Nat.lt_succ_of_lt h.lt) (fun e => hv e.symm)).trans ((Below.heap_alloc _ _ _ h.lt).trans h)
theorem Kp1.grow {b C : Nat} {w w' : World} {o : Obj} {v : Value} (hg : (w.alloc o).grownBy w' v.ownBlock) (hC : C ≤ w.heap.size) (hv : ∀ j, v.ownBlock = some j → C ≤ j) : Kp1 b C w w' :=
  ⟨by have := hg.size; simp at this; omega, fun c hc _ => (hg.block c (by simp; omega) (fun e => by have := hv c e.symm; omega)).trans (Below.heap_alloc _ _ _ (by omega))⟩
theorem own_set {w : World} {B : Nat} {e : TypeId} {m : Nat} {v : Value} {n : Nat} {xs : List Value} (h : w.ownsRow B e m v n xs) {b : Nat} (hb : v.ownBlock ≠ some b) (i : Nat) (u : Value) : (w.setCell ⟨b, i, none⟩ u).ownsRow B e m v n xs := by
  refine ⟨h.1, ?_⟩
  rcases h.2 with h | ⟨g, cap, cur, hv, hg, hh, r⟩
  · exact .inl h
  · refine .inr ⟨g, cap, cur, hv, hg, (Below.heap_setCell _ _ _ _ ?_).trans hh, r⟩
    subst hv
    intro e
    exact hb (by simp [Value.ownBlock, e])

/-- A slice of rows of places. -/
structure Rws (w : World) (sl : Option Addr) (rows : List LRow) : Prop where
  row : rows = [] ∨ ∃ c, sl = some ⟨c, 0, none⟩ ∧ c < w.heap.size ∧ ∀ i (h : i < rows.length), w.cell? ⟨c, i, none⟩ = some rows[i].1
  each : ∀ r ∈ rows, ∃ sl cap, r.1 = .slice sl r.2.length cap ∧ Pls w sl r.2
theorem Rws.below {w w' : World} {sl : Option Addr} {rows : List LRow} (h : Rws w sl rows) (hb : Below w.heap.size w w') : Rws w' sl rows := by
  refine ⟨?_, fun r hr => ?_⟩
  · rcases h.row with h | ⟨c, e, hl, h⟩
    · exact .inl h
    · exact .inr ⟨c, e, Nat.lt_of_lt_of_le hl hb.size, fun i hi => (hb.cell hl).trans (h i hi)⟩
  · obtain ⟨sl, cap, e, h⟩ := h.each r hr
    exact ⟨sl, cap, e, h.below hb⟩

theorem dom_le (rs : List LSt) (ps : List LPr) (id top : Int) (h : TabR rs ps) : (rs.flatMap (domF id top)).length ≤ 96 := by
  have h1 : ∀ l : List LSt, (∀ r ∈ l, r.2.2.2.length ≤ 8) → (l.flatMap (domF id top)).length ≤ 8 * l.length := by
    intro l
    induction l with
    | nil => intro _; simp
    | cons r t ih =>
      intro hl
      have a := ih (fun q hq => hl q (by simp [hq]))
      have b := hl r (by simp)
      have c : (domF id top r).length ≤ r.2.2.2.length := by
        unfold domF FF
        split
        · exact List.length_filter_le _ _
        · simp
      simp only [List.flatMap_cons, List.length_append, List.length_cons]
      omega
  have := h1 rs (fun r hr => (h.2.1 r hr).2.1.2)
  have := h.1.2
  omega
theorem chF_step (rs : List LSt) (top id : Int) (zs : List Int) (j : Nat) (h : j < zs.length) : ((zs.take (j + 1)).map fun c => ((id, c) : LPl)) = ((zs.take j).map fun c => (id, c)) ++ [(id, zs.getD j 0)] := by
  rw [List.take_succ_eq_append_getElem h, List.map_append]
  simp [h]

set_option maxRecDepth 100000 in
set_option maxHeartbeats 4000000 in
/-- impl.choicesOf, of a right table. -/
theorem ch_any (sl : Option Addr) (cap : Nat) (sl2 : Option Addr) (cap2 : Nat) (sl3 : Option Addr) (cap3 : Nat) (rs : List LSt) (ps : List LPr) (top : Int) (ids : List Int) (w : World) (hl : ids.length ≤ 400) (hz : Sts w sl rs) (TR0 : TabR rs ps) (hi : Ints w sl3 ids) :
    Calls Try.prog 24 #[TV sl rs.length cap sl2 ps.length cap2, .int .i64 top, .slice sl3 ids.length cap3] w fun e w' => ∃ b rows, e = .returned (.slice (some ⟨b, 0, none⟩) ids.length ids.length) ∧ rows.map (fun r => r.2) = ids.map (chF rs top) ∧ Rws w' (some ⟨b, 0, none⟩) rows ∧ Below w.heap.size w w' := by
  obtain ⟨i3, hi3, hd0, hd1, hd2⟩ := info_parts info34
  have HT := Lib.hid (TabAt.new w sl rs.length cap sl2 ps.length cap2)
  have E1 : Hid (∀ id W, Below w.heap.size w W → Calls Try.prog 37 #[TV sl rs.length cap sl2 ps.length cap2, .int .i64 id, .int .i64 top] W fun e w' => ∃ v, e = .returned v ∧ w'.ownsRow W.heap.size 2 1 v (rs.flatMap (domF id top)).length (valsZ (rs.flatMap (domF id top))) ∧ Below W.heap.size W w') := fun id W hW => din_any sl cap sl2 cap2 rs ps id top W (hz.below hW) TR0
  have DL := Lib.hid (fun id => dom_le rs ps id top TR0)
  have HI := Lib.hid hi
  have hmk := make27 ids.length (by omega)
  clear hz hi TR0
  generalize hN : ids.length = n at *
  have HN := Lib.hid hN
  clear hN
  generalize rs.length = rn at *
  generalize ps.length = pn at *
  have B0 := Lib.hid (bA (bA0 w (.cells #[.slice sl rn cap, .slice sl2 pn cap2] 26)) (.cells (rowsA [] n) 30))
  have X0 := Lib.hid (HT.out.below (bA0 (w.alloc (.cells #[.slice sl rn cap, .slice sl2 pn cap2] 26)) (.cells (rowsA [] n) 30)))
  have C0 := Lib.hid (show ChB ((w.alloc (.cells #[.slice sl rn cap, .slice sl2 pn cap2] 26)).alloc (.cells (rowsA [] n) 30)) (w.heap.size + 1) (rowsA [] n) by
    have := new_at (w.alloc (.cells #[.slice sl rn cap, .slice sl2 pn cap2] 26)) (.cells (rowsA [] n) 30)
    rwa [show (w.alloc (.cells #[.slice sl rn cap, .slice sl2 pn cap2] 26)).heap.size = w.heap.size + 1 by simp] at this)
  go_enter Try.func24, Try.ntmps24
  go_wp2
  generalize (w.alloc (.cells #[.slice sl rn cap, .slice sl2 pn cap2] 26)).alloc (.cells (rowsA [] n) 30) = wA at *
  clear HT
  go_loopw [17] (fun i wr => ∃ (k : Nat) (rows : List LRow), i = .int .i64 k ∧ k ≤ n ∧ Hid (rows.length = k ∧ rows.map (fun r => r.2) = (ids.take k).map (chF rs top)) ∧ Hid (ChB wr (w.heap.size + 1) (rowsA rows n)) ∧ Hid (∀ r ∈ rows, RowN (w.heap.size + 1) wr r) ∧ Hid (Below w.heap.size w wr) ∧ Hid (TabAt wr w.heap.size sl rn cap sl2 pn cap2)) (fun i _ => n - (intOf i).toNat)
  case atStart => exact ⟨0, [], rfl, Nat.zero_le _, ⟨rfl, rfl⟩, C0, (fun r hr => by cases hr), B0, X0⟩
  case round =>
    obtain ⟨k, rows, rfl, hk, RL, CB, RN, H2, XT⟩ := hrel
    have hk0 : (0 : Int) ≤ (k : Int) := by omega
    by_cases g1 : k < n
    · have g1' : (k : Int) < (n : Int) := by omega
      have hlt : k < ids.length := by rw [HN.out]; exact g1
      obtain ⟨c, o, rfl, ZI⟩ : ∃ c o, sl3 = some ⟨c, o, none⟩ ∧ IntsAt w c o ids := by
        rcases HI.out with e | h
        · rw [e] at hlt; simp at hlt
        · exact h
      have hc := (H2.out.cell (p := ⟨c, o + k, none⟩) ZI.1).trans (ZI.2 k hlt)
      have IS := Lib.hid (show (ids.take (k + 1)).map (chF rs top) = (ids.take k).map (chF rs top) ++ [chF rs top (ids.getD k 0)] by
        rw [List.take_succ_eq_append_getElem hlt, List.map_append]; simp [hlt])
      have E := Lib.hid (E1.out (ids.getD k 0) wr H2.out)
      have D8 := DL.out (ids.getD k 0)
      have CF := Lib.hid (show chF rs top (ids.getD k 0) = (rs.flatMap (domF (ids.getD k 0) top)).map fun c => (ids.getD k 0, c) from rfl)
      clear hlt ZI
      generalize ids.getD k 0 = x at *
      obtain ⟨t0, t1⟩ := XT.out.cells
      have tl := XT.out.lt
      generalize hzz : rs.flatMap (domF x top) = zs at *
      clear hzz
      have CT := CB.out.lt
      go_wp2_with fail
      refine E.out.mono ?_
      rintro e w3 ⟨v3, rfl, o3, b3⟩
      obtain ⟨s3, c3, rfl, z3⟩ := own_ints o3
      have Z3 := Lib.hid z3
      have ZB := Lib.hid (show ∀ c o, s3 = some ⟨c, o, none⟩ → c ≠ w.heap.size + 1 from fun c o e => by
        subst e
        rcases o3.2 with ⟨hv, _⟩ | ⟨g, cp, cur, hv, hb, _⟩
        · cases hv
        · cases hv; omega)
      have H3 := Lib.hid (bT H2.out b3)
      have CB3 := Lib.hid (CB.out.below b3)
      have X3 := Lib.hid (XT.out.below b3)
      have RN3 := Lib.hid (fun r hr => (RN.out r hr).kp (Kp1.of b3) (Nat.le_refl _))
      have RA := Lib.hid (rowsA_at rows n (by rw [RL.out.1]; exact g1))
      have RZ := Lib.hid (rowsA_size rows n (by rw [RL.out.1]; exact hk))
      have RS := Lib.hid (rowsA_step rows n (by rw [RL.out.1]; exact g1))
      rw [RL.out.1] at RA RS
      clear o3 z3 b3 E CB XT RN t0 t1 tl CT
      generalize rowsA rows n = vs0 at *
      generalize hq : zs.length = q at *
      have HQ := Lib.hid hq
      clear hq
      have C3 := Lib.hid (show ChB w3 (w.heap.size + 1) (vs0.setIfInBounds k (.slice none 0 0)) by rw [set_self _ _ _ RA.out]; exact CB3.out)
      have hw3 := CB3.out.lt
      go_wp2
      go_loopw [27] (fun j wq => ∃ (m : Nat) (v : Value), j = .int .i64 m ∧ m ≤ q ∧ Hid (ChB wq (w.heap.size + 1) (vs0.setIfInBounds k v)) ∧ Hid (wq.ownsRow w3.heap.size 62 2 v m (enCells ((zs.take m).map fun c => (x, c)))) ∧ Hid (Kp1 (w.heap.size + 1) w3.heap.size w3 wq) ∧ Hid (Below w.heap.size w wq)) (fun j _ => q - (intOf j).toNat)
      case atStart => exact ⟨0, _, rfl, Nat.zero_le _, C3, ⟨rfl, .inl ⟨rfl, rfl⟩⟩, Kp1.refl _ _ _, H3⟩
      case round =>
        obtain ⟨m, v, rfl, hm, CB, OR, KP, HB⟩ := hrel
        have hm0 : (0 : Int) ≤ (m : Int) := by omega
        by_cases g2 : m < q
        · have g2' : (m : Int) < (q : Int) := by omega
          have hlt : m < zs.length := by rw [HQ.out]; exact g2
          obtain ⟨e, p, rfl, ZI⟩ : ∃ e p, s3 = some ⟨e, p, none⟩ ∧ IntsAt w3 e p zs := by
            rcases Z3.out with e | h
            · rw [e] at hlt; simp at hlt
            · exact h
          have hzc := (KP.out.cell (o := p + m) ZI.1 (ZB.out _ _ rfl)).trans (ZI.2 m hlt)
          have FS := Lib.hid (show enCells ((zs.take m).map fun c => ((x, c) : LPl)) ++ [.int .i64 x, .int .i64 (zs.getD m 0)] = enCells ((zs.take (m + 1)).map fun c => ((x, c) : LPl)) by rw [chF_step rs top x zs m hlt, enCells_add])
          clear hlt ZI
          generalize zs.getD m 0 = z at *
          have hbc : wr.cell? ⟨w.heap.size + 1, k, none⟩ = some v := (CB.out.cell k).trans (set_at _ _ _ (by rw [RZ.out]; exact g1))
          have hbl := CB.out.lt
          have NE := Lib.hid (show v.ownBlock ≠ some (w.heap.size + 1) from fun e => by have := (OR.out.lt _ e).1; omega)
          obtain ⟨vsl, vcap, rfl⟩ := own_v OR.out
          generalize enCells ((zs.take m).map fun c => ((x, c) : LPl)) = xs at *
          have hks := KP.out.1
          go_wp2_with (first | (at_builtin; refine wpList_append_lies _ rfl (.tmp 36) (.tmp 40) 30 rfl w3.heap.size 62 i3 (.agg #[.int .i64 0, .int .i64 0]) 2 16 Try.underlying30 hi3 hd0 hd1 hd2 rfl (by decide) _ _ _ rfl (OR.out.alloc _) ⟨wr.heap.size, 0, none⟩ 1 1 [.int .i64 x, .int .i64 z] rfl rfl (cell_two_new _ _ _ _) (by intro u hu; simp at hu; rcases hu with rfl | rfl <;> rfl) (by decide) (by unfold maxLen; omega) (by omega) (by simp; omega) (wr.heap.size + 1) (by simp) ?_))
          intro g9 cap9 w9 own9 grow9 hg9 hlt9
          have OL := Lib.hid (show ∀ j, (Value.slice vsl m vcap).ownBlock = some j → w3.heap.size ≤ j from fun j hj => (OR.out.lt j hj).1)
          have NE9 := Lib.hid (show (Value.slice (some ⟨g9, 0, none⟩) (m + 1) cap9).ownBlock ≠ some (w.heap.size + 1) from fun e => by have := (own9.lt _ e).1; omega)
          have C9 := Lib.hid (show ChB (w9.setCell ⟨w.heap.size + 1, k, none⟩ (.slice (some ⟨g9, 0, none⟩) (m + 1) cap9)) (w.heap.size + 1) (vs0.setIfInBounds k (.slice (some ⟨g9, 0, none⟩) (m + 1) cap9)) by
            have := (CB.out.grow grow9 NE.out).set k (.slice (some ⟨g9, 0, none⟩) (m + 1) cap9)
            rwa [set_set] at this)
          have K9 := Lib.hid ((KP.out.trans (Kp1.grow grow9 hks OL.out)).set k (.slice (some ⟨g9, 0, none⟩) (m + 1) cap9))
          have B9 := Lib.hid (((bA HB.out (.cells #[.int .i64 x, .int .i64 z] 62)).grown grow9 (by have := HB.out.size; simp; omega) (fun j hj => by have := OL.out j hj; omega)).setCell (p := ⟨w.heap.size + 1, k, none⟩) (Nat.le_add_right _ _) (.slice (some ⟨g9, 0, none⟩) (m + 1) cap9))
          rw [FS.out] at own9
          have O9 := Lib.hid (own_set own9 NE9.out k (.slice (some ⟨g9, 0, none⟩) (m + 1) cap9))
          have CW := CB.out.grow grow9 NE.out
          have wc : w9.cell? ⟨w.heap.size + 1, k, none⟩ = some (.slice vsl m vcap) := (CW.cell k).trans (set_at _ _ _ (by rw [RZ.out]; exact g1))
          have wf := CW.frozen k
          have wl := CW.lt
          clear own9 grow9 hg9 hlt9 CB OR KP HB OL NE NE9 CW hbc FS
          go_wp2
          go_roundw
          case rel => exact ⟨m + 1, _, by go_num, by omega, C9, O9, K9, B9⟩
          case measure => simp [intOf]; omega
        · have g2' : ¬ (m : Int) < (q : Int) := by omega
          have em : zs.take m = zs := List.take_of_length_le (by rw [HQ.out]; omega)
          have emq : m = (zs.map fun c => ((x, c) : LPl)).length := by simp; rw [HQ.out]; omega
          have O9 : Hid (wr.ownsRow w3.heap.size 62 2 v (zs.map fun c => ((x, c) : LPl)).length (enCells (zs.map fun c => ((x, c) : LPl)))) := by
            have := OR.out
            rw [em, emq] at this
            exact this
          have RNN : Hid (∀ r ∈ rows ++ [(v, zs.map fun c => ((x, c) : LPl))], RowN (w.heap.size + 1) wr r) := fun r hr => by
            rcases List.mem_append.1 hr with hr | hr
            · exact (RN3.out r hr).kp KP.out (Nat.le_refl _)
            · rw [List.mem_singleton.1 hr]
              obtain ⟨sl9, cap9, e9, h9⟩ := own_pls O9.out
              refine ⟨sl9, cap9, e9, ?_⟩
              rcases h9 with h9 | ⟨c9, es, p9, hb9⟩
              · exact .inl h9
              · exact .inr ⟨c9, es, p9, by omega⟩
          have CBN : Hid (ChB wr (w.heap.size + 1) (rowsA (rows ++ [(v, zs.map fun c => ((x, c) : LPl))]) n)) := by
            have := CB.out
            rw [RS.out (v, zs.map fun c => ((x, c) : LPl))] at this
            exact this
          have RLN : Hid ((rows ++ [(v, zs.map fun c => ((x, c) : LPl))]).length = k + 1 ∧ (rows ++ [(v, zs.map fun c => ((x, c) : LPl))]).map (fun r => r.2) = (ids.take (k + 1)).map (chF rs top)) := ⟨by simp [RL.out.1], by rw [List.map_append, RL.out.2, IS.out, CF.out]; rfl⟩
          have XN : Hid (TabAt wr w.heap.size sl rn cap sl2 pn cap2) := (KP.out.2 w.heap.size (by omega) (by omega)).trans X3.out
          clear em emq O9 CB OR KP RS RA RZ
          go_wp2
          go_roundw
          case rel => exact ⟨k + 1, _, by go_num, by omega, RLN, CBN, RNN, HB, XN⟩
          case measure => simp [intOf]; omega
    · have g1' : ¬ (k : Int) < (n : Int) := by omega
      have P : Hid (rows.map (fun r => r.2) = ids.map (chF rs top) ∧ Rws wr (some ⟨w.heap.size + 1, 0, none⟩) rows ∧ Below w.heap.size w wr) := by
        refine ⟨?_, ⟨.inr ⟨_, rfl, CB.out.lt, fun i hi => ?_⟩, fun r hr => ?_⟩, H2.out⟩
        · have := RL.out.2
          rwa [List.take_of_length_le (by rw [HN.out]; omega)] at this
        · rw [CB.out.cell i, rowsA_get rows n i hi]
        · obtain ⟨sl9, cap9, e9, h9⟩ := RN.out r hr
          refine ⟨sl9, cap9, e9, ?_⟩
          rcases h9 with h9 | ⟨c9, es, p9, hb9⟩
          · exact .inl h9
          · exact .inr ⟨c9, 0, es, p9⟩
      clear RL CB RN
      go_wp2
      go_ret
      exact ⟨_, rfl, rows, P.out⟩

end Go.Proofs.Ytgfclllfkpblnaa
