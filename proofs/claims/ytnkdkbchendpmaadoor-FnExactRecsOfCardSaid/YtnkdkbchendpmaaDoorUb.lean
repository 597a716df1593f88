/-
  RECORDS ONE BEHIND THE OTHER: as the program reads them.
-/
import Derived.Test.YtnkdkbchendpmaaDoorUa
import Derived.Test.YtnkdkbchendpmaaDoorDj
import Derived.Deep.LoopGhost
namespace Go.Proofs.YtnkdkbchendpmaaDoor
open Go.RowKit
set_option linter.unusedVariables false

theorem own_setg {w : World} {B : Nat} {e : TypeId} {m : Nat} {v : Value} {n : Nat} {xs : List Value} (h : w.ownsRow B e m v n xs) {b : Nat} (hb : b < B) (i : Nat) (u : Value) : (w.setCell ⟨b, i, none⟩ u).ownsRow B e m v n xs := by
  refine ⟨h.1, ?_⟩
  rcases h.2 with h | ⟨g, cap, cur, hv, hg, hh, r⟩
  · exact .inl h
  · exact .inr ⟨g, cap, cur, hv, hg, (Below.heap_setCell _ _ _ _ (show g ≠ b by omega)).trans hh, r⟩
theorem RecsIn.set {B : Nat} {w : World} {v : Value} {rs : List (Int × Value × List Int)} (h : RecsIn B w v rs) {b : Nat} (hb : b < B) (i : Nat) (u : Value) : RecsIn B (w.setCell ⟨b, i, none⟩ u) v rs :=
  ⟨own_setg h.row hb i u, fun r hr => ⟨own_setg (h.each r hr).1 hb i u, (h.each r hr).2⟩⟩
theorem RecsIn.mono {B B' : Nat} {w : World} {v : Value} {rs : List (Int × Value × List Int)} (h : RecsIn B w v rs) (hB : B' ≤ B) : RecsIn B' w v rs :=
  ⟨own_mono h.row hB, fun r hr => ⟨own_mono (h.each r hr).1 hB, (h.each r hr).2⟩⟩
theorem RecsIn.form {B : Nat} {w : World} {v : Value} {rs : List (Int × Value × List Int)} (h : RecsIn B w v rs) : ∃ sl cap, v = .slice sl rs.length cap := by
  rcases h.row.2 with ⟨rfl, h0⟩ | ⟨g, cap, cur, rfl, _⟩
  · exact ⟨none, 0, by rw [h0]⟩
  · exact ⟨_, cap, rfl⟩
/-- The records without where they lie. -/
def bare (rs : List (Int × Value × List Int)) : List (Int × List Int) := rs.map fun r => (r.1, r.2.2)
/-- The answer under way, in block b: a list of records, how many bytes, a code. -/
structure RL (b : Nat) (w0 : World) (v : Value) (rs : List (Int × Value × List Int)) (u c : Int) (w : World) : Prop where
  blk : w.heap[b]? = some (.cells #[v, .int .i64 u, .int .i64 c] 30)
  recs : RecsIn (b + 1) w v rs
  low : Below b w0 w
  base : b = w0.heap.size
theorem RL.lt {b : Nat} {w0 : World} {v : Value} {rs : List (Int × Value × List Int)} {u c : Int} {w : World} (h : RL b w0 v rs u c w) : b < w.heap.size := (Array.getElem?_eq_some_iff.1 h.blk).1
theorem RL.cells {b : Nat} {w0 : World} {v : Value} {rs : List (Int × Value × List Int)} {u c : Int} {w : World} (h : RL b w0 v rs u c w) : w.cell? ⟨b, 0, none⟩ = some v ∧ w.cell? ⟨b, 1, none⟩ = some (.int .i64 u) ∧ w.cell? ⟨b, 2, none⟩ = some (.int .i64 c) ∧ (∀ o, w.frozen? ⟨b, o, none⟩ = false) ∧ b < w.heap.size := by
  have h' := h.blk
  refine ⟨?_, ?_, ?_, fun o => ?_, h.lt⟩
  · simp [World.cell?, h']
  · simp [World.cell?, h']
  · simp [World.cell?, h']
  · simp [World.frozen?, h']
theorem RL.new (w : World) : RL w.heap.size w (.slice none 0 0) [] 0 0 (w.alloc (.cells #[.slice none 0 0, .int .i64 0, .int .i64 0] 30)) :=
  ⟨by show (w.heap.push _)[w.heap.size]? = _; simp, ⟨⟨rfl, .inl ⟨rfl, rfl⟩⟩, by simp⟩, bA0 _ _, rfl⟩
theorem RL.below {b : Nat} {w0 : World} {v : Value} {rs : List (Int × Value × List Int)} {u c : Int} {w w' : World} (h : RL b w0 v rs u c w) (hb : Below w.heap.size w w') : RL b w0 v rs u c w' :=
  ⟨(hb.block b h.lt).trans h.blk, h.recs.below hb, h.low.trans (hb.mono (Nat.le_of_lt h.lt)), h.base⟩
theorem RL.alloc {b : Nat} {w0 : World} {v : Value} {rs : List (Int × Value × List Int)} {u c : Int} {w : World} (h : RL b w0 v rs u c w) (o : Obj) : RL b w0 v rs u c (w.alloc o) := h.below (bA0 w o)
theorem RL.setU {b : Nat} {w0 : World} {v : Value} {rs : List (Int × Value × List Int)} {u c : Int} {w : World} (h : RL b w0 v rs u c w) (u' : Int) : RL b w0 v rs u' c (w.setCell ⟨b, 1, none⟩ (.int .i64 u')) :=
  ⟨heap_setCell_same w b 1 _ 30 _ h.blk, h.recs.set (Nat.lt_succ_self _) 1 _, h.low.setCell (Nat.le_refl _) _, h.base⟩
theorem RL.setC {b : Nat} {w0 : World} {v : Value} {rs : List (Int × Value × List Int)} {u c : Int} {w : World} (h : RL b w0 v rs u c w) (c' : Int) : RL b w0 v rs u c' (w.setCell ⟨b, 2, none⟩ (.int .i64 c')) :=
  ⟨heap_setCell_same w b 2 _ 30 _ h.blk, h.recs.set (Nat.lt_succ_self _) 2 _, h.low.setCell (Nat.le_refl _) _, h.base⟩
theorem RL.own_ne {b : Nat} {w0 : World} {v : Value} {rs : List (Int × Value × List Int)} {u c : Int} {w : World} (h : RL b w0 v rs u c w) : ∀ j, v.ownBlock = some j → b + 1 ≤ j ∧ j < w.heap.size := fun j hj => h.recs.row.lt j hj
theorem RL.store {b : Nat} {w0 : World} {v v' : Value} {rs : List (Int × Value × List Int)} {u c : Int} {w w' : World} (h : RL b w0 v rs u c w) (k : Int) (y : Value) (zs : List Int) (hu : w.ownsRow (b + 1) 2 1 y zs.length (valsZ zs)) (hr : recR k zs = true)
    (hg : w.grownBy w' v.ownBlock) (hn : w'.ownsRow (b + 1) 28 2 v' (rs.length + 1) (recCells rs ++ [.int .i64 k, y])) : RL b w0 v' (rs ++ [(k, y, zs)]) u c (w'.setCell ⟨b, 0, none⟩ v') := by
  have hb : w'.heap[b]? = w.heap[b]? := hg.block b h.lt (fun e => by have := h.own_ne b e.symm; omega)
  exact ⟨heap_setCell_same w' b 0 _ 30 _ (hb.trans h.blk), (h.recs.add k y zs hu hr hg hn).set (Nat.lt_succ_self _) 0 _,
    (h.low.grown hg (Nat.le_of_lt h.lt) (fun j hj => by have := h.own_ne j hj; omega)).setCell (Nat.le_refl _) _, h.base⟩
theorem two_new2 (w : World) (o : Obj) (a b : Value) (t : TypeId) : ∀ (j : Nat) (u : Value), [a, b][j]? = some u → ((w.alloc o).alloc (.cells #[a, b] t)).cell? ((⟨w.heap.size + 1, 0, none⟩ : Addr).add j) = some u := by
  have := cell_two_new (w.alloc o) a b t
  rwa [show (w.alloc o).heap.size = w.heap.size + 1 by simp] at this
abbrev OV (v : Value) (u c : Int) : Value := .agg #[v, .int .i64 u, .int .i64 c]
/-- What is answered of a text t. -/
def RcPost (t : List UInt8) (w : World) (e : Ending) (w' : World) : Prop :=
  ∃ (rs : List (Int × Value × List Int)) (v : Value) (u : Nat) (c : Int), Reads t (bare rs) u c ∧ e = .returned (OV v u c) ∧ RecsIn w.heap.size w' v rs ∧ Below w.heap.size w w'
/-- The answer's block, nothing told yet. -/
abbrev Z30 : Obj := .cells #[.slice none 0 0, .int .i64 0, .int .i64 0] 30
theorem RL.res {b : Nat} {w : World} {v : Value} {rs : List (Int × Value × List Int)} {u c : Int} {wr : World} (h : RL b (w.alloc Z30) v rs u c wr) :
    wr.cell? ⟨w.heap.size, 0, none⟩ = some (.slice none 0 0) ∧ wr.cell? ⟨w.heap.size, 1, none⟩ = some (.int .i64 0) ∧ wr.cell? ⟨w.heap.size, 2, none⟩ = some (.int .i64 0) ∧ (∀ o, wr.frozen? ⟨w.heap.size, o, none⟩ = false) ∧ w.heap.size < wr.heap.size := by
  have hb := h.base
  have hz : (w.alloc Z30).heap.size = w.heap.size + 1 := by simp
  have hlt := h.lt
  have k : wr.heap[w.heap.size]? = some Z30 := (h.low.block w.heap.size (by omega)).trans (by show (w.heap.push _)[w.heap.size]? = _; simp)
  refine ⟨?_, ?_, ?_, fun o => ?_, by omega⟩
  · simp [World.cell?, k]
  · simp [World.cell?, k]
  · simp [World.cell?, k]
  · simp [World.frozen?, k]
theorem RL.fin {b : Nat} {w : World} {v : Value} {rs : List (Int × Value × List Int)} {u : Nat} {c : Int} {wr : World} (h : RL b (w.alloc Z30) v rs u c wr) {t : List UInt8} (hr : Reads t (bare rs) u c) :
    wr.cell? ⟨w.heap.size, 0, none⟩ = some (.slice none 0 0) ∧ wr.cell? ⟨w.heap.size, 1, none⟩ = some (.int .i64 0) ∧ wr.cell? ⟨w.heap.size, 2, none⟩ = some (.int .i64 0) ∧ (∀ o, wr.frozen? ⟨w.heap.size, o, none⟩ = false) ∧ w.heap.size < wr.heap.size ∧
    (let W := (((wr.setCell ⟨w.heap.size, 0, none⟩ v).setCell ⟨w.heap.size, 1, none⟩ (.int .i64 u)).setCell ⟨w.heap.size, 2, none⟩ (.int .i64 c)); W.cell? ⟨w.heap.size, 0, none⟩ = some v ∧ W.cell? ⟨w.heap.size, 1, none⟩ = some (.int .i64 u) ∧ W.cell? ⟨w.heap.size, 2, none⟩ = some (.int .i64 c) ∧ Hid (RcPost t w (.returned (OV v u c)) W)) := by
  have hb := h.base
  have hz : (w.alloc Z30).heap.size = w.heap.size + 1 := by simp
  have hlt := h.lt
  have k : wr.heap[w.heap.size]? = some Z30 := (h.low.block w.heap.size (by omega)).trans (by show (w.heap.push _)[w.heap.size]? = _; simp)
  have k3 := heap_setCell_same _ w.heap.size 2 _ 30 (.int .i64 c) (heap_setCell_same _ w.heap.size 1 _ 30 (.int .i64 u) (heap_setCell_same wr w.heap.size 0 _ 30 v k))
  refine ⟨?_, ?_, ?_, fun o => ?_, by omega, ?_, ?_, ?_, ?_⟩
  · simp [World.cell?, k]
  · simp [World.cell?, k]
  · simp [World.cell?, k]
  · simp [World.frozen?, k]
  · simp only [World.cell?, k3]; rfl
  · simp only [World.cell?, k3]; rfl
  · simp only [World.cell?, k3]; rfl
  · have lo : Below w.heap.size w wr := (bA0 w Z30).trans (h.low.mono (by omega))
    exact ⟨rs, v, u, c, hr, rfl, (((h.recs.set (by omega) 0 _).set (by omega) 1 _).set (by omega) 2 _).mono (by omega), ((lo.setCell (Nat.le_refl _) _).setCell (Nat.le_refl _) _).setCell (Nat.le_refl _) _⟩

theorem RcPost.below {t : List UInt8} {w W W' : World} {x : Value} (h : RcPost t w (.returned x) W) (hb : Below W.heap.size W W') : RcPost t w (.returned x) W' := by
  obtain ⟨rs, v, u, c, h1, h2, h3, h4⟩ := h
  exact ⟨rs, v, u, c, h1, h2, h3.below hb, bT h4 hb⟩
theorem RL.finA {b : Nat} {w : World} {v : Value} {rs : List (Int × Value × List Int)} {u : Nat} {c : Int} {wr : World} (h : RL b (w.alloc Z30) v rs u c wr) {t : List UInt8} (hr : Reads t (bare rs) u c) (o : Obj) :
    (let W := ((((wr.setCell ⟨w.heap.size, 0, none⟩ v).setCell ⟨w.heap.size, 1, none⟩ (.int .i64 u)).setCell ⟨w.heap.size, 2, none⟩ (.int .i64 c))).alloc o; W.cell? ⟨w.heap.size, 0, none⟩ = some v ∧ W.cell? ⟨w.heap.size, 1, none⟩ = some (.int .i64 u) ∧ W.cell? ⟨w.heap.size, 2, none⟩ = some (.int .i64 c) ∧ Hid (RcPost t w (.returned (OV v u c)) W)) := by
  obtain ⟨-, -, -, -, ql, z0, z1, z2, P⟩ := h.fin hr
  have hl : w.heap.size < (((wr.setCell ⟨w.heap.size, 0, none⟩ v).setCell ⟨w.heap.size, 1, none⟩ (.int .i64 u)).setCell ⟨w.heap.size, 2, none⟩ (.int .i64 c)).heap.size := by simpa [World.setCell] using ql
  exact ⟨((bA0 _ o).cell hl).trans z0, ((bA0 _ o).cell hl).trans z1, ((bA0 _ o).cell hl).trans z2, P.out.below (bA0 _ o)⟩
theorem RL.grownAt {b : Nat} {w0 : World} {v : Value} {rs : List (Int × Value × List Int)} {u c : Int} {w w' : World} (h : RL b w0 v rs u c w) (hg : w.grownBy w' v.ownBlock) : w'.cell? ⟨b, 0, none⟩ = some v ∧ w'.cell? ⟨b, 1, none⟩ = some (.int .i64 u) ∧ w'.cell? ⟨b, 2, none⟩ = some (.int .i64 c) ∧ (∀ o, w'.frozen? ⟨b, o, none⟩ = false) ∧ b < w'.heap.size := by
  have h' : w'.heap[b]? = _ := (hg.block b h.lt (fun e => by have := h.own_ne b e.symm; omega)).trans h.blk
  refine ⟨?_, ?_, ?_, fun o => ?_, (Array.getElem?_eq_some_iff.1 h').1⟩
  · simp [World.cell?, h']
  · simp [World.cell?, h']
  · simp [World.cell?, h']
  · simp [World.frozen?, h']
/-- The record just read keeps its place while the list grows. -/
theorem RL.nextAt {b : Nat} {w0 : World} {v : Value} {rs : List (Int × Value × List Int)} {u c : Int} {w w' : World} (h : RL b w0 v rs u c w) (x0 x1 x2 x3 : Value) (o : Obj) (hg : ((w.alloc (.cells #[x0, x1, x2, x3] 36)).alloc o).grownBy w' v.ownBlock) : w'.cell? ⟨w.heap.size, 2, none⟩ = some x2 ∧ w.heap.size < w'.heap.size := by
  have h1 : ((w.alloc (.cells #[x0, x1, x2, x3] 36)).alloc o).heap[w.heap.size]? = some (.cells #[x0, x1, x2, x3] 36) := by
    show ((w.heap.push _).push _)[w.heap.size]? = _
    rw [Array.getElem?_push_lt (by simp)]; simp
  have h' := (hg.block w.heap.size (by simp; omega) (fun e => by have := h.own_ne _ e.symm; omega)).trans h1
  exact ⟨by simp [World.cell?, h'], (Array.getElem?_eq_some_iff.1 h').1⟩

set_option maxRecDepth 100000 in
set_option maxHeartbeats 1000000 in
theorem rcs_long (s : ByteArray) (hs : 20000 < s.size) (w : World) : Calls Tryd.prog 12 #[.string s] w fun e w' => RcPost s.data.toList w e w' := by
  have hs' : (20000 : Int) < (s.size : Int) := by omega
  have P : Hid (∀ w' , Below w.heap.size w w' → RcPost s.data.toList w (.returned (OV (.slice none 0 0) 0 2)) w') := fun w' hb => by
    obtain ⟨f1, f2⟩ := rdF_long (t := s.data.toList) (by simpa using hs)
    have hne : s.data.toList ≠ [] := fun e => by have := congrArg List.length e; rw [show s.data.toList.length = s.size by simp, List.length_nil] at this; omega
    have := Reads.stop hne f2
    rw [f1] at this
    exact ⟨[], _, 0, 2, this, rfl, ⟨⟨rfl, .inl ⟨rfl, rfl⟩⟩, by simp⟩, hb⟩
  go_enter Tryd.func12, Tryd.ntmps12
  go_wp2
  exact bodyPost_ret (v := OV (.slice none 0 0) 0 2) (by simp [results, Tryd.results12, go_sem]) rfl (P.out _ (bA0 _ _))

set_option maxRecDepth 100000 in
set_option maxHeartbeats 1000000 in
theorem rcs_main (s : ByteArray) (hs : s.size ≤ 20000) (w : World) (ht : U8 w) : Calls Tryd.prog 12 #[.string s] w fun e w' => RcPost s.data.toList w e w' := by
  have hs' : ¬ (20000 : Int) < (s.size : Int) := by omega
  obtain ⟨i8, hi8, hd0, hd1, hd2⟩ := info_parts info28'
  have HT := Lib.hid ht
  have hlen : s.data.toList.length = s.size := by simp
  have HL := Lib.hid hlen
  clear ht hlen
  go_enter Tryd.func12, Tryd.ntmps12
  go_wp2_with fail
  have L0 : Hid (RL (w.heap.size + 1) (w.alloc Z30) (.slice none 0 0) [] 0 0 ((w.alloc Z30).alloc Z30)) := by have := RL.new (w.alloc Z30); rwa [show (w.alloc Z30).heap.size = w.heap.size + 1 by simp] at this
  go_loopg [] s.size (fun g wr => ∃ (v : Value) (rs : List (Int × Value × List Int)) (u : Nat), g + u = s.size ∧ rs.length ≤ u ∧ Hid (RL (w.heap.size + 1) (w.alloc Z30) v rs u 0 wr) ∧ Hid (∀ rs' u' c', Reads (s.data.toList.drop u) rs' u' c' → Reads s.data.toList (bare rs ++ rs') (u + u') c'))
  case atStart => exact ⟨_, [], 0, rfl, Nat.le_refl _, L0, fun rs' u' c' h => by simpa [bare] using h⟩
  case round =>
    obtain ⟨v, rs, u, hg, hru, L1, HR⟩ := hrel
    obtain ⟨sl, cap, rfl⟩ := L1.out.recs.form
    generalize hN : rs.length = n at *
    have HN := Lib.hid hN
    clear hN
    obtain ⟨d0, d1, d2, df, dl⟩ := L1.out.cells
    clear L0
    by_cases hu : u < s.size
    · have hu' : (u : Int) < (s.size : Int) := by omega
      have hu0 : (0 : Int) ≤ (u : Int) := by omega
      have ED : Hid ((s.extract u s.size).data.toList = s.data.toList.drop u) := by
        show _ = _
        rw [Lib.extract_data]; exact List.take_of_length_le (by simp)
      have RD : Hid (∀ w1, Below wr.heap.size wr w1 → Calls Tryd.prog 16 #[.string (s.extract u s.size)] w1 fun e w' => RdPost (s.data.toList.drop u) w1 e w') := fun w1 hb => by
        have := ird_any (s.extract u s.size) w1 (HT.out.below ((bA0 w Z30).trans ((L1.out.low.mono (by omega)).trans (hb.mono (by omega)))))
        rwa [ED.out] at this
      clear ED
      go_wp2_with fail
      refine (RD.out wr (Below.refl _ _)).mono ?_
      rintro e w1 (⟨n1, q1, k1, zs, v1, g1, b1, rfl, own1, bl1⟩ | ⟨hno, rfl, bl1⟩)
      · have L2 := Lib.hid (L1.out.below bl1)
        have O2 : Hid (w1.ownsRow (w.heap.size + 2) 2 1 v1 zs.length (valsZ zs)) := own_mono own1 (by omega)
        have eu : (1 + ((numB n1).length : Int) + (n1 : Int) + 4) = ((usedN n1 : Nat) : Int) := by unfold usedN; omega
        have hm := g1.used
        have hm0 : 0 < usedN n1 := by unfold usedN; omega
        rw [List.length_drop, HL.out] at hm
        have HR2 : Hid (∀ rs' u' c', Reads (s.data.toList.drop (u + usedN n1)) rs' u' c' → Reads s.data.toList (bare rs ++ ((k1, zs) :: rs')) (u + usedN n1 + u') c') := fun rs' u' c' h => by
          have := HR.out _ _ _ (Reads.step g1 b1 (by rw [List.drop_drop]; exact h))
          rwa [← Nat.add_assoc] at this
        have RR := Lib.hid b1.1
        rw [eu]
        clear eu own1 bl1 g1 b1 d0 d1 d2 df dl L1 HR RD
        obtain ⟨d0, d1, d2, df, dl⟩ := L2.out.cells
        generalize usedN n1 = m at *
        obtain ⟨sl1, cap1, rfl, -⟩ := own_ints O2.out
        have O3 := Lib.hid (O2.out.alloc (.cells #[.int .i64 k1, .slice sl1 zs.length cap1, .int .i64 m, .int .i64 0] 36))
        have L3 := Lib.hid (L2.out.alloc (.cells #[.int .i64 k1, .slice sl1 zs.length cap1, .int .i64 m, .int .i64 0] 36))
        have hown : Hid ((w1.alloc (.cells #[.int .i64 k1, .slice sl1 zs.length cap1, .int .i64 m, .int .i64 0] 36)).ownsRow (w.heap.size + 2) 28 2 (.slice sl n cap) n (recCells rs)) := by have := L3.out.recs.row; rwa [HN.out] at this
        have hn9 : n ≤ 20000 := by omega
        generalize hq : zs.length = q at *
        have HQ := Lib.hid hq
        clear hq
        have L4 := Lib.hid (L3.out.alloc (.cells #[.int .i64 k1, .slice sl1 q cap1] 28))
        have O4 := Lib.hid (O3.out.alloc (.cells #[.int .i64 k1, .slice sl1 q cap1] 28))
        go_wp2_with (first | (at_builtin; refine wpList_append_lies _ rfl (.tmp 27) (.tmp 30) 23 rfl (w.heap.size + 2) 28 i8 (.agg #[.int .i64 0, .slice none 0 0]) 2 32 Tryd.underlying23 hi8 hd0 hd1 hd2 rfl (by decide) _ _ _ rfl (hown.out.alloc _) ⟨w1.heap.size + 1, 0, none⟩ 1 1 [.int .i64 k1, .slice sl1 q cap1] rfl rfl (two_new2 _ _ _ _ _) (by intro u hu; simp at hu; rcases hu with rfl | rfl <;> rfl) (by decide) (by unfold maxLen; omega) (by omega) (by simp; omega) (w1.heap.size + 2) (by simp) ?_))
        intro g9 cap9 w9 own9 grow9 hg9 hlt9
        obtain ⟨e0, e1, e2, ef, el⟩ := L4.out.grownAt grow9
        obtain ⟨n2, nl⟩ := L2.out.nextAt _ _ _ _ _ grow9
        have L5 := Lib.hid ((L4.out.store k1 (.slice sl1 q cap1) zs (by have := O4.out; rwa [← HQ.out] at this ⊢) RR.out grow9 (by rw [HN.out]; exact own9)).setU ((u + m : Nat) : Int))
        have hne : w1.heap.size ≠ w.heap.size + 1 := by omega
        have hw : IntKind.i64.wrap ((u : Int) + (m : Int)) = ((u + m : Nat) : Int) := by rw [IntKind.wrap_i64]; omega
        clear own9 grow9 hg9 hlt9 L3 L4 O3 O4 hown O2 d0 d1 d2 df dl
        have HR3 : Hid (∀ rs' u' c', Reads (s.data.toList.drop (u + m)) rs' u' c' → Reads s.data.toList (bare (rs ++ [(k1, Value.slice sl1 q cap1, zs)]) ++ rs') (u + m + u') c') := fun rs' u' c' h => by
          have := HR2.out rs' u' c' h
          simpa [bare] using this
        have LN : Hid ((rs ++ [(k1, Value.slice sl1 q cap1, zs)]).length ≤ u + m) := by show _ ≤ _; rw [List.length_append, HN.out, List.length_singleton]; omega
        clear HR2
        go_wp2_with fail
        go_roundg (gk - m)
        case measure => omega
        case rel => exact ⟨_, rs ++ [(k1, Value.slice sl1 q cap1, zs)], u + m, by omega, LN.out, by rw [← Int.natCast_add]; exact L5, HR3⟩
      · have L2 := Lib.hid (L1.out.below bl1)
        have hc := rdF_ne (s.data.toList.drop u)
        have RS : Hid (Reads s.data.toList (bare rs) u (rdF (s.data.toList.drop u))) := by
          have := HR.out _ _ _ (Reads.stop (fun e => by have := congrArg List.length e; rw [List.length_drop, HL.out, List.length_nil] at this; omega) hno)
          rw [List.append_nil, Nat.add_zero] at this; exact this
        clear hno bl1 d0 d1 d2 df dl HR RD
        obtain ⟨d0, d1, d2, df, dl⟩ := L2.out.cells
        generalize rdF (s.data.toList.drop u) = c at *
        have hc' : (c != 0) = true := by simp [hc]
        obtain ⟨q0, q1, q2, qf, ql⟩ := L2.out.res
        obtain ⟨z0, z1, z2, P⟩ := (L2.out.setC c).finA RS.out (.cells #[.int .i64 0, .slice none 0 0, .int .i64 0, .int .i64 c] 36)
        clear L1
        go_wp2
        exact bodyPost_ret (v := OV (.slice sl n cap) u c) (by simp [results, Tryd.results12, go_sem, z0, z1, z2]) rfl P.out
    · have hu' : ¬ (u : Int) < (s.size : Int) := by omega
      obtain ⟨q0, q1, q2, qf, ql, z0, z1, z2, P⟩ := L1.out.fin (by
        have := HR.out [] 0 0 (by rw [List.drop_of_length_le (by rw [HL.out]; omega)]; exact Reads.done)
        simpa using this)
      go_wp2
      exact bodyPost_ret (v := OV (.slice sl n cap) u 0) (by simp [results, Tryd.results12, go_sem, z0, z1, z2]) rfl P.out

theorem rcs_any (s : ByteArray) (w : World) (ht : U8 w) : Calls Tryd.prog 12 #[.string s] w fun e w' => RcPost s.data.toList w e w' := by
  by_cases h : s.size ≤ 20000
  · exact rcs_main s h w ht
  · exact rcs_long s (by omega) w

end Go.Proofs.YtnkdkbchendpmaaDoor
