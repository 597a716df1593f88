/-
  RECORDS ONE BEHIND THE OTHER: as the program reads them, no two with their numbers in one row.
  TWO LISTS OF RECORDS HELD AGAINST EACH OTHER, one marked and held: the walks.
  THE LAW FnExactRecsOf: the walk.
-/
import Derived.Test.YtmffoannknkjkaaDoorBa
import Derived.Test.YtmffoannknkjkaaDoorRae
import Derived.Deep.RegionHeldLaw
namespace Go.Proofs.YtmffoannknkjkaaDoor
open Go.RowKit
set_option linter.unusedVariables false

/-- What is answered of a text t; no two records share memory. -/
def RcPostX (t : List UInt8) (w : World) (e : Ending) (w' : World) : Prop :=
  ∃ (rs : List (Int × Value × List Int)) (v : Value) (u : Nat) (c : Int), Reads t (bare rs) u c ∧ e = .returned (OV v u c) ∧ Apart rs ∧ RecsIn w.heap.size w' v rs ∧ Below w.heap.size w w'
theorem RL.finX {b : Nat} {w : World} {v : Value} {rs : List (Int × Value × List Int)} {u : Nat} {c : Int} {wr : World} (h : RL b (w.alloc Z30) v rs u c wr) {t : List UInt8} (hr : Reads t (bare rs) u c) (ap : Apart rs) :
    wr.cell? ⟨w.heap.size, 0, none⟩ = some (.slice none 0 0) ∧ wr.cell? ⟨w.heap.size, 1, none⟩ = some (.int .i64 0) ∧ wr.cell? ⟨w.heap.size, 2, none⟩ = some (.int .i64 0) ∧ (∀ o, wr.frozen? ⟨w.heap.size, o, none⟩ = false) ∧ w.heap.size < wr.heap.size ∧
    (let W := (((wr.setCell ⟨w.heap.size, 0, none⟩ v).setCell ⟨w.heap.size, 1, none⟩ (.int .i64 u)).setCell ⟨w.heap.size, 2, none⟩ (.int .i64 c)); W.cell? ⟨w.heap.size, 0, none⟩ = some v ∧ W.cell? ⟨w.heap.size, 1, none⟩ = some (.int .i64 u) ∧ W.cell? ⟨w.heap.size, 2, none⟩ = some (.int .i64 c) ∧ Hid (RcPostX t w (.returned (OV v u c)) W)) := by
  have hb := h.base
  have hz : (w.alloc Z30).heap.size = w.heap.size + 1 := by simp
  have hlt := h.lt
  have k : wr.heap[w.heap.size]? = some Z30 := (h.low.block w.heap.size (by omega)).trans (by show (w.heap.push _)[w.heap.size]? = _; simp)
  have k3 := heap_setCell_same _ w.heap.size 2 _ 37 (.int .i64 c) (heap_setCell_same _ w.heap.size 1 _ 37 (.int .i64 u) (heap_setCell_same wr w.heap.size 0 _ 37 v k))
  refine ⟨?_, ?_, ?_, fun o => ?_, by omega, ?_, ?_, ?_, ?_⟩
  · simp [World.cell?, k]
  · simp [World.cell?, k]
  · simp [World.cell?, k]
  · simp [World.frozen?, k]
  · simp only [World.cell?, k3]; rfl
  · simp only [World.cell?, k3]; rfl
  · simp only [World.cell?, k3]; rfl
  · have lo : Below w.heap.size w wr := (bA0 w Z30).trans (h.low.mono (by omega))
    exact ⟨rs, v, u, c, hr, rfl, ap, (((h.recs.set (by omega) 0 _).set (by omega) 1 _).set (by omega) 2 _).mono (by omega), ((lo.setCell (Nat.le_refl _) _).setCell (Nat.le_refl _) _).setCell (Nat.le_refl _) _⟩


theorem RcPostX.below {t : List UInt8} {w W W' : World} {x : Value} (h : RcPostX t w (.returned x) W) (hb : Below W.heap.size W W') : RcPostX t w (.returned x) W' := by
  obtain ⟨rs, v, u, c, h1, h2, ap, h3, h4⟩ := h
  exact ⟨rs, v, u, c, h1, h2, ap, h3.below hb, bT h4 hb⟩
theorem RL.finAX {b : Nat} {w : World} {v : Value} {rs : List (Int × Value × List Int)} {u : Nat} {c : Int} {wr : World} (h : RL b (w.alloc Z30) v rs u c wr) {t : List UInt8} (hr : Reads t (bare rs) u c) (ap : Apart rs) (o : Obj) :
    (let W := ((((wr.setCell ⟨w.heap.size, 0, none⟩ v).setCell ⟨w.heap.size, 1, none⟩ (.int .i64 u)).setCell ⟨w.heap.size, 2, none⟩ (.int .i64 c))).alloc o; W.cell? ⟨w.heap.size, 0, none⟩ = some v ∧ W.cell? ⟨w.heap.size, 1, none⟩ = some (.int .i64 u) ∧ W.cell? ⟨w.heap.size, 2, none⟩ = some (.int .i64 c) ∧ Hid (RcPostX t w (.returned (OV v u c)) W)) := by
  obtain ⟨-, -, -, -, ql, z0, z1, z2, P⟩ := h.finX hr ap
  have hl : w.heap.size < (((wr.setCell ⟨w.heap.size, 0, none⟩ v).setCell ⟨w.heap.size, 1, none⟩ (.int .i64 u)).setCell ⟨w.heap.size, 2, none⟩ (.int .i64 c)).heap.size := by simpa [World.setCell] using ql
  exact ⟨((bA0 _ o).cell hl).trans z0, ((bA0 _ o).cell hl).trans z1, ((bA0 _ o).cell hl).trans z2, P.out.below (bA0 _ o)⟩

set_option maxRecDepth 100000 in
set_option maxHeartbeats 1000000 in
theorem rcsX_long (s : ByteArray) (hs : 20000 < s.size) (w : World) : Calls Tryd.prog 22 #[.string s] w fun e w' => RcPostX s.data.toList w e w' := by
  have hs' : (20000 : Int) < (s.size : Int) := by omega
  have P : Hid (∀ w' , Below w.heap.size w w' → RcPostX s.data.toList w (.returned (OV (.slice none 0 0) 0 2)) w') := fun w' hb => by
    obtain ⟨f1, f2⟩ := rdF_long (t := s.data.toList) (by simpa using hs)
    have hne : s.data.toList ≠ [] := fun e => by have := congrArg List.length e; rw [show s.data.toList.length = s.size by simp, List.length_nil] at this; omega
    have := Reads.stop hne f2
    rw [f1] at this
    exact ⟨[], _, 0, 2, this, rfl, apart_nil, ⟨⟨rfl, .inl ⟨rfl, rfl⟩⟩, by simp⟩, hb⟩
  go_enter Tryd.func22, Tryd.ntmps22
  go_wp2
  exact bodyPost_ret (v := OV (.slice none 0 0) 0 2) (by simp [results, Tryd.results22, go_sem]) rfl (P.out _ (bA0 _ _))

set_option maxRecDepth 100000 in
set_option maxHeartbeats 1000000 in
theorem rcsX_main (s : ByteArray) (hs : s.size ≤ 20000) (w : World) (ht : U8 w) : Calls Tryd.prog 22 #[.string s] w fun e w' => RcPostX s.data.toList w e w' := by
  have hs' : ¬ (20000 : Int) < (s.size : Int) := by omega
  obtain ⟨i8, hi8, hd0, hd1, hd2⟩ := info_parts info28'
  have HT := Lib.hid ht
  have hlen : s.data.toList.length = s.size := by simp
  have HL := Lib.hid hlen
  clear ht hlen
  go_enter Tryd.func22, Tryd.ntmps22
  go_wp2_with fail
  have L0 : Hid (RL (w.heap.size + 1) (w.alloc Z30) (.slice none 0 0) [] 0 0 ((w.alloc Z30).alloc Z30)) := by have := RL.new (w.alloc Z30); rwa [show (w.alloc Z30).heap.size = w.heap.size + 1 by simp] at this
  go_loopg [] s.size (fun g wr => ∃ (v : Value) (rs : List (Int × Value × List Int)) (u : Nat), g + u = s.size ∧ rs.length ≤ u ∧ Hid (Apart rs) ∧ Hid (RL (w.heap.size + 1) (w.alloc Z30) v rs u 0 wr) ∧ Hid (∀ rs' u' c', Reads (s.data.toList.drop u) rs' u' c' → Reads s.data.toList (bare rs ++ rs') (u + u') c'))
  case atStart => exact ⟨_, [], 0, rfl, Nat.le_refl _, apart_nil, L0, fun rs' u' c' h => by simpa [bare] using h⟩
  case round =>
    obtain ⟨v, rs, u, hg, hru, AP, L1, HR⟩ := hrel
    obtain ⟨sl, cap, rfl⟩ := L1.out.recs.form
    generalize hN : rs.length = n at *
    have HN := Lib.hid hN
    clear hN
    obtain ⟨d0, d1, d2, df, dl⟩ := L1.out.cells
    clear L0
    by_cases hu : u < s.size
    · have hu' : (u : Int) < (s.size : Int) := by omega
      have hu0 : (0 : Int) ≤ (u : Int) := by omega
      have ED : Hid ((s.extract u s.size).data.toList = s.data.toList.drop u) := by
        show _ = _
        rw [Lib.extract_data]; exact List.take_of_length_le (by simp)
      have RD : Hid (∀ w1, Below wr.heap.size wr w1 → Calls Tryd.prog 32 #[.string (s.extract u s.size)] w1 fun e w' => RdPost (s.data.toList.drop u) w1 e w') := fun w1 hb => by
        have := ird_any (s.extract u s.size) w1 (HT.out.below ((bA0 w Z30).trans ((L1.out.low.mono (by omega)).trans (hb.mono (by omega)))))
        rwa [ED.out] at this
      clear ED
      go_wp2_with fail
      refine (RD.out wr (Below.refl _ _)).mono ?_
      rintro e w1 (⟨n1, q1, k1, zs, v1, g1, b1, rfl, own1, bl1⟩ | ⟨hno, rfl, bl1⟩)
      · have L2 := Lib.hid (L1.out.below bl1)
        have O2 : Hid (w1.ownsRow (w.heap.size + 2) 2 1 v1 zs.length (valsZ zs)) := own_mono own1 (by omega)
        have eu : (1 + ((numB n1).length : Int) + (n1 : Int) + 4) = ((usedN n1 : Nat) : Int) := by unfold usedN; omega
        have hm := g1.used
        have hm0 : 0 < usedN n1 := by unfold usedN; omega
        rw [List.length_drop, HL.out] at hm
        have HR2 : Hid (∀ rs' u' c', Reads (s.data.toList.drop (u + usedN n1)) rs' u' c' → Reads s.data.toList (bare rs ++ ((k1, zs) :: rs')) (u + usedN n1 + u') c') := fun rs' u' c' h => by
          have := HR.out _ _ _ (Reads.step g1 b1 (by rw [List.drop_drop]; exact h))
          rwa [← Nat.add_assoc] at this
        have RR := Lib.hid b1.1
        have LW := Lib.hid (fun (x : Int × Value × List Int) (hx : x ∈ rs) j hj => ((L1.out.recs.each x hx).1.lt j hj).2)
        have LV := Lib.hid (fun j hj => (own1.lt j hj).1)
        rw [eu]
        clear eu own1 bl1 g1 b1 d0 d1 d2 df dl L1 HR RD
        obtain ⟨d0, d1, d2, df, dl⟩ := L2.out.cells
        generalize usedN n1 = m at *
        obtain ⟨sl1, cap1, rfl, -⟩ := own_ints O2.out
        have O3 := Lib.hid (O2.out.alloc (.cells #[.int .i64 k1, .slice sl1 zs.length cap1, .int .i64 m, .int .i64 0] 52))
        have L3 := Lib.hid (L2.out.alloc (.cells #[.int .i64 k1, .slice sl1 zs.length cap1, .int .i64 m, .int .i64 0] 52))
        have hown : Hid ((w1.alloc (.cells #[.int .i64 k1, .slice sl1 zs.length cap1, .int .i64 m, .int .i64 0] 52)).ownsRow (w.heap.size + 2) 42 2 (.slice sl n cap) n (recCells rs)) := by have := L3.out.recs.row; rwa [HN.out] at this
        have hn9 : n ≤ 20000 := by omega
        generalize hq : zs.length = q at *
        have HQ := Lib.hid hq
        clear hq
        have L4 := Lib.hid (L3.out.alloc (.cells #[.int .i64 k1, .slice sl1 q cap1] 42))
        have O4 := Lib.hid (O3.out.alloc (.cells #[.int .i64 k1, .slice sl1 q cap1] 42))
        go_wp2_with (first | (at_builtin; refine wpList_append_lies _ rfl (.tmp 27) (.tmp 30) 35 rfl (w.heap.size + 2) 42 i8 (.agg #[.int .i64 0, .slice none 0 0]) 2 32 Tryd.underlying35 hi8 hd0 hd1 hd2 rfl (by decide) _ _ _ rfl (hown.out.alloc _) ⟨w1.heap.size + 1, 0, none⟩ 1 1 [.int .i64 k1, .slice sl1 q cap1] rfl rfl (two_new2 _ _ _ _ _) (by intro u hu; simp at hu; rcases hu with rfl | rfl <;> rfl) (by decide) (by unfold maxLen; omega) (by omega) (by simp; omega) (w1.heap.size + 2) (by simp) ?_))
        intro g9 cap9 w9 own9 grow9 hg9 hlt9
        obtain ⟨e0, e1, e2, ef, el⟩ := L4.out.grownAt grow9
        obtain ⟨n2, nl⟩ := L2.out.nextAt _ _ _ _ _ grow9
        have L5 := Lib.hid ((L4.out.store k1 (.slice sl1 q cap1) zs (by have := O4.out; rwa [← HQ.out] at this ⊢) RR.out grow9 (by rw [HN.out]; exact own9)).setU ((u + m : Nat) : Int))
        have hne : w1.heap.size ≠ w.heap.size + 1 := by omega
        have hw : IntKind.i64.wrap ((u : Int) + (m : Int)) = ((u + m : Nat) : Int) := by rw [IntKind.wrap_i64]; omega
        clear own9 grow9 hg9 hlt9 L3 L4 O3 O4 hown O2 d0 d1 d2 df dl
        have HR3 : Hid (∀ rs' u' c', Reads (s.data.toList.drop (u + m)) rs' u' c' → Reads s.data.toList (bare (rs ++ [(k1, Value.slice sl1 q cap1, zs)]) ++ rs') (u + m + u') c') := fun rs' u' c' h => by
          have := HR2.out rs' u' c' h
          simpa [bare] using this
        have AP3 : Hid (Apart (rs ++ [(k1, Value.slice sl1 q cap1, zs)])) := AP.out.add (fun x hx => by
          rcases hv : x.2.1.ownBlock with _ | j
          · exact .inl rfl
          · refine .inr fun e => ?_
            have i1 := LW.out x hx j hv
            have i2 := LV.out j e.symm
            omega)
        have LN : Hid ((rs ++ [(k1, Value.slice sl1 q cap1, zs)]).length ≤ u + m) := by show _ ≤ _; rw [List.length_append, HN.out, List.length_singleton]; omega
        clear HR2
        go_wp2_with fail
        go_roundg (gk - m)
        case measure => omega
        case rel => exact ⟨_, rs ++ [(k1, Value.slice sl1 q cap1, zs)], u + m, by omega, LN.out, AP3, by rw [← Int.natCast_add]; exact L5, HR3⟩
      · have L2 := Lib.hid (L1.out.below bl1)
        have hc := rdF_ne (s.data.toList.drop u)
        have RS : Hid (Reads s.data.toList (bare rs) u (rdF (s.data.toList.drop u))) := by
          have := HR.out _ _ _ (Reads.stop (fun e => by have := congrArg List.length e; rw [List.length_drop, HL.out, List.length_nil] at this; omega) hno)
          rw [List.append_nil, Nat.add_zero] at this; exact this
        clear hno bl1 d0 d1 d2 df dl HR RD
        obtain ⟨d0, d1, d2, df, dl⟩ := L2.out.cells
        generalize rdF (s.data.toList.drop u) = c at *
        have hc' : (c != 0) = true := by simp [hc]
        obtain ⟨q0, q1, q2, qf, ql⟩ := L2.out.res
        obtain ⟨z0, z1, z2, P⟩ := (L2.out.setC c).finAX RS.out AP.out (.cells #[.int .i64 0, .slice none 0 0, .int .i64 0, .int .i64 c] 52)
        clear L1
        go_wp2
        exact bodyPost_ret (v := OV (.slice sl n cap) u c) (by simp [results, Tryd.results22, go_sem, z0, z1, z2]) rfl P.out
    · have hu' : ¬ (u : Int) < (s.size : Int) := by omega
      obtain ⟨q0, q1, q2, qf, ql, z0, z1, z2, P⟩ := L1.out.finX (by
        have := HR.out [] 0 0 (by rw [List.drop_of_length_le (by rw [HL.out]; omega)]; exact Reads.done)
        simpa using this) AP.out
      go_wp2
      exact bodyPost_ret (v := OV (.slice sl n cap) u 0) (by simp [results, Tryd.results22, go_sem, z0, z1, z2]) rfl P.out

theorem rcsX_any (s : ByteArray) (w : World) (ht : U8 w) : Calls Tryd.prog 22 #[.string s] w fun e w' => RcPostX s.data.toList w e w' := by
  by_cases h : s.size ≤ 20000
  · exact rcsX_main s h w ht
  · exact rcsX_long s (by omega) w

end Go.Proofs.YtmffoannknkjkaaDoor
namespace Go.Proofs.YtmffoannknkjkaaDoor
open Go.RowKit
set_option linter.unusedVariables false

/-- Nothing has turned but blocks from B on, below L. -/
structure Btw (B L : Nat) (w w' : World) : Prop where
  os : w'.os = w.os
  tape : w'.tape = w.tape
  output : w'.output = w.output
  size : w.heap.size ≤ w'.heap.size
  block : ∀ k, k < w.heap.size → (k < B ∨ L ≤ k) → w'.heap[k]? = w.heap[k]?
theorem Btw.refl (B L : Nat) (w : World) : Btw B L w w := ⟨rfl, rfl, rfl, Nat.le_refl _, fun _ _ _ => rfl⟩
theorem Btw.trans {B L : Nat} {u v w : World} (h : Btw B L u v) (k : Btw B L v w) : Btw B L u w :=
  ⟨k.os.trans h.os, k.tape.trans h.tape, k.output.trans h.output, Nat.le_trans h.size k.size, fun j hj hc => (k.block j (Nat.lt_of_lt_of_le hj h.size) hc).trans (h.block j hj hc)⟩
theorem Btw.grown {B L : Nat} {w0 w w' : World} {row : Option Nat} (h : Btw B L w0 w) (hg : w.grownBy w' row) (hr : ∀ j, row = some j → B ≤ j ∧ j < L) : Btw B L w0 w' :=
  h.trans ⟨hg.os, hg.tape, hg.output, hg.size, fun k hk hc => hg.block k hk (fun e => by have := hr k e.symm; omega)⟩
theorem Btw.alloc {B L : Nat} (w : World) (o : Obj) : Btw B L w (w.alloc o) := (Btw.refl B L w).grown (World.grownBy_alloc w o none) (fun j hj => by cases hj)
theorem Btw.below {B L : Nat} {w w' : World} (h : Btw B L w w') (hB : B ≤ w.heap.size) : Below B w w' := ⟨h.os, h.tape, h.output, h.size, fun k hk => h.block k (Nat.lt_of_lt_of_le hk hB) (.inl hk)⟩
end Go.Proofs.YtmffoannknkjkaaDoor
namespace Go.Proofs.YtmffoannknkjkaaDoor
open Go.RowKit
set_option linter.unusedVariables false

theorem Reads.len {t : List UInt8} {rs : List (Int × List Int)} {u : Nat} {c : Int} (h : Reads t rs u c) : rs.length ≤ t.length := by
  induction h with
  | done => simp
  | stop _ _ => simp
  | @step t n q k zs rs u c g b r ih =>
    have := g.used
    have h1 : 0 < usedN n := by unfold usedN; omega
    rw [List.length_drop] at ih
    rw [List.length_cons]
    omega
theorem bare_len (rs : RcL) : (bare rs).length = rs.length := by simp [bare]
theorem RecsIn.sixty {B : Nat} {w : World} {v : Value} {rs : RcL} (h : RecsIn B w v rs) : ∀ r ∈ rs, r.2.2.length ≤ 60 := fun r hr => by
  have := (h.each r hr).2
  unfold recR at this
  simp at this
  exact this.2.1

/-- A list's answer in a block of its own. -/
def OAt (w : World) (b : Nat) (x0 x1 x2 : Value) : Prop := w.heap[b]? = some (.cells #[x0, x1, x2] 37)
theorem OAt.new (w : World) (x0 x1 x2 : Value) : OAt (w.alloc (.cells #[x0, x1, x2] 37)) w.heap.size x0 x1 x2 := by
  show (w.heap.push _)[w.heap.size]? = _
  simp
theorem OAt.lt {w : World} {b : Nat} {x0 x1 x2 : Value} (h : OAt w b x0 x1 x2) : b < w.heap.size := (Array.getElem?_eq_some_iff.1 h).1
theorem OAt.below {w w' : World} {b : Nat} {x0 x1 x2 : Value} (h : OAt w b x0 x1 x2) (hb : Below w.heap.size w w') : OAt w' b x0 x1 x2 := (hb.block b h.lt).trans h
theorem OAt.cells {w : World} {b : Nat} {x0 x1 x2 : Value} (h : OAt w b x0 x1 x2) : w.cell? ⟨b, 0, none⟩ = some x0 ∧ w.cell? ⟨b, 1, none⟩ = some x1 ∧ w.cell? ⟨b, 2, none⟩ = some x2 := by
  unfold OAt at h
  refine ⟨?_, ?_, ?_⟩ <;> simp [World.cell?, h]
end Go.Proofs.YtmffoannknkjkaaDoor
