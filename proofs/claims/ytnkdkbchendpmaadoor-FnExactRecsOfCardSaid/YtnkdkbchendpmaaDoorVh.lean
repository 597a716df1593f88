/-
  THE LAW FnExactRecsOf: the walk.
-/
import Derived.Test.YtnkdkbchendpmaaDoorVd
import Derived.Test.YtnkdkbchendpmaaDoorVg
import Derived.Test.YtnkdkbchendpmaaDoorUe
namespace Go.Proofs.YtnkdkbchendpmaaDoor
open Go.RowKit
set_option linter.unusedVariables false

set_option maxRecDepth 100000 in
set_option maxHeartbeats 1000000 in
theorem eqW_any (B B' : Nat) (v v' : Value) (u c : Int) (rs rs' : RcL) (hn : rs.length ≤ 1048576) (hz : ∀ r ∈ rs, r.2.2.length ≤ 60) (hb : bare rs = bare rs') (w : World) (h : RecsB B w v rs) (h' : RecsB B' w v' rs') :
    Calls Tryd.prog 29 #[OV v u c, OV v' u c] w fun e w' => e = .returned (.bool true) ∧ Below w.heap.size w w' := by
  have E : Hid (∀ W, Below w.heap.size w W → Calls Tryd.prog 54 #[v, v'] W fun e w' => e = .returned (.bool true) ∧ Below W.heap.size W w') := fun W hW => eqs_any B B' v v' rs rs' hn hz hb W (h.below hW) (h'.below hW)
  obtain ⟨sl, cap, rfl⟩ := h.form
  obtain ⟨sl', cap', rfl⟩ := h'.form
  generalize List.length rs = n at *
  generalize List.length rs' = n' at *
  clear h h' hz hb
  go_enter Tryd.func29, Tryd.ntmps29
  go_wp2_with fail
  refine (E.out _ (bA (bA0 _ _) _)).mono ?_
  rintro e w1 ⟨rfl, hb⟩
  obtain ⟨hc, hf⟩ := bcell hb
  go_wp2
  go_ret
  exact ⟨rfl, bT (bA (bA0 _ _) _) hb⟩

theorem Reads.len {t : List UInt8} {rs : List (Int × List Int)} {u : Nat} {c : Int} (h : Reads t rs u c) : rs.length ≤ t.length := by
  induction h with
  | done => simp
  | stop _ _ => simp
  | @step t n q k zs rs u c g b r ih =>
    have := g.used
    have h1 : 0 < usedN n := by unfold usedN; omega
    rw [List.length_drop] at ih
    rw [List.length_cons]
    omega
theorem bare_len (rs : RcL) : (bare rs).length = rs.length := by simp [bare]
theorem RecsIn.sixty {B : Nat} {w : World} {v : Value} {rs : RcL} (h : RecsIn B w v rs) : ∀ r ∈ rs, r.2.2.length ≤ 60 := fun r hr => by
  have := (h.each r hr).2
  unfold recR at this
  simp at this
  exact this.2.1

set_option maxRecDepth 100000 in
set_option maxHeartbeats 1000000 in
theorem mkW_any (B L : Nat) (v : Value) (u c : Int) (rs : RcL) (hn : rs.length ≤ 1048576) (hz : ∀ r ∈ rs, r.2.2.length ≤ 60) (ha : Apart rs) (hL : ∀ j, v.ownBlock = some j → j < L) (hLr : ∀ r ∈ rs, ∀ j, r.2.1.ownBlock = some j → j < L) (w : World) (h : RecsB B w v rs) :
    Calls Tryd.prog 30 #[OV v u c, .int .i64 1] w fun e w' => e = .returned (.int .i64 (tot 1 rs)) ∧ RecsB B w' v (mkd 1 rs) ∧ Btw B L w w' := by
  obtain ⟨sl, cap, e⟩ := h.form
  have E := Lib.hid (mks_any B L v rs hn hz ha hL hLr (w.alloc (.cells #[v, .int .i64 u, .int .i64 c] 30)) (h.below (bA0 _ _)))
  subst e
  generalize List.length rs = n at *
  clear h hz ha hL hLr
  generalize tot 1 rs = m at *
  go_enter Tryd.func30, Tryd.ntmps30
  go_wp2_with fail
  refine E.out.mono ?_
  rintro e w1 ⟨rfl, o1, b1⟩
  have P := Lib.hid (And.intro o1 ((Btw.alloc w _).trans b1))
  clear o1 b1 E
  go_wp2
  go_ret
  exact ⟨rfl, P.out.1, P.out.2⟩

set_option maxRecDepth 100000 in
set_option maxHeartbeats 1000000 in
theorem hdW_any (B : Nat) (v : Value) (u c : Int) (rs : RcL) (hn : rs.length ≤ 1048576) (hz : ∀ r ∈ rs, r.2.2.length ≤ 60) (w : World) (h : RecsB B w v (mkd 1 rs)) :
    Calls Tryd.prog 31 #[OV v u c, .int .i64 1] w fun e w' => e = .returned (.int .i64 (tot 1 rs)) ∧ Below w.heap.size w w' := by
  obtain ⟨sl, cap, e⟩ := h.form
  have hm := (tot_le 1 rs hz).1
  have E := Lib.hid (hds_any B v rs hn hz (w.alloc (.cells #[v, .int .i64 u, .int .i64 c] 30)) (h.below (bA0 _ _)))
  subst e
  generalize List.length (mkd 1 rs) = n at *
  clear h hz
  generalize tot 1 rs = m at *
  have hm0 : ¬ m < 0 := by omega
  go_enter Tryd.func31, Tryd.ntmps31
  go_wp2_with fail
  refine E.out.mono ?_
  rintro e w1 ⟨rfl, b1⟩
  have P := Lib.hid (bT (bA0 w _) b1)
  clear b1 E
  go_wp2
  go_ret
  exact ⟨rfl, P.out⟩

/-- A list's answer in a block of its own. -/
def OAt (w : World) (b : Nat) (x0 x1 x2 : Value) : Prop := w.heap[b]? = some (.cells #[x0, x1, x2] 30)
theorem OAt.new (w : World) (x0 x1 x2 : Value) : OAt (w.alloc (.cells #[x0, x1, x2] 30)) w.heap.size x0 x1 x2 := by
  show (w.heap.push _)[w.heap.size]? = _
  simp
theorem OAt.lt {w : World} {b : Nat} {x0 x1 x2 : Value} (h : OAt w b x0 x1 x2) : b < w.heap.size := (Array.getElem?_eq_some_iff.1 h).1
theorem OAt.below {w w' : World} {b : Nat} {x0 x1 x2 : Value} (h : OAt w b x0 x1 x2) (hb : Below w.heap.size w w') : OAt w' b x0 x1 x2 := (hb.block b h.lt).trans h
theorem OAt.btw {B L : Nat} {w w' : World} {b : Nat} {x0 x1 x2 : Value} (h : OAt w b x0 x1 x2) (hb : Btw B L w w') (hc : b < B ∨ L ≤ b) : OAt w' b x0 x1 x2 := (hb.block b h.lt hc).trans h
theorem OAt.cells {w : World} {b : Nat} {x0 x1 x2 : Value} (h : OAt w b x0 x1 x2) : w.cell? ⟨b, 0, none⟩ = some x0 ∧ w.cell? ⟨b, 1, none⟩ = some x1 ∧ w.cell? ⟨b, 2, none⟩ = some x2 := by
  unfold OAt at h
  refine ⟨?_, ?_, ?_⟩ <;> simp [World.cell?, h]
theorem own_btw {B L C : Nat} {e : TypeId} {m : Nat} {v : Value} {n : Nat} {xs : List Value} {w w' : World} (h : w.ownsRow C e m v n xs) (hb : Btw B L w w') (hc : ∀ j, v.ownBlock = some j → j < B) : w'.ownsRow C e m v n xs := by
  refine ⟨h.1, ?_⟩
  rcases h.2 with h | ⟨g, cap, cur, hv, hg, hh, r⟩
  · exact .inl h
  · exact .inr ⟨g, cap, cur, hv, hg, (hb.block g (Array.getElem?_eq_some_iff.1 hh).1 (.inl (hc g (by rw [hv]; rfl)))).trans hh, r⟩
theorem RecsB.btw {B L C : Nat} {w w' : World} {v : Value} {rs : RcL} (h : RecsB C w v rs) (hb : Btw B L w w') (hv : ∀ j, v.ownBlock = some j → j < B) (hr : ∀ r ∈ rs, ∀ j, r.2.1.ownBlock = some j → j < B) : RecsB C w' v rs :=
  ⟨own_btw h.row hb hv, fun r hm => own_btw (h.each r hm) hb (hr r hm)⟩

set_option maxRecDepth 100000 in
set_option maxHeartbeats 2000000 in
theorem law9 (s : ByteArray) (w : World) (ht : U8 w) :
    Calls Tryd.prog 9 #[.string s] w fun e w' => e = .returned (.bool true) ∧ Below w.heap.size w w' := by
  by_cases h : 1048576 < s.size
  · have h' : (1048576 : Int) < (s.size : Int) := by omega
    clear ht
    go_enter Tryd.func9, Tryd.ntmps9
    go_wp2
    go_ret
    exact ⟨rfl, Below.refl _ _⟩
  · have h' : ¬ (1048576 : Int) < (s.size : Int) := by omega
    have SS := Lib.hid (fun w => mrs_any s w)
    have IS : Hid (∀ w1, Below w.heap.size w w1 → Calls Tryd.prog 12 #[.string s] w1 fun e w' => RcPostX s.data.toList w1 e w') := fun w1 hb => rcsX_any s w1 (ht.below hb)
    have TL := Lib.hid (show s.data.toList.length ≤ 1048576 by simp; omega)
    generalize s.data.toList = t at *
    clear ht h
    go_enter Tryd.func9, Tryd.ntmps9
    go_wp2_with fail
    refine (SS.out _).mono ?_
    rintro e w1 ⟨rs, v, u, c, T1, rfl, r1, b1⟩
    have TT := Lib.hid T1
    have LN := Lib.hid (show rs.length ≤ 1048576 by have := T1.len; rw [bare_len] at this; have := TL.out; omega)
    have R1 := Lib.hid r1.b
    have B1 := Lib.hid b1
    have hs0 := b1.size
    obtain ⟨sl, cap, ev⟩ := r1.form
    have O1 := Lib.hid (fun j hj => (r1.row.lt j hj).2)
    have O1r := Lib.hid (fun (r : Int × Value × List Int) (hr : r ∈ rs) j hj => ((r1.each r hr).1.lt j hj).2)
    subst ev
    have Q1 := Lib.hid (OAt.new w1 (.slice sl rs.length cap) (.int .i64 u) (.int .i64 c))
    clear T1 r1 b1 SS
    generalize hN : rs.length = n at *
    have HN := Lib.hid hN
    clear hN
    go_wp2_with fail
    refine (IS.out _ (bA B1.out _)).mono ?_
    rintro e w2 ⟨rs2, v2, u', c', T2, rfl, ap, r2, b2⟩
    obtain ⟨eb, rfl, rfl⟩ := TT.out.uniq T2
    have HB := Lib.hid eb
    have LN2 := Lib.hid (show rs2.length ≤ 1048576 by have := T2.len; rw [bare_len] at this; have := TL.out; omega)
    have Z2 := Lib.hid r2.sixty
    have AP := Lib.hid ap
    have R2 := Lib.hid r2.b
    have F2 := Lib.hid (fun j hj => r2.row.lt j hj)
    have F2r := Lib.hid (fun (r : Int × Value × List Int) (hr : r ∈ rs2) j hj => (r2.each r hr).1.lt j hj)
    obtain ⟨sl', cap', ev⟩ := r2.form
    subst ev
    have J1 := Lib.hid ((R1.out.below (bA0 _ _)).below b2)
    have Q2 := Lib.hid (Q1.out.below b2)
    have B2 := Lib.hid (bT (bA B1.out (.cells #[.slice sl n cap, .int .i64 u, .int .i64 c] 30)) b2)
    have G2 := Lib.hid (OAt.new w2 (.slice sl' rs2.length cap') (.int .i64 u) (.int .i64 c))
    have hs1 : w1.heap.size < w2.heap.size := Q2.out.lt
    obtain ⟨q0, q1, q2⟩ := Q2.out.cells
    clear r2 b2 T2 Q1 R1 B1 eb ap
    generalize hK : rs2.length = m at *
    have HK := Lib.hid hK
    clear hK
    have E3 := Lib.hid (eqW_any _ _ _ _ u c rs2 rs (by rw [HK.out]; exact LN2.out) Z2.out HB.out.symm (w2.alloc (.cells #[.slice sl' m cap', .int .i64 u, .int .i64 c] 30)) (R2.out.below (bA0 _ _)) (J1.out.below (bA0 _ _)))
    go_wp2_with fail
    refine E3.out.mono ?_
    rintro e w3 ⟨rfl, b3⟩
    have P3 := Lib.hid (G2.out.below b3)
    have Q3 := Lib.hid ((Q2.out.below (bA0 _ _)).below b3)
    have J3 := Lib.hid ((J1.out.below (bA0 _ _)).below b3)
    have B3 := Lib.hid (bT (bA B2.out _) b3)
    have R3 := Lib.hid ((R2.out.below (bA0 _ _)).below b3)
    have hs3 : w2.heap.size < w3.heap.size := P3.out.lt
    obtain ⟨p0, p1, p2⟩ := P3.out.cells
    clear b3 G2 Q2 J1 B2 R2 E3 q0 q1 q2
    have M4 := Lib.hid (mkW_any _ w2.heap.size _ u c rs2 (by rw [HK.out]; exact LN2.out) Z2.out AP.out (fun j hj => (F2.out j hj).2) (fun r hr j hj => (F2r.out r hr j hj).2) w3 R3.out)
    have hm : ¬ tot 1 rs2 < 0 := by have := (tot_le 1 rs2 Z2.out).1; omega
    have H5 : Hid (∀ W, RecsB (w1.alloc (.cells #[.slice sl n cap, .int .i64 u, .int .i64 c] 30)).heap.size W (.slice sl' m cap') (mkd 1 rs2) → Calls Tryd.prog 31 #[OV (.slice sl' m cap') u c, .int .i64 1] W fun e w' => e = .returned (.int .i64 (tot 1 rs2)) ∧ Below W.heap.size W w') := fun W hW => hdW_any _ _ u c rs2 (by rw [HK.out]; exact LN2.out) Z2.out W hW
    generalize tot 1 rs2 = k at *
    go_wp2_with fail
    refine M4.out.mono ?_
    rintro e w4 ⟨rfl, o4, g4⟩
    have hBB : (w1.alloc (.cells #[.slice sl n cap, .int .i64 u, .int .i64 c] 30)).heap.size = w1.heap.size + 1 := by simp
    have P4 := Lib.hid (P3.out.btw g4 (.inr (Nat.le_refl _)))
    have Q4 := Lib.hid (Q3.out.btw g4 (.inl (by rw [hBB]; omega)))
    have J4 := Lib.hid (J3.out.btw g4 (fun j hj => by have := O1.out j hj; rw [hBB]; omega) (fun r hr j hj => by have := O1r.out r hr j hj; rw [hBB]; omega))
    have B4 := Lib.hid (B3.out.trans ((g4.below (by rw [hBB]; omega)).mono (by rw [hBB]; omega)))
    have O4 := Lib.hid o4
    clear o4 g4 P3 Q3 J3 B3 R3 M4 p0 p1 p2 hs3 hBB
    obtain ⟨p0, p1, p2⟩ := P4.out.cells
    go_wp2_with fail
    refine (H5.out _ O4.out).mono ?_
    rintro e w5 ⟨rfl, b5⟩
    have B5 := Lib.hid (bT B4.out b5)
    have D5 := Lib.hid b5
    clear b5
    go_wp2_with fail
    refine (IS.out _ B5.out).mono ?_
    rintro e w6 ⟨rs6, v6, u', c', T2, rfl, ap, r6, b6⟩
    obtain ⟨eb, rfl, rfl⟩ := TT.out.uniq T2
    have LN6 := Lib.hid (show rs6.length ≤ 1048576 by have := T2.len; rw [bare_len] at this; have := TL.out; omega)
    obtain ⟨sl6, cap6, ev⟩ := r6.form
    subst ev
    have D6 := Lib.hid (bT D5.out b6)
    have B6 := Lib.hid (bT B5.out b6)
    have Q6 := Lib.hid (Q4.out.below D6.out)
    have J6 := Lib.hid (J4.out.below D6.out)
    have hs6 : w1.heap.size < w6.heap.size := Q6.out.lt
    obtain ⟨q0, q1, q2⟩ := Q6.out.cells
    have E7 := Lib.hid (eqW_any _ _ _ _ u c rs6 rs LN6.out r6.sixty eb.symm (w6.alloc (.cells #[.slice sl6 rs6.length cap6, .int .i64 u, .int .i64 c] 30)) (r6.b.below (bA0 _ _)) (J6.out.below (bA0 _ _)))
    clear r6 b6 T2 p0 p1 p2 ap eb
    generalize rs6.length = m6 at *
    go_wp2_with fail
    refine E7.out.mono ?_
    rintro e w7 ⟨rfl, b7⟩
    have D7 := Lib.hid (bT (bA D6.out _) b7)
    have B7 := Lib.hid (bT (bA B6.out _) b7)
    have P7 := Lib.hid (P4.out.below D7.out)
    obtain ⟨p0, p1, p2⟩ := P7.out.cells
    clear b7 q0 q1 q2
    go_wp2_with fail
    refine (H5.out _ (O4.out.below D7.out)).mono ?_
    rintro e w8 ⟨rfl, b8⟩
    have B8 := Lib.hid (bT B7.out b8)
    go_wp2
    go_ret
    exact ⟨rfl, B8.out⟩

end Go.Proofs.YtnkdkbchendpmaaDoor
