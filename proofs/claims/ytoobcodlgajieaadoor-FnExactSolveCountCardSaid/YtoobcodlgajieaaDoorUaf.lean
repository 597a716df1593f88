/-
  THE LAW 4: the walk.
-/
import Derived.Test.YtoobcodlgajieaaDoorVad
import Derived.Test.YtoobcodlgajieaaDoorPt
import Derived.Test.YtoobcodlgajieaaDoorVac
import Derived.Test.YtoobcodlgajieaaDoorVab
import Derived.Test.YtoobcodlgajieaaDoorVaa
import Derived.Test.YtoobcodlgajieaaDoorUae
import Derived.Test.YtoobcodlgajieaaDoorIa
import Derived.ChangeSame
import Derived.ChangeSlices
import Derived.ChangeArms
import Derived.Deep.Strs
import Derived.Deep.Slices
namespace Go.Proofs.YtoobcodlgajieaaDoor
open Go.RowKit
set_option linter.unusedVariables false

/-- The argument's box, and that nothing of the caller's has turned. -/
structure LA (w : World) (vars : Int) (sl : Option Addr) (n cap : Nat) (W : World) : Prop where
  bel : Below w.heap.size w W
  arg : W.heap[w.heap.size]? = some (.cells #[.int .i64 vars, .slice sl n cap] 45)
theorem LA.below {w : World} {vars : Int} {sl : Option Addr} {n cap : Nat} {W W' : World} (h : LA w vars sl n cap W) (hb : Below W.heap.size W W') : LA w vars sl n cap W' :=
  ⟨bT h.bel hb, (hb.block _ (Array.getElem?_eq_some_iff.1 h.arg).1).trans h.arg⟩
theorem LA.low {w : World} {vars : Int} {sl : Option Addr} {n cap : Nat} {W W' : World} (h : LA w vars sl n cap W) {C : Nat} (hb : Below C W W') (hC : w.heap.size < C) : LA w vars sl n cap W' :=
  ⟨h.bel.trans (hb.mono (by omega)), (hb.block _ hC).trans h.arg⟩
theorem LA.cells {w : World} {vars : Int} {sl : Option Addr} {n cap : Nat} {W : World} (h : LA w vars sl n cap W) : w.heap.size < W.heap.size ∧ W.cell? ⟨w.heap.size, 0, none⟩ = some (.int .i64 vars) ∧ W.cell? ⟨w.heap.size, 1, none⟩ = some (.slice sl n cap) := by
  have ha := h.arg
  exact ⟨(Array.getElem?_eq_some_iff.1 ha).1, by simp [World.cell?, ha], by simp [World.cell?, ha]⟩
/-- What the program answered. -/
structure LG (B b : Nat) (s : Option Addr) (zn k : Nat) (zf zc : Int) (xs : List Value) (W : World) : Prop where
  row : OwZ W B (.slice s zn k) zn xs
  box : BoxW W b (.slice s zn k) zf zc
theorem LG.below {B b : Nat} {s : Option Addr} {zn k : Nat} {zf zc : Int} {xs : List Value} {W W' : World} (h : LG B b s zn k zf zc xs W) (hb : Below W.heap.size W W') : LG B b s zn k zf zc xs W' := ⟨h.row.below hb, h.box.below hb⟩
theorem LG.up {B b : Nat} {s : Option Addr} {zn k : Nat} {zf zc : Int} {xs : List Value} {W W' : World} {X Y : Nat} (h : LG B b s zn k zf zc xs W) (hb : Btw X Y W W') (h1 : Y ≤ B) (h2 : Y ≤ b) : LG B b s zn k zf zc xs W' := ⟨h.row.up hb h1, h.box.btw hb (.inr h2)⟩
/-- What the model answered, below block L. -/
structure LW (L b : Nat) (s : Option Addr) (zn k : Nat) (zf zc : Int) (xs : List Value) (W : World) : Prop where
  row : OwL W L (.slice s zn k) zn xs
  box : BoxW W b (.slice s zn k) zf zc
theorem LW.below {L b : Nat} {s : Option Addr} {zn k : Nat} {zf zc : Int} {xs : List Value} {W W' : World} (h : LW L b s zn k zf zc xs W) (hb : Below W.heap.size W W') : LW L b s zn k zf zc xs W' := ⟨h.row.below hb, h.box.below hb⟩
theorem LW.down {L b : Nat} {s : Option Addr} {zn k : Nat} {zf zc : Int} {xs : List Value} {W W' : World} {X Y : Nat} (h : LW L b s zn k zf zc xs W) (hb : Btw X Y W W') (h1 : L ≤ X) (h2 : b < X) : LW L b s zn k zf zc xs W' := ⟨h.row.down hb h1, h.box.btw hb (.inl h2)⟩
/-- The copies that were handed in. -/
structure LX (vars : Int) (n b4 C4 c1 : Nat) (cs : List LCl) (C5 d1 : Nat) (ds : List LCl) (c3 : Nat) (l3 : List Int) (W : World) : Prop where
  box : CnfAt W b4 vars (some ⟨c1, 0, none⟩) n n
  x0 : CnO C4 W c1 cs
  x1 : CnO C5 W d1 ds
  x2 : RowZ W c3 l3
theorem LX.below {vars : Int} {n b4 C4 c1 : Nat} {cs : List LCl} {C5 d1 : Nat} {ds : List LCl} {c3 : Nat} {l3 : List Int} {W W' : World} (h : LX vars n b4 C4 c1 cs C5 d1 ds c3 l3 W) (hb : Below W.heap.size W W') : LX vars n b4 C4 c1 cs C5 d1 ds c3 l3 W' := ⟨h.box.below hb, h.x0.below hb, h.x1.below hb, h.x2.below hb⟩

set_option maxRecDepth 100000 in
set_option maxHeartbeats 4000000 in
theorem law4 (vars : Int) (sl : Option Addr) (cap : Nat) (cs : List LCl) (sl2 : Option Addr) (cap2 : Nat) (ds : List LCl) (sl3 : Option Addr) (cap3 : Nat) (l3 : List Int) (w : World) (h : InC w sl cs) (h2 : InC w sl2 ds) (hl3 : l3.length ≤ maxLen) (h3 : Ints w sl3 l3) (hT : TabB w) :
    Calls Tryd.prog 5 #[CV vars sl cs.length cap, .slice sl2 ds.length cap2, .slice sl3 l3.length cap3] w fun e w' => e = .returned (.bool true) ∧ Below w.heap.size w w' := by
  have hm3 := hl3
  have hln := h.ln
  have hln2 := h2.ln
  unfold maxLen at hm3 hln hln2
  by_cases hz3 : 1048576 < l3.length
  · have hz3' : (1048576 : Int) < (l3.length : Int) := by omega
    clear h h3 h2
    generalize cs.length = n at *
    generalize ds.length = m at *
    generalize l3.length = q at *
    go_enter Tryd.func5, Tryd.ntmps5
    go_wp2
    go_ret
    exact ⟨rfl, bA0 _ _⟩
  have hz3' : ¬ (1048576 : Int) < (l3.length : Int) := by omega
  have hz3 : l3.length ≤ 1048576 := by omega
  have B0 := Lib.hid (bA0 w (.cells #[.int .i64 vars, .slice sl cs.length cap] 45))
  have SZ : Hid (∀ W, Below w.heap.size w W → Calls Tryd.prog 23 #[CV vars sl cs.length cap, .int .i64 1048576] W fun e w' => e = .returned (.int .i64 (lft 1048576 (cs.length + totC cs))) ∧ Below W.heap.size W w') := fun W hW => szC_any vars sl cap cs W h.ln (h.cl.below hW)
  rcases lft_cases 1048576 (cs.length + totC cs) (by omega) with ⟨e, hl⟩ | ⟨e, hl⟩
  · rw [e] at SZ
    clear h h3 h2 e hl
    generalize cs.length = n at *
    generalize ds.length = m at *
    generalize l3.length = q at *
    go_enter Tryd.func5, Tryd.ntmps5
    go_wp2_with fail
    refine (SZ.out _ B0.out).mono ?_
    rintro e w1 ⟨rfl, b1⟩
    have D1 := Lib.hid (bT B0.out b1)
    clear b1
    go_wp2
    go_ret
    exact ⟨rfl, D1.out⟩
  rw [e] at SZ
  have hneg : ¬ ((1048576 : Int) - ((cs.length + totC cs : Nat) : Int)) < 0 := by omega
  have SY : Hid (∀ W, Below w.heap.size w W → Calls Tryd.prog 24 #[.slice sl2 ds.length cap2, .int .i64 ((1048576 : Int) - ((cs.length + totC cs : Nat) : Int))] W fun e w' => e = .returned (.int .i64 (lft ((1048576 : Int) - ((cs.length + totC cs : Nat) : Int)) (ds.length + totC ds))) ∧ Below W.heap.size W w') := fun W hW => szL_any sl2 cap2 ds _ W h2.ln (by omega) (by omega) (h2.cl.below hW)
  rcases lft_cases ((1048576 : Int) - ((cs.length + totC cs : Nat) : Int)) (ds.length + totC ds) (by omega) with ⟨e', hl'⟩ | ⟨e', hl'⟩
  · rw [e'] at SY
    clear h h3 h2 e hl e' hl'
    generalize (1048576 : Int) - ((cs.length + totC cs : Nat) : Int) = z at *
    generalize cs.length = n at *
    generalize ds.length = m at *
    generalize l3.length = q at *
    go_enter Tryd.func5, Tryd.ntmps5
    go_wp2_with fail
    refine (SZ.out _ B0.out).mono ?_
    rintro e w1 ⟨rfl, b1⟩
    have D1 := Lib.hid (bT B0.out b1)
    clear b1
    go_wp2_with fail
    refine (SY.out _ D1.out).mono ?_
    rintro e w2 ⟨rfl, b2⟩
    have D2 := Lib.hid (bT D1.out b2)
    clear b2
    go_wp2
    go_ret
    exact ⟨rfl, D2.out⟩
  rw [e'] at SY
  have hneg2 : ¬ ((1048576 : Int) - ((cs.length + totC cs : Nat) : Int)) - ((ds.length + totC ds : Nat) : Int) < 0 := by omega
  have TC : Hid (∀ W, Below w.heap.size w W → Calls Tryd.prog 25 #[CV vars sl cs.length cap] W fun e w' => ∃ b cs', e = .returned (CV vars (some ⟨b, 0, none⟩) cs.length cs.length) ∧ bareC cs' = bareC cs ∧ CnO W.heap.size w' b cs' ∧ Below W.heap.size W w') := fun W hW => toCO_any vars sl cap cs W (by omega) (by omega) (h.cl.below hW)
  have TL : Hid (∀ W, Below w.heap.size w W → Calls Tryd.prog 26 #[.slice sl2 ds.length cap2] W fun e w' => ∃ ds', e = .returned (.slice (some ⟨W.heap.size, 0, none⟩) ds.length ds.length) ∧ bareC ds' = bareC ds ∧ CnO W.heap.size w' W.heap.size ds' ∧ Below W.heap.size W w') := fun W hW => by
    refine (toLO_any sl2 cap2 ds W (by omega) (by omega) (h2.cl.below hW)).mono ?_
    rintro e w' ⟨ds', rfl, eb, r, d, b⟩
    exact ⟨ds', rfl, eb, ⟨by rw [bareC_len eb]; exact r, d, Nat.le_refl _⟩, b⟩
  have TP : Hid (∀ W, Below w.heap.size w W → Calls Tryd.prog 27 #[.slice sl3 l3.length cap3] W fun e w' => e = .returned (.slice (some ⟨W.heap.size, 0, none⟩) l3.length l3.length) ∧ RowZ w' W.heap.size l3 ∧ Below W.heap.size W w') := fun W hW => toO_any sl3 cap3 l3 W hz3 (h3.below hW)
  have SP : Hid (∀ b cs' d ds' c W, bareC cs' = bareC cs → bareC ds' = bareC ds → Cls W (some ⟨b, 0, none⟩) cs' → Cls W (some ⟨d, 0, none⟩) ds' → RowZ W c l3 → Calls Tryd.prog 10 #[CV vars (some ⟨b, 0, none⟩) cs.length cs.length, .slice (some ⟨d, 0, none⟩) ds.length ds.length, .slice (some ⟨c, 0, none⟩) l3.length l3.length] W (UPost W (uAll vars (bareC cs) (bareC ds) l3))) := fun b cs' d ds' c W e1 e2 c1 c2 r => by
    have := sur_any vars (some ⟨b, 0, none⟩) cs.length cs' (some ⟨d, 0, none⟩) ds.length ds' (some ⟨c, 0, none⟩) l3.length l3 W (by rw [bareC_len e1]; exact h.ln) (by rw [bareC_len e2]; exact h2.ln) hz3 (by rw [totC_bare e1]; omega) (by rw [totC_bare e2]; omega) (h.wf.bare e1) c1 c2 r.ints
    rwa [bareC_len e1, bareC_len e2, e1, e2] at this
  have IM : Hid (∀ b cs' d ds' c W, bareC cs' = bareC cs → bareC ds' = bareC ds → Cls W (some ⟨b, 0, none⟩) cs' → Cls W (some ⟨d, 0, none⟩) ds' → RowZ W c l3 → Below w.heap.size w W → Calls Tryd.prog 11 #[CV vars (some ⟨b, 0, none⟩) cs.length cs.length, .slice (some ⟨d, 0, none⟩) ds.length ds.length, .slice (some ⟨c, 0, none⟩) l3.length l3.length] W (UPost W (uAll vars (bareC cs) (bareC ds) l3))) := fun b cs' d ds' c W e1 e2 c1 c2 r hbw => by
    have := iur_any vars (some ⟨b, 0, none⟩) cs.length cs' (some ⟨d, 0, none⟩) ds.length ds' (some ⟨c, 0, none⟩) l3.length l3 W (by rw [bareC_len e1]; exact h.ln) (by rw [bareC_len e2]; exact h2.ln) hl3 (h.wf.bare e1) c1 c2 r.ints (hT.belowT hbw)
    rwa [bareC_len e1, bareC_len e2, e1, e2] at this
  have EC : Hid (∀ b2 cs2 b3 cs3 W, bareC cs2 = bareC cs → bareC cs3 = bareC cs → Cls W (some ⟨b2, 0, none⟩) cs2 → Cls W (some ⟨b3, 0, none⟩) cs3 → Calls Tryd.prog 29 #[CV vars (some ⟨b2, 0, none⟩) cs.length cs.length, CV vars (some ⟨b3, 0, none⟩) cs.length cs.length] W fun e w' => e = .returned (.bool true) ∧ Below W.heap.size W w') := fun b2 cs2 b3 cs3 W e2 e3 c2 c3 => by
    have := eqC_any vars (some ⟨b2, 0, none⟩) (some ⟨b3, 0, none⟩) cs.length cs.length cs2 cs3 W (by rw [bareC_len e2]; omega) (e2.trans e3.symm) c2 c3
    rwa [bareC_len e2, bareC_len e3] at this
  have EL : Hid (∀ b2 ds2 b3 ds3 W, bareC ds2 = bareC ds → bareC ds3 = bareC ds → Cls W (some ⟨b2, 0, none⟩) ds2 → Cls W (some ⟨b3, 0, none⟩) ds3 → Calls Tryd.prog 30 #[.slice (some ⟨b2, 0, none⟩) ds.length ds.length, .slice (some ⟨b3, 0, none⟩) ds.length ds.length] W fun e w' => e = .returned (.bool true) ∧ Below W.heap.size W w') := fun b2 ds2 b3 ds3 W e2 e3 c2 c3 => by
    have := eqL_any (some ⟨b2, 0, none⟩) (some ⟨b3, 0, none⟩) ds.length ds.length ds2 ds3 W (by rw [bareC_len e2]; omega) (e2.trans e3.symm) c2 c3
    rwa [bareC_len e2, bareC_len e3] at this
  have EZ : Hid (∀ b c W, RowZ W b l3 → RowZ W c l3 → Calls Tryd.prog 31 #[.slice (some ⟨b, 0, none⟩) l3.length l3.length, .slice (some ⟨c, 0, none⟩) l3.length l3.length] W fun e w' => e = .returned (.bool true) ∧ Below W.heap.size W w') := fun b c W r1 r2 => eq_any _ _ _ _ l3 W hl3 r1.ints r2.ints
  have MC : Hid (∀ C L b cs' W, bareC cs' = bareC cs → ClM C L W b cs' → Calls Tryd.prog 32 #[CV vars (some ⟨b, 0, none⟩) cs.length cs.length, .int .i64 1] W fun e w' => e = .returned (.int .i64 (1 + (totC cs : Int))) ∧ Btw C L W w') := fun C L b cs' W e1 c => by
    have := mkCM_any vars C L b cs' (by rw [bareC_len e1]; omega) (by rw [totC_bare e1]; omega) W c
    rwa [bareC_len e1, totC_bare e1] at this
  have ML : Hid (∀ C L b ds' W, bareC ds' = bareC ds → ClM C L W b ds' → Calls Tryd.prog 33 #[.slice (some ⟨b, 0, none⟩) ds.length ds.length, .int .i64 (1 + (totC cs : Int))] W fun e w' => e = .returned (.int .i64 (1 + (totC cs : Int) + (totC ds : Int))) ∧ Btw C L W w') := fun C L b ds' W e1 c => by
    have := mkLM_any C L b ds' (1 + (totC cs : Int)) (by rw [bareC_len e1]; omega) (by rw [totC_bare e1]; omega) (by omega) (by omega) W c
    rwa [bareC_len e1, totC_bare e1] at this
  have MZ : Hid (∀ b W, RowZ W b l3 → Calls Tryd.prog 34 #[.slice (some ⟨b, 0, none⟩) l3.length l3.length, .int .i64 (1 + (totC cs : Int) + (totC ds : Int))] W fun e w' => e = .returned (.int .i64 (1 + (totC cs : Int) + (totC ds : Int) + (l3.length : Int))) ∧ Only b W w') := fun b W r => mkZ_any b l3 _ hz3 (by omega) (by omega) W r
  have hk0 : ¬ (1 + (totC cs : Int) + (totC ds : Int) + (l3.length : Int)) < 0 := by omega
  have ZL := uAll_len vars (bareC cs) (bareC ds) l3
  clear h h2 e hl e' hl' h3 hl3
  generalize uAll vars (bareC cs) (bareC ds) l3 = R at *
  obtain ⟨zs, zf, zc⟩ := R
  simp only at ZL
  unfold UPost at SP IM
  simp only at SP IM
  generalize (1048576 : Int) - ((cs.length + totC cs : Nat) : Int) - ((ds.length + totC ds : Nat) : Int) = z2 at *
  generalize (1048576 : Int) - ((cs.length + totC cs : Nat) : Int) = z at *
  generalize 1 + (totC cs : Int) + (totC ds : Int) + (l3.length : Int) = kk at *
  generalize 1 + (totC cs : Int) + (totC ds : Int) = kj at *
  generalize 1 + (totC cs : Int) = ki at *
  generalize cs.length = n at *
  generalize ds.length = m at *
  have EQ : Hid (∀ C L v v' W, OwZ W C v zs.length (valsZ zs) → OwL W L v' zs.length (valsZ zs) → Calls Tryd.prog 28 #[UV v zf zc, UV v' zf zc] W fun e w' => e = .returned (.bool true) ∧ Below W.heap.size W w') := fun C L v v' W o o' => by
    obtain ⟨s1, k1, rfl, i1⟩ := own_ints o
    obtain ⟨⟨B, o''⟩, _⟩ := o'
    obtain ⟨s2, k2, rfl, i2⟩ := own_ints o''
    exact eqUO_any zf zc s1 s2 k1 k2 zs W (by unfold maxLen; omega) i1 i2
  have MR : Hid (∀ C v W, C ≤ W.heap.size → OwZ W C v zs.length (valsZ zs) → Calls Tryd.prog 35 #[UV v zf zc, .int .i64 1] W fun e w' => e = .returned (.int .i64 (1 + (zs.length : Int))) ∧ OwZ w' C v zs.length (valsZ (marks 1 zs.length)) ∧ Below C W w' ∧ W.grownBy w' v.ownBlock) := fun C v W hC o => mkUO_any C zf zc v zs W (by omega) hC o
  have HH : Hid (∀ C v W, OwZ W C v zs.length (valsZ (marks 1 zs.length)) → Calls Tryd.prog 36 #[UV v zf zc, .int .i64 1] W fun e w' => e = .returned (.int .i64 (1 + (zs.length : Int))) ∧ Below W.heap.size W w') := fun C v W o => hdUO_any C zf zc v zs.length W (by omega) o
  have hq0 : ¬ (1 + (zs.length : Int)) < 0 := by omega
  generalize valsZ (marks 1 zs.length) = zm at *
  generalize valsZ zs = zv at *
  generalize 1 + (zs.length : Int) = q at *
  generalize zs.length = zn at *
  generalize l3.length = u at *
  have hqq : (q != q) = false := by simp
  have A0 : Hid (LA w vars sl n cap (w.alloc (.cells #[.int .i64 vars, .slice sl n cap] 45))) := ⟨B0.out, new_at _ _⟩
  clear B0
  go_enter Tryd.func5, Tryd.ntmps5
  go_wp2_with fail
  generalize w.alloc (.cells #[.int .i64 vars, .slice sl n cap] 45) = wA at *
  refine (SZ.out _ A0.out.bel).mono ?_
  rintro e w1 ⟨rfl, b1⟩
  have A1 := Lib.hid (A0.out.below b1)
  clear b1 SZ A0
  go_wp2_with fail
  refine (SY.out _ A1.out.bel).mono ?_
  rintro e w1b ⟨rfl, b1⟩
  have A1b := Lib.hid (A1.out.below b1)
  clear b1 SY A1
  obtain ⟨tl, t0, t1⟩ := A1b.out.cells
  go_wp2_with fail
  refine (TC.out _ A1b.out.bel).mono ?_
  rintro e w2 ⟨b1, cs1, rfl, e1, o1, bl2⟩
  have A2 := Lib.hid (A1b.out.below bl2)
  have O2 := Lib.hid o1.cls
  have E1 := Lib.hid e1
  clear o1 e1 bl2 A1b tl t0 t1
  go_wp2_with fail
  refine (TL.out _ A2.out.bel).mono ?_
  rintro e w2b ⟨ds1, rfl, e1, o1, bl2⟩
  have A2b := Lib.hid (A2.out.below bl2)
  have O2b := Lib.hid (O2.out.below bl2)
  have Q2b := Lib.hid o1.cls
  have E1b := Lib.hid e1
  clear o1 e1 bl2 A2 O2
  go_wp2_with fail
  refine (TP.out _ A2b.out.bel).mono ?_
  rintro e w2c ⟨rfl, r2, bl2⟩
  have A2c := Lib.hid (A2b.out.below bl2)
  have T2 := Lib.hid (SP.out b1 cs1 _ ds1 _ w2c E1.out E1b.out (O2b.out.below bl2) (Q2b.out.below bl2) r2)
  clear r2 bl2 A2b O2b Q2b E1 E1b SP
  go_wp2_with fail
  refine T2.out.mono ?_
  rintro e w3 ⟨v0, rfl, q3, bl3⟩
  obtain ⟨s0, k0, rfl⟩ := own_v q3
  have A3 := Lib.hid ((A2c.out.below bl3).below (bA0 w3 (.cells #[.slice s0 zn k0, .int .i64 zf, .int .i64 zc] 30)))
  have W3 : Hid (LW w3.heap.size w3.heap.size s0 zn k0 zf zc zv (w3.alloc (.cells #[.slice s0 zn k0, .int .i64 zf, .int .i64 zc] 30))) := ⟨(OwZ.low q3).below (bA0 _ _), new_at _ _⟩
  have hs3 : w3.heap.size < (w3.alloc (.cells #[.slice s0 zn k0, .int .i64 zf, .int .i64 zc] 30)).heap.size := by simp
  clear q3 bl3 T2 A2c
  obtain ⟨tl, t0, t1⟩ := A3.out.cells
  have hA3 := tl
  go_wp2_with fail
  generalize w3.alloc (.cells #[.slice s0 zn k0, .int .i64 zf, .int .i64 zc] 30) = w3b at *
  refine (TC.out _ A3.out.bel).mono ?_
  rintro e w4 ⟨c1, cs2, rfl, e2, o2, bl4⟩
  have hs4 := bl4.size
  have F4 := Lib.hid (bA0 w4 (.cells #[.int .i64 vars, .slice (some ⟨c1, 0, none⟩) n n] 25))
  have A4 := Lib.hid ((A3.out.below bl4).below F4.out)
  have W4 := Lib.hid ((W3.out.below bl4).below F4.out)
  have E4 := Lib.hid e2
  have O4 := Lib.hid (o2.below F4.out)
  have M4 := Lib.hid (o2.clM.below F4.out)
  have X4 := Lib.hid (CnfAt.new w4 vars (some ⟨c1, 0, none⟩) n n)
  have hw4 : w4.heap.size < (w4.alloc (.cells #[.int .i64 vars, .slice (some ⟨c1, 0, none⟩) n n] 25)).heap.size := by simp
  clear e2 o2 bl4 A3 W3 tl t0 t1 F4
  go_wp2_with fail
  generalize w4.alloc (.cells #[.int .i64 vars, .slice (some ⟨c1, 0, none⟩) n n] 25) = w5 at *
  refine (TL.out _ A4.out.bel).mono ?_
  rintro e w6 ⟨ds2, rfl, e2, o2, bl6⟩
  have hs6 := bl6.size
  have A6 := Lib.hid (A4.out.below bl6)
  have W6 := Lib.hid (W4.out.below bl6)
  have O6 := Lib.hid (O4.out.below bl6)
  have M6 := Lib.hid (M4.out.below bl6)
  have X6 := Lib.hid (X4.out.below bl6)
  have E6 := Lib.hid e2
  have P6 := Lib.hid o2
  have N6 := Lib.hid o2.clM
  clear e2 o2 bl6 A4 W4 O4 M4 X4
  go_wp2_with fail
  refine (TP.out _ A6.out.bel).mono ?_
  rintro e w7 ⟨rfl, r7, bl7⟩
  have hs7 := r7.lt
  have A7 := Lib.hid (A6.out.below bl7)
  have W7 := Lib.hid (W6.out.below bl7)
  have M7 := Lib.hid (M6.out.below bl7)
  have N7 := Lib.hid (N6.out.below bl7)
  have X7 : Hid (LX vars n w4.heap.size w3b.heap.size c1 cs2 w5.heap.size w5.heap.size ds2 w6.heap.size l3 w7) := ⟨X6.out.below bl7, O6.out.below bl7, P6.out.below bl7, r7⟩
  clear r7 bl7 A6 W6 O6 M6 X6 P6 N6
  have T7 := Lib.hid (IM.out c1 cs2 _ ds2 _ w7 E4.out E6.out X7.out.x0.cls X7.out.x1.cls X7.out.x2 A7.out.bel)
  obtain ⟨x0, x1⟩ := X7.out.box.cells
  have xl := X7.out.box.lt
  go_wp2_with fail
  refine T7.out.mono ?_
  rintro e w8 ⟨v8, rfl, q8, bl8⟩
  obtain ⟨s8, k8, rfl⟩ := own_v q8
  have hs8 := bl8.size
  have F8 := Lib.hid (bT bl8 (bA0 w8 (.cells #[.slice s8 zn k8, .int .i64 zf, .int .i64 zc] 30)))
  have A8 := Lib.hid (A7.out.below F8.out)
  have W8 := Lib.hid (W7.out.below F8.out)
  have M8 := Lib.hid (M7.out.below F8.out)
  have N8 := Lib.hid (N7.out.below F8.out)
  have X8 := Lib.hid (X7.out.below F8.out)
  have G8 : Hid (LG w7.heap.size w8.heap.size s8 zn k8 zf zc zv (w8.alloc (.cells #[.slice s8 zn k8, .int .i64 zf, .int .i64 zc] 30))) := ⟨OwZ.below q8 (bA0 _ _), new_at _ _⟩
  have hw8 : w8.heap.size < (w8.alloc (.cells #[.slice s8 zn k8, .int .i64 zf, .int .i64 zc] 30)).heap.size := by simp
  clear q8 bl8 F8 T7 A7 W7 M7 N7 X7 x0 x1 xl
  obtain ⟨y0, y1, y2, y3⟩ := W8.out.box.facts
  obtain ⟨g0, g1, g2, g3⟩ := G8.out.box.facts
  have E8 := Lib.hid (EQ.out _ _ _ _ (w8.alloc (.cells #[.slice s8 zn k8, .int .i64 zf, .int .i64 zc] 30)) G8.out.row W8.out.row)
  go_wp2_with fail
  generalize w8.alloc (.cells #[.slice s8 zn k8, .int .i64 zf, .int .i64 zc] 30) = w8b at *
  refine E8.out.mono ?_
  rintro e w9 ⟨rfl, bl9⟩
  have hs9 := bl9.size
  have A9 := Lib.hid (A8.out.below bl9)
  have D9 := Lib.hid A9.out.bel
  have W9 := Lib.hid (W8.out.below bl9)
  have M9 := Lib.hid (M8.out.below bl9)
  have N9 := Lib.hid (N8.out.below bl9)
  have G9 := Lib.hid (G8.out.below bl9)
  have X9 : Hid (∀ W, Below w9.heap.size w9 W → LX vars n w4.heap.size w3b.heap.size c1 cs2 w5.heap.size w5.heap.size ds2 w6.heap.size l3 W) := fun W hW => (X8.out.below bl9).below hW
  clear bl9 E8 A8 W8 M8 N8 G8 X8 y0 y1 y2 y3 g0 g1 g2 g3
  have KX : Hid (∀ W, Below w9.heap.size w9 W → w.heap.size < W.heap.size ∧ w4.heap.size < W.heap.size ∧ W.cell? ⟨w.heap.size, 0, none⟩ = some (.int .i64 vars) ∧ W.cell? ⟨w.heap.size, 1, none⟩ = some (.slice sl n cap) ∧ W.cell? ⟨w4.heap.size, 0, none⟩ = some (.int .i64 vars) ∧ W.cell? ⟨w4.heap.size, 1, none⟩ = some (.slice (some ⟨c1, 0, none⟩) n n)) := fun W hW => by
    obtain ⟨k1, k2, k3⟩ := (A9.out.below hW).cells
    obtain ⟨k4, k5⟩ := (X9.out W hW).box.cells
    exact ⟨k1, (X9.out W hW).box.lt, k2, k3, k4, k5⟩
  go_wp2_with fail
  refine wp_region_held_drew (S := fun W => w.heap.size < W.heap.size ∧ w4.heap.size < W.heap.size ∧ W.cell? ⟨w.heap.size, 0, none⟩ = some (.int .i64 vars) ∧ W.cell? ⟨w.heap.size, 1, none⟩ = some (.slice sl n cap) ∧ W.cell? ⟨w4.heap.size, 0, none⟩ = some (.int .i64 vars) ∧ W.cell? ⟨w4.heap.size, 1, none⟩ = some (.slice (some ⟨c1, 0, none⟩) n n)) (by kernel_rfl) ?_ (fun hHeld => ?_)
  · exact KX.out _ (Below.refl _ _).drew
  refine wpAnyH_take (i := 0) (oi := _) (v := ?_) rfl (by kernel_rfl) (by kernel_rfl) (by kernel_rfl) (fun _ _ _ h => h) (Or.inl ⟨by rfl, ?_⟩) (by assumption) ?_
  rotate_left
  · first | (intro w hSw; (try dsimp only at hSw); go_simp; done) | (intro w hSw; (try dsimp only at hSw); go_simp; with_reducible rfl)
  try simp only [Act.put, List.setIfInBounds_toArray, List.set_cons_zero, List.set_cons_succ, List.getElem_toArray, List.getElem_cons_zero]
  refine wpAnyH_take (i := 1) (oi := _) (v := ?_) rfl (by kernel_rfl) (by kernel_rfl) (by kernel_rfl) (fun _ _ _ h => h) (Or.inl ⟨by rfl, ?_⟩) (by assumption) ?_
  rotate_left
  · first | (intro w hSw; (try dsimp only at hSw); go_simp; done) | (intro w hSw; (try dsimp only at hSw); go_simp; with_reducible rfl)
  try simp only [Act.put, List.setIfInBounds_toArray, List.set_cons_zero, List.set_cons_succ, List.getElem_toArray, List.getElem_cons_succ, List.getElem_cons_zero]
  refine wpAnyH_ready (rs := [2]) (by kernel_rfl) (by simp) ?_
  refine AllReadyH.cons rfl (fun K hK => ?_) AllReadyH.nil
  go_simp
  go_wp2_with (go_at_call 25; refine (TC.out _ D9.out.drew).mono ?_; rintro e w10 ⟨d1, cs3, rfl, e3, o3, b10⟩)
  have F10 : Hid (Below w9.heap.size w9 w10) := bT ((Below.refl w9.heap.size w9).drew) b10
  have O10 := Lib.hid o3.cls
  have E10 := Lib.hid e3
  clear b10 o3 e3
  refine hK.out _ _ ?_ (fun hHeld => ?_)
  · exact KX.out _ F10.out
  clear hK K
  refine wpAnyH_ready (rs := [3]) (by kernel_rfl) (by simp) ?_
  refine AllReadyH.cons rfl (fun K hK => ?_) AllReadyH.nil
  go_simp
  go_wp2_with (go_at_call 29; refine (EC.out c1 cs2 d1 cs3 _ E4.out E10.out (((X9.out _ F10.out).x0).cls) O10.out).mono ?_; rintro e w11 ⟨rfl, b11⟩)
  have F11 : Hid (Below w9.heap.size w9 w11) := bT F10.out b11
  clear b11
  refine hK.out _ _ ?_ (fun hHeld => ?_)
  · exact KX.out _ F11.out
  clear hK K
  refine wpAnyH_take (i := 4) (oi := _) (v := ?_) rfl (by kernel_rfl) (by kernel_rfl) (by kernel_rfl) (fun _ _ _ h => h) (Or.inl ⟨by rfl, ?_⟩) (by assumption) ?_
  rotate_left
  · first | (intro w hSw; (try dsimp only at hSw); go_simp; done) | (intro w hSw; (try dsimp only at hSw); go_simp; with_reducible rfl)
  try simp only [Act.put, List.setIfInBounds_toArray, List.set_cons_zero, List.set_cons_succ, List.getElem_toArray, List.getElem_cons_succ, List.getElem_cons_zero]
  refine wpAnyH_done (by kernel_rfl) ?_ _
  have A11 := Lib.hid (A9.out.below F11.out)
  have W11 := Lib.hid (W9.out.below F11.out)
  have M11 := Lib.hid (M9.out.below F11.out)
  have N11 := Lib.hid (N9.out.below F11.out)
  have G11 := Lib.hid (G9.out.below F11.out)
  have X11 : Hid (∀ W, Below w11.heap.size w11 W → LX vars n w4.heap.size w3b.heap.size c1 cs2 w5.heap.size w5.heap.size ds2 w6.heap.size l3 W) := fun W hW => X9.out W (bT F11.out hW)
  have hs11 := F11.out.size
  clear F10 F11 O10 E10 KX A9 D9 W9 M9 N9 G9 X9 EC
  go_wp2_with fail
  refine (TL.out _ A11.out.bel).mono ?_
  rintro e w12 ⟨ds3, rfl, e3, o3, bl12⟩
  have F12 := Lib.hid bl12
  have T12 := Lib.hid (EL.out _ ds2 _ ds3 w12 E6.out e3 (X11.out _ bl12).x1.cls o3.cls)
  clear e3 o3 bl12
  go_wp2_with fail
  refine T12.out.mono ?_
  rintro e w13 ⟨rfl, bl13⟩
  have F13 := Lib.hid (bT F12.out bl13)
  have A13 := Lib.hid (A11.out.below F13.out)
  clear bl13 F12 T12 EL
  go_wp2_with fail
  refine (TP.out _ A13.out.bel).mono ?_
  rintro e w14 ⟨rfl, r14, bl14⟩
  have F14 := Lib.hid (bT F13.out bl14)
  have T14 := Lib.hid (EZ.out _ _ w14 (X11.out _ F14.out).x2 r14)
  clear r14 bl14 F13 A13
  go_wp2_with fail
  refine T14.out.mono ?_
  rintro e w15 ⟨rfl, bl15⟩
  have F15 := Lib.hid (bT F14.out bl15)
  have A15 := Lib.hid (A11.out.below F15.out)
  have W15 := Lib.hid (W11.out.below F15.out)
  have M15 := Lib.hid (M11.out.below F15.out)
  have N15 := Lib.hid (N11.out.below F15.out)
  have G15 := Lib.hid (G11.out.below F15.out)
  have X15 := Lib.hid (X11.out _ F15.out)
  have hs15 := F15.out.size
  clear bl15 F14 F15 T14 A11 W11 M11 N11 G11 X11 EZ
  have T15 := Lib.hid (MC.out _ _ c1 cs2 w15 E4.out M15.out)
  obtain ⟨x0, x1⟩ := X15.out.box.cells
  have xl := X15.out.box.lt
  have wl := A15.out.cells.1
  have ws := A15.out.bel.size
  go_wp2_with fail
  refine T15.out.mono ?_
  rintro e w16 ⟨rfl, g16⟩
  have hs16 := g16.size
  have A16 := Lib.hid (A15.out.low (g16.below (by omega)) (by have := M15.out.lo; omega))
  have W16 := Lib.hid (W15.out.down g16 (by omega) (by omega))
  have N16 := Lib.hid (N15.out.btw g16 (.inr (by omega)))
  have G16 := Lib.hid (G15.out.up g16 (by omega) (by omega))
  have R16 : Hid (RowZ w16 w6.heap.size l3) := X15.out.x2.kept (g16.block w6.heap.size X15.out.x2.lt (.inr (by omega)))
  clear g16 T15 A15 W15 M15 N15 G15 X15 x0 x1 xl MC wl
  have T16 := Lib.hid (ML.out _ _ _ ds2 w16 E6.out N16.out)
  go_wp2_with fail
  refine T16.out.mono ?_
  rintro e w17 ⟨rfl, g17⟩
  have hs17 := g17.size
  have wl := A16.out.cells.1
  have A17 := Lib.hid (A16.out.low (g17.below (by omega)) (by omega))
  have W17 := Lib.hid (W16.out.down g17 (by omega) (by omega))
  have G17 := Lib.hid (G16.out.up g17 (by omega) (by omega))
  have R17 : Hid (RowZ w17 w6.heap.size l3) := R16.out.kept (g17.block w6.heap.size R16.out.lt (.inr (by omega)))
  clear g17 T16 A16 W16 N16 G16 R16 ML
  have T17 := Lib.hid (MZ.out _ w17 R17.out)
  go_wp2_with fail
  refine T17.out.mono ?_
  rintro e w18 ⟨rfl, g18⟩
  have B18 := Lib.hid ((Btw.refl w6.heap.size (w6.heap.size + 1) w17).only g18 (Nat.le_refl _) (Nat.lt_succ_self _))
  have hs18 := g18.size
  have A18 := Lib.hid (A17.out.low (B18.out.below (by omega)) (by omega))
  have W18 := Lib.hid (W17.out.down B18.out (by omega) (by omega))
  have G18 := Lib.hid (G17.out.up B18.out (by omega) (by omega))
  clear g18 B18 T17 A17 W17 G17 R17 MZ
  obtain ⟨y0, y1, y2, y3⟩ := W18.out.box.facts
  obtain ⟨g0, g1, g2, g3⟩ := G18.out.box.facts
  go_wp2_with fail
  refine (EQ.out _ _ _ _ w18 G18.out.row W18.out.row).mono ?_
  rintro e w19 ⟨rfl, bl19⟩
  have A19 := Lib.hid (A18.out.below bl19)
  have W19 := Lib.hid (W18.out.below bl19)
  have G19 := Lib.hid (G18.out.below bl19)
  have hs19 := bl19.size
  clear bl19 A18 W18 G18 y0 y1 y2 y3 g0 g1 g2 g3
  obtain ⟨g0, g1, g2, g3⟩ := G19.out.box.facts
  go_wp2_with fail
  refine (MR.out _ _ w19 (by omega) G19.out.row).mono ?_
  rintro e w20 ⟨rfl, o20, c20, gr20⟩
  have hs20 := c20.size
  have A20 := Lib.hid (A19.out.low c20 (by omega))
  have W20 : Hid (LW w3.heap.size w3.heap.size s0 zn k0 zf zc zv w20) := ⟨W19.out.row.down (BtwOf c20) (by omega), W19.out.box.grown G19.out.row gr20⟩
  have G20 : Hid (LG w7.heap.size w8.heap.size s8 zn k8 zf zc zm w20) := ⟨o20, G19.out.box.grown G19.out.row gr20⟩
  clear o20 c20 gr20 A19 W19 G19 MR g0 g1 g2 g3
  obtain ⟨g0, g1, g2, g3⟩ := G20.out.box.facts
  go_wp2_with fail
  refine (HH.out _ _ w20 G20.out.row).mono ?_
  rintro e w21 ⟨rfl, bl21⟩
  have A21 := Lib.hid (A20.out.below bl21)
  have W21 := Lib.hid (W20.out.below bl21)
  have G21 := Lib.hid (G20.out.below bl21)
  clear bl21 A20 W20 G20 g0 g1 g2 g3
  obtain ⟨tl, t0, t1⟩ := A21.out.cells
  go_wp2_with fail
  refine (TC.out _ A21.out.bel).mono ?_
  rintro e w22 ⟨f1, cs4, rfl, e4, o4, bl22⟩
  have F22 := Lib.hid bl22
  have A22 := Lib.hid (A21.out.below bl22)
  have O22 := Lib.hid o4.cls
  have E22 := Lib.hid e4
  clear e4 o4 bl22 tl t0 t1
  go_wp2_with fail
  refine (TL.out _ A22.out.bel).mono ?_
  rintro e w23 ⟨ds4, rfl, e4, o4, bl23⟩
  have F23 := Lib.hid (bT F22.out bl23)
  have A23 := Lib.hid (A22.out.below bl23)
  have O23 := Lib.hid (O22.out.below bl23)
  have Q23 := Lib.hid o4.cls
  have E23 := Lib.hid e4
  clear e4 o4 bl23 F22 A22 O22
  go_wp2_with fail
  refine (TP.out _ A23.out.bel).mono ?_
  rintro e w24 ⟨rfl, r24, bl24⟩
  have F24 := Lib.hid (bT F23.out bl24)
  have T24 := Lib.hid (IM.out f1 cs4 _ ds4 _ w24 E22.out E23.out (O23.out.below bl24) (Q23.out.below bl24) r24 (A23.out.below bl24).bel)
  clear r24 bl24 F23 A23 O23 Q23 E22 E23
  go_wp2_with fail
  refine T24.out.mono ?_
  rintro e w25 ⟨v25, rfl, q25, bl25⟩
  obtain ⟨s25, k25, rfl⟩ := own_v q25
  have F25 := Lib.hid (bT F24.out (bT bl25 (bA0 w25 (.cells #[.slice s25 zn k25, .int .i64 zf, .int .i64 zc] 30))))
  have A25 := Lib.hid (A21.out.below F25.out)
  have W25 := Lib.hid (W21.out.below F25.out)
  have G25 := Lib.hid (G21.out.below F25.out)
  have H25 : Hid (LG w24.heap.size w25.heap.size s25 zn k25 zf zc zv (w25.alloc (.cells #[.slice s25 zn k25, .int .i64 zf, .int .i64 zc] 30))) := ⟨OwZ.below q25 (bA0 _ _), new_at _ _⟩
  clear q25 bl25 F24 F25 T24 A21 W21 G21
  obtain ⟨y0, y1, y2, y3⟩ := W25.out.box.facts
  obtain ⟨g0, g1, g2, g3⟩ := H25.out.box.facts
  have E25 := Lib.hid (EQ.out _ _ _ _ (w25.alloc (.cells #[.slice s25 zn k25, .int .i64 zf, .int .i64 zc] 30)) H25.out.row W25.out.row)
  go_wp2_with fail
  generalize w25.alloc (.cells #[.slice s25 zn k25, .int .i64 zf, .int .i64 zc] 30) = w25b at *
  refine E25.out.mono ?_
  rintro e w26 ⟨rfl, bl26⟩
  have A26 := Lib.hid (A25.out.below bl26)
  have G26 := Lib.hid (G25.out.below bl26)
  clear bl26 A25 W25 G25 H25 E25 y0 y1 y2 y3 g0 g1 g2 g3
  obtain ⟨g0, g1, g2, g3⟩ := G26.out.box.facts
  go_wp2_with fail
  refine (HH.out _ _ w26 G26.out.row).mono ?_
  rintro e w27 ⟨rfl, bl27⟩
  have A27 := Lib.hid (A26.out.below bl27)
  clear bl27 A26 G26 g0 g1 g2 g3
  go_wp2
  go_ret
  exact ⟨rfl, A27.out.bel⟩

end Go.Proofs.YtoobcodlgajieaaDoor
