import Derived.Test.YtnihhbfgbilimaaGreatDoorKCi
import Derived.Test.YtnihhbfgbilimaaGreatDoorZOc
namespace Go.Proofs.YtnihhbfgbilimaaGreatDoor
open Go.RowKit
set_option linter.unusedVariables false
set_option linter.unusedSimpArgs false
def totB (L : List (Int × Int × List Int)) : Nat := (L.map fun r => r.2.2.length).sum
theorem totD_b (rs : List LSt) : totD rs = totB (bareS rs) := by
 unfold totD totB bareS
 rw [List.map_map]
 rfl
theorem szR_b (rs : List LSt) : szR rs = 2 * (bareS rs).length + totB (bareS rs) := by
 unfold szR
 rw [totD_b, bareS_lenQ]
def coN (F : CloF) : Int := 1 + ((2 * F.b.length + totB F.b : Nat) : Int) + 3 * (F.ps.length : Int) + 3 * (F.bs.length : Int) + 2 * (F.ls.length : Int)
def CFs (F : CloF) (v1 v2 v3 v4 : Value) (W : World) : Prop := ∃ rs' s1 k1 s2 k2 s3 k3 s4 k4, bareS rs' = F.b ∧ v1 = .slice s1 rs'.length k1 ∧ v2 = .slice s2 F.ps.length k2 ∧ v3 = .slice s3 F.bs.length k3 ∧ v4 = .slice s4 F.ls.length k4 ∧ Sts W s1 rs' ∧ Prs W s2 F.ps ∧ Prs W s3 F.bs ∧ Pls W s4 F.ls
theorem CFs.below {F : CloF} {v1 v2 v3 v4 : Value} {W W' : World} (h : CFs F v1 v2 v3 v4 W) (hb : Below W.heap.size W W') : CFs F v1 v2 v3 v4 W' := by
 obtain ⟨rs', s1, k1, s2, k2, s3, k3, s4, k4, e, e1, e2, e3, e4, h1, h2, h3, h4⟩ := h
 exact ⟨rs', s1, k1, s2, k2, s3, k3, s4, k4, e, e1, e2, e3, e4, h1.below hb, h2.below hb, h3.below hb, h4.below hb⟩
theorem pls_own {w : World} {B : Nat} {v : Value} {pl : List LPl} (h : w.ownsRow B 131 2 v pl.length (enCells pl)) : ∃ sl cap, v = .slice sl pl.length cap ∧ Pls w sl pl := by
 obtain ⟨s, k, e, hi⟩ := own_pls h
 refine ⟨s, k, e, ?_⟩
 rcases hi with h | ⟨c, e, h, _⟩
 ·exact .inl h
 ·exact .inr ⟨c, 0, e, h⟩
theorem COw.fs {B : Nat} {F : CloF} {v1 v2 v3 v4 : Value} {W : World} (h : COw B F v1 v2 v3 v4 W) (hs : totB F.b ≤ 1048576) : CFs F v1 v2 v3 v4 W := by
 obtain ⟨rs', e, k⟩ := h
 obtain ⟨s1, k1, rfl, i1⟩ := k.fs.sts (by rw [totD_b, e]; exact hs)
 obtain ⟨s2, k2, rfl, i2⟩ := own_prs k.fp
 obtain ⟨s3, k3, rfl, i3⟩ := own_prs k.fb
 obtain ⟨s4, k4, rfl, i4⟩ := pls_own k.fl
 exact ⟨rs', s1, k1, s2, k2, s3, k3, s4, k4, e, rfl, rfl, rfl, rfl, i1, i2, i3, i4⟩
theorem COw.form {B : Nat} {F : CloF} {v1 v2 v3 v4 : Value} {W : World} (h : COw B F v1 v2 v3 v4 W) : ∃ s1 k1 s2 k2 s3 k3 s4 k4, v1 = .slice s1 F.b.length k1 ∧ v2 = .slice s2 F.ps.length k2 ∧ v3 = .slice s3 F.bs.length k3 ∧ v4 = .slice s4 F.ls.length k4 := by
 obtain ⟨rs', e, k⟩ := h
 obtain ⟨s1, k1, e1⟩ := own_v k.fs.r1
 obtain ⟨s2, k2, e2⟩ := own_v k.fp
 obtain ⟨s3, k3, e3⟩ := own_v k.fb
 obtain ⟨s4, k4, e4⟩ := own_v k.fl
 exact ⟨s1, k1, s2, k2, s3, k3, s4, k4, by rw [e1, ← e, bareS_lenQ], e2, e3, e4⟩
theorem COw.below {B : Nat} {F : CloF} {v1 v2 v3 v4 : Value} {W W' : World} (h : COw B F v1 v2 v3 v4 W) (hb : Below W.heap.size W W') : COw B F v1 v2 v3 v4 W' := by
 obtain ⟨rs', e, k⟩ := h
 exact ⟨rs', e, k.below hb⟩
theorem COw.btw {X Y B : Nat} {F : CloF} {v1 v2 v3 v4 : Value} {W W' : World} (h : COw B F v1 v2 v3 v4 W) (hb : Btw X Y W W') (hY : Y ≤ B) : COw B F v1 v2 v3 v4 W' := by
 obtain ⟨rs', e, k⟩ := h
 exact ⟨rs', e, k.btw hb hY⟩
def COl (T : Nat) (F : CloF) (v1 v2 v3 v4 : Value) (W : World) : Prop := ∃ W0, W0.heap.size ≤ T ∧ COw 0 F v1 v2 v3 v4 W0 ∧ Below W0.heap.size W0 W
theorem COw.low {B : Nat} {F : CloF} {v1 v2 v3 v4 : Value} {W : World} (h : COw B F v1 v2 v3 v4 W) : COl W.heap.size F v1 v2 v3 v4 W := by
 obtain ⟨rs', e, k⟩ := h
 exact ⟨W, Nat.le_refl _, ⟨rs', e, k.mono (Nat.zero_le _)⟩, Below.refl _ _⟩
theorem COl.btw {X Y T : Nat} {F : CloF} {v1 v2 v3 v4 : Value} {W W' : World} (h : COl T F v1 v2 v3 v4 W) (hb : Btw X Y W W') (hX : T ≤ X) : COl T F v1 v2 v3 v4 W' := by
 obtain ⟨W0, l0, k, b⟩ := h
 have b2 : Below W0.heap.size W W' := ⟨hb.os, hb.tape, hb.output, hb.size, fun k hk => hb.block k (Nat.lt_of_lt_of_le hk b.size) (.inl (Nat.lt_of_lt_of_le hk (Nat.le_trans l0 hX)))⟩
 exact ⟨W0, l0, k, b.trans b2⟩
theorem COl.below {C T : Nat} {F : CloF} {v1 v2 v3 v4 : Value} {W W' : World} (h : COl T F v1 v2 v3 v4 W) (hb : Below C W W') (hC : T ≤ C) (hC' : C ≤ W.heap.size) : COl T F v1 v2 v3 v4 W' := by
 obtain ⟨W0, l0, k, b⟩ := h
 exact ⟨W0, l0, k, b.trans (hb.mono (Nat.le_trans l0 hC))⟩
theorem COl.eq {T C : Nat} {F : CloF} {v1 v2 v3 v4 u1 u2 u3 u4 : Value} {W : World} (h' : COw C F u1 u2 u3 u4 W) (h : COl T F v1 v2 v3 v4 W) (z1 : F.b.length + totB F.b + F.ps.length ≤ 1048576) (z2 : F.bs.length ≤ 1048576) (z3 : F.ls.length ≤ 1048576) :
  Calls Tryz.prog 39 #[COV u1 u2 F.top F.pr F.st F.bu u3 u4 0 F.cd, COV v1 v2 F.top F.pr F.st F.bu v3 v4 0 F.cd] W fun e w' => e = .returned (.bool true) ∧ Below W.heap.size W w' := by
 obtain ⟨W0, l0, k, b⟩ := h
 obtain ⟨r1, s1, k1, s2, k2, s3, k3, s4, k4, e, rfl, rfl, rfl, rfl, i1, i2, i3, i4⟩ := (k.fs (by omega)).below b
 obtain ⟨r2, t1, j1, t2, j2, t3, j3, t4, j4, e', rfl, rfl, rfl, rfl, n1, n2, n3, n4⟩ := h'.fs (by omega)
 have hl : r2.length = F.b.length := by rw [← e', bareS_lenQ]
 exact eqCO_any t1 s1 j1 k1 t2 s2 j2 k2 F.top F.pr F.st F.bu 0 F.cd t3 s3 j3 k3 t4 s4 j4 k4 r2 r1 F.ps F.bs F.ls W (by omega) (by omega) z2 z3 (e'.trans e.symm) n1 i1 n2 i2 n3 i3 n4 i4
def COm (B : Nat) (F : CloF) (v1 v2 v3 v4 : Value) (W : World) : Prop := ∃ rs', bareS rs' = F.b ∧ OwK W B v1 v2 v3 v4 (mkR 1 rs') F.ps.length F.bs.length F.ls.length (valsZ (marks (1 + (szR rs' : Int)) (F.ps.length * 3))) (valsZ (marks (1 + (szR rs' : Int) + 3 * (F.ps.length : Int)) (F.bs.length * 3))) (valsZ (marks (1 + (szR rs' : Int) + 3 * (F.ps.length : Int) + 3 * (F.bs.length : Int)) (F.ls.length * 2)))
theorem COm.below {B : Nat} {F : CloF} {v1 v2 v3 v4 : Value} {W W' : World} (h : COm B F v1 v2 v3 v4 W) (hb : Below W.heap.size W W') : COm B F v1 v2 v3 v4 W' := by
 obtain ⟨rs', e, k⟩ := h
 exact ⟨rs', e, k.below hb⟩
theorem coN_eq {F : CloF} {rs' : List LSt} (e : bareS rs' = F.b) : coN F = 1 + (szR rs' : Int) + 3 * (F.ps.length : Int) + 3 * (F.bs.length : Int) + 2 * (F.ls.length : Int) := by
 unfold coN
 rw [szR_b, e]
theorem COw.mark {B : Nat} {F : CloF} {v1 v2 v3 v4 : Value} {W : World} (h : COw B F v1 v2 v3 v4 W) (hB : B ≤ W.heap.size) (z1 : F.b.length + totB F.b + F.ps.length ≤ 1048576) (z2 : F.bs.length ≤ 1048576) (z3 : F.ls.length ≤ 1048576) :
  Calls Tryz.prog 40 #[COV v1 v2 F.top F.pr F.st F.bu v3 v4 0 F.cd, .int .i64 1] W fun e w' => e = .returned (.int .i64 (coN F)) ∧ COm B F v1 v2 v3 v4 w' ∧ Below B W w' ∧ KC W w' := by
 obtain ⟨rs', e, k⟩ := h
 obtain ⟨s1, k1, rfl⟩ := own_v k.fs.r1
 obtain ⟨s2, k2, rfl⟩ := own_v k.fp
 obtain ⟨s3, k3, rfl⟩ := own_v k.fb
 obtain ⟨s4, k4, rfl⟩ := own_v k.fl
 have hl : rs'.length = F.b.length := by rw [← e, bareS_lenQ]
 rw [coN_eq e]
 refine (mkCO_any B s1 k1 rs'.length s2 k2 F.ps.length s3 k3 F.bs.length s4 k4 F.ls.length F.top F.pr F.st F.bu 0 F.cd rs' _ _ _ W rfl (by rw [totD_b, e]; omega) z2 z3 hB k).mono ?_
 rintro e2 w' ⟨h1, h2, h3, h4⟩
 exact ⟨h1, ⟨rs', e, h2⟩, h3, h4⟩
theorem COm.held {B : Nat} {F : CloF} {v1 v2 v3 v4 : Value} {W : World} (h : COm B F v1 v2 v3 v4 W) (z1 : F.b.length + totB F.b + F.ps.length ≤ 1048576) (z2 : F.bs.length ≤ 1048576) (z3 : F.ls.length ≤ 1048576) :
  Calls Tryz.prog 41 #[COV v1 v2 F.top F.pr F.st F.bu v3 v4 0 F.cd, .int .i64 1] W fun e w' => e = .returned (.int .i64 (coN F)) ∧ Below W.heap.size W w' := by
 obtain ⟨rs', e, k⟩ := h
 have h1 := k.fs.r1
 rw [mkR_len] at h1
 obtain ⟨s1, k1, rfl⟩ := own_v h1
 obtain ⟨s2, k2, rfl⟩ := own_v k.fp
 obtain ⟨s3, k3, rfl⟩ := own_v k.fb
 obtain ⟨s4, k4, rfl⟩ := own_v k.fl
 have hl : rs'.length = F.b.length := by rw [← e, bareS_lenQ]
 rw [coN_eq e]
 exact hdCO_any B s1 k1 rs'.length s2 k2 F.ps.length s3 k3 F.bs.length s4 k4 F.ls.length F.top F.pr F.st F.bu 0 F.cd rs' W rfl (by rw [totD_b, e]; omega) z2 z3 k
theorem cloF_bare {rs rs' : List LSt} (ps : List LPr) (top pr st bu : Int) (ids : List Int) (h : bareS rs' = bareS rs) : cloF rs' ps top pr st bu ids = cloF rs ps top pr st bu ids := by
 unfold cloF
 rw [idsR_bare ps ids h, askF_bare ps top ids bu h, h]
theorem cloF_small (rs : List LSt) (ps : List LPr) (top pr st bu : Int) (ids : List Int) (hs : rs.length + totD rs + ps.length ≤ 1048576) : (cloF rs ps top pr st bu ids).b.length + totB (cloF rs ps top pr st bu ids).b + (cloF rs ps top pr st bu ids).ps.length ≤ 1048576 ∧ (cloF rs ps top pr st bu ids).bs.length ≤ 1048576 ∧ (cloF rs ps top pr st bu ids).ls.length ≤ 1048576 := by
 classical
 have h0 : ∀ c, (cloN c).b.length + totB (cloN c).b + (cloN c).ps.length ≤ 1048576 ∧ (cloN c).bs.length ≤ 1048576 ∧ (cloN c).ls.length ≤ 1048576 := fun c => by simp [cloN, totB]
 unfold cloF
 split
 ·exact h0 _
 ·split
  ·exact h0 _
  ·split
   ·exact h0 _
   ·refine ⟨?_, ?_, (askF_small rs ps top ids bu).1⟩
    ·show (bareS rs).length + totB (bareS rs) + ps.length ≤ 1048576
     rw [← totD_b, bareS_lenQ]
     exact hs
    ·show (bidF pr ids (bareS rs)).length ≤ 1048576
     rw [bidF_len, bareS_lenQ]
     omega
set_option maxRecDepth 100000 in
set_option maxHeartbeats 8000000 in
theorem law7 (sl : Option Addr) (cap : Nat) (sl2 : Option Addr) (cap2 : Nat) (sl3 : Option Addr) (cap3 : Nat) (rs : List LSt) (ps : List LPr) (l3 : List Int) (top pr st bud : Int) (w : World) (hT : TabB w) (h : InT w sl sl2 rs ps) (hl3 : l3.length ≤ maxLen) (h3 : Ints w sl3 l3) :
  Calls Tryz.prog 7 #[TV sl rs.length cap sl2 ps.length cap2, .int .i64 top, .int .i64 pr, .int .i64 st, .int .i64 bud, .slice sl3 l3.length cap3] w fun e w' => e = .returned (.bool true) ∧ Below w.heap.size w w' := by
 have hm3 := hl3
 unfold maxLen at hm3
 by_cases hz3 : 1048576 < l3.length
 ·have hz3' : (1048576 : Int) < (l3.length : Int) := by omega
  clear h h3
  generalize rs.length = n at *
  generalize ps.length = m at *
  generalize l3.length = q at *
  go_enter Tryz.func7, Tryz.ntmps7
  go_wp2
  go_ret
  exact ⟨rfl, bA0 _ _⟩
 have hz3' : ¬ (1048576 : Int) < (l3.length : Int) := by omega
 have hz3 : l3.length ≤ 1048576 := by omega
 have SZ : Hid (∀ W, Below w.heap.size w W → Calls Tryz.prog 17 #[TV sl rs.length cap sl2 ps.length cap2, .int .i64 1048576] W fun e w' => e = .returned (.int .i64 (lft 1048576 (rs.length + totD rs + ps.length))) ∧ Below W.heap.size W w') := fun W hW => szTab_any sl cap sl2 _ cap2 rs W h.ln h.lp (h.st.below hW)
 rcases lft_cases 1048576 (rs.length + totD rs + ps.length) (by omega) with ⟨e, hl⟩ | ⟨e, hl⟩
 ·rw [e] at SZ
  clear h h3 e hl
  generalize rs.length = n at *
  generalize ps.length = m at *
  generalize l3.length = q at *
  go_enter Tryz.func7, Tryz.ntmps7
  go_wp2_with fail
  refine (SZ.out _ (bA0 _ _)).mono ?_
  rintro e w1 ⟨rfl, b1⟩
  have D1 := Lib.hid (bT (bA0 w _) b1)
  clear b1
  go_wp2
  go_ret
  exact ⟨rfl, D1.out⟩
 rw [e] at SZ
 have hs : Sts w sl rs := h.st.small (by omega)
 have TO : Hid (∀ W, Below w.heap.size w W → Calls Tryz.prog 19 #[TV sl rs.length cap sl2 ps.length cap2] W fun e w' => ∃ b1 b2 rs', e = .returned (TV (some ⟨b1, 0, none⟩) rs.length rs.length (some ⟨b2, 0, none⟩) ps.length ps.length) ∧ bareS rs' = bareS rs ∧ OwnT W.heap.size w' b1 b2 rs' ps ∧ Below W.heap.size W w') := fun W hW => toTO_any sl cap sl2 cap2 rs ps W (by omega) (by omega) (hs.below hW) (h.pr.below hW)
 have TP : Hid (∀ W, Below w.heap.size w W → Calls Tryz.prog 20 #[.slice sl3 l3.length cap3] W fun e w' => e = .returned (.slice (some ⟨W.heap.size, 0, none⟩) l3.length l3.length) ∧ RowZ w' W.heap.size l3 ∧ Below W.heap.size W w') := fun W hW => toO_any sl3 cap3 l3 W hz3 (h3.below hW)
 have EQ : Hid (∀ c d W, RowZ W c l3 → RowZ W d l3 → Calls Tryz.prog 24 #[.slice (some ⟨c, 0, none⟩) l3.length l3.length, .slice (some ⟨d, 0, none⟩) l3.length l3.length] W fun e w' => e = .returned (.bool true) ∧ Below W.heap.size W w') := fun c d W a b => eq_any _ _ _ _ l3 W hl3 a.ints b.ints
 have SP : Hid (∀ b1 b2 rs' c C W, bareS rs' = bareS rs → OwnT C W b1 b2 rs' ps → RowZ W c l3 → Calls Tryz.prog 37 #[TV (some ⟨b1, 0, none⟩) rs.length rs.length (some ⟨b2, 0, none⟩) ps.length ps.length, .int .i64 top, .int .i64 pr, .int .i64 st, .int .i64 bud, .slice (some ⟨c, 0, none⟩) l3.length l3.length] W fun e w' => ∃ v1 v2 v3 v4, e = .returned (COV v1 v2 (cloF rs ps top pr st bud l3).top (cloF rs ps top pr st bud l3).pr (cloF rs ps top pr st bud l3).st (cloF rs ps top pr st bud l3).bu v3 v4 0 (cloF rs ps top pr st bud l3).cd) ∧ COw W.heap.size (cloF rs ps top pr st bud l3) v1 v2 v3 v4 w' ∧ Below W.heap.size W w') := fun b1 b2 rs' c C W eb o i => by
  have hl' := bareS_len eb
  have := scl_any (some ⟨b1, 0, none⟩) rs.length (some ⟨b2, 0, none⟩) ps.length top pr st bud (some ⟨c, 0, none⟩) l3.length rs' ps l3 W _ (cloF_bare ps top pr st bud l3 eb) (by omega) (by omega) hz3 o.sts o.prs i.ints
  rw [hl'] at this
  exact this
 have IM : Hid (∀ b1 b2 rs' c C W, Below w.heap.size w W → bareS rs' = bareS rs → OwnT C W b1 b2 rs' ps → RowZ W c l3 → Calls Tryz.prog 38 #[TV (some ⟨b1, 0, none⟩) rs.length rs.length (some ⟨b2, 0, none⟩) ps.length ps.length, .int .i64 top, .int .i64 pr, .int .i64 st, .int .i64 bud, .slice (some ⟨c, 0, none⟩) l3.length l3.length] W fun e w' => ∃ v1 v2 v3 v4, e = .returned (COV v1 v2 (cloF rs ps top pr st bud l3).top (cloF rs ps top pr st bud l3).pr (cloF rs ps top pr st bud l3).st (cloF rs ps top pr st bud l3).bu v3 v4 0 (cloF rs ps top pr st bud l3).cd) ∧ COw W.heap.size (cloF rs ps top pr st bud l3) v1 v2 v3 v4 w' ∧ Below W.heap.size W w') := fun b1 b2 rs' c C W hW eb o i => by
  have hl' := bareS_len eb
  have := icl_any (some ⟨b1, 0, none⟩) rs.length (some ⟨b2, 0, none⟩) ps.length top pr st bud (some ⟨c, 0, none⟩) l3.length rs' ps l3 W _ (cloF_bare ps top pr st bud l3 eb) (by omega) (by omega) hz3 o.sts o.prs h.wf i.ints (hT.belowT hW)
  rw [hl'] at this
  exact this
 have TE : Hid (∀ b1 b2 rs1 c1 c2 rs2 W, bareS rs1 = bareS rs → bareS rs2 = bareS rs → Sts W (some ⟨b1, 0, none⟩) rs1 → Prs W (some ⟨b2, 0, none⟩) ps → Sts W (some ⟨c1, 0, none⟩) rs2 → Prs W (some ⟨c2, 0, none⟩) ps → Calls Tryz.prog 23 #[TV (some ⟨b1, 0, none⟩) rs.length rs.length (some ⟨b2, 0, none⟩) ps.length ps.length, TV (some ⟨c1, 0, none⟩) rs.length rs.length (some ⟨c2, 0, none⟩) ps.length ps.length] W fun e w' => e = .returned (.bool true) ∧ Below W.heap.size W w') := fun b1 b2 rs1 c1 c2 rs2 W e1 e2 s1 p1 s2 p2 => by
  have := eqT_any (some ⟨b1, 0, none⟩) (some ⟨c1, 0, none⟩) rs.length rs.length (some ⟨b2, 0, none⟩) (some ⟨c2, 0, none⟩) ps.length ps.length rs1 rs2 ps W (by rw [bareS_len e1]; omega) (by omega) (e1.trans e2.symm) s1 s2 p1 p2
  rwa [bareS_len e1, bareS_len e2] at this
 have MT : Hid (∀ C b1 b2 rs' w0 W, bareS rs' = bareS rs → OwnT C w0 b1 b2 rs' ps → Below w0.heap.size w0 W → Calls Tryz.prog 25 #[TV (some ⟨b1, 0, none⟩) rs.length rs.length (some ⟨b2, 0, none⟩) ps.length ps.length, .int .i64 1] W fun e w' => ∃ k : Int, (0 ≤ k ∧ k ≤ 4000000) ∧ e = .returned (.int .i64 k) ∧ Btw C w0.heap.size W w') := fun C b1 b2 rs' w0 W eb o hb => by
  have o' := o.below hb
  have stm := o.stM.below hb
  have hl' := bareS_len eb
  have ht : totD rs' = totD rs := by
   have := congrArg (List.map fun r : Int × Int × List Int => r.2.2.length) eb
   unfold totD
   simpa [bareS, Function.comp_def] using congrArg List.sum this
  have hP : PrM W b2 ps.length := by obtain ⟨vs, a, b, _⟩ := o'.r2; exact ⟨vs, a, b⟩
  have hSum : rs'.length + totD rs' + ps.length ≤ 1048576 := by rw [hl', ht]; omega
  have := mkTG_any C w0.heap.size b1 b2 rs' ps.length hSum W stm hP o.lo2 o.r2.lt hb.size
  rw [hl'] at this
  exact this.mono fun e w' ⟨k, k0, he, hg, _⟩ => ⟨k, k0, he, hg⟩
 have MI : Hid (∀ (k : Int) b W, 0 ≤ k → k ≤ 1000000000 → RowZ W b l3 → Calls Tryz.prog 26 #[.slice (some ⟨b, 0, none⟩) l3.length l3.length, .int .i64 k] W fun e w' => e = .returned (.int .i64 (k + (l3.length : Int))) ∧ Only b W w') := fun k b W k0 k1 z => (mark_some b l3.length l3.length l3.length k hz3 (Nat.le_refl _) k0 k1 W ⟨_, z, vs_size _ _ (Nat.le_refl _), fun j hj => absurd hj (Nat.not_lt_zero _)⟩).mono fun e w' ⟨h1, _, h2⟩ => ⟨h1, h2⟩
 obtain ⟨hz1, hz2, hz3q⟩ := cloF_small rs ps top pr st bud l3 (by omega)
 have hneg : ¬ ((1048576 : Int) - ((rs.length + totD rs + ps.length : Nat) : Int)) < 0 := by omega
 have hq3 : (l3.length : Int) ≤ 1048576 := by omega
 clear h hs e hl h3 hT
 generalize (1048576 : Int) - ((rs.length + totD rs + ps.length : Nat) : Int) = z at *
 generalize rs.length = n at *
 generalize ps.length = m at *
 generalize l3.length = q at *
 generalize (cloF rs ps top pr st bud l3) = F at *
 have EA : Hid (∀ T C v1 v2 v3 v4 u1 u2 u3 u4 W, COw C F u1 u2 u3 u4 W → COl T F v1 v2 v3 v4 W → Calls Tryz.prog 39 #[COV u1 u2 F.top F.pr F.st F.bu u3 u4 0 F.cd, COV v1 v2 F.top F.pr F.st F.bu v3 v4 0 F.cd] W fun e w' => e = .returned (.bool true) ∧ Below W.heap.size W w') := fun T C v1 v2 v3 v4 u1 u2 u3 u4 W a b => COl.eq a b hz1 hz2 hz3q
 have MA : Hid (∀ B v1 v2 v3 v4 W, COw B F v1 v2 v3 v4 W → B ≤ W.heap.size → Calls Tryz.prog 40 #[COV v1 v2 F.top F.pr F.st F.bu v3 v4 0 F.cd, .int .i64 1] W fun e w' => e = .returned (.int .i64 (coN F)) ∧ COm B F v1 v2 v3 v4 w' ∧ Below B W w' ∧ KC W w') := fun B v1 v2 v3 v4 W a b => COw.mark a b hz1 hz2 hz3q
 have HA : Hid (∀ B v1 v2 v3 v4 W, COm B F v1 v2 v3 v4 W → Calls Tryz.prog 41 #[COV v1 v2 F.top F.pr F.st F.bu v3 v4 0 F.cd, .int .i64 1] W fun e w' => e = .returned (.int .i64 (coN F)) ∧ Below W.heap.size W w') := fun B v1 v2 v3 v4 W a => COm.held a hz1 hz2 hz3q
 have hk9 : ¬ coN F < 0 := by unfold coN; omega
 clear hz1 hz2 hz3q
 generalize coN F = kq at *
 have HFORM : Hid (∀ B v1 v2 v3 v4 W, COw B F v1 v2 v3 v4 W → ∃ s1 k1 s2 k2 s3 k3 s4 k4, v1 = .slice s1 F.b.length k1 ∧ v2 = .slice s2 F.ps.length k2 ∧ v3 = .slice s3 F.bs.length k3 ∧ v4 = .slice s4 F.ls.length k4) := fun B v1 v2 v3 v4 W a => a.form
 have hkk : (kq != kq) = false := by simp
 have HT := Lib.hid (show (w.alloc (.cells #[.slice sl n cap, .slice sl2 m cap2] 46)).heap[w.heap.size]? = some (.cells #[.slice sl n cap, .slice sl2 m cap2] 46) from new_at _ _)
 have B0 := Lib.hid (bA0 w (.cells #[.slice sl n cap, .slice sl2 m cap2] 46))
 have hw0 : (w.alloc (.cells #[.slice sl n cap, .slice sl2 m cap2] 46)).heap.size = w.heap.size + 1 := by simp
 have KT : Hid (∀ W, Below (w.heap.size + 1) (w.alloc (.cells #[.slice sl n cap, .slice sl2 m cap2] 46)) W → w.heap.size < W.heap.size ∧ W.cell? ⟨w.heap.size, 0, none⟩ = some (.slice sl n cap) ∧ W.cell? ⟨w.heap.size, 1, none⟩ = some (.slice sl2 m cap2)) := fun W hW => by
  have := (hW.block w.heap.size (by omega)).trans HT.out
  exact ⟨(Array.getElem?_eq_some_iff.1 this).1, by simp [World.cell?, this], by simp [World.cell?, this]⟩
 clear HT
 go_enter Tryz.func7, Tryz.ntmps7
 go_wp2_with fail
 refine (SZ.out _ (bA0 _ _)).mono ?_
 rintro e w1 ⟨rfl, b1⟩
 generalize w.alloc (.cells #[.slice sl n cap, .slice sl2 m cap2] 46) = wA at *
 have A1 : Hid (Below (w.heap.size + 1) wA w1) := by rw [← hw0]; exact b1
 have D1 := Lib.hid (bT B0.out b1)
 clear b1 SZ
 obtain ⟨tl, t0, t1⟩ := KT.out _ A1.out
 have hs1 := A1.out.size
 go_wp2_with fail
 refine (TO.out _ D1.out).mono ?_
 rintro e w2 ⟨b1, b2, rs1, rfl, e1, o1, bl2⟩
 have D2 := Lib.hid (bT D1.out bl2)
 have A2 := Lib.hid (A1.out.trans (bl2.mono (by omega)))
 have O2 := Lib.hid o1
 have hs2 := A2.out.size
 clear o1 bl2 A1 D1 t0 t1 tl
 go_wp2_with fail
 refine (TP.out _ D2.out).mono ?_
 rintro e w2b ⟨rfl, i2, bl2⟩
 have D2b := Lib.hid (bT D2.out bl2)
 have A2b := Lib.hid (A2.out.trans (bl2.mono (by omega)))
 have T2 := Lib.hid (SP.out b1 b2 rs1 _ _ w2b e1 (O2.out.below bl2) i2)
 have hs2b := A2b.out.size
 clear i2 bl2 e1 O2 A2 D2
 go_wp2_with fail
 refine T2.out.mono ?_
 rintro e w3 ⟨x1, x2, x3, x4, rfl, q3, bl3⟩
 obtain ⟨a0, ka0, b0, kb0, c0, kc0, d0, kd0, rfl, rfl, rfl, rfl⟩ := HFORM.out _ _ _ _ _ _ q3
 have V3 := Lib.hid (q3.low)
 have D3 := Lib.hid (bT D2b.out bl3)
 have A3 := Lib.hid (A2b.out.trans (bl3.mono (by omega)))
 have hs3 := A3.out.size
 have hd3 := D3.out.size
 have X3 := Lib.hid (new_at w3 (COC (.slice a0 F.b.length ka0) (.slice b0 F.ps.length kb0) F.top F.pr F.st F.bu (.slice c0 F.bs.length kc0) (.slice d0 F.ls.length kd0) 0 F.cd))
 have N3 := Lib.hid (bA0 w3 (COC (.slice a0 F.b.length ka0) (.slice b0 F.ps.length kb0) F.top F.pr F.st F.bu (.slice c0 F.bs.length kc0) (.slice d0 F.ls.length kd0) 0 F.cd))
 have hsa : (w3.alloc (COC (.slice a0 F.b.length ka0) (.slice b0 F.ps.length kb0) F.top F.pr F.st F.bu (.slice c0 F.bs.length kc0) (.slice d0 F.ls.length kd0) 0 F.cd)).heap.size = w3.heap.size + 1 := by simp
 have V3a := Lib.hid (V3.out.below N3.out (Nat.le_refl _) (Nat.le_refl _))
 have D3a := Lib.hid (bT D3.out N3.out)
 have A3a := Lib.hid (A3.out.trans (N3.out.mono (by omega)))
 clear q3 bl3 T2 A2b D2b V3 N3 A3 D3
 obtain ⟨tl, t0, t1⟩ := KT.out _ A3a.out
 go_wp2_with fail
 generalize w3.alloc (COC (.slice a0 F.b.length ka0) (.slice b0 F.ps.length kb0) F.top F.pr F.st F.bu (.slice c0 F.bs.length kc0) (.slice d0 F.ls.length kd0) 0 F.cd) = w3a at *
 refine (TO.out _ D3a.out).mono ?_
 rintro e w4 ⟨c1, c2, rs2, rfl, e2, o2, bl4⟩
 have D4 := Lib.hid (bT D3a.out bl4)
 have A4 := Lib.hid (A3a.out.trans (bl4.mono (by omega)))
 have E4 := Lib.hid e2
 have O4 := Lib.hid o2
 have V4 := Lib.hid (V3a.out.below bl4 (by omega) (Nat.le_refl _))
 have X4 := Lib.hid ((bl4.block w3.heap.size (by omega)).trans X3.out)
 have hs4 := bl4.size
 have N4 := Lib.hid (bA0 w4 (.cells #[.slice (some ⟨c1, 0, none⟩) n n, .slice (some ⟨c2, 0, none⟩) m m] 26))
 have Y4 := Lib.hid (new_at w4 (.cells #[.slice (some ⟨c1, 0, none⟩) n n, .slice (some ⟨c2, 0, none⟩) m m] 26))
 have HSB := Lib.hid (show (w4.alloc (.cells #[.slice (some ⟨c1, 0, none⟩) n n, .slice (some ⟨c2, 0, none⟩) m m] 26)).heap.size = w4.heap.size + 1 by simp)
 have D4a := Lib.hid (bT D4.out N4.out)
 clear e2 o2 bl4 A3a D3a V3a X3 t0 t1 tl
 go_wp2_with fail
 generalize w4.alloc (.cells #[.slice (some ⟨c1, 0, none⟩) n n, .slice (some ⟨c2, 0, none⟩) m m] 26) = w4a at *
 refine (TP.out _ D4a.out).mono ?_
 rintro e w5 ⟨rfl, i5, bl5⟩
 have G5 := Lib.hid (bT N4.out bl5)
 have Z5 := Lib.hid i5
 have Y5 := Lib.hid ((bl5.block w4.heap.size (by have := HSB.out; omega)).trans Y4.out)
 have hz5 := Z5.out.lt
 have D5 := Lib.hid (bT D4a.out bl5)
 have hs5 := bl5.size
 have T6 := Lib.hid (IM.out c1 c2 rs2 _ _ w5 D5.out E4.out (O4.out.below G5.out) i5)
 clear i5 bl5 N4 Y4 D4a
 obtain ⟨y0, y1⟩ := TabAtD.cells (show TabAtD w5 w4.heap.size (some ⟨c1, 0, none⟩) n n (some ⟨c2, 0, none⟩) m m from Y5.out)
 have yl := TabAtD.lt (show TabAtD w5 w4.heap.size (some ⟨c1, 0, none⟩) n n (some ⟨c2, 0, none⟩) m m from Y5.out)
 go_wp2_with fail
 refine T6.out.mono ?_
 rintro e w6 ⟨x1, x2, x3, x4, rfl, q6, bl6⟩
 obtain ⟨a6, ka6, b6, kb6, c6, kc6, d6, kd6, rfl, rfl, rfl, rfl⟩ := HFORM.out _ _ _ _ _ _ q6
 have G6 := Lib.hid (bT G5.out bl6)
 have R6 := Lib.hid q6
 have Z6 := Lib.hid (Z5.out.below bl6)
 have hs6 := bl6.size
 have X6 := Lib.hid (new_at w6 (COC (.slice a6 F.b.length ka6) (.slice b6 F.ps.length kb6) F.top F.pr F.st F.bu (.slice c6 F.bs.length kc6) (.slice d6 F.ls.length kd6) 0 F.cd))
 have N6 := Lib.hid (bA0 w6 (COC (.slice a6 F.b.length ka6) (.slice b6 F.ps.length kb6) F.top F.pr F.st F.bu (.slice c6 F.bs.length kc6) (.slice d6 F.ls.length kd6) 0 F.cd))
 have hsc : (w6.alloc (COC (.slice a6 F.b.length ka6) (.slice b6 F.ps.length kb6) F.top F.pr F.st F.bu (.slice c6 F.bs.length kc6) (.slice d6 F.ls.length kd6) 0 F.cd)).heap.size = w6.heap.size + 1 := by simp
 have G6a := Lib.hid (bT G6.out N6.out)
 have Y6 := Lib.hid ((bl6.block w4.heap.size yl).trans Y5.out)
 clear q6 bl6 T6 G5 Y5 y0 y1 yl D5
 have R6a := Lib.hid (R6.out.below N6.out)
 have V6a := Lib.hid (V4.out.below G6a.out (by have := HSB.out; omega) (Nat.le_refl _))
 have P6a := Lib.hid ((G6a.out.block w3.heap.size (by have := HSB.out; omega)).trans X4.out)
 obtain ⟨p0, p1, p2, p3, p4, p5, p6, p7, p8, p9, p10, p11, pl⟩ := cells12 P6a.out
 obtain ⟨r0, r1, r2, r3, r4, r5, r6, r7, r8, r9, r10, r11, rl⟩ := cells12 X6.out
 have T7 := Lib.hid (EA.out _ _ (.slice a0 F.b.length ka0) (.slice b0 F.ps.length kb0) (.slice c0 F.bs.length kc0) (.slice d0 F.ls.length kd0) (.slice a6 F.b.length ka6) (.slice b6 F.ps.length kb6) (.slice c6 F.bs.length kc6) (.slice d6 F.ls.length kd6) _ R6a.out V6a.out)
 have Y6a := Lib.hid ((N6.out.block w4.heap.size (Array.getElem?_eq_some_iff.1 Y6.out).1).trans Y6.out)
 have Z6a := Lib.hid (Z6.out.below N6.out)
 clear V4 X4 G6 R6 N6 Y6 Z5 Z6
 go_wp2_with fail
 generalize w6.alloc (COC (.slice a6 F.b.length ka6) (.slice b6 F.ps.length kb6) F.top F.pr F.st F.bu (.slice c6 F.bs.length kc6) (.slice d6 F.ls.length kd6) 0 F.cd) = w6a at *
 refine T7.out.mono ?_
 rintro e w7 ⟨rfl, bl7⟩
 have G7 := Lib.hid (bT G6a.out bl7)
 have D7 := Lib.hid (bT D4.out G7.out)
 have A7 := Lib.hid (A4.out.trans (G7.out.mono (by have := HSB.out; omega)))
 have R7 := Lib.hid (R6a.out.below bl7)
 have V7 := Lib.hid (V6a.out.below bl7 (by have := HSB.out; omega) (Nat.le_refl _))
 have P7 := Lib.hid ((bl7.block w3.heap.size pl).trans P6a.out)
 have X7 := Lib.hid ((bl7.block w6.heap.size rl).trans X6.out)
 have Y7 := Lib.hid ((bl7.block w4.heap.size (Array.getElem?_eq_some_iff.1 Y6a.out).1).trans Y6a.out)
 have Z7 := Lib.hid (Z6a.out.below bl7)
 have hs7 := bl7.size
 clear bl7 T7 G6a R6a V6a P6a X6 Y6a Z6a p0 p1 p2 p3 p4 p5 p6 p7 p8 p9 p10 p11 pl r0 r1 r2 r3 r4 r5 r6 r7 r8 r9 r10 r11 rl
 have KX : Hid (∀ W, Below w7.heap.size w7 W → w.heap.size < W.heap.size ∧ w4.heap.size < W.heap.size ∧ W.cell? ⟨w.heap.size, 0, none⟩ = some (.slice sl n cap) ∧ W.cell? ⟨w.heap.size, 1, none⟩ = some (.slice sl2 m cap2) ∧ W.cell? ⟨w4.heap.size, 0, none⟩ = some (.slice (some ⟨c1, 0, none⟩) n n) ∧ W.cell? ⟨w4.heap.size, 1, none⟩ = some (.slice (some ⟨c2, 0, none⟩) m m)) := fun W hW => by
  obtain ⟨k1, k2, k3⟩ := KT.out W (A7.out.trans (hW.mono (by have := HSB.out; omega)))
  have yb : TabAtD W w4.heap.size (some ⟨c1, 0, none⟩) n n (some ⟨c2, 0, none⟩) m m := (hW.block _ (Array.getElem?_eq_some_iff.1 Y7.out).1).trans Y7.out
  obtain ⟨k4, k5⟩ := yb.cells
  exact ⟨k1, yb.lt, k2, k3, k4, k5⟩
 go_wp2_with fail
 refine wp_region_held_drew (S := fun W => w.heap.size < W.heap.size ∧ w4.heap.size < W.heap.size ∧ W.cell? ⟨w.heap.size, 0, none⟩ = some (.slice sl n cap) ∧ W.cell? ⟨w.heap.size, 1, none⟩ = some (.slice sl2 m cap2) ∧ W.cell? ⟨w4.heap.size, 0, none⟩ = some (.slice (some ⟨c1, 0, none⟩) n n) ∧ W.cell? ⟨w4.heap.size, 1, none⟩ = some (.slice (some ⟨c2, 0, none⟩) m m)) (by kernel_rfl) ?_ (fun hHeld => ?_)
 ·exact KX.out _ (Below.refl _ _).drew
 refine tw (i := 0) rfl ?_
 refine tw (i := 1) rfl ?_
 try simp only [Act.put, List.setIfInBounds_toArray, List.set_cons_zero, List.set_cons_succ, List.getElem_toArray, List.getElem_cons_succ, List.getElem_cons_zero]
 refine wpAnyH_ready (rs := [2]) (by kernel_rfl) (by simp) ?_
 refine AllReadyH.cons rfl (fun K hK => ?_) AllReadyH.nil
 go_simp
 go_wp2_with (go_at_call 19; refine (TO.out _ D7.out.drew).mono ?_; rintro e w8 ⟨d1, d2, rs3, rfl, e3, o3, bl8⟩)
 have F8 : Hid (Below w7.heap.size w7 w8) := bT ((Below.refl w7.heap.size w7).drew) bl8
 have O8 := Lib.hid o3
 have E8 := Lib.hid e3
 clear bl8 o3 e3
 refine hK.out _ _ ?_ (fun hHeld => ?_)
 ·exact KX.out _ F8.out
 clear hK K
 refine wpAnyH_ready (rs := [3]) (by kernel_rfl) (by simp) ?_
 refine AllReadyH.cons rfl (fun K hK => ?_) AllReadyH.nil
 go_simp
 go_wp2_with (go_at_call 23; refine (TE.out c1 c2 rs2 d1 d2 rs3 _ E4.out E8.out (((O4.out.below G7.out).below F8.out).sts) (((O4.out.below G7.out).below F8.out).prs) O8.out.sts O8.out.prs).mono ?_; rintro e w9 ⟨rfl, bl9⟩)
 have F9 : Hid (Below w7.heap.size w7 w9) := bT F8.out bl9
 clear bl9
 refine hK.out _ _ ?_ (fun hHeld => ?_)
 ·exact KX.out _ F9.out
 clear hK K
 refine tw (i := 4) rfl ?_
 try simp only [Act.put, List.setIfInBounds_toArray, List.set_cons_zero, List.set_cons_succ, List.getElem_toArray, List.getElem_cons_succ, List.getElem_cons_zero]
 refine wpAnyH_done (by kernel_rfl) ?_ _
 have G9 := Lib.hid (bT G7.out F9.out)
 have D9 := Lib.hid (bT D7.out F9.out)
 have A9 := Lib.hid (A7.out.trans (F9.out.mono (by have := HSB.out; omega)))
 have R9 := Lib.hid (R7.out.below F9.out)
 have V9 := Lib.hid (V7.out.below F9.out (by have := HSB.out; omega) (Nat.le_refl _))
 have P9 := Lib.hid ((F9.out.block w3.heap.size (Array.getElem?_eq_some_iff.1 P7.out).1).trans P7.out)
 have X9 := Lib.hid ((F9.out.block w6.heap.size (Array.getElem?_eq_some_iff.1 X7.out).1).trans X7.out)
 have Y9 := Lib.hid ((F9.out.block w4.heap.size (Array.getElem?_eq_some_iff.1 Y7.out).1).trans Y7.out)
 have Z9 := Lib.hid (Z7.out.below F9.out)
 have hs9 := F9.out.size
 clear F9 F8 KX O8 E8 TE G7 D7 A7 R7 V7 P7 X7 Y7 Z7
 go_wp2_with fail
 refine (TP.out _ D9.out).mono ?_
 rintro e w10 ⟨rfl, i10, bl10⟩
 have T11 := Lib.hid (EQ.out _ _ w10 (Z9.out.below bl10) i10)
 have F10 := Lib.hid bl10
 clear i10 bl10
 go_wp2_with fail
 refine T11.out.mono ?_
 rintro e w11 ⟨rfl, bl11⟩
 have F11 := Lib.hid (bT F10.out bl11)
 have G11 := Lib.hid (bT G9.out F11.out)
 have D11 := Lib.hid (bT D9.out F11.out)
 have A11 := Lib.hid (A9.out.trans (F11.out.mono (by have := HSB.out; omega)))
 have R11 := Lib.hid (R9.out.below F11.out)
 have V11 := Lib.hid (V9.out.below F11.out (by have := HSB.out; omega) (Nat.le_refl _))
 have P11 := Lib.hid ((F11.out.block w3.heap.size (Array.getElem?_eq_some_iff.1 P9.out).1).trans P9.out)
 have X11 := Lib.hid ((F11.out.block w6.heap.size (Array.getElem?_eq_some_iff.1 X9.out).1).trans X9.out)
 have Y11 := Lib.hid ((F11.out.block w4.heap.size (Array.getElem?_eq_some_iff.1 Y9.out).1).trans Y9.out)
 have Z11 := Lib.hid (Z9.out.below F11.out)
 have hs11 := F11.out.size
 clear bl11 F10 F11 T11 G9 D9 A9 R9 V9 P9 X9 Y9 Z9 EQ
 have M12 := Lib.hid (MT.out _ c1 c2 rs2 w4 w11 E4.out O4.out G11.out)
 obtain ⟨y0, y1⟩ := TabAtD.cells (show TabAtD w11 w4.heap.size (some ⟨c1, 0, none⟩) n n (some ⟨c2, 0, none⟩) m m from Y11.out)
 have yl := TabAtD.lt (show TabAtD w11 w4.heap.size (some ⟨c1, 0, none⟩) n n (some ⟨c2, 0, none⟩) m m from Y11.out)
 go_wp2_with fail
 refine M12.out.mono ?_
 rintro e w12 ⟨k, ⟨k0, k1⟩, rfl, g12⟩
 have D12 := Lib.hid (D11.out.trans ((g12.below (by have := HSB.out; omega)).mono (by have := HSB.out; omega)))
 have A12 := Lib.hid (A11.out.trans ((g12.below (by have := HSB.out; omega)).mono (by have := HSB.out; omega)))
 have R12 := Lib.hid (R11.out.btw g12 (by have := HSB.out; omega))
 have V12 := Lib.hid (V11.out.btw g12 (by have := HSB.out; omega))
 have P12 := Lib.hid ((g12.block w3.heap.size (Array.getElem?_eq_some_iff.1 P11.out).1 (.inl (by have := HSB.out; omega))).trans P11.out)
 have X12 := Lib.hid ((g12.block w6.heap.size (Array.getElem?_eq_some_iff.1 X11.out).1 (.inr (by have := HSB.out; omega))).trans X11.out)
 have Z12 := Lib.hid (Z11.out.frame (g12.block w4a.heap.size Z11.out.lt (.inr (by have := HSB.out; omega))))
 have hs12 := g12.size
 clear g12 M12 MT G11 D11 A11 R11 V11 P11 X11 Y11 Z11 y0 y1 yl O4 E4
 go_wp2_with fail
 refine (MI.out _ _ _ k0 (by have := HSB.out; omega) Z12.out).mono ?_
 rintro e w13 ⟨rfl, o13⟩
 have g13 := btw_only o13
 have D13 := Lib.hid (D12.out.trans ((g13.below (by have := HSB.out; have := Z12.out.lt; omega)).mono (by have := HSB.out; omega)))
 have A13 := Lib.hid (A12.out.trans ((g13.below (by have := HSB.out; have := Z12.out.lt; omega)).mono (by have := HSB.out; omega)))
 have R13 := Lib.hid (R12.out.btw g13 (by have := HSB.out; omega))
 have V13 := Lib.hid (V12.out.btw g13 (by have := HSB.out; omega))
 have P13 := Lib.hid ((g13.block w3.heap.size (Array.getElem?_eq_some_iff.1 P12.out).1 (.inl (by have := HSB.out; omega))).trans P12.out)
 have X13 := Lib.hid ((g13.block w6.heap.size (Array.getElem?_eq_some_iff.1 X12.out).1 (.inr (by have := HSB.out; omega))).trans X12.out)
 have hs13 := g13.size
 have hkn : ¬ (k + (q : Int)) < 0 := by omega
 clear g13 o13 MI D12 A12 R12 V12 P12 X12 Z12
 obtain ⟨p0, p1, p2, p3, p4, p5, p6, p7, p8, p9, p10, p11, pl⟩ := cells12 P13.out
 obtain ⟨r0, r1, r2, r3, r4, r5, r6, r7, r8, r9, r10, r11, rl⟩ := cells12 X13.out
 generalize k + (q : Int) = kz at *
 go_wp2_with fail
 refine (EA.out _ _ (.slice a0 F.b.length ka0) (.slice b0 F.ps.length kb0) (.slice c0 F.bs.length kc0) (.slice d0 F.ls.length kd0) (.slice a6 F.b.length ka6) (.slice b6 F.ps.length kb6) (.slice c6 F.bs.length kc6) (.slice d6 F.ls.length kd6) w13 R13.out V13.out).mono ?_
 rintro e w14 ⟨rfl, bl14⟩
 have D14 := Lib.hid (bT D13.out bl14)
 have A14 := Lib.hid (A13.out.trans (bl14.mono (by have := HSB.out; omega)))
 have R14 := Lib.hid (R13.out.below bl14)
 have V14 := Lib.hid (V13.out.below bl14 (by have := HSB.out; omega) (Nat.le_refl _))
 have P14 := Lib.hid ((bl14.block w3.heap.size pl).trans P13.out)
 have X14 := Lib.hid ((bl14.block w6.heap.size rl).trans X13.out)
 have hs14 := bl14.size
 clear bl14 D13 A13 R13 V13 P13 X13 p0 p1 p2 p3 p4 p5 p6 p7 p8 p9 p10 p11 pl r0 r1 r2 r3 r4 r5 r6 r7 r8 r9 r10 r11 rl
 obtain ⟨r0, r1, r2, r3, r4, r5, r6, r7, r8, r9, r10, r11, rl⟩ := cells12 X14.out
 go_wp2_with fail
 refine (MA.out _ (.slice a6 F.b.length ka6) (.slice b6 F.ps.length kb6) (.slice c6 F.bs.length kc6) (.slice d6 F.ls.length kd6) w14 R14.out (by have := HSB.out; omega)).mono ?_
 rintro e w15 ⟨rfl, m15, bl15, k15⟩
 have D15 := Lib.hid (D14.out.trans (bl15.mono (by have := HSB.out; omega)))
 have A15 := Lib.hid (A14.out.trans (bl15.mono (by have := HSB.out; omega)))
 have V15 := Lib.hid (V14.out.below bl15 (by have := HSB.out; omega) (by have := HSB.out; omega))
 have P15 := Lib.hid (k15 _ _ _ (by decide) P14.out)
 have X15 := Lib.hid (k15 _ _ _ (by decide) X14.out)
 have M15 := Lib.hid m15
 have hs15 := bl15.size
 clear bl15 k15 m15 D14 A14 R14 V14 P14 X14 r0 r1 r2 r3 r4 r5 r6 r7 r8 r9 r10 r11 rl MA
 obtain ⟨r0, r1, r2, r3, r4, r5, r6, r7, r8, r9, r10, r11, rl⟩ := cells12 X15.out
 go_wp2_with fail
 refine (HA.out _ (.slice a6 F.b.length ka6) (.slice b6 F.ps.length kb6) (.slice c6 F.bs.length kc6) (.slice d6 F.ls.length kd6) w15 M15.out).mono ?_
 rintro e w16 ⟨rfl, bl16⟩
 have D16 := Lib.hid (bT D15.out bl16)
 have A16 := Lib.hid (A15.out.trans (bl16.mono (by have := HSB.out; omega)))
 have V16 := Lib.hid (V15.out.below bl16 (by have := HSB.out; omega) (Nat.le_refl _))
 have P16 := Lib.hid ((bl16.block w3.heap.size (Array.getElem?_eq_some_iff.1 P15.out).1).trans P15.out)
 have X16 := Lib.hid ((bl16.block w6.heap.size rl).trans X15.out)
 have M16 := Lib.hid (M15.out.below bl16)
 have hs16 := bl16.size
 clear bl16 D15 A15 V15 P15 X15 M15 r0 r1 r2 r3 r4 r5 r6 r7 r8 r9 r10 r11 rl
 obtain ⟨tl, t0, t1⟩ := KT.out _ A16.out
 go_wp2_with fail
 refine (TO.out _ D16.out).mono ?_
 rintro e w17 ⟨f1, f2, rs4, rfl, e4, o4, bl17⟩
 have F17 := Lib.hid bl17
 have D17 := Lib.hid (bT D16.out bl17)
 have O17 := Lib.hid o4
 have E17 := Lib.hid e4
 clear e4 o4 bl17 t0 t1 tl
 go_wp2_with fail
 refine (TP.out _ D17.out).mono ?_
 rintro e w18 ⟨rfl, i18, bl18⟩
 have F18 := Lib.hid (bT F17.out bl18)
 have D18 := Lib.hid (bT D17.out bl18)
 have T19 := Lib.hid (IM.out f1 f2 rs4 _ _ w18 D18.out E17.out (O17.out.below bl18) i18)
 clear i18 bl18 O17 E17 F17 D17
 go_wp2_with fail
 refine T19.out.mono ?_
 rintro e w19 ⟨x1, x2, x3, x4, rfl, q19, bl19⟩
 obtain ⟨a9, ka9, b9, kb9, c9, kc9, d9, kd9, rfl, rfl, rfl, rfl⟩ := HFORM.out _ _ _ _ _ _ q19
 have F19 := Lib.hid (bT F18.out bl19)
 have X19 := Lib.hid (new_at w19 (COC (.slice a9 F.b.length ka9) (.slice b9 F.ps.length kb9) F.top F.pr F.st F.bu (.slice c9 F.bs.length kc9) (.slice d9 F.ls.length kd9) 0 F.cd))
 have N19 := Lib.hid (bA0 w19 (COC (.slice a9 F.b.length ka9) (.slice b9 F.ps.length kb9) F.top F.pr F.st F.bu (.slice c9 F.bs.length kc9) (.slice d9 F.ls.length kd9) 0 F.cd))
 have F19a := Lib.hid (bT F19.out N19.out)
 have R19 := Lib.hid (q19.below N19.out)
 have D19 := Lib.hid (bT D16.out F19a.out)
 have V19 := Lib.hid (V16.out.below F19a.out (by have := HSB.out; omega) (Nat.le_refl _))
 have P19 := Lib.hid ((F19a.out.block w3.heap.size (Array.getElem?_eq_some_iff.1 P16.out).1).trans P16.out)
 have X16a := Lib.hid ((F19a.out.block w6.heap.size (Array.getElem?_eq_some_iff.1 X16.out).1).trans X16.out)
 have M19 := Lib.hid (M16.out.below F19a.out)
 have T20 := Lib.hid (EA.out _ _ (.slice a0 F.b.length ka0) (.slice b0 F.ps.length kb0) (.slice c0 F.bs.length kc0) (.slice d0 F.ls.length kd0) (.slice a9 F.b.length ka9) (.slice b9 F.ps.length kb9) (.slice c9 F.bs.length kc9) (.slice d9 F.ls.length kd9) _ R19.out V19.out)
 clear q19 bl19 T19 F18 F19 N19 F19a D16 V16 P16 X16 M16 D18
 obtain ⟨p0, p1, p2, p3, p4, p5, p6, p7, p8, p9, p10, p11, pl⟩ := cells12 P19.out
 obtain ⟨r0, r1, r2, r3, r4, r5, r6, r7, r8, r9, r10, r11, rl⟩ := cells12 X19.out
 go_wp2_with fail
 generalize w19.alloc (COC (.slice a9 F.b.length ka9) (.slice b9 F.ps.length kb9) F.top F.pr F.st F.bu (.slice c9 F.bs.length kc9) (.slice d9 F.ls.length kd9) 0 F.cd) = w19a at *
 refine T20.out.mono ?_
 rintro e w20 ⟨rfl, bl20⟩
 have D20 := Lib.hid (bT D19.out bl20)
 have M20 := Lib.hid (M19.out.below bl20)
 have X20 := Lib.hid ((bl20.block w6.heap.size (Array.getElem?_eq_some_iff.1 X16a.out).1).trans X16a.out)
 clear bl20 T20 D19 M19 X16a X19 P19 V19 R19 p0 p1 p2 p3 p4 p5 p6 p7 p8 p9 p10 p11 pl r0 r1 r2 r3 r4 r5 r6 r7 r8 r9 r10 r11 rl
 obtain ⟨r0, r1, r2, r3, r4, r5, r6, r7, r8, r9, r10, r11, rl⟩ := cells12 X20.out
 go_wp2_with fail
 refine (HA.out _ (.slice a6 F.b.length ka6) (.slice b6 F.ps.length kb6) (.slice c6 F.bs.length kc6) (.slice d6 F.ls.length kd6) w20 M20.out).mono ?_
 rintro e w21 ⟨rfl, bl21⟩
 have D21 := Lib.hid (bT D20.out bl21)
 clear bl21
 go_wp2
 go_ret
 exact ⟨rfl, D21.out⟩
end Go.Proofs.YtnihhbfgbilimaaGreatDoor
