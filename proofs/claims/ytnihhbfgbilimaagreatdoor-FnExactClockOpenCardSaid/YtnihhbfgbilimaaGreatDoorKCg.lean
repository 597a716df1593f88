import Derived.Test.YtnihhbfgbilimaaGreatDoorZCd
import Derived.Test.YtnihhbfgbilimaaGreatDoorZOc
import Derived.Test.YtnihhbfgbilimaaGreatDoorKCc
namespace Go.Proofs.YtnihhbfgbilimaaGreatDoor
open Go.RowKit
set_option linter.unusedVariables false
open List (setIfInBounds_toArray set_cons_zero set_cons_succ getElem_toArray getElem_cons_succ getElem_cons_zero)
set_option linter.unusedSimpArgs false
structure CloF where
 b : List (Int × Int × List Int)
 ps : List LPr
 bs : List LPr
 ls : List LPl
 top : Int
 pr : Int
 st : Int
 bu : Int
 cd : Int
def cloN (c : Int) : CloF := ⟨[], [], [], [], 0, 0, 0, 0, c⟩
open Classical in
noncomputable def cloF (rs : List LSt) (ps : List LPr) (top pr st bu : Int) (ids : List Int) : CloF :=
 if 400 < ids.length then cloN 2 else if ¬ (IdsR rs ps ids ∧ NumR top pr st bu) then cloN 1 else if (askF rs ps top ids bu).x ≠ 1 then cloN 9 else
  ⟨bareS rs, ps, bidF pr ids (bareS rs), (askF rs ps top ids bu).P, top, pr, st, bu, 0⟩
theorem OwS.mono {w : World} {B C : Nat} {v : Value} {a : List LSt} (h : OwS w B v a) (hC : C ≤ B) : OwS w C v a := ⟨own_mono h.r1 hC, fun r hr => own_mono (h.dom r hr) hC, h.diff⟩
def COw (B : Nat) (F : CloF) (v1 v2 v3 v4 : Value) (W : World) : Prop := ∃ rs', bareS rs' = F.b ∧ OwK W B v1 v2 v3 v4 rs' F.ps.length F.bs.length F.ls.length (prC F.ps) (prC F.bs) (enCells F.ls)
theorem COw.nil (B : Nat) (c : Int) (W : World) : COw B (cloN c) (.slice none 0 0) (.slice none 0 0) (.slice none 0 0) (.slice none 0 0) W := ⟨[], rfl, OwS.nil _ _, ⟨rfl, .inl ⟨rfl, rfl⟩⟩, ⟨rfl, .inl ⟨rfl, rfl⟩⟩, ⟨rfl, .inl ⟨rfl, rfl⟩⟩⟩
def Bx12 (w : World) (b : Nat) : Prop := w.heap[b]? = some (.cells #[.slice none 0 0, .slice none 0 0, .int .i64 0, .int .i64 0, .int .i64 0, .int .i64 0, .slice none 0 0, .slice none 0 0, .slice none 0 0, .slice none 0 0, .int .i64 0, .int .i64 0] 36)
theorem Bx12.facts {w : World} {b : Nat} (h : Bx12 w b) : b < w.heap.size ∧ w.cell? ⟨b, 0, none⟩ = some (.slice none 0 0) ∧ w.cell? ⟨b, 1, none⟩ = some (.slice none 0 0) ∧ w.cell? ⟨b, 2, none⟩ = some (.int .i64 0) ∧ w.cell? ⟨b, 3, none⟩ = some (.int .i64 0) ∧ w.cell? ⟨b, 4, none⟩ = some (.int .i64 0) ∧ w.cell? ⟨b, 5, none⟩ = some (.int .i64 0) ∧ w.cell? ⟨b, 6, none⟩ = some (.slice none 0 0) ∧ w.cell? ⟨b, 7, none⟩ = some (.slice none 0 0) ∧ w.cell? ⟨b, 8, none⟩ = some (.slice none 0 0) ∧ w.cell? ⟨b, 9, none⟩ = some (.slice none 0 0) ∧ w.cell? ⟨b, 10, none⟩ = some (.int .i64 0) ∧ w.cell? ⟨b, 11, none⟩ = some (.int .i64 0) ∧ ∀ o, w.frozen? ⟨b, o, none⟩ = false := by
 unfold Bx12 at h
 refine ⟨(Array.getElem?_eq_some_iff.1 h).1, ?_, ?_, ?_, ?_, ?_, ?_, ?_, ?_, ?_, ?_, ?_, ?_, fun o => ?_⟩ <;> simp [World.cell?, World.frozen?, h]
def set12 (w : World) (b : Nat) (u0 u1 u2 u3 u4 u5 u6 u7 u8 u9 u10 u11 : Value) : World := ((((((((((((w.setCell ⟨b, 0, none⟩ u0).setCell ⟨b, 1, none⟩ u1).setCell ⟨b, 2, none⟩ u2).setCell ⟨b, 3, none⟩ u3).setCell ⟨b, 4, none⟩ u4).setCell ⟨b, 5, none⟩ u5).setCell ⟨b, 6, none⟩ u6).setCell ⟨b, 7, none⟩ u7).setCell ⟨b, 8, none⟩ u8).setCell ⟨b, 9, none⟩ u9).setCell ⟨b, 10, none⟩ u10).setCell ⟨b, 11, none⟩ u11)
theorem set12_below {W w : World} {n b : Nat} (h : Below n W w) (hb : n ≤ b) (u0 u1 u2 u3 u4 u5 u6 u7 u8 u9 u10 u11 : Value) : Below n W (set12 w b u0 u1 u2 u3 u4 u5 u6 u7 u8 u9 u10 u11) := by
 unfold set12
 exact (((((((((((h.setCell (p := ⟨b, 0, none⟩) hb u0).setCell (p := ⟨b, 1, none⟩) hb u1).setCell (p := ⟨b, 2, none⟩) hb u2).setCell (p := ⟨b, 3, none⟩) hb u3).setCell (p := ⟨b, 4, none⟩) hb u4).setCell (p := ⟨b, 5, none⟩) hb u5).setCell (p := ⟨b, 6, none⟩) hb u6).setCell (p := ⟨b, 7, none⟩) hb u7).setCell (p := ⟨b, 8, none⟩) hb u8).setCell (p := ⟨b, 9, none⟩) hb u9).setCell (p := ⟨b, 10, none⟩) hb u10).setCell (p := ⟨b, 11, none⟩) hb u11
theorem own_set12 {w : World} {B : Nat} {e : TypeId} {m : Nat} {v : Value} {n : Nat} {xs : List Value} (h : w.ownsRow B e m v n xs) {b : Nat} (hb : v.ownBlock ≠ some b) (u0 u1 u2 u3 u4 u5 u6 u7 u8 u9 u10 u11 : Value) : (set12 w b u0 u1 u2 u3 u4 u5 u6 u7 u8 u9 u10 u11).ownsRow B e m v n xs := by
 unfold set12
 exact own_set (own_set (own_set (own_set (own_set (own_set (own_set (own_set (own_set (own_set (own_set (own_set h hb _ _) hb _ _) hb _ _) hb _ _) hb _ _) hb _ _) hb _ _) hb _ _) hb _ _) hb _ _) hb _ _) hb _ _
theorem OwK.set12 {w : World} {B : Nat} {v1 v2 v3 v4 : Value} {rs : List LSt} {m q p : Nat} {xp xb xl : List Value} (h : OwK w B v1 v2 v3 v4 rs m q p xp xb xl) {b : Nat} {cur : Array Value} (hb : w.heap[b]? = some (.cells cur 36)) (u0 u1 u2 u3 u4 u5 u6 u7 u8 u9 u10 u11 : Value) : OwK (Go.Proofs.YtnihhbfgbilimaaGreatDoor.set12 w b u0 u1 u2 u3 u4 u5 u6 u7 u8 u9 u10 u11) B v1 v2 v3 v4 rs m q p xp xb xl :=
 ⟨⟨own_set12 h.fs.r1 (own_kindne h.fs.r1 hb (by decide)) _ _ _ _ _ _ _ _ _ _ _ _, fun r hr => own_set12 (h.fs.dom r hr) (own_kindne (h.fs.dom r hr) hb (by decide)) _ _ _ _ _ _ _ _ _ _ _ _, h.fs.diff⟩, own_set12 h.fp (own_kindne h.fp hb (by decide)) _ _ _ _ _ _ _ _ _ _ _ _, own_set12 h.fb (own_kindne h.fb hb (by decide)) _ _ _ _ _ _ _ _ _ _ _ _, own_set12 h.fl (own_kindne h.fl hb (by decide)) _ _ _ _ _ _ _ _ _ _ _ _⟩
theorem set12_other (w : World) (b c : Nat) (h : c ≠ b) (u0 u1 u2 u3 u4 u5 u6 u7 u8 u9 u10 u11 : Value) : (set12 w b u0 u1 u2 u3 u4 u5 u6 u7 u8 u9 u10 u11).heap[c]? = w.heap[c]? := by
 unfold set12
 exact ((((((((((((Below.heap_setCell _ _ _ _ h).trans (Below.heap_setCell _ _ _ _ h)).trans (Below.heap_setCell _ _ _ _ h)).trans (Below.heap_setCell _ _ _ _ h)).trans (Below.heap_setCell _ _ _ _ h)).trans (Below.heap_setCell _ _ _ _ h)).trans (Below.heap_setCell _ _ _ _ h)).trans (Below.heap_setCell _ _ _ _ h)).trans (Below.heap_setCell _ _ _ _ h)).trans (Below.heap_setCell _ _ _ _ h)).trans (Below.heap_setCell _ _ _ _ h)).trans (Below.heap_setCell _ _ _ _ h))
set_option maxRecDepth 100000 in
set_option maxHeartbeats 8000000 in
theorem icl_any (sl : Option Addr) (cap : Nat) (sl2 : Option Addr) (cap2 : Nat) (top pr st bu : Int) (sl3 : Option Addr) (cap3 : Nat) (rs : List LSt) (ps : List LPr) (ids : List Int) (w : World) (F : CloF) (hF : cloF rs ps top pr st bu ids = F) (hn : rs.length ≤ 1048576) (hm : ps.length ≤ 1048576) (hl : ids.length ≤ 1048576) (hz : Sts w sl rs) (hp : Prs w sl2 ps) (hw : ∀ p ∈ ps, WfP p) (hi : Ints w sl3 ids) (hT : TabB w) :
  Calls Tryz.prog 38 #[TV sl rs.length cap sl2 ps.length cap2, .int .i64 top, .int .i64 pr, .int .i64 st, .int .i64 bu, .slice sl3 ids.length cap3] w fun e w' => ∃ v1 v2 v3 v4, e = .returned (COV v1 v2 F.top F.pr F.st F.bu v3 v4 0 F.cd) ∧ COw w.heap.size F v1 v2 v3 v4 w' ∧ Below w.heap.size w w' := by
 classical
 have hl' : ids.length ≤ maxLen := by unfold maxLen; omega
 have E65 : Hid (∀ W, Below w.heap.size w W → Calls Tryz.prog 65 #[TV sl rs.length cap sl2 ps.length cap2, .slice sl3 ids.length cap3] W fun e w' => e = .returned (.bool (B (IdsR rs ps ids))) ∧ Below W.heap.size W w') := fun W hW => iir_any sl cap sl2 cap2 sl3 cap3 rs ps ids W hn hl' (hz.below hW) (hp.below hW) hw (hi.below hW)
 have E97 : Hid (∀ W, Calls Tryz.prog 97 #[.int .i64 top, .int .i64 pr, .int .i64 st, .int .i64 bu] W fun e w' => e = .returned (.bool (B (NumR top pr st bu))) ∧ W = w') := fun W => num_any top pr st bu W
 have E21 : Hid (∀ fa, askF rs ps top ids bu = fa → ∀ W, Below w.heap.size w W → Calls Tryz.prog 21 #[TV sl rs.length cap sl2 ps.length cap2, .int .i64 top, .slice sl3 ids.length cap3, .int .i64 bu] W fun e w' => ∃ vp vl, e = .returned (AV fa.x fa.hw vp vl fa.st fa.c) ∧ AOw W.heap.size fa.P fa.L vp vl w' ∧ Below W.heap.size W w') := fun fa hfa W hW => by
  subst hfa
  exact (iask_any sl cap sl2 cap2 top sl3 cap3 bu rs ps ids W hn hl' (hz.below hW) (hp.below hW) hw (hi.below hW) (hT.belowT hW)).mono fun e w' hq => ask_form hq
 have E98 : Hid (∀ W, Below w.heap.size w W → Calls Tryz.prog 98 #[TV sl rs.length cap sl2 ps.length cap2] W fun e w' => ∃ v1 v2 rs', e = .returned (.agg #[v1, v2]) ∧ bareS rs' = bareS rs ∧ OwS w' W.heap.size v1 rs' ∧ w'.ownsRow W.heap.size 165 3 v2 ps.length (prC ps) ∧ Below W.heap.size W w') := fun W hW => cpt_any sl cap sl2 cap2 rs ps W hn hm (hz.below hW) (hp.below hW)
 have E99 : Hid (∀ W, Below w.heap.size w W → Calls Tryz.prog 99 #[TV sl rs.length cap sl2 ps.length cap2, .int .i64 pr, .slice sl3 ids.length cap3] W fun e w' => ∃ v, e = .returned v ∧ w'.ownsRow W.heap.size 103 3 v rs.length (prC (bidF pr ids (bareS rs))) ∧ Below W.heap.size W w') := fun W hW => obd_any sl cap sl2 ps.length cap2 pr sl3 cap3 rs ids W hn hl (hz.below hW) (hi.below hW)
 clear hz hp hw hi hT hl'
 have HF := Lib.hid hF
 clear hF
 generalize hN : rs.length = n at *
 have HN := Lib.hid hN
 clear hN
 generalize hM : ps.length = m at *
 have HM := Lib.hid hM
 clear hM
 have B1 : Hid (Below w.heap.size w ((w.alloc (.cells #[.slice sl n cap, .slice sl2 m cap2] 26)).alloc (.cells #[.slice none 0 0, .slice none 0 0, .int .i64 0, .int .i64 0, .int .i64 0, .int .i64 0, .slice none 0 0, .slice none 0 0, .slice none 0 0, .slice none 0 0, .int .i64 0, .int .i64 0] 36))) := bA (bA0 _ _) _
 have TF : Hid (∀ W, Below ((w.alloc (.cells #[.slice sl n cap, .slice sl2 m cap2] 26)).alloc (.cells #[.slice none 0 0, .slice none 0 0, .int .i64 0, .int .i64 0, .int .i64 0, .int .i64 0, .slice none 0 0, .slice none 0 0, .slice none 0 0, .slice none 0 0, .int .i64 0, .int .i64 0] 36)).heap.size ((w.alloc (.cells #[.slice sl n cap, .slice sl2 m cap2] 26)).alloc (.cells #[.slice none 0 0, .slice none 0 0, .int .i64 0, .int .i64 0, .int .i64 0, .int .i64 0, .slice none 0 0, .slice none 0 0, .slice none 0 0, .slice none 0 0, .int .i64 0, .int .i64 0] 36)) W → w.heap.size < W.heap.size ∧ W.cell? ⟨w.heap.size, 0, none⟩ = some (.slice sl n cap) ∧ W.cell? ⟨w.heap.size, 1, none⟩ = some (.slice sl2 m cap2)) := fun W hW => by
  have h0 : ((w.alloc (.cells #[.slice sl n cap, .slice sl2 m cap2] 26)).alloc (.cells #[.slice none 0 0, .slice none 0 0, .int .i64 0, .int .i64 0, .int .i64 0, .int .i64 0, .slice none 0 0, .slice none 0 0, .slice none 0 0, .slice none 0 0, .int .i64 0, .int .i64 0] 36)).heap[w.heap.size]? = some (.cells #[.slice sl n cap, .slice sl2 m cap2] 26) := (al_old _ _ _ (by simp)).trans (al_new _ _ _ rfl)
  have h := (hW.block w.heap.size (by simp <;> omega)).trans h0
  exact ⟨(Array.getElem?_eq_some_iff.1 h).1, by simp [World.cell?, h], by simp [World.cell?, h]⟩
 have XR : Hid (∀ W, Below ((w.alloc (.cells #[.slice sl n cap, .slice sl2 m cap2] 26)).alloc (.cells #[.slice none 0 0, .slice none 0 0, .int .i64 0, .int .i64 0, .int .i64 0, .int .i64 0, .slice none 0 0, .slice none 0 0, .slice none 0 0, .slice none 0 0, .int .i64 0, .int .i64 0] 36)).heap.size ((w.alloc (.cells #[.slice sl n cap, .slice sl2 m cap2] 26)).alloc (.cells #[.slice none 0 0, .slice none 0 0, .int .i64 0, .int .i64 0, .int .i64 0, .int .i64 0, .slice none 0 0, .slice none 0 0, .slice none 0 0, .slice none 0 0, .int .i64 0, .int .i64 0] 36)) W → Bx12 W (w.heap.size + 1)) := fun W hW => by
  have h0 := new_at (w.alloc (.cells #[.slice sl n cap, .slice sl2 m cap2] 26)) (.cells #[.slice none 0 0, .slice none 0 0, .int .i64 0, .int .i64 0, .int .i64 0, .int .i64 0, .slice none 0 0, .slice none 0 0, .slice none 0 0, .slice none 0 0, .int .i64 0, .int .i64 0] 36)
  rw [show (w.alloc (.cells #[.slice sl n cap, .slice sl2 m cap2] 26)).heap.size = w.heap.size + 1 by simp] at h0
  exact (hW.block _ (by simp)).trans h0
 have PF : Hid (∀ c, F = cloN c → ∀ w', Below w.heap.size w w' → ∃ v1 v2 v3 v4, (Ending.returned (COV (.slice none 0 0) (.slice none 0 0) 0 0 0 0 (.slice none 0 0) (.slice none 0 0) 0 c) : Ending) = .returned (COV v1 v2 F.top F.pr F.st F.bu v3 v4 0 F.cd) ∧ COw w.heap.size F v1 v2 v3 v4 w' ∧ Below w.heap.size w w') := fun c hc w' hb => by
  subst hc
  exact ⟨_, _, _, _, rfl, COw.nil _ _ _, hb⟩
 by_cases h4 : 400 < ids.length
 ·have h4' : (400 : Int) < (ids.length : Int) := by omega
  have H2 := Lib.hid (PF.out 2 (HF.out.symm.trans (if_pos h4)))
  clear E65 E97 E21 E98 E99 TF XR PF
  generalize ids.length = q at *
  go_enter Tryz.func38, Tryz.ntmps38
  go_wp2
  exact bodyPost_ret (v := COV (.slice none 0 0) (.slice none 0 0) 0 0 0 0 (.slice none 0 0) (.slice none 0 0) 0 2) (by simp [results, Tryz.results38, go_sem]) rfl (H2.out _ (bA (bA0 _ _) _))
 have h4' : ¬ (400 : Int) < (ids.length : Int) := by omega
 have HG : Hid (IdsR rs ps ids ∧ NumR top pr st bu → F = if (askF rs ps top ids bu).x ≠ 1 then cloN 9 else ⟨bareS rs, ps, bidF pr ids (bareS rs), (askF rs ps top ids bu).P, top, pr, st, bu, 0⟩) := fun h => by
  rw [← HF.out]
  unfold cloF
  rw [if_neg h4, if_neg (fun k => k h)]
 have HB1 : Hid (¬ (IdsR rs ps ids ∧ NumR top pr st bu) → F = cloN 1) := fun h => by
  rw [← HF.out]
  unfold cloF
  rw [if_neg h4, if_pos h]
 clear h4 hl
 by_cases h2 : IdsR rs ps ids
 case neg =>
  have H1 := Lib.hid (PF.out 1 (HB1.out fun h => h2 h.1))
  rw [B_no h2] at E65
  clear E97 E21 E98 E99 TF PF HG HB1
  generalize ids.length = q at *
  go_enter Tryz.func38, Tryz.ntmps38
  go_wp2_with fail
  refine (E65.out _ B1.out).mono ?_
  rintro e w1 ⟨rfl, b1⟩
  have B2 := Lib.hid (bT B1.out b1)
  have RX := Lib.hid (XR.out _ b1)
  obtain ⟨rl, r0, r1, r2, r3, r4, r5, r6, r7, r8, r9, r10, r11, rf⟩ := Bx12.facts RX.out
  have H1a := Lib.hid (fun u0 u1 u2 u3 u4 u5 u6 u7 u8 u9 u10 u11 : Value => H1.out _ (set12_below (b := w.heap.size + 1) B2.out (Nat.le_succ _) u0 u1 u2 u3 u4 u5 u6 u7 u8 u9 u10 u11))
  clear b1 B2 RX XR E65 H1
  go_wp2
  exact bodyPost_ret (v := COV (.slice none 0 0) (.slice none 0 0) 0 0 0 0 (.slice none 0 0) (.slice none 0 0) 0 1) (by simp [results, Tryz.results38, go_sem, r0, r1, r2, r3, r4, r5, r6, r7, r8, r9, r10, r11]) rfl (H1a.out _ _ _ _ _ _ _ _ _ _ _ _)
 rw [B_yes h2] at E65
 by_cases h3 : NumR top pr st bu
 case neg =>
  have H1 := Lib.hid (PF.out 1 (HB1.out fun h => h3 h.2))
  rw [B_no h3] at E97
  clear E21 E98 E99 PF HG HB1
  generalize ids.length = q at *
  go_enter Tryz.func38, Tryz.ntmps38
  go_wp2_with fail
  refine (E65.out _ B1.out).mono ?_
  rintro e w1 ⟨rfl, b1⟩
  have B2 := Lib.hid (bT B1.out b1)
  have RX := Lib.hid (XR.out _ b1)
  obtain ⟨rl, r0, r1, r2, r3, r4, r5, r6, r7, r8, r9, r10, r11, rf⟩ := Bx12.facts RX.out
  have H1a := Lib.hid (fun u0 u1 u2 u3 u4 u5 u6 u7 u8 u9 u10 u11 : Value => H1.out _ (set12_below (b := w.heap.size + 1) B2.out (Nat.le_succ _) u0 u1 u2 u3 u4 u5 u6 u7 u8 u9 u10 u11))
  clear b1 B2 RX XR E65 H1 TF
  go_wp2_with fail
  refine (E97.out _).mono ?_
  rintro e w2 ⟨rfl, rfl⟩
  go_wp2
  exact bodyPost_ret (v := COV (.slice none 0 0) (.slice none 0 0) 0 0 0 0 (.slice none 0 0) (.slice none 0 0) 0 1) (by simp [results, Tryz.results38, go_sem, r0, r1, r2, r3, r4, r5, r6, r7, r8, r9, r10, r11]) rfl (H1a.out _ _ _ _ _ _ _ _ _ _ _ _)
 rw [B_yes h3] at E97
 have HFF := Lib.hid (HG.out ⟨h2, h3⟩)
 clear HG HB1 h2 h3 HF
 obtain ⟨fa, hfa⟩ : ∃ fa, askF rs ps top ids bu = fa := ⟨_, rfl⟩
 have E21a := Lib.hid (E21.out fa hfa)
 rw [hfa] at HFF
 clear E21 hfa
 obtain ⟨x, hw, stt, c, PL, LL⟩ := fa
 dsimp only at HFF E21a
 have HQ : Hid (ids.length = ids.length) := rfl
 generalize ids.length = q at *
 clear HQ
 go_enter Tryz.func38, Tryz.ntmps38
 go_wp2_with fail
 refine (E65.out _ B1.out).mono ?_
 rintro e w1 ⟨rfl, b1⟩
 obtain ⟨t0, t1, t2⟩ := TF.out w1 b1
 have A1 := Lib.hid b1
 have B2 := Lib.hid (bT B1.out b1)
 clear b1 E65 B1
 go_wp2_with fail
 refine (E97.out _).mono ?_
 rintro e w2 ⟨rfl, rfl⟩
 clear E97
 go_wp2_with fail
 refine (E21a.out _ B2.out).mono ?_
 rintro e w3 ⟨vp, vl, rfl, aw, b3⟩
 obtain ⟨s1, k1, rfl⟩ := own_v aw.1
 have OL3 := Lib.hid (own_mono aw.1 B2.out.size)
 obtain ⟨lls, ocl, -⟩ := aw.2
 obtain ⟨s2, k2, rfl⟩ := ocl.v
 have A3 := Lib.hid (bT A1.out b3)
 have B3 := Lib.hid (bT B2.out b3)
 generalize hpn : PL.length = pn at *
 have HPN := Lib.hid hpn
 generalize lls.length = ln at *
 clear aw ocl b3 A1 B2 E21a t0 t1 t2 hpn
 have NX := Lib.hid (new_at w3 (.cells #[.int .i64 x, .int .i64 hw, .slice s1 pn k1, .slice s2 ln k2, .int .i64 stt, .int .i64 c] 49))
 have NB := Lib.hid (bA0 w3 (.cells #[.int .i64 x, .int .i64 hw, .slice s1 pn k1, .slice s2 ln k2, .int .i64 stt, .int .i64 c] 49))
 obtain ⟨t0, t1, t2⟩ := TF.out w3 A3.out
 by_cases hx : x = 1
 case neg =>
  have hxb : (x != 1) = true := by simp [hx]
  have H9 := Lib.hid (PF.out 9 (by have := HFF.out; rwa [if_pos hx] at this))
  have RX := Lib.hid (XR.out _ (bT A3.out NB.out))
  have B4 := Lib.hid (bT B3.out NB.out)
  have H1a := Lib.hid (fun u0 u1 u2 u3 u4 u5 u6 u7 u8 u9 u10 u11 : Value => H9.out _ (set12_below (b := w.heap.size + 1) B4.out (Nat.le_succ _) u0 u1 u2 u3 u4 u5 u6 u7 u8 u9 u10 u11))
  obtain ⟨rl, r0, r1, r2, r3, r4, r5, r6, r7, r8, r9, r10, r11, rf⟩ := Bx12.facts RX.out
  clear H9 B4 RX NB XR TF E98 E99 PF OL3 HFF A3 B3
  obtain ⟨p0, p1, p2, p3, p4, p5, pl⟩ := cells6a NX.out
  clear NX
  go_wp2
  exact bodyPost_ret (v := COV (.slice none 0 0) (.slice none 0 0) 0 0 0 0 (.slice none 0 0) (.slice none 0 0) 0 9) (by simp [results, Tryz.results38, go_sem, r0, r1, r2, r3, r4, r5, r6, r7, r8, r9, r10, r11]) rfl (H1a.out _ _ _ _ _ _ _ _ _ _ _ _)
 subst hx
 have HOK : Hid (F = ⟨bareS rs, ps, bidF pr ids (bareS rs), PL, top, pr, st, bu, 0⟩) := by have := HFF.out; rwa [if_neg (by simp)] at this
 have B4 := Lib.hid (bT B3.out NB.out)
 have A4 := Lib.hid (bT A3.out NB.out)
 have OL4 := Lib.hid (own_below OL3.out NB.out)
 have XR4 : Hid (∀ W, Below (w3.alloc (.cells #[.int .i64 1, .int .i64 hw, .slice s1 pn k1, .slice s2 ln k2, .int .i64 stt, .int .i64 c] 49)).heap.size (w3.alloc (.cells #[.int .i64 1, .int .i64 hw, .slice s1 pn k1, .slice s2 ln k2, .int .i64 stt, .int .i64 c] 49)) W → Bx12 W (w.heap.size + 1)) := fun W hW => XR.out W (bT A4.out hW)
 have KX : Hid (∀ W, Below (w3.alloc (.cells #[.int .i64 1, .int .i64 hw, .slice s1 pn k1, .slice s2 ln k2, .int .i64 stt, .int .i64 c] 49)).heap.size (w3.alloc (.cells #[.int .i64 1, .int .i64 hw, .slice s1 pn k1, .slice s2 ln k2, .int .i64 stt, .int .i64 c] 49)) W → w.heap.size < W.heap.size ∧ W.cell? ⟨w.heap.size, 0, none⟩ = some (.slice sl n cap) ∧ W.cell? ⟨w.heap.size, 1, none⟩ = some (.slice sl2 m cap2) ∧ w3.heap.size < W.heap.size ∧ W.cell? ⟨w3.heap.size, 2, none⟩ = some (.slice s1 pn k1)) := fun W hW => by
  obtain ⟨q1, q2, q3⟩ := TF.out W (bT A4.out hW)
  have h := (hW.block w3.heap.size (Array.getElem?_eq_some_iff.1 NX.out).1).trans NX.out
  exact ⟨q1, q2, q3, (Array.getElem?_eq_some_iff.1 h).1, by simp [World.cell?, h]⟩
 have KS : Hid (∀ W (_ : Unit), Below (w3.alloc (.cells #[.int .i64 1, .int .i64 hw, .slice s1 pn k1, .slice s2 ln k2, .int .i64 stt, .int .i64 c] 49)).heap.size (w3.alloc (.cells #[.int .i64 1, .int .i64 hw, .slice s1 pn k1, .slice s2 ln k2, .int .i64 stt, .int .i64 c] 49)) W → ∀ u0 u1 u2 u3 u4 u5 u6 u7 u8 u9 u10 u11 : Value, (fun W => w.heap.size < W.heap.size ∧ W.cell? ⟨w.heap.size, 0, none⟩ = some (.slice sl n cap) ∧ W.cell? ⟨w.heap.size, 1, none⟩ = some (.slice sl2 m cap2) ∧ w3.heap.size < W.heap.size ∧ W.cell? ⟨w3.heap.size, 2, none⟩ = some (.slice s1 pn k1)) (set12 W (w.heap.size + 1) u0 u1 u2 u3 u4 u5 u6 u7 u8 u9 u10 u11)) := fun W _ hW u0 u1 u2 u3 u4 u5 u6 u7 u8 u9 u10 u11 => by
  obtain ⟨q1, q2, q3, q4, q5⟩ := KX.out W hW
  have hne : w3.heap.size ≠ w.heap.size + 1 := by
   have := A3.out.size
   simp at this
   omega
  have e1 := set12_other W (w.heap.size + 1) w.heap.size (by omega) u0 u1 u2 u3 u4 u5 u6 u7 u8 u9 u10 u11
  have e2 := set12_other W (w.heap.size + 1) w3.heap.size hne u0 u1 u2 u3 u4 u5 u6 u7 u8 u9 u10 u11
  have hs : W.heap.size ≤ (set12 W (w.heap.size + 1) u0 u1 u2 u3 u4 u5 u6 u7 u8 u9 u10 u11).heap.size := (set12_below (Below.refl 0 W) (Nat.zero_le _) u0 u1 u2 u3 u4 u5 u6 u7 u8 u9 u10 u11).size
  refine ⟨by omega, ?_, ?_, by omega, ?_⟩
  ·simpa only [World.cell?, e1] using q2
  ·simpa only [World.cell?, e1] using q3
  ·simpa only [World.cell?, e2] using q5
 obtain ⟨p0, p1, p2, p3, p4, p5, pl⟩ := cells6a NX.out
 clear XR TF PF HFF A3 B3 NX NB OL3 t0 t1 t2 A4
 have XR := XR4
 clear XR4
 obtain ⟨t0, t1, t2, t3, t4⟩ := KX.out (w3.alloc (.cells #[.int .i64 1, .int .i64 hw, .slice s1 pn k1, .slice s2 ln k2, .int .i64 stt, .int .i64 c] 49)) (Below.refl _ _)
 go_wp2_with fail
 refine wp_region_held_drew (S := fun W => w.heap.size < W.heap.size ∧ W.cell? ⟨w.heap.size, 0, none⟩ = some (.slice sl n cap) ∧ W.cell? ⟨w.heap.size, 1, none⟩ = some (.slice sl2 m cap2) ∧ w3.heap.size < W.heap.size ∧ W.cell? ⟨w3.heap.size, 2, none⟩ = some (.slice s1 pn k1)) (by kernel_rfl) ?_ (fun hHeld => ?_)
 ·exact KX.out _ (Below.refl _ _).drew
 clear t0 t1 t2 t3 t4 p0 p1 p2 p3 p4 p5 pl
 have DZ := Lib.hid (Below.refl (w3.alloc (.cells #[.int .i64 1, .int .i64 hw, .slice s1 pn k1, .slice s2 ln k2, .int .i64 stt, .int .i64 c] 49)).heap.size (w3.alloc (.cells #[.int .i64 1, .int .i64 hw, .slice s1 pn k1, .slice s2 ln k2, .int .i64 stt, .int .i64 c] 49))).drew
 generalize hwz : (w3.alloc (.cells #[.int .i64 1, .int .i64 hw, .slice s1 pn k1, .slice s2 ln k2, .int .i64 stt, .int .i64 c] 49)).drew = wz at *
 clear hwz
 generalize (w3.alloc (.cells #[.int .i64 1, .int .i64 hw, .slice s1 pn k1, .slice s2 ln k2, .int .i64 stt, .int .i64 c] 49)) = w4 at *
 refine wpAnyH_take (i := 0) (oi := _) (v := ?_) rfl (by kernel_rfl) (by kernel_rfl) (by kernel_rfl) (fun _ _ _ h => h) (Or.inl ⟨by rfl, ?_⟩) (by assumption) ?_
 rotate_left
 ·intro w hSw; (try dsimp only at hSw); go_simp; try with_reducible rfl
 try simp only [Act.put, setIfInBounds_toArray, set_cons_zero, set_cons_succ, getElem_toArray, getElem_cons_zero]
 refine wpAnyH_take (i := 2) (oi := _) (v := ?_) rfl (by kernel_rfl) (by kernel_rfl) (by kernel_rfl) (fun _ _ _ h => h) (Or.inl ⟨by rfl, ?_⟩) (by assumption) ?_
 rotate_left
 ·intro w hSw; (try dsimp only at hSw); go_simp; try with_reducible rfl
 try simp only [Act.put, setIfInBounds_toArray, set_cons_zero, set_cons_succ, getElem_toArray, getElem_cons_succ, getElem_cons_zero]
 refine wpAnyH_take (i := 3) (oi := _) (v := ?_) rfl (by kernel_rfl) (by kernel_rfl) (by kernel_rfl) (fun _ _ _ h => h) (Or.inl ⟨by rfl, ?_⟩) (by assumption) ?_
 rotate_left
 ·intro w hSw; (try dsimp only at hSw); go_simp; try with_reducible rfl
 try simp only [Act.put, setIfInBounds_toArray, set_cons_zero, set_cons_succ, getElem_toArray, getElem_cons_succ, getElem_cons_zero]
 refine wpAnyH_take (i := 4) (oi := _) (v := ?_) rfl (by kernel_rfl) (by kernel_rfl) (by kernel_rfl) (fun _ _ _ h => h) (Or.inl ⟨by rfl, ?_⟩) (by assumption) ?_
 rotate_left
 ·intro w hSw; (try dsimp only at hSw); go_simp; try with_reducible rfl
 try simp only [Act.put, setIfInBounds_toArray, set_cons_zero, set_cons_succ, getElem_toArray, getElem_cons_succ, getElem_cons_zero]
 refine wpAnyH_take (i := 5) (oi := _) (v := ?_) rfl (by kernel_rfl) (by kernel_rfl) (by kernel_rfl) (fun _ _ _ h => h) (Or.inl ⟨by rfl, ?_⟩) (by assumption) ?_
 rotate_left
 ·intro w hSw; (try dsimp only at hSw); go_simp; try with_reducible rfl
 try simp only [Act.put, setIfInBounds_toArray, set_cons_zero, set_cons_succ, getElem_toArray, getElem_cons_succ, getElem_cons_zero]
 refine wpAnyH_take (i := 6) (oi := _) (v := ?_) rfl (by kernel_rfl) (by kernel_rfl) (by kernel_rfl) (fun _ _ _ h => h) (Or.inl ⟨by rfl, ?_⟩) (by assumption) ?_
 rotate_left
 ·intro w hSw; (try dsimp only at hSw); go_simp; try with_reducible rfl
 try simp only [Act.put, setIfInBounds_toArray, set_cons_zero, set_cons_succ, getElem_toArray, getElem_cons_succ, getElem_cons_zero]
 refine wpAnyH_take (i := 7) (oi := _) (v := ?_) rfl (by kernel_rfl) (by kernel_rfl) (by kernel_rfl) (fun _ _ _ h => h) (Or.inl ⟨by rfl, ?_⟩) (by assumption) ?_
 rotate_left
 ·intro w hSw; (try dsimp only at hSw); go_simp; try with_reducible rfl
 try simp only [Act.put, setIfInBounds_toArray, set_cons_zero, set_cons_succ, getElem_toArray, getElem_cons_succ, getElem_cons_zero]
 refine wpAnyH_take (i := 8) (oi := _) (v := ?_) rfl (by kernel_rfl) (by kernel_rfl) (by kernel_rfl) (fun _ _ _ h => h) (Or.inl ⟨by rfl, ?_⟩) (by assumption) ?_
 rotate_left
 ·intro w hSw; (try dsimp only at hSw); go_simp; try with_reducible rfl
 try simp only [Act.put, setIfInBounds_toArray, set_cons_zero, set_cons_succ, getElem_toArray, getElem_cons_succ, getElem_cons_zero]
 refine wpAnyH_take (i := 10) (oi := _) (v := ?_) rfl (by kernel_rfl) (by kernel_rfl) (by kernel_rfl) (fun _ _ _ h => h) (Or.inl ⟨by rfl, ?_⟩) (by assumption) ?_
 rotate_left
 ·intro w hSw; (try dsimp only at hSw); go_simp; try with_reducible rfl
 try simp only [Act.put, setIfInBounds_toArray, set_cons_zero, set_cons_succ, getElem_toArray, getElem_cons_succ, getElem_cons_zero]
 refine wpAnyH_take (i := 11) (oi := _) (v := ?_) rfl (by kernel_rfl) (by kernel_rfl) (by kernel_rfl) (fun _ _ _ h => h) (Or.inl ⟨by rfl, ?_⟩) (by assumption) ?_
 rotate_left
 ·intro w hSw; (try dsimp only at hSw); go_simp; try with_reducible rfl
 try simp only [Act.put, setIfInBounds_toArray, set_cons_zero, set_cons_succ, getElem_toArray, getElem_cons_succ, getElem_cons_zero]
 refine wpAnyH_ready (rs := [1]) (by kernel_rfl) (by simp) ?_
 refine AllReadyH.cons rfl (fun K hK => ?_) AllReadyH.nil
 go_simp
 go_wp2_with (go_at_call 98; refine (E98.out _ (bT B4.out DZ.out)).mono ?_; rintro e w5 ⟨v1, v2, rs', rfl, eb, os, op, b5⟩)
 have D5 := Lib.hid (bT DZ.out b5)
 have hn1 := Lib.hid os.r1
 obtain ⟨a1, ka, rfl⟩ := own_v os.r1
 obtain ⟨a2, ka2, rfl⟩ := own_v op
 have OS5 := Lib.hid os
 have OP5 := Lib.hid op
 have EB := Lib.hid eb
 generalize hn1q : rs'.length = n1 at *
 have HN1 := Lib.hid hn1q
 clear os op b5 eb hn1 hn1q
 refine hK.out _ _ ?_ (fun hHeld => ?_)
 ·exact KX.out _ D5.out
 clear hK K
 refine wpAnyH_ready (rs := [9]) (by kernel_rfl) (by simp) ?_
 refine AllReadyH.cons rfl (fun K hK => ?_) AllReadyH.nil
 go_simp
 go_wp2_with (go_at_call 99; refine (E99.out _ (bT B4.out D5.out)).mono ?_; rintro e w6 ⟨v3, rfl, ob, b6⟩)
 have D6 := Lib.hid (bT D5.out b6)
 obtain ⟨a3, ka3, rfl⟩ := own_v ob
 have OB6 := Lib.hid ob
 have OS6 := Lib.hid (OS5.out.below b6)
 have OP6 := Lib.hid (own_below OP5.out b6)
 clear ob b6 OS5 OP5
 refine hK.out _ _ ?_ (fun hHeld => ?_)
 ·exact KX.out _ D6.out
 clear hK K
 refine wpAnyH_take (i := 12) (oi := _) (v := ?_) rfl (by kernel_rfl) (by kernel_rfl) (by kernel_rfl) (fun _ _ _ h => h) (Or.inl ⟨by rfl, ?_⟩) (by assumption) ?_
 rotate_left
 ·intro w hSw; (try dsimp only at hSw); go_simp; try with_reducible rfl
 try simp only [Act.put, setIfInBounds_toArray, set_cons_zero, set_cons_succ, getElem_toArray, getElem_cons_succ, getElem_cons_zero]
 refine wpAnyH_take (i := 13) (oi := _) (v := ?_) rfl (by kernel_rfl) (by kernel_rfl) (by kernel_rfl) (fun _ _ _ h => h) (Or.inl ⟨by rfl, ?_⟩) (by assumption) ?_
 rotate_left
 ·intro w hSw; (try dsimp only at hSw); go_simp; try with_reducible rfl
 try simp only [Act.put, setIfInBounds_toArray, set_cons_zero, set_cons_succ, getElem_toArray, getElem_cons_succ, getElem_cons_zero]
 refine wpAnyH_ready (rs := [14]) (by kernel_rfl) (by simp) ?_
 refine AllReadyH.cons rfl (fun K hK => ?_) AllReadyH.nil
 have RX := Lib.hid (XR.out _ D6.out)
 obtain ⟨rl, r0, r1, r2, r3, r4, r5, r6, r7, r8, r9, r10, r11, rf⟩ := Bx12.facts RX.out
 go_simp
 refine hK.out _ _ ?_ (fun hHeld => ?_)
 ·exact KS.out _ () D6.out (.slice a1 n1 ka) (.slice a2 m ka2) (.int .i64 top) (.int .i64 pr) (.int .i64 st) (.int .i64 bu) (.slice a3 n ka3) (.slice s1 pn k1) (.slice none 0 0) (.slice none 0 0) (.int .i64 0) (.int .i64 0)
 clear hK K
 refine wpAnyH_done (by kernel_rfl) ?_ _
 have FIN : Hid (∃ v1 v2 v3 v4, (Ending.returned (COV (.slice a1 n1 ka) (.slice a2 m ka2) top pr st bu (.slice a3 n ka3) (.slice s1 pn k1) 0 0) : Ending) = .returned (COV v1 v2 F.top F.pr F.st F.bu v3 v4 0 F.cd) ∧ COw w.heap.size F v1 v2 v3 v4 (set12 w6 (w.heap.size + 1) (.slice a1 n1 ka) (.slice a2 m ka2) (.int .i64 top) (.int .i64 pr) (.int .i64 st) (.int .i64 bu) (.slice a3 n ka3) (.slice s1 pn k1) (.slice none 0 0) (.slice none 0 0) (.int .i64 0) (.int .i64 0)) ∧ Below w.heap.size w (set12 w6 (w.heap.size + 1) (.slice a1 n1 ka) (.slice a2 m ka2) (.int .i64 top) (.int .i64 pr) (.int .i64 st) (.int .i64 bu) (.slice a3 n ka3) (.slice s1 pn k1) (.slice none 0 0) (.slice none 0 0) (.int .i64 0) (.int .i64 0))) := by
  show _
  rw [HOK.out]
  refine ⟨_, _, _, _, rfl, ⟨rs', EB.out, ?_⟩, set12_below (bT B4.out D6.out) (Nat.le_succ _) _ _ _ _ _ _ _ _ _ _ _ _⟩
  show OwK _ _ _ _ _ _ rs' ps.length (bidF pr ids (bareS rs)).length PL.length _ _ _
  rw [HM.out, bidF_len, bareS_lenQ, HN.out, HPN.out]
  have hz1 : w.heap.size ≤ wz.heap.size := Nat.le_trans B4.out.size DZ.out.size
  have hz2 : w.heap.size ≤ w5.heap.size := Nat.le_trans B4.out.size D5.out.size
  exact OwK.set12 ⟨OS6.out.mono hz1, own_mono OP6.out hz1, own_mono OB6.out hz2, own_below OL4.out D6.out⟩ RX.out _ _ _ _ _ _ _ _ _ _ _ _
 unfold set12 at FIN
 clear hHeld XR KX KS D5 D6 DZ OS6 OP6 OB6 OL4 B4 RX E98 E99 HOK EB
 go_wp2
 exact bodyPost_ret (v := COV (.slice a1 n1 ka) (.slice a2 m ka2) top pr st bu (.slice a3 n ka3) (.slice s1 pn k1) 0 0) (by simp [results, Tryz.results38, go_sem, r0, r1, r2, r3, r4, r5, r6, r7, r8, r9, r10, r11]) rfl FIN.out
end Go.Proofs.YtnihhbfgbilimaaGreatDoor
