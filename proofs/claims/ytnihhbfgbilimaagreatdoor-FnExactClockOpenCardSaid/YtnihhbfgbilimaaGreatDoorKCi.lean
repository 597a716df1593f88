import Derived.Test.YtnihhbfgbilimaaGreatDoorKCg
import Derived.Test.YtnihhbfgbilimaaGreatDoorKCh
namespace Go.Proofs.YtnihhbfgbilimaaGreatDoor
open Go.RowKit
set_option linter.unusedVariables false
open List (setIfInBounds_toArray set_cons_zero set_cons_succ getElem_toArray getElem_cons_succ getElem_cons_zero)
set_option linter.unusedSimpArgs false
theorem b103_facts {w : World} {b : Nat} {x y z : Value} (h : w.heap[b]? = some (.cells #[x, y, z] 103)) : b < w.heap.size ∧ w.cell? ⟨b, 0, none⟩ = some x ∧ w.cell? ⟨b, 1, none⟩ = some y ∧ w.cell? ⟨b, 2, none⟩ = some z ∧ ∀ o, w.frozen? ⟨b, o, none⟩ = false := by
 refine ⟨(Array.getElem?_eq_some_iff.1 h).1, ?_, ?_, ?_, fun o => ?_⟩ <;> simp [World.cell?, World.frozen?, h]
theorem OwK.mono {w : World} {B C : Nat} {v1 v2 v3 v4 : Value} {rs : List LSt} {m q p : Nat} {xp xb xl : List Value} (h : OwK w B v1 v2 v3 v4 rs m q p xp xb xl) (hC : C ≤ B) : OwK w C v1 v2 v3 v4 rs m q p xp xb xl := ⟨h.fs.mono hC, own_mono h.fp hC, own_mono h.fb hC, own_mono h.fl hC⟩
set_option maxRecDepth 100000 in
set_option maxHeartbeats 8000000 in
theorem scl_any (sl : Option Addr) (cap : Nat) (sl2 : Option Addr) (cap2 : Nat) (top pr st bu : Int) (sl3 : Option Addr) (cap3 : Nat) (rs : List LSt) (ps : List LPr) (ids : List Int) (w : World) (F : CloF) (hF : cloF rs ps top pr st bu ids = F) (hn : rs.length ≤ 1048576) (hm : ps.length ≤ 1048576) (hl : ids.length ≤ 1048576) (hz : Sts w sl rs) (hp : Prs w sl2 ps) (hi : Ints w sl3 ids) :
  Calls Tryz.prog 37 #[TV sl rs.length cap sl2 ps.length cap2, .int .i64 top, .int .i64 pr, .int .i64 st, .int .i64 bu, .slice sl3 ids.length cap3] w fun e w' => ∃ v1 v2 v3 v4, e = .returned (COV v1 v2 F.top F.pr F.st F.bu v3 v4 0 F.cd) ∧ COw w.heap.size F v1 v2 v3 v4 w' ∧ Below w.heap.size w w' := by
 classical
 have hl' : ids.length ≤ maxLen := by unfold maxLen; omega
 have E56 : Hid (∀ W, Below w.heap.size w W → Calls Tryz.prog 56 #[TV sl rs.length cap sl2 ps.length cap2, .slice sl3 ids.length cap3] W fun e w' => e = .returned (.bool (B (IdsR rs ps ids))) ∧ Below W.heap.size W w') := fun W hW => sir_any sl cap sl2 cap2 sl3 cap3 rs ps ids W hn hl (hz.below hW) (hp.below hW) (hi.below hW)
 have E96 : Hid (∀ W, Calls Tryz.prog 96 #[.int .i64 top, .int .i64 pr, .int .i64 st, .int .i64 bu] W fun e w' => e = .returned (.bool (B (NumR top pr st bu))) ∧ W = w') := fun W => snum_any top pr st bu W
 have E18 : Hid (∀ fa, askF rs ps top ids bu = fa → ∀ W, Below w.heap.size w W → Calls Tryz.prog 18 #[TV sl rs.length cap sl2 ps.length cap2, .int .i64 top, .slice sl3 ids.length cap3, .int .i64 bu] W fun e w' => ∃ vp vl, e = .returned (AV fa.x fa.hw vp vl fa.st fa.c) ∧ AOw W.heap.size fa.P fa.L vp vl w' ∧ Below W.heap.size W w') := fun fa hfa W hW => by
  subst hfa
  exact (sask_any sl cap sl2 cap2 top sl3 cap3 bu rs ps ids W hn hl (hz.below hW) (hp.below hW) (hi.below hW)).mono fun e w' hq => ask_form hq
 have C2 : Hid (∀ x W, Below w.heap.size w W → Calls Tryz.prog 87 #[.slice sl3 ids.length cap3, .int .i64 x] W fun e w' => e = .returned (.bool (B (x ∈ ids))) ∧ w' = W) := fun x W hW => lhas_any sl3 cap3 ids x W hl' (hi.below hW)
 have E57 : Hid (∀ W bs bk s1 k1 (PL : List LPl), PL.length ≤ 1048576 → Below w.heap.size w W → (∃ C, W.ownsRow C 103 3 (.slice bs rs.length bk) rs.length (prC (bidF pr ids (bareS rs)))) → (∃ C, W.ownsRow C 131 2 (.slice s1 PL.length k1) PL.length (enCells PL)) → Calls Tryz.prog 57 #[CVk sl rs.length cap sl2 ps.length cap2 top pr st bu bs rs.length bk s1 PL.length k1] W fun e w' => ∃ s1 k1 s2 k2 s3 k3 s4 k4 rs', e = .returned (CVk s1 rs'.length k1 s2 ps.length k2 top pr st bu s3 rs.length k3 s4 PL.length k4) ∧ bareS rs' = bareS rs ∧ OwK w' W.heap.size (.slice s1 rs'.length k1) (.slice s2 ps.length k2) (.slice s3 rs.length k3) (.slice s4 PL.length k4) rs' ps.length rs.length PL.length (prC ps) (prC (bidF pr ids (bareS rs))) (enCells PL) ∧ Below W.heap.size W w') := fun W bs bk s1 k1 PL hPL hW ⟨C, ob⟩ ⟨C', ol⟩ => by
  have hbl : (bidF pr ids (bareS rs)).length = rs.length := by rw [bidF_len, bareS_lenQ]
  rw [← hbl] at ob
  obtain ⟨b1, bk1, e1, ib⟩ := own_prs ob
  obtain ⟨l1, lk1, e2, il⟩ := own_pls ol
  rw [Value.slice.injEq] at e1 e2
  obtain ⟨rfl, -, rfl⟩ := e1
  obtain ⟨rfl, -, rfl⟩ := e2
  have il' : Pls W s1 PL := by
   rcases il with h | ⟨c, e, h, _⟩
   ·exact .inl h
   ·exact .inr ⟨c, 0, e, h⟩
  have := lcp_any sl cap sl2 cap2 top pr st bu bs bk s1 k1 rs ps (bidF pr ids (bareS rs)) PL W hn hm (by rw [hbl]; exact hn) hPL (hz.below hW) (hp.below hW) ib il'
  rwa [hbl] at this
 have HZ := Lib.hid hz
 have HPL : Hid ((askF rs ps top ids bu).P.length ≤ 1048576) := (askF_small rs ps top ids bu).1
 clear hz hp hi hl'
 have HF := Lib.hid hF
 clear hF
 generalize hN : rs.length = n at *
 have HN := Lib.hid hN
 clear hN
 generalize hM : ps.length = m at *
 have HM := Lib.hid hM
 clear hM
 have B1 : Hid (Below w.heap.size w ((w.alloc (.cells #[.slice sl n cap, .slice sl2 m cap2] 26)).alloc (.cells #[.slice none 0 0, .slice none 0 0, .int .i64 0, .int .i64 0, .int .i64 0, .int .i64 0, .slice none 0 0, .slice none 0 0, .slice none 0 0, .slice none 0 0, .int .i64 0, .int .i64 0] 36))) := bA (bA0 _ _) _
 have TF : Hid (∀ W, Below ((w.alloc (.cells #[.slice sl n cap, .slice sl2 m cap2] 26)).alloc (.cells #[.slice none 0 0, .slice none 0 0, .int .i64 0, .int .i64 0, .int .i64 0, .int .i64 0, .slice none 0 0, .slice none 0 0, .slice none 0 0, .slice none 0 0, .int .i64 0, .int .i64 0] 36)).heap.size ((w.alloc (.cells #[.slice sl n cap, .slice sl2 m cap2] 26)).alloc (.cells #[.slice none 0 0, .slice none 0 0, .int .i64 0, .int .i64 0, .int .i64 0, .int .i64 0, .slice none 0 0, .slice none 0 0, .slice none 0 0, .slice none 0 0, .int .i64 0, .int .i64 0] 36)) W → w.heap.size < W.heap.size ∧ W.cell? ⟨w.heap.size, 0, none⟩ = some (.slice sl n cap) ∧ W.cell? ⟨w.heap.size, 1, none⟩ = some (.slice sl2 m cap2)) := fun W hW => by
  have h0 : ((w.alloc (.cells #[.slice sl n cap, .slice sl2 m cap2] 26)).alloc (.cells #[.slice none 0 0, .slice none 0 0, .int .i64 0, .int .i64 0, .int .i64 0, .int .i64 0, .slice none 0 0, .slice none 0 0, .slice none 0 0, .slice none 0 0, .int .i64 0, .int .i64 0] 36)).heap[w.heap.size]? = some (.cells #[.slice sl n cap, .slice sl2 m cap2] 26) := (al_old _ _ _ (by simp)).trans (al_new _ _ _ rfl)
  have h := (hW.block w.heap.size (by simp <;> omega)).trans h0
  exact ⟨(Array.getElem?_eq_some_iff.1 h).1, by simp [World.cell?, h], by simp [World.cell?, h]⟩
 have XR : Hid (∀ W, Below ((w.alloc (.cells #[.slice sl n cap, .slice sl2 m cap2] 26)).alloc (.cells #[.slice none 0 0, .slice none 0 0, .int .i64 0, .int .i64 0, .int .i64 0, .int .i64 0, .slice none 0 0, .slice none 0 0, .slice none 0 0, .slice none 0 0, .int .i64 0, .int .i64 0] 36)).heap.size ((w.alloc (.cells #[.slice sl n cap, .slice sl2 m cap2] 26)).alloc (.cells #[.slice none 0 0, .slice none 0 0, .int .i64 0, .int .i64 0, .int .i64 0, .int .i64 0, .slice none 0 0, .slice none 0 0, .slice none 0 0, .slice none 0 0, .int .i64 0, .int .i64 0] 36)) W → Bx12 W (w.heap.size + 1)) := fun W hW => by
  have h0 := new_at (w.alloc (.cells #[.slice sl n cap, .slice sl2 m cap2] 26)) (.cells #[.slice none 0 0, .slice none 0 0, .int .i64 0, .int .i64 0, .int .i64 0, .int .i64 0, .slice none 0 0, .slice none 0 0, .slice none 0 0, .slice none 0 0, .int .i64 0, .int .i64 0] 36)
  rw [show (w.alloc (.cells #[.slice sl n cap, .slice sl2 m cap2] 26)).heap.size = w.heap.size + 1 by simp] at h0
  exact (hW.block _ (by simp)).trans h0
 have PF : Hid (∀ c, F = cloN c → ∀ w', Below w.heap.size w w' → ∃ v1 v2 v3 v4, (Ending.returned (COV (.slice none 0 0) (.slice none 0 0) 0 0 0 0 (.slice none 0 0) (.slice none 0 0) 0 c) : Ending) = .returned (COV v1 v2 F.top F.pr F.st F.bu v3 v4 0 F.cd) ∧ COw w.heap.size F v1 v2 v3 v4 w' ∧ Below w.heap.size w w') := fun c hc w' hb => by
  subst hc
  exact ⟨_, _, _, _, rfl, COw.nil _ _ _, hb⟩
 by_cases h4 : 400 < ids.length
 ·have h4' : (400 : Int) < (ids.length : Int) := by omega
  have H2 := Lib.hid (PF.out 2 (HF.out.symm.trans (if_pos h4)))
  clear E56 E96 E18 E57 TF XR PF
  generalize ids.length = q at *
  go_enter Tryz.func37, Tryz.ntmps37
  go_wp2
  exact bodyPost_ret (v := COV (.slice none 0 0) (.slice none 0 0) 0 0 0 0 (.slice none 0 0) (.slice none 0 0) 0 2) (by simp [results, Tryz.results37, go_sem]) rfl (H2.out _ (bA (bA0 _ _) _))
 have h4' : ¬ (400 : Int) < (ids.length : Int) := by omega
 have HG : Hid (IdsR rs ps ids ∧ NumR top pr st bu → F = if (askF rs ps top ids bu).x ≠ 1 then cloN 9 else ⟨bareS rs, ps, bidF pr ids (bareS rs), (askF rs ps top ids bu).P, top, pr, st, bu, 0⟩) := fun h => by
  rw [← HF.out]
  unfold cloF
  rw [if_neg h4, if_neg (fun k => k h)]
 have HB1 : Hid (¬ (IdsR rs ps ids ∧ NumR top pr st bu) → F = cloN 1) := fun h => by
  rw [← HF.out]
  unfold cloF
  rw [if_neg h4, if_pos h]
 clear h4 hl
 by_cases h2 : IdsR rs ps ids
 case neg =>
  have H1 := Lib.hid (PF.out 1 (HB1.out fun h => h2 h.1))
  rw [B_no h2] at E56
  clear E96 E18 E57 TF PF HG HB1
  generalize ids.length = q at *
  go_enter Tryz.func37, Tryz.ntmps37
  go_wp2_with fail
  refine (E56.out _ B1.out).mono ?_
  rintro e w1 ⟨rfl, b1⟩
  have B2 := Lib.hid (bT B1.out b1)
  have RX := Lib.hid (XR.out _ b1)
  obtain ⟨rl, r0, r1, r2, r3, r4, r5, r6, r7, r8, r9, r10, r11, rf⟩ := Bx12.facts RX.out
  have H1a := Lib.hid (fun u0 u1 u2 u3 u4 u5 u6 u7 u8 u9 u10 u11 : Value => H1.out _ (set12_below (b := w.heap.size + 1) B2.out (Nat.le_succ _) u0 u1 u2 u3 u4 u5 u6 u7 u8 u9 u10 u11))
  clear b1 B2 RX XR E56 H1
  go_wp2
  exact bodyPost_ret (v := COV (.slice none 0 0) (.slice none 0 0) 0 0 0 0 (.slice none 0 0) (.slice none 0 0) 0 1) (by simp [results, Tryz.results37, go_sem, r0, r1, r2, r3, r4, r5, r6, r7, r8, r9, r10, r11]) rfl (H1a.out _ _ _ _ _ _ _ _ _ _ _ _)
 rw [B_yes h2] at E56
 by_cases h3 : NumR top pr st bu
 case neg =>
  have H1 := Lib.hid (PF.out 1 (HB1.out fun h => h3 h.2))
  rw [B_no h3] at E96
  clear E18 E57 PF HG HB1
  generalize ids.length = q at *
  go_enter Tryz.func37, Tryz.ntmps37
  go_wp2_with fail
  refine (E56.out _ B1.out).mono ?_
  rintro e w1 ⟨rfl, b1⟩
  have B2 := Lib.hid (bT B1.out b1)
  have RX := Lib.hid (XR.out _ b1)
  obtain ⟨rl, r0, r1, r2, r3, r4, r5, r6, r7, r8, r9, r10, r11, rf⟩ := Bx12.facts RX.out
  have H1a := Lib.hid (fun u0 u1 u2 u3 u4 u5 u6 u7 u8 u9 u10 u11 : Value => H1.out _ (set12_below (b := w.heap.size + 1) B2.out (Nat.le_succ _) u0 u1 u2 u3 u4 u5 u6 u7 u8 u9 u10 u11))
  clear b1 B2 RX XR E56 H1 TF
  go_wp2_with fail
  refine (E96.out _).mono ?_
  rintro e w2 ⟨rfl, rfl⟩
  go_wp2
  exact bodyPost_ret (v := COV (.slice none 0 0) (.slice none 0 0) 0 0 0 0 (.slice none 0 0) (.slice none 0 0) 0 1) (by simp [results, Tryz.results37, go_sem, r0, r1, r2, r3, r4, r5, r6, r7, r8, r9, r10, r11]) rfl (H1a.out _ _ _ _ _ _ _ _ _ _ _ _)
 rw [B_yes h3] at E96
 have HFF := Lib.hid (HG.out ⟨h2, h3⟩)
 clear HG HB1 h2 h3 HF
 obtain ⟨fa, hfa⟩ : ∃ fa, askF rs ps top ids bu = fa := ⟨_, rfl⟩
 have E18a := Lib.hid (E18.out fa hfa)
 rw [hfa] at HFF HPL
 clear E18 hfa
 obtain ⟨x, hw, stt, c, PL, LL⟩ := fa
 dsimp only at HFF E18a HPL
 have HQ : Hid (ids.length = ids.length) := rfl
 generalize ids.length = q at *
 clear HQ
 go_enter Tryz.func37, Tryz.ntmps37
 go_wp2_with fail
 refine (E56.out _ B1.out).mono ?_
 rintro e w1 ⟨rfl, b1⟩
 obtain ⟨t0, t1, t2⟩ := TF.out w1 b1
 have A1 := Lib.hid b1
 have B2 := Lib.hid (bT B1.out b1)
 clear b1 E56 B1
 go_wp2_with fail
 refine (E96.out _).mono ?_
 rintro e w2 ⟨rfl, rfl⟩
 clear E96
 go_wp2_with fail
 refine (E18a.out _ B2.out).mono ?_
 rintro e w3 ⟨vp, vl, rfl, aw, b3⟩
 obtain ⟨s1, k1, rfl⟩ := own_v aw.1
 have OL3 := Lib.hid (own_mono aw.1 B2.out.size)
 obtain ⟨lls, ocl, -⟩ := aw.2
 obtain ⟨s2, k2, rfl⟩ := ocl.v
 have A3 := Lib.hid (bT A1.out b3)
 have B3 := Lib.hid (bT B2.out b3)
 generalize hpn : PL.length = pn at *
 have HPN := Lib.hid hpn
 generalize lls.length = ln at *
 clear aw ocl b3 A1 B2 E18a t0 t1 t2 hpn
 have NX := Lib.hid (new_at w3 (.cells #[.int .i64 x, .int .i64 hw, .slice s1 pn k1, .slice s2 ln k2, .int .i64 stt, .int .i64 c] 49))
 have NB := Lib.hid (bA0 w3 (.cells #[.int .i64 x, .int .i64 hw, .slice s1 pn k1, .slice s2 ln k2, .int .i64 stt, .int .i64 c] 49))
 obtain ⟨t0, t1, t2⟩ := TF.out w3 A3.out
 by_cases hx : x = 1
 case neg =>
  have hxb : (x != 1) = true := by simp [hx]
  have H9 := Lib.hid (PF.out 9 (by have := HFF.out; rwa [if_pos hx] at this))
  have RX := Lib.hid (XR.out _ (bT A3.out NB.out))
  have B4 := Lib.hid (bT B3.out NB.out)
  have H1a := Lib.hid (fun u0 u1 u2 u3 u4 u5 u6 u7 u8 u9 u10 u11 : Value => H9.out _ (set12_below (b := w.heap.size + 1) B4.out (Nat.le_succ _) u0 u1 u2 u3 u4 u5 u6 u7 u8 u9 u10 u11))
  obtain ⟨rl, r0, r1, r2, r3, r4, r5, r6, r7, r8, r9, r10, r11, rf⟩ := Bx12.facts RX.out
  clear H9 B4 RX NB XR TF E57 PF OL3 HFF A3 B3
  obtain ⟨p0, p1, p2, p3, p4, p5, pl⟩ := cells6a NX.out
  clear NX
  go_wp2
  exact bodyPost_ret (v := COV (.slice none 0 0) (.slice none 0 0) 0 0 0 0 (.slice none 0 0) (.slice none 0 0) 0 9) (by simp [results, Tryz.results37, go_sem, r0, r1, r2, r3, r4, r5, r6, r7, r8, r9, r10, r11]) rfl (H1a.out _ _ _ _ _ _ _ _ _ _ _ _)
 subst hx
 have HOK : Hid (F = ⟨bareS rs, ps, bidF pr ids (bareS rs), PL, top, pr, st, bu, 0⟩) := by have := HFF.out; rwa [if_neg (by simp)] at this
 have B4 := Lib.hid (bT B3.out NB.out)
 have A4 := Lib.hid (bT A3.out NB.out)
 have OL4 := Lib.hid (own_below OL3.out NB.out)
 have XR4 : Hid (∀ W, Below (w3.alloc (.cells #[.int .i64 1, .int .i64 hw, .slice s1 pn k1, .slice s2 ln k2, .int .i64 stt, .int .i64 c] 49)).heap.size (w3.alloc (.cells #[.int .i64 1, .int .i64 hw, .slice s1 pn k1, .slice s2 ln k2, .int .i64 stt, .int .i64 c] 49)) W → Bx12 W (w.heap.size + 1)) := fun W hW => XR.out W (bT A4.out hW)
 have TF4 : Hid (∀ W, Below (w3.alloc (.cells #[.int .i64 1, .int .i64 hw, .slice s1 pn k1, .slice s2 ln k2, .int .i64 stt, .int .i64 c] 49)).heap.size (w3.alloc (.cells #[.int .i64 1, .int .i64 hw, .slice s1 pn k1, .slice s2 ln k2, .int .i64 stt, .int .i64 c] 49)) W → w.heap.size < W.heap.size ∧ W.cell? ⟨w.heap.size, 0, none⟩ = some (.slice sl n cap) ∧ W.cell? ⟨w.heap.size, 1, none⟩ = some (.slice sl2 m cap2)) := fun W hW => TF.out W (bT A4.out hW)
 obtain ⟨p0, p1, p2, p3, p4, p5, pl⟩ := cells6a NX.out
 obtain ⟨t0, t1, t2⟩ := TF4.out _ (Below.refl _ _)
 clear XR TF PF HFF A3 B3 NX NB OL3 A4
 have hw4 := Lib.hid (show w3.heap.size + 1 = (w3.alloc (.cells #[.int .i64 1, .int .i64 hw, .slice s1 pn k1, .slice s2 ln k2, .int .i64 stt, .int .i64 c] 49)).heap.size by simp)
 have B5 := Lib.hid (bA0 (w3.alloc (.cells #[.int .i64 1, .int .i64 hw, .slice s1 pn k1, .slice s2 ln k2, .int .i64 stt, .int .i64 c] 49)) (CLC (.slice sl n cap) (.slice sl2 m cap2) top pr st bu (.slice none 0 0) (.slice s1 pn k1)))
 have C5 := Lib.hid (new_at (w3.alloc (.cells #[.int .i64 1, .int .i64 hw, .slice s1 pn k1, .slice s2 ln k2, .int .i64 stt, .int .i64 c] 49)) (CLC (.slice sl n cap) (.slice sl2 m cap2) top pr st bu (.slice none 0 0) (.slice s1 pn k1)))
 go_wp2
 generalize (w3.alloc (.cells #[.int .i64 1, .int .i64 hw, .slice s1 pn k1, .slice s2 ln k2, .int .i64 stt, .int .i64 c] 49)).alloc (CLC (.slice sl n cap) (.slice sl2 m cap2) top pr st bu (.slice none 0 0) (.slice s1 pn k1)) = w5 at *
 generalize (w3.alloc (.cells #[.int .i64 1, .int .i64 hw, .slice s1 pn k1, .slice s2 ln k2, .int .i64 stt, .int .i64 c] 49)) = w4 at *
 rw [hw4.out]
 clear p0 p1 p2 p3 p4 p5 pl t0 t1 t2 hw4
 have OR0 : Hid (w5.ownsRow w4.heap.size 103 3 (.slice none 0 0) 0 (prC ((bidF pr ids (bareS rs)).take 0))) := ⟨rfl, .inl ⟨rfl, rfl⟩⟩
 go_loopw [15] (fun i wr => ∃ (k : Nat) (bs : Option Addr) (bk : Nat), i = .int .i64 k ∧ k ≤ n ∧ Hid (wr.ownsRow w4.heap.size 103 3 (.slice bs k bk) k (prC ((bidF pr ids (bareS rs)).take k))) ∧ Hid (wr.heap[w4.heap.size]? = some (CLC (.slice sl n cap) (.slice sl2 m cap2) top pr st bu (.slice bs k bk) (.slice s1 pn k1))) ∧ Hid (Below w4.heap.size w4 wr)) (fun i _ => n - (intOf i).toNat)
 case atStart => exact ⟨0, none, 0, rfl, Nat.zero_le _, OR0, C5, B5⟩
 case round =>
  obtain ⟨k, bs, bk, rfl, hk, OR, CX, HB⟩ := hrel
  have hk0 : (0 : Int) ≤ (k : Int) := by omega
  obtain ⟨t0, t1, t2⟩ := TF4.out wr HB.out
  by_cases g1 : k < n
  ·have g1' : (k : Int) < (n : Int) := by omega
   have hlt : k < rs.length := by rw [HN.out]; exact g1
   obtain ⟨g, o, rfl, Z⟩ : ∃ c o, sl = some ⟨c, o, none⟩ ∧ StAt w c o rs := by
    rcases HZ.out.row with e | h
    ·rw [e] at hlt; simp at hlt
    ·exact h
   have BS0 := bidF_step pr ids rs k hlt
   have SC : ∀ W, Below wr.heap.size wr W → g < W.heap.size ∧ W.cell? ⟨g, o + k * 3, none⟩ = some (.int .i64 rs[k].1) ∧ W.cell? ⟨g, o + k * 3 + 1, none⟩ = some (.int .i64 rs[k].2.1) := fun W hW => by
    have h := Z.below (bT (bT B4.out HB.out) hW)
    obtain ⟨c0, c1, -⟩ := h.cell k hlt
    exact ⟨h.lt, c0, c1⟩
   generalize rs[k].1 = x at *
   generalize rs[k].2.1 = y at *
   clear hlt Z
   have KX : Hid (∀ W, Below wr.heap.size wr W → w.heap.size < W.heap.size ∧ W.cell? ⟨w.heap.size, 0, none⟩ = some (.slice (some ⟨g, o, none⟩) n cap) ∧ g < W.heap.size ∧ W.cell? ⟨g, o + k * 3, none⟩ = some (.int .i64 x) ∧ W.cell? ⟨g, o + k * 3 + 1, none⟩ = some (.int .i64 y)) := fun W hW => by
    obtain ⟨h1, h2, -⟩ := TF4.out W (bT HB.out hW)
    obtain ⟨h3, h4, h5⟩ := SC W hW
    exact ⟨h1, h2, h3, h4, h5⟩
   clear SC
   go_wp2_with fail
   clear t0 t1 t2
   refine wp_region_held_drew (S := fun W => w.heap.size < W.heap.size ∧ W.cell? ⟨w.heap.size, 0, none⟩ = some (.slice (some ⟨g, o, none⟩) n cap) ∧ g < W.heap.size ∧ W.cell? ⟨g, o + k * 3, none⟩ = some (.int .i64 x) ∧ W.cell? ⟨g, o + k * 3 + 1, none⟩ = some (.int .i64 y)) (by kernel_rfl) ?_ (fun hHeld => ?_)
   ·exact KX.out _ (Below.refl _ _).drew
   have DZ : Hid (Below wr.heap.size wr wr.drew) := (Below.refl _ _).drew
   generalize wr.drew = wz at *
   obtain ⟨z, hzz⟩ : ∃ z, IntKind.i64.wrap (y * pr) = z := ⟨_, rfl⟩
   rw [hzz] at BS0
   have DR := DZ
   refine wpAnyH_take (i := 0) (oi := _) (v := ?_) rfl (by kernel_rfl) (by kernel_rfl) (by kernel_rfl) (fun _ _ _ h => h) (Or.inl ⟨by rfl, ?_⟩) (by assumption) ?_
   rotate_left
   ·intro w hSw; (try dsimp only at hSw); go_simp; try with_reducible rfl
   try simp only [Act.put, setIfInBounds_toArray, set_cons_zero, set_cons_succ, getElem_toArray, getElem_cons_zero]
   refine wpAnyH_take (i := 1) (oi := _) (v := ?_) rfl (by kernel_rfl) (by kernel_rfl) (by kernel_rfl) (fun _ _ _ h => h) (Or.inl ⟨by rfl, ?_⟩) (by assumption) ?_
   rotate_left
   ·intro w hSw; (try dsimp only at hSw); go_simp; try with_reducible rfl
   try simp only [Act.put, setIfInBounds_toArray, set_cons_zero, set_cons_succ, getElem_toArray, getElem_cons_succ, getElem_cons_zero]
   refine wpAnyH_take (i := 2) (oi := _) (v := ?_) rfl (by kernel_rfl) (by kernel_rfl) (by kernel_rfl) (fun _ _ _ h => h) (Or.inl ⟨by rfl, ?_⟩) (by assumption) ?_
   rotate_left
   ·intro w hSw; (try dsimp only at hSw); go_simp; try with_reducible rfl
   try simp only [Act.put, setIfInBounds_toArray, set_cons_zero, set_cons_succ, getElem_toArray, getElem_cons_succ, getElem_cons_zero]
   refine wpAnyH_take (i := 3) (oi := _) (v := ?_) rfl (by kernel_rfl) (by kernel_rfl) (by kernel_rfl) (fun _ _ _ h => h) (Or.inl ⟨by rfl, ?_⟩) (by assumption) ?_
   rotate_left
   ·intro w hSw; (try dsimp only at hSw); go_simp; try with_reducible rfl
   try simp only [Act.put, setIfInBounds_toArray, set_cons_zero, set_cons_succ, getElem_toArray, getElem_cons_succ, getElem_cons_zero]
   refine wpAnyH_take (i := 4) (oi := _) (v := ?_) rfl (by kernel_rfl) (by kernel_rfl) (by kernel_rfl) (fun _ _ _ h => h) (Or.inl ⟨by rfl, ?_⟩) (by assumption) ?_
   rotate_left
   ·intro w hSw; (try dsimp only at hSw); go_simp; try with_reducible rfl
   try simp only [Act.put, setIfInBounds_toArray, set_cons_zero, set_cons_succ, getElem_toArray, getElem_cons_succ, getElem_cons_zero]
   refine wpAnyH_take (i := 5) (oi := _) (v := ?_) rfl (by kernel_rfl) (by kernel_rfl) (by kernel_rfl) (fun _ _ _ h => h) (Or.inl ⟨by rfl, ?_⟩) (by assumption) ?_
   rotate_left
   ·intro w hSw; (try dsimp only at hSw); go_simp; try with_reducible rfl
   try simp only [Act.put, setIfInBounds_toArray, set_cons_zero, set_cons_succ, getElem_toArray, getElem_cons_succ, getElem_cons_zero]
   refine wpAnyH_take (i := 6) (oi := _) (v := ?_) rfl (by kernel_rfl) (by kernel_rfl) (by kernel_rfl) (fun _ _ _ h => h) (Or.inl ⟨by rfl, ?_⟩) (by assumption) ?_
   rotate_left
   ·intro w hSw; (try dsimp only at hSw); go_simp; try with_reducible rfl
   try simp only [Act.put, setIfInBounds_toArray, set_cons_zero, set_cons_succ, getElem_toArray, getElem_cons_succ, getElem_cons_zero]
   refine wpAnyH_take (i := 7) (oi := _) (v := ?_) rfl (by kernel_rfl) (by kernel_rfl) (by kernel_rfl) (fun _ _ _ h => h) (Or.inl ⟨by rfl, ?_⟩) (by assumption) ?_
   rotate_left
   ·intro w hSw; (try dsimp only at hSw); go_simp; try with_reducible rfl
   try simp only [Act.put, setIfInBounds_toArray, set_cons_zero, set_cons_succ, getElem_toArray, getElem_cons_succ, getElem_cons_zero]
   refine wpAnyH_take (i := 8) (oi := _) (v := ?_) rfl (by kernel_rfl) (by kernel_rfl) (by kernel_rfl) (fun _ _ _ h => h) (Or.inl ⟨by rfl, ?_⟩) (by assumption) ?_
   rotate_left
   ·intro w hSw; (try dsimp only at hSw); go_simp; try with_reducible rfl
   try simp only [Act.put, setIfInBounds_toArray, set_cons_zero, set_cons_succ, getElem_toArray, getElem_cons_succ, getElem_cons_zero]
   refine wpAnyH_take (i := 9) (oi := _) (v := ?_) rfl (by kernel_rfl) (by kernel_rfl) (by kernel_rfl) (fun _ _ _ h => h) (Or.inl ⟨by rfl, ?_⟩) (by assumption) ?_
   rotate_left
   ·intro w hSw; (try dsimp only at hSw); go_simp; try with_reducible rfl
   try simp only [Act.put, setIfInBounds_toArray, set_cons_zero, set_cons_succ, getElem_toArray, getElem_cons_succ, getElem_cons_zero]
   refine wpAnyH_take (i := 10) (oi := _) (v := ?_) rfl (by kernel_rfl) (by kernel_rfl) (by kernel_rfl) (fun _ _ _ h => h) (Or.inl ⟨by rfl, ?_⟩) (by assumption) ?_
   rotate_left
   ·intro w hSw; (try dsimp only at hSw); go_simp; try with_reducible rfl
   try simp only [Act.put, setIfInBounds_toArray, set_cons_zero, set_cons_succ, getElem_toArray, getElem_cons_succ, getElem_cons_zero]
   refine wpAnyH_take (i := 11) (oi := _) (v := ?_) rfl (by kernel_rfl) (by kernel_rfl) (by kernel_rfl) (fun _ _ _ h => h) (Or.inl ⟨by rfl, ?_⟩) (by assumption) ?_
   rotate_left
   ·intro w hSw; (try dsimp only at hSw); go_simp; try with_reducible rfl
   try simp only [Act.put, setIfInBounds_toArray, set_cons_zero, set_cons_succ, getElem_toArray, getElem_cons_succ, getElem_cons_zero]
   refine wpAnyH_take (i := 12) (oi := _) (v := ?_) rfl (by kernel_rfl) (by kernel_rfl) (by kernel_rfl) (fun _ _ _ h => h) (Or.inl ⟨by rfl, ?_⟩) (by assumption) ?_
   rotate_left
   ·intro w hSw; (try dsimp only at hSw); go_simp; try with_reducible rfl
   try simp only [Act.put, setIfInBounds_toArray, set_cons_zero, set_cons_succ, getElem_toArray, getElem_cons_succ, getElem_cons_zero]
   refine wpAnyH_take (i := 13) (oi := _) (v := ?_) rfl (by kernel_rfl) (by kernel_rfl) (by kernel_rfl) (fun _ _ _ h => h) (Or.inl ⟨by rfl, ?_⟩) (by assumption) ?_
   rotate_left
   ·intro w hSw; (try dsimp only at hSw); go_simp; try with_reducible rfl
   try simp only [Act.put, setIfInBounds_toArray, set_cons_zero, set_cons_succ, getElem_toArray, getElem_cons_succ, getElem_cons_zero]
   refine wpAnyH_take (i := 14) (oi := _) (v := ?_) rfl (by kernel_rfl) (by kernel_rfl) (by kernel_rfl) (fun _ _ _ h => h) (Or.inl ⟨by rfl, ?_⟩) (by assumption) ?_
   rotate_left
   ·intro w hSw; (try dsimp only at hSw); go_simp; try with_reducible rfl
   try simp only [Act.put, setIfInBounds_toArray, set_cons_zero, set_cons_succ, getElem_toArray, getElem_cons_succ, getElem_cons_zero]
   refine wpAnyH_ready (rs := [15]) (by kernel_rfl) (by simp) ?_
   refine AllReadyH.cons rfl (fun K hK => ?_) AllReadyH.nil
   go_simp
   go_wp2
   have NQ := Lib.hid (bA0 wz (.cells #[.int .i64 0, .int .i64 0, .int .i64 0] 103))
   have NQX := Lib.hid (new_at wz (.cells #[.int .i64 0, .int .i64 0, .int .i64 0] 103))
   generalize wz.alloc (.cells #[.int .i64 0, .int .i64 0, .int .i64 0] 103) = wq at *
   have KQ := Lib.hid (KX.out wq (bT DZ.out NQ.out))
   refine hK.out _ _ ?_ (fun hHeld => ?_)
   ·exact KQ.out
   clear hK K
   refine wpAnyH_ready (rs := [16]) (by kernel_rfl) (by simp) ?_
   refine AllReadyH.cons rfl (fun K hK => ?_) AllReadyH.nil
   obtain ⟨ql, q0, q1, q2, qf⟩ := b103_facts NQX.out
   have KV : Hid ((fun W : World => w.heap.size < W.heap.size ∧ W.cell? ⟨w.heap.size, 0, none⟩ = some (.slice (some ⟨g, o, none⟩) n cap) ∧ g < W.heap.size ∧ W.cell? ⟨g, o + k * 3, none⟩ = some (.int .i64 x) ∧ W.cell? ⟨g, o + k * 3 + 1, none⟩ = some (.int .i64 y)) (((wq.setCell ⟨wz.heap.size, 0, none⟩ (.int .i64 x)).setCell ⟨wz.heap.size, 1, none⟩ (.int .i64 1)).setCell ⟨wz.heap.size, 2, none⟩ (.int .i64 z))) := KX.out _ ((((bT DZ.out NQ.out).setCell (p := ⟨wz.heap.size, 0, none⟩) DZ.out.size _).setCell (p := ⟨wz.heap.size, 1, none⟩) DZ.out.size _).setCell (p := ⟨wz.heap.size, 2, none⟩) DZ.out.size _)
   have BV := Lib.hid (((NQ.out.setCell (p := ⟨wz.heap.size, 0, none⟩) (Nat.le_refl _) (.int .i64 x)).setCell (p := ⟨wz.heap.size, 1, none⟩) (Nat.le_refl _) (.int .i64 1)).setCell (p := ⟨wz.heap.size, 2, none⟩) (Nat.le_refl _) (.int .i64 z))
   have XV : Hid ((((wq.setCell ⟨wz.heap.size, 0, none⟩ (.int .i64 x)).setCell ⟨wz.heap.size, 1, none⟩ (.int .i64 1)).setCell ⟨wz.heap.size, 2, none⟩ (.int .i64 z)).heap[wz.heap.size]? = some (.cells #[.int .i64 x, .int .i64 1, .int .i64 z] 103)) := by
    have h1 := heap_setCell_same wq wz.heap.size 0 _ 103 (.int .i64 x) NQX.out
    have h2 := heap_setCell_same _ wz.heap.size 1 _ 103 (.int .i64 1) h1
    have h3 := heap_setCell_same _ wz.heap.size 2 _ 103 (.int .i64 z) h2
    refine Lib.hid ?_
    simpa using h3
   go_simp
   refine hK.out _ _ ?_ (fun hHeld => ?_)
   ·exact KV.out
   clear hK K
   refine wpAnyH_done (by kernel_rfl) ?_ _
   clear hHeld
   generalize hwv : ((wq.setCell ⟨wz.heap.size, 0, none⟩ (.int .i64 x)).setCell ⟨wz.heap.size, 1, none⟩ (.int .i64 1)).setCell ⟨wz.heap.size, 2, none⟩ (.int .i64 z) = wv at *
   clear hwv NQ NQX KQ ql q0 q1 q2 qf
   obtain ⟨i_l0, i00, i01, i02, i_f0⟩ := b103_facts XV.out
   have E2 := Lib.hid (C2.out x wv (bT (bT (bT B4.out HB.out) DR.out) BV.out))
   by_cases hx : x ∈ ids
   ·have BS := Lib.hid BS0
    rw [if_pos hx, prC_oneQ] at BS
    rw [B_yes hx] at E2
    clear BS0
    go_wp2_with fail
    refine E2.out.mono ?_
    rintro e w_ ⟨rfl, hw_⟩
    obtain rfl := hw_.symm
    clear E2
    have YV : Hid ((((wv.setCell ⟨wz.heap.size, 0, none⟩ (.int .i64 x)).setCell ⟨wz.heap.size, 1, none⟩ (.int .i64 3)).setCell ⟨wz.heap.size, 2, none⟩ (.int .i64 0)).heap[wz.heap.size]? = some (.cells #[.int .i64 x, .int .i64 3, .int .i64 0] 103)) := by
     have h1 := heap_setCell_same wv wz.heap.size 0 _ 103 (.int .i64 x) XV.out
     have h2 := heap_setCell_same _ wz.heap.size 1 _ 103 (.int .i64 3) h1
     have h3 := heap_setCell_same _ wz.heap.size 2 _ 103 (.int .i64 0) h2
     refine Lib.hid ?_
     simpa using h3
    have BY := Lib.hid (((BV.out.setCell (p := ⟨wz.heap.size, 0, none⟩) (Nat.le_refl _) (.int .i64 x)).setCell (p := ⟨wz.heap.size, 1, none⟩) (Nat.le_refl _) (.int .i64 3)).setCell (p := ⟨wz.heap.size, 2, none⟩) (Nat.le_refl _) (.int .i64 0))
    have BW := Lib.hid (bT DR.out BY.out)
    obtain ⟨i_l, i0, i1, i2, i_f⟩ := b103_facts YV.out
    have CX1 := (BW.out.block _ (Array.getElem?_eq_some_iff.1 CX.out).1).trans CX.out
    obtain ⟨j0, j1, j2, j3, j4, j5, j6, j7, jf, jl⟩ := cells8 CX1
    have OW := own_below OR.out BW.out
    obtain ⟨v9, w9, ha, own9, grow9, -⟩ := app1D OW (.int .i64 x) (.int .i64 3) (.int .i64 0) (Nat.le_trans HB.out.size BW.out.size) (by omega) ⟨rfl, rfl, rfl⟩
    obtain ⟨f9, k9, rfl⟩ := own_v own9
    have ha0 := ha 27
    rw [show (((wv.setCell ⟨wz.heap.size, 0, none⟩ (.int .i64 x)).setCell ⟨wz.heap.size, 1, none⟩ (.int .i64 3)).setCell ⟨wz.heap.size, 2, none⟩ (.int .i64 0)).heap.size = wv.heap.size by simp [World.setCell]] at ha0
    have HD := Lib.hid ha0
    have nb2 := bA0 (((wv.setCell ⟨wz.heap.size, 0, none⟩ (.int .i64 x)).setCell ⟨wz.heap.size, 1, none⟩ (.int .i64 3)).setCell ⟨wz.heap.size, 2, none⟩ (.int .i64 0)) (.cells #[.int .i64 x, .int .i64 3, .int .i64 0] 103)
    have CX2 : Hid (w9.heap[w4.heap.size]? = some (CLC (.slice (some ⟨g, o, none⟩) n cap) (.slice sl2 m cap2) top pr st bu (.slice bs k bk) (.slice s1 pn k1))) := (grow9.block _ (Array.getElem?_eq_some_iff.1 ((nb2.block _ jl).trans CX1)).1 (fun e0 => own_kindne (own_below OW nb2) ((nb2.block _ jl).trans CX1) (by decide) e0.symm)).trans ((nb2.block _ jl).trans CX1)
    obtain ⟨n0, n1, n2, n3, n4, n5, n6, n7, nf, nl⟩ := cells8 CX2.out
    have CX3 : Hid ((w9.setCell ⟨w4.heap.size, 6, none⟩ (.slice f9 (k + 1) k9)).heap[w4.heap.size]? = some (CLC (.slice (some ⟨g, o, none⟩) n cap) (.slice sl2 m cap2) top pr st bu (.slice f9 (k + 1) k9) (.slice s1 pn k1))) := by
     have h := heap_setCell_same w9 w4.heap.size 6 _ 30 (.slice f9 (k + 1) k9) CX2.out
     refine Lib.hid ?_
     simpa using h
    have OR3 : Hid ((w9.setCell ⟨w4.heap.size, 6, none⟩ (.slice f9 (k + 1) k9)).ownsRow w4.heap.size 103 3 (.slice f9 (k + 1) k9) (k + 1) (prC ((bidF pr ids (bareS rs)).take (k + 1)))) := by
     have h := own_set own9 (own_kindne own9 CX2.out (by decide)) 6 (.slice f9 (k + 1) k9)
     rw [BS.out]
     exact h
    have HB3 : Hid (Below w4.heap.size w4 (w9.setCell ⟨w4.heap.size, 6, none⟩ (.slice f9 (k + 1) k9))) := ((bT (bT HB.out BW.out) nb2).grown grow9 (Nat.le_trans (Nat.le_trans HB.out.size BW.out.size) nb2.size) (fun j hj => (OW.lt j hj).1)).setCell (p := ⟨w4.heap.size, 6, none⟩) (Nat.le_refl _) _
    clear ha ha0 own9 grow9 nb2 CX1 CX2 OW BW OR CX HB BS KX DZ DR BV XV YV BY
    go_wp2_with (at_builtin; refine Lib.wpList_append_run _ rfl _ _ _ _ rfl _ _ rfl rfl _ _ HD.out ?_)
    go_roundw
    case rel => exact ⟨k + 1, f9, k9, by go_num, by omega, OR3, CX3, HB3⟩
    case measure => simp [intOf]; omega
   ·have BS := Lib.hid BS0
    rw [if_neg hx, prC_oneQ] at BS
    rw [B_no hx] at E2
    clear BS0
    obtain ⟨l_l, l0, l1, l2, l_f⟩ := b103_facts XV.out
    go_wp2_with fail
    refine E2.out.mono ?_
    rintro e w_ ⟨rfl, hw_⟩
    obtain rfl := hw_.symm
    clear E2
    have BW := Lib.hid (bT DR.out BV.out)
    obtain ⟨i_l, i0, i1, i2, i_f⟩ := b103_facts XV.out
    have CX1 := (BW.out.block _ (Array.getElem?_eq_some_iff.1 CX.out).1).trans CX.out
    obtain ⟨j0, j1, j2, j3, j4, j5, j6, j7, jf, jl⟩ := cells8 CX1
    have OW := own_below OR.out BW.out
    obtain ⟨v9, w9, ha, own9, grow9, -⟩ := app1D OW (.int .i64 x) (.int .i64 1) (.int .i64 z) (Nat.le_trans HB.out.size BW.out.size) (by omega) ⟨rfl, rfl, rfl⟩
    obtain ⟨f9, k9, rfl⟩ := own_v own9
    have ha0 := ha 27
    have HD := Lib.hid ha0
    have nb2 := bA0 (wv) (.cells #[.int .i64 x, .int .i64 1, .int .i64 z] 103)
    have CX2 : Hid (w9.heap[w4.heap.size]? = some (CLC (.slice (some ⟨g, o, none⟩) n cap) (.slice sl2 m cap2) top pr st bu (.slice bs k bk) (.slice s1 pn k1))) := (grow9.block _ (Array.getElem?_eq_some_iff.1 ((nb2.block _ jl).trans CX1)).1 (fun e0 => own_kindne (own_below OW nb2) ((nb2.block _ jl).trans CX1) (by decide) e0.symm)).trans ((nb2.block _ jl).trans CX1)
    obtain ⟨n0, n1, n2, n3, n4, n5, n6, n7, nf, nl⟩ := cells8 CX2.out
    have CX3 : Hid ((w9.setCell ⟨w4.heap.size, 6, none⟩ (.slice f9 (k + 1) k9)).heap[w4.heap.size]? = some (CLC (.slice (some ⟨g, o, none⟩) n cap) (.slice sl2 m cap2) top pr st bu (.slice f9 (k + 1) k9) (.slice s1 pn k1))) := by
     have h := heap_setCell_same w9 w4.heap.size 6 _ 30 (.slice f9 (k + 1) k9) CX2.out
     refine Lib.hid ?_
     simpa using h
    have OR3 : Hid ((w9.setCell ⟨w4.heap.size, 6, none⟩ (.slice f9 (k + 1) k9)).ownsRow w4.heap.size 103 3 (.slice f9 (k + 1) k9) (k + 1) (prC ((bidF pr ids (bareS rs)).take (k + 1)))) := by
     have h := own_set own9 (own_kindne own9 CX2.out (by decide)) 6 (.slice f9 (k + 1) k9)
     rw [BS.out]
     exact h
    have HB3 : Hid (Below w4.heap.size w4 (w9.setCell ⟨w4.heap.size, 6, none⟩ (.slice f9 (k + 1) k9))) := ((bT (bT HB.out BW.out) nb2).grown grow9 (Nat.le_trans (Nat.le_trans HB.out.size BW.out.size) nb2.size) (fun j hj => (OW.lt j hj).1)).setCell (p := ⟨w4.heap.size, 6, none⟩) (Nat.le_refl _) _
    clear ha ha0 own9 grow9 nb2 CX1 CX2 OW BW OR CX HB BS KX DZ DR BV XV
    go_wp2_with (at_builtin; refine Lib.wpList_append_run _ rfl _ _ _ _ rfl _ _ rfl rfl _ _ HD.out ?_)
    go_roundw
    case rel => exact ⟨k + 1, f9, k9, by go_num, by omega, OR3, CX3, HB3⟩
    case measure => simp [intOf]; omega
  ·have g1' : ¬ (k : Int) < (n : Int) := by omega
   have hkn : k = n := by omega
   subst hkn
   have OF : Hid (∃ C, wr.ownsRow C 103 3 (.slice bs k bk) k (prC (bidF pr ids (bareS rs)))) := by
    have h := OR.out
    rw [List.take_of_length_le (by rw [bidF_len, bareS_lenQ, HN.out]; exact Nat.le_refl _)] at h
    exact ⟨_, h⟩
   have OLr : Hid (∃ C, wr.ownsRow C 131 2 (.slice s1 pn k1) pn (enCells PL)) := ⟨_, own_below OL4.out HB.out⟩
   have HB4 := Lib.hid (bT B4.out HB.out)
   have T57 : Hid (Calls Tryz.prog 57 #[CVk sl k cap sl2 m cap2 top pr st bu bs k bk s1 pn k1] wr fun e w' => ∃ s1 k1 s2 k2 s3 k3 s4 k4 rs', e = .returned (CVk s1 rs'.length k1 s2 m k2 top pr st bu s3 k k3 s4 pn k4) ∧ bareS rs' = bareS rs ∧ OwK w' wr.heap.size (.slice s1 rs'.length k1) (.slice s2 m k2) (.slice s3 k k3) (.slice s4 pn k4) rs' m k pn (prC ps) (prC (bidF pr ids (bareS rs))) (enCells PL) ∧ Below wr.heap.size wr w') := by
    have := E57.out wr bs bk s1 k1 PL (by rw [HPN.out]; exact HPL.out) HB4.out OF.out (by rw [HPN.out]; exact OLr.out)
    rwa [HPN.out] at this
   obtain ⟨j0, j1, j2, j3, j4, j5, j6, j7, jf, jl⟩ := cells8 CX.out
   clear OF OLr E57 OR OR0 C2
   go_wp2_with fail
   refine T57.out.mono ?_
   rintro e w8 ⟨a1, ka, a2, ka2, a3, ka3, a4, ka4, rs', rfl, EB, OK8, b8⟩
   have EB8 := Lib.hid EB
   have K8 := Lib.hid OK8
   have B8 := Lib.hid (bT HB4.out b8)
   have RX := Lib.hid (XR4.out w8 (bT HB.out b8))
   generalize hn1q : rs'.length = n1 at *
   have HN1 := Lib.hid hn1q
   obtain ⟨rl, r0, r1, r2, r3, r4, r5, r6, r7, r8, r9, r10, r11, rf⟩ := Bx12.facts RX.out
   have FIN : Hid (∃ v1 v2 v3 v4, (Ending.returned (COV (.slice a1 n1 ka) (.slice a2 m ka2) top pr st bu (.slice a3 k ka3) (.slice a4 pn ka4) 0 0) : Ending) = .returned (COV v1 v2 F.top F.pr F.st F.bu v3 v4 0 F.cd) ∧ COw w.heap.size F v1 v2 v3 v4 (set12 w8 (w.heap.size + 1) (.slice a1 n1 ka) (.slice a2 m ka2) (.int .i64 top) (.int .i64 pr) (.int .i64 st) (.int .i64 bu) (.slice a3 k ka3) (.slice a4 pn ka4) (.slice none 0 0) (.slice none 0 0) (.int .i64 0) (.int .i64 0)) ∧ Below w.heap.size w (set12 w8 (w.heap.size + 1) (.slice a1 n1 ka) (.slice a2 m ka2) (.int .i64 top) (.int .i64 pr) (.int .i64 st) (.int .i64 bu) (.slice a3 k ka3) (.slice a4 pn ka4) (.slice none 0 0) (.slice none 0 0) (.int .i64 0) (.int .i64 0))) := by
    show _
    rw [HOK.out]
    refine ⟨_, _, _, _, rfl, ⟨rs', EB8.out, ?_⟩, set12_below B8.out (Nat.le_succ _) _ _ _ _ _ _ _ _ _ _ _ _⟩
    show OwK _ _ _ _ _ _ rs' ps.length (bidF pr ids (bareS rs)).length PL.length _ _ _
    rw [HM.out, bidF_len, bareS_lenQ, HN.out, HPN.out]
    exact OwK.set12 (K8.out.mono (Nat.le_trans B4.out.size HB.out.size)) RX.out _ _ _ _ _ _ _ _ _ _ _ _
   unfold set12 at FIN
   clear EB OK8 b8 hn1q EB8 K8 B8 RX HB4 T57 j0 j1 j2 j3 j4 j5 j6 j7 jf jl CX HB
   go_wp2
   exact bodyPost_ret (v := COV (.slice a1 n1 ka) (.slice a2 m ka2) top pr st bu (.slice a3 k ka3) (.slice a4 pn ka4) 0 0) (by simp [results, Tryz.results37, go_sem, r0, r1, r2, r3, r4, r5, r6, r7, r8, r9, r10, r11]) rfl FIN.out
end Go.Proofs.YtnihhbfgbilimaaGreatDoor
