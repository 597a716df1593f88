import Derived.Test.YtnihhbfgbilimaaGreatDoorZUa
import Derived.Test.YtnihhbfgbilimaaGreatDoorZPp
import Derived.Test.YtnihhbfgbilimaaGreatDoorPw
import Derived.Test.YtnihhbfgbilimaaGreatDoorZWa
namespace Go.Proofs.YtnihhbfgbilimaaGreatDoor
open Go.RowKit
set_option linter.unusedVariables false
theorem negL_take (D : List Int) (k : Nat) (h : k < D.length) : negL (D.take (k + 1)) = negL (D.take k) ++ [-D.getD k 0] := by
 rw [take_one D k h]; simp [negL]
theorem ints_pre {W : World} {s : Option Addr} {D : List Int} (h : Ints W s D) : Ints W s D.dropLast := by
 rcases h with rfl | ⟨c, o, e, hc, hi⟩
 ·exact .inl rfl
 ·refine .inr ⟨c, o, e, hc, fun i hi' => ?_⟩
  have h1 : i < D.length - 1 := by simpa using hi'
  have h2 : i < D.length := by omega
  rw [hi i h2]
  simp [h1, h2]
set_option maxRecDepth 100000 in
set_option maxHeartbeats 16000000 in
theorem sso_any (vars bud : Int) (sl : Option Addr) (cap : Nat) (cs : List LCl) (w : World) (hn : cs.length ≤ maxLen) (hsm : totC cs ≤ 1048576) (hwf : WfC cs) (hz : Cls w sl cs) :
  Calls Tryz.prog 71 #[CV vars sl cs.length cap, .int .i64 bud] w (SPost w (solA vars (bareC cs) bud)) := by
 have b0 := bA0 w (.cells #[.int .i64 vars, .slice sl cs.length cap] 110)
 have b1 := bA b0 (.cells #[.int .i64 0, .slice none 0 0, .slice none 0 0, .int .i64 0, .int .i64 0] 107)
 have X1 : Hid (BoxO ((w.alloc (.cells #[.int .i64 vars, .slice sl cs.length cap] 110)).alloc (.cells #[.int .i64 0, .slice none 0 0, .slice none 0 0, .int .i64 0, .int .i64 0] 107)) (w.heap.size + 1)) := by
  have := new_at (w.alloc (.cells #[.int .i64 vars, .slice sl cs.length cap] 110)) (.cells #[.int .i64 0, .slice none 0 0, .slice none 0 0, .int .i64 0, .int .i64 0] 107)
  rw [show (w.alloc (.cells #[.int .i64 vars, .slice sl cs.length cap] 110)).heap.size = w.heap.size + 1 by simp] at this
  exact this
 have CA := (CnfAt.new w vars sl cs.length cap).below (bA0 _ (.cells #[.int .i64 0, .slice none 0 0, .slice none 0 0, .int .i64 0, .int .i64 0] 107))
 obtain ⟨q0, q1⟩ := CA.cells
 have ql := CA.lt
 have CA' := Lib.hid CA
 have CR := Lib.hid (scr_any vars sl cap cs ((w.alloc (.cells #[.int .i64 vars, .slice sl cs.length cap] 110)).alloc (.cells #[.int .i64 0, .slice none 0 0, .slice none 0 0, .int .i64 0, .int .i64 0] 107)) hn hsm hwf (hz.below b1))
 have B1 := Lib.hid b1
 by_cases hok : SolOk vars (bareC cs) bud
 case neg =>
  rw [solA_no hok]
  clear CA hz hwf hn b0 b1 hsm
  by_cases hcr : CnfR vars (bareC cs)
  ·rw [B_yes hcr] at CR
   have hbb : bud < 0 ∨ (¬ bud < 0 ∧ 300 < bud) := by
    rcases Classical.em (bud < 0) with h | h
    ·exact .inl h
    ·exact .inr ⟨h, by rcases Classical.em (300 < bud) with g | g; exact g; exact absurd ⟨hcr, by omega, by omega⟩ hok⟩
   clear hcr hok
   generalize cs.length = cn at *
   rcases hbb with hbb | ⟨hbb, hbc⟩
   ·skip
    go_enter Tryz.func71, Tryz.ntmps71
    go_wp2_with (go_at_call 131; refine CR.out.mono ?_; rintro e w1 ⟨rfl, bb1⟩; have X := X1.out.below bb1; obtain ⟨bl6, c0, c1, c2, c3, c4, f0, f1, f2, f3, f4⟩ := X.facts; have XX := Lib.hid X; have BB := Lib.hid (bT B1.out bb1); clear X bb1)
    have X6 := XX.out
    have V6 : SoV w.heap.size (0, [], [], 0) (.slice none 0 0) (.slice none 0 0) [] w1 := ⟨⟨rfl, .inl ⟨rfl, rfl⟩⟩, OwC.nil _ _, rfl, fun r hr j hj e => by cases e⟩
    have A6 := set5_at (v0 := .int .i64 0) (v1 := .slice none 0 0) (v2 := .slice none 0 0) (v3 := .int .i64 0) (v4 := .int .i64 1) X6
    obtain ⟨r0, r1, r2, r3, r4⟩ := cells5 A6
    exact bodyPost_ret (v := .agg #[.int .i64 0, .slice none 0 0, .slice none 0 0, .int .i64 0, .int .i64 1]) (by unfold set5 at r0 r1 r2 r3 r4; simp [results, Tryz.results71, go_sem, r0, r1, r2, r3, r4]) rfl ⟨_, _, [], rfl, V6.only (set5_only _ _ _ _ _ _ _) X6, Only.below BB.out (by omega) (set5_only _ _ _ _ _ _ _)⟩
   ·skip
    go_enter Tryz.func71, Tryz.ntmps71
    go_wp2_with (go_at_call 131; refine CR.out.mono ?_; rintro e w1 ⟨rfl, bb1⟩; have X := X1.out.below bb1; obtain ⟨bl6, c0, c1, c2, c3, c4, f0, f1, f2, f3, f4⟩ := X.facts; have XX := Lib.hid X; have BB := Lib.hid (bT B1.out bb1); clear X bb1)
    have X6 := XX.out
    have V6 : SoV w.heap.size (0, [], [], 0) (.slice none 0 0) (.slice none 0 0) [] w1 := ⟨⟨rfl, .inl ⟨rfl, rfl⟩⟩, OwC.nil _ _, rfl, fun r hr j hj e => by cases e⟩
    have A6 := set5_at (v0 := .int .i64 0) (v1 := .slice none 0 0) (v2 := .slice none 0 0) (v3 := .int .i64 0) (v4 := .int .i64 1) X6
    obtain ⟨r0, r1, r2, r3, r4⟩ := cells5 A6
    exact bodyPost_ret (v := .agg #[.int .i64 0, .slice none 0 0, .slice none 0 0, .int .i64 0, .int .i64 1]) (by unfold set5 at r0 r1 r2 r3 r4; simp [results, Tryz.results71, go_sem, r0, r1, r2, r3, r4]) rfl ⟨_, _, [], rfl, V6.only (set5_only _ _ _ _ _ _ _) X6, Only.below BB.out (by omega) (set5_only _ _ _ _ _ _ _)⟩
  ·rw [B_no hcr] at CR
   clear hcr hok
   generalize cs.length = cn at *
   go_enter Tryz.func71, Tryz.ntmps71
   go_wp2_with (go_at_call 131; refine CR.out.mono ?_; rintro e w1 ⟨rfl, bb1⟩; have X := X1.out.below bb1; obtain ⟨bl6, c0, c1, c2, c3, c4, f0, f1, f2, f3, f4⟩ := X.facts; have XX := Lib.hid X; have BB := Lib.hid (bT B1.out bb1); clear X bb1)
   have X6 := XX.out
   have V6 : SoV w.heap.size (0, [], [], 0) (.slice none 0 0) (.slice none 0 0) [] w1 := ⟨⟨rfl, .inl ⟨rfl, rfl⟩⟩, OwC.nil _ _, rfl, fun r hr j hj e => by cases e⟩
   have A6 := set5_at (v0 := .int .i64 0) (v1 := .slice none 0 0) (v2 := .slice none 0 0) (v3 := .int .i64 0) (v4 := .int .i64 1) X6
   obtain ⟨r0, r1, r2, r3, r4⟩ := cells5 A6
   exact bodyPost_ret (v := .agg #[.int .i64 0, .slice none 0 0, .slice none 0 0, .int .i64 0, .int .i64 1]) (by unfold set5 at r0 r1 r2 r3 r4; simp [results, Tryz.results71, go_sem, r0, r1, r2, r3, r4]) rfl ⟨_, _, [], rfl, V6.only (set5_only _ _ _ _ _ _ _) X6, Only.below BB.out (by omega) (set5_only _ _ _ _ _ _ _)⟩
 rw [solA_yes hok]
 obtain ⟨hcr, hb0, hb3⟩ := hok
 rw [B_yes hcr] at CR
 obtain ⟨V, rfl⟩ : ∃ V : Nat, vars = (V : Int) := ⟨vars.toNat, by have := hcr.1.1; omega⟩
 obtain ⟨bd, rfl⟩ : ∃ n : Nat, bud = (n : Int) := ⟨bud.toNat, by omega⟩
 have hV : V ≤ 96 := by have := hcr.1.2; omega
 have hcl : cs.length ≤ 4000 := by have := hcr.2.1; rwa [bareC_length] at this
 simp only [Int.toNat_natCast]
 have hwf' : ∀ l ∈ bareC cs, ∀ z ∈ l, wfI z := fun l hl z hz' => by
  obtain ⟨r, hr, rfl⟩ := List.mem_map.1 hl
  exact hwf r hr z hz'
 have HI : Hid (RunJ (bareC cs) V bd (solF (bareC cs) V bd 0 [] []) 0 (bareC []) []) := ⟨⟨cnfR_lits hcr hwf', (fun l hl => by cases hl), SpTo.zero _ _⟩, Nat.le_refl _, Nat.zero_le _, rfl⟩
 have hb0' : ¬ ((bd : Int) < 0) := by omega
 have hb3' : ¬ (300 < (bd : Int)) := by omega
 have hb3n : bd ≤ 300 := by omega
 generalize hR : solF (bareC cs) V bd 0 [] [] = R at *
 clear hR
 have C27 : Hid (∀ W O (st' : Int) (st : Nat) ls D (lv : Option Addr) lk ds dk, RunJ (bareC cs) V bd R st (bareC ls) D → SS w O V sl cs.length cap 0 [] ls D (.slice none 0 0) (.slice lv ls.length lk) (.slice ds D.length dk) st' W → Calls Tryz.prog 132 #[CV (V : Int) sl cs.length cap, .slice lv ls.length lk, .slice ds D.length dk] W (UPost W ((uRun (bareC cs) (bareC ls) D).1, (uRun (bareC cs) (bareC ls) D).2, 0))) := fun W O st' st ls D lv lk ds dk hi h => by
  obtain ⟨s1, k1, e1, h1⟩ := h.ol.cls
  cases e1
  obtain ⟨s2, k2, e2, h2⟩ := own_ints h.od
  cases e2
  have hlen := hi.few
  have hle := hi.le
  rw [bareC_length] at hlen
  refine srn_any V sl cap cs lv lk ls ds dk D W hV (by omega) (by omega) hi.ok.ds (fun r hr z hz' => ?_) (hz.below h.bl) h1 h2
  rcases List.mem_append.1 hr with g | g
  ·exact hi.ok.cl _ (List.mem_map.2 ⟨r, g, rfl⟩) z hz'
  ·exact hi.ok.lm _ (List.mem_map.2 ⟨r, g, rfl⟩) z hz'
 clear hcr hwf hwf' hn hz b0 b1 CA hsm
 generalize hcm : cs.length = cn at *
 go_enter Tryz.func71, Tryz.ntmps71
 go_wp2_with (go_at_call 131; refine CR.out.mono ?_; rintro e w1 ⟨rfl, bb1⟩)
 have S0 : Hid (SS w w1.heap.size V sl cn cap 0 [] [] [] (.slice none 0 0) (.slice none 0 0) (.slice (some ⟨w1.heap.size + 1, 0, none⟩) 0 0) 0 ((w1.alloc (.cells #[.int .i64 0, .slice none 0 0, .slice none 0 0, .int .i64 0, .int .i64 0] 107)).alloc (.cells #[] 2))) := by
  have hb1 := (bA0 w1 (.cells #[.int .i64 0, .slice none 0 0, .slice none 0 0, .int .i64 0, .int .i64 0] 107))
  have hs1 : (w1.alloc (.cells #[.int .i64 0, .slice none 0 0, .slice none 0 0, .int .i64 0, .int .i64 0] 107)).heap.size = w1.heap.size + 1 := by simp
  have hb2 := bA hb1 (.cells #[] 2)
  have x1 := X1.out.below bb1
  have ow := own_none8 (w1.alloc (.cells #[.int .i64 0, .slice none 0 0, .slice none 0 0, .int .i64 0, .int .i64 0] 107))
  rw [hs1] at ow
  have hbw : Below w.heap.size w w1 := bT B1.out bb1
  have hlt := x1.facts.1
  exact ⟨(CA'.out.below bb1).below hb2, x1.below hb2, ((bA0 (w1.alloc (.cells #[.int .i64 0, .slice none 0 0, .slice none 0 0, .int .i64 0, .int .i64 0] 107)) (.cells #[] 2)).block _ (by omega)).trans (new_at w1 _), ⟨rfl, .inl ⟨rfl, rfl⟩⟩, OwC.nil _ _, own_mono ow (by omega), (fun r hr => by cases hr), (fun r hr => by cases hr), bT hbw hb2, by omega⟩
 clear bb1 CR q0 q1 ql X1 CA' B1
 generalize (w1.alloc (.cells #[.int .i64 0, .slice none 0 0, .slice none 0 0, .int .i64 0, .int .i64 0] 107)).alloc (.cells #[] 2) = w2 at *
 generalize w1.heap.size = O at *
 go_loopg [6] (bd + 1) (fun g v wr => ∃ (st : Nat) (ls : List LCl) (D : List Int) (vl : Value), st + g = bd + 1 ∧ Hid (SS w O V sl cn cap 0 [] ls D (.slice none 0 0) vl v (st : Int) wr) ∧ Hid (RunJ (bareC cs) V bd R st (bareC ls) D))
 case atStart => exact ⟨0, [], [], _, by omega, S0, HI⟩
 case round =>
  obtain ⟨st, ls, D, vl, hg, H1, H2⟩ := hrel
  have hle := H2.out.le
  obtain ⟨ds, dk, rfl⟩ := own_v H1.out.od
  obtain ⟨lv, lk, rfl⟩ := H1.out.ol.v
  obtain ⟨oo, p0, p1, p2, p3, p4, pf, pw, pc0, pc1⟩ := H1.out.facts
  have pf0 := pf 0
  have pf1 := pf 1
  have pf2 := pf 2
  have pf3 := pf 3
  clear pf
  by_cases hst : st = bd
  ·have E := Lib.hid (H2.out.stop hst)
   subst hst
   have S1 := Lib.hid (H1.out.verdict 3)
   obtain ⟨wz, hset⟩ : ∃ wz, wr.setCell ⟨O, 0, none⟩ (.int .i64 3) = wz := ⟨_, rfl⟩
   rw [hset] at S1
   have F := Lib.hid (S1.out.fin (E.out))
   have A6 := set5_at (v0 := .int .i64 3) (v1 := (.slice none 0 0)) (v2 := (.slice lv ls.length lk)) (v3 := .int .i64 (st : Int)) (v4 := .int .i64 0) S1.out.box
   obtain ⟨r0, r1, r2, r3, r4⟩ := cells5 A6
   obtain ⟨bl6, c0, c1, c2, c3, c4, f0, f1, f2, f3, f4⟩ := S1.out.box.facts
   obtain ⟨o6, i0, i1, i2, i3, i4, -, -, -, -⟩ := S1.out.facts
   unfold set5 at F r0 r1 r2 r3 r4
   clear C27 S1 E H2 A6 H1 S0 HI p1 p2 p4 pf1 pf2 pf3 pw pc0 pc1 hb3n hV hcl hb0 hb3 hb0' hb3'
   have RR := Lib.hid (And.intro r0 (And.intro r1 (And.intro r2 (And.intro r3 r4))))
   clear r0 r1 r2 r3 r4
   generalize ls.length = ln at *
   go_wp2
   obtain ⟨r0, r1, r2, r3, r4⟩ := RR.out
   exact bodyPost_ret (v := .agg #[.int .i64 3, (.slice none 0 0), (.slice lv ln lk), .int .i64 (st : Int), .int .i64 0]) (by simp [results, Tryz.results71, go_sem, r0, r1, r2, r3, r4]) rfl F.out
  have hst' : ¬ (st : Int) = (bd : Int) := by omega
  have hstb : ((st : Int) == (bd : Int)) = false := by simpa using hst'
  have hsw : wrap64 ((st : Int) + 1) = (st : Int) + 1 := wrap_in _ ⟨by omega, by omega⟩
  obtain ⟨wz0, hset0⟩ : ∃ wz, wr.setCell ⟨O, 3, none⟩ (.int .i64 ((st : Int) + 1)) = wz := ⟨_, rfl⟩
  have S1 := Lib.hid (H1.out.step ((st : Int) + 1))
  rw [hset0] at S1
  have CC := Lib.hid (C27.out _ O _ st ls D lv lk ds dk H2.out S1.out)
  have HD := H2.out.ok.short hV
  have hD96 : Hid (∀ z ∈ D, -96 ≤ z ∧ z ≤ 96) := fun z hz => by have h := sp_ok H2.out.ok.ds z hz; have h1 := h.2.1; have h2 := h.2.2; omega
  have hT96 := H2.out.sp.short (by omega : (V : Int) ≤ 96)
  have hL := H2.out.few
  rw [bareC_length] at hL
  obtain ⟨oo1, a0, a1, a2, a3, a4, af, aw, ac0, ac1⟩ := S1.out.facts
  clear C27 H1 p0 p1 p2 p4 pf0 pf1 pf2 pw pc0 pc1 a0 a1 a3 a4 af HI S0
  by_cases hcf : (uRun (bareC cs) (bareC ls) D).2 = -1
  ·rw [hcf] at CC
   have EY := Lib.hid (fun h2 => H2.out.yes hst hcf h2)
   have EP := Lib.hid (fun h2 => H2.out.push hst hcf h2)
   clear hcf H2
   generalize (uRun (bareC cs) (bareC ls) D).1 = T at *
   go_wp2_with (go_at_call 132; refine CC.out.mono ?_; rintro e w3 ⟨v3, rfl, o3, b3⟩; obtain ⟨s3, k3, rfl⟩ := own_v o3; have HB3 := Lib.hid (bA b3 (.cells #[.slice s3 T.length k3, .int .i64 (-1), .int .i64 0] 170)); have O3 := Lib.hid (own_below o3 (bA0 w3 (.cells #[.slice s3 T.length k3, .int .i64 (-1), .int .i64 0] 170))); have S3 := Lib.hid (S1.out.below HB3.out); have N3 := Lib.hid (new_at w3 (.cells #[.slice s3 T.length k3, .int .i64 (-1), .int .i64 0] 170)); obtain ⟨z1, -, -, -, -, -, -, z8, z9, -⟩ := S3.out.facts; have hz3 := Lib.hid (show w3.heap.size + 1 = (w3.alloc (.cells #[.slice s3 T.length k3, .int .i64 (-1), .int .i64 0] 170)).heap.size by simp); clear b3 o3)
   generalize w3.alloc (.cells #[.slice s3 T.length k3, .int .i64 (-1), .int .i64 0] 170) = n3 at *
   clear CC S1 HB3 oo1 a2 aw ac0 ac1 hset0 p3 pf3 oo
   have E28 : Hid (∀ x, Calls Tryz.prog 87 #[.slice s3 T.length k3, .int .i64 x] n3 fun e w' => e = .returned (.bool (B (x ∈ T))) ∧ w' = n3) := fun x => by
    obtain ⟨s, k, e, hi⟩ := own_ints O3.out
    cases e
    exact lhas_any s3 k3 T x n3 (by unfold maxLen; omega) hi
   have UB : n3.cell? ⟨w3.heap.size, 0, none⟩ = some (.slice s3 T.length k3) ∧ w3.heap.size < n3.heap.size := by
    have h := N3.out
    exact ⟨by simp [World.cell?, h], (Array.getElem?_eq_some_iff.1 h).1⟩
   obtain ⟨ub0, ubl⟩ := UB
   have OY := Lib.hid (fun n k => @opn_yes T n k)
   have ON := Lib.hid (fun n k => @opn_no T n k)
   have OZ := Lib.hid (show opn T 0 (V + 1) = 0 from rfl)
   have VC := Lib.hid (val_cases T)
   generalize hTl : T.length = tl at *
   go_loopw [10, 11] (fun o i wr2 => ∃ (k x : Nat) (y : Int), i = .int .i64 y ∧ Hid (y = (k : Int) ∧ k ≤ V) ∧ o = .int .i64 x ∧ wr2 = n3 ∧ Hid (x = opn T (V - k) (k + 1))) (fun _ i _ => (intOf i).toNat)
   case atStart => exact ⟨V, 0, _, rfl, ⟨rfl, Nat.le_refl _⟩, rfl, rfl, by show _ = _; rw [Nat.sub_self, OZ.out]⟩
   case round =>
    obtain ⟨k, x, y, rfl, HK, rfl, rfl, HX⟩ := hrel
    by_cases hk0 : k = 0
    ·subst hk0
     obtain ⟨hyk, -⟩ := HK.out
     have hyk' : y = 0 := hyk
     subst hyk'
     clear hyk HK
     have hxo : x = opn T V 1 := HX.out
     clear E28 OY ON OZ VC HX
     by_cases ho : x = 0
     ·have E := Lib.hid (EY.out (by rw [← hxo]; exact ho))
      clear hxo
      subst ho
      rw [show ((0 : Nat) : Int) = 0 from rfl]
      obtain ⟨wz, hset⟩ : ∃ wz, wr.setCell ⟨O, 0, none⟩ (.int .i64 1) = wz := ⟨_, rfl⟩
      have S4 := Lib.hid ((S3.out.verdict 1).drop)
      rw [hset] at S4
      obtain ⟨-, y0, -, -, -, -, yf, -, -, -⟩ := S3.out.facts
      have yf0 := yf 0
      clear yf
      have N4 : Hid (wz.heap[w3.heap.size]? = some (.cells #[.slice s3 tl k3, .int .i64 (-1), .int .i64 0] 170)) := by
       show _ = _
       rw [← hset]
       refine (Below.heap_setCell _ _ _ _ (fun e => ?_)).trans N3.out
       have e' : w3.heap.size = O := e
       have h1 := N3.out
       rw [e', S3.out.out] at h1
       cases h1
      have O4 : Hid (wz.ownsRow wz0.heap.size 2 1 (.slice s3 tl k3) T.length (valsZ T)) := by
       show World.ownsRow _ _ _ _ _ _ _
       rw [← hset, hTl]
       exact own_box O3.out S3.out.out (by decide) 0 _
      have VT0 : Hid (∀ j, (Value.slice none 0 0).ownBlock = some j → wz.heap.size ≤ j) := fun j hj => by cases hj
      have TL4 : Hid (∀ j, (Value.slice s3 tl k3).ownBlock = some j → j < wz.heap.size) := fun j hj => (O4.out.lt j hj).2
      have TY := Lib.hid (fun n => @trL_yes T n)
      have TN := Lib.hid (fun n => @trL_no T n)
      have TLn := Lib.hid (trL_len T)
      have VM : Hid (∀ z, val T z = 1 ↔ z ∈ T) := fun z => by
       rcases val_cases T z with ⟨h1, h2⟩ | ⟨h1, h2, -⟩ | ⟨h1, h2, -⟩
       ·exact ⟨fun _ => h2, fun _ => h1⟩
       ·exact ⟨fun h => by omega, fun h => absurd h h2⟩
       ·exact ⟨fun h => by omega, fun h => absurd h h2⟩
      have EF : Hid (∀ ls', bareC ls' = bareC ls → R = (1, trL T V, bareC ls', (st : Int) + 1)) := fun ls' h => by rw [h]; exact E.out
      have LH : Hid (∀ (W : World) y, W.ownsRow wz0.heap.size 2 1 (.slice s3 tl k3) T.length (valsZ T) → Calls Tryz.prog 87 #[.slice s3 tl k3, .int .i64 y] W fun e w' => e = .returned (.bool (B (y ∈ T))) ∧ w' = W) := fun W y ho => by
       obtain ⟨s, k, e, hi⟩ := own_ints ho
       cases e
       rw [← hTl] at *
       exact lhas_any s3 k3 T y W (by unfold maxLen; omega) hi
      generalize hwzs : wz.heap.size = NB at *
      have hNB : NB ≤ wz.heap.size := by omega
      clear EY EP S3 N3 O3 E hz3 ub0 ubl z8 z9 hwzs
      go_wp2
      go_loopw [12] (fun i wr2 => ∃ (k : Nat) (vt : Value) (y : Int), i = .int .i64 y ∧ Hid (y = (k : Int) + 1 ∧ k ≤ V) ∧ Hid (SS w O V sl cn cap 1 (trL T k) ls [] vt (.slice lv ls.length lk) (.slice none 0 0) ((st : Int) + 1) wr2) ∧ Hid (wr2.heap[w3.heap.size]? = some (.cells #[.slice s3 tl k3, .int .i64 (-1), .int .i64 0] 170)) ∧ Hid (wr2.ownsRow wz0.heap.size 2 1 (.slice s3 tl k3) T.length (valsZ T)) ∧ Hid ((∀ j, vt.ownBlock = some j → NB ≤ j) ∧ NB ≤ wr2.heap.size)) (fun i _ => V + 1 - (intOf i).toNat)
      case atStart => exact ⟨0, _, 1, rfl, ⟨rfl, Nat.zero_le _⟩, S4, N4, O4, VT0.out, hNB⟩
      case round =>
       obtain ⟨k, vt, y, rfl, HK, G1, G2, G3, G4⟩ := hrel
       obtain ⟨ts, tk, rfl⟩ := own_v G1.out.tr
       obtain ⟨g1, -, g3, -, -, -, gf, g8, g9, -⟩ := G1.out.facts
       have gf1 := gf 1
       clear gf
       have u0 : wr.cell? ⟨w3.heap.size, 0, none⟩ = some (.slice s3 tl k3) ∧ w3.heap.size < wr.heap.size := by
        have h := G2.out
        exact ⟨by simp [World.cell?, h], (Array.getElem?_eq_some_iff.1 h).1⟩
       obtain ⟨u0, u1⟩ := u0
       obtain ⟨hyk, hkV⟩ := HK.out
       by_cases hlt : k < V
       ·have hle1 : y ≤ (V : Int) := by omega
        have hws : wrap64 (y + 1) = y + 1 := wrap_in _ ⟨by omega, by omega⟩
        have C1 := Lib.hid (LH.out wr y G3.out)
        have ht := TLn.out k
        have RJ : Hid (∀ (w' : World) (vt' : Value), SS w O V sl cn cap 1 (trL T (k + 1)) ls [] vt' (.slice lv ls.length lk) (.slice none 0 0) ((st : Int) + 1) w' → w'.heap[w3.heap.size]? = some (.cells #[.slice s3 tl k3, .int .i64 (-1), .int .i64 0] 170) → w'.ownsRow wz0.heap.size 2 1 (.slice s3 tl k3) T.length (valsZ T) → ((∀ j, vt'.ownBlock = some j → NB ≤ j) ∧ NB ≤ w'.heap.size) → ∃ (k : Nat) (vt : Value) (y' : Int), Value.int .i64 (y + 1) = .int .i64 y' ∧ Hid (y' = (k : Int) + 1 ∧ k ≤ V) ∧ Hid (SS w O V sl cn cap 1 (trL T k) ls [] vt (.slice lv ls.length lk) (.slice none 0 0) ((st : Int) + 1) w') ∧ Hid (w'.heap[w3.heap.size]? = some (.cells #[.slice s3 tl k3, .int .i64 (-1), .int .i64 0] 170)) ∧ Hid (w'.ownsRow wz0.heap.size 2 1 (.slice s3 tl k3) T.length (valsZ T)) ∧ Hid ((∀ j, vt.ownBlock = some j → NB ≤ j) ∧ NB ≤ w'.heap.size)) := fun w' vt' a b c d => ⟨k + 1, vt', _, rfl, ⟨by omega, by omega⟩, a, b, c, d⟩
        have MJ : Hid (V + 1 - (y + 1).toNat < V + 1 - y.toNat) := by show _ < _; omega
        by_cases hm : y ∈ T
        ·rw [B_yes hm] at C1
         have ET := Lib.hid (TY.out k (by rw [← hyk]; exact (VM.out y).2 hm))
         have HA := G1.out.below (bA0 wr (.cells #[.int .i64 y] 2))
         obtain ⟨v9, w9, ha, ow, gr, hj⟩ := appZ HA.tr 1 (ints_new wr y) (by have := HA.bl.size; exact this) (by simp; omega)
         have hgs := gr.size
         have has : (wr.alloc (.cells #[.int .i64 y] 2)).heap.size = wr.heap.size + 1 := by simp
         rw [← hyk] at ET
         rw [← ET.out] at ow
         have S5 := Lib.hid (HA.true gr ow hj)
         obtain ⟨t1, t2, t3, -⟩ := HA.slot HA.tr (by decide) (by decide) (Nat.le_refl _) gr
         obtain ⟨s9, k9, rfl⟩ := own_v ow
         have e1 := (cells5 t3).2.1
         have e2 : w9.frozen? ⟨O, 1, none⟩ = false := by simp [World.frozen?, t3]
         have e3 : O < w9.heap.size := (Array.getElem?_eq_some_iff.1 t3).1
         have N5 : Hid ((w9.setCell ⟨O, 1, none⟩ (.slice s9 (trL T (k + 1)).length k9)).heap[w3.heap.size]? = some (.cells #[.slice s3 tl k3, .int .i64 (-1), .int .i64 0] 170)) := by
          have h0 := ((bA0 wr (.cells #[.int .i64 y] 2)).block _ u1).trans G2.out
          have h1 : w9.heap[w3.heap.size]? = some (.cells #[.slice s3 tl k3, .int .i64 (-1), .int .i64 0] 170) := (gr.block _ (by omega) (fun e => by
           obtain ⟨cur, hc⟩ := own_kind HA.tr e.symm
           rw [h0] at hc
           cases hc)).trans h0
          refine (Below.heap_setCell _ _ _ _ (fun e => ?_)).trans h1
          have e' : w3.heap.size = O := e
          rw [e', t3] at h1
          cases h1
         have O5 : Hid ((w9.setCell ⟨O, 1, none⟩ (.slice s9 (trL T (k + 1)).length k9)).ownsRow wz0.heap.size 2 1 (.slice s3 tl k3) T.length (valsZ T)) := by
          refine own_box ((own_below G3.out (bA0 wr (.cells #[.int .i64 y] 2))).kept gr ?_) t3 (by decide) 1 _
          rcases hj3 : (Value.slice s3 tl k3).ownBlock with _ | j
          ·exact .inl rfl
          ·refine .inr (fun e => ?_)
           have h1 := TL4.out j hj3
           have h2 := G4.out.1 j e.symm
           omega
         have B5 : Hid ((∀ j, (Value.slice s9 (trL T (k + 1)).length k9).ownBlock = some j → NB ≤ j) ∧ NB ≤ (w9.setCell ⟨O, 1, none⟩ (.slice s9 (trL T (k + 1)).length k9)).heap.size) := by
          have h2 := G4.out.2
          refine ⟨fun j hj' => ?_, by simp; omega⟩
          rcases hj j hj' with h | h
          ·exact G4.out.1 j h
          ·omega
         have RR := Lib.hid (RJ.out _ _ S5.out N5.out O5.out B5.out)
         have ha' := ha 34
         clear ha gr hj ow HA t1 t2 t3 S5 N5 O5 B5 RJ G1 G2 G3 G4 TY TN TLn VM EF LH ET hm has hgs S4 N4 O4 VT0 TL4 hyk hkV hlt HK
         generalize (trL T (k + 1)).length = tn9 at *
         generalize (trL T k).length = tn at *
         go_wp2_with fail
         refine C1.out.mono ?_
         rintro e w4 ⟨rfl, rfl⟩
         go_wp2_with (at_builtin; refine Lib.wpList_append_run _ rfl _ _ _ _ rfl _ _ rfl rfl _ _ ha' ?_)
         go_roundw
         case rel => rw [hws]; exact RR.out
         case measure => simp only [intOf]; rw [hws]; exact MJ.out
        ·rw [B_no hm] at C1
         have ET := Lib.hid (TN.out k (by rw [← hyk]; exact fun h => hm ((VM.out y).1 h)))
         have RR := Lib.hid (RJ.out wr _ (by rw [ET.out]; exact G1.out) G2.out G3.out G4.out)
         clear RJ G1 G2 G3 G4 TY TN TLn VM EF LH ET hm S4 N4 O4 VT0 TL4 hyk hkV hlt HK
         generalize (trL T k).length = tn at *
         go_wp2_with fail
         refine C1.out.mono ?_
         rintro e w4 ⟨rfl, rfl⟩
         go_wp2
         go_roundw
         case rel => rw [hws]; exact RR.out
         case measure => simp only [intOf]; rw [hws]; exact MJ.out
       ·have hkv : k = V := by omega
        subst hkv
        have hgt : ¬ y ≤ (k : Int) := by omega
        have F := Lib.hid (G1.out.fin (EF.out ls rfl))
        have A6 := set5_at (v0 := .int .i64 1) (v1 := .slice ts (trL T k).length tk) (v2 := .slice lv ls.length lk) (v3 := .int .i64 ((st : Int) + 1)) (v4 := .int .i64 0) G1.out.box
        obtain ⟨r0, r1, r2, r3, r4⟩ := cells5 A6
        obtain ⟨bl6, c0, c1, c2, c3, c4, f0, f1, f2, f3, f4⟩ := G1.out.box.facts
        obtain ⟨o6, i0, i1, i2, i3, i4, -, -, -, -⟩ := G1.out.facts
        unfold set5 at F r0 r1 r2 r3 r4
        have RR := Lib.hid (And.intro r0 (And.intro r1 (And.intro r2 (And.intro r3 r4))))
        clear r0 r1 r2 r3 r4 A6 G1 G2 G3 G4 TY TN TLn VM EF LH S4 N4 O4 VT0 TL4 u0 u1 g3 gf1
        generalize (trL T k).length = tn at *
        generalize ls.length = ln at *
        go_wp2
        obtain ⟨r0, r1, r2, r3, r4⟩ := RR.out
        exact bodyPost_ret (v := .agg #[.int .i64 1, .slice ts tn tk, .slice lv ln lk, .int .i64 ((st : Int) + 1), .int .i64 0]) (by simp [results, Tryz.results71, go_sem, r0, r1, r2, r3, r4]) rfl F.out
     ·have RI := Lib.hid (EP.out (by rw [← hxo]; exact ho))
      rw [← hxo] at RI
      clear hxo
      generalize x = z at *
      have ho' : ((z : Int) == 0) = false := by simpa using ho
      have HA := S3.out.below (bA0 wr (.cells #[.int .i64 (z : Int)] 2))
      obtain ⟨v9, w9, ha, ow, gr, hj⟩ := appZ HA.od 1 (ints_new wr (z : Int)) (by have := HA.bl.size; exact this) (by simp; omega)
      have S4 := Lib.hid (HA.decide rfl gr ow hj)
      obtain ⟨s9, k9, rfl⟩ := own_v ow
      have ha' := ha 34
      clear ha gr hj ow HA EY EP S3 N3 O3 z1 z8 z9 ub0 ubl hz3
      generalize D.length = dn at *
      generalize hdn9 : (D ++ [(z : Int)]).length = dn9 at *
      go_wp2_with (at_builtin; refine Lib.wpList_append_run _ rfl _ _ _ _ rfl _ _ rfl rfl _ _ ha' ?_)
      go_roundg (gk - 1)
      case measure => omega
      case rel => exact ⟨st + 1, ls, _, _, by omega, by rw [← hdn9] at *; exact S4, RI⟩
    ·obtain ⟨j, rfl⟩ : ∃ j, k = j + 1 := ⟨k - 1, by omega⟩
     obtain ⟨hyk, hk⟩ := HK.out
     have hyj : Hid (y = (j : Int) + 1) := by show y = _; rw [hyk]; rfl
     have hy1 : (1 : Int) ≤ y := by have := hyj.out; omega
     have hy2 : wrap64 (-y) = -y := wrap_in _ ⟨by have := hyj.out; omega, by have := hyj.out; omega⟩
     have hy3 : wrap64 (y - 1) = y - 1 := wrap_in _ ⟨by have := hyj.out; omega, by have := hyj.out; omega⟩
     have C1 := Lib.hid (E28.out y)
     have C2 := Lib.hid (E28.out (-y))
     have VJ := Lib.hid (VC.out y)
     have ONJ : Hid (¬ val T y = 0 → opn T (V - j) (j + 1) = opn T (V - (j + 1)) (j + 1 + 1)) := fun h => by
      have := ON.out (V - j) (j + 1) (by omega) (by rw [hyk] at h; exact h)
      rwa [Nat.sub_sub] at this
     have OYJ : Hid (val T y = 0 → opn T (V - j) (j + 1) = j + 1) := fun h => OY.out (V - j) (j + 1) (by omega) (by rw [hyk] at h; exact h)
     have YJ : Hid (y = ((j + 1 : Nat) : Int)) := hyk
     have RJ : Hid (∀ x' : Nat, x' = opn T (V - j) (j + 1) → (∃ (k x : Nat) (y' : Int), Value.int .i64 (wrap64 (y - 1)) = .int .i64 y' ∧ Hid (y' = (k : Int) ∧ k ≤ V) ∧ Value.int .i64 (x' : Int) = .int .i64 (x : Int) ∧ True ∧ Hid (x = opn T (V - k) (k + 1))) ∧ (intOf (.int .i64 (wrap64 (y - 1)))).toNat < (intOf (.int .i64 y)).toNat) := fun x' hx' => ⟨⟨j, x', _, rfl, ⟨by rw [hy3]; have := hyj.out; omega, by omega⟩, rfl, trivial, hx'⟩, by rw [hy3]; show (y - 1).toNat < y.toNat; have := hyj.out; omega⟩
     clear E28 OY ON OZ VC EY EP S3 N3 O3 hz3 z1 z8 z9 hT96 HD hL hD96 hyk hyj hk hk0 HK
     rcases VJ.out with ⟨ev, h1⟩ | ⟨ev, h1, h2⟩ | ⟨ev, h1, h2⟩
     ·rw [B_yes h1] at C1
      have EO := Lib.hid (HX.out.trans (ONJ.out (by rw [ev]; decide)).symm)
      clear ev h1 VJ ONJ OYJ C2 HX YJ
      go_wp2_with (go_at_call 87; refine C1.out.mono ?_; rintro e w4 ⟨rfl, rfl⟩)
      exact RJ.out x EO.out
     ·rw [B_no h1] at C1
      rw [B_yes h2] at C2
      have EO := Lib.hid (HX.out.trans (ONJ.out (by rw [ev]; decide)).symm)
      clear ev h1 h2 VJ ONJ OYJ HX YJ
      go_wp2_with fail
      refine C1.out.mono ?_
      rintro e w4 ⟨rfl, rfl⟩
      go_wp2_with fail
      refine C2.out.mono ?_
      rintro e w5 ⟨rfl, rfl⟩
      go_wp2
      exact RJ.out x EO.out
     ·rw [B_no h1] at C1
      rw [B_no h2] at C2
      have EO := Lib.hid (OYJ.out ev).symm
      have YJ' := Lib.hid YJ.out
      have RJ2 := Lib.hid (RJ.out (j + 1) EO.out)
      rw [← YJ'.out] at RJ2
      clear ev h1 h2 VJ ONJ OYJ HX YJ YJ' EO RJ
      go_wp2_with fail
      refine C1.out.mono ?_
      rintro e w4 ⟨rfl, rfl⟩
      go_wp2_with fail
      refine C2.out.mono ?_
      rintro e w5 ⟨rfl, rfl⟩
      go_wp2
      exact RJ2.out
  ·have hc0 : 0 ≤ (uRun (bareC cs) (bareC ls) D).2 := (resF_sign (bareC cs ++ bareC ls) (97 - D.length) D).resolve_left hcf
   have EN := Lib.hid (fun h2 => H2.out.no hst hcf h2)
   have EP := Lib.hid (fun h2 => H2.out.pop hst hcf h2)
   clear hcf H2
   generalize (uRun (bareC cs) (bareC ls) D).2 = cf at *
   generalize (uRun (bareC cs) (bareC ls) D).1 = T at *
   go_wp2_with (go_at_call 132; refine CC.out.mono ?_; rintro e w3 ⟨v3, rfl, o3, b3⟩; obtain ⟨s3, k3, rfl⟩ := own_v o3; have HB3 := Lib.hid (bA b3 (.cells #[.slice s3 T.length k3, .int .i64 cf, .int .i64 0] 170)); have S3 := Lib.hid (S1.out.below HB3.out); have hz3 := Lib.hid (show w3.heap.size + 1 = (w3.alloc (.cells #[.slice s3 T.length k3, .int .i64 cf, .int .i64 0] 170)).heap.size by simp); clear b3 o3)
   generalize w3.alloc (.cells #[.slice s3 T.length k3, .int .i64 cf, .int .i64 0] 170) = n3 at *
   clear CC S1 HB3 oo1 a2 aw ac0 ac1 hset0 p3 pf3 oo hT96
   have O8 : Hid ((n3.alloc (.cells #[] 2)).ownsRow (w3.heap.size + 1) 2 1 (.slice (some ⟨w3.heap.size + 1, 0, none⟩) 0 0) 0 []) := by
    have h := own_none8 n3
    rw [← hz3.out] at h
    exact h
   have B8 : Hid (Below n3.heap.size n3 (n3.alloc (.cells #[] 2))) := bA0 _ _
   have DC : Hid (∀ W, Below n3.heap.size n3 W → ∀ k, k < D.length → ∃ (c o : Nat) (z y : Int), ds = some ⟨c, o, none⟩ ∧ W.cell? ⟨c, o + k, none⟩ = some (.int .i64 z) ∧ wrap64 (-z) = y ∧ Hid (y = -D.getD k 0)) := fun W hW k hk => by
    obtain ⟨s, kk, e, hi⟩ := own_ints (S3.out.below hW).od
    cases e
    have hb := hD96.out (D.getD k 0) (by simp [hk])
    rcases hi with h | ⟨c, o, e, hi⟩
    ·rw [h] at hk; simp at hk
    ·exact ⟨c, o, _, _, e, hi.2 k hk, rfl, wrap_in _ ⟨by omega, by omega⟩⟩
   have NT := Lib.hid (fun k h => negL_take D k h)
   generalize hDn : D.length = dn at *
   have HDn := Lib.hid hDn
   clear hDn
   go_loopw [8, 9] (fun v i wr2 => ∃ (k : Nat), i = .int .i64 k ∧ k ≤ dn ∧ Hid (wr2.ownsRow (w3.heap.size + 1) 2 1 v (negL (D.take k)).length (valsZ (negL (D.take k)))) ∧ Hid (Below n3.heap.size n3 wr2)) (fun _ i _ => dn - (intOf i).toNat)
   case atStart => exact ⟨0, rfl, Nat.zero_le _, O8, B8⟩
   case round =>
    obtain ⟨k, rfl, hk, G1, G2⟩ := hrel
    have hz3' := hz3.out
    obtain ⟨vs, vk, rfl⟩ := own_v G1.out
    have hkl : (negL (D.take k)).length = k := by rw [negL_len, List.length_take, HDn.out]; omega
    rw [hkl]
    by_cases hlt : k < dn
    ·have hlt' : (k : Int) < (dn : Int) := by omega
     obtain ⟨c, o, z, y, rfl, hc, hwz, HY⟩ := DC.out wr G2.out k hlt
     have HA := own_below G1.out (bA0 wr (.cells #[.int .i64 y] 2))
     have hsz := G2.out.size
     obtain ⟨v9, w9, ha, ow, gr, hj⟩ := appZ HA 1 (ints_new wr y) (by simp; omega) (by simp [hkl]; omega)
     rw [HY.out, ← NT.out k hlt] at ow
     obtain ⟨s9, k9, rfl⟩ := own_v ow
     have O9 := Lib.hid ow
     have B9 := Lib.hid ((bA G2.out (.cells #[.int .i64 y] 2)).grown gr (by simp; omega) (fun j hj' => by have := (HA.lt j hj').1; omega))
     have ha' := ha 34
     rw [hkl] at ha'
     clear ha ow gr hj HA DC NT O8 B8 EN EP S3 G1 G2 hkl HY hz3'
     have hk0 : (0 : Int) ≤ (k : Int) := by omega
     go_wp2_with (at_builtin; refine Lib.wpList_append_run _ rfl _ _ _ _ rfl _ _ rfl rfl _ _ ha' ?_)
     go_roundw
     case rel => exact ⟨k + 1, by go_num, by omega, O9, B9⟩
     case measure => simp [intOf]; omega
    ·have hlt' : ¬ (k : Int) < (dn : Int) := by omega
     have hkd : k = dn := by omega
     subst hkd
     have OL : Hid (wr.ownsRow (w3.heap.size + 1) 2 1 (.slice vs k vk) (negL D).length (valsZ (negL D))) := by
      have h := G1.out
      have hnl : (negL D).length = k := by rw [negL_len, HDn.out]
      rw [List.take_of_length_le (by rw [HDn.out]; omega)] at h
      show wr.ownsRow (w3.heap.size + 1) 2 1 (.slice vs k vk) (negL D).length (valsZ (negL D))
      rw [hnl] at h ⊢
      exact h
     have S4 := S3.out.below G2.out
     have S5 := S4.below (bA0 wr (.cells #[.slice vs k vk] 34))
     have hsz := G2.out.size
     have hws := S3.out.bl.size
     have or2 := S5.ol.row
     rw [← hdC_len ls] at or2
     obtain ⟨v9, w9, ha9, ow9, gr9⟩ := appH or2 (.slice vs k vk) rfl wr.heap.size (cell_at_new wr _ 34) (by simp; omega) (by rw [hdC_len]; omega)
     obtain ⟨s9, k9, rfl⟩ := own_v ow9
     rw [hdC_len] at ow9 ha9 gr9
     obtain ⟨-, -, t3, -⟩ := S5.slot S5.ol.row (by decide) (by decide) (Nat.le_refl _) gr9
     have e2 := (cells5 t3).2.2.1
     have e3 : w9.frozen? ⟨O, 2, none⟩ = false := by simp [World.frozen?, t3]
     have e4 : O < w9.heap.size := (Array.getElem?_eq_some_iff.1 t3).1
     obtain ⟨g1, -, -, g2, -, -, -, -, -, -⟩ := S4.facts
     obtain ⟨wz, hset⟩ : ∃ wz, w9.setCell ⟨O, 2, none⟩ (.slice s9 (ls.length + 1) k9) = wz := ⟨_, rfl⟩
     have S6 := S5.lemma (r := (.slice vs k vk, negL D)) (own_mono (own_below OL.out (bA0 wr (.cells #[.slice vs k vk] 34))) (by omega)) (fun j hj => by
      have h1 := (OL.out.lt j hj).1
      refine ⟨fun s hs e => ?_, fun e => ?_, fun e => by cases e⟩
      ·have := ((S3.out.ol.each s hs).lt _ e).2
       omega
      ·have := (S3.out.od.lt _ e).2
       omega) gr9 ow9
     rw [hset] at S6
     have HS6 := Lib.hid S6
     have ha9' := ha9 31
     have BC : Hid (bareC (ls ++ [((.slice vs k vk : Value), negL D)]) = bareC ls ++ [negL D]) := by show _ = _; rw [bareC_add]; rfl
     have LN9 : Hid ((ls ++ [((.slice vs k vk : Value), negL D)]).length = ls.length + 1) := by show _ = _; simp
     obtain ⟨y1, y0, -, -, -, -, yf, -, -, -⟩ := S6.facts
     have yf0 := yf 0
     clear yf S6 t3 gr9 ow9 ha9 or2 S4 S5 OL G1 G2 DC NT O8 B8 S3 hkl hz3 hz3'
     by_cases hD : k = 0
     ·subst hD
      have E := Lib.hid (EN.out rfl)
      obtain ⟨wy, hset2⟩ : ∃ wy, wz.setCell ⟨O, 0, none⟩ (.int .i64 2) = wy := ⟨_, rfl⟩
      have S7 := HS6.out.verdict 2
      rw [hset2] at S7
      have F := Lib.hid (S7.fin (R := R) (by rw [BC.out]; exact E.out))
      have A6 := set5_at (v0 := .int .i64 2) (v1 := .slice none 0 0) (v2 := .slice s9 (ls.length + 1) k9) (v3 := .int .i64 ((st : Int) + 1)) (v4 := .int .i64 0) S7.box
      obtain ⟨r0, r1, r2, r3, r4⟩ := cells5 A6
      obtain ⟨bl6, c0, c1, c2, c3, c4, f0, f1, f2, f3, f4⟩ := S7.box.facts
      obtain ⟨o6, i0, i1, i2, i3, i4, -, -, -, -⟩ := S7.facts
      unfold set5 at F r0 r1 r2 r3 r4
      have RR := Lib.hid (And.intro r0 (And.intro r1 (And.intro r2 (And.intro r3 r4))))
      clear r0 r1 r2 r3 r4 A6 S7 HS6 E EN EP BC LN9 hD96
      generalize ls.length = ln at *
      go_wp2_with (at_builtin; refine Lib.wpList_append_run _ rfl _ _ _ _ rfl _ _ rfl rfl _ _ ha9' ?_)
      obtain ⟨r0, r1, r2, r3, r4⟩ := RR.out
      exact bodyPost_ret (v := .agg #[.int .i64 2, .slice none 0 0, .slice s9 (ln + 1) k9, .int .i64 ((st : Int) + 1), .int .i64 0]) (by simp [results, Tryz.results71, go_sem, r0, r1, r2, r3, r4]) rfl F.out
     ·obtain ⟨m, rfl⟩ : ∃ m, k = m + 1 := ⟨k - 1, by omega⟩
      have RI := Lib.hid (EP.out (by omega))
      obtain ⟨s, kk, e, hi⟩ := own_ints HS6.out.od
      rw [HDn.out] at e
      cases e
      have hcap := own_cap8 HS6.out.od
      rw [HDn.out] at hcap
      have hdl : Hid (D.dropLast.length = m) := by show _ = _; rw [List.length_dropLast, HDn.out]; rfl
      obtain ⟨v10, w10, ha, ow, gr, hj⟩ := appZ (zs := []) (own_none8 wz) dk ((ints_pre hi).below (bA0 wz (.cells #[] 2))) (by simp) (by simp; rw [HDn.out]; omega)
      rw [List.nil_append, hdl.out] at ow
      rw [hdl.out] at ha
      have B10 := (bA0 wz (.cells #[] 2)).grown gr (by simp) (fun j hj' => by simp [Value.ownBlock] at hj'; omega)
      obtain ⟨s10, k10, rfl⟩ := own_v ow
      have S7 := Lib.hid (HS6.out.fresh B10 (by rw [hdl.out]; exact ow) (Nat.le_refl _))
      have ha' := ha 34
      rw [← BC.out] at RI
      clear ha ow gr hj B10 HS6 EN EP BC hi hD96
      generalize ls.length = ln at *
      go_wp2_with (first | (at_builtin; refine Lib.wpList_append_run _ rfl _ _ _ _ rfl _ _ rfl rfl _ _ ha9' ?_) | (at_builtin; refine Lib.wpList_append_run _ rfl _ _ _ _ rfl _ _ rfl rfl _ _ ha' ?_))
      go_roundg (gk - 1)
      case measure => omega
      case rel => exact ⟨st + 1, _, _, _, by omega, S7, RI⟩
abbrev SA (x : Int) (vt vl : Value) (st c : Int) : Value := .agg #[.int .i64 x, vt, vl, .int .i64 st, .int .i64 c]
def BoxS (w : World) (b : Nat) (x : Int) (vt vl : Value) (st c : Int) : Prop := w.heap[b]? = some (.cells #[.int .i64 x, vt, vl, .int .i64 st, .int .i64 c] 107)
theorem BoxS.facts {w : World} {b : Nat} {x st c : Int} {vt vl : Value} (h : BoxS w b x vt vl st c) : b < w.heap.size ∧ w.cell? ⟨b, 0, none⟩ = some (.int .i64 x) ∧ w.cell? ⟨b, 1, none⟩ = some vt ∧ w.cell? ⟨b, 2, none⟩ = some vl ∧ w.cell? ⟨b, 3, none⟩ = some (.int .i64 st) ∧ w.cell? ⟨b, 4, none⟩ = some (.int .i64 c) := by
 obtain ⟨e0, e1, e2, e3, e4⟩ := cells5 h
 exact ⟨(Array.getElem?_eq_some_iff.1 h).1, e0, e1, e2, e3, e4⟩
theorem BoxS.below {w w' : World} {b : Nat} {x st c : Int} {vt vl : Value} (h : BoxS w b x vt vl st c) (hb : Below w.heap.size w w') : BoxS w' b x vt vl st c := (hb.block b h.facts.1).trans h
end Go.Proofs.YtnihhbfgbilimaaGreatDoor
