import Derived.Test.YtnihhbfgbilimaaGreatDoorTw
import Derived.Test.YtnihhbfgbilimaaGreatDoorXan
import Derived.Test.YtnihhbfgbilimaaGreatDoorVac
import Derived.Test.YtnihhbfgbilimaaGreatDoorZUa
import Derived.Test.YtnihhbfgbilimaaGreatDoorXak
import Derived.Test.YtnihhbfgbilimaaGreatDoorXaj
import Derived.Test.YtnihhbfgbilimaaGreatDoorXai
import Derived.Test.YtnihhbfgbilimaaGreatDoorZXa
import Derived.Test.YtnihhbfgbilimaaGreatDoorVab
import Derived.Test.YtnihhbfgbilimaaGreatDoorVaa
import Derived.Test.YtnihhbfgbilimaaGreatDoorHab
import Derived.Laws.StructEq
import Derived.Deep.RegionHeldLaw
import Derived.Deep.RegionHeld3
import Derived.Deep.RegionLaw
namespace Go.Proofs.YtnihhbfgbilimaaGreatDoor
open Go.RowKit Go.Maps
set_option linter.unusedVariables false
theorem rising_unique : ∀ {l m : List (Int × Int)}, l.Pairwise Lt2 → m.Pairwise Lt2 → (∀ x, x ∈ l ↔ x ∈ m) → l = m := by
 intro l
 induction l with
 | nil =>
  intro m _ _ h
  cases m with
  | nil => rfl
  | cons b r => exact absurd ((h b).2 (by simp)) (by simp)
 | cons a r ih =>
  intro m hl hm h
  cases m with
  | nil => exact absurd ((h a).1 (by simp)) (by simp)
  | cons b s =>
   obtain ⟨l1, l2⟩ := List.pairwise_cons.1 hl
   obtain ⟨m1, m2⟩ := List.pairwise_cons.1 hm
   have e : a = b := by
    rcases List.mem_cons.1 ((h a).1 (by simp)) with e | e
    ·exact e
    ·rcases List.mem_cons.1 ((h b).2 (by simp)) with e' | e'
     ·exact e'.symm
     ·exact absurd ((m1 a e).trans (l1 b e')) (Lt2.irr _)
   subst e
   congr 1
   refine ih l2 m2 (fun x => ?_)
   constructor
   ·intro hx
    rcases List.mem_cons.1 ((h x).1 (by simp [hx])) with e | e
    ·subst e; exact absurd (l1 x hx) (Lt2.irr _)
    ·exact e
   ·intro hx
    rcases List.mem_cons.1 ((h x).2 (by simp [hx])) with e | e
    ·subst e; exact absurd (m1 x hx) (Lt2.irr _)
    ·exact e
theorem order_iff {ps : List LPr} {ks : List (Int × Int)} (hw : ∀ p ∈ ps, WfP p) (hk : ks.Pairwise Lt2) (hkw : ∀ x ∈ ks, wfI x.1 ∧ wfI x.2) (hm : ∀ x, wfI x.1 ∧ wfI x.2 → (x ∈ ks ↔ x ∈ ps.map ends)) : ps.map ends = ks ↔ PSort ps := by
 constructor
 ·intro h; unfold PSort; rw [h]; exact hk
 ·intro h
  refine rising_unique h hk (fun x => ?_)
  constructor
  ·intro hx
   obtain ⟨p, hp, rfl⟩ := List.mem_map.1 hx
   exact (hm _ (hw p hp).1).2 hx
  ·intro hx; exact (hm x (hkw x hx)).1 hx
set_option maxHeartbeats 1000000 in
theorem pr_any (p : LPr) (sl : Option Addr) (cap : Nat) (zs : List Int) (w : World) (hn : zs.length ≤ 1048576) (hz : Ints w sl zs) :
  Calls Tryz.prog 189 #[.agg #[.int .i64 p.1, .int .i64 p.2.1, .int .i64 p.2.2], .slice sl zs.length cap] w fun e w' => e = .returned (.bool (B (PrOK zs p))) ∧ Below w.heap.size w w' := by
 obtain ⟨a, b, q⟩ := p
 have HA : Hid (∀ x W, Below w.heap.size w W → Calls Tryz.prog 128 #[.slice sl zs.length cap, .int .i64 x] W fun e w' => e = .returned (.bool (B (x ∈ zs))) ∧ Below W.heap.size W w') := fun x W hW => has_any sl cap x zs W hn (hz.below hW)
 have NO : Hid (¬ (a < b ∧ (q = 1 ∨ q = 2)) → B (PrOK zs (a, b, q)) = false) := fun h => B_no (fun g => h ⟨g.1, g.2.1⟩)
 have YES : Hid ((a < b ∧ (q = 1 ∨ q = 2)) → B (PrOK zs (a, b, q)) = (B (a ∈ zs) && B (b ∈ zs))) := fun h => by
  by_cases h1 : a ∈ zs
  ·rw [B_yes h1, Bool.true_and]
   exact B_iff ⟨fun g => g.2.2.2, fun g => ⟨h.1, h.2, h1, g⟩⟩
  ·rw [B_no h1, Bool.false_and]
   exact B_no (fun g => h1 g.2.2.1)
 dsimp only
 clear hz hn
 generalize zs.length = n at *
 by_cases h1 : b ≤ a
 ·have F := Lib.hid (NO.out (by omega))
  go_enter Tryz.func189, Tryz.ntmps189
  go_wp2
  go_ret
  exact ⟨by rw [F.out]; rfl, bA0 _ _⟩
 ·by_cases h2 : q = 1 ∨ q = 2
  ·have F := Lib.hid (YES.out ⟨by omega, h2⟩)
   have HAa := Lib.hid (HA.out a)
   have HAb := Lib.hid (HA.out b)
   have P := Lib.hid (bA0 w (.cells #[.int .i64 a, .int .i64 b, .int .i64 q] 165))
   have Q := Lib.hid (PAt3.new w a b q)
   cases hx : B (a ∈ zs) with
   | true =>
    rw [hx] at F HAa
    generalize B (b ∈ zs) = y at *
    rcases h2 with rfl | rfl
    ·go_enter Tryz.func189, Tryz.ntmps189
     go_wp2_with fail
     refine (HAa.out _ P.out).mono ?_
     rintro e w1 ⟨rfl, b1⟩
     have D1 := Lib.hid (bT P.out b1)
     obtain ⟨ql, q0, q1, q2⟩ := (Q.out.below b1).cells
     clear b1
     go_wp2_with fail
     refine (HAb.out _ D1.out).mono ?_
     rintro e w2 ⟨rfl, b2⟩
     have D2 := Lib.hid (bT D1.out b2)
     clear b2
     go_wp2
     go_ret
     exact ⟨by rw [F.out]; cases y <;> rfl, D2.out⟩
    ·go_enter Tryz.func189, Tryz.ntmps189
     go_wp2_with fail
     refine (HAa.out _ P.out).mono ?_
     rintro e w1 ⟨rfl, b1⟩
     have D1 := Lib.hid (bT P.out b1)
     obtain ⟨ql, q0, q1, q2⟩ := (Q.out.below b1).cells
     clear b1
     go_wp2_with fail
     refine (HAb.out _ D1.out).mono ?_
     rintro e w2 ⟨rfl, b2⟩
     have D2 := Lib.hid (bT D1.out b2)
     clear b2
     go_wp2
     go_ret
     exact ⟨by rw [F.out]; cases y <;> rfl, D2.out⟩
   | false =>
    rw [hx] at F HAa
    rcases h2 with rfl | rfl
    ·go_enter Tryz.func189, Tryz.ntmps189
     go_wp2_with fail
     refine (HAa.out _ P.out).mono ?_
     rintro e w1 ⟨rfl, b1⟩
     have D1 := Lib.hid (bT P.out b1)
     clear b1
     go_wp2
     go_ret
     exact ⟨by rw [F.out]; rfl, D1.out⟩
    ·go_enter Tryz.func189, Tryz.ntmps189
     go_wp2_with fail
     refine (HAa.out _ P.out).mono ?_
     rintro e w1 ⟨rfl, b1⟩
     have D1 := Lib.hid (bT P.out b1)
     clear b1
     go_wp2
     go_ret
     exact ⟨by rw [F.out]; rfl, D1.out⟩
  ·have F := Lib.hid (NO.out (fun h => h2 h.2))
   have n1 : (q != 1) = true := by simp; omega
   have n2 : (q != 2) = true := by simp; omega
   go_enter Tryz.func189, Tryz.ntmps189
   go_wp2
   go_ret
   exact ⟨by rw [F.out]; rfl, bA0 _ _⟩
theorem neq63 (a b c d : Int) (w : World) : Sem.run Tryz.prog (binOp .neq 234 (.agg #[.int .i64 a, .int .i64 b]) (.agg #[.int .i64 c, .int .i64 d])) w = .ok (.bool (!(a == c && b == d))) w := by
 have u2 := Tryz.underlying2
 have a2 := Tryz.isAgg2
 have z2 := Tryz.sizeOf2
 have hS : Tryz.prog.underlying 234 = some (.struct (Tryz.prog.fieldsOf 234)) := by kernel_rfl
 have hp : Tryz.prog.stoodInHeld 234 = false := by kernel_rfl
 rw [run_neq_struct, show (10000 : Nat) = 9999 + 1 from rfl, run_equalIn_agg w 9999 234 _ _ hS hp]
 simp only [Program.fieldsOf, Tryz.underlying234]
 go_simp
 by_cases h1 : a = c <;> by_cases h2 : b = d <;> simp [h1, h2]
def PairsOK (zs : List Int) (ps : List LPr) : Prop := (∀ p ∈ ps, PrOK zs p) ∧ PSort ps
def PTo (zs : List Int) (ps : List LPr) (ks : List (Int × Int)) (k : Nat) : Prop := ∀ i (h : i < ps.length) (h2 : i < ks.length), i < k → ends ps[i] = ks[i] ∧ PrOK zs ps[i]
set_option maxRecDepth 100000 in
set_option maxHeartbeats 2000000 in
theorem psr_any (sl : Option Addr) (cap : Nat) (sl2 : Option Addr) (cap2 : Nat) (ps : List LPr) (zs : List Int) (w : World) (hn : ps.length ≤ 1000) (hm : zs.length ≤ 1048576) (hz : Prs w sl ps) (hi : Ints w sl2 zs) (hw : ∀ p ∈ ps, WfP p) :
  Calls Tryz.prog 160 #[.slice sl ps.length cap, .slice sl2 zs.length cap2] w fun e w' => e = .returned (.bool (B (PairsOK zs ps))) ∧ Below w.heap.size w w' := by
 have KS := Lib.hid (ks_any sl cap ps w hn hz hw)
 have PR : Hid (∀ p W, Below w.heap.size w W → Calls Tryz.prog 189 #[.agg #[.int .i64 p.1, .int .i64 p.2.1, .int .i64 p.2.2], .slice sl2 zs.length cap2] W fun e w' => e = .returned (.bool (B (PrOK zs p))) ∧ Below W.heap.size W w') := fun p W hW => pr_any p sl2 cap2 zs W hm (hi.below hW)
 have HZ := Lib.hid hz
 have HW := Lib.hid hw
 clear hz hi hw
 generalize hN : ps.length = n at *
 have HN := Lib.hid hN
 clear hN
 generalize zs.length = nz at *
 go_enter Tryz.func160, Tryz.ntmps160
 go_wp2_with fail
 refine KS.out.mono ?_
 rintro e w1 ⟨rfl, m1, b1⟩
 have B1 := Lib.hid b1
 have SE := Lib.hid (se_any w.heap.size n (Kd ps) w1 hn m1)
 clear b1 m1 KS
 go_wp2_with fail
 refine SE.out.mono ?_
 rintro e w2 ⟨v, ks, rfl, o2, hpw, hkw, hmem, b2⟩
 have B2 := Lib.hid (bT B1.out b2)
 have OI := Lib.hid (order_iff HW.out hpw hkw (fun x hx => (hmem x hx).trans (Kd_has ps HW.out x hx)))
 have O2 := Lib.hid o2
 obtain ⟨sl3, cap3, rfl⟩ := own_v o2
 clear SE b2 o2 hpw hkw hmem
 generalize hK : ks.length = m at *
 have HK := Lib.hid hK
 clear hK
 by_cases hmn : m = n
 ·have hmn' : ((m : Int) != (n : Int)) = false := by simp [hmn]
  subst hmn
  go_wp2_with fail
  go_loopw [18] (fun i wr => ∃ k : Nat, i = .int .i64 k ∧ k ≤ m ∧ Hid (PTo zs ps ks k) ∧ Hid (Below w2.heap.size w2 wr)) (fun i _ => m - (intOf i).toNat)
  case atStart => exact ⟨0, rfl, Nat.zero_le _, fun i h h2 h3 => absurd h3 (Nat.not_lt_zero _), Below.refl _ _⟩
  case round =>
   obtain ⟨k, rfl, hk, H1, H2⟩ := hrel
   have hk0 : (0 : Int) ≤ (k : Int) := by omega
   by_cases h1 : k < m
   ·have h1' : (k : Int) < (m : Int) := by omega
    have hlt : k < ps.length := by rw [HN.out]; exact h1
    have hlk : k < ks.length := by rw [HK.out]; exact h1
    obtain ⟨a, b, q, hp⟩ : ∃ a b q, ps[k] = (a, b, q) := ⟨_, _, _, rfl⟩
    obtain ⟨c, d, hkk⟩ : ∃ c d, ks[k] = (c, d) := ⟨_, _, rfl⟩
    have BR := Lib.hid (bT B2.out H2.out)
    obtain ⟨cp, op, rfl, HPA⟩ : ∃ cp op, sl = some ⟨cp, op, none⟩ ∧ PrAt w cp op ps := by
     rcases HZ.out with e | h
     ·rw [e] at hlt; simp at hlt
     ·exact h
    obtain ⟨hc0, hc1, hc2⟩ := (HPA.below BR.out).cell k hlt
    have hcl := (HPA.below BR.out).lt
    have OR := own_below O2.out H2.out
    obtain ⟨g3, rfl, r0, r1, rl⟩ : ∃ g3, sl3 = some ⟨g3, 0, none⟩ ∧ wr.cell? ⟨g3, k * 2, none⟩ = some (.int .i64 ks[k].1) ∧ wr.cell? ⟨g3, k * 2 + 1, none⟩ = some (.int .i64 ks[k].2) ∧ g3 < wr.heap.size := by
     rcases OR.2 with ⟨_, h0⟩ | ⟨g, cp3, cur, hv, hb3, hg3, _⟩
     ·omega
     ·cases hv
      have e := enCells_at ks k hlk
      exact ⟨g, rfl, by rw [OR.cellAt (k * 2) (by omega), e.1], by rw [OR.cellAt (k * 2 + 1) (by omega), e.2], (Array.getElem?_eq_some_iff.1 hg3).1⟩
    rw [hp] at hc0 hc1 hc2
    rw [hkk] at r0 r1
    dsimp only at hc0 hc1 hc2 r0 r1
    have E1 : Hid (∀ W, Calls Tryz.prog 188 #[.agg #[.int .i64 a, .int .i64 b, .int .i64 q]] W fun e w' => e = .returned (.agg #[.int .i64 a, .int .i64 b]) ∧ Below W.heap.size W w') := fun W => en_any (a, b, q) W
    have BW := Lib.hid (bA BR.out (.cells #[.int .i64 a, .int .i64 b, .int .i64 q] 165))
    have BX := Lib.hid (bA H2.out (.cells #[.int .i64 a, .int .i64 b, .int .i64 q] 165))
    have PA := Lib.hid (PAt3.new wr a b q)
    have r0' := ((bA0 wr (.cells #[.int .i64 a, .int .i64 b, .int .i64 q] 165)).cell rl).trans r0
    have r1' := ((bA0 wr (.cells #[.int .i64 a, .int .i64 b, .int .i64 q] 165)).cell rl).trans r1
    have rl' : g3 < (wr.alloc (.cells #[.int .i64 a, .int .i64 b, .int .i64 q] 165)).heap.size := by simp; omega
    have hgt : Tryz.prog.eqGuardType Tryz.prog.depth 234 = false := by kernel_rfl
    have hnq := neq63 a b c d
    by_cases hac : a = c ∧ b = d
    ·have hnb : (!(a == c && b == d)) = false := by simp [hac]
     by_cases hok : PrOK zs (a, b, q)
     ·have HS : Hid (PTo zs ps ks (k + 1)) := fun i hi hi2 hik => by
       by_cases e : i = k
       ·subst e; rw [hp, hkk]; exact ⟨Prod.ext hac.1 hac.2, hok⟩
       ·exact H1.out i hi hi2 (by omega)
      have PRb := B_yes hok
      clear hp hkk hlt hlk HPA OR hac hok
      rw [hnb] at hnq
      go_wp2_with fail
      generalize wr.alloc (.cells #[.int .i64 a, .int .i64 b, .int .i64 q] 165) = w3 at *
      have KB : Hid (∀ W, Below w3.heap.size w3 W → wr.heap.size < W.heap.size ∧ g3 < W.heap.size ∧ W.cell? ⟨wr.heap.size, 0, none⟩ = some (.int .i64 a) ∧ W.cell? ⟨wr.heap.size, 1, none⟩ = some (.int .i64 b) ∧ W.cell? ⟨wr.heap.size, 2, none⟩ = some (.int .i64 q) ∧ W.cell? ⟨g3, k * 2, none⟩ = some (.int .i64 c) ∧ W.cell? ⟨g3, k * 2 + 1, none⟩ = some (.int .i64 d)) := fun W hW => by
       obtain ⟨k0, k1, k2, k3⟩ := PA.out.kept hW
       exact ⟨k0, Nat.lt_of_lt_of_le rl' hW.size, k1, k2, k3, (hW.cell rl').trans r0', (hW.cell rl').trans r1'⟩
      clear r0 r1 r0' r1' hc0 hc1 hc2
      refine wp_region_held_drew (S := fun W => wr.heap.size < W.heap.size ∧ g3 < W.heap.size ∧ W.cell? ⟨wr.heap.size, 0, none⟩ = some (.int .i64 a) ∧ W.cell? ⟨wr.heap.size, 1, none⟩ = some (.int .i64 b) ∧ W.cell? ⟨wr.heap.size, 2, none⟩ = some (.int .i64 q) ∧ W.cell? ⟨g3, k * 2, none⟩ = some (.int .i64 c) ∧ W.cell? ⟨g3, k * 2 + 1, none⟩ = some (.int .i64 d)) (by kernel_rfl) ?_ (fun hHeld => ?_)
      ·exact KB.out _ (Below.refl _ _).drew
      refine tw (i := 0) rfl ?_
      refine tw (i := 2) rfl ?_
      refine tw (i := 3) rfl ?_
      refine tw (i := 4) rfl ?_
      try simp only [Act.put, List.setIfInBounds_toArray, List.set_cons_zero, List.set_cons_succ, List.getElem_toArray, List.getElem_cons_succ, List.getElem_cons_zero]
      refine tw (i := 5) rfl ?_
      try simp only [Act.put, List.setIfInBounds_toArray, List.set_cons_zero, List.set_cons_succ, List.getElem_toArray, List.getElem_cons_succ, List.getElem_cons_zero]
      refine wpAnyH_ready (rs := [1]) (by kernel_rfl) (by simp) ?_
      refine AllReadyH.cons rfl (fun K hK => ?_) AllReadyH.nil
      go_simp
      go_wp2_with (go_at_call 188; refine (E1.out _).mono ?_; rintro e w5 ⟨rfl, b5⟩)
      have D5 : Hid (Below w3.heap.size w3 w5) := bT ((Below.refl w3.heap.size w3).drew) b5
      clear b5
      refine hK.out _ _ ?_ (fun hHeld => ?_)
      ·exact KB.out _ D5.out
      clear hK K
      refine tw (i := 6) rfl ?_
      refine tw (i := 7) rfl ?_
      refine tw (i := 8) rfl ?_
      refine tw (i := 9) rfl ?_
      try simp only [Act.put, List.setIfInBounds_toArray, List.set_cons_zero, List.set_cons_succ, List.getElem_toArray, List.getElem_cons_succ, List.getElem_cons_zero]
      refine wpAnyH_ready (rs := [10]) (by kernel_rfl) (by simp) ?_
      refine AllReadyH.cons rfl (fun K hK => ?_) AllReadyH.nil
      go_simp
      go_wp2_with (go_at_call 189; have PQ := PR.out (a, b, q) _ (bT BW.out D5.out); rw [PRb] at PQ; refine PQ.mono ?_; rintro e w6 ⟨rfl, b6⟩)
      have D6 : Hid (Below w3.heap.size w3 w6) := bT D5.out b6
      clear b6
      refine hK.out _ _ ?_ (fun hHeld => ?_)
      ·exact KB.out _ D6.out
      clear hK K
      refine tw (i := 11) rfl ?_
      refine tw (i := 12) rfl ?_
      try simp only [Act.put, List.setIfInBounds_toArray, List.set_cons_zero, List.set_cons_succ, List.getElem_toArray, List.getElem_cons_succ, List.getElem_cons_zero]
      refine wpAnyH_done (by kernel_rfl) ?_ _
      have D7 := Lib.hid (bT BX.out D6.out)
      clear KB D5 D6
      go_wp2_with fail
      go_roundw
      case rel => exact ⟨k + 1, by go_num, by omega, HS, D7⟩
      case measure => simp [intOf]; omega
     ·have F := Lib.hid (B_no (p := PairsOK zs ps) (fun (g : (∀ p ∈ ps, PrOK zs p) ∧ PSort ps) => by
       have e1 := OI.out.2 g.2
       have e2 := g.1 ps[k] (List.getElem_mem hlt)
       have e3 : ends ps[k] = ks[k] := by have := congrArg (fun l => l[k]?) e1; simpa [hlt, hlk] using this
       rw [hp] at e2 e3
       rw [hkk] at e3
       exact hok e2))
      have PRb := B_no hok
      clear hp hkk hlt hlk HPA OR hac hok
      rw [hnb] at hnq
      go_wp2_with fail
      generalize wr.alloc (.cells #[.int .i64 a, .int .i64 b, .int .i64 q] 165) = w3 at *
      have KB : Hid (∀ W, Below w3.heap.size w3 W → wr.heap.size < W.heap.size ∧ g3 < W.heap.size ∧ W.cell? ⟨wr.heap.size, 0, none⟩ = some (.int .i64 a) ∧ W.cell? ⟨wr.heap.size, 1, none⟩ = some (.int .i64 b) ∧ W.cell? ⟨wr.heap.size, 2, none⟩ = some (.int .i64 q) ∧ W.cell? ⟨g3, k * 2, none⟩ = some (.int .i64 c) ∧ W.cell? ⟨g3, k * 2 + 1, none⟩ = some (.int .i64 d)) := fun W hW => by
       obtain ⟨k0, k1, k2, k3⟩ := PA.out.kept hW
       exact ⟨k0, Nat.lt_of_lt_of_le rl' hW.size, k1, k2, k3, (hW.cell rl').trans r0', (hW.cell rl').trans r1'⟩
      clear r0 r1 r0' r1' hc0 hc1 hc2
      refine wp_region_held_drew (S := fun W => wr.heap.size < W.heap.size ∧ g3 < W.heap.size ∧ W.cell? ⟨wr.heap.size, 0, none⟩ = some (.int .i64 a) ∧ W.cell? ⟨wr.heap.size, 1, none⟩ = some (.int .i64 b) ∧ W.cell? ⟨wr.heap.size, 2, none⟩ = some (.int .i64 q) ∧ W.cell? ⟨g3, k * 2, none⟩ = some (.int .i64 c) ∧ W.cell? ⟨g3, k * 2 + 1, none⟩ = some (.int .i64 d)) (by kernel_rfl) ?_ (fun hHeld => ?_)
      ·exact KB.out _ (Below.refl _ _).drew
      refine tw (i := 0) rfl ?_
      refine tw (i := 2) rfl ?_
      refine tw (i := 3) rfl ?_
      refine tw (i := 4) rfl ?_
      try simp only [Act.put, List.setIfInBounds_toArray, List.set_cons_zero, List.set_cons_succ, List.getElem_toArray, List.getElem_cons_succ, List.getElem_cons_zero]
      refine tw (i := 5) rfl ?_
      try simp only [Act.put, List.setIfInBounds_toArray, List.set_cons_zero, List.set_cons_succ, List.getElem_toArray, List.getElem_cons_succ, List.getElem_cons_zero]
      refine wpAnyH_ready (rs := [1]) (by kernel_rfl) (by simp) ?_
      refine AllReadyH.cons rfl (fun K hK => ?_) AllReadyH.nil
      go_simp
      go_wp2_with (go_at_call 188; refine (E1.out _).mono ?_; rintro e w5 ⟨rfl, b5⟩)
      have D5 : Hid (Below w3.heap.size w3 w5) := bT ((Below.refl w3.heap.size w3).drew) b5
      clear b5
      refine hK.out _ _ ?_ (fun hHeld => ?_)
      ·exact KB.out _ D5.out
      clear hK K
      refine tw (i := 6) rfl ?_
      refine tw (i := 7) rfl ?_
      refine tw (i := 8) rfl ?_
      refine tw (i := 9) rfl ?_
      try simp only [Act.put, List.setIfInBounds_toArray, List.set_cons_zero, List.set_cons_succ, List.getElem_toArray, List.getElem_cons_succ, List.getElem_cons_zero]
      refine wpAnyH_ready (rs := [10]) (by kernel_rfl) (by simp) ?_
      refine AllReadyH.cons rfl (fun K hK => ?_) AllReadyH.nil
      go_simp
      go_wp2_with (go_at_call 189; have PQ := PR.out (a, b, q) _ (bT BW.out D5.out); rw [PRb] at PQ; refine PQ.mono ?_; rintro e w6 ⟨rfl, b6⟩)
      have D6 : Hid (Below w3.heap.size w3 w6) := bT D5.out b6
      clear b6
      refine hK.out _ _ ?_ (fun hHeld => ?_)
      ·exact KB.out _ D6.out
      clear hK K
      refine tw (i := 11) rfl ?_
      refine tw (i := 12) rfl ?_
      try simp only [Act.put, List.setIfInBounds_toArray, List.set_cons_zero, List.set_cons_succ, List.getElem_toArray, List.getElem_cons_succ, List.getElem_cons_zero]
      refine wpAnyH_done (by kernel_rfl) ?_ _
      have D7 := Lib.hid (bT BW.out D6.out)
      clear KB D5 D6
      go_wp2
      go_ret
      exact ⟨by rw [F.out]; rfl, D7.out⟩
    ·have hnb : (!(a == c && b == d)) = true := by
      by_cases e1 : a = c
      ·have e2 : b ≠ d := fun e2 => hac ⟨e1, e2⟩
       simp [e1, e2]
      ·simp [e1]
     have F := Lib.hid (B_no (p := PairsOK zs ps) (fun (g : (∀ p ∈ ps, PrOK zs p) ∧ PSort ps) => by
      have e1 := OI.out.2 g.2
      have e2 := g.1 ps[k] (List.getElem_mem hlt)
      have e3 : ends ps[k] = ks[k] := by have := congrArg (fun l => l[k]?) e1; simpa [hlt, hlk] using this
      rw [hp] at e2 e3
      rw [hkk] at e3
      exact hac ⟨congrArg Prod.fst e3, congrArg Prod.snd e3⟩))
     clear hp hkk hlt hlk HPA OR hac
     rw [hnb] at hnq
     go_wp2_with fail
     generalize wr.alloc (.cells #[.int .i64 a, .int .i64 b, .int .i64 q] 165) = w3 at *
     have KB : Hid (∀ W, Below w3.heap.size w3 W → wr.heap.size < W.heap.size ∧ g3 < W.heap.size ∧ W.cell? ⟨wr.heap.size, 0, none⟩ = some (.int .i64 a) ∧ W.cell? ⟨wr.heap.size, 1, none⟩ = some (.int .i64 b) ∧ W.cell? ⟨wr.heap.size, 2, none⟩ = some (.int .i64 q) ∧ W.cell? ⟨g3, k * 2, none⟩ = some (.int .i64 c) ∧ W.cell? ⟨g3, k * 2 + 1, none⟩ = some (.int .i64 d)) := fun W hW => by
      obtain ⟨k0, k1, k2, k3⟩ := PA.out.kept hW
      exact ⟨k0, Nat.lt_of_lt_of_le rl' hW.size, k1, k2, k3, (hW.cell rl').trans r0', (hW.cell rl').trans r1'⟩
     clear r0 r1 r0' r1' hc0 hc1 hc2
     refine wp_region_held_drew (S := fun W => wr.heap.size < W.heap.size ∧ g3 < W.heap.size ∧ W.cell? ⟨wr.heap.size, 0, none⟩ = some (.int .i64 a) ∧ W.cell? ⟨wr.heap.size, 1, none⟩ = some (.int .i64 b) ∧ W.cell? ⟨wr.heap.size, 2, none⟩ = some (.int .i64 q) ∧ W.cell? ⟨g3, k * 2, none⟩ = some (.int .i64 c) ∧ W.cell? ⟨g3, k * 2 + 1, none⟩ = some (.int .i64 d)) (by kernel_rfl) ?_ (fun hHeld => ?_)
     ·exact KB.out _ (Below.refl _ _).drew
     refine tw (i := 0) rfl ?_
     refine tw (i := 2) rfl ?_
     refine tw (i := 3) rfl ?_
     refine tw (i := 4) rfl ?_
     try simp only [Act.put, List.setIfInBounds_toArray, List.set_cons_zero, List.set_cons_succ, List.getElem_toArray, List.getElem_cons_succ, List.getElem_cons_zero]
     refine tw (i := 5) rfl ?_
     try simp only [Act.put, List.setIfInBounds_toArray, List.set_cons_zero, List.set_cons_succ, List.getElem_toArray, List.getElem_cons_succ, List.getElem_cons_zero]
     refine wpAnyH_ready (rs := [1]) (by kernel_rfl) (by simp) ?_
     refine AllReadyH.cons rfl (fun K hK => ?_) AllReadyH.nil
     go_simp
     go_wp2_with (go_at_call 188; refine (E1.out _).mono ?_; rintro e w5 ⟨rfl, b5⟩)
     have D5 : Hid (Below w3.heap.size w3 w5) := bT ((Below.refl w3.heap.size w3).drew) b5
     clear b5
     refine hK.out _ _ ?_ (fun hHeld => ?_)
     ·exact KB.out _ D5.out
     clear hK K
     refine tw (i := 6) rfl ?_
     refine tw (i := 7) rfl ?_
     refine ts (i := 8) rfl ?_
     refine ts (i := 9) rfl ?_
     try simp only [Act.put, List.setIfInBounds_toArray, List.set_cons_zero, List.set_cons_succ, List.getElem_toArray, List.getElem_cons_succ, List.getElem_cons_zero]
     refine ts (i := 10) rfl ?_
     refine ts (i := 11) rfl ?_
     refine tw (i := 12) rfl ?_
     try simp only [Act.put, List.setIfInBounds_toArray, List.set_cons_zero, List.set_cons_succ, List.getElem_toArray, List.getElem_cons_succ, List.getElem_cons_zero]
     refine wpAnyH_done (by kernel_rfl) ?_ _
     have D7 := Lib.hid (bT BW.out D5.out)
     clear KB D5
     go_wp2
     go_ret
     exact ⟨by rw [F.out]; rfl, D7.out⟩
   ·have h1' : ¬ (k : Int) < (m : Int) := by omega
    have F := Lib.hid (B_yes (p := PairsOK zs ps) (show (∀ p ∈ ps, PrOK zs p) ∧ PSort ps from ⟨fun p hp => by
      obtain ⟨i, hi, rfl⟩ := List.getElem_of_mem hp
      exact (H1.out i hi (by rw [HK.out, ← HN.out]; exact hi) (by rw [HN.out] at hi; omega)).2, OI.out.1 (by
      apply List.ext_getElem
      ·rw [List.length_map, HN.out, HK.out]
      ·intro i h1 h2
       rw [List.getElem_map]
       exact (H1.out i (by simpa using h1) h2 (by rw [HK.out] at h2; omega)).1)⟩))
    have D7 := Lib.hid (bT B2.out H2.out)
    go_wp2
    go_ret
    exact ⟨by rw [F.out]; rfl, D7.out⟩
 ·have hmn' : ((m : Int) != (n : Int)) = true := by simp; omega
  have F := Lib.hid (B_no (p := PairsOK zs ps) (fun (g : (∀ p ∈ ps, PrOK zs p) ∧ PSort ps) => hmn (by have := congrArg List.length (OI.out.2 g.2); rw [List.length_map, HN.out, HK.out] at this; exact this.symm)))
  go_wp2
  go_ret
  exact ⟨by rw [F.out]; rfl, B2.out⟩
end Go.Proofs.YtnihhbfgbilimaaGreatDoor
namespace Go.Proofs.YtnihhbfgbilimaaGreatDoor
open Go.RowKit Go.Maps
set_option linter.unusedVariables false
set_option maxRecDepth 100000 in
set_option maxHeartbeats 2000000 in
theorem itr_size (sl : Option Addr) (n cap : Nat) (sl2 : Option Addr) (m cap2 : Nat) (w : World) (h : ¬ (1 ≤ n ∧ n ≤ 12 ∧ m ≤ 40)) :
  Calls Tryz.prog 113 #[TV sl n cap sl2 m cap2] w fun e w' => e = .returned (.bool false) ∧ Below w.heap.size w w' := by
 by_cases h1 : (n : Int) < 1
 ·clear h
  go_enter Tryz.func113, Tryz.ntmps113
  go_wp2
  go_ret
  exact ⟨rfl, bA0 _ _⟩
 ·by_cases h2 : (12 : Int) < (n : Int)
  ·clear h
   go_enter Tryz.func113, Tryz.ntmps113
   go_wp2
   go_ret
   exact ⟨rfl, bA0 _ _⟩
  ·have h3 : (40 : Int) < (m : Int) := by omega
   clear h
   go_enter Tryz.func113, Tryz.ntmps113
   go_wp2
   go_ret
   exact ⟨rfl, bA0 _ _⟩
def AllSt (rs : List LSt) (k : Nat) : Prop := ∀ i (h : i < rs.length), i < k → StOK rs[i].2.1 rs[i].2.2.2
set_option maxRecDepth 100000 in
set_option maxHeartbeats 2000000 in
theorem itr_main (c o cap : Nat) (sl2 : Option Addr) (cap2 : Nat) (rs : List LSt) (ps : List LPr) (w : World) (h1 : 1 ≤ rs.length) (h2 : rs.length ≤ 12) (h3 : ps.length ≤ 40) (hz : StAt w c o rs) (hd : ∀ r ∈ rs, DomIn w r) (hp : Prs w sl2 ps) (hw : ∀ p ∈ ps, WfP p) :
  Calls Tryz.prog 113 #[TV (some ⟨c, o, none⟩) rs.length cap sl2 ps.length cap2] w fun e w' => e = .returned (.bool (B (TabR rs ps))) ∧ Below w.heap.size w w' := by
 have h1' : ¬ (rs.length : Int) < 1 := by omega
 have h2' : ¬ (12 : Int) < (rs.length : Int) := by omega
 have h3' : ¬ (40 : Int) < (ps.length : Int) := by omega
 have B0 := Lib.hid (bA0 w (.cells #[.slice (some ⟨c, o, none⟩) rs.length cap, .slice sl2 ps.length cap2] 26))
 have HZ := Lib.hid (hz.below B0.out)
 have HD := Lib.hid (fun r hr => (hd r hr).below B0.out)
 have HP := Lib.hid (hp.below B0.out)
 have HT := Lib.hid (TabAtD.new w (some ⟨c, o, none⟩) rs.length cap sl2 ps.length cap2)
 have HW := Lib.hid hw
 have RN : Hid (AllSt rs rs.length → ¬ InRise 1 999 (idsL rs) → B (TabR rs ps) = false) := fun _ h => B_no (fun g => h g.2.2.1)
 have RY : Hid (AllSt rs rs.length → InRise 1 999 (idsL rs) → B (TabR rs ps) = B (PairsOK (idsL rs) ps)) := fun ha hb => B_iff ⟨fun g => ⟨g.2.2.2.1, g.2.2.2.2⟩, fun g => ⟨⟨h1, h2, h3⟩, fun r hr => by
  obtain ⟨i, hi, rfl⟩ := List.getElem_of_mem hr
  exact ha i hi hi, hb, g.1, g.2⟩⟩
 clear hz hd hp hw
 generalize hN : rs.length = n at *
 generalize hM : ps.length = m at *
 have HN := Lib.hid hN
 have HM := Lib.hid hM
 clear hN hM
 go_enter Tryz.func113, Tryz.ntmps113
 go_wp2_with fail
 generalize (w.alloc (.cells #[.slice (some ⟨c, o, none⟩) n cap, .slice sl2 m cap2] 26)) = w0 at *
 go_loopw [25] (fun i wr => ∃ k : Nat, i = .int .i64 k ∧ k ≤ n ∧ Hid (AllSt rs k) ∧ Hid (Below w0.heap.size w0 wr)) (fun i _ => n - (intOf i).toNat)
 case atStart => exact ⟨0, rfl, Nat.zero_le _, fun i h hk => absurd hk (Nat.not_lt_zero _), Below.refl _ _⟩
 case round =>
  obtain ⟨k, rfl, hk, H1, H2⟩ := hrel
  have hk0 : (0 : Int) ≤ (k : Int) := by omega
  by_cases c1 : k < n
  ·have c1' : (k : Int) < (n : Int) := by omega
   have hlt : k < rs.length := by rw [HN.out]; exact c1
   have Z1 := HZ.out.below H2.out
   obtain ⟨hc0, hc1, hc2⟩ := Z1.cell k hlt
   have hcl := Z1.lt
   obtain ⟨sld, capd, ed, hi, hdl⟩ := (HD.out rs[k] (List.getElem_mem hlt)).below H2.out
   rw [ed] at hc2
   have S1 : Hid (∀ W, Below wr.heap.size wr W → Calls Tryz.prog 159 #[SV rs[k].1 rs[k].2.1 sld rs[k].2.2.2.length capd] W fun e w' => e = .returned (.bool (B (StOK rs[k].2.1 rs[k].2.2.2))) ∧ Below W.heap.size W w') := fun W hW => sr_any _ _ sld capd _ W (by unfold maxLen; omega) (hi.below hW)
   by_cases hs : StOK rs[k].2.1 rs[k].2.2.2
   ·rw [B_yes hs] at S1
    have HS : Hid (AllSt rs (k + 1)) := fun i h hik => by
     by_cases e : i = k
     ·subst e; exact hs
     ·exact H1.out i h (by omega)
    clear hs hi hdl ed Z1
    generalize rs[k].1 = x at *
    generalize rs[k].2.1 = y at *
    generalize rs[k].2.2.2.length = q at *
    clear hlt
    go_wp2_with fail
    refine (S1.out _ (bA0 _ _)).mono ?_
    rintro e w5 ⟨rfl, b5⟩
    have D5 := Lib.hid (bT (bA H2.out _) b5)
    clear b5
    go_wp2_with fail
    go_roundw
    case rel => exact ⟨k + 1, by go_num, by omega, HS, D5⟩
    case measure => simp [intOf]; omega
   ·rw [B_no hs] at S1
    have F := Lib.hid (B_no (p := TabR rs ps) (fun g => hs (g.2.1 _ (List.getElem_mem hlt))))
    clear hs hi hdl ed Z1
    generalize rs[k].1 = x at *
    generalize rs[k].2.1 = y at *
    generalize rs[k].2.2.2.length = q at *
    clear hlt
    go_wp2_with fail
    refine (S1.out _ (bA0 _ _)).mono ?_
    rintro e w5 ⟨rfl, b5⟩
    have D5 := Lib.hid (bT B0.out (bT (bA H2.out _) b5))
    clear b5
    go_wp2
    go_ret
    exact ⟨by rw [F.out]; rfl, D5.out⟩
  ·have c1' : ¬ (k : Int) < (n : Int) := by omega
   have AS := Lib.hid (show AllSt rs n by have := H1.out; rwa [show k = n by omega] at this)
   have SR := Lib.hid (Sts.mk (sl := some ⟨c, o, none⟩) (Or.inr ⟨c, o, rfl, HZ.out.below H2.out⟩) (fun r hr => (HD.out r hr).below H2.out))
   have ID := Lib.hid (ids_any (some ⟨c, o, none⟩) cap sl2 m cap2 rs wr (by rw [HN.out]; omega) SR.out)
   rw [HN.out] at ID
   obtain ⟨t0, t1⟩ := (HT.out.below H2.out).cells
   have tl := (HT.out.below H2.out).lt
   have HPr := Lib.hid (HP.out.below H2.out)
   have BR := Lib.hid (bT B0.out H2.out)
   have HTr := Lib.hid (HT.out.below H2.out)
   clear H1 H2 HZ HD HP HT SR
   go_wp2_with fail
   refine ID.out.mono ?_
   rintro e w5 ⟨v, rfl, o5, b5⟩
   have o5' := o5
   rw [show n = (idsL rs).length by rw [idsL_len, HN.out]] at o5'
   obtain ⟨sl5, cap5, rfl, i5⟩ := own_ints o5'
   have IL := Lib.hid (show (idsL rs).length = n by rw [idsL_len, HN.out])
   have I5 := Lib.hid i5
   have B5 := Lib.hid (bT BR.out b5)
   have P5 := Lib.hid (HPr.out.below b5)
   have T5 := Lib.hid (HTr.out.below b5)
   have RW := Lib.hid (rw_any 1 999 sl5 cap5 (idsL rs) w5 (by rw [IL.out]; unfold maxLen; omega) I5.out)
   clear o5 o5' b5 ID t0 t1 tl i5
   obtain ⟨t0, t1⟩ := T5.out.cells
   have tl := T5.out.lt
   by_cases hr : InRise 1 999 (idsL rs)
   ·rw [B_yes hr] at RW
    have F := Lib.hid (RY.out AS.out hr)
    have PS : Hid (∀ W, Below w5.heap.size w5 W → Calls Tryz.prog 160 #[.slice sl2 m cap2, .slice sl5 (idsL rs).length cap5] W fun e w' => e = .returned (.bool (B (PairsOK (idsL rs) ps))) ∧ Below W.heap.size W w') := fun W hW => by
     have := psr_any sl2 cap2 sl5 cap5 ps (idsL rs) W (by rw [HM.out]; omega) (by rw [IL.out]; omega) (P5.out.below hW) (I5.out.below hW) HW.out
     rwa [HM.out] at this
    generalize B (PairsOK (idsL rs) ps) = y at *
    generalize (idsL rs).length = q at *
    clear hr
    go_wp2_with fail
    refine RW.out.mono ?_
    rintro e w6 ⟨rfl, b6⟩
    have D6 := Lib.hid b6
    clear b6 t0 t1 tl
    obtain ⟨t0, t1⟩ := (T5.out.below D6.out).cells
    have tl := (T5.out.below D6.out).lt
    go_wp2_with fail
    refine (PS.out _ D6.out).mono ?_
    rintro e w7 ⟨rfl, b7⟩
    have D7 := Lib.hid (bT B5.out (bT D6.out b7))
    clear b7
    go_wp2
    go_ret
    exact ⟨by rw [F.out]; rfl, D7.out⟩
   ·rw [B_no hr] at RW
    have F := Lib.hid (RN.out AS.out hr)
    generalize (idsL rs).length = q at *
    clear hr
    go_wp2_with fail
    refine RW.out.mono ?_
    rintro e w6 ⟨rfl, b6⟩
    have D7 := Lib.hid (bT B5.out b6)
    clear b6
    go_wp2
    go_ret
    exact ⟨by rw [F.out]; rfl, D7.out⟩
theorem itr_any (sl : Option Addr) (cap : Nat) (sl2 : Option Addr) (cap2 : Nat) (rs : List LSt) (ps : List LPr) (w : World) (hz : Sts w sl rs) (hp : Prs w sl2 ps) (hw : ∀ p ∈ ps, WfP p) :
  Calls Tryz.prog 113 #[TV sl rs.length cap sl2 ps.length cap2] w fun e w' => e = .returned (.bool (B (TabR rs ps))) ∧ Below w.heap.size w w' := by
 by_cases h : 1 ≤ rs.length ∧ rs.length ≤ 12 ∧ ps.length ≤ 40
 ·rcases hz.row with e | ⟨c, o, rfl, h0⟩
  ·rw [e] at h; simp at h
  ·exact itr_main c o cap sl2 cap2 rs ps w h.1 h.2.1 h.2.2 h0 hz.dom hp hw
 ·rw [B_no (fun g => h g.1)]
  exact itr_size sl _ cap sl2 _ cap2 w h
end Go.Proofs.YtnihhbfgbilimaaGreatDoor
