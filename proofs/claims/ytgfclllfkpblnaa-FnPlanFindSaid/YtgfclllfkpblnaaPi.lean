/-
  THE FIRST FAULT OF A PLAN: what both sides answer, and the program's walk.
-/
import Derived.Test.YtgfclllfkpblnaaPh
import Derived.Test.YtgfclllfkpblnaaPz
import Derived.Test.YtgfclllfkpblnaaAx
import Derived.Deep.RegionHeldLaw
namespace Go.Proofs.Ytgfclllfkpblnaa
open Go.RowKit
set_option linter.unusedVariables false

theorem kindF_none (x : Int × Int) (z : Int) (ps : List LPr) (h : ∀ p ∈ ps, ends p ≠ x) : kindF x z ps = z := by
  induction ps with
  | nil => rfl
  | cons p r ih =>
    show kindF x (if ends p = x then p.2.2 else z) r = z
    rw [if_neg (h p (by simp))]
    exact ih (fun q hq => h q (by simp [hq]))
theorem may_fit1 (ps : List LPr) (a c b d : Int) (h1 : ∀ p ∈ ps, p.1 < p.2.1 ∧ (p.2.2 = 1 ∨ p.2.2 = 2)) (h2 : PSort ps) : mayL ps a c b d = decide (kindL ps (min a b, max a b) ≤ max c d - min c d) := by
  unfold kindL
  induction ps with
  | nil => unfold mayL kindF; simp; omega
  | cons p r ih =>
    obtain ⟨x, y, q⟩ := p
    have hp := h1 (x, y, q) (by simp)
    dsimp only at hp
    unfold PSort at h2
    rw [List.map_cons, List.pairwise_cons] at h2
    show (if (x = a ∧ y = b) ∨ (x = b ∧ y = a) then decide (c ≠ d ∧ (q = 1 ∨ absI (c - d) ≠ 1)) else mayL r a c b d) = decide (kindF (min a b, max a b) (if ends (x, y, q) = (min a b, max a b) then q else 0) r ≤ max c d - min c d)
    by_cases hm : (x = a ∧ y = b) ∨ (x = b ∧ y = a)
    · have he : ends (x, y, q) = (min a b, max a b) := by
        show (x, y) = _
        rcases hm with ⟨rfl, rfl⟩ | ⟨rfl, rfl⟩ <;> exact Prod.ext (by show _ = min _ _; omega) (by show _ = max _ _; omega)
      rw [if_pos hm, if_pos he, kindF_none]
      · rw [decide_eq_decide]
        unfold absI
        split <;> omega
      · intro p hpm e
        have := h2.1 (ends p) (List.mem_map_of_mem hpm)
        rw [he, e] at this
        exact Lt2.irr _ this
    · have he : ends (x, y, q) ≠ (min a b, max a b) := by
        intro e
        have e1 : x = min a b := congrArg Prod.fst e
        have e2 : y = max a b := congrArg Prod.snd e
        apply hm
        by_cases ab : a ≤ b
        · left; constructor <;> omega
        · right; constructor <;> omega
      rw [if_neg hm, if_neg he]
      exact ih (fun p hp => h1 p (by simp [hp])) h2.2
theorem fit_may (rs : List LSt) (ps : List LPr) (pl : List LPl) (x : LPl) (h : TabR rs ps) : fitB ps pl x = pl.all (fun o => mayL ps o.1 o.2 x.1 x.2) := by
  unfold fitB
  congr 1
  funext o
  rw [may_fit1 ps o.1 o.2 x.1 x.2 (fun p hp => ⟨(h.2.2.2.1 p hp).1, (h.2.2.2.1 p hp).2.1⟩) h.2.2.2.2]
  rfl
theorem dom_small (rs : List LSt) (ps : List LPr) (id top x : Int) (h : TabR rs ps) (hx : x ∈ rs.flatMap (domF id top)) : 2 ≤ x ∧ x ≤ 51 := by
  obtain ⟨r, hr, hx⟩ := List.mem_flatMap.1 hx
  unfold domF FF at hx
  split at hx
  · exact (h.2.1 r hr).2.2.mem (List.mem_filter.1 hx).1
  · cases hx

/-- Has the place p a channel that it may have, by itself and beside those ahead of it? -/
noncomputable def goodB (rs : List LSt) (ps : List LPr) (top : Int) (pre : List LPl) (p : LPl) : Bool := B (p.2 ∈ rs.flatMap (domF p.1 top)) && pre.all (fun o => mayL ps o.1 o.2 p.1 p.2)
noncomputable def faultF (rs : List LSt) (ps : List LPr) (top : Int) : List LPl → List LPl → Int
  | _, [] => 0
  | pre, p :: r => if goodB rs ps top pre p = true then faultF rs ps top (pre ++ [p]) r else p.1
/-- What PlanFault answers. -/
noncomputable def faultA (rs : List LSt) (ps : List LPr) (top : Int) (pl : List LPl) : Int := if pl.length ≤ 400 then (if B (IdsR rs ps (pidsL pl)) = true then faultF rs ps top [] pl else -1) else 0
theorem fault_at (rs : List LSt) (ps : List LPr) (top : Int) (pl : List LPl) (k : Nat) (h : k < pl.length) : faultF rs ps top (pl.take k) (pl.drop k) = if goodB rs ps top (pl.take k) pl[k] = true then faultF rs ps top (pl.take (k + 1)) (pl.drop (k + 1)) else pl[k].1 := by
  rw [← List.getElem_cons_drop (h := h), List.take_succ_eq_append_getElem h]
  rfl
/-- The first k places are of small numbers. -/
def SmTo (pl : List LPl) (k : Nat) : Prop := ∀ p ∈ pl.take k, Small p
theorem SmTo.zero (pl : List LPl) : SmTo pl 0 := fun p hp => by simp at hp
theorem SmTo.step {pl : List LPl} {k : Nat} (h : SmTo pl k) (hk : k < pl.length) (g : Small pl[k]) : SmTo pl (k + 1) := fun p hp => by
  rw [List.take_succ_eq_append_getElem hk, List.mem_append] at hp
  rcases hp with hp | hp
  · exact h p hp
  · simp at hp; subst hp; exact g
theorem PlAt.take {w : World} {c o : Nat} {pl : List LPl} (h : PlAt w c o pl) (k : Nat) : PlAt w c o (pl.take k) :=
  ⟨h.lt, fun i hi => by
    have hi' : i < pl.length := by rw [List.length_take] at hi; omega
    rw [List.getElem_take]
    exact h.cell i hi'⟩
theorem ids_small {rs : List LSt} {ps : List LPr} {pl : List LPl} (h : IdsR rs ps (pidsL pl)) (p : LPl) (hp : p ∈ pl) : 1 ≤ p.1 ∧ p.1 ≤ 999 :=
  h.2.1.2.2.1.mem (h.2.2.2 p.1 (List.mem_map.2 ⟨p, hp, rfl⟩))
theorem faultA_bare {rs rs' : List LSt} (ps : List LPr) (top : Int) (pl : List LPl) (h : bareS rs = bareS rs') (hd : ∀ id, rs.flatMap (domF id top) = rs'.flatMap (domF id top)) (hb : B (IdsR rs ps (pidsL pl)) = B (IdsR rs' ps (pidsL pl))) : faultA rs ps top pl = faultA rs' ps top pl := by
  have hg : ∀ pre p, goodB rs ps top pre p = goodB rs' ps top pre p := fun pre p => by unfold goodB; rw [hd]
  have hf : ∀ r pre, faultF rs ps top pre r = faultF rs' ps top pre r := by
    intro r
    induction r with
    | nil => intro pre; rfl
    | cons p r ih => intro pre; unfold faultF; rw [hg, ih]
  unfold faultA
  rw [hb, hf]

theorem dom_len (rs : List LSt) (ps : List LPr) (id top : Int) (h : TabR rs ps) : (rs.flatMap (domF id top)).length ≤ 1048576 := by
  have h1 : ∀ l : List LSt, (∀ r ∈ l, r.2.2.2.length ≤ 8) → (l.flatMap (domF id top)).length ≤ 8 * l.length := by
    intro l
    induction l with
    | nil => intro _; simp
    | cons r t ih =>
      intro hl
      have a := ih (fun q hq => hl q (by simp [hq]))
      have b := hl r (by simp)
      have c : (domF id top r).length ≤ r.2.2.2.length := by
        unfold domF FF
        split
        · exact List.length_filter_le _ _
        · exact Nat.zero_le _
      rw [List.flatMap_cons, List.length_append, List.length_cons]
      omega
  have := h1 rs (fun r hr => (h.2.1 r hr).2.1.2)
  have := h.1.2.1
  omega

set_option maxRecDepth 100000 in
set_option maxHeartbeats 4000000 in
/-- impl.PlanFault. -/
theorem ipf_any (sl : Option Addr) (cap : Nat) (sl2 : Option Addr) (cap2 : Nat) (sl3 : Option Addr) (cap3 : Nat) (rs : List LSt) (ps : List LPr) (pl : List LPl) (top : Int) (w : World) (hn : rs.length ≤ 1048576) (hl : pl.length ≤ 1048576) (hz : Sts w sl rs) (hp : Prs w sl2 ps) (hw : ∀ p ∈ ps, WfP p) (hi : Pls w sl3 pl) (hc3 : pl.length ≤ cap3) :
    Calls Try.prog 26 #[TV sl rs.length cap sl2 ps.length cap2, .int .i64 top, .slice sl3 pl.length cap3] w fun e w' => e = .returned (.int .i64 (faultA rs ps top pl)) ∧ Below w.heap.size w w' := by
  have HT := Lib.hid (TabAt.new w sl rs.length cap sl2 ps.length cap2)
  have B0 := Lib.hid (bA0 w (.cells #[.slice sl rs.length cap, .slice sl2 ps.length cap2] 26))
  by_cases h4 : pl.length ≤ 400
  · have h4' : ¬ (400 : Int) < (pl.length : Int) := by omega
    have E1 : Hid (∀ W, Below w.heap.size w W → Calls Try.prog 11 #[.slice sl3 pl.length cap3] W fun e w' => ∃ v, e = .returned v ∧ w'.ownsRow W.heap.size 2 1 v (pidsL pl).length (valsZ (pidsL pl)) ∧ Below W.heap.size W w') := fun W hW => by
      have := ipi_any sl3 cap3 pl W (by unfold maxLen; omega) (hi.below hW)
      rwa [show pidsA pl = pidsL pl from if_pos h4] at this
    have E2 : Hid (∀ C v W, Below w.heap.size w W → World.ownsRow W C 2 1 v (pidsL pl).length (valsZ (pidsL pl)) → Calls Try.prog 22 #[TV sl rs.length cap sl2 ps.length cap2, v] W fun e w' => e = .returned (.bool (B (IdsR rs ps (pidsL pl)))) ∧ Below W.heap.size W w') := fun C v W hW o => by
      obtain ⟨s, k, rfl, i⟩ := own_ints o
      exact iir_any sl cap sl2 cap2 s k rs ps (pidsL pl) W hn (by rw [pidsL_len]; unfold maxLen; omega) (hz.below hW) (hp.below hW) hw i
    have hA : faultA rs ps top pl = if B (IdsR rs ps (pidsL pl)) = true then faultF rs ps top [] pl else -1 := if_pos h4
    rw [hA]
    cases hb : B (IdsR rs ps (pidsL pl)) with
    | false =>
      rw [hb] at E2
      rw [if_neg (by decide)]
      clear hA hb hz hp hw hi
      generalize (pidsL pl).length = q at *
      generalize valsZ (pidsL pl) = xs at *
      generalize rs.length = n at *
      generalize ps.length = m at *
      generalize pl.length = l at *
      go_enter Try.func26, Try.ntmps26
      go_wp2_with fail
      generalize w.alloc (.cells #[.slice sl n cap, .slice sl2 m cap2] 26) = w0 at *
      have KX : Hid (∀ W, Below w0.heap.size w0 W → w.heap.size < W.heap.size ∧ W.cell? ⟨w.heap.size, 0, none⟩ = some (.slice sl n cap) ∧ W.cell? ⟨w.heap.size, 1, none⟩ = some (.slice sl2 m cap2)) := fun W hW => ⟨(HT.out.below hW).lt, (HT.out.below hW).cells.1, (HT.out.below hW).cells.2⟩
      refine wp_region_held_drew (S := fun W => w.heap.size < W.heap.size ∧ W.cell? ⟨w.heap.size, 0, none⟩ = some (.slice sl n cap) ∧ W.cell? ⟨w.heap.size, 1, none⟩ = some (.slice sl2 m cap2)) (by kernel_rfl) ?_ (fun hHeld => ?_)
      · exact KX.out _ (Below.refl _ _).drew
      refine wpAnyH_take (i := 0) (oi := _) (v := ?_) rfl (by kernel_rfl) (by kernel_rfl) (by kernel_rfl) (fun _ _ _ h => h) (Or.inl ⟨by rfl, ?_⟩) (by assumption) ?_
      rotate_left
      · first | (intro w hSw; (try dsimp only at hSw); go_simp; done) | (intro w hSw; (try dsimp only at hSw); go_simp; with_reducible rfl)
      try simp only [Act.put, List.setIfInBounds_toArray, List.set_cons_zero, List.set_cons_succ, List.getElem_toArray, List.getElem_cons_zero]
      refine wpAnyH_take (i := 1) (oi := _) (v := ?_) rfl (by kernel_rfl) (by kernel_rfl) (by kernel_rfl) (fun _ _ _ h => h) (Or.inl ⟨by rfl, ?_⟩) (by assumption) ?_
      rotate_left
      · first | (intro w hSw; (try dsimp only at hSw); go_simp; done) | (intro w hSw; (try dsimp only at hSw); go_simp; with_reducible rfl)
      try simp only [Act.put, List.setIfInBounds_toArray, List.set_cons_zero, List.set_cons_succ, List.getElem_toArray, List.getElem_cons_succ, List.getElem_cons_zero]
      refine wpAnyH_ready (rs := [2]) (by kernel_rfl) (by simp) ?_
      refine AllReadyH.cons rfl (fun K hK => ?_) AllReadyH.nil
      go_simp
      go_wp2_with (go_at_call 11; refine (E1.out _ B0.out.drew).mono ?_; rintro e w2 ⟨v2, rfl, o2, b2⟩)
      have D2 : Hid (Below w0.heap.size w0 w2) := bT ((Below.refl w0.heap.size w0).drew) b2
      have O2 := Lib.hid o2
      clear b2 o2
      refine hK.out _ _ ?_ (fun hHeld => ?_)
      · exact KX.out _ D2.out
      clear hK K
      refine wpAnyH_ready (rs := [3]) (by kernel_rfl) (by simp) ?_
      refine AllReadyH.cons rfl (fun K hK => ?_) AllReadyH.nil
      go_simp
      go_wp2_with (go_at_call 22; refine (E2.out _ _ _ (bT B0.out D2.out) O2.out).mono ?_; rintro e w3 ⟨rfl, b3⟩)
      have D3 : Hid (Below w0.heap.size w0 w3) := bT D2.out b3
      clear b3
      refine hK.out _ _ ?_ (fun hHeld => ?_)
      · exact KX.out _ D3.out
      clear hK K
      refine wpAnyH_take (i := 4) (oi := _) (v := ?_) rfl (by kernel_rfl) (by kernel_rfl) (by kernel_rfl) (fun _ _ _ h => h) (Or.inl ⟨by rfl, ?_⟩) (by assumption) ?_
      rotate_left
      · first | (intro w hSw; (try dsimp only at hSw); go_simp; done) | (intro w hSw; (try dsimp only at hSw); go_simp; with_reducible rfl)
      try simp only [Act.put, List.setIfInBounds_toArray, List.set_cons_zero, List.set_cons_succ, List.getElem_toArray, List.getElem_cons_succ, List.getElem_cons_zero]
      refine wpAnyH_done (by kernel_rfl) ?_ _
      have D9 := Lib.hid (bT B0.out D3.out)
      clear D2 D3 KX O2
      go_wp2
      go_ret
      exact ⟨rfl, D9.out⟩
    | true =>
      rw [hb] at E2
      have IR := Lib.hid (B_true hb)
      rw [if_pos rfl]
      have TR := Lib.hid IR.out.2.1
      have hm40 := TR.out.1.2.2
      have E3 : Hid (∀ W, Below w.heap.size w W → Calls Try.prog 25 #[TV sl rs.length cap sl2 ps.length cap2] W fun e w' => ∃ kb, e = .returned (FV kb) ∧ FitsAt w' kb ps ∧ Below W.heap.size W w') := fun W hW => bi_any sl rs.length cap sl2 cap2 ps W (by omega) (hp.below hW) hw
      have E4 : Hid (∀ x W, Below w.heap.size w W → Calls Try.prog 37 #[TV sl rs.length cap sl2 ps.length cap2, .int .i64 x, .int .i64 top] W fun e w' => ∃ v, e = .returned v ∧ w'.ownsRow W.heap.size 2 1 v (rs.flatMap (domF x top)).length (valsZ (rs.flatMap (domF x top))) ∧ Below W.heap.size W w') := fun x W hW => din_any sl cap sl2 cap2 rs ps x top W (hz.below hW) TR.out
      have DL : Hid (∀ x, (rs.flatMap (domF x top)).length ≤ 1048576) := fun x => dom_len rs ps x top TR.out
      have E5 : Hid (∀ x c C v W, World.ownsRow W C 2 1 v (rs.flatMap (domF x top)).length (valsZ (rs.flatMap (domF x top))) → Calls Try.prog 36 #[v, .int .i64 c] W fun e w' => e = .returned (.bool (B (c ∈ rs.flatMap (domF x top)))) ∧ Below W.heap.size W w') := fun x c C v W o => by
        obtain ⟨s, k, rfl, i⟩ := own_ints o
        exact has_any s k c (rs.flatMap (domF x top)) W (DL.out x) i
      have HI := Lib.hid hi
      have HW := Lib.hid hw
      generalize hR : faultF rs ps top [] pl = r
      have HR := Lib.hid hR
      clear hA hb hz hp hw hi hR DL
      generalize (pidsL pl).length = q at *
      generalize valsZ (pidsL pl) = xs at *
      generalize rs.length = n at *
      generalize ps.length = m at *
      generalize hLL : pl.length = l at *
      have HL := Lib.hid hLL
      clear hLL
      go_enter Try.func26, Try.ntmps26
      go_wp2_with fail
      generalize w.alloc (.cells #[.slice sl n cap, .slice sl2 m cap2] 26) = w0 at *
      have KX : Hid (∀ W, Below w0.heap.size w0 W → w.heap.size < W.heap.size ∧ W.cell? ⟨w.heap.size, 0, none⟩ = some (.slice sl n cap) ∧ W.cell? ⟨w.heap.size, 1, none⟩ = some (.slice sl2 m cap2)) := fun W hW => ⟨(HT.out.below hW).lt, (HT.out.below hW).cells.1, (HT.out.below hW).cells.2⟩
      refine wp_region_held_drew (S := fun W => w.heap.size < W.heap.size ∧ W.cell? ⟨w.heap.size, 0, none⟩ = some (.slice sl n cap) ∧ W.cell? ⟨w.heap.size, 1, none⟩ = some (.slice sl2 m cap2)) (by kernel_rfl) ?_ (fun hHeld => ?_)
      · exact KX.out _ (Below.refl _ _).drew
      refine wpAnyH_take (i := 0) (oi := _) (v := ?_) rfl (by kernel_rfl) (by kernel_rfl) (by kernel_rfl) (fun _ _ _ h => h) (Or.inl ⟨by rfl, ?_⟩) (by assumption) ?_
      rotate_left
      · first | (intro w hSw; (try dsimp only at hSw); go_simp; done) | (intro w hSw; (try dsimp only at hSw); go_simp; with_reducible rfl)
      try simp only [Act.put, List.setIfInBounds_toArray, List.set_cons_zero, List.set_cons_succ, List.getElem_toArray, List.getElem_cons_zero]
      refine wpAnyH_take (i := 1) (oi := _) (v := ?_) rfl (by kernel_rfl) (by kernel_rfl) (by kernel_rfl) (fun _ _ _ h => h) (Or.inl ⟨by rfl, ?_⟩) (by assumption) ?_
      rotate_left
      · first | (intro w hSw; (try dsimp only at hSw); go_simp; done) | (intro w hSw; (try dsimp only at hSw); go_simp; with_reducible rfl)
      try simp only [Act.put, List.setIfInBounds_toArray, List.set_cons_zero, List.set_cons_succ, List.getElem_toArray, List.getElem_cons_succ, List.getElem_cons_zero]
      refine wpAnyH_ready (rs := [2]) (by kernel_rfl) (by simp) ?_
      refine AllReadyH.cons rfl (fun K hK => ?_) AllReadyH.nil
      go_simp
      go_wp2_with (go_at_call 11; refine (E1.out _ B0.out.drew).mono ?_; rintro e w2 ⟨v2, rfl, o2, b2⟩)
      have D2 : Hid (Below w0.heap.size w0 w2) := bT ((Below.refl w0.heap.size w0).drew) b2
      have O2 := Lib.hid o2
      clear b2 o2
      refine hK.out _ _ ?_ (fun hHeld => ?_)
      · exact KX.out _ D2.out
      clear hK K
      refine wpAnyH_ready (rs := [3]) (by kernel_rfl) (by simp) ?_
      refine AllReadyH.cons rfl (fun K hK => ?_) AllReadyH.nil
      go_simp
      go_wp2_with (go_at_call 22; refine (E2.out _ _ _ (bT B0.out D2.out) O2.out).mono ?_; rintro e w3 ⟨rfl, b3⟩)
      have D3 : Hid (Below w0.heap.size w0 w3) := bT D2.out b3
      clear b3
      refine hK.out _ _ ?_ (fun hHeld => ?_)
      · exact KX.out _ D3.out
      clear hK K
      refine wpAnyH_take (i := 4) (oi := _) (v := ?_) rfl (by kernel_rfl) (by kernel_rfl) (by kernel_rfl) (fun _ _ _ h => h) (Or.inl ⟨by rfl, ?_⟩) (by assumption) ?_
      rotate_left
      · first | (intro w hSw; (try dsimp only at hSw); go_simp; done) | (intro w hSw; (try dsimp only at hSw); go_simp; with_reducible rfl)
      try simp only [Act.put, List.setIfInBounds_toArray, List.set_cons_zero, List.set_cons_succ, List.getElem_toArray, List.getElem_cons_succ, List.getElem_cons_zero]
      refine wpAnyH_done (by kernel_rfl) ?_ _
      have D3' := Lib.hid (bT B0.out D3.out)
      have T3 := Lib.hid (HT.out.below D3.out)
      clear D2 D3 KX O2 E1 E2
      obtain ⟨t0, t1⟩ := T3.out.cells
      have tl := T3.out.lt
      go_wp2_with fail
      refine (E3.out _ D3'.out).mono ?_
      rintro e w4 ⟨kb, rfl, fk, b4⟩
      have D4 := Lib.hid (bT D3'.out b4)
      have T4 := Lib.hid (T3.out.below b4)
      have F4 := Lib.hid fk
      clear b4 fk T3 D3' E3 t0 t1 tl
      go_wp2
      go_loopw [22] (fun i wr => ∃ k : Nat, i = .int .i64 k ∧ k ≤ l ∧ Hid (SmTo pl k) ∧ Hid (r = faultF rs ps top (pl.take k) (pl.drop k)) ∧ Hid (Below w4.heap.size w4 wr)) (fun i _ => l - (intOf i).toNat)
      case atStart => exact ⟨0, rfl, Nat.zero_le _, SmTo.zero _, HR.out.symm, Below.refl _ _⟩
      case round =>
        obtain ⟨k, rfl, hk, SM, HM, H2⟩ := hrel
        have hk0 : (0 : Int) ≤ (k : Int) := by omega
        have DW := Lib.hid (bT D4.out H2.out)
        by_cases g1 : k < l
        · have g1' : (k : Int) < (l : Int) := by omega
          have hlt : k < pl.length := by rw [HL.out]; exact g1
          obtain ⟨g, o, rfl, Z0⟩ : ∃ c o, sl3 = some ⟨c, o, none⟩ ∧ PlAt w c o pl := by
            rcases HI.out with e | h
            · rw [e] at hlt; simp at hlt
            · exact h
          have p0 := (DW.out.cell Z0.lt).trans (Z0.cell k hlt).1
          have p1 := (DW.out.cell Z0.lt).trans (Z0.cell k hlt).2
          have IS := ids_small IR.out pl[k] (List.getElem_mem hlt)
          have FA := Lib.hid (HM.out.trans (fault_at rs ps top pl k hlt))
          have SS : Hid (Small pl[k] → SmTo pl (k + 1)) := fun h => SM.out.step hlt h
          have DS : Hid (pl[k].2 ∈ rs.flatMap (domF pl[k].1 top) → Small pl[k]) := fun h => by
            have := dom_small rs ps _ _ _ TR.out h
            exact ⟨by omega, by omega⟩
          obtain ⟨a, c, hpk⟩ : ∃ a c, pl[k] = (a, c) := ⟨_, _, rfl⟩
          rw [hpk] at p0 p1 IS FA SS DS
          dsimp only at p0 p1 IS FA DS
          have htk : (pl.take k).length = k := by rw [List.length_take]; omega
          have E6 : Hid (Small (a, c) → ∀ W, Below w.heap.size w W → FitsAt W kb ps → Calls Try.prog 39 #[.slice (some ⟨g, o, none⟩) k cap3, .agg #[.int .i64 a, .int .i64 c], .pointer (some ⟨kb, 0, none⟩)] W fun e w' => e = .returned (.bool ((pl.take k).all fun o => mayL ps o.1 o.2 a c)) ∧ Below W.heap.size W w') := fun sm W hW fk => by
            have := fit_any (some ⟨g, o, none⟩) cap3 (pl.take k) a c kb ps W (by omega) (.inr ⟨g, o, rfl, (Z0.take k).below hW⟩) SM.out sm HW.out fk
            rwa [htk, fit_may rs ps (pl.take k) (a, c) TR.out] at this
          have S5 := Lib.hid (show (wr.alloc (.cells #[.int .i64 a, .int .i64 c] 62)).heap[wr.heap.size]? = some (.cells #[.int .i64 a, .int .i64 c] 62) from new_at _ _)
          have G5 := Lib.hid (bA H2.out (.cells #[.int .i64 a, .int .i64 c] 62))
          have DV := Lib.hid (bA DW.out (.cells #[.int .i64 a, .int .i64 c] 62))
          clear hlt Z0 HM SM hpk htk
          have hck : (k : Int) ≤ (cap3 : Int) := by omega
          go_wp2_with fail
          obtain ⟨w5, e5⟩ : ∃ w5, w5 = wr.alloc (.cells #[.int .i64 a, .int .i64 c] 62) := ⟨_, rfl⟩
          rw [← e5] at S5 G5 DV ⊢
          obtain ⟨pb, eb⟩ : ∃ pb, pb = wr.heap.size := ⟨_, rfl⟩
          rw [← eb] at S5 ⊢
          clear e5 eb p0 p1
          have T5 := Lib.hid (T4.out.below G5.out)
          have FK := Lib.hid (F4.out.below G5.out)
          have KY : Hid (∀ W, Below w5.heap.size w5 W → w.heap.size < W.heap.size ∧ W.cell? ⟨w.heap.size, 0, none⟩ = some (.slice sl n cap) ∧ W.cell? ⟨w.heap.size, 1, none⟩ = some (.slice sl2 m cap2) ∧ pb < W.heap.size ∧ W.cell? ⟨pb, 0, none⟩ = some (.int .i64 a) ∧ W.cell? ⟨pb, 1, none⟩ = some (.int .i64 c)) := fun W hW => by
            have r1 := (T5.out.below hW).cells
            have hbk := (hW.block pb (Array.getElem?_eq_some_iff.1 S5.out).1).trans S5.out
            exact ⟨(T5.out.below hW).lt, r1.1, r1.2, (Array.getElem?_eq_some_iff.1 hbk).1, by simp [World.cell?, hbk], by simp [World.cell?, hbk]⟩
          have hk2 : (k : Int) ≤ (l : Int) := by omega
          cases hc : B (c ∈ rs.flatMap (domF a top)) with
          | false =>
            have R := Lib.hid (show r = a by rw [FA.out, if_neg]; unfold goodB; rw [hc]; simp)
            have E5' := Lib.hid (E5.out a c)
            rw [hc] at E5'
            clear FA hc E6 E5
            refine wp_region_held_drew (S := fun W => w.heap.size < W.heap.size ∧ W.cell? ⟨w.heap.size, 0, none⟩ = some (.slice sl n cap) ∧ W.cell? ⟨w.heap.size, 1, none⟩ = some (.slice sl2 m cap2) ∧ pb < W.heap.size ∧ W.cell? ⟨pb, 0, none⟩ = some (.int .i64 a) ∧ W.cell? ⟨pb, 1, none⟩ = some (.int .i64 c)) (by kernel_rfl) ?_ (fun hHeld => ?_)
            · exact KY.out _ (Below.refl _ _).drew
            refine wpAnyH_take (i := 0) (oi := _) (v := ?_) rfl (by kernel_rfl) (by kernel_rfl) (by kernel_rfl) (fun _ _ _ h => h) (Or.inl ⟨by rfl, ?_⟩) (by assumption) ?_
            rotate_left
            · first | (intro w hSw; (try dsimp only at hSw); go_simp; done) | (intro w hSw; (try dsimp only at hSw); go_simp; with_reducible rfl)
            try simp only [Act.put, List.setIfInBounds_toArray, List.set_cons_zero, List.set_cons_succ, List.getElem_toArray, List.getElem_cons_zero]
            refine wpAnyH_take (i := 1) (oi := _) (v := ?_) rfl (by kernel_rfl) (by kernel_rfl) (by kernel_rfl) (fun _ _ _ h => h) (Or.inl ⟨by rfl, ?_⟩) (by assumption) ?_
            rotate_left
            · first | (intro w hSw; (try dsimp only at hSw); go_simp; done) | (intro w hSw; (try dsimp only at hSw); go_simp; with_reducible rfl)
            try simp only [Act.put, List.setIfInBounds_toArray, List.set_cons_zero, List.set_cons_succ, List.getElem_toArray, List.getElem_cons_succ, List.getElem_cons_zero]
            refine wpAnyH_take (i := 2) (oi := _) (v := ?_) rfl (by kernel_rfl) (by kernel_rfl) (by kernel_rfl) (fun _ _ _ h => h) (Or.inl ⟨by rfl, ?_⟩) (by assumption) ?_
            rotate_left
            · first | (intro w hSw; (try dsimp only at hSw); go_simp; done) | (intro w hSw; (try dsimp only at hSw); go_simp; with_reducible rfl)
            try simp only [Act.put, List.setIfInBounds_toArray, List.set_cons_zero, List.set_cons_succ, List.getElem_toArray, List.getElem_cons_succ, List.getElem_cons_zero]
            refine wpAnyH_take (i := 3) (oi := _) (v := ?_) rfl (by kernel_rfl) (by kernel_rfl) (by kernel_rfl) (fun _ _ _ h => h) (Or.inl ⟨by rfl, ?_⟩) (by assumption) ?_
            rotate_left
            · first | (intro w hSw; (try dsimp only at hSw); go_simp; done) | (intro w hSw; (try dsimp only at hSw); go_simp; with_reducible rfl)
            try simp only [Act.put, List.setIfInBounds_toArray, List.set_cons_zero, List.set_cons_succ, List.getElem_toArray, List.getElem_cons_succ, List.getElem_cons_zero]
            refine wpAnyH_take (i := 5) (oi := _) (v := ?_) rfl (by kernel_rfl) (by kernel_rfl) (by kernel_rfl) (fun _ _ _ h => h) (Or.inl ⟨by rfl, ?_⟩) (by assumption) ?_
            rotate_left
            · first | (intro w hSw; (try dsimp only at hSw); go_simp; done) | (intro w hSw; (try dsimp only at hSw); go_simp; with_reducible rfl)
            try simp only [Act.put, List.setIfInBounds_toArray, List.set_cons_zero, List.set_cons_succ, List.getElem_toArray, List.getElem_cons_succ, List.getElem_cons_zero]
            refine wpAnyH_take (i := 6) (oi := _) (v := ?_) rfl (by kernel_rfl) (by kernel_rfl) (by kernel_rfl) (fun _ _ _ h => h) (Or.inl ⟨by rfl, ?_⟩) (by assumption) ?_
            rotate_left
            · first | (intro w hSw; (try dsimp only at hSw); go_simp; done) | (intro w hSw; (try dsimp only at hSw); go_simp; with_reducible rfl)
            try simp only [Act.put, List.setIfInBounds_toArray, List.set_cons_zero, List.set_cons_succ, List.getElem_toArray, List.getElem_cons_succ, List.getElem_cons_zero]
            refine wpAnyH_ready (rs := [4]) (by kernel_rfl) (by simp) ?_
            refine AllReadyH.cons rfl (fun K hK => ?_) AllReadyH.nil
            go_simp
            go_wp2_with (go_at_call 37; refine (E4.out a _ DV.out.drew).mono ?_; rintro e w6 ⟨v6, rfl, o6, b6⟩)
            have D6 : Hid (Below w5.heap.size w5 w6) := bT ((Below.refl w5.heap.size w5).drew) b6
            have O6 := Lib.hid o6
            clear b6 o6
            refine hK.out _ _ ?_ (fun hHeld => ?_)
            · exact KY.out _ D6.out
            clear hK K
            refine wpAnyH_ready (rs := [7]) (by kernel_rfl) (by simp) ?_
            refine AllReadyH.cons rfl (fun K hK => ?_) AllReadyH.nil
            go_simp
            go_wp2_with (go_at_call 36; refine (E5'.out _ _ _ O6.out).mono ?_; rintro e w7 ⟨rfl, b7⟩)
            have D7 : Hid (Below w5.heap.size w5 w7) := bT D6.out b7
            clear b7
            refine hK.out _ _ ?_ (fun hHeld => ?_)
            · exact KY.out _ D7.out
            clear hK K
            refine wpAnyH_take (i := 8) (oi := _) (v := ?_) rfl (by kernel_rfl) (by kernel_rfl) (by kernel_rfl) (fun _ _ _ h => h) (Or.inl ⟨by rfl, ?_⟩) (by assumption) ?_
            rotate_left
            · first | (intro w hSw; (try dsimp only at hSw); go_simp; done) | (intro w hSw; (try dsimp only at hSw); go_simp; with_reducible rfl)
            try simp only [Act.put, List.setIfInBounds_toArray, List.set_cons_zero, List.set_cons_succ, List.getElem_toArray, List.getElem_cons_succ, List.getElem_cons_zero]
            refine wpAnyH_take (i := 9) (oi := _) (v := ?_) rfl (by kernel_rfl) (by kernel_rfl) (by kernel_rfl) (fun _ _ _ h => h) (Or.inl ⟨by rfl, ?_⟩) (by assumption) ?_
            rotate_left
            · first | (intro w hSw; (try dsimp only at hSw); go_simp; done) | (intro w hSw; (try dsimp only at hSw); go_simp; with_reducible rfl)
            try simp only [Act.put, List.setIfInBounds_toArray, List.set_cons_zero, List.set_cons_succ, List.getElem_toArray, List.getElem_cons_succ, List.getElem_cons_zero]
            refine wpAnyH_take (i := 10) (oi := _) (v := undef) rfl (by kernel_rfl) (by kernel_rfl) (by kernel_rfl) (fun _ _ _ h => h) (Or.inr ⟨by rfl, rfl⟩) (by assumption) ?_
            try simp only [Act.put, List.setIfInBounds_toArray, List.set_cons_zero, List.set_cons_succ, List.getElem_toArray, List.getElem_cons_succ, List.getElem_cons_zero]
            refine wpAnyH_take (i := 11) (oi := _) (v := undef) rfl (by kernel_rfl) (by kernel_rfl) (by kernel_rfl) (fun _ _ _ h => h) (Or.inr ⟨by rfl, rfl⟩) (by assumption) ?_
            try simp only [Act.put, List.setIfInBounds_toArray, List.set_cons_zero, List.set_cons_succ, List.getElem_toArray, List.getElem_cons_succ, List.getElem_cons_zero]
            refine wpAnyH_take (i := 12) (oi := _) (v := undef) rfl (by kernel_rfl) (by kernel_rfl) (by kernel_rfl) (fun _ _ _ h => h) (Or.inr ⟨by rfl, rfl⟩) (by assumption) ?_
            try simp only [Act.put, List.setIfInBounds_toArray, List.set_cons_zero, List.set_cons_succ, List.getElem_toArray, List.getElem_cons_succ, List.getElem_cons_zero]
            refine wpAnyH_take (i := 13) (oi := _) (v := undef) rfl (by kernel_rfl) (by kernel_rfl) (by kernel_rfl) (fun _ _ _ h => h) (Or.inr ⟨by rfl, rfl⟩) (by assumption) ?_
            try simp only [Act.put, List.setIfInBounds_toArray, List.set_cons_zero, List.set_cons_succ, List.getElem_toArray, List.getElem_cons_succ, List.getElem_cons_zero]
            refine wpAnyH_take (i := 14) (oi := _) (v := undef) rfl (by kernel_rfl) (by kernel_rfl) (by kernel_rfl) (fun _ _ _ h => h) (Or.inr ⟨by rfl, rfl⟩) (by assumption) ?_
            try simp only [Act.put, List.setIfInBounds_toArray, List.set_cons_zero, List.set_cons_succ, List.getElem_toArray, List.getElem_cons_succ, List.getElem_cons_zero]
            refine wpAnyH_take (i := 15) (oi := _) (v := undef) rfl (by kernel_rfl) (by kernel_rfl) (by kernel_rfl) (fun _ _ _ h => h) (Or.inr ⟨by rfl, rfl⟩) (by assumption) ?_
            try simp only [Act.put, List.setIfInBounds_toArray, List.set_cons_zero, List.set_cons_succ, List.getElem_toArray, List.getElem_cons_succ, List.getElem_cons_zero]
            refine wpAnyH_take (i := 16) (oi := _) (v := undef) rfl (by kernel_rfl) (by kernel_rfl) (by kernel_rfl) (fun _ _ _ h => h) (Or.inr ⟨by rfl, rfl⟩) (by assumption) ?_
            try simp only [Act.put, List.setIfInBounds_toArray, List.set_cons_zero, List.set_cons_succ, List.getElem_toArray, List.getElem_cons_succ, List.getElem_cons_zero]
            refine wpAnyH_take (i := 17) (oi := _) (v := ?_) rfl (by kernel_rfl) (by kernel_rfl) (by kernel_rfl) (fun _ _ _ h => h) (Or.inl ⟨by rfl, ?_⟩) (by assumption) ?_
            rotate_left
            · first | (intro w hSw; (try dsimp only at hSw); go_simp; done) | (intro w hSw; (try dsimp only at hSw); go_simp; with_reducible rfl)
            try simp only [Act.put, List.setIfInBounds_toArray, List.set_cons_zero, List.set_cons_succ, List.getElem_toArray, List.getElem_cons_succ, List.getElem_cons_zero]
            refine wpAnyH_done (by kernel_rfl) ?_ _
            have D9 := Lib.hid (bT DV.out D7.out)
            have K9 := KY.out _ D7.out
            obtain ⟨-, -, -, k1, k2, k3⟩ := K9
            clear D6 D7 KY O6 HR
            go_wp2
            go_ret
            exact ⟨by rw [R.out]; rfl, D9.out⟩
          | true =>
            have SMA := Lib.hid (DS.out (B_true hc))
            have SM2 := Lib.hid (SS.out SMA.out)
            have E5' := Lib.hid (E5.out a c)
            rw [hc] at E5'
            have E6' := Lib.hid (E6.out SMA.out)
            clear E5 E6
            cases hv : (pl.take k).all (fun o => mayL ps o.1 o.2 a c) with
            | false =>
              have R := Lib.hid (show r = a by rw [FA.out, if_neg]; unfold goodB; dsimp only; rw [hc, hv]; simp)
              rw [hv] at E6'
              clear FA hc hv
              refine wp_region_held_drew (S := fun W => w.heap.size < W.heap.size ∧ W.cell? ⟨w.heap.size, 0, none⟩ = some (.slice sl n cap) ∧ W.cell? ⟨w.heap.size, 1, none⟩ = some (.slice sl2 m cap2) ∧ pb < W.heap.size ∧ W.cell? ⟨pb, 0, none⟩ = some (.int .i64 a) ∧ W.cell? ⟨pb, 1, none⟩ = some (.int .i64 c)) (by kernel_rfl) ?_ (fun hHeld => ?_)
              · exact KY.out _ (Below.refl _ _).drew
              refine wpAnyH_take (i := 0) (oi := _) (v := ?_) rfl (by kernel_rfl) (by kernel_rfl) (by kernel_rfl) (fun _ _ _ h => h) (Or.inl ⟨by rfl, ?_⟩) (by assumption) ?_
              rotate_left
              · first | (intro w hSw; (try dsimp only at hSw); go_simp; done) | (intro w hSw; (try dsimp only at hSw); go_simp; with_reducible rfl)
              try simp only [Act.put, List.setIfInBounds_toArray, List.set_cons_zero, List.set_cons_succ, List.getElem_toArray, List.getElem_cons_zero]
              refine wpAnyH_take (i := 1) (oi := _) (v := ?_) rfl (by kernel_rfl) (by kernel_rfl) (by kernel_rfl) (fun _ _ _ h => h) (Or.inl ⟨by rfl, ?_⟩) (by assumption) ?_
              rotate_left
              · first | (intro w hSw; (try dsimp only at hSw); go_simp; done) | (intro w hSw; (try dsimp only at hSw); go_simp; with_reducible rfl)
              try simp only [Act.put, List.setIfInBounds_toArray, List.set_cons_zero, List.set_cons_succ, List.getElem_toArray, List.getElem_cons_succ, List.getElem_cons_zero]
              refine wpAnyH_take (i := 2) (oi := _) (v := ?_) rfl (by kernel_rfl) (by kernel_rfl) (by kernel_rfl) (fun _ _ _ h => h) (Or.inl ⟨by rfl, ?_⟩) (by assumption) ?_
              rotate_left
              · first | (intro w hSw; (try dsimp only at hSw); go_simp; done) | (intro w hSw; (try dsimp only at hSw); go_simp; with_reducible rfl)
              try simp only [Act.put, List.setIfInBounds_toArray, List.set_cons_zero, List.set_cons_succ, List.getElem_toArray, List.getElem_cons_succ, List.getElem_cons_zero]
              refine wpAnyH_take (i := 3) (oi := _) (v := ?_) rfl (by kernel_rfl) (by kernel_rfl) (by kernel_rfl) (fun _ _ _ h => h) (Or.inl ⟨by rfl, ?_⟩) (by assumption) ?_
              rotate_left
              · first | (intro w hSw; (try dsimp only at hSw); go_simp; done) | (intro w hSw; (try dsimp only at hSw); go_simp; with_reducible rfl)
              try simp only [Act.put, List.setIfInBounds_toArray, List.set_cons_zero, List.set_cons_succ, List.getElem_toArray, List.getElem_cons_succ, List.getElem_cons_zero]
              refine wpAnyH_take (i := 5) (oi := _) (v := ?_) rfl (by kernel_rfl) (by kernel_rfl) (by kernel_rfl) (fun _ _ _ h => h) (Or.inl ⟨by rfl, ?_⟩) (by assumption) ?_
              rotate_left
              · first | (intro w hSw; (try dsimp only at hSw); go_simp; done) | (intro w hSw; (try dsimp only at hSw); go_simp; with_reducible rfl)
              try simp only [Act.put, List.setIfInBounds_toArray, List.set_cons_zero, List.set_cons_succ, List.getElem_toArray, List.getElem_cons_succ, List.getElem_cons_zero]
              refine wpAnyH_take (i := 6) (oi := _) (v := ?_) rfl (by kernel_rfl) (by kernel_rfl) (by kernel_rfl) (fun _ _ _ h => h) (Or.inl ⟨by rfl, ?_⟩) (by assumption) ?_
              rotate_left
              · first | (intro w hSw; (try dsimp only at hSw); go_simp; done) | (intro w hSw; (try dsimp only at hSw); go_simp; with_reducible rfl)
              try simp only [Act.put, List.setIfInBounds_toArray, List.set_cons_zero, List.set_cons_succ, List.getElem_toArray, List.getElem_cons_succ, List.getElem_cons_zero]
              refine wpAnyH_ready (rs := [4]) (by kernel_rfl) (by simp) ?_
              refine AllReadyH.cons rfl (fun K hK => ?_) AllReadyH.nil
              go_simp
              go_wp2_with (go_at_call 37; refine (E4.out a _ DV.out.drew).mono ?_; rintro e w6 ⟨v6, rfl, o6, b6⟩)
              have D6 : Hid (Below w5.heap.size w5 w6) := bT ((Below.refl w5.heap.size w5).drew) b6
              have O6 := Lib.hid o6
              clear b6 o6
              refine hK.out _ _ ?_ (fun hHeld => ?_)
              · exact KY.out _ D6.out
              clear hK K
              refine wpAnyH_ready (rs := [7]) (by kernel_rfl) (by simp) ?_
              refine AllReadyH.cons rfl (fun K hK => ?_) AllReadyH.nil
              go_simp
              go_wp2_with (go_at_call 36; refine (E5'.out _ _ _ O6.out).mono ?_; rintro e w7 ⟨rfl, b7⟩)
              have D7 : Hid (Below w5.heap.size w5 w7) := bT D6.out b7
              clear b7
              refine hK.out _ _ ?_ (fun hHeld => ?_)
              · exact KY.out _ D7.out
              clear hK K
              refine wpAnyH_take (i := 8) (oi := _) (v := ?_) rfl (by kernel_rfl) (by kernel_rfl) (by kernel_rfl) (fun _ _ _ h => h) (Or.inl ⟨by rfl, ?_⟩) (by assumption) ?_
              rotate_left
              · first | (intro w hSw; (try dsimp only at hSw); go_simp; done) | (intro w hSw; (try dsimp only at hSw); go_simp; with_reducible rfl)
              try simp only [Act.put, List.setIfInBounds_toArray, List.set_cons_zero, List.set_cons_succ, List.getElem_toArray, List.getElem_cons_succ, List.getElem_cons_zero]
              refine wpAnyH_take (i := 9) (oi := _) (v := ?_) rfl (by kernel_rfl) (by kernel_rfl) (by kernel_rfl) (fun _ _ _ h => h) (Or.inl ⟨by rfl, ?_⟩) (by assumption) ?_
              rotate_left
              · first | (intro w hSw; (try dsimp only at hSw); go_simp; done) | (intro w hSw; (try dsimp only at hSw); go_simp; with_reducible rfl)
              try simp only [Act.put, List.setIfInBounds_toArray, List.set_cons_zero, List.set_cons_succ, List.getElem_toArray, List.getElem_cons_succ, List.getElem_cons_zero]
              refine wpAnyH_take (i := 10) (oi := _) (v := ?_) rfl (by kernel_rfl) (by kernel_rfl) (by kernel_rfl) (fun _ _ _ h => h) (Or.inl ⟨by rfl, ?_⟩) (by assumption) ?_
              rotate_left
              · first | (intro w hSw; (try dsimp only at hSw); go_simp; done) | (intro w hSw; (try dsimp only at hSw); go_simp; with_reducible rfl)
              try simp only [Act.put, List.setIfInBounds_toArray, List.set_cons_zero, List.set_cons_succ, List.getElem_toArray, List.getElem_cons_succ, List.getElem_cons_zero]
              refine wpAnyH_take (i := 11) (oi := _) (v := ?_) rfl (by kernel_rfl) (by kernel_rfl) (by kernel_rfl) (fun _ _ _ h => h) (Or.inl ⟨by rfl, ?_⟩) (by assumption) ?_
              rotate_left
              · first | (intro w hSw; (try dsimp only at hSw); go_simp; done) | (intro w hSw; (try dsimp only at hSw); go_simp; with_reducible rfl)
              try simp only [Act.put, List.setIfInBounds_toArray, List.set_cons_zero, List.set_cons_succ, List.getElem_toArray, List.getElem_cons_succ, List.getElem_cons_zero]
              refine wpAnyH_take (i := 12) (oi := _) (v := ?_) rfl (by kernel_rfl) (by kernel_rfl) (by kernel_rfl) (fun _ _ _ h => h) (Or.inl ⟨by rfl, ?_⟩) (by assumption) ?_
              rotate_left
              · first | (intro w hSw; (try dsimp only at hSw); go_simp; done) | (intro w hSw; (try dsimp only at hSw); go_simp; with_reducible rfl)
              try simp only [Act.put, List.setIfInBounds_toArray, List.set_cons_zero, List.set_cons_succ, List.getElem_toArray, List.getElem_cons_succ, List.getElem_cons_zero]
              refine wpAnyH_take (i := 13) (oi := _) (v := ?_) rfl (by kernel_rfl) (by kernel_rfl) (by kernel_rfl) (fun _ _ _ h => h) (Or.inl ⟨by rfl, ?_⟩) (by assumption) ?_
              rotate_left
              · first | (intro w hSw; (try dsimp only at hSw); go_simp; done) | (intro w hSw; (try dsimp only at hSw); go_simp; with_reducible rfl)
              try simp only [Act.put, List.setIfInBounds_toArray, List.set_cons_zero, List.set_cons_succ, List.getElem_toArray, List.getElem_cons_succ, List.getElem_cons_zero]
              refine wpAnyH_take (i := 14) (oi := _) (v := ?_) rfl (by kernel_rfl) (by kernel_rfl) (by kernel_rfl) (fun _ _ _ h => h) (Or.inl ⟨by rfl, ?_⟩) (by assumption) ?_
              rotate_left
              · first | (intro w hSw; (try dsimp only at hSw); go_simp; done) | (intro w hSw; (try dsimp only at hSw); go_simp; with_reducible rfl)
              try simp only [Act.put, List.setIfInBounds_toArray, List.set_cons_zero, List.set_cons_succ, List.getElem_toArray, List.getElem_cons_succ, List.getElem_cons_zero]
              refine wpAnyH_ready (rs := [15]) (by kernel_rfl) (by simp) ?_
              refine AllReadyH.cons rfl (fun K hK => ?_) AllReadyH.nil
              go_simp
              go_wp2_with (go_at_call 39; refine (E6'.out _ (bT DV.out D7.out) (FK.out.below D7.out)).mono ?_; rintro e w8 ⟨rfl, b8⟩)
              have D8 : Hid (Below w5.heap.size w5 w8) := bT D7.out b8
              clear b8
              refine hK.out _ _ ?_ (fun hHeld => ?_)
              · exact KY.out _ D8.out
              clear hK K
              refine wpAnyH_take (i := 16) (oi := _) (v := ?_) rfl (by kernel_rfl) (by kernel_rfl) (by kernel_rfl) (fun _ _ _ h => h) (Or.inl ⟨by rfl, ?_⟩) (by assumption) ?_
              rotate_left
              · first | (intro w hSw; (try dsimp only at hSw); go_simp; done) | (intro w hSw; (try dsimp only at hSw); go_simp; with_reducible rfl)
              try simp only [Act.put, List.setIfInBounds_toArray, List.set_cons_zero, List.set_cons_succ, List.getElem_toArray, List.getElem_cons_succ, List.getElem_cons_zero]
              refine wpAnyH_take (i := 17) (oi := _) (v := ?_) rfl (by kernel_rfl) (by kernel_rfl) (by kernel_rfl) (fun _ _ _ h => h) (Or.inl ⟨by rfl, ?_⟩) (by assumption) ?_
              rotate_left
              · first | (intro w hSw; (try dsimp only at hSw); go_simp; done) | (intro w hSw; (try dsimp only at hSw); go_simp; with_reducible rfl)
              try simp only [Act.put, List.setIfInBounds_toArray, List.set_cons_zero, List.set_cons_succ, List.getElem_toArray, List.getElem_cons_succ, List.getElem_cons_zero]
              refine wpAnyH_done (by kernel_rfl) ?_ _
              have D9 := Lib.hid (bT DV.out D8.out)
              have K9 := KY.out _ D8.out
              obtain ⟨-, -, -, k1, k2, k3⟩ := K9
              clear D6 D7 D8 KY O6 HR
              go_wp2
              go_ret
              exact ⟨by rw [R.out]; rfl, D9.out⟩
            | true =>
              have HM2 := Lib.hid (show r = faultF rs ps top (pl.take (k + 1)) (pl.drop (k + 1)) by rw [FA.out, if_pos]; unfold goodB; dsimp only; rw [hc, hv]; rfl)
              rw [hv] at E6'
              clear FA hc hv
              refine wp_region_held_drew (S := fun W => w.heap.size < W.heap.size ∧ W.cell? ⟨w.heap.size, 0, none⟩ = some (.slice sl n cap) ∧ W.cell? ⟨w.heap.size, 1, none⟩ = some (.slice sl2 m cap2) ∧ pb < W.heap.size ∧ W.cell? ⟨pb, 0, none⟩ = some (.int .i64 a) ∧ W.cell? ⟨pb, 1, none⟩ = some (.int .i64 c)) (by kernel_rfl) ?_ (fun hHeld => ?_)
              · exact KY.out _ (Below.refl _ _).drew
              refine wpAnyH_take (i := 0) (oi := _) (v := ?_) rfl (by kernel_rfl) (by kernel_rfl) (by kernel_rfl) (fun _ _ _ h => h) (Or.inl ⟨by rfl, ?_⟩) (by assumption) ?_
              rotate_left
              · first | (intro w hSw; (try dsimp only at hSw); go_simp; done) | (intro w hSw; (try dsimp only at hSw); go_simp; with_reducible rfl)
              try simp only [Act.put, List.setIfInBounds_toArray, List.set_cons_zero, List.set_cons_succ, List.getElem_toArray, List.getElem_cons_zero]
              refine wpAnyH_take (i := 1) (oi := _) (v := ?_) rfl (by kernel_rfl) (by kernel_rfl) (by kernel_rfl) (fun _ _ _ h => h) (Or.inl ⟨by rfl, ?_⟩) (by assumption) ?_
              rotate_left
              · first | (intro w hSw; (try dsimp only at hSw); go_simp; done) | (intro w hSw; (try dsimp only at hSw); go_simp; with_reducible rfl)
              try simp only [Act.put, List.setIfInBounds_toArray, List.set_cons_zero, List.set_cons_succ, List.getElem_toArray, List.getElem_cons_succ, List.getElem_cons_zero]
              refine wpAnyH_take (i := 2) (oi := _) (v := ?_) rfl (by kernel_rfl) (by kernel_rfl) (by kernel_rfl) (fun _ _ _ h => h) (Or.inl ⟨by rfl, ?_⟩) (by assumption) ?_
              rotate_left
              · first | (intro w hSw; (try dsimp only at hSw); go_simp; done) | (intro w hSw; (try dsimp only at hSw); go_simp; with_reducible rfl)
              try simp only [Act.put, List.setIfInBounds_toArray, List.set_cons_zero, List.set_cons_succ, List.getElem_toArray, List.getElem_cons_succ, List.getElem_cons_zero]
              refine wpAnyH_take (i := 3) (oi := _) (v := ?_) rfl (by kernel_rfl) (by kernel_rfl) (by kernel_rfl) (fun _ _ _ h => h) (Or.inl ⟨by rfl, ?_⟩) (by assumption) ?_
              rotate_left
              · first | (intro w hSw; (try dsimp only at hSw); go_simp; done) | (intro w hSw; (try dsimp only at hSw); go_simp; with_reducible rfl)
              try simp only [Act.put, List.setIfInBounds_toArray, List.set_cons_zero, List.set_cons_succ, List.getElem_toArray, List.getElem_cons_succ, List.getElem_cons_zero]
              refine wpAnyH_take (i := 5) (oi := _) (v := ?_) rfl (by kernel_rfl) (by kernel_rfl) (by kernel_rfl) (fun _ _ _ h => h) (Or.inl ⟨by rfl, ?_⟩) (by assumption) ?_
              rotate_left
              · first | (intro w hSw; (try dsimp only at hSw); go_simp; done) | (intro w hSw; (try dsimp only at hSw); go_simp; with_reducible rfl)
              try simp only [Act.put, List.setIfInBounds_toArray, List.set_cons_zero, List.set_cons_succ, List.getElem_toArray, List.getElem_cons_succ, List.getElem_cons_zero]
              refine wpAnyH_take (i := 6) (oi := _) (v := ?_) rfl (by kernel_rfl) (by kernel_rfl) (by kernel_rfl) (fun _ _ _ h => h) (Or.inl ⟨by rfl, ?_⟩) (by assumption) ?_
              rotate_left
              · first | (intro w hSw; (try dsimp only at hSw); go_simp; done) | (intro w hSw; (try dsimp only at hSw); go_simp; with_reducible rfl)
              try simp only [Act.put, List.setIfInBounds_toArray, List.set_cons_zero, List.set_cons_succ, List.getElem_toArray, List.getElem_cons_succ, List.getElem_cons_zero]
              refine wpAnyH_ready (rs := [4]) (by kernel_rfl) (by simp) ?_
              refine AllReadyH.cons rfl (fun K hK => ?_) AllReadyH.nil
              go_simp
              go_wp2_with (go_at_call 37; refine (E4.out a _ DV.out.drew).mono ?_; rintro e w6 ⟨v6, rfl, o6, b6⟩)
              have D6 : Hid (Below w5.heap.size w5 w6) := bT ((Below.refl w5.heap.size w5).drew) b6
              have O6 := Lib.hid o6
              clear b6 o6
              refine hK.out _ _ ?_ (fun hHeld => ?_)
              · exact KY.out _ D6.out
              clear hK K
              refine wpAnyH_ready (rs := [7]) (by kernel_rfl) (by simp) ?_
              refine AllReadyH.cons rfl (fun K hK => ?_) AllReadyH.nil
              go_simp
              go_wp2_with (go_at_call 36; refine (E5'.out _ _ _ O6.out).mono ?_; rintro e w7 ⟨rfl, b7⟩)
              have D7 : Hid (Below w5.heap.size w5 w7) := bT D6.out b7
              clear b7
              refine hK.out _ _ ?_ (fun hHeld => ?_)
              · exact KY.out _ D7.out
              clear hK K
              refine wpAnyH_take (i := 8) (oi := _) (v := ?_) rfl (by kernel_rfl) (by kernel_rfl) (by kernel_rfl) (fun _ _ _ h => h) (Or.inl ⟨by rfl, ?_⟩) (by assumption) ?_
              rotate_left
              · first | (intro w hSw; (try dsimp only at hSw); go_simp; done) | (intro w hSw; (try dsimp only at hSw); go_simp; with_reducible rfl)
              try simp only [Act.put, List.setIfInBounds_toArray, List.set_cons_zero, List.set_cons_succ, List.getElem_toArray, List.getElem_cons_succ, List.getElem_cons_zero]
              refine wpAnyH_take (i := 9) (oi := _) (v := ?_) rfl (by kernel_rfl) (by kernel_rfl) (by kernel_rfl) (fun _ _ _ h => h) (Or.inl ⟨by rfl, ?_⟩) (by assumption) ?_
              rotate_left
              · first | (intro w hSw; (try dsimp only at hSw); go_simp; done) | (intro w hSw; (try dsimp only at hSw); go_simp; with_reducible rfl)
              try simp only [Act.put, List.setIfInBounds_toArray, List.set_cons_zero, List.set_cons_succ, List.getElem_toArray, List.getElem_cons_succ, List.getElem_cons_zero]
              refine wpAnyH_take (i := 10) (oi := _) (v := ?_) rfl (by kernel_rfl) (by kernel_rfl) (by kernel_rfl) (fun _ _ _ h => h) (Or.inl ⟨by rfl, ?_⟩) (by assumption) ?_
              rotate_left
              · first | (intro w hSw; (try dsimp only at hSw); go_simp; done) | (intro w hSw; (try dsimp only at hSw); go_simp; with_reducible rfl)
              try simp only [Act.put, List.setIfInBounds_toArray, List.set_cons_zero, List.set_cons_succ, List.getElem_toArray, List.getElem_cons_succ, List.getElem_cons_zero]
              refine wpAnyH_take (i := 11) (oi := _) (v := ?_) rfl (by kernel_rfl) (by kernel_rfl) (by kernel_rfl) (fun _ _ _ h => h) (Or.inl ⟨by rfl, ?_⟩) (by assumption) ?_
              rotate_left
              · first | (intro w hSw; (try dsimp only at hSw); go_simp; done) | (intro w hSw; (try dsimp only at hSw); go_simp; with_reducible rfl)
              try simp only [Act.put, List.setIfInBounds_toArray, List.set_cons_zero, List.set_cons_succ, List.getElem_toArray, List.getElem_cons_succ, List.getElem_cons_zero]
              refine wpAnyH_take (i := 12) (oi := _) (v := ?_) rfl (by kernel_rfl) (by kernel_rfl) (by kernel_rfl) (fun _ _ _ h => h) (Or.inl ⟨by rfl, ?_⟩) (by assumption) ?_
              rotate_left
              · first | (intro w hSw; (try dsimp only at hSw); go_simp; done) | (intro w hSw; (try dsimp only at hSw); go_simp; with_reducible rfl)
              try simp only [Act.put, List.setIfInBounds_toArray, List.set_cons_zero, List.set_cons_succ, List.getElem_toArray, List.getElem_cons_succ, List.getElem_cons_zero]
              refine wpAnyH_take (i := 13) (oi := _) (v := ?_) rfl (by kernel_rfl) (by kernel_rfl) (by kernel_rfl) (fun _ _ _ h => h) (Or.inl ⟨by rfl, ?_⟩) (by assumption) ?_
              rotate_left
              · first | (intro w hSw; (try dsimp only at hSw); go_simp; done) | (intro w hSw; (try dsimp only at hSw); go_simp; with_reducible rfl)
              try simp only [Act.put, List.setIfInBounds_toArray, List.set_cons_zero, List.set_cons_succ, List.getElem_toArray, List.getElem_cons_succ, List.getElem_cons_zero]
              refine wpAnyH_take (i := 14) (oi := _) (v := ?_) rfl (by kernel_rfl) (by kernel_rfl) (by kernel_rfl) (fun _ _ _ h => h) (Or.inl ⟨by rfl, ?_⟩) (by assumption) ?_
              rotate_left
              · first | (intro w hSw; (try dsimp only at hSw); go_simp; done) | (intro w hSw; (try dsimp only at hSw); go_simp; with_reducible rfl)
              try simp only [Act.put, List.setIfInBounds_toArray, List.set_cons_zero, List.set_cons_succ, List.getElem_toArray, List.getElem_cons_succ, List.getElem_cons_zero]
              refine wpAnyH_ready (rs := [15]) (by kernel_rfl) (by simp) ?_
              refine AllReadyH.cons rfl (fun K hK => ?_) AllReadyH.nil
              go_simp
              go_wp2_with (go_at_call 39; refine (E6'.out _ (bT DV.out D7.out) (FK.out.below D7.out)).mono ?_; rintro e w8 ⟨rfl, b8⟩)
              have D8 : Hid (Below w5.heap.size w5 w8) := bT D7.out b8
              clear b8
              refine hK.out _ _ ?_ (fun hHeld => ?_)
              · exact KY.out _ D8.out
              clear hK K
              refine wpAnyH_take (i := 16) (oi := _) (v := ?_) rfl (by kernel_rfl) (by kernel_rfl) (by kernel_rfl) (fun _ _ _ h => h) (Or.inl ⟨by rfl, ?_⟩) (by assumption) ?_
              rotate_left
              · first | (intro w hSw; (try dsimp only at hSw); go_simp; done) | (intro w hSw; (try dsimp only at hSw); go_simp; with_reducible rfl)
              try simp only [Act.put, List.setIfInBounds_toArray, List.set_cons_zero, List.set_cons_succ, List.getElem_toArray, List.getElem_cons_succ, List.getElem_cons_zero]
              refine wpAnyH_take (i := 17) (oi := _) (v := ?_) rfl (by kernel_rfl) (by kernel_rfl) (by kernel_rfl) (fun _ _ _ h => h) (Or.inl ⟨by rfl, ?_⟩) (by assumption) ?_
              rotate_left
              · first | (intro w hSw; (try dsimp only at hSw); go_simp; done) | (intro w hSw; (try dsimp only at hSw); go_simp; with_reducible rfl)
              try simp only [Act.put, List.setIfInBounds_toArray, List.set_cons_zero, List.set_cons_succ, List.getElem_toArray, List.getElem_cons_succ, List.getElem_cons_zero]
              refine wpAnyH_done (by kernel_rfl) ?_ _
              have G9 := Lib.hid (bT G5.out D8.out)
              clear D6 D7 D8 KY O6 HR
              go_wp2
              go_roundw
              case rel => exact ⟨k + 1, by go_num, by omega, SM2, HM2, G9⟩
              case measure => simp [intOf]; omega
        · have g1' : ¬ (k : Int) < (l : Int) := by omega
          have R := Lib.hid (show r = 0 by rw [HM.out, List.drop_eq_nil_of_le (by rw [HL.out]; omega)]; rfl)
          clear HM SM
          go_wp2
          go_ret
          exact ⟨by rw [R.out]; rfl, DW.out⟩
  · have h4' : (400 : Int) < (pl.length : Int) := by omega
    rw [show faultA rs ps top pl = 0 from if_neg h4]
    clear hz hp hw hi
    generalize rs.length = n at *
    generalize ps.length = m at *
    generalize pl.length = l at *
    go_enter Try.func26, Try.ntmps26
    go_wp2
    go_ret
    exact ⟨rfl, B0.out⟩

end Go.Proofs.Ytgfclllfkpblnaa
