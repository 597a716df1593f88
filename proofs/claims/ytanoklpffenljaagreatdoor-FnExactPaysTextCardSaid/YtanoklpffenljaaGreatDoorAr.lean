/-
  THE LAWS' TABLES, copied: whose memory the copies are.
-/
import Derived.Test.YtanoklpffenljaaGreatDoorAo
namespace Go.Proofs.YtanoklpffenljaaGreatDoor
open Go.RowKit
set_option linter.unusedVariables false

/-- The numbers zs, in a block of their own. -/
def RowZ (w : World) (g : Nat) (zs : List Int) : Prop := RowAt w g (vsOf zs zs.length)
theorem RowZ.lt {w : World} {g : Nat} {zs : List Int} (h : RowZ w g zs) : g < w.heap.size := RowAt.lt h
theorem RowZ.below {w w' : World} {g : Nat} {zs : List Int} (h : RowZ w g zs) (hb : Below w.heap.size w w') : RowZ w' g zs := (hb.block g h.lt).trans h
theorem RowZ.set {w : World} {c : Nat} {zs : List Int} (h : RowZ w c zs) {b : Nat} (hb : c ≠ b) (i : Nat) (v : Value) : RowZ (w.setCell ⟨b, i, none⟩ v) c zs := (Below.heap_setCell _ _ _ _ hb).trans h
theorem RowZ.ints {w : World} {g : Nat} {zs : List Int} (h : RowZ w g zs) : Ints w (some ⟨g, 0, none⟩) zs := .inr ⟨g, 0, rfl, RowAt.ints h (Nat.le_refl _)⟩

set_option maxHeartbeats 400000 in
theorem toO_nil (sl : Option Addr) (cap : Nat) (w : World) :
    Calls Tryz.prog 37 #[.slice sl 0 cap] w fun e w' => e = .returned (.slice (some ⟨w.heap.size, 0, none⟩) 0 0) ∧ RowZ w' w.heap.size [] ∧ Below w.heap.size w w' := by
  have hmk : ∀ w : World, Sem.run Tryz.prog (Instr.makeSlice 43 (.int .i64 0) (.int .i64 0)) w = .ok (.slice (some ⟨w.heap.size, 0, none⟩) 0 0) (w.alloc (.cells (mk64 0) 2)) := fun w => make64 0 (by omega) w
  have P := Lib.hid (show RowZ (w.alloc (.cells (mk64 0) 2)) w.heap.size [] by unfold RowZ RowAt; rw [new_at, show mk64 0 = vsOf [] ([] : List Int).length from mk64_eq []])
  go_enter Tryz.func37, Tryz.ntmps37
  go_wp2
  refine wp_loop_rounds 1 ?_
  rw [rounds_succ]
  go_wp2
  go_ret
  exact ⟨rfl, P.out, bA0 _ _⟩

set_option maxHeartbeats 1000000 in
theorem toO_some (c o cap : Nat) (zs : List Int) (w : World) (hn : zs.length ≤ 1048576) (hz : IntsAt w c o zs) :
    Calls Tryz.prog 37 #[.slice (some ⟨c, o, none⟩) zs.length cap] w fun e w' => e = .returned (.slice (some ⟨w.heap.size, 0, none⟩) zs.length zs.length) ∧ RowZ w' w.heap.size zs ∧ Below w.heap.size w w' := by
  have hmk := make64 zs.length hn
  have HZ : Hid (IntsAt w c o zs) := hz
  have HK : Hid (mk64 zs.length = vsOf zs 0) := mk64_eq zs
  clear hz
  generalize hN : zs.length = n at *
  have HN : Hid (zs.length = n) := hN
  clear hN
  go_enter Tryz.func37, Tryz.ntmps37
  go_wp2
  go_loopw [4] (fun i wr => ∃ (k : Nat), i = .int .i64 k ∧ k ≤ n ∧ Hid (Below w.heap.size w wr) ∧ Hid (RowAt wr w.heap.size (vsOf zs k))) (fun i _ => n - (intOf i).toNat)
  case atStart =>
    refine ⟨0, rfl, Nat.zero_le _, bA0 _ _, ?_⟩
    show (w.heap.push _)[w.heap.size]? = _
    simp [HK.out]
  case round =>
    obtain ⟨k, rfl, hk, H3, H4⟩ := hrel
    have hk0 : (0 : Int) ≤ (k : Int) := by omega
    by_cases h1 : k < n
    · have h1' : (k : Int) < (n : Int) := by omega
      have hlt : k < zs.length := by rw [HN.out]; exact h1
      have hc : wr.cell? ⟨c, o + k, none⟩ = some (.int .i64 (zs.getD k 0)) := by
        rw [H3.out.cell HZ.out.1]; exact HZ.out.2 k hlt
      have hd : wr.cell? ⟨w.heap.size, k, none⟩ = some (.int .i64 0) := by rw [H4.out.cell]; exact vs_at zs k hlt
      have hf := H4.out.frozen k
      have H5 : Hid (RowAt (wr.setCell ⟨w.heap.size, k, none⟩ (.int .i64 (zs.getD k 0))) w.heap.size (vsOf zs (k + 1))) := by
        show RowAt _ _ _
        rw [← vs_step zs k hlt]; exact H4.out.set k _
      clear hlt
      generalize zs.getD k 0 = z at *
      go_wp2
      go_roundw
      case rel => exact ⟨k + 1, by go_num, by omega, H3.out.setCell (Nat.le_refl _) _, H5⟩
      case measure => simp [intOf]; omega
    · have h1' : ¬ (k : Int) < (n : Int) := by omega
      have H6 : Hid (RowZ wr w.heap.size zs) := by
        have := H4.out
        rwa [show k = zs.length by rw [HN.out]; omega] at this
      go_wp2
      go_ret
      exact ⟨rfl, H6.out, H3.out⟩

theorem toO_any (sl : Option Addr) (cap : Nat) (zs : List Int) (w : World) (hn : zs.length ≤ 1048576) (hz : Ints w sl zs) :
    Calls Tryz.prog 37 #[.slice sl zs.length cap] w fun e w' => e = .returned (.slice (some ⟨w.heap.size, 0, none⟩) zs.length zs.length) ∧ RowZ w' w.heap.size zs ∧ Below w.heap.size w w' := by
  rcases hz with rfl | ⟨c, o, rfl, h⟩
  · exact toO_nil sl cap w
  · exact toO_some c o cap zs w hn h

set_option maxRecDepth 100000 in
set_option maxHeartbeats 1000000 in
theorem toSO_any (x y : Int) (sl : Option Addr) (cap : Nat) (zs : List Int) (w : World) (hn : zs.length ≤ 1048576) (hz : Ints w sl zs) :
    Calls Tryz.prog 94 #[SV x y sl zs.length cap] w fun e w' => ∃ g, e = .returned (SV x y (some ⟨g, 0, none⟩) zs.length zs.length) ∧ RowZ w' g zs ∧ w.heap.size ≤ g ∧ Below w.heap.size w w' := by
  have T : Hid (∀ w1, Below w.heap.size w w1 → Calls Tryz.prog 37 #[.slice sl zs.length cap] w1 fun e w' => e = .returned (.slice (some ⟨w1.heap.size, 0, none⟩) zs.length zs.length) ∧ RowZ w' w1.heap.size zs ∧ Below w1.heap.size w1 w') :=
    fun w1 hb => toO_any sl cap zs w1 hn (hz.below hb)
  clear hz
  generalize zs.length = n at *
  go_enter Tryz.func94, Tryz.ntmps94
  go_wp2_with fail
  refine (T.out _ (bA (bA (bA0 _ _) _) _)).mono ?_
  rintro e w1 ⟨rfl, hi, hb⟩
  obtain ⟨hc, hf⟩ := bcell hb; have hz := hb.size; simp at hz hi
  have HI : Hid (RowZ w1 (w.heap.size + 1 + 1 + 1) zs) := hi
  clear hi
  go_wp2
  refine bodyPost_ret (v := SV x y (some ⟨w.heap.size + 3, 0, none⟩) n n) (by simp [results, Tryz.results94, go_sem, hc]) rfl ⟨w.heap.size + 3, rfl, ?_, by omega, ?_⟩
  · exact ((((HI.out.set (b := w.heap.size + 1 + 1) (by omega) _ _).set (b := w.heap.size + 1) (by omega) _ _).set (b := w.heap.size + 1) (by omega) _ _).set (b := w.heap.size + 1) (by omega) _ _)
  · exact ((((bT (bA (bA (bA0 _ _) _) _) hb).setCell (Nat.le_add_right _ 2) _).setCell (Nat.le_add_right _ 1) _).setCell (Nat.le_add_right _ 1) _).setCell (Nat.le_add_right _ 1) _

/-- A station whose Domain has memory of its own, above block b. -/
def DomOwn (b : Nat) (w : World) (r : LSt) : Prop := ∃ g, r.2.2.1 = .slice (some ⟨g, 0, none⟩) r.2.2.2.length r.2.2.2.length ∧ RowZ w g r.2.2.2 ∧ b < g ∧ r.2.2.2.length ≤ 1048576
theorem DomOwn.below {b : Nat} {w w' : World} {r : LSt} (h : DomOwn b w r) (hb : Below w.heap.size w w') : DomOwn b w' r := by
  obtain ⟨g, e, hi, hg, hl⟩ := h
  exact ⟨g, e, hi.below hb, hg, hl⟩
theorem DomOwn.set {b : Nat} {w : World} {r : LSt} (h : DomOwn b w r) (i : Nat) (v : Value) : DomOwn b (w.setCell ⟨b, i, none⟩ v) r := by
  obtain ⟨g, e, hi, hg, hl⟩ := h
  exact ⟨g, e, hi.set (Nat.ne_of_gt hg) i v, hg, hl⟩
theorem DomOwn.din {b : Nat} {w : World} {r : LSt} (h : DomOwn b w r) : DomIn w r := by
  obtain ⟨g, e, hi, hg, hl⟩ := h
  exact ⟨_, _, e, hi.ints, hl⟩

set_option maxRecDepth 100000 in
set_option maxHeartbeats 1000000 in
theorem toSSO_any (sl : Option Addr) (cap : Nat) (rs : List LSt) (w : World) (hn : rs.length ≤ 1048576) (hz : Sts w sl rs) :
    Calls Tryz.prog 57 #[.slice sl rs.length cap] w fun e w' => ∃ rs' : List LSt, e = .returned (.slice (some ⟨w.heap.size, 0, none⟩) rs.length rs.length) ∧ bareS rs' = bareS rs ∧ Row3 w' w.heap.size 87 rs.length (rs'.map stT) ∧ (∀ r ∈ rs', DomOwn w.heap.size w' r) ∧ Below w.heap.size w w' := by
  have HZ := Lib.hid hz
  clear hz
  obtain ⟨vs, hmk, hr0⟩ := make54 rs.length hn w
  have R0 := Lib.hid hr0
  clear hr0
  generalize hN : rs.length = n at *
  have HN := Lib.hid hN
  clear hN
  go_enter Tryz.func57, Tryz.ntmps57
  go_wp2
  go_loopw [4] (fun i wr => ∃ (k : Nat) (rs' : List LSt), i = .int .i64 k ∧ k ≤ n ∧ Hid (bareS rs' = bareS (rs.take k)) ∧ Hid (Row3 wr w.heap.size 87 n (rs'.map stT)) ∧ Hid (∀ r ∈ rs', DomOwn w.heap.size wr r) ∧ Hid (Below w.heap.size w wr)) (fun i _ => n - (intOf i).toNat)
  case atStart => exact ⟨0, [], rfl, Nat.zero_le _, rfl, R0, (fun r hr => by cases hr), bA0 _ _⟩
  case round =>
    obtain ⟨k, rs', rfl, hk, EB, R1, DO, H2⟩ := hrel
    have hk0 : (0 : Int) ≤ (k : Int) := by omega
    by_cases c1 : k < n
    · have c1' : (k : Int) < (n : Int) := by omega
      have hlt : k < rs.length := by rw [HN.out]; exact c1
      obtain ⟨c, o, rfl, Z0⟩ : ∃ c o, sl = some ⟨c, o, none⟩ ∧ StAt w c o rs := by
        rcases HZ.out.row with e | h
        · rw [e] at hlt; simp at hlt
        · exact h
      have hc0 := (H2.out.cell Z0.lt).trans (Z0.cell k hlt).1
      have hc1 := (H2.out.cell Z0.lt).trans (Z0.cell k hlt).2.1
      have hc2 := (H2.out.cell Z0.lt).trans (Z0.cell k hlt).2.2
      obtain ⟨sld, capd, ed, hi, hdl⟩ := (HZ.out.dom rs[k] (List.getElem_mem hlt)).below (show Below w.heap.size w wr from H2.out)
      obtain ⟨x, y, v, zs, hp⟩ : ∃ x y v zs, rs[k] = (x, y, v, zs) := ⟨_, _, _, _, rfl⟩
      rw [hp] at hc0 hc1 hc2 ed hi hdl
      dsimp only at hc0 hc1 hc2 ed hi hdl
      rw [ed] at hc2
      have EBn := Lib.hid (show ∀ v', bareS (rs' ++ [(x, y, v', zs)]) = bareS (rs.take (k + 1)) by
        intro v'
        rw [List.take_add_one, List.getElem?_eq_getElem hlt, hp]
        have := EB.out
        unfold bareS at this ⊢
        rw [List.map_append, this]
        simp)
      have LT := Lib.hid (show k = (rs'.map stT).length by
        have := congrArg List.length EB.out
        simp only [bareS, List.length_map, List.length_take] at this ⊢
        omega)
      have LN := Lib.hid (show (rs'.map stT).length < n by rw [← LT.out]; exact c1)
      have E := Lib.hid (toSO_any x y sld capd zs wr hdl hi)
      have HDL := Lib.hid hdl
      have hws := H2.out.size
      clear hp hlt ed hi hdl
      generalize hq : zs.length = q at *
      have HQ := Lib.hid hq
      clear hq
      go_wp2_with fail
      refine E.out.mono ?_
      rintro e w5 ⟨g, rfl, i5, hg5, b5⟩
      have D5 := Lib.hid (bT H2.out b5)
      have R5 := Lib.hid (R1.out.below b5)
      have hb1 := R1.out.lt
      obtain ⟨⟨v0, g0⟩, f0⟩ := R5.out.there (k * 3) (by omega)
      obtain ⟨⟨v1, g1⟩, f1⟩ := R5.out.there (k * 3 + 1) (by omega)
      obtain ⟨⟨v2, g2⟩, f2⟩ := R5.out.there (k * 3 + 2) (by omega)
      have R6 := Lib.hid (R5.out.step LN.out (.int .i64 x) (.int .i64 y) (.slice (some ⟨g, 0, none⟩) q q) k LT.out)
      have D6 : Hid (Below w.heap.size w (((w5.setCell ⟨w.heap.size, k * 3, none⟩ (.int .i64 x)).setCell ⟨w.heap.size, k * 3 + 1, none⟩ (.int .i64 y)).setCell ⟨w.heap.size, k * 3 + 2, none⟩ (.slice (some ⟨g, 0, none⟩) q q))) := ((D5.out.setCell (Nat.le_refl _) _).setCell (Nat.le_refl _) _).setCell (Nat.le_refl _) _
      have R7 : Hid (Row3 (((w5.setCell ⟨w.heap.size, k * 3, none⟩ (.int .i64 x)).setCell ⟨w.heap.size, k * 3 + 1, none⟩ (.int .i64 y)).setCell ⟨w.heap.size, k * 3 + 2, none⟩ (.slice (some ⟨g, 0, none⟩) q q)) w.heap.size 87 n ((rs' ++ [(x, y, Value.slice (some ⟨g, 0, none⟩) q q, zs)]).map stT)) := by
        rw [List.map_append]; exact R6.out
      have DN : Hid (∀ r ∈ rs' ++ [(x, y, Value.slice (some ⟨g, 0, none⟩) q q, zs)], DomOwn w.heap.size (((w5.setCell ⟨w.heap.size, k * 3, none⟩ (.int .i64 x)).setCell ⟨w.heap.size, k * 3 + 1, none⟩ (.int .i64 y)).setCell ⟨w.heap.size, k * 3 + 2, none⟩ (.slice (some ⟨g, 0, none⟩) q q)) r) := fun r hr => by
        refine ((DomOwn.set ?_ _ _).set _ _).set _ _
        rcases List.mem_append.1 hr with hr | hr
        · exact (DO.out r hr).below b5
        · simp at hr; subst hr
          exact ⟨g, by rw [HQ.out], i5, by omega, by rw [HQ.out]; exact HDL.out⟩
      have EB7 := Lib.hid (EBn.out (.slice (some ⟨g, 0, none⟩) q q))
      clear b5 R1 R5 R6 EBn LT LN i5 DO E EB
      go_wp2_with fail
      go_roundw
      case rel => exact ⟨k + 1, _, by go_num, by omega, EB7, R7, DN, D6⟩
      case measure => simp [intOf]; omega
    · have c1' : ¬ (k : Int) < (n : Int) := by omega
      have P := Lib.hid (show bareS rs' = bareS rs by have := EB.out; rwa [List.take_of_length_le (by rw [HN.out]; omega)] at this)
      go_wp2
      go_ret
      exact ⟨rfl, rs', P.out, R1.out, fun a b c d h => DO.out (a, b, c, d) h, H2.out⟩
theorem DomOwn.setLow {b : Nat} {w : World} {r : LSt} (h : DomOwn b w r) {b' : Nat} (hb : b' < b) (i : Nat) (v : Value) : DomOwn b (w.setCell ⟨b', i, none⟩ v) r := by
  obtain ⟨g, e, hi, hg, hl⟩ := h
  exact ⟨g, e, hi.set (by omega) i v, hg, hl⟩
theorem Row3.stsO {w : World} {b n : Nat} {rs : List LSt} (h : Row3 w b 87 n (rs.map stT)) (hd : ∀ r ∈ rs, DomOwn b w r) : Sts w (some ⟨b, 0, none⟩) rs := by
  refine ⟨.inr ⟨b, 0, rfl, h.lt, fun i hi => ?_⟩, fun r hr => (hd r hr).din⟩
  have := h.at i (by simpa using hi)
  simpa [stT] using this
/-- A table in memory of its own, from block C on. -/
structure OwnT (C : Nat) (w : World) (b1 b2 : Nat) (rs : List LSt) (ps : List LPr) : Prop where
  r1 : Row3 w b1 87 rs.length (rs.map stT)
  dom : ∀ r ∈ rs, DomOwn b1 w r
  r2 : Row3 w b2 138 ps.length (ps.map prT)
  lo1 : C ≤ b1
  lo2 : C ≤ b2
theorem OwnT.sts {C : Nat} {w : World} {b1 b2 : Nat} {rs : List LSt} {ps : List LPr} (h : OwnT C w b1 b2 rs ps) : Sts w (some ⟨b1, 0, none⟩) rs := h.r1.stsO h.dom
theorem OwnT.prs {C : Nat} {w : World} {b1 b2 : Nat} {rs : List LSt} {ps : List LPr} (h : OwnT C w b1 b2 rs ps) : Prs w (some ⟨b2, 0, none⟩) ps := h.r2.prs
theorem OwnT.below {C : Nat} {w w' : World} {b1 b2 : Nat} {rs : List LSt} {ps : List LPr} (h : OwnT C w b1 b2 rs ps) (hb : Below w.heap.size w w') : OwnT C w' b1 b2 rs ps :=
  ⟨h.r1.below hb, fun r hr => (h.dom r hr).below hb, h.r2.below hb, h.lo1, h.lo2⟩

set_option maxRecDepth 100000 in
set_option maxHeartbeats 1000000 in
/-- toTable. -/
theorem toTO_any (sl : Option Addr) (cap : Nat) (sl2 : Option Addr) (cap2 : Nat) (rs : List LSt) (ps : List LPr) (w : World) (hn : rs.length ≤ 1048576) (hm : ps.length ≤ 1048576) (hz : Sts w sl rs) (hp : Prs w sl2 ps) :
    Calls Tryz.prog 25 #[TV sl rs.length cap sl2 ps.length cap2] w fun e w' => ∃ b1 b2 rs', e = .returned (TV (some ⟨b1, 0, none⟩) rs.length rs.length (some ⟨b2, 0, none⟩) ps.length ps.length) ∧ bareS rs' = bareS rs ∧ OwnT w.heap.size w' b1 b2 rs' ps ∧ Below w.heap.size w w' := by
  have E1 : Hid (∀ W, Below w.heap.size w W → Calls Tryz.prog 57 #[.slice sl rs.length cap] W fun e w' => ∃ rs' : List LSt, e = .returned (.slice (some ⟨W.heap.size, 0, none⟩) rs.length rs.length) ∧ bareS rs' = bareS rs ∧ Row3 w' W.heap.size 87 rs.length (rs'.map stT) ∧ (∀ r ∈ rs', DomOwn W.heap.size w' r) ∧ Below W.heap.size W w') := fun W hW => toSSO_any sl cap rs W hn (hz.below hW)
  have E2 : Hid (∀ W, Below w.heap.size w W → Calls Tryz.prog 58 #[.slice sl2 ps.length cap2] W fun e w' => e = .returned (.slice (some ⟨W.heap.size, 0, none⟩) ps.length ps.length) ∧ Row3 w' W.heap.size 138 ps.length (ps.map prT) ∧ Below W.heap.size W w') := fun W hW => toPS_any sl2 cap2 ps W hm (hp.below hW)
  clear hz hp
  generalize hNN : rs.length = n at *
  generalize hMM : ps.length = m at *
  have HNN := Lib.hid hNN
  have HMM := Lib.hid hMM
  clear hNN hMM
  go_enter Tryz.func25, Tryz.ntmps25
  go_wp2_with fail
  refine (E1.out _ (bA (bA (bA0 _ _) _) _)).mono ?_
  rintro e w1 ⟨rs', rfl, eb, r1, d1, b1⟩
  obtain ⟨n0, n1, n2, n3⟩ := three_new w (.cells #[.slice sl n cap, .slice sl2 m cap2] 25) (.cells #[.slice none 0 0, .slice none 0 0] 35) (.cells #[.slice none 0 0, .slice none 0 0] 35)
  have BB := Lib.hid (bT (bA (bA (bA0 w (.cells #[.slice sl n cap, .slice sl2 m cap2] 25)) (.cells #[.slice none 0 0, .slice none 0 0] 35)) (.cells #[.slice none 0 0, .slice none 0 0] 35)) b1)
  rw [n3] at r1 d1 b1 ⊢
  have hz := b1.size
  rw [n3] at hz
  have m0 := (b1.block w.heap.size (by omega)).trans n0
  have m1 := (b1.block (w.heap.size + 1) (by omega)).trans n1
  have m2 := (b1.block (w.heap.size + 2) (by omega)).trans n2
  have R1 := Lib.hid r1
  have DD := Lib.hid d1
  have EB := Lib.hid eb
  clear r1 d1 b1 eb n0 n1 n2 n3
  have a0 : w1.cell? ⟨w.heap.size, 1, none⟩ = some (.slice sl2 m cap2) := by simp [World.cell?, m0]
  have a2 : w1.cell? ⟨w.heap.size + 2, 0, none⟩ = some (.slice none 0 0) ∧ w1.frozen? ⟨w.heap.size + 2, 0, none⟩ = false := by simp [World.cell?, World.frozen?, m2]
  obtain ⟨a2, a2f⟩ := a2
  have M0 := Lib.hid m0
  have M1 := Lib.hid m1
  have M2 := Lib.hid m2
  have B1 := Lib.hid (BB.out.setCell (p := ⟨w.heap.size + 2, 0, none⟩) (Nat.le_add_right _ _) (.slice (some ⟨w.heap.size + 3, 0, none⟩) n n))
  clear m0 m1 m2
  go_wp2_with fail
  refine (E2.out _ B1.out).mono ?_
  rintro e w2 ⟨rfl, r2, b2⟩
  have hsz : (w1.setCell ⟨w.heap.size + 1 + 1, 0, none⟩ (.slice (some ⟨w.heap.size + 3, 0, none⟩) n n)).heap.size = w1.heap.size := by simp [World.setCell]
  rw [hsz] at r2
  have b2s := b2.size
  have k2 := (b2.block (w.heap.size + 2) (by rw [hsz]; omega)).trans (heap_setCell_same w1 (w.heap.size + 2) 0 _ 35 (.slice (some ⟨w.heap.size + 3, 0, none⟩) n n) M2.out)
  have k1 := (b2.block (w.heap.size + 1) (by rw [hsz]; omega)).trans ((Below.heap_setCell _ _ _ _ (show w.heap.size + 1 ≠ w.heap.size + 1 + 1 by omega)).trans M1.out)
  have R3 := Lib.hid ((R1.out.setLow (b' := w.heap.size + 1 + 1) (by omega) 0 (.slice (some ⟨w.heap.size + 3, 0, none⟩) n n)).below b2)
  have D3 := Lib.hid (fun r hr => ((DD.out r hr).setLow (b' := w.heap.size + 1 + 1) (by omega) 0 (.slice (some ⟨w.heap.size + 3, 0, none⟩) n n)).below b2)
  have P3 := Lib.hid r2
  have B3 := Lib.hid (bT B1.out b2)
  rw [hsz] at b2s ⊢
  clear R1 DD r2 b2 a0 a2 a2f M0 M1 M2 B1 BB hsz
  have q0 : w2.cell? ⟨w.heap.size + 1 + 1, 0, none⟩ = some (.slice (some ⟨w.heap.size + 3, 0, none⟩) n n) ∧ w2.cell? ⟨w.heap.size + 1 + 1, 1, none⟩ = some (.slice none 0 0) ∧ (∀ o, w2.frozen? ⟨w.heap.size + 1 + 1, o, none⟩ = false) := by
    refine ⟨?_, ?_, fun o => ?_⟩ <;> simp [World.cell?, World.frozen?, k2]
  have q1 : w2.cell? ⟨w.heap.size + 1, 0, none⟩ = some (.slice none 0 0) ∧ w2.cell? ⟨w.heap.size + 1, 1, none⟩ = some (.slice none 0 0) ∧ (∀ o, w2.frozen? ⟨w.heap.size + 1, o, none⟩ = false) := by
    refine ⟨?_, ?_, fun o => ?_⟩ <;> simp [World.cell?, World.frozen?, k1]
  obtain ⟨q00, q01, q0f⟩ := q0
  obtain ⟨q10, q11, q1f⟩ := q1
  clear k1 k2
  generalize w1.heap.size = b2 at *
  have P : Hid (∃ b1 b2' rs', (TV (some ⟨w.heap.size + 3, 0, none⟩) n n (some ⟨b2, 0, none⟩) m m) = (TV (some ⟨b1, 0, none⟩) n n (some ⟨b2', 0, none⟩) m m) ∧ bareS rs' = bareS rs ∧ OwnT w.heap.size (((w2.setCell ⟨w.heap.size + 1 + 1, 1, none⟩ (.slice (some ⟨b2, 0, none⟩) m m)).setCell ⟨w.heap.size + 1, 0, none⟩ (.slice (some ⟨w.heap.size + 3, 0, none⟩) n n)).setCell ⟨w.heap.size + 1, 1, none⟩ (.slice (some ⟨b2, 0, none⟩) m m)) b1 b2' rs' ps ∧ Below w.heap.size w (((w2.setCell ⟨w.heap.size + 1 + 1, 1, none⟩ (.slice (some ⟨b2, 0, none⟩) m m)).setCell ⟨w.heap.size + 1, 0, none⟩ (.slice (some ⟨w.heap.size + 3, 0, none⟩) n n)).setCell ⟨w.heap.size + 1, 1, none⟩ (.slice (some ⟨b2, 0, none⟩) m m))) := by
    have hN : rs'.length = n := (bareS_len EB.out).trans HNN.out
    refine ⟨w.heap.size + 3, b2, rs', rfl, EB.out, ⟨?_, fun r hr => (((D3.out r hr).setLow (by omega) _ _).setLow (by omega) _ _).setLow (by omega) _ _, ?_, by omega, by omega⟩, ?_⟩
    · rw [hN]; exact ((R3.out.setLow (by omega) _ _).setLow (by omega) _ _).setLow (by omega) _ _
    · rw [HMM.out]; exact ((P3.out.setLow (by omega) _ _).setLow (by omega) _ _).setLow (by omega) _ _
    · exact ((B3.out.setCell (Nat.le_add_right _ 2) _).setCell (Nat.le_add_right _ 1) _).setCell (Nat.le_add_right _ 1) _
  clear R3 D3 P3 B3
  go_wp2
  obtain ⟨b1, b2', rs9, e9, h9⟩ := P.out
  refine bodyPost_ret (v := TV (some ⟨w.heap.size + 3, 0, none⟩) n n (some ⟨b2, 0, none⟩) m m) (by simp [results, Tryz.results25, go_sem, q10, q11]) rfl ⟨b1, b2', rs9, by rw [e9], h9⟩
end Go.Proofs.YtanoklpffenljaaGreatDoor
