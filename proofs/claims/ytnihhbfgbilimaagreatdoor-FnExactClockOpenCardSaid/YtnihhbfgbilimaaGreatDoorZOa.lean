import Derived.Test.YtnihhbfgbilimaaGreatDoorZKa
namespace Go.Proofs.YtnihhbfgbilimaaGreatDoor
open Go.RowKit
set_option linter.unusedVariables false
set_option maxHeartbeats 400000 in
theorem toO_nil (sl : Option Addr) (cap : Nat) (w : World) :
  Calls Tryz.prog 20 #[.slice sl 0 cap] w fun e w' => e = .returned (.slice (some ⟨w.heap.size, 0, none⟩) 0 0) ∧ RowZ w' w.heap.size [] ∧ Below w.heap.size w w' := by
 have hmk : ∀ w : World, Sem.run Tryz.prog (Instr.makeSlice 34 (.int .i64 0) (.int .i64 0)) w = .ok (.slice (some ⟨w.heap.size, 0, none⟩) 0 0) (w.alloc (.cells (mk64 0) 2)) := fun w => make64 0 (by omega) w
 have P := Lib.hid (show RowZ (w.alloc (.cells (mk64 0) 2)) w.heap.size [] by unfold RowZ RowAt; rw [new_at, show mk64 0 = vsOf [] ([] : List Int).length from mk64_eq []])
 go_enter Tryz.func20, Tryz.ntmps20
 go_wp2
 refine wp_loop_rounds 1 ?_
 rw [rounds_succ]
 go_wp2
 go_ret
 exact ⟨rfl, P.out, bA0 _ _⟩
set_option maxHeartbeats 1000000 in
theorem toO_some (c o cap : Nat) (zs : List Int) (w : World) (hn : zs.length ≤ 1048576) (hz : IntsAt w c o zs) :
  Calls Tryz.prog 20 #[.slice (some ⟨c, o, none⟩) zs.length cap] w fun e w' => e = .returned (.slice (some ⟨w.heap.size, 0, none⟩) zs.length zs.length) ∧ RowZ w' w.heap.size zs ∧ Below w.heap.size w w' := by
 have hmk := make64 zs.length hn
 have HZ : Hid (IntsAt w c o zs) := hz
 have HK : Hid (mk64 zs.length = vsOf zs 0) := mk64_eq zs
 clear hz
 generalize hN : zs.length = n at *
 have HN : Hid (zs.length = n) := hN
 clear hN
 go_enter Tryz.func20, Tryz.ntmps20
 go_wp2
 go_loopw [4] (fun i wr => ∃ (k : Nat), i = .int .i64 k ∧ k ≤ n ∧ Hid (Below w.heap.size w wr) ∧ Hid (RowAt wr w.heap.size (vsOf zs k))) (fun i _ => n - (intOf i).toNat)
 case atStart =>
  refine ⟨0, rfl, Nat.zero_le _, bA0 _ _, ?_⟩
  show (w.heap.push _)[w.heap.size]? = _
  simp [HK.out]
 case round =>
  obtain ⟨k, rfl, hk, H3, H4⟩ := hrel
  have hk0 : (0 : Int) ≤ (k : Int) := by omega
  by_cases h1 : k < n
  ·have h1' : (k : Int) < (n : Int) := by omega
   have hlt : k < zs.length := by rw [HN.out]; exact h1
   have hc : wr.cell? ⟨c, o + k, none⟩ = some (.int .i64 (zs.getD k 0)) := by
    rw [H3.out.cell HZ.out.1]; exact HZ.out.2 k hlt
   have hd : wr.cell? ⟨w.heap.size, k, none⟩ = some (.int .i64 0) := by rw [H4.out.cell]; exact vs_at zs k hlt
   have hf := H4.out.frozen k
   have H5 : Hid (RowAt (wr.setCell ⟨w.heap.size, k, none⟩ (.int .i64 (zs.getD k 0))) w.heap.size (vsOf zs (k + 1))) := by
    show RowAt _ _ _
    rw [← vs_step zs k hlt]; exact H4.out.set k _
   clear hlt
   generalize zs.getD k 0 = z at *
   go_wp2
   go_roundw
   case rel => exact ⟨k + 1, by go_num, by omega, H3.out.setCell (Nat.le_refl _) _, H5⟩
   case measure => simp [intOf]; omega
  ·have h1' : ¬ (k : Int) < (n : Int) := by omega
   have H6 : Hid (RowZ wr w.heap.size zs) := by
    have := H4.out
    rwa [show k = zs.length by rw [HN.out]; omega] at this
   go_wp2
   go_ret
   exact ⟨rfl, H6.out, H3.out⟩
theorem toO_any (sl : Option Addr) (cap : Nat) (zs : List Int) (w : World) (hn : zs.length ≤ 1048576) (hz : Ints w sl zs) :
  Calls Tryz.prog 20 #[.slice sl zs.length cap] w fun e w' => e = .returned (.slice (some ⟨w.heap.size, 0, none⟩) zs.length zs.length) ∧ RowZ w' w.heap.size zs ∧ Below w.heap.size w w' := by
 rcases hz with rfl | ⟨c, o, rfl, h⟩
 ·exact toO_nil sl cap w
 ·exact toO_some c o cap zs w hn h
set_option maxRecDepth 100000 in
set_option maxHeartbeats 1000000 in
theorem toSO_any (x y : Int) (sl : Option Addr) (cap : Nat) (zs : List Int) (w : World) (hn : zs.length ≤ 1048576) (hz : Ints w sl zs) :
  Calls Tryz.prog 136 #[SV x y sl zs.length cap] w fun e w' => ∃ g, e = .returned (SV x y (some ⟨g, 0, none⟩) zs.length zs.length) ∧ RowZ w' g zs ∧ w.heap.size ≤ g ∧ Below w.heap.size w w' := by
 have T : Hid (∀ w1, Below w.heap.size w w1 → Calls Tryz.prog 20 #[.slice sl zs.length cap] w1 fun e w' => e = .returned (.slice (some ⟨w1.heap.size, 0, none⟩) zs.length zs.length) ∧ RowZ w' w1.heap.size zs ∧ Below w1.heap.size w1 w') :=
  fun w1 hb => toO_any sl cap zs w1 hn (hz.below hb)
 clear hz
 generalize zs.length = n at *
 go_enter Tryz.func136, Tryz.ntmps136
 go_wp2_with fail
 refine (T.out _ (bA (bA (bA0 _ _) _) _)).mono ?_
 rintro e w1 ⟨rfl, hi, hb⟩
 obtain ⟨hc, hf⟩ := bcell hb; have hz := hb.size; simp at hz hi
 have HI : Hid (RowZ w1 (w.heap.size + 1 + 1 + 1) zs) := hi
 clear hi
 go_wp2
 refine bodyPost_ret (v := SV x y (some ⟨w.heap.size + 3, 0, none⟩) n n) (by simp [results, Tryz.results136, go_sem, hc]) rfl ⟨w.heap.size + 3, rfl, ?_, by omega, ?_⟩
 ·exact ((((HI.out.set (b := w.heap.size + 1 + 1) (by omega) _ _).set (b := w.heap.size + 1) (by omega) _ _).set (b := w.heap.size + 1) (by omega) _ _).set (b := w.heap.size + 1) (by omega) _ _)
 ·exact ((((bT (bA (bA (bA0 _ _) _) _) hb).setCell (Nat.le_add_right _ 2) _).setCell (Nat.le_add_right _ 1) _).setCell (Nat.le_add_right _ 1) _).setCell (Nat.le_add_right _ 1) _
set_option maxRecDepth 100000 in
set_option maxHeartbeats 1000000 in
theorem toSSO_any (sl : Option Addr) (cap : Nat) (rs : List LSt) (w : World) (hn : rs.length ≤ 1048576) (hz : Sts w sl rs) :
  Calls Tryz.prog 74 #[.slice sl rs.length cap] w fun e w' => ∃ rs' : List LSt, e = .returned (.slice (some ⟨w.heap.size, 0, none⟩) rs.length rs.length) ∧ bareS rs' = bareS rs ∧ Row3 w' w.heap.size 92 rs.length (rs'.map stT) ∧ (∀ r ∈ rs', DomOwn w.heap.size w' r) ∧ Below w.heap.size w w' := by
 have HZ := Lib.hid hz
 clear hz
 obtain ⟨vs, hmk, hr0⟩ := make54 rs.length hn w
 have R0 := Lib.hid hr0
 clear hr0
 generalize hN : rs.length = n at *
 have HN := Lib.hid hN
 clear hN
 go_enter Tryz.func74, Tryz.ntmps74
 go_wp2
 go_loopw [4] (fun i wr => ∃ (k : Nat) (rs' : List LSt), i = .int .i64 k ∧ k ≤ n ∧ Hid (bareS rs' = bareS (rs.take k)) ∧ Hid (Row3 wr w.heap.size 92 n (rs'.map stT)) ∧ Hid (∀ r ∈ rs', DomOwn w.heap.size wr r) ∧ Hid (Below w.heap.size w wr)) (fun i _ => n - (intOf i).toNat)
 case atStart => exact ⟨0, [], rfl, Nat.zero_le _, rfl, R0, (fun r hr => by cases hr), bA0 _ _⟩
 case round =>
  obtain ⟨k, rs', rfl, hk, EB, R1, DO, H2⟩ := hrel
  have hk0 : (0 : Int) ≤ (k : Int) := by omega
  by_cases c1 : k < n
  ·have c1' : (k : Int) < (n : Int) := by omega
   have hlt : k < rs.length := by rw [HN.out]; exact c1
   obtain ⟨c, o, rfl, Z0⟩ : ∃ c o, sl = some ⟨c, o, none⟩ ∧ StAt w c o rs := by
    rcases HZ.out.row with e | h
    ·rw [e] at hlt; simp at hlt
    ·exact h
   have hc0 := (H2.out.cell Z0.lt).trans (Z0.cell k hlt).1
   have hc1 := (H2.out.cell Z0.lt).trans (Z0.cell k hlt).2.1
   have hc2 := (H2.out.cell Z0.lt).trans (Z0.cell k hlt).2.2
   obtain ⟨sld, capd, ed, hi, hdl⟩ := (HZ.out.dom rs[k] (List.getElem_mem hlt)).below (show Below w.heap.size w wr from H2.out)
   obtain ⟨x, y, v, zs, hp⟩ : ∃ x y v zs, rs[k] = (x, y, v, zs) := ⟨_, _, _, _, rfl⟩
   rw [hp] at hc0 hc1 hc2 ed hi hdl
   dsimp only at hc0 hc1 hc2 ed hi hdl
   rw [ed] at hc2
   have EBn := Lib.hid (show ∀ v', bareS (rs' ++ [(x, y, v', zs)]) = bareS (rs.take (k + 1)) by
    intro v'
    rw [List.take_add_one, List.getElem?_eq_getElem hlt, hp]
    have := EB.out
    unfold bareS at this ⊢
    rw [List.map_append, this]
    simp)
   have LT := Lib.hid (show k = (rs'.map stT).length by
    have := congrArg List.length EB.out
    simp only [bareS, List.length_map, List.length_take] at this ⊢
    omega)
   have LN := Lib.hid (show (rs'.map stT).length < n by rw [← LT.out]; exact c1)
   have E := Lib.hid (toSO_any x y sld capd zs wr hdl hi)
   have HDL := Lib.hid hdl
   have hws := H2.out.size
   clear hp hlt ed hi hdl
   generalize hq : zs.length = q at *
   have HQ := Lib.hid hq
   clear hq
   go_wp2_with fail
   refine E.out.mono ?_
   rintro e w5 ⟨g, rfl, i5, hg5, b5⟩
   have D5 := Lib.hid (bT H2.out b5)
   have R5 := Lib.hid (R1.out.below b5)
   have hb1 := R1.out.lt
   obtain ⟨⟨v0, g0⟩, f0⟩ := R5.out.there (k * 3) (by omega)
   obtain ⟨⟨v1, g1⟩, f1⟩ := R5.out.there (k * 3 + 1) (by omega)
   obtain ⟨⟨v2, g2⟩, f2⟩ := R5.out.there (k * 3 + 2) (by omega)
   have R6 := Lib.hid (R5.out.step LN.out (.int .i64 x) (.int .i64 y) (.slice (some ⟨g, 0, none⟩) q q) k LT.out)
   have D6 : Hid (Below w.heap.size w (((w5.setCell ⟨w.heap.size, k * 3, none⟩ (.int .i64 x)).setCell ⟨w.heap.size, k * 3 + 1, none⟩ (.int .i64 y)).setCell ⟨w.heap.size, k * 3 + 2, none⟩ (.slice (some ⟨g, 0, none⟩) q q))) := ((D5.out.setCell (Nat.le_refl _) _).setCell (Nat.le_refl _) _).setCell (Nat.le_refl _) _
   have R7 : Hid (Row3 (((w5.setCell ⟨w.heap.size, k * 3, none⟩ (.int .i64 x)).setCell ⟨w.heap.size, k * 3 + 1, none⟩ (.int .i64 y)).setCell ⟨w.heap.size, k * 3 + 2, none⟩ (.slice (some ⟨g, 0, none⟩) q q)) w.heap.size 92 n ((rs' ++ [(x, y, Value.slice (some ⟨g, 0, none⟩) q q, zs)]).map stT)) := by
    rw [List.map_append]; exact R6.out
   have DN : Hid (∀ r ∈ rs' ++ [(x, y, Value.slice (some ⟨g, 0, none⟩) q q, zs)], DomOwn w.heap.size (((w5.setCell ⟨w.heap.size, k * 3, none⟩ (.int .i64 x)).setCell ⟨w.heap.size, k * 3 + 1, none⟩ (.int .i64 y)).setCell ⟨w.heap.size, k * 3 + 2, none⟩ (.slice (some ⟨g, 0, none⟩) q q)) r) := fun r hr => by
    refine ((DomOwn.set ?_ _ _).set _ _).set _ _
    rcases List.mem_append.1 hr with hr | hr
    ·exact (DO.out r hr).below b5
    ·simp at hr; subst hr
     exact ⟨g, by rw [HQ.out], i5, by omega, by rw [HQ.out]; exact HDL.out⟩
   have EB7 := Lib.hid (EBn.out (.slice (some ⟨g, 0, none⟩) q q))
   clear b5 R1 R5 R6 EBn LT LN i5 DO E EB
   go_wp2_with fail
   go_roundw
   case rel => exact ⟨k + 1, _, by go_num, by omega, EB7, R7, DN, D6⟩
   case measure => simp [intOf]; omega
  ·have c1' : ¬ (k : Int) < (n : Int) := by omega
   have P := Lib.hid (show bareS rs' = bareS rs by have := EB.out; rwa [List.take_of_length_le (by rw [HN.out]; omega)] at this)
   go_wp2
   go_ret
   exact ⟨rfl, rs', P.out, R1.out, fun a b c d h => DO.out (a, b, c, d) h, H2.out⟩
set_option maxRecDepth 100000 in
set_option maxHeartbeats 1000000 in
theorem toTO_any (sl : Option Addr) (cap : Nat) (sl2 : Option Addr) (cap2 : Nat) (rs : List LSt) (ps : List LPr) (w : World) (hn : rs.length ≤ 1048576) (hm : ps.length ≤ 1048576) (hz : Sts w sl rs) (hp : Prs w sl2 ps) :
  Calls Tryz.prog 19 #[TV sl rs.length cap sl2 ps.length cap2] w fun e w' => ∃ b1 b2 rs', e = .returned (TV (some ⟨b1, 0, none⟩) rs.length rs.length (some ⟨b2, 0, none⟩) ps.length ps.length) ∧ bareS rs' = bareS rs ∧ OwnT w.heap.size w' b1 b2 rs' ps ∧ Below w.heap.size w w' := by
 have E1 : Hid (∀ W, Below w.heap.size w W → Calls Tryz.prog 74 #[.slice sl rs.length cap] W fun e w' => ∃ rs' : List LSt, e = .returned (.slice (some ⟨W.heap.size, 0, none⟩) rs.length rs.length) ∧ bareS rs' = bareS rs ∧ Row3 w' W.heap.size 92 rs.length (rs'.map stT) ∧ (∀ r ∈ rs', DomOwn W.heap.size w' r) ∧ Below W.heap.size W w') := fun W hW => toSSO_any sl cap rs W hn (hz.below hW)
 have E2 : Hid (∀ W, Below w.heap.size w W → Calls Tryz.prog 75 #[.slice sl2 ps.length cap2] W fun e w' => e = .returned (.slice (some ⟨W.heap.size, 0, none⟩) ps.length ps.length) ∧ Row3 w' W.heap.size 165 ps.length (ps.map prT) ∧ Below W.heap.size W w') := fun W hW => toPS_any sl2 cap2 ps W hm (hp.below hW)
 clear hz hp
 generalize hNN : rs.length = n at *
 generalize hMM : ps.length = m at *
 have HNN := Lib.hid hNN
 have HMM := Lib.hid hMM
 clear hNN hMM
 go_enter Tryz.func19, Tryz.ntmps19
 go_wp2_with fail
 refine (E1.out _ (bA (bA (bA0 _ _) _) _)).mono ?_
 rintro e w1 ⟨rs', rfl, eb, r1, d1, b1⟩
 obtain ⟨n0, n1, n2, n3⟩ := three_new w (.cells #[.slice sl n cap, .slice sl2 m cap2] 46) (.cells #[.slice none 0 0, .slice none 0 0] 26) (.cells #[.slice none 0 0, .slice none 0 0] 26)
 have BB := Lib.hid (bT (bA (bA (bA0 w (.cells #[.slice sl n cap, .slice sl2 m cap2] 46)) (.cells #[.slice none 0 0, .slice none 0 0] 26)) (.cells #[.slice none 0 0, .slice none 0 0] 26)) b1)
 rw [n3] at r1 d1 b1 ⊢
 have hz := b1.size
 rw [n3] at hz
 have m0 := (b1.block w.heap.size (by omega)).trans n0
 have m1 := (b1.block (w.heap.size + 1) (by omega)).trans n1
 have m2 := (b1.block (w.heap.size + 2) (by omega)).trans n2
 have R1 := Lib.hid r1
 have DD := Lib.hid d1
 have EB := Lib.hid eb
 clear r1 d1 b1 eb n0 n1 n2 n3
 have a0 : w1.cell? ⟨w.heap.size, 1, none⟩ = some (.slice sl2 m cap2) := by simp [World.cell?, m0]
 have a2 : w1.cell? ⟨w.heap.size + 2, 0, none⟩ = some (.slice none 0 0) ∧ w1.frozen? ⟨w.heap.size + 2, 0, none⟩ = false := by simp [World.cell?, World.frozen?, m2]
 obtain ⟨a2, a2f⟩ := a2
 have M0 := Lib.hid m0
 have M1 := Lib.hid m1
 have M2 := Lib.hid m2
 have B1 := Lib.hid (BB.out.setCell (p := ⟨w.heap.size + 2, 0, none⟩) (Nat.le_add_right _ _) (.slice (some ⟨w.heap.size + 3, 0, none⟩) n n))
 clear m0 m1 m2
 go_wp2_with fail
 refine (E2.out _ B1.out).mono ?_
 rintro e w2 ⟨rfl, r2, b2⟩
 have hsz : (w1.setCell ⟨w.heap.size + 1 + 1, 0, none⟩ (.slice (some ⟨w.heap.size + 3, 0, none⟩) n n)).heap.size = w1.heap.size := by simp [World.setCell]
 rw [hsz] at r2
 have b2s := b2.size
 have k2 := (b2.block (w.heap.size + 2) (by rw [hsz]; omega)).trans (heap_setCell_same w1 (w.heap.size + 2) 0 _ 26 (.slice (some ⟨w.heap.size + 3, 0, none⟩) n n) M2.out)
 have k1 := (b2.block (w.heap.size + 1) (by rw [hsz]; omega)).trans ((Below.heap_setCell _ _ _ _ (show w.heap.size + 1 ≠ w.heap.size + 1 + 1 by omega)).trans M1.out)
 have R3 := Lib.hid ((R1.out.setLow (b' := w.heap.size + 1 + 1) (by omega) 0 (.slice (some ⟨w.heap.size + 3, 0, none⟩) n n)).below b2)
 have D3 := Lib.hid (fun r hr => ((DD.out r hr).setLow (b' := w.heap.size + 1 + 1) (by omega) 0 (.slice (some ⟨w.heap.size + 3, 0, none⟩) n n)).below b2)
 have P3 := Lib.hid r2
 have B3 := Lib.hid (bT B1.out b2)
 rw [hsz] at b2s ⊢
 clear R1 DD r2 b2 a0 a2 a2f M0 M1 M2 B1 BB hsz
 have q0 : w2.cell? ⟨w.heap.size + 1 + 1, 0, none⟩ = some (.slice (some ⟨w.heap.size + 3, 0, none⟩) n n) ∧ w2.cell? ⟨w.heap.size + 1 + 1, 1, none⟩ = some (.slice none 0 0) ∧ (∀ o, w2.frozen? ⟨w.heap.size + 1 + 1, o, none⟩ = false) := by
  refine ⟨?_, ?_, fun o => ?_⟩ <;> simp [World.cell?, World.frozen?, k2]
 have q1 : w2.cell? ⟨w.heap.size + 1, 0, none⟩ = some (.slice none 0 0) ∧ w2.cell? ⟨w.heap.size + 1, 1, none⟩ = some (.slice none 0 0) ∧ (∀ o, w2.frozen? ⟨w.heap.size + 1, o, none⟩ = false) := by
  refine ⟨?_, ?_, fun o => ?_⟩ <;> simp [World.cell?, World.frozen?, k1]
 obtain ⟨q00, q01, q0f⟩ := q0
 obtain ⟨q10, q11, q1f⟩ := q1
 clear k1 k2
 generalize w1.heap.size = b2 at *
 have P : Hid (∃ b1 b2' rs', (TV (some ⟨w.heap.size + 3, 0, none⟩) n n (some ⟨b2, 0, none⟩) m m) = (TV (some ⟨b1, 0, none⟩) n n (some ⟨b2', 0, none⟩) m m) ∧ bareS rs' = bareS rs ∧ OwnT w.heap.size (((w2.setCell ⟨w.heap.size + 1 + 1, 1, none⟩ (.slice (some ⟨b2, 0, none⟩) m m)).setCell ⟨w.heap.size + 1, 0, none⟩ (.slice (some ⟨w.heap.size + 3, 0, none⟩) n n)).setCell ⟨w.heap.size + 1, 1, none⟩ (.slice (some ⟨b2, 0, none⟩) m m)) b1 b2' rs' ps ∧ Below w.heap.size w (((w2.setCell ⟨w.heap.size + 1 + 1, 1, none⟩ (.slice (some ⟨b2, 0, none⟩) m m)).setCell ⟨w.heap.size + 1, 0, none⟩ (.slice (some ⟨w.heap.size + 3, 0, none⟩) n n)).setCell ⟨w.heap.size + 1, 1, none⟩ (.slice (some ⟨b2, 0, none⟩) m m))) := by
  have hN : rs'.length = n := (bareS_len EB.out).trans HNN.out
  refine ⟨w.heap.size + 3, b2, rs', rfl, EB.out, ⟨?_, fun r hr => (((D3.out r hr).setLow (by omega) _ _).setLow (by omega) _ _).setLow (by omega) _ _, ?_, by omega, by omega⟩, ?_⟩
  ·rw [hN]; exact ((R3.out.setLow (by omega) _ _).setLow (by omega) _ _).setLow (by omega) _ _
  ·rw [HMM.out]; exact ((P3.out.setLow (by omega) _ _).setLow (by omega) _ _).setLow (by omega) _ _
  ·exact ((B3.out.setCell (Nat.le_add_right _ 2) _).setCell (Nat.le_add_right _ 1) _).setCell (Nat.le_add_right _ 1) _
 clear R3 D3 P3 B3
 go_wp2
 obtain ⟨b1, b2', rs9, e9, h9⟩ := P.out
 refine bodyPost_ret (v := TV (some ⟨w.heap.size + 3, 0, none⟩) n n (some ⟨b2, 0, none⟩) m m) (by simp [results, Tryz.results19, go_sem, q10, q11]) rfl ⟨b1, b2', rs9, by rw [e9], h9⟩
set_option maxHeartbeats 400000 in
theorem mark_some (b n s cap : Nat) (k : Int) (hn : n ≤ 1048576) (hs : n ≤ s) (k0 : 0 ≤ k) (k1 : k ≤ 1000000000) (w : World) (h : Marked w b s k 0) :
  Calls Tryz.prog 26 #[.slice (some ⟨b, 0, none⟩) n cap, .int .i64 k] w fun e w' => e = .returned (.int .i64 (k + (n : Int))) ∧ Marked w' b s k n ∧ Only b w w' := by
 have HM := Lib.hid h
 clear h
 go_enter Tryz.func26, Tryz.ntmps26
 go_wp2
 go_loopw [1, 5] (fun m i wr => ∃ j : Nat, i = .int .i64 j ∧ m = .int .i64 (k + (j : Int)) ∧ j ≤ n ∧ Hid (Marked wr b s k j) ∧ Hid (Only b w wr)) (fun _ i _ => n - (intOf i).toNat)
 case atStart => exact ⟨0, rfl, by simp, Nat.zero_le _, HM, Only.refl _ _⟩
 case round =>
  obtain ⟨j, rfl, rfl, hj, H1, H2⟩ := hrel
  have hj0 : (0 : Int) ≤ (j : Int) := by omega
  by_cases h1 : j < n
  ·have h1' : (j : Int) < (n : Int) := by omega
   obtain ⟨⟨v, hc⟩, hf⟩ := H1.out.cell j (by omega)
   have H3 := Lib.hid (H1.out.step (by omega))
   go_wp2
   go_roundw
   case rel => exact ⟨j + 1, by go_num, by go_num, by omega, H3, H2.out.setCell _ _⟩
   case measure => simp [intOf]; omega
  ·have h1' : ¬ (j : Int) < (n : Int) := by omega
   have hkn : j = n := by omega
   have H4 : Hid (Marked wr b s k n ∧ (k + (j : Int)) = k + (n : Int)) := by subst hkn; exact ⟨H1.out, rfl⟩
   clear hkn
   go_wp2
   go_ret
   exact ⟨by rw [← H4.out.2]; rfl, H4.out.1, H2.out⟩
theorem own_btw {B L C : Nat} {e : TypeId} {m : Nat} {v : Value} {n : Nat} {xs : List Value} {w w' : World} (h : w.ownsRow C e m v n xs) (hb : Btw B L w w') (hc : ∀ j, v.ownBlock = some j → j < B ∨ L ≤ j) : w'.ownsRow C e m v n xs := by
 refine ⟨h.1, ?_⟩
 rcases h.2 with h | ⟨g, cap, cur, hv, hg, hh, r⟩
 ·exact .inl h
 ·exact .inr ⟨g, cap, cur, hv, hg, (hb.block g (Array.getElem?_eq_some_iff.1 hh).1 (hc g (by rw [hv]; rfl))).trans hh, r⟩
theorem OwnT.stM {C : Nat} {w : World} {b1 b2 : Nat} {rs : List LSt} {ps : List LPr} (h : OwnT C w b1 b2 rs ps) : StM C w.heap.size w b1 rs := by
 refine ⟨?_, fun r hr => ?_, h.lo1, h.r1.lt⟩
 ·obtain ⟨vs, h1, h2, h3⟩ := h.r1
  exact ⟨vs, h1, h2, fun i hi => by
   have := (h3 i (by simpa using hi)).2.2
   rw [List.getElem_map] at this
   exact this⟩
 ·obtain ⟨g, e, hz, hg, _⟩ := h.dom r hr
  exact ⟨g, _, e, hz, vs_size _ _ (Nat.le_refl _), by have := h.lo1; omega, hz.lt⟩
theorem StM.rowed {C L : Nat} {w w' : World} {b g : Nat} {rs : List LSt} (h : StM C L w b rs) (us us' : Array Value) (hg : RowAt w g us) (hg' : RowAt w' g us') (hs : us'.size = us.size) (ho : Only g w w') : StM C L w' b rs := by
 have hg0 : w.heap[g]? = some (.cells us 2) := hg
 refine ⟨?_, fun r hr => ?_, h.lo, h.hi⟩
 ·obtain ⟨vs, h1, h2⟩ := h.row
  have hne : b ≠ g := by
   rintro rfl
   rw [h1] at hg0
   simp at hg0
  exact ⟨vs, (ho.block b (Array.getElem?_eq_some_iff.1 h1).1 hne).trans h1, h2⟩
 ·obtain ⟨c, vs, e, hz, hl, r⟩ := h.dom r hr
  by_cases hc : c = g
  ·subst hc
   have hz' : w.heap[c]? = some (.cells vs 2) := hz
   rw [hg0] at hz'
   simp at hz'
   subst hz'
   exact ⟨c, us', e, hg', by rw [hs, hl], r⟩
  ·exact ⟨c, vs, e, (ho.block c hz.lt hc).trans hz, hl, r⟩
set_option maxRecDepth 100000 in
set_option maxHeartbeats 1000000 in
theorem mkP_any (b m : Nat) (k : Int) (hn : m ≤ 1048576) (k0 : 0 ≤ k) (k1 : k ≤ 20000000) (w : World) (h : PrM w b m) :
  Calls Tryz.prog 82 #[.slice (some ⟨b, 0, none⟩) m m, .int .i64 k] w fun e w' => e = .returned (.int .i64 (k + 3 * (m : Int))) ∧ Only b w w' := by
 have H := Lib.hid h
 clear h
 go_enter Tryz.func82, Tryz.ntmps82
 go_wp2
 go_loopw [1, 5] (fun v i wr => ∃ j : Nat, i = .int .i64 j ∧ v = .int .i64 (k + 3 * (j : Int)) ∧ j ≤ m ∧ Hid (PrM wr b m) ∧ Hid (Only b w wr)) (fun _ i _ => m - (intOf i).toNat)
 case atStart => exact ⟨0, rfl, by simp, Nat.zero_le _, H, Only.refl _ _⟩
 case round =>
  obtain ⟨j, rfl, rfl, hj, H1, H2⟩ := hrel
  have hj0 : (0 : Int) ≤ (j : Int) := by omega
  by_cases h1 : j < m
  ·have h1' : (j : Int) < (m : Int) := by omega
   obtain ⟨⟨v0, c0⟩, f0⟩ := H1.out.there (j * 3) (by omega)
   obtain ⟨⟨v1, c1⟩, f1⟩ := H1.out.there (j * 3 + 1) (by omega)
   obtain ⟨⟨v2, c2⟩, f2⟩ := H1.out.there (j * 3 + 2) (by omega)
   have S2 := Lib.hid (((H1.out.set (j * 3) (.int .i64 (k + 3 * (j : Int)))).set (j * 3 + 1) (.int .i64 (k + 3 * (j : Int) + 1))).set (j * 3 + 2) (.int .i64 (k + 3 * (j : Int) + 1 + 1)))
   have B2 := Lib.hid (((H2.out.setCell (j * 3) (.int .i64 (k + 3 * (j : Int)))).setCell (j * 3 + 1) (.int .i64 (k + 3 * (j : Int) + 1))).setCell (j * 3 + 2) (.int .i64 (k + 3 * (j : Int) + 1 + 1)))
   clear H1 H2
   go_wp2
   go_roundw
   case rel => exact ⟨j + 1, by go_num, by congr 1; push_cast; omega, by omega, S2, B2⟩
   case measure => simp [intOf]; omega
  ·have h1' : ¬ (j : Int) < (m : Int) := by omega
   have P := Lib.hid (show (k + 3 * (j : Int)) = k + 3 * (m : Int) by omega)
   go_wp2
   go_ret
   exact ⟨by rw [← P.out]; rfl, H2.out⟩
set_option maxRecDepth 100000 in
set_option maxHeartbeats 1000000 in
theorem eqPl_any (a b : Int) (w : World) : Calls Tryz.prog 95 #[.agg #[.int .i64 a, .int .i64 b], .agg #[.int .i64 a, .int .i64 b]] w fun e w' => e = .returned (.bool true) ∧ Below w.heap.size w w' := by
 go_enter Tryz.func95, Tryz.ntmps95
 go_wp2
 go_ret
 exact ⟨rfl, bA (bA0 _ _) _⟩
set_option maxRecDepth 100000 in
set_option maxHeartbeats 2000000 in
theorem eqPlS_any (sl sl' : Option Addr) (cap cap' : Nat) (ps : List LPl) (w : World) (hn : ps.length ≤ 1048576) (h : Pls w sl ps) (h' : Pls w sl' ps) :
  Calls Tryz.prog 33 #[.slice sl ps.length cap, .slice sl' ps.length cap'] w fun e w' => e = .returned (.bool true) ∧ Below w.heap.size w w' := by
 have H := Lib.hid h
 have H' := Lib.hid h'
 clear h h'
 generalize hN : ps.length = n at *
 have HN := Lib.hid hN
 clear hN
 go_enter Tryz.func33, Tryz.ntmps33
 go_wp2
 go_loopw [5] (fun i wr => ∃ j : Nat, i = .int .i64 j ∧ j ≤ n ∧ Hid (Below w.heap.size w wr)) (fun i _ => n - (intOf i).toNat)
 case atStart => exact ⟨0, rfl, Nat.zero_le _, Below.refl _ _⟩
 case round =>
  obtain ⟨j, rfl, hj, H2⟩ := hrel
  have hj0 : (0 : Int) ≤ (j : Int) := by omega
  by_cases h1 : j < n
  ·have h1' : (j : Int) < (n : Int) := by omega
   have hlt : j < ps.length := by rw [HN.out]; exact h1
   obtain ⟨g, o, rfl, Z0⟩ : ∃ c o, sl = some ⟨c, o, none⟩ ∧ PlAt w c o ps := by
    rcases H.out with e | h
    ·rw [e] at hlt; simp at hlt
    ·exact h
   obtain ⟨g', o', rfl, Z0'⟩ : ∃ c o, sl' = some ⟨c, o, none⟩ ∧ PlAt w c o ps := by
    rcases H'.out with e | h
    ·rw [e] at hlt; simp at hlt
    ·exact h
   obtain ⟨c0, c1⟩ := (Z0.below H2.out).cell j hlt
   obtain ⟨d0, d1⟩ := (Z0'.below H2.out).cell j hlt
   have hgl := (Z0.below H2.out).lt
   have hgl' := (Z0'.below H2.out).lt
   obtain ⟨x, y, hp⟩ : ∃ a b, ps[j] = (a, b) := ⟨_, _, rfl⟩
   rw [hp] at c0 c1 d0 d1
   dsimp only at c0 c1 d0 d1
   have E : Hid (∀ W, Below wr.heap.size wr W → Calls Tryz.prog 95 #[.agg #[.int .i64 x, .int .i64 y], .agg #[.int .i64 x, .int .i64 y]] W fun e w' => e = .returned (.bool true) ∧ Below W.heap.size W w') := fun W _ => eqPl_any x y W
   have KB : Hid (∀ W, Below wr.heap.size wr W → g < W.heap.size ∧ g' < W.heap.size ∧ W.cell? ⟨g, o + j * 2, none⟩ = some (.int .i64 x) ∧ W.cell? ⟨g, o + j * 2 + 1, none⟩ = some (.int .i64 y) ∧ W.cell? ⟨g', o' + j * 2, none⟩ = some (.int .i64 x) ∧ W.cell? ⟨g', o' + j * 2 + 1, none⟩ = some (.int .i64 y)) := fun W hW => ⟨Nat.lt_of_lt_of_le hgl hW.size, Nat.lt_of_lt_of_le hgl' hW.size, (hW.cell hgl).trans c0, (hW.cell hgl).trans c1, (hW.cell hgl').trans d0, (hW.cell hgl').trans d1⟩
   clear hp hlt Z0 Z0'
   go_wp2_with fail
   refine wp_region_held_drew (S := fun W => g < W.heap.size ∧ g' < W.heap.size ∧ W.cell? ⟨g, o + j * 2, none⟩ = some (.int .i64 x) ∧ W.cell? ⟨g, o + j * 2 + 1, none⟩ = some (.int .i64 y) ∧ W.cell? ⟨g', o' + j * 2, none⟩ = some (.int .i64 x) ∧ W.cell? ⟨g', o' + j * 2 + 1, none⟩ = some (.int .i64 y)) (by kernel_rfl) ?_ (fun hHeld => ?_)
   ·exact KB.out _ (Below.refl _ _).drew
   refine tw (i := 0) rfl ?_
   refine tw (i := 1) rfl ?_
   refine tw (i := 2) rfl ?_
   refine tw (i := 3) rfl ?_
   try simp only [Act.put, List.setIfInBounds_toArray, List.set_cons_zero, List.set_cons_succ, List.getElem_toArray, List.getElem_cons_succ, List.getElem_cons_zero]
   refine tw (i := 4) rfl ?_
   refine tw (i := 5) rfl ?_
   refine tw (i := 6) rfl ?_
   refine tw (i := 7) rfl ?_
   try simp only [Act.put, List.setIfInBounds_toArray, List.set_cons_zero, List.set_cons_succ, List.getElem_toArray, List.getElem_cons_succ, List.getElem_cons_zero]
   refine wpAnyH_ready (rs := [8]) (by kernel_rfl) (by simp) ?_
   refine AllReadyH.cons rfl (fun K hK => ?_) AllReadyH.nil
   go_simp
   go_wp2_with (go_at_call 95; refine (E.out _ (by first | exact Below.refl _ _ | exact (Below.refl _ _).drew | exact Go.below_drewN (Below.refl _ _) _)).mono ?_; rintro e w5 ⟨rfl, b5⟩)
   have D5 : Hid (Below wr.heap.size wr w5) := bT ((Below.refl wr.heap.size wr).drew) b5
   clear b5
   refine hK.out _ _ ?_ (fun hHeld => ?_)
   ·exact KB.out _ D5.out
   clear hK K
   refine tw (i := 9) rfl ?_
   try simp only [Act.put, List.setIfInBounds_toArray, List.set_cons_zero, List.set_cons_succ, List.getElem_toArray, List.getElem_cons_succ, List.getElem_cons_zero]
   refine wpAnyH_done (by kernel_rfl) ?_ _
   have BQ5 := Lib.hid (bT H2.out D5.out)
   clear D5 KB E c0 c1 d0 d1
   go_wp2_with fail
   go_roundw
   case rel => exact ⟨j + 1, by go_num, by omega, BQ5⟩
   case measure => simp [intOf]; omega
  ·have h1' : ¬ (j : Int) < (n : Int) := by omega
   go_wp2
   go_ret
   exact ⟨rfl, H2.out⟩
structure OwnC (C : Nat) (w : World) (b1 b2 b3 b4 : Nat) (rs : List LSt) (ps : List LPr) (bs : List LPr) (ls : List LPl) : Prop where
 t : OwnT C w b1 b2 rs ps
 r3 : Row3 w b3 103 bs.length (bs.map prT)
 r4 : Row2 w b4 ls.length ls
 lo3 : C ≤ b3
 lo4 : C ≤ b4
theorem OwnC.below {C : Nat} {w w' : World} {b1 b2 b3 b4 : Nat} {rs : List LSt} {ps : List LPr} {bs : List LPr} {ls : List LPl} (h : OwnC C w b1 b2 b3 b4 rs ps bs ls) (hb : Below w.heap.size w w') : OwnC C w' b1 b2 b3 b4 rs ps bs ls :=
 ⟨h.t.below hb, h.r3.below hb, h.r4.below hb, h.lo3, h.lo4⟩
structure OwnSg (C : Nat) (w : World) (b1 b2 b3 b4 b5 : Nat) (rs : List LSt) (ps : List LPr) (bs : List LPr) (ls : List LPl) (us : List Int) : Prop where
 c : OwnC C w b1 b2 b3 b4 rs ps bs ls
 r5 : RowZ w b5 us
 lo5 : C ≤ b5
theorem RowZ.frame {w w' : World} {g : Nat} {zs : List Int} (h : RowZ w g zs) (hf : w'.heap[g]? = w.heap[g]?) : RowZ w' g zs := hf.trans h
theorem OwnSg.below {C : Nat} {w w' : World} {b1 b2 b3 b4 b5 : Nat} {rs : List LSt} {ps : List LPr} {bs : List LPr} {ls : List LPl} {us : List Int} (h : OwnSg C w b1 b2 b3 b4 b5 rs ps bs ls us) (hb : Below w.heap.size w w') : OwnSg C w' b1 b2 b3 b4 b5 rs ps bs ls us := ⟨h.c.below hb, h.r5.below hb, h.lo5⟩
def KeepG (w w' : World) : Prop := ∀ (b : Nat) (vs : Array Value) (t : TypeId), (t = 165 ∨ t = 103 ∨ t = 131) → w.heap[b]? = some (.cells vs t) → w'.heap[b]? = some (.cells vs t)
theorem KeepG.refl (w : World) : KeepG w w := fun _ _ _ _ h => h
theorem KeepG.trans {u v w : World} (h : KeepG u v) (k : KeepG v w) : KeepG u w := fun b vs t ht g => k b vs t ht (h b vs t ht g)
theorem KeepG.only {w w' : World} {g : Nat} {t : TypeId} {us : Array Value} (ho : Only g w w') (hg : w.heap[g]? = some (.cells us t)) (ht : t ≠ 165 ∧ t ≠ 103 ∧ t ≠ 131) : KeepG w w' := fun b vs t' ht' h => by
 by_cases e : b = g
 ·subst e
  rw [hg] at h
  cases h
  rcases ht' with h | h | h
  ·exact absurd h ht.1
  ·exact absurd h ht.2.1
  ·exact absurd h ht.2.2
 ·exact (ho.block b (Array.getElem?_eq_some_iff.1 h).1 e).trans h
theorem KeepG.below {w w' : World} (hb : Below w.heap.size w w') : KeepG w w' := fun b vs t _ h => (hb.block b (Array.getElem?_eq_some_iff.1 h).1).trans h
def KeepBd (w w' : World) : Prop := ∀ (b : Nat) (vs : Array Value) (t : TypeId), (t = 103 ∨ t = 131) → w.heap[b]? = some (.cells vs t) → w'.heap[b]? = some (.cells vs t)
theorem KeepG.b {w w' : World} (h : KeepG w w') : KeepBd w w' := fun b vs t ht g => h b vs t (.inr ht) g
theorem KeepBd.trans {u v w : World} (h : KeepBd u v) (k : KeepBd v w) : KeepBd u w := fun b vs t ht g => k b vs t ht (h b vs t ht g)
theorem KeepBd.only {w w' : World} {g : Nat} {us : Array Value} (ho : Only g w w') (hg : w.heap[g]? = some (.cells us 165)) : KeepBd w w' := fun b vs t' ht' h => by
 by_cases e : b = g
 ·subst e
  rw [hg] at h
  cases h
  rcases ht' with h | h <;> cases h
 ·exact (ho.block b (Array.getElem?_eq_some_iff.1 h).1 e).trans h
set_option maxRecDepth 100000 in
set_option maxHeartbeats 1000000 in
theorem mkSG_any (C L b : Nat) (rs : List LSt) (k : Int) (hn : rs.length + totD rs ≤ 1048576) (k0 : 0 ≤ k) (k1 : k ≤ 10000000) (w : World) (h : StM C L w b rs) :
  Calls Tryz.prog 81 #[.slice (some ⟨b, 0, none⟩) rs.length rs.length, .int .i64 k] w fun e w' => e = .returned (.int .i64 (k + 2 * (rs.length : Int) + (totD rs : Int))) ∧ KeepG w w' ∧ Btw C L w w' := by
 have H := Lib.hid h
 have hlo := h.lo
 have hhi := h.hi
 clear h
 have TD := Lib.hid (fun j => totD_le rs j)
 generalize hN : rs.length = n at *
 have HN := Lib.hid hN
 clear hN
 go_enter Tryz.func81, Tryz.ntmps81
 go_wp2
 go_loopw [1, 5] (fun m i wr => ∃ j : Nat, i = .int .i64 j ∧ m = .int .i64 (k + 2 * (j : Int) + (totD (rs.take j) : Int)) ∧ j ≤ n ∧ Hid (StM C L wr b rs) ∧ Hid (KeepG w wr) ∧ Hid (Btw C L w wr)) (fun _ i _ => n - (intOf i).toNat)
 case atStart => exact ⟨0, rfl, by simp [totD], Nat.zero_le _, H, KeepG.refl _, Btw.refl _ _ _⟩
 case round =>
  obtain ⟨j, rfl, rfl, hj, H1, KP, H2⟩ := hrel
  have hj0 : (0 : Int) ≤ (j : Int) := by omega
  by_cases h1 : j < n
  ·have h1' : (j : Int) < (n : Int) := by omega
   have hlt : j < rs.length := by rw [HN.out]; exact h1
   have tn := totD_take rs j hlt
   have t1 := TD.out (j + 1)
   obtain ⟨g, us, eg, hg, hus, g1, g2⟩ := H1.out.dom rs[j] (List.getElem_mem hlt)
   obtain ⟨⟨v0, c0⟩, f0⟩ := H1.out.there (j * 3) (by rw [HN.out]; omega)
   obtain ⟨⟨v1, c1⟩, f1⟩ := H1.out.there (j * 3 + 1) (by rw [HN.out]; omega)
   have c2 := H1.out.at j hlt
   rw [eg] at c2
   have TN := Lib.hid tn
   generalize hS : totD (rs.take j) = s at *
   have hz0 : 0 ≤ k + 2 * (j : Int) + (s : Int) ∧ k + 2 * (j : Int) + (s : Int) ≤ 15000000 := by omega
   generalize hZ : k + 2 * (j : Int) + (s : Int) = z at *
   obtain ⟨z0, z1⟩ := hz0
   have O1 := Lib.hid (((Only.refl b wr).setCell (j * 3) (.int .i64 z)).setCell (j * 3 + 1) (.int .i64 (z + 1)))
   have S1 := Lib.hid ((H1.out.kind (j * 3) (fun i => by omega) (.int .i64 z)).kind (j * 3 + 1) (fun i => by omega) (.int .i64 (z + 1)))
   have K1 : Hid (KeepG w ((wr.setCell ⟨b, j * 3, none⟩ (.int .i64 z)).setCell ⟨b, j * 3 + 1, none⟩ (.int .i64 (z + 1)))) := by
    obtain ⟨vs, r1, -, -⟩ := H1.out.row
    exact KP.out.trans (KeepG.only O1.out r1 (by decide))
   have B1 := Lib.hid (H2.out.only O1.out hlo hhi)
   obtain ⟨g', us', eg', hg', hus', -, -⟩ := S1.out.dom rs[j] (List.getElem_mem hlt)
   obtain rfl : g = g' := by rw [eg] at eg'; simpa using eg'
   generalize rs[j].2.2.2.length = q at *
   have M1 := Lib.hid (mark_some g q us'.size q (z + 1 + 1) (by omega) (by omega) (by omega) (by omega) _ ⟨us', hg', rfl, fun i hi => absurd hi (Nat.not_lt_zero _)⟩)
   have HG := Lib.hid hg'
   have ZE := Lib.hid hZ
   clear hg hg' hus hus' eg eg' hlt O1 H1 tn hS hZ
   go_wp2_with fail
   refine M1.out.mono ?_
   rintro e w2 ⟨rfl, ⟨us2, m1, m2, -⟩, o2⟩
   have S2 := Lib.hid (S1.out.rowed us' us2 HG.out m1 m2 o2)
   have K2 := Lib.hid (K1.out.trans (KeepG.only o2 HG.out (by decide)))
   have B2 := Lib.hid (B1.out.only o2 g1 g2)
   clear m1 m2 o2 M1 S1 K1 B1 HG KP H2
   go_wp2
   go_roundw
   case rel => exact ⟨j + 1, by go_num, by have t9 := TN.out; have z9 := ZE.out; rw [t9]; congr 1; push_cast; omega, by omega, S2, K2, B2⟩
   case measure => simp [intOf]; omega
  ·have h1' : ¬ (j : Int) < (n : Int) := by omega
   have P := Lib.hid (show (k + 2 * (j : Int) + (totD (rs.take j) : Int)) = k + 2 * (n : Int) + (totD rs : Int) ∧ KeepG w wr ∧ Btw C L w wr from by
    refine ⟨?_, KP.out, H2.out⟩
    rw [List.take_of_length_le (by rw [HN.out]; omega)]
    omega)
   clear KP H2 H1
   go_wp2
   go_ret
   exact ⟨by rw [← P.out.1]; rfl, P.out.2.1, P.out.2.2⟩
set_option maxRecDepth 100000 in
set_option maxHeartbeats 1000000 in
theorem mkTG_any (C L b1 b2 : Nat) (rs : List LSt) (m : Nat) (hn : rs.length + totD rs + m ≤ 1048576) (w : World) (h : StM C L w b1 rs) (h2 : PrM w b2 m) (l1 : C ≤ b2) (l2 : b2 < L) (hL : L ≤ w.heap.size) :
  Calls Tryz.prog 25 #[TV (some ⟨b1, 0, none⟩) rs.length rs.length (some ⟨b2, 0, none⟩) m m, .int .i64 1] w fun e w' => ∃ k : Int, (0 ≤ k ∧ k ≤ 4000000) ∧ e = .returned (.int .i64 k) ∧ Btw C L w w' ∧ KeepBd w w' := by
 have E1 := Lib.hid (mkSG_any C L b1 rs 1 (by omega) (by omega) (by omega) _ (h.below (bA0 w (.cells #[.slice (some ⟨b1, 0, none⟩) rs.length rs.length, .slice (some ⟨b2, 0, none⟩) m m] 26))))
 have E2 : Hid (∀ (k : Int) (W : World), 0 ≤ k → k ≤ 20000000 → PrM W b2 m → Calls Tryz.prog 82 #[.slice (some ⟨b2, 0, none⟩) m m, .int .i64 k] W fun e w' => e = .returned (.int .i64 (k + 3 * (m : Int))) ∧ Only b2 W w') := fun k W a b c => mkP_any b2 m k (by omega) a b W c
 have PM := Lib.hid h2
 have HT := Lib.hid (TabAtD.new w (some ⟨b1, 0, none⟩) rs.length rs.length (some ⟨b2, 0, none⟩) m m)
 have hK : (0 : Int) ≤ 1 + 2 * (rs.length : Int) + (totD rs : Int) ∧ 1 + 2 * (rs.length : Int) + (totD rs : Int) ≤ 20000000 ∧ 1 + 2 * (rs.length : Int) + (totD rs : Int) + 3 * (m : Int) ≤ 4000000 := by omega
 clear h h2
 generalize 1 + 2 * (rs.length : Int) + (totD rs : Int) = k at *
 generalize rs.length = n at *
 obtain ⟨k0, k1, k2⟩ := hK
 go_enter Tryz.func25, Tryz.ntmps25
 go_wp2_with fail
 refine E1.out.mono ?_
 rintro e w1 ⟨rfl, kp, b1'⟩
 have PM1 : Hid (PrM w1 b2 m) := by
  obtain ⟨vs, q1, q2⟩ := PM.out
  exact ⟨vs, kp _ _ 165 (.inl rfl) (KeepG.below (bA0 w _) _ _ 165 (.inl rfl) q1), q2⟩
 have KB1 := Lib.hid ((KeepG.below (bA0 w _)).b.trans kp.b)
 have T1 := Lib.hid ((b1'.block w.heap.size (by simp) (.inr hL)).trans HT.out)
 have B1 := Lib.hid ((Btw.alloc (B := C) (L := L) w _).trans b1')
 have tl : w.heap.size < w1.heap.size := (Array.getElem?_eq_some_iff.1 T1.out).1
 obtain ⟨t0, t1⟩ := TabAtD.cells (show TabAtD w1 w.heap.size (some ⟨b1, 0, none⟩) n n (some ⟨b2, 0, none⟩) m m from T1.out)
 clear kp b1' E1 HT PM
 go_wp2_with fail
 refine (E2.out _ _ k0 k1 PM1.out).mono ?_
 rintro e w2 ⟨rfl, o2⟩
 have P := Lib.hid (And.intro (B1.out.only o2 l1 l2) (KB1.out.trans (KeepBd.only o2 PM1.out.choose_spec.1)))
 have hq : (0 : Int) ≤ k + 3 * (m : Int) ∧ k + 3 * (m : Int) ≤ 4000000 := ⟨by omega, k2⟩
 clear k2
 clear o2 PM1 T1 B1 E2 t0 t1
 generalize k + 3 * (m : Int) = q at *
 go_wp2
 go_ret
 exact ⟨_, hq, rfl, P.out⟩
end Go.Proofs.YtnihhbfgbilimaaGreatDoor
