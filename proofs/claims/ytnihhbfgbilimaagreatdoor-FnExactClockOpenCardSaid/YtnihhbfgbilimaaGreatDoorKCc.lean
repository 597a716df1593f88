import Derived.Test.YtnihhbfgbilimaaGreatDoorZOa
import Derived.Test.YtnihhbfgbilimaaGreatDoorZCa
namespace Go.Proofs.YtnihhbfgbilimaaGreatDoor
open Go.RowKit
set_option linter.unusedVariables false
open List (setIfInBounds_toArray set_cons_zero set_cons_succ getElem_toArray getElem_cons_succ getElem_cons_zero)
set_option linter.unusedSimpArgs false
set_option maxRecDepth 100000 in
set_option maxHeartbeats 1000000 in
theorem eqBd_any (a b q : Int) (w : World) : Calls Tryz.prog 157 #[.agg #[.int .i64 a, .int .i64 b, .int .i64 q], .agg #[.int .i64 a, .int .i64 b, .int .i64 q]] w fun e w' => e = .returned (.bool true) ∧ Below w.heap.size w w' := by
 go_enter Tryz.func157, Tryz.ntmps157
 go_wp2
 go_ret
 exact ⟨rfl, bA (bA0 _ _) _⟩
set_option maxRecDepth 100000 in
set_option maxHeartbeats 2000000 in
theorem eqBS_any (sl sl' : Option Addr) (cap cap' : Nat) (ps : List LPr) (w : World) (hn : ps.length ≤ 1048576) (h : Prs w sl ps) (h' : Prs w sl' ps) :
  Calls Tryz.prog 106 #[.slice sl ps.length cap, .slice sl' ps.length cap'] w fun e w' => e = .returned (.bool true) ∧ Below w.heap.size w w' := by
 have H := Lib.hid h
 have H' := Lib.hid h'
 clear h h'
 generalize hN : ps.length = n at *
 have HN := Lib.hid hN
 clear hN
 go_enter Tryz.func106, Tryz.ntmps106
 go_wp2
 go_loopw [5] (fun i wr => ∃ j : Nat, i = .int .i64 j ∧ j ≤ n ∧ Hid (Below w.heap.size w wr)) (fun i _ => n - (intOf i).toNat)
 case atStart => exact ⟨0, rfl, Nat.zero_le _, Below.refl _ _⟩
 case round =>
  obtain ⟨j, rfl, hj, H2⟩ := hrel
  have hj0 : (0 : Int) ≤ (j : Int) := by omega
  by_cases h1 : j < n
  ·have h1' : (j : Int) < (n : Int) := by omega
   have hlt : j < ps.length := by rw [HN.out]; exact h1
   obtain ⟨g, o, rfl, Z0⟩ : ∃ c o, sl = some ⟨c, o, none⟩ ∧ PrAt w c o ps := by
    rcases H.out with e | h
    ·rw [e] at hlt; simp at hlt
    ·exact h
   obtain ⟨g', o', rfl, Z0'⟩ : ∃ c o, sl' = some ⟨c, o, none⟩ ∧ PrAt w c o ps := by
    rcases H'.out with e | h
    ·rw [e] at hlt; simp at hlt
    ·exact h
   obtain ⟨c0, c1, c2⟩ := (Z0.below H2.out).cell j hlt
   obtain ⟨d0, d1, d2⟩ := (Z0'.below H2.out).cell j hlt
   have hgl := (Z0.below H2.out).lt
   have hgl' := (Z0'.below H2.out).lt
   obtain ⟨x, y, q, hp⟩ : ∃ a b q, ps[j] = (a, b, q) := ⟨_, _, _, rfl⟩
   rw [hp] at c0 c1 c2 d0 d1 d2
   dsimp only at c0 c1 c2 d0 d1 d2
   have E : Hid (∀ W, Below wr.heap.size wr W → Calls Tryz.prog 157 #[.agg #[.int .i64 x, .int .i64 y, .int .i64 q], .agg #[.int .i64 x, .int .i64 y, .int .i64 q]] W fun e w' => e = .returned (.bool true) ∧ Below W.heap.size W w') := fun W _ => eqBd_any x y q W
   have KB : Hid (∀ W, Below wr.heap.size wr W → g < W.heap.size ∧ g' < W.heap.size ∧ W.cell? ⟨g, o + j * 3, none⟩ = some (.int .i64 x) ∧ W.cell? ⟨g, o + j * 3 + 1, none⟩ = some (.int .i64 y) ∧ W.cell? ⟨g, o + j * 3 + 2, none⟩ = some (.int .i64 q) ∧ W.cell? ⟨g', o' + j * 3, none⟩ = some (.int .i64 x) ∧ W.cell? ⟨g', o' + j * 3 + 1, none⟩ = some (.int .i64 y) ∧ W.cell? ⟨g', o' + j * 3 + 2, none⟩ = some (.int .i64 q)) := fun W hW => ⟨Nat.lt_of_lt_of_le hgl hW.size, Nat.lt_of_lt_of_le hgl' hW.size, (hW.cell hgl).trans c0, (hW.cell hgl).trans c1, (hW.cell hgl).trans c2, (hW.cell hgl').trans d0, (hW.cell hgl').trans d1, (hW.cell hgl').trans d2⟩
   clear hp hlt Z0 Z0'
   go_wp2_with fail
   refine wp_region_held_drew (S := fun W => g < W.heap.size ∧ g' < W.heap.size ∧ W.cell? ⟨g, o + j * 3, none⟩ = some (.int .i64 x) ∧ W.cell? ⟨g, o + j * 3 + 1, none⟩ = some (.int .i64 y) ∧ W.cell? ⟨g, o + j * 3 + 2, none⟩ = some (.int .i64 q) ∧ W.cell? ⟨g', o' + j * 3, none⟩ = some (.int .i64 x) ∧ W.cell? ⟨g', o' + j * 3 + 1, none⟩ = some (.int .i64 y) ∧ W.cell? ⟨g', o' + j * 3 + 2, none⟩ = some (.int .i64 q)) (by kernel_rfl) ?_ (fun hHeld => ?_)
   ·exact KB.out _ (Below.refl _ _).drew
   refine wpAnyH_take (i := 0) (oi := _) (v := ?_) rfl (by kernel_rfl) (by kernel_rfl) (by kernel_rfl) (fun _ _ _ h => h) (Or.inl ⟨by rfl, ?_⟩) (by assumption) ?_
   rotate_left
   ·intro w hSw; (try dsimp only at hSw); go_simp; try with_reducible rfl
   try simp only [Act.put, setIfInBounds_toArray, set_cons_zero, set_cons_succ, getElem_toArray, getElem_cons_zero]
   refine wpAnyH_take (i := 1) (oi := _) (v := ?_) rfl (by kernel_rfl) (by kernel_rfl) (by kernel_rfl) (fun _ _ _ h => h) (Or.inl ⟨by rfl, ?_⟩) (by assumption) ?_
   rotate_left
   ·intro w hSw; (try dsimp only at hSw); go_simp; try with_reducible rfl
   try simp only [Act.put, setIfInBounds_toArray, set_cons_zero, set_cons_succ, getElem_toArray, getElem_cons_succ, getElem_cons_zero]
   refine wpAnyH_take (i := 2) (oi := _) (v := ?_) rfl (by kernel_rfl) (by kernel_rfl) (by kernel_rfl) (fun _ _ _ h => h) (Or.inl ⟨by rfl, ?_⟩) (by assumption) ?_
   rotate_left
   ·intro w hSw; (try dsimp only at hSw); go_simp; try with_reducible rfl
   try simp only [Act.put, setIfInBounds_toArray, set_cons_zero, set_cons_succ, getElem_toArray, getElem_cons_succ, getElem_cons_zero]
   refine wpAnyH_take (i := 3) (oi := _) (v := ?_) rfl (by kernel_rfl) (by kernel_rfl) (by kernel_rfl) (fun _ _ _ h => h) (Or.inl ⟨by rfl, ?_⟩) (by assumption) ?_
   rotate_left
   ·intro w hSw; (try dsimp only at hSw); go_simp; try with_reducible rfl
   try simp only [Act.put, setIfInBounds_toArray, set_cons_zero, set_cons_succ, getElem_toArray, getElem_cons_succ, getElem_cons_zero]
   refine wpAnyH_take (i := 4) (oi := _) (v := ?_) rfl (by kernel_rfl) (by kernel_rfl) (by kernel_rfl) (fun _ _ _ h => h) (Or.inl ⟨by rfl, ?_⟩) (by assumption) ?_
   rotate_left
   ·intro w hSw; (try dsimp only at hSw); go_simp; try with_reducible rfl
   try simp only [Act.put, setIfInBounds_toArray, set_cons_zero, set_cons_succ, getElem_toArray, getElem_cons_succ, getElem_cons_zero]
   refine wpAnyH_take (i := 5) (oi := _) (v := ?_) rfl (by kernel_rfl) (by kernel_rfl) (by kernel_rfl) (fun _ _ _ h => h) (Or.inl ⟨by rfl, ?_⟩) (by assumption) ?_
   rotate_left
   ·intro w hSw; (try dsimp only at hSw); go_simp; try with_reducible rfl
   try simp only [Act.put, setIfInBounds_toArray, set_cons_zero, set_cons_succ, getElem_toArray, getElem_cons_succ, getElem_cons_zero]
   refine wpAnyH_take (i := 6) (oi := _) (v := ?_) rfl (by kernel_rfl) (by kernel_rfl) (by kernel_rfl) (fun _ _ _ h => h) (Or.inl ⟨by rfl, ?_⟩) (by assumption) ?_
   rotate_left
   ·intro w hSw; (try dsimp only at hSw); go_simp; try with_reducible rfl
   try simp only [Act.put, setIfInBounds_toArray, set_cons_zero, set_cons_succ, getElem_toArray, getElem_cons_succ, getElem_cons_zero]
   refine wpAnyH_take (i := 7) (oi := _) (v := ?_) rfl (by kernel_rfl) (by kernel_rfl) (by kernel_rfl) (fun _ _ _ h => h) (Or.inl ⟨by rfl, ?_⟩) (by assumption) ?_
   rotate_left
   ·intro w hSw; (try dsimp only at hSw); go_simp; try with_reducible rfl
   try simp only [Act.put, setIfInBounds_toArray, set_cons_zero, set_cons_succ, getElem_toArray, getElem_cons_succ, getElem_cons_zero]
   refine wpAnyH_ready (rs := [8]) (by kernel_rfl) (by simp) ?_
   refine AllReadyH.cons rfl (fun K hK => ?_) AllReadyH.nil
   go_simp
   go_wp2_with (go_at_call 157; refine (E.out _ (by first | exact Below.refl _ _ | exact (Below.refl _ _).drew | exact Go.below_drewN (Below.refl _ _) _)).mono ?_; rintro e w5 ⟨rfl, b5⟩)
   have D5 : Hid (Below wr.heap.size wr w5) := bT ((Below.refl wr.heap.size wr).drew) b5
   clear b5
   refine hK.out _ _ ?_ (fun hHeld => ?_)
   ·exact KB.out _ D5.out
   clear hK K
   refine wpAnyH_take (i := 9) (oi := _) (v := ?_) rfl (by kernel_rfl) (by kernel_rfl) (by kernel_rfl) (fun _ _ _ h => h) (Or.inl ⟨by rfl, ?_⟩) (by assumption) ?_
   rotate_left
   ·intro w hSw; (try dsimp only at hSw); go_simp; try with_reducible rfl
   try simp only [Act.put, setIfInBounds_toArray, set_cons_zero, set_cons_succ, getElem_toArray, getElem_cons_succ, getElem_cons_zero]
   refine wpAnyH_done (by kernel_rfl) ?_ _
   have BQ5 := Lib.hid (bT H2.out D5.out)
   clear D5 KB E c0 c1 c2 d0 d1 d2
   go_wp2_with fail
   go_roundw
   case rel => exact ⟨j + 1, by go_num, by omega, BQ5⟩
   case measure => simp [intOf]; omega
  ·have h1' : ¬ (j : Int) < (n : Int) := by omega
   go_wp2
   go_ret
   exact ⟨rfl, H2.out⟩
abbrev CVk (sl : Option Addr) (n cap : Nat) (sl2 : Option Addr) (m cap2 : Nat) (top pr st bu : Int) (sl3 : Option Addr) (q cap3 : Nat) (sl4 : Option Addr) (p cap4 : Nat) : Value :=
 .agg #[.slice sl n cap, .slice sl2 m cap2, .int .i64 top, .int .i64 pr, .int .i64 st, .int .i64 bu, .slice sl3 q cap3, .slice sl4 p cap4]
theorem cells8 {w : World} {b : Nat} {t : TypeId} {a0 a1 a2 a3 a4 a5 a6 a7 : Value} (h : w.heap[b]? = some (.cells #[a0, a1, a2, a3, a4, a5, a6, a7] t)) :
  w.cell? ⟨b, 0, none⟩ = some a0 ∧ w.cell? ⟨b, 1, none⟩ = some a1 ∧ w.cell? ⟨b, 2, none⟩ = some a2 ∧ w.cell? ⟨b, 3, none⟩ = some a3 ∧ w.cell? ⟨b, 4, none⟩ = some a4 ∧ w.cell? ⟨b, 5, none⟩ = some a5 ∧ w.cell? ⟨b, 6, none⟩ = some a6 ∧ w.cell? ⟨b, 7, none⟩ = some a7 ∧ (∀ o, w.frozen? ⟨b, o, none⟩ = false) ∧ b < w.heap.size := by
 refine ⟨?_, ?_, ?_, ?_, ?_, ?_, ?_, ?_, fun o => ?_, (Array.getElem?_eq_some_iff.1 h).1⟩ <;> simp [World.cell?, World.frozen?, h]
set_option maxRecDepth 100000 in
set_option maxHeartbeats 2000000 in
theorem eqC_any (sl sl' : Option Addr) (cap cap' : Nat) (tl tl' : Option Addr) (kap kap' : Nat) (top pr st bu : Int) (bl bl' : Option Addr) (cb cb' : Nat) (pl pl' : Option Addr) (cp cp' : Nat) (rs rs' : List LSt) (ps : List LPr) (bs : List LPr) (ls : List LPl) (w : World) (hn : rs.length ≤ 1048576) (hm : ps.length ≤ 1048576) (hq : bs.length ≤ 1048576) (hl : ls.length ≤ 1048576) (hb : bareS rs = bareS rs') (h : Sts w sl rs) (h' : Sts w sl' rs') (hp : Prs w tl ps) (hp' : Prs w tl' ps) (hbs : Prs w bl bs) (hbs' : Prs w bl' bs) (hls : Pls w pl ls) (hls' : Pls w pl' ls) :
  Calls Tryz.prog 45 #[CVk sl rs.length cap tl ps.length kap top pr st bu bl bs.length cb pl ls.length cp, CVk sl' rs'.length cap' tl' ps.length kap' top pr st bu bl' bs.length cb' pl' ls.length cp'] w fun e w' => e = .returned (.bool true) ∧ Below w.heap.size w w' := by
 have E1 : Hid (∀ W, Below w.heap.size w W → Calls Tryz.prog 23 #[TV sl rs.length cap tl ps.length kap, TV sl' rs'.length cap' tl' ps.length kap'] W fun e w' => e = .returned (.bool true) ∧ Below W.heap.size W w') := fun W hW => eqT_any sl sl' cap cap' tl tl' kap kap' rs rs' ps W hn hm hb (h.below hW) (h'.below hW) (hp.below hW) (hp'.below hW)
 have E2 : Hid (∀ W, Below w.heap.size w W → Calls Tryz.prog 106 #[.slice bl bs.length cb, .slice bl' bs.length cb'] W fun e w' => e = .returned (.bool true) ∧ Below W.heap.size W w') := fun W hW => eqBS_any bl bl' cb cb' bs W hq (hbs.below hW) (hbs'.below hW)
 have E3 : Hid (∀ W, Below w.heap.size w W → Calls Tryz.prog 33 #[.slice pl ls.length cp, .slice pl' ls.length cp'] W fun e w' => e = .returned (.bool true) ∧ Below W.heap.size W w') := fun W hW => eqPlS_any pl pl' cp cp' ls W hl (hls.below hW) (hls'.below hW)
 clear h h' hp hp' hb hbs hbs' hls hls'
 generalize rs.length = n at *
 generalize rs'.length = n' at *
 generalize ps.length = m at *
 generalize bs.length = q at *
 generalize ls.length = p at *
 go_enter Tryz.func45, Tryz.ntmps45
 go_wp2_with fail
 refine (E1.out _ (bA (bA0 _ _) _)).mono ?_
 rintro e w1 ⟨rfl, b1⟩
 have D1 := Lib.hid (bT (bA (bA0 w _) _) b1)
 have A1 := Lib.hid b1
 obtain ⟨hc, hf⟩ := bcell b1
 clear b1
 go_wp2_with fail
 refine (E2.out _ D1.out).mono ?_
 rintro e w2 ⟨rfl, b2⟩
 have D2 := Lib.hid (bT D1.out b2)
 have A2 := Lib.hid (bT A1.out b2)
 clear hc hf
 obtain ⟨hc, hf⟩ := bcell A2.out
 clear b2 A1
 go_wp2_with fail
 refine (E3.out _ D2.out).mono ?_
 rintro e w3 ⟨rfl, b3⟩
 have D3 := Lib.hid (bT D2.out b3)
 clear b3
 go_wp2
 go_ret
 exact ⟨rfl, D3.out⟩
abbrev COV (v1 v2 : Value) (top pr st bu : Int) (v3 v4 : Value) (rd cd : Int) : Value := .agg #[v1, v2, .int .i64 top, .int .i64 pr, .int .i64 st, .int .i64 bu, v3, v4, .slice none 0 0, .slice none 0 0, .int .i64 rd, .int .i64 cd]
abbrev COC (v1 v2 : Value) (top pr st bu : Int) (v3 v4 : Value) (rd cd : Int) : Obj := .cells #[v1, v2, .int .i64 top, .int .i64 pr, .int .i64 st, .int .i64 bu, v3, v4, .slice none 0 0, .slice none 0 0, .int .i64 rd, .int .i64 cd] 36
abbrev CLC (v1 v2 : Value) (top pr st bu : Int) (v3 v4 : Value) : Obj := .cells #[v1, v2, .int .i64 top, .int .i64 pr, .int .i64 st, .int .i64 bu, v3, v4] 30
theorem cells12 {w : World} {b : Nat} {t : TypeId} {a0 a1 a2 a3 a4 a5 a6 a7 a8 a9 a10 a11 : Value} (h : w.heap[b]? = some (.cells #[a0, a1, a2, a3, a4, a5, a6, a7, a8, a9, a10, a11] t)) :
  w.cell? ⟨b, 0, none⟩ = some a0 ∧ w.cell? ⟨b, 1, none⟩ = some a1 ∧ w.cell? ⟨b, 2, none⟩ = some a2 ∧ w.cell? ⟨b, 3, none⟩ = some a3 ∧ w.cell? ⟨b, 4, none⟩ = some a4 ∧ w.cell? ⟨b, 5, none⟩ = some a5 ∧ w.cell? ⟨b, 6, none⟩ = some a6 ∧ w.cell? ⟨b, 7, none⟩ = some a7 ∧ w.cell? ⟨b, 8, none⟩ = some a8 ∧ w.cell? ⟨b, 9, none⟩ = some a9 ∧ w.cell? ⟨b, 10, none⟩ = some a10 ∧ w.cell? ⟨b, 11, none⟩ = some a11 ∧ b < w.heap.size := by
 refine ⟨?_, ?_, ?_, ?_, ?_, ?_, ?_, ?_, ?_, ?_, ?_, ?_, (Array.getElem?_eq_some_iff.1 h).1⟩ <;> simp [World.cell?, h]
set_option maxRecDepth 100000 in
set_option maxHeartbeats 2000000 in
theorem eqCO_any (sl sl' : Option Addr) (cap cap' : Nat) (tl tl' : Option Addr) (kap kap' : Nat) (top pr st bu rd cd : Int) (bl bl' : Option Addr) (cb cb' : Nat) (pl pl' : Option Addr) (cp cp' : Nat) (rs rs' : List LSt) (ps : List LPr) (bs : List LPr) (ls : List LPl) (w : World) (hn : rs.length ≤ 1048576) (hm : ps.length ≤ 1048576) (hq : bs.length ≤ 1048576) (hl : ls.length ≤ 1048576) (hb : bareS rs = bareS rs') (h : Sts w sl rs) (h' : Sts w sl' rs') (hp : Prs w tl ps) (hp' : Prs w tl' ps) (hbs : Prs w bl bs) (hbs' : Prs w bl' bs) (hls : Pls w pl ls) (hls' : Pls w pl' ls) :
  Calls Tryz.prog 39 #[COV (.slice sl rs.length cap) (.slice tl ps.length kap) top pr st bu (.slice bl bs.length cb) (.slice pl ls.length cp) rd cd, COV (.slice sl' rs'.length cap') (.slice tl' ps.length kap') top pr st bu (.slice bl' bs.length cb') (.slice pl' ls.length cp') rd cd] w fun e w' => e = .returned (.bool true) ∧ Below w.heap.size w w' := by
 have E1 : Hid (∀ W, Below w.heap.size w W → Calls Tryz.prog 45 #[CVk sl rs.length cap tl ps.length kap top pr st bu bl bs.length cb pl ls.length cp, CVk sl' rs'.length cap' tl' ps.length kap' top pr st bu bl' bs.length cb' pl' ls.length cp'] W fun e w' => e = .returned (.bool true) ∧ Below W.heap.size W w') := fun W hW => eqC_any sl sl' cap cap' tl tl' kap kap' top pr st bu bl bl' cb cb' pl pl' cp cp' rs rs' ps bs ls W hn hm hq hl hb (h.below hW) (h'.below hW) (hp.below hW) (hp'.below hW) (hbs.below hW) (hbs'.below hW) (hls.below hW) (hls'.below hW)
 have E2 : Hid (∀ W, Calls Tryz.prog 24 #[.slice none 0 0, .slice none 0 0] W fun e w' => e = .returned (.bool true) ∧ Below W.heap.size W w') := fun W => eq_any none none 0 0 [] W (by simp) (.inl rfl) (.inl rfl)
 have hrd : (rd != rd) = false := by simp
 have hcd : (cd != cd) = false := by simp
 clear h h' hp hp' hb hbs hbs' hls hls'
 generalize rs.length = n at *
 generalize rs'.length = n' at *
 generalize ps.length = m at *
 generalize bs.length = q at *
 generalize ls.length = p at *
 go_enter Tryz.func39, Tryz.ntmps39
 go_wp2_with fail
 refine (E1.out _ (bA (bA0 _ _) _)).mono ?_
 rintro e w1 ⟨rfl, b1⟩
 have D1 := Lib.hid (bT (bA (bA0 w _) _) b1)
 have A1 := Lib.hid b1
 obtain ⟨hc, hf⟩ := bcell b1
 clear b1
 go_wp2_with fail
 refine (E2.out _).mono ?_
 rintro e w2 ⟨rfl, b2⟩
 have D2 := Lib.hid (bT D1.out b2)
 have A2 := Lib.hid (bT A1.out b2)
 clear hc hf
 obtain ⟨hc, hf⟩ := bcell A2.out
 clear b2 A1
 go_wp2_with fail
 refine (E2.out _).mono ?_
 rintro e w3 ⟨rfl, b3⟩
 have D3 := Lib.hid (bT D2.out b3)
 have A3 := Lib.hid (bT A2.out b3)
 clear hc hf
 obtain ⟨hc, hf⟩ := bcell A3.out
 clear b3 A2
 go_wp2
 go_ret
 exact ⟨rfl, D3.out⟩
def KC (w0 W : World) : Prop := ∀ (k : Nat) (us : Array Value) (t : TypeId), (t = 26 ∨ t = 30 ∨ t = 36) → w0.heap[k]? = some (.cells us t) → W.heap[k]? = some (.cells us t)
theorem KC.refl (W : World) : KC W W := fun _ _ _ _ h => h
theorem KC.trans {a b c : World} (h : KC a b) (g : KC b c) : KC a c := fun k us t ht hk => g k us t ht (h k us t ht hk)
theorem KC.below {W W' : World} (hb : Below W.heap.size W W') : KC W W' := fun k us t ht hk => (hb.block k (Array.getElem?_eq_some_iff.1 hk).1).trans hk
theorem KC.k92 {W W' : World} (h : K92 W W') : KC W W' := fun k us t ht hk => h k us t (by rcases ht with h | h | h <;> rw [h] <;> decide) (by rcases ht with h | h | h <;> rw [h] <;> decide) hk
theorem KC.grown {W W' : World} {B m : Nat} {e : TypeId} {v : Value} {n : Nat} {xs : List Value} (hv : W.ownsRow B e m v n xs) (he : e ≠ 26 ∧ e ≠ 30 ∧ e ≠ 36) (hg : W.grownBy W' v.ownBlock) : KC W W' := fun k us t ht hk => by
 refine (hg.block k (Array.getElem?_eq_some_iff.1 hk).1 (fun e0 => ?_)).trans hk
 refine own_kindne hv hk ?_ e0.symm
 rcases ht with h | h | h <;> rw [h]
 ·exact he.1
 ·exact he.2.1
 ·exact he.2.2
structure OwK (w : World) (B : Nat) (v1 v2 v3 v4 : Value) (rs : List LSt) (m q p : Nat) (xp xb xl : List Value) : Prop where
 fs : OwS w B v1 rs
 fp : w.ownsRow B 165 3 v2 m xp
 fb : w.ownsRow B 103 3 v3 q xb
 fl : w.ownsRow B 131 2 v4 p xl
theorem OwK.below {w w' : World} {B : Nat} {v1 v2 v3 v4 : Value} {rs : List LSt} {m q p : Nat} {xp xb xl : List Value} (h : OwK w B v1 v2 v3 v4 rs m q p xp xb xl) (hb : Below w.heap.size w w') : OwK w' B v1 v2 v3 v4 rs m q p xp xb xl :=
 ⟨h.fs.below hb, own_below h.fp hb, own_below h.fb hb, own_below h.fl hb⟩
theorem OwK.btw {X Y B : Nat} {w w' : World} {v1 v2 v3 v4 : Value} {rs : List LSt} {m q p : Nat} {xp xb xl : List Value} (h : OwK w B v1 v2 v3 v4 rs m q p xp xb xl) (hb : Btw X Y w w') (hY : Y ≤ B) : OwK w' B v1 v2 v3 v4 rs m q p xp xb xl :=
 ⟨h.fs.btw hb hY, own_btw h.fp hb (fun j hj => .inr (Nat.le_trans hY (h.fp.lt j hj).1)), own_btw h.fb hb (fun j hj => .inr (Nat.le_trans hY (h.fb.lt j hj).1)), own_btw h.fl hb (fun j hj => .inr (Nat.le_trans hY (h.fl.lt j hj).1))⟩
set_option maxRecDepth 100000 in
set_option maxHeartbeats 2000000 in
theorem mkT2_any (B : Nat) (sl : Option Addr) (cap n : Nat) (tl : Option Addr) (kap m : Nat) (v3 v4 : Value) (q p : Nat) (rs : List LSt) (xp xb xl : List Value) (w : World) (hn : rs.length = n) (hb : n + totD rs + m ≤ 1048576) (hB : B ≤ w.heap.size) (h : OwK w B (.slice sl n cap) (.slice tl m kap) v3 v4 rs m q p xp xb xl) :
  Calls Tryz.prog 25 #[.agg #[.slice sl n cap, .slice tl m kap], .int .i64 1] w fun e w' => e = .returned (.int .i64 (1 + (szR rs : Int) + 3 * (m : Int))) ∧ OwK w' B (.slice sl n cap) (.slice tl m kap) v3 v4 (mkR 1 rs) m q p (valsZ (marks (1 + (szR rs : Int)) (m * 3))) xb xl ∧ Below B w w' ∧ KC w w' := by
 have b0 := bA0 w (.cells #[.slice sl n cap, .slice tl m kap] 26)
 have h0 := h.below b0
 have E1 := Lib.hid (mkS_any B sl cap n rs 1 hn (by omega) (by omega) (by omega) _ (Nat.le_trans hB b0.size) h0.fs)
 have X0 := new_at w (.cells #[.slice sl n cap, .slice tl m kap] 26)
 have hs3 : szR rs ≤ 3000000 := by unfold szR; omega
 have E2 : Hid (∀ W, OwS W B (.slice sl n cap) (mkR 1 rs) → Below B (w.alloc (.cells #[.slice sl n cap, .slice tl m kap] 26)) W → K92 (w.alloc (.cells #[.slice sl n cap, .slice tl m kap] 26)) W → (W.heap[w.heap.size]? = some (.cells #[.slice sl n cap, .slice tl m kap] 26)) ∧ Calls Tryz.prog 82 #[.slice tl m kap, .int .i64 (1 + (szR rs : Int))] W fun e w' => e = .returned (.int .i64 (1 + (szR rs : Int) + 3 * (m : Int))) ∧ OwK w' B (.slice sl n cap) (.slice tl m kap) v3 v4 (mkR 1 rs) m q p (valsZ (marks (1 + (szR rs : Int)) (m * 3))) xb xl ∧ Below B w w' ∧ KC w w') := fun W hS hBW hK => by
  have hp := own_k92 h0.fp (by decide) (by decide) hK
  have hbd := own_k92 h0.fb (by decide) (by decide) hK
  have hl := own_k92 h0.fl (by decide) (by decide) hK
  refine ⟨hK _ _ _ (by decide) (by decide) X0, (mk3P_row B (.slice tl m kap) m xp (1 + (szR rs : Int)) (by omega) (by omega) (by omega) W hp).mono ?_⟩
  rintro e w' ⟨rfl, hp', hg⟩
  have hkc : KC w w' := ((KC.below b0).trans (KC.k92 hK)).trans (KC.grown hp (by decide) hg)
  have hbw : Below B w w' := ((b0.mono hB).trans hBW).grown hg (Nat.le_trans hB (Nat.le_trans b0.size hBW.size)) (fun j hj => (hp.lt j hj).1)
  exact ⟨rfl, ⟨hS.kept hp (by decide) (by decide) hg, hp', hbd.kept hg (own_diff hbd hp (by decide)), hl.kept hg (own_diff hl hp (by decide))⟩, hbw, hkc⟩
 clear h h0 hb X0 b0
 generalize 1 + (szR rs : Int) + 3 * (m : Int) = k2 at *
 generalize 1 + (szR rs : Int) = k1 at *
 go_enter Tryz.func25, Tryz.ntmps25
 go_wp2_with fail
 refine E1.out.mono ?_
 rintro e w1 ⟨rfl, o1, b1, kk⟩
 obtain ⟨X, C2⟩ := E2.out w1 o1 b1 kk
 have CC2 := Lib.hid C2
 have c1 := cellsAtS X
 clear o1 b1 kk E1 E2 X C2
 go_wp2_with fail
 refine CC2.out.mono ?_
 rintro e w2 ⟨rfl, o2, b2, k2⟩
 have PP := Lib.hid (show OwK w2 _ _ _ _ _ _ _ _ _ _ _ _ ∧ Below B w w2 ∧ KC w w2 from ⟨o2, b2, k2⟩)
 clear o2 b2 k2 CC2 c1
 go_wp2
 go_ret
 exact ⟨rfl, PP.out⟩
set_option maxRecDepth 100000 in
set_option maxHeartbeats 2000000 in
theorem mkC2_any (B : Nat) (sl : Option Addr) (cap n : Nat) (tl : Option Addr) (kap m : Nat) (bl : Option Addr) (cb q : Nat) (pl : Option Addr) (cp p : Nat) (top pr st bu : Int) (rs : List LSt) (xp xb xl : List Value) (w : World) (hn : rs.length = n) (hb : n + totD rs + m ≤ 1048576) (hq : q ≤ 1048576) (hp : p ≤ 1048576) (hB : B ≤ w.heap.size) (h : OwK w B (.slice sl n cap) (.slice tl m kap) (.slice bl q cb) (.slice pl p cp) rs m q p xp xb xl) :
  Calls Tryz.prog 46 #[CVk sl n cap tl m kap top pr st bu bl q cb pl p cp, .int .i64 1] w fun e w' => e = .returned (.int .i64 (1 + (szR rs : Int) + 3 * (m : Int) + 3 * (q : Int) + 2 * (p : Int))) ∧ OwK w' B (.slice sl n cap) (.slice tl m kap) (.slice bl q cb) (.slice pl p cp) (mkR 1 rs) m q p (valsZ (marks (1 + (szR rs : Int)) (m * 3))) (valsZ (marks (1 + (szR rs : Int) + 3 * (m : Int)) (q * 3))) (valsZ (marks (1 + (szR rs : Int) + 3 * (m : Int) + 3 * (q : Int)) (p * 2))) ∧ Below B w w' ∧ KC w w' := by
 have b0 := bA0 w (CLC (.slice sl n cap) (.slice tl m kap) top pr st bu (.slice bl q cb) (.slice pl p cp))
 have h0 := h.below b0
 have hs3 : szR rs ≤ 3000000 := by unfold szR; omega
 have E1 := Lib.hid (mkT2_any B sl cap n tl kap m (.slice bl q cb) (.slice pl p cp) q p rs xp xb xl _ hn hb (Nat.le_trans hB b0.size) h0)
 have X0 := new_at w (CLC (.slice sl n cap) (.slice tl m kap) top pr st bu (.slice bl q cb) (.slice pl p cp))
 have E2 : Hid (∀ (k : Int) W ys, 0 ≤ k → k ≤ 10000000 → OwK W B (.slice sl n cap) (.slice tl m kap) (.slice bl q cb) (.slice pl p cp) (mkR 1 rs) m q p ys xb xl → Below B w W → KC w W → Calls Tryz.prog 107 #[.slice bl q cb, .int .i64 k] W fun e w' => e = .returned (.int .i64 (k + 3 * (q : Int))) ∧ OwK w' B (.slice sl n cap) (.slice tl m kap) (.slice bl q cb) (.slice pl p cp) (mkR 1 rs) m q p ys (valsZ (marks k (q * 3))) xl ∧ Below B w w' ∧ KC W w') := fun k W ys k0 k1 o hbw hk => by
  refine (mk3B_row B (.slice bl q cb) q xb k hq k0 (by omega) W o.fb).mono ?_
  rintro e w' ⟨rfl, ob, hg⟩
  exact ⟨rfl, ⟨o.fs.kept o.fb (by decide) (by decide) hg, o.fp.kept hg (own_diff o.fp o.fb (by decide)), ob, o.fl.kept hg (own_diff o.fl o.fb (by decide))⟩, hbw.grown hg (Nat.le_trans hB hbw.size) (fun j hj => (o.fb.lt j hj).1), KC.grown o.fb (by decide) hg⟩
 have E3 : Hid (∀ (k : Int) W ys zs, 0 ≤ k → k ≤ 20000000 → OwK W B (.slice sl n cap) (.slice tl m kap) (.slice bl q cb) (.slice pl p cp) (mkR 1 rs) m q p ys zs xl → Below B w W → KC w W → Calls Tryz.prog 34 #[.slice pl p cp, .int .i64 k] W fun e w' => e = .returned (.int .i64 (k + 2 * (p : Int))) ∧ OwK w' B (.slice sl n cap) (.slice tl m kap) (.slice bl q cb) (.slice pl p cp) (mkR 1 rs) m q p ys zs (valsZ (marks k (p * 2))) ∧ Below B w w' ∧ KC W w') := fun k W ys zs k0 k1 o hbw hk => by
  refine (mark2_row B (.slice pl p cp) p xl k hp k0 (by omega) W o.fl).mono ?_
  rintro e w' ⟨rfl, ol, hg⟩
  exact ⟨rfl, ⟨o.fs.kept o.fl (by decide) (by decide) hg, o.fp.kept hg (own_diff o.fp o.fl (by decide)), o.fb.kept hg (own_diff o.fb o.fl (by decide)), ol⟩, hbw.grown hg (Nat.le_trans hB hbw.size) (fun j hj => (o.fl.lt j hj).1), KC.grown o.fl (by decide) hg⟩
 have HX := Lib.hid X0
 have HB0 := Lib.hid (show Below B w _ from b0.mono hB)
 have HK0 := Lib.hid (KC.below b0)
 have hk2 : 0 ≤ 1 + (szR rs : Int) + 3 * (m : Int) ∧ 1 + (szR rs : Int) + 3 * (m : Int) ≤ 10000000 := by omega
 have hk3 : 0 ≤ 1 + (szR rs : Int) + 3 * (m : Int) + 3 * (q : Int) ∧ 1 + (szR rs : Int) + 3 * (m : Int) + 3 * (q : Int) ≤ 20000000 := by omega
 clear h h0 hb X0 b0
 generalize 1 + (szR rs : Int) + 3 * (m : Int) = k2 at *
 generalize 1 + (szR rs : Int) = k1 at *
 obtain ⟨ka, kb⟩ := hk2
 obtain ⟨kc, kd⟩ := hk3
 obtain ⟨p0, p1, p2, p3, p4, p5, p6, p7, pf, pt⟩ := cells8 HX.out
 go_enter Tryz.func46, Tryz.ntmps46
 go_wp2_with fail
 refine E1.out.mono ?_
 rintro e w1 ⟨rfl, o1, b1, kk1⟩
 have B1 := Lib.hid (HB0.out.trans b1)
 have K1 := Lib.hid (HK0.out.trans kk1)
 have X1 := Lib.hid (kk1 _ _ _ (by decide) HX.out)
 have T2 := Lib.hid (E2.out _ w1 _ ka kb o1 B1.out K1.out)
 clear o1 b1 kk1 E1 E2 p0 p1 p2 p3 p4 p5 p6 p7 pf pt HX HB0 HK0
 obtain ⟨p0, p1, p2, p3, p4, p5, p6, p7, pf, pt⟩ := cells8 X1.out
 go_wp2_with fail
 refine T2.out.mono ?_
 rintro e w2 ⟨rfl, o2, b2, kk2⟩
 have B2 := Lib.hid b2
 have K2 := Lib.hid (K1.out.trans kk2)
 have X2 := Lib.hid (kk2 _ _ _ (by decide) X1.out)
 have T3 := Lib.hid (E3.out _ w2 _ _ kc kd o2 B2.out K2.out)
 clear o2 b2 kk2 E3 p0 p1 p2 p3 p4 p5 p6 p7 pf pt X1 K1 B1 T2
 obtain ⟨p0, p1, p2, p3, p4, p5, p6, p7, pf, pt⟩ := cells8 X2.out
 go_wp2_with fail
 refine T3.out.mono ?_
 rintro e w3 ⟨rfl, o3, b3, kk3⟩
 have PP := Lib.hid (show OwK w3 _ _ _ _ _ _ _ _ _ _ _ _ ∧ Below B w w3 ∧ KC w w3 from ⟨o3, b3, K2.out.trans kk3⟩)
 clear o3 b3 kk3 p0 p1 p2 p3 p4 p5 p6 p7 pf pt X2 K2 B2 T3
 go_wp2
 go_ret
 exact ⟨rfl, PP.out⟩
set_option maxRecDepth 100000 in
set_option maxHeartbeats 2000000 in
theorem mkCO_any (B : Nat) (sl : Option Addr) (cap n : Nat) (tl : Option Addr) (kap m : Nat) (bl : Option Addr) (cb q : Nat) (pl : Option Addr) (cp p : Nat) (top pr st bu rd cd : Int) (rs : List LSt) (xp xb xl : List Value) (w : World) (hn : rs.length = n) (hb : n + totD rs + m ≤ 1048576) (hq : q ≤ 1048576) (hp : p ≤ 1048576) (hB : B ≤ w.heap.size) (h : OwK w B (.slice sl n cap) (.slice tl m kap) (.slice bl q cb) (.slice pl p cp) rs m q p xp xb xl) :
  Calls Tryz.prog 40 #[COV (.slice sl n cap) (.slice tl m kap) top pr st bu (.slice bl q cb) (.slice pl p cp) rd cd, .int .i64 1] w fun e w' => e = .returned (.int .i64 (1 + (szR rs : Int) + 3 * (m : Int) + 3 * (q : Int) + 2 * (p : Int))) ∧ OwK w' B (.slice sl n cap) (.slice tl m kap) (.slice bl q cb) (.slice pl p cp) (mkR 1 rs) m q p (valsZ (marks (1 + (szR rs : Int)) (m * 3))) (valsZ (marks (1 + (szR rs : Int) + 3 * (m : Int)) (q * 3))) (valsZ (marks (1 + (szR rs : Int) + 3 * (m : Int) + 3 * (q : Int)) (p * 2))) ∧ Below B w w' ∧ KC w w' := by
 have b0 := bA0 w (COC (.slice sl n cap) (.slice tl m kap) top pr st bu (.slice bl q cb) (.slice pl p cp) rd cd)
 have E1 := Lib.hid (mkC2_any B sl cap n tl kap m bl cb q pl cp p top pr st bu rs xp xb xl _ hn hb hq hp (Nat.le_trans hB b0.size) (h.below b0))
 have HX := Lib.hid (new_at w (COC (.slice sl n cap) (.slice tl m kap) top pr st bu (.slice bl q cb) (.slice pl p cp) rd cd))
 have HB0 := Lib.hid (show Below B w _ from b0.mono hB)
 have HK0 := Lib.hid (KC.below b0)
 have E2 : Hid (∀ (k : Int) W, Calls Tryz.prog 26 #[.slice none 0 0, .int .i64 k] W fun e w' => e = .returned (.int .i64 k) ∧ w' = W) := fun k W => mark_nil _ _ _ _
 clear h hb b0
 generalize 1 + (szR rs : Int) + 3 * (m : Int) + 3 * (q : Int) + 2 * (p : Int) = k4 at *
 generalize 1 + (szR rs : Int) + 3 * (m : Int) + 3 * (q : Int) = k3 at *
 generalize 1 + (szR rs : Int) + 3 * (m : Int) = k2 at *
 generalize 1 + (szR rs : Int) = k1 at *
 obtain ⟨p0, p1, p2, p3, p4, p5, p6, p7, p8, p9, p10, p11, pt⟩ := cells12 HX.out
 go_enter Tryz.func40, Tryz.ntmps40
 go_wp2_with fail
 refine E1.out.mono ?_
 rintro e w1 ⟨rfl, o1, b1, kk1⟩
 have PP := Lib.hid (show OwK w1 _ _ _ _ _ _ _ _ _ _ _ _ ∧ Below B w w1 ∧ KC w w1 from ⟨o1, HB0.out.trans b1, HK0.out.trans kk1⟩)
 have X1 := Lib.hid (kk1 _ _ _ (by decide) HX.out)
 clear o1 b1 kk1 E1 HX HB0 HK0 p0 p1 p2 p3 p4 p5 p6 p7 p8 p9 p10 p11 pt
 obtain ⟨p0, p1, p2, p3, p4, p5, p6, p7, p8, p9, p10, p11, pt⟩ := cells12 X1.out
 go_wp2_with fail
 refine (E2.out _ _).mono ?_
 rintro e w2 ⟨rfl, rfl⟩
 go_wp2_with fail
 refine (E2.out _ _).mono ?_
 rintro e w3 ⟨rfl, rfl⟩
 go_wp2
 go_ret
 exact ⟨rfl, PP.out⟩
set_option maxRecDepth 100000 in
set_option maxHeartbeats 2000000 in
theorem hdT2_any (B : Nat) (sl : Option Addr) (cap n : Nat) (tl : Option Addr) (kap m : Nat) (rs : List LSt) (w : World) (hn : rs.length = n) (hb : n + totD rs + m ≤ 1048576) (h : OwS w B (.slice sl n cap) (mkR 1 rs)) (h2 : w.ownsRow B 165 3 (.slice tl m kap) m (valsZ (marks (1 + (szR rs : Int)) (m * 3)))) :
  Calls Tryz.prog 154 #[.agg #[.slice sl n cap, .slice tl m kap], .int .i64 1] w fun e w' => e = .returned (.int .i64 (1 + (szR rs : Int) + 3 * (m : Int))) ∧ Below w.heap.size w w' := by
 have b0 := bA0 w (.cells #[.slice sl n cap, .slice tl m kap] 26)
 have hs3 : szR rs ≤ 3000000 := by unfold szR; omega
 have E1 := Lib.hid (hdS_any B sl n cap rs 1 hn (by omega) (by omega) (by omega) _ (h.below b0))
 have E2 := Lib.hid (hd3P_row B (.slice tl m kap) m (1 + (szR rs : Int)) (by omega) (by omega) (by omega) _ (own_below h2 b0))
 have hK : ¬ 1 + (szR rs : Int) < 0 ∧ ¬ (1 + (szR rs : Int) + 3 * (m : Int)) < 0 := by omega
 have B0 := Lib.hid b0
 clear h h2 hb b0 hs3 hn
 generalize 1 + (szR rs : Int) + 3 * (m : Int) = k2 at *
 generalize 1 + (szR rs : Int) = k1 at *
 obtain ⟨k0, k3⟩ := hK
 go_enter Tryz.func154, Tryz.ntmps154
 go_wp2_with fail
 refine E1.out.mono ?_
 rintro e w1 ⟨rfl, rfl⟩
 go_wp2_with fail
 refine E2.out.mono ?_
 rintro e w2 ⟨rfl, rfl⟩
 go_wp2
 go_ret
 exact ⟨rfl, B0.out⟩
set_option maxRecDepth 100000 in
set_option maxHeartbeats 2000000 in
theorem hdC2_any (B : Nat) (sl : Option Addr) (cap n : Nat) (tl : Option Addr) (kap m : Nat) (bl : Option Addr) (cb q : Nat) (pl : Option Addr) (cp p : Nat) (top pr st bu : Int) (rs : List LSt) (w : World) (hn : rs.length = n) (hb : n + totD rs + m ≤ 1048576) (hq : q ≤ 1048576) (hp : p ≤ 1048576) (h : OwK w B (.slice sl n cap) (.slice tl m kap) (.slice bl q cb) (.slice pl p cp) (mkR 1 rs) m q p (valsZ (marks (1 + (szR rs : Int)) (m * 3))) (valsZ (marks (1 + (szR rs : Int) + 3 * (m : Int)) (q * 3))) (valsZ (marks (1 + (szR rs : Int) + 3 * (m : Int) + 3 * (q : Int)) (p * 2)))) :
  Calls Tryz.prog 100 #[CVk sl n cap tl m kap top pr st bu bl q cb pl p cp, .int .i64 1] w fun e w' => e = .returned (.int .i64 (1 + (szR rs : Int) + 3 * (m : Int) + 3 * (q : Int) + 2 * (p : Int))) ∧ Below w.heap.size w w' := by
 have b0 := bA0 w (CLC (.slice sl n cap) (.slice tl m kap) top pr st bu (.slice bl q cb) (.slice pl p cp))
 have h0 := h.below b0
 have hs3 : szR rs ≤ 3000000 := by unfold szR; omega
 have E1 := Lib.hid (hdT2_any B sl cap n tl kap m rs _ hn hb h0.fs h0.fp)
 have E2 : Hid (∀ W, Below (w.alloc (CLC (.slice sl n cap) (.slice tl m kap) top pr st bu (.slice bl q cb) (.slice pl p cp))).heap.size (w.alloc (CLC (.slice sl n cap) (.slice tl m kap) top pr st bu (.slice bl q cb) (.slice pl p cp))) W → Calls Tryz.prog 155 #[.slice bl q cb, .int .i64 (1 + (szR rs : Int) + 3 * (m : Int))] W fun e w' => e = .returned (.int .i64 (1 + (szR rs : Int) + 3 * (m : Int) + 3 * (q : Int))) ∧ w' = W) := fun W hW => hd3B_row B (.slice bl q cb) q _ hq (by omega) (by omega) W (own_below h0.fb hW)
 have E3 : Hid (∀ W, Below (w.alloc (CLC (.slice sl n cap) (.slice tl m kap) top pr st bu (.slice bl q cb) (.slice pl p cp))).heap.size (w.alloc (CLC (.slice sl n cap) (.slice tl m kap) top pr st bu (.slice bl q cb) (.slice pl p cp))) W → Calls Tryz.prog 83 #[.slice pl p cp, .int .i64 (1 + (szR rs : Int) + 3 * (m : Int) + 3 * (q : Int))] W fun e w' => e = .returned (.int .i64 (1 + (szR rs : Int) + 3 * (m : Int) + 3 * (q : Int) + 2 * (p : Int))) ∧ w' = W) := fun W hW => held2_row B (.slice pl p cp) p _ hp (by omega) (by omega) W (own_below h0.fl hW)
 have hK : ¬ (1 + (szR rs : Int) + 3 * (m : Int)) < 0 ∧ ¬ (1 + (szR rs : Int) + 3 * (m : Int) + 3 * (q : Int)) < 0 ∧ ¬ (1 + (szR rs : Int) + 3 * (m : Int) + 3 * (q : Int) + 2 * (p : Int)) < 0 := by omega
 have B0 := Lib.hid b0
 clear h h0 hb b0 hs3 hn
 generalize 1 + (szR rs : Int) + 3 * (m : Int) + 3 * (q : Int) + 2 * (p : Int) = k4 at *
 generalize 1 + (szR rs : Int) + 3 * (m : Int) + 3 * (q : Int) = k3 at *
 generalize 1 + (szR rs : Int) + 3 * (m : Int) = k2 at *
 obtain ⟨ka, kb, kc⟩ := hK
 go_enter Tryz.func100, Tryz.ntmps100
 go_wp2_with fail
 refine E1.out.mono ?_
 rintro e w1 ⟨rfl, b1⟩
 have A1 := Lib.hid b1
 obtain ⟨hc, hf⟩ := bcell b1
 clear b1
 go_wp2_with fail
 refine (E2.out _ A1.out).mono ?_
 rintro e w2 ⟨rfl, rfl⟩
 go_wp2_with fail
 refine (E3.out _ A1.out).mono ?_
 rintro e w3 ⟨rfl, rfl⟩
 go_wp2
 go_ret
 exact ⟨rfl, bT B0.out A1.out⟩
set_option maxRecDepth 100000 in
set_option maxHeartbeats 2000000 in
theorem hdCO_any (B : Nat) (sl : Option Addr) (cap n : Nat) (tl : Option Addr) (kap m : Nat) (bl : Option Addr) (cb q : Nat) (pl : Option Addr) (cp p : Nat) (top pr st bu rd cd : Int) (rs : List LSt) (w : World) (hn : rs.length = n) (hb : n + totD rs + m ≤ 1048576) (hq : q ≤ 1048576) (hp : p ≤ 1048576) (h : OwK w B (.slice sl n cap) (.slice tl m kap) (.slice bl q cb) (.slice pl p cp) (mkR 1 rs) m q p (valsZ (marks (1 + (szR rs : Int)) (m * 3))) (valsZ (marks (1 + (szR rs : Int) + 3 * (m : Int)) (q * 3))) (valsZ (marks (1 + (szR rs : Int) + 3 * (m : Int) + 3 * (q : Int)) (p * 2)))) :
  Calls Tryz.prog 41 #[COV (.slice sl n cap) (.slice tl m kap) top pr st bu (.slice bl q cb) (.slice pl p cp) rd cd, .int .i64 1] w fun e w' => e = .returned (.int .i64 (1 + (szR rs : Int) + 3 * (m : Int) + 3 * (q : Int) + 2 * (p : Int))) ∧ Below w.heap.size w w' := by
 have b0 := bA0 w (COC (.slice sl n cap) (.slice tl m kap) top pr st bu (.slice bl q cb) (.slice pl p cp) rd cd)
 have E1 := Lib.hid (hdC2_any B sl cap n tl kap m bl cb q pl cp p top pr st bu rs _ hn hb hq hp (h.below b0))
 have E2 : Hid (∀ (k : Int) W, Calls Tryz.prog 101 #[.slice none 0 0, .int .i64 k] W fun e w' => e = .returned (.int .i64 k) ∧ w' = W) := fun k W => held_nil _ _ _ _
 have hK : ¬ (1 + (szR rs : Int) + 3 * (m : Int) + 3 * (q : Int) + 2 * (p : Int)) < 0 := by omega
 have B0 := Lib.hid b0
 clear h hb b0 hn
 generalize 1 + (szR rs : Int) + 3 * (m : Int) + 3 * (q : Int) + 2 * (p : Int) = k4 at *
 go_enter Tryz.func41, Tryz.ntmps41
 go_wp2_with fail
 refine E1.out.mono ?_
 rintro e w1 ⟨rfl, b1⟩
 have A1 := Lib.hid b1
 obtain ⟨hc, hf⟩ := bcell b1
 clear b1
 go_wp2_with fail
 refine (E2.out _ _).mono ?_
 rintro e w2 ⟨rfl, rfl⟩
 go_wp2_with fail
 refine (E2.out _ _).mono ?_
 rintro e w3 ⟨rfl, rfl⟩
 go_wp2
 go_ret
 exact ⟨rfl, bT B0.out A1.out⟩
end Go.Proofs.YtnihhbfgbilimaaGreatDoor
