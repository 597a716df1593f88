import Derived.Test.YtnihhbfgbilimaaGreatDoorTw
import Derived.Test.YtnihhbfgbilimaaGreatDoorPq
import Derived.Test.YtnihhbfgbilimaaGreatDoorXak
namespace Go.Proofs.YtnihhbfgbilimaaGreatDoor
open Go.RowKit
set_option linter.unusedVariables false
open List (setIfInBounds_toArray set_cons_zero set_cons_succ getElem_toArray getElem_cons_succ getElem_cons_zero)
def absI (v : Int) : Int := if v < 0 then -v else v
set_option maxHeartbeats 400000 in
theorem abs_any (v : Int) (w : World) (h1 : -1000 ≤ v) (h2 : v ≤ 1000) : Calls Tryz.prog 166 #[.int .i64 v] w fun e w' => e = .returned (.int .i64 (absI v)) ∧ w' = w := by
 unfold absI
 by_cases h : v < 0
 ·rw [if_pos h]
  go_enter Tryz.func166, Tryz.ntmps166
  go_wp2
  go_ret
  exact ⟨rfl, rfl⟩
 ·rw [if_neg h]
  go_enter Tryz.func166, Tryz.ntmps166
  go_wp2
  go_ret
  exact ⟨rfl, rfl⟩
def mayL (ps : List LPr) (a c b d : Int) : Bool :=
 match ps with
 | [] => true
 | p :: r => if (p.1 = a ∧ p.2.1 = b) ∨ (p.1 = b ∧ p.2.1 = a) then decide (c ≠ d ∧ (p.2.2 = 1 ∨ absI (c - d) ≠ 1)) else mayL r a c b d
theorem mayL_at (ps : List LPr) (a c b d : Int) (k : Nat) (h : k < ps.length) : mayL (ps.drop k) a c b d = if (ps[k].1 = a ∧ ps[k].2.1 = b) ∨ (ps[k].1 = b ∧ ps[k].2.1 = a) then decide (c ≠ d ∧ (ps[k].2.2 = 1 ∨ absI (c - d) ≠ 1)) else mayL (ps.drop (k + 1)) a c b d := by
 rw [← List.getElem_cons_drop (h := h)]
 rfl
set_option maxRecDepth 100000 in
set_option maxHeartbeats 2000000 in
theorem may_any (sl : Option Addr) (n cap : Nat) (sl2 : Option Addr) (cap2 : Nat) (ps : List LPr) (a c b d : Int) (w : World) (hn : ps.length ≤ 1048576) (hc : 0 ≤ c ∧ c ≤ 1000) (hd : 0 ≤ d ∧ d ≤ 1000) (hp : Prs w sl2 ps) :
  Calls Tryz.prog 134 #[TV sl n cap sl2 ps.length cap2, .int .i64 a, .int .i64 c, .int .i64 b, .int .i64 d] w fun e w' => e = .returned (.bool (mayL ps a c b d)) ∧ Below w.heap.size w w' := by
 have HT := Lib.hid (TabAtE.new w sl n cap sl2 ps.length cap2)
 have B0 := Lib.hid (bA0 w (.cells #[.slice sl n cap, .slice sl2 ps.length cap2] 26))
 have HP := Lib.hid hp
 obtain ⟨c1, c2⟩ := hc
 obtain ⟨d1, d2⟩ := hd
 clear hp
 generalize hR : mayL ps a c b d = r
 have HR := Lib.hid hR
 clear hR
 generalize hN : ps.length = m at *
 have HN := Lib.hid hN
 clear hN
 have EA : Hid (∀ W, Calls Tryz.prog 166 #[.int .i64 (c - d)] W fun e w' => e = .returned (.int .i64 (absI (c - d))) ∧ w' = W) := fun W => abs_any (c - d) W (by omega) (by omega)
 go_enter Tryz.func134, Tryz.ntmps134
 go_wp2
 generalize w.alloc (.cells #[.slice sl n cap, .slice sl2 m cap2] 26) = w0 at *
 go_loopw [11] (fun i wr => ∃ k : Nat, i = .int .i64 k ∧ k ≤ m ∧ Hid (r = mayL (ps.drop k) a c b d) ∧ Hid (Below w0.heap.size w0 wr)) (fun i _ => m - (intOf i).toNat)
 case atStart => exact ⟨0, rfl, Nat.zero_le _, HR.out.symm, Below.refl _ _⟩
 case round =>
  obtain ⟨k, rfl, hk, HM, H2⟩ := hrel
  have hk0 : (0 : Int) ≤ (k : Int) := by omega
  have T2 := Lib.hid (HT.out.below H2.out)
  obtain ⟨t0, t1⟩ := T2.out.cells
  have tl := T2.out.lt
  have DW := Lib.hid (bT B0.out H2.out)
  by_cases h1 : k < m
  ·have h1' : (k : Int) < (m : Int) := by omega
   have hlt : k < ps.length := by rw [HN.out]; exact h1
   obtain ⟨g, o, rfl, Z0⟩ : ∃ c o, sl2 = some ⟨c, o, none⟩ ∧ PrAt w c o ps := by
    rcases HP.out with e | h
    ·rw [e] at hlt; simp at hlt
    ·exact h
   have g0 := (DW.out.cell Z0.lt).trans (Z0.cell k hlt).1
   have g1 := (DW.out.cell Z0.lt).trans (Z0.cell k hlt).2.1
   have g2 := (DW.out.cell Z0.lt).trans (Z0.cell k hlt).2.2
   have MA := Lib.hid (HM.out.trans (mayL_at ps a c b d k hlt))
   obtain ⟨x, y, q, hp⟩ : ∃ x y q, ps[k] = (x, y, q) := ⟨_, _, _, rfl⟩
   rw [hp] at g0 g1 g2 MA
   dsimp only at g0 g1 g2 MA
   have B5 := Lib.hid (bA H2.out (.cells #[.int .i64 x, .int .i64 y, .int .i64 q] 165))
   have B6 := Lib.hid (bA DW.out (.cells #[.int .i64 x, .int .i64 y, .int .i64 q] 165))
   have HA9 := Lib.hid (Eq.refl (absI (c - d)))
   have hwr := H2.out.size
   clear hp hlt Z0 HM
   by_cases xa : x = a
   ·have e_xa : (x == a) = true := by simp [xa]
    by_cases yb : y = b
    ·have e_yb : (y == b) = true := by simp [yb]
     have hM : (x = a ∧ y = b) ∨ (x = b ∧ y = a) := .inl ⟨xa, yb⟩
     clear xa yb
     have MB := Lib.hid (MA.out.trans (if_pos hM))
     by_cases cd : c = d
     ·have R := Lib.hid (show r = false by rw [MB.out]; simp [cd])
      have cd' : (c != d) = false := by simp [cd]
      clear MA MB hM EA
      go_wp2
      go_ret
      exact ⟨by rw [R.out]; rfl, B6.out⟩
     ·have cd' : (c != d) = true := by simp [cd]
      by_cases q1 : q = 1
      ·have R := Lib.hid (show r = true by rw [MB.out]; simp [cd, q1])
       have q1' : (q == 1) = true := by simp [q1]
       clear MA MB hM EA q1
       go_wp2
       go_ret
       exact ⟨by rw [R.out]; rfl, B6.out⟩
      ·have q1' : (q == 1) = false := by simp [q1]
       by_cases a1 : absI (c - d) = 1
       ·have R := Lib.hid (show r = false by rw [MB.out]; simp [cd, q1, a1])
        have a1' : (absI (c - d) != 1) = false := by simp [a1]
        generalize absI (c - d) = A at *
        clear MA MB hM q1 a1
        go_wp2_with fail
        refine (EA.out _).mono ?_
        rintro e w5 ⟨rfl, rfl⟩
        go_wp2
        go_ret
        exact ⟨by rw [R.out]; rfl, B6.out⟩
       ·have R := Lib.hid (show r = true by rw [MB.out]; simp [cd, q1, a1])
        have a1' : (absI (c - d) != 1) = true := by simp [a1]
        generalize absI (c - d) = A at *
        clear MA MB hM q1 a1
        go_wp2_with fail
        refine (EA.out _).mono ?_
        rintro e w5 ⟨rfl, rfl⟩
        go_wp2
        go_ret
        exact ⟨by rw [R.out]; rfl, B6.out⟩
    ·have e_yb : (y == b) = false := by simp [yb]
     have hM : ¬ ((x = a ∧ y = b) ∨ (x = b ∧ y = a)) := by rintro (⟨-, h⟩ | ⟨h3, h4⟩) <;> omega
     by_cases xb : x = b
     ·have e_xb : (x == b) = true := by simp [xb]
      have e_ya : (y == a) = false := by simp; omega
      clear xa yb xb
      have MB := Lib.hid (MA.out.trans (if_neg hM))
      clear MA hM EA
      go_wp2
      go_roundw
      case rel => exact ⟨k + 1, by go_num, by omega, MB, B5⟩
      case measure => simp [intOf]; omega
     ·have e_xb : (x == b) = false := by simp [xb]
      clear xa yb xb
      have MB := Lib.hid (MA.out.trans (if_neg hM))
      clear MA hM EA
      go_wp2
      go_roundw
      case rel => exact ⟨k + 1, by go_num, by omega, MB, B5⟩
      case measure => simp [intOf]; omega
   ·have e_xa : (x == a) = false := by simp [xa]
    by_cases xb : x = b
    ·have e_xb : (x == b) = true := by simp [xb]
     by_cases ya : y = a
     ·have e_ya : (y == a) = true := by simp [ya]
      have hM : (x = a ∧ y = b) ∨ (x = b ∧ y = a) := .inr ⟨xb, ya⟩
      clear xa xb ya
      have MB := Lib.hid (MA.out.trans (if_pos hM))
      by_cases cd : c = d
      ·have R := Lib.hid (show r = false by rw [MB.out]; simp [cd])
       have cd' : (c != d) = false := by simp [cd]
       clear MA MB hM EA
       go_wp2
       go_ret
       exact ⟨by rw [R.out]; rfl, B6.out⟩
      ·have cd' : (c != d) = true := by simp [cd]
       by_cases q1 : q = 1
       ·have R := Lib.hid (show r = true by rw [MB.out]; simp [cd, q1])
        have q1' : (q == 1) = true := by simp [q1]
        clear MA MB hM EA q1
        go_wp2
        go_ret
        exact ⟨by rw [R.out]; rfl, B6.out⟩
       ·have q1' : (q == 1) = false := by simp [q1]
        by_cases a1 : absI (c - d) = 1
        ·have R := Lib.hid (show r = false by rw [MB.out]; simp [cd, q1, a1])
         have a1' : (absI (c - d) != 1) = false := by simp [a1]
         generalize absI (c - d) = A at *
         clear MA MB hM q1 a1
         go_wp2_with fail
         refine (EA.out _).mono ?_
         rintro e w5 ⟨rfl, rfl⟩
         go_wp2
         go_ret
         exact ⟨by rw [R.out]; rfl, B6.out⟩
        ·have R := Lib.hid (show r = true by rw [MB.out]; simp [cd, q1, a1])
         have a1' : (absI (c - d) != 1) = true := by simp [a1]
         generalize absI (c - d) = A at *
         clear MA MB hM q1 a1
         go_wp2_with fail
         refine (EA.out _).mono ?_
         rintro e w5 ⟨rfl, rfl⟩
         go_wp2
         go_ret
         exact ⟨by rw [R.out]; rfl, B6.out⟩
     ·have e_ya : (y == a) = false := by simp [ya]
      have hM : ¬ ((x = a ∧ y = b) ∨ (x = b ∧ y = a)) := by rintro (⟨h, -⟩ | ⟨-, h⟩) <;> omega
      clear xa xb ya
      have MB := Lib.hid (MA.out.trans (if_neg hM))
      clear MA hM EA
      go_wp2
      go_roundw
      case rel => exact ⟨k + 1, by go_num, by omega, MB, B5⟩
      case measure => simp [intOf]; omega
    ·have e_xb : (x == b) = false := by simp [xb]
     have hM : ¬ ((x = a ∧ y = b) ∨ (x = b ∧ y = a)) := by rintro (⟨h, -⟩ | ⟨h, -⟩) <;> omega
     clear xa xb
     have MB := Lib.hid (MA.out.trans (if_neg hM))
     clear MA hM EA
     go_wp2
     go_roundw
     case rel => exact ⟨k + 1, by go_num, by omega, MB, B5⟩
     case measure => simp [intOf]; omega
  ·have h1' : ¬ (k : Int) < (m : Int) := by omega
   have R := Lib.hid (show r = true by rw [HM.out, List.drop_eq_nil_of_le (by rw [HN.out]; omega)]; rfl)
   clear HM
   go_wp2
   go_ret
   exact ⟨by rw [R.out]; rfl, DW.out⟩
end Go.Proofs.YtnihhbfgbilimaaGreatDoor
namespace Go.Proofs.YtnihhbfgbilimaaGreatDoor
open Go.RowKit Go.Maps
set_option linter.unusedVariables false
theorem dom_small (rs : List LSt) (ps : List LPr) (id top x : Int) (h : TabR rs ps) (hx : x ∈ rs.flatMap (domF id top)) : 2 ≤ x ∧ x ≤ 51 := by
 obtain ⟨r, hr, hx⟩ := List.mem_flatMap.1 hx
 unfold domF FF at hx
 split at hx
 ·exact (h.2.1 r hr).2.2.mem (List.mem_filter.1 hx).1
 ·cases hx
theorem plF_le {rs : List LSt} {ps : List LPr} (top : Int) (ids : List Int) (h : TabR rs ps) : (plF rs top ids).length ≤ 96 * ids.length := by
 induction ids with
 | nil => simp [plF]
 | cons a t ih =>
  have e : plF rs top (a :: t) = chF rs top a ++ plF rs top t := by simp [plF]
  have := dom_le rs ps a top h
  rw [e, List.length_append, List.length_cons]
  unfold chF
  rw [List.length_map]
  omega
theorem bA1 {n : Nat} {W w : World} (h : Below n W w) (o : Obj) (hn : n ≤ w.heap.size) : Below n W (w.alloc o) := h.alloc hn o
theorem own_e34 (w : World) : (w.alloc (.cells #[] 131)).ownsRow w.heap.size 131 2 (.slice (some ⟨w.heap.size, 0, none⟩) 0 0) 0 (enCells []) :=
 ⟨rfl, .inr ⟨w.heap.size, 0, #[], rfl, Nat.le_refl _, by show (w.heap.push _)[w.heap.size]? = _; simp, Nat.le_refl _, Nat.zero_le _, rfl, rfl⟩⟩
theorem plF_step (rs : List LSt) (top : Int) (ids : List Int) (k : Nat) (h : k < ids.length) : plF rs top (ids.take (k + 1)) = plF rs top (ids.take k) ++ chF rs top (ids.getD k 0) := by
 unfold plF
 rw [List.take_succ_eq_append_getElem h, List.flatMap_append]
 simp [h]
set_option maxRecDepth 100000 in
set_option maxHeartbeats 4000000 in
theorem vars_any (sl : Option Addr) (cap : Nat) (sl2 : Option Addr) (cap2 : Nat) (sl3 : Option Addr) (cap3 : Nat) (rs : List LSt) (ps : List LPr) (top : Int) (ids : List Int) (w : World) (hn : rs.length ≤ 1048576) (hl : ids.length ≤ 400) (hz : Sts w sl rs) (hp : Prs w sl2 ps) (TR0 : TabR rs ps) (hi : Ints w sl3 ids) :
  Calls Tryz.prog 133 #[TV sl rs.length cap sl2 ps.length cap2, .int .i64 top, .slice sl3 ids.length cap3] w fun e w' => ∃ v, e = .returned v ∧ w'.ownsRow w.heap.size 131 2 v (plF rs top ids).length (enCells (plF rs top ids)) ∧ Below w.heap.size w w' := by
 obtain ⟨i3, hi3, hd0, hd1, hd2⟩ := info_parts info34
 have HT := Lib.hid (TabAtE.new w sl rs.length cap sl2 ps.length cap2)
 have E1 : Hid (∀ id W, Below w.heap.size w W → Calls Tryz.prog 145 #[TV sl rs.length cap sl2 ps.length cap2, .int .i64 id, .int .i64 top] W fun e w' => ∃ s c, e = .returned (.slice s (rs.flatMap (domF id top)).length c) ∧ w'.ownsRow W.heap.size 2 1 (.slice s (rs.flatMap (domF id top)).length c) (rs.flatMap (domF id top)).length (valsZ (rs.flatMap (domF id top))) ∧ Below W.heap.size W w') := fun id W hW => by
  have := sdo_any sl cap sl2 cap2 rs ps id top W hn (hz.below hW) (hp.below hW)
  rw [show domA rs ps id top = rs.flatMap (domF id top) by unfold domA; rw [B_yes TR0]; rfl] at this
  refine this.mono ?_
  rintro e w' ⟨v, rfl, o, b⟩
  obtain ⟨s, c, rfl, i⟩ := own_ints o
  exact ⟨s, c, rfl, o, b⟩
 have DL := Lib.hid (fun id => dom_le rs ps id top TR0)
 have PL := Lib.hid (fun k => plF_le top (ids.take k) TR0)
 have HI := Lib.hid hi
 clear hz hi TR0 hp
 generalize hN : ids.length = n at *
 have HN := Lib.hid hN
 clear hN
 generalize rs.length = rn at *
 generalize ps.length = pn at *
 have B0 := Lib.hid (bA (bA0 w (.cells #[.slice sl rn cap, .slice sl2 pn cap2] 26)) (.cells #[] 131))
 have X0 := Lib.hid (HT.out.below (bA0 (w.alloc (.cells #[.slice sl rn cap, .slice sl2 pn cap2] 26)) (.cells #[] 131)))
 have O0 := Lib.hid (own_e34 (w.alloc (.cells #[.slice sl rn cap, .slice sl2 pn cap2] 26)))
 rw [show (w.alloc (.cells #[.slice sl rn cap, .slice sl2 pn cap2] 26)).heap.size = w.heap.size + 1 by simp] at O0
 go_enter Tryz.func133, Tryz.ntmps133
 go_wp2
 generalize (w.alloc (.cells #[.slice sl rn cap, .slice sl2 pn cap2] 26)).alloc (.cells #[] 131) = wA at *
 clear HT
 go_loopw [7, 8] (fun v i wr => ∃ (k : Nat) (cu : List LPl), i = .int .i64 k ∧ k ≤ n ∧ Hid (cu = plF rs top (ids.take k)) ∧ Hid (wr.ownsRow (w.heap.size + 1) 131 2 v cu.length (enCells cu)) ∧ Hid (Below (w.heap.size + 1) wA wr)) (fun _ i _ => n - (intOf i).toNat)
 case atStart => exact ⟨0, [], rfl, Nat.zero_le _, rfl, O0, Below.refl _ _⟩
 case round =>
  obtain ⟨k, cu, rfl, hk, HC, OR, HB⟩ := hrel
  have hk0 : (0 : Int) ≤ (k : Int) := by omega
  have DW := Lib.hid (B0.out.trans (HB.out.mono (Nat.le_succ _)))
  by_cases g1 : k < n
  ·have g1' : (k : Int) < (n : Int) := by omega
   have hlt : k < ids.length := by rw [HN.out]; exact g1
   obtain ⟨c, o, rfl, ZI⟩ : ∃ c o, sl3 = some ⟨c, o, none⟩ ∧ IntsAt w c o ids := by
    rcases HI.out with e | h
    ·rw [e] at hlt; simp at hlt
    ·exact h
   have hcw := ZI.1
   have hc := (DW.out.cell (p := ⟨c, o + k, none⟩) ZI.1).trans (ZI.2 k hlt)
   have IS := Lib.hid (show plF rs top (ids.take (k + 1)) = cu ++ (rs.flatMap (domF (ids.getD k 0) top)).map fun c => ((ids.getD k 0, c) : LPl) by rw [HC.out]; exact plF_step rs top ids k hlt)
   have E := Lib.hid (E1.out (ids.getD k 0))
   have D8 := DL.out (ids.getD k 0)
   have CL := Lib.hid (show cu.length ≤ 96 * k by
    have := PL.out k
    rw [HC.out]
    rw [List.length_take] at this
    omega)
   have IC := Lib.hid (show ∀ W, Below w.heap.size w W → W.cell? ⟨c, o + k, none⟩ = some (.int .i64 (ids.getD k 0)) from fun W hW => (hW.cell (p := ⟨c, o + k, none⟩) ZI.1).trans (ZI.2 k hlt))
   clear hlt ZI HC
   generalize ids.getD k 0 = x at *
   generalize hzz : rs.flatMap (domF x top) = zs at *
   clear hzz
   have XT : TabAtE wr w.heap.size sl rn cap sl2 pn cap2 := (HB.out.block w.heap.size (Nat.lt_succ_self _)).trans X0.out
   obtain ⟨t0, t1⟩ := XT.cells
   have tl := XT.lt
   have hsw : w.heap.size + 1 ≤ wr.heap.size := tl
   have KB : Hid (∀ W, Below wr.heap.size wr W → w.heap.size < W.heap.size ∧ c < W.heap.size ∧ W.cell? ⟨w.heap.size, 0, none⟩ = some (.slice sl rn cap) ∧ W.cell? ⟨w.heap.size, 1, none⟩ = some (.slice sl2 pn cap2) ∧ W.cell? ⟨c, o + k, none⟩ = some (.int .i64 x)) := fun W hW => ⟨Nat.lt_of_lt_of_le tl hW.size, Nat.lt_of_lt_of_le (show c < wr.heap.size by omega) hW.size, (hW.cell tl).trans t0, (hW.cell tl).trans t1, (hW.cell (show c < wr.heap.size by omega)).trans hc⟩
   clear XT t0 t1 tl hc
   go_wp2_with fail
   refine wp_region_held_drew (S := fun W => w.heap.size < W.heap.size ∧ c < W.heap.size ∧ W.cell? ⟨w.heap.size, 0, none⟩ = some (.slice sl rn cap) ∧ W.cell? ⟨w.heap.size, 1, none⟩ = some (.slice sl2 pn cap2) ∧ W.cell? ⟨c, o + k, none⟩ = some (.int .i64 x)) (by kernel_rfl) ?_ (fun hHeld => ?_)
   ·exact KB.out _ (Below.refl _ _).drew
   refine tw (i := 0) rfl ?_
   refine tw (i := 1) rfl ?_
   refine tw (i := 2) rfl ?_
   refine tw (i := 3) rfl ?_
   try simp only [Act.put, setIfInBounds_toArray, set_cons_zero, set_cons_succ, getElem_toArray, getElem_cons_succ, getElem_cons_zero]
   refine tw (i := 4) rfl ?_
   refine tw (i := 5) rfl ?_
   try simp only [Act.put, setIfInBounds_toArray, set_cons_zero, set_cons_succ, getElem_toArray, getElem_cons_succ, getElem_cons_zero]
   refine wpAnyH_ready (rs := [6]) (by kernel_rfl) (by simp) ?_
   refine AllReadyH.cons rfl (fun K hK => ?_) AllReadyH.nil
   go_simp
   go_wp2_with (go_at_call 145; refine (E.out _ DW.out.drew).mono ?_; rintro e w3 ⟨s3, c3, rfl, o3, b3⟩)
   have F3 : Hid (Below wr.heap.size wr w3) := bT ((Below.refl wr.heap.size wr).drew) b3
   have Z3 := Lib.hid o3
   clear b3 o3
   refine hK.out _ _ ?_ (fun hHeld => ?_)
   ·exact KB.out _ F3.out
   clear hK K
   refine tw (i := 7) rfl ?_
   try simp only [Act.put, setIfInBounds_toArray, set_cons_zero, set_cons_succ, getElem_toArray, getElem_cons_succ, getElem_cons_zero]
   refine wpAnyH_done (by kernel_rfl) ?_ _
   have O3 := Lib.hid (own_below OR.out F3.out)
   have B3 := Lib.hid (HB.out.trans (F3.out.mono hsw))
   have hs3 : w.heap.size + 1 ≤ w3.heap.size := by have := F3.out.size; omega
   clear KB OR HB F3 DW E
   generalize hq : zs.length = q at *
   have HQ := Lib.hid hq
   clear hq
   obtain ⟨wb, hwb⟩ : ∃ wb, wb = wr.heap.size := ⟨_, rfl⟩
   rw [show wr.drew.heap.size = wb from hwb.symm] at Z3
   clear hwb
   go_wp2_with fail
   go_loopw [7, 10] (fun v j wq => ∃ (m : Nat) (cv : List LPl), j = .int .i64 m ∧ m ≤ q ∧ cv.length ≤ 96 * k + m ∧ Hid (cv = cu ++ (zs.take m).map fun c => ((x, c) : LPl)) ∧ Hid (wq.ownsRow (w.heap.size + 1) 131 2 v cv.length (enCells cv)) ∧ Hid (wq.ownsRow wb 2 1 (.slice s3 q c3) q (valsZ zs)) ∧ Hid (Below (w.heap.size + 1) wA wq)) (fun _ j _ => q - (intOf j).toNat)
   case atStart => exact ⟨0, cu, rfl, Nat.zero_le _, CL.out, (by show cu = cu ++ _; simp), O3, Z3, B3⟩
   case round =>
    obtain ⟨m, cv, rfl, hm, hcv, HC, OR, OZ, HB⟩ := hrel
    have hm0 : (0 : Int) ≤ (m : Int) := by omega
    by_cases g2 : m < q
    ·have g2' : (m : Int) < (q : Int) := by omega
     have hlt : m < zs.length := by rw [HQ.out]; exact g2
     have QP := Lib.hid (show 0 < q by omega)
     obtain ⟨e, ce, he, -, hel, -, -, hec⟩ := own_cells OZ.out QP.out
     obtain ⟨rfl, rfl⟩ : s3 = some ⟨e, 0, none⟩ ∧ c3 = ce := by cases he; exact ⟨rfl, rfl⟩
     have hzc : wr.cell? ⟨e, m, none⟩ = some (.int .i64 (zs.getD m 0)) := by rw [hec m g2]; simp [valsZ, hlt]
     have CS := Lib.hid (show cv ++ [(x, zs.getD m 0)] = cu ++ (zs.take (m + 1)).map fun c => ((x, c) : LPl) by rw [chF_step rs top x zs m hlt, ← List.append_assoc, ← HC.out])
     have KZ : Hid (∀ W, Below (w.heap.size + 1) wA W → W.ownsRow wb 2 1 (.slice (some ⟨e, 0, none⟩) q c3) q (valsZ zs) → c < W.heap.size ∧ e < W.heap.size ∧ W.cell? ⟨c, o + k, none⟩ = some (.int .i64 x) ∧ W.cell? ⟨e, m, none⟩ = some (.int .i64 (zs.getD m 0))) := fun W hW hZ => by
      obtain ⟨e', ce', he', -, hel', -, -, hec'⟩ := own_cells hZ QP.out
      cases he'
      have hsz := hW.size
      have hA := B0.out.size
      exact ⟨by omega, hel', IC.out W (B0.out.trans (hW.mono (Nat.le_succ _))), by rw [hec' m g2]; simp [valsZ, hlt]⟩
     have OD : Hid ((wr.drew.alloc (.cells #[.int .i64 x, .int .i64 (zs.getD m 0)] 131)).ownsRow (w.heap.size + 1) 131 2 _ cv.length (enCells cv)) := (show wr.drew.ownsRow _ _ _ _ _ _ from OR.out).alloc _
     have ZD : Hid ((wr.drew.alloc (.cells #[.int .i64 x, .int .i64 (zs.getD m 0)] 131)).ownsRow wb 2 1 (.slice (some ⟨e, 0, none⟩) q c3) q (valsZ zs)) := (show wr.drew.ownsRow _ _ _ _ _ _ from OZ.out).alloc _
     have hsw : w.heap.size + 1 ≤ wr.heap.size := by have := HB.out.size; have := X0.out.lt; omega
     have K0 := Lib.hid (KZ.out wr.drew HB.out.drew (show wr.drew.ownsRow _ _ _ _ _ _ from OZ.out))
     have K10 := Lib.hid (KZ.out _ (bA1 HB.out.drew (.cells #[.int .i64 x, .int .i64 (zs.getD m 0)] 131) hsw) ZD.out)
     clear hlt hec he
     generalize zs.getD m 0 = z at *
     obtain ⟨vsl, vcap, rfl⟩ := own_v OR.out
     go_wp2_with fail
     refine wp_region_held_drew (S := fun W => c < W.heap.size ∧ e < W.heap.size ∧ W.cell? ⟨c, o + k, none⟩ = some (.int .i64 x) ∧ W.cell? ⟨e, m, none⟩ = some (.int .i64 z)) (by kernel_rfl) ?_ (fun hHeld => ?_)
     ·exact K0.out
     refine tw (i := 0) rfl ?_
     refine tw (i := 1) rfl ?_
     refine tw (i := 2) rfl ?_
     refine tw (i := 3) rfl ?_
     try simp only [Act.put, setIfInBounds_toArray, set_cons_zero, set_cons_succ, getElem_toArray, getElem_cons_succ, getElem_cons_zero]
     refine tw (i := 4) rfl ?_
     refine tw (i := 5) rfl ?_
     refine tw (i := 6) rfl ?_
     refine tw (i := 7) rfl ?_
     try simp only [Act.put, setIfInBounds_toArray, set_cons_zero, set_cons_succ, getElem_toArray, getElem_cons_succ, getElem_cons_zero]
     refine tw (i := 8) rfl ?_
     refine tw (i := 9) rfl ?_
     try simp only [Act.put, setIfInBounds_toArray, set_cons_zero, set_cons_succ, getElem_toArray, getElem_cons_succ, getElem_cons_zero]
     refine wpAnyH_ready (rs := [10]) (by kernel_rfl) (by simp) ?_
     refine AllReadyH.cons rfl (fun K hK => ?_) AllReadyH.nil
     go_simp
     refine hK.out _ _ ?_ (fun hHeld => ?_)
     ·exact K10.out
     clear hK K
     refine wpAnyH_ready (rs := [11]) (by kernel_rfl) (by simp) ?_
     refine AllReadyH.cons rfl (fun K hK => ?_) AllReadyH.nil
     refine step_append_lies _ rfl (.tmp 31) (.tmp 41) 28 rfl (w.heap.size + 1) 131 i3 (.agg #[.int .i64 0, .int .i64 0]) 2 16 Tryz.underlying28 hi3 hd0 hd1 hd2 rfl (by decide) (.slice vsl cv.length vcap) cv.length (enCells cv) (by simp [Act.eval]) OD.out ⟨wr.heap.size, 0, none⟩ 1 1 [.int .i64 x, .int .i64 z] (by simp [Act.eval]) rfl (cell_two_new wr.drew _ _ _) (by intro u hu; simp at hu; rcases hu with rfl | rfl <;> rfl) (by decide) (by unfold maxLen; omega) (by omega) (by simp; omega) (wr.heap.size + 1) (by simp) ?_
     intro g9 cap9 w9 own9 grow9 hg9 hlt9
     have B9 := Lib.hid ((bA1 HB.out.drew (.cells #[.int .i64 x, .int .i64 z] 131) (by simpa using hsw)).grown grow9 (by simp; omega) (fun j hj => (OD.out.lt j hj).1))
     have Z9 := Lib.hid (ZD.out.kept grow9 (own_diff ZD.out OD.out (by decide)))
     have K11 := Lib.hid (show c < w9.heap.size ∧ e < w9.heap.size ∧ w9.cell? ⟨c, o + k, none⟩ = some (.int .i64 x) ∧ w9.cell? ⟨e, m, none⟩ = some (.int .i64 z) from KZ.out w9 B9.out Z9.out)
     rw [← enCells_add cv (x, z)] at own9
     have N9 : Hid (w9.ownsRow (w.heap.size + 1) 131 2 (.slice (some ⟨g9, 0, none⟩) (cv.length + 1) cap9) (cv ++ [(x, z)]).length (enCells (cv ++ [(x, z)]))) := by
      rw [List.length_append]; exact own9
     clear own9 grow9 hg9 hlt9
     refine hK.out _ _ ?_ (fun hHeld => ?_)
     ·exact K11.out
     clear hK K
     refine tw (i := 12) rfl ?_
     try simp only [Act.put, setIfInBounds_toArray, set_cons_zero, set_cons_succ, getElem_toArray, getElem_cons_succ, getElem_cons_zero]
     refine wpAnyH_done (by kernel_rfl) ?_ _
     have LL := Lib.hid (show (cv ++ [(x, z)]).length ≤ 96 * k + (m + 1) by rw [List.length_append]; simp; omega)
     clear K11 K10 K0 KZ OD ZD OR OZ HB HC
     go_wp2_with fail
     go_roundw
     case rel => exact ⟨m + 1, cv ++ [(x, z)], by go_num, by omega, LL.out, CS, N9, Z9, B9⟩
     case measure => simp [intOf]; omega
    ·have g2' : ¬ (m : Int) < (q : Int) := by omega
     have CE := Lib.hid (show cv = plF rs top (ids.take (k + 1)) by rw [HC.out, List.take_of_length_le (by rw [HQ.out]; omega), IS.out])
     clear HC OZ
     go_wp2
     go_roundw
     case rel => exact ⟨k + 1, cv, by go_num, by omega, CE, OR, HB⟩
     case measure => simp [intOf]; omega
  ·have g1' : ¬ (k : Int) < (n : Int) := by omega
   have P := Lib.hid (own_mono OR.out (Nat.le_succ w.heap.size))
   rw [HC.out, List.take_of_length_le (show ids.length ≤ k by rw [HN.out]; omega)] at P
   clear OR HC
   go_wp2
   go_ret
   exact ⟨_, rfl, P.out, DW.out⟩
abbrev LNb := LPl × Int
def nbF (last : Int) : List LPl → List LNb
 | [] => []
 | x :: r => (x, last + 1) :: nbF (last + 1) r
theorem nbF_len (l : List LPl) : ∀ last, (nbF last l).length = l.length := by
 induction l with
 | nil => intro _; rfl
 | cons x r ih => intro last; simp [nbF, ih]
theorem nbF_append (a b : List LPl) : ∀ last, nbF last (a ++ b) = nbF last a ++ nbF (last + a.length) b := by
 induction a with
 | nil => intro last; simp [nbF]
 | cons x r ih => intro last; simp only [List.cons_append, nbF, ih, List.length_cons]; congr 3; omega
theorem nbF_fst (l : List LPl) : ∀ last, (nbF last l).map (fun e => e.1) = l := by
 induction l with
 | nil => intro _; rfl
 | cons x r ih => intro last; simp [nbF, ih]
theorem nbF_at (l : List LPl) : ∀ (last : Int) (k : Nat) (h : k < l.length), (nbF last l)[k]'(by rw [nbF_len]; exact h) = (l[k], last + k + 1) := by
 induction l with
 | nil => intro _ k h; simp at h
 | cons x r ih =>
  intro last k h
  cases k with
  | zero => simp [nbF]
  | succ k =>
   simp only [nbF, List.getElem_cons_succ]
   rw [ih (last + 1) k (by simpa using h)]
   congr 1; push_cast; omega
def nbsF (last : Int) : List (List LPl) → List (List LNb)
 | [] => []
 | d :: r => nbF last d :: nbsF (last + d.length) r
theorem nbsF_flat (ds : List (List LPl)) : ∀ last, (nbsF last ds).flatten = nbF last ds.flatten := by
 induction ds with
 | nil => intro _; rfl
 | cons d r ih => intro last; simp only [nbsF, List.flatten_cons, ih, nbF_append]
def OfIds (ids : List Int) (bs : List (List LNb)) : Prop := bs.length = ids.length ∧ ∀ k (h : k < ids.length) (g : k < bs.length), ∀ e ∈ bs[k], e.1.1 = ids[k]
theorem OfIds.tail {id : Int} {ids : List Int} {b : List LNb} {bs : List (List LNb)} (h : OfIds (id :: ids) (b :: bs)) : OfIds ids bs :=
 ⟨by simpa using h.1, fun k hk hg => h.2 (k + 1) (by simpa using hk) (by simpa using hg)⟩
theorem OfIds.head {id : Int} {ids : List Int} {b : List LNb} {bs : List (List LNb)} (h : OfIds (id :: ids) (b :: bs)) : ∀ e ∈ b, e.1.1 = id := by
 exact h.2 0 (by simp) (by simp)
def ofId (id : Int) (l : List LNb) : List LNb := l.filter fun e => decide (e.1.1 = id)
theorem ofId_append (id : Int) (a b : List LNb) : ofId id (a ++ b) = ofId id a ++ ofId id b := by simp [ofId]
theorem ofId_all {id : Int} {b : List LNb} (h : ∀ e ∈ b, e.1.1 = id) : ofId id b = b := by
 unfold ofId; rw [List.filter_eq_self]; intro e he; simp [h e he]
theorem ofId_none {id x : Int} {b : List LNb} (h : ∀ e ∈ b, e.1.1 = id) (hx : x ≠ id) : ofId x b = [] := by
 unfold ofId; rw [List.filter_eq_nil_iff]; intro e he; rw [h e he]; simp; exact fun e => hx e.symm
theorem ofId_out (x : Int) : ∀ (ids : List Int) (bs : List (List LNb)), OfIds ids bs → x ∉ ids → ofId x bs.flatten = [] := by
 intro ids
 induction ids with
 | nil =>
  intro bs h _
  have := h.1
  rw [List.length_nil] at this
  rw [List.eq_nil_of_length_eq_zero this]; rfl
 | cons id ids ih =>
  intro bs h hx
  cases bs with
  | nil => simp [ofId]
  | cons b bs =>
   simp at hx
   rw [List.flatten_cons, ofId_append, ofId_none h.head hx.1, ih bs h.tail hx.2]; rfl
theorem ofId_in : ∀ (ids : List Int) (bs : List (List LNb)), OfIds ids bs → ids.Nodup → ids.map (fun id => ofId id bs.flatten) = bs := by
 intro ids
 induction ids with
 | nil =>
  intro bs h _
  have := h.1
  rw [List.length_nil] at this
  rw [List.eq_nil_of_length_eq_zero this]; rfl
 | cons id ids ih =>
  intro bs h hn
  cases bs with
  | nil => have := h.1; simp at this
  | cons b bs =>
   have hn2 := List.nodup_cons.1 hn
   rw [List.map_cons, List.flatten_cons, ofId_append, ofId_all h.head, ofId_out id ids bs h.tail hn2.1, List.append_nil]
   congr 1
   rw [← ih bs h.tail hn2.2]
   refine List.map_congr_left fun x hx => ?_
   rw [ih bs h.tail hn2.2, ofId_append, ofId_none h.head (fun e => hn2.1 (e ▸ hx)), List.nil_append]
theorem ofId_at (ids : List Int) (bs : List (List LNb)) (h : OfIds ids bs) (hn : ids.Nodup) (k : Nat) (hk : k < ids.length) (hg : k < bs.length) : ofId ids[k] bs.flatten = bs[k] := by
 have := ofId_in ids bs h hn
 have e : (ids.map (fun id => ofId id bs.flatten))[k]'(by simpa using hk) = bs[k] := by simp only [this]
 simpa using e
def twoF : List Int → List (List Int)
 | [] => []
 | x :: r => r.map (fun y => [-x, -y]) ++ twoF r
def twoS : List LNb → List (List Int)
 | [] => []
 | x :: r => (ofId x.1.1 r).map (fun y => [-x.2, -y.2]) ++ twoS r
theorem twoS_row {id : Int} (rest : List LNb) (hr : ofId id rest = []) : ∀ (b : List LNb), (∀ e ∈ b, e.1.1 = id) → twoS (b ++ rest) = twoF (b.map fun e => e.2) ++ twoS rest := by
 intro b
 induction b with
 | nil => intro _; rfl
 | cons x b ih =>
  intro h
  have hx := h x (by simp)
  have hb : ∀ e ∈ b, e.1.1 = id := fun e he => h e (by simp [he])
  simp only [List.cons_append, twoS, List.map_cons, twoF, ih hb]
  rw [hx, ofId_append, ofId_all hb, hr, List.append_nil, List.map_map, List.append_assoc]
  rfl
theorem twoS_rows : ∀ (ids : List Int) (bs : List (List LNb)), OfIds ids bs → ids.Nodup → twoS bs.flatten = bs.flatMap fun b => twoF (b.map fun e => e.2) := by
 intro ids
 induction ids with
 | nil =>
  intro bs h _
  have := h.1
  rw [List.length_nil] at this
  rw [List.eq_nil_of_length_eq_zero this]; rfl
 | cons id ids ih =>
  intro bs h hn
  cases bs with
  | nil => rfl
  | cons b bs =>
   have hn2 := List.nodup_cons.1 hn
   rw [List.flatten_cons, twoS_row _ (ofId_out id ids bs h.tail hn2.1) b h.head, ih bs h.tail hn2.2]; rfl
def besF (ps : List LPr) (es bs : List LNb) : List (List Int) := es.flatMap fun x => bs.flatMap fun y => if mayL ps x.1.1 x.1.2 y.1.1 y.1.2 = true then [] else [[-x.2, -y.2]]
def besS (ps : List LPr) (l : List LNb) (p : LPr) : List (List Int) := l.flatMap fun x => l.flatMap fun y => if x.1.1 = p.1 ∧ y.1.1 = p.2.1 ∧ mayL ps p.1 x.1.2 p.2.1 y.1.2 = false then [[-x.2, -y.2]] else []
theorem flatMap_of (id : Int) (f : LNb → List (List Int)) : ∀ l : List LNb, (l.flatMap fun x => if x.1.1 = id then f x else []) = (ofId id l).flatMap f := by
 intro l
 induction l with
 | nil => rfl
 | cons x r ih =>
  rw [List.flatMap_cons, ih]
  by_cases h : x.1.1 = id
  ·rw [if_pos h]; simp [ofId, h]
  ·rw [if_neg h]; simp [ofId, h]
theorem flatMap_cong {α β : Type} {f g : α → List β} : ∀ l : List α, (∀ x ∈ l, f x = g x) → l.flatMap f = l.flatMap g := by
 intro l
 induction l with
 | nil => intro _; rfl
 | cons x r ih => intro h; rw [List.flatMap_cons, List.flatMap_cons, h x (by simp), ih (fun y hy => h y (by simp [hy]))]
theorem besS_is (ps : List LPr) (l : List LNb) (p : LPr) : besS ps l p = besF ps (ofId p.1 l) (ofId p.2.1 l) := by
 unfold besS besF
 rw [← flatMap_of p.1 (fun x => (ofId p.2.1 l).flatMap fun y => if mayL ps x.1.1 x.1.2 y.1.1 y.1.2 = true then [] else [[-x.2, -y.2]])]
 refine flatMap_cong l fun x hx => ?_
 clear hx
 by_cases h : x.1.1 = p.1
 ·rw [if_pos h, ← flatMap_of p.2.1]
  refine flatMap_cong l fun y _ => ?_
  by_cases g : y.1.1 = p.2.1
  ·rw [if_pos g, h, g]
   cases mayL ps p.1 x.1.2 p.2.1 y.1.2 <;> simp
  ·rw [if_neg g, if_neg]; exact fun c => g c.2.1
 ·rw [if_neg h]
  induction l with
  | nil => rfl
  | cons y r ih => rw [List.flatMap_cons, ih, if_neg (fun c => h c.1)]; rfl
noncomputable def besI (ps : List LPr) (ids : List Int) (bs : List (List LNb)) (p : LPr) : List (List Int) :=
 if p.1 ∈ ids ∧ p.2.1 ∈ ids then besF ps (bs.getD (ids.idxOf p.1) []) (bs.getD (ids.idxOf p.2.1) []) else []
theorem ofId_mem (ids : List Int) (bs : List (List LNb)) (h : OfIds ids bs) (hn : ids.Nodup) (x : Int) (hx : x ∈ ids) : ofId x bs.flatten = bs.getD (ids.idxOf x) [] := by
 have hk := List.idxOf_lt_length_iff.2 hx
 have hg : ids.idxOf x < bs.length := by rw [h.1]; exact hk
 have := ofId_at ids bs h hn (ids.idxOf x) hk hg
 rw [List.getElem_idxOf] at this
 rw [this]; simp [List.getD, hg]
theorem besI_is (ps : List LPr) (ids : List Int) (bs : List (List LNb)) (h : OfIds ids bs) (hn : ids.Nodup) (p : LPr) : besI ps ids bs p = besS ps bs.flatten p := by
 rw [besS_is]
 unfold besI
 by_cases h1 : p.1 ∈ ids
 ·by_cases h2 : p.2.1 ∈ ids
  ·rw [if_pos ⟨h1, h2⟩, ofId_mem ids bs h hn _ h1, ofId_mem ids bs h hn _ h2]
  ·rw [if_neg (fun c => h2 c.2), ofId_out _ ids bs h h2]
   unfold besF
   induction ofId p.1 bs.flatten with
   | nil => rfl
   | cons x r ih => rw [List.flatMap_cons, ← ih]; rfl
 ·rw [if_neg (fun c => h1 c.1), ofId_out _ ids bs h h1]; rfl
noncomputable def cnfI (ps : List LPr) (ids : List Int) (bs : List (List LNb)) : List (List Int) :=
 bs.map (fun b => b.map fun e => e.2) ++ (bs.flatMap (fun b => twoF (b.map fun e => e.2)) ++ ps.flatMap (besI ps ids bs))
def cnfS (ps : List LPr) (ids : List Int) (l : List LNb) : List (List Int) :=
 ids.map (fun id => (ofId id l).map fun e => e.2) ++ (twoS l ++ ps.flatMap (besS ps l))
theorem cnf_same (ps : List LPr) (ids : List Int) (bs : List (List LNb)) (h : OfIds ids bs) (hn : ids.Nodup) : cnfI ps ids bs = cnfS ps ids bs.flatten := by
 unfold cnfI cnfS
 rw [twoS_rows ids bs h hn, show besI ps ids bs = besS ps bs.flatten from funext (besI_is ps ids bs h hn)]
 congr 1
 conv => lhs; rw [← ofId_in ids bs h hn]
 rw [List.map_map]
 rfl
theorem ofIds_ch (rs : List LSt) (top : Int) : ∀ (ids : List Int) (last : Int), OfIds ids (nbsF last (ids.map (chF rs top))) := by
 intro ids
 induction ids with
 | nil => intro last; exact ⟨rfl, fun k h => by simp at h⟩
 | cons id ids ih =>
  intro last
  rw [List.map_cons, nbsF]
  have t := ih (last + (chF rs top id).length)
  refine ⟨by simpa using t.1, fun k hk hg e he => ?_⟩
  cases k with
  | zero =>
   simp only [List.getElem_cons_zero] at he ⊢
   have : e.1 ∈ (nbF last (chF rs top id)).map (fun e => e.1) := List.mem_map.2 ⟨e, he, rfl⟩
   rw [nbF_fst] at this
   unfold chF at this
   obtain ⟨c, _, hc⟩ := List.mem_map.1 this
   rw [← hc]
  | succ k =>
   simp only [List.getElem_cons_succ] at he ⊢
   exact t.2 k (by simpa using hk) (by simpa using hg) e he
theorem cnf_both (rs : List LSt) (ps : List LPr) (top : Int) (ids : List Int) (hn : ids.Nodup) : cnfI ps ids (nbsF 0 (ids.map (chF rs top))) = cnfS ps ids (nbF 0 (plF rs top ids)) := by
 rw [cnf_same ps ids _ (ofIds_ch rs top ids 0) hn, nbsF_flat]
 congr 2
theorem cell_at_new' (w : World) (o : Obj) (a : Value) (t : TypeId) : ∀ (j : Nat) (u : Value), [a][j]? = some u → ((w.alloc o).alloc (.cells #[a] t)).cell? ((⟨w.heap.size + 1, 0, none⟩ : Addr).add j) = some u := by
 have := cell_at_new (w.alloc o) a t
 rwa [show (w.alloc o).heap.size = w.heap.size + 1 by simp] at this
def Rises (zs : List Int) : Prop := ∀ i j, i < j → j < zs.length → zs.getD i 0 < zs.getD j 0
theorem fm_step {α β : Type} (f : α → List β) (l : List α) (k : Nat) (h : k < l.length) : (l.take (k + 1)).flatMap f = (l.take k).flatMap f ++ f l[k] := by
 rw [List.take_succ_eq_append_getElem h, List.flatMap_append]; simp
theorem blk_kept {w wa w9 : World} {B : Nat} {v : Value} {cs : List LCl} {h : Nat} {vs : Array Value} {t : TypeId} (oc : OwC w B v cs) (hh : w.heap[h]? = some (.cells vs t)) (ht : t ≠ 34) (hb : Below w.heap.size w wa) (hg : wa.grownBy w9 v.ownBlock) : w9.heap[h]? = some (.cells vs t) := by
 have hl : h < w.heap.size := (Array.getElem?_eq_some_iff.1 hh).1
 have ha := (hb.block h hl).trans hh
 refine (hg.block h (Nat.lt_of_lt_of_le hl hb.size) (fun e => ?_)).trans ha
 obtain ⟨c, hc⟩ := own_kind oc.row e.symm
 rw [hh] at hc
 simp at hc
 exact ht hc.2
theorem OwC.set {w : World} {B : Nat} {v : Value} {cs : List LCl} (h : OwC w B v cs) {b : Nat} (hb : b < B) (i : Nat) (u : Value) : OwC (w.setCell ⟨b, i, none⟩ u) B v cs :=
 ⟨own_set h.row (fun e => by have := (h.row.lt b e).1; omega) i u, fun r hr => own_set (h.each r hr) (fun e => by have := ((h.each r hr).lt b e).1; omega) i u, h.diff⟩
theorem idsR_rise {rs : List LSt} {ps : List LPr} {ids : List Int} (h : IdsR rs ps ids) : Rises ids := rise_lt ids 1 999 (inRise_of h.2.1.2.2.1 h.2.2.1 h.2.2.2)
theorem rises_nodup {ids : List Int} (h : Rises ids) : ids.Nodup := by
 rw [List.nodup_iff_pairwise_ne, List.pairwise_iff_getElem]
 intro i j hi hj hij
 have := h i j hij hj
 simp [hi, hj] at this
 omega
noncomputable def cnA (rs : List LSt) (ps : List LPr) (top : Int) (ids : List Int) : List (List Int) := if B (IdsR rs ps ids) = true then cnfI ps ids (nbsF 0 (ids.map (chF rs top))) else []
noncomputable def cnN (rs : List LSt) (ps : List LPr) (top : Int) (ids : List Int) : Nat := if B (IdsR rs ps ids) = true then (plF rs top ids).length else 0
def BoxR (w : World) (b : Nat) : Prop := w.heap[b]? = some (.cells #[.int .i64 0, .slice none 0 0] 110)
theorem BoxR.facts {w : World} {b : Nat} (h : BoxR w b) : b < w.heap.size ∧ w.cell? ⟨b, 0, none⟩ = some (.int .i64 0) ∧ w.cell? ⟨b, 1, none⟩ = some (.slice none 0 0) ∧ w.frozen? ⟨b, 0, none⟩ = false ∧ w.frozen? ⟨b, 1, none⟩ = false := by
 unfold BoxR at h
 refine ⟨(Array.getElem?_eq_some_iff.1 h).1, ?_, ?_, ?_, ?_⟩ <;> simp [World.cell?, World.frozen?, h]
structure SpS (w wB : World) (bx : Nat) (nv : Int) (wq : World) (v : Value) (cs : List LCl) : Prop where
 h1 : w.heap.size ≤ bx
 h2 : bx < wB.heap.size
 box : wq.heap[bx]? = some (.cells #[.int .i64 nv, v] 110)
 own : OwC wq wB.heap.size v cs
 kp : Kp1 bx wB.heap.size wB wq
 bel : Below w.heap.size w wq
theorem SpS.lt {w wB wq : World} {bx : Nat} {nv : Int} {v : Value} {cs : List LCl} (h : SpS w wB bx nv wq v cs) : bx < wq.heap.size := (Array.getElem?_eq_some_iff.1 h.box).1
theorem SpS.le {w wB wq : World} {bx : Nat} {nv : Int} {v : Value} {cs : List LCl} (h : SpS w wB bx nv wq v cs) : wB.heap.size ≤ wq.heap.size := h.kp.1
theorem SpS.cell {w wB wq : World} {bx : Nat} {nv : Int} {v : Value} {cs : List LCl} (h : SpS w wB bx nv wq v cs) : wq.cell? ⟨bx, 0, none⟩ = some (.int .i64 nv) ∧ wq.cell? ⟨bx, 1, none⟩ = some v ∧ wq.frozen? ⟨bx, 1, none⟩ = false := by
 have := h.box
 refine ⟨?_, ?_, ?_⟩ <;> simp [World.cell?, World.frozen?, this]
theorem SpS.below {w wB wq wq' : World} {bx : Nat} {nv : Int} {v : Value} {cs : List LCl} (h : SpS w wB bx nv wq v cs) (hb : Below wq.heap.size wq wq') : SpS w wB bx nv wq' v cs :=
 ⟨h.h1, h.h2, (hb.block bx h.lt).trans h.box, h.own.below hb, h.kp.trans (Kp1.of (hb.mono h.le)), bT h.bel hb⟩
theorem SpS.drew {w wB wq : World} {bx : Nat} {nv : Int} {v : Value} {cs : List LCl} (h : SpS w wB bx nv wq v cs) : SpS w wB bx nv wq.drew v cs := h.below (Below.refl _ _).drew
theorem SpS.old {w wB wq : World} {bx : Nat} {nv : Int} {v : Value} {cs : List LCl} (h : SpS w wB bx nv wq v cs) {c : Nat} (hc : c < wB.heap.size) (hb : c ≠ bx) (o : Nat) : c < wq.heap.size ∧ wq.cell? ⟨c, o, none⟩ = wB.cell? ⟨c, o, none⟩ := ⟨Nat.lt_of_lt_of_le hc h.le, h.kp.cell hc hb⟩
theorem SpS.far {w wB wq wa w9 : World} {bx : Nat} {nv : Int} {v : Value} {cs : List LCl} (h : SpS w wB bx nv wq v cs) (hb : Below wq.heap.size wq wa) (hg : wa.grownBy w9 v.ownBlock) : w9.heap[bx]? = some (.cells #[.int .i64 nv, v] 110) := blk_kept h.own h.box (by decide) hb hg
theorem SpS.mid {w wB wq wa w9 : World} {bx : Nat} {nv : Int} {v : Value} {cs : List LCl} (h : SpS w wB bx nv wq v cs) (hb : Below wq.heap.size wq wa) (hg : wa.grownBy w9 v.ownBlock) : bx < w9.heap.size ∧ w9.cell? ⟨bx, 1, none⟩ = some v ∧ w9.frozen? ⟨bx, 1, none⟩ = false := by
 have e := h.far hb hg
 refine ⟨(Array.getElem?_eq_some_iff.1 e).1, ?_, ?_⟩ <;> simp [World.cell?, World.frozen?, e]
theorem SpS.add {w wB wq wa w9 : World} {bx : Nat} {nv : Int} {v v9 : Value} {cs : List LCl} {r : LCl} (h : SpS w wB bx nv wq v cs) (hb : Below wq.heap.size wq wa) (hr : wa.ownsRow wB.heap.size 2 1 r.1 r.2.length (valsZ r.2)) (hf : ∀ j, r.1.ownBlock = some j → wq.heap.size ≤ j) (hg : wa.grownBy w9 v.ownBlock) (own9 : w9.ownsRow wB.heap.size 34 1 v9 (cs.length + 1) (hdC cs ++ [r.1])) : SpS w wB bx nv (w9.setCell ⟨bx, 1, none⟩ v9) v9 (cs ++ [r]) := by
 have hlo : ∀ j, v.ownBlock = some j → wB.heap.size ≤ j := fun j hj => (h.own.row.lt j hj).1
 have hs := h.le
 have hs2 := hb.size
 have hw := h.bel.size
 have b9 : Below wB.heap.size wa w9 := (Below.refl _ _).grown hg (by omega) hlo
 refine ⟨h.h1, h.h2, ?_, (h.own.new hb hr hf hg own9).set h.h2 _ _, ?_, ?_⟩
 ·exact heap_setCell_same w9 bx 1 _ 110 v9 (h.far hb hg)
 ·exact (((h.kp.trans (Kp1.of (hb.mono h.le))).trans (Kp1.of b9))).set 1 v9
 ·exact (((bT h.bel hb).grown hg (by omega) (fun j hj => by have := hlo j hj; have := h.h1; have := h.h2; omega))).setCell h.h1 _
theorem SpS.blk {w wB wq wa w9 : World} {bx : Nat} {nv : Int} {v v9 : Value} {cs : List LCl} (h : SpS w wB bx nv wq v cs) (hb : Below wq.heap.size wq wa) (hg : wa.grownBy w9 v.ownBlock) {b : Nat} {us : Array Value} {t : TypeId} (hh : wq.heap[b]? = some (.cells us t)) (ht : t ≠ 34) (hne : b ≠ bx) : (w9.setCell ⟨bx, 1, none⟩ v9).heap[b]? = some (.cells us t) :=
 (Below.heap_setCell _ _ _ _ hne).trans (blk_kept h.own hh ht hb hg)
theorem SpS.v {w wB wq : World} {bx : Nat} {nv : Int} {v : Value} {cs : List LCl} (h : SpS w wB bx nv wq v cs) : ∃ sl cap, v = .slice sl cs.length cap := h.own.v
def ownL (id : Int) (V : List LPl) (m : Nat) : List Int := (ofId id ((nbF 0 V).take m)).map fun e => e.2
def ownA (V : List LPl) (id : Int) : List Int := (ofId id (nbF 0 V)).map fun e => e.2
theorem nb_take (V : List LPl) (m : Nat) (h : m < V.length) : (nbF 0 V).take (m + 1) = (nbF 0 V).take m ++ [(V[m], (m : Int) + 1)] := by
 have hl : m < (nbF 0 V).length := by rw [nbF_len]; exact h
 rw [List.take_succ_eq_append_getElem hl, nbF_at V 0 m h]
 simp
theorem ofId_one (id : Int) (e : LNb) : ofId id [e] = if e.1.1 = id then [e] else [] := by
 by_cases h : e.1.1 = id <;> simp [ofId, h]
theorem ownL_step (id : Int) (V : List LPl) (m : Nat) (h : m < V.length) : ownL id V (m + 1) = ownL id V m ++ if V[m].1 = id then [(m : Int) + 1] else [] := by
 unfold ownL
 rw [nb_take V m h, ofId_append, List.map_append, ofId_one]
 by_cases h : V[m].1 = id <;> simp [h]
theorem ownL_zero (id : Int) (V : List LPl) : ownL id V 0 = [] := by simp [ownL, ofId]
theorem ownL_all (id : Int) (V : List LPl) (m : Nat) (h : V.length ≤ m) : ownL id V m = ownA V id := by
 unfold ownL ownA; rw [List.take_of_length_le (by rw [nbF_len]; exact h)]
def twoL (V : List LPl) (a m : Nat) (x : Int) : List (List Int) := (ofId x (((nbF 0 V).drop (a + 1)).take m)).map fun y => [-(a : Int) - 1, -y.2]
theorem twoL_zero (V : List LPl) (a : Nat) (x : Int) : twoL V a 0 x = [] := by simp [twoL, ofId]
theorem twoL_step (V : List LPl) (a m : Nat) (x : Int) (h : a + 1 + m < V.length) : twoL V a (m + 1) x = twoL V a m x ++ if V[a + 1 + m].1 = x then [[-(a : Int) - 1, -((a + 1 + m : Nat) : Int) - 1]] else [] := by
 unfold twoL
 have hl : m < ((nbF 0 V).drop (a + 1)).length := by rw [List.length_drop, nbF_len]; omega
 rw [List.take_succ_eq_append_getElem hl, ofId_append, List.map_append, List.getElem_drop, nbF_at V 0 (a + 1 + m) h, ofId_one]
 by_cases g : V[a + 1 + m].1 = x
 ·simp [g]; omega
 ·simp [g]
theorem twoL_step' (V : List LPl) (a b : Nat) (x : Int) (h1 : a + 1 ≤ b) (h : b < V.length) : twoL V a (b + 1 - (a + 1)) x = twoL V a (b - (a + 1)) x ++ if V[b].1 = x then [[-(a : Int) - 1, -(b : Int) - 1]] else [] := by
 obtain ⟨m, rfl⟩ := Nat.exists_eq_add_of_le h1
 have := twoL_step V a m x h
 rw [show a + 1 + m + 1 - (a + 1) = m + 1 by omega, show a + 1 + m - (a + 1) = m by omega]
 exact this
theorem twoS_at (V : List LPl) (a : Nat) (h : a < V.length) (m : Nat) (hm : V.length ≤ a + 1 + m) : twoS ((nbF 0 V).drop a) = twoL V a m V[a].1 ++ twoS ((nbF 0 V).drop (a + 1)) := by
 have hl : a < (nbF 0 V).length := by rw [nbF_len]; exact h
 rw [← List.getElem_cons_drop (h := hl), twoS, nbF_at V 0 a h]
 unfold twoL
 rw [List.take_of_length_le (by rw [List.length_drop, nbF_len]; omega)]
 congr 1
 refine List.map_congr_left fun y _ => ?_
 simp; omega
def besY (ps : List LPr) (p : LPr) (a : Nat) (x : LPl) (b : Nat) (y : LPl) : List (List Int) := if x.1 = p.1 ∧ y.1 = p.2.1 ∧ mayL ps p.1 x.2 p.2.1 y.2 = false then [[-(a : Int) - 1, -(b : Int) - 1]] else []
def besL (ps : List LPr) (p : LPr) (V : List LPl) (a : Nat) (x : LPl) (m : Nat) : List (List Int) := ((nbF 0 V).take m).flatMap fun y => if x.1 = p.1 ∧ y.1.1 = p.2.1 ∧ mayL ps p.1 x.2 p.2.1 y.1.2 = false then [[-(a : Int) - 1, -y.2]] else []
theorem besL_zero (ps : List LPr) (p : LPr) (V : List LPl) (a : Nat) (x : LPl) : besL ps p V a x 0 = [] := by simp [besL]
theorem besL_step (ps : List LPr) (p : LPr) (V : List LPl) (a : Nat) (x : LPl) (m : Nat) (h : m < V.length) : besL ps p V a x (m + 1) = besL ps p V a x m ++ besY ps p a x m V[m] := by
 unfold besL
 rw [nb_take V m h, List.flatMap_append]
 congr 1
 unfold besY
 by_cases g : x.1 = p.1 ∧ V[m].1 = p.2.1 ∧ mayL ps p.1 x.2 p.2.1 V[m].2 = false
 ·simp [g]; omega
 ·simp [g]
def besK (ps : List LPr) (p : LPr) (V : List LPl) (a : Nat) : List (List Int) := ((nbF 0 V).take a).flatMap fun x => (nbF 0 V).flatMap fun y => if x.1.1 = p.1 ∧ y.1.1 = p.2.1 ∧ mayL ps p.1 x.1.2 p.2.1 y.1.2 = false then [[-x.2, -y.2]] else []
theorem besK_zero (ps : List LPr) (p : LPr) (V : List LPl) : besK ps p V 0 = [] := by simp [besK]
theorem besK_step (ps : List LPr) (p : LPr) (V : List LPl) (a : Nat) (h : a < V.length) (m : Nat) (hm : V.length ≤ m) : besK ps p V (a + 1) = besK ps p V a ++ besL ps p V a V[a] m := by
 unfold besK
 rw [nb_take V a h, List.flatMap_append]
 congr 1
 unfold besL
 rw [List.take_of_length_le (show (nbF 0 V).length ≤ m by rw [nbF_len]; exact hm)]
 simp only [List.flatMap_cons, List.flatMap_nil, List.append_nil]
 refine flatMap_cong _ fun y _ => ?_
 rw [show -((a : Int) + 1) = -(a : Int) - 1 by omega]
theorem besK_all (ps : List LPr) (p : LPr) (V : List LPl) (m : Nat) (hm : V.length ≤ m) : besK ps p V m = besS ps (nbF 0 V) p := by
 unfold besK besS
 rw [List.take_of_length_le (show (nbF 0 V).length ≤ m by rw [nbF_len]; exact hm)]
theorem cnA_spec {rs : List LSt} {ps : List LPr} {ids : List Int} (top : Int) (h : IdsR rs ps ids) : cnA rs ps top ids = ids.map (ownA (plF rs top ids)) ++ (twoS (nbF 0 (plF rs top ids)) ++ ps.flatMap (besS ps (nbF 0 (plF rs top ids)))) := by
 unfold cnA
 rw [if_pos (B_yes h), cnf_both rs ps top ids (rises_nodup (idsR_rise h))]
 rfl
theorem cnA_no {rs : List LSt} {ps : List LPr} {ids : List Int} (top : Int) (h : ¬ IdsR rs ps ids) : cnA rs ps top ids = [] ∧ cnN rs ps top ids = 0 := by
 unfold cnA cnN
 rw [B_no h]
 simp
end Go.Proofs.YtnihhbfgbilimaaGreatDoor
