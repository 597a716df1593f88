import Derived.Test.YtnihhbfgbilimaaGreatDoorTw
import Derived.Test.YtnihhbfgbilimaaGreatDoorZXa
import Derived.Test.YtnihhbfgbilimaaGreatDoorProg
import Derived.DeepKeys4
import Derived.MapViews
import Derived.Maps.Own
import Derived.Maps.OwnOps
import Derived.Maps.OwnSet
import Derived.Maps.RangeWalk
import Derived.Deep.RegionHeld3
namespace Go.Proofs.YtnihhbfgbilimaaGreatDoor
open Go.RowKit
set_option linter.unusedVariables false
open List (setIfInBounds_toArray set_cons_zero set_cons_succ getElem_toArray getElem_cons_succ getElem_cons_zero)
def PAt (w : World) (b : Nat) (x y z : Int) : Prop := w.heap[b]? = some (.cells #[.int .i64 x, .int .i64 y, .int .i64 z] 165)
theorem PAt.new (w : World) (x y z : Int) : PAt (w.alloc (.cells #[.int .i64 x, .int .i64 y, .int .i64 z] 165)) w.heap.size x y z := by
 show (w.heap.push _)[w.heap.size]? = _
 simp
theorem PAt.lt {w : World} {b : Nat} {x y z : Int} (h : PAt w b x y z) : b < w.heap.size := (Array.getElem?_eq_some_iff.1 h).1
theorem PAt.below {w w' : World} {b : Nat} {x y z : Int} (h : PAt w b x y z) (hb : Below w.heap.size w w') : PAt w' b x y z := (hb.block b h.lt).trans h
theorem PAt.cells {w : World} {b : Nat} {x y z : Int} (h : PAt w b x y z) : w.cell? ⟨b, 0, none⟩ = some (.int .i64 x) ∧ w.cell? ⟨b, 1, none⟩ = some (.int .i64 y) ∧ w.cell? ⟨b, 2, none⟩ = some (.int .i64 z) ∧ b < w.heap.size := by
 have hl := h.lt
 unfold PAt at h
 refine ⟨?_, ?_, ?_, hl⟩ <;> simp [World.cell?, h]
set_option maxRecDepth 100000 in
set_option maxHeartbeats 2000000 in
theorem str_size (sl : Option Addr) (n cap : Nat) (sl2 : Option Addr) (m cap2 : Nat) (w : World) (h : ¬ (1 ≤ n ∧ n ≤ 12 ∧ m ≤ 40)) :
  Calls Tryz.prog 110 #[TV sl n cap sl2 m cap2] w fun e w' => e = .returned (.bool false) ∧ Below w.heap.size w w' := by
 by_cases h1 : (n : Int) < 1
 ·clear h
  go_enter Tryz.func110, Tryz.ntmps110
  go_wp2
  go_ret
  exact ⟨rfl, bA0 _ _⟩
 ·by_cases h2 : (12 : Int) < (n : Int)
  ·clear h
   go_enter Tryz.func110, Tryz.ntmps110
   go_wp2
   go_ret
   exact ⟨rfl, bA0 _ _⟩
  ·have h3 : (40 : Int) < (m : Int) := by omega
   clear h
   go_enter Tryz.func110, Tryz.ntmps110
   go_wp2
   go_ret
   exact ⟨rfl, bA0 _ _⟩
set_option maxRecDepth 100000 in
set_option maxHeartbeats 2000000 in
theorem str_main (c o cap : Nat) (sl2 : Option Addr) (cap2 : Nat) (rs : List LSt) (ps : List LPr) (w : World) (h1 : 1 ≤ rs.length) (h2 : rs.length ≤ 12) (h3 : ps.length ≤ 40) (hz : StAt w c o rs) (hd : ∀ r ∈ rs, DomIn w r) (hp : Prs w sl2 ps) :
  Calls Tryz.prog 110 #[TV (some ⟨c, o, none⟩) rs.length cap sl2 ps.length cap2] w fun e w' => e = .returned (.bool (B (TabR rs ps))) ∧ Below w.heap.size w w' := by
 have h1' : ¬ (rs.length : Int) < 1 := by omega
 have h2' : ¬ (12 : Int) < (rs.length : Int) := by omega
 have h3' : ¬ (40 : Int) < (ps.length : Int) := by omega
 have B0 := Lib.hid (bA0 w (.cells #[.slice (some ⟨c, o, none⟩) rs.length cap, .slice sl2 ps.length cap2] 26))
 have HZ := Lib.hid (hz.below B0.out)
 have HD := Lib.hid (fun r hr => (hd r hr).below B0.out)
 have HP := Lib.hid (hp.below B0.out)
 have HT := Lib.hid (TabAtE.new w (some ⟨c, o, none⟩) rs.length cap sl2 ps.length cap2)
 have RT := Lib.hid (TabR.iff rs ps)
 clear hz hd hp
 generalize hN : rs.length = n at *
 generalize hM : ps.length = m at *
 have HN := Lib.hid hN
 have HM := Lib.hid hM
 clear hN hM
 go_enter Tryz.func110, Tryz.ntmps110
 go_wp2_with fail
 generalize (w.alloc (.cells #[.slice (some ⟨c, o, none⟩) n cap, .slice sl2 m cap2] 26)) = w0 at *
 go_loopw [3] (fun i wr => ∃ k : Nat, i = .int .i64 k ∧ k ≤ n ∧ Hid (StTo rs k) ∧ Hid (Below w0.heap.size w0 wr)) (fun i _ => n - (intOf i).toNat)
 case atStart => exact ⟨0, rfl, Nat.zero_le _, StTo.zero _, Below.refl _ _⟩
 case round =>
  obtain ⟨k, rfl, hk, H1, H2⟩ := hrel
  have hk0 : (0 : Int) ≤ (k : Int) := by omega
  obtain ⟨t0, t1⟩ := (HT.out.below H2.out).cells
  have tl := (HT.out.below H2.out).lt
  by_cases c1 : k < n
  ·have c1' : (k : Int) < (n : Int) := by omega
   have hlt : k < rs.length := by rw [HN.out]; exact c1
   have Z1 := HZ.out.below H2.out
   obtain ⟨hc0, hc1, hc2⟩ := Z1.cell k hlt
   obtain ⟨sld, capd, ed, hi, hdl⟩ := (HD.out rs[k] (List.getElem_mem hlt)).below H2.out
   rw [ed] at hc2
   have S1 : Hid (∀ W, Below wr.heap.size wr W → Calls Tryz.prog 158 #[SV rs[k].1 rs[k].2.1 sld rs[k].2.2.2.length capd] W fun e w' => e = .returned (.bool (B ((1 ≤ rs[k].1 ∧ rs[k].1 ≤ 999) ∧ StOK rs[k].2.1 rs[k].2.2.2))) ∧ Below W.heap.size W w') := fun W hW => st_any _ _ sld capd _ W hdl (hi.below hW)
   have eg := idsL_get rs k hlt
   by_cases hs : (1 ≤ rs[k].1 ∧ rs[k].1 ≤ 999) ∧ StOK rs[k].2.1 rs[k].2.2.2
   ·rw [B_yes hs] at S1
    by_cases a3 : 0 < k
    ·have a3' : (0 : Int) < (k : Int) := by omega
     have ek : ((k : Int) - 1).toNat = k - 1 := by omega
     have hw : IntKind.i64.wrap ((k : Int) - 1) = (k : Int) - 1 := by rw [IntKind.wrap_i64]; omega
     have hk1 : k - 1 < n := by omega
     have hkl : ((k : Int) - 1) < (n : Int) := by omega
     have hkg : (0 : Int) ≤ ((k : Int) - 1) := by omega
     have hkq : (1 : Int) ≤ (k : Int) := by omega
     have hlt1 : k - 1 < rs.length := by omega
     obtain ⟨hcp, -, -⟩ := Z1.cell (k - 1) hlt1
     have eg1 := idsL_get rs (k - 1) hlt1
     by_cases a4 : (idsL rs).getD k 0 ≤ (idsL rs).getD (k - 1) 0
     ·have HF := Lib.hid (B_no (p := TabR rs ps) (fun g => by
       have := (((RT.out.1 g).2.1 k hlt (by rw [← HN.out]; exact hlt)).2 a3)
       omega))
      rw [eg, eg1] at a4
      generalize rs[k - 1].1 = x at *
      generalize rs[k].1 = z at *
      generalize rs[k].2.1 = y at *
      generalize rs[k].2.2.2.length = q at *
      have KB : Hid (∀ W, Below wr.heap.size wr W → w.heap.size < W.heap.size ∧ c < W.heap.size ∧ W.cell? ⟨w.heap.size, 0, none⟩ = some (.slice (some ⟨c, o, none⟩) n cap) ∧ W.cell? ⟨c, o + k * 3, none⟩ = some (.int .i64 z) ∧ W.cell? ⟨c, o + k * 3 + 1, none⟩ = some (.int .i64 y) ∧ W.cell? ⟨c, o + k * 3 + 2, none⟩ = some (.slice sld q capd) ∧ W.cell? ⟨c, o + (k - 1) * 3, none⟩ = some (.int .i64 x)) := fun W hW => ⟨Nat.lt_of_lt_of_le tl hW.size, Nat.lt_of_lt_of_le Z1.lt hW.size, (hW.cell tl).trans t0, (hW.cell Z1.lt).trans hc0, (hW.cell Z1.lt).trans hc1, (hW.cell Z1.lt).trans hc2, (hW.cell Z1.lt).trans hcp⟩
      have HKS := Lib.hid (KB.out wr (Below.refl _ _))
      clear hi hdl ed Z1 hs eg eg1 hlt hlt1
      go_wp2_with fail
      refine wp_region_held_drew (S := fun W => w.heap.size < W.heap.size ∧ c < W.heap.size ∧ W.cell? ⟨w.heap.size, 0, none⟩ = some (.slice (some ⟨c, o, none⟩) n cap) ∧ W.cell? ⟨c, o + k * 3, none⟩ = some (.int .i64 z) ∧ W.cell? ⟨c, o + k * 3 + 1, none⟩ = some (.int .i64 y) ∧ W.cell? ⟨c, o + k * 3 + 2, none⟩ = some (.slice sld q capd) ∧ W.cell? ⟨c, o + (k - 1) * 3, none⟩ = some (.int .i64 x)) (by kernel_rfl) ?_ (fun hHeld => ?_)
      ·exact HKS.out
      refine tw (i := 0) rfl ?_
      refine tw (i := 1) rfl ?_
      refine tw (i := 2) rfl ?_
      refine tw (i := 3) rfl ?_
      try simp only [Act.put, setIfInBounds_toArray, set_cons_zero, set_cons_succ, getElem_toArray, getElem_cons_succ, getElem_cons_zero]
      refine tw (i := 4) rfl ?_
      try simp only [Act.put, setIfInBounds_toArray, set_cons_zero, set_cons_succ, getElem_toArray, getElem_cons_succ, getElem_cons_zero]
      refine wpAnyH_ready (rs := [5]) (by kernel_rfl) (by simp) ?_
      refine AllReadyH.cons rfl (fun K hK => ?_) AllReadyH.nil
      go_simp
      go_wp2_with (go_at_call 158; refine (S1.out _ (by first | exact Below.refl _ _ | exact (Below.refl _ _).drew | exact Go.below_drewN (Below.refl _ _) _)).mono ?_; rintro e w5 ⟨rfl, b5⟩; have D5 : Hid (Below wr.heap.size wr w5) := bT ((Below.refl wr.heap.size wr).drew) b5; have HKS5 := Lib.hid (KB.out _ D5.out))
      refine hK.out _ _ ?_ (fun hHeld => ?_)
      ·exact HKS5.out
      clear hK K
      refine tw (i := 6) rfl ?_
      refine tw (i := 7) rfl ?_
      refine tw (i := 8) rfl ?_
      refine tw (i := 9) rfl ?_
      try simp only [Act.put, setIfInBounds_toArray, set_cons_zero, set_cons_succ, getElem_toArray, getElem_cons_succ, getElem_cons_zero]
      refine tw (i := 10) rfl ?_
      refine tw (i := 11) rfl ?_
      refine tw (i := 12) rfl ?_
      refine tw (i := 13) rfl ?_
      try simp only [Act.put, setIfInBounds_toArray, set_cons_zero, set_cons_succ, getElem_toArray, getElem_cons_succ, getElem_cons_zero]
      refine tw (i := 14) rfl ?_
      refine tw (i := 15) rfl ?_
      refine tw (i := 16) rfl ?_
      refine tw (i := 17) rfl ?_
      try simp only [Act.put, setIfInBounds_toArray, set_cons_zero, set_cons_succ, getElem_toArray, getElem_cons_succ, getElem_cons_zero]
      refine tw (i := 18) rfl ?_
      refine tw (i := 19) rfl ?_
      refine tw (i := 20) rfl ?_
      refine tw (i := 21) rfl ?_
      try simp only [Act.put, setIfInBounds_toArray, set_cons_zero, set_cons_succ, getElem_toArray, getElem_cons_succ, getElem_cons_zero]
      refine tw (i := 22) rfl ?_
      refine tw (i := 23) rfl ?_
      refine tw (i := 24) rfl ?_
      refine tw (i := 25) rfl ?_
      try simp only [Act.put, setIfInBounds_toArray, set_cons_zero, set_cons_succ, getElem_toArray, getElem_cons_succ, getElem_cons_zero]
      refine tw (i := 26) rfl ?_
      try simp only [Act.put, setIfInBounds_toArray, set_cons_zero, set_cons_succ, getElem_toArray, getElem_cons_succ, getElem_cons_zero]
      refine wpAnyH_done (by kernel_rfl) ?_ _
      have BQ5 := Lib.hid (B0.out.trans ((bT H2.out D5.out).mono B0.out.size))
      clear b5 HKS5 HKS KB S1 hc0 hc1 hc2 t0 t1
      go_wp2
      go_ret
      exact ⟨by rw [HF.out]; rfl, BQ5.out⟩
     ·have HS := Lib.hid (H1.out.step hlt hs (fun _ => by omega))
      rw [eg, eg1] at a4
      generalize rs[k - 1].1 = x at *
      generalize rs[k].1 = z at *
      generalize rs[k].2.1 = y at *
      generalize rs[k].2.2.2.length = q at *
      have KB : Hid (∀ W, Below wr.heap.size wr W → w.heap.size < W.heap.size ∧ c < W.heap.size ∧ W.cell? ⟨w.heap.size, 0, none⟩ = some (.slice (some ⟨c, o, none⟩) n cap) ∧ W.cell? ⟨c, o + k * 3, none⟩ = some (.int .i64 z) ∧ W.cell? ⟨c, o + k * 3 + 1, none⟩ = some (.int .i64 y) ∧ W.cell? ⟨c, o + k * 3 + 2, none⟩ = some (.slice sld q capd) ∧ W.cell? ⟨c, o + (k - 1) * 3, none⟩ = some (.int .i64 x)) := fun W hW => ⟨Nat.lt_of_lt_of_le tl hW.size, Nat.lt_of_lt_of_le Z1.lt hW.size, (hW.cell tl).trans t0, (hW.cell Z1.lt).trans hc0, (hW.cell Z1.lt).trans hc1, (hW.cell Z1.lt).trans hc2, (hW.cell Z1.lt).trans hcp⟩
      have HKS := Lib.hid (KB.out wr (Below.refl _ _))
      clear hi hdl ed Z1 hs eg eg1 hlt hlt1
      go_wp2_with fail
      refine wp_region_held_drew (S := fun W => w.heap.size < W.heap.size ∧ c < W.heap.size ∧ W.cell? ⟨w.heap.size, 0, none⟩ = some (.slice (some ⟨c, o, none⟩) n cap) ∧ W.cell? ⟨c, o + k * 3, none⟩ = some (.int .i64 z) ∧ W.cell? ⟨c, o + k * 3 + 1, none⟩ = some (.int .i64 y) ∧ W.cell? ⟨c, o + k * 3 + 2, none⟩ = some (.slice sld q capd) ∧ W.cell? ⟨c, o + (k - 1) * 3, none⟩ = some (.int .i64 x)) (by kernel_rfl) ?_ (fun hHeld => ?_)
      ·exact HKS.out
      refine tw (i := 0) rfl ?_
      refine tw (i := 1) rfl ?_
      refine tw (i := 2) rfl ?_
      refine tw (i := 3) rfl ?_
      try simp only [Act.put, setIfInBounds_toArray, set_cons_zero, set_cons_succ, getElem_toArray, getElem_cons_succ, getElem_cons_zero]
      refine tw (i := 4) rfl ?_
      try simp only [Act.put, setIfInBounds_toArray, set_cons_zero, set_cons_succ, getElem_toArray, getElem_cons_succ, getElem_cons_zero]
      refine wpAnyH_ready (rs := [5]) (by kernel_rfl) (by simp) ?_
      refine AllReadyH.cons rfl (fun K hK => ?_) AllReadyH.nil
      go_simp
      go_wp2_with (go_at_call 158; refine (S1.out _ (by first | exact Below.refl _ _ | exact (Below.refl _ _).drew | exact Go.below_drewN (Below.refl _ _) _)).mono ?_; rintro e w5 ⟨rfl, b5⟩; have D5 : Hid (Below wr.heap.size wr w5) := bT ((Below.refl wr.heap.size wr).drew) b5; have HKS5 := Lib.hid (KB.out _ D5.out))
      refine hK.out _ _ ?_ (fun hHeld => ?_)
      ·exact HKS5.out
      clear hK K
      refine tw (i := 6) rfl ?_
      refine tw (i := 7) rfl ?_
      refine tw (i := 8) rfl ?_
      refine tw (i := 9) rfl ?_
      try simp only [Act.put, setIfInBounds_toArray, set_cons_zero, set_cons_succ, getElem_toArray, getElem_cons_succ, getElem_cons_zero]
      refine tw (i := 10) rfl ?_
      refine tw (i := 11) rfl ?_
      refine tw (i := 12) rfl ?_
      refine tw (i := 13) rfl ?_
      try simp only [Act.put, setIfInBounds_toArray, set_cons_zero, set_cons_succ, getElem_toArray, getElem_cons_succ, getElem_cons_zero]
      refine tw (i := 14) rfl ?_
      refine tw (i := 15) rfl ?_
      refine tw (i := 16) rfl ?_
      refine tw (i := 17) rfl ?_
      try simp only [Act.put, setIfInBounds_toArray, set_cons_zero, set_cons_succ, getElem_toArray, getElem_cons_succ, getElem_cons_zero]
      refine tw (i := 18) rfl ?_
      refine tw (i := 19) rfl ?_
      refine tw (i := 20) rfl ?_
      refine tw (i := 21) rfl ?_
      try simp only [Act.put, setIfInBounds_toArray, set_cons_zero, set_cons_succ, getElem_toArray, getElem_cons_succ, getElem_cons_zero]
      refine tw (i := 22) rfl ?_
      refine tw (i := 23) rfl ?_
      refine tw (i := 24) rfl ?_
      refine tw (i := 25) rfl ?_
      try simp only [Act.put, setIfInBounds_toArray, set_cons_zero, set_cons_succ, getElem_toArray, getElem_cons_succ, getElem_cons_zero]
      refine tw (i := 26) rfl ?_
      try simp only [Act.put, setIfInBounds_toArray, set_cons_zero, set_cons_succ, getElem_toArray, getElem_cons_succ, getElem_cons_zero]
      refine wpAnyH_done (by kernel_rfl) ?_ _
      have BQ5 := Lib.hid (bT H2.out D5.out)
      clear b5 HKS5 HKS KB S1 hc0 hc1 hc2 t0 t1
      go_wp2_with fail
      go_roundw
      case rel => exact ⟨k + 1, by go_num, by omega, HS, BQ5⟩
      case measure => simp [intOf]; omega
    ·have HS := Lib.hid (H1.out.step hlt hs (fun h => absurd h a3))
     obtain rfl : k = 0 := by omega
     simp only [Nat.zero_mul, Nat.add_zero] at hc0 hc1 hc2
     generalize rs[0].1 = z at *
     generalize rs[0].2.1 = y at *
     generalize rs[0].2.2.2.length = q at *
     have KB : Hid (∀ W, Below wr.heap.size wr W → w.heap.size < W.heap.size ∧ c < W.heap.size ∧ W.cell? ⟨w.heap.size, 0, none⟩ = some (.slice (some ⟨c, o, none⟩) n cap) ∧ W.cell? ⟨c, o, none⟩ = some (.int .i64 z) ∧ W.cell? ⟨c, o + 1, none⟩ = some (.int .i64 y) ∧ W.cell? ⟨c, o + 2, none⟩ = some (.slice sld q capd)) := fun W hW => ⟨Nat.lt_of_lt_of_le tl hW.size, Nat.lt_of_lt_of_le Z1.lt hW.size, (hW.cell tl).trans t0, (hW.cell Z1.lt).trans hc0, (hW.cell Z1.lt).trans hc1, (hW.cell Z1.lt).trans hc2⟩
     have HKS := Lib.hid (KB.out wr (Below.refl _ _))
     clear hi hdl ed Z1 hs eg hlt
     go_wp2_with fail
     refine wp_region_held_drew (S := fun W => w.heap.size < W.heap.size ∧ c < W.heap.size ∧ W.cell? ⟨w.heap.size, 0, none⟩ = some (.slice (some ⟨c, o, none⟩) n cap) ∧ W.cell? ⟨c, o, none⟩ = some (.int .i64 z) ∧ W.cell? ⟨c, o + 1, none⟩ = some (.int .i64 y) ∧ W.cell? ⟨c, o + 2, none⟩ = some (.slice sld q capd)) (by kernel_rfl) ?_ (fun hHeld => ?_)
     ·exact HKS.out
     refine tw (i := 0) rfl ?_
     refine tw (i := 1) rfl ?_
     refine tw (i := 2) rfl ?_
     refine tw (i := 3) rfl ?_
     try simp only [Act.put, setIfInBounds_toArray, set_cons_zero, set_cons_succ, getElem_toArray, getElem_cons_succ, getElem_cons_zero]
     refine tw (i := 4) rfl ?_
     try simp only [Act.put, setIfInBounds_toArray, set_cons_zero, set_cons_succ, getElem_toArray, getElem_cons_succ, getElem_cons_zero]
     refine wpAnyH_ready (rs := [5]) (by kernel_rfl) (by simp) ?_
     refine AllReadyH.cons rfl (fun K hK => ?_) AllReadyH.nil
     go_simp
     go_wp2_with (go_at_call 158; refine (S1.out _ (by first | exact Below.refl _ _ | exact (Below.refl _ _).drew | exact Go.below_drewN (Below.refl _ _) _)).mono ?_; rintro e w5 ⟨rfl, b5⟩; have D5 : Hid (Below wr.heap.size wr w5) := bT ((Below.refl wr.heap.size wr).drew) b5; have HKS5 := Lib.hid (KB.out _ D5.out))
     refine hK.out _ _ ?_ (fun hHeld => ?_)
     ·exact HKS5.out
     clear hK K
     refine tw (i := 6) rfl ?_
     refine tw (i := 7) rfl ?_
     refine tw (i := 8) rfl ?_
     refine tw (i := 9) rfl ?_
     try simp only [Act.put, setIfInBounds_toArray, set_cons_zero, set_cons_succ, getElem_toArray, getElem_cons_succ, getElem_cons_zero]
     refine tw (i := 10) rfl ?_
     refine ts (i := 11) rfl ?_
     refine ts (i := 12) rfl ?_
     refine ts (i := 13) rfl ?_
     try simp only [Act.put, setIfInBounds_toArray, set_cons_zero, set_cons_succ, getElem_toArray, getElem_cons_succ, getElem_cons_zero]
     refine ts (i := 14) rfl ?_
     refine ts (i := 15) rfl ?_
     refine ts (i := 16) rfl ?_
     refine ts (i := 17) rfl ?_
     try simp only [Act.put, setIfInBounds_toArray, set_cons_zero, set_cons_succ, getElem_toArray, getElem_cons_succ, getElem_cons_zero]
     refine ts (i := 18) rfl ?_
     refine ts (i := 19) rfl ?_
     refine ts (i := 20) rfl ?_
     refine ts (i := 21) rfl ?_
     try simp only [Act.put, setIfInBounds_toArray, set_cons_zero, set_cons_succ, getElem_toArray, getElem_cons_succ, getElem_cons_zero]
     refine ts (i := 22) rfl ?_
     refine ts (i := 23) rfl ?_
     refine ts (i := 24) rfl ?_
     refine tw (i := 25) rfl ?_
     try simp only [Act.put, setIfInBounds_toArray, set_cons_zero, set_cons_succ, getElem_toArray, getElem_cons_succ, getElem_cons_zero]
     refine tw (i := 26) rfl ?_
     try simp only [Act.put, setIfInBounds_toArray, set_cons_zero, set_cons_succ, getElem_toArray, getElem_cons_succ, getElem_cons_zero]
     refine wpAnyH_done (by kernel_rfl) ?_ _
     have BQ5 := Lib.hid (bT H2.out D5.out)
     clear b5 HKS5 HKS KB S1 hc0 hc1 hc2 t0 t1
     go_wp2_with fail
     go_roundw
     case rel => exact ⟨0 + 1, by go_num, by omega, HS, BQ5⟩
     case measure => simp [intOf]; omega
   ·rw [B_no hs] at S1
    have HF := Lib.hid (B_no (p := TabR rs ps) (fun g => hs ((RT.out.1 g).2.1 k hlt (by rw [← HN.out]; exact hlt)).1))
    generalize rs[k].1 = z at *
    generalize rs[k].2.1 = y at *
    generalize rs[k].2.2.2.length = q at *
    have KB : Hid (∀ W, Below wr.heap.size wr W → w.heap.size < W.heap.size ∧ c < W.heap.size ∧ W.cell? ⟨w.heap.size, 0, none⟩ = some (.slice (some ⟨c, o, none⟩) n cap) ∧ W.cell? ⟨c, o + k * 3, none⟩ = some (.int .i64 z) ∧ W.cell? ⟨c, o + k * 3 + 1, none⟩ = some (.int .i64 y) ∧ W.cell? ⟨c, o + k * 3 + 2, none⟩ = some (.slice sld q capd)) := fun W hW => ⟨Nat.lt_of_lt_of_le tl hW.size, Nat.lt_of_lt_of_le Z1.lt hW.size, (hW.cell tl).trans t0, (hW.cell Z1.lt).trans hc0, (hW.cell Z1.lt).trans hc1, (hW.cell Z1.lt).trans hc2⟩
    have HKS := Lib.hid (KB.out wr (Below.refl _ _))
    clear hi hdl ed Z1 hs eg hlt
    go_wp2_with fail
    refine wp_region_held_drew (S := fun W => w.heap.size < W.heap.size ∧ c < W.heap.size ∧ W.cell? ⟨w.heap.size, 0, none⟩ = some (.slice (some ⟨c, o, none⟩) n cap) ∧ W.cell? ⟨c, o + k * 3, none⟩ = some (.int .i64 z) ∧ W.cell? ⟨c, o + k * 3 + 1, none⟩ = some (.int .i64 y) ∧ W.cell? ⟨c, o + k * 3 + 2, none⟩ = some (.slice sld q capd)) (by kernel_rfl) ?_ (fun hHeld => ?_)
    ·exact HKS.out
    refine tw (i := 0) rfl ?_
    refine tw (i := 1) rfl ?_
    refine tw (i := 2) rfl ?_
    refine tw (i := 3) rfl ?_
    try simp only [Act.put, setIfInBounds_toArray, set_cons_zero, set_cons_succ, getElem_toArray, getElem_cons_succ, getElem_cons_zero]
    refine tw (i := 4) rfl ?_
    try simp only [Act.put, setIfInBounds_toArray, set_cons_zero, set_cons_succ, getElem_toArray, getElem_cons_succ, getElem_cons_zero]
    refine wpAnyH_ready (rs := [5]) (by kernel_rfl) (by simp) ?_
    refine AllReadyH.cons rfl (fun K hK => ?_) AllReadyH.nil
    go_simp
    go_wp2_with (go_at_call 158; refine (S1.out _ (by first | exact Below.refl _ _ | exact (Below.refl _ _).drew | exact Go.below_drewN (Below.refl _ _) _)).mono ?_; rintro e w5 ⟨rfl, b5⟩; have D5 : Hid (Below wr.heap.size wr w5) := bT ((Below.refl wr.heap.size wr).drew) b5; have HKS5 := Lib.hid (KB.out _ D5.out))
    refine hK.out _ _ ?_ (fun hHeld => ?_)
    ·exact HKS5.out
    clear hK K
    refine tw (i := 6) rfl ?_
    refine tw (i := 7) rfl ?_
    refine ts (i := 8) rfl ?_
    refine ts (i := 9) rfl ?_
    try simp only [Act.put, setIfInBounds_toArray, set_cons_zero, set_cons_succ, getElem_toArray, getElem_cons_succ, getElem_cons_zero]
    refine ts (i := 10) rfl ?_
    refine ts (i := 11) rfl ?_
    refine ts (i := 12) rfl ?_
    refine ts (i := 13) rfl ?_
    try simp only [Act.put, setIfInBounds_toArray, set_cons_zero, set_cons_succ, getElem_toArray, getElem_cons_succ, getElem_cons_zero]
    refine ts (i := 14) rfl ?_
    refine ts (i := 15) rfl ?_
    refine ts (i := 16) rfl ?_
    refine ts (i := 17) rfl ?_
    try simp only [Act.put, setIfInBounds_toArray, set_cons_zero, set_cons_succ, getElem_toArray, getElem_cons_succ, getElem_cons_zero]
    refine ts (i := 18) rfl ?_
    refine ts (i := 19) rfl ?_
    refine ts (i := 20) rfl ?_
    refine ts (i := 21) rfl ?_
    try simp only [Act.put, setIfInBounds_toArray, set_cons_zero, set_cons_succ, getElem_toArray, getElem_cons_succ, getElem_cons_zero]
    refine ts (i := 22) rfl ?_
    refine ts (i := 23) rfl ?_
    refine ts (i := 24) rfl ?_
    refine ts (i := 25) rfl ?_
    try simp only [Act.put, setIfInBounds_toArray, set_cons_zero, set_cons_succ, getElem_toArray, getElem_cons_succ, getElem_cons_zero]
    refine tw (i := 26) rfl ?_
    try simp only [Act.put, setIfInBounds_toArray, set_cons_zero, set_cons_succ, getElem_toArray, getElem_cons_succ, getElem_cons_zero]
    refine wpAnyH_done (by kernel_rfl) ?_ _
    have BQ5 := Lib.hid (B0.out.trans ((bT H2.out D5.out).mono B0.out.size))
    clear b5 HKS5 HKS KB S1 hc0 hc1 hc2 t0 t1
    go_wp2
    go_ret
    exact ⟨by rw [HF.out]; rfl, BQ5.out⟩
  ·have c1' : ¬ (k : Int) < (n : Int) := by omega
   have HS := Lib.hid (show StTo rs n by have := H1.out; rwa [show k = n by omega] at this)
   have HTr := Lib.hid (HT.out.below H2.out)
   have HSr := Lib.hid (Sts.mk (sl := some ⟨c, o, none⟩) (Or.inr ⟨c, o, rfl, HZ.out.below H2.out⟩) (fun r hr => (HD.out r hr).below H2.out))
   have HPr := Lib.hid (HP.out.below H2.out)
   have B2 := Lib.hid (B0.out.trans (H2.out.mono B0.out.size))
   have FD : Hid (∀ W x, Below wr.heap.size wr W → Calls Tryz.prog 86 #[TV (some ⟨c, o, none⟩) n cap sl2 m cap2, .int .i64 x] W fun e w' => e = .returned (.int .i64 (posOf (idsL rs) x)) ∧ Below W.heap.size W w') := fun W x hW => by
    have := fd_any (some ⟨c, o, none⟩) cap sl2 m cap2 x rs W (by rw [HN.out]; omega) (HSr.out.below hW)
    rwa [HN.out] at this
   clear H1 H2 HZ HD HP B0 HT HSr
   obtain ⟨w1, hw1⟩ : ∃ w1, w1 = wr := ⟨wr, rfl⟩
   subst hw1
   go_wp2_with fail
   go_loopw [4] (fun i ws => ∃ j : Nat, i = .int .i64 j ∧ j ≤ m ∧ Hid (PrTo (idsL rs) ps j) ∧ Hid (Below w1.heap.size w1 ws)) (fun i _ => m - (intOf i).toNat)
   case atStart => exact ⟨0, rfl, Nat.zero_le _, PrTo.zero _ _, Below.refl _ _⟩
   case round =>
    clear t0 t1
    obtain ⟨j, rfl, hj, J1, J2⟩ := hrel
    have hj0 : (0 : Int) ≤ (j : Int) := by omega
    obtain ⟨t0, t1⟩ := (HTr.out.below J2.out).cells
    by_cases d1 : j < m
    ·have d1' : (j : Int) < (m : Int) := by omega
     have hlt : j < ps.length := by rw [HM.out]; exact d1
     obtain ⟨cp, op, rfl, HPA⟩ : ∃ cp op, sl2 = some ⟨cp, op, none⟩ ∧ PrAt w1 cp op ps := by
      rcases HPr.out with e | h
      ·rw [e] at hlt; simp at hlt
      ·exact h
     have Z1 := HPA.below J2.out
     obtain ⟨p0, p1, p2⟩ := Z1.cell j hlt
     obtain ⟨a, b, q, hpj⟩ : ∃ a b q, ps[j] = (a, b, q) := ⟨_, _, _, rfl⟩
     rw [hpj] at p0 p1 p2
     dsimp only at p0 p1 p2
     have tl := (HTr.out.below J2.out).lt
     have zl := Z1.lt
     by_cases e1 : q < 1
     ·have HF := Lib.hid (B_no (p := TabR rs ps) (fun g => by
       have hh := ((RT.out.1 g).2.2 j hlt d1).1
       rw [hpj] at hh
       obtain ⟨g1, g2, g3, g4⟩ := hh
       dsimp only at g1 g2 g3 g4
       omega))
      have BE := Lib.hid (B2.out.trans ((bA J2.out (.cells #[.int .i64 a, .int .i64 b, .int .i64 q] 165)).mono B2.out.size))
      clear hlt hpj Z1 HPA
      go_wp2
      go_ret
      exact ⟨by rw [HF.out]; rfl, BE.out⟩
     ·by_cases e2 : 2 < q
      ·have HF := Lib.hid (B_no (p := TabR rs ps) (fun g => by
        have hh := ((RT.out.1 g).2.2 j hlt d1).1
        rw [hpj] at hh
        obtain ⟨g1, g2, g3, g4⟩ := hh
        dsimp only at g1 g2 g3 g4
        omega))
       have BE := Lib.hid (B2.out.trans ((bA J2.out (.cells #[.int .i64 a, .int .i64 b, .int .i64 q] 165)).mono B2.out.size))
       clear hlt hpj Z1 HPA
       go_wp2
       go_ret
       exact ⟨by rw [HF.out]; rfl, BE.out⟩
      ·by_cases e3 : b ≤ a
       ·have HF := Lib.hid (B_no (p := TabR rs ps) (fun g => by
         have hh := ((RT.out.1 g).2.2 j hlt d1).1
         rw [hpj] at hh
         obtain ⟨g1, g2, g3, g4⟩ := hh
         dsimp only at g1 g2 g3 g4
         omega))
        have BE := Lib.hid (B2.out.trans ((bA J2.out (.cells #[.int .i64 a, .int .i64 b, .int .i64 q] 165)).mono B2.out.size))
        clear hlt hpj Z1 HPA
        go_wp2
        go_ret
        exact ⟨by rw [HF.out]; rfl, BE.out⟩
       ·by_cases e4 : a ∈ idsL rs
        ·have f4 : ¬ posOf (idsL rs) a < 0 := fun h => (posOf_neg _ _).1 h e4
         by_cases e5 : b ∈ idsL rs
         ·have f5 : ¬ posOf (idsL rs) b < 0 := fun h => (posOf_neg _ _).1 h e5
          have PO := Lib.hid (show PrOK (idsL rs) ps[j] by rw [hpj]; exact ⟨by dsimp only; omega, by dsimp only; omega, e4, e5⟩)
          clear e4 e5
          go_wp2_with fail
          refine (FD.out _ a (bA J2.out _)).mono ?_
          rintro e w5 ⟨rfl, b5⟩
          have D5 := Lib.hid (bT (bA J2.out _) b5)
          have s5 : wr.heap.size < w5.heap.size := by have := b5.size; simp at this; omega
          have QA := Lib.hid (PAt.new wr a b q)
          have QA5 := Lib.hid (QA.out.below b5)
          obtain ⟨q0, q1, q2, ql⟩ := QA5.out.cells
          obtain ⟨t0', t1'⟩ := (HTr.out.below D5.out).cells
          have tl5 := (HTr.out.below D5.out).lt
          clear b5 t0 t1 tl
          generalize posOf (idsL rs) a = pa at *
          go_wp2_with fail
          refine (FD.out _ b D5.out).mono ?_
          rintro e w6 ⟨rfl, b6⟩
          have D6 := Lib.hid (bT D5.out b6)
          have QA6 := Lib.hid (QA5.out.below b6)
          clear q0 q1 q2 ql t0' t1' tl5 QA5 QA b6
          obtain ⟨q0, q1, q2, ql⟩ := QA6.out.cells
          obtain ⟨t0', t1'⟩ := (HTr.out.below D6.out).cells
          have tl6 := (HTr.out.below D6.out).lt
          generalize posOf (idsL rs) b = pb at *
          clear FD
          by_cases g0 : 0 < j
          ·have g0' : (0 : Int) < (j : Int) := by omega
           have ek : ((j : Int) - 1).toNat = j - 1 := by omega
           have hw : IntKind.i64.wrap ((j : Int) - 1) = (j : Int) - 1 := by rw [IntKind.wrap_i64]; omega
           have hkl : ((j : Int) - 1) < (m : Int) := by omega
           have hkg : (0 : Int) ≤ ((j : Int) - 1) := by omega
           have hkq : (1 : Int) ≤ (j : Int) := by omega
           have hlt1 : j - 1 < ps.length := by omega
           obtain ⟨a', b', q', hpk⟩ : ∃ a b q, ps[j - 1] = (a, b, q) := ⟨_, _, _, rfl⟩
           have Z6 := HPA.below D6.out
           obtain ⟨r0, r1, r2⟩ := Z6.cell (j - 1) hlt1
           have zl6 := Z6.lt
           rw [hpk] at r0 r1 r2
           dsimp only at r0 r1 r2
           by_cases k1 : a < a'
           ·have HF := Lib.hid (B_no (p := TabR rs ps) (fun g => by
             have hh := ((RT.out.1 g).2.2 j hlt d1).2 g0
             rw [hpj, hpk] at hh
             unfold Lt2 ends at hh
             dsimp only at hh
             omega))
            have BE := Lib.hid (B2.out.trans ((bA D6.out (.cells #[.int .i64 a', .int .i64 b', .int .i64 q'] 165)).mono B2.out.size))
            clear PO hpj hpk Z1 Z6 HPA hlt hlt1
            go_wp2
            go_ret
            exact ⟨by rw [HF.out]; rfl, BE.out⟩
           ·by_cases k2 : a = a'
            ·by_cases k3 : b ≤ b'
             ·have k2' : (a == a') = true := by rw [beq_iff_eq]; exact k2
              have HF := Lib.hid (B_no (p := TabR rs ps) (fun g => by
               have hh := ((RT.out.1 g).2.2 j hlt d1).2 g0
               rw [hpj, hpk] at hh
               unfold Lt2 ends at hh
               dsimp only at hh
               omega))
              have BE := Lib.hid (B2.out.trans ((bA D6.out (.cells #[.int .i64 a', .int .i64 b', .int .i64 q'] 165)).mono B2.out.size))
              clear PO hpj hpk Z1 Z6 HPA hlt hlt1
              go_wp2
              go_ret
              exact ⟨by rw [HF.out]; rfl, BE.out⟩
             ·have k2' : (a == a') = true := by rw [beq_iff_eq]; exact k2
              have HS2 := Lib.hid (J1.out.step hlt PO.out (fun h0 => by
               rw [hpj, hpk]
               unfold Lt2 ends
               dsimp only
               omega))
              have D7 := Lib.hid (bA D6.out (.cells #[.int .i64 a', .int .i64 b', .int .i64 q'] 165))
              clear PO hpj hpk Z1 Z6 HPA hlt hlt1
              go_wp2_with fail
              go_roundw
              case rel => exact ⟨j + 1, by go_num, by omega, HS2, D7⟩
              case measure => simp [intOf]; omega
            ·have k2' : (a == a') = false := by rw [beq_eq_false_iff_ne]; exact k2
             have HS2 := Lib.hid (J1.out.step hlt PO.out (fun h0 => by
              rw [hpj, hpk]
              unfold Lt2 ends
              dsimp only
              omega))
             have D7 := Lib.hid (bA D6.out (.cells #[.int .i64 a', .int .i64 b', .int .i64 q'] 165))
             clear PO hpj hpk Z1 Z6 HPA hlt hlt1
             go_wp2_with fail
             go_roundw
             case rel => exact ⟨j + 1, by go_num, by omega, HS2, D7⟩
             case measure => simp [intOf]; omega
          ·have g0' : ¬ (0 : Int) < (j : Int) := by omega
           have HS2 := Lib.hid (J1.out.step hlt PO.out (fun h0 => absurd h0 g0))
           clear PO
           clear hlt hpj Z1 HPA
           go_wp2_with fail
           go_roundw
           case rel => exact ⟨j + 1, by go_num, by omega, HS2, D6⟩
           case measure => simp [intOf]; omega
         ·have f5 : posOf (idsL rs) b < 0 := (posOf_neg _ _).2 e5
          have HF := Lib.hid (B_no (p := TabR rs ps) (fun g => by
           have hh := ((RT.out.1 g).2.2 j hlt d1).1
           rw [hpj] at hh
           obtain ⟨g1, g2, g3, g4⟩ := hh
           dsimp only at g1 g2 g3 g4
           exact e5 g4))
          have BE := Lib.hid (B2.out.trans ((bA J2.out (.cells #[.int .i64 a, .int .i64 b, .int .i64 q] 165)).mono B2.out.size))
          clear hlt hpj Z1 HPA
          clear e4 e5
          go_wp2_with fail
          refine (FD.out _ a (bA J2.out _)).mono ?_
          rintro e w5 ⟨rfl, b5⟩
          have D5 := Lib.hid (bT (bA J2.out _) b5)
          have QA5 := Lib.hid ((PAt.new wr a b q).below b5)
          obtain ⟨q0, q1, q2, ql⟩ := QA5.out.cells
          obtain ⟨t0', t1'⟩ := (HTr.out.below D5.out).cells
          have tl5 := (HTr.out.below D5.out).lt
          clear b5 t0 t1 tl BE
          generalize posOf (idsL rs) a = pa at *
          go_wp2_with fail
          refine (FD.out _ b D5.out).mono ?_
          rintro e w6 ⟨rfl, b6⟩
          have D6 := Lib.hid (bT D5.out b6)
          have BE := Lib.hid (B2.out.trans (D6.out.mono B2.out.size))
          generalize posOf (idsL rs) b = pb at *
          go_wp2
          go_ret
          exact ⟨by rw [HF.out]; rfl, BE.out⟩
        ·have f4 : posOf (idsL rs) a < 0 := (posOf_neg _ _).2 e4
         have HF := Lib.hid (B_no (p := TabR rs ps) (fun g => by
          have hh := ((RT.out.1 g).2.2 j hlt d1).1
          rw [hpj] at hh
          obtain ⟨g1, g2, g3, g4⟩ := hh
          dsimp only at g1 g2 g3 g4
          exact e4 g3))
         have BE := Lib.hid (B2.out.trans ((bA J2.out (.cells #[.int .i64 a, .int .i64 b, .int .i64 q] 165)).mono B2.out.size))
         clear hlt hpj Z1 HPA
         clear e4
         go_wp2_with fail
         refine (FD.out _ a (bA J2.out _)).mono ?_
         rintro e w5 ⟨rfl, b5⟩
         have D5 := Lib.hid (bT (bA J2.out _) b5)
         clear BE
         have BE := Lib.hid (B2.out.trans (D5.out.mono B2.out.size))
         generalize posOf (idsL rs) a = pa at *
         go_wp2
         go_ret
         exact ⟨by rw [HF.out]; rfl, BE.out⟩
    ·have d1' : ¬ (j : Int) < (m : Int) := by omega
     have HE := Lib.hid (B_yes (RT.out.2 ⟨⟨h1, h2, h3⟩, HS.out, by have := J1.out; rwa [show j = m by omega] at this⟩))
     have BE := Lib.hid (B2.out.trans (J2.out.mono B2.out.size))
     go_wp2
     go_ret
     exact ⟨by rw [HE.out]; rfl, BE.out⟩
theorem str_anyD (sl : Option Addr) (cap : Nat) (sl2 : Option Addr) (cap2 : Nat) (rs : List LSt) (ps : List LPr) (w : World) (hz : Sts w sl rs) (hp : Prs w sl2 ps) :
  Calls Tryz.prog 110 #[TV sl rs.length cap sl2 ps.length cap2] w fun e w' => e = .returned (.bool (B (TabR rs ps))) ∧ Below w.heap.size w w' := by
 by_cases h : 1 ≤ rs.length ∧ rs.length ≤ 12 ∧ ps.length ≤ 40
 ·rcases hz.row with e | ⟨c, o, rfl, h0⟩
  ·rw [e] at h; simp at h
  ·exact str_main c o cap sl2 cap2 rs ps w h.1 h.2.1 h.2.2 h0 hz.dom hp
 ·rw [B_no (fun g => h g.1)]
  exact str_size sl _ cap sl2 _ cap2 w h
end Go.Proofs.YtnihhbfgbilimaaGreatDoor
