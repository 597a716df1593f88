import Derived.Ground.SlgmProg
import Derived.Shelf.SortM.Plain
import Derived.Shelf.SortM.SortNone
import Derived.Test.YtnihhbfgbilimaaGreatDoorProg
import Derived.Test.YtnihhbfgbilimaaGreatDoorKHad
import Derived.Test.YtnihhbfgbilimaaGreatDoorPw
import Derived.Shelf.RegionOpenPlain
import Derived.Lib.Overlaps
import Derived.Laws.Externs
import Derived.WalkMore
import Derived.Sort.OwnSortedInts
import Derived.Test.YtnihhbfgbilimaaGreatDoorKQaj
namespace Go.Proofs
open Go.Shelf
def Tryz.laysSlM5_f146_ren : Go.Shelf.Ren := ⟨fun | 5 => 146 | 8 => 179 | 7 => 178 | 19 => 211 | 20 => 212 | 10 => 202 | 11 => 203 | 12 => 204 | 13 => 205 | 14 => 206 | 15 => 207 | 16 => 208 | 17 => 209 | 18 => 210 | 30 => 225 | 31 => 226 | 32 => 227 | 33 => 228 | 34 => 229 | 35 => 230 | 40 => 243 | n => n, fun | 23 => 34 | 25 => 2 | 3 => 3 | 32 => 149 | 22 => 34 | 0 => 0 | 44 => 258 | 46 => 87 | 4 => 4 | 36 => 251 | 35 => 250 | 41 => 226 | 5 => 5 | 9 => 9 | 53 => 272 | 57 => 276 | 63 => 292 | 64 => 293 | n => n, fun | n => n⟩
theorem Tryz.laysSlM5_f146 : Go.Proofs.SlLaysM.n5 Tryz.prog Tryz.laysSlM5_f146_ren := {
 mixed := by kernel_rfl
 f5 := ⟨Tryz.f146.name, by decide, Tryz.func146.trans (congrArg some (by kernel_rfl))⟩
 f7 := ⟨Tryz.f178.name, by decide, Tryz.func178.trans (congrArg some (by kernel_rfl))⟩
 f8 := Tryz.func179.trans (congrArg some (by kernel_rfl))
 f10 := ⟨Tryz.f202.name, by decide, Tryz.func202.trans (congrArg some (by kernel_rfl))⟩
 f11 := ⟨Tryz.f203.name, by decide, Tryz.func203.trans (congrArg some (by kernel_rfl))⟩
 f12 := ⟨Tryz.f204.name, by decide, Tryz.func204.trans (congrArg some (by kernel_rfl))⟩
 f13 := ⟨Tryz.f205.name, by decide, Tryz.func205.trans (congrArg some (by kernel_rfl))⟩
 f14 := ⟨Tryz.f206.name, by decide, Tryz.func206.trans (congrArg some (by kernel_rfl))⟩
 f15 := ⟨Tryz.f207.name, by decide, Tryz.func207.trans (congrArg some (by kernel_rfl))⟩
 f16 := ⟨Tryz.f208.name, by decide, Tryz.func208.trans (congrArg some (by kernel_rfl))⟩
 f17 := ⟨Tryz.f209.name, by decide, Tryz.func209.trans (congrArg some (by kernel_rfl))⟩
 f18 := ⟨Tryz.f210.name, by decide, Tryz.func210.trans (congrArg some (by kernel_rfl))⟩
 f19 := Tryz.func211.trans (congrArg some (by kernel_rfl))
 f20 := Tryz.func212.trans (congrArg some (by kernel_rfl))
 f30 := ⟨Tryz.f225.name, by decide, Tryz.func225.trans (congrArg some (by kernel_rfl))⟩
 f31 := Tryz.func226.trans (congrArg some (by kernel_rfl))
 f32 := Tryz.func227.trans (congrArg some (by kernel_rfl))
 f33 := ⟨Tryz.f228.name, by decide, Tryz.func228.trans (congrArg some (by kernel_rfl))⟩
 f34 := ⟨Tryz.f229.name, by decide, Tryz.func229.trans (congrArg some (by kernel_rfl))⟩
 f35 := ⟨Tryz.f230.name, by decide, Tryz.func230.trans (congrArg some (by kernel_rfl))⟩
 f40 := ⟨Tryz.f243.name, by decide, Tryz.func243.trans (congrArg some (by kernel_rfl))⟩
 t0 := Tryz.underlying0
 a0 := Tryz.isAgg0
 z0 := Tryz.sizeOf0
 v0 := Tryz.zeroValue0
 t3 := Tryz.underlying3
 a3 := Tryz.isAgg3
 z3 := Tryz.sizeOf3
 v3 := Tryz.zeroValue3
 t4 := Tryz.underlying4
 a4 := Tryz.isAgg4
 z4 := Tryz.sizeOf4
 v4 := Tryz.zeroValue4
 t5 := Tryz.underlying5
 a5 := Tryz.isAgg5
 z5 := Tryz.sizeOf5
 v5 := Tryz.zeroValue5
 t9 := Tryz.underlying9
 a9 := Tryz.isAgg9
 z9 := Tryz.sizeOf9
 v9 := Tryz.zeroValue9
 t22 := Tryz.underlying34
 a22 := Tryz.isAgg34
 z22 := Tryz.sizeOf34
 v22 := Tryz.zeroValue34
 t23 := Tryz.underlying34
 a23 := Tryz.isAgg34
 z23 := Tryz.sizeOf34
 v23 := Tryz.zeroValue34
 t25 := Tryz.underlying2
 a25 := Tryz.isAgg2
 z25 := Tryz.sizeOf2
 v25 := Tryz.zeroValue2
 t32 := Tryz.underlying149
 a32 := Tryz.isAgg149
 z32 := Tryz.sizeOf149
 v32 := Tryz.zeroValue149
 t35 := Tryz.underlying250
 a35 := Tryz.isAgg250
 z35 := Tryz.sizeOf250
 v35 := Tryz.zeroValue250
 t36 := Tryz.underlying251
 a36 := Tryz.isAgg251
 z36 := Tryz.sizeOf251
 v36 := Tryz.zeroValue251
 t41 := Tryz.underlying226
 a41 := Tryz.isAgg226
 z41 := Tryz.sizeOf226
 v41 := Tryz.zeroValue226
 t44 := Tryz.underlying258
 a44 := Tryz.isAgg258
 z44 := Tryz.sizeOf258
 v44 := Tryz.zeroValue258
 t46 := Tryz.underlying87
 a46 := Tryz.isAgg87
 z46 := Tryz.sizeOf87
 v46 := Tryz.zeroValue87
 t53 := Tryz.underlying272
 a53 := Tryz.isAgg272
 z53 := Tryz.sizeOf272
 v53 := Tryz.zeroValue272
 t57 := Tryz.underlying276
 a57 := Tryz.isAgg276
 z57 := Tryz.sizeOf276
 v57 := Tryz.zeroValue276
 t63 := Tryz.underlying292
 a63 := Tryz.isAgg292
 z63 := Tryz.sizeOf292
 v63 := Tryz.zeroValue292
 t64 := Tryz.underlying293
 a64 := Tryz.isAgg293
 z64 := Tryz.sizeOf293
 v64 := Tryz.zeroValue293 }
open Go.Sort Go.RowKit in
theorem Tryz.slices_Sort_int (blk off cap : Nat) (zs : List Int) (w : World) (hH : Holds (Value.int .i64) w blk off zs.toArray) (hblk : blk < w.heap.size) (hsz : zs.length < 4611686018427387904) :
  Calls Tryz.prog 146 #[.slice (some ⟨blk, off, none⟩) zs.length cap] w fun e w' =>
   e = .returned (.tuple #[]) ∧ ∃ n os, w' = grow (putRow (Value.int .i64) (Sort.ahead w n) blk off (zs.mergeSort fun x y => decide (x ≤ y)).toArray) os := AnyM.slices_Sort_int Tryz.laysSlM5_f146 blk off cap zs w hH hblk hsz
end Go.Proofs
namespace Go.Proofs.YtnihhbfgbilimaaGreatDoor
open Go.RowKit
set_option linter.unusedVariables false
def widL (pl : List LPl) (id : Int) : List Int := (pidsA pl ++ [id]).mergeSort fun x y => decide (x ≤ y)
theorem pidsA_len (pl : List LPl) : (pidsA pl).length ≤ 400 := by
 unfold pidsA; split
 ·rw [pidsL_len]; assumption
 ·exact Nat.zero_le _
theorem widL_len (pl : List LPl) (id : Int) : (widL pl id).length = (pidsA pl).length + 1 := by unfold widL; rw [List.length_mergeSort]; simp
set_option maxRecDepth 100000 in
set_option maxHeartbeats 2000000 in
theorem wid_any (sl : Option Addr) (cap : Nat) (pl : List LPl) (id : Int) (w : World) (hl : pl.length ≤ 1048576) (hls : Pls w sl pl) :
  Calls Tryz.prog 92 #[.slice sl pl.length cap, .int .i64 id] w fun e w' => ∃ v, e = .returned v ∧ w'.ownsRow w.heap.size 2 1 v (widL pl id).length (valsZ (widL pl id)) ∧ Below w.heap.size w w' := by
 have E1 := Lib.hid (ipi_any sl cap pl w (by unfold maxLen; omega) hls)
 have hn := pidsA_len pl
 clear hls
 have WL := Lib.hid (widL_len pl id)
 have WD := Lib.hid (show widL pl id = (pidsA pl ++ [id]).mergeSort (fun x y => decide (x ≤ y)) from rfl)
 generalize widL pl id = ts at *
 generalize hz : pidsA pl = zs at *
 generalize pl.length = n at *
 go_enter Tryz.func92, Tryz.ntmps92
 go_wp2_with fail
 refine E1.out.mono ?_
 rintro e w1 ⟨v1, rfl, o1, b1⟩
 have D1 := Lib.hid b1
 have O1 := Lib.hid o1
 have hs1 := b1.size
 clear b1 o1 E1
 obtain ⟨v9, w9, ha, ow, gr, hj⟩ := appZ (own_below O1.out (bA0 w1 (.cells #[.int .i64 id] 2))) 1 (ints_new w1 id) (by simp; omega) (by simp; omega)
 have B9 : Hid (Below w.heap.size w w9) := by
  have B1 := D1.out.trans ((bA0 w1 (.cells #[.int .i64 id] 2)).mono D1.out.size)
  refine ⟨gr.os.trans B1.os, gr.tape.trans B1.tape, gr.output.trans B1.output, Nat.le_trans B1.size gr.size, fun k hk => ?_⟩
  rw [gr.block k (by have := B1.size; omega) (fun e => by have := (O1.out.lt k e.symm).1; omega)]
  exact B1.block k hk
 rcases ow.2 with ⟨h0, h00⟩ | ⟨g, c9, cur, rfl, hg, hb, h1, h2, h3, h4⟩
 ·simp at h00
 have hgl : g < w9.heap.size := (Array.getElem?_eq_some_iff.1 hb).1
 have SC := Lib.hid (Tryz.slices_Sort_int g 0 c9 (zs ++ [id]) w9 (holds_of_blockI hb (by rw [Nat.mul_one] at h4; exact h4)) hgl (by simp; omega))
 rw [← WD.out] at SC
 have hts : ts.length = (zs ++ [id]).length := by rw [WL.out]; simp
 have OB : Hid (∀ n os, (Sort.grow (Sort.putRow (Value.int .i64) (Sort.ahead w9 n) g 0 ts.toArray) os).ownsRow w.heap.size 2 1 (.slice (some ⟨g, 0, none⟩) (zs ++ [id]).length c9) (zs ++ [id]).length (valsZ ts)) := fun n os => ownsRow_sortedI hts hg hb h1 h2 h3
 have BB : Hid (∀ n os, Below w.heap.size w (Sort.grow (Sort.putRow (Value.int .i64) (Sort.ahead w9 n) g 0 ts.toArray) os)) := fun n os => by
  have g2 := grownBy_sortedI (w := w9) (g := g) (n := n) (os := os) ts.toArray
  have B1 := B9.out
  refine ⟨g2.os.trans B1.os, g2.tape.trans B1.tape, g2.output.trans B1.output, Nat.le_trans B1.size g2.size, fun k hk => ?_⟩
  rw [g2.block k (by have := B1.size; omega) (fun e => by simp at e; omega)]
  exact B1.block k hk
 rw [← hts] at SC OB ha
 have ha' := ha 34
 clear ow gr hj hb h1 h2 h3 h4 hgl WL WD hts ha B9 D1 O1
 go_wp2_with (at_builtin; refine Lib.wpList_append_run _ rfl _ _ _ _ rfl _ _ rfl rfl _ _ ha' ?_)
 refine SC.out.mono ?_
 rintro e w3 ⟨rfl, m3, os3, rfl⟩
 go_wp2_with fail
 go_ret
 exact ⟨_, rfl, OB.out m3 os3, BB.out m3 os3⟩
theorem sorted_of {zs ys : List Int} (hz : ys.Pairwise (· < ·)) (hp : ys.Perm zs) : zs.mergeSort (fun x y => decide (x ≤ y)) = ys := by
 refine List.Perm.eq_of_pairwise (le := fun a b => a ≤ b) (fun a b _ _ h1 h2 => by omega) ?_ (hz.imp (fun h => by omega)) ((List.mergeSort_perm _ _).trans hp.symm)
 exact (List.pairwise_mergeSort (le := fun x y => decide (x ≤ y)) (fun a b c h1 h2 => by simp at *; omega) (fun a b => by simp; omega) zs).imp (fun h => by simpa using h)
theorem wid_with {rs : List LSt} {ps : List LPr} {top : Int} {pl : List LPl} {id : Int} (h : PlanOk rs ps top pl) (hr : (pidsL pl).Pairwise (· < ·)) (hn : id ∉ pidsL pl) : widL pl id = pidsL (withL pl (id, 0)) := by
 unfold widL
 rw [pidsA_eq h.ln]
 exact sorted_of (withL_rise pl (id, 0) hr hn) ((pidsL_withL pl (id, 0)).trans (List.perm_append_comm (l₁ := [id]) (l₂ := pidsL pl)))
theorem nodup_len : ∀ (zs ys : List Int), zs.Pairwise (· < ·) → (∀ x ∈ zs, x ∈ ys) → zs.length ≤ ys.length
 | [], _, _, _ => Nat.zero_le _
 | z :: r, ys, h, g => by
  rw [List.pairwise_cons] at h
  have h1 := nodup_len r (ys.erase z) h.2 (fun x hx => (List.mem_erase_of_ne (by have := h.1 x hx; omega)).2 (g x (by simp [hx])))
  have h2 : z ∈ ys := g z (by simp)
  have h3 : 0 < ys.length := List.length_pos_of_mem h2
  rw [List.length_erase_of_mem h2] at h1
  rw [List.length_cons]
  omega
theorem mem_wid {pl : List LPl} {id x : Int} (h : pl.length ≤ 400) : x ∈ widL pl id ↔ x ∈ pidsL pl ∨ x = id := by
 unfold widL
 rw [pidsA_eq h, (List.mergeSort_perm _ _).mem_iff]
 simp
theorem wid_ids {rs : List LSt} {ps : List LPr} {top : Int} {pl : List LPl} {id : Int} (h : PlanOk rs ps top pl) : IdsR rs ps (widL pl id) ↔ id ∈ idsL rs ∧ id ∉ pidsL pl := by
 constructor
 ·intro g
  refine ⟨g.2.2.2 id ((mem_wid h.ln).2 (.inr rfl)), fun hm => ?_⟩
  have hp := ids_pair g
  have e : (widL pl id).Perm (pidsL pl ++ [id]) := by unfold widL; rw [pidsA_eq h.ln]; exact List.mergeSort_perm _ _
  have hn : (widL pl id).Pairwise (· ≠ ·) := hp.imp (fun h => by omega)
  have hn2 := (e.pairwise_iff (fun {x y} h => Ne.symm h)).1 hn
  rw [List.pairwise_append] at hn2
  exact hn2.2.2 id hm id (by simp) rfl
 ·rintro ⟨g1, g2⟩
  have hr := withL_rise pl (id, 0) (ids_pair h.ids) g2
  have e := wid_with h (ids_pair h.ids) g2
  have hs : ∀ x ∈ widL pl id, x ∈ idsL rs := fun x hx => by
   rcases (mem_wid h.ln).1 hx with hx | rfl
   ·exact h.ids.2.2.2 x hx
   ·exact g1
  have hl : (idsL rs).length ≤ 12 := by have := h.ids.2.1.1.2.1; simpa [idsL] using this
  rw [e] at hs ⊢
  exact ⟨Nat.le_trans (nodup_len _ _ hr hs) (by omega), h.ids.2.1, pair_rise _ hr, hs⟩
end Go.Proofs.YtnihhbfgbilimaaGreatDoor
