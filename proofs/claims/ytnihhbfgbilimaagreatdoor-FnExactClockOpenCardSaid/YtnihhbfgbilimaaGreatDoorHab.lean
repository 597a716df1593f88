import Derived.Test.YtnihhbfgbilimaaGreatDoorTw
import Derived.Test.YtnihhbfgbilimaaGreatDoorXan
import Derived.Test.YtnihhbfgbilimaaGreatDoorVac
import Derived.Test.YtnihhbfgbilimaaGreatDoorZUa
import Derived.Test.YtnihhbfgbilimaaGreatDoorXak
import Derived.Test.YtnihhbfgbilimaaGreatDoorXaj
import Derived.Test.YtnihhbfgbilimaaGreatDoorXai
import Derived.Test.YtnihhbfgbilimaaGreatDoorVab
import Derived.Test.YtnihhbfgbilimaaGreatDoorZXa
import Derived.Test.YtnihhbfgbilimaaGreatDoorVaa
import Derived.Ground.SlsfProg
import Derived.Shelf.SlSortCmp.WholeK
import Derived.Shelf.SlSortCmp.NoneTotal
import Derived.Test.YtnihhbfgbilimaaGreatDoorProg
import Derived.Test.YtnihhbfgbilimaaGreatDoorHaa
import Derived.Deep.AppendLies
import Derived.WalkSmall
import Derived.OwnWalk
import Derived.Deep.RegionHeldLaw
import Derived.DeepKeys4
import Derived.MapViews
import Derived.Maps.Own
import Derived.Maps.OwnOps
import Derived.Maps.OwnSet
import Derived.Maps.RangeWalk
import Derived.Sort.OwnSorted
namespace Go.Proofs
open Go.Shelf
def Tryz.laysSlF06_f49_ren : Go.Shelf.Ren := ⟨fun | 6 => 217 | 15 => 179 | 14 => 232 | 28 => 211 | 29 => 212 | 20 => 245 | 21 => 246 | 22 => 247 | 23 => 248 | 24 => 249 | 25 => 250 | 26 => 251 | 27 => 252 | 46 => 255 | 47 => 226 | 48 => 227 | 49 => 256 | 50 => 257 | 57 => 259 | n => n, fun | 22 => 229 | 24 => 234 | 25 => 262 | 3 => 3 | 39 => 149 | 0 => 0 | 53 => 258 | 55 => 87 | 4 => 4 | 46 => 251 | 45 => 250 | 50 => 226 | 5 => 5 | 9 => 9 | 66 => 272 | 70 => 276 | 76 => 292 | 77 => 293 | n => n, fun | n => n⟩
theorem Tryz.laysSlF06_f49 : Go.Proofs.SlLaysF0.n6 Tryz.prog Tryz.laysSlF06_f49_ren := {
 mixed := by kernel_rfl
 f6 := ⟨Tryz.f217.name, by decide, Tryz.func217.trans (congrArg some (by kernel_rfl))⟩
 f14 := ⟨Tryz.f232.name, by decide, Tryz.func232.trans (congrArg some (by kernel_rfl))⟩
 f15 := Tryz.func179.trans (congrArg some (by kernel_rfl))
 f20 := ⟨Tryz.f245.name, by decide, Tryz.func245.trans (congrArg some (by kernel_rfl))⟩
 f21 := ⟨Tryz.f246.name, by decide, Tryz.func246.trans (congrArg some (by kernel_rfl))⟩
 f22 := ⟨Tryz.f247.name, by decide, Tryz.func247.trans (congrArg some (by kernel_rfl))⟩
 f23 := ⟨Tryz.f248.name, by decide, Tryz.func248.trans (congrArg some (by kernel_rfl))⟩
 f24 := ⟨Tryz.f249.name, by decide, Tryz.func249.trans (congrArg some (by kernel_rfl))⟩
 f25 := ⟨Tryz.f250.name, by decide, Tryz.func250.trans (congrArg some (by kernel_rfl))⟩
 f26 := ⟨Tryz.f251.name, by decide, Tryz.func251.trans (congrArg some (by kernel_rfl))⟩
 f27 := ⟨Tryz.f252.name, by decide, Tryz.func252.trans (congrArg some (by kernel_rfl))⟩
 f28 := Tryz.func211.trans (congrArg some (by kernel_rfl))
 f29 := Tryz.func212.trans (congrArg some (by kernel_rfl))
 f46 := ⟨Tryz.f255.name, by decide, Tryz.func255.trans (congrArg some (by kernel_rfl))⟩
 f47 := Tryz.func226.trans (congrArg some (by kernel_rfl))
 f48 := Tryz.func227.trans (congrArg some (by kernel_rfl))
 f49 := ⟨Tryz.f256.name, by decide, Tryz.func256.trans (congrArg some (by kernel_rfl))⟩
 f50 := ⟨Tryz.f257.name, by decide, Tryz.func257.trans (congrArg some (by kernel_rfl))⟩
 f57 := ⟨Tryz.f259.name, by decide, Tryz.func259.trans (congrArg some (by kernel_rfl))⟩
 t0 := Tryz.underlying0
 a0 := Tryz.isAgg0
 z0 := Tryz.sizeOf0
 v0 := Tryz.zeroValue0
 t3 := Tryz.underlying3
 a3 := Tryz.isAgg3
 z3 := Tryz.sizeOf3
 v3 := Tryz.zeroValue3
 t4 := Tryz.underlying4
 a4 := Tryz.isAgg4
 z4 := Tryz.sizeOf4
 v4 := Tryz.zeroValue4
 t5 := Tryz.underlying5
 a5 := Tryz.isAgg5
 z5 := Tryz.sizeOf5
 v5 := Tryz.zeroValue5
 t9 := Tryz.underlying9
 a9 := Tryz.isAgg9
 z9 := Tryz.sizeOf9
 v9 := Tryz.zeroValue9
 t22 := Tryz.underlying229
 a22 := Tryz.isAgg229
 z22 := Tryz.sizeOf229
 v22 := Tryz.zeroValue229
 t25 := Tryz.underlying262
 a25 := Tryz.isAgg262
 z25 := Tryz.sizeOf262
 v25 := Tryz.zeroValue262
 t39 := Tryz.underlying149
 a39 := Tryz.isAgg149
 z39 := Tryz.sizeOf149
 v39 := Tryz.zeroValue149
 t45 := Tryz.underlying250
 a45 := Tryz.isAgg250
 z45 := Tryz.sizeOf250
 v45 := Tryz.zeroValue250
 t46 := Tryz.underlying251
 a46 := Tryz.isAgg251
 z46 := Tryz.sizeOf251
 v46 := Tryz.zeroValue251
 t50 := Tryz.underlying226
 a50 := Tryz.isAgg226
 z50 := Tryz.sizeOf226
 v50 := Tryz.zeroValue226
 t53 := Tryz.underlying258
 a53 := Tryz.isAgg258
 z53 := Tryz.sizeOf258
 v53 := Tryz.zeroValue258
 t55 := Tryz.underlying87
 a55 := Tryz.isAgg87
 z55 := Tryz.sizeOf87
 v55 := Tryz.zeroValue87
 t66 := Tryz.underlying272
 a66 := Tryz.isAgg272
 z66 := Tryz.sizeOf272
 v66 := Tryz.zeroValue272
 t70 := Tryz.underlying276
 a70 := Tryz.isAgg276
 z70 := Tryz.sizeOf276
 v70 := Tryz.zeroValue276
 t76 := Tryz.underlying292
 a76 := Tryz.isAgg292
 z76 := Tryz.sizeOf292
 v76 := Tryz.zeroValue292
 t77 := Tryz.underlying293
 a77 := Tryz.isAgg293
 z77 := Tryz.sizeOf293
 v77 := Tryz.zeroValue293 }
open Go.RowKit Go.Lib Go.Sort in
theorem Tryz.slices_SortFunc {α : Type} [Inhabited α] (k : Nat) (aE : ∀ w, (isAgg 234).run Tryz.prog w = .ok true w) (zE : ∀ w, (Go.sizeOf 234).run Tryz.prog w = .ok k w) (enc : α → List Value) (hk : ∀ x, (enc x).length = k) (h1 : ∀ x, ∀ v ∈ enc x, v.oneCell' = true) (cf : α → α → Int) (hO : SWO (ltOf cf)) (g : Nat) (cb : Array Value) (blk off cap : Nat) (d : Array α) (w : World) (eg : ∀ args w, (callFunc g args).run Tryz.prog w = .ok (.enter g args) w) (hcmp : CmpLays Tryz.prog g cb enc k cf blk off d.size w) (hH : HoldsK enc k w blk off d) (hblk : blk < w.heap.size) (hsz : d.size < 4611686018427387904) :
  Calls Tryz.prog 217 #[.slice (some ⟨blk, off, none⟩) d.size cap, .func (.func g) #[] cb] w fun e w' =>
   e = .returned (.tuple #[]) ∧ ∃ d' n os, PermIn 0 d.size d d' ∧ SortedIn (ltOf cf) 0 d.size d' ∧ w' = sortWorldK enc k w blk off n d' os := AnyQ.slices_SortFunc Tryz.laysSlF06_f49 k aE zE enc hk h1 cf hO g cb blk off cap d w eg hcmp hH hblk hsz
end Go.Proofs
namespace Go.Proofs.YtnihhbfgbilimaaGreatDoor
open Go.RowKit
set_option linter.unusedVariables false
open List (setIfInBounds_toArray set_cons_zero set_cons_succ getElem_toArray getElem_cons_succ getElem_cons_zero)
theorem cell_one_new' (w : World) (o : Obj) (a : Value) (t : TypeId) : ∀ (j : Nat) (u : Value), [a][j]? = some u → ((w.alloc o).alloc (.cells #[a] t)).cell? ((⟨w.heap.size + 1, 0, none⟩ : Addr).add j) = some u := by
 have := cell_one_new (w.alloc o) a t
 rwa [show (w.alloc o).heap.size = w.heap.size + 1 by simp] at this
set_option maxHeartbeats 1000000 in
theorem ids_some (c o cap : Nat) (sl2 : Option Addr) (m cap2 : Nat) (rs : List LSt) (w : World) (hn : rs.length ≤ 1048576) (hz : StAt w c o rs) (hd : ∀ r ∈ rs, DomIn w r) :
  Calls Tryz.prog 115 #[TV (some ⟨c, o, none⟩) rs.length cap sl2 m cap2] w fun e w' => ∃ v, e = .returned v ∧ w'.ownsRow w.heap.size 2 1 v rs.length (valsZ (idsL rs)) ∧ Below w.heap.size w w' := by
 obtain ⟨i0, hi0, hz0, hz1, hz2⟩ := info_parts info2'
 have HZ := Lib.hid (hz.below (bA0 w (.cells #[.slice (some ⟨c, o, none⟩) rs.length cap, .slice sl2 m cap2] 26)))
 have HT := Lib.hid (TabAtD.new w (some ⟨c, o, none⟩) rs.length cap sl2 m cap2)
 clear hz
 generalize hN : rs.length = n at *
 have HN := Lib.hid hN
 clear hN
 have B0 := Lib.hid (bA0 w (.cells #[.slice (some ⟨c, o, none⟩) n cap, .slice sl2 m cap2] 26))
 go_enter Tryz.func115, Tryz.ntmps115
 go_wp2
 generalize (w.alloc (.cells #[.slice (some ⟨c, o, none⟩) n cap, .slice sl2 m cap2] 26)) = w0 at *
 have HD := Lib.hid (fun r hr => (hd r hr).below B0.out)
 clear hd
 go_loopw [3, 9] (fun v i wr => ∃ k : Nat, i = .int .i64 k ∧ k ≤ n ∧ Hid (wr.ownsRow w0.heap.size 2 1 v k (valsZ ((idsL rs).take k))) ∧ Hid (Below w0.heap.size w0 wr)) (fun _ i _ => n - (intOf i).toNat)
 case atStart => exact ⟨0, rfl, Nat.zero_le _, ⟨rfl, .inl ⟨rfl, rfl⟩⟩, Below.refl _ _⟩
 case round =>
  obtain ⟨k, rfl, hk, H1, H2⟩ := hrel
  have hk0 : (0 : Int) ≤ (k : Int) := by omega
  by_cases h1 : k < n
  ·have h1' : (k : Int) < (n : Int) := by omega
   have hlt : k < rs.length := by rw [HN.out]; exact h1
   obtain ⟨hc, hc1, hc2⟩ := (HZ.out.below H2.out).cell k hlt
   obtain ⟨sld, capd, ed, -, -⟩ := HD.out rs[k] (List.getElem_mem hlt)
   rw [ed] at hc2
   have EV := Lib.hid (show valsZ ((idsL rs).take k) ++ [.int .i64 rs[k].1] = valsZ ((idsL rs).take (k + 1)) by
    rw [List.take_add_one, show (idsL rs)[k]? = some rs[k].1 by simp [idsL, hlt]]
    simp [valsZ])
   generalize rs[k].1 = z at *
   generalize rs[k].2.1 = y at *
   generalize rs[k].2.2.2.length = q at *
   clear hlt ed
   have hown := Lib.hid (H1.out.alloc (.cells #[.int .i64 z, .int .i64 y, .slice sld q capd] 92))
   have hs := H2.out.size
   go_wp2_with (first | (at_builtin; refine wpList_append_lies _ rfl (.tmp 13) (.tmp 16) 34 rfl w0.heap.size 2 i0 (.int .i64 0) 1 8 Tryz.underlying34 hi0 hz0 hz1 hz2 rfl (by decide) _ _ _ rfl (hown.out.alloc _) ⟨wr.heap.size + 1, 0, none⟩ 1 1 [.int .i64 z] (by simp [Act.eval]) rfl (cell_one_new' _ _ _ _) (by intro u hu; simp at hu; subst hu; rfl) (by decide) (by unfold maxLen; omega) (by omega) (by simp; omega) (wr.heap.size + 2) (by simp) ?_))
   intro g9 cap9 w9 own9 grow9 hg9 hlt9
   have B9 := Lib.hid ((bA (bA H2.out (.cells #[.int .i64 z, .int .i64 y, .slice sld q capd] 92)) (.cells #[.int .i64 z] 2)).grown grow9 (by simp; omega) (fun j hj => (hown.out.lt j hj).1))
   rw [EV.out] at own9
   have N9 := Lib.hid own9
   clear own9 grow9 hg9 hlt9 hown
   go_wp2
   go_roundw
   case rel => exact ⟨k + 1, by go_num, by omega, N9, B9⟩
   case measure => simp [intOf]; omega
  ·have h1' : ¬ (k : Int) < (n : Int) := by omega
   have e : k = n := by omega
   have F := Lib.hid (show (idsL rs).take k = idsL rs from List.take_of_length_le (by rw [idsL_len, HN.out]; omega))
   have H9 := own_mono H1.out B0.out.size
   rw [F.out, e] at H9
   have P := Lib.hid (And.intro H9 (B0.out.trans (H2.out.mono B0.out.size)))
   clear H9 H1
   go_wp2
   go_ret
   exact ⟨_, rfl, P.out.1, P.out.2⟩
set_option maxHeartbeats 400000 in
theorem ids_nil (sl : Option Addr) (cap : Nat) (sl2 : Option Addr) (m cap2 : Nat) (w : World) :
  Calls Tryz.prog 115 #[TV sl 0 cap sl2 m cap2] w fun e w' => e = .returned (.slice none 0 0) ∧ Below w.heap.size w w' := by
 go_enter Tryz.func115, Tryz.ntmps115
 go_wp2
 refine wp_loop_rounds 1 ?_
 rw [rounds_succ]
 go_wp2
 go_ret
 exact ⟨rfl, bA0 _ _⟩
theorem ids_any (sl : Option Addr) (cap : Nat) (sl2 : Option Addr) (m cap2 : Nat) (rs : List LSt) (w : World) (hn : rs.length ≤ 1048576) (hz : Sts w sl rs) :
  Calls Tryz.prog 115 #[TV sl rs.length cap sl2 m cap2] w fun e w' => ∃ v, e = .returned v ∧ w'.ownsRow w.heap.size 2 1 v rs.length (valsZ (idsL rs)) ∧ Below w.heap.size w w' := by
 rcases hz.row with rfl | ⟨c, o, rfl, h⟩
 ·refine (ids_nil sl cap sl2 m cap2 w).mono ?_
  rintro e w' ⟨rfl, hb⟩
  exact ⟨_, rfl, ⟨rfl, .inl ⟨rfl, rfl⟩⟩, hb⟩
 ·exact ids_some c o cap sl2 m cap2 rs w hn h hz.dom
theorem Lt2.irr (x : Int × Int) : ¬ Lt2 x x := by unfold Lt2; omega
theorem Lt2.tri {x y : Int × Int} (h : x ≠ y) : Lt2 x y ∨ Lt2 y x := by
 unfold Lt2
 by_cases e : x.1 = y.1
 ·have : x.2 ≠ y.2 := fun e2 => h (Prod.ext e e2)
  omega
 ·omega
def WfP (p : LPr) : Prop := (wfI p.1 ∧ wfI p.2.1) ∧ wfI p.2.2
theorem wf_small {a : Int} (h : 0 ≤ a ∧ a ≤ 1000) : wfI a := by
 unfold wfI
 have e1 : IntKind.i64.min = -9223372036854775808 := by rfl
 have e2 : IntKind.i64.max = 9223372036854775807 := by rfl
 simp [Lit.wf, e1, e2]
 omega
set_option maxHeartbeats 400000 in
theorem nan_any (x : Int) (w : World) : Calls Tryz.prog 230 #[.int .i64 x] w fun e w' => e = .returned (.bool false) ∧ w' = w := by
 go_enter Tryz.func230, Tryz.ntmps230
 go_wp2
 go_ret
 exact ⟨by simp, rfl⟩
def cmpI (x y : Int) : Int := if x < y then -1 else if y < x then 1 else 0
set_option maxHeartbeats 400000 in
theorem cmp_any (x y : Int) (w : World) : Calls Tryz.prog 234 #[.int .i64 x, .int .i64 y] w fun e w' => e = .returned (.int .i64 (cmpI x y)) ∧ w' = w := by
 have N := Lib.hid nan_any
 by_cases h1 : x < y
 ·have e : cmpI x y = -1 := by simp [cmpI, h1]
  rw [e]; clear e
  go_enter Tryz.func234, Tryz.ntmps234
  go_wp2_with (go_at_call 230; refine (N.out _ _).mono ?_; rintro e w' ⟨rfl, rfl⟩)
  go_ret
  exact ⟨rfl, rfl⟩
 ·by_cases h2 : y < x
  ·have e : cmpI x y = 1 := by simp [cmpI, h1, h2]
   rw [e]; clear e
   go_enter Tryz.func234, Tryz.ntmps234
   go_wp2_with (go_at_call 230; refine (N.out _ _).mono ?_; rintro e w' ⟨rfl, rfl⟩)
   go_ret
   exact ⟨rfl, rfl⟩
  ·have e : cmpI x y = 0 := by simp [cmpI, h1, h2]
   rw [e]; clear e
   go_enter Tryz.func234, Tryz.ntmps234
   go_wp2_with (go_at_call 230; refine (N.out _ _).mono ?_; rintro e w' ⟨rfl, rfl⟩)
   go_ret
   exact ⟨rfl, rfl⟩
def orI (a b : Int) : Int := if a ≠ 0 then a else b
set_option maxHeartbeats 1000000 in
theorem or_any (g : Nat) (a b : Int) (w : World) (h0 : w.cell? ⟨g, 0, none⟩ = some (.int .i64 a)) (h1 : w.cell? ⟨g, 1, none⟩ = some (.int .i64 b)) : Calls Tryz.prog 233 #[.slice (some ⟨g, 0, none⟩) 2 2] w fun e w' => e = .returned (.int .i64 (orI a b)) ∧ w' = w := by
 by_cases ha : a = 0
 ·have ha' : (a != 0) = false := by simp [ha]
  by_cases hb : b = 0
  ·have hb' : (b != 0) = false := by simp [hb]
   have e : orI a b = 0 := by simp [orI, ha, hb]
   rw [e]; clear e ha hb
   go_enter Tryz.func233, Tryz.ntmps233
   go_wp2
   refine wp_loop_rounds 3 ?_
   rw [rounds_succ]
   go_wp2
   rw [rounds_succ]
   go_wp2
   rw [rounds_succ]
   go_wp2
   go_ret
   exact ⟨rfl, rfl⟩
  ·have hb' : (b != 0) = true := by simp [hb]
   have e : orI a b = b := by simp [orI, ha]
   rw [e]; clear e ha hb
   go_enter Tryz.func233, Tryz.ntmps233
   go_wp2
   refine wp_loop_rounds 3 ?_
   rw [rounds_succ]
   go_wp2
   rw [rounds_succ]
   go_wp2
   go_ret
   exact ⟨rfl, rfl⟩
 ·have ha' : (a != 0) = true := by simp [ha]
  have e : orI a b = a := by simp [orI, ha]
  rw [e]; clear e ha
  go_enter Tryz.func233, Tryz.ntmps233
  go_wp2
  refine wp_loop_rounds 3 ?_
  rw [rounds_succ]
  go_wp2
  go_ret
  exact ⟨rfl, rfl⟩
def cmpE (x y : Int × Int) : Int := orI (cmpI x.1 y.1) (cmpI x.2 y.2)
theorem cmpE_lt (x y : Int × Int) : cmpE x y < 0 ↔ Lt2 x y := by
 unfold cmpE orI cmpI Lt2
 by_cases h1 : x.1 < y.1
 ·simp [h1]
 ·by_cases h2 : y.1 < x.1
  ·simp [h1, h2]; omega
  ·have e : x.1 = y.1 := by omega
   by_cases h3 : x.2 < y.2
   ·simp [e, h3]
   ·by_cases h4 : y.2 < x.2 <;> simp [e, h3, h4]
set_option maxHeartbeats 1000000 in
theorem cmpE_any (x y : Int × Int) (w : World) : Calls Tryz.prog 218 #[EV x, EV y] w fun e w' => e = .returned (.int .i64 (cmpE x y)) ∧ ∃ q os', w' = Go.Sort.grow (w.drewN q) os' := by
 have C := Lib.hid cmp_any
 have O := Lib.hid or_any
 obtain ⟨x1, x2⟩ := x
 obtain ⟨y1, y2⟩ := y
 have E := Lib.hid (show cmpE (x1, x2) (y1, y2) = orI (cmpI x1 y1) (cmpI x2 y2) from rfl)
 rw [E.out]
 clear E
 have EA := Lib.hid (fun W => C.out x1 y1 W)
 have EB := Lib.hid (fun W => C.out x2 y2 W)
 generalize cmpI x1 y1 = a at *
 generalize cmpI x2 y2 = b at *
 clear C
 have hb0 : ((w.alloc (.cells #[.int .i64 x1, .int .i64 x2] 234)).alloc (.cells #[.int .i64 y1, .int .i64 y2] 234)).heap[w.heap.size]? = some (.cells #[.int .i64 x1, .int .i64 x2] 234) := by
  show ((w.heap.push _).push _)[w.heap.size]? = _
  rw [Array.getElem?_push_lt (by simp)]; simp
 have hb1 : ((w.alloc (.cells #[.int .i64 x1, .int .i64 x2] 234)).alloc (.cells #[.int .i64 y1, .int .i64 y2] 234)).heap[w.heap.size + 1]? = some (.cells #[.int .i64 y1, .int .i64 y2] 234) := by
  show ((w.heap.push _).push _)[w.heap.size + 1]? = _
  have := Array.getElem?_push_size (xs := w.heap.push (.cells #[.int .i64 x1, .int .i64 x2] 234)) (x := Obj.cells #[.int .i64 y1, .int .i64 y2] 234)
  simpa using this
 have hsz : ((w.alloc (.cells #[.int .i64 x1, .int .i64 x2] 234)).alloc (.cells #[.int .i64 y1, .int .i64 y2] 234)).heap.size = w.heap.size + 2 := by simp
 have EQ : Hid ((w.alloc (.cells #[.int .i64 x1, .int .i64 x2] 234)).alloc (.cells #[.int .i64 y1, .int .i64 y2] 234) = Go.Sort.grow w #[.cells #[.int .i64 x1, .int .i64 x2] 234, .cells #[.int .i64 y1, .int .i64 y2] 234]) := by
  show _ = _
  rw [Go.Sort.alloc_eq_grow, Go.Sort.alloc_eq_grow, Go.Sort.grow_grow]; rfl
 go_enter Tryz.func218, Tryz.ntmps218
 go_wp2_with fail
 generalize (w.alloc (.cells #[.int .i64 x1, .int .i64 x2] 234)).alloc (.cells #[.int .i64 y1, .int .i64 y2] 234) = W0 at *
 have KB : Hid (∀ W, Below W0.heap.size W0 W → w.heap.size < W.heap.size ∧ w.heap.size + 1 < W.heap.size ∧ W.cell? ⟨w.heap.size, 0, none⟩ = some (.int .i64 x1) ∧ W.cell? ⟨w.heap.size, 1, none⟩ = some (.int .i64 x2) ∧ W.cell? ⟨w.heap.size + 1, 0, none⟩ = some (.int .i64 y1) ∧ W.cell? ⟨w.heap.size + 1, 1, none⟩ = some (.int .i64 y2)) := by
  intro W hW
  have hs := hW.size
  have b0 := (hW.block w.heap.size (by omega)).trans hb0
  have b1 := (hW.block (w.heap.size + 1) (by omega)).trans hb1
  refine ⟨by omega, by omega, ?_, ?_, ?_, ?_⟩ <;> simp [World.cell?, b0, b1]
 have N0 : Hid ((W0.drew.alloc (.cells #[.int .i64 a, .int .i64 b] 3)).cell? ⟨W0.heap.size, 0, none⟩ = some (.int .i64 a)) := by
  have hh : (W0.drew.alloc (.cells #[.int .i64 a, .int .i64 b] 3)).heap[W0.heap.size]? = some (.cells #[.int .i64 a, .int .i64 b] 3) := by show (W0.heap.push _)[W0.heap.size]? = _; simp
  show _ = _
  simp only [World.cell?, hh]; rfl
 have N1 : Hid ((W0.drew.alloc (.cells #[.int .i64 a, .int .i64 b] 3)).cell? ⟨W0.heap.size, 1, none⟩ = some (.int .i64 b)) := by
  have hh : (W0.drew.alloc (.cells #[.int .i64 a, .int .i64 b] 3)).heap[W0.heap.size]? = some (.cells #[.int .i64 a, .int .i64 b] 3) := by show (W0.heap.push _)[W0.heap.size]? = _; simp
  show _ = _
  simp only [World.cell?, hh]; rfl
 clear hb0 hb1 hsz
 refine wp_region_held_drew (S := fun W => w.heap.size < W.heap.size ∧ w.heap.size + 1 < W.heap.size ∧ W.cell? ⟨w.heap.size, 0, none⟩ = some (.int .i64 x1) ∧ W.cell? ⟨w.heap.size, 1, none⟩ = some (.int .i64 x2) ∧ W.cell? ⟨w.heap.size + 1, 0, none⟩ = some (.int .i64 y1) ∧ W.cell? ⟨w.heap.size + 1, 1, none⟩ = some (.int .i64 y2)) (by kernel_rfl) ?_ (fun hHeld => ?_)
 ·exact KB.out _ (Below.refl _ _).drew
 refine tw (i := 0) rfl ?_
 refine tw (i := 1) rfl ?_
 refine tw (i := 2) rfl ?_
 refine tw (i := 3) rfl ?_
 try simp only [Act.put, setIfInBounds_toArray, set_cons_zero, set_cons_succ, getElem_toArray, getElem_cons_succ, getElem_cons_zero]
 refine tw (i := 5) rfl ?_
 refine tw (i := 6) rfl ?_
 refine tw (i := 7) rfl ?_
 refine tw (i := 8) rfl ?_
 try simp only [Act.put, setIfInBounds_toArray, set_cons_zero, set_cons_succ, getElem_toArray, getElem_cons_succ, getElem_cons_zero]
 refine wpAnyH_ready (rs := [4]) (by kernel_rfl) (by simp) ?_
 refine AllReadyH.cons rfl (fun K hK => ?_) AllReadyH.nil
 go_simp
 go_wp2_with (go_at_call 234; refine (EA.out _).mono ?_; rintro e w' ⟨rfl, rfl⟩)
 refine hK.out _ _ ?_ (fun hHeld => ?_)
 ·exact KB.out _ (Below.refl _ _).drew
 clear hK K
 refine wpAnyH_ready (rs := [9]) (by kernel_rfl) (by simp) ?_
 refine AllReadyH.cons rfl (fun K hK => ?_) AllReadyH.nil
 go_simp
 go_wp2_with (go_at_call 234; refine (EB.out _).mono ?_; rintro e w' ⟨rfl, rfl⟩)
 refine hK.out _ _ ?_ (fun hHeld => ?_)
 ·exact KB.out _ (Below.refl _ _).drew
 clear hK K
 refine wpAnyH_ready (rs := [10]) (by kernel_rfl) (by simp) ?_
 refine AllReadyH.cons rfl (fun K hK => ?_) AllReadyH.nil
 go_simp
 refine hK.out _ _ ?_ (fun hHeld => ?_)
 ·exact KB.out _ ((Below.refl _ _).drew.alloc (Nat.le_refl _) _)
 clear hK K
 refine wpAnyH_ready (rs := [11]) (by kernel_rfl) (by simp) ?_
 refine AllReadyH.cons rfl (fun K hK => ?_) AllReadyH.nil
 go_simp
 go_wp2_with (go_at_call 233; refine (O.out _ a b _ N0.out N1.out).mono ?_; rintro e w' ⟨rfl, rfl⟩)
 refine hK.out _ _ ?_ (fun hHeld => ?_)
 ·exact KB.out _ ((Below.refl _ _).drew.alloc (Nat.le_refl _) _)
 clear hK K
 refine tw (i := 12) rfl ?_
 try simp only [Act.put, setIfInBounds_toArray, set_cons_zero, set_cons_succ, getElem_toArray, getElem_cons_succ, getElem_cons_zero]
 refine wpAnyH_done (by kernel_rfl) ?_ _
 go_wp2
 go_ret
 refine ⟨rfl, 1, #[.cells #[.int .i64 x1, .int .i64 x2] 234, .cells #[.int .i64 y1, .int .i64 y2] 234, .cells #[.int .i64 a, .int .i64 b] 3], ?_⟩
 rw [EQ.out, Go.Sort.alloc_eq_grow]
 show Go.Sort.grow (Go.Sort.grow (w.drewN 1) _) _ = _
 rw [Go.Sort.grow_grow]
 rfl
open Go.Sort Go.Shelf Go.Lib in
theorem cmpLays (blk off size : Nat) (w : World) : CmpLays Tryz.prog 218 #[] (fun x : Int × Int => [.int .i64 x.1, .int .i64 x.2]) 2 cmpE blk off size w :=
 fun _ _ _ _ x y => cmpE_any x y _
open Go.Sort in
theorem ltOf_cmpE (x y : Int × Int) : ltOf cmpE x y = true ↔ Lt2 x y := by
 unfold ltOf
 rw [decide_eq_true_iff]; exact cmpE_lt x y
open Go.Sort in
theorem swoE : SWO (ltOf cmpE) where
 irrefl x := by
  cases h : ltOf cmpE x x
  ·rfl
  ·exact absurd ((ltOf_cmpE x x).1 h) (Lt2.irr x)
 trans x y z h1 h2 := (ltOf_cmpE x z).2 (((ltOf_cmpE x y).1 h1).trans ((ltOf_cmpE y z).1 h2))
 ntrans x y z h1 h2 := by
  cases h : ltOf cmpE x z
  ·rfl
  ·have h' := (ltOf_cmpE x z).1 h
   have n1 : ¬ Lt2 x y := fun e => by have := (ltOf_cmpE x y).2 e; rw [h1] at this; cases this
   have n2 : ¬ Lt2 y z := fun e => by have := (ltOf_cmpE y z).2 e; rw [h2] at this; cases this
   unfold Lt2 at *
   omega
end Go.Proofs.YtnihhbfgbilimaaGreatDoor
namespace Go.Proofs.YtnihhbfgbilimaaGreatDoor
open Go.RowKit Go.Maps
set_option linter.unusedVariables false
theorem laidOut : laidOutB Tryz.prog = true := by kernel_rfl
theorem row63 : (234 : TypeId) < Tryz.prog.types.size := of_decide_eq_true (by kernel_rfl)
theorem wide63 : (match Tryz.prog.underlying 234 with | some (.array _ _) | some (.struct _) => true | _ => false) = true := by rw [Tryz.underlying234]
theorem deep63 : Tryz.prog.keyTypeAt 2 234 = true := by kernel_rfl
set_option maxRecDepth 100000 in
theorem law63 : Keyed Tryz.prog 234 := Keyed.of_law (deep_law_laid laidOut (m := 2) (Nat.le_of_ble_eq_true rfl) row63 deep63 wide63)
theorem keyType63 : Tryz.prog.keyType 234 = true := by kernel_rfl
theorem cells63 : Tryz.prog.cellsOf 234 = 2 := by kernel_rfl
theorem cells2 : Tryz.prog.cellsOf 2 = 1 := by kernel_rfl
theorem formed63 (x : Int × Int) : (EV x).formed Tryz.prog 234 = true := by simp [Value.formed, Tryz.underlying234, cells63]
theorem size_types : ∃ m, Tryz.prog.types.size + 1 = m + 1 + 1 := ⟨Tryz.prog.types.size - 1, by have h : (234 : Nat) < Tryz.prog.types.size := row63; omega⟩
theorem key_some (x : Int × Int) (h1 : wfI x.1) (h2 : wfI x.2) : keyOf Tryz.prog 234 (EV x) = some (.string (keyBytes [.int .i64 x.1, .int .i64 x.2])) := by
 unfold keyOf
 simp only [Tryz.underlying234]
 rw [if_pos (by rw [keyType63, formed63]; rfl)]
 obtain ⟨m, hm⟩ := size_types
 rw [hm]
 unfold Program.keyLits
 simp only [Tryz.underlying234, Value.cells]
 unfold wfI at h1 h2
 rw [if_pos ⟨by rw [cells63]; rfl, by simp⟩, List.mapM_cons, List.mapM_cons, List.mapM_nil]
 simp [Program.keyLits, cells2, Tryz.underlying2, h1, h2]
theorem lits2 {d : Nat} {c : Value} {ls : List Lit} (h : Tryz.prog.keyLits (d + 1) 2 [c] = some ls) : ∃ a : Int, c = .int .i64 a ∧ wfI a := by
 unfold Program.keyLits at h
 simp only [Tryz.underlying2] at h
 cases c <;> simp at h
 exact ⟨_, by rw [h.1.1], h.1.2⟩
theorem key_inv (v : Value) (kl : Lit) (h : keyOf Tryz.prog 234 v = some kl) : ∃ x : Int × Int, v = EV x ∧ wfI x.1 ∧ wfI x.2 := by
 unfold keyOf at h
 simp only [Tryz.underlying234] at h
 split at h
 ·rename_i hf
  rw [Bool.and_eq_true] at hf
  obtain ⟨-, hf⟩ := hf
  cases v <;> simp [Value.formed, Tryz.underlying234] at hf
  rename_i cs
  rw [cells63] at hf
  obtain ⟨c0, c1, rfl⟩ : ∃ c0 c1, cs = #[c0, c1] := by
   obtain ⟨l⟩ := cs
   rcases l with _ | ⟨a, _ | ⟨b, _ | ⟨c, r⟩⟩⟩ <;> simp at hf
   exact ⟨a, b, rfl⟩
  obtain ⟨m, hm⟩ := size_types
  rw [hm] at h
  unfold Program.keyLits at h
  simp only [Tryz.underlying234, Value.cells] at h
  rw [if_pos ⟨by rw [cells63]; rfl, by simp⟩, List.mapM_cons, List.mapM_cons, List.mapM_nil] at h
  simp only [cells2, List.drop_zero, List.drop_succ_cons, List.take_succ_cons, List.take_zero, List.take_nil] at h
  cases e0 : Tryz.prog.keyLits (m + 1) 2 [c0] with
  | none => rw [e0] at h; simp at h
  | some l0 =>
   cases e1 : Tryz.prog.keyLits (m + 1) 2 [c1] with
   | none => rw [e0, e1] at h; simp at h
   | some l1 =>
    obtain ⟨a, rfl, wa⟩ := lits2 e0
    obtain ⟨b, rfl, wb⟩ := lits2 e1
    exact ⟨(a, b), rfl, wa, wb⟩
 ·cases h
noncomputable def kOf (x : Int × Int) : Lit := .string (keyBytes [.int .i64 x.1, .int .i64 x.2])
theorem key_is (x : Int × Int) (h : wfI x.1 ∧ wfI x.2) : keyOf Tryz.prog 234 (EV x) = some (kOf x) := key_some x h.1 h.2
theorem kOf_inj {x y : Int × Int} (hx : wfI x.1 ∧ wfI x.2) (hy : wfI y.1 ∧ wfI y.2) (h : kOf x = kOf y) : x = y := by
 have := law63.inj (key_is x hx) (by rw [h]; exact key_is y hy)
 simp only [EV, Value.agg.injEq, Array.mk.injEq, List.cons.injEq, Value.int.injEq, true_and, and_true] at this
 exact Prod.ext this.1 this.2
theorem kOf_key (x : Int × Int) (h : wfI x.1 ∧ wfI x.2) : WideAt.IsKeyLit (kOf x) := law63.key (key_is x h)
noncomputable def Kd (ps : List LPr) : DataW Unit := ps.foldl (fun D p => D.put (kOf (ends p)) (.lit (.int .i64 p.2.2))) (.map [])
theorem Kd_add (ps : List LPr) (p : LPr) : Kd (ps ++ [p]) = (Kd ps).put (kOf (ends p)) (.lit (.int .i64 p.2.2)) := by simp [Kd]
theorem fold_has (ps : List LPr) (hw : ∀ p ∈ ps, WfP p) (x : Int × Int) (hx : wfI x.1 ∧ wfI x.2) : ∀ D : DataW Unit, IsMap D → (Maps.has (ps.foldl (fun D p => D.put (kOf (ends p)) (.lit (.int .i64 p.2.2))) D) (kOf x) = true ↔ Maps.has D (kOf x) = true ∨ x ∈ ps.map ends) := by
 induction ps with
 | nil => intro D h; simp
 | cons p r ih =>
  intro D h
  have hp := hw p (by simp)
  rw [List.foldl_cons, ih (fun q hq => hw q (by simp [hq])) _ (h.put _ _)]
  by_cases e : x = ends p
  ·subst e
   rw [has_put_same h (kOf_key _ hp.1)]
   simp
  ·have ne : kOf x ≠ kOf (ends p) := fun h' => e (kOf_inj hx hp.1 h')
   rw [has_put_other ne]
   simp [e]
theorem Kd_has (ps : List LPr) (hw : ∀ p ∈ ps, WfP p) (x : Int × Int) (hx : wfI x.1 ∧ wfI x.2) : Maps.has (Kd ps) (kOf x) = true ↔ x ∈ ps.map ends := by
 unfold Kd
 rw [fold_has ps hw x hx _ isMap_empty]
 simp [Maps.has]
set_option maxHeartbeats 400000 in
theorem en_any (p : LPr) (w : World) : Calls Tryz.prog 188 #[.agg #[.int .i64 p.1, .int .i64 p.2.1, .int .i64 p.2.2]] w fun e w' => e = .returned (EV (ends p)) ∧ Below w.heap.size w w' := by
 obtain ⟨a, b, q⟩ := p
 unfold ends
 go_enter Tryz.func188, Tryz.ntmps188
 go_wp2
 exact bodyPost_ret (v := EV (a, b)) (by simp [results, Tryz.results188, go_sem]) rfl ⟨rfl, bA (bA0 _ _) _⟩
theorem mk_map (n : Int) (w : World) : Sem.run Tryz.prog (Instr.makeMap 231 (some (.int .i64 n))) w = .ok (.map (some w.heap.size)) (w.alloc (.map #[] 0)) := by
 simp [Instr.makeMap, run_underlying Tryz.underlying231, Result.andThen, asInt, asIntOf]
set_option maxRecDepth 100000 in
set_option maxHeartbeats 1000000 in
theorem ks_nil (sl : Option Addr) (cap : Nat) (w : World) :
  Calls Tryz.prog 187 #[.slice sl 0 cap] w fun e w' => e = .returned (.map (some w.heap.size)) ∧ w'.ownsMap Tryz.prog 234 (plainElem (H := Unit) Tryz.prog 2) w.heap.size 0 (.map []) ∧ Below w.heap.size w w' := by
 have hmm := mk_map
 go_enter Tryz.func187, Tryz.ntmps187
 go_wp2
 refine wp_loop_rounds 1 ?_
 rw [rounds_succ]
 go_wp2
 go_ret
 exact ⟨rfl, World.ownsMap_made _ _ _ _, bA0 _ _⟩
theorem PAt3.new (w : World) (x y z : Int) : PAt3 (w.alloc (.cells #[.int .i64 x, .int .i64 y, .int .i64 z] 165)) w.heap.size x y z := by
 show (w.heap.push _)[w.heap.size]? = _
 simp
theorem PAt3.kept {w w' : World} {b : Nat} {x y z : Int} (h : PAt3 w b x y z) (hb : Below w.heap.size w w') : b < w'.heap.size ∧ w'.cell? ⟨b, 0, none⟩ = some (.int .i64 x) ∧ w'.cell? ⟨b, 1, none⟩ = some (.int .i64 y) ∧ w'.cell? ⟨b, 2, none⟩ = some (.int .i64 z) := (h.below hb).cells
theorem PAt3.grown {w w' : World} {b c : Nat} {x y z : Int} (h : PAt3 w b x y z) (hg : w.grownBy w' (some c)) (hc : c ≠ b) : b < w'.heap.size ∧ w'.cell? ⟨b, 0, none⟩ = some (.int .i64 x) ∧ w'.cell? ⟨b, 1, none⟩ = some (.int .i64 y) ∧ w'.cell? ⟨b, 2, none⟩ = some (.int .i64 z) :=
 PAt3.cells ((hg.block b h.lt (fun e => hc (Option.some.inj e).symm)).trans h)
theorem Below.grownN {w w' : World} (h : Below w.heap.size w w') : w.grownBy w' none := ⟨h.os, h.tape, h.output, h.size, fun k hk _ => h.block k hk⟩
theorem _root_.Go.World.ownsMap.belowM {H : Type} {P : Program} {k : TypeId} {R : Value → Option (DataW H × List MemPlace)} {w w' : World} {b n : Nat} {D : DataW H} (h : w.ownsMap P k R b n D) (hb : Below w.heap.size w w') : w'.ownsMap P k R b n D := h.kept (Below.grownN hb) (by simp)
set_option maxRecDepth 100000 in
set_option maxHeartbeats 1000000 in
theorem ks_some (c o cap : Nat) (ps : List LPr) (w : World) (hn : ps.length ≤ 1000) (hz : PrAt w c o ps) (hw : ∀ p ∈ ps, WfP p) :
  Calls Tryz.prog 187 #[.slice (some ⟨c, o, none⟩) ps.length cap] w fun e w' => e = .returned (.map (some w.heap.size)) ∧ w'.ownsMap Tryz.prog 234 (plainElem (H := Unit) Tryz.prog 2) w.heap.size ps.length (Kd ps) ∧ Below w.heap.size w w' := by
 have HZ := Lib.hid hz
 have HW := Lib.hid hw
 clear hz hw
 generalize hN : ps.length = n at *
 have HN := Lib.hid hN
 clear hN
 have hmm := mk_map
 go_enter Tryz.func187, Tryz.ntmps187
 go_wp2
 have HM0 := Lib.hid (World.ownsMap_made w Tryz.prog 234 (plainElem (H := Unit) Tryz.prog 2))
 go_loopw [11] (fun i wr => ∃ k : Nat, i = .int .i64 k ∧ k ≤ n ∧ Hid (wr.ownsMap Tryz.prog 234 (plainElem (H := Unit) Tryz.prog 2) w.heap.size k (Kd (ps.take k))) ∧ Hid (Below w.heap.size w wr)) (fun i _ => n - (intOf i).toNat)
 case atStart => exact ⟨0, rfl, Nat.zero_le _, HM0, bA0 _ _⟩
 case round =>
  obtain ⟨k, rfl, hk, M0, H2⟩ := hrel
  have hk0 : (0 : Int) ≤ (k : Int) := by omega
  by_cases h1 : k < n
  ·have h1' : (k : Int) < (n : Int) := by omega
   have hlt : k < ps.length := by rw [HN.out]; exact h1
   obtain ⟨a, b, q, hp⟩ : ∃ a b q, ps[k] = (a, b, q) := ⟨_, _, _, rfl⟩
   have hc0 := (H2.out.cell HZ.out.lt).trans (HZ.out.cell k hlt).1
   have hc1 := (H2.out.cell HZ.out.lt).trans (HZ.out.cell k hlt).2.1
   have hc2 := (H2.out.cell HZ.out.lt).trans (HZ.out.cell k hlt).2.2
   have HW1 := Lib.hid (HW.out ps[k] (List.getElem_mem hlt))
   have KE := Lib.hid (show Kd (ps.take (k + 1)) = (Kd (ps.take k)).put (kOf (ends ps[k])) (.lit (.int .i64 ps[k].2.2)) by rw [List.take_add_one, List.getElem?_eq_getElem hlt]; exact Kd_add _ _)
   rw [hp] at hc0 hc1 hc2 HW1 KE
   dsimp only at hc0 hc1 hc2 HW1 KE
   have hcl : c < wr.heap.size := Nat.lt_of_lt_of_le HZ.out.lt H2.out.size
   have hs2 := H2.out.size
   have E1 : Hid (∀ W, Calls Tryz.prog 188 #[.agg #[.int .i64 a, .int .i64 b, .int .i64 q]] W fun e w' => e = .returned (.agg #[.int .i64 a, .int .i64 b]) ∧ Below W.heap.size W w') := fun W => en_any (a, b, q) W
   have hml := M0.out.lt
   have M1 := Lib.hid (M0.out.alloc (.cells #[.int .i64 a, .int .i64 b, .int .i64 q] 165))
   have B1 := Lib.hid (bA H2.out (.cells #[.int .i64 a, .int .i64 b, .int .i64 q] 165))
   have PA := Lib.hid (PAt3.new wr a b q)
   clear hp hlt
   go_wp2_with fail
   generalize wr.alloc (.cells #[.int .i64 a, .int .i64 b, .int .i64 q] 165) = w1 at *
   have KB : Hid (∀ W, Below w1.heap.size w1 W → wr.heap.size < W.heap.size ∧ W.cell? ⟨wr.heap.size, 0, none⟩ = some (.int .i64 a) ∧ W.cell? ⟨wr.heap.size, 1, none⟩ = some (.int .i64 b) ∧ W.cell? ⟨wr.heap.size, 2, none⟩ = some (.int .i64 q)) := fun W hW => PA.out.kept hW
   have KG : Hid (∀ W W', Below w1.heap.size w1 W → W.grownBy W' (some w.heap.size) → wr.heap.size < W'.heap.size ∧ W'.cell? ⟨wr.heap.size, 0, none⟩ = some (.int .i64 a) ∧ W'.cell? ⟨wr.heap.size, 1, none⟩ = some (.int .i64 b) ∧ W'.cell? ⟨wr.heap.size, 2, none⟩ = some (.int .i64 q)) := fun W W' hW hg => (PA.out.below hW).grown hg (by omega)
   refine wp_region_held_drew (S := fun W => wr.heap.size < W.heap.size ∧ W.cell? ⟨wr.heap.size, 0, none⟩ = some (.int .i64 a) ∧ W.cell? ⟨wr.heap.size, 1, none⟩ = some (.int .i64 b) ∧ W.cell? ⟨wr.heap.size, 2, none⟩ = some (.int .i64 q)) (by kernel_rfl) ?_ (fun hHeld => ?_)
   ·exact KB.out _ (Below.refl _ _).drew
   refine tw (i := 0) rfl ?_
   refine tw (i := 1) rfl ?_
   refine tw (i := 3) rfl ?_
   refine tw (i := 4) rfl ?_
   try simp only [Act.put, setIfInBounds_toArray, set_cons_zero, set_cons_succ, getElem_toArray, getElem_cons_succ, getElem_cons_zero]
   refine wpAnyH_ready (rs := [2]) (by kernel_rfl) (by simp) ?_
   refine AllReadyH.cons rfl (fun K hK => ?_) AllReadyH.nil
   go_simp
   go_wp2_with (go_at_call 188; refine (E1.out _).mono ?_; rintro e w5 ⟨rfl, b5⟩)
   have D5 : Hid (Below w1.heap.size w1 w5) := bT ((Below.refl w1.heap.size w1).drew) b5
   clear b5
   refine hK.out _ _ ?_ (fun hHeld => ?_)
   ·exact KB.out _ D5.out
   clear hK K
   refine wpAnyH_ready (rs := [5]) (by kernel_rfl) (by simp) ?_
   refine AllReadyH.cons rfl (fun K hK => ?_) AllReadyH.nil
   have M5 := Lib.hid (M1.out.belowM D5.out)
   obtain ⟨w6, hrun, own6, grow6⟩ := M5.out.update law63 Tryz.underlying231 (by unfold maxLen; omega) (key_is (a, b) HW1.out.1) (plainElem_int Tryz.underlying2 HW1.out.2)
   have D6 := Lib.hid grow6
   clear grow6
   dsimp only [EV] at hrun
   go_simp
   refine hK.out _ _ ?_ (fun hHeld => ?_)
   ·exact KG.out _ _ D5.out D6.out
   clear hK K
   refine wpAnyH_done (by kernel_rfl) ?_ _
   have B6 := Lib.hid ((bT B1.out D5.out).grown D6.out (Nat.le_trans H2.out.size (Nat.le_trans (by have := PA.out.lt; omega) D5.out.size)) (fun j hj => by cases hj; exact Nat.le_refl _))
   have N6 : Hid (w6.ownsMap Tryz.prog 234 (plainElem (H := Unit) Tryz.prog 2) w.heap.size (k + 1) (Kd (ps.take (k + 1)))) := by rw [KE.out]; exact own6
   clear own6 hrun M5 D5 D6 KB KG PA
   go_wp2_with fail
   go_roundw
   case rel => exact ⟨k + 1, by go_num, by omega, N6, B6⟩
   case measure => simp [intOf]; omega
  ·have h1' : ¬ (k : Int) < (n : Int) := by omega
   have e : k = n := by omega
   have M9 := M0.out
   rw [List.take_of_length_le (by rw [HN.out]; omega), e] at M9
   have P := Lib.hid (And.intro M9 H2.out)
   clear M9 M0
   go_wp2
   go_ret
   exact ⟨rfl, P.out.1, P.out.2⟩
theorem ks_any (sl : Option Addr) (cap : Nat) (ps : List LPr) (w : World) (hn : ps.length ≤ 1000) (hz : Prs w sl ps) (hw : ∀ p ∈ ps, WfP p) :
  Calls Tryz.prog 187 #[.slice sl ps.length cap] w fun e w' => e = .returned (.map (some w.heap.size)) ∧ w'.ownsMap Tryz.prog 234 (plainElem (H := Unit) Tryz.prog 2) w.heap.size ps.length (Kd ps) ∧ Below w.heap.size w w' := by
 rcases hz with rfl | ⟨c, o, rfl, h⟩
 ·exact ks_nil sl cap w
 ·exact ks_some c o cap ps w hn h hw
end Go.Proofs.YtnihhbfgbilimaaGreatDoor
namespace Go.Proofs.YtnihhbfgbilimaaGreatDoor
open Go.RowKit Go.Maps
set_option linter.unusedVariables false
theorem enCells_len (ks : List (Int × Int)) : (enCells ks).length = ks.length * 2 := by
 induction ks with
 | nil => rfl
 | cons a r ih => rw [show enCells (a :: r) = encE a ++ enCells r from rfl, List.length_append, ih]; simp [encE]; omega
open Go.Sort in
theorem flat_toList (ks : List (Int × Int)) : (flatK encE 2 ks.toArray).toList = enCells ks := by
 apply List.ext_getElem?
 intro t
 by_cases h : t < ks.length * 2
 ·have hq : t / 2 < ks.length := by omega
  have h1 := enCells_at ks (t / 2) hq
  have hg : (flatK encE 2 ks.toArray)[t]? = some ((encE (ks.toArray)[t / 2]!)[t % 2]!) := by
   have hs : t < (flatK encE 2 ks.toArray).size := by simpa using h
   rw [Array.getElem?_eq_getElem hs, ← getElem!_pos _ t hs, get_flatK _ _ _ _ (by simpa using h)]
  rw [Array.getElem?_toList, hg]
  have he : (ks.toArray)[t / 2]! = ks[t / 2] := by simp [hq]
  rw [he]
  rcases Nat.mod_two_eq_zero_or_one t with e | e
  ·rw [show (enCells ks)[t]? = (enCells ks)[t / 2 * 2]? by congr 1; omega, h1.1, e]; rfl
  ·rw [show (enCells ks)[t]? = (enCells ks)[t / 2 * 2 + 1]? by congr 1; omega, h1.2, e]; rfl
 ·rw [List.getElem?_eq_none (by simp; omega), List.getElem?_eq_none (by rw [enCells_len]; omega)]
open Go.Sort in
theorem holdsE {B : Nat} {w : World} {g n cap : Nat} {ks : List (Int × Int)} (h : w.ownsRow B 234 2 (.slice (some ⟨g, 0, none⟩) n cap) n (enCells ks)) (hn : n = ks.length) : HoldsK encE 2 w g 0 ks.toArray := by
 subst hn
 intro j hj
 have hj' : j < ks.length * 2 := by simpa using hj
 have hc := h.cellAt j hj'
 rw [← flat_toList] at hc
 rw [Nat.zero_add, hc]
 refine ⟨?_, ?_⟩
 ·rw [Array.getElem?_toList, Array.getElem?_eq_getElem hj, ← getElem!_pos _ j hj]; rfl
 ·rcases h.2 with ⟨h0, _⟩ | ⟨g', cap', cur, hv, _, hb, _⟩
  ·cases h0
  ·cases hv; simp [World.frozen?, hb]
open Go.Sort in
theorem sorted_own {B : Nat} {w : World} {g cap m : Nat} {os : Array Obj} {ks ks' : List (Int × Int)} (h : w.ownsRow B 234 2 (.slice (some ⟨g, 0, none⟩) ks.length cap) ks.length (enCells ks)) (hl : ks'.length = ks.length) :
  (sortWorldK encE 2 w g 0 m ks'.toArray os).ownsRow B 234 2 (.slice (some ⟨g, 0, none⟩) ks.length cap) ks.length (enCells ks') ∧ w.grownBy (sortWorldK encE 2 w g 0 m ks'.toArray os) (some g) := by
 rcases h.2 with ⟨h0, _⟩ | ⟨g', cap', cur, hv, hbase, hb, h1, h2, h3, h4⟩
 ·cases h0
 ·cases hv
  have hg : g < w.heap.size := (Array.getElem?_eq_some_iff.1 hb).1
  have hheap : (sortWorldK encE 2 w g 0 m ks'.toArray os).heap[g]? = some (.cells (putCells id 0 (flatK encE 2 ks'.toArray) cur) 234 (0, 0)) := by
   unfold sortWorldK putRowK
   rw [heap_grow_old _ _ (by simpa using hg)]
   simp [putRow, mapBlock, Sort.ahead, Array.getElem?_modify, hb, onCells]
  refine ⟨⟨by rw [enCells_len, hl], .inr ⟨g, cap, _, rfl, hbase, hheap, h1, h2, by simp [putCells, h3], ?_⟩⟩, ⟨rfl, rfl, rfl, by simp [sortWorldK, putRowK], fun k hk hne => ?_⟩⟩
  ·have hs : (flatK encE 2 ks'.toArray).size = ks.length * 2 := by simp [hl]
   rw [← flat_toList]
   apply List.ext_getElem?
   intro j
   by_cases hj : j < ks.length * 2
   ·rw [List.getElem?_take_of_lt hj, Array.getElem?_toList, Array.getElem?_toList]
    have hjf : j < (flatK encE 2 ks'.toArray).size := by omega
    rw [Array.getElem?_eq_getElem hjf, ← getElem!_pos _ j hjf]
    simp [putCells, hl, hj, show j < cur.size by omega]
   ·rw [List.getElem?_take_eq_none (by omega), List.getElem?_eq_none (by simp; omega)]
  ·unfold sortWorldK putRowK
   rw [heap_grow_old _ _ (by simpa using hk)]
   have : g ≠ k := fun e => hne (by rw [e])
   simp [putRow, mapBlock, Sort.ahead, Array.getElem?_modify, this]
open Go.Sort in
theorem rising_of {d d' : Array (Int × Int)} (hp : PermIn 0 d.size d d') (hs : SortedIn (ltOf cmpE) 0 d.size d') (hn : d.toList.Nodup) : d'.toList.Pairwise Lt2 ∧ d'.toList.Perm d.toList := by
 obtain ⟨h1, h2, h3⟩ := hp
 have hperm : d'.toList.Perm d.toList := by
  have e1 : d'.extract 0 d.size = d' := by rw [← h1]; simp
  have e2 : d.extract 0 d.size = d := by simp
  rwa [e1, e2] at h3
 refine ⟨?_, hperm⟩
 have hnd : d'.toList.Nodup := hperm.nodup_iff.2 hn
 rw [List.pairwise_iff_getElem]
 intro i j hi hj hij
 have hi' : i < d'.size := by simpa using hi
 have hj' : j < d'.size := by simpa using hj
 have hne : d'.toList[i] ≠ d'.toList[j] := by
  have := List.pairwise_iff_getElem.1 hnd i j hi hj hij
  exact this
 have hlt := hs i j (Nat.zero_le _) hij (by omega)
 rw [getElem!_pos d' j hj', getElem!_pos d' i hi'] at hlt
 have hno : ¬ Lt2 d'[j] d'[i] := fun e => by have := (ltOf_cmpE _ _).2 e; rw [hlt] at this; cases this
 simp only [Array.getElem_toList] at hne ⊢
 rcases Lt2.tri hne with h | h
 ·exact h
 ·exact absurd h hno
structure Coll (D : DataW Unit) (left : Lit → Bool) (ks : List (Int × Int)) : Prop where
 nd : ks.Nodup
 wf : ∀ x ∈ ks, wfI x.1 ∧ wfI x.2
 mem : ∀ x, wfI x.1 ∧ wfI x.2 → (x ∈ ks ↔ Maps.has D (kOf x) = true ∧ left (kOf x) = false)
theorem Coll.start (D : DataW Unit) : Coll D (Maps.has D) [] := ⟨List.nodup_nil, fun x hx => absurd hx (by simp), fun x hx => (by simp)⟩
theorem Coll.step {D : DataW Unit} {left : Lit → Bool} {ks : List (Int × Int)} (h : Coll D left ks) {x : Int × Int} (hx : wfI x.1 ∧ wfI x.2) (hl : left (kOf x) = true) (hh : Maps.has D (kOf x) = true) : Coll D (fun z => left z && !z.sameKey (kOf x)) (ks ++ [x]) := by
 have hnx : x ∉ ks := fun hm => by have := ((h.mem x hx).1 hm).2; rw [hl] at this; cases this
 refine ⟨?_, fun y hy => ?_, fun y hy => ?_⟩
 ·rw [List.nodup_append]
  refine ⟨h.nd, by simp, fun a ha b hb => ?_⟩
  simp at hb; subst hb
  exact fun e => hnx (e ▸ ha)
 ·rcases List.mem_append.1 hy with hy | hy
  ·exact h.wf y hy
  ·simp at hy; rw [hy]; exact hx
 ·by_cases e : y = x
  ·subst e
   simp [hh, WideAt.sameKey_self (kOf_key y hy)]
  ·have ne : kOf y ≠ kOf x := fun e' => e (kOf_inj hy hx e')
   rw [List.mem_append, h.mem y hy, sameKey_ne ne]
   simp [e]
end Go.Proofs.YtnihhbfgbilimaaGreatDoor
namespace Go.Proofs.YtnihhbfgbilimaaGreatDoor
open Go.RowKit Go.Maps
set_option linter.unusedVariables false
theorem info63 : (Tryz.prog.info? 234).map (fun i => (i.zero, i.size, i.bytes)) = some (some (.agg #[.int .i64 0, .int .i64 0]), 2, 16) := by kernel_rfl
theorem two_new2 (w : World) (o : Obj) (a b : Value) (t : TypeId) : ∀ (j : Nat) (u : Value), [a, b][j]? = some u → ((w.alloc o).alloc (.cells #[a, b] t)).cell? ((⟨w.heap.size + 1, 0, none⟩ : Addr).add j) = some u := by
 have := cell_two_new (w.alloc o) a b t
 rwa [show (w.alloc o).heap.size = w.heap.size + 1 by simp] at this
theorem size_own {w : World} {b n : Nat} {D : DataW Unit} (h : w.ownsMap Tryz.prog 234 (plainElem (H := Unit) Tryz.prog 2) b n D) : Maps.size D ≤ n := by
 obtain ⟨es, clock, _, F, hn, rfl⟩ := h
 show List.length _ ≤ n
 rw [length_sorted]
 simpa using hn
set_option maxRecDepth 100000 in
set_option maxHeartbeats 2000000 in
theorem se_any (b n : Nat) (D : DataW Unit) (w : World) (hn : n ≤ 1000) (hm : w.ownsMap Tryz.prog 234 (plainElem (H := Unit) Tryz.prog 2) b n D) :
  Calls Tryz.prog 186 #[.map (some b)] w fun e w' => ∃ (v : Value) (ks : List (Int × Int)), e = .returned v ∧ w'.ownsRow w.heap.size 234 2 v ks.length (enCells ks) ∧ ks.Pairwise Lt2 ∧ (∀ x ∈ ks, wfI x.1 ∧ wfI x.2) ∧ (∀ x, wfI x.1 ∧ wfI x.2 → (x ∈ ks ↔ Maps.has D (kOf x) = true)) ∧ Below w.heap.size w w' := by
 obtain ⟨i3, hi3, hd0, hd1, hd2⟩ := info_parts info63
 have HM := Lib.hid hm
 have hsz := size_own hm
 have hbl := hm.lt
 obtain ⟨w1, hrun, own1, grow1⟩ := run_make_own (P := Tryz.prog) w w.heap.size 229 234 i3 (.agg #[.int .i64 0, .int .i64 0]) 2 Tryz.underlying229 hi3 hd0 hd1 .i64 .i64 (Maps.size D) (by rw [hd2]; omega) (by unfold maxLen; omega) (Nat.le_refl _)
 have HM1 := Lib.hid (hm.kept grow1 (by simp))
 have O1 := Lib.hid own1
 have G1 := Lib.hid grow1
 clear hm own1 grow1
 go_enter Tryz.func186, Tryz.ntmps186
 go_wp2_with (first
  | (at_len; refine wpList_len_own _ rfl _ 231 rfl 234 2 Tryz.underlying231 _ b n D rfl HM.out ?_)
  | (at_range; refine wpList_range_own _ rfl _ 231 rfl 234 2 law63 Tryz.underlying231 _ b n D rfl HM1.out ?_; intro w0 hrg0 hg0 hs0)
  | go_in)
 go_frame
 have HS0 := Lib.hid (And.intro (O1.out.kept hg0 (.inr (by simp [Value.ownBlock]))) (((Below.refl w.heap.size w).grown G1.out (Nat.le_refl _) (fun j hj => by cases hj)).grown hg0 G1.out.size (fun j hj => by cases hj)))
 have R0 := Lib.hid hrg0
 have hr1 := G1.out.size
 clear hrg0 hg0 hs0 HM HM1 O1 hrun
 generalize w1.heap.size = r at *
 go_loopw [3] (fun v wr => ∃ (left : Lit → Bool) (cnt : Nat) (ks : List (Int × Int)) (g cap : Nat), v = .slice (some ⟨g, 0, none⟩) ks.length cap ∧ ks.length + cnt ≤ Maps.size D ∧ Hid (wr.ranges Tryz.prog 234 (plainElem (H := Unit) Tryz.prog 2) b r n D left cnt) ∧ Hid (wr.ownsRow w.heap.size 234 2 (.slice (some ⟨g, 0, none⟩) ks.length cap) ks.length (enCells ks)) ∧ Hid (Coll D left ks) ∧ Hid (Below w.heap.size w wr)) (fun _ wr => wr.rangeLeft b r)
 case atStart => exact ⟨_, _, [], w.heap.size, Maps.size D, rfl, by simp, R0, HS0.out.1, Coll.start D, HS0.out.2⟩
 case round =>
  obtain ⟨left, cnt, ks, g, cap, rfl, hc, RG, OW, CO, BE⟩ := hrel
  have hrne := row_ne_iter OW.out RG.out
  have hbne := row_ne_low OW.out hbl
  have hgb := OW.out.lt g rfl
  have hbs := BE.out.size
  generalize hq : ks.length = q at *
  have HQ := Lib.hid hq
  clear hq
  go_wp2_with (first | (at_next; refine wpList_next_ranges _ rfl _ rfl 234 law63 _ (fun x : Int × Int => EV x) (Value.int .i64) (fun key kl h => by obtain ⟨x, e, _⟩ := key_inv key kl h; exact ⟨x, e⟩) (fun v y hv => by obtain ⟨c, rfl, _⟩ := plainElem_int_inv Tryz.underlying2 hv; exact ⟨c, rfl⟩) b r n D left cnt rfl RG.out ?_ ?_) | go_in)
  ·intro hc0 hl0
   have hcon := Lib.hid (Tryz.slices_SortFunc 2 Tryz.isAgg234 Tryz.sizeOf234 encE (fun _ => rfl) (fun x v hv => by simp [encE] at hv; rcases hv with rfl | rfl <;> rfl) cmpE swoE 218 #[] g 0 cap ks.toArray wr (enters_of Tryz.func218 (by kernel_rfl) rfl) (cmpLays g 0 _ wr) (holdsE OW.out HQ.out.symm) hgb.2 (by simp [HQ.out]; omega))
   have EC := Lib.hid (fun (x : Int × Int) (hx : wfI x.1 ∧ wfI x.2) => show x ∈ ks ↔ Maps.has D (kOf x) = true by rw [CO.out.mem x hx, hl0 (kOf x)]; simp)
   rw [show ks.toArray.size = q by simp [HQ.out]] at hcon
   clear hl0 RG
   go_wp2_with fail
   refine hcon.out.mono ?_
   rintro e w7 ⟨rfl, d', m7, os, hp, hs, rfl⟩
   have hp2 : Go.Sort.PermIn 0 ks.toArray.size ks.toArray d' := by rw [show ks.toArray.size = q by simp [HQ.out]]; exact hp
   have hs2 : Go.Sort.SortedIn (ltOf cmpE) 0 ks.toArray.size d' := by rw [show ks.toArray.size = q by simp [HQ.out]]; exact hs
   obtain ⟨hpw, hpm⟩ := rising_of hp2 hs2 (by simpa using CO.out.nd)
   have hl7 : d'.toList.length = ks.length := by have := hpm.length_eq; simpa using this
   have OWk := OW.out
   rw [← HQ.out] at OWk
   obtain ⟨own7, grow7⟩ := sorted_own (m := m7) (os := os) OWk hl7
   rw [show d'.toList.toArray = d' by simp] at own7 grow7
   have P : Hid (∃ (v : Value) (ks : List (Int × Int)), (.slice (some ⟨g, 0, none⟩) q cap) = v ∧ (sortWorldK encE 2 wr g 0 m7 d' os).ownsRow w.heap.size 234 2 v ks.length (enCells ks) ∧ ks.Pairwise Lt2 ∧ (∀ x ∈ ks, wfI x.1 ∧ wfI x.2) ∧ (∀ x, wfI x.1 ∧ wfI x.2 → (x ∈ ks ↔ Maps.has D (kOf x) = true)) ∧ Below w.heap.size w (sortWorldK encE 2 wr g 0 m7 d' os)) := by
    refine ⟨_, d'.toList, rfl, ?_, hpw, fun x hx => ?_, fun x hx => ?_, ?_⟩
    ·rw [hl7, ← HQ.out]; exact own7
    ·exact CO.out.wf x (by have := hpm.mem_iff.1 hx; simpa using this)
    ·rw [hpm.mem_iff]; simpa using EC.out x hx
    ·exact BE.out.grown grow7 hbs (fun j hj => by cases hj; exact hgb.1)
   clear own7 grow7 hp hs hp2 hs2 hpw hpm hcon OWk OW CO EC
   generalize sortWorldK encE 2 wr g 0 m7 d' os = w8 at *
   go_wp2
   go_ret
   obtain ⟨v, ks, e, h⟩ := P.out
   exact ⟨v, ks, by rw [← e]; rfl, h⟩
  ·intro x1 x2 c kl yd yp w2 cnt2 hkey hlk hv hat hrg2 hlt hg2 hs2 hen
   obtain ⟨x', ex, wx⟩ := key_inv _ _ hkey
   have wx' : wfI x1 ∧ wfI x2 := by
    simp only [EV, Value.agg.injEq, Array.mk.injEq, List.cons.injEq, Value.int.injEq, true_and, and_true] at ex
    rw [ex.1, ex.2]; exact wx
   obtain rfl : kl = kOf (x1, x2) := by have := key_is (x1, x2) wx'; rw [hkey] at this; exact Option.some.inj this
   have C2 := Lib.hid (CO.out.step (x := (x1, x2)) wx' hlk (has_true_of_atKey hat))
   have O2 := Lib.hid (OW.out.kept hg2 (.inr (fun e => hrne e.symm)))
   have B2 := Lib.hid (BE.out.grown hg2 hbs (fun j hj => by cases hj; omega))
   have R2 := Lib.hid hrg2
   have hs2' := hg2.size
   have EV9 := Lib.hid (show enCells ks ++ [.int .i64 x1, .int .i64 x2] = enCells (ks ++ [(x1, x2)]) from (enCells_add ks (x1, x2)).symm)
   have RL := Lib.hid (show wr.rangeLeft b r = cnt from RG.out.left_eq)
   dsimp only [EV] at hen
   clear hkey hlk hv hat hrg2 hg2 hs2 ex wx wx' CO OW BE RG x'
   go_wp2_with (first | (at_builtin; refine wpList_append_lies _ rfl (.tmp 14) (.tmp 16) 229 rfl w.heap.size 234 i3 (.agg #[.int .i64 0, .int .i64 0]) 2 16 Tryz.underlying229 hi3 hd0 hd1 hd2 rfl (by decide) _ _ _ rfl ((O2.out.alloc _).alloc _) ⟨w2.heap.size + 1, 0, none⟩ 1 1 [.int .i64 x1, .int .i64 x2] (by simp [Act.eval]) rfl (two_new2 _ _ _ _ _) (by intro u hu; simp at hu; rcases hu with rfl | rfl <;> rfl) (by decide) (by unfold maxLen; omega) (by omega) (by simp; omega) (w2.heap.size + 2) (by simp) ?_) | go_in)
   intro g9 cap9 w9 own9 grow9 hg9 hlt9
   have RA := Lib.hid ((R2.out.alloc (.cells #[.int .i64 x1, .int .i64 x2] 234)).alloc (.cells #[.int .i64 x1, .int .i64 x2] 234))
   have R9 := Lib.hid (RA.out.kept grow9 hbne hrne)
   have B9 := Lib.hid ((bA (bA B2.out (.cells #[.int .i64 x1, .int .i64 x2] 234)) (.cells #[.int .i64 x1, .int .i64 x2] 234)).grown grow9 (by simp; omega) (fun j hj => by cases hj; exact hgb.1))
   rw [EV9.out] at own9
   have N9 : Hid (w9.ownsRow w.heap.size 234 2 (.slice (some ⟨g9, 0, none⟩) (ks ++ [(x1, x2)]).length cap9) (ks ++ [(x1, x2)]).length (enCells (ks ++ [(x1, x2)]))) := by
    show World.ownsRow _ _ _ _ _ _ _
    rw [List.length_append, HQ.out]; exact own9
   have LQ := Lib.hid (show (ks ++ [(x1, x2)]).length = q + 1 by rw [List.length_append, HQ.out]; rfl)
   clear own9 grow9 hg9 hlt9 RA R2 O2 B2 hen
   go_wp2_with fail
   go_roundw
   case rel => exact ⟨_, cnt2, ks ++ [(x1, x2)], g9, cap9, by rw [LQ.out], by rw [LQ.out]; omega, R9, N9, C2, B9⟩
   case measure => rw [R9.out.left_eq, RL.out]; exact hlt
end Go.Proofs.YtnihhbfgbilimaaGreatDoor
