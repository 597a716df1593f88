import Derived.Test.YtnihhbfgbilimaaGreatDoorPt
import Derived.Test.YtnihhbfgbilimaaGreatDoorZPm
import Derived.Deep.LoopGhost
import Derived.Shelf.Spec.TrailingZeros
import Derived.Deep.RegionWith
import Derived.Deep.RegionLaw
import Derived.Deep.DeepCutAuto
namespace Go.Proofs.YtnihhbfgbilimaaGreatDoor
open Go.RowKit
set_option linter.unusedVariables false
theorem KeepB.trans {b : Nat} {w W V : World} (h : KeepB b w W) (g : KeepB b W V) : KeepB b w V := ⟨Nat.le_trans h.1 g.1, fun k h1 h2 => (g.2 k (Nat.lt_of_lt_of_le h1 h.1) h2).trans (h.2 k h1 h2)⟩
theorem cnfR_lits {vars : Int} {css : List (List Int)} (h : CnfR vars css) (hw : ∀ l ∈ css, ∀ z ∈ l, wfI z) : ∀ l ∈ css, ∀ z ∈ l, OkZ vars z := by
 intro l hl z hz
 obtain ⟨i, hi, rfl⟩ := List.getElem_of_mem hl
 have g := h.2.2 i hi
 have e : css.getD i [] = css[i] := by simp [hi]
 rw [e] at g
 exact (lv_in h.1.1 h.1.2 (hw _ hl z hz)).1 (g.2.1 z hz)
set_option linter.unusedSimpArgs false
def TabB (w : World) : Prop := ∀ j, j < Lib.deBruijn64tab.length → w.cell? ⟨0, j, none⟩ = some (.int .u8 (Lib.deBruijn64tab.getD j 0))
set_option maxRecDepth 100000 in
set_option maxHeartbeats 1000000 in
theorem tz_core (x k idx : Nat) (w : World) (hx0 : ((x : Int) == 0) = false)
  (key : IntKind.u64.wrap (bits BinOp.and IntKind.u64 (x : Int) (IntKind.u64.wrap (-(x : Int))) * 285870213051353865) / 288230376151711744 = (idx : Int))
  (hi : idx < 64) (hk : k < 64) (hcell : w.cell? ⟨0, idx, none⟩ = some (.int .u8 k)) :
  Calls Tryz.prog 254 #[.int .u64 x] w fun e w' => e = .returned (.int .i64 k) ∧ w' = w := by
 go_enter Tryz.func254, Tryz.ntmps254
 go_wp2_with (simp only [key])
 go_ret
 exact ⟨rfl, rfl⟩
theorem tz_any (x : BitVec 64) (hx : x ≠ 0#64) (w : World) (hT : TabB w) :
  Calls Tryz.prog 254 #[.int .u64 (x.toNat : Int)] w fun e w' => e = .returned (.int .i64 (Lib.ctz 64 x.toNat : Nat)) ∧ w' = w := by
 have h0 : x.toNat ≠ 0 := fun e => hx (BitVec.eq_of_toNat_eq (by simpa using e))
 obtain ⟨hlow, hk⟩ := Lib.lowest_bit 64 x.toNat h0 x.isLt
 obtain ⟨hi, htab⟩ := Lib.deBruijn64_at _ hk
 have hcell := hT _ hi
 rw [htab] at hcell
 exact tz_core x.toNat _ _ w (by simp; omega) (Go.Proofs.tz64_key x.toNat _ x.isLt h0 hlow) hi hk hcell
def FsP (ws : List (BitVec 64)) (w : World) (e : Ending) (w' : World) : Prop := ((∃ q : Nat, e = .returned (.int .i64 (q : Int)) ∧ q < 64 * ws.length ∧ bitM ws q = true ∧ ∀ r, r < q → bitM ws r = false) ∨ (e = .returned (.int .i64 (-1)) ∧ ∀ r, bitM ws r = false)) ∧ w' = w
set_option maxRecDepth 100000 in
set_option maxHeartbeats 1000000 in
theorem first_any (c m : Nat) (ws : List (BitVec 64)) (w : World) (hW : WAt w c ws) (hm : ws.length = m) (hm2 : m ≤ 100000) (hT : TabB w) :
  Calls Tryz.prog 238 #[.slice (some ⟨c, 0, none⟩) m m] w (FsP ws w) := by
 have HW := Lib.hid hW
 have HM := Lib.hid hm
 have HT := Lib.hid hT
 have hlt := hW.lt
 clear hW hm hT
 go_enter Tryz.func238, Tryz.ntmps238
 go_wp2
 go_loopw [7] (fun a wr => ∃ (k : Nat) (y : Int), a = .int .i64 y ∧ Hid (y = (k : Int) ∧ k ≤ m ∧ ∀ j, j < k → ws.getD j 0#64 = 0#64) ∧ Hid (wr = w)) (fun a _ => ((m : Int) - intOf a).toNat)
 case atStart =>
  exact ⟨0, 0, rfl, ⟨rfl, Nat.zero_le _, fun j hj => absurd hj (Nat.not_lt_zero _)⟩, rfl⟩
 case round =>
  obtain ⟨k, y, rfl, HK, HE⟩ := hrel
  have he := HE.out
  subst he
  by_cases hk : k < m
  ·have hlt2 : y < (m : Int) := by have := HK.out.1; omega
   have hy0 : 0 ≤ y := by have := HK.out.1; omega
   have hyk : y.toNat = k := by have := HK.out.1; omega
   have hcell : wr.cell? ⟨c, y.toNat, none⟩ = some (.int .u64 ((ws.getD k 0#64).toNat : Int)) := by rw [hyk]; exact HW.out.cell k (by rw [HM.out]; exact hk)
   have HY : Hid (y = (k : Int)) := HK.out.1
   have HZ : Hid (∀ j, j < k → ws.getD j 0#64 = 0#64) := HK.out.2.2
   generalize hx : ws.getD k 0#64 = x at *
   have HX := Lib.hid hx
   clear hx hyk HK
   by_cases h0 : x = 0#64
   ·subst h0
    have REL : Hid (∃ (k2 : Nat) (y2 : Int), Value.int .i64 (y + 1) = .int .i64 y2 ∧ Hid (y2 = (k2 : Int) ∧ k2 ≤ m ∧ ∀ j, j < k2 → ws.getD j 0#64 = 0#64) ∧ Hid True) := ⟨k + 1, y + 1, rfl, ⟨by have := HY.out; omega, by omega, fun j hj => by
     by_cases e : j = k
     ·rw [e]; exact HX.out
     ·exact HZ.out j (by omega)⟩, trivial⟩
    have MES : Hid (((m : Int) - (y + 1)).toNat < ((m : Int) - y).toNat) := by show _ < _; omega
    have hwy : wrap64 (y + 1) = y + 1 := wrap_in _ ⟨by omega, by omega⟩
    have hc0 : wr.cell? ⟨c, y.toNat, none⟩ = some (.int .u64 0) := hcell
    clear hcell HX HZ
    go_wp2
    try rw [hwy]
    exact ⟨REL.out, MES.out⟩
   ·have hn0 : x.toNat ≠ 0 := fun e => h0 (BitVec.eq_of_toNat_eq (by simpa using e))
    have hne : (((x.toNat : Nat) : Int) == 0) = false := beq_eq_false_iff_ne.2 (by omega)
    have TZ := Lib.hid (tz_any x h0 wr HT.out)
    obtain ⟨f1, f2, f3⟩ := word_first h0
    have hkl : k < ws.length := by rw [HM.out]; exact hk
    have hxe : ws[k] = x := by rw [← HX.out]; simp [List.getD_eq_getElem?_getD, hkl]
    have BF := bitM_first (ws := ws) (i := k) (k := Lib.ctz 64 x.toNat) hkl (fun j hj hjk => by have := HZ.out j hjk; simpa [List.getD_eq_getElem?_getD, hj] using this) f1 (by rw [hxe]; exact f2) (fun j hj => by rw [hxe]; exact f3 j hj)
    generalize Lib.ctz 64 x.toNat = z at *
    have PF : Hid (FsP ws wr (.returned (.int .i64 (64 * y + (z : Int)))) wr) := ⟨.inl ⟨64 * k + z, by rw [HY.out]; simp, by omega, BF.1, BF.2⟩, rfl⟩
    have hw1 : wrap64 (64 * y) = 64 * y := wrap_in _ ⟨by omega, by omega⟩
    have hw2 : wrap64 (64 * y + (z : Int)) = 64 * y + (z : Int) := wrap_in _ ⟨by omega, by omega⟩
    clear BF f2 f3 HX HZ hxe hkl hn0 h0
    generalize x.toNat = xn at *
    go_wp2_with fail
    refine TZ.out.mono ?_
    rintro e w1 ⟨rfl, rfl⟩
    go_wp2
    go_ret
    exact PF.out
  ·have hlt2 : ¬ y < (m : Int) := by have := HK.out.1; omega
   have PF : Hid (FsP ws wr (.returned (.int .i64 (-1))) wr) := ⟨.inr ⟨rfl, fun r => bitM_none (fun v hv => by
    obtain ⟨j, hj, rfl⟩ := List.getElem_of_mem hv
    have := HK.out.2.2 j (by have := HM.out; have := HK.out.2.1; omega)
    simpa [List.getD_eq_getElem?_getD, hj] using this) r⟩, rfl⟩
   go_wp2
   go_ret
   exact PF.out
set_option linter.unusedSimpArgs false
def FsV (ws : List (BitVec 64)) (y : Int) : Prop := (∃ q : Nat, y = (q : Int) ∧ q < 64 * ws.length ∧ bitM ws q = true ∧ ∀ r, r < q → bitM ws r = false) ∨ (y = -1 ∧ ∀ r, bitM ws r = false)
theorem first_y (c m : Nat) (ws : List (BitVec 64)) (w : World) (hW : WAt w c ws) (hm : ws.length = m) (hm2 : m ≤ 100000) (hT : TabB w) :
  Calls Tryz.prog 238 #[.slice (some ⟨c, 0, none⟩) m m] w fun e w' => ∃ y, e = .returned (.int .i64 y) ∧ Hid (FsV ws y) ∧ w' = w := by
 refine (first_any c m ws w hW hm hm2 hT).mono ?_
 rintro e w' ⟨h | h, hw⟩
 ·obtain ⟨q, rfl, h1, h2, h3⟩ := h
  exact ⟨_, rfl, .inl ⟨q, rfl, h1, h2, h3⟩, hw⟩
 ·exact ⟨_, h.1, .inr ⟨rfl, h.2⟩, hw⟩
theorem TabB.keep {b : Nat} {w W : World} (h : TabB w) (hb : b ≠ 0) (hk : KeepB b w W) : TabB W := by
 intro j hj
 have h0 : 0 < w.heap.size := by
  have := h j hj
  refine Nat.pos_of_ne_zero (fun e => ?_)
  have e2 : w.heap[0]? = none := Array.getElem?_eq_none (by omega)
  simp [World.cell?, e2] at this
 rw [World.cell?_of_block (w := w) (hk.2 0 h0 (fun e => hb e.symm))]
 exact h j hj
def cntM (m : Nat) (ws : List (BitVec 64)) : Nat := ((List.range (64 * m)).filter fun q => bitM ws q).length
theorem cntM_le (m : Nat) (ws : List (BitVec 64)) : cntM m ws ≤ 64 * m := by
 have := List.length_filter_le (fun q => bitM ws q) (List.range (64 * m))
 simpa [cntM] using this
theorem cntM_drop {m : Nat} {ws wk : List (BitVec 64)} {p : Nat} (hp : p < 64 * m) (h1 : bitM ws p = true) (h2 : ∀ q, bitM wk q = if q = p then false else bitM ws q) : cntM m wk < cntM m ws := by
 unfold cntM
 have e : ((List.range (64 * m)).filter fun q => bitM wk q) = ((List.range (64 * m)).filter fun q => bitM ws q).filter fun q => decide (q ≠ p) := by
  rw [List.filter_filter]
  refine List.filter_congr (fun q _ => ?_)
  rw [h2 q]
  by_cases g : q = p <;> simp [g]
 rw [e]
 have hm : p ∈ (List.range (64 * m)).filter fun q => bitM ws q := List.mem_filter.2 ⟨List.mem_range.2 hp, h1⟩
 have := List.length_filter_lt_length_iff_exists (p := fun q => decide (q ≠ p)) (l := (List.range (64 * m)).filter fun q => bitM ws q)
 exact this.2 ⟨p, hm, by simp⟩
def muF (m k : Nat) (ws : List (BitVec 64)) : Nat := (97 - k) * (64 * m + 1) + cntM m ws
theorem muF_drop {m k : Nat} {ws wk : List (BitVec 64)} {p : Nat} (hp : p < 64 * m) (h1 : bitM ws p = true) (h2 : ∀ q, bitM wk q = if q = p then false else bitM ws q) : muF m k wk < muF m k ws := by
 have := cntM_drop hp h1 h2
 unfold muF; omega
theorem muF_push {m k : Nat} (ws wk : List (BitVec 64)) (hk : k < 97) : muF m (k + 1) wk < muF m k ws := by
 have := cntM_le m wk
 have e : (97 - k) * (64 * m + 1) = (97 - (k + 1)) * (64 * m + 1) + (64 * m + 1) := by
  rw [show 97 - k = (97 - (k + 1)) + 1 by omega, Nat.succ_mul]
 unfold muF; omega
theorem PI.ext {css : List (List Int)} {T : List Int} {L L' : Nat → Int} {M M' : Nat → Bool} (h : PI css T L M) (e1 : ∀ p, p < css.length → L' p = L p) (e2 : ∀ p, p < css.length → M' p = M p) : PI css T L' M' :=
 ⟨fun p hp => by rw [e1 p hp]; exact h.left p hp, fun p hp hm => by rw [e1 p hp]; exact h.low p hp (by rw [← e2 p hp]; exact hm), fun p hp hm => by rw [e1 p hp]; exact h.fine p hp (by rw [← e2 p hp]; exact hm)⟩
theorem PI.few {css : List (List Int)} {T : List Int} {L : Nat → Int} {M : Nat → Bool} (h : PI css T L M) {p : Nat} (hp : p < css.length) (hm : M p = true) : (nfl T (css.getD p [])).length < 2 := by
 have h1 := h.left p hp
 have h2 := h.low p hp hm
 omega
theorem nfl_mem {T l : List Int} {z : Int} (h : nfl T l = [z]) : z ∈ l ∧ 0 ≤ val T z := by
 have : z ∈ nfl T l := by rw [h]; simp
 unfold nfl at this
 have := List.mem_filter.1 this
 exact ⟨this.1, by simpa using this.2⟩
theorem nfl_other {T l : List Int} {z : Int} (hc : Cons T) (h : nfl T l = [z]) (hv : val T z = 0) (h0 : z ≠ 0) : -z ∉ l := fun hm => by
 have hv2 : val T (-z) = 0 := by have := val_minus hc z; omega
 have : -z ∈ nfl T l := by
  unfold nfl
  exact List.mem_filter.2 ⟨hm, by simp [hv2]⟩
 rw [h] at this
 have := List.mem_singleton.1 this
 omega
theorem PI.step {css : List (List Int)} {T : List Int} {L L' : Nat → Int} {M M' : Nat → Bool} (h : PI css T L M) (hn : ∀ l ∈ css, l.Nodup) (hc : Cons T) {p : Nat} (hp : p < css.length) {z : Int} (h0 : z ≠ 0) (h1 : nfl T (css.getD p []) = [z]) (hv : val T z = 0) (eL : ∀ q, q < css.length → L' q = if -z ∈ css.getD q [] then L q - 1 else L q) (eM : ∀ q, q < css.length → M' q = if -z ∈ css.getD q [] ∧ L q - 1 < 2 then true else if q = p then false else M q) : PI css (T ++ [z]) L' M' := by
 obtain ⟨n1, n2⟩ := val_zero hv
 have hno := nfl_other hc h1 hv h0
 have hg : GdL (T ++ [z]) (css.getD p []) := ⟨z, (nfl_mem h1).1, val_push_same⟩
 refine ((h.push hn h0 n1 n2).drop (p := p) hg).ext eL (fun q hq => ?_)
 rw [eM q hq]
 by_cases e : q = p
 ·subst e
  rw [if_neg (fun r => hno r.1), if_pos rfl, if_pos rfl]
 ·rw [if_neg e, if_neg e]
theorem PI.calmed {css : List (List Int)} {T : List Int} {L : Nat → Int} {M M' : Nat → Bool} (h : PI css T L M) {p : Nat} {z : Int} (h1 : nfl T (css.getD p []) = [z]) (hv : ¬ val T z = 0) (eM : ∀ q, q < css.length → M' q = if q = p then false else M q) : PI css T L M' := by
 obtain ⟨m1, m2⟩ := nfl_mem h1
 have h2 : val T z = 1 := by
  rcases val_cases T z with ⟨e, _⟩ | ⟨e, _⟩ | ⟨e, _⟩
  ·exact e
  ·omega
  ·exact absurd e hv
 exact (h.drop (p := p) ⟨z, m1, h2⟩).ext (fun _ _ => rfl) eM
structure FS (d : Nat) (bt : TypeId) (fh : List Value) (w : World) (b pb bb lb c n m : Nat) (vars : Int) (css : List (List Int)) (R : List Int × Int) (T0 fl L : List Int) (ws : List (BitVec 64)) (v : Value) (W : World) : Prop where
 va : VAt d bt fh W b (T0 ++ fl)
 sp : SpTo vars (T0 ++ fl) (T0 ++ fl).length
 lf : LAt W lb L
 wf : WAt W c ws
 ln : L.length = n
 mn : ws.length = m
 pi : PI css (T0 ++ fl) (fun p => L.getD p 0) (bitM ws)
 out : ∀ q, n ≤ q → bitM ws q = false
 box : PBx W pb bb lb n c m
 row : W.ownsRow w.heap.size 2 1 v fl.length (valsZ fl)
 on : Only b w W
 run : resF css (97 - (T0 ++ fl).length) (T0 ++ fl) = R
theorem Only.keepB {b : Nat} {w W : World} (h : Only b w W) : KeepB b w W := ⟨h.size, h.block⟩
section
variable {d : Nat} {bt : TypeId} {fh : List Value} {w : World} {b pb bb lb c n m : Nat} {vars : Int} {css : List (List Int)} {R : List Int × Int} {T0 fl L : List Int} {ws : List (BitVec 64)} {v : Value} {W : World}
theorem FS.calm (h : FS d bt fh w b pb bb lb c n m vars css R T0 fl L ws v W) (hv : vars ≤ 96) (hm : ∀ r, bitM ws r = false) : R = (T0 ++ fl, -1) := by
 have e := h.pi.calm (fun p _ => hm p)
 rw [← h.run, resF_end _ _ _ (by have := h.sp.short hv; omega) (by rw [e]), e]
theorem FS.wrong (h : FS d bt fh w b pb bb lb c n m vars css R T0 fl L ws v W) (hv : vars ≤ 96) {p : Nat} (hp : p < css.length) (hf : ∀ r, r < p → bitM ws r = false) (h0 : nfl (T0 ++ fl) (css.getD p []) = []) : R = (T0 ++ fl, (p : Int)) := by
 have e := h.pi.wrong hp hf (by rw [show css[p] = css.getD p [] by simp [List.getD_eq_getElem?_getD, hp]]; exact h0)
 rw [← h.run, resF_end _ _ _ (by have := h.sp.short hv; omega) (by rw [e]), e]
theorem FS.follows (h : FS d bt fh w b pb bb lb c n m vars css R T0 fl L ws v W) (hv : vars ≤ 96) {p : Nat} (hp : p < css.length) (hf : ∀ r, r < p → bitM ws r = false) {z : Int} (hz : z ≠ 0) (h1 : nfl (T0 ++ fl) (css.getD p []) = [z]) (h2 : val (T0 ++ fl) z = 0) : resF css (97 - (T0 ++ (fl ++ [z])).length) (T0 ++ (fl ++ [z])) = R := by
 have e := h.pi.unit hp hf (by rw [show css[p] = css.getD p [] by simp [List.getD_eq_getElem?_getD, hp]]; exact h1) h2
 have hs := h.sp.short hv
 have h3 := resF_step css (97 - (T0 ++ fl).length) (T0 ++ fl) (by omega) (by rw [e]; exact hz)
 rw [e, h.run, List.append_assoc] at h3
 rw [h3]
 congr 1
 simp; omega
end
theorem vL_nil : vL [] = List.replicate 97 (.int .i64 0) := by
 apply List.ext_getElem?
 intro k
 by_cases hk : k < 97
 ·rw [vL_at [] k hk, val_no (by simp) (by simp), List.getElem?_replicate, if_pos hk]
 ·rw [List.getElem?_eq_none (by rw [vL_len]; omega), List.getElem?_eq_none (by rw [List.length_replicate]; omega)]
theorem VAt.blkA {d : Nat} {bt : TypeId} {fh : List Value} {w : World} {b : Nat} {tr : List Int} (h : VAt d bt fh w b tr) : VBlk d bt fh w b := ⟨h.1, vL tr, vL_len tr, h.2⟩
theorem TabB.belowT {w W : World} (h : TabB w) (hb : Below w.heap.size w W) : TabB W := by
 have h0 : 0 < w.heap.size := by
  have := h 0 (by decide)
  refine Nat.pos_of_ne_zero (fun e => ?_)
  have e2 : w.heap[0]? = none := Array.getElem?_eq_none (by omega)
  simp [World.cell?, e2] at this
 intro j hj
 rw [World.cell?_of_block (w := w) (hb.block 0 h0)]
 exact h j hj
theorem nodup_of_map {α β : Type} (f : α → β) : ∀ l : List α, (l.map f).Nodup → l.Nodup
 | [], _ => List.nodup_nil
 | a :: r, h => by
  rw [List.map_cons, List.nodup_cons] at h
  exact List.nodup_cons.2 ⟨fun g => h.1 (List.mem_map.2 ⟨a, g, rfl⟩), nodup_of_map f r h.2⟩
theorem cnfR_dup {vars : Int} {css : List (List Int)} (h : CnfR vars css) : ∀ l ∈ css, l.Nodup ∧ l.length ≤ 1000 := by
 intro l hl
 obtain ⟨i, hi, rfl⟩ := List.getElem_of_mem hl
 have g := h.2.2 i hi
 have e : css.getD i [] = css[i] := by simp [hi]
 rw [e] at g
 exact ⟨nodup_of_map lv _ g.2.2, by have := g.1; omega⟩
theorem SpTo.dup {vars : Int} {l : List Int} (h : SpTo vars l l.length) (hv : vars ≤ 96) : l.Nodup ∧ l.length ≤ 1000 := by
 refine ⟨List.pairwise_iff_getElem.2 (fun i j hi hj hij e => ?_), by have := h.short hv; omega⟩
 have := ((h j hj).2 i hij).1
 simp [List.getD_eq_getElem?_getD, hi, hj] at this
 exact this e
end Go.Proofs.YtnihhbfgbilimaaGreatDoor
