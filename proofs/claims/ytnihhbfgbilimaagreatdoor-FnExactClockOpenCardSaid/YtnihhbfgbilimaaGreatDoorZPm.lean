import Derived.Test.YtnihhbfgbilimaaGreatDoorVac
import Derived.Test.YtnihhbfgbilimaaGreatDoorPy
import Derived.RegionTactic
import Derived.ChangeAlike
import Derived.Deep.LoopGhost
namespace Go.Proofs.YtnihhbfgbilimaaGreatDoor
open Go.RowKit
set_option linter.unusedVariables false
set_option linter.unusedSimpArgs false
def WAt (w : World) (c : Nat) (ws : List (BitVec 64)) : Prop := w.heap[c]? = some (.cells (ws.map fun x => Value.int .u64 (x.toNat : Int)).toArray 87)
theorem WAt.lt {w : World} {c : Nat} {ws : List (BitVec 64)} (h : WAt w c ws) : c < w.heap.size := (Array.getElem?_eq_some_iff.1 h).1
theorem WAt.cell {w : World} {c : Nat} {ws : List (BitVec 64)} (h : WAt w c ws) (k : Nat) (hk : k < ws.length) : w.cell? ⟨c, k, none⟩ = some (.int .u64 ((ws.getD k 0#64).toNat : Int)) := by
 unfold WAt at h
 simp [World.cell?, h, hk, List.getD_eq_getElem?_getD]
theorem WAt.frozen {w : World} {c : Nat} {ws : List (BitVec 64)} (h : WAt w c ws) (k : Nat) : w.frozen? ⟨c, k, none⟩ = false := by
 unfold WAt at h
 simp [World.frozen?, h]
theorem WAt.set {w : World} {c : Nat} {ws : List (BitVec 64)} (h : WAt w c ws) (k : Nat) (x : BitVec 64) : WAt (w.setCell ⟨c, k, none⟩ (.int .u64 (x.toNat : Int))) c (ws.set k x) := by
 have := heap_setCell_same w c k _ 87 (.int .u64 (x.toNat : Int)) h
 rw [List.setIfInBounds_toArray, ← List.map_set] at this
 exact this
set_option maxRecDepth 100000 in
set_option maxHeartbeats 1000000 in
theorem mput_any (c : Nat) (ws : List (BitVec 64)) (n : Nat) (q : Nat) (w : World) (hw : WAt w c ws) (hn : ws.length = n) (hq : q / 64 < n) (hs : q ≤ 1000000000) :
  Calls Tryz.prog 258 #[.slice (some ⟨c, 0, none⟩) n n, .int .i64 (q : Int)] w fun e w' => e = .returned (.tuple #[]) ∧ WAt w' c (putM ws q) ∧ Only c w w' := by
 have hlt := hw.lt
 have hcell := hw.cell (q / 64) (by omega)
 have hfr := hw.frozen (q / 64)
 have hb : IntKind.u64.wrap (2 ^ (q % 64)) = ((bit1 (q % 64)).toNat : Int) := by
  have := bit1_word (k := q % 64) (by omega)
  rwa [Int.one_mul] at this
 have P : Hid (WAt (w.setCell ⟨c, q / 64, none⟩ (.int .u64 ((ws.getD (q / 64) 0#64 ||| bit1 (q % 64)).toNat : Int))).drew c (putM ws q)) := hw.set (q / 64) _
 clear hw hn
 generalize ws.getD (q / 64) 0#64 = x at *
 go_enter Tryz.func258, Tryz.ntmps258
 go_region
 rw [or_word]
 go_end0
 exact ⟨rfl, P.out, ((Only.refl c w).setCell _ _).drew⟩
set_option maxRecDepth 100000 in
set_option maxHeartbeats 1000000 in
theorem mdrop_any (c : Nat) (ws : List (BitVec 64)) (n : Nat) (q : Nat) (w : World) (hw : WAt w c ws) (hn : ws.length = n) (hq : q / 64 < n) (hs : q ≤ 1000000000) :
  Calls Tryz.prog 241 #[.slice (some ⟨c, 0, none⟩) n n, .int .i64 (q : Int)] w fun e w' => e = .returned (.tuple #[]) ∧ WAt w' c (dropM ws q) ∧ Only c w w' := by
 have hlt := hw.lt
 have hcell := hw.cell (q / 64) (by omega)
 have hfr := hw.frozen (q / 64)
 have hb : IntKind.u64.wrap (2 ^ (q % 64)) = ((bit1 (q % 64)).toNat : Int) := by
  have := bit1_word (k := q % 64) (by omega)
  rwa [Int.one_mul] at this
 have P : Hid (WAt (w.setCell ⟨c, q / 64, none⟩ (.int .u64 ((ws.getD (q / 64) 0#64 &&& ~~~(bit1 (q % 64))).toNat : Int))).drew c (dropM ws q)) := hw.set (q / 64) _
 clear hw hn
 generalize ws.getD (q / 64) 0#64 = x at *
 go_enter Tryz.func241, Tryz.ntmps241
 go_region
 rw [andNot_word]
 go_end0
 exact ⟨rfl, P.out, ((Only.refl c w).setCell _ _).drew⟩
set_option linter.unusedSimpArgs false
theorem box3 {W : World} {b : Nat} {v0 v1 v2 : Value} {t : TypeId} (h : W.heap[b]? = some (.cells #[v0, v1, v2] t)) : b < W.heap.size ∧ W.cell? ⟨b, 0, none⟩ = some v0 ∧ W.cell? ⟨b, 1, none⟩ = some v1 ∧ W.cell? ⟨b, 2, none⟩ = some v2 :=
 ⟨(Array.getElem?_eq_some_iff.1 h).1, by simp [World.cell?, h], by simp [World.cell?, h], by simp [World.cell?, h]⟩
theorem Only.of_below {b : Nat} {u v : World} (h : Below u.heap.size u v) : Only b u v := ⟨h.os, h.tape, h.output, h.size, fun k hk _ => h.block k hk⟩
def LAt (w : World) (c : Nat) (L : List Int) : Prop := w.heap[c]? = some (.cells (L.map fun x => Value.int .i64 x).toArray 3)
theorem LAt.lt {w : World} {c : Nat} {L : List Int} (h : LAt w c L) : c < w.heap.size := (Array.getElem?_eq_some_iff.1 h).1
theorem LAt.cell {w : World} {c : Nat} {L : List Int} (h : LAt w c L) (k : Nat) (hk : k < L.length) : w.cell? ⟨c, k, none⟩ = some (.int .i64 (L.getD k 0)) := by
 unfold LAt at h
 simp [World.cell?, h, hk, List.getD_eq_getElem?_getD]
theorem LAt.frozen {w : World} {c : Nat} {L : List Int} (h : LAt w c L) (k : Nat) : w.frozen? ⟨c, k, none⟩ = false := by
 unfold LAt at h
 simp [World.frozen?, h]
theorem LAt.set {w : World} {c : Nat} {L : List Int} (h : LAt w c L) (k : Nat) (x : Int) : LAt (w.setCell ⟨c, k, none⟩ (.int .i64 x)) c (L.set k x) := by
 have := heap_setCell_same w c k _ 3 (.int .i64 x) h
 rw [List.setIfInBounds_toArray, ← List.map_set] at this
 exact this
theorem LAt.kept {w w' : World} {c : Nat} {L : List Int} (h : LAt w c L) (e : w'.heap[c]? = w.heap[c]?) : LAt w' c L := e.trans h
theorem WAt.kept {w w' : World} {c : Nat} {ws : List (BitVec 64)} (h : WAt w c ws) (e : w'.heap[c]? = w.heap[c]?) : WAt w' c ws := e.trans h
abbrev PVl (bb lb n c m : Nat) : Value := .agg #[.pointer (some ⟨bb, 0, none⟩), .slice (some ⟨lb, 0, none⟩) n n, .slice (some ⟨c, 0, none⟩) m m]
set_option maxRecDepth 100000 in
set_option maxHeartbeats 1000000 in
theorem mark_any (bb lb c n m : Nat) (L : List Int) (ws : List (BitVec 64)) (p : Nat) (w : World) (hL : LAt w lb L) (hW : WAt w c ws) (hn : L.length = n) (hm : ws.length = m) (hp : p < n) (hq : p / 64 < m) (hne : lb ≠ c) (hs : p ≤ 1000000000) :
  Calls Tryz.prog 253 #[PVl bb lb n c m, .int .i64 (p : Int)] w fun e w' => e = .returned (.tuple #[]) ∧ WAt w' c (if L.getD p 0 < 2 then putM ws p else ws) ∧ Only c w w' := by
 have b0 := bA0 w (.cells #[.pointer (some ⟨bb, 0, none⟩), .slice (some ⟨lb, 0, none⟩) n n, .slice (some ⟨c, 0, none⟩) m m] 285)
 have N := new_at w (.cells #[.pointer (some ⟨bb, 0, none⟩), .slice (some ⟨lb, 0, none⟩) n n, .slice (some ⟨c, 0, none⟩) m m] 285)
 have hL' := hL.kept (b0.block lb hL.lt)
 have hW' := hW.kept (b0.block c hW.lt)
 have hcell := hL'.cell p (by omega)
 have hlt := hL'.lt
 obtain ⟨nl, n0, n1, n2⟩ := box3 N
 have O0 := Lib.hid (Only.of_below (b := c) b0)
 have PU := Lib.hid (mput_any c ws m p _ hW' hm hq hs)
 have HW := Lib.hid hW'
 clear hL hW hL' hW' N b0 hn hm
 generalize L.getD p 0 = x at *
 by_cases hx : x < 2
 ·rw [if_pos hx]
  go_enter Tryz.func253, Tryz.ntmps253
  go_wp2_with fail
  refine PU.out.mono ?_
  rintro e w1 ⟨rfl, h1, o1⟩
  have H1 := Lib.hid (And.intro h1 (O0.out.trans o1))
  clear h1 o1
  go_wp2
  go_end0
  exact ⟨rfl, H1.out⟩
 ·rw [if_neg hx]
  go_enter Tryz.func253, Tryz.ntmps253
  go_wp2
  go_end0
  exact ⟨rfl, HW.out, O0.out⟩
set_option linter.unusedSimpArgs false
structure Two (a c : Nat) (u v : World) : Prop where
 os : v.os = u.os
 tape : v.tape = u.tape
 output : v.output = u.output
 size : u.heap.size ≤ v.heap.size
 block : ∀ k, k < u.heap.size → k ≠ a → k ≠ c → v.heap[k]? = u.heap[k]?
theorem Two.of {a c : Nat} {u v : World} (h : Only c u v) : Two a c u v := ⟨h.os, h.tape, h.output, h.size, fun k hk _ hc => h.block k hk hc⟩
theorem Two.of' {a c : Nat} {u v : World} (h : Only a u v) : Two a c u v := ⟨h.os, h.tape, h.output, h.size, fun k hk ha _ => h.block k hk ha⟩
theorem Two.trans {a c : Nat} {u v w : World} (h : Two a c u v) (g : Two a c v w) : Two a c u w := ⟨g.os.trans h.os, g.tape.trans h.tape, g.output.trans h.output, Nat.le_trans h.size g.size, fun k hk ha hc => (g.block k (Nat.lt_of_lt_of_le hk h.size) ha hc).trans (h.block k hk ha hc)⟩
structure SK (w : World) (lb c n m : Nat) (L : List Int) (ws : List (BitVec 64)) (ps : List Nat) (Lk : List Int) (wk : List (BitVec 64)) (W : World) : Prop where
 lf : LAt W lb Lk
 mk' : WAt W c wk
 ln : Lk.length = n
 mn : wk.length = m
 left : ∀ q, q < n → Lk.getD q 0 = if q ∈ ps then L.getD q 0 - 1 else L.getD q 0
 mark : ∀ q, bitM wk q = if q ∈ ps ∧ L.getD q 0 - 1 < 2 then true else bitM ws q
 two : Two lb c w W
theorem SK.next {w : World} {lb c n m : Nat} {L : List Int} {ws : List (BitVec 64)} {ps : List Nat} {Lk : List Int} {wk : List (BitVec 64)} {W W' : World} (h : SK w lb c n m L ws ps Lk wk W) {p : Nat} (hp : p < n) (hn : p ∉ ps) (hq : p / 64 < m)
  (hl : LAt W' lb (Lk.set p (Lk.getD p 0 - 1))) (hm : WAt W' c (if (Lk.set p (Lk.getD p 0 - 1)).getD p 0 < 2 then putM wk p else wk)) (ht : Two lb c W W') :
  SK w lb c n m L ws (ps ++ [p]) (Lk.set p (Lk.getD p 0 - 1)) (if (Lk.set p (Lk.getD p 0 - 1)).getD p 0 < 2 then putM wk p else wk) W' := by
 have hpl : p < Lk.length := by rw [h.ln]; exact hp
 have e0 : Lk.getD p 0 = L.getD p 0 := by rw [h.left p hp, if_neg hn]
 have e1 : (Lk.set p (Lk.getD p 0 - 1)).getD p 0 = L.getD p 0 - 1 := by rw [getD_set _ _ _ _ _ hpl, if_pos rfl, e0]
 refine ⟨hl, hm, by rw [List.length_set]; exact h.ln, by split <;> simp [putM_len, h.mn], fun q hq' => ?_, fun q => ?_, h.two.trans ht⟩
 ·rw [getD_set _ _ _ _ _ hpl]
  by_cases e : q = p
  ·subst e; rw [if_pos rfl, e0, if_pos (by simp)]
  ·rw [if_neg e, h.left q hq']
   have : (q ∈ ps ++ [p]) ↔ q ∈ ps := by simp [e]
   simp only [this]
 ·rw [e1]
  have hb := h.mark q
  by_cases e : q = p
  ·subst e
   have hb' : bitM wk q = bitM ws q := by rw [hb, if_neg (fun g => hn g.1)]
   by_cases g : L.getD q 0 - 1 < 2
   ·rw [if_pos g, putM_at _ _ _ (by rw [h.mn]; exact hq), if_pos rfl, if_pos ⟨by simp, g⟩]
   ·rw [if_neg g, hb', if_neg (fun r => g r.2)]
  ·have hmem : (q ∈ ps ++ [p]) ↔ q ∈ ps := by simp [e]
   by_cases g : L.getD p 0 - 1 < 2
   ·rw [if_pos g, putM_at _ _ _ (by rw [h.mn]; exact hq), if_neg e, hb]
    simp only [hmem]
   ·rw [if_neg g, hb]
    simp only [hmem]
set_option maxRecDepth 100000 in
set_option maxHeartbeats 2000000 in
theorem strike_any (bb lb c n m : Nat) (L : List Int) (ws : List (BitVec 64)) (z : Int) (i : Nat) (s : Option Addr) (sk : Nat) (ps : List Nat) (w : World) (hz : z + 96 = (i : Int)) (hi : i < 193) (hL : LAt w lb L) (hW : WAt w c ws) (hn : L.length = n) (hm : ws.length = m) (hne : lb ≠ c) (hbl : bb < w.heap.size)
  (hnm : n ≤ 64 * m) (hs : n ≤ 1000000) (hcell : w.cell? ⟨bb, 1 + i, none⟩ = some (.slice s ps.length sk)) (hps : ∀ p ∈ ps, p < n) (hnd : ps.Nodup) (hlen : ps.length ≤ 1000000)
  (hin : ∀ W, Two lb c w W → W.cell? ⟨bb, 1 + i, none⟩ = some (.slice s ps.length sk) ∧ ∀ k, k < ps.length → ∃ g o, s = some ⟨g, o, none⟩ ∧ g < W.heap.size ∧ W.cell? ⟨g, o + k, none⟩ = some (.int .i64 ((ps.getD k 0 : Nat) : Int))) (hlow : ∀ q, q < n → -1000000 ≤ L.getD q 0 ∧ L.getD q 0 ≤ 1000000) :
  Calls Tryz.prog 242 #[PVl bb lb n c m, .int .i64 z] w fun e w' => e = .returned (.tuple #[]) ∧ ∃ Lk wk, SK w lb c n m L ws ps Lk wk w' := by
 have b0 := bA0 w (.cells #[.pointer (some ⟨bb, 0, none⟩), .slice (some ⟨lb, 0, none⟩) n n, .slice (some ⟨c, 0, none⟩) m m] 285)
 have N := new_at w (.cells #[.pointer (some ⟨bb, 0, none⟩), .slice (some ⟨lb, 0, none⟩) n n, .slice (some ⟨c, 0, none⟩) m m] 285)
 have S0 : Hid (SK w lb c n m L ws [] L ws (w.alloc (.cells #[.pointer (some ⟨bb, 0, none⟩), .slice (some ⟨lb, 0, none⟩) n n, .slice (some ⟨c, 0, none⟩) m m] 285))) := ⟨hL.kept (b0.block lb hL.lt), hW.kept (b0.block c hW.lt), hn, hm, fun q _ => by simp, fun q => by simp, Two.of (Only.of_below b0)⟩
 have BX : Hid (∀ W, Two lb c (w.alloc (.cells #[.pointer (some ⟨bb, 0, none⟩), .slice (some ⟨lb, 0, none⟩) n n, .slice (some ⟨c, 0, none⟩) m m] 285)) W → w.heap.size < W.heap.size ∧ W.cell? ⟨w.heap.size, 0, none⟩ = some (.pointer (some ⟨bb, 0, none⟩)) ∧ W.cell? ⟨w.heap.size, 1, none⟩ = some (.slice (some ⟨lb, 0, none⟩) n n) ∧ W.cell? ⟨w.heap.size, 2, none⟩ = some (.slice (some ⟨c, 0, none⟩) m m)) := fun W hW' => by
  have l1 := hL.lt
  have l2 := hW.lt
  exact box3 ((hW'.block w.heap.size (Array.getElem?_eq_some_iff.1 N).1 (by omega) (by omega)).trans N)
 have HIN := Lib.hid hin
 have hw96 : wrap64 (z + 96) = (i : Int) := by rw [hz]; exact wrap_in _ ⟨by omega, by omega⟩
 have hi' : (i : Int) < 193 := by omega
 obtain ⟨x0, x1, x2, x3⟩ := BX.out _ ⟨rfl, rfl, rfl, Nat.le_refl _, fun _ _ _ _ => rfl⟩
 have hc0 := (hin _ (Two.of (Only.of_below b0))).1
 have hbl' : bb < (w.alloc (.cells #[.pointer (some ⟨bb, 0, none⟩), .slice (some ⟨lb, 0, none⟩) n n, .slice (some ⟨c, 0, none⟩) m m] 285)).heap.size := by have := b0.size; omega
 clear hin hcell b0 N hL hW hn hm hz
 go_enter Tryz.func242, Tryz.ntmps242
 go_wp2
 have T0 : Hid (Two lb c (w.alloc (.cells #[.pointer (some ⟨bb, 0, none⟩), .slice (some ⟨lb, 0, none⟩) n n, .slice (some ⟨c, 0, none⟩) m m] 285)) (w.alloc (.cells #[.pointer (some ⟨bb, 0, none⟩), .slice (some ⟨lb, 0, none⟩) n n, .slice (some ⟨c, 0, none⟩) m m] 285))) := ⟨rfl, rfl, rfl, Nat.le_refl _, fun _ _ _ _ => rfl⟩
 clear x0 x1 x2 x3 hc0 hbl' hw96 hi'
 generalize w.alloc (.cells #[.pointer (some ⟨bb, 0, none⟩), .slice (some ⟨lb, 0, none⟩) n n, .slice (some ⟨c, 0, none⟩) m m] 285) = wA at *
 generalize hpl : ps.length = pn at *
 have HPL := Lib.hid hpl
 clear hpl
 go_loopw [15] (fun a wr => ∃ (k : Nat) (y : Int) (Lk : List Int) (wk : List (BitVec 64)), a = .int .i64 y ∧ Hid (y = (k : Int) ∧ k ≤ pn) ∧ Hid (SK w lb c n m L ws (ps.take k) Lk wk wr) ∧ Hid (Two lb c wA wr)) (fun a _ => ((pn : Int) - intOf a).toNat)
 case atStart =>
  exact ⟨0, 0, L, ws, rfl, ⟨rfl, Nat.zero_le _⟩, S0, T0⟩
 case round =>
  obtain ⟨k, y, Lk, wk, rfl, HK, G1, T1⟩ := hrel
  clear S0 T0
  by_cases hk : k < pn
  ·have hlt : y < (pn : Int) := by have := HK.out.1; omega
   have hy0 : 0 ≤ y := by have := HK.out.1; omega
   have hkl : k < ps.length := by rw [HPL.out]; exact hk
   obtain ⟨g, o, hs1, hg, hc1⟩ := (HIN.out wr G1.out.two).2 k hk
   subst hs1
   rw [show ps.getD k 0 = ps[k] by simp [List.getD_eq_getElem?_getD, hkl]] at hc1
   have hpn := hps _ (List.getElem_mem hkl)
   have hnot : ps[k] ∉ ps.take k := fun h => by
    obtain ⟨j, hj, e⟩ := List.getElem_of_mem h
    rw [List.length_take] at hj
    rw [List.getElem_take] at e
    have := (List.pairwise_iff_getElem.1 hnd) j k (by omega) hkl (by omega)
    exact this e
   have htk : ps.take (k + 1) = ps.take k ++ [ps[k]] := List.take_succ_eq_append_getElem hkl
   generalize ps[k] = p at *
   have hyk : y.toNat = k := by have := HK.out.1; omega
   have hc2 : wr.cell? ⟨g, o + y.toNat, none⟩ = some (.int .i64 (p : Int)) := by rw [hyk]; exact hc1
   have hlp := G1.out.lf.cell p (by rw [G1.out.ln]; exact hpn)
   have hfp := G1.out.lf.frozen p
   have hll := G1.out.lf.lt
   have hval : Lk.getD p 0 = L.getD p 0 := by rw [G1.out.left p hpn, if_neg hnot]
   have hrng := hlow p hpn
   have hp64 : p / 64 < m := by omega
   have LS := G1.out.lf.set p (Lk.getD p 0 - 1)
   have WS : WAt (wr.setCell ⟨lb, p, none⟩ (.int .i64 (Lk.getD p 0 - 1))) c wk := G1.out.mk'.kept (Below.heap_setCell _ _ _ _ (fun e => hne e.symm))
   have TS2 : Two lb c wr (wr.setCell ⟨lb, p, none⟩ (.int .i64 (Lk.getD p 0 - 1))) := Two.of' ((Only.refl lb wr).setCell p _)
   have MK := Lib.hid (mark_any bb lb c n m _ wk p _ LS WS (by rw [List.length_set]; exact G1.out.ln) G1.out.mn hpn hp64 hne (by omega))
   have NX : Hid (∀ W', WAt W' c (if (Lk.set p (Lk.getD p 0 - 1)).getD p 0 < 2 then putM wk p else wk) → Only c (wr.setCell ⟨lb, p, none⟩ (.int .i64 (Lk.getD p 0 - 1))) W' → (∃ (k2 : Nat) (y2 : Int) (L2 : List Int) (w2 : List (BitVec 64)), Value.int .i64 (y + 1) = .int .i64 y2 ∧ Hid (y2 = (k2 : Int) ∧ k2 ≤ pn) ∧ Hid (SK w lb c n m L ws (ps.take k2) L2 w2 W') ∧ Hid (Two lb c wA W'))) := fun W' h1 h2 => by
    have sn := G1.out.next hpn hnot hp64 (LS.kept (h2.block lb LS.lt hne)) h1 (TS2.trans (Two.of h2))
    rw [← htk] at sn
    exact ⟨k + 1, y + 1, _, _, rfl, ⟨by have := HK.out.1; omega, by omega⟩, sn, T1.out.trans (TS2.trans (Two.of h2))⟩
   obtain ⟨x0, x1, x2, x3⟩ := BX.out wr T1.out
   obtain ⟨z0, z1, z2, z3⟩ := BX.out _ (T1.out.trans TS2)
   have hwx : wrap64 (Lk.getD p 0 - 1) = Lk.getD p 0 - 1 := wrap_in _ ⟨by omega, by omega⟩
   have hwy : wrap64 (y + 1) = y + 1 := wrap_in _ ⟨by omega, by omega⟩
   have MES : Hid (((pn : Int) - (y + 1)).toNat < ((pn : Int) - y).toNat) := by show _ < _; omega
   have hpi : (p : Int) < (n : Int) := by omega
   clear hc1 hyk hval hrng hnot htk LS WS TS2 G1 T1 HK hps hnd hlow hkl
   generalize (Lk.set p (Lk.getD p 0 - 1)).getD p 0 = xx at *
   generalize Lk.getD p 0 = x at *
   go_wp2_with fail
   refine MK.out.mono ?_
   rintro e w5 ⟨rfl, h5, o5⟩
   have PF := Lib.hid (NX.out w5 h5 o5)
   clear h5 o5 NX MK x0 x1 x2 x3 z0 z1 z2 z3 hc2 hlp hfp
   go_wp2
   try rw [hwy]
   exact ⟨PF.out, MES.out⟩
  ·have hlt : ¬ y < (pn : Int) := by have := HK.out.1; omega
   have hall : ps.take k = ps := List.take_of_length_le (by have := HPL.out; omega)
   have PF : Hid (SK w lb c n m L ws ps Lk wk wr) := by rw [hall] at G1; exact G1
   clear G1 T1
   go_wp2
   go_end0
   exact ⟨rfl, _, _, PF.out⟩
end Go.Proofs.YtnihhbfgbilimaaGreatDoor
