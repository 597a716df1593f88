import Derived.Test.YtnihhbfgbilimaaGreatDoorZPm
import Derived.Test.YtnihhbfgbilimaaGreatDoorZPz
import Derived.Deep.DeepCutAuto
namespace Go.Proofs.YtnihhbfgbilimaaGreatDoor
open Go.RowKit
set_option linter.unusedVariables false
set_option linter.unusedSimpArgs false
variable {d : Nat} {bt : TypeId} {fh : List Value}
theorem made_eq (n : Nat) (v : Value) (h : v.oneCell' = true) : madeCells #[v] n = (List.replicate n v).toArray := by
 apply Array.toList_inj.1
 rw [toList_madeCells_one]
theorem info104 : (Tryz.prog.info? 87).map (fun i => (i.zero, i.size, i.bytes)) = some (some (.int .u64 0), 1, 8) := by kernel_rfl
theorem make120 (n : Nat) (h : n ≤ 1048576) (w : World) :
  Sem.run Tryz.prog (Instr.makeSlice 238 (.int .i64 (n : Int)) (.int .i64 (n : Int))) w = .ok (.slice (some ⟨w.heap.size, 0, none⟩) n n) (w.alloc (.cells (List.replicate n (Value.int .i64 0)).toArray 3)) := by
 obtain ⟨i, h1, h2, h3, h4⟩ := info_parts info3'
 have := run_make (P := Tryz.prog) w 238 3 i (.int .i64 0) Tryz.underlying238 h1 h2 .i64 .i64 (n : Int) (n : Int) (by omega) (Int.le_refl _) (by rw [h4]; omega) (by omega)
 rw [this, h3, ← made_eq n _ rfl]
 simp [Value.cells]
theorem make122 (n : Nat) (h : n ≤ 1048576) (w : World) :
  Sem.run Tryz.prog (Instr.makeSlice 283 (.int .i64 (n : Int)) (.int .i64 (n : Int))) w = .ok (.slice (some ⟨w.heap.size, 0, none⟩) n n) (w.alloc (.cells (List.replicate n (Value.int .u64 0)).toArray 87)) := by
 obtain ⟨i, h1, h2, h3, h4⟩ := info_parts info104
 have := run_make (P := Tryz.prog) w 283 87 i (.int .u64 0) Tryz.underlying283 h1 h2 .i64 .i64 (n : Int) (n : Int) (by omega) (Int.le_refl _) (by rw [h4]; omega) (by omega)
 rw [this, h3, ← made_eq n _ rfl]
 simp [Value.cells]
def PBx (W : World) (pb bb lb n c m : Nat) : Prop := W.heap[pb]? = some (.cells #[.pointer (some ⟨bb, 0, none⟩), .slice (some ⟨lb, 0, none⟩) n n, .slice (some ⟨c, 0, none⟩) m m] 285)
theorem PBx.facts {W : World} {pb bb lb n c m : Nat} (h : PBx W pb bb lb n c m) : pb < W.heap.size ∧ W.cell? ⟨pb, 0, none⟩ = some (.pointer (some ⟨bb, 0, none⟩)) ∧ W.cell? ⟨pb, 1, none⟩ = some (.slice (some ⟨lb, 0, none⟩) n n) ∧ W.cell? ⟨pb, 2, none⟩ = some (.slice (some ⟨c, 0, none⟩) m m) := box3 h
theorem PBx.kept {W W' : World} {pb bb lb n c m : Nat} (h : PBx W pb bb lb n c m) (e : W'.heap[pb]? = W.heap[pb]?) : PBx W' pb bb lb n c m := e.trans h
theorem lat_zero {W : World} {c n : Nat} (h : W.heap[c]? = some (.cells (List.replicate n (Value.int .i64 0)).toArray 3)) : LAt W c (List.replicate n 0) := by
 unfold LAt; rw [h, List.map_replicate]
theorem wat_zero {W : World} {c n : Nat} (h : W.heap[c]? = some (.cells (List.replicate n (Value.int .u64 0)).toArray 87)) : WAt W c (List.replicate n 0#64) := by
 unfold WAt; rw [h, List.map_replicate]; rfl
structure PNew (w : World) (bb n m : Nat) (pb lb c : Nat) (W : World) : Prop where
 box : PBx W pb bb lb n c m
 lf : LAt W lb (List.replicate n 0)
 wf : WAt W c (List.replicate m 0#64)
 hp : w.heap.size < pb
 hl : w.heap.size < lb
 hc : w.heap.size < c
 n1 : pb ≠ lb
 n2 : pb ≠ c
 n3 : lb ≠ c
 bel : Below w.heap.size w W
 res : W.heap[w.heap.size]? = some (.cells #[.pointer none, .slice none 0 0, .slice none 0 0] 285)
theorem three_at (w : World) (o1 o2 o3 : Obj) : (((w.alloc o1).alloc o2).alloc o3).drew.heap[w.heap.size]? = some o1 ∧ (((w.alloc o1).alloc o2).alloc o3).drew.heap[w.heap.size + 1]? = some o2 ∧ (((w.alloc o1).alloc o2).alloc o3).drew.heap[w.heap.size + 1 + 1]? = some o3 ∧ Below w.heap.size w (((w.alloc o1).alloc o2).alloc o3).drew := by
 have h1 : (w.alloc o1).heap.size = w.heap.size + 1 := by simp
 have h2 : ((w.alloc o1).alloc o2).heap.size = w.heap.size + 1 + 1 := by simp
 have n1 := new_at w o1
 have n2 := new_at (w.alloc o1) o2
 have n3 := new_at ((w.alloc o1).alloc o2) o3
 rw [h1] at n2
 rw [h2] at n3
 have b2 := bA0 (w.alloc o1) o2
 have b3 := bA0 ((w.alloc o1).alloc o2) o3
 refine ⟨(b3.block _ (by omega)).trans ((b2.block _ (by omega)).trans n1), (b3.block _ (by omega)).trans n2, n3, (bA (bA (bA0 w o1) o2) o3).drew⟩
theorem pnew3 {w w1 W : World} {bb n m pb lb c : Nat} (hB : Below w.heap.size w w1) (hN : w1.heap[w.heap.size]? = some (.cells #[.pointer none, .slice none 0 0, .slice none 0 0] 285)) (hZ : w1.heap.size = w.heap.size + 1) (hW : Below w1.heap.size w1 W)
  (h1 : W.heap[pb]? = some (.cells #[.pointer (some ⟨bb, 0, none⟩), .slice (some ⟨lb, 0, none⟩) n n, .slice (some ⟨c, 0, none⟩) m m] 285)) (h2 : W.heap[lb]? = some (.cells (Array.replicate n (Value.int .i64 0)) 3)) (h3 : W.heap[c]? = some (.cells (Array.replicate m (Value.int .u64 0)) 87))
  (d : w1.heap.size ≤ pb ∧ w1.heap.size ≤ lb ∧ w1.heap.size ≤ c ∧ pb ≠ lb ∧ pb ≠ c ∧ lb ≠ c) : PNew w bb n m pb lb c W :=
 ⟨h1, lat_zero (by rw [h2, List.toArray_replicate]), wat_zero (by rw [h3, List.toArray_replicate]), by omega, by omega, by omega, d.2.2.2.1, d.2.2.2.2.1, d.2.2.2.2.2, bT hB hW, (hW.block _ (by omega)).trans hN⟩
def KeepB (b : Nat) (w W : World) : Prop := w.heap.size ≤ W.heap.size ∧ ∀ k, k < w.heap.size → k ≠ b → W.heap[k]? = w.heap[k]?
theorem KeepB.refl (b : Nat) (w : World) : KeepB b w w := ⟨Nat.le_refl _, fun _ _ _ => rfl⟩
theorem KeepB.of {b : Nat} {w W : World} (h : Below w.heap.size w W) : KeepB b w W := ⟨h.size, fun k hk _ => h.block k hk⟩
theorem KeepB.two {b lb c : Nat} {w W V : World} (h : KeepB b w W) (h1 : w.heap.size ≤ lb) (h2 : w.heap.size ≤ c) (g : Two lb c W V) : KeepB b w V :=
 ⟨Nat.le_trans h.1 g.size, fun k hk hb => (g.block k (Nat.lt_of_lt_of_le hk h.1) (by omega) (by omega)).trans (h.2 k hk hb)⟩
theorem Bk.keep {B bb : Nat} {vc : Value} {hs : List Value} {ms : List LCl} {rows : Nat → List Nat} {w W : World} (h : Bk B bb vc hs ms rows w) {b : Nat} {us : Array Value} {t : TypeId} (hx : w.heap[b]? = some (.cells us t)) (ht : t ≠ 241 ∧ t ≠ 289 ∧ t ≠ 3) (hk : KeepB b w W) : Bk B bb vc hs ms rows W :=
 h.kept (fun k us t' h1 _ e => (hk.2 k (Array.getElem?_eq_some_iff.1 e).1 (fun e' => by
  rw [e', hx] at e
  cases e
  rcases h1 with h1 | h1 | h1
  ·exact ht.1 h1
  ·exact ht.2.1 h1
  ·exact ht.2.2 h1)).trans e)
theorem Bk.rowAt {B bb : Nat} {vc : Value} {hs : List Value} {ms : List LCl} {rows : Nat → List Nat} {W : World} (h : Bk B bb vc hs ms rows W) {i : Nat} (hi : i < 193) {s : Option Addr} {sk : Nat} (e : hs.getD i nilV = .slice s (rows i).length sk) :
  W.cell? ⟨bb, 1 + i, none⟩ = some (.slice s (rows i).length sk) ∧ ∀ k, k < (rows i).length → ∃ g o, s = some ⟨g, o, none⟩ ∧ g < W.heap.size ∧ W.cell? ⟨g, o + k, none⟩ = some (.int .i64 (((rows i).getD k 0 : Nat) : Int)) := by
 refine ⟨by rw [← e]; exact h.at hi, fun k hk => ?_⟩
 have hr := h.row i hi
 rw [e] at hr
 rcases hr.2 with ⟨_, h0⟩ | ⟨g, cp, cur, hv, hb, hg, h5, h6, h7, h8⟩
 ·omega
 ·cases hv
  refine ⟨g, 0, rfl, (Array.getElem?_eq_some_iff.1 hg).1, ?_⟩
  have hc : W.cell? ⟨g, 0 + k, none⟩ = (valsN (rows i))[k]? := by
   rw [← h8, List.getElem?_take_of_lt (by omega)]
   simp [World.cell?, hg]
  rw [hc]
  simp [valsN, hk]
theorem strike_book {b B bb lb c n m : Nat} {vc : Value} {hs : List Value} {ms : List LCl} {w0 W : World} {L : List Int} {ws : List (BitVec 64)} (z : Int) (hz1 : -96 ≤ z) (hz2 : z ≤ 96) (HB : ∀ V, KeepB b w0 V → Bk B bb vc hs ms (occI (bareC ms)) V) (hk : KeepB b w0 W) (hL : LAt W lb L) (hW : WAt W c ws) (hn : L.length = n) (hm : ws.length = m) (hms : ms.length = n) (hn9 : n ≤ 90000) (hne : lb ≠ c) (h1 : w0.heap.size ≤ lb) (h2 : w0.heap.size ≤ c) (hnm : n ≤ 64 * m) (hlow : ∀ q, q < n → -1000000 ≤ L.getD q 0 ∧ L.getD q 0 ≤ 1000000) :
  Calls Tryz.prog 242 #[PVl bb lb n c m, .int .i64 z] W fun e w' => e = .returned (.tuple #[]) ∧ ∃ Lk wk, (LAt w' lb Lk ∧ WAt w' c wk ∧ Lk.length = n ∧ wk.length = m) ∧ (∀ q, q < n → Lk.getD q 0 = if z ∈ (bareC ms).getD q [] then L.getD q 0 - 1 else L.getD q 0) ∧ (∀ q, bitM wk q = if (q < n ∧ z ∈ (bareC ms).getD q []) ∧ L.getD q 0 - 1 < 2 then true else bitM ws q) ∧ Two lb c W w' := by
 obtain ⟨i, hi⟩ : ∃ i : Nat, z + 96 = (i : Int) := ⟨(z + 96).toNat, by omega⟩
 have hi3 : i < 193 := by omega
 have e96 : occI (bareC ms) i = occ (bareC ms) z := by unfold occI; rw [show (i : Int) - 96 = z by omega]
 have hB := HB W hk
 have hmem : ∀ q, q ∈ occ (bareC ms) z ↔ q < n ∧ z ∈ (bareC ms).getD q [] := fun q => by rw [occ_mem, bareC_length, hms]
 obtain ⟨s, sk, e⟩ := own_v (hB.row i hi3)
 have R := fun V (h : KeepB b w0 V) => (HB V h).rowAt hi3 e
 simp only [e96] at R
 have := strike_any bb lb c n m L ws z i s sk (occ (bareC ms) z) W hi hi3 hL hW hn hm hne hB.lt hnm (by omega) (R W hk).1 (fun p hp => ((hmem p).1 hp).1) (occ_nodup _ _) (by have := occ_le (bareC ms) z; rw [bareC_length] at this; omega) (fun V hV => R V (hk.two h1 h2 hV)) hlow
 refine this.mono ?_
 rintro e w' ⟨rfl, Lk, wk, sk⟩
 refine ⟨rfl, Lk, wk, ⟨sk.lf, sk.mk', sk.ln, sk.mn⟩, fun q hq => ?_, fun q => ?_, sk.two⟩
 ·rw [sk.left q hq]
  have : q ∈ occ (bareC ms) z ↔ z ∈ (bareC ms).getD q [] := by rw [hmem]; exact ⟨fun h => h.2, fun h => ⟨hq, h⟩⟩
  simp only [this]
 ·rw [sk.mark q]
  simp only [hmem]
end Go.Proofs.YtnihhbfgbilimaaGreatDoor
