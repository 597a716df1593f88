/-
  LISTS OF TEXTS: how they lie, held against each other; rows of texts of the call's own; marks.
-/
import Derived.Test.YtebmhpgaahhlpaaGreatDoorProg
import Derived.WalkKit
import Derived.WalkSpells
import Derived.WalkLawsBesides
import Derived.Laws.EntriesVeiled
import Derived.Deep.QuietTactic
import Derived.BigQuiet
import Derived.Lib.Hide
import Derived.Deep.RegionHeld3
import Derived.Lib.AppendStr
import Derived.Laws.CopyRow
import Derived.Laws.IdiomStrings
import Derived.OwnWalk
import Derived.Deep.AppendLies
namespace Go.Proofs.YtebmhpgaahhlpaaGreatDoor
open Go.RowKit
set_option linter.unusedVariables false
set_option linter.unusedSimpArgs false

theorem bT {W w w1 : World} (h : Below W.heap.size W w) (hb : Below w.heap.size w w1) : Below W.heap.size W w1 := h.trans (hb.mono h.size)
theorem bA {W w : World} (h : Below W.heap.size W w) (o : Obj) : Below W.heap.size W (w.alloc o) := h.alloc h.size o
theorem bA0 (W : World) (o : Obj) : Below W.heap.size W (W.alloc o) := (Below.refl _ _).alloc (Nat.le_refl _) o
theorem bcell {W w1 : World} (hb : Below W.heap.size W w1) : (∀ b o, b < W.heap.size → w1.cell? ⟨b, o, none⟩ = W.cell? ⟨b, o, none⟩) ∧ (∀ b o, b < W.heap.size → w1.frozen? ⟨b, o, none⟩ = W.frozen? ⟨b, o, none⟩) :=
  ⟨fun _ _ h => hb.cell h, fun _ _ h => hb.frozen h⟩
/-- The i-th text. -/
def at0 (ss : List ByteArray) (i : Nat) : ByteArray := ss.getD i ⟨#[]⟩
theorem at0_lt (ss : List ByteArray) (i : Nat) (h : i < ss.length) : at0 ss i = ss[i] := by simp [at0, h]
theorem at0_mem (ss : List ByteArray) (i : Nat) (h : i < ss.length) : at0 ss i ∈ ss := by rw [at0_lt _ _ h]; exact List.getElem_mem h
/-- The texts ss lie from cell o of block c on. -/
def StrsAt (w : World) (c o : Nat) (ss : List ByteArray) : Prop :=
  c < w.heap.size ∧ ∀ i, i < ss.length → w.cell? ⟨c, o + i, none⟩ = some (.string (at0 ss i))
/-- A slice of the texts ss. -/
def Strs (w : World) (sl : Option Addr) (ss : List ByteArray) : Prop := ss = [] ∨ ∃ c o, sl = some ⟨c, o, none⟩ ∧ StrsAt w c o ss
theorem StrsAt.below {w w' : World} {c o : Nat} {ss : List ByteArray} (h : StrsAt w c o ss) (hb : Below w.heap.size w w') : StrsAt w' c o ss :=
  ⟨Nat.lt_of_lt_of_le h.1 hb.size, fun i hi => (hb.cell h.1).trans (h.2 i hi)⟩
theorem Strs.below {w w' : World} {sl : Option Addr} {ss : List ByteArray} (h : Strs w sl ss) (hb : Below w.heap.size w w') : Strs w' sl ss := by
  rcases h with h | ⟨c, o, e, h⟩
  · exact .inl h
  · exact .inr ⟨c, o, e, h.below hb⟩
/-- The first k of ss written, the rest empty. -/
def vsOf (ss : List ByteArray) (k : Nat) : Array Value := ((ss.take k).map Value.string ++ List.replicate (ss.length - k) (Value.string ⟨#[]⟩)).toArray
def RowAt (w : World) (b : Nat) (vs : Array Value) : Prop := w.heap[b]? = some (.cells vs 9)
theorem RowAt.cell {w : World} {b : Nat} {vs : Array Value} (h : RowAt w b vs) (i : Nat) : w.cell? ⟨b, i, none⟩ = vs[i]? := by
  unfold RowAt at h; simp [World.cell?, h]
theorem RowAt.frozen {w : World} {b : Nat} {vs : Array Value} (h : RowAt w b vs) (i : Nat) : w.frozen? ⟨b, i, none⟩ = false := by
  unfold RowAt at h; simp [World.frozen?, h]
theorem RowAt.lt {w : World} {b : Nat} {vs : Array Value} (h : RowAt w b vs) : b < w.heap.size := (Array.getElem?_eq_some_iff.1 h).1
set_option maxHeartbeats 400000 in
theorem eq_nil (sl sl2 : Option Addr) (cap cap2 : Nat) (w : World) :
    Calls Tryz.prog 6 #[.slice sl 0 cap, .slice sl2 0 cap2] w fun e w' => e = .returned (.bool true) ∧ Below w.heap.size w w' := by
  go_enter Tryz.func6, Tryz.ntmps6
  go_wp2
  refine wp_loop_rounds 1 ?_
  rw [rounds_succ]
  go_wp2
  go_ret
  exact ⟨rfl, Below.refl _ _⟩
set_option maxHeartbeats 1000000 in
theorem eq_some (c o cap c2 o2 cap2 : Nat) (zs : List ByteArray) (w : World) (hn : zs.length ≤ maxLen) (hz : StrsAt w c o zs) (hz2 : StrsAt w c2 o2 zs) :
    Calls Tryz.prog 6 #[.slice (some ⟨c, o, none⟩) zs.length cap, .slice (some ⟨c2, o2, none⟩) zs.length cap2] w fun e w' => e = .returned (.bool true) ∧ Below w.heap.size w w' := by
  unfold maxLen at hn
  have HZ : Hid (StrsAt w c o zs ∧ StrsAt w c2 o2 zs) := ⟨hz, hz2⟩
  clear hz hz2
  generalize hN : zs.length = n at *
  have HN : Hid (zs.length = n) := hN
  clear hN
  go_enter Tryz.func6, Tryz.ntmps6
  go_wp2
  go_loopw [5] (fun i wr => ∃ (k : Nat), i = .int .i64 k ∧ k ≤ n ∧ Hid (Below w.heap.size w wr)) (fun i _ => n - (intOf i).toNat)
  case atStart => exact ⟨0, rfl, Nat.zero_le _, Below.refl _ _⟩
  case round =>
    obtain ⟨k, rfl, hk, H3⟩ := hrel
    have hk0 : (0 : Int) ≤ (k : Int) := by omega
    by_cases h1 : k < n
    · have h1' : (k : Int) < (n : Int) := by omega
      have hlt : k < zs.length := by rw [HN.out]; exact h1
      have hc : wr.cell? ⟨c, o + k, none⟩ = some (.string (at0 zs k)) := by
        rw [H3.out.cell HZ.out.1.1]; exact HZ.out.1.2 k hlt
      have hd : wr.cell? ⟨c2, o2 + k, none⟩ = some (.string (at0 zs k)) := by
        rw [H3.out.cell HZ.out.2.1]; exact HZ.out.2.2 k hlt
      clear hlt
      generalize at0 zs k = z at *
      go_wp2
      go_quiet (fail)
      go_wp2
      go_roundw
      case rel => exact ⟨k + 1, by go_num, by omega, below_drewN H3.out _⟩
      case measure => simp [intOf]; omega
    · have h1' : ¬ (k : Int) < (n : Int) := by omega
      go_wp2
      go_ret
      exact ⟨rfl, H3.out⟩
theorem eq_any (sl sl2 : Option Addr) (cap cap2 : Nat) (zs : List ByteArray) (w : World) (hn : zs.length ≤ maxLen) (hz : Strs w sl zs) (hz2 : Strs w sl2 zs) :
    Calls Tryz.prog 6 #[.slice sl zs.length cap, .slice sl2 zs.length cap2] w fun e w' => e = .returned (.bool true) ∧ Below w.heap.size w w' := by
  rcases hz with rfl | ⟨c, o, rfl, h⟩
  · exact eq_nil sl sl2 cap cap2 w
  · rcases hz2 with rfl | ⟨c2, o2, rfl, h2⟩
    · exact eq_nil _ sl2 cap cap2 w
    · exact eq_some c o cap c2 o2 cap2 zs w hn h h2
theorem RowAt.below {w w' : World} {b : Nat} {vs : Array Value} (h : RowAt w b vs) (hb : Below w.heap.size w w') : RowAt w' b vs := (hb.block b h.lt).trans h
/-- The bytes l alone in a block. -/
def BAt (w : World) (g : Nat) (vs : List Value) : Prop := w.heap[g]? = some (.cells vs.toArray 5)
theorem BAt.lt {w : World} {g : Nat} {vs : List Value} (h : BAt w g vs) : g < w.heap.size := (Array.getElem?_eq_some_iff.1 h).1
theorem BAt.below {w w' : World} {g : Nat} {vs : List Value} (h : BAt w g vs) (hb : Below w.heap.size w w') : BAt w' g vs := (hb.block g h.lt).trans h
theorem BAt.text {w : World} {g cap : Nat} {l : List UInt8} (h : BAt w g (Lib.byteCells l)) : Sem.run Tryz.prog (convert 68 9 (.slice (some ⟨g, 0, none⟩) l.length cap)) w = .ok (.string ⟨l.toArray⟩) w := by
  refine run_convert_bytes_back (P := Tryz.prog) w 68 9 5 ⟨g, 0, none⟩ cap l Tryz.underlying68 Tryz.underlying5 Tryz.underlying9 (fun j hj => ?_)
  have ha : (⟨g, 0, none⟩ : Addr).add j = ⟨g, j, none⟩ := by
    unfold Addr.add
    by_cases h : j = 0 <;> simp [h]
  unfold BAt at h
  rw [ha]
  simp only [World.cell?, h]
  simp [Lib.byteCells, hj]
def OwnS (w : World) (B : Nat) (v : Value) (ss : List ByteArray) : Prop := w.ownsRow B 9 1 v ss.length (ss.map Value.string)
theorem OwnS.below {w w' : World} {B : Nat} {v : Value} {ss : List ByteArray} (h : OwnS w B v ss) (hb : Below w.heap.size w w') : OwnS w' B v ss := by
  refine ⟨h.1, ?_⟩
  rcases h.2 with h | ⟨g, cap, cur, hv, hg, hh, r⟩
  · exact .inl h
  · exact .inr ⟨g, cap, cur, hv, hg, (hb.block g (Array.getElem?_eq_some_iff.1 hh).1).trans hh, r⟩
theorem OwnS.mono {w : World} {B B' : Nat} {v : Value} {ss : List ByteArray} (h : OwnS w B v ss) (hB : B' ≤ B) : OwnS w B' v ss := by
  refine ⟨h.1, ?_⟩
  rcases h.2 with h | ⟨g, cap, cur, hv, hg, r⟩
  · exact .inl h
  · exact .inr ⟨g, cap, cur, hv, Nat.le_trans hB hg, r⟩
theorem OwnS.nil (w : World) (B : Nat) : OwnS w B (.slice none 0 0) [] := World.ownsRow_nil w B 9 1
theorem OwnS.strs {w : World} {B : Nat} {v : Value} {ss : List ByteArray} (h : OwnS w B v ss) : ∃ sl cap, v = .slice sl ss.length cap ∧ Strs w sl ss := by
  rcases h.2 with ⟨rfl, h0⟩ | ⟨g, cap, cur, rfl, hg, hh, hr⟩
  · obtain rfl : ss = [] := List.eq_nil_of_length_eq_zero h0
    exact ⟨none, 0, rfl, .inl rfl⟩
  · refine ⟨_, cap, rfl, .inr ⟨g, 0, rfl, (Array.getElem?_eq_some_iff.1 hh).1, fun i hi => ?_⟩⟩
    have := World.ownsRow.cellAt h i (by omega)
    rw [Nat.zero_add, this]
    simp [at0, hi]
theorem OwnS.row {w : World} {B b : Nat} {ss : List ByteArray} (h : RowAt w b (vsOf ss ss.length)) (hb : B ≤ b) (hn : ss.length ≤ maxLen) : OwnS w B (.slice (some ⟨b, 0, none⟩) ss.length ss.length) ss := by
  have e : vsOf ss ss.length = (ss.map Value.string).toArray := by simp [vsOf]
  unfold RowAt at h
  rw [e] at h
  exact ⟨by simp, .inr ⟨b, _, _, rfl, hb, h, Nat.le_refl _, hn, by simp, List.take_of_length_le (by simp)⟩⟩
theorem OwnS.grown {w w' : World} {B : Nat} {v : Value} {ss : List ByteArray} {row : Option Nat} (h : OwnS w B v ss) (hg : w.grownBy w' row) (hne : ∀ k, row = some k → v.ownBlock ≠ some k) : OwnS w' B v ss :=
  World.ownsRow.kept h hg (by
    cases row with
    | none => cases e : v.ownBlock <;> simp
    | some k => exact .inr (hne k rfl))
theorem grown_trans {w w1 w2 : World} {row : Option Nat} (h : w.grownBy w1 row) (h2 : w1.grownBy w2 row) : w.grownBy w2 row :=
  ⟨h2.os.trans h.os, h2.tape.trans h.tape, h2.output.trans h.output, Nat.le_trans h.size h2.size, fun k hk hne => (h2.block k (Nat.lt_of_lt_of_le hk h.size) hne).trans (h.block k hk hne)⟩
theorem grown_below {w w1 : World} (row : Option Nat) (h : Below w.heap.size w w1) : w.grownBy w1 row := ⟨h.os, h.tape, h.output, h.size, fun k hk _ => h.block k hk⟩
/-- The digits of k ahead of out. -/
def dg (k : Nat) (out : ByteArray) : ByteArray := if h : k = 0 then out else dg (k / 10) (⟨#[(48 + k % 10).toUInt8]⟩ ++ out)
termination_by k
decreasing_by omega
theorem dg_zero (out : ByteArray) : dg 0 out = out := by rw [dg]; simp
theorem dg_step (k : Nat) (h : k ≠ 0) (out : ByteArray) : dg k out = dg (k / 10) (⟨#[(48 + k % 10).toUInt8]⟩ ++ out) := by rw [dg]; simp [h]
def mkT (k : Nat) : ByteArray := ⟨#[109]⟩ ++ dg k ⟨#[]⟩
set_option maxRecDepth 100000 in
set_option maxHeartbeats 1000000 in
theorem markT_any (k0 : Nat) (h0 : 0 < k0) (h1 : k0 ≤ 4000000) (w : World) :
    Calls Tryz.prog 16 #[.int .i64 k0] w fun e w' => e = .returned (.string (mkT k0)) ∧ Below w.heap.size w w' := by
  have h0' : ¬ (k0 : Int) ≤ 0 := by omega
  go_enter Tryz.func16, Tryz.ntmps16
  go_wp2
  go_loopw [0, 3] (fun i s wr => ∃ (k : Nat) (out : ByteArray), i = .int .i64 k ∧ s = .string out ∧ Hid (dg k out = dg k0 ⟨#[]⟩) ∧ out.size + k ≤ 4000000 ∧ Hid (Below w.heap.size w wr)) (fun i _ _ => (intOf i).toNat)
  case atStart => exact ⟨k0, ⟨#[]⟩, rfl, rfl, rfl, by show 0 + k0 ≤ _; omega, Below.refl _ _⟩
  case round =>
    obtain ⟨k, out, rfl, rfl, H1, hsz, H2⟩ := hrel
    by_cases hk : k = 0
    · subst hk
      have E : Hid (mkT k0 = ⟨#[109]⟩ ++ out) := by show _ = _; unfold mkT; rw [← H1.out, dg_zero]
      have hcat : ¬ 1 + out.size > 9223372036854775807 := by omega
      go_wp2
      go_ret
      exact ⟨by rw [E.out]; rfl, H2.out⟩
    · have hk' : (0 : Int) < (k : Int) := by omega
      have E : Hid (dg (k / 10) (⟨#[(48 + k % 10).toUInt8]⟩ ++ out) = dg k0 ⟨#[]⟩) := by show _ = _; rw [← H1.out, ← dg_step k hk]
      have hcv : Sem.run Tryz.prog (convert 68 9 (.slice (some ⟨wr.heap.size, 0, none⟩) 1 1)) (wr.alloc (.cells #[.int .u8 (48 + (k : Int) % 10)] 5)) = .ok (.string ⟨#[(48 + k % 10).toUInt8]⟩) (wr.alloc (.cells #[.int .u8 (48 + (k : Int) % 10)] 5)) := by
        have hb : BAt (wr.alloc (.cells #[.int .u8 (48 + (k : Int) % 10)] 5)) wr.heap.size (Lib.byteCells [(48 + k % 10).toUInt8]) := by
          show (wr.heap.push _)[wr.heap.size]? = _
          have e : ((48 + k % 10).toUInt8.toNat : Int) = 48 + (k : Int) % 10 := by
            have : (48 + k % 10).toUInt8.toNat = 48 + k % 10 := by simp; omega
            rw [this]; omega
          simp only [Lib.byteCells, List.map_cons, List.map_nil, e]
          simp
        exact hb.text (cap := 1)
      have hcat : ¬ 1 + out.size > 9223372036854775807 := by omega
      have hS : Hid (((⟨#[(48 + k % 10).toUInt8]⟩ : ByteArray) ++ out).size + k / 10 ≤ 4000000) := by show _ ≤ _; rw [ByteArray.size_append]; show 1 + _ + _ ≤ _; omega
      have hS1 : Hid ((⟨#[(48 + k % 10).toUInt8]⟩ : ByteArray).size = 1) := rfl
      have hq : Hid ((k : Int) / 10 = ((k / 10 : Nat) : Int)) := by show _ = _; omega
      generalize (⟨#[(48 + k % 10).toUInt8]⟩ : ByteArray) = D at *
      have hcat2 : ¬ D.size + out.size > 9223372036854775807 := by have := hS1.out; omega
      go_wp2
      go_roundw
      case rel => exact ⟨k / 10, D ++ out, by rw [hq.out], rfl, E, hS.out, bA H2.out _⟩
      case measure => simp [intOf]; omega
def marks (n : Nat) : List ByteArray := (List.range n).map fun i => mkT (1 + i)
theorem marks_len (n : Nat) : (marks n).length = n := by simp [marks]
/-- The first k marked. -/
def mst (ss : List ByteArray) (k : Nat) : List ByteArray := (marks ss.length).take k ++ ss.drop k
theorem mst_len (ss : List ByteArray) (k : Nat) (h : k ≤ ss.length) : (mst ss k).length = ss.length := by simp [mst, marks_len]; omega
theorem mst_zero (ss : List ByteArray) : mst ss 0 = ss := by simp [mst]
theorem mst_all (ss : List ByteArray) (k : Nat) (h : ss.length ≤ k) : mst ss k = marks ss.length := by
  rw [mst, List.take_of_length_le (by rw [marks_len]; exact h), List.drop_of_length_le h, List.append_nil]
theorem mst_step (ss : List ByteArray) (k : Nat) (h : k < ss.length) : (mst ss k).set k (mkT (1 + k)) = mst ss (k + 1) := by
  apply List.ext_getElem
  · rw [List.length_set, mst_len ss k (by omega), mst_len ss (k + 1) (by omega)]
  · intro i h1 h2
    rw [List.length_set, mst_len ss k (by omega)] at h1
    rw [List.getElem_set]
    simp only [mst]
    have hm := marks_len ss.length
    by_cases e : k = i
    · subst e
      rw [if_pos rfl, List.getElem_append_left (by simp [hm]; omega)]
      simp [marks]
    · rw [if_neg e]
      by_cases hlt : i < k
      · rw [List.getElem_append_left (by simp [hm]; omega), List.getElem_append_left (by simp [hm]; omega)]
        simp
      · rw [List.getElem_append_right (by simp [hm]; omega), List.getElem_append_right (by simp [hm]; omega)]
        simp only [List.length_take, hm, List.getElem_drop]
        congr 1
        omega
theorem OwnS.stored {w : World} {B g cap : Nat} {ss : List ByteArray} (h : OwnS w B (.slice (some ⟨g, 0, none⟩) ss.length cap) ss) (k : Nat) (x : ByteArray) : OwnS (w.setCell ⟨g, k, none⟩ (.string x)) B (.slice (some ⟨g, 0, none⟩) ss.length cap) (ss.set k x) ∧ w.grownBy (w.setCell ⟨g, k, none⟩ (.string x)) (some g) := by
  have := World.ownsRow.stored h k (.string x)
  refine ⟨?_, this.2⟩
  unfold OwnS
  rw [List.length_set, List.map_set]
  exact this.1
set_option maxHeartbeats 400000 in
theorem markS_nil (sl : Option Addr) (cap : Nat) (w : World) :
    Calls Tryz.prog 7 #[.slice sl 0 cap, .int .i64 1] w fun e w' => e = .returned (.int .i64 1) ∧ w' = w := by
  go_enter Tryz.func7, Tryz.ntmps7
  go_wp2
  refine wp_loop_rounds 1 ?_
  rw [rounds_succ]
  go_wp2
  go_ret
  exact ⟨rfl, rfl⟩
set_option maxHeartbeats 400000 in
theorem heldS_nil (sl : Option Addr) (cap : Nat) (w : World) :
    Calls Tryz.prog 8 #[.slice sl 0 cap, .int .i64 1] w fun e w' => e = .returned (.int .i64 1) ∧ w' = w := by
  go_enter Tryz.func8, Tryz.ntmps8
  go_wp2
  refine wp_loop_rounds 1 ?_
  rw [rounds_succ]
  go_wp2
  go_ret
  exact ⟨rfl, rfl⟩
set_option maxHeartbeats 1000000 in
theorem markS_some (B g cap : Nat) (ss : List ByteArray) (w : World) (hn : ss.length ≤ 1048577) (h : OwnS w B (.slice (some ⟨g, 0, none⟩) ss.length cap) ss) :
    Calls Tryz.prog 7 #[.slice (some ⟨g, 0, none⟩) ss.length cap, .int .i64 1] w fun e w' => e = .returned (.int .i64 (1 + (ss.length : Int))) ∧ OwnS w' B (.slice (some ⟨g, 0, none⟩) ss.length cap) (marks ss.length) ∧ w.grownBy w' (some g) := by
  have HM : Hid (OwnS w B (.slice (some ⟨g, 0, none⟩) ss.length cap) ss) := h
  have hB := (World.ownsRow.lt h g rfl).1
  clear h
  generalize hN : ss.length = n at *
  have HN : Hid (ss.length = n) := hN
  clear hN
  go_enter Tryz.func7, Tryz.ntmps7
  go_wp2
  go_loopw [1, 5] (fun m i wr => ∃ k : Nat, i = .int .i64 k ∧ m = .int .i64 (1 + (k : Int)) ∧ k ≤ n ∧ Hid (OwnS wr B (.slice (some ⟨g, 0, none⟩) n cap) (mst ss k)) ∧ Hid (w.grownBy wr (some g))) (fun _ i _ => n - (intOf i).toNat)
  case atStart => exact ⟨0, rfl, rfl, Nat.zero_le _, (by show OwnS _ _ _ _; rw [mst_zero]; exact HM.out), World.grownBy.refl _ _⟩
  case round =>
    obtain ⟨k, rfl, rfl, hk, H1, H2⟩ := hrel
    have hk0 : (0 : Int) ≤ (k : Int) := by omega
    by_cases h1 : k < n
    · have h1' : (k : Int) < (n : Int) := by omega
      have hlt : k < ss.length := by rw [HN.out]; exact h1
      have ML := mst_len ss k (by omega)
      have MT : Hid (∀ w1, Calls Tryz.prog 16 #[.int .i64 (1 + (k : Int))] w1 fun e w' => e = .returned (.string (mkT (1 + k))) ∧ Below w1.heap.size w1 w') := fun w1 => by
        have := markT_any (1 + k) (by omega) (by omega) w1
        rwa [show ((1 + k : Nat) : Int) = 1 + (k : Int) by omega] at this
      have MS := Lib.hid (mst_step ss k hlt)
      have O1 : Hid (OwnS wr B (.slice (some ⟨g, 0, none⟩) (mst ss k).length cap) (mst ss k)) := by show OwnS _ _ _ _; rw [ML, HN.out]; exact H1.out
      have NL : Hid ((mst ss k).length = n) := ML.trans HN.out
      clear hlt ML H1
      go_wp2_with fail
      refine (MT.out _).mono ?_
      rintro e w5 ⟨rfl, b5⟩
      have O5 := Lib.hid (O1.out.below b5)
      have G5 := Lib.hid (grown_trans H2.out (grown_below (some g) b5))
      have hcl := (World.ownsRow.cellAt O5.out k (by rw [NL.out]; omega))
      have hf := (World.ownsRow.frozenAt O5.out k)
      rw [List.getElem?_map, List.getElem?_eq_getElem (by rw [NL.out]; omega)] at hcl
      simp only [Option.map_some] at hcl
      obtain ⟨zz, hzz⟩ : ∃ zz, zz = (mst ss k)[k]'(by rw [NL.out]; omega) := ⟨_, rfl⟩
      rw [← hzz] at hcl
      clear hzz b5 O1 H2 MT
      have S5 := O5.out.stored k (mkT (1 + k))
      rw [MS.out, NL.out] at S5
      have O6 := Lib.hid S5.1
      have G6 := Lib.hid (grown_trans G5.out S5.2)
      clear S5 O5 G5
      generalize mkT (1 + k) = x at *
      go_wp2
      go_roundw
      case rel => exact ⟨k + 1, by go_num, by go_num, by omega, O6, G6⟩
      case measure => simp [intOf]; omega
    · have h1' : ¬ (k : Int) < (n : Int) := by omega
      have hkn : k = n := by omega
      have H4 : Hid (OwnS wr B (.slice (some ⟨g, 0, none⟩) n cap) (marks n) ∧ (1 + (k : Int)) = 1 + (n : Int)) := by
        refine ⟨?_, by omega⟩
        have h3 := H1.out
        rw [mst_all ss k (by rw [HN.out]; omega), HN.out] at h3
        exact h3
      clear hkn H1
      go_wp2
      go_ret
      exact ⟨by rw [← H4.out.2]; rfl, H4.out.1, H2.out⟩
set_option maxHeartbeats 1000000 in
theorem heldS_some (B g cap n : Nat) (w : World) (hn : n ≤ 1048577) (h : OwnS w B (.slice (some ⟨g, 0, none⟩) n cap) (marks n)) :
    Calls Tryz.prog 8 #[.slice (some ⟨g, 0, none⟩) n cap, .int .i64 1] w fun e w' => e = .returned (.int .i64 (1 + (n : Int))) ∧ Below w.heap.size w w' := by
  have HM : Hid (OwnS w B (.slice (some ⟨g, 0, none⟩) (marks n).length cap) (marks n)) := by show OwnS _ _ _ _; rw [marks_len]; exact h
  have hg := (World.ownsRow.lt h g rfl).2
  clear h
  go_enter Tryz.func8, Tryz.ntmps8
  go_wp2
  go_loopw [1, 5] (fun m i wr => ∃ k : Nat, i = .int .i64 k ∧ m = .int .i64 (1 + (k : Int)) ∧ k ≤ n ∧ Hid (Below w.heap.size w wr)) (fun _ i _ => n - (intOf i).toNat)
  case atStart => exact ⟨0, rfl, rfl, Nat.zero_le _, Below.refl _ _⟩
  case round =>
    obtain ⟨k, rfl, rfl, hk, H2⟩ := hrel
    have hk0 : (0 : Int) ≤ (k : Int) := by omega
    by_cases h1 : k < n
    · have h1' : (k : Int) < (n : Int) := by omega
      have MT : Hid (∀ w1, Calls Tryz.prog 16 #[.int .i64 (1 + (k : Int))] w1 fun e w' => e = .returned (.string (mkT (1 + k))) ∧ Below w1.heap.size w1 w') := fun w1 => by
        have := markT_any (1 + k) (by omega) (by omega) w1
        rwa [show ((1 + k : Nat) : Int) = 1 + (k : Int) by omega] at this
      have hc0 : w.cell? ⟨g, k, none⟩ = some (.string (mkT (1 + k))) := by
        have := World.ownsRow.cellAt HM.out k (by rw [marks_len]; omega)
        rw [this]
        simp [marks, h1]
      have hc : wr.cell? ⟨g, k, none⟩ = some (.string (mkT (1 + k))) := by rw [H2.out.cell hg]; exact hc0
      have hgr := Nat.lt_of_lt_of_le hg H2.out.size
      clear hc0
      generalize mkT (1 + k) = x at *
      have hxx : (x.toList != x.toList) = false := by simp
      go_wp2_with fail
      go_region_held3 (fun w' => g < w'.heap.size ∧ w'.cell? ⟨g, k, none⟩ = some (.string x)) (first | exact ⟨hgr, hc⟩ | exact ⟨Nat.lt_of_lt_of_le hgr b5.size, (b5.cell hgr).trans hc⟩) (first | (go_at_call 16; refine (MT.out _).mono ?_; rintro e w5 ⟨rfl, b5⟩))
      have B5 := Lib.hid (bT H2.out.drew b5)
      clear b5 H2 hc
      go_wp2
      go_roundw
      case rel => exact ⟨k + 1, by go_num, by go_num, by omega, B5⟩
      case measure => simp [intOf]; omega
    · have h1' : ¬ (k : Int) < (n : Int) := by omega
      have H4 : Hid ((1 + (k : Int)) = 1 + (n : Int)) := by show _ = _; omega
      go_wp2
      go_ret
      exact ⟨by rw [← H4.out]; rfl, H2.out⟩
theorem markS_any (B : Nat) (v : Value) (ss : List ByteArray) (w : World) (hn : ss.length ≤ 1048577) (h : OwnS w B v ss) :
    Calls Tryz.prog 7 #[v, .int .i64 1] w fun e w' => e = .returned (.int .i64 (1 + (ss.length : Int))) ∧ OwnS w' B v (marks ss.length) ∧ w.grownBy w' v.ownBlock := by
  rcases h.2 with ⟨rfl, h0⟩ | ⟨g, cap, cur, rfl, _⟩
  · obtain rfl : ss = [] := List.eq_nil_of_length_eq_zero h0
    refine (markS_nil none 0 w).mono ?_
    rintro e w' ⟨rfl, rfl⟩
    exact ⟨rfl, h, World.grownBy.refl _ _⟩
  · exact markS_some B g cap ss w hn h
theorem heldS_any (B n : Nat) (v : Value) (w : World) (hn : n ≤ 1048577) (h : OwnS w B v (marks n)) :
    Calls Tryz.prog 8 #[v, .int .i64 1] w fun e w' => e = .returned (.int .i64 (1 + (n : Int))) ∧ Below w.heap.size w w' := by
  rcases h.2 with ⟨rfl, h0⟩ | ⟨g, cap, cur, rfl, _⟩
  · rw [marks_len] at h0
    subst h0
    refine (heldS_nil none 0 w).mono ?_
    rintro e w' ⟨rfl, rfl⟩
    exact ⟨rfl, Below.refl _ _⟩
  · rw [marks_len] at h ⊢
    exact heldS_some B g cap n w hn h

end Go.Proofs.YtebmhpgaahhlpaaGreatDoor
