/-
  LISTS OF TEXTS: how they lie, their sizes, how they are copied and held against each other.
  DISKS: when one is right, on both sides; how one is copied and held against another.
  DISKS: how the law measures, copies and compares them; the law FnExactDiskRight.
  WHAT IS LOOSE, PUT TOGETHER: both sides.
-/
import Derived.Test.YtmffoannknkjkaaDoorBa
import Derived.WalkKit
import Derived.WalkSpells
import Derived.WalkLawsBesides
import Derived.Laws.EntriesVeiled
import Derived.Deep.QuietTactic
import Derived.BigQuiet
import Derived.Lib.Hide
import Derived.Deep.RegionHeld3
import Derived.Lib.AppendStr
import Derived.Laws.CopyRow
import Derived.Laws.IdiomStrings
namespace Go.Proofs.YtmffoannknkjkaaDoor
open Go.RowKit
set_option linter.unusedVariables false

theorem bcell {W w1 : World} (hb : Below W.heap.size W w1) : (∀ b o, b < W.heap.size → w1.cell? ⟨b, o, none⟩ = W.cell? ⟨b, o, none⟩) ∧ (∀ b o, b < W.heap.size → w1.frozen? ⟨b, o, none⟩ = W.frozen? ⟨b, o, none⟩) :=
  ⟨fun _ _ h => hb.cell h, fun _ _ h => hb.frozen h⟩

/-- The i-th text. -/
def at0 (ss : List ByteArray) (i : Nat) : ByteArray := ss.getD i ⟨#[]⟩
theorem at0_lt (ss : List ByteArray) (i : Nat) (h : i < ss.length) : at0 ss i = ss[i] := by simp [at0, h]
theorem at0_mem (ss : List ByteArray) (i : Nat) (h : i < ss.length) : at0 ss i ∈ ss := by rw [at0_lt _ _ h]; exact List.getElem_mem h
/-- The texts ss lie from cell o of block c on. -/
def StrsAt (w : World) (c o : Nat) (ss : List ByteArray) : Prop :=
  c < w.heap.size ∧ ∀ i, i < ss.length → w.cell? ⟨c, o + i, none⟩ = some (.string (at0 ss i))
/-- A slice of the texts ss. -/
def Strs (w : World) (sl : Option Addr) (ss : List ByteArray) : Prop := ss = [] ∨ ∃ c o, sl = some ⟨c, o, none⟩ ∧ StrsAt w c o ss

theorem StrsAt.below {w w' : World} {c o : Nat} {ss : List ByteArray} (h : StrsAt w c o ss) (hb : Below w.heap.size w w') : StrsAt w' c o ss :=
  ⟨Nat.lt_of_lt_of_le h.1 hb.size, fun i hi => (hb.cell h.1).trans (h.2 i hi)⟩
theorem Strs.below {w w' : World} {sl : Option Addr} {ss : List ByteArray} (h : Strs w sl ss) (hb : Below w.heap.size w w') : Strs w' sl ss := by
  rcases h with h | ⟨c, o, e, h⟩
  · exact .inl h
  · exact .inr ⟨c, o, e, h.below hb⟩

/-- The sizes of all together. -/
def tot (ss : List ByteArray) : Nat := (ss.map ByteArray.size).sum
theorem tot_app (a b : List ByteArray) : tot (a ++ b) = tot a + tot b := by simp [tot]
theorem tot_one (s : ByteArray) : tot [s] = s.size := by simp [tot]
theorem tot_step (ss : List ByteArray) (k : Nat) (h : k < ss.length) : tot (ss.take (k + 1)) = tot (ss.take k) + (at0 ss k).size := by
  rw [List.take_succ_eq_append_getElem h, at0_lt _ _ h, tot_app, tot_one]
theorem tot_take (ss : List ByteArray) (k : Nat) : tot (ss.take k) ≤ tot ss := by
  have : tot ss = tot (ss.take k) + tot (ss.drop k) := by rw [← tot_app, List.take_append_drop]
  omega
theorem tot_all (ss : List ByteArray) (k : Nat) (h : ss.length ≤ k) : tot (ss.take k) = tot ss := by rw [List.take_of_length_le h]
theorem tot_zero (ss : List ByteArray) : tot (ss.take 0) = 0 := by simp [tot]

/-- What is left of m. -/
def szS (m : Int) (ss : List ByteArray) : Int := if m - ss.length - tot ss < 0 then -1 else m - ss.length - tot ss

set_option maxHeartbeats 400000 in
theorem szS_long (sl : Option Addr) (n cap : Nat) (m : Int) (w : World) (hn : n ≤ maxLen) (h0 : 0 ≤ m) (h1 : m ≤ 1048576) (h : m - n < 0) :
    Calls Tryd.prog 17 #[.slice sl n cap, .int .i64 m] w fun e w' => e = .returned (.int .i64 (-1)) ∧ w' = w := by
  unfold maxLen at hn
  go_enter Tryd.func17, Tryd.ntmps17
  go_wp2
  go_ret
  exact ⟨rfl, rfl⟩

set_option maxHeartbeats 400000 in
theorem szS_nil (sl : Option Addr) (cap : Nat) (m : Int) (w : World) (h0 : 0 ≤ m) (h1 : m ≤ 1048576) :
    Calls Tryd.prog 17 #[.slice sl 0 cap, .int .i64 m] w fun e w' => e = .returned (.int .i64 m) ∧ w' = w := by
  have h2 : ¬ m < 0 := by omega
  go_enter Tryd.func17, Tryd.ntmps17
  go_wp2
  refine wp_loop_rounds 1 ?_
  rw [rounds_succ]
  go_wp2
  go_ret
  exact ⟨rfl, rfl⟩

set_option maxHeartbeats 400000 in
theorem szS_some (c o cap : Nat) (ss : List ByteArray) (m : Int) (w : World) (hz : StrsAt w c o ss) (hs : ∀ s ∈ ss, s.size ≤ maxLen) (h1 : m ≤ 1048576) (h2 : ¬ m - ss.length < 0) :
    Calls Tryd.prog 17 #[.slice (some ⟨c, o, none⟩) ss.length cap, .int .i64 m] w fun e w' => e = .returned (.int .i64 (szS m ss)) ∧ w' = w := by
  unfold maxLen at hs
  have HZ := Lib.hid hz
  have HS := Lib.hid hs
  clear hz hs
  generalize hN : ss.length = n at *
  have HN : Hid (ss.length = n) := hN
  clear hN
  go_enter Tryd.func17, Tryd.ntmps17
  go_wp2
  go_loop [1, 5] (fun l i => ∃ k : Nat, i = .int .i64 k ∧ k ≤ n ∧ l = .int .i64 (m - n - (tot (ss.take k) : Nat)) ∧ ¬ (m - n - (tot (ss.take k) : Nat) < 0)) (fun _ i => n - (intOf i).toNat)
  case atStart => exact ⟨0, rfl, Nat.zero_le _, by rw [tot_zero]; simp, by rw [tot_zero]; omega⟩
  case round =>
    obtain ⟨k, rfl, hk, rfl, hge⟩ := hrel
    have hk0 : (0 : Int) ≤ (k : Int) := by omega
    by_cases h1 : k < n
    · have h1' : (k : Int) < (n : Int) := by omega
      have hlt : k < ss.length := by rw [HN.out]; exact h1
      have hc : w.cell? ⟨c, o + k, none⟩ = some (.string (at0 ss k)) := HZ.out.2 k hlt
      have hzz := HS.out _ (at0_mem ss k hlt)
      have E := Lib.hid (tot_step ss k hlt)
      have T := Lib.hid (tot_take ss (k + 1))
      clear hlt
      generalize at0 ss k = z at *
      generalize tot (ss.take k) = t at *
      by_cases hneg : m - n - (t : Int) - (z.size : Int) < 0
      · have HF : Hid (szS m ss = -1) := by
          show _ = _
          unfold szS
          have h1 := E.out; have h2 := T.out; have h3 := HN.out
          rw [if_pos (by omega)]
        go_wp2
        go_ret
        exact ⟨by rw [HF.out]; rfl, rfl⟩
      · have EE : Hid (m - n - (t : Int) - (z.size : Int) = m - n - ((tot (ss.take (k + 1)) : Nat) : Int)) := by show _ = _; rw [E.out]; omega
        go_wp2
        go_round
        case rel => exact ⟨k + 1, by go_num, by omega, by rw [EE.out], by rw [← EE.out]; exact hneg⟩
        case measure => simp [intOf]; omega
    · have h1' : ¬ (k : Int) < (n : Int) := by omega
      have EE : Hid (szS m ss = m - n - (tot (ss.take k) : Nat)) := by
        show _ = _
        have h3 := HN.out
        rw [tot_all ss k (by omega)] at hge ⊢
        unfold szS
        rw [if_neg (by omega), HN.out]
      go_wp2
      go_ret
      exact ⟨by rw [EE.out]; rfl, rfl⟩

theorem szS_any (sl : Option Addr) (cap : Nat) (ss : List ByteArray) (m : Int) (w : World) (hn : ss.length ≤ maxLen) (hz : Strs w sl ss) (hs : ∀ s ∈ ss, s.size ≤ maxLen) (h0 : 0 ≤ m) (h1 : m ≤ 1048576) :
    Calls Tryd.prog 17 #[.slice sl ss.length cap, .int .i64 m] w fun e w' => e = .returned (.int .i64 (szS m ss)) ∧ w' = w := by
  by_cases h : m - ss.length < 0
  · have e : szS m ss = -1 := by unfold szS; rw [if_pos (by omega)]
    rw [e]
    exact szS_long sl _ cap m w hn h0 h1 h
  · rcases hz with rfl | ⟨c, o, rfl, hz⟩
    · have e : szS m [] = m := by unfold szS; simp [tot]; omega
      rw [e]
      exact szS_nil sl cap m w h0 h1
    · exact szS_some c o cap ss m w hz hs h1 h

/-- The first k of ss written, the rest empty. -/
def vsOf (ss : List ByteArray) (k : Nat) : Array Value := ((ss.take k).map Value.string ++ List.replicate (ss.length - k) (Value.string ⟨#[]⟩)).toArray
def RowAt (w : World) (b : Nat) (vs : Array Value) : Prop := w.heap[b]? = some (.cells vs 9)

theorem vs_size (zs : List ByteArray) (k : Nat) (h : k ≤ zs.length) : (vsOf zs k).size = zs.length := by simp [vsOf]; omega
theorem vs_step (zs : List ByteArray) (k : Nat) (h : k < zs.length) : (vsOf zs k).setIfInBounds k (.string (at0 zs k)) = vsOf zs (k + 1) := by
  apply Array.ext
  · simp [vsOf]; omega
  · intro i h1 h2
    simp only [Array.size_setIfInBounds] at h1
    rw [Array.getElem_setIfInBounds h1]
    simp only [vsOf, List.getElem_toArray]
    by_cases hi : k = i
    · subst hi
      rw [if_pos rfl, List.getElem_append_left (by simp; omega)]
      simp [h, at0]
    · rw [if_neg hi]
      by_cases hlt : i < k
      · rw [List.getElem_append_left (by simp; omega), List.getElem_append_left (by simp; omega)]
        simp
      · rw [List.getElem_append_right (by simp; omega), List.getElem_append_right (by simp; omega)]
        simp
theorem vs_at (zs : List ByteArray) (k : Nat) (h : k < zs.length) : (vsOf zs k)[k]? = some (.string ⟨#[]⟩) := by
  rw [Array.getElem?_eq_getElem (by rw [vs_size zs k (by omega)]; exact h)]
  simp only [vsOf, List.getElem_toArray]
  rw [List.getElem_append_right (by simp; omega)]
  simp
theorem vs_all (zs : List ByteArray) (k : Nat) (hk : zs.length ≤ k) (i : Nat) (h : i < zs.length) : (vsOf zs k)[i]? = some (.string (at0 zs i)) := by
  rw [Array.getElem?_eq_getElem (by simp [vsOf]; omega)]
  simp only [vsOf, List.getElem_toArray]
  rw [List.getElem_append_left (by simp; omega)]
  simp [h, at0]
theorem RowAt.cell {w : World} {b : Nat} {vs : Array Value} (h : RowAt w b vs) (i : Nat) : w.cell? ⟨b, i, none⟩ = vs[i]? := by
  unfold RowAt at h; simp [World.cell?, h]
theorem RowAt.frozen {w : World} {b : Nat} {vs : Array Value} (h : RowAt w b vs) (i : Nat) : w.frozen? ⟨b, i, none⟩ = false := by
  unfold RowAt at h; simp [World.frozen?, h]
theorem RowAt.lt {w : World} {b : Nat} {vs : Array Value} (h : RowAt w b vs) : b < w.heap.size := (Array.getElem?_eq_some_iff.1 h).1
theorem RowAt.set {w : World} {b : Nat} {vs : Array Value} (h : RowAt w b vs) (i : Nat) (v : Value) : RowAt (w.setCell ⟨b, i, none⟩ v) b (vs.setIfInBounds i v) := heap_setCell_same w b i vs 9 v h
theorem RowAt.strs {w : World} {b : Nat} {zs : List ByteArray} {k : Nat} (h : RowAt w b (vsOf zs k)) (hk : zs.length ≤ k) : StrsAt w b 0 zs :=
  ⟨h.lt, fun i hi => by rw [Nat.zero_add, h.cell i]; exact vs_all zs k hk i hi⟩

def mkS (n : Nat) : Array Value := madeCells #[.string ⟨#[]⟩] n
theorem mkS_eq (zs : List ByteArray) : mkS zs.length = vsOf zs 0 := by
  apply Array.toList_inj.1
  rw [mkS, toList_madeCells_one]
  simp [vsOf]
theorem info9 : ∃ i, Tryd.prog.info? 9 = some i ∧ i.zero = some (.string ⟨#[]⟩) ∧ i.size = 1 ∧ i.bytes = 16 := ⟨_, rfl, by kernel_rfl, by kernel_rfl, by kernel_rfl⟩
theorem makeS (n : Nat) (h : n ≤ 1048576) (w : World) :
    Sem.run Tryd.prog (Instr.makeSlice 22 (.int .i64 (n : Int)) (.int .i64 (n : Int))) w = .ok (.slice (some ⟨w.heap.size, 0, none⟩) n n) (w.alloc (.cells (mkS n) 9)) := by
  obtain ⟨i, h1, h2, h3, h4⟩ := info9
  have := run_make (P := Tryd.prog) w 22 9 i (.string ⟨#[]⟩) Tryd.underlying22 h1 h2 .i64 .i64 (n : Int) (n : Int) (by omega) (Int.le_refl _) (by rw [h4]; omega) (by omega)
  rw [this, h3]
  simp [mkS, Value.cells]

set_option maxHeartbeats 400000 in
theorem to_nil (sl : Option Addr) (cap : Nat) (w : World) :
    Calls Tryd.prog 21 #[.slice sl 0 cap] w fun e w' => e = .returned (.slice (some ⟨w.heap.size, 0, none⟩) 0 0) ∧ RowAt w' w.heap.size (vsOf [] 0) ∧ Below w.heap.size w w' := by
  have hmk : ∀ w : World, Sem.run Tryd.prog (Instr.makeSlice 22 (.int .i64 0) (.int .i64 0)) w = .ok (.slice (some ⟨w.heap.size, 0, none⟩) 0 0) (w.alloc (.cells (mkS 0) 9)) := fun w => makeS 0 (by omega) w
  have HK : Hid (mkS 0 = vsOf [] 0) := mkS_eq []
  go_enter Tryd.func21, Tryd.ntmps21
  go_wp2
  refine wp_loop_rounds 1 ?_
  rw [rounds_succ]
  go_wp2
  go_ret
  refine ⟨rfl, ?_, bA0 _ _⟩
  show (w.heap.push _)[w.heap.size]? = _
  simp [HK.out]

set_option maxHeartbeats 1000000 in
theorem to_some (c o cap : Nat) (zs : List ByteArray) (w : World) (hn : zs.length ≤ 1048576) (hz : StrsAt w c o zs) :
    Calls Tryd.prog 21 #[.slice (some ⟨c, o, none⟩) zs.length cap] w fun e w' => e = .returned (.slice (some ⟨w.heap.size, 0, none⟩) zs.length zs.length) ∧ RowAt w' w.heap.size (vsOf zs zs.length) ∧ Below w.heap.size w w' := by
  have hmk := makeS zs.length hn
  have HZ : Hid (StrsAt w c o zs) := hz
  have HK : Hid (mkS zs.length = vsOf zs 0) := mkS_eq zs
  clear hz
  generalize hN : zs.length = n at *
  have HN : Hid (zs.length = n) := hN
  clear hN
  go_enter Tryd.func21, Tryd.ntmps21
  go_wp2
  go_loopw [4] (fun i wr => ∃ (k : Nat), i = .int .i64 k ∧ k ≤ n ∧ Hid (Below w.heap.size w wr) ∧ Hid (RowAt wr w.heap.size (vsOf zs k))) (fun i _ => n - (intOf i).toNat)
  case atStart =>
    refine ⟨0, rfl, Nat.zero_le _, bA0 _ _, ?_⟩
    show (w.heap.push _)[w.heap.size]? = _
    simp [HK.out]
  case round =>
    obtain ⟨k, rfl, hk, H3, H4⟩ := hrel
    have hk0 : (0 : Int) ≤ (k : Int) := by omega
    by_cases h1 : k < n
    · have h1' : (k : Int) < (n : Int) := by omega
      have hlt : k < zs.length := by rw [HN.out]; exact h1
      have hc : wr.cell? ⟨c, o + k, none⟩ = some (.string (at0 zs k)) := by
        rw [H3.out.cell HZ.out.1]; exact HZ.out.2 k hlt
      have hd : wr.cell? ⟨w.heap.size, k, none⟩ = some (.string ⟨#[]⟩) := by rw [H4.out.cell]; exact vs_at zs k hlt
      have hf := H4.out.frozen k
      have H5 : Hid (RowAt (wr.setCell ⟨w.heap.size, k, none⟩ (.string (at0 zs k))) w.heap.size (vsOf zs (k + 1))) := by
        show RowAt _ _ _
        rw [← vs_step zs k hlt]; exact H4.out.set k _
      clear hlt
      generalize at0 zs k = z at *
      go_wp2
      go_roundw
      case rel => exact ⟨k + 1, by go_num, by omega, H3.out.setCell (Nat.le_refl _) _, H5⟩
      case measure => simp [intOf]; omega
    · have h1' : ¬ (k : Int) < (n : Int) := by omega
      have hkn : k = n := by omega
      have H6 : Hid (RowAt wr w.heap.size (vsOf zs n)) := (congrArg (vsOf zs) hkn) ▸ H4.out
      clear hkn
      go_wp2
      go_ret
      exact ⟨rfl, H6.out, H3.out⟩

theorem to_any (sl : Option Addr) (cap : Nat) (zs : List ByteArray) (w : World) (hn : zs.length ≤ 1048576) (hz : Strs w sl zs) :
    Calls Tryd.prog 21 #[.slice sl zs.length cap] w fun e w' => e = .returned (.slice (some ⟨w.heap.size, 0, none⟩) zs.length zs.length) ∧ RowAt w' w.heap.size (vsOf zs zs.length) ∧ Below w.heap.size w w' := by
  rcases hz with rfl | ⟨c, o, rfl, h⟩
  · exact to_nil sl cap w
  · exact to_some c o cap zs w hn h

set_option maxHeartbeats 400000 in
theorem eq_nil (sl sl2 : Option Addr) (cap cap2 : Nat) (w : World) :
    Calls Tryd.prog 9 #[.slice sl 0 cap, .slice sl2 0 cap2] w fun e w' => e = .returned (.bool true) ∧ Below w.heap.size w w' := by
  go_enter Tryd.func9, Tryd.ntmps9
  go_wp2
  refine wp_loop_rounds 1 ?_
  rw [rounds_succ]
  go_wp2
  go_ret
  exact ⟨rfl, Below.refl _ _⟩

set_option maxHeartbeats 1000000 in
theorem eq_some (c o cap c2 o2 cap2 : Nat) (zs : List ByteArray) (w : World) (hn : zs.length ≤ maxLen) (hz : StrsAt w c o zs) (hz2 : StrsAt w c2 o2 zs) :
    Calls Tryd.prog 9 #[.slice (some ⟨c, o, none⟩) zs.length cap, .slice (some ⟨c2, o2, none⟩) zs.length cap2] w fun e w' => e = .returned (.bool true) ∧ Below w.heap.size w w' := by
  unfold maxLen at hn
  have HZ : Hid (StrsAt w c o zs ∧ StrsAt w c2 o2 zs) := ⟨hz, hz2⟩
  clear hz hz2
  generalize hN : zs.length = n at *
  have HN : Hid (zs.length = n) := hN
  clear hN
  go_enter Tryd.func9, Tryd.ntmps9
  go_wp2
  go_loopw [5] (fun i wr => ∃ (k : Nat), i = .int .i64 k ∧ k ≤ n ∧ Hid (Below w.heap.size w wr)) (fun i _ => n - (intOf i).toNat)
  case atStart => exact ⟨0, rfl, Nat.zero_le _, Below.refl _ _⟩
  case round =>
    obtain ⟨k, rfl, hk, H3⟩ := hrel
    have hk0 : (0 : Int) ≤ (k : Int) := by omega
    by_cases h1 : k < n
    · have h1' : (k : Int) < (n : Int) := by omega
      have hlt : k < zs.length := by rw [HN.out]; exact h1
      have hc : wr.cell? ⟨c, o + k, none⟩ = some (.string (at0 zs k)) := by
        rw [H3.out.cell HZ.out.1.1]; exact HZ.out.1.2 k hlt
      have hd : wr.cell? ⟨c2, o2 + k, none⟩ = some (.string (at0 zs k)) := by
        rw [H3.out.cell HZ.out.2.1]; exact HZ.out.2.2 k hlt
      clear hlt
      generalize at0 zs k = z at *
      go_wp2
      go_quiet (fail)
      go_wp2
      go_roundw
      case rel => exact ⟨k + 1, by go_num, by omega, below_drewN H3.out _⟩
      case measure => simp [intOf]; omega
    · have h1' : ¬ (k : Int) < (n : Int) := by omega
      go_wp2
      go_ret
      exact ⟨rfl, H3.out⟩

theorem eq_any (sl sl2 : Option Addr) (cap cap2 : Nat) (zs : List ByteArray) (w : World) (hn : zs.length ≤ maxLen) (hz : Strs w sl zs) (hz2 : Strs w sl2 zs) :
    Calls Tryd.prog 9 #[.slice sl zs.length cap, .slice sl2 zs.length cap2] w fun e w' => e = .returned (.bool true) ∧ Below w.heap.size w w' := by
  rcases hz with rfl | ⟨c, o, rfl, h⟩
  · exact eq_nil sl sl2 cap cap2 w
  · rcases hz2 with rfl | ⟨c2, o2, rfl, h2⟩
    · exact eq_nil _ sl2 cap cap2 w
    · exact eq_some c o cap c2 o2 cap2 zs w hn h h2

end Go.Proofs.YtmffoannknkjkaaDoor
namespace Go.Proofs.YtmffoannknkjkaaDoor
open Go.RowKit
set_option linter.unusedVariables false

def neB (s : ByteArray) : Bool := !s.toList.isEmpty
/-- A right disk. -/
def dR (s : ByteArray) (ss : List ByteArray) : Bool := decide (ss.length ≤ 100) && (ss.all neB && decide (s.size + tot ss ≤ 20000))
theorem dR_n {s : ByteArray} {ss : List ByteArray} (h : 100 < ss.length) : dR s ss = false := by
  have : ¬ ss.length ≤ 100 := by omega
  simp [dR, this]
theorem dR_z {s : ByteArray} {ss : List ByteArray} (h : 20000 < s.size + tot ss) : dR s ss = false := by
  have : ¬ s.size + tot ss ≤ 20000 := by omega
  simp [dR, this]
theorem dR_e {s : ByteArray} {ss : List ByteArray} (k : Nat) (hk : k < ss.length) (h : neB (at0 ss k) = false) : dR s ss = false := by
  have : ss.all neB = false := by
    rw [List.all_eq_false]
    exact ⟨_, at0_mem ss k hk, by simp [h]⟩
  simp [dR, this]
theorem dR_a {s : ByteArray} {ss : List ByteArray} (h : ss.length ≤ 100) (ha : ss.all neB = true) : dR s ss = decide (s.size + tot ss ≤ 20000) := by simp [dR, h, ha]
theorem dR_parts {s : ByteArray} {ss : List ByteArray} (h : dR s ss = true) : ss.length ≤ 100 ∧ ss.all neB = true ∧ s.size + tot ss ≤ 20000 := by
  simp only [dR, Bool.and_eq_true, decide_eq_true_eq] at h
  exact ⟨h.1, h.2.1, h.2.2⟩
theorem all_step (ss : List ByteArray) (k : Nat) (h : k < ss.length) (hp : (ss.take k).all neB = true) (hz : neB (at0 ss k) = true) : (ss.take (k + 1)).all neB = true := by
  rw [List.take_succ_eq_append_getElem h, List.all_append, hp, ← at0_lt _ _ h]
  simp [hz]
theorem all_end (ss : List ByteArray) (k : Nat) (h : ss.length ≤ k) (hp : (ss.take k).all neB = true) : ss.all neB = true := by
  rwa [List.take_of_length_le h] at hp
theorem tot_ge (ss : List ByteArray) (k : Nat) (h : k < ss.length) : (at0 ss k).size ≤ tot ss := by
  have h1 := tot_step ss k h
  have h2 := tot_take ss (k + 1)
  omega

abbrev DV (s : ByteArray) (sl : Option Addr) (n cap : Nat) : Value := .agg #[.string s, .slice sl n cap]

set_option maxHeartbeats 1000000 in
theorem sdr_long (s : ByteArray) (sl : Option Addr) (n cap : Nat) (w : World) (h : 100 < n) :
    Calls Tryd.prog 26 #[DV s sl n cap] w fun e w' => e = .returned (.bool false) ∧ Below w.heap.size w w' := by
  have h' : (100 : Int) < (n : Int) := by omega
  go_enter Tryd.func26, Tryd.ntmps26
  go_wp2
  go_ret
  exact ⟨rfl, bA0 _ _⟩
set_option maxHeartbeats 1000000 in
theorem sdr_big (s : ByteArray) (sl : Option Addr) (n cap : Nat) (w : World) (h : n ≤ 100) (hs : 20000 < s.size) :
    Calls Tryd.prog 26 #[DV s sl n cap] w fun e w' => e = .returned (.bool false) ∧ Below w.heap.size w w' := by
  have h' : decide ((100 : Int) < (n : Int)) = false := by simp; omega
  have hs' : (20000 : Int) < (s.size : Int) := by omega
  go_enter Tryd.func26, Tryd.ntmps26
  go_wp2
  go_ret
  exact ⟨rfl, bA0 _ _⟩
set_option maxHeartbeats 1000000 in
theorem sdr_nil (s : ByteArray) (sl : Option Addr) (cap : Nat) (w : World) (hs : s.size ≤ 20000) :
    Calls Tryd.prog 26 #[DV s sl 0 cap] w fun e w' => e = .returned (.bool true) ∧ Below w.heap.size w w' := by
  have hs' : ¬ (20000 : Int) < (s.size : Int) := by omega
  have hs2 : (s.size : Int) ≤ 20000 := by omega
  go_enter Tryd.func26, Tryd.ntmps26
  go_wp2
  refine wp_loop_rounds 1 ?_
  rw [rounds_succ]
  go_wp2
  go_ret
  exact ⟨rfl, bA0 _ _⟩

set_option maxHeartbeats 1000000 in
theorem sdr_some (s : ByteArray) (c o cap : Nat) (ss : List ByteArray) (w : World) (hn : ss.length ≤ 100) (hs : s.size ≤ 20000) (hz : StrsAt w c o ss) :
    Calls Tryd.prog 26 #[DV s (some ⟨c, o, none⟩) ss.length cap] w fun e w' => e = .returned (.bool (dR s ss)) ∧ Below w.heap.size w w' := by
  have hs' : ¬ (20000 : Int) < (s.size : Int) := by omega
  have hn' : decide ((100 : Int) < (ss.length : Int)) = false := by simp; omega
  have HZ := Lib.hid hz
  clear hz
  generalize hN : ss.length = n at *
  have HN : Hid (ss.length = n) := hN
  clear hN
  go_enter Tryd.func26, Tryd.ntmps26
  go_wp2
  go_loopw [3, 4] (fun l i wr => ∃ k : Nat, i = .int .i64 k ∧ k ≤ n ∧ Hid (l = .int .i64 ((s.size + tot (ss.take k) : Nat) : Int)) ∧ tot (ss.take k) ≤ 20000 * k ∧ Hid ((ss.take k).all neB = true) ∧ wr = w.alloc (.cells #[.string s, .slice (some ⟨c, o, none⟩) n cap] 27)) (fun _ i _ => n - (intOf i).toNat)
  case atStart => exact ⟨0, rfl, Nat.zero_le _, (by show _ = _; rw [tot_zero]; rfl), by rw [tot_zero]; omega, (by show (ss.take 0).all neB = true; simp), rfl⟩
  case round =>
    obtain ⟨k, rfl, hk, HL, htk, HA, rfl⟩ := hrel
    have hk0 : (0 : Int) ≤ (k : Int) := by omega
    obtain rfl := HL.out
    clear HL
    by_cases h1 : k < n
    · have h1' : (k : Int) < (n : Int) := by omega
      have hlt : k < ss.length := by rw [HN.out]; exact h1
      have hcl := HZ.out.1
      have hc : w.cell? ⟨c, o + k, none⟩ = some (.string (at0 ss k)) := HZ.out.2 k hlt
      have E := Lib.hid (tot_step ss k hlt)
      have G := Lib.hid (tot_ge ss k hlt)
      cases hE : (at0 ss k).toList.isEmpty
      · have HA2 : Hid ((ss.take (k + 1)).all neB = true) := all_step ss k hlt HA.out (by simp [neB, hE])
        by_cases hb : (at0 ss k).size ≤ 20000
        · have hb' : ¬ (20000 : Int) < ((at0 ss k).size : Int) := by omega
          clear hlt
          generalize at0 ss k = z at *
          generalize tot (ss.take k) = t at *
          have EE : Hid ((s.size : Int) + (t : Int) + (z.size : Int) = ((s.size + tot (ss.take (k + 1)) : Nat) : Int)) := by show _ = _; rw [E.out]; omega
          go_wp2
          go_roundw
          case rel => exact ⟨k + 1, by go_num, by omega, (by show _ = _; rw [← EE.out]), by rw [E.out]; omega, HA2, by trivial⟩
          case measure => simp [intOf]; omega
        · have hb' : (20000 : Int) < ((at0 ss k).size : Int) := by omega
          have HF : Hid (dR s ss = false) := dR_z (by have := G.out; omega)
          clear hlt
          generalize at0 ss k = z at *
          go_wp2
          go_ret
          exact ⟨by rw [HF.out]; rfl, bA0 _ _⟩
      · have HF : Hid (dR s ss = false) := dR_e k hlt (by simp [neB, hE])
        clear hlt
        generalize at0 ss k = z at *
        go_wp2
        go_ret
        exact ⟨by rw [HF.out]; rfl, bA0 _ _⟩
    · have h1' : ¬ (k : Int) < (n : Int) := by omega
      have HE : Hid (dR s ss = decide ((s.size : Int) + (tot (ss.take k) : Int) ≤ 20000)) := by
        show _ = _
        have h3 := HN.out
        rw [dR_a (by omega) (all_end ss k (by omega) HA.out), tot_all ss k (by omega)]
        congr 1
        apply propext
        omega
      generalize tot (ss.take k) = t at *
      go_wp2
      go_ret
      exact ⟨by rw [HE.out]; rfl, bA0 _ _⟩

theorem sdr_any (s : ByteArray) (sl : Option Addr) (cap : Nat) (ss : List ByteArray) (w : World) (hz : Strs w sl ss) :
    Calls Tryd.prog 26 #[DV s sl ss.length cap] w fun e w' => e = .returned (.bool (dR s ss)) ∧ Below w.heap.size w w' := by
  by_cases hn : ss.length ≤ 100
  · by_cases hs : s.size ≤ 20000
    · rcases hz with rfl | ⟨c, o, rfl, hz⟩
      · have : dR s [] = true := by simp [dR, tot, hs]
        rw [this]
        exact sdr_nil s sl cap w hs
      · exact sdr_some s c o cap ss w hn hs hz
    · rw [dR_z (by omega)]
      exact sdr_big s sl _ cap w hn (by omega)
  · rw [dR_n (by omega)]
    exact sdr_long s sl _ cap w (by omega)

/-! ### The program's side -/
set_option maxHeartbeats 1000000 in
theorem size_nil (s : ByteArray) (sl : Option Addr) (cap : Nat) (w : World) :
    Calls Tryd.prog 44 #[DV s sl 0 cap] w fun e w' => e = .returned (.int .i64 s.size) ∧ Below w.heap.size w w' := by
  go_enter Tryd.func44, Tryd.ntmps44
  go_wp2
  refine wp_loop_rounds 1 ?_
  rw [rounds_succ]
  go_wp2
  go_ret
  exact ⟨rfl, bA0 _ _⟩
set_option maxHeartbeats 1000000 in
theorem size_some (s : ByteArray) (c o cap : Nat) (ss : List ByteArray) (w : World) (hn : ss.length ≤ maxLen) (hs : s.size + tot ss ≤ 4000000) (hz : StrsAt w c o ss) :
    Calls Tryd.prog 44 #[DV s (some ⟨c, o, none⟩) ss.length cap] w fun e w' => e = .returned (.int .i64 ((s.size + tot ss : Nat) : Int)) ∧ Below w.heap.size w w' := by
  unfold maxLen at hn
  have HZ := Lib.hid hz
  have HS := Lib.hid hs
  clear hz hs
  generalize hN : ss.length = n at *
  have HN : Hid (ss.length = n) := hN
  clear hN
  go_enter Tryd.func44, Tryd.ntmps44
  go_wp2
  go_loopw [3, 12] (fun l i wr => ∃ k : Nat, i = .int .i64 k ∧ k ≤ n ∧ Hid (l = .int .i64 ((s.size + tot (ss.take k) : Nat) : Int)) ∧ wr = w.alloc (.cells #[.string s, .slice (some ⟨c, o, none⟩) n cap] 27)) (fun _ i _ => n - (intOf i).toNat)
  case atStart => exact ⟨0, rfl, Nat.zero_le _, (by show _ = _; rw [tot_zero]; rfl), rfl⟩
  case round =>
    obtain ⟨k, rfl, hk, HL, rfl⟩ := hrel
    have hk0 : (0 : Int) ≤ (k : Int) := by omega
    obtain rfl := HL.out
    clear HL
    by_cases h1 : k < n
    · have h1' : (k : Int) < (n : Int) := by omega
      have hlt : k < ss.length := by rw [HN.out]; exact h1
      have hcl := HZ.out.1
      have hc : w.cell? ⟨c, o + k, none⟩ = some (.string (at0 ss k)) := HZ.out.2 k hlt
      have E := Lib.hid (tot_step ss k hlt)
      have hsm : (s.size : Int) + (tot (ss.take k) : Int) + ((at0 ss k).size : Int) ≤ 4000000 := by
        have a1 := HS.out; have a2 := tot_take ss (k + 1); have a3 := E.out; omega
      clear hlt
      generalize at0 ss k = z at *
      generalize tot (ss.take k) = t at *
      have EE : Hid ((s.size : Int) + (t : Int) + (z.size : Int) = ((s.size + tot (ss.take (k + 1)) : Nat) : Int)) := by show _ = _; rw [E.out]; omega
      go_wp2
      go_roundw
      case rel => exact ⟨k + 1, by go_num, by omega, (by show _ = _; rw [← EE.out]), by trivial⟩
      case measure => simp [intOf]; omega
    · have h1' : ¬ (k : Int) < (n : Int) := by omega
      have HE : Hid (tot ss = tot (ss.take k)) := by
        show _ = _
        have h3 := HN.out
        rw [tot_all ss k (by omega)]
      generalize tot (ss.take k) = t at *
      go_wp2
      go_ret
      exact ⟨by rw [HE.out]; rfl, bA0 _ _⟩
set_option maxHeartbeats 1000000 in
theorem idr_long (s : ByteArray) (sl : Option Addr) (n cap : Nat) (w : World) (h : 100 < n) :
    Calls Tryd.prog 33 #[DV s sl n cap] w fun e w' => e = .returned (.bool false) ∧ Below w.heap.size w w' := by
  have h' : (100 : Int) < (n : Int) := by omega
  go_enter Tryd.func33, Tryd.ntmps33
  go_wp2
  go_ret
  exact ⟨rfl, bA0 _ _⟩
set_option maxHeartbeats 1000000 in
theorem idr_nil (s : ByteArray) (sl : Option Addr) (cap : Nat) (w : World) (hs : s.size ≤ 4000000) :
    Calls Tryd.prog 33 #[DV s sl 0 cap] w fun e w' => e = .returned (.bool (dR s [])) ∧ Below w.heap.size w w' := by
  have e : dR s [] = decide ((s.size : Int) ≤ 20000) := by
    rw [dR_a (by simp) (by simp)]
    congr 1
    apply propext
    simp [tot]; omega
  rw [e]
  clear e
  go_enter Tryd.func33, Tryd.ntmps33
  go_wp2
  refine wp_loop_rounds 1 ?_
  rw [rounds_succ]
  go_wp2_with fail
  refine (size_nil _ _ _ _).mono ?_
  rintro e w1 ⟨rfl, b1⟩
  go_wp2
  go_ret
  exact ⟨rfl, bT (bA0 _ _) b1⟩
set_option maxHeartbeats 1000000 in
theorem idr_some (s : ByteArray) (c o cap : Nat) (ss : List ByteArray) (w : World) (hn : ss.length ≤ 100) (hs : s.size + tot ss ≤ 4000000) (hz : StrsAt w c o ss) :
    Calls Tryd.prog 33 #[DV s (some ⟨c, o, none⟩) ss.length cap] w fun e w' => e = .returned (.bool (dR s ss)) ∧ Below w.heap.size w w' := by
  have hn' : ¬ (100 : Int) < (ss.length : Int) := by omega
  have SZ : Hid (∀ w1, Below w.heap.size w w1 → Calls Tryd.prog 44 #[DV s (some ⟨c, o, none⟩) ss.length cap] w1 fun e w' => e = .returned (.int .i64 ((s.size + tot ss : Nat) : Int)) ∧ Below w1.heap.size w1 w') :=
    fun w1 hb => size_some s c o cap ss w1 (by unfold maxLen; omega) hs (hz.below hb)
  have HZ := Lib.hid hz
  clear hz
  generalize hN : ss.length = n at *
  have HN : Hid (ss.length = n) := hN
  clear hN
  go_enter Tryd.func33, Tryd.ntmps33
  go_wp2
  go_loopw [12] (fun i wr => ∃ k : Nat, i = .int .i64 k ∧ k ≤ n ∧ Hid ((ss.take k).all neB = true) ∧ wr = w.alloc (.cells #[.string s, .slice (some ⟨c, o, none⟩) n cap] 27)) (fun i _ => n - (intOf i).toNat)
  case atStart => exact ⟨0, rfl, Nat.zero_le _, (by show (ss.take 0).all neB = true; simp), rfl⟩
  case round =>
    obtain ⟨k, rfl, hk, HA, rfl⟩ := hrel
    have hk0 : (0 : Int) ≤ (k : Int) := by omega
    by_cases h1 : k < n
    · have h1' : (k : Int) < (n : Int) := by omega
      have hlt : k < ss.length := by rw [HN.out]; exact h1
      have hcl := HZ.out.1
      have hc : w.cell? ⟨c, o + k, none⟩ = some (.string (at0 ss k)) := HZ.out.2 k hlt
      cases hE : (at0 ss k).toList.isEmpty
      · have HA2 : Hid ((ss.take (k + 1)).all neB = true) := all_step ss k hlt HA.out (by simp [neB, hE])
        clear hlt
        generalize at0 ss k = z at *
        go_wp2
        go_roundw
        case rel => exact ⟨k + 1, by go_num, by omega, HA2, by trivial⟩
        case measure => simp [intOf]; omega
      · have HF : Hid (dR s ss = false) := dR_e k hlt (by simp [neB, hE])
        clear hlt
        generalize at0 ss k = z at *
        go_wp2
        go_ret
        exact ⟨by rw [HF.out]; rfl, bA0 _ _⟩
    · have h1' : ¬ (k : Int) < (n : Int) := by omega
      have HE : Hid (dR s ss = decide (((s.size + tot ss : Nat) : Int) ≤ 20000)) := by
        show _ = _
        have h3 := HN.out
        rw [dR_a (by omega) (all_end ss k (by omega) HA.out)]
        congr 1
        apply propext
        omega
      generalize s.size + tot ss = t at *
      go_wp2_with fail
      refine (SZ.out _ (bA0 _ _)).mono ?_
      rintro e w1 ⟨rfl, b1⟩
      go_wp2
      go_ret
      exact ⟨by rw [HE.out]; rfl, bT (bA0 _ _) b1⟩
theorem idr_any (s : ByteArray) (sl : Option Addr) (cap : Nat) (ss : List ByteArray) (w : World) (hs : s.size + tot ss ≤ 4000000) (hz : Strs w sl ss) :
    Calls Tryd.prog 33 #[DV s sl ss.length cap] w fun e w' => e = .returned (.bool (dR s ss)) ∧ Below w.heap.size w w' := by
  by_cases hn : ss.length ≤ 100
  · rcases hz with rfl | ⟨c, o, rfl, hz⟩
    · exact idr_nil s sl cap w (by omega)
    · exact idr_some s c o cap ss w hn hs hz
  · rw [dR_n (by omega)]
    exact idr_long s sl _ cap w (by omega)

end Go.Proofs.YtmffoannknkjkaaDoor
namespace Go.Proofs.YtmffoannknkjkaaDoor
open Go.RowKit
set_option linter.unusedVariables false

/-- What is left of m. -/
def szD (m : Int) (s : ByteArray) (ss : List ByteArray) : Int := if m - s.size < 0 then -1 else szS (m - s.size) ss
theorem szS_or (m : Int) (ss : List ByteArray) : szS m ss = -1 ∨ (0 ≤ szS m ss ∧ szS m ss = m - ss.length - tot ss) := by
  unfold szS
  by_cases h : m - ss.length - tot ss < 0
  · rw [if_pos h]; exact .inl rfl
  · rw [if_neg h]; exact .inr ⟨by omega, rfl⟩
theorem szD_or (m : Int) (s : ByteArray) (ss : List ByteArray) : szD m s ss = -1 ∨ (0 ≤ szD m s ss ∧ szD m s ss = m - s.size - ss.length - tot ss) := by
  unfold szD
  by_cases h : m - s.size < 0
  · rw [if_pos h]; exact .inl rfl
  · rw [if_neg h]; exact szS_or _ _

set_option maxHeartbeats 1000000 in
theorem szD_any (s : ByteArray) (sl : Option Addr) (cap : Nat) (ss : List ByteArray) (m : Int) (w : World) (h0 : 0 ≤ m) (h1 : m ≤ 1048576) (hn : ss.length ≤ maxLen) (hz : Strs w sl ss) (hs : ∀ s ∈ ss, s.size ≤ maxLen) (hs0 : s.size ≤ maxLen) :
    Calls Tryd.prog 5 #[DV s sl ss.length cap, .int .i64 m] w fun e w' => e = .returned (.int .i64 (szD m s ss)) ∧ Below w.heap.size w w' := by
  by_cases h : m - s.size < 0
  · have e : Hid (szD m s ss = -1) := by show _ = _; unfold szD; rw [if_pos h]
    unfold maxLen at hs0
    clear hz hs hn
    generalize ss.length = n at *
    go_enter Tryd.func5, Tryd.ntmps5
    go_wp2
    go_ret
    exact ⟨by rw [e.out]; rfl, bA0 _ _⟩
  · have e : szD m s ss = szS (m - s.size) ss := by unfold szD; rw [if_neg h]
    have Z : Hid (∀ w1, Below w.heap.size w w1 → Calls Tryd.prog 17 #[.slice sl ss.length cap, .int .i64 (m - s.size)] w1 fun e w' => e = .returned (.int .i64 (szS (m - s.size) ss)) ∧ w' = w1) :=
      fun w1 hb => szS_any sl cap ss (m - s.size) w1 hn (hz.below hb) hs (by omega) (by omega)
    have O := szS_or (m - s.size) ss
    have hs1 : (s.size : Int) ≤ 1048576 := by omega
    rw [e]
    clear hz hs hn e
    generalize ss.length = n at *
    generalize szS (m - s.size) ss = r at *
    rcases O with rfl | ⟨hr, -⟩
    · go_enter Tryd.func5, Tryd.ntmps5
      go_wp2_with fail
      refine (Z.out _ (bA0 _ _)).mono ?_
      rintro e w1 ⟨rfl, rfl⟩
      go_wp2
      go_ret
      exact ⟨rfl, bA0 _ _⟩
    · have hr' : ¬ r < 0 := by omega
      go_enter Tryd.func5, Tryd.ntmps5
      go_wp2_with fail
      refine (Z.out _ (bA0 _ _)).mono ?_
      rintro e w1 ⟨rfl, rfl⟩
      go_wp2
      go_ret
      exact ⟨rfl, bA0 _ _⟩

theorem RowAt.below {w w' : World} {b : Nat} {vs : Array Value} (h : RowAt w b vs) (hb : Below w.heap.size w w') : RowAt w' b vs := (hb.block b h.lt).trans h
theorem RowAt.other {w : World} {b c : Nat} {vs : Array Value} (h : RowAt w b vs) (hne : b ≠ c) (i : Nat) (v : Value) : RowAt (w.setCell ⟨c, i, none⟩ v) b vs := (Below.heap_setCell _ _ _ _ hne).trans h
set_option maxHeartbeats 1000000 in
theorem toD_any (s : ByteArray) (sl : Option Addr) (cap : Nat) (ss : List ByteArray) (w : World) (hn : ss.length ≤ 1048576) (hz : Strs w sl ss) :
    Calls Tryd.prog 7 #[DV s sl ss.length cap] w fun e w' => e = .returned (DV s (some ⟨w.heap.size + 3, 0, none⟩) ss.length ss.length) ∧ RowAt w' (w.heap.size + 3) (vsOf ss ss.length) ∧ Below w.heap.size w w' := by
  have T : Hid (∀ w1, Below w.heap.size w w1 → Calls Tryd.prog 21 #[.slice sl ss.length cap] w1 fun e w' => e = .returned (.slice (some ⟨w1.heap.size, 0, none⟩) ss.length ss.length) ∧ RowAt w' w1.heap.size (vsOf ss ss.length) ∧ Below w1.heap.size w1 w') :=
    fun w1 hb => to_any sl cap ss w1 hn (hz.below hb)
  clear hz
  generalize vsOf ss ss.length = vs at *
  generalize ss.length = n at *
  go_enter Tryd.func7, Tryd.ntmps7
  go_wp2_with fail
  refine (T.out _ (by first | exact bA (bA (bA0 _ _) _) _ | exact (bA (bA (bA0 _ _) _) _).setCell (by simp <;> omega) _)).mono ?_
  rintro e w1 ⟨rfl, hi, hb⟩
  obtain ⟨hc, hf⟩ := bcell hb; have hz := hb.size; simp at hz hi
  have HI := Lib.hid hi
  have HB := Lib.hid hb
  clear hi hb
  go_wp2
  refine bodyPost_ret (v := DV s (some ⟨w.heap.size + 3, 0, none⟩) n n) (by simp [results, Tryd.results7, go_sem, hc]) rfl ⟨rfl, ?_, ?_⟩
  · exact (((HI.out.other (c := w.heap.size + 1 + 1) (by omega) _ _).other (c := w.heap.size + 1) (by omega) _ _).other (c := w.heap.size + 1) (by omega) _ _)
  · exact (((bT (by first | exact bA (bA (bA0 _ _) _) _ | exact (bA (bA (bA0 _ _) _) _).setCell (by simp <;> omega) _) HB.out).setCell (Nat.le_add_right _ 2) _).setCell (Nat.le_add_right _ 1) _).setCell (Nat.le_add_right _ 1) _

set_option maxHeartbeats 1000000 in
theorem eqD_any (s : ByteArray) (sl sl2 : Option Addr) (cap cap2 : Nat) (ss : List ByteArray) (w : World) (hn : ss.length ≤ maxLen) (hz : Strs w sl ss) (hz2 : Strs w sl2 ss) :
    Calls Tryd.prog 10 #[DV s sl ss.length cap, DV s sl2 ss.length cap2] w fun e w' => e = .returned (.bool true) ∧ Below w.heap.size w w' := by
  have E : Hid (∀ w1, Below w.heap.size w w1 → Calls Tryd.prog 9 #[.slice sl ss.length cap, .slice sl2 ss.length cap2] w1 fun e w' => e = .returned (.bool true) ∧ Below w1.heap.size w1 w') :=
    fun w1 hb => eq_any sl sl2 cap cap2 ss w1 hn (hz.below hb) (hz2.below hb)
  clear hz hz2
  generalize ss.length = n at *
  go_enter Tryd.func10, Tryd.ntmps10
  go_wp2_with fail
  refine (E.out _ (bA (bA0 _ _) _)).mono ?_
  rintro e w1 ⟨rfl, hb⟩
  go_wp2
  go_ret
  exact ⟨rfl, bT (bA (bA0 _ _) _) hb⟩

/-- A disk in a block of its own. -/
def DAt (t : TypeId) (w : World) (b : Nat) (s : ByteArray) (v : Value) : Prop := w.heap[b]? = some (.cells #[.string s, v] t)
theorem DAt.cells {t : TypeId} {w : World} {b : Nat} {s : ByteArray} {v : Value} (h : DAt t w b s v) : w.cell? ⟨b, 0, none⟩ = some (.string s) ∧ w.cell? ⟨b, 1, none⟩ = some v := by
  unfold DAt at h
  refine ⟨?_, ?_⟩ <;> simp [World.cell?, h]
theorem DAt.lt {t : TypeId} {w : World} {b : Nat} {s : ByteArray} {v : Value} (h : DAt t w b s v) : b < w.heap.size := (Array.getElem?_eq_some_iff.1 h).1
theorem DAt.below {t : TypeId} {w w' : World} {b : Nat} {s : ByteArray} {v : Value} (h : DAt t w b s v) (hb : Below w.heap.size w w') : DAt t w' b s v := (hb.block b h.lt).trans h
theorem DAt.new (t : TypeId) (w : World) (s : ByteArray) (v : Value) : DAt t (w.alloc (.cells #[.string s, v] t)) w.heap.size s v := by
  show (w.heap.push _)[w.heap.size]? = _
  simp
theorem DAt.frozen {t : TypeId} {w : World} {b : Nat} {s : ByteArray} {v : Value} (h : DAt t w b s v) (o : Nat) : w.frozen? ⟨b, o, none⟩ = false := by
  unfold DAt at h; simp [World.frozen?, h]
theorem DAt.other {t : TypeId} {w : World} {b c : Nat} {s : ByteArray} {v : Value} (h : DAt t w b s v) (hne : b ≠ c) (i : Nat) (x : Value) : DAt t (w.setCell ⟨c, i, none⟩ x) b s v := (Below.heap_setCell _ _ _ _ hne).trans h

end Go.Proofs.YtmffoannknkjkaaDoor
namespace Go.Proofs.YtmffoannknkjkaaDoor
open Go.RowKit
set_option linter.unusedVariables false

theorem DAt.drew {t : TypeId} {w : World} {b : Nat} {s : ByteArray} {v : Value} (h : DAt t w b s v) : DAt t w.drew b s v := h
theorem Strs.drew {w : World} {sl : Option Addr} {ss : List ByteArray} (h : Strs w sl ss) : Strs w.drew sl ss := h
/-- The bytes of all texts, one behind the other. -/
def fl (ss : List ByteArray) : List UInt8 := (ss.map fun s => s.data.toList).flatten
theorem fl_app (a b : List ByteArray) : fl (a ++ b) = fl a ++ fl b := by simp [fl]
theorem fl_one (s : ByteArray) : fl [s] = s.data.toList := by simp [fl]
theorem fl_len (ss : List ByteArray) : (fl ss).length = tot ss := by
  induction ss with
  | nil => rfl
  | cons s r ih =>
    rw [show s :: r = [s] ++ r from rfl, fl_app, List.length_append, ih, tot_app, fl_one, tot_one]
    simp
theorem fl_step (ss : List ByteArray) (k : Nat) (h : k < ss.length) : fl (ss.take (k + 1)) = fl (ss.take k) ++ (at0 ss k).data.toList := by
  rw [List.take_succ_eq_append_getElem h, fl_app, fl_one, at0_lt _ _ h]
theorem fl_all (ss : List ByteArray) (k : Nat) (h : ss.length ≤ k) : fl (ss.take k) = fl ss := by rw [List.take_of_length_le h]
theorem fl_zero (ss : List ByteArray) : fl (ss.take 0) = [] := by simp [fl]

/-- A text's bytes copied into a row that has room for all of them. -/
theorem run_copy_text {P : Program} (w : World) (dT sT ty elem : TypeId) (g o dLen dCap : Nat) (s : ByteArray) (cur : Array Value) (t : TypeId)
    (hu : P.underlying dT = some (.slice elem)) (hs : (P.info? elem).map (·.size) = some 1)
    (hg : w.heap[g]? = some (.cells cur t (0, 0))) (hn : s.size ≤ dLen) (hfit : o + s.size ≤ cur.size) :
    (Builtin.copy_ #[dT, sT] ty #[.slice (some ⟨g, o, none⟩) dLen dCap, .string s]).run P w =
      .ok (goInt s.size) (w.setRow g (cur.toList.take o ++ Lib.strCells s ++ cur.toList.drop (o + s.size)).toArray) := by
  have hm : Nat.min s.size dLen = s.size := Nat.min_eq_left hn
  have hst := run_storeCells_at P g o t (Lib.strCells s) 0 cur w hg (by rw [Lib.strCells_length]; simpa using hfit) (Lib.strCells_oneCell s)
  have hfc := Lib.run_firstCells_string (P := P) w 1 s
  rw [Lib.strCells_length] at hst
  cases hq : P.info? elem with
  | none => simp [hq] at hs
  | some i =>
    have hi : i.size = 1 := by simpa [hq] using hs
    simp [Builtin.copy_, run_underlying hu, Builtin.lenOf, sizeOf, typeInfo, hq, hi, hm, hfc, hst]

/-- A row of bytes: l, then noughts up to n. -/
def bts (l : List UInt8) (n : Nat) : List Value := Lib.byteCells l ++ List.replicate (n - l.length) (.int .u8 0)
theorem bts_len (l : List UInt8) (n : Nat) (h : l.length ≤ n) : (bts l n).length = n := by simp [bts, Lib.byteCells]; omega
theorem bts_step (l : List UInt8) (n : Nat) (s : ByteArray) (h : l.length + s.size ≤ n) :
    (bts l n).take l.length ++ Lib.strCells s ++ (bts l n).drop (l.length + s.size) = bts (l ++ s.data.toList) n := by
  have h1 : (Lib.byteCells l).length = l.length := by simp [Lib.byteCells]
  have h2 : (bts l n).take l.length = Lib.byteCells l := by
    rw [bts, List.take_append_of_le_length (by omega), List.take_of_length_le (by omega)]
  have h3 : (bts l n).drop (l.length + s.size) = List.replicate (n - (l.length + s.size)) (.int .u8 0) := by
    rw [bts, List.drop_append, List.drop_of_length_le (by omega), List.nil_append, h1, List.drop_replicate]
    congr 1
    omega
  rw [h2, h3, bts]
  simp [Lib.byteCells, Lib.strCells]
theorem bts_full (l : List UInt8) (n : Nat) (h : l.length = n) : bts l n = Lib.byteCells l := by simp [bts, h]

def mkB (n : Nat) : Array Value := madeCells #[.int .u8 0] n
theorem mkB_eq (n : Nat) : mkB n = (bts [] n).toArray := by
  apply Array.toList_inj.1
  rw [mkB, toList_madeCells_one]
  simp [bts, Lib.byteCells]
theorem info5 : ∃ i, Tryd.prog.info? 5 = some i ∧ i.zero = some (.int .u8 0) ∧ i.size = 1 ∧ i.bytes = 1 := ⟨_, rfl, by kernel_rfl, by kernel_rfl, by kernel_rfl⟩
theorem size5 : (Tryd.prog.info? 5).map (·.size) = some 1 := by kernel_rfl
theorem makeB (n : Nat) (h : n ≤ 4000000) (w : World) :
    Sem.run Tryd.prog (Instr.makeSlice 44 (.int .i64 (n : Int)) (.int .i64 (n : Int))) w = .ok (.slice (some ⟨w.heap.size, 0, none⟩) n n) (w.alloc (.cells (mkB n) 5)) := by
  obtain ⟨i, h1, h2, h3, h4⟩ := info5
  have := run_make (P := Tryd.prog) w 44 5 i (.int .u8 0) Tryd.underlying44 h1 h2 .i64 .i64 (n : Int) (n : Int) (by omega) (Int.le_refl _) (by rw [h4]; omega) (by omega)
  rw [this, h3]
  simp [mkB, Value.cells]

/-- The bytes l alone in a block. -/
def BAt (w : World) (g : Nat) (vs : List Value) : Prop := w.heap[g]? = some (.cells vs.toArray 5)
theorem BAt.lt {w : World} {g : Nat} {vs : List Value} (h : BAt w g vs) : g < w.heap.size := (Array.getElem?_eq_some_iff.1 h).1
theorem BAt.below {w w' : World} {g : Nat} {vs : List Value} (h : BAt w g vs) (hb : Below w.heap.size w w') : BAt w' g vs := (hb.block g h.lt).trans h
theorem BAt.text {w : World} {g cap : Nat} {l : List UInt8} (h : BAt w g (Lib.byteCells l)) : Sem.run Tryd.prog (convert 44 9 (.slice (some ⟨g, 0, none⟩) l.length cap)) w = .ok (.string ⟨l.toArray⟩) w := by
  refine run_convert_bytes_back (P := Tryd.prog) w 44 9 5 ⟨g, 0, none⟩ cap l Tryd.underlying44 Tryd.underlying5 Tryd.underlying9 (fun j hj => ?_)
  have ha : (⟨g, 0, none⟩ : Addr).add j = ⟨g, j, none⟩ := by
    unfold Addr.add
    by_cases h : j = 0 <;> simp [h]
  unfold BAt at h
  rw [ha]
  simp only [World.cell?, h]
  simp [Lib.byteCells, hj]
theorem below_row {B g : Nat} {w0 w : World} (hb : Below B w0 w) (hBg : B ≤ g) (cs : Array Value) : Below B w0 (w.setRow g cs) :=
  hb.trans ⟨rfl, rfl, rfl, by simp [World.setRow], fun k hk => setRow_other w g k cs (by omega)⟩

set_option maxHeartbeats 1000000 in
theorem loose_some (s : ByteArray) (c o cap : Nat) (ss : List ByteArray) (w : World) (hr : dR s ss = true) (hz : StrsAt w c o ss) :
    Calls Tryd.prog 34 #[DV s (some ⟨c, o, none⟩) ss.length cap] w fun e w' => ∃ g, e = .returned (.slice (some ⟨g, 0, none⟩) (tot ss) (tot ss)) ∧ w.heap.size ≤ g ∧ BAt w' g (Lib.byteCells (fl ss)) ∧ Below w.heap.size w w' := by
  obtain ⟨hn, ha, ht⟩ := dR_parts hr
  have SZ : Hid (∀ w1, Below w.heap.size w w1 → Calls Tryd.prog 44 #[DV s (some ⟨c, o, none⟩) ss.length cap] w1 fun e w' => e = .returned (.int .i64 ((s.size + tot ss : Nat) : Int)) ∧ Below w1.heap.size w1 w') :=
    fun w1 hb => size_some s c o cap ss w1 (by unfold maxLen; omega) (by omega) (hz.below hb)
  have HZ := Lib.hid hz
  have HA := Lib.hid ha
  clear hz hr ha
  generalize hN : ss.length = n at *
  have HN : Hid (ss.length = n) := hN
  clear hN
  have hmk : ∀ w, Sem.run Tryd.prog (Instr.makeSlice 44 (.int .i64 (IntKind.i64.wrap (((s.size + tot ss : Nat) : Int) - (s.size : Int)))) (.int .i64 (IntKind.i64.wrap (((s.size + tot ss : Nat) : Int) - (s.size : Int))))) w = .ok (.slice (some ⟨w.heap.size, 0, none⟩) (tot ss) (tot ss)) (w.alloc (.cells (mkB (tot ss)) 5)) := by
    intro w
    rw [show IntKind.i64.wrap (((s.size + tot ss : Nat) : Int) - (s.size : Int)) = (tot ss : Int) by rw [IntKind.wrap_i64]; omega]
    exact makeB (tot ss) (by omega) w
  have HK := Lib.hid (mkB_eq (tot ss))
  have hsT : (s.size : Int) ≤ ((s.size + tot ss : Nat) : Int) := by omega
  have hT2 : ((s.size + tot ss : Nat) : Int) ≤ 20000 := by omega
  generalize hT : tot ss = T at *
  have HT := Lib.hid hT
  clear hT
  have hTle : T ≤ 20000 := by omega
  generalize s.size + T = T2 at *
  have D0 := DAt.new 27 w s (.slice (some ⟨c, o, none⟩) n cap)
  obtain ⟨c0, c1⟩ := D0.cells
  go_enter Tryd.func34, Tryd.ntmps34
  go_wp2_with fail
  go_region_held3 (fun w' => w.heap.size < w'.heap.size ∧ w'.cell? ⟨w.heap.size, 0, none⟩ = some (.string s) ∧ w'.cell? ⟨w.heap.size, 1, none⟩ = some (.slice (some ⟨c, o, none⟩) n cap))
    (first | exact ⟨D0.lt, c0, c1⟩ | exact ⟨Nat.lt_of_lt_of_le D0.lt b5.size, (b5.cell D0.lt).trans c0, (b5.cell D0.lt).trans c1⟩ | exact ⟨Nat.lt_of_lt_of_le D0.lt (Nat.le_trans b5.size (bA0 _ _).size), ((bA0 _ _).cell (Nat.lt_of_lt_of_le D0.lt b5.size)).trans ((b5.cell D0.lt).trans c0), ((bA0 _ _).cell (Nat.lt_of_lt_of_le D0.lt b5.size)).trans ((b5.cell D0.lt).trans c1)⟩)
    (first | (go_at_call 44; refine (SZ.out _ (by first | exact bA0 _ _ | exact (bA0 _ _).drew | exact below_drewN (bA0 _ _) _)).mono ?_; rintro e w5 ⟨rfl, b5⟩))
  have B5 : Hid (Below w.heap.size w w5) := bT (bA0 _ _).drew b5
  have D5 : Hid (DAt 27 w5 w.heap.size s (.slice (some ⟨c, o, none⟩) n cap)) := D0.drew.below b5
  clear D0 b5 c0 c1 SZ hmk hsT hT2
  obtain ⟨c0, c1⟩ := ((D5.out.below (bA0 _ (.cells (mkB T) 5)))).cells
  have hw5 := B5.out.size
  have HG : Hid (BAt (w5.alloc (.cells (mkB T) 5)) w5.heap.size (bts (fl (ss.take 0)) T)) := by
    show (w5.heap.push _)[w5.heap.size]? = _
    rw [fl_zero]
    simp [HK.out]
  have hlt5 := D5.out.lt
  go_wp2
  go_loopw [4, 17] (fun a i wr => ∃ k : Nat, i = .int .i64 k ∧ k ≤ n ∧ a = .int .i64 (tot (ss.take k)) ∧ Hid (BAt wr w5.heap.size (bts (fl (ss.take k)) T)) ∧ Hid (Below w.heap.size w wr)) (fun _ i _ => n - (intOf i).toNat)
  case atStart => exact ⟨0, rfl, Nat.zero_le _, by rw [tot_zero]; rfl, HG, bA B5.out _⟩
  case round =>
    obtain ⟨k, rfl, hk, rfl, H1, H2⟩ := hrel
    have hk0 : (0 : Int) ≤ (k : Int) := by omega
    by_cases h1 : k < n
    · have h1' : (k : Int) < (n : Int) := by omega
      have hlt : k < ss.length := by rw [HN.out]; exact h1
      have hc : wr.cell? ⟨c, o + k, none⟩ = some (.string (at0 ss k)) := by
        rw [H2.out.cell HZ.out.1]; exact HZ.out.2 k hlt
      have E := tot_step ss k hlt
      have T1 := tot_take ss (k + 1)
      have FE := fl_step ss k hlt
      have FL := fl_len (ss.take k)
      have hne : 0 < (at0 ss k).size := by
        have h2 := List.all_eq_true.1 HA.out _ (at0_mem ss k hlt)
        simp only [neB, Bool.not_eq_true', Go.ByteArray.toList_eq] at h2
        rcases Nat.eq_zero_or_pos (at0 ss k).size with h0 | h0
        · have : (at0 ss k).data.toList = [] := List.eq_nil_of_length_eq_zero (by simpa using h0)
          rw [this] at h2; cases h2
        · exact h0
      have hTT := HT.out
      have BS := bts_step (fl (ss.take k)) T (at0 ss k) (by omega)
      rw [← FE, FL] at BS
      have hcp := run_copy_text (P := Tryd.prog) wr 44 9 3 5 w5.heap.size (tot (ss.take k)) (T - tot (ss.take k)) (T - tot (ss.take k)) (at0 ss k) (bts (fl (ss.take k)) T).toArray 5 Tryd.underlying44 size5 H1.out (by omega) (by rw [List.size_toArray, bts_len _ _ (by omega)]; omega)
      rw [BS] at hcp
      have H3 : Hid (BAt (wr.setRow w5.heap.size (bts (fl (ss.take (k + 1))) T).toArray) w5.heap.size (bts (fl (ss.take (k + 1))) T)) := setRow_heap wr w5.heap.size _ _ 5 _ H1.out
      have H4 : Hid (Below w.heap.size w (wr.setRow w5.heap.size (bts (fl (ss.take (k + 1))) T).toArray)) := below_row H2.out hw5 _
      have E' := Lib.hid E
      have hlT : tot (ss.take k) + (at0 ss k).size ≤ T := by omega
      clear hlt E T1 FE FL BS hTT
      generalize at0 ss k = z at *
      generalize tot (ss.take k) = t at *
      generalize wr.setRow w5.heap.size (bts (fl (ss.take (k + 1))) T).toArray = wn at *
      have ht1 : (t : Int) ≤ (T : Int) := by omega
      have ht0 : (0 : Int) ≤ (t : Int) := by omega
      have ht2 : (t : Int) < (T : Int) := by omega
      go_wp2
      go_roundw
      case rel => exact ⟨k + 1, by go_num, by omega, by rw [E'.out]; go_num, H3, H4⟩
      case measure => simp [intOf]; omega
    · have h1' : ¬ (k : Int) < (n : Int) := by omega
      have H5 : Hid (BAt wr w5.heap.size (Lib.byteCells (fl ss))) := by
        have h3 := HN.out
        have h4 := H1.out
        rw [fl_all ss k (by omega), bts_full _ _ (by rw [fl_len]; exact HT.out)] at h4
        exact h4
      go_wp2
      go_ret
      exact ⟨_, rfl, hw5, H5.out, H2.out⟩

set_option maxHeartbeats 1000000 in
theorem loose_nil (s : ByteArray) (sl : Option Addr) (cap : Nat) (w : World) (hs : s.size ≤ 20000) :
    Calls Tryd.prog 34 #[DV s sl 0 cap] w fun e w' => ∃ g, e = .returned (.slice (some ⟨g, 0, none⟩) 0 0) ∧ w.heap.size ≤ g ∧ BAt w' g (Lib.byteCells []) ∧ Below w.heap.size w w' := by
  have SZ : Hid (∀ w1, Calls Tryd.prog 44 #[DV s sl 0 cap] w1 fun e w' => e = .returned (.int .i64 (s.size : Int)) ∧ Below w1.heap.size w1 w') :=
    fun w1 => size_nil s sl cap w1
  have hmk : ∀ w, Sem.run Tryd.prog (Instr.makeSlice 44 (.int .i64 (IntKind.i64.wrap ((s.size : Int) - (s.size : Int)))) (.int .i64 (IntKind.i64.wrap ((s.size : Int) - (s.size : Int))))) w = .ok (.slice (some ⟨w.heap.size, 0, none⟩) 0 0) (w.alloc (.cells (mkB 0) 5)) := by
    intro w
    rw [show IntKind.i64.wrap ((s.size : Int) - (s.size : Int)) = ((0 : Nat) : Int) by rw [IntKind.wrap_i64]; omega]
    exact makeB 0 (by omega) w
  have hmk0 : ∀ w, Sem.run Tryd.prog (Instr.makeSlice 44 (.int .i64 (IntKind.i64.wrap 0)) (.int .i64 (IntKind.i64.wrap 0))) w = .ok (.slice (some ⟨w.heap.size, 0, none⟩) 0 0) (w.alloc (.cells (mkB 0) 5)) := by
    intro w
    rw [show IntKind.i64.wrap 0 = ((0 : Nat) : Int) by rw [IntKind.wrap_i64]; omega]
    exact makeB 0 (by omega) w
  have HK := Lib.hid (mkB_eq 0)
  have D0 := DAt.new 27 w s (.slice sl 0 cap)
  obtain ⟨c0, c1⟩ := D0.cells
  go_enter Tryd.func34, Tryd.ntmps34
  go_wp2_with fail
  go_region_held3 (fun w' => w.heap.size < w'.heap.size ∧ w'.cell? ⟨w.heap.size, 0, none⟩ = some (.string s) ∧ w'.cell? ⟨w.heap.size, 1, none⟩ = some (.slice sl 0 cap))
    (first | exact ⟨D0.lt, c0, c1⟩ | exact ⟨Nat.lt_of_lt_of_le D0.lt b5.size, (b5.cell D0.lt).trans c0, (b5.cell D0.lt).trans c1⟩ | exact ⟨Nat.lt_of_lt_of_le D0.lt (Nat.le_trans b5.size (bA0 _ _).size), ((bA0 _ _).cell (Nat.lt_of_lt_of_le D0.lt b5.size)).trans ((b5.cell D0.lt).trans c0), ((bA0 _ _).cell (Nat.lt_of_lt_of_le D0.lt b5.size)).trans ((b5.cell D0.lt).trans c1)⟩)
    (first | (go_at_call 44; refine (SZ.out _).mono ?_; rintro e w5 ⟨rfl, b5⟩))
  have B5 : Hid (Below w.heap.size w w5) := bT (bA0 _ _).drew b5
  have D5 : Hid (DAt 27 w5 w.heap.size s (.slice sl 0 cap)) := D0.drew.below b5
  clear D0 b5 c0 c1 SZ hmk hmk0
  obtain ⟨c0, c1⟩ := ((D5.out.below (bA0 _ (.cells (mkB 0) 5)))).cells
  have hw5 := B5.out.size
  have HG : Hid (BAt (w5.alloc (.cells (mkB 0) 5)) w5.heap.size (Lib.byteCells [])) := by
    show (w5.heap.push _)[w5.heap.size]? = _
    simp [HK.out, bts]
  have hlt5 := D5.out.lt
  go_wp2
  refine wp_loop_rounds 1 ?_
  rw [rounds_succ]
  go_wp2
  go_ret
  exact ⟨_, rfl, hw5, HG.out, bA B5.out _⟩

theorem loose_any (s : ByteArray) (sl : Option Addr) (cap : Nat) (ss : List ByteArray) (w : World) (hr : dR s ss = true) (hz : Strs w sl ss) :
    Calls Tryd.prog 34 #[DV s sl ss.length cap] w fun e w' => ∃ g, e = .returned (.slice (some ⟨g, 0, none⟩) (tot ss) (tot ss)) ∧ w.heap.size ≤ g ∧ BAt w' g (Lib.byteCells (fl ss)) ∧ Below w.heap.size w w' := by
  rcases hz with rfl | ⟨c, o, rfl, hz⟩
  · have := (dR_parts hr).2.2
    exact loose_nil s sl cap w (by omega)
  · exact loose_some s c o cap ss w hr hz

end Go.Proofs.YtmffoannknkjkaaDoor
