/-
  LISTS OF TEXTS: how they lie, their sizes, how they are copied and held against each other.
-/
import Derived.Test.YtaongccmipjgeaaRows
import Derived.WalkKit
import Derived.WalkSpells
import Derived.WalkLawsBesides
import Derived.Laws.EntriesVeiled
import Derived.Deep.QuietTactic
import Derived.BigQuiet
import Derived.Lib.Hide
namespace Go.Proofs.Ytaongccmipjgeaa
open Go.RowKit
set_option linter.unusedVariables false

theorem bcell {W w1 : World} (hb : Below W.heap.size W w1) : (∀ b o, b < W.heap.size → w1.cell? ⟨b, o, none⟩ = W.cell? ⟨b, o, none⟩) ∧ (∀ b o, b < W.heap.size → w1.frozen? ⟨b, o, none⟩ = W.frozen? ⟨b, o, none⟩) :=
  ⟨fun _ _ h => hb.cell h, fun _ _ h => hb.frozen h⟩
theorem bT {W w w1 : World} (h : Below W.heap.size W w) (hb : Below w.heap.size w w1) : Below W.heap.size W w1 := h.trans (hb.mono h.size)
theorem bA {W w : World} (h : Below W.heap.size W w) (o : Obj) : Below W.heap.size W (w.alloc o) := h.alloc h.size o
theorem bA0 (W : World) (o : Obj) : Below W.heap.size W (W.alloc o) := (Below.refl _ _).alloc (Nat.le_refl _) o

/-- The i-th text. -/
def at0 (ss : List ByteArray) (i : Nat) : ByteArray := ss.getD i ⟨#[]⟩
theorem at0_lt (ss : List ByteArray) (i : Nat) (h : i < ss.length) : at0 ss i = ss[i] := by simp [at0, h]
theorem at0_mem (ss : List ByteArray) (i : Nat) (h : i < ss.length) : at0 ss i ∈ ss := by rw [at0_lt _ _ h]; exact List.getElem_mem h
/-- The texts ss lie from cell o of block c on. -/
def StrsAt (w : World) (c o : Nat) (ss : List ByteArray) : Prop :=
  c < w.heap.size ∧ ∀ i, i < ss.length → w.cell? ⟨c, o + i, none⟩ = some (.string (at0 ss i))
/-- A slice of the texts ss. -/
def Strs (w : World) (sl : Option Addr) (ss : List ByteArray) : Prop := ss = [] ∨ ∃ c o, sl = some ⟨c, o, none⟩ ∧ StrsAt w c o ss

theorem StrsAt.below {w w' : World} {c o : Nat} {ss : List ByteArray} (h : StrsAt w c o ss) (hb : Below w.heap.size w w') : StrsAt w' c o ss :=
  ⟨Nat.lt_of_lt_of_le h.1 hb.size, fun i hi => (hb.cell h.1).trans (h.2 i hi)⟩
theorem Strs.below {w w' : World} {sl : Option Addr} {ss : List ByteArray} (h : Strs w sl ss) (hb : Below w.heap.size w w') : Strs w' sl ss := by
  rcases h with h | ⟨c, o, e, h⟩
  · exact .inl h
  · exact .inr ⟨c, o, e, h.below hb⟩

/-- The sizes of all together. -/
def tot (ss : List ByteArray) : Nat := (ss.map ByteArray.size).sum
theorem tot_app (a b : List ByteArray) : tot (a ++ b) = tot a + tot b := by simp [tot]
theorem tot_one (s : ByteArray) : tot [s] = s.size := by simp [tot]
theorem tot_step (ss : List ByteArray) (k : Nat) (h : k < ss.length) : tot (ss.take (k + 1)) = tot (ss.take k) + (at0 ss k).size := by
  rw [List.take_succ_eq_append_getElem h, at0_lt _ _ h, tot_app, tot_one]
theorem tot_take (ss : List ByteArray) (k : Nat) : tot (ss.take k) ≤ tot ss := by
  have : tot ss = tot (ss.take k) + tot (ss.drop k) := by rw [← tot_app, List.take_append_drop]
  omega
theorem tot_all (ss : List ByteArray) (k : Nat) (h : ss.length ≤ k) : tot (ss.take k) = tot ss := by rw [List.take_of_length_le h]
theorem tot_zero (ss : List ByteArray) : tot (ss.take 0) = 0 := by simp [tot]

/-- What is left of m. -/
def szS (m : Int) (ss : List ByteArray) : Int := if m - ss.length - tot ss < 0 then -1 else m - ss.length - tot ss

set_option maxHeartbeats 400000 in
theorem szS_long (sl : Option Addr) (n cap : Nat) (m : Int) (w : World) (hn : n ≤ maxLen) (h0 : 0 ≤ m) (h1 : m ≤ 1048576) (h : m - n < 0) :
    Calls Try.prog 39 #[.slice sl n cap, .int .i64 m] w fun e w' => e = .returned (.int .i64 (-1)) ∧ w' = w := by
  unfold maxLen at hn
  go_enter Try.func39, Try.ntmps39
  go_wp2
  go_ret
  exact ⟨rfl, rfl⟩

set_option maxHeartbeats 400000 in
theorem szS_nil (sl : Option Addr) (cap : Nat) (m : Int) (w : World) (h0 : 0 ≤ m) (h1 : m ≤ 1048576) :
    Calls Try.prog 39 #[.slice sl 0 cap, .int .i64 m] w fun e w' => e = .returned (.int .i64 m) ∧ w' = w := by
  have h2 : ¬ m < 0 := by omega
  go_enter Try.func39, Try.ntmps39
  go_wp2
  refine wp_loop_rounds 1 ?_
  rw [rounds_succ]
  go_wp2
  go_ret
  exact ⟨rfl, rfl⟩

set_option maxHeartbeats 400000 in
theorem szS_some (c o cap : Nat) (ss : List ByteArray) (m : Int) (w : World) (hz : StrsAt w c o ss) (hs : ∀ s ∈ ss, s.size ≤ maxLen) (h1 : m ≤ 1048576) (h2 : ¬ m - ss.length < 0) :
    Calls Try.prog 39 #[.slice (some ⟨c, o, none⟩) ss.length cap, .int .i64 m] w fun e w' => e = .returned (.int .i64 (szS m ss)) ∧ w' = w := by
  unfold maxLen at hs
  have HZ := Lib.hid hz
  have HS := Lib.hid hs
  clear hz hs
  generalize hN : ss.length = n at *
  have HN : Hid (ss.length = n) := hN
  clear hN
  go_enter Try.func39, Try.ntmps39
  go_wp2
  go_loop [1, 5] (fun l i => ∃ k : Nat, i = .int .i64 k ∧ k ≤ n ∧ l = .int .i64 (m - n - (tot (ss.take k) : Nat)) ∧ ¬ (m - n - (tot (ss.take k) : Nat) < 0)) (fun _ i => n - (intOf i).toNat)
  case atStart => exact ⟨0, rfl, Nat.zero_le _, by rw [tot_zero]; simp, by rw [tot_zero]; omega⟩
  case round =>
    obtain ⟨k, rfl, hk, rfl, hge⟩ := hrel
    have hk0 : (0 : Int) ≤ (k : Int) := by omega
    by_cases h1 : k < n
    · have h1' : (k : Int) < (n : Int) := by omega
      have hlt : k < ss.length := by rw [HN.out]; exact h1
      have hc : w.cell? ⟨c, o + k, none⟩ = some (.string (at0 ss k)) := HZ.out.2 k hlt
      have hzz := HS.out _ (at0_mem ss k hlt)
      have E := Lib.hid (tot_step ss k hlt)
      have T := Lib.hid (tot_take ss (k + 1))
      clear hlt
      generalize at0 ss k = z at *
      generalize tot (ss.take k) = t at *
      by_cases hneg : m - n - (t : Int) - (z.size : Int) < 0
      · have HF : Hid (szS m ss = -1) := by
          show _ = _
          unfold szS
          have h1 := E.out; have h2 := T.out; have h3 := HN.out
          rw [if_pos (by omega)]
        go_wp2
        go_ret
        exact ⟨by rw [HF.out]; rfl, rfl⟩
      · have EE : Hid (m - n - (t : Int) - (z.size : Int) = m - n - ((tot (ss.take (k + 1)) : Nat) : Int)) := by show _ = _; rw [E.out]; omega
        go_wp2
        go_round
        case rel => exact ⟨k + 1, by go_num, by omega, by rw [EE.out], by rw [← EE.out]; exact hneg⟩
        case measure => simp [intOf]; omega
    · have h1' : ¬ (k : Int) < (n : Int) := by omega
      have EE : Hid (szS m ss = m - n - (tot (ss.take k) : Nat)) := by
        show _ = _
        have h3 := HN.out
        rw [tot_all ss k (by omega)] at hge ⊢
        unfold szS
        rw [if_neg (by omega), HN.out]
      go_wp2
      go_ret
      exact ⟨by rw [EE.out]; rfl, rfl⟩

theorem szS_any (sl : Option Addr) (cap : Nat) (ss : List ByteArray) (m : Int) (w : World) (hn : ss.length ≤ maxLen) (hz : Strs w sl ss) (hs : ∀ s ∈ ss, s.size ≤ maxLen) (h0 : 0 ≤ m) (h1 : m ≤ 1048576) :
    Calls Try.prog 39 #[.slice sl ss.length cap, .int .i64 m] w fun e w' => e = .returned (.int .i64 (szS m ss)) ∧ w' = w := by
  by_cases h : m - ss.length < 0
  · have e : szS m ss = -1 := by unfold szS; rw [if_pos (by omega)]
    rw [e]
    exact szS_long sl _ cap m w hn h0 h1 h
  · rcases hz with rfl | ⟨c, o, rfl, hz⟩
    · have e : szS m [] = m := by unfold szS; simp [tot]; omega
      rw [e]
      exact szS_nil sl cap m w h0 h1
    · exact szS_some c o cap ss m w hz hs h1 h

/-- The first k of ss written, the rest empty. -/
def vsOf (ss : List ByteArray) (k : Nat) : Array Value := ((ss.take k).map Value.string ++ List.replicate (ss.length - k) (Value.string ⟨#[]⟩)).toArray
def RowAt (w : World) (b : Nat) (vs : Array Value) : Prop := w.heap[b]? = some (.cells vs 9)

theorem vs_size (zs : List ByteArray) (k : Nat) (h : k ≤ zs.length) : (vsOf zs k).size = zs.length := by simp [vsOf]; omega
theorem vs_step (zs : List ByteArray) (k : Nat) (h : k < zs.length) : (vsOf zs k).setIfInBounds k (.string (at0 zs k)) = vsOf zs (k + 1) := by
  apply Array.ext
  · simp [vsOf]; omega
  · intro i h1 h2
    simp only [Array.size_setIfInBounds] at h1
    rw [Array.getElem_setIfInBounds h1]
    simp only [vsOf, List.getElem_toArray]
    by_cases hi : k = i
    · subst hi
      rw [if_pos rfl, List.getElem_append_left (by simp; omega)]
      simp [h, at0]
    · rw [if_neg hi]
      by_cases hlt : i < k
      · rw [List.getElem_append_left (by simp; omega), List.getElem_append_left (by simp; omega)]
        simp
      · rw [List.getElem_append_right (by simp; omega), List.getElem_append_right (by simp; omega)]
        simp
theorem vs_at (zs : List ByteArray) (k : Nat) (h : k < zs.length) : (vsOf zs k)[k]? = some (.string ⟨#[]⟩) := by
  rw [Array.getElem?_eq_getElem (by rw [vs_size zs k (by omega)]; exact h)]
  simp only [vsOf, List.getElem_toArray]
  rw [List.getElem_append_right (by simp; omega)]
  simp
theorem vs_all (zs : List ByteArray) (k : Nat) (hk : zs.length ≤ k) (i : Nat) (h : i < zs.length) : (vsOf zs k)[i]? = some (.string (at0 zs i)) := by
  rw [Array.getElem?_eq_getElem (by simp [vsOf]; omega)]
  simp only [vsOf, List.getElem_toArray]
  rw [List.getElem_append_left (by simp; omega)]
  simp [h, at0]
theorem RowAt.cell {w : World} {b : Nat} {vs : Array Value} (h : RowAt w b vs) (i : Nat) : w.cell? ⟨b, i, none⟩ = vs[i]? := by
  unfold RowAt at h; simp [World.cell?, h]
theorem RowAt.frozen {w : World} {b : Nat} {vs : Array Value} (h : RowAt w b vs) (i : Nat) : w.frozen? ⟨b, i, none⟩ = false := by
  unfold RowAt at h; simp [World.frozen?, h]
theorem RowAt.lt {w : World} {b : Nat} {vs : Array Value} (h : RowAt w b vs) : b < w.heap.size := (Array.getElem?_eq_some_iff.1 h).1
theorem RowAt.set {w : World} {b : Nat} {vs : Array Value} (h : RowAt w b vs) (i : Nat) (v : Value) : RowAt (w.setCell ⟨b, i, none⟩ v) b (vs.setIfInBounds i v) := heap_setCell_same w b i vs 9 v h
theorem RowAt.strs {w : World} {b : Nat} {zs : List ByteArray} {k : Nat} (h : RowAt w b (vsOf zs k)) (hk : zs.length ≤ k) : StrsAt w b 0 zs :=
  ⟨h.lt, fun i hi => by rw [Nat.zero_add, h.cell i]; exact vs_all zs k hk i hi⟩

def mkS (n : Nat) : Array Value := madeCells #[.string ⟨#[]⟩] n
theorem mkS_eq (zs : List ByteArray) : mkS zs.length = vsOf zs 0 := by
  apply Array.toList_inj.1
  rw [mkS, toList_madeCells_one]
  simp [vsOf]
theorem info9 : ∃ i, Try.prog.info? 9 = some i ∧ i.zero = some (.string ⟨#[]⟩) ∧ i.size = 1 ∧ i.bytes = 16 := ⟨_, rfl, by kernel_rfl, by kernel_rfl, by kernel_rfl⟩
theorem makeS (n : Nat) (h : n ≤ 1048576) (w : World) :
    Sem.run Try.prog (Instr.makeSlice 23 (.int .i64 (n : Int)) (.int .i64 (n : Int))) w = .ok (.slice (some ⟨w.heap.size, 0, none⟩) n n) (w.alloc (.cells (mkS n) 9)) := by
  obtain ⟨i, h1, h2, h3, h4⟩ := info9
  have := run_make (P := Try.prog) w 23 9 i (.string ⟨#[]⟩) Try.underlying23 h1 h2 .i64 .i64 (n : Int) (n : Int) (by omega) (Int.le_refl _) (by rw [h4]; omega) (by omega)
  rw [this, h3]
  simp [mkS, Value.cells]

set_option maxHeartbeats 400000 in
theorem to_nil (sl : Option Addr) (cap : Nat) (w : World) :
    Calls Try.prog 40 #[.slice sl 0 cap] w fun e w' => e = .returned (.slice (some ⟨w.heap.size, 0, none⟩) 0 0) ∧ RowAt w' w.heap.size (vsOf [] 0) ∧ Below w.heap.size w w' := by
  have hmk : ∀ w : World, Sem.run Try.prog (Instr.makeSlice 23 (.int .i64 0) (.int .i64 0)) w = .ok (.slice (some ⟨w.heap.size, 0, none⟩) 0 0) (w.alloc (.cells (mkS 0) 9)) := fun w => makeS 0 (by omega) w
  have HK : Hid (mkS 0 = vsOf [] 0) := mkS_eq []
  go_enter Try.func40, Try.ntmps40
  go_wp2
  refine wp_loop_rounds 1 ?_
  rw [rounds_succ]
  go_wp2
  go_ret
  refine ⟨rfl, ?_, bA0 _ _⟩
  show (w.heap.push _)[w.heap.size]? = _
  simp [HK.out]

set_option maxHeartbeats 1000000 in
theorem to_some (c o cap : Nat) (zs : List ByteArray) (w : World) (hn : zs.length ≤ 1048576) (hz : StrsAt w c o zs) :
    Calls Try.prog 40 #[.slice (some ⟨c, o, none⟩) zs.length cap] w fun e w' => e = .returned (.slice (some ⟨w.heap.size, 0, none⟩) zs.length zs.length) ∧ RowAt w' w.heap.size (vsOf zs zs.length) ∧ Below w.heap.size w w' := by
  have hmk := makeS zs.length hn
  have HZ : Hid (StrsAt w c o zs) := hz
  have HK : Hid (mkS zs.length = vsOf zs 0) := mkS_eq zs
  clear hz
  generalize hN : zs.length = n at *
  have HN : Hid (zs.length = n) := hN
  clear hN
  go_enter Try.func40, Try.ntmps40
  go_wp2
  go_loopw [4] (fun i wr => ∃ (k : Nat), i = .int .i64 k ∧ k ≤ n ∧ Hid (Below w.heap.size w wr) ∧ Hid (RowAt wr w.heap.size (vsOf zs k))) (fun i _ => n - (intOf i).toNat)
  case atStart =>
    refine ⟨0, rfl, Nat.zero_le _, bA0 _ _, ?_⟩
    show (w.heap.push _)[w.heap.size]? = _
    simp [HK.out]
  case round =>
    obtain ⟨k, rfl, hk, H3, H4⟩ := hrel
    have hk0 : (0 : Int) ≤ (k : Int) := by omega
    by_cases h1 : k < n
    · have h1' : (k : Int) < (n : Int) := by omega
      have hlt : k < zs.length := by rw [HN.out]; exact h1
      have hc : wr.cell? ⟨c, o + k, none⟩ = some (.string (at0 zs k)) := by
        rw [H3.out.cell HZ.out.1]; exact HZ.out.2 k hlt
      have hd : wr.cell? ⟨w.heap.size, k, none⟩ = some (.string ⟨#[]⟩) := by rw [H4.out.cell]; exact vs_at zs k hlt
      have hf := H4.out.frozen k
      have H5 : Hid (RowAt (wr.setCell ⟨w.heap.size, k, none⟩ (.string (at0 zs k))) w.heap.size (vsOf zs (k + 1))) := by
        show RowAt _ _ _
        rw [← vs_step zs k hlt]; exact H4.out.set k _
      clear hlt
      generalize at0 zs k = z at *
      go_wp2
      go_roundw
      case rel => exact ⟨k + 1, by go_num, by omega, H3.out.setCell (Nat.le_refl _) _, H5⟩
      case measure => simp [intOf]; omega
    · have h1' : ¬ (k : Int) < (n : Int) := by omega
      have hkn : k = n := by omega
      have H6 : Hid (RowAt wr w.heap.size (vsOf zs n)) := (congrArg (vsOf zs) hkn) ▸ H4.out
      clear hkn
      go_wp2
      go_ret
      exact ⟨rfl, H6.out, H3.out⟩

theorem to_any (sl : Option Addr) (cap : Nat) (zs : List ByteArray) (w : World) (hn : zs.length ≤ 1048576) (hz : Strs w sl zs) :
    Calls Try.prog 40 #[.slice sl zs.length cap] w fun e w' => e = .returned (.slice (some ⟨w.heap.size, 0, none⟩) zs.length zs.length) ∧ RowAt w' w.heap.size (vsOf zs zs.length) ∧ Below w.heap.size w w' := by
  rcases hz with rfl | ⟨c, o, rfl, h⟩
  · exact to_nil sl cap w
  · exact to_some c o cap zs w hn h

set_option maxHeartbeats 400000 in
theorem eq_nil (sl sl2 : Option Addr) (cap cap2 : Nat) (w : World) :
    Calls Try.prog 41 #[.slice sl 0 cap, .slice sl2 0 cap2] w fun e w' => e = .returned (.bool true) ∧ Below w.heap.size w w' := by
  go_enter Try.func41, Try.ntmps41
  go_wp2
  refine wp_loop_rounds 1 ?_
  rw [rounds_succ]
  go_wp2
  go_ret
  exact ⟨rfl, Below.refl _ _⟩

set_option maxHeartbeats 1000000 in
theorem eq_some (c o cap c2 o2 cap2 : Nat) (zs : List ByteArray) (w : World) (hn : zs.length ≤ maxLen) (hz : StrsAt w c o zs) (hz2 : StrsAt w c2 o2 zs) :
    Calls Try.prog 41 #[.slice (some ⟨c, o, none⟩) zs.length cap, .slice (some ⟨c2, o2, none⟩) zs.length cap2] w fun e w' => e = .returned (.bool true) ∧ Below w.heap.size w w' := by
  unfold maxLen at hn
  have HZ : Hid (StrsAt w c o zs ∧ StrsAt w c2 o2 zs) := ⟨hz, hz2⟩
  clear hz hz2
  generalize hN : zs.length = n at *
  have HN : Hid (zs.length = n) := hN
  clear hN
  go_enter Try.func41, Try.ntmps41
  go_wp2
  go_loopw [5] (fun i wr => ∃ (k : Nat), i = .int .i64 k ∧ k ≤ n ∧ Hid (Below w.heap.size w wr)) (fun i _ => n - (intOf i).toNat)
  case atStart => exact ⟨0, rfl, Nat.zero_le _, Below.refl _ _⟩
  case round =>
    obtain ⟨k, rfl, hk, H3⟩ := hrel
    have hk0 : (0 : Int) ≤ (k : Int) := by omega
    by_cases h1 : k < n
    · have h1' : (k : Int) < (n : Int) := by omega
      have hlt : k < zs.length := by rw [HN.out]; exact h1
      have hc : wr.cell? ⟨c, o + k, none⟩ = some (.string (at0 zs k)) := by
        rw [H3.out.cell HZ.out.1.1]; exact HZ.out.1.2 k hlt
      have hd : wr.cell? ⟨c2, o2 + k, none⟩ = some (.string (at0 zs k)) := by
        rw [H3.out.cell HZ.out.2.1]; exact HZ.out.2.2 k hlt
      clear hlt
      generalize at0 zs k = z at *
      go_wp2
      go_quiet (fail)
      go_wp2
      go_roundw
      case rel => exact ⟨k + 1, by go_num, by omega, below_drewN H3.out _⟩
      case measure => simp [intOf]; omega
    · have h1' : ¬ (k : Int) < (n : Int) := by omega
      go_wp2
      go_ret
      exact ⟨rfl, H3.out⟩

theorem eq_any (sl sl2 : Option Addr) (cap cap2 : Nat) (zs : List ByteArray) (w : World) (hn : zs.length ≤ maxLen) (hz : Strs w sl zs) (hz2 : Strs w sl2 zs) :
    Calls Try.prog 41 #[.slice sl zs.length cap, .slice sl2 zs.length cap2] w fun e w' => e = .returned (.bool true) ∧ Below w.heap.size w w' := by
  rcases hz with rfl | ⟨c, o, rfl, h⟩
  · exact eq_nil sl sl2 cap cap2 w
  · rcases hz2 with rfl | ⟨c2, o2, rfl, h2⟩
    · exact eq_nil _ sl2 cap cap2 w
    · exact eq_some c o cap c2 o2 cap2 zs w hn h h2

end Go.Proofs.Ytaongccmipjgeaa
