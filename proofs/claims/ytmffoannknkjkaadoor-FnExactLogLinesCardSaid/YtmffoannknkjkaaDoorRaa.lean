/-
  DERIVED: THE SHELF's CONTRACTS AT THIS DUMP, IN PLAIN WORDS (tools/lay-plain.mjs out of 'YtmffoannknkjkaaDoorShelf.lean', which tools/lay-shelf.mjs wrote): THE SAME DECLARATIONS UNDER THE SAME NAMES: 'import', 'namespace', 'open', 'def', 'theorem' AND NOTHING ELSE: no command of the shelf's: FOR A HAND-IN. Each laying: the table of numbers ('.._ren') and one theorem, a field a fact of the dump's own or the kernel's comparison; each contract: ONE APPLICATION.
  LISTS OF NUMBERS: how they lie, that all are in bounds, how they are copied and held against each other.
  RECORDS: when one is right, on both sides.
  NUMBERS AS BYTES, AS THE PROGRAM WRITES THEM.
  NUMBERS AS BYTES, ON BOTH SIDES.
  SUMS OF TEXTS, AS THE MODEL MAKES THEM.
  A RECORD's BYTES: what is written, and the program's writers.
  NUMBERS READ BACK: what stands ahead in some bytes.
  A NUMBER AHEAD, AS THE PROGRAM READS IT.
-/
import Derived.Test.YtmffoannknkjkaaDoorBa
import Derived.Test.YtmffoannknkjkaaDoorBa
import Derived.Test.YtmffoannknkjkaaDoorProg
import Derived.Test.YtmffoannknkjkaaDoorRows
import Derived.WalkKit
import Derived.WalkSpells
import Derived.WalkLawsBesides
import Derived.Laws.EntriesVeiled
import Derived.Deep.QuietTactic
import Derived.BigQuiet
import Derived.Deep.RegionHeld3
import Derived.Lib.Hide
import Derived.Lib.MinMax
import Derived.Lib.Strings
import Derived.BigCall
import Derived.Deep.AppendLies
import Derived.Laws.IdiomStrings
import Derived.Lib.OthersKept
namespace Go.Proofs.YtmffoannknkjkaaDoor
open Go.RowKit
set_option linter.unusedVariables false

def isN (a : Int) : Bool := decide (-9007199254740992 ≤ a ∧ a ≤ 9007199254740992)

/-- The numbers zs lie from cell o of block c on. -/
def IntsAt (w : World) (c o : Nat) (zs : List Int) : Prop :=
  c < w.heap.size ∧ ∀ i, i < zs.length → w.cell? ⟨c, o + i, none⟩ = some (.int .i64 (zs.getD i 0))
/-- A slice of the numbers zs. -/
def Ints (w : World) (sl : Option Addr) (zs : List Int) : Prop := zs = [] ∨ ∃ c o, sl = some ⟨c, o, none⟩ ∧ IntsAt w c o zs

theorem IntsAt.below {w w' : World} {c o : Nat} {zs : List Int} (h : IntsAt w c o zs) (hb : Below w.heap.size w w') : IntsAt w' c o zs :=
  ⟨Nat.lt_of_lt_of_le h.1 hb.size, fun i hi => (hb.cell h.1).trans (h.2 i hi)⟩
theorem Ints.below {w w' : World} {sl : Option Addr} {zs : List Int} (h : Ints w sl zs) (hb : Below w.heap.size w w') : Ints w' sl zs := by
  rcases h with h | ⟨c, o, e, h⟩
  · exact .inl h
  · exact .inr ⟨c, o, e, h.below hb⟩

theorem all_stepZ (p : Int → Bool) (zs : List Int) (k : Nat) (h : k < zs.length) (hp : (zs.take k).all p = true) : (zs.take (k + 1)).all p = p (zs.getD k 0) := by
  rw [List.take_succ_eq_append_getElem h, List.all_append, hp]
  simp [h]
theorem all_no (p : Int → Bool) (zs : List Int) (k : Nat) (h : k < zs.length) (hp : p (zs.getD k 0) = false) : zs.all p = false := by
  rw [List.all_eq_false]
  exact ⟨zs[k], List.getElem_mem h, by simpa [h] using hp⟩
theorem all_endZ (p : Int → Bool) (zs : List Int) (k : Nat) (h : zs.length ≤ k) (hp : (zs.take k).all p = true) : zs.all p = true := by
  rwa [List.take_of_length_le h] at hp

set_option maxHeartbeats 400000 in
theorem l01All_nil (sl : Option Addr) (cap : Nat) (x y : Value) (w : World) :
    Calls Tryd.prog 20 #[.slice sl 0 cap, x, y] w fun e w' => e = .returned (.bool true) ∧ w' = w := by
  go_enter Tryd.func20, Tryd.ntmps20
  go_wp2
  refine wp_loop_rounds 1 ?_
  rw [rounds_succ]
  go_wp2
  go_ret
  exact ⟨rfl, rfl⟩

set_option maxHeartbeats 400000 in
theorem l01All_some (c o cap : Nat) (zs : List Int) (w : World) (hn : zs.length ≤ maxLen) (hz : IntsAt w c o zs) :
    Calls Tryd.prog 20 #[.slice (some ⟨c, o, none⟩) zs.length cap, .int .i64 (-9007199254740992), .int .i64 9007199254740992] w fun e w' => e = .returned (.bool (zs.all isN)) ∧ w' = w := by
  unfold maxLen at hn
  have HZ : Hid (IntsAt w c o zs) := hz
  clear hz
  generalize hN : zs.length = n at *
  have HN : Hid (zs.length = n) := hN
  clear hN
  go_enter Tryd.func20, Tryd.ntmps20
  go_wp2
  go_loop [7] (fun i => ∃ k : Nat, i = .int .i64 k ∧ k ≤ n ∧ Hid ((zs.take k).all isN = true)) (fun i => n - (intOf i).toNat)
  case atStart => exact ⟨0, rfl, Nat.zero_le _, (by show (zs.take 0).all isN = true; simp)⟩
  case round =>
    obtain ⟨k, rfl, hk, H1⟩ := hrel
    have hk0 : (0 : Int) ≤ (k : Int) := by omega
    by_cases h1 : k < n
    · have h1' : (k : Int) < (n : Int) := by omega
      have hc : w.cell? ⟨c, o + k, none⟩ = some (.int .i64 (zs.getD k 0)) := HZ.out.2 k (by rw [HN.out]; exact h1)
      by_cases a1 : zs.getD k 0 < -9007199254740992
      · have HF : Hid (zs.all isN = false) := all_no isN zs k (by rw [HN.out]; exact h1) (by simp only [isN, decide_eq_false_iff_not]; omega)
        generalize zs.getD k 0 = z at *
        go_wp2
        go_ret
        exact ⟨by rw [HF.out]; rfl, rfl⟩
      · by_cases a2 : 9007199254740992 < zs.getD k 0
        · have HF : Hid (zs.all isN = false) := all_no isN zs k (by rw [HN.out]; exact h1) (by simp only [isN, decide_eq_false_iff_not]; omega)
          generalize zs.getD k 0 = z at *
          go_wp2
          go_ret
          exact ⟨by rw [HF.out]; rfl, rfl⟩
        · have HS : Hid ((zs.take (k + 1)).all isN = true) := (all_stepZ isN zs k (by rw [HN.out]; exact h1) H1.out).trans (by simp only [isN, decide_eq_true_eq]; omega)
          generalize zs.getD k 0 = z at *
          go_wp2
          go_round
          case rel => exact ⟨k + 1, by go_num, by omega, HS⟩
          case measure => simp [intOf]; omega
    · have h1' : ¬ (k : Int) < (n : Int) := by omega
      have HE : Hid (zs.all isN = true) := all_endZ isN zs k (by rw [HN.out]; omega) H1.out
      go_wp2
      go_ret
      exact ⟨by rw [HE.out]; rfl, rfl⟩

theorem l01All_any (sl : Option Addr) (cap : Nat) (zs : List Int) (w : World) (hn : zs.length ≤ maxLen) (hz : Ints w sl zs) :
    Calls Tryd.prog 20 #[.slice sl zs.length cap, .int .i64 (-9007199254740992), .int .i64 9007199254740992] w fun e w' => e = .returned (.bool (zs.all isN)) ∧ w' = w := by
  rcases hz with rfl | ⟨c, o, rfl, h⟩
  · exact l01All_nil sl cap _ _ w
  · exact l01All_some c o cap zs w hn h

def RowAtZ (w : World) (b : Nat) (vs : Array Value) : Prop := w.heap[b]? = some (.cells vs 2)

theorem RowAtZ.cell {w : World} {b : Nat} {vs : Array Value} (h : RowAtZ w b vs) (i : Nat) : w.cell? ⟨b, i, none⟩ = vs[i]? := by
  unfold RowAtZ at h; simp [World.cell?, h]
theorem RowAtZ.frozen {w : World} {b : Nat} {vs : Array Value} (h : RowAtZ w b vs) (i : Nat) : w.frozen? ⟨b, i, none⟩ = false := by
  unfold RowAtZ at h; simp [World.frozen?, h]
theorem RowAtZ.lt {w : World} {b : Nat} {vs : Array Value} (h : RowAtZ w b vs) : b < w.heap.size := (Array.getElem?_eq_some_iff.1 h).1
theorem RowAtZ.set {w : World} {b : Nat} {vs : Array Value} (h : RowAtZ w b vs) (i : Nat) (v : Value) : RowAtZ (w.setCell ⟨b, i, none⟩ v) b (vs.setIfInBounds i v) := heap_setCell_same w b i vs 2 v h
end Go.Proofs.YtmffoannknkjkaaDoor
namespace Go.Proofs.YtmffoannknkjkaaDoor
open Go.RowKit
set_option linter.unusedVariables false

/-- A right record: its kind and its numbers. -/
def recR (k : Int) (zs : List Int) : Bool := decide (1 ≤ k ∧ k ≤ 100) && (decide (zs.length ≤ 60) && zs.all isN)
theorem recR_k {k : Int} {zs : List Int} (h : ¬ (1 ≤ k ∧ k ≤ 100)) : recR k zs = false := by simp [recR, h]
theorem recR_n {k : Int} {zs : List Int} (h : 60 < zs.length) : recR k zs = false := by
  have : ¬ zs.length ≤ 60 := by omega
  simp [recR, this]
theorem recR_a {k : Int} {zs : List Int} (h : 1 ≤ k ∧ k ≤ 100) (hn : zs.length ≤ 60) : recR k zs = zs.all isN := by simp [recR, h, hn]

abbrev RV (k : Int) (sl : Option Addr) (n cap : Nat) : Value := .agg #[.int .i64 k, .slice sl n cap]

set_option maxHeartbeats 1000000 in
theorem srr_any (k : Int) (sl : Option Addr) (cap : Nat) (zs : List Int) (w : World) (hn : zs.length ≤ maxLen) (hz : Ints w sl zs) :
    Calls Tryd.prog 46 #[RV k sl zs.length cap] w fun e w' => e = .returned (.bool (recR k zs)) ∧ Below w.heap.size w w' := by
  by_cases h1 : 1 ≤ k
  · by_cases h2 : k ≤ 100
    · by_cases h3 : zs.length ≤ 60
      · have HA : Hid (∀ w1, Below w.heap.size w w1 → Calls Tryd.prog 20 #[.slice sl zs.length cap, .int .i64 (-9007199254740992), .int .i64 9007199254740992] w1 fun e w' => e = .returned (.bool (zs.all isN)) ∧ w' = w1) := fun w1 hb => l01All_any sl cap zs w1 hn (hz.below hb)
        rw [recR_a ⟨h1, h2⟩ h3]
        have h3' : (zs.length : Int) ≤ 60 := by omega
        clear hz hn
        generalize zs.length = n at *
        generalize zs.all isN = b at *
        go_enter Tryd.func46, Tryd.ntmps46
        go_wp2_with fail
        refine (HA.out _ (bA0 _ _)).mono ?_
        rintro e w1 ⟨rfl, rfl⟩
        go_wp2
        go_ret
        exact ⟨rfl, bA0 _ _⟩
      · rw [recR_n (by omega)]
        have h3' : decide ((zs.length : Int) ≤ 60) = false := by simp; omega
        clear hz hn
        generalize zs.length = n at *
        go_enter Tryd.func46, Tryd.ntmps46
        go_wp2
        go_ret
        exact ⟨rfl, bA0 _ _⟩
    · rw [recR_k (by omega)]
      have h2' : decide (k ≤ 100) = false := by simp; omega
      clear hz hn
      generalize zs.length = n at *
      go_enter Tryd.func46, Tryd.ntmps46
      go_wp2
      go_ret
      exact ⟨rfl, bA0 _ _⟩
  · rw [recR_k (by omega)]
    have h2' : decide (1 ≤ k) = false := by simp; omega
    clear hz hn
    generalize zs.length = n at *
    go_enter Tryd.func46, Tryd.ntmps46
    go_wp2
    go_ret
    exact ⟨rfl, bA0 _ _⟩

set_option maxHeartbeats 1000000 in
theorem irr_bad (k : Int) (sl : Option Addr) (n cap : Nat) (w : World) (h : ¬ (1 ≤ k ∧ k ≤ 100) ∨ 60 < n) :
    Calls Tryd.prog 51 #[RV k sl n cap] w fun e w' => e = .returned (.bool false) ∧ Below w.heap.size w w' := by
  by_cases h1 : k < 1
  · clear h
    go_enter Tryd.func51, Tryd.ntmps51
    go_wp2
    go_ret
    exact ⟨rfl, bA0 _ _⟩
  · have h1' : decide (k < 1) = false := by simp; omega
    by_cases h2 : 100 < k
    · clear h
      go_enter Tryd.func51, Tryd.ntmps51
      go_wp2
      go_ret
      exact ⟨rfl, bA0 _ _⟩
    · have h2' : decide (100 < k) = false := by simp; omega
      have h3 : (60 : Int) < (n : Int) := by omega
      clear h
      go_enter Tryd.func51, Tryd.ntmps51
      go_wp2
      go_ret
      exact ⟨rfl, bA0 _ _⟩

set_option maxHeartbeats 1000000 in
theorem irr_some (k : Int) (c o cap : Nat) (zs : List Int) (w : World) (h1 : 1 ≤ k) (h2 : k ≤ 100) (hn : zs.length ≤ 60) (hz : IntsAt w c o zs) :
    Calls Tryd.prog 51 #[RV k (some ⟨c, o, none⟩) zs.length cap] w fun e w' => e = .returned (.bool (zs.all isN)) ∧ Below w.heap.size w w' := by
  have h1' : decide (k < 1) = false := by simp; omega
  have h2' : decide (100 < k) = false := by simp; omega
  have h3' : decide ((60 : Int) < (zs.length : Int)) = false := by simp; omega
  have HZ : Hid (IntsAt w c o zs) := hz
  clear hz
  generalize hN : zs.length = n at *
  have HN : Hid (zs.length = n) := hN
  clear hN
  go_enter Tryd.func51, Tryd.ntmps51
  go_wp2_with fail
  go_loopw [22] (fun i wr => ∃ k : Nat, i = .int .i64 k ∧ k ≤ n ∧ Hid ((zs.take k).all isN = true) ∧ Hid (Below w.heap.size w wr)) (fun i _ => n - (intOf i).toNat)
  case atStart => exact ⟨0, rfl, Nat.zero_le _, (by show (zs.take 0).all isN = true; simp), bA0 _ _⟩
  case round =>
    obtain ⟨j, rfl, hk, H1, H2⟩ := hrel
    have hk0 : (0 : Int) ≤ (j : Int) := by omega
    by_cases h1 : j < n
    · have h1' : (j : Int) < (n : Int) := by omega
      have hc : wr.cell? ⟨c, o + j, none⟩ = some (.int .i64 (zs.getD j 0)) := by
        rw [H2.out.cell HZ.out.1]; exact HZ.out.2 j (by rw [HN.out]; exact h1)
      by_cases a1 : zs.getD j 0 < -9007199254740992
      · have HF : Hid (zs.all isN = false) := all_no isN zs j (by rw [HN.out]; exact h1) (by simp only [isN, decide_eq_false_iff_not]; omega)
        generalize zs.getD j 0 = z at *
        go_wp2
        go_ret
        exact ⟨by rw [HF.out]; rfl, H2.out⟩
      · by_cases a2 : 9007199254740992 < zs.getD j 0
        · have HF : Hid (zs.all isN = false) := all_no isN zs j (by rw [HN.out]; exact h1) (by simp only [isN, decide_eq_false_iff_not]; omega)
          generalize zs.getD j 0 = z at *
          go_wp2
          go_ret
          exact ⟨by rw [HF.out]; rfl, H2.out⟩
        · have HS : Hid ((zs.take (j + 1)).all isN = true) := (all_stepZ isN zs j (by rw [HN.out]; exact h1) H1.out).trans (by simp only [isN, decide_eq_true_eq]; omega)
          generalize zs.getD j 0 = z at *
          go_wp2
          go_roundw
          case rel => exact ⟨j + 1, by go_num, by omega, HS, H2⟩
          case measure => simp [intOf]; omega
    · have h1' : ¬ (j : Int) < (n : Int) := by omega
      have HE : Hid (zs.all isN = true) := all_endZ isN zs j (by rw [HN.out]; omega) H1.out
      go_wp2
      go_ret
      exact ⟨by rw [HE.out]; rfl, H2.out⟩

set_option maxHeartbeats 1000000 in
theorem irr_nil (k : Int) (sl : Option Addr) (cap : Nat) (w : World) (h1 : 1 ≤ k) (h2 : k ≤ 100) :
    Calls Tryd.prog 51 #[RV k sl 0 cap] w fun e w' => e = .returned (.bool true) ∧ Below w.heap.size w w' := by
  have h1' : decide (k < 1) = false := by simp; omega
  have h2' : decide (100 < k) = false := by simp; omega
  go_enter Tryd.func51, Tryd.ntmps51
  go_wp2
  refine wp_loop_rounds 1 ?_
  rw [rounds_succ]
  go_wp2
  go_ret
  exact ⟨rfl, bA0 _ _⟩

theorem irr_any (k : Int) (sl : Option Addr) (cap : Nat) (zs : List Int) (w : World) (hz : Ints w sl zs) :
    Calls Tryd.prog 51 #[RV k sl zs.length cap] w fun e w' => e = .returned (.bool (recR k zs)) ∧ Below w.heap.size w w' := by
  by_cases h : 1 ≤ k ∧ k ≤ 100
  · by_cases hn : zs.length ≤ 60
    · rw [recR_a h hn]
      rcases hz with rfl | ⟨c, o, rfl, hz⟩
      · exact irr_nil k sl cap w h.1 h.2
      · exact irr_some k c o cap zs w h.1 h.2 hn hz
    · rw [recR_n (by omega)]
      exact irr_bad k sl _ cap w (.inr (by omega))
  · rw [recR_k h]
    exact irr_bad k sl _ cap w (.inl h)

theorem IntsAt.set {w : World} {c o : Nat} {zs : List Int} (h : IntsAt w c o zs) {b : Nat} (hb : c ≠ b) (i : Nat) (v : Value) : IntsAt (w.setCell ⟨b, i, none⟩ v) c o zs := by
  refine ⟨by simpa [World.setCell] using h.1, fun j hj => ?_⟩
  rw [← h.2 j hj]
  simp only [World.cell?]
  rw [Below.heap_setCell _ _ _ _ hb]
theorem Ints.set {w : World} {c o : Nat} {zs : List Int} (h : Ints w (some ⟨c, o, none⟩) zs) {b : Nat} (hb : c ≠ b) (i : Nat) (v : Value) : Ints (w.setCell ⟨b, i, none⟩ v) (some ⟨c, o, none⟩) zs := by
  rcases h with h | ⟨c', o', e, h⟩
  · exact .inl h
  · cases e; exact .inr ⟨_, _, rfl, h.set hb i v⟩

/-- A record in a block of its own. -/
def RAt (t : TypeId) (w : World) (b : Nat) (k : Int) (sl : Option Addr) (n cap : Nat) : Prop := w.heap[b]? = some (.cells #[.int .i64 k, .slice sl n cap] t)
theorem RAt.cells {t : TypeId} {w : World} {b : Nat} {k : Int} {sl : Option Addr} {n cap : Nat} (h : RAt t w b k sl n cap) : w.cell? ⟨b, 0, none⟩ = some (.int .i64 k) ∧ w.cell? ⟨b, 1, none⟩ = some (.slice sl n cap) := by
  unfold RAt at h
  refine ⟨?_, ?_⟩ <;> simp [World.cell?, h]
theorem RAt.lt {t : TypeId} {w : World} {b : Nat} {k : Int} {sl : Option Addr} {n cap : Nat} (h : RAt t w b k sl n cap) : b < w.heap.size := (Array.getElem?_eq_some_iff.1 h).1
theorem RAt.below {t : TypeId} {w w' : World} {b : Nat} {k : Int} {sl : Option Addr} {n cap : Nat} (h : RAt t w b k sl n cap) (hb : Below w.heap.size w w') : RAt t w' b k sl n cap := (hb.block b h.lt).trans h
theorem RAt.new (t : TypeId) (w : World) (k : Int) (sl : Option Addr) (n cap : Nat) : RAt t (w.alloc (.cells #[.int .i64 k, .slice sl n cap] t)) w.heap.size k sl n cap := by
  show (w.heap.push _)[w.heap.size]? = _
  simp

end Go.Proofs.YtmffoannknkjkaaDoor
namespace Go.Proofs.YtmffoannknkjkaaDoor
open Go.RowKit
set_option linter.unusedVariables false

/-- Seven bits a byte, the lowest first, 128 more in all but the last one. -/
def numB (n : Nat) : List UInt8 := if h : n < 128 then [n.toUInt8] else (n % 128 + 128).toUInt8 :: numB (n / 128)
termination_by n
decreasing_by omega
theorem numB_small {n : Nat} (h : n < 128) : numB n = [n.toUInt8] := by rw [numB, dif_pos h]
theorem numB_big {n : Nat} (h : ¬ n < 128) : numB n = (n % 128 + 128).toUInt8 :: numB (n / 128) := by rw [numB, dif_neg h]
theorem numB_len (n k : Nat) (h : n < 128 ^ (k + 1)) : 1 ≤ (numB n).length ∧ (numB n).length ≤ k + 1 := by
  induction k generalizing n with
  | zero => rw [numB_small (by simpa using h)]; simp
  | succ k ih =>
    by_cases hn : n < 128
    · rw [numB_small hn]; simp
    · rw [numB_big hn]
      have := ih (n / 128) (by rw [Nat.pow_succ] at h; exact Nat.div_lt_of_lt_mul (by omega))
      simp; omega

theorem cells_snoc (l : List UInt8) {a : Nat} (h : a < 256) : Lib.byteCells (l ++ [a.toUInt8]) = Lib.byteCells l ++ [Value.int .u8 (a : Int)] := by
  rw [Lib.byteCells_append]
  simp only [Lib.byteCells, List.map_cons, List.map_nil]
  rw [show (a.toUInt8).toNat = a by simp; omega]

theorem num_room (l l' : List UInt8) (m n : Nat) (h : l' ++ numB m = l ++ numB n) (hl : l.length ≤ 900000) (hn : n < 9223372036854775808) : l'.length ≤ 1000000 := by
  have e := congrArg List.length h
  have := numB_len n 8 (by omega)
  simp only [List.length_append] at e
  omega

end Go.Proofs.YtmffoannknkjkaaDoor
namespace Go.Proofs.YtmffoannknkjkaaDoor
open Go.RowKit
set_option linter.unusedVariables false

def numT (n : Int) : List UInt8 := if n < 0 then [] else numB n.toNat
set_option maxHeartbeats 1000000 in
theorem snb_any (n : Int) (hn : n < 9223372036854775808) (w : World) :
    Calls Tryd.prog 45 #[.int .i64 n] w fun e w' => e = .returned (.string ⟨(numT n).toArray⟩) ∧ Below w.heap.size w w' := by
  by_cases h : n < 0
  · rw [show numT n = [] by simp [numT, h]]
    go_enter Tryd.func45, Tryd.ntmps45
    go_wp2
    go_ret
    exact ⟨rfl, bA0 _ _⟩
  · obtain ⟨m0, rfl⟩ := Int.eq_ofNat_of_zero_le (Int.not_lt.1 h)
    rw [show numT (m0 : Int) = numB m0 by rw [numT, if_neg h, Int.toNat_natCast]]
    obtain ⟨i0, hi, hz0, hz1, hz2⟩ := info_parts info5'
    go_enter Tryd.func45, Tryd.ntmps45
    go_wp2
    go_loopw [0, 3] (fun i s wr => ∃ (m : Nat) (l' : List UInt8), i = .int .i64 m ∧ m < 9223372036854775808 ∧ Hid (l' ++ numB m = [] ++ numB m0) ∧ Hid (Below w.heap.size w wr) ∧ wr.ownsRow w.heap.size 5 1 s l'.length (Lib.byteCells l') ∧ w.heap.size < wr.heap.size) (fun i _ _ => (intOf i).toNat)
    case atStart => exact ⟨m0, [], rfl, by omega, rfl, bA0 _ _, World.ownsRow_lit w #[] 0 (Nat.le_refl _) (Nat.zero_le _) rfl, by simp⟩
    case round =>
      obtain ⟨m, l', rfl, hm, H2, H3, hown, hsz⟩ := hrel
      have hm0 : (0 : Int) ≤ (m : Int) := by omega
      have HL := num_room [] l' m m0 H2.out (by simp) (by omega)
      by_cases h1 : m < 128
      · have h1' : decide ((128 : Int) ≤ (m : Int)) = false := by simp; omega
        have E : Hid (numB m0 = l' ++ [m.toUInt8]) := by
          show _ = _
          have e := H2.out; rw [numB_small h1] at e; simpa using e.symm
        have EC : Hid (Lib.byteCells l' ++ [Value.int .u8 (m : Int)] = Lib.byteCells (numB m0)) := by show _ = _; rw [E.out, cells_snoc l' (by omega)]
        have EL : Hid ((numB m0).length = l'.length + 1) := by show _ = _; rw [E.out]; simp
        generalize l'.length = k at *
        go_wp2_with (first | (at_builtin; refine wpList_append_lies _ rfl (.tmp 18) (.tmp 21) 44 rfl w.heap.size 5 i0 (.int .u8 0) 1 1 Tryd.underlying44 hi hz0 hz1 hz2 rfl (by decide) _ _ _ rfl (hown.alloc _) ⟨wr.heap.size, 0, none⟩ 1 1 [.int .u8 (m : Int)] rfl rfl (cell_one_new _ _ _) (by intro u hu; simp at hu; subst hu; rfl) (by decide) (by unfold maxLen; omega) (by omega) (by simp; omega) (wr.heap.size + 1) (by simp) ?_))
        · intro g cap w3 hown3 hgrow hg3 hlt3
          have B3 : Hid (Below w.heap.size w w3) := H3.out.alloc (Nat.le_of_lt hsz) _ |>.grown hgrow (by simp; omega) (fun j hj => (hown.lt j hj).1)
          rw [EC.out] at hown3
          have hcv := run_convert_bytes_back (P := Tryd.prog) w3 44 9 5 ⟨g, 0, none⟩ cap (numB m0) Tryd.underlying44 Tryd.underlying5 Tryd.underlying9 (fun j hj => hown3.cells (g := g) rfl j _ (by simp [Lib.byteCells, hj]))
          rw [EL.out] at hcv
          clear hown3 hgrow hg3 hlt3 hown EC E H2
          go_wp2
          go_ret
          exact ⟨rfl, B3.out⟩
      · have h1' : (128 : Int) ≤ (m : Int) := by omega
        have E : Hid ((l' ++ [(m % 128 + 128).toUInt8]) ++ numB (m / 128) = [] ++ numB m0) := by
          show _ = _
          rw [← H2.out, numB_big h1, List.append_assoc]; rfl
        have EC : Hid (Lib.byteCells l' ++ [Value.int .u8 ((m : Int) % 128 + 128)] = Lib.byteCells (l' ++ [(m % 128 + 128).toUInt8])) := by
          show _ = _
          rw [cells_snoc l' (by omega)]; rfl
        have EL : Hid ((l' ++ [(m % 128 + 128).toUInt8]).length = l'.length + 1) := by show _ = _; simp
        have hq : Hid ((m : Int) / 128 = ((m / 128 : Nat) : Int)) := by show (m : Int) / 128 = _; omega
        generalize hk : l'.length = k at *
        go_wp2_with (first | (at_builtin; refine wpList_append_lies _ rfl (.tmp 9) (.tmp 14) 44 rfl w.heap.size 5 i0 (.int .u8 0) 1 1 Tryd.underlying44 hi hz0 hz1 hz2 rfl (by decide) _ _ _ rfl (hown.alloc _) ⟨wr.heap.size, 0, none⟩ 1 1 [.int .u8 ((m : Int) % 128 + 128)] rfl rfl (cell_one_new _ _ _) (by intro u hu; simp at hu; subst hu; rfl) (by decide) (by unfold maxLen; omega) (by omega) (by simp; omega) (wr.heap.size + 1) (by simp) ?_))
        · intro g cap w3 hown3 hgrow hg3 hlt3
          have B3 : Hid (Below w.heap.size w w3) := H3.out.alloc (Nat.le_of_lt hsz) _ |>.grown hgrow (by simp; omega) (fun j hj => (hown.lt j hj).1)
          rw [EC.out] at hown3
          have O3 : Hid (w3.ownsRow w.heap.size 5 1 (.slice (some ⟨g, 0, none⟩) (k + 1) cap) (l' ++ [(m % 128 + 128).toUInt8]).length (Lib.byteCells (l' ++ [(m % 128 + 128).toUInt8]))) := by
            have e := EL.out; show World.ownsRow _ _ _ _ _ _ _; rw [e]; exact hown3
          have Z3 : w.heap.size < w3.heap.size := by have := hgrow.size; simp at this; omega
          clear hown3 hgrow hg3 hlt3 hown
          go_wp2
          go_roundw
          case rel => exact ⟨m / 128, _, by rw [hq.out], by omega, E, B3, O3.out, Z3⟩
          case measure => simp [intOf]; omega

end Go.Proofs.YtmffoannknkjkaaDoor
namespace Go.Proofs.YtmffoannknkjkaaDoor
open Go.RowKit
set_option linter.unusedVariables false

def sumStep (n : Nat) (b : UInt8) : Nat := (263 * n + b.toNat) % 4294967291
/-- The sum of some bytes. -/
def sumL (l : List UInt8) : Nat := l.foldl sumStep 1
def sumAt (s : ByteArray) (k : Nat) : Nat := sumL (s.data.toList.take k)
theorem fold_lt (l : List UInt8) (n : Nat) (h : n < 4294967291) : l.foldl sumStep n < 4294967291 := by
  induction l generalizing n with
  | nil => exact h
  | cons b r ih => exact ih _ (Nat.mod_lt _ (by decide))
theorem sumL_lt (l : List UInt8) : sumL l < 4294967291 := fold_lt l 1 (by decide)
theorem sumAt_step (s : ByteArray) (k : Nat) (h : k < s.size) : sumAt s (k + 1) = (263 * sumAt s k + (s[k]'h).toNat) % 4294967291 := by
  unfold sumAt sumL
  rw [List.take_succ_eq_append_getElem (by simpa using h), List.foldl_append]
  rfl
theorem sumAt_all (s : ByteArray) (k : Nat) (h : s.size ≤ k) : sumAt s k = sumL s.data.toList := by
  unfold sumAt
  rw [List.take_of_length_le (by simpa using h)]

set_option maxHeartbeats 1000000 in
theorem ssum_any (s : ByteArray) (hs : s.size ≤ maxLen) (w : World) :
    Calls Tryd.prog 38 #[.string s] w fun e w' => e = .returned (.int .i64 (sumL s.data.toList)) ∧ w' = w := by
  unfold maxLen at hs
  go_enter Tryd.func38, Tryd.ntmps38
  go_wp2
  go_loop [3, 4] (fun t i => ∃ k x : Nat, i = .int .i64 k ∧ t = .int .i64 x ∧ k ≤ s.size ∧ Hid (x = sumAt s k) ∧ x < 4294967291) (fun _ i => s.size - (intOf i).toNat)
  case atStart => exact ⟨0, 1, rfl, rfl, Nat.zero_le _, rfl, by decide⟩
  case round =>
    obtain ⟨k, x, rfl, rfl, hk, H1, hx⟩ := hrel
    have hk0 : (0 : Int) ≤ (k : Int) := by omega
    have hx0 : (0 : Int) ≤ (x : Int) := by omega
    have hx1 : (x : Int) < 4294967291 := by omega
    by_cases h1 : k < s.size
    · have h1' : (k : Int) < (s.size : Int) := by omega
      have hb : ((s[k]'h1).toNat : Int) < 256 := by have := (s[k]'h1).toNat_lt; omega
      have E := sumAt_step s k h1
      rw [← H1.out] at E
      have HE : Hid (((263 * (x : Int) + ((s[k]'h1).toNat : Int)) % 4294967291) = ((sumAt s (k + 1) : Nat) : Int)) := by show _ = _; rw [E]; omega
      have HB : Hid (sumAt s (k + 1) < 4294967291) := sumL_lt _
      clear E
      go_wp2
      go_round
      case rel => exact ⟨k + 1, sumAt s (k + 1), by go_num, by rw [HE.out], by omega, rfl, HB.out⟩
      case measure => simp [intOf]; omega
    · have h1' : ¬ (k : Int) < (s.size : Int) := by omega
      have HE : Hid (x = sumL s.data.toList) := H1.out.trans (sumAt_all s k (by omega))
      go_wp2
      go_ret
      exact ⟨by rw [HE.out]; rfl, rfl⟩

end Go.Proofs.YtmffoannknkjkaaDoor
namespace Go.Proofs.YtmffoannknkjkaaDoor
open Go.RowKit
set_option linter.unusedVariables false

/-- A number of either sign as one from 0 on. -/
def signN (z : Int) : Nat := if z < 0 then (-2 * z - 1).toNat else (2 * z).toNat
def numsB (zs : List Int) : List UInt8 := (zs.map fun z => numB (signN z)).flatten
def bodyB (k : Int) (zs : List Int) : List UInt8 := numB k.toNat ++ numB zs.length ++ numsB zs
def fourB (n : Nat) : List UInt8 := [(n / 16777216 % 256).toUInt8, (n / 65536 % 256).toUInt8, (n / 256 % 256).toUInt8, (n % 256).toUInt8]
def lenB (b : List UInt8) : List UInt8 := numB b.length ++ b
def recB (k : Int) (zs : List Int) : List UInt8 := [82] ++ lenB (bodyB k zs) ++ fourB (sumL (lenB (bodyB k zs)))
def recT (k : Int) (zs : List Int) : List UInt8 := if recR k zs then recB k zs else []

theorem signN_lt {z : Int} (h : isN z = true) : signN z < 18014398509481985 := by
  simp only [isN, decide_eq_true_eq] at h
  unfold signN
  split <;> omega
theorem numsB_take (zs : List Int) (j : Nat) (h : j < zs.length) : numsB (zs.take (j + 1)) = numsB (zs.take j) ++ numB (signN (zs.getD j 0)) := by
  unfold numsB
  rw [List.take_succ_eq_append_getElem h, List.map_append, List.flatten_append]
  simp [h]
theorem numsB_len (zs : List Int) (h : zs.all isN = true) : (numsB zs).length ≤ 8 * zs.length := by
  induction zs with
  | nil => simp [numsB]
  | cons z r ih =>
    simp only [List.all_cons, Bool.and_eq_true] at h
    have h1 := signN_lt h.1
    have h2 := numB_len (signN z) 7 (by omega)
    have h3 := ih h.2
    have e : numsB (z :: r) = numB (signN z) ++ numsB r := by simp [numsB]
    rw [e]; simp; omega
theorem recR_parts {k : Int} {zs : List Int} (h : recR k zs = true) : 1 ≤ k ∧ k ≤ 100 ∧ zs.length ≤ 60 ∧ zs.all isN = true := by
  simp only [recR, Bool.and_eq_true, decide_eq_true_eq] at h
  exact ⟨h.1.1, h.1.2, h.2.1, h.2.2⟩
theorem body_len {k : Int} {zs : List Int} (h : recR k zs = true) : 2 ≤ (bodyB k zs).length ∧ (bodyB k zs).length ≤ 482 := by
  obtain ⟨h1, h2, h3, h4⟩ := recR_parts h
  have a := numB_len k.toNat 0 (by omega)
  have b := numB_len zs.length 0 (by omega)
  have c := numsB_len zs h4
  simp only [bodyB, List.length_append]; omega
theorem lenB_len {k : Int} {zs : List Int} (h : recR k zs = true) : 3 ≤ (lenB (bodyB k zs)).length ∧ (lenB (bodyB k zs)).length ≤ 484 := by
  have := body_len h
  have b := numB_len (bodyB k zs).length 1 (by omega)
  simp only [lenB, List.length_append]; omega

theorem RAt.kept {t : TypeId} {w w' : World} {c b : Nat} {k : Int} {sl : Option Addr} {n cap : Nat} (h : RAt t w c k sl n cap) (ht : t ≠ 5) (hk : Lib.OthersKept 5 (some b) w w') (hc : c ≠ b) : RAt t w' c k sl n cap :=
  hk c _ h (fun e => hc (Option.some.inj e)) (fun _ _ e => by cases e; exact ht rfl)
end Go.Proofs.YtmffoannknkjkaaDoor
namespace Go.Proofs.YtmffoannknkjkaaDoor
open Go.RowKit
set_option linter.unusedVariables false

/-- The number that the bytes begin with, told in at most so many bytes and in no more than it needs, and what stands behind it. -/
def rdN : Nat → List UInt8 → Option (Nat × List UInt8)
  | 0, _ => none
  | _ + 1, [] => none
  | f + 1, c :: r => if c.toNat < 128 then some (c.toNat, r) else match rdN f r with
    | none => none
    | some (v, q) => if v = 0 then none else some (c.toNat - 128 + 128 * v, q)

theorem u8_toNat (m : Nat) (h : m < 256) : (m.toUInt8).toNat = m := by simp; omega
theorem u8_eq {c : UInt8} {m : Nat} (h : c.toNat = m) : c = m.toUInt8 := by
  apply UInt8.toNat_inj.1
  rw [u8_toNat m (by have := c.toNat_lt; omega), h]

theorem rdN_some (f : Nat) (l : List UInt8) (v : Nat) (q : List UInt8) (h : rdN f l = some (v, q)) : l = numB v ++ q ∧ (numB v).length ≤ f := by
  induction f generalizing l v q with
  | zero => simp [rdN] at h
  | succ f ih =>
    cases l with
    | nil => simp [rdN] at h
    | cons c r =>
      rw [rdN] at h
      by_cases hc : c.toNat < 128
      · rw [if_pos hc] at h
        simp only [Option.some.injEq, Prod.mk.injEq] at h
        obtain ⟨rfl, rfl⟩ := h
        rw [numB_small hc, ← u8_eq rfl]
        simp
      · rw [if_neg hc] at h
        cases e : rdN f r with
        | none => simp [e] at h
        | some p =>
          obtain ⟨v', q'⟩ := p
          simp only [e] at h
          by_cases hv : v' = 0
          · simp [hv] at h
          · simp only [hv, if_false, Option.some.injEq, Prod.mk.injEq] at h
            obtain ⟨hvv, rfl⟩ := h
            obtain ⟨e1, e2⟩ := ih r v' q' e
            have hlt := c.toNat_lt
            have hb : ¬ v < 128 := by omega
            rw [numB_big hb]
            have m1 : v % 128 + 128 = c.toNat := by omega
            have m2 : v / 128 = v' := by omega
            rw [m1, m2, ← u8_eq rfl]
            refine ⟨?_, ?_⟩
            · rw [e1]; rfl
            · simp; omega

theorem rdN_numB (f v : Nat) (q : List UInt8) (h : (numB v).length ≤ f) : rdN f (numB v ++ q) = some (v, q) := by
  induction f generalizing v with
  | zero =>
    exfalso
    by_cases hv : v < 128
    · rw [numB_small hv] at h; simp at h
    · rw [numB_big hv] at h; simp at h
  | succ f ih =>
    by_cases hv : v < 128
    · rw [numB_small hv]
      simp only [List.cons_append, List.nil_append, rdN]
      rw [u8_toNat v (by omega), if_pos hv]
    · rw [numB_big hv] at h ⊢
      simp only [List.cons_append, rdN]
      rw [u8_toNat _ (by omega), if_neg (by omega), ih (v / 128) (by simpa using h)]
      simp only
      rw [if_neg (by omega)]
      simp only [Option.some.injEq, Prod.mk.injEq, and_true]
      omega
theorem rdN_iff (f : Nat) (l : List UInt8) (v : Nat) (q : List UInt8) : rdN f l = some (v, q) ↔ l = numB v ++ q ∧ (numB v).length ≤ f :=
  ⟨rdN_some f l v q, fun ⟨h1, h2⟩ => by rw [h1]; exact rdN_numB f v q h2⟩
theorem rdN_mono {f g : Nat} {l : List UInt8} {v : Nat} {q : List UInt8} (h : rdN f l = some (v, q)) (hg : f ≤ g) : rdN g l = some (v, q) := by
  rw [rdN_iff] at h ⊢; exact ⟨h.1, by omega⟩
theorem numB_inj {a b : Nat} {p q : List UInt8} (h : numB a ++ p = numB b ++ q) : a = b ∧ p = q := by
  have e1 := rdN_numB ((numB a).length + (numB b).length) a p (by omega)
  have e2 := rdN_numB ((numB a).length + (numB b).length) b q (by omega)
  rw [h, e2] at e1
  simp only [Option.some.injEq, Prod.mk.injEq] at e1
  exact ⟨e1.1.symm, e1.2.symm⟩
theorem rdN_lt {f : Nat} {l : List UInt8} {v : Nat} {q : List UInt8} (h : rdN f l = some (v, q)) : v < 128 ^ f := by
  induction f generalizing l v q with
  | zero => simp [rdN] at h
  | succ f ih =>
    cases l with
    | nil => simp [rdN] at h
    | cons c r =>
      rw [rdN] at h
      by_cases hc : c.toNat < 128
      · rw [if_pos hc] at h
        simp only [Option.some.injEq, Prod.mk.injEq] at h
        have : 1 ≤ 128 ^ f := Nat.one_le_pow _ _ (by decide)
        rw [Nat.pow_succ]; omega
      · rw [if_neg hc] at h
        cases e : rdN f r with
        | none => simp [e] at h
        | some p =>
          obtain ⟨v', q'⟩ := p
          simp only [e] at h
          by_cases hv : v' = 0
          · simp [hv] at h
          · simp only [hv, if_false, Option.some.injEq, Prod.mk.injEq] at h
            have := ih e
            have hlt := c.toNat_lt
            rw [Nat.pow_succ]; omega

/-- What is read behind i bytes that are each 128 or above and tell a. -/
def fin (i a : Nat) : Option (Nat × List UInt8) → Option (Nat × List UInt8)
  | none => none
  | some (v, q) => if i ≠ 0 ∧ v = 0 then none else some (a + 128 ^ i * v, q)
theorem fin_zero (o : Option (Nat × List UInt8)) : fin 0 0 o = o := by
  cases o with
  | none => rfl
  | some p => obtain ⟨v, q⟩ := p; simp [fin]
theorem fin_step (i a f : Nat) (c : UInt8) (r : List UInt8) (hc : ¬ c.toNat < 128) : fin i a (rdN (f + 1) (c :: r)) = fin (i + 1) (a + 128 ^ i * (c.toNat - 128)) (rdN f r) := by
  rw [rdN, if_neg hc]
  cases e : rdN f r with
  | none => rfl
  | some p =>
    obtain ⟨v, q⟩ := p
    by_cases hv : v = 0
    · simp [fin, hv]
    · have h0 : c.toNat - 128 + 128 * v ≠ 0 := by omega
      simp only [hv, if_false, fin, h0, and_false]
      rw [Nat.pow_succ, Nat.mul_add, Nat.mul_assoc, Nat.add_assoc]

/-! ### A record's body, read back -/
/-- The numbers that some bytes are made of. -/
inductive Nums9 : List UInt8 → List Nat → Prop
  | nil : Nums9 [] []
  | cons {v : Nat} {l : List UInt8} {vs : List Nat} (h : (numB v).length ≤ 9) (r : Nums9 l vs) : Nums9 (numB v ++ l) (v :: vs)
theorem numB_ne (v : Nat) : numB v ≠ [] := by
  by_cases hv : v < 128
  · rw [numB_small hv]; simp
  · rw [numB_big hv]; simp
theorem Nums9.uniq {l : List UInt8} {vs us : List Nat} (h : Nums9 l vs) (k : Nums9 l us) : vs = us := by
  induction h generalizing us with
  | nil =>
    generalize hl : ([] : List UInt8) = l at k
    cases k with
    | nil => rfl
    | cons h r => exact absurd (List.append_eq_nil_iff.1 hl.symm).1 (numB_ne _)
  | @cons v l vs h r ih =>
    generalize hl : numB v ++ l = m at k
    cases k with
    | nil => exact absurd (List.append_eq_nil_iff.1 hl).1 (numB_ne _)
    | cons h' r' =>
      obtain ⟨rfl, rfl⟩ := numB_inj hl
      rw [ih r']
theorem nums_of (vs : List Nat) (h : ∀ v ∈ vs, (numB v).length ≤ 9) : Nums9 (vs.map numB).flatten vs := by
  induction vs with
  | nil => exact .nil
  | cons v r ih =>
    simp only [List.map_cons, List.flatten_cons]
    exact .cons (h v (by simp)) (ih fun u hu => h u (by simp [hu]))
theorem Nums9.flat {l : List UInt8} {vs : List Nat} (h : Nums9 l vs) : l = (vs.map numB).flatten := by
  induction h with
  | nil => rfl
  | cons h r ih => rw [ih]; simp
def signO (n : Nat) : Int := if n % 2 = 0 then ((n / 2 : Nat) : Int) else -((n / 2 : Nat) : Int) - 1
theorem signO_N (z : Int) : signO (signN z) = z := by
  unfold signO signN
  by_cases h : z < 0
  · rw [if_pos h]; split <;> omega
  · rw [if_neg h]; split <;> omega
theorem signN_O (n : Nat) : signN (signO n) = n := by
  unfold signO
  by_cases h : n % 2 = 0
  · rw [if_pos h]; unfold signN; rw [if_neg (by omega)]; omega
  · rw [if_neg h]; unfold signN; rw [if_pos (by omega)]; omega
theorem body_nums {k : Int} {zs : List Int} (h : recR k zs = true) : Nums9 (bodyB k zs) (k.toNat :: zs.length :: zs.map signN) := by
  obtain ⟨h1, h2, h3, h4⟩ := recR_parts h
  have e : bodyB k zs = ((k.toNat :: zs.length :: zs.map signN).map numB).flatten := by
    simp [bodyB, numsB, Function.comp_def]
  rw [e]
  refine nums_of _ fun v hv => ?_
  simp only [List.mem_cons, List.mem_map] at hv
  rcases hv with rfl | rfl | ⟨z, hz, rfl⟩
  · exact Nat.le_trans (numB_len _ 0 (by omega)).2 (by decide)
  · exact Nat.le_trans (numB_len _ 0 (by omega)).2 (by decide)
  · have := signN_lt (List.all_eq_true.1 h4 z hz)
    exact Nat.le_trans (numB_len _ 7 (by omega)).2 (by decide)
theorem nums_body {l : List UInt8} {k : Nat} {rest : List Nat} (h : Nums9 l (k :: rest.length :: rest)) : l = bodyB k (rest.map signO) := by
  rw [h.flat]
  simp only [bodyB, numsB, List.map_cons, List.flatten_cons, List.length_map, Int.toNat_natCast, List.map_map, Function.comp_def, signN_O, List.append_assoc]

/-- The right record whose body these bytes are. -/
def IsBody (l : List UInt8) (k : Int) (zs : List Int) : Prop := recR k zs = true ∧ l = bodyB k zs
theorem IsBody.uniq {l : List UInt8} {k k' : Int} {zs zs' : List Int} (h : IsBody l k zs) (h' : IsBody l k' zs') : k = k' ∧ zs = zs' := by
  have e1 := body_nums h.1
  have e2 := body_nums h'.1
  rw [← h.2] at e1
  rw [← h'.2] at e2
  have e := e1.uniq e2
  simp only [List.cons.injEq] at e
  obtain ⟨a, -, c⟩ := e
  have p := recR_parts h.1
  have p' := recR_parts h'.1
  refine ⟨by omega, ?_⟩
  have := congrArg (List.map signO) c
  simpa [List.map_map, Function.comp_def, signO_N] using this

end Go.Proofs.YtmffoannknkjkaaDoor
namespace Go.Proofs.YtmffoannknkjkaaDoor
open Go.RowKit
set_option linter.unusedVariables false

/-- What numberAhead answers. -/
def ahV (l : List UInt8) : Int := match rdN 9 l with | none => 0 | some (v, _) => v
def ahW (l : List UInt8) : Int := match rdN 9 l with | none => 0 | some (v, _) => (numB v).length

theorem wrS (x : Int) (h0 : -9223372036854775808 ≤ x) (h1 : x < 9223372036854775808) : wrap64 x = x := by unfold wrap64; omega
theorem pow_sh (j : Nat) : (2 : Int) ^ (7 * j) = ((128 ^ j : Nat) : Int) := by
  rw [Int.pow_mul]
  simp
theorem sh_add (a b j : Nat) (hj : j ≤ 8) (ha : a < 128 ^ j) : wrap64 ((a : Int) + wrap64 ((b : Int) % 128 * 2 ^ (7 * j))) = ((a + 128 ^ j * (b % 128) : Nat) : Int) ∧ a + 128 ^ j * (b % 128) < 128 ^ (j + 1) := by
  have hp : 128 ^ j ≤ 128 ^ 8 := Nat.pow_le_pow_right (by decide) hj
  have hm : b % 128 ≤ 127 := by omega
  have hq : 128 ^ j * (b % 128) ≤ 128 ^ j * 127 := Nat.mul_le_mul_left _ hm
  rw [pow_sh, show (b : Int) % 128 * ((128 ^ j : Nat) : Int) = ((128 ^ j * (b % 128) : Nat) : Int) by push_cast; rw [Int.mul_comm]]
  generalize 128 ^ j * (b % 128) = m at *
  rw [Nat.pow_succ]
  generalize 128 ^ j = p at *
  rw [wrS (m : Int) (by omega) (by omega), wrS _ (by omega) (by omega)]
  refine ⟨by omega, by omega⟩

theorem ah_some {l : List UInt8} {v : Nat} {q : List UInt8} (h : rdN 9 l = some (v, q)) : ahV l = v ∧ ahW l = (numB v).length := by simp [ahV, ahW, h]
theorem ah_none {l : List UInt8} (h : rdN 9 l = none) : ahV l = 0 ∧ ahW l = 0 := by simp [ahV, ahW, h]
theorem drop_cons (s : ByteArray) (j : Nat) (h : j < s.size) : s.data.toList.drop j = s[j] :: s.data.toList.drop (j + 1) := by
  rw [List.drop_eq_getElem_cons (by simpa using h)]; rfl
theorem rdN_byte (f : Nat) (c : UInt8) (r : List UInt8) (h : c.toNat < 128) : rdN (f + 1) (c :: r) = some (c.toNat, r) := by rw [rdN, if_pos h]

theorem ah_at (s : ByteArray) (j v : Nat) (hj : j < s.size) (h : rdN 9 s.data.toList = some (v, s.data.toList.drop (j + 1))) : ahV s.data.toList = v ∧ ahW s.data.toList = (j : Int) + 1 := by
  have e := congrArg List.length (rdN_some _ _ _ _ h).1
  have hl : s.data.toList.length = s.size := by simp
  rw [List.length_append, List.length_drop, hl] at e
  rw [(ah_some h).1, (ah_some h).2]
  exact ⟨rfl, by omega⟩

set_option maxRecDepth 100000 in
set_option maxHeartbeats 1000000 in
theorem ahead_any (s : ByteArray) (hs : s.size ≤ 20000) (w : World) :
    Calls Tryd.prog 47 #[.string s] w fun e w' => e = .returned (.tuple #[.int .i64 (ahV s.data.toList), .int .i64 (ahW s.data.toList)]) ∧ Below w.heap.size w w' := by
  go_enter Tryd.func47, Tryd.ntmps47
  go_wp2
  rw [show min (s.size : Int) 9 = ((min s.size 9 : Nat) : Int) by omega]
  generalize hN : min s.size 9 = N
  have n1 : N ≤ 9 := by omega
  have n2 : N ≤ s.size := by omega
  have HN : Hid (N = 9 ∨ N = s.size) := by show _ ∨ _; omega
  clear hN
  go_loopw [4, 9] (fun t i wr => ∃ j a : Nat, i = .int .i64 j ∧ t = .int .i64 a ∧ j ≤ N ∧ a < 128 ^ j ∧ wr = w ∧ Hid (rdN 9 s.data.toList = fin j a (rdN (9 - j) (s.data.toList.drop j)))) (fun _ i _ => N - (intOf i).toNat)
  case atStart => exact ⟨0, 0, rfl, rfl, Nat.zero_le _, by decide, rfl, (by show _ = _; rw [fin_zero]; rfl)⟩
  case round =>
    obtain ⟨j, a, rfl, rfl, hj, ha, rfl, H1⟩ := hrel
    have hj0 : (0 : Int) ≤ (j : Int) := by omega
    by_cases h1 : j < N
    · have h1' : (j : Int) < (N : Int) := by omega
      have h2 : j < s.size := by omega
      have h2' : (j : Int) < (s.size : Int) := by omega
      have hb : ((s[j]'h2).toNat : Int) < 256 := by have := (s[j]'h2).toNat_lt; omega
      have hb0 : (0 : Int) ≤ ((s[j]'h2).toNat : Int) := by omega
      obtain ⟨eS, lS⟩ := sh_add a (s[j]'h2).toNat j (by omega) ha
      have HS := Lib.hid eS
      clear eS
      have ED := drop_cons s j h2
      have e9 : 9 - j = (8 - j) + 1 := by omega
      by_cases hc : (s[j]'h2).toNat < 128
      · have hc' : decide ((128 : Int) ≤ ((s[j]'h2).toNat : Int)) = false := by simp; omega
        have R : rdN 9 s.data.toList = fin j a (some ((s[j]'h2).toNat, s.data.toList.drop (j + 1))) := by
          rw [H1.out, ED, e9, rdN_byte _ _ _ hc]
        by_cases hz : (s[j]'h2).toNat = 0
        · have hz' : (((s[j]'h2).toNat : Int) == 0) = true := by simp [hz]
          by_cases hj1 : 0 < j
          · have hj1' : (0 : Int) < (j : Int) := by omega
            have F := Lib.hid (ah_none (l := s.data.toList) (by rw [R]; simp [fin, hz]; omega))
            clear R ED HS H1
            go_wp2
            exact bodyPost_ret (v := .tuple #[.int .i64 0, .int .i64 0]) (by simp [results, Tryd.results47, go_sem]) rfl ⟨by rw [F.out.1, F.out.2], Below.refl _ _⟩
          · have hj1' : decide ((0 : Int) < (j : Int)) = false := by simp; omega
            have a0 : a = 0 := by
              have ja : j = 0 := by omega
              rw [ja] at ha; simpa using ha
            have F := Lib.hid (ah_at s j 0 h2 (by rw [R]; simp [fin, hz, a0]; omega))
            clear R ED H1
            go_wp2
            exact bodyPost_ret (v := .tuple #[.int .i64 0, .int .i64 ((j : Int) + 1)]) (by simp [results, Tryd.results47, go_sem, a0]) rfl ⟨by rw [F.out.1, F.out.2]; rfl, Below.refl _ _⟩
        · have hz' : (((s[j]'h2).toNat : Int) == 0) = false := by simp; omega
          have F := Lib.hid (ah_at s j (a + 128 ^ j * ((s[j]'h2).toNat % 128)) h2 (by rw [R]; simp only [fin]; rw [if_neg (fun h => hz h.2), Nat.mod_eq_of_lt hc]))
          clear R ED H1
          generalize a + 128 ^ j * ((s[j]'h2).toNat % 128) = V at *
          go_wp2
          rw [HS.out]
          exact bodyPost_ret (v := .tuple #[.int .i64 (V : Int), .int .i64 ((j : Int) + 1)]) (by simp [results, Tryd.results47, go_sem]) rfl ⟨by rw [F.out.1, F.out.2], Below.refl _ _⟩
      · have hc' : (128 : Int) ≤ ((s[j]'h2).toNat : Int) := by omega
        have HF : Hid (rdN 9 s.data.toList = fin (j + 1) (a + 128 ^ j * ((s[j]'h2).toNat % 128)) (rdN (9 - (j + 1)) (s.data.toList.drop (j + 1)))) := by
          show _ = _
          rw [H1.out, ED, e9, fin_step _ _ _ _ _ hc, show (s[j]'h2).toNat % 128 = (s[j]'h2).toNat - 128 by have := (s[j]'h2).toNat_lt; omega, show 9 - (j + 1) = 8 - j by omega]
        clear ED e9
        go_wp2
        exact ⟨⟨j + 1, a + 128 ^ j * ((s[j]'h2).toNat % 128), by go_num, by rw [HS.out], by omega, lS, trivial, HF⟩, by simp [intOf]; omega⟩
    · have h1' : ¬ (j : Int) < (N : Int) := by omega
      have F := Lib.hid (ah_none (l := s.data.toList) (by
        rw [H1.out]
        have jN : j = N := by omega
        rcases HN.out with h | h
        · rw [jN, h]; rfl
        · rw [jN, h, List.drop_of_length_le (by simp)]
          cases 9 - s.size <;> rfl))
      clear H1
      go_wp2
      exact bodyPost_ret (v := .tuple #[.int .i64 0, .int .i64 0]) (by simp [results, Tryd.results47, go_sem]) rfl ⟨by rw [F.out.1, F.out.2], Below.refl _ _⟩

end Go.Proofs.YtmffoannknkjkaaDoor
