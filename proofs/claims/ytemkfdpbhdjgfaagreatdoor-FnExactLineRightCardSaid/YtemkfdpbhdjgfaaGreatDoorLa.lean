/-
  WHAT STANDS UNDER ALL: truth values, lists of numbers, a number in digits.
-/
import Derived.Test.YtemkfdpbhdjgfaaGreatDoorShelf
import Derived.Test.YtemkfdpbhdjgfaaGreatDoorRows
import Derived.WalkKit
import Derived.WalkSpells
import Derived.WalkLawsBesides
import Derived.Laws.EntriesVeiled
import Derived.Deep.QuietTactic
import Derived.BigQuiet
import Derived.Lib.AppendStr
import Derived.Lib.Builder
import Derived.Laws.Externs
import Derived.Lib.AppendIntMem
import Derived.Lib.LaidTab
import Derived.Lib.Hide
import Derived.Laws.AppendOwn
import Derived.Maps.AppendAt
import Derived.OwnWalk
import Derived.Deep.AppendLies
import Derived.WalkSmall
namespace Go.Proofs.YtemkfdpbhdjgfaaGreatDoor
open Go.RowKit
set_option linter.unusedVariables false

/-- Is it so? -/
noncomputable def B (p : Prop) : Bool := @decide p (Classical.propDecidable p)
theorem B_yes {p : Prop} (h : p) : B p = true := by unfold B; simp [h]
theorem B_no {p : Prop} (h : ¬ p) : B p = false := by unfold B; simp [h]
theorem B_iff {p q : Prop} (h : p ↔ q) : B p = B q := by rw [propext h]
theorem B_true {p : Prop} (h : B p = true) : p := by unfold B at h; simpa using h
theorem B_false {p : Prop} (h : B p = false) : ¬ p := by unfold B at h; simpa using h

def inB (lo hi a : Int) : Bool := decide (lo ≤ a ∧ a ≤ hi)

theorem bcell {W w1 : World} (hb : Below W.heap.size W w1) : (∀ b o, b < W.heap.size → w1.cell? ⟨b, o, none⟩ = W.cell? ⟨b, o, none⟩) ∧ (∀ b o, b < W.heap.size → w1.frozen? ⟨b, o, none⟩ = W.frozen? ⟨b, o, none⟩) :=
  ⟨fun _ _ h => hb.cell h, fun _ _ h => hb.frozen h⟩
theorem bT {W w w1 : World} (h : Below W.heap.size W w) (hb : Below w.heap.size w w1) : Below W.heap.size W w1 := h.trans (hb.mono h.size)
theorem bZ {W w1 : World} {o : Obj} (hb : Below (W.alloc o).heap.size (W.alloc o) w1) : W.heap.size < w1.heap.size := by have := hb.size; simp at this; omega
theorem bA {W w : World} (h : Below W.heap.size W w) (o : Obj) : Below W.heap.size W (w.alloc o) := h.alloc h.size o
theorem bA0 (W : World) (o : Obj) : Below W.heap.size W (W.alloc o) := (Below.refl _ _).alloc (Nat.le_refl _) o

/-- The numbers zs lie from cell o of block c on. -/
def IntsAt (w : World) (c o : Nat) (zs : List Int) : Prop :=
  c < w.heap.size ∧ ∀ i, i < zs.length → w.cell? ⟨c, o + i, none⟩ = some (.int .i64 (zs.getD i 0))
/-- A slice of the numbers zs. -/
def Ints (w : World) (sl : Option Addr) (zs : List Int) : Prop := zs = [] ∨ ∃ c o, sl = some ⟨c, o, none⟩ ∧ IntsAt w c o zs

theorem IntsAt.below {w w' : World} {c o : Nat} {zs : List Int} (h : IntsAt w c o zs) (hb : Below w.heap.size w w') : IntsAt w' c o zs :=
  ⟨Nat.lt_of_lt_of_le h.1 hb.size, fun i hi => (hb.cell h.1).trans (h.2 i hi)⟩
theorem Ints.below {w w' : World} {sl : Option Addr} {zs : List Int} (h : Ints w sl zs) (hb : Below w.heap.size w w') : Ints w' sl zs := by
  rcases h with h | ⟨c, o, e, h⟩
  · exact .inl h
  · exact .inr ⟨c, o, e, h.below hb⟩

theorem all_step (p : Int → Bool) (zs : List Int) (k : Nat) (h : k < zs.length) (hp : (zs.take k).all p = true) : (zs.take (k + 1)).all p = p (zs.getD k 0) := by
  rw [List.take_succ_eq_append_getElem h, List.all_append, hp]
  simp [h]
theorem all_no (p : Int → Bool) (zs : List Int) (k : Nat) (h : k < zs.length) (hp : p (zs.getD k 0) = false) : zs.all p = false := by
  rw [List.all_eq_false]
  exact ⟨zs[k], List.getElem_mem h, by simpa [h] using hp⟩
theorem all_end (p : Int → Bool) (zs : List Int) (k : Nat) (h : zs.length ≤ k) (hp : (zs.take k).all p = true) : zs.all p = true := by
  rwa [List.take_of_length_le h] at hp

/-- FormatInt, of any int64. -/
def PowTab (w : World) : Prop := Lib.TabIs Tryz.prog w "internal/strconv.uint64pow10" .u64 Lib.pow10Tab
theorem PowTab.below {w w' : World} (h : PowTab w) (hb : Below w.heap.size w w') : PowTab w' := Lib.tabBelow_of_tabIs h w' hb
theorem fi_any (n : Int) (h0 : -9223372036854775808 ≤ n) (h1 : n ≤ 9223372036854775807) (w : World) (h : PowTab w) :
    Calls Tryz.prog 47 #[.int .i64 n, .int .i64 10] w fun e w' => e = .returned (.string ⟨(Lib.itoa n).toArray⟩) ∧ Below w.heap.size w w' := by
  refine (Tryz.strconv_FormatInt_10 n h0 h1 w h).mono ?_
  rintro e w' ⟨rfl, k, os, rfl⟩
  exact ⟨rfl, Lib.below_grow _ w (Nat.le_refl _) k os⟩
theorem info2' : (Tryz.prog.info? 2).map (fun i => (i.zero, i.size, i.bytes)) = some (some (.int .i64 0), 1, 8) := by kernel_rfl

theorem cell_one_new' (w : World) (o : Obj) (a : Value) (t : TypeId) : ∀ (j : Nat) (u : Value), [a][j]? = some u → ((w.alloc o).alloc (.cells #[a] t)).cell? ((⟨w.heap.size + 1, 0, none⟩ : Addr).add j) = some u := by
  have := cell_one_new (w.alloc o) a t
  rwa [show (w.alloc o).heap.size = w.heap.size + 1 by simp] at this


open Go.Lib


/-- The byte of a small number. -/
def by8 (x : Int) : UInt8 := UInt8.ofNat x.toNat
theorem by8_nat {x : Int} (h0 : 0 ≤ x) (h1 : x < 256) : ((by8 x).toNat : Int) = x := by
  unfold by8; simp [UInt8.toNat_ofNat']; omega
theorem conv_row (w : World) (l : List UInt8) (a cap : Nat) (h : ∀ j (hj : j < l.length), w.cell? ⟨a, j, none⟩ = some (.int .u8 (l[j].toNat : Int))) :
    Sem.run Tryz.prog (convert 63 9 (.slice (some ⟨a, 0, none⟩) l.length cap)) w = .ok (.string ⟨l.toArray⟩) w :=
  run_convert_bytes_back (P := Tryz.prog) w 63 9 5 ⟨a, 0, none⟩ cap l Tryz.underlying63 Tryz.underlying5 Tryz.underlying9 (fun j hj => by
    rw [Lib.add_plain]; rw [Nat.zero_add]; exact h j hj)
theorem conv1 (w : World) (x : Int) (h0 : 0 ≤ x) (h1 : x < 256) :
    Sem.run Tryz.prog (convert 63 9 (.slice (some ⟨w.heap.size, 0, none⟩) 1 1)) (w.alloc (.cells #[.int .u8 x] 5)) = .ok (.string ⟨[by8 x].toArray⟩) (w.alloc (.cells #[.int .u8 x] 5)) := by
  refine conv_row _ [by8 x] w.heap.size 1 (fun j hj => ?_)
  have : j = 0 := by simpa using hj
  subst this
  rw [World.cell?_alloc_new]
  simp [by8_nat h0 h1]

theorem ba_app (a b : List UInt8) : (⟨a.toArray⟩ : ByteArray) ++ ⟨b.toArray⟩ = ⟨(a ++ b).toArray⟩ := by
  apply ByteArray.ext
  simp
/-- What has been told of u0 when u is left. -/
def Told (u0 u : Nat) (l : List UInt8) : Prop := (u ≠ 0 → Lib.decDigits u0 = Lib.decDigits u ++ l) ∧ (u = 0 → l = Lib.decDigits u0)
theorem Told.step {u0 u : Nat} {l : List UInt8} (h : Told u0 u l) (hz : ¬ u = 0) : Told u0 (u / 10) (by8 (48 + (u : Int) % 10) :: l) := by
  have e : by8 (48 + (u : Int) % 10) = UInt8.ofNat (48 + u % 10) := by
    unfold by8; congr 1
  rw [e]
  have h1 := h.1 hz
  constructor
  · intro h10
    rw [h1, Lib.decDigits, dif_neg (by omega)]
    simp
  · intro h10
    have hlt : u < 10 := by omega
    rw [h1, Lib.decDigits_one hlt]
    rw [show u % 10 = u by omega]
    rfl

theorem Told.len {u0 u : Nat} {l : List UInt8} (h : Told u0 u l) (h0 : 1 ≤ u0) (h1 : u0 ≤ 1000000000000000) : l.length ≤ 20 := by
  have hn : (Lib.decDigits u0).length ≤ 20 := by
    rw [Lib.decDigits_length]
    have := Lib.numDigits_eq u0 h0 (by omega)
    split at this <;> omega
  by_cases hz : u = 0
  · rw [h.2 hz]; exact hn
  · rw [h.1 hz, List.length_append] at hn; omega

set_option maxRecDepth 100000 in
set_option maxHeartbeats 1000000 in
theorem dec_pos (u0 : Nat) (h0 : 1 ≤ u0) (h1 : u0 ≤ 1000000000000000) (w : World) :
    Calls Tryz.prog 16 #[.int .i64 (u0)] w fun e w' => e = .returned (.string ⟨(Lib.decDigits u0).toArray⟩) ∧ Below w.heap.size w w' := by
  have z0 : ((u0 : Int) == 0) = false := by simp; omega
  have z1 : ¬ (u0 : Int) < 0 := by omega
  go_enter Tryz.func16, Tryz.ntmps16
  go_wp2
  go_loopw [0, 4] (fun nv ov wr => ∃ (u : Nat) (l : List UInt8), nv = .int .i64 ((u : Int)) ∧ ov = .string ⟨l.toArray⟩ ∧ u ≤ 1000000000000000 ∧ Hid (Told u0 u l) ∧ Hid (Below w.heap.size w wr)) (fun nv _ _ => (RowKit.intOf nv).natAbs)
  case atStart => exact ⟨u0, [], rfl, rfl, h1, ⟨fun _ => by simp, fun h => by omega⟩, Below.refl _ _⟩
  case round =>
    obtain ⟨u, l, rfl, rfl, hu, H1, H⟩ := hrel
    have hl := H1.out.len h0 h1
    by_cases hz : u = 0
    · have HE : Hid (l = Lib.decDigits u0) := H1.out.2 hz
      subst hz
      go_wp2
      go_ret
      exact ⟨by rw [← HE.out]; rfl, H.out⟩
    · have hz1 : (((u : Int)) != 0) = true := by simp [hz]
      have hu0 : (0 : Int) ≤ (u : Int) := by omega
      have hu1 : (u : Int) ≤ 1000000000000000 := by omega
      have HT : Hid (Told u0 (u / 10) (by8 (48 + (u : Int) % 10) :: l)) := H1.out.step hz
      have hcv := conv1 wr (48 + (u : Int) % 10) (by omega) (by omega)
      go_wp2
      go_roundw
      case rel => exact ⟨u / 10, _, by go_num, by rw [ba_app [by8 (48 + (u : Int) % 10)] l]; rfl, by omega, HT, bA H.out _⟩
      case measure => simp [RowKit.intOf]; omega

set_option maxRecDepth 100000 in
set_option maxHeartbeats 1000000 in
theorem dec_neg (u0 : Nat) (h0 : 1 ≤ u0) (h1 : u0 ≤ 1000000000000000) (w : World) :
    Calls Tryz.prog 16 #[.int .i64 (-(u0 : Int))] w fun e w' => e = .returned (.string ⟨(45 :: Lib.decDigits u0).toArray⟩) ∧ Below w.heap.size w w' := by
  have z0 : ((-(u0 : Int)) == 0) = false := by simp; omega
  have z1 : -(u0 : Int) < 0 := by omega
  have z2 : decide (0 < u0) = true := by simp; omega
  have z3 : 0 < u0 := by omega
  go_enter Tryz.func16, Tryz.ntmps16
  go_wp2
  go_loopw [0, 4] (fun nv ov wr => ∃ (u : Nat) (l : List UInt8), nv = .int .i64 (-(u : Int)) ∧ ov = .string ⟨l.toArray⟩ ∧ u ≤ 1000000000000000 ∧ Hid (Told u0 u l) ∧ Hid (Below w.heap.size w wr)) (fun nv _ _ => (RowKit.intOf nv).natAbs)
  case atStart => exact ⟨u0, [], rfl, rfl, h1, ⟨fun _ => by simp, fun h => by omega⟩, Below.refl _ _⟩
  case round =>
    obtain ⟨u, l, rfl, rfl, hu, H1, H⟩ := hrel
    have hl := H1.out.len h0 h1
    by_cases hz : u = 0
    · have HE : Hid (l = Lib.decDigits u0) := H1.out.2 hz
      subst hz
      go_wp2
      go_ret
      exact ⟨by rw [← HE.out]; exact congrArg (fun x => Ending.returned (.string x)) (ba_app [45] l), H.out⟩
    · have hz1 : ((-(u : Int)) != 0) = true := by simp [hz]
      have hu0 : (0 : Int) ≤ (u : Int) := by omega
      have hu1 : (u : Int) ≤ 1000000000000000 := by omega
      have HT : Hid (Told u0 (u / 10) (by8 (48 + (u : Int) % 10) :: l)) := H1.out.step hz
      by_cases hm : (u : Int) % 10 = 0
      · have hcv := conv1 wr 48 (by omega) (by omega)
        rw [hm, Int.add_zero] at HT
        go_wp2
        go_roundw
        case rel => exact ⟨u / 10, _, by go_num, by rw [ba_app [by8 48] l]; rfl, by omega, HT, bA H.out _⟩
        case measure => simp [RowKit.intOf]; omega
      · have hm1 : (0 : Int) < (u : Int) % 10 := by omega
        have hcv := conv1 wr (48 + (u : Int) % 10) (by omega) (by omega)
        go_wp2
        go_roundw
        case rel => exact ⟨u / 10, _, by go_num, by rw [ba_app [by8 (48 + (u : Int) % 10)] l]; rfl, by omega, HT, bA H.out _⟩
        case measure => simp [RowKit.intOf]; omega

set_option maxHeartbeats 400000 in
theorem dec_zero (w : World) :
    Calls Tryz.prog 16 #[.int .i64 0] w fun e w' => e = .returned (.string ⟨(Lib.itoa 0).toArray⟩) ∧ Below w.heap.size w w' := by
  have e : Lib.itoa 0 = [48] := by rw [Lib.itoa, if_neg (by decide)]; exact Lib.decDigits_one (by decide)
  rw [e]; clear e
  go_enter Tryz.func16, Tryz.ntmps16
  go_wp2
  go_ret
  exact ⟨rfl, Below.refl _ _⟩
theorem dec_any (n : Int) (h : -1000000000000000 ≤ n ∧ n ≤ 1000000000000000) (w : World) :
    Calls Tryz.prog 16 #[.int .i64 n] w fun e w' => e = .returned (.string ⟨(Lib.itoa n).toArray⟩) ∧ Below w.heap.size w w' := by
  by_cases h0 : n = 0
  · subst h0; exact dec_zero w
  · by_cases hn : n < 0
    · obtain ⟨u, hu⟩ := Int.eq_ofNat_of_zero_le (show 0 ≤ -n by omega)
      obtain rfl : n = -(u : Int) := by omega
      have := dec_neg u (by omega) (by omega) w
      rw [show Lib.itoa (-(u : Int)) = 45 :: Lib.decDigits u by rw [Lib.itoa, if_pos hn]; congr 2; omega]
      exact this
    · obtain ⟨u, rfl⟩ := Int.eq_ofNat_of_zero_le (show 0 ≤ n by omega)
      have := dec_pos u (by omega) (by omega) w
      rw [show Lib.itoa (u : Int) = Lib.decDigits u by rw [Lib.itoa, if_neg hn]; congr 1]
      exact this


end Go.Proofs.YtemkfdpbhdjgfaaGreatDoor
