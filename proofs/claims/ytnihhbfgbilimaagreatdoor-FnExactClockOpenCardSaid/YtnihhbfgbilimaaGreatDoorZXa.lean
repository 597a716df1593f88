import Derived.Test.YtnihhbfgbilimaaGreatDoorVab
import Derived.Lib.SliceRun
import Derived.Deep.LoopGhost
import Derived.Lib.TrailingZeros
import Derived.RegionTactic
import Derived.ChangeAlike
import Derived.Deep.RegionWith
import Derived.Deep.RegionLaw
import Derived.Deep.DeepCutAuto
import Derived.Shelf.Spec.TrailingZeros
import Derived.ChangeSame
import Derived.ChangeSlices
import Derived.ChangeArms
import Derived.Deep.Strs
import Derived.Deep.Slices
import Derived.Recover
import Derived.Laws.CopyOwn
import Derived.Laws.Rows
import Derived.Laws.Tables
namespace Go.Proofs.YtnihhbfgbilimaaGreatDoor
open Go.RowKit
set_option linter.unusedVariables false
def inB (lo hi a : Int) : Bool := decide (lo ≤ a ∧ a ≤ hi)
theorem bcell {W w1 : World} (hb : Below W.heap.size W w1) : (∀ b o, b < W.heap.size → w1.cell? ⟨b, o, none⟩ = W.cell? ⟨b, o, none⟩) ∧ (∀ b o, b < W.heap.size → w1.frozen? ⟨b, o, none⟩ = W.frozen? ⟨b, o, none⟩) :=
 ⟨fun _ _ h => hb.cell h, fun _ _ h => hb.frozen h⟩
theorem bZ {W w1 : World} {o : Obj} (hb : Below (W.alloc o).heap.size (W.alloc o) w1) : W.heap.size < w1.heap.size := by have := hb.size; simp at this; omega
theorem all_step (p : Int → Bool) (zs : List Int) (k : Nat) (h : k < zs.length) (hp : (zs.take k).all p = true) : (zs.take (k + 1)).all p = p (zs.getD k 0) := by
 rw [List.take_succ_eq_append_getElem h, List.all_append, hp]
 simp [h]
theorem all_no (p : Int → Bool) (zs : List Int) (k : Nat) (h : k < zs.length) (hp : p (zs.getD k 0) = false) : zs.all p = false := by
 rw [List.all_eq_false]
 exact ⟨zs[k], List.getElem_mem h, by simpa [h] using hp⟩
theorem all_end (p : Int → Bool) (zs : List Int) (k : Nat) (h : zs.length ≤ k) (hp : (zs.take k).all p = true) : zs.all p = true := by
 rwa [List.take_of_length_le h] at hp
set_option maxHeartbeats 400000 in
theorem l01All_nil (sl : Option Addr) (cap : Nat) (x y : Value) (w : World) :
  Calls Tryz.prog 135 #[.slice sl 0 cap, x, y] w fun e w' => e = .returned (.bool true) ∧ w' = w := by
 go_enter Tryz.func135, Tryz.ntmps135
 go_wp2
 refine wp_loop_rounds 1 ?_
 rw [rounds_succ]
 go_wp2
 go_ret
 exact ⟨rfl, rfl⟩
set_option maxHeartbeats 400000 in
theorem l01All_some (lo hi : Int) (c o cap : Nat) (zs : List Int) (w : World) (hn : zs.length ≤ maxLen) (hz : IntsAt w c o zs) :
  Calls Tryz.prog 135 #[.slice (some ⟨c, o, none⟩) zs.length cap, .int .i64 lo, .int .i64 hi] w fun e w' => e = .returned (.bool (zs.all (inB lo hi))) ∧ w' = w := by
 unfold maxLen at hn
 have HZ : Hid (IntsAt w c o zs) := hz
 clear hz
 generalize hN : zs.length = n at *
 have HN : Hid (zs.length = n) := hN
 clear hN
 go_enter Tryz.func135, Tryz.ntmps135
 go_wp2
 go_loop [7] (fun i => ∃ k : Nat, i = .int .i64 k ∧ k ≤ n ∧ Hid ((zs.take k).all (inB lo hi) = true)) (fun i => n - (intOf i).toNat)
 case atStart => exact ⟨0, rfl, Nat.zero_le _, (by show (zs.take 0).all (inB lo hi) = true; simp)⟩
 case round =>
  obtain ⟨k, rfl, hk, H1⟩ := hrel
  have hk0 : (0 : Int) ≤ (k : Int) := by omega
  by_cases h1 : k < n
  ·have h1' : (k : Int) < (n : Int) := by omega
   have hc : w.cell? ⟨c, o + k, none⟩ = some (.int .i64 (zs.getD k 0)) := HZ.out.2 k (by rw [HN.out]; exact h1)
   by_cases a1 : zs.getD k 0 < lo
   ·have HF : Hid (zs.all (inB lo hi) = false) := all_no (inB lo hi) zs k (by rw [HN.out]; exact h1) (by simp only [inB, decide_eq_false_iff_not]; omega)
    generalize zs.getD k 0 = z at *
    go_wp2
    go_ret
    exact ⟨by rw [HF.out]; rfl, rfl⟩
   ·by_cases a2 : hi < zs.getD k 0
    ·have HF : Hid (zs.all (inB lo hi) = false) := all_no (inB lo hi) zs k (by rw [HN.out]; exact h1) (by simp only [inB, decide_eq_false_iff_not]; omega)
     generalize zs.getD k 0 = z at *
     go_wp2
     go_ret
     exact ⟨by rw [HF.out]; rfl, rfl⟩
    ·have HS : Hid ((zs.take (k + 1)).all (inB lo hi) = true) := (all_step (inB lo hi) zs k (by rw [HN.out]; exact h1) H1.out).trans (by simp only [inB, decide_eq_true_eq]; omega)
     generalize zs.getD k 0 = z at *
     go_wp2
     go_round
     case rel => exact ⟨k + 1, by go_num, by omega, HS⟩
     case measure => simp [intOf]; omega
  ·have h1' : ¬ (k : Int) < (n : Int) := by omega
   have HE : Hid (zs.all (inB lo hi) = true) := all_end (inB lo hi) zs k (by rw [HN.out]; omega) H1.out
   go_wp2
   go_ret
   exact ⟨by rw [HE.out]; rfl, rfl⟩
theorem l01All_any (lo hi : Int) (sl : Option Addr) (cap : Nat) (zs : List Int) (w : World) (hn : zs.length ≤ maxLen) (hz : Ints w sl zs) :
  Calls Tryz.prog 135 #[.slice sl zs.length cap, .int .i64 lo, .int .i64 hi] w fun e w' => e = .returned (.bool (zs.all (inB lo hi))) ∧ w' = w := by
 rcases hz with rfl | ⟨c, o, rfl, h⟩
 ·exact l01All_nil sl cap _ _ w
 ·exact l01All_some lo hi c o cap zs w hn h
abbrev SV (i s : Int) (sl : Option Addr) (n cap : Nat) : Value := .agg #[.int .i64 i, .int .i64 s, .slice sl n cap]
def RiseTo (zs : List Int) (k : Nat) : Prop := ∀ i, i < k → 0 < i → zs.getD (i - 1) 0 < zs.getD i 0
theorem InRise.iff (lo hi : Int) (zs : List Int) : InRise lo hi zs ↔ RiseTo zs zs.length ∧ zs.all (inB lo hi) = true := by
 constructor
 ·intro h
  refine ⟨fun i h1 h2 => (h i h1).2 h2, ?_⟩
  rw [List.all_eq_true]
  intro x hx
  obtain ⟨i, hi, rfl⟩ := List.getElem_of_mem hx
  have := (h i hi).1
  simp only [List.getD_eq_getElem?_getD, hi, List.getElem?_eq_getElem, Option.getD_some] at this
  simp [inB, this]
 ·rintro ⟨h1, h2⟩ i h
  refine ⟨?_, fun h0 => h1 i h h0⟩
  have := List.all_eq_true.1 h2 zs[i] (List.getElem_mem h)
  simp only [inB, decide_eq_true_eq] at this
  simpa [h] using this
set_option maxHeartbeats 400000 in
theorem ri_small (sl : Option Addr) (n cap : Nat) (h : n ≤ 1) (w : World) :
  Calls Tryz.prog 112 #[.slice sl n cap] w fun e w' => e = .returned (.bool true) ∧ w' = w := by
 have h' : ¬ (1 : Int) < (n : Int) := by omega
 go_enter Tryz.func112, Tryz.ntmps112
 go_wp2
 refine wp_loop_rounds 1 ?_
 rw [rounds_succ]
 go_wp2
 go_ret
 exact ⟨rfl, rfl⟩
set_option maxHeartbeats 1000000 in
theorem ri_some (c o cap : Nat) (zs : List Int) (w : World) (hn : zs.length ≤ 1048576) (hz : IntsAt w c o zs) (hl : 1 ≤ zs.length) :
  Calls Tryz.prog 112 #[.slice (some ⟨c, o, none⟩) zs.length cap] w fun e w' => e = .returned (.bool (B (RiseTo zs zs.length))) ∧ Below w.heap.size w w' := by
 have HZ := Lib.hid hz
 clear hz
 generalize hN : zs.length = n at *
 have HN := Lib.hid hN
 clear hN
 go_enter Tryz.func112, Tryz.ntmps112
 go_wp2
 go_loopw [3] (fun i wr => ∃ k : Nat, i = .int .i64 k ∧ 1 ≤ k ∧ k ≤ n ∧ Hid (RiseTo zs k) ∧ Hid (Below w.heap.size w wr)) (fun i _ => n - (intOf i).toNat)
 case atStart => exact ⟨1, rfl, Nat.le_refl _, hl, fun i h1 h2 => by omega, Below.refl _ _⟩
 case round =>
  obtain ⟨k, rfl, hk1, hk, H1, H2⟩ := hrel
  have hk0 : (0 : Int) ≤ (k : Int) := by omega
  by_cases h1 : k < n
  ·have h1' : (k : Int) < (n : Int) := by omega
   have hlt : k < zs.length := by rw [HN.out]; exact h1
   have hc : wr.cell? ⟨c, o + k, none⟩ = some (.int .i64 (zs.getD k 0)) := (H2.out.cell HZ.out.1).trans (HZ.out.2 k hlt)
   have ek : ((k : Int) - 1).toNat = k - 1 := by omega
   have hd : wr.cell? ⟨c, o + (k - 1), none⟩ = some (.int .i64 (zs.getD (k - 1) 0)) := (H2.out.cell HZ.out.1).trans (HZ.out.2 (k - 1) (by omega))
   have hw : IntKind.i64.wrap ((k : Int) - 1) = (k : Int) - 1 := by rw [IntKind.wrap_i64]; omega
   by_cases a4 : zs.getD k 0 ≤ zs.getD (k - 1) 0
   ·have HF := Lib.hid (B_no (p := RiseTo zs n) (fun g => by have := g k h1 (by omega); omega))
    clear hlt
    generalize zs.getD k 0 = z at *
    generalize zs.getD (k - 1) 0 = y at *
    go_wp2
    go_quiet (fail)
    go_wp2
    go_ret
    exact ⟨by rw [HF.out]; rfl, below_drewN H2.out _⟩
   ·have HS : Hid (RiseTo zs (k + 1)) := fun i h2 h3 => by
     by_cases e : i = k
     ·subst e; omega
     ·exact H1.out i (by omega) h3
    clear hlt
    generalize zs.getD k 0 = z at *
    generalize zs.getD (k - 1) 0 = y at *
    go_wp2
    go_quiet (fail)
    go_wp2
    go_roundw
    case rel => exact ⟨k + 1, by go_num, by omega, by omega, HS, below_drewN H2.out _⟩
    case measure => simp [intOf]; omega
  ·have h1' : ¬ (k : Int) < (n : Int) := by omega
   have HE : Hid (B (RiseTo zs n) = true) := B_yes (by have := H1.out; rwa [show k = n by omega] at this)
   go_wp2
   go_ret
   exact ⟨by rw [HE.out]; rfl, H2.out⟩
theorem ri_any (sl : Option Addr) (cap : Nat) (zs : List Int) (w : World) (hn : zs.length ≤ 1048576) (hz : Ints w sl zs) :
  Calls Tryz.prog 112 #[.slice sl zs.length cap] w fun e w' => e = .returned (.bool (B (RiseTo zs zs.length))) ∧ Below w.heap.size w w' := by
 by_cases hl : 1 ≤ zs.length
 ·rcases hz with rfl | ⟨c, o, rfl, h⟩
  ·simp at hl
  ·exact ri_some c o cap zs w hn h hl
 ·rw [B_yes (p := RiseTo zs zs.length) (fun i h1 h2 => by omega)]
  refine (ri_small sl _ cap (by omega) w).mono ?_
  rintro e w' ⟨rfl, rfl⟩
  exact ⟨rfl, Below.refl _ _⟩
theorem idsL_len (rs : List LSt) : (idsL rs).length = rs.length := by simp [idsL]
theorem idsL_get (rs : List LSt) (i : Nat) (h : i < rs.length) : (idsL rs).getD i 0 = rs[i].1 := by simp [idsL, h]
abbrev TV (sl : Option Addr) (n cap : Nat) (sl2 : Option Addr) (m cap2 : Nat) : Value := .agg #[.slice sl n cap, .slice sl2 m cap2]
set_option maxHeartbeats 1000000 in
theorem st_any (i s : Int) (sl : Option Addr) (cap : Nat) (zs : List Int) (w : World) (hn : zs.length ≤ 1048576) (hz : Ints w sl zs) :
  Calls Tryz.prog 158 #[SV i s sl zs.length cap] w fun e w' => e = .returned (.bool (B ((1 ≤ i ∧ i ≤ 999) ∧ StOK s zs))) ∧ Below w.heap.size w w' := by
 by_cases h1 : (1 ≤ i ∧ i ≤ 999) ∧ (1 ≤ s ∧ s ≤ 1000) ∧ (1 ≤ zs.length ∧ zs.length ≤ 8)
 ·obtain ⟨⟨a1, a2⟩, ⟨a3, a4⟩, a5, a6⟩ := h1
  have a5' : (1 : Int) ≤ (zs.length : Int) := by omega
  have a6' : (zs.length : Int) ≤ 8 := by omega
  have R : Hid (∀ W, Below w.heap.size w W → Calls Tryz.prog 112 #[.slice sl zs.length cap] W fun e w' => e = .returned (.bool (B (RiseTo zs zs.length))) ∧ Below W.heap.size W w') := fun W hW => ri_any sl cap zs W hn (hz.below hW)
  have A : Hid (∀ W, Below w.heap.size w W → Calls Tryz.prog 135 #[.slice sl zs.length cap, .int .i64 2, .int .i64 51] W fun e w' => e = .returned (.bool (zs.all (inB 2 51))) ∧ w' = W) := fun W hW => l01All_any 2 51 sl cap zs W (by unfold maxLen; omega) (hz.below hW)
  by_cases hr : RiseTo zs zs.length
  ·have F := Lib.hid (show B ((1 ≤ i ∧ i ≤ 999) ∧ StOK s zs) = zs.all (inB 2 51) by
    cases e : zs.all (inB 2 51)
    ·exact B_no (fun h => by have := ((InRise.iff 2 51 zs).1 h.2.2.2).2; rw [e] at this; cases this)
    ·exact B_yes ⟨⟨a1, a2⟩, ⟨a3, a4⟩, ⟨a5, a6⟩, (InRise.iff 2 51 zs).2 ⟨hr, e⟩⟩)
   rw [B_yes hr] at R
   clear hz hr hn a5 a6
   generalize zs.all (inB 2 51) = b at *
   generalize zs.length = n at *
   go_enter Tryz.func158, Tryz.ntmps158
   go_wp2_with fail
   refine (R.out _ (bA0 _ _)).mono ?_
   rintro e w1 ⟨rfl, b1⟩
   have P := Lib.hid (bT (bA0 w _) b1)
   obtain ⟨hc, hf⟩ := bcell b1
   have hz := bZ b1
   clear b1
   go_wp2_with fail
   refine (A.out _ P.out).mono ?_
   rintro e w2 ⟨rfl, rfl⟩
   go_wp2
   go_ret
   exact ⟨by rw [F.out]; rfl, P.out⟩
  ·have F := Lib.hid (B_no (p := (1 ≤ i ∧ i ≤ 999) ∧ StOK s zs) (fun h => hr ((InRise.iff 2 51 zs).1 h.2.2.2).1))
   rw [B_no hr] at R
   clear hz hr hn a5 a6
   generalize zs.length = n at *
   go_enter Tryz.func158, Tryz.ntmps158
   go_wp2_with fail
   refine (R.out _ (bA0 _ _)).mono ?_
   rintro e w1 ⟨rfl, b1⟩
   have P := Lib.hid (bT (bA0 w _) b1)
   clear b1
   go_wp2
   go_ret
   exact ⟨by rw [F.out]; rfl, P.out⟩
 ·have F := Lib.hid (B_no (p := (1 ≤ i ∧ i ≤ 999) ∧ StOK s zs) (fun h => h1 ⟨h.1, h.2.1, h.2.2.1⟩))
  have F2 : Hid (∀ W, Below w.heap.size w W → (Ending.returned (Value.bool false) = .returned (.bool (B ((1 ≤ i ∧ i ≤ 999) ∧ StOK s zs))) ∧ Below w.heap.size w W)) := fun W h => ⟨by rw [F.out], h⟩
  generalize B ((1 ≤ i ∧ i ≤ 999) ∧ StOK s zs) = r at *
  clear hz hn F
  have hl0 : (0 : Int) ≤ (zs.length : Int) := by omega
  have h1' : ¬ ((1 ≤ i ∧ i ≤ 999) ∧ (1 ≤ s ∧ s ≤ 1000) ∧ ((1 : Int) ≤ (zs.length : Int) ∧ (zs.length : Int) ≤ 8)) := by omega
  clear h1
  generalize (zs.length) = n at *
  by_cases c1 : 1 ≤ i
  ·by_cases c2 : i ≤ 999
   ·by_cases c3 : 1 ≤ s
    ·by_cases c4 : s ≤ 1000
     ·by_cases c5 : (1 : Int) ≤ (n : Int)
      ·have c6 : ¬ (n : Int) ≤ 8 := by omega
       clear h1'
       go_enter Tryz.func158, Tryz.ntmps158
       go_wp2
       go_ret
       exact F2.out _ (bA0 _ _)
      ·clear h1'
       go_enter Tryz.func158, Tryz.ntmps158
       go_wp2
       go_ret
       exact F2.out _ (bA0 _ _)
     ·clear h1'
      go_enter Tryz.func158, Tryz.ntmps158
      go_wp2
      go_ret
      exact F2.out _ (bA0 _ _)
    ·clear h1'
     go_enter Tryz.func158, Tryz.ntmps158
     go_wp2
     go_ret
     exact F2.out _ (bA0 _ _)
   ·clear h1'
    go_enter Tryz.func158, Tryz.ntmps158
    go_wp2
    go_ret
    exact F2.out _ (bA0 _ _)
  ·clear h1'
   go_enter Tryz.func158, Tryz.ntmps158
   go_wp2
   go_ret
   exact F2.out _ (bA0 _ _)
set_option maxHeartbeats 400000 in
theorem fd_nil (sl : Option Addr) (cap : Nat) (sl2 : Option Addr) (m cap2 : Nat) (x : Int) (w : World) :
  Calls Tryz.prog 86 #[TV sl 0 cap sl2 m cap2, .int .i64 x] w fun e w' => e = .returned (.int .i64 (-1)) ∧ Below w.heap.size w w' := by
 go_enter Tryz.func86, Tryz.ntmps86
 go_wp2
 refine wp_loop_rounds 1 ?_
 rw [rounds_succ]
 go_wp2
 go_ret
 exact ⟨rfl, bA0 _ _⟩
def TabAtE (w : World) (b : Nat) (sl : Option Addr) (n cap : Nat) (sl2 : Option Addr) (m cap2 : Nat) : Prop := w.heap[b]? = some (.cells #[.slice sl n cap, .slice sl2 m cap2] 26)
theorem TabAtE.new (w : World) (sl : Option Addr) (n cap : Nat) (sl2 : Option Addr) (m cap2 : Nat) : TabAtE (w.alloc (.cells #[.slice sl n cap, .slice sl2 m cap2] 26)) w.heap.size sl n cap sl2 m cap2 := by
 show (w.heap.push _)[w.heap.size]? = _
 simp
theorem TabAtE.lt {w : World} {b : Nat} {sl : Option Addr} {n cap : Nat} {sl2 : Option Addr} {m cap2 : Nat} (h : TabAtE w b sl n cap sl2 m cap2) : b < w.heap.size := (Array.getElem?_eq_some_iff.1 h).1
theorem TabAtE.below {w w' : World} {b : Nat} {sl : Option Addr} {n cap : Nat} {sl2 : Option Addr} {m cap2 : Nat} (h : TabAtE w b sl n cap sl2 m cap2) (hb : Below w.heap.size w w') : TabAtE w' b sl n cap sl2 m cap2 := (hb.block b h.lt).trans h
theorem TabAtE.cells {w : World} {b : Nat} {sl : Option Addr} {n cap : Nat} {sl2 : Option Addr} {m cap2 : Nat} (h : TabAtE w b sl n cap sl2 m cap2) : w.cell? ⟨b, 0, none⟩ = some (.slice sl n cap) ∧ w.cell? ⟨b, 1, none⟩ = some (.slice sl2 m cap2) := by
 unfold TabAtE at h
 refine ⟨?_, ?_⟩ <;> simp [World.cell?, h]
set_option maxHeartbeats 1000000 in
theorem fd_some (c o cap : Nat) (sl2 : Option Addr) (m cap2 : Nat) (x : Int) (rs : List LSt) (w : World) (hn : rs.length ≤ 1048576) (hz : StAt w c o rs) :
  Calls Tryz.prog 86 #[TV (some ⟨c, o, none⟩) rs.length cap sl2 m cap2, .int .i64 x] w fun e w' => e = .returned (.int .i64 (posOf (idsL rs) x)) ∧ Below w.heap.size w w' := by
 have HZ := Lib.hid (hz.below (bA0 w (.cells #[.slice (some ⟨c, o, none⟩) rs.length cap, .slice sl2 m cap2] 26)))
 have HT := Lib.hid (TabAtE.new w (some ⟨c, o, none⟩) rs.length cap sl2 m cap2)
 clear hz
 generalize hN : rs.length = n at *
 have HN := Lib.hid hN
 clear hN
 have B0 := Lib.hid (bA0 w (.cells #[.slice (some ⟨c, o, none⟩) n cap, .slice sl2 m cap2] 26))
 go_enter Tryz.func86, Tryz.ntmps86
 go_wp2
 generalize (w.alloc (.cells #[.slice (some ⟨c, o, none⟩) n cap, .slice sl2 m cap2] 26)) = w0 at *
 go_loopw [5] (fun i wr => ∃ k : Nat, i = .int .i64 k ∧ k ≤ n ∧ Hid (NotIn (idsL rs) x k) ∧ Hid (Below w0.heap.size w0 wr)) (fun i _ => n - (intOf i).toNat)
 case atStart => exact ⟨0, rfl, Nat.zero_le _, fun i h => by omega, Below.refl _ _⟩
 case round =>
  obtain ⟨k, rfl, hk, H1, H2⟩ := hrel
  have hk0 : (0 : Int) ≤ (k : Int) := by omega
  obtain ⟨t0, t1⟩ := (HT.out.below H2.out).cells
  by_cases h1 : k < n
  ·have h1' : (k : Int) < (n : Int) := by omega
   have hlt : k < rs.length := by rw [HN.out]; exact h1
   have eg := idsL_get rs k hlt
   obtain ⟨hc, -, -⟩ := (HZ.out.below H2.out).cell k hlt
   rw [← eg] at hc
   by_cases a4 : (idsL rs).getD k 0 = x
   ·have HF := Lib.hid (posOf_hit (idsL rs) x k (by rw [idsL_len]; exact hlt) a4 H1.out)
    have a5 : ((idsL rs).getD k 0 == x) = true := by rw [beq_iff_eq]; exact a4
    clear hlt eg
    generalize (idsL rs).getD k 0 = z at *
    have BE := Lib.hid (B0.out.trans (H2.out.mono B0.out.size))
    go_wp2
    go_ret
    exact ⟨by rw [HF.out]; rfl, BE.out⟩
   ·have HS : Hid (NotIn (idsL rs) x (k + 1)) := fun i h2 => by
     by_cases e : i = k
     ·subst e; exact a4
     ·exact H1.out i (by omega)
    have a5 : ((idsL rs).getD k 0 == x) = false := by rw [beq_eq_false_iff_ne]; exact a4
    clear hlt eg
    generalize (idsL rs).getD k 0 = z at *
    go_wp2
    go_roundw
    case rel => exact ⟨k + 1, by go_num, by omega, HS, H2⟩
    case measure => simp [intOf]; omega
  ·have h1' : ¬ (k : Int) < (n : Int) := by omega
   have HE := Lib.hid (posOf_miss (notIn_mem (zs := idsL rs) (x := x) (by have := H1.out; rwa [show k = (idsL rs).length by rw [idsL_len, HN.out]; omega] at this)))
   have BE := Lib.hid (B0.out.trans (H2.out.mono B0.out.size))
   go_wp2
   go_ret
   exact ⟨by rw [HE.out]; rfl, BE.out⟩
theorem fd_any (sl : Option Addr) (cap : Nat) (sl2 : Option Addr) (m cap2 : Nat) (x : Int) (rs : List LSt) (w : World) (hn : rs.length ≤ 1048576) (hz : Sts w sl rs) :
  Calls Tryz.prog 86 #[TV sl rs.length cap sl2 m cap2, .int .i64 x] w fun e w' => e = .returned (.int .i64 (posOf (idsL rs) x)) ∧ Below w.heap.size w w' := by
 rcases hz.row with rfl | ⟨c, o, rfl, h⟩
 ·exact fd_nil sl cap sl2 m cap2 x w
 ·exact fd_some c o cap sl2 m cap2 x rs w hn h
def prT (p : LPr) : Value × Value × Value := (.int .i64 p.1, .int .i64 p.2.1, .int .i64 p.2.2)
def stT (r : LSt) : Value × Value × Value := (.int .i64 r.1, .int .i64 r.2.1, r.2.2.1)
theorem own_two (w : World) (a b : Int) : (w.alloc (.cells #[.int .i64 a, .int .i64 b] 2)).ownsRow w.heap.size 2 1 (.slice (some ⟨w.heap.size, 0, none⟩) 2 2) ([a, b] : List Int).length (valsZ [a, b]) :=
 ⟨rfl, .inr ⟨w.heap.size, 2, _, rfl, Nat.le_refl _, new_at _ _, Nat.le_refl _, by unfold maxLen; omega, rfl, rfl⟩⟩
end Go.Proofs.YtnihhbfgbilimaaGreatDoor
namespace Go.Proofs.YtnihhbfgbilimaaGreatDoor
open Go.RowKit Go.Shelf
set_option linter.unusedVariables false
attribute [local go_sem] Oper.semAt_some
end Go.Proofs.YtnihhbfgbilimaaGreatDoor
namespace Go.Proofs.YtnihhbfgbilimaaGreatDoor
open Go.RowKit Go.Shelf
set_option linter.unusedVariables false
attribute [local go_sem] Oper.semAt_some
def PSort (ps : List LPr) : Prop := (ps.map ends).Pairwise Lt2
def TabR (rs : List LSt) (ps : List LPr) : Prop :=
 (1 ≤ rs.length ∧ rs.length ≤ 12 ∧ ps.length ≤ 40) ∧ (∀ r ∈ rs, StOK r.2.1 r.2.2.2) ∧ InRise 1 999 (idsL rs) ∧ (∀ p ∈ ps, PrOK (idsL rs) p) ∧ PSort ps
theorem StTo.iff (rs : List LSt) : StTo rs rs.length ↔ (∀ r ∈ rs, StOK r.2.1 r.2.2.2) ∧ InRise 1 999 (idsL rs) := by
 constructor
 ·intro h
  refine ⟨fun r hr => ?_, fun i hi => ?_⟩
  ·obtain ⟨i, hi, rfl⟩ := List.getElem_of_mem hr
   exact (h i hi hi).1.2
  ·rw [idsL_len] at hi
   refine ⟨?_, (h i hi hi).2⟩
   rw [idsL_get rs i hi]
   exact (h i hi hi).1.1
 ·rintro ⟨h1, h2⟩ i hi hk
  have := h2 i (by rw [idsL_len]; exact hi)
  rw [idsL_get rs i hi] at this
  refine ⟨⟨this.1, h1 _ (List.getElem_mem hi)⟩, fun h0 => ?_⟩
  rw [idsL_get rs i hi]; exact this.2 h0
theorem pairwise_of_next {l : List (Int × Int)} (h : ∀ i (hi : i + 1 < l.length), Lt2 (l[i]'(by omega)) l[i + 1]) : l.Pairwise Lt2 := by
 induction l with
 | nil => exact List.Pairwise.nil
 | cons a r ih =>
  have ih' := ih (fun i hi => by have := h (i + 1) (by simpa using hi); simpa using this)
  refine List.pairwise_cons.2 ⟨fun b hb => ?_, ih'⟩
  cases r with
  | nil => cases hb
  | cons c r =>
   have h0 : Lt2 a c := by have := h 0 (by simp); simpa using this
   rcases List.mem_cons.1 hb with rfl | hb
   ·exact h0
   ·exact h0.trans ((List.pairwise_cons.1 ih').1 b hb)
theorem next_of_pairwise {l : List (Int × Int)} (h : l.Pairwise Lt2) (i j : Nat) (hij : i < j) (hj : j < l.length) : Lt2 (l[i]'(by omega)) l[j] := List.pairwise_iff_getElem.1 h i j (by omega) hj hij
theorem PrTo.iff (ids : List Int) (ps : List LPr) : PrTo ids ps ps.length ↔ (∀ p ∈ ps, PrOK ids p) ∧ PSort ps := by
 constructor
 ·intro h
  refine ⟨fun p hp => ?_, pairwise_of_next fun i hi => ?_⟩
  ·obtain ⟨i, hi, rfl⟩ := List.getElem_of_mem hp
   exact (h i hi hi).1
  ·have hi' : i + 1 < ps.length := by simpa using hi
   have := (h (i + 1) hi' hi').2 (by omega)
   simpa using this
 ·rintro ⟨h1, h2⟩ i hi hk
  refine ⟨h1 _ (List.getElem_mem hi), fun h0 => ?_⟩
  have := next_of_pairwise h2 (i - 1) i (by omega) (by simpa using hi)
  simpa using this
theorem TabR.iff (rs : List LSt) (ps : List LPr) : TabR rs ps ↔ (1 ≤ rs.length ∧ rs.length ≤ 12 ∧ ps.length ≤ 40) ∧ StTo rs rs.length ∧ PrTo (idsL rs) ps ps.length := by
 rw [StTo.iff, PrTo.iff]
 unfold TabR
 constructor
 ·rintro ⟨a, b, c, d, e⟩; exact ⟨a, ⟨b, c⟩, d, e⟩
 ·rintro ⟨a, ⟨b, c⟩, d, e⟩; exact ⟨a, b, c, d, e⟩
end Go.Proofs.YtnihhbfgbilimaaGreatDoor
