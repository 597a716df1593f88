import Derived.Test.YtnihhbfgbilimaaGreatDoorXan
import Derived.Test.YtnihhbfgbilimaaGreatDoorVac
import Derived.Test.YtnihhbfgbilimaaGreatDoorZUa
import Derived.Test.YtnihhbfgbilimaaGreatDoorXak
import Derived.Test.YtnihhbfgbilimaaGreatDoorXaj
import Derived.Test.YtnihhbfgbilimaaGreatDoorXai
import Derived.Test.YtnihhbfgbilimaaGreatDoorVab
import Derived.Test.YtnihhbfgbilimaaGreatDoorZXa
import Derived.Test.YtnihhbfgbilimaaGreatDoorVaa
import Derived.Test.YtnihhbfgbilimaaGreatDoorRows
import Derived.WalkKit
import Derived.WalkSpells
import Derived.WalkLawsBesides
import Derived.Laws.EntriesVeiled
import Derived.Deep.QuietTactic
import Derived.BigQuiet
import Derived.Lib.Hide
import Derived.Laws.AppendOwn
import Derived.RangeFuncNested
import Derived.RangeFuncBound
import Derived.RangeFuncCalls
import Derived.RangeFuncLeaves
import Derived.RangeFuncBox
import Derived.Shelf.Abstract
import Derived.Shelf.RegionOpen
import Derived.OwnWalkIn
import Derived.TacticsInMore
import Derived.LoopNIn
import Derived.LoopIn
import Derived.Maps.AppendAt
namespace Go.Proofs.YtnihhbfgbilimaaGreatDoor
open Go.RowKit
set_option linter.unusedVariables false
theorem UpTo.zero (lo hi : Int) (zs : List Int) : UpTo lo hi zs 0 := fun i h => absurd h (Nat.not_lt_zero _)
theorem UpTo.step {lo hi : Int} {zs : List Int} {k : Nat} (h : UpTo lo hi zs k) (h1 : lo ≤ zs.getD k 0) (h2 : zs.getD k 0 ≤ hi) (h3 : 0 < k → zs.getD (k - 1) 0 < zs.getD k 0) : UpTo lo hi zs (k + 1) := by
 intro i hi
 by_cases e : i = k
 ·subst e; exact ⟨⟨h1, h2⟩, h3⟩
 ·exact h i (by omega)
theorem UpTo.no {lo hi : Int} {zs : List Int} {k : Nat} (hk : k < zs.length) (h : ¬ (lo ≤ zs.getD k 0 ∧ zs.getD k 0 ≤ hi ∧ (0 < k → zs.getD (k - 1) 0 < zs.getD k 0))) : ¬ InRise lo hi zs := fun g => h ⟨(g k hk).1.1, (g k hk).1.2, (g k hk).2⟩
set_option maxHeartbeats 400000 in
theorem rw_nil (lo hi : Int) (sl : Option Addr) (cap : Nat) (w : World) :
  Calls Tryz.prog 127 #[.slice sl 0 cap, .int .i64 lo, .int .i64 hi] w fun e w' => e = .returned (.bool true) ∧ w' = w := by
 go_enter Tryz.func127, Tryz.ntmps127
 go_wp2
 refine wp_loop_rounds 1 ?_
 rw [rounds_succ]
 go_wp2
 go_ret
 exact ⟨rfl, rfl⟩
set_option maxHeartbeats 1000000 in
theorem rw_some (lo hi : Int) (c o cap : Nat) (zs : List Int) (w : World) (hn : zs.length ≤ maxLen) (hz : IntsAt w c o zs) :
  Calls Tryz.prog 127 #[.slice (some ⟨c, o, none⟩) zs.length cap, .int .i64 lo, .int .i64 hi] w fun e w' => e = .returned (.bool (B (InRise lo hi zs))) ∧ Below w.heap.size w w' := by
 unfold maxLen at hn
 have HZ := Lib.hid hz
 clear hz
 generalize hN : zs.length = n at *
 have HN := Lib.hid hN
 clear hN
 go_enter Tryz.func127, Tryz.ntmps127
 go_wp2
 go_loopw [11] (fun i wr => ∃ k : Nat, i = .int .i64 k ∧ k ≤ n ∧ Hid (UpTo lo hi zs k) ∧ Hid (Below w.heap.size w wr)) (fun i _ => n - (intOf i).toNat)
 case atStart => exact ⟨0, rfl, Nat.zero_le _, UpTo.zero _ _ _, Below.refl _ _⟩
 case round =>
  obtain ⟨k, rfl, hk, H1, H2⟩ := hrel
  have hk0 : (0 : Int) ≤ (k : Int) := by omega
  by_cases h1 : k < n
  ·have h1' : (k : Int) < (n : Int) := by omega
   have hlt : k < zs.length := by rw [HN.out]; exact h1
   have hc : wr.cell? ⟨c, o + k, none⟩ = some (.int .i64 (zs.getD k 0)) := (H2.out.cell HZ.out.1).trans (HZ.out.2 k hlt)
   by_cases a1 : zs.getD k 0 < lo
   ·have HF := Lib.hid (B_no (UpTo.no (lo := lo) (hi := hi) hlt (fun g => by have := g.1; omega)))
    clear hlt
    generalize zs.getD k 0 = z at *
    go_wp2
    go_ret
    exact ⟨by rw [HF.out]; rfl, H2.out⟩
   ·by_cases a2 : hi < zs.getD k 0
    ·have HF := Lib.hid (B_no (UpTo.no (lo := lo) (hi := hi) hlt (fun g => by have := g.2.1; omega)))
     clear hlt
     generalize zs.getD k 0 = z at *
     go_wp2
     go_ret
     exact ⟨by rw [HF.out]; rfl, H2.out⟩
    ·by_cases a3 : 0 < k
     ·have a3' : (0 : Int) < (k : Int) := by omega
      have ek : ((k : Int) - 1).toNat = k - 1 := by omega
      have hd : wr.cell? ⟨c, o + (k - 1), none⟩ = some (.int .i64 (zs.getD (k - 1) 0)) := (H2.out.cell HZ.out.1).trans (HZ.out.2 (k - 1) (by omega))
      by_cases a4 : zs.getD k 0 ≤ zs.getD (k - 1) 0
      ·have HF := Lib.hid (B_no (UpTo.no (lo := lo) (hi := hi) hlt (fun g => by have := g.2.2 a3; omega)))
       clear hlt
       generalize zs.getD k 0 = z at *
       generalize zs.getD (k - 1) 0 = y at *
       go_wp2
       go_ret
       exact ⟨by rw [HF.out]; rfl, H2.out⟩
      ·have HS := Lib.hid (H1.out.step (by omega) (by omega) (fun _ => by omega))
       clear hlt
       generalize zs.getD k 0 = z at *
       generalize zs.getD (k - 1) 0 = y at *
       go_wp2
       go_roundw
       case rel => exact ⟨k + 1, by go_num, by omega, HS, H2⟩
       case measure => simp [intOf]; omega
     ·have a3' : k = 0 := by omega
      have HS := Lib.hid (H1.out.step (by omega) (by omega) (fun h => absurd h a3))
      clear hlt
      generalize zs.getD k 0 = z at *
      have a5 : ¬ (0 : Int) < (k : Int) := by omega
      clear a3'
      go_wp2
      go_roundw
      case rel => exact ⟨k + 1, by go_num, by omega, HS, H2⟩
      case measure => simp [intOf]; omega
  ·have h1' : ¬ (k : Int) < (n : Int) := by omega
   have HE : Hid (B (InRise lo hi zs) = true) := B_yes (by have := H1.out; rwa [show k = zs.length by rw [HN.out]; omega] at this)
   go_wp2
   go_ret
   exact ⟨by rw [HE.out]; rfl, H2.out⟩
theorem rw_any (lo hi : Int) (sl : Option Addr) (cap : Nat) (zs : List Int) (w : World) (hn : zs.length ≤ maxLen) (hz : Ints w sl zs) :
  Calls Tryz.prog 127 #[.slice sl zs.length cap, .int .i64 lo, .int .i64 hi] w fun e w' => e = .returned (.bool (B (InRise lo hi zs))) ∧ Below w.heap.size w w' := by
 rcases hz with rfl | ⟨c, o, rfl, h⟩
 ·rw [B_yes (show InRise lo hi [] from UpTo.zero lo hi [])]
  refine (rw_nil lo hi sl cap w).mono ?_
  rintro e w' ⟨rfl, rfl⟩
  exact ⟨rfl, Below.refl _ _⟩
 ·exact rw_some lo hi c o cap zs w hn h
set_option maxHeartbeats 1000000 in
theorem sr_any (i s : Int) (sl : Option Addr) (cap : Nat) (zs : List Int) (w : World) (hn : zs.length ≤ maxLen) (hz : Ints w sl zs) :
  Calls Tryz.prog 159 #[SV i s sl zs.length cap] w fun e w' => e = .returned (.bool (B (StOK s zs))) ∧ Below w.heap.size w w' := by
 by_cases h1 : s < 1
 ·have F := Lib.hid (B_no (p := StOK s zs) (fun h => by have := h.1.1; omega))
  clear hz hn
  generalize zs.length = n at *
  go_enter Tryz.func159, Tryz.ntmps159
  go_wp2
  go_ret
  exact ⟨by rw [F.out]; rfl, bA0 _ _⟩
 ·by_cases h2 : 1000 < s
  ·have F := Lib.hid (B_no (p := StOK s zs) (fun h => by have := h.1.2; omega))
   clear hz hn
   generalize zs.length = n at *
   go_enter Tryz.func159, Tryz.ntmps159
   go_wp2
   go_ret
   exact ⟨by rw [F.out]; rfl, bA0 _ _⟩
  ·by_cases h3 : zs.length < 1
   ·have F := Lib.hid (B_no (p := StOK s zs) (fun h => by have := h.2.1.1; omega))
    have h3' : (zs.length : Int) < 1 := by omega
    clear hz hn
    generalize zs.length = n at *
    go_enter Tryz.func159, Tryz.ntmps159
    go_wp2
    go_ret
    exact ⟨by rw [F.out]; rfl, bA0 _ _⟩
   ·have h3' : ¬ (zs.length : Int) < 1 := by omega
    by_cases h4 : 8 < zs.length
    ·have F := Lib.hid (B_no (p := StOK s zs) (fun h => by have := h.2.1.2; omega))
     have h4' : (8 : Int) < (zs.length : Int) := by omega
     clear hz hn
     generalize zs.length = n at *
     go_enter Tryz.func159, Tryz.ntmps159
     go_wp2
     go_ret
     exact ⟨by rw [F.out]; rfl, bA0 _ _⟩
    ·have h4' : ¬ (8 : Int) < (zs.length : Int) := by omega
     have F := Lib.hid (B_iff (p := InRise 2 51 zs) (q := StOK s zs) ⟨fun h => ⟨by omega, by omega, h⟩, fun h => h.2.2⟩)
     have E : Hid (∀ W, Below w.heap.size w W → Calls Tryz.prog 127 #[.slice sl zs.length cap, .int .i64 2, .int .i64 51] W fun e w' => e = .returned (.bool (B (InRise 2 51 zs))) ∧ Below W.heap.size W w') := fun W hW => rw_any 2 51 sl cap zs W hn (hz.below hW)
     generalize B (InRise 2 51 zs) = r at *
     clear hz hn
     generalize zs.length = n at *
     go_enter Tryz.func159, Tryz.ntmps159
     go_wp2_with fail
     refine (E.out _ (bA0 _ _)).mono ?_
     rintro e w1 ⟨rfl, b1⟩
     have P := Lib.hid (bT (bA0 w _) b1)
     clear b1
     go_wp2
     go_ret
     exact ⟨by rw [← F.out]; rfl, P.out⟩
end Go.Proofs.YtnihhbfgbilimaaGreatDoor
namespace Go.Proofs.YtnihhbfgbilimaaGreatDoor
open Go.RowKit Go.Shelf
set_option linter.unusedVariables false
attribute [local go_sem] Oper.semAt_some
def TabAtD (w : World) (b : Nat) (sl : Option Addr) (n cap : Nat) (sl2 : Option Addr) (m cap2 : Nat) : Prop := w.heap[b]? = some (.cells #[.slice sl n cap, .slice sl2 m cap2] 26)
theorem TabAtD.lt {w : World} {b : Nat} {sl : Option Addr} {n cap : Nat} {sl2 : Option Addr} {m cap2 : Nat} (h : TabAtD w b sl n cap sl2 m cap2) : b < w.heap.size := (Array.getElem?_eq_some_iff.1 h).1
theorem TabAtD.below {w w' : World} {b : Nat} {sl : Option Addr} {n cap : Nat} {sl2 : Option Addr} {m cap2 : Nat} (h : TabAtD w b sl n cap sl2 m cap2) (hb : Below w.heap.size w w') : TabAtD w' b sl n cap sl2 m cap2 := (hb.block b h.lt).trans h
theorem TabAtD.cells {w : World} {b : Nat} {sl : Option Addr} {n cap : Nat} {sl2 : Option Addr} {m cap2 : Nat} (h : TabAtD w b sl n cap sl2 m cap2) : w.cell? ⟨b, 0, none⟩ = some (.slice sl n cap) ∧ w.cell? ⟨b, 1, none⟩ = some (.slice sl2 m cap2) := by
 unfold TabAtD at h
 refine ⟨?_, ?_⟩ <;> simp [World.cell?, h]
theorem TabAtD.new (w : World) (sl : Option Addr) (n cap : Nat) (sl2 : Option Addr) (m cap2 : Nat) : TabAtD (w.alloc (.cells #[.slice sl n cap, .slice sl2 m cap2] 26)) w.heap.size sl n cap sl2 m cap2 := by
 show (w.heap.push _)[w.heap.size]? = _
 simp
end Go.Proofs.YtnihhbfgbilimaaGreatDoor
namespace Go.Proofs.YtnihhbfgbilimaaGreatDoor
open Go.RowKit Go.Shelf
set_option linter.unusedVariables false
attribute [local go_sem] Oper.semAt_some
end Go.Proofs.YtnihhbfgbilimaaGreatDoor
