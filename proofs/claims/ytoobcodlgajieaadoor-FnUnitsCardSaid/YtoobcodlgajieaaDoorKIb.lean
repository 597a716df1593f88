/-
  IS A TRAIL RIGHT? impl.TrailRight.
-/
import Derived.Test.YtoobcodlgajieaaDoorKIa
namespace Go.Proofs.YtoobcodlgajieaaDoor
open Go.RowKit
set_option linter.unusedVariables false

set_option maxRecDepth 100000 in
set_option maxHeartbeats 4000000 in
theorem itr_any (vars : Int) (sl : Option Addr) (cap : Nat) (cs : List LCl) (sl2 : Option Addr) (cap2 : Nat) (ts : List Int) (w : World) (hn : cs.length ≤ maxLen) (hm : ts.length ≤ maxLen) (hz : Cls w sl cs) (ht : Ints w sl2 ts) :
    Calls Tryd.prog 14 #[CV vars sl cs.length cap, .slice sl2 ts.length cap2] w fun e w' => e = .returned (.bool (B (TrR vars (bareC cs) ts))) ∧ Below w.heap.size w w' := by
  have CA := Lib.hid (CnfAt.new w vars sl cs.length cap)
  have B0 := Lib.hid (bA0 w (.cells #[.int .i64 vars, .slice sl cs.length cap] 25))
  have hw0 : (w.alloc (.cells #[.int .i64 vars, .slice sl cs.length cap] 25)).heap.size = w.heap.size + 1 := by simp
  have PS := put_same (w.alloc (.cells #[.int .i64 vars, .slice sl cs.length cap] 25)) rfl _ rfl
  rw [hw0] at PS
  have VA : Hid (VAt 0 68 [] ((w.alloc (.cells #[.int .i64 vars, .slice sl cs.length cap] 25)).alloc (.cells Tryd.zeroCells68 68)) (w.heap.size + 1) []) := by
    have := vnew (w.alloc (.cells #[.int .i64 vars, .slice sl cs.length cap] 25))
    rw [hw0] at this
    exact this
  have B1 := Lib.hid (bA B0.out (.cells Tryd.zeroCells68 68))
  have CB := Lib.hid (CA.out.below (bA0 _ (.cells Tryd.zeroCells68 68)))
  clear CA B0
  have hln := hn
  have hlm := hm
  unfold maxLen at hln hlm
  by_cases c1 : 400 < ts.length
  · rw [B_no (p := TrR vars (bareC cs) ts) (fun g => by have := g.1; omega)]
    have c1' : ¬ (ts.length : Int) ≤ 400 := by omega
    clear hz ht hn CB VA hm
    generalize cs.length = n at *
    generalize ts.length = m at *
    go_enter Tryd.func14, Tryd.ntmps14
    go_wp2
    go_ret
    exact ⟨rfl, B1.out⟩
  have c1' : (ts.length : Int) ≤ 400 := by omega
  have E1 := Lib.hid (icr_any vars sl cap cs _ hn (hz.below B1.out))
  by_cases c2 : CnfR vars (bareC cs)
  · have E2 : Hid (∀ W, Below w.heap.size w W → VAt 0 68 [] W (w.heap.size + 1) [] → Calls Tryd.prog 53 #[.pointer (some ⟨w.heap.size + 1, 0, none⟩), .slice sl2 ts.length cap2, .int .i64 vars] W fun e w' => e = .returned (.bool (B (SpTo vars ts ts.length))) ∧ Below w.heap.size W w') := fun W hW hv => by
      refine (take_any (w.heap.size + 1) vars sl2 cap2 ts W hv.blkA c2.1.1 c2.1.2 hm ?_).mono ?_
      · rcases ht with e | ⟨c, o, e, hi⟩
        · exact .inl e
        · exact .inr ⟨c, o, e, hi.below hW, by have := hi.1; omega⟩
      · rintro e w' ⟨rfl, _, hb, _⟩
        exact ⟨rfl, ⟨hb.os, hb.tape, hb.output, hb.size, fun k hk => hb.block k (by have := hW.size; omega) (by omega)⟩⟩
    rw [B_iff (show TrR vars (bareC cs) ts ↔ SpTo vars ts ts.length from ⟨fun g => g.2.2, fun g => ⟨by omega, c2, g⟩⟩)]
    rw [B_yes c2] at E1
    clear hz ht hn c2 hm
    generalize B (SpTo vars ts ts.length) = r at *
    generalize cs.length = n at *
    generalize ts.length = m at *
    go_enter Tryd.func14, Tryd.ntmps14
    go_wp2_with fail
    refine E1.out.mono ?_
    rintro e w1 ⟨rfl, b1⟩
    obtain ⟨t0, t1⟩ := (CB.out.below b1).cells
    have tl := (CB.out.below b1).lt
    have D1 := Lib.hid (bT B1.out b1)
    have V1 := Lib.hid (VA.out.below b1)
    clear b1 E1 CB VA
    go_wp2_with fail
    refine (E2.out _ D1.out V1.out).mono ?_
    rintro e w2 ⟨rfl, b2⟩
    have D2 := Lib.hid (D1.out.trans b2)
    clear b2 E2 D1
    go_wp2
    go_ret
    exact ⟨rfl, D2.out⟩
  · rw [B_no (p := TrR vars (bareC cs) ts) (fun g => c2 g.2.1)]
    rw [B_no c2] at E1
    clear hz ht hn c2 CB VA hm
    generalize cs.length = n at *
    generalize ts.length = m at *
    go_enter Tryd.func14, Tryd.ntmps14
    go_wp2_with fail
    refine E1.out.mono ?_
    rintro e w1 ⟨rfl, b1⟩
    have D1 := Lib.hid (bT B1.out b1)
    clear b1 E1
    go_wp2
    go_ret
    exact ⟨rfl, D1.out⟩

end Go.Proofs.YtoobcodlgajieaaDoor
