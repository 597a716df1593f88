/-
  WHAT IS READ, HELD AGAINST EACH OTHER, MARKED, HELD BY ITS MARKS: eqCnfOut, markCnfOut, heldCnfOut.
-/
import Derived.Test.YtoncpiaboceefaaDoorFt
namespace Go.Proofs.YtoncpiaboceefaaDoor
open Go.RowKit
set_option linter.unusedVariables false

abbrev COv (sl : Option Addr) (n cap : Nat) (ln cd : Int) : Value := .agg #[.int .i64 0, .slice sl n cap, .int .i64 ln, .int .i64 cd]
abbrev O29 (sl : Option Addr) (n cap : Nat) (ln cd : Int) : Obj := .cells #[.int .i64 0, .slice sl n cap, .int .i64 ln, .int .i64 cd] 29
theorem K30.alloc (w : World) (o : Obj) : K30 w (w.alloc o) := (K30.refl w).below (bA0 w o)
theorem K30.trans' {a b c : World} (h : K30 a b) (g : K30 b c) : K30 a c := fun k us hk => g k us (h k us hk)

set_option maxRecDepth 100000 in
set_option maxHeartbeats 2000000 in
theorem eqO_any (sl sl' : Option Addr) (cap cap' : Nat) (cs cs' : List LCl) (ln cd : Int) (w : World) (hn : cs.length ≤ 1048576) (hb : bareC cs = bareC cs') (h : Cls w sl cs) (h' : Cls w sl' cs') :
    Calls Tryd.prog 34 #[COv sl cs.length cap ln cd, COv sl' cs'.length cap' ln cd] w fun e w' => e = .returned (.bool true) ∧ Below w.heap.size w w' := by
  have hz1 : (w.alloc (O29 sl cs.length cap ln cd)).heap.size = w.heap.size + 1 := by simp
  have B0 : Hid (Below w.heap.size w ((w.alloc (O29 sl cs.length cap ln cd)).alloc (O29 sl' cs'.length cap' ln cd))) := bA (bA0 _ _) _
  have E := Lib.hid (eqC_any 0 sl sl' cap cap' cs cs' _ hn hb (h.below B0.out) (h'.below B0.out))
  have Z0 : Hid (((w.alloc (O29 sl cs.length cap ln cd)).alloc (O29 sl' cs'.length cap' ln cd)).heap[w.heap.size]? = some (O29 sl cs.length cap ln cd)) :=
    ((bA0 (w.alloc (O29 sl cs.length cap ln cd)) (O29 sl' cs'.length cap' ln cd)).block w.heap.size (by simp)).trans (new_at w _)
  have Z1 : Hid (((w.alloc (O29 sl cs.length cap ln cd)).alloc (O29 sl' cs'.length cap' ln cd)).heap[w.heap.size + 1]? = some (O29 sl' cs'.length cap' ln cd)) := by
    have := new_at (w.alloc (O29 sl cs.length cap ln cd)) (O29 sl' cs'.length cap' ln cd)
    rwa [hz1] at this
  clear h h' hb
  generalize cs.length = n at *
  generalize cs'.length = n' at *
  go_enter Tryd.func34, Tryd.ntmps34
  go_wp2_with fail
  refine E.out.mono ?_
  rintro e w3 ⟨rfl, b3⟩
  have Y0 := (b3.block w.heap.size (by simp; omega)).trans Z0.out
  have Y1 := (b3.block (w.heap.size + 1) (by simp)).trans Z1.out
  have B3 := Lib.hid (bT B0.out b3)
  obtain ⟨c0, c1, c2, c3, -, -⟩ := cells4 Y0
  obtain ⟨d0, d1, d2, d3, -, -⟩ := cells4 Y1
  clear E Z0 Z1 B0 b3 Y0 Y1
  go_wp2
  go_ret
  exact ⟨rfl, B3.out⟩

set_option maxRecDepth 100000 in
set_option maxHeartbeats 2000000 in
theorem mkCnf_any (B : Nat) (sl : Option Addr) (n cap : Nat) (cs : List LCl) (w : World) (hn : cs.length ≤ 100000000) (hr : ∀ r ∈ cs, r.2.length ≤ 1048576) (ht : totC cs ≤ 500000000) (hB : B ≤ w.heap.size) (h : OwC w B (.slice sl n cap) cs) :
    Calls Tryd.prog 82 #[CV 0 sl n cap, .int .i64 1] w fun e w' => e = .returned (.int .i64 (1 + (totC cs : Int))) ∧ OwC w' B (.slice sl n cap) (mkC 1 cs) ∧ Below B w w' ∧ K30 w w' := by
  have M := Lib.hid (mkL_any B (.slice sl n cap) cs 1 (w.alloc (.cells #[.int .i64 0, .slice sl n cap] 27)) (.slice none 0 0) 0 [] (World.ownsRow_nil _ B 2 1) (fun r hr j hj e => by cases e) hn hr ht (by omega) (by omega) (Nat.le_trans hB (bA0 w _).size) (h.below (bA0 w (.cells #[.int .i64 0, .slice sl n cap] 27))))
  clear h hr
  go_enter Tryd.func82, Tryd.ntmps82
  go_wp2_with fail
  refine M.out.mono ?_
  rintro e w3 ⟨rfl, o3, b3, k3, -⟩
  have O3 := Lib.hid o3
  have B3 := Lib.hid (((bA0 w (.cells #[.int .i64 0, .slice sl n cap] 27)).mono hB).trans b3)
  have K3 := Lib.hid ((K30.alloc w (.cells #[.int .i64 0, .slice sl n cap] 27)).trans' k3)
  clear M o3 b3 k3
  go_wp2
  go_ret
  exact ⟨rfl, O3.out, B3.out, K3.out⟩

set_option maxRecDepth 100000 in
set_option maxHeartbeats 2000000 in
theorem mkO_any (B : Nat) (sl : Option Addr) (n cap : Nat) (ln cd : Int) (cs : List LCl) (w : World) (hn : cs.length ≤ 100000000) (hr : ∀ r ∈ cs, r.2.length ≤ 1048576) (ht : totC cs ≤ 500000000) (hB : B ≤ w.heap.size) (h : OwC w B (.slice sl n cap) cs) :
    Calls Tryd.prog 35 #[COv sl n cap ln cd, .int .i64 1] w fun e w' => e = .returned (.int .i64 (1 + (totC cs : Int))) ∧ OwC w' B (.slice sl n cap) (mkC 1 cs) ∧ Below B w w' ∧ K30 w w' := by
  have M := Lib.hid (mkCnf_any B sl n cap cs (w.alloc (O29 sl n cap ln cd)) hn hr ht (Nat.le_trans hB (bA0 w _).size) (h.below (bA0 w (O29 sl n cap ln cd))))
  clear h hr
  go_enter Tryd.func35, Tryd.ntmps35
  go_wp2_with fail
  refine M.out.mono ?_
  rintro e w3 ⟨rfl, o3, b3, k3⟩
  have O3 := Lib.hid o3
  have B3 := Lib.hid (((bA0 w (O29 sl n cap ln cd)).mono hB).trans b3)
  have K3 := Lib.hid ((K30.alloc w (O29 sl n cap ln cd)).trans' k3)
  clear M o3 b3 k3
  go_wp2
  go_ret
  exact ⟨rfl, O3.out, B3.out, K3.out⟩

set_option maxRecDepth 100000 in
set_option maxHeartbeats 2000000 in
theorem hdCnf_any (B : Nat) (sl : Option Addr) (n cap : Nat) (cs : List LCl) (w : World) (hn : cs.length ≤ 100000000) (hr : ∀ r ∈ cs, r.2.length ≤ 1048576) (ht : totC cs ≤ 500000000) (h : OwC w B (.slice sl n cap) (mkC 1 cs)) :
    Calls Tryd.prog 83 #[CV 0 sl n cap, .int .i64 1] w fun e w' => e = .returned (.int .i64 (1 + (totC cs : Int))) ∧ Below w.heap.size w w' := by
  have M := Lib.hid (hdL_any B (.slice sl n cap) cs 1 (w.alloc (.cells #[.int .i64 0, .slice sl n cap] 27)) hn hr ht (by omega) (by omega) (h.below (bA0 w (.cells #[.int .i64 0, .slice sl n cap] 27))))
  have h0 : ¬ (1 + (totC cs : Int)) < 0 := by omega
  clear h hr
  go_enter Tryd.func83, Tryd.ntmps83
  go_wp2_with fail
  refine M.out.mono ?_
  rintro e w3 ⟨rfl, rfl⟩
  have B3 := Lib.hid (bA0 w (.cells #[.int .i64 0, .slice sl n cap] 27))
  clear M
  go_wp2
  go_ret
  exact ⟨rfl, B3.out⟩

set_option maxRecDepth 100000 in
set_option maxHeartbeats 2000000 in
theorem hdO_any (B : Nat) (sl : Option Addr) (n cap : Nat) (ln cd : Int) (cs : List LCl) (w : World) (hn : cs.length ≤ 100000000) (hr : ∀ r ∈ cs, r.2.length ≤ 1048576) (ht : totC cs ≤ 500000000) (h : OwC w B (.slice sl n cap) (mkC 1 cs)) :
    Calls Tryd.prog 36 #[COv sl n cap ln cd, .int .i64 1] w fun e w' => e = .returned (.int .i64 (1 + (totC cs : Int))) ∧ Below w.heap.size w w' := by
  have M := Lib.hid (hdCnf_any B sl n cap cs (w.alloc (O29 sl n cap ln cd)) hn hr ht (h.below (bA0 w (O29 sl n cap ln cd))))
  have h0 : ¬ (1 + (totC cs : Int)) < 0 := by omega
  clear h hr
  go_enter Tryd.func36, Tryd.ntmps36
  go_wp2_with fail
  refine M.out.mono ?_
  rintro e w3 ⟨rfl, b3⟩
  have B3 := Lib.hid (bT (bA0 w (O29 sl n cap ln cd)) b3)
  clear M b3
  go_wp2
  go_ret
  exact ⟨rfl, B3.out⟩

end Go.Proofs.YtoncpiaboceefaaDoor
