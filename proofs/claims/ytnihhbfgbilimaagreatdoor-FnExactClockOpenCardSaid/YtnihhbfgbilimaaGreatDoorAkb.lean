import Derived.Test.YtnihhbfgbilimaaGreatDoorZJa
namespace Go.Proofs.YtnihhbfgbilimaaGreatDoor
open Go.RowKit
set_option linter.unusedVariables false
set_option linter.unusedSimpArgs false
theorem ta_run (x : Value) (w : World) : (Instr.typeAssert (.iface 183 x) 20 179 true).run Tryz.prog w = .ok (.tuple #[.iface 183 x, .bool true]) w := by kernel_rfl
theorem me_run (x : Value) (w : World) : (method 421 183 x "loop.example/g00144/impl.answer").run Tryz.prog w = .ok (276, x) w := by kernel_rfl
set_option maxRecDepth 100000 in
set_option maxHeartbeats 1000000 in
theorem fa_any (g h : Nat) (v st cd : Int) (Q : Option Addr → Nat → Nat → Option Addr → Nat → Nat → Option Addr → Nat → Nat → Nat → World → Prop) (w : World)
  (hg : g < w.heap.size) (hc : w.cell? ⟨g, 0, none⟩ = some (WayV h))
  (C : ∀ W, Below w.heap.size w W → Calls Tryz.prog 138 #[.pointer (some ⟨h, 0, none⟩), .pointer (some ⟨h + 1, 0, none⟩), .pointer (some ⟨h + 2, 0, none⟩), .pointer (some ⟨h + 3, 0, none⟩)] W fun e w' => ∃ s1 n1 c1 s2 n2 c2 s3 n3 c3, e = .returned (.iface 183 (SVK v (.slice s1 n1 c1) (.slice s2 n2 c2) st cd (.slice s3 n3 c3))) ∧ Q s1 n1 c1 s2 n2 c2 s3 n3 c3 W.heap.size w' ∧ Below W.heap.size W w') :
  Calls Tryz.prog 77 #[.slice (some ⟨g, 0, none⟩) 1 1] w fun e w' => ∃ s1 n1 c1 s2 n2 c2 s3 n3 c3, e = .returned (.agg #[.int .i64 v, .int .i64 2, .slice s3 n3 c3, .slice s2 n2 c2, .int .i64 st, .int .i64 0]) ∧ (∃ w1, Q s1 n1 c1 s2 n2 c2 s3 n3 c3 (w.heap.size + 2) w1 ∧ w.heap.size + 2 ≤ w1.heap.size ∧ BoxK w1 w.heap.size ∧ Only w.heap.size w1 w') ∧ Below w.heap.size w w' := by
 have C' := Lib.hid C
 clear C
 go_enter Tryz.func77, Tryz.ntmps77
 go_wp2_with fail
 go_loopw [9] (fun i wr => i = .int .i64 0 ∧ wr = w.alloc (.cells #[.int .i64 0, .int .i64 0, .slice none 0 0, .slice none 0 0, .int .i64 0, .int .i64 0] 49)) (fun i _ => 0)
 case atStart => exact ⟨rfl, rfl⟩
 case round =>
  obtain ⟨rfl, rfl⟩ := hrel
  go_wp2_with fail
  refine (C'.out _ (bA (bA0 _ _) _)).mono ?_
  rintro e w1 ⟨s1, n1, c1, s2, n2, c2, s3, n3, c3, rfl, hq, hb⟩
  have hsz : ((w.alloc (.cells #[.int .i64 0, .int .i64 0, .slice none 0 0, .slice none 0 0, .int .i64 0, .int .i64 0] 49)).alloc (.cells #[WayV h] 118)).heap.size = w.heap.size + 2 := by simp
  have HS1 : Hid (w.heap.size + 2 ≤ w1.heap.size) := by have h9 := hb.size; rw [show _ = w.heap.size + 2 from hsz] at h9; exact h9
  have HQ : Hid (Q s1 n1 c1 s2 n2 c2 s3 n3 c3 (w.heap.size + 2) w1) := by rw [← hsz]; exact hq
  have X1 : Hid (BoxK w1 w.heap.size) := ((BoxK.new w).below (bA0 _ _)).below hb
  have HB : Hid (Below w.heap.size w w1) := bT (bA (bA0 _ _) _) hb
  clear hq hb C' hsz
  have hta := ta_run
  have hme := me_run
  go_wp2_with fail
  refine (ans_any v st cd s1 s2 s3 n1 c1 n2 c2 n3 c3 _).mono ?_
  rintro e w2 ⟨rfl, hb2⟩
  obtain ⟨x0, r0, r1, r2, r3, r4, r5, f0, f1, f2, f3, f4, f5⟩ := (X1.out.below hb2).facts
  have P1 := Lib.hid (set6_below (bT HB.out hb2) (Nat.le_refl _) (.int .i64 v) (.int .i64 2) (.slice s3 n3 c3) (.slice s2 n2 c2) (.int .i64 st) (.int .i64 0))
  have P2 := Lib.hid ((Only.of_below (b := w.heap.size) hb2).trans (set6_only w2 w.heap.size (.int .i64 v) (.int .i64 2) (.slice s3 n3 c3) (.slice s2 n2 c2) (.int .i64 st) (.int .i64 0)))
  unfold set6 at P1 P2
  clear hb2 hta hme HB
  go_wp2
  exact bodyPost_ret (v := .agg #[.int .i64 v, .int .i64 2, .slice s3 n3 c3, .slice s2 n2 c2, .int .i64 st, .int .i64 0]) (by simp [results, Tryz.results77, go_sem, r0, r1, r2, r3, r4, r5]) rfl ⟨s1, n1, c1, s2, n2, c2, s3, n3, c3, rfl, ⟨w1, HQ.out, HS1.out, X1.out, P2.out⟩, P1.out⟩
end Go.Proofs.YtnihhbfgbilimaaGreatDoor
