/-
  WHAT FOLLOWS AT ONCE: spec.UnitRun.
-/
import Derived.Test.YtendehejodgljaaKk
namespace Go.Proofs.Ytendehejodgljaa
open Go.RowKit
set_option linter.unusedVariables false

set_option maxRecDepth 100000 in
set_option maxHeartbeats 4000000 in
/-- spec.UnitRun. -/
theorem sur_any (vars : Int) (sl : Option Addr) (cap : Nat) (cs : List LCl) (sl2 : Option Addr) (cap2 : Nat) (ds : List LCl) (sl3 : Option Addr) (cap3 : Nat) (ts : List Int) (w : World) (hn : cs.length ≤ maxLen) (hnd : ds.length ≤ maxLen) (hm : ts.length ≤ 1048576) (hs : totC cs ≤ 1048576) (hs2 : totC ds ≤ 1048576) (hwf : WfC cs) (hz : Cls w sl cs) (hd : Cls w sl2 ds) (ht : Ints w sl3 ts) :
    Calls Try.prog 8 #[CV vars sl cs.length cap, .slice sl2 ds.length cap2, .slice sl3 ts.length cap3] w (UPost w (uAll vars (bareC cs) (bareC ds) ts)) := by
  have hln := hn
  have hld := hnd
  unfold maxLen at hln hld
  by_cases big : UBig (bareC ds) ts
  · rw [uAll_big big]
    have hb : 400 < ds.length ∨ ((¬ 400 < ds.length) ∧ 400 < ts.length) := by
      unfold UBig at big
      rw [bareC_length] at big
      by_cases h : 400 < ds.length
      · exact .inl h
      · exact .inr ⟨h, by rcases big with g | g; exact absurd g h; exact g⟩
    unfold UPost
    clear hz hd ht big hn hnd hs hs2 hwf
    generalize cs.length = n at *
    generalize ds.length = m at *
    generalize ts.length = q at *
    rcases hb with h | ⟨h, h2⟩
    · have h' : (400 : Int) < (m : Int) := by omega
      go_enter Try.func8, Try.ntmps8
      go_wp2
      refine bodyPost_ret (v := UV (.slice none 0 0) 0 2) (by simp [results, Try.results8, go_sem]) rfl ⟨_, rfl, ⟨rfl, .inl ⟨rfl, rfl⟩⟩, bA (bA0 _ _) _⟩
    · have h' : ¬ (400 : Int) < (m : Int) := by omega
      have h2' : (400 : Int) < (q : Int) := by omega
      go_enter Try.func8, Try.ntmps8
      go_wp2
      refine bodyPost_ret (v := UV (.slice none 0 0) 0 2) (by simp [results, Try.results8, go_sem]) rfl ⟨_, rfl, ⟨rfl, .inl ⟨rfl, rfl⟩⟩, bA (bA0 _ _) _⟩
  have hd4 : ds.length ≤ 400 := by unfold UBig at big; rw [bareC_length] at big; omega
  have ht4 : ts.length ≤ 400 := by unfold UBig at big; omega
  have hd4' : ¬ (400 : Int) < (ds.length : Int) := by omega
  have ht4' : ¬ (400 : Int) < (ts.length : Int) := by omega
  have CA := Lib.hid ((CnfAt.new w vars sl cs.length cap).below (bA0 _ (.cells #[.slice none 0 0, .int .i64 0, .int .i64 0] 30)))
  have B0 := Lib.hid (bA (bA0 w (.cells #[.int .i64 vars, .slice sl cs.length cap] 25)) (.cells #[.slice none 0 0, .int .i64 0, .int .i64 0] 30))
  have hw1 : (w.alloc (.cells #[.int .i64 vars, .slice sl cs.length cap] 25)).heap.size = w.heap.size + 1 := by simp
  have X0 : Hid (BoxU ((w.alloc (.cells #[.int .i64 vars, .slice sl cs.length cap] 25)).alloc (.cells #[.slice none 0 0, .int .i64 0, .int .i64 0] 30)) (w.heap.size + 1)) := by
    have h1 := new_at (w.alloc (.cells #[.int .i64 vars, .slice sl cs.length cap] 25)) (.cells #[.slice none 0 0, .int .i64 0, .int .i64 0] 30)
    rw [hw1] at h1
    exact h1
  have E1 := Lib.hid (str_any vars sl cap cs sl3 cap3 ts _ hn hs hwf hm (hz.below B0.out) (ht.below B0.out))
  have FIN : Hid (∀ W, BoxU W (w.heap.size + 1) → Below w.heap.size w W → Below w.heap.size w (set3 W (w.heap.size + 1) (.slice none 0 0) (.int .i64 0) (.int .i64 1))) := fun W _ h => set3_below h (by omega) _ _ _
  by_cases c2 : TrR vars (bareC cs) ts
  · have hc := c2.2.1
    have E2 : Hid (∀ W, Below w.heap.size w W → Calls Try.prog 35 #[CV vars sl cs.length cap, .slice sl2 ds.length cap2] W fun e w' => e = .returned (.bool (B (MoR vars (bareC ds)))) ∧ Below W.heap.size W w') := fun W hW => sm_any vars sl cs.length cap sl2 cap2 ds W hc.1.1 hc.1.2 hd4 hs2 (hd.below hW)
    rw [B_yes c2] at E1
    by_cases c3 : MoR vars (bareC ds)
    · rw [uAll_yes big ⟨hc, c3, c2.2.2⟩]
      rw [B_yes c3] at E2
      have E3 : Hid (∀ W, Below w.heap.size w W → Calls Try.prog 36 #[CV vars sl cs.length cap, .slice sl2 ds.length cap2, .slice sl3 ts.length cap3] W (UPost W ((uRun (bareC cs) (bareC ds) ts).1, (uRun (bareC cs) (bareC ds) ts).2, 0))) := fun W hW => by
        have hv : ((vars.toNat : Nat) : Int) = vars := by have := hc.1.1; omega
        have := srn_any vars.toNat sl cap cs sl2 cap2 ds sl3 cap3 ts W (by have := hc.1.2; omega) (by have := hc.2.1; rw [bareC_length] at this; omega) (by omega) (by rw [hv]; exact c2.2.2) (by
          rw [hv]
          intro r hr z hz'
          rcases List.mem_append.1 hr with hr | hr
          · exact cnfR_lits hc (fun l hl => by obtain ⟨r', hr', rfl⟩ := List.mem_map.1 hl; exact hwf r' hr') r.2 (List.mem_map.2 ⟨r, hr, rfl⟩) z hz'
          · exact moR_lits c3 r.2 (List.mem_map.2 ⟨r, hr, rfl⟩) z hz') (hz.below hW) (hd.below hW) (ht.below hW)
        rw [hv] at this
        exact this
      clear hz hd ht hn hnd hm c2 c3 big FIN hwf hs hs2 hc
      generalize uRun (bareC cs) (bareC ds) ts = R at *
      generalize cs.length = n at *
      generalize ds.length = m at *
      generalize ts.length = q at *
      unfold UPost at E3 ⊢
      go_enter Try.func8, Try.ntmps8
      go_wp2_with fail
      refine E1.out.mono ?_
      rintro e w1 ⟨rfl, b1⟩
      have D1 := Lib.hid (bT B0.out b1)
      have X1 := Lib.hid (X0.out.below b1)
      have C1 := Lib.hid (CA.out.below b1)
      obtain ⟨t0, t1⟩ := C1.out.cells
      have tl := C1.out.lt
      clear b1 E1 X0 CA B0
      go_wp2_with fail
      refine (E2.out _ D1.out).mono ?_
      rintro e w2 ⟨rfl, b2⟩
      have D2 := Lib.hid (bT D1.out b2)
      have X2 := Lib.hid (X1.out.below b2)
      have C2 := Lib.hid (C1.out.below b2)
      clear b2 X1 C1 D1 t0 t1 tl E2
      obtain ⟨t0, t1⟩ := C2.out.cells
      have tl := C2.out.lt
      go_wp2_with fail
      refine (E3.out _ D2.out).mono ?_
      rintro e w3 ⟨v3, rfl, o3, b3⟩
      have D3 := Lib.hid (bT D2.out b3)
      obtain ⟨rl, r0, r1, r2, f0, f1, f2⟩ := (X2.out.below b3).facts
      have hx2 := X2.out.facts.1
      have hs2 := D2.out.size
      obtain ⟨s3, k3, rfl⟩ := own_v o3
      generalize hRL : R.1.length = rl9 at *
      have HRL := Lib.hid hRL
      clear hRL
      have PB := Lib.hid (set3_below D3.out (show w.heap.size ≤ w.heap.size + 1 by omega) (.slice s3 rl9 k3) (.int .i64 R.2) (.int .i64 0))
      have PO := Lib.hid (own_mono (own_set3 o3 (b := w.heap.size + 1) (fun e => by have := (o3.lt _ e).1; omega) (.slice s3 rl9 k3) (.int .i64 R.2) (.int .i64 0)) (show w.heap.size ≤ w2.heap.size by omega))
      unfold set3 at PB PO
      clear b3 o3 D3 X2 C2 D2 E3 t0 t1 tl
      go_wp2
      refine bodyPost_ret (v := UV (.slice s3 rl9 k3) R.2 0) (by simp [results, Try.results8, go_sem, r0, r1, r2]) rfl ⟨_, rfl, by show World.ownsRow _ _ _ _ _ R.1.length _; rw [HRL.out]; exact PO.out, PB.out⟩
    · rw [uAll_no big (fun g => c3 g.2.1)]
      rw [B_no c3] at E2
      unfold UPost
      clear hz hd ht hn hnd hm c2 c3 big hwf hs hs2 hc
      generalize cs.length = n at *
      generalize ds.length = m at *
      generalize ts.length = q at *
      go_enter Try.func8, Try.ntmps8
      go_wp2_with fail
      refine E1.out.mono ?_
      rintro e w1 ⟨rfl, b1⟩
      have D1 := Lib.hid (bT B0.out b1)
      have X1 := Lib.hid (X0.out.below b1)
      have C1 := Lib.hid (CA.out.below b1)
      obtain ⟨t0, t1⟩ := C1.out.cells
      have tl := C1.out.lt
      clear b1 E1 X0 CA B0
      go_wp2_with fail
      refine (E2.out _ D1.out).mono ?_
      rintro e w2 ⟨rfl, b2⟩
      obtain ⟨rl, r0, r1, r2, f0, f1, f2⟩ := (X1.out.below b2).facts
      have P := Lib.hid (FIN.out w2 (X1.out.below b2) (bT D1.out b2))
      unfold set3 at P
      clear b2 X1 C1 D1 t0 t1 tl E2
      go_wp2
      refine bodyPost_ret (v := UV (.slice none 0 0) 0 1) (by simp [results, Try.results8, go_sem, r0, r1, r2]) rfl ⟨_, rfl, ⟨rfl, .inl ⟨rfl, rfl⟩⟩, P.out⟩
  · rw [uAll_no big (fun g => c2 ⟨ht4, g.1, g.2.2⟩)]
    rw [B_no c2] at E1
    unfold UPost
    clear hz hd ht hn hnd hm c2 CA big hwf hs hs2
    generalize cs.length = n at *
    generalize ds.length = m at *
    generalize ts.length = q at *
    go_enter Try.func8, Try.ntmps8
    go_wp2_with fail
    refine E1.out.mono ?_
    rintro e w1 ⟨rfl, b1⟩
    obtain ⟨rl, r0, r1, r2, f0, f1, f2⟩ := (X0.out.below b1).facts
    have P := Lib.hid (FIN.out w1 (X0.out.below b1) (bT B0.out b1))
    unfold set3 at P
    clear b1 E1 X0
    go_wp2
    refine bodyPost_ret (v := UV (.slice none 0 0) 0 1) (by simp [results, Try.results8, go_sem, r0, r1, r2]) rfl ⟨_, rfl, ⟨rfl, .inl ⟨rfl, rfl⟩⟩, P.out⟩

end Go.Proofs.Ytendehejodgljaa
