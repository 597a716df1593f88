/-
  WHAT FOLLOWS AT ONCE: spec.UnitRun.
  COPIES WITH MEMORY OF THEIR OWN; marks over them; what an answer of a run is held against, marked and held by.
  THE LAW 8: the walk.
-/
import Derived.Test.YtoobcodlgajieaaDoorVad
import Derived.Test.YtoobcodlgajieaaDoorPt
import Derived.Test.YtoobcodlgajieaaDoorVac
import Derived.Test.YtoobcodlgajieaaDoorVab
import Derived.Test.YtoobcodlgajieaaDoorVaa
import Derived.Test.YtoobcodlgajieaaDoorUad
import Derived.Test.YtoobcodlgajieaaDoorUab
namespace Go.Proofs.YtoobcodlgajieaaDoor
open Go.RowKit
set_option linter.unusedVariables false

set_option maxRecDepth 100000 in
set_option maxHeartbeats 4000000 in
/-- spec.UnitRun. -/
theorem sur_any (vars : Int) (sl : Option Addr) (cap : Nat) (cs : List LCl) (sl2 : Option Addr) (cap2 : Nat) (ds : List LCl) (sl3 : Option Addr) (cap3 : Nat) (ts : List Int) (w : World) (hn : cs.length ≤ maxLen) (hnd : ds.length ≤ maxLen) (hm : ts.length ≤ 1048576) (hs : totC cs ≤ 1048576) (hs2 : totC ds ≤ 1048576) (hwf : WfC cs) (hz : Cls w sl cs) (hd : Cls w sl2 ds) (ht : Ints w sl3 ts) :
    Calls Tryd.prog 10 #[CV vars sl cs.length cap, .slice sl2 ds.length cap2, .slice sl3 ts.length cap3] w (UPost w (uAll vars (bareC cs) (bareC ds) ts)) := by
  have hln := hn
  have hld := hnd
  unfold maxLen at hln hld
  by_cases big : UBig (bareC ds) ts
  · rw [uAll_big big]
    have hb : 400 < ds.length ∨ ((¬ 400 < ds.length) ∧ 400 < ts.length) := by
      unfold UBig at big
      rw [bareC_length] at big
      by_cases h : 400 < ds.length
      · exact .inl h
      · exact .inr ⟨h, by rcases big with g | g; exact absurd g h; exact g⟩
    unfold UPost
    clear hz hd ht big hn hnd hs hs2 hwf
    generalize cs.length = n at *
    generalize ds.length = m at *
    generalize ts.length = q at *
    rcases hb with h | ⟨h, h2⟩
    · have h' : (400 : Int) < (m : Int) := by omega
      go_enter Tryd.func10, Tryd.ntmps10
      go_wp2
      refine bodyPost_ret (v := UV (.slice none 0 0) 0 2) (by simp [results, Tryd.results10, go_sem]) rfl ⟨_, rfl, ⟨rfl, .inl ⟨rfl, rfl⟩⟩, bA (bA0 _ _) _⟩
    · have h' : ¬ (400 : Int) < (m : Int) := by omega
      have h2' : (400 : Int) < (q : Int) := by omega
      go_enter Tryd.func10, Tryd.ntmps10
      go_wp2
      refine bodyPost_ret (v := UV (.slice none 0 0) 0 2) (by simp [results, Tryd.results10, go_sem]) rfl ⟨_, rfl, ⟨rfl, .inl ⟨rfl, rfl⟩⟩, bA (bA0 _ _) _⟩
  have hd4 : ds.length ≤ 400 := by unfold UBig at big; rw [bareC_length] at big; omega
  have ht4 : ts.length ≤ 400 := by unfold UBig at big; omega
  have hd4' : ¬ (400 : Int) < (ds.length : Int) := by omega
  have ht4' : ¬ (400 : Int) < (ts.length : Int) := by omega
  have CA := Lib.hid ((CnfAt.new w vars sl cs.length cap).below (bA0 _ (.cells #[.slice none 0 0, .int .i64 0, .int .i64 0] 30)))
  have B0 := Lib.hid (bA (bA0 w (.cells #[.int .i64 vars, .slice sl cs.length cap] 25)) (.cells #[.slice none 0 0, .int .i64 0, .int .i64 0] 30))
  have hw1 : (w.alloc (.cells #[.int .i64 vars, .slice sl cs.length cap] 25)).heap.size = w.heap.size + 1 := by simp
  have X0 : Hid (BoxU ((w.alloc (.cells #[.int .i64 vars, .slice sl cs.length cap] 25)).alloc (.cells #[.slice none 0 0, .int .i64 0, .int .i64 0] 30)) (w.heap.size + 1)) := by
    have h1 := new_at (w.alloc (.cells #[.int .i64 vars, .slice sl cs.length cap] 25)) (.cells #[.slice none 0 0, .int .i64 0, .int .i64 0] 30)
    rw [hw1] at h1
    exact h1
  have E1 := Lib.hid (str_any vars sl cap cs sl3 cap3 ts _ hn hs hwf hm (hz.below B0.out) (ht.below B0.out))
  have FIN : Hid (∀ W, BoxU W (w.heap.size + 1) → Below w.heap.size w W → Below w.heap.size w (set3 W (w.heap.size + 1) (.slice none 0 0) (.int .i64 0) (.int .i64 1))) := fun W _ h => set3_below h (by omega) _ _ _
  by_cases c2 : TrR vars (bareC cs) ts
  · have hc := c2.2.1
    have E2 : Hid (∀ W, Below w.heap.size w W → Calls Tryd.prog 49 #[CV vars sl cs.length cap, .slice sl2 ds.length cap2] W fun e w' => e = .returned (.bool (B (MoR vars (bareC ds)))) ∧ Below W.heap.size W w') := fun W hW => sm_any vars sl cs.length cap sl2 cap2 ds W hc.1.1 hc.1.2 hd4 hs2 (hd.below hW)
    rw [B_yes c2] at E1
    by_cases c3 : MoR vars (bareC ds)
    · rw [uAll_yes big ⟨hc, c3, c2.2.2⟩]
      rw [B_yes c3] at E2
      have E3 : Hid (∀ W, Below w.heap.size w W → Calls Tryd.prog 50 #[CV vars sl cs.length cap, .slice sl2 ds.length cap2, .slice sl3 ts.length cap3] W (UPost W ((uRun (bareC cs) (bareC ds) ts).1, (uRun (bareC cs) (bareC ds) ts).2, 0))) := fun W hW => by
        have hv : ((vars.toNat : Nat) : Int) = vars := by have := hc.1.1; omega
        have := srn_any vars.toNat sl cap cs sl2 cap2 ds sl3 cap3 ts W (by have := hc.1.2; omega) (by have := hc.2.1; rw [bareC_length] at this; omega) (by omega) (by rw [hv]; exact c2.2.2) (by
          rw [hv]
          intro r hr z hz'
          rcases List.mem_append.1 hr with hr | hr
          · exact cnfR_lits hc (fun l hl => by obtain ⟨r', hr', rfl⟩ := List.mem_map.1 hl; exact hwf r' hr') r.2 (List.mem_map.2 ⟨r, hr, rfl⟩) z hz'
          · exact moR_lits c3 r.2 (List.mem_map.2 ⟨r, hr, rfl⟩) z hz') (hz.below hW) (hd.below hW) (ht.below hW)
        rw [hv] at this
        exact this
      clear hz hd ht hn hnd hm c2 c3 big FIN hwf hs hs2 hc
      generalize uRun (bareC cs) (bareC ds) ts = R at *
      generalize cs.length = n at *
      generalize ds.length = m at *
      generalize ts.length = q at *
      unfold UPost at E3 ⊢
      go_enter Tryd.func10, Tryd.ntmps10
      go_wp2_with fail
      refine E1.out.mono ?_
      rintro e w1 ⟨rfl, b1⟩
      have D1 := Lib.hid (bT B0.out b1)
      have X1 := Lib.hid (X0.out.below b1)
      have C1 := Lib.hid (CA.out.below b1)
      obtain ⟨t0, t1⟩ := C1.out.cells
      have tl := C1.out.lt
      clear b1 E1 X0 CA B0
      go_wp2_with fail
      refine (E2.out _ D1.out).mono ?_
      rintro e w2 ⟨rfl, b2⟩
      have D2 := Lib.hid (bT D1.out b2)
      have X2 := Lib.hid (X1.out.below b2)
      have C2 := Lib.hid (C1.out.below b2)
      clear b2 X1 C1 D1 t0 t1 tl E2
      obtain ⟨t0, t1⟩ := C2.out.cells
      have tl := C2.out.lt
      go_wp2_with fail
      refine (E3.out _ D2.out).mono ?_
      rintro e w3 ⟨v3, rfl, o3, b3⟩
      have D3 := Lib.hid (bT D2.out b3)
      obtain ⟨rl, r0, r1, r2, f0, f1, f2⟩ := (X2.out.below b3).facts
      have hx2 := X2.out.facts.1
      have hs2 := D2.out.size
      obtain ⟨s3, k3, rfl⟩ := own_v o3
      generalize hRL : R.1.length = rl9 at *
      have HRL := Lib.hid hRL
      clear hRL
      have PB := Lib.hid (set3_below D3.out (show w.heap.size ≤ w.heap.size + 1 by omega) (.slice s3 rl9 k3) (.int .i64 R.2) (.int .i64 0))
      have PO := Lib.hid (own_mono (own_set3 o3 (b := w.heap.size + 1) (fun e => by have := (o3.lt _ e).1; omega) (.slice s3 rl9 k3) (.int .i64 R.2) (.int .i64 0)) (show w.heap.size ≤ w2.heap.size by omega))
      unfold set3 at PB PO
      clear b3 o3 D3 X2 C2 D2 E3 t0 t1 tl
      go_wp2
      refine bodyPost_ret (v := UV (.slice s3 rl9 k3) R.2 0) (by simp [results, Tryd.results10, go_sem, r0, r1, r2]) rfl ⟨_, rfl, by show World.ownsRow _ _ _ _ _ R.1.length _; rw [HRL.out]; exact PO.out, PB.out⟩
    · rw [uAll_no big (fun g => c3 g.2.1)]
      rw [B_no c3] at E2
      unfold UPost
      clear hz hd ht hn hnd hm c2 c3 big hwf hs hs2 hc
      generalize cs.length = n at *
      generalize ds.length = m at *
      generalize ts.length = q at *
      go_enter Tryd.func10, Tryd.ntmps10
      go_wp2_with fail
      refine E1.out.mono ?_
      rintro e w1 ⟨rfl, b1⟩
      have D1 := Lib.hid (bT B0.out b1)
      have X1 := Lib.hid (X0.out.below b1)
      have C1 := Lib.hid (CA.out.below b1)
      obtain ⟨t0, t1⟩ := C1.out.cells
      have tl := C1.out.lt
      clear b1 E1 X0 CA B0
      go_wp2_with fail
      refine (E2.out _ D1.out).mono ?_
      rintro e w2 ⟨rfl, b2⟩
      obtain ⟨rl, r0, r1, r2, f0, f1, f2⟩ := (X1.out.below b2).facts
      have P := Lib.hid (FIN.out w2 (X1.out.below b2) (bT D1.out b2))
      unfold set3 at P
      clear b2 X1 C1 D1 t0 t1 tl E2
      go_wp2
      refine bodyPost_ret (v := UV (.slice none 0 0) 0 1) (by simp [results, Tryd.results10, go_sem, r0, r1, r2]) rfl ⟨_, rfl, ⟨rfl, .inl ⟨rfl, rfl⟩⟩, P.out⟩
  · rw [uAll_no big (fun g => c2 ⟨ht4, g.1, g.2.2⟩)]
    rw [B_no c2] at E1
    unfold UPost
    clear hz hd ht hn hnd hm c2 CA big hwf hs hs2
    generalize cs.length = n at *
    generalize ds.length = m at *
    generalize ts.length = q at *
    go_enter Tryd.func10, Tryd.ntmps10
    go_wp2_with fail
    refine E1.out.mono ?_
    rintro e w1 ⟨rfl, b1⟩
    obtain ⟨rl, r0, r1, r2, f0, f1, f2⟩ := (X0.out.below b1).facts
    have P := Lib.hid (FIN.out w1 (X0.out.below b1) (bT B0.out b1))
    unfold set3 at P
    clear b1 E1 X0
    go_wp2
    refine bodyPost_ret (v := UV (.slice none 0 0) 0 1) (by simp [results, Tryd.results10, go_sem, r0, r1, r2]) rfl ⟨_, rfl, ⟨rfl, .inl ⟨rfl, rfl⟩⟩, P.out⟩

end Go.Proofs.YtoobcodlgajieaaDoor
namespace Go.Proofs.YtoobcodlgajieaaDoor
open Go.RowKit
set_option linter.unusedVariables false

/-- The numbers zs, in a block of their own. -/
def RowZ (w : World) (g : Nat) (zs : List Int) : Prop := RowAt w g (vsOf zs zs.length)
theorem RowZ.lt {w : World} {g : Nat} {zs : List Int} (h : RowZ w g zs) : g < w.heap.size := RowAt.lt h
theorem RowZ.below {w w' : World} {g : Nat} {zs : List Int} (h : RowZ w g zs) (hb : Below w.heap.size w w') : RowZ w' g zs := (hb.block g h.lt).trans h
theorem RowZ.set {w : World} {c : Nat} {zs : List Int} (h : RowZ w c zs) {b : Nat} (hb : c ≠ b) (i : Nat) (v : Value) : RowZ (w.setCell ⟨b, i, none⟩ v) c zs := (Below.heap_setCell _ _ _ _ hb).trans h
theorem RowZ.ints {w : World} {g : Nat} {zs : List Int} (h : RowZ w g zs) : Ints w (some ⟨g, 0, none⟩) zs := .inr ⟨g, 0, rfl, RowAt.ints h (Nat.le_refl _)⟩
set_option maxHeartbeats 400000 in
theorem toO_nil (sl : Option Addr) (cap : Nat) (w : World) :
    Calls Tryd.prog 27 #[.slice sl 0 cap] w fun e w' => e = .returned (.slice (some ⟨w.heap.size, 0, none⟩) 0 0) ∧ RowZ w' w.heap.size [] ∧ Below w.heap.size w w' := by
  have hmk : ∀ w : World, Sem.run Tryd.prog (Instr.makeSlice 26 (.int .i64 0) (.int .i64 0)) w = .ok (.slice (some ⟨w.heap.size, 0, none⟩) 0 0) (w.alloc (.cells (mk64 0) 2)) := fun w => make64 0 (by omega) w
  have P := Lib.hid (show RowZ (w.alloc (.cells (mk64 0) 2)) w.heap.size [] by unfold RowZ RowAt; rw [new_at, show mk64 0 = vsOf [] ([] : List Int).length from mk64_eq []])
  go_enter Tryd.func27, Tryd.ntmps27
  go_wp2
  refine wp_loop_rounds 1 ?_
  rw [rounds_succ]
  go_wp2
  go_ret
  exact ⟨rfl, P.out, bA0 _ _⟩
set_option maxHeartbeats 1000000 in
theorem toO_some (c o cap : Nat) (zs : List Int) (w : World) (hn : zs.length ≤ 1048576) (hz : IntsAt w c o zs) :
    Calls Tryd.prog 27 #[.slice (some ⟨c, o, none⟩) zs.length cap] w fun e w' => e = .returned (.slice (some ⟨w.heap.size, 0, none⟩) zs.length zs.length) ∧ RowZ w' w.heap.size zs ∧ Below w.heap.size w w' := by
  have hmk := make64 zs.length hn
  have HZ : Hid (IntsAt w c o zs) := hz
  have HK : Hid (mk64 zs.length = vsOf zs 0) := mk64_eq zs
  clear hz
  generalize hN : zs.length = n at *
  have HN : Hid (zs.length = n) := hN
  clear hN
  go_enter Tryd.func27, Tryd.ntmps27
  go_wp2
  go_loopw [4] (fun i wr => ∃ (k : Nat), i = .int .i64 k ∧ k ≤ n ∧ Hid (Below w.heap.size w wr) ∧ Hid (RowAt wr w.heap.size (vsOf zs k))) (fun i _ => n - (intOf i).toNat)
  case atStart =>
    refine ⟨0, rfl, Nat.zero_le _, bA0 _ _, ?_⟩
    show (w.heap.push _)[w.heap.size]? = _
    simp [HK.out]
  case round =>
    obtain ⟨k, rfl, hk, H3, H4⟩ := hrel
    have hk0 : (0 : Int) ≤ (k : Int) := by omega
    by_cases h1 : k < n
    · have h1' : (k : Int) < (n : Int) := by omega
      have hlt : k < zs.length := by rw [HN.out]; exact h1
      have hc : wr.cell? ⟨c, o + k, none⟩ = some (.int .i64 (zs.getD k 0)) := by
        rw [H3.out.cell HZ.out.1]; exact HZ.out.2 k hlt
      have hd : wr.cell? ⟨w.heap.size, k, none⟩ = some (.int .i64 0) := by rw [H4.out.cell]; exact vs_at zs k hlt
      have hf := H4.out.frozen k
      have H5 : Hid (RowAt (wr.setCell ⟨w.heap.size, k, none⟩ (.int .i64 (zs.getD k 0))) w.heap.size (vsOf zs (k + 1))) := by
        show RowAt _ _ _
        rw [← vs_step zs k hlt]; exact H4.out.set k _
      clear hlt
      generalize zs.getD k 0 = z at *
      go_wp2
      go_roundw
      case rel => exact ⟨k + 1, by go_num, by omega, H3.out.setCell (Nat.le_refl _) _, H5⟩
      case measure => simp [intOf]; omega
    · have h1' : ¬ (k : Int) < (n : Int) := by omega
      have H6 : Hid (RowZ wr w.heap.size zs) := by
        have := H4.out
        rwa [show k = zs.length by rw [HN.out]; omega] at this
      go_wp2
      go_ret
      exact ⟨rfl, H6.out, H3.out⟩
theorem toO_any (sl : Option Addr) (cap : Nat) (zs : List Int) (w : World) (hn : zs.length ≤ 1048576) (hz : Ints w sl zs) :
    Calls Tryd.prog 27 #[.slice sl zs.length cap] w fun e w' => e = .returned (.slice (some ⟨w.heap.size, 0, none⟩) zs.length zs.length) ∧ RowZ w' w.heap.size zs ∧ Below w.heap.size w w' := by
  rcases hz with rfl | ⟨c, o, rfl, h⟩
  · exact toO_nil sl cap w
  · exact toO_some c o cap zs w hn h
theorem Only.frozen {b : Nat} {w w' : World} (h : Only b w w') {c o : Nat} (hc : c < w.heap.size) (hb : c ≠ b) : w'.frozen? ⟨c, o, none⟩ = w.frozen? ⟨c, o, none⟩ := World.frozen?_of_block (w := w) (h.block c hc hb)
/-- The n numbers from k on. -/
def marks (k : Int) (n : Nat) : List Int := (List.range n).map (fun i : Nat => k + (i : Int))
theorem marks_len (k : Int) (n : Nat) : (marks k n).length = n := by simp [marks]
theorem marks_get (k : Int) (n i : Nat) (h : i < n) : (marks k n)[i]? = some (k + (i : Int)) := by simp [marks, h]
/-- The first i cells of a row hold the marks. -/
def Marked (w : World) (b s : Nat) (k : Int) (i : Nat) : Prop := ∃ vs : Array Value, RowAt w b vs ∧ vs.size = s ∧ ∀ j, j < i → vs[j]? = some (.int .i64 (k + (j : Int)))
theorem Marked.step {w : World} {b s : Nat} {k : Int} {i : Nat} (h : Marked w b s k i) (hi : i < s) : Marked (w.setCell ⟨b, i, none⟩ (.int .i64 (k + (i : Int)))) b s k (i + 1) := by
  obtain ⟨vs, h1, h2, h3⟩ := h
  refine ⟨_, h1.set i _, by simp [h2], fun j hj => ?_⟩
  rw [Array.getElem?_setIfInBounds]
  by_cases e : i = j
  · subst e; simp [h2, hi]
  · rw [if_neg e]; exact h3 j (by omega)
theorem Marked.cell {w : World} {b s : Nat} {k : Int} {i : Nat} (h : Marked w b s k i) (j : Nat) (hj : j < s) : (∃ v, w.cell? ⟨b, j, none⟩ = some v) ∧ w.frozen? ⟨b, j, none⟩ = false := by
  obtain ⟨vs, h1, h2, h3⟩ := h
  exact ⟨⟨vs[j]'(by omega), by rw [h1.cell j]; exact Array.getElem?_eq_getElem (by omega)⟩, h1.frozen j⟩
theorem Marked.at {w : World} {b s : Nat} {k : Int} {i : Nat} (h : Marked w b s k i) (j : Nat) (hj : j < i) : w.cell? ⟨b, j, none⟩ = some (.int .i64 (k + (j : Int))) := by
  obtain ⟨vs, h1, h2, h3⟩ := h
  rw [h1.cell j]; exact h3 j hj
set_option maxHeartbeats 400000 in
theorem mark_nil (sl : Option Addr) (cap : Nat) (k : Int) (w : World) :
    Calls Tryd.prog 34 #[.slice sl 0 cap, .int .i64 k] w fun e w' => e = .returned (.int .i64 k) ∧ w' = w := by
  go_enter Tryd.func34, Tryd.ntmps34
  go_wp2
  refine wp_loop_rounds 1 ?_
  rw [rounds_succ]
  go_wp2
  go_ret
  exact ⟨rfl, rfl⟩
set_option maxHeartbeats 400000 in
theorem held_nil (sl : Option Addr) (cap : Nat) (k : Int) (w : World) :
    Calls Tryd.prog 67 #[.slice sl 0 cap, .int .i64 k] w fun e w' => e = .returned (.int .i64 k) ∧ w' = w := by
  go_enter Tryd.func67, Tryd.ntmps67
  go_wp2
  refine wp_loop_rounds 1 ?_
  rw [rounds_succ]
  go_wp2
  go_ret
  exact ⟨rfl, rfl⟩
set_option maxHeartbeats 400000 in
theorem mark_some (b n s cap : Nat) (k : Int) (hn : n ≤ 1048576) (hs : n ≤ s) (k0 : 0 ≤ k) (k1 : k ≤ 1000000000) (w : World) (h : Marked w b s k 0) :
    Calls Tryd.prog 34 #[.slice (some ⟨b, 0, none⟩) n cap, .int .i64 k] w fun e w' => e = .returned (.int .i64 (k + (n : Int))) ∧ Marked w' b s k n ∧ Only b w w' := by
  have HM := Lib.hid h
  clear h
  go_enter Tryd.func34, Tryd.ntmps34
  go_wp2
  go_loopw [1, 5] (fun m i wr => ∃ j : Nat, i = .int .i64 j ∧ m = .int .i64 (k + (j : Int)) ∧ j ≤ n ∧ Hid (Marked wr b s k j) ∧ Hid (Only b w wr)) (fun _ i _ => n - (intOf i).toNat)
  case atStart => exact ⟨0, rfl, by simp, Nat.zero_le _, HM, Only.refl _ _⟩
  case round =>
    obtain ⟨j, rfl, rfl, hj, H1, H2⟩ := hrel
    have hj0 : (0 : Int) ≤ (j : Int) := by omega
    by_cases h1 : j < n
    · have h1' : (j : Int) < (n : Int) := by omega
      obtain ⟨⟨v, hc⟩, hf⟩ := H1.out.cell j (by omega)
      have H3 := Lib.hid (H1.out.step (by omega))
      go_wp2
      go_roundw
      case rel => exact ⟨j + 1, by go_num, by go_num, by omega, H3, H2.out.setCell _ _⟩
      case measure => simp [intOf]; omega
    · have h1' : ¬ (j : Int) < (n : Int) := by omega
      have hkn : j = n := by omega
      have H4 : Hid (Marked wr b s k n ∧ (k + (j : Int)) = k + (n : Int)) := by subst hkn; exact ⟨H1.out, rfl⟩
      clear hkn
      go_wp2
      go_ret
      exact ⟨by rw [← H4.out.2]; rfl, H4.out.1, H2.out⟩
set_option maxHeartbeats 400000 in
theorem held_some (b n s cap : Nat) (k : Int) (hn : n ≤ 1048576) (k0 : 0 ≤ k) (k1 : k ≤ 1000000000) (w : World) (h : Marked w b s k n) :
    Calls Tryd.prog 67 #[.slice (some ⟨b, 0, none⟩) n cap, .int .i64 k] w fun e w' => e = .returned (.int .i64 (k + (n : Int))) ∧ w' = w := by
  have HM := Lib.hid h
  clear h
  go_enter Tryd.func67, Tryd.ntmps67
  go_wp2
  go_loop [1, 5] (fun m i => ∃ j : Nat, i = .int .i64 j ∧ m = .int .i64 (k + (j : Int)) ∧ j ≤ n) (fun _ i => n - (intOf i).toNat)
  case atStart => exact ⟨0, rfl, by simp, Nat.zero_le _⟩
  case round =>
    obtain ⟨j, rfl, rfl, hj⟩ := hrel
    have hj0 : (0 : Int) ≤ (j : Int) := by omega
    by_cases h1 : j < n
    · have h1' : (j : Int) < (n : Int) := by omega
      have hc := HM.out.at j h1
      go_wp2
      go_round
      case rel => exact ⟨j + 1, by go_num, by go_num, by omega⟩
      case measure => simp [intOf]; omega
    · have h1' : ¬ (j : Int) < (n : Int) := by omega
      have H4 : Hid ((k + (j : Int)) = k + (n : Int)) := by show (k + (j : Int)) = k + (n : Int); omega
      go_wp2
      go_ret
      exact ⟨by rw [← H4.out]; rfl, rfl⟩
theorem Only.grownBy {b : Nat} {w w' : World} (h : Only b w w') : w.grownBy w' (some b) := ⟨h.os, h.tape, h.output, h.size, fun k hk hne => h.block k hk (fun e => hne (by rw [e]))⟩
/-- An owned row is marked. -/
theorem mark_row (B : Nat) (v : Value) (zs : List Int) (k : Int) (hn : zs.length ≤ 1048576) (k0 : 0 ≤ k) (k1 : k ≤ 1000000000) (w : World) (h : w.ownsRow B 2 1 v zs.length (valsZ zs)) :
    Calls Tryd.prog 34 #[v, .int .i64 k] w fun e w' => e = .returned (.int .i64 (k + (zs.length : Int))) ∧ w'.ownsRow B 2 1 v zs.length (valsZ (marks k zs.length)) ∧ w.grownBy w' v.ownBlock := by
  have hl : (valsZ (marks k zs.length)).length = zs.length * 1 := by simp [valsZ, marks_len]
  rcases h.2 with ⟨rfl, h0⟩ | ⟨g, cap, cur, rfl, hb, hg, hcap, hmx, hcur, hx⟩
  · rw [h0]
    refine (mark_nil _ _ _ _).mono ?_
    rintro e w' ⟨rfl, rfl⟩
    exact ⟨by simp, ⟨by simp [valsZ, marks], .inl ⟨rfl, rfl⟩⟩, ⟨rfl, rfl, rfl, Nat.le_refl _, fun _ _ _ => rfl⟩⟩
  · refine (mark_some g zs.length cur.size cap k hn (by omega) k0 k1 w ⟨cur, hg, rfl, fun j hj => absurd hj (Nat.not_lt_zero _)⟩).mono ?_
    rintro e w' ⟨rfl, ⟨vs, h1, h2, h3⟩, ho⟩
    refine ⟨rfl, ⟨hl, .inr ⟨g, cap, vs, rfl, hb, h1, hcap, hmx, by rw [h2, hcur], ?_⟩⟩, ho.grownBy⟩
    apply List.ext_getElem?
    intro i
    by_cases hi : i < zs.length
    · rw [List.getElem?_take_of_lt (by omega)]
      simp only [valsZ, List.getElem?_map, marks_get k _ i hi]
      have := h3 i hi
      simpa using this
    · rw [List.getElem?_eq_none (by simp; omega), List.getElem?_eq_none (by simp [valsZ, marks_len]; omega)]
theorem held_row (B : Nat) (v : Value) (n : Nat) (k : Int) (hn : n ≤ 1048576) (k0 : 0 ≤ k) (k1 : k ≤ 1000000000) (w : World) (h : w.ownsRow B 2 1 v n (valsZ (marks k n))) :
    Calls Tryd.prog 67 #[v, .int .i64 k] w fun e w' => e = .returned (.int .i64 (k + (n : Int))) ∧ w' = w := by
  rcases h.2 with ⟨rfl, h0⟩ | ⟨g, cap, cur, rfl, hb, hg, hcap, hmx, hcur, hx⟩
  · rw [h0]
    refine (held_nil _ _ _ _).mono ?_
    rintro e w' ⟨rfl, rfl⟩
    exact ⟨by simp, rfl⟩
  · refine held_some g n cur.size cap k hn k0 k1 w ⟨cur, hg, rfl, fun j hj => ?_⟩
    have := congrArg (fun l => l[j]?) hx
    simp only [valsZ, List.getElem?_map, marks_get k _ j hj] at this
    rw [List.getElem?_take_of_lt (by omega)] at this
    simpa using this
/-- Nothing has turned but blocks from B on, below L. -/
structure Btw (B L : Nat) (w w' : World) : Prop where
  os : w'.os = w.os
  tape : w'.tape = w.tape
  output : w'.output = w.output
  size : w.heap.size ≤ w'.heap.size
  block : ∀ k, k < w.heap.size → (k < B ∨ L ≤ k) → w'.heap[k]? = w.heap[k]?
theorem Btw.refl (B L : Nat) (w : World) : Btw B L w w := ⟨rfl, rfl, rfl, Nat.le_refl _, fun _ _ _ => rfl⟩
theorem Btw.trans {B L : Nat} {u v w : World} (h : Btw B L u v) (k : Btw B L v w) : Btw B L u w :=
  ⟨k.os.trans h.os, k.tape.trans h.tape, k.output.trans h.output, Nat.le_trans h.size k.size, fun j hj hc => (k.block j (Nat.lt_of_lt_of_le hj h.size) hc).trans (h.block j hj hc)⟩
theorem Btw.grown {B L : Nat} {w0 w w' : World} {row : Option Nat} (h : Btw B L w0 w) (hg : w.grownBy w' row) (hr : ∀ j, row = some j → B ≤ j ∧ j < L) : Btw B L w0 w' :=
  h.trans ⟨hg.os, hg.tape, hg.output, hg.size, fun k hk hc => hg.block k hk (fun e => by have := hr k e.symm; omega)⟩
theorem Btw.alloc {B L : Nat} (w : World) (o : Obj) : Btw B L w (w.alloc o) := (Btw.refl B L w).grown (World.grownBy_alloc w o none) (fun j hj => by cases hj)
theorem Btw.below {B L : Nat} {w w' : World} (h : Btw B L w w') (hB : B ≤ w.heap.size) : Below B w w' := ⟨h.os, h.tape, h.output, h.size, fun k hk => h.block k (Nat.lt_of_lt_of_le hk hB) (.inl hk)⟩
theorem Btw.only {B L g : Nat} {w0 w w' : World} (h : Btw B L w0 w) (hg : Only g w w') (h1 : B ≤ g) (h2 : g < L) : Btw B L w0 w' := h.grown hg.grownBy (fun j hj => by cases hj; exact ⟨h1, h2⟩)
theorem own_btw {B L C : Nat} {e : TypeId} {m : Nat} {v : Value} {n : Nat} {xs : List Value} {w w' : World} (h : w.ownsRow C e m v n xs) (hb : Btw B L w w') (hc : ∀ j, v.ownBlock = some j → j < B ∨ L ≤ j) : w'.ownsRow C e m v n xs := by
  refine ⟨h.1, ?_⟩
  rcases h.2 with h | ⟨g, cap, cur, hv, hg, hh, r⟩
  · exact .inl h
  · exact .inr ⟨g, cap, cur, hv, hg, (hb.block g (Array.getElem?_eq_some_iff.1 hh).1 (hc g (by rw [hv]; rfl))).trans hh, r⟩
theorem RowZ.kept {w w' : World} {g : Nat} {zs : List Int} (h : RowZ w g zs) (e : w'.heap[g]? = w.heap[g]?) : RowZ w' g zs := e.trans h
theorem mkZ_any (b : Nat) (zs : List Int) (k : Int) (hn : zs.length ≤ 1048576) (k0 : 0 ≤ k) (k1 : k ≤ 1000000000) (w : World) (h : RowZ w b zs) :
    Calls Tryd.prog 34 #[.slice (some ⟨b, 0, none⟩) zs.length zs.length, .int .i64 k] w fun e w' => e = .returned (.int .i64 (k + (zs.length : Int))) ∧ Only b w w' :=
  (mark_some b zs.length zs.length zs.length k hn (Nat.le_refl _) k0 k1 w ⟨vsOf zs zs.length, h, vs_size zs _ (Nat.le_refl _), fun j hj => absurd hj (Nat.not_lt_zero _)⟩).mono fun e w' ⟨a, _, c⟩ => ⟨a, c⟩
theorem BtwOf {C : Nat} {w w' : World} (h : Below C w w') : Btw C w.heap.size w w' := ⟨h.os, h.tape, h.output, h.size, fun k hk hc => by
  rcases hc with hc | hc
  · exact h.block k hc
  · omega⟩

/-- A clause with a row of its own, above block b. -/
def ClOwn (b : Nat) (w : World) (r : LCl) : Prop := ∃ g, r.1 = .slice (some ⟨g, 0, none⟩) r.2.length r.2.length ∧ RowZ w g r.2 ∧ b < g ∧ r.2.length ≤ 1048576
theorem ClOwn.below {b : Nat} {w w' : World} {r : LCl} (h : ClOwn b w r) (hb : Below w.heap.size w w') : ClOwn b w' r := by
  obtain ⟨g, e, hi, hg, hl⟩ := h
  exact ⟨g, e, hi.below hb, hg, hl⟩
theorem ClOwn.set {b : Nat} {w : World} {r : LCl} (h : ClOwn b w r) {b' : Nat} (hb : b' ≤ b) (i : Nat) (v : Value) : ClOwn b (w.setCell ⟨b', i, none⟩ v) r := by
  obtain ⟨g, e, hi, hg, hl⟩ := h
  exact ⟨g, e, hi.set (by omega) i v, hg, hl⟩
theorem ClOwn.out {b : Nat} {w : World} {r : LCl} (h : ClOwn b w r) : ClOut b w r := by
  obtain ⟨g, e, hi, hg, hl⟩ := h
  exact ⟨g, e, hi.ints, hg, hl⟩

set_option maxRecDepth 100000 in
set_option maxHeartbeats 1000000 in
/-- toInt64SS, and whose memory it is. -/
theorem toLO_any (sl : Option Addr) (cap : Nat) (cs : List LCl) (w : World) (hn : cs.length ≤ 1048576) (hs : totC cs ≤ 1048576) (hz : Cls w sl cs) :
    Calls Tryd.prog 26 #[.slice sl cs.length cap] w fun e w' => ∃ cs' : List LCl, e = .returned (.slice (some ⟨w.heap.size, 0, none⟩) cs.length cs.length) ∧ bareC cs' = bareC cs ∧ RowV w' w.heap.size cs.length (cs'.map fun r => r.1) ∧ (∀ r ∈ cs', ClOwn w.heap.size w' r) ∧ Below w.heap.size w w' := by
  have HZ := Lib.hid hz
  have HS := Lib.hid (fun r hr => Nat.le_trans (totC_mem cs r hr) hs)
  clear hz hs
  obtain ⟨vs, hmk, hr0⟩ := make40 cs.length hn w
  have R0 := Lib.hid hr0
  clear hr0
  generalize hN : cs.length = n at *
  have HN := Lib.hid hN
  clear hN
  go_enter Tryd.func26, Tryd.ntmps26
  go_wp2
  go_loopw [4] (fun i wr => ∃ (k : Nat) (cs' : List LCl), i = .int .i64 k ∧ k ≤ n ∧ Hid (bareC cs' = bareC (cs.take k)) ∧ Hid (RowV wr w.heap.size n (cs'.map fun r => r.1)) ∧ Hid (∀ r ∈ cs', ClOwn w.heap.size wr r) ∧ Hid (Below w.heap.size w wr)) (fun i _ => n - (intOf i).toNat)
  case atStart => exact ⟨0, [], rfl, Nat.zero_le _, rfl, R0, (fun r hr => by cases hr), bA0 _ _⟩
  case round =>
    obtain ⟨k, cs', rfl, hk, EB, R1, DO, H2⟩ := hrel
    have hk0 : (0 : Int) ≤ (k : Int) := by omega
    by_cases c1 : k < n
    · have c1' : (k : Int) < (n : Int) := by omega
      have hlt : k < cs.length := by rw [HN.out]; exact c1
      obtain ⟨c, o, rfl, Z0⟩ := HZ.out.at hlt
      have hc := (Z0.below H2.out).2 k hlt
      obtain ⟨sld, capd, ed, hi, hdl⟩ := (HZ.out.each cs[k] (List.getElem_mem hlt)).below (show Below w.heap.size w wr from H2.out)
      have hsm := HS.out cs[k] (List.getElem_mem hlt)
      obtain ⟨v, zs, hp⟩ : ∃ v zs, cs[k] = (v, zs) := ⟨_, _, rfl⟩
      rw [hp] at hc ed hi hdl hsm
      dsimp only at hc ed hi hdl hsm
      rw [ed] at hc
      have EBn := Lib.hid (show ∀ v', bareC (cs' ++ [(v', zs)]) = bareC (cs.take (k + 1)) by
        intro v'
        rw [List.take_add_one, List.getElem?_eq_getElem hlt, hp]
        have := EB.out
        unfold bareC at this ⊢
        rw [List.map_append, this]
        simp)
      have LT := Lib.hid (show k = (cs'.map fun r => r.1).length by
        have := congrArg List.length EB.out
        simp only [bareC, List.length_map, List.length_take] at this ⊢
        omega)
      have LN := Lib.hid (show (cs'.map fun r => r.1).length < n by rw [← LT.out]; exact c1)
      have E := Lib.hid (toO_any sld capd zs wr hsm hi)
      have HDL := Lib.hid hsm
      have hws := H2.out.size
      clear hp hlt ed hi hdl hsm Z0
      generalize hq : zs.length = q at *
      have HQ := Lib.hid hq
      clear hq
      go_wp2_with fail
      refine E.out.mono ?_
      rintro e w5 ⟨rfl, i5, b5⟩
      have D5 := Lib.hid (bT H2.out b5)
      have R5 := Lib.hid (R1.out.below b5)
      have hb1 := R1.out.lt
      obtain ⟨⟨v0, g0⟩, f0⟩ := R5.out.there k (by omega)
      have R6 := Lib.hid (R5.out.step LN.out (.slice (some ⟨wr.heap.size, 0, none⟩) q q) k LT.out)
      have D6 : Hid (Below w.heap.size w (w5.setCell ⟨w.heap.size, k, none⟩ (.slice (some ⟨wr.heap.size, 0, none⟩) q q))) := D5.out.setCell (Nat.le_refl _) _
      have R7 : Hid (RowV (w5.setCell ⟨w.heap.size, k, none⟩ (.slice (some ⟨wr.heap.size, 0, none⟩) q q)) w.heap.size n ((cs' ++ [(Value.slice (some ⟨wr.heap.size, 0, none⟩) q q, zs)]).map fun r => r.1)) := by
        rw [List.map_append]; exact R6.out
      have DN : Hid (∀ r ∈ cs' ++ [(Value.slice (some ⟨wr.heap.size, 0, none⟩) q q, zs)], ClOwn w.heap.size (w5.setCell ⟨w.heap.size, k, none⟩ (.slice (some ⟨wr.heap.size, 0, none⟩) q q)) r) := fun r hr => by
        refine ClOwn.set ?_ (Nat.le_refl _) _ _
        rcases List.mem_append.1 hr with hr | hr
        · exact (DO.out r hr).below b5
        · simp at hr; subst hr
          exact ⟨wr.heap.size, by rw [HQ.out], i5, by omega, by rw [HQ.out]; exact HDL.out⟩
      have EB7 := Lib.hid (EBn.out (.slice (some ⟨wr.heap.size, 0, none⟩) q q))
      clear b5 R1 R5 R6 EBn LT LN i5 DO E EB
      go_wp2_with fail
      go_roundw
      case rel => exact ⟨k + 1, _, by go_num, by omega, EB7, R7, DN, D6⟩
      case measure => simp [intOf]; omega
    · have c1' : ¬ (k : Int) < (n : Int) := by omega
      have P := Lib.hid (show bareC cs' = bareC cs by have := EB.out; rwa [List.take_of_length_le (by rw [HN.out]; omega)] at this)
      go_wp2
      go_ret
      exact ⟨rfl, cs', P.out, R1.out, fun a b h => DO.out (a, b) h, H2.out⟩

/-- Clauses copied: a row of slices in block b, from block C on, each with a row of its own. -/
structure CnO (C : Nat) (w : World) (b : Nat) (cs : List LCl) : Prop where
  row : RowV w b cs.length (cs.map fun r => r.1)
  each : ∀ r ∈ cs, ClOwn b w r
  lo : C ≤ b
theorem CnO.below {C : Nat} {w w' : World} {b : Nat} {cs : List LCl} (h : CnO C w b cs) (hb : Below w.heap.size w w') : CnO C w' b cs := ⟨h.row.below hb, fun r hr => (h.each r hr).below hb, h.lo⟩
theorem CnO.cls {C : Nat} {w : World} {b : Nat} {cs : List LCl} (h : CnO C w b cs) : Cls w (some ⟨b, 0, none⟩) cs := h.row.cls (fun r hr => (h.each r hr).out)

set_option maxRecDepth 100000 in
set_option maxHeartbeats 1000000 in
/-- toCnf, and whose memory it is. -/
theorem toCO_any (vars : Int) (sl : Option Addr) (cap : Nat) (cs : List LCl) (w : World) (hn : cs.length ≤ 1048576) (hs : totC cs ≤ 1048576) (hz : Cls w sl cs) :
    Calls Tryd.prog 25 #[CV vars sl cs.length cap] w fun e w' => ∃ b cs', e = .returned (CV vars (some ⟨b, 0, none⟩) cs.length cs.length) ∧ bareC cs' = bareC cs ∧ CnO w.heap.size w' b cs' ∧ Below w.heap.size w w' := by
  have E1 : Hid (∀ W, Below w.heap.size w W → Calls Tryd.prog 26 #[.slice sl cs.length cap] W fun e w' => ∃ cs' : List LCl, e = .returned (.slice (some ⟨W.heap.size, 0, none⟩) cs.length cs.length) ∧ bareC cs' = bareC cs ∧ RowV w' W.heap.size cs.length (cs'.map fun r => r.1) ∧ (∀ r ∈ cs', ClOwn W.heap.size w' r) ∧ Below W.heap.size W w') := fun W hW => toLO_any sl cap cs W hn hs (hz.below hW)
  clear hz
  generalize hN : cs.length = n at *
  have HN := Lib.hid hN
  clear hN
  go_enter Tryd.func25, Tryd.ntmps25
  go_wp2_with fail
  refine (E1.out _ (bA (bA (bA0 _ _) _) _)).mono ?_
  rintro e w1 ⟨cs', rfl, eb, r1, d1, b1⟩
  obtain ⟨n0, n1, n2, n3⟩ := three_new w (.cells #[.int .i64 vars, .slice sl n cap] 45) (.cells #[.int .i64 0, .slice none 0 0] 25) (.cells #[.int .i64 vars, .slice none 0 0] 25)
  have BB := Lib.hid (bT (bA (bA (bA0 w (.cells #[.int .i64 vars, .slice sl n cap] 45)) (.cells #[.int .i64 0, .slice none 0 0] 25)) (.cells #[.int .i64 vars, .slice none 0 0] 25)) b1)
  rw [n3] at r1 d1 b1 ⊢
  have hz := b1.size
  rw [n3] at hz
  have m1 := (b1.block (w.heap.size + 1) (by omega)).trans n1
  have m2 := (b1.block (w.heap.size + 2) (by omega)).trans n2
  have R1 := Lib.hid r1
  have DD := Lib.hid d1
  have EB := Lib.hid eb
  have LN := Lib.hid (show cs'.length = n by rw [← HN.out]; exact bareC_len eb)
  clear r1 d1 b1 eb n0 n1 n2 n3
  have q0 : w1.cell? ⟨w.heap.size + 1 + 1, 0, none⟩ = some (.int .i64 vars) ∧ w1.cell? ⟨w.heap.size + 1 + 1, 1, none⟩ = some (.slice none 0 0) ∧ (∀ o, w1.frozen? ⟨w.heap.size + 1 + 1, o, none⟩ = false) := by
    refine ⟨?_, ?_, fun o => ?_⟩ <;> simp [World.cell?, World.frozen?, m2]
  have q1 : w1.cell? ⟨w.heap.size + 1, 0, none⟩ = some (.int .i64 0) ∧ w1.cell? ⟨w.heap.size + 1, 1, none⟩ = some (.slice none 0 0) ∧ (∀ o, w1.frozen? ⟨w.heap.size + 1, o, none⟩ = false) := by
    refine ⟨?_, ?_, fun o => ?_⟩ <;> simp [World.cell?, World.frozen?, m1]
  obtain ⟨q00, q01, q0f⟩ := q0
  obtain ⟨q10, q11, q1f⟩ := q1
  clear m1 m2
  have P : Hid (CnO w.heap.size (((w1.setCell ⟨w.heap.size + 1 + 1, 1, none⟩ (.slice (some ⟨w.heap.size + 3, 0, none⟩) n n)).setCell ⟨w.heap.size + 1, 0, none⟩ (.int .i64 vars)).setCell ⟨w.heap.size + 1, 1, none⟩ (.slice (some ⟨w.heap.size + 3, 0, none⟩) n n)) (w.heap.size + 3) cs' ∧ Below w.heap.size w (((w1.setCell ⟨w.heap.size + 1 + 1, 1, none⟩ (.slice (some ⟨w.heap.size + 3, 0, none⟩) n n)).setCell ⟨w.heap.size + 1, 0, none⟩ (.int .i64 vars)).setCell ⟨w.heap.size + 1, 1, none⟩ (.slice (some ⟨w.heap.size + 3, 0, none⟩) n n))) :=
    ⟨⟨by rw [LN.out]; exact ((R1.out.setLow (by omega) _ _).setLow (by omega) _ _).setLow (by omega) _ _, fun r hr => (((DD.out r hr).set (by omega) _ _).set (by omega) _ _).set (by omega) _ _, by omega⟩, ((BB.out.setCell (Nat.le_add_right _ 2) _).setCell (Nat.le_add_right _ 1) _).setCell (Nat.le_add_right _ 1) _⟩
  clear R1 DD BB
  go_wp2
  refine bodyPost_ret (v := CV vars (some ⟨w.heap.size + 3, 0, none⟩) n n) (by simp [results, Tryd.results25, go_sem, q10, q11]) rfl ⟨_, cs', rfl, EB.out, P.out⟩

/-- Clauses to be marked, all from block C on and below L. -/
structure ClM (C L : Nat) (w : World) (b : Nat) (cs : List LCl) : Prop where
  row : ∃ vs : Array Value, w.heap[b]? = some (.cells vs 26) ∧ vs.size = cs.length ∧ ∀ i (h : i < cs.length), vs[i]? = some cs[i].1
  each : ∀ r ∈ cs, ∃ g us, r.1 = .slice (some ⟨g, 0, none⟩) r.2.length r.2.length ∧ RowAt w g us ∧ us.size = r.2.length ∧ C ≤ g ∧ g < L
  lo : C ≤ b
  hi : b < L
theorem CnO.clM {C : Nat} {w : World} {b : Nat} {cs : List LCl} (h : CnO C w b cs) : ClM C w.heap.size w b cs := by
  refine ⟨?_, fun r hr => ?_, h.lo, h.row.lt⟩
  · obtain ⟨vs, h1, h2, h3⟩ := h.row
    exact ⟨vs, h1, h2, fun i hi => by
      have := h3 i (by simpa using hi)
      rw [List.getElem_map] at this
      exact this⟩
  · obtain ⟨g, e, hz, hg, _⟩ := h.each r hr
    exact ⟨g, _, e, hz, vs_size _ _ (Nat.le_refl _), by have := h.lo; omega, hz.lt⟩
theorem ClM.below {C L : Nat} {w w' : World} {b : Nat} {cs : List LCl} (h : ClM C L w b cs) (hb : Below w.heap.size w w') : ClM C L w' b cs := by
  refine ⟨?_, fun r hr => ?_, h.lo, h.hi⟩
  · obtain ⟨vs, h1, h2⟩ := h.row
    exact ⟨vs, (hb.block b (Array.getElem?_eq_some_iff.1 h1).1).trans h1, h2⟩
  · obtain ⟨g, us, e, hz, r⟩ := h.each r hr
    exact ⟨g, us, e, (hb.block g hz.lt).trans hz, r⟩
theorem ClM.btw {C L X Y : Nat} {w w' : World} {b : Nat} {cs : List LCl} (h : ClM C L w b cs) (hb : Btw X Y w w') (hc : L ≤ X ∨ Y ≤ C) : ClM C L w' b cs := by
  have hlo := h.lo
  have hhi := h.hi
  refine ⟨?_, fun r hr => ?_, h.lo, h.hi⟩
  · obtain ⟨vs, h1, h2⟩ := h.row
    exact ⟨vs, (hb.block b (Array.getElem?_eq_some_iff.1 h1).1 (by omega)).trans h1, h2⟩
  · obtain ⟨g, us, e, hz, g1, g2, g3⟩ := h.each r hr
    exact ⟨g, us, e, (hb.block g hz.lt (by omega)).trans hz, g1, g2, g3⟩
theorem ClM.rowed {C L : Nat} {w w' : World} {b g : Nat} {cs : List LCl} (h : ClM C L w b cs) (us us' : Array Value) (hg : RowAt w g us) (hg' : RowAt w' g us') (hs : us'.size = us.size) (ho : Only g w w') : ClM C L w' b cs := by
  have hg0 : w.heap[g]? = some (.cells us 2) := hg
  refine ⟨?_, fun r hr => ?_, h.lo, h.hi⟩
  · obtain ⟨vs, h1, h2⟩ := h.row
    have hne : b ≠ g := by
      rintro rfl
      rw [h1] at hg0
      simp at hg0
    exact ⟨vs, (ho.block b (Array.getElem?_eq_some_iff.1 h1).1 hne).trans h1, h2⟩
  · obtain ⟨c, vs, e, hz, hl, r⟩ := h.each r hr
    by_cases hc : c = g
    · subst hc
      have hz' : w.heap[c]? = some (.cells vs 2) := hz
      rw [hg0] at hz'
      simp at hz'
      subst hz'
      exact ⟨c, us', e, hg', by rw [hs, hl], r⟩
    · exact ⟨c, vs, e, (ho.block c hz.lt hc).trans hz, hl, r⟩
theorem ClM.at {C L : Nat} {w : World} {b : Nat} {cs : List LCl} (h : ClM C L w b cs) (i : Nat) (hi : i < cs.length) : b < w.heap.size ∧ w.cell? ⟨b, i, none⟩ = some cs[i].1 := by
  obtain ⟨vs, h1, h2, h3⟩ := h.row
  exact ⟨(Array.getElem?_eq_some_iff.1 h1).1, by simp [World.cell?, h1, h3 i hi]⟩
theorem totC_step (cs : List LCl) (k : Nat) (h : k < cs.length) : totC (cs.take (k + 1)) = totC (cs.take k) + cs[k].2.length := by
  unfold totC
  rw [List.take_succ_eq_append_getElem h, List.map_append, List.sum_append]
  simp
theorem totC_upto (cs : List LCl) (k : Nat) : totC (cs.take k) ≤ totC cs := by
  have := congrArg totC (List.take_append_drop k cs)
  simp only [totC, List.map_append, List.sum_append] at this
  unfold totC
  omega

set_option maxRecDepth 100000 in
set_option maxHeartbeats 1000000 in
/-- markInt64SS. -/
theorem mkLM_any (C L b : Nat) (cs : List LCl) (k : Int) (hn : cs.length ≤ 1048576) (ht : totC cs ≤ 1048576) (k0 : 0 ≤ k) (k1 : k ≤ 10000000) (w : World) (h : ClM C L w b cs) :
    Calls Tryd.prog 33 #[.slice (some ⟨b, 0, none⟩) cs.length cs.length, .int .i64 k] w fun e w' => e = .returned (.int .i64 (k + (totC cs : Int))) ∧ Btw C L w w' := by
  have H := Lib.hid h
  have hlo := h.lo
  have hhi := h.hi
  clear h
  have TD := Lib.hid (fun j => totC_upto cs j)
  generalize hN : cs.length = n at *
  have HN := Lib.hid hN
  clear hN
  go_enter Tryd.func33, Tryd.ntmps33
  go_wp2
  go_loopw [1, 5] (fun m i wr => ∃ j : Nat, i = .int .i64 j ∧ m = .int .i64 (k + (totC (cs.take j) : Int)) ∧ j ≤ n ∧ Hid (ClM C L wr b cs) ∧ Hid (Btw C L w wr)) (fun _ i _ => n - (intOf i).toNat)
  case atStart => exact ⟨0, rfl, by simp [totC], Nat.zero_le _, H, Btw.refl _ _ _⟩
  case round =>
    obtain ⟨j, rfl, rfl, hj, H1, H2⟩ := hrel
    have hj0 : (0 : Int) ≤ (j : Int) := by omega
    by_cases h1 : j < n
    · have h1' : (j : Int) < (n : Int) := by omega
      have hlt : j < cs.length := by rw [HN.out]; exact h1
      have tn := totC_step cs j hlt
      have t1 := TD.out (j + 1)
      obtain ⟨g, us, eg, hg, hus, g1, g2⟩ := H1.out.each cs[j] (List.getElem_mem hlt)
      obtain ⟨hbl, c2⟩ := H1.out.at j hlt
      rw [eg] at c2
      have TN := Lib.hid tn
      generalize hS : totC (cs.take j) = s at *
      have hz0 : 0 ≤ k + (s : Int) ∧ k + (s : Int) ≤ 15000000 := by omega
      generalize hZ : k + (s : Int) = z at *
      obtain ⟨z0, z1⟩ := hz0
      generalize cs[j].2.length = q at *
      have M1 := Lib.hid (mark_some g q us.size q z (by omega) (by omega) (by omega) (by omega) wr ⟨us, hg, rfl, fun i hi => absurd hi (Nat.not_lt_zero _)⟩)
      have HG := Lib.hid hg
      have ZE := Lib.hid hZ
      clear hg hus eg hlt tn hS hZ
      go_wp2_with fail
      refine M1.out.mono ?_
      rintro e w2 ⟨rfl, ⟨us2, m1, m2, -⟩, o2⟩
      have S2 := Lib.hid (H1.out.rowed us us2 HG.out m1 m2 o2)
      have B2 := Lib.hid (H2.out.only o2 g1 g2)
      clear m1 m2 o2 M1 HG H1 H2
      go_wp2
      go_roundw
      case rel => exact ⟨j + 1, by go_num, by have t9 := TN.out; have z9 := ZE.out; rw [t9]; congr 1; push_cast; omega, by omega, S2, B2⟩
      case measure => simp [intOf]; omega
    · have h1' : ¬ (j : Int) < (n : Int) := by omega
      have P := Lib.hid (show (k + (totC (cs.take j) : Int)) = k + (totC cs : Int) by rw [List.take_of_length_le (by rw [HN.out]; omega)])
      go_wp2
      go_ret
      exact ⟨by rw [← P.out]; rfl, H2.out⟩

set_option maxRecDepth 100000 in
set_option maxHeartbeats 1000000 in
/-- markCnf. -/
theorem mkCM_any (vars : Int) (C L b : Nat) (cs : List LCl) (hn : cs.length ≤ 1048576) (ht : totC cs ≤ 1048576) (w : World) (h : ClM C L w b cs) :
    Calls Tryd.prog 32 #[CV vars (some ⟨b, 0, none⟩) cs.length cs.length, .int .i64 1] w fun e w' => e = .returned (.int .i64 (1 + (totC cs : Int))) ∧ Btw C L w w' := by
  have E1 := Lib.hid (mkLM_any C L b cs 1 hn ht (by omega) (by omega) _ (h.below (bA0 w (.cells #[.int .i64 vars, .slice (some ⟨b, 0, none⟩) cs.length cs.length] 25))))
  have B0 := Lib.hid (Btw.alloc (B := C) (L := L) w (.cells #[.int .i64 vars, .slice (some ⟨b, 0, none⟩) cs.length cs.length] 25))
  clear h
  generalize 1 + (totC cs : Int) = q at *
  generalize cs.length = n at *
  go_enter Tryd.func32, Tryd.ntmps32
  go_wp2_with fail
  refine E1.out.mono ?_
  rintro e w1 ⟨rfl, b1⟩
  have P := Lib.hid (B0.out.trans b1)
  clear b1 E1
  go_wp2
  go_ret
  exact ⟨rfl, P.out⟩

/-- A box with an answer. -/
def BoxW (w : World) (b : Nat) (v : Value) (x1 x2 : Int) : Prop := w.heap[b]? = some (.cells #[v, .int .i64 x1, .int .i64 x2] 30)
theorem BoxW.facts {w : World} {b : Nat} {x1 x2 : Int} {v : Value} (h : BoxW w b v x1 x2) : b < w.heap.size ∧ w.cell? ⟨b, 0, none⟩ = some v ∧ w.cell? ⟨b, 1, none⟩ = some (.int .i64 x1) ∧ w.cell? ⟨b, 2, none⟩ = some (.int .i64 x2) := by
  unfold BoxW at h
  refine ⟨(Array.getElem?_eq_some_iff.1 h).1, ?_, ?_, ?_⟩ <;> simp [World.cell?, h]
theorem BoxW.below {w w' : World} {b : Nat} {x1 x2 : Int} {v : Value} (h : BoxW w b v x1 x2) (hb : Below w.heap.size w w') : BoxW w' b v x1 x2 := (hb.block b h.facts.1).trans h
theorem BoxW.btw {X Y : Nat} {w w' : World} {b : Nat} {x1 x2 : Int} {v : Value} (h : BoxW w b v x1 x2) (hb : Btw X Y w w') (hc : b < X ∨ Y ≤ b) : BoxW w' b v x1 x2 := (hb.block b h.facts.1 hc).trans h
theorem BoxW.grown {w w' : World} {b : Nat} {x1 x2 : Int} {v : Value} (h : BoxW w b v x1 x2) {C n : Nat} {u : Value} {xs : List Value} (o : w.ownsRow C 2 1 u n xs) (g : w.grownBy w' u.ownBlock) : BoxW w' b v x1 x2 := by
  refine (g.block b h.facts.1 fun e => ?_).trans h
  obtain ⟨cur, hk⟩ := own_kind o e.symm
  have h2 : w.heap[b]? = some (.cells #[v, .int .i64 x1, .int .i64 x2] 30) := h
  rw [h2] at hk
  simp at hk
/-- An owned row of numbers. -/
def OwZ (w : World) (B : Nat) (v : Value) (n : Nat) (xs : List Value) : Prop := w.ownsRow B 2 1 v n xs
theorem OwZ.below {w w' : World} {B : Nat} {v : Value} {n : Nat} {xs : List Value} (h : OwZ w B v n xs) (hb : Below w.heap.size w w') : OwZ w' B v n xs := own_below h hb
theorem OwZ.up {X Y B : Nat} {w w' : World} {v : Value} {n : Nat} {xs : List Value} (h : OwZ w B v n xs) (hb : Btw X Y w w') (hY : Y ≤ B) : OwZ w' B v n xs := own_btw h hb (fun j hj => .inr (Nat.le_trans hY (World.ownsRow.lt h j hj).1))
/-- The same, all below block L. -/
def OwL (w : World) (L : Nat) (v : Value) (n : Nat) (xs : List Value) : Prop := (∃ B, w.ownsRow B 2 1 v n xs) ∧ (∀ j, v.ownBlock = some j → j < L) ∧ L ≤ w.heap.size
theorem OwL.below {w w' : World} {L : Nat} {v : Value} {n : Nat} {xs : List Value} (h : OwL w L v n xs) (hb : Below w.heap.size w w') : OwL w' L v n xs := by
  obtain ⟨⟨B, h1⟩, h2, h3⟩ := h
  exact ⟨⟨B, own_below h1 hb⟩, h2, Nat.le_trans h3 hb.size⟩
theorem OwL.down {X Y L : Nat} {w w' : World} {v : Value} {n : Nat} {xs : List Value} (h : OwL w L v n xs) (hb : Btw X Y w w') (hX : L ≤ X) : OwL w' L v n xs := by
  obtain ⟨⟨B, h1⟩, h2, h3⟩ := h
  exact ⟨⟨B, own_btw h1 hb (fun j hj => .inl (Nat.lt_of_lt_of_le (h2 j hj) hX))⟩, h2, Nat.le_trans h3 hb.size⟩
theorem OwZ.low {w : World} {B : Nat} {v : Value} {n : Nat} {xs : List Value} (h : OwZ w B v n xs) : OwL w w.heap.size v n xs := ⟨⟨B, h⟩, fun j hj => (World.ownsRow.lt h j hj).2, Nat.le_refl _⟩

set_option maxRecDepth 100000 in
set_option maxHeartbeats 1000000 in
/-- eqUnitOut. -/
theorem eqUO_any (a b : Int) (sl sl' : Option Addr) (cap cap' : Nat) (zs : List Int) (w : World) (hn : zs.length ≤ maxLen) (h : Ints w sl zs) (h' : Ints w sl' zs) :
    Calls Tryd.prog 28 #[UV (.slice sl zs.length cap) a b, UV (.slice sl' zs.length cap') a b] w fun e w' => e = .returned (.bool true) ∧ Below w.heap.size w w' := by
  have B0 := Lib.hid (bA (bA0 w (.cells #[.slice sl zs.length cap, .int .i64 a, .int .i64 b] 30)) (.cells #[.slice sl' zs.length cap', .int .i64 a, .int .i64 b] 30))
  have E := Lib.hid (eq_any sl sl' cap cap' zs _ hn (h.below B0.out) (h'.below B0.out))
  have X1 : Hid (BoxW ((w.alloc (.cells #[.slice sl zs.length cap, .int .i64 a, .int .i64 b] 30)).alloc (.cells #[.slice sl' zs.length cap', .int .i64 a, .int .i64 b] 30)) w.heap.size (.slice sl zs.length cap) a b) := (Below.heap_alloc _ _ _ (by simp)).trans (new_at _ _)
  have X2 : Hid (BoxW ((w.alloc (.cells #[.slice sl zs.length cap, .int .i64 a, .int .i64 b] 30)).alloc (.cells #[.slice sl' zs.length cap', .int .i64 a, .int .i64 b] 30)) (w.heap.size + 1) (.slice sl' zs.length cap') a b) := by
    have := new_at (w.alloc (.cells #[.slice sl zs.length cap, .int .i64 a, .int .i64 b] 30)) (.cells #[.slice sl' zs.length cap', .int .i64 a, .int .i64 b] 30)
    rwa [show (w.alloc (.cells #[.slice sl zs.length cap, .int .i64 a, .int .i64 b] 30)).heap.size = w.heap.size + 1 by simp] at this
  clear h h' hn
  generalize zs.length = n at *
  go_enter Tryd.func28, Tryd.ntmps28
  go_wp2_with fail
  generalize (w.alloc (.cells #[.slice sl n cap, .int .i64 a, .int .i64 b] 30)).alloc (.cells #[.slice sl' n cap', .int .i64 a, .int .i64 b] 30) = w0 at *
  refine E.out.mono ?_
  rintro e w1 ⟨rfl, b1⟩
  have D1 := Lib.hid (bT B0.out b1)
  obtain ⟨y0, y1, y2, y3⟩ := (X1.out.below b1).facts
  obtain ⟨z0, z1, z2, z3⟩ := (X2.out.below b1).facts
  clear b1 E X1 X2
  go_wp2
  go_ret
  exact ⟨rfl, D1.out⟩
set_option maxRecDepth 100000 in
set_option maxHeartbeats 1000000 in
/-- markUnitOut. -/
theorem mkUO_any (C : Nat) (a b : Int) (v : Value) (zs : List Int) (w : World) (hn : zs.length ≤ 1048576) (hC : C ≤ w.heap.size) (o : OwZ w C v zs.length (valsZ zs)) :
    Calls Tryd.prog 35 #[UV v a b, .int .i64 1] w fun e w' => e = .returned (.int .i64 (1 + (zs.length : Int))) ∧ OwZ w' C v zs.length (valsZ (marks 1 zs.length)) ∧ Below C w w' ∧ w.grownBy w' v.ownBlock := by
  obtain ⟨sl, cap, rfl⟩ := own_v o
  have M := Lib.hid (mark_row C (.slice sl zs.length cap) zs 1 hn (by omega) (by omega) _ (World.ownsRow.alloc o (.cells #[.slice sl zs.length cap, .int .i64 a, .int .i64 b] 30)))
  have G0 : Hid (w.grownBy (w.alloc (.cells #[.slice sl zs.length cap, .int .i64 a, .int .i64 b] 30)) (Value.slice sl zs.length cap).ownBlock) := ⟨rfl, rfl, rfl, by simp, fun k hk _ => Below.heap_alloc _ _ _ hk⟩
  have LO := Lib.hid (fun j hj => (World.ownsRow.lt o j hj).1)
  clear o
  generalize valsZ (marks 1 zs.length) = xm at *
  generalize zs.length = n at *
  go_enter Tryd.func35, Tryd.ntmps35
  go_wp2_with fail
  generalize w.alloc (.cells #[.slice sl n cap, .int .i64 a, .int .i64 b] 30) = w0 at *
  refine M.out.mono ?_
  rintro e w1 ⟨rfl, o1, g1⟩
  have O1 := Lib.hid o1
  have G1 : Hid (w.grownBy w1 (Value.slice sl n cap).ownBlock) := ⟨g1.os.trans G0.out.os, g1.tape.trans G0.out.tape, g1.output.trans G0.out.output, Nat.le_trans G0.out.size g1.size, fun k hk hne => (g1.block k (Nat.lt_of_lt_of_le hk G0.out.size) hne).trans (G0.out.block k hk hne)⟩
  have B1 : Hid (Below C w w1) := (Below.refl C w).grown G1.out hC LO.out
  clear o1 g1 M G0
  go_wp2
  go_ret
  exact ⟨rfl, O1.out, B1.out, G1.out⟩
set_option maxRecDepth 100000 in
set_option maxHeartbeats 1000000 in
/-- heldUnitOut. -/
theorem hdUO_any (C : Nat) (a b : Int) (v : Value) (n : Nat) (w : World) (hn : n ≤ 1048576) (o : OwZ w C v n (valsZ (marks 1 n))) :
    Calls Tryd.prog 36 #[UV v a b, .int .i64 1] w fun e w' => e = .returned (.int .i64 (1 + (n : Int))) ∧ Below w.heap.size w w' := by
  obtain ⟨sl, cap, rfl⟩ := own_v o
  have M := Lib.hid (held_row C (.slice sl n cap) n 1 hn (by omega) (by omega) _ (World.ownsRow.alloc o (.cells #[.slice sl n cap, .int .i64 a, .int .i64 b] 30)))
  have B0 := Lib.hid (bA0 w (.cells #[.slice sl n cap, .int .i64 a, .int .i64 b] 30))
  have hneg : ¬ (1 + (n : Int)) < 0 := by omega
  clear o
  generalize 1 + (n : Int) = q at *
  go_enter Tryd.func36, Tryd.ntmps36
  go_wp2_with fail
  generalize w.alloc (.cells #[.slice sl n cap, .int .i64 a, .int .i64 b] 30) = w0 at *
  refine M.out.mono ?_
  rintro e w1 ⟨rfl, rfl⟩
  clear M
  go_wp2
  go_ret
  exact ⟨rfl, B0.out⟩
theorem uAll_len (vars : Int) (css dss : List (List Int)) (ts : List Int) : (uAll vars css dss ts).1.length ≤ 1000 := by
  by_cases h : UBig dss ts
  · rw [uAll_big h]; simp
  · by_cases h2 : UOk vars css dss ts
    · rw [uAll_yes h h2]
      have := resF_len (css ++ dss) (97 - ts.length) ts
      have h3 : ts.length ≤ 400 := by unfold UBig at h; omega
      show (uRun css dss ts).1.length ≤ 1000
      unfold uRun
      omega
    · rw [uAll_no h h2]; simp

end Go.Proofs.YtoobcodlgajieaaDoor
namespace Go.Proofs.YtoobcodlgajieaaDoor
open Go.RowKit
set_option linter.unusedVariables false

theorem totC_bare {a b : List LCl} (h : bareC a = bareC b) : totC a = totC b := by
  have e : ∀ l : List LCl, totC l = ((bareC l).map List.length).sum := fun l => by simp [totC, bareC, Function.comp_def]
  rw [e, e, h]
/-- What a Cnf handed in is. -/
structure InC (w : World) (sl : Option Addr) (cs : List LCl) : Prop where
  ln : cs.length ≤ maxLen
  cl : Cls w sl cs
  wf : WfC cs


end Go.Proofs.YtoobcodlgajieaaDoor
