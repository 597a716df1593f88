/-
  WHAT FOLLOWS AT ONCE: spec.UnitRun.
  COPIES WITH MEMORY OF THEIR OWN; marks over them; what an answer of a run is held against, marked and held by.
  THE LAW 8: the walk.
-/
import Derived.Test.YtoobcodlgajieaaDoorKUaa
import Derived.Test.YtoobcodlgajieaaDoorKUac
namespace Go.Proofs.YtoobcodlgajieaaDoor
open Go.RowKit
set_option linter.unusedVariables false

set_option maxRecDepth 100000 in
set_option maxHeartbeats 4000000 in
/-- spec.UnitRun. -/
theorem sur_any (vars : Int) (sl : Option Addr) (cap : Nat) (cs : List LCl) (sl2 : Option Addr) (cap2 : Nat) (ds : List LCl) (sl3 : Option Addr) (cap3 : Nat) (ts : List Int) (w : World) (hn : cs.length ≤ maxLen) (hnd : ds.length ≤ maxLen) (hm : ts.length ≤ 1048576) (hs : totC cs ≤ 1048576) (hs2 : totC ds ≤ 1048576) (hwf : WfC cs) (hz : Cls w sl cs) (hd : Cls w sl2 ds) (ht : Ints w sl3 ts) :
    Calls Tryd.prog 10 #[CV vars sl cs.length cap, .slice sl2 ds.length cap2, .slice sl3 ts.length cap3] w (UPost w (uAll vars (bareC cs) (bareC ds) ts)) := by
  have hln := hn
  have hld := hnd
  unfold maxLen at hln hld
  by_cases big : UBig (bareC ds) ts
  · rw [uAll_big big]
    have hb : 400 < ds.length ∨ ((¬ 400 < ds.length) ∧ 400 < ts.length) := by
      unfold UBig at big
      rw [bareC_length] at big
      by_cases h : 400 < ds.length
      · exact .inl h
      · exact .inr ⟨h, by rcases big with g | g; exact absurd g h; exact g⟩
    unfold UPost
    clear hz hd ht big hn hnd hs hs2 hwf
    generalize cs.length = n at *
    generalize ds.length = m at *
    generalize ts.length = q at *
    rcases hb with h | ⟨h, h2⟩
    · have h' : (400 : Int) < (m : Int) := by omega
      go_enter Tryd.func10, Tryd.ntmps10
      go_wp2
      refine bodyPost_ret (v := UV (.slice none 0 0) 0 2) (by simp [results, Tryd.results10, go_sem]) rfl ⟨_, rfl, ⟨rfl, .inl ⟨rfl, rfl⟩⟩, bA (bA0 _ _) _⟩
    · have h' : ¬ (400 : Int) < (m : Int) := by omega
      have h2' : (400 : Int) < (q : Int) := by omega
      go_enter Tryd.func10, Tryd.ntmps10
      go_wp2
      refine bodyPost_ret (v := UV (.slice none 0 0) 0 2) (by simp [results, Tryd.results10, go_sem]) rfl ⟨_, rfl, ⟨rfl, .inl ⟨rfl, rfl⟩⟩, bA (bA0 _ _) _⟩
  have hd4 : ds.length ≤ 400 := by unfold UBig at big; rw [bareC_length] at big; omega
  have ht4 : ts.length ≤ 400 := by unfold UBig at big; omega
  have hd4' : ¬ (400 : Int) < (ds.length : Int) := by omega
  have ht4' : ¬ (400 : Int) < (ts.length : Int) := by omega
  have CA := Lib.hid ((CnfAt.new w vars sl cs.length cap).below (bA0 _ (.cells #[.slice none 0 0, .int .i64 0, .int .i64 0] 30)))
  have B0 := Lib.hid (bA (bA0 w (.cells #[.int .i64 vars, .slice sl cs.length cap] 25)) (.cells #[.slice none 0 0, .int .i64 0, .int .i64 0] 30))
  have hw1 : (w.alloc (.cells #[.int .i64 vars, .slice sl cs.length cap] 25)).heap.size = w.heap.size + 1 := by simp
  have X0 : Hid (BoxU ((w.alloc (.cells #[.int .i64 vars, .slice sl cs.length cap] 25)).alloc (.cells #[.slice none 0 0, .int .i64 0, .int .i64 0] 30)) (w.heap.size + 1)) := by
    have h1 := new_at (w.alloc (.cells #[.int .i64 vars, .slice sl cs.length cap] 25)) (.cells #[.slice none 0 0, .int .i64 0, .int .i64 0] 30)
    rw [hw1] at h1
    exact h1
  have E1 := Lib.hid (str_any vars sl cap cs sl3 cap3 ts _ hn hs hwf hm (hz.below B0.out) (ht.below B0.out))
  have FIN : Hid (∀ W, BoxU W (w.heap.size + 1) → Below w.heap.size w W → Below w.heap.size w (set3 W (w.heap.size + 1) (.slice none 0 0) (.int .i64 0) (.int .i64 1))) := fun W _ h => set3_below h (by omega) _ _ _
  by_cases c2 : TrR vars (bareC cs) ts
  · have hc := c2.2.1
    have E2 : Hid (∀ W, Below w.heap.size w W → Calls Tryd.prog 49 #[CV vars sl cs.length cap, .slice sl2 ds.length cap2] W fun e w' => e = .returned (.bool (B (MoR vars (bareC ds)))) ∧ Below W.heap.size W w') := fun W hW => sm_any vars sl cs.length cap sl2 cap2 ds W hc.1.1 hc.1.2 hd4 hs2 (hd.below hW)
    rw [B_yes c2] at E1
    by_cases c3 : MoR vars (bareC ds)
    · rw [uAll_yes big ⟨hc, c3, c2.2.2⟩]
      rw [B_yes c3] at E2
      have E3 : Hid (∀ W, Below w.heap.size w W → Calls Tryd.prog 50 #[CV vars sl cs.length cap, .slice sl2 ds.length cap2, .slice sl3 ts.length cap3] W (UPost W ((uRun (bareC cs) (bareC ds) ts).1, (uRun (bareC cs) (bareC ds) ts).2, 0))) := fun W hW => by
        have hv : ((vars.toNat : Nat) : Int) = vars := by have := hc.1.1; omega
        have := srn_any vars.toNat sl cap cs sl2 cap2 ds sl3 cap3 ts W (by have := hc.1.2; omega) (by have := hc.2.1; rw [bareC_length] at this; omega) (by omega) (by rw [hv]; exact c2.2.2) (by
          rw [hv]
          intro r hr z hz'
          rcases List.mem_append.1 hr with hr | hr
          · exact cnfR_lits hc (fun l hl => by obtain ⟨r', hr', rfl⟩ := List.mem_map.1 hl; exact hwf r' hr') r.2 (List.mem_map.2 ⟨r, hr, rfl⟩) z hz'
          · exact moR_lits c3 r.2 (List.mem_map.2 ⟨r, hr, rfl⟩) z hz') (hz.below hW) (hd.below hW) (ht.below hW)
        rw [hv] at this
        exact this
      clear hz hd ht hn hnd hm c2 c3 big FIN hwf hs hs2 hc
      generalize uRun (bareC cs) (bareC ds) ts = R at *
      generalize cs.length = n at *
      generalize ds.length = m at *
      generalize ts.length = q at *
      unfold UPost at E3 ⊢
      go_enter Tryd.func10, Tryd.ntmps10
      go_wp2_with fail
      refine E1.out.mono ?_
      rintro e w1 ⟨rfl, b1⟩
      have D1 := Lib.hid (bT B0.out b1)
      have X1 := Lib.hid (X0.out.below b1)
      have C1 := Lib.hid (CA.out.below b1)
      obtain ⟨t0, t1⟩ := C1.out.cells
      have tl := C1.out.lt
      clear b1 E1 X0 CA B0
      go_wp2_with fail
      refine (E2.out _ D1.out).mono ?_
      rintro e w2 ⟨rfl, b2⟩
      have D2 := Lib.hid (bT D1.out b2)
      have X2 := Lib.hid (X1.out.below b2)
      have C2 := Lib.hid (C1.out.below b2)
      clear b2 X1 C1 D1 t0 t1 tl E2
      obtain ⟨t0, t1⟩ := C2.out.cells
      have tl := C2.out.lt
      go_wp2_with fail
      refine (E3.out _ D2.out).mono ?_
      rintro e w3 ⟨v3, rfl, o3, b3⟩
      have D3 := Lib.hid (bT D2.out b3)
      obtain ⟨rl, r0, r1, r2, f0, f1, f2⟩ := (X2.out.below b3).facts
      have hx2 := X2.out.facts.1
      have hs2 := D2.out.size
      obtain ⟨s3, k3, rfl⟩ := own_v o3
      generalize hRL : R.1.length = rl9 at *
      have HRL := Lib.hid hRL
      clear hRL
      have PB := Lib.hid (set3_below D3.out (show w.heap.size ≤ w.heap.size + 1 by omega) (.slice s3 rl9 k3) (.int .i64 R.2) (.int .i64 0))
      have PO := Lib.hid (own_mono (own_set3 o3 (b := w.heap.size + 1) (fun e => by have := (o3.lt _ e).1; omega) (.slice s3 rl9 k3) (.int .i64 R.2) (.int .i64 0)) (show w.heap.size ≤ w2.heap.size by omega))
      unfold set3 at PB PO
      clear b3 o3 D3 X2 C2 D2 E3 t0 t1 tl
      go_wp2
      refine bodyPost_ret (v := UV (.slice s3 rl9 k3) R.2 0) (by simp [results, Tryd.results10, go_sem, r0, r1, r2]) rfl ⟨_, rfl, by show World.ownsRow _ _ _ _ _ R.1.length _; rw [HRL.out]; exact PO.out, PB.out⟩
    · rw [uAll_no big (fun g => c3 g.2.1)]
      rw [B_no c3] at E2
      unfold UPost
      clear hz hd ht hn hnd hm c2 c3 big hwf hs hs2 hc
      generalize cs.length = n at *
      generalize ds.length = m at *
      generalize ts.length = q at *
      go_enter Tryd.func10, Tryd.ntmps10
      go_wp2_with fail
      refine E1.out.mono ?_
      rintro e w1 ⟨rfl, b1⟩
      have D1 := Lib.hid (bT B0.out b1)
      have X1 := Lib.hid (X0.out.below b1)
      have C1 := Lib.hid (CA.out.below b1)
      obtain ⟨t0, t1⟩ := C1.out.cells
      have tl := C1.out.lt
      clear b1 E1 X0 CA B0
      go_wp2_with fail
      refine (E2.out _ D1.out).mono ?_
      rintro e w2 ⟨rfl, b2⟩
      obtain ⟨rl, r0, r1, r2, f0, f1, f2⟩ := (X1.out.below b2).facts
      have P := Lib.hid (FIN.out w2 (X1.out.below b2) (bT D1.out b2))
      unfold set3 at P
      clear b2 X1 C1 D1 t0 t1 tl E2
      go_wp2
      refine bodyPost_ret (v := UV (.slice none 0 0) 0 1) (by simp [results, Tryd.results10, go_sem, r0, r1, r2]) rfl ⟨_, rfl, ⟨rfl, .inl ⟨rfl, rfl⟩⟩, P.out⟩
  · rw [uAll_no big (fun g => c2 ⟨ht4, g.1, g.2.2⟩)]
    rw [B_no c2] at E1
    unfold UPost
    clear hz hd ht hn hnd hm c2 CA big hwf hs hs2
    generalize cs.length = n at *
    generalize ds.length = m at *
    generalize ts.length = q at *
    go_enter Tryd.func10, Tryd.ntmps10
    go_wp2_with fail
    refine E1.out.mono ?_
    rintro e w1 ⟨rfl, b1⟩
    obtain ⟨rl, r0, r1, r2, f0, f1, f2⟩ := (X0.out.below b1).facts
    have P := Lib.hid (FIN.out w1 (X0.out.below b1) (bT B0.out b1))
    unfold set3 at P
    clear b1 E1 X0
    go_wp2
    refine bodyPost_ret (v := UV (.slice none 0 0) 0 1) (by simp [results, Tryd.results10, go_sem, r0, r1, r2]) rfl ⟨_, rfl, ⟨rfl, .inl ⟨rfl, rfl⟩⟩, P.out⟩


/-- The numbers zs, in a block of their own. -/
def RowZ (w : World) (g : Nat) (zs : List Int) : Prop := RowAt w g (vsOf zs zs.length)
theorem RowZ.lt {w : World} {g : Nat} {zs : List Int} (h : RowZ w g zs) : g < w.heap.size := RowAt.lt h
theorem RowZ.below {w w' : World} {g : Nat} {zs : List Int} (h : RowZ w g zs) (hb : Below w.heap.size w w') : RowZ w' g zs := (hb.block g h.lt).trans h
theorem RowZ.ints {w : World} {g : Nat} {zs : List Int} (h : RowZ w g zs) : Ints w (some ⟨g, 0, none⟩) zs := .inr ⟨g, 0, rfl, RowAt.ints h (Nat.le_refl _)⟩
theorem Only.frozen {b : Nat} {w w' : World} (h : Only b w w') {c o : Nat} (hc : c < w.heap.size) (hb : c ≠ b) : w'.frozen? ⟨c, o, none⟩ = w.frozen? ⟨c, o, none⟩ := World.frozen?_of_block (w := w) (h.block c hc hb)
/-- The n numbers from k on. -/
def marks (k : Int) (n : Nat) : List Int := (List.range n).map (fun i : Nat => k + (i : Int))
/-- The first i cells of a row hold the marks. -/
def Marked (w : World) (b s : Nat) (k : Int) (i : Nat) : Prop := ∃ vs : Array Value, RowAt w b vs ∧ vs.size = s ∧ ∀ j, j < i → vs[j]? = some (.int .i64 (k + (j : Int)))
theorem Marked.cell {w : World} {b s : Nat} {k : Int} {i : Nat} (h : Marked w b s k i) (j : Nat) (hj : j < s) : (∃ v, w.cell? ⟨b, j, none⟩ = some v) ∧ w.frozen? ⟨b, j, none⟩ = false := by
  obtain ⟨vs, h1, h2, h3⟩ := h
  exact ⟨⟨vs[j]'(by omega), by rw [h1.cell j]; exact Array.getElem?_eq_getElem (by omega)⟩, h1.frozen j⟩
theorem Marked.at {w : World} {b s : Nat} {k : Int} {i : Nat} (h : Marked w b s k i) (j : Nat) (hj : j < i) : w.cell? ⟨b, j, none⟩ = some (.int .i64 (k + (j : Int))) := by
  obtain ⟨vs, h1, h2, h3⟩ := h
  rw [h1.cell j]; exact h3 j hj
theorem Only.grownBy {b : Nat} {w w' : World} (h : Only b w w') : w.grownBy w' (some b) := ⟨h.os, h.tape, h.output, h.size, fun k hk hne => h.block k hk (fun e => hne (by rw [e]))⟩
/-- Nothing has turned but blocks from B on, below L. -/
structure Btw (B L : Nat) (w w' : World) : Prop where
  os : w'.os = w.os
  tape : w'.tape = w.tape
  output : w'.output = w.output
  size : w.heap.size ≤ w'.heap.size
  block : ∀ k, k < w.heap.size → (k < B ∨ L ≤ k) → w'.heap[k]? = w.heap[k]?
theorem Btw.refl (B L : Nat) (w : World) : Btw B L w w := ⟨rfl, rfl, rfl, Nat.le_refl _, fun _ _ _ => rfl⟩
theorem Btw.trans {B L : Nat} {u v w : World} (h : Btw B L u v) (k : Btw B L v w) : Btw B L u w :=
  ⟨k.os.trans h.os, k.tape.trans h.tape, k.output.trans h.output, Nat.le_trans h.size k.size, fun j hj hc => (k.block j (Nat.lt_of_lt_of_le hj h.size) hc).trans (h.block j hj hc)⟩
theorem Btw.grown {B L : Nat} {w0 w w' : World} {row : Option Nat} (h : Btw B L w0 w) (hg : w.grownBy w' row) (hr : ∀ j, row = some j → B ≤ j ∧ j < L) : Btw B L w0 w' :=
  h.trans ⟨hg.os, hg.tape, hg.output, hg.size, fun k hk hc => hg.block k hk (fun e => by have := hr k e.symm; omega)⟩
theorem Btw.alloc {B L : Nat} (w : World) (o : Obj) : Btw B L w (w.alloc o) := (Btw.refl B L w).grown (World.grownBy_alloc w o none) (fun j hj => by cases hj)
theorem Btw.below {B L : Nat} {w w' : World} (h : Btw B L w w') (hB : B ≤ w.heap.size) : Below B w w' := ⟨h.os, h.tape, h.output, h.size, fun k hk => h.block k (Nat.lt_of_lt_of_le hk hB) (.inl hk)⟩
theorem Btw.only {B L g : Nat} {w0 w w' : World} (h : Btw B L w0 w) (hg : Only g w w') (h1 : B ≤ g) (h2 : g < L) : Btw B L w0 w' := h.grown hg.grownBy (fun j hj => by cases hj; exact ⟨h1, h2⟩)
/-- A clause with a row of its own, above block b. -/
def ClOwn (b : Nat) (w : World) (r : LCl) : Prop := ∃ g, r.1 = .slice (some ⟨g, 0, none⟩) r.2.length r.2.length ∧ RowZ w g r.2 ∧ b < g ∧ r.2.length ≤ 1048576
theorem ClOwn.below {b : Nat} {w w' : World} {r : LCl} (h : ClOwn b w r) (hb : Below w.heap.size w w') : ClOwn b w' r := by
  obtain ⟨g, e, hi, hg, hl⟩ := h
  exact ⟨g, e, hi.below hb, hg, hl⟩
theorem ClOwn.out {b : Nat} {w : World} {r : LCl} (h : ClOwn b w r) : ClOut b w r := by
  obtain ⟨g, e, hi, hg, hl⟩ := h
  exact ⟨g, e, hi.ints, hg, hl⟩

/-- Clauses copied: a row of slices in block b, from block C on, each with a row of its own. -/
structure CnO (C : Nat) (w : World) (b : Nat) (cs : List LCl) : Prop where
  row : RowV w b cs.length (cs.map fun r => r.1)
  each : ∀ r ∈ cs, ClOwn b w r
  lo : C ≤ b
theorem CnO.below {C : Nat} {w w' : World} {b : Nat} {cs : List LCl} (h : CnO C w b cs) (hb : Below w.heap.size w w') : CnO C w' b cs := ⟨h.row.below hb, fun r hr => (h.each r hr).below hb, h.lo⟩
/-- Clauses to be marked, all from block C on and below L. -/
structure ClM (C L : Nat) (w : World) (b : Nat) (cs : List LCl) : Prop where
  row : ∃ vs : Array Value, w.heap[b]? = some (.cells vs 26) ∧ vs.size = cs.length ∧ ∀ i (h : i < cs.length), vs[i]? = some cs[i].1
  each : ∀ r ∈ cs, ∃ g us, r.1 = .slice (some ⟨g, 0, none⟩) r.2.length r.2.length ∧ RowAt w g us ∧ us.size = r.2.length ∧ C ≤ g ∧ g < L
  lo : C ≤ b
  hi : b < L
theorem ClM.below {C L : Nat} {w w' : World} {b : Nat} {cs : List LCl} (h : ClM C L w b cs) (hb : Below w.heap.size w w') : ClM C L w' b cs := by
  refine ⟨?_, fun r hr => ?_, h.lo, h.hi⟩
  · obtain ⟨vs, h1, h2⟩ := h.row
    exact ⟨vs, (hb.block b (Array.getElem?_eq_some_iff.1 h1).1).trans h1, h2⟩
  · obtain ⟨g, us, e, hz, r⟩ := h.each r hr
    exact ⟨g, us, e, (hb.block g hz.lt).trans hz, r⟩
theorem ClM.at {C L : Nat} {w : World} {b : Nat} {cs : List LCl} (h : ClM C L w b cs) (i : Nat) (hi : i < cs.length) : b < w.heap.size ∧ w.cell? ⟨b, i, none⟩ = some cs[i].1 := by
  obtain ⟨vs, h1, h2, h3⟩ := h.row
  exact ⟨(Array.getElem?_eq_some_iff.1 h1).1, by simp [World.cell?, h1, h3 i hi]⟩
/-- A box with an answer. -/
def BoxW (w : World) (b : Nat) (v : Value) (x1 x2 : Int) : Prop := w.heap[b]? = some (.cells #[v, .int .i64 x1, .int .i64 x2] 30)
theorem BoxW.facts {w : World} {b : Nat} {x1 x2 : Int} {v : Value} (h : BoxW w b v x1 x2) : b < w.heap.size ∧ w.cell? ⟨b, 0, none⟩ = some v ∧ w.cell? ⟨b, 1, none⟩ = some (.int .i64 x1) ∧ w.cell? ⟨b, 2, none⟩ = some (.int .i64 x2) := by
  unfold BoxW at h
  refine ⟨(Array.getElem?_eq_some_iff.1 h).1, ?_, ?_, ?_⟩ <;> simp [World.cell?, h]
theorem BoxW.below {w w' : World} {b : Nat} {x1 x2 : Int} {v : Value} (h : BoxW w b v x1 x2) (hb : Below w.heap.size w w') : BoxW w' b v x1 x2 := (hb.block b h.facts.1).trans h
/-- An owned row of numbers. -/
def OwZ (w : World) (B : Nat) (v : Value) (n : Nat) (xs : List Value) : Prop := w.ownsRow B 2 1 v n xs
theorem OwZ.below {w w' : World} {B : Nat} {v : Value} {n : Nat} {xs : List Value} (h : OwZ w B v n xs) (hb : Below w.heap.size w w') : OwZ w' B v n xs := own_below h hb
/-- The same, all below block L. -/
def OwL (w : World) (L : Nat) (v : Value) (n : Nat) (xs : List Value) : Prop := (∃ B, w.ownsRow B 2 1 v n xs) ∧ (∀ j, v.ownBlock = some j → j < L) ∧ L ≤ w.heap.size
theorem OwL.below {w w' : World} {L : Nat} {v : Value} {n : Nat} {xs : List Value} (h : OwL w L v n xs) (hb : Below w.heap.size w w') : OwL w' L v n xs := by
  obtain ⟨⟨B, h1⟩, h2, h3⟩ := h
  exact ⟨⟨B, own_below h1 hb⟩, h2, Nat.le_trans h3 hb.size⟩

end Go.Proofs.YtoobcodlgajieaaDoor
