/-
  WHAT FOLLOWS AT ONCE: impl.UnitRun.
  UNITS AS THE MODEL FINDS THEM: the values of literals in a row; spec.l08Unit, spec.l08More.
  WHAT FOLLOWS AT ONCE, as the model runs it: spec.l08Run.
-/
import Derived.Test.YtendehejodgljaaJad
namespace Go.Proofs.Ytendehejodgljaa
open Go.RowKit
set_option linter.unusedVariables false

theorem own_set {w : World} {B : Nat} {e : TypeId} {m : Nat} {v : Value} {n : Nat} {xs : List Value} (h : w.ownsRow B e m v n xs) {b : Nat} (hb : v.ownBlock ≠ some b) (i : Nat) (u : Value) : (w.setCell ⟨b, i, none⟩ u).ownsRow B e m v n xs := by
  refine ⟨h.1, ?_⟩
  rcases h.2 with h | ⟨g, cap, cur, hv, hg, hh, r⟩
  · exact .inl h
  · refine .inr ⟨g, cap, cur, hv, hg, (Below.heap_setCell _ _ _ _ ?_).trans hh, r⟩
    subst hv
    intro e
    exact hb (by simp [Value.ownBlock, e])

/-- The answer's own block, as it is laid. -/
def BoxU (w : World) (b : Nat) : Prop := w.heap[b]? = some (.cells #[.slice none 0 0, .int .i64 0, .int .i64 0] 30)
theorem BoxU.facts {w : World} {b : Nat} (h : BoxU w b) : b < w.heap.size ∧ w.cell? ⟨b, 0, none⟩ = some (.slice none 0 0) ∧ w.cell? ⟨b, 1, none⟩ = some (.int .i64 0) ∧ w.cell? ⟨b, 2, none⟩ = some (.int .i64 0) ∧ w.frozen? ⟨b, 0, none⟩ = false ∧ w.frozen? ⟨b, 1, none⟩ = false ∧ w.frozen? ⟨b, 2, none⟩ = false := by
  unfold BoxU at h
  exact ⟨(Array.getElem?_eq_some_iff.1 h).1, by simp [World.cell?, h], by simp [World.cell?, h], by simp [World.cell?, h], by simp [World.frozen?, h], by simp [World.frozen?, h], by simp [World.frozen?, h]⟩
theorem BoxU.below {w w' : World} {b : Nat} (h : BoxU w b) (hb : Below w.heap.size w w') : BoxU w' b := (hb.block b h.facts.1).trans h
def set3 (w : World) (b : Nat) (v0 v1 v2 : Value) : World := ((w.setCell ⟨b, 0, none⟩ v0).setCell ⟨b, 1, none⟩ v1).setCell ⟨b, 2, none⟩ v2
theorem set3_below {W w : World} {n b : Nat} (h : Below n W w) (hb : n ≤ b) (v0 v1 v2 : Value) : Below n W (set3 w b v0 v1 v2) :=
  ((h.setCell (p := ⟨b, 0, none⟩) hb v0).setCell (p := ⟨b, 1, none⟩) hb v1).setCell (p := ⟨b, 2, none⟩) hb v2
theorem own_set3 {w : World} {B : Nat} {e : TypeId} {m : Nat} {v : Value} {n : Nat} {xs : List Value} (h : w.ownsRow B e m v n xs) {b : Nat} (hb : v.ownBlock ≠ some b) (v0 v1 v2 : Value) : (set3 w b v0 v1 v2).ownsRow B e m v n xs :=
  own_set (own_set (own_set h hb 0 v0) hb 1 v1) hb 2 v2

/-- Is it run at all? -/
def UBig (dss : List (List Int)) (ts : List Int) : Prop := 400 < dss.length ∨ 400 < ts.length
def UOk (vars : Int) (css dss : List (List Int)) (ts : List Int) : Prop := CnfR vars css ∧ MoR vars dss ∧ SpTo vars ts ts.length
noncomputable def uRun (css dss : List (List Int)) (ts : List Int) : List Int × Int := resF (css ++ dss) (97 - ts.length) ts
noncomputable def uAll (vars : Int) (css dss : List (List Int)) (ts : List Int) : List Int × Int × Int :=
  if B (UBig dss ts) = true then ([], 0, 2) else if B (UOk vars css dss ts) = true then ((uRun css dss ts).1, (uRun css dss ts).2, 0) else ([], 0, 1)
theorem uAll_big {vars : Int} {css dss : List (List Int)} {ts : List Int} (h : UBig dss ts) : uAll vars css dss ts = ([], 0, 2) := by unfold uAll; rw [B_yes h]; rfl
theorem uAll_no {vars : Int} {css dss : List (List Int)} {ts : List Int} (h : ¬ UBig dss ts) (h2 : ¬ UOk vars css dss ts) : uAll vars css dss ts = ([], 0, 1) := by unfold uAll; rw [B_no h, B_no h2]; rfl
theorem uAll_yes {vars : Int} {css dss : List (List Int)} {ts : List Int} (h : ¬ UBig dss ts) (h2 : UOk vars css dss ts) : uAll vars css dss ts = ((uRun css dss ts).1, (uRun css dss ts).2, 0) := by unfold uAll; rw [B_no h, B_yes h2]; rfl
abbrev UV (v : Value) (f c : Int) : Value := .agg #[v, .int .i64 f, .int .i64 c]
/-- What an answer is. -/
def UPost (w : World) (R : List Int × Int × Int) (e : Ending) (w' : World) : Prop := ∃ v, e = .returned (UV v R.2.1 R.2.2) ∧ w'.ownsRow w.heap.size 2 1 v R.1.length (valsZ R.1) ∧ Below w.heap.size w w'

/-- Clauses of a right Cnf have literals of its variables. -/
theorem cnfR_lits {vars : Int} {css : List (List Int)} (h : CnfR vars css) (hw : ∀ l ∈ css, ∀ z ∈ l, wfI z) : ∀ l ∈ css, ∀ z ∈ l, OkZ vars z := by
  intro l hl z hz
  obtain ⟨i, hi, rfl⟩ := List.getElem_of_mem hl
  have g := h.2.2 i hi
  have e : css.getD i [] = css[i] := by simp [hi]
  rw [e] at g
  exact (lv_in h.1.1 h.1.2 (hw _ hl z hz)).1 (g.2.1 z hz)
theorem moR_lits {vars : Int} {dss : List (List Int)} (h : MoR vars dss) : ∀ l ∈ dss, ∀ z ∈ l, OkZ vars z := by
  intro l hl z hz
  obtain ⟨i, hi, rfl⟩ := List.getElem_of_mem hz
  have := ((h l hl) i hi).1
  simpa [hi] using this

theorem resF_len (css : List (List Int)) : ∀ (n : Nat) (tr : List Int), (resF css n tr).1.length ≤ tr.length + n
  | 0, tr => Nat.le_refl _
  | n + 1, tr => by
    unfold resF
    split
    · exact Nat.le_add_right _ _
    · have := resF_len css n (tr ++ [(dueL tr 0 css).2])
      rw [List.length_append, List.length_singleton] at this
      omega
/-- Old rows stay where old blocks do. -/
theorem Ints.kept {w W : World} {sl : Option Addr} {zs : List Int} (h : Ints w sl zs) (hs : w.heap.size ≤ W.heap.size) (hk : ∀ k, k < w.heap.size → W.heap[k]? = w.heap[k]?) : Ints W sl zs := by
  rcases h with h | ⟨c, o, e, hl, hc⟩
  · exact .inl h
  · exact .inr ⟨c, o, e, by omega, fun i hi => (World.cell?_of_block (hk c hl)).trans (hc i hi)⟩
theorem ClIn.kept {w W : World} {r : LCl} (h : ClIn w r) (hs : w.heap.size ≤ W.heap.size) (hk : ∀ k, k < w.heap.size → W.heap[k]? = w.heap[k]?) : ClIn W r := by
  obtain ⟨sl, cap, e, hi, hl⟩ := h
  exact ⟨sl, cap, e, hi.kept hs hk, hl⟩
theorem cls_own {w : World} {B : Nat} {e : TypeId} {sl : Option Addr} {cap : Nat} {ls : List LCl} (h : w.ownsRow B e 1 (.slice sl ls.length cap) ls.length (hdC ls)) (he : ∀ r ∈ ls, ClIn w r) : Cls w sl ls := by
  refine ⟨?_, he⟩
  rcases h.2 with ⟨_, h0⟩ | ⟨g, cp, cur, hv, hb, hg, _⟩
  · exact .inl (List.eq_nil_of_length_eq_zero h0)
  · cases hv
    refine .inr ⟨g, 0, rfl, (Array.getElem?_eq_some_iff.1 hg).1, fun i hi => ?_⟩
    rw [Nat.zero_add, h.cellAt i (by omega)]
    simp [hdC, hi]
theorem own_kept {w W : World} {B : Nat} {e : TypeId} {m : Nat} {v : Value} {n : Nat} {xs : List Value} (h : w.ownsRow B e m v n xs) (hk : ∀ k, B ≤ k → k < w.heap.size → W.heap[k]? = w.heap[k]?) : W.ownsRow B e m v n xs := by
  refine ⟨h.1, ?_⟩
  rcases h.2 with h | ⟨g, cap, cur, hv, hg, hh, r⟩
  · exact .inl h
  · exact .inr ⟨g, cap, cur, hv, hg, (hk g hg (Array.getElem?_eq_some_iff.1 hh).1).trans hh, r⟩

set_option maxRecDepth 100000 in
set_option maxHeartbeats 4000000 in
/-- impl.UnitRun. -/
theorem iur_any (vars : Int) (sl : Option Addr) (cap : Nat) (cs : List LCl) (sl2 : Option Addr) (cap2 : Nat) (ds : List LCl) (sl3 : Option Addr) (cap3 : Nat) (ts : List Int) (w : World) (hn : cs.length ≤ maxLen) (hnd : ds.length ≤ maxLen) (hm : ts.length ≤ maxLen) (hwf : WfC cs) (hz : Cls w sl cs) (hd : Cls w sl2 ds) (ht : Ints w sl3 ts) :
    Calls Try.prog 9 #[CV vars sl cs.length cap, .slice sl2 ds.length cap2, .slice sl3 ts.length cap3] w (UPost w (uAll vars (bareC cs) (bareC ds) ts)) := by
  have hln := hn
  have hld := hnd
  have hlt := hm
  unfold maxLen at hln hld hlt
  by_cases big : UBig (bareC ds) ts
  · rw [uAll_big big]
    have hb : 400 < ds.length ∨ ((¬ 400 < ds.length) ∧ 400 < ts.length) := by
      unfold UBig at big
      rw [bareC_length] at big
      by_cases h : 400 < ds.length
      · exact .inl h
      · exact .inr ⟨h, by rcases big with g | g; exact absurd g h; exact g⟩
    unfold UPost
    clear hz hd ht big hn hnd hm
    generalize cs.length = n at *
    generalize ds.length = m at *
    generalize ts.length = q at *
    rcases hb with h | ⟨h, h2⟩
    · have h' : (400 : Int) < (m : Int) := by omega
      go_enter Try.func9, Try.ntmps9
      go_wp2
      refine bodyPost_ret (v := UV (.slice none 0 0) 0 2) (by simp [results, Try.results9, go_sem]) rfl ⟨_, rfl, ⟨rfl, .inl ⟨rfl, rfl⟩⟩, bA (bA0 _ _) _⟩
    · have h' : ¬ (400 : Int) < (m : Int) := by omega
      have h2' : (400 : Int) < (q : Int) := by omega
      go_enter Try.func9, Try.ntmps9
      go_wp2
      refine bodyPost_ret (v := UV (.slice none 0 0) 0 2) (by simp [results, Try.results9, go_sem]) rfl ⟨_, rfl, ⟨rfl, .inl ⟨rfl, rfl⟩⟩, bA (bA0 _ _) _⟩
  have hd4 : ds.length ≤ 400 := by unfold UBig at big; rw [bareC_length] at big; omega
  have ht4 : ts.length ≤ 400 := by unfold UBig at big; omega
  have hd4' : ¬ (400 : Int) < (ds.length : Int) := by omega
  have ht4' : ¬ (400 : Int) < (ts.length : Int) := by omega
  have CA := Lib.hid (((CnfAt.new w vars sl cs.length cap).below (bA0 _ (.cells #[.slice none 0 0, .int .i64 0, .int .i64 0] 30))).below (bA0 _ (.cells Try.zeroCells59 59)))
  have B0 := Lib.hid (bA (bA0 w (.cells #[.int .i64 vars, .slice sl cs.length cap] 25)) (.cells #[.slice none 0 0, .int .i64 0, .int .i64 0] 30))
  have hw1 : (w.alloc (.cells #[.int .i64 vars, .slice sl cs.length cap] 25)).heap.size = w.heap.size + 1 := by simp
  have hw2 : ((w.alloc (.cells #[.int .i64 vars, .slice sl cs.length cap] 25)).alloc (.cells #[.slice none 0 0, .int .i64 0, .int .i64 0] 30)).heap.size = w.heap.size + 1 + 1 := by simp
  have X0 : Hid (BoxU (((w.alloc (.cells #[.int .i64 vars, .slice sl cs.length cap] 25)).alloc (.cells #[.slice none 0 0, .int .i64 0, .int .i64 0] 30)).alloc (.cells Try.zeroCells59 59)) (w.heap.size + 1)) := by
    have h1 := new_at (w.alloc (.cells #[.int .i64 vars, .slice sl cs.length cap] 25)) (.cells #[.slice none 0 0, .int .i64 0, .int .i64 0] 30)
    rw [hw1] at h1
    exact BoxU.below (w := (w.alloc (.cells #[.int .i64 vars, .slice sl cs.length cap] 25)).alloc (.cells #[.slice none 0 0, .int .i64 0, .int .i64 0] 30)) h1 (bA0 _ _)
  have PS := put_same ((w.alloc (.cells #[.int .i64 vars, .slice sl cs.length cap] 25)).alloc (.cells #[.slice none 0 0, .int .i64 0, .int .i64 0] 30)) rfl _ rfl
  rw [hw2] at PS
  have VA : Hid (VAt (((w.alloc (.cells #[.int .i64 vars, .slice sl cs.length cap] 25)).alloc (.cells #[.slice none 0 0, .int .i64 0, .int .i64 0] 30)).alloc (.cells Try.zeroCells59 59)) (w.heap.size + 1 + 1) []) := by
    have := new_at ((w.alloc (.cells #[.int .i64 vars, .slice sl cs.length cap] 25)).alloc (.cells #[.slice none 0 0, .int .i64 0, .int .i64 0] 30)) (.cells Try.zeroCells59 59)
    rw [hw2] at this
    show _ = _
    rw [this, vArr_nil]
  have B1 := Lib.hid (bA B0.out (.cells Try.zeroCells59 59))
  have E1 := Lib.hid (icr_any vars sl cap cs _ hn (hz.below B1.out))
  have FIN : Hid (∀ W, BoxU W (w.heap.size + 1) → Below w.heap.size w W → Below w.heap.size w (set3 W (w.heap.size + 1) (.slice none 0 0) (.int .i64 0) (.int .i64 1))) := fun W _ h => set3_below h (by omega) _ _ _
  clear B0
  by_cases c2 : CnfR vars (bareC cs)
  · have E2 : Hid (∀ W, Below w.heap.size w W → Calls Try.prog 38 #[.slice sl2 ds.length cap2, .int .i64 vars] W fun e w' => e = .returned (.bool (B (MoR vars (bareC ds)))) ∧ Below W.heap.size W w') := fun W hW => lr_any vars sl2 cap2 ds W c2.1.1 c2.1.2 (by omega) (hd.below hW)
    have E3 : Hid (∀ W, Below w.heap.size w W → VAt W (w.heap.size + 1 + 1) [] → Calls Try.prog 39 #[.pointer (some ⟨w.heap.size + 1 + 1, 0, none⟩), .slice sl3 ts.length cap3, .int .i64 vars] W fun e w' => e = .returned (.bool (B (SpTo vars ts ts.length))) ∧ (SpTo vars ts ts.length → VAt w' (w.heap.size + 1 + 1) ts) ∧ Below (w.heap.size + 1 + 1) W w' ∧ w'.heap.size = W.heap.size) := fun W hW hv => by
      refine take_any (w.heap.size + 1 + 1) vars sl3 cap3 ts W hv.blk c2.1.1 c2.1.2 hm ?_
      rcases ht with e | ⟨c, o, e, hi⟩
      · exact .inl e
      · exact .inr ⟨c, o, e, hi.below hW, by have := hi.1; omega⟩
    rw [B_yes c2] at E1
    by_cases c3 : MoR vars (bareC ds)
    · rw [B_yes c3] at E2
      by_cases c4 : SpTo vars ts ts.length
      · rw [uAll_yes big ⟨c2, c3, c4⟩]
        rw [B_yes c4] at E3
        have V4 := Lib.hid c4
        have E4 : Hid (∀ W, Below w.heap.size w W → Calls Try.prog 41 #[CV vars sl cs.length cap, .slice sl2 ds.length cap2] W fun e w' => ∃ v, e = .returned v ∧ w'.ownsRow W.heap.size 108 1 v (cs ++ ds).length (hdC (cs ++ ds)) ∧ Below W.heap.size W w') := fun W hW => cw_any vars sl cap cs sl2 cap2 ds W (by have := c2.2.1; rw [bareC_length] at this; omega) (by omega) (hz.below hW) (hd.below hW)
        have E5 : Hid (∀ W B s k, w.heap.size + 1 + 1 < B → B ≤ W.heap.size → VAt W (w.heap.size + 1 + 1) ts → Below w.heap.size w W → W.ownsRow B 108 1 (.slice s (cs ++ ds).length k) (cs ++ ds).length (hdC (cs ++ ds)) → Calls Try.prog 40 #[.pointer (some ⟨w.heap.size + 1 + 1, 0, none⟩), .slice s (cs ++ ds).length k] W fun e w' => ∃ v fl, e = .returned (.tuple #[v, .int .i64 (uRun (bareC cs) (bareC ds) ts).2]) ∧ ts ++ fl = (uRun (bareC cs) (bareC ds) ts).1 ∧ w'.ownsRow W.heap.size 2 1 v fl.length (valsZ fl) ∧ Below (w.heap.size + 1 + 1) W w') := fun W B s k hB hBW hv hW ho => by
          have hEach : ∀ V, w.heap.size ≤ V.heap.size → (∀ k, k < w.heap.size → V.heap[k]? = w.heap[k]?) → ∀ r ∈ cs ++ ds, ClIn V r := fun V h1 h2 r hr => by
            rcases List.mem_append.1 hr with hr | hr
            · exact (hz.each r hr).kept h1 h2
            · exact (hd.each r hr).kept h1 h2
          have := fol_any (w.heap.size + 1 + 1) vars ts s k (cs ++ ds) W hv c2.1.2 c4 (by have := c2.2.1; rw [bareC_length] at this; simp; omega) (fun r hr z hz' => by
            rcases List.mem_append.1 hr with hr | hr
            · exact cnfR_lits c2 (fun l hl => by obtain ⟨r', hr', rfl⟩ := List.mem_map.1 hl; exact hwf r' hr') r.2 (List.mem_map.2 ⟨r, hr, rfl⟩) z hz'
            · exact moR_lits c3 r.2 (List.mem_map.2 ⟨r, hr, rfl⟩) z hz') (fun V hV => by
            have hsz : w.heap.size ≤ V.heap.size := Nat.le_trans hW.size hV.1
            refine cls_own (own_kept ho (fun k h1 h2 => hV.2 k h2 (by omega))) (hEach V hsz (fun k hk => ?_))
            rw [hV.2 k (by have := hW.size; omega) (by omega)]
            exact hW.block k hk)
          rw [bareC_add] at this
          exact this
        have E6 : Hid (∀ W v fl, Below w.heap.size w W → W.ownsRow (w.heap.size + 1 + 1) 2 1 v fl.length (valsZ fl) → ts ++ fl = (uRun (bareC cs) (bareC ds) ts).1 → Calls Try.prog 42 #[.slice (some ⟨W.heap.size, 0, none⟩) 2 2] (W.alloc (.cells #[.slice sl3 ts.length cap3, v] 26)) fun e w' => ∃ v', e = .returned v' ∧ w'.ownsRow (W.heap.size + 1) 2 1 v' (uRun (bareC cs) (bareC ds) ts).1.length (valsZ (uRun (bareC cs) (bareC ds) ts).1) ∧ Below (W.heap.size + 1) (W.alloc (.cells #[.slice sl3 ts.length cap3, v] 26)) w') := fun W v fl hW ho he => by
          have hsz : (W.alloc (.cells #[.slice sl3 ts.length cap3, v] 26)).heap.size = W.heap.size + 1 := by simp
          obtain ⟨q0, q1⟩ := two_row W (.slice sl3 ts.length cap3) v 26
          have hfl : ts.length + fl.length ≤ 1000 := by
            have h1 := congrArg List.length he
            rw [List.length_append] at h1
            have h2 := resF_len (bareC cs ++ bareC ds) (97 - ts.length) ts
            unfold uRun at h1
            omega
          have hcl : Cls (W.alloc (.cells #[.slice sl3 ts.length cap3, v] 26)) (some ⟨W.heap.size, 0, none⟩) [(.slice sl3 ts.length cap3, ts), (v, fl)] := by
            refine ⟨.inr ⟨W.heap.size, 0, rfl, by omega, fun i hi => ?_⟩, fun r hr => ?_⟩
            · match i, hi with
              | 0, _ => exact q0
              | 1, _ => exact q1
            · rcases List.mem_cons.1 hr with rfl | hr
              · exact ⟨sl3, cap3, rfl, ht.below (bA hW _), hm⟩
              · rw [List.mem_singleton.1 hr]
                obtain ⟨s, k, e, i⟩ := own_ints ho
                exact ⟨s, k, e, i.below (bA0 _ _), by unfold maxLen; show fl.length ≤ _; omega⟩
          have := catZ_any (some ⟨W.heap.size, 0, none⟩) 2 [(.slice sl3 ts.length cap3, ts), (v, fl)] _ (by simp) (by simp [flatC]; omega) hcl
          rw [hsz, show flatC [(.slice sl3 ts.length cap3, ts), (v, fl)] = ts ++ fl by simp [flatC], he] at this
          exact this
        unfold UPost
        clear hz hd ht hn hnd hm c2 c3 c4 big FIN hwf
        generalize uRun (bareC cs) (bareC ds) ts = R at *
        generalize hL : (cs ++ ds).length = L at *
        clear hL
        generalize hdC (cs ++ ds) = hds at *
        generalize cs.length = n at *
        generalize ds.length = m at *
        generalize ts.length = q at *
        generalize hRL : R.1.length = rl9 at *
        clear hRL
        go_enter Try.func9, Try.ntmps9
        go_wp2_with fail
        refine E1.out.mono ?_
        rintro e w1 ⟨rfl, b1⟩
        have D1 := Lib.hid (bT B1.out b1)
        have V1 := Lib.hid (VA.out.below b1)
        have X1 := Lib.hid (X0.out.below b1)
        have C1 := Lib.hid (CA.out.below b1)
        obtain ⟨t0, t1⟩ := C1.out.cells
        have tl := C1.out.lt
        clear b1 E1 VA X0 CA B1
        go_wp2_with fail
        refine (E2.out _ D1.out).mono ?_
        rintro e w2 ⟨rfl, b2⟩
        have D2 := Lib.hid (bT D1.out b2)
        have V2 := Lib.hid (V1.out.below b2)
        have X2 := Lib.hid (X1.out.below b2)
        have C2 := Lib.hid (C1.out.below b2)
        clear b2 V1 X1 C1 D1 t0 t1 tl E2
        obtain ⟨t0, t1⟩ := C2.out.cells
        have tl := C2.out.lt
        go_wp2_with fail
        refine (E3.out _ D2.out V2.out).mono ?_
        rintro e w3 ⟨rfl, va3, b3, sz3⟩
        have hv2 := V2.out.lt
        have D3 := Lib.hid (D2.out.trans (b3.mono (by omega)))
        have V3 := Lib.hid (va3 V4.out)
        have X3 : Hid (BoxU w3 (w.heap.size + 1)) := (b3.block _ (by omega)).trans X2.out
        have C3 : Hid (CnfAt w3 w.heap.size vars sl n cap) := (b3.block _ (by omega)).trans C2.out
        clear b3 va3 V2 X2 C2 D2 t0 t1 tl E3 sz3 hv2
        obtain ⟨t0, t1⟩ := C3.out.cells
        have tl := C3.out.lt
        go_wp2_with fail
        refine (E4.out _ D3.out).mono ?_
        rintro e w4 ⟨v4, rfl, o4, b4⟩
        obtain ⟨s4, k4, rfl⟩ := own_v o4
        have D4 := Lib.hid (bT D3.out b4)
        have V4b := Lib.hid (V3.out.below b4)
        have X4 := Lib.hid (X3.out.below b4)
        have CC := Lib.hid (E5.out w4 w3.heap.size s4 k4 V3.out.lt b4.size V4b.out D4.out o4)
        clear b4 o4 V3 X3 C3 D3 t0 t1 tl E4 E5
        go_wp2_with fail
        refine CC.out.mono ?_
        rintro e w5 ⟨v5, fl, rfl, he5, o5, b5⟩
        have hv4 := V4b.out.lt
        have D5 := Lib.hid (D4.out.trans (b5.mono (by omega)))
        have X5 : Hid (BoxU w5 (w.heap.size + 1)) := (b5.block _ (by omega)).trans X4.out
        have O5 := Lib.hid (own_mono o5 (show w.heap.size + 1 + 1 ≤ w4.heap.size by omega))
        obtain ⟨s5, k5, rfl⟩ := own_v o5
        have CT := Lib.hid (E6.out w5 _ fl D5.out O5.out he5)
        clear b5 o5 V4b X4 D4 CC E6 hv4 O5 he5
        generalize fl.length = fn at *
        go_wp2_with fail
        refine CT.out.mono ?_
        rintro e w6 ⟨v6, rfl, o6, b6⟩
        have hs5 := D5.out.size
        have D6 := Lib.hid ((bA D5.out (.cells #[.slice sl3 q cap3, .slice s5 fn k5] 26)).trans (b6.mono (by omega)))
        obtain ⟨rl, r0, r1, r2, f0, f1, f2⟩ := BoxU.facts (show BoxU w6 (w.heap.size + 1) from (b6.block _ (by have := X5.out.facts.1; omega)).trans (X5.out.below (bA0 _ _)))
        obtain ⟨s6, k6, rfl⟩ := own_v o6
        have PB := Lib.hid (set3_below D6.out (show w.heap.size ≤ w.heap.size + 1 by omega) (.slice s6 rl9 k6) (.int .i64 R.2) (.int .i64 0))
        have PO := Lib.hid (own_mono (own_set3 o6 (b := w.heap.size + 1) (fun e => by have := (o6.lt _ e).1; have := X5.out.facts.1; omega) (.slice s6 rl9 k6) (.int .i64 R.2) (.int .i64 0)) (show w.heap.size ≤ w5.heap.size + 1 by omega))
        unfold set3 at PB PO
        clear b6 o6 D6 X5 D5 CT
        go_wp2
        refine bodyPost_ret (v := UV (.slice s6 rl9 k6) R.2 0) (by simp [results, Try.results9, go_sem, r0, r1, r2]) rfl ⟨_, rfl, PO.out, PB.out⟩
      · rw [uAll_no big (fun g => c4 g.2.2)]
        rw [B_no c4] at E3
        unfold UPost
        clear hz hd ht hn hnd hm c2 c3 c4 big hwf
        generalize cs.length = n at *
        generalize ds.length = m at *
        generalize ts.length = q at *
        go_enter Try.func9, Try.ntmps9
        go_wp2_with fail
        refine E1.out.mono ?_
        rintro e w1 ⟨rfl, b1⟩
        have D1 := Lib.hid (bT B1.out b1)
        have V1 := Lib.hid (VA.out.below b1)
        have X1 := Lib.hid (X0.out.below b1)
        have C1 := Lib.hid (CA.out.below b1)
        obtain ⟨t0, t1⟩ := C1.out.cells
        have tl := C1.out.lt
        clear b1 E1 VA X0 CA B1
        go_wp2_with fail
        refine (E2.out _ D1.out).mono ?_
        rintro e w2 ⟨rfl, b2⟩
        have D2 := Lib.hid (bT D1.out b2)
        have V2 := Lib.hid (V1.out.below b2)
        have X2 := Lib.hid (X1.out.below b2)
        have C2 := Lib.hid (C1.out.below b2)
        clear b2 V1 X1 C1 D1 t0 t1 tl E2
        obtain ⟨t0, t1⟩ := C2.out.cells
        have tl := C2.out.lt
        go_wp2_with fail
        refine (E3.out _ D2.out V2.out).mono ?_
        rintro e w3 ⟨rfl, -, b3, -⟩
        have D3 := D2.out.trans (b3.mono (show w.heap.size ≤ w.heap.size + 1 + 1 by omega))
        have X3 : BoxU w3 (w.heap.size + 1) := (b3.block _ (by omega)).trans X2.out
        obtain ⟨rl, r0, r1, r2, f0, f1, f2⟩ := X3.facts
        have P := Lib.hid (FIN.out w3 X3 D3)
        unfold set3 at P
        clear b3 V2 X2 C2 D2 t0 t1 tl E3 D3 X3
        go_wp2
        refine bodyPost_ret (v := UV (.slice none 0 0) 0 1) (by simp [results, Try.results9, go_sem, r0, r1, r2]) rfl ⟨_, rfl, ⟨rfl, .inl ⟨rfl, rfl⟩⟩, P.out⟩
    · rw [uAll_no big (fun g => c3 g.2.1)]
      rw [B_no c3] at E2
      unfold UPost
      clear hz hd ht hn hnd hm c2 c3 VA big hwf E3
      generalize cs.length = n at *
      generalize ds.length = m at *
      generalize ts.length = q at *
      go_enter Try.func9, Try.ntmps9
      go_wp2_with fail
      refine E1.out.mono ?_
      rintro e w1 ⟨rfl, b1⟩
      have D1 := Lib.hid (bT B1.out b1)
      have X1 := Lib.hid (X0.out.below b1)
      have C1 := Lib.hid (CA.out.below b1)
      obtain ⟨t0, t1⟩ := C1.out.cells
      have tl := C1.out.lt
      clear b1 E1 X0 CA B1
      go_wp2_with fail
      refine (E2.out _ D1.out).mono ?_
      rintro e w2 ⟨rfl, b2⟩
      obtain ⟨rl, r0, r1, r2, f0, f1, f2⟩ := (X1.out.below b2).facts
      have P := Lib.hid (FIN.out w2 (X1.out.below b2) (bT D1.out b2))
      unfold set3 at P
      clear b2 X1 C1 D1 t0 t1 tl E2
      go_wp2
      refine bodyPost_ret (v := UV (.slice none 0 0) 0 1) (by simp [results, Try.results9, go_sem, r0, r1, r2]) rfl ⟨_, rfl, ⟨rfl, .inl ⟨rfl, rfl⟩⟩, P.out⟩
  · rw [uAll_no big (fun g => c2 g.1)]
    rw [B_no c2] at E1
    unfold UPost
    clear hz hd ht hn hnd hm c2 CA VA big
    generalize cs.length = n at *
    generalize ds.length = m at *
    generalize ts.length = q at *
    go_enter Try.func9, Try.ntmps9
    go_wp2_with fail
    refine E1.out.mono ?_
    rintro e w1 ⟨rfl, b1⟩
    obtain ⟨rl, r0, r1, r2, f0, f1, f2⟩ := (X0.out.below b1).facts
    have P := Lib.hid (FIN.out w1 (X0.out.below b1) (bT B1.out b1))
    unfold set3 at P
    clear b1 E1 X0
    go_wp2
    refine bodyPost_ret (v := UV (.slice none 0 0) 0 1) (by simp [results, Try.results9, go_sem, r0, r1, r2]) rfl ⟨_, rfl, ⟨rfl, .inl ⟨rfl, rfl⟩⟩, P.out⟩

end Go.Proofs.Ytendehejodgljaa
namespace Go.Proofs.Ytendehejodgljaa
open Go.RowKit
set_option linter.unusedVariables false

/-- The values of the literals from -V to V. -/
noncomputable def sArr (V : Nat) (tr : List Int) : Array Value := ((List.range (2 * V + 1)).map fun k : Nat => Value.int .i64 (val tr ((k : Int) - (V : Int)))).toArray
def SVAt (w : World) (b V : Nat) (tr : List Int) : Prop := w.heap[b]? = some (.cells (sArr V tr) 2)
theorem sArr_at (V : Nat) (tr : List Int) (k : Nat) (h : k < 2 * V + 1) : (sArr V tr)[k]? = some (.int .i64 (val tr ((k : Int) - (V : Int)))) := by simp [sArr, h]
theorem SVAt.lt {w : World} {b V : Nat} {tr : List Int} (h : SVAt w b V tr) : b < w.heap.size := (Array.getElem?_eq_some_iff.1 h).1
theorem SVAt.cell {w : World} {b V : Nat} {tr : List Int} (h : SVAt w b V tr) (k : Nat) (hk : k < 2 * V + 1) : w.cell? ⟨b, k, none⟩ = some (.int .i64 (val tr ((k : Int) - (V : Int)))) := by
  have : w.cell? ⟨b, k, none⟩ = (sArr V tr)[k]? := by unfold SVAt at h; simp [World.cell?, h]
  rw [this, sArr_at V tr k hk]
theorem SVAt.frozen {w : World} {b V : Nat} {tr : List Int} (h : SVAt w b V tr) (k : Nat) : w.frozen? ⟨b, k, none⟩ = false := by unfold SVAt at h; simp [World.frozen?, h]
theorem SVAt.below {w w' : World} {b V : Nat} {tr : List Int} (h : SVAt w b V tr) (hb : Below w.heap.size w w') : SVAt w' b V tr := (hb.block b h.lt).trans h
theorem sArr_put (V : Nat) (tr : List Int) (z : Int) (i j : Nat) (hi : (i : Int) = z + V) (hj : (j : Int) = (V : Int) - z) (h1 : z ∉ tr) (h2 : -z ∉ tr) (h0 : z ≠ 0) : ((sArr V tr).setIfInBounds i (.int .i64 1)).setIfInBounds j (.int .i64 (-1)) = sArr V (tr ++ [z]) := by
  apply Array.ext
  · simp [sArr]
  · intro k a1 a2
    simp only [Array.size_setIfInBounds] at a1
    rw [Array.getElem_setIfInBounds (by simpa using a1)]
    have hs : (sArr V (tr ++ [z]))[k] = .int .i64 (val (tr ++ [z]) ((k : Int) - (V : Int))) := by simp [sArr]
    rw [hs]
    by_cases hjk : j = k
    · subst hjk
      rw [if_pos rfl, show ((j : Int) - (V : Int)) = -z by omega, val_neg (by simp; exact ⟨h2, by omega⟩) (by simp)]
    · rw [if_neg hjk, Array.getElem_setIfInBounds (by simpa using a1)]
      by_cases hik : i = k
      · subst hik
        rw [if_pos rfl, show ((i : Int) - (V : Int)) = z by omega, val_yes (by simp)]
      · rw [if_neg hik]
        have ht : (sArr V tr)[k]'(by simpa using a1) = .int .i64 (val tr ((k : Int) - (V : Int))) := by simp [sArr]
        rw [ht]
        have e1 : (((k : Int) - (V : Int)) ∈ tr ++ [z]) ↔ ((k : Int) - (V : Int)) ∈ tr := by
          simp only [List.mem_append, List.mem_singleton]
          exact ⟨fun h => by rcases h with h | h; exact h; omega, .inl⟩
        have e2 : (-((k : Int) - (V : Int)) ∈ tr ++ [z]) ↔ -((k : Int) - (V : Int)) ∈ tr := by
          simp only [List.mem_append, List.mem_singleton]
          exact ⟨fun h => by rcases h with h | h; exact h; omega, .inl⟩
        rw [val_iff e1 e2]
theorem SVAt.put {w : World} {b V : Nat} {tr : List Int} (h : SVAt w b V tr) (z : Int) (i j : Nat) (hi : (i : Int) = z + V) (hj : (j : Int) = (V : Int) - z) (h1 : z ∉ tr) (h2 : -z ∉ tr) (h0 : z ≠ 0) : SVAt ((w.setCell ⟨b, i, none⟩ (.int .i64 1)).setCell ⟨b, j, none⟩ (.int .i64 (-1))) b V (tr ++ [z]) := by
  have := heap_setCell_same _ b j _ 2 (.int .i64 (-1)) (heap_setCell_same w b i (sArr V tr) 2 (.int .i64 1) h)
  rw [sArr_put V tr z i j hi hj h1 h2 h0] at this
  exact this

theorem unit_true {tr zs : List Int} {z : Int} (hz : z ∈ zs) (h : val tr z = 1) : unitOf tr zs = none := by
  have hm : z ∈ nfl tr zs := List.mem_filter.2 ⟨hz, by simp [h]⟩
  unfold unitOf
  match hx : nfl tr zs with
  | [] => rw [hx] at hm; simp at hm
  | [a] =>
    rw [hx] at hm
    have : z = a := by simpa using hm
    subst this
    simp [h]
  | a :: c :: r => rfl
theorem unit_two {tr zs : List Int} (h : 2 ≤ (nfl tr zs).length) : unitOf tr zs = none := by
  unfold unitOf
  match hx : nfl tr zs with
  | [] => rw [hx] at h; simp at h
  | [a] => rw [hx] at h; simp at h
  | a :: c :: r => rfl
/-- What the model tells of a clause. -/
def uR (o : Option Int) : Int × Bool := match o with
  | none => (0, false)
  | some z => (z, z == 0)

set_option maxRecDepth 100000 in
set_option maxHeartbeats 2000000 in
/-- spec.l08Unit. -/
theorem su_any (b V : Nat) (tr : List Int) (sl : Option Addr) (cap : Nat) (zs : List Int) (w : World) (hV : V ≤ 96) (hv : SVAt w b V tr) (hn : zs.length ≤ maxLen) (hw : ∀ z ∈ zs, OkZ (V : Int) z) (hz : Ints w sl zs) :
    Calls Try.prog 56 #[.slice (some ⟨b, 0, none⟩) (2 * V + 1) (2 * V + 1), .slice sl zs.length cap, .int .i64 (V : Int)] w fun e w' => e = .returned (.tuple #[.int .i64 (uR (unitOf tr zs)).1, .bool (uR (unitOf tr zs)).2]) ∧ w' = w := by
  unfold maxLen at hn
  have VC := Lib.hid (show ∀ z, OkZ (V : Int) z → ∃ i : Nat, (i : Int) = z + V ∧ i < 2 * V + 1 ∧ w.cell? ⟨b, i, none⟩ = some (.int .i64 (val tr z)) from fun z h => by
    have h2 := h.2.1
    have h3 := h.2.2
    refine ⟨(z + V).toNat, by omega, by omega, ?_⟩
    rw [hv.cell _ (by omega), show (((z + V).toNat : Nat) : Int) - (V : Int) = z by omega])
  have OK := Lib.hid (show ∀ k, k < zs.length → OkZ (V : Int) (zs.getD k 0) from fun k hk => hw _ (by simp [hk]))
  have UT := Lib.hid (show ∀ k, k < zs.length → val tr (zs.getD k 0) = 1 → unitOf tr zs = none from fun k hk h => unit_true (by simp [hk]) h)
  have ST := Lib.hid (fun k h => nfl_step tr zs k h)
  have MO := Lib.hid (fun k => nfl_more tr zs k)
  have U2 := Lib.hid (show 2 ≤ (nfl tr zs).length → unitOf tr zs = none from unit_two)
  have UE := Lib.hid (show ∀ k op, zs.length ≤ k → ((nfl tr (zs.take k) = [] ∧ op = 0) ∨ (nfl tr (zs.take k) = [op] ∧ op ≠ 0 ∧ val tr op = 0)) → unitOf tr zs = some op from fun k op hk h => by
    rw [List.take_of_length_le hk] at h
    unfold unitOf
    rcases h with ⟨h1, h2⟩ | ⟨h1, _, h3⟩
    · rw [h1, h2]
    · rw [h1]; simp [h3])
  have HZ := Lib.hid hz
  have N0 := Lib.hid (show nfl tr (zs.take 0) = [] by simp [nfl])
  have hlt := hv.lt
  clear hv hw hz
  generalize unitOf tr zs = U at *
  generalize hN : zs.length = n at *
  have HN := Lib.hid hN
  clear hN
  generalize hM : 2 * V + 1 = M at *
  go_enter Try.func56, Try.ntmps56
  go_wp2
  go_loopw [8, 9] (fun o i wr => ∃ (k : Nat) (op : Int), i = .int .i64 k ∧ k ≤ n ∧ o = .int .i64 op ∧ Hid ((nfl tr (zs.take k) = [] ∧ op = 0) ∨ (nfl tr (zs.take k) = [op] ∧ op ≠ 0 ∧ val tr op = 0)) ∧ wr = w) (fun _ i _ => n - (intOf i).toNat)
  case atStart => exact ⟨0, 0, rfl, Nat.zero_le _, rfl, .inl ⟨N0.out, rfl⟩, rfl⟩
  case round =>
    obtain ⟨k, op, rfl, hk, rfl, HP, rfl⟩ := hrel
    have hk0 : (0 : Int) ≤ (k : Int) := by omega
    by_cases g1 : k < n
    · have g1' : (k : Int) < (n : Int) := by omega
      have hlt2 : k < zs.length := by rw [HN.out]; exact g1
      obtain ⟨c, o, rfl, ZI⟩ : ∃ c o, sl = some ⟨c, o, none⟩ ∧ IntsAt wr c o zs := by
        rcases HZ.out with e | h
        · rw [e] at hlt2; simp at hlt2
        · exact h
      have hcell := ZI.2 k hlt2
      obtain ⟨i, hi, hiM, hvc⟩ := VC.out _ (OK.out k g1)
      have okz := OK.out k g1
      have S1 := Lib.hid (ST.out k g1)
      have M1 := Lib.hid (MO.out (k + 1))
      have T1 := Lib.hid (UT.out k g1)
      clear ZI hlt2 ST MO HZ OK UT VC
      generalize zs.getD k 0 = z at *
      obtain ⟨oz1, oz2, oz3⟩ := okz
      have hi0 : (0 : Int) ≤ z + (V : Int) := by omega
      have hi1 : z + (V : Int) < (M : Int) := by omega
      have hi2 : z + (V : Int) ≤ 9223372036854775807 := by omega
      have hi3 : -9223372036854775808 ≤ z + (V : Int) := by omega
      have hin : (z + (V : Int)).toNat = i := by omega
      clear hi
      by_cases v1 : val tr z = 1
      · have E := Lib.hid (T1.out v1)
        rw [v1] at hvc
        clear S1 M1 T1 HP v1 UE U2
        go_wp2
        go_ret2
        exact ⟨by rw [E.out]; rfl, rfl⟩
      · by_cases v0 : val tr z = 0
        · rw [if_pos (by omega)] at S1
          rw [v0] at hvc
          by_cases ho : op = 0
          · subst ho
            have P1 := Lib.hid (show (nfl tr (zs.take (k + 1)) = [] ∧ z = 0) ∨ (nfl tr (zs.take (k + 1)) = [z] ∧ z ≠ 0 ∧ val tr z = 0) by
              rcases HP.out with ⟨h1, _⟩ | ⟨_, h2, _⟩
              · rw [S1.out, h1]; exact .inr ⟨rfl, oz1, v0⟩
              · exact absurd rfl h2)
            clear HP S1 M1 T1 v1 v0 UE U2
            go_wp2
            go_roundw
            case rel => exact ⟨k + 1, z, by go_num, by omega, rfl, P1, trivial⟩
            case measure => simp [intOf]; omega
          · have E := Lib.hid (U2.out (by
              rcases HP.out with ⟨_, h2⟩ | ⟨h1, _, _⟩
              · exact absurd h2 ho
              · have := M1.out; rw [S1.out, h1] at this; simpa using this))
            have ho' : (op == 0) = false := by simpa using ho
            clear HP S1 M1 T1 v1 v0 UE U2
            go_wp2
            go_ret2
            exact ⟨by rw [E.out]; rfl, rfl⟩
        · have vm : val tr z = -1 := by rcases val_cases tr z with ⟨e, _⟩ | ⟨e, _⟩ | ⟨e, _⟩ <;> omega
          rw [if_neg (by omega)] at S1
          rw [vm] at hvc
          have P1 := Lib.hid (show (nfl tr (zs.take (k + 1)) = [] ∧ op = 0) ∨ (nfl tr (zs.take (k + 1)) = [op] ∧ op ≠ 0 ∧ val tr op = 0) by rw [S1.out]; exact HP.out)
          clear HP S1 M1 T1 v1 v0 vm UE U2
          go_wp2
          go_roundw
          case rel => exact ⟨k + 1, op, by go_num, by omega, rfl, P1, trivial⟩
          case measure => simp [intOf]; omega
    · have g1' : ¬ (k : Int) < (n : Int) := by omega
      have E := Lib.hid (UE.out k op (by omega) HP.out)
      clear HP ST MO UE U2 UT OK VC
      go_wp2
      go_ret2
      exact ⟨by rw [E.out]; rfl, rfl⟩

set_option maxRecDepth 100000 in
set_option maxHeartbeats 4000000 in
/-- spec.l08More. -/
theorem sm_any (vars : Int) (sl : Option Addr) (n0 cap : Nat) (sl2 : Option Addr) (cap2 : Nat) (ds : List LCl) (w : World) (hv0 : 0 ≤ vars) (hv1 : vars ≤ 96) (hn : ds.length ≤ 400) (hs : totC ds ≤ 1048576) (hz : Cls w sl2 ds) :
    Calls Try.prog 35 #[CV vars sl n0 cap, .slice sl2 ds.length cap2] w fun e w' => e = .returned (.bool (B (MoR vars (bareC ds)))) ∧ Below w.heap.size w w' := by
  have CA := Lib.hid (CnfAt.new w vars sl n0 cap)
  have B0 := Lib.hid (bA0 w (.cells #[.int .i64 vars, .slice sl n0 cap] 25))
  have CE := Lib.hid (show ∀ W k, k < ds.length → Below w.heap.size w W → ∃ c o r, sl2 = some ⟨c, o, none⟩ ∧ ds[k]? = some r ∧ c < w.heap.size ∧ W.cell? ⟨c, o + k, none⟩ = some r.1 from fun W k hk hW => by
    obtain ⟨c, o, e, cl, hc⟩ := hz.at hk
    exact ⟨c, o, ds[k], e, List.getElem?_eq_getElem hk, cl, (hW.cell (p := ⟨c, o + k, none⟩) cl).trans (hc k hk)⟩)
  have TK := Lib.hid (show ∀ (k : Nat) (r : LCl), ds[k]? = some r → ∃ s kc, r.1 = .slice s r.2.length kc ∧ ∀ W, Below w.heap.size w W → Calls Try.prog 47 #[.int .i64 vars, .slice s r.2.length kc, .int .i64 96] W fun e w' => e = .returned (.bool (B (SpTo vars r.2 r.2.length))) ∧ Below W.heap.size W w' from fun k r hk => by
    obtain ⟨s, kc, e, i, l⟩ := hz.each r (List.mem_of_getElem? hk)
    exact ⟨s, kc, e, fun W hW => l06_wide vars s kc r.2 W hv0 hv1 (Nat.le_trans (totC_mem _ _ (List.mem_of_getElem? hk)) hs) (i.below hW)⟩)
  have NO := Lib.hid (show ∀ (k : Nat) (r : LCl), ds[k]? = some r → ¬ SpTo vars r.2 r.2.length → ¬ MoR vars (bareC ds) from fun k r hk h g => h (g r.2 (List.mem_map.2 ⟨r, List.mem_of_getElem? hk, rfl⟩)))
  have YE := Lib.hid (show ∀ k, ds.length ≤ k → MoR vars (bareC (ds.take k)) → MoR vars (bareC ds) from fun k hk h => by rwa [List.take_of_length_le hk] at h)
  have ST := Lib.hid (show ∀ (k : Nat) (r : LCl), ds[k]? = some r → MoR vars (bareC (ds.take k)) → SpTo vars r.2 r.2.length → MoR vars (bareC (ds.take (k + 1))) from fun k r hk h1 h2 => by
    rw [List.take_add_one, hk]
    intro l hl
    simp only [bareC, List.map_append, List.mem_append, Option.toList_some, List.map_cons, List.map_nil, List.mem_singleton] at hl
    rcases hl with hl | rfl
    · exact h1 l hl
    · exact h2)
  have M0 := Lib.hid (show MoR vars (bareC (ds.take 0)) from fun l hl => by simp [bareC] at hl)
  have hn' : ¬ (400 : Int) < (ds.length : Int) := by omega
  clear hz hs
  generalize hQ : MoR vars (bareC ds) = Q at *
  clear hQ
  generalize hN : ds.length = n at *
  clear hN
  go_enter Try.func35, Try.ntmps35
  go_wp2
  generalize w.alloc (.cells #[.int .i64 vars, .slice sl n0 cap] 25) = w0 at *
  have hsz0 := CA.out.lt
  go_loopw [5] (fun i wr => ∃ k : Nat, i = .int .i64 k ∧ k ≤ n ∧ Hid (MoR vars (bareC (ds.take k))) ∧ Hid (CnfAt wr w.heap.size vars sl n0 cap) ∧ Hid (Below w.heap.size w wr)) (fun i _ => n - (intOf i).toNat)
  case atStart => exact ⟨0, rfl, Nat.zero_le _, M0, CA, B0⟩
  case round =>
    obtain ⟨k, rfl, hk, H1, H2, H3⟩ := hrel
    have hk0 : (0 : Int) ≤ (k : Int) := by omega
    by_cases h1 : k < n
    · have h1' : (k : Int) < (n : Int) := by omega
      obtain ⟨c, o, r, rfl, hr, hcw, hcell⟩ := CE.out wr k h1 H3.out
      obtain ⟨s, kc, e, CT0⟩ := TK.out k r hr
      rw [e] at hcell
      have CT := Lib.hid CT0
      have hsr := H3.out.size
      by_cases hp : SpTo vars r.2 r.2.length
      · have S1 := Lib.hid (ST.out k r hr H1.out hp)
        rw [B_yes hp] at CT
        clear CT0 e hr hp TK CE NO ST
        generalize r.2.length = m at *
        have KX : Hid (∀ W, Below wr.heap.size wr W → w.heap.size < W.heap.size ∧ W.cell? ⟨w.heap.size, 0, none⟩ = some (.int .i64 vars) ∧ W.cell? ⟨c, o + k, none⟩ = some (.slice s m kc)) := fun W hW => ⟨(H2.out.below hW).lt, (H2.out.below hW).cells.1, (hW.cell (p := ⟨c, o + k, none⟩) (by show c < wr.heap.size; omega)).trans hcell⟩
        go_wp2_with fail
        refine wp_region_held_drew (S := fun W => w.heap.size < W.heap.size ∧ W.cell? ⟨w.heap.size, 0, none⟩ = some (.int .i64 vars) ∧ W.cell? ⟨c, o + k, none⟩ = some (.slice s m kc)) (by kernel_rfl) ?_ (fun hHeld => ?_)
        · exact KX.out _ (Below.refl _ _).drew
        refine wpAnyH_take (i := 0) (oi := _) (v := ?_) rfl (by kernel_rfl) (by kernel_rfl) (by kernel_rfl) (fun _ _ _ h => h) (Or.inl ⟨by rfl, ?_⟩) (by assumption) ?_
        rotate_left
        · first | (intro w hSw; (try dsimp only at hSw); go_simp; done) | (intro w hSw; (try dsimp only at hSw); go_simp; with_reducible rfl)
        try simp only [Act.put, List.setIfInBounds_toArray, List.set_cons_zero, List.set_cons_succ, List.getElem_toArray, List.getElem_cons_zero]
        refine wpAnyH_take (i := 1) (oi := _) (v := ?_) rfl (by kernel_rfl) (by kernel_rfl) (by kernel_rfl) (fun _ _ _ h => h) (Or.inl ⟨by rfl, ?_⟩) (by assumption) ?_
        rotate_left
        · first | (intro w hSw; (try dsimp only at hSw); go_simp; done) | (intro w hSw; (try dsimp only at hSw); go_simp; with_reducible rfl)
        try simp only [Act.put, List.setIfInBounds_toArray, List.set_cons_zero, List.set_cons_succ, List.getElem_toArray, List.getElem_cons_succ, List.getElem_cons_zero]
        refine wpAnyH_take (i := 2) (oi := _) (v := ?_) rfl (by kernel_rfl) (by kernel_rfl) (by kernel_rfl) (fun _ _ _ h => h) (Or.inl ⟨by rfl, ?_⟩) (by assumption) ?_
        rotate_left
        · first | (intro w hSw; (try dsimp only at hSw); go_simp; done) | (intro w hSw; (try dsimp only at hSw); go_simp; with_reducible rfl)
        try simp only [Act.put, List.setIfInBounds_toArray, List.set_cons_zero, List.set_cons_succ, List.getElem_toArray, List.getElem_cons_succ, List.getElem_cons_zero]
        refine wpAnyH_take (i := 3) (oi := _) (v := ?_) rfl (by kernel_rfl) (by kernel_rfl) (by kernel_rfl) (fun _ _ _ h => h) (Or.inl ⟨by rfl, ?_⟩) (by assumption) ?_
        rotate_left
        · first | (intro w hSw; (try dsimp only at hSw); go_simp; done) | (intro w hSw; (try dsimp only at hSw); go_simp; with_reducible rfl)
        try simp only [Act.put, List.setIfInBounds_toArray, List.set_cons_zero, List.set_cons_succ, List.getElem_toArray, List.getElem_cons_succ, List.getElem_cons_zero]
        refine wpAnyH_take (i := 4) (oi := _) (v := ?_) rfl (by kernel_rfl) (by kernel_rfl) (by kernel_rfl) (fun _ _ _ h => h) (Or.inl ⟨by rfl, ?_⟩) (by assumption) ?_
        rotate_left
        · first | (intro w hSw; (try dsimp only at hSw); go_simp; done) | (intro w hSw; (try dsimp only at hSw); go_simp; with_reducible rfl)
        try simp only [Act.put, List.setIfInBounds_toArray, List.set_cons_zero, List.set_cons_succ, List.getElem_toArray, List.getElem_cons_succ, List.getElem_cons_zero]
        refine wpAnyH_take (i := 5) (oi := _) (v := ?_) rfl (by kernel_rfl) (by kernel_rfl) (by kernel_rfl) (fun _ _ _ h => h) (Or.inl ⟨by rfl, ?_⟩) (by assumption) ?_
        rotate_left
        · first | (intro w hSw; (try dsimp only at hSw); go_simp; done) | (intro w hSw; (try dsimp only at hSw); go_simp; with_reducible rfl)
        try simp only [Act.put, List.setIfInBounds_toArray, List.set_cons_zero, List.set_cons_succ, List.getElem_toArray, List.getElem_cons_succ, List.getElem_cons_zero]
        refine wpAnyH_ready (rs := [6]) (by kernel_rfl) (by simp) ?_
        refine AllReadyH.cons rfl (fun K hK => ?_) AllReadyH.nil
        go_simp
        go_wp2_with (go_at_call 47; refine (CT.out _ H3.out.drew).mono ?_; rintro e w7 ⟨rfl, b7⟩)
        have D7 : Hid (Below wr.heap.size wr w7) := bT ((Below.refl wr.heap.size wr).drew) b7
        clear b7
        refine hK.out _ _ ?_ (fun hHeld => ?_)
        · exact KX.out _ D7.out
        clear hK K
        refine wpAnyH_take (i := 7) (oi := _) (v := ?_) rfl (by kernel_rfl) (by kernel_rfl) (by kernel_rfl) (fun _ _ _ h => h) (Or.inl ⟨by rfl, ?_⟩) (by assumption) ?_
        rotate_left
        · first | (intro w hSw; (try dsimp only at hSw); go_simp; done) | (intro w hSw; (try dsimp only at hSw); go_simp; with_reducible rfl)
        try simp only [Act.put, List.setIfInBounds_toArray, List.set_cons_zero, List.set_cons_succ, List.getElem_toArray, List.getElem_cons_succ, List.getElem_cons_zero]
        refine wpAnyH_done (by kernel_rfl) ?_ _
        have B9 := Lib.hid (bT H3.out D7.out)
        have C9 := Lib.hid (H2.out.below D7.out)
        clear D7 KX CT
        go_wp2
        go_roundw
        case rel => exact ⟨k + 1, by go_num, by omega, S1, C9, B9⟩
        case measure => simp [intOf]; omega
      · have NQ := Lib.hid (NO.out k r hr hp)
        rw [B_no hp] at CT
        clear CT0 e hr hp TK CE NO ST
        generalize r.2.length = m at *
        have KX : Hid (∀ W, Below wr.heap.size wr W → w.heap.size < W.heap.size ∧ W.cell? ⟨w.heap.size, 0, none⟩ = some (.int .i64 vars) ∧ W.cell? ⟨c, o + k, none⟩ = some (.slice s m kc)) := fun W hW => ⟨(H2.out.below hW).lt, (H2.out.below hW).cells.1, (hW.cell (p := ⟨c, o + k, none⟩) (by show c < wr.heap.size; omega)).trans hcell⟩
        go_wp2_with fail
        refine wp_region_held_drew (S := fun W => w.heap.size < W.heap.size ∧ W.cell? ⟨w.heap.size, 0, none⟩ = some (.int .i64 vars) ∧ W.cell? ⟨c, o + k, none⟩ = some (.slice s m kc)) (by kernel_rfl) ?_ (fun hHeld => ?_)
        · exact KX.out _ (Below.refl _ _).drew
        refine wpAnyH_take (i := 0) (oi := _) (v := ?_) rfl (by kernel_rfl) (by kernel_rfl) (by kernel_rfl) (fun _ _ _ h => h) (Or.inl ⟨by rfl, ?_⟩) (by assumption) ?_
        rotate_left
        · first | (intro w hSw; (try dsimp only at hSw); go_simp; done) | (intro w hSw; (try dsimp only at hSw); go_simp; with_reducible rfl)
        try simp only [Act.put, List.setIfInBounds_toArray, List.set_cons_zero, List.set_cons_succ, List.getElem_toArray, List.getElem_cons_zero]
        refine wpAnyH_take (i := 1) (oi := _) (v := ?_) rfl (by kernel_rfl) (by kernel_rfl) (by kernel_rfl) (fun _ _ _ h => h) (Or.inl ⟨by rfl, ?_⟩) (by assumption) ?_
        rotate_left
        · first | (intro w hSw; (try dsimp only at hSw); go_simp; done) | (intro w hSw; (try dsimp only at hSw); go_simp; with_reducible rfl)
        try simp only [Act.put, List.setIfInBounds_toArray, List.set_cons_zero, List.set_cons_succ, List.getElem_toArray, List.getElem_cons_succ, List.getElem_cons_zero]
        refine wpAnyH_take (i := 2) (oi := _) (v := ?_) rfl (by kernel_rfl) (by kernel_rfl) (by kernel_rfl) (fun _ _ _ h => h) (Or.inl ⟨by rfl, ?_⟩) (by assumption) ?_
        rotate_left
        · first | (intro w hSw; (try dsimp only at hSw); go_simp; done) | (intro w hSw; (try dsimp only at hSw); go_simp; with_reducible rfl)
        try simp only [Act.put, List.setIfInBounds_toArray, List.set_cons_zero, List.set_cons_succ, List.getElem_toArray, List.getElem_cons_succ, List.getElem_cons_zero]
        refine wpAnyH_take (i := 3) (oi := _) (v := ?_) rfl (by kernel_rfl) (by kernel_rfl) (by kernel_rfl) (fun _ _ _ h => h) (Or.inl ⟨by rfl, ?_⟩) (by assumption) ?_
        rotate_left
        · first | (intro w hSw; (try dsimp only at hSw); go_simp; done) | (intro w hSw; (try dsimp only at hSw); go_simp; with_reducible rfl)
        try simp only [Act.put, List.setIfInBounds_toArray, List.set_cons_zero, List.set_cons_succ, List.getElem_toArray, List.getElem_cons_succ, List.getElem_cons_zero]
        refine wpAnyH_take (i := 4) (oi := _) (v := ?_) rfl (by kernel_rfl) (by kernel_rfl) (by kernel_rfl) (fun _ _ _ h => h) (Or.inl ⟨by rfl, ?_⟩) (by assumption) ?_
        rotate_left
        · first | (intro w hSw; (try dsimp only at hSw); go_simp; done) | (intro w hSw; (try dsimp only at hSw); go_simp; with_reducible rfl)
        try simp only [Act.put, List.setIfInBounds_toArray, List.set_cons_zero, List.set_cons_succ, List.getElem_toArray, List.getElem_cons_succ, List.getElem_cons_zero]
        refine wpAnyH_take (i := 5) (oi := _) (v := ?_) rfl (by kernel_rfl) (by kernel_rfl) (by kernel_rfl) (fun _ _ _ h => h) (Or.inl ⟨by rfl, ?_⟩) (by assumption) ?_
        rotate_left
        · first | (intro w hSw; (try dsimp only at hSw); go_simp; done) | (intro w hSw; (try dsimp only at hSw); go_simp; with_reducible rfl)
        try simp only [Act.put, List.setIfInBounds_toArray, List.set_cons_zero, List.set_cons_succ, List.getElem_toArray, List.getElem_cons_succ, List.getElem_cons_zero]
        refine wpAnyH_ready (rs := [6]) (by kernel_rfl) (by simp) ?_
        refine AllReadyH.cons rfl (fun K hK => ?_) AllReadyH.nil
        go_simp
        go_wp2_with (go_at_call 47; refine (CT.out _ H3.out.drew).mono ?_; rintro e w7 ⟨rfl, b7⟩)
        have D7 : Hid (Below wr.heap.size wr w7) := bT ((Below.refl wr.heap.size wr).drew) b7
        clear b7
        refine hK.out _ _ ?_ (fun hHeld => ?_)
        · exact KX.out _ D7.out
        clear hK K
        refine wpAnyH_take (i := 7) (oi := _) (v := ?_) rfl (by kernel_rfl) (by kernel_rfl) (by kernel_rfl) (fun _ _ _ h => h) (Or.inl ⟨by rfl, ?_⟩) (by assumption) ?_
        rotate_left
        · first | (intro w hSw; (try dsimp only at hSw); go_simp; done) | (intro w hSw; (try dsimp only at hSw); go_simp; with_reducible rfl)
        try simp only [Act.put, List.setIfInBounds_toArray, List.set_cons_zero, List.set_cons_succ, List.getElem_toArray, List.getElem_cons_succ, List.getElem_cons_zero]
        refine wpAnyH_done (by kernel_rfl) ?_ _
        have B9 := Lib.hid (bT H3.out D7.out)
        clear D7 KX CT
        go_wp2
        go_ret
        exact ⟨by rw [B_no NQ.out]; rfl, B9.out⟩
    · have h1' : ¬ (k : Int) < (n : Int) := by omega
      have HY := Lib.hid (YE.out k (by omega) H1.out)
      clear TK CE NO ST
      go_wp2
      go_ret
      exact ⟨by rw [B_yes HY.out]; rfl, H3.out⟩

end Go.Proofs.Ytendehejodgljaa
namespace Go.Proofs.Ytendehejodgljaa
open Go.RowKit
set_option linter.unusedVariables false

theorem own_cap8 {w : World} {B : Nat} {e : TypeId} {m : Nat} {sl : Option Addr} {n cap : Nat} {k : Nat} {xs : List Value} (h : w.ownsRow B e m (.slice sl n cap) k xs) : k ≤ cap := by
  rcases h.2 with ⟨_, h0⟩ | ⟨g, cp, cur, hv, _, _, h5, _⟩
  · rw [h0]; exact Nat.zero_le _
  · cases hv; exact h5
/-- Numbers put behind numbers: both ways of it. -/
theorem appZ {w : World} {B : Nat} {v : Value} {zs : List Int} (h : w.ownsRow B 2 1 v zs.length (valsZ zs)) {s : Option Addr} {r : List Int} (k : Nat) (hi : Ints w s r) (hB : B ≤ w.heap.size) (hl : zs.length + r.length ≤ 10000000) :
    ∃ v9 w9, (∀ ty, (Builtin.append_ #[26, 26] ty #[v, .slice s r.length k]).run Try.prog w = .ok v9 w9) ∧ w9.ownsRow B 2 1 v9 (zs ++ r).length (valsZ (zs ++ r)) ∧ w.grownBy w9 v.ownBlock ∧ ∀ j, v9.ownBlock = some j → v.ownBlock = some j ∨ j = w.heap.size := by
  obtain ⟨i3, hi3, hd0, hd1, hd2⟩ := info_parts info2'
  obtain ⟨sl, cap, rfl⟩ := own_v h
  by_cases he : r = []
  · subst he
    exact ⟨_, w, fun ty => app_none40 w ty sl zs.length cap (own_cap8 h) s k, by rw [List.append_nil]; exact h, ⟨rfl, rfl, rfl, Nat.le_refl _, fun _ _ _ => rfl⟩, fun j hj => .inl hj⟩
  · rcases hi with hi | ⟨c, o, rfl, hi⟩
    · exact absurd hi he
    · obtain ⟨g, c9, w9, hr, own9, grow9, hg, -⟩ := run_append_lies (P := Try.prog) w 26 26 B 2 i3 (.int .i64 0) 1 8 Try.underlying26 hi3 hd0 hd1 hd2 rfl (by decide) _ _ _ h ⟨c, o, none⟩ r.length k (valsZ r) (valsZ_len1 r) (int_cells hi) (valsZ_one r) (List.length_pos_iff.2 he) (by unfold maxLen; omega) (by omega) hB w.heap.size rfl
      refine ⟨_, w9, fun ty => hr, by rw [List.length_append, valsZ_add]; exact own9, grow9, fun j hj => ?_⟩
      have e : j = g := by simp [Value.ownBlock] at hj; exact hj.symm
      rcases hg with hg | hg
      · exact .inl (by rw [hg, e])
      · exact .inr (by omega)

/-- A run under way: the Cnf, the answer's block, the run's own answer with its trail T, the values of U. -/
structure SR (w : World) (vars : Int) (sl : Option Addr) (n cap : Nat) (O vb V : Nat) (W : World) (T U : List Int) (v : Value) : Prop where
  cnf : CnfAt W w.heap.size vars sl n cap
  box : BoxU W (w.heap.size + 1)
  out : W.heap[O]? = some (.cells #[v, .int .i64 (-1), .int .i64 0] 30)
  own : W.ownsRow (w.heap.size + 2) 2 1 v T.length (valsZ T)
  vals : SVAt W vb V U
  bel : Below w.heap.size w W
  ne : v.ownBlock ≠ some vb
  hO : w.heap.size + 1 < O
  hV : w.heap.size + 1 < vb
  hOV : O ≠ vb
theorem SR.keep {w : World} {vars : Int} {sl : Option Addr} {n cap O vb V : Nat} {W W' : World} {T U : List Int} {v : Value} (h : SR w vars sl n cap O vb V W T U v) (hb : Below W.heap.size W W') : SR w vars sl n cap O vb V W' T U v :=
  ⟨h.cnf.below hb, h.box.below hb, (hb.block O (Array.getElem?_eq_some_iff.1 h.out).1).trans h.out, own_below h.own hb, h.vals.below hb, bT h.bel hb, h.ne, h.hO, h.hV, h.hOV⟩
theorem SR.facts {w : World} {vars : Int} {sl : Option Addr} {n cap O vb V : Nat} {W : World} {T U : List Int} {v : Value} (h : SR w vars sl n cap O vb V W T U v) : w.heap.size < W.heap.size ∧ W.cell? ⟨w.heap.size, 0, none⟩ = some (.int .i64 vars) ∧ W.cell? ⟨w.heap.size, 1, none⟩ = some (.slice sl n cap) ∧ vb < W.heap.size ∧ O < W.heap.size ∧ W.cell? ⟨O, 0, none⟩ = some v ∧ W.cell? ⟨O, 1, none⟩ = some (.int .i64 (-1)) ∧ W.cell? ⟨O, 2, none⟩ = some (.int .i64 0) ∧ (∀ k, W.frozen? ⟨O, k, none⟩ = false) ∧ (∀ k, W.frozen? ⟨vb, k, none⟩ = false) := by
  have ho := h.out
  exact ⟨h.cnf.lt, h.cnf.cells.1, h.cnf.cells.2, h.vals.lt, (Array.getElem?_eq_some_iff.1 ho).1, by simp [World.cell?, ho], by simp [World.cell?, ho], by simp [World.cell?, ho], fun k => by simp [World.frozen?, ho], h.vals.frozen⟩
/-- A literal more has its value. -/
theorem SR.put {w : World} {vars : Int} {sl : Option Addr} {n cap O vb V : Nat} {W : World} {T U : List Int} {v : Value} (h : SR w vars sl n cap O vb V W T U v) (z : Int) (i j : Nat) (hi : (i : Int) = z + V) (hj : (j : Int) = (V : Int) - z) (h1 : z ∉ U) (h2 : -z ∉ U) (h0 : z ≠ 0) :
    SR w vars sl n cap O vb V ((W.setCell ⟨vb, i, none⟩ (.int .i64 1)).setCell ⟨vb, j, none⟩ (.int .i64 (-1))) T (U ++ [z]) v := by
  have hk : ∀ k, k ≠ vb → ((W.setCell ⟨vb, i, none⟩ (.int .i64 1)).setCell ⟨vb, j, none⟩ (.int .i64 (-1))).heap[k]? = W.heap[k]? := fun k hk => (heap_setCell_other _ ⟨vb, j, none⟩ k _ hk).trans (heap_setCell_other _ ⟨vb, i, none⟩ k _ hk)
  have hV := h.hV
  exact ⟨(hk _ (by omega)).trans h.cnf, (hk _ (by omega)).trans h.box, (hk _ h.hOV).trans h.out, own_set (own_set h.own h.ne i _) h.ne j _, h.vals.put z i j hi hj h1 h2 h0, (h.bel.setCell (p := ⟨vb, i, none⟩) (by show w.heap.size ≤ vb; omega) _).setCell (p := ⟨vb, j, none⟩) (by show w.heap.size ≤ vb; omega) _, h.ne, h.hO, h.hV, h.hOV⟩
/-- The trail has one more. -/
theorem SR.more {w : World} {vars : Int} {sl : Option Addr} {n cap O vb V : Nat} {W w9 : World} {T U T' : List Int} {v v9 : Value} (h : SR w vars sl n cap O vb V W T U v) (hg : W.grownBy w9 v.ownBlock) (ho : w9.ownsRow (w.heap.size + 2) 2 1 v9 T'.length (valsZ T')) (hn : ∀ j, v9.ownBlock = some j → v.ownBlock = some j ∨ W.heap.size ≤ j) :
    SR w vars sl n cap O vb V (w9.setCell ⟨O, 0, none⟩ v9) T' U v9 := by
  have hOl := (Array.getElem?_eq_some_iff.1 h.out).1
  have nO : v.ownBlock ≠ some O := fun e => by
    obtain ⟨g, cp, cur, hv, hb, hg', _⟩ := (h.own.2.resolve_left (fun ⟨e2, _⟩ => by rw [e2] at e; simp [Value.ownBlock] at e))
    rw [hv] at e
    have : g = O := by simpa [Value.ownBlock] using e
    subst this
    rw [h.out] at hg'
    simp at hg'
  have hk : ∀ k, k < W.heap.size → some k ≠ v.ownBlock → k ≠ O → (w9.setCell ⟨O, 0, none⟩ v9).heap[k]? = W.heap[k]? := fun k h1 h2 h3 => (heap_setCell_other _ ⟨O, 0, none⟩ k _ h3).trans (hg.block k h1 h2)
  have hlo : ∀ j, v.ownBlock = some j → w.heap.size + 2 ≤ j := fun j hj => (h.own.lt j hj).1
  have hO := h.hO
  have nO9 : v9.ownBlock ≠ some O := fun e => by
    rcases hn O e with e | e
    · exact nO e
    · omega
  refine ⟨(hk _ h.cnf.lt (fun e => by have := hlo _ e.symm; omega) (by omega)).trans h.cnf, (hk _ h.box.facts.1 (fun e => by have := hlo _ e.symm; omega) (by omega)).trans h.box, ?_, own_set ho nO9 0 v9, (hk vb h.vals.lt (fun e => h.ne e.symm) (fun e => h.hOV e.symm)).trans h.vals, (h.bel.grown hg h.bel.size (fun k hk => by have := hlo k hk; omega)).setCell (p := ⟨O, 0, none⟩) (by show w.heap.size ≤ O; omega) _, fun e => ?_, h.hO, h.hV, h.hOV⟩
  · exact heap_setCell_same w9 O 0 _ 30 v9 ((hg.block O hOl (fun e => nO e.symm)).trans h.out)
  · rcases hn vb e with e | e
    · exact h.ne e
    · have := h.vals.lt; omega

/-- The values of no literal. -/
theorem sArr_nil (V : Nat) : mk64 (2 * V + 1) = sArr V [] := by
  have := mk64_eq (List.replicate (2 * V + 1) 0)
  rw [List.length_replicate] at this
  rw [this]
  apply Array.ext
  · simp [vsOf, sArr]
  · intro i h1 h2
    have h3 : i < 2 * V + 1 := by simpa [sArr] using h2
    simp [vsOf, sArr, val_no]

/-- An empty row just made. -/
theorem own_none8 (w : World) : (w.alloc (.cells #[] 2)).ownsRow w.heap.size 2 1 (.slice (some ⟨w.heap.size, 0, none⟩) 0 0) 0 [] :=
  ⟨rfl, .inr ⟨w.heap.size, 0, #[], rfl, Nat.le_refl _, by show (w.heap.push _)[w.heap.size]? = _; simp, Nat.le_refl _, Nat.zero_le _, rfl, rfl⟩⟩
/-- A run begins. -/
theorem SR.new {w w9 : World} {vars : Int} {sl : Option Addr} {n cap V : Nat} {ts : List Int} {v9 : Value} (hc : CnfAt w9 w.heap.size vars sl n cap) (hx : BoxU w9 (w.heap.size + 1)) (ho : w9.ownsRow (w.heap.size + 2) 2 1 v9 ts.length (valsZ ts)) (hb : Below w.heap.size w w9) (hs : w.heap.size + 3 ≤ w9.heap.size) :
    SR w vars sl n cap w9.heap.size (w9.heap.size + 1) V ((w9.alloc (.cells #[v9, .int .i64 (-1), .int .i64 0] 30)).alloc (.cells (mk64 (2 * V + 1)) 2)) ts [] v9 := by
  have b1 := bA0 w9 (.cells #[v9, .int .i64 (-1), .int .i64 0] 30)
  have b2 := bA0 (w9.alloc (.cells #[v9, .int .i64 (-1), .int .i64 0] 30)) (.cells (mk64 (2 * V + 1)) 2)
  have h1 := new_at w9 (.cells #[v9, .int .i64 (-1), .int .i64 0] 30)
  have h2 := new_at (w9.alloc (.cells #[v9, .int .i64 (-1), .int .i64 0] 30)) (.cells (mk64 (2 * V + 1)) 2)
  have e1 : (w9.alloc (.cells #[v9, .int .i64 (-1), .int .i64 0] 30)).heap.size = w9.heap.size + 1 := by simp
  rw [e1, sArr_nil] at h2
  refine ⟨(hc.below b1).below b2, (hx.below b1).below b2, (b2.block _ (by omega)).trans h1, own_below (own_below ho b1) b2, ?_, bA (bA hb _) _, fun e => ?_, by omega, by omega, by omega⟩
  · rw [sArr_nil]; exact h2
  · have := (ho.lt _ e).2; omega

end Go.Proofs.Ytendehejodgljaa
