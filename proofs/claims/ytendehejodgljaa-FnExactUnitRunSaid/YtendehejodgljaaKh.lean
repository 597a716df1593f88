/-
  WHAT FOLLOWS AT ONCE: impl.UnitRun.
-/
import Derived.Test.YtendehejodgljaaKg
namespace Go.Proofs.Ytendehejodgljaa
open Go.RowKit
set_option linter.unusedVariables false

theorem own_set {w : World} {B : Nat} {e : TypeId} {m : Nat} {v : Value} {n : Nat} {xs : List Value} (h : w.ownsRow B e m v n xs) {b : Nat} (hb : v.ownBlock ≠ some b) (i : Nat) (u : Value) : (w.setCell ⟨b, i, none⟩ u).ownsRow B e m v n xs := by
  refine ⟨h.1, ?_⟩
  rcases h.2 with h | ⟨g, cap, cur, hv, hg, hh, r⟩
  · exact .inl h
  · refine .inr ⟨g, cap, cur, hv, hg, (Below.heap_setCell _ _ _ _ ?_).trans hh, r⟩
    subst hv
    intro e
    exact hb (by simp [Value.ownBlock, e])

/-- The answer's own block, as it is laid. -/
def BoxU (w : World) (b : Nat) : Prop := w.heap[b]? = some (.cells #[.slice none 0 0, .int .i64 0, .int .i64 0] 30)
theorem BoxU.facts {w : World} {b : Nat} (h : BoxU w b) : b < w.heap.size ∧ w.cell? ⟨b, 0, none⟩ = some (.slice none 0 0) ∧ w.cell? ⟨b, 1, none⟩ = some (.int .i64 0) ∧ w.cell? ⟨b, 2, none⟩ = some (.int .i64 0) ∧ w.frozen? ⟨b, 0, none⟩ = false ∧ w.frozen? ⟨b, 1, none⟩ = false ∧ w.frozen? ⟨b, 2, none⟩ = false := by
  unfold BoxU at h
  exact ⟨(Array.getElem?_eq_some_iff.1 h).1, by simp [World.cell?, h], by simp [World.cell?, h], by simp [World.cell?, h], by simp [World.frozen?, h], by simp [World.frozen?, h], by simp [World.frozen?, h]⟩
theorem BoxU.below {w w' : World} {b : Nat} (h : BoxU w b) (hb : Below w.heap.size w w') : BoxU w' b := (hb.block b h.facts.1).trans h
def set3 (w : World) (b : Nat) (v0 v1 v2 : Value) : World := ((w.setCell ⟨b, 0, none⟩ v0).setCell ⟨b, 1, none⟩ v1).setCell ⟨b, 2, none⟩ v2
theorem set3_below {W w : World} {n b : Nat} (h : Below n W w) (hb : n ≤ b) (v0 v1 v2 : Value) : Below n W (set3 w b v0 v1 v2) :=
  ((h.setCell (p := ⟨b, 0, none⟩) hb v0).setCell (p := ⟨b, 1, none⟩) hb v1).setCell (p := ⟨b, 2, none⟩) hb v2
theorem own_set3 {w : World} {B : Nat} {e : TypeId} {m : Nat} {v : Value} {n : Nat} {xs : List Value} (h : w.ownsRow B e m v n xs) {b : Nat} (hb : v.ownBlock ≠ some b) (v0 v1 v2 : Value) : (set3 w b v0 v1 v2).ownsRow B e m v n xs :=
  own_set (own_set (own_set h hb 0 v0) hb 1 v1) hb 2 v2

/-- Is it run at all? -/
def UBig (dss : List (List Int)) (ts : List Int) : Prop := 400 < dss.length ∨ 400 < ts.length
def UOk (vars : Int) (css dss : List (List Int)) (ts : List Int) : Prop := CnfR vars css ∧ MoR vars dss ∧ SpTo vars ts ts.length
noncomputable def uRun (css dss : List (List Int)) (ts : List Int) : List Int × Int := resF (css ++ dss) (97 - ts.length) ts
noncomputable def uAll (vars : Int) (css dss : List (List Int)) (ts : List Int) : List Int × Int × Int :=
  if B (UBig dss ts) = true then ([], 0, 2) else if B (UOk vars css dss ts) = true then ((uRun css dss ts).1, (uRun css dss ts).2, 0) else ([], 0, 1)
theorem uAll_big {vars : Int} {css dss : List (List Int)} {ts : List Int} (h : UBig dss ts) : uAll vars css dss ts = ([], 0, 2) := by unfold uAll; rw [B_yes h]; rfl
theorem uAll_no {vars : Int} {css dss : List (List Int)} {ts : List Int} (h : ¬ UBig dss ts) (h2 : ¬ UOk vars css dss ts) : uAll vars css dss ts = ([], 0, 1) := by unfold uAll; rw [B_no h, B_no h2]; rfl
theorem uAll_yes {vars : Int} {css dss : List (List Int)} {ts : List Int} (h : ¬ UBig dss ts) (h2 : UOk vars css dss ts) : uAll vars css dss ts = ((uRun css dss ts).1, (uRun css dss ts).2, 0) := by unfold uAll; rw [B_no h, B_yes h2]; rfl
abbrev UV (v : Value) (f c : Int) : Value := .agg #[v, .int .i64 f, .int .i64 c]
/-- What an answer is. -/
def UPost (w : World) (R : List Int × Int × Int) (e : Ending) (w' : World) : Prop := ∃ v, e = .returned (UV v R.2.1 R.2.2) ∧ w'.ownsRow w.heap.size 2 1 v R.1.length (valsZ R.1) ∧ Below w.heap.size w w'

/-- Clauses of a right Cnf have literals of its variables. -/
theorem cnfR_lits {vars : Int} {css : List (List Int)} (h : CnfR vars css) (hw : ∀ l ∈ css, ∀ z ∈ l, wfI z) : ∀ l ∈ css, ∀ z ∈ l, OkZ vars z := by
  intro l hl z hz
  obtain ⟨i, hi, rfl⟩ := List.getElem_of_mem hl
  have g := h.2.2 i hi
  have e : css.getD i [] = css[i] := by simp [hi]
  rw [e] at g
  exact (lv_in h.1.1 h.1.2 (hw _ hl z hz)).1 (g.2.1 z hz)
theorem moR_lits {vars : Int} {dss : List (List Int)} (h : MoR vars dss) : ∀ l ∈ dss, ∀ z ∈ l, OkZ vars z := by
  intro l hl z hz
  obtain ⟨i, hi, rfl⟩ := List.getElem_of_mem hz
  have := ((h l hl) i hi).1
  simpa [hi] using this

theorem resF_len (css : List (List Int)) : ∀ (n : Nat) (tr : List Int), (resF css n tr).1.length ≤ tr.length + n
  | 0, tr => Nat.le_refl _
  | n + 1, tr => by
    unfold resF
    split
    · exact Nat.le_add_right _ _
    · have := resF_len css n (tr ++ [(dueL tr 0 css).2])
      rw [List.length_append, List.length_singleton] at this
      omega
/-- Old rows stay where old blocks do. -/
theorem Ints.kept {w W : World} {sl : Option Addr} {zs : List Int} (h : Ints w sl zs) (hs : w.heap.size ≤ W.heap.size) (hk : ∀ k, k < w.heap.size → W.heap[k]? = w.heap[k]?) : Ints W sl zs := by
  rcases h with h | ⟨c, o, e, hl, hc⟩
  · exact .inl h
  · exact .inr ⟨c, o, e, by omega, fun i hi => (World.cell?_of_block (hk c hl)).trans (hc i hi)⟩
theorem ClIn.kept {w W : World} {r : LCl} (h : ClIn w r) (hs : w.heap.size ≤ W.heap.size) (hk : ∀ k, k < w.heap.size → W.heap[k]? = w.heap[k]?) : ClIn W r := by
  obtain ⟨sl, cap, e, hi, hl⟩ := h
  exact ⟨sl, cap, e, hi.kept hs hk, hl⟩
theorem cls_own {w : World} {B : Nat} {e : TypeId} {sl : Option Addr} {cap : Nat} {ls : List LCl} (h : w.ownsRow B e 1 (.slice sl ls.length cap) ls.length (hdC ls)) (he : ∀ r ∈ ls, ClIn w r) : Cls w sl ls := by
  refine ⟨?_, he⟩
  rcases h.2 with ⟨_, h0⟩ | ⟨g, cp, cur, hv, hb, hg, _⟩
  · exact .inl (List.eq_nil_of_length_eq_zero h0)
  · cases hv
    refine .inr ⟨g, 0, rfl, (Array.getElem?_eq_some_iff.1 hg).1, fun i hi => ?_⟩
    rw [Nat.zero_add, h.cellAt i (by omega)]
    simp [hdC, hi]
theorem own_kept {w W : World} {B : Nat} {e : TypeId} {m : Nat} {v : Value} {n : Nat} {xs : List Value} (h : w.ownsRow B e m v n xs) (hk : ∀ k, B ≤ k → k < w.heap.size → W.heap[k]? = w.heap[k]?) : W.ownsRow B e m v n xs := by
  refine ⟨h.1, ?_⟩
  rcases h.2 with h | ⟨g, cap, cur, hv, hg, hh, r⟩
  · exact .inl h
  · exact .inr ⟨g, cap, cur, hv, hg, (hk g hg (Array.getElem?_eq_some_iff.1 hh).1).trans hh, r⟩

set_option maxRecDepth 100000 in
set_option maxHeartbeats 4000000 in
/-- impl.UnitRun. -/
theorem iur_any (vars : Int) (sl : Option Addr) (cap : Nat) (cs : List LCl) (sl2 : Option Addr) (cap2 : Nat) (ds : List LCl) (sl3 : Option Addr) (cap3 : Nat) (ts : List Int) (w : World) (hn : cs.length ≤ maxLen) (hnd : ds.length ≤ maxLen) (hm : ts.length ≤ maxLen) (hwf : WfC cs) (hz : Cls w sl cs) (hd : Cls w sl2 ds) (ht : Ints w sl3 ts) :
    Calls Try.prog 9 #[CV vars sl cs.length cap, .slice sl2 ds.length cap2, .slice sl3 ts.length cap3] w (UPost w (uAll vars (bareC cs) (bareC ds) ts)) := by
  have hln := hn
  have hld := hnd
  have hlt := hm
  unfold maxLen at hln hld hlt
  by_cases big : UBig (bareC ds) ts
  · rw [uAll_big big]
    have hb : 400 < ds.length ∨ ((¬ 400 < ds.length) ∧ 400 < ts.length) := by
      unfold UBig at big
      rw [bareC_length] at big
      by_cases h : 400 < ds.length
      · exact .inl h
      · exact .inr ⟨h, by rcases big with g | g; exact absurd g h; exact g⟩
    unfold UPost
    clear hz hd ht big hn hnd hm
    generalize cs.length = n at *
    generalize ds.length = m at *
    generalize ts.length = q at *
    rcases hb with h | ⟨h, h2⟩
    · have h' : (400 : Int) < (m : Int) := by omega
      go_enter Try.func9, Try.ntmps9
      go_wp2
      refine bodyPost_ret (v := UV (.slice none 0 0) 0 2) (by simp [results, Try.results9, go_sem]) rfl ⟨_, rfl, ⟨rfl, .inl ⟨rfl, rfl⟩⟩, bA (bA0 _ _) _⟩
    · have h' : ¬ (400 : Int) < (m : Int) := by omega
      have h2' : (400 : Int) < (q : Int) := by omega
      go_enter Try.func9, Try.ntmps9
      go_wp2
      refine bodyPost_ret (v := UV (.slice none 0 0) 0 2) (by simp [results, Try.results9, go_sem]) rfl ⟨_, rfl, ⟨rfl, .inl ⟨rfl, rfl⟩⟩, bA (bA0 _ _) _⟩
  have hd4 : ds.length ≤ 400 := by unfold UBig at big; rw [bareC_length] at big; omega
  have ht4 : ts.length ≤ 400 := by unfold UBig at big; omega
  have hd4' : ¬ (400 : Int) < (ds.length : Int) := by omega
  have ht4' : ¬ (400 : Int) < (ts.length : Int) := by omega
  have CA := Lib.hid (((CnfAt.new w vars sl cs.length cap).below (bA0 _ (.cells #[.slice none 0 0, .int .i64 0, .int .i64 0] 30))).below (bA0 _ (.cells Try.zeroCells59 59)))
  have B0 := Lib.hid (bA (bA0 w (.cells #[.int .i64 vars, .slice sl cs.length cap] 25)) (.cells #[.slice none 0 0, .int .i64 0, .int .i64 0] 30))
  have hw1 : (w.alloc (.cells #[.int .i64 vars, .slice sl cs.length cap] 25)).heap.size = w.heap.size + 1 := by simp
  have hw2 : ((w.alloc (.cells #[.int .i64 vars, .slice sl cs.length cap] 25)).alloc (.cells #[.slice none 0 0, .int .i64 0, .int .i64 0] 30)).heap.size = w.heap.size + 1 + 1 := by simp
  have X0 : Hid (BoxU (((w.alloc (.cells #[.int .i64 vars, .slice sl cs.length cap] 25)).alloc (.cells #[.slice none 0 0, .int .i64 0, .int .i64 0] 30)).alloc (.cells Try.zeroCells59 59)) (w.heap.size + 1)) := by
    have h1 := new_at (w.alloc (.cells #[.int .i64 vars, .slice sl cs.length cap] 25)) (.cells #[.slice none 0 0, .int .i64 0, .int .i64 0] 30)
    rw [hw1] at h1
    exact BoxU.below (w := (w.alloc (.cells #[.int .i64 vars, .slice sl cs.length cap] 25)).alloc (.cells #[.slice none 0 0, .int .i64 0, .int .i64 0] 30)) h1 (bA0 _ _)
  have PS := put_same ((w.alloc (.cells #[.int .i64 vars, .slice sl cs.length cap] 25)).alloc (.cells #[.slice none 0 0, .int .i64 0, .int .i64 0] 30)) rfl _ rfl
  rw [hw2] at PS
  have VA : Hid (VAt (((w.alloc (.cells #[.int .i64 vars, .slice sl cs.length cap] 25)).alloc (.cells #[.slice none 0 0, .int .i64 0, .int .i64 0] 30)).alloc (.cells Try.zeroCells59 59)) (w.heap.size + 1 + 1) []) := by
    have := new_at ((w.alloc (.cells #[.int .i64 vars, .slice sl cs.length cap] 25)).alloc (.cells #[.slice none 0 0, .int .i64 0, .int .i64 0] 30)) (.cells Try.zeroCells59 59)
    rw [hw2] at this
    show _ = _
    rw [this, vArr_nil]
  have B1 := Lib.hid (bA B0.out (.cells Try.zeroCells59 59))
  have E1 := Lib.hid (icr_any vars sl cap cs _ hn (hz.below B1.out))
  have FIN : Hid (∀ W, BoxU W (w.heap.size + 1) → Below w.heap.size w W → Below w.heap.size w (set3 W (w.heap.size + 1) (.slice none 0 0) (.int .i64 0) (.int .i64 1))) := fun W _ h => set3_below h (by omega) _ _ _
  clear B0
  by_cases c2 : CnfR vars (bareC cs)
  · have E2 : Hid (∀ W, Below w.heap.size w W → Calls Try.prog 38 #[.slice sl2 ds.length cap2, .int .i64 vars] W fun e w' => e = .returned (.bool (B (MoR vars (bareC ds)))) ∧ Below W.heap.size W w') := fun W hW => lr_any vars sl2 cap2 ds W c2.1.1 c2.1.2 (by omega) (hd.below hW)
    have E3 : Hid (∀ W, Below w.heap.size w W → VAt W (w.heap.size + 1 + 1) [] → Calls Try.prog 39 #[.pointer (some ⟨w.heap.size + 1 + 1, 0, none⟩), .slice sl3 ts.length cap3, .int .i64 vars] W fun e w' => e = .returned (.bool (B (SpTo vars ts ts.length))) ∧ (SpTo vars ts ts.length → VAt w' (w.heap.size + 1 + 1) ts) ∧ Below (w.heap.size + 1 + 1) W w' ∧ w'.heap.size = W.heap.size) := fun W hW hv => by
      refine take_any (w.heap.size + 1 + 1) vars sl3 cap3 ts W hv.blk c2.1.1 c2.1.2 hm ?_
      rcases ht with e | ⟨c, o, e, hi⟩
      · exact .inl e
      · exact .inr ⟨c, o, e, hi.below hW, by have := hi.1; omega⟩
    rw [B_yes c2] at E1
    by_cases c3 : MoR vars (bareC ds)
    · rw [B_yes c3] at E2
      by_cases c4 : SpTo vars ts ts.length
      · rw [uAll_yes big ⟨c2, c3, c4⟩]
        rw [B_yes c4] at E3
        have V4 := Lib.hid c4
        have E4 : Hid (∀ W, Below w.heap.size w W → Calls Try.prog 41 #[CV vars sl cs.length cap, .slice sl2 ds.length cap2] W fun e w' => ∃ v, e = .returned v ∧ w'.ownsRow W.heap.size 108 1 v (cs ++ ds).length (hdC (cs ++ ds)) ∧ Below W.heap.size W w') := fun W hW => cw_any vars sl cap cs sl2 cap2 ds W (by have := c2.2.1; rw [bareC_length] at this; omega) (by omega) (hz.below hW) (hd.below hW)
        have E5 : Hid (∀ W B s k, w.heap.size + 1 + 1 < B → B ≤ W.heap.size → VAt W (w.heap.size + 1 + 1) ts → Below w.heap.size w W → W.ownsRow B 108 1 (.slice s (cs ++ ds).length k) (cs ++ ds).length (hdC (cs ++ ds)) → Calls Try.prog 40 #[.pointer (some ⟨w.heap.size + 1 + 1, 0, none⟩), .slice s (cs ++ ds).length k] W fun e w' => ∃ v fl, e = .returned (.tuple #[v, .int .i64 (uRun (bareC cs) (bareC ds) ts).2]) ∧ ts ++ fl = (uRun (bareC cs) (bareC ds) ts).1 ∧ w'.ownsRow W.heap.size 2 1 v fl.length (valsZ fl) ∧ Below (w.heap.size + 1 + 1) W w') := fun W B s k hB hBW hv hW ho => by
          have hEach : ∀ V, w.heap.size ≤ V.heap.size → (∀ k, k < w.heap.size → V.heap[k]? = w.heap[k]?) → ∀ r ∈ cs ++ ds, ClIn V r := fun V h1 h2 r hr => by
            rcases List.mem_append.1 hr with hr | hr
            · exact (hz.each r hr).kept h1 h2
            · exact (hd.each r hr).kept h1 h2
          have := fol_any (w.heap.size + 1 + 1) vars ts s k (cs ++ ds) W hv c2.1.2 c4 (by have := c2.2.1; rw [bareC_length] at this; simp; omega) (fun r hr z hz' => by
            rcases List.mem_append.1 hr with hr | hr
            · exact cnfR_lits c2 (fun l hl => by obtain ⟨r', hr', rfl⟩ := List.mem_map.1 hl; exact hwf r' hr') r.2 (List.mem_map.2 ⟨r, hr, rfl⟩) z hz'
            · exact moR_lits c3 r.2 (List.mem_map.2 ⟨r, hr, rfl⟩) z hz') (fun V hV => by
            have hsz : w.heap.size ≤ V.heap.size := Nat.le_trans hW.size hV.1
            refine cls_own (own_kept ho (fun k h1 h2 => hV.2 k h2 (by omega))) (hEach V hsz (fun k hk => ?_))
            rw [hV.2 k (by have := hW.size; omega) (by omega)]
            exact hW.block k hk)
          rw [bareC_add] at this
          exact this
        have E6 : Hid (∀ W v fl, Below w.heap.size w W → W.ownsRow (w.heap.size + 1 + 1) 2 1 v fl.length (valsZ fl) → ts ++ fl = (uRun (bareC cs) (bareC ds) ts).1 → Calls Try.prog 42 #[.slice (some ⟨W.heap.size, 0, none⟩) 2 2] (W.alloc (.cells #[.slice sl3 ts.length cap3, v] 26)) fun e w' => ∃ v', e = .returned v' ∧ w'.ownsRow (W.heap.size + 1) 2 1 v' (uRun (bareC cs) (bareC ds) ts).1.length (valsZ (uRun (bareC cs) (bareC ds) ts).1) ∧ Below (W.heap.size + 1) (W.alloc (.cells #[.slice sl3 ts.length cap3, v] 26)) w') := fun W v fl hW ho he => by
          have hsz : (W.alloc (.cells #[.slice sl3 ts.length cap3, v] 26)).heap.size = W.heap.size + 1 := by simp
          obtain ⟨q0, q1⟩ := two_row W (.slice sl3 ts.length cap3) v 26
          have hfl : ts.length + fl.length ≤ 1000 := by
            have h1 := congrArg List.length he
            rw [List.length_append] at h1
            have h2 := resF_len (bareC cs ++ bareC ds) (97 - ts.length) ts
            unfold uRun at h1
            omega
          have hcl : Cls (W.alloc (.cells #[.slice sl3 ts.length cap3, v] 26)) (some ⟨W.heap.size, 0, none⟩) [(.slice sl3 ts.length cap3, ts), (v, fl)] := by
            refine ⟨.inr ⟨W.heap.size, 0, rfl, by omega, fun i hi => ?_⟩, fun r hr => ?_⟩
            · match i, hi with
              | 0, _ => exact q0
              | 1, _ => exact q1
            · rcases List.mem_cons.1 hr with rfl | hr
              · exact ⟨sl3, cap3, rfl, ht.below (bA hW _), hm⟩
              · rw [List.mem_singleton.1 hr]
                obtain ⟨s, k, e, i⟩ := own_ints ho
                exact ⟨s, k, e, i.below (bA0 _ _), by unfold maxLen; show fl.length ≤ _; omega⟩
          have := catZ_any (some ⟨W.heap.size, 0, none⟩) 2 [(.slice sl3 ts.length cap3, ts), (v, fl)] _ (by simp) (by simp [flatC]; omega) hcl
          rw [hsz, show flatC [(.slice sl3 ts.length cap3, ts), (v, fl)] = ts ++ fl by simp [flatC], he] at this
          exact this
        unfold UPost
        clear hz hd ht hn hnd hm c2 c3 c4 big FIN hwf
        generalize uRun (bareC cs) (bareC ds) ts = R at *
        generalize hL : (cs ++ ds).length = L at *
        clear hL
        generalize hdC (cs ++ ds) = hds at *
        generalize cs.length = n at *
        generalize ds.length = m at *
        generalize ts.length = q at *
        generalize hRL : R.1.length = rl9 at *
        clear hRL
        go_enter Try.func9, Try.ntmps9
        go_wp2_with fail
        refine E1.out.mono ?_
        rintro e w1 ⟨rfl, b1⟩
        have D1 := Lib.hid (bT B1.out b1)
        have V1 := Lib.hid (VA.out.below b1)
        have X1 := Lib.hid (X0.out.below b1)
        have C1 := Lib.hid (CA.out.below b1)
        obtain ⟨t0, t1⟩ := C1.out.cells
        have tl := C1.out.lt
        clear b1 E1 VA X0 CA B1
        go_wp2_with fail
        refine (E2.out _ D1.out).mono ?_
        rintro e w2 ⟨rfl, b2⟩
        have D2 := Lib.hid (bT D1.out b2)
        have V2 := Lib.hid (V1.out.below b2)
        have X2 := Lib.hid (X1.out.below b2)
        have C2 := Lib.hid (C1.out.below b2)
        clear b2 V1 X1 C1 D1 t0 t1 tl E2
        obtain ⟨t0, t1⟩ := C2.out.cells
        have tl := C2.out.lt
        go_wp2_with fail
        refine (E3.out _ D2.out V2.out).mono ?_
        rintro e w3 ⟨rfl, va3, b3, sz3⟩
        have hv2 := V2.out.lt
        have D3 := Lib.hid (D2.out.trans (b3.mono (by omega)))
        have V3 := Lib.hid (va3 V4.out)
        have X3 : Hid (BoxU w3 (w.heap.size + 1)) := (b3.block _ (by omega)).trans X2.out
        have C3 : Hid (CnfAt w3 w.heap.size vars sl n cap) := (b3.block _ (by omega)).trans C2.out
        clear b3 va3 V2 X2 C2 D2 t0 t1 tl E3 sz3 hv2
        obtain ⟨t0, t1⟩ := C3.out.cells
        have tl := C3.out.lt
        go_wp2_with fail
        refine (E4.out _ D3.out).mono ?_
        rintro e w4 ⟨v4, rfl, o4, b4⟩
        obtain ⟨s4, k4, rfl⟩ := own_v o4
        have D4 := Lib.hid (bT D3.out b4)
        have V4b := Lib.hid (V3.out.below b4)
        have X4 := Lib.hid (X3.out.below b4)
        have CC := Lib.hid (E5.out w4 w3.heap.size s4 k4 V3.out.lt b4.size V4b.out D4.out o4)
        clear b4 o4 V3 X3 C3 D3 t0 t1 tl E4 E5
        go_wp2_with fail
        refine CC.out.mono ?_
        rintro e w5 ⟨v5, fl, rfl, he5, o5, b5⟩
        have hv4 := V4b.out.lt
        have D5 := Lib.hid (D4.out.trans (b5.mono (by omega)))
        have X5 : Hid (BoxU w5 (w.heap.size + 1)) := (b5.block _ (by omega)).trans X4.out
        have O5 := Lib.hid (own_mono o5 (show w.heap.size + 1 + 1 ≤ w4.heap.size by omega))
        obtain ⟨s5, k5, rfl⟩ := own_v o5
        have CT := Lib.hid (E6.out w5 _ fl D5.out O5.out he5)
        clear b5 o5 V4b X4 D4 CC E6 hv4 O5 he5
        generalize fl.length = fn at *
        go_wp2_with fail
        refine CT.out.mono ?_
        rintro e w6 ⟨v6, rfl, o6, b6⟩
        have hs5 := D5.out.size
        have D6 := Lib.hid ((bA D5.out (.cells #[.slice sl3 q cap3, .slice s5 fn k5] 26)).trans (b6.mono (by omega)))
        obtain ⟨rl, r0, r1, r2, f0, f1, f2⟩ := BoxU.facts (show BoxU w6 (w.heap.size + 1) from (b6.block _ (by have := X5.out.facts.1; omega)).trans (X5.out.below (bA0 _ _)))
        obtain ⟨s6, k6, rfl⟩ := own_v o6
        have PB := Lib.hid (set3_below D6.out (show w.heap.size ≤ w.heap.size + 1 by omega) (.slice s6 rl9 k6) (.int .i64 R.2) (.int .i64 0))
        have PO := Lib.hid (own_mono (own_set3 o6 (b := w.heap.size + 1) (fun e => by have := (o6.lt _ e).1; have := X5.out.facts.1; omega) (.slice s6 rl9 k6) (.int .i64 R.2) (.int .i64 0)) (show w.heap.size ≤ w5.heap.size + 1 by omega))
        unfold set3 at PB PO
        clear b6 o6 D6 X5 D5 CT
        go_wp2
        refine bodyPost_ret (v := UV (.slice s6 rl9 k6) R.2 0) (by simp [results, Try.results9, go_sem, r0, r1, r2]) rfl ⟨_, rfl, PO.out, PB.out⟩
      · rw [uAll_no big (fun g => c4 g.2.2)]
        rw [B_no c4] at E3
        unfold UPost
        clear hz hd ht hn hnd hm c2 c3 c4 big hwf
        generalize cs.length = n at *
        generalize ds.length = m at *
        generalize ts.length = q at *
        go_enter Try.func9, Try.ntmps9
        go_wp2_with fail
        refine E1.out.mono ?_
        rintro e w1 ⟨rfl, b1⟩
        have D1 := Lib.hid (bT B1.out b1)
        have V1 := Lib.hid (VA.out.below b1)
        have X1 := Lib.hid (X0.out.below b1)
        have C1 := Lib.hid (CA.out.below b1)
        obtain ⟨t0, t1⟩ := C1.out.cells
        have tl := C1.out.lt
        clear b1 E1 VA X0 CA B1
        go_wp2_with fail
        refine (E2.out _ D1.out).mono ?_
        rintro e w2 ⟨rfl, b2⟩
        have D2 := Lib.hid (bT D1.out b2)
        have V2 := Lib.hid (V1.out.below b2)
        have X2 := Lib.hid (X1.out.below b2)
        have C2 := Lib.hid (C1.out.below b2)
        clear b2 V1 X1 C1 D1 t0 t1 tl E2
        obtain ⟨t0, t1⟩ := C2.out.cells
        have tl := C2.out.lt
        go_wp2_with fail
        refine (E3.out _ D2.out V2.out).mono ?_
        rintro e w3 ⟨rfl, -, b3, -⟩
        have D3 := D2.out.trans (b3.mono (show w.heap.size ≤ w.heap.size + 1 + 1 by omega))
        have X3 : BoxU w3 (w.heap.size + 1) := (b3.block _ (by omega)).trans X2.out
        obtain ⟨rl, r0, r1, r2, f0, f1, f2⟩ := X3.facts
        have P := Lib.hid (FIN.out w3 X3 D3)
        unfold set3 at P
        clear b3 V2 X2 C2 D2 t0 t1 tl E3 D3 X3
        go_wp2
        refine bodyPost_ret (v := UV (.slice none 0 0) 0 1) (by simp [results, Try.results9, go_sem, r0, r1, r2]) rfl ⟨_, rfl, ⟨rfl, .inl ⟨rfl, rfl⟩⟩, P.out⟩
    · rw [uAll_no big (fun g => c3 g.2.1)]
      rw [B_no c3] at E2
      unfold UPost
      clear hz hd ht hn hnd hm c2 c3 VA big hwf E3
      generalize cs.length = n at *
      generalize ds.length = m at *
      generalize ts.length = q at *
      go_enter Try.func9, Try.ntmps9
      go_wp2_with fail
      refine E1.out.mono ?_
      rintro e w1 ⟨rfl, b1⟩
      have D1 := Lib.hid (bT B1.out b1)
      have X1 := Lib.hid (X0.out.below b1)
      have C1 := Lib.hid (CA.out.below b1)
      obtain ⟨t0, t1⟩ := C1.out.cells
      have tl := C1.out.lt
      clear b1 E1 X0 CA B1
      go_wp2_with fail
      refine (E2.out _ D1.out).mono ?_
      rintro e w2 ⟨rfl, b2⟩
      obtain ⟨rl, r0, r1, r2, f0, f1, f2⟩ := (X1.out.below b2).facts
      have P := Lib.hid (FIN.out w2 (X1.out.below b2) (bT D1.out b2))
      unfold set3 at P
      clear b2 X1 C1 D1 t0 t1 tl E2
      go_wp2
      refine bodyPost_ret (v := UV (.slice none 0 0) 0 1) (by simp [results, Try.results9, go_sem, r0, r1, r2]) rfl ⟨_, rfl, ⟨rfl, .inl ⟨rfl, rfl⟩⟩, P.out⟩
  · rw [uAll_no big (fun g => c2 g.1)]
    rw [B_no c2] at E1
    unfold UPost
    clear hz hd ht hn hnd hm c2 CA VA big
    generalize cs.length = n at *
    generalize ds.length = m at *
    generalize ts.length = q at *
    go_enter Try.func9, Try.ntmps9
    go_wp2_with fail
    refine E1.out.mono ?_
    rintro e w1 ⟨rfl, b1⟩
    obtain ⟨rl, r0, r1, r2, f0, f1, f2⟩ := (X0.out.below b1).facts
    have P := Lib.hid (FIN.out w1 (X0.out.below b1) (bT B1.out b1))
    unfold set3 at P
    clear b1 E1 X0
    go_wp2
    refine bodyPost_ret (v := UV (.slice none 0 0) 0 1) (by simp [results, Try.results9, go_sem, r0, r1, r2]) rfl ⟨_, rfl, ⟨rfl, .inl ⟨rfl, rfl⟩⟩, P.out⟩

end Go.Proofs.Ytendehejodgljaa
