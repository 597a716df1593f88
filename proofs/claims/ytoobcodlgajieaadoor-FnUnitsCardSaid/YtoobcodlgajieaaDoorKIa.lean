/-
  WHAT FOLLOWS AT ONCE: impl.listsRight, impl.UnitRun.
-/
import Derived.Test.YtoobcodlgajieaaDoorKUac
import Derived.Test.YtoobcodlgajieaaDoorPw
namespace Go.Proofs.YtoobcodlgajieaaDoor
open Go.RowKit
set_option linter.unusedVariables false

theorem vL_nil : vL [] = List.replicate 97 (.int .i64 0) := by
  apply List.ext_getElem?
  intro k
  by_cases hk : k < 97
  · rw [vL_at [] k hk, val_no (by simp) (by simp), List.getElem?_replicate, if_pos hk]
  · rw [List.getElem?_eq_none (by rw [vL_len]; omega), List.getElem?_eq_none (by rw [List.length_replicate]; omega)]
theorem zero68 : Tryd.zeroCells68 = (List.replicate 97 (Value.int .i64 0)).toArray := by kernel_rfl
/-- New values. -/
theorem vnew (w : World) : VAt 0 68 [] (w.alloc (.cells Tryd.zeroCells68 68)) w.heap.size [] := by
  refine ⟨rfl, ?_⟩
  rw [new_at, zero68, List.nil_append, vL_nil]
theorem VAt.blkA {d : Nat} {bt : TypeId} {fh : List Value} {w : World} {b : Nat} {tr : List Int} (h : VAt d bt fh w b tr) : VBlk d bt fh w b := ⟨h.1, vL tr, vL_len tr, h.2⟩
theorem TabB.belowT {w W : World} (h : TabB w) (hb : Below w.heap.size w W) : TabB W := by
  have h0 : 0 < w.heap.size := by
    have := h 0 (by decide)
    refine Nat.pos_of_ne_zero (fun e => ?_)
    have e2 : w.heap[0]? = none := Array.getElem?_eq_none (by omega)
    simp [World.cell?, e2] at this
  intro j hj
  rw [World.cell?_of_block (w := w) (hb.block 0 h0)]
  exact h j hj
theorem nodup_of_map {α β : Type} (f : α → β) : ∀ l : List α, (l.map f).Nodup → l.Nodup
  | [], _ => List.nodup_nil
  | a :: r, h => by
    rw [List.map_cons, List.nodup_cons] at h
    exact List.nodup_cons.2 ⟨fun g => h.1 (List.mem_map.2 ⟨a, g, rfl⟩), nodup_of_map f r h.2⟩
theorem cnfR_dup {vars : Int} {css : List (List Int)} (h : CnfR vars css) : ∀ l ∈ css, l.Nodup ∧ l.length ≤ 1000 := by
  intro l hl
  obtain ⟨i, hi, rfl⟩ := List.getElem_of_mem hl
  have g := h.2.2 i hi
  have e : css.getD i [] = css[i] := by simp [hi]
  rw [e] at g
  exact ⟨nodup_of_map lv _ g.2.2, by have := g.1; omega⟩
theorem SpTo.dup {vars : Int} {l : List Int} (h : SpTo vars l l.length) (hv : vars ≤ 96) : l.Nodup ∧ l.length ≤ 1000 := by
  refine ⟨List.pairwise_iff_getElem.2 (fun i j hi hj hij e => ?_), by have := h.short hv; omega⟩
  have := ((h j hj).2 i hij).1
  simp [List.getD_eq_getElem?_getD, hi, hj] at this
  exact this e

set_option maxRecDepth 100000 in
set_option maxHeartbeats 2000000 in
/-- impl.listsRight. -/
theorem lr_any (vars : Int) (sl : Option Addr) (cap : Nat) (ds : List LCl) (w : World) (hv0 : 0 ≤ vars) (hv1 : vars ≤ 96) (hn : ds.length ≤ 1048576) (hz : Cls w sl ds) :
    Calls Tryd.prog 52 #[.slice sl ds.length cap, .int .i64 vars] w fun e w' => e = .returned (.bool (B (MoR vars (bareC ds)))) ∧ Below w.heap.size w w' := by
  have PS := put_same w rfl _ rfl
  have VA : Hid (VAt 0 68 [] (w.alloc (.cells Tryd.zeroCells68 68)) w.heap.size []) := by
    exact vnew w
  have B0 := Lib.hid (bA0 w (.cells Tryd.zeroCells68 68))
  have TK := Lib.hid (show ∀ W (k : Nat) (r : LCl), Below w.heap.size w W → VBlk 0 68 [] W w.heap.size → ds[k]? = some r → ∃ s kc, r.1 = .slice s r.2.length kc ∧ Calls Tryd.prog 53 #[.pointer (some ⟨w.heap.size, 0, none⟩), .slice s r.2.length kc, .int .i64 vars] W fun e w' => e = .returned (.bool (B (SpTo vars r.2 r.2.length))) ∧ (SpTo vars r.2 r.2.length → VAt 0 68 [] w' w.heap.size r.2) ∧ Only w.heap.size W w' ∧ w'.heap.size = W.heap.size from fun W k r hW hb hk => by
    obtain ⟨s, kc, e, i, l⟩ := hz.each r (List.mem_of_getElem? hk)
    refine ⟨s, kc, e, take_any w.heap.size vars s kc r.2 W hb hv0 hv1 l ?_⟩
    rcases i with e | ⟨c, o, e, hi⟩
    · exact .inl e
    · exact .inr ⟨c, o, e, hi.below hW, by have := hi.1; omega⟩)
  have CE := Lib.hid (show ∀ W k, k < ds.length → Below w.heap.size w W → ∃ c o r, sl = some ⟨c, o, none⟩ ∧ ds[k]? = some r ∧ W.cell? ⟨c, o + k, none⟩ = some r.1 from fun W k hk hW => by
    obtain ⟨c, o, e, cl, hc⟩ := (hz.below hW).at hk
    exact ⟨c, o, ds[k], e, List.getElem?_eq_getElem hk, hc k hk⟩)
  have NO := Lib.hid (show ∀ (k : Nat) (r : LCl), ds[k]? = some r → ¬ SpTo vars r.2 r.2.length → ¬ MoR vars (bareC ds) from fun k r hk h g => h (g r.2 (List.mem_map.2 ⟨r, List.mem_of_getElem? hk, rfl⟩)))
  have YE := Lib.hid (show ∀ k, ds.length ≤ k → MoR vars (bareC (ds.take k)) → MoR vars (bareC ds) from fun k hk h => by rwa [List.take_of_length_le hk] at h)
  have ST := Lib.hid (show ∀ (k : Nat) (r : LCl), ds[k]? = some r → MoR vars (bareC (ds.take k)) → SpTo vars r.2 r.2.length → MoR vars (bareC (ds.take (k + 1))) from fun k r hk h1 h2 => by
    rw [List.take_add_one, hk]
    intro l hl
    simp only [bareC, List.map_append, List.mem_append, Option.toList_some, List.map_cons, List.map_nil, List.mem_singleton] at hl
    rcases hl with hl | rfl
    · exact h1 l hl
    · exact h2)
  have M0 := Lib.hid (show MoR vars (bareC (ds.take 0)) from fun l hl => by simp [bareC] at hl)
  clear hz
  generalize hQ : MoR vars (bareC ds) = Q at *
  clear hQ
  generalize hN : ds.length = n at *
  clear hN
  go_enter Tryd.func52, Tryd.ntmps52
  go_wp2
  generalize w.alloc (.cells Tryd.zeroCells68 68) = w0 at *
  go_loopw [11] (fun i wr => ∃ k : Nat, i = .int .i64 k ∧ k ≤ n ∧ Hid (MoR vars (bareC (ds.take k))) ∧ Hid (VBlk 0 68 [] wr w.heap.size) ∧ Hid (Below w.heap.size w wr)) (fun i _ => n - (intOf i).toNat)
  case atStart => exact ⟨0, rfl, Nat.zero_le _, M0, VA.out.blkA, B0⟩
  case round =>
    obtain ⟨k, rfl, hk, H1, H2, H3⟩ := hrel
    have hk0 : (0 : Int) ≤ (k : Int) := by omega
    by_cases h1 : k < n
    · have h1' : (k : Int) < (n : Int) := by omega
      obtain ⟨c, o, r, rfl, hr, hcell⟩ := CE.out wr k h1 H3.out
      obtain ⟨s, kc, e, CT⟩ := TK.out wr k r H3.out H2.out hr
      rw [e] at hcell
      have CT' := Lib.hid CT
      by_cases hp : SpTo vars r.2 r.2.length
      · have S1 := Lib.hid (ST.out k r hr H1.out hp)
        have SP := Lib.hid hp
        rw [B_yes hp] at CT'
        clear CT e hr hp TK CE NO ST
        generalize r.2.length = m at *
        go_wp2_with (first | (go_at_call 53; refine CT'.out.mono ?_; rintro e wq ⟨rfl, q1, q2, q3⟩))
        have V1 := Lib.hid ((q1 SP.out).blkA)
        have B1 := Lib.hid (Only.below H3.out (Nat.le_refl _) q2)
        clear q1 q2 q3
        go_roundw
        case rel => exact ⟨k + 1, by go_num, by omega, S1, V1, B1⟩
        case measure => simp [intOf]; omega
      · have NQ := Lib.hid (NO.out k r hr hp)
        rw [B_no hp] at CT'
        clear CT e hr hp TK CE NO ST
        generalize r.2.length = m at *
        go_wp2_with (first | (go_at_call 53; refine CT'.out.mono ?_; rintro e wq ⟨rfl, -, q2, -⟩))
        have B1 := Lib.hid (Only.below H3.out (Nat.le_refl _) q2)
        clear q2
        go_ret
        exact ⟨by rw [B_no NQ.out]; rfl, B1.out⟩
    · have h1' : ¬ (k : Int) < (n : Int) := by omega
      have HY := Lib.hid (YE.out k (by omega) H1.out)
      clear TK CE NO ST
      go_wp2
      go_ret
      exact ⟨by rw [B_yes HY.out]; rfl, H3.out⟩


set_option maxRecDepth 100000 in
set_option maxHeartbeats 4000000 in
/-- impl.UnitRun. -/
theorem iur_any (vars : Int) (sl : Option Addr) (cap : Nat) (cs : List LCl) (sl2 : Option Addr) (cap2 : Nat) (ds : List LCl) (sl3 : Option Addr) (cap3 : Nat) (ts : List Int) (w : World) (hn : cs.length ≤ maxLen) (hnd : ds.length ≤ maxLen) (hm : ts.length ≤ maxLen) (hwf : WfC cs) (hz : Cls w sl cs) (hd : Cls w sl2 ds) (ht : Ints w sl3 ts) (hT : TabB w) :
    Calls Tryd.prog 11 #[CV vars sl cs.length cap, .slice sl2 ds.length cap2, .slice sl3 ts.length cap3] w (UPost w (uAll vars (bareC cs) (bareC ds) ts)) := by
  have hln := hn
  have hld := hnd
  have hlt := hm
  unfold maxLen at hln hld hlt
  by_cases big : UBig (bareC ds) ts
  · rw [uAll_big big]
    have hb : 400 < ds.length ∨ ((¬ 400 < ds.length) ∧ 400 < ts.length) := by
      unfold UBig at big
      rw [bareC_length] at big
      by_cases h : 400 < ds.length
      · exact .inl h
      · exact .inr ⟨h, by rcases big with g | g; exact absurd g h; exact g⟩
    unfold UPost
    clear hz hd ht big hn hnd hm
    generalize cs.length = n at *
    generalize ds.length = m at *
    generalize ts.length = q at *
    rcases hb with h | ⟨h, h2⟩
    · have h' : (400 : Int) < (m : Int) := by omega
      go_enter Tryd.func11, Tryd.ntmps11
      go_wp2
      refine bodyPost_ret (v := UV (.slice none 0 0) 0 2) (by simp [results, Tryd.results11, go_sem]) rfl ⟨_, rfl, ⟨rfl, .inl ⟨rfl, rfl⟩⟩, bA (bA0 _ _) _⟩
    · have h' : ¬ (400 : Int) < (m : Int) := by omega
      have h2' : (400 : Int) < (q : Int) := by omega
      go_enter Tryd.func11, Tryd.ntmps11
      go_wp2
      refine bodyPost_ret (v := UV (.slice none 0 0) 0 2) (by simp [results, Tryd.results11, go_sem]) rfl ⟨_, rfl, ⟨rfl, .inl ⟨rfl, rfl⟩⟩, bA (bA0 _ _) _⟩
  have hd4 : ds.length ≤ 400 := by unfold UBig at big; rw [bareC_length] at big; omega
  have ht4 : ts.length ≤ 400 := by unfold UBig at big; omega
  have hd4' : ¬ (400 : Int) < (ds.length : Int) := by omega
  have ht4' : ¬ (400 : Int) < (ts.length : Int) := by omega
  have CA := Lib.hid (((CnfAt.new w vars sl cs.length cap).below (bA0 _ (.cells #[.slice none 0 0, .int .i64 0, .int .i64 0] 30))).below (bA0 _ (.cells Tryd.zeroCells68 68)))
  have B0 := Lib.hid (bA (bA0 w (.cells #[.int .i64 vars, .slice sl cs.length cap] 25)) (.cells #[.slice none 0 0, .int .i64 0, .int .i64 0] 30))
  have hw1 : (w.alloc (.cells #[.int .i64 vars, .slice sl cs.length cap] 25)).heap.size = w.heap.size + 1 := by simp
  have hw2 : ((w.alloc (.cells #[.int .i64 vars, .slice sl cs.length cap] 25)).alloc (.cells #[.slice none 0 0, .int .i64 0, .int .i64 0] 30)).heap.size = w.heap.size + 1 + 1 := by simp
  have X0 : Hid (BoxU (((w.alloc (.cells #[.int .i64 vars, .slice sl cs.length cap] 25)).alloc (.cells #[.slice none 0 0, .int .i64 0, .int .i64 0] 30)).alloc (.cells Tryd.zeroCells68 68)) (w.heap.size + 1)) := by
    have h1 := new_at (w.alloc (.cells #[.int .i64 vars, .slice sl cs.length cap] 25)) (.cells #[.slice none 0 0, .int .i64 0, .int .i64 0] 30)
    rw [hw1] at h1
    exact BoxU.below (w := (w.alloc (.cells #[.int .i64 vars, .slice sl cs.length cap] 25)).alloc (.cells #[.slice none 0 0, .int .i64 0, .int .i64 0] 30)) h1 (bA0 _ _)
  have PS := put_same ((w.alloc (.cells #[.int .i64 vars, .slice sl cs.length cap] 25)).alloc (.cells #[.slice none 0 0, .int .i64 0, .int .i64 0] 30)) rfl _ rfl
  rw [hw2] at PS
  have VA : Hid (VAt 0 68 [] (((w.alloc (.cells #[.int .i64 vars, .slice sl cs.length cap] 25)).alloc (.cells #[.slice none 0 0, .int .i64 0, .int .i64 0] 30)).alloc (.cells Tryd.zeroCells68 68)) (w.heap.size + 1 + 1) []) := by
    have := vnew ((w.alloc (.cells #[.int .i64 vars, .slice sl cs.length cap] 25)).alloc (.cells #[.slice none 0 0, .int .i64 0, .int .i64 0] 30))
    rw [hw2] at this
    exact this
  have B1 := Lib.hid (bA B0.out (.cells Tryd.zeroCells68 68))
  have E1 := Lib.hid (icr_any vars sl cap cs _ hn (hz.below B1.out))
  have FIN : Hid (∀ W, BoxU W (w.heap.size + 1) → Below w.heap.size w W → Below w.heap.size w (set3 W (w.heap.size + 1) (.slice none 0 0) (.int .i64 0) (.int .i64 1))) := fun W _ h => set3_below h (by omega) _ _ _
  clear B0
  by_cases c2 : CnfR vars (bareC cs)
  · have E2 : Hid (∀ W, Below w.heap.size w W → Calls Tryd.prog 52 #[.slice sl2 ds.length cap2, .int .i64 vars] W fun e w' => e = .returned (.bool (B (MoR vars (bareC ds)))) ∧ Below W.heap.size W w') := fun W hW => lr_any vars sl2 cap2 ds W c2.1.1 c2.1.2 (by omega) (hd.below hW)
    have E3 : Hid (∀ W, Below w.heap.size w W → VAt 0 68 [] W (w.heap.size + 1 + 1) [] → Calls Tryd.prog 53 #[.pointer (some ⟨w.heap.size + 1 + 1, 0, none⟩), .slice sl3 ts.length cap3, .int .i64 vars] W fun e w' => e = .returned (.bool (B (SpTo vars ts ts.length))) ∧ (SpTo vars ts ts.length → VAt 0 68 [] w' (w.heap.size + 1 + 1) ts) ∧ Only (w.heap.size + 1 + 1) W w' ∧ w'.heap.size = W.heap.size) := fun W hW hv => by
      refine take_any (w.heap.size + 1 + 1) vars sl3 cap3 ts W hv.blkA c2.1.1 c2.1.2 hm ?_
      rcases ht with e | ⟨c, o, e, hi⟩
      · exact .inl e
      · exact .inr ⟨c, o, e, hi.below hW, by have := hi.1; omega⟩
    rw [B_yes c2] at E1
    by_cases c3 : MoR vars (bareC ds)
    · rw [B_yes c3] at E2
      by_cases c4 : SpTo vars ts ts.length
      · rw [uAll_yes big ⟨c2, c3, c4⟩]
        rw [B_yes c4] at E3
        have V4 := Lib.hid c4
        have hlit : ∀ r ∈ cs ++ ds, (∀ z ∈ r.2, OkZ vars z) ∧ r.2.Nodup ∧ r.2.length ≤ 1000 := fun r hr => by
          rcases List.mem_append.1 hr with hr | hr
          · exact ⟨cnfR_lits c2 (fun l hl => by obtain ⟨r', hr', rfl⟩ := List.mem_map.1 hl; exact hwf r' hr') r.2 (List.mem_map.2 ⟨r, hr, rfl⟩), cnfR_dup c2 r.2 (List.mem_map.2 ⟨r, hr, rfl⟩)⟩
          · exact ⟨moR_lits c3 r.2 (List.mem_map.2 ⟨r, hr, rfl⟩), SpTo.dup (c3 r.2 (List.mem_map.2 ⟨r, hr, rfl⟩)) c2.1.2⟩
        have hEach : ∀ V, w.heap.size ≤ V.heap.size → (∀ k, k < w.heap.size → V.heap[k]? = w.heap[k]?) → ∀ r ∈ cs ++ ds, ClIn V r := fun V h1 h2 r hr => by
          rcases List.mem_append.1 hr with hr | hr
          · exact (hz.each r hr).kept h1 h2
          · exact (hd.each r hr).kept h1 h2
        have hclen : (cs ++ ds).length ≤ 90000 := by have := c2.2.1; rw [bareC_length] at this; simp; omega
        have E4 : Hid (∀ W, Below w.heap.size w W → Calls Tryd.prog 55 #[CV vars sl cs.length cap, .slice sl2 ds.length cap2] W fun e w' => e = .returned (.pointer (some ⟨W.heap.size + 1, 0, none⟩)) ∧ (∃ (vc : Value) (hs : List Value), Bk W.heap.size (W.heap.size + 1) vc hs (cs ++ ds) (occI (bareC (cs ++ ds))) w') ∧ Below W.heap.size W w') := fun W hW => bookOf_any vars sl cap cs sl2 cap2 ds W (by have := c2.2.1; rw [bareC_length] at this; omega) (by omega) (hz.below hW) (hd.below hW) (fun r hr => by
          obtain ⟨h1, h2, h3⟩ := hlit r hr
          have := c2.1.2
          exact ⟨fun z hz' => by have := h1 z hz'; unfold OkZ at this; omega, h2, h3⟩)
        have E5 : Hid (∀ W B bb vc hs, VAt 0 68 [] W (w.heap.size + 1 + 1) ts → Below w.heap.size w W → Bk B bb vc hs (cs ++ ds) (occI (bareC (cs ++ ds))) W → Calls Tryd.prog 54 #[.pointer (some ⟨w.heap.size + 1 + 1, 0, none⟩), .pointer (some ⟨bb, 0, none⟩)] W fun e w' => ∃ v fl, e = .returned (.tuple #[v, .int .i64 (uRun (bareC cs) (bareC ds) ts).2]) ∧ ts ++ fl = (uRun (bareC cs) (bareC ds) ts).1 ∧ w'.ownsRow W.heap.size 2 1 v fl.length (valsZ fl) ∧ Only (w.heap.size + 1 + 1) W w' ∧ VAt 0 68 [] w' (w.heap.size + 1 + 1) (uRun (bareC cs) (bareC ds) ts).1) := fun W B bb vc hs hv hW hk => by
          have hsw := hW.size
          have := fol_any vars ts W hv (by decide) c2.1.2 c4 hk hclen hlit (fun V hV => hEach V (Nat.le_trans hsw hV.1) (fun k hk => (hV.2 k (by omega) (by omega)).trans (hW.block k hk))) (hT.belowT hW) (by omega)
          rw [bareC_add] at this
          exact this
        have E6 : Hid (∀ W v fl, Below w.heap.size w W → W.ownsRow (w.heap.size + 1 + 1) 2 1 v fl.length (valsZ fl) → ts ++ fl = (uRun (bareC cs) (bareC ds) ts).1 → Calls Tryd.prog 56 #[.slice (some ⟨W.heap.size, 0, none⟩) 2 2] (W.alloc (.cells #[.slice sl3 ts.length cap3, v] 26)) fun e w' => ∃ v', e = .returned v' ∧ w'.ownsRow (W.heap.size + 1) 2 1 v' (uRun (bareC cs) (bareC ds) ts).1.length (valsZ (uRun (bareC cs) (bareC ds) ts).1) ∧ Below (W.heap.size + 1) (W.alloc (.cells #[.slice sl3 ts.length cap3, v] 26)) w') := fun W v fl hW ho he => by
          have hsz : (W.alloc (.cells #[.slice sl3 ts.length cap3, v] 26)).heap.size = W.heap.size + 1 := by simp
          obtain ⟨q0, q1⟩ := two_row W (.slice sl3 ts.length cap3) v 26
          have hfl : ts.length + fl.length ≤ 1000 := by
            have h1 := congrArg List.length he
            rw [List.length_append] at h1
            have h2 := resF_len (bareC cs ++ bareC ds) (97 - ts.length) ts
            unfold uRun at h1
            omega
          have hcl : Cls (W.alloc (.cells #[.slice sl3 ts.length cap3, v] 26)) (some ⟨W.heap.size, 0, none⟩) [(.slice sl3 ts.length cap3, ts), (v, fl)] := by
            refine ⟨.inr ⟨W.heap.size, 0, rfl, by omega, fun i hi => ?_⟩, fun r hr => ?_⟩
            · match i, hi with
              | 0, _ => exact q0
              | 1, _ => exact q1
            · rcases List.mem_cons.1 hr with rfl | hr
              · exact ⟨sl3, cap3, rfl, ht.below (bA hW _), hm⟩
              · rw [List.mem_singleton.1 hr]
                obtain ⟨s, k, e, i⟩ := own_ints ho
                exact ⟨s, k, e, i.below (bA0 _ _), by unfold maxLen; show fl.length ≤ _; omega⟩
          have := catZ_any (some ⟨W.heap.size, 0, none⟩) 2 [(.slice sl3 ts.length cap3, ts), (v, fl)] _ (by simp) (by simp [flatC]; omega) hcl
          rw [hsz, show flatC [(.slice sl3 ts.length cap3, ts), (v, fl)] = ts ++ fl by simp [flatC], he] at this
          exact this
        unfold UPost
        clear hz hd ht hn hnd hm c2 c3 c4 big FIN hwf hlit hEach hclen hT
        generalize uRun (bareC cs) (bareC ds) ts = R at *
        generalize cs.length = n at *
        generalize ds.length = m at *
        generalize ts.length = q at *
        generalize hRL : R.1.length = rl9 at *
        clear hRL
        go_enter Tryd.func11, Tryd.ntmps11
        go_wp2_with fail
        refine E1.out.mono ?_
        rintro e w1 ⟨rfl, b1⟩
        have D1 := Lib.hid (bT B1.out b1)
        have V1 := Lib.hid (VA.out.below b1)
        have X1 := Lib.hid (X0.out.below b1)
        have C1 := Lib.hid (CA.out.below b1)
        obtain ⟨t0, t1⟩ := C1.out.cells
        have tl := C1.out.lt
        clear b1 E1 VA X0 CA B1
        go_wp2_with fail
        refine (E2.out _ D1.out).mono ?_
        rintro e w2 ⟨rfl, b2⟩
        have D2 := Lib.hid (bT D1.out b2)
        have V2 := Lib.hid (V1.out.below b2)
        have X2 := Lib.hid (X1.out.below b2)
        have C2 := Lib.hid (C1.out.below b2)
        clear b2 V1 X1 C1 D1 t0 t1 tl E2
        obtain ⟨t0, t1⟩ := C2.out.cells
        have tl := C2.out.lt
        go_wp2_with fail
        refine (E3.out _ D2.out V2.out).mono ?_
        rintro e w3 ⟨rfl, va3, b3, sz3⟩
        have hv2 := V2.out.lt
        have D3 := Lib.hid (Only.below D2.out (by omega) b3)
        have V3 := Lib.hid (va3 V4.out)
        have X3 : Hid (BoxU w3 (w.heap.size + 1)) := (b3.block _ (by have := X2.out.facts.1; omega) (by omega)).trans X2.out
        have C3 : Hid (CnfAt w3 w.heap.size vars sl n cap) := (b3.block _ (by have := C2.out.lt; omega) (by omega)).trans C2.out
        clear b3 va3 V2 X2 C2 D2 t0 t1 tl E3 sz3 hv2
        obtain ⟨t0, t1⟩ := C3.out.cells
        have tl := C3.out.lt
        go_wp2_with fail
        refine (E4.out _ D3.out).mono ?_
        rintro e w4 ⟨rfl, ⟨vc4, hs4, k4⟩, b4⟩
        have D4 := Lib.hid (bT D3.out b4)
        have V4b := Lib.hid (V3.out.below b4)
        have X4 := Lib.hid (X3.out.below b4)
        have CC := Lib.hid (E5.out w4 _ _ _ _ V4b.out D4.out k4)
        have hs34 := b4.size
        clear b4 k4 V3 X3 C3 D3 t0 t1 tl E4 E5
        go_wp2_with fail
        refine CC.out.mono ?_
        rintro e w5 ⟨v5, fl, rfl, he5, o5, b5, -⟩
        have hv4 := V4b.out.lt
        have D5 := Lib.hid (Only.below D4.out (by omega) b5)
        have X5 : Hid (BoxU w5 (w.heap.size + 1)) := (b5.block _ (by have := X4.out.facts.1; omega) (by omega)).trans X4.out
        have O5 := Lib.hid (own_mono o5 (show w.heap.size + 1 + 1 ≤ w4.heap.size by omega))
        obtain ⟨s5, k5, rfl⟩ := own_v o5
        have CT := Lib.hid (E6.out w5 _ fl D5.out O5.out he5)
        clear b5 o5 V4b X4 D4 CC E6 hv4 O5 he5
        generalize fl.length = fn at *
        go_wp2_with fail
        refine CT.out.mono ?_
        rintro e w6 ⟨v6, rfl, o6, b6⟩
        have hs5 := D5.out.size
        have D6 := Lib.hid ((bA D5.out (.cells #[.slice sl3 q cap3, .slice s5 fn k5] 26)).trans (b6.mono (by omega)))
        obtain ⟨rl, r0, r1, r2, f0, f1, f2⟩ := BoxU.facts (show BoxU w6 (w.heap.size + 1) from (b6.block _ (by have := X5.out.facts.1; omega)).trans (X5.out.below (bA0 _ _)))
        obtain ⟨s6, k6, rfl⟩ := own_v o6
        have PB := Lib.hid (set3_below D6.out (show w.heap.size ≤ w.heap.size + 1 by omega) (.slice s6 rl9 k6) (.int .i64 R.2) (.int .i64 0))
        have PO := Lib.hid (own_mono (own_set3 o6 (b := w.heap.size + 1) (fun e => by have := (o6.lt _ e).1; have := X5.out.facts.1; omega) (.slice s6 rl9 k6) (.int .i64 R.2) (.int .i64 0)) (show w.heap.size ≤ w5.heap.size + 1 by omega))
        unfold set3 at PB PO
        clear b6 o6 D6 X5 D5 CT
        go_wp2
        refine bodyPost_ret (v := UV (.slice s6 rl9 k6) R.2 0) (by simp [results, Tryd.results11, go_sem, r0, r1, r2]) rfl ⟨_, rfl, PO.out, PB.out⟩
      · rw [uAll_no big (fun g => c4 g.2.2)]
        rw [B_no c4] at E3
        unfold UPost
        clear hz hd ht hn hnd hm c2 c3 c4 big hwf
        generalize cs.length = n at *
        generalize ds.length = m at *
        generalize ts.length = q at *
        go_enter Tryd.func11, Tryd.ntmps11
        go_wp2_with fail
        refine E1.out.mono ?_
        rintro e w1 ⟨rfl, b1⟩
        have D1 := Lib.hid (bT B1.out b1)
        have V1 := Lib.hid (VA.out.below b1)
        have X1 := Lib.hid (X0.out.below b1)
        have C1 := Lib.hid (CA.out.below b1)
        obtain ⟨t0, t1⟩ := C1.out.cells
        have tl := C1.out.lt
        clear b1 E1 VA X0 CA B1
        go_wp2_with fail
        refine (E2.out _ D1.out).mono ?_
        rintro e w2 ⟨rfl, b2⟩
        have D2 := Lib.hid (bT D1.out b2)
        have V2 := Lib.hid (V1.out.below b2)
        have X2 := Lib.hid (X1.out.below b2)
        have C2 := Lib.hid (C1.out.below b2)
        clear b2 V1 X1 C1 D1 t0 t1 tl E2
        obtain ⟨t0, t1⟩ := C2.out.cells
        have tl := C2.out.lt
        go_wp2_with fail
        refine (E3.out _ D2.out V2.out).mono ?_
        rintro e w3 ⟨rfl, -, b3, -⟩
        have D3 := Only.below D2.out (show w.heap.size ≤ w.heap.size + 1 + 1 by omega) b3
        have X3 : BoxU w3 (w.heap.size + 1) := (b3.block _ (by have := X2.out.facts.1; omega) (by omega)).trans X2.out
        obtain ⟨rl, r0, r1, r2, f0, f1, f2⟩ := X3.facts
        have P := Lib.hid (FIN.out w3 X3 D3)
        unfold set3 at P
        clear b3 V2 X2 C2 D2 t0 t1 tl E3 D3 X3
        go_wp2
        refine bodyPost_ret (v := UV (.slice none 0 0) 0 1) (by simp [results, Tryd.results11, go_sem, r0, r1, r2]) rfl ⟨_, rfl, ⟨rfl, .inl ⟨rfl, rfl⟩⟩, P.out⟩
    · rw [uAll_no big (fun g => c3 g.2.1)]
      rw [B_no c3] at E2
      unfold UPost
      clear hz hd ht hn hnd hm c2 c3 VA big hwf E3
      generalize cs.length = n at *
      generalize ds.length = m at *
      generalize ts.length = q at *
      go_enter Tryd.func11, Tryd.ntmps11
      go_wp2_with fail
      refine E1.out.mono ?_
      rintro e w1 ⟨rfl, b1⟩
      have D1 := Lib.hid (bT B1.out b1)
      have X1 := Lib.hid (X0.out.below b1)
      have C1 := Lib.hid (CA.out.below b1)
      obtain ⟨t0, t1⟩ := C1.out.cells
      have tl := C1.out.lt
      clear b1 E1 X0 CA B1
      go_wp2_with fail
      refine (E2.out _ D1.out).mono ?_
      rintro e w2 ⟨rfl, b2⟩
      obtain ⟨rl, r0, r1, r2, f0, f1, f2⟩ := (X1.out.below b2).facts
      have P := Lib.hid (FIN.out w2 (X1.out.below b2) (bT D1.out b2))
      unfold set3 at P
      clear b2 X1 C1 D1 t0 t1 tl E2
      go_wp2
      refine bodyPost_ret (v := UV (.slice none 0 0) 0 1) (by simp [results, Tryd.results11, go_sem, r0, r1, r2]) rfl ⟨_, rfl, ⟨rfl, .inl ⟨rfl, rfl⟩⟩, P.out⟩
  · rw [uAll_no big (fun g => c2 g.1)]
    rw [B_no c2] at E1
    unfold UPost
    clear hz hd ht hn hnd hm c2 CA VA big
    generalize cs.length = n at *
    generalize ds.length = m at *
    generalize ts.length = q at *
    go_enter Tryd.func11, Tryd.ntmps11
    go_wp2_with fail
    refine E1.out.mono ?_
    rintro e w1 ⟨rfl, b1⟩
    obtain ⟨rl, r0, r1, r2, f0, f1, f2⟩ := (X0.out.below b1).facts
    have P := Lib.hid (FIN.out w1 (X0.out.below b1) (bT B1.out b1))
    unfold set3 at P
    clear b1 E1 X0
    go_wp2
    refine bodyPost_ret (v := UV (.slice none 0 0) 0 1) (by simp [results, Tryd.results11, go_sem, r0, r1, r2]) rfl ⟨_, rfl, ⟨rfl, .inl ⟨rfl, rfl⟩⟩, P.out⟩


end Go.Proofs.YtoobcodlgajieaaDoor
