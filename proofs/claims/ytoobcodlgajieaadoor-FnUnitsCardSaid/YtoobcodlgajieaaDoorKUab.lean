/-
  ARE CLAUSES RIGHT? The model's answer.
  ARE CLAUSES RIGHT? The model's answer is the program's.
  VALUES BY VARIABLE: an array of 97 numbers that stands for a trail; its methods of, put, take.
  IS A TRAIL RIGHT? Both sides.
  UNITS: which literals of a clause are not false, the first clause that is false or a unit; notFalse, passing, firstDue.
  ROWS PUT TOGETHER: slices.Grow of none, slices.Concat, at numbers.
  ROWS OF SLICES PUT TOGETHER: slices.Grow of none, slices.Concat, at []int64; impl.clausesWith.
-/
import Derived.Test.YtoobcodlgajieaaDoorVac
import Derived.Deep.LoopGhost
import Derived.Lib.TrailingZeros
import Derived.RegionTactic
import Derived.ChangeAlike
import Derived.Deep.RegionWith
import Derived.Deep.RegionLaw
import Derived.Deep.DeepCutAuto
namespace Go.Proofs.YtoobcodlgajieaaDoor
open Go.RowKit
set_option linter.unusedVariables false



/-- The array of the values of a trail. -/
noncomputable def vArr (tr : List Int) : Array Value := ((List.range 97).map fun k : Nat => Value.int .i64 (val tr (k : Int))).toArray
def VAtD (w : World) (b : Nat) (tr : List Int) : Prop := w.heap[b]? = some (.cells (vArr tr) 68)
theorem vArr_at (tr : List Int) (k : Nat) (h : k < 97) : (vArr tr)[k]? = some (.int .i64 (val tr (k : Int))) := by simp [vArr, h]
theorem VAtD.lt {w : World} {b : Nat} {tr : List Int} (h : VAtD w b tr) : b < w.heap.size := (Array.getElem?_eq_some_iff.1 h).1
theorem VAtD.cell {w : World} {b : Nat} {tr : List Int} (h : VAtD w b tr) (k : Nat) (hk : k < 97) : w.cell? ⟨b, k, none⟩ = some (.int .i64 (val tr (k : Int))) := by
  have : w.cell? ⟨b, k, none⟩ = (vArr tr)[k]? := by unfold VAtD at h; simp [World.cell?, h]
  rw [this, vArr_at tr k hk]
theorem VAtD.below {w w' : World} {b : Nat} {tr : List Int} (h : VAtD w b tr) (hb : Below w.heap.size w w') : VAtD w' b tr := (hb.block b h.lt).trans h
/-- A literal more. -/
theorem vArr_put (tr : List Int) (z : Int) (i : Nat) (u : Int) (h1 : z ∉ tr) (h2 : -z ∉ tr) (hi : (z = (i : Int) ∧ u = 1) ∨ (z = -(i : Int) ∧ u = -1 ∧ 0 < i)) : (vArr tr).setIfInBounds i (.int .i64 u) = vArr (tr ++ [z]) := by
  apply Array.ext
  · simp [vArr]
  · intro k a1 a2
    simp only [Array.size_setIfInBounds] at a1
    rw [Array.getElem_setIfInBounds a1]
    simp only [vArr, List.getElem_toArray, List.getElem_map, List.getElem_range]
    by_cases hk : i = k
    · subst hk
      rw [if_pos rfl]
      rcases hi with ⟨rfl, rfl⟩ | ⟨rfl, rfl, h0⟩
      · rw [val_yes (by simp)]
      · rw [val_neg (by simp at h2 ⊢; exact ⟨h2, by omega⟩) (by simp)]
    · rw [if_neg hk]
      have e1 : ((k : Int) ∈ tr ++ [z]) ↔ (k : Int) ∈ tr := by
        simp only [List.mem_append, List.mem_singleton]
        exact ⟨fun h => by rcases h with h | h; exact h; rcases hi with ⟨rfl, _⟩ | ⟨rfl, _, _⟩ <;> omega, .inl⟩
      have e2 : (-(k : Int) ∈ tr ++ [z]) ↔ -(k : Int) ∈ tr := by
        simp only [List.mem_append, List.mem_singleton]
        exact ⟨fun h => by rcases h with h | h; exact h; rcases hi with ⟨rfl, _⟩ | ⟨rfl, _, _⟩ <;> omega, .inl⟩
      rw [val_iff e1 e2]
theorem VAtD.put {w : World} {b : Nat} {tr : List Int} (h : VAtD w b tr) (z : Int) (i : Nat) (u : Int) (h1 : z ∉ tr) (h2 : -z ∉ tr) (hi : (z = (i : Int) ∧ u = 1) ∨ (z = -(i : Int) ∧ u = -1 ∧ 0 < i)) : VAtD (w.setCell ⟨b, i, none⟩ (.int .i64 u)) b (tr ++ [z]) := by
  have := heap_setCell_same w b i (vArr tr) 68 (.int .i64 u) h
  rw [vArr_put tr z i u h1 h2 hi] at this
  exact this

theorem clS_iff {vars : Int} {zs : List Int} (hv : vars ≤ 96) : ClS vars 96 zs ↔ SpTo vars zs zs.length := ⟨fun h => h.2, fun h => ⟨h.short hv, h⟩⟩

/-- spec.l06Clause, as wide as there are variables. -/
theorem l06_wide (vars : Int) (sl : Option Addr) (cap : Nat) (zs : List Int) (w : World) (hv0 : 0 ≤ vars) (hv1 : vars ≤ 96) (hn : zs.length ≤ 1048576) (hz : Ints w sl zs) :
    Calls Tryd.prog 79 #[.int .i64 vars, .slice sl zs.length cap, .int .i64 96] w fun e w' => e = .returned (.bool (B (SpTo vars zs zs.length))) ∧ Below w.heap.size w w' := by
  rw [← B_iff (clS_iff hv1)]
  rcases hz with rfl | ⟨c, o, rfl, h⟩
  · rw [B_yes (p := ClS vars 96 []) ⟨by simp, fun i hi => by simp at hi⟩]
    exact l06_nil vars sl cap 96 w
  · exact l06_some vars c o cap 96 zs w hv0 hv1 hn h

/-- A trail, for right clauses. -/
def TrR (vars : Int) (css : List (List Int)) (ts : List Int) : Prop := ts.length ≤ 400 ∧ CnfR vars css ∧ SpTo vars ts ts.length

set_option maxRecDepth 100000 in
set_option maxHeartbeats 2000000 in
/-- spec.TrailRight. -/
theorem str_any (vars : Int) (sl : Option Addr) (cap : Nat) (cs : List LCl) (sl2 : Option Addr) (cap2 : Nat) (ts : List Int) (w : World) (hn : cs.length ≤ maxLen) (hs : totC cs ≤ 1048576) (hwf : WfC cs) (hm : ts.length ≤ 1048576) (hz : Cls w sl cs) (ht : Ints w sl2 ts) :
    Calls Tryd.prog 48 #[CV vars sl cs.length cap, .slice sl2 ts.length cap2] w fun e w' => e = .returned (.bool (B (TrR vars (bareC cs) ts))) ∧ Below w.heap.size w w' := by
  have B0 := Lib.hid (bA0 w (.cells #[.int .i64 vars, .slice sl cs.length cap] 25))
  have CA := Lib.hid (CnfAt.new w vars sl cs.length cap)
  have hln := hn
  unfold maxLen at hln
  by_cases c1 : 400 < ts.length
  · rw [B_no (p := TrR vars (bareC cs) ts) (fun g => by have := g.1; omega)]
    have c1' : ¬ (ts.length : Int) ≤ 400 := by omega
    clear hz ht hwf hs CA hn
    generalize cs.length = n at *
    generalize ts.length = m at *
    go_enter Tryd.func48, Tryd.ntmps48
    go_wp2
    go_ret
    exact ⟨rfl, B0.out⟩
  have c1' : (ts.length : Int) ≤ 400 := by omega
  have E1 := Lib.hid (scr_any vars sl cap cs _ hn hs hwf (hz.below B0.out))
  by_cases c2 : CnfR vars (bareC cs)
  · have E2 : Hid (∀ W, Below w.heap.size w W → Calls Tryd.prog 79 #[.int .i64 vars, .slice sl2 ts.length cap2, .int .i64 96] W fun e w' => e = .returned (.bool (B (SpTo vars ts ts.length))) ∧ Below W.heap.size W w') := fun W hW => l06_wide vars sl2 cap2 ts W c2.1.1 c2.1.2 hm (ht.below hW)
    rw [B_iff (show TrR vars (bareC cs) ts ↔ SpTo vars ts ts.length from ⟨fun g => g.2.2, fun g => ⟨by omega, c2, g⟩⟩)]
    rw [B_yes c2] at E1
    clear hz ht hwf hs hn c2
    generalize B (SpTo vars ts ts.length) = r at *
    generalize cs.length = n at *
    generalize ts.length = m at *
    go_enter Tryd.func48, Tryd.ntmps48
    go_wp2_with fail
    refine E1.out.mono ?_
    rintro e w1 ⟨rfl, b1⟩
    obtain ⟨t0, t1⟩ := (CA.out.below b1).cells
    have tl := (CA.out.below b1).lt
    have D1 := Lib.hid (bT B0.out b1)
    clear b1 E1 CA
    go_wp2_with fail
    refine (E2.out _ D1.out).mono ?_
    rintro e w2 ⟨rfl, b2⟩
    have D2 := Lib.hid (bT D1.out b2)
    clear b2 E2 D1
    go_wp2
    go_ret
    exact ⟨rfl, D2.out⟩
  · rw [B_no (p := TrR vars (bareC cs) ts) (fun g => c2 g.2.1)]
    rw [B_no c2] at E1
    clear hz ht hwf hs hn c2 CA
    generalize cs.length = n at *
    generalize ts.length = m at *
    go_enter Tryd.func48, Tryd.ntmps48
    go_wp2_with fail
    refine E1.out.mono ?_
    rintro e w1 ⟨rfl, b1⟩
    have D1 := Lib.hid (bT B0.out b1)
    clear b1 E1
    go_wp2
    go_ret
    exact ⟨rfl, D1.out⟩

/-- Storing what lies there. -/
theorem put_same (w : World) (h : w.heap.size = w.heap.size) : ∀ W, W = w.alloc (.cells Tryd.zeroCells68 68) → Sem.run Tryd.prog (storeCells ⟨w.heap.size, 0, none⟩ Tryd.zeroCells68.toList) W = .ok () W := by
  rintro W rfl
  have hb : (w.alloc (.cells Tryd.zeroCells68 68)).heap[w.heap.size]? = some (.cells Tryd.zeroCells68 68) := new_at _ _
  have hone : ∀ v ∈ Tryd.zeroCells68.toList, v.oneCell' = true := by
    have : (Tryd.zeroCells68.toList.all fun v => v.oneCell') = true := by kernel_rfl
    exact fun v hv => List.all_eq_true.1 this v hv
  have key : ∀ (vs : List Value) (o : Nat) (W : World) (us : Array Value), W.heap[w.heap.size]? = some (.cells us 68) → (∀ k, k < vs.length → us[o + k]? = vs[k]?) → W.setCells w.heap.size o vs = W := by
    intro vs
    induction vs with
    | nil => intro o W us _ _; rfl
    | cons v r ih =>
      intro o W us h1 h2
      have e0 := h2 0 (by simp)
      simp only [Nat.add_zero, List.getElem?_cons_zero] at e0
      have e1 : W.setCell ⟨w.heap.size, o, none⟩ v = W := by
        have hs : us.setIfInBounds o v = us := by
          apply Array.ext
          · simp
          · intro i a1 a2
            simp only [Array.size_setIfInBounds] at a1
            rw [Array.getElem_setIfInBounds a1]
            by_cases hi : o = i
            · subst hi
              rw [if_pos rfl]
              rw [Array.getElem?_eq_getElem a2] at e0
              exact (Option.some.inj e0).symm
            · rw [if_neg hi]
        have hlt := (Array.getElem?_eq_some_iff.1 h1)
        obtain ⟨hl, hg⟩ := hlt
        have hh : (W.setCell ⟨w.heap.size, o, none⟩ v).heap = W.heap := by
          apply Array.ext_getElem?
          intro i
          by_cases hi : i = w.heap.size
          · subst hi
            rw [heap_setCell_same W _ o us 68 v h1, hs, h1]
          · exact heap_setCell_other W ⟨w.heap.size, o, none⟩ i v hi
        have : ∀ (A : World) (h : Array Obj), h = A.heap → { A with heap := h } = A := fun A h e => by subst e; rfl
        exact this W _ hh
      rw [World.setCells, e1]
      exact ih (o + 1) W us h1 (fun k hk => by
        have := h2 (k + 1) (by simp; omega)
        rw [show o + 1 + k = o + (k + 1) by omega, this]; simp)
  generalize w.alloc (.cells Tryd.zeroCells68 68) = W1 at *
  generalize w.heap.size = b at *
  have hr := run_storeCells_cells (P := Tryd.prog) b 0 Tryd.zeroCells68.toList 0 W1 (fun j hj => by simp at hj; simp [World.cell?, hb, hj]) (fun j hj => by simp [World.frozen?, hb]) hone
  rw [hr, key Tryd.zeroCells68.toList (0 + 0) _ Tryd.zeroCells68 hb (fun k hk => by simp)]



set_option maxRecDepth 100000 in
set_option maxHeartbeats 2000000 in
/-- slices.Grow of no slice. -/
theorem growZ_any (n : Nat) (w : World) (hn : n ≤ 1048576) :
    Calls Tryd.prog 92 #[.slice none 0 0, .int .i64 n] w fun e w' => ∃ v, e = .returned v ∧ w'.ownsRow w.heap.size 2 1 v 0 (valsZ []) ∧ Below w.heap.size w w' := by
  obtain ⟨i3, hi3, hd0, hd1, hd2⟩ := info_parts info2'
  by_cases h0 : n = 0
  · subst h0
    go_enter Tryd.func92, Tryd.ntmps92
    go_wp2
    go_ret
    exact ⟨_, rfl, ⟨rfl, .inl ⟨rfl, rfl⟩⟩, Below.refl _ _⟩
  · have hp : (0 : Int) < (n : Int) := by omega
    have hneg : ¬ (n : Int) < 0 := by omega
    have hrz := fun ty => Lib.run_append_nil_zeros (P := Tryd.prog) w 26 3 ty 2 i3 _ .i64 .i64 Tryd.underlying26 Tryd.underlying3 hi3 hd0 n (by omega) (by omega) (by omega) (by rw [hd2]; omega)
    have hG := grownCap_ge w n 0 2
    have hM := grownCap_le_maxLen w n 0 2 (by unfold maxLen; omega)
    have hM' := hM
    unfold maxLen at hM'
    generalize grownCap w n 0 2 = G at *
    have O : Hid ((w.drew.alloc (.cells (Builtin.zeroCells (Value.int .i64 0).cells n ++ Builtin.zeroCells (Value.int .i64 0).cells (G - n)) 2)).ownsRow w.heap.size 2 1 (.slice (some ⟨w.heap.size, 0, none⟩) 0 G) 0 (valsZ [])) := by
      refine ⟨rfl, .inr ⟨w.heap.size, G, _, rfl, Nat.le_refl _, new_at w.drew _, Nat.zero_le _, hM, ?_, rfl⟩⟩
      simp only [Array.size_append, size_zeroCells]
      rw [← Nat.add_mul, show (Value.int .i64 0).cells.size = 1 from rfl]
      congr 1
      omega
    have BL : Hid (Below w.heap.size w (w.drew.alloc (.cells (Builtin.zeroCells (Value.int .i64 0).cells n ++ Builtin.zeroCells (Value.int .i64 0).cells (G - n)) 2))) := bA ((Below.refl _ _).drew) _
    generalize Builtin.zeroCells (Value.int .i64 0).cells n ++ Builtin.zeroCells (Value.int .i64 0).cells (G - n) = vs at *
    go_enter Tryd.func92, Tryd.ntmps92
    go_wp2_with (at_builtin; refine Lib.wpList_append_run _ rfl _ _ _ _ rfl _ _ rfl rfl _ _ (hrz _) ?_)
    go_ret
    exact ⟨_, rfl, O.out, BL.out⟩

/-- All places of the rows, one behind the other. -/
def flatC (rows : List LCl) : List Int := rows.flatMap fun r => r.2
theorem flatC_step (rows : List LCl) (k : Nat) (h : k < rows.length) : flatC (rows.take (k + 1)) = flatC (rows.take k) ++ rows[k].2 := by
  unfold flatC
  rw [List.take_succ_eq_append_getElem h, List.flatMap_append]
  simp
theorem flatC_le (rows : List LCl) (k : Nat) : (flatC (rows.take k)).length ≤ (flatC rows).length := by
  have := congrArg (fun l => (flatC l).length) (List.take_append_drop k rows)
  simp only [flatC, List.flatMap_append, List.length_append] at this
  unfold flatC
  omega
set_option maxRecDepth 100000 in
set_option maxHeartbeats 4000000 in
/-- slices.Concat at places. -/
theorem catZ_any (sl : Option Addr) (cap : Nat) (rows : List LCl) (w : World) (hn : rows.length ≤ 1048576) (hT : (flatC rows).length ≤ 1048576) (hz : Cls w sl rows) :
    Calls Tryd.prog 56 #[.slice sl rows.length cap] w fun e w' => ∃ v, e = .returned v ∧ w'.ownsRow w.heap.size 2 1 v (flatC rows).length (valsZ (flatC rows)) ∧ Below w.heap.size w w' := by
  obtain ⟨i3, hi3, hd0, hd1, hd2⟩ := info_parts info2'
  have HZ := Lib.hid hz
  have EG := Lib.hid (fun (W : World) (q : Nat) (h : q ≤ 1048576) => growZ_any q W h)
  clear hz
  generalize hF : flatC rows = fl at *
  have HF := Lib.hid hF
  have FL := Lib.hid (fun k => flatC_le rows k)
  rw [hF] at FL
  clear hF
  generalize hN : rows.length = n at *
  have HN := Lib.hid hN
  clear hN
  go_enter Tryd.func56, Tryd.ntmps56
  go_wp2
  go_loopw [3, 11] (fun s i wr => ∃ (k q : Nat), i = .int .i64 k ∧ k ≤ n ∧ s = .int .i64 q ∧ q ≤ 1048576 ∧ Hid (q = (flatC (rows.take k)).length) ∧ wr = w) (fun _ i _ => n - (intOf i).toNat)
  case atStart => exact ⟨0, 0, rfl, Nat.zero_le _, rfl, Nat.zero_le _, rfl, rfl⟩
  case round =>
    obtain ⟨k, q, rfl, hk, rfl, hq, HQ, rfl⟩ := hrel
    have hk0 : (0 : Int) ≤ (k : Int) := by omega
    by_cases g1 : k < n
    · have g1' : (k : Int) < (n : Int) := by omega
      have hlt : k < rows.length := by rw [HN.out]; exact g1
      obtain ⟨c, o, rfl, cl, hcs⟩ := HZ.out.at hlt
      have hc := hcs k hlt
      obtain ⟨s1, k1, v1, -⟩ := HZ.out.each rows[k] (List.getElem_mem hlt)
      rw [v1] at hc
      have QN := Lib.hid (show q + rows[k].2.length = (flatC (rows.take (k + 1))).length by rw [flatC_step rows k hlt, List.length_append, HQ.out])
      have hq2 : q + rows[k].2.length ≤ 1048576 := by rw [QN.out]; have := FL.out (k + 1); omega
      clear hcs v1
      generalize rows[k].2.length = r at *
      clear hlt
      go_wp2
      go_roundw
      case rel => exact ⟨k + 1, q + r, by go_num, by omega, by go_num, hq2, QN, trivial⟩
      case measure => simp [intOf]; omega
    · have g1' : ¬ (k : Int) < (n : Int) := by omega
      have E := Lib.hid (EG.out wr q hq)
      clear EG HQ
      go_wp2_with fail
      refine E.out.mono ?_
      rintro e w1 ⟨v1, rfl, o1, b1⟩
      obtain ⟨C0, hC0⟩ : ∃ C0, C0 = wr.heap.size := ⟨_, rfl⟩
      have RD : Hid (∀ W, Below C0 w1 W → Cls W sl rows) := fun W hW => HZ.out.below (b1.trans (by rw [← hC0]; exact hW))
      have FB : Hid (∀ W, Below C0 w1 W → Below wr.heap.size wr W) := fun W hW => b1.trans (by rw [← hC0]; exact hW)
      have hs1 : C0 ≤ w1.heap.size := by rw [hC0]; exact b1.size
      have O1 : Hid (w1.ownsRow C0 2 1 v1 0 (valsZ [])) := by rw [hC0]; exact o1
      have OF : Hid (∀ (W : World) v xs, W.ownsRow C0 2 1 v fl.length xs → W.ownsRow wr.heap.size 2 1 v fl.length xs) := fun W v xs h => by rw [← hC0]; exact h
      clear o1 b1 E HZ hC0
      go_wp2
      go_loopw [6, 27] (fun v i wq => ∃ (k : Nat) (cu : List Int), i = .int .i64 k ∧ k ≤ n ∧ Hid (cu = flatC (rows.take k)) ∧ Hid (wq.ownsRow C0 2 1 v cu.length (valsZ cu)) ∧ Hid (Below C0 w1 wq)) (fun _ i _ => n - (intOf i).toNat)
      case atStart => exact ⟨0, [], rfl, Nat.zero_le _, rfl, O1, Below.refl _ _⟩
      case round =>
        obtain ⟨k, cu, rfl, hk, HC, OR, HB⟩ := hrel
        have hk0 : (0 : Int) ≤ (k : Int) := by omega
        by_cases g1 : k < n
        · have g1' : (k : Int) < (n : Int) := by omega
          have hlt : k < rows.length := by rw [HN.out]; exact g1
          have RW := RD.out _ HB.out
          obtain ⟨c, o, rfl, cl, hcs⟩ := RW.at hlt
          have hc := hcs k hlt
          obtain ⟨s1, k1, e1, p1, -⟩ := RW.each rows[k] (List.getElem_mem hlt)
          rw [e1] at hc
          have CS := Lib.hid (show cu ++ rows[k].2 = flatC (rows.take (k + 1)) by rw [HC.out]; exact (flatC_step rows k hlt).symm)
          have CL := Lib.hid (show (cu ++ rows[k].2).length ≤ 1048576 by rw [CS.out]; have := FL.out (k + 1); omega)
          obtain ⟨vsl, vcap, rfl⟩ := own_v OR.out
          have hlc : cu.length ≤ vcap := by
            rcases OR.out.2 with ⟨_, h0⟩ | ⟨g, cp, cur, hv, _, _, h5, _⟩
            · rw [h0]; exact Nat.zero_le _
            · cases hv; exact h5
          have hsw := HB.out.size
          clear hcs RW e1
          generalize rows[k].2 = r at *
          clear hlt
          by_cases hr : r = []
          · subst hr
            have CSE : Hid (cu = flatC (rows.take (k + 1))) := by have := CS.out; rwa [List.append_nil] at this
            have ha := app_none40 wr 99 vsl cu.length vcap hlc s1 k1
            go_wp2_with (at_builtin; refine Lib.wpList_append_run _ rfl _ _ _ _ rfl _ _ rfl rfl _ _ ha ?_)
            go_roundw
            case rel => exact ⟨k + 1, cu, by go_num, by omega, CSE, OR, HB⟩
            case measure => simp [intOf]; omega
          · obtain ⟨rc, ro, rfl, PA⟩ : ∃ c o, s1 = some ⟨c, o, none⟩ ∧ IntsAt wr c o r := by
              rcases p1 with h | h
              · exact absurd h hr
              · exact h
            have hrl : 0 < r.length := by
              cases r with
              | nil => exact absurd rfl hr
              | cons a t => simp
            have CL2 : cu.length + r.length ≤ 1048576 := by have := CL.out; rwa [List.length_append] at this
            have OL := Lib.hid (show ∀ j, (Value.slice vsl cu.length vcap).ownBlock = some j → C0 ≤ j from fun j hj => (OR.out.lt j hj).1)
            go_wp2_with (at_builtin; refine wpList_append_lies _ rfl (.tmp 31) (.tmp 32) 26 rfl C0 2 i3 (.int .i64 0) 1 8 Tryd.underlying26 hi3 hd0 hd1 hd2 rfl (by decide) _ _ _ rfl OR.out ⟨rc, ro, none⟩ r.length k1 (valsZ r) rfl (valsZ_len1 r) (int_cells PA) (valsZ_one r) hrl (by unfold maxLen; omega) (by omega) (by omega) wr.heap.size rfl ?_)
            intro g9 cap9 w9 own9 grow9 hg9 hlt9
            have O9 : Hid (w9.ownsRow C0 2 1 (.slice (some ⟨g9, 0, none⟩) (cu.length + r.length) cap9) (cu ++ r).length (valsZ (cu ++ r))) := by
              rw [valsZ_add, List.length_append]; exact own9
            have B9 := Lib.hid (HB.out.grown grow9 (by omega) (fun j hj => OL.out j hj))
            clear own9 grow9 hg9 hlt9 OR HB OL p1 PA
            go_wp2
            go_roundw
            case rel => exact ⟨k + 1, cu ++ r, by go_num, by omega, CS, O9, B9⟩
            case measure => simp [intOf]; omega
        · have g1' : ¬ (k : Int) < (n : Int) := by omega
          have P := Lib.hid (show cu = fl by rw [HC.out, List.take_of_length_le (by rw [HN.out]; omega), HF.out])
          have O9 := OR.out
          rw [P.out] at O9
          have OO := Lib.hid (OF.out _ _ _ O9)
          have BB := Lib.hid (FB.out _ HB.out)
          clear O9 OR HC P
          go_wp2
          go_ret
          exact ⟨_, rfl, OO.out, BB.out⟩


end Go.Proofs.YtoobcodlgajieaaDoor
