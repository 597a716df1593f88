/-
  ROWS PUT TOGETHER: slices.Grow of none, slices.Concat, at numbers.
  ROWS OF SLICES PUT TOGETHER: slices.Grow of none, slices.Concat, at []int64; impl.clausesWith.
  WHAT FOLLOWS AT ONCE, as lists; values.follow, impl.listsRight.
-/
import Derived.Test.YtendehejodgljaaJab
import Derived.Test.YtendehejodgljaaJac
namespace Go.Proofs.Ytendehejodgljaa
open Go.RowKit
set_option linter.unusedVariables false

theorem valsZ_one (zs : List Int) : ∀ u ∈ valsZ zs, u.oneCell' = true := by
  intro u hu
  unfold valsZ at hu
  obtain ⟨p, _, rfl⟩ := List.mem_map.1 hu
  rfl
theorem valsZ_len1 (zs : List Int) : (valsZ zs).length = zs.length * 1 := by simp [valsZ]
theorem int_cells {w : World} {c o : Nat} {zs : List Int} (h : IntsAt w c o zs) : ∀ (j : Nat) (u : Value), (valsZ zs)[j]? = some u → w.cell? ((⟨c, o, none⟩ : Addr).add j) = some u := by
  intro j u hu
  have hl : j < zs.length := by
    have := (List.getElem?_eq_some_iff.1 hu).1
    simpa [valsZ] using this
  rw [at_add, h.2 j hl, ← hu]
  simp [valsZ, hl]
theorem app_none40 (w : World) (ty : TypeId) (base : Option Addr) (n cap : Nat) (hle : n ≤ cap) (p : Option Addr) (c : Nat) :
    (Builtin.append_ #[26, 26] ty #[.slice base n cap, .slice p 0 c]).run Try.prog w = .ok (.slice base n cap) w := by
  obtain ⟨i, h1, h2, h3, h4⟩ := info_parts info2'
  refine run_append_nothing w 26 26 ty 2 i Try.underlying26 h1 base n cap hle _ ?_
  cases p with
  | none => exact Src.ofNil _ Try.underlying26 c
  | some a => exact Src.ofSlice _ Try.underlying26 a 0 c [] (by simp) (fun j u h => by simp at h) (fun u h => by cases h)

set_option maxRecDepth 100000 in
set_option maxHeartbeats 2000000 in
/-- slices.Grow of no slice. -/
theorem growZ_any (n : Nat) (w : World) (hn : n ≤ 1048576) :
    Calls Try.prog 62 #[.slice none 0 0, .int .i64 n] w fun e w' => ∃ v, e = .returned v ∧ w'.ownsRow w.heap.size 2 1 v 0 (valsZ []) ∧ Below w.heap.size w w' := by
  obtain ⟨i3, hi3, hd0, hd1, hd2⟩ := info_parts info2'
  by_cases h0 : n = 0
  · subst h0
    go_enter Try.func62, Try.ntmps62
    go_wp2
    go_ret
    exact ⟨_, rfl, ⟨rfl, .inl ⟨rfl, rfl⟩⟩, Below.refl _ _⟩
  · have hp : (0 : Int) < (n : Int) := by omega
    have hneg : ¬ (n : Int) < 0 := by omega
    have hrz := fun ty => Lib.run_append_nil_zeros (P := Try.prog) w 26 3 ty 2 i3 _ .i64 .i64 Try.underlying26 Try.underlying3 hi3 hd0 n (by omega) (by omega) (by omega) (by rw [hd2]; omega)
    have hG := grownCap_ge w n 0 2
    have hM := grownCap_le_maxLen w n 0 2 (by unfold maxLen; omega)
    have hM' := hM
    unfold maxLen at hM'
    generalize grownCap w n 0 2 = G at *
    have O : Hid ((w.drew.alloc (.cells (Builtin.zeroCells (Value.int .i64 0).cells n ++ Builtin.zeroCells (Value.int .i64 0).cells (G - n)) 2)).ownsRow w.heap.size 2 1 (.slice (some ⟨w.heap.size, 0, none⟩) 0 G) 0 (valsZ [])) := by
      refine ⟨rfl, .inr ⟨w.heap.size, G, _, rfl, Nat.le_refl _, new_at w.drew _, Nat.zero_le _, hM, ?_, rfl⟩⟩
      simp only [Array.size_append, size_zeroCells]
      rw [← Nat.add_mul, show (Value.int .i64 0).cells.size = 1 from rfl]
      congr 1
      omega
    have BL : Hid (Below w.heap.size w (w.drew.alloc (.cells (Builtin.zeroCells (Value.int .i64 0).cells n ++ Builtin.zeroCells (Value.int .i64 0).cells (G - n)) 2))) := bA ((Below.refl _ _).drew) _
    generalize Builtin.zeroCells (Value.int .i64 0).cells n ++ Builtin.zeroCells (Value.int .i64 0).cells (G - n) = vs at *
    go_enter Try.func62, Try.ntmps62
    go_wp2_with (at_builtin; refine Lib.wpList_append_run _ rfl _ _ _ _ rfl _ _ rfl rfl _ _ (hrz _) ?_)
    go_ret
    exact ⟨_, rfl, O.out, BL.out⟩

/-- All places of the rows, one behind the other. -/
def flatC (rows : List LCl) : List Int := rows.flatMap fun r => r.2
theorem flatC_step (rows : List LCl) (k : Nat) (h : k < rows.length) : flatC (rows.take (k + 1)) = flatC (rows.take k) ++ rows[k].2 := by
  unfold flatC
  rw [List.take_succ_eq_append_getElem h, List.flatMap_append]
  simp
theorem flatC_le (rows : List LCl) (k : Nat) : (flatC (rows.take k)).length ≤ (flatC rows).length := by
  have := congrArg (fun l => (flatC l).length) (List.take_append_drop k rows)
  simp only [flatC, List.flatMap_append, List.length_append] at this
  unfold flatC
  omega
set_option maxRecDepth 100000 in
set_option maxHeartbeats 4000000 in
/-- slices.Concat at places. -/
theorem catZ_any (sl : Option Addr) (cap : Nat) (rows : List LCl) (w : World) (hn : rows.length ≤ 1048576) (hT : (flatC rows).length ≤ 1048576) (hz : Cls w sl rows) :
    Calls Try.prog 42 #[.slice sl rows.length cap] w fun e w' => ∃ v, e = .returned v ∧ w'.ownsRow w.heap.size 2 1 v (flatC rows).length (valsZ (flatC rows)) ∧ Below w.heap.size w w' := by
  obtain ⟨i3, hi3, hd0, hd1, hd2⟩ := info_parts info2'
  have HZ := Lib.hid hz
  have EG := Lib.hid (fun (W : World) (q : Nat) (h : q ≤ 1048576) => growZ_any q W h)
  clear hz
  generalize hF : flatC rows = fl at *
  have HF := Lib.hid hF
  have FL := Lib.hid (fun k => flatC_le rows k)
  rw [hF] at FL
  clear hF
  generalize hN : rows.length = n at *
  have HN := Lib.hid hN
  clear hN
  go_enter Try.func42, Try.ntmps42
  go_wp2
  go_loopw [3, 11] (fun s i wr => ∃ (k q : Nat), i = .int .i64 k ∧ k ≤ n ∧ s = .int .i64 q ∧ q ≤ 1048576 ∧ Hid (q = (flatC (rows.take k)).length) ∧ wr = w) (fun _ i _ => n - (intOf i).toNat)
  case atStart => exact ⟨0, 0, rfl, Nat.zero_le _, rfl, Nat.zero_le _, rfl, rfl⟩
  case round =>
    obtain ⟨k, q, rfl, hk, rfl, hq, HQ, rfl⟩ := hrel
    have hk0 : (0 : Int) ≤ (k : Int) := by omega
    by_cases g1 : k < n
    · have g1' : (k : Int) < (n : Int) := by omega
      have hlt : k < rows.length := by rw [HN.out]; exact g1
      obtain ⟨c, o, rfl, cl, hcs⟩ := HZ.out.at hlt
      have hc := hcs k hlt
      obtain ⟨s1, k1, v1, -⟩ := HZ.out.each rows[k] (List.getElem_mem hlt)
      rw [v1] at hc
      have QN := Lib.hid (show q + rows[k].2.length = (flatC (rows.take (k + 1))).length by rw [flatC_step rows k hlt, List.length_append, HQ.out])
      have hq2 : q + rows[k].2.length ≤ 1048576 := by rw [QN.out]; have := FL.out (k + 1); omega
      clear hcs v1
      generalize rows[k].2.length = r at *
      clear hlt
      go_wp2
      go_roundw
      case rel => exact ⟨k + 1, q + r, by go_num, by omega, by go_num, hq2, QN, trivial⟩
      case measure => simp [intOf]; omega
    · have g1' : ¬ (k : Int) < (n : Int) := by omega
      have E := Lib.hid (EG.out wr q hq)
      clear EG HQ
      go_wp2_with fail
      refine E.out.mono ?_
      rintro e w1 ⟨v1, rfl, o1, b1⟩
      obtain ⟨C0, hC0⟩ : ∃ C0, C0 = wr.heap.size := ⟨_, rfl⟩
      have RD : Hid (∀ W, Below C0 w1 W → Cls W sl rows) := fun W hW => HZ.out.below (b1.trans (by rw [← hC0]; exact hW))
      have FB : Hid (∀ W, Below C0 w1 W → Below wr.heap.size wr W) := fun W hW => b1.trans (by rw [← hC0]; exact hW)
      have hs1 : C0 ≤ w1.heap.size := by rw [hC0]; exact b1.size
      have O1 : Hid (w1.ownsRow C0 2 1 v1 0 (valsZ [])) := by rw [hC0]; exact o1
      have OF : Hid (∀ (W : World) v xs, W.ownsRow C0 2 1 v fl.length xs → W.ownsRow wr.heap.size 2 1 v fl.length xs) := fun W v xs h => by rw [← hC0]; exact h
      clear o1 b1 E HZ hC0
      go_wp2
      go_loopw [6, 27] (fun v i wq => ∃ (k : Nat) (cu : List Int), i = .int .i64 k ∧ k ≤ n ∧ Hid (cu = flatC (rows.take k)) ∧ Hid (wq.ownsRow C0 2 1 v cu.length (valsZ cu)) ∧ Hid (Below C0 w1 wq)) (fun _ i _ => n - (intOf i).toNat)
      case atStart => exact ⟨0, [], rfl, Nat.zero_le _, rfl, O1, Below.refl _ _⟩
      case round =>
        obtain ⟨k, cu, rfl, hk, HC, OR, HB⟩ := hrel
        have hk0 : (0 : Int) ≤ (k : Int) := by omega
        by_cases g1 : k < n
        · have g1' : (k : Int) < (n : Int) := by omega
          have hlt : k < rows.length := by rw [HN.out]; exact g1
          have RW := RD.out _ HB.out
          obtain ⟨c, o, rfl, cl, hcs⟩ := RW.at hlt
          have hc := hcs k hlt
          obtain ⟨s1, k1, e1, p1, -⟩ := RW.each rows[k] (List.getElem_mem hlt)
          rw [e1] at hc
          have CS := Lib.hid (show cu ++ rows[k].2 = flatC (rows.take (k + 1)) by rw [HC.out]; exact (flatC_step rows k hlt).symm)
          have CL := Lib.hid (show (cu ++ rows[k].2).length ≤ 1048576 by rw [CS.out]; have := FL.out (k + 1); omega)
          obtain ⟨vsl, vcap, rfl⟩ := own_v OR.out
          have hlc : cu.length ≤ vcap := by
            rcases OR.out.2 with ⟨_, h0⟩ | ⟨g, cp, cur, hv, _, _, h5, _⟩
            · rw [h0]; exact Nat.zero_le _
            · cases hv; exact h5
          have hsw := HB.out.size
          clear hcs RW e1
          generalize rows[k].2 = r at *
          clear hlt
          by_cases hr : r = []
          · subst hr
            have CSE : Hid (cu = flatC (rows.take (k + 1))) := by have := CS.out; rwa [List.append_nil] at this
            have ha := app_none40 wr 99 vsl cu.length vcap hlc s1 k1
            go_wp2_with (at_builtin; refine Lib.wpList_append_run _ rfl _ _ _ _ rfl _ _ rfl rfl _ _ ha ?_)
            go_roundw
            case rel => exact ⟨k + 1, cu, by go_num, by omega, CSE, OR, HB⟩
            case measure => simp [intOf]; omega
          · obtain ⟨rc, ro, rfl, PA⟩ : ∃ c o, s1 = some ⟨c, o, none⟩ ∧ IntsAt wr c o r := by
              rcases p1 with h | h
              · exact absurd h hr
              · exact h
            have hrl : 0 < r.length := by
              cases r with
              | nil => exact absurd rfl hr
              | cons a t => simp
            have CL2 : cu.length + r.length ≤ 1048576 := by have := CL.out; rwa [List.length_append] at this
            have OL := Lib.hid (show ∀ j, (Value.slice vsl cu.length vcap).ownBlock = some j → C0 ≤ j from fun j hj => (OR.out.lt j hj).1)
            go_wp2_with (at_builtin; refine wpList_append_lies _ rfl (.tmp 31) (.tmp 32) 26 rfl C0 2 i3 (.int .i64 0) 1 8 Try.underlying26 hi3 hd0 hd1 hd2 rfl (by decide) _ _ _ rfl OR.out ⟨rc, ro, none⟩ r.length k1 (valsZ r) rfl (valsZ_len1 r) (int_cells PA) (valsZ_one r) hrl (by unfold maxLen; omega) (by omega) (by omega) wr.heap.size rfl ?_)
            intro g9 cap9 w9 own9 grow9 hg9 hlt9
            have O9 : Hid (w9.ownsRow C0 2 1 (.slice (some ⟨g9, 0, none⟩) (cu.length + r.length) cap9) (cu ++ r).length (valsZ (cu ++ r))) := by
              rw [valsZ_add, List.length_append]; exact own9
            have B9 := Lib.hid (HB.out.grown grow9 (by omega) (fun j hj => OL.out j hj))
            clear own9 grow9 hg9 hlt9 OR HB OL p1 PA
            go_wp2
            go_roundw
            case rel => exact ⟨k + 1, cu ++ r, by go_num, by omega, CS, O9, B9⟩
            case measure => simp [intOf]; omega
        · have g1' : ¬ (k : Int) < (n : Int) := by omega
          have P := Lib.hid (show cu = fl by rw [HC.out, List.take_of_length_le (by rw [HN.out]; omega), HF.out])
          have O9 := OR.out
          rw [P.out] at O9
          have OO := Lib.hid (OF.out _ _ _ O9)
          have BB := Lib.hid (FB.out _ HB.out)
          clear O9 OR HC P
          go_wp2
          go_ret
          exact ⟨_, rfl, OO.out, BB.out⟩

end Go.Proofs.Ytendehejodgljaa
namespace Go.Proofs.Ytendehejodgljaa
open Go.RowKit
set_option linter.unusedVariables false

/-- A row of values of one cell each: its slice, the values. -/
abbrev VRw := Value × List Value
def VLie (w : World) (sl : Option Addr) (us : List Value) : Prop := us = [] ∨ ∃ c o, sl = some ⟨c, o, none⟩ ∧ c < w.heap.size ∧ ∀ (j : Nat) (u : Value), us[j]? = some u → w.cell? ((⟨c, o, none⟩ : Addr).add j) = some u
theorem VLie.below {w w' : World} {sl : Option Addr} {us : List Value} (h : VLie w sl us) (hb : Below w.heap.size w w') : VLie w' sl us := by
  rcases h with h | ⟨c, o, e, hl, hc⟩
  · exact .inl h
  · refine .inr ⟨c, o, e, Nat.lt_of_lt_of_le hl hb.size, fun j u hu => ?_⟩
    have := hc j u hu
    rw [at_add] at this ⊢
    exact (hb.cell (p := ⟨c, o + j, none⟩) hl).trans this
/-- Rows of such. -/
structure VRws (w : World) (sl : Option Addr) (rows : List VRw) : Prop where
  row : rows = [] ∨ ∃ c o, sl = some ⟨c, o, none⟩ ∧ c < w.heap.size ∧ ∀ i (h : i < rows.length), w.cell? ⟨c, o + i, none⟩ = some rows[i].1
  each : ∀ r ∈ rows, ∃ s k, r.1 = .slice s r.2.length k ∧ VLie w s r.2 ∧ ∀ u ∈ r.2, u.oneCell' = true
theorem VRws.below {w w' : World} {sl : Option Addr} {rows : List VRw} (h : VRws w sl rows) (hb : Below w.heap.size w w') : VRws w' sl rows := by
  refine ⟨?_, fun r hr => ?_⟩
  · rcases h.row with h | ⟨c, o, e, hl, hc⟩
    · exact .inl h
    · exact .inr ⟨c, o, e, Nat.lt_of_lt_of_le hl hb.size, fun i hi => (hb.cell (p := ⟨c, o + i, none⟩) hl).trans (hc i hi)⟩
  · obtain ⟨s, k, e, hv, h1⟩ := h.each r hr
    exact ⟨s, k, e, hv.below hb, h1⟩
theorem VRws.at {w : World} {sl : Option Addr} {rows : List VRw} (h : VRws w sl rows) {k : Nat} (hk : k < rows.length) : ∃ c o, sl = some ⟨c, o, none⟩ ∧ c < w.heap.size ∧ ∀ i (h : i < rows.length), w.cell? ⟨c, o + i, none⟩ = some rows[i].1 := by
  rcases h.row with h | h
  · rw [h] at hk; simp at hk
  · exact h

theorem app_noneV (w : World) (ty : TypeId) (base : Option Addr) (n cap : Nat) (hle : n ≤ cap) (p : Option Addr) (c : Nat) :
    (Builtin.append_ #[23, 23] ty #[.slice base n cap, .slice p 0 c]).run Try.prog w = .ok (.slice base n cap) w := by
  obtain ⟨i, h1, h2, h3, h4⟩ := info_parts info40
  refine run_append_nothing w 23 23 ty 26 i Try.underlying23 h1 base n cap hle _ ?_
  cases p with
  | none => exact Src.ofNil _ Try.underlying23 c
  | some a => exact Src.ofSlice _ Try.underlying23 a 0 c [] (by simp) (fun j u h => by simp at h) (fun u h => by cases h)

set_option maxRecDepth 100000 in
set_option maxHeartbeats 2000000 in
/-- slices.Grow of no slice. -/
theorem growV_any (n : Nat) (w : World) (hn : n ≤ 1048576) :
    Calls Try.prog 71 #[.slice none 0 0, .int .i64 n] w fun e w' => ∃ v, e = .returned v ∧ w'.ownsRow w.heap.size 26 1 v 0 [] ∧ Below w.heap.size w w' := by
  obtain ⟨i3, hi3, hd0, hd1, hd2⟩ := info_parts info40
  by_cases h0 : n = 0
  · subst h0
    go_enter Try.func71, Try.ntmps71
    go_wp2
    go_ret
    exact ⟨_, rfl, ⟨rfl, .inl ⟨rfl, rfl⟩⟩, Below.refl _ _⟩
  · have hp : (0 : Int) < (n : Int) := by omega
    have hneg : ¬ (n : Int) < 0 := by omega
    have hrz := fun ty => Lib.run_append_nil_zeros (P := Try.prog) w 23 3 ty 26 i3 _ .i64 .i64 Try.underlying23 Try.underlying3 hi3 hd0 n (by omega) (by omega) (by omega) (by rw [hd2]; omega)
    have hG := grownCap_ge w n 0 26
    have hM := grownCap_le_maxLen w n 0 26 (by unfold maxLen; omega)
    have hM' := hM
    unfold maxLen at hM'
    generalize grownCap w n 0 26 = G at *
    have O : Hid ((w.drew.alloc (.cells (Builtin.zeroCells (Value.slice none 0 0).cells n ++ Builtin.zeroCells (Value.slice none 0 0).cells (G - n)) 26)).ownsRow w.heap.size 26 1 (.slice (some ⟨w.heap.size, 0, none⟩) 0 G) 0 []) := by
      refine ⟨rfl, .inr ⟨w.heap.size, G, _, rfl, Nat.le_refl _, new_at w.drew _, Nat.zero_le _, hM, ?_, rfl⟩⟩
      simp only [Array.size_append, size_zeroCells]
      rw [← Nat.add_mul, show (Value.slice none 0 0).cells.size = 1 from rfl]
      congr 1
      omega
    have BL : Hid (Below w.heap.size w (w.drew.alloc (.cells (Builtin.zeroCells (Value.slice none 0 0).cells n ++ Builtin.zeroCells (Value.slice none 0 0).cells (G - n)) 26))) := bA ((Below.refl _ _).drew) _
    generalize Builtin.zeroCells (Value.slice none 0 0).cells n ++ Builtin.zeroCells (Value.slice none 0 0).cells (G - n) = vs at *
    go_enter Try.func71, Try.ntmps71
    go_wp2_with (at_builtin; refine Lib.wpList_append_run _ rfl _ _ _ _ rfl _ _ rfl rfl _ _ (hrz _) ?_)
    go_ret
    exact ⟨_, rfl, O.out, BL.out⟩

/-- All places of the rows, one behind the other. -/
def flatV (rows : List VRw) : List Value := rows.flatMap fun r => r.2
theorem flatV_step (rows : List VRw) (k : Nat) (h : k < rows.length) : flatV (rows.take (k + 1)) = flatV (rows.take k) ++ rows[k].2 := by
  unfold flatV
  rw [List.take_succ_eq_append_getElem h, List.flatMap_append]
  simp
theorem flatV_le (rows : List VRw) (k : Nat) : (flatV (rows.take k)).length ≤ (flatV rows).length := by
  have := congrArg (fun l => (flatV l).length) (List.take_append_drop k rows)
  simp only [flatV, List.flatMap_append, List.length_append] at this
  unfold flatV
  omega
set_option maxRecDepth 100000 in
set_option maxHeartbeats 4000000 in
/-- slices.Concat at places. -/
theorem catV_any (sl : Option Addr) (cap : Nat) (rows : List VRw) (w : World) (hn : rows.length ≤ 1048576) (hT : (flatV rows).length ≤ 1048576) (hz : VRws w sl rows) :
    Calls Try.prog 61 #[.slice sl rows.length cap] w fun e w' => ∃ v, e = .returned v ∧ w'.ownsRow w.heap.size 26 1 v (flatV rows).length (flatV rows) ∧ Below w.heap.size w w' := by
  obtain ⟨i3, hi3, hd0, hd1, hd2⟩ := info_parts info40
  have HZ := Lib.hid hz
  have EG := Lib.hid (fun (W : World) (q : Nat) (h : q ≤ 1048576) => growV_any q W h)
  clear hz
  generalize hF : flatV rows = fl at *
  have HF := Lib.hid hF
  have FL := Lib.hid (fun k => flatV_le rows k)
  rw [hF] at FL
  clear hF
  generalize hN : rows.length = n at *
  have HN := Lib.hid hN
  clear hN
  go_enter Try.func61, Try.ntmps61
  go_wp2
  go_loopw [3, 11] (fun s i wr => ∃ (k q : Nat), i = .int .i64 k ∧ k ≤ n ∧ s = .int .i64 q ∧ q ≤ 1048576 ∧ Hid (q = (flatV (rows.take k)).length) ∧ wr = w) (fun _ i _ => n - (intOf i).toNat)
  case atStart => exact ⟨0, 0, rfl, Nat.zero_le _, rfl, Nat.zero_le _, rfl, rfl⟩
  case round =>
    obtain ⟨k, q, rfl, hk, rfl, hq, HQ, rfl⟩ := hrel
    have hk0 : (0 : Int) ≤ (k : Int) := by omega
    by_cases g1 : k < n
    · have g1' : (k : Int) < (n : Int) := by omega
      have hlt : k < rows.length := by rw [HN.out]; exact g1
      obtain ⟨c, o, rfl, cl, hcs⟩ := HZ.out.at hlt
      have hc := hcs k hlt
      obtain ⟨s1, k1, v1, -⟩ := HZ.out.each rows[k] (List.getElem_mem hlt)
      rw [v1] at hc
      have QN := Lib.hid (show q + rows[k].2.length = (flatV (rows.take (k + 1))).length by rw [flatV_step rows k hlt, List.length_append, HQ.out])
      have hq2 : q + rows[k].2.length ≤ 1048576 := by rw [QN.out]; have := FL.out (k + 1); omega
      clear hcs v1
      generalize rows[k].2.length = r at *
      clear hlt
      go_wp2
      go_roundw
      case rel => exact ⟨k + 1, q + r, by go_num, by omega, by go_num, hq2, QN, trivial⟩
      case measure => simp [intOf]; omega
    · have g1' : ¬ (k : Int) < (n : Int) := by omega
      have E := Lib.hid (EG.out wr q hq)
      clear EG HQ
      go_wp2_with fail
      refine E.out.mono ?_
      rintro e w1 ⟨v1, rfl, o1, b1⟩
      obtain ⟨C0, hC0⟩ : ∃ C0, C0 = wr.heap.size := ⟨_, rfl⟩
      have RD : Hid (∀ W, Below C0 w1 W → VRws W sl rows) := fun W hW => HZ.out.below (b1.trans (by rw [← hC0]; exact hW))
      have FB : Hid (∀ W, Below C0 w1 W → Below wr.heap.size wr W) := fun W hW => b1.trans (by rw [← hC0]; exact hW)
      have hs1 : C0 ≤ w1.heap.size := by rw [hC0]; exact b1.size
      have O1 : Hid (w1.ownsRow C0 26 1 v1 0 []) := by rw [hC0]; exact o1
      have OF : Hid (∀ (W : World) v xs, W.ownsRow C0 26 1 v fl.length xs → W.ownsRow wr.heap.size 26 1 v fl.length xs) := fun W v xs h => by rw [← hC0]; exact h
      clear o1 b1 E HZ hC0
      go_wp2
      go_loopw [6, 27] (fun v i wq => ∃ (k : Nat) (cu : List Value), i = .int .i64 k ∧ k ≤ n ∧ Hid (cu = flatV (rows.take k)) ∧ Hid (wq.ownsRow C0 26 1 v cu.length cu) ∧ Hid (Below C0 w1 wq)) (fun _ i _ => n - (intOf i).toNat)
      case atStart => exact ⟨0, [], rfl, Nat.zero_le _, rfl, O1, Below.refl _ _⟩
      case round =>
        obtain ⟨k, cu, rfl, hk, HC, OR, HB⟩ := hrel
        have hk0 : (0 : Int) ≤ (k : Int) := by omega
        by_cases g1 : k < n
        · have g1' : (k : Int) < (n : Int) := by omega
          have hlt : k < rows.length := by rw [HN.out]; exact g1
          have RW := RD.out _ HB.out
          obtain ⟨c, o, rfl, cl, hcs⟩ := RW.at hlt
          have hc := hcs k hlt
          obtain ⟨s1, k1, e1, p1, ON⟩ := RW.each rows[k] (List.getElem_mem hlt)
          rw [e1] at hc
          have CS := Lib.hid (show cu ++ rows[k].2 = flatV (rows.take (k + 1)) by rw [HC.out]; exact (flatV_step rows k hlt).symm)
          have CL := Lib.hid (show (cu ++ rows[k].2).length ≤ 1048576 by rw [CS.out]; have := FL.out (k + 1); omega)
          obtain ⟨vsl, vcap, rfl⟩ := own_v OR.out
          have hlc : cu.length ≤ vcap := by
            rcases OR.out.2 with ⟨_, h0⟩ | ⟨g, cp, cur, hv, _, _, h5, _⟩
            · rw [h0]; exact Nat.zero_le _
            · cases hv; exact h5
          have hsw := HB.out.size
          clear hcs RW e1
          generalize rows[k].2 = r at *
          clear hlt
          by_cases hr : r = []
          · subst hr
            have CSE : Hid (cu = flatV (rows.take (k + 1))) := by have := CS.out; rwa [List.append_nil] at this
            have ha := app_noneV wr 99 vsl cu.length vcap hlc s1 k1
            go_wp2_with (at_builtin; refine Lib.wpList_append_run _ rfl _ _ _ _ rfl _ _ rfl rfl _ _ ha ?_)
            go_roundw
            case rel => exact ⟨k + 1, cu, by go_num, by omega, CSE, OR, HB⟩
            case measure => simp [intOf]; omega
          · obtain ⟨rc, ro, rfl, PA⟩ : ∃ c o, s1 = some ⟨c, o, none⟩ ∧ (∀ (j : Nat) (u : Value), r[j]? = some u → wr.cell? ((⟨c, o, none⟩ : Addr).add j) = some u) := by
              rcases p1 with h | h
              · exact absurd h hr
              · obtain ⟨c, o, e, _, h⟩ := h; exact ⟨c, o, e, h⟩
            have hrl : 0 < r.length := by
              cases r with
              | nil => exact absurd rfl hr
              | cons a t => simp
            have CL2 : cu.length + r.length ≤ 1048576 := by have := CL.out; rwa [List.length_append] at this
            have OL := Lib.hid (show ∀ j, (Value.slice vsl cu.length vcap).ownBlock = some j → C0 ≤ j from fun j hj => (OR.out.lt j hj).1)
            go_wp2_with (at_builtin; refine wpList_append_lies _ rfl (.tmp 31) (.tmp 32) 23 rfl C0 26 i3 (.slice none 0 0) 1 24 Try.underlying23 hi3 hd0 hd1 hd2 rfl (by decide) _ _ _ rfl OR.out ⟨rc, ro, none⟩ r.length k1 r rfl (Nat.mul_one _).symm PA ON hrl (by unfold maxLen; omega) (by omega) (by omega) wr.heap.size rfl ?_)
            intro g9 cap9 w9 own9 grow9 hg9 hlt9
            have O9 : Hid (w9.ownsRow C0 26 1 (.slice (some ⟨g9, 0, none⟩) (cu.length + r.length) cap9) (cu ++ r).length (cu ++ r)) := by
              rw [List.length_append]; exact own9
            have B9 := Lib.hid (HB.out.grown grow9 (by omega) (fun j hj => OL.out j hj))
            clear own9 grow9 hg9 hlt9 OR HB OL p1 PA
            go_wp2
            go_roundw
            case rel => exact ⟨k + 1, cu ++ r, by go_num, by omega, CS, O9, B9⟩
            case measure => simp [intOf]; omega
        · have g1' : ¬ (k : Int) < (n : Int) := by omega
          have P := Lib.hid (show cu = fl by rw [HC.out, List.take_of_length_le (by rw [HN.out]; omega), HF.out])
          have O9 := OR.out
          rw [P.out] at O9
          have OO := Lib.hid (OF.out _ _ _ O9)
          have BB := Lib.hid (FB.out _ HB.out)
          clear O9 OR HC P
          go_wp2
          go_ret
          exact ⟨_, rfl, OO.out, BB.out⟩


theorem info108 : (Try.prog.info? 108).map (fun i => (i.zero, i.size, i.bytes)) = some (some (.slice none 0 0), 1, 24) := by kernel_rfl
theorem hdC_one {w : World} {cs : List LCl} (h : ∀ r ∈ cs, ClIn w r) : ∀ u ∈ hdC cs, u.oneCell' = true := by
  intro u hu
  obtain ⟨r, hr, rfl⟩ := List.mem_map.1 hu
  obtain ⟨sl, cap, e, _⟩ := h r hr
  rw [e]
  rfl
theorem Cls.lie {w : World} {sl : Option Addr} {cs : List LCl} (h : Cls w sl cs) : VLie w sl (hdC cs) := by
  rcases h.row with h | ⟨c, o, e, hl, hc⟩
  · exact .inl (by rw [h]; rfl)
  · refine .inr ⟨c, o, e, hl, fun j u hu => ?_⟩
    have hj : j < cs.length := by
      have := (List.getElem?_eq_some_iff.1 hu).1
      rwa [hdC_len] at this
    rw [at_add, hc j hj, ← hu]
    simp [hdC, hj]
theorem flatV_two (a b : VRw) : flatV [a, b] = a.2 ++ b.2 := by simp [flatV]
theorem hdC_step (cs : List LCl) (k : Nat) (h : k < cs.length) : hdC (cs.take (k + 1)) = hdC (cs.take k) ++ [cs[k].1] := by
  rw [List.take_succ_eq_append_getElem h, hdC_add]
  rfl
theorem two_row (w : World) (a b : Value) (t : TypeId) : (w.alloc (.cells #[a, b] t)).cell? ⟨w.heap.size, 0, none⟩ = some a ∧ (w.alloc (.cells #[a, b] t)).cell? ⟨w.heap.size, 1, none⟩ = some b := by
  have := new_at w (.cells #[a, b] t)
  generalize w.alloc (.cells #[a, b] t) = W at *
  constructor <;> simp [World.cell?, this]

set_option maxRecDepth 100000 in
set_option maxHeartbeats 4000000 in
/-- impl.clausesWith. -/
theorem cw_any (vars : Int) (sl : Option Addr) (cap : Nat) (cs : List LCl) (sl2 : Option Addr) (cap2 : Nat) (ds : List LCl) (w : World) (hn : cs.length ≤ 100000) (hm : ds.length ≤ 100000) (hz : Cls w sl cs) (ht : Cls w sl2 ds) :
    Calls Try.prog 41 #[CV vars sl cs.length cap, .slice sl2 ds.length cap2] w fun e w' => ∃ v, e = .returned v ∧ w'.ownsRow w.heap.size 108 1 v (cs ++ ds).length (hdC (cs ++ ds)) ∧ Below w.heap.size w w' := by
  obtain ⟨i3, hi3, hd0, hd1, hd2⟩ := info_parts info108
  have CA := Lib.hid (CnfAt.new w vars sl cs.length cap)
  have B0 := Lib.hid (bA0 w (.cells #[.int .i64 vars, .slice sl cs.length cap] 25))
  have hs0 : (w.alloc (.cells #[.int .i64 vars, .slice sl cs.length cap] 25)).heap.size = w.heap.size + 1 := by simp
  have LH := Lib.hid (show ∀ (k : Nat) (r : LCl), (cs ++ ds)[k]? = some r → ∃ s q kc, r.1 = .slice s q kc from fun k r hk => by
    rcases List.mem_append.1 (List.mem_of_getElem? hk) with h | h
    · obtain ⟨s, kc, e, _⟩ := hz.each r h
      exact ⟨s, _, kc, e⟩
    · obtain ⟨s, kc, e, _⟩ := ht.each r h
      exact ⟨s, _, kc, e⟩)
  have CC : Hid (∀ W, Below w.heap.size w W → Calls Try.prog 61 #[.slice (some ⟨W.heap.size, 0, none⟩) 2 2] (W.alloc (.cells #[.slice sl cs.length cap, .slice sl2 ds.length cap2] 23)) fun e w' => ∃ v, e = .returned v ∧ w'.ownsRow (W.heap.size + 1) 26 1 v (cs ++ ds).length (hdC (cs ++ ds)) ∧ Below (W.heap.size + 1) (W.alloc (.cells #[.slice sl cs.length cap, .slice sl2 ds.length cap2] 23)) w') := fun W hW => by
    have hb : Below w.heap.size w (W.alloc (.cells #[.slice sl cs.length cap, .slice sl2 ds.length cap2] 23)) := bA hW _
    obtain ⟨c0, c1⟩ := two_row W (.slice sl cs.length cap) (.slice sl2 ds.length cap2) 23
    have hsz : (W.alloc (.cells #[.slice sl cs.length cap, .slice sl2 ds.length cap2] 23)).heap.size = W.heap.size + 1 := by simp
    have hr : VRws (W.alloc (.cells #[.slice sl cs.length cap, .slice sl2 ds.length cap2] 23)) (some ⟨W.heap.size, 0, none⟩) [(.slice sl cs.length cap, hdC cs), (.slice sl2 ds.length cap2, hdC ds)] := by
      refine ⟨.inr ⟨W.heap.size, 0, rfl, by omega, fun i hi => ?_⟩, fun r hr => ?_⟩
      · match i, hi with
        | 0, _ => exact c0
        | 1, _ => exact c1
      · rcases List.mem_cons.1 hr with rfl | hr
        · exact ⟨sl, cap, by rw [hdC_len], (hz.below hb).lie, hdC_one (hz.below hb).each⟩
        · rw [List.mem_singleton.1 hr]
          exact ⟨sl2, cap2, by rw [hdC_len], (ht.below hb).lie, hdC_one (ht.below hb).each⟩
    have := catV_any (some ⟨W.heap.size, 0, none⟩) 2 [(.slice sl cs.length cap, hdC cs), (.slice sl2 ds.length cap2, hdC ds)] _ (by simp) (by rw [flatV_two, List.length_append, hdC_len, hdC_len]; omega) hr
    rw [hsz, flatV_two] at this
    rw [hdC_add, show (cs ++ ds).length = (hdC cs ++ hdC ds).length by simp [hdC_len]]
    exact this
  have hlen : (cs ++ ds).length ≤ 200000 := by simp; omega
  have ST := Lib.hid (show ∀ (k : Nat) (r : LCl), (cs ++ ds)[k]? = some r → hdC ((cs ++ ds).take (k + 1)) = hdC ((cs ++ ds).take k) ++ [r.1] from fun k r hk => by
    have hl := (List.getElem?_eq_some_iff.1 hk)
    obtain ⟨hl, rfl⟩ := hl
    exact hdC_step _ k hl)
  have HG := Lib.hid (show ∀ (k : Nat), k < (cs ++ ds).length → ∃ r : LCl, (cs ++ ds)[k]? = some r ∧ (hdC (cs ++ ds))[k]? = some r.1 from fun k hk => ⟨(cs ++ ds)[k], List.getElem?_eq_getElem hk, by simp only [hdC, List.getElem?_map, List.getElem?_eq_getElem hk, Option.map_some]⟩)
  have TE := Lib.hid (show ∀ k, (cs ++ ds).length ≤ k → (cs ++ ds).take k = cs ++ ds from fun k hk => List.take_of_length_le hk)
  clear hz ht
  generalize cs ++ ds = ls at *
  generalize cs.length = n at *
  generalize ds.length = m at *
  generalize hN : ls.length = q at *
  have HN := Lib.hid hN
  clear hN
  obtain ⟨t0, t1⟩ := CA.out.cells
  have tl := CA.out.lt
  go_enter Try.func41, Try.ntmps41
  go_wp2_with fail
  have C2 := Lib.hid (CC.out _ B0.out)
  rw [hs0] at C2
  generalize w.alloc (.cells #[.int .i64 vars, .slice sl n cap] 25) = w0 at *
  refine C2.out.mono ?_
  rintro e w1 ⟨v1, rfl, O1, b1⟩
  obtain ⟨s1, k1, rfl⟩ := own_v O1
  have hs1 : w.heap.size + 1 + 1 ≤ w1.heap.size := by have := b1.size; simp at this; omega
  have BB := Lib.hid (show Below w.heap.size w w1 from (bA B0.out _).trans (b1.mono (by omega)))
  have RD : Hid (∀ W, Below w1.heap.size w1 W → ∀ k, k < q → ∃ g, s1 = some ⟨g, 0, none⟩ ∧ W.cell? ⟨g, k, none⟩ = (hdC ls)[k]?) := fun W hW k hk => by
    rcases O1.2 with ⟨_, h0⟩ | ⟨g, cp, cur, hv, hb, hg, h5, h6, h7, h8⟩
    · omega
    · cases hv
      refine ⟨g, rfl, ?_⟩
      have hgl := (Array.getElem?_eq_some_iff.1 hg).1
      rw [hW.cell (p := ⟨g, k, none⟩) hgl, ← h8, List.getElem?_take_of_lt (by omega)]
      simp [World.cell?, hg]
  clear O1 b1 C2 CC t0 t1 tl CA B0 hs0
  go_wp2
  go_loopw [5, 14] (fun v i wr => ∃ k : Nat, i = .int .i64 k ∧ k ≤ q ∧ Hid (wr.ownsRow w1.heap.size 108 1 v k (hdC (ls.take k))) ∧ Hid (Below w1.heap.size w1 wr)) (fun _ i _ => q - (intOf i).toNat)
  case atStart => exact ⟨0, rfl, Nat.zero_le _, ⟨rfl, .inl ⟨rfl, rfl⟩⟩, Below.refl _ _⟩
  case round =>
    obtain ⟨k, rfl, hk, H1, H2⟩ := hrel
    have hk0 : (0 : Int) ≤ (k : Int) := by omega
    by_cases h1 : k < q
    · have h1' : (k : Int) < (q : Int) := by omega
      obtain ⟨g, rfl, hcell⟩ := RD.out wr H2.out k h1
      obtain ⟨r, hr, hh⟩ := HG.out k h1
      rw [hh] at hcell
      obtain ⟨sa, qa, ka, ea⟩ := LH.out k r hr
      have EV := Lib.hid (ST.out k r hr)
      rw [ea] at hcell EV
      have hs := H2.out.size
      clear hr hh ea
      go_wp2_with (first | (at_builtin; refine wpList_append_lies _ rfl (.tmp 18) (.tmp 20) 64 rfl w1.heap.size 108 i3 (.slice none 0 0) 1 24 Try.underlying64 hi3 hd0 hd1 hd2 rfl (by decide) _ _ _ rfl (H1.out.alloc _) ⟨wr.heap.size, 0, none⟩ 1 1 [.slice sa qa ka] rfl rfl (cell_at_new _ _ _) (by intro u hu; simp at hu; subst hu; rfl) (by decide) (by unfold maxLen; omega) (by omega) (by simp; omega) (wr.heap.size + 1) (by simp) ?_))
      intro g9 cap9 w9 own9 grow9 hg9 hlt9
      have B9 := Lib.hid ((bA H2.out (.cells #[.slice sa qa ka] 108)).grown grow9 (by simp; omega) (fun j hj => (H1.out.lt j hj).1))
      rw [← EV.out] at own9
      have N9 := Lib.hid own9
      clear own9 grow9 hg9 hlt9
      go_wp2
      go_roundw
      case rel => exact ⟨k + 1, by go_num, by omega, N9, B9⟩
      case measure => simp [intOf]; omega
    · have h1' : ¬ (k : Int) < (q : Int) := by omega
      have e : k = q := by omega
      have H9 := H1.out
      rw [TE.out k (by omega), e] at H9
      have P := Lib.hid (And.intro (own_mono H9 (by omega : w.heap.size ≤ w1.heap.size)) (BB.out.trans (H2.out.mono (by omega))))
      clear H9 H1
      go_wp2
      go_ret
      exact ⟨_, rfl, P.out.1, P.out.2⟩

end Go.Proofs.Ytendehejodgljaa
namespace Go.Proofs.Ytendehejodgljaa
open Go.RowKit
set_option linter.unusedVariables false

/-- The run, within so many rounds. -/
noncomputable def resF (css : List (List Int)) : Nat → List Int → List Int × Int
  | 0, tr => (tr, -1)
  | n + 1, tr => if (dueL tr 0 css).2 = 0 then (tr, (dueL tr 0 css).1) else resF css n (tr ++ [(dueL tr 0 css).2])
theorem resF_end (css : List (List Int)) (n : Nat) (tr : List Int) (hn : 0 < n) (h : (dueL tr 0 css).2 = 0) : resF css n tr = (tr, (dueL tr 0 css).1) := by
  obtain ⟨m, rfl⟩ : ∃ m, n = m + 1 := ⟨n - 1, by omega⟩
  rw [resF, if_pos h]
theorem resF_step (css : List (List Int)) (n : Nat) (tr : List Int) (hn : 0 < n) (h : ¬ (dueL tr 0 css).2 = 0) : resF css n tr = resF css (n - 1) (tr ++ [(dueL tr 0 css).2]) := by
  obtain ⟨m, rfl⟩ : ∃ m, n = m + 1 := ⟨n - 1, by omega⟩
  rw [resF, if_neg h]
  rfl
/-- A unit's literal has no value, and stands in a clause. -/
theorem dueL_lit (tr : List Int) : ∀ (css : List (List Int)) (k : Nat), ¬ (dueL tr k css).2 = 0 → val tr (dueL tr k css).2 = 0 ∧ ∃ l ∈ css, (dueL tr k css).2 ∈ l
  | [], k, h => absurd rfl h
  | l :: r, k, h => by
    unfold dueL at h ⊢
    cases hu : unitOf tr l with
    | none =>
      simp only [hu] at h ⊢
      obtain ⟨h1, l', h2, h3⟩ := dueL_lit tr r (k + 1) h
      exact ⟨h1, l', List.mem_cons_of_mem _ h2, h3⟩
    | some z =>
      simp only [hu] at h ⊢
      unfold unitOf at hu
      match hx : nfl tr l with
      | [] => rw [hx] at hu; simp at hu; exact absurd hu.symm h
      | [a] =>
        rw [hx] at hu
        simp only at hu
        by_cases ha : val tr a = 0
        · rw [if_pos ha] at hu
          have e : a = z := by simpa using hu
          subst e
          have hm : a ∈ nfl tr l := by rw [hx]; simp
          exact ⟨ha, l, by simp, (List.mem_filter.1 hm).1⟩
        · rw [if_neg ha] at hu; simp at hu
      | a :: c :: s => rw [hx] at hu; simp at hu
theorem val_zero {tr : List Int} {z : Int} (h : val tr z = 0) : z ∉ tr ∧ -z ∉ tr := by
  rcases val_cases tr z with ⟨e, _⟩ | ⟨e, _⟩ | ⟨_, h1⟩
  · omega
  · omega
  · exact h1
theorem SpTo.add {vars : Int} {tr : List Int} {z : Int} (h : SpTo vars tr tr.length) (ho : OkZ vars z) (h1 : z ∉ tr) (h2 : -z ∉ tr) : SpTo vars (tr ++ [z]) (tr ++ [z]).length := by
  have hg : ∀ i, i < tr.length → (tr ++ [z]).getD i 0 = tr.getD i 0 := fun i hi => by simp [List.getElem?_append_left hi]
  have hz : (tr ++ [z]).getD tr.length 0 = z := by simp
  intro i hi
  simp only [List.length_append, List.length_singleton] at hi
  by_cases e : i = tr.length
  · subst e
    rw [hz]
    refine ⟨ho, fun j hj => ?_⟩
    rw [hg j hj, hz]
    refine ⟨fun e => h1 ?_, fun e => h2 ?_⟩
    · rw [← e]; simp [hj]
    · rw [← e]; simp [hj]
  · rw [hg i (by omega)]
    refine ⟨(h i (by omega)).1, fun j hj => ?_⟩
    rw [hg j (by omega), hg i (by omega)]
    exact (h i (by omega)).2 j hj
theorem SpTo.consA {vars : Int} {zs : List Int} (h : SpTo vars zs zs.length) : Cons zs := by
  have := h.cons (Nat.le_refl _)
  rwa [List.take_length] at this

/-- Only block b is turned, new ones come. -/
def KeepB (b : Nat) (w W : World) : Prop := w.heap.size ≤ W.heap.size ∧ ∀ k, k < w.heap.size → k ≠ b → W.heap[k]? = w.heap[k]?
theorem KeepB.refl (b : Nat) (w : World) : KeepB b w w := ⟨Nat.le_refl _, fun _ _ _ => rfl⟩
theorem KeepB.trans {b : Nat} {w W V : World} (h : KeepB b w W) (g : KeepB b W V) : KeepB b w V := ⟨Nat.le_trans h.1 g.1, fun k h1 h2 => (g.2 k (Nat.lt_of_lt_of_le h1 h.1) h2).trans (h.2 k h1 h2)⟩
theorem KeepB.set (b : Nat) (w : World) (i : Nat) (v : Value) : KeepB b w (w.setCell ⟨b, i, none⟩ v) := ⟨by simp, fun k _ h => heap_setCell_other w ⟨b, i, none⟩ k v h⟩
theorem KeepB.of {b : Nat} {w W : World} (h : Below w.heap.size w W) : KeepB b w W := ⟨h.size, fun k hk _ => h.block k hk⟩
def lenV : Value → Nat
  | .slice _ n _ => n
  | _ => 0

set_option maxRecDepth 100000 in
set_option maxHeartbeats 4000000 in
/-- values.follow. -/
theorem fol_any (b : Nat) (vars : Int) (tr : List Int) (sl : Option Addr) (cap : Nat) (ls : List LCl) (w : World) (hv : VAt w b tr) (hv1 : vars ≤ 96) (hs : SpTo vars tr tr.length) (hn : ls.length ≤ 1048576) (hw : ∀ r ∈ ls, ∀ z ∈ r.2, OkZ vars z) (hz : ∀ W, KeepB b w W → Cls W sl ls) :
    Calls Try.prog 40 #[.pointer (some ⟨b, 0, none⟩), .slice sl ls.length cap] w fun e w' => ∃ v fl, e = .returned (.tuple #[v, .int .i64 (resF (bareC ls) (97 - tr.length) tr).2]) ∧ tr ++ fl = (resF (bareC ls) (97 - tr.length) tr).1 ∧ w'.ownsRow w.heap.size 2 1 v fl.length (valsZ fl) ∧ Below b w w' := by
  obtain ⟨i0, hi0, hz0, hz1, hz2⟩ := info_parts info2'
  have hlt := hv.lt
  have DU := Lib.hid (show ∀ W ts, KeepB b w W → VAt W b ts → SpTo vars ts ts.length → Calls Try.prog 60 #[.pointer (some ⟨b, 0, none⟩), .slice sl ls.length cap] W fun e w' => e = .returned (.tuple #[.int .i64 (dueL ts 0 (bareC ls)).1, .int .i64 (dueL ts 0 (bareC ls)).2]) ∧ w' = W from fun W ts h1 h2 h3 => due_any b ts sl cap ls W h2 h3.consA hn (fun r hr z hz' => by have := hw r hr z hz'; have := this.2.1; have := (hw r hr z hz').2.2; omega) (hz W h1))
  have PU := Lib.hid (show ∀ W ts, VAt W b ts → SpTo vars ts ts.length → ¬ (dueL ts 0 (bareC ls)).2 = 0 → SpTo vars (ts ++ [(dueL ts 0 (bareC ls)).2]) (ts ++ [(dueL ts 0 (bareC ls)).2]).length ∧ Calls Try.prog 59 #[.pointer (some ⟨b, 0, none⟩), .int .i64 (dueL ts 0 (bareC ls)).2] W fun e w' => e = .returned (.tuple #[]) ∧ VAt w' b (ts ++ [(dueL ts 0 (bareC ls)).2]) ∧ ∃ i v, w' = W.setCell ⟨b, i, none⟩ v from fun W ts h1 h2 h3 => by
    obtain ⟨g1, l, g2, g3⟩ := dueL_lit ts (bareC ls) 0 h3
    obtain ⟨r, hr, rfl⟩ := List.mem_map.1 g2
    have ok := hw r hr _ g3
    have nz := val_zero g1
    exact ⟨h2.add ok nz.1 nz.2, put_any b ts _ W h1 (by have := ok.2.2; omega) (by have := ok.2.1; omega) ok.1 nz.1 nz.2⟩)
  have R0 := Lib.hid (show resF (bareC ls) (97 - (tr ++ ([] : List Int)).length) (tr ++ []) = resF (bareC ls) (97 - tr.length) tr by simp)
  have RE := Lib.hid (show ∀ ts, SpTo vars ts ts.length → (dueL ts 0 (bareC ls)).2 = 0 → resF (bareC ls) (97 - ts.length) ts = (ts, (dueL ts 0 (bareC ls)).1) from fun ts h1 h2 => resF_end _ _ _ (by have := h1.short hv1; omega) h2)
  have RS := Lib.hid (show ∀ ts, SpTo vars ts ts.length → ¬ (dueL ts 0 (bareC ls)).2 = 0 → resF (bareC ls) (97 - ts.length) ts = resF (bareC ls) (97 - (ts ++ [(dueL ts 0 (bareC ls)).2]).length) (ts ++ [(dueL ts 0 (bareC ls)).2]) from fun ts h1 h2 => by
    rw [resF_step _ _ _ (by have := h1.short hv1; omega) h2]
    congr 1
    simp; omega)
  have LN := Lib.hid (show ∀ fl, SpTo vars (tr ++ fl) (tr ++ fl).length → fl.length ≤ 96 from fun fl h => by have := h.short hv1; simp at this; omega)
  have V0 := Lib.hid (show VAt w b (tr ++ []) by simpa using hv)
  have S0 := Lib.hid (show SpTo vars (tr ++ []) (tr ++ ([] : List Int)).length by simpa using hs)
  clear hv hs hw hz
  generalize hR : resF (bareC ls) (97 - tr.length) tr = R at *
  have HR := Lib.hid hR
  clear hR
  generalize ls.length = n at *
  go_enter Try.func40, Try.ntmps40
  go_wp2
  go_loopw [6] (fun v wr => ∃ fl, lenV v = fl.length ∧ fl.length ≤ 96 ∧ Hid (wr.ownsRow w.heap.size 2 1 v fl.length (valsZ fl)) ∧ Hid (VAt wr b (tr ++ fl)) ∧ Hid (SpTo vars (tr ++ fl) (tr ++ fl).length) ∧ Hid (KeepB b w wr) ∧ Hid (Below b w wr) ∧ Hid (resF (bareC ls) (97 - (tr ++ fl).length) (tr ++ fl) = R)) (fun v _ => 97 - lenV v)
  case atStart => exact ⟨[], rfl, Nat.zero_le _, ⟨rfl, .inl ⟨rfl, rfl⟩⟩, V0, S0, KeepB.refl _ _, Below.refl _ _, R0⟩
  case round =>
    obtain ⟨fl, hlv, hl96, H1, H2, H3, H4, H5, H6⟩ := hrel
    obtain ⟨vs, vc, rfl⟩ := own_v H1.out
    have D1 := Lib.hid (DU.out wr (tr ++ fl) H4.out H2.out H3.out)
    by_cases hd : (dueL (tr ++ fl) 0 (bareC ls)).2 = 0
    · have E := Lib.hid (show R = (tr ++ fl, (dueL (tr ++ fl) 0 (bareC ls)).1) by rw [← H6.out]; exact RE.out _ H3.out hd)
      rw [hd] at D1
      clear hd DU PU RE RS
      generalize (dueL (tr ++ fl) 0 (bareC ls)).1 = pl at *
      generalize hF : fl.length = fn at *
      have HF := Lib.hid hF
      clear hF
      go_wp2_with fail
      refine D1.out.mono ?_
      rintro e wq ⟨rfl, rfl⟩
      go_wp2
      go_ret2
      exact ⟨_, fl, by rw [E.out]; rfl, by rw [E.out], by rw [HF.out]; exact H1.out, H5.out⟩
    · obtain ⟨S2, P2⟩ := PU.out wr (tr ++ fl) H2.out H3.out hd
      have E := Lib.hid (RS.out _ H3.out hd)
      have PP := Lib.hid P2
      have SS := Lib.hid S2
      have hlt2 := H2.out.lt
      have hd' : ((dueL (tr ++ fl) 0 (bareC ls)).2 == 0) = false := by simpa using hd
      clear S2 P2 DU PU RE RS
      generalize (dueL (tr ++ fl) 0 (bareC ls)).1 = pl at *
      generalize (dueL (tr ++ fl) 0 (bareC ls)).2 = z at *
      have EA := Lib.hid (List.append_assoc tr fl [z])
      have LL := Lib.hid (show (fl ++ [z]).length ≤ 96 from LN.out _ (by rw [← EA.out]; exact SS.out))
      have E6 : Hid (resF (bareC ls) (97 - (tr ++ (fl ++ [z])).length) (tr ++ (fl ++ [z])) = R) := by
        show _ = _
        rw [← EA.out, ← E.out]; exact H6.out
      have E3 : Hid (SpTo vars (tr ++ (fl ++ [z])) (tr ++ (fl ++ [z])).length) := by
        show SpTo vars (tr ++ (fl ++ [z])) (tr ++ (fl ++ [z])).length
        rw [← EA.out]; exact SS.out
      have EV := Lib.hid (show valsZ fl ++ [.int .i64 z] = valsZ (fl ++ [z]) by simp [valsZ])
      have VV := Lib.hid (show ∀ W, VAt W b (tr ++ fl ++ [z]) → VAt W b (tr ++ (fl ++ [z])) from fun W h => by rwa [List.append_assoc] at h)
      generalize hF : fl.length = fn at *
      have HF := Lib.hid hF
      clear hF
      go_wp2_with fail
      refine D1.out.mono ?_
      rintro e wq ⟨rfl, rfl⟩
      go_wp2_with fail
      refine PP.out.mono ?_
      rintro e wq ⟨rfl, hva, i, u, hset⟩
      have O2 := Lib.hid (show wq.ownsRow w.heap.size 2 1 (.slice vs fn vc) fn (valsZ fl) by rw [hset]; exact ownsRow_setCell_below H1.out (a := ⟨b, i, none⟩) hlt u)
      have K2 := Lib.hid (show KeepB b w wq by rw [hset]; exact H4.out.trans (KeepB.set b _ i u))
      have B2 := Lib.hid (show Below b w wq by rw [hset]; exact H5.out.setCell (p := ⟨b, i, none⟩) (Nat.le_refl _) u)
      have V2 := Lib.hid hva
      have hs2 := K2.out.1
      have hlq := hva.lt
      clear hva hset H1 H2 H3 H4 H5 H6 D1 PP E
      go_wp2_with (first | (at_builtin; refine wpList_append_lies _ rfl (.tmp 22) (.tmp 24) 26 rfl w.heap.size 2 i0 (.int .i64 0) 1 8 Try.underlying26 hi0 hz0 hz1 hz2 rfl (by decide) _ _ _ rfl (O2.out.alloc _) ⟨wq.heap.size, 0, none⟩ 1 1 [.int .i64 z] rfl rfl (cell_one_new _ _ _) (by intro u hu; simp at hu; subst hu; rfl) (by decide) (by unfold maxLen; omega) (by omega) (by simp; omega) (wq.heap.size + 1) (by simp) ?_))
      intro g9 cap9 w9 own9 grow9 hg9 hlt9
      have A9 := Lib.hid ((Below.refl wq.heap.size wq).alloc (Nat.le_refl _) (.cells #[.int .i64 z] 2))
      have B9 := Lib.hid (((B2.out.alloc (by omega) (.cells #[.int .i64 z] 2))).grown grow9 (by simp; omega) (fun j hj => by have := (O2.out.lt j hj).1; omega))
      have G9 := Lib.hid (show ∀ k, k < w.heap.size → w9.heap[k]? = wq.heap[k]? from fun k hk => by
        rw [grow9.block k (by simp; omega) (fun e => by have := (O2.out.lt k e.symm).1; omega)]
        exact Below.heap_alloc wq _ k (by omega))
      have K9 := Lib.hid (show KeepB b w w9 from ⟨by have := grow9.size; simp at this; omega, fun k hk hne => (G9.out k hk).trans (K2.out.2 k hk hne)⟩)
      have V9 := Lib.hid (show VAt w9 b (tr ++ (fl ++ [z])) from VV.out _ (V2.out.kept (G9.out b hlt)))
      rw [EV.out] at own9
      have N9 := Lib.hid (show w9.ownsRow w.heap.size 2 1 (.slice (some ⟨g9, 0, none⟩) (fn + 1) cap9) (fl ++ [z]).length (valsZ (fl ++ [z])) by rw [List.length_append, HF.out]; exact own9)
      have L9 := Lib.hid (show (fl ++ [z]).length = fn + 1 by rw [List.length_append, HF.out]; rfl)
      clear own9 grow9 hg9 hlt9
      go_wp2
      go_roundw
      case rel => exact ⟨fl ++ [z], by rw [L9.out]; rfl, LL.out, N9, V9, E3, K9, B9, E6⟩
      case measure => simp [lenV]; have := L9.out; have := LL.out; omega

/-- Each list may stand beside the clauses. -/
def MoR (vars : Int) (dss : List (List Int)) : Prop := ∀ l ∈ dss, SpTo vars l l.length

set_option maxRecDepth 100000 in
set_option maxHeartbeats 2000000 in
/-- impl.listsRight. -/
theorem lr_any (vars : Int) (sl : Option Addr) (cap : Nat) (ds : List LCl) (w : World) (hv0 : 0 ≤ vars) (hv1 : vars ≤ 96) (hn : ds.length ≤ 1048576) (hz : Cls w sl ds) :
    Calls Try.prog 38 #[.slice sl ds.length cap, .int .i64 vars] w fun e w' => e = .returned (.bool (B (MoR vars (bareC ds)))) ∧ Below w.heap.size w w' := by
  have PS := put_same w rfl _ rfl
  have VA : Hid (VAt (w.alloc (.cells Try.zeroCells59 59)) w.heap.size []) := by
    have := new_at w (.cells Try.zeroCells59 59)
    show _ = _
    rw [this, vArr_nil]
  have B0 := Lib.hid (bA0 w (.cells Try.zeroCells59 59))
  have TK := Lib.hid (show ∀ W (k : Nat) (r : LCl), Below w.heap.size w W → VBlk W w.heap.size → ds[k]? = some r → ∃ s kc, r.1 = .slice s r.2.length kc ∧ Calls Try.prog 39 #[.pointer (some ⟨w.heap.size, 0, none⟩), .slice s r.2.length kc, .int .i64 vars] W fun e w' => e = .returned (.bool (B (SpTo vars r.2 r.2.length))) ∧ (SpTo vars r.2 r.2.length → VAt w' w.heap.size r.2) ∧ Below w.heap.size W w' ∧ w'.heap.size = W.heap.size from fun W k r hW hb hk => by
    obtain ⟨s, kc, e, i, l⟩ := hz.each r (List.mem_of_getElem? hk)
    refine ⟨s, kc, e, take_any w.heap.size vars s kc r.2 W hb hv0 hv1 l ?_⟩
    rcases i with e | ⟨c, o, e, hi⟩
    · exact .inl e
    · exact .inr ⟨c, o, e, hi.below hW, hi.1⟩)
  have CE := Lib.hid (show ∀ W k, k < ds.length → Below w.heap.size w W → ∃ c o r, sl = some ⟨c, o, none⟩ ∧ ds[k]? = some r ∧ W.cell? ⟨c, o + k, none⟩ = some r.1 from fun W k hk hW => by
    obtain ⟨c, o, e, cl, hc⟩ := (hz.below hW).at hk
    exact ⟨c, o, ds[k], e, List.getElem?_eq_getElem hk, hc k hk⟩)
  have NO := Lib.hid (show ∀ (k : Nat) (r : LCl), ds[k]? = some r → ¬ SpTo vars r.2 r.2.length → ¬ MoR vars (bareC ds) from fun k r hk h g => h (g r.2 (List.mem_map.2 ⟨r, List.mem_of_getElem? hk, rfl⟩)))
  have YE := Lib.hid (show ∀ k, ds.length ≤ k → MoR vars (bareC (ds.take k)) → MoR vars (bareC ds) from fun k hk h => by rwa [List.take_of_length_le hk] at h)
  have ST := Lib.hid (show ∀ (k : Nat) (r : LCl), ds[k]? = some r → MoR vars (bareC (ds.take k)) → SpTo vars r.2 r.2.length → MoR vars (bareC (ds.take (k + 1))) from fun k r hk h1 h2 => by
    rw [List.take_add_one, hk]
    intro l hl
    simp only [bareC, List.map_append, List.mem_append, Option.toList_some, List.map_cons, List.map_nil, List.mem_singleton] at hl
    rcases hl with hl | rfl
    · exact h1 l hl
    · exact h2)
  have M0 := Lib.hid (show MoR vars (bareC (ds.take 0)) from fun l hl => by simp [bareC] at hl)
  clear hz
  generalize hQ : MoR vars (bareC ds) = Q at *
  clear hQ
  generalize hN : ds.length = n at *
  clear hN
  go_enter Try.func38, Try.ntmps38
  go_wp2
  generalize w.alloc (.cells Try.zeroCells59 59) = w0 at *
  go_loopw [11] (fun i wr => ∃ k : Nat, i = .int .i64 k ∧ k ≤ n ∧ Hid (MoR vars (bareC (ds.take k))) ∧ Hid (VBlk wr w.heap.size) ∧ Hid (Below w.heap.size w wr)) (fun i _ => n - (intOf i).toNat)
  case atStart => exact ⟨0, rfl, Nat.zero_le _, M0, VA.out.blk, B0⟩
  case round =>
    obtain ⟨k, rfl, hk, H1, H2, H3⟩ := hrel
    have hk0 : (0 : Int) ≤ (k : Int) := by omega
    by_cases h1 : k < n
    · have h1' : (k : Int) < (n : Int) := by omega
      obtain ⟨c, o, r, rfl, hr, hcell⟩ := CE.out wr k h1 H3.out
      obtain ⟨s, kc, e, CT⟩ := TK.out wr k r H3.out H2.out hr
      rw [e] at hcell
      have CT' := Lib.hid CT
      by_cases hp : SpTo vars r.2 r.2.length
      · have S1 := Lib.hid (ST.out k r hr H1.out hp)
        have SP := Lib.hid hp
        rw [B_yes hp] at CT'
        clear CT e hr hp TK CE NO ST
        generalize r.2.length = m at *
        go_wp2_with (first | (go_at_call 39; refine CT'.out.mono ?_; rintro e wq ⟨rfl, q1, q2, q3⟩))
        have V1 := Lib.hid ((q1 SP.out).blk)
        have B1 := Lib.hid (H3.out.trans q2)
        clear q1 q2 q3
        go_roundw
        case rel => exact ⟨k + 1, by go_num, by omega, S1, V1, B1⟩
        case measure => simp [intOf]; omega
      · have NQ := Lib.hid (NO.out k r hr hp)
        rw [B_no hp] at CT'
        clear CT e hr hp TK CE NO ST
        generalize r.2.length = m at *
        go_wp2_with (first | (go_at_call 39; refine CT'.out.mono ?_; rintro e wq ⟨rfl, -, q2, -⟩))
        have B1 := Lib.hid (H3.out.trans q2)
        clear q2
        go_ret
        exact ⟨by rw [B_no NQ.out]; rfl, B1.out⟩
    · have h1' : ¬ (k : Int) < (n : Int) := by omega
      have HY := Lib.hid (YE.out k (by omega) H1.out)
      clear TK CE NO ST
      go_wp2
      go_ret
      exact ⟨by rw [B_yes HY.out]; rfl, H3.out⟩

end Go.Proofs.Ytendehejodgljaa
