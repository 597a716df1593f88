/-
  ROWS OF SLICES PUT TOGETHER: slices.Grow of none, slices.Concat, at []int64; impl.clausesWith.
-/
import Derived.Test.YtdmnnclbcljdmaaWe
namespace Go.Proofs.Ytdmnnclbcljdmaa
open Go.RowKit
set_option linter.unusedVariables false

/-- A row of values of one cell each: its slice, the values. -/
abbrev VRw := Value × List Value
def VLie (w : World) (sl : Option Addr) (us : List Value) : Prop := us = [] ∨ ∃ c o, sl = some ⟨c, o, none⟩ ∧ c < w.heap.size ∧ ∀ (j : Nat) (u : Value), us[j]? = some u → w.cell? ((⟨c, o, none⟩ : Addr).add j) = some u
theorem VLie.below {w w' : World} {sl : Option Addr} {us : List Value} (h : VLie w sl us) (hb : Below w.heap.size w w') : VLie w' sl us := by
  rcases h with h | ⟨c, o, e, hl, hc⟩
  · exact .inl h
  · refine .inr ⟨c, o, e, Nat.lt_of_lt_of_le hl hb.size, fun j u hu => ?_⟩
    have := hc j u hu
    rw [at_add] at this ⊢
    exact (hb.cell (p := ⟨c, o + j, none⟩) hl).trans this
/-- Rows of such. -/
structure VRws (w : World) (sl : Option Addr) (rows : List VRw) : Prop where
  row : rows = [] ∨ ∃ c o, sl = some ⟨c, o, none⟩ ∧ c < w.heap.size ∧ ∀ i (h : i < rows.length), w.cell? ⟨c, o + i, none⟩ = some rows[i].1
  each : ∀ r ∈ rows, ∃ s k, r.1 = .slice s r.2.length k ∧ VLie w s r.2 ∧ ∀ u ∈ r.2, u.oneCell' = true
theorem VRws.below {w w' : World} {sl : Option Addr} {rows : List VRw} (h : VRws w sl rows) (hb : Below w.heap.size w w') : VRws w' sl rows := by
  refine ⟨?_, fun r hr => ?_⟩
  · rcases h.row with h | ⟨c, o, e, hl, hc⟩
    · exact .inl h
    · exact .inr ⟨c, o, e, Nat.lt_of_lt_of_le hl hb.size, fun i hi => (hb.cell (p := ⟨c, o + i, none⟩) hl).trans (hc i hi)⟩
  · obtain ⟨s, k, e, hv, h1⟩ := h.each r hr
    exact ⟨s, k, e, hv.below hb, h1⟩
theorem VRws.at {w : World} {sl : Option Addr} {rows : List VRw} (h : VRws w sl rows) {k : Nat} (hk : k < rows.length) : ∃ c o, sl = some ⟨c, o, none⟩ ∧ c < w.heap.size ∧ ∀ i (h : i < rows.length), w.cell? ⟨c, o + i, none⟩ = some rows[i].1 := by
  rcases h.row with h | h
  · rw [h] at hk; simp at hk
  · exact h

theorem app_noneV (w : World) (ty : TypeId) (base : Option Addr) (n cap : Nat) (hle : n ≤ cap) (p : Option Addr) (c : Nat) :
    (Builtin.append_ #[23, 23] ty #[.slice base n cap, .slice p 0 c]).run Try.prog w = .ok (.slice base n cap) w := by
  obtain ⟨i, h1, h2, h3, h4⟩ := info_parts info40
  refine run_append_nothing w 23 23 ty 28 i Try.underlying23 h1 base n cap hle _ ?_
  cases p with
  | none => exact Src.ofNil _ Try.underlying23 c
  | some a => exact Src.ofSlice _ Try.underlying23 a 0 c [] (by simp) (fun j u h => by simp at h) (fun u h => by cases h)

set_option maxRecDepth 100000 in
set_option maxHeartbeats 2000000 in
/-- slices.Grow of no slice. -/
theorem growV_any (n : Nat) (w : World) (hn : n ≤ 1048576) :
    Calls Try.prog 70 #[.slice none 0 0, .int .i64 n] w fun e w' => ∃ v, e = .returned v ∧ w'.ownsRow w.heap.size 28 1 v 0 [] ∧ Below w.heap.size w w' := by
  obtain ⟨i3, hi3, hd0, hd1, hd2⟩ := info_parts info40
  by_cases h0 : n = 0
  · subst h0
    go_enter Try.func70, Try.ntmps70
    go_wp2
    go_ret
    exact ⟨_, rfl, ⟨rfl, .inl ⟨rfl, rfl⟩⟩, Below.refl _ _⟩
  · have hp : (0 : Int) < (n : Int) := by omega
    have hneg : ¬ (n : Int) < 0 := by omega
    have hrz := fun ty => Lib.run_append_nil_zeros (P := Try.prog) w 23 3 ty 28 i3 _ .i64 .i64 Try.underlying23 Try.underlying3 hi3 hd0 n (by omega) (by omega) (by omega) (by rw [hd2]; omega)
    have hG := grownCap_ge w n 0 28
    have hM := grownCap_le_maxLen w n 0 28 (by unfold maxLen; omega)
    have hM' := hM
    unfold maxLen at hM'
    generalize grownCap w n 0 28 = G at *
    have O : Hid ((w.drew.alloc (.cells (Builtin.zeroCells (Value.slice none 0 0).cells n ++ Builtin.zeroCells (Value.slice none 0 0).cells (G - n)) 28)).ownsRow w.heap.size 28 1 (.slice (some ⟨w.heap.size, 0, none⟩) 0 G) 0 []) := by
      refine ⟨rfl, .inr ⟨w.heap.size, G, _, rfl, Nat.le_refl _, new_at w.drew _, Nat.zero_le _, hM, ?_, rfl⟩⟩
      simp only [Array.size_append, size_zeroCells]
      rw [← Nat.add_mul, show (Value.slice none 0 0).cells.size = 1 from rfl]
      congr 1
      omega
    have BL : Hid (Below w.heap.size w (w.drew.alloc (.cells (Builtin.zeroCells (Value.slice none 0 0).cells n ++ Builtin.zeroCells (Value.slice none 0 0).cells (G - n)) 28))) := bA ((Below.refl _ _).drew) _
    generalize Builtin.zeroCells (Value.slice none 0 0).cells n ++ Builtin.zeroCells (Value.slice none 0 0).cells (G - n) = vs at *
    go_enter Try.func70, Try.ntmps70
    go_wp2_with (at_builtin; refine Lib.wpList_append_run _ rfl _ _ _ _ rfl _ _ rfl rfl _ _ (hrz _) ?_)
    go_ret
    exact ⟨_, rfl, O.out, BL.out⟩

/-- All places of the rows, one behind the other. -/
def flatV (rows : List VRw) : List Value := rows.flatMap fun r => r.2
theorem flatV_step (rows : List VRw) (k : Nat) (h : k < rows.length) : flatV (rows.take (k + 1)) = flatV (rows.take k) ++ rows[k].2 := by
  unfold flatV
  rw [List.take_succ_eq_append_getElem h, List.flatMap_append]
  simp
theorem flatV_le (rows : List VRw) (k : Nat) : (flatV (rows.take k)).length ≤ (flatV rows).length := by
  have := congrArg (fun l => (flatV l).length) (List.take_append_drop k rows)
  simp only [flatV, List.flatMap_append, List.length_append] at this
  unfold flatV
  omega
set_option maxRecDepth 100000 in
set_option maxHeartbeats 4000000 in
/-- slices.Concat at places. -/
theorem catV_any (sl : Option Addr) (cap : Nat) (rows : List VRw) (w : World) (hn : rows.length ≤ 1048576) (hT : (flatV rows).length ≤ 1048576) (hz : VRws w sl rows) :
    Calls Try.prog 52 #[.slice sl rows.length cap] w fun e w' => ∃ v, e = .returned v ∧ w'.ownsRow w.heap.size 28 1 v (flatV rows).length (flatV rows) ∧ Below w.heap.size w w' := by
  obtain ⟨i3, hi3, hd0, hd1, hd2⟩ := info_parts info40
  have HZ := Lib.hid hz
  have EG := Lib.hid (fun (W : World) (q : Nat) (h : q ≤ 1048576) => growV_any q W h)
  clear hz
  generalize hF : flatV rows = fl at *
  have HF := Lib.hid hF
  have FL := Lib.hid (fun k => flatV_le rows k)
  rw [hF] at FL
  clear hF
  generalize hN : rows.length = n at *
  have HN := Lib.hid hN
  clear hN
  go_enter Try.func52, Try.ntmps52
  go_wp2
  go_loopw [3, 11] (fun s i wr => ∃ (k q : Nat), i = .int .i64 k ∧ k ≤ n ∧ s = .int .i64 q ∧ q ≤ 1048576 ∧ Hid (q = (flatV (rows.take k)).length) ∧ wr = w) (fun _ i _ => n - (intOf i).toNat)
  case atStart => exact ⟨0, 0, rfl, Nat.zero_le _, rfl, Nat.zero_le _, rfl, rfl⟩
  case round =>
    obtain ⟨k, q, rfl, hk, rfl, hq, HQ, rfl⟩ := hrel
    have hk0 : (0 : Int) ≤ (k : Int) := by omega
    by_cases g1 : k < n
    · have g1' : (k : Int) < (n : Int) := by omega
      have hlt : k < rows.length := by rw [HN.out]; exact g1
      obtain ⟨c, o, rfl, cl, hcs⟩ := HZ.out.at hlt
      have hc := hcs k hlt
      obtain ⟨s1, k1, v1, -⟩ := HZ.out.each rows[k] (List.getElem_mem hlt)
      rw [v1] at hc
      have QN := Lib.hid (show q + rows[k].2.length = (flatV (rows.take (k + 1))).length by rw [flatV_step rows k hlt, List.length_append, HQ.out])
      have hq2 : q + rows[k].2.length ≤ 1048576 := by rw [QN.out]; have := FL.out (k + 1); omega
      clear hcs v1
      generalize rows[k].2.length = r at *
      clear hlt
      go_wp2
      go_roundw
      case rel => exact ⟨k + 1, q + r, by go_num, by omega, by go_num, hq2, QN, trivial⟩
      case measure => simp [intOf]; omega
    · have g1' : ¬ (k : Int) < (n : Int) := by omega
      have E := Lib.hid (EG.out wr q hq)
      clear EG HQ
      go_wp2_with fail
      refine E.out.mono ?_
      rintro e w1 ⟨v1, rfl, o1, b1⟩
      obtain ⟨C0, hC0⟩ : ∃ C0, C0 = wr.heap.size := ⟨_, rfl⟩
      have RD : Hid (∀ W, Below C0 w1 W → VRws W sl rows) := fun W hW => HZ.out.below (b1.trans (by rw [← hC0]; exact hW))
      have FB : Hid (∀ W, Below C0 w1 W → Below wr.heap.size wr W) := fun W hW => b1.trans (by rw [← hC0]; exact hW)
      have hs1 : C0 ≤ w1.heap.size := by rw [hC0]; exact b1.size
      have O1 : Hid (w1.ownsRow C0 28 1 v1 0 []) := by rw [hC0]; exact o1
      have OF : Hid (∀ (W : World) v xs, W.ownsRow C0 28 1 v fl.length xs → W.ownsRow wr.heap.size 28 1 v fl.length xs) := fun W v xs h => by rw [← hC0]; exact h
      clear o1 b1 E HZ hC0
      go_wp2
      go_loopw [6, 27] (fun v i wq => ∃ (k : Nat) (cu : List Value), i = .int .i64 k ∧ k ≤ n ∧ Hid (cu = flatV (rows.take k)) ∧ Hid (wq.ownsRow C0 28 1 v cu.length cu) ∧ Hid (Below C0 w1 wq)) (fun _ i _ => n - (intOf i).toNat)
      case atStart => exact ⟨0, [], rfl, Nat.zero_le _, rfl, O1, Below.refl _ _⟩
      case round =>
        obtain ⟨k, cu, rfl, hk, HC, OR, HB⟩ := hrel
        have hk0 : (0 : Int) ≤ (k : Int) := by omega
        by_cases g1 : k < n
        · have g1' : (k : Int) < (n : Int) := by omega
          have hlt : k < rows.length := by rw [HN.out]; exact g1
          have RW := RD.out _ HB.out
          obtain ⟨c, o, rfl, cl, hcs⟩ := RW.at hlt
          have hc := hcs k hlt
          obtain ⟨s1, k1, e1, p1, ON⟩ := RW.each rows[k] (List.getElem_mem hlt)
          rw [e1] at hc
          have CS := Lib.hid (show cu ++ rows[k].2 = flatV (rows.take (k + 1)) by rw [HC.out]; exact (flatV_step rows k hlt).symm)
          have CL := Lib.hid (show (cu ++ rows[k].2).length ≤ 1048576 by rw [CS.out]; have := FL.out (k + 1); omega)
          obtain ⟨vsl, vcap, rfl⟩ := own_v OR.out
          have hlc : cu.length ≤ vcap := by
            rcases OR.out.2 with ⟨_, h0⟩ | ⟨g, cp, cur, hv, _, _, h5, _⟩
            · rw [h0]; exact Nat.zero_le _
            · cases hv; exact h5
          have hsw := HB.out.size
          clear hcs RW e1
          generalize rows[k].2 = r at *
          clear hlt
          by_cases hr : r = []
          · subst hr
            have CSE : Hid (cu = flatV (rows.take (k + 1))) := by have := CS.out; rwa [List.append_nil] at this
            have ha := app_noneV wr 99 vsl cu.length vcap hlc s1 k1
            go_wp2_with (at_builtin; refine Lib.wpList_append_run _ rfl _ _ _ _ rfl _ _ rfl rfl _ _ ha ?_)
            go_roundw
            case rel => exact ⟨k + 1, cu, by go_num, by omega, CSE, OR, HB⟩
            case measure => simp [intOf]; omega
          · obtain ⟨rc, ro, rfl, PA⟩ : ∃ c o, s1 = some ⟨c, o, none⟩ ∧ (∀ (j : Nat) (u : Value), r[j]? = some u → wr.cell? ((⟨c, o, none⟩ : Addr).add j) = some u) := by
              rcases p1 with h | h
              · exact absurd h hr
              · obtain ⟨c, o, e, _, h⟩ := h; exact ⟨c, o, e, h⟩
            have hrl : 0 < r.length := by
              cases r with
              | nil => exact absurd rfl hr
              | cons a t => simp
            have CL2 : cu.length + r.length ≤ 1048576 := by have := CL.out; rwa [List.length_append] at this
            have OL := Lib.hid (show ∀ j, (Value.slice vsl cu.length vcap).ownBlock = some j → C0 ≤ j from fun j hj => (OR.out.lt j hj).1)
            go_wp2_with (at_builtin; refine wpList_append_lies _ rfl (.tmp 31) (.tmp 32) 23 rfl C0 28 i3 (.slice none 0 0) 1 24 Try.underlying23 hi3 hd0 hd1 hd2 rfl (by decide) _ _ _ rfl OR.out ⟨rc, ro, none⟩ r.length k1 r rfl (Nat.mul_one _).symm PA ON hrl (by unfold maxLen; omega) (by omega) (by omega) wr.heap.size rfl ?_)
            intro g9 cap9 w9 own9 grow9 hg9 hlt9
            have O9 : Hid (w9.ownsRow C0 28 1 (.slice (some ⟨g9, 0, none⟩) (cu.length + r.length) cap9) (cu ++ r).length (cu ++ r)) := by
              rw [List.length_append]; exact own9
            have B9 := Lib.hid (HB.out.grown grow9 (by omega) (fun j hj => OL.out j hj))
            clear own9 grow9 hg9 hlt9 OR HB OL p1 PA
            go_wp2
            go_roundw
            case rel => exact ⟨k + 1, cu ++ r, by go_num, by omega, CS, O9, B9⟩
            case measure => simp [intOf]; omega
        · have g1' : ¬ (k : Int) < (n : Int) := by omega
          have P := Lib.hid (show cu = fl by rw [HC.out, List.take_of_length_le (by rw [HN.out]; omega), HF.out])
          have O9 := OR.out
          rw [P.out] at O9
          have OO := Lib.hid (OF.out _ _ _ O9)
          have BB := Lib.hid (FB.out _ HB.out)
          clear O9 OR HC P
          go_wp2
          go_ret
          exact ⟨_, rfl, OO.out, BB.out⟩


theorem info108 : (Try.prog.info? 121).map (fun i => (i.zero, i.size, i.bytes)) = some (some (.slice none 0 0), 1, 24) := by kernel_rfl
theorem hdC_one {w : World} {cs : List LCl} (h : ∀ r ∈ cs, ClIn w r) : ∀ u ∈ hdC cs, u.oneCell' = true := by
  intro u hu
  obtain ⟨r, hr, rfl⟩ := List.mem_map.1 hu
  obtain ⟨sl, cap, e, _⟩ := h r hr
  rw [e]
  rfl
theorem Cls.lie {w : World} {sl : Option Addr} {cs : List LCl} (h : Cls w sl cs) : VLie w sl (hdC cs) := by
  rcases h.row with h | ⟨c, o, e, hl, hc⟩
  · exact .inl (by rw [h]; rfl)
  · refine .inr ⟨c, o, e, hl, fun j u hu => ?_⟩
    have hj : j < cs.length := by
      have := (List.getElem?_eq_some_iff.1 hu).1
      rwa [hdC_len] at this
    rw [at_add, hc j hj, ← hu]
    simp [hdC, hj]
theorem flatV_two (a b : VRw) : flatV [a, b] = a.2 ++ b.2 := by simp [flatV]
theorem hdC_step (cs : List LCl) (k : Nat) (h : k < cs.length) : hdC (cs.take (k + 1)) = hdC (cs.take k) ++ [cs[k].1] := by
  rw [List.take_succ_eq_append_getElem h, hdC_add]
  rfl
theorem two_row (w : World) (a b : Value) (t : TypeId) : (w.alloc (.cells #[a, b] t)).cell? ⟨w.heap.size, 0, none⟩ = some a ∧ (w.alloc (.cells #[a, b] t)).cell? ⟨w.heap.size, 1, none⟩ = some b := by
  have := new_at w (.cells #[a, b] t)
  generalize w.alloc (.cells #[a, b] t) = W at *
  constructor <;> simp [World.cell?, this]

set_option maxRecDepth 100000 in
set_option maxHeartbeats 4000000 in
/-- impl.clausesWith. -/
theorem cw_any (vars : Int) (sl : Option Addr) (cap : Nat) (cs : List LCl) (sl2 : Option Addr) (cap2 : Nat) (ds : List LCl) (w : World) (hn : cs.length ≤ 100000) (hm : ds.length ≤ 100000) (hz : Cls w sl cs) (ht : Cls w sl2 ds) :
    Calls Try.prog 30 #[CV vars sl cs.length cap, .slice sl2 ds.length cap2] w fun e w' => ∃ v, e = .returned v ∧ w'.ownsRow w.heap.size 121 1 v (cs ++ ds).length (hdC (cs ++ ds)) ∧ Below w.heap.size w w' := by
  obtain ⟨i3, hi3, hd0, hd1, hd2⟩ := info_parts info108
  have CA := Lib.hid (CnfAt.new w vars sl cs.length cap)
  have B0 := Lib.hid (bA0 w (.cells #[.int .i64 vars, .slice sl cs.length cap] 25))
  have hs0 : (w.alloc (.cells #[.int .i64 vars, .slice sl cs.length cap] 25)).heap.size = w.heap.size + 1 := by simp
  have LH := Lib.hid (show ∀ (k : Nat) (r : LCl), (cs ++ ds)[k]? = some r → ∃ s q kc, r.1 = .slice s q kc from fun k r hk => by
    rcases List.mem_append.1 (List.mem_of_getElem? hk) with h | h
    · obtain ⟨s, kc, e, _⟩ := hz.each r h
      exact ⟨s, _, kc, e⟩
    · obtain ⟨s, kc, e, _⟩ := ht.each r h
      exact ⟨s, _, kc, e⟩)
  have CC : Hid (∀ W, Below w.heap.size w W → Calls Try.prog 52 #[.slice (some ⟨W.heap.size, 0, none⟩) 2 2] (W.alloc (.cells #[.slice sl cs.length cap, .slice sl2 ds.length cap2] 23)) fun e w' => ∃ v, e = .returned v ∧ w'.ownsRow (W.heap.size + 1) 28 1 v (cs ++ ds).length (hdC (cs ++ ds)) ∧ Below (W.heap.size + 1) (W.alloc (.cells #[.slice sl cs.length cap, .slice sl2 ds.length cap2] 23)) w') := fun W hW => by
    have hb : Below w.heap.size w (W.alloc (.cells #[.slice sl cs.length cap, .slice sl2 ds.length cap2] 23)) := bA hW _
    obtain ⟨c0, c1⟩ := two_row W (.slice sl cs.length cap) (.slice sl2 ds.length cap2) 23
    have hsz : (W.alloc (.cells #[.slice sl cs.length cap, .slice sl2 ds.length cap2] 23)).heap.size = W.heap.size + 1 := by simp
    have hr : VRws (W.alloc (.cells #[.slice sl cs.length cap, .slice sl2 ds.length cap2] 23)) (some ⟨W.heap.size, 0, none⟩) [(.slice sl cs.length cap, hdC cs), (.slice sl2 ds.length cap2, hdC ds)] := by
      refine ⟨.inr ⟨W.heap.size, 0, rfl, by omega, fun i hi => ?_⟩, fun r hr => ?_⟩
      · match i, hi with
        | 0, _ => exact c0
        | 1, _ => exact c1
      · rcases List.mem_cons.1 hr with rfl | hr
        · exact ⟨sl, cap, by rw [hdC_len], (hz.below hb).lie, hdC_one (hz.below hb).each⟩
        · rw [List.mem_singleton.1 hr]
          exact ⟨sl2, cap2, by rw [hdC_len], (ht.below hb).lie, hdC_one (ht.below hb).each⟩
    have := catV_any (some ⟨W.heap.size, 0, none⟩) 2 [(.slice sl cs.length cap, hdC cs), (.slice sl2 ds.length cap2, hdC ds)] _ (by simp) (by rw [flatV_two, List.length_append, hdC_len, hdC_len]; omega) hr
    rw [hsz, flatV_two] at this
    rw [hdC_add, show (cs ++ ds).length = (hdC cs ++ hdC ds).length by simp [hdC_len]]
    exact this
  have hlen : (cs ++ ds).length ≤ 200000 := by simp; omega
  have ST := Lib.hid (show ∀ (k : Nat) (r : LCl), (cs ++ ds)[k]? = some r → hdC ((cs ++ ds).take (k + 1)) = hdC ((cs ++ ds).take k) ++ [r.1] from fun k r hk => by
    have hl := (List.getElem?_eq_some_iff.1 hk)
    obtain ⟨hl, rfl⟩ := hl
    exact hdC_step _ k hl)
  have HG := Lib.hid (show ∀ (k : Nat), k < (cs ++ ds).length → ∃ r : LCl, (cs ++ ds)[k]? = some r ∧ (hdC (cs ++ ds))[k]? = some r.1 from fun k hk => ⟨(cs ++ ds)[k], List.getElem?_eq_getElem hk, by simp only [hdC, List.getElem?_map, List.getElem?_eq_getElem hk, Option.map_some]⟩)
  have TE := Lib.hid (show ∀ k, (cs ++ ds).length ≤ k → (cs ++ ds).take k = cs ++ ds from fun k hk => List.take_of_length_le hk)
  clear hz ht
  generalize cs ++ ds = ls at *
  generalize cs.length = n at *
  generalize ds.length = m at *
  generalize hN : ls.length = q at *
  have HN := Lib.hid hN
  clear hN
  obtain ⟨t0, t1⟩ := CA.out.cells
  have tl := CA.out.lt
  go_enter Try.func30, Try.ntmps30
  go_wp2_with fail
  have C2 := Lib.hid (CC.out _ B0.out)
  rw [hs0] at C2
  generalize w.alloc (.cells #[.int .i64 vars, .slice sl n cap] 25) = w0 at *
  refine C2.out.mono ?_
  rintro e w1 ⟨v1, rfl, O1, b1⟩
  obtain ⟨s1, k1, rfl⟩ := own_v O1
  have hs1 : w.heap.size + 1 + 1 ≤ w1.heap.size := by have := b1.size; simp at this; omega
  have BB := Lib.hid (show Below w.heap.size w w1 from (bA B0.out _).trans (b1.mono (by omega)))
  have RD : Hid (∀ W, Below w1.heap.size w1 W → ∀ k, k < q → ∃ g, s1 = some ⟨g, 0, none⟩ ∧ W.cell? ⟨g, k, none⟩ = (hdC ls)[k]?) := fun W hW k hk => by
    rcases O1.2 with ⟨_, h0⟩ | ⟨g, cp, cur, hv, hb, hg, h5, h6, h7, h8⟩
    · omega
    · cases hv
      refine ⟨g, rfl, ?_⟩
      have hgl := (Array.getElem?_eq_some_iff.1 hg).1
      rw [hW.cell (p := ⟨g, k, none⟩) hgl, ← h8, List.getElem?_take_of_lt (by omega)]
      simp [World.cell?, hg]
  clear O1 b1 C2 CC t0 t1 tl CA B0 hs0
  go_wp2
  go_loopw [5, 14] (fun v i wr => ∃ k : Nat, i = .int .i64 k ∧ k ≤ q ∧ Hid (wr.ownsRow w1.heap.size 121 1 v k (hdC (ls.take k))) ∧ Hid (Below w1.heap.size w1 wr)) (fun _ i _ => q - (intOf i).toNat)
  case atStart => exact ⟨0, rfl, Nat.zero_le _, ⟨rfl, .inl ⟨rfl, rfl⟩⟩, Below.refl _ _⟩
  case round =>
    obtain ⟨k, rfl, hk, H1, H2⟩ := hrel
    have hk0 : (0 : Int) ≤ (k : Int) := by omega
    by_cases h1 : k < q
    · have h1' : (k : Int) < (q : Int) := by omega
      obtain ⟨g, rfl, hcell⟩ := RD.out wr H2.out k h1
      obtain ⟨r, hr, hh⟩ := HG.out k h1
      rw [hh] at hcell
      obtain ⟨sa, qa, ka, ea⟩ := LH.out k r hr
      have EV := Lib.hid (ST.out k r hr)
      rw [ea] at hcell EV
      have hs := H2.out.size
      clear hr hh ea
      go_wp2_with (first | (at_builtin; refine wpList_append_lies _ rfl (.tmp 18) (.tmp 20) 56 rfl w1.heap.size 121 i3 (.slice none 0 0) 1 24 Try.underlying56 hi3 hd0 hd1 hd2 rfl (by decide) _ _ _ rfl (H1.out.alloc _) ⟨wr.heap.size, 0, none⟩ 1 1 [.slice sa qa ka] rfl rfl (cell_at_new _ _ _) (by intro u hu; simp at hu; subst hu; rfl) (by decide) (by unfold maxLen; omega) (by omega) (by simp; omega) (wr.heap.size + 1) (by simp) ?_))
      intro g9 cap9 w9 own9 grow9 hg9 hlt9
      have B9 := Lib.hid ((bA H2.out (.cells #[.slice sa qa ka] 121)).grown grow9 (by simp; omega) (fun j hj => (H1.out.lt j hj).1))
      rw [← EV.out] at own9
      have N9 := Lib.hid own9
      clear own9 grow9 hg9 hlt9
      go_wp2
      go_roundw
      case rel => exact ⟨k + 1, by go_num, by omega, N9, B9⟩
      case measure => simp [intOf]; omega
    · have h1' : ¬ (k : Int) < (q : Int) := by omega
      have e : k = q := by omega
      have H9 := H1.out
      rw [TE.out k (by omega), e] at H9
      have P := Lib.hid (And.intro (own_mono H9 (by omega : w.heap.size ≤ w1.heap.size)) (BB.out.trans (H2.out.mono (by omega))))
      clear H9 H1
      go_wp2
      go_ret
      exact ⟨_, rfl, P.out.1, P.out.2⟩

end Go.Proofs.Ytdmnnclbcljdmaa
