/-
  LINES OF A LOG: as lists; and as the program tells them.
-/
import Derived.Test.YtmffoannknkjkaaDoorPa
import Derived.Maps.AppendAt
namespace Go.Proofs.YtmffoannknkjkaaDoor
open Go.RowKit
set_option linter.unusedVariables false

def allLines (rs : List (Int × List Int)) : List ByteArray := (rs.filter fun r => lineR r.1 r.2).map fun r => bytesZ r.2
/-- The lines of these records, at most 400. -/
def linesZ (rs : List (Int × List Int)) : List ByteArray := (allLines rs).take 400
theorem linesZ_len (rs : List (Int × List Int)) : (linesZ rs).length ≤ 400 := by simp [linesZ]; omega
theorem linesZ_nil (rs : List (Int × List Int)) : linesZ (rs.take 0) = [] := by simp [linesZ, allLines]
theorem allLines_app (a b : List (Int × List Int)) : allLines (a ++ b) = allLines a ++ allLines b := by simp [allLines]
theorem take_succ_at (rs : List (Int × List Int)) (k : Nat) (kd : Int) (zs : List Int) (h : rs[k]? = some (kd, zs)) : rs.take (k + 1) = rs.take k ++ [(kd, zs)] := by
  obtain ⟨hk, e⟩ := List.getElem?_eq_some_iff.1 h
  rw [List.take_succ_eq_append_getElem hk, e]
theorem linesZ_no (rs : List (Int × List Int)) (k : Nat) (kd : Int) (zs : List Int) (h : rs[k]? = some (kd, zs)) (hl : lineR kd zs = false) : linesZ (rs.take (k + 1)) = linesZ (rs.take k) := by
  unfold linesZ
  rw [take_succ_at rs k kd zs h, allLines_app]
  simp [allLines, hl]
theorem linesZ_yes (rs : List (Int × List Int)) (k : Nat) (kd : Int) (zs : List Int) (h : rs[k]? = some (kd, zs)) (hl : lineR kd zs = true) (hn : (linesZ (rs.take k)).length < 400) : linesZ (rs.take (k + 1)) = linesZ (rs.take k) ++ [bytesZ zs] := by
  unfold linesZ at *
  rw [take_succ_at rs k kd zs h, allLines_app]
  have e : allLines [(kd, zs)] = [bytesZ zs] := by simp [allLines, hl]
  rw [List.length_take] at hn
  have e3 : (allLines (rs.take k) ++ [bytesZ zs]).take 400 = allLines (rs.take k) ++ [bytesZ zs] := List.take_of_length_le (by rw [List.length_append, List.length_singleton]; omega)
  have e4 : (allLines (rs.take k)).take 400 = allLines (rs.take k) := List.take_of_length_le (by omega)
  rw [e, e3, e4]
theorem linesZ_full (rs : List (Int × List Int)) (k : Nat) (hn : 400 ≤ (linesZ (rs.take k)).length) : linesZ rs = linesZ (rs.take k) := by
  have e := List.take_append_drop k rs
  have e2 : allLines rs = allLines (rs.take k) ++ allLines (rs.drop k) := by rw [← allLines_app, e]
  unfold linesZ at *
  rw [List.length_take] at hn
  rw [e2, List.take_append_of_le_length (by omega)]
theorem linesZ_full' (rs : List (Int × List Int)) (k j : Nat) (hkj : k ≤ j) (hn : 400 ≤ (linesZ (rs.take k)).length) : linesZ (rs.take j) = linesZ (rs.take k) := by
  have := linesZ_full (rs.take j) k (by rw [List.take_take, Nat.min_eq_left hkj]; exact hn)
  rwa [List.take_take, Nat.min_eq_left hkj] at this

/-- The records of a disk's log. -/
noncomputable def lor (s : ByteArray) (ss : List ByteArray) : List (Int × List Int) := (reads_ex (dT s ss).data.toList).choose
theorem lor_is {s : ByteArray} {ss : List ByteArray} {rs : List (Int × List Int)} {u : Nat} {c : Int} (h : Reads (dT s ss).data.toList rs u c) : rs = lor s ss := by
  obtain ⟨u', c', h'⟩ := (reads_ex (dT s ss).data.toList).choose_spec
  exact (h.uniq h').1
def LLPost (s : ByteArray) (ss : List ByteArray) (w : World) (e : Ending) (w' : World) : Prop :=
  ∃ v, e = .returned v ∧ OwnS w' w.heap.size v (linesZ (lor s ss)) ∧ Below w.heap.size w w'
theorem dT_le (s : ByteArray) (ss : List ByteArray) : (dT s ss).size ≤ 20000 := by
  cases hr : dR s ss
  · have : dT s ss = ⟨#[]⟩ := by simp [dT, hr]
    rw [this]; decide
  · rw [dT_size hr]; exact (dR_parts hr).2.2
theorem OwnS.app {w : World} {B : Nat} {sl : Option Addr} {m cap : Nat} {ss : List ByteArray} {x : ByteArray} (h : w.ownsRow B 9 1 (.slice sl (m + 1) cap) (m + 1) (ss.map Value.string ++ [.string x])) (hm : ss.length = m) : OwnS w B (.slice sl (m + 1) cap) (ss ++ [x]) := by
  unfold OwnS
  rw [List.length_append, List.length_singleton, hm, List.map_append]
  exact h

set_option maxRecDepth 100000 in
set_option maxHeartbeats 1000000 in
theorem ill_any (s : ByteArray) (sl : Option Addr) (cap : Nat) (ss : List ByteArray) (w : World) (hS : s.size + tot ss ≤ 4000000) (hz : Strs w sl ss) (ht : U8 w) :
    Calls Tryd.prog 8 #[DV s sl ss.length cap] w fun e w' => LLPost s ss w e w' := by
  obtain ⟨i9, hi9, hd0, hd1, hd2⟩ := info_parts info9'
  have T : Hid (∀ w1, Below w.heap.size w w1 → Calls Tryd.prog 23 #[DV s sl ss.length cap] w1 fun e w' => e = .returned (.string (dT s ss)) ∧ Below w1.heap.size w1 w') := fun w1 hb => idt_any s sl cap ss w1 hS (hz.below hb)
  have RC : Hid (∀ w1, Below w.heap.size w w1 → Calls Tryd.prog 22 #[.string (dT s ss)] w1 fun e w' => ∃ rs v u c, e = .returned (.agg #[v, .int .i64 u, .int .i64 c]) ∧ bare rs = lor s ss ∧ rs.length ≤ 20000 ∧ RecsIn w1.heap.size w' v rs ∧ Below w1.heap.size w1 w') := fun w1 hb => by
    refine (rcsX_any (dT s ss) w1 (ht.below hb)).mono ?_
    rintro e w' ⟨rs, v, u, c, hr, rfl, -, hI, b⟩
    refine ⟨rs, v, u, c, rfl, lor_is hr, ?_, hI, b⟩
    have h1 := hr.len
    have h2 := dT_le s ss
    rw [bare_len] at h1
    have e : (dT s ss).data.toList.length = (dT s ss).size := by simp
    omega
  have D0 := DAt.new 27 w s (.slice sl ss.length cap)
  have PE : Hid (∀ w' v, Below w.heap.size w w' → OwnS w' w.heap.size v (linesZ (lor s ss)) → LLPost s ss w (.returned v) w') := fun w' v hb ho => ⟨v, rfl, ho, hb⟩
  clear hz hS ht
  generalize lor s ss = R at *
  generalize ss.length = n0 at *
  generalize dT s ss = F at *
  have F0 := fld37l
  go_enter Tryd.func8, Tryd.ntmps8
  go_wp2_with fail
  refine (T.out _ (bA0 _ _)).mono ?_
  rintro e w1 ⟨rfl, b1⟩
  have B1 := Lib.hid (bT (bA0 _ _) b1)
  clear b1
  go_wp2_with fail
  refine (RC.out _ B1.out).mono ?_
  rintro e w2 ⟨rs, v, u, c, rfl, eR, hn2, r2, b2⟩
  obtain ⟨sl2, cap2, rfl⟩ := r2.form
  have B2 := Lib.hid (bT B1.out b2)
  have R2 := Lib.hid r2
  have ER := Lib.hid eR
  clear eR r2 b2 B1 T RC D0
  generalize hN : rs.length = n at *
  have HN := Lib.hid hN
  clear hN
  go_wp2_with fail
  go_loopw [3, 13] (fun v i wr => ∃ k : Nat, i = .int .i64 k ∧ k ≤ n ∧ Hid (Below w2.heap.size w2 wr) ∧ Hid (OwnS wr w2.heap.size v (linesZ (R.take k)))) (fun _ i _ => n - (intOf i).toNat)
  case atStart =>
    refine ⟨0, rfl, Nat.zero_le _, Below.refl _ _, ?_⟩
    show OwnS _ _ _ _
    rw [linesZ_nil]; exact OwnS.nil _ _
  case round =>
    obtain ⟨k, rfl, hk, H1, H2⟩ := hrel
    obtain ⟨slv, capv, rfl, -⟩ := H2.out.strs
    have hk0 : (0 : Int) ≤ (k : Int) := by omega
    by_cases h1 : k < n
    · have h1' : (k : Int) < (n : Int) := by omega
      obtain ⟨g, cap', kd, sl3, cap3, zs, ev, hg, hb3, c0, c1, hI, hR⟩ := (R2.out.below H1.out).at k (by rw [HN.out]; exact h1)
      rw [HN.out] at ev
      simp only [Value.slice.injEq, true_and] at ev
      obtain ⟨rfl, rfl⟩ := ev
      rw [ER.out] at hb3
      have HB3 := Lib.hid hb3
      have LIN : Hid (∀ w3, Below wr.heap.size wr w3 → Calls Tryd.prog 24 #[RV kd sl3 zs.length cap3] w3 fun e w' => LinPost kd zs w3 e w') := fun w3 hb => lin_any kd sl3 cap3 zs w3 (by
        have := hR; simp only [recR, Bool.and_eq_true, decide_eq_true_eq] at this; omega) (hI.below hb)
      have HL := Lib.hid (linesZ_len (R.take k))
      clear hb3 hI hR
      generalize hq : zs.length = q at *
      have HQ := Lib.hid hq
      clear hq
      generalize hm : (linesZ (R.take k)).length = m at *
      have HM := Lib.hid hm
      clear hm
      go_wp2_with fail
      refine (LIN.out _ (bA0 _ _)).mono ?_
      rintro e w5 ⟨rfl, b5⟩
      have B5 := Lib.hid (bT (bA0 wr (.cells #[.int .i64 kd, .slice sl3 q cap3] 42)) b5)
      clear b5 c0 c1
      cases hl : lineR kd zs
      · have E := Lib.hid (linesZ_no R k kd zs HB3.out hl)
        simp only [Bool.false_eq_true, if_false]
        go_wp2
        go_roundw
        case rel => exact ⟨k + 1, by go_num, by omega, H1.out.trans (B5.out.mono H1.out.size), by rw [E.out]; exact H2.out.below B5.out⟩
        case measure => simp [intOf]; omega
      · simp only [if_true]
        by_cases h4 : m < 400
        · have E := Lib.hid (linesZ_yes R k kd zs HB3.out hl (by rw [HM.out]; exact h4))
          have h4' : (m : Int) < 400 := by omega
          have hown : Hid (w5.ownsRow w2.heap.size 9 1 (.slice slv m capv) m ((linesZ (R.take k)).map Value.string)) := by
            have := H2.out.below B5.out
            unfold OwnS at this
            rwa [HM.out] at this
          have hs5 : w2.heap.size ≤ w5.heap.size := Nat.le_trans H1.out.size B5.out.size
          have B6 := Lib.hid (H1.out.trans (B5.out.mono H1.out.size))
          generalize bytesZ zs = X at *
          go_wp2_with (first | (at_builtin; refine wpList_append_lies _ rfl (.tmp 28) (.tmp 30) 22 rfl w2.heap.size 9 i9 (.string ⟨#[]⟩) 1 16 Tryd.underlying22 hi9 hd0 hd1 hd2 rfl (by decide) _ _ _ rfl (own_below hown.out (bA0 _ _)) ⟨w5.heap.size, 0, none⟩ 1 1 [.string X] rfl rfl (cell_one_new _ _ _) (by intro u hu; simp at hu; rcases hu with rfl; rfl) (by decide) (by unfold maxLen; omega) (by omega) (by simp; omega) (w5.heap.size + 1) (by simp) ?_))
          intro g9 cap9 w9 own9 grow9 hg9 hlt9
          have O9 := Lib.hid (OwnS.app own9 HM.out)
          have B9 : Hid (Below w2.heap.size w2 w9) := ((B6.out.trans ((bA0 w5 (.cells #[.string X] 9)).mono hs5))).grown grow9 (by simp; omega) (fun j hj => (hown.out.lt j hj).1)
          clear own9 grow9 hg9 hlt9
          go_wp2
          go_roundw
          case rel => exact ⟨k + 1, by go_num, by omega, B9.out, by rw [E.out]; exact O9.out⟩
          case measure => simp [intOf]; omega
        · have h4' : ¬ (m : Int) < 400 := by omega
          have E := Lib.hid (linesZ_full' R k (k + 1) (by omega) (by rw [HM.out]; omega))
          go_wp2
          go_roundw
          case rel => exact ⟨k + 1, by go_num, by omega, H1.out.trans (B5.out.mono H1.out.size), by rw [E.out]; exact H2.out.below B5.out⟩
          case measure => simp [intOf]; omega
    · have h1' : ¬ (k : Int) < (n : Int) := by omega
      have hR9 : R.length = n := by rw [← ER.out, bare_len, HN.out]
      have E : Hid (linesZ (R.take k) = linesZ R) := by show _ = _; rw [List.take_of_length_le (by omega)]
      have hw2 := B2.out.size
      generalize (linesZ (R.take k)).length = m at *
      go_wp2
      go_ret
      exact PE.out _ _ (B2.out.trans (H1.out.mono hw2)) (by rw [← E.out]; exact OwnS.mono H2.out hw2)

end Go.Proofs.YtmffoannknkjkaaDoor
