/-
  A TABLE's TEXT, LINE BY LINE: as lists; strings.Split at a line feed.
-/
import Derived.Test.YtdndhhkpbcpalaaDoorKf
import Derived.Test.YtdndhhkpbcpalaaDoorShelfT
namespace Go.Proofs.YtdndhhkpbcpalaaDoor
open Go.RowKit
set_option linter.unusedVariables false
set_option linter.unusedSimpArgs false

theorem index_at (c : UInt8) (a r : List UInt8) (h : c ∉ a) : Lib.index (a ++ c :: r) [c] = a.length := by
  rw [Lib.index_one]
  induction a with
  | nil => simp [Lib.indexByte]
  | cons b t ih =>
    have hb : (b == c) = false := by rw [beq_eq_false_iff_ne]; intro e; exact h (by simp [e])
    have := ih (fun hm => h (List.mem_cons_of_mem _ hm))
    rw [List.cons_append, Lib.indexByte, hb, this]
    have h2 : ((t.length : Int) == -1) = false := by rw [beq_eq_false_iff_ne]; omega
    rw [h2]
    simp
theorem index_no (c : UInt8) (a : List UInt8) (h : c ∉ a) : Lib.index a [c] = -1 := by
  rw [Lib.index_one]
  induction a with
  | nil => simp [Lib.indexByte]
  | cons b t ih =>
    have hb : (b == c) = false := by rw [beq_eq_false_iff_ne]; intro e; exact h (by simp [e])
    have := ih (fun hm => h (List.mem_cons_of_mem _ hm))
    rw [Lib.indexByte, hb, this]
    simp
theorem split_kit (c : UInt8) : ∀ (n : Nat) (l : List UInt8), l.length ≤ n → Lib.splitK [c] 0 (Lib.count l [c]) l = splitL c l ∧ (splitL c l).length = Lib.count l [c] + 1 := by
  intro n
  induction n with
  | zero =>
    intro l hl
    obtain rfl : l = [] := List.eq_nil_of_length_eq_zero (by omega)
    rw [Lib.count_miss (index_no c [] (by simp)), split_one c [] (by simp)]
    exact ⟨rfl, rfl⟩
  | succ n ih =>
    intro l hl
    by_cases h : c ∈ l
    · obtain ⟨a, r, rfl, ha⟩ := List.eq_append_cons_of_mem h
      have hi := index_at c a r ha
      have hd : (a ++ c :: r).drop (a.length + [c].length) = r := by simp [List.drop_append]
      have hc := Lib.count_hit (s := a ++ c :: r) (sub := [c]) (i := a.length) (by simp) hi
      rw [hd] at hc
      have hk := ih r (by simp at hl; omega)
      rw [hc, split_cons c a r ha, Nat.add_comm 1, Lib.splitK, hi]
      have hm : ((a.length : Int) == -1) = false := by rw [beq_eq_false_iff_ne]; omega
      rw [hm]
      refine ⟨?_, by rw [List.length_cons, hk.2]⟩
      have ht : (a ++ c :: r).take ((a.length : Int).toNat + 0) = a := by simp
      have hd2 : (a ++ c :: r).drop ((a.length : Int).toNat + [c].length) = r := by simp [List.drop_append]
      rw [ht, hd2, hk.1]
      rfl
    · rw [Lib.count_miss (index_no c l h), split_one c l h]
      exact ⟨rfl, rfl⟩
/-- strings.Split at a line feed. -/
theorem spl_go (s : ByteArray) (m : Int) (w : World) (hs : s.size ≤ 1000000) (hm : w.cell? ⟨0, 0, none⟩ = some (.int .i64 m)) :
    Calls Tryd.prog 11 #[.string s, .string ⟨#[10]⟩] w fun e w' => e = .returned (.slice (some ⟨w.heap.size, 0, none⟩) (splitL 10 s.data.toList).length (splitL 10 s.data.toList).length) ∧ w' = w.alloc (.cells (strs (splitL 10 s.data.toList)).toArray 9) := by
  have hk := split_kit 10 s.data.toList.length s.data.toList (Nat.le_refl _)
  have e1 : Lib.countB s ⟨#[10]⟩ + 1 = (splitL 10 s.data.toList).length := hk.2.symm
  have e2 : (Lib.splitB ⟨#[10]⟩ 0 (Lib.countB s ⟨#[10]⟩) s).map Value.string = strs (splitL 10 s.data.toList) := by
    have hd := Lib.splitB_data ⟨#[10]⟩ 0 (Lib.countB s ⟨#[10]⟩) s
    rw [show (⟨#[10]⟩ : ByteArray).data.toList = [10] from rfl, show Lib.countB s ⟨#[10]⟩ = Lib.count s.data.toList [10] from rfl, hk.1] at hd
    rw [← hd]
    unfold strs
    rw [List.map_map]
    exact List.map_congr_left fun b _ => rfl
  have := Tryd.strings_Split s ⟨#[10]⟩ m w (by omega) hm (by decide)
  rw [e1, e2] at this
  exact this

/-! ### what a text is read as -/
/-- Line by line from a table on: the table behind them, or the place of the first wrong one. -/
noncomputable def runL : Nat → List BSt → List LPr → List (List UInt8) → Sum Nat (List BSt × List LPr)
  | _, bs, ps, [] => .inr (bs, ps)
  | k, bs, ps, l :: r => match lineP bs ps l with
    | none => .inl k
    | some x => runL (k + 1) x.1 x.2 r
/-- The table, the line and the code. -/
noncomputable def outF (t : List UInt8) : List BSt × List LPr × Int × Int :=
  match runL 0 [] [] ((splitL 10 t).take ((splitL 10 t).length - 1)) with
  | .inl k => ([], [], (k : Int), 3)
  | .inr x => if (splitL 10 t).length - 1 = 0 ∨ (splitL 10 t).getD ((splitL 10 t).length - 1) [] ≠ [] then ([], [], (((splitL 10 t).length - 1 : Nat) : Int), 3) else (x.1, x.2, 0, 0)
/-- What both tell of a text. -/
noncomputable def outS (s : ByteArray) : List BSt × List LPr × Int × Int := if 20000 < s.size then ([], [], 0, 2) else outF s.data.toList
theorem runL_none {k : Nat} {bs : List BSt} {ps : List LPr} {l : List UInt8} {r : List (List UInt8)} (h : lineP bs ps l = none) : runL k bs ps (l :: r) = .inl k := by rw [runL, h]
theorem runL_some {k : Nat} {bs bs' : List BSt} {ps ps' : List LPr} {l : List UInt8} {r : List (List UInt8)} (h : lineP bs ps l = some (bs', ps')) : runL k bs ps (l :: r) = runL (k + 1) bs' ps' r := by rw [runL, h]
theorem outF_bad {t : List UInt8} {k : Nat} (h : runL 0 [] [] ((splitL 10 t).take ((splitL 10 t).length - 1)) = .inl k) : outF t = ([], [], (k : Int), 3) := by unfold outF; rw [h]
theorem outF_end {t : List UInt8} {x : List BSt × List LPr} (h : runL 0 [] [] ((splitL 10 t).take ((splitL 10 t).length - 1)) = .inr x) : outF t = if (splitL 10 t).length - 1 = 0 ∨ (splitL 10 t).getD ((splitL 10 t).length - 1) [] ≠ [] then ([], [], (((splitL 10 t).length - 1 : Nat) : Int), 3) else (x.1, x.2, 0, 0) := by unfold outF; rw [h]
/-- A line is a step: what it makes of the table grows by one. -/
theorem line_grow {rs rs' : List LSt} {ps ps' : List LPr} {l : List UInt8} (h : lineP (bare rs) ps l = some (bare rs', ps')) : rs'.length ≤ rs.length + 1 ∧ ps'.length ≤ ps.length + 1 ∧ ∀ p ∈ ps', p ∈ ps ∨ WfP p := by
  have hb : ∀ a : List LSt, (bare a).length = a.length := fun a => by simp [bare]
  rw [lineP_nums] at h
  split at h
  · rename_i hc
    unfold numsP at h
    split at h
    · split at h
      · split at h
        · injection h with h
          have h1 := congrArg Prod.fst h
          have h2 := congrArg Prod.snd h
          dsimp only at h1 h2
          have hl := congrArg List.length h1
          rw [List.length_append, hb, hb] at hl
          simp at hl
          subst h2
          exact ⟨by omega, by omega, fun p hp => .inl hp⟩
        · cases h
      · split at h
        · rename_i hk h2l
          injection h with h
          have h1 := congrArg Prod.fst h
          have h2 := congrArg Prod.snd h
          dsimp only at h1 h2
          have hl := congrArg List.length h1
          rw [hb, hb] at hl
          subst h2
          refine ⟨by omega, by simp, fun p hp => ?_⟩
          rcases List.mem_append.1 hp with hp | hp
          · exact .inl hp
          · rw [List.mem_singleton.1 hp]
            have hwz : ∀ i, i < 2 → wfI ((((splitL 32 l).drop 1).map digv).getD i 0) := fun i hi => by
              have hlt : i < (((splitL 32 l).drop 1).map digv).length := by rw [h2l.1]; exact hi
              rw [List.getD_eq_getElem?_getD, List.getElem?_eq_getElem hlt, Option.getD_some, List.getElem_map]
              have hx2 := List.all_eq_true.1 hc.1 _ (List.getElem_mem (by simpa using hlt))
              unfold numI at hx2
              rw [Bool.and_eq_true, decide_eq_true_eq] at hx2
              have := digv_small _ hx2.1
              exact wf_range (by omega) (by omega)
            have hkw : wfI (kindOf ((splitL 32 l).headD [])) := by
              rcases kind_cases _ hc.2 with e | e | e <;> (rw [e]; unfold wfI; decide)
            exact .inr ⟨⟨hwz 0 (by omega), hwz 1 (by omega)⟩, hkw⟩
        · cases h
    · cases h
  · cases h

end Go.Proofs.YtdndhhkpbcpalaaDoor
