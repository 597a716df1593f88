/-
  VALUES WITH ANOTHER WORTH: both sides.
-/
import Derived.Test.YtnkiaickkbkjnaaMa
namespace Go.Proofs.Ytnkiaickkbkjnaa
open Go.RowKit
set_option linter.unusedVariables false

/-- The values with the worth wo in place of the one of id. -/
def othL (id wo : Int) (vs : List LPl) : List LPl := vs.map fun v => if v.1 = id then (v.1, wo) else v
def othA (id wo : Int) (vs : List LPl) : List LPl := if vs.length ≤ 400 then othL id wo vs else []
theorem othL_len (id wo : Int) (vs : List LPl) : (othL id wo vs).length = vs.length := by simp [othL]
theorem othA_len (id wo : Int) (vs : List LPl) : (othA id wo vs).length ≤ 400 := by
  unfold othA
  split
  · rw [othL_len]; assumption
  · exact Nat.zero_le _
theorem othL_step (id wo : Int) (vs : List LPl) (k : Nat) (h : k < vs.length) : othL id wo (vs.take (k + 1)) = othL id wo (vs.take k) ++ [if vs[k].1 = id then (vs[k].1, wo) else vs[k]] := by
  unfold othL
  rw [List.take_add_one, List.getElem?_eq_getElem h, List.map_append]
  rfl
theorem cellsP2 {w : World} {b : Nat} {t : TypeId} {a0 a1 : Value} (h : w.heap[b]? = some (.cells #[a0, a1] t)) :
    w.cell? ⟨b, 0, none⟩ = some a0 ∧ w.cell? ⟨b, 1, none⟩ = some a1 ∧ (∀ o, w.frozen? ⟨b, o, none⟩ = false) ∧ b < w.heap.size := by
  refine ⟨?_, ?_, fun o => ?_, (Array.getElem?_eq_some_iff.1 h).1⟩ <;> simp [World.cell?, World.frozen?, h]
theorem cell_two_at (w : World) (n : Nat) (h : w.heap.size = n) (a b : Value) (t : TypeId) : ∀ (j : Nat) (u : Value), [a, b][j]? = some u → (w.alloc (.cells #[a, b] t)).cell? ((⟨n, 0, none⟩ : Addr).add j) = some u := by
  subst h
  intro j u hu
  obtain ⟨c0, c1, -, -⟩ := cellsP2 (new_at w (.cells #[a, b] t))
  match j, hu with
  | 0, hu => simp [Addr.add, ← hu]
  | 1, hu => simp [Addr.add, ← hu]
  | j + 2, hu => simp at hu

set_option maxRecDepth 100000 in
set_option maxHeartbeats 4000000 in
/-- impl.TruthOther. -/
theorem ito_any (vl : Option Addr) (cv : Nat) (vs : List LPl) (id wo : Int) (w : World) (hv : vs.length ≤ 1048576) (hvs : Pls w vl vs) :
    Calls Try.prog 7 #[.slice vl vs.length cv, .int .i64 id, .int .i64 wo] w fun e w' => ∃ v, e = .returned v ∧ w'.ownsRow w.heap.size 31 2 v (othA id wo vs).length (enCells (othA id wo vs)) ∧ Below w.heap.size w w' := by
  obtain ⟨i0, hi0, hz0, hz1, hz2⟩ := info_parts infoVal
  have V0 := Lib.hid (show ¬ vs.length ≤ 400 → othA id wo vs = [] from fun g => if_neg g)
  have V1 := Lib.hid (show vs.length ≤ 400 → othA id wo vs = othL id wo vs from fun g => if_pos g)
  have TK := Lib.hid (show vs.take vs.length = vs from List.take_length)
  have HV := Lib.hid hvs
  clear hvs
  generalize othA id wo vs = pa at *
  generalize hA : vs.length = a at *
  have HA := Lib.hid hA
  clear hA
  by_cases h4 : a ≤ 400
  case neg =>
    have HF := V0.out h4
    subst HF
    have h4' : (400 : Int) < (a : Int) := by omega
    clear V0 V1 TK HV HA
    go_enter Try.func7, Try.ntmps7
    go_wp2
    go_ret
    exact ⟨_, rfl, ⟨rfl, .inl ⟨rfl, rfl⟩⟩, Below.refl _ _⟩
  have HF := V1.out h4
  subst HF
  have h4' : ¬ (400 : Int) < (a : Int) := by omega
  clear V0 V1
  go_enter Try.func7, Try.ntmps7
  go_wp2
  go_loopw [7, 15] (fun v i wr => ∃ k : Nat, i = .int .i64 k ∧ k ≤ a ∧ Hid (wr.ownsRow w.heap.size 31 2 v (othL id wo (vs.take k)).length (enCells (othL id wo (vs.take k)))) ∧ Hid (Below w.heap.size w wr)) (fun _ i _ => a - (intOf i).toNat)
  case atStart => exact ⟨0, rfl, Nat.zero_le _, ⟨rfl, .inl ⟨rfl, rfl⟩⟩, Below.refl _ _⟩
  case round =>
    obtain ⟨k, rfl, hk, H1, H2⟩ := hrel
    have hk0 : (0 : Int) ≤ (k : Int) := by omega
    by_cases h1 : k < a
    · have h1' : (k : Int) < (a : Int) := by omega
      have hlt : k < vs.length := by rw [HA.out]; exact h1
      obtain ⟨g, o, rfl, Z0⟩ : ∃ c o, vl = some ⟨c, o, none⟩ ∧ PlAt w c o vs := by
        rcases HV.out with e | h
        · rw [e] at hlt; simp at hlt
        · exact h
      obtain ⟨c0, c1⟩ := (Z0.below H2.out).cell k hlt
      have zl := (Z0.below H2.out).lt
      have LE : (othL id wo (vs.take k)).length ≤ 400 := by rw [othL_len, List.length_take]; omega
      have YY := Lib.hid (othL_step id wo vs k hlt)
      obtain ⟨x, y, hp⟩ : ∃ a b, vs[k] = (a, b) := ⟨_, _, rfl⟩
      rw [hp] at c0 c1 YY
      dsimp only at c0 c1 YY
      have hs := H2.out.size
      have RA : Hid (∀ c, (wr.alloc c).ownsRow w.heap.size 31 2 _ (othL id wo (vs.take k)).length (enCells (othL id wo (vs.take k)))) := fun c => H1.out.alloc c
      clear hp hlt Z0
      by_cases hx : x = id
      · subst hx
        rw [if_pos rfl] at YY
        have EV := Lib.hid (show enCells (othL x wo (vs.take k)) ++ [.int .i64 x, .int .i64 wo] = enCells (othL x wo (vs.take k) ++ [(x, wo)]) from (enCells_add (othL x wo (vs.take k)) (x, wo)).symm)
        have hxx : (x == x) = true := by simp
        have hS : (wr.alloc (.cells #[.int .i64 x, .int .i64 wo] 31)).heap.size = wr.heap.size + 1 := by simp
        go_wp2_with (first | (at_builtin; refine wpList_append_lies _ rfl (.tmp 25) (.tmp 27) 24 rfl w.heap.size 31 i0 (.agg #[.int .i64 0, .int .i64 0]) 2 16 Try.underlying24 hi0 hz0 hz1 hz2 rfl (by decide) _ _ _ rfl ((RA.out _).alloc _) ⟨wr.heap.size + 1, 0, none⟩ 1 1 [.int .i64 x, .int .i64 wo] rfl rfl (cell_two_at _ _ hS _ _ _) (by intro u hu; simp at hu; rcases hu with rfl | rfl <;> rfl) (by decide) (by unfold maxLen; omega) (by omega) (by simp; omega) (wr.heap.size + 1 + 1) (by simp) ?_))
        intro g9 cap9 w9 own9 grow9 hg9 hlt9
        have B9 := Lib.hid ((bA (bA H2.out (.cells #[.int .i64 x, .int .i64 wo] 31)) (.cells #[.int .i64 x, .int .i64 wo] 31)).grown grow9 (by simp; omega) (fun j hj => (H1.out.lt j hj).1))
        rw [EV.out] at own9
        have N9 := Lib.hid (show w9.ownsRow w.heap.size 31 2 _ (othL x wo (vs.take (k + 1))).length (enCells (othL x wo (vs.take (k + 1)))) by rw [YY.out, List.length_append]; exact own9)
        clear own9 grow9 hg9 hlt9 YY EV RA hS
        go_wp2
        go_roundw
        case rel => exact ⟨k + 1, by go_num, by omega, N9, B9⟩
        case measure => simp [intOf]; omega
      · rw [if_neg hx] at YY
        have EV := Lib.hid (show enCells (othL id wo (vs.take k)) ++ [.int .i64 x, .int .i64 y] = enCells (othL id wo (vs.take k) ++ [(x, y)]) from (enCells_add (othL id wo (vs.take k)) (x, y)).symm)
        have hxx : (x == id) = false := by simpa using hx
        have hS : (wr.alloc (.cells #[.int .i64 x, .int .i64 y] 31)).heap.size = wr.heap.size + 1 := by simp
        go_wp2_with (first | (at_builtin; refine wpList_append_lies _ rfl (.tmp 25) (.tmp 27) 24 rfl w.heap.size 31 i0 (.agg #[.int .i64 0, .int .i64 0]) 2 16 Try.underlying24 hi0 hz0 hz1 hz2 rfl (by decide) _ _ _ rfl ((RA.out _).alloc _) ⟨wr.heap.size + 1, 0, none⟩ 1 1 [.int .i64 x, .int .i64 y] rfl rfl (cell_two_at _ _ hS _ _ _) (by intro u hu; simp at hu; rcases hu with rfl | rfl <;> rfl) (by decide) (by unfold maxLen; omega) (by omega) (by simp; omega) (wr.heap.size + 1 + 1) (by simp) ?_))
        intro g9 cap9 w9 own9 grow9 hg9 hlt9
        have B9 := Lib.hid ((bA (bA H2.out (.cells #[.int .i64 x, .int .i64 y] 31)) (.cells #[.int .i64 x, .int .i64 y] 31)).grown grow9 (by simp; omega) (fun j hj => (H1.out.lt j hj).1))
        rw [EV.out] at own9
        have N9 := Lib.hid (show w9.ownsRow w.heap.size 31 2 _ (othL id wo (vs.take (k + 1))).length (enCells (othL id wo (vs.take (k + 1)))) by rw [YY.out, List.length_append]; exact own9)
        clear own9 grow9 hg9 hlt9 YY EV RA hS
        go_wp2
        go_roundw
        case rel => exact ⟨k + 1, by go_num, by omega, N9, B9⟩
        case measure => simp [intOf]; omega
    · have h1' : ¬ (k : Int) < (a : Int) := by omega
      have e : k = a := by omega
      have H9 := H1.out
      rw [e, TK.out] at H9
      have P := Lib.hid H9
      clear H9 H1
      go_wp2
      go_ret
      exact ⟨_, rfl, P.out, H2.out⟩

set_option maxRecDepth 100000 in
set_option maxHeartbeats 4000000 in
/-- spec.TruthOther. -/
theorem sto_any (vl : Option Addr) (cv : Nat) (vs : List LPl) (id wo : Int) (w : World) (hv : vs.length ≤ 1048576) (hvs : Pls w vl vs) :
    Calls Try.prog 5 #[.slice vl vs.length cv, .int .i64 id, .int .i64 wo] w fun e w' => ∃ v, e = .returned v ∧ w'.ownsRow w.heap.size 31 2 v (othA id wo vs).length (enCells (othA id wo vs)) ∧ Below w.heap.size w w' := by
  obtain ⟨i0, hi0, hz0, hz1, hz2⟩ := info_parts infoVal
  have V0 := Lib.hid (show ¬ vs.length ≤ 400 → othA id wo vs = [] from fun g => if_neg g)
  have V1 := Lib.hid (show vs.length ≤ 400 → othA id wo vs = othL id wo vs from fun g => if_pos g)
  have TK := Lib.hid (show vs.take vs.length = vs from List.take_length)
  have HV := Lib.hid hvs
  clear hvs
  generalize othA id wo vs = pa at *
  generalize hA : vs.length = a at *
  have HA := Lib.hid hA
  clear hA
  by_cases h4 : a ≤ 400
  case neg =>
    have HF := V0.out h4
    subst HF
    have h4' : (400 : Int) < (a : Int) := by omega
    clear V0 V1 TK HV HA
    go_enter Try.func5, Try.ntmps5
    go_wp2
    go_ret
    exact ⟨_, rfl, own_eVal w, bA0 _ _⟩
  have HF := V1.out h4
  subst HF
  have h4' : ¬ (400 : Int) < (a : Int) := by omega
  clear V0 V1
  go_enter Try.func5, Try.ntmps5
  go_wp2
  go_loopw [7, 8] (fun v i wr => ∃ k : Nat, i = .int .i64 k ∧ k ≤ a ∧ Hid (wr.ownsRow w.heap.size 31 2 v (othL id wo (vs.take k)).length (enCells (othL id wo (vs.take k)))) ∧ Hid (Below w.heap.size w wr)) (fun _ i _ => a - (intOf i).toNat)
  case atStart => exact ⟨0, rfl, Nat.zero_le _, own_eVal w, bA0 _ _⟩
  case round =>
    obtain ⟨k, rfl, hk, H1, H2⟩ := hrel
    have hk0 : (0 : Int) ≤ (k : Int) := by omega
    by_cases h1 : k < a
    · have h1' : (k : Int) < (a : Int) := by omega
      have hlt : k < vs.length := by rw [HA.out]; exact h1
      obtain ⟨g, o, rfl, Z0⟩ : ∃ c o, vl = some ⟨c, o, none⟩ ∧ PlAt w c o vs := by
        rcases HV.out with e | h
        · rw [e] at hlt; simp at hlt
        · exact h
      obtain ⟨c0, c1⟩ := (Z0.below H2.out).cell k hlt
      have zl := (Z0.below H2.out).lt
      have LE : (othL id wo (vs.take k)).length ≤ 400 := by rw [othL_len, List.length_take]; omega
      have YY := Lib.hid (othL_step id wo vs k hlt)
      obtain ⟨x, y, hp⟩ : ∃ a b, vs[k] = (a, b) := ⟨_, _, rfl⟩
      rw [hp] at c0 c1 YY
      dsimp only at c0 c1 YY
      have hs := H2.out.size
      have RA : Hid (∀ c, (wr.alloc c).ownsRow w.heap.size 31 2 _ (othL id wo (vs.take k)).length (enCells (othL id wo (vs.take k)))) := fun c => H1.out.alloc c
      clear hp hlt Z0
      by_cases hx : x = id
      · subst hx
        rw [if_pos rfl] at YY
        have EV := Lib.hid (show enCells (othL x wo (vs.take k)) ++ [.int .i64 x, .int .i64 wo] = enCells (othL x wo (vs.take k) ++ [(x, wo)]) from (enCells_add (othL x wo (vs.take k)) (x, wo)).symm)
        have hxx : (x == x) = true := by simp
        have hS : (wr.alloc (.cells #[.int .i64 x, .int .i64 wo] 31)).heap.size = wr.heap.size + 1 := by simp
        go_wp2_with (first | (at_builtin; refine wpList_append_lies _ rfl (.tmp 31) (.tmp 33) 24 rfl w.heap.size 31 i0 (.agg #[.int .i64 0, .int .i64 0]) 2 16 Try.underlying24 hi0 hz0 hz1 hz2 rfl (by decide) _ _ _ rfl ((RA.out _).alloc _) ⟨wr.heap.size + 1, 0, none⟩ 1 1 [.int .i64 x, .int .i64 wo] rfl rfl (cell_two_at _ _ hS _ _ _) (by intro u hu; simp at hu; rcases hu with rfl | rfl <;> rfl) (by decide) (by unfold maxLen; omega) (by omega) (by simp; omega) (wr.heap.size + 1 + 1) (by simp) ?_))
        intro g9 cap9 w9 own9 grow9 hg9 hlt9
        have B9 := Lib.hid ((bA (bA H2.out (.cells #[.int .i64 x, .int .i64 wo] 31)) (.cells #[.int .i64 x, .int .i64 wo] 31)).grown grow9 (by simp; omega) (fun j hj => (H1.out.lt j hj).1))
        rw [EV.out] at own9
        have N9 := Lib.hid (show w9.ownsRow w.heap.size 31 2 _ (othL x wo (vs.take (k + 1))).length (enCells (othL x wo (vs.take (k + 1)))) by rw [YY.out, List.length_append]; exact own9)
        clear own9 grow9 hg9 hlt9 YY EV RA hS
        go_wp2
        go_roundw
        case rel => exact ⟨k + 1, by go_num, by omega, N9, B9⟩
        case measure => simp [intOf]; omega
      · rw [if_neg hx] at YY
        have EV := Lib.hid (show enCells (othL id wo (vs.take k)) ++ [.int .i64 x, .int .i64 y] = enCells (othL id wo (vs.take k) ++ [(x, y)]) from (enCells_add (othL id wo (vs.take k)) (x, y)).symm)
        have hxx : (x == id) = false := by simpa using hx
        have hS : (wr.alloc (.cells #[.int .i64 x, .int .i64 y] 31)).heap.size = wr.heap.size + 1 := by simp
        go_wp2_with (first | (at_builtin; refine wpList_append_lies _ rfl (.tmp 31) (.tmp 33) 24 rfl w.heap.size 31 i0 (.agg #[.int .i64 0, .int .i64 0]) 2 16 Try.underlying24 hi0 hz0 hz1 hz2 rfl (by decide) _ _ _ rfl ((RA.out _).alloc _) ⟨wr.heap.size + 1, 0, none⟩ 1 1 [.int .i64 x, .int .i64 y] rfl rfl (cell_two_at _ _ hS _ _ _) (by intro u hu; simp at hu; rcases hu with rfl | rfl <;> rfl) (by decide) (by unfold maxLen; omega) (by omega) (by simp; omega) (wr.heap.size + 1 + 1) (by simp) ?_))
        intro g9 cap9 w9 own9 grow9 hg9 hlt9
        have B9 := Lib.hid ((bA (bA H2.out (.cells #[.int .i64 x, .int .i64 y] 31)) (.cells #[.int .i64 x, .int .i64 y] 31)).grown grow9 (by simp; omega) (fun j hj => (H1.out.lt j hj).1))
        rw [EV.out] at own9
        have N9 := Lib.hid (show w9.ownsRow w.heap.size 31 2 _ (othL id wo (vs.take (k + 1))).length (enCells (othL id wo (vs.take (k + 1)))) by rw [YY.out, List.length_append]; exact own9)
        clear own9 grow9 hg9 hlt9 YY EV RA hS
        go_wp2
        go_roundw
        case rel => exact ⟨k + 1, by go_num, by omega, N9, B9⟩
        case measure => simp [intOf]; omega
    · have h1' : ¬ (k : Int) < (a : Int) := by omega
      have e : k = a := by omega
      have H9 := H1.out
      rw [e, TK.out] at H9
      have P := Lib.hid H9
      clear H9 H1
      go_wp2
      go_ret
      exact ⟨_, rfl, P.out, H2.out⟩

end Go.Proofs.Ytnkiaickkbkjnaa
