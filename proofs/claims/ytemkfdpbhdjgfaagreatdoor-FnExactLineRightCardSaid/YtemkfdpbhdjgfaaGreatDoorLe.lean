/-
  WORDS AND THEIR NUMBERS: rows of texts and of numbers of one's own; the model's numbers of a line.
-/
import Derived.Test.YtemkfdpbhdjgfaaGreatDoorLd
namespace Go.Proofs.YtemkfdpbhdjgfaaGreatDoor
open Go.RowKit
set_option linter.unusedVariables false

/-- Numbers as values. -/
def valsZ (zs : List Int) : List Value := zs.map (Value.int .i64)
theorem own_cells {w : World} {B : Nat} {v : Value} {n : Nat} {xs : List Value} (h : w.ownsRow B 2 1 v n xs) (hn : 0 < n) :
    ∃ g cap, v = .slice (some ⟨g, 0, none⟩) n cap ∧ B ≤ g ∧ g < w.heap.size ∧ n ≤ cap ∧ cap ≤ maxLen ∧ ∀ j, j < n → w.cell? ⟨g, j, none⟩ = xs[j]? := by
  rcases h.2 with ⟨_, h0⟩ | ⟨g, cap, cur, hv, hb, hg, hcap, hmx, hcur, hx⟩
  · omega
  · refine ⟨g, cap, hv, hb, (Array.getElem?_eq_some_iff.1 hg).1, hcap, hmx, fun j hj => ?_⟩
    rw [← hx, List.getElem?_take_of_lt (by omega)]
    simp [World.cell?, hg]
theorem own_ints {w : World} {B : Nat} {v : Value} {zs : List Int} (h : w.ownsRow B 2 1 v zs.length (valsZ zs)) : ∃ sl cap, v = .slice sl zs.length cap ∧ Ints w sl zs := by
  by_cases hn : 0 < zs.length
  · obtain ⟨g, cap, rfl, _, hg, _, _, hc⟩ := own_cells h hn
    exact ⟨_, _, rfl, .inr ⟨g, 0, rfl, hg, fun i hi => by rw [Nat.zero_add, hc i hi]; simp [valsZ, hi]⟩⟩
  · have e : zs = [] := List.eq_nil_of_length_eq_zero (by omega)
    subst e
    rcases h.2 with ⟨hv, _⟩ | ⟨g, cap, cur, hv, _⟩
    · exact ⟨none, 0, hv, .inl rfl⟩
    · exact ⟨_, cap, hv, .inl rfl⟩
/-- A row of texts of one's own. -/
theorem own_strs {w : World} {B : Nat} {v : Value} {ls : List (List UInt8)} (h : w.ownsRow B 9 1 v ls.length (strs ls)) (h1 : 1 ≤ ls.length) : ∃ g cap, v = .slice (some ⟨g, 0, none⟩) ls.length cap ∧ g < w.heap.size ∧ ∀ i x, ls[i]? = some x → w.cell? ⟨g, i, none⟩ = some (strV x) := by
  rcases h.2 with ⟨_, h0⟩ | ⟨g, cap, cur, hv, hb, hg, _⟩
  · omega
  · refine ⟨g, cap, hv, (Array.getElem?_eq_some_iff.1 hg).1, fun i x hx => ?_⟩
    have hi := (List.getElem?_eq_some_iff.1 hx).1
    subst hv
    rw [h.cellAt i (by omega)]
    simp [strs, hx]
theorem valsZ_snoc (zs : List Int) (x : Int) : valsZ (zs ++ [x]) = valsZ zs ++ [.int .i64 x] := by simp [valsZ]
theorem spl_piece (c : UInt8) (t : List UInt8) : ∀ x ∈ splitL c t, x.length ≤ t.length := by
  have key : ∀ (t : List UInt8) (s : List (List UInt8) × List UInt8) (m : Nat), (∀ x ∈ s.1, x.length ≤ m) → s.2.length ≤ m → (∀ x ∈ (t.foldl (spS c) s).1, x.length ≤ m + t.length) ∧ (t.foldl (spS c) s).2.length ≤ m + t.length := by
    intro t
    induction t with
    | nil => intro s m h1 h2; exact ⟨h1, h2⟩
    | cons b r ih =>
      intro s m h1 h2
      rw [List.foldl_cons, List.length_cons]
      have := ih (spS c s b) (m + 1) (by
        intro x hx
        unfold spS at hx
        split at hx
        · rw [List.mem_append] at hx
          rcases hx with hx | hx
          · have := h1 x hx; omega
          · simp at hx; subst hx; omega
        · have := h1 x hx; omega) (by unfold spS; split <;> simp; omega)
      refine ⟨fun x hx => ?_, ?_⟩
      · have := this.1 x hx; omega
      · have := this.2; omega
  intro x hx
  have := key t ([], []) 0 (fun x hx => by cases hx) (Nat.le_refl _)
  unfold splitL spF at hx
  rw [List.mem_append] at hx
  rcases hx with hx | hx
  · have := this.1 x hx; omega
  · simp at hx; subst hx; have := this.2; omega
theorem own_none5 (w : World) : (w.alloc (.cells #[] 2)).ownsRow w.heap.size 2 1 (.slice (some ⟨w.heap.size, 0, none⟩) 0 0) 0 [] :=
  ⟨rfl, .inr ⟨w.heap.size, 0, #[], rfl, Nat.le_refl _, by show (w.heap.push _)[w.heap.size]? = _; simp, Nat.le_refl _, Nat.zero_le _, rfl, rfl⟩⟩
theorem own_below {B : Nat} {e : TypeId} {m : Nat} {v : Value} {n : Nat} {xs : List Value} {w w' : World} (h : w.ownsRow B e m v n xs) (hb : Below w.heap.size w w') : w'.ownsRow B e m v n xs := by
  refine ⟨h.1, ?_⟩
  rcases h.2 with h | ⟨g, cap, cur, hv, hg, hh, r⟩
  · exact .inl h
  · exact .inr ⟨g, cap, cur, hv, hg, (hb.block g (Array.getElem?_eq_some_iff.1 hh).1).trans hh, r⟩
theorem own_mono {w : World} {B B' : Nat} {e : TypeId} {m : Nat} {v : Value} {n : Nat} {xs : List Value} (h : w.ownsRow B e m v n xs) (hB : B' ≤ B) : w.ownsRow B' e m v n xs := by
  refine ⟨h.1, ?_⟩
  rcases h.2 with h | ⟨g, cap, cur, hv, hg, r⟩
  · exact .inl h
  · exact .inr ⟨g, cap, cur, hv, Nat.le_trans hB hg, r⟩
theorem own_len {w : World} {B t : Nat} {v : Value} {n : Nat} {xs : List Value} (h : w.ownsRow B t 1 v n xs) : ∃ sl cap, v = .slice sl n cap := by
  rcases h.2 with ⟨hv, h0⟩ | ⟨g, cap, cur, hv, _⟩
  · exact ⟨_, _, by rw [h0]; exact hv⟩
  · exact ⟨_, _, hv⟩

/-- A number from nought to all money. -/
def numR (t : List UInt8) : Bool := numK t && decide (0 ≤ numV t ∧ numV t ≤ 1000000000000)
theorem take_all {α : Type} (f : α → Bool) (ps : List α) (k : Nat) (h : k < ps.length) (ha : (ps.take k).all f = true) (hk : f ps[k] = true) : (ps.take (k + 1)).all f = true := by
  rw [List.take_succ_eq_append_getElem h, List.all_append, ha]
  simp [hk]
theorem all_not {α : Type} (f : α → Bool) (ps : List α) (k : Nat) (h : k < ps.length) (hk : f ps[k] = false) : ps.all f = false :=
  List.all_eq_false.2 ⟨_, List.getElem_mem h, by simp [hk]⟩

set_option maxRecDepth 100000 in
set_option maxHeartbeats 4000000 in
/-- spec.l15Numbers. -/
theorem snb_any (g cap : Nat) (wd : List UInt8) (ps : List (List UInt8)) (w : World) (hl : ps.length ≤ 1000) (hb : ∀ x ∈ ps, x.length ≤ 1000) (gl : g < w.heap.size) (gc : ∀ i x, (wd :: ps)[i]? = some x → w.cell? ⟨g, i, none⟩ = some (strV x)) :
    Calls Tryz.prog 7 #[.slice (some ⟨g, 0, none⟩) (ps.length + 1) cap] w fun e w' => ∃ v, e = .returned (.tuple #[v, .bool (ps.all numR)]) ∧ (ps.all numR = true → ∃ sl c, v = .slice sl ps.length c) ∧ Below w.heap.size w w' := by
  obtain ⟨i0, hi0, hz0, hz1, hz2⟩ := info_parts info2'
  have F0 := Lib.hid (show ∀ (k : Nat) (x : List UInt8), ps[k]? = some x → numR x = false → ps.all numR = false from fun k x h hn => by obtain ⟨h1, h2⟩ := List.getElem?_eq_some_iff.1 h; exact all_not numR ps k h1 (by rw [h2]; exact hn))
  have F1 := Lib.hid (show (ps.take ps.length).all numR = true → ps.all numR = true by rw [List.take_length]; exact id)
  generalize ps.all numR = lk at *
  have HB := Lib.hid hb
  have GC := Lib.hid gc
  have O0 := Lib.hid (own_none5 w)
  have A0 := Lib.hid (bA0 w (.cells #[] 2))
  generalize hM : ps.length = m at *
  have HM := Lib.hid hM
  clear hM hb gc
  go_enter Tryz.func7, Tryz.ntmps7
  go_wp2
  go_loopw [4, 5] (fun v i wr => ∃ k : Nat, i = .int .i64 ((k : Int) + 1) ∧ k ≤ m ∧ Hid (∃ vl, wr.ownsRow w.heap.size 2 1 v k vl) ∧ Hid ((ps.take k).all numR = true) ∧ Hid (Below w.heap.size w wr)) (fun _ i _ => m + 1 - (intOf i).toNat)
  case atStart => exact ⟨0, rfl, by omega, ⟨_, O0.out⟩, rfl, A0⟩
  case round =>
    obtain ⟨k, rfl, hk, H1, HA, H2⟩ := hrel
    have hk0 : (0 : Int) ≤ (k : Int) := by omega
    have hk1 : (0 : Int) ≤ (k : Int) + 1 := by omega
    have gl2 : g < wr.heap.size := Nat.lt_of_lt_of_le gl H2.out.size
    have hs2 := H2.out.size
    by_cases h1 : k < m
    · have h1' : (k : Int) + 1 < (m : Int) + 1 := by omega
      have h1'' : (k : Int) < (m : Int) := by omega
      have hlp : k < ps.length := by rw [HM.out]; exact h1
      have hc := (H2.out.cell (p := ⟨g, k + 1, none⟩) gl).trans (GC.out (k + 1) _ (by rw [List.getElem?_cons_succ]; exact List.getElem?_eq_getElem hlp))
      have hpl := HB.out ps[k] (List.getElem_mem hlp)
      have NU : Hid (∀ W, Calls Tryz.prog 10 #[strV ps[k]] W fun e w' => e = .returned (.tuple #[.int .i64 (numV ps[k]), .bool (numK ps[k])]) ∧ Below W.heap.size W w') := fun W => by
        have := num_any ⟨ps[k].toArray⟩ (by show ps[k].toArray.size ≤ _; simp at hpl ⊢; omega) W
        exact this
      have YY := Lib.hid (show numK ps[k] = true → 0 ≤ numV ps[k] → numV ps[k] ≤ 1000000000000 → (ps.take (k + 1)).all numR = true from fun e1 e2 e3 => take_all numR ps k hlp HA.out (by unfold numR; rw [e1]; simp [e2, e3]))
      have NN := Lib.hid (show ¬ (numK ps[k] = true ∧ 0 ≤ numV ps[k] ∧ numV ps[k] ≤ 1000000000000) → lk = false from fun h => F0.out k _ (List.getElem?_eq_getElem hlp) (by
        unfold numR
        cases hh : numK ps[k]
        · rfl
        · simp only [Bool.true_and, decide_eq_false_iff_not]; exact fun q => h ⟨hh, q⟩))
      obtain ⟨vl, h1o⟩ := H1.out
      have R1 := Lib.hid h1o
      clear hpl HA H1 h1o
      generalize numV ps[k] = nv at *
      generalize numK ps[k] = nk at *
      generalize strV ps[k] = sv at *
      clear hlp
      go_wp2_with fail
      refine (NU.out _).mono ?_
      rintro e w2 ⟨rfl, b2⟩
      have B2 := Lib.hid (bT H2.out b2)
      have R2 := Lib.hid (own_below R1.out b2)
      have hs3 := b2.size
      clear b2 NU R1
      cases nk
      · have HF := NN.out (fun h => by cases h.1)
        subst HF
        clear NN YY R2 F0 F1
        go_wp2
        exact bodyPost_ret (v := .tuple #[_, .bool false]) (by simp [results, Tryz.results7, go_sem]; rfl) rfl ⟨_, rfl, fun h => (by cases h), B2.out⟩
      by_cases n0 : nv < 0
      · have HF := NN.out (fun h => by omega)
        subst HF
        clear NN YY R2 F0 F1
        go_wp2
        exact bodyPost_ret (v := .tuple #[_, .bool false]) (by simp [results, Tryz.results7, go_sem]; rfl) rfl ⟨_, rfl, fun h => (by cases h), B2.out⟩
      by_cases n1 : (1000000000000 : Int) < nv
      · have HF := NN.out (fun h => by omega)
        subst HF
        clear NN YY R2 F0 F1
        go_wp2
        exact bodyPost_ret (v := .tuple #[_, .bool false]) (by simp [results, Tryz.results7, go_sem]; rfl) rfl ⟨_, rfl, fun h => (by cases h), B2.out⟩
      have Y1 := Lib.hid (YY.out rfl (by omega) (by omega))
      clear NN YY
      go_wp2_with (first | (at_builtin; refine wpList_append_lies _ rfl (.tmp 34) (.tmp 36) 25 rfl w.heap.size 2 i0 (.int .i64 0) 1 8 Tryz.underlying25 hi0 hz0 hz1 hz2 rfl (by decide) _ _ _ rfl (R2.out.alloc _) ⟨w2.heap.size, 0, none⟩ 1 1 [.int .i64 nv] rfl rfl (cell_one_new _ _ _) (by intro u hu; simp at hu; subst hu; rfl) (by decide) (by unfold maxLen; omega) (by omega) (by simp; omega) (w2.heap.size + 1) (by simp) ?_))
      intro g9 cap9 w9 own9 grow9 hg9 hlt9
      have B9 := Lib.hid ((bA B2.out (.cells #[.int .i64 nv] 2)).grown grow9 (by simp; omega) (fun j hj => (R2.out.lt j hj).1))
      have N9 := Lib.hid own9
      clear own9 grow9 hg9 hlt9 R2 B2
      go_wp2
      go_roundw
      case rel => exact ⟨k + 1, by go_num, by omega, ⟨_, N9.out⟩, Y1, B9⟩
      case measure => simp [intOf]; omega
    · have h1' : ¬ (k : Int) + 1 < (m : Int) + 1 := by omega
      have h1'' : ¬ (k : Int) < (m : Int) := by omega
      have e : k = m := by omega
      subst e
      have HF := F1.out HA.out
      subst HF
      obtain ⟨vl, h1o⟩ := H1.out
      obtain ⟨s9, c9, e9⟩ := own_len h1o
      subst e9
      clear F0 F1 H1 HA h1o
      go_wp2
      exact bodyPost_ret (v := .tuple #[.slice s9 k c9, .bool true]) (by simp [results, Tryz.results7, go_sem]) rfl ⟨_, rfl, ⟨_, _, rfl⟩, H2.out⟩

end Go.Proofs.YtemkfdpbhdjgfaaGreatDoor
