/-
  LISTS OF LISTS OF NUMBERS, OWNED: added to, marked, held.
-/
import Derived.Test.YtoncpiaboceefaaDoorFm
import Derived.Lib.AppendZerosOnto
import Derived.Deep.Upon
namespace Go.Proofs.YtoncpiaboceefaaDoor
open Go.RowKit
set_option linter.unusedVariables false


theorem at_add (c o i : Nat) : (⟨c, o, none⟩ : Addr).add i = ⟨c, o + i, none⟩ := by
  unfold Addr.add
  by_cases h : i = 0 <;> simp [h]
theorem own_kind {w : World} {B : Nat} {e : TypeId} {m : Nat} {v : Value} {n : Nat} {xs : List Value} (h : w.ownsRow B e m v n xs) {j : Nat} (hj : v.ownBlock = some j) : ∃ cur, w.heap[j]? = some (.cells cur e) := by
  rcases h.2 with ⟨rfl, _⟩ | ⟨g, cap, cur, rfl, _, hg, _⟩
  · simp [Value.ownBlock] at hj
  · simp [Value.ownBlock] at hj
    subst hj
    exact ⟨cur, hg⟩
theorem own_diff {w : World} {B B' : Nat} {e e' : TypeId} {m m' : Nat} {v v' : Value} {n n' : Nat} {xs xs' : List Value} (h : w.ownsRow B e m v n xs) (h' : w.ownsRow B' e' m' v' n' xs') (he : e ≠ e') : v.ownBlock = none ∨ v.ownBlock ≠ v'.ownBlock := by
  cases hv : v.ownBlock with
  | none => exact .inl rfl
  | some j =>
    refine .inr fun e2 => ?_
    obtain ⟨c1, h1⟩ := own_kind h hv
    obtain ⟨c2, h2⟩ := own_kind h' e2.symm
    rw [h1] at h2
    simp at h2
    exact he h2.2
theorem valsZ_add (a b : List Int) : valsZ (a ++ b) = valsZ a ++ valsZ b := by simp [valsZ]
def hdC (cs : List LCl) : List Value := cs.map fun r => r.1
theorem hdC_len (cs : List LCl) : (hdC cs).length = cs.length := by simp [hdC]
theorem hdC_add (a b : List LCl) : hdC (a ++ b) = hdC a ++ hdC b := by simp [hdC]
/-- Two rows of their own. -/
def ApartC (r s : LCl) : Prop := r.1.ownBlock = none ∨ r.1.ownBlock ≠ s.1.ownBlock
structure OwC (w : World) (B : Nat) (v : Value) (cs : List LCl) : Prop where
  row : w.ownsRow B 68 1 v cs.length (hdC cs)
  each : ∀ r ∈ cs, w.ownsRow B 2 1 r.1 r.2.length (valsZ r.2)
  diff : cs.Pairwise ApartC
theorem OwC.nil (w : World) (B : Nat) : OwC w B (.slice none 0 0) [] := ⟨⟨rfl, .inl ⟨rfl, rfl⟩⟩, (fun r h => by cases h), List.Pairwise.nil⟩
theorem OwC.below {w w' : World} {B : Nat} {v : Value} {cs : List LCl} (h : OwC w B v cs) (hb : Below w.heap.size w w') : OwC w' B v cs :=
  ⟨own_below h.row hb, fun r hr => own_below (h.each r hr) hb, h.diff⟩
theorem OwC.mono {w : World} {B B' : Nat} {v : Value} {cs : List LCl} (h : OwC w B v cs) (hB : B' ≤ B) : OwC w B' v cs :=
  ⟨own_mono h.row hB, fun r hr => own_mono (h.each r hr) hB, h.diff⟩
theorem own_len {w : World} {B : Nat} {e : TypeId} {m : Nat} {v : Value} {n : Nat} {xs : List Value} (h : w.ownsRow B e m v n xs) : n ≤ maxLen := by
  rcases h.2 with ⟨_, h0⟩ | ⟨g, cap, cur, _, _, _, h1, h2, _⟩
  · rw [h0]; exact Nat.zero_le _
  · exact Nat.le_trans h1 h2
theorem OwC.cls {w : World} {B : Nat} {v : Value} {cs : List LCl} (h : OwC w B v cs) : ∃ sl cap, v = .slice sl cs.length cap ∧ Cls w sl cs := by
  have each : ∀ r ∈ cs, ClIn w r := fun r hr => by
    obtain ⟨sl, cap, e, i⟩ := own_ints (h.each r hr)
    exact ⟨sl, cap, e, i, own_len (h.each r hr)⟩
  have hr := h.row
  rcases hr.2 with ⟨hv, h0⟩ | ⟨g, cap, cur, hv, hb, hg, _⟩
  · exact ⟨none, 0, by rw [hv, h0], .inl (List.eq_nil_of_length_eq_zero h0), each⟩
  · refine ⟨_, cap, hv, .inr ⟨g, 0, rfl, (Array.getElem?_eq_some_iff.1 hg).1, fun i hi => ?_⟩, each⟩
    subst hv
    rw [Nat.zero_add, hr.cellAt i (by omega)]
    simp [hdC, hi]
theorem OwC.v {w : World} {B : Nat} {v : Value} {cs : List LCl} (h : OwC w B v cs) : ∃ sl cap, v = .slice sl cs.length cap := own_v h.row
/-- The rows stay where only the row of slices grows. -/
theorem OwC.add {w wa w9 : World} {B : Nat} {v v9 : Value} {cs : List LCl} {r : LCl} (h : OwC w B v cs) (hb : Below w.heap.size w wa) (hr : wa.ownsRow B 2 1 r.1 r.2.length (valsZ r.2)) (hf : ∀ j, r.1.ownBlock = some j → ∀ s ∈ cs, s.1.ownBlock ≠ some j) (hg : wa.grownBy w9 v.ownBlock) (own9 : w9.ownsRow B 68 1 v9 (cs.length + 1) (hdC cs ++ [r.1])) : OwC w9 B v9 (cs ++ [r]) := by
  have ha := h.below hb
  refine ⟨by rw [List.length_append, hdC_add]; exact own9, fun s hs => ?_, ?_⟩
  · rcases List.mem_append.1 hs with hs | hs
    · exact (ha.each s hs).kept hg (own_diff (ha.each s hs) ha.row (by decide))
    · rw [List.mem_singleton.1 hs]
      exact hr.kept hg (own_diff hr ha.row (by decide))
  · refine List.pairwise_append.2 ⟨h.diff, List.pairwise_singleton _ _, fun s hs t ht => ?_⟩
    rw [List.mem_singleton.1 ht]
    cases e : r.1.ownBlock with
    | none => cases e2 : s.1.ownBlock with
      | none => exact .inl e2
      | some j => exact .inr (by rw [e, e2]; simp)
    | some j => exact .inr (by rw [e]; exact hf j e s hs)
/-- One more, its row new. -/
theorem OwC.new {w wa w9 : World} {B : Nat} {v v9 : Value} {cs : List LCl} {r : LCl} (h : OwC w B v cs) (hb : Below w.heap.size w wa) (hr : wa.ownsRow B 2 1 r.1 r.2.length (valsZ r.2)) (hf : ∀ j, r.1.ownBlock = some j → w.heap.size ≤ j) (hg : wa.grownBy w9 v.ownBlock) (own9 : w9.ownsRow B 68 1 v9 (cs.length + 1) (hdC cs ++ [r.1])) : OwC w9 B v9 (cs ++ [r]) :=
  h.add hb hr (fun j hj s hs e => by have := hf j hj; have := ((h.each s hs).lt j e).2; omega) hg own9
/-- Others put behind them; these were made later. -/
theorem OwC.join {w wa w9 : World} {B : Nat} {v v2 v9 : Value} {cs ds : List LCl} (h : OwC w B v cs) (hb : Below w.heap.size w wa) (h2 : OwC wa w.heap.size v2 ds) (hB : B ≤ w.heap.size) (hg : wa.grownBy w9 v.ownBlock) (own9 : w9.ownsRow B 68 1 v9 (cs ++ ds).length (hdC cs ++ hdC ds)) : OwC w9 B v9 (cs ++ ds) := by
  have ha := h.below hb
  refine ⟨by rw [hdC_add]; exact own9, fun s hs => ?_, ?_⟩
  · rcases List.mem_append.1 hs with hs | hs
    · exact (ha.each s hs).kept hg (own_diff (ha.each s hs) ha.row (by decide))
    · exact own_mono ((h2.each s hs).kept hg (own_diff (h2.each s hs) ha.row (by decide))) hB
  · refine List.pairwise_append.2 ⟨h.diff, h2.diff, fun s hs t ht => ?_⟩
    cases e : s.1.ownBlock with
    | none => exact .inl e
    | some j =>
      refine .inr fun e2 => ?_
      rw [e] at e2
      have := ((h.each s hs).lt j e).2
      have := ((h2.each t ht).lt j e2.symm).1
      omega
theorem cell_at_new (w : World) (a : Value) (t : TypeId) : ∀ (j : Nat) (u : Value), [a][j]? = some u → (w.alloc (.cells #[a] t)).cell? ((⟨w.heap.size, 0, none⟩ : Addr).add j) = some u := by
  intro j u h
  cases j with
  | zero => simp at h; subst h; rw [at_add]; unfold World.cell?; rw [show (w.alloc (.cells #[a] t)).heap[w.heap.size]? = some (.cells #[a] t) from new_at _ _]; rfl
  | succ j => simp at h
/-- A row of two that is written out. -/
theorem own_two (w : World) (a b : Int) : (w.alloc (.cells #[.int .i64 a, .int .i64 b] 2)).ownsRow w.heap.size 2 1 (.slice (some ⟨w.heap.size, 0, none⟩) 2 2) ([a, b] : List Int).length (valsZ [a, b]) :=
  ⟨rfl, .inr ⟨w.heap.size, 2, _, rfl, Nat.le_refl _, new_at _ _, Nat.le_refl _, by unfold maxLen; omega, rfl, rfl⟩⟩
/-- The clauses as lists. -/
theorem bareC_add (a b : List LCl) : bareC (a ++ b) = bareC a ++ bareC b := by simp [bareC]
/-- The n numbers from k on. -/
def marks (k : Int) (n : Nat) : List Int := (List.range n).map (fun i : Nat => k + (i : Int))
theorem marks_len (k : Int) (n : Nat) : (marks k n).length = n := by simp [marks]
theorem marks_get (k : Int) (n i : Nat) (h : i < n) : (marks k n)[i]? = some (k + (i : Int)) := by simp [marks, h]
/-- The first i cells of a row hold the marks. -/
def Marked (w : World) (b s : Nat) (k : Int) (i : Nat) : Prop := ∃ vs : Array Value, RowAt w b vs ∧ vs.size = s ∧ ∀ j, j < i → vs[j]? = some (.int .i64 (k + (j : Int)))
theorem Marked.step {w : World} {b s : Nat} {k : Int} {i : Nat} (h : Marked w b s k i) (hi : i < s) : Marked (w.setCell ⟨b, i, none⟩ (.int .i64 (k + (i : Int)))) b s k (i + 1) := by
  obtain ⟨vs, h1, h2, h3⟩ := h
  refine ⟨_, h1.set i _, by simp [h2], fun j hj => ?_⟩
  rw [Array.getElem?_setIfInBounds]
  by_cases e : i = j
  · subst e; simp [h2, hi]
  · rw [if_neg e]; exact h3 j (by omega)
theorem Marked.cell {w : World} {b s : Nat} {k : Int} {i : Nat} (h : Marked w b s k i) (j : Nat) (hj : j < s) : (∃ v, w.cell? ⟨b, j, none⟩ = some v) ∧ w.frozen? ⟨b, j, none⟩ = false := by
  obtain ⟨vs, h1, h2, h3⟩ := h
  exact ⟨⟨vs[j]'(by omega), by rw [h1.cell j]; exact Array.getElem?_eq_getElem (by omega)⟩, h1.frozen j⟩
theorem Marked.at {w : World} {b s : Nat} {k : Int} {i : Nat} (h : Marked w b s k i) (j : Nat) (hj : j < i) : w.cell? ⟨b, j, none⟩ = some (.int .i64 (k + (j : Int))) := by
  obtain ⟨vs, h1, h2, h3⟩ := h
  rw [h1.cell j]; exact h3 j hj
set_option maxHeartbeats 400000 in
theorem mark_nil (sl : Option Addr) (cap : Nat) (k : Int) (w : World) :
    Calls Tryd.prog 147 #[.slice sl 0 cap, .int .i64 k] w fun e w' => e = .returned (.int .i64 k) ∧ w' = w := by
  go_enter Tryd.func147, Tryd.ntmps147
  go_wp2
  refine wp_loop_rounds 1 ?_
  rw [rounds_succ]
  go_wp2
  go_ret
  exact ⟨rfl, rfl⟩
set_option maxHeartbeats 400000 in
theorem held_nil (sl : Option Addr) (cap : Nat) (k : Int) (w : World) :
    Calls Tryd.prog 148 #[.slice sl 0 cap, .int .i64 k] w fun e w' => e = .returned (.int .i64 k) ∧ w' = w := by
  go_enter Tryd.func148, Tryd.ntmps148
  go_wp2
  refine wp_loop_rounds 1 ?_
  rw [rounds_succ]
  go_wp2
  go_ret
  exact ⟨rfl, rfl⟩
set_option maxHeartbeats 400000 in
theorem mark_some (b n s cap : Nat) (k : Int) (hn : n ≤ 1048576) (hs : n ≤ s) (k0 : 0 ≤ k) (k1 : k ≤ 1000000000) (w : World) (h : Marked w b s k 0) :
    Calls Tryd.prog 147 #[.slice (some ⟨b, 0, none⟩) n cap, .int .i64 k] w fun e w' => e = .returned (.int .i64 (k + (n : Int))) ∧ Marked w' b s k n ∧ Only b w w' := by
  have HM := Lib.hid h
  clear h
  go_enter Tryd.func147, Tryd.ntmps147
  go_wp2
  go_loopw [1, 5] (fun m i wr => ∃ j : Nat, i = .int .i64 j ∧ m = .int .i64 (k + (j : Int)) ∧ j ≤ n ∧ Hid (Marked wr b s k j) ∧ Hid (Only b w wr)) (fun _ i _ => n - (intOf i).toNat)
  case atStart => exact ⟨0, rfl, by simp, Nat.zero_le _, HM, Only.refl _ _⟩
  case round =>
    obtain ⟨j, rfl, rfl, hj, H1, H2⟩ := hrel
    have hj0 : (0 : Int) ≤ (j : Int) := by omega
    by_cases h1 : j < n
    · have h1' : (j : Int) < (n : Int) := by omega
      obtain ⟨⟨v, hc⟩, hf⟩ := H1.out.cell j (by omega)
      have H3 := Lib.hid (H1.out.step (by omega))
      go_wp2
      go_roundw
      case rel => exact ⟨j + 1, by go_num, by go_num, by omega, H3, H2.out.setCell _ _⟩
      case measure => simp [intOf]; omega
    · have h1' : ¬ (j : Int) < (n : Int) := by omega
      have hkn : j = n := by omega
      have H4 : Hid (Marked wr b s k n ∧ (k + (j : Int)) = k + (n : Int)) := by subst hkn; exact ⟨H1.out, rfl⟩
      clear hkn
      go_wp2
      go_ret
      exact ⟨by rw [← H4.out.2]; rfl, H4.out.1, H2.out⟩
set_option maxHeartbeats 400000 in
theorem held_some (b n s cap : Nat) (k : Int) (hn : n ≤ 1048576) (k0 : 0 ≤ k) (k1 : k ≤ 1000000000) (w : World) (h : Marked w b s k n) :
    Calls Tryd.prog 148 #[.slice (some ⟨b, 0, none⟩) n cap, .int .i64 k] w fun e w' => e = .returned (.int .i64 (k + (n : Int))) ∧ w' = w := by
  have HM := Lib.hid h
  clear h
  go_enter Tryd.func148, Tryd.ntmps148
  go_wp2
  go_loop [1, 5] (fun m i => ∃ j : Nat, i = .int .i64 j ∧ m = .int .i64 (k + (j : Int)) ∧ j ≤ n) (fun _ i => n - (intOf i).toNat)
  case atStart => exact ⟨0, rfl, by simp, Nat.zero_le _⟩
  case round =>
    obtain ⟨j, rfl, rfl, hj⟩ := hrel
    have hj0 : (0 : Int) ≤ (j : Int) := by omega
    by_cases h1 : j < n
    · have h1' : (j : Int) < (n : Int) := by omega
      have hc := HM.out.at j h1
      go_wp2
      go_round
      case rel => exact ⟨j + 1, by go_num, by go_num, by omega⟩
      case measure => simp [intOf]; omega
    · have h1' : ¬ (j : Int) < (n : Int) := by omega
      have H4 : Hid ((k + (j : Int)) = k + (n : Int)) := by show (k + (j : Int)) = k + (n : Int); omega
      go_wp2
      go_ret
      exact ⟨by rw [← H4.out]; rfl, rfl⟩
theorem Only.grownBy {b : Nat} {w w' : World} (h : Only b w w') : w.grownBy w' (some b) := ⟨h.os, h.tape, h.output, h.size, fun k hk hne => h.block k hk (fun e => hne (by rw [e]))⟩
/-- An owned row is marked. -/
theorem mark_row (B : Nat) (v : Value) (zs : List Int) (k : Int) (hn : zs.length ≤ 1048576) (k0 : 0 ≤ k) (k1 : k ≤ 1000000000) (w : World) (h : w.ownsRow B 2 1 v zs.length (valsZ zs)) :
    Calls Tryd.prog 147 #[v, .int .i64 k] w fun e w' => e = .returned (.int .i64 (k + (zs.length : Int))) ∧ w'.ownsRow B 2 1 v zs.length (valsZ (marks k zs.length)) ∧ w.grownBy w' v.ownBlock := by
  have hl : (valsZ (marks k zs.length)).length = zs.length * 1 := by simp [valsZ, marks_len]
  rcases h.2 with ⟨rfl, h0⟩ | ⟨g, cap, cur, rfl, hb, hg, hcap, hmx, hcur, hx⟩
  · rw [h0]
    refine (mark_nil _ _ _ _).mono ?_
    rintro e w' ⟨rfl, rfl⟩
    exact ⟨by simp, ⟨by simp [valsZ, marks], .inl ⟨rfl, rfl⟩⟩, ⟨rfl, rfl, rfl, Nat.le_refl _, fun _ _ _ => rfl⟩⟩
  · refine (mark_some g zs.length cur.size cap k hn (by omega) k0 k1 w ⟨cur, hg, rfl, fun j hj => absurd hj (Nat.not_lt_zero _)⟩).mono ?_
    rintro e w' ⟨rfl, ⟨vs, h1, h2, h3⟩, ho⟩
    refine ⟨rfl, ⟨hl, .inr ⟨g, cap, vs, rfl, hb, h1, hcap, hmx, by rw [h2, hcur], ?_⟩⟩, ho.grownBy⟩
    apply List.ext_getElem?
    intro i
    by_cases hi : i < zs.length
    · rw [List.getElem?_take_of_lt (by omega)]
      simp only [valsZ, List.getElem?_map, marks_get k _ i hi]
      have := h3 i hi
      simpa using this
    · rw [List.getElem?_eq_none (by simp; omega), List.getElem?_eq_none (by simp [valsZ, marks_len]; omega)]
theorem held_row (B : Nat) (v : Value) (n : Nat) (k : Int) (hn : n ≤ 1048576) (k0 : 0 ≤ k) (k1 : k ≤ 1000000000) (w : World) (h : w.ownsRow B 2 1 v n (valsZ (marks k n))) :
    Calls Tryd.prog 148 #[v, .int .i64 k] w fun e w' => e = .returned (.int .i64 (k + (n : Int))) ∧ w' = w := by
  rcases h.2 with ⟨rfl, h0⟩ | ⟨g, cap, cur, rfl, hb, hg, hcap, hmx, hcur, hx⟩
  · rw [h0]
    refine (held_nil _ _ _ _).mono ?_
    rintro e w' ⟨rfl, rfl⟩
    exact ⟨by simp, rfl⟩
  · refine held_some g n cur.size cap k hn k0 k1 w ⟨cur, hg, rfl, fun j hj => ?_⟩
    have := congrArg (fun l => l[j]?) hx
    simp only [valsZ, List.getElem?_map, marks_get k _ j hj] at this
    rw [List.getElem?_take_of_lt (by omega)] at this
    simpa using this

def K30 (w0 W : World) : Prop := ∀ (k : Nat) (us : Array Value), w0.heap[k]? = some (.cells us 29) → W.heap[k]? = some (.cells us 29)
theorem K30.refl (W : World) : K30 W W := fun _ _ h => h
theorem K30.below {w0 W W' : World} (h : K30 w0 W) (hb : Below W.heap.size W W') : K30 w0 W' := fun k us hk => by
  have := h k us hk
  exact (hb.block k (Array.getElem?_eq_some_iff.1 this).1).trans this
theorem K30.only {w0 W W' : World} {b : Nat} {us : Array Value} {t : TypeId} (h : K30 w0 W) (ho : Only b W W') (hx : W.heap[b]? = some (.cells us t)) (ht : t ≠ 29) : K30 w0 W' := fun k us hk => by
  have := h k us hk
  refine (ho.block k (Array.getElem?_eq_some_iff.1 this).1 (fun e => ?_)).trans this
  rw [e, hx] at this
  cases this
  exact ht rfl
theorem K30.set {w0 W : World} {b : Nat} {us : Array Value} {t : TypeId} (h : K30 w0 W) (hx : W.heap[b]? = some (.cells us t)) (ht : t ≠ 29) (i : Nat) (v : Value) : K30 w0 (W.setCell ⟨b, i, none⟩ v) := h.only ((Only.refl b W).setCell i v) hx ht
theorem K30.grown {w0 W W' : World} {B : Nat} {e : TypeId} {m : Nat} {v : Value} {n : Nat} {xs : List Value} (h : K30 w0 W) (hv : W.ownsRow B e m v n xs) (he : e ≠ 29) (hg : W.grownBy W' v.ownBlock) : K30 w0 W' := fun k us hk => by
  have := h k us hk
  refine (hg.block k (Array.getElem?_eq_some_iff.1 this).1 (fun e' => ?_)).trans this
  obtain ⟨cur, hc⟩ := own_kind hv e'.symm
  rw [hc] at this
  cases this
  exact he rfl



/-- The clauses with their marks. -/
def mkC (k : Int) : List LCl → List LCl
  | [] => []
  | r :: t => (r.1, marks k r.2.length) :: mkC (k + (r.2.length : Int)) t
theorem mkC_len (cs : List LCl) : ∀ k, (mkC k cs).length = cs.length := by
  induction cs with
  | nil => intro _; rfl
  | cons r t ih => intro k; simp [mkC, ih]
theorem mkC_append (a b : List LCl) : ∀ k, mkC k (a ++ b) = mkC k a ++ mkC (k + (totC a : Int)) b := by
  induction a with
  | nil => intro k; simp [mkC, totC]
  | cons r t ih =>
    intro k
    simp only [List.cons_append, mkC, ih]
    rw [show totC (r :: t) = r.2.length + totC t by simp [totC]]
    congr 3
    omega
theorem mkC_step (cs : List LCl) (k : Int) (i : Nat) (h : i < cs.length) : mkC k (cs.take (i + 1)) = mkC k (cs.take i) ++ [(cs[i].1, marks (k + (totC (cs.take i) : Int)) cs[i].2.length)] := by
  rw [List.take_succ_eq_append_getElem h, mkC_append]; rfl
theorem mkC_at (cs : List LCl) (k : Int) (i : Nat) (h : i < cs.length) : (mkC k cs)[i]'(by rw [mkC_len]; exact h) = (cs[i].1, marks (k + (totC (cs.take i) : Int)) cs[i].2.length) := by
  have e : mkC k cs = mkC k (cs.take (i + 1)) ++ mkC (k + (totC (cs.take (i + 1)) : Int)) (cs.drop (i + 1)) := by
    rw [← mkC_append, List.take_append_drop]
  have hl : i < (mkC k (cs.take (i + 1))).length := by rw [mkC_len, List.length_take]; omega
  have e2 : (mkC k cs)[i]? = some (cs[i].1, marks (k + (totC (cs.take i) : Int)) cs[i].2.length) := by
    rw [e, List.getElem?_append_left hl, mkC_step cs k i h, List.getElem?_append_right (by rw [mkC_len, List.length_take]; omega)]
    simp [mkC_len, List.length_take, Nat.min_eq_left (Nat.le_of_lt h)]
  rw [List.getElem?_eq_getElem (by rw [mkC_len]; exact h)] at e2
  exact Option.some.inj e2
/-- One row of them written over. -/
theorem OwC.over {w w' : World} {B : Nat} {v : Value} {ps ss : List LCl} {r : LCl} {zs : List Int} (h : OwC w B v (ps ++ r :: ss)) (hg : w.grownBy w' r.1.ownBlock) (hz : zs.length = r.2.length) (hr : w'.ownsRow B 2 1 r.1 zs.length (valsZ zs)) : OwC w' B v (ps ++ (r.1, zs) :: ss) := by
  have hp := List.pairwise_append.1 h.diff
  have hc := List.pairwise_cons.1 hp.2.1
  have hro := h.each r (by simp)
  refine ⟨?_, fun s hs => ?_, ?_⟩
  · have e1 : hdC (ps ++ (r.1, zs) :: ss) = hdC (ps ++ r :: ss) := by simp [hdC]
    have e2 : (ps ++ (r.1, zs) :: ss).length = (ps ++ r :: ss).length := by simp
    rw [e1, e2]
    exact h.row.kept hg (own_diff h.row hro (by decide))
  · rcases List.mem_append.1 hs with hs | hs
    · exact (h.each s (by simp [hs])).kept hg (hp.2.2 s hs r (by simp))
    · rcases List.mem_cons.1 hs with rfl | hs
      · exact hr
      · refine (h.each s (by simp [hs])).kept hg ?_
        rcases hc.1 s hs with e | e
        · rw [e]; cases s.1.ownBlock <;> simp
        · exact .inr (fun e2 => e e2.symm)
  · refine List.pairwise_append.2 ⟨hp.1, List.pairwise_cons.2 ⟨fun s hs => hc.1 s hs, hc.2⟩, fun a ha b hb => ?_⟩
    rcases List.mem_cons.1 hb with rfl | hb
    · exact hp.2.2 a ha r (by simp)
    · exact hp.2.2 a ha b (by simp [hb])

set_option maxRecDepth 100000 in
set_option maxHeartbeats 2000000 in
/-- markInt64SS. -/
theorem mkL_any (B : Nat) (v : Value) (cs : List LCl) (k : Int) (w : World) (vt : Value) (nt : Nat) (xt : List Value) (hvt : w.ownsRow B 2 1 vt nt xt) (ap : ∀ r ∈ cs, ∀ j, r.1.ownBlock = some j → vt.ownBlock ≠ some j) (hn : cs.length ≤ 100000000) (hr : ∀ r ∈ cs, r.2.length ≤ 1048576) (ht : totC cs ≤ 500000000) (k0 : 0 ≤ k) (k1 : k ≤ 1000) (hB : B ≤ w.heap.size) (h : OwC w B v cs) :
    Calls Tryd.prog 126 #[v, .int .i64 k] w fun e w' => e = .returned (.int .i64 (k + (totC cs : Int))) ∧ OwC w' B v (mkC k cs) ∧ Below B w w' ∧ K30 w w' ∧ w'.ownsRow B 2 1 vt nt xt := by
  have O0 := Lib.hid h
  have HR := Lib.hid hr
  have T0 := Lib.hid hvt
  have AP := Lib.hid ap
  have TL := Lib.hid (fun i => totC_le cs i)
  obtain ⟨sl, cap, rfl⟩ := h.v
  clear h hr hvt ap
  generalize hN : cs.length = n at *
  have HN := Lib.hid hN
  clear hN
  go_enter Tryd.func126, Tryd.ntmps126
  go_wp2
  go_loopw [1, 5] (fun a i wr => ∃ j : Nat, i = .int .i64 j ∧ j ≤ n ∧ a = .int .i64 (k + (totC (cs.take j) : Int)) ∧ Hid (OwC wr B (.slice sl n cap) (mkC k (cs.take j) ++ cs.drop j)) ∧ Hid (Below B w wr) ∧ Hid (K30 w wr ∧ wr.ownsRow B 2 1 vt nt xt)) (fun _ i _ => n - (intOf i).toNat)
  case atStart => exact ⟨0, rfl, Nat.zero_le _, by simp [totC], O0, Below.refl _ _, K30.refl _, T0.out⟩
  case round =>
    obtain ⟨j, rfl, hj, rfl, OC, HB, HT⟩ := hrel
    have hj0 : (0 : Int) ≤ (j : Int) := by omega
    by_cases g1 : j < n
    · have g1' : (j : Int) < (n : Int) := by omega
      have hlt : j < cs.length := by rw [HN.out]; exact g1
      have ed : cs.drop j = cs[j] :: cs.drop (j + 1) := (List.getElem_cons_drop (h := hlt)).symm
      have oc := OC.out
      rw [ed] at oc
      have ro := oc.each cs[j] (List.mem_append_right _ (List.mem_cons_self ..))
      have ll : (mkC k (cs.take j) ++ cs[j] :: cs.drop (j + 1)).length = n := by rw [← ed, List.length_append, mkC_len, List.length_take, List.length_drop, HN.out]; omega
      have la : (mkC k (cs.take j)).length = j := by rw [mkC_len, List.length_take]; omega
      obtain ⟨s9, c9, e9, CL⟩ := oc.cls
      have hl2 : j < (mkC k (cs.take j) ++ cs[j] :: cs.drop (j + 1)).length := by rw [ll]; exact g1
      obtain ⟨c, o, rfl, cl, hcs⟩ := CL.at hl2
      obtain rfl : sl = some ⟨c, o, none⟩ := by cases e9; rfl
      have hc := hcs j hl2
      have eg : (mkC k (cs.take j) ++ cs[j] :: cs.drop (j + 1))[j]'hl2 = cs[j] := by
        rw [List.getElem_append_right (by omega)]
        simp [la]
      rw [eg] at hc
      have tb := TL.out j
      have T1 := Lib.hid (totC_take cs j hlt)
      have EM := Lib.hid (mark_row B cs[j].1 cs[j].2 (k + (totC (cs.take j) : Int)) (HR.out cs[j] (List.getElem_mem hlt)) (by omega) (by omega) wr ro)
      have NX : Hid (∀ W, W.ownsRow B 2 1 cs[j].1 cs[j].2.length (valsZ (marks (k + (totC (cs.take j) : Int)) cs[j].2.length)) → wr.grownBy W cs[j].1.ownBlock → OwC W B (.slice (some ⟨c, o, none⟩) n cap) (mkC k (cs.take (j + 1)) ++ cs.drop (j + 1))) := fun W h1 h2 => by
        rw [mkC_step cs k j hlt, List.append_assoc]
        exact oc.over h2 (marks_len _ _) (by rw [marks_len]; exact h1)
      have RB := Lib.hid (show ∀ b, cs[j].1.ownBlock = some b → B ≤ b from fun b hb => (ro.lt b hb).1)
      have KN : Hid (∀ W, wr.grownBy W cs[j].1.ownBlock → K30 w W ∧ W.ownsRow B 2 1 vt nt xt) := fun W h2 => ⟨HT.out.1.grown ro (by decide) h2, HT.out.2.kept h2 (by
        rcases hv : vt.ownBlock with _ | q
        · exact .inl rfl
        · exact .inr (fun e => AP.out cs[j] (List.getElem_mem hlt) q e.symm hv))⟩
      obtain ⟨s1, k1', v1⟩ := own_v ro
      rw [v1] at hc EM NX RB KN
      clear ed oc ro ll la CL e9 hl2 hcs eg OC v1
      generalize cs[j].2.length = q at *
      clear hlt
      generalize totC (cs.take j) = tj at *
      have hws := HB.out.size
      go_wp2_with fail
      refine EM.out.mono ?_
      rintro e w5 ⟨rfl, o5, gr5⟩
      have O5 := Lib.hid (NX.out w5 o5 gr5)
      have K5 := Lib.hid (KN.out w5 gr5)
      have B5 := Lib.hid (HB.out.grown gr5 (by omega) (fun b hb => RB.out b hb))
      clear o5 gr5 EM NX RB HB KN HT
      go_wp2
      go_roundw
      case rel => exact ⟨j + 1, by go_num, by omega, (by rw [T1.out]; congr 1; push_cast; omega), O5, B5, K5⟩
      case measure => simp [intOf]; omega
    · have g1' : ¬ (j : Int) < (n : Int) := by omega
      have et : cs.take j = cs := List.take_of_length_le (by rw [HN.out]; omega)
      have ed : cs.drop j = [] := List.drop_of_length_le (by rw [HN.out]; omega)
      have P : Hid (OwC wr B (.slice sl n cap) (mkC k cs)) := by have := OC.out; rw [et, ed, List.append_nil] at this; exact this
      rw [et]
      clear OC et ed
      go_wp2
      go_ret
      exact ⟨rfl, P.out, HB.out, HT.out.1, HT.out.2⟩

set_option maxRecDepth 100000 in
set_option maxHeartbeats 2000000 in
/-- heldInt64SS. -/
theorem hdL_any (B : Nat) (v : Value) (cs : List LCl) (k : Int) (w : World) (hn : cs.length ≤ 100000000) (hr : ∀ r ∈ cs, r.2.length ≤ 1048576) (ht : totC cs ≤ 500000000) (k0 : 0 ≤ k) (k1 : k ≤ 1000) (h : OwC w B v (mkC k cs)) :
    Calls Tryd.prog 127 #[v, .int .i64 k] w fun e w' => e = .returned (.int .i64 (k + (totC cs : Int))) ∧ w' = w := by
  have O0 := Lib.hid h
  have HR := Lib.hid hr
  have TL := Lib.hid (fun i => totC_le cs i)
  obtain ⟨sl, cap, rfl⟩ := h.v
  rw [mkC_len] at O0 ⊢
  clear h hr
  generalize hN : cs.length = n at *
  have HN := Lib.hid hN
  clear hN
  go_enter Tryd.func127, Tryd.ntmps127
  go_wp2
  go_loopw [1, 5] (fun a i wr => ∃ j : Nat, i = .int .i64 j ∧ j ≤ n ∧ a = .int .i64 (k + (totC (cs.take j) : Int)) ∧ wr = w) (fun _ i _ => n - (intOf i).toNat)
  case atStart => exact ⟨0, rfl, Nat.zero_le _, by simp [totC], rfl⟩
  case round =>
    obtain ⟨j, rfl, hj, rfl, rfl⟩ := hrel
    have hj0 : (0 : Int) ≤ (j : Int) := by omega
    by_cases g1 : j < n
    · have g1' : (j : Int) < (n : Int) := by omega
      have hlt : j < cs.length := by rw [HN.out]; exact g1
      have hl2 : j < (mkC k cs).length := by rw [mkC_len]; exact hlt
      have eg := mkC_at cs k j hlt
      have ro := O0.out.each _ (List.getElem_mem hl2)
      rw [eg] at ro
      dsimp only at ro
      rw [marks_len] at ro
      obtain ⟨s9, c9, e9, CL⟩ := O0.out.cls
      obtain ⟨c, o, rfl, cl, hcs⟩ := CL.at hl2
      obtain rfl : sl = some ⟨c, o, none⟩ := by cases e9; rfl
      have hc := hcs j hl2
      rw [eg] at hc
      have tb := TL.out j
      have tb2 := TL.out (j + 1)
      have T1 := Lib.hid (totC_take cs j hlt)
      have hql := HR.out cs[j] (List.getElem_mem hlt)
      have EM := Lib.hid (held_row B cs[j].1 cs[j].2.length (k + (totC (cs.take j) : Int)) hql (by omega) (by omega) wr ro)
      obtain ⟨s1, k1', v1⟩ := own_v ro
      dsimp only at hc
      rw [v1] at hc EM
      clear ro CL e9 hl2 hcs eg v1
      generalize cs[j].2.length = q at *
      clear hlt
      have hneg : ¬ (k + (totC (cs.take j) : Int) + (q : Int)) < 0 := by omega
      clear tb2
      generalize totC (cs.take j) = tj at *
      go_wp2_with fail
      refine EM.out.mono ?_
      rintro e w5 ⟨rfl, rfl⟩
      clear EM
      go_wp2
      go_roundw
      case rel => exact ⟨j + 1, by go_num, by omega, (by rw [T1.out]; congr 1; push_cast; omega), trivial⟩
      case measure => simp [intOf]; omega
    · have g1' : ¬ (j : Int) < (n : Int) := by omega
      have et : cs.take j = cs := List.take_of_length_le (by rw [HN.out]; omega)
      rw [et]
      clear et
      go_wp2
      go_ret
      exact ⟨rfl, rfl⟩
end Go.Proofs.YtoncpiaboceefaaDoor
