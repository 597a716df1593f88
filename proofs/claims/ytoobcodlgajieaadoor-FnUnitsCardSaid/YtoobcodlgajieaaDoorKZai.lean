/-
  THE SOLVER'S STATE, and what turns it: push, pop, spend, conflict, learn, told.
  CLAUSES, DRAWN: a Cnf that is being drawn, beside the source; what turns it.
  THE SEARCH: solver.run.
  THE SOLVER'S FACE: what is deferred; impl.Solve, impl.SolveCount.
  THE MODEL'S SEARCH: its state, and what turns it.
  HEADERS PUT BEHIND HEADERS; WHAT A SOLVER'S LEMMAS ARE, as lists.
  ONE OF THE CLAUSES OR LEMMAS: laws.lwClause.
  WHAT FNUNITS ASKS OF A RUN, as lists.
  THE LAWS' COPIES OF LISTS: lwCopy, lwSame.
-/
import Derived.Test.YtoobcodlgajieaaDoorKWah
import Derived.Test.YtoobcodlgajieaaDoorKXag
import Derived.Test.YtoobcodlgajieaaDoorKZab
namespace Go.Proofs.YtoobcodlgajieaaDoor
open Go.RowKit
set_option linter.unusedVariables false

section
variable {w w0 : World} {b : Nat} {V bud st : Int} {ms ls : List LCl} {D tr : List Int} {vc vl vd : Value} {W W' : World}
end

section
variable {w : World} {B b O : Nat} {V : Int} {v : Value} {cs : List LCl} {W W' : World}
end

section
variable {w : World} {cs : List LCl} {V bud : Nat} {R : Res} {st : Nat} {ms ls : List LCl} {D : List Int}
end
section
variable {w : World} {b : Nat} {us : Array Value} {v0 v1 v2 v3 v4 : Value}
end


section
variable {css : List (List Int)} {V bud : Nat} {R : Res} {st : Nat} {L : List (List Int)} {D : List Int}
end

section
variable {w : World} {O : Nat} {V : Int} {sl : Option Addr} {n cap : Nat} {x : Int} {T : List Int} {ls : List LCl} {D : List Int} {vt vl vd : Value} {st : Int} {W W' : World}
end

theorem step_append_runD (w : World) {ops : Array Oper} {o : Oper} {a : Act} {K : Act → World → Prop} {Q : Exit → Act → World → Prop} {E : Prop} (hgd : o.guard = none) (s x : Operand) (t tn : TypeId)
    (ho : o.op = .call { callee := .builtin .append, args := #[s, x], argTypes := #[t, tn] }) (vs vx : Value) (hs : a.eval s = vs) (hx : a.eval x = vx)
    (v' : Value) (w' : World) (hr : (Builtin.append_ #[t, tn] o.type #[vs, vx]).run Tryd.prog w = .ok v' w') (h : K (a.put o.dst v') w') : if Region.wanted o (yielded ops a.tmps) = true then Oper.wp Tryd.prog o a w K Q else E := by
  have hw : Region.wanted o (yielded ops a.tmps) = true := by simp [Region.wanted, hgd]
  rw [if_pos hw]
  exact Lib.wp_append_run w s x t tn ho vs vx hs hx v' w' hr h
theorem own_noneH (w : World) : (w.alloc (.cells #[] 26)).ownsRow w.heap.size 26 1 (.slice (some ⟨w.heap.size, 0, none⟩) 0 0) 0 [] :=
  ⟨rfl, .inr ⟨w.heap.size, 0, _, rfl, Nat.le_refl _, new_at _ _, Nat.le_refl _, Nat.zero_le _, rfl, rfl⟩⟩
/-- A slice of headers put behind headers. -/
theorem appHs {w : World} {B : Nat} {v : Value} {us : List Value} (h : w.ownsRow B 26 1 v us.length us) {C : Nat} {s : Option Addr} {k : Nat} {ds : List LCl} (h2 : OwC w C (.slice s ds.length k) ds) (hB : B ≤ w.heap.size) (hl : us.length + ds.length ≤ 10000000) :
    ∃ v9 w9, (∀ ty, (Builtin.append_ #[23, 23] ty #[v, .slice s ds.length k]).run Tryd.prog w = .ok v9 w9) ∧ w9.ownsRow B 26 1 v9 (us.length + ds.length) (us ++ hdC ds) ∧ w.grownBy w9 v.ownBlock := by
  obtain ⟨i3, hi3, hd0, hd1, hd2⟩ := info_parts info40
  obtain ⟨sl, cap, rfl⟩ := own_v h
  obtain ⟨s', k', e, c⟩ := h2.cls
  cases e
  by_cases he : ds = []
  · subst he
    exact ⟨_, w, fun ty => app_noneV w ty sl us.length cap (own_cap8 h) s k, by simpa [hdC] using h, ⟨rfl, rfl, rfl, Nat.le_refl _, fun _ _ _ => rfl⟩⟩
  · rcases c.row with hi | ⟨c0, o, rfl, hi⟩
    · exact absurd hi he
    · have hone : ∀ u ∈ hdC ds, u.oneCell' = true := fun u hu => by
        obtain ⟨r, hr, rfl⟩ := List.mem_map.1 hu
        obtain ⟨a, b, e, _⟩ := c.each r hr
        rw [e]; rfl
      have hcell : ∀ (j : Nat) (u : Value), (hdC ds)[j]? = some u → w.cell? ((⟨c0, o, none⟩ : Addr).add j) = some u := fun j u hu => by
        have hj : j < ds.length := by
          have := (List.getElem?_eq_some_iff.1 hu).1
          rwa [hdC_len] at this
        have ha : (⟨c0, o, none⟩ : Addr).add j = ⟨c0, o + j, none⟩ := by
          unfold Addr.add
          by_cases h : j = 0 <;> simp [h]
        rw [ha, hi.2 j hj, ← hu]
        simp [hdC, hj]
      have hlen : (hdC ds).length = ds.length * 1 := by rw [hdC_len, Nat.mul_one]
      obtain ⟨g, c9, w9, hr, own9, grow9, hg, -⟩ := run_append_lies (P := Tryd.prog) w 23 23 B 26 i3 (.slice none 0 0) 1 24 Tryd.underlying23 hi3 hd0 hd1 hd2 rfl (by decide) _ _ _ h ⟨c0, o, none⟩ ds.length k (hdC ds) hlen hcell hone (List.length_pos_iff.2 he) (by unfold maxLen; omega) (by omega) hB w.heap.size rfl
      exact ⟨_, w9, fun ty => hr, own9, grow9⟩
/-- The rows of clauses whose headers were put behind none. -/
theorem owc_behind {w w9 : World} {B C : Nat} {v v9 : Value} {s : Option Addr} {k : Nat} {ds : List LCl} (h : w.ownsRow B 26 1 v 0 []) (h2 : OwC w C (.slice s ds.length k) ds) (hg : w.grownBy w9 v.ownBlock) (own9 : w9.ownsRow B 26 1 v9 ds.length (hdC ds)) (X : Nat) (h3 : X ≤ B) (h4 : X ≤ C) : OwC w9 X v9 ds :=
  ⟨own_mono own9 h3, fun r hr => own_mono ((h2.each r hr).kept hg (own_diff (h2.each r hr) h (by decide))) h4, h2.diff⟩
/-- All but the first of owned clauses. -/
theorem owc_tail {w : World} {C g k : Nat} {ls : List LCl} (h : OwC w C (.slice (some ⟨g, 0, none⟩) ls.length k) ls) (hn : 0 < ls.length) : Cls w (some ⟨g, 1, none⟩) ls.tail := by
  obtain ⟨s, k', e, c⟩ := h.cls
  cases e
  refine ⟨.inr ⟨g, 1, rfl, ?_⟩, fun r hr => c.each r (List.mem_of_mem_tail hr)⟩
  rcases c.row with h0 | ⟨c0, o, e, ha⟩
  · rw [h0] at hn; simp at hn
  · cases e
    refine ⟨ha.1, fun i hi => ?_⟩
    have hi' : i + 1 < ls.length := by rw [List.length_tail] at hi; omega
    have := ha.2 (i + 1) hi'
    rw [show 1 + i = 0 + (i + 1) by omega, this]
    simp

theorem solF_lits (css : List (List Int)) (V : Nat) : ∀ (n : Nat) (st : Int) (L : List (List Int)) (D : List Int), SOk css V L D → ∀ l ∈ (solF css V n st L D).2.2.1, ∀ z ∈ l, OkZ (V : Int) z
  | 0, st, L, D, h => h.lm
  | n + 1, st, L, D, h => by
    unfold solF
    split
    · split
      · exact h.lm
      · rename_i h1 h2
        exact solF_lits css V n _ _ _ (h.push h2)
    · split
      · exact h.learn.lm
      · exact solF_lits css V n _ _ _ h.learn
/-- What the lemmas of an answer are. -/
theorem solA_lems (vars : Int) (css : List (List Int)) (bud : Int) (hw : ∀ l ∈ css, ∀ z ∈ l, wfI z) : (solA vars css bud).1.2.2.1.length ≤ 1000 ∧ ∀ l ∈ (solA vars css bud).1.2.2.1, l.length ≤ 1000 ∧ ∀ z ∈ l, -100 ≤ z ∧ z ≤ 100 := by
  by_cases h : SolOk vars css bud
  · rw [solA_yes h]
    obtain ⟨h1, h2, h3⟩ := solF_small css vars.toNat bud.toNat 0 [] []
    have h4 := solF_lits css vars.toNat bud.toNat 0 [] [] (sok_nil h.1 hw)
    have a1 := h.1.1.1
    have a2 := h.1.1.2
    have a3 := h.2.1
    have a4 := h.2.2
    refine ⟨by simp only [List.length_nil] at h2 ⊢; omega, fun l hl => ⟨?_, fun z hz => ?_⟩⟩
    · rcases h3 l hl with g | g
      · cases g
      · simp only [List.length_nil] at g; omega
    · have := h4 l hl z hz
      have b1 := this.2.1
      have b2 := this.2.2
      omega
  · rw [solA_no h]; exact ⟨by simp, fun l hl => by cases hl⟩

/-- Lemmas as they are drawn. -/
def LmOkD (ls : List LCl) : Prop := ls.length ≤ 1000 ∧ ∀ r ∈ ls, r.2.length ≤ 1000 ∧ ∀ z ∈ r.2, -100 ≤ z ∧ z ≤ 100
def LmOk' (ls : List LCl) : Prop := ls.length ≤ 1001 ∧ ∀ r ∈ ls, r.2.length ≤ 1000 ∧ ∀ z ∈ r.2, wfI z
theorem wrap_hi (n : Int) : wrap64 n ≤ 9223372036854775807 := by unfold wrap64; omega
theorem wrap_lo (n : Int) : -9223372036854775808 ≤ wrap64 n := by unfold wrap64; omega
theorem wf_in {z : Int} (h1 : -9223372036854775808 ≤ z) (h2 : z ≤ 9223372036854775807) : wfI z := by
  unfold wfI
  have e1 : IntKind.i64.min = -9223372036854775808 := by rfl
  have e2 : IntKind.i64.max = 9223372036854775807 := by rfl
  simp only [Lit.wf, e1, e2, Bool.and_eq_true, decide_eq_true_eq]
  omega
theorem wf_wrap (n : Int) : wfI (wrap64 n) := wf_in (wrap_lo n) (wrap_hi n)
theorem LmOkD.weak {ls : List LCl} (h : LmOkD ls) : LmOk' ls := ⟨by have := h.1; omega, fun r hr => ⟨(h.2 r hr).1, fun z hz => wf_in (by have := (h.2 r hr).2 z hz; omega) (by have := (h.2 r hr).2 z hz; omega)⟩⟩
theorem LmOkD.add {ls : List LCl} (h : LmOkD ls) {zz : Int} {s : Value} (hz : wfI zz) : LmOk' (ls ++ [(s, [zz])]) := by
  refine ⟨by have := h.1; simp; omega, fun r hr => ?_⟩
  rcases List.mem_append.1 hr with g | g
  · exact h.weak.2 r g
  · rw [List.mem_singleton.1 g]
    exact ⟨by simp, fun z hz' => by rw [List.mem_singleton.1 hz']; exact hz⟩
/-- What DrawUnitRun draws. -/
def DuP (w : World) (e : Ending) (w' : World) : Prop :=
  ∃ (vars : Int) (vs : Option Addr) (vk : Nat) (cs : List LCl) (s : Option Addr) (k : Nat) (ms : List LCl) (ts : Option Addr) (tk : Nat) (T : List Int), e = .returned (.tuple #[CV vars vs cs.length vk, .slice s ms.length k, .slice ts T.length tk]) ∧ (∀ r ∈ cs, r.2.length ≤ 20 ∧ ∀ z ∈ r.2, -100 ≤ z ∧ z ≤ 100) ∧ cs.length ≤ 5000 ∧ LmOk' ms ∧ (T.length ≤ 101 ∧ ∀ z ∈ T, -100 ≤ z ∧ z ≤ 100) ∧ Cls w' vs cs ∧ Cls w' s ms ∧ Ints w' ts T ∧ Below w.heap.size w w'


theorem cls_at {w : World} {sl : Option Addr} {cs : List LCl} (h : Cls w sl cs) {k : Nat} (hk : k < cs.length) : ∃ (c o : Nat) (s : Option Addr) (kc : Nat), sl = some ⟨c, o, none⟩ ∧ c < w.heap.size ∧ w.cell? ⟨c, o + k, none⟩ = some (.slice s cs[k].2.length kc) ∧ Ints w s cs[k].2 ∧ cs[k].2.length ≤ maxLen := by
  obtain ⟨s, kc, e1, i1, l1⟩ := h.each cs[k] (List.getElem_mem hk)
  rcases h.row with h0 | ⟨c, o, e, ha⟩
  · subst h0; simp at hk
  · exact ⟨c, o, s, kc, e, ha.1, by rw [ha.2 k hk, e1], i1, l1⟩

/-- What lwClause answers. -/
def LcP (l : List Int) (w : World) (e : Ending) (w' : World) : Prop := ∃ (s1 : Option Addr) (k1 : Nat), e = .returned (.slice s1 l.length k1) ∧ Ints w' s1 l ∧ l.length ≤ maxLen ∧ Below w.heap.size w w'

set_option maxRecDepth 100000 in
set_option maxHeartbeats 2000000 in
/-- laws.lwClause, within. -/
theorem lwcl_any (vars : Int) (vs : Option Addr) (vk : Nat) (cs : List LCl) (s : Option Addr) (sk : Nat) (ms : List LCl) (k : Nat) (w : World) (hn : cs.length ≤ 100000) (hm : ms.length ≤ 100000) (hk : k < (cs ++ ms).length) (hc : Cls w vs cs) (hd : Cls w s ms) :
    Calls Tryd.prog 15 #[CV vars vs cs.length vk, .slice s ms.length sk, .int .i64 (k : Int)] w (LcP (cs ++ ms)[k].2 w) := by
  have B0 := Lib.hid (bA0 w (.cells #[.int .i64 vars, .slice vs cs.length vk] 25))
  have CA := Lib.hid (CnfAt.new w vars vs cs.length vk)
  have hkl : k < cs.length + ms.length := by rwa [List.length_append] at hk
  have h1 : ¬ (k : Int) < 0 := by omega
  have h2 : ¬ ((cs.length : Int) + (ms.length : Int) ≤ (k : Int)) := by omega
  by_cases hk1 : k < cs.length
  · obtain ⟨c, o, s1, k1, rfl, hcw, hcell, hi, hl⟩ := cls_at hc hk1
    have e : (cs ++ ms)[k] = cs[k] := List.getElem_append_left hk1
    rw [e]
    have P : Hid (LcP _ w (.returned (.slice s1 _ k1)) _) := ⟨s1, k1, rfl, hi.below B0.out, hl, B0.out⟩
    have hcell' := ((B0.out.cell (p := ⟨c, o + k, none⟩) hcw).trans hcell)
    have hcw' : c < (w.alloc (.cells #[.int .i64 vars, .slice (some ⟨c, o, none⟩) cs.length vk] 25)).heap.size := by have := B0.out.size; omega
    obtain ⟨t0, t1⟩ := CA.out.cells
    have tl := CA.out.lt
    have h3 : (k : Int) < (cs.length : Int) := by omega
    have hn' : (cs.length : Int) ≤ 100000 := by omega
    have hm' : (ms.length : Int) ≤ 100000 := by omega
    clear hcell hi hl hc hd hn hm hk hkl e CA hcw B0
    generalize cs[k].2 = l at *
    generalize cs.length = n at *
    generalize ms.length = m at *
    go_enter Tryd.func15, Tryd.ntmps15
    go_wp2
    go_ret
    exact P.out
  · have hk3 : k - cs.length < ms.length := by omega
    obtain ⟨c, o, s1, k1, rfl, hcw, hcell, hi, hl⟩ := cls_at hd hk3
    have e : (cs ++ ms)[k] = ms[k - cs.length] := List.getElem_append_right (by omega)
    rw [e]
    have P : Hid (LcP _ w (.returned (.slice s1 _ k1)) _) := ⟨s1, k1, rfl, hi.below B0.out, hl, B0.out⟩
    have hcell' := ((B0.out.cell (p := ⟨c, o + (k - cs.length), none⟩) hcw).trans hcell)
    have hcw' : c < (w.alloc (.cells #[.int .i64 vars, .slice vs cs.length vk] 25)).heap.size := by have := B0.out.size; omega
    obtain ⟨t0, t1⟩ := CA.out.cells
    have tl := CA.out.lt
    have h3 : ¬ (k : Int) < (cs.length : Int) := by omega
    have kn1 : ((k : Int) - (cs.length : Int)).toNat = k - cs.length := by omega
    have kn2 : (0 : Int) ≤ (k : Int) - (cs.length : Int) := by omega
    have kn3 : (k : Int) - (cs.length : Int) < (ms.length : Int) := by omega
    have hn' : (cs.length : Int) ≤ 100000 := by omega
    have hm' : (ms.length : Int) ≤ 100000 := by omega
    clear hcell hi hl hc hd hn hm hk hkl e CA hcw B0
    generalize ms[k - cs.length].2 = l at *
    clear hk3
    generalize cs.length = n at *
    generalize ms.length = m at *
    go_enter Tryd.func15, Tryd.ntmps15
    go_wp2
    go_ret
    exact P.out


theorem due_false (tr : List Int) : ∀ (css : List (List Int)) (k : Nat) (j : Nat), dueL tr k css = ((j : Int), 0) → k ≤ j ∧ ∃ h : j - k < css.length, unitOf tr css[j - k] = some 0
  | [], k, j, h => by simp [dueL] at h
  | a :: r, k, j, h => by
    unfold dueL at h
    cases hu : unitOf tr a with
    | none =>
      simp only [hu] at h
      obtain ⟨h1, h2, h3⟩ := due_false tr r (k + 1) j h
      refine ⟨by omega, by simp; omega, ?_⟩
      have e : j - k = (j - (k + 1)) + 1 := by omega
      simp only [e, List.getElem_cons_succ]
      exact h3
    | some z =>
      simp only [hu, Prod.mk.injEq] at h
      obtain ⟨h1, rfl⟩ := h
      obtain rfl : k = j := by omega
      refine ⟨Nat.le_refl _, by simp, ?_⟩
      simp only [Nat.sub_self, List.getElem_cons_zero]
      exact hu
/-- How many literals have no value. -/
noncomputable def opC (T l : List Int) : Nat := (l.filter fun z => decide (val T z = 0)).length
theorem unit_false {T l : List Int} (hl : ∀ z ∈ l, z ≠ 0) (h : unitOf T l = some 0) : ¬ GdL T l ∧ opC T l = 0 := by
  have hn : nfl T l = [] := by
    unfold unitOf at h
    split at h
    · assumption
    · rename_i z hz
      split at h
      · cases h
        have : (0 : Int) ∈ nfl T l := by rw [hz]; simp
        exact absurd rfl (hl 0 (List.mem_filter.1 this).1)
      · cases h
    · cases h
  have hneg : ∀ z ∈ l, ¬ 0 ≤ val T z := fun z hz g => by
    have : z ∈ nfl T l := List.mem_filter.2 ⟨hz, by simpa using g⟩
    rw [hn] at this; cases this
  refine ⟨fun ⟨z, hz, e⟩ => hneg z hz (by omega), ?_⟩
  unfold opC
  rw [List.length_eq_zero_iff, List.filter_eq_nil_iff]
  intro z hz g
  have := of_decide_eq_true g
  exact hneg z hz (by omega)
theorem unit_fine {T l : List Int} (h : unitOf T l = none) : GdL T l ∨ 2 ≤ opC T l := by
  by_cases hg : GdL T l
  · exact .inl hg
  · refine .inr ?_
    have he : nfl T l = l.filter fun z => decide (val T z = 0) := by
      unfold nfl
      apply List.filter_congr
      intro z hz
      have h1 : val T z ≠ 1 := fun e => hg ⟨z, hz, e⟩
      rcases val_cases T z with ⟨e, _⟩ | ⟨e, _⟩ | ⟨e, _⟩
      · exact absurd e h1
      · simp [e]
      · simp [e]
    unfold opC
    rw [← he]
    unfold unitOf at h
    split at h
    · cases h
    · rename_i z hz
      split at h
      · cases h
      · rename_i hv
        have : z ∈ nfl T l := by rw [hz]; simp
        rw [he] at this
        exact absurd (of_decide_eq_true (List.mem_filter.1 this).2) hv
    · rename_i h1 h2
      match hx : nfl T l with
      | [] => exact absurd hx h1
      | [a] => exact absurd hx (h2 a)
      | a :: c :: r => simp
theorem opC_step (T l : List Int) (k : Nat) (h : k < l.length) : opC T (l.take (k + 1)) = if val T (l.getD k 0) = 0 then opC T (l.take k) + 1 else opC T (l.take k) := by
  rw [take_one l k h]
  unfold opC
  rw [List.filter_append]
  by_cases g : val T (l.getD k 0) = 0
  · rw [if_pos g, List.filter_cons_of_pos (by simpa using g), List.filter_nil, List.length_append]; rfl
  · rw [if_neg g, List.filter_cons_of_neg (by simpa using g), List.filter_nil, List.append_nil]
theorem opC_le (T l : List Int) : opC T l ≤ l.length := List.length_filter_le _ _
theorem GdL_step (T l : List Int) (k : Nat) (h : k < l.length) : GdL T (l.take (k + 1)) ↔ GdL T (l.take k) ∨ val T (l.getD k 0) = 1 := by
  rw [take_one l k h]
  constructor
  · rintro ⟨z, hz, e⟩
    rcases List.mem_append.1 hz with g | g
    · exact .inl ⟨z, g, e⟩
    · rw [List.mem_singleton.1 g] at e; exact .inr e
  · rintro (⟨z, hz, e⟩ | e)
    · exact ⟨z, List.mem_append_left _ hz, e⟩
    · exact ⟨_, List.mem_append_right _ (List.mem_singleton.2 rfl), e⟩
theorem lit_val {vars : Int} {T : List Int} {z : Int} (h0 : 0 ≤ vars) (h1 : vars ≤ 96) (hT : T.length ≤ 400) (hz : OkZ vars z) : litF T z = val T z := by
  rw [litF_short hT]
  have e : wrap64 (-z) = -z := wrap_in _ ⟨by have := hz.2; omega, by have := hz.2; omega⟩
  unfold lvL val
  rw [e]
/-- What the law asks: of a run that is right. -/
structure RunOk (vars : Int) (css dss : List (List Int)) (ts T : List Int) (conf : Int) : Prop where
  pre : ∃ fl, T = ts ++ fl
  right : TrR vars css T
  lits : ∀ l ∈ css ++ dss, ∀ z ∈ l, litF T z = val T z
  fals : ∀ k (h : k < (css ++ dss).length), conf = (k : Int) → ¬ GdL T (css ++ dss)[k] ∧ opC T (css ++ dss)[k] = 0
  fine : conf = -1 → ∀ l ∈ css ++ dss, GdL T l ∨ 2 ≤ opC T l
theorem run_ok {vars : Int} {css dss : List (List Int)} {ts : List Int} (hw : ∀ l ∈ css, ∀ z ∈ l, wfI z) (h : (uAll vars css dss ts).2.2 = 0) : RunOk vars css dss ts (uAll vars css dss ts).1 (uAll vars css dss ts).2.1 := by
  by_cases hb : UBig dss ts
  · rw [uAll_big hb] at h; cases h
  by_cases ho : UOk vars css dss ts
  · rw [uAll_yes hb ho]
    show RunOk vars css dss ts (uRun css dss ts).1 (uRun css dss ts).2
    have h0 := ho.1.1.1
    have h1 := ho.1.1.2
    have hl : ∀ l ∈ css ++ dss, ∀ z ∈ l, OkZ vars z := fun l hl => by
      rcases List.mem_append.1 hl with g | g
      · exact cnfR_lits ho.1 hw l g
      · exact moR_lits ho.2.1 l g
    have hs := ho.2.2.short h1
    obtain ⟨f1, f2⟩ := resF_fix (css ++ dss) h1 hl (97 - ts.length) ts ho.2.2 (by omega)
    have hsp := resF_sp (css ++ dss) hl (97 - ts.length) ts ho.2.2
    have hT : (uRun css dss ts).1.length ≤ 400 := by have := hsp.short h1; unfold uRun; omega
    refine ⟨resF_ext _ _ _, ⟨hT, ho.1, hsp⟩, fun l hl' z hz => lit_val h0 h1 hT (hl l hl' z hz), fun k hk e => ?_, fun e l hl' => unit_fine (due_none _ _ 0 (f2.symm.trans e) l hl')⟩
    have hd : dueL (uRun css dss ts).1 0 (css ++ dss) = ((k : Int), 0) := Prod.ext (f2.symm.trans e) f1
    obtain ⟨_, g1, g2⟩ := due_false _ _ 0 k hd
    exact unit_false (fun z hz => (hl _ (List.getElem_mem hk) z hz).1) g2
  · rw [uAll_no hb ho] at h; cases h


end Go.Proofs.YtoobcodlgajieaaDoor
