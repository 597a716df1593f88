/-
  THE SOLVER'S STATE, and what turns it: push, pop, spend, conflict, learn, told.
-/
import Derived.Test.YtdmnnclbcljdmaaMb
import Derived.RegionTactic
import Derived.ChangeAlike
import Derived.Deep.RegionWith
namespace Go.Proofs.Ytdmnnclbcljdmaa
open Go.RowKit
set_option linter.unusedVariables false

theorem own_box {W : World} {C : Nat} {e : TypeId} {m : Nat} {v : Value} {n : Nat} {xs : List Value} {X : Nat} {us : Array Value} {t : TypeId} (h : W.ownsRow C e m v n xs) (hx : W.heap[X]? = some (.cells us t)) (hne : t ≠ e) (i : Nat) (u : Value) : (W.setCell ⟨X, i, none⟩ u).ownsRow C e m v n xs := by
  refine ⟨h.1, ?_⟩
  rcases h.2 with h | ⟨g, cap, cur, hv, hg, hh, r⟩
  · exact .inl h
  · refine .inr ⟨g, cap, cur, hv, hg, (Below.heap_setCell _ _ _ _ ?_).trans hh, r⟩
    intro e'
    have e'' : g = X := e'
    rw [e'', hx] at hh
    cases hh
    exact hne rfl
theorem owc_box {W : World} {C : Nat} {v : Value} {cs : List LCl} {X : Nat} {us : Array Value} {t : TypeId} (h : OwC W C v cs) (hx : W.heap[X]? = some (.cells us t)) (h1 : t ≠ 28) (h2 : t ≠ 2) (i : Nat) (u : Value) : OwC (W.setCell ⟨X, i, none⟩ u) C v cs :=
  ⟨own_box h.row hx h1 i u, fun r hr => own_box (h.each r hr) hx h2 i u, h.diff⟩
theorem own_only {B : Nat} {e : TypeId} {m : Nat} {v : Value} {n : Nat} {xs : List Value} {b : Nat} {w w' : World} {us : Array Value} {t : TypeId} (h : w.ownsRow B e m v n xs) (ho : Only b w w') (hx : w.heap[b]? = some (.cells us t)) (hne : t ≠ e) : w'.ownsRow B e m v n xs := by
  refine ⟨h.1, ?_⟩
  rcases h.2 with h | ⟨g, cap, cur, hv, hg, hh, r⟩
  · exact .inl h
  · refine .inr ⟨g, cap, cur, hv, hg, (ho.block g (Array.getElem?_eq_some_iff.1 hh).1 ?_).trans hh, r⟩
    intro e'
    rw [e', hx] at hh
    cases hh
    exact hne rfl
theorem owc_only {B : Nat} {v : Value} {cs : List LCl} {b : Nat} {w w' : World} {us : Array Value} {t : TypeId} (h : OwC w B v cs) (ho : Only b w w') (hx : w.heap[b]? = some (.cells us t)) (h1 : t ≠ 28) (h2 : t ≠ 2) : OwC w' B v cs :=
  ⟨own_only h.row ho hx h1, fun r hr => own_only (h.each r hr) ho hx h2, h.diff⟩

theorem VAt.fld {fh : List Value} {w : World} {b : Nat} {tr : List Int} (h : VAt fh w b tr) (i : Nat) (hi : i < 6) : w.cell? ⟨b, i, none⟩ = fh[i]? := by
  have : w.cell? ⟨b, i, none⟩ = (fh ++ vL tr)[i]? := by simp [World.cell?, h.2]
  rw [this, List.getElem?_append_left (by rw [h.1]; exact hi)]
theorem VAt.setF {fh : List Value} {w : World} {b : Nat} {tr : List Int} (h : VAt fh w b tr) (i : Nat) (hi : i < 6) (v : Value) : VAt (fh.set i v) (w.setCell ⟨b, i, none⟩ v) b tr := by
  refine ⟨by rw [List.length_set]; exact h.1, ?_⟩
  have := heap_setCell_same w b i _ 63 v h.2
  rwa [List.setIfInBounds_toArray, List.set_append_left _ _ (by rw [h.1]; exact hi)] at this
abbrev SF (V bud st : Int) (vc vl vd : Value) : List Value := [.int .i64 V, .int .i64 bud, .int .i64 st, vc, vl, vd]

theorem appH {w : World} {B : Nat} {v : Value} {us : List Value} (h : w.ownsRow B 28 1 v us.length us) (u : Value) (hu : u.oneCell' = true) (c : Nat) (hc : ∀ (j : Nat) (x : Value), [u][j]? = some x → w.cell? ((⟨c, 0, none⟩ : Addr).add j) = some x) (hB : B ≤ w.heap.size) (hl : us.length ≤ 100000) :
    ∃ v9 w9, (∀ ty, (Builtin.append_ #[23, 23] ty #[v, .slice (some ⟨c, 0, none⟩) 1 1]).run Try.prog w = .ok v9 w9) ∧ w9.ownsRow B 28 1 v9 (us.length + 1) (us ++ [u]) ∧ w.grownBy w9 v.ownBlock := by
  obtain ⟨i3, hi3, hd0, hd1, hd2⟩ := info_parts info40
  obtain ⟨g, c9, w9, hr, own9, grow9, hg, -⟩ := run_append_lies (P := Try.prog) w 23 23 B 28 i3 (.slice none 0 0) 1 24 Try.underlying23 hi3 hd0 hd1 hd2 rfl (by decide) _ _ _ h ⟨c, 0, none⟩ 1 1 [u] rfl hc (by intro x hx; rw [List.mem_singleton.1 hx]; exact hu) (by decide) (by unfold maxLen; omega) (by omega) hB w.heap.size rfl
  exact ⟨_, w9, fun ty => hr, own9, grow9⟩
theorem appK {w : World} {B : Nat} {v : Value} {us : List Value} (h : w.ownsRow B 121 1 v us.length us) (u : Value) (hu : u.oneCell' = true) (c : Nat) (hc : ∀ (j : Nat) (x : Value), [u][j]? = some x → w.cell? ((⟨c, 0, none⟩ : Addr).add j) = some x) (hB : B ≤ w.heap.size) (hl : us.length ≤ 100000) :
    ∃ v9 w9, (∀ ty, (Builtin.append_ #[56, 56] ty #[v, .slice (some ⟨c, 0, none⟩) 1 1]).run Try.prog w = .ok v9 w9) ∧ w9.ownsRow B 121 1 v9 (us.length + 1) (us ++ [u]) ∧ w.grownBy w9 v.ownBlock := by
  obtain ⟨i3, hi3, hd0, hd1, hd2⟩ := info_parts info108
  obtain ⟨g, c9, w9, hr, own9, grow9, hg, -⟩ := run_append_lies (P := Try.prog) w 56 56 B 121 i3 (.slice none 0 0) 1 24 Try.underlying56 hi3 hd0 hd1 hd2 rfl (by decide) _ _ _ h ⟨c, 0, none⟩ 1 1 [u] rfl hc (by intro x hx; rw [List.mem_singleton.1 hx]; exact hu) (by decide) (by unfold maxLen; omega) (by omega) hB w.heap.size rfl
  exact ⟨_, w9, fun ty => hr, own9, grow9⟩

/-- All blocks of answers are as they were. -/
def K30 (w0 W : World) : Prop := ∀ (k : Nat) (us : Array Value), w0.heap[k]? = some (.cells us 30) → W.heap[k]? = some (.cells us 30)
theorem K30.refl (W : World) : K30 W W := fun _ _ h => h
theorem K30.below {w0 W W' : World} (h : K30 w0 W) (hb : Below W.heap.size W W') : K30 w0 W' := fun k us hk => by
  have := h k us hk
  exact (hb.block k (Array.getElem?_eq_some_iff.1 this).1).trans this
theorem K30.only {w0 W W' : World} {b : Nat} {us : Array Value} {t : TypeId} (h : K30 w0 W) (ho : Only b W W') (hx : W.heap[b]? = some (.cells us t)) (ht : t ≠ 30) : K30 w0 W' := fun k us hk => by
  have := h k us hk
  refine (ho.block k (Array.getElem?_eq_some_iff.1 this).1 (fun e => ?_)).trans this
  rw [e, hx] at this
  cases this
  exact ht rfl
theorem K30.set {w0 W : World} {b : Nat} {us : Array Value} {t : TypeId} (h : K30 w0 W) (hx : W.heap[b]? = some (.cells us t)) (ht : t ≠ 30) (i : Nat) (v : Value) : K30 w0 (W.setCell ⟨b, i, none⟩ v) := h.only ((Only.refl b W).setCell i v) hx ht
theorem K30.grown {w0 W W' : World} {B : Nat} {e : TypeId} {m : Nat} {v : Value} {n : Nat} {xs : List Value} (h : K30 w0 W) (hv : W.ownsRow B e m v n xs) (he : e ≠ 30) (hg : W.grownBy W' v.ownBlock) : K30 w0 W' := fun k us hk => by
  have := h k us hk
  refine (hg.block k (Array.getElem?_eq_some_iff.1 this).1 (fun e' => ?_)).trans this
  obtain ⟨cur, hc⟩ := own_kind hv e'.symm
  rw [hc] at this
  cases this
  exact he rfl

/-- The solver, how far it has come. -/
structure Sol (w w0 : World) (b : Nat) (V bud st : Int) (ms ls : List LCl) (D tr : List Int) (vc vl vd : Value) (W : World) : Prop where
  blk : VAt (SF V bud st vc vl vd) W b tr
  rc : W.ownsRow w.heap.size 121 1 vc (hdC ms).length (hdC ms)
  ol : OwC W w.heap.size vl ls
  od : W.ownsRow w.heap.size 2 1 vd D.length (valsZ D)
  da : ∀ r ∈ ls, ∀ j, r.1.ownBlock = some j → vd.ownBlock ≠ some j
  bl : Below w.heap.size w W
  hb : w.heap.size ≤ b
  kp : K30 w0 W
section
variable {w w0 : World} {b : Nat} {V bud st : Int} {ms ls : List LCl} {D tr : List Int} {vc vl vd : Value} {W W' : World}
theorem Sol.below (h : Sol w w0 b V bud st ms ls D tr vc vl vd W) (hb : Below W.heap.size W W') : Sol w w0 b V bud st ms ls D tr vc vl vd W' :=
  ⟨h.blk.below hb, own_below h.rc hb, h.ol.below hb, own_below h.od hb, h.da, bT h.bl hb, h.hb, h.kp.below hb⟩
theorem Sol.facts (h : Sol w w0 b V bud st ms ls D tr vc vl vd W) : b < W.heap.size ∧ W.cell? ⟨b, 0, none⟩ = some (.int .i64 V) ∧ W.cell? ⟨b, 1, none⟩ = some (.int .i64 bud) ∧ W.cell? ⟨b, 2, none⟩ = some (.int .i64 st) ∧ W.cell? ⟨b, 3, none⟩ = some vc ∧ W.cell? ⟨b, 4, none⟩ = some vl ∧ W.cell? ⟨b, 5, none⟩ = some vd ∧ ∀ k, W.frozen? ⟨b, k, none⟩ = false :=
  ⟨h.blk.lt, h.blk.fld 0 (by omega), h.blk.fld 1 (by omega), h.blk.fld 2 (by omega), h.blk.fld 3 (by omega), h.blk.fld 4 (by omega), h.blk.fld 5 (by omega), fun k => h.blk.frozen k⟩
theorem Sol.step (h : Sol w w0 b V bud st ms ls D tr vc vl vd W) (x : Int) : Sol w w0 b V bud x ms ls D tr vc vl vd (W.setCell ⟨b, 2, none⟩ (.int .i64 x)) :=
  ⟨h.blk.setF 2 (by omega) _, own_box h.rc h.blk.2 (by decide) _ _, owc_box h.ol h.blk.2 (by decide) (by decide) _ _, own_box h.od h.blk.2 (by decide) _ _, h.da, h.bl.setCell (p := ⟨b, 2, none⟩) h.hb _, h.hb, h.kp.set h.blk.2 (by decide) _ _⟩
/-- The values turned alone. -/
theorem Sol.vals (h : Sol w w0 b V bud st ms ls D tr vc vl vd W) {tr' : List Int} (ho : Only b W W') (hv : VAt (SF V bud st vc vl vd) W' b tr') : Sol w w0 b V bud st ms ls D tr' vc vl vd W' :=
  ⟨hv, own_only h.rc ho h.blk.2 (by decide), owc_only h.ol ho h.blk.2 (by decide) (by decide), own_only h.od ho h.blk.2 (by decide), h.da, Only.below h.bl h.hb ho, h.hb, h.kp.only ho h.blk.2 (by decide)⟩
theorem Sol.slot (h : Sol w w0 b V bud st ms ls D tr vc vl vd W) {e : TypeId} {m n B : Nat} {v : Value} {xs : List Value} (hv : W.ownsRow B e m v n xs) (he : e ≠ 63) (hg : W.grownBy W' v.ownBlock) : VAt (SF V bud st vc vl vd) W' b tr :=
  h.blk.kept (hg.block b h.blk.lt (fun e' => by
    obtain ⟨cur, hc⟩ := own_kind hv e'.symm
    rw [h.blk.2] at hc
    cases hc
    exact he rfl))
/-- The decisions turned, in a world that grew at their row alone. -/
theorem Sol.decide (h : Sol w w0 b V bud st ms ls D tr vc vl vd W) {D' : List Int} {vd' : Value} (hg : W.grownBy W' vd.ownBlock) (ho : W'.ownsRow w.heap.size 2 1 vd' D'.length (valsZ D')) (hn : ∀ j, vd'.ownBlock = some j → vd.ownBlock = some j ∨ j = W.heap.size) :
    Sol w w0 b V bud st ms ls D' tr vc vl vd' (W'.setCell ⟨b, 5, none⟩ vd') := by
  have bk := h.slot h.od (by decide) hg
  have lr : ∀ r ∈ ls, W'.ownsRow w.heap.size 2 1 r.1 r.2.length (valsZ r.2) := fun r hr => (h.ol.each r hr).kept hg (by
    rcases hj : r.1.ownBlock with _ | j
    · exact .inl rfl
    · exact .inr (fun e => h.da r hr j hj e.symm))
  have oc : OwC W' w.heap.size vl ls := ⟨h.ol.row.kept hg (own_diff h.ol.row h.od (by decide)), lr, h.ol.diff⟩
  refine ⟨bk.setF 5 (by omega) _, own_box (h.rc.kept hg (own_diff h.rc h.od (by decide))) bk.2 (by decide) _ _, owc_box oc bk.2 (by decide) (by decide) _ _, own_box ho bk.2 (by decide) _ _, fun r hr j hj e => ?_, (h.bl.grown hg h.bl.size (fun j hj => (h.od.lt j hj).1)).setCell (p := ⟨b, 5, none⟩) h.hb _, h.hb, (h.kp.grown h.od (by decide) hg).set bk.2 (by decide) _ _⟩
  rcases hn j e with e2 | e2
  · exact h.da r hr j hj e2
  · have := ((h.ol.each r hr).lt j hj).2
    omega
/-- One decision less. -/
theorem Sol.pop (h : Sol w w0 b V bud st ms ls D tr vc vl vd W) {s : Option Addr} {k : Nat} (e : vd = .slice s D.length k) : Sol w w0 b V bud st ms ls D.dropLast tr vc vl (.slice s (D.length - 1) k) (W.setCell ⟨b, 5, none⟩ (.slice s (D.length - 1) k)) := by
  subst e
  have ho : W.ownsRow w.heap.size 2 1 (.slice s (D.length - 1) k) D.dropLast.length (valsZ D.dropLast) := by
    refine ⟨by simp [valsZ], ?_⟩
    rcases h.od.2 with ⟨h1, h0⟩ | ⟨g, cap, cur, hv, hg, hh, h1, h2, h3, h4⟩
    · have : D = [] := List.eq_nil_of_length_eq_zero h0
      subst this
      cases h1
      exact .inl ⟨rfl, rfl⟩
    · cases hv
      refine .inr ⟨g, k, cur, by simp, hg, hh, by simp; omega, h2, h3, ?_⟩
      have : valsZ D.dropLast = (valsZ D).take (D.length - 1) := by simp [valsZ, List.dropLast_eq_take]
      rw [this, ← h4, List.take_take, List.length_dropLast]
      congr 1
      omega
  have hs : (Value.slice s (D.length - 1) k).ownBlock = (Value.slice s D.length k).ownBlock := by cases s <;> rfl
  exact ⟨h.blk.setF 5 (by omega) _, own_box h.rc h.blk.2 (by decide) _ _, owc_box h.ol h.blk.2 (by decide) (by decide) _ _, own_box ho h.blk.2 (by decide) _ _, fun r hr j hj e => h.da r hr j hj (by rw [← hs]; exact e), h.bl.setCell (p := ⟨b, 5, none⟩) h.hb _, h.hb, h.kp.set h.blk.2 (by decide) _ _⟩
/-- One lemma more. -/
theorem Sol.lemma (h : Sol w w0 b V bud st ms ls D tr vc vl vd W) {r : LCl} {vl' : Value} (hr : W.ownsRow w.heap.size 2 1 r.1 r.2.length (valsZ r.2)) (hf : ∀ j, r.1.ownBlock = some j → (∀ s ∈ ls, s.1.ownBlock ≠ some j) ∧ vd.ownBlock ≠ some j) (hg : W.grownBy W' vl.ownBlock) (ho : W'.ownsRow w.heap.size 28 1 vl' (ls.length + 1) (hdC ls ++ [r.1])) :
    Sol w w0 b V bud st ms (ls ++ [r]) D tr vc vl' vd (W'.setCell ⟨b, 4, none⟩ vl') := by
  have bk := h.slot h.ol.row (by decide) hg
  have oc := h.ol.add (Below.refl _ _) hr (fun j hj s hs => (hf j hj).1 s hs) hg ho
  refine ⟨bk.setF 4 (by omega) _, own_box (h.rc.kept hg (own_diff h.rc h.ol.row (by decide))) bk.2 (by decide) _ _, owc_box oc bk.2 (by decide) (by decide) _ _, own_box (h.od.kept hg (own_diff h.od h.ol.row (by decide))) bk.2 (by decide) _ _, fun s hs j hj => ?_, (h.bl.grown hg h.bl.size (fun j hj => (h.ol.row.lt j hj).1)).setCell (p := ⟨b, 4, none⟩) h.hb _, h.hb, (h.kp.grown h.ol.row (by decide) hg).set bk.2 (by decide) _ _⟩
  rcases List.mem_append.1 hs with h1 | h1
  · exact h.da s h1 j hj
  · rw [List.mem_singleton.1 h1] at hj
    exact (hf j hj).2
/-- One clause more. -/
theorem Sol.clause (h : Sol w w0 b V bud st ms ls D tr vc vl vd W) {r : LCl} {vc' : Value} (hg : W.grownBy W' vc.ownBlock) (ho : W'.ownsRow w.heap.size 121 1 vc' ((hdC ms).length + 1) (hdC ms ++ [r.1])) :
    Sol w w0 b V bud st (ms ++ [r]) ls D tr vc' vl vd (W'.setCell ⟨b, 3, none⟩ vc') := by
  have bk := h.slot h.rc (by decide) hg
  have lr : ∀ r ∈ ls, W'.ownsRow w.heap.size 2 1 r.1 r.2.length (valsZ r.2) := fun r hr => (h.ol.each r hr).kept hg (own_diff (h.ol.each r hr) h.rc (by decide))
  have oc : OwC W' w.heap.size vl ls := ⟨h.ol.row.kept hg (own_diff h.ol.row h.rc (by decide)), lr, h.ol.diff⟩
  have ho' : W'.ownsRow w.heap.size 121 1 vc' (hdC (ms ++ [r])).length (hdC (ms ++ [r])) := by
    rw [hdC_add, List.length_append]; exact ho
  exact ⟨bk.setF 3 (by omega) _, own_box ho' bk.2 (by decide) _ _, owc_box oc bk.2 (by decide) (by decide) _ _, own_box (h.od.kept hg (own_diff h.od h.rc (by decide))) bk.2 (by decide) _ _, h.da, (h.bl.grown hg h.bl.size (fun j hj => (h.rc.lt j hj).1)).setCell (p := ⟨b, 3, none⟩) h.hb _, h.hb, (h.kp.grown h.rc (by decide) hg).set bk.2 (by decide) _ _⟩
end
theorem ints_new (w : World) (z : Int) : Ints (w.alloc (.cells #[.int .i64 z] 2)) (some ⟨w.heap.size, 0, none⟩) [z] := by
  refine .inr ⟨w.heap.size, 0, rfl, by simp, fun i hi => ?_⟩
  have : i = 0 := by simpa using hi
  subst this
  have h := new_at w (.cells #[.int .i64 z] 2)
  generalize w.alloc (.cells #[.int .i64 z] 2) = W at *
  simp [World.cell?, h]

set_option maxRecDepth 100000 in
set_option maxHeartbeats 1000000 in
/-- stackOf.push. -/
theorem push_any {w w0 : World} {b : Nat} {V bud st : Int} {ms ls : List LCl} {D tr : List Int} {vc vl vd : Value} (z : Int) (W : World) (h : Sol w w0 b V bud st ms ls D tr vc vl vd W) (hl : D.length ≤ 1000) :
    Calls Try.prog 59 #[.pointer (some ⟨b, 5, none⟩), .int .i64 z] W fun e w' => e = .returned (.tuple #[]) ∧ ∃ vd', Sol w w0 b V bud st ms ls (D ++ [z]) tr vc vl vd' w' := by
  obtain ⟨hlt, c0, c1, c2, c3, c4, c5, hf⟩ := h.facts
  have HA := h.below (bA0 W (.cells #[.int .i64 z] 2))
  obtain ⟨v9, w9, ha, ow, gr, hj⟩ := appZ HA.od 1 (ints_new W z) (by have := HA.bl.size; exact this) (by simp; omega)
  have bk := HA.slot HA.od (by decide) gr
  have q5 := bk.fld 5 (by omega)
  have f5 := bk.frozen 5
  have l5 := bk.lt
  have R := Lib.hid (HA.decide gr ow hj)
  have ha' := ha 28
  obtain ⟨ds, dk, rfl⟩ := own_v h.od
  obtain ⟨s9, k9, rfl⟩ := own_v ow
  dsimp only [List.getElem?_cons_succ, List.getElem?_cons_zero] at q5
  clear h HA hf c0 c1 c2 c3 c4 ha gr hj ow bk
  generalize D.length = fn at *
  generalize (D ++ [z]).length = fn9 at *
  go_enter Try.func59, Try.ntmps59
  go_wp2_with (at_builtin; refine Lib.wpList_append_run _ rfl _ _ _ _ rfl _ _ rfl rfl _ _ ha' ?_)
  go_end0
  exact ⟨rfl, _, R.out⟩

set_option maxRecDepth 100000 in
set_option maxHeartbeats 1000000 in
/-- stackOf.pop, of none. -/
theorem pop_none {w w0 : World} {b : Nat} {V bud st : Int} {ms ls : List LCl} {D tr : List Int} {vc vl vd : Value} (W : World) (h : Sol w w0 b V bud st ms ls D tr vc vl vd W) (h0 : D.length = 0) :
    Calls Try.prog 56 #[.pointer (some ⟨b, 5, none⟩)] W fun e w' => e = .returned (.bool false) ∧ w' = W := by
  obtain ⟨hlt, c0, c1, c2, c3, c4, c5, hf⟩ := h.facts
  obtain ⟨ds, dk, rfl⟩ := own_v h.od
  rw [h0] at c5
  clear h hf c0 c1 c2 c3 c4
  go_enter Try.func56, Try.ntmps56
  go_wp2
  go_ret
  exact ⟨rfl, rfl⟩

theorem below_drew (W : World) : Below W.heap.size W W.drew := (Below.refl _ _).drew

set_option maxRecDepth 100000 in
set_option maxHeartbeats 1000000 in
/-- stackOf.pop. -/
theorem pop_some {w w0 : World} {b : Nat} {V bud st : Int} {ms ls : List LCl} {D tr : List Int} {vc vl vd : Value} (W : World) (h : Sol w w0 b V bud st ms ls D tr vc vl vd W) (h0 : ¬ D.length = 0) (hl : D.length ≤ 1000) :
    Calls Try.prog 56 #[.pointer (some ⟨b, 5, none⟩)] W fun e w' => e = .returned (.bool true) ∧ ∃ vd', Sol w w0 b V bud st ms ls D.dropLast tr vc vl vd' w' := by
  obtain ⟨hlt, c0, c1, c2, c3, c4, c5, hf⟩ := h.facts
  obtain ⟨ds, dk, rfl⟩ := own_v h.od
  have hk := own_cap8 h.od
  have R := Lib.hid ((h.pop rfl).below (below_drew _))
  have f5 := hf 5
  obtain ⟨m, hm⟩ : ∃ m, D.length = m + 1 := ⟨D.length - 1, by omega⟩
  rw [hm, Nat.add_sub_cancel] at R
  rw [hm] at c5 hk hl
  clear h hf c0 c1 c2 c3 c4
  go_enter Try.func56, Try.ntmps56
  go_wp2
  go_region
  go_wp2
  go_ret
  exact ⟨rfl, _, R.out⟩

set_option maxRecDepth 100000 in
set_option maxHeartbeats 1000000 in
/-- solver.spend. -/
theorem spend_some {w w0 : World} {b : Nat} {V bud st : Int} {ms ls : List LCl} {D tr : List Int} {vc vl vd : Value} (W : World) (h : Sol w w0 b V bud st ms ls D tr vc vl vd W) (h0 : ¬ st = bud) (h1 : 0 ≤ st) (h2 : st ≤ 1000) :
    Calls Try.prog 53 #[.pointer (some ⟨b, 0, none⟩)] W fun e w' => e = .returned (.tuple #[]) ∧ Sol w w0 b V bud (st + 1) ms ls D tr vc vl vd w' := by
  obtain ⟨hlt, c0, c1, c2, c3, c4, c5, hf⟩ := h.facts
  have R := Lib.hid ((h.below (below_drew W)).step (st + 1))
  have f2 := hf 2
  have h0' : (st == bud) = false := by simpa using h0
  have hw : wrap64 (st + 1) = st + 1 := wrap_in _ ⟨by omega, by omega⟩
  clear h hf c0 c3 c4 c5
  go_enter Try.func53, Try.ntmps53
  go_wp2
  go_region
  go_wp2
  go_end0
  exact ⟨rfl, R.out⟩

/-- What is thrown. -/
def thrown : List PanicEntry := [{ v := .iface 9 (.string { data := #[116, 104, 101, 32, 98, 117, 100, 103, 101, 116, 32, 105, 115, 32, 117, 115, 101, 100, 32, 117, 112] }), recovered := false }]

set_option maxRecDepth 100000 in
set_option maxHeartbeats 1000000 in
theorem spend_none {w w0 : World} {b : Nat} {V bud st : Int} {ms ls : List LCl} {D tr : List Int} {vc vl vd : Value} (W : World) (h : Sol w w0 b V bud st ms ls D tr vc vl vd W) (h0 : st = bud) :
    Calls Try.prog 53 #[.pointer (some ⟨b, 0, none⟩)] W fun e w' => e = .panicked thrown ∧ Sol w w0 b V bud st ms ls D tr vc vl vd w' := by
  obtain ⟨hlt, c0, c1, c2, c3, c4, c5, hf⟩ := h.facts
  have R := Lib.hid (h.below (below_drew W))
  subst h0
  clear h hf c0 c3 c4 c5
  go_enter Try.func53, Try.ntmps53
  go_wp2
  go_region
  go_wp2
  exact ⟨rfl, rfl, R.out⟩

theorem cells5 {W : World} {b : Nat} {v0 v1 v2 v3 v4 : Value} {t : TypeId} (h : W.heap[b]? = some (.cells #[v0, v1, v2, v3, v4] t)) : W.cell? ⟨b, 0, none⟩ = some v0 ∧ W.cell? ⟨b, 1, none⟩ = some v1 ∧ W.cell? ⟨b, 2, none⟩ = some v2 ∧ W.cell? ⟨b, 3, none⟩ = some v3 ∧ W.cell? ⟨b, 4, none⟩ = some v4 := by
  refine ⟨?_, ?_, ?_, ?_, ?_⟩ <;> simp [World.cell?, h]

set_option maxRecDepth 100000 in
set_option maxHeartbeats 1000000 in
/-- solver.told. -/
theorem told_any {w w0 : World} {b : Nat} {V bud st : Int} {ms ls : List LCl} {D tr : List Int} {vc vl vd : Value} (x : Int) (W : World) (h : Sol w w0 b V bud st ms ls D tr vc vl vd W) :
    Calls Try.prog 32 #[.pointer (some ⟨b, 0, none⟩), .int .i64 x] W fun e w' => e = .returned (.agg #[.int .i64 x, .slice none 0 0, vl, .int .i64 st, .int .i64 0]) ∧ Below W.heap.size W w' := by
  have HA := h.below (bA0 W (.cells #[.int .i64 0, .slice none 0 0, .slice none 0 0, .int .i64 0, .int .i64 0] 30))
  obtain ⟨hlt, c0, c1, c2, c3, c4, c5, hf⟩ := HA.facts
  obtain ⟨ls', lk, rfl⟩ := h.ol.v
  have hne : b ≠ W.heap.size := by have := h.facts.1; omega
  have hb := h.facts.1
  clear h hf c0 c1 c3 c5 HA
  go_enter Try.func32, Try.ntmps32
  go_wp2
  go_region
  go_wp2
  have nw := new_at W (.cells #[.int .i64 x, .slice none 0 0, .slice ls' ls.length lk, .int .i64 st, .int .i64 0] 30)
  have BB := Lib.hid ((bA0 W (.cells #[.int .i64 x, .slice none 0 0, .slice ls' ls.length lk, .int .i64 st, .int .i64 0] 30)).drew)
  generalize W.alloc (.cells #[.int .i64 x, .slice none 0 0, .slice ls' ls.length lk, .int .i64 st, .int .i64 0] 30) = W1 at *
  obtain ⟨e0, e1, e2, e3, e4⟩ := cells5 nw
  exact bodyPost_ret (v := .agg #[.int .i64 x, .slice none 0 0, .slice ls' ls.length lk, .int .i64 st, .int .i64 0]) (by simp [results, Try.results32, go_sem, e0, e1, e2, e3, e4]) rfl ⟨rfl, BB.out⟩

theorem own_ne {W : World} {B : Nat} {s : Option Addr} {n k : Nat} {D : List Int} {b : Nat} {us : Array Value} (h : W.ownsRow B 2 1 (.slice s n k) D.length (valsZ D)) (hx : W.heap[b]? = some (.cells us 63)) : D = [] ∨ ∃ c o, s = some ⟨c, o, none⟩ ∧ IntsAt W c o D ∧ c ≠ b := by
  obtain ⟨s', k', e, hi⟩ := own_ints h
  cases e
  rcases hi with hi | ⟨c, o, rfl, hi⟩
  · exact .inl hi
  · by_cases hD : D = []
    · exact .inl hD
    · refine .inr ⟨c, o, rfl, hi, fun e => ?_⟩
      subst e
      obtain ⟨cur, hc⟩ := own_kind h (j := c) (by
        rcases h.2 with ⟨_, h0⟩ | ⟨g, cap, cur, hv, _⟩
        · exact absurd (List.eq_nil_of_length_eq_zero h0) hD
        · cases hv; rfl)
      rw [hx] at hc
      cases hc
theorem Sol.cls {w w0 : World} {b : Nat} {V bud st : Int} {ms ls : List LCl} {D tr : List Int} {vc vl vd : Value} {W : World} (h : Sol w w0 b V bud st ms ls D tr vc vl vd W) (hms : ∀ r ∈ ms, ClIn w r ∨ r ∈ ls) {s : Option Addr} {k : Nat} (e : vc = .slice s ms.length k) (W' : World) (ho : Only b W W') : Cls W' s ms := by
  have hB := Only.below h.bl h.hb ho
  have r1 := own_only h.rc ho h.blk.2 (by decide)
  have r2 := owc_only h.ol ho h.blk.2 (by decide) (by decide)
  obtain ⟨s2, k2, _, hc⟩ := r2.cls
  rw [e, hdC_len] at r1
  refine cls_own r1 (fun r hr => ?_)
  rcases hms r hr with h1 | h1
  · exact h1.below hB
  · exact hc.each r h1

set_option maxRecDepth 100000 in
set_option maxHeartbeats 4000000 in
/-- solver.conflict. -/
theorem conf_any {w w0 : World} {b : Nat} {V : Nat} {bud st : Int} {ms ls : List LCl} {D tr : List Int} {vc vl vd : Value} (W : World) (h : Sol w w0 b V bud st ms ls D tr vc vl vd W) (hms : ∀ r ∈ ms, ClIn w r ∨ r ∈ ls) (hV : V ≤ 96) (hs : SpTo (V : Int) D D.length) (hw : ∀ r ∈ ms, ∀ z ∈ r.2, OkZ (V : Int) z) (hn : ms.length ≤ 100000) :
    Calls Try.prog 54 #[.pointer (some ⟨b, 0, none⟩)] W fun e w' => e = .returned (.bool (!((resF (bareC ms) (97 - D.length) D).2 == -1))) ∧ Sol w w0 b V bud st ms ls D (resF (bareC ms) (97 - D.length) D).1 vc vl vd w' := by
  have hl := hs.short (by omega : (V : Int) ≤ 96)
  obtain ⟨ds, dk, rfl⟩ := own_v h.od
  obtain ⟨cv, ck, ec⟩ := own_v h.rc
  rw [hdC_len] at ec
  subst ec
  have HD := h.below (below_drew W)
  have C1 := Lib.hid (take_any b (V : Int) ds dk D W.drew HD.blk.blk (by omega) (by omega) (by unfold maxLen; omega) (own_ne HD.od HD.blk.2))
  have C2 := Lib.hid (show ∀ W', Sol w w0 b V bud st ms ls D D (.slice cv ms.length ck) vl (.slice ds D.length dk) W' → Calls Try.prog 72 #[.pointer (some ⟨b, 6, none⟩), .slice cv ms.length ck] W' fun e w' => ∃ v fl, e = .returned (.tuple #[v, .int .i64 (resF (bareC ms) (97 - D.length) D).2]) ∧ D ++ fl = (resF (bareC ms) (97 - D.length) D).1 ∧ w'.ownsRow W'.heap.size 2 1 v fl.length (valsZ fl) ∧ Only b W' w' ∧ VAt (SF V bud st (.slice cv ms.length ck) vl (.slice ds D.length dk)) w' b (resF (bareC ms) (97 - D.length) D).1 from fun W' h' => fol_any b (V : Int) D cv ck ms W' h'.blk (by omega) hs (by omega) hw (h'.cls hms rfl))
  obtain ⟨hlt, c0, c1, c2, c3, c4, c5, hf⟩ := h.facts
  have HS := Lib.hid hs
  have HH := Lib.hid HD
  have SFX := Lib.hid (show ∀ W', Sol w w0 b V bud st ms ls D D (.slice cv ms.length ck) vl (.slice ds D.length dk) W' → b < W'.heap.size ∧ W'.cell? ⟨b, 3, none⟩ = some (.slice cv ms.length ck) from fun W' h' => ⟨h'.facts.1, h'.facts.2.2.2.2.1⟩)
  clear h HD hms hw hs c1 c2 c3 c4 hf hn
  generalize resF (bareC ms) (97 - D.length) D = R at *
  generalize hDn : D.length = dn at *
  clear hDn
  generalize ms.length = mn at *
  go_enter Try.func54, Try.ntmps54
  go_wp2
  go_region_with (go_at_call 71; refine C1.out.mono ?_; rintro e w1 ⟨rfl, hv1, ho1, hz1⟩)
  all_goals
    have S1 := Lib.hid (HH.out.vals ho1 (hv1 HS.out))
    obtain ⟨l1, d3⟩ := SFX.out _ S1.out
    have S1d := Lib.hid (S1.out.below (below_drew w1))
    clear hv1 ho1 hz1
    go_wp2
    go_region_with (go_at_call 72; refine (C2.out _ S1d.out).mono ?_; rintro e w2 ⟨v, fl, rfl, hfl, ow, ho2, hv2⟩; have S2 := Lib.hid (S1d.out.vals ho2 hv2); obtain ⟨vs, vk, rfl⟩ := own_v ow; clear ho2 hv2 ow hfl)
    go_wp2
    go_ret
    exact ⟨rfl, S2.out⟩

set_option maxRecDepth 100000 in
set_option maxHeartbeats 4000000 in
/-- solver.learn. -/
theorem learn_any {w w0 : World} {b : Nat} {V bud st : Int} {ms ls : List LCl} {D tr : List Int} {vc vl vd : Value} (W : World) (h : Sol w w0 b V bud st ms ls D tr vc vl vd W) (hD : D.length ≤ 96) (hw : ∀ z ∈ D, -96 ≤ z ∧ z ≤ 96) (hl : ls.length ≤ 1000) (hm : ms.length ≤ 90000) :
    Calls Try.prog 55 #[.pointer (some ⟨b, 0, none⟩)] W fun e w' => e = .returned (.tuple #[]) ∧ ∃ (u vc' vl' : Value), Sol w w0 b V bud st (ms ++ [(u, negL D)]) (ls ++ [(u, negL D)]) D tr vc' vl' vd w' := by
  obtain ⟨ds, dk, rfl⟩ := own_v h.od
  obtain ⟨ds', dk', e', hi⟩ := own_ints h.od
  cases e'
  have C1 := Lib.hid (tu_any ds dk D W hD hw hi)
  obtain ⟨hlt, c0, c1, c2, c3, c4, c5, hf⟩ := h.facts
  have HH := Lib.hid h
  obtain ⟨lv, lk, rfl⟩ := h.ol.v
  obtain ⟨cv, ck, ec⟩ := own_v h.rc
  subst ec
  have KEY := Lib.hid (show ∀ w1, w1.ownsRow W.heap.size 2 1 (.slice (some ⟨W.heap.size, 0, none⟩) D.length D.length) (negL D).length (valsZ (negL D)) → Below W.heap.size W w1 →
      ∃ (s9 : Option Addr) (k9 : Nat) (w9 : World) (s8 : Option Addr) (k8 : Nat) (w8 : World), (Builtin.append_ #[23, 23] 23 #[.slice lv ls.length lk, .slice (some ⟨w1.heap.size, 0, none⟩) 1 1]).run Try.prog (w1.alloc (.cells #[.slice (some ⟨W.heap.size, 0, none⟩) D.length D.length] 28)) = .ok (.slice s9 (ls.length + 1) k9) w9 ∧ (b < w1.heap.size ∧ w1.cell? ⟨b, 4, none⟩ = some (.slice lv ls.length lk) ∧ b < w9.heap.size ∧ w9.cell? ⟨b, 4, none⟩ = some (.slice lv ls.length lk) ∧ w9.cell? ⟨b, 3, none⟩ = some (.slice cv (hdC ms).length ck) ∧ w9.frozen? ⟨b, 4, none⟩ = false) ∧
        (Builtin.append_ #[56, 56] 56 #[.slice cv (hdC ms).length ck, .slice (some ⟨w9.heap.size, 0, none⟩) 1 1]).run Try.prog ((w9.setCell ⟨b, 4, none⟩ (.slice s9 (ls.length + 1) k9)).alloc (.cells #[.slice (some ⟨W.heap.size, 0, none⟩) D.length D.length] 121)) = .ok (.slice s8 ((hdC ms).length + 1) k8) w8 ∧ (b < w8.heap.size ∧ w8.cell? ⟨b, 3, none⟩ = some (.slice cv (hdC ms).length ck) ∧ w8.frozen? ⟨b, 3, none⟩ = false) ∧
        Sol w w0 b V bud st (ms ++ [(.slice (some ⟨W.heap.size, 0, none⟩) D.length D.length, negL D)]) (ls ++ [(.slice (some ⟨W.heap.size, 0, none⟩) D.length D.length, negL D)]) D tr (.slice s8 ((hdC ms).length + 1) k8) (.slice s9 (ls.length + 1) k9) (.slice ds D.length dk) (w8.setCell ⟨b, 3, none⟩ (.slice s8 ((hdC ms).length + 1) k8)) from fun w1 ow b1 => by
    have hBs := HH.out.bl.size
    have H1 := HH.out.below b1
    have H2 := H1.below (bA0 w1 (.cells #[.slice (some ⟨W.heap.size, 0, none⟩) D.length D.length] 28))
    have hz2 : (w1.alloc (.cells #[.slice (some ⟨W.heap.size, 0, none⟩) D.length D.length] 28)).heap.size = w1.heap.size + 1 := by simp
    have hz1 := b1.size
    have or2 := H2.ol.row
    rw [← hdC_len ls] at or2
    obtain ⟨v9, w9, ha9, ow9, gr9⟩ := appH or2 (.slice (some ⟨W.heap.size, 0, none⟩) D.length D.length) rfl w1.heap.size (cell_at_new w1 _ 28) (by omega) (by rw [hdC_len]; omega)
    obtain ⟨s9, k9, rfl⟩ := own_v ow9
    rw [hdC_len] at ow9 ha9 gr9
    have bk9 := H2.slot H2.ol.row (by decide) gr9
    have rr : (w1.alloc (.cells #[.slice (some ⟨W.heap.size, 0, none⟩) D.length D.length] 28)).ownsRow w.heap.size 2 1 (.slice (some ⟨W.heap.size, 0, none⟩) D.length D.length) (negL D).length (valsZ (negL D)) := own_mono (own_below ow (bA0 _ _)) (by omega)
    have S9 := H2.lemma (r := (.slice (some ⟨W.heap.size, 0, none⟩) D.length D.length, negL D)) rr (fun j hj => by
      have hj' : j = W.heap.size := by
        have := (ow.lt j hj).1
        cases hj
        rfl
      subst hj'
      refine ⟨fun s hs e => ?_, fun e => ?_⟩
      · have := ((HH.out.ol.each s hs).lt _ e).2
        omega
      · have := (HH.out.od.lt _ e).2
        omega) gr9 ow9
    have hz9 : ((w9.setCell ⟨b, 4, none⟩ (.slice s9 (ls.length + 1) k9)).alloc (.cells #[.slice (some ⟨W.heap.size, 0, none⟩) D.length D.length] 121)).heap.size = w9.heap.size + 1 := by simp
    have hg9 := gr9.size
    have H8 := S9.below (bA0 _ (.cells #[.slice (some ⟨W.heap.size, 0, none⟩) D.length D.length] 121))
    have cn := cell_at_new (w9.setCell ⟨b, 4, none⟩ (.slice s9 (ls.length + 1) k9)) (.slice (some ⟨W.heap.size, 0, none⟩) D.length D.length) 121
    rw [show (w9.setCell ⟨b, 4, none⟩ (.slice s9 (ls.length + 1) k9)).heap.size = w9.heap.size by simp] at cn
    obtain ⟨v8, w8, ha8, ow8, gr8⟩ := appK H8.rc (.slice (some ⟨W.heap.size, 0, none⟩) D.length D.length) rfl w9.heap.size cn (by omega) (by rw [hdC_len]; omega)
    obtain ⟨s8, k8, rfl⟩ := own_v ow8
    have bk8 := H8.slot H8.rc (by decide) gr8
    have S8 := H8.clause (r := (.slice (some ⟨W.heap.size, 0, none⟩) D.length D.length, negL D)) gr8 ow8
    exact ⟨s9, k9, w9, s8, k8, w8, ha9 23, ⟨H1.facts.1, H1.facts.2.2.2.2.2.1, bk9.lt, bk9.fld 4 (by omega), bk9.fld 3 (by omega), bk9.frozen 4⟩, ha8 56, ⟨bk8.lt, bk8.fld 3 (by omega), bk8.frozen 3⟩, S8⟩)
  clear h hf c0 c1 c2 c3 c4 hi hw HH
  generalize D.length = dn at *
  generalize ls.length = ln at *
  generalize (hdC ms).length = mn at *
  go_enter Try.func55, Try.ntmps55
  go_wp2_with fail
  refine C1.out.mono ?_
  rintro e w1 ⟨rfl, ow, b1⟩
  obtain ⟨s9, k9, w9, s8, k8, w8, ha9, ⟨l1, q4, l9, p4, p3, f4⟩, ha8, ⟨l8, r3, f3⟩, S8⟩ := KEY.out w1 ow b1
  have FIN := Lib.hid S8
  clear KEY S8 ow b1 C1
  go_wp2_with (first | (at_builtin; refine Lib.wpList_append_run _ rfl _ _ _ _ rfl _ _ rfl rfl _ _ ha9 ?_) | (at_builtin; refine Lib.wpList_append_run _ rfl _ _ _ _ rfl _ _ rfl rfl _ _ ha8 ?_))
  go_end0
  exact ⟨rfl, _, _, _, FIN.out⟩
end Go.Proofs.Ytdmnnclbcljdmaa
