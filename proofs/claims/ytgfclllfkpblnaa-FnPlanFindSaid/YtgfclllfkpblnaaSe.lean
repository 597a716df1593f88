/-
  A TABLE BEING DRAWN: its variable, its rows of stations and pairs, the rows of its domains, beside the source.
-/
import Derived.Test.YtgfclllfkpblnaaSd
import Derived.Test.YtgfclllfkpblnaaAf
namespace Go.Proofs.Ytgfclllfkpblnaa
open Go.RowKit
set_option linter.unusedVariables false

def stC (rs : List LSt) : List Value := rs.flatMap fun r => [.int .i64 r.1, .int .i64 r.2.1, r.2.2.1]
def prC (ps : List LPr) : List Value := ps.flatMap fun p => [.int .i64 p.1, .int .i64 p.2.1, .int .i64 p.2.2]
theorem stC_add (rs : List LSt) (r : LSt) : stC (rs ++ [r]) = stC rs ++ [.int .i64 r.1, .int .i64 r.2.1, r.2.2.1] := by simp [stC]
theorem prC_add (ps : List LPr) (p : LPr) : prC (ps ++ [p]) = prC ps ++ [.int .i64 p.1, .int .i64 p.2.1, .int .i64 p.2.2] := by simp [prC]
theorem flat3_at {α : Type} (f : α → Value × Value × Value) (l : List α) (i : Nat) (h : i < l.length) :
    (l.flatMap fun a => [(f a).1, (f a).2.1, (f a).2.2])[i * 3]? = some (f l[i]).1 ∧ (l.flatMap fun a => [(f a).1, (f a).2.1, (f a).2.2])[i * 3 + 1]? = some (f l[i]).2.1 ∧ (l.flatMap fun a => [(f a).1, (f a).2.1, (f a).2.2])[i * 3 + 2]? = some (f l[i]).2.2 := by
  induction l generalizing i with
  | nil => simp at h
  | cons a t ih =>
    rw [List.flatMap_cons]
    cases i with
    | zero => simp
    | succ i =>
      have h' : i < t.length := by simpa using h
      have := ih i h'
      have e : ∀ j, ([(f a).1, (f a).2.1, (f a).2.2] ++ t.flatMap fun a => [(f a).1, (f a).2.1, (f a).2.2])[j + 3]? = (t.flatMap fun a => [(f a).1, (f a).2.1, (f a).2.2])[j]? := fun j => by
        rw [List.getElem?_append_right (by simp)]; simp
      rw [show (i + 1) * 3 = i * 3 + 3 by omega, show i * 3 + 3 + 1 = (i * 3 + 1) + 3 by omega, show i * 3 + 3 + 2 = (i * 3 + 2) + 3 by omega, e, e, e]
      simpa using this

/-- What is owned stays, where its block does. -/
theorem own_keep {C : Nat} {e : TypeId} {m : Nat} {v : Value} {n : Nat} {xs : List Value} {w w' : World} (h : w.ownsRow C e m v n xs) (hk : ∀ j, v.ownBlock = some j → w'.heap[j]? = w.heap[j]?) : w'.ownsRow C e m v n xs := by
  refine ⟨h.1, ?_⟩
  rcases h.2 with h | ⟨g, cap, cur, hv, hg, hh, r⟩
  · exact .inl h
  · exact .inr ⟨g, cap, cur, hv, hg, (hk g (by rw [hv]; rfl)).trans hh, r⟩
theorem own_type {C : Nat} {e : TypeId} {m : Nat} {v : Value} {n : Nat} {xs : List Value} {w : World} (h : w.ownsRow C e m v n xs) {j : Nat} (hj : v.ownBlock = some j) : ∃ cur, w.heap[j]? = some (.cells cur e (0, 0)) := by
  rcases h.2 with ⟨rfl, _⟩ | ⟨g, cap, cur, rfl, _, hh, _⟩
  · cases hj
  · cases hj; exact ⟨cur, hh⟩
theorem own_base {C : Nat} {e : TypeId} {m : Nat} {v : Value} {n : Nat} {xs : List Value} {w : World} (h : w.ownsRow C e m v n xs) {j : Nat} (hj : v.ownBlock = some j) : C ≤ j := by
  rcases h.2 with ⟨rfl, _⟩ | ⟨g, cap, cur, rfl, hg, hh, _⟩
  · cases hj
  · cases hj; exact hg
theorem own_ne {C C' : Nat} {e e' : TypeId} {m m' : Nat} {v v' : Value} {n n' : Nat} {xs xs' : List Value} {w : World} (h : w.ownsRow C e m v n xs) (h' : w.ownsRow C' e' m' v' n' xs') (he : e ≠ e') {j : Nat} (hj : v.ownBlock = some j) : v'.ownBlock ≠ some j := fun hj' => by
  obtain ⟨c, hc⟩ := own_type h hj
  obtain ⟨c', hc'⟩ := own_type h' hj'
  rw [hc] at hc'
  simp at hc'
  exact he hc'.2

structure TI (w : World) (b tb : Nat) (v1 v2 : Value) (rs : List LSt) (ps : List LPr) (W : World) : Prop where
  hb : b < w.heap.size
  htb : w.heap.size < tb
  src : SrcB w.heap.size W b
  fr : Only b w W
  tab : W.heap[tb]? = some (.cells #[v1, v2] 26)
  rc : W.heap[w.heap.size]? = some (.cells #[.slice none 0 0, .slice none 0 0] 26)
  st : W.ownsRow (tb + 1) 67 3 v1 rs.length (stC rs)
  pr : W.ownsRow (tb + 1) 69 3 v2 ps.length (prC ps)
  dom : ∀ r ∈ rs, W.ownsRow (tb + 1) 2 1 r.2.2.1 r.2.2.2.length (valsZ r.2.2.2)
  ap : rs.Pairwise (fun r r' => r.2.2.1.ownBlock ≠ r'.2.2.1.ownBlock)

section
variable {w : World} {b tb : Nat} {v1 v2 : Value} {rs : List LSt} {ps : List LPr} {W W' : World}
theorem TI.lt (h : TI w b tb v1 v2 rs ps W) : tb < W.heap.size := (Array.getElem?_eq_some_iff.1 h.tab).1
theorem TI.rlt (h : TI w b tb v1 v2 rs ps W) : w.heap.size < W.heap.size := (Array.getElem?_eq_some_iff.1 h.rc).1
theorem TI.facts (h : TI w b tb v1 v2 rs ps W) : W.cell? ⟨tb, 0, none⟩ = some v1 ∧ W.cell? ⟨tb, 1, none⟩ = some v2 ∧ (∀ o, W.frozen? ⟨tb, o, none⟩ = false) ∧ tb < W.heap.size :=
  ⟨by simp [World.cell?, h.tab], by simp [World.cell?, h.tab], fun o => by simp [World.frozen?, h.tab], h.lt⟩
theorem TI.call (h : TI w b tb v1 v2 rs ps W) (hs : SrcB w.heap.size W' b) (ho : Only b W W') : TI w b tb v1 v2 rs ps W' := by
  have hb := h.hb
  have ht := h.htb
  exact ⟨h.hb, h.htb, hs, h.fr.trans ho, (ho.block tb h.lt (by omega)).trans h.tab, (ho.block _ h.rlt (by omega)).trans h.rc, own_only h.st ho (by omega), own_only h.pr ho (by omega), fun r hr => own_only (h.dom r hr) ho (by omega), h.ap⟩
theorem TI.below (h : TI w b tb v1 v2 rs ps W) (hb : Below W.heap.size W W') : TI w b tb v1 v2 rs ps W' := h.call (h.src.below hb) (Only.of_below hb)
theorem TI.alloc (h : TI w b tb v1 v2 rs ps W) (o : Obj) : TI w b tb v1 v2 rs ps (W.alloc o) := h.below (bA0 _ _)
theorem TI.drew (h : TI w b tb v1 v2 rs ps W) : TI w b tb v1 v2 rs ps W.drew := h.call ⟨h.src.1, h.src.2.1, h.src.2.2⟩ ((Only.refl _ _).drew)
/-- A row of another kind, above the table's variable, has grown or turned. -/
theorem TI.other (h : TI w b tb v1 v2 rs ps W) {row : Option Nat} (hg : W.grownBy W' row) (hr : ∀ j, row = some j → tb < j ∧ v1.ownBlock ≠ some j ∧ v2.ownBlock ≠ some j ∧ ∀ r ∈ rs, r.2.2.1.ownBlock ≠ some j) : TI w b tb v1 v2 rs ps W' := by
  have hb := h.hb
  have ht := h.htb
  have keep : ∀ k, k < W.heap.size → row ≠ some k → W'.heap[k]? = W.heap[k]? := fun k hk hne => hg.block k hk (fun e => hne e.symm)
  refine ⟨h.hb, h.htb, h.src.grown hg (fun j hj => by have := (hr j hj).1; omega), h.fr.grown hg (fun j hj => by have := (hr j hj).1; omega), (keep tb h.lt (fun e => by have := (hr tb e).1; omega)).trans h.tab, (keep _ h.rlt (fun e => by have := (hr _ e).1; omega)).trans h.rc, own_keep h.st (fun j hj => keep j ((h.st.lt j hj).2) (fun e => (hr j e).2.1 hj)), own_keep h.pr (fun j hj => keep j ((h.pr.lt j hj).2) (fun e => (hr j e).2.2.1 hj)), fun r hr' => own_keep (h.dom r hr') (fun j hj => keep j (((h.dom r hr').lt j hj).2) (fun e => (hr j e).2.2.2 r hr' hj)), h.ap⟩
theorem SrcB.set {B : Nat} {W : World} {b : Nat} (h : SrcB B W b) (c : Nat) (hc : B ≤ c) (o : Nat) (v : Value) : SrcB B (W.setCell ⟨c, o, none⟩ v) b :=
  h.kept (by simp [World.setCell]) (fun k hk => Below.heap_setCell _ _ _ _ (by show k ≠ c; omega))
theorem Only.setHigh {b : Nat} {u v : World} (h : Only b u v) (c : Nat) (hc : u.heap.size ≤ c) (o : Nat) (x : Value) : Only b u (v.setCell ⟨c, o, none⟩ x) :=
  ⟨h.os, h.tape, h.output, by simpa [World.setCell] using h.size, fun k hk hb => (Below.heap_setCell _ _ _ _ (by show k ≠ c; omega)).trans (h.block k hk hb)⟩
theorem own_setS {C : Nat} {e : TypeId} {m : Nat} {v : Value} {n : Nat} {xs : List Value} {W : World} (h : W.ownsRow C e m v n xs) (c : Nat) (hc : c < C) (o : Nat) (x : Value) : (W.setCell ⟨c, o, none⟩ x).ownsRow C e m v n xs :=
  own_keep h (fun j hj => Below.heap_setCell _ _ _ _ (by show j ≠ c; have := own_base h hj; omega))
/-- Stations with one more. -/
theorem TI.addS (h : TI w b tb v1 v2 rs ps W) {g cap : Nat} (r : LSt) (hg : W.grownBy W' v1.ownBlock) (ho : W'.ownsRow (tb + 1) 67 3 (.slice (some ⟨g, 0, none⟩) (rs.length + 1) cap) (rs.length + 1) (stC rs ++ [.int .i64 r.1, .int .i64 r.2.1, r.2.2.1])) (hd : W.ownsRow (tb + 1) 2 1 r.2.2.1 r.2.2.2.length (valsZ r.2.2.2)) (hap : ∀ r' ∈ rs, r'.2.2.1.ownBlock ≠ r.2.2.1.ownBlock) :
    TI w b tb (.slice (some ⟨g, 0, none⟩) (rs.length + 1) cap) v2 (rs ++ [r]) ps (W'.setCell ⟨tb, 0, none⟩ (.slice (some ⟨g, 0, none⟩) (rs.length + 1) cap)) := by
  have hb := h.hb
  have ht := h.htb
  have keep : ∀ k, k < W.heap.size → v1.ownBlock ≠ some k → W'.heap[k]? = W.heap[k]? := fun k hk hne => hg.block k hk (fun e => hne e.symm)
  have hlo : ∀ j, v1.ownBlock = some j → tb + 1 ≤ j := fun j hj => own_base h.st hj
  have d' : ∀ r' : LSt, W.ownsRow (tb + 1) 2 1 r'.2.2.1 r'.2.2.2.length (valsZ r'.2.2.2) → W'.ownsRow (tb + 1) 2 1 r'.2.2.1 r'.2.2.2.length (valsZ r'.2.2.2) := fun r' h' => own_keep h' (fun j hj => keep j (h'.lt j hj).2 (own_ne h' h.st (by decide) hj))
  refine ⟨h.hb, h.htb, (h.src.grown hg (fun j hj => by have := hlo j hj; omega)).set tb (by omega) 0 _, (h.fr.grown hg (fun j hj => by have := hlo j hj; omega)).setHigh tb (by omega) 0 _, ?_, (Below.heap_setCell _ _ _ _ (by show w.heap.size ≠ tb; omega)).trans ((keep _ h.rlt (fun e => by have := hlo _ e; omega)).trans h.rc), ?_, own_setS (own_keep h.pr (fun j hj => keep j (h.pr.lt j hj).2 (own_ne h.pr h.st (by decide) hj))) tb (by omega) 0 _, fun r' hr' => own_setS (d' r' ?_) tb (by omega) 0 _, ?_⟩
  · exact heap_setCell_same W' tb 0 _ 26 _ ((keep tb h.lt (fun e => by have := hlo tb e; omega)).trans h.tab)
  · rw [stC_add, List.length_append]
    exact own_setS ho tb (by omega) 0 _
  · rcases List.mem_append.1 hr' with hr' | hr'
    · exact h.dom r' hr'
    · simp at hr'; subst hr'; exact hd
  · rw [List.pairwise_append]
    exact ⟨h.ap, List.pairwise_singleton _ _, fun a ha c hc => by simp at hc; subst hc; exact hap a ha⟩
/-- Pairs with one more. -/
theorem TI.addP (h : TI w b tb v1 v2 rs ps W) {g cap : Nat} (p : LPr) (hg : W.grownBy W' v2.ownBlock) (ho : W'.ownsRow (tb + 1) 69 3 (.slice (some ⟨g, 0, none⟩) (ps.length + 1) cap) (ps.length + 1) (prC ps ++ [.int .i64 p.1, .int .i64 p.2.1, .int .i64 p.2.2])) :
    TI w b tb v1 (.slice (some ⟨g, 0, none⟩) (ps.length + 1) cap) rs (ps ++ [p]) (W'.setCell ⟨tb, 1, none⟩ (.slice (some ⟨g, 0, none⟩) (ps.length + 1) cap)) := by
  have hb := h.hb
  have ht := h.htb
  have keep : ∀ k, k < W.heap.size → v2.ownBlock ≠ some k → W'.heap[k]? = W.heap[k]? := fun k hk hne => hg.block k hk (fun e => hne e.symm)
  have hlo : ∀ j, v2.ownBlock = some j → tb + 1 ≤ j := fun j hj => own_base h.pr hj
  refine ⟨h.hb, h.htb, (h.src.grown hg (fun j hj => by have := hlo j hj; omega)).set tb (by omega) 1 _, (h.fr.grown hg (fun j hj => by have := hlo j hj; omega)).setHigh tb (by omega) 1 _, ?_, (Below.heap_setCell _ _ _ _ (by show w.heap.size ≠ tb; omega)).trans ((keep _ h.rlt (fun e => by have := hlo _ e; omega)).trans h.rc), own_setS (own_keep h.st (fun j hj => keep j (h.st.lt j hj).2 (own_ne h.st h.pr (by decide) hj))) tb (by omega) 1 _, ?_, fun r' hr' => own_setS (own_keep (h.dom r' hr') (fun j hj => keep j ((h.dom r' hr').lt j hj).2 (own_ne (h.dom r' hr') h.pr (by decide) hj))) tb (by omega) 1 _, h.ap⟩
  · exact heap_setCell_same W' tb 1 _ 26 _ ((keep tb h.lt (fun e => by have := hlo tb e; omega)).trans h.tab)
  · rw [prC_add, List.length_append]
    exact own_setS ho tb (by omega) 1 _
theorem own3_cells {C : Nat} {e : TypeId} {v : Value} {n : Nat} {xs : List Value} {W : World} (h : W.ownsRow C e 3 v n xs) (hn : 0 < n) : ∃ g cap, v = .slice (some ⟨g, 0, none⟩) n cap ∧ C ≤ g ∧ g < W.heap.size ∧ n ≤ cap ∧ ∀ j u, xs[j]? = some u → W.cell? ⟨g, j, none⟩ = some u ∧ W.frozen? ⟨g, j, none⟩ = false := by
  rcases h.2 with ⟨_, rfl⟩ | ⟨g, cap, cur, rfl, hg, hh, hc, _, _, ht⟩
  · omega
  · refine ⟨g, cap, rfl, hg, (Array.getElem?_eq_some_iff.1 hh).1, hc, fun j u hu => ?_⟩
    rw [← ht] at hu
    have hu' : cur[j]? = some u := by
      rw [List.getElem?_take] at hu
      split at hu
      · simpa using hu
      · cases hu
    exact ⟨by simp [World.cell?, hh, hu'], by simp [World.frozen?, hh]⟩
theorem stC_at (rs : List LSt) (i : Nat) (h : i < rs.length) : (stC rs)[i * 3]? = some (.int .i64 rs[i].1) ∧ (stC rs)[i * 3 + 1]? = some (.int .i64 rs[i].2.1) ∧ (stC rs)[i * 3 + 2]? = some rs[i].2.2.1 := flat3_at (fun r : LSt => (.int .i64 r.1, .int .i64 r.2.1, r.2.2.1)) rs i h
theorem prC_at (ps : List LPr) (i : Nat) (h : i < ps.length) : (prC ps)[i * 3]? = some (.int .i64 ps[i].1) ∧ (prC ps)[i * 3 + 1]? = some (.int .i64 ps[i].2.1) ∧ (prC ps)[i * 3 + 2]? = some (.int .i64 ps[i].2.2) := flat3_at (fun r : LPr => (.int .i64 r.1, .int .i64 r.2.1, .int .i64 r.2.2)) ps i h
theorem own_sts {C : Nat} {v : Value} {rs : List LSt} {W : World} (h : W.ownsRow C 67 3 v rs.length (stC rs)) : ∃ sl cap, v = .slice sl rs.length cap ∧ (rs = [] ∨ ∃ c o, sl = some ⟨c, o, none⟩ ∧ StAt W c o rs) := by
  by_cases hn : 0 < rs.length
  · obtain ⟨g, cap, e, _, hl, _, hc⟩ := own3_cells h hn
    refine ⟨_, cap, e, .inr ⟨g, 0, rfl, hl, fun i hi => ?_⟩⟩
    obtain ⟨a, b, c⟩ := stC_at rs i hi
    exact ⟨by simpa using (hc _ _ a).1, by simpa using (hc _ _ b).1, by simpa using (hc _ _ c).1⟩
  · have e : rs = [] := by cases rs; rfl; simp at hn
    subst e
    obtain ⟨sl, cap, hv⟩ := own_v h
    exact ⟨sl, cap, hv, .inl rfl⟩
theorem own_prs {C : Nat} {v : Value} {rs : List LPr} {W : World} (h : W.ownsRow C 69 3 v rs.length (prC rs)) : ∃ sl cap, v = .slice sl rs.length cap ∧ Prs W sl rs := by
  by_cases hn : 0 < rs.length
  · obtain ⟨g, cap, e, _, hl, _, hc⟩ := own3_cells h hn
    refine ⟨_, cap, e, .inr ⟨g, 0, rfl, hl, fun i hi => ?_⟩⟩
    obtain ⟨a, b, c⟩ := prC_at rs i hi
    exact ⟨by simpa using (hc _ _ a).1, by simpa using (hc _ _ b).1, by simpa using (hc _ _ c).1⟩
  · have e : rs = [] := by cases rs; rfl; simp at hn
    subst e
    obtain ⟨sl, cap, hv⟩ := own_v h
    exact ⟨sl, cap, hv, .inl rfl⟩
end

end Go.Proofs.Ytgfclllfkpblnaa
