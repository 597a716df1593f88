/-
  A TABLE BEING DRAWN: its variable, its rows of stations and pairs, the rows of its domains, beside the source.
  PLANS: lists of places, and their Ids as both sides gather them.
  A TOP AND IDS, DRAWN: l05Top, l05Ids.
  DERIVED: THE SHELF's CONTRACTS AT THIS DUMP, IN PLAIN WORDS (tools/lay-plain.mjs out of 'YtdmfljejlhlbnaaShelf.lean', which tools/lay-shelf.mjs wrote): THE SAME DECLARATIONS UNDER THE SAME NAMES: 'import', 'namespace', 'open', 'def', 'theorem' AND NOTHING ELSE: no command of the shelf's: FOR A HAND-IN. Each laying: the table of numbers ('.._ren') and one theorem, a field a fact of the dump's own or the kernel's comparison; each contract: ONE APPLICATION.
  TWO STATIONS OF A PAIR HELD AGAINST OTHER TWO; a list of such is sorted.
-/
import Derived.Test.YtdmfljejlhlbnaaJac
import Derived.Ground.SlsfProg
import Derived.Shelf.SlSortCmp.WholeK
import Derived.Shelf.SlSortCmp.NoneTotal
import Derived.Test.YtdmfljejlhlbnaaProg
import Derived.Deep.RegionHeldLaw
namespace Go.Proofs.Ytdmfljejlhlbnaa
open Go.RowKit
set_option linter.unusedVariables false

def stC (rs : List LSt) : List Value := rs.flatMap fun r => [.int .i64 r.1, .int .i64 r.2.1, r.2.2.1]
def prC (ps : List LPr) : List Value := ps.flatMap fun p => [.int .i64 p.1, .int .i64 p.2.1, .int .i64 p.2.2]
theorem stC_add (rs : List LSt) (r : LSt) : stC (rs ++ [r]) = stC rs ++ [.int .i64 r.1, .int .i64 r.2.1, r.2.2.1] := by simp [stC]
theorem prC_add (ps : List LPr) (p : LPr) : prC (ps ++ [p]) = prC ps ++ [.int .i64 p.1, .int .i64 p.2.1, .int .i64 p.2.2] := by simp [prC]
theorem flat3_at {α : Type} (f : α → Value × Value × Value) (l : List α) (i : Nat) (h : i < l.length) :
    (l.flatMap fun a => [(f a).1, (f a).2.1, (f a).2.2])[i * 3]? = some (f l[i]).1 ∧ (l.flatMap fun a => [(f a).1, (f a).2.1, (f a).2.2])[i * 3 + 1]? = some (f l[i]).2.1 ∧ (l.flatMap fun a => [(f a).1, (f a).2.1, (f a).2.2])[i * 3 + 2]? = some (f l[i]).2.2 := by
  induction l generalizing i with
  | nil => simp at h
  | cons a t ih =>
    rw [List.flatMap_cons]
    cases i with
    | zero => simp
    | succ i =>
      have h' : i < t.length := by simpa using h
      have := ih i h'
      have e : ∀ j, ([(f a).1, (f a).2.1, (f a).2.2] ++ t.flatMap fun a => [(f a).1, (f a).2.1, (f a).2.2])[j + 3]? = (t.flatMap fun a => [(f a).1, (f a).2.1, (f a).2.2])[j]? := fun j => by
        rw [List.getElem?_append_right (by simp)]; simp
      rw [show (i + 1) * 3 = i * 3 + 3 by omega, show i * 3 + 3 + 1 = (i * 3 + 1) + 3 by omega, show i * 3 + 3 + 2 = (i * 3 + 2) + 3 by omega, e, e, e]
      simpa using this

/-- What is owned stays, where its block does. -/
theorem own_keep {C : Nat} {e : TypeId} {m : Nat} {v : Value} {n : Nat} {xs : List Value} {w w' : World} (h : w.ownsRow C e m v n xs) (hk : ∀ j, v.ownBlock = some j → w'.heap[j]? = w.heap[j]?) : w'.ownsRow C e m v n xs := by
  refine ⟨h.1, ?_⟩
  rcases h.2 with h | ⟨g, cap, cur, hv, hg, hh, r⟩
  · exact .inl h
  · exact .inr ⟨g, cap, cur, hv, hg, (hk g (by rw [hv]; rfl)).trans hh, r⟩
theorem own_type {C : Nat} {e : TypeId} {m : Nat} {v : Value} {n : Nat} {xs : List Value} {w : World} (h : w.ownsRow C e m v n xs) {j : Nat} (hj : v.ownBlock = some j) : ∃ cur, w.heap[j]? = some (.cells cur e (0, 0)) := by
  rcases h.2 with ⟨rfl, _⟩ | ⟨g, cap, cur, rfl, _, hh, _⟩
  · cases hj
  · cases hj; exact ⟨cur, hh⟩
theorem own_base {C : Nat} {e : TypeId} {m : Nat} {v : Value} {n : Nat} {xs : List Value} {w : World} (h : w.ownsRow C e m v n xs) {j : Nat} (hj : v.ownBlock = some j) : C ≤ j := by
  rcases h.2 with ⟨rfl, _⟩ | ⟨g, cap, cur, rfl, hg, hh, _⟩
  · cases hj
  · cases hj; exact hg
theorem own_ne {C C' : Nat} {e e' : TypeId} {m m' : Nat} {v v' : Value} {n n' : Nat} {xs xs' : List Value} {w : World} (h : w.ownsRow C e m v n xs) (h' : w.ownsRow C' e' m' v' n' xs') (he : e ≠ e') {j : Nat} (hj : v.ownBlock = some j) : v'.ownBlock ≠ some j := fun hj' => by
  obtain ⟨c, hc⟩ := own_type h hj
  obtain ⟨c', hc'⟩ := own_type h' hj'
  rw [hc] at hc'
  simp at hc'
  exact he hc'.2

structure TI (w : World) (b tb : Nat) (v1 v2 : Value) (rs : List LSt) (ps : List LPr) (W : World) : Prop where
  hb : b < w.heap.size
  htb : w.heap.size < tb
  src : SrcB w.heap.size W b
  fr : Only b w W
  tab : W.heap[tb]? = some (.cells #[v1, v2] 26)
  rc : W.heap[w.heap.size]? = some (.cells #[.slice none 0 0, .slice none 0 0] 26)
  st : W.ownsRow (tb + 1) 93 3 v1 rs.length (stC rs)
  pr : W.ownsRow (tb + 1) 112 3 v2 ps.length (prC ps)
  dom : ∀ r ∈ rs, W.ownsRow (tb + 1) 2 1 r.2.2.1 r.2.2.2.length (valsZ r.2.2.2)
  ap : rs.Pairwise (fun r r' => r.2.2.1.ownBlock ≠ r'.2.2.1.ownBlock)

section
variable {w : World} {b tb : Nat} {v1 v2 : Value} {rs : List LSt} {ps : List LPr} {W W' : World}
theorem TI.lt (h : TI w b tb v1 v2 rs ps W) : tb < W.heap.size := (Array.getElem?_eq_some_iff.1 h.tab).1
theorem TI.rlt (h : TI w b tb v1 v2 rs ps W) : w.heap.size < W.heap.size := (Array.getElem?_eq_some_iff.1 h.rc).1
theorem TI.facts (h : TI w b tb v1 v2 rs ps W) : W.cell? ⟨tb, 0, none⟩ = some v1 ∧ W.cell? ⟨tb, 1, none⟩ = some v2 ∧ (∀ o, W.frozen? ⟨tb, o, none⟩ = false) ∧ tb < W.heap.size :=
  ⟨by simp [World.cell?, h.tab], by simp [World.cell?, h.tab], fun o => by simp [World.frozen?, h.tab], h.lt⟩
theorem TI.call (h : TI w b tb v1 v2 rs ps W) (hs : SrcB w.heap.size W' b) (ho : Only b W W') : TI w b tb v1 v2 rs ps W' := by
  have hb := h.hb
  have ht := h.htb
  exact ⟨h.hb, h.htb, hs, h.fr.trans ho, (ho.block tb h.lt (by omega)).trans h.tab, (ho.block _ h.rlt (by omega)).trans h.rc, own_only h.st ho (by omega), own_only h.pr ho (by omega), fun r hr => own_only (h.dom r hr) ho (by omega), h.ap⟩
theorem TI.below (h : TI w b tb v1 v2 rs ps W) (hb : Below W.heap.size W W') : TI w b tb v1 v2 rs ps W' := h.call (h.src.below hb) (Only.of_below hb)
theorem TI.alloc (h : TI w b tb v1 v2 rs ps W) (o : Obj) : TI w b tb v1 v2 rs ps (W.alloc o) := h.below (bA0 _ _)
theorem TI.drew (h : TI w b tb v1 v2 rs ps W) : TI w b tb v1 v2 rs ps W.drew := h.call ⟨h.src.1, h.src.2.1, h.src.2.2⟩ ((Only.refl _ _).drew)
/-- A row of another kind, above the table's variable, has grown or turned. -/
theorem TI.other (h : TI w b tb v1 v2 rs ps W) {row : Option Nat} (hg : W.grownBy W' row) (hr : ∀ j, row = some j → tb < j ∧ v1.ownBlock ≠ some j ∧ v2.ownBlock ≠ some j ∧ ∀ r ∈ rs, r.2.2.1.ownBlock ≠ some j) : TI w b tb v1 v2 rs ps W' := by
  have hb := h.hb
  have ht := h.htb
  have keep : ∀ k, k < W.heap.size → row ≠ some k → W'.heap[k]? = W.heap[k]? := fun k hk hne => hg.block k hk (fun e => hne e.symm)
  refine ⟨h.hb, h.htb, h.src.grown hg (fun j hj => by have := (hr j hj).1; omega), h.fr.grown hg (fun j hj => by have := (hr j hj).1; omega), (keep tb h.lt (fun e => by have := (hr tb e).1; omega)).trans h.tab, (keep _ h.rlt (fun e => by have := (hr _ e).1; omega)).trans h.rc, own_keep h.st (fun j hj => keep j ((h.st.lt j hj).2) (fun e => (hr j e).2.1 hj)), own_keep h.pr (fun j hj => keep j ((h.pr.lt j hj).2) (fun e => (hr j e).2.2.1 hj)), fun r hr' => own_keep (h.dom r hr') (fun j hj => keep j (((h.dom r hr').lt j hj).2) (fun e => (hr j e).2.2.2 r hr' hj)), h.ap⟩
theorem SrcB.set {B : Nat} {W : World} {b : Nat} (h : SrcB B W b) (c : Nat) (hc : B ≤ c) (o : Nat) (v : Value) : SrcB B (W.setCell ⟨c, o, none⟩ v) b :=
  h.kept (by simp [World.setCell]) (fun k hk => Below.heap_setCell _ _ _ _ (by show k ≠ c; omega))
theorem Only.setHigh {b : Nat} {u v : World} (h : Only b u v) (c : Nat) (hc : u.heap.size ≤ c) (o : Nat) (x : Value) : Only b u (v.setCell ⟨c, o, none⟩ x) :=
  ⟨h.os, h.tape, h.output, by simpa [World.setCell] using h.size, fun k hk hb => (Below.heap_setCell _ _ _ _ (by show k ≠ c; omega)).trans (h.block k hk hb)⟩
theorem own_setS {C : Nat} {e : TypeId} {m : Nat} {v : Value} {n : Nat} {xs : List Value} {W : World} (h : W.ownsRow C e m v n xs) (c : Nat) (hc : c < C) (o : Nat) (x : Value) : (W.setCell ⟨c, o, none⟩ x).ownsRow C e m v n xs :=
  own_keep h (fun j hj => Below.heap_setCell _ _ _ _ (by show j ≠ c; have := own_base h hj; omega))
/-- Stations with one more. -/
theorem TI.addS (h : TI w b tb v1 v2 rs ps W) {g cap : Nat} (r : LSt) (hg : W.grownBy W' v1.ownBlock) (ho : W'.ownsRow (tb + 1) 93 3 (.slice (some ⟨g, 0, none⟩) (rs.length + 1) cap) (rs.length + 1) (stC rs ++ [.int .i64 r.1, .int .i64 r.2.1, r.2.2.1])) (hd : W.ownsRow (tb + 1) 2 1 r.2.2.1 r.2.2.2.length (valsZ r.2.2.2)) (hap : ∀ r' ∈ rs, r'.2.2.1.ownBlock ≠ r.2.2.1.ownBlock) :
    TI w b tb (.slice (some ⟨g, 0, none⟩) (rs.length + 1) cap) v2 (rs ++ [r]) ps (W'.setCell ⟨tb, 0, none⟩ (.slice (some ⟨g, 0, none⟩) (rs.length + 1) cap)) := by
  have hb := h.hb
  have ht := h.htb
  have keep : ∀ k, k < W.heap.size → v1.ownBlock ≠ some k → W'.heap[k]? = W.heap[k]? := fun k hk hne => hg.block k hk (fun e => hne e.symm)
  have hlo : ∀ j, v1.ownBlock = some j → tb + 1 ≤ j := fun j hj => own_base h.st hj
  have d' : ∀ r' : LSt, W.ownsRow (tb + 1) 2 1 r'.2.2.1 r'.2.2.2.length (valsZ r'.2.2.2) → W'.ownsRow (tb + 1) 2 1 r'.2.2.1 r'.2.2.2.length (valsZ r'.2.2.2) := fun r' h' => own_keep h' (fun j hj => keep j (h'.lt j hj).2 (own_ne h' h.st (by decide) hj))
  refine ⟨h.hb, h.htb, (h.src.grown hg (fun j hj => by have := hlo j hj; omega)).set tb (by omega) 0 _, (h.fr.grown hg (fun j hj => by have := hlo j hj; omega)).setHigh tb (by omega) 0 _, ?_, (Below.heap_setCell _ _ _ _ (by show w.heap.size ≠ tb; omega)).trans ((keep _ h.rlt (fun e => by have := hlo _ e; omega)).trans h.rc), ?_, own_setS (own_keep h.pr (fun j hj => keep j (h.pr.lt j hj).2 (own_ne h.pr h.st (by decide) hj))) tb (by omega) 0 _, fun r' hr' => own_setS (d' r' ?_) tb (by omega) 0 _, ?_⟩
  · exact heap_setCell_same W' tb 0 _ 26 _ ((keep tb h.lt (fun e => by have := hlo tb e; omega)).trans h.tab)
  · rw [stC_add, List.length_append]
    exact own_setS ho tb (by omega) 0 _
  · rcases List.mem_append.1 hr' with hr' | hr'
    · exact h.dom r' hr'
    · simp at hr'; subst hr'; exact hd
  · rw [List.pairwise_append]
    exact ⟨h.ap, List.pairwise_singleton _ _, fun a ha c hc => by simp at hc; subst hc; exact hap a ha⟩
/-- Pairs with one more. -/
theorem TI.addP (h : TI w b tb v1 v2 rs ps W) {g cap : Nat} (p : LPr) (hg : W.grownBy W' v2.ownBlock) (ho : W'.ownsRow (tb + 1) 112 3 (.slice (some ⟨g, 0, none⟩) (ps.length + 1) cap) (ps.length + 1) (prC ps ++ [.int .i64 p.1, .int .i64 p.2.1, .int .i64 p.2.2])) :
    TI w b tb v1 (.slice (some ⟨g, 0, none⟩) (ps.length + 1) cap) rs (ps ++ [p]) (W'.setCell ⟨tb, 1, none⟩ (.slice (some ⟨g, 0, none⟩) (ps.length + 1) cap)) := by
  have hb := h.hb
  have ht := h.htb
  have keep : ∀ k, k < W.heap.size → v2.ownBlock ≠ some k → W'.heap[k]? = W.heap[k]? := fun k hk hne => hg.block k hk (fun e => hne e.symm)
  have hlo : ∀ j, v2.ownBlock = some j → tb + 1 ≤ j := fun j hj => own_base h.pr hj
  refine ⟨h.hb, h.htb, (h.src.grown hg (fun j hj => by have := hlo j hj; omega)).set tb (by omega) 1 _, (h.fr.grown hg (fun j hj => by have := hlo j hj; omega)).setHigh tb (by omega) 1 _, ?_, (Below.heap_setCell _ _ _ _ (by show w.heap.size ≠ tb; omega)).trans ((keep _ h.rlt (fun e => by have := hlo _ e; omega)).trans h.rc), own_setS (own_keep h.st (fun j hj => keep j (h.st.lt j hj).2 (own_ne h.st h.pr (by decide) hj))) tb (by omega) 1 _, ?_, fun r' hr' => own_setS (own_keep (h.dom r' hr') (fun j hj => keep j ((h.dom r' hr').lt j hj).2 (own_ne (h.dom r' hr') h.pr (by decide) hj))) tb (by omega) 1 _, h.ap⟩
  · exact heap_setCell_same W' tb 1 _ 26 _ ((keep tb h.lt (fun e => by have := hlo tb e; omega)).trans h.tab)
  · rw [prC_add, List.length_append]
    exact own_setS ho tb (by omega) 1 _
theorem own3_cells {C : Nat} {e : TypeId} {v : Value} {n : Nat} {xs : List Value} {W : World} (h : W.ownsRow C e 3 v n xs) (hn : 0 < n) : ∃ g cap, v = .slice (some ⟨g, 0, none⟩) n cap ∧ C ≤ g ∧ g < W.heap.size ∧ n ≤ cap ∧ ∀ j u, xs[j]? = some u → W.cell? ⟨g, j, none⟩ = some u ∧ W.frozen? ⟨g, j, none⟩ = false := by
  rcases h.2 with ⟨_, rfl⟩ | ⟨g, cap, cur, rfl, hg, hh, hc, _, _, ht⟩
  · omega
  · refine ⟨g, cap, rfl, hg, (Array.getElem?_eq_some_iff.1 hh).1, hc, fun j u hu => ?_⟩
    rw [← ht] at hu
    have hu' : cur[j]? = some u := by
      rw [List.getElem?_take] at hu
      split at hu
      · simpa using hu
      · cases hu
    exact ⟨by simp [World.cell?, hh, hu'], by simp [World.frozen?, hh]⟩
theorem stC_at (rs : List LSt) (i : Nat) (h : i < rs.length) : (stC rs)[i * 3]? = some (.int .i64 rs[i].1) ∧ (stC rs)[i * 3 + 1]? = some (.int .i64 rs[i].2.1) ∧ (stC rs)[i * 3 + 2]? = some rs[i].2.2.1 := flat3_at (fun r : LSt => (.int .i64 r.1, .int .i64 r.2.1, r.2.2.1)) rs i h
theorem prC_at (ps : List LPr) (i : Nat) (h : i < ps.length) : (prC ps)[i * 3]? = some (.int .i64 ps[i].1) ∧ (prC ps)[i * 3 + 1]? = some (.int .i64 ps[i].2.1) ∧ (prC ps)[i * 3 + 2]? = some (.int .i64 ps[i].2.2) := flat3_at (fun r : LPr => (.int .i64 r.1, .int .i64 r.2.1, .int .i64 r.2.2)) ps i h
theorem own_sts {C : Nat} {v : Value} {rs : List LSt} {W : World} (h : W.ownsRow C 93 3 v rs.length (stC rs)) : ∃ sl cap, v = .slice sl rs.length cap ∧ (rs = [] ∨ ∃ c o, sl = some ⟨c, o, none⟩ ∧ StAt W c o rs) := by
  by_cases hn : 0 < rs.length
  · obtain ⟨g, cap, e, _, hl, _, hc⟩ := own3_cells h hn
    refine ⟨_, cap, e, .inr ⟨g, 0, rfl, hl, fun i hi => ?_⟩⟩
    obtain ⟨a, b, c⟩ := stC_at rs i hi
    exact ⟨by simpa using (hc _ _ a).1, by simpa using (hc _ _ b).1, by simpa using (hc _ _ c).1⟩
  · have e : rs = [] := by cases rs; rfl; simp at hn
    subst e
    obtain ⟨sl, cap, hv⟩ := own_v h
    exact ⟨sl, cap, hv, .inl rfl⟩
theorem own_prs {C : Nat} {v : Value} {rs : List LPr} {W : World} (h : W.ownsRow C 112 3 v rs.length (prC rs)) : ∃ sl cap, v = .slice sl rs.length cap ∧ Prs W sl rs := by
  by_cases hn : 0 < rs.length
  · obtain ⟨g, cap, e, _, hl, _, hc⟩ := own3_cells h hn
    refine ⟨_, cap, e, .inr ⟨g, 0, rfl, hl, fun i hi => ?_⟩⟩
    obtain ⟨a, b, c⟩ := prC_at rs i hi
    exact ⟨by simpa using (hc _ _ a).1, by simpa using (hc _ _ b).1, by simpa using (hc _ _ c).1⟩
  · have e : rs = [] := by cases rs; rfl; simp at hn
    subst e
    obtain ⟨sl, cap, hv⟩ := own_v h
    exact ⟨sl, cap, hv, .inl rfl⟩
end

end Go.Proofs.Ytdmfljejlhlbnaa
namespace Go.Proofs.Ytdmfljejlhlbnaa
open Go.RowKit
set_option linter.unusedVariables false

/-- A place: an Id and a Channel. -/
abbrev LPl := Int × Int
/-- Places lie from cell o of block c on. -/
structure PlAt (w : World) (c o : Nat) (pl : List LPl) : Prop where
  lt : c < w.heap.size
  cell : ∀ i (h : i < pl.length), w.cell? ⟨c, o + i * 2, none⟩ = some (.int .i64 pl[i].1) ∧ w.cell? ⟨c, o + i * 2 + 1, none⟩ = some (.int .i64 pl[i].2)
/-- A slice of the places pl. -/
def Pls (w : World) (sl : Option Addr) (pl : List LPl) : Prop := pl = [] ∨ ∃ c o, sl = some ⟨c, o, none⟩ ∧ PlAt w c o pl
theorem PlAt.below {w w' : World} {c o : Nat} {pl : List LPl} (h : PlAt w c o pl) (hb : Below w.heap.size w w') : PlAt w' c o pl :=
  ⟨Nat.lt_of_lt_of_le h.lt hb.size, fun i hi => ⟨(hb.cell h.lt).trans (h.cell i hi).1, (hb.cell h.lt).trans (h.cell i hi).2⟩⟩
theorem Pls.below {w w' : World} {sl : Option Addr} {pl : List LPl} (h : Pls w sl pl) (hb : Below w.heap.size w w') : Pls w' sl pl := by
  rcases h with h | ⟨c, o, e, h⟩
  · exact .inl h
  · exact .inr ⟨c, o, e, h.below hb⟩
def pidsL (pl : List LPl) : List Int := pl.map fun p => p.1
theorem pidsL_len (pl : List LPl) : (pidsL pl).length = pl.length := by simp [pidsL]
theorem pidsL_step (pl : List LPl) (k : Nat) (h : k < pl.length) : valsZ ((pidsL pl).take k) ++ [.int .i64 pl[k].1] = valsZ ((pidsL pl).take (k + 1)) := by
  rw [List.take_add_one, show (pidsL pl)[k]? = some pl[k].1 by simp [pidsL, h]]
  simp [valsZ]
/-- The Ids as they stand; none, if they are too many. -/
def pidsA (pl : List LPl) : List Int := if pl.length ≤ 400 then pidsL pl else []
/-- An empty row just made. -/
theorem own_none5 (w : World) : (w.alloc (.cells #[] 2)).ownsRow w.heap.size 2 1 (.slice (some ⟨w.heap.size, 0, none⟩) 0 0) 0 [] :=
  ⟨rfl, .inr ⟨w.heap.size, 0, #[], rfl, Nat.le_refl _, by show (w.heap.push _)[w.heap.size]? = _; simp, Nat.le_refl _, Nat.zero_le _, rfl, rfl⟩⟩

set_option maxHeartbeats 1000000 in
/-- impl.PlanIds. -/
theorem ipi_any (sl : Option Addr) (cap : Nat) (pl : List LPl) (w : World) (hn : pl.length ≤ maxLen) (hz : Pls w sl pl) :
    Calls Try.prog 72 #[.slice sl pl.length cap] w fun e w' => ∃ v, e = .returned v ∧ w'.ownsRow w.heap.size 2 1 v (pidsA pl).length (valsZ (pidsA pl)) ∧ Below w.heap.size w w' := by
  unfold maxLen at hn
  by_cases h4 : pl.length ≤ 400
  · rw [show pidsA pl = pidsL pl from if_pos h4]
    obtain ⟨i0, hi0, hz0, hz1, hz2⟩ := info_parts info2'
    have h4' : ¬ (400 : Int) < (pl.length : Int) := by omega
    have HZ := Lib.hid hz
    clear hz
    rw [pidsL_len]
    generalize hN : pl.length = n at *
    have HN := Lib.hid hN
    clear hN
    go_enter Try.func72, Try.ntmps72
    go_wp2
    go_loopw [3, 11] (fun v i wr => ∃ k : Nat, i = .int .i64 k ∧ k ≤ n ∧ Hid (wr.ownsRow w.heap.size 2 1 v k (valsZ ((pidsL pl).take k))) ∧ Hid (Below w.heap.size w wr)) (fun _ i _ => n - (intOf i).toNat)
    case atStart => exact ⟨0, rfl, Nat.zero_le _, ⟨rfl, .inl ⟨rfl, rfl⟩⟩, Below.refl _ _⟩
    case round =>
      obtain ⟨k, rfl, hk, H1, H2⟩ := hrel
      have hk0 : (0 : Int) ≤ (k : Int) := by omega
      by_cases h1 : k < n
      · have h1' : (k : Int) < (n : Int) := by omega
        have hlt : k < pl.length := by rw [HN.out]; exact h1
        obtain ⟨c, o, rfl, Z0⟩ : ∃ c o, sl = some ⟨c, o, none⟩ ∧ PlAt w c o pl := by
          rcases HZ.out with e | h
          · rw [e] at hlt; simp at hlt
          · exact h
        obtain ⟨hc, hc1⟩ := (Z0.below H2.out).cell k hlt
        have EV := Lib.hid (pidsL_step pl k hlt)
        generalize pl[k].1 = z at *
        generalize pl[k].2 = y at *
        clear hlt Z0
        have hown := Lib.hid (H1.out.alloc (.cells #[.int .i64 z, .int .i64 y] 34))
        have hs := H2.out.size
        go_wp2_with (first | (at_builtin; refine wpList_append_lies _ rfl (.tmp 15) (.tmp 18) 40 rfl w.heap.size 2 i0 (.int .i64 0) 1 8 Try.underlying40 hi0 hz0 hz1 hz2 rfl (by decide) _ _ _ rfl (hown.out.alloc _) ⟨wr.heap.size + 1, 0, none⟩ 1 1 [.int .i64 z] (by simp [Act.eval]) rfl (cell_one_new' _ _ _ _) (by intro u hu; simp at hu; subst hu; rfl) (by decide) (by unfold maxLen; omega) (by omega) (by simp; omega) (wr.heap.size + 2) (by simp) ?_))
        intro g9 cap9 w9 own9 grow9 hg9 hlt9
        have B9 := Lib.hid ((bA (bA H2.out (.cells #[.int .i64 z, .int .i64 y] 34)) (.cells #[.int .i64 z] 2)).grown grow9 (by simp; omega) (fun j hj => (hown.out.lt j hj).1))
        rw [EV.out] at own9
        have N9 := Lib.hid own9
        clear own9 grow9 hg9 hlt9 hown
        go_wp2
        go_roundw
        case rel => exact ⟨k + 1, by go_num, by omega, N9, B9⟩
        case measure => simp [intOf]; omega
      · have h1' : ¬ (k : Int) < (n : Int) := by omega
        have e : k = n := by omega
        have F := Lib.hid (show (pidsL pl).take k = pidsL pl from List.take_of_length_le (by rw [pidsL_len, HN.out]; omega))
        have H9 := H1.out
        rw [F.out, e] at H9
        have P := Lib.hid (And.intro H9 H2.out)
        clear H9 H1
        go_wp2
        go_ret
        exact ⟨_, rfl, P.out.1, P.out.2⟩
  · rw [show pidsA pl = [] from if_neg h4]
    have h4' : (400 : Int) < (pl.length : Int) := by omega
    clear hz
    generalize pl.length = n at *
    go_enter Try.func72, Try.ntmps72
    go_wp2
    go_ret
    exact ⟨_, rfl, ⟨rfl, .inl ⟨rfl, rfl⟩⟩, Below.refl _ _⟩

set_option maxHeartbeats 1000000 in
/-- spec.PlanIds. -/
theorem spi_any (sl : Option Addr) (cap : Nat) (pl : List LPl) (w : World) (hn : pl.length ≤ maxLen) (hz : Pls w sl pl) :
    Calls Try.prog 24 #[.slice sl pl.length cap] w fun e w' => ∃ v, e = .returned v ∧ w'.ownsRow w.heap.size 2 1 v (pidsA pl).length (valsZ (pidsA pl)) ∧ Below w.heap.size w w' := by
  unfold maxLen at hn
  have O0 := Lib.hid (own_none5 w)
  have B0 := Lib.hid (bA0 w (.cells #[] 2))
  by_cases h4 : pl.length ≤ 400
  · rw [show pidsA pl = pidsL pl from if_pos h4]
    obtain ⟨i0, hi0, hz0, hz1, hz2⟩ := info_parts info2'
    have h4' : ¬ (400 : Int) < (pl.length : Int) := by omega
    have HZ := Lib.hid hz
    clear hz
    rw [pidsL_len]
    generalize hN : pl.length = n at *
    have HN := Lib.hid hN
    clear hN
    go_enter Try.func24, Try.ntmps24
    go_wp2
    generalize w.alloc (.cells #[] 2) = w0 at *
    go_loopw [3, 4] (fun v i wr => ∃ k : Nat, i = .int .i64 k ∧ k ≤ n ∧ Hid (wr.ownsRow w.heap.size 2 1 v k (valsZ ((pidsL pl).take k))) ∧ Hid (Below w.heap.size w wr)) (fun _ i _ => n - (intOf i).toNat)
    case atStart => exact ⟨0, rfl, Nat.zero_le _, O0, B0⟩
    case round =>
      obtain ⟨k, rfl, hk, H1, H2⟩ := hrel
      have hk0 : (0 : Int) ≤ (k : Int) := by omega
      by_cases h1 : k < n
      · have h1' : (k : Int) < (n : Int) := by omega
        have hlt : k < pl.length := by rw [HN.out]; exact h1
        obtain ⟨c, o, rfl, Z0⟩ : ∃ c o, sl = some ⟨c, o, none⟩ ∧ PlAt w c o pl := by
          rcases HZ.out with e | h
          · rw [e] at hlt; simp at hlt
          · exact h
        obtain ⟨hc, hc1⟩ := (Z0.below H2.out).cell k hlt
        have EV := Lib.hid (pidsL_step pl k hlt)
        generalize pl[k].1 = z at *
        generalize pl[k].2 = y at *
        clear hlt Z0
        have hs := H2.out.size
        go_wp2_with (first | (at_builtin; refine wpList_append_lies _ rfl (.tmp 16) (.tmp 22) 40 rfl w.heap.size 2 i0 (.int .i64 0) 1 8 Try.underlying40 hi0 hz0 hz1 hz2 rfl (by decide) _ _ _ rfl (H1.out.alloc _) ⟨wr.heap.size, 0, none⟩ 1 1 [.int .i64 z] rfl rfl (cell_one_new _ _ _) (by intro u hu; simp at hu; subst hu; rfl) (by decide) (by unfold maxLen; omega) (by omega) (by simp; omega) (wr.heap.size + 1) (by simp) ?_))
        intro g9 cap9 w9 own9 grow9 hg9 hlt9
        have B9 := Lib.hid ((bA H2.out (.cells #[.int .i64 z] 2)).grown grow9 (by simp; omega) (fun j hj => (H1.out.lt j hj).1))
        rw [EV.out] at own9
        have N9 := Lib.hid own9
        clear own9 grow9 hg9 hlt9
        go_wp2
        go_roundw
        case rel => exact ⟨k + 1, by go_num, by omega, N9, B9⟩
        case measure => simp [intOf]; omega
      · have h1' : ¬ (k : Int) < (n : Int) := by omega
        have e : k = n := by omega
        have F := Lib.hid (show (pidsL pl).take k = pidsL pl from List.take_of_length_le (by rw [pidsL_len, HN.out]; omega))
        have H9 := H1.out
        rw [F.out, e] at H9
        have P := Lib.hid (And.intro H9 H2.out)
        clear H9 H1
        go_wp2
        go_ret
        exact ⟨_, rfl, P.out.1, P.out.2⟩
  · rw [show pidsA pl = [] from if_neg h4]
    have h4' : (400 : Int) < (pl.length : Int) := by omega
    clear hz
    generalize pl.length = n at *
    go_enter Try.func24, Try.ntmps24
    go_wp2
    go_ret
    exact ⟨_, rfl, O0.out, B0.out⟩

end Go.Proofs.Ytdmfljejlhlbnaa
namespace Go.Proofs.Ytdmfljejlhlbnaa
open Go.RowKit
set_option linter.unusedVariables false

set_option maxHeartbeats 1000000 in
/-- spec.l05Top. -/
theorem top_any (B b : Nat) (w : World) (hs : SrcB B w b) :
    Calls Try.prog 65 #[.pointer (some ⟨b, 0, none⟩)] w fun e w' => ∃ v : Int, e = .returned (.int .i64 v) ∧ SrcB B w' b ∧ Only b w w' := by
  have HS := Lib.hid hs
  clear hs
  go_enter Try.func65, Try.ntmps65
  go_wp2_with fail
  refine (oneB_any B b 12 _ (by decide) HS.out).mono ?_
  rintro e w1 ⟨t, rfl, s1, o1⟩
  have H1 : Hid (SrcB B w1 b ∧ Only b w w1) := ⟨s1, o1⟩
  clear s1 o1 HS
  cases t with
  | true =>
    go_wp2_with fail
    refine (edgeB_any B b _ H1.out.1).mono ?_
    rintro e w2 ⟨v, rfl, -, s2, o2⟩
    have H2 : Hid (SrcB B w2 b ∧ Only b w w2) := ⟨s2, H1.out.2.trans o2⟩
    clear s2 o2 H1
    go_wp2
    go_ret
    exact ⟨_, rfl, H2.out⟩
  | false =>
    go_wp2_with fail
    refine (nB_lt B b 6 _ (by decide) (by decide) H1.out.1).mono ?_
    rintro e w2 ⟨r, rfl, r1, r2, s2, o2⟩
    have H2 : Hid (SrcB B w2 b ∧ Only b w w2) := ⟨s2, H1.out.2.trans o2⟩
    clear s2 o2 H1
    go_wp2
    go_ret
    exact ⟨_, rfl, H2.out⟩

set_option maxRecDepth 100000 in
set_option maxHeartbeats 4000000 in
/-- spec.l05Ids. -/
theorem lids_any (B b : Nat) (sl : Option Addr) (cap : Nat) (sl2 : Option Addr) (m cap2 : Nat) (rs : List LSt) (w : World) (hn : rs.length ≤ 14) (hs : SrcB B w b) (ht : ∀ W, Only b w W → Sts W sl rs) :
    Calls Try.prog 95 #[.pointer (some ⟨b, 0, none⟩), TV sl rs.length cap sl2 m cap2] w fun e w' => ∃ v zs, e = .returned v ∧ List.length zs ≤ 15 ∧ w'.ownsRow w.heap.size 2 1 v zs.length (valsZ zs) ∧ SrcB B w' b ∧ Only b w w' := by
  obtain ⟨i0, hi0, hz0, hz1, hz2⟩ := info_parts info2'
  have hb : b < w.heap.size := Nat.lt_of_lt_of_le hs.1 hs.2.1
  have hBw : B ≤ w.heap.size := hs.2.1
  have HT0 := Lib.hid (TabAt.new w sl rs.length cap sl2 m cap2)
  have hM : (w.alloc (.cells #[.slice sl rs.length cap, .slice sl2 m cap2] 26)).heap.size = w.heap.size + 1 := by simp
  have BA := Lib.hid (bA0 w (.cells #[.slice sl rs.length cap, .slice sl2 m cap2] 26))
  have BB := Lib.hid (bA0 (w.alloc (.cells #[.slice sl rs.length cap, .slice sl2 m cap2] 26)) (.cells #[] 2))
  have O0 := Lib.hid (own_none5 (w.alloc (.cells #[.slice sl rs.length cap, .slice sl2 m cap2] 26)))
  rw [hM] at O0
  have KT : Hid (∀ W, Only b (w.alloc (.cells #[.slice sl rs.length cap, .slice sl2 m cap2] 26)) W → w.heap.size < W.heap.size ∧ W.cell? ⟨w.heap.size, 0, none⟩ = some (.slice sl rs.length cap) ∧ W.cell? ⟨w.heap.size, 1, none⟩ = some (.slice sl2 m cap2)) := fun W hW => by
    have : TabAt W w.heap.size sl rs.length cap sl2 m cap2 := (hW.block w.heap.size HT0.out.lt (by omega)).trans HT0.out
    exact ⟨this.lt, this.cells⟩
  have OX : Hid (∀ W, Only b (w.alloc (.cells #[.slice sl rs.length cap, .slice sl2 m cap2] 26)) W → Only b w W) := fun W hW => (Only.of_below BA.out).trans hW
  have TX : Hid (∀ W, Only b (w.alloc (.cells #[.slice sl rs.length cap, .slice sl2 m cap2] 26)) W → Sts W sl rs) := fun W hW => ht W (OX.out W hW)
  have S0 : Hid (SrcB B ((w.alloc (.cells #[.slice sl rs.length cap, .slice sl2 m cap2] 26)).alloc (.cells #[] 2)) b) := (hs.below BA.out).below BB.out
  have N0 : Hid (Only b (w.alloc (.cells #[.slice sl rs.length cap, .slice sl2 m cap2] 26)) ((w.alloc (.cells #[.slice sl rs.length cap, .slice sl2 m cap2] 26)).alloc (.cells #[] 2))) := Only.of_below BB.out
  have SZ : Hid (∀ W, Only b (w.alloc (.cells #[.slice sl rs.length cap, .slice sl2 m cap2] 26)) W → w.heap.size + 1 ≤ W.heap.size) := fun W hW => by have := hW.size; rw [hM] at this; exact this
  have GR : Hid (∀ W W' row, Only b (w.alloc (.cells #[.slice sl rs.length cap, .slice sl2 m cap2] 26)) W → W.grownBy W' row → (∀ j, row = some j → w.heap.size + 1 ≤ j) → Only b (w.alloc (.cells #[.slice sl rs.length cap, .slice sl2 m cap2] 26)) W') := fun W W' row h1 h2 h3 => h1.grown h2 (fun g hg => by rw [hM]; exact h3 g hg)
  clear hs ht HT0 BA BB hM
  generalize hN : rs.length = n at *
  have HN := Lib.hid hN
  clear hN
  go_enter Try.func95, Try.ntmps95
  go_wp2
  generalize (w.alloc (.cells #[.slice sl n cap, .slice sl2 m cap2] 26)).alloc (.cells #[] 2) = w2 at *
  generalize w.alloc (.cells #[.slice sl n cap, .slice sl2 m cap2] 26) = wA at *
  go_loopw [5, 6] (fun v i wr => ∃ (k : Nat) (zs : List Int), i = .int .i64 k ∧ k ≤ n ∧ zs.length ≤ k ∧ Hid (wr.ownsRow (w.heap.size + 1) 2 1 v zs.length (valsZ zs)) ∧ Hid (SrcB B wr b) ∧ Hid (Only b wA wr)) (fun _ i _ => n - (intOf i).toNat)
  case atStart => exact ⟨0, [], rfl, Nat.zero_le _, Nat.le_refl _, O0, S0, N0⟩
  case round =>
    obtain ⟨k, zs, rfl, hk, hzk, OW, SW, NW⟩ := hrel
    clear O0 S0 N0
    have hk0 : (0 : Int) ≤ (k : Int) := by omega
    obtain ⟨q0, q1, q2⟩ := KT.out _ NW.out
    by_cases h1 : k < n
    · have h1' : (k : Int) < (n : Int) := by omega
      go_wp2_with fail
      refine (oneB_any B b 4 wr (by decide) SW.out).mono ?_
      rintro e wq ⟨t, rfl, sq, oq⟩
      have SQ := Lib.hid sq
      have NQ := Lib.hid (NW.out.trans oq)
      have OQ := Lib.hid (own_only OW.out oq (by omega))
      clear sq oq OW SW NW q0 q1 q2
      cases t with
      | true =>
        go_wp2
        go_roundw
        case rel => exact ⟨k + 1, zs, by go_num, by omega, by omega, OQ, SQ, NQ⟩
        case measure => simp [intOf]; omega
      | false =>
        obtain ⟨q0, q1, q2⟩ := KT.out _ NQ.out
        have hlt : k < rs.length := by rw [HN.out]; exact h1
        obtain ⟨c, o, rfl, ST⟩ : ∃ c o, sl = some ⟨c, o, none⟩ ∧ StAt wq c o rs := by
          rcases (TX.out _ NQ.out).1 with e | h
          · rw [e] at hlt; simp at hlt
          · exact h
        obtain ⟨c0, -, -⟩ := ST.cell k hlt
        have cl := ST.lt
        generalize rs[k].1 = z at *
        have hs9 := SZ.out _ NQ.out
        clear ST hlt
        go_wp2_with (first | (at_builtin; refine wpList_append_lies _ rfl (.tmp 18) (.tmp 25) 40 rfl (w.heap.size + 1) 2 i0 (.int .i64 0) 1 8 Try.underlying40 hi0 hz0 hz1 hz2 rfl (by decide) _ _ _ rfl (OQ.out.alloc _) ⟨wq.heap.size, 0, none⟩ 1 1 [.int .i64 z] rfl rfl (cell_one_new _ _ _) (by intro u hu; simp at hu; subst hu; rfl) (by decide) (by unfold maxLen; omega) (by omega) (by simp; omega) (wq.heap.size + 1) (by simp) ?_))
        intro g9 cap9 w9 own9 grow9 hg9 hlt9
        have N9 := Lib.hid (GR.out _ _ _ (NQ.out.trans (Only.of_below (bA0 wq (.cells #[.int .i64 z] 2)))) grow9 (fun j hj => (OQ.out.lt j hj).1))
        have S9 := Lib.hid ((SQ.out.below (bA0 wq (.cells #[.int .i64 z] 2))).grown grow9 (fun j hj => by have := (OQ.out.lt j hj).1; omega))
        have O9 : Hid (w9.ownsRow (w.heap.size + 1) 2 1 (.slice (some ⟨g9, 0, none⟩) (zs.length + 1) cap9) (zs ++ [z]).length (valsZ (zs ++ [z]))) := by
          show World.ownsRow _ _ _ _ _ _ _
          have := own9
          rw [show valsZ (zs ++ [z]) = valsZ zs ++ [.int .i64 z] by simp [valsZ], List.length_append]
          exact this
        clear own9 grow9 hg9 hlt9
        go_wp2
        go_roundw
        case rel => exact ⟨k + 1, zs ++ [z], by go_num, by omega, by simp; omega, O9, S9, N9⟩
        case measure => simp [intOf]; omega
    · have h1' : ¬ (k : Int) < (n : Int) := by omega
      go_wp2_with fail
      refine (oneB_any B b 25 wr (by decide) SW.out).mono ?_
      rintro e wq ⟨t, rfl, sq, oq⟩
      have SQ := Lib.hid sq
      have NQ := Lib.hid (NW.out.trans oq)
      have OQ := Lib.hid (own_only OW.out oq (by omega))
      clear sq oq OW SW NW q0 q1 q2
      cases t with
      | true =>
        go_wp2_with fail
        refine (nB_lt B b 30 wq (by decide) (by decide) SQ.out).mono ?_
        rintro e wp ⟨z, rfl, z0, z1, sp, op⟩
        have SP := Lib.hid sp
        have NP := Lib.hid (NQ.out.trans op)
        have OP := Lib.hid (own_only OQ.out op (by omega))
        have hs9 := SZ.out _ NP.out
        clear sp op OQ SQ NQ
        go_wp2_with (first | (at_builtin; refine wpList_append_lies _ rfl (.tmp 29) (.tmp 32) 40 rfl (w.heap.size + 1) 2 i0 (.int .i64 0) 1 8 Try.underlying40 hi0 hz0 hz1 hz2 rfl (by decide) _ _ _ rfl (OP.out.alloc _) ⟨wp.heap.size, 0, none⟩ 1 1 [.int .i64 z] rfl rfl (cell_one_new _ _ _) (by intro u hu; simp at hu; subst hu; rfl) (by decide) (by unfold maxLen; omega) (by omega) (by simp; omega) (wp.heap.size + 1) (by simp) ?_))
        intro g9 cap9 w9 own9 grow9 hg9 hlt9
        have N9 := Lib.hid (GR.out _ _ _ (NP.out.trans (Only.of_below (bA0 wp (.cells #[.int .i64 z] 2)))) grow9 (fun j hj => (OP.out.lt j hj).1))
        have S9 := Lib.hid ((SP.out.below (bA0 wp (.cells #[.int .i64 z] 2))).grown grow9 (fun j hj => by have := (OP.out.lt j hj).1; omega))
        have O9 : Hid (w9.ownsRow w.heap.size 2 1 (.slice (some ⟨g9, 0, none⟩) (zs.length + 1) cap9) (zs ++ [z]).length (valsZ (zs ++ [z]))) := by
          show World.ownsRow _ _ _ _ _ _ _
          have := own_mono own9 (show w.heap.size ≤ w.heap.size + 1 by omega)
          rw [show valsZ (zs ++ [z]) = valsZ zs ++ [.int .i64 z] by simp [valsZ], List.length_append]
          exact this
        have F9 := Lib.hid (OX.out _ N9.out)
        clear own9 grow9 hg9 hlt9
        go_wp2
        go_ret
        exact ⟨_, zs ++ [z], rfl, by simp; omega, O9.out, S9.out, F9.out⟩
      | false =>
        have O9 := Lib.hid (own_mono OQ.out (show w.heap.size ≤ w.heap.size + 1 by omega))
        have F9 := Lib.hid (OX.out _ NQ.out)
        clear OQ
        go_wp2
        go_ret
        exact ⟨_, zs, rfl, by omega, O9.out, SQ.out, F9.out⟩

end Go.Proofs.Ytdmfljejlhlbnaa
namespace Go.Proofs
open Go.Shelf
def Try.laysSlF06_f49_ren : Go.Shelf.Ren := ⟨fun | 6 => 154 | 15 => 157 | 14 => 156 | 28 => 168 | 29 => 169 | 20 => 160 | 21 => 161 | 22 => 162 | 23 => 163 | 24 => 164 | 25 => 165 | 26 => 166 | 27 => 167 | 46 => 170 | 47 => 171 | 48 => 172 | 49 => 173 | 50 => 174 | 57 => 175 | n => n, fun | 22 => 179 | 24 => 152 | 25 => 183 | 3 => 3 | 39 => 147 | 0 => 0 | 53 => 196 | 55 => 143 | 4 => 4 | 46 => 190 | 45 => 189 | 50 => 98 | 5 => 5 | 9 => 9 | 66 => 198 | 70 => 202 | 76 => 204 | 77 => 205 | n => n, fun | n => n⟩
theorem Try.laysSlF06_f49 : Go.Proofs.SlLaysF0.n6 Try.prog Try.laysSlF06_f49_ren := {
  mixed := by kernel_rfl
  f6 := ⟨Try.f154.name, by decide, Try.func154.trans (congrArg some (by kernel_rfl))⟩
  f14 := ⟨Try.f156.name, by decide, Try.func156.trans (congrArg some (by kernel_rfl))⟩
  f15 := Try.func157.trans (congrArg some (by kernel_rfl))
  f20 := ⟨Try.f160.name, by decide, Try.func160.trans (congrArg some (by kernel_rfl))⟩
  f21 := ⟨Try.f161.name, by decide, Try.func161.trans (congrArg some (by kernel_rfl))⟩
  f22 := ⟨Try.f162.name, by decide, Try.func162.trans (congrArg some (by kernel_rfl))⟩
  f23 := ⟨Try.f163.name, by decide, Try.func163.trans (congrArg some (by kernel_rfl))⟩
  f24 := ⟨Try.f164.name, by decide, Try.func164.trans (congrArg some (by kernel_rfl))⟩
  f25 := ⟨Try.f165.name, by decide, Try.func165.trans (congrArg some (by kernel_rfl))⟩
  f26 := ⟨Try.f166.name, by decide, Try.func166.trans (congrArg some (by kernel_rfl))⟩
  f27 := ⟨Try.f167.name, by decide, Try.func167.trans (congrArg some (by kernel_rfl))⟩
  f28 := Try.func168.trans (congrArg some (by kernel_rfl))
  f29 := Try.func169.trans (congrArg some (by kernel_rfl))
  f46 := ⟨Try.f170.name, by decide, Try.func170.trans (congrArg some (by kernel_rfl))⟩
  f47 := Try.func171.trans (congrArg some (by kernel_rfl))
  f48 := Try.func172.trans (congrArg some (by kernel_rfl))
  f49 := ⟨Try.f173.name, by decide, Try.func173.trans (congrArg some (by kernel_rfl))⟩
  f50 := ⟨Try.f174.name, by decide, Try.func174.trans (congrArg some (by kernel_rfl))⟩
  f57 := ⟨Try.f175.name, by decide, Try.func175.trans (congrArg some (by kernel_rfl))⟩
  t0 := Try.underlying0
  a0 := Try.isAgg0
  z0 := Try.sizeOf0
  v0 := Try.zeroValue0
  t3 := Try.underlying3
  a3 := Try.isAgg3
  z3 := Try.sizeOf3
  v3 := Try.zeroValue3
  t4 := Try.underlying4
  a4 := Try.isAgg4
  z4 := Try.sizeOf4
  v4 := Try.zeroValue4
  t5 := Try.underlying5
  a5 := Try.isAgg5
  z5 := Try.sizeOf5
  v5 := Try.zeroValue5
  t9 := Try.underlying9
  a9 := Try.isAgg9
  z9 := Try.sizeOf9
  v9 := Try.zeroValue9
  t22 := Try.underlying179
  a22 := Try.isAgg179
  z22 := Try.sizeOf179
  v22 := Try.zeroValue179
  t25 := Try.underlying183
  a25 := Try.isAgg183
  z25 := Try.sizeOf183
  v25 := Try.zeroValue183
  t39 := Try.underlying147
  a39 := Try.isAgg147
  z39 := Try.sizeOf147
  v39 := Try.zeroValue147
  t45 := Try.underlying189
  a45 := Try.isAgg189
  z45 := Try.sizeOf189
  v45 := Try.zeroValue189
  t46 := Try.underlying190
  a46 := Try.isAgg190
  z46 := Try.sizeOf190
  v46 := Try.zeroValue190
  t50 := Try.underlying98
  a50 := Try.isAgg98
  z50 := Try.sizeOf98
  v50 := Try.zeroValue98
  t53 := Try.underlying196
  a53 := Try.isAgg196
  z53 := Try.sizeOf196
  v53 := Try.zeroValue196
  t55 := Try.underlying143
  a55 := Try.isAgg143
  z55 := Try.sizeOf143
  v55 := Try.zeroValue143
  t66 := Try.underlying198
  a66 := Try.isAgg198
  z66 := Try.sizeOf198
  v66 := Try.zeroValue198
  t70 := Try.underlying202
  a70 := Try.isAgg202
  z70 := Try.sizeOf202
  v70 := Try.zeroValue202
  t76 := Try.underlying204
  a76 := Try.isAgg204
  z76 := Try.sizeOf204
  v76 := Try.zeroValue204
  t77 := Try.underlying205
  a77 := Try.isAgg205
  z77 := Try.sizeOf205
  v77 := Try.zeroValue205 }
open Go.RowKit Go.Lib Go.Sort in
/-- **slices.SortFunc, IN THE DOCUMENTATION's OWN TERMS: A PERMUTATION OF WHAT THE ROW HELD, SORTED BY 'cmp(a, b) < 0'.** Which of two equals comes first is left open ("The sort is not guaranteed to be stable"). (LAID AT THE INSTANCE 'slices.SortFunc[[]impl.ends,impl.ends]': no walk: one application.) -/
theorem Try.slices_SortFunc {α : Type} [Inhabited α] (k : Nat) (aE : ∀ w, (isAgg 152).run Try.prog w = .ok true w) (zE : ∀ w, (Go.sizeOf 152).run Try.prog w = .ok k w) (enc : α → List Value) (hk : ∀ x, (enc x).length = k) (h1 : ∀ x, ∀ v ∈ enc x, v.oneCell' = true) (cf : α → α → Int) (hO : SWO (ltOf cf)) (g : Nat) (cb : Array Value) (blk off cap : Nat) (d : Array α) (w : World) (eg : ∀ args w, (callFunc g args).run Try.prog w = .ok (.enter g args) w) (hcmp : CmpLays Try.prog g cb enc k cf blk off d.size w) (hH : HoldsK enc k w blk off d) (hblk : blk < w.heap.size) (hsz : d.size < 4611686018427387904) :
    Calls Try.prog 154 #[.slice (some ⟨blk, off, none⟩) d.size cap, .func (.func g) #[] cb] w fun e w' =>
      e = .returned (.tuple #[]) ∧ ∃ d' n os, PermIn 0 d.size d d' ∧ SortedIn (ltOf cf) 0 d.size d' ∧ w' = sortWorldK enc k w blk off n d' os := AnyQ.slices_SortFunc Try.laysSlF06_f49 k aE zE enc hk h1 cf hO g cb blk off cap d w eg hcmp hH hblk hsz
end Go.Proofs
namespace Go.Proofs.Ytdmfljejlhlbnaa
open Go.RowKit
set_option linter.unusedVariables false

set_option maxHeartbeats 400000 in
theorem nan_any (x : Int) (w : World) : Calls Try.prog 144 #[.int .i64 x] w fun e w' => e = .returned (.bool false) ∧ w' = w := by
  go_enter Try.func144, Try.ntmps144
  go_wp2
  go_ret
  exact ⟨by simp, rfl⟩
/-- -1, 0 or 1. -/
def cmpI (x y : Int) : Int := if x < y then -1 else if y < x then 1 else 0
set_option maxHeartbeats 400000 in
theorem cmp_any (x y : Int) (w : World) : Calls Try.prog 159 #[.int .i64 x, .int .i64 y] w fun e w' => e = .returned (.int .i64 (cmpI x y)) ∧ w' = w := by
  have N := Lib.hid nan_any
  by_cases h1 : x < y
  · have e : cmpI x y = -1 := by simp [cmpI, h1]
    rw [e]; clear e
    go_enter Try.func159, Try.ntmps159
    go_wp2_with (go_at_call 144; refine (N.out _ _).mono ?_; rintro e w' ⟨rfl, rfl⟩)
    go_ret
    exact ⟨rfl, rfl⟩
  · by_cases h2 : y < x
    · have e : cmpI x y = 1 := by simp [cmpI, h1, h2]
      rw [e]; clear e
      go_enter Try.func159, Try.ntmps159
      go_wp2_with (go_at_call 144; refine (N.out _ _).mono ?_; rintro e w' ⟨rfl, rfl⟩)
      go_ret
      exact ⟨rfl, rfl⟩
    · have e : cmpI x y = 0 := by simp [cmpI, h1, h2]
      rw [e]; clear e
      go_enter Try.func159, Try.ntmps159
      go_wp2_with (go_at_call 144; refine (N.out _ _).mono ?_; rintro e w' ⟨rfl, rfl⟩)
      go_ret
      exact ⟨rfl, rfl⟩
/-- The first that is not nought. -/
def orI (a b : Int) : Int := if a ≠ 0 then a else b
set_option maxHeartbeats 1000000 in
theorem or_any (g : Nat) (a b : Int) (w : World) (h0 : w.cell? ⟨g, 0, none⟩ = some (.int .i64 a)) (h1 : w.cell? ⟨g, 1, none⟩ = some (.int .i64 b)) : Calls Try.prog 158 #[.slice (some ⟨g, 0, none⟩) 2 2] w fun e w' => e = .returned (.int .i64 (orI a b)) ∧ w' = w := by
  by_cases ha : a = 0
  · have ha' : (a != 0) = false := by simp [ha]
    by_cases hb : b = 0
    · have hb' : (b != 0) = false := by simp [hb]
      have e : orI a b = 0 := by simp [orI, ha, hb]
      rw [e]; clear e ha hb
      go_enter Try.func158, Try.ntmps158
      go_wp2
      refine wp_loop_rounds 3 ?_
      rw [rounds_succ]
      go_wp2
      rw [rounds_succ]
      go_wp2
      rw [rounds_succ]
      go_wp2
      go_ret
      exact ⟨rfl, rfl⟩
    · have hb' : (b != 0) = true := by simp [hb]
      have e : orI a b = b := by simp [orI, ha]
      rw [e]; clear e ha hb
      go_enter Try.func158, Try.ntmps158
      go_wp2
      refine wp_loop_rounds 3 ?_
      rw [rounds_succ]
      go_wp2
      rw [rounds_succ]
      go_wp2
      go_ret
      exact ⟨rfl, rfl⟩
  · have ha' : (a != 0) = true := by simp [ha]
    have e : orI a b = a := by simp [orI, ha]
    rw [e]; clear e ha
    go_enter Try.func158, Try.ntmps158
    go_wp2
    refine wp_loop_rounds 3 ?_
    rw [rounds_succ]
    go_wp2
    go_ret
    exact ⟨rfl, rfl⟩
/-- compareEnds. -/
def cmpE (x y : Int × Int) : Int := orI (cmpI x.1 y.1) (cmpI x.2 y.2)
theorem cmpE_lt (x y : Int × Int) : cmpE x y < 0 ↔ Lt2 x y := by
  unfold cmpE orI cmpI Lt2
  by_cases h1 : x.1 < y.1
  · simp [h1]
  · by_cases h2 : y.1 < x.1
    · simp [h1, h2]; omega
    · have e : x.1 = y.1 := by omega
      by_cases h3 : x.2 < y.2
      · simp [e, h3]
      · by_cases h4 : y.2 < x.2 <;> simp [e, h3, h4]
abbrev EV (x : Int × Int) : Value := .agg #[.int .i64 x.1, .int .i64 x.2]

set_option maxHeartbeats 1000000 in
theorem cmpE_any (x y : Int × Int) (w : World) : Calls Try.prog 155 #[EV x, EV y] w fun e w' => e = .returned (.int .i64 (cmpE x y)) ∧ ∃ q os', w' = Go.Sort.grow (w.drewN q) os' := by
  have C := Lib.hid cmp_any
  have O := Lib.hid or_any
  obtain ⟨x1, x2⟩ := x
  obtain ⟨y1, y2⟩ := y
  have E := Lib.hid (show cmpE (x1, x2) (y1, y2) = orI (cmpI x1 y1) (cmpI x2 y2) from rfl)
  rw [E.out]
  clear E
  have EA := Lib.hid (fun W => C.out x1 y1 W)
  have EB := Lib.hid (fun W => C.out x2 y2 W)
  generalize cmpI x1 y1 = a at *
  generalize cmpI x2 y2 = b at *
  clear C
  have hb0 : ((w.alloc (.cells #[.int .i64 x1, .int .i64 x2] 152)).alloc (.cells #[.int .i64 y1, .int .i64 y2] 152)).heap[w.heap.size]? = some (.cells #[.int .i64 x1, .int .i64 x2] 152) := by
    show ((w.heap.push _).push _)[w.heap.size]? = _
    rw [Array.getElem?_push_lt (by simp)]; simp
  have hb1 : ((w.alloc (.cells #[.int .i64 x1, .int .i64 x2] 152)).alloc (.cells #[.int .i64 y1, .int .i64 y2] 152)).heap[w.heap.size + 1]? = some (.cells #[.int .i64 y1, .int .i64 y2] 152) := by
    show ((w.heap.push _).push _)[w.heap.size + 1]? = _
    have := Array.getElem?_push_size (xs := w.heap.push (.cells #[.int .i64 x1, .int .i64 x2] 152)) (x := Obj.cells #[.int .i64 y1, .int .i64 y2] 152)
    simpa using this
  have hsz : ((w.alloc (.cells #[.int .i64 x1, .int .i64 x2] 152)).alloc (.cells #[.int .i64 y1, .int .i64 y2] 152)).heap.size = w.heap.size + 2 := by simp
  have EQ : Hid ((w.alloc (.cells #[.int .i64 x1, .int .i64 x2] 152)).alloc (.cells #[.int .i64 y1, .int .i64 y2] 152) = Go.Sort.grow w #[.cells #[.int .i64 x1, .int .i64 x2] 152, .cells #[.int .i64 y1, .int .i64 y2] 152]) := by
    show _ = _
    rw [Go.Sort.alloc_eq_grow, Go.Sort.alloc_eq_grow, Go.Sort.grow_grow]; rfl
  go_enter Try.func155, Try.ntmps155
  go_wp2_with fail
  generalize (w.alloc (.cells #[.int .i64 x1, .int .i64 x2] 152)).alloc (.cells #[.int .i64 y1, .int .i64 y2] 152) = W0 at *
  have KB : Hid (∀ W, Below W0.heap.size W0 W → w.heap.size < W.heap.size ∧ w.heap.size + 1 < W.heap.size ∧ W.cell? ⟨w.heap.size, 0, none⟩ = some (.int .i64 x1) ∧ W.cell? ⟨w.heap.size, 1, none⟩ = some (.int .i64 x2) ∧ W.cell? ⟨w.heap.size + 1, 0, none⟩ = some (.int .i64 y1) ∧ W.cell? ⟨w.heap.size + 1, 1, none⟩ = some (.int .i64 y2)) := by
    intro W hW
    have hs := hW.size
    have b0 := (hW.block w.heap.size (by omega)).trans hb0
    have b1 := (hW.block (w.heap.size + 1) (by omega)).trans hb1
    refine ⟨by omega, by omega, ?_, ?_, ?_, ?_⟩ <;> simp [World.cell?, b0, b1]
  have N0 : Hid ((W0.drew.alloc (.cells #[.int .i64 a, .int .i64 b] 3)).cell? ⟨W0.heap.size, 0, none⟩ = some (.int .i64 a)) := by
    have hh : (W0.drew.alloc (.cells #[.int .i64 a, .int .i64 b] 3)).heap[W0.heap.size]? = some (.cells #[.int .i64 a, .int .i64 b] 3) := by show (W0.heap.push _)[W0.heap.size]? = _; simp
    show _ = _
    simp only [World.cell?, hh]; rfl
  have N1 : Hid ((W0.drew.alloc (.cells #[.int .i64 a, .int .i64 b] 3)).cell? ⟨W0.heap.size, 1, none⟩ = some (.int .i64 b)) := by
    have hh : (W0.drew.alloc (.cells #[.int .i64 a, .int .i64 b] 3)).heap[W0.heap.size]? = some (.cells #[.int .i64 a, .int .i64 b] 3) := by show (W0.heap.push _)[W0.heap.size]? = _; simp
    show _ = _
    simp only [World.cell?, hh]; rfl
  clear hb0 hb1 hsz
  refine wp_region_held_drew (S := fun W => w.heap.size < W.heap.size ∧ w.heap.size + 1 < W.heap.size ∧ W.cell? ⟨w.heap.size, 0, none⟩ = some (.int .i64 x1) ∧ W.cell? ⟨w.heap.size, 1, none⟩ = some (.int .i64 x2) ∧ W.cell? ⟨w.heap.size + 1, 0, none⟩ = some (.int .i64 y1) ∧ W.cell? ⟨w.heap.size + 1, 1, none⟩ = some (.int .i64 y2)) (by kernel_rfl) ?_ (fun hHeld => ?_)
  · exact KB.out _ (Below.refl _ _).drew
  refine wpAnyH_take (i := 0) (oi := _) (v := ?_) rfl (by kernel_rfl) (by kernel_rfl) (by kernel_rfl) (fun _ _ _ h => h) (Or.inl ⟨by rfl, ?_⟩) (by assumption) ?_
  rotate_left
  · first | (intro w hSw; (try dsimp only at hSw); go_simp; done) | (intro w hSw; (try dsimp only at hSw); go_simp; with_reducible rfl)
  try simp only [Act.put, List.setIfInBounds_toArray, List.set_cons_zero, List.set_cons_succ, List.getElem_toArray, List.getElem_cons_zero]
  refine wpAnyH_take (i := 1) (oi := _) (v := ?_) rfl (by kernel_rfl) (by kernel_rfl) (by kernel_rfl) (fun _ _ _ h => h) (Or.inl ⟨by rfl, ?_⟩) (by assumption) ?_
  rotate_left
  · first | (intro w hSw; (try dsimp only at hSw); go_simp; done) | (intro w hSw; (try dsimp only at hSw); go_simp; with_reducible rfl)
  try simp only [Act.put, List.setIfInBounds_toArray, List.set_cons_zero, List.set_cons_succ, List.getElem_toArray, List.getElem_cons_succ, List.getElem_cons_zero]
  refine wpAnyH_take (i := 2) (oi := _) (v := ?_) rfl (by kernel_rfl) (by kernel_rfl) (by kernel_rfl) (fun _ _ _ h => h) (Or.inl ⟨by rfl, ?_⟩) (by assumption) ?_
  rotate_left
  · first | (intro w hSw; (try dsimp only at hSw); go_simp; done) | (intro w hSw; (try dsimp only at hSw); go_simp; with_reducible rfl)
  try simp only [Act.put, List.setIfInBounds_toArray, List.set_cons_zero, List.set_cons_succ, List.getElem_toArray, List.getElem_cons_succ, List.getElem_cons_zero]
  refine wpAnyH_take (i := 3) (oi := _) (v := ?_) rfl (by kernel_rfl) (by kernel_rfl) (by kernel_rfl) (fun _ _ _ h => h) (Or.inl ⟨by rfl, ?_⟩) (by assumption) ?_
  rotate_left
  · first | (intro w hSw; (try dsimp only at hSw); go_simp; done) | (intro w hSw; (try dsimp only at hSw); go_simp; with_reducible rfl)
  try simp only [Act.put, List.setIfInBounds_toArray, List.set_cons_zero, List.set_cons_succ, List.getElem_toArray, List.getElem_cons_succ, List.getElem_cons_zero]
  refine wpAnyH_take (i := 5) (oi := _) (v := ?_) rfl (by kernel_rfl) (by kernel_rfl) (by kernel_rfl) (fun _ _ _ h => h) (Or.inl ⟨by rfl, ?_⟩) (by assumption) ?_
  rotate_left
  · first | (intro w hSw; (try dsimp only at hSw); go_simp; done) | (intro w hSw; (try dsimp only at hSw); go_simp; with_reducible rfl)
  try simp only [Act.put, List.setIfInBounds_toArray, List.set_cons_zero, List.set_cons_succ, List.getElem_toArray, List.getElem_cons_succ, List.getElem_cons_zero]
  refine wpAnyH_take (i := 6) (oi := _) (v := ?_) rfl (by kernel_rfl) (by kernel_rfl) (by kernel_rfl) (fun _ _ _ h => h) (Or.inl ⟨by rfl, ?_⟩) (by assumption) ?_
  rotate_left
  · first | (intro w hSw; (try dsimp only at hSw); go_simp; done) | (intro w hSw; (try dsimp only at hSw); go_simp; with_reducible rfl)
  try simp only [Act.put, List.setIfInBounds_toArray, List.set_cons_zero, List.set_cons_succ, List.getElem_toArray, List.getElem_cons_succ, List.getElem_cons_zero]
  refine wpAnyH_take (i := 7) (oi := _) (v := ?_) rfl (by kernel_rfl) (by kernel_rfl) (by kernel_rfl) (fun _ _ _ h => h) (Or.inl ⟨by rfl, ?_⟩) (by assumption) ?_
  rotate_left
  · first | (intro w hSw; (try dsimp only at hSw); go_simp; done) | (intro w hSw; (try dsimp only at hSw); go_simp; with_reducible rfl)
  try simp only [Act.put, List.setIfInBounds_toArray, List.set_cons_zero, List.set_cons_succ, List.getElem_toArray, List.getElem_cons_succ, List.getElem_cons_zero]
  refine wpAnyH_take (i := 8) (oi := _) (v := ?_) rfl (by kernel_rfl) (by kernel_rfl) (by kernel_rfl) (fun _ _ _ h => h) (Or.inl ⟨by rfl, ?_⟩) (by assumption) ?_
  rotate_left
  · first | (intro w hSw; (try dsimp only at hSw); go_simp; done) | (intro w hSw; (try dsimp only at hSw); go_simp; with_reducible rfl)
  try simp only [Act.put, List.setIfInBounds_toArray, List.set_cons_zero, List.set_cons_succ, List.getElem_toArray, List.getElem_cons_succ, List.getElem_cons_zero]
  refine wpAnyH_ready (rs := [4]) (by kernel_rfl) (by simp) ?_
  refine AllReadyH.cons rfl (fun K hK => ?_) AllReadyH.nil
  go_simp
  go_wp2_with (go_at_call 159; refine (EA.out _).mono ?_; rintro e w' ⟨rfl, rfl⟩)
  refine hK.out _ _ ?_ (fun hHeld => ?_)
  · exact KB.out _ (Below.refl _ _).drew
  clear hK K
  refine wpAnyH_ready (rs := [9]) (by kernel_rfl) (by simp) ?_
  refine AllReadyH.cons rfl (fun K hK => ?_) AllReadyH.nil
  go_simp
  go_wp2_with (go_at_call 159; refine (EB.out _).mono ?_; rintro e w' ⟨rfl, rfl⟩)
  refine hK.out _ _ ?_ (fun hHeld => ?_)
  · exact KB.out _ (Below.refl _ _).drew
  clear hK K
  refine wpAnyH_ready (rs := [10]) (by kernel_rfl) (by simp) ?_
  refine AllReadyH.cons rfl (fun K hK => ?_) AllReadyH.nil
  go_simp
  refine hK.out _ _ ?_ (fun hHeld => ?_)
  · exact KB.out _ ((Below.refl _ _).drew.alloc (Nat.le_refl _) _)
  clear hK K
  refine wpAnyH_ready (rs := [11]) (by kernel_rfl) (by simp) ?_
  refine AllReadyH.cons rfl (fun K hK => ?_) AllReadyH.nil
  go_simp
  go_wp2_with (go_at_call 158; refine (O.out _ a b _ N0.out N1.out).mono ?_; rintro e w' ⟨rfl, rfl⟩)
  refine hK.out _ _ ?_ (fun hHeld => ?_)
  · exact KB.out _ ((Below.refl _ _).drew.alloc (Nat.le_refl _) _)
  clear hK K
  refine wpAnyH_take (i := 12) (oi := _) (v := ?_) rfl (by kernel_rfl) (by kernel_rfl) (by kernel_rfl) (fun _ _ _ h => h) (Or.inl ⟨by rfl, ?_⟩) (by assumption) ?_
  rotate_left
  · first | (intro w hSw; (try dsimp only at hSw); go_simp; done) | (intro w hSw; (try dsimp only at hSw); go_simp; with_reducible rfl)
  try simp only [Act.put, List.setIfInBounds_toArray, List.set_cons_zero, List.set_cons_succ, List.getElem_toArray, List.getElem_cons_succ, List.getElem_cons_zero]
  refine wpAnyH_done (by kernel_rfl) ?_ _
  go_wp2
  go_ret
  refine ⟨rfl, 1, #[.cells #[.int .i64 x1, .int .i64 x2] 152, .cells #[.int .i64 y1, .int .i64 y2] 152, .cells #[.int .i64 a, .int .i64 b] 3], ?_⟩
  rw [EQ.out, Go.Sort.alloc_eq_grow]
  show Go.Sort.grow (Go.Sort.grow (w.drewN 1) _) _ = _
  rw [Go.Sort.grow_grow]
  rfl

open Go.Sort Go.Shelf Go.Lib in
theorem cmpLays (blk off size : Nat) (w : World) : CmpLays Try.prog 155 #[] (fun x : Int × Int => [.int .i64 x.1, .int .i64 x.2]) 2 cmpE blk off size w :=
  fun _ _ _ _ x y => cmpE_any x y _
open Go.Sort in
theorem ltOf_cmpE (x y : Int × Int) : ltOf cmpE x y = true ↔ Lt2 x y := by
  unfold ltOf
  rw [decide_eq_true_iff]; exact cmpE_lt x y
open Go.Sort in
theorem swoE : SWO (ltOf cmpE) where
  irrefl x := by
    cases h : ltOf cmpE x x
    · rfl
    · exact absurd ((ltOf_cmpE x x).1 h) (Lt2.irr x)
  trans x y z h1 h2 := (ltOf_cmpE x z).2 (((ltOf_cmpE x y).1 h1).trans ((ltOf_cmpE y z).1 h2))
  ntrans x y z h1 h2 := by
    cases h : ltOf cmpE x z
    · rfl
    · have h' := (ltOf_cmpE x z).1 h
      have n1 : ¬ Lt2 x y := fun e => by have := (ltOf_cmpE x y).2 e; rw [h1] at this; cases this
      have n2 : ¬ Lt2 y z := fun e => by have := (ltOf_cmpE y z).2 e; rw [h2] at this; cases this
      unfold Lt2 at *
      omega
end Go.Proofs.Ytdmfljejlhlbnaa
