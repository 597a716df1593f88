/-
  WHAT FOLLOWS AT ONCE, by a book: what one round of values.follow does, as lists and worlds.
-/
import Derived.Test.YtnihhbfgbilimaaGreatDoorPt
import Derived.Test.YtnihhbfgbilimaaGreatDoorPp
namespace Go.Proofs.YtnihhbfgbilimaaGreatDoor
open Go.RowKit
set_option linter.unusedVariables false
set_option linter.unusedSimpArgs false

/-- The first mark, as a number. -/
def FsV (ws : List (BitVec 64)) (y : Int) : Prop := (∃ q : Nat, y = (q : Int) ∧ q < 64 * ws.length ∧ bitM ws q = true ∧ ∀ r, r < q → bitM ws r = false) ∨ (y = -1 ∧ ∀ r, bitM ws r = false)
theorem first_y (c m : Nat) (ws : List (BitVec 64)) (w : World) (hW : WAt w c ws) (hm : ws.length = m) (hm2 : m ≤ 100000) (hT : TabB w) :
    Calls Tryz.prog 238 #[.slice (some ⟨c, 0, none⟩) m m] w fun e w' => ∃ y, e = .returned (.int .i64 y) ∧ Hid (FsV ws y) ∧ w' = w := by
  refine (first_any c m ws w hW hm hm2 hT).mono ?_
  rintro e w' ⟨h | h, hw⟩
  · obtain ⟨q, rfl, h1, h2, h3⟩ := h
    exact ⟨_, rfl, .inl ⟨q, rfl, h1, h2, h3⟩, hw⟩
  · exact ⟨_, h.1, .inr ⟨rfl, h.2⟩, hw⟩
theorem TabB.keep {b : Nat} {w W : World} (h : TabB w) (hb : b ≠ 0) (hk : KeepB b w W) : TabB W := by
  intro j hj
  have h0 : 0 < w.heap.size := by
    have := h j hj
    refine Nat.pos_of_ne_zero (fun e => ?_)
    have e2 : w.heap[0]? = none := Array.getElem?_eq_none (by omega)
    simp [World.cell?, e2] at this
  rw [World.cell?_of_block (w := w) (hk.2 0 h0 (fun e => hb e.symm))]
  exact h j hj
/-- How many places are marked. -/
def cntM (m : Nat) (ws : List (BitVec 64)) : Nat := ((List.range (64 * m)).filter fun q => bitM ws q).length
theorem cntM_le (m : Nat) (ws : List (BitVec 64)) : cntM m ws ≤ 64 * m := by
  have := List.length_filter_le (fun q => bitM ws q) (List.range (64 * m))
  simpa [cntM] using this
theorem cntM_drop {m : Nat} {ws wk : List (BitVec 64)} {p : Nat} (hp : p < 64 * m) (h1 : bitM ws p = true) (h2 : ∀ q, bitM wk q = if q = p then false else bitM ws q) : cntM m wk < cntM m ws := by
  unfold cntM
  have e : ((List.range (64 * m)).filter fun q => bitM wk q) = ((List.range (64 * m)).filter fun q => bitM ws q).filter fun q => decide (q ≠ p) := by
    rw [List.filter_filter]
    refine List.filter_congr (fun q _ => ?_)
    rw [h2 q]
    by_cases g : q = p <;> simp [g]
  rw [e]
  have hm : p ∈ (List.range (64 * m)).filter fun q => bitM ws q := List.mem_filter.2 ⟨List.mem_range.2 hp, h1⟩
  have := List.length_filter_lt_length_iff_exists (p := fun q => decide (q ≠ p)) (l := (List.range (64 * m)).filter fun q => bitM ws q)
  exact this.2 ⟨p, hm, by simp⟩
/-- How much is still to do. -/
def muF (m k : Nat) (ws : List (BitVec 64)) : Nat := (97 - k) * (64 * m + 1) + cntM m ws
theorem muF_drop {m k : Nat} {ws wk : List (BitVec 64)} {p : Nat} (hp : p < 64 * m) (h1 : bitM ws p = true) (h2 : ∀ q, bitM wk q = if q = p then false else bitM ws q) : muF m k wk < muF m k ws := by
  have := cntM_drop hp h1 h2
  unfold muF; omega
theorem muF_push {m k : Nat} (ws wk : List (BitVec 64)) (hk : k < 97) : muF m (k + 1) wk < muF m k ws := by
  have := cntM_le m wk
  have e : (97 - k) * (64 * m + 1) = (97 - (k + 1)) * (64 * m + 1) + (64 * m + 1) := by
    rw [show 97 - k = (97 - (k + 1)) + 1 by omega, Nat.succ_mul]
  unfold muF; omega
theorem PI.ext {css : List (List Int)} {T : List Int} {L L' : Nat → Int} {M M' : Nat → Bool} (h : PI css T L M) (e1 : ∀ p, p < css.length → L' p = L p) (e2 : ∀ p, p < css.length → M' p = M p) : PI css T L' M' :=
  ⟨fun p hp => by rw [e1 p hp]; exact h.left p hp, fun p hp hm => by rw [e1 p hp]; exact h.low p hp (by rw [← e2 p hp]; exact hm), fun p hp hm => by rw [e1 p hp]; exact h.fine p hp (by rw [← e2 p hp]; exact hm)⟩
/-- A marked place: at most one literal of it is left. -/
theorem PI.few {css : List (List Int)} {T : List Int} {L : Nat → Int} {M : Nat → Bool} (h : PI css T L M) {p : Nat} (hp : p < css.length) (hm : M p = true) : (nfl T (css.getD p [])).length < 2 := by
  have h1 := h.left p hp
  have h2 := h.low p hp hm
  omega
theorem nfl_mem {T l : List Int} {z : Int} (h : nfl T l = [z]) : z ∈ l ∧ 0 ≤ val T z := by
  have : z ∈ nfl T l := by rw [h]; simp
  unfold nfl at this
  have := List.mem_filter.1 this
  exact ⟨this.1, by simpa using this.2⟩
theorem nfl_other {T l : List Int} {z : Int} (hc : Cons T) (h : nfl T l = [z]) (hv : val T z = 0) (h0 : z ≠ 0) : -z ∉ l := fun hm => by
  have hv2 : val T (-z) = 0 := by have := val_minus hc z; omega
  have : -z ∈ nfl T l := by
    unfold nfl
    exact List.mem_filter.2 ⟨hm, by simp [hv2]⟩
  rw [h] at this
  have := List.mem_singleton.1 this
  omega
/-- One literal follows: it is put, what has it turned round is struck, its place is no longer marked. -/
theorem PI.step {css : List (List Int)} {T : List Int} {L L' : Nat → Int} {M M' : Nat → Bool} (h : PI css T L M) (hn : ∀ l ∈ css, l.Nodup) (hc : Cons T) {p : Nat} (hp : p < css.length) {z : Int} (h0 : z ≠ 0) (h1 : nfl T (css.getD p []) = [z]) (hv : val T z = 0) (eL : ∀ q, q < css.length → L' q = if -z ∈ css.getD q [] then L q - 1 else L q) (eM : ∀ q, q < css.length → M' q = if -z ∈ css.getD q [] ∧ L q - 1 < 2 then true else if q = p then false else M q) : PI css (T ++ [z]) L' M' := by
  obtain ⟨n1, n2⟩ := val_zero hv
  have hno := nfl_other hc h1 hv h0
  have hg : GdL (T ++ [z]) (css.getD p []) := ⟨z, (nfl_mem h1).1, val_push_same⟩
  refine ((h.push hn h0 n1 n2).drop (p := p) hg).ext eL (fun q hq => ?_)
  rw [eM q hq]
  by_cases e : q = p
  · subst e
    rw [if_neg (fun r => hno r.1), if_pos rfl, if_pos rfl]
  · rw [if_neg e, if_neg e]
/-- A true clause loses its mark. -/
theorem PI.calmed {css : List (List Int)} {T : List Int} {L : Nat → Int} {M M' : Nat → Bool} (h : PI css T L M) {p : Nat} {z : Int} (h1 : nfl T (css.getD p []) = [z]) (hv : ¬ val T z = 0) (eM : ∀ q, q < css.length → M' q = if q = p then false else M q) : PI css T L M' := by
  obtain ⟨m1, m2⟩ := nfl_mem h1
  have h2 : val T z = 1 := by
    rcases val_cases T z with ⟨e, _⟩ | ⟨e, _⟩ | ⟨e, _⟩
    · exact e
    · omega
    · exact absurd e hv
  exact (h.drop (p := p) ⟨z, m1, h2⟩).ext (fun _ _ => rfl) eM

/-- values.follow, how far it has come. -/
structure FS (d : Nat) (bt : TypeId) (fh : List Value) (w : World) (b pb bb lb c n m : Nat) (vars : Int) (css : List (List Int)) (R : List Int × Int) (T0 fl L : List Int) (ws : List (BitVec 64)) (v : Value) (W : World) : Prop where
  va : VAt d bt fh W b (T0 ++ fl)
  sp : SpTo vars (T0 ++ fl) (T0 ++ fl).length
  lf : LAt W lb L
  wf : WAt W c ws
  ln : L.length = n
  mn : ws.length = m
  pi : PI css (T0 ++ fl) (fun p => L.getD p 0) (bitM ws)
  out : ∀ q, n ≤ q → bitM ws q = false
  box : PBx W pb bb lb n c m
  row : W.ownsRow w.heap.size 2 1 v fl.length (valsZ fl)
  on : Only b w W
  run : resF css (97 - (T0 ++ fl).length) (T0 ++ fl) = R
theorem Only.keepB {b : Nat} {w W : World} (h : Only b w W) : KeepB b w W := ⟨h.size, h.block⟩
section
variable {d : Nat} {bt : TypeId} {fh : List Value} {w : World} {b pb bb lb c n m : Nat} {vars : Int} {css : List (List Int)} {R : List Int × Int} {T0 fl L : List Int} {ws : List (BitVec 64)} {v : Value} {W : World}
/-- Nothing is due. -/
theorem FS.calm (h : FS d bt fh w b pb bb lb c n m vars css R T0 fl L ws v W) (hv : vars ≤ 96) (hm : ∀ r, bitM ws r = false) : R = (T0 ++ fl, -1) := by
  have e := h.pi.calm (fun p _ => hm p)
  rw [← h.run, resF_end _ _ _ (by have := h.sp.short hv; omega) (by rw [e]), e]
/-- A clause is false. -/
theorem FS.wrong (h : FS d bt fh w b pb bb lb c n m vars css R T0 fl L ws v W) (hv : vars ≤ 96) {p : Nat} (hp : p < css.length) (hf : ∀ r, r < p → bitM ws r = false) (h0 : nfl (T0 ++ fl) (css.getD p []) = []) : R = (T0 ++ fl, (p : Int)) := by
  have e := h.pi.wrong hp hf (by rw [show css[p] = css.getD p [] by simp [List.getD_eq_getElem?_getD, hp]]; exact h0)
  rw [← h.run, resF_end _ _ _ (by have := h.sp.short hv; omega) (by rw [e]), e]
/-- A literal follows. -/
theorem FS.follows (h : FS d bt fh w b pb bb lb c n m vars css R T0 fl L ws v W) (hv : vars ≤ 96) {p : Nat} (hp : p < css.length) (hf : ∀ r, r < p → bitM ws r = false) {z : Int} (hz : z ≠ 0) (h1 : nfl (T0 ++ fl) (css.getD p []) = [z]) (h2 : val (T0 ++ fl) z = 0) : resF css (97 - (T0 ++ (fl ++ [z])).length) (T0 ++ (fl ++ [z])) = R := by
  have e := h.pi.unit hp hf (by rw [show css[p] = css.getD p [] by simp [List.getD_eq_getElem?_getD, hp]]; exact h1) h2
  have hs := h.sp.short hv
  have h3 := resF_step css (97 - (T0 ++ fl).length) (T0 ++ fl) (by omega) (by rw [e]; exact hz)
  rw [e, h.run, List.append_assoc] at h3
  rw [h3]
  congr 1
  simp; omega
end

end Go.Proofs.YtnihhbfgbilimaaGreatDoor
