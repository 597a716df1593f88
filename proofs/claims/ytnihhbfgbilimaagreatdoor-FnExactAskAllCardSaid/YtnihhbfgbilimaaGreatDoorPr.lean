/-
  A BOOK OF CLAUSES: book.add.
-/
import Derived.Test.YtnihhbfgbilimaaGreatDoorPz
import Derived.Test.YtnihhbfgbilimaaGreatDoorPq
import Derived.Deep.RegionLaw
namespace Go.Proofs.YtnihhbfgbilimaaGreatDoor
open Go.RowKit
set_option linter.unusedVariables false
set_option linter.unusedSimpArgs false

/-- append as one step of a region that draws, by what it yields. -/
theorem step_append_run {P : Program} {ops : Array Oper} {o : Oper} {a : Act} {w : World} {K : Act → World → Prop} {Q : Exit → Act → World → Prop} {E : Prop}
    (hg : o.guard = none) (s x : Operand) (t : TypeId) (hop : o.op = Op.call { callee := Callee.builtin Builtin.append, args := #[s, x], argTypes := #[t, t] })
    (vs vx v9 : Value) (w9 : World) (hs : a.eval s = vs) (hx : a.eval x = vx) (hrun : (Builtin.append_ #[t, t] o.type #[vs, vx]).run P w = .ok v9 w9)
    (hK : K (a.put o.dst v9) w9) :
    if Region.wanted o (yielded ops a.tmps) = true then Oper.wp P o a w K Q else E := by
  have hw : Region.wanted o (yielded ops a.tmps) = true := by simp [Region.wanted, hg]
  rw [if_pos hw]
  unfold Oper.wp
  simp [execOp, hop, resolve, invoke, builtin, hs, hx, hrun, Result.andThen]
  exact hK

/-- The places of a literal, by its number in the book. -/
def occI (css : List (List Int)) (i : Nat) : List Nat := occ css ((i : Int) - 96)
/-- While a clause is put in: so many of its literals are done. -/
def occK (css : List (List Int)) (l : List Int) (k i : Nat) : List Nat := occI css i ++ if ((i : Int) - 96) ∈ l.take k then [css.length] else []
theorem occK_zero (css : List (List Int)) (l : List Int) (i : Nat) : occK css l 0 i = occI css i := by simp [occK]
theorem occK_end (css : List (List Int)) (l : List Int) (k i : Nat) (h : l.length ≤ k) : occK css l k i = occI (css ++ [l]) i := by
  unfold occK occI
  rw [List.take_of_length_le h, occ_add]
theorem occ_le (css : List (List Int)) (z : Int) : (occ css z).length ≤ css.length := by
  unfold occ
  have := List.length_filter_le (fun p => decide (z ∈ css.getD p [])) (List.range css.length)
  simpa using this
theorem occK_step {css : List (List Int)} {l : List Int} {k : Nat} (hk : k < l.length) (hn : l.Nodup) {i0 : Nat} (hi : l.getD k 0 + 96 = (i0 : Int)) (i : Nat) : (if i = i0 then occI css i0 ++ [css.length] else occK css l k i) = occK css l (k + 1) i := by
  have e1 : l.take (k + 1) = l.take k ++ [l.getD k 0] := take_one l k hk
  unfold occK
  rw [e1]
  by_cases e : i = i0
  · subst e
    rw [if_pos rfl, if_pos (by rw [List.mem_append]; right; rw [List.mem_singleton]; omega)]
  · rw [if_neg e]
    have : ((i : Int) - 96 ∈ l.take k ++ [l.getD k 0]) ↔ ((i : Int) - 96 ∈ l.take k) := by
      rw [List.mem_append, List.mem_singleton]
      exact ⟨fun h => h.resolve_right (by omega), .inl⟩
    simp only [this]
theorem occK_now {css : List (List Int)} {l : List Int} {k : Nat} (hk : k < l.length) (hn : l.Nodup) {i0 : Nat} (hi : l.getD k 0 + 96 = (i0 : Int)) : occK css l k i0 = occI css i0 := by
  unfold occK
  rw [if_neg, List.append_nil]
  intro h
  rw [show (i0 : Int) - 96 = l.getD k 0 by omega, show l.getD k 0 = l[k] by simp [List.getD_eq_getElem?_getD, hk]] at h
  obtain ⟨j, hj, e⟩ := List.getElem_of_mem h
  rw [List.length_take] at hj
  rw [List.getElem_take] at e
  exact (List.pairwise_iff_getElem.1 hn) j k (by omega) hk (by omega) e

set_option maxRecDepth 100000 in
set_option maxHeartbeats 4000000 in
/-- book.add. -/
theorem add_any {B bb : Nat} {vc : Value} {hs : List Value} {ms : List LCl} (sl : Option Addr) (cap : Nat) (l : List Int) (w : World) (h : Bk B bb vc hs ms (occI (bareC ms)) w) (hBw : B ≤ w.heap.size) (hms : ms.length ≤ 90000) (hl : l.length ≤ 1000) (hw : ∀ z ∈ l, -96 ≤ z ∧ z ≤ 96) (hnd : l.Nodup) (hi : ∀ W, OnlyK B w W → Ints W sl l) :
    Calls Tryz.prog 192 #[.pointer (some ⟨bb, 0, none⟩), .slice sl l.length cap] w fun e w' => e = .returned (.tuple #[]) ∧ (∃ vc' hs', Bk B bb vc' hs' (ms ++ [(.slice sl l.length cap, l)]) (occI (bareC ms ++ [l])) w') ∧ OnlyK B w w' := by
  have HI := Lib.hid hi
  have HB := Lib.hid h
  obtain ⟨cs, ck, rfl⟩ := own_v h.rc
  have ST := Lib.hid (show ∀ k hs' wr, k < l.length → Bk B bb (.slice cs ms.length ck) hs' ms (occK (bareC ms) l k) wr → OnlyK B w wr → B ≤ wr.heap.size → ∃ (z : Int) (i0 : Nat) (c o : Nat) (s0 : Option Addr) (k0 n0 : Nat) (s9 : Option Addr) (k9 n9 : Nat) (w9 : World), sl = some ⟨c, o, none⟩ ∧ c < wr.heap.size ∧ wr.cell? ⟨c, o + k, none⟩ = some (.int .i64 z) ∧ z + 96 = (i0 : Int) ∧ i0 < 193 ∧ -96 ≤ z ∧ z ≤ 96 ∧ bb < wr.heap.size ∧ wr.cell? ⟨bb, 0, none⟩ = some (.slice cs ms.length ck) ∧ wr.cell? ⟨bb, 1 + i0, none⟩ = some (.slice s0 n0 k0) ∧
      (Builtin.append_ #[238, 238] 238 #[.slice s0 n0 k0, .slice (some ⟨wr.heap.size, 0, none⟩) 1 1]).run Tryz.prog (wr.drew.alloc (.cells #[.int .i64 (ms.length : Int)] 3)) = .ok (.slice s9 n9 k9) w9 ∧ bb < w9.heap.size ∧ (∃ v, w9.cell? ⟨bb, 1 + i0, none⟩ = some v) ∧ w9.frozen? ⟨bb, 1 + i0, none⟩ = false ∧ (∃ hs'', Bk B bb (.slice cs ms.length ck) hs'' ms (occK (bareC ms) l (k + 1)) (w9.setCell ⟨bb, 1 + i0, none⟩ (.slice s9 n9 k9))) ∧ OnlyK B w (w9.setCell ⟨bb, 1 + i0, none⟩ (.slice s9 n9 k9)) from fun k hs' wr hk hbk hok hBr => by
    have hz := hw (l.getD k 0) (by simp [hk])
    obtain ⟨i0, hi0⟩ : ∃ i0 : Nat, l.getD k 0 + 96 = (i0 : Int) := ⟨(l.getD k 0 + 96).toNat, by omega⟩
    have hi3 : i0 < 193 := by omega
    rcases HI.out wr hok with e | ⟨c, o, rfl, hc, hcell⟩
    · rw [e] at hk; simp at hk
    · have hcell' := hcell k hk
      have hA := (hbk.below (below_drew' wr)).below (bA0 wr.drew (.cells #[.int .i64 (ms.length : Int)] 3))
      have hr := hA.row i0 hi3
      rw [occK_now hk hnd hi0] at hr
      have hsz : (wr.drew.alloc (.cells #[.int .i64 (ms.length : Int)] 3)).heap.size = wr.heap.size + 1 := by simp
      obtain ⟨v9, w9, ha, ow, gr, hj⟩ := appN hr ms.length wr.heap.size (cell_at_new wr.drew _ 3) (by omega) (by have := occ_le (bareC ms) ((i0 : Int) - 96); rw [bareC_length] at this; unfold occI; omega)
      obtain ⟨s9, k9, rfl⟩ := own_v ow
      obtain ⟨s0, k0, e0⟩ := own_v hr
      have P := hA.put hi3 gr ow hj
      have hne : (hs'.getD i0 nilV).ownBlock ≠ some bb := fun e => by
        obtain ⟨cur, hc⟩ := own_kind hr e
        rw [hA.blk] at hc
        cases hc
      have hblk9 : w9.heap[bb]? = some (.cells (.slice cs ms.length ck :: hs').toArray 241) := (gr.block bb hA.lt (fun e => hne e.symm)).trans hA.blk
      have K9 : OnlyK B w w9 := (hok.trans ((OnlyK.of_below (below_drew' wr)).trans (OnlyK.of_below (bA0 _ _)))).trans (OnlyK.grown hr (Nat.le_refl _) (.inr rfl) gr)
      have hat := hbk.at hi3
      rw [e0] at hat
      have ha' := ha 238
      rw [e0] at ha'
      refine ⟨l.getD k 0, i0, c, o, s0, k0, (occI (bareC ms) i0).length, s9, k9, _, w9, rfl, hc, hcell', hi0, hi3, hz.1, hz.2, hbk.lt, hbk.facts.2.1, hat, ha', (Array.getElem?_eq_some_iff.1 hblk9).1, ⟨hs'.getD i0 nilV, ?_⟩, by simp [World.frozen?, hblk9], ⟨_, P.rows_eq (fun i hi => ?_)⟩, K9.trans (OnlyK.set h.hb hblk9 _)⟩
      · have hl3 : i0 < hs'.length := by rw [hbk.len]; exact hi3
        have : w9.cell? ⟨bb, 1 + i0, none⟩ = (Value.slice cs ms.length ck :: hs')[1 + i0]? := by simp [World.cell?, hblk9]
        rw [this, Nat.add_comm, List.getElem?_cons_succ, List.getElem?_eq_getElem hl3]
        simp [List.getD_eq_getElem?_getD, hl3]
      · have := occK_step (css := bareC ms) hk hnd hi0 i
        rw [bareC_length] at this
        exact this)
  have FI := Lib.hid (show ∀ hs' wr, Bk B bb (.slice cs ms.length ck) hs' ms (occK (bareC ms) l l.length) wr → OnlyK B w wr → ∃ (s9 : Option Addr) (k9 : Nat) (w9 : World), bb < wr.heap.size ∧ wr.cell? ⟨bb, 0, none⟩ = some (.slice cs ms.length ck) ∧
      (Builtin.append_ #[237, 237] 237 #[.slice cs ms.length ck, .slice (some ⟨wr.heap.size, 0, none⟩) 1 1]).run Tryz.prog (wr.alloc (.cells #[.slice sl l.length cap] 289)) = .ok (.slice s9 (ms.length + 1) k9) w9 ∧ bb < w9.heap.size ∧ (∃ v, w9.cell? ⟨bb, 0, none⟩ = some v) ∧ w9.frozen? ⟨bb, 0, none⟩ = false ∧ ((∃ vc' hs'', Bk B bb vc' hs'' (ms ++ [(.slice sl l.length cap, l)]) (occI (bareC ms ++ [l])) (w9.setCell ⟨bb, 0, none⟩ (.slice s9 (ms.length + 1) k9))) ∧ OnlyK B w (w9.setCell ⟨bb, 0, none⟩ (.slice s9 (ms.length + 1) k9))) from fun hs' wr hbk hok => by
    have hA := hbk.below (bA0 wr (.cells #[.slice sl l.length cap] 289))
    have hr := hA.rc
    have hsz : (wr.alloc (.cells #[.slice sl l.length cap] 289)).heap.size = wr.heap.size + 1 := by simp
    have hBr := hok.size
    rw [← hdC_len ms] at hr
    obtain ⟨v9, w9, ha, ow, gr⟩ := appK hr (.slice sl l.length cap) rfl wr.heap.size (cell_at_new wr _ 289) (by omega) (by rw [hdC_len]; omega)
    obtain ⟨s9, k9, rfl⟩ := own_v ow
    rw [hdC_len] at ha ow gr hr
    have P := hA.clause (r := (.slice sl l.length cap, l)) gr ow
    have hne : (Value.slice cs ms.length ck).ownBlock ≠ some bb := fun e => by
      obtain ⟨cur, hc⟩ := own_kind hA.rc e
      rw [hA.blk] at hc
      cases hc
    have hblk9 : w9.heap[bb]? = some (.cells (.slice cs ms.length ck :: hs').toArray 241) := (gr.block bb hA.lt (fun e => hne e.symm)).trans hA.blk
    have K9 : OnlyK B w w9 := (hok.trans (OnlyK.of_below (bA0 _ _))).trans (OnlyK.grown hA.rc (Nat.le_refl _) (.inl rfl) gr)
    exact ⟨s9, k9, w9, hbk.lt, hbk.facts.2.1, ha 237, (Array.getElem?_eq_some_iff.1 hblk9).1, ⟨_, by simp [World.cell?, hblk9]; rfl⟩, by simp [World.frozen?, hblk9], ⟨⟨_, _, P.rows_eq (fun i hi => occK_end _ _ _ _ (Nat.le_refl _))⟩, K9.trans (OnlyK.set h.hb hblk9 _)⟩⟩)
  have R0 : Hid (Bk B bb (.slice cs ms.length ck) hs ms (occK (bareC ms) l 0) w) := h.rows_eq (fun i _ => (occK_zero _ _ i).symm)
  have LN := hl
  clear hi HI h hw hnd HB hl hms
  generalize l.length = n at *
  generalize ms.length = mn at *
  go_enter Tryz.func192, Tryz.ntmps192
  go_wp2
  go_loopw [8] (fun a wr => ∃ (k : Nat) (y : Int) (hs' : List Value), a = .int .i64 y ∧ Hid (y = (k : Int) ∧ k ≤ n) ∧ Hid (Bk B bb (.slice cs mn ck) hs' ms (occK (bareC ms) l k) wr) ∧ Hid (OnlyK B w wr)) (fun a _ => ((n : Int) - intOf a).toNat)
  case atStart => exact ⟨0, 0, hs, rfl, ⟨rfl, Nat.zero_le _⟩, R0, OnlyK.refl _ _⟩
  case round =>
    obtain ⟨k, y, hs', rfl, HK, G1, T1⟩ := hrel
    clear R0
    by_cases hk : k < n
    · have hlt : y < (n : Int) := by have := HK.out.1; omega
      have hy0 : 0 ≤ y := by have := HK.out.1; omega
      obtain ⟨z, i0, c, o, s0, k0, n0, s9, k9, n9, w9, hsl, hc, hcell, hzi, hi3, hz1, hz2, hbl, hb0, hbi, ha, hb9, ⟨v9, hv9⟩, hf9, ⟨hs2, hbk2⟩, hok2⟩ := ST.out k hs' wr hk G1.out T1.out (Nat.le_trans hBw T1.out.size)
      subst hsl
      have hyk : y.toNat = k := by have := HK.out.1; omega
      have hc2 : wr.cell? ⟨c, o + y.toNat, none⟩ = some (.int .i64 z) := by rw [hyk]; exact hcell
      have hi0 : i0 = (z + 96).toNat := by omega
      subst hi0
      have hw96 : wrap64 (z + 96) = z + 96 := wrap_in _ ⟨by omega, by omega⟩
      have hw97 : IntKind.i64.wrap (z + 96) = z + 96 := by rw [IntKind.wrap_i64]; omega
      have hi1 : 0 ≤ z + 96 := by omega
      have hi2 : z + 96 < 193 := by omega
      have ha2 : (Builtin.append_ #[238, 238] 238 #[.slice s0 n0 k0, .slice (some ⟨wr.heap.size, 0, none⟩) 1 1]).run Tryz.prog (wr.alloc (.cells #[.int .i64 (mn : Int)] 3)).drew = .ok (.slice s9 n9 k9) w9 := ha
      have hwy : wrap64 (y + 1) = y + 1 := wrap_in _ ⟨by omega, by omega⟩
      have MES : Hid (((n : Int) - (y + 1)).toNat < ((n : Int) - y).toNat) := by show _ < _; omega
      have REL : Hid (∃ (k2 : Nat) (y2 : Int) (hs2 : List Value), Value.int .i64 (y + 1) = .int .i64 y2 ∧ Hid (y2 = (k2 : Int) ∧ k2 ≤ n) ∧ Hid (Bk B bb (.slice cs mn ck) hs2 ms (occK (bareC ms) l k2) (w9.setCell ⟨bb, 1 + (z + 96).toNat, none⟩ (.slice s9 n9 k9))) ∧ Hid (OnlyK B w (w9.setCell ⟨bb, 1 + (z + 96).toNat, none⟩ (.slice s9 n9 k9)))) := ⟨k + 1, y + 1, hs2, rfl, ⟨by have := HK.out.1; omega, by omega⟩, hbk2, hok2⟩
      clear hcell hyk hbk2 hok2 ST FI G1 T1 HK hzi
      go_wp2
      go_region_law (refine step_append_run rfl (.tmp 21) (.tmp 27) 238 rfl _ _ _ w9 rfl rfl ha2 ?_)
      all_goals
        go_wp2
        try rw [hwy]
        exact ⟨REL.out, MES.out⟩
    · have hlt : ¬ y < (n : Int) := by have := HK.out.1; omega
      have hkn : k = n := by have := HK.out.2; omega
      subst hkn
      obtain ⟨s9, k9, w9, hbl, hb0, ha, hb9, ⟨v9, hv9⟩, hf9, hfin⟩ := FI.out hs' wr G1.out T1.out
      have FIN := Lib.hid hfin
      clear hfin FI ST G1 T1
      go_wp2_with (at_builtin; refine Lib.wpList_append_run _ rfl _ _ _ _ rfl _ _ rfl rfl _ _ ha ?_)
      go_end0
      exact ⟨rfl, FIN.out⟩

end Go.Proofs.YtnihhbfgbilimaaGreatDoor
