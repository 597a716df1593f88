/-
  A ROW APPENDED TO AN EMPTY ROW OF ONE's OWN; a station and a pair as words.
-/
import Derived.Test.YtdndhhkpbcpalaaDoorKg
import Derived.Test.YtdndhhkpbcpalaaDoorDa
import Derived.Deep.AppendSrc
import Derived.Deep.AppendLies
namespace Go.Proofs.YtdndhhkpbcpalaaDoor
open Go.RowKit
set_option linter.unusedVariables false
set_option linter.unusedSimpArgs false

/-- A row of one's own appended to an empty one. -/
theorem run_append_own {w : World} (t ty e : TypeId) (i : TypeInfo) (z : Value) (sz by_ : Nat) (ht : Tryd.prog.underlying t = some (.slice e)) (hi : Tryd.prog.info? e = some i) (hz : i.zero = some z) (hsz : i.size = sz) (hby : i.bytes = by_) (hzs : z.cells.size = sz) (hp : 0 < sz) (hb : by_ ≤ 1000)
    (B b : Nat) (hown : w.ownsRow B e sz (.slice (some ⟨b, 0, none⟩) 0 0) 0 []) (C : Nat) (v : Value) (n : Nat) (xs : List Value) (hv : w.ownsRow C e sz v n xs) (hx1 : ∀ u ∈ xs, u.oneCell' = true) (hn : n ≤ 1048577) (hbase : B ≤ w.heap.size) :
    ∃ v' w', (Builtin.append_ #[t, t] ty #[.slice (some ⟨b, 0, none⟩) 0 0, v]).run Tryd.prog w = .ok v' w' ∧ w'.ownsRow B e sz v' n xs ∧ w.grownBy w' (some b) := by
  have hl : xs.length = n * sz := hv.1
  by_cases he : n = 0
  · subst he
    obtain rfl : xs = [] := List.eq_nil_of_length_eq_zero (by omega)
    obtain ⟨sl, m, c, e2⟩ := IsSl.own hv
    have hm : m = 0 := by
      rcases hv.2 with ⟨e3, h0⟩ | ⟨g, cap, cur, e3, _⟩
      · rw [e3] at e2; exact (Value.slice.inj e2).2.1.symm
      · rw [e3] at e2; exact (Value.slice.inj e2).2.1.symm
    subst hm
    subst e2
    have S : Src Tryd.prog i.size t (.slice sl 0 c) 0 [] w := by
      cases sl with
      | none => exact Src.ofNil w ht c
      | some a => exact Src.ofSlice w ht a 0 c [] (by simp) (by simp) (by simp)
    exact ⟨_, _, run_append_room_src (P := Tryd.prog) w t t ty e i ht hi b 0 0 0 (.slice sl 0 c) 0 [] S (by omega) (by simp) (by simp), hown, World.grownBy.refl _ _⟩
  · rcases hv.2 with ⟨_, h0⟩ | ⟨g, cap, cur, rfl, _, hgb, _⟩
    · exact absurd h0 he
    · obtain ⟨g', cap', w', hr, h3, h4, -⟩ := run_append_lies (P := Tryd.prog) w t ty B e i z sz by_ ht hi hz hsz hby hzs hp _ _ _ hown ⟨g, 0, none⟩ n cap xs hl (fun j u hu => by
        have hj : j < xs.length := (List.getElem?_eq_some_iff.1 hu).1
        have ha : (⟨g, 0, none⟩ : Addr).add j = ⟨g, j, none⟩ := by
          unfold Addr.add
          by_cases h : j = 0 <;> simp [h]
        rw [ha, hv.cellAt j (by omega), hu]) hx1 (by omega) (by unfold maxLen; omega) (by
          have : (0 + n) * by_ ≤ 1048577 * 1000 := Nat.mul_le_mul (by omega) hb
          omega) hbase _ rfl
      refine ⟨_, w', hr, ?_, h4⟩
      have h5 := h3
      simp only [Nat.zero_add, List.nil_append] at h5 ⊢
      exact h5
theorem step_append_own {w : World} {ops : Array Oper} {o : Oper} {a : Act} {K : Act → World → Prop} {Q : Exit → Act → World → Prop} {E : Prop} (hgd : o.guard = none) (s x : Operand) (t e : TypeId)
    (ho : o.op = .call { callee := .builtin .append, args := #[s, x], argTypes := #[t, t] }) (i : TypeInfo) (z : Value) (sz by_ : Nat) (ht : Tryd.prog.underlying t = some (.slice e)) (hi : Tryd.prog.info? e = some i) (hz : i.zero = some z) (hsz : i.size = sz) (hby : i.bytes = by_) (hzs : z.cells.size = sz) (hp : 0 < sz) (hb : by_ ≤ 1000)
    (B b : Nat) (hs : a.eval s = .slice (some ⟨b, 0, none⟩) 0 0) (hown : w.ownsRow B e sz (.slice (some ⟨b, 0, none⟩) 0 0) 0 []) (C : Nat) (v : Value) (n : Nat) (xs : List Value) (hx : a.eval x = v) (hv : w.ownsRow C e sz v n xs) (hx1 : ∀ u ∈ xs, u.oneCell' = true) (hn : n ≤ 1048577) (hbase : B ≤ w.heap.size)
    (h : ∀ sl' c' w', w'.ownsRow B e sz (.slice sl' n c') n xs → w.grownBy w' (some b) → K (a.put o.dst (.slice sl' n c')) w') :
    if Region.wanted o (yielded ops a.tmps) = true then Oper.wp Tryd.prog o a w K Q else E := by
  have hw : Region.wanted o (yielded ops a.tmps) = true := by simp [Region.wanted, hgd]
  rw [if_pos hw]
  obtain ⟨v', w', hr, h2, h3⟩ := run_append_own t o.type e i z sz by_ ht hi hz hsz hby hzs hp hb B b hown C v n xs hv hx1 hn hbase
  obtain ⟨sl', c', rfl⟩ : ∃ sl' c', v' = .slice sl' n c' := by
    rcases h2.2 with ⟨e3, h0⟩ | ⟨g, cap, cur, e3, _⟩
    · exact ⟨_, _, by rw [h0]; exact e3⟩
    · exact ⟨_, _, e3⟩
  unfold Oper.wp execOp
  simp only [ho, resolve, invoke, builtin, Sem.run_bind, Sem.run_pure, Result.andThen_ok, List.map_toArray, List.map_cons, List.map_nil, hs, hx, hr]
  exact h sl' c' w' h2 h3
theorem stC_one (rs : List LSt) {w : World} {C : Nat} (h : ∀ r ∈ rs, TailOf w C r) : ∀ u ∈ stC rs, u.oneCell' = true := by
  intro u hu
  unfold stC at hu
  obtain ⟨r, hr, hu⟩ := List.mem_flatMap.1 hu
  obtain ⟨g, o, cap, kap, zs, e, _⟩ := h r hr
  simp at hu
  rcases hu with rfl | rfl | rfl
  · rfl
  · rfl
  · rw [e]; rfl
theorem prC_one (ps : List LPr) : ∀ u ∈ prC ps, u.oneCell' = true := by
  intro u hu
  unfold prC at hu
  obtain ⟨r, hr, hu⟩ := List.mem_flatMap.1 hu
  simp at hu
  rcases hu with rfl | rfl | rfl <;> rfl
theorem numB_flat (zs : List Int) : zs.flatMap numB = numsT zs := by
  induction zs with
  | nil => rfl
  | cons a r ih =>
    rw [List.flatMap_cons, ih]
    simp [numsT, tailW, numB]
theorem stat_words (a b : Int) (ds : List Int) : statB a b ds = staW ++ numsT (a :: b :: ds) := by
  unfold statB
  rw [numB_flat]
  rfl
theorem pair_words (a b k : Int) (wd : List UInt8) (hw : wd = samW ∨ wd = besW) (hk : k = kindW wd) : pairB (a, b, k) = wd ++ numsT [a, b] := by
  unfold pairB
  rw [numB_flat]
  congr 1
  rcases hw with rfl | rfl
  · subst hk; rfl
  · subst hk; rfl
theorem sc_below {w w' : World} {ad : Nat} {news : List Value} (h : ∀ j u, news[j]? = some u → w.cell? ((⟨ad, 0, none⟩ : Addr).add j) = some u) (hl : ad < w.heap.size) (hb : w'.heap[ad]? = w.heap[ad]?) : ∀ j u, news[j]? = some u → w'.cell? ((⟨ad, 0, none⟩ : Addr).add j) = some u := by
  intro j u hu
  have ha : (⟨ad, 0, none⟩ : Addr).add j = ⟨ad, j, none⟩ := by
    unfold Addr.add
    by_cases h : j = 0 <;> simp [h]
  have := h j u hu
  rw [ha] at this ⊢
  exact (World.cell?_of_block hb).trans this

end Go.Proofs.YtdndhhkpbcpalaaDoor
