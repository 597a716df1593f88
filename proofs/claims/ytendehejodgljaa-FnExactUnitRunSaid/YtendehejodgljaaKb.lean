/-
  VALUES BY VARIABLE: an array of 97 numbers that stands for a trail; its methods of, put, take.
-/
import Derived.Test.YtendehejodgljaaKa
import Derived.Lib.SliceRun
namespace Go.Proofs.Ytendehejodgljaa
open Go.RowKit
set_option linter.unusedVariables false

/-- What a literal is by a trail: 1, -1 or 0. -/
noncomputable def val (tr : List Int) (z : Int) : Int := @ite _ (z ∈ tr) (Classical.propDecidable _) 1 (@ite _ (-z ∈ tr) (Classical.propDecidable _) (-1) 0)
theorem val_yes {tr : List Int} {z : Int} (h : z ∈ tr) : val tr z = 1 := by unfold val; rw [if_pos h]
theorem val_neg {tr : List Int} {z : Int} (h : z ∉ tr) (h2 : -z ∈ tr) : val tr z = -1 := by unfold val; rw [if_neg h, if_pos h2]
theorem val_no {tr : List Int} {z : Int} (h : z ∉ tr) (h2 : -z ∉ tr) : val tr z = 0 := by unfold val; rw [if_neg h, if_neg h2]
theorem val_cases (tr : List Int) (z : Int) : (val tr z = 1 ∧ z ∈ tr) ∨ (val tr z = -1 ∧ z ∉ tr ∧ -z ∈ tr) ∨ (val tr z = 0 ∧ z ∉ tr ∧ -z ∉ tr) := by
  by_cases h : z ∈ tr
  · exact .inl ⟨val_yes h, h⟩
  · by_cases h2 : -z ∈ tr
    · exact .inr (.inl ⟨val_neg h h2, h, h2⟩)
    · exact .inr (.inr ⟨val_no h h2, h, h2⟩)
theorem val_iff {a b : List Int} {x : Int} (e1 : x ∈ a ↔ x ∈ b) (e2 : -x ∈ a ↔ -x ∈ b) : val b x = val a x := by
  rcases val_cases a x with ⟨e, h1⟩ | ⟨e, h1, h2⟩ | ⟨e, h1, h2⟩
  · rw [e, val_yes (e1.1 h1)]
  · rw [e, val_neg (fun h => h1 (e1.2 h)) (e2.1 h2)]
  · rw [e, val_no (fun h => h1 (e1.2 h)) (fun h => h2 (e2.2 h))]
/-- No literal of it beside its minus. -/
def Cons (tr : List Int) : Prop := ∀ z ∈ tr, -z ∉ tr
theorem val_minus {tr : List Int} (h : Cons tr) (z : Int) : -val tr (-z) = val tr z := by
  rcases val_cases tr z with ⟨e, h1⟩ | ⟨e, h1, h2⟩ | ⟨e, h1, h2⟩
  · rw [e, val_neg (h z h1) (by simpa using h1)]; rfl
  · rw [e, val_yes h2]
  · rw [e, val_no h2 (by simpa using h1)]; rfl

/-- The array of the values of a trail. -/
noncomputable def vArr (tr : List Int) : Array Value := ((List.range 97).map fun k : Nat => Value.int .i64 (val tr (k : Int))).toArray
def VAt (w : World) (b : Nat) (tr : List Int) : Prop := w.heap[b]? = some (.cells (vArr tr) 59)
theorem vArr_size (tr : List Int) : (vArr tr).size = 97 := by simp [vArr]
theorem vArr_at (tr : List Int) (k : Nat) (h : k < 97) : (vArr tr)[k]? = some (.int .i64 (val tr (k : Int))) := by simp [vArr, h]
theorem VAt.lt {w : World} {b : Nat} {tr : List Int} (h : VAt w b tr) : b < w.heap.size := (Array.getElem?_eq_some_iff.1 h).1
theorem VAt.cell {w : World} {b : Nat} {tr : List Int} (h : VAt w b tr) (k : Nat) (hk : k < 97) : w.cell? ⟨b, k, none⟩ = some (.int .i64 (val tr (k : Int))) := by
  have : w.cell? ⟨b, k, none⟩ = (vArr tr)[k]? := by unfold VAt at h; simp [World.cell?, h]
  rw [this, vArr_at tr k hk]
theorem VAt.frozen {w : World} {b : Nat} {tr : List Int} (h : VAt w b tr) (k : Nat) : w.frozen? ⟨b, k, none⟩ = false := by unfold VAt at h; simp [World.frozen?, h]
theorem VAt.kept {w w' : World} {b : Nat} {tr : List Int} (h : VAt w b tr) (e : w'.heap[b]? = w.heap[b]?) : VAt w' b tr := e.trans h
theorem VAt.below {w w' : World} {b : Nat} {tr : List Int} (h : VAt w b tr) (hb : Below w.heap.size w w') : VAt w' b tr := (hb.block b h.lt).trans h
theorem vArr_nil : Try.zeroCells59 = vArr [] := by
  have h : Try.zeroCells59 = ((List.range 97).map fun _ => Value.int .i64 0).toArray := by kernel_rfl
  rw [h]
  unfold vArr
  congr 1
  apply List.map_congr_left
  intro k _
  rw [val_no (by simp) (by simp)]
/-- A literal more. -/
theorem vArr_put (tr : List Int) (z : Int) (i : Nat) (u : Int) (h1 : z ∉ tr) (h2 : -z ∉ tr) (hi : (z = (i : Int) ∧ u = 1) ∨ (z = -(i : Int) ∧ u = -1 ∧ 0 < i)) : (vArr tr).setIfInBounds i (.int .i64 u) = vArr (tr ++ [z]) := by
  apply Array.ext
  · simp [vArr]
  · intro k a1 a2
    simp only [Array.size_setIfInBounds] at a1
    rw [Array.getElem_setIfInBounds a1]
    simp only [vArr, List.getElem_toArray, List.getElem_map, List.getElem_range]
    by_cases hk : i = k
    · subst hk
      rw [if_pos rfl]
      rcases hi with ⟨rfl, rfl⟩ | ⟨rfl, rfl, h0⟩
      · rw [val_yes (by simp)]
      · rw [val_neg (by simp at h2 ⊢; exact ⟨h2, by omega⟩) (by simp)]
    · rw [if_neg hk]
      have e1 : ((k : Int) ∈ tr ++ [z]) ↔ (k : Int) ∈ tr := by
        simp only [List.mem_append, List.mem_singleton]
        exact ⟨fun h => by rcases h with h | h; exact h; rcases hi with ⟨rfl, _⟩ | ⟨rfl, _, _⟩ <;> omega, .inl⟩
      have e2 : (-(k : Int) ∈ tr ++ [z]) ↔ -(k : Int) ∈ tr := by
        simp only [List.mem_append, List.mem_singleton]
        exact ⟨fun h => by rcases h with h | h; exact h; rcases hi with ⟨rfl, _⟩ | ⟨rfl, _, _⟩ <;> omega, .inl⟩
      rw [val_iff e1 e2]
theorem VAt.put {w : World} {b : Nat} {tr : List Int} (h : VAt w b tr) (z : Int) (i : Nat) (u : Int) (h1 : z ∉ tr) (h2 : -z ∉ tr) (hi : (z = (i : Int) ∧ u = 1) ∨ (z = -(i : Int) ∧ u = -1 ∧ 0 < i)) : VAt (w.setCell ⟨b, i, none⟩ (.int .i64 u)) b (tr ++ [z]) := by
  have := heap_setCell_same w b i (vArr tr) 59 (.int .i64 u) h
  rw [vArr_put tr z i u h1 h2 hi] at this
  exact this
theorem Cons.put {tr : List Int} {z : Int} (h : Cons tr) (h1 : z ∉ tr) (h2 : -z ∉ tr) (h0 : z ≠ 0) : Cons (tr ++ [z]) := by
  intro y hy hn
  simp only [List.mem_append, List.mem_singleton] at hy hn
  rcases hy with hy | rfl
  · rcases hn with hn | hn
    · exact h y hy hn
    · exact h2 (by rw [← hn]; simpa using hy)
  · rcases hn with hn | hn
    · exact h2 hn
    · omega

set_option maxRecDepth 100000 in
set_option maxHeartbeats 1000000 in
/-- values.of. -/
theorem of_any (b : Nat) (tr : List Int) (z : Int) (w : World) (hv : VAt w b tr) (hc : Cons tr) (h1 : -96 ≤ z) (h2 : z ≤ 96) :
    Calls Try.prog 58 #[.pointer (some ⟨b, 0, none⟩), .int .i64 z] w fun e w' => e = .returned (.int .i64 (val tr z)) ∧ w' = w := by
  have hlt := hv.lt
  by_cases h : z < 0
  · have e : Hid (-val tr (-z) = val tr z) := val_minus hc z
    obtain ⟨k, hk⟩ : ∃ k : Nat, -z = (k : Int) := ⟨(-z).toNat, by omega⟩
    have hcell := hv.cell k (by omega)
    have hw : (-z).toNat = k := by omega
    have hk4 : -z < 97 := by omega
    have hk5 : 0 ≤ -z := by omega
    have hk2 : (k : Int) < 97 := by omega
    have hk3 : k < 97 := by omega
    have e2 : Hid (wrap64 (-val tr (k : Int)) = val tr z) := by
      show wrap64 (-val tr (k : Int)) = val tr z
      rw [← hk, wrap_in, e.out]
      rcases val_cases tr (-z) with ⟨g, _⟩ | ⟨g, _⟩ | ⟨g, _⟩ <;> rw [g] <;> omega
    clear hv hk e
    generalize val tr (k : Int) = y at *
    go_enter Try.func58, Try.ntmps58
    go_wp2
    go_ret
    exact ⟨by rw [e2.out]; rfl, rfl⟩
  · obtain ⟨k, rfl⟩ : ∃ k : Nat, z = (k : Int) := ⟨z.toNat, by omega⟩
    have hcell := hv.cell k (by omega)
    have hk2 : (k : Int) < 97 := by omega
    have hk3 : k < 97 := by omega
    clear hv
    generalize val tr (k : Int) = y at *
    go_enter Try.func58, Try.ntmps58
    go_wp2
    go_ret
    exact ⟨rfl, rfl⟩

set_option maxRecDepth 100000 in
set_option maxHeartbeats 1000000 in
/-- values.put. -/
theorem put_any (b : Nat) (tr : List Int) (z : Int) (w : World) (hv : VAt w b tr) (h1 : -96 ≤ z) (h2 : z ≤ 96) (h0 : z ≠ 0) (n1 : z ∉ tr) (n2 : -z ∉ tr) :
    Calls Try.prog 59 #[.pointer (some ⟨b, 0, none⟩), .int .i64 z] w fun e w' => e = .returned (.tuple #[]) ∧ VAt w' b (tr ++ [z]) ∧ ∃ i v, w' = w.setCell ⟨b, i, none⟩ v := by
  have hlt := hv.lt
  by_cases h : z < 0
  · obtain ⟨k, hk⟩ : ∃ k : Nat, -z = (k : Int) := ⟨(-z).toNat, by omega⟩
    have hcell := hv.cell k (by omega)
    have hfr := hv.frozen k
    have hw : (-z).toNat = k := by omega
    have hk4 : -z < 97 := by omega
    have hk5 : 0 ≤ -z := by omega
    have hk2 : (k : Int) < 97 := by omega
    have hk3 : k < 97 := by omega
    have P := Lib.hid (hv.put z k (-1) n1 n2 (.inr ⟨by omega, rfl, by omega⟩))
    clear hv hk n1 n2
    go_enter Try.func59, Try.ntmps59
    go_wp2
    refine bodyPost_ret (results_none rfl _ _ _) rfl ?_
    exact ⟨rfl, P.out, _, _, rfl⟩
  · obtain ⟨k, rfl⟩ : ∃ k : Nat, z = (k : Int) := ⟨z.toNat, by omega⟩
    have hcell := hv.cell k (by omega)
    have hfr := hv.frozen k
    have hk2 : (k : Int) < 97 := by omega
    have hk3 : k < 97 := by omega
    have P := Lib.hid (hv.put k k 1 n1 n2 (.inl ⟨rfl, rfl⟩))
    clear hv n1 n2
    go_enter Try.func59, Try.ntmps59
    go_wp2
    go_end0
    exact ⟨rfl, P.out, _, _, rfl⟩

theorem SpTo.pre {vars : Int} {zs : List Int} {k : Nat} (h : SpTo vars zs k) (hk : k ≤ zs.length) : ∀ z ∈ zs.take k, OkZ vars z ∧ -z ∉ zs.take k := by
  intro z hz
  obtain ⟨i, hi, rfl⟩ := List.getElem_of_mem hz
  have hi' : i < k := by simp at hi; omega
  have hg : (zs.take k)[i] = zs.getD i 0 := by simp [show i < zs.length by omega]
  refine ⟨by rw [hg]; exact (h i hi').1, fun hn => ?_⟩
  obtain ⟨j, hj, e⟩ := List.getElem_of_mem hn
  have hj' : j < k := by simp at hj; omega
  have hg2 : (zs.take k)[j] = zs.getD j 0 := by simp [show j < zs.length by omega]
  rw [hg, hg2] at e
  have n0 := (h i hi').1.1
  rcases Nat.lt_trichotomy i j with g | g | g
  · exact ((h j hj').2 i g).2 (by omega)
  · subst g; omega
  · exact ((h i hi').2 j g).2 e
theorem SpTo.cons {vars : Int} {zs : List Int} {k : Nat} (h : SpTo vars zs k) (hk : k ≤ zs.length) : Cons (zs.take k) := fun z hz => (h.pre hk z hz).2
theorem apart_iff (zs : List Int) (k : Nat) (hk : k < zs.length) : Apart zs k k ↔ zs.getD k 0 ∉ zs.take k ∧ -zs.getD k 0 ∉ zs.take k := by
  have hg : ∀ j, j < k → ∀ h : j < (zs.take k).length, (zs.take k)[j] = zs.getD j 0 := fun j hj h => by simp [show j < zs.length by omega]
  constructor
  · intro h
    refine ⟨fun hm => ?_, fun hm => ?_⟩
    · obtain ⟨j, hj, e⟩ := List.getElem_of_mem hm
      have hj' : j < k := by simp at hj; omega
      rw [hg j hj' hj] at e
      exact (h j hj').1 e
    · obtain ⟨j, hj, e⟩ := List.getElem_of_mem hm
      have hj' : j < k := by simp at hj; omega
      rw [hg j hj' hj] at e
      exact (h j hj').2 e
  · rintro ⟨h1, h2⟩ j hj
    have hl : j < (zs.take k).length := by simp; omega
    refine ⟨fun e => h1 ?_, fun e => h2 ?_⟩
    · rw [← e, ← hg j hj hl]; exact List.getElem_mem _
    · rw [← e, ← hg j hj hl]; exact List.getElem_mem _
theorem take_one (zs : List Int) (k : Nat) (hk : k < zs.length) : zs.take (k + 1) = zs.take k ++ [zs.getD k 0] := by
  rw [List.take_succ_eq_append_getElem hk]; simp [hk]

/-- Ninety-seven cells of the array's type. -/
def VBlk (w : World) (b : Nat) : Prop := ∃ vs : Array Value, vs.size = 97 ∧ w.heap[b]? = some (.cells vs 59)
theorem VAt.blk {w : World} {b : Nat} {tr : List Int} (h : VAt w b tr) : VBlk w b := ⟨_, vArr_size tr, h⟩
theorem zero2 : ∀ w, (zeroValue 2).run Try.prog w = .ok (.int .i64 0) w := Try.zeroValue2
/-- clear: the array of no literal. -/
theorem clear_arr (b : Nat) (w : World) (h : VBlk w b) (ty : TypeId) :
    ∃ w', (Builtin.clear_ #[26] ty #[.slice (some ⟨b, 0, none⟩) 97 97]).run Try.prog w = .ok (.tuple #[]) w' ∧ VAt w' b [] ∧ Below b w w' ∧ w'.heap.size = w.heap.size := by
  obtain ⟨vs, hs, hb⟩ := h
  have hc : ∀ j, j < 97 → (w.cell? ⟨b, 0 + j, none⟩).isSome = true := fun j hj => by simp [World.cell?, hb, hs, hj]
  have hf : ∀ j, j < 97 → w.frozen? ⟨b, 0 + j, none⟩ = false := fun j hj => by simp [World.frozen?, hb]
  refine ⟨_, Lib.run_clear_slice w 26 2 ty (.int .i64 0) Try.underlying26 zero2 rfl rfl b 0 97 97 (by omega) hc hf, ?_⟩
  have key : ∀ (ws : List Value) (o : Nat) (W : World) (us : Array Value), W.heap[b]? = some (.cells us 59) → o + ws.length = us.size → ∃ us', (W.setCells b o ws).heap[b]? = some (.cells us' 59) ∧ us'.size = us.size ∧ (∀ k, k < o → us'[k]? = us[k]?) ∧ (∀ k, k < ws.length → us'[o + k]? = ws[k]?) ∧ Below b W (W.setCells b o ws) ∧ (W.setCells b o ws).heap.size = W.heap.size := by
    intro ws
    induction ws with
    | nil => intro o W us h1 h2; exact ⟨us, h1, rfl, fun _ _ => rfl, fun k hk => by simp at hk, Below.refl _ _, rfl⟩
    | cons v r ih =>
      intro o W us h1 h2
      simp only [List.length_cons] at h2
      obtain ⟨us', g1, g2, g3, g4, g5, g6⟩ := ih (o + 1) (W.setCell ⟨b, o, none⟩ v) (us.setIfInBounds o v) (heap_setCell_same W b o us 59 v h1) (by simp; omega)
      refine ⟨us', g1, by rw [g2]; simp, fun k hk => ?_, fun k hk => ?_, ((Below.refl b W).setCell (p := ⟨b, o, none⟩) (Nat.le_refl _) v).trans g5, by rw [World.setCells, g6]; simp⟩
      · rw [g3 k (by omega), Array.getElem?_setIfInBounds_ne (by omega)]
      · cases k with
        | zero => rw [Nat.add_zero, g3 o (by omega), Array.getElem?_setIfInBounds_self_of_lt (by omega)]; rfl
        | succ k => 
          have := g4 k (by simpa using hk)
          rw [show o + (k + 1) = o + 1 + k by omega, this]; simp
  obtain ⟨us', g1, g2, g3, g4, g5, g6⟩ := key (List.replicate 97 (.int .i64 0)) 0 w vs hb (by simp [hs])
  refine ⟨?_, g5, g6⟩
  unfold VAt
  rw [g1]
  suffices hu : us' = vArr [] by rw [hu]
  apply Array.ext
  · rw [g2, hs, vArr_size]
  · intro i b1 b2
    have a1 : i < 97 := by rw [g2, hs] at b1; exact b1
    have e1 := g4 i (by simpa using a1)
    rw [Nat.zero_add, Array.getElem?_eq_getElem (by omega), List.getElem?_eq_getElem (by simpa using a1)] at e1
    have e2 := vArr_at [] i a1
    rw [Array.getElem?_eq_getElem (by rw [vArr_size]; exact a1)] at e2
    rw [Option.some.inj e1, Option.some.inj e2, val_no (by simp) (by simp)]
    exact List.getElem_replicate _

set_option maxRecDepth 100000 in
set_option maxHeartbeats 4000000 in
/-- values.take. -/
theorem take_any (b : Nat) (vars : Int) (sl : Option Addr) (cap : Nat) (zs : List Int) (w : World) (hb : VBlk w b) (hv0 : 0 ≤ vars) (hv1 : vars ≤ 96) (hn : zs.length ≤ maxLen) (hz : zs = [] ∨ ∃ c o, sl = some ⟨c, o, none⟩ ∧ IntsAt w c o zs ∧ c < b) :
    Calls Try.prog 39 #[.pointer (some ⟨b, 0, none⟩), .slice sl zs.length cap, .int .i64 vars] w fun e w' => e = .returned (.bool (B (SpTo vars zs zs.length))) ∧ (SpTo vars zs zs.length → VAt w' b zs) ∧ Below b w w' ∧ w'.heap.size = w.heap.size := by
  unfold maxLen at hn
  obtain ⟨w0, hrun, hva, hbl, hsz⟩ := clear_arr b w hb 0
  have hlt := hva.lt
  have hlt0 : b < w.heap.size := by omega
  have HV := Lib.hid hva
  have HB := Lib.hid hbl
  have HS := Lib.hid hsz
  have hnv : wrap64 (-vars) = -vars := wrap_in _ ⟨by omega, by omega⟩
  have ZC : Hid (∀ W, Below b w W → ∀ k, k < zs.length → ∃ c o, sl = some ⟨c, o, none⟩ ∧ W.cell? ⟨c, o + k, none⟩ = some (.int .i64 (zs.getD k 0))) := fun W hW k hk => by
    rcases hz with e | ⟨c, o, e, hi, hc⟩
    · rw [e] at hk; simp at hk
    · exact ⟨c, o, e, (hW.cell (p := ⟨c, o + k, none⟩) hc).trans (hi.2 k hk)⟩
  have PUT := Lib.hid (show ∀ W k, k < zs.length → VAt W b (zs.take k) → OkZ vars (zs.getD k 0) → Apart zs k k → Calls Try.prog 59 #[.pointer (some ⟨b, 0, none⟩), .int .i64 (zs.getD k 0)] W fun e w' => e = .returned (.tuple #[]) ∧ VAt w' b (zs.take (k + 1)) ∧ ∃ i v, w' = W.setCell ⟨b, i, none⟩ v from fun W k hk h1 h2 h3 => by
    rw [take_one zs k hk]
    have := (apart_iff zs k hk).1 h3
    exact put_any b (zs.take k) (zs.getD k 0) W h1 (by have := h2.2.2; omega) (by have := h2.2.1; omega) h2.1 this.1 this.2)
  have OF := Lib.hid (show ∀ W k, k < zs.length → VAt W b (zs.take k) → SpTo vars zs k → OkZ vars (zs.getD k 0) → Calls Try.prog 58 #[.pointer (some ⟨b, 0, none⟩), .int .i64 (zs.getD k 0)] W fun e w' => e = .returned (.int .i64 (val (zs.take k) (zs.getD k 0))) ∧ w' = W from fun W k hk h1 h2 h3 => of_any b (zs.take k) (zs.getD k 0) W h1 (h2.cons (by omega)) (by have := h3.2.2; omega) (by have := h3.2.1; omega))
  have NN := Lib.hid (show ∀ i, i < zs.length → ¬ (OkZ vars (zs.getD i 0) ∧ Apart zs i i) → ¬ SpTo vars zs zs.length from fun i hi h g => h (g i hi))
  have V0 := Lib.hid (show ∀ W, VAt W b [] → VAt W b (zs.take 0) from fun W h => by simpa using h)
  have VE := Lib.hid (show ∀ W k, zs.length ≤ k → VAt W b (zs.take k) → VAt W b zs from fun W k hk h => by rwa [List.take_of_length_le hk] at h)
  have AV := Lib.hid (show ∀ k, k < zs.length → (val (zs.take k) (zs.getD k 0) = 0 → Apart zs k k) ∧ (¬ val (zs.take k) (zs.getD k 0) = 0 → ¬ Apart zs k k) from fun k hk => by
    rw [apart_iff zs k hk]
    rcases val_cases (zs.take k) (zs.getD k 0) with ⟨e, h1⟩ | ⟨e, h1, h2⟩ | ⟨e, h1, h2⟩
    · exact ⟨fun h => by omega, fun _ g => g.1 h1⟩
    · exact ⟨fun h => by omega, fun _ g => g.2 h2⟩
    · exact ⟨fun _ => ⟨h1, h2⟩, fun h => absurd e h⟩)
  clear hz hva hbl hsz hb
  generalize hQ : SpTo vars zs zs.length = Q at *
  have HQ := Lib.hid hQ
  clear hQ
  generalize hN : zs.length = n at *
  have HN := Lib.hid hN
  clear hN
  go_enter Try.func39, Try.ntmps39
  go_wp2
  go_loopw [14] (fun i wr => ∃ k : Nat, i = .int .i64 k ∧ k ≤ n ∧ Hid (SpTo vars zs k) ∧ Hid (VAt wr b (zs.take k)) ∧ Hid (Below b w wr) ∧ Hid (wr.heap.size = w.heap.size)) (fun i _ => n - (intOf i).toNat)
  case atStart => exact ⟨0, rfl, Nat.zero_le _, SpTo.zero _ _, V0.out _ HV.out, HB.out, HS.out⟩
  case round =>
    obtain ⟨k, rfl, hk, H1, H2, H3, H4⟩ := hrel
    have hk0 : (0 : Int) ≤ (k : Int) := by omega
    have hltr : b < wr.heap.size := H2.out.lt
    by_cases h1 : k < n
    · have h1' : (k : Int) < (n : Int) := by omega
      obtain ⟨c, o, rfl, hc⟩ := ZC.out wr H3.out k h1
      have NO := Lib.hid (NN.out k h1)
      by_cases a1 : zs.getD k 0 = 0
      · have HF := Lib.hid (NO.out (fun g => g.1.1 a1))
        rw [a1] at hc
        clear NO NN AV OF PUT ZC
        go_wp2
        go_ret
        exact ⟨by rw [B_no HF.out]; rfl, fun h => absurd h HF.out, H3.out, H4.out⟩
      have a1' : (zs.getD k 0 == 0) = false := by simpa using a1
      by_cases a2 : zs.getD k 0 < -vars
      · have HF := Lib.hid (NO.out (fun g => by have := g.1.2.2; omega))
        clear NO NN AV OF PUT ZC
        generalize zs.getD k 0 = z at *
        go_wp2
        go_ret
        exact ⟨by rw [B_no HF.out]; rfl, fun h => absurd h HF.out, H3.out, H4.out⟩
      by_cases a3 : vars < zs.getD k 0
      · have HF := Lib.hid (NO.out (fun g => by have := g.1.2.1; omega))
        clear NO NN AV OF PUT ZC
        generalize zs.getD k 0 = z at *
        go_wp2
        go_ret
        exact ⟨by rw [B_no HF.out]; rfl, fun h => absurd h HF.out, H3.out, H4.out⟩
      have OK := Lib.hid (show OkZ vars (zs.getD k 0) from ⟨a1, by omega, by omega⟩)
      have CO := Lib.hid (OF.out wr k h1 H2.out H1.out OK.out)
      by_cases a4 : val (zs.take k) (zs.getD k 0) = 0
      · have AP := Lib.hid ((AV.out k h1).1 a4)
        have CP := Lib.hid (PUT.out wr k h1 H2.out OK.out AP.out)
        have HS2 := Lib.hid (H1.out.step OK.out AP.out)
        rw [a4] at CO
        clear NO NN AV OF PUT ZC AP OK a4
        generalize zs.getD k 0 = z at *
        go_wp2_with fail
        refine CO.out.mono ?_
        rintro e wq ⟨rfl, rfl⟩
        go_wp2_with fail
        refine CP.out.mono ?_
        rintro e wq ⟨rfl, hva, i, v, hset⟩
        have K3 := Lib.hid (show Below b w wq by rw [hset]; exact H3.out.setCell (p := ⟨b, i, none⟩) (Nat.le_refl _) v)
        have K4 := Lib.hid (show wq.heap.size = w.heap.size by rw [hset]; simpa using H4.out)
        have K2 := Lib.hid hva
        clear hva hset CP CO
        go_wp2
        go_roundw
        case rel => exact ⟨k + 1, by go_num, by omega, HS2, K2, K3, K4⟩
        case measure => simp [intOf]; omega
      · have HF := Lib.hid (NO.out (fun g => (AV.out k h1).2 a4 g.2))
        have a4' : (val (zs.take k) (zs.getD k 0) == 0) = false := by simpa using a4
        clear NO NN AV OF PUT ZC OK
        generalize val (zs.take k) (zs.getD k 0) = y at *
        generalize zs.getD k 0 = z at *
        go_wp2_with fail
        refine CO.out.mono ?_
        rintro e wq ⟨rfl, rfl⟩
        go_wp2
        go_ret
        exact ⟨by rw [B_no HF.out]; rfl, fun h => absurd h HF.out, H3.out, H4.out⟩
    · have h1' : ¬ (k : Int) < (n : Int) := by omega
      have HY := Lib.hid (show Q by rw [← HQ.out]; have := H1.out; rwa [show k = n by omega] at this)
      have HE := Lib.hid (VE.out wr k (by omega) H2.out)
      clear NN AV OF PUT ZC
      go_wp2
      go_ret
      exact ⟨by rw [B_yes HY.out]; rfl, fun _ => HE.out, H3.out, H4.out⟩

end Go.Proofs.Ytendehejodgljaa
