/-
  A DRAWN PLAN IS FOUND RIGHT: the walk of FnPlanFind over what the functions that it calls answer.
-/
import Derived.Test.YtgfclllfkpblnaaAp
namespace Go.Proofs.Ytgfclllfkpblnaa
open Go.RowKit
set_option linter.unusedVariables false
set_option linter.unusedSimpArgs false

theorem fx {w : World} {b : Nat} {t : TypeId} {x0 x1 x2 x3 : Value} (h : w.heap[b]? = some (.cells #[x0, x1, x2, x3] t)) : b < w.heap.size ∧ w.cell? ⟨b, 0, none⟩ = some x0 ∧ w.cell? ⟨b, 1, none⟩ = some x1 ∧ w.cell? ⟨b, 2, none⟩ = some x2 ∧ w.cell? ⟨b, 3, none⟩ = some x3 ∧ ∀ o, w.frozen? ⟨b, o, none⟩ = false := by
  refine ⟨(Array.getElem?_eq_some_iff.1 h).1, ?_, ?_, ?_, ?_, fun o => ?_⟩ <;> simp [World.cell?, World.frozen?, h]
theorem own_setD {w : World} {B : Nat} {e : TypeId} {m : Nat} {v : Value} {n : Nat} {xs : List Value} (h : w.ownsRow B e m v n xs) {b : Nat} (hb : v.ownBlock ≠ some b) (i : Nat) (u : Value) : (w.setCell ⟨b, i, none⟩ u).ownsRow B e m v n xs := by
  refine ⟨h.1, ?_⟩
  rcases h.2 with h | ⟨g, cap, cur, hv, hg, hh, r⟩
  · exact .inl h
  · refine .inr ⟨g, cap, cur, hv, hg, (Below.heap_setCell _ _ _ _ ?_).trans hh, r⟩
    subst hv
    intro e
    exact hb (by simp [Value.ownBlock, e])
/-- Four cells written. -/
def w4 (w : World) (b : Nat) (v0 v1 v2 v3 : Value) : World := (((w.setCell ⟨b, 0, none⟩ v0).setCell ⟨b, 1, none⟩ v1).setCell ⟨b, 2, none⟩ v2).setCell ⟨b, 3, none⟩ v3
theorem w4_below {W w : World} {n b : Nat} (h : Below n W w) (hb : n ≤ b) (v0 v1 v2 v3 : Value) : Below n W (w4 w b v0 v1 v2 v3) :=
  (((h.setCell (p := ⟨b, 0, none⟩) hb v0).setCell (p := ⟨b, 1, none⟩) hb v1).setCell (p := ⟨b, 2, none⟩) hb v2).setCell (p := ⟨b, 3, none⟩) hb v3
theorem own_w4 {w : World} {B : Nat} {e : TypeId} {m : Nat} {v : Value} {n : Nat} {xs : List Value} (h : w.ownsRow B e m v n xs) {b : Nat} (hb : v.ownBlock ≠ some b) (v0 v1 v2 v3 : Value) : (w4 w b v0 v1 v2 v3).ownsRow B e m v n xs :=
  own_setD (own_setD (own_setD (own_setD h hb 0 v0) hb 1 v1) hb 2 v2) hb 3 v3
theorem w4_at {w : World} {b : Nat} {t : TypeId} {x0 x1 x2 x3 : Value} (h : w.heap[b]? = some (.cells #[x0, x1, x2, x3] t)) (v0 v1 v2 v3 : Value) : (w4 w b v0 v1 v2 v3).heap[b]? = some (.cells #[v0, v1, v2, v3] t) := by
  unfold w4
  rw [heap_setCell_same _ b _ _ t _ (heap_setCell_same _ b _ _ t _ (heap_setCell_same _ b _ _ t _ (heap_setCell_same _ b _ _ t _ h)))]
  simp
theorem w4_blk (w : World) (c b : Nat) (v0 v1 v2 v3 : Value) (h : c ≠ b) : (w4 w b v0 v1 v2 v3).heap[c]? = w.heap[c]? := by
  unfold w4
  exact (((Below.heap_setCell _ _ _ _ h).trans (Below.heap_setCell _ _ _ _ h)).trans (Below.heap_setCell _ _ _ _ h)).trans (Below.heap_setCell _ _ _ _ h)
theorem own_diffD {w : World} {B : Nat} {e t : TypeId} {m : Nat} {v : Value} {n : Nat} {xs : List Value} {j : Nat} {cur : Array Value} (h : w.ownsRow B e m v n xs) (hj : w.heap[j]? = some (.cells cur t)) (he : e ≠ t) : v.ownBlock ≠ some j := by
  rcases h.2 with ⟨rfl, _⟩ | ⟨g, cap, cu, rfl, _, hg, _⟩
  · simp [Value.ownBlock]
  · intro e2
    simp [Value.ownBlock] at e2
    subst e2
    rw [hj] at hg
    simp at hg
    exact he hg.2.symm
theorem drew_blk {w : World} {b : Nat} {o : Obj} (h : w.heap[b]? = some o) : w.drew.heap[b]? = some o := h
theorem drew_own {w : World} {B : Nat} {e : TypeId} {m : Nat} {v : Value} {n : Nat} {xs : List Value} (h : w.ownsRow B e m v n xs) : w.drew.ownsRow B e m v n xs := h
/-- laws.lwMin. -/
theorem lmi_any (a b : Int) (w : World) : Calls Try.prog 12 #[.int .i64 a, .int .i64 b] w fun e w' => e = .returned (.int .i64 (if a < b then a else b)) ∧ w' = w := by
  by_cases h : a < b
  · rw [if_pos h]
    go_enter Try.func12, Try.ntmps12
    go_wp2
    go_ret
    exact ⟨rfl, rfl⟩
  · rw [if_neg h]
    go_enter Try.func12, Try.ntmps12
    go_wp2
    go_ret
    exact ⟨rfl, rfl⟩
/-- What several roads come to is walked once. -/
theorem tail5 {α β γ δ ε : Type} (F : α → β → γ → δ → ε → Prop) {G : α → β → γ → δ → ε → Prop} {R : Prop} (h1 : (∀ a b c d e, F a b c d e → G a b c d e) → R) (h2 : ∀ a b c d e, F a b c d e → G a b c d e) : R := h1 h2
/-- A plan told. -/
abbrev PW (a : Int) (v : Value) (b c : Int) : Value := .agg #[.int .i64 a, v, .int .i64 b, .int .i64 c]
/-- What the functions that the law calls answer, from the table's own block on. -/
structure Con3 (wB : World) (tb : Nat) (s1 : Option Addr) (n c1 : Nat) (s2 : Option Addr) (m c2 : Nat) (top : Int) (vs : Option Addr) (zn vk : Nat) (bd V T C : Int) (pn : Nat) (PC ZC : List Value) (bd2 : Int) : Prop where
  kt : ∀ W, Below wB.heap.size wB W → tb < W.heap.size ∧ W.cell? ⟨tb, 0, none⟩ = some (.slice s1 n c1) ∧ W.cell? ⟨tb, 1, none⟩ = some (.slice s2 m c2)
  cs : C = 1 ∨ (C = 0 ∧ T ≤ bd ∧ (V = 1 ∨ V = 2 ∨ V = 3))
  bdl : C = 0 → 0 ≤ bd ∧ bd ≤ 2000
  e5 : ∀ W, Below wB.heap.size wB W → Calls Try.prog 5 #[TV s1 n c1 s2 m c2, .int .i64 top, .slice vs zn vk, .int .i64 bd] W fun e w' => ∃ s k, e = .returned (PW V (.slice s pn k) T C) ∧ Below W.heap.size W w'
  e6 : ∀ (W : World) (C0 : Nat) v, Below wB.heap.size wB W → W.ownsRow C0 2 1 v zn ZC → Calls Try.prog 6 #[TV s1 n c1 s2 m c2, .int .i64 top, v, .int .i64 bd] W fun e w' => ∃ s k, e = .returned (PW V (.slice s pn k) T C) ∧ w'.ownsRow W.heap.size 62 2 (.slice s pn k) pn PC ∧ Below W.heap.size W w'
  e6b : ∀ (W : World) (C0 : Nat) v, Below wB.heap.size wB W → W.ownsRow C0 2 1 v zn ZC → C = 0 ∧ V ≠ 3 → Calls Try.prog 6 #[TV s1 n c1 s2 m c2, .int .i64 top, v, .int .i64 bd2] W fun e w' => ∃ s k, e = .returned (PW V (.slice s pn k) T 0) ∧ w'.ownsRow W.heap.size 62 2 (.slice s pn k) pn PC ∧ Below W.heap.size W w'
  e7 : ∀ W, Below wB.heap.size wB W → Calls Try.prog 7 #[.slice vs zn vk] W fun e w' => ∃ v, e = .returned v ∧ w'.ownsRow W.heap.size 2 1 v zn ZC ∧ Below W.heap.size W w'
  e9 : ∀ (W : World) (C0 : Nat) v, W.ownsRow C0 62 2 v pn PC → Calls Try.prog 9 #[v] W fun e w' => ∃ v, e = .returned v ∧ w'.ownsRow W.heap.size 62 2 v pn PC ∧ Below W.heap.size W w'
  e8 : C = 0 ∧ V = 1 → ∀ (W : World) (C0 : Nat) v, Below wB.heap.size wB W → W.ownsRow C0 62 2 v pn PC → Calls Try.prog 8 #[TV s1 n c1 s2 m c2, .int .i64 top, v] W fun e w' => e = .returned (.bool true) ∧ Below W.heap.size W w'
  e11 : C = 0 ∧ V = 1 → ∀ (W : World) (C0 : Nat) v, W.ownsRow C0 62 2 v pn PC → Calls Try.prog 11 #[v] W fun e w' => ∃ v, e = .returned v ∧ w'.ownsRow W.heap.size 2 1 v zn ZC ∧ Below W.heap.size W w'
  e10 : ∀ (W : World) (C0 : Nat) v, Below wB.heap.size wB W → W.ownsRow C0 2 1 v zn ZC → Calls Try.prog 10 #[v, .slice vs zn vk] W fun e w' => e = .returned (.bool true) ∧ Below W.heap.size W w'
  e13 : ∀ (W : World) (C0 C1 : Nat) v v', W.ownsRow C0 62 2 v pn PC → W.ownsRow C1 62 2 v' pn PC → Calls Try.prog 13 #[v, v'] W fun e w' => e = .returned (.bool true) ∧ Below W.heap.size W w'
  e12 : ∀ a, a = bd + 100 → ∀ W, Calls Try.prog 12 #[.int .i64 a, .int .i64 2000] W fun e w' => e = .returned (.int .i64 bd2) ∧ w' = W

set_option maxRecDepth 100000 in
set_option maxHeartbeats 16000000 in
/-- FnPlanFind's walk. -/
theorem walk3 (sl : Option Addr) (len cap : Nat) (w : World) (hl : len ≤ maxLen)
    (E0 : Hid (Calls Try.prog 4 #[.slice sl len cap] w fun e w1 => ∃ s1 n c1 s2 m c2 top vs zn vk bd V T C pn PC ZC bd2, e = .returned (.tuple #[TV s1 n c1 s2 m c2, .int .i64 top, .slice vs zn vk, .int .i64 bd]) ∧ Below w.heap.size w w1 ∧ Con3 (w1.alloc (.cells #[.slice s1 n c1, .slice s2 m c2] 26)) w1.heap.size s1 n c1 s2 m c2 top vs zn vk bd V T C pn PC ZC bd2)) :
    Calls Try.prog 3 #[.slice sl len cap] w fun e w' => e = .returned (.bool true) ∧ Below w.heap.size w w' := by
  unfold maxLen at hl
  by_cases hz : 1048576 < len
  · have hz' : (1048576 : Int) < (len : Int) := by omega
    clear E0
    go_enter Try.func3, Try.ntmps3
    go_wp2
    go_ret
    exact ⟨rfl, Below.refl _ _⟩
  have hz' : ¬ (1048576 : Int) < (len : Int) := by omega
  go_enter Try.func3, Try.ntmps3
  go_wp2_with fail
  refine E0.out.mono ?_
  rintro e w1 ⟨s1, n, c1, s2, m, c2, top, vs, zn, vk, bd, V, T, C, pn, PC, ZC, bd2, rfl, b1, ⟨kt, HCS, HBD, e5, e6, e6b, e7, e9, e8, e11, e10, e13, e12⟩⟩
  have BW := Lib.hid (bA b1 (.cells #[.slice s1 n c1, .slice s2 m c2] 26))
  have KT0 := Lib.hid kt
  have E5 := Lib.hid e5
  have E6 := Lib.hid e6
  have E6b := Lib.hid e6b
  have E7 := Lib.hid e7
  have E9 := Lib.hid e9
  have E8 := Lib.hid e8
  have E11 := Lib.hid e11
  have E10 := Lib.hid e10
  have E13 := Lib.hid e13
  have E12 := Lib.hid e12
  clear kt e5 e6 e6b e7 e9 e8 e11 e10 e13 e12 b1 E0
  generalize hwB : w1.alloc (.cells #[.slice s1 n c1, .slice s2 m c2] 26) = wB at *
  have HWB := Lib.hid hwB
  clear hwB
  go_wp2_with fail
  rw [HWB.out]
  obtain ⟨tb, htb⟩ : ∃ tb, w1.heap.size = tb := ⟨_, rfl⟩
  rw [htb] at KT0 ⊢
  have KT := KT0
  clear KT0 HWB htb
  refine (E5.out wB (Below.refl _ _)).mono ?_
  rintro e w2 ⟨s5, k5, rfl, b2⟩
  have BC := Lib.hid (bA b2 (.cells #[.int .i64 V, .slice s5 pn k5, .int .i64 T, .int .i64 C] 32))
  have MQ0 := Lib.hid (new_at w2 (.cells #[.int .i64 V, .slice s5 pn k5, .int .i64 T, .int .i64 C] 32))
  obtain ⟨t_lt, t_0, t_1⟩ := KT.out _ b2
  obtain ⟨u_lt, u_0, u_1⟩ := KT.out _ BC.out
  clear b2 E5
  go_wp2_with fail
  clear t_lt t_0 t_1 u_lt u_0 u_1
  refine wp_region_held_drew (S := fun W => tb < W.heap.size ∧ W.cell? ⟨tb, 0, none⟩ = some (.slice s1 n c1) ∧ W.cell? ⟨tb, 1, none⟩ = some (.slice s2 m c2)) (by kernel_rfl) ?_ (fun hHeld => ?_)
  · exact KT.out _ BC.out.drew
  have BD := Lib.hid BC.out.drew
  have MD := Lib.hid (drew_blk MQ0.out)
  clear BC MQ0
  generalize (w2.alloc (.cells #[.int .i64 V, .slice s5 pn k5, .int .i64 T, .int .i64 C] 32)).drew = wd at *
  obtain ⟨q0, hq0⟩ : ∃ q0, w2.heap.size = q0 := ⟨_, rfl⟩
  rw [hq0] at MD ⊢
  clear hq0
  refine wpAnyH_take (i := 0) (oi := _) (v := ?_) rfl (by kernel_rfl) (by kernel_rfl) (by kernel_rfl) (fun _ _ _ h => h) (Or.inl ⟨by rfl, ?_⟩) (by assumption) ?_
  rotate_left
  · first | (intro w hSw; (try dsimp only at hSw); go_simp; done) | (intro w hSw; (try dsimp only at hSw); go_simp; with_reducible rfl)
  try simp only [Act.put, List.setIfInBounds_toArray, List.set_cons_zero, List.set_cons_succ, List.getElem_toArray, List.getElem_cons_zero]
  refine wpAnyH_take (i := 1) (oi := _) (v := ?_) rfl (by kernel_rfl) (by kernel_rfl) (by kernel_rfl) (fun _ _ _ h => h) (Or.inl ⟨by rfl, ?_⟩) (by assumption) ?_
  rotate_left
  · first | (intro w hSw; (try dsimp only at hSw); go_simp; done) | (intro w hSw; (try dsimp only at hSw); go_simp; with_reducible rfl)
  try simp only [Act.put, List.setIfInBounds_toArray, List.set_cons_zero, List.set_cons_succ, List.getElem_toArray, List.getElem_cons_succ, List.getElem_cons_zero]
  refine wpAnyH_take (i := 2) (oi := _) (v := ?_) rfl (by kernel_rfl) (by kernel_rfl) (by kernel_rfl) (fun _ _ _ h => h) (Or.inl ⟨by rfl, ?_⟩) (by assumption) ?_
  rotate_left
  · first | (intro w hSw; (try dsimp only at hSw); go_simp; done) | (intro w hSw; (try dsimp only at hSw); go_simp; with_reducible rfl)
  try simp only [Act.put, List.setIfInBounds_toArray, List.set_cons_zero, List.set_cons_succ, List.getElem_toArray, List.getElem_cons_succ, List.getElem_cons_zero]
  refine wpAnyH_take (i := 4) (oi := _) (v := ?_) rfl (by kernel_rfl) (by kernel_rfl) (by kernel_rfl) (fun _ _ _ h => h) (Or.inl ⟨by rfl, ?_⟩) (by assumption) ?_
  rotate_left
  · first | (intro w hSw; (try dsimp only at hSw); go_simp; done) | (intro w hSw; (try dsimp only at hSw); go_simp; with_reducible rfl)
  try simp only [Act.put, List.setIfInBounds_toArray, List.set_cons_zero, List.set_cons_succ, List.getElem_toArray, List.getElem_cons_succ, List.getElem_cons_zero]
  clear hHeld
  apply tail5 (fun (W : World) (q : Nat) (sl : Option Addr) (k : Nat) (v : Value) => ∃ C1 : Nat, Hid (Below wB.heap.size wB W) ∧ Hid (W.heap[q0]? = some (.cells #[.int .i64 V, .slice s5 pn k5, .int .i64 T, .int .i64 C] 32)) ∧ Hid (W.ownsRow C1 62 2 (.slice sl pn k) pn PC) ∧ Hid (W.heap[q]? = some (.cells #[.int .i64 V, .slice sl pn k, .int .i64 T, .int .i64 C] 32)))
  · intro TAILA
    refine wpAnyH_ready (rs := [3, 6]) (by kernel_rfl) (by simp) ?_
    refine AllReadyH.cons rfl (fun K hK => ?_) (AllReadyH.cons rfl (fun K hK => ?_) AllReadyH.nil)
    · go_simp
      go_wp2_with (go_at_call 7; refine (E7.out wd BD.out).mono ?_; rintro e u1 ⟨v1, rfl, o1, b1⟩)
      have B1 := Lib.hid (bT BD.out b1)
      have F2 := Lib.hid ((b1.block _ (Array.getElem?_eq_some_iff.1 MD.out).1).trans MD.out)
      have O1 := Lib.hid o1
      clear o1
      refine hK.out _ _ ?_ (fun hHeld => ?_)
      · exact KT.out _ B1.out
      clear hK K b1
      refine wpAnyH_ready (rs := [5, 6]) (by kernel_rfl) (by simp) ?_
      refine AllReadyH.cons rfl (fun K hK => ?_) (AllReadyH.cons rfl (fun K hK => ?_) AllReadyH.nil)
      · go_simp
        go_wp2_with (go_at_call 6; refine (E6.out u1 _ v1 B1.out O1.out).mono ?_; rintro e u3 ⟨sl3, k3, rfl, o3, b3⟩)
        have B3 := Lib.hid (bT B1.out b3)
        have F4 := Lib.hid ((b3.block _ (Array.getElem?_eq_some_iff.1 F2.out).1).trans F2.out)
        have F5 := Lib.hid (own_below O1.out b3)
        have O3 := Lib.hid o3
        clear o3
        refine hK.out _ _ ?_ (fun hHeld => ?_)
        · exact KT.out _ B3.out
        clear hK K b3
        refine wpAnyH_ready (rs := [6]) (by kernel_rfl) (by simp) ?_
        refine AllReadyH.cons rfl (fun K hK => ?_) AllReadyH.nil
        go_simp
        go_wp2
        have b6 := bA0 u3 (.cells #[.int .i64 0, .slice none 0 0, .int .i64 0, .int .i64 0] 32)
        have F6q := Lib.hid (new_at u3 (.cells #[.int .i64 0, .slice none 0 0, .int .i64 0, .int .i64 0] 32))
        have B6 := Lib.hid (bA B3.out (.cells #[.int .i64 0, .slice none 0 0, .int .i64 0, .int .i64 0] 32))
        have nl6x0 : q0 < u3.heap.size := (Array.getElem?_eq_some_iff.1 F4.out).1
        have F7 := Lib.hid ((b6.block _ (Array.getElem?_eq_some_iff.1 F4.out).1).trans F4.out)
        have F8 := Lib.hid (own_below F5.out b6)
        have F9 := Lib.hid (own_below O3.out b6)
        generalize u3.alloc (.cells #[.int .i64 0, .slice none 0 0, .int .i64 0, .int .i64 0] 32) = u6 at *
        refine hK.out _ _ ?_ (fun hHeld => ?_)
        · exact KT.out _ B6.out
        clear hK K b6
        refine wpAnyH_ready (rs := [7]) (by kernel_rfl) (by simp) ?_
        refine AllReadyH.cons rfl (fun K hK => ?_) AllReadyH.nil
        obtain ⟨lq, z0, z1, z2, z3, zf⟩ := fx F6q.out
        have F11 : Hid (((((u6.setCell ⟨u3.heap.size, 0, none⟩ (.int .i64 V)).setCell ⟨u3.heap.size, 1, none⟩ (.slice sl3 pn k3)).setCell ⟨u3.heap.size, 2, none⟩ (.int .i64 T)).setCell ⟨u3.heap.size, 3, none⟩ (.int .i64 C)).heap[q0]? = _) := (w4_blk u6 q0 u3.heap.size (.int .i64 V) (.slice sl3 pn k3) (.int .i64 T) (.int .i64 C) (by omega)).trans F7.out
        have F12 := Lib.hid (own_w4 F8.out (own_diffD F8.out F6q.out (by decide)) (.int .i64 V) (.slice sl3 pn k3) (.int .i64 T) (.int .i64 C))
        have F13 := Lib.hid (own_w4 F9.out (own_diffD F9.out F6q.out (by decide)) (.int .i64 V) (.slice sl3 pn k3) (.int .i64 T) (.int .i64 C))
        have F10q := Lib.hid (w4_at F6q.out (.int .i64 V) (.slice sl3 pn k3) (.int .i64 T) (.int .i64 C))
        have B10 := Lib.hid (w4_below B6.out (show wB.heap.size ≤ u3.heap.size from B3.out.size) (.int .i64 V) (.slice sl3 pn k3) (.int .i64 T) (.int .i64 C))
        unfold w4 at *
        go_simp
        refine hK.out _ _ ?_ (fun hHeld => ?_)
        · exact KT.out _ B10.out
        clear hK K lq z0 z1 z2 z3 zf
        generalize ((((u6.setCell ⟨u3.heap.size, 0, none⟩ (.int .i64 V)).setCell ⟨u3.heap.size, 1, none⟩ (.slice sl3 pn k3)).setCell ⟨u3.heap.size, 2, none⟩ (.int .i64 T)).setCell ⟨u3.heap.size, 3, none⟩ (.int .i64 C)) = u10 at *
        refine wpAnyH_done (by kernel_rfl) ?_ _
        generalize u3.heap.size = qn at *
        exact TAILA u10 qn sl3 k3 v1 ⟨_, B10, F11, F13, F10q⟩
      · go_simp
        go_wp2
        have b14 := bA0 u1 (.cells #[.int .i64 0, .slice none 0 0, .int .i64 0, .int .i64 0] 32)
        have F14q := Lib.hid (new_at u1 (.cells #[.int .i64 0, .slice none 0 0, .int .i64 0, .int .i64 0] 32))
        have B14 := Lib.hid (bA B1.out (.cells #[.int .i64 0, .slice none 0 0, .int .i64 0, .int .i64 0] 32))
        have nl14x0 : q0 < u1.heap.size := (Array.getElem?_eq_some_iff.1 F2.out).1
        have F15 := Lib.hid ((b14.block _ (Array.getElem?_eq_some_iff.1 F2.out).1).trans F2.out)
        have F16 := Lib.hid (own_below O1.out b14)
        generalize u1.alloc (.cells #[.int .i64 0, .slice none 0 0, .int .i64 0, .int .i64 0] 32) = u14 at *
        refine hK.out _ _ ?_ (fun hHeld => ?_)
        · exact KT.out _ B14.out
        clear hK K b14
        refine wpAnyH_ready (rs := [5]) (by kernel_rfl) (by simp) ?_
        refine AllReadyH.cons rfl (fun K hK => ?_) AllReadyH.nil
        go_simp
        go_wp2_with (go_at_call 6; refine (E6.out u14 _ v1 B14.out F16.out).mono ?_; rintro e u17 ⟨sl17, k17, rfl, o17, b17⟩)
        have B17 := Lib.hid (bT B14.out b17)
        have F18 := Lib.hid ((b17.block _ (Array.getElem?_eq_some_iff.1 F15.out).1).trans F15.out)
        have F19 := Lib.hid (own_below F16.out b17)
        have F20 := Lib.hid ((b17.block _ (Array.getElem?_eq_some_iff.1 F14q.out).1).trans F14q.out)
        have O17 := Lib.hid o17
        clear o17
        refine hK.out _ _ ?_ (fun hHeld => ?_)
        · exact KT.out _ B17.out
        clear hK K b17
        refine wpAnyH_ready (rs := [7]) (by kernel_rfl) (by simp) ?_
        refine AllReadyH.cons rfl (fun K hK => ?_) AllReadyH.nil
        obtain ⟨lq, z0, z1, z2, z3, zf⟩ := fx F20.out
        have F22 : Hid (((((u17.setCell ⟨u1.heap.size, 0, none⟩ (.int .i64 V)).setCell ⟨u1.heap.size, 1, none⟩ (.slice sl17 pn k17)).setCell ⟨u1.heap.size, 2, none⟩ (.int .i64 T)).setCell ⟨u1.heap.size, 3, none⟩ (.int .i64 C)).heap[q0]? = _) := (w4_blk u17 q0 u1.heap.size (.int .i64 V) (.slice sl17 pn k17) (.int .i64 T) (.int .i64 C) (by omega)).trans F18.out
        have F23 := Lib.hid (own_w4 F19.out (own_diffD F19.out F20.out (by decide)) (.int .i64 V) (.slice sl17 pn k17) (.int .i64 T) (.int .i64 C))
        have F24 := Lib.hid (own_w4 O17.out (own_diffD O17.out F20.out (by decide)) (.int .i64 V) (.slice sl17 pn k17) (.int .i64 T) (.int .i64 C))
        have F21q := Lib.hid (w4_at F20.out (.int .i64 V) (.slice sl17 pn k17) (.int .i64 T) (.int .i64 C))
        have B21 := Lib.hid (w4_below B17.out (show wB.heap.size ≤ u1.heap.size from B1.out.size) (.int .i64 V) (.slice sl17 pn k17) (.int .i64 T) (.int .i64 C))
        unfold w4 at *
        go_simp
        refine hK.out _ _ ?_ (fun hHeld => ?_)
        · exact KT.out _ B21.out
        clear hK K lq z0 z1 z2 z3 zf
        generalize ((((u17.setCell ⟨u1.heap.size, 0, none⟩ (.int .i64 V)).setCell ⟨u1.heap.size, 1, none⟩ (.slice sl17 pn k17)).setCell ⟨u1.heap.size, 2, none⟩ (.int .i64 T)).setCell ⟨u1.heap.size, 3, none⟩ (.int .i64 C)) = u21 at *
        refine wpAnyH_done (by kernel_rfl) ?_ _
        generalize u1.heap.size = qn at *
        exact TAILA u21 qn sl17 k17 v1 ⟨_, B21, F22, F24, F21q⟩
    · go_simp
      go_wp2
      have b25 := bA0 wd (.cells #[.int .i64 0, .slice none 0 0, .int .i64 0, .int .i64 0] 32)
      have F25q := Lib.hid (new_at wd (.cells #[.int .i64 0, .slice none 0 0, .int .i64 0, .int .i64 0] 32))
      have B25 := Lib.hid (bA BD.out (.cells #[.int .i64 0, .slice none 0 0, .int .i64 0, .int .i64 0] 32))
      have nl25x0 : q0 < wd.heap.size := (Array.getElem?_eq_some_iff.1 MD.out).1
      have F26 := Lib.hid ((b25.block _ (Array.getElem?_eq_some_iff.1 MD.out).1).trans MD.out)
      generalize wd.alloc (.cells #[.int .i64 0, .slice none 0 0, .int .i64 0, .int .i64 0] 32) = u25 at *
      refine hK.out _ _ ?_ (fun hHeld => ?_)
      · exact KT.out _ B25.out
      clear hK K b25
      refine wpAnyH_ready (rs := [3]) (by kernel_rfl) (by simp) ?_
      refine AllReadyH.cons rfl (fun K hK => ?_) AllReadyH.nil
      go_simp
      go_wp2_with (go_at_call 7; refine (E7.out u25 B25.out).mono ?_; rintro e u27 ⟨v27, rfl, o27, b27⟩)
      have B27 := Lib.hid (bT B25.out b27)
      have F28 := Lib.hid ((b27.block _ (Array.getElem?_eq_some_iff.1 F26.out).1).trans F26.out)
      have F29 := Lib.hid ((b27.block _ (Array.getElem?_eq_some_iff.1 F25q.out).1).trans F25q.out)
      have O27 := Lib.hid o27
      clear o27
      refine hK.out _ _ ?_ (fun hHeld => ?_)
      · exact KT.out _ B27.out
      clear hK K b27
      refine wpAnyH_ready (rs := [5]) (by kernel_rfl) (by simp) ?_
      refine AllReadyH.cons rfl (fun K hK => ?_) AllReadyH.nil
      go_simp
      go_wp2_with (go_at_call 6; refine (E6.out u27 _ v27 B27.out O27.out).mono ?_; rintro e u30 ⟨sl30, k30, rfl, o30, b30⟩)
      have B30 := Lib.hid (bT B27.out b30)
      have F31 := Lib.hid ((b30.block _ (Array.getElem?_eq_some_iff.1 F28.out).1).trans F28.out)
      have F32 := Lib.hid ((b30.block _ (Array.getElem?_eq_some_iff.1 F29.out).1).trans F29.out)
      have F33 := Lib.hid (own_below O27.out b30)
      have O30 := Lib.hid o30
      clear o30
      refine hK.out _ _ ?_ (fun hHeld => ?_)
      · exact KT.out _ B30.out
      clear hK K b30
      refine wpAnyH_ready (rs := [7]) (by kernel_rfl) (by simp) ?_
      refine AllReadyH.cons rfl (fun K hK => ?_) AllReadyH.nil
      obtain ⟨lq, z0, z1, z2, z3, zf⟩ := fx F32.out
      have F35 : Hid (((((u30.setCell ⟨wd.heap.size, 0, none⟩ (.int .i64 V)).setCell ⟨wd.heap.size, 1, none⟩ (.slice sl30 pn k30)).setCell ⟨wd.heap.size, 2, none⟩ (.int .i64 T)).setCell ⟨wd.heap.size, 3, none⟩ (.int .i64 C)).heap[q0]? = _) := (w4_blk u30 q0 wd.heap.size (.int .i64 V) (.slice sl30 pn k30) (.int .i64 T) (.int .i64 C) (by omega)).trans F31.out
      have F36 := Lib.hid (own_w4 F33.out (own_diffD F33.out F32.out (by decide)) (.int .i64 V) (.slice sl30 pn k30) (.int .i64 T) (.int .i64 C))
      have F37 := Lib.hid (own_w4 O30.out (own_diffD O30.out F32.out (by decide)) (.int .i64 V) (.slice sl30 pn k30) (.int .i64 T) (.int .i64 C))
      have F34q := Lib.hid (w4_at F32.out (.int .i64 V) (.slice sl30 pn k30) (.int .i64 T) (.int .i64 C))
      have B34 := Lib.hid (w4_below B30.out (show wB.heap.size ≤ wd.heap.size from BD.out.size) (.int .i64 V) (.slice sl30 pn k30) (.int .i64 T) (.int .i64 C))
      unfold w4 at *
      go_simp
      refine hK.out _ _ ?_ (fun hHeld => ?_)
      · exact KT.out _ B34.out
      clear hK K lq z0 z1 z2 z3 zf
      generalize ((((u30.setCell ⟨wd.heap.size, 0, none⟩ (.int .i64 V)).setCell ⟨wd.heap.size, 1, none⟩ (.slice sl30 pn k30)).setCell ⟨wd.heap.size, 2, none⟩ (.int .i64 T)).setCell ⟨wd.heap.size, 3, none⟩ (.int .i64 C)) = u34 at *
      refine wpAnyH_done (by kernel_rfl) ?_ _
      generalize wd.heap.size = qn at *
      exact TAILA u34 qn sl30 k30 v27 ⟨_, B34, F35, F37, F34q⟩
  · intro wx qx sx kx vx ⟨CX, BX, MX, PX, RX⟩
    obtain ⟨l0, a0, a1, a2, a3, af⟩ := fx MX.out
    obtain ⟨lx, x0, x1, x2, x3, xf⟩ := fx RX.out
    rcases HCS with hC1 | ⟨hC0, hT, hV⟩
    · subst hC1
      clear E6b E9 E8 E11 E10 E13
      by_cases hb : bd < T
      · go_wp2
        go_ret
        exact ⟨rfl, bT BW.out BX.out⟩
      · have hb' : (bd < T) = False := eq_false hb
        go_wp2
        go_ret
        exact ⟨rfl, bT BW.out BX.out⟩
    subst hC0
    have hT' : (bd < T) = False := eq_false (by omega)
    obtain ⟨bd0, bd1⟩ := HBD (by simp)
    have hwr : IntKind.i64.wrap (bd + 100) = bd + 100 := by rw [IntKind.wrap_i64]; omega
    rcases hV with rfl | rfl | rfl
    · have KH : Hid (∀ W, Below wx.heap.size wx W → (tb < W.heap.size ∧ W.cell? ⟨tb, 0, none⟩ = some (.slice s1 n c1) ∧ W.cell? ⟨tb, 1, none⟩ = some (.slice s2 m c2)) ∧ qx < W.heap.size ∧ W.cell? ⟨qx, 1, none⟩ = some (.slice sx pn kx) ∧ q0 < W.heap.size ∧ W.cell? ⟨q0, 0, none⟩ = some (.int .i64 1)) := fun W hW => ⟨KT.out _ (bT BX.out hW), Nat.lt_of_lt_of_le lx hW.size, (hW.cell lx).trans x1, Nat.lt_of_lt_of_le l0 hW.size, (hW.cell l0).trans a0⟩
      have P0 := Lib.hid (drew_own PX.out)
      have Q0 := Lib.hid (drew_blk RX.out)
      have BZ0 := Lib.hid (Below.refl wx.heap.size wx).drew
      go_wp2_with fail
      refine wp_region_held_drew (S := fun W => (tb < W.heap.size ∧ W.cell? ⟨tb, 0, none⟩ = some (.slice s1 n c1) ∧ W.cell? ⟨tb, 1, none⟩ = some (.slice s2 m c2)) ∧ qx < W.heap.size ∧ W.cell? ⟨qx, 1, none⟩ = some (.slice sx pn kx) ∧ q0 < W.heap.size ∧ W.cell? ⟨q0, 0, none⟩ = some (.int .i64 1)) (by kernel_rfl) ?_ (fun hHeld => ?_)
      · exact KH.out _ BZ0.out
      clear l0 a0 a1 a2 a3 af lx x0 x1 x2 x3 xf
      generalize wx.drew = wz at *
      refine wpAnyH_take (i := 0) (oi := _) (v := ?_) rfl (by kernel_rfl) (by kernel_rfl) (by kernel_rfl) (fun _ _ _ h => h) (Or.inl ⟨by rfl, ?_⟩) (by assumption) ?_
      rotate_left
      · first | (intro w hSw; (try dsimp only at hSw); go_simp; done) | (intro w hSw; (try dsimp only at hSw); go_simp; with_reducible rfl)
      try simp only [Act.put, List.setIfInBounds_toArray, List.set_cons_zero, List.set_cons_succ, List.getElem_toArray, List.getElem_cons_zero]
      refine wpAnyH_take (i := 1) (oi := _) (v := ?_) rfl (by kernel_rfl) (by kernel_rfl) (by kernel_rfl) (fun _ _ _ h => h) (Or.inl ⟨by rfl, ?_⟩) (by assumption) ?_
      rotate_left
      · first | (intro w hSw; (try dsimp only at hSw); go_simp; done) | (intro w hSw; (try dsimp only at hSw); go_simp; with_reducible rfl)
      try simp only [Act.put, List.setIfInBounds_toArray, List.set_cons_zero, List.set_cons_succ, List.getElem_toArray, List.getElem_cons_succ, List.getElem_cons_zero]
      refine wpAnyH_take (i := 2) (oi := _) (v := ?_) rfl (by kernel_rfl) (by kernel_rfl) (by kernel_rfl) (fun _ _ _ h => h) (Or.inl ⟨by rfl, ?_⟩) (by assumption) ?_
      rotate_left
      · first | (intro w hSw; (try dsimp only at hSw); go_simp; done) | (intro w hSw; (try dsimp only at hSw); go_simp; with_reducible rfl)
      try simp only [Act.put, List.setIfInBounds_toArray, List.set_cons_zero, List.set_cons_succ, List.getElem_toArray, List.getElem_cons_succ, List.getElem_cons_zero]
      refine wpAnyH_take (i := 3) (oi := _) (v := ?_) rfl (by kernel_rfl) (by kernel_rfl) (by kernel_rfl) (fun _ _ _ h => h) (Or.inl ⟨by rfl, ?_⟩) (by assumption) ?_
      rotate_left
      · first | (intro w hSw; (try dsimp only at hSw); go_simp; done) | (intro w hSw; (try dsimp only at hSw); go_simp; with_reducible rfl)
      try simp only [Act.put, List.setIfInBounds_toArray, List.set_cons_zero, List.set_cons_succ, List.getElem_toArray, List.getElem_cons_succ, List.getElem_cons_zero]
      refine wpAnyH_take (i := 4) (oi := _) (v := ?_) rfl (by kernel_rfl) (by kernel_rfl) (by kernel_rfl) (fun _ _ _ h => h) (Or.inl ⟨by rfl, ?_⟩) (by assumption) ?_
      rotate_left
      · first | (intro w hSw; (try dsimp only at hSw); go_simp; done) | (intro w hSw; (try dsimp only at hSw); go_simp; with_reducible rfl)
      try simp only [Act.put, List.setIfInBounds_toArray, List.set_cons_zero, List.set_cons_succ, List.getElem_toArray, List.getElem_cons_succ, List.getElem_cons_zero]
      refine wpAnyH_take (i := 5) (oi := _) (v := ?_) rfl (by kernel_rfl) (by kernel_rfl) (by kernel_rfl) (fun _ _ _ h => h) (Or.inl ⟨by rfl, ?_⟩) (by assumption) ?_
      rotate_left
      · first | (intro w hSw; (try dsimp only at hSw); go_simp; done) | (intro w hSw; (try dsimp only at hSw); go_simp; with_reducible rfl)
      try simp only [Act.put, List.setIfInBounds_toArray, List.set_cons_zero, List.set_cons_succ, List.getElem_toArray, List.getElem_cons_succ, List.getElem_cons_zero]
      refine wpAnyH_take (i := 6) (oi := _) (v := ?_) rfl (by kernel_rfl) (by kernel_rfl) (by kernel_rfl) (fun _ _ _ h => h) (Or.inl ⟨by rfl, ?_⟩) (by assumption) ?_
      rotate_left
      · first | (intro w hSw; (try dsimp only at hSw); go_simp; done) | (intro w hSw; (try dsimp only at hSw); go_simp; with_reducible rfl)
      try simp only [Act.put, List.setIfInBounds_toArray, List.set_cons_zero, List.set_cons_succ, List.getElem_toArray, List.getElem_cons_succ, List.getElem_cons_zero]
      refine wpAnyH_take (i := 7) (oi := _) (v := ?_) rfl (by kernel_rfl) (by kernel_rfl) (by kernel_rfl) (fun _ _ _ h => h) (Or.inl ⟨by rfl, ?_⟩) (by assumption) ?_
      rotate_left
      · first | (intro w hSw; (try dsimp only at hSw); go_simp; done) | (intro w hSw; (try dsimp only at hSw); go_simp; with_reducible rfl)
      try simp only [Act.put, List.setIfInBounds_toArray, List.set_cons_zero, List.set_cons_succ, List.getElem_toArray, List.getElem_cons_succ, List.getElem_cons_zero]
      refine wpAnyH_ready (rs := [8]) (by kernel_rfl) (by simp) ?_
      refine AllReadyH.cons rfl (fun K hK => ?_) AllReadyH.nil
      go_simp
      go_wp2_with (go_at_call 9; refine (E9.out _ _ _ P0.out).mono ?_; rintro e y1 ⟨a9, rfl, oy1, by1⟩)
      have BZ1 := Lib.hid (bT BZ0.out by1)
      have OY1 := Lib.hid oy1
      clear oy1
      have P1 := Lib.hid (own_below P0.out by1)
      have Q1 := Lib.hid ((by1.block _ (Array.getElem?_eq_some_iff.1 Q0.out).1).trans Q0.out)
      clear by1
      refine hK.out _ _ ?_ (fun hHeld => ?_)
      · exact KH.out _ BZ1.out
      clear hK K
      refine wpAnyH_ready (rs := [9]) (by kernel_rfl) (by simp) ?_
      refine AllReadyH.cons rfl (fun K hK => ?_) AllReadyH.nil
      go_simp
      go_wp2_with (go_at_call 8; refine (E8.out (by simp) _ _ _ (bT BX.out BZ1.out) OY1.out).mono ?_; rintro e y2 ⟨rfl, by2⟩)
      have BZ2 := Lib.hid (bT BZ1.out by2)
      have P2 := Lib.hid (own_below P1.out by2)
      have Q2 := Lib.hid ((by2.block _ (Array.getElem?_eq_some_iff.1 Q1.out).1).trans Q1.out)
      clear by2
      refine hK.out _ _ ?_ (fun hHeld => ?_)
      · exact KH.out _ BZ2.out
      clear hK K
      refine wpAnyH_take (i := 10) (oi := _) (v := ?_) rfl (by kernel_rfl) (by kernel_rfl) (by kernel_rfl) (fun _ _ _ h => h) (Or.inl ⟨by rfl, ?_⟩) (by assumption) ?_
      rotate_left
      · first | (intro w hSw; (try dsimp only at hSw); go_simp; done) | (intro w hSw; (try dsimp only at hSw); go_simp; with_reducible rfl)
      try simp only [Act.put, List.setIfInBounds_toArray, List.set_cons_zero, List.set_cons_succ, List.getElem_toArray, List.getElem_cons_succ, List.getElem_cons_zero]
      refine wpAnyH_take (i := 11) (oi := _) (v := ?_) rfl (by kernel_rfl) (by kernel_rfl) (by kernel_rfl) (fun _ _ _ h => h) (Or.inl ⟨by rfl, ?_⟩) (by assumption) ?_
      rotate_left
      · first | (intro w hSw; (try dsimp only at hSw); go_simp; done) | (intro w hSw; (try dsimp only at hSw); go_simp; with_reducible rfl)
      try simp only [Act.put, List.setIfInBounds_toArray, List.set_cons_zero, List.set_cons_succ, List.getElem_toArray, List.getElem_cons_succ, List.getElem_cons_zero]
      refine wpAnyH_take (i := 12) (oi := _) (v := ?_) rfl (by kernel_rfl) (by kernel_rfl) (by kernel_rfl) (fun _ _ _ h => h) (Or.inl ⟨by rfl, ?_⟩) (by assumption) ?_
      rotate_left
      · first | (intro w hSw; (try dsimp only at hSw); go_simp; done) | (intro w hSw; (try dsimp only at hSw); go_simp; with_reducible rfl)
      try simp only [Act.put, List.setIfInBounds_toArray, List.set_cons_zero, List.set_cons_succ, List.getElem_toArray, List.getElem_cons_succ, List.getElem_cons_zero]
      refine wpAnyH_take (i := 13) (oi := _) (v := ?_) rfl (by kernel_rfl) (by kernel_rfl) (by kernel_rfl) (fun _ _ _ h => h) (Or.inl ⟨by rfl, ?_⟩) (by assumption) ?_
      rotate_left
      · first | (intro w hSw; (try dsimp only at hSw); go_simp; done) | (intro w hSw; (try dsimp only at hSw); go_simp; with_reducible rfl)
      try simp only [Act.put, List.setIfInBounds_toArray, List.set_cons_zero, List.set_cons_succ, List.getElem_toArray, List.getElem_cons_succ, List.getElem_cons_zero]
      refine wpAnyH_take (i := 16) (oi := _) (v := ?_) rfl (by kernel_rfl) (by kernel_rfl) (by kernel_rfl) (fun _ _ _ h => h) (Or.inl ⟨by rfl, ?_⟩) (by assumption) ?_
      rotate_left
      · first | (intro w hSw; (try dsimp only at hSw); go_simp; done) | (intro w hSw; (try dsimp only at hSw); go_simp; with_reducible rfl)
      try simp only [Act.put, List.setIfInBounds_toArray, List.set_cons_zero, List.set_cons_succ, List.getElem_toArray, List.getElem_cons_succ, List.getElem_cons_zero]
      refine wpAnyH_ready (rs := [14]) (by kernel_rfl) (by simp) ?_
      refine AllReadyH.cons rfl (fun K hK => ?_) AllReadyH.nil
      go_simp
      go_wp2_with (go_at_call 9; refine (E9.out _ _ _ P2.out).mono ?_; rintro e y3 ⟨b9, rfl, oy3, by3⟩)
      have BZ3 := Lib.hid (bT BZ2.out by3)
      have OY3 := Lib.hid oy3
      clear oy3
      have P3 := Lib.hid (own_below P2.out by3)
      have Q3 := Lib.hid ((by3.block _ (Array.getElem?_eq_some_iff.1 Q2.out).1).trans Q2.out)
      clear by3
      refine hK.out _ _ ?_ (fun hHeld => ?_)
      · exact KH.out _ BZ3.out
      clear hK K
      refine wpAnyH_ready (rs := [15]) (by kernel_rfl) (by simp) ?_
      refine AllReadyH.cons rfl (fun K hK => ?_) AllReadyH.nil
      go_simp
      go_wp2_with (go_at_call 11; refine (E11.out (by simp) _ _ _ OY3.out).mono ?_; rintro e y4 ⟨i9, rfl, oy4, by4⟩)
      have BZ4 := Lib.hid (bT BZ3.out by4)
      have OY4 := Lib.hid oy4
      clear oy4
      have P4 := Lib.hid (own_below P3.out by4)
      have Q4 := Lib.hid ((by4.block _ (Array.getElem?_eq_some_iff.1 Q3.out).1).trans Q3.out)
      clear by4
      refine hK.out _ _ ?_ (fun hHeld => ?_)
      · exact KH.out _ BZ4.out
      clear hK K
      refine wpAnyH_ready (rs := [17]) (by kernel_rfl) (by simp) ?_
      refine AllReadyH.cons rfl (fun K hK => ?_) AllReadyH.nil
      go_simp
      go_wp2_with (go_at_call 10; refine (E10.out _ _ _ (bT BX.out BZ4.out) OY4.out).mono ?_; rintro e y5 ⟨rfl, by5⟩)
      have BZ5 := Lib.hid (bT BZ4.out by5)
      have P5 := Lib.hid (own_below P4.out by5)
      have Q5 := Lib.hid ((by5.block _ (Array.getElem?_eq_some_iff.1 Q4.out).1).trans Q4.out)
      clear by5
      refine hK.out _ _ ?_ (fun hHeld => ?_)
      · exact KH.out _ BZ5.out
      clear hK K
      refine wpAnyH_take (i := 18) (oi := _) (v := ?_) rfl (by kernel_rfl) (by kernel_rfl) (by kernel_rfl) (fun _ _ _ h => h) (Or.inl ⟨by rfl, ?_⟩) (by assumption) ?_
      rotate_left
      · first | (intro w hSw; (try dsimp only at hSw); go_simp; done) | (intro w hSw; (try dsimp only at hSw); go_simp; with_reducible rfl)
      try simp only [Act.put, List.setIfInBounds_toArray, List.set_cons_zero, List.set_cons_succ, List.getElem_toArray, List.getElem_cons_succ, List.getElem_cons_zero]
      refine wpAnyH_take (i := 19) (oi := _) (v := ?_) rfl (by kernel_rfl) (by kernel_rfl) (by kernel_rfl) (fun _ _ _ h => h) (Or.inl ⟨by rfl, ?_⟩) (by assumption) ?_
      rotate_left
      · first | (intro w hSw; (try dsimp only at hSw); go_simp; done) | (intro w hSw; (try dsimp only at hSw); go_simp; with_reducible rfl)
      try simp only [Act.put, List.setIfInBounds_toArray, List.set_cons_zero, List.set_cons_succ, List.getElem_toArray, List.getElem_cons_succ, List.getElem_cons_zero]
      refine wpAnyH_take (i := 20) (oi := _) (v := ?_) rfl (by kernel_rfl) (by kernel_rfl) (by kernel_rfl) (fun _ _ _ h => h) (Or.inl ⟨by rfl, ?_⟩) (by assumption) ?_
      rotate_left
      · first | (intro w hSw; (try dsimp only at hSw); go_simp; done) | (intro w hSw; (try dsimp only at hSw); go_simp; with_reducible rfl)
      try simp only [Act.put, List.setIfInBounds_toArray, List.set_cons_zero, List.set_cons_succ, List.getElem_toArray, List.getElem_cons_succ, List.getElem_cons_zero]
      refine wpAnyH_done (by kernel_rfl) ?_ _
      clear hHeld
      have B10 := Lib.hid (bT BX.out BZ5.out)
      go_wp2_with fail
      refine wp_region_held_drew (S := fun W => tb < W.heap.size ∧ W.cell? ⟨tb, 0, none⟩ = some (.slice s1 n c1) ∧ W.cell? ⟨tb, 1, none⟩ = some (.slice s2 m c2)) (by kernel_rfl) ?_ (fun hHeld => ?_)
      · exact KT.out _ B10.out.drew
      have BD12 := Lib.hid B10.out.drew
      have GX := Lib.hid (drew_blk Q5.out)
      have GP := Lib.hid (drew_own P5.out)
      generalize y5.drew = wy at *
      refine wpAnyH_take (i := 0) (oi := _) (v := ?_) rfl (by kernel_rfl) (by kernel_rfl) (by kernel_rfl) (fun _ _ _ h => h) (Or.inl ⟨by rfl, ?_⟩) (by assumption) ?_
      rotate_left
      · first | (intro w hSw; (try dsimp only at hSw); go_simp; done) | (intro w hSw; (try dsimp only at hSw); go_simp; with_reducible rfl)
      try simp only [Act.put, List.setIfInBounds_toArray, List.set_cons_zero, List.set_cons_succ, List.getElem_toArray, List.getElem_cons_zero]
      refine wpAnyH_take (i := 1) (oi := _) (v := ?_) rfl (by kernel_rfl) (by kernel_rfl) (by kernel_rfl) (fun _ _ _ h => h) (Or.inl ⟨by rfl, ?_⟩) (by assumption) ?_
      rotate_left
      · first | (intro w hSw; (try dsimp only at hSw); go_simp; done) | (intro w hSw; (try dsimp only at hSw); go_simp; with_reducible rfl)
      try simp only [Act.put, List.setIfInBounds_toArray, List.set_cons_zero, List.set_cons_succ, List.getElem_toArray, List.getElem_cons_succ, List.getElem_cons_zero]
      refine wpAnyH_take (i := 2) (oi := _) (v := ?_) rfl (by kernel_rfl) (by kernel_rfl) (by kernel_rfl) (fun _ _ _ h => h) (Or.inl ⟨by rfl, ?_⟩) (by assumption) ?_
      rotate_left
      · first | (intro w hSw; (try dsimp only at hSw); go_simp; done) | (intro w hSw; (try dsimp only at hSw); go_simp; with_reducible rfl)
      try simp only [Act.put, List.setIfInBounds_toArray, List.set_cons_zero, List.set_cons_succ, List.getElem_toArray, List.getElem_cons_succ, List.getElem_cons_zero]
      refine wpAnyH_take (i := 4) (oi := _) (v := ?_) rfl (by kernel_rfl) (by kernel_rfl) (by kernel_rfl) (fun _ _ _ h => h) (Or.inl ⟨by rfl, ?_⟩) (by assumption) ?_
      rotate_left
      · first | (intro w hSw; (try dsimp only at hSw); go_simp; done) | (intro w hSw; (try dsimp only at hSw); go_simp; with_reducible rfl)
      try simp only [Act.put, List.setIfInBounds_toArray, List.set_cons_zero, List.set_cons_succ, List.getElem_toArray, List.getElem_cons_succ, List.getElem_cons_zero]
      refine wpAnyH_take (i := 5) (oi := _) (v := ?_) rfl (by kernel_rfl) (by kernel_rfl) (by kernel_rfl) (fun _ _ _ h => h) (Or.inl ⟨by rfl, ?_⟩) (by assumption) ?_
      rotate_left
      · first | (intro w hSw; (try dsimp only at hSw); go_simp; done) | (intro w hSw; (try dsimp only at hSw); go_simp; with_reducible rfl)
      try simp only [Act.put, List.setIfInBounds_toArray, List.set_cons_zero, List.set_cons_succ, List.getElem_toArray, List.getElem_cons_succ, List.getElem_cons_zero]
      clear hHeld
      apply tail5 (fun (W : World) (q : Nat) (sl : Option Addr) (k : Nat) (v : Value) => ∃ C1 : Nat, Hid (Below wB.heap.size wB W) ∧ Hid (W.heap[qx]? = some (.cells #[.int .i64 1, .slice sx pn kx, .int .i64 T, .int .i64 0] 32)) ∧ Hid (W.ownsRow CX 62 2 (.slice sx pn kx) pn PC) ∧ Hid (W.ownsRow C1 62 2 (.slice sl pn k) pn PC) ∧ Hid (W.heap[q]? = some (.cells #[.int .i64 1, .slice sl pn k, .int .i64 T, .int .i64 0] 32)))
      · intro TAILC
        refine wpAnyH_ready (rs := [3, 8]) (by kernel_rfl) (by simp) ?_
        refine AllReadyH.cons rfl (fun K hK => ?_) (AllReadyH.cons rfl (fun K hK => ?_) AllReadyH.nil)
        · go_simp
          go_wp2_with (go_at_call 7; refine (E7.out wy BD12.out).mono ?_; rintro e u38 ⟨v38, rfl, o38, b38⟩)
          have B38 := Lib.hid (bT BD12.out b38)
          have F39 := Lib.hid ((b38.block _ (Array.getElem?_eq_some_iff.1 GX.out).1).trans GX.out)
          have F40 := Lib.hid (own_below GP.out b38)
          have O38 := Lib.hid o38
          clear o38
          refine hK.out _ _ ?_ (fun hHeld => ?_)
          · exact KT.out _ B38.out
          clear hK K b38
          refine wpAnyH_ready (rs := [6, 8]) (by kernel_rfl) (by simp) ?_
          refine AllReadyH.cons rfl (fun K hK => ?_) (AllReadyH.cons rfl (fun K hK => ?_) AllReadyH.nil)
          · go_simp
            go_wp2_with (go_at_call 12; refine (E12.out _ (by first | exact hwr | rfl) u38).mono ?_; rintro e w_ ⟨rfl, hw_⟩; obtain rfl := hw_.symm)
            refine hK.out _ _ ?_ (fun hHeld => ?_)
            · exact KT.out _ B38.out
            clear hK K
            refine wpAnyH_ready (rs := [7, 8]) (by kernel_rfl) (by simp) ?_
            refine AllReadyH.cons rfl (fun K hK => ?_) (AllReadyH.cons rfl (fun K hK => ?_) AllReadyH.nil)
            · go_simp
              go_wp2_with (go_at_call 6; refine (E6b.out u38 _ v38 B38.out O38.out (by simp)).mono ?_; rintro e u42 ⟨sl42, k42, rfl, o42, b42⟩)
              have B42 := Lib.hid (bT B38.out b42)
              have F43 := Lib.hid ((b42.block _ (Array.getElem?_eq_some_iff.1 F39.out).1).trans F39.out)
              have F44 := Lib.hid (own_below F40.out b42)
              have F45 := Lib.hid (own_below O38.out b42)
              have O42 := Lib.hid o42
              clear o42
              refine hK.out _ _ ?_ (fun hHeld => ?_)
              · exact KT.out _ B42.out
              clear hK K b42
              refine wpAnyH_ready (rs := [8]) (by kernel_rfl) (by simp) ?_
              refine AllReadyH.cons rfl (fun K hK => ?_) AllReadyH.nil
              go_simp
              go_wp2
              have b46 := bA0 u42 (.cells #[.int .i64 0, .slice none 0 0, .int .i64 0, .int .i64 0] 32)
              have F46q := Lib.hid (new_at u42 (.cells #[.int .i64 0, .slice none 0 0, .int .i64 0, .int .i64 0] 32))
              have B46 := Lib.hid (bA B42.out (.cells #[.int .i64 0, .slice none 0 0, .int .i64 0, .int .i64 0] 32))
              have nl46x0 : qx < u42.heap.size := (Array.getElem?_eq_some_iff.1 F43.out).1
              have F47 := Lib.hid ((b46.block _ (Array.getElem?_eq_some_iff.1 F43.out).1).trans F43.out)
              have F48 := Lib.hid (own_below F44.out b46)
              have F49 := Lib.hid (own_below F45.out b46)
              have F50 := Lib.hid (own_below O42.out b46)
              generalize u42.alloc (.cells #[.int .i64 0, .slice none 0 0, .int .i64 0, .int .i64 0] 32) = u46 at *
              refine hK.out _ _ ?_ (fun hHeld => ?_)
              · exact KT.out _ B46.out
              clear hK K b46
              refine wpAnyH_ready (rs := [9]) (by kernel_rfl) (by simp) ?_
              refine AllReadyH.cons rfl (fun K hK => ?_) AllReadyH.nil
              obtain ⟨lq, z0, z1, z2, z3, zf⟩ := fx F46q.out
              have F52 : Hid (((((u46.setCell ⟨u42.heap.size, 0, none⟩ (.int .i64 1)).setCell ⟨u42.heap.size, 1, none⟩ (.slice sl42 pn k42)).setCell ⟨u42.heap.size, 2, none⟩ (.int .i64 T)).setCell ⟨u42.heap.size, 3, none⟩ (.int .i64 0)).heap[qx]? = _) := (w4_blk u46 qx u42.heap.size (.int .i64 1) (.slice sl42 pn k42) (.int .i64 T) (.int .i64 0) (by omega)).trans F47.out
              have F53 := Lib.hid (own_w4 F48.out (own_diffD F48.out F46q.out (by decide)) (.int .i64 1) (.slice sl42 pn k42) (.int .i64 T) (.int .i64 0))
              have F54 := Lib.hid (own_w4 F49.out (own_diffD F49.out F46q.out (by decide)) (.int .i64 1) (.slice sl42 pn k42) (.int .i64 T) (.int .i64 0))
              have F55 := Lib.hid (own_w4 F50.out (own_diffD F50.out F46q.out (by decide)) (.int .i64 1) (.slice sl42 pn k42) (.int .i64 T) (.int .i64 0))
              have F51q := Lib.hid (w4_at F46q.out (.int .i64 1) (.slice sl42 pn k42) (.int .i64 T) (.int .i64 0))
              have B51 := Lib.hid (w4_below B46.out (show wB.heap.size ≤ u42.heap.size from B42.out.size) (.int .i64 1) (.slice sl42 pn k42) (.int .i64 T) (.int .i64 0))
              unfold w4 at *
              go_simp
              refine hK.out _ _ ?_ (fun hHeld => ?_)
              · exact KT.out _ B51.out
              clear hK K lq z0 z1 z2 z3 zf
              generalize ((((u46.setCell ⟨u42.heap.size, 0, none⟩ (.int .i64 1)).setCell ⟨u42.heap.size, 1, none⟩ (.slice sl42 pn k42)).setCell ⟨u42.heap.size, 2, none⟩ (.int .i64 T)).setCell ⟨u42.heap.size, 3, none⟩ (.int .i64 0)) = u51 at *
              refine wpAnyH_done (by kernel_rfl) ?_ _
              generalize u42.heap.size = qn at *
              exact TAILC u51 qn sl42 k42 v38 ⟨_, B51, F52, F53, F55, F51q⟩
            · go_simp
              go_wp2
              have b56 := bA0 u38 (.cells #[.int .i64 0, .slice none 0 0, .int .i64 0, .int .i64 0] 32)
              have F56q := Lib.hid (new_at u38 (.cells #[.int .i64 0, .slice none 0 0, .int .i64 0, .int .i64 0] 32))
              have B56 := Lib.hid (bA B38.out (.cells #[.int .i64 0, .slice none 0 0, .int .i64 0, .int .i64 0] 32))
              have nl56x0 : qx < u38.heap.size := (Array.getElem?_eq_some_iff.1 F39.out).1
              have F57 := Lib.hid ((b56.block _ (Array.getElem?_eq_some_iff.1 F39.out).1).trans F39.out)
              have F58 := Lib.hid (own_below F40.out b56)
              have F59 := Lib.hid (own_below O38.out b56)
              generalize u38.alloc (.cells #[.int .i64 0, .slice none 0 0, .int .i64 0, .int .i64 0] 32) = u56 at *
              refine hK.out _ _ ?_ (fun hHeld => ?_)
              · exact KT.out _ B56.out
              clear hK K b56
              refine wpAnyH_ready (rs := [7]) (by kernel_rfl) (by simp) ?_
              refine AllReadyH.cons rfl (fun K hK => ?_) AllReadyH.nil
              go_simp
              go_wp2_with (go_at_call 6; refine (E6b.out u56 _ v38 B56.out F59.out (by simp)).mono ?_; rintro e u60 ⟨sl60, k60, rfl, o60, b60⟩)
              have B60 := Lib.hid (bT B56.out b60)
              have F61 := Lib.hid ((b60.block _ (Array.getElem?_eq_some_iff.1 F57.out).1).trans F57.out)
              have F62 := Lib.hid (own_below F58.out b60)
              have F63 := Lib.hid (own_below F59.out b60)
              have F64 := Lib.hid ((b60.block _ (Array.getElem?_eq_some_iff.1 F56q.out).1).trans F56q.out)
              have O60 := Lib.hid o60
              clear o60
              refine hK.out _ _ ?_ (fun hHeld => ?_)
              · exact KT.out _ B60.out
              clear hK K b60
              refine wpAnyH_ready (rs := [9]) (by kernel_rfl) (by simp) ?_
              refine AllReadyH.cons rfl (fun K hK => ?_) AllReadyH.nil
              obtain ⟨lq, z0, z1, z2, z3, zf⟩ := fx F64.out
              have F66 : Hid (((((u60.setCell ⟨u38.heap.size, 0, none⟩ (.int .i64 1)).setCell ⟨u38.heap.size, 1, none⟩ (.slice sl60 pn k60)).setCell ⟨u38.heap.size, 2, none⟩ (.int .i64 T)).setCell ⟨u38.heap.size, 3, none⟩ (.int .i64 0)).heap[qx]? = _) := (w4_blk u60 qx u38.heap.size (.int .i64 1) (.slice sl60 pn k60) (.int .i64 T) (.int .i64 0) (by omega)).trans F61.out
              have F67 := Lib.hid (own_w4 F62.out (own_diffD F62.out F64.out (by decide)) (.int .i64 1) (.slice sl60 pn k60) (.int .i64 T) (.int .i64 0))
              have F68 := Lib.hid (own_w4 F63.out (own_diffD F63.out F64.out (by decide)) (.int .i64 1) (.slice sl60 pn k60) (.int .i64 T) (.int .i64 0))
              have F69 := Lib.hid (own_w4 O60.out (own_diffD O60.out F64.out (by decide)) (.int .i64 1) (.slice sl60 pn k60) (.int .i64 T) (.int .i64 0))
              have F65q := Lib.hid (w4_at F64.out (.int .i64 1) (.slice sl60 pn k60) (.int .i64 T) (.int .i64 0))
              have B65 := Lib.hid (w4_below B60.out (show wB.heap.size ≤ u38.heap.size from B38.out.size) (.int .i64 1) (.slice sl60 pn k60) (.int .i64 T) (.int .i64 0))
              unfold w4 at *
              go_simp
              refine hK.out _ _ ?_ (fun hHeld => ?_)
              · exact KT.out _ B65.out
              clear hK K lq z0 z1 z2 z3 zf
              generalize ((((u60.setCell ⟨u38.heap.size, 0, none⟩ (.int .i64 1)).setCell ⟨u38.heap.size, 1, none⟩ (.slice sl60 pn k60)).setCell ⟨u38.heap.size, 2, none⟩ (.int .i64 T)).setCell ⟨u38.heap.size, 3, none⟩ (.int .i64 0)) = u65 at *
              refine wpAnyH_done (by kernel_rfl) ?_ _
              generalize u38.heap.size = qn at *
              exact TAILC u65 qn sl60 k60 v38 ⟨_, B65, F66, F67, F69, F65q⟩
          · go_simp
            go_wp2
            have b70 := bA0 u38 (.cells #[.int .i64 0, .slice none 0 0, .int .i64 0, .int .i64 0] 32)
            have F70q := Lib.hid (new_at u38 (.cells #[.int .i64 0, .slice none 0 0, .int .i64 0, .int .i64 0] 32))
            have B70 := Lib.hid (bA B38.out (.cells #[.int .i64 0, .slice none 0 0, .int .i64 0, .int .i64 0] 32))
            have nl70x0 : qx < u38.heap.size := (Array.getElem?_eq_some_iff.1 F39.out).1
            have F71 := Lib.hid ((b70.block _ (Array.getElem?_eq_some_iff.1 F39.out).1).trans F39.out)
            have F72 := Lib.hid (own_below F40.out b70)
            have F73 := Lib.hid (own_below O38.out b70)
            generalize u38.alloc (.cells #[.int .i64 0, .slice none 0 0, .int .i64 0, .int .i64 0] 32) = u70 at *
            refine hK.out _ _ ?_ (fun hHeld => ?_)
            · exact KT.out _ B70.out
            clear hK K b70
            refine wpAnyH_ready (rs := [6]) (by kernel_rfl) (by simp) ?_
            refine AllReadyH.cons rfl (fun K hK => ?_) AllReadyH.nil
            go_simp
            go_wp2_with (go_at_call 12; refine (E12.out _ (by first | exact hwr | rfl) u70).mono ?_; rintro e w_ ⟨rfl, hw_⟩; obtain rfl := hw_.symm)
            refine hK.out _ _ ?_ (fun hHeld => ?_)
            · exact KT.out _ B70.out
            clear hK K
            refine wpAnyH_ready (rs := [7]) (by kernel_rfl) (by simp) ?_
            refine AllReadyH.cons rfl (fun K hK => ?_) AllReadyH.nil
            go_simp
            go_wp2_with (go_at_call 6; refine (E6b.out u70 _ v38 B70.out F73.out (by simp)).mono ?_; rintro e u75 ⟨sl75, k75, rfl, o75, b75⟩)
            have B75 := Lib.hid (bT B70.out b75)
            have F76 := Lib.hid ((b75.block _ (Array.getElem?_eq_some_iff.1 F71.out).1).trans F71.out)
            have F77 := Lib.hid (own_below F72.out b75)
            have F78 := Lib.hid (own_below F73.out b75)
            have F79 := Lib.hid ((b75.block _ (Array.getElem?_eq_some_iff.1 F70q.out).1).trans F70q.out)
            have O75 := Lib.hid o75
            clear o75
            refine hK.out _ _ ?_ (fun hHeld => ?_)
            · exact KT.out _ B75.out
            clear hK K b75
            refine wpAnyH_ready (rs := [9]) (by kernel_rfl) (by simp) ?_
            refine AllReadyH.cons rfl (fun K hK => ?_) AllReadyH.nil
            obtain ⟨lq, z0, z1, z2, z3, zf⟩ := fx F79.out
            have F81 : Hid (((((u75.setCell ⟨u38.heap.size, 0, none⟩ (.int .i64 1)).setCell ⟨u38.heap.size, 1, none⟩ (.slice sl75 pn k75)).setCell ⟨u38.heap.size, 2, none⟩ (.int .i64 T)).setCell ⟨u38.heap.size, 3, none⟩ (.int .i64 0)).heap[qx]? = _) := (w4_blk u75 qx u38.heap.size (.int .i64 1) (.slice sl75 pn k75) (.int .i64 T) (.int .i64 0) (by omega)).trans F76.out
            have F82 := Lib.hid (own_w4 F77.out (own_diffD F77.out F79.out (by decide)) (.int .i64 1) (.slice sl75 pn k75) (.int .i64 T) (.int .i64 0))
            have F83 := Lib.hid (own_w4 F78.out (own_diffD F78.out F79.out (by decide)) (.int .i64 1) (.slice sl75 pn k75) (.int .i64 T) (.int .i64 0))
            have F84 := Lib.hid (own_w4 O75.out (own_diffD O75.out F79.out (by decide)) (.int .i64 1) (.slice sl75 pn k75) (.int .i64 T) (.int .i64 0))
            have F80q := Lib.hid (w4_at F79.out (.int .i64 1) (.slice sl75 pn k75) (.int .i64 T) (.int .i64 0))
            have B80 := Lib.hid (w4_below B75.out (show wB.heap.size ≤ u38.heap.size from B38.out.size) (.int .i64 1) (.slice sl75 pn k75) (.int .i64 T) (.int .i64 0))
            unfold w4 at *
            go_simp
            refine hK.out _ _ ?_ (fun hHeld => ?_)
            · exact KT.out _ B80.out
            clear hK K lq z0 z1 z2 z3 zf
            generalize ((((u75.setCell ⟨u38.heap.size, 0, none⟩ (.int .i64 1)).setCell ⟨u38.heap.size, 1, none⟩ (.slice sl75 pn k75)).setCell ⟨u38.heap.size, 2, none⟩ (.int .i64 T)).setCell ⟨u38.heap.size, 3, none⟩ (.int .i64 0)) = u80 at *
            refine wpAnyH_done (by kernel_rfl) ?_ _
            generalize u38.heap.size = qn at *
            exact TAILC u80 qn sl75 k75 v38 ⟨_, B80, F81, F82, F84, F80q⟩
        · go_simp
          go_wp2
          have b85 := bA0 wy (.cells #[.int .i64 0, .slice none 0 0, .int .i64 0, .int .i64 0] 32)
          have F85q := Lib.hid (new_at wy (.cells #[.int .i64 0, .slice none 0 0, .int .i64 0, .int .i64 0] 32))
          have B85 := Lib.hid (bA BD12.out (.cells #[.int .i64 0, .slice none 0 0, .int .i64 0, .int .i64 0] 32))
          have nl85x0 : qx < wy.heap.size := (Array.getElem?_eq_some_iff.1 GX.out).1
          have F86 := Lib.hid ((b85.block _ (Array.getElem?_eq_some_iff.1 GX.out).1).trans GX.out)
          have F87 := Lib.hid (own_below GP.out b85)
          generalize wy.alloc (.cells #[.int .i64 0, .slice none 0 0, .int .i64 0, .int .i64 0] 32) = u85 at *
          refine hK.out _ _ ?_ (fun hHeld => ?_)
          · exact KT.out _ B85.out
          clear hK K b85
          refine wpAnyH_ready (rs := [3]) (by kernel_rfl) (by simp) ?_
          refine AllReadyH.cons rfl (fun K hK => ?_) AllReadyH.nil
          go_simp
          go_wp2_with (go_at_call 7; refine (E7.out u85 B85.out).mono ?_; rintro e u88 ⟨v88, rfl, o88, b88⟩)
          have B88 := Lib.hid (bT B85.out b88)
          have F89 := Lib.hid ((b88.block _ (Array.getElem?_eq_some_iff.1 F86.out).1).trans F86.out)
          have F90 := Lib.hid (own_below F87.out b88)
          have F91 := Lib.hid ((b88.block _ (Array.getElem?_eq_some_iff.1 F85q.out).1).trans F85q.out)
          have O88 := Lib.hid o88
          clear o88
          refine hK.out _ _ ?_ (fun hHeld => ?_)
          · exact KT.out _ B88.out
          clear hK K b88
          refine wpAnyH_ready (rs := [6]) (by kernel_rfl) (by simp) ?_
          refine AllReadyH.cons rfl (fun K hK => ?_) AllReadyH.nil
          go_simp
          go_wp2_with (go_at_call 12; refine (E12.out _ (by first | exact hwr | rfl) u88).mono ?_; rintro e w_ ⟨rfl, hw_⟩; obtain rfl := hw_.symm)
          refine hK.out _ _ ?_ (fun hHeld => ?_)
          · exact KT.out _ B88.out
          clear hK K
          refine wpAnyH_ready (rs := [7]) (by kernel_rfl) (by simp) ?_
          refine AllReadyH.cons rfl (fun K hK => ?_) AllReadyH.nil
          go_simp
          go_wp2_with (go_at_call 6; refine (E6b.out u88 _ v88 B88.out O88.out (by simp)).mono ?_; rintro e u93 ⟨sl93, k93, rfl, o93, b93⟩)
          have B93 := Lib.hid (bT B88.out b93)
          have F94 := Lib.hid ((b93.block _ (Array.getElem?_eq_some_iff.1 F89.out).1).trans F89.out)
          have F95 := Lib.hid (own_below F90.out b93)
          have F96 := Lib.hid ((b93.block _ (Array.getElem?_eq_some_iff.1 F91.out).1).trans F91.out)
          have F97 := Lib.hid (own_below O88.out b93)
          have O93 := Lib.hid o93
          clear o93
          refine hK.out _ _ ?_ (fun hHeld => ?_)
          · exact KT.out _ B93.out
          clear hK K b93
          refine wpAnyH_ready (rs := [9]) (by kernel_rfl) (by simp) ?_
          refine AllReadyH.cons rfl (fun K hK => ?_) AllReadyH.nil
          obtain ⟨lq, z0, z1, z2, z3, zf⟩ := fx F96.out
          have F99 : Hid (((((u93.setCell ⟨wy.heap.size, 0, none⟩ (.int .i64 1)).setCell ⟨wy.heap.size, 1, none⟩ (.slice sl93 pn k93)).setCell ⟨wy.heap.size, 2, none⟩ (.int .i64 T)).setCell ⟨wy.heap.size, 3, none⟩ (.int .i64 0)).heap[qx]? = _) := (w4_blk u93 qx wy.heap.size (.int .i64 1) (.slice sl93 pn k93) (.int .i64 T) (.int .i64 0) (by omega)).trans F94.out
          have F100 := Lib.hid (own_w4 F95.out (own_diffD F95.out F96.out (by decide)) (.int .i64 1) (.slice sl93 pn k93) (.int .i64 T) (.int .i64 0))
          have F101 := Lib.hid (own_w4 F97.out (own_diffD F97.out F96.out (by decide)) (.int .i64 1) (.slice sl93 pn k93) (.int .i64 T) (.int .i64 0))
          have F102 := Lib.hid (own_w4 O93.out (own_diffD O93.out F96.out (by decide)) (.int .i64 1) (.slice sl93 pn k93) (.int .i64 T) (.int .i64 0))
          have F98q := Lib.hid (w4_at F96.out (.int .i64 1) (.slice sl93 pn k93) (.int .i64 T) (.int .i64 0))
          have B98 := Lib.hid (w4_below B93.out (show wB.heap.size ≤ wy.heap.size from BD12.out.size) (.int .i64 1) (.slice sl93 pn k93) (.int .i64 T) (.int .i64 0))
          unfold w4 at *
          go_simp
          refine hK.out _ _ ?_ (fun hHeld => ?_)
          · exact KT.out _ B98.out
          clear hK K lq z0 z1 z2 z3 zf
          generalize ((((u93.setCell ⟨wy.heap.size, 0, none⟩ (.int .i64 1)).setCell ⟨wy.heap.size, 1, none⟩ (.slice sl93 pn k93)).setCell ⟨wy.heap.size, 2, none⟩ (.int .i64 T)).setCell ⟨wy.heap.size, 3, none⟩ (.int .i64 0)) = u98 at *
          refine wpAnyH_done (by kernel_rfl) ?_ _
          generalize wy.heap.size = qn at *
          exact TAILC u98 qn sl93 k93 v88 ⟨_, B98, F99, F100, F102, F98q⟩
      · intro W q sl k v ⟨C1, BZ, FX, FP, FPB, FR⟩
        obtain ⟨lr, r0, r1, r2, r3, rf⟩ := fx FR.out
        obtain ⟨lx, x0, x1, x2, x3, xf⟩ := fx FX.out
        go_wp2_with fail
        refine (E13.out W _ _ _ _ FPB.out FP.out).mono ?_
        rintro e wf ⟨rfl, bf⟩
        obtain ⟨lr, r0, r1, r2, r3, rf⟩ := fx (Lib.hid ((bf.block _ (Array.getElem?_eq_some_iff.1 FR.out).1).trans FR.out)).out
        obtain ⟨lx, x0, x1, x2, x3, xf⟩ := fx (Lib.hid ((bf.block _ (Array.getElem?_eq_some_iff.1 FX.out).1).trans FX.out)).out
        have BF := Lib.hid (bT BZ.out bf)
        clear bf
        go_wp2
        go_ret
        exact ⟨rfl, bT BW.out BF.out⟩
    · have KH : Hid (∀ W, Below wx.heap.size wx W → (tb < W.heap.size ∧ W.cell? ⟨tb, 0, none⟩ = some (.slice s1 n c1) ∧ W.cell? ⟨tb, 1, none⟩ = some (.slice s2 m c2)) ∧ qx < W.heap.size ∧ W.cell? ⟨qx, 1, none⟩ = some (.slice sx pn kx) ∧ q0 < W.heap.size ∧ W.cell? ⟨q0, 0, none⟩ = some (.int .i64 2)) := fun W hW => ⟨KT.out _ (bT BX.out hW), Nat.lt_of_lt_of_le lx hW.size, (hW.cell lx).trans x1, Nat.lt_of_lt_of_le l0 hW.size, (hW.cell l0).trans a0⟩
      have P0 := Lib.hid (drew_own PX.out)
      have Q0 := Lib.hid (drew_blk RX.out)
      have BZ0 := Lib.hid (Below.refl wx.heap.size wx).drew
      go_wp2_with fail
      refine wp_region_held_drew (S := fun W => (tb < W.heap.size ∧ W.cell? ⟨tb, 0, none⟩ = some (.slice s1 n c1) ∧ W.cell? ⟨tb, 1, none⟩ = some (.slice s2 m c2)) ∧ qx < W.heap.size ∧ W.cell? ⟨qx, 1, none⟩ = some (.slice sx pn kx) ∧ q0 < W.heap.size ∧ W.cell? ⟨q0, 0, none⟩ = some (.int .i64 2)) (by kernel_rfl) ?_ (fun hHeld => ?_)
      · exact KH.out _ BZ0.out
      clear l0 a0 a1 a2 a3 af lx x0 x1 x2 x3 xf
      generalize wx.drew = wz at *
      refine wpAnyH_take (i := 0) (oi := _) (v := ?_) rfl (by kernel_rfl) (by kernel_rfl) (by kernel_rfl) (fun _ _ _ h => h) (Or.inl ⟨by rfl, ?_⟩) (by assumption) ?_
      rotate_left
      · first | (intro w hSw; (try dsimp only at hSw); go_simp; done) | (intro w hSw; (try dsimp only at hSw); go_simp; with_reducible rfl)
      try simp only [Act.put, List.setIfInBounds_toArray, List.set_cons_zero, List.set_cons_succ, List.getElem_toArray, List.getElem_cons_zero]
      refine wpAnyH_take (i := 1) (oi := _) (v := ?_) rfl (by kernel_rfl) (by kernel_rfl) (by kernel_rfl) (fun _ _ _ h => h) (Or.inl ⟨by rfl, ?_⟩) (by assumption) ?_
      rotate_left
      · first | (intro w hSw; (try dsimp only at hSw); go_simp; done) | (intro w hSw; (try dsimp only at hSw); go_simp; with_reducible rfl)
      try simp only [Act.put, List.setIfInBounds_toArray, List.set_cons_zero, List.set_cons_succ, List.getElem_toArray, List.getElem_cons_succ, List.getElem_cons_zero]
      refine wpAnyH_take (i := 2) (oi := _) (v := ?_) rfl (by kernel_rfl) (by kernel_rfl) (by kernel_rfl) (fun _ _ _ h => h) (Or.inl ⟨by rfl, ?_⟩) (by assumption) ?_
      rotate_left
      · first | (intro w hSw; (try dsimp only at hSw); go_simp; done) | (intro w hSw; (try dsimp only at hSw); go_simp; with_reducible rfl)
      try simp only [Act.put, List.setIfInBounds_toArray, List.set_cons_zero, List.set_cons_succ, List.getElem_toArray, List.getElem_cons_succ, List.getElem_cons_zero]
      refine wpAnyH_take (i := 3) (oi := _) (v := ?_) rfl (by kernel_rfl) (by kernel_rfl) (by kernel_rfl) (fun _ _ _ h => h) (Or.inl ⟨by rfl, ?_⟩) (by assumption) ?_
      rotate_left
      · first | (intro w hSw; (try dsimp only at hSw); go_simp; done) | (intro w hSw; (try dsimp only at hSw); go_simp; with_reducible rfl)
      try simp only [Act.put, List.setIfInBounds_toArray, List.set_cons_zero, List.set_cons_succ, List.getElem_toArray, List.getElem_cons_succ, List.getElem_cons_zero]
      refine wpAnyH_take (i := 4) (oi := _) (v := undef) rfl (by kernel_rfl) (by kernel_rfl) (by kernel_rfl) (fun _ _ _ h => h) (Or.inr ⟨by rfl, rfl⟩) (by assumption) ?_
      try simp only [Act.put, List.setIfInBounds_toArray, List.set_cons_zero, List.set_cons_succ, List.getElem_toArray, List.getElem_cons_succ, List.getElem_cons_zero]
      refine wpAnyH_take (i := 5) (oi := _) (v := undef) rfl (by kernel_rfl) (by kernel_rfl) (by kernel_rfl) (fun _ _ _ h => h) (Or.inr ⟨by rfl, rfl⟩) (by assumption) ?_
      try simp only [Act.put, List.setIfInBounds_toArray, List.set_cons_zero, List.set_cons_succ, List.getElem_toArray, List.getElem_cons_succ, List.getElem_cons_zero]
      refine wpAnyH_take (i := 6) (oi := _) (v := undef) rfl (by kernel_rfl) (by kernel_rfl) (by kernel_rfl) (fun _ _ _ h => h) (Or.inr ⟨by rfl, rfl⟩) (by assumption) ?_
      try simp only [Act.put, List.setIfInBounds_toArray, List.set_cons_zero, List.set_cons_succ, List.getElem_toArray, List.getElem_cons_succ, List.getElem_cons_zero]
      refine wpAnyH_take (i := 7) (oi := _) (v := undef) rfl (by kernel_rfl) (by kernel_rfl) (by kernel_rfl) (fun _ _ _ h => h) (Or.inr ⟨by rfl, rfl⟩) (by assumption) ?_
      try simp only [Act.put, List.setIfInBounds_toArray, List.set_cons_zero, List.set_cons_succ, List.getElem_toArray, List.getElem_cons_succ, List.getElem_cons_zero]
      refine wpAnyH_take (i := 8) (oi := _) (v := undef) rfl (by kernel_rfl) (by kernel_rfl) (by kernel_rfl) (fun _ _ _ h => h) (Or.inr ⟨by rfl, rfl⟩) (by assumption) ?_
      try simp only [Act.put, List.setIfInBounds_toArray, List.set_cons_zero, List.set_cons_succ, List.getElem_toArray, List.getElem_cons_succ, List.getElem_cons_zero]
      refine wpAnyH_take (i := 9) (oi := _) (v := undef) rfl (by kernel_rfl) (by kernel_rfl) (by kernel_rfl) (fun _ _ _ h => h) (Or.inr ⟨by rfl, rfl⟩) (by assumption) ?_
      try simp only [Act.put, List.setIfInBounds_toArray, List.set_cons_zero, List.set_cons_succ, List.getElem_toArray, List.getElem_cons_succ, List.getElem_cons_zero]
      refine wpAnyH_take (i := 10) (oi := _) (v := undef) rfl (by kernel_rfl) (by kernel_rfl) (by kernel_rfl) (fun _ _ _ h => h) (Or.inr ⟨by rfl, rfl⟩) (by assumption) ?_
      try simp only [Act.put, List.setIfInBounds_toArray, List.set_cons_zero, List.set_cons_succ, List.getElem_toArray, List.getElem_cons_succ, List.getElem_cons_zero]
      refine wpAnyH_take (i := 11) (oi := _) (v := undef) rfl (by kernel_rfl) (by kernel_rfl) (by kernel_rfl) (fun _ _ _ h => h) (Or.inr ⟨by rfl, rfl⟩) (by assumption) ?_
      try simp only [Act.put, List.setIfInBounds_toArray, List.set_cons_zero, List.set_cons_succ, List.getElem_toArray, List.getElem_cons_succ, List.getElem_cons_zero]
      refine wpAnyH_take (i := 12) (oi := _) (v := undef) rfl (by kernel_rfl) (by kernel_rfl) (by kernel_rfl) (fun _ _ _ h => h) (Or.inr ⟨by rfl, rfl⟩) (by assumption) ?_
      try simp only [Act.put, List.setIfInBounds_toArray, List.set_cons_zero, List.set_cons_succ, List.getElem_toArray, List.getElem_cons_succ, List.getElem_cons_zero]
      refine wpAnyH_take (i := 13) (oi := _) (v := undef) rfl (by kernel_rfl) (by kernel_rfl) (by kernel_rfl) (fun _ _ _ h => h) (Or.inr ⟨by rfl, rfl⟩) (by assumption) ?_
      try simp only [Act.put, List.setIfInBounds_toArray, List.set_cons_zero, List.set_cons_succ, List.getElem_toArray, List.getElem_cons_succ, List.getElem_cons_zero]
      refine wpAnyH_take (i := 14) (oi := _) (v := undef) rfl (by kernel_rfl) (by kernel_rfl) (by kernel_rfl) (fun _ _ _ h => h) (Or.inr ⟨by rfl, rfl⟩) (by assumption) ?_
      try simp only [Act.put, List.setIfInBounds_toArray, List.set_cons_zero, List.set_cons_succ, List.getElem_toArray, List.getElem_cons_succ, List.getElem_cons_zero]
      refine wpAnyH_take (i := 15) (oi := _) (v := undef) rfl (by kernel_rfl) (by kernel_rfl) (by kernel_rfl) (fun _ _ _ h => h) (Or.inr ⟨by rfl, rfl⟩) (by assumption) ?_
      try simp only [Act.put, List.setIfInBounds_toArray, List.set_cons_zero, List.set_cons_succ, List.getElem_toArray, List.getElem_cons_succ, List.getElem_cons_zero]
      refine wpAnyH_take (i := 16) (oi := _) (v := undef) rfl (by kernel_rfl) (by kernel_rfl) (by kernel_rfl) (fun _ _ _ h => h) (Or.inr ⟨by rfl, rfl⟩) (by assumption) ?_
      try simp only [Act.put, List.setIfInBounds_toArray, List.set_cons_zero, List.set_cons_succ, List.getElem_toArray, List.getElem_cons_succ, List.getElem_cons_zero]
      refine wpAnyH_take (i := 17) (oi := _) (v := undef) rfl (by kernel_rfl) (by kernel_rfl) (by kernel_rfl) (fun _ _ _ h => h) (Or.inr ⟨by rfl, rfl⟩) (by assumption) ?_
      try simp only [Act.put, List.setIfInBounds_toArray, List.set_cons_zero, List.set_cons_succ, List.getElem_toArray, List.getElem_cons_succ, List.getElem_cons_zero]
      refine wpAnyH_take (i := 18) (oi := _) (v := undef) rfl (by kernel_rfl) (by kernel_rfl) (by kernel_rfl) (fun _ _ _ h => h) (Or.inr ⟨by rfl, rfl⟩) (by assumption) ?_
      try simp only [Act.put, List.setIfInBounds_toArray, List.set_cons_zero, List.set_cons_succ, List.getElem_toArray, List.getElem_cons_succ, List.getElem_cons_zero]
      refine wpAnyH_take (i := 19) (oi := _) (v := undef) rfl (by kernel_rfl) (by kernel_rfl) (by kernel_rfl) (fun _ _ _ h => h) (Or.inr ⟨by rfl, rfl⟩) (by assumption) ?_
      try simp only [Act.put, List.setIfInBounds_toArray, List.set_cons_zero, List.set_cons_succ, List.getElem_toArray, List.getElem_cons_succ, List.getElem_cons_zero]
      refine wpAnyH_take (i := 20) (oi := _) (v := ?_) rfl (by kernel_rfl) (by kernel_rfl) (by kernel_rfl) (fun _ _ _ h => h) (Or.inl ⟨by rfl, ?_⟩) (by assumption) ?_
      rotate_left
      · first | (intro w hSw; (try dsimp only at hSw); go_simp; done) | (intro w hSw; (try dsimp only at hSw); go_simp; with_reducible rfl)
      try simp only [Act.put, List.setIfInBounds_toArray, List.set_cons_zero, List.set_cons_succ, List.getElem_toArray, List.getElem_cons_succ, List.getElem_cons_zero]
      refine wpAnyH_done (by kernel_rfl) ?_ _
      clear hHeld
      have B10 := Lib.hid (bT BX.out BZ0.out)
      go_wp2_with fail
      refine wp_region_held_drew (S := fun W => tb < W.heap.size ∧ W.cell? ⟨tb, 0, none⟩ = some (.slice s1 n c1) ∧ W.cell? ⟨tb, 1, none⟩ = some (.slice s2 m c2)) (by kernel_rfl) ?_ (fun hHeld => ?_)
      · exact KT.out _ B10.out.drew
      have BD12 := Lib.hid B10.out.drew
      have GX := Lib.hid (drew_blk Q0.out)
      have GP := Lib.hid (drew_own P0.out)
      generalize wz.drew = wy at *
      refine wpAnyH_take (i := 0) (oi := _) (v := ?_) rfl (by kernel_rfl) (by kernel_rfl) (by kernel_rfl) (fun _ _ _ h => h) (Or.inl ⟨by rfl, ?_⟩) (by assumption) ?_
      rotate_left
      · first | (intro w hSw; (try dsimp only at hSw); go_simp; done) | (intro w hSw; (try dsimp only at hSw); go_simp; with_reducible rfl)
      try simp only [Act.put, List.setIfInBounds_toArray, List.set_cons_zero, List.set_cons_succ, List.getElem_toArray, List.getElem_cons_zero]
      refine wpAnyH_take (i := 1) (oi := _) (v := ?_) rfl (by kernel_rfl) (by kernel_rfl) (by kernel_rfl) (fun _ _ _ h => h) (Or.inl ⟨by rfl, ?_⟩) (by assumption) ?_
      rotate_left
      · first | (intro w hSw; (try dsimp only at hSw); go_simp; done) | (intro w hSw; (try dsimp only at hSw); go_simp; with_reducible rfl)
      try simp only [Act.put, List.setIfInBounds_toArray, List.set_cons_zero, List.set_cons_succ, List.getElem_toArray, List.getElem_cons_succ, List.getElem_cons_zero]
      refine wpAnyH_take (i := 2) (oi := _) (v := ?_) rfl (by kernel_rfl) (by kernel_rfl) (by kernel_rfl) (fun _ _ _ h => h) (Or.inl ⟨by rfl, ?_⟩) (by assumption) ?_
      rotate_left
      · first | (intro w hSw; (try dsimp only at hSw); go_simp; done) | (intro w hSw; (try dsimp only at hSw); go_simp; with_reducible rfl)
      try simp only [Act.put, List.setIfInBounds_toArray, List.set_cons_zero, List.set_cons_succ, List.getElem_toArray, List.getElem_cons_succ, List.getElem_cons_zero]
      refine wpAnyH_take (i := 4) (oi := _) (v := ?_) rfl (by kernel_rfl) (by kernel_rfl) (by kernel_rfl) (fun _ _ _ h => h) (Or.inl ⟨by rfl, ?_⟩) (by assumption) ?_
      rotate_left
      · first | (intro w hSw; (try dsimp only at hSw); go_simp; done) | (intro w hSw; (try dsimp only at hSw); go_simp; with_reducible rfl)
      try simp only [Act.put, List.setIfInBounds_toArray, List.set_cons_zero, List.set_cons_succ, List.getElem_toArray, List.getElem_cons_succ, List.getElem_cons_zero]
      refine wpAnyH_take (i := 5) (oi := _) (v := ?_) rfl (by kernel_rfl) (by kernel_rfl) (by kernel_rfl) (fun _ _ _ h => h) (Or.inl ⟨by rfl, ?_⟩) (by assumption) ?_
      rotate_left
      · first | (intro w hSw; (try dsimp only at hSw); go_simp; done) | (intro w hSw; (try dsimp only at hSw); go_simp; with_reducible rfl)
      try simp only [Act.put, List.setIfInBounds_toArray, List.set_cons_zero, List.set_cons_succ, List.getElem_toArray, List.getElem_cons_succ, List.getElem_cons_zero]
      clear hHeld
      apply tail5 (fun (W : World) (q : Nat) (sl : Option Addr) (k : Nat) (v : Value) => ∃ C1 : Nat, Hid (Below wB.heap.size wB W) ∧ Hid (W.heap[qx]? = some (.cells #[.int .i64 2, .slice sx pn kx, .int .i64 T, .int .i64 0] 32)) ∧ Hid (W.ownsRow CX 62 2 (.slice sx pn kx) pn PC) ∧ Hid (W.ownsRow C1 62 2 (.slice sl pn k) pn PC) ∧ Hid (W.heap[q]? = some (.cells #[.int .i64 2, .slice sl pn k, .int .i64 T, .int .i64 0] 32)))
      · intro TAILC
        refine wpAnyH_ready (rs := [3, 8]) (by kernel_rfl) (by simp) ?_
        refine AllReadyH.cons rfl (fun K hK => ?_) (AllReadyH.cons rfl (fun K hK => ?_) AllReadyH.nil)
        · go_simp
          go_wp2_with (go_at_call 7; refine (E7.out wy BD12.out).mono ?_; rintro e u103 ⟨v103, rfl, o103, b103⟩)
          have B103 := Lib.hid (bT BD12.out b103)
          have F104 := Lib.hid ((b103.block _ (Array.getElem?_eq_some_iff.1 GX.out).1).trans GX.out)
          have F105 := Lib.hid (own_below GP.out b103)
          have O103 := Lib.hid o103
          clear o103
          refine hK.out _ _ ?_ (fun hHeld => ?_)
          · exact KT.out _ B103.out
          clear hK K b103
          refine wpAnyH_ready (rs := [6, 8]) (by kernel_rfl) (by simp) ?_
          refine AllReadyH.cons rfl (fun K hK => ?_) (AllReadyH.cons rfl (fun K hK => ?_) AllReadyH.nil)
          · go_simp
            go_wp2_with (go_at_call 12; refine (E12.out _ (by first | exact hwr | rfl) u103).mono ?_; rintro e w_ ⟨rfl, hw_⟩; obtain rfl := hw_.symm)
            refine hK.out _ _ ?_ (fun hHeld => ?_)
            · exact KT.out _ B103.out
            clear hK K
            refine wpAnyH_ready (rs := [7, 8]) (by kernel_rfl) (by simp) ?_
            refine AllReadyH.cons rfl (fun K hK => ?_) (AllReadyH.cons rfl (fun K hK => ?_) AllReadyH.nil)
            · go_simp
              go_wp2_with (go_at_call 6; refine (E6b.out u103 _ v103 B103.out O103.out (by simp)).mono ?_; rintro e u107 ⟨sl107, k107, rfl, o107, b107⟩)
              have B107 := Lib.hid (bT B103.out b107)
              have F108 := Lib.hid ((b107.block _ (Array.getElem?_eq_some_iff.1 F104.out).1).trans F104.out)
              have F109 := Lib.hid (own_below F105.out b107)
              have F110 := Lib.hid (own_below O103.out b107)
              have O107 := Lib.hid o107
              clear o107
              refine hK.out _ _ ?_ (fun hHeld => ?_)
              · exact KT.out _ B107.out
              clear hK K b107
              refine wpAnyH_ready (rs := [8]) (by kernel_rfl) (by simp) ?_
              refine AllReadyH.cons rfl (fun K hK => ?_) AllReadyH.nil
              go_simp
              go_wp2
              have b111 := bA0 u107 (.cells #[.int .i64 0, .slice none 0 0, .int .i64 0, .int .i64 0] 32)
              have F111q := Lib.hid (new_at u107 (.cells #[.int .i64 0, .slice none 0 0, .int .i64 0, .int .i64 0] 32))
              have B111 := Lib.hid (bA B107.out (.cells #[.int .i64 0, .slice none 0 0, .int .i64 0, .int .i64 0] 32))
              have nl111x0 : qx < u107.heap.size := (Array.getElem?_eq_some_iff.1 F108.out).1
              have F112 := Lib.hid ((b111.block _ (Array.getElem?_eq_some_iff.1 F108.out).1).trans F108.out)
              have F113 := Lib.hid (own_below F109.out b111)
              have F114 := Lib.hid (own_below F110.out b111)
              have F115 := Lib.hid (own_below O107.out b111)
              generalize u107.alloc (.cells #[.int .i64 0, .slice none 0 0, .int .i64 0, .int .i64 0] 32) = u111 at *
              refine hK.out _ _ ?_ (fun hHeld => ?_)
              · exact KT.out _ B111.out
              clear hK K b111
              refine wpAnyH_ready (rs := [9]) (by kernel_rfl) (by simp) ?_
              refine AllReadyH.cons rfl (fun K hK => ?_) AllReadyH.nil
              obtain ⟨lq, z0, z1, z2, z3, zf⟩ := fx F111q.out
              have F117 : Hid (((((u111.setCell ⟨u107.heap.size, 0, none⟩ (.int .i64 2)).setCell ⟨u107.heap.size, 1, none⟩ (.slice sl107 pn k107)).setCell ⟨u107.heap.size, 2, none⟩ (.int .i64 T)).setCell ⟨u107.heap.size, 3, none⟩ (.int .i64 0)).heap[qx]? = _) := (w4_blk u111 qx u107.heap.size (.int .i64 2) (.slice sl107 pn k107) (.int .i64 T) (.int .i64 0) (by omega)).trans F112.out
              have F118 := Lib.hid (own_w4 F113.out (own_diffD F113.out F111q.out (by decide)) (.int .i64 2) (.slice sl107 pn k107) (.int .i64 T) (.int .i64 0))
              have F119 := Lib.hid (own_w4 F114.out (own_diffD F114.out F111q.out (by decide)) (.int .i64 2) (.slice sl107 pn k107) (.int .i64 T) (.int .i64 0))
              have F120 := Lib.hid (own_w4 F115.out (own_diffD F115.out F111q.out (by decide)) (.int .i64 2) (.slice sl107 pn k107) (.int .i64 T) (.int .i64 0))
              have F116q := Lib.hid (w4_at F111q.out (.int .i64 2) (.slice sl107 pn k107) (.int .i64 T) (.int .i64 0))
              have B116 := Lib.hid (w4_below B111.out (show wB.heap.size ≤ u107.heap.size from B107.out.size) (.int .i64 2) (.slice sl107 pn k107) (.int .i64 T) (.int .i64 0))
              unfold w4 at *
              go_simp
              refine hK.out _ _ ?_ (fun hHeld => ?_)
              · exact KT.out _ B116.out
              clear hK K lq z0 z1 z2 z3 zf
              generalize ((((u111.setCell ⟨u107.heap.size, 0, none⟩ (.int .i64 2)).setCell ⟨u107.heap.size, 1, none⟩ (.slice sl107 pn k107)).setCell ⟨u107.heap.size, 2, none⟩ (.int .i64 T)).setCell ⟨u107.heap.size, 3, none⟩ (.int .i64 0)) = u116 at *
              refine wpAnyH_done (by kernel_rfl) ?_ _
              generalize u107.heap.size = qn at *
              exact TAILC u116 qn sl107 k107 v103 ⟨_, B116, F117, F118, F120, F116q⟩
            · go_simp
              go_wp2
              have b121 := bA0 u103 (.cells #[.int .i64 0, .slice none 0 0, .int .i64 0, .int .i64 0] 32)
              have F121q := Lib.hid (new_at u103 (.cells #[.int .i64 0, .slice none 0 0, .int .i64 0, .int .i64 0] 32))
              have B121 := Lib.hid (bA B103.out (.cells #[.int .i64 0, .slice none 0 0, .int .i64 0, .int .i64 0] 32))
              have nl121x0 : qx < u103.heap.size := (Array.getElem?_eq_some_iff.1 F104.out).1
              have F122 := Lib.hid ((b121.block _ (Array.getElem?_eq_some_iff.1 F104.out).1).trans F104.out)
              have F123 := Lib.hid (own_below F105.out b121)
              have F124 := Lib.hid (own_below O103.out b121)
              generalize u103.alloc (.cells #[.int .i64 0, .slice none 0 0, .int .i64 0, .int .i64 0] 32) = u121 at *
              refine hK.out _ _ ?_ (fun hHeld => ?_)
              · exact KT.out _ B121.out
              clear hK K b121
              refine wpAnyH_ready (rs := [7]) (by kernel_rfl) (by simp) ?_
              refine AllReadyH.cons rfl (fun K hK => ?_) AllReadyH.nil
              go_simp
              go_wp2_with (go_at_call 6; refine (E6b.out u121 _ v103 B121.out F124.out (by simp)).mono ?_; rintro e u125 ⟨sl125, k125, rfl, o125, b125⟩)
              have B125 := Lib.hid (bT B121.out b125)
              have F126 := Lib.hid ((b125.block _ (Array.getElem?_eq_some_iff.1 F122.out).1).trans F122.out)
              have F127 := Lib.hid (own_below F123.out b125)
              have F128 := Lib.hid (own_below F124.out b125)
              have F129 := Lib.hid ((b125.block _ (Array.getElem?_eq_some_iff.1 F121q.out).1).trans F121q.out)
              have O125 := Lib.hid o125
              clear o125
              refine hK.out _ _ ?_ (fun hHeld => ?_)
              · exact KT.out _ B125.out
              clear hK K b125
              refine wpAnyH_ready (rs := [9]) (by kernel_rfl) (by simp) ?_
              refine AllReadyH.cons rfl (fun K hK => ?_) AllReadyH.nil
              obtain ⟨lq, z0, z1, z2, z3, zf⟩ := fx F129.out
              have F131 : Hid (((((u125.setCell ⟨u103.heap.size, 0, none⟩ (.int .i64 2)).setCell ⟨u103.heap.size, 1, none⟩ (.slice sl125 pn k125)).setCell ⟨u103.heap.size, 2, none⟩ (.int .i64 T)).setCell ⟨u103.heap.size, 3, none⟩ (.int .i64 0)).heap[qx]? = _) := (w4_blk u125 qx u103.heap.size (.int .i64 2) (.slice sl125 pn k125) (.int .i64 T) (.int .i64 0) (by omega)).trans F126.out
              have F132 := Lib.hid (own_w4 F127.out (own_diffD F127.out F129.out (by decide)) (.int .i64 2) (.slice sl125 pn k125) (.int .i64 T) (.int .i64 0))
              have F133 := Lib.hid (own_w4 F128.out (own_diffD F128.out F129.out (by decide)) (.int .i64 2) (.slice sl125 pn k125) (.int .i64 T) (.int .i64 0))
              have F134 := Lib.hid (own_w4 O125.out (own_diffD O125.out F129.out (by decide)) (.int .i64 2) (.slice sl125 pn k125) (.int .i64 T) (.int .i64 0))
              have F130q := Lib.hid (w4_at F129.out (.int .i64 2) (.slice sl125 pn k125) (.int .i64 T) (.int .i64 0))
              have B130 := Lib.hid (w4_below B125.out (show wB.heap.size ≤ u103.heap.size from B103.out.size) (.int .i64 2) (.slice sl125 pn k125) (.int .i64 T) (.int .i64 0))
              unfold w4 at *
              go_simp
              refine hK.out _ _ ?_ (fun hHeld => ?_)
              · exact KT.out _ B130.out
              clear hK K lq z0 z1 z2 z3 zf
              generalize ((((u125.setCell ⟨u103.heap.size, 0, none⟩ (.int .i64 2)).setCell ⟨u103.heap.size, 1, none⟩ (.slice sl125 pn k125)).setCell ⟨u103.heap.size, 2, none⟩ (.int .i64 T)).setCell ⟨u103.heap.size, 3, none⟩ (.int .i64 0)) = u130 at *
              refine wpAnyH_done (by kernel_rfl) ?_ _
              generalize u103.heap.size = qn at *
              exact TAILC u130 qn sl125 k125 v103 ⟨_, B130, F131, F132, F134, F130q⟩
          · go_simp
            go_wp2
            have b135 := bA0 u103 (.cells #[.int .i64 0, .slice none 0 0, .int .i64 0, .int .i64 0] 32)
            have F135q := Lib.hid (new_at u103 (.cells #[.int .i64 0, .slice none 0 0, .int .i64 0, .int .i64 0] 32))
            have B135 := Lib.hid (bA B103.out (.cells #[.int .i64 0, .slice none 0 0, .int .i64 0, .int .i64 0] 32))
            have nl135x0 : qx < u103.heap.size := (Array.getElem?_eq_some_iff.1 F104.out).1
            have F136 := Lib.hid ((b135.block _ (Array.getElem?_eq_some_iff.1 F104.out).1).trans F104.out)
            have F137 := Lib.hid (own_below F105.out b135)
            have F138 := Lib.hid (own_below O103.out b135)
            generalize u103.alloc (.cells #[.int .i64 0, .slice none 0 0, .int .i64 0, .int .i64 0] 32) = u135 at *
            refine hK.out _ _ ?_ (fun hHeld => ?_)
            · exact KT.out _ B135.out
            clear hK K b135
            refine wpAnyH_ready (rs := [6]) (by kernel_rfl) (by simp) ?_
            refine AllReadyH.cons rfl (fun K hK => ?_) AllReadyH.nil
            go_simp
            go_wp2_with (go_at_call 12; refine (E12.out _ (by first | exact hwr | rfl) u135).mono ?_; rintro e w_ ⟨rfl, hw_⟩; obtain rfl := hw_.symm)
            refine hK.out _ _ ?_ (fun hHeld => ?_)
            · exact KT.out _ B135.out
            clear hK K
            refine wpAnyH_ready (rs := [7]) (by kernel_rfl) (by simp) ?_
            refine AllReadyH.cons rfl (fun K hK => ?_) AllReadyH.nil
            go_simp
            go_wp2_with (go_at_call 6; refine (E6b.out u135 _ v103 B135.out F138.out (by simp)).mono ?_; rintro e u140 ⟨sl140, k140, rfl, o140, b140⟩)
            have B140 := Lib.hid (bT B135.out b140)
            have F141 := Lib.hid ((b140.block _ (Array.getElem?_eq_some_iff.1 F136.out).1).trans F136.out)
            have F142 := Lib.hid (own_below F137.out b140)
            have F143 := Lib.hid (own_below F138.out b140)
            have F144 := Lib.hid ((b140.block _ (Array.getElem?_eq_some_iff.1 F135q.out).1).trans F135q.out)
            have O140 := Lib.hid o140
            clear o140
            refine hK.out _ _ ?_ (fun hHeld => ?_)
            · exact KT.out _ B140.out
            clear hK K b140
            refine wpAnyH_ready (rs := [9]) (by kernel_rfl) (by simp) ?_
            refine AllReadyH.cons rfl (fun K hK => ?_) AllReadyH.nil
            obtain ⟨lq, z0, z1, z2, z3, zf⟩ := fx F144.out
            have F146 : Hid (((((u140.setCell ⟨u103.heap.size, 0, none⟩ (.int .i64 2)).setCell ⟨u103.heap.size, 1, none⟩ (.slice sl140 pn k140)).setCell ⟨u103.heap.size, 2, none⟩ (.int .i64 T)).setCell ⟨u103.heap.size, 3, none⟩ (.int .i64 0)).heap[qx]? = _) := (w4_blk u140 qx u103.heap.size (.int .i64 2) (.slice sl140 pn k140) (.int .i64 T) (.int .i64 0) (by omega)).trans F141.out
            have F147 := Lib.hid (own_w4 F142.out (own_diffD F142.out F144.out (by decide)) (.int .i64 2) (.slice sl140 pn k140) (.int .i64 T) (.int .i64 0))
            have F148 := Lib.hid (own_w4 F143.out (own_diffD F143.out F144.out (by decide)) (.int .i64 2) (.slice sl140 pn k140) (.int .i64 T) (.int .i64 0))
            have F149 := Lib.hid (own_w4 O140.out (own_diffD O140.out F144.out (by decide)) (.int .i64 2) (.slice sl140 pn k140) (.int .i64 T) (.int .i64 0))
            have F145q := Lib.hid (w4_at F144.out (.int .i64 2) (.slice sl140 pn k140) (.int .i64 T) (.int .i64 0))
            have B145 := Lib.hid (w4_below B140.out (show wB.heap.size ≤ u103.heap.size from B103.out.size) (.int .i64 2) (.slice sl140 pn k140) (.int .i64 T) (.int .i64 0))
            unfold w4 at *
            go_simp
            refine hK.out _ _ ?_ (fun hHeld => ?_)
            · exact KT.out _ B145.out
            clear hK K lq z0 z1 z2 z3 zf
            generalize ((((u140.setCell ⟨u103.heap.size, 0, none⟩ (.int .i64 2)).setCell ⟨u103.heap.size, 1, none⟩ (.slice sl140 pn k140)).setCell ⟨u103.heap.size, 2, none⟩ (.int .i64 T)).setCell ⟨u103.heap.size, 3, none⟩ (.int .i64 0)) = u145 at *
            refine wpAnyH_done (by kernel_rfl) ?_ _
            generalize u103.heap.size = qn at *
            exact TAILC u145 qn sl140 k140 v103 ⟨_, B145, F146, F147, F149, F145q⟩
        · go_simp
          go_wp2
          have b150 := bA0 wy (.cells #[.int .i64 0, .slice none 0 0, .int .i64 0, .int .i64 0] 32)
          have F150q := Lib.hid (new_at wy (.cells #[.int .i64 0, .slice none 0 0, .int .i64 0, .int .i64 0] 32))
          have B150 := Lib.hid (bA BD12.out (.cells #[.int .i64 0, .slice none 0 0, .int .i64 0, .int .i64 0] 32))
          have nl150x0 : qx < wy.heap.size := (Array.getElem?_eq_some_iff.1 GX.out).1
          have F151 := Lib.hid ((b150.block _ (Array.getElem?_eq_some_iff.1 GX.out).1).trans GX.out)
          have F152 := Lib.hid (own_below GP.out b150)
          generalize wy.alloc (.cells #[.int .i64 0, .slice none 0 0, .int .i64 0, .int .i64 0] 32) = u150 at *
          refine hK.out _ _ ?_ (fun hHeld => ?_)
          · exact KT.out _ B150.out
          clear hK K b150
          refine wpAnyH_ready (rs := [3]) (by kernel_rfl) (by simp) ?_
          refine AllReadyH.cons rfl (fun K hK => ?_) AllReadyH.nil
          go_simp
          go_wp2_with (go_at_call 7; refine (E7.out u150 B150.out).mono ?_; rintro e u153 ⟨v153, rfl, o153, b153⟩)
          have B153 := Lib.hid (bT B150.out b153)
          have F154 := Lib.hid ((b153.block _ (Array.getElem?_eq_some_iff.1 F151.out).1).trans F151.out)
          have F155 := Lib.hid (own_below F152.out b153)
          have F156 := Lib.hid ((b153.block _ (Array.getElem?_eq_some_iff.1 F150q.out).1).trans F150q.out)
          have O153 := Lib.hid o153
          clear o153
          refine hK.out _ _ ?_ (fun hHeld => ?_)
          · exact KT.out _ B153.out
          clear hK K b153
          refine wpAnyH_ready (rs := [6]) (by kernel_rfl) (by simp) ?_
          refine AllReadyH.cons rfl (fun K hK => ?_) AllReadyH.nil
          go_simp
          go_wp2_with (go_at_call 12; refine (E12.out _ (by first | exact hwr | rfl) u153).mono ?_; rintro e w_ ⟨rfl, hw_⟩; obtain rfl := hw_.symm)
          refine hK.out _ _ ?_ (fun hHeld => ?_)
          · exact KT.out _ B153.out
          clear hK K
          refine wpAnyH_ready (rs := [7]) (by kernel_rfl) (by simp) ?_
          refine AllReadyH.cons rfl (fun K hK => ?_) AllReadyH.nil
          go_simp
          go_wp2_with (go_at_call 6; refine (E6b.out u153 _ v153 B153.out O153.out (by simp)).mono ?_; rintro e u158 ⟨sl158, k158, rfl, o158, b158⟩)
          have B158 := Lib.hid (bT B153.out b158)
          have F159 := Lib.hid ((b158.block _ (Array.getElem?_eq_some_iff.1 F154.out).1).trans F154.out)
          have F160 := Lib.hid (own_below F155.out b158)
          have F161 := Lib.hid ((b158.block _ (Array.getElem?_eq_some_iff.1 F156.out).1).trans F156.out)
          have F162 := Lib.hid (own_below O153.out b158)
          have O158 := Lib.hid o158
          clear o158
          refine hK.out _ _ ?_ (fun hHeld => ?_)
          · exact KT.out _ B158.out
          clear hK K b158
          refine wpAnyH_ready (rs := [9]) (by kernel_rfl) (by simp) ?_
          refine AllReadyH.cons rfl (fun K hK => ?_) AllReadyH.nil
          obtain ⟨lq, z0, z1, z2, z3, zf⟩ := fx F161.out
          have F164 : Hid (((((u158.setCell ⟨wy.heap.size, 0, none⟩ (.int .i64 2)).setCell ⟨wy.heap.size, 1, none⟩ (.slice sl158 pn k158)).setCell ⟨wy.heap.size, 2, none⟩ (.int .i64 T)).setCell ⟨wy.heap.size, 3, none⟩ (.int .i64 0)).heap[qx]? = _) := (w4_blk u158 qx wy.heap.size (.int .i64 2) (.slice sl158 pn k158) (.int .i64 T) (.int .i64 0) (by omega)).trans F159.out
          have F165 := Lib.hid (own_w4 F160.out (own_diffD F160.out F161.out (by decide)) (.int .i64 2) (.slice sl158 pn k158) (.int .i64 T) (.int .i64 0))
          have F166 := Lib.hid (own_w4 F162.out (own_diffD F162.out F161.out (by decide)) (.int .i64 2) (.slice sl158 pn k158) (.int .i64 T) (.int .i64 0))
          have F167 := Lib.hid (own_w4 O158.out (own_diffD O158.out F161.out (by decide)) (.int .i64 2) (.slice sl158 pn k158) (.int .i64 T) (.int .i64 0))
          have F163q := Lib.hid (w4_at F161.out (.int .i64 2) (.slice sl158 pn k158) (.int .i64 T) (.int .i64 0))
          have B163 := Lib.hid (w4_below B158.out (show wB.heap.size ≤ wy.heap.size from BD12.out.size) (.int .i64 2) (.slice sl158 pn k158) (.int .i64 T) (.int .i64 0))
          unfold w4 at *
          go_simp
          refine hK.out _ _ ?_ (fun hHeld => ?_)
          · exact KT.out _ B163.out
          clear hK K lq z0 z1 z2 z3 zf
          generalize ((((u158.setCell ⟨wy.heap.size, 0, none⟩ (.int .i64 2)).setCell ⟨wy.heap.size, 1, none⟩ (.slice sl158 pn k158)).setCell ⟨wy.heap.size, 2, none⟩ (.int .i64 T)).setCell ⟨wy.heap.size, 3, none⟩ (.int .i64 0)) = u163 at *
          refine wpAnyH_done (by kernel_rfl) ?_ _
          generalize wy.heap.size = qn at *
          exact TAILC u163 qn sl158 k158 v153 ⟨_, B163, F164, F165, F167, F163q⟩
      · intro W q sl k v ⟨C1, BZ, FX, FP, FPB, FR⟩
        obtain ⟨lr, r0, r1, r2, r3, rf⟩ := fx FR.out
        obtain ⟨lx, x0, x1, x2, x3, xf⟩ := fx FX.out
        go_wp2_with fail
        refine (E13.out W _ _ _ _ FPB.out FP.out).mono ?_
        rintro e wf ⟨rfl, bf⟩
        obtain ⟨lr, r0, r1, r2, r3, rf⟩ := fx (Lib.hid ((bf.block _ (Array.getElem?_eq_some_iff.1 FR.out).1).trans FR.out)).out
        obtain ⟨lx, x0, x1, x2, x3, xf⟩ := fx (Lib.hid ((bf.block _ (Array.getElem?_eq_some_iff.1 FX.out).1).trans FX.out)).out
        have BF := Lib.hid (bT BZ.out bf)
        clear bf
        go_wp2
        go_ret
        exact ⟨rfl, bT BW.out BF.out⟩
    · go_wp2
      go_ret
      exact ⟨rfl, bT BW.out BX.out⟩
end Go.Proofs.Ytgfclllfkpblnaa
