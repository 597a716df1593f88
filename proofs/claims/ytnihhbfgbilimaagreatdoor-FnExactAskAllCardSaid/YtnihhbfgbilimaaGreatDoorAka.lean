/-
  A BUDGET THAT IS RIGHT; what the solver's way answers.
-/
import Derived.Test.YtnihhbfgbilimaaGreatDoorJa
import Derived.Test.YtnihhbfgbilimaaGreatDoorPt
namespace Go.Proofs.YtnihhbfgbilimaaGreatDoor
open Go.RowKit
set_option linter.unusedVariables false
set_option linter.unusedSimpArgs false

/-- A budget that may be given. -/
def BudR (b : Int) : Prop := 0 ≤ b ∧ b ≤ 300
/-- budgetRight. -/
theorem bud_any (b : Int) (w : World) : Calls Tryz.prog 76 #[.int .i64 b] w fun e w' => e = .returned (.bool (B (BudR b))) ∧ w = w' := by
  by_cases h0 : 0 ≤ b
  · by_cases h1 : b ≤ 300
    · rw [B_yes ⟨h0, h1⟩]
      go_enter Tryz.func76, Tryz.ntmps76
      go_wp2
      go_ret
      exact ⟨rfl, rfl⟩
    · rw [B_no (fun h => h1 h.2)]
      go_enter Tryz.func76, Tryz.ntmps76
      go_wp2
      go_ret
      exact ⟨rfl, rfl⟩
  · rw [B_no (fun h => h0 h.1)]
    go_enter Tryz.func76, Tryz.ntmps76
    go_wp2
    go_ret
    exact ⟨rfl, rfl⟩
/-- l11Budget. -/
theorem sbd_any (b : Int) (w : World) : Calls Tryz.prog 70 #[.int .i64 b] w fun e w' => e = .returned (.bool (B (BudR b))) ∧ w = w' := by
  by_cases h0 : 0 ≤ b
  · by_cases h1 : b ≤ 300
    · rw [B_yes ⟨h0, h1⟩]
      go_enter Tryz.func70, Tryz.ntmps70
      go_wp2
      go_ret
      exact ⟨rfl, rfl⟩
    · rw [B_no (fun h => h1 h.2)]
      go_enter Tryz.func70, Tryz.ntmps70
      go_wp2
      go_ret
      exact ⟨rfl, rfl⟩
  · rw [B_no (fun h => h0 h.1)]
    go_enter Tryz.func70, Tryz.ntmps70
    go_wp2
    go_ret
    exact ⟨rfl, rfl⟩

/-- What the solver has told, and a plan: as one value (solved). -/
abbrev SVK (v : Int) (vt vl : Value) (st cd : Int) (vp : Value) : Value := .agg #[.int .i64 v, vt, vl, .int .i64 st, .int .i64 cd, vp]
/-- solved.answer. -/
theorem ans_any (v st cd : Int) (s1 s2 s3 : Option Addr) (n1 c1 n2 c2 n3 c3 : Nat) (w : World) : Calls Tryz.prog 276 #[SVK v (.slice s1 n1 c1) (.slice s2 n2 c2) st cd (.slice s3 n3 c3)] w fun e w' => e = .returned (.agg #[.int .i64 v, .int .i64 2, .slice s3 n3 c3, .slice s2 n2 c2, .int .i64 st, .int .i64 0]) ∧ Below w.heap.size w w' := by
  go_enter Tryz.func276, Tryz.ntmps276
  go_wp2
  exact bodyPost_ret (v := .agg #[.int .i64 v, .int .i64 2, .slice s3 n3 c3, .slice s2 n2 c2, .int .i64 st, .int .i64 0]) (by simp [results, Tryz.results276, go_sem]) rfl ⟨rfl, bA (bA0 _ _) _⟩

theorem al_new (w : World) (o : Obj) (k : Nat) (hk : k = w.heap.size) : (w.alloc o).heap[k]? = some o := by
  subst hk
  show (w.heap.push _)[w.heap.size]? = _
  simp
theorem al_old (w : World) (o : Obj) (k : Nat) (hk : k < w.heap.size) : (w.alloc o).heap[k]? = w.heap[k]? := by
  show (w.heap.push _)[k]? = _
  rw [Array.getElem?_push]
  simp [show k ≠ w.heap.size by omega]
/-- An answer's box, empty. -/
def BoxK (w : World) (b : Nat) : Prop := w.heap[b]? = some (.cells #[.int .i64 0, .int .i64 0, .slice none 0 0, .slice none 0 0, .int .i64 0, .int .i64 0] 49)
theorem BoxK.facts {w : World} {b : Nat} (h : BoxK w b) : b < w.heap.size ∧ w.cell? ⟨b, 0, none⟩ = some (.int .i64 0) ∧ w.cell? ⟨b, 1, none⟩ = some (.int .i64 0) ∧ w.cell? ⟨b, 2, none⟩ = some (.slice none 0 0) ∧ w.cell? ⟨b, 3, none⟩ = some (.slice none 0 0) ∧ w.cell? ⟨b, 4, none⟩ = some (.int .i64 0) ∧ w.cell? ⟨b, 5, none⟩ = some (.int .i64 0) ∧ w.frozen? ⟨b, 0, none⟩ = false ∧ w.frozen? ⟨b, 1, none⟩ = false ∧ w.frozen? ⟨b, 2, none⟩ = false ∧ w.frozen? ⟨b, 3, none⟩ = false ∧ w.frozen? ⟨b, 4, none⟩ = false ∧ w.frozen? ⟨b, 5, none⟩ = false := by
  unfold BoxK at h
  exact ⟨(Array.getElem?_eq_some_iff.1 h).1, by simp [World.cell?, h], by simp [World.cell?, h], by simp [World.cell?, h], by simp [World.cell?, h], by simp [World.cell?, h], by simp [World.cell?, h], by simp [World.frozen?, h], by simp [World.frozen?, h], by simp [World.frozen?, h], by simp [World.frozen?, h], by simp [World.frozen?, h], by simp [World.frozen?, h]⟩
theorem BoxK.new (w : World) : BoxK (w.alloc (.cells #[.int .i64 0, .int .i64 0, .slice none 0 0, .slice none 0 0, .int .i64 0, .int .i64 0] 49)) w.heap.size := al_new _ _ _ rfl
theorem BoxK.below {w w' : World} {b : Nat} (h : BoxK w b) (hb : Below w.heap.size w w') : BoxK w' b := (hb.block b h.facts.1).trans h
def set6 (w : World) (b : Nat) (v0 v1 v2 v3 v4 v5 : Value) : World := (((((w.setCell ⟨b, 0, none⟩ v0).setCell ⟨b, 1, none⟩ v1).setCell ⟨b, 2, none⟩ v2).setCell ⟨b, 3, none⟩ v3).setCell ⟨b, 4, none⟩ v4).setCell ⟨b, 5, none⟩ v5
theorem set6_only (w : World) (b : Nat) (v0 v1 v2 v3 v4 v5 : Value) : Only b w (set6 w b v0 v1 v2 v3 v4 v5) := ((((((Only.refl b w).setCell 0 v0).setCell 1 v1).setCell 2 v2).setCell 3 v3).setCell 4 v4).setCell 5 v5
theorem set6_below {W w : World} {n b : Nat} (h : Below n W w) (hb : n ≤ b) (v0 v1 v2 v3 v4 v5 : Value) : Below n W (set6 w b v0 v1 v2 v3 v4 v5) :=
  (((((h.setCell (p := ⟨b, 0, none⟩) hb v0).setCell (p := ⟨b, 1, none⟩) hb v1).setCell (p := ⟨b, 2, none⟩) hb v2).setCell (p := ⟨b, 3, none⟩) hb v3).setCell (p := ⟨b, 4, none⟩) hb v4).setCell (p := ⟨b, 5, none⟩) hb v5
/-- The way to ask by solving: a function with four captured boxes. -/
abbrev WayV (h : Nat) : Value := .func (.func 138) #[] #[.pointer (some ⟨h, 0, none⟩), .pointer (some ⟨h + 1, 0, none⟩), .pointer (some ⟨h + 2, 0, none⟩), .pointer (some ⟨h + 3, 0, none⟩)]
/-- The four boxes that it captures. -/
structure WayB (w : World) (h : Nat) (sl : Option Addr) (n cap : Nat) (sl2 : Option Addr) (m cap2 : Nat) (top : Int) (sl3 : Option Addr) (q cap3 : Nat) (bud : Int) : Prop where
  b0 : w.heap[h]? = some (.cells #[.slice sl n cap, .slice sl2 m cap2] 26)
  b1 : w.heap[h + 1]? = some (.cells #[.int .i64 top] 2)
  b2 : w.heap[h + 2]? = some (.cells #[.slice sl3 q cap3] 34)
  b3 : w.heap[h + 3]? = some (.cells #[.int .i64 bud] 2)
theorem bys_any (sl : Option Addr) (n cap : Nat) (sl2 : Option Addr) (m cap2 : Nat) (top : Int) (sl3 : Option Addr) (q cap3 : Nat) (bud : Int) (w : World) :
    Calls Tryz.prog 78 #[.agg #[.slice sl n cap, .slice sl2 m cap2], .int .i64 top, .slice sl3 q cap3, .int .i64 bud] w fun e w' => e = .returned (.agg #[WayV w.heap.size]) ∧ WayB w' w.heap.size sl n cap sl2 m cap2 top sl3 q cap3 bud ∧ Below w.heap.size w w' := by
  go_enter Tryz.func78, Tryz.ntmps78
  go_wp2
  exact bodyPost_ret (v := .agg #[WayV w.heap.size]) (by simp [results, Tryz.results78, go_sem]) rfl ⟨rfl, ⟨by rw [al_old _ _ _ (by simp <;> omega), al_old _ _ _ (by simp <;> omega), al_old _ _ _ (by simp <;> omega), al_old _ _ _ (by simp <;> omega)]; exact al_new _ _ _ (by simp), by rw [al_old _ _ _ (by simp <;> omega), al_old _ _ _ (by simp <;> omega), al_old _ _ _ (by simp <;> omega)]; exact al_new _ _ _ (by simp), by rw [al_old _ _ _ (by simp <;> omega), al_old _ _ _ (by simp <;> omega)]; exact al_new _ _ _ (by simp), by rw [al_old _ _ _ (by simp <;> omega)]; exact al_new _ _ _ (by simp)⟩, bA (bA (bA (bA (bA0 _ _) _) _) _) _⟩
end Go.Proofs.YtnihhbfgbilimaaGreatDoor
