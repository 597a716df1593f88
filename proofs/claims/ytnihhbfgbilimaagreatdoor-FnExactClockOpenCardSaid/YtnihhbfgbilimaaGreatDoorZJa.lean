import Derived.Test.YtnihhbfgbilimaaGreatDoorZUa
import Derived.Shelf.Spec.TrailingZeros
import Derived.Laws.Rows
import Derived.Laws.Tables
import Derived.Test.YtnihhbfgbilimaaGreatDoorPt
namespace Go.Proofs.YtnihhbfgbilimaaGreatDoor
open Go.RowKit
set_option linter.unusedVariables false
set_option linter.unusedSimpArgs false
def negW (zs : List Int) : List Int := zs.map fun z => wrap64 (-z)
theorem negW_len (zs : List Int) : (negW zs).length = zs.length := by simp [negW]
theorem negW_at (zs : List Int) (k : Nat) (h : k < zs.length) : (negW zs).getD k 0 = wrap64 (-zs.getD k 0) := by simp [negW, h]
theorem row_own {w : World} {g : Nat} {zs : List Int} {n : Nat} (h : RowAt w g (vsOf zs n)) (hn : n = zs.length) (hm : n ≤ maxLen) : w.ownsRow g 2 1 (.slice (some ⟨g, 0, none⟩) n n) zs.length (valsZ zs) := by
 subst hn
 have e : (vsOf zs zs.length).toList = valsZ zs := by simp [vsOf, valsZ]
 have es : (vsOf zs zs.length).size = zs.length := by rw [← Array.length_toList, e]; simp [valsZ]
 refine ⟨by simp [valsZ], .inr ⟨g, zs.length, vsOf zs zs.length, rfl, Nat.le_refl _, h, Nat.le_refl _, hm, by rw [es]; omega, ?_⟩⟩
 rw [e, List.take_of_length_le (by simp [valsZ])]
set_option maxHeartbeats 1000000 in
theorem tuW_any (sl : Option Addr) (cap : Nat) (zs : List Int) (w : World) (hn : zs.length ≤ 1048576) (hz : Ints w sl zs) :
  Calls Tryz.prog 223 #[.slice sl zs.length cap] w fun e w' => e = .returned (.slice (some ⟨w.heap.size, 0, none⟩) zs.length zs.length) ∧ w'.ownsRow w.heap.size 2 1 (.slice (some ⟨w.heap.size, 0, none⟩) zs.length zs.length) (negW zs).length (valsZ (negW zs)) ∧ Below w.heap.size w w' := by
 have hmk := make64 zs.length (by omega)
 have ZC : Hid (∀ W, Below w.heap.size w W → ∀ k, k < zs.length → ∃ c o, sl = some ⟨c, o, none⟩ ∧ W.cell? ⟨c, o + k, none⟩ = some (.int .i64 (zs.getD k 0)) ∧ wrap64 (-zs.getD k 0) = (negW zs).getD k 0) := fun W hW k hk => by
  rcases hz with e | ⟨c, o, e, hi⟩
  ·rw [e] at hk; simp at hk
  ·exact ⟨c, o, e, (hW.cell hi.1).trans (hi.2 k hk), (negW_at zs k hk).symm⟩
 have HK : Hid (mk64 zs.length = vsOf (negW zs) 0) := by
  have := mk64_eq (negW zs)
  rw [negW_len] at this
  exact this
 have NL := Lib.hid (negW_len zs)
 clear hz
 generalize hN : zs.length = n at *
 have HN : Hid (zs.length = n) := hN
 clear hN
 generalize hY : negW zs = ys at *
 clear hY
 go_enter Tryz.func223, Tryz.ntmps223
 go_wp2
 go_loopw [11] (fun i wr => ∃ (k : Nat), i = .int .i64 k ∧ k ≤ n ∧ Hid (Below w.heap.size w wr) ∧ Hid (RowAt wr w.heap.size (vsOf ys k))) (fun i _ => n - (intOf i).toNat)
 case atStart =>
  refine ⟨0, rfl, Nat.zero_le _, bA0 _ _, ?_⟩
  show (w.heap.push _)[w.heap.size]? = _
  simp [HK.out]
 case round =>
  obtain ⟨k, rfl, hk, H3, H4⟩ := hrel
  have hk0 : (0 : Int) ≤ (k : Int) := by omega
  by_cases h1 : k < n
  ·have h1' : (k : Int) < (n : Int) := by omega
   have hlt : k < ys.length := by rw [NL.out]; exact h1
   obtain ⟨c, o, rfl, hc, hwr⟩ := ZC.out wr H3.out k h1
   have hd : wr.cell? ⟨w.heap.size, k, none⟩ = some (.int .i64 0) := by rw [H4.out.cell]; exact vs_at ys k hlt
   have hf := H4.out.frozen k
   have H5 : Hid (RowAt (wr.setCell ⟨w.heap.size, k, none⟩ (.int .i64 (ys.getD k 0))) w.heap.size (vsOf ys (k + 1))) := by
    show RowAt _ _ _
    rw [← vs_step ys k hlt]; exact H4.out.set k _
   clear hlt ZC
   generalize zs.getD k 0 = z at *
   generalize ys.getD k 0 = y at *
   go_wp2
   go_roundw
   case rel => exact ⟨k + 1, by go_num, by omega, H3.out.setCell (Nat.le_refl _) _, H5⟩
   case measure => simp [intOf]; omega
  ·have h1' : ¬ (k : Int) < (n : Int) := by omega
   have H6 := Lib.hid (row_own (n := k) H4.out (by rw [NL.out]; omega) (by unfold maxLen; omega))
   have e : k = n := by omega
   subst e
   go_wp2
   go_ret
   exact ⟨rfl, H6.out, H3.out⟩
set_option linter.unusedSimpArgs false
def BudR (b : Int) : Prop := 0 ≤ b ∧ b ≤ 300
theorem bud_any (b : Int) (w : World) : Calls Tryz.prog 76 #[.int .i64 b] w fun e w' => e = .returned (.bool (B (BudR b))) ∧ w = w' := by
 by_cases h0 : 0 ≤ b
 ·by_cases h1 : b ≤ 300
  ·rw [B_yes ⟨h0, h1⟩]
   go_enter Tryz.func76, Tryz.ntmps76
   go_wp2
   go_ret
   exact ⟨rfl, rfl⟩
  ·rw [B_no (fun h => h1 h.2)]
   go_enter Tryz.func76, Tryz.ntmps76
   go_wp2
   go_ret
   exact ⟨rfl, rfl⟩
 ·rw [B_no (fun h => h0 h.1)]
  go_enter Tryz.func76, Tryz.ntmps76
  go_wp2
  go_ret
  exact ⟨rfl, rfl⟩
theorem sbd_any (b : Int) (w : World) : Calls Tryz.prog 70 #[.int .i64 b] w fun e w' => e = .returned (.bool (B (BudR b))) ∧ w = w' := by
 by_cases h0 : 0 ≤ b
 ·by_cases h1 : b ≤ 300
  ·rw [B_yes ⟨h0, h1⟩]
   go_enter Tryz.func70, Tryz.ntmps70
   go_wp2
   go_ret
   exact ⟨rfl, rfl⟩
  ·rw [B_no (fun h => h1 h.2)]
   go_enter Tryz.func70, Tryz.ntmps70
   go_wp2
   go_ret
   exact ⟨rfl, rfl⟩
 ·rw [B_no (fun h => h0 h.1)]
  go_enter Tryz.func70, Tryz.ntmps70
  go_wp2
  go_ret
  exact ⟨rfl, rfl⟩
abbrev SVK (v : Int) (vt vl : Value) (st cd : Int) (vp : Value) : Value := .agg #[.int .i64 v, vt, vl, .int .i64 st, .int .i64 cd, vp]
theorem ans_any (v st cd : Int) (s1 s2 s3 : Option Addr) (n1 c1 n2 c2 n3 c3 : Nat) (w : World) : Calls Tryz.prog 276 #[SVK v (.slice s1 n1 c1) (.slice s2 n2 c2) st cd (.slice s3 n3 c3)] w fun e w' => e = .returned (.agg #[.int .i64 v, .int .i64 2, .slice s3 n3 c3, .slice s2 n2 c2, .int .i64 st, .int .i64 0]) ∧ Below w.heap.size w w' := by
 go_enter Tryz.func276, Tryz.ntmps276
 go_wp2
 exact bodyPost_ret (v := .agg #[.int .i64 v, .int .i64 2, .slice s3 n3 c3, .slice s2 n2 c2, .int .i64 st, .int .i64 0]) (by simp [results, Tryz.results276, go_sem]) rfl ⟨rfl, bA (bA0 _ _) _⟩
theorem al_new (w : World) (o : Obj) (k : Nat) (hk : k = w.heap.size) : (w.alloc o).heap[k]? = some o := by
 subst hk
 show (w.heap.push _)[w.heap.size]? = _
 simp
theorem al_old (w : World) (o : Obj) (k : Nat) (hk : k < w.heap.size) : (w.alloc o).heap[k]? = w.heap[k]? := by
 show (w.heap.push _)[k]? = _
 rw [Array.getElem?_push]
 simp [show k ≠ w.heap.size by omega]
def BoxK (w : World) (b : Nat) : Prop := w.heap[b]? = some (.cells #[.int .i64 0, .int .i64 0, .slice none 0 0, .slice none 0 0, .int .i64 0, .int .i64 0] 49)
theorem BoxK.facts {w : World} {b : Nat} (h : BoxK w b) : b < w.heap.size ∧ w.cell? ⟨b, 0, none⟩ = some (.int .i64 0) ∧ w.cell? ⟨b, 1, none⟩ = some (.int .i64 0) ∧ w.cell? ⟨b, 2, none⟩ = some (.slice none 0 0) ∧ w.cell? ⟨b, 3, none⟩ = some (.slice none 0 0) ∧ w.cell? ⟨b, 4, none⟩ = some (.int .i64 0) ∧ w.cell? ⟨b, 5, none⟩ = some (.int .i64 0) ∧ w.frozen? ⟨b, 0, none⟩ = false ∧ w.frozen? ⟨b, 1, none⟩ = false ∧ w.frozen? ⟨b, 2, none⟩ = false ∧ w.frozen? ⟨b, 3, none⟩ = false ∧ w.frozen? ⟨b, 4, none⟩ = false ∧ w.frozen? ⟨b, 5, none⟩ = false := by
 unfold BoxK at h
 exact ⟨(Array.getElem?_eq_some_iff.1 h).1, by simp [World.cell?, h], by simp [World.cell?, h], by simp [World.cell?, h], by simp [World.cell?, h], by simp [World.cell?, h], by simp [World.cell?, h], by simp [World.frozen?, h], by simp [World.frozen?, h], by simp [World.frozen?, h], by simp [World.frozen?, h], by simp [World.frozen?, h], by simp [World.frozen?, h]⟩
theorem BoxK.new (w : World) : BoxK (w.alloc (.cells #[.int .i64 0, .int .i64 0, .slice none 0 0, .slice none 0 0, .int .i64 0, .int .i64 0] 49)) w.heap.size := al_new _ _ _ rfl
theorem BoxK.below {w w' : World} {b : Nat} (h : BoxK w b) (hb : Below w.heap.size w w') : BoxK w' b := (hb.block b h.facts.1).trans h
def set6 (w : World) (b : Nat) (v0 v1 v2 v3 v4 v5 : Value) : World := (((((w.setCell ⟨b, 0, none⟩ v0).setCell ⟨b, 1, none⟩ v1).setCell ⟨b, 2, none⟩ v2).setCell ⟨b, 3, none⟩ v3).setCell ⟨b, 4, none⟩ v4).setCell ⟨b, 5, none⟩ v5
theorem set6_only (w : World) (b : Nat) (v0 v1 v2 v3 v4 v5 : Value) : Only b w (set6 w b v0 v1 v2 v3 v4 v5) := ((((((Only.refl b w).setCell 0 v0).setCell 1 v1).setCell 2 v2).setCell 3 v3).setCell 4 v4).setCell 5 v5
theorem set6_below {W w : World} {n b : Nat} (h : Below n W w) (hb : n ≤ b) (v0 v1 v2 v3 v4 v5 : Value) : Below n W (set6 w b v0 v1 v2 v3 v4 v5) :=
 (((((h.setCell (p := ⟨b, 0, none⟩) hb v0).setCell (p := ⟨b, 1, none⟩) hb v1).setCell (p := ⟨b, 2, none⟩) hb v2).setCell (p := ⟨b, 3, none⟩) hb v3).setCell (p := ⟨b, 4, none⟩) hb v4).setCell (p := ⟨b, 5, none⟩) hb v5
abbrev WayV (h : Nat) : Value := .func (.func 138) #[] #[.pointer (some ⟨h, 0, none⟩), .pointer (some ⟨h + 1, 0, none⟩), .pointer (some ⟨h + 2, 0, none⟩), .pointer (some ⟨h + 3, 0, none⟩)]
structure WayB (w : World) (h : Nat) (sl : Option Addr) (n cap : Nat) (sl2 : Option Addr) (m cap2 : Nat) (top : Int) (sl3 : Option Addr) (q cap3 : Nat) (bud : Int) : Prop where
 b0 : w.heap[h]? = some (.cells #[.slice sl n cap, .slice sl2 m cap2] 26)
 b1 : w.heap[h + 1]? = some (.cells #[.int .i64 top] 2)
 b2 : w.heap[h + 2]? = some (.cells #[.slice sl3 q cap3] 34)
 b3 : w.heap[h + 3]? = some (.cells #[.int .i64 bud] 2)
theorem bys_any (sl : Option Addr) (n cap : Nat) (sl2 : Option Addr) (m cap2 : Nat) (top : Int) (sl3 : Option Addr) (q cap3 : Nat) (bud : Int) (w : World) :
  Calls Tryz.prog 78 #[.agg #[.slice sl n cap, .slice sl2 m cap2], .int .i64 top, .slice sl3 q cap3, .int .i64 bud] w fun e w' => e = .returned (.agg #[WayV w.heap.size]) ∧ WayB w' w.heap.size sl n cap sl2 m cap2 top sl3 q cap3 bud ∧ Below w.heap.size w w' := by
 go_enter Tryz.func78, Tryz.ntmps78
 go_wp2
 exact bodyPost_ret (v := .agg #[WayV w.heap.size]) (by simp [results, Tryz.results78, go_sem]) rfl ⟨rfl, ⟨by rw [al_old _ _ _ (by simp <;> omega), al_old _ _ _ (by simp <;> omega), al_old _ _ _ (by simp <;> omega), al_old _ _ _ (by simp <;> omega)]; exact al_new _ _ _ (by simp), by rw [al_old _ _ _ (by simp <;> omega), al_old _ _ _ (by simp <;> omega), al_old _ _ _ (by simp <;> omega)]; exact al_new _ _ _ (by simp), by rw [al_old _ _ _ (by simp <;> omega), al_old _ _ _ (by simp <;> omega)]; exact al_new _ _ _ (by simp), by rw [al_old _ _ _ (by simp <;> omega)]; exact al_new _ _ _ (by simp)⟩, bA (bA (bA (bA (bA0 _ _) _) _) _) _⟩
end Go.Proofs.YtnihhbfgbilimaaGreatDoor
