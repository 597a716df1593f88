/-
  A DRAWN DISK THAT CRASHES.
-/
import Derived.Test.YtaongccmipjgeaaDe
import Derived.Test.YtaongccmipjgeaaCf
import Derived.Deep.RegionHeldLaw
namespace Go.Proofs.Ytaongccmipjgeaa
open Go.RowKit
set_option linter.unusedVariables false

/-- The drawn disk lies in dd, the result's block is that of w's size, the source at b. -/
structure DC (w : World) (b dd : Nat) (s : ByteArray) (v : Value) (ss : List ByteArray) (W : World) : Prop where
  src : Src W b
  bel : Below w.heap.size w W
  res : DAt 25 W w.heap.size ⟨#[]⟩ (.slice none 0 0)
  d : DAt 25 W dd s v
  own : OwnS W (b + 1) v ss
  hb : w.heap.size < b
  hd : b < dd
theorem DC.call {w : World} {b dd : Nat} {s : ByteArray} {v : Value} {ss : List ByteArray} {W W' : World} (h : DC w b dd s v ss W) (hs : Src W' b) (ho : Only b W W') : DC w b dd s v ss W' :=
  have hb := h.hb
  have hd := h.hd
  ⟨hs, Only.below h.bel (by omega) ho, h.res.only ho (by omega), h.d.only ho (by omega), h.own.only ho (by omega), hb, hd⟩
theorem DC.drew {w : World} {b dd : Nat} {s : ByteArray} {v : Value} {ss : List ByteArray} {W : World} (h : DC w b dd s v ss W) : DC w b dd s v ss W.drew := h.call h.src ((Only.refl _ _).drew)
def DcPost (w : World) (e : Ending) (w' : World) : Prop :=
  ∃ s v ss k, e = .returned (.tuple #[.agg #[.string s, v], .int .i64 k]) ∧ OwnS w' w.heap.size v ss ∧ Small s ss ∧ Below w.heap.size w w'
theorem DC.fin {w : World} {b dd : Nat} {s : ByteArray} {v : Value} {ss : List ByteArray} {W : World} (h : DC w b dd s v ss W) (hs : Small s ss) (k : Int) :
    ((W.setCell ⟨w.heap.size, 0, none⟩ (.string s)).setCell ⟨w.heap.size, 1, none⟩ v).cell? ⟨w.heap.size, 0, none⟩ = some (.string s) ∧ ((W.setCell ⟨w.heap.size, 0, none⟩ (.string s)).setCell ⟨w.heap.size, 1, none⟩ v).cell? ⟨w.heap.size, 1, none⟩ = some v ∧
    Hid (DcPost w (.returned (.tuple #[.agg #[.string s, v], .int .i64 k])) ((W.setCell ⟨w.heap.size, 0, none⟩ (.string s)).setCell ⟨w.heap.size, 1, none⟩ v)) := by
  have hb := h.hb
  exact ⟨(h.res.set2 s v).cells.1, (h.res.set2 s v).cells.2, s, v, ss, k, rfl, ((h.own.set (by omega) _ _).set (by omega) _ _).mono (by omega), hs, (h.bel.setCell (Nat.le_refl _) _).setCell (Nat.le_refl _) _⟩
theorem keepW {b bb : Nat} {s : ByteArray} {v : Value} {W : World} (h : b < W.heap.size ∧ W.cell? ⟨b, 0, none⟩ = some (.string s) ∧ W.cell? ⟨b, 1, none⟩ = some v) (hb : b ≠ bb) (i j : Nat) (x y : Value) :
    b < ((W.setCell ⟨bb, i, none⟩ x).setCell ⟨bb, j, none⟩ y).heap.size ∧ ((W.setCell ⟨bb, i, none⟩ x).setCell ⟨bb, j, none⟩ y).cell? ⟨b, 0, none⟩ = some (.string s) ∧ ((W.setCell ⟨bb, i, none⟩ x).setCell ⟨bb, j, none⟩ y).cell? ⟨b, 1, none⟩ = some v := keepS h hb i j x y

set_option maxRecDepth 100000 in
set_option maxHeartbeats 2000000 in
theorem drawC_any (sl : Option Addr) (len cap : Nat) (w : World) (hr : RowIn w sl len) :
    Calls Try.prog 10 #[.slice sl len cap] w fun e w' => DcPost w e w' := by
  have SO : Hid (Calls Try.prog 28 #[.slice sl len cap] (w.alloc (.cells #[.string ⟨#[]⟩, .slice none 0 0] 25)) fun e w' => e = .returned (.pointer (some ⟨w.heap.size + 1, 0, none⟩)) ∧ Src w' (w.heap.size + 1) ∧ Below (w.heap.size + 1) (w.alloc (.cells #[.string ⟨#[]⟩, .slice none 0 0] 25)) w') := by
    have := source_any sl len cap (w.alloc (.cells #[.string ⟨#[]⟩, .slice none 0 0] 25)) (hr.below (bA0 _ _))
    rwa [show (w.alloc (.cells #[.string ⟨#[]⟩, .slice none 0 0] 25)).heap.size = w.heap.size + 1 by simp] at this
  clear hr
  have RA := Lib.hid (DAt.new 25 w ⟨#[]⟩ (.slice none 0 0))
  go_enter Try.func10, Try.ntmps10
  go_wp2_with fail
  refine SO.out.mono ?_
  rintro e w1 ⟨rfl, s1, b1⟩
  have S1 := Lib.hid s1
  have B1 : Hid (Below w.heap.size w w1) := (bA0 w _).trans (b1.mono (by omega))
  have R1 : Hid (DAt 25 w1 w.heap.size ⟨#[]⟩ (.slice none 0 0)) := (b1.block _ (by omega)).trans RA.out
  clear s1 b1 SO RA
  go_wp2_with fail
  refine (disk_any _ _ S1.out).mono ?_
  rintro e w2 ⟨s, v, ss, rfl, o2, sm, s2, on2⟩
  obtain ⟨sl2, c2, rfl, -⟩ := o2.strs
  have lt1 := S1.out.lt
  have D2 : Hid (DC w (w.heap.size + 1) w2.heap.size s (.slice sl2 ss.length c2) ss (w2.alloc (.cells #[.string s, .slice sl2 ss.length c2] 25))) := by
    refine ⟨s2.src.other (bA0 _ _), bA (Only.below B1.out (by omega) on2) _, (R1.out.only on2 (by omega)).below (bA0 _ _), DAt.new 25 w2 s _, (o2.mono (by omega)).below (bA0 _ _), by omega, by have := on2.size; omega⟩
  have SM := Lib.hid sm
  clear s2 on2 o2 S1 B1 R1 sm
  generalize hN : ss.length = n at *
  clear hN
  generalize hbb : w.heap.size + 1 = b at *
  have HBB := Lib.hid hbb
  clear hbb
  go_wp2_with fail
  refine (oneB_any _ b 10 _ (by decide) (SrcB.of D2.out.src)).mono ?_
  rintro e w3 ⟨t3, rfl, s3, o3⟩
  have D3 := Lib.hid (D2.out.call s3.src o3)
  clear s3 o3 D2
  generalize w2.heap.size = dd at *
  have hdd : dd ≠ w.heap.size := by have := D3.out.hb; have := D3.out.hd; omega
  obtain ⟨d0, d1⟩ := D3.out.d.cells
  have dl := D3.out.d.lt
  cases t3
  · go_wp2_with fail
    go_region_held_law (fun w' => dd < w'.heap.size ∧ w'.cell? ⟨dd, 0, none⟩ = some (.string s) ∧ w'.cell? ⟨dd, 1, none⟩ = some (.slice sl2 n c2)) (first | exact ⟨dl, d0, d1⟩ | exact ⟨el, e0, e1⟩ | exact keepS ⟨el, e0, e1⟩ hdd _ _ _ _)
      (first | (go_at_call 32; refine (nB_any _ b 40 _ (by decide) (SrcB.of (by first | exact D3.out.src | exact D3.out.drew.src))).mono ?_; rintro e w4 ⟨r4, rfl, q0, q1, s4, o4⟩; have D4 := Lib.hid (D3.out.drew.call s4.src o4); obtain ⟨e0, e1⟩ := D4.out.d.cells; have el := D4.out.d.lt; obtain ⟨f0, f1⟩ := D4.out.res.cells; have ff := D4.out.res.frozen; have fl := D4.out.res.lt; clear s4 o4))
    all_goals
      obtain ⟨q0, q1, PF⟩ := D4.out.fin SM.out (IntKind.i64.wrap (r4 - 3))
      go_wp2
      exact bodyPost_ret (v := .tuple #[.agg #[.string s, .slice sl2 n c2], .int .i64 (IntKind.i64.wrap (r4 - 3))]) (by simp [results, Try.results10, go_sem, q0, q1]) rfl PF.out
  · go_wp2_with fail
    go_region_held_law (fun w' => dd < w'.heap.size ∧ w'.cell? ⟨dd, 0, none⟩ = some (.string s) ∧ w'.cell? ⟨dd, 1, none⟩ = some (.slice sl2 n c2)) (first | exact ⟨dl, d0, d1⟩ | exact ⟨el, e0, e1⟩ | exact keepS ⟨el, e0, e1⟩ hdd _ _ _ _)
      (first | (go_at_call 31; refine (edgeB_any _ b _ (SrcB.of (by first | exact D3.out.src | exact D3.out.drew.src))).mono ?_; rintro e w4 ⟨r4, rfl, q0, s4, o4⟩; have D4 := Lib.hid (D3.out.drew.call s4.src o4); obtain ⟨e0, e1⟩ := D4.out.d.cells; have el := D4.out.d.lt; obtain ⟨f0, f1⟩ := D4.out.res.cells; have ff := D4.out.res.frozen; have fl := D4.out.res.lt; clear s4 o4))
    all_goals
      obtain ⟨q0, q1, PF⟩ := D4.out.fin SM.out r4
      go_wp2
      exact bodyPost_ret (v := .tuple #[.agg #[.string s, .slice sl2 n c2], .int .i64 r4]) (by simp [results, Try.results10, go_sem, q0, q1]) rfl PF.out

end Go.Proofs.Ytaongccmipjgeaa
