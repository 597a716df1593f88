/-
  A RECORD's BYTES, AS THE PROGRAM TELLS THEM.
-/
import Derived.Test.YtnkdkbchendpmaaDoorBb
namespace Go.Proofs.YtnkdkbchendpmaaDoor
open Go.RowKit
set_option linter.unusedVariables false

theorem WrAt.below {B b : Nat} {l : List UInt8} {w w' : World} (h : WrAt B b l w) (hb : Below w.heap.size w w') : WrAt B b l w' := LibA.IsBuffer.carry h fun k hk => hb.block k hk
/-- What stays while the body's bytes are read off. -/
def HoldB (w0 : World) (B b : Nat) (l : List UInt8) (w : World) : Prop := WrAt B b l w ∧ Below w0.heap.size w0 w ∧ w0.heap.size ≤ w.heap.size
theorem HoldB.below {w0 : World} {B b : Nat} {l : List UInt8} {w w' : World} (h : HoldB w0 B b l w) (hb : Below w.heap.size w w') : HoldB w0 B b l w' := ⟨h.1.below hb, bT h.2.1 hb, Nat.le_trans h.2.2 hb.size⟩
theorem below_self_drewN (w : World) (n : Nat) : Below w.heap.size w (w.drewN n) := ⟨rfl, rfl, rfl, Nat.le_refl _, fun _ _ => rfl⟩
theorem HoldB.len {w0 : World} {B b : Nat} {l : List UInt8} {w : World} (h : HoldB w0 B b l w) : Calls Tryd.prog 36 #[.pointer (some ⟨b, 0, none⟩)] w fun e w' => e = .returned (.int .i64 l.length) ∧ HoldB w0 B b l w' := by
  refine (Tryd.Buffer_Len_at 58 _ B b 0 _ w h.1).mono ?_
  rintro e w' ⟨rfl, n, rfl⟩
  exact ⟨by rw [Lib.byteCells_length], h.below (below_self_drewN w n)⟩
theorem HoldB.str {w0 : World} {B b : Nat} {l : List UInt8} {w : World} (h : HoldB w0 B b l w) : Calls Tryd.prog 37 #[.pointer (some ⟨b, 0, none⟩)] w fun e w' => e = .returned (.string ⟨l.toArray⟩) ∧ HoldB w0 B b l w' := by
  refine (Tryd.Buffer_String_at 58 _ B b 0 _ w h.1).mono ?_
  rintro e w' ⟨rfl, n, rfl⟩
  exact ⟨rfl, h.below (below_self_drewN w n)⟩
theorem HoldB.num {w0 : World} {B b : Nat} {l : List UInt8} {w : World} (h : HoldB w0 B b l w) (m : Nat) (hm : m < 1000000) : Calls Tryd.prog 18 #[.int .i64 m] w fun e w' => e = .returned (.string ⟨(numB m).toArray⟩) ∧ HoldB w0 B b l w' := by
  refine (inb_any m (by omega) w).mono ?_
  rintro e w' ⟨rfl, hb⟩
  exact ⟨by rw [numT, if_neg (by omega), Int.toNat_natCast], h.below hb⟩

theorem WrAt.ws {B b : Nat} {l : List UInt8} {w : World} (h : WrAt B b l w) (hB : B ≤ w.heap.size) (t : ByteArray) (hl : l.length + t.size ≤ 1000000) :
    Calls Tryd.prog 39 #[.pointer (some ⟨b, 0, none⟩), .string t] w fun e w' => e = .returned (.tuple #[.int .i64 t.size, .nilIface]) ∧ WrAt B b (l ++ t.data.toList) w' ∧ Below B w w' := by
  refine (Tryd.Buffer_WriteString_at 58 _ B b 0 _ t w h hB (Lib.byteCells_one _) (by rw [Lib.byteCells_length]; omega)).mono ?_
  rintro e w' ⟨rfl, h1, b1, k1⟩
  refine ⟨rfl, ?_, b1⟩
  unfold WrAt
  rw [Lib.byteCells_append]
  exact h1

theorem ba_app (a b : List UInt8) : (⟨a.toArray⟩ : ByteArray) ++ ⟨b.toArray⟩ = ⟨(a ++ b).toArray⟩ := by
  apply Go.WideShapes.bytes_inj
  simp

theorem irb_no (k : Int) (sl : Option Addr) (cap : Nat) (zs : List Int) (w : World) (hz : Ints w sl zs) (hr : recR k zs = false) :
    Calls Tryd.prog 11 #[RV k sl zs.length cap] w fun e w' => e = .returned (.string ⟨#[]⟩) ∧ Below w.heap.size w w' := by
  have R : Hid (∀ w1, Below w.heap.size w w1 → Calls Tryd.prog 34 #[RV k sl zs.length cap] w1 fun e w' => e = .returned (.bool false) ∧ Below w1.heap.size w1 w') := fun w1 hb => by
    have := irr_any k sl cap zs w1 (hz.below hb); rwa [hr] at this
  clear hz hr
  generalize zs.length = n at *
  go_enter Tryd.func11, Tryd.ntmps11
  go_wp2_with fail
  refine (R.out _ (bA0 _ _)).mono ?_
  rintro e w1 ⟨rfl, b1⟩
  go_wp2
  go_ret
  exact ⟨rfl, bT (bA0 _ _) b1⟩

set_option maxHeartbeats 1000000 in
theorem irb_yes (k : Int) (sl : Option Addr) (cap : Nat) (zs : List Int) (w : World) (ht : U8 w) (hz : Ints w sl zs) (hr : recR k zs = true) :
    Calls Tryd.prog 11 #[RV k sl zs.length cap] w fun e w' => e = .returned (.string ⟨(recB k zs).toArray⟩) ∧ Below w.heap.size w w' := by
  have R : Hid (∀ w1, Below w.heap.size w w1 → Calls Tryd.prog 34 #[RV k sl zs.length cap] w1 fun e w' => e = .returned (.bool true) ∧ Below w1.heap.size w1 w') := fun w1 hb => by
    have := irr_any k sl cap zs w1 (hz.below hb); rwa [hr] at this
  have BD : Hid (∀ w1 B b, WrAt B b [] w1 → B ≤ w1.heap.size → w.heap.size ≤ B → Below w.heap.size w w1 → Calls Tryd.prog 35 #[.pointer (some ⟨b, 0, none⟩), RV k sl zs.length cap] w1 fun e w' => e = .returned (.tuple #[]) ∧ WrAt B b (bodyB k zs) w' ∧ Below B w1 w') := fun w1 B b h hB hb hw =>
    body_any B b k sl cap zs w1 h hB hr (fun w2 hb2 => hz.below (hw.trans (hb2.mono hb)))
  have LB := body_len hr
  have LL := lenB_len hr
  clear hz
  generalize zs.length = n at *
  go_enter Tryd.func11, Tryd.ntmps11
  go_wp2_with fail
  refine (R.out _ (bA0 _ _)).mono ?_
  rintro e w1 ⟨rfl, b1⟩
  have R1 := Lib.hid ((RAt.new 28 w k sl n cap).below b1)
  have B1 : Hid (Below w.heap.size w w1) := bT (bA0 _ _) b1
  obtain ⟨c0, c1⟩ := R1.out.cells
  clear b1 R
  have N := Lib.hid (wr_new w1)
  have hw1 : w.heap.size < w1.heap.size := R1.out.lt
  go_wp2_with fail
  refine (BD.out _ _ _ N.out (by simp) (by omega) (bA B1.out _)).mono ?_
  rintro e w2 ⟨rfl, h2, b2⟩
  have H2 : HoldB w w1.heap.size w1.heap.size (bodyB k zs) w2 := ⟨h2, (bA B1.out _).trans (b2.mono (by omega)), by have := ((bA B1.out _).trans (b2.mono (by omega : w.heap.size ≤ w1.heap.size))).size; omega⟩
  have HH := Lib.hid H2
  clear BD N h2 b2 B1 c0 c1 R1 H2
  have hl5 : (bodyB k zs).length < 1000000 := by omega
  generalize hE : bodyB k zs = l at *
  go_wp2_with fail
  refine (HH.out.len).mono ?_
  rintro e w3 ⟨rfl, h3⟩
  have H3 := Lib.hid h3
  clear h3 HH
  go_wp2_with fail
  refine (H3.out.num _ hl5).mono ?_
  rintro e w4 ⟨rfl, h4⟩
  have H4 := Lib.hid h4
  clear h4 H3
  go_wp2_with fail
  refine (H4.out.str).mono ?_
  rintro e w5 ⟨rfl, h5⟩
  have B5 := Lib.hid h5.2.1
  have N := Lib.hid (wr_new w5)
  clear h5 H4
  have hw5 := B5.out.size
  have hnl : (numB l.length).length ≤ 2 := (numB_len l.length 1 (by omega)).2
  have hcat : ¬ (numB l.length).length + l.length > 9223372036854775807 := by omega
  go_wp2_with fail
  rw [ba_app, show numB l.length ++ l = lenB l from rfl]
  have HR : Hid (recB k zs = [82] ++ lenB l ++ fourB (sumL (lenB l))) := by show _ = _; rw [recB, hE]
  have HS : Hid (∀ w1, Below w.heap.size w w1 → Calls Tryd.prog 20 #[.string ⟨(lenB l).toArray⟩] w1 fun e w' => e = .returned (.int .i64 (sumL (lenB l))) ∧ Below w1.heap.size w1 w') :=
    fun w1 hb => isum_any ⟨(lenB l).toArray⟩ (by show (lenB l).toArray.size ≤ _; simp; omega) w1 (ht.below hb)
  have hS := sumL_lt (lenB l)
  have LL1 := LL.1
  have LL2 := LL.2
  clear hE hr LB LL ht hcat hnl hl5
  generalize sumL (lenB l) = x at *
  generalize lenB l = t at *
  refine (N.out.wb (by simp) (by simp) 82 (by omega) (by omega)).mono ?_
  rintro e w6 ⟨rfl, h6, b6, -⟩
  have H6 := Lib.hid h6
  have B6 : Hid (Below w5.heap.size w5 w6) := (bA0 _ _).trans b6
  have z6 := B6.out.size
  clear h6 b6 N
  go_wp2_with fail
  refine (H6.out.ws z6 ⟨t.toArray⟩ (by show _ + t.toArray.size ≤ _; simp; omega)).mono ?_
  rintro e w7 ⟨rfl, h7, b7⟩
  have H7 := Lib.hid h7
  have B7 : Hid (Below w5.heap.size w5 w7) := B6.out.trans b7
  have z7 := B7.out.size
  clear h7 b7 H6 B6
  go_wp2_with fail
  refine (HS.out _ (B5.out.trans (B7.out.mono hw5))).mono ?_
  rintro e w8 ⟨rfl, b8⟩
  have H8 := Lib.hid (H7.out.below b8)
  have B8 : Hid (Below w5.heap.size w5 w8) := bT B7.out b8
  have z8 := B8.out.size
  clear b8 H7 B7 HS
  go_wp2_with fail
  refine (four_any _ _ _ x w8 H8.out z8 (by simp; omega) (by omega)).mono ?_
  rintro e w9 ⟨rfl, h9, b9, -⟩
  have H9 := Lib.hid h9
  have B9 : Hid (Below w5.heap.size w5 w9) := B8.out.trans b9
  clear h9 b9 H8 B8
  go_wp2_with fail
  refine (Tryd.Buffer_String_at 58 _ _ _ 0 _ w9 H9.out).mono ?_
  rintro e w10 ⟨rfl, m, rfl⟩
  go_wp2
  go_ret
  refine ⟨?_, bT (B5.out.trans (B9.out.mono hw5)) (below_self_drewN _ _)⟩
  rw [HR.out]
  simp

theorem irb_any (k : Int) (sl : Option Addr) (cap : Nat) (zs : List Int) (w : World) (ht : U8 w) (hz : Ints w sl zs) :
    Calls Tryd.prog 11 #[RV k sl zs.length cap] w fun e w' => e = .returned (.string ⟨(recT k zs).toArray⟩) ∧ Below w.heap.size w w' := by
  unfold recT
  cases hr : recR k zs
  · exact irb_no k sl cap zs w hz hr
  · exact irb_yes k sl cap zs w ht hz hr

end Go.Proofs.YtnkdkbchendpmaaDoor
