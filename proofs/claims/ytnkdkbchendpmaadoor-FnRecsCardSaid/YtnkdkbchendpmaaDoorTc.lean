/-
  THE LAW FnRecTurned: its walk.
-/
import Derived.Test.YtnkdkbchendpmaaDoorTb
import Derived.Test.YtnkdkbchendpmaaDoorBd
import Derived.Test.YtnkdkbchendpmaaDoorDj
import Derived.Laws.IdiomStrings
import Derived.Laws.BitsAllLaws
import Derived.Deep.RegionHeldLaw
import Derived.Deep.RegionWith
namespace Go.Proofs.YtnkdkbchendpmaaDoor
open Go.RowKit
set_option linter.unusedVariables false

/-- Bytes that were made of a text: they lie in a block, and may be written. -/
structure Txt (w : World) (g : Nat) (l : List UInt8) : Prop where
  lt : g < w.heap.size
  cell : ∀ j (h : j < l.length), w.cell? ⟨g, j, none⟩ = some (.int .u8 (l[j].toNat : Int))
  free : ∀ j, j < l.length → w.frozen? ⟨g, j, none⟩ = false
theorem Txt.set {w : World} {g : Nat} {l : List UInt8} (h : Txt w g l) (i : Nat) (y : UInt8) (hi : i < l.length) : Txt (w.setCell ⟨g, i, none⟩ (.int .u8 (y.toNat : Int))) g (l.set i y) := by
  refine ⟨by simpa [World.setCell] using h.lt, fun j hj => ?_, fun j hj => ?_⟩
  · rw [List.length_set] at hj
    by_cases e : i = j
    · subst e
      rw [World.cell?_setCell_same _ _ _ (h.cell i hi)]
      simp
    · have hne : (⟨g, i, none⟩ : Addr) ≠ ⟨g, j, none⟩ := fun e' => e (by cases e'; rfl)
      rw [show (w.setCell ⟨g, i, none⟩ (.int .u8 (y.toNat : Int))).cell? ⟨g, j, none⟩ = w.cell? ⟨g, j, none⟩ from World.cell?_setCell_other _ _ _ _ hne, h.cell j hj]
      simp [e]
  · rw [World.frozen?_setCell]
    exact h.free j (by simpa using hj)
theorem Txt.text {w : World} {g cap : Nat} {l : List UInt8} (h : Txt w g l) : Sem.run Tryd.prog (convert 22 9 (.slice (some ⟨g, 0, none⟩) l.length cap)) w = .ok (.string ⟨l.toArray⟩) w := by
  refine run_convert_bytes_back (P := Tryd.prog) w 22 9 5 ⟨g, 0, none⟩ cap l Tryd.underlying22 Tryd.underlying5 Tryd.underlying9 (fun j hj => ?_)
  have ha : (⟨g, 0, none⟩ : Addr).add j = ⟨g, j, none⟩ := by
    unfold Addr.add
    by_cases h : j = 0 <;> simp [h]
  rw [ha]; exact h.cell j hj
theorem txt_new (w : World) (s : ByteArray) : ∃ cap w', Sem.run Tryd.prog (convert 9 22 (.string s)) w = .ok (.slice (some ⟨w.heap.size, 0, none⟩) s.size cap) w' ∧ Txt w' w.heap.size s.data.toList ∧ Below w.heap.size w w' := by
  refine ⟨_, _, run_bytes_of_string (P := Tryd.prog) w 9 22 5 s Tryd.underlying9 Tryd.underlying22 Tryd.underlying5, ⟨by simp, fun j hj => ?_, fun j hj => ?_⟩, (Below.refl _ _).drew.alloc (by simp) _⟩
  · have := World.cell?_alloc_mark w.drew (bytesRow s (grownCap w s.size 0 5)) 5 ((bytesRow s (grownCap w s.size 0 5)).size, (bytesRow s (grownCap w s.size 0 5)).size + 1) j
    rw [show w.drew.heap.size = w.heap.size from rfl] at this
    rw [this, bytesRow_at s _ j (by simpa using hj)]
    simp
  · have := World.frozen?_alloc_mark w.drew (bytesRow s (grownCap w s.size 0 5)) 5 (bytesRow s (grownCap w s.size 0 5)).size ((bytesRow s (grownCap w s.size 0 5)).size + 1) j
    rw [show w.drew.heap.size = w.heap.size from rfl] at this
    rw [this]
    have hb : s.size ≤ (bytesRow s (grownCap w s.size 0 5)).size := by unfold bytesRow; rw [Array.size_append, Array.size_map]; exact Nat.le_add_right _ _
    have : ¬ (bytesRow s (grownCap w s.size 0 5)).size ≤ j := by simp at hj; omega
    simp [this]

theorem turn_byte (x : UInt8) (q : Int) (q0 : 0 ≤ q) (q1 : q < 255 ∨ q = 0) : ∃ y : UInt8, y ≠ x ∧ bits .xor .u8 (x.toNat : Int) (IntKind.u8.wrap (IntKind.i64.wrap (1 + q))) = (y.toNat : Int) := by
  have hx := x.toNat_lt
  obtain ⟨c, rfl⟩ := Int.eq_ofNat_of_zero_le q0
  have e1 : IntKind.u8.wrap (IntKind.i64.wrap (1 + (c : Int))) = ((1 + c : Nat) : Int) := by
    rw [IntKind.wrap_i64]
    simp only [IntKind.wrap, IntKind.signed, IntKind.bits]
    simp
    omega
  have hc : 1 + c < 256 := by omega
  have hlt := xor_lt x.toNat (1 + c) (by omega) hc
  refine ⟨(x.toNat ^^^ (1 + c)).toUInt8, fun e => ?_, ?_⟩
  · have := congrArg UInt8.toNat e
    rw [u8_toNat _ hlt] at this
    exact xor_ne _ _ (by omega) this
  · rw [e1, u8_xor_nat _ _ (by omega) hc, u8_toNat _ hlt]
theorem Txt.drew {w : World} {g : Nat} {l : List UInt8} (h : Txt w g l) : Txt w.drew g l := ⟨h.lt, h.cell, h.free⟩

/-- The first record of a list that is not empty. -/
theorem recs_first {B : Nat} {w : World} {v : Value} {rs : List (Int × Value × List Int)} (h : RecsIn B w v rs) (hp : 0 < rs.length) :
    ∃ g cap k sl2 cap2 zs, v = .slice (some ⟨g, 0, none⟩) rs.length cap ∧ B ≤ g ∧ g < w.heap.size ∧ w.cell? ⟨g, 0, none⟩ = some (.int .i64 k) ∧ w.cell? ⟨g, 1, none⟩ = some (.slice sl2 zs.length cap2) ∧ Ints w sl2 zs ∧ recR k zs = true := by
  match rs, hp, h with
  | (k, u, zs) :: rest, hp, h =>
    obtain ⟨hu, hr⟩ := h.each (k, u, zs) (by simp)
    dsimp only at hu hr
    obtain ⟨sl2, cap2, rfl, hi⟩ := own_ints hu
    rcases h.row.2 with ⟨_, h0⟩ | ⟨g, cap, cur, rfl, hb, hg, _⟩
    · simp at h0
    · refine ⟨g, cap, k, sl2, cap2, zs, rfl, hb, (Array.getElem?_eq_some_iff.1 hg).1, ?_, ?_, hi, hr⟩
      · have := World.ownsRow.cellAt h.row 0 (by simp)
        rw [this]; simp [recCells]
      · have := World.ownsRow.cellAt h.row 1 (by simp; omega)
        rw [this]; simp [recCells]

theorem field36 (k u c : Int) (v : Value) (w : World) : Sem.run Tryd.prog (Instr.field 36 (RO k v u c) 2) w = .ok (.int .i64 c) w := by kernel_rfl

set_option maxRecDepth 100000 in
set_option maxHeartbeats 2000000 in
theorem law4 (sl : Option Addr) (len cap : Nat) (w : World) (ht : U8 w) (hl : len ≤ 1048576) (hr : RowIn w sl len) :
    Calls Tryd.prog 4 #[.slice sl len cap] w fun e w' => e = .returned (.bool true) ∧ Below w.heap.size w w' := by
  have hl' : ¬ (1048576 : Int) < (len : Int) := by omega
  have HR := Lib.hid hr
  have HT := Lib.hid ht
  clear ht hr
  go_enter Tryd.func4, Tryd.ntmps4
  go_wp2_with fail
  refine (recs_any sl len cap _ hl HR.out).mono ?_
  rintro e w1 ⟨rs, v, rfl, hrs, R, b1⟩
  by_cases hp : rs.length = 0
  · have hv : ∃ a c, v = .slice a 0 c := by
      rcases R.row.2 with ⟨rfl, _⟩ | ⟨g, c, cur, rfl, _⟩
      · exact ⟨_, _, rfl⟩
      · exact ⟨_, c, by rw [hp]⟩
    obtain ⟨a, c, rfl⟩ := hv
    have B1 := Lib.hid b1
    clear R b1 hp
    go_wp2
    go_ret
    exact ⟨rfl, B1.out⟩
  · obtain ⟨g, cp, k, sl2, cap2, zs, rfl, hg, hgl, g0, g1, hI, hrR⟩ := recs_first R (by omega)
    have hz1 : zs.length ≤ 60 := (recR_parts hrR).2.2.1
    have eT : recT k zs = recB k zs := by unfold recT; rw [if_pos hrR]
    have IB : Hid (∀ w2, Below w1.heap.size w1 w2 → Calls Tryd.prog 11 #[RV k sl2 zs.length cap2] w2 fun e w' => e = .returned (.string ⟨(recB k zs).toArray⟩) ∧ Below w2.heap.size w2 w') := fun w2 hb => by
      have := irb_any k sl2 cap2 zs w2 (HT.out.below (bT b1 hb)) (hI.below hb); rwa [eT] at this
    have SB : Hid (∀ w2, Below w1.heap.size w1 w2 → Calls Tryd.prog 15 #[RV k sl2 zs.length cap2] w2 fun e w' => e = .returned (.string ⟨(recB k zs).toArray⟩) ∧ Below w2.heap.size w2 w') := fun w2 hb => by
      have := srb_any k sl2 cap2 zs w2 (by unfold maxLen; omega) (hI.below hb); rwa [eT] at this
    have hbl := body_len hrR
    have hnl := numB_len (bodyB k zs).length 1 (by omega)
    have hTl : 8 ≤ (recB k zs).length ∧ (recB k zs).length ≤ 500 := by
      simp only [recB, lenB, List.length_append, List.length_cons, List.length_nil]
      have : (fourB (sumL (numB (bodyB k zs).length ++ bodyB k zs))).length = 4 := rfl
      omega
    have TS := Lib.hid (fun i y h3 hi hy => turned_sum k zs hrR i y h3 hi hy)
    have hrp : ¬ (rs.length : Int) = 0 := by omega
    have hrp' : ((rs.length : Int) == 0) = false := by rw [beq_eq_false_iff_ne]; omega
    have hrq : (0 : Int) < (rs.length : Int) := by omega
    have B1 := Lib.hid b1
    clear R b1 hp hI hrR eT hbl hnl hz1
    generalize recB k zs = T at *
    generalize zs.length = n at *
    generalize rs.length = rn at *
    have hsz : (⟨T.toArray⟩ : ByteArray).size = T.length := by simp [ByteArray.size]
    have hdl : (⟨T.toArray⟩ : ByteArray).data.toList = T := by simp
    generalize hS : (⟨T.toArray⟩ : ByteArray) = S at *
    clear hS
    have HSZ := Lib.hid hsz
    have HDL := Lib.hid hdl
    clear hsz hdl
    go_wp2_with fail
    refine (IB.out _ (Below.refl _ _)).mono ?_
    rintro e w2 ⟨rfl, b2⟩
    have B2 := Lib.hid b2
    have k0 := (b2.cell hgl).trans g0
    have k1 := (b2.cell hgl).trans g1
    clear b2
    have hSS : (S.toList != S.toList) = false := by simp
    go_wp2_with fail
    refine (SB.out _ B2.out).mono ?_
    rintro e w3 ⟨rfl, b3⟩
    have B3 : Hid (Below w.heap.size w w3) := bT (bT B1.out B2.out) b3
    clear b3 k0 k1 g0 g1 IB SB B2
    have hz3 : (S.size : Int) - 3 ≤ 9223372036854775807 := by have := HSZ.out; omega
    have hS3 : S.size ≤ 500 := by have := HSZ.out; omega
    have hS8 : 8 ≤ S.size := by have := HSZ.out; omega
    go_wp2_with fail
    refine (at_any sl len cap 3 _ _ (by omega) hz3 (HR.out.below B3.out)).mono ?_
    rintro e w4 ⟨r, rfl, r0, r1, rfl⟩
    obtain ⟨cap5, w5, hcv, X5, b5⟩ := txt_new w4 S
    rw [HDL.out] at X5
    have B5 : Hid (Below w.heap.size w w5) := bT B3.out b5
    obtain ⟨i, hi⟩ : ∃ i : Nat, 3 + r = (i : Int) := ⟨(3 + r).toNat, by omega⟩
    have i3 : 3 ≤ i := by omega
    have iS : i < S.size := by omega
    have iT : i < T.length := by rw [← HSZ.out]; exact iS
    have XC := X5.cell i iT
    have XF := X5.free i iT
    have XL := X5.lt
    have HX5 := Lib.hid X5
    obtain ⟨x, hx⟩ : ∃ x : UInt8, T[i]'iT = x := ⟨_, rfl⟩
    rw [hx] at XC
    have HX := Lib.hid hx
    have HI := Lib.hid hi
    have r9 : r ≤ 500 := by omega
    clear X5 b5 hx hi r1
    have hi0 : (0 : Int) ≤ (i : Int) := by omega
    have hi1 : (i : Int) < (S.size : Int) := by omega
    have xl := x.toNat_lt
    have HG : Hid (w.heap.size ≤ w4.heap.size) := B3.out.size
    generalize w4.heap.size = g5 at *
    go_wp2_with fail
    rw [HI.out]
    go_region_with (first | (go_at_call 14; refine (at_any sl len cap 5 255 _ (by omega) (by omega) (HR.out.below (by first | exact B5.out | exact B5.out.drew | exact below_drewN B5.out _))).mono ?_; rintro e w6 ⟨q, rfl, q0, q1, rfl⟩))
    all_goals
      obtain ⟨y, hyx, hy⟩ := turn_byte x q q0 q1
      rw [hy]
      have X6 := ((HX5.out.set i y iT).drew).text (cap := cap5)
      rw [List.length_set, ← HSZ.out] at X6
      have B6 : Hid (Below w.heap.size w (w5.setCell ⟨g5, i, none⟩ (.int .u8 (y.toNat : Int))).drew) := (B5.out.setCell HG.out _).drew
      obtain ⟨f1, f2⟩ := TS.out i y i3 iT (by rw [HX.out]; exact hyx)
      have RD := Lib.hid (ird_any ⟨(T.set i y).toArray⟩ (w5.setCell ⟨g5, i, none⟩ (.int .u8 (y.toNat : Int))).drew (HT.out.below B6.out))
      have F := Lib.hid (And.intro f1 f2)
      clear f1 f2 hyx hy XC XF TS
      generalize hL : T.set i y = L at *
      have hdL : (⟨L.toArray⟩ : ByteArray).data.toList = L := by simp
      rw [hdL] at RD
      clear hL hdL
      generalize (⟨L.toArray⟩ : ByteArray) = SL at *
      generalize (w5.setCell ⟨g5, i, none⟩ (.int .u8 (y.toNat : Int))).drew = w7 at *
      go_wp2_with fail
      refine RD.out.mono ?_
      rintro e w8 (⟨n8, q8, k8, zs8, v8, hg8, hb8, _⟩ | ⟨_, rfl, b8⟩)
      · exact absurd hb8 (F.out.2 _ _ _ _ hg8)
      · rw [F.out.1]
        have B8 := Lib.hid (bT B6.out b8)
        clear b8
        have hf := field36 0 0 5 (.slice none 0 0)
        go_wp2
        go_ret
        exact ⟨rfl, B8.out⟩

theorem law4_long (sl : Option Addr) (len cap : Nat) (w : World) (hl : 1048576 < len) :
    Calls Tryd.prog 4 #[.slice sl len cap] w fun e w' => e = .returned (.bool true) ∧ Below w.heap.size w w' := by
  have hl' : (1048576 : Int) < (len : Int) := by omega
  go_enter Tryd.func4, Tryd.ntmps4
  go_wp2
  go_ret
  exact ⟨rfl, Below.refl _ _⟩
theorem law4_all (sl : Option Addr) (len cap : Nat) (w : World) (ht : U8 w) (hr : RowIn w sl len) :
    Calls Tryd.prog 4 #[.slice sl len cap] w fun e w' => e = .returned (.bool true) ∧ Below w.heap.size w w' := by
  by_cases h : len ≤ 1048576
  · exact law4 sl len cap w ht h hr
  · exact law4_long sl len cap w (by omega)

end Go.Proofs.YtnkdkbchendpmaaDoor
