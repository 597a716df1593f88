/-
  A LINE THAT BEGINS WITH A WORD, NUMBERS BEHIND IT: impl.lineOf.
-/
import Derived.Test.YtcnpdjjfcfkcfaaDoorBc
namespace Go.Proofs.YtcnpdjjfcfkcfaaDoor
open Go.RowKit Go.Lib
set_option linter.unusedVariables false

/-- A blank and a number; a line. -/
def numB (n : Int) : List UInt8 := [32] ++ Lib.itoa n
def wordB (wd : List UInt8) (zs : List Int) : List UInt8 := wd ++ zs.flatMap numB ++ [10]
/-- Numbers of at most fifteen digits. -/
def MidL (zs : List Int) : Prop := ∀ z ∈ zs, -1000000000000000 ≤ z ∧ z ≤ 1000000000000000
theorem dec_mid (u : Nat) (h : u ≤ 1000000000000000) : (Lib.decDigits u).length ≤ 20 := by
  by_cases h0 : u = 0
  · subst h0; rw [Lib.decDigits_one (by decide)]; decide
  · rw [Lib.decDigits_length]
    have := Lib.numDigits_eq u (by omega) (by omega)
    split at this <;> omega
theorem itoa_mid (n : Int) (h : -1000000000000000 ≤ n ∧ n ≤ 1000000000000000) : (Lib.itoa n).length ≤ 21 := by
  unfold Lib.itoa
  split
  · simp only [List.length_cons]
    have := dec_mid n.natAbs (by omega)
    omega
  · have := dec_mid n.toNat (by omega)
    omega
theorem nums_step (zs : List Int) (k : Nat) (h : k < zs.length) : (zs.take (k + 1)).flatMap numB = (zs.take k).flatMap numB ++ ([32] ++ Lib.itoa (zs.getD k 0)) := by
  rw [List.take_succ_eq_append_getElem h, List.flatMap_append]
  simp [numB, h]

set_option maxRecDepth 100000 in
set_option maxHeartbeats 1000000 in
/-- impl.lineOf. -/
theorem lof_any (wd : List UInt8) (sl : Option Addr) (cap : Nat) (zs : List Int) (w : World) (hwd : wd.length ≤ 1000) (hl : zs.length ≤ 1000) (hs : MidL zs) (hz : Ints w sl zs) (ht : PowTab w) :
    Calls Tryd.prog 64 #[.string ⟨wd.toArray⟩, .slice sl zs.length cap] w fun e w' => e = .returned (.string ⟨(wordB wd zs).toArray⟩) ∧ Below w.heap.size w w' := by
  have HZ := Lib.hid hz
  have HS := Lib.hid hs
  have HT := Lib.hid ht
  clear hz hs ht
  generalize hN : zs.length = n at *
  have HN := Lib.hid hN
  clear hN
  go_enter Tryd.func64, Tryd.ntmps64
  go_wp2
  go_loopw [5, 11] (fun t i wr => ∃ (k : Nat) (l : List UInt8), i = .int .i64 k ∧ t = .string ⟨l.toArray⟩ ∧ k ≤ n ∧ l.length ≤ 1000 + 22 * k ∧ Hid (l = wd ++ (zs.take k).flatMap numB) ∧ Hid (Below w.heap.size w wr)) (fun _ i _ => n - (RowKit.intOf i).toNat)
  case atStart => exact ⟨0, wd, rfl, rfl, Nat.zero_le _, by omega, (by show wd = wd ++ (zs.take 0).flatMap numB; simp), Below.refl _ _⟩
  case round =>
    obtain ⟨k, l, rfl, rfl, hk, hll, HL, HB⟩ := hrel
    have hk0 : (0 : Int) ≤ (k : Int) := by omega
    by_cases g1 : k < n
    · have g1' : (k : Int) < (n : Int) := by omega
      have hlt : k < zs.length := by rw [HN.out]; exact g1
      obtain ⟨c, o, rfl, ZI⟩ : ∃ c o, sl = some ⟨c, o, none⟩ ∧ IntsAt w c o zs := by
        rcases HZ.out with e | h
        · rw [e] at hlt; simp at hlt
        · exact h
      have hc := (HB.out.cell (p := ⟨c, o + k, none⟩) ZI.1).trans (ZI.2 k hlt)
      have hz := HS.out (zs.getD k 0) (by rw [List.getD_eq_getElem?_getD, List.getElem?_eq_getElem hlt]; exact List.getElem_mem hlt)
      have E := Lib.hid (fi_any (zs.getD k 0) (by omega) (by omega) wr (HT.out.below HB.out))
      have ST := Lib.hid (nums_step zs k hlt)
      have hd := itoa_mid _ hz
      clear hlt ZI
      generalize Lib.itoa (zs.getD k 0) = d at *
      generalize zs.getD k 0 = z at *
      go_wp2_with fail
      refine E.out.mono ?_
      rintro e w1 ⟨rfl, b1⟩
      have B1 := Lib.hid (bT HB.out b1)
      have NL : Hid (l ++ ([32] ++ d) = wd ++ (zs.take (k + 1)).flatMap numB) := by rw [HL.out, ST.out]; exact Lib.hid (by simp)
      clear b1 E HL ST
      go_wp2
      go_roundw
      case rel => exact ⟨k + 1, l ++ ([32] ++ d), by go_num, by rw [← ba_app l ([32] ++ d), ← ba_app [32] d], by omega, by simp; omega, NL, B1⟩
      case measure => simp [RowKit.intOf]; omega
    · have g1' : ¬ (k : Int) < (n : Int) := by omega
      have NL : Hid (l ++ [10] = wordB wd zs) := by
        rw [HL.out, List.take_of_length_le (by rw [HN.out]; omega)]; exact Lib.hid rfl
      clear HL
      go_wp2
      go_ret
      exact ⟨by rw [← NL.out, ← ba_app l [10]]; rfl, HB.out⟩
end Go.Proofs.YtcnpdjjfcfkcfaaDoor
