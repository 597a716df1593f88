/-
  WHAT THE LISTED TABLES GIVE; WHAT A DISK THAT CAME IN READS AS.
-/
import Derived.Test.YtmffoannknkjkaaDoorOb
import Derived.Laws.RangeAny
import Derived.Laws.RangeString
import Derived.Lib.DecodeN
import Derived.Lib.LaidU8
import Derived.Lib.OthersKept
namespace Go.Proofs.YtmffoannknkjkaaDoor
open Go.RowKit
open Go.Shelf
set_option linter.unusedVariables false

/-- What the listed tables give. -/
theorem u8x : U8Extra Tryd.prog Tryd.lays197_ren where
  n3 := by kernel_rfl
  n4 := by kernel_rfl
  y3 := by kernel_rfl
  y4 := by kernel_rfl
  c5 := by kernel_rfl
  c119 := by kernel_rfl
  c138 := by kernel_rfl
theorem first_eq : Rows.laid_unicode_utf8_first = Lib.firstData := by kernel_rfl
theorem accept_eq : (Rows.laid_unicode_utf8_acceptRanges : DataW Unit) = Lib.acceptData := by kernel_rfl
theorem u8_of {l : List (String × DataW Unit)} {W : World} (h : laidMet Tryd.prog l W) (h1 : ("unicode/utf8.first", Rows.laid_unicode_utf8_first) ∈ l) (h2 : ("unicode/utf8.acceptRanges", Rows.laid_unicode_utf8_acceptRanges) ∈ l) : U8 W := by
  have r1 := Lib.laidMet.reads h h1
  have r2 := Lib.laidMet.reads h h2
  rw [first_eq] at r1
  rw [accept_eq] at r2
  exact utf8Tabs_of_reads (P := Tryd.prog) (ρ := Tryd.lays197_ren) { Tryd.lays197 with } u8x r1 r2

/-- What a disk that came in reads as. -/
def IsStrs (w : World) (a : Option Addr) (len cap : Nat) (Sx : Nat → ByteArray) : Prop :=
  (a = none ∧ len = 0 ∧ cap = 0) ∨ ∃ x, a = some x ∧ len ≤ cap ∧ cap ≤ maxLen ∧ ∀ i, i < cap → w.cell? (x.add i) = some (.string (Sx i)) ∧ (Sx i).size ≤ maxLen
theorem strs_in {w : World} {a : Option Addr} {len cap : Nat} {Sx : Nat → ByteArray} (h : IsStrs w a len cap Sx) :
    ∃ ss : List ByteArray, Strs w a ss ∧ ss.length = len ∧ (∀ s ∈ ss, s.size ≤ maxLen) ∧ len ≤ maxLen := by
  rcases h with ⟨rfl, rfl, rfl⟩ | ⟨x, rfl, hl, hm, hc⟩
  · exact ⟨[], .inl rfl, rfl, by simp, Nat.zero_le _⟩
  · refine ⟨(List.range len).map Sx, ?_, by simp, fun s hs => ?_, Nat.le_trans hl hm⟩
    · by_cases h0 : len = 0
      · subst h0; exact .inl rfl
      · obtain ⟨c, o, spot⟩ := x
        have h1 := (hc 0 (by omega)).1
        have hs : spot = none := by simpa [Addr.add] using World.cell?_spot h1
        subst hs
        have ha : ∀ i, (⟨c, o, none⟩ : Addr).add i = ⟨c, o + i, none⟩ := by
          intro i
          unfold Addr.add
          by_cases h : i = 0 <;> simp [h]
        refine .inr ⟨c, o, rfl, ?_, fun i hi => ?_⟩
        · rw [ha] at h1
          unfold World.cell? at h1
          cases e : w.heap[c]? with
          | none => simp [e] at h1
          | some ob => exact (Array.getElem?_eq_some_iff.1 e).1
        · simp only [List.length_map, List.length_range] at hi
          have h2 := (hc i (by omega)).1
          rw [ha] at h2
          rw [h2]
          simp [at0, hi]
    · obtain ⟨i, hi, rfl⟩ := List.mem_map.1 hs
      exact (hc i (by have := List.mem_range.1 hi; omega)).2

end Go.Proofs.YtmffoannknkjkaaDoor
