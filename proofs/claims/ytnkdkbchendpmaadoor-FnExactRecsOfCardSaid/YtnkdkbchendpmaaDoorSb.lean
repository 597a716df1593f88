/-
  SUMS OF TEXTS, AS THE PROGRAM MAKES THEM: rune by rune, and each rune's bytes.
-/
import Derived.Test.YtnkdkbchendpmaaDoorSa
import Derived.Test.YtnkdkbchendpmaaDoorShelfU
import Derived.Lib.OthersKept
import Derived.Lib.LaidU8
import Derived.Lib.DecodeN
import Derived.Laws.RangeAny
import Derived.Laws.RangeString
namespace Go.Proofs.YtnkdkbchendpmaaDoor
open Go.RowKit
set_option linter.unusedVariables false

def U8 (w : World) : Prop := Lib.Utf8Tabs 1 2 w
theorem U8.below {w w' : World} (h : U8 w) (hb : Below w.heap.size w w') : U8 w' := Utf8Tabs_below h hb

theorem width_pos (s : ByteArray) (pos : Nat) (h : pos < s.size) : 1 ≤ (Utf8.decode s pos).2 := by
  by_cases ha : (s[pos]'h).toNat < 128
  · rw [decode_ascii s pos h ha]; exact Nat.le_refl _
  · exact (decode_high s pos h (by omega)).2
theorem decN_le (n b0 b1 b2 b3 : Nat) (hn : 1 ≤ n) : (Lib.decodeN n b0 b1 b2 b3).2 ≤ n := by
  unfold Lib.decodeN
  repeat' split
  all_goals first | omega | (simp; omega) | skip
theorem width_le (s : ByteArray) (pos : Nat) (h : pos < s.size) : pos + (Utf8.decode s pos).2 ≤ s.size := by
  rw [Lib.decode_at]
  have := decN_le (s.size - pos) (s.get! pos).toNat (s.get! (pos + 1)).toNat (s.get! (pos + 2)).toNat (s.get! (pos + 3)).toNat (by omega)
  omega
theorem get_tail (s : ByteArray) (pos i : Nat) (h : pos ≤ s.size) : (s.extract pos s.size).get! i = s.get! (pos + i) := by
  by_cases hi : pos + i < s.size
  · have e1 : i < (s.extract pos s.size).size := by simp; omega
    rw [Utf8W.get!_of_lt _ _ e1, Utf8W.get!_of_lt _ _ hi]
    simp [ByteArray.getElem_extract]
  · have e1 : (s.extract pos s.size).size ≤ i := by simp; omega
    simp [ByteArray.get!]
    rw [getElem!_neg _ _ (by simp; omega), getElem!_neg _ _ (by simp; omega)]
theorem dec_tail (s : ByteArray) (pos : Nat) (h : pos < s.size) : Lib.decodeGo (s.extract pos s.size) = Utf8.decode s pos := by
  have e : (s.extract pos s.size).size = s.size - pos := by simp
  unfold Lib.decodeGo
  rw [if_neg (by rw [e]; omega), Lib.decode_at, Lib.decode_at, e, get_tail _ _ _ (by omega), get_tail _ _ _ (by omega), get_tail _ _ _ (by omega), get_tail _ _ _ (by omega)]
  rfl

set_option maxHeartbeats 1000000 in
theorem isum_any (s : ByteArray) (hs : s.size ≤ 20000) (w : World) (ht : U8 w) :
    Calls Tryd.prog 20 #[.string s] w fun e w' => e = .returned (.int .i64 (sumL s.data.toList)) ∧ Below w.heap.size w w' := by
  have hs' : ¬ (20000 : Int) < (s.size : Int) := by omega
  have HT : Hid (U8 w) := ht
  clear ht
  go_enter Tryd.func20, Tryd.ntmps20
  go_wp2
  go_loopw [3] (fun t wr => ∃ pos x : Nat, t = .int .i64 x ∧ pos ≤ s.size ∧ wr.heap[w.heap.size]? = some (.stringIter s pos) ∧ Hid (Below w.heap.size w wr) ∧ Hid (x = sumAt s pos) ∧ x < 4294967291) (fun _ wr => s.size - wr.iterPos w.heap.size)
  case atStart =>
    refine ⟨0, 1, rfl, Nat.zero_le _, ?_, bA0 _ _, rfl, by decide⟩
    have := World.iter_heap w s 0
    simpa using this
  case round =>
    obtain ⟨pos, x, rfl, hpos, hit, H1, H2, hx⟩ := hrel
    have hsz : w.heap.size < wr.heap.size := (Array.getElem?_eq_some_iff.1 hit).1
    by_cases hp : pos < s.size
    · have hnx : ∀ ty, (Instr.next (.pointer (some ⟨w.heap.size, 0, none⟩)) true ty).run Tryd.prog wr = _ := fun ty => Lib.run_next_any_at wr w.heap.size s pos ty hit hp
      have hwd := width_pos s pos hp
      have hwl := width_le s pos hp
      have hit2 := Lib.iterAt_heap wr w.heap.size s pos (pos + (Utf8.decode s pos).2) hit
      have hbw2 := Lib.below_iterAt H1.out (k := w.heap.size) (by omega) s (pos + (Utf8.decode s pos).2)
      have hT2 := HT.out.below hbw2
      have hD := Tryd.utf8_DecodeRuneInString (s.extract pos s.size) (wr.iterAt w.heap.size s (pos + (Utf8.decode s pos).2)) hT2
      rw [dec_tail s pos hp] at hD
      have hpi : (pos : Int) ≤ (s.size : Int) := by omega
      have HX : Hid (∀ w0 : World, w0.heap[w.heap.size]? = wr.heap[w.heap.size]? → wr.iterPos w.heap.size = w0.iterPos w.heap.size) := by
        intro w0 h0; unfold World.iterPos; rw [h0]
      generalize hW : wr.iterAt w.heap.size s (pos + (Utf8.decode s pos).2) = W at *
      generalize (Utf8.decode s pos).2 = width at *
      go_wp2_with fail
      refine hD.mono ?_
      rintro e w2 ⟨rfl, b2⟩
      have hWs : w.heap.size < W.heap.size := (Array.getElem?_eq_some_iff.1 hit2).1
      have I2 : Hid (w2.heap[w.heap.size]? = some (.stringIter s (pos + width))) := (b2.block _ hWs).trans hit2
      have B2 : Hid (Below w.heap.size w w2) := bT hbw2 b2
      clear hD b2 hnx hT2 hbw2 HX
      have hnx : True := trivial
      go_wp2
      go_loop [3, 7] (fun t i => ∃ k y : Nat, i = .int .i64 k ∧ t = .int .i64 y ∧ k ≤ pos + width ∧ Hid (y = sumAt s k) ∧ y < 4294967291) (fun _ i => pos + width - (intOf i).toNat)
      case atStart => exact ⟨pos, x, rfl, rfl, by omega, H2, hx⟩
      case round =>
        obtain ⟨k, y, rfl, rfl, hk, H3, hy⟩ := hrel
        have hk0 : (0 : Int) ≤ (k : Int) := by omega
        have hy0 : (0 : Int) ≤ (y : Int) := by omega
        have hy1 : (y : Int) < 4294967291 := by omega
        by_cases h1 : k < pos + width
        · have h1' : (k : Int) < (pos : Int) + (width : Int) := by omega
          have h2 : k < s.size := by omega
          have h2' : (k : Int) < (s.size : Int) := by omega
          have hb : ((s[k]'h2).toNat : Int) < 256 := by have := (s[k]'h2).toNat_lt; omega
          have E := sumAt_step s k h2
          rw [← H3.out] at E
          have HE : Hid ((((y : Int) * 263 + ((s[k]'h2).toNat : Int)) % 4294967291) = ((sumAt s (k + 1) : Nat) : Int)) := by show _ = _; rw [E]; omega
          have HB : Hid (sumAt s (k + 1) < 4294967291) := sumL_lt _
          clear E
          go_wp2
          go_round
          case rel => exact ⟨k + 1, sumAt s (k + 1), by go_num, by rw [HE.out], by omega, rfl, HB.out⟩
          case measure => simp [intOf]; omega
        · have h1' : ¬ (k : Int) < (pos : Int) + (width : Int) := by omega
          have HE : Hid (y = sumAt s (pos + width)) := by show y = _; rw [H3.out]; congr 1; omega
          go_wp2
          refine ⟨⟨pos + width, y, rfl, by omega, I2.out, B2, HE, hy⟩, ?_⟩
          simp only [World.iterPos, I2.out, hit]
          omega
    · have hnx : ∀ ty, (Instr.next (.pointer (some ⟨w.heap.size, 0, none⟩)) true ty).run Tryd.prog wr = _ := fun ty => Lib.run_next_end_at wr w.heap.size s pos ty hit hp
      have HE : Hid (x = sumL s.data.toList) := H2.out.trans (sumAt_all s pos (by omega))
      go_wp2
      go_ret
      exact ⟨by rw [HE.out]; rfl, H1.out⟩

theorem isum_long (s : ByteArray) (hs : 20000 < s.size) (w : World) :
    Calls Tryd.prog 20 #[.string s] w fun e w' => e = .returned (.int .i64 0) ∧ Below w.heap.size w w' := by
  have hs' : (20000 : Int) < (s.size : Int) := by omega
  go_enter Tryd.func20, Tryd.ntmps20
  go_wp2
  go_ret
  exact ⟨rfl, Below.refl _ _⟩
theorem srs_long (s : ByteArray) (hs : 20000 < s.size) (w : World) :
    Calls Tryd.prog 19 #[.string s] w fun e w' => e = .returned (.int .i64 0) ∧ Below w.heap.size w w' := by
  have hs' : (20000 : Int) < (s.size : Int) := by omega
  go_enter Tryd.func19, Tryd.ntmps19
  go_wp2
  go_ret
  exact ⟨rfl, Below.refl _ _⟩
theorem srs_short (s : ByteArray) (hs : s.size ≤ 20000) (w : World) :
    Calls Tryd.prog 19 #[.string s] w fun e w' => e = .returned (.int .i64 (sumL s.data.toList)) ∧ Below w.heap.size w w' := by
  have hs' : ¬ (20000 : Int) < (s.size : Int) := by omega
  have H : Hid (∀ w, Calls Tryd.prog 42 #[.string s] w fun e w' => e = .returned (.int .i64 (sumL s.data.toList)) ∧ w' = w) := fun w => ssum_any s (by unfold maxLen; omega) w
  generalize sumL s.data.toList = x at *
  go_enter Tryd.func19, Tryd.ntmps19
  go_wp2_with fail
  refine (H.out _).mono ?_
  rintro e w1 ⟨rfl, rfl⟩
  go_wp2
  go_ret
  exact ⟨rfl, Below.refl _ _⟩
def sumT (s : ByteArray) : Int := if 20000 < s.size then 0 else (sumL s.data.toList : Nat)
theorem irs_any (s : ByteArray) (w : World) (ht : U8 w) : Calls Tryd.prog 20 #[.string s] w fun e w' => e = .returned (.int .i64 (sumT s)) ∧ Below w.heap.size w w' := by
  unfold sumT
  split
  · rename_i h; exact isum_long s h w
  · rename_i h; exact isum_any s (by omega) w ht
theorem srs_any (s : ByteArray) (w : World) : Calls Tryd.prog 19 #[.string s] w fun e w' => e = .returned (.int .i64 (sumT s)) ∧ Below w.heap.size w w' := by
  unfold sumT
  split
  · rename_i h; exact srs_long s h w
  · rename_i h; exact srs_short s (by omega) w

theorem law6 (s : ByteArray) (w : World) (ht : U8 w) :
    Calls Tryd.prog 6 #[.string s] w fun e w' => e = .returned (.bool true) ∧ Below w.heap.size w w' := by
  have HI : Hid (∀ w1, Below w.heap.size w w1 → Calls Tryd.prog 20 #[.string s] w1 fun e w' => e = .returned (.int .i64 (sumT s)) ∧ Below w1.heap.size w1 w') := fun w1 hb => irs_any s w1 (ht.below hb)
  have HS : Hid (∀ w1, Calls Tryd.prog 19 #[.string s] w1 fun e w' => e = .returned (.int .i64 (sumT s)) ∧ Below w1.heap.size w1 w') := fun w1 => srs_any s w1
  generalize sumT s = x at *
  clear ht
  by_cases h : 1048576 < s.size
  · have h' : (1048576 : Int) < (s.size : Int) := by omega
    go_enter Tryd.func6, Tryd.ntmps6
    go_wp2
    go_ret
    exact ⟨rfl, Below.refl _ _⟩
  · have h' : ¬ (1048576 : Int) < (s.size : Int) := by omega
    go_enter Tryd.func6, Tryd.ntmps6
    go_wp2_with fail
    refine (HS.out _).mono ?_
    rintro e w1 ⟨rfl, b1⟩
    have B1 : Hid (Below w.heap.size w w1) := b1
    clear b1
    go_wp2_with fail
    refine (HI.out _ B1.out).mono ?_
    rintro e w2 ⟨rfl, b2⟩
    have B2 : Hid (Below w.heap.size w w2) := bT B1.out b2
    clear b2
    go_wp2
    go_ret
    exact ⟨rfl, B2.out⟩

/-- What the listed tables give. -/
theorem u8x : U8Extra Tryd.prog Tryd.lays197_ren where
  n3 := by kernel_rfl
  n4 := by kernel_rfl
  y3 := by kernel_rfl
  y4 := by kernel_rfl
  c5 := by kernel_rfl
  c119 := by kernel_rfl
  c138 := by kernel_rfl
theorem first_eq : Rows.laid_unicode_utf8_first = Lib.firstData := by kernel_rfl
theorem accept_eq : (Rows.laid_unicode_utf8_acceptRanges : DataW Unit) = Lib.acceptData := by kernel_rfl
theorem u8_of {l : List (String × DataW Unit)} {W : World} (h : laidMet Tryd.prog l W) (h1 : ("unicode/utf8.first", Rows.laid_unicode_utf8_first) ∈ l) (h2 : ("unicode/utf8.acceptRanges", Rows.laid_unicode_utf8_acceptRanges) ∈ l) : U8 W := by
  have r1 := Lib.laidMet.reads h h1
  have r2 := Lib.laidMet.reads h h2
  rw [first_eq] at r1
  rw [accept_eq] at r2
  exact utf8Tabs_of_reads (P := Tryd.prog) (ρ := Tryd.lays197_ren) { Tryd.lays197 with } u8x r1 r2

end Go.Proofs.YtnkdkbchendpmaaDoor
