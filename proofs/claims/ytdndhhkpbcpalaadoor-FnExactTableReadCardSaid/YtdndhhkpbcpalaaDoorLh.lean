/-
  A LINE TAKEN APART AT ITS BLANKS, AS THE PROGRAM DOES: rune by rune.
-/
import Derived.Test.YtdndhhkpbcpalaaDoorJa
import Derived.Lib.OthersKept
import Derived.Lib.DecodeN
import Derived.Laws.RangeAny
import Derived.Laws.RangeString
namespace Go.Proofs.YtdndhhkpbcpalaaDoor
open Go.RowKit
set_option linter.unusedVariables false

theorem own_frame {w w' : World} {B : Nat} {e : TypeId} {m : Nat} {v : Value} {n : Nat} {xs : List Value} (h : w.ownsRow B e m v n xs) (hf : ∀ c, B ≤ c → w'.heap[c]? = w.heap[c]?) : w'.ownsRow B e m v n xs := by
  refine ⟨h.1, ?_⟩
  rcases h.2 with h0 | ⟨g, cap, cur, hv, hb, hg, hr⟩
  · exact .inl h0
  · exact .inr ⟨g, cap, cur, hv, hb, (hf g hb).trans hg, hr⟩
theorem dec_wide (n b0 b1 b2 b3 : Nat) : (1 < (Lib.decodeN n b0 b1 b2 b3).2 → 128 ≤ b1) ∧ (2 < (Lib.decodeN n b0 b1 b2 b3).2 → 128 ≤ b2) ∧ (3 < (Lib.decodeN n b0 b1 b2 b3).2 → 128 ≤ b3) ∧ (Lib.decodeN n b0 b1 b2 b3).2 ≤ 4 := by
  unfold Lib.decodeN
  repeat' split
  all_goals first | omega | (simp; omega) | (simp; done)
theorem decN_le (n b0 b1 b2 b3 : Nat) (hn : 1 ≤ n) : (Lib.decodeN n b0 b1 b2 b3).2 ≤ n := by
  unfold Lib.decodeN
  repeat' split
  all_goals first | omega | (simp; omega) | skip
theorem width_le (s : ByteArray) (pos : Nat) (h : pos < s.size) : pos + (Utf8.decode s pos).2 ≤ s.size := by
  rw [Lib.decode_at]
  have := decN_le (s.size - pos) (s.get! pos).toNat (s.get! (pos + 1)).toNat (s.get! (pos + 2)).toNat (s.get! (pos + 3)).toNat (by omega)
  omega
theorem width_pos (s : ByteArray) (pos : Nat) (h : pos < s.size) : 1 ≤ (Utf8.decode s pos).2 := by
  by_cases ha : (s[pos]'h).toNat < 128
  · rw [decode_ascii s pos h ha]; exact Nat.le_refl _
  · exact (decode_high s pos h (by omega)).2
theorem get_of (s : ByteArray) (i : Nat) (h : i < s.size) : s.get! i = s[i] := by
  simp [ByteArray.get!, getElem!_pos, h]
  rfl
/-- No byte of a rune behind its first one is a blank. -/
theorem rest_high (s : ByteArray) (pos j : Nat) (h : pos < s.size) (h1 : pos < j) (h2 : j < pos + (Utf8.decode s pos).2) (hj : j < s.size) : 128 ≤ s[j].toNat := by
  rw [Lib.decode_at] at h2
  obtain ⟨q1, q2, q3, q4⟩ := dec_wide (s.size - pos) (s.get! pos).toNat (s.get! (pos + 1)).toNat (s.get! (pos + 2)).toNat (s.get! (pos + 3)).toNat
  rw [← get_of s j hj]
  obtain e | e | e : j = pos + 1 ∨ j = pos + 2 ∨ j = pos + 3 := by omega
  · subst e; exact q1 (by omega)
  · subst e; exact q2 (by omega)
  · subst e; exact q3 (by omega)
theorem rune_is (s : ByteArray) (pos : Nat) (h : pos < s.size) : (((Utf8.decode s pos).1 : Int) == 32) = (s[pos] == 32) := by
  by_cases ha : (s[pos]'h).toNat < 128
  · rw [decode_ascii s pos h ha]
    rw [Bool.eq_iff_iff]
    simp only [beq_iff_eq]
    constructor
    · intro e
      exact UInt8.toNat_inj.1 (by show s[pos].toNat = 32; omega)
    · intro e
      rw [e]
      rfl
  · have := (decode_high s pos h (by omega)).1
    rw [Bool.eq_iff_iff]
    simp only [beq_iff_eq]
    constructor
    · intro e; omega
    · intro e
      rw [e] at ha
      exact absurd (by decide) ha
theorem blank_one (s : ByteArray) (pos : Nat) (h : pos < s.size) (e : s[pos] = 32) : (Utf8.decode s pos).2 = 1 := by
  rw [decode_ascii s pos h (by rw [e]; decide)]
/-- A rune that is no blank leaves the words as they are. -/
theorem sp_rune (s : ByteArray) (pos : Nat) (h : pos < s.size) (e : ¬ s[pos] = 32) : spF 32 (s.data.toList.take (pos + (Utf8.decode s pos).2)) = ((spF 32 (s.data.toList.take pos)).1, (spF 32 (s.data.toList.take pos)).2 ++ (s.data.toList.take (pos + (Utf8.decode s pos).2)).drop pos) := by
  have hw := width_le s pos h
  have e1 : s.data.toList.take (pos + (Utf8.decode s pos).2) = s.data.toList.take pos ++ (s.data.toList.take (pos + (Utf8.decode s pos).2)).drop pos := by
    have := (List.take_append_drop pos (s.data.toList.take (pos + (Utf8.decode s pos).2))).symm
    rwa [List.take_take, Nat.min_eq_left (by omega)] at this
  have hn : (32 : UInt8) ∉ (s.data.toList.take (pos + (Utf8.decode s pos).2)).drop pos := fun hm => by
    obtain ⟨i, hi, hx⟩ := List.getElem_of_mem hm
    simp only [List.length_drop, List.length_take, Array.length_toList] at hi
    have hsz : s.data.size = s.size := rfl
    have hj : pos + i < s.size := by omega
    rw [List.getElem_drop, List.getElem_take] at hx
    have hx' : s[pos + i] = 32 := hx
    by_cases h0 : i = 0
    · subst h0
      exact e hx'
    · have := rest_high s pos (pos + i) h (by omega) (by omega) hj
      rw [hx'] at this
      exact absurd this (by decide)
  conv => lhs; rw [e1]
  unfold spF
  rw [List.foldl_append, sp_none 32 _ _ hn]

set_option maxRecDepth 100000 in
set_option maxHeartbeats 4000000 in
/-- impl.blankWords. -/
theorem blw_any (s : ByteArray) (w : World) (hs : s.size ≤ 1048576) :
    Calls Tryd.prog 21 #[.string s] w fun e w' => ∃ v, e = .returned v ∧ w'.ownsRow w.heap.size 9 1 v (splitL 32 s.data.toList).length (strs (splitL 32 s.data.toList)) ∧ Below w.heap.size w w' := by
  obtain ⟨i0, hi0, hz0, hz1, hz2⟩ := info_parts infoStr
  go_enter Tryd.func21, Tryd.ntmps21
  go_wp2
  go_loopw [3, 4] (fun v f wr => ∃ pos f0 : Nat, f = .int .i64 f0 ∧ pos ≤ s.size ∧ f0 ≤ pos ∧ wr.heap[w.heap.size]? = some (.stringIter s pos) ∧ Hid (wr.ownsRow (w.heap.size + 1) 9 1 v (spF 32 (s.data.toList.take pos)).1.length (strs (spF 32 (s.data.toList.take pos)).1)) ∧ Hid ((spF 32 (s.data.toList.take pos)).2 = (s.data.toList.take pos).drop f0) ∧ Hid (Below w.heap.size w wr)) (fun _ _ wr => s.size - wr.iterPos w.heap.size)
  case atStart =>
    refine ⟨0, 0, rfl, Nat.zero_le _, Nat.le_refl _, ?_, ⟨rfl, .inl ⟨rfl, rfl⟩⟩, rfl, bA0 _ _⟩
    have := World.iter_heap w s 0
    simpa using this
  case round =>
    obtain ⟨pos, f0, rfl, hpos, hf, hit, H1, HC, H2⟩ := hrel
    have hsz : w.heap.size < wr.heap.size := (Array.getElem?_eq_some_iff.1 hit).1
    have hf0 : (0 : Int) ≤ (f0 : Int) := by omega
    have hfk : (f0 : Int) ≤ (pos : Int) := by omega
    have hp0 : (0 : Int) ≤ (pos : Int) := by omega
    have LE : (spF 32 (s.data.toList.take pos)).1.length ≤ 1048576 := Nat.le_trans (spl_len 32 _) (by simp; omega)
    by_cases hp : pos < s.size
    · have hnx : ∀ ty, (Instr.next (.pointer (some ⟨w.heap.size, 0, none⟩)) true ty).run Tryd.prog wr = _ := fun ty => Lib.run_next_any_at wr w.heap.size s pos ty hit hp
      have hwd := width_pos s pos hp
      have hwl := width_le s pos hp
      have hit2 := Lib.iterAt_heap wr w.heap.size s pos (pos + (Utf8.decode s pos).2) hit
      have hbw2 := Lib.below_iterAt H2.out (k := w.heap.size) (by omega) s (pos + (Utf8.decode s pos).2)
      have hru := rune_is s pos hp
      have R1 := Lib.hid (own_frame H1.out (w' := wr.iterAt w.heap.size s (pos + (Utf8.decode s pos).2)) (fun c hc => Lib.iterAt_other wr w.heap.size c s _ (by omega)))
      have BO := Lib.hid (blank_one s pos hp)
      have SR := Lib.hid (sp_rune s pos hp)
      have hpi : (pos : Int) ≤ (s.size : Int) := by omega
      have HX : Hid (wr.iterPos w.heap.size = pos) := by show wr.iterPos w.heap.size = pos; unfold World.iterPos; rw [hit]
      have TS := Lib.hid (take_snoc s pos hp)
      have hWs : w.heap.size < (wr.iterAt w.heap.size s (pos + (Utf8.decode s pos).2)).heap.size := (Array.getElem?_eq_some_iff.1 hit2).1
      generalize hW : wr.iterAt w.heap.size s (pos + (Utf8.decode s pos).2) = W at *
      generalize (Utf8.decode s pos).2 = width at *
      generalize ((Utf8.decode s pos).1 : Int) = ru at *
      clear hW H1
      by_cases hx : s[pos] = 32
      · have hr : (ru == 32) = true := by rw [hru, hx]; rfl
        have w1 := BO.out hx
        subst w1
        have SE : Hid (spF 32 (s.data.toList.take (pos + 1)) = ((spF 32 (s.data.toList.take pos)).1 ++ [(s.data.toList.take pos).drop f0], [])) := by
          show spF 32 (s.data.toList.take (pos + 1)) = _
          rw [TS.out, spF_snoc, hx]
          unfold spS
          rw [if_pos rfl, HC.out]
        have DE : Hid ((s.data.toList.take (pos + 1)).drop (pos + 1) = []) := by
          show (s.data.toList.take (pos + 1)).drop (pos + 1) = []
          exact List.drop_of_length_le (by simp; omega)
        have EX := Lib.hid (ext_mid s f0 pos hpos hf)
        have EV : Hid (strs (spF 32 (s.data.toList.take pos)).1 ++ [.string (s.extract f0 pos)] = strs ((spF 32 (s.data.toList.take pos)).1 ++ [(s.data.toList.take pos).drop f0])) := by
          show _ = _
          rw [EX.out]
          simp [strs, strV]
        clear hru BO SR TS
        go_wp2_with (first | (at_builtin; refine wpList_append_lies _ rfl (.tmp 15) (.tmp 20) 32 rfl (w.heap.size + 1) 9 i0 (.string ⟨#[]⟩) 1 16 Tryd.underlying32 hi0 hz0 hz1 hz2 rfl (by decide) _ _ _ rfl (R1.out.alloc _) ⟨W.heap.size, 0, none⟩ 1 1 [.string (s.extract f0 pos)] rfl rfl (cell_one_new _ _ _) (by intro u hu; simp at hu; subst hu; rfl) (by decide) (by unfold maxLen; omega) (by omega) (by simp; omega) (W.heap.size + 1) (by simp) ?_))
        intro g9 cap9 w9 own9 grow9 hg9 hlt9
        have B9 := Lib.hid ((bA hbw2 (.cells #[.string (s.extract f0 pos)] 9)).grown grow9 (by simp; omega) (fun j hj => by have := (R1.out.lt j hj).1; omega))
        have J9 := Lib.hid (((bA0 W (.cells #[.string (s.extract f0 pos)] 9)).mono (show w.heap.size + 1 ≤ W.heap.size by omega)).grown grow9 (by simp; omega) (fun j hj => (R1.out.lt j hj).1))
        have I9 := Lib.hid ((J9.out.block w.heap.size (by omega)).trans hit2)
        rw [EV.out] at own9
        have N9 := Lib.hid (show w9.ownsRow (w.heap.size + 1) 9 1 _ (spF 32 (s.data.toList.take (pos + 1))).1.length (strs (spF 32 (s.data.toList.take (pos + 1))).1) by rw [SE.out]; dsimp only; rw [List.length_append]; exact own9)
        have C9 := Lib.hid (show (spF 32 (s.data.toList.take (pos + 1))).2 = (s.data.toList.take (pos + 1)).drop (pos + 1) by rw [SE.out, DE.out])
        have M9 : Hid (w9.iterPos w.heap.size = pos + 1) := by show w9.iterPos w.heap.size = pos + 1; unfold World.iterPos; rw [I9.out]
        clear own9 grow9 hg9 hlt9 EV SE DE EX HC LE J9 R1 hit2 hbw2 hnx
        go_wp2
        go_roundw
        case rel => exact ⟨pos + 1, pos + 1, by go_num, by omega, by omega, I9.out, N9, C9, B9⟩
        case measure => rw [HX.out, M9.out]; omega
      · have hr : (ru == 32) = false := by rw [hru]; simpa using hx
        have SE := Lib.hid (SR.out hx)
        have N9 := Lib.hid (show W.ownsRow (w.heap.size + 1) 9 1 _ (spF 32 (s.data.toList.take (pos + width))).1.length (strs (spF 32 (s.data.toList.take (pos + width))).1) by rw [SE.out]; exact R1.out)
        have C9 := Lib.hid (show (spF 32 (s.data.toList.take (pos + width))).2 = (s.data.toList.take (pos + width)).drop f0 by
          rw [SE.out]
          dsimp only
          rw [HC.out]
          have e1 : s.data.toList.take (pos + width) = s.data.toList.take pos ++ (s.data.toList.take (pos + width)).drop pos := by
            have := (List.take_append_drop pos (s.data.toList.take (pos + width))).symm
            rwa [List.take_take, Nat.min_eq_left (by omega)] at this
          conv => rhs; rw [e1]
          rw [List.drop_append_of_le_length (by simp; omega)])
        have M9 : Hid (W.iterPos w.heap.size = pos + width) := by show W.iterPos w.heap.size = pos + width; unfold World.iterPos; rw [hit2]
        have B9 := Lib.hid hbw2
        have I9 := Lib.hid hit2
        clear SE TS HC LE SR BO hru R1 hit2 hbw2
        go_wp2
        go_roundw
        case rel => exact ⟨pos + width, f0, rfl, by omega, by omega, I9.out, N9, C9, B9⟩
        case measure => rw [HX.out, M9.out]; omega
    · have hnx : ∀ ty, (Instr.next (.pointer (some ⟨w.heap.size, 0, none⟩)) true ty).run Tryd.prog wr = _ := fun ty => Lib.run_next_end_at wr w.heap.size s pos ty hit hp
      have e : pos = s.size := by omega
      subst e
      have TK : s.data.toList.take s.size = s.data.toList := List.take_of_length_le (by simp)
      rw [TK] at H1 HC LE
      have EX := Lib.hid (ext_end s f0 hf)
      have EV : Hid (strs (spF 32 s.data.toList).1 ++ [.string (s.extract f0 s.size)] = strs (splitL 32 s.data.toList)) := by
        show _ = _
        unfold splitL
        rw [HC.out, EX.out]
        simp [strs, strV]
      have EL : Hid ((splitL 32 s.data.toList).length = (spF 32 s.data.toList).1.length + 1) := by
        show (splitL 32 s.data.toList).length = _
        unfold splitL
        simp
      have R1 := Lib.hid H1.out
      clear TK H1
      go_wp2_with (first | (at_builtin; refine wpList_append_lies _ rfl (.tmp 24) (.tmp 28) 32 rfl (w.heap.size + 1) 9 i0 (.string ⟨#[]⟩) 1 16 Tryd.underlying32 hi0 hz0 hz1 hz2 rfl (by decide) _ _ _ rfl (R1.out.alloc _) ⟨wr.heap.size, 0, none⟩ 1 1 [.string (s.extract f0 s.size)] rfl rfl (cell_one_new _ _ _) (by intro u hu; simp at hu; subst hu; rfl) (by decide) (by unfold maxLen; omega) (by omega) (by simp; omega) (wr.heap.size + 1) (by simp) ?_))
      intro g9 cap9 w9 own9 grow9 hg9 hlt9
      have B9 := Lib.hid ((bA H2.out (.cells #[.string (s.extract f0 s.size)] 9)).grown grow9 (by simp; omega) (fun j hj => by have := (R1.out.lt j hj).1; omega))
      rw [EV.out] at own9
      have N9 := Lib.hid own9
      clear own9 grow9 hg9 hlt9 EV EX R1 HC LE
      go_wp2
      go_ret
      exact ⟨_, rfl, by rw [EL.out]; exact own_mono N9.out (by omega), B9.out⟩

end Go.Proofs.YtdndhhkpbcpalaaDoor
