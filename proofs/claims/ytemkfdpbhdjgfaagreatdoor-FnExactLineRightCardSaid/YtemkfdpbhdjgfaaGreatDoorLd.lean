/-
  A TEXT SPLIT, AS THE MODEL DOES: l01Split.
-/
import Derived.Test.YtemkfdpbhdjgfaaGreatDoorLc
namespace Go.Proofs.YtemkfdpbhdjgfaaGreatDoor
open Go.RowKit
set_option linter.unusedVariables false

/-- Texts as values. -/
def strV (l : List UInt8) : Value := .string ⟨l.toArray⟩
def strs (ls : List (List UInt8)) : List Value := ls.map strV
theorem strs_len (ls : List (List UInt8)) : (strs ls).length = ls.length := by simp [strs]
theorem infoStr : (Tryz.prog.info? 9).map (fun i => (i.zero, i.size, i.bytes)) = some (some (.string ⟨#[]⟩), 1, 16) := by kernel_rfl
theorem own_strs0 (w : World) : (w.alloc (.cells #[] 9)).ownsRow w.heap.size 9 1 (.slice (some ⟨w.heap.size, 0, none⟩) 0 0) 0 (strs []) :=
  ⟨rfl, .inr ⟨w.heap.size, 0, #[], rfl, Nat.le_refl _, by show (w.heap.push _)[w.heap.size]? = _; simp, Nat.le_refl _, Nat.zero_le _, rfl, rfl⟩⟩
theorem ba_of (s : ByteArray) (l : List UInt8) (h : s.data.toList = l) : s = ⟨l.toArray⟩ := by
  apply ByteArray.ext
  simp [← h]
theorem ext_mid (s : ByteArray) (f k : Nat) (hk : k ≤ s.size) (hf : f ≤ k) : s.extract f k = ⟨((s.data.toList.take k).drop f).toArray⟩ := by
  apply ba_of
  rw [Lib.extract_data]
  rw [List.drop_take]
theorem ext_end (s : ByteArray) (f : Nat) (hf : f ≤ s.size) : s.extract f s.size = ⟨(s.data.toList.drop f).toArray⟩ := by
  rw [ext_mid s f s.size (Nat.le_refl _) hf, List.take_of_length_le (by simp)]
theorem spl_len (c : UInt8) (t : List UInt8) : (spF c t).1.length ≤ t.length := by
  have := split_len c t
  unfold splitL at this
  rw [List.length_append] at this
  simp only [List.length_singleton] at this
  omega

set_option maxRecDepth 100000 in
set_option maxHeartbeats 4000000 in
/-- spec.l01Split. -/
theorem spl_any (s : ByteArray) (c : UInt8) (w : World) (hs : s.size ≤ 1048576) :
    Calls Tryz.prog 6 #[.string s, .int .u8 (c.toNat : Int)] w fun e w' => ∃ v, e = .returned v ∧ w'.ownsRow w.heap.size 9 1 v (splitL c s.data.toList).length (strs (splitL c s.data.toList)) ∧ Below w.heap.size w w' := by
  obtain ⟨i0, hi0, hz0, hz1, hz2⟩ := info_parts infoStr
  go_enter Tryz.func6, Tryz.ntmps6
  go_wp2
  go_loopw [5, 6, 7] (fun v f i wr => ∃ k f0 : Nat, i = .int .i64 k ∧ f = .int .i64 f0 ∧ k ≤ s.size ∧ f0 ≤ k ∧ Hid (wr.ownsRow w.heap.size 9 1 v (spF c (s.data.toList.take k)).1.length (strs (spF c (s.data.toList.take k)).1)) ∧ Hid ((spF c (s.data.toList.take k)).2 = (s.data.toList.take k).drop f0) ∧ Hid (Below w.heap.size w wr)) (fun _ _ i _ => s.size - (intOf i).toNat)
  case atStart => exact ⟨0, 0, rfl, rfl, Nat.zero_le _, Nat.le_refl _, own_strs0 w, rfl, bA0 _ _⟩
  case round =>
    obtain ⟨k, f0, rfl, rfl, hk, hf, H1, HC, H2⟩ := hrel
    have hk0 : (0 : Int) ≤ (k : Int) := by omega
    have hf0 : (0 : Int) ≤ (f0 : Int) := by omega
    have hfk : (f0 : Int) ≤ (k : Int) := by omega
    have LE : (spF c (s.data.toList.take k)).1.length ≤ 1048576 := Nat.le_trans (spl_len c _) (by simp; omega)
    have hs2 := H2.out.size
    by_cases h1 : k < s.size
    · have h1' : (k : Int) < (s.size : Int) := by omega
      have TS := Lib.hid (take_snoc s k h1)
      by_cases hx : s[k] = c
      · have hx' : ((s[k].toNat : Int) == (c.toNat : Int)) = true := by rw [hx]; simp
        have SE : Hid (spF c (s.data.toList.take (k + 1)) = ((spF c (s.data.toList.take k)).1 ++ [(s.data.toList.take k).drop f0], [])) := by
          show spF c (s.data.toList.take (k + 1)) = _
          rw [TS.out, spF_snoc, hx]
          unfold spS
          rw [if_pos rfl, HC.out]
        have DE : Hid ((s.data.toList.take (k + 1)).drop (k + 1) = []) := by
          show (s.data.toList.take (k + 1)).drop (k + 1) = []
          exact List.drop_of_length_le (by simp; omega)
        have EX := Lib.hid (ext_mid s f0 k hk hf)
        have EV : Hid (strs (spF c (s.data.toList.take k)).1 ++ [.string (s.extract f0 k)] = strs ((spF c (s.data.toList.take k)).1 ++ [(s.data.toList.take k).drop f0])) := by
          show _ = _
          rw [EX.out]
          simp [strs, strV]
        go_wp2_with (first | (at_builtin; refine wpList_append_lies _ rfl (.tmp 20) (.tmp 25) 23 rfl w.heap.size 9 i0 (.string ⟨#[]⟩) 1 16 Tryz.underlying23 hi0 hz0 hz1 hz2 rfl (by decide) _ _ _ rfl (H1.out.alloc _) ⟨wr.heap.size, 0, none⟩ 1 1 [.string (s.extract f0 k)] rfl rfl (cell_one_new _ _ _) (by intro u hu; simp at hu; subst hu; rfl) (by decide) (by unfold maxLen; omega) (by omega) (by simp; omega) (wr.heap.size + 1) (by simp) ?_))
        intro g9 cap9 w9 own9 grow9 hg9 hlt9
        have B9 := Lib.hid ((bA H2.out (.cells #[.string (s.extract f0 k)] 9)).grown grow9 (by simp; omega) (fun j hj => (H1.out.lt j hj).1))
        rw [EV.out] at own9
        have N9 := Lib.hid (show w9.ownsRow w.heap.size 9 1 _ (spF c (s.data.toList.take (k + 1))).1.length (strs (spF c (s.data.toList.take (k + 1))).1) by rw [SE.out]; dsimp only; rw [List.length_append]; exact own9)
        have C9 := Lib.hid (show (spF c (s.data.toList.take (k + 1))).2 = (s.data.toList.take (k + 1)).drop (k + 1) by rw [SE.out, DE.out])
        clear own9 grow9 hg9 hlt9 EV SE DE EX TS H1 HC LE
        go_wp2
        go_roundw
        case rel => exact ⟨k + 1, k + 1, by go_num, by go_num, by omega, by omega, N9, C9, B9⟩
        case measure => simp [intOf]; omega
      · have hx' : ((s[k].toNat : Int) == (c.toNat : Int)) = false := by
          have : ¬ (s[k].toNat : Int) = (c.toNat : Int) := fun e => hx (UInt8.toNat_inj.1 (by omega))
          simpa using this
        have SE : Hid (spF c (s.data.toList.take (k + 1)) = ((spF c (s.data.toList.take k)).1, (spF c (s.data.toList.take k)).2 ++ [s[k]])) := by
          show spF c (s.data.toList.take (k + 1)) = _
          rw [TS.out, spF_snoc]
          unfold spS
          rw [if_neg hx]
        have N9 := Lib.hid (show wr.ownsRow w.heap.size 9 1 _ (spF c (s.data.toList.take (k + 1))).1.length (strs (spF c (s.data.toList.take (k + 1))).1) by rw [SE.out]; exact H1.out)
        have C9 := Lib.hid (show (spF c (s.data.toList.take (k + 1))).2 = (s.data.toList.take (k + 1)).drop f0 by
          rw [SE.out]
          dsimp only
          rw [HC.out, TS.out, List.drop_append_of_le_length (by simp; omega)])
        clear SE TS H1 HC LE
        go_wp2
        go_roundw
        case rel => exact ⟨k + 1, f0, by go_num, by go_num, by omega, by omega, N9, C9, H2⟩
        case measure => simp [intOf]; omega
    · have h1' : ¬ (k : Int) < (s.size : Int) := by omega
      have e : k = s.size := by omega
      subst e
      have TK : s.data.toList.take s.size = s.data.toList := List.take_of_length_le (by simp)
      rw [TK] at H1 HC LE
      have EX := Lib.hid (ext_end s f0 hf)
      have EV : Hid (strs (spF c s.data.toList).1 ++ [.string (s.extract f0 s.size)] = strs (splitL c s.data.toList)) := by
        show _ = _
        unfold splitL
        rw [HC.out, EX.out]
        simp [strs, strV]
      have EL : Hid ((splitL c s.data.toList).length = (spF c s.data.toList).1.length + 1) := by
        show (splitL c s.data.toList).length = _
        unfold splitL
        simp
      clear TK
      go_wp2_with (first | (at_builtin; refine wpList_append_lies _ rfl (.tmp 29) (.tmp 33) 23 rfl w.heap.size 9 i0 (.string ⟨#[]⟩) 1 16 Tryz.underlying23 hi0 hz0 hz1 hz2 rfl (by decide) _ _ _ rfl (H1.out.alloc _) ⟨wr.heap.size, 0, none⟩ 1 1 [.string (s.extract f0 s.size)] rfl rfl (cell_one_new _ _ _) (by intro u hu; simp at hu; subst hu; rfl) (by decide) (by unfold maxLen; omega) (by omega) (by simp; omega) (wr.heap.size + 1) (by simp) ?_))
      intro g9 cap9 w9 own9 grow9 hg9 hlt9
      have B9 := Lib.hid ((bA H2.out (.cells #[.string (s.extract f0 s.size)] 9)).grown grow9 (by simp; omega) (fun j hj => (H1.out.lt j hj).1))
      rw [EV.out] at own9
      have N9 := Lib.hid own9
      clear own9 grow9 hg9 hlt9 EV EX H1 HC LE
      go_wp2
      go_ret
      exact ⟨_, rfl, by rw [EL.out]; exact N9.out, B9.out⟩

end Go.Proofs.YtemkfdpbhdjgfaaGreatDoor
