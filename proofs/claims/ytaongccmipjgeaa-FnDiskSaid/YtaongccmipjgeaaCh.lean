/-
  A DISK WRITTEN TO, as the model does it.
-/
import Derived.Test.YtaongccmipjgeaaCg
namespace Go.Proofs.Ytaongccmipjgeaa
open Go.RowKit
set_option linter.unusedVariables false

theorem OwnS.one {w : World} {B : Nat} {v : Value} {ss : List ByteArray} {tx : ByteArray} (h : w.ownsRow B 9 1 v (ss.length + 1) (ss.map Value.string ++ [.string tx])) : OwnS w B v (ss ++ [tx]) := by
  unfold OwnS
  simpa using h
theorem grown_set {w : World} (b i : Nat) (x : Value) : w.grownBy (w.setCell ⟨b, i, none⟩ x) (some b) := by
  refine ⟨rfl, rfl, rfl, by simp [World.setCell], fun k hk hne => ?_⟩
  exact Below.heap_setCell _ _ _ _ (fun e => hne (by rw [e]))
theorem dR_app {s : ByteArray} {ss : List ByteArray} {tx : ByteArray} (h : dR s (ss ++ [tx]) = true) : dR s ss = true ∧ neB tx = true := by
  obtain ⟨h1, h2, h3⟩ := dR_parts h
  rw [tot_app] at h3
  simp only [List.length_append, List.length_singleton] at h1
  rw [List.all_append, Bool.and_eq_true] at h2
  refine ⟨?_, by simpa using h2.2⟩
  simp only [dR, Bool.and_eq_true, decide_eq_true_eq]
  exact ⟨by omega, h2.1, by omega⟩

set_option maxHeartbeats 1000000 in
theorem swrite_big (tx : ByteArray) (s : ByteArray) (sl : Option Addr) (n cap : Nat) (w : World) (ht : 20000 < tx.size) :
    Calls Try.prog 20 #[DV s sl n cap, .string tx] w fun e w' => CopPost ⟨#[]⟩ [] w e w' := by
  have ht' : (20000 : Int) < (tx.size : Int) := by omega
  go_enter Try.func20, Try.ntmps20
  go_wp2
  exact bodyPost_ret (v := DV ⟨#[]⟩ none 0 0) (by simp [results, Try.results20, go_sem]) rfl ⟨_, rfl, OwnS.nil _ _, by first | exact bA (bA0 _ _) _ | exact ((bA (bA0 _ _) _).setCell (by simp <;> omega) _).setCell (by simp <;> omega) _⟩

set_option maxHeartbeats 1000000 in
theorem swrite_no (tx : ByteArray) (s : ByteArray) (sl : Option Addr) (cap : Nat) (ss : List ByteArray) (w : World) (ht : tx.size ≤ 20000) (hn : ss.length ≤ 1048577) (hz : Strs w sl ss) (h : dR s ss = false ∨ (dR s ss = true ∧ tx.toList.isEmpty = true)) :
    Calls Try.prog 20 #[DV s sl ss.length cap, .string tx] w fun e w' => CopPost s ss w e w' := by
  have ht' : ¬ (20000 : Int) < (tx.size : Int) := by omega
  have R : Hid (∀ w1, Below w.heap.size w w1 → Calls Try.prog 11 #[DV s sl ss.length cap] w1 fun e w' => e = .returned (.bool (dR s ss)) ∧ Below w1.heap.size w1 w') := fun w1 hb => sdr_any s sl cap ss w1 (hz.below hb)
  have C : Hid (∀ w1, Below w.heap.size w w1 → Calls Try.prog 42 #[DV s sl ss.length cap] w1 fun e w' => CopPost s ss w1 e w') := fun w1 hb => scopy_any s sl cap ss w1 hn (hz.below hb)
  have T0 := Two.start w s (.slice sl ss.length cap)
  clear hz hn
  generalize hN : ss.length = n at *
  have HN := Lib.hid hN
  clear hN
  generalize dR s ss = r at *
  rcases h with rfl | ⟨rfl, hE⟩
  all_goals
    go_enter Try.func20, Try.ntmps20
    go_wp2_with fail
    refine (C.out _ T0.bel).mono ?_
    rintro e w1 ⟨v1, rfl, o1, b1⟩
    obtain ⟨sl1, c1', rfl, -⟩ := o1.strs
    rw [HN.out] at o1 ⊢
    have T1 := Lib.hid ((T0.below b1).below (bA0 _ (.cells #[.string s, .slice sl1 n c1'] 25)))
    have O1 := Lib.hid (o1.below (bA0 _ (.cells #[.string s, .slice sl1 n c1'] 25)))
    have D1 := Lib.hid (DAt.new 25 w1 s (.slice sl1 n c1'))
    clear b1 o1 T0
    obtain ⟨c0, c1, c2, c3, cf, cl⟩ := T1.out.facts
    go_wp2_with fail
    refine (R.out _ T1.out.bel).mono ?_
    rintro e w2 ⟨rfl, b2⟩
    have T2 := Lib.hid (T1.out.below b2)
    have O2 := Lib.hid (O1.out.below b2)
    have D2 := Lib.hid (D1.out.below b2)
    clear b2 c0 c1 c2 c3 cf cl T1 O1 D1
    obtain ⟨c0, c1, c2, c3, cf, cl⟩ := T2.out.facts
    obtain ⟨d0, d1⟩ := D2.out.cells
    obtain ⟨q0, q1, qf⟩ := T2.out.end s (.slice sl1 n c1')
    have QF := Lib.hid qf
    clear qf
    go_wp2
    exact bodyPost_ret (v := .agg #[.string s, .slice sl1 n c1']) (by simp [results, Try.results20, go_sem, q0, q1]) rfl (QF.out _ _ O2.out (by simp))

set_option maxHeartbeats 2000000 in
theorem swrite_yes (tx : ByteArray) (s : ByteArray) (sl : Option Addr) (cap : Nat) (ss : List ByteArray) (w : World) (ht : tx.size ≤ 20000) (hn : ss.length ≤ 1048576) (hz : Strs w sl ss) (h : dR s ss = true) (hE : tx.toList.isEmpty = false) :
    Calls Try.prog 20 #[DV s sl ss.length cap, .string tx] w fun e w' => CopPost s (if dR s (ss ++ [tx]) then ss ++ [tx] else ss) w e w' := by
  have ht' : ¬ (20000 : Int) < (tx.size : Int) := by omega
  generalize hrl : (if dR s (ss ++ [tx]) then ss ++ [tx] else ss) = rl
  have HRL := Lib.hid hrl
  clear hrl
  obtain ⟨i9, hi, hi0, hi1, hi2⟩ := info_parts info9'
  have R : Hid (∀ w1, Below w.heap.size w w1 → Calls Try.prog 11 #[DV s sl ss.length cap] w1 fun e w' => e = .returned (.bool true) ∧ Below w1.heap.size w1 w') := fun w1 hb => by
    have := sdr_any s sl cap ss w1 (hz.below hb); rwa [h] at this
  have R2 : Hid (∀ w1 a c B, OwnS w1 B (.slice a (ss.length + 1) c) (ss ++ [tx]) → Calls Try.prog 11 #[DV s a (ss.length + 1) c] w1 fun e w' => e = .returned (.bool (dR s (ss ++ [tx]))) ∧ Below w1.heap.size w1 w') := fun w1 a c B ho => by
    have := sdr_any s a c (ss ++ [tx]) w1 ho.str
    rwa [show (ss ++ [tx]).length = ss.length + 1 by simp] at this
  have C : Hid (∀ w1, Below w.heap.size w w1 → Calls Try.prog 42 #[DV s sl ss.length cap] w1 fun e w' => CopPost s ss w1 e w') := fun w1 hb => scopy_any s sl cap ss w1 (by omega) (hz.below hb)
  have T0 := Two.start w s (.slice sl ss.length cap)
  clear hz h
  generalize hN : ss.length = n at *
  have HN := Lib.hid hN
  clear hN
  go_enter Try.func20, Try.ntmps20
  go_wp2_with fail
  refine (C.out _ T0.bel).mono ?_
  rintro e w1 ⟨v1, rfl, o1, b1⟩
  obtain ⟨sl1, c1', rfl, -⟩ := o1.strs
  rw [HN.out] at o1 ⊢
  have T1 := Lib.hid ((T0.below b1).below (bA0 _ (.cells #[.string s, .slice sl1 n c1'] 25)))
  have O1 : Hid (OwnS (w1.alloc (.cells #[.string s, .slice sl1 n c1'] 25)) (w.heap.size + 1 + 1) (.slice sl1 n c1') ss) := (o1.below (bA0 _ _)).mono (by simp)
  have D1 := Lib.hid (DAt.new 25 w1 s (.slice sl1 n c1'))
  have S1 : Hid (∀ k, Value.ownBlock (.slice sl1 n c1') = some k → w.heap.size + 1 + 1 ≤ k ∧ k < w1.heap.size) := fun k hk => by have := o1.lt hk; simp at this; exact this
  have L1 : w.heap.size + 1 < w1.heap.size := by have := b1.size; simp at this; omega
  clear b1 o1 T0
  obtain ⟨c0, c1, c2, c3, cf, cl⟩ := T1.out.facts
  go_wp2_with fail
  refine (R.out _ T1.out.bel).mono ?_
  rintro e w2 ⟨rfl, b2⟩
  have T2 := Lib.hid (T1.out.below b2)
  have O2 := Lib.hid (O1.out.below b2)
  have D2 := Lib.hid (D1.out.below b2)
  clear b2 c0 c1 c2 c3 cf cl T1 O1 D1
  obtain ⟨c0, c1, c2, c3, cf, cl⟩ := T2.out.facts
  obtain ⟨d0, d1⟩ := D2.out.cells
  have df := D2.out.frozen
  have dl := D2.out.lt
  have hw2 : w.heap.size + 1 + 1 ≤ w2.heap.size := by omega
  have OA : Hid ((w2.alloc (.cells #[.string tx] 9)).ownsRow (w.heap.size + 1 + 1) 9 1 (.slice sl1 n c1') n (ss.map Value.string)) := by
    have := O2.out.below (bA0 _ (.cells #[.string tx] 9))
    unfold OwnS at this
    rwa [HN.out] at this
  generalize hbo : w1.heap.size = bo at *
  clear hbo
  go_wp2_with (first | (at_builtin; refine wpList_append_lies _ rfl (.tmp 21) (.tmp 23) 23 rfl (w.heap.size + 1 + 1) 9 i9 (.string ⟨#[]⟩) 1 16 Try.underlying23 hi hi0 hi1 hi2 rfl (by decide) _ _ _ rfl OA.out ⟨w2.heap.size, 0, none⟩ 1 1 [.string tx] rfl rfl (cell_one_new _ _ _) (by intro u hu; simp at hu; subst hu; rfl) (by decide) (by unfold maxLen; omega) (by omega) (by simp; omega) (w2.heap.size + 1) (by simp) ?_))
  intro g3 cap3 w3 own3 grow3 hg3 _
  have O3 : Hid (OwnS w3 (w.heap.size + 1 + 1) (.slice (some ⟨g3, 0, none⟩) (n + 1) cap3) (ss ++ [tx])) := OwnS.one (by rw [HN.out]; exact own3)
  have T3 : Hid (Two w s (.slice sl n cap) w3) := ⟨(T2.out.box.below (bA0 _ _)).grown grow3 (fun e => by have := S1.out _ e; omega), (T2.out.res.below (bA0 _ _)).grown grow3 (fun e => by have := S1.out _ e; omega), (bA T2.out.bel _).grown grow3 (by simp; omega) (fun k hk => by have := S1.out k hk; omega)⟩
  have D3 := Lib.hid ((D2.out.below (bA0 _ (.cells #[.string tx] 9))).grown grow3 (fun e => by have := S1.out _ e; omega))
  have hne : g3 ≠ bo := by
    rcases hg3 with e | e
    · have := S1.out _ e; omega
    · omega
  clear own3 grow3 T2 O2 D2 OA c0 c1 c2 c3 cf cl d0 d1 df hg3
  have D4 : Hid (DAt 25 (w3.setCell ⟨bo, 1, none⟩ (.slice (some ⟨g3, 0, none⟩) (n + 1) cap3)) bo s (.slice (some ⟨g3, 0, none⟩) (n + 1) cap3)) := heap_setCell_same _ bo 1 _ 25 _ D3.out
  have T4 : Hid (Two w s (.slice sl n cap) (w3.setCell ⟨bo, 1, none⟩ (.slice (some ⟨g3, 0, none⟩) (n + 1) cap3))) := ⟨T3.out.box.other (by omega) _ _, T3.out.res.other (by omega) _ _, T3.out.bel.setCell (by show _ ≤ bo; omega) _⟩
  have O4 : Hid (OwnS (w3.setCell ⟨bo, 1, none⟩ (.slice (some ⟨g3, 0, none⟩) (n + 1) cap3)) (w.heap.size + 1 + 1) (.slice (some ⟨g3, 0, none⟩) (n + 1) cap3) (ss ++ [tx])) := O3.out.grown (grown_set _ _ _) (fun k hk e => by cases hk; simp [Value.ownBlock] at e; omega)
  obtain ⟨d0, d1⟩ := D3.out.cells
  have df := D3.out.frozen
  obtain ⟨e0, e1⟩ := D4.out.cells
  go_wp2_with fail
  refine (R2.out _ _ _ _ O4.out).mono ?_
  rintro e w5 ⟨rfl, b5⟩
  have T5 := Lib.hid (T4.out.below b5)
  have O5 := Lib.hid (O4.out.below b5)
  have D5 := Lib.hid (D4.out.below b5)
  clear b5 T4 O4 D4 T3 O3 D3 d0 d1 df e0 e1
  obtain ⟨c0, c1, c2, c3, cf, cl⟩ := T5.out.facts
  obtain ⟨d0, d1⟩ := D5.out.cells
  cases hr : dR s (ss ++ [tx])
  · have ER : Hid (rl = ss) := by show _ = _; rw [← HRL.out, hr]; simp
    clear hr
    go_wp2_with fail
    refine (C.out _ T5.out.bel).mono ?_
    rintro e w6 ⟨v6, rfl, o6, b6⟩
    obtain ⟨sl6, c6', rfl, -⟩ := o6.strs
    rw [HN.out] at o6 ⊢
    have T6 := Lib.hid (T5.out.below b6)
    have O6 := Lib.hid o6
    clear b6 o6 c0 c1 c2 c3 cf
    obtain ⟨c0, c1, c2, c3, cf, cl6⟩ := T6.out.facts
    obtain ⟨q0, q1, qf⟩ := T6.out.end s (.slice sl6 n c6')
    have QF : Hid (CopPost s rl w (.returned (.agg #[.string s, .slice sl6 n c6'])) ((w6.setCell ⟨w.heap.size + 1, 0, none⟩ (.string s)).setCell ⟨w.heap.size + 1, 1, none⟩ (.slice sl6 n c6'))) := by
      show CopPost _ _ _ _ _
      rw [ER.out]
      exact qf _ _ O6.out (by omega)
    clear qf
    go_wp2
    exact bodyPost_ret (v := .agg #[.string s, .slice sl6 n c6']) (by simp [results, Try.results20, go_sem, q0, q1]) rfl QF.out
  · have ER : Hid (rl = ss ++ [tx]) := by show _ = _; rw [← HRL.out, hr]; simp
    clear hr
    obtain ⟨q0, q1, qf⟩ := T5.out.end s (.slice (some ⟨g3, 0, none⟩) (n + 1) cap3)
    have QF : Hid (CopPost s rl w (.returned (.agg #[.string s, .slice (some ⟨g3, 0, none⟩) (n + 1) cap3])) ((w5.setCell ⟨w.heap.size + 1, 0, none⟩ (.string s)).setCell ⟨w.heap.size + 1, 1, none⟩ (.slice (some ⟨g3, 0, none⟩) (n + 1) cap3))) := by
      show CopPost _ _ _ _ _
      rw [ER.out]
      exact qf _ _ O5.out (by omega)
    clear qf
    go_wp2
    exact bodyPost_ret (v := .agg #[.string s, .slice (some ⟨g3, 0, none⟩) (n + 1) cap3]) (by simp [results, Try.results20, go_sem, q0, q1]) rfl QF.out

theorem swrite_any (tx : ByteArray) (s : ByteArray) (sl : Option Addr) (cap : Nat) (ss : List ByteArray) (w : World) (ht : tx.size ≤ 20000) (hn : ss.length ≤ 1048576) (hz : Strs w sl ss) :
    Calls Try.prog 20 #[DV s sl ss.length cap, .string tx] w fun e w' => CopPost s (if dR s (ss ++ [tx]) then ss ++ [tx] else ss) w e w' := by
  have no : (dR s ss = false ∨ (dR s ss = true ∧ tx.toList.isEmpty = true)) → dR s (ss ++ [tx]) = false := fun h => by
    cases hd : dR s (ss ++ [tx])
    · rfl
    · obtain ⟨h1, h2⟩ := dR_app hd
      rcases h with h | ⟨_, h⟩
      · rw [h1] at h; cases h
      · rw [neB, h] at h2; cases h2
  cases hr : dR s ss
  · have := swrite_no tx s sl cap ss w ht (by omega) hz (.inl hr)
    rw [no (.inl hr)]; simpa using this
  · cases hE : tx.toList.isEmpty
    · exact swrite_yes tx s sl cap ss w ht hn hz hr hE
    · have := swrite_no tx s sl cap ss w ht (by omega) hz (.inr ⟨hr, hE⟩)
      rw [no (.inr ⟨hr, hE⟩)]; simpa using this

end Go.Proofs.Ytaongccmipjgeaa
