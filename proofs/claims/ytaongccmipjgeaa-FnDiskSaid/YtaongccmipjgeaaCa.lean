/-
  A DISK COPIED: both sides.
-/
import Derived.Test.YtaongccmipjgeaaMa
import Derived.Deep.AppendLies
import Derived.Deep.AppendSrc
import Derived.Deep.RegionLaw
namespace Go.Proofs.Ytaongccmipjgeaa
open Go.RowKit
set_option linter.unusedVariables false

theorem info9' : (Try.prog.info? 9).map (fun i => (i.zero, i.size, i.bytes)) = some (some (.string ⟨#[]⟩), 1, 16) := by kernel_rfl
theorem size9 : (Try.prog.info? 9).map (·.size) = some 1 := by kernel_rfl

theorem DAt.set2 {t : TypeId} {w : World} {b : Nat} {s : ByteArray} {v : Value} (h : DAt t w b s v) (s' : ByteArray) (v' : Value) : DAt t ((w.setCell ⟨b, 0, none⟩ (.string s')).setCell ⟨b, 1, none⟩ v') b s' v' :=
  heap_setCell_same _ b 1 _ t _ (heap_setCell_same w b 0 _ t _ h)

/-- Texts appended to an empty list of the call's own. -/
theorem run_append_strs {w : World} (ty : TypeId) (B b : Nat) (hown : OwnS w B (.slice (some ⟨b, 0, none⟩) 0 0) []) (sl : Option Addr) (c : Nat) (ss : List ByteArray) (hz : Strs w sl ss) (hn : ss.length ≤ 1048577) (hbase : B ≤ w.heap.size) :
    ∃ v' w', (Builtin.append_ #[23, 23] ty #[.slice (some ⟨b, 0, none⟩) 0 0, .slice sl ss.length c]).run Try.prog w = .ok v' w' ∧ OwnS w' B v' ss ∧ w.grownBy w' (some b) := by
  obtain ⟨i9, hi, h0, h1, h2⟩ := info_parts info9'
  by_cases he : ss = []
  · subst he
    have S : Src Try.prog i9.size 23 (.slice sl 0 c) 0 [] w := by
      cases sl with
      | none => exact Src.ofNil w Try.underlying23 c
      | some a => exact Src.ofSlice w Try.underlying23 a 0 c [] (by simp) (by simp) (by simp)
    exact ⟨_, _, run_append_room_src (P := Try.prog) w 23 23 ty 9 i9 Try.underlying23 hi b 0 0 0 (.slice sl 0 c) 0 [] S (by omega) (by simp) (by simp), hown, World.grownBy.refl _ _⟩
  · rcases hz with hz | ⟨c0, o, rfl, hz⟩
    · exact absurd hz he
    · have hp : 0 < ss.length := List.length_pos_iff.2 he
      obtain ⟨g, cap, w', hr, h3, h4, -⟩ := run_append_lies (P := Try.prog) w 23 ty B 9 i9 (.string ⟨#[]⟩) 1 16 Try.underlying23 hi h0 h1 h2 rfl (by decide) _ _ _ hown ⟨c0, o, none⟩ ss.length c (ss.map Value.string) (by simp) (fun j u hu => by
        have hj : j < ss.length := by simpa using (List.getElem?_eq_some_iff.1 hu).1
        have ha : (⟨c0, o, none⟩ : Addr).add j = ⟨c0, o + j, none⟩ := by
          unfold Addr.add
          by_cases h : j = 0 <;> simp [h]
        rw [ha, hz.2 j hj, ← hu]
        simp [at0, hj]) (by intro u hu; obtain ⟨x, _, rfl⟩ := List.mem_map.1 hu; rfl) hp (by unfold maxLen; simp; omega) (by simp; omega) hbase _ rfl
      refine ⟨_, w', hr, ?_, h4⟩
      have h5 := h3
      simp only [List.length_nil, Nat.zero_add, List.map_nil, List.nil_append] at h5
      show World.ownsRow _ _ _ _ _ _ _
      simpa using h5
theorem step_append_strs {w : World} {ops : Array Oper} {o : Oper} {a : Act} {K : Act → World → Prop} {Q : Exit → Act → World → Prop} {E : Prop} (hgd : o.guard = none) (s x : Operand)
    (ho : o.op = .call { callee := .builtin .append, args := #[s, x], argTypes := #[23, 23] }) (B b : Nat) (hs : a.eval s = .slice (some ⟨b, 0, none⟩) 0 0) (hown : OwnS w B (.slice (some ⟨b, 0, none⟩) 0 0) [])
    (sl : Option Addr) (c : Nat) (ss : List ByteArray) (n : Nat) (hN : ss.length = n) (hx : a.eval x = .slice sl n c) (hz : Strs w sl ss) (hn : ss.length ≤ 1048577) (hbase : B ≤ w.heap.size)
    (h : ∀ sl' c' w', OwnS w' B (.slice sl' n c') ss → w.grownBy w' (some b) → K (a.put o.dst (.slice sl' n c')) w') :
    if Region.wanted o (yielded ops a.tmps) = true then Oper.wp Try.prog o a w K Q else E := by
  have hw : Region.wanted o (yielded ops a.tmps) = true := by simp [Region.wanted, hgd]
  rw [if_pos hw]
  subst hN
  obtain ⟨v', w', hr, h2, h3⟩ := run_append_strs o.type B b hown sl c ss hz hn hbase
  obtain ⟨sl', c', rfl, -⟩ := h2.strs
  unfold Oper.wp execOp
  simp only [ho, resolve, invoke, builtin, Sem.run_bind, Sem.run_pure, Result.andThen_ok, List.map_toArray, List.map_cons, List.map_nil, hs, hx, hr]
  exact h sl' c' w' h2 h3

def CopPost (s : ByteArray) (ss : List ByteArray) (w : World) (e : Ending) (w' : World) : Prop :=
  ∃ v, e = .returned (.agg #[.string s, v]) ∧ OwnS w' w.heap.size v ss ∧ Below w.heap.size w w'

set_option maxHeartbeats 1000000 in
theorem scopy_any (s : ByteArray) (sl : Option Addr) (cap : Nat) (ss : List ByteArray) (w : World) (hn : ss.length ≤ 1048577) (hz : Strs w sl ss) :
    Calls Try.prog 42 #[DV s sl ss.length cap] w fun e w' => CopPost s ss w e w' := by
  have HZ := Lib.hid hz
  clear hz
  generalize hN : ss.length = n at *
  have HN : Hid (ss.length = n) := hN
  clear hN
  have D0 := (DAt.new 25 w s (.slice sl n cap)).below (bA0 _ (.cells #[.string ⟨#[]⟩, .slice none 0 0] 25))
  have R0 := DAt.new 25 (w.alloc (.cells #[.string s, .slice sl n cap] 25)) ⟨#[]⟩ (.slice none 0 0)
  have B0 : Below w.heap.size w ((w.alloc (.cells #[.string s, .slice sl n cap] 25)).alloc (.cells #[.string ⟨#[]⟩, .slice none 0 0] 25)) := bA (bA0 _ _) _
  have hz2 : ((w.alloc (.cells #[.string s, .slice sl n cap] 25)).alloc (.cells #[.string ⟨#[]⟩, .slice none 0 0] 25)).heap.size = w.heap.size + 1 + 1 := by simp
  have hz1 : (w.alloc (.cells #[.string s, .slice sl n cap] 25)).heap.size = w.heap.size + 1 := by simp
  rw [hz1] at R0
  have own1 : OwnS (((w.alloc (.cells #[.string s, .slice sl n cap] 25)).alloc (.cells #[.string ⟨#[]⟩, .slice none 0 0] 25)).drew.alloc (.cells #[] 9)) (w.heap.size + 1 + 1) (.slice (some ⟨w.heap.size + 1 + 1, 0, none⟩) 0 0) [] := by
    have := World.ownsRow_lit ((w.alloc (.cells #[.string s, .slice sl n cap] 25)).alloc (.cells #[.string ⟨#[]⟩, .slice none 0 0] 25)).drew #[] 0 (base := w.heap.size + 1 + 1) (e := 9) (size := 1) (by simp) (Nat.zero_le _) rfl
    simpa [OwnS] using this
  have OW := Lib.hid own1
  obtain ⟨c0, c1⟩ := D0.cells
  have Dd := Lib.hid D0
  have Rd := Lib.hid R0
  have Bd := Lib.hid B0
  clear own1 D0 R0 B0
  go_enter Try.func42, Try.ntmps42
  go_wp2_with fail
  go_region_law (first | (refine step_append_strs rfl (.tmp 5) (.tmp 7) rfl (w.heap.size + 1 + 1) (w.heap.size + 1 + 1) (by simp [Act.eval]) OW.out sl cap ss n HN.out (by simp [Act.eval]) (HZ.out.below (Bd.out.drew.alloc (by simp; omega) _)) (by rw [HN.out]; omega) (by simp) ?_; intro sl5 c5 w5 o5 g5; have R5 := Lib.hid ((Rd.out.drew.below (bA0 _ _)).grown g5 (by simp)); have D5 := Lib.hid ((Dd.out.drew.below (bA0 _ _)).grown g5 (by simp; omega)); obtain ⟨m0, m1⟩ := D5.out.cells; have O5 := Lib.hid o5; have B5 := Lib.hid ((Bd.out.drew.alloc (by simp; omega) (.cells #[] 9)).grown g5 (by simp; omega) (fun k hk => by cases hk; omega)); obtain ⟨k0, k1⟩ := R5.out.cells; have kf := R5.out.frozen; have kl := R5.out.lt; clear o5 g5))
  all_goals
    obtain ⟨q0, q1⟩ := (R5.out.set2 s (.slice sl5 n c5)).cells
    clear k0 k1 kf m0 m1 c0 c1 Dd Rd Bd OW
    go_wp2
    exact bodyPost_ret (v := DV s sl5 n c5) (by simp [results, Try.results42, go_sem, q0, q1]) rfl ⟨_, rfl, ((O5.out.set (Nat.lt_succ_self _) _ _).set (Nat.lt_succ_self _) _ _).mono (Nat.le_add_right _ 2), (B5.out.setCell (Nat.le_add_right _ 1) _).setCell (Nat.le_add_right _ 1) _⟩

theorem RowAt.of_row {w : World} {b : Nat} {ss : List ByteArray} (h : w.heap[b]? = some (.cells (ss.map Value.string).toArray 9)) : RowAt w b (vsOf ss ss.length) := by
  have e : vsOf ss ss.length = (ss.map Value.string).toArray := by simp [vsOf]
  unfold RowAt
  rw [e]; exact h

set_option maxHeartbeats 1000000 in
theorem icopy_nil (s : ByteArray) (sl : Option Addr) (cap : Nat) (w : World) :
    Calls Try.prog 34 #[DV s sl 0 cap] w fun e w' => CopPost s [] w e w' := by
  go_enter Try.func34, Try.ntmps34
  go_wp2
  exact bodyPost_ret (v := DV s none 0 0) (by simp [results, Try.results34, go_sem]) rfl ⟨_, rfl, OwnS.nil _ _, by first | exact (((bA (bA0 _ _) _).setCell (Nat.le_add_right _ 1) _).setCell (Nat.le_add_right _ 1) _) | exact bA (bA0 _ _) _⟩

set_option maxHeartbeats 1000000 in
theorem icopy_some (s : ByteArray) (c o cap : Nat) (ss : List ByteArray) (w : World) (hn : ss.length ≤ 1048576) (hp : 0 < ss.length) (hz : StrsAt w c o ss) :
    Calls Try.prog 34 #[DV s (some ⟨c, o, none⟩) ss.length cap] w fun e w' => CopPost s ss w e w' := by
  have hmk := makeS ss.length hn
  have hp0 : ((ss.length : Int) == 0) = false := by rw [beq_eq_false_iff_ne]; omega
  have D0 := (DAt.new 25 w s (.slice (some ⟨c, o, none⟩) ss.length cap)).below (bA0 _ (.cells #[.string ⟨#[]⟩, .slice none 0 0] 25))
  have R0 := DAt.new 25 (w.alloc (.cells #[.string s, .slice (some ⟨c, o, none⟩) ss.length cap] 25)) ⟨#[]⟩ (.slice none 0 0)
  have B0 : Below w.heap.size w ((w.alloc (.cells #[.string s, .slice (some ⟨c, o, none⟩) ss.length cap] 25)).alloc (.cells #[.string ⟨#[]⟩, .slice none 0 0] 25)) := bA (bA0 _ _) _
  have hz1 : (w.alloc (.cells #[.string s, .slice (some ⟨c, o, none⟩) ss.length cap] 25)).heap.size = w.heap.size + 1 := by simp
  have hz2 : ((w.alloc (.cells #[.string s, .slice (some ⟨c, o, none⟩) ss.length cap] 25)).alloc (.cells #[.string ⟨#[]⟩, .slice none 0 0] 25)).heap.size = w.heap.size + 1 + 1 := by simp
  rw [hz1] at R0
  generalize hW : (w.alloc (.cells #[.string s, .slice (some ⟨c, o, none⟩) ss.length cap] 25)).alloc (.cells #[.string ⟨#[]⟩, .slice none 0 0] 25) = W at *
  have G0 : (W.alloc (.cells (mkS ss.length) 9)).heap[w.heap.size + 1 + 1]? = some (.cells (mkS ss.length) 9 (0, 0)) := by
    have := heap_alloc_new W (.cells (mkS ss.length) 9)
    rwa [hz2] at this
  have zk : (mkS ss.length).size = ss.length := by rw [mkS_eq, vs_size _ _ (Nat.zero_le _)]
  have hcp := run_copy_row (P := Try.prog) (W.alloc (.cells (mkS ss.length) 9)) 23 23 3 9 (w.heap.size + 1 + 1) 0 ss.length ss.length ⟨c, o, none⟩ ss.length cap (mkS ss.length) 9 (ss.map Value.string) Try.underlying23 size9 G0 (by simp) (fun j u hu => by
      have hj : j < ss.length := by simpa using (List.getElem?_eq_some_iff.1 hu).1
      have ha : (⟨c, o, none⟩ : Addr).add j = ⟨c, o + j, none⟩ := by
        unfold Addr.add
        by_cases h : j = 0 <;> simp [h]
      rw [ha, (hz.below (bA B0 _)).2 j hj, ← hu]
      simp [at0, hj]) (by rw [zk]; simp) (by intro u hu; obtain ⟨x, _, rfl⟩ := List.mem_map.1 hu; rfl)
  have e : (mkS ss.length).toList.take 0 ++ ss.map Value.string ++ (mkS ss.length).toList.drop (0 + (ss.map Value.string).length) = ss.map Value.string := by
    rw [List.drop_of_length_le (by simp [zk])]; simp
  rw [e, List.length_map] at hcp
  have RR := Lib.hid (RowAt.of_row (ss := ss) (setRow_heap (W.alloc (.cells (mkS ss.length) 9)) (w.heap.size + 1 + 1) _ (ss.map Value.string).toArray 9 _ G0))
  have BB : Hid (Below w.heap.size w ((W.alloc (.cells (mkS ss.length) 9)).setRow (w.heap.size + 1 + 1) (ss.map Value.string).toArray)) := below_row (bA B0 _) (by omega) _
  have DD : Hid (DAt 25 ((W.alloc (.cells (mkS ss.length) 9)).setRow (w.heap.size + 1 + 1) (ss.map Value.string).toArray) w.heap.size s (.slice (some ⟨c, o, none⟩) ss.length cap)) := (setRow_other _ _ _ _ (by omega)).trans (D0.below (bA0 _ _))
  have QQ : Hid (DAt 25 ((W.alloc (.cells (mkS ss.length) 9)).setRow (w.heap.size + 1 + 1) (ss.map Value.string).toArray) (w.heap.size + 1) ⟨#[]⟩ (.slice none 0 0)) := (setRow_other _ _ _ _ (by omega)).trans (R0.below (bA0 _ _))
  have OO : Hid (OwnS ((W.alloc (.cells (mkS ss.length) 9)).setRow (w.heap.size + 1 + 1) (ss.map Value.string).toArray) (w.heap.size + 1 + 1) (.slice (some ⟨w.heap.size + 1 + 1, 0, none⟩) ss.length ss.length) ss) := OwnS.row RR.out (Nat.le_refl _) (by unfold maxLen; omega)
  subst hW
  clear e zk G0 hz D0 R0 B0 RR hz1 hz2 hn hp
  generalize (ss.map Value.string).toArray = vs at *
  generalize ss.length = n at *
  generalize hwn : ((World.alloc _ _).setRow (w.heap.size + 1 + 1) vs) = wn at *
  clear hwn
  obtain ⟨c0, c1⟩ := DD.out.cells
  obtain ⟨k0, k1⟩ := QQ.out.cells
  have kf := QQ.out.frozen
  have kl := QQ.out.lt
  obtain ⟨q0, q1⟩ := (QQ.out.set2 s (.slice (some ⟨w.heap.size + 1 + 1, 0, none⟩) n n)).cells
  go_enter Try.func34, Try.ntmps34
  go_wp2
  exact bodyPost_ret (v := DV s (some ⟨w.heap.size + 1 + 1, 0, none⟩) n n) (by simp [results, Try.results34, go_sem, q0, q1]) rfl ⟨_, rfl, ((OO.out.set (Nat.lt_succ_self _) _ _).set (Nat.lt_succ_self _) _ _).mono (Nat.le_add_right _ 2), (BB.out.setCell (Nat.le_add_right _ 1) _).setCell (Nat.le_add_right _ 1) _⟩

theorem icopy_any (s : ByteArray) (sl : Option Addr) (cap : Nat) (ss : List ByteArray) (w : World) (hn : ss.length ≤ 1048576) (hz : Strs w sl ss) :
    Calls Try.prog 34 #[DV s sl ss.length cap] w fun e w' => CopPost s ss w e w' := by
  by_cases he : ss = []
  · subst he; exact icopy_nil s sl cap w
  · rcases hz with hz | ⟨c, o, rfl, hz⟩
    · exact absurd hz he
    · exact icopy_some s c o cap ss w hn (List.length_pos_iff.2 he) hz

end Go.Proofs.Ytaongccmipjgeaa
