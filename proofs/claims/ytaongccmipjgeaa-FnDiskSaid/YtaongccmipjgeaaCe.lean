/-
  A DISK WRITTEN TO, as the program does it.
-/
import Derived.Test.YtaongccmipjgeaaCd
namespace Go.Proofs.Ytaongccmipjgeaa
open Go.RowKit
set_option linter.unusedVariables false

/-- A copy whose list has no room beyond its length. -/
def CopE (s : ByteArray) (ss : List ByteArray) (w : World) (e : Ending) (w' : World) : Prop :=
  ∃ sl, e = .returned (.agg #[.string s, .slice sl ss.length ss.length]) ∧ OwnS w' w.heap.size (.slice sl ss.length ss.length) ss ∧ Below w.heap.size w w'

set_option maxHeartbeats 1000000 in
theorem icopyE_nil (s : ByteArray) (sl : Option Addr) (cap : Nat) (w : World) :
    Calls Try.prog 34 #[DV s sl 0 cap] w fun e w' => CopE s [] w e w' := by
  go_enter Try.func34, Try.ntmps34
  go_wp2
  exact bodyPost_ret (v := DV s none 0 0) (by simp [results, Try.results34, go_sem]) rfl ⟨none, rfl, OwnS.nil _ _, by first | exact (((bA (bA0 _ _) _).setCell (Nat.le_add_right _ 1) _).setCell (Nat.le_add_right _ 1) _) | exact bA (bA0 _ _) _⟩

set_option maxHeartbeats 1000000 in
theorem icopyE_some (s : ByteArray) (c o cap : Nat) (ss : List ByteArray) (w : World) (hn : ss.length ≤ 1048576) (hp : 0 < ss.length) (hz : StrsAt w c o ss) :
    Calls Try.prog 34 #[DV s (some ⟨c, o, none⟩) ss.length cap] w fun e w' => CopE s ss w e w' := by
  have hmk := makeS ss.length hn
  have hp0 : ((ss.length : Int) == 0) = false := by rw [beq_eq_false_iff_ne]; omega
  have D0 := (DAt.new 25 w s (.slice (some ⟨c, o, none⟩) ss.length cap)).below (bA0 _ (.cells #[.string ⟨#[]⟩, .slice none 0 0] 25))
  have R0 := DAt.new 25 (w.alloc (.cells #[.string s, .slice (some ⟨c, o, none⟩) ss.length cap] 25)) ⟨#[]⟩ (.slice none 0 0)
  have B0 : Below w.heap.size w ((w.alloc (.cells #[.string s, .slice (some ⟨c, o, none⟩) ss.length cap] 25)).alloc (.cells #[.string ⟨#[]⟩, .slice none 0 0] 25)) := bA (bA0 _ _) _
  have hz1 : (w.alloc (.cells #[.string s, .slice (some ⟨c, o, none⟩) ss.length cap] 25)).heap.size = w.heap.size + 1 := by simp
  have hz2 : ((w.alloc (.cells #[.string s, .slice (some ⟨c, o, none⟩) ss.length cap] 25)).alloc (.cells #[.string ⟨#[]⟩, .slice none 0 0] 25)).heap.size = w.heap.size + 1 + 1 := by simp
  rw [hz1] at R0
  generalize hW : (w.alloc (.cells #[.string s, .slice (some ⟨c, o, none⟩) ss.length cap] 25)).alloc (.cells #[.string ⟨#[]⟩, .slice none 0 0] 25) = W at *
  have G0 : (W.alloc (.cells (mkS ss.length) 9)).heap[w.heap.size + 1 + 1]? = some (.cells (mkS ss.length) 9 (0, 0)) := by
    have := heap_alloc_new W (.cells (mkS ss.length) 9)
    rwa [hz2] at this
  have zk : (mkS ss.length).size = ss.length := by rw [mkS_eq, vs_size _ _ (Nat.zero_le _)]
  have hcp := run_copy_row (P := Try.prog) (W.alloc (.cells (mkS ss.length) 9)) 23 23 3 9 (w.heap.size + 1 + 1) 0 ss.length ss.length ⟨c, o, none⟩ ss.length cap (mkS ss.length) 9 (ss.map Value.string) Try.underlying23 size9 G0 (by simp) (fun j u hu => by
      have hj : j < ss.length := by simpa using (List.getElem?_eq_some_iff.1 hu).1
      have ha : (⟨c, o, none⟩ : Addr).add j = ⟨c, o + j, none⟩ := by
        unfold Addr.add
        by_cases h : j = 0 <;> simp [h]
      rw [ha, (hz.below (bA B0 _)).2 j hj, ← hu]
      simp [at0, hj]) (by rw [zk]; simp) (by intro u hu; obtain ⟨x, _, rfl⟩ := List.mem_map.1 hu; rfl)
  have e : (mkS ss.length).toList.take 0 ++ ss.map Value.string ++ (mkS ss.length).toList.drop (0 + (ss.map Value.string).length) = ss.map Value.string := by
    rw [List.drop_of_length_le (by simp [zk])]; simp
  rw [e, List.length_map] at hcp
  have RR := Lib.hid (RowAt.of_row (ss := ss) (setRow_heap (W.alloc (.cells (mkS ss.length) 9)) (w.heap.size + 1 + 1) _ (ss.map Value.string).toArray 9 _ G0))
  have BB : Hid (Below w.heap.size w ((W.alloc (.cells (mkS ss.length) 9)).setRow (w.heap.size + 1 + 1) (ss.map Value.string).toArray)) := below_row (bA B0 _) (by omega) _
  have DD : Hid (DAt 25 ((W.alloc (.cells (mkS ss.length) 9)).setRow (w.heap.size + 1 + 1) (ss.map Value.string).toArray) w.heap.size s (.slice (some ⟨c, o, none⟩) ss.length cap)) := (setRow_other _ _ _ _ (by omega)).trans (D0.below (bA0 _ _))
  have QQ : Hid (DAt 25 ((W.alloc (.cells (mkS ss.length) 9)).setRow (w.heap.size + 1 + 1) (ss.map Value.string).toArray) (w.heap.size + 1) ⟨#[]⟩ (.slice none 0 0)) := (setRow_other _ _ _ _ (by omega)).trans (R0.below (bA0 _ _))
  have OO : Hid (OwnS ((W.alloc (.cells (mkS ss.length) 9)).setRow (w.heap.size + 1 + 1) (ss.map Value.string).toArray) (w.heap.size + 1 + 1) (.slice (some ⟨w.heap.size + 1 + 1, 0, none⟩) ss.length ss.length) ss) := OwnS.row RR.out (Nat.le_refl _) (by unfold maxLen; omega)
  subst hW
  clear e zk G0 hz D0 R0 B0 RR hz1 hz2 hn hp
  generalize (ss.map Value.string).toArray = vs at *
  generalize hN : ss.length = n at *
  have HN := Lib.hid hN
  clear hN
  generalize hwn : ((World.alloc _ _).setRow (w.heap.size + 1 + 1) vs) = wn at *
  clear hwn
  obtain ⟨c0, c1⟩ := DD.out.cells
  obtain ⟨k0, k1⟩ := QQ.out.cells
  have kf := QQ.out.frozen
  have kl := QQ.out.lt
  obtain ⟨q0, q1⟩ := (QQ.out.set2 s (.slice (some ⟨w.heap.size + 1 + 1, 0, none⟩) n n)).cells
  go_enter Try.func34, Try.ntmps34
  go_wp2
  exact bodyPost_ret (v := DV s (some ⟨w.heap.size + 1 + 1, 0, none⟩) n n) (by simp [results, Try.results34, go_sem, q0, q1]) rfl ⟨some ⟨w.heap.size + 1 + 1, 0, none⟩, by rw [HN.out], by rw [HN.out]; exact ((OO.out.set (Nat.lt_succ_self _) _ _).set (Nat.lt_succ_self _) _ _).mono (Nat.le_add_right _ 2), (BB.out.setCell (Nat.le_add_right _ 1) _).setCell (Nat.le_add_right _ 1) _⟩

theorem icopyE_any (s : ByteArray) (sl : Option Addr) (cap : Nat) (ss : List ByteArray) (w : World) (hn : ss.length ≤ 1048576) (hz : Strs w sl ss) :
    Calls Try.prog 34 #[DV s sl ss.length cap] w fun e w' => CopE s ss w e w' := by
  by_cases he : ss = []
  · subst he; exact icopyE_nil s sl cap w
  · rcases hz with hz | ⟨c, o, rfl, hz⟩
    · exact absurd hz he
    · exact icopyE_some s c o cap ss w hn (List.length_pos_iff.2 he) hz


/-- One text appended to a list without room: a new list. -/
theorem run_append_new {w : World} (ty : TypeId) (B : Nat) (sl : Option Addr) (ss : List ByteArray) (hown : OwnS w B (.slice sl ss.length ss.length) ss) (ad : Addr) (tx : ByteArray) (hc : w.cell? (ad.add 0) = some (.string tx)) (hn : ss.length ≤ 1048577) :
    ∃ g c w', (Builtin.append_ #[23, 23] ty #[.slice sl ss.length ss.length, .slice (some ad) 1 1]).run Try.prog w = .ok (.slice (some ⟨g, 0, none⟩) (ss.length + 1) c) w' ∧ OwnS w' w.heap.size (.slice (some ⟨g, 0, none⟩) (ss.length + 1) c) (ss ++ [tx]) ∧ Below w.heap.size w w' := by
  obtain ⟨i9, hi, h0, h1, h2⟩ := info_parts info9'
  have S : Src Try.prog i9.size 23 (.slice (some ad) 1 1) 1 [.string tx] w := by
    rw [h1]
    exact Src.ofSlice w Try.underlying23 ad 1 1 [.string tx] (by simp) (fun j u hu => by
      have hj : j < 1 := by simpa using (List.getElem?_eq_some_iff.1 hu).1
      obtain rfl : j = 0 := by omega
      simp at hu; rw [hc, hu]) (by intro u hu; simp at hu; subst hu; rfl)
  have hold : (Builtin.firstCells i9.size ss.length (.slice sl ss.length ss.length)).run Try.prog w.drew = .ok (ss.map Value.string).toArray w.drew := by
    rcases hown.2 with ⟨e, h0⟩ | ⟨g, cap, cur, e, _⟩
    · obtain rfl : ss = [] := List.eq_nil_of_length_eq_zero h0
      cases e
      exact run_firstCells_none w.drew i9.size 0 0 0
    · cases e
      exact run_firstCells_some w.drew i9.size _ ⟨g, 0, none⟩ _ _ (ss.map Value.string) (by rw [h1]; simp) (fun j u hu => hown.cells (g := g) rfl j u hu)
  have gcap : Builtin.nextslicecap (ss.length + 1) ss.length * i9.bytes ≤ 281474976710656 := by
    rw [h2]
    exact growslice_fits (by omega) (by omega)
  have hr := run_append_grow_src (P := Try.prog) w 23 23 ty 9 i9 (.string ⟨#[]⟩) Try.underlying23 hi h0 sl ss.length ss.length (ss.map Value.string) hold (.slice (some ad) 1 1) 1 [.string tx] S (by omega) (by omega) gcap
  have hge := grownCap_ge w (ss.length + 1) ss.length 9
  have hcm : grownCap w (ss.length + 1) ss.length 9 ≤ maxLen := grownCap_le_maxLen w _ _ 9 (by unfold maxLen; omega)
  refine ⟨_, _, _, hr, ⟨by simp, .inr ⟨w.heap.size, _, _, by simp, Nat.le_refl _, heap_alloc_new w.drew _, by simpa using hge, hcm, ?_, ?_⟩⟩, (Below.refl _ _).drew.alloc (by simp) _⟩
  · have hz1 : (Value.string ⟨#[]⟩).cells.size = 1 := rfl
    simp only [Array.size_append, List.size_toArray, size_zeroCells, hz1, List.length_append, List.length_map, List.length_singleton]
    omega
  · simp only [Array.toList_append, List.length_append, List.length_singleton, Nat.mul_one, List.map_append, List.map_cons, List.map_nil]
    exact List.take_left' (by simp)
theorem step_append_new {w : World} {ops : Array Oper} {o : Oper} {a : Act} {K : Act → World → Prop} {Q : Exit → Act → World → Prop} {E : Prop} (hgd : o.guard = none) (s x : Operand)
    (ho : o.op = .call { callee := .builtin .append, args := #[s, x], argTypes := #[23, 23] }) (B : Nat) (sl : Option Addr) (ss : List ByteArray) (n : Nat) (hN : ss.length = n) (hs : a.eval s = .slice sl n n) (hown : OwnS w B (.slice sl n n) ss)
    (ad : Addr) (tx : ByteArray) (hx : a.eval x = .slice (some ad) 1 1) (hc : w.cell? (ad.add 0) = some (.string tx)) (hn : n ≤ 1048577)
    (h : ∀ g c w', OwnS w' w.heap.size (.slice (some ⟨g, 0, none⟩) (n + 1) c) (ss ++ [tx]) → Below w.heap.size w w' → K (a.put o.dst (.slice (some ⟨g, 0, none⟩) (n + 1) c)) w') :
    if Region.wanted o (yielded ops a.tmps) = true then Oper.wp Try.prog o a w K Q else E := by
  have hw : Region.wanted o (yielded ops a.tmps) = true := by simp [Region.wanted, hgd]
  rw [if_pos hw]
  subst hN
  obtain ⟨g, c, w', hr, h2, h3⟩ := run_append_new o.type B sl ss hown ad tx hc hn
  unfold Oper.wp execOp
  simp only [ho, resolve, invoke, builtin, Sem.run_bind, Sem.run_pure, Result.andThen_ok, List.map_toArray, List.map_cons, List.map_nil, hs, hx, hr]
  exact h g c w' h2 h3

theorem cell_lit (w : World) (v : Value) (t : TypeId) : (w.alloc (.cells #[v] t)).cell? ((⟨w.heap.size, 0, none⟩ : Addr).add 0) = some v := cell_one_new w v t 0 v rfl

end Go.Proofs.Ytaongccmipjgeaa
