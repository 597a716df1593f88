/-
  A DISK WRITTEN TO: the program's whole way.
-/
import Derived.Test.YtaongccmipjgeaaCf
namespace Go.Proofs.Ytaongccmipjgeaa
open Go.RowKit
set_option linter.unusedVariables false

theorem meth_write (a : Addr) (w : World) : (method 186 67 (.pointer (some a)) "loop.example/g00144/impl.write").run Try.prog w = .ok (66, .pointer (some a)) w := by kernel_rfl

set_option maxHeartbeats 1000000 in
theorem cwrite (b tb : Nat) (tx : ByteArray) (w : World) (Q : Ending → World → Prop) (ht : w.cell? ⟨tb, 0, none⟩ = some (.string tx)) (h : Calls Try.prog 66 #[.pointer (some ⟨b, 0, none⟩), .string tx] w fun e w' => e = .returned (.tuple #[]) ∧ Q (.returned (.tuple #[])) w') :
    Calls Try.prog 43 #[.iface 67 (.pointer (some ⟨b, 0, none⟩)), .pointer (some ⟨tb, 0, none⟩)] w Q := by
  have hm := meth_write ⟨b, 0, none⟩
  have H := Lib.hid h
  clear h
  go_enter Try.func43, Try.ntmps43
  go_wp2_with fail
  refine H.out.mono ?_
  rintro e w1 ⟨rfl, hq⟩
  have HQ := Lib.hid hq
  clear hq
  go_wp2
  exact bodyPost_ret (v := .tuple #[]) (by simp [results, Try.results43, go_sem]) rfl HQ.out

set_option maxHeartbeats 1000000 in
theorem wwrite_any (tb : Nat) (tx : ByteArray) (s : ByteArray) (sl : Option Addr) (cap : Nat) (ss : List ByteArray) (w : World) (hS : s.size + tot ss + tx.size ≤ 4000000) (hn : ss.length ≤ 1048576) (hz : Strs w sl ss) (ht : w.cell? ⟨tb, 0, none⟩ = some (.string tx)) (hl : tb < w.heap.size) :
    Calls Try.prog 36 #[DV s sl ss.length cap, .func (.func 43) #[] #[.pointer (some ⟨tb, 0, none⟩)]] w fun e w' => CopPost s (if dR s (ss ++ [tx]) then ss ++ [tx] else ss) w e w' := by
  have C : Hid (∀ w1, Below w.heap.size w w1 → Calls Try.prog 34 #[DV s sl ss.length cap] w1 fun e w' => CopE s ss w1 e w') := fun w1 hb => icopyE_any s sl cap ss w1 hn (hz.below hb)
  have K : Hid (∀ (b B : Nat) (sl1 : Option Addr) (w1 : World), Below w.heap.size w w1 → DAt 66 w1 b s (.slice sl1 ss.length ss.length) → OwnS w1 B (.slice sl1 ss.length ss.length) ss → B ≤ w1.heap.size → Calls Try.prog 43 #[.iface 67 (.pointer (some ⟨b, 0, none⟩)), .pointer (some ⟨tb, 0, none⟩)] w1 fun e w' => FPost b B s (if dR s (ss ++ [tx]) then ss ++ [tx] else ss) w1 e w') := fun b B sl1 w1 hb hd ho hB => by
    refine cwrite b tb tx w1 _ ((hb.cell hl).trans ht) ?_
    refine (fwrite_any b B s sl1 ss tx w1 hn hS hd ho hB).mono ?_
    rintro e w' ⟨v', rfl, r⟩
    exact ⟨rfl, v', rfl, r⟩
  have T0 := Two.start w s (.slice sl ss.length cap)
  clear hz hn hS ht hl
  generalize (if dR s (ss ++ [tx]) then ss ++ [tx] else ss) = ss' at *
  generalize hN : ss.length = n at *
  have HN := Lib.hid hN
  clear hN
  go_enter Try.func36, Try.ntmps36
  go_wp2_with fail
  refine (C.out _ T0.bel).mono ?_
  rintro e w1 ⟨sl1, rfl, o1, b1⟩
  rw [HN.out] at o1 ⊢
  have T1 := Lib.hid ((T0.below b1).below (bA0 _ (.cells #[.string s, .slice sl1 n n] 66)))
  have O1 := Lib.hid (o1.below (bA0 _ (.cells #[.string s, .slice sl1 n n] 66)))
  have D1 := Lib.hid (DAt.new 66 w1 s (.slice sl1 n n))
  have L1 : w.heap.size + 1 < w1.heap.size := by have := b1.size; simp at this; omega
  have LB : Hid ((w.heap.size + 1 + 1) ≤ (w1.alloc (.cells #[.string s, .slice sl1 n n] 66)).heap.size) := by show _ ≤ _; simp; omega
  have O1' : Hid (OwnS (w1.alloc (.cells #[.string s, .slice sl1 n n] 66)) (w.heap.size + 1 + 1) (.slice sl1 n n) ss) := O1.out.mono (by simp)
  clear b1 o1 T0 C O1
  go_wp2_with fail
  refine (K.out _ _ _ _ T1.out.bel D1.out O1'.out LB.out).mono ?_
  rintro e w2 ⟨v2, rfl, d2, o2, g2⟩
  obtain ⟨sl2, c2', rfl, -⟩ := o2.strs
  have T2 := Lib.hid (T1.out.grown g2 L1)
  have O2 := Lib.hid o2
  have D2 := Lib.hid d2
  clear g2 o2 d2 T1 O1' D1 K LB
  generalize ss'.length = n2 at *
  obtain ⟨c0, c1, c2, c3, cf, cl⟩ := T2.out.facts
  obtain ⟨d0, d1⟩ := D2.out.cells
  obtain ⟨q0, q1, qf⟩ := T2.out.end s (.slice sl2 n2 c2')
  have QF := Lib.hid qf
  clear qf
  go_wp2
  exact bodyPost_ret (v := .agg #[.string s, .slice sl2 n2 c2']) (by simp [results, Try.results36, go_sem, q0, q1]) rfl (QF.out _ _ O2.out (by omega))

/-- A disk and a text in their boxes, the result in its own. -/
structure Thr (w : World) (s : ByteArray) (v : Value) (tx : ByteArray) (W : World) : Prop where
  box : DAt 25 W w.heap.size s v
  txt : W.cell? ⟨w.heap.size + 1, 0, none⟩ = some (.string tx)
  res : DAt 25 W (w.heap.size + 1 + 1) ⟨#[]⟩ (.slice none 0 0)
  bel : Below w.heap.size w W
theorem Thr.start (w : World) (s : ByteArray) (v : Value) (tx : ByteArray) : Thr w s v tx (((w.alloc (.cells #[.string s, v] 25)).alloc (.cells #[.string tx] 9)).alloc (.cells #[.string ⟨#[]⟩, .slice none 0 0] 25)) := by
  have z1 : (w.alloc (.cells #[.string s, v] 25)).heap.size = w.heap.size + 1 := by simp
  have z2 : ((w.alloc (.cells #[.string s, v] 25)).alloc (.cells #[.string tx] 9)).heap.size = w.heap.size + 1 + 1 := by simp
  refine ⟨((DAt.new 25 w s v).below (bA0 _ _)).below (bA0 _ _), ?_, ?_, bA (bA (bA0 _ _) _) _⟩
  · have := cell_one_new (w.alloc (.cells #[.string s, v] 25)) (.string tx) 9 0 (.string tx) rfl
    rw [z1] at this
    exact ((bA0 _ _).cell (by rw [z2]; simp)).trans this
  · have := DAt.new 25 ((w.alloc (.cells #[.string s, v] 25)).alloc (.cells #[.string tx] 9)) ⟨#[]⟩ (.slice none 0 0)
    rwa [z2] at this
theorem Thr.below {w : World} {s : ByteArray} {v : Value} {tx : ByteArray} {W W' : World} (h : Thr w s v tx W) (hb : Below W.heap.size W W') : Thr w s v tx W' := ⟨h.box.below hb, (hb.cell (Nat.lt_of_succ_lt h.res.lt)).trans h.txt, h.res.below hb, bT h.bel hb⟩

set_option maxHeartbeats 1000000 in
theorem iwrite_big (tx : ByteArray) (s : ByteArray) (sl : Option Addr) (n cap : Nat) (w : World) (ht : 20000 < tx.size) :
    Calls Try.prog 21 #[DV s sl n cap, .string tx] w fun e w' => CopPost ⟨#[]⟩ [] w e w' := by
  have ht' : (20000 : Int) < (tx.size : Int) := by omega
  go_enter Try.func21, Try.ntmps21
  go_wp2
  exact bodyPost_ret (v := DV ⟨#[]⟩ none 0 0) (by simp [results, Try.results21, go_sem]) rfl ⟨_, rfl, OwnS.nil _ _, by first | exact bA (bA (bA0 _ _) _) _ | exact ((bA (bA (bA0 _ _) _) _).setCell (by simp <;> omega) _).setCell (by simp <;> omega) _⟩

set_option maxHeartbeats 1000000 in
theorem iwrite_any (tx : ByteArray) (s : ByteArray) (sl : Option Addr) (cap : Nat) (ss : List ByteArray) (w : World) (ht : tx.size ≤ 20000) (hS : s.size + tot ss + tx.size ≤ 4000000) (hn : ss.length ≤ 1048576) (hz : Strs w sl ss) :
    Calls Try.prog 21 #[DV s sl ss.length cap, .string tx] w fun e w' => CopPost s (if dR s (ss ++ [tx]) then ss ++ [tx] else ss) w e w' := by
  have ht' : ¬ (20000 : Int) < (tx.size : Int) := by omega
  have C : Hid (∀ w1, Below w.heap.size w w1 → w1.cell? ⟨w.heap.size + 1, 0, none⟩ = some (.string tx) → w.heap.size + 1 < w1.heap.size → Calls Try.prog 36 #[DV s sl ss.length cap, .func (.func 43) #[] #[.pointer (some ⟨w.heap.size + 1, 0, none⟩)]] w1 fun e w' => CopPost s (if dR s (ss ++ [tx]) then ss ++ [tx] else ss) w1 e w') := fun w1 hb hc hl => wwrite_any _ tx s sl cap ss w1 hS hn (hz.below hb) hc hl
  have T0 := Thr.start w s (.slice sl ss.length cap) tx
  clear hz hn hS
  generalize (if dR s (ss ++ [tx]) then ss ++ [tx] else ss) = ss' at *
  generalize ss.length = n at *
  go_enter Try.func21, Try.ntmps21
  go_wp2_with fail
  refine (C.out _ T0.bel T0.txt (Nat.lt_of_succ_lt T0.res.lt)).mono ?_
  rintro e w2 ⟨v2, rfl, o2, b2⟩
  obtain ⟨sl2, c2', rfl, -⟩ := o2.strs
  have T2 := Lib.hid (T0.below b2)
  have O2 := Lib.hid o2
  clear b2 o2 T0 C
  generalize ss'.length = n2 at *
  obtain ⟨c2, c3⟩ := T2.out.res.cells
  have cf := T2.out.res.frozen
  have cl := T2.out.res.lt
  obtain ⟨q0, q1⟩ := (T2.out.res.set2 s (.slice sl2 n2 c2')).cells
  have QF : Hid (CopPost s ss' w (.returned (.agg #[.string s, .slice sl2 n2 c2'])) ((w2.setCell ⟨w.heap.size + 1 + 1, 0, none⟩ (.string s)).setCell ⟨w.heap.size + 1 + 1, 1, none⟩ (.slice sl2 n2 c2'))) :=
    ⟨_, rfl, ((O2.out.set (by simp) _ _).set (by simp) _ _).mono (by simp; omega), (T2.out.bel.setCell (by simp; omega) _).setCell (by simp; omega) _⟩
  go_wp2
  exact bodyPost_ret (v := .agg #[.string s, .slice sl2 n2 c2']) (by simp [results, Try.results21, go_sem, q0, q1]) rfl QF.out

end Go.Proofs.Ytaongccmipjgeaa
