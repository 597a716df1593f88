/-
  A DISK SYNCED: both sides.
-/
import Derived.Test.YtaongccmipjgeaaLa
namespace Go.Proofs.Ytaongccmipjgeaa
open Go.RowKit
set_option linter.unusedVariables false

/-- What work on a file at b leaves there. -/
def FPost (b B : Nat) (s' : ByteArray) (ss' : List ByteArray) (w : World) (e : Ending) (w' : World) : Prop :=
  ∃ v', e = .returned (.tuple #[]) ∧ DAt 66 w' b s' v' ∧ OwnS w' B v' ss' ∧ w.grownBy w' (some b)

theorem grown_set2 {w w' : World} {b : Nat} (h : Below w.heap.size w w') (x y : Value) : w.grownBy ((w'.setCell ⟨b, 0, none⟩ x).setCell ⟨b, 1, none⟩ y) (some b) := by
  refine ⟨h.os, h.tape, h.output, by simpa [World.setCell] using h.size, fun k hk hne => ?_⟩
  have hkb : k ≠ b := fun e => hne (by rw [e])
  rw [Below.heap_setCell _ _ _ _ hkb, Below.heap_setCell _ _ _ _ hkb]
  exact h.block k hk

set_option maxHeartbeats 1000000 in
theorem fsync_no (b B : Nat) (s : ByteArray) (sl : Option Addr) (cap : Nat) (ss : List ByteArray) (w : World) (hS : s.size + tot ss ≤ 4000000) (hd : DAt 66 w b s (.slice sl ss.length cap)) (ho : OwnS w B (.slice sl ss.length cap) ss) (hr : dR s ss = false) :
    Calls Try.prog 65 #[.pointer (some ⟨b, 0, none⟩)] w fun e w' => FPost b B s ss w e w' := by
  have R : Hid (Calls Try.prog 14 #[DV s sl ss.length cap] w fun e w' => e = .returned (.bool false) ∧ Below w.heap.size w w') := by
    have := idr_any s sl cap ss w hS ho.str; rwa [hr] at this
  have HD := Lib.hid hd
  have HO := Lib.hid ho
  obtain ⟨c0, c1⟩ := hd.cells
  clear hS hr hd ho
  generalize hN : ss.length = n at *
  clear hN
  go_enter Try.func65, Try.ntmps65
  go_wp2_with fail
  refine R.out.mono ?_
  rintro e w1 ⟨rfl, b1⟩
  have F : Hid (FPost b B s ss w (.returned (.tuple #[])) w1) := ⟨_, rfl, HD.out.below b1, HO.out.below b1, grown_below _ b1⟩
  clear b1 c0 c1
  go_wp2
  exact bodyPost_ret (v := .tuple #[]) (by simp [results, Try.results65, go_sem]) rfl F.out

set_option maxHeartbeats 1000000 in
theorem fsync_yes (b B : Nat) (s : ByteArray) (sl : Option Addr) (cap : Nat) (ss : List ByteArray) (w : World) (hd : DAt 66 w b s (.slice sl ss.length cap)) (ho : OwnS w B (.slice sl ss.length cap) ss) (hr : dR s ss = true) :
    Calls Try.prog 65 #[.pointer (some ⟨b, 0, none⟩)] w fun e w' => FPost b B (dT s ss) [] w e w' := by
  have hp := (dR_parts hr).2.2
  have R : Hid (Calls Try.prog 14 #[DV s sl ss.length cap] w fun e w' => e = .returned (.bool true) ∧ Below w.heap.size w w') := by
    have := idr_any s sl cap ss w (by omega) ho.str; rwa [hr] at this
  have T : Hid (∀ w1, Below w.heap.size w w1 → Calls Try.prog 12 #[DV s sl ss.length cap] w1 fun e w' => e = .returned (.string (dT s ss)) ∧ Below w1.heap.size w1 w') := fun w1 hb => idt_any s sl cap ss w1 (by omega) (ho.str.below hb)
  have HD := Lib.hid hd
  obtain ⟨c0, c1⟩ := hd.cells
  clear hp hr hd ho
  generalize ss.length = n at *
  generalize dT s ss = F at *
  go_enter Try.func65, Try.ntmps65
  go_wp2_with fail
  refine R.out.mono ?_
  rintro e w1 ⟨rfl, b1⟩
  have D1 := Lib.hid (HD.out.below b1)
  have B1 := Lib.hid b1
  clear b1 c0 c1
  obtain ⟨c0, c1⟩ := D1.out.cells
  go_wp2_with fail
  refine (T.out _ B1.out).mono ?_
  rintro e w2 ⟨rfl, b2⟩
  have D2 := Lib.hid (D1.out.below b2)
  have B2 := Lib.hid (bT B1.out b2)
  clear b2 c0 c1
  obtain ⟨c0, c1⟩ := D2.out.cells
  have cf := D2.out.frozen
  have P : Hid (FPost b B F [] w (.returned (.tuple #[])) ((w2.setCell ⟨b, 0, none⟩ (.string F)).setCell ⟨b, 1, none⟩ (.slice none 0 0))) := ⟨_, rfl, D2.out.set2 _ _, OwnS.nil _ _, grown_set2 B2.out _ _⟩
  go_wp2
  exact bodyPost_ret (v := .tuple #[]) (by simp [results, Try.results65, go_sem]) rfl P.out

theorem fsync_any (b B : Nat) (s : ByteArray) (v : Value) (ss : List ByteArray) (w : World) (hS : s.size + tot ss ≤ 4000000) (hd : DAt 66 w b s v) (ho : OwnS w B v ss) :
    Calls Try.prog 65 #[.pointer (some ⟨b, 0, none⟩)] w fun e w' => FPost b B (if dR s ss then dT s ss else s) (if dR s ss then [] else ss) w e w' := by
  obtain ⟨sl, cap, rfl, -⟩ := ho.strs
  cases hr : dR s ss
  · simpa using fsync_no b B s sl cap ss w hS hd ho hr
  · simpa using fsync_yes b B s sl cap ss w hd ho hr

theorem meth_sync (a : Addr) (w : World) : (method 186 67 (.pointer (some a)) "loop.example/g00144/impl.sync").run Try.prog w = .ok (65, .pointer (some a)) w := by kernel_rfl

set_option maxHeartbeats 1000000 in
theorem csync (b : Nat) (w : World) (Q : Ending → World → Prop) (h : Calls Try.prog 65 #[.pointer (some ⟨b, 0, none⟩)] w fun e w' => e = .returned (.tuple #[]) ∧ Q (.returned (.tuple #[])) w') :
    Calls Try.prog 37 #[.iface 67 (.pointer (some ⟨b, 0, none⟩))] w Q := by
  have hm := meth_sync ⟨b, 0, none⟩
  have H := Lib.hid h
  clear h
  go_enter Try.func37, Try.ntmps37
  go_wp2_with fail
  refine H.out.mono ?_
  rintro e w1 ⟨rfl, hq⟩
  have HQ := Lib.hid hq
  clear hq
  go_wp2
  exact bodyPost_ret (v := .tuple #[]) (by simp [results, Try.results37, go_sem]) rfl HQ.out

theorem Two.grown {w : World} {s : ByteArray} {v : Value} {W W' : World} {b : Nat} (h : Two w s v W) (hg : W.grownBy W' (some b)) (hb : w.heap.size + 1 < b) : Two w s v W' :=
  ⟨h.box.grown hg (by simp; omega), h.res.grown hg (by simp; omega), h.bel.grown hg h.bel.size (fun k hk => by cases hk; omega)⟩

set_option maxHeartbeats 1000000 in
theorem wsync_any (s : ByteArray) (sl : Option Addr) (cap : Nat) (ss : List ByteArray) (w : World) (hS : s.size + tot ss ≤ 4000000) (hn : ss.length ≤ 1048576) (hz : Strs w sl ss) :
    Calls Try.prog 36 #[DV s sl ss.length cap, .func (.func 37) #[] #[]] w fun e w' => CopPost (if dR s ss then dT s ss else s) (if dR s ss then [] else ss) w e w' := by
  have C : Hid (∀ w1, Below w.heap.size w w1 → Calls Try.prog 34 #[DV s sl ss.length cap] w1 fun e w' => CopPost s ss w1 e w') := fun w1 hb => icopy_any s sl cap ss w1 hn (hz.below hb)
  have K : Hid (∀ (b B : Nat) (v : Value) (w1 : World), DAt 66 w1 b s v → OwnS w1 B v ss → Calls Try.prog 37 #[.iface 67 (.pointer (some ⟨b, 0, none⟩))] w1 fun e w' => FPost b B (if dR s ss then dT s ss else s) (if dR s ss then [] else ss) w1 e w') := fun b B v w1 hd ho => by
    refine csync b w1 _ ?_
    refine (fsync_any b B s v ss w1 hS hd ho).mono ?_
    rintro e w' ⟨v', rfl, r⟩
    exact ⟨rfl, v', rfl, r⟩
  have T0 := Two.start w s (.slice sl ss.length cap)
  clear hz hn hS
  generalize (if dR s ss then dT s ss else s) = s' at *
  generalize (if dR s ss then [] else ss) = ss' at *
  generalize ss.length = n at *
  go_enter Try.func36, Try.ntmps36
  go_wp2_with fail
  refine (C.out _ T0.bel).mono ?_
  rintro e w1 ⟨v1, rfl, o1, b1⟩
  obtain ⟨sl1, c1', rfl, -⟩ := o1.strs
  have T1 := Lib.hid ((T0.below b1).below (bA0 _ (.cells #[.string s, .slice sl1 ss.length c1'] 66)))
  have O1 := Lib.hid (o1.below (bA0 _ (.cells #[.string s, .slice sl1 ss.length c1'] 66)))
  have D1 := Lib.hid (DAt.new 66 w1 s (.slice sl1 ss.length c1'))
  have L1 : w.heap.size + 1 < w1.heap.size := by have := b1.size; simp at this; omega
  clear b1 o1 T0 C
  generalize ss.length = n1 at *
  go_wp2_with fail
  refine (K.out _ _ _ _ D1.out O1.out).mono ?_
  rintro e w2 ⟨v2, rfl, d2, o2, g2⟩
  obtain ⟨sl2, c2', rfl, -⟩ := o2.strs
  have T2 := Lib.hid (T1.out.grown g2 L1)
  have O2 := Lib.hid o2
  have D2 := Lib.hid d2
  clear g2 o2 d2 T1 O1 D1 K
  generalize ss'.length = n2 at *
  obtain ⟨c0, c1, c2, c3, cf, cl⟩ := T2.out.facts
  obtain ⟨d0, d1⟩ := D2.out.cells
  obtain ⟨q0, q1, qf⟩ := T2.out.end s' (.slice sl2 n2 c2')
  have QF := Lib.hid qf
  clear qf
  go_wp2
  exact bodyPost_ret (v := .agg #[.string s', .slice sl2 n2 c2']) (by simp [results, Try.results36, go_sem, q0, q1]) rfl (QF.out _ _ O2.out (by simp))

set_option maxHeartbeats 1000000 in
theorem isync_any (s : ByteArray) (sl : Option Addr) (cap : Nat) (ss : List ByteArray) (w : World) (hS : s.size + tot ss ≤ 4000000) (hn : ss.length ≤ 1048576) (hz : Strs w sl ss) :
    Calls Try.prog 15 #[DV s sl ss.length cap] w fun e w' => CopPost (if dR s ss then dT s ss else s) (if dR s ss then [] else ss) w e w' := by
  have C : Hid (∀ w1, Below w.heap.size w w1 → Calls Try.prog 36 #[DV s sl ss.length cap, .func (.func 37) #[] #[]] w1 fun e w' => CopPost (if dR s ss then dT s ss else s) (if dR s ss then [] else ss) w1 e w') := fun w1 hb => wsync_any s sl cap ss w1 hS hn (hz.below hb)
  have T0 := Two.start w s (.slice sl ss.length cap)
  clear hz hn hS
  generalize (if dR s ss then dT s ss else s) = s' at *
  generalize (if dR s ss then [] else ss) = ss' at *
  generalize ss.length = n at *
  go_enter Try.func15, Try.ntmps15
  go_wp2_with fail
  refine (C.out _ T0.bel).mono ?_
  rintro e w2 ⟨v2, rfl, o2, b2⟩
  obtain ⟨sl2, c2', rfl, -⟩ := o2.strs
  have T2 := Lib.hid (T0.below b2)
  have O2 := Lib.hid o2
  clear b2 o2 T0 C
  generalize ss'.length = n2 at *
  obtain ⟨c0, c1, c2, c3, cf, cl⟩ := T2.out.facts
  obtain ⟨q0, q1, qf⟩ := T2.out.end s' (.slice sl2 n2 c2')
  have QF := Lib.hid qf
  clear qf
  go_wp2
  exact bodyPost_ret (v := .agg #[.string s', .slice sl2 n2 c2']) (by simp [results, Try.results15, go_sem, q0, q1]) rfl (QF.out _ _ O2.out (by simp))

/-! ### The model's side -/
set_option maxHeartbeats 1000000 in
theorem ssync_no (s : ByteArray) (sl : Option Addr) (cap : Nat) (ss : List ByteArray) (w : World) (hn : ss.length ≤ 1048577) (hz : Strs w sl ss) (h : dR s ss = false) :
    Calls Try.prog 24 #[DV s sl ss.length cap] w fun e w' => CopPost s ss w e w' := by
  have R : Hid (∀ w1, Below w.heap.size w w1 → Calls Try.prog 11 #[DV s sl ss.length cap] w1 fun e w' => e = .returned (.bool false) ∧ Below w1.heap.size w1 w') := fun w1 hb => by
    have := sdr_any s sl cap ss w1 (hz.below hb); rwa [h] at this
  have C : Hid (∀ w1, Below w.heap.size w w1 → Calls Try.prog 42 #[DV s sl ss.length cap] w1 fun e w' => CopPost s ss w1 e w') := fun w1 hb => scopy_any s sl cap ss w1 hn (hz.below hb)
  have T0 := Two.start w s (.slice sl ss.length cap)
  clear hz hn h
  generalize ss.length = n at *
  go_enter Try.func24, Try.ntmps24
  go_wp2_with fail
  refine (R.out _ T0.bel).mono ?_
  rintro e w2 ⟨rfl, b2⟩
  have T2 := Lib.hid (T0.below b2)
  clear b2 T0
  obtain ⟨c0, c1, c2, c3, cf, cl⟩ := T2.out.facts
  go_wp2_with fail
  refine (C.out _ T2.out.bel).mono ?_
  rintro e w3 ⟨v3, rfl, o3, b3⟩
  obtain ⟨sl3, c3', rfl, -⟩ := o3.strs
  have O3 := Lib.hid o3
  have T3 := Lib.hid (T2.out.below b3)
  clear b3 o3 c0 c1 c2 c3 cf
  obtain ⟨c0, c1, c2, c3, cf, cl3⟩ := T3.out.facts
  obtain ⟨q0, q1, qf⟩ := T3.out.end s (.slice sl3 ss.length c3')
  have QF := Lib.hid qf
  clear qf T2
  generalize ss.length = n3 at *
  go_wp2
  exact bodyPost_ret (v := .agg #[.string s, .slice sl3 n3 c3']) (by simp [results, Try.results24, go_sem, q0, q1]) rfl (QF.out _ _ O3.out (by omega))
set_option maxHeartbeats 1000000 in
theorem ssync_yes (s : ByteArray) (sl : Option Addr) (cap : Nat) (ss : List ByteArray) (w : World) (hz : Strs w sl ss) (h : dR s ss = true) :
    Calls Try.prog 24 #[DV s sl ss.length cap] w fun e w' => CopPost (dT s ss) [] w e w' := by
  have R : Hid (∀ w1, Below w.heap.size w w1 → Calls Try.prog 11 #[DV s sl ss.length cap] w1 fun e w' => e = .returned (.bool true) ∧ Below w1.heap.size w1 w') := fun w1 hb => by
    have := sdr_any s sl cap ss w1 (hz.below hb); rwa [h] at this
  have C : Hid (∀ w1, Below w.heap.size w w1 → Calls Try.prog 16 #[DV s sl ss.length cap] w1 fun e w' => e = .returned (.string (dT s ss)) ∧ Below w1.heap.size w1 w') := fun w1 hb => sdt_any s sl cap ss w1 (hz.below hb)
  have T0 := Two.start w s (.slice sl ss.length cap)
  clear hz h
  generalize ss.length = n at *
  generalize dT s ss = F at *
  go_enter Try.func24, Try.ntmps24
  go_wp2_with fail
  refine (R.out _ T0.bel).mono ?_
  rintro e w2 ⟨rfl, b2⟩
  have T2 := Lib.hid (T0.below b2)
  clear b2 T0
  obtain ⟨c0, c1, c2, c3, cf, cl⟩ := T2.out.facts
  go_wp2_with fail
  refine (C.out _ T2.out.bel).mono ?_
  rintro e w3 ⟨rfl, b3⟩
  have T3 := Lib.hid (T2.out.below b3)
  clear b3 c0 c1 c2 c3 cf cl
  obtain ⟨c0, c1, c2, c3, cf, cl3⟩ := T3.out.facts
  obtain ⟨q0, q1, qf⟩ := T3.out.end F (.slice none 0 0)
  have QF := Lib.hid qf
  clear qf T2
  go_wp2
  exact bodyPost_ret (v := .agg #[.string F, .slice none 0 0]) (by simp [results, Try.results24, go_sem, q0, q1]) rfl (QF.out (w.heap.size + 2) _ (OwnS.nil _ _) (Nat.le_refl _))
theorem ssync_any (s : ByteArray) (sl : Option Addr) (cap : Nat) (ss : List ByteArray) (w : World) (hn : ss.length ≤ 1048577) (hz : Strs w sl ss) :
    Calls Try.prog 24 #[DV s sl ss.length cap] w fun e w' => CopPost (if dR s ss then dT s ss else s) (if dR s ss then [] else ss) w e w' := by
  cases hr : dR s ss
  · simpa using ssync_no s sl cap ss w hn hz hr
  · simpa using ssync_yes s sl cap ss w hz hr

end Go.Proofs.Ytaongccmipjgeaa
