/-
  A FILE WRITTEN TO, as the program does it.
-/
import Derived.Test.YtaongccmipjgeaaCe
import Derived.Deep.CutRange
import Derived.Deep.RegionHeldLaw
import Derived.Deep.DeepCutAuto
namespace Go.Proofs.Ytaongccmipjgeaa
open Go.RowKit
set_option linter.unusedVariables false

/-- What is known while the grown disk is made. -/
structure Fw (b B : Nat) (s : ByteArray) (sl : Option Addr) (n : Nat) (ss : List ByteArray) (w W : World) : Prop where
  file : DAt 66 W b s (.slice sl n n)
  old : OwnS W B (.slice sl n n) ss
  bel : Below w.heap.size w W
theorem Fw.below {b B : Nat} {s : ByteArray} {sl : Option Addr} {n : Nat} {ss : List ByteArray} {w W W' : World} (h : Fw b B s sl n ss w W) (hb : Below W.heap.size W W') : Fw b B s sl n ss w W' :=
  ⟨h.file.below hb, h.old.below hb, bT h.bel hb⟩
theorem Fw.drew {b B : Nat} {s : ByteArray} {sl : Option Addr} {n : Nat} {ss : List ByteArray} {w W : World} (h : Fw b B s sl n ss w W) : Fw b B s sl n ss w W.drew := ⟨h.file, h.old, h.bel.drew⟩
theorem Fw.alloc {b B : Nat} {s : ByteArray} {sl : Option Addr} {n : Nat} {ss : List ByteArray} {w W : World} (h : Fw b B s sl n ss w W) (o : Obj) : Fw b B s sl n ss w (W.alloc o) := h.below (bA0 _ _)

theorem Fw.set {b B bb : Nat} {s : ByteArray} {sl : Option Addr} {n : Nat} {ss : List ByteArray} {w W : World} (h : Fw b B s sl n ss w W) (ho : ∀ k, Value.ownBlock (.slice sl n n) = some k → k < w.heap.size) (hb : b < w.heap.size) (hbb : w.heap.size ≤ bb) (x y : Value) : Fw b B s sl n ss w ((W.setCell ⟨bb, 0, none⟩ x).setCell ⟨bb, 1, none⟩ y) :=
  ⟨h.file.grown (grown_set2 (Below.refl _ _) x y) (by simp; omega), h.old.grown (grown_set2 (Below.refl _ _) x y) (fun k hk e => by cases hk; have := ho _ e; omega), (h.bel.setCell hbb _).setCell hbb _⟩

theorem keepA {b : Nat} {s : ByteArray} {v : Value} {W : World} (h : b < W.heap.size ∧ W.cell? ⟨b, 0, none⟩ = some (.string s) ∧ W.cell? ⟨b, 1, none⟩ = some v) (o : Obj) : b < (W.alloc o).heap.size ∧ (W.alloc o).cell? ⟨b, 0, none⟩ = some (.string s) ∧ (W.alloc o).cell? ⟨b, 1, none⟩ = some v :=
  ⟨Nat.lt_of_lt_of_le h.1 (bA0 _ _).size, ((bA0 W o).cell h.1).trans h.2.1, ((bA0 W o).cell h.1).trans h.2.2⟩
theorem keepS {b bb : Nat} {s : ByteArray} {v : Value} {W : World} (h : b < W.heap.size ∧ W.cell? ⟨b, 0, none⟩ = some (.string s) ∧ W.cell? ⟨b, 1, none⟩ = some v) (hb : b ≠ bb) (i j : Nat) (x y : Value) :
    b < ((W.setCell ⟨bb, i, none⟩ x).setCell ⟨bb, j, none⟩ y).heap.size ∧ ((W.setCell ⟨bb, i, none⟩ x).setCell ⟨bb, j, none⟩ y).cell? ⟨b, 0, none⟩ = some (.string s) ∧ ((W.setCell ⟨bb, i, none⟩ x).setCell ⟨bb, j, none⟩ y).cell? ⟨b, 1, none⟩ = some v := by
  have e : ((W.setCell ⟨bb, i, none⟩ x).setCell ⟨bb, j, none⟩ y).heap[b]? = W.heap[b]? := by rw [Below.heap_setCell _ _ _ _ hb, Below.heap_setCell _ _ _ _ hb]
  exact ⟨by simpa [World.setCell] using h.1, (World.cell?_of_block e).trans h.2.1, (World.cell?_of_block e).trans h.2.2⟩

abbrev Z25 : Obj := .cells #[.string ⟨#[]⟩, .slice none 0 0] 25

set_option maxHeartbeats 2000000 in
theorem fwrite_any (b B : Nat) (s : ByteArray) (sl : Option Addr) (ss : List ByteArray) (tx : ByteArray) (w : World) (hn : ss.length ≤ 1048576) (hS : s.size + tot ss + tx.size ≤ 4000000) (hd : DAt 66 w b s (.slice sl ss.length ss.length)) (ho : OwnS w B (.slice sl ss.length ss.length) ss) (hB : B ≤ w.heap.size) :
    Calls Try.prog 66 #[.pointer (some ⟨b, 0, none⟩), .string tx] w fun e w' => FPost b B s (if dR s (ss ++ [tx]) then ss ++ [tx] else ss) w e w' := by
  generalize hrl : (if dR s (ss ++ [tx]) then ss ++ [tx] else ss) = rl
  have HRL := Lib.hid hrl
  clear hrl
  obtain ⟨c0, c1⟩ := hd.cells
  have hb := hd.lt
  have F0 : Hid (Fw b B s sl ss.length ss w w) := ⟨hd, ho, Below.refl _ _⟩
  clear hd ho
  have LO : Hid (∀ k, Value.ownBlock (.slice sl ss.length ss.length) = some k → k < w.heap.size) := fun k hk => (F0.out.old.lt hk).2
  generalize hN : ss.length = n at *
  have HN : Hid (ss.length = n) := hN
  clear hN
  have ZA : Hid (DAt 25 (w.drew.alloc Z25) w.heap.size ⟨#[]⟩ (.slice none 0 0)) := DAt.new 25 w.drew ⟨#[]⟩ (.slice none 0 0)
  have ZB : Hid (DAt 25 ((w.drew.alloc (.cells #[.string tx] 9)).alloc Z25) (w.heap.size + 1) ⟨#[]⟩ (.slice none 0 0)) := by
    show DAt _ _ _ _ _
    have := DAt.new 25 (w.drew.alloc (.cells #[.string tx] 9)) ⟨#[]⟩ (.slice none 0 0)
    rwa [show (w.drew.alloc (.cells #[.string tx] 9)).heap.size = w.heap.size + 1 by simp] at this
  have ZC : Hid (((w.drew.alloc Z25).alloc (.cells #[.string tx] 9)).cell? ((⟨w.heap.size + 1, 0, none⟩ : Addr).add 0) = some (.string tx)) := by
    show _ = _
    have := cell_lit (w.drew.alloc Z25) (.string tx) 9
    rwa [show (w.drew.alloc Z25).heap.size = w.heap.size + 1 by simp] at this
  go_enter Try.func66, Try.ntmps66
  go_wp2_with fail
  go_cut [4] (fun p W => ∃ bb g c, p = .pointer (some ⟨bb, 0, none⟩) ∧ Hid (bb ≠ b) ∧ Hid (DAt 25 W bb s (.slice (some ⟨g, 0, none⟩) (n + 1) c)) ∧ Hid (OwnS W w.heap.size (.slice (some ⟨g, 0, none⟩) (n + 1) c) (ss ++ [tx])) ∧ Hid (Fw b B s sl n ss w W))
  case first =>
    go_region_held_law (fun w' => b < w'.heap.size ∧ w'.cell? ⟨b, 0, none⟩ = some (.string s) ∧ w'.cell? ⟨b, 1, none⟩ = some (.slice sl n n)) (first | exact ⟨hb, c0, c1⟩ | exact ⟨lb5, d0, d1⟩ | exact keepA ⟨lb5, d0, d1⟩ _ | exact keepA (by assumption) _ | exact keepS ⟨lb5, d0, d1⟩ (by omega) _ _ _ _)
     (first
    | (refine step_append_new rfl (.tmp 14) (.tmp 16) rfl B sl ss n HN.out (by simp [Act.eval]) (F0.out.drew.alloc (.cells #[.string tx] 9)).old ⟨w.heap.size, 0, none⟩ tx (by simp [Act.eval]) (cell_lit _ _ _) (by omega) ?_; intro g5 c5 w5 o5 b5; have F5 := Lib.hid ((F0.out.drew.alloc (.cells #[.string tx] 9)).below b5); have O5 := Lib.hid (o5.mono (B' := w.heap.size) (by simp)); obtain ⟨d0, d1⟩ := F5.out.file.cells; have lb5 := F5.out.file.lt; clear o5 b5)
    | (refine step_append_new rfl (.tmp 14) (.tmp 16) rfl B sl ss n HN.out (by simp [Act.eval]) ((F0.out.drew.alloc Z25).alloc (.cells #[.string tx] 9)).old ⟨w.heap.size + 1, 0, none⟩ tx (by simp [Act.eval]) ZC.out (by omega) ?_; intro g5 c5 w5 o5 b5; have F5 := Lib.hid (((F0.out.drew.alloc Z25).alloc (.cells #[.string tx] 9)).below b5); have O5 := Lib.hid (o5.mono (B' := w.heap.size + 2) (by simp)); obtain ⟨d0, d1⟩ := F5.out.file.cells; have lb5 := F5.out.file.lt; have Z5 := Lib.hid ((ZA.out.below (bA0 _ (.cells #[.string tx] 9))).below b5); obtain ⟨z0, z1⟩ := Z5.out.cells; have zf := Z5.out.frozen; have zl := Z5.out.lt; clear o5 b5)
    | (refine step_append_new rfl (.tmp 14) (.tmp 16) rfl B sl ss n HN.out (by simp [Act.eval]) ((F0.out.drew.alloc (.cells #[.string tx] 9)).alloc Z25).old ⟨w.heap.size, 0, none⟩ tx (by simp [Act.eval]) (((bA0 _ _).cell (by simp [Addr.add])).trans (cell_lit _ _ _)) (by omega) ?_; intro g5 c5 w5 o5 b5; have F5 := Lib.hid (((F0.out.drew.alloc (.cells #[.string tx] 9)).alloc Z25).below b5); have O5 := Lib.hid (o5.mono (B' := w.heap.size + 2) (by simp)); obtain ⟨d0, d1⟩ := F5.out.file.cells; have lb5 := F5.out.file.lt; have Z5 := Lib.hid (ZB.out.below b5); obtain ⟨z0, z1⟩ := Z5.out.cells; have zf := Z5.out.frozen; have zl := Z5.out.lt; clear o5 b5))
    · go_wp2_with fail
      go_meet
      exact ⟨w5.heap.size, g5, c5, rfl, (by show _ ≠ _; omega), DAt.new 25 w5 s _, O5.out.below (bA0 _ _), F5.out.alloc _⟩
    · go_wp2_with fail
      go_meet
      exact ⟨w.heap.size + 1, g5, c5, rfl, (by show _ ≠ _; omega), Z5.out.set2 _ _, ((O5.out.set (by omega) _ _).set (by omega) _ _).mono (by omega), F5.out.set LO.out hb (by omega) _ _⟩
    · go_wp2_with fail
      go_meet
      exact ⟨w.heap.size, g5, c5, rfl, (by show _ ≠ _; omega), Z5.out.set2 _ _, ((O5.out.set (by omega) _ _).set (by omega) _ _).mono (by omega), F5.out.set LO.out hb (by omega) _ _⟩
  case rest =>
    obtain ⟨bb, g, c, rfl, HNE, HDB, HOB, HF⟩ := hcut
    have hSz : s.size + tot (ss ++ [tx]) ≤ 4000000 := by rw [tot_app, tot_one]; omega
    have EL : Hid ((ss ++ [tx]).length = n + 1) := by show _ = _; simp; exact HN.out
    have R : Hid (Calls Try.prog 14 #[DV s (some ⟨g, 0, none⟩) (n + 1) c] wc fun e w' => e = .returned (.bool (dR s (ss ++ [tx]))) ∧ Below wc.heap.size wc w') := by
      have := idr_any s (some ⟨g, 0, none⟩) c (ss ++ [tx]) wc hSz HOB.out.str
      rwa [EL.out] at this
    obtain ⟨m0, m1⟩ := HDB.out.cells
    clear hSz ZA ZB ZC c0 c1 hS
    go_wp2_with fail
    refine R.out.mono ?_
    rintro e w6 ⟨rfl, b6⟩
    have HF6 := Lib.hid (HF.out.below b6)
    have HDB6 := Lib.hid (HDB.out.below b6)
    have HOB6 := Lib.hid (HOB.out.below b6)
    clear b6 m0 m1 R HF HDB HOB
    obtain ⟨m0, m1⟩ := HDB6.out.cells
    obtain ⟨f0, f1⟩ := HF6.out.file.cells
    have ff := HF6.out.file.frozen
    cases hr : dR s (ss ++ [tx])
    · have ER : Hid (rl = ss) := by show _ = _; rw [← HRL.out, hr]; simp
      clear hr
      have P : Hid (FPost b B s rl w (.returned (.tuple #[])) w6) := by
        show FPost _ _ _ _ _ _ _
        rw [ER.out]
        exact ⟨_, rfl, HF6.out.file, HF6.out.old, grown_below _ HF6.out.bel⟩
      go_wp2
      exact bodyPost_ret (v := .tuple #[]) (by simp [results, Try.results66, go_sem]) rfl P.out
    · have ER : Hid (rl = ss ++ [tx]) := by show _ = _; rw [← HRL.out, hr]; simp
      clear hr
      have P : Hid (FPost b B s rl w (.returned (.tuple #[])) ((w6.setCell ⟨b, 0, none⟩ (.string s)).setCell ⟨b, 1, none⟩ (.slice (some ⟨g, 0, none⟩) (n + 1) c))) := by
        show FPost _ _ _ _ _ _ _
        rw [ER.out]
        exact ⟨_, rfl, HF6.out.file.set2 _ _, ((HOB6.out.set hb _ _).set hb _ _).mono hB, grown_set2 HF6.out.bel _ _⟩
      go_wp2
      exact bodyPost_ret (v := .tuple #[]) (by simp [results, Try.results66, go_sem]) rfl P.out

end Go.Proofs.Ytaongccmipjgeaa
