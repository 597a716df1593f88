/-
  A DISK's TEXT: both sides, and the law FnExactDiskText.
  MARKS: how the laws mark a list of texts and look whether the marks are held.
  A DISK COPIED: both sides.
  A DISK CUT: both sides. The model's sync and crash.
-/
import Derived.Test.YtmffoannknkjkaaDoorDaa
import Derived.Deep.RegionWith
import Derived.Lib.BufferRead
import Derived.OwnWalk
import Derived.Deep.AppendLies
import Derived.Deep.AppendSrc
import Derived.Deep.RegionLaw
namespace Go.Proofs.YtmffoannknkjkaaDoor
open Go.RowKit
set_option linter.unusedVariables false

def flT (ss : List ByteArray) : ByteArray := ⟨(fl ss).toArray⟩
theorem flT_size (ss : List ByteArray) : (flT ss).size = tot ss := by
  rw [← fl_len]; simp [flT, ByteArray.size]
def dT (s : ByteArray) (ss : List ByteArray) : ByteArray := if dR s ss then s ++ flT ss else ⟨#[]⟩

set_option maxHeartbeats 1000000 in
theorem idt_no (s : ByteArray) (sl : Option Addr) (cap : Nat) (ss : List ByteArray) (w : World) (hs : s.size + tot ss ≤ 4000000) (hz : Strs w sl ss) (hr : dR s ss = false) :
    Calls Tryd.prog 23 #[DV s sl ss.length cap] w fun e w' => e = .returned (.string ⟨#[]⟩) ∧ Below w.heap.size w w' := by
  have R : Hid (∀ w1, Below w.heap.size w w1 → Calls Tryd.prog 33 #[DV s sl ss.length cap] w1 fun e w' => e = .returned (.bool false) ∧ Below w1.heap.size w1 w') := fun w1 hb => by
    have := idr_any s sl cap ss w1 hs (hz.below hb); rwa [hr] at this
  clear hz hr hs
  generalize ss.length = n at *
  go_enter Tryd.func23, Tryd.ntmps23
  go_wp2_with fail
  refine (R.out _ (bA0 _ _)).mono ?_
  rintro e w1 ⟨rfl, b1⟩
  go_wp2
  go_ret
  exact ⟨rfl, bT (bA0 _ _) b1⟩

set_option maxHeartbeats 1000000 in
theorem idt_yes (s : ByteArray) (sl : Option Addr) (cap : Nat) (ss : List ByteArray) (w : World) (hz : Strs w sl ss) (hr : dR s ss = true) :
    Calls Tryd.prog 23 #[DV s sl ss.length cap] w fun e w' => e = .returned (.string (s ++ flT ss)) ∧ Below w.heap.size w w' := by
  have hsz := (dR_parts hr).2.2
  have R : Hid (∀ w1, Below w.heap.size w w1 → Calls Tryd.prog 33 #[DV s sl ss.length cap] w1 fun e w' => e = .returned (.bool true) ∧ Below w1.heap.size w1 w') := fun w1 hb => by
    have := idr_any s sl cap ss w1 (by omega) (hz.below hb); rwa [hr] at this
  have L : Hid (∀ w1, Below w.heap.size w w1 → Calls Tryd.prog 34 #[DV s sl ss.length cap] w1 fun e w' => ∃ g, e = .returned (.slice (some ⟨g, 0, none⟩) (tot ss) (tot ss)) ∧ (∀ w2, w2 = w' → Sem.run Tryd.prog (convert 44 9 (.slice (some ⟨g, 0, none⟩) (tot ss) (tot ss))) w2 = .ok (.string (flT ss)) w2) ∧ Below w1.heap.size w1 w') := fun w1 hb => by
    refine (loose_any s sl cap ss w1 hr (hz.below hb)).mono ?_
    rintro e w' ⟨g, rfl, -, h, b⟩
    refine ⟨g, rfl, ?_, b⟩
    rintro w2 rfl
    have := h.text (cap := tot ss)
    rwa [fl_len] at this
  clear hz hr
  generalize ss.length = n at *
  have hcat : ¬ s.size + (flT ss).size > 9223372036854775807 := by rw [flT_size]; omega
  generalize flT ss = F at *
  generalize tot ss = T at *
  have D0 := DAt.new 27 w s (.slice sl n cap)
  go_enter Tryd.func23, Tryd.ntmps23
  go_wp2_with fail
  refine (R.out _ (bA0 _ _)).mono ?_
  rintro e w1 ⟨rfl, b1⟩
  have D1 := Lib.hid (D0.below b1)
  have B1 := Lib.hid (bT (bA0 _ _) b1)
  clear b1 D0
  obtain ⟨c0, c1⟩ := D1.out.cells
  have hlt := D1.out.lt
  go_wp2_with fail
  go_region_with (first | (go_at_call 34; refine (L.out _ (by first | exact B1.out | exact B1.out.drew | exact below_drewN B1.out _)).mono ?_; rintro e w5 ⟨g, rfl, hcv, b5⟩; have hcv' := hcv _ rfl; have k0 := (b5.cell hlt).trans c0; clear hcv))
  all_goals
    have B5 := Lib.hid (bT B1.out.drew b5)
    clear b5 hcv' B1 D1 c0 c1
    go_wp2
    go_ret
    exact ⟨rfl, B5.out⟩

theorem idt_any (s : ByteArray) (sl : Option Addr) (cap : Nat) (ss : List ByteArray) (w : World) (hs : s.size + tot ss ≤ 4000000) (hz : Strs w sl ss) :
    Calls Tryd.prog 23 #[DV s sl ss.length cap] w fun e w' => e = .returned (.string (dT s ss)) ∧ Below w.heap.size w w' := by
  unfold dT
  cases hr : dR s ss
  · simpa using idt_no s sl cap ss w hs hz hr
  · simpa using idt_yes s sl cap ss w hz hr

/-! ### The model's side -/
theorem str_cells (l : List UInt8) (s : ByteArray) : Lib.byteCells l ++ Lib.strCells s = Lib.byteCells (l ++ s.data.toList) := by simp [Lib.byteCells, Lib.strCells]

theorem own_text {w : World} {B : Nat} {v : Value} {l : List UInt8} (h : w.ownsRow B 5 1 v l.length (Lib.byteCells l)) : Sem.run Tryd.prog (convert 44 9 v) w = .ok (.string ⟨l.toArray⟩) w := by
  rcases h.2 with ⟨rfl, h0⟩ | ⟨g, cap, cur, rfl, _, hg, _⟩
  · obtain rfl : l = [] := List.eq_nil_of_length_eq_zero h0
    exact Lib.run_convert_nil_bytes w 44 9 5 0 Tryd.underlying44 Tryd.underlying5 Tryd.underlying9
  · exact run_convert_bytes_back (P := Tryd.prog) w 44 9 5 ⟨g, 0, none⟩ cap l Tryd.underlying44 Tryd.underlying5 Tryd.underlying9 (fun j hj => h.cells (g := g) rfl j _ (by simp [Lib.byteCells, hj]))

set_option maxHeartbeats 1000000 in
theorem sloose_nil (s : ByteArray) (sl : Option Addr) (cap : Nat) (w : World) :
    Calls Tryd.prog 31 #[DV s sl 0 cap] w fun e w' => e = .returned (.string (flT [])) ∧ Below w.heap.size w w' := by
  have hcv : ∀ (w1 : World) b, BAt w1 b (Lib.byteCells []) → Sem.run Tryd.prog (convert 44 9 (.slice (some ⟨b, 0, none⟩) 0 0)) w1 = .ok (.string (flT [])) w1 := fun w1 b h => h.text (cap := 0)
  have hcv2 : Sem.run Tryd.prog (convert 44 9 (.slice (some ⟨w.heap.size + 1, 0, none⟩) 0 0)) ((w.alloc (.cells #[.string s, .slice sl 0 cap] 27)).alloc (.cells #[] 5)) = .ok (.string (flT [])) ((w.alloc (.cells #[.string s, .slice sl 0 cap] 27)).alloc (.cells #[] 5)) := by
    refine hcv _ _ ?_
    have := heap_alloc_new (w.alloc (.cells #[.string s, .slice sl 0 cap] 27)) (.cells #[] 5)
    simpa [BAt, Lib.byteCells] using this
  clear hcv
  generalize flT [] = F at *
  go_enter Tryd.func31, Tryd.ntmps31
  go_wp2
  refine wp_loop_rounds 1 ?_
  rw [rounds_succ]
  go_wp2
  go_ret
  exact ⟨rfl, bA (bA0 _ _) _⟩

set_option maxHeartbeats 1000000 in
theorem sloose_some (s : ByteArray) (c o cap : Nat) (ss : List ByteArray) (w : World) (hn : ss.length ≤ 1048576) (ht : tot ss ≤ 4000000) (hz : StrsAt w c o ss) :
    Calls Tryd.prog 31 #[DV s (some ⟨c, o, none⟩) ss.length cap] w fun e w' => e = .returned (.string (flT ss)) ∧ Below w.heap.size w w' := by
  have HZ := Lib.hid hz
  clear hz
  generalize hN : ss.length = n at *
  have HN : Hid (ss.length = n) := hN
  clear hN
  obtain ⟨i0, hi, hz0, hz1, hz2⟩ := info_parts info5'
  have D0 := DAt.new 27 w s (.slice (some ⟨c, o, none⟩) n cap)
  go_enter Tryd.func31, Tryd.ntmps31
  go_wp2
  go_loopw [3, 4] (fun v i wr => ∃ k : Nat, i = .int .i64 k ∧ k ≤ n ∧ wr.ownsRow (w.heap.size + 1) 5 1 v (fl (ss.take k)).length (Lib.byteCells (fl (ss.take k))) ∧ Hid (Below (w.heap.size + 1) (w.alloc (.cells #[.string s, .slice (some ⟨c, o, none⟩) n cap] 27)) wr)) (fun _ i _ => n - (intOf i).toNat)
  case atStart =>
    refine ⟨0, rfl, Nat.zero_le _, ?_, ?_⟩
    · rw [fl_zero]
      have := World.ownsRow_lit (w.alloc (.cells #[.string s, .slice (some ⟨c, o, none⟩) n cap] 27)) #[] 0 (base := w.heap.size + 1) (e := 5) (size := 1) (by simp) (Nat.zero_le _) rfl
      simpa [Lib.byteCells] using this
    · show Below _ _ _
      have := bA0 (w.alloc (.cells #[.string s, .slice (some ⟨c, o, none⟩) n cap] 27)) (.cells #[] 5)
      simpa using this
  case round =>
    obtain ⟨k, rfl, hk, hown, H2⟩ := hrel
    have hk0 : (0 : Int) ≤ (k : Int) := by omega
    have DR : Hid (DAt 27 wr w.heap.size s (.slice (some ⟨c, o, none⟩) n cap)) := (H2.out.block w.heap.size (by omega)).trans D0
    obtain ⟨c0, c1⟩ := DR.out.cells
    have hwr := H2.out.size
    by_cases h1 : k < n
    · have h1' : (k : Int) < (n : Int) := by omega
      have hlt : k < ss.length := by rw [HN.out]; exact h1
      have hc : wr.cell? ⟨c, o + k, none⟩ = some (.string (at0 ss k)) := by
        rw [H2.out.cell (Nat.lt_succ_of_lt HZ.out.1), (bA0 w _).cell HZ.out.1]; exact HZ.out.2 k hlt
      have E := tot_step ss k hlt
      have T1 := tot_take ss (k + 1)
      have FE := Lib.hid (fl_step ss k hlt)
      have FL := fl_len (ss.take k)
      have hsm : (fl (ss.take k)).length + (at0 ss k).size ≤ 4000000 := by omega
      clear hlt E T1 FL
      generalize at0 ss k = z at *
      generalize hl : fl (ss.take k) = l at *
      clear hl
      go_wp2_with (first | (at_builtin; refine Lib.wpList_append_own_string _ rfl (.tmp 13) (.tmp 18) 44 9 rfl (w.heap.size + 1) 5 i0 Tryd.underlying44 Tryd.underlying9 hi hz0 hz1 hz2 _ _ _ rfl hown z rfl (by unfold maxLen; omega) (by omega) (by simp at hwr; omega) ?_))
      intro v' w' own' grow' _
      rw [str_cells, ← FE.out] at own'
      have O3 : Hid (w'.ownsRow (w.heap.size + 1) 5 1 v' (fl (ss.take (k + 1))).length (Lib.byteCells (fl (ss.take (k + 1))))) := by
        have e : (fl (ss.take (k + 1))).length = l.length + z.size := by rw [FE.out]; simp
        show World.ownsRow _ _ _ _ _ _ _
        rw [e]; exact own'
      have B3 : Hid (Below (w.heap.size + 1) (w.alloc (.cells #[.string s, .slice (some ⟨c, o, none⟩) n cap] 27)) w') := H2.out.grown grow' (by simp at hwr; omega) (fun j hj => (hown.lt j hj).1)
      clear own' grow' hown
      go_wp2
      go_roundw
      case rel => exact ⟨k + 1, by go_num, by omega, O3.out, B3⟩
      case measure => simp [intOf]; omega
    · have h1' : ¬ (k : Int) < (n : Int) := by omega
      have h3 := HN.out
      rw [fl_all ss k (by omega)] at hown
      have hcv : Sem.run Tryd.prog (convert 44 9 u3) wr = .ok (.string (flT ss)) wr := own_text hown
      have B4 : Hid (Below w.heap.size w wr) := (bA0 w _).trans (H2.out.mono (by omega))
      clear h3 hown
      go_wp2
      go_ret
      exact ⟨rfl, B4.out⟩

theorem sloose_any (s : ByteArray) (sl : Option Addr) (cap : Nat) (ss : List ByteArray) (w : World) (hn : ss.length ≤ 1048576) (ht : tot ss ≤ 4000000) (hz : Strs w sl ss) :
    Calls Tryd.prog 31 #[DV s sl ss.length cap] w fun e w' => e = .returned (.string (flT ss)) ∧ Below w.heap.size w w' := by
  rcases hz with rfl | ⟨c, o, rfl, hz⟩
  · exact sloose_nil s sl cap w
  · exact sloose_some s c o cap ss w hn ht hz

set_option maxHeartbeats 1000000 in
theorem sdt_no (s : ByteArray) (sl : Option Addr) (cap : Nat) (ss : List ByteArray) (w : World) (hz : Strs w sl ss) (hr : dR s ss = false) :
    Calls Tryd.prog 19 #[DV s sl ss.length cap] w fun e w' => e = .returned (.string ⟨#[]⟩) ∧ Below w.heap.size w w' := by
  have R : Hid (∀ w1, Below w.heap.size w w1 → Calls Tryd.prog 26 #[DV s sl ss.length cap] w1 fun e w' => e = .returned (.bool false) ∧ Below w1.heap.size w1 w') := fun w1 hb => by
    have := sdr_any s sl cap ss w1 (hz.below hb); rwa [hr] at this
  clear hz hr
  generalize ss.length = n at *
  go_enter Tryd.func19, Tryd.ntmps19
  go_wp2_with fail
  refine (R.out _ (bA0 _ _)).mono ?_
  rintro e w1 ⟨rfl, b1⟩
  go_wp2
  go_ret
  exact ⟨rfl, bT (bA0 _ _) b1⟩

set_option maxHeartbeats 1000000 in
theorem sdt_yes (s : ByteArray) (sl : Option Addr) (cap : Nat) (ss : List ByteArray) (w : World) (hz : Strs w sl ss) (hr : dR s ss = true) :
    Calls Tryd.prog 19 #[DV s sl ss.length cap] w fun e w' => e = .returned (.string (s ++ flT ss)) ∧ Below w.heap.size w w' := by
  have hp := dR_parts hr
  have R : Hid (∀ w1, Below w.heap.size w w1 → Calls Tryd.prog 26 #[DV s sl ss.length cap] w1 fun e w' => e = .returned (.bool true) ∧ Below w1.heap.size w1 w') := fun w1 hb => by
    have := sdr_any s sl cap ss w1 (hz.below hb); rwa [hr] at this
  have L : Hid (∀ w1, Below w.heap.size w w1 → Calls Tryd.prog 31 #[DV s sl ss.length cap] w1 fun e w' => e = .returned (.string (flT ss)) ∧ Below w1.heap.size w1 w') := fun w1 hb =>
    sloose_any s sl cap ss w1 (by omega) (by omega) (hz.below hb)
  have hcat : ¬ s.size + (flT ss).size > 9223372036854775807 := by rw [flT_size]; omega
  clear hz hr hp
  generalize ss.length = n at *
  generalize flT ss = F at *
  have D0 := DAt.new 27 w s (.slice sl n cap)
  go_enter Tryd.func19, Tryd.ntmps19
  go_wp2_with fail
  refine (R.out _ (bA0 _ _)).mono ?_
  rintro e w1 ⟨rfl, b1⟩
  have D1 := Lib.hid (D0.below b1)
  have B1 := Lib.hid (bT (bA0 _ _) b1)
  clear b1 D0
  obtain ⟨c0, c1⟩ := D1.out.cells
  have hlt := D1.out.lt
  go_wp2_with fail
  go_region_held3 (fun w' => w.heap.size < w'.heap.size ∧ w'.cell? ⟨w.heap.size, 0, none⟩ = some (.string s) ∧ w'.cell? ⟨w.heap.size, 1, none⟩ = some (.slice sl n cap))
    (first | exact ⟨hlt, c0, c1⟩ | exact ⟨Nat.lt_of_lt_of_le hlt b5.size, (b5.cell hlt).trans c0, (b5.cell hlt).trans c1⟩)
    (first | (go_at_call 31; refine (L.out _ (by first | exact B1.out | exact B1.out.drew | exact below_drewN B1.out _)).mono ?_; rintro e w5 ⟨rfl, b5⟩))
  have B5 := Lib.hid (bT B1.out.drew b5)
  clear b5 B1 D1 c0 c1
  go_wp2
  go_ret
  exact ⟨rfl, B5.out⟩

theorem sdt_any (s : ByteArray) (sl : Option Addr) (cap : Nat) (ss : List ByteArray) (w : World) (hz : Strs w sl ss) :
    Calls Tryd.prog 19 #[DV s sl ss.length cap] w fun e w' => e = .returned (.string (dT s ss)) ∧ Below w.heap.size w w' := by
  unfold dT
  cases hr : dR s ss
  · simpa using sdt_no s sl cap ss w hz hr
  · simpa using sdt_yes s sl cap ss w hz hr

end Go.Proofs.YtmffoannknkjkaaDoor
namespace Go.Proofs.YtmffoannknkjkaaDoor
open Go.RowKit
set_option linter.unusedVariables false

/-! ### Rows of texts of the call's own -/
def OwnS (w : World) (B : Nat) (v : Value) (ss : List ByteArray) : Prop := w.ownsRow B 9 1 v ss.length (ss.map Value.string)
theorem OwnS.below {w w' : World} {B : Nat} {v : Value} {ss : List ByteArray} (h : OwnS w B v ss) (hb : Below w.heap.size w w') : OwnS w' B v ss := by
  refine ⟨h.1, ?_⟩
  rcases h.2 with h | ⟨g, cap, cur, hv, hg, hh, r⟩
  · exact .inl h
  · exact .inr ⟨g, cap, cur, hv, hg, (hb.block g (Array.getElem?_eq_some_iff.1 hh).1).trans hh, r⟩
theorem OwnS.mono {w : World} {B B' : Nat} {v : Value} {ss : List ByteArray} (h : OwnS w B v ss) (hB : B' ≤ B) : OwnS w B' v ss := by
  refine ⟨h.1, ?_⟩
  rcases h.2 with h | ⟨g, cap, cur, hv, hg, r⟩
  · exact .inl h
  · exact .inr ⟨g, cap, cur, hv, Nat.le_trans hB hg, r⟩
theorem OwnS.set {w : World} {B : Nat} {v : Value} {ss : List ByteArray} (h : OwnS w B v ss) {b : Nat} (hb : b < B) (i : Nat) (u : Value) : OwnS (w.setCell ⟨b, i, none⟩ u) B v ss := by
  refine ⟨h.1, ?_⟩
  rcases h.2 with h | ⟨g, cap, cur, hv, hg, hh, r⟩
  · exact .inl h
  · exact .inr ⟨g, cap, cur, hv, hg, (Below.heap_setCell _ _ _ _ (show g ≠ b by omega)).trans hh, r⟩
theorem OwnS.nil (w : World) (B : Nat) : OwnS w B (.slice none 0 0) [] := World.ownsRow_nil w B 9 1
theorem OwnS.strs {w : World} {B : Nat} {v : Value} {ss : List ByteArray} (h : OwnS w B v ss) : ∃ sl cap, v = .slice sl ss.length cap ∧ Strs w sl ss := by
  rcases h.2 with ⟨rfl, h0⟩ | ⟨g, cap, cur, rfl, hg, hh, hr⟩
  · obtain rfl : ss = [] := List.eq_nil_of_length_eq_zero h0
    exact ⟨none, 0, rfl, .inl rfl⟩
  · refine ⟨_, cap, rfl, .inr ⟨g, 0, rfl, (Array.getElem?_eq_some_iff.1 hh).1, fun i hi => ?_⟩⟩
    have := World.ownsRow.cellAt h i (by omega)
    rw [Nat.zero_add, this]
    simp [at0, hi]
theorem OwnS.row {w : World} {B b : Nat} {ss : List ByteArray} (h : RowAt w b (vsOf ss ss.length)) (hb : B ≤ b) (hn : ss.length ≤ maxLen) : OwnS w B (.slice (some ⟨b, 0, none⟩) ss.length ss.length) ss := by
  have e : vsOf ss ss.length = (ss.map Value.string).toArray := by simp [vsOf]
  unfold RowAt at h
  rw [e] at h
  exact ⟨by simp, .inr ⟨b, _, _, rfl, hb, h, Nat.le_refl _, hn, by simp, List.take_of_length_le (by simp)⟩⟩
theorem OwnS.grown {w w' : World} {B : Nat} {v : Value} {ss : List ByteArray} {row : Option Nat} (h : OwnS w B v ss) (hg : w.grownBy w' row) (hne : ∀ k, row = some k → v.ownBlock ≠ some k) : OwnS w' B v ss :=
  World.ownsRow.kept h hg (by
    cases row with
    | none => cases e : v.ownBlock <;> simp
    | some k => exact .inr (hne k rfl))
theorem grown_trans {w w1 w2 : World} {row : Option Nat} (h : w.grownBy w1 row) (h2 : w1.grownBy w2 row) : w.grownBy w2 row :=
  ⟨h2.os.trans h.os, h2.tape.trans h.tape, h2.output.trans h.output, Nat.le_trans h.size h2.size, fun k hk hne => (h2.block k (Nat.lt_of_lt_of_le hk h.size) hne).trans (h.block k hk hne)⟩
theorem grown_below {w w1 : World} (row : Option Nat) (h : Below w.heap.size w w1) : w.grownBy w1 row := ⟨h.os, h.tape, h.output, h.size, fun k hk _ => h.block k hk⟩
theorem DAt.grown {t : TypeId} {w w' : World} {b : Nat} {s : ByteArray} {v : Value} {row : Option Nat} (h : DAt t w b s v) (hg : w.grownBy w' row) (hne : row ≠ some b) : DAt t w' b s v := (hg.block b h.lt (fun e => hne e.symm)).trans h

/-! ### A mark's text -/
/-- The digits of k ahead of out. -/
def dg (k : Nat) (out : ByteArray) : ByteArray := if h : k = 0 then out else dg (k / 10) (⟨#[(48 + k % 10).toUInt8]⟩ ++ out)
termination_by k
decreasing_by omega
theorem dg_zero (out : ByteArray) : dg 0 out = out := by rw [dg]; simp
theorem dg_step (k : Nat) (h : k ≠ 0) (out : ByteArray) : dg k out = dg (k / 10) (⟨#[(48 + k % 10).toUInt8]⟩ ++ out) := by rw [dg]; simp [h]
def mkT (k : Nat) : ByteArray := ⟨#[109]⟩ ++ dg k ⟨#[]⟩

set_option maxHeartbeats 1000000 in
theorem markT_any (k0 : Nat) (h0 : 0 < k0) (h1 : k0 ≤ 4000000) (w : World) :
    Calls Tryd.prog 25 #[.int .i64 k0] w fun e w' => e = .returned (.string (mkT k0)) ∧ Below w.heap.size w w' := by
  have h0' : ¬ (k0 : Int) ≤ 0 := by omega
  go_enter Tryd.func25, Tryd.ntmps25
  go_wp2
  go_loopw [0, 3] (fun i s wr => ∃ (k : Nat) (out : ByteArray), i = .int .i64 k ∧ s = .string out ∧ Hid (dg k out = dg k0 ⟨#[]⟩) ∧ out.size + k ≤ 4000000 ∧ Hid (Below w.heap.size w wr)) (fun i _ _ => (intOf i).toNat)
  case atStart => exact ⟨k0, ⟨#[]⟩, rfl, rfl, rfl, by show 0 + k0 ≤ _; omega, Below.refl _ _⟩
  case round =>
    obtain ⟨k, out, rfl, rfl, H1, hsz, H2⟩ := hrel
    by_cases hk : k = 0
    · subst hk
      have E : Hid (mkT k0 = ⟨#[109]⟩ ++ out) := by show _ = _; unfold mkT; rw [← H1.out, dg_zero]
      have hcat : ¬ 1 + out.size > 9223372036854775807 := by omega
      go_wp2
      go_ret
      exact ⟨by rw [E.out]; rfl, H2.out⟩
    · have hk' : (0 : Int) < (k : Int) := by omega
      have E : Hid (dg (k / 10) (⟨#[(48 + k % 10).toUInt8]⟩ ++ out) = dg k0 ⟨#[]⟩) := by show _ = _; rw [← H1.out, ← dg_step k hk]
      have hcv : Sem.run Tryd.prog (convert 44 9 (.slice (some ⟨wr.heap.size, 0, none⟩) 1 1)) (wr.alloc (.cells #[.int .u8 (48 + (k : Int) % 10)] 5)) = .ok (.string ⟨#[(48 + k % 10).toUInt8]⟩) (wr.alloc (.cells #[.int .u8 (48 + (k : Int) % 10)] 5)) := by
        have hb : BAt (wr.alloc (.cells #[.int .u8 (48 + (k : Int) % 10)] 5)) wr.heap.size (Lib.byteCells [(48 + k % 10).toUInt8]) := by
          show (wr.heap.push _)[wr.heap.size]? = _
          have e : ((48 + k % 10).toUInt8.toNat : Int) = 48 + (k : Int) % 10 := by
            have : (48 + k % 10).toUInt8.toNat = 48 + k % 10 := by simp; omega
            rw [this]; omega
          simp only [Lib.byteCells, List.map_cons, List.map_nil, e]
          simp
        exact hb.text (cap := 1)
      have hcat : ¬ 1 + out.size > 9223372036854775807 := by omega
      have hS : Hid (((⟨#[(48 + k % 10).toUInt8]⟩ : ByteArray) ++ out).size + k / 10 ≤ 4000000) := by show _ ≤ _; rw [ByteArray.size_append]; show 1 + _ + _ ≤ _; omega
      have hS1 : Hid ((⟨#[(48 + k % 10).toUInt8]⟩ : ByteArray).size = 1) := rfl
      have hq : Hid ((k : Int) / 10 = ((k / 10 : Nat) : Int)) := by show _ = _; omega
      generalize (⟨#[(48 + k % 10).toUInt8]⟩ : ByteArray) = D at *
      have hcat2 : ¬ D.size + out.size > 9223372036854775807 := by have := hS1.out; omega
      go_wp2
      go_roundw
      case rel => exact ⟨k / 10, D ++ out, by rw [hq.out], rfl, E, hS.out, bA H2.out _⟩
      case measure => simp [intOf]; omega

/-! ### A list's marks -/
def marks (n : Nat) : List ByteArray := (List.range n).map fun i => mkT (1 + i)
theorem marks_len (n : Nat) : (marks n).length = n := by simp [marks]
/-- The first k marked. -/
def mst (ss : List ByteArray) (k : Nat) : List ByteArray := (marks ss.length).take k ++ ss.drop k
theorem mst_len (ss : List ByteArray) (k : Nat) (h : k ≤ ss.length) : (mst ss k).length = ss.length := by simp [mst, marks_len]; omega
theorem mst_zero (ss : List ByteArray) : mst ss 0 = ss := by simp [mst]
theorem mst_all (ss : List ByteArray) (k : Nat) (h : ss.length ≤ k) : mst ss k = marks ss.length := by
  rw [mst, List.take_of_length_le (by rw [marks_len]; exact h), List.drop_of_length_le h, List.append_nil]
theorem mst_step (ss : List ByteArray) (k : Nat) (h : k < ss.length) : (mst ss k).set k (mkT (1 + k)) = mst ss (k + 1) := by
  apply List.ext_getElem
  · rw [List.length_set, mst_len ss k (by omega), mst_len ss (k + 1) (by omega)]
  · intro i h1 h2
    rw [List.length_set, mst_len ss k (by omega)] at h1
    rw [List.getElem_set]
    simp only [mst]
    have hm := marks_len ss.length
    by_cases e : k = i
    · subst e
      rw [if_pos rfl, List.getElem_append_left (by simp [hm]; omega)]
      simp [marks]
    · rw [if_neg e]
      by_cases hlt : i < k
      · rw [List.getElem_append_left (by simp [hm]; omega), List.getElem_append_left (by simp [hm]; omega)]
        simp
      · rw [List.getElem_append_right (by simp [hm]; omega), List.getElem_append_right (by simp [hm]; omega)]
        simp only [List.length_take, hm, List.getElem_drop]
        congr 1
        omega
theorem OwnS.stored {w : World} {B g cap : Nat} {ss : List ByteArray} (h : OwnS w B (.slice (some ⟨g, 0, none⟩) ss.length cap) ss) (k : Nat) (x : ByteArray) : OwnS (w.setCell ⟨g, k, none⟩ (.string x)) B (.slice (some ⟨g, 0, none⟩) ss.length cap) (ss.set k x) ∧ w.grownBy (w.setCell ⟨g, k, none⟩ (.string x)) (some g) := by
  have := World.ownsRow.stored h k (.string x)
  refine ⟨?_, this.2⟩
  unfold OwnS
  rw [List.length_set, List.map_set]
  exact this.1

set_option maxHeartbeats 400000 in
theorem markS_nil (sl : Option Addr) (cap : Nat) (w : World) :
    Calls Tryd.prog 12 #[.slice sl 0 cap, .int .i64 1] w fun e w' => e = .returned (.int .i64 1) ∧ w' = w := by
  go_enter Tryd.func12, Tryd.ntmps12
  go_wp2
  refine wp_loop_rounds 1 ?_
  rw [rounds_succ]
  go_wp2
  go_ret
  exact ⟨rfl, rfl⟩

set_option maxHeartbeats 400000 in
theorem heldS_nil (sl : Option Addr) (cap : Nat) (w : World) :
    Calls Tryd.prog 13 #[.slice sl 0 cap, .int .i64 1] w fun e w' => e = .returned (.int .i64 1) ∧ w' = w := by
  go_enter Tryd.func13, Tryd.ntmps13
  go_wp2
  refine wp_loop_rounds 1 ?_
  rw [rounds_succ]
  go_wp2
  go_ret
  exact ⟨rfl, rfl⟩

set_option maxHeartbeats 1000000 in
theorem markS_some (B g cap : Nat) (ss : List ByteArray) (w : World) (hn : ss.length ≤ 1048577) (h : OwnS w B (.slice (some ⟨g, 0, none⟩) ss.length cap) ss) :
    Calls Tryd.prog 12 #[.slice (some ⟨g, 0, none⟩) ss.length cap, .int .i64 1] w fun e w' => e = .returned (.int .i64 (1 + (ss.length : Int))) ∧ OwnS w' B (.slice (some ⟨g, 0, none⟩) ss.length cap) (marks ss.length) ∧ w.grownBy w' (some g) := by
  have HM : Hid (OwnS w B (.slice (some ⟨g, 0, none⟩) ss.length cap) ss) := h
  have hB := (World.ownsRow.lt h g rfl).1
  clear h
  generalize hN : ss.length = n at *
  have HN : Hid (ss.length = n) := hN
  clear hN
  go_enter Tryd.func12, Tryd.ntmps12
  go_wp2
  go_loopw [1, 5] (fun m i wr => ∃ k : Nat, i = .int .i64 k ∧ m = .int .i64 (1 + (k : Int)) ∧ k ≤ n ∧ Hid (OwnS wr B (.slice (some ⟨g, 0, none⟩) n cap) (mst ss k)) ∧ Hid (w.grownBy wr (some g))) (fun _ i _ => n - (intOf i).toNat)
  case atStart => exact ⟨0, rfl, rfl, Nat.zero_le _, (by show OwnS _ _ _ _; rw [mst_zero]; exact HM.out), World.grownBy.refl _ _⟩
  case round =>
    obtain ⟨k, rfl, rfl, hk, H1, H2⟩ := hrel
    have hk0 : (0 : Int) ≤ (k : Int) := by omega
    by_cases h1 : k < n
    · have h1' : (k : Int) < (n : Int) := by omega
      have hlt : k < ss.length := by rw [HN.out]; exact h1
      have ML := mst_len ss k (by omega)
      have MT : Hid (∀ w1, Calls Tryd.prog 25 #[.int .i64 (1 + (k : Int))] w1 fun e w' => e = .returned (.string (mkT (1 + k))) ∧ Below w1.heap.size w1 w') := fun w1 => by
        have := markT_any (1 + k) (by omega) (by omega) w1
        rwa [show ((1 + k : Nat) : Int) = 1 + (k : Int) by omega] at this
      have MS := Lib.hid (mst_step ss k hlt)
      have O1 : Hid (OwnS wr B (.slice (some ⟨g, 0, none⟩) (mst ss k).length cap) (mst ss k)) := by show OwnS _ _ _ _; rw [ML, HN.out]; exact H1.out
      have NL : Hid ((mst ss k).length = n) := ML.trans HN.out
      clear hlt ML H1
      go_wp2_with fail
      refine (MT.out _).mono ?_
      rintro e w5 ⟨rfl, b5⟩
      have O5 := Lib.hid (O1.out.below b5)
      have G5 := Lib.hid (grown_trans H2.out (grown_below (some g) b5))
      have hcl := (World.ownsRow.cellAt O5.out k (by rw [NL.out]; omega))
      have hf := (World.ownsRow.frozenAt O5.out k)
      rw [List.getElem?_map, List.getElem?_eq_getElem (by rw [NL.out]; omega)] at hcl
      simp only [Option.map_some] at hcl
      obtain ⟨zz, hzz⟩ : ∃ zz, zz = (mst ss k)[k]'(by rw [NL.out]; omega) := ⟨_, rfl⟩
      rw [← hzz] at hcl
      clear hzz b5 O1 H2 MT
      have S5 := O5.out.stored k (mkT (1 + k))
      rw [MS.out, NL.out] at S5
      have O6 := Lib.hid S5.1
      have G6 := Lib.hid (grown_trans G5.out S5.2)
      clear S5 O5 G5
      generalize mkT (1 + k) = x at *
      go_wp2
      go_roundw
      case rel => exact ⟨k + 1, by go_num, by go_num, by omega, O6, G6⟩
      case measure => simp [intOf]; omega
    · have h1' : ¬ (k : Int) < (n : Int) := by omega
      have hkn : k = n := by omega
      have H4 : Hid (OwnS wr B (.slice (some ⟨g, 0, none⟩) n cap) (marks n) ∧ (1 + (k : Int)) = 1 + (n : Int)) := by
        refine ⟨?_, by omega⟩
        have h3 := H1.out
        rw [mst_all ss k (by rw [HN.out]; omega), HN.out] at h3
        exact h3
      clear hkn H1
      go_wp2
      go_ret
      exact ⟨by rw [← H4.out.2]; rfl, H4.out.1, H2.out⟩

set_option maxHeartbeats 1000000 in
theorem heldS_some (B g cap n : Nat) (w : World) (hn : n ≤ 1048577) (h : OwnS w B (.slice (some ⟨g, 0, none⟩) n cap) (marks n)) :
    Calls Tryd.prog 13 #[.slice (some ⟨g, 0, none⟩) n cap, .int .i64 1] w fun e w' => e = .returned (.int .i64 (1 + (n : Int))) ∧ Below w.heap.size w w' := by
  have HM : Hid (OwnS w B (.slice (some ⟨g, 0, none⟩) (marks n).length cap) (marks n)) := by show OwnS _ _ _ _; rw [marks_len]; exact h
  have hg := (World.ownsRow.lt h g rfl).2
  clear h
  go_enter Tryd.func13, Tryd.ntmps13
  go_wp2
  go_loopw [1, 5] (fun m i wr => ∃ k : Nat, i = .int .i64 k ∧ m = .int .i64 (1 + (k : Int)) ∧ k ≤ n ∧ Hid (Below w.heap.size w wr)) (fun _ i _ => n - (intOf i).toNat)
  case atStart => exact ⟨0, rfl, rfl, Nat.zero_le _, Below.refl _ _⟩
  case round =>
    obtain ⟨k, rfl, rfl, hk, H2⟩ := hrel
    have hk0 : (0 : Int) ≤ (k : Int) := by omega
    by_cases h1 : k < n
    · have h1' : (k : Int) < (n : Int) := by omega
      have MT : Hid (∀ w1, Calls Tryd.prog 25 #[.int .i64 (1 + (k : Int))] w1 fun e w' => e = .returned (.string (mkT (1 + k))) ∧ Below w1.heap.size w1 w') := fun w1 => by
        have := markT_any (1 + k) (by omega) (by omega) w1
        rwa [show ((1 + k : Nat) : Int) = 1 + (k : Int) by omega] at this
      have hc0 : w.cell? ⟨g, k, none⟩ = some (.string (mkT (1 + k))) := by
        have := World.ownsRow.cellAt HM.out k (by rw [marks_len]; omega)
        rw [this]
        simp [marks, h1]
      have hc : wr.cell? ⟨g, k, none⟩ = some (.string (mkT (1 + k))) := by rw [H2.out.cell hg]; exact hc0
      have hgr := Nat.lt_of_lt_of_le hg H2.out.size
      clear hc0
      generalize mkT (1 + k) = x at *
      have hxx : (x.toList != x.toList) = false := by simp
      go_wp2_with fail
      go_region_held3 (fun w' => g < w'.heap.size ∧ w'.cell? ⟨g, k, none⟩ = some (.string x)) (first | exact ⟨hgr, hc⟩ | exact ⟨Nat.lt_of_lt_of_le hgr b5.size, (b5.cell hgr).trans hc⟩) (first | (go_at_call 25; refine (MT.out _).mono ?_; rintro e w5 ⟨rfl, b5⟩))
      have B5 := Lib.hid (bT H2.out.drew b5)
      clear b5 H2 hc
      go_wp2
      go_roundw
      case rel => exact ⟨k + 1, by go_num, by go_num, by omega, B5⟩
      case measure => simp [intOf]; omega
    · have h1' : ¬ (k : Int) < (n : Int) := by omega
      have H4 : Hid ((1 + (k : Int)) = 1 + (n : Int)) := by show _ = _; omega
      go_wp2
      go_ret
      exact ⟨by rw [← H4.out]; rfl, H2.out⟩

theorem markS_any (B : Nat) (v : Value) (ss : List ByteArray) (w : World) (hn : ss.length ≤ 1048577) (h : OwnS w B v ss) :
    Calls Tryd.prog 12 #[v, .int .i64 1] w fun e w' => e = .returned (.int .i64 (1 + (ss.length : Int))) ∧ OwnS w' B v (marks ss.length) ∧ w.grownBy w' v.ownBlock := by
  rcases h.2 with ⟨rfl, h0⟩ | ⟨g, cap, cur, rfl, _⟩
  · obtain rfl : ss = [] := List.eq_nil_of_length_eq_zero h0
    refine (markS_nil none 0 w).mono ?_
    rintro e w' ⟨rfl, rfl⟩
    exact ⟨rfl, h, World.grownBy.refl _ _⟩
  · exact markS_some B g cap ss w hn h
theorem heldS_any (B n : Nat) (v : Value) (w : World) (hn : n ≤ 1048577) (h : OwnS w B v (marks n)) :
    Calls Tryd.prog 13 #[v, .int .i64 1] w fun e w' => e = .returned (.int .i64 (1 + (n : Int))) ∧ Below w.heap.size w w' := by
  rcases h.2 with ⟨rfl, h0⟩ | ⟨g, cap, cur, rfl, _⟩
  · rw [marks_len] at h0
    subst h0
    refine (heldS_nil none 0 w).mono ?_
    rintro e w' ⟨rfl, rfl⟩
    exact ⟨rfl, Below.refl _ _⟩
  · rw [marks_len] at h ⊢
    exact heldS_some B g cap n w hn h

/-! ### Marked disks -/
set_option maxHeartbeats 1000000 in
theorem markD_any (B : Nat) (s : ByteArray) (v : Value) (ss : List ByteArray) (w : World) (hn : ss.length ≤ 1048577) (h : OwnS w B v ss) :
    Calls Tryd.prog 11 #[.agg #[.string s, v], .int .i64 1] w fun e w' => e = .returned (.int .i64 (1 + (ss.length : Int))) ∧ OwnS w' B v (marks ss.length) ∧ w.grownBy w' v.ownBlock := by
  have M : Hid (Calls Tryd.prog 12 #[v, .int .i64 1] (w.alloc (.cells #[.string s, v] 27)) fun e w' => e = .returned (.int .i64 (1 + (ss.length : Int))) ∧ OwnS w' B v (marks ss.length) ∧ (w.alloc (.cells #[.string s, v] 27)).grownBy w' v.ownBlock) :=
    markS_any B v ss _ hn (h.below (bA0 _ _))
  obtain ⟨sl, cap, rfl, -⟩ := h.strs
  clear h
  generalize ss.length = n at *
  go_enter Tryd.func11, Tryd.ntmps11
  go_wp2_with fail
  refine M.out.mono ?_
  rintro e w1 ⟨rfl, o1, g1⟩
  have O1 := Lib.hid o1
  have G1 := Lib.hid (grown_trans (World.grownBy_alloc w _ _) g1)
  clear o1 g1
  go_wp2
  go_ret
  exact ⟨rfl, O1.out, G1.out⟩
set_option maxHeartbeats 1000000 in
theorem heldD_any (B n : Nat) (s : ByteArray) (v : Value) (w : World) (hn : n ≤ 1048577) (h : OwnS w B v (marks n)) :
    Calls Tryd.prog 16 #[.agg #[.string s, v], .int .i64 1] w fun e w' => e = .returned (.int .i64 (1 + (n : Int))) ∧ Below w.heap.size w w' := by
  have M : Hid (Calls Tryd.prog 13 #[v, .int .i64 1] (w.alloc (.cells #[.string s, v] 27)) fun e w' => e = .returned (.int .i64 (1 + (n : Int))) ∧ Below (w.alloc (.cells #[.string s, v] 27)).heap.size (w.alloc (.cells #[.string s, v] 27)) w') :=
    heldS_any B n v _ hn (h.below (bA0 _ _))
  obtain ⟨sl, cap, rfl, -⟩ := h.strs
  have hp : ¬ (1 + (n : Int)) < 0 := by omega
  clear h
  go_enter Tryd.func16, Tryd.ntmps16
  go_wp2_with fail
  refine M.out.mono ?_
  rintro e w1 ⟨rfl, b1⟩
  have B1 := Lib.hid (bT (bA0 _ _) b1)
  clear b1
  go_wp2
  go_ret
  exact ⟨rfl, B1.out⟩

end Go.Proofs.YtmffoannknkjkaaDoor
namespace Go.Proofs.YtmffoannknkjkaaDoor
open Go.RowKit
set_option linter.unusedVariables false

theorem info9' : (Tryd.prog.info? 9).map (fun i => (i.zero, i.size, i.bytes)) = some (some (.string ⟨#[]⟩), 1, 16) := by kernel_rfl
theorem size9 : (Tryd.prog.info? 9).map (·.size) = some 1 := by kernel_rfl

theorem DAt.set2 {t : TypeId} {w : World} {b : Nat} {s : ByteArray} {v : Value} (h : DAt t w b s v) (s' : ByteArray) (v' : Value) : DAt t ((w.setCell ⟨b, 0, none⟩ (.string s')).setCell ⟨b, 1, none⟩ v') b s' v' :=
  heap_setCell_same _ b 1 _ t _ (heap_setCell_same w b 0 _ t _ h)

/-- Texts appended to an empty list of the call's own. -/
theorem run_append_strs {w : World} (ty : TypeId) (B b : Nat) (hown : OwnS w B (.slice (some ⟨b, 0, none⟩) 0 0) []) (sl : Option Addr) (c : Nat) (ss : List ByteArray) (hz : Strs w sl ss) (hn : ss.length ≤ 1048577) (hbase : B ≤ w.heap.size) :
    ∃ v' w', (Builtin.append_ #[22, 22] ty #[.slice (some ⟨b, 0, none⟩) 0 0, .slice sl ss.length c]).run Tryd.prog w = .ok v' w' ∧ OwnS w' B v' ss ∧ w.grownBy w' (some b) := by
  obtain ⟨i9, hi, h0, h1, h2⟩ := info_parts info9'
  by_cases he : ss = []
  · subst he
    have S : Src Tryd.prog i9.size 22 (.slice sl 0 c) 0 [] w := by
      cases sl with
      | none => exact Src.ofNil w Tryd.underlying22 c
      | some a => exact Src.ofSlice w Tryd.underlying22 a 0 c [] (by simp) (by simp) (by simp)
    exact ⟨_, _, run_append_room_src (P := Tryd.prog) w 22 22 ty 9 i9 Tryd.underlying22 hi b 0 0 0 (.slice sl 0 c) 0 [] S (by omega) (by simp) (by simp), hown, World.grownBy.refl _ _⟩
  · rcases hz with hz | ⟨c0, o, rfl, hz⟩
    · exact absurd hz he
    · have hp : 0 < ss.length := List.length_pos_iff.2 he
      obtain ⟨g, cap, w', hr, h3, h4, -⟩ := run_append_lies (P := Tryd.prog) w 22 ty B 9 i9 (.string ⟨#[]⟩) 1 16 Tryd.underlying22 hi h0 h1 h2 rfl (by decide) _ _ _ hown ⟨c0, o, none⟩ ss.length c (ss.map Value.string) (by simp) (fun j u hu => by
        have hj : j < ss.length := by simpa using (List.getElem?_eq_some_iff.1 hu).1
        have ha : (⟨c0, o, none⟩ : Addr).add j = ⟨c0, o + j, none⟩ := by
          unfold Addr.add
          by_cases h : j = 0 <;> simp [h]
        rw [ha, hz.2 j hj, ← hu]
        simp [at0, hj]) (by intro u hu; obtain ⟨x, _, rfl⟩ := List.mem_map.1 hu; rfl) hp (by unfold maxLen; simp; omega) (by simp; omega) hbase _ rfl
      refine ⟨_, w', hr, ?_, h4⟩
      have h5 := h3
      simp only [List.length_nil, Nat.zero_add, List.map_nil, List.nil_append] at h5
      show World.ownsRow _ _ _ _ _ _ _
      simpa using h5
theorem step_append_strs {w : World} {ops : Array Oper} {o : Oper} {a : Act} {K : Act → World → Prop} {Q : Exit → Act → World → Prop} {E : Prop} (hgd : o.guard = none) (s x : Operand)
    (ho : o.op = .call { callee := .builtin .append, args := #[s, x], argTypes := #[22, 22] }) (B b : Nat) (hs : a.eval s = .slice (some ⟨b, 0, none⟩) 0 0) (hown : OwnS w B (.slice (some ⟨b, 0, none⟩) 0 0) [])
    (sl : Option Addr) (c : Nat) (ss : List ByteArray) (n : Nat) (hN : ss.length = n) (hx : a.eval x = .slice sl n c) (hz : Strs w sl ss) (hn : ss.length ≤ 1048577) (hbase : B ≤ w.heap.size)
    (h : ∀ sl' c' w', OwnS w' B (.slice sl' n c') ss → w.grownBy w' (some b) → K (a.put o.dst (.slice sl' n c')) w') :
    if Region.wanted o (yielded ops a.tmps) = true then Oper.wp Tryd.prog o a w K Q else E := by
  have hw : Region.wanted o (yielded ops a.tmps) = true := by simp [Region.wanted, hgd]
  rw [if_pos hw]
  subst hN
  obtain ⟨v', w', hr, h2, h3⟩ := run_append_strs o.type B b hown sl c ss hz hn hbase
  obtain ⟨sl', c', rfl, -⟩ := h2.strs
  unfold Oper.wp execOp
  simp only [ho, resolve, invoke, builtin, Sem.run_bind, Sem.run_pure, Result.andThen_ok, List.map_toArray, List.map_cons, List.map_nil, hs, hx, hr]
  exact h sl' c' w' h2 h3

def CopPost (s : ByteArray) (ss : List ByteArray) (w : World) (e : Ending) (w' : World) : Prop :=
  ∃ v, e = .returned (.agg #[.string s, v]) ∧ OwnS w' w.heap.size v ss ∧ Below w.heap.size w w'

set_option maxHeartbeats 1000000 in
theorem scopy_any (s : ByteArray) (sl : Option Addr) (cap : Nat) (ss : List ByteArray) (w : World) (hn : ss.length ≤ 1048577) (hz : Strs w sl ss) :
    Calls Tryd.prog 27 #[DV s sl ss.length cap] w fun e w' => CopPost s ss w e w' := by
  have HZ := Lib.hid hz
  clear hz
  generalize hN : ss.length = n at *
  have HN : Hid (ss.length = n) := hN
  clear hN
  have D0 := (DAt.new 27 w s (.slice sl n cap)).below (bA0 _ (.cells #[.string ⟨#[]⟩, .slice none 0 0] 27))
  have R0 := DAt.new 27 (w.alloc (.cells #[.string s, .slice sl n cap] 27)) ⟨#[]⟩ (.slice none 0 0)
  have B0 : Below w.heap.size w ((w.alloc (.cells #[.string s, .slice sl n cap] 27)).alloc (.cells #[.string ⟨#[]⟩, .slice none 0 0] 27)) := bA (bA0 _ _) _
  have hz2 : ((w.alloc (.cells #[.string s, .slice sl n cap] 27)).alloc (.cells #[.string ⟨#[]⟩, .slice none 0 0] 27)).heap.size = w.heap.size + 1 + 1 := by simp
  have hz1 : (w.alloc (.cells #[.string s, .slice sl n cap] 27)).heap.size = w.heap.size + 1 := by simp
  rw [hz1] at R0
  have own1 : OwnS (((w.alloc (.cells #[.string s, .slice sl n cap] 27)).alloc (.cells #[.string ⟨#[]⟩, .slice none 0 0] 27)).drew.alloc (.cells #[] 9)) (w.heap.size + 1 + 1) (.slice (some ⟨w.heap.size + 1 + 1, 0, none⟩) 0 0) [] := by
    have := World.ownsRow_lit ((w.alloc (.cells #[.string s, .slice sl n cap] 27)).alloc (.cells #[.string ⟨#[]⟩, .slice none 0 0] 27)).drew #[] 0 (base := w.heap.size + 1 + 1) (e := 9) (size := 1) (by simp) (Nat.zero_le _) rfl
    simpa [OwnS] using this
  have OW := Lib.hid own1
  obtain ⟨c0, c1⟩ := D0.cells
  have Dd := Lib.hid D0
  have Rd := Lib.hid R0
  have Bd := Lib.hid B0
  clear own1 D0 R0 B0
  go_enter Tryd.func27, Tryd.ntmps27
  go_wp2_with fail
  go_region_law (first | (refine step_append_strs rfl (.tmp 5) (.tmp 7) rfl (w.heap.size + 1 + 1) (w.heap.size + 1 + 1) (by simp [Act.eval]) OW.out sl cap ss n HN.out (by simp [Act.eval]) (HZ.out.below (Bd.out.drew.alloc (by simp; omega) _)) (by rw [HN.out]; omega) (by simp) ?_; intro sl5 c5 w5 o5 g5; have R5 := Lib.hid ((Rd.out.drew.below (bA0 _ _)).grown g5 (by simp)); have D5 := Lib.hid ((Dd.out.drew.below (bA0 _ _)).grown g5 (by simp; omega)); obtain ⟨m0, m1⟩ := D5.out.cells; have O5 := Lib.hid o5; have B5 := Lib.hid ((Bd.out.drew.alloc (by simp; omega) (.cells #[] 9)).grown g5 (by simp; omega) (fun k hk => by cases hk; omega)); obtain ⟨k0, k1⟩ := R5.out.cells; have kf := R5.out.frozen; have kl := R5.out.lt; clear o5 g5))
  all_goals
    obtain ⟨q0, q1⟩ := (R5.out.set2 s (.slice sl5 n c5)).cells
    clear k0 k1 kf m0 m1 c0 c1 Dd Rd Bd OW
    go_wp2
    exact bodyPost_ret (v := DV s sl5 n c5) (by simp [results, Tryd.results27, go_sem, q0, q1]) rfl ⟨_, rfl, ((O5.out.set (Nat.lt_succ_self _) _ _).set (Nat.lt_succ_self _) _ _).mono (Nat.le_add_right _ 2), (B5.out.setCell (Nat.le_add_right _ 1) _).setCell (Nat.le_add_right _ 1) _⟩

theorem RowAt.of_row {w : World} {b : Nat} {ss : List ByteArray} (h : w.heap[b]? = some (.cells (ss.map Value.string).toArray 9)) : RowAt w b (vsOf ss ss.length) := by
  have e : vsOf ss ss.length = (ss.map Value.string).toArray := by simp [vsOf]
  unfold RowAt
  rw [e]; exact h

set_option maxHeartbeats 1000000 in
theorem icopy_nil (s : ByteArray) (sl : Option Addr) (cap : Nat) (w : World) :
    Calls Tryd.prog 35 #[DV s sl 0 cap] w fun e w' => CopPost s [] w e w' := by
  go_enter Tryd.func35, Tryd.ntmps35
  go_wp2
  exact bodyPost_ret (v := DV s none 0 0) (by simp [results, Tryd.results35, go_sem]) rfl ⟨_, rfl, OwnS.nil _ _, by first | exact (((bA (bA0 _ _) _).setCell (Nat.le_add_right _ 1) _).setCell (Nat.le_add_right _ 1) _) | exact bA (bA0 _ _) _⟩

set_option maxHeartbeats 1000000 in
theorem icopy_some (s : ByteArray) (c o cap : Nat) (ss : List ByteArray) (w : World) (hn : ss.length ≤ 1048576) (hp : 0 < ss.length) (hz : StrsAt w c o ss) :
    Calls Tryd.prog 35 #[DV s (some ⟨c, o, none⟩) ss.length cap] w fun e w' => CopPost s ss w e w' := by
  have hmk := makeS ss.length hn
  have hp0 : ((ss.length : Int) == 0) = false := by rw [beq_eq_false_iff_ne]; omega
  have D0 := (DAt.new 27 w s (.slice (some ⟨c, o, none⟩) ss.length cap)).below (bA0 _ (.cells #[.string ⟨#[]⟩, .slice none 0 0] 27))
  have R0 := DAt.new 27 (w.alloc (.cells #[.string s, .slice (some ⟨c, o, none⟩) ss.length cap] 27)) ⟨#[]⟩ (.slice none 0 0)
  have B0 : Below w.heap.size w ((w.alloc (.cells #[.string s, .slice (some ⟨c, o, none⟩) ss.length cap] 27)).alloc (.cells #[.string ⟨#[]⟩, .slice none 0 0] 27)) := bA (bA0 _ _) _
  have hz1 : (w.alloc (.cells #[.string s, .slice (some ⟨c, o, none⟩) ss.length cap] 27)).heap.size = w.heap.size + 1 := by simp
  have hz2 : ((w.alloc (.cells #[.string s, .slice (some ⟨c, o, none⟩) ss.length cap] 27)).alloc (.cells #[.string ⟨#[]⟩, .slice none 0 0] 27)).heap.size = w.heap.size + 1 + 1 := by simp
  rw [hz1] at R0
  generalize hW : (w.alloc (.cells #[.string s, .slice (some ⟨c, o, none⟩) ss.length cap] 27)).alloc (.cells #[.string ⟨#[]⟩, .slice none 0 0] 27) = W at *
  have G0 : (W.alloc (.cells (mkS ss.length) 9)).heap[w.heap.size + 1 + 1]? = some (.cells (mkS ss.length) 9 (0, 0)) := by
    have := heap_alloc_new W (.cells (mkS ss.length) 9)
    rwa [hz2] at this
  have zk : (mkS ss.length).size = ss.length := by rw [mkS_eq, vs_size _ _ (Nat.zero_le _)]
  have hcp := run_copy_row (P := Tryd.prog) (W.alloc (.cells (mkS ss.length) 9)) 22 22 3 9 (w.heap.size + 1 + 1) 0 ss.length ss.length ⟨c, o, none⟩ ss.length cap (mkS ss.length) 9 (ss.map Value.string) Tryd.underlying22 size9 G0 (by simp) (fun j u hu => by
      have hj : j < ss.length := by simpa using (List.getElem?_eq_some_iff.1 hu).1
      have ha : (⟨c, o, none⟩ : Addr).add j = ⟨c, o + j, none⟩ := by
        unfold Addr.add
        by_cases h : j = 0 <;> simp [h]
      rw [ha, (hz.below (bA B0 _)).2 j hj, ← hu]
      simp [at0, hj]) (by rw [zk]; simp) (by intro u hu; obtain ⟨x, _, rfl⟩ := List.mem_map.1 hu; rfl)
  have e : (mkS ss.length).toList.take 0 ++ ss.map Value.string ++ (mkS ss.length).toList.drop (0 + (ss.map Value.string).length) = ss.map Value.string := by
    rw [List.drop_of_length_le (by simp [zk])]; simp
  rw [e, List.length_map] at hcp
  have RR := Lib.hid (RowAt.of_row (ss := ss) (setRow_heap (W.alloc (.cells (mkS ss.length) 9)) (w.heap.size + 1 + 1) _ (ss.map Value.string).toArray 9 _ G0))
  have BB : Hid (Below w.heap.size w ((W.alloc (.cells (mkS ss.length) 9)).setRow (w.heap.size + 1 + 1) (ss.map Value.string).toArray)) := below_row (bA B0 _) (by omega) _
  have DD : Hid (DAt 27 ((W.alloc (.cells (mkS ss.length) 9)).setRow (w.heap.size + 1 + 1) (ss.map Value.string).toArray) w.heap.size s (.slice (some ⟨c, o, none⟩) ss.length cap)) := (setRow_other _ _ _ _ (by omega)).trans (D0.below (bA0 _ _))
  have QQ : Hid (DAt 27 ((W.alloc (.cells (mkS ss.length) 9)).setRow (w.heap.size + 1 + 1) (ss.map Value.string).toArray) (w.heap.size + 1) ⟨#[]⟩ (.slice none 0 0)) := (setRow_other _ _ _ _ (by omega)).trans (R0.below (bA0 _ _))
  have OO : Hid (OwnS ((W.alloc (.cells (mkS ss.length) 9)).setRow (w.heap.size + 1 + 1) (ss.map Value.string).toArray) (w.heap.size + 1 + 1) (.slice (some ⟨w.heap.size + 1 + 1, 0, none⟩) ss.length ss.length) ss) := OwnS.row RR.out (Nat.le_refl _) (by unfold maxLen; omega)
  subst hW
  clear e zk G0 hz D0 R0 B0 RR hz1 hz2 hn hp
  generalize (ss.map Value.string).toArray = vs at *
  generalize ss.length = n at *
  generalize hwn : ((World.alloc _ _).setRow (w.heap.size + 1 + 1) vs) = wn at *
  clear hwn
  obtain ⟨c0, c1⟩ := DD.out.cells
  obtain ⟨k0, k1⟩ := QQ.out.cells
  have kf := QQ.out.frozen
  have kl := QQ.out.lt
  obtain ⟨q0, q1⟩ := (QQ.out.set2 s (.slice (some ⟨w.heap.size + 1 + 1, 0, none⟩) n n)).cells
  go_enter Tryd.func35, Tryd.ntmps35
  go_wp2
  exact bodyPost_ret (v := DV s (some ⟨w.heap.size + 1 + 1, 0, none⟩) n n) (by simp [results, Tryd.results35, go_sem, q0, q1]) rfl ⟨_, rfl, ((OO.out.set (Nat.lt_succ_self _) _ _).set (Nat.lt_succ_self _) _ _).mono (Nat.le_add_right _ 2), (BB.out.setCell (Nat.le_add_right _ 1) _).setCell (Nat.le_add_right _ 1) _⟩

theorem icopy_any (s : ByteArray) (sl : Option Addr) (cap : Nat) (ss : List ByteArray) (w : World) (hn : ss.length ≤ 1048576) (hz : Strs w sl ss) :
    Calls Tryd.prog 35 #[DV s sl ss.length cap] w fun e w' => CopPost s ss w e w' := by
  by_cases he : ss = []
  · subst he; exact icopy_nil s sl cap w
  · rcases hz with hz | ⟨c, o, rfl, hz⟩
    · exact absurd hz he
    · exact icopy_some s c o cap ss w hn (List.length_pos_iff.2 he) hz

end Go.Proofs.YtmffoannknkjkaaDoor
namespace Go.Proofs.YtmffoannknkjkaaDoor
open Go.RowKit
set_option linter.unusedVariables false

/-- A parameter in its box, the result in its own. -/
structure Two (w : World) (s : ByteArray) (v : Value) (W : World) : Prop where
  box : DAt 27 W w.heap.size s v
  res : DAt 27 W (w.heap.size + 1) ⟨#[]⟩ (.slice none 0 0)
  bel : Below w.heap.size w W
theorem Two.start (w : World) (s : ByteArray) (v : Value) : Two w s v ((w.alloc (.cells #[.string s, v] 27)).alloc (.cells #[.string ⟨#[]⟩, .slice none 0 0] 27)) := by
  refine ⟨(DAt.new 27 w s v).below (bA0 _ _), ?_, bA (bA0 _ _) _⟩
  have := DAt.new 27 (w.alloc (.cells #[.string s, v] 27)) ⟨#[]⟩ (.slice none 0 0)
  rwa [show (w.alloc (.cells #[.string s, v] 27)).heap.size = w.heap.size + 1 by simp] at this
theorem Two.below {w : World} {s : ByteArray} {v : Value} {W W' : World} (h : Two w s v W) (hb : Below W.heap.size W W') : Two w s v W' := ⟨h.box.below hb, h.res.below hb, bT h.bel hb⟩
theorem Two.drew {w : World} {s : ByteArray} {v : Value} {W : World} (h : Two w s v W) : Two w s v W.drew := ⟨h.box, h.res, h.bel.drew⟩
theorem Two.facts {w : World} {s : ByteArray} {v : Value} {W : World} (h : Two w s v W) : W.cell? ⟨w.heap.size, 0, none⟩ = some (.string s) ∧ W.cell? ⟨w.heap.size, 1, none⟩ = some v ∧ W.cell? ⟨w.heap.size + 1, 0, none⟩ = some (.string ⟨#[]⟩) ∧ W.cell? ⟨w.heap.size + 1, 1, none⟩ = some (.slice none 0 0) ∧ (∀ o, W.frozen? ⟨w.heap.size + 1, o, none⟩ = false) ∧ w.heap.size + 1 < W.heap.size :=
  ⟨h.box.cells.1, h.box.cells.2, h.res.cells.1, h.res.cells.2, h.res.frozen, h.res.lt⟩
theorem Two.end {w : World} {s : ByteArray} {v : Value} {W : World} (h : Two w s v W) (s' : ByteArray) (v' : Value) :
    ((W.setCell ⟨w.heap.size + 1, 0, none⟩ (.string s')).setCell ⟨w.heap.size + 1, 1, none⟩ v').cell? ⟨w.heap.size + 1, 0, none⟩ = some (.string s') ∧ ((W.setCell ⟨w.heap.size + 1, 0, none⟩ (.string s')).setCell ⟨w.heap.size + 1, 1, none⟩ v').cell? ⟨w.heap.size + 1, 1, none⟩ = some v' ∧
    (∀ B ss', OwnS W B v' ss' → w.heap.size + 2 ≤ B → CopPost s' ss' w (.returned (.agg #[.string s', v'])) ((W.setCell ⟨w.heap.size + 1, 0, none⟩ (.string s')).setCell ⟨w.heap.size + 1, 1, none⟩ v')) :=
  ⟨(h.res.set2 s' v').cells.1, (h.res.set2 s' v').cells.2, fun B ss' ho hB => ⟨v', rfl, ((ho.set (by omega) _ _).set (by omega) _ _).mono (by omega), (h.bel.setCell (by simp) _).setCell (by simp) _⟩⟩

/-! ### Cut -/
set_option maxHeartbeats 1000000 in
theorem scut_no (s : ByteArray) (sl : Option Addr) (cap : Nat) (ss : List ByteArray) (z : Int) (w : World) (hn : ss.length ≤ 1048577) (hz : Strs w sl ss) (h : dR s ss = false ∨ z < 0 ∨ ((dT s ss).size : Int) < z) :
    Calls Tryd.prog 28 #[DV s sl ss.length cap, .int .i64 z] w fun e w' => CopPost s ss w e w' := by
  have T : Hid (∀ w1, Below w.heap.size w w1 → Calls Tryd.prog 19 #[DV s sl ss.length cap] w1 fun e w' => e = .returned (.string (dT s ss)) ∧ Below w1.heap.size w1 w') := fun w1 hb => sdt_any s sl cap ss w1 (hz.below hb)
  have R : Hid (∀ w1, Below w.heap.size w w1 → Calls Tryd.prog 26 #[DV s sl ss.length cap] w1 fun e w' => e = .returned (.bool (dR s ss)) ∧ Below w1.heap.size w1 w') := fun w1 hb => sdr_any s sl cap ss w1 (hz.below hb)
  have C : Hid (∀ w1, Below w.heap.size w w1 → Calls Tryd.prog 27 #[DV s sl ss.length cap] w1 fun e w' => CopPost s ss w1 e w') := fun w1 hb => scopy_any s sl cap ss w1 hn (hz.below hb)
  have T0 := Two.start w s (.slice sl ss.length cap)
  clear hz hn
  generalize ss.length = n at *
  generalize dT s ss = F at *
  have hF : ∃ b, dR s ss = b := ⟨_, rfl⟩
  obtain ⟨b, hb⟩ := hF
  rw [hb] at h R
  clear hb
  have h' : b = false ∨ (b = true ∧ z < 0) ∨ (b = true ∧ decide (z < 0) = false ∧ (F.size : Int) < z) := by
    cases b
    · exact .inl rfl
    · right
      by_cases hz : z < 0
      · exact .inl ⟨rfl, hz⟩
      · exact .inr ⟨rfl, by simp; omega, by rcases h with h | h | h <;> first | cases h | omega⟩
  clear h
  rcases h' with rfl | ⟨rfl, h1⟩ | ⟨rfl, h1, h2⟩
  all_goals
    go_enter Tryd.func28, Tryd.ntmps28
    go_wp2_with fail
    refine (T.out _ T0.bel).mono ?_
    rintro e w1 ⟨rfl, b1⟩
    have T1 := Lib.hid (T0.below b1)
    clear b1 T0
    obtain ⟨c0, c1, c2, c3, cf, cl⟩ := T1.out.facts
    go_wp2_with fail
    refine (R.out _ T1.out.bel).mono ?_
    rintro e w2 ⟨rfl, b2⟩
    have T2 := Lib.hid (T1.out.below b2)
    clear b2 T1 c0 c1 c2 c3 cf cl
    obtain ⟨c0, c1, c2, c3, cf, cl⟩ := T2.out.facts
    go_wp2_with fail
    refine (C.out _ T2.out.bel).mono ?_
    rintro e w3 ⟨v3, rfl, o3, b3⟩
    obtain ⟨sl3, c3', rfl, -⟩ := o3.strs
    have O3 := Lib.hid o3
    have T3 := Lib.hid (T2.out.below b3)
    clear b3 o3 c0 c1 c2 c3 cf
    obtain ⟨c0, c1, c2, c3, cf, cl3⟩ := T3.out.facts
    obtain ⟨q0, q1, qf⟩ := T3.out.end s (.slice sl3 ss.length c3')
    have QF := Lib.hid qf
    clear qf T2
    generalize ss.length = n3 at *
    go_wp2
    exact bodyPost_ret (v := .agg #[.string s, .slice sl3 n3 c3']) (by simp [results, Tryd.results28, go_sem, q0, q1]) rfl (QF.out _ _ O3.out (by omega))

set_option maxHeartbeats 1000000 in
theorem scut_yes (s : ByteArray) (sl : Option Addr) (cap : Nat) (ss : List ByteArray) (k : Nat) (w : World) (hz : Strs w sl ss) (hr : dR s ss = true) (hk : k ≤ (dT s ss).size) (hT : (dT s ss).size ≤ 20000) :
    Calls Tryd.prog 28 #[DV s sl ss.length cap, .int .i64 k] w fun e w' => CopPost ((dT s ss).extract 0 k) [] w e w' := by
  have T : Hid (∀ w1, Below w.heap.size w w1 → Calls Tryd.prog 19 #[DV s sl ss.length cap] w1 fun e w' => e = .returned (.string (dT s ss)) ∧ Below w1.heap.size w1 w') := fun w1 hb => sdt_any s sl cap ss w1 (hz.below hb)
  have R : Hid (∀ w1, Below w.heap.size w w1 → Calls Tryd.prog 26 #[DV s sl ss.length cap] w1 fun e w' => e = .returned (.bool true) ∧ Below w1.heap.size w1 w') := fun w1 hb => by
    have := sdr_any s sl cap ss w1 (hz.below hb); rwa [hr] at this
  have T0 := Two.start w s (.slice sl ss.length cap)
  clear hz hr
  generalize ss.length = n at *
  generalize dT s ss = F at *
  have k0 : decide ((k : Int) < 0) = false := by simp
  have k1 : ¬ (F.size : Int) < (k : Int) := by omega
  have k2 : (k : Int) ≤ (F.size : Int) := by omega
  have k3 : (0 : Int) ≤ (k : Int) := by omega
  go_enter Tryd.func28, Tryd.ntmps28
  go_wp2_with fail
  refine (T.out _ T0.bel).mono ?_
  rintro e w1 ⟨rfl, b1⟩
  have T1 := Lib.hid (T0.below b1)
  clear b1 T0
  obtain ⟨c0, c1, c2, c3, cf, cl⟩ := T1.out.facts
  go_wp2_with fail
  refine (R.out _ T1.out.bel).mono ?_
  rintro e w2 ⟨rfl, b2⟩
  have T2 := Lib.hid (T1.out.below b2)
  clear b2 T1 c0 c1 c2 c3 cf cl
  obtain ⟨c0, c1, c2, c3, cf, cl⟩ := T2.out.facts
  obtain ⟨q0, q1, qf⟩ := T2.out.end (F.extract 0 k) (.slice none 0 0)
  have QF := Lib.hid qf
  clear qf
  go_wp2
  exact bodyPost_ret (v := .agg #[.string (F.extract 0 k), .slice none 0 0]) (by simp [results, Tryd.results28, go_sem, q0, q1]) rfl (QF.out (w.heap.size + 2) _ (OwnS.nil _ _) (Nat.le_refl _))

set_option maxHeartbeats 1000000 in
theorem icut_no (s : ByteArray) (sl : Option Addr) (cap : Nat) (ss : List ByteArray) (z : Int) (w : World) (hS : s.size + tot ss ≤ 4000000) (hn : ss.length ≤ 1048576) (hz : Strs w sl ss) (h : dR s ss = false ∨ z < 0 ∨ ((dT s ss).size : Int) < z) :
    Calls Tryd.prog 29 #[DV s sl ss.length cap, .int .i64 z] w fun e w' => CopPost s ss w e w' := by
  have T : Hid (∀ w1, Below w.heap.size w w1 → Calls Tryd.prog 23 #[DV s sl ss.length cap] w1 fun e w' => e = .returned (.string (dT s ss)) ∧ Below w1.heap.size w1 w') := fun w1 hb => idt_any s sl cap ss w1 hS (hz.below hb)
  have R : Hid (∀ w1, Below w.heap.size w w1 → Calls Tryd.prog 33 #[DV s sl ss.length cap] w1 fun e w' => e = .returned (.bool (dR s ss)) ∧ Below w1.heap.size w1 w') := fun w1 hb => idr_any s sl cap ss w1 hS (hz.below hb)
  have C : Hid (∀ w1, Below w.heap.size w w1 → Calls Tryd.prog 35 #[DV s sl ss.length cap] w1 fun e w' => CopPost s ss w1 e w') := fun w1 hb => icopy_any s sl cap ss w1 hn (hz.below hb)
  have T0 := Two.start w s (.slice sl ss.length cap)
  clear hz hn
  generalize ss.length = n at *
  generalize dT s ss = F at *
  have hF : ∃ b, dR s ss = b := ⟨_, rfl⟩
  obtain ⟨b, hb⟩ := hF
  rw [hb] at h R
  clear hb
  have h' : b = false ∨ (b = true ∧ z < 0) ∨ (b = true ∧ decide (z < 0) = false ∧ (F.size : Int) < z) := by
    cases b
    · exact .inl rfl
    · right
      by_cases hz : z < 0
      · exact .inl ⟨rfl, hz⟩
      · exact .inr ⟨rfl, by simp; omega, by rcases h with h | h | h <;> first | cases h | omega⟩
  clear h
  rcases h' with rfl | ⟨rfl, h1⟩ | ⟨rfl, h1, h2⟩
  all_goals
    go_enter Tryd.func29, Tryd.ntmps29
    go_wp2_with fail
    refine (T.out _ T0.bel).mono ?_
    rintro e w1 ⟨rfl, b1⟩
    have T1 := Lib.hid (T0.below b1)
    clear b1 T0
    obtain ⟨c0, c1, c2, c3, cf, cl⟩ := T1.out.facts
    go_wp2_with fail
    refine (R.out _ T1.out.bel).mono ?_
    rintro e w2 ⟨rfl, b2⟩
    have T2 := Lib.hid (T1.out.below b2)
    clear b2 T1 c0 c1 c2 c3 cf cl
    obtain ⟨c0, c1, c2, c3, cf, cl⟩ := T2.out.facts
    go_wp2_with fail
    refine (C.out _ T2.out.bel).mono ?_
    rintro e w3 ⟨v3, rfl, o3, b3⟩
    obtain ⟨sl3, c3', rfl, -⟩ := o3.strs
    have O3 := Lib.hid o3
    have T3 := Lib.hid (T2.out.below b3)
    clear b3 o3 c0 c1 c2 c3 cf
    obtain ⟨c0, c1, c2, c3, cf, cl3⟩ := T3.out.facts
    obtain ⟨q0, q1, qf⟩ := T3.out.end s (.slice sl3 ss.length c3')
    have QF := Lib.hid qf
    clear qf T2
    generalize ss.length = n3 at *
    go_wp2
    exact bodyPost_ret (v := .agg #[.string s, .slice sl3 n3 c3']) (by simp [results, Tryd.results29, go_sem, q0, q1]) rfl (QF.out _ _ O3.out (by omega))

set_option maxHeartbeats 1000000 in
theorem icut_yes (s : ByteArray) (sl : Option Addr) (cap : Nat) (ss : List ByteArray) (k : Nat) (w : World) (hS : s.size + tot ss ≤ 4000000) (hz : Strs w sl ss) (hr : dR s ss = true) (hk : k ≤ (dT s ss).size) (hT : (dT s ss).size ≤ 20000) :
    Calls Tryd.prog 29 #[DV s sl ss.length cap, .int .i64 k] w fun e w' => CopPost ((dT s ss).extract 0 k) [] w e w' := by
  have T : Hid (∀ w1, Below w.heap.size w w1 → Calls Tryd.prog 23 #[DV s sl ss.length cap] w1 fun e w' => e = .returned (.string (dT s ss)) ∧ Below w1.heap.size w1 w') := fun w1 hb => idt_any s sl cap ss w1 hS (hz.below hb)
  have R : Hid (∀ w1, Below w.heap.size w w1 → Calls Tryd.prog 33 #[DV s sl ss.length cap] w1 fun e w' => e = .returned (.bool true) ∧ Below w1.heap.size w1 w') := fun w1 hb => by
    have := idr_any s sl cap ss w1 hS (hz.below hb); rwa [hr] at this
  have T0 := Two.start w s (.slice sl ss.length cap)
  clear hz hr
  generalize ss.length = n at *
  generalize dT s ss = F at *
  have k0 : decide ((k : Int) < 0) = false := by simp
  have k1 : ¬ (F.size : Int) < (k : Int) := by omega
  have k2 : (k : Int) ≤ (F.size : Int) := by omega
  have k3 : (0 : Int) ≤ (k : Int) := by omega
  go_enter Tryd.func29, Tryd.ntmps29
  go_wp2_with fail
  refine (T.out _ T0.bel).mono ?_
  rintro e w1 ⟨rfl, b1⟩
  have T1 := Lib.hid (T0.below b1)
  clear b1 T0
  obtain ⟨c0, c1, c2, c3, cf, cl⟩ := T1.out.facts
  go_wp2_with fail
  refine (R.out _ T1.out.bel).mono ?_
  rintro e w2 ⟨rfl, b2⟩
  have T2 := Lib.hid (T1.out.below b2)
  clear b2 T1 c0 c1 c2 c3 cf cl
  obtain ⟨c0, c1, c2, c3, cf, cl⟩ := T2.out.facts
  obtain ⟨q0, q1, qf⟩ := T2.out.end (F.extract 0 k) (.slice none 0 0)
  have QF := Lib.hid qf
  clear qf
  go_wp2
  exact bodyPost_ret (v := .agg #[.string (F.extract 0 k), .slice none 0 0]) (by simp [results, Tryd.results29, go_sem, q0, q1]) rfl (QF.out (w.heap.size + 2) _ (OwnS.nil _ _) (Nat.le_refl _))

end Go.Proofs.YtmffoannknkjkaaDoor
