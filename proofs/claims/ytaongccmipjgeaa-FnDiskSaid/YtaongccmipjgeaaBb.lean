/-
  A DISK's TEXT: both sides, and the law FnExactDiskText.
-/
import Derived.Test.YtaongccmipjgeaaBa
import Derived.Deep.RegionWith
import Derived.Lib.BufferRead
namespace Go.Proofs.Ytaongccmipjgeaa
open Go.RowKit
set_option linter.unusedVariables false

def flT (ss : List ByteArray) : ByteArray := ⟨(fl ss).toArray⟩
theorem flT_size (ss : List ByteArray) : (flT ss).size = tot ss := by
  rw [← fl_len]; simp [flT, ByteArray.size]
def dT (s : ByteArray) (ss : List ByteArray) : ByteArray := if dR s ss then s ++ flT ss else ⟨#[]⟩

set_option maxHeartbeats 1000000 in
theorem idt_no (s : ByteArray) (sl : Option Addr) (cap : Nat) (ss : List ByteArray) (w : World) (hs : s.size + tot ss ≤ 4000000) (hz : Strs w sl ss) (hr : dR s ss = false) :
    Calls Try.prog 12 #[DV s sl ss.length cap] w fun e w' => e = .returned (.string ⟨#[]⟩) ∧ Below w.heap.size w w' := by
  have R : Hid (∀ w1, Below w.heap.size w w1 → Calls Try.prog 14 #[DV s sl ss.length cap] w1 fun e w' => e = .returned (.bool false) ∧ Below w1.heap.size w1 w') := fun w1 hb => by
    have := idr_any s sl cap ss w1 hs (hz.below hb); rwa [hr] at this
  clear hz hr hs
  generalize ss.length = n at *
  go_enter Try.func12, Try.ntmps12
  go_wp2_with fail
  refine (R.out _ (bA0 _ _)).mono ?_
  rintro e w1 ⟨rfl, b1⟩
  go_wp2
  go_ret
  exact ⟨rfl, bT (bA0 _ _) b1⟩

set_option maxHeartbeats 1000000 in
theorem idt_yes (s : ByteArray) (sl : Option Addr) (cap : Nat) (ss : List ByteArray) (w : World) (hz : Strs w sl ss) (hr : dR s ss = true) :
    Calls Try.prog 12 #[DV s sl ss.length cap] w fun e w' => e = .returned (.string (s ++ flT ss)) ∧ Below w.heap.size w w' := by
  have hsz := (dR_parts hr).2.2
  have R : Hid (∀ w1, Below w.heap.size w w1 → Calls Try.prog 14 #[DV s sl ss.length cap] w1 fun e w' => e = .returned (.bool true) ∧ Below w1.heap.size w1 w') := fun w1 hb => by
    have := idr_any s sl cap ss w1 (by omega) (hz.below hb); rwa [hr] at this
  have L : Hid (∀ w1, Below w.heap.size w w1 → Calls Try.prog 33 #[DV s sl ss.length cap] w1 fun e w' => ∃ g, e = .returned (.slice (some ⟨g, 0, none⟩) (tot ss) (tot ss)) ∧ (∀ w2, w2 = w' → Sem.run Try.prog (convert 22 9 (.slice (some ⟨g, 0, none⟩) (tot ss) (tot ss))) w2 = .ok (.string (flT ss)) w2) ∧ Below w1.heap.size w1 w') := fun w1 hb => by
    refine (loose_any s sl cap ss w1 hr (hz.below hb)).mono ?_
    rintro e w' ⟨g, rfl, -, h, b⟩
    refine ⟨g, rfl, ?_, b⟩
    rintro w2 rfl
    have := h.text (cap := tot ss)
    rwa [fl_len] at this
  clear hz hr
  generalize ss.length = n at *
  have hcat : ¬ s.size + (flT ss).size > 9223372036854775807 := by rw [flT_size]; omega
  generalize flT ss = F at *
  generalize tot ss = T at *
  have D0 := DAt.new 25 w s (.slice sl n cap)
  go_enter Try.func12, Try.ntmps12
  go_wp2_with fail
  refine (R.out _ (bA0 _ _)).mono ?_
  rintro e w1 ⟨rfl, b1⟩
  have D1 := Lib.hid (D0.below b1)
  have B1 := Lib.hid (bT (bA0 _ _) b1)
  clear b1 D0
  obtain ⟨c0, c1⟩ := D1.out.cells
  have hlt := D1.out.lt
  go_wp2_with fail
  go_region_with (first | (go_at_call 33; refine (L.out _ (by first | exact B1.out | exact B1.out.drew | exact below_drewN B1.out _)).mono ?_; rintro e w5 ⟨g, rfl, hcv, b5⟩; have hcv' := hcv _ rfl; have k0 := (b5.cell hlt).trans c0; clear hcv))
  all_goals
    have B5 := Lib.hid (bT B1.out.drew b5)
    clear b5 hcv' B1 D1 c0 c1
    go_wp2
    go_ret
    exact ⟨rfl, B5.out⟩

theorem idt_any (s : ByteArray) (sl : Option Addr) (cap : Nat) (ss : List ByteArray) (w : World) (hs : s.size + tot ss ≤ 4000000) (hz : Strs w sl ss) :
    Calls Try.prog 12 #[DV s sl ss.length cap] w fun e w' => e = .returned (.string (dT s ss)) ∧ Below w.heap.size w w' := by
  unfold dT
  cases hr : dR s ss
  · simpa using idt_no s sl cap ss w hs hz hr
  · simpa using idt_yes s sl cap ss w hz hr

/-! ### The model's side -/
theorem info5' : (Try.prog.info? 5).map (fun i => (i.zero, i.size, i.bytes)) = some (some (.int .u8 0), 1, 1) := by kernel_rfl
theorem str_cells (l : List UInt8) (s : ByteArray) : Lib.byteCells l ++ Lib.strCells s = Lib.byteCells (l ++ s.data.toList) := by simp [Lib.byteCells, Lib.strCells]

theorem own_text {w : World} {B : Nat} {v : Value} {l : List UInt8} (h : w.ownsRow B 5 1 v l.length (Lib.byteCells l)) : Sem.run Try.prog (convert 22 9 v) w = .ok (.string ⟨l.toArray⟩) w := by
  rcases h.2 with ⟨rfl, h0⟩ | ⟨g, cap, cur, rfl, _, hg, _⟩
  · obtain rfl : l = [] := List.eq_nil_of_length_eq_zero h0
    exact Lib.run_convert_nil_bytes w 22 9 5 0 Try.underlying22 Try.underlying5 Try.underlying9
  · exact run_convert_bytes_back (P := Try.prog) w 22 9 5 ⟨g, 0, none⟩ cap l Try.underlying22 Try.underlying5 Try.underlying9 (fun j hj => h.cells (g := g) rfl j _ (by simp [Lib.byteCells, hj]))

set_option maxHeartbeats 1000000 in
theorem sloose_nil (s : ByteArray) (sl : Option Addr) (cap : Nat) (w : World) :
    Calls Try.prog 38 #[DV s sl 0 cap] w fun e w' => e = .returned (.string (flT [])) ∧ Below w.heap.size w w' := by
  have hcv : ∀ (w1 : World) b, BAt w1 b (Lib.byteCells []) → Sem.run Try.prog (convert 22 9 (.slice (some ⟨b, 0, none⟩) 0 0)) w1 = .ok (.string (flT [])) w1 := fun w1 b h => h.text (cap := 0)
  have hcv2 : Sem.run Try.prog (convert 22 9 (.slice (some ⟨w.heap.size + 1, 0, none⟩) 0 0)) ((w.alloc (.cells #[.string s, .slice sl 0 cap] 25)).alloc (.cells #[] 5)) = .ok (.string (flT [])) ((w.alloc (.cells #[.string s, .slice sl 0 cap] 25)).alloc (.cells #[] 5)) := by
    refine hcv _ _ ?_
    have := heap_alloc_new (w.alloc (.cells #[.string s, .slice sl 0 cap] 25)) (.cells #[] 5)
    simpa [BAt, Lib.byteCells] using this
  clear hcv
  generalize flT [] = F at *
  go_enter Try.func38, Try.ntmps38
  go_wp2
  refine wp_loop_rounds 1 ?_
  rw [rounds_succ]
  go_wp2
  go_ret
  exact ⟨rfl, bA (bA0 _ _) _⟩

set_option maxHeartbeats 1000000 in
theorem sloose_some (s : ByteArray) (c o cap : Nat) (ss : List ByteArray) (w : World) (hn : ss.length ≤ 1048576) (ht : tot ss ≤ 4000000) (hz : StrsAt w c o ss) :
    Calls Try.prog 38 #[DV s (some ⟨c, o, none⟩) ss.length cap] w fun e w' => e = .returned (.string (flT ss)) ∧ Below w.heap.size w w' := by
  have HZ := Lib.hid hz
  clear hz
  generalize hN : ss.length = n at *
  have HN : Hid (ss.length = n) := hN
  clear hN
  obtain ⟨i0, hi, hz0, hz1, hz2⟩ := info_parts info5'
  have D0 := DAt.new 25 w s (.slice (some ⟨c, o, none⟩) n cap)
  go_enter Try.func38, Try.ntmps38
  go_wp2
  go_loopw [3, 4] (fun v i wr => ∃ k : Nat, i = .int .i64 k ∧ k ≤ n ∧ wr.ownsRow (w.heap.size + 1) 5 1 v (fl (ss.take k)).length (Lib.byteCells (fl (ss.take k))) ∧ Hid (Below (w.heap.size + 1) (w.alloc (.cells #[.string s, .slice (some ⟨c, o, none⟩) n cap] 25)) wr)) (fun _ i _ => n - (intOf i).toNat)
  case atStart =>
    refine ⟨0, rfl, Nat.zero_le _, ?_, ?_⟩
    · rw [fl_zero]
      have := World.ownsRow_lit (w.alloc (.cells #[.string s, .slice (some ⟨c, o, none⟩) n cap] 25)) #[] 0 (base := w.heap.size + 1) (e := 5) (size := 1) (by simp) (Nat.zero_le _) rfl
      simpa [Lib.byteCells] using this
    · show Below _ _ _
      have := bA0 (w.alloc (.cells #[.string s, .slice (some ⟨c, o, none⟩) n cap] 25)) (.cells #[] 5)
      simpa using this
  case round =>
    obtain ⟨k, rfl, hk, hown, H2⟩ := hrel
    have hk0 : (0 : Int) ≤ (k : Int) := by omega
    have DR : Hid (DAt 25 wr w.heap.size s (.slice (some ⟨c, o, none⟩) n cap)) := (H2.out.block w.heap.size (by omega)).trans D0
    obtain ⟨c0, c1⟩ := DR.out.cells
    have hwr := H2.out.size
    by_cases h1 : k < n
    · have h1' : (k : Int) < (n : Int) := by omega
      have hlt : k < ss.length := by rw [HN.out]; exact h1
      have hc : wr.cell? ⟨c, o + k, none⟩ = some (.string (at0 ss k)) := by
        rw [H2.out.cell (Nat.lt_succ_of_lt HZ.out.1), (bA0 w _).cell HZ.out.1]; exact HZ.out.2 k hlt
      have E := tot_step ss k hlt
      have T1 := tot_take ss (k + 1)
      have FE := Lib.hid (fl_step ss k hlt)
      have FL := fl_len (ss.take k)
      have hsm : (fl (ss.take k)).length + (at0 ss k).size ≤ 4000000 := by omega
      clear hlt E T1 FL
      generalize at0 ss k = z at *
      generalize hl : fl (ss.take k) = l at *
      clear hl
      go_wp2_with (first | (at_builtin; refine Lib.wpList_append_own_string _ rfl (.tmp 13) (.tmp 18) 22 9 rfl (w.heap.size + 1) 5 i0 Try.underlying22 Try.underlying9 hi hz0 hz1 hz2 _ _ _ rfl hown z rfl (by unfold maxLen; omega) (by omega) (by simp at hwr; omega) ?_))
      intro v' w' own' grow' _
      rw [str_cells, ← FE.out] at own'
      have O3 : Hid (w'.ownsRow (w.heap.size + 1) 5 1 v' (fl (ss.take (k + 1))).length (Lib.byteCells (fl (ss.take (k + 1))))) := by
        have e : (fl (ss.take (k + 1))).length = l.length + z.size := by rw [FE.out]; simp
        show World.ownsRow _ _ _ _ _ _ _
        rw [e]; exact own'
      have B3 : Hid (Below (w.heap.size + 1) (w.alloc (.cells #[.string s, .slice (some ⟨c, o, none⟩) n cap] 25)) w') := H2.out.grown grow' (by simp at hwr; omega) (fun j hj => (hown.lt j hj).1)
      clear own' grow' hown
      go_wp2
      go_roundw
      case rel => exact ⟨k + 1, by go_num, by omega, O3.out, B3⟩
      case measure => simp [intOf]; omega
    · have h1' : ¬ (k : Int) < (n : Int) := by omega
      have h3 := HN.out
      rw [fl_all ss k (by omega)] at hown
      have hcv : Sem.run Try.prog (convert 22 9 u3) wr = .ok (.string (flT ss)) wr := own_text hown
      have B4 : Hid (Below w.heap.size w wr) := (bA0 w _).trans (H2.out.mono (by omega))
      clear h3 hown
      go_wp2
      go_ret
      exact ⟨rfl, B4.out⟩

theorem sloose_any (s : ByteArray) (sl : Option Addr) (cap : Nat) (ss : List ByteArray) (w : World) (hn : ss.length ≤ 1048576) (ht : tot ss ≤ 4000000) (hz : Strs w sl ss) :
    Calls Try.prog 38 #[DV s sl ss.length cap] w fun e w' => e = .returned (.string (flT ss)) ∧ Below w.heap.size w w' := by
  rcases hz with rfl | ⟨c, o, rfl, hz⟩
  · exact sloose_nil s sl cap w
  · exact sloose_some s c o cap ss w hn ht hz

set_option maxHeartbeats 1000000 in
theorem sdt_no (s : ByteArray) (sl : Option Addr) (cap : Nat) (ss : List ByteArray) (w : World) (hz : Strs w sl ss) (hr : dR s ss = false) :
    Calls Try.prog 16 #[DV s sl ss.length cap] w fun e w' => e = .returned (.string ⟨#[]⟩) ∧ Below w.heap.size w w' := by
  have R : Hid (∀ w1, Below w.heap.size w w1 → Calls Try.prog 11 #[DV s sl ss.length cap] w1 fun e w' => e = .returned (.bool false) ∧ Below w1.heap.size w1 w') := fun w1 hb => by
    have := sdr_any s sl cap ss w1 (hz.below hb); rwa [hr] at this
  clear hz hr
  generalize ss.length = n at *
  go_enter Try.func16, Try.ntmps16
  go_wp2_with fail
  refine (R.out _ (bA0 _ _)).mono ?_
  rintro e w1 ⟨rfl, b1⟩
  go_wp2
  go_ret
  exact ⟨rfl, bT (bA0 _ _) b1⟩

set_option maxHeartbeats 1000000 in
theorem sdt_yes (s : ByteArray) (sl : Option Addr) (cap : Nat) (ss : List ByteArray) (w : World) (hz : Strs w sl ss) (hr : dR s ss = true) :
    Calls Try.prog 16 #[DV s sl ss.length cap] w fun e w' => e = .returned (.string (s ++ flT ss)) ∧ Below w.heap.size w w' := by
  have hp := dR_parts hr
  have R : Hid (∀ w1, Below w.heap.size w w1 → Calls Try.prog 11 #[DV s sl ss.length cap] w1 fun e w' => e = .returned (.bool true) ∧ Below w1.heap.size w1 w') := fun w1 hb => by
    have := sdr_any s sl cap ss w1 (hz.below hb); rwa [hr] at this
  have L : Hid (∀ w1, Below w.heap.size w w1 → Calls Try.prog 38 #[DV s sl ss.length cap] w1 fun e w' => e = .returned (.string (flT ss)) ∧ Below w1.heap.size w1 w') := fun w1 hb =>
    sloose_any s sl cap ss w1 (by omega) (by omega) (hz.below hb)
  have hcat : ¬ s.size + (flT ss).size > 9223372036854775807 := by rw [flT_size]; omega
  clear hz hr hp
  generalize ss.length = n at *
  generalize flT ss = F at *
  have D0 := DAt.new 25 w s (.slice sl n cap)
  go_enter Try.func16, Try.ntmps16
  go_wp2_with fail
  refine (R.out _ (bA0 _ _)).mono ?_
  rintro e w1 ⟨rfl, b1⟩
  have D1 := Lib.hid (D0.below b1)
  have B1 := Lib.hid (bT (bA0 _ _) b1)
  clear b1 D0
  obtain ⟨c0, c1⟩ := D1.out.cells
  have hlt := D1.out.lt
  go_wp2_with fail
  go_region_held3 (fun w' => w.heap.size < w'.heap.size ∧ w'.cell? ⟨w.heap.size, 0, none⟩ = some (.string s) ∧ w'.cell? ⟨w.heap.size, 1, none⟩ = some (.slice sl n cap))
    (first | exact ⟨hlt, c0, c1⟩ | exact ⟨Nat.lt_of_lt_of_le hlt b5.size, (b5.cell hlt).trans c0, (b5.cell hlt).trans c1⟩)
    (first | (go_at_call 38; refine (L.out _ (by first | exact B1.out | exact B1.out.drew | exact below_drewN B1.out _)).mono ?_; rintro e w5 ⟨rfl, b5⟩))
  have B5 := Lib.hid (bT B1.out.drew b5)
  clear b5 B1 D1 c0 c1
  go_wp2
  go_ret
  exact ⟨rfl, B5.out⟩

theorem sdt_any (s : ByteArray) (sl : Option Addr) (cap : Nat) (ss : List ByteArray) (w : World) (hz : Strs w sl ss) :
    Calls Try.prog 16 #[DV s sl ss.length cap] w fun e w' => e = .returned (.string (dT s ss)) ∧ Below w.heap.size w w' := by
  unfold dT
  cases hr : dR s ss
  · simpa using sdt_no s sl cap ss w hz hr
  · simpa using sdt_yes s sl cap ss w hz hr

set_option maxHeartbeats 1000000 in
theorem law5 (s : ByteArray) (sl : Option Addr) (cap : Nat) (ss : List ByteArray) (w : World) (hz : Strs w sl ss) (hs : ∀ s ∈ ss, s.size ≤ maxLen) (hs0 : s.size ≤ maxLen) (hn : ss.length ≤ maxLen) (hge : 0 ≤ szD 1048576 s ss) :
    Calls Try.prog 5 #[DV s sl ss.length cap] w fun e w' => e = .returned (.bool true) ∧ Below w.heap.size w w' := by
  have hsz : (s.size : Int) + ss.length + tot ss ≤ 1048576 := by
    rcases szD_or 1048576 s ss with h | ⟨_, h⟩ <;> omega
  have hl : ¬ szD 1048576 s ss < 0 := by omega
  have HZ : Hid (Strs w sl ss) := hz
  clear hz
  have SZ : Hid (∀ w1, Below w.heap.size w w1 → Calls Try.prog 17 #[DV s sl ss.length cap, .int .i64 1048576] w1 fun e w' => e = .returned (.int .i64 (szD 1048576 s ss)) ∧ Below w1.heap.size w1 w') :=
    fun w1 hb => szD_any s sl cap ss 1048576 w1 (by omega) (by omega) hn (HZ.out.below hb) hs hs0
  have T : Hid (∀ w1, Below w.heap.size w w1 → Calls Try.prog 18 #[DV s sl ss.length cap] w1 fun e w' => e = .returned (DV s (some ⟨w1.heap.size + 3, 0, none⟩) ss.length ss.length) ∧ RowAt w' (w1.heap.size + 3) (vsOf ss ss.length) ∧ Below w1.heap.size w1 w') :=
    fun w1 hb => toD_any s sl cap ss w1 (by omega) (HZ.out.below hb)
  have S1 : Hid (∀ w1 a c, Strs w1 a ss → Calls Try.prog 16 #[DV s a ss.length c] w1 fun e w' => e = .returned (.string (dT s ss)) ∧ Below w1.heap.size w1 w') := fun w1 a c h => sdt_any s a c ss w1 h
  have S2 : Hid (∀ w1 a c, Strs w1 a ss → Calls Try.prog 12 #[DV s a ss.length c] w1 fun e w' => e = .returned (.string (dT s ss)) ∧ Below w1.heap.size w1 w') := fun w1 a c h => idt_any s a c ss w1 (by omega) h
  have EQ : Hid (∀ w1 a c a2 c2, Strs w1 a ss → Strs w1 a2 ss → Calls Try.prog 19 #[DV s a ss.length c, DV s a2 ss.length c2] w1 fun e w' => e = .returned (.bool true) ∧ Below w1.heap.size w1 w') :=
    fun w1 a c a2 c2 h h2 => eqD_any s a a2 c c2 ss w1 hn h h2
  have RS : Hid (∀ (w1 : World) b, RowAt w1 b (vsOf ss ss.length) → Strs w1 (some ⟨b, 0, none⟩) ss) := fun w1 b h => h.str
  clear hs hs0 hn hsz hge
  generalize vsOf ss ss.length = vs at *
  generalize ss.length = n at *
  generalize dT s ss = r at *
  have hrr : (r.toList == r.toList) = true := by simp
  generalize szD 1048576 s ss = z at *
  go_enter Try.func5, Try.ntmps5
  go_wp2_with fail
  refine (SZ.out _ (bA0 _ _)).mono ?_
  rintro e w0 ⟨rfl, b0⟩
  have B0 : Hid (Below w.heap.size w w0) := bT (bA0 _ _) b0
  have R0 : Hid (DAt 33 w0 w.heap.size s (.slice sl n cap)) := (DAt.new 33 w s _).below b0
  obtain ⟨c0, c1⟩ := R0.out.cells
  clear b0
  go_wp2_with fail
  refine (T.out _ B0.out).mono ?_
  rintro e w1 ⟨rfl, i1, b1⟩
  have I1 : Hid (Strs w1 (some ⟨w0.heap.size + 3, 0, none⟩) ss) := RS.out _ _ i1
  have B1 : Hid (Below w.heap.size w w1) := bT B0.out b1
  have R1 : Hid (DAt 33 w1 w.heap.size s (.slice sl n cap)) := R0.out.below b1
  clear i1 b1 B0 c0 c1 R0
  go_wp2_with fail
  refine (S1.out _ _ _ I1.out).mono ?_
  rintro e w2 ⟨rfl, b2⟩
  have B2 : Hid (Below w.heap.size w w2) := bT B1.out b2
  have R2 : Hid (DAt 33 w2 w.heap.size s (.slice sl n cap)) := R1.out.below b2
  obtain ⟨c0, c1⟩ := R2.out.cells
  clear b2 I1 B1 R1
  go_wp2_with fail
  refine (T.out _ B2.out).mono ?_
  rintro e w3 ⟨rfl, i3, b3⟩
  generalize w2.heap.size + 3 = q at *
  have I3 : Hid (Strs (w3.alloc (.cells #[.string s, .slice (some ⟨q, 0, none⟩) n n] 25)) (some ⟨q, 0, none⟩) ss) := (RS.out _ _ i3).below (bA0 _ _)
  have B3 : Hid (Below w.heap.size w (w3.alloc (.cells #[.string s, .slice (some ⟨q, 0, none⟩) n n] 25))) := bA (bT B2.out b3) _
  have R3 : Hid (DAt 33 (w3.alloc (.cells #[.string s, .slice (some ⟨q, 0, none⟩) n n] 25)) w.heap.size s (.slice sl n cap)) := (R2.out.below b3).below (bA0 _ _)
  have X3 : Hid (DAt 25 (w3.alloc (.cells #[.string s, .slice (some ⟨q, 0, none⟩) n n] 25)) w3.heap.size s (.slice (some ⟨q, 0, none⟩) n n)) := DAt.new 25 w3 s _
  clear i3 b3 B2 c0 c1 R2
  go_wp2_with fail
  refine (S2.out _ _ _ I3.out).mono ?_
  rintro e w4 ⟨rfl, b4⟩
  have I4 : Hid (Strs w4 (some ⟨q, 0, none⟩) ss) := I3.out.below b4
  have B4 : Hid (Below w.heap.size w w4) := bT B3.out b4
  have R4 : Hid (DAt 33 w4 w.heap.size s (.slice sl n cap)) := R3.out.below b4
  have X4 : Hid (DAt 25 w4 w3.heap.size s (.slice (some ⟨q, 0, none⟩) n n)) := X3.out.below b4
  clear b4 I3 B3 R3 X3
  obtain ⟨c0, c1⟩ := R4.out.cells
  obtain ⟨d0, d1⟩ := X4.out.cells
  have hd := X4.out.lt
  have hc := R4.out.lt
  have I5 : Hid (Strs w4.drew (some ⟨q, 0, none⟩) ss) := I4.out
  generalize w3.heap.size = b3 at *
  generalize hb0 : w.heap.size = b0 at *
  go_wp2_with fail
  go_region_held3 (fun w' => b3 < w'.heap.size ∧ b0 < w'.heap.size ∧ w'.cell? ⟨b3, 0, none⟩ = some (.string s) ∧ w'.cell? ⟨b3, 1, none⟩ = some (.slice (some ⟨q, 0, none⟩) n n) ∧ w'.cell? ⟨b0, 0, none⟩ = some (.string s) ∧ w'.cell? ⟨b0, 1, none⟩ = some (.slice sl n cap))
    (first | exact ⟨hd, hc, d0, d1, c0, c1⟩ | exact ⟨Nat.lt_of_lt_of_le hd b5.size, Nat.lt_of_lt_of_le hc b5.size, (b5.cell hd).trans d0, (b5.cell hd).trans d1, (b5.cell hc).trans c0, (b5.cell hc).trans c1⟩ | exact ⟨Nat.lt_of_lt_of_le (Nat.lt_of_lt_of_le hd b5.size) b6.size, Nat.lt_of_lt_of_le (Nat.lt_of_lt_of_le hc b5.size) b6.size, (b6.cell (Nat.lt_of_lt_of_le hd b5.size)).trans ((b5.cell hd).trans d0), (b6.cell (Nat.lt_of_lt_of_le hd b5.size)).trans ((b5.cell hd).trans d1), (b6.cell (Nat.lt_of_lt_of_le hc b5.size)).trans ((b5.cell hc).trans c0), (b6.cell (Nat.lt_of_lt_of_le hc b5.size)).trans ((b5.cell hc).trans c1)⟩)
    (first | (go_at_call 18; refine (T.out _ (by first | exact B4.out | exact B4.out.drew | exact below_drewN B4.out _)).mono ?_; rintro e w5 ⟨rfl, i5, b5⟩) | (go_at_call 19; refine (EQ.out _ _ _ _ _ (I5.out.below b5) (RS.out _ _ i5)).mono ?_; rintro e w6 ⟨rfl, b6⟩))
  subst hb0
  have B6 : Hid (Below w.heap.size w w6) := bT (bT B4.out.drew b5) b6
  clear b5 b6 B4 i5
  go_wp2
  go_ret
  exact ⟨rfl, B6.out⟩

theorem law5_long (s : ByteArray) (sl : Option Addr) (cap : Nat) (ss : List ByteArray) (w : World) (hz : Strs w sl ss) (hs : ∀ s ∈ ss, s.size ≤ maxLen) (hs0 : s.size ≤ maxLen) (hn : ss.length ≤ maxLen) (hge : szD 1048576 s ss = -1) :
    Calls Try.prog 5 #[DV s sl ss.length cap] w fun e w' => e = .returned (.bool true) ∧ Below w.heap.size w w' := by
  have SZ : Hid (∀ w1, Below w.heap.size w w1 → Calls Try.prog 17 #[DV s sl ss.length cap, .int .i64 1048576] w1 fun e w' => e = .returned (.int .i64 (-1)) ∧ Below w1.heap.size w1 w') :=
    fun w1 hb => by have := szD_any s sl cap ss 1048576 w1 (by omega) (by omega) hn (hz.below hb) hs hs0; rwa [hge] at this
  clear hz hs hs0 hn hge
  generalize ss.length = n at *
  go_enter Try.func5, Try.ntmps5
  go_wp2_with fail
  refine (SZ.out _ (bA0 _ _)).mono ?_
  rintro e w0 ⟨rfl, b0⟩
  go_wp2
  go_ret
  exact ⟨rfl, bT (bA0 _ _) b0⟩

theorem law5_all (s : ByteArray) (sl : Option Addr) (cap : Nat) (ss : List ByteArray) (w : World) (hz : Strs w sl ss) (hs : ∀ s ∈ ss, s.size ≤ maxLen) (hs0 : s.size ≤ maxLen) (hn : ss.length ≤ maxLen) :
    Calls Try.prog 5 #[DV s sl ss.length cap] w fun e w' => e = .returned (.bool true) ∧ Below w.heap.size w w' := by
  rcases szD_or 1048576 s ss with h | ⟨h, _⟩
  · exact law5_long s sl cap ss w hz hs hs0 hn h
  · exact law5 s sl cap ss w hz hs hs0 hn h

end Go.Proofs.Ytaongccmipjgeaa
