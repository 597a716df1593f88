/-
  WHAT IS LOOSE, PUT TOGETHER: both sides.
-/
import Derived.Test.YtaongccmipjgeaaAc
import Derived.Lib.AppendStr
import Derived.Laws.CopyRow
import Derived.Laws.IdiomStrings
namespace Go.Proofs.Ytaongccmipjgeaa
open Go.RowKit
set_option linter.unusedVariables false

theorem DAt.drew {t : TypeId} {w : World} {b : Nat} {s : ByteArray} {v : Value} (h : DAt t w b s v) : DAt t w.drew b s v := h
theorem Strs.drew {w : World} {sl : Option Addr} {ss : List ByteArray} (h : Strs w sl ss) : Strs w.drew sl ss := h
/-- The bytes of all texts, one behind the other. -/
def fl (ss : List ByteArray) : List UInt8 := (ss.map fun s => s.data.toList).flatten
theorem fl_app (a b : List ByteArray) : fl (a ++ b) = fl a ++ fl b := by simp [fl]
theorem fl_one (s : ByteArray) : fl [s] = s.data.toList := by simp [fl]
theorem fl_len (ss : List ByteArray) : (fl ss).length = tot ss := by
  induction ss with
  | nil => rfl
  | cons s r ih =>
    rw [show s :: r = [s] ++ r from rfl, fl_app, List.length_append, ih, tot_app, fl_one, tot_one]
    simp
theorem fl_step (ss : List ByteArray) (k : Nat) (h : k < ss.length) : fl (ss.take (k + 1)) = fl (ss.take k) ++ (at0 ss k).data.toList := by
  rw [List.take_succ_eq_append_getElem h, fl_app, fl_one, at0_lt _ _ h]
theorem fl_all (ss : List ByteArray) (k : Nat) (h : ss.length ≤ k) : fl (ss.take k) = fl ss := by rw [List.take_of_length_le h]
theorem fl_zero (ss : List ByteArray) : fl (ss.take 0) = [] := by simp [fl]

/-- A text's bytes copied into a row that has room for all of them. -/
theorem run_copy_text {P : Program} (w : World) (dT sT ty elem : TypeId) (g o dLen dCap : Nat) (s : ByteArray) (cur : Array Value) (t : TypeId)
    (hu : P.underlying dT = some (.slice elem)) (hs : (P.info? elem).map (·.size) = some 1)
    (hg : w.heap[g]? = some (.cells cur t (0, 0))) (hn : s.size ≤ dLen) (hfit : o + s.size ≤ cur.size) :
    (Builtin.copy_ #[dT, sT] ty #[.slice (some ⟨g, o, none⟩) dLen dCap, .string s]).run P w =
      .ok (goInt s.size) (w.setRow g (cur.toList.take o ++ Lib.strCells s ++ cur.toList.drop (o + s.size)).toArray) := by
  have hm : Nat.min s.size dLen = s.size := Nat.min_eq_left hn
  have hst := run_storeCells_at P g o t (Lib.strCells s) 0 cur w hg (by rw [Lib.strCells_length]; simpa using hfit) (Lib.strCells_oneCell s)
  have hfc := Lib.run_firstCells_string (P := P) w 1 s
  rw [Lib.strCells_length] at hst
  cases hq : P.info? elem with
  | none => simp [hq] at hs
  | some i =>
    have hi : i.size = 1 := by simpa [hq] using hs
    simp [Builtin.copy_, run_underlying hu, Builtin.lenOf, sizeOf, typeInfo, hq, hi, hm, hfc, hst]

/-- A row of bytes: l, then noughts up to n. -/
def bts (l : List UInt8) (n : Nat) : List Value := Lib.byteCells l ++ List.replicate (n - l.length) (.int .u8 0)
theorem bts_len (l : List UInt8) (n : Nat) (h : l.length ≤ n) : (bts l n).length = n := by simp [bts, Lib.byteCells]; omega
theorem bts_step (l : List UInt8) (n : Nat) (s : ByteArray) (h : l.length + s.size ≤ n) :
    (bts l n).take l.length ++ Lib.strCells s ++ (bts l n).drop (l.length + s.size) = bts (l ++ s.data.toList) n := by
  have h1 : (Lib.byteCells l).length = l.length := by simp [Lib.byteCells]
  have h2 : (bts l n).take l.length = Lib.byteCells l := by
    rw [bts, List.take_append_of_le_length (by omega), List.take_of_length_le (by omega)]
  have h3 : (bts l n).drop (l.length + s.size) = List.replicate (n - (l.length + s.size)) (.int .u8 0) := by
    rw [bts, List.drop_append, List.drop_of_length_le (by omega), List.nil_append, h1, List.drop_replicate]
    congr 1
    omega
  rw [h2, h3, bts]
  simp [Lib.byteCells, Lib.strCells]
theorem bts_full (l : List UInt8) (n : Nat) (h : l.length = n) : bts l n = Lib.byteCells l := by simp [bts, h]

def mkB (n : Nat) : Array Value := madeCells #[.int .u8 0] n
theorem mkB_eq (n : Nat) : mkB n = (bts [] n).toArray := by
  apply Array.toList_inj.1
  rw [mkB, toList_madeCells_one]
  simp [bts, Lib.byteCells]
theorem info5 : ∃ i, Try.prog.info? 5 = some i ∧ i.zero = some (.int .u8 0) ∧ i.size = 1 ∧ i.bytes = 1 := ⟨_, rfl, by kernel_rfl, by kernel_rfl, by kernel_rfl⟩
theorem size5 : (Try.prog.info? 5).map (·.size) = some 1 := by kernel_rfl
theorem makeB (n : Nat) (h : n ≤ 4000000) (w : World) :
    Sem.run Try.prog (Instr.makeSlice 22 (.int .i64 (n : Int)) (.int .i64 (n : Int))) w = .ok (.slice (some ⟨w.heap.size, 0, none⟩) n n) (w.alloc (.cells (mkB n) 5)) := by
  obtain ⟨i, h1, h2, h3, h4⟩ := info5
  have := run_make (P := Try.prog) w 22 5 i (.int .u8 0) Try.underlying22 h1 h2 .i64 .i64 (n : Int) (n : Int) (by omega) (Int.le_refl _) (by rw [h4]; omega) (by omega)
  rw [this, h3]
  simp [mkB, Value.cells]

/-- The bytes l alone in a block. -/
def BAt (w : World) (g : Nat) (vs : List Value) : Prop := w.heap[g]? = some (.cells vs.toArray 5)
theorem BAt.lt {w : World} {g : Nat} {vs : List Value} (h : BAt w g vs) : g < w.heap.size := (Array.getElem?_eq_some_iff.1 h).1
theorem BAt.below {w w' : World} {g : Nat} {vs : List Value} (h : BAt w g vs) (hb : Below w.heap.size w w') : BAt w' g vs := (hb.block g h.lt).trans h
theorem BAt.text {w : World} {g cap : Nat} {l : List UInt8} (h : BAt w g (Lib.byteCells l)) : Sem.run Try.prog (convert 22 9 (.slice (some ⟨g, 0, none⟩) l.length cap)) w = .ok (.string ⟨l.toArray⟩) w := by
  refine run_convert_bytes_back (P := Try.prog) w 22 9 5 ⟨g, 0, none⟩ cap l Try.underlying22 Try.underlying5 Try.underlying9 (fun j hj => ?_)
  have ha : (⟨g, 0, none⟩ : Addr).add j = ⟨g, j, none⟩ := by
    unfold Addr.add
    by_cases h : j = 0 <;> simp [h]
  unfold BAt at h
  rw [ha]
  simp only [World.cell?, h]
  simp [Lib.byteCells, hj]
theorem below_row {B g : Nat} {w0 w : World} (hb : Below B w0 w) (hBg : B ≤ g) (cs : Array Value) : Below B w0 (w.setRow g cs) :=
  hb.trans ⟨rfl, rfl, rfl, by simp [World.setRow], fun k hk => setRow_other w g k cs (by omega)⟩

set_option maxHeartbeats 1000000 in
theorem loose_some (s : ByteArray) (c o cap : Nat) (ss : List ByteArray) (w : World) (hr : dR s ss = true) (hz : StrsAt w c o ss) :
    Calls Try.prog 33 #[DV s (some ⟨c, o, none⟩) ss.length cap] w fun e w' => ∃ g, e = .returned (.slice (some ⟨g, 0, none⟩) (tot ss) (tot ss)) ∧ w.heap.size ≤ g ∧ BAt w' g (Lib.byteCells (fl ss)) ∧ Below w.heap.size w w' := by
  obtain ⟨hn, ha, ht⟩ := dR_parts hr
  have SZ : Hid (∀ w1, Below w.heap.size w w1 → Calls Try.prog 35 #[DV s (some ⟨c, o, none⟩) ss.length cap] w1 fun e w' => e = .returned (.int .i64 ((s.size + tot ss : Nat) : Int)) ∧ Below w1.heap.size w1 w') :=
    fun w1 hb => size_some s c o cap ss w1 (by unfold maxLen; omega) (by omega) (hz.below hb)
  have HZ := Lib.hid hz
  have HA := Lib.hid ha
  clear hz hr ha
  generalize hN : ss.length = n at *
  have HN : Hid (ss.length = n) := hN
  clear hN
  have hmk : ∀ w, Sem.run Try.prog (Instr.makeSlice 22 (.int .i64 (IntKind.i64.wrap (((s.size + tot ss : Nat) : Int) - (s.size : Int)))) (.int .i64 (IntKind.i64.wrap (((s.size + tot ss : Nat) : Int) - (s.size : Int))))) w = .ok (.slice (some ⟨w.heap.size, 0, none⟩) (tot ss) (tot ss)) (w.alloc (.cells (mkB (tot ss)) 5)) := by
    intro w
    rw [show IntKind.i64.wrap (((s.size + tot ss : Nat) : Int) - (s.size : Int)) = (tot ss : Int) by rw [IntKind.wrap_i64]; omega]
    exact makeB (tot ss) (by omega) w
  have HK := Lib.hid (mkB_eq (tot ss))
  have hsT : (s.size : Int) ≤ ((s.size + tot ss : Nat) : Int) := by omega
  have hT2 : ((s.size + tot ss : Nat) : Int) ≤ 20000 := by omega
  generalize hT : tot ss = T at *
  have HT := Lib.hid hT
  clear hT
  have hTle : T ≤ 20000 := by omega
  generalize s.size + T = T2 at *
  have D0 := DAt.new 25 w s (.slice (some ⟨c, o, none⟩) n cap)
  obtain ⟨c0, c1⟩ := D0.cells
  go_enter Try.func33, Try.ntmps33
  go_wp2_with fail
  go_region_held3 (fun w' => w.heap.size < w'.heap.size ∧ w'.cell? ⟨w.heap.size, 0, none⟩ = some (.string s) ∧ w'.cell? ⟨w.heap.size, 1, none⟩ = some (.slice (some ⟨c, o, none⟩) n cap))
    (first | exact ⟨D0.lt, c0, c1⟩ | exact ⟨Nat.lt_of_lt_of_le D0.lt b5.size, (b5.cell D0.lt).trans c0, (b5.cell D0.lt).trans c1⟩ | exact ⟨Nat.lt_of_lt_of_le D0.lt (Nat.le_trans b5.size (bA0 _ _).size), ((bA0 _ _).cell (Nat.lt_of_lt_of_le D0.lt b5.size)).trans ((b5.cell D0.lt).trans c0), ((bA0 _ _).cell (Nat.lt_of_lt_of_le D0.lt b5.size)).trans ((b5.cell D0.lt).trans c1)⟩)
    (first | (go_at_call 35; refine (SZ.out _ (by first | exact bA0 _ _ | exact (bA0 _ _).drew | exact below_drewN (bA0 _ _) _)).mono ?_; rintro e w5 ⟨rfl, b5⟩))
  have B5 : Hid (Below w.heap.size w w5) := bT (bA0 _ _).drew b5
  have D5 : Hid (DAt 25 w5 w.heap.size s (.slice (some ⟨c, o, none⟩) n cap)) := D0.drew.below b5
  clear D0 b5 c0 c1 SZ hmk hsT hT2
  obtain ⟨c0, c1⟩ := ((D5.out.below (bA0 _ (.cells (mkB T) 5)))).cells
  have hw5 := B5.out.size
  have HG : Hid (BAt (w5.alloc (.cells (mkB T) 5)) w5.heap.size (bts (fl (ss.take 0)) T)) := by
    show (w5.heap.push _)[w5.heap.size]? = _
    rw [fl_zero]
    simp [HK.out]
  have hlt5 := D5.out.lt
  go_wp2
  go_loopw [4, 17] (fun a i wr => ∃ k : Nat, i = .int .i64 k ∧ k ≤ n ∧ a = .int .i64 (tot (ss.take k)) ∧ Hid (BAt wr w5.heap.size (bts (fl (ss.take k)) T)) ∧ Hid (Below w.heap.size w wr)) (fun _ i _ => n - (intOf i).toNat)
  case atStart => exact ⟨0, rfl, Nat.zero_le _, by rw [tot_zero]; rfl, HG, bA B5.out _⟩
  case round =>
    obtain ⟨k, rfl, hk, rfl, H1, H2⟩ := hrel
    have hk0 : (0 : Int) ≤ (k : Int) := by omega
    by_cases h1 : k < n
    · have h1' : (k : Int) < (n : Int) := by omega
      have hlt : k < ss.length := by rw [HN.out]; exact h1
      have hc : wr.cell? ⟨c, o + k, none⟩ = some (.string (at0 ss k)) := by
        rw [H2.out.cell HZ.out.1]; exact HZ.out.2 k hlt
      have E := tot_step ss k hlt
      have T1 := tot_take ss (k + 1)
      have FE := fl_step ss k hlt
      have FL := fl_len (ss.take k)
      have hne : 0 < (at0 ss k).size := by
        have h2 := List.all_eq_true.1 HA.out _ (at0_mem ss k hlt)
        simp only [neB, Bool.not_eq_true', Go.ByteArray.toList_eq] at h2
        rcases Nat.eq_zero_or_pos (at0 ss k).size with h0 | h0
        · have : (at0 ss k).data.toList = [] := List.eq_nil_of_length_eq_zero (by simpa using h0)
          rw [this] at h2; cases h2
        · exact h0
      have hTT := HT.out
      have BS := bts_step (fl (ss.take k)) T (at0 ss k) (by omega)
      rw [← FE, FL] at BS
      have hcp := run_copy_text (P := Try.prog) wr 22 9 3 5 w5.heap.size (tot (ss.take k)) (T - tot (ss.take k)) (T - tot (ss.take k)) (at0 ss k) (bts (fl (ss.take k)) T).toArray 5 Try.underlying22 size5 H1.out (by omega) (by rw [List.size_toArray, bts_len _ _ (by omega)]; omega)
      rw [BS] at hcp
      have H3 : Hid (BAt (wr.setRow w5.heap.size (bts (fl (ss.take (k + 1))) T).toArray) w5.heap.size (bts (fl (ss.take (k + 1))) T)) := setRow_heap wr w5.heap.size _ _ 5 _ H1.out
      have H4 : Hid (Below w.heap.size w (wr.setRow w5.heap.size (bts (fl (ss.take (k + 1))) T).toArray)) := below_row H2.out hw5 _
      have E' := Lib.hid E
      have hlT : tot (ss.take k) + (at0 ss k).size ≤ T := by omega
      clear hlt E T1 FE FL BS hTT
      generalize at0 ss k = z at *
      generalize tot (ss.take k) = t at *
      generalize wr.setRow w5.heap.size (bts (fl (ss.take (k + 1))) T).toArray = wn at *
      have ht1 : (t : Int) ≤ (T : Int) := by omega
      have ht0 : (0 : Int) ≤ (t : Int) := by omega
      have ht2 : (t : Int) < (T : Int) := by omega
      go_wp2
      go_roundw
      case rel => exact ⟨k + 1, by go_num, by omega, by rw [E'.out]; go_num, H3, H4⟩
      case measure => simp [intOf]; omega
    · have h1' : ¬ (k : Int) < (n : Int) := by omega
      have H5 : Hid (BAt wr w5.heap.size (Lib.byteCells (fl ss))) := by
        have h3 := HN.out
        have h4 := H1.out
        rw [fl_all ss k (by omega), bts_full _ _ (by rw [fl_len]; exact HT.out)] at h4
        exact h4
      go_wp2
      go_ret
      exact ⟨_, rfl, hw5, H5.out, H2.out⟩

set_option maxHeartbeats 1000000 in
theorem loose_nil (s : ByteArray) (sl : Option Addr) (cap : Nat) (w : World) (hs : s.size ≤ 20000) :
    Calls Try.prog 33 #[DV s sl 0 cap] w fun e w' => ∃ g, e = .returned (.slice (some ⟨g, 0, none⟩) 0 0) ∧ w.heap.size ≤ g ∧ BAt w' g (Lib.byteCells []) ∧ Below w.heap.size w w' := by
  have SZ : Hid (∀ w1, Calls Try.prog 35 #[DV s sl 0 cap] w1 fun e w' => e = .returned (.int .i64 (s.size : Int)) ∧ Below w1.heap.size w1 w') :=
    fun w1 => size_nil s sl cap w1
  have hmk : ∀ w, Sem.run Try.prog (Instr.makeSlice 22 (.int .i64 (IntKind.i64.wrap ((s.size : Int) - (s.size : Int)))) (.int .i64 (IntKind.i64.wrap ((s.size : Int) - (s.size : Int))))) w = .ok (.slice (some ⟨w.heap.size, 0, none⟩) 0 0) (w.alloc (.cells (mkB 0) 5)) := by
    intro w
    rw [show IntKind.i64.wrap ((s.size : Int) - (s.size : Int)) = ((0 : Nat) : Int) by rw [IntKind.wrap_i64]; omega]
    exact makeB 0 (by omega) w
  have hmk0 : ∀ w, Sem.run Try.prog (Instr.makeSlice 22 (.int .i64 (IntKind.i64.wrap 0)) (.int .i64 (IntKind.i64.wrap 0))) w = .ok (.slice (some ⟨w.heap.size, 0, none⟩) 0 0) (w.alloc (.cells (mkB 0) 5)) := by
    intro w
    rw [show IntKind.i64.wrap 0 = ((0 : Nat) : Int) by rw [IntKind.wrap_i64]; omega]
    exact makeB 0 (by omega) w
  have HK := Lib.hid (mkB_eq 0)
  have D0 := DAt.new 25 w s (.slice sl 0 cap)
  obtain ⟨c0, c1⟩ := D0.cells
  go_enter Try.func33, Try.ntmps33
  go_wp2_with fail
  go_region_held3 (fun w' => w.heap.size < w'.heap.size ∧ w'.cell? ⟨w.heap.size, 0, none⟩ = some (.string s) ∧ w'.cell? ⟨w.heap.size, 1, none⟩ = some (.slice sl 0 cap))
    (first | exact ⟨D0.lt, c0, c1⟩ | exact ⟨Nat.lt_of_lt_of_le D0.lt b5.size, (b5.cell D0.lt).trans c0, (b5.cell D0.lt).trans c1⟩ | exact ⟨Nat.lt_of_lt_of_le D0.lt (Nat.le_trans b5.size (bA0 _ _).size), ((bA0 _ _).cell (Nat.lt_of_lt_of_le D0.lt b5.size)).trans ((b5.cell D0.lt).trans c0), ((bA0 _ _).cell (Nat.lt_of_lt_of_le D0.lt b5.size)).trans ((b5.cell D0.lt).trans c1)⟩)
    (first | (go_at_call 35; refine (SZ.out _).mono ?_; rintro e w5 ⟨rfl, b5⟩))
  have B5 : Hid (Below w.heap.size w w5) := bT (bA0 _ _).drew b5
  have D5 : Hid (DAt 25 w5 w.heap.size s (.slice sl 0 cap)) := D0.drew.below b5
  clear D0 b5 c0 c1 SZ hmk hmk0
  obtain ⟨c0, c1⟩ := ((D5.out.below (bA0 _ (.cells (mkB 0) 5)))).cells
  have hw5 := B5.out.size
  have HG : Hid (BAt (w5.alloc (.cells (mkB 0) 5)) w5.heap.size (Lib.byteCells [])) := by
    show (w5.heap.push _)[w5.heap.size]? = _
    simp [HK.out, bts]
  have hlt5 := D5.out.lt
  go_wp2
  refine wp_loop_rounds 1 ?_
  rw [rounds_succ]
  go_wp2
  go_ret
  exact ⟨_, rfl, hw5, HG.out, bA B5.out _⟩

theorem loose_any (s : ByteArray) (sl : Option Addr) (cap : Nat) (ss : List ByteArray) (w : World) (hr : dR s ss = true) (hz : Strs w sl ss) :
    Calls Try.prog 33 #[DV s sl ss.length cap] w fun e w' => ∃ g, e = .returned (.slice (some ⟨g, 0, none⟩) (tot ss) (tot ss)) ∧ w.heap.size ≤ g ∧ BAt w' g (Lib.byteCells (fl ss)) ∧ Below w.heap.size w w' := by
  rcases hz with rfl | ⟨c, o, rfl, hz⟩
  · have := (dR_parts hr).2.2
    exact loose_nil s sl cap w (by omega)
  · exact loose_some s c o cap ss w hr hz

end Go.Proofs.Ytaongccmipjgeaa
