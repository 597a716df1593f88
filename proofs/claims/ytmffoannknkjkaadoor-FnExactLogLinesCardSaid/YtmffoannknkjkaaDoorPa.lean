/-
  LINES OF A LOG: when a record is a line, both sides; what a record's bytes are.
-/
import Derived.Test.YtmffoannknkjkaaDoorOa
namespace Go.Proofs.YtmffoannknkjkaaDoor
open Go.RowKit
set_option linter.unusedVariables false

def isB (a : Int) : Bool := decide (0 ≤ a ∧ a ≤ 255)
set_option maxHeartbeats 400000 in
theorem lB_some (c o cap : Nat) (zs : List Int) (w : World) (hn : zs.length ≤ maxLen) (hz : IntsAt w c o zs) :
    Calls Tryd.prog 20 #[.slice (some ⟨c, o, none⟩) zs.length cap, .int .i64 0, .int .i64 255] w fun e w' => e = .returned (.bool (zs.all isB)) ∧ w' = w := by
  unfold maxLen at hn
  have HZ : Hid (IntsAt w c o zs) := hz
  clear hz
  generalize hN : zs.length = n at *
  have HN : Hid (zs.length = n) := hN
  clear hN
  go_enter Tryd.func20, Tryd.ntmps20
  go_wp2
  go_loop [7] (fun i => ∃ k : Nat, i = .int .i64 k ∧ k ≤ n ∧ Hid ((zs.take k).all isB = true)) (fun i => n - (intOf i).toNat)
  case atStart => exact ⟨0, rfl, Nat.zero_le _, (by show (zs.take 0).all isB = true; simp)⟩
  case round =>
    obtain ⟨k, rfl, hk, H1⟩ := hrel
    have hk0 : (0 : Int) ≤ (k : Int) := by omega
    by_cases h1 : k < n
    · have h1' : (k : Int) < (n : Int) := by omega
      have hc : w.cell? ⟨c, o + k, none⟩ = some (.int .i64 (zs.getD k 0)) := HZ.out.2 k (by rw [HN.out]; exact h1)
      by_cases a1 : zs.getD k 0 < 0
      · have HF : Hid (zs.all isB = false) := all_no isB zs k (by rw [HN.out]; exact h1) (by simp only [isB, decide_eq_false_iff_not]; omega)
        generalize zs.getD k 0 = z at *
        go_wp2
        go_ret
        exact ⟨by rw [HF.out]; rfl, rfl⟩
      · by_cases a2 : 255 < zs.getD k 0
        · have HF : Hid (zs.all isB = false) := all_no isB zs k (by rw [HN.out]; exact h1) (by simp only [isB, decide_eq_false_iff_not]; omega)
          generalize zs.getD k 0 = z at *
          go_wp2
          go_ret
          exact ⟨by rw [HF.out]; rfl, rfl⟩
        · have HS : Hid ((zs.take (k + 1)).all isB = true) := (all_stepZ isB zs k (by rw [HN.out]; exact h1) H1.out).trans (by simp only [isB, decide_eq_true_eq]; omega)
          generalize zs.getD k 0 = z at *
          go_wp2
          go_round
          case rel => exact ⟨k + 1, by go_num, by omega, HS⟩
          case measure => simp [intOf]; omega
    · have h1' : ¬ (k : Int) < (n : Int) := by omega
      have HE : Hid (zs.all isB = true) := all_endZ isB zs k (by rw [HN.out]; omega) H1.out
      go_wp2
      go_ret
      exact ⟨by rw [HE.out]; rfl, rfl⟩

theorem lB_any (sl : Option Addr) (cap : Nat) (zs : List Int) (w : World) (hn : zs.length ≤ maxLen) (hz : Ints w sl zs) :
    Calls Tryd.prog 20 #[.slice sl zs.length cap, .int .i64 0, .int .i64 255] w fun e w' => e = .returned (.bool (zs.all isB)) ∧ w' = w := by
  rcases hz with rfl | ⟨c, o, rfl, h⟩
  · exact l01All_nil sl cap _ _ w
  · exact lB_some c o cap zs w hn h

/-- The numbers as bytes. -/
def bz (zs : List Int) : List UInt8 := zs.map fun z => z.toNat.toUInt8
def bytesZ (zs : List Int) : ByteArray := ⟨(bz zs).toArray⟩
/-- Is the record a line? -/
def lineR (k : Int) (zs : List Int) : Bool := decide (k = 1) && zs.all isB
theorem bz_len (zs : List Int) : (bz zs).length = zs.length := by simp [bz]
theorem byte_back {z : Int} (h0 : 0 ≤ z) (h1 : z ≤ 255) : (((z.toNat.toUInt8).toNat : Nat) : Int) = z := by
  have : z.toNat < 256 := by omega
  rw [UInt8.toNat_ofNat_of_lt' (by simpa using this)]
  omega
theorem bts_set (zs : List Int) (k n : Nat) (hn : zs.length = n) (hk : k < n) (h0 : 0 ≤ zs.getD k 0) (h1 : zs.getD k 0 ≤ 255) :
    (bts (bz (zs.take k)) n).set k (.int .u8 (zs.getD k 0)) = bts (bz (zs.take (k + 1))) n := by
  have hl : (Lib.byteCells (bz (zs.take k))).length = k := by simp [Lib.byteCells, bz]; omega
  have hk' : k < zs.length := by omega
  unfold bts
  rw [List.set_append_right _ _ (by omega), hl, Nat.sub_self]
  have e1 : n - (bz (zs.take k)).length = (n - (k + 1)) + 1 := by rw [bz_len, List.length_take]; omega
  have e2 : n - (bz (zs.take (k + 1))).length = n - (k + 1) := by rw [bz_len, List.length_take]; omega
  rw [e1, e2, List.replicate_succ, List.set_cons_zero]
  have e3 : zs.take (k + 1) = zs.take k ++ [zs.getD k 0] := by rw [List.take_succ_eq_append_getElem hk']; simp [hk']
  rw [e3]
  simp only [bz, Lib.byteCells, List.map_append, List.map_cons, List.map_nil, List.append_assoc, List.singleton_append]
  rw [byte_back h0 h1]
theorem bts_cell (l : List UInt8) (k n : Nat) (hl : l.length ≤ k) (hk : k < n) : (bts l n)[k]? = some (.int .u8 0) := by
  unfold bts
  rw [List.getElem?_append_right (by simpa [Lib.byteCells] using hl), List.getElem?_replicate]
  simp [Lib.byteCells]; omega
theorem BAt.cell {w : World} {g : Nat} {vs : List Value} (h : BAt w g vs) (i : Nat) : w.cell? ⟨g, i, none⟩ = vs[i]? := by
  unfold BAt at h; simp [World.cell?, h]
theorem BAt.frozen {w : World} {g : Nat} {vs : List Value} (h : BAt w g vs) (i : Nat) : w.frozen? ⟨g, i, none⟩ = false := by
  unfold BAt at h; simp [World.frozen?, h]
theorem BAt.set {w : World} {g : Nat} {vs : List Value} (h : BAt w g vs) (i : Nat) (v : Value) : BAt (w.setCell ⟨g, i, none⟩ v) g (vs.set i v) := by
  have := heap_setCell_same w g i vs.toArray 5 v h
  unfold BAt
  rw [this]
  simp
theorem lineR_no {k : Int} {zs : List Int} (h : k ≠ 1) : lineR k zs = false := by simp [lineR, h]
theorem lineR_one (zs : List Int) : lineR 1 zs = zs.all isB := by simp [lineR]

/-! ### impl.lineIn -/
def LinPost (k : Int) (zs : List Int) (w : World) (e : Ending) (w' : World) : Prop :=
  e = .returned (.tuple #[.string (if lineR k zs then bytesZ zs else ⟨#[]⟩), .bool (lineR k zs)]) ∧ Below w.heap.size w w'

set_option maxHeartbeats 1000000 in
theorem lin_no (k : Int) (sl : Option Addr) (n cap : Nat) (zs : List Int) (w : World) (h : k ≠ 1) :
    Calls Tryd.prog 24 #[RV k sl n cap] w fun e w' => LinPost k zs w e w' := by
  have P : Hid (∀ w', Below w.heap.size w w' → LinPost k zs w (.returned (.tuple #[.string ⟨#[]⟩, .bool false])) w') := fun w' hb => by
    refine ⟨?_, hb⟩
    rw [lineR_no h]; rfl
  have h' : (k == 1) = false := by rw [beq_eq_false_iff_ne]; exact h
  go_enter Tryd.func24, Tryd.ntmps24
  go_wp2
  exact bodyPost_ret (v := .tuple #[.string ⟨#[]⟩, .bool false]) (by simp [results, Tryd.results24, go_sem]) rfl (P.out _ (bA0 _ _))

set_option maxHeartbeats 1000000 in
theorem lin_nil (sl : Option Addr) (cap : Nat) (w : World) :
    Calls Tryd.prog 24 #[RV 1 sl 0 cap] w fun e w' => LinPost 1 [] w e w' := by
  have P : Hid (∀ w', Below w.heap.size w w' → LinPost 1 [] w (.returned (.tuple #[.string ⟨#[]⟩, .bool true])) w') := fun w' hb => ⟨rfl, hb⟩
  have hmk : ∀ w : World, Sem.run Tryd.prog (Instr.makeSlice 44 (.int .i64 0) (.int .i64 0)) w = .ok (.slice (some ⟨w.heap.size, 0, none⟩) 0 0) (w.alloc (.cells (mkB 0) 5)) := fun w => makeB 0 (by omega) w
  have hcv : ∀ w1 : World, Sem.run Tryd.prog (convert 44 9 (.slice (some ⟨w1.heap.size + 1, 0, none⟩) 0 0)) ((w1.alloc (.cells #[.int .i64 1, .slice sl 0 cap] 42)).alloc (.cells (mkB 0) 5)) = .ok (.string ⟨#[]⟩) ((w1.alloc (.cells #[.int .i64 1, .slice sl 0 cap] 42)).alloc (.cells (mkB 0) 5)) := fun w1 => by
    have : BAt ((w1.alloc (.cells #[.int .i64 1, .slice sl 0 cap] 42)).alloc (.cells (mkB 0) 5)) (w1.heap.size + 1) (Lib.byteCells []) := by
      have := heap_alloc_new (w1.alloc (.cells #[.int .i64 1, .slice sl 0 cap] 42)) (.cells (mkB 0) 5)
      rw [show (w1.alloc (.cells #[.int .i64 1, .slice sl 0 cap] 42)).heap.size = w1.heap.size + 1 by simp] at this
      rw [mkB_eq] at this ⊢
      exact this
    exact this.text (cap := 0)
  go_enter Tryd.func24, Tryd.ntmps24
  go_wp2
  refine wp_loop_rounds 1 ?_
  rw [rounds_succ]
  go_wp2
  exact bodyPost_ret (v := .tuple #[.string ⟨#[]⟩, .bool true]) (by simp [results, Tryd.results24, go_sem]) rfl (P.out _ (bA (bA0 _ _) _))

set_option maxHeartbeats 1000000 in
theorem lin_some (c o cap : Nat) (zs : List Int) (w : World) (hn : zs.length ≤ 1048576) (hz : IntsAt w c o zs) :
    Calls Tryd.prog 24 #[RV 1 (some ⟨c, o, none⟩) zs.length cap] w fun e w' => LinPost 1 zs w e w' := by
  have PN : Hid (∀ w', Below w.heap.size w w' → zs.all isB = false → LinPost 1 zs w (.returned (.tuple #[.string ⟨#[]⟩, .bool false])) w') := fun w' hb h => by
    refine ⟨?_, hb⟩
    rw [lineR_one, h]; rfl
  have PY : Hid (∀ w', Below w.heap.size w w' → zs.all isB = true → LinPost 1 zs w (.returned (.tuple #[.string ⟨(bz zs).toArray⟩, .bool true])) w') := fun w' hb h => by
    refine ⟨?_, hb⟩
    rw [lineR_one, h]; rfl
  have hmk := makeB zs.length (by omega)
  have HZ : Hid (IntsAt w c o zs) := hz
  have HK : Hid (mkB zs.length = (bts (bz (zs.take 0)) zs.length).toArray) := mkB_eq zs.length
  have HB := Lib.hid (bts_set zs)
  have HT : Hid (∀ w1 g, BAt w1 g (bts (bz zs) zs.length) → Sem.run Tryd.prog (convert 44 9 (.slice (some ⟨g, 0, none⟩) zs.length zs.length)) w1 = .ok (.string ⟨(bz zs).toArray⟩) w1) := fun w1 g h => by
    rw [bts_full _ _ (bz_len zs)] at h
    have := h.text (cap := zs.length)
    rwa [bz_len] at this
  clear hz
  generalize hN : zs.length = n at *
  have HN : Hid (zs.length = n) := hN
  clear hN
  go_enter Tryd.func24, Tryd.ntmps24
  go_wp2_with fail
  go_loopw [17] (fun i wr => ∃ k : Nat, i = .int .i64 k ∧ k ≤ n ∧ Hid ((zs.take k).all isB = true) ∧ Hid (Below w.heap.size w wr) ∧ Hid (BAt wr (w.heap.size + 1) (bts (bz (zs.take k)) n))) (fun i _ => n - (intOf i).toNat)
  case atStart =>
    refine ⟨0, rfl, Nat.zero_le _, (by show (zs.take 0).all isB = true; simp), bA (bA0 _ _) _, ?_⟩
    have := heap_alloc_new (w.alloc (.cells #[.int .i64 1, .slice (some ⟨c, o, none⟩) n cap] 42)) (.cells (mkB n) 5)
    rw [show (w.alloc (.cells #[.int .i64 1, .slice (some ⟨c, o, none⟩) n cap] 42)).heap.size = w.heap.size + 1 by simp] at this
    rw [HK.out] at this ⊢
    exact this
  case round =>
    obtain ⟨j, rfl, hk, H1, H2, H3⟩ := hrel
    have hk0 : (0 : Int) ≤ (j : Int) := by omega
    by_cases h1 : j < n
    · have h1' : (j : Int) < (n : Int) := by omega
      have hc : wr.cell? ⟨c, o + j, none⟩ = some (.int .i64 (zs.getD j 0)) := by
        rw [H2.out.cell HZ.out.1]; exact HZ.out.2 j (by rw [HN.out]; exact h1)
      by_cases a1 : zs.getD j 0 < 0
      · have HF : Hid (zs.all isB = false) := all_no isB zs j (by rw [HN.out]; exact h1) (by simp only [isB, decide_eq_false_iff_not]; omega)
        generalize zs.getD j 0 = z at *
        go_wp2
        exact bodyPost_ret (v := .tuple #[.string ⟨#[]⟩, .bool false]) (by simp [results, Tryd.results24, go_sem]) rfl (PN.out _ H2.out HF.out)
      · by_cases a2 : 255 < zs.getD j 0
        · have HF : Hid (zs.all isB = false) := all_no isB zs j (by rw [HN.out]; exact h1) (by simp only [isB, decide_eq_false_iff_not]; omega)
          generalize zs.getD j 0 = z at *
          go_wp2
          exact bodyPost_ret (v := .tuple #[.string ⟨#[]⟩, .bool false]) (by simp [results, Tryd.results24, go_sem]) rfl (PN.out _ H2.out HF.out)
        · have HS : Hid ((zs.take (j + 1)).all isB = true) := (all_stepZ isB zs j (by rw [HN.out]; exact h1) H1.out).trans (by simp only [isB, decide_eq_true_eq]; omega)
          have hd : wr.cell? ⟨w.heap.size + 1, j, none⟩ = some (.int .u8 0) := by
            rw [H3.out.cell]; exact bts_cell _ _ _ (by rw [bz_len, List.length_take]; omega) h1
          have hf := H3.out.frozen j
          have H5 : Hid (BAt (wr.setCell ⟨w.heap.size + 1, j, none⟩ (.int .u8 (zs.getD j 0))) (w.heap.size + 1) (bts (bz (zs.take (j + 1))) n)) := by
            show BAt _ _ _
            rw [← HB.out j n rfl h1 (by omega) (by omega)]; exact H3.out.set j _
          have hu : IntKind.u8.wrap (zs.getD j 0) = zs.getD j 0 := by
            have h0 : 0 ≤ zs.getD j 0 := by omega
            have h9 : zs.getD j 0 < 256 := by omega
            rw [IntKind.wrap_u8]
            omega
          clear HB
          generalize zs.getD j 0 = z at *
          go_wp2
          go_roundw
          case rel => exact ⟨j + 1, by go_num, by omega, HS, H2.out.setCell (by simp) _, H5⟩
          case measure => simp [intOf]; omega
    · have h1' : ¬ (j : Int) < (n : Int) := by omega
      have HE : Hid (zs.all isB = true) := all_endZ isB zs j (by rw [HN.out]; omega) H1.out
      have hj : j = n := by omega
      have H6 : Hid (BAt wr (w.heap.size + 1) (bts (bz zs) n)) := by
        have := H3.out
        rw [List.take_of_length_le (by rw [HN.out]; omega)] at this
        exact this
      have hcv := HT.out wr (w.heap.size + 1) H6.out
      clear hj
      go_wp2
      exact bodyPost_ret (v := .tuple #[.string ⟨(bz zs).toArray⟩, .bool true]) (by simp [results, Tryd.results24, go_sem]) rfl (PY.out _ H2.out HE.out)

theorem lin_any (k : Int) (sl : Option Addr) (cap : Nat) (zs : List Int) (w : World) (hn : zs.length ≤ 1048576) (hz : Ints w sl zs) :
    Calls Tryd.prog 24 #[RV k sl zs.length cap] w fun e w' => LinPost k zs w e w' := by
  by_cases h : k = 1
  · subst h
    rcases hz with rfl | ⟨c, o, rfl, h⟩
    · exact lin_nil sl cap w
    · exact lin_some c o cap zs w hn h
  · exact lin_no k sl _ cap zs w h

end Go.Proofs.YtmffoannknkjkaaDoor
