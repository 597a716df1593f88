/-
  A TEXT IN THE MAKING: strings.Builder's copyCheck and WriteString in this program.
  A NUMBER IN DIGITS, AS THE MODEL TELLS IT.
-/
import Derived.Test.YtanoklpffenljaaGreatDoorShelfT
import Derived.Test.YtanoklpffenljaaGreatDoorAa
import Derived.Lib.AppendStr
import Derived.Lib.Builder
import Derived.Laws.Externs
import Derived.Lib.AppendIntMem
import Derived.Lib.LaidTab
namespace Go.Proofs.YtanoklpffenljaaGreatDoor
open Go.RowKit
set_option linter.unusedVariables false

/-- A builder at block b holds the bytes l. -/
abbrev Bd (B b : Nat) (l : List Value) (w : World) : Prop := Lib.IsBuilder 107 5 B b l w
theorem sizeBd : (Tryz.prog.info? 107).map (·.size) = some 2 := by kernel_rfl
theorem liesBd : liesAt Tryz.prog Tryz.prog.depth 107 (2 / Tryz.prog.cellsOf 107) 0 107 1 = true := by kernel_rfl
theorem infoU8 : (Tryz.prog.info? 5).map (fun i => (i.zero, i.size, i.bytes)) = some (some (.int .u8 0), 1, 1) := by kernel_rfl

set_option maxHeartbeats 1000000 in
set_option maxRecDepth 100000 in
theorem cc_used (b : Nat) (w : World) (h0 : w.cell? ⟨b, 0, none⟩ = some (.pointer (some ⟨b, 0, none⟩))) :
    Calls Tryz.prog 101 #[.pointer (some ⟨b, 0, none⟩)] w fun e w' => e = .returned (.tuple #[]) ∧ w' = w := by
  obtain ⟨j, hj, _⟩ := Option.map_eq_some_iff.1 sizeBd
  go_enter Tryz.func101, Tryz.ntmps101
  go_wp2
  rw [Lib.run_neq_ptr_same w _ Tryz.underlying105 hj]
  go_wp2
  go_end0
  exact ⟨rfl, rfl⟩
set_option maxHeartbeats 1000000 in
set_option maxRecDepth 100000 in
theorem cc_new (b : Nat) (w : World) (h0 : w.cell? ⟨b, 0, none⟩ = some (.pointer none)) (hsh : w.shape? b = some (107, 2)) (hfz : w.frozen? ⟨b, 0, none⟩ = false) :
    Calls Tryz.prog 101 #[.pointer (some ⟨b, 0, none⟩)] w fun e w' => e = .returned (.tuple #[]) ∧ w' = w.setCell ⟨b, 0, none⟩ (.pointer (some ⟨b, 0, none⟩)) := by
  obtain ⟨j, hj, hjs⟩ := Option.map_eq_some_iff.1 sizeBd
  go_enter Tryz.func101, Tryz.ntmps101
  go_wp2
  rw [Lib.run_to_unsafe w ⟨b, 0, none⟩ Tryz.underlying105 Tryz.underlying171 hj (by rw [hjs]; decide) hsh (Nat.zero_lt_succ 1)]
  simp only [Result.andThen]
  rw [Oper.upon_value]
  go_wp2
  rw [run_callFunc_extern Tryz.func125 (by kernel_rfl) (by kernel_rfl) (by kernel_rfl) (e := Extern.AbiNoEscape.same) (by kernel_rfl), Lib.run_noEscape]
  simp only [Result.andThen]
  rw [Oper.upon_value]
  go_wp2
  rw [Lib.run_from_unsafe w ⟨b, 0, none⟩ Tryz.underlying171 Tryz.underlying105 hj hsh liesBd]
  simp only [Result.andThen]
  rw [Oper.upon_value]
  go_wp2
  go_end0
  exact ⟨rfl, rfl⟩
theorem cc_any (B b : Nat) (l : List Value) (w : World) (h : Bd B b l w) :
    Calls Tryz.prog 101 #[.pointer (some ⟨b, 0, none⟩)] w fun e w' => e = .returned (.tuple #[]) ∧ Lib.BuilderAt 107 5 B b (.pointer (some ⟨b, 0, none⟩)) l w' ∧ Below B w w' := by
  rcases h with h | h
  · refine (cc_new b w h.cell0 h.shape h.frozen0).mono ?_
    rintro e w' ⟨rfl, rfl⟩
    exact ⟨rfl, h.used _, (Below.refl B w).setCell (p := ⟨b, 0, none⟩) h.1 _⟩
  · refine (cc_used b w h.cell0).mono ?_
    rintro e w' ⟨rfl, rfl⟩
    exact ⟨rfl, h, Below.refl B _⟩
set_option maxHeartbeats 2000000 in
set_option maxRecDepth 100000 in
/-- WriteString. -/
theorem ws_any (B b : Nat) (l : List Value) (s : ByteArray) (w : World) (h : Bd B b l w) (hlen : l.length + s.size ≤ 140737488355328) (hBw : B ≤ w.heap.size) :
    Calls Tryz.prog 70 #[.pointer (some ⟨b, 0, none⟩), .string s] w fun e w' => e = .returned (.tuple #[.int .i64 s.size, .nilIface]) ∧ Bd B b (l ++ Lib.strCells s) w' ∧ Below B w w' := by
  obtain ⟨i0, hi, hz0, hz1, hz2⟩ := info_parts infoU8
  have E := Lib.hid (cc_any B b l w h)
  clear h
  go_enter Tryz.func70, Tryz.ntmps70
  go_wp2_with fail
  refine E.out.mono ?_
  rintro e w1 ⟨rfl, ⟨hB, v, hbk, hown, hne⟩, b1⟩
  have hs1 := b1.size
  have hlt : b < w1.heap.size := (Array.getElem?_eq_some_iff.1 hbk).1
  have c1 : w1.cell? ⟨b, 1, none⟩ = some v := by rw [Lib.cell_of_heap hbk]; rfl
  clear E
  go_wp2_with (at_builtin; refine Lib.wpList_append_own_string _ rfl _ _ 89 9 rfl B 5 i0 Tryz.underlying89 Tryz.underlying9 hi hz0 hz1 hz2 _ _ _ rfl hown s rfl (by unfold maxLen; omega) (by omega) (by omega) ?_)
  intro v9 w2 own9 grow9 _
  have hb2 : w2.heap[b]? = some (.cells #[.pointer (some ⟨b, 0, none⟩), v] 107 (0, 0)) := (grow9.block b hlt (fun e => hne e.symm)).trans hbk
  have d1 : w2.cell? ⟨b, 1, none⟩ = some v := by rw [Lib.cell_of_heap hb2]; rfl
  have f1 : w2.frozen? ⟨b, 1, none⟩ = false := Lib.frozen_of_heap hb2 1
  obtain ⟨ao, n9, cap9, rfl⟩ : ∃ ao n9 cap9, v9 = .slice ao n9 cap9 := by
    rcases own9.2 with ⟨hv, _⟩ | ⟨g, cap, cur, hv, _⟩
    · exact ⟨_, _, _, hv⟩
    · exact ⟨_, _, _, hv⟩
  have P := Lib.hid (Lib.BuilderAt.put (T := 107) (e := 5) hB hb2 (bs' := l ++ Lib.strCells s) (by simpa [Lib.strCells_length] using own9) (by decide))
  have Q := Lib.hid ((b1.grown grow9 (by omega) (fun k hk => (hown.lt k hk).1)).setCell (p := ⟨b, 1, none⟩) hB (.slice ao n9 cap9))
  clear own9 grow9 hown
  go_wp2
  go_ret2
  exact ⟨rfl, .inr P.out, Q.out⟩
/-- FormatInt, of any int64. -/
def PowTab (w : World) : Prop := Lib.TabIs Tryz.prog w "internal/strconv.uint64pow10" .u64 Lib.pow10Tab
theorem PowTab.below {w w' : World} (h : PowTab w) (hb : Below w.heap.size w w') : PowTab w' := Lib.tabBelow_of_tabIs h w' hb
theorem fi_any (n : Int) (h0 : -9223372036854775808 ≤ n) (h1 : n ≤ 9223372036854775807) (w : World) (h : PowTab w) :
    Calls Tryz.prog 86 #[.int .i64 n, .int .i64 10] w fun e w' => e = .returned (.string ⟨(Lib.itoa n).toArray⟩) ∧ Below w.heap.size w w' := by
  refine (Tryz.strconv_FormatInt_10 n h0 h1 w h).mono ?_
  rintro e w' ⟨rfl, k, os, rfl⟩
  exact ⟨rfl, Lib.below_grow _ w (Nat.le_refl _) k os⟩
end Go.Proofs.YtanoklpffenljaaGreatDoor
namespace Go.Proofs.YtanoklpffenljaaGreatDoor
open Go.RowKit Go.Lib
set_option linter.unusedVariables false

/-- The byte of a small number. -/
def by8 (x : Int) : UInt8 := UInt8.ofNat x.toNat
theorem by8_nat {x : Int} (h0 : 0 ≤ x) (h1 : x < 256) : ((by8 x).toNat : Int) = x := by
  unfold by8; simp [UInt8.toNat_ofNat']; omega
theorem conv_row (w : World) (l : List UInt8) (a cap : Nat) (h : ∀ j (hj : j < l.length), w.cell? ⟨a, j, none⟩ = some (.int .u8 (l[j].toNat : Int))) :
    Sem.run Tryz.prog (convert 89 9 (.slice (some ⟨a, 0, none⟩) l.length cap)) w = .ok (.string ⟨l.toArray⟩) w :=
  run_convert_bytes_back (P := Tryz.prog) w 89 9 5 ⟨a, 0, none⟩ cap l Tryz.underlying89 Tryz.underlying5 Tryz.underlying9 (fun j hj => by
    rw [Lib.add_plain]; rw [Nat.zero_add]; exact h j hj)
theorem conv1 (w : World) (x : Int) (h0 : 0 ≤ x) (h1 : x < 256) :
    Sem.run Tryz.prog (convert 89 9 (.slice (some ⟨w.heap.size, 0, none⟩) 1 1)) (w.alloc (.cells #[.int .u8 x] 5)) = .ok (.string ⟨[by8 x].toArray⟩) (w.alloc (.cells #[.int .u8 x] 5)) := by
  refine conv_row _ [by8 x] w.heap.size 1 (fun j hj => ?_)
  have : j = 0 := by simpa using hj
  subst this
  rw [World.cell?_alloc_new]
  simp [by8_nat h0 h1]

theorem ba_app (a b : List UInt8) : (⟨a.toArray⟩ : ByteArray) ++ ⟨b.toArray⟩ = ⟨(a ++ b).toArray⟩ := by
  apply ByteArray.ext
  simp
/-- What has been told of u0 when u is left. -/
def Told (u0 u : Nat) (l : List UInt8) : Prop := (u ≠ 0 → Lib.decDigits u0 = Lib.decDigits u ++ l) ∧ (u = 0 → l = Lib.decDigits u0)
theorem Told.step {u0 u : Nat} {l : List UInt8} (h : Told u0 u l) (hz : ¬ u = 0) : Told u0 (u / 10) (by8 (48 + (u : Int) % 10) :: l) := by
  have e : by8 (48 + (u : Int) % 10) = UInt8.ofNat (48 + u % 10) := by
    unfold by8; congr 1
  rw [e]
  have h1 := h.1 hz
  constructor
  · intro h10
    rw [h1, Lib.decDigits, dif_neg (by omega)]
    simp
  · intro h10
    have hlt : u < 10 := by omega
    rw [h1, Lib.decDigits_one hlt]
    rw [show u % 10 = u by omega]
    rfl

theorem Told.len {u0 u : Nat} {l : List UInt8} (h : Told u0 u l) (h0 : 1 ≤ u0) (h1 : u0 ≤ 9223372036854775808) : l.length ≤ 20 := by
  have hn : (Lib.decDigits u0).length ≤ 20 := by
    rw [Lib.decDigits_length]
    have := Lib.numDigits_eq u0 h0 (by omega)
    split at this <;> omega
  by_cases hz : u = 0
  · rw [h.2 hz]; exact hn
  · rw [h.1 hz, List.length_append] at hn; omega

set_option maxRecDepth 100000 in
set_option maxHeartbeats 1000000 in
theorem dec_pos (u0 : Nat) (h0 : 1 ≤ u0) (h1 : u0 ≤ 9223372036854775807) (w : World) :
    Calls Tryz.prog 22 #[.int .i64 (u0)] w fun e w' => e = .returned (.string ⟨(Lib.decDigits u0).toArray⟩) ∧ Below w.heap.size w w' := by
  have z0 : ((u0 : Int) == 0) = false := by simp; omega
  have z1 : ¬ (u0 : Int) < 0 := by omega
  go_enter Tryz.func22, Tryz.ntmps22
  go_wp2
  go_loopw [0, 4] (fun nv ov wr => ∃ (u : Nat) (l : List UInt8), nv = .int .i64 ((u : Int)) ∧ ov = .string ⟨l.toArray⟩ ∧ u ≤ 9223372036854775807 ∧ Hid (Told u0 u l) ∧ Hid (Below w.heap.size w wr)) (fun nv _ _ => (RowKit.intOf nv).natAbs)
  case atStart => exact ⟨u0, [], rfl, rfl, h1, ⟨fun _ => by simp, fun h => by omega⟩, Below.refl _ _⟩
  case round =>
    obtain ⟨u, l, rfl, rfl, hu, H1, H⟩ := hrel
    have hl := H1.out.len h0 (by omega)
    by_cases hz : u = 0
    · have HE : Hid (l = Lib.decDigits u0) := H1.out.2 hz
      subst hz
      go_wp2
      go_ret
      exact ⟨by rw [← HE.out]; rfl, H.out⟩
    · have hz1 : (((u : Int)) != 0) = true := by simp [hz]
      have hu0 : (0 : Int) ≤ (u : Int) := by omega
      have hu1 : (u : Int) ≤ 9223372036854775807 := by omega
      have HT : Hid (Told u0 (u / 10) (by8 (48 + (u : Int) % 10) :: l)) := H1.out.step hz
      have hcv := conv1 wr (48 + (u : Int) % 10) (by omega) (by omega)
      go_wp2
      go_roundw
      case rel => exact ⟨u / 10, _, by go_num, by rw [ba_app [by8 (48 + (u : Int) % 10)] l]; rfl, by omega, HT, bA H.out _⟩
      case measure => simp [RowKit.intOf]; omega

set_option maxRecDepth 100000 in
set_option maxHeartbeats 1000000 in
theorem dec_neg (u0 : Nat) (h0 : 1 ≤ u0) (h1 : u0 ≤ 9223372036854775808) (w : World) :
    Calls Tryz.prog 22 #[.int .i64 (-(u0 : Int))] w fun e w' => e = .returned (.string ⟨(45 :: Lib.decDigits u0).toArray⟩) ∧ Below w.heap.size w w' := by
  have z0 : ((-(u0 : Int)) == 0) = false := by simp; omega
  have z1 : -(u0 : Int) < 0 := by omega
  have z2 : decide (0 < u0) = true := by simp; omega
  have z3 : 0 < u0 := by omega
  go_enter Tryz.func22, Tryz.ntmps22
  go_wp2
  go_loopw [0, 4] (fun nv ov wr => ∃ (u : Nat) (l : List UInt8), nv = .int .i64 (-(u : Int)) ∧ ov = .string ⟨l.toArray⟩ ∧ u ≤ 9223372036854775808 ∧ Hid (Told u0 u l) ∧ Hid (Below w.heap.size w wr)) (fun nv _ _ => (RowKit.intOf nv).natAbs)
  case atStart => exact ⟨u0, [], rfl, rfl, h1, ⟨fun _ => by simp, fun h => by omega⟩, Below.refl _ _⟩
  case round =>
    obtain ⟨u, l, rfl, rfl, hu, H1, H⟩ := hrel
    have hl := H1.out.len h0 h1
    by_cases hz : u = 0
    · have HE : Hid (l = Lib.decDigits u0) := H1.out.2 hz
      subst hz
      go_wp2
      go_ret
      exact ⟨by rw [← HE.out]; exact congrArg (fun x => Ending.returned (.string x)) (ba_app [45] l), H.out⟩
    · have hz1 : ((-(u : Int)) != 0) = true := by simp [hz]
      have hu0 : (0 : Int) ≤ (u : Int) := by omega
      have hu1 : (u : Int) ≤ 9223372036854775808 := by omega
      have HT : Hid (Told u0 (u / 10) (by8 (48 + (u : Int) % 10) :: l)) := H1.out.step hz
      by_cases hm : (u : Int) % 10 = 0
      · have hcv := conv1 wr 48 (by omega) (by omega)
        rw [hm, Int.add_zero] at HT
        go_wp2
        go_roundw
        case rel => exact ⟨u / 10, _, by go_num, by rw [ba_app [by8 48] l]; rfl, by omega, HT, bA H.out _⟩
        case measure => simp [RowKit.intOf]; omega
      · have hm1 : (0 : Int) < (u : Int) % 10 := by omega
        have hcv := conv1 wr (48 + (u : Int) % 10) (by omega) (by omega)
        go_wp2
        go_roundw
        case rel => exact ⟨u / 10, _, by go_num, by rw [ba_app [by8 (48 + (u : Int) % 10)] l]; rfl, by omega, HT, bA H.out _⟩
        case measure => simp [RowKit.intOf]; omega

set_option maxHeartbeats 400000 in
theorem dec_zero (w : World) :
    Calls Tryz.prog 22 #[.int .i64 0] w fun e w' => e = .returned (.string ⟨(Lib.itoa 0).toArray⟩) ∧ Below w.heap.size w w' := by
  have e : Lib.itoa 0 = [48] := by rw [Lib.itoa, if_neg (by decide)]; exact Lib.decDigits_one (by decide)
  rw [e]; clear e
  go_enter Tryz.func22, Tryz.ntmps22
  go_wp2
  go_ret
  exact ⟨rfl, Below.refl _ _⟩
theorem dec_any (n : Int) (h : -9223372036854775808 ≤ n ∧ n ≤ 9223372036854775807) (w : World) :
    Calls Tryz.prog 22 #[.int .i64 n] w fun e w' => e = .returned (.string ⟨(Lib.itoa n).toArray⟩) ∧ Below w.heap.size w w' := by
  by_cases h0 : n = 0
  · subst h0; exact dec_zero w
  · by_cases hn : n < 0
    · obtain ⟨u, hu⟩ := Int.eq_ofNat_of_zero_le (show 0 ≤ -n by omega)
      obtain rfl : n = -(u : Int) := by omega
      have := dec_neg u (by omega) (by omega) w
      rw [show Lib.itoa (-(u : Int)) = 45 :: Lib.decDigits u by rw [Lib.itoa, if_pos hn]; congr 2; omega]
      exact this
    · obtain ⟨u, rfl⟩ := Int.eq_ofNat_of_zero_le (show 0 ≤ n by omega)
      have := dec_pos u (by omega) (by omega) w
      rw [show Lib.itoa (u : Int) = Lib.decDigits u by rw [Lib.itoa, if_neg hn]; congr 1]
      exact this

end Go.Proofs.YtanoklpffenljaaGreatDoor
