/-
  A NUMBER IN DIGITS, AS THE MODEL TELLS IT.
-/
import Derived.Test.YtdndhhkpbcpalaaDoorBa
namespace Go.Proofs.YtdndhhkpbcpalaaDoor
open Go.RowKit Go.Lib
set_option linter.unusedVariables false

/-- The byte of a small number. -/
def by8 (x : Int) : UInt8 := UInt8.ofNat x.toNat
theorem by8_nat {x : Int} (h0 : 0 ≤ x) (h1 : x < 256) : ((by8 x).toNat : Int) = x := by
  unfold by8; simp [UInt8.toNat_ofNat']; omega
theorem conv_row (w : World) (l : List UInt8) (a cap : Nat) (h : ∀ j (hj : j < l.length), w.cell? ⟨a, j, none⟩ = some (.int .u8 (l[j].toNat : Int))) :
    Sem.run Tryd.prog (convert 68 9 (.slice (some ⟨a, 0, none⟩) l.length cap)) w = .ok (.string ⟨l.toArray⟩) w :=
  run_convert_bytes_back (P := Tryd.prog) w 68 9 5 ⟨a, 0, none⟩ cap l Tryd.underlying68 Tryd.underlying5 Tryd.underlying9 (fun j hj => by
    rw [Lib.add_plain]; rw [Nat.zero_add]; exact h j hj)
theorem conv1 (w : World) (x : Int) (h0 : 0 ≤ x) (h1 : x < 256) :
    Sem.run Tryd.prog (convert 68 9 (.slice (some ⟨w.heap.size, 0, none⟩) 1 1)) (w.alloc (.cells #[.int .u8 x] 5)) = .ok (.string ⟨[by8 x].toArray⟩) (w.alloc (.cells #[.int .u8 x] 5)) := by
  refine conv_row _ [by8 x] w.heap.size 1 (fun j hj => ?_)
  have : j = 0 := by simpa using hj
  subst this
  rw [World.cell?_alloc_new]
  simp [by8_nat h0 h1]

theorem ba_app (a b : List UInt8) : (⟨a.toArray⟩ : ByteArray) ++ ⟨b.toArray⟩ = ⟨(a ++ b).toArray⟩ := by
  apply ByteArray.ext
  simp
/-- What has been told of u0 when u is left. -/
def Told (u0 u : Nat) (l : List UInt8) : Prop := (u ≠ 0 → Lib.decDigits u0 = Lib.decDigits u ++ l) ∧ (u = 0 → l = Lib.decDigits u0)
theorem Told.step {u0 u : Nat} {l : List UInt8} (h : Told u0 u l) (hz : ¬ u = 0) : Told u0 (u / 10) (by8 (48 + (u : Int) % 10) :: l) := by
  have e : by8 (48 + (u : Int) % 10) = UInt8.ofNat (48 + u % 10) := by
    unfold by8; congr 1
  rw [e]
  have h1 := h.1 hz
  constructor
  · intro h10
    rw [h1, Lib.decDigits, dif_neg (by omega)]
    simp
  · intro h10
    have hlt : u < 10 := by omega
    rw [h1, Lib.decDigits_one hlt]
    rw [show u % 10 = u by omega]
    rfl

theorem Told.len {u0 u : Nat} {l : List UInt8} (h : Told u0 u l) (h0 : 1 ≤ u0) (h1 : u0 ≤ 1000000000000000) : l.length ≤ 20 := by
  have hn : (Lib.decDigits u0).length ≤ 20 := by
    rw [Lib.decDigits_length]
    have := Lib.numDigits_eq u0 h0 (by omega)
    split at this <;> omega
  by_cases hz : u = 0
  · rw [h.2 hz]; exact hn
  · rw [h.1 hz, List.length_append] at hn; omega

set_option maxRecDepth 100000 in
set_option maxHeartbeats 1000000 in
theorem dec_pos (u0 : Nat) (h0 : 1 ≤ u0) (h1 : u0 ≤ 1000000000000000) (w : World) :
    Calls Tryd.prog 31 #[.int .i64 (u0)] w fun e w' => e = .returned (.string ⟨(Lib.decDigits u0).toArray⟩) ∧ Below w.heap.size w w' := by
  have z0 : ((u0 : Int) == 0) = false := by simp; omega
  have z1 : ¬ (u0 : Int) < 0 := by omega
  go_enter Tryd.func31, Tryd.ntmps31
  go_wp2
  go_loopw [0, 4] (fun nv ov wr => ∃ (u : Nat) (l : List UInt8), nv = .int .i64 ((u : Int)) ∧ ov = .string ⟨l.toArray⟩ ∧ u ≤ 1000000000000000 ∧ Hid (Told u0 u l) ∧ Hid (Below w.heap.size w wr)) (fun nv _ _ => (RowKit.intOf nv).natAbs)
  case atStart => exact ⟨u0, [], rfl, rfl, h1, ⟨fun _ => by simp, fun h => by omega⟩, Below.refl _ _⟩
  case round =>
    obtain ⟨u, l, rfl, rfl, hu, H1, H⟩ := hrel
    have hl := H1.out.len h0 h1
    by_cases hz : u = 0
    · have HE : Hid (l = Lib.decDigits u0) := H1.out.2 hz
      subst hz
      go_wp2
      go_ret
      exact ⟨by rw [← HE.out]; rfl, H.out⟩
    · have hz1 : (((u : Int)) != 0) = true := by simp [hz]
      have hu0 : (0 : Int) ≤ (u : Int) := by omega
      have hu1 : (u : Int) ≤ 1000000000000000 := by omega
      have HT : Hid (Told u0 (u / 10) (by8 (48 + (u : Int) % 10) :: l)) := H1.out.step hz
      have hcv := conv1 wr (48 + (u : Int) % 10) (by omega) (by omega)
      go_wp2
      go_roundw
      case rel => exact ⟨u / 10, _, by go_num, by rw [ba_app [by8 (48 + (u : Int) % 10)] l]; rfl, by omega, HT, bA H.out _⟩
      case measure => simp [RowKit.intOf]; omega

set_option maxRecDepth 100000 in
set_option maxHeartbeats 1000000 in
theorem dec_neg (u0 : Nat) (h0 : 1 ≤ u0) (h1 : u0 ≤ 1000000000000000) (w : World) :
    Calls Tryd.prog 31 #[.int .i64 (-(u0 : Int))] w fun e w' => e = .returned (.string ⟨(45 :: Lib.decDigits u0).toArray⟩) ∧ Below w.heap.size w w' := by
  have z0 : ((-(u0 : Int)) == 0) = false := by simp; omega
  have z1 : -(u0 : Int) < 0 := by omega
  have z2 : decide (0 < u0) = true := by simp; omega
  have z3 : 0 < u0 := by omega
  go_enter Tryd.func31, Tryd.ntmps31
  go_wp2
  go_loopw [0, 4] (fun nv ov wr => ∃ (u : Nat) (l : List UInt8), nv = .int .i64 (-(u : Int)) ∧ ov = .string ⟨l.toArray⟩ ∧ u ≤ 1000000000000000 ∧ Hid (Told u0 u l) ∧ Hid (Below w.heap.size w wr)) (fun nv _ _ => (RowKit.intOf nv).natAbs)
  case atStart => exact ⟨u0, [], rfl, rfl, h1, ⟨fun _ => by simp, fun h => by omega⟩, Below.refl _ _⟩
  case round =>
    obtain ⟨u, l, rfl, rfl, hu, H1, H⟩ := hrel
    have hl := H1.out.len h0 h1
    by_cases hz : u = 0
    · have HE : Hid (l = Lib.decDigits u0) := H1.out.2 hz
      subst hz
      go_wp2
      go_ret
      exact ⟨by rw [← HE.out]; exact congrArg (fun x => Ending.returned (.string x)) (ba_app [45] l), H.out⟩
    · have hz1 : ((-(u : Int)) != 0) = true := by simp [hz]
      have hu0 : (0 : Int) ≤ (u : Int) := by omega
      have hu1 : (u : Int) ≤ 1000000000000000 := by omega
      have HT : Hid (Told u0 (u / 10) (by8 (48 + (u : Int) % 10) :: l)) := H1.out.step hz
      by_cases hm : (u : Int) % 10 = 0
      · have hcv := conv1 wr 48 (by omega) (by omega)
        rw [hm, Int.add_zero] at HT
        go_wp2
        go_roundw
        case rel => exact ⟨u / 10, _, by go_num, by rw [ba_app [by8 48] l]; rfl, by omega, HT, bA H.out _⟩
        case measure => simp [RowKit.intOf]; omega
      · have hm1 : (0 : Int) < (u : Int) % 10 := by omega
        have hcv := conv1 wr (48 + (u : Int) % 10) (by omega) (by omega)
        go_wp2
        go_roundw
        case rel => exact ⟨u / 10, _, by go_num, by rw [ba_app [by8 (48 + (u : Int) % 10)] l]; rfl, by omega, HT, bA H.out _⟩
        case measure => simp [RowKit.intOf]; omega

set_option maxHeartbeats 400000 in
theorem dec_zero (w : World) :
    Calls Tryd.prog 31 #[.int .i64 0] w fun e w' => e = .returned (.string ⟨(Lib.itoa 0).toArray⟩) ∧ Below w.heap.size w w' := by
  have e : Lib.itoa 0 = [48] := by rw [Lib.itoa, if_neg (by decide)]; exact Lib.decDigits_one (by decide)
  rw [e]; clear e
  go_enter Tryd.func31, Tryd.ntmps31
  go_wp2
  go_ret
  exact ⟨rfl, Below.refl _ _⟩
theorem dec_any (n : Int) (h : -1000000000000000 ≤ n ∧ n ≤ 1000000000000000) (w : World) :
    Calls Tryd.prog 31 #[.int .i64 n] w fun e w' => e = .returned (.string ⟨(Lib.itoa n).toArray⟩) ∧ Below w.heap.size w w' := by
  by_cases h0 : n = 0
  · subst h0; exact dec_zero w
  · by_cases hn : n < 0
    · obtain ⟨u, hu⟩ := Int.eq_ofNat_of_zero_le (show 0 ≤ -n by omega)
      obtain rfl : n = -(u : Int) := by omega
      have := dec_neg u (by omega) (by omega) w
      rw [show Lib.itoa (-(u : Int)) = 45 :: Lib.decDigits u by rw [Lib.itoa, if_pos hn]; congr 2; omega]
      exact this
    · obtain ⟨u, rfl⟩ := Int.eq_ofNat_of_zero_le (show 0 ≤ n by omega)
      have := dec_pos u (by omega) (by omega) w
      rw [show Lib.itoa (u : Int) = Lib.decDigits u by rw [Lib.itoa, if_neg hn]; congr 1]
      exact this

end Go.Proofs.YtdndhhkpbcpalaaDoor
