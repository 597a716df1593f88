/-
  A STATION'S TEXT AS THE MODEL TELLS IT, AND THAT IT TELLS THE STATION.
  ARE TWO TABLES ALIKE? The program's way.
  ARE TWO RIGHT TABLES ALIKE? The model's way: station by station by their texts.
-/
import Derived.Test.YtdbebcigikbjgaaGreatEz
import Derived.Lib.AppendStr
import Derived.Lib.Builder
import Derived.Laws.Externs
import Derived.Lib.AppendIntMem
import Derived.Lib.LaidTab
import Derived.Test.YtdbebcigikbjgaaGreatCe
namespace Go.Proofs.YtdbebcigikbjgaaGreat
open Go.RowKit Go.Lib
set_option linter.unusedVariables false


/-- The byte of a small number. -/
def by8 (x : Int) : UInt8 := UInt8.ofNat x.toNat
theorem by8_nat {x : Int} (h0 : 0 ≤ x) (h1 : x < 256) : ((by8 x).toNat : Int) = x := by
  unfold by8; simp [UInt8.toNat_ofNat']; omega
theorem conv_row (w : World) (l : List UInt8) (a cap : Nat) (h : ∀ j (hj : j < l.length), w.cell? ⟨a, j, none⟩ = some (.int .u8 (l[j].toNat : Int))) :
    Sem.run Tryz.prog (convert 118 9 (.slice (some ⟨a, 0, none⟩) l.length cap)) w = .ok (.string ⟨l.toArray⟩) w :=
  run_convert_bytes_back (P := Tryz.prog) w 118 9 5 ⟨a, 0, none⟩ cap l Tryz.underlying118 Tryz.underlying5 Tryz.underlying9 (fun j hj => by
    rw [Lib.add_plain]; rw [Nat.zero_add]; exact h j hj)
theorem conv1 (w : World) (x : Int) (h0 : 0 ≤ x) (h1 : x < 256) :
    Sem.run Tryz.prog (convert 118 9 (.slice (some ⟨w.heap.size, 0, none⟩) 1 1)) (w.alloc (.cells #[.int .u8 x] 5)) = .ok (.string ⟨[by8 x].toArray⟩) (w.alloc (.cells #[.int .u8 x] 5)) := by
  refine conv_row _ [by8 x] w.heap.size 1 (fun j hj => ?_)
  have : j = 0 := by simpa using hj
  subst this
  rw [World.cell?_alloc_new]
  simp [by8_nat h0 h1]

theorem ba_app (a b : List UInt8) : (⟨a.toArray⟩ : ByteArray) ++ ⟨b.toArray⟩ = ⟨(a ++ b).toArray⟩ := by
  apply ByteArray.ext
  simp
/-- What has been told of u0 when u is left. -/
def Told (u0 u : Nat) (l : List UInt8) : Prop := (u ≠ 0 → Lib.decDigits u0 = Lib.decDigits u ++ l) ∧ (u = 0 → l = Lib.decDigits u0)
theorem Told.step {u0 u : Nat} {l : List UInt8} (h : Told u0 u l) (hz : ¬ u = 0) : Told u0 (u / 10) (by8 (48 + (u : Int) % 10) :: l) := by
  have e : by8 (48 + (u : Int) % 10) = UInt8.ofNat (48 + u % 10) := by
    unfold by8; congr 1
  rw [e]
  have h1 := h.1 hz
  constructor
  · intro h10
    rw [h1, Lib.decDigits, dif_neg (by omega)]
    simp
  · intro h10
    have hlt : u < 10 := by omega
    rw [h1, Lib.decDigits_one hlt]
    rw [show u % 10 = u by omega]
    rfl

theorem Told.len {u0 u : Nat} {l : List UInt8} (h : Told u0 u l) (h0 : 1 ≤ u0) (h1 : u0 ≤ 1000000000000000) : l.length ≤ 20 := by
  have hn : (Lib.decDigits u0).length ≤ 20 := by
    rw [Lib.decDigits_length]
    have := Lib.numDigits_eq u0 h0 (by omega)
    split at this <;> omega
  by_cases hz : u = 0
  · rw [h.2 hz]; exact hn
  · rw [h.1 hz, List.length_append] at hn; omega

set_option maxRecDepth 100000 in
set_option maxHeartbeats 1000000 in
theorem dec_pos (u0 : Nat) (h0 : 1 ≤ u0) (h1 : u0 ≤ 1000000000000000) (w : World) :
    Calls Tryz.prog 64 #[.int .i64 (u0)] w fun e w' => e = .returned (.string ⟨(Lib.decDigits u0).toArray⟩) ∧ Below w.heap.size w w' := by
  have z0 : ((u0 : Int) == 0) = false := by simp; omega
  have z1 : ¬ (u0 : Int) < 0 := by omega
  go_enter Tryz.func64, Tryz.ntmps64
  go_wp2
  go_loopw [0, 4] (fun nv ov wr => ∃ (u : Nat) (l : List UInt8), nv = .int .i64 ((u : Int)) ∧ ov = .string ⟨l.toArray⟩ ∧ u ≤ 1000000000000000 ∧ Hid (Told u0 u l) ∧ Hid (Below w.heap.size w wr)) (fun nv _ _ => (RowKit.intOf nv).natAbs)
  case atStart => exact ⟨u0, [], rfl, rfl, h1, ⟨fun _ => by simp, fun h => by omega⟩, Below.refl _ _⟩
  case round =>
    obtain ⟨u, l, rfl, rfl, hu, H1, H⟩ := hrel
    have hl := H1.out.len h0 h1
    by_cases hz : u = 0
    · have HE : Hid (l = Lib.decDigits u0) := H1.out.2 hz
      subst hz
      go_wp2
      go_ret
      exact ⟨by rw [← HE.out]; rfl, H.out⟩
    · have hz1 : (((u : Int)) != 0) = true := by simp [hz]
      have hu0 : (0 : Int) ≤ (u : Int) := by omega
      have hu1 : (u : Int) ≤ 1000000000000000 := by omega
      have HT : Hid (Told u0 (u / 10) (by8 (48 + (u : Int) % 10) :: l)) := H1.out.step hz
      have hcv := conv1 wr (48 + (u : Int) % 10) (by omega) (by omega)
      go_wp2
      go_roundw
      case rel => exact ⟨u / 10, _, by go_num, by rw [ba_app [by8 (48 + (u : Int) % 10)] l]; rfl, by omega, HT, bA H.out _⟩
      case measure => simp [RowKit.intOf]; omega

set_option maxRecDepth 100000 in
set_option maxHeartbeats 1000000 in
theorem dec_neg (u0 : Nat) (h0 : 1 ≤ u0) (h1 : u0 ≤ 1000000000000000) (w : World) :
    Calls Tryz.prog 64 #[.int .i64 (-(u0 : Int))] w fun e w' => e = .returned (.string ⟨(45 :: Lib.decDigits u0).toArray⟩) ∧ Below w.heap.size w w' := by
  have z0 : ((-(u0 : Int)) == 0) = false := by simp; omega
  have z1 : -(u0 : Int) < 0 := by omega
  have z2 : decide (0 < u0) = true := by simp; omega
  have z3 : 0 < u0 := by omega
  go_enter Tryz.func64, Tryz.ntmps64
  go_wp2
  go_loopw [0, 4] (fun nv ov wr => ∃ (u : Nat) (l : List UInt8), nv = .int .i64 (-(u : Int)) ∧ ov = .string ⟨l.toArray⟩ ∧ u ≤ 1000000000000000 ∧ Hid (Told u0 u l) ∧ Hid (Below w.heap.size w wr)) (fun nv _ _ => (RowKit.intOf nv).natAbs)
  case atStart => exact ⟨u0, [], rfl, rfl, h1, ⟨fun _ => by simp, fun h => by omega⟩, Below.refl _ _⟩
  case round =>
    obtain ⟨u, l, rfl, rfl, hu, H1, H⟩ := hrel
    have hl := H1.out.len h0 h1
    by_cases hz : u = 0
    · have HE : Hid (l = Lib.decDigits u0) := H1.out.2 hz
      subst hz
      go_wp2
      go_ret
      exact ⟨by rw [← HE.out]; exact congrArg (fun x => Ending.returned (.string x)) (ba_app [45] l), H.out⟩
    · have hz1 : ((-(u : Int)) != 0) = true := by simp [hz]
      have hu0 : (0 : Int) ≤ (u : Int) := by omega
      have hu1 : (u : Int) ≤ 1000000000000000 := by omega
      have HT : Hid (Told u0 (u / 10) (by8 (48 + (u : Int) % 10) :: l)) := H1.out.step hz
      by_cases hm : (u : Int) % 10 = 0
      · have hcv := conv1 wr 48 (by omega) (by omega)
        rw [hm, Int.add_zero] at HT
        go_wp2
        go_roundw
        case rel => exact ⟨u / 10, _, by go_num, by rw [ba_app [by8 48] l]; rfl, by omega, HT, bA H.out _⟩
        case measure => simp [RowKit.intOf]; omega
      · have hm1 : (0 : Int) < (u : Int) % 10 := by omega
        have hcv := conv1 wr (48 + (u : Int) % 10) (by omega) (by omega)
        go_wp2
        go_roundw
        case rel => exact ⟨u / 10, _, by go_num, by rw [ba_app [by8 (48 + (u : Int) % 10)] l]; rfl, by omega, HT, bA H.out _⟩
        case measure => simp [RowKit.intOf]; omega

set_option maxHeartbeats 400000 in
theorem dec_zero (w : World) :
    Calls Tryz.prog 64 #[.int .i64 0] w fun e w' => e = .returned (.string ⟨(Lib.itoa 0).toArray⟩) ∧ Below w.heap.size w w' := by
  have e : Lib.itoa 0 = [48] := by rw [Lib.itoa, if_neg (by decide)]; exact Lib.decDigits_one (by decide)
  rw [e]; clear e
  go_enter Tryz.func64, Tryz.ntmps64
  go_wp2
  go_ret
  exact ⟨rfl, Below.refl _ _⟩
theorem dec_any (n : Int) (h : -1000000000000000 ≤ n ∧ n ≤ 1000000000000000) (w : World) :
    Calls Tryz.prog 64 #[.int .i64 n] w fun e w' => e = .returned (.string ⟨(Lib.itoa n).toArray⟩) ∧ Below w.heap.size w w' := by
  by_cases h0 : n = 0
  · subst h0; exact dec_zero w
  · by_cases hn : n < 0
    · obtain ⟨u, hu⟩ := Int.eq_ofNat_of_zero_le (show 0 ≤ -n by omega)
      obtain rfl : n = -(u : Int) := by omega
      have := dec_neg u (by omega) (by omega) w
      rw [show Lib.itoa (-(u : Int)) = 45 :: Lib.decDigits u by rw [Lib.itoa, if_pos hn]; congr 2; omega]
      exact this
    · obtain ⟨u, rfl⟩ := Int.eq_ofNat_of_zero_le (show 0 ≤ n by omega)
      have := dec_pos u (by omega) (by omega) w
      rw [show Lib.itoa (u : Int) = Lib.decDigits u by rw [Lib.itoa, if_neg hn]; congr 1]
      exact this


def numB (n : Int) : List UInt8 := [32] ++ Lib.itoa n
def wordB (wd : List UInt8) (zs : List Int) : List UInt8 := wd ++ zs.flatMap numB ++ [10]
/-- Numbers of at most fifteen digits. -/
def MidL (zs : List Int) : Prop := ∀ z ∈ zs, -1000000000000000 ≤ z ∧ z ≤ 1000000000000000
theorem dec_mid (u : Nat) (h : u ≤ 1000000000000000) : (Lib.decDigits u).length ≤ 20 := by
  by_cases h0 : u = 0
  · subst h0; rw [Lib.decDigits_one (by decide)]; decide
  · rw [Lib.decDigits_length]
    have := Lib.numDigits_eq u (by omega) (by omega)
    split at this <;> omega
theorem itoa_mid (n : Int) (h : -1000000000000000 ≤ n ∧ n ≤ 1000000000000000) : (Lib.itoa n).length ≤ 21 := by
  unfold Lib.itoa
  split
  · simp only [List.length_cons]
    have := dec_mid n.natAbs (by omega)
    omega
  · have := dec_mid n.toNat (by omega)
    omega
theorem nums_step (zs : List Int) (k : Nat) (h : k < zs.length) : (zs.take (k + 1)).flatMap numB = (zs.take k).flatMap numB ++ ([32] ++ Lib.itoa (zs.getD k 0)) := by
  rw [List.take_succ_eq_append_getElem h, List.flatMap_append]
  simp [numB, h]


def statB (i s : Int) (zs : List Int) : List UInt8 := [115, 116, 97, 116, 105, 111, 110] ++ ([i, s] ++ zs).flatMap numB

theorem stat_head (i s : Int) : [115, 116, 97, 116, 105, 111, 110, 32] ++ Lib.itoa i ++ [32] ++ Lib.itoa s = statB i s [] := by
  simp [statB, numB]
theorem stat_step (i s : Int) (zs : List Int) (k : Nat) (h : k < zs.length) : statB i s (zs.take (k + 1)) = statB i s (zs.take k) ++ ([32] ++ Lib.itoa (zs.getD k 0)) := by
  unfold statB
  rw [List.flatMap_append, List.flatMap_append, nums_step zs k h]
  simp
/-- A station in a block of its own. -/
def SAtG (w : World) (b : Nat) (x y : Int) (sl : Option Addr) (n cap : Nat) : Prop := w.heap[b]? = some (.cells #[.int .i64 x, .int .i64 y, .slice sl n cap] 69)
theorem SAtG.new (w : World) (x y : Int) (sl : Option Addr) (n cap : Nat) : SAtG (w.alloc (.cells #[.int .i64 x, .int .i64 y, .slice sl n cap] 69)) w.heap.size x y sl n cap := by
  show (w.heap.push _)[w.heap.size]? = _
  simp
theorem SAtG.lt {w : World} {b : Nat} {x y : Int} {sl : Option Addr} {n cap : Nat} (h : SAtG w b x y sl n cap) : b < w.heap.size := (Array.getElem?_eq_some_iff.1 h).1
theorem SAtG.below {w w' : World} {b : Nat} {x y : Int} {sl : Option Addr} {n cap : Nat} (h : SAtG w b x y sl n cap) (hb : Below w.heap.size w w') : SAtG w' b x y sl n cap := (hb.block b h.lt).trans h
theorem SAtG.cells {w : World} {b : Nat} {x y : Int} {sl : Option Addr} {n cap : Nat} (h : SAtG w b x y sl n cap) : b < w.heap.size ∧ w.cell? ⟨b, 0, none⟩ = some (.int .i64 x) ∧ w.cell? ⟨b, 1, none⟩ = some (.int .i64 y) ∧ w.cell? ⟨b, 2, none⟩ = some (.slice sl n cap) := by
  have hl := h.lt
  unfold SAtG at h
  refine ⟨hl, ?_, ?_, ?_⟩ <;> simp [World.cell?, h]
set_option maxRecDepth 100000 in
set_option maxHeartbeats 2000000 in
/-- spec.l04StationText. -/
theorem stt_any (a b : Int) (sl : Option Addr) (cap : Nat) (zs : List Int) (w : World) (ha : -1000000000000000 ≤ a ∧ a ≤ 1000000000000000) (hb : -1000000000000000 ≤ b ∧ b ≤ 1000000000000000) (hl : zs.length ≤ 1000) (hs : MidL zs) (hz : Ints w sl zs) :
    Calls Tryz.prog 37 #[SV a b sl zs.length cap] w fun e w' => e = .returned (.string ⟨(statB a b zs).toArray⟩) ∧ Below w.heap.size w w' := by
  have E1 := Lib.hid (fun W => dec_any a ha W)
  have E2 := Lib.hid (fun W => dec_any b hb W)
  have hd1 := itoa_mid a ha
  have hd2 := itoa_mid b hb
  have HE := Lib.hid (stat_head a b)
  have HZ := Lib.hid hz
  have HS := Lib.hid hs
  have B0 := Lib.hid (bA0 w (.cells #[.int .i64 a, .int .i64 b, .slice sl zs.length cap] 69))
  have C0 := Lib.hid (SAtG.new w a b sl zs.length cap)
  generalize hN : zs.length = n at *
  have HN := Lib.hid hN
  clear hN hz hs
  have KB : Hid (∀ W, Below (w.alloc (.cells #[.int .i64 a, .int .i64 b, .slice sl n cap] 69)).heap.size (w.alloc (.cells #[.int .i64 a, .int .i64 b, .slice sl n cap] 69)) W → w.heap.size < W.heap.size ∧ W.cell? ⟨w.heap.size, 0, none⟩ = some (.int .i64 a) ∧ W.cell? ⟨w.heap.size, 1, none⟩ = some (.int .i64 b) ∧ W.cell? ⟨w.heap.size, 2, none⟩ = some (.slice sl n cap)) := fun W hW => (C0.out.below hW).cells
  generalize Lib.itoa a = d1 at *
  generalize Lib.itoa b = d2 at *
  have s1 : ¬ 9223372036854775807 < 8 + d1.length := by omega
  have s2 : ¬ 9223372036854775807 < 8 + d1.length + 1 := by omega
  have s3 : ¬ 9223372036854775807 < 8 + d1.length + 1 + d2.length := by omega
  clear ha hb
  go_enter Tryz.func37, Tryz.ntmps37
  go_wp2_with fail
  generalize w.alloc (.cells #[.int .i64 a, .int .i64 b, .slice sl n cap] 69) = w0 at *
  refine wp_region_held_drew (S := fun W => w.heap.size < W.heap.size ∧ W.cell? ⟨w.heap.size, 0, none⟩ = some (.int .i64 a) ∧ W.cell? ⟨w.heap.size, 1, none⟩ = some (.int .i64 b) ∧ W.cell? ⟨w.heap.size, 2, none⟩ = some (.slice sl n cap)) (by kernel_rfl) ?_ (fun hHeld => ?_)
  · exact KB.out _ (Below.refl _ _).drew
  refine wpAnyH_take (i := 0) (oi := _) (v := ?_) rfl (by kernel_rfl) (by kernel_rfl) (by kernel_rfl) (fun _ _ _ h => h) (Or.inl ⟨by rfl, ?_⟩) (by assumption) ?_
  rotate_left
  · first | (intro w hSw; (try dsimp only at hSw); go_simp; done) | (intro w hSw; (try dsimp only at hSw); go_simp; with_reducible rfl)
  try simp only [Act.put, List.setIfInBounds_toArray, List.set_cons_zero, List.set_cons_succ, List.getElem_toArray, List.getElem_cons_zero]
  refine wpAnyH_take (i := 1) (oi := _) (v := ?_) rfl (by kernel_rfl) (by kernel_rfl) (by kernel_rfl) (fun _ _ _ h => h) (Or.inl ⟨by rfl, ?_⟩) (by assumption) ?_
  rotate_left
  · first | (intro w hSw; (try dsimp only at hSw); go_simp; done) | (intro w hSw; (try dsimp only at hSw); go_simp; with_reducible rfl)
  try simp only [Act.put, List.setIfInBounds_toArray, List.set_cons_zero, List.set_cons_succ, List.getElem_toArray, List.getElem_cons_succ, List.getElem_cons_zero]
  refine wpAnyH_take (i := 5) (oi := _) (v := ?_) rfl (by kernel_rfl) (by kernel_rfl) (by kernel_rfl) (fun _ _ _ h => h) (Or.inl ⟨by rfl, ?_⟩) (by assumption) ?_
  rotate_left
  · first | (intro w hSw; (try dsimp only at hSw); go_simp; done) | (intro w hSw; (try dsimp only at hSw); go_simp; with_reducible rfl)
  try simp only [Act.put, List.setIfInBounds_toArray, List.set_cons_zero, List.set_cons_succ, List.getElem_toArray, List.getElem_cons_succ, List.getElem_cons_zero]
  refine wpAnyH_take (i := 6) (oi := _) (v := ?_) rfl (by kernel_rfl) (by kernel_rfl) (by kernel_rfl) (fun _ _ _ h => h) (Or.inl ⟨by rfl, ?_⟩) (by assumption) ?_
  rotate_left
  · first | (intro w hSw; (try dsimp only at hSw); go_simp; done) | (intro w hSw; (try dsimp only at hSw); go_simp; with_reducible rfl)
  try simp only [Act.put, List.setIfInBounds_toArray, List.set_cons_zero, List.set_cons_succ, List.getElem_toArray, List.getElem_cons_succ, List.getElem_cons_zero]
  refine wpAnyH_ready (rs := [2]) (by kernel_rfl) (by simp) ?_
  refine AllReadyH.cons rfl (fun K hK => ?_) AllReadyH.nil
  go_simp
  go_wp2_with (go_at_call 64; refine (E1.out _).mono ?_; rintro e w2 ⟨rfl, b1⟩)
  have F2 : Hid (Below w0.heap.size w0 w2) := bT (Below.refl w0.heap.size w0).drew b1
  clear b1
  refine hK.out _ _ ?_ (fun hHeld => ?_)
  · exact KB.out _ F2.out
  clear hK K
  refine wpAnyH_take (i := 3) (oi := _) (v := ?_) rfl (by kernel_rfl) (by kernel_rfl) (by kernel_rfl) (fun _ _ _ h => h) (Or.inl ⟨by rfl, ?_⟩) (by assumption) ?_
  rotate_left
  · first | (intro w hSw; (try dsimp only at hSw); go_simp; done) | (intro w hSw; (try dsimp only at hSw); go_simp; with_reducible rfl)
  try simp only [Act.put, List.setIfInBounds_toArray, List.set_cons_zero, List.set_cons_succ, List.getElem_toArray, List.getElem_cons_succ, List.getElem_cons_zero]
  refine wpAnyH_take (i := 4) (oi := _) (v := ?_) rfl (by kernel_rfl) (by kernel_rfl) (by kernel_rfl) (fun _ _ _ h => h) (Or.inl ⟨by rfl, ?_⟩) (by assumption) ?_
  rotate_left
  · first | (intro w hSw; (try dsimp only at hSw); go_simp; done) | (intro w hSw; (try dsimp only at hSw); go_simp; with_reducible rfl)
  try simp only [Act.put, List.setIfInBounds_toArray, List.set_cons_zero, List.set_cons_succ, List.getElem_toArray, List.getElem_cons_succ, List.getElem_cons_zero]
  refine wpAnyH_ready (rs := [7]) (by kernel_rfl) (by simp) ?_
  refine AllReadyH.cons rfl (fun K hK => ?_) AllReadyH.nil
  go_simp
  go_wp2_with (go_at_call 64; refine (E2.out _).mono ?_; rintro e w3 ⟨rfl, b1⟩)
  have F3 : Hid (Below w0.heap.size w0 w3) := bT F2.out b1
  clear b1
  refine hK.out _ _ ?_ (fun hHeld => ?_)
  · exact KB.out _ F3.out
  clear hK K
  refine wpAnyH_take (i := 8) (oi := _) (v := ?_) rfl (by kernel_rfl) (by kernel_rfl) (by kernel_rfl) (fun _ _ _ h => h) (Or.inl ⟨by rfl, ?_⟩) (by assumption) ?_
  rotate_left
  · first | (intro w hSw; (try dsimp only at hSw); go_simp; done) | (intro w hSw; (try dsimp only at hSw); go_simp; with_reducible rfl)
  try simp only [Act.put, List.setIfInBounds_toArray, List.set_cons_zero, List.set_cons_succ, List.getElem_toArray, List.getElem_cons_succ, List.getElem_cons_zero]
  refine wpAnyH_take (i := 9) (oi := _) (v := ?_) rfl (by kernel_rfl) (by kernel_rfl) (by kernel_rfl) (fun _ _ _ h => h) (Or.inl ⟨by rfl, ?_⟩) (by assumption) ?_
  rotate_left
  · first | (intro w hSw; (try dsimp only at hSw); go_simp; done) | (intro w hSw; (try dsimp only at hSw); go_simp; with_reducible rfl)
  try simp only [Act.put, List.setIfInBounds_toArray, List.set_cons_zero, List.set_cons_succ, List.getElem_toArray, List.getElem_cons_succ, List.getElem_cons_zero]
  refine wpAnyH_done (by kernel_rfl) ?_ _
  have e1 : ((⟨#[115, 116, 97, 116, 105, 111, 110, 32]⟩ : ByteArray) ++ ⟨d1.toArray⟩ ++ ⟨#[32]⟩ ++ ⟨d2.toArray⟩) = ⟨(statB a b []).toArray⟩ := by
    have h1 := ba_app [115, 116, 97, 116, 105, 111, 110, 32] d1
    have h2 := ba_app ([115, 116, 97, 116, 105, 111, 110, 32] ++ d1) [32]
    have h3 := ba_app ([115, 116, 97, 116, 105, 111, 110, 32] ++ d1 ++ [32]) d2
    rw [← HE.out, ← h3, ← h2, ← h1]
  have e2 : (statB a b []).length ≤ 100 := by
    have := congrArg List.length HE.out
    simp at this
    omega
  rw [e1]
  clear e1 s1 s2 s3 E1 E2 F2 KB
  go_wp2_with fail
  go_loopw [3, 4] (fun t i wr => ∃ (k : Nat) (l : List UInt8), i = .int .i64 k ∧ t = .string ⟨l.toArray⟩ ∧ k ≤ n ∧ l.length ≤ 100 + 22 * k ∧ Hid (l = statB a b (zs.take k)) ∧ Hid (Below w0.heap.size w0 wr)) (fun _ i _ => n - (intOf i).toNat)
  case atStart => exact ⟨0, statB a b [], rfl, rfl, Nat.zero_le _, by omega, (by show statB a b [] = statB a b (zs.take 0); simp), F3⟩
  case round =>
    obtain ⟨k, l, rfl, rfl, hk, hll, HL, HB⟩ := hrel
    have hk0 : (0 : Int) ≤ (k : Int) := by omega
    obtain ⟨kl, k0, k1, k2⟩ := (C0.out.below HB.out).cells
    by_cases g1 : k < n
    · have g1' : (k : Int) < (n : Int) := by omega
      have hlt : k < zs.length := by rw [HN.out]; exact g1
      obtain ⟨c, o, rfl, ZI⟩ : ∃ c o, sl = some ⟨c, o, none⟩ ∧ IntsAt w c o zs := by
        rcases HZ.out with e | h
        · rw [e] at hlt; simp at hlt
        · exact h
      have hc := ((bT B0.out HB.out).cell (p := ⟨c, o + k, none⟩) ZI.1).trans (ZI.2 k hlt)
      have hz := HS.out (zs.getD k 0) (by rw [List.getD_eq_getElem?_getD, List.getElem?_eq_getElem hlt]; exact List.getElem_mem hlt)
      have E := Lib.hid (dec_any (zs.getD k 0) hz wr)
      have ST := Lib.hid (stat_step a b zs k hlt)
      have hd := itoa_mid _ hz
      clear hlt ZI
      generalize Lib.itoa (zs.getD k 0) = d at *
      generalize zs.getD k 0 = z at *
      go_wp2_with fail
      refine E.out.mono ?_
      rintro e w1 ⟨rfl, b1⟩
      have B1 := Lib.hid (bT HB.out b1)
      have NL : Hid (l ++ [32] ++ d = statB a b (zs.take (k + 1))) := by rw [HL.out, List.append_assoc]; exact Lib.hid ST.out.symm
      clear b1 E HL ST
      go_wp2
      go_roundw
      case rel => exact ⟨k + 1, l ++ [32] ++ d, by go_num, by rw [← ba_app (l ++ [32]) d, ← ba_app l [32]], by omega, by simp; omega, NL, B1⟩
      case measure => simp [intOf]; omega
    · have g1' : ¬ (k : Int) < (n : Int) := by omega
      have NL : Hid (l = statB a b zs) := by
        rw [HL.out, List.take_of_length_le (by rw [HN.out]; omega)]; exact Lib.hid rfl
      have BB := bT B0.out HB.out
      clear HL
      go_wp2
      go_ret
      exact ⟨by rw [NL.out]; rfl, BB⟩



/-- A digit. -/
def isDig (b : UInt8) : Bool := decide (48 ≤ (b.toNat : Int) ∧ (b.toNat : Int) ≤ 57)
def dvS (s : Int) (b : UInt8) : Int := 10 * s + ((b.toNat : Int) - 48)
/-- The number that digits tell. -/
def dv (l : List UInt8) : Int := l.foldl dvS 0
theorem dv_snoc (l : List UInt8) (b : UInt8) : dv (l ++ [b]) = dvS (dv l) b := by simp [dv]
theorem dv_bd (l : List UInt8) (hd : l.all isDig = true) : 0 ≤ dv l ∧ dv l < 10 ^ l.length := by
  have key : ∀ n, ∀ l : List UInt8, l.length = n → l.all isDig = true → 0 ≤ dv l ∧ dv l < 10 ^ l.length := by
    intro n
    induction n with
    | zero => intro l hl _; have : l = [] := List.eq_nil_of_length_eq_zero hl; subst this; simp [dv]
    | succ n ih =>
      intro l hl hd
      obtain ⟨a, b, rfl⟩ : ∃ a b, l = a ++ [b] := ⟨l.dropLast, l.getLast (by intro h; simp [h] at hl), (List.dropLast_concat_getLast _).symm⟩
      rw [List.all_append] at hd
      simp only [Bool.and_eq_true, List.all_cons, List.all_nil, Bool.and_true, isDig, decide_eq_true_eq] at hd
      have h := ih a (by simpa using hl) hd.1
      rw [dv_snoc, List.length_append, List.length_singleton, Int.pow_succ]
      unfold dvS
      omega
  exact key l.length l rfl hd
theorem dv_small (l : List UInt8) (hd : l.all isDig = true) (h : l.length ≤ 15) : 0 ≤ dv l ∧ dv l < 1000000000000000 := by
  have := dv_bd l hd
  refine ⟨this.1, Int.lt_of_lt_of_le this.2 ?_⟩
  have h2 : 10 ^ l.length ≤ 10 ^ 15 := Nat.pow_le_pow_right (by decide) h
  have h3 : ((10 ^ l.length : Nat) : Int) ≤ ((10 ^ 15 : Nat) : Int) := Int.ofNat_le.2 h2
  have e : ((10 ^ l.length : Nat) : Int) = (10 : Int) ^ l.length := by simp
  rw [← e]; exact h3
theorem dig_nat (u : Nat) (h : u < 10) : ((UInt8.ofNat (48 + u)).toNat : Int) = 48 + (u : Int) := by
  simp [UInt8.toNat_ofNat']; omega
theorem dvS_dig (s : Int) (u : Nat) (h : u < 10) : dvS s (UInt8.ofNat (48 + u)) = 10 * s + u := by
  unfold dvS
  rw [dig_nat u h]; omega
theorem dv_dec : ∀ (n u : Nat), u ≤ n → dv (Lib.decDigits u) = u := by
  intro n
  induction n with
  | zero =>
    intro u hu
    have : u = 0 := by omega
    subst this
    rw [Lib.decDigits_one (by decide)]; rfl
  | succ n ih =>
    intro u hu
    rw [Lib.decDigits]
    split
    · rename_i h
      show dvS 0 _ = _
      rw [dvS_dig 0 u h]; omega
    · rename_i h
      rw [dv_snoc, ih (u / 10) (by omega), dvS_dig _ _ (by omega)]
      omega
theorem dec_dig : ∀ (n u : Nat), u ≤ n → (Lib.decDigits u).all isDig = true := by
  intro n
  induction n with
  | zero =>
    intro u hu
    have : u = 0 := by omega
    subst this
    rw [Lib.decDigits_one (by decide)]; decide
  | succ n ih =>
    intro u hu
    rw [Lib.decDigits]
    split
    · rename_i h
      simp only [List.all_cons, List.all_nil, Bool.and_true, isDig, dig_nat u h, decide_eq_true_eq]; omega
    · rename_i h
      rw [List.all_append, ih (u / 10) (by omega)]
      simp only [List.all_cons, List.all_nil, Bool.and_true, Bool.true_and, isDig, dig_nat (u % 10) (by omega), decide_eq_true_eq]; omega
theorem dec_nil (u : Nat) : Lib.decDigits u ≠ [] := by
  rw [Lib.decDigits]
  split
  · simp
  · simp
theorem dec_head (u : Nat) : (Lib.decDigits u).head? ≠ some 45 := by
  intro h
  have h2 := dec_dig u u (Nat.le_refl _)
  cases e : Lib.decDigits u with
  | nil => simp [e] at h
  | cons a r =>
    rw [e] at h h2
    simp only [List.head?_cons, Option.some.injEq] at h
    subst h
    simp [isDig] at h2
theorem dec_lo : ∀ (n u : Nat), u ≤ n → 1 ≤ u → 10 ^ ((Lib.decDigits u).length - 1) ≤ u := by
  intro n
  induction n with
  | zero => intro u hu h1; omega
  | succ n ih =>
    intro u hu h1
    rw [Lib.decDigits]
    split
    · rename_i h
      simpa using h1
    · rename_i h
      have h2 := ih (u / 10) (by omega) (by omega)
      have h3 : 1 ≤ (Lib.decDigits (u / 10)).length := by
        cases e : Lib.decDigits (u / 10) with
        | nil => exact absurd e (dec_nil _)
        | cons a r => simp
      rw [List.length_append, List.length_singleton]
      rw [show (Lib.decDigits (u / 10)).length + 1 - 1 = ((Lib.decDigits (u / 10)).length - 1) + 1 by omega, Nat.pow_succ]
      omega
theorem dec_len15 (u : Nat) (h : u < 1000000000000000) : (Lib.decDigits u).length ≤ 15 := by
  by_cases h0 : u = 0
  · subst h0; rw [Lib.decDigits_one (by decide)]; decide
  · have h2 := dec_lo u u (Nat.le_refl _) (by omega)
    by_cases h3 : (Lib.decDigits u).length ≤ 15
    · exact h3
    · have h4 : 10 ^ 15 ≤ 10 ^ ((Lib.decDigits u).length - 1) := Nat.pow_le_pow_right (by decide) (by omega)
      omega
/-- Is there a sign? -/
def negT (t : List UInt8) : Bool := t.head? == some 45
def digT (t : List UInt8) : List UInt8 := if negT t then t.tail else t
def numF (t : List UInt8) : Bool := decide (1 ≤ (digT t).length ∧ (digT t).length ≤ 15) && (digT t).all isDig
/-- What l01Num tells: the number, and if it is so told. -/
def numV (t : List UInt8) : Int := if numF t then (if negT t then -dv (digT t) else dv (digT t)) else 0
def numK (t : List UInt8) : Bool := numF t && (Lib.itoa (numV t) == t)
theorem itoa_neg {n : Int} (h : n < 0) : Lib.itoa n = 45 :: Lib.decDigits n.natAbs := if_pos h
theorem itoa_pos {n : Int} (h : ¬ n < 0) : Lib.itoa n = Lib.decDigits n.toNat := if_neg h
theorem num_itoa (n : Int) (h : -1000000000000000 < n ∧ n < 1000000000000000) : numF (Lib.itoa n) = true ∧ numV (Lib.itoa n) = n := by
  by_cases h0 : n < 0
  · have hn : negT (Lib.itoa n) = true := by rw [itoa_neg h0]; rfl
    have hd : digT (Lib.itoa n) = Lib.decDigits n.natAbs := by unfold digT; rw [hn, itoa_neg h0]; rfl
    have hl := dec_len15 n.natAbs (by omega)
    have hz : 1 ≤ (Lib.decDigits n.natAbs).length := by
      cases e : Lib.decDigits n.natAbs with
      | nil => exact absurd e (dec_nil _)
      | cons a r => simp
    have hf : numF (Lib.itoa n) = true := by
      unfold numF
      rw [hd, dec_dig _ _ (Nat.le_refl _)]
      simp [hl, hz]
    refine ⟨hf, ?_⟩
    unfold numV
    rw [hf, hn, hd, dv_dec _ _ (Nat.le_refl _)]
    simp only [if_true]
    omega
  · have hn : negT (Lib.itoa n) = false := by
      unfold negT
      rw [itoa_pos h0]
      have := dec_head n.toNat
      simpa using this
    have hd : digT (Lib.itoa n) = Lib.decDigits n.toNat := by unfold digT; rw [hn, itoa_pos h0]; rfl
    have hl := dec_len15 n.toNat (by omega)
    have hz : 1 ≤ (Lib.decDigits n.toNat).length := by
      cases e : Lib.decDigits n.toNat with
      | nil => exact absurd e (dec_nil _)
      | cons a r => simp
    have hf : numF (Lib.itoa n) = true := by
      unfold numF
      rw [hd, dec_dig _ _ (Nat.le_refl _)]
      simp [hl, hz]
    refine ⟨hf, ?_⟩
    unfold numV
    rw [hf, hn, hd, dv_dec _ _ (Nat.le_refl _)]
    simp only [if_true, Bool.false_eq_true, if_false]
    omega

theorem itoa_inj {a b : Int} (ha : -1000000000000000 < a ∧ a < 1000000000000000) (hb : -1000000000000000 < b ∧ b < 1000000000000000) (h : Lib.itoa a = Lib.itoa b) : a = b := by
  rw [← (num_itoa a ha).2, ← (num_itoa b hb).2, h]
theorem itoa_no32 (n : Int) : (32 : UInt8) ∉ Lib.itoa n := by
  have d : ∀ u, (32 : UInt8) ∉ Lib.decDigits u := fun u h => by
    have := List.all_eq_true.1 (dec_dig u u (Nat.le_refl _)) 32 h
    simp [isDig] at this
  intro h
  by_cases hn : n < 0
  · rw [itoa_neg hn] at h
    rcases List.mem_cons.1 h with e | e
    · simp at e
    · exact d _ e
  · rw [itoa_pos hn] at h
    exact d _ h
theorem pre_inj {a b r s : List UInt8} (ha : (32 : UInt8) ∉ a) (hb : (32 : UInt8) ∉ b) (hr : r = [] ∨ ∃ t, r = 32 :: t) (hs : s = [] ∨ ∃ t, s = 32 :: t) (h : a ++ r = b ++ s) : a = b ∧ r = s := by
  induction a generalizing b with
  | nil =>
    cases b with
    | nil => exact ⟨rfl, h⟩
    | cons y b =>
      rcases hr with rfl | ⟨t, rfl⟩
      · simp at h
      · simp at h
        exact absurd (by rw [h.1]; exact List.mem_cons_self ..) hb
  | cons x a ih =>
    cases b with
    | nil =>
      rcases hs with rfl | ⟨t, rfl⟩
      · simp at h
      · simp at h
        exact absurd (by rw [← h.1]; exact List.mem_cons_self ..) ha
    | cons y b =>
      simp only [List.cons_append, List.cons.injEq] at h
      obtain ⟨e1, e2⟩ := ih (fun q => ha (List.mem_cons_of_mem _ q)) (fun q => hb (List.mem_cons_of_mem _ q)) h.2
      exact ⟨by rw [h.1, e1], e2⟩
/-- Numbers well within bounds. -/
def InB (zs : List Int) : Prop := ∀ z ∈ zs, -1000000000000000 < z ∧ z < 1000000000000000
theorem nums_hd (zs : List Int) : zs.flatMap numB = [] ∨ ∃ t, zs.flatMap numB = 32 :: t := by
  cases zs with
  | nil => exact .inl rfl
  | cons z zs => exact .inr ⟨_, by simp [numB]; rfl⟩
theorem nums_inj : ∀ (xs ys : List Int), InB xs → InB ys → xs.flatMap numB = ys.flatMap numB → xs = ys := by
  intro xs
  induction xs with
  | nil =>
    intro ys _ _ h
    cases ys with
    | nil => rfl
    | cons y ys => simp [numB] at h
  | cons x xs ih =>
    intro ys hx hy h
    cases ys with
    | nil => simp [numB] at h
    | cons y ys =>
      simp only [List.flatMap_cons, numB, List.cons_append, List.nil_append, List.cons.injEq, true_and] at h
      obtain ⟨e1, e2⟩ := pre_inj (itoa_no32 x) (itoa_no32 y) (nums_hd xs) (nums_hd ys) h
      rw [itoa_inj (hx x (List.mem_cons_self ..)) (hy y (List.mem_cons_self ..)) e1, ih ys (fun z hz => hx z (List.mem_cons_of_mem _ hz)) (fun z hz => hy z (List.mem_cons_of_mem _ hz)) e2]
theorem stat_inj {i s i' s' : Int} {zs zs' : List Int} (h1 : InB (i :: s :: zs)) (h2 : InB (i' :: s' :: zs')) (h : statB i s zs = statB i' s' zs') : i = i' ∧ s = s' ∧ zs = zs' := by
  have e := List.append_cancel_left h
  have e2 := nums_inj _ _ h1 h2 e
  simp at e2
  exact e2

end Go.Proofs.YtdbebcigikbjgaaGreat
namespace Go.Proofs.YtdbebcigikbjgaaGreat
open Go.RowKit
set_option linter.unusedVariables false

theorem ne71 (a b c x y z : Int) (w : World) : Sem.run Tryz.prog (binOp .neq 71 (.agg #[.int .i64 a, .int .i64 b, .int .i64 c]) (.agg #[.int .i64 x, .int .i64 y, .int .i64 z])) w = .ok (.bool (!(a == x && b == y && c == z))) w := by
  have u2 := Tryz.underlying2
  have a2 := Tryz.isAgg2
  have z2 := Tryz.sizeOf2
  have hS : Tryz.prog.underlying 71 = some (.struct (Tryz.prog.fieldsOf 71)) := by kernel_rfl
  have hp : Tryz.prog.stoodInHeld 71 = false := by kernel_rfl
  rw [run_neq_struct, show (10000 : Nat) = 9999 + 1 from rfl, run_equalIn_agg w 9999 71 _ _ hS hp]
  simp only [Program.fieldsOf, Tryz.underlying71]
  go_simp
  by_cases h1 : a = x <;> by_cases h2 : b = y <;> by_cases h3 : c = z <;> simp [h1, h2, h3]
/-- Alike up to k. -/
def SameA {α : Type} (xs ys : List α) (k : Nat) : Prop := ∀ i, i < k → xs[i]? = ys[i]?
theorem SameA.all {α : Type} {xs ys : List α} {k : Nat} (h : SameA xs ys k) (hl : xs.length = ys.length) (hk : xs.length ≤ k) : xs = ys := by
  refine List.ext_getElem? fun i => ?_
  by_cases e : i < k
  · exact h i e
  · rw [List.getElem?_eq_none (by omega), List.getElem?_eq_none (by omega)]
theorem SameA.step {α : Type} {xs ys : List α} {k : Nat} (h : SameA xs ys k) (g : xs[k]? = ys[k]?) : SameA xs ys (k + 1) := fun i hi => by
  by_cases e : i = k
  · subst e; exact g
  · exact h i (by omega)
theorem SameA.zero {α : Type} (xs ys : List α) : SameA xs ys 0 := fun i h => absurd h (Nat.not_lt_zero _)

set_option maxRecDepth 100000 in
set_option maxHeartbeats 2000000 in
/-- slices.Equal of pairs. -/
theorem eqp_any (sl : Option Addr) (cap : Nat) (ps : List LPr) (sl2 : Option Addr) (cap2 : Nat) (qs : List LPr) (w : World) (hn : ps.length ≤ 1048576) (hm : qs.length ≤ 1048576) (hz : Prs w sl ps) (hy : Prs w sl2 qs) :
    Calls Tryz.prog 52 #[.slice sl ps.length cap, .slice sl2 qs.length cap2] w fun e w' => e = .returned (.bool (B (ps = qs))) ∧ Below w.heap.size w w' := by
  by_cases hl : ps.length = qs.length
  · have YY := Lib.hid (show ∀ k, ps.length ≤ k → SameA ps qs k → B (ps = qs) = true from fun k hk h => B_yes (h.all hl hk))
    have NN := Lib.hid (show ∀ k : Nat, ps[k]? ≠ qs[k]? → B (ps = qs) = false from fun k h => B_no (fun e => h (by rw [e])))
    have HZ := Lib.hid hz
    have HY := Lib.hid hy
    rw [← hl]
    have HLL := Lib.hid hl
    clear hz hy hm hl
    generalize hN : ps.length = n at *
    have HN := Lib.hid hN
    clear hN
    go_enter Tryz.func52, Tryz.ntmps52
    go_wp2
    go_loopw [13] (fun i wr => ∃ k : Nat, i = .int .i64 k ∧ k ≤ n ∧ Hid (SameA ps qs k) ∧ Hid (Below w.heap.size w wr)) (fun i _ => n - (intOf i).toNat)
    case atStart => exact ⟨0, rfl, Nat.zero_le _, SameA.zero _ _, Below.refl _ _⟩
    case round =>
      obtain ⟨k, rfl, hk, H1, H2⟩ := hrel
      have hk0 : (0 : Int) ≤ (k : Int) := by omega
      by_cases h1 : k < n
      · have h1' : (k : Int) < (n : Int) := by omega
        have hlt : k < ps.length := by rw [HN.out]; exact h1
        have hlt2 : k < qs.length := by rw [← HLL.out]; exact h1
        obtain ⟨c, o, rfl, ZI⟩ : ∃ c o, sl = some ⟨c, o, none⟩ ∧ PrAt w c o ps := by
          rcases HZ.out with e | h
          · rw [e] at hlt; simp at hlt
          · exact h
        obtain ⟨c2, o2, rfl, YI⟩ : ∃ c o, sl2 = some ⟨c, o, none⟩ ∧ PrAt w c o qs := by
          rcases HY.out with e | h
          · rw [e] at hlt2; simp at hlt2
          · exact h
        obtain ⟨c0, c1, c3⟩ := (ZI.below H2.out).cell k hlt
        obtain ⟨d0, d1, d3⟩ := (YI.below H2.out).cell k hlt2
        have cl := (ZI.below H2.out).lt
        have dl := (YI.below H2.out).lt
        have GE : ps[k]? = some ps[k] := List.getElem?_eq_getElem hlt
        have GF : qs[k]? = some qs[k] := List.getElem?_eq_getElem hlt2
        have N1 := Lib.hid (NN.out k)
        have S1 := Lib.hid (fun g => SameA.step (k := k) H1.out g)
        rw [GE, GF] at N1 S1
        obtain ⟨a, b, q, hp⟩ : ∃ a b c, ps[k] = (a, b, c) := ⟨_, _, _, rfl⟩
        obtain ⟨x, y, z, hq⟩ : ∃ a b c, qs[k] = (a, b, c) := ⟨_, _, _, rfl⟩
        rw [hp] at c0 c1 c3 N1 S1
        rw [hq] at d0 d1 d3 N1 S1
        dsimp only at c0 c1 c3 d0 d1 d3
        have hgt : Tryz.prog.eqGuardType Tryz.prog.depth 71 = false := by kernel_rfl
        have hnq := ne71 a b q x y z
        clear hp hq hlt hlt2 ZI YI GE GF H1
        by_cases e : a = x ∧ b = y ∧ q = z
        · have hb : (!(a == x && b == y && q == z)) = false := by simp [e.1, e.2.1, e.2.2]
          rw [hb] at hnq
          have HS := Lib.hid (S1.out (by rw [e.1, e.2.1, e.2.2]))
          clear hb e N1 S1
          go_wp2
          go_quiet (fail)
          go_wp2
          go_roundw
          case rel => exact ⟨k + 1, by go_num, by omega, HS, below_drewN H2.out _⟩
          case measure => simp [intOf]; omega
        · have hb : (!(a == x && b == y && q == z)) = true := by
            simp only [Bool.not_eq_true', Bool.and_eq_false_iff, beq_eq_false_iff_ne, ne_eq]
            by_cases i1 : a = x <;> by_cases i2 : b = y <;> by_cases i3 : q = z <;> simp_all
          rw [hb] at hnq
          have HF := Lib.hid (N1.out (fun h => e (by simpa using h)))
          clear hb e N1 S1
          go_wp2
          go_quiet (fail)
          go_wp2
          go_ret
          exact ⟨by rw [HF.out]; rfl, below_drewN H2.out _⟩
      · have h1' : ¬ (k : Int) < (n : Int) := by omega
        have HE := Lib.hid (YY.out k (by omega) H1.out)
        go_wp2
        go_ret
        exact ⟨by rw [HE.out]; rfl, H2.out⟩
  · have hl' : ((ps.length : Int) != (qs.length : Int)) = true := by simpa using (show ¬ (ps.length : Int) = (qs.length : Int) by omega)
    rw [B_no (fun e => hl (by rw [e]))]
    clear hz hy hl
    generalize ps.length = n at *
    generalize qs.length = m at *
    go_enter Tryz.func52, Tryz.ntmps52
    go_wp2
    go_ret
    exact ⟨rfl, Below.refl _ _⟩

set_option maxRecDepth 100000 in
set_option maxHeartbeats 2000000 in
/-- The closure of tablesAlike: are two stations alike? -/
theorem alk_any (i s : Int) (sl : Option Addr) (cap : Nat) (zs : List Int) (i' s' : Int) (sl2 : Option Addr) (cap2 : Nat) (ys : List Int) (w : World) (hn : zs.length ≤ 1048576) (hm : ys.length ≤ 1048576) (hz : Ints w sl zs) (hy : Ints w sl2 ys) :
    Calls Tryz.prog 49 #[SV i s sl zs.length cap, SV i' s' sl2 ys.length cap2] w fun e w' => e = .returned (.bool (B (i = i' ∧ s = s' ∧ zs = ys))) ∧ Below w.heap.size w w' := by
  have B0 := Lib.hid (bA (bA0 w (.cells #[.int .i64 i, .int .i64 s, .slice sl zs.length cap] 69)) (.cells #[.int .i64 i', .int .i64 s', .slice sl2 ys.length cap2] 69))
  have E1 : Hid (∀ W, Below w.heap.size w W → Calls Tryz.prog 50 #[.slice sl zs.length cap, .slice sl2 ys.length cap2] W fun e w' => e = .returned (.bool (B (zs = ys))) ∧ Below W.heap.size W w') := fun W hW => eqz_any sl cap zs sl2 cap2 ys W hn hm (hz.below hW) (hy.below hW)
  clear hz hy
  by_cases h1 : i = i'
  case neg =>
    rw [B_no (fun h => h1 h.1)]
    have g1 : (i == i') = false := by simpa using h1
    clear h1 E1
    generalize zs.length = n at *
    generalize ys.length = m at *
    go_enter Tryz.func49, Tryz.ntmps49
    go_wp2
    go_ret
    exact ⟨rfl, B0.out⟩
  subst h1
  by_cases h2 : s = s'
  case neg =>
    rw [B_no (fun h => h2 h.2.1)]
    have g1 : (s == s') = false := by simpa using h2
    clear h2 E1
    generalize zs.length = n at *
    generalize ys.length = m at *
    go_enter Tryz.func49, Tryz.ntmps49
    go_wp2
    go_ret
    exact ⟨rfl, B0.out⟩
  subst h2
  rw [show B (i = i ∧ s = s ∧ zs = ys) = B (zs = ys) from B_iff ⟨fun h => h.2.2, fun h => ⟨rfl, rfl, h⟩⟩]
  generalize B (zs = ys) = r at *
  generalize zs.length = n at *
  generalize ys.length = m at *
  go_enter Tryz.func49, Tryz.ntmps49
  go_wp2_with fail
  refine (E1.out _ B0.out).mono ?_
  rintro e w1 ⟨rfl, b1⟩
  have D1 := Lib.hid (bT B0.out b1)
  clear b1
  go_wp2
  go_ret
  exact ⟨rfl, D1.out⟩

abbrev AF : Value := .func (.func 49) #[] #[]
theorem bare_at {rs : List LSt} {k : Nat} (h : k < rs.length) : (bareS rs)[k]? = some (rs[k].1, rs[k].2.1, rs[k].2.2.2) := by
  simp [bareS, h]
theorem bare_len (rs : List LSt) : (bareS rs).length = rs.length := by simp [bareS]
set_option maxRecDepth 100000 in
set_option maxHeartbeats 2000000 in
/-- slices.EqualFunc of stations. -/
theorem eqf_any (sl : Option Addr) (cap : Nat) (rs : List LSt) (sl2 : Option Addr) (cap2 : Nat) (qs : List LSt) (w : World) (hn : rs.length ≤ 1048576) (hm : qs.length ≤ 1048576) (hz : Sts w sl rs) (hy : Sts w sl2 qs) :
    Calls Tryz.prog 51 #[.slice sl rs.length cap, .slice sl2 qs.length cap2, AF] w fun e w' => e = .returned (.bool (B (bareS rs = bareS qs))) ∧ Below w.heap.size w w' := by
  by_cases hl : rs.length = qs.length
  · have YY := Lib.hid (show ∀ k, rs.length ≤ k → SameA (bareS rs) (bareS qs) k → B (bareS rs = bareS qs) = true from fun k hk h => B_yes (h.all (by rw [bare_len, bare_len]; exact hl) (by rw [bare_len]; exact hk)))
    have NN := Lib.hid (show ∀ k : Nat, (bareS rs)[k]? ≠ (bareS qs)[k]? → B (bareS rs = bareS qs) = false from fun k h => B_no (fun e => h (by rw [e])))
    have HZ := Lib.hid hz
    have HY := Lib.hid hy
    rw [← hl]
    have HLL := Lib.hid hl
    clear hz hy hm hl
    generalize hN : rs.length = n at *
    have HN := Lib.hid hN
    clear hN
    go_enter Tryz.func51, Tryz.ntmps51
    go_wp2
    go_loopw [17] (fun i wr => ∃ k : Nat, i = .int .i64 k ∧ k ≤ n ∧ Hid (SameA (bareS rs) (bareS qs) k) ∧ Hid (Below w.heap.size w wr)) (fun i _ => n - (intOf i).toNat)
    case atStart => exact ⟨0, rfl, Nat.zero_le _, SameA.zero _ _, Below.refl _ _⟩
    case round =>
      obtain ⟨k, rfl, hk, H1, H2⟩ := hrel
      have hk0 : (0 : Int) ≤ (k : Int) := by omega
      by_cases h1 : k < n
      · have h1' : (k : Int) < (n : Int) := by omega
        have hlt : k < rs.length := by rw [HN.out]; exact h1
        have hlt2 : k < qs.length := by rw [← HLL.out]; exact h1
        obtain ⟨c, o, rfl, ZI⟩ : ∃ c o, sl = some ⟨c, o, none⟩ ∧ StAt w c o rs := by
          rcases HZ.out.row with e | h
          · rw [e] at hlt; simp at hlt
          · exact h
        obtain ⟨c2, o2, rfl, YI⟩ : ∃ c o, sl2 = some ⟨c, o, none⟩ ∧ StAt w c o qs := by
          rcases HY.out.row with e | h
          · rw [e] at hlt2; simp at hlt2
          · exact h
        obtain ⟨c0, c1, c3⟩ := (ZI.below H2.out).cell k hlt
        obtain ⟨d0, d1, d3⟩ := (YI.below H2.out).cell k hlt2
        have cl := (ZI.below H2.out).lt
        have dl := (YI.below H2.out).lt
        obtain ⟨s1, k1, e1, i1, l1⟩ := (HZ.out.dom _ (List.getElem_mem hlt)).below H2.out
        obtain ⟨s2, k2, e2, i2, l2⟩ := (HY.out.dom _ (List.getElem_mem hlt2)).below H2.out
        have N1 := Lib.hid (NN.out k)
        have S1 := Lib.hid (fun g => SameA.step (k := k) H1.out g)
        rw [bare_at hlt, bare_at hlt2] at N1 S1
        rw [e1] at c3
        rw [e2] at d3
        have E1 : Hid (∀ W, Below wr.heap.size wr W → Calls Tryz.prog 49 #[SV rs[k].1 rs[k].2.1 s1 rs[k].2.2.2.length k1, SV qs[k].1 qs[k].2.1 s2 qs[k].2.2.2.length k2] W fun e w' => e = .returned (.bool (B (rs[k].1 = qs[k].1 ∧ rs[k].2.1 = qs[k].2.1 ∧ rs[k].2.2.2 = qs[k].2.2.2))) ∧ Below W.heap.size W w') := fun W hW => alk_any _ _ s1 k1 _ _ _ s2 k2 _ W l1 l2 (i1.below hW) (i2.below hW)
        have S2 := Lib.hid (show B (rs[k].1 = qs[k].1 ∧ rs[k].2.1 = qs[k].2.1 ∧ rs[k].2.2.2 = qs[k].2.2.2) = true → SameA (bareS rs) (bareS qs) (k + 1) from fun g => S1.out (by obtain ⟨g1, g2, g3⟩ := B_true g; rw [g1, g2, g3]))
        have N2 := Lib.hid (show B (rs[k].1 = qs[k].1 ∧ rs[k].2.1 = qs[k].2.1 ∧ rs[k].2.2.2 = qs[k].2.2.2) = false → B (bareS rs = bareS qs) = false from fun g => N1.out (fun h => B_false g (by simpa using h)))
        generalize B (rs[k].1 = qs[k].1 ∧ rs[k].2.1 = qs[k].2.1 ∧ rs[k].2.2.2 = qs[k].2.2.2) = r at *
        clear e1 e2 i1 i2 l1 l2 N1 S1 ZI YI H1
        generalize rs[k].2.2.2.length = x1 at *
        generalize qs[k].2.2.2.length = x2 at *
        generalize rs[k].1 = a at *
        generalize rs[k].2.1 = b at *
        generalize qs[k].1 = a' at *
        generalize qs[k].2.1 = b' at *
        clear hlt hlt2
        have F5 := Lib.hid (bA (bA0 wr (.cells #[.int .i64 a, .int .i64 b, .slice s1 x1 k1] 69)) (.cells #[.int .i64 a', .int .i64 b', .slice s2 x2 k2] 69))
        have d0' := ((bA0 wr (.cells #[.int .i64 a, .int .i64 b, .slice s1 x1 k1] 69)).cell (p := ⟨c2, o2 + k * 3, none⟩) dl).trans d0
        have d1' := ((bA0 wr (.cells #[.int .i64 a, .int .i64 b, .slice s1 x1 k1] 69)).cell (p := ⟨c2, o2 + k * 3 + 1, none⟩) dl).trans d1
        have d3' := ((bA0 wr (.cells #[.int .i64 a, .int .i64 b, .slice s1 x1 k1] 69)).cell (p := ⟨c2, o2 + k * 3 + 2, none⟩) dl).trans d3
        cases r
        · have HF := Lib.hid (N2.out rfl)
          clear N2 S2 YY NN HZ HY HLL HN
          go_wp2_with (go_at_call 49; refine (E1.out _ F5.out).mono ?_; rintro e w1 ⟨rfl, b1⟩; have D1 := Lib.hid (bT H2.out (bT F5.out b1)); clear b1)
          go_ret
          exact ⟨by rw [HF.out]; rfl, D1.out⟩
        · have HS := Lib.hid (S2.out rfl)
          clear N2 S2
          go_wp2_with (go_at_call 49; refine (E1.out _ F5.out).mono ?_; rintro e w1 ⟨rfl, b1⟩; have D1 := Lib.hid (bT H2.out (bT F5.out b1)); clear b1)
          go_roundw
          case rel => exact ⟨k + 1, by go_num, by omega, HS, D1⟩
          case measure => simp [intOf]; omega
      · have h1' : ¬ (k : Int) < (n : Int) := by omega
        have HE := Lib.hid (YY.out k (by omega) H1.out)
        go_wp2
        go_ret
        exact ⟨by rw [HE.out]; rfl, H2.out⟩
  · have hl' : ((rs.length : Int) != (qs.length : Int)) = true := by simpa using (show ¬ (rs.length : Int) = (qs.length : Int) by omega)
    rw [B_no (fun e => hl (by rw [← bare_len, ← bare_len, e]))]
    clear hz hy hl
    generalize rs.length = n at *
    generalize qs.length = m at *
    go_enter Tryz.func51, Tryz.ntmps51
    go_wp2
    go_ret
    exact ⟨rfl, Below.refl _ _⟩

/-- Two tables are alike. -/
def TabA (rs : List LSt) (ps : List LPr) (rs' : List LSt) (ps' : List LPr) : Prop := bareS rs = bareS rs' ∧ ps = ps'
set_option maxRecDepth 100000 in
set_option maxHeartbeats 2000000 in
/-- impl.tablesAlike. -/
theorem ial_any (sl : Option Addr) (cap : Nat) (tl : Option Addr) (kap : Nat) (rs : List LSt) (ps : List LPr) (sl' : Option Addr) (cap' : Nat) (tl' : Option Addr) (kap' : Nat) (rs' : List LSt) (ps' : List LPr) (w : World) (hn : rs.length ≤ 1048576) (hm : ps.length ≤ 1048576) (hn' : rs'.length ≤ 1048576) (hm' : ps'.length ≤ 1048576) (hz : Sts w sl rs) (hp : Prs w tl ps) (hz' : Sts w sl' rs') (hp' : Prs w tl' ps') :
    Calls Tryz.prog 24 #[TV sl rs.length cap tl ps.length kap, TV sl' rs'.length cap' tl' ps'.length kap'] w fun e w' => e = .returned (.bool (B (TabA rs ps rs' ps'))) ∧ Below w.heap.size w w' := by
  have B0 := Lib.hid (bA (bA0 w (.cells #[.slice sl rs.length cap, .slice tl ps.length kap] 40)) (.cells #[.slice sl' rs'.length cap', .slice tl' ps'.length kap'] 40))
  have E1 : Hid (∀ W, Below w.heap.size w W → Calls Tryz.prog 51 #[.slice sl rs.length cap, .slice sl' rs'.length cap', AF] W fun e w' => e = .returned (.bool (B (bareS rs = bareS rs'))) ∧ Below W.heap.size W w') := fun W hW => eqf_any sl cap rs sl' cap' rs' W hn hn' (hz.below hW) (hz'.below hW)
  have E2 : Hid (∀ W, Below w.heap.size w W → Calls Tryz.prog 52 #[.slice tl ps.length kap, .slice tl' ps'.length kap'] W fun e w' => e = .returned (.bool (B (ps = ps'))) ∧ Below W.heap.size W w') := fun W hW => eqp_any tl kap ps tl' kap' ps' W hm hm' (hp.below hW) (hp'.below hW)
  have X1 := Lib.hid (show B (bareS rs = bareS rs') = false → B (TabA rs ps rs' ps') = false from fun g => B_no (fun h => B_false g h.1))
  have X2 := Lib.hid (show B (bareS rs = bareS rs') = true → B (ps = ps') = B (TabA rs ps rs' ps') from fun g => B_iff ⟨fun h => ⟨B_true g, h⟩, fun h => h.2⟩)
  clear hz hz' hp hp'
  generalize B (TabA rs ps rs' ps') = r at *
  generalize B (bareS rs = bareS rs') = r1 at *
  generalize B (ps = ps') = r2 at *
  generalize rs.length = n at *
  generalize rs'.length = n' at *
  generalize ps.length = m at *
  generalize ps'.length = m' at *
  go_enter Tryz.func24, Tryz.ntmps24
  go_wp2_with fail
  refine (E1.out _ B0.out).mono ?_
  rintro e w1 ⟨rfl, b1⟩
  have D1 := Lib.hid (bT B0.out b1)
  obtain ⟨hc, hf⟩ := bcell b1
  clear b1 E1
  cases r1
  · have HF := X1.out rfl
    subst HF
    clear X1 X2 E2
    go_wp2
    go_ret
    exact ⟨rfl, D1.out⟩
  · have HF := X2.out rfl
    subst HF
    clear X1 X2
    go_wp2_with fail
    refine (E2.out _ D1.out).mono ?_
    rintro e w2 ⟨rfl, b2⟩
    have D2 := Lib.hid (bT D1.out b2)
    clear b2 hc hf
    go_wp2
    go_ret
    exact ⟨rfl, D2.out⟩

end Go.Proofs.YtdbebcigikbjgaaGreat
namespace Go.Proofs.YtdbebcigikbjgaaGreat
open Go.RowKit
set_option linter.unusedVariables false

theorem baL (a b : List UInt8) : ((⟨a.toArray⟩ : ByteArray).toList == (⟨b.toArray⟩ : ByteArray).toList) = (a == b) := by
  rw [Go.ByteArray.toList_eq, Go.ByteArray.toList_eq]
theorem cells2T {w : World} {b : Nat} {t : TypeId} {a0 a1 : Value} (h : w.heap[b]? = some (.cells #[a0, a1] t)) :
    w.cell? ⟨b, 0, none⟩ = some a0 ∧ w.cell? ⟨b, 1, none⟩ = some a1 ∧ (∀ o, w.frozen? ⟨b, o, none⟩ = false) ∧ b < w.heap.size := by
  refine ⟨?_, ?_, fun o => ?_, (Array.getElem?_eq_some_iff.1 h).1⟩ <;> simp [World.cell?, World.frozen?, h]
/-- A station whose numbers are well within bounds. -/
def SmS (r : LSt) : Prop := InB (r.1 :: r.2.1 :: r.2.2.2) ∧ r.2.2.2.length ≤ 1000
theorem InB.mid {zs : List Int} (h : InB zs) : MidL zs := fun z hz => ⟨Int.le_of_lt (h z hz).1, Int.le_of_lt (h z hz).2⟩
set_option maxRecDepth 100000 in
set_option maxHeartbeats 4000000 in
/-- spec.l15SameTable. -/
theorem ssm_any (sl : Option Addr) (cap : Nat) (tl : Option Addr) (kap : Nat) (rs : List LSt) (ps : List LPr) (sl' : Option Addr) (cap' : Nat) (tl' : Option Addr) (kap' : Nat) (qs : List LSt) (ps' : List LPr) (w : World) (hn : rs.length ≤ 1048576) (hm : ps.length ≤ 1048576) (hn' : qs.length ≤ 1048576) (hm' : ps'.length ≤ 1048576) (hz : Sts w sl rs) (hp : Prs w tl ps) (hz' : Sts w sl' qs) (hp' : Prs w tl' ps') (hr : ∀ r ∈ rs, SmS r) (hr' : ∀ r ∈ qs, SmS r) :
    Calls Tryz.prog 16 #[TV sl rs.length cap tl ps.length kap, TV sl' qs.length cap' tl' ps'.length kap'] w fun e w' => e = .returned (.bool (B (TabA rs ps qs ps'))) ∧ Below w.heap.size w w' := by
  have B0 := Lib.hid (bA (bA0 w (.cells #[.slice sl rs.length cap, .slice tl ps.length kap] 40)) (.cells #[.slice sl' qs.length cap', .slice tl' ps'.length kap'] 40))
  by_cases hl : rs.length = qs.length
  case neg =>
    rw [B_no (fun e => hl (by rw [← bare_len, ← bare_len, e.1]))]
    have g1 : ((rs.length : Int) != (qs.length : Int)) = true := by simpa using (show ¬ (rs.length : Int) = (qs.length : Int) by omega)
    clear hz hz' hp hp' hr hr' hl
    generalize rs.length = n at *
    generalize qs.length = n' at *
    generalize ps.length = m at *
    generalize ps'.length = m' at *
    go_enter Tryz.func16, Tryz.ntmps16
    go_wp2
    go_ret
    exact ⟨rfl, B0.out⟩
  by_cases hk : ps.length = ps'.length
  case neg =>
    rw [B_no (fun e => hk (by rw [e.2]))]
    have g1 : ((ps.length : Int) != (ps'.length : Int)) = true := by simpa using (show ¬ (ps.length : Int) = (ps'.length : Int) by omega)
    rw [← hl] at B0 ⊢
    clear hz hz' hp hp' hr hr' hl hk
    generalize rs.length = n at *
    generalize ps.length = m at *
    generalize ps'.length = m' at *
    go_enter Tryz.func16, Tryz.ntmps16
    go_wp2
    go_ret
    exact ⟨rfl, B0.out⟩
  have YY := Lib.hid (show ∀ i j : Nat, rs.length ≤ i → SameA (bareS rs) (bareS qs) i → ps.length ≤ j → SameA ps ps' j → B (TabA rs ps qs ps') = true from fun i j hi h hj g => B_yes ⟨h.all (by rw [bare_len, bare_len]; exact hl) (by rw [bare_len]; exact hi), g.all hk hj⟩)
  have N1 := Lib.hid (show ∀ k : Nat, (bareS rs)[k]? ≠ (bareS qs)[k]? → B (TabA rs ps qs ps') = false from fun k h => B_no (fun e => h (by rw [e.1])))
  have N2 := Lib.hid (show ∀ k : Nat, ps[k]? ≠ ps'[k]? → B (TabA rs ps qs ps') = false from fun k h => B_no (fun e => h (by rw [e.2])))
  generalize B (TabA rs ps qs ps') = r at *
  rw [← hl, ← hk] at B0 ⊢
  have HZ := Lib.hid hz
  have HY := Lib.hid hz'
  have HP := Lib.hid hp
  have HQ := Lib.hid hp'
  have HR := Lib.hid hr
  have HRR := Lib.hid hr'
  have HLL := Lib.hid hl
  have HKK := Lib.hid hk
  clear hz hz' hp hp' hr hr' hn' hm' hl hk
  generalize hN : rs.length = n at *
  generalize hM : ps.length = m at *
  have HN := Lib.hid hN
  have HM := Lib.hid hM
  clear hN hM
  have KA : Hid (∀ W, Below (w.heap.size + 2) ((w.alloc (.cells #[.slice sl n cap, .slice tl m kap] 40)).alloc (.cells #[.slice sl' n cap', .slice tl' m kap'] 40)) W → W.heap[w.heap.size]? = some (.cells #[.slice sl n cap, .slice tl m kap] 40) ∧ W.heap[w.heap.size + 1]? = some (.cells #[.slice sl' n cap', .slice tl' m kap'] 40)) := fun W hW => by
    have e0 : ((w.alloc (.cells #[.slice sl n cap, .slice tl m kap] 40)).alloc (.cells #[.slice sl' n cap', .slice tl' m kap'] 40)).heap[w.heap.size]? = some (.cells #[.slice sl n cap, .slice tl m kap] 40) := by
      rw [((bA0 (w.alloc (.cells #[.slice sl n cap, .slice tl m kap] 40)) (.cells #[.slice sl' n cap', .slice tl' m kap'] 40)).block w.heap.size (by simp))]; exact new_at _ _
    have e1 : ((w.alloc (.cells #[.slice sl n cap, .slice tl m kap] 40)).alloc (.cells #[.slice sl' n cap', .slice tl' m kap'] 40)).heap[w.heap.size + 1]? = some (.cells #[.slice sl' n cap', .slice tl' m kap'] 40) := by
      have := new_at (w.alloc (.cells #[.slice sl n cap, .slice tl m kap] 40)) (.cells #[.slice sl' n cap', .slice tl' m kap'] 40)
      simpa using this
    exact ⟨(hW.block w.heap.size (by omega)).trans e0, (hW.block (w.heap.size + 1) (by omega)).trans e1⟩
  have hS : ((w.alloc (.cells #[.slice sl n cap, .slice tl m kap] 40)).alloc (.cells #[.slice sl' n cap', .slice tl' m kap'] 40)).heap.size = w.heap.size + 2 := by simp
  have G1 : ((n : Int) != (n : Int)) = false := by simp
  have G2 : ((m : Int) != (m : Int)) = false := by simp
  go_enter Tryz.func16, Tryz.ntmps16
  go_wp2
  generalize (w.alloc (.cells #[.slice sl n cap, .slice tl m kap] 40)).alloc (.cells #[.slice sl' n cap', .slice tl' m kap'] 40) = w0 at *
  clear G1 G2
  go_loopw [5] (fun i wr => ∃ k : Nat, i = .int .i64 k ∧ k ≤ n ∧ Hid (SameA (bareS rs) (bareS qs) k) ∧ Hid (Below w0.heap.size w0 wr)) (fun i _ => n - (intOf i).toNat)
  case atStart => exact ⟨0, rfl, Nat.zero_le _, SameA.zero _ _, Below.refl _ _⟩
  case round =>
    obtain ⟨k, rfl, hk, H1, H2⟩ := hrel
    have hk0 : (0 : Int) ≤ (k : Int) := by omega
    have H3 := Lib.hid (bT B0.out H2.out)
    obtain ⟨m0, m1⟩ := KA.out wr (by rw [← hS]; exact H2.out)
    obtain ⟨p0, p1, pf, pl⟩ := cells2T m0
    obtain ⟨q0, q1, qf, ql⟩ := cells2T m1
    by_cases h1 : k < n
    · have h1' : (k : Int) < (n : Int) := by omega
      have hlt : k < rs.length := by rw [HN.out]; exact h1
      have hlt2 : k < qs.length := by rw [← HLL.out]; exact h1
      obtain ⟨c, o, rfl, ZI⟩ : ∃ c o, sl = some ⟨c, o, none⟩ ∧ StAt w c o rs := by
        rcases HZ.out.row with e | h
        · rw [e] at hlt; simp at hlt
        · exact h
      obtain ⟨c2, o2, rfl, YI⟩ : ∃ c o, sl' = some ⟨c, o, none⟩ ∧ StAt w c o qs := by
        rcases HY.out.row with e | h
        · rw [e] at hlt2; simp at hlt2
        · exact h
      obtain ⟨c0, c1, c3⟩ := (ZI.below H3.out).cell k hlt
      obtain ⟨d0, d1, d3⟩ := (YI.below H3.out).cell k hlt2
      have cl := (ZI.below H3.out).lt
      have dl := (YI.below H3.out).lt
      obtain ⟨s1, k1, e1, i1, l1⟩ := (HZ.out.dom _ (List.getElem_mem hlt)).below H3.out
      obtain ⟨s2, k2, e2, i2, l2⟩ := (HY.out.dom _ (List.getElem_mem hlt2)).below H3.out
      have M1 := Lib.hid (N1.out k)
      have S1 := Lib.hid (fun g => SameA.step (k := k) H1.out g)
      rw [bare_at hlt, bare_at hlt2] at M1 S1
      rw [e1] at c3
      rw [e2] at d3
      obtain ⟨j1, j2⟩ := HR.out _ (List.getElem_mem hlt)
      obtain ⟨j3, j4⟩ := HRR.out _ (List.getElem_mem hlt2)
      have E1 : Hid (∀ W, Below wr.heap.size wr W → Calls Tryz.prog 37 #[SV rs[k].1 rs[k].2.1 s1 rs[k].2.2.2.length k1] W fun e w' => e = .returned (.string ⟨(statB rs[k].1 rs[k].2.1 rs[k].2.2.2).toArray⟩) ∧ Below W.heap.size W w') := fun W hW => stt_any _ _ s1 k1 _ W (j1.mid _ (by simp)) (j1.mid _ (by simp)) j2 (fun z hz => j1.mid z (by simp [hz])) (i1.below hW)
      have E2 : Hid (∀ W, Below wr.heap.size wr W → Calls Tryz.prog 37 #[SV qs[k].1 qs[k].2.1 s2 qs[k].2.2.2.length k2] W fun e w' => e = .returned (.string ⟨(statB qs[k].1 qs[k].2.1 qs[k].2.2.2).toArray⟩) ∧ Below W.heap.size W w') := fun W hW => stt_any _ _ s2 k2 _ W (j3.mid _ (by simp)) (j3.mid _ (by simp)) j4 (fun z hz => j3.mid z (by simp [hz])) (i2.below hW)
      have hb0 := baL (statB rs[k].1 rs[k].2.1 rs[k].2.2.2) (statB qs[k].1 qs[k].2.1 qs[k].2.2.2)
      have S2 := Lib.hid (show statB rs[k].1 rs[k].2.1 rs[k].2.2.2 = statB qs[k].1 qs[k].2.1 qs[k].2.2.2 → SameA (bareS rs) (bareS qs) (k + 1) from fun g => S1.out (by obtain ⟨g1, g2, g3⟩ := stat_inj j1 j3 g; rw [g1, g2, g3]))
      have M2 := Lib.hid (show ¬ statB rs[k].1 rs[k].2.1 rs[k].2.2.2 = statB qs[k].1 qs[k].2.1 qs[k].2.2.2 → r = false from fun g => M1.out (fun h => g (by simp only [Option.some.injEq, Prod.mk.injEq] at h; rw [h.1, h.2.1, h.2.2])))
      clear e1 e2 i1 i2 l1 l2 M1 S1 ZI YI H1 j1 j2 j3 j4 m0 m1
      generalize statB rs[k].1 rs[k].2.1 rs[k].2.2.2 = u at *
      generalize statB qs[k].1 qs[k].2.1 qs[k].2.2.2 = v at *
      generalize (⟨u.toArray⟩ : ByteArray) = ub at *
      generalize (⟨v.toArray⟩ : ByteArray) = vb at *
      generalize rs[k].2.2.2.length = x1 at *
      generalize qs[k].2.2.2.length = x2 at *
      generalize rs[k].1 = a at *
      generalize rs[k].2.1 = b at *
      generalize qs[k].1 = a' at *
      generalize qs[k].2.1 = b' at *
      clear hlt hlt2
      have KX : Hid (∀ W, Below wr.heap.size wr W → w.heap.size < W.heap.size ∧ w.heap.size + 1 < W.heap.size ∧ W.cell? ⟨w.heap.size, 0, none⟩ = some (.slice (some ⟨c, o, none⟩) n cap) ∧ W.cell? ⟨w.heap.size + 1, 0, none⟩ = some (.slice (some ⟨c2, o2, none⟩) n cap') ∧ c < W.heap.size ∧ c2 < W.heap.size ∧ W.cell? ⟨c, o + k * 3, none⟩ = some (.int .i64 a) ∧ W.cell? ⟨c, o + k * 3 + 1, none⟩ = some (.int .i64 b) ∧ W.cell? ⟨c, o + k * 3 + 2, none⟩ = some (.slice s1 x1 k1) ∧ W.cell? ⟨c2, o2 + k * 3, none⟩ = some (.int .i64 a') ∧ W.cell? ⟨c2, o2 + k * 3 + 1, none⟩ = some (.int .i64 b') ∧ W.cell? ⟨c2, o2 + k * 3 + 2, none⟩ = some (.slice s2 x2 k2)) := fun W hW => ⟨Nat.lt_of_lt_of_le pl hW.size, Nat.lt_of_lt_of_le ql hW.size, (hW.cell pl).trans p0, (hW.cell ql).trans q0, Nat.lt_of_lt_of_le cl hW.size, Nat.lt_of_lt_of_le dl hW.size, (hW.cell cl).trans c0, (hW.cell cl).trans c1, (hW.cell cl).trans c3, (hW.cell dl).trans d0, (hW.cell dl).trans d1, (hW.cell dl).trans d3⟩
      by_cases g : u = v
      · have HS := Lib.hid (S2.out g)
        have hb : (ub.toList == vb.toList) = true := by rw [hb0]; simpa using g
        clear S2 M2 hb0 g YY N1 N2 HZ HY HP HQ HR HRR HLL HKK HN HM
        clear c0 c1 c3 d0 d1 d3 q0 q1 qf
        go_wp2_with fail
        clear p0 p1 pf
        refine wp_region_held_drew (S := fun W => w.heap.size < W.heap.size ∧ w.heap.size + 1 < W.heap.size ∧ W.cell? ⟨w.heap.size, 0, none⟩ = some (.slice (some ⟨c, o, none⟩) n cap) ∧ W.cell? ⟨w.heap.size + 1, 0, none⟩ = some (.slice (some ⟨c2, o2, none⟩) n cap') ∧ c < W.heap.size ∧ c2 < W.heap.size ∧ W.cell? ⟨c, o + k * 3, none⟩ = some (.int .i64 a) ∧ W.cell? ⟨c, o + k * 3 + 1, none⟩ = some (.int .i64 b) ∧ W.cell? ⟨c, o + k * 3 + 2, none⟩ = some (.slice s1 x1 k1) ∧ W.cell? ⟨c2, o2 + k * 3, none⟩ = some (.int .i64 a') ∧ W.cell? ⟨c2, o2 + k * 3 + 1, none⟩ = some (.int .i64 b') ∧ W.cell? ⟨c2, o2 + k * 3 + 2, none⟩ = some (.slice s2 x2 k2)) (by kernel_rfl) ?_ (fun hHeld => ?_)
        · exact KX.out _ (Below.refl _ _).drew
        refine wpAnyH_take (i := 0) (oi := _) (v := ?_) rfl (by kernel_rfl) (by kernel_rfl) (by kernel_rfl) (fun _ _ _ h => h) (Or.inl ⟨by rfl, ?_⟩) (by assumption) ?_
        rotate_left
        · first | (intro w hSw; (try dsimp only at hSw); go_simp; done) | (intro w hSw; (try dsimp only at hSw); go_simp; with_reducible rfl)
        try simp only [Act.put, List.setIfInBounds_toArray, List.set_cons_zero, List.set_cons_succ, List.getElem_toArray, List.getElem_cons_zero]
        refine wpAnyH_take (i := 1) (oi := _) (v := ?_) rfl (by kernel_rfl) (by kernel_rfl) (by kernel_rfl) (fun _ _ _ h => h) (Or.inl ⟨by rfl, ?_⟩) (by assumption) ?_
        rotate_left
        · first | (intro w hSw; (try dsimp only at hSw); go_simp; done) | (intro w hSw; (try dsimp only at hSw); go_simp; with_reducible rfl)
        try simp only [Act.put, List.setIfInBounds_toArray, List.set_cons_zero, List.set_cons_succ, List.getElem_toArray, List.getElem_cons_succ, List.getElem_cons_zero]
        refine wpAnyH_take (i := 2) (oi := _) (v := ?_) rfl (by kernel_rfl) (by kernel_rfl) (by kernel_rfl) (fun _ _ _ h => h) (Or.inl ⟨by rfl, ?_⟩) (by assumption) ?_
        rotate_left
        · first | (intro w hSw; (try dsimp only at hSw); go_simp; done) | (intro w hSw; (try dsimp only at hSw); go_simp; with_reducible rfl)
        try simp only [Act.put, List.setIfInBounds_toArray, List.set_cons_zero, List.set_cons_succ, List.getElem_toArray, List.getElem_cons_succ, List.getElem_cons_zero]
        refine wpAnyH_take (i := 3) (oi := _) (v := ?_) rfl (by kernel_rfl) (by kernel_rfl) (by kernel_rfl) (fun _ _ _ h => h) (Or.inl ⟨by rfl, ?_⟩) (by assumption) ?_
        rotate_left
        · first | (intro w hSw; (try dsimp only at hSw); go_simp; done) | (intro w hSw; (try dsimp only at hSw); go_simp; with_reducible rfl)
        try simp only [Act.put, List.setIfInBounds_toArray, List.set_cons_zero, List.set_cons_succ, List.getElem_toArray, List.getElem_cons_succ, List.getElem_cons_zero]
        refine wpAnyH_take (i := 4) (oi := _) (v := ?_) rfl (by kernel_rfl) (by kernel_rfl) (by kernel_rfl) (fun _ _ _ h => h) (Or.inl ⟨by rfl, ?_⟩) (by assumption) ?_
        rotate_left
        · first | (intro w hSw; (try dsimp only at hSw); go_simp; done) | (intro w hSw; (try dsimp only at hSw); go_simp; with_reducible rfl)
        try simp only [Act.put, List.setIfInBounds_toArray, List.set_cons_zero, List.set_cons_succ, List.getElem_toArray, List.getElem_cons_succ, List.getElem_cons_zero]
        refine wpAnyH_take (i := 6) (oi := _) (v := ?_) rfl (by kernel_rfl) (by kernel_rfl) (by kernel_rfl) (fun _ _ _ h => h) (Or.inl ⟨by rfl, ?_⟩) (by assumption) ?_
        rotate_left
        · first | (intro w hSw; (try dsimp only at hSw); go_simp; done) | (intro w hSw; (try dsimp only at hSw); go_simp; with_reducible rfl)
        try simp only [Act.put, List.setIfInBounds_toArray, List.set_cons_zero, List.set_cons_succ, List.getElem_toArray, List.getElem_cons_succ, List.getElem_cons_zero]
        refine wpAnyH_take (i := 7) (oi := _) (v := ?_) rfl (by kernel_rfl) (by kernel_rfl) (by kernel_rfl) (fun _ _ _ h => h) (Or.inl ⟨by rfl, ?_⟩) (by assumption) ?_
        rotate_left
        · first | (intro w hSw; (try dsimp only at hSw); go_simp; done) | (intro w hSw; (try dsimp only at hSw); go_simp; with_reducible rfl)
        try simp only [Act.put, List.setIfInBounds_toArray, List.set_cons_zero, List.set_cons_succ, List.getElem_toArray, List.getElem_cons_succ, List.getElem_cons_zero]
        refine wpAnyH_take (i := 8) (oi := _) (v := ?_) rfl (by kernel_rfl) (by kernel_rfl) (by kernel_rfl) (fun _ _ _ h => h) (Or.inl ⟨by rfl, ?_⟩) (by assumption) ?_
        rotate_left
        · first | (intro w hSw; (try dsimp only at hSw); go_simp; done) | (intro w hSw; (try dsimp only at hSw); go_simp; with_reducible rfl)
        try simp only [Act.put, List.setIfInBounds_toArray, List.set_cons_zero, List.set_cons_succ, List.getElem_toArray, List.getElem_cons_succ, List.getElem_cons_zero]
        refine wpAnyH_take (i := 9) (oi := _) (v := ?_) rfl (by kernel_rfl) (by kernel_rfl) (by kernel_rfl) (fun _ _ _ h => h) (Or.inl ⟨by rfl, ?_⟩) (by assumption) ?_
        rotate_left
        · first | (intro w hSw; (try dsimp only at hSw); go_simp; done) | (intro w hSw; (try dsimp only at hSw); go_simp; with_reducible rfl)
        try simp only [Act.put, List.setIfInBounds_toArray, List.set_cons_zero, List.set_cons_succ, List.getElem_toArray, List.getElem_cons_succ, List.getElem_cons_zero]
        refine wpAnyH_take (i := 10) (oi := _) (v := ?_) rfl (by kernel_rfl) (by kernel_rfl) (by kernel_rfl) (fun _ _ _ h => h) (Or.inl ⟨by rfl, ?_⟩) (by assumption) ?_
        rotate_left
        · first | (intro w hSw; (try dsimp only at hSw); go_simp; done) | (intro w hSw; (try dsimp only at hSw); go_simp; with_reducible rfl)
        try simp only [Act.put, List.setIfInBounds_toArray, List.set_cons_zero, List.set_cons_succ, List.getElem_toArray, List.getElem_cons_succ, List.getElem_cons_zero]
        refine wpAnyH_ready (rs := [5]) (by kernel_rfl) (by simp) ?_
        refine AllReadyH.cons rfl (fun K hK => ?_) AllReadyH.nil
        go_simp
        go_wp2_with (go_at_call 37; refine (E1.out _ (Below.refl _ _).drew).mono ?_; rintro e w5 ⟨rfl, b1⟩)
        have F5 : Hid (Below wr.heap.size wr w5) := bT (Below.refl _ _).drew b1
        clear b1
        refine hK.out _ _ ?_ (fun hHeld => ?_)
        · exact KX.out _ F5.out
        clear hK K
        refine wpAnyH_ready (rs := [11]) (by kernel_rfl) (by simp) ?_
        refine AllReadyH.cons rfl (fun K hK => ?_) AllReadyH.nil
        go_simp
        go_wp2_with (go_at_call 37; refine (E2.out _ F5.out).mono ?_; rintro e w6 ⟨rfl, b1⟩)
        have F6 : Hid (Below wr.heap.size wr w6) := bT F5.out b1
        clear b1
        refine hK.out _ _ ?_ (fun hHeld => ?_)
        · exact KX.out _ F6.out
        clear hK K
        refine wpAnyH_take (i := 12) (oi := _) (v := ?_) rfl (by kernel_rfl) (by kernel_rfl) (by kernel_rfl) (fun _ _ _ h => h) (Or.inl ⟨by rfl, ?_⟩) (by assumption) ?_
        rotate_left
        · first | (intro w hSw; (try dsimp only at hSw); go_simp; done) | (intro w hSw; (try dsimp only at hSw); go_simp; with_reducible rfl)
        try simp only [Act.put, List.setIfInBounds_toArray, List.set_cons_zero, List.set_cons_succ, List.getElem_toArray, List.getElem_cons_succ, List.getElem_cons_zero]
        refine wpAnyH_done (by kernel_rfl) ?_ _

        have D9 := Lib.hid (bT H2.out F6.out)
        go_wp2_with fail
        go_roundw
        case rel => exact ⟨k + 1, by go_num, by omega, HS, D9⟩
        case measure => simp [intOf]; omega
      · have HF := M2.out g
        subst HF
        have hb : (ub.toList == vb.toList) = false := by rw [hb0]; simpa using g
        clear S2 M2 hb0 g YY N1 N2 HZ HY HP HQ HR HRR HLL HKK HN HM
        clear c0 c1 c3 d0 d1 d3 q0 q1 qf
        go_wp2_with fail
        clear p0 p1 pf
        refine wp_region_held_drew (S := fun W => w.heap.size < W.heap.size ∧ w.heap.size + 1 < W.heap.size ∧ W.cell? ⟨w.heap.size, 0, none⟩ = some (.slice (some ⟨c, o, none⟩) n cap) ∧ W.cell? ⟨w.heap.size + 1, 0, none⟩ = some (.slice (some ⟨c2, o2, none⟩) n cap') ∧ c < W.heap.size ∧ c2 < W.heap.size ∧ W.cell? ⟨c, o + k * 3, none⟩ = some (.int .i64 a) ∧ W.cell? ⟨c, o + k * 3 + 1, none⟩ = some (.int .i64 b) ∧ W.cell? ⟨c, o + k * 3 + 2, none⟩ = some (.slice s1 x1 k1) ∧ W.cell? ⟨c2, o2 + k * 3, none⟩ = some (.int .i64 a') ∧ W.cell? ⟨c2, o2 + k * 3 + 1, none⟩ = some (.int .i64 b') ∧ W.cell? ⟨c2, o2 + k * 3 + 2, none⟩ = some (.slice s2 x2 k2)) (by kernel_rfl) ?_ (fun hHeld => ?_)
        · exact KX.out _ (Below.refl _ _).drew
        refine wpAnyH_take (i := 0) (oi := _) (v := ?_) rfl (by kernel_rfl) (by kernel_rfl) (by kernel_rfl) (fun _ _ _ h => h) (Or.inl ⟨by rfl, ?_⟩) (by assumption) ?_
        rotate_left
        · first | (intro w hSw; (try dsimp only at hSw); go_simp; done) | (intro w hSw; (try dsimp only at hSw); go_simp; with_reducible rfl)
        try simp only [Act.put, List.setIfInBounds_toArray, List.set_cons_zero, List.set_cons_succ, List.getElem_toArray, List.getElem_cons_zero]
        refine wpAnyH_take (i := 1) (oi := _) (v := ?_) rfl (by kernel_rfl) (by kernel_rfl) (by kernel_rfl) (fun _ _ _ h => h) (Or.inl ⟨by rfl, ?_⟩) (by assumption) ?_
        rotate_left
        · first | (intro w hSw; (try dsimp only at hSw); go_simp; done) | (intro w hSw; (try dsimp only at hSw); go_simp; with_reducible rfl)
        try simp only [Act.put, List.setIfInBounds_toArray, List.set_cons_zero, List.set_cons_succ, List.getElem_toArray, List.getElem_cons_succ, List.getElem_cons_zero]
        refine wpAnyH_take (i := 2) (oi := _) (v := ?_) rfl (by kernel_rfl) (by kernel_rfl) (by kernel_rfl) (fun _ _ _ h => h) (Or.inl ⟨by rfl, ?_⟩) (by assumption) ?_
        rotate_left
        · first | (intro w hSw; (try dsimp only at hSw); go_simp; done) | (intro w hSw; (try dsimp only at hSw); go_simp; with_reducible rfl)
        try simp only [Act.put, List.setIfInBounds_toArray, List.set_cons_zero, List.set_cons_succ, List.getElem_toArray, List.getElem_cons_succ, List.getElem_cons_zero]
        refine wpAnyH_take (i := 3) (oi := _) (v := ?_) rfl (by kernel_rfl) (by kernel_rfl) (by kernel_rfl) (fun _ _ _ h => h) (Or.inl ⟨by rfl, ?_⟩) (by assumption) ?_
        rotate_left
        · first | (intro w hSw; (try dsimp only at hSw); go_simp; done) | (intro w hSw; (try dsimp only at hSw); go_simp; with_reducible rfl)
        try simp only [Act.put, List.setIfInBounds_toArray, List.set_cons_zero, List.set_cons_succ, List.getElem_toArray, List.getElem_cons_succ, List.getElem_cons_zero]
        refine wpAnyH_take (i := 4) (oi := _) (v := ?_) rfl (by kernel_rfl) (by kernel_rfl) (by kernel_rfl) (fun _ _ _ h => h) (Or.inl ⟨by rfl, ?_⟩) (by assumption) ?_
        rotate_left
        · first | (intro w hSw; (try dsimp only at hSw); go_simp; done) | (intro w hSw; (try dsimp only at hSw); go_simp; with_reducible rfl)
        try simp only [Act.put, List.setIfInBounds_toArray, List.set_cons_zero, List.set_cons_succ, List.getElem_toArray, List.getElem_cons_succ, List.getElem_cons_zero]
        refine wpAnyH_take (i := 6) (oi := _) (v := ?_) rfl (by kernel_rfl) (by kernel_rfl) (by kernel_rfl) (fun _ _ _ h => h) (Or.inl ⟨by rfl, ?_⟩) (by assumption) ?_
        rotate_left
        · first | (intro w hSw; (try dsimp only at hSw); go_simp; done) | (intro w hSw; (try dsimp only at hSw); go_simp; with_reducible rfl)
        try simp only [Act.put, List.setIfInBounds_toArray, List.set_cons_zero, List.set_cons_succ, List.getElem_toArray, List.getElem_cons_succ, List.getElem_cons_zero]
        refine wpAnyH_take (i := 7) (oi := _) (v := ?_) rfl (by kernel_rfl) (by kernel_rfl) (by kernel_rfl) (fun _ _ _ h => h) (Or.inl ⟨by rfl, ?_⟩) (by assumption) ?_
        rotate_left
        · first | (intro w hSw; (try dsimp only at hSw); go_simp; done) | (intro w hSw; (try dsimp only at hSw); go_simp; with_reducible rfl)
        try simp only [Act.put, List.setIfInBounds_toArray, List.set_cons_zero, List.set_cons_succ, List.getElem_toArray, List.getElem_cons_succ, List.getElem_cons_zero]
        refine wpAnyH_take (i := 8) (oi := _) (v := ?_) rfl (by kernel_rfl) (by kernel_rfl) (by kernel_rfl) (fun _ _ _ h => h) (Or.inl ⟨by rfl, ?_⟩) (by assumption) ?_
        rotate_left
        · first | (intro w hSw; (try dsimp only at hSw); go_simp; done) | (intro w hSw; (try dsimp only at hSw); go_simp; with_reducible rfl)
        try simp only [Act.put, List.setIfInBounds_toArray, List.set_cons_zero, List.set_cons_succ, List.getElem_toArray, List.getElem_cons_succ, List.getElem_cons_zero]
        refine wpAnyH_take (i := 9) (oi := _) (v := ?_) rfl (by kernel_rfl) (by kernel_rfl) (by kernel_rfl) (fun _ _ _ h => h) (Or.inl ⟨by rfl, ?_⟩) (by assumption) ?_
        rotate_left
        · first | (intro w hSw; (try dsimp only at hSw); go_simp; done) | (intro w hSw; (try dsimp only at hSw); go_simp; with_reducible rfl)
        try simp only [Act.put, List.setIfInBounds_toArray, List.set_cons_zero, List.set_cons_succ, List.getElem_toArray, List.getElem_cons_succ, List.getElem_cons_zero]
        refine wpAnyH_take (i := 10) (oi := _) (v := ?_) rfl (by kernel_rfl) (by kernel_rfl) (by kernel_rfl) (fun _ _ _ h => h) (Or.inl ⟨by rfl, ?_⟩) (by assumption) ?_
        rotate_left
        · first | (intro w hSw; (try dsimp only at hSw); go_simp; done) | (intro w hSw; (try dsimp only at hSw); go_simp; with_reducible rfl)
        try simp only [Act.put, List.setIfInBounds_toArray, List.set_cons_zero, List.set_cons_succ, List.getElem_toArray, List.getElem_cons_succ, List.getElem_cons_zero]
        refine wpAnyH_ready (rs := [5]) (by kernel_rfl) (by simp) ?_
        refine AllReadyH.cons rfl (fun K hK => ?_) AllReadyH.nil
        go_simp
        go_wp2_with (go_at_call 37; refine (E1.out _ (Below.refl _ _).drew).mono ?_; rintro e w5 ⟨rfl, b1⟩)
        have F5 : Hid (Below wr.heap.size wr w5) := bT (Below.refl _ _).drew b1
        clear b1
        refine hK.out _ _ ?_ (fun hHeld => ?_)
        · exact KX.out _ F5.out
        clear hK K
        refine wpAnyH_ready (rs := [11]) (by kernel_rfl) (by simp) ?_
        refine AllReadyH.cons rfl (fun K hK => ?_) AllReadyH.nil
        go_simp
        go_wp2_with (go_at_call 37; refine (E2.out _ F5.out).mono ?_; rintro e w6 ⟨rfl, b1⟩)
        have F6 : Hid (Below wr.heap.size wr w6) := bT F5.out b1
        clear b1
        refine hK.out _ _ ?_ (fun hHeld => ?_)
        · exact KX.out _ F6.out
        clear hK K
        refine wpAnyH_take (i := 12) (oi := _) (v := ?_) rfl (by kernel_rfl) (by kernel_rfl) (by kernel_rfl) (fun _ _ _ h => h) (Or.inl ⟨by rfl, ?_⟩) (by assumption) ?_
        rotate_left
        · first | (intro w hSw; (try dsimp only at hSw); go_simp; done) | (intro w hSw; (try dsimp only at hSw); go_simp; with_reducible rfl)
        try simp only [Act.put, List.setIfInBounds_toArray, List.set_cons_zero, List.set_cons_succ, List.getElem_toArray, List.getElem_cons_succ, List.getElem_cons_zero]
        refine wpAnyH_done (by kernel_rfl) ?_ _

        have D9 := Lib.hid (bT H3.out F6.out)
        go_wp2_with fail
        go_ret
        exact ⟨rfl, D9.out⟩
    · have h1' : ¬ (k : Int) < (n : Int) := by omega
      have Y2 := Lib.hid (fun j hj g => YY.out k j (by omega) H1.out hj g)
      clear H1 m0 m1 q0 q1 qf ql YY N1 HZ HY HR HRR HLL
      go_wp2
      clear p0 p1 pf pl
      go_loopw [6] (fun i wv => ∃ j : Nat, i = .int .i64 j ∧ j ≤ m ∧ Hid (SameA ps ps' j) ∧ Hid (Below w0.heap.size w0 wv)) (fun i _ => m - (intOf i).toNat)
      case atStart => exact ⟨0, rfl, Nat.zero_le _, SameA.zero _ _, H2⟩
      case round =>
        clear H2 H3
        obtain ⟨j, rfl, hj, H1, H2⟩ := hrel
        have hj0 : (0 : Int) ≤ (j : Int) := by omega
        have H3 := Lib.hid (bT B0.out H2.out)
        obtain ⟨m0, m1⟩ := KA.out wr (by rw [← hS]; exact H2.out)
        obtain ⟨p0, p1, pf, pl⟩ := cells2T m0
        obtain ⟨q0, q1, qf, ql⟩ := cells2T m1
        by_cases h2 : j < m
        · have h2' : (j : Int) < (m : Int) := by omega
          have hlt : j < ps.length := by rw [HM.out]; exact h2
          have hlt2 : j < ps'.length := by rw [← HKK.out]; exact h2
          obtain ⟨c, o, rfl, ZI⟩ : ∃ c o, tl = some ⟨c, o, none⟩ ∧ PrAt w c o ps := by
            rcases HP.out with e | h
            · rw [e] at hlt; simp at hlt
            · exact h
          obtain ⟨c2, o2, rfl, YI⟩ : ∃ c o, tl' = some ⟨c, o, none⟩ ∧ PrAt w c o ps' := by
            rcases HQ.out with e | h
            · rw [e] at hlt2; simp at hlt2
            · exact h
          obtain ⟨c0, c1, c3⟩ := (ZI.below H3.out).cell j hlt
          obtain ⟨d0, d1, d3⟩ := (YI.below H3.out).cell j hlt2
          have cl := (ZI.below H3.out).lt
          have dl := (YI.below H3.out).lt
          have GE : ps[j]? = some ps[j] := List.getElem?_eq_getElem hlt
          have GF : ps'[j]? = some ps'[j] := List.getElem?_eq_getElem hlt2
          have M1 := Lib.hid (N2.out j)
          have S1 := Lib.hid (fun g => SameA.step (k := j) H1.out g)
          rw [GE, GF] at M1 S1
          obtain ⟨a, b, q, hp⟩ : ∃ a b c, ps[j] = (a, b, c) := ⟨_, _, _, rfl⟩
          obtain ⟨x, y, z, hq⟩ : ∃ a b c, ps'[j] = (a, b, c) := ⟨_, _, _, rfl⟩
          rw [hp] at c0 c1 c3 M1 S1
          rw [hq] at d0 d1 d3 M1 S1
          dsimp only at c0 c1 c3 d0 d1 d3
          have hgt : Tryz.prog.eqGuardType Tryz.prog.depth 71 = false := by kernel_rfl
          have hnq := ne71 a b q x y z
          clear hp hq hlt hlt2 ZI YI GE GF H1 m0 m1
          by_cases e : a = x ∧ b = y ∧ q = z
          · have hb : (!(a == x && b == y && q == z)) = false := by simp [e.1, e.2.1, e.2.2]
            rw [hb] at hnq
            have HS := Lib.hid (S1.out (by rw [e.1, e.2.1, e.2.2]))
            clear hb e M1 S1 Y2 N2
            go_wp2
            go_quiet (fail)
            go_wp2
            go_roundw
            case rel => exact ⟨j + 1, by go_num, by omega, HS, below_drewN H2.out _⟩
            case measure => simp [intOf]; omega
          · have hb : (!(a == x && b == y && q == z)) = true := by
              simp only [Bool.not_eq_true', Bool.and_eq_false_iff, beq_eq_false_iff_ne, ne_eq]
              by_cases i1 : a = x <;> by_cases i2 : b = y <;> by_cases i3 : q = z <;> simp_all
            rw [hb] at hnq
            have HF := M1.out (fun h => e (by simpa using h))
            subst HF
            clear hb e M1 S1 Y2 N2
            go_wp2
            go_quiet (fail)
            go_wp2
            go_ret
            exact ⟨rfl, below_drewN H3.out _⟩
        · have h2' : ¬ (j : Int) < (m : Int) := by omega
          have HE := Y2.out j (by omega) H1.out
          subst HE
          clear Y2 N2 H1 m0 m1
          go_wp2
          go_ret
          exact ⟨rfl, H3.out⟩

end Go.Proofs.YtdbebcigikbjgaaGreat
