/-
  A RECORD's BYTES: what is written, and the program's writers.
-/
import Derived.Test.YtnkdkbchendpmaaDoorNb
import Derived.Test.YtnkdkbchendpmaaDoorSa
import Derived.Lib.OthersKept
import Derived.Deep.RegionHeld3
namespace Go.Proofs.YtnkdkbchendpmaaDoor
open Go.RowKit
set_option linter.unusedVariables false

/-- A number of either sign as one from 0 on. -/
def signN (z : Int) : Nat := if z < 0 then (-2 * z - 1).toNat else (2 * z).toNat
def numsB (zs : List Int) : List UInt8 := (zs.map fun z => numB (signN z)).flatten
def bodyB (k : Int) (zs : List Int) : List UInt8 := numB k.toNat ++ numB zs.length ++ numsB zs
def fourB (n : Nat) : List UInt8 := [(n / 16777216 % 256).toUInt8, (n / 65536 % 256).toUInt8, (n / 256 % 256).toUInt8, (n % 256).toUInt8]
def lenB (b : List UInt8) : List UInt8 := numB b.length ++ b
def recB (k : Int) (zs : List Int) : List UInt8 := [82] ++ lenB (bodyB k zs) ++ fourB (sumL (lenB (bodyB k zs)))
def recT (k : Int) (zs : List Int) : List UInt8 := if recR k zs then recB k zs else []

theorem signN_lt {z : Int} (h : isN z = true) : signN z < 18014398509481985 := by
  simp only [isN, decide_eq_true_eq] at h
  unfold signN
  split <;> omega
theorem numsB_take (zs : List Int) (j : Nat) (h : j < zs.length) : numsB (zs.take (j + 1)) = numsB (zs.take j) ++ numB (signN (zs.getD j 0)) := by
  unfold numsB
  rw [List.take_succ_eq_append_getElem h, List.map_append, List.flatten_append]
  simp [h]
theorem numsB_len (zs : List Int) (h : zs.all isN = true) : (numsB zs).length ≤ 8 * zs.length := by
  induction zs with
  | nil => simp [numsB]
  | cons z r ih =>
    simp only [List.all_cons, Bool.and_eq_true] at h
    have h1 := signN_lt h.1
    have h2 := numB_len (signN z) 7 (by omega)
    have h3 := ih h.2
    have e : numsB (z :: r) = numB (signN z) ++ numsB r := by simp [numsB]
    rw [e]; simp; omega
theorem recR_parts {k : Int} {zs : List Int} (h : recR k zs = true) : 1 ≤ k ∧ k ≤ 100 ∧ zs.length ≤ 60 ∧ zs.all isN = true := by
  simp only [recR, Bool.and_eq_true, decide_eq_true_eq] at h
  exact ⟨h.1.1, h.1.2, h.2.1, h.2.2⟩
theorem body_len {k : Int} {zs : List Int} (h : recR k zs = true) : 2 ≤ (bodyB k zs).length ∧ (bodyB k zs).length ≤ 482 := by
  obtain ⟨h1, h2, h3, h4⟩ := recR_parts h
  have a := numB_len k.toNat 0 (by omega)
  have b := numB_len zs.length 0 (by omega)
  have c := numsB_len zs h4
  simp only [bodyB, List.length_append]; omega
theorem lenB_len {k : Int} {zs : List Int} (h : recR k zs = true) : 3 ≤ (lenB (bodyB k zs)).length ∧ (lenB (bodyB k zs)).length ≤ 484 := by
  have := body_len h
  have b := numB_len (bodyB k zs).length 1 (by omega)
  simp only [lenB, List.length_append]; omega

theorem RAt.kept {t : TypeId} {w w' : World} {c b : Nat} {k : Int} {sl : Option Addr} {n cap : Nat} (h : RAt t w c k sl n cap) (ht : t ≠ 5) (hk : Lib.OthersKept 5 (some b) w w') (hc : c ≠ b) : RAt t w' c k sl n cap :=
  hk c _ h (fun e => hc (Option.some.inj e)) (fun _ _ e => by cases e; exact ht rfl)
theorem WrAt.alloc {B b : Nat} {l : List UInt8} {w : World} (h : WrAt B b l w) (o : Obj) : WrAt B b l (w.alloc o) := LibA.IsBuffer.alloc h o
theorem WrAt.lt {B b : Nat} {l : List UInt8} {w : World} (h : WrAt B b l w) : b < w.heap.size := LibA.IsBuffer.lt h

set_option maxHeartbeats 1000000 in
theorem sign_any (B b : Nat) (l : List UInt8) (z : Int) (w : World) (h : WrAt B b l w) (hB : B ≤ w.heap.size) (hl : l.length ≤ 900000) (hz : isN z = true) :
    Calls Tryd.prog 60 #[.pointer (some ⟨b, 0, none⟩), .int .i64 z] w fun e w' => e = .returned (.tuple #[]) ∧ WrAt B b (l ++ numB (signN z)) w' ∧ Below B w w' ∧ Lib.OthersKept 5 (some b) w w' := by
  have hlt := signN_lt hz
  simp only [isN, decide_eq_true_eq] at hz
  by_cases h0 : z < 0
  · have K : Hid (∀ w, WrAt B b l w → B ≤ w.heap.size → Calls Tryd.prog 46 #[.pointer (some ⟨b, 0, none⟩), .int .i64 (-2 * z - 1)] w fun e w' => e = .returned (.tuple #[]) ∧ WrAt B b (l ++ numB (signN z)) w' ∧ Below B w w' ∧ Lib.OthersKept 5 (some b) w w') := by
      intro w h hB
      have := num_any B b l (signN z) w h hB hl (by omega)
      rwa [show ((signN z : Nat) : Int) = -2 * z - 1 by unfold signN; rw [if_pos h0]; omega] at this
    have HW : Hid (WrAt B b l w) := h
    clear h hlt
    go_enter Tryd.func60, Tryd.ntmps60
    go_wp2_with fail
    refine (K.out _ HW.out hB).mono ?_
    rintro e w1 ⟨rfl, h1⟩
    have F := Lib.hid h1
    clear h1
    go_wp2
    exact bodyPost_ret (v := .tuple #[]) (by simp [results, Tryd.results60, go_sem]) rfl ⟨rfl, F.out⟩
  · have K : Hid (∀ w, WrAt B b l w → B ≤ w.heap.size → Calls Tryd.prog 46 #[.pointer (some ⟨b, 0, none⟩), .int .i64 (2 * z)] w fun e w' => e = .returned (.tuple #[]) ∧ WrAt B b (l ++ numB (signN z)) w' ∧ Below B w w' ∧ Lib.OthersKept 5 (some b) w w') := by
      intro w h hB
      have := num_any B b l (signN z) w h hB hl (by omega)
      rwa [show ((signN z : Nat) : Int) = 2 * z by unfold signN; rw [if_neg h0]; omega] at this
    have HW : Hid (WrAt B b l w) := h
    clear h hlt
    go_enter Tryd.func60, Tryd.ntmps60
    go_wp2_with fail
    refine (K.out _ HW.out hB).mono ?_
    rintro e w1 ⟨rfl, h1⟩
    have F := Lib.hid h1
    clear h1
    go_wp2
    first | go_end0 | go_ret | go_ret2
    exact ⟨rfl, F.out⟩

theorem wrap8n (q : Nat) : IntKind.u8.wrap (q : Int) = ((q % 256 : Nat) : Int) := by rw [IntKind.wrap_u8]; omega
theorem WrAt.drew {B b : Nat} {l : List UInt8} {w : World} (h : WrAt B b l w) : WrAt B b l w.drew := h
theorem WrAt.wq {B b : Nat} {l : List UInt8} {w : World} (h : WrAt B b l w) (hB : B ≤ w.heap.size) (hl : l.length ≤ 1000000) (c : Int) (q : Nat) (e : c = (q : Int)) :
    Calls Tryd.prog 38 #[.pointer (some ⟨b, 0, none⟩), .int .u8 (IntKind.u8.wrap c)] w.drew fun e w' => e = .returned .nilIface ∧ WrAt B b (l ++ [(q % 256).toUInt8]) w' ∧ Below B w w' ∧ Lib.OthersKept 5 (some b) w w' := by
  rw [e, wrap8n]
  have := h.drew.wb hB hl ((q % 256 : Nat) : Int) (by omega) (by omega)
  rw [Int.toNat_natCast] at this
  exact this.mono fun e w' ⟨h1, h2, h3, h4⟩ => ⟨h1, h2, (Below.refl B w).drew.trans h3, (Lib.OthersKept.refl _ _ w).drew.trans h4⟩

set_option maxHeartbeats 1000000 in
theorem four_any (B b : Nat) (l : List UInt8) (x : Nat) (w : World) (h : WrAt B b l w) (hB : B ≤ w.heap.size) (hl : l.length ≤ 900000) (hx : x < 4294967296) :
    Calls Tryd.prog 40 #[.pointer (some ⟨b, 0, none⟩), .int .i64 x] w fun e w' => e = .returned (.tuple #[]) ∧ WrAt B b (l ++ fourB x) w' ∧ Below B w w' ∧ Lib.OthersKept 5 (some b) w w' := by
  have HW : Hid (WrAt B b l w) := h
  clear h
  go_enter Tryd.func40, Tryd.ntmps40
  go_wp2
  refine wp_loop_rounds 5 ?_
  rw [rounds_succ]
  go_wp2_with fail
  go_region_held3 (fun _ => True) (first | exact True.intro) (first | (go_at_call 38; refine (HW.out.wq hB (by omega) _ (x / 16777216) (by omega)).mono ?_; rintro e w1 ⟨rfl, h1, b1, k1⟩))
  rename_i hHeld
  have L1 : (l ++ [(x / 16777216 % 256).toUInt8]).length ≤ 1000000 := by simp; omega
  have H1 : Hid (WrAt B b (l ++ [(x / 16777216 % 256).toUInt8]) w1 ∧ Below B w w1 ∧ Lib.OthersKept 5 (some b) w w1) := ⟨h1, b1, k1⟩
  have s1 := Nat.le_trans hB b1.size
  clear hHeld h1 b1 k1 HW
  go_wp2
  rw [rounds_succ]
  go_wp2_with fail
  go_region_held3 (fun _ => True) (first | exact True.intro) (first | (go_at_call 38; refine (H1.out.1.wq s1 L1 _ (x / 65536) (by omega)).mono ?_; rintro e w2 ⟨rfl, h1, b1, k1⟩))
  rename_i hHeld
  have L2 : (l ++ [(x / 16777216 % 256).toUInt8] ++ [(x / 65536 % 256).toUInt8]).length ≤ 1000000 := by simp; omega
  have H2 : Hid (WrAt B b (l ++ [(x / 16777216 % 256).toUInt8] ++ [(x / 65536 % 256).toUInt8]) w2 ∧ Below B w w2 ∧ Lib.OthersKept 5 (some b) w w2) := ⟨h1, H1.out.2.1.trans b1, H1.out.2.2.trans k1⟩
  have s2 := Nat.le_trans s1 b1.size
  clear hHeld h1 b1 k1 H1
  go_wp2
  rw [rounds_succ]
  go_wp2_with fail
  go_region_held3 (fun _ => True) (first | exact True.intro) (first | (go_at_call 38; refine (H2.out.1.wq s2 L2 _ (x / 256) (by omega)).mono ?_; rintro e w3 ⟨rfl, h1, b1, k1⟩))
  rename_i hHeld
  have L3 : (l ++ [(x / 16777216 % 256).toUInt8] ++ [(x / 65536 % 256).toUInt8] ++ [(x / 256 % 256).toUInt8]).length ≤ 1000000 := by simp; omega
  have H3 : Hid (WrAt B b (l ++ [(x / 16777216 % 256).toUInt8] ++ [(x / 65536 % 256).toUInt8] ++ [(x / 256 % 256).toUInt8]) w3 ∧ Below B w w3 ∧ Lib.OthersKept 5 (some b) w w3) := ⟨h1, H2.out.2.1.trans b1, H2.out.2.2.trans k1⟩
  have s3 := Nat.le_trans s2 b1.size
  clear hHeld h1 b1 k1 H2
  go_wp2
  rw [rounds_succ]
  go_wp2_with fail
  go_region_held3 (fun _ => True) (first | exact True.intro) (first | (go_at_call 38; refine (H3.out.1.wq s3 L3 _ x (by omega)).mono ?_; rintro e w4 ⟨rfl, h1, b1, k1⟩))
  rename_i hHeld
  have H4 : Hid (WrAt B b (l ++ fourB x) w4 ∧ Below B w w4 ∧ Lib.OthersKept 5 (some b) w w4) := ⟨by have := h1; simpa [fourB] using this, H3.out.2.1.trans b1, H3.out.2.2.trans k1⟩
  clear hHeld h1 b1 k1 H3
  go_wp2
  rw [rounds_succ]
  go_wp2
  first | go_end0 | go_ret | go_ret2
  exact ⟨rfl, H4.out⟩

end Go.Proofs.YtnkdkbchendpmaaDoor
