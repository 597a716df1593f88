/-
  A PAIR AND A STATION AS TEXT, AS THE MODEL TELLS THEM: spec.l04PairText, spec.l04StationText.
-/
import Derived.Test.YtdndhhkpbcpalaaDoorCa
import Derived.Test.YtdndhhkpbcpalaaDoorAg
namespace Go.Proofs.YtdndhhkpbcpalaaDoor
open Go.RowKit
set_option linter.unusedVariables false

/-- The word of a pair. -/
def pwB (q : Int) : List UInt8 := if q = 2 then [98, 101, 115, 105, 100, 101] else [115, 97, 109, 101]
def pairB (p : LPr) : List UInt8 := pwB p.2.2 ++ [p.1, p.2.1].flatMap numB
def statB (i s : Int) (zs : List Int) : List UInt8 := [115, 116, 97, 116, 105, 111, 110] ++ ([i, s] ++ zs).flatMap numB
set_option maxRecDepth 100000 in
set_option maxHeartbeats 2000000 in
theorem pt_two (a b q : Int) (w : World) (ha : -1000000000000000 ≤ a ∧ a ≤ 1000000000000000) (hb : -1000000000000000 ≤ b ∧ b ≤ 1000000000000000) (hq : q = 2) :
    Calls Tryd.prog 19 #[.agg #[.int .i64 a, .int .i64 b, .int .i64 q]] w fun e w' => e = .returned (.string ⟨([98, 101, 115, 105, 100, 101, 32] ++ Lib.itoa a ++ [32] ++ Lib.itoa b).toArray⟩) ∧ Below w.heap.size w w' := by
  have E1 := Lib.hid (fun W => dec_any a ha W)
  have E2 := Lib.hid (fun W => dec_any b hb W)
  have hd1 := itoa_mid a ha
  have hd2 := itoa_mid b hb
  have hq' : (q == 2) = true := beq_iff_eq.2 hq
  have B0 := Lib.hid (bA0 w (.cells #[.int .i64 a, .int .i64 b, .int .i64 q] 47))
  have KB : Hid (∀ W, Below (w.alloc (.cells #[.int .i64 a, .int .i64 b, .int .i64 q] 47)).heap.size (w.alloc (.cells #[.int .i64 a, .int .i64 b, .int .i64 q] 47)) W → w.heap.size < W.heap.size ∧ W.cell? ⟨w.heap.size, 0, none⟩ = some (.int .i64 a) ∧ W.cell? ⟨w.heap.size, 1, none⟩ = some (.int .i64 b) ∧ W.cell? ⟨w.heap.size, 2, none⟩ = some (.int .i64 q)) := fun W hW => by
    obtain ⟨c0, c1, c2, c3⟩ := ((PAt.new w a b q).below hW).cells
    exact ⟨c3, c0, c1, c2⟩
  generalize Lib.itoa a = d1 at *
  generalize Lib.itoa b = d2 at *
  have s1 : ¬ 9223372036854775807 < 7 + d1.length := by omega
  have s2 : ¬ 9223372036854775807 < 7 + d1.length + 1 := by omega
  have s3 : ¬ 9223372036854775807 < 7 + d1.length + 1 + d2.length := by omega
  clear ha hb hq
  go_enter Tryd.func19, Tryd.ntmps19
  go_wp2_with fail
  generalize w.alloc (.cells #[.int .i64 a, .int .i64 b, .int .i64 q] 47) = w0 at *
  refine wp_region_held_drew (S := fun W => w.heap.size < W.heap.size ∧ W.cell? ⟨w.heap.size, 0, none⟩ = some (.int .i64 a) ∧ W.cell? ⟨w.heap.size, 1, none⟩ = some (.int .i64 b) ∧ W.cell? ⟨w.heap.size, 2, none⟩ = some (.int .i64 q)) (by kernel_rfl) ?_ (fun hHeld => ?_)
  · exact KB.out _ (Below.refl _ _).drew
  refine wpAnyH_take (i := 0) (oi := _) (v := ?_) rfl (by kernel_rfl) (by kernel_rfl) (by kernel_rfl) (fun _ _ _ h => h) (Or.inl ⟨by rfl, ?_⟩) (by assumption) ?_
  rotate_left
  · first | (intro w hSw; (try dsimp only at hSw); go_simp; done) | (intro w hSw; (try dsimp only at hSw); go_simp; with_reducible rfl)
  try simp only [Act.put, List.setIfInBounds_toArray, List.set_cons_zero, List.set_cons_succ, List.getElem_toArray, List.getElem_cons_zero]
  refine wpAnyH_take (i := 1) (oi := _) (v := ?_) rfl (by kernel_rfl) (by kernel_rfl) (by kernel_rfl) (fun _ _ _ h => h) (Or.inl ⟨by rfl, ?_⟩) (by assumption) ?_
  rotate_left
  · first | (intro w hSw; (try dsimp only at hSw); go_simp; done) | (intro w hSw; (try dsimp only at hSw); go_simp; with_reducible rfl)
  try simp only [Act.put, List.setIfInBounds_toArray, List.set_cons_zero, List.set_cons_succ, List.getElem_toArray, List.getElem_cons_succ, List.getElem_cons_zero]
  refine wpAnyH_take (i := 2) (oi := _) (v := ?_) rfl (by kernel_rfl) (by kernel_rfl) (by kernel_rfl) (fun _ _ _ h => h) (Or.inl ⟨by rfl, ?_⟩) (by assumption) ?_
  rotate_left
  · first | (intro w hSw; (try dsimp only at hSw); go_simp; done) | (intro w hSw; (try dsimp only at hSw); go_simp; with_reducible rfl)
  try simp only [Act.put, List.setIfInBounds_toArray, List.set_cons_zero, List.set_cons_succ, List.getElem_toArray, List.getElem_cons_succ, List.getElem_cons_zero]
  refine wpAnyH_take (i := 6) (oi := _) (v := ?_) rfl (by kernel_rfl) (by kernel_rfl) (by kernel_rfl) (fun _ _ _ h => h) (Or.inl ⟨by rfl, ?_⟩) (by assumption) ?_
  rotate_left
  · first | (intro w hSw; (try dsimp only at hSw); go_simp; done) | (intro w hSw; (try dsimp only at hSw); go_simp; with_reducible rfl)
  try simp only [Act.put, List.setIfInBounds_toArray, List.set_cons_zero, List.set_cons_succ, List.getElem_toArray, List.getElem_cons_succ, List.getElem_cons_zero]
  refine wpAnyH_take (i := 7) (oi := _) (v := ?_) rfl (by kernel_rfl) (by kernel_rfl) (by kernel_rfl) (fun _ _ _ h => h) (Or.inl ⟨by rfl, ?_⟩) (by assumption) ?_
  rotate_left
  · first | (intro w hSw; (try dsimp only at hSw); go_simp; done) | (intro w hSw; (try dsimp only at hSw); go_simp; with_reducible rfl)
  try simp only [Act.put, List.setIfInBounds_toArray, List.set_cons_zero, List.set_cons_succ, List.getElem_toArray, List.getElem_cons_succ, List.getElem_cons_zero]
  refine wpAnyH_ready (rs := [3]) (by kernel_rfl) (by simp) ?_
  refine AllReadyH.cons rfl (fun K hK => ?_) AllReadyH.nil
  go_simp
  go_wp2_with (go_at_call 31; refine (E1.out _).mono ?_; rintro e w2 ⟨rfl, b1⟩)
  have F2 : Hid (Below w0.heap.size w0 w2) := bT (Below.refl w0.heap.size w0).drew b1
  clear b1
  refine hK.out _ _ ?_ (fun hHeld => ?_)
  · exact KB.out _ F2.out
  clear hK K
  refine wpAnyH_take (i := 4) (oi := _) (v := ?_) rfl (by kernel_rfl) (by kernel_rfl) (by kernel_rfl) (fun _ _ _ h => h) (Or.inl ⟨by rfl, ?_⟩) (by assumption) ?_
  rotate_left
  · first | (intro w hSw; (try dsimp only at hSw); go_simp; done) | (intro w hSw; (try dsimp only at hSw); go_simp; with_reducible rfl)
  try simp only [Act.put, List.setIfInBounds_toArray, List.set_cons_zero, List.set_cons_succ, List.getElem_toArray, List.getElem_cons_succ, List.getElem_cons_zero]
  refine wpAnyH_take (i := 5) (oi := _) (v := ?_) rfl (by kernel_rfl) (by kernel_rfl) (by kernel_rfl) (fun _ _ _ h => h) (Or.inl ⟨by rfl, ?_⟩) (by assumption) ?_
  rotate_left
  · first | (intro w hSw; (try dsimp only at hSw); go_simp; done) | (intro w hSw; (try dsimp only at hSw); go_simp; with_reducible rfl)
  try simp only [Act.put, List.setIfInBounds_toArray, List.set_cons_zero, List.set_cons_succ, List.getElem_toArray, List.getElem_cons_succ, List.getElem_cons_zero]
  refine wpAnyH_ready (rs := [8]) (by kernel_rfl) (by simp) ?_
  refine AllReadyH.cons rfl (fun K hK => ?_) AllReadyH.nil
  go_simp
  go_wp2_with (go_at_call 31; refine (E2.out _).mono ?_; rintro e w3 ⟨rfl, b1⟩)
  have F3 : Hid (Below w0.heap.size w0 w3) := bT F2.out b1
  clear b1
  refine hK.out _ _ ?_ (fun hHeld => ?_)
  · exact KB.out _ F3.out
  clear hK K
  refine wpAnyH_take (i := 9) (oi := _) (v := ?_) rfl (by kernel_rfl) (by kernel_rfl) (by kernel_rfl) (fun _ _ _ h => h) (Or.inl ⟨by rfl, ?_⟩) (by assumption) ?_
  rotate_left
  · first | (intro w hSw; (try dsimp only at hSw); go_simp; done) | (intro w hSw; (try dsimp only at hSw); go_simp; with_reducible rfl)
  try simp only [Act.put, List.setIfInBounds_toArray, List.set_cons_zero, List.set_cons_succ, List.getElem_toArray, List.getElem_cons_succ, List.getElem_cons_zero]
  refine wpAnyH_take (i := 10) (oi := _) (v := ?_) rfl (by kernel_rfl) (by kernel_rfl) (by kernel_rfl) (fun _ _ _ h => h) (Or.inl ⟨by rfl, ?_⟩) (by assumption) ?_
  rotate_left
  · first | (intro w hSw; (try dsimp only at hSw); go_simp; done) | (intro w hSw; (try dsimp only at hSw); go_simp; with_reducible rfl)
  try simp only [Act.put, List.setIfInBounds_toArray, List.set_cons_zero, List.set_cons_succ, List.getElem_toArray, List.getElem_cons_succ, List.getElem_cons_zero]
  refine wpAnyH_done (by kernel_rfl) ?_ _
  have e1 : ((⟨#[98, 101, 115, 105, 100, 101, 32]⟩ : ByteArray) ++ ⟨d1.toArray⟩ ++ ⟨#[32]⟩ ++ ⟨d2.toArray⟩) = ⟨([98, 101, 115, 105, 100, 101, 32] ++ d1 ++ [32] ++ d2).toArray⟩ := by
    have h1 := ba_app [98, 101, 115, 105, 100, 101, 32] d1
    have h2 := ba_app ([98, 101, 115, 105, 100, 101, 32] ++ d1) [32]
    have h3 := ba_app ([98, 101, 115, 105, 100, 101, 32] ++ d1 ++ [32]) d2
    rw [← h3, ← h2, ← h1]
  have BB := bT B0.out F3.out
  clear KB E1 E2 F2 F3
  go_wp2
  go_ret
  exact ⟨by rw [e1]; rfl, BB⟩
set_option maxRecDepth 100000 in
set_option maxHeartbeats 2000000 in
theorem pt_one (a b q : Int) (w : World) (ha : -1000000000000000 ≤ a ∧ a ≤ 1000000000000000) (hb : -1000000000000000 ≤ b ∧ b ≤ 1000000000000000) (hq : ¬ q = 2) :
    Calls Tryd.prog 19 #[.agg #[.int .i64 a, .int .i64 b, .int .i64 q]] w fun e w' => e = .returned (.string ⟨([115, 97, 109, 101, 32] ++ Lib.itoa a ++ [32] ++ Lib.itoa b).toArray⟩) ∧ Below w.heap.size w w' := by
  have E1 := Lib.hid (fun W => dec_any a ha W)
  have E2 := Lib.hid (fun W => dec_any b hb W)
  have hd1 := itoa_mid a ha
  have hd2 := itoa_mid b hb
  have hq' : (q == 2) = false := beq_eq_false_iff_ne.2 hq
  have B0 := Lib.hid (bA0 w (.cells #[.int .i64 a, .int .i64 b, .int .i64 q] 47))
  have KB : Hid (∀ W, Below (w.alloc (.cells #[.int .i64 a, .int .i64 b, .int .i64 q] 47)).heap.size (w.alloc (.cells #[.int .i64 a, .int .i64 b, .int .i64 q] 47)) W → w.heap.size < W.heap.size ∧ W.cell? ⟨w.heap.size, 0, none⟩ = some (.int .i64 a) ∧ W.cell? ⟨w.heap.size, 1, none⟩ = some (.int .i64 b) ∧ W.cell? ⟨w.heap.size, 2, none⟩ = some (.int .i64 q)) := fun W hW => by
    obtain ⟨c0, c1, c2, c3⟩ := ((PAt.new w a b q).below hW).cells
    exact ⟨c3, c0, c1, c2⟩
  generalize Lib.itoa a = d1 at *
  generalize Lib.itoa b = d2 at *
  have s1 : ¬ 9223372036854775807 < 5 + d1.length := by omega
  have s2 : ¬ 9223372036854775807 < 5 + d1.length + 1 := by omega
  have s3 : ¬ 9223372036854775807 < 5 + d1.length + 1 + d2.length := by omega
  clear ha hb hq
  go_enter Tryd.func19, Tryd.ntmps19
  go_wp2_with fail
  generalize w.alloc (.cells #[.int .i64 a, .int .i64 b, .int .i64 q] 47) = w0 at *
  refine wp_region_held_drew (S := fun W => w.heap.size < W.heap.size ∧ W.cell? ⟨w.heap.size, 0, none⟩ = some (.int .i64 a) ∧ W.cell? ⟨w.heap.size, 1, none⟩ = some (.int .i64 b) ∧ W.cell? ⟨w.heap.size, 2, none⟩ = some (.int .i64 q)) (by kernel_rfl) ?_ (fun hHeld => ?_)
  · exact KB.out _ (Below.refl _ _).drew
  refine wpAnyH_take (i := 0) (oi := _) (v := ?_) rfl (by kernel_rfl) (by kernel_rfl) (by kernel_rfl) (fun _ _ _ h => h) (Or.inl ⟨by rfl, ?_⟩) (by assumption) ?_
  rotate_left
  · first | (intro w hSw; (try dsimp only at hSw); go_simp; done) | (intro w hSw; (try dsimp only at hSw); go_simp; with_reducible rfl)
  try simp only [Act.put, List.setIfInBounds_toArray, List.set_cons_zero, List.set_cons_succ, List.getElem_toArray, List.getElem_cons_zero]
  refine wpAnyH_take (i := 1) (oi := _) (v := ?_) rfl (by kernel_rfl) (by kernel_rfl) (by kernel_rfl) (fun _ _ _ h => h) (Or.inl ⟨by rfl, ?_⟩) (by assumption) ?_
  rotate_left
  · first | (intro w hSw; (try dsimp only at hSw); go_simp; done) | (intro w hSw; (try dsimp only at hSw); go_simp; with_reducible rfl)
  try simp only [Act.put, List.setIfInBounds_toArray, List.set_cons_zero, List.set_cons_succ, List.getElem_toArray, List.getElem_cons_succ, List.getElem_cons_zero]
  refine wpAnyH_take (i := 2) (oi := _) (v := ?_) rfl (by kernel_rfl) (by kernel_rfl) (by kernel_rfl) (fun _ _ _ h => h) (Or.inl ⟨by rfl, ?_⟩) (by assumption) ?_
  rotate_left
  · first | (intro w hSw; (try dsimp only at hSw); go_simp; done) | (intro w hSw; (try dsimp only at hSw); go_simp; with_reducible rfl)
  try simp only [Act.put, List.setIfInBounds_toArray, List.set_cons_zero, List.set_cons_succ, List.getElem_toArray, List.getElem_cons_succ, List.getElem_cons_zero]
  refine wpAnyH_take (i := 6) (oi := _) (v := ?_) rfl (by kernel_rfl) (by kernel_rfl) (by kernel_rfl) (fun _ _ _ h => h) (Or.inl ⟨by rfl, ?_⟩) (by assumption) ?_
  rotate_left
  · first | (intro w hSw; (try dsimp only at hSw); go_simp; done) | (intro w hSw; (try dsimp only at hSw); go_simp; with_reducible rfl)
  try simp only [Act.put, List.setIfInBounds_toArray, List.set_cons_zero, List.set_cons_succ, List.getElem_toArray, List.getElem_cons_succ, List.getElem_cons_zero]
  refine wpAnyH_take (i := 7) (oi := _) (v := ?_) rfl (by kernel_rfl) (by kernel_rfl) (by kernel_rfl) (fun _ _ _ h => h) (Or.inl ⟨by rfl, ?_⟩) (by assumption) ?_
  rotate_left
  · first | (intro w hSw; (try dsimp only at hSw); go_simp; done) | (intro w hSw; (try dsimp only at hSw); go_simp; with_reducible rfl)
  try simp only [Act.put, List.setIfInBounds_toArray, List.set_cons_zero, List.set_cons_succ, List.getElem_toArray, List.getElem_cons_succ, List.getElem_cons_zero]
  refine wpAnyH_ready (rs := [3]) (by kernel_rfl) (by simp) ?_
  refine AllReadyH.cons rfl (fun K hK => ?_) AllReadyH.nil
  go_simp
  go_wp2_with (go_at_call 31; refine (E1.out _).mono ?_; rintro e w2 ⟨rfl, b1⟩)
  have F2 : Hid (Below w0.heap.size w0 w2) := bT (Below.refl w0.heap.size w0).drew b1
  clear b1
  refine hK.out _ _ ?_ (fun hHeld => ?_)
  · exact KB.out _ F2.out
  clear hK K
  refine wpAnyH_take (i := 4) (oi := _) (v := ?_) rfl (by kernel_rfl) (by kernel_rfl) (by kernel_rfl) (fun _ _ _ h => h) (Or.inl ⟨by rfl, ?_⟩) (by assumption) ?_
  rotate_left
  · first | (intro w hSw; (try dsimp only at hSw); go_simp; done) | (intro w hSw; (try dsimp only at hSw); go_simp; with_reducible rfl)
  try simp only [Act.put, List.setIfInBounds_toArray, List.set_cons_zero, List.set_cons_succ, List.getElem_toArray, List.getElem_cons_succ, List.getElem_cons_zero]
  refine wpAnyH_take (i := 5) (oi := _) (v := ?_) rfl (by kernel_rfl) (by kernel_rfl) (by kernel_rfl) (fun _ _ _ h => h) (Or.inl ⟨by rfl, ?_⟩) (by assumption) ?_
  rotate_left
  · first | (intro w hSw; (try dsimp only at hSw); go_simp; done) | (intro w hSw; (try dsimp only at hSw); go_simp; with_reducible rfl)
  try simp only [Act.put, List.setIfInBounds_toArray, List.set_cons_zero, List.set_cons_succ, List.getElem_toArray, List.getElem_cons_succ, List.getElem_cons_zero]
  refine wpAnyH_ready (rs := [8]) (by kernel_rfl) (by simp) ?_
  refine AllReadyH.cons rfl (fun K hK => ?_) AllReadyH.nil
  go_simp
  go_wp2_with (go_at_call 31; refine (E2.out _).mono ?_; rintro e w3 ⟨rfl, b1⟩)
  have F3 : Hid (Below w0.heap.size w0 w3) := bT F2.out b1
  clear b1
  refine hK.out _ _ ?_ (fun hHeld => ?_)
  · exact KB.out _ F3.out
  clear hK K
  refine wpAnyH_take (i := 9) (oi := _) (v := ?_) rfl (by kernel_rfl) (by kernel_rfl) (by kernel_rfl) (fun _ _ _ h => h) (Or.inl ⟨by rfl, ?_⟩) (by assumption) ?_
  rotate_left
  · first | (intro w hSw; (try dsimp only at hSw); go_simp; done) | (intro w hSw; (try dsimp only at hSw); go_simp; with_reducible rfl)
  try simp only [Act.put, List.setIfInBounds_toArray, List.set_cons_zero, List.set_cons_succ, List.getElem_toArray, List.getElem_cons_succ, List.getElem_cons_zero]
  refine wpAnyH_take (i := 10) (oi := _) (v := ?_) rfl (by kernel_rfl) (by kernel_rfl) (by kernel_rfl) (fun _ _ _ h => h) (Or.inl ⟨by rfl, ?_⟩) (by assumption) ?_
  rotate_left
  · first | (intro w hSw; (try dsimp only at hSw); go_simp; done) | (intro w hSw; (try dsimp only at hSw); go_simp; with_reducible rfl)
  try simp only [Act.put, List.setIfInBounds_toArray, List.set_cons_zero, List.set_cons_succ, List.getElem_toArray, List.getElem_cons_succ, List.getElem_cons_zero]
  refine wpAnyH_done (by kernel_rfl) ?_ _
  have e1 : ((⟨#[115, 97, 109, 101, 32]⟩ : ByteArray) ++ ⟨d1.toArray⟩ ++ ⟨#[32]⟩ ++ ⟨d2.toArray⟩) = ⟨([115, 97, 109, 101, 32] ++ d1 ++ [32] ++ d2).toArray⟩ := by
    have h1 := ba_app [115, 97, 109, 101, 32] d1
    have h2 := ba_app ([115, 97, 109, 101, 32] ++ d1) [32]
    have h3 := ba_app ([115, 97, 109, 101, 32] ++ d1 ++ [32]) d2
    rw [← h3, ← h2, ← h1]
  have BB := bT B0.out F3.out
  clear KB E1 E2 F2 F3
  go_wp2
  go_ret
  exact ⟨by rw [e1]; rfl, BB⟩
/-- spec.l04PairText. -/
theorem pt_any (a b q : Int) (w : World) (ha : -1000000000000000 ≤ a ∧ a ≤ 1000000000000000) (hb : -1000000000000000 ≤ b ∧ b ≤ 1000000000000000) :
    Calls Tryd.prog 19 #[.agg #[.int .i64 a, .int .i64 b, .int .i64 q]] w fun e w' => e = .returned (.string ⟨(pairB (a, b, q)).toArray⟩) ∧ Below w.heap.size w w' := by
  by_cases hq : q = 2
  · rw [show pairB (a, b, q) = [98, 101, 115, 105, 100, 101, 32] ++ Lib.itoa a ++ [32] ++ Lib.itoa b by simp [pairB, pwB, hq, numB]]
    exact pt_two a b q w ha hb hq
  · rw [show pairB (a, b, q) = [115, 97, 109, 101, 32] ++ Lib.itoa a ++ [32] ++ Lib.itoa b by simp [pairB, pwB, hq, numB]]
    exact pt_one a b q w ha hb hq
theorem stat_head (i s : Int) : [115, 116, 97, 116, 105, 111, 110, 32] ++ Lib.itoa i ++ [32] ++ Lib.itoa s = statB i s [] := by
  simp [statB, numB]
theorem stat_step (i s : Int) (zs : List Int) (k : Nat) (h : k < zs.length) : statB i s (zs.take (k + 1)) = statB i s (zs.take k) ++ ([32] ++ Lib.itoa (zs.getD k 0)) := by
  unfold statB
  rw [List.flatMap_append, List.flatMap_append, nums_step zs k h]
  simp
/-- A station in a block of its own. -/
def SAtD (w : World) (b : Nat) (x y : Int) (sl : Option Addr) (n cap : Nat) : Prop := w.heap[b]? = some (.cells #[.int .i64 x, .int .i64 y, .slice sl n cap] 43)
theorem SAtD.new (w : World) (x y : Int) (sl : Option Addr) (n cap : Nat) : SAtD (w.alloc (.cells #[.int .i64 x, .int .i64 y, .slice sl n cap] 43)) w.heap.size x y sl n cap := by
  show (w.heap.push _)[w.heap.size]? = _
  simp
theorem SAtD.lt {w : World} {b : Nat} {x y : Int} {sl : Option Addr} {n cap : Nat} (h : SAtD w b x y sl n cap) : b < w.heap.size := (Array.getElem?_eq_some_iff.1 h).1
theorem SAtD.below {w w' : World} {b : Nat} {x y : Int} {sl : Option Addr} {n cap : Nat} (h : SAtD w b x y sl n cap) (hb : Below w.heap.size w w') : SAtD w' b x y sl n cap := (hb.block b h.lt).trans h
theorem SAtD.cells {w : World} {b : Nat} {x y : Int} {sl : Option Addr} {n cap : Nat} (h : SAtD w b x y sl n cap) : b < w.heap.size ∧ w.cell? ⟨b, 0, none⟩ = some (.int .i64 x) ∧ w.cell? ⟨b, 1, none⟩ = some (.int .i64 y) ∧ w.cell? ⟨b, 2, none⟩ = some (.slice sl n cap) := by
  have hl := h.lt
  unfold SAtD at h
  refine ⟨hl, ?_, ?_, ?_⟩ <;> simp [World.cell?, h]
set_option maxRecDepth 100000 in
set_option maxHeartbeats 2000000 in
/-- spec.l04StationText. -/
theorem stt_any (a b : Int) (sl : Option Addr) (cap : Nat) (zs : List Int) (w : World) (ha : -1000000000000000 ≤ a ∧ a ≤ 1000000000000000) (hb : -1000000000000000 ≤ b ∧ b ≤ 1000000000000000) (hl : zs.length ≤ 1000) (hs : MidL zs) (hz : Ints w sl zs) :
    Calls Tryd.prog 17 #[SV a b sl zs.length cap] w fun e w' => e = .returned (.string ⟨(statB a b zs).toArray⟩) ∧ Below w.heap.size w w' := by
  have E1 := Lib.hid (fun W => dec_any a ha W)
  have E2 := Lib.hid (fun W => dec_any b hb W)
  have hd1 := itoa_mid a ha
  have hd2 := itoa_mid b hb
  have HE := Lib.hid (stat_head a b)
  have HZ := Lib.hid hz
  have HS := Lib.hid hs
  have B0 := Lib.hid (bA0 w (.cells #[.int .i64 a, .int .i64 b, .slice sl zs.length cap] 43))
  have C0 := Lib.hid (SAtD.new w a b sl zs.length cap)
  generalize hN : zs.length = n at *
  have HN := Lib.hid hN
  clear hN hz hs
  have KB : Hid (∀ W, Below (w.alloc (.cells #[.int .i64 a, .int .i64 b, .slice sl n cap] 43)).heap.size (w.alloc (.cells #[.int .i64 a, .int .i64 b, .slice sl n cap] 43)) W → w.heap.size < W.heap.size ∧ W.cell? ⟨w.heap.size, 0, none⟩ = some (.int .i64 a) ∧ W.cell? ⟨w.heap.size, 1, none⟩ = some (.int .i64 b) ∧ W.cell? ⟨w.heap.size, 2, none⟩ = some (.slice sl n cap)) := fun W hW => (C0.out.below hW).cells
  generalize Lib.itoa a = d1 at *
  generalize Lib.itoa b = d2 at *
  have s1 : ¬ 9223372036854775807 < 8 + d1.length := by omega
  have s2 : ¬ 9223372036854775807 < 8 + d1.length + 1 := by omega
  have s3 : ¬ 9223372036854775807 < 8 + d1.length + 1 + d2.length := by omega
  clear ha hb
  go_enter Tryd.func17, Tryd.ntmps17
  go_wp2_with fail
  generalize w.alloc (.cells #[.int .i64 a, .int .i64 b, .slice sl n cap] 43) = w0 at *
  refine wp_region_held_drew (S := fun W => w.heap.size < W.heap.size ∧ W.cell? ⟨w.heap.size, 0, none⟩ = some (.int .i64 a) ∧ W.cell? ⟨w.heap.size, 1, none⟩ = some (.int .i64 b) ∧ W.cell? ⟨w.heap.size, 2, none⟩ = some (.slice sl n cap)) (by kernel_rfl) ?_ (fun hHeld => ?_)
  · exact KB.out _ (Below.refl _ _).drew
  refine wpAnyH_take (i := 0) (oi := _) (v := ?_) rfl (by kernel_rfl) (by kernel_rfl) (by kernel_rfl) (fun _ _ _ h => h) (Or.inl ⟨by rfl, ?_⟩) (by assumption) ?_
  rotate_left
  · first | (intro w hSw; (try dsimp only at hSw); go_simp; done) | (intro w hSw; (try dsimp only at hSw); go_simp; with_reducible rfl)
  try simp only [Act.put, List.setIfInBounds_toArray, List.set_cons_zero, List.set_cons_succ, List.getElem_toArray, List.getElem_cons_zero]
  refine wpAnyH_take (i := 1) (oi := _) (v := ?_) rfl (by kernel_rfl) (by kernel_rfl) (by kernel_rfl) (fun _ _ _ h => h) (Or.inl ⟨by rfl, ?_⟩) (by assumption) ?_
  rotate_left
  · first | (intro w hSw; (try dsimp only at hSw); go_simp; done) | (intro w hSw; (try dsimp only at hSw); go_simp; with_reducible rfl)
  try simp only [Act.put, List.setIfInBounds_toArray, List.set_cons_zero, List.set_cons_succ, List.getElem_toArray, List.getElem_cons_succ, List.getElem_cons_zero]
  refine wpAnyH_take (i := 5) (oi := _) (v := ?_) rfl (by kernel_rfl) (by kernel_rfl) (by kernel_rfl) (fun _ _ _ h => h) (Or.inl ⟨by rfl, ?_⟩) (by assumption) ?_
  rotate_left
  · first | (intro w hSw; (try dsimp only at hSw); go_simp; done) | (intro w hSw; (try dsimp only at hSw); go_simp; with_reducible rfl)
  try simp only [Act.put, List.setIfInBounds_toArray, List.set_cons_zero, List.set_cons_succ, List.getElem_toArray, List.getElem_cons_succ, List.getElem_cons_zero]
  refine wpAnyH_take (i := 6) (oi := _) (v := ?_) rfl (by kernel_rfl) (by kernel_rfl) (by kernel_rfl) (fun _ _ _ h => h) (Or.inl ⟨by rfl, ?_⟩) (by assumption) ?_
  rotate_left
  · first | (intro w hSw; (try dsimp only at hSw); go_simp; done) | (intro w hSw; (try dsimp only at hSw); go_simp; with_reducible rfl)
  try simp only [Act.put, List.setIfInBounds_toArray, List.set_cons_zero, List.set_cons_succ, List.getElem_toArray, List.getElem_cons_succ, List.getElem_cons_zero]
  refine wpAnyH_ready (rs := [2]) (by kernel_rfl) (by simp) ?_
  refine AllReadyH.cons rfl (fun K hK => ?_) AllReadyH.nil
  go_simp
  go_wp2_with (go_at_call 31; refine (E1.out _).mono ?_; rintro e w2 ⟨rfl, b1⟩)
  have F2 : Hid (Below w0.heap.size w0 w2) := bT (Below.refl w0.heap.size w0).drew b1
  clear b1
  refine hK.out _ _ ?_ (fun hHeld => ?_)
  · exact KB.out _ F2.out
  clear hK K
  refine wpAnyH_take (i := 3) (oi := _) (v := ?_) rfl (by kernel_rfl) (by kernel_rfl) (by kernel_rfl) (fun _ _ _ h => h) (Or.inl ⟨by rfl, ?_⟩) (by assumption) ?_
  rotate_left
  · first | (intro w hSw; (try dsimp only at hSw); go_simp; done) | (intro w hSw; (try dsimp only at hSw); go_simp; with_reducible rfl)
  try simp only [Act.put, List.setIfInBounds_toArray, List.set_cons_zero, List.set_cons_succ, List.getElem_toArray, List.getElem_cons_succ, List.getElem_cons_zero]
  refine wpAnyH_take (i := 4) (oi := _) (v := ?_) rfl (by kernel_rfl) (by kernel_rfl) (by kernel_rfl) (fun _ _ _ h => h) (Or.inl ⟨by rfl, ?_⟩) (by assumption) ?_
  rotate_left
  · first | (intro w hSw; (try dsimp only at hSw); go_simp; done) | (intro w hSw; (try dsimp only at hSw); go_simp; with_reducible rfl)
  try simp only [Act.put, List.setIfInBounds_toArray, List.set_cons_zero, List.set_cons_succ, List.getElem_toArray, List.getElem_cons_succ, List.getElem_cons_zero]
  refine wpAnyH_ready (rs := [7]) (by kernel_rfl) (by simp) ?_
  refine AllReadyH.cons rfl (fun K hK => ?_) AllReadyH.nil
  go_simp
  go_wp2_with (go_at_call 31; refine (E2.out _).mono ?_; rintro e w3 ⟨rfl, b1⟩)
  have F3 : Hid (Below w0.heap.size w0 w3) := bT F2.out b1
  clear b1
  refine hK.out _ _ ?_ (fun hHeld => ?_)
  · exact KB.out _ F3.out
  clear hK K
  refine wpAnyH_take (i := 8) (oi := _) (v := ?_) rfl (by kernel_rfl) (by kernel_rfl) (by kernel_rfl) (fun _ _ _ h => h) (Or.inl ⟨by rfl, ?_⟩) (by assumption) ?_
  rotate_left
  · first | (intro w hSw; (try dsimp only at hSw); go_simp; done) | (intro w hSw; (try dsimp only at hSw); go_simp; with_reducible rfl)
  try simp only [Act.put, List.setIfInBounds_toArray, List.set_cons_zero, List.set_cons_succ, List.getElem_toArray, List.getElem_cons_succ, List.getElem_cons_zero]
  refine wpAnyH_take (i := 9) (oi := _) (v := ?_) rfl (by kernel_rfl) (by kernel_rfl) (by kernel_rfl) (fun _ _ _ h => h) (Or.inl ⟨by rfl, ?_⟩) (by assumption) ?_
  rotate_left
  · first | (intro w hSw; (try dsimp only at hSw); go_simp; done) | (intro w hSw; (try dsimp only at hSw); go_simp; with_reducible rfl)
  try simp only [Act.put, List.setIfInBounds_toArray, List.set_cons_zero, List.set_cons_succ, List.getElem_toArray, List.getElem_cons_succ, List.getElem_cons_zero]
  refine wpAnyH_done (by kernel_rfl) ?_ _
  have e1 : ((⟨#[115, 116, 97, 116, 105, 111, 110, 32]⟩ : ByteArray) ++ ⟨d1.toArray⟩ ++ ⟨#[32]⟩ ++ ⟨d2.toArray⟩) = ⟨(statB a b []).toArray⟩ := by
    have h1 := ba_app [115, 116, 97, 116, 105, 111, 110, 32] d1
    have h2 := ba_app ([115, 116, 97, 116, 105, 111, 110, 32] ++ d1) [32]
    have h3 := ba_app ([115, 116, 97, 116, 105, 111, 110, 32] ++ d1 ++ [32]) d2
    rw [← HE.out, ← h3, ← h2, ← h1]
  have e2 : (statB a b []).length ≤ 100 := by
    have := congrArg List.length HE.out
    simp at this
    omega
  rw [e1]
  clear e1 s1 s2 s3 E1 E2 F2 KB
  go_wp2_with fail
  go_loopw [3, 4] (fun t i wr => ∃ (k : Nat) (l : List UInt8), i = .int .i64 k ∧ t = .string ⟨l.toArray⟩ ∧ k ≤ n ∧ l.length ≤ 100 + 22 * k ∧ Hid (l = statB a b (zs.take k)) ∧ Hid (Below w0.heap.size w0 wr)) (fun _ i _ => n - (intOf i).toNat)
  case atStart => exact ⟨0, statB a b [], rfl, rfl, Nat.zero_le _, by omega, (by show statB a b [] = statB a b (zs.take 0); simp), F3⟩
  case round =>
    obtain ⟨k, l, rfl, rfl, hk, hll, HL, HB⟩ := hrel
    have hk0 : (0 : Int) ≤ (k : Int) := by omega
    obtain ⟨kl, k0, k1, k2⟩ := (C0.out.below HB.out).cells
    by_cases g1 : k < n
    · have g1' : (k : Int) < (n : Int) := by omega
      have hlt : k < zs.length := by rw [HN.out]; exact g1
      obtain ⟨c, o, rfl, ZI⟩ : ∃ c o, sl = some ⟨c, o, none⟩ ∧ IntsAt w c o zs := by
        rcases HZ.out with e | h
        · rw [e] at hlt; simp at hlt
        · exact h
      have hc := ((bT B0.out HB.out).cell (p := ⟨c, o + k, none⟩) ZI.1).trans (ZI.2 k hlt)
      have hz := HS.out (zs.getD k 0) (by rw [List.getD_eq_getElem?_getD, List.getElem?_eq_getElem hlt]; exact List.getElem_mem hlt)
      have E := Lib.hid (dec_any (zs.getD k 0) hz wr)
      have ST := Lib.hid (stat_step a b zs k hlt)
      have hd := itoa_mid _ hz
      clear hlt ZI
      generalize Lib.itoa (zs.getD k 0) = d at *
      generalize zs.getD k 0 = z at *
      go_wp2_with fail
      refine E.out.mono ?_
      rintro e w1 ⟨rfl, b1⟩
      have B1 := Lib.hid (bT HB.out b1)
      have NL : Hid (l ++ [32] ++ d = statB a b (zs.take (k + 1))) := by rw [HL.out, List.append_assoc]; exact Lib.hid ST.out.symm
      clear b1 E HL ST
      go_wp2
      go_roundw
      case rel => exact ⟨k + 1, l ++ [32] ++ d, by go_num, by rw [← ba_app (l ++ [32]) d, ← ba_app l [32]], by omega, by simp; omega, NL, B1⟩
      case measure => simp [intOf]; omega
    · have g1' : ¬ (k : Int) < (n : Int) := by omega
      have NL : Hid (l = statB a b zs) := by
        rw [HL.out, List.take_of_length_le (by rw [HN.out]; omega)]; exact Lib.hid rfl
      have BB := bT B0.out HB.out
      clear HL
      go_wp2
      go_ret
      exact ⟨by rw [NL.out]; rfl, BB⟩
end Go.Proofs.YtdndhhkpbcpalaaDoor
