/-
  AN ORACLE'S ANSWER AS TEXT: spec.AskText, impl.AskText.
-/
import Derived.Test.YtllaiigjkchahaaDoorSa
namespace Go.Proofs.YtllaiigjkchahaaDoor
open Go.RowKit
set_option linter.unusedVariables false

def yesB : List UInt8 := [121, 101, 115]
def noB : List UInt8 := [110, 111]
def unkB : List UInt8 := [117, 110, 107, 110, 111, 119, 110]
noncomputable def askT (v : Int) (pl : List LPl) (css : List (List Int)) (st cd : Int) : List UInt8 :=
  if cd ≠ 0 then [] else if v = 1 then lineW [yesB, Lib.itoa st] ++ plT pl else if v = 2 then lineW [noB, Lib.itoa st] ++ lemT css else if v = 3 then lineW [unkB, Lib.itoa st] else []
theorem plT_le (pl : List LPl) (h : WfPs pl) : (plT pl).length ≤ 17600 := by
  unfold plT
  split
  · have := plsB_le pl h pl.length
    rw [List.take_length] at this
    omega
  · simp
theorem lemT_le (css : List (List Int)) : (lemT css).length ≤ 20000 := by
  unfold lemT
  repeat' split
  all_goals first | omega | simp
theorem bareC_lenS (cs : List LCl) : (bareC cs).length = cs.length := by simp [bareC]

set_option maxRecDepth 100000 in
set_option maxHeartbeats 4000000 in
/-- spec.AskText. -/
theorem sat_any (v h : Int) (s1 : Option Addr) (c1 : Nat) (pl : List LPl) (s2 : Option Addr) (c2 : Nat) (cs : List LCl) (st cd : Int) (w : World) (hn : pl.length ≤ maxLen) (hk : cs.length ≤ 1048576) (hw : WfPs pl) (hb : WfL (bareC cs)) (hp : Pls w s1 pl) (hz : Cls w s2 cs) (hst : wfI st) (ht : PowTab w) :
    Calls Tryd.prog 11 #[AV v h s1 pl.length c1 s2 cs.length c2 st cd] w fun e w' => e = .returned (.string ⟨(askT v pl (bareC cs) st cd).toArray⟩) ∧ Below w.heap.size w w' := by
  have EP : Hid (∀ W, Below w.heap.size w W → Calls Tryd.prog 6 #[.slice s1 pl.length c1] W fun e w' => e = .returned (.string ⟨(plT pl).toArray⟩) ∧ Below W.heap.size W w') := fun W hW => spt_any s1 c1 pl W hn hw (hp.below hW)
  have EL : Hid (∀ W, Below w.heap.size w W → Calls Tryd.prog 21 #[.slice s2 cs.length c2] W fun e w' => e = .returned (.string ⟨(lemT (bareC cs)).toArray⟩) ∧ Below W.heap.size W w') := fun W hW => slt_any s2 c2 cs W hk (hz.below hW)
  have ED : Hid (∀ W, Below w.heap.size w W → Calls Tryd.prog 15 #[.int .i64 st] W fun e w' => e = .returned (.string ⟨(Lib.itoa st).toArray⟩) ∧ Below W.heap.size W w') := fun W hW => dec_any st (wfI_bd hst) W
  have BL := Lib.hid (plT_le pl hw)
  have LL := Lib.hid (lemT_le (bareC cs))
  have dl := itoa_all st hst
  clear hn hk hw hb hp hz hst ht
  have AT := Lib.hid (show askT v pl (bareC cs) st cd = if cd ≠ 0 then [] else if v = 1 then lineW [yesB, Lib.itoa st] ++ plT pl else if v = 2 then lineW [noB, Lib.itoa st] ++ lemT (bareC cs) else if v = 3 then lineW [unkB, Lib.itoa st] else [] from rfl)
  have W1 := Lib.hid (line2 yesB (Lib.itoa st))
  have W2 := Lib.hid (line2 noB (Lib.itoa st))
  have W3 := Lib.hid (line2 unkB (Lib.itoa st))
  generalize askT v pl (bareC cs) st cd = at0 at *
  generalize Lib.itoa st = d at *
  generalize plT pl = pt at *
  generalize lemT (bareC cs) = lt at *
  generalize pl.length = n at *
  generalize cs.length = k at *
  have bl := BL.out
  have ll := LL.out
  have B0 := Lib.hid (bA0 w (.cells #[.int .i64 v, .int .i64 h, .slice s1 n c1, .slice s2 k c2, .int .i64 st, .int .i64 cd] 35))
  have KB : Hid (∀ W, Below (w.alloc (.cells #[.int .i64 v, .int .i64 h, .slice s1 n c1, .slice s2 k c2, .int .i64 st, .int .i64 cd] 35)).heap.size (w.alloc (.cells #[.int .i64 v, .int .i64 h, .slice s1 n c1, .slice s2 k c2, .int .i64 st, .int .i64 cd] 35)) W → w.heap.size < W.heap.size ∧ W.cell? ⟨w.heap.size, 2, none⟩ = some (.slice s1 n c1) ∧ W.cell? ⟨w.heap.size, 3, none⟩ = some (.slice s2 k c2) ∧ W.cell? ⟨w.heap.size, 4, none⟩ = some (.int .i64 st)) := fun W hW => by
    have hs := hW.size
    simp at hs
    obtain ⟨-, -, x2, x3, x4, -, -, -⟩ := six_cells ((hW.block w.heap.size (by simp)).trans (new_at w (.cells #[.int .i64 v, .int .i64 h, .slice s1 n c1, .slice s2 k c2, .int .i64 st, .int .i64 cd] 35)))
    exact ⟨by omega, x2, x3, x4⟩
  by_cases h0 : cd = 0
  case neg =>
    have hc0 : (cd != 0) = true := by simp [h0]
    have HE : Hid (at0 = []) := by show _ = _; rw [AT.out, if_pos h0]
    go_enter Tryd.func11, Tryd.ntmps11
    go_wp2
    go_ret
    exact ⟨by rw [HE.out]; rfl, B0.out⟩
  subst h0
  by_cases h1 : v = 1
  case pos =>
    subst h1
    have HE : Hid (at0 = [121, 101, 115, 32] ++ d ++ [10] ++ pt) := by show _ = _; rw [AT.out, if_neg (by simp), if_pos rfl, W1.out]; simp [yesB]
    have s1' : ¬ 9223372036854775807 < 4 + d.length := by omega
    have s2' : ¬ 9223372036854775807 < 4 + d.length + 1 := by omega
    have s3' : ¬ 9223372036854775807 < 4 + d.length + 1 + pt.length := by omega
    have e1 : (({ data := #[121, 101, 115, 32] } : ByteArray) ++ ⟨d.toArray⟩ ++ ⟨#[10]⟩ ++ ⟨pt.toArray⟩) = ⟨([121, 101, 115, 32] ++ d ++ [10] ++ pt).toArray⟩ := by
      have h1 := ba_app [121, 101, 115, 32] d
      have h2 := ba_app ([121, 101, 115, 32] ++ d) [10]
      have h3 := ba_app ([121, 101, 115, 32] ++ d ++ [10]) pt
      rw [← h3, ← h2, ← h1]
    have e1h := Lib.hid e1
    clear e1
    go_enter Tryd.func11, Tryd.ntmps11
    go_wp2_with fail
    refine wp_region_held_drew (S := fun W => w.heap.size < W.heap.size ∧ W.cell? ⟨w.heap.size, 2, none⟩ = some (.slice s1 n c1) ∧ W.cell? ⟨w.heap.size, 3, none⟩ = some (.slice s2 k c2) ∧ W.cell? ⟨w.heap.size, 4, none⟩ = some (.int .i64 st)) (by kernel_rfl) ?_ (fun hHeld => ?_)
    · exact KB.out _ (Below.refl _ _).drew
    refine wpAnyH_take (i := 0) (oi := _) (v := ?_) rfl (by kernel_rfl) (by kernel_rfl) (by kernel_rfl) (fun _ _ _ h => h) (Or.inl ⟨by rfl, ?_⟩) (by assumption) ?_
    rotate_left
    · first | (intro w hSw; (try dsimp only at hSw); go_simp; done) | (intro w hSw; (try dsimp only at hSw); go_simp; with_reducible rfl)
    try simp only [Act.put, List.setIfInBounds_toArray, List.set_cons_zero, List.set_cons_succ, List.getElem_toArray, List.getElem_cons_zero]
    refine wpAnyH_take (i := 1) (oi := _) (v := ?_) rfl (by kernel_rfl) (by kernel_rfl) (by kernel_rfl) (fun _ _ _ h => h) (Or.inl ⟨by rfl, ?_⟩) (by assumption) ?_
    rotate_left
    · first | (intro w hSw; (try dsimp only at hSw); go_simp; done) | (intro w hSw; (try dsimp only at hSw); go_simp; with_reducible rfl)
    try simp only [Act.put, List.setIfInBounds_toArray, List.set_cons_zero, List.set_cons_succ, List.getElem_toArray, List.getElem_cons_succ, List.getElem_cons_zero]
    refine wpAnyH_take (i := 5) (oi := _) (v := ?_) rfl (by kernel_rfl) (by kernel_rfl) (by kernel_rfl) (fun _ _ _ h => h) (Or.inl ⟨by rfl, ?_⟩) (by assumption) ?_
    rotate_left
    · first | (intro w hSw; (try dsimp only at hSw); go_simp; done) | (intro w hSw; (try dsimp only at hSw); go_simp; with_reducible rfl)
    try simp only [Act.put, List.setIfInBounds_toArray, List.set_cons_zero, List.set_cons_succ, List.getElem_toArray, List.getElem_cons_succ, List.getElem_cons_zero]
    refine wpAnyH_take (i := 6) (oi := _) (v := ?_) rfl (by kernel_rfl) (by kernel_rfl) (by kernel_rfl) (fun _ _ _ h => h) (Or.inl ⟨by rfl, ?_⟩) (by assumption) ?_
    rotate_left
    · first | (intro w hSw; (try dsimp only at hSw); go_simp; done) | (intro w hSw; (try dsimp only at hSw); go_simp; with_reducible rfl)
    try simp only [Act.put, List.setIfInBounds_toArray, List.set_cons_zero, List.set_cons_succ, List.getElem_toArray, List.getElem_cons_succ, List.getElem_cons_zero]
    refine wpAnyH_ready (rs := [2]) (by kernel_rfl) (by simp) ?_
    refine AllReadyH.cons rfl (fun K hK => ?_) AllReadyH.nil
    go_simp
    go_wp2_with (go_at_call 15; refine (ED.out _ B0.out.drew).mono ?_; rintro e w2 ⟨rfl, b1⟩)
    have F2 : Hid (Below w.heap.size w w2) := bT B0.out.drew b1
    have G2 : Hid (Below (w.alloc (.cells #[.int .i64 1, .int .i64 h, .slice s1 n c1, .slice s2 k c2, .int .i64 st, .int .i64 0] 35)).heap.size (w.alloc (.cells #[.int .i64 1, .int .i64 h, .slice s1 n c1, .slice s2 k c2, .int .i64 st, .int .i64 0] 35)) w2) := bT (Below.refl _ _).drew b1
    clear b1
    refine hK.out _ _ ?_ (fun hHeld => ?_)
    · exact KB.out _ G2.out
    clear hK K
    refine wpAnyH_take (i := 3) (oi := _) (v := ?_) rfl (by kernel_rfl) (by kernel_rfl) (by kernel_rfl) (fun _ _ _ h => h) (Or.inl ⟨by rfl, ?_⟩) (by assumption) ?_
    rotate_left
    · first | (intro w hSw; (try dsimp only at hSw); go_simp; done) | (intro w hSw; (try dsimp only at hSw); go_simp; with_reducible rfl)
    try simp only [Act.put, List.setIfInBounds_toArray, List.set_cons_zero, List.set_cons_succ, List.getElem_toArray, List.getElem_cons_succ, List.getElem_cons_zero]
    refine wpAnyH_take (i := 4) (oi := _) (v := ?_) rfl (by kernel_rfl) (by kernel_rfl) (by kernel_rfl) (fun _ _ _ h => h) (Or.inl ⟨by rfl, ?_⟩) (by assumption) ?_
    rotate_left
    · first | (intro w hSw; (try dsimp only at hSw); go_simp; done) | (intro w hSw; (try dsimp only at hSw); go_simp; with_reducible rfl)
    try simp only [Act.put, List.setIfInBounds_toArray, List.set_cons_zero, List.set_cons_succ, List.getElem_toArray, List.getElem_cons_succ, List.getElem_cons_zero]
    refine wpAnyH_ready (rs := [7]) (by kernel_rfl) (by simp) ?_
    refine AllReadyH.cons rfl (fun K hK => ?_) AllReadyH.nil
    go_simp
    go_wp2_with (go_at_call 6; refine (EP.out _ F2.out).mono ?_; rintro e w3 ⟨rfl, b1⟩)
    have F3 : Hid (Below w.heap.size w w3) := bT F2.out b1
    have G3 : Hid (Below (w.alloc (.cells #[.int .i64 1, .int .i64 h, .slice s1 n c1, .slice s2 k c2, .int .i64 st, .int .i64 0] 35)).heap.size (w.alloc (.cells #[.int .i64 1, .int .i64 h, .slice s1 n c1, .slice s2 k c2, .int .i64 st, .int .i64 0] 35)) w3) := bT G2.out b1
    clear b1
    refine hK.out _ _ ?_ (fun hHeld => ?_)
    · exact KB.out _ G3.out
    clear hK K
    refine wpAnyH_take (i := 8) (oi := _) (v := ?_) rfl (by kernel_rfl) (by kernel_rfl) (by kernel_rfl) (fun _ _ _ h => h) (Or.inl ⟨by rfl, ?_⟩) (by assumption) ?_
    rotate_left
    · first | (intro w hSw; (try dsimp only at hSw); go_simp; done) | (intro w hSw; (try dsimp only at hSw); go_simp; with_reducible rfl)
    try simp only [Act.put, List.setIfInBounds_toArray, List.set_cons_zero, List.set_cons_succ, List.getElem_toArray, List.getElem_cons_succ, List.getElem_cons_zero]
    refine wpAnyH_take (i := 9) (oi := _) (v := ?_) rfl (by kernel_rfl) (by kernel_rfl) (by kernel_rfl) (fun _ _ _ h => h) (Or.inl ⟨by rfl, ?_⟩) (by assumption) ?_
    rotate_left
    · first | (intro w hSw; (try dsimp only at hSw); go_simp; done) | (intro w hSw; (try dsimp only at hSw); go_simp; with_reducible rfl)
    try simp only [Act.put, List.setIfInBounds_toArray, List.set_cons_zero, List.set_cons_succ, List.getElem_toArray, List.getElem_cons_succ, List.getElem_cons_zero]
    refine wpAnyH_done (by kernel_rfl) ?_ _
    clear KB ED EP EL G2 G3
    go_wp2
    go_ret
    exact ⟨by rw [HE.out, ← e1h.out]; rfl, F3.out⟩
  by_cases h2 : v = 2
  case pos =>
    subst h2
    have HE : Hid (at0 = [110, 111, 32] ++ d ++ [10] ++ lt) := by show _ = _; rw [AT.out, if_neg (by simp), if_neg (by decide), if_pos rfl, W2.out]; simp [noB]
    have s1' : ¬ 9223372036854775807 < 3 + d.length := by omega
    have s2' : ¬ 9223372036854775807 < 3 + d.length + 1 := by omega
    have s3' : ¬ 9223372036854775807 < 3 + d.length + 1 + lt.length := by omega
    have e1 : (({ data := #[110, 111, 32] } : ByteArray) ++ ⟨d.toArray⟩ ++ ⟨#[10]⟩ ++ ⟨lt.toArray⟩) = ⟨([110, 111, 32] ++ d ++ [10] ++ lt).toArray⟩ := by
      have h1 := ba_app [110, 111, 32] d
      have h2 := ba_app ([110, 111, 32] ++ d) [10]
      have h3 := ba_app ([110, 111, 32] ++ d ++ [10]) lt
      rw [← h3, ← h2, ← h1]
    have e1h := Lib.hid e1
    clear e1
    go_enter Tryd.func11, Tryd.ntmps11
    go_wp2_with fail
    refine wp_region_held_drew (S := fun W => w.heap.size < W.heap.size ∧ W.cell? ⟨w.heap.size, 2, none⟩ = some (.slice s1 n c1) ∧ W.cell? ⟨w.heap.size, 3, none⟩ = some (.slice s2 k c2) ∧ W.cell? ⟨w.heap.size, 4, none⟩ = some (.int .i64 st)) (by kernel_rfl) ?_ (fun hHeld => ?_)
    · exact KB.out _ (Below.refl _ _).drew
    refine wpAnyH_take (i := 0) (oi := _) (v := ?_) rfl (by kernel_rfl) (by kernel_rfl) (by kernel_rfl) (fun _ _ _ h => h) (Or.inl ⟨by rfl, ?_⟩) (by assumption) ?_
    rotate_left
    · first | (intro w hSw; (try dsimp only at hSw); go_simp; done) | (intro w hSw; (try dsimp only at hSw); go_simp; with_reducible rfl)
    try simp only [Act.put, List.setIfInBounds_toArray, List.set_cons_zero, List.set_cons_succ, List.getElem_toArray, List.getElem_cons_zero]
    refine wpAnyH_take (i := 1) (oi := _) (v := ?_) rfl (by kernel_rfl) (by kernel_rfl) (by kernel_rfl) (fun _ _ _ h => h) (Or.inl ⟨by rfl, ?_⟩) (by assumption) ?_
    rotate_left
    · first | (intro w hSw; (try dsimp only at hSw); go_simp; done) | (intro w hSw; (try dsimp only at hSw); go_simp; with_reducible rfl)
    try simp only [Act.put, List.setIfInBounds_toArray, List.set_cons_zero, List.set_cons_succ, List.getElem_toArray, List.getElem_cons_succ, List.getElem_cons_zero]
    refine wpAnyH_take (i := 5) (oi := _) (v := ?_) rfl (by kernel_rfl) (by kernel_rfl) (by kernel_rfl) (fun _ _ _ h => h) (Or.inl ⟨by rfl, ?_⟩) (by assumption) ?_
    rotate_left
    · first | (intro w hSw; (try dsimp only at hSw); go_simp; done) | (intro w hSw; (try dsimp only at hSw); go_simp; with_reducible rfl)
    try simp only [Act.put, List.setIfInBounds_toArray, List.set_cons_zero, List.set_cons_succ, List.getElem_toArray, List.getElem_cons_succ, List.getElem_cons_zero]
    refine wpAnyH_take (i := 6) (oi := _) (v := ?_) rfl (by kernel_rfl) (by kernel_rfl) (by kernel_rfl) (fun _ _ _ h => h) (Or.inl ⟨by rfl, ?_⟩) (by assumption) ?_
    rotate_left
    · first | (intro w hSw; (try dsimp only at hSw); go_simp; done) | (intro w hSw; (try dsimp only at hSw); go_simp; with_reducible rfl)
    try simp only [Act.put, List.setIfInBounds_toArray, List.set_cons_zero, List.set_cons_succ, List.getElem_toArray, List.getElem_cons_succ, List.getElem_cons_zero]
    refine wpAnyH_ready (rs := [2]) (by kernel_rfl) (by simp) ?_
    refine AllReadyH.cons rfl (fun K hK => ?_) AllReadyH.nil
    go_simp
    go_wp2_with (go_at_call 15; refine (ED.out _ B0.out.drew).mono ?_; rintro e w2 ⟨rfl, b1⟩)
    have F2 : Hid (Below w.heap.size w w2) := bT B0.out.drew b1
    have G2 : Hid (Below (w.alloc (.cells #[.int .i64 2, .int .i64 h, .slice s1 n c1, .slice s2 k c2, .int .i64 st, .int .i64 0] 35)).heap.size (w.alloc (.cells #[.int .i64 2, .int .i64 h, .slice s1 n c1, .slice s2 k c2, .int .i64 st, .int .i64 0] 35)) w2) := bT (Below.refl _ _).drew b1
    clear b1
    refine hK.out _ _ ?_ (fun hHeld => ?_)
    · exact KB.out _ G2.out
    clear hK K
    refine wpAnyH_take (i := 3) (oi := _) (v := ?_) rfl (by kernel_rfl) (by kernel_rfl) (by kernel_rfl) (fun _ _ _ h => h) (Or.inl ⟨by rfl, ?_⟩) (by assumption) ?_
    rotate_left
    · first | (intro w hSw; (try dsimp only at hSw); go_simp; done) | (intro w hSw; (try dsimp only at hSw); go_simp; with_reducible rfl)
    try simp only [Act.put, List.setIfInBounds_toArray, List.set_cons_zero, List.set_cons_succ, List.getElem_toArray, List.getElem_cons_succ, List.getElem_cons_zero]
    refine wpAnyH_take (i := 4) (oi := _) (v := ?_) rfl (by kernel_rfl) (by kernel_rfl) (by kernel_rfl) (fun _ _ _ h => h) (Or.inl ⟨by rfl, ?_⟩) (by assumption) ?_
    rotate_left
    · first | (intro w hSw; (try dsimp only at hSw); go_simp; done) | (intro w hSw; (try dsimp only at hSw); go_simp; with_reducible rfl)
    try simp only [Act.put, List.setIfInBounds_toArray, List.set_cons_zero, List.set_cons_succ, List.getElem_toArray, List.getElem_cons_succ, List.getElem_cons_zero]
    refine wpAnyH_ready (rs := [7]) (by kernel_rfl) (by simp) ?_
    refine AllReadyH.cons rfl (fun K hK => ?_) AllReadyH.nil
    go_simp
    go_wp2_with (go_at_call 21; refine (EL.out _ F2.out).mono ?_; rintro e w3 ⟨rfl, b1⟩)
    have F3 : Hid (Below w.heap.size w w3) := bT F2.out b1
    have G3 : Hid (Below (w.alloc (.cells #[.int .i64 2, .int .i64 h, .slice s1 n c1, .slice s2 k c2, .int .i64 st, .int .i64 0] 35)).heap.size (w.alloc (.cells #[.int .i64 2, .int .i64 h, .slice s1 n c1, .slice s2 k c2, .int .i64 st, .int .i64 0] 35)) w3) := bT G2.out b1
    clear b1
    refine hK.out _ _ ?_ (fun hHeld => ?_)
    · exact KB.out _ G3.out
    clear hK K
    refine wpAnyH_take (i := 8) (oi := _) (v := ?_) rfl (by kernel_rfl) (by kernel_rfl) (by kernel_rfl) (fun _ _ _ h => h) (Or.inl ⟨by rfl, ?_⟩) (by assumption) ?_
    rotate_left
    · first | (intro w hSw; (try dsimp only at hSw); go_simp; done) | (intro w hSw; (try dsimp only at hSw); go_simp; with_reducible rfl)
    try simp only [Act.put, List.setIfInBounds_toArray, List.set_cons_zero, List.set_cons_succ, List.getElem_toArray, List.getElem_cons_succ, List.getElem_cons_zero]
    refine wpAnyH_take (i := 9) (oi := _) (v := ?_) rfl (by kernel_rfl) (by kernel_rfl) (by kernel_rfl) (fun _ _ _ h => h) (Or.inl ⟨by rfl, ?_⟩) (by assumption) ?_
    rotate_left
    · first | (intro w hSw; (try dsimp only at hSw); go_simp; done) | (intro w hSw; (try dsimp only at hSw); go_simp; with_reducible rfl)
    try simp only [Act.put, List.setIfInBounds_toArray, List.set_cons_zero, List.set_cons_succ, List.getElem_toArray, List.getElem_cons_succ, List.getElem_cons_zero]
    refine wpAnyH_done (by kernel_rfl) ?_ _
    clear KB ED EP EL G2 G3
    go_wp2
    go_ret
    exact ⟨by rw [HE.out, ← e1h.out]; rfl, F3.out⟩
  by_cases h3 : v = 3
  case pos =>
    subst h3
    have HE : Hid (at0 = [117, 110, 107, 110, 111, 119, 110, 32] ++ d ++ [10] ) := by show _ = _; rw [AT.out, if_neg (by simp), if_neg (by decide), if_neg (by decide), if_pos rfl, W3.out]; simp [unkB]
    have s1' : ¬ 9223372036854775807 < 8 + d.length := by omega
    have s2' : ¬ 9223372036854775807 < 8 + d.length + 1 := by omega
    have e1h : Hid ((({ data := #[117, 110, 107, 110, 111, 119, 110, 32] } : ByteArray) ++ ⟨d.toArray⟩ ++ ⟨#[10]⟩) = ⟨([117, 110, 107, 110, 111, 119, 110, 32] ++ d ++ [10]).toArray⟩) := by
      have h1 := ba_app [117, 110, 107, 110, 111, 119, 110, 32] d
      have h2 := ba_app ([117, 110, 107, 110, 111, 119, 110, 32] ++ d) [10]
      show _ = _
      rw [← h2, ← h1]
    go_enter Tryd.func11, Tryd.ntmps11
    go_wp2_with fail
    refine (ED.out _ B0.out).mono ?_
    rintro e w2 ⟨rfl, b1⟩
    have F2 : Hid (Below w.heap.size w w2) := bT B0.out b1
    go_wp2
    go_ret
    exact ⟨by rw [HE.out, ← e1h.out]; rfl, F2.out⟩
  have HE : Hid (at0 = []) := by show _ = _; rw [AT.out, if_neg (by simp), if_neg h1, if_neg h2, if_neg h3]
  go_enter Tryd.func11, Tryd.ntmps11
  go_wp2
  go_ret
  exact ⟨by rw [HE.out]; rfl, B0.out⟩

set_option maxRecDepth 100000 in
set_option maxHeartbeats 4000000 in
/-- impl.AskText. -/
theorem iat_any (v h : Int) (s1 : Option Addr) (c1 : Nat) (pl : List LPl) (s2 : Option Addr) (c2 : Nat) (cs : List LCl) (st cd : Int) (w : World) (hn : pl.length ≤ maxLen) (hk : cs.length ≤ 1048576) (hw : WfPs pl) (hb : WfL (bareC cs)) (hp : Pls w s1 pl) (hz : Cls w s2 cs) (hst : wfI st) (ht : PowTab w) :
    Calls Tryd.prog 13 #[AV v h s1 pl.length c1 s2 cs.length c2 st cd] w fun e w' => e = .returned (.string ⟨(askT v pl (bareC cs) st cd).toArray⟩) ∧ Below w.heap.size w w' := by
  have EP : Hid (∀ W, Below w.heap.size w W → Calls Tryd.prog 8 #[.slice s1 pl.length c1] W fun e w' => e = .returned (.string ⟨(plT pl).toArray⟩) ∧ Below W.heap.size W w') := fun W hW => ipt_any s1 c1 pl W hn hw (hp.below hW) (ht.below hW)
  have EL : Hid (∀ W, Below w.heap.size w W → Calls Tryd.prog 25 #[.slice s2 cs.length c2] W fun e w' => e = .returned (.string ⟨(lemT (bareC cs)).toArray⟩) ∧ Below W.heap.size W w') := fun W hW => by
    have := ilt_any s2 c2 (bareC cs) W (by rw [bareC_lenS]; exact hk) hb (hz.below hW).rowC (ht.below hW)
    rwa [bareC_lenS] at this
  have ED : Hid (∀ W, Below w.heap.size w W → Calls Tryd.prog 23 #[.int .i64 st] W fun e w' => e = .returned (.string ⟨(Lib.itoa st).toArray⟩) ∧ Below W.heap.size W w') := fun W hW => dig_any st hst W (ht.below hW)
  have BL := Lib.hid (plT_le pl hw)
  have LL := Lib.hid (lemT_le (bareC cs))
  have dl := itoa_all st hst
  clear hn hk hw hb hp hz hst ht
  have AT := Lib.hid (show askT v pl (bareC cs) st cd = if cd ≠ 0 then [] else if v = 1 then lineW [yesB, Lib.itoa st] ++ plT pl else if v = 2 then lineW [noB, Lib.itoa st] ++ lemT (bareC cs) else if v = 3 then lineW [unkB, Lib.itoa st] else [] from rfl)
  have W1 := Lib.hid (line2 yesB (Lib.itoa st))
  have W2 := Lib.hid (line2 noB (Lib.itoa st))
  have W3 := Lib.hid (line2 unkB (Lib.itoa st))
  have EC : Hid (∀ (x : List UInt8) (W : World), x.length ≤ 10 → Calls Tryd.prog 24 #[.slice (some ⟨W.heap.size, 0, none⟩) 2 2] (W.alloc (.cells #[.string ⟨x.toArray⟩, .string ⟨(Lib.itoa st).toArray⟩] 9)) fun e w' => e = .returned (.string ⟨(lineW [x, Lib.itoa st]).toArray⟩) ∧ Below (W.alloc (.cells #[.string ⟨x.toArray⟩, .string ⟨(Lib.itoa st).toArray⟩] 9)).heap.size (W.alloc (.cells #[.string ⟨x.toArray⟩, .string ⟨(Lib.itoa st).toArray⟩] 9)) w') := fun x W hx =>
    col_any W.heap.size 2 [x, Lib.itoa st] _ (two_words W x (Lib.itoa st)) (by simp) (by simp) (by simp) (by simp [Lib.join, List.intercalate]; omega)
  generalize askT v pl (bareC cs) st cd = at0 at *
  generalize Lib.itoa st = d at *
  generalize plT pl = pt at *
  generalize lemT (bareC cs) = lt at *
  generalize pl.length = n at *
  generalize cs.length = k at *
  have bl := BL.out
  have ll := LL.out
  have B0 := Lib.hid (bA0 w (.cells #[.int .i64 v, .int .i64 h, .slice s1 n c1, .slice s2 k c2, .int .i64 st, .int .i64 cd] 35))
  have KB : Hid (∀ W, Below (w.alloc (.cells #[.int .i64 v, .int .i64 h, .slice s1 n c1, .slice s2 k c2, .int .i64 st, .int .i64 cd] 35)).heap.size (w.alloc (.cells #[.int .i64 v, .int .i64 h, .slice s1 n c1, .slice s2 k c2, .int .i64 st, .int .i64 cd] 35)) W → w.heap.size < W.heap.size ∧ W.cell? ⟨w.heap.size, 2, none⟩ = some (.slice s1 n c1) ∧ W.cell? ⟨w.heap.size, 3, none⟩ = some (.slice s2 k c2) ∧ W.cell? ⟨w.heap.size, 4, none⟩ = some (.int .i64 st)) := fun W hW => by
    have hs := hW.size
    simp at hs
    obtain ⟨-, -, x2, x3, x4, -, -, -⟩ := six_cells ((hW.block w.heap.size (by simp)).trans (new_at w (.cells #[.int .i64 v, .int .i64 h, .slice s1 n c1, .slice s2 k c2, .int .i64 st, .int .i64 cd] 35)))
    exact ⟨by omega, x2, x3, x4⟩
  by_cases h0 : cd = 0
  case neg =>
    have hc0 : (cd != 0) = true := by simp [h0]
    have HE : Hid (at0 = []) := by show _ = _; rw [AT.out, if_pos h0]
    go_enter Tryd.func13, Tryd.ntmps13
    go_wp2
    go_ret
    exact ⟨by rw [HE.out]; rfl, B0.out⟩
  subst h0
  by_cases h1 : v = 1
  case pos =>
    subst h1
    have HE : Hid (at0 = lineW [yesB, d] ++ pt) := by show _ = _; rw [AT.out, if_neg (by simp), if_pos rfl]
    have EC1 : Hid (∀ W : World, Calls Tryd.prog 24 #[.slice (some ⟨W.heap.size, 0, none⟩) 2 2] (W.alloc (.cells #[.string ⟨#[121, 101, 115]⟩, .string ⟨d.toArray⟩] 9)) fun e w' => e = .returned (.string ⟨(lineW [yesB, d]).toArray⟩) ∧ Below (W.alloc (.cells #[.string ⟨#[121, 101, 115]⟩, .string ⟨d.toArray⟩] 9)).heap.size (W.alloc (.cells #[.string ⟨#[121, 101, 115]⟩, .string ⟨d.toArray⟩] 9)) w') := fun W => EC.out yesB W (by decide)
    have hll : (lineW [yesB, d]).length ≤ 40 := by rw [W1.out]; simp [yesB]; omega
    generalize lineW [yesB, d] = ln at *
    go_enter Tryd.func13, Tryd.ntmps13
    go_wp2_with fail
    refine (ED.out _ B0.out).mono ?_
    rintro e w1 ⟨rfl, b1⟩
    have F1 : Hid (Below w.heap.size w w1) := bT B0.out b1
    have G1 : Hid (Below (w.alloc (.cells #[.int .i64 1, .int .i64 h, .slice s1 n c1, .slice s2 k c2, .int .i64 st, .int .i64 0] 35)).heap.size (w.alloc (.cells #[.int .i64 1, .int .i64 h, .slice s1 n c1, .slice s2 k c2, .int .i64 st, .int .i64 0] 35)) w1) := b1
    clear b1 ED
    obtain ⟨kc, k2, k3, k4⟩ := KB.out _ G1.out
    have k0 : w1.cell? ⟨w.heap.size, 0, none⟩ = some (.int .i64 1) := (six_cells ((G1.out.block w.heap.size (by simp)).trans (new_at w _))).1
    have s3' : ¬ 9223372036854775807 < ln.length + pt.length := by omega
    have e1h : Hid ((({ data := ln.toArray } : ByteArray) ++ ⟨pt.toArray⟩) = ⟨(ln ++ pt).toArray⟩) := ba_app ln pt
    go_wp2_with fail
    refine wp_region_held_drew (S := fun W => w.heap.size < W.heap.size ∧ W.cell? ⟨w.heap.size, 2, none⟩ = some (.slice s1 n c1) ∧ W.cell? ⟨w.heap.size, 3, none⟩ = some (.slice s2 k c2) ∧ W.cell? ⟨w.heap.size, 4, none⟩ = some (.int .i64 st)) (by kernel_rfl) ?_ (fun hHeld => ?_)
    · exact KB.out _ (G1.out).drew
    refine wpAnyH_take (i := 0) (oi := _) (v := ?_) rfl (by kernel_rfl) (by kernel_rfl) (by kernel_rfl) (fun _ _ _ h => h) (Or.inl ⟨by rfl, ?_⟩) (by assumption) ?_
    rotate_left
    · first | (intro w hSw; (try dsimp only at hSw); go_simp; done) | (intro w hSw; (try dsimp only at hSw); go_simp; with_reducible rfl)
    try simp only [Act.put, List.setIfInBounds_toArray, List.set_cons_zero, List.set_cons_succ, List.getElem_toArray, List.getElem_cons_zero]
    refine wpAnyH_take (i := 3) (oi := _) (v := ?_) rfl (by kernel_rfl) (by kernel_rfl) (by kernel_rfl) (fun _ _ _ h => h) (Or.inl ⟨by rfl, ?_⟩) (by assumption) ?_
    rotate_left
    · first | (intro w hSw; (try dsimp only at hSw); go_simp; done) | (intro w hSw; (try dsimp only at hSw); go_simp; with_reducible rfl)
    try simp only [Act.put, List.setIfInBounds_toArray, List.set_cons_zero, List.set_cons_succ, List.getElem_toArray, List.getElem_cons_succ, List.getElem_cons_zero]
    refine wpAnyH_take (i := 4) (oi := _) (v := ?_) rfl (by kernel_rfl) (by kernel_rfl) (by kernel_rfl) (fun _ _ _ h => h) (Or.inl ⟨by rfl, ?_⟩) (by assumption) ?_
    rotate_left
    · first | (intro w hSw; (try dsimp only at hSw); go_simp; done) | (intro w hSw; (try dsimp only at hSw); go_simp; with_reducible rfl)
    try simp only [Act.put, List.setIfInBounds_toArray, List.set_cons_zero, List.set_cons_succ, List.getElem_toArray, List.getElem_cons_succ, List.getElem_cons_zero]
    refine wpAnyH_ready (rs := [1]) (by kernel_rfl) (by simp) ?_
    refine AllReadyH.cons rfl (fun K hK => ?_) AllReadyH.nil
    go_simp
    go_wp2
    refine hK.out _ _ ?_ (fun hHeld => ?_)
    · exact KB.out _ (bA G1.out.drew _)
    clear hK K
    refine wpAnyH_ready (rs := [2]) (by kernel_rfl) (by simp) ?_
    refine AllReadyH.cons rfl (fun K hK => ?_) AllReadyH.nil
    go_simp
    go_wp2_with (go_at_call 24; refine (EC1.out w1.drew).mono ?_; rintro e w2 ⟨rfl, b1⟩)
    have F2 : Hid (Below w.heap.size w w2) := bT (bA F1.out.drew _) b1
    have G2 : Hid (Below (w.alloc (.cells #[.int .i64 1, .int .i64 h, .slice s1 n c1, .slice s2 k c2, .int .i64 st, .int .i64 0] 35)).heap.size (w.alloc (.cells #[.int .i64 1, .int .i64 h, .slice s1 n c1, .slice s2 k c2, .int .i64 st, .int .i64 0] 35)) w2) := bT (bA G1.out.drew _) b1
    clear b1
    refine hK.out _ _ ?_ (fun hHeld => ?_)
    · exact KB.out _ G2.out
    clear hK K
    refine wpAnyH_ready (rs := [5]) (by kernel_rfl) (by simp) ?_
    refine AllReadyH.cons rfl (fun K hK => ?_) AllReadyH.nil
    go_simp
    go_wp2_with (go_at_call 8; refine (EP.out _ F2.out).mono ?_; rintro e w3 ⟨rfl, b1⟩)
    have F3 : Hid (Below w.heap.size w w3) := bT F2.out b1
    have G3 : Hid (Below (w.alloc (.cells #[.int .i64 1, .int .i64 h, .slice s1 n c1, .slice s2 k c2, .int .i64 st, .int .i64 0] 35)).heap.size (w.alloc (.cells #[.int .i64 1, .int .i64 h, .slice s1 n c1, .slice s2 k c2, .int .i64 st, .int .i64 0] 35)) w3) := bT G2.out b1
    clear b1
    refine hK.out _ _ ?_ (fun hHeld => ?_)
    · exact KB.out _ G3.out
    clear hK K
    refine wpAnyH_take (i := 6) (oi := _) (v := ?_) rfl (by kernel_rfl) (by kernel_rfl) (by kernel_rfl) (fun _ _ _ h => h) (Or.inl ⟨by rfl, ?_⟩) (by assumption) ?_
    rotate_left
    · first | (intro w hSw; (try dsimp only at hSw); go_simp; done) | (intro w hSw; (try dsimp only at hSw); go_simp; with_reducible rfl)
    try simp only [Act.put, List.setIfInBounds_toArray, List.set_cons_zero, List.set_cons_succ, List.getElem_toArray, List.getElem_cons_succ, List.getElem_cons_zero]
    refine wpAnyH_take (i := 7) (oi := _) (v := ?_) rfl (by kernel_rfl) (by kernel_rfl) (by kernel_rfl) (fun _ _ _ h => h) (Or.inl ⟨by rfl, ?_⟩) (by assumption) ?_
    rotate_left
    · first | (intro w hSw; (try dsimp only at hSw); go_simp; done) | (intro w hSw; (try dsimp only at hSw); go_simp; with_reducible rfl)
    try simp only [Act.put, List.setIfInBounds_toArray, List.set_cons_zero, List.set_cons_succ, List.getElem_toArray, List.getElem_cons_succ, List.getElem_cons_zero]
    refine wpAnyH_done (by kernel_rfl) ?_ _
    clear KB EC EC1 EP EL G1 G2 G3
    go_wp2
    go_ret
    exact ⟨by rw [HE.out, ← e1h.out]; rfl, F3.out⟩
  by_cases h2 : v = 2
  case pos =>
    subst h2
    have HE : Hid (at0 = lineW [noB, d] ++ lt) := by show _ = _; rw [AT.out, if_neg (by simp), if_neg (by decide), if_pos rfl]
    have EC1 : Hid (∀ W : World, Calls Tryd.prog 24 #[.slice (some ⟨W.heap.size, 0, none⟩) 2 2] (W.alloc (.cells #[.string ⟨#[110, 111]⟩, .string ⟨d.toArray⟩] 9)) fun e w' => e = .returned (.string ⟨(lineW [noB, d]).toArray⟩) ∧ Below (W.alloc (.cells #[.string ⟨#[110, 111]⟩, .string ⟨d.toArray⟩] 9)).heap.size (W.alloc (.cells #[.string ⟨#[110, 111]⟩, .string ⟨d.toArray⟩] 9)) w') := fun W => EC.out noB W (by decide)
    have hll : (lineW [noB, d]).length ≤ 40 := by rw [W2.out]; simp [noB]; omega
    generalize lineW [noB, d] = ln at *
    go_enter Tryd.func13, Tryd.ntmps13
    go_wp2_with fail
    refine (ED.out _ B0.out).mono ?_
    rintro e w1 ⟨rfl, b1⟩
    have F1 : Hid (Below w.heap.size w w1) := bT B0.out b1
    have G1 : Hid (Below (w.alloc (.cells #[.int .i64 2, .int .i64 h, .slice s1 n c1, .slice s2 k c2, .int .i64 st, .int .i64 0] 35)).heap.size (w.alloc (.cells #[.int .i64 2, .int .i64 h, .slice s1 n c1, .slice s2 k c2, .int .i64 st, .int .i64 0] 35)) w1) := b1
    clear b1 ED
    obtain ⟨kc, k2, k3, k4⟩ := KB.out _ G1.out
    have k0 : w1.cell? ⟨w.heap.size, 0, none⟩ = some (.int .i64 2) := (six_cells ((G1.out.block w.heap.size (by simp)).trans (new_at w _))).1
    have s3' : ¬ 9223372036854775807 < ln.length + lt.length := by omega
    have e1h : Hid ((({ data := ln.toArray } : ByteArray) ++ ⟨lt.toArray⟩) = ⟨(ln ++ lt).toArray⟩) := ba_app ln lt
    go_wp2_with fail
    refine wp_region_held_drew (S := fun W => w.heap.size < W.heap.size ∧ W.cell? ⟨w.heap.size, 2, none⟩ = some (.slice s1 n c1) ∧ W.cell? ⟨w.heap.size, 3, none⟩ = some (.slice s2 k c2) ∧ W.cell? ⟨w.heap.size, 4, none⟩ = some (.int .i64 st)) (by kernel_rfl) ?_ (fun hHeld => ?_)
    · exact KB.out _ (G1.out).drew
    refine wpAnyH_take (i := 0) (oi := _) (v := ?_) rfl (by kernel_rfl) (by kernel_rfl) (by kernel_rfl) (fun _ _ _ h => h) (Or.inl ⟨by rfl, ?_⟩) (by assumption) ?_
    rotate_left
    · first | (intro w hSw; (try dsimp only at hSw); go_simp; done) | (intro w hSw; (try dsimp only at hSw); go_simp; with_reducible rfl)
    try simp only [Act.put, List.setIfInBounds_toArray, List.set_cons_zero, List.set_cons_succ, List.getElem_toArray, List.getElem_cons_zero]
    refine wpAnyH_take (i := 3) (oi := _) (v := ?_) rfl (by kernel_rfl) (by kernel_rfl) (by kernel_rfl) (fun _ _ _ h => h) (Or.inl ⟨by rfl, ?_⟩) (by assumption) ?_
    rotate_left
    · first | (intro w hSw; (try dsimp only at hSw); go_simp; done) | (intro w hSw; (try dsimp only at hSw); go_simp; with_reducible rfl)
    try simp only [Act.put, List.setIfInBounds_toArray, List.set_cons_zero, List.set_cons_succ, List.getElem_toArray, List.getElem_cons_succ, List.getElem_cons_zero]
    refine wpAnyH_take (i := 4) (oi := _) (v := ?_) rfl (by kernel_rfl) (by kernel_rfl) (by kernel_rfl) (fun _ _ _ h => h) (Or.inl ⟨by rfl, ?_⟩) (by assumption) ?_
    rotate_left
    · first | (intro w hSw; (try dsimp only at hSw); go_simp; done) | (intro w hSw; (try dsimp only at hSw); go_simp; with_reducible rfl)
    try simp only [Act.put, List.setIfInBounds_toArray, List.set_cons_zero, List.set_cons_succ, List.getElem_toArray, List.getElem_cons_succ, List.getElem_cons_zero]
    refine wpAnyH_ready (rs := [1]) (by kernel_rfl) (by simp) ?_
    refine AllReadyH.cons rfl (fun K hK => ?_) AllReadyH.nil
    go_simp
    go_wp2
    refine hK.out _ _ ?_ (fun hHeld => ?_)
    · exact KB.out _ (bA G1.out.drew _)
    clear hK K
    refine wpAnyH_ready (rs := [2]) (by kernel_rfl) (by simp) ?_
    refine AllReadyH.cons rfl (fun K hK => ?_) AllReadyH.nil
    go_simp
    go_wp2_with (go_at_call 24; refine (EC1.out w1.drew).mono ?_; rintro e w2 ⟨rfl, b1⟩)
    have F2 : Hid (Below w.heap.size w w2) := bT (bA F1.out.drew _) b1
    have G2 : Hid (Below (w.alloc (.cells #[.int .i64 2, .int .i64 h, .slice s1 n c1, .slice s2 k c2, .int .i64 st, .int .i64 0] 35)).heap.size (w.alloc (.cells #[.int .i64 2, .int .i64 h, .slice s1 n c1, .slice s2 k c2, .int .i64 st, .int .i64 0] 35)) w2) := bT (bA G1.out.drew _) b1
    clear b1
    refine hK.out _ _ ?_ (fun hHeld => ?_)
    · exact KB.out _ G2.out
    clear hK K
    refine wpAnyH_ready (rs := [5]) (by kernel_rfl) (by simp) ?_
    refine AllReadyH.cons rfl (fun K hK => ?_) AllReadyH.nil
    go_simp
    go_wp2_with (go_at_call 25; refine (EL.out _ F2.out).mono ?_; rintro e w3 ⟨rfl, b1⟩)
    have F3 : Hid (Below w.heap.size w w3) := bT F2.out b1
    have G3 : Hid (Below (w.alloc (.cells #[.int .i64 2, .int .i64 h, .slice s1 n c1, .slice s2 k c2, .int .i64 st, .int .i64 0] 35)).heap.size (w.alloc (.cells #[.int .i64 2, .int .i64 h, .slice s1 n c1, .slice s2 k c2, .int .i64 st, .int .i64 0] 35)) w3) := bT G2.out b1
    clear b1
    refine hK.out _ _ ?_ (fun hHeld => ?_)
    · exact KB.out _ G3.out
    clear hK K
    refine wpAnyH_take (i := 6) (oi := _) (v := ?_) rfl (by kernel_rfl) (by kernel_rfl) (by kernel_rfl) (fun _ _ _ h => h) (Or.inl ⟨by rfl, ?_⟩) (by assumption) ?_
    rotate_left
    · first | (intro w hSw; (try dsimp only at hSw); go_simp; done) | (intro w hSw; (try dsimp only at hSw); go_simp; with_reducible rfl)
    try simp only [Act.put, List.setIfInBounds_toArray, List.set_cons_zero, List.set_cons_succ, List.getElem_toArray, List.getElem_cons_succ, List.getElem_cons_zero]
    refine wpAnyH_take (i := 7) (oi := _) (v := ?_) rfl (by kernel_rfl) (by kernel_rfl) (by kernel_rfl) (fun _ _ _ h => h) (Or.inl ⟨by rfl, ?_⟩) (by assumption) ?_
    rotate_left
    · first | (intro w hSw; (try dsimp only at hSw); go_simp; done) | (intro w hSw; (try dsimp only at hSw); go_simp; with_reducible rfl)
    try simp only [Act.put, List.setIfInBounds_toArray, List.set_cons_zero, List.set_cons_succ, List.getElem_toArray, List.getElem_cons_succ, List.getElem_cons_zero]
    refine wpAnyH_done (by kernel_rfl) ?_ _
    clear KB EC EC1 EP EL G1 G2 G3
    go_wp2
    go_ret
    exact ⟨by rw [HE.out, ← e1h.out]; rfl, F3.out⟩
  by_cases h3 : v = 3
  case pos =>
    subst h3
    have HE : Hid (at0 = lineW [unkB, d] ) := by show _ = _; rw [AT.out, if_neg (by simp), if_neg (by decide), if_neg (by decide), if_pos rfl]
    have EC1 : Hid (∀ W : World, Calls Tryd.prog 24 #[.slice (some ⟨W.heap.size, 0, none⟩) 2 2] (W.alloc (.cells #[.string ⟨#[117, 110, 107, 110, 111, 119, 110]⟩, .string ⟨d.toArray⟩] 9)) fun e w' => e = .returned (.string ⟨(lineW [unkB, d]).toArray⟩) ∧ Below (W.alloc (.cells #[.string ⟨#[117, 110, 107, 110, 111, 119, 110]⟩, .string ⟨d.toArray⟩] 9)).heap.size (W.alloc (.cells #[.string ⟨#[117, 110, 107, 110, 111, 119, 110]⟩, .string ⟨d.toArray⟩] 9)) w') := fun W => EC.out unkB W (by decide)
    have hll : (lineW [unkB, d]).length ≤ 40 := by rw [W3.out]; simp [unkB]; omega
    generalize lineW [unkB, d] = ln at *
    go_enter Tryd.func13, Tryd.ntmps13
    go_wp2_with fail
    refine (ED.out _ B0.out).mono ?_
    rintro e w1 ⟨rfl, b1⟩
    have F1 : Hid (Below w.heap.size w w1) := bT B0.out b1
    have G1 : Hid (Below (w.alloc (.cells #[.int .i64 3, .int .i64 h, .slice s1 n c1, .slice s2 k c2, .int .i64 st, .int .i64 0] 35)).heap.size (w.alloc (.cells #[.int .i64 3, .int .i64 h, .slice s1 n c1, .slice s2 k c2, .int .i64 st, .int .i64 0] 35)) w1) := b1
    clear b1 ED
    obtain ⟨kc, k2, k3, k4⟩ := KB.out _ G1.out
    have k0 : w1.cell? ⟨w.heap.size, 0, none⟩ = some (.int .i64 3) := (six_cells ((G1.out.block w.heap.size (by simp)).trans (new_at w _))).1
    go_wp2_with fail
    refine (EC1.out _).mono ?_
    rintro e w2 ⟨rfl, b2⟩
    have F2 := Lib.hid (bT (bA F1.out _) b2)
    go_wp2
    go_ret
    exact ⟨by rw [HE.out]; rfl, F2.out⟩
  have HE : Hid (at0 = []) := by show _ = _; rw [AT.out, if_neg (by simp), if_neg h1, if_neg h2, if_neg h3]
  go_enter Tryd.func13, Tryd.ntmps13
  go_wp2_with fail
  refine (ED.out _ B0.out).mono ?_
  rintro e w1 ⟨rfl, b1⟩
  have F1 : Hid (Below w.heap.size w w1) := bT B0.out b1
  have k0 : w1.cell? ⟨w.heap.size, 0, none⟩ = some (.int .i64 v) := (six_cells ((b1.block w.heap.size (by simp)).trans (new_at w _))).1
  clear b1 ED
  go_wp2
  go_ret
  exact ⟨by rw [HE.out]; rfl, F1.out⟩
end Go.Proofs.YtllaiigjkchahaaDoor
