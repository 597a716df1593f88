/-
  IS A CLOCK RIGHT? As the program answers it.
-/
import Derived.Test.YtanoklpffenljaaGreatDoorCe
import Derived.Test.YtanoklpffenljaaGreatDoorPx
namespace Go.Proofs.YtanoklpffenljaaGreatDoor
open Go.RowKit
set_option linter.unusedVariables false

/-- A right clock, as the program asks it. -/
def ClkR (rs : List LSt) (ps : List LPr) (top pr st bu : Int) (bs : List LPr) (ls : List LPl) : Prop :=
  TabR rs ps ∧ NumR top pr st bu ∧ BidsR bs (idsL rs) ∧ planB rs ps top ls = true ∧ pidsA ls = stIds 3 bs
set_option maxRecDepth 100000 in
set_option maxHeartbeats 4000000 in
/-- impl.ClockRight. -/
theorem icr_any (sl : Option Addr) (cap : Nat) (tl : Option Addr) (kap : Nat) (top pr st bu : Int) (bl : Option Addr) (cb : Nat) (pl : Option Addr) (cp : Nat) (rs : List LSt) (ps : List LPr) (bs : List LPr) (ls : List LPl) (w : World) (hn : rs.length ≤ 1048576) (hq : bs.length ≤ 1048576) (hl : ls.length ≤ 1048576) (hcp : ls.length ≤ cp) (hz : Sts w sl rs) (hp : Prs w tl ps) (hw : ∀ p ∈ ps, WfP p) (hbs : Prs w bl bs) (hls : Pls w pl ls) :
    Calls Tryz.prog 28 #[CV sl rs.length cap tl ps.length kap top pr st bu bl bs.length cb pl ls.length cp] w fun e w' => e = .returned (.bool (B (ClkR rs ps top pr st bu bs ls))) ∧ Below w.heap.size w w' := by
  have TR : Hid (∀ W, Below w.heap.size w W → Calls Tryz.prog 61 #[TV sl rs.length cap tl ps.length kap] W fun e w' => e = .returned (.bool (B (TabR rs ps))) ∧ Below W.heap.size W w') := fun W hW => itr_any sl cap tl kap rs ps W (hz.below hW) (hp.below hW) hw
  have NU := Lib.hid (num_any top pr st bu)
  have ID : Hid (∀ W, Below w.heap.size w W → Calls Tryz.prog 64 #[TV sl rs.length cap tl ps.length kap] W fun e w' => ∃ s k, e = .returned (.slice s rs.length k) ∧ Ints w' s (idsL rs) ∧ Below W.heap.size W w') := fun W hW => (ids_any sl cap tl ps.length kap rs W hn (hz.below hW)).mono fun e w' ⟨v, e1, o1, b1⟩ => by
    rw [← idsL_len] at o1 ⊢
    obtain ⟨s, k, rfl, hi⟩ := own_ints o1
    exact ⟨s, k, e1, hi, b1⟩
  have BR : Hid (∀ W s k, Below w.heap.size w W → Ints W s (idsL rs) → Calls Tryz.prog 63 #[.slice bl bs.length cb, .slice s rs.length k] W fun e w' => e = .returned (.bool (B (BidsR bs (idsL rs)))) ∧ Below W.heap.size W w') := fun W s k hW hi => by
    have := br_any bl cb bs s k (idsL rs) W hq (by rw [idsL_len]; exact hn) (hbs.below hW) hi
    rwa [idsL_len] at this
  have PR : Hid (∀ W, Below w.heap.size w W → Calls Tryz.prog 65 #[TV sl rs.length cap tl ps.length kap, .int .i64 top, .slice pl ls.length cp] W fun e w' => e = .returned (.bool (planB rs ps top ls)) ∧ Below W.heap.size W w') := fun W hW => ipr_any sl cap tl kap pl cp rs ps ls top W hn hl (hz.below hW) (hp.below hW) hw (hls.below hW) hcp
  have PI : Hid (∀ W, Below w.heap.size w W → Calls Tryz.prog 67 #[.slice pl ls.length cp] W fun e w' => ∃ s k, e = .returned (.slice s (pidsA ls).length k) ∧ Ints w' s (pidsA ls) ∧ Below W.heap.size W w') := fun W hW => (ipi_any pl cp ls W (by unfold maxLen; omega) (hls.below hW)).mono fun e w' ⟨v, e1, o1, b1⟩ => by
    obtain ⟨s, k, rfl, hi⟩ := own_ints o1
    exact ⟨s, k, e1, hi, b1⟩
  have IT : Hid (∀ W, Below w.heap.size w W → Calls Tryz.prog 68 #[.slice bl bs.length cb, .func (.func 69) #[.int .i64 3] #[]] W fun e w' => ∃ s k, e = .returned (.slice s (stIds 3 bs).length k) ∧ Ints w' s (stIds 3 bs) ∧ Below W.heap.size W w') := fun W hW => (it_any bl cb bs 3 W hq (hbs.below hW)).mono fun e w' ⟨v, e1, o1, b1⟩ => by
    obtain ⟨s, k, rfl, hi⟩ := own_ints o1
    exact ⟨s, k, e1, hi, b1⟩
  have EQ : Hid (∀ W s k s' k', Ints W s (pidsA ls) → Ints W s' (stIds 3 bs) → Calls Tryz.prog 66 #[.slice s (pidsA ls).length k, .slice s' (stIds 3 bs).length k'] W fun e w' => e = .returned (.bool (B (pidsA ls = stIds 3 bs))) ∧ Below W.heap.size W w') := fun W s k s' k' h1 h2 => eqz_any s k _ s' k' _ W (by have := pidsA_len ls; omega) (by have := stIds_len 3 bs; omega) h1 h2
  clear hz hp hw hbs hls hcp
  by_cases g1 : TabR rs ps
  case neg =>
    rw [B_no (fun h => g1 h.1)]
    rw [B_no g1] at TR
    clear g1 NU ID BR PR PI IT EQ
    generalize rs.length = n at *
    generalize ps.length = m at *
    generalize bs.length = q at *
    generalize ls.length = p at *
    have B0 := Lib.hid (bA0 w (.cells (CC sl n cap tl m kap top pr st bu bl q cb pl p cp) 39))
    have N0 := Lib.hid (new_at w (.cells (CC sl n cap tl m kap top pr st bu bl q cb pl p cp) 39))
    have hS : (w.alloc (.cells (CC sl n cap tl m kap top pr st bu bl q cb pl p cp) 39)).heap.size = w.heap.size + 1 := by simp
    have KC : Hid (∀ W, Below (w.heap.size + 1) (w.alloc (.cells (CC sl n cap tl m kap top pr st bu bl q cb pl p cp) 39)) W → W.heap[w.heap.size]? = some (.cells (CC sl n cap tl m kap top pr st bu bl q cb pl p cp) 39)) := fun W hW => (hW.block w.heap.size (by omega)).trans N0.out
    clear N0
    go_enter Tryz.func28, Tryz.ntmps28
    go_wp2_with fail
    refine (TR.out _ B0.out).mono ?_
    rintro e w1 ⟨rfl, b1⟩
    have D1 := Lib.hid (bT B0.out b1)
    have k1 := KC.out w1 (by rw [← hS]; exact b1)
    obtain ⟨c0, c1, c2, c3, c4, c5, c6, c7, cf, cl⟩ := cells8 k1
    have M1 := Lib.hid k1
    clear b1 k1

    go_wp2
    go_ret
    exact ⟨rfl, D1.out⟩
  rw [B_yes g1] at TR
  by_cases g2 : NumR top pr st bu
  case neg =>
    rw [B_no (fun h => g2 h.2.1)]
    rw [B_no g2] at NU
    clear g1 g2 ID BR PR PI IT EQ
    generalize rs.length = n at *
    generalize ps.length = m at *
    generalize bs.length = q at *
    generalize ls.length = p at *
    have B0 := Lib.hid (bA0 w (.cells (CC sl n cap tl m kap top pr st bu bl q cb pl p cp) 39))
    have N0 := Lib.hid (new_at w (.cells (CC sl n cap tl m kap top pr st bu bl q cb pl p cp) 39))
    have hS : (w.alloc (.cells (CC sl n cap tl m kap top pr st bu bl q cb pl p cp) 39)).heap.size = w.heap.size + 1 := by simp
    have KC : Hid (∀ W, Below (w.heap.size + 1) (w.alloc (.cells (CC sl n cap tl m kap top pr st bu bl q cb pl p cp) 39)) W → W.heap[w.heap.size]? = some (.cells (CC sl n cap tl m kap top pr st bu bl q cb pl p cp) 39)) := fun W hW => (hW.block w.heap.size (by omega)).trans N0.out
    clear N0
    go_enter Tryz.func28, Tryz.ntmps28
    go_wp2_with fail
    refine (TR.out _ B0.out).mono ?_
    rintro e w1 ⟨rfl, b1⟩
    have D1 := Lib.hid (bT B0.out b1)
    have k1 := KC.out w1 (by rw [← hS]; exact b1)
    obtain ⟨c0, c1, c2, c3, c4, c5, c6, c7, cf, cl⟩ := cells8 k1
    have M1 := Lib.hid k1
    clear b1 k1
    go_wp2_with fail
    refine (NU.out _).mono ?_
    rintro e w1' ⟨rfl, rfl⟩

    go_wp2
    go_ret
    exact ⟨rfl, D1.out⟩
  rw [B_yes g2] at NU
  by_cases g3 : BidsR bs (idsL rs)
  case neg =>
    rw [B_no (fun h => g3 h.2.2.1)]
    rw [B_no g3] at BR
    clear g1 g2 g3 PR PI IT EQ
    generalize rs.length = n at *
    generalize ps.length = m at *
    generalize bs.length = q at *
    generalize ls.length = p at *
    have B0 := Lib.hid (bA0 w (.cells (CC sl n cap tl m kap top pr st bu bl q cb pl p cp) 39))
    have N0 := Lib.hid (new_at w (.cells (CC sl n cap tl m kap top pr st bu bl q cb pl p cp) 39))
    have hS : (w.alloc (.cells (CC sl n cap tl m kap top pr st bu bl q cb pl p cp) 39)).heap.size = w.heap.size + 1 := by simp
    have KC : Hid (∀ W, Below (w.heap.size + 1) (w.alloc (.cells (CC sl n cap tl m kap top pr st bu bl q cb pl p cp) 39)) W → W.heap[w.heap.size]? = some (.cells (CC sl n cap tl m kap top pr st bu bl q cb pl p cp) 39)) := fun W hW => (hW.block w.heap.size (by omega)).trans N0.out
    clear N0
    go_enter Tryz.func28, Tryz.ntmps28
    go_wp2_with fail
    refine (TR.out _ B0.out).mono ?_
    rintro e w1 ⟨rfl, b1⟩
    have D1 := Lib.hid (bT B0.out b1)
    have k1 := KC.out w1 (by rw [← hS]; exact b1)
    obtain ⟨c0, c1, c2, c3, c4, c5, c6, c7, cf, cl⟩ := cells8 k1
    have M1 := Lib.hid k1
    clear b1 k1
    have KX : Hid (∀ W, Below w1.heap.size w1 W → w.heap.size < W.heap.size ∧ W.cell? ⟨w.heap.size, 0, none⟩ = some (.slice sl n cap) ∧ W.cell? ⟨w.heap.size, 1, none⟩ = some (.slice tl m kap) ∧ W.cell? ⟨w.heap.size, 2, none⟩ = some (.int .i64 top) ∧ W.cell? ⟨w.heap.size, 6, none⟩ = some (.slice bl q cb) ∧ W.cell? ⟨w.heap.size, 7, none⟩ = some (.slice pl p cp)) := fun W hW => by
      obtain ⟨c0, c1, c2, c3, c4, c5, c6, c7, cf, cl⟩ := cells8 ((hW.block _ cl).trans M1.out)
      exact ⟨cl, c0, c1, c2, c6, c7⟩
    go_wp2_with fail
    refine (NU.out _).mono ?_
    rintro e w1' ⟨rfl, rfl⟩
    go_wp2_with fail
    refine wp_region_held_drew (S := fun W => w.heap.size < W.heap.size ∧ W.cell? ⟨w.heap.size, 0, none⟩ = some (.slice sl n cap) ∧ W.cell? ⟨w.heap.size, 1, none⟩ = some (.slice tl m kap) ∧ W.cell? ⟨w.heap.size, 2, none⟩ = some (.int .i64 top) ∧ W.cell? ⟨w.heap.size, 6, none⟩ = some (.slice bl q cb) ∧ W.cell? ⟨w.heap.size, 7, none⟩ = some (.slice pl p cp)) (by kernel_rfl) ?_ (fun hHeld => ?_)
    · exact KX.out _ (Below.refl _ _).drew
    refine wpAnyH_take (i := 0) (oi := _) (v := ?_) rfl (by kernel_rfl) (by kernel_rfl) (by kernel_rfl) (fun _ _ _ h => h) (Or.inl ⟨by rfl, ?_⟩) (by assumption) ?_
    rotate_left
    · first | (intro w hSw; (try dsimp only at hSw); go_simp; done) | (intro w hSw; (try dsimp only at hSw); go_simp; with_reducible rfl)
    try simp only [Act.put, List.setIfInBounds_toArray, List.set_cons_zero, List.set_cons_succ, List.getElem_toArray, List.getElem_cons_zero]
    refine wpAnyH_take (i := 1) (oi := _) (v := ?_) rfl (by kernel_rfl) (by kernel_rfl) (by kernel_rfl) (fun _ _ _ h => h) (Or.inl ⟨by rfl, ?_⟩) (by assumption) ?_
    rotate_left
    · first | (intro w hSw; (try dsimp only at hSw); go_simp; done) | (intro w hSw; (try dsimp only at hSw); go_simp; with_reducible rfl)
    try simp only [Act.put, List.setIfInBounds_toArray, List.set_cons_zero, List.set_cons_succ, List.getElem_toArray, List.getElem_cons_succ, List.getElem_cons_zero]
    refine wpAnyH_take (i := 2) (oi := _) (v := ?_) rfl (by kernel_rfl) (by kernel_rfl) (by kernel_rfl) (fun _ _ _ h => h) (Or.inl ⟨by rfl, ?_⟩) (by assumption) ?_
    rotate_left
    · first | (intro w hSw; (try dsimp only at hSw); go_simp; done) | (intro w hSw; (try dsimp only at hSw); go_simp; with_reducible rfl)
    try simp only [Act.put, List.setIfInBounds_toArray, List.set_cons_zero, List.set_cons_succ, List.getElem_toArray, List.getElem_cons_succ, List.getElem_cons_zero]
    refine wpAnyH_take (i := 3) (oi := _) (v := ?_) rfl (by kernel_rfl) (by kernel_rfl) (by kernel_rfl) (fun _ _ _ h => h) (Or.inl ⟨by rfl, ?_⟩) (by assumption) ?_
    rotate_left
    · first | (intro w hSw; (try dsimp only at hSw); go_simp; done) | (intro w hSw; (try dsimp only at hSw); go_simp; with_reducible rfl)
    try simp only [Act.put, List.setIfInBounds_toArray, List.set_cons_zero, List.set_cons_succ, List.getElem_toArray, List.getElem_cons_succ, List.getElem_cons_zero]
    refine wpAnyH_ready (rs := [4]) (by kernel_rfl) (by simp) ?_
    refine AllReadyH.cons rfl (fun K hK => ?_) AllReadyH.nil
    go_simp
    go_wp2_with (go_at_call 64; refine (ID.out _ D1.out.drew).mono ?_; rintro e w2 ⟨s, k, rfl, i2, b2⟩)
    have F2 : Hid (Below w1.heap.size w1 w2) := bT ((Below.refl w1.heap.size w1).drew) b2
    have I2 := Lib.hid i2
    clear b2 i2
    refine hK.out _ _ ?_ (fun hHeld => ?_)
    · exact KX.out _ F2.out
    clear hK K
    refine wpAnyH_ready (rs := [5]) (by kernel_rfl) (by simp) ?_
    refine AllReadyH.cons rfl (fun K hK => ?_) AllReadyH.nil
    go_simp
    go_wp2_with (go_at_call 63; refine (BR.out _ s k (bT D1.out F2.out) I2.out).mono ?_; rintro e w3 ⟨rfl, b3⟩)
    have F3 : Hid (Below w1.heap.size w1 w3) := bT F2.out b3
    clear b3
    refine hK.out _ _ ?_ (fun hHeld => ?_)
    · exact KX.out _ F3.out
    clear hK K
    refine wpAnyH_take (i := 6) (oi := _) (v := ?_) rfl (by kernel_rfl) (by kernel_rfl) (by kernel_rfl) (fun _ _ _ h => h) (Or.inl ⟨by rfl, ?_⟩) (by assumption) ?_
    rotate_left
    · first | (intro w hSw; (try dsimp only at hSw); go_simp; done) | (intro w hSw; (try dsimp only at hSw); go_simp; with_reducible rfl)
    try simp only [Act.put, List.setIfInBounds_toArray, List.set_cons_zero, List.set_cons_succ, List.getElem_toArray, List.getElem_cons_succ, List.getElem_cons_zero]
    refine wpAnyH_take (i := 7) (oi := _) (v := ?_) rfl (by kernel_rfl) (by kernel_rfl) (by kernel_rfl) (fun _ _ _ h => h) (Or.inl ⟨by rfl, ?_⟩) (by assumption) ?_
    rotate_left
    · first | (intro w hSw; (try dsimp only at hSw); go_simp; done) | (intro w hSw; (try dsimp only at hSw); go_simp; with_reducible rfl)
    try simp only [Act.put, List.setIfInBounds_toArray, List.set_cons_zero, List.set_cons_succ, List.getElem_toArray, List.getElem_cons_succ, List.getElem_cons_zero]
    refine wpAnyH_take (i := 8) (oi := _) (v := undef) rfl (by kernel_rfl) (by kernel_rfl) (by kernel_rfl) (fun _ _ _ h => h) (Or.inr ⟨by rfl, rfl⟩) (by assumption) ?_
    try simp only [Act.put, List.setIfInBounds_toArray, List.set_cons_zero, List.set_cons_succ, List.getElem_toArray, List.getElem_cons_succ, List.getElem_cons_zero]
    refine wpAnyH_take (i := 9) (oi := _) (v := undef) rfl (by kernel_rfl) (by kernel_rfl) (by kernel_rfl) (fun _ _ _ h => h) (Or.inr ⟨by rfl, rfl⟩) (by assumption) ?_
    try simp only [Act.put, List.setIfInBounds_toArray, List.set_cons_zero, List.set_cons_succ, List.getElem_toArray, List.getElem_cons_succ, List.getElem_cons_zero]
    refine wpAnyH_take (i := 10) (oi := _) (v := undef) rfl (by kernel_rfl) (by kernel_rfl) (by kernel_rfl) (fun _ _ _ h => h) (Or.inr ⟨by rfl, rfl⟩) (by assumption) ?_
    try simp only [Act.put, List.setIfInBounds_toArray, List.set_cons_zero, List.set_cons_succ, List.getElem_toArray, List.getElem_cons_succ, List.getElem_cons_zero]
    refine wpAnyH_take (i := 11) (oi := _) (v := undef) rfl (by kernel_rfl) (by kernel_rfl) (by kernel_rfl) (fun _ _ _ h => h) (Or.inr ⟨by rfl, rfl⟩) (by assumption) ?_
    try simp only [Act.put, List.setIfInBounds_toArray, List.set_cons_zero, List.set_cons_succ, List.getElem_toArray, List.getElem_cons_succ, List.getElem_cons_zero]
    refine wpAnyH_take (i := 12) (oi := _) (v := undef) rfl (by kernel_rfl) (by kernel_rfl) (by kernel_rfl) (fun _ _ _ h => h) (Or.inr ⟨by rfl, rfl⟩) (by assumption) ?_
    try simp only [Act.put, List.setIfInBounds_toArray, List.set_cons_zero, List.set_cons_succ, List.getElem_toArray, List.getElem_cons_succ, List.getElem_cons_zero]
    refine wpAnyH_take (i := 13) (oi := _) (v := undef) rfl (by kernel_rfl) (by kernel_rfl) (by kernel_rfl) (fun _ _ _ h => h) (Or.inr ⟨by rfl, rfl⟩) (by assumption) ?_
    try simp only [Act.put, List.setIfInBounds_toArray, List.set_cons_zero, List.set_cons_succ, List.getElem_toArray, List.getElem_cons_succ, List.getElem_cons_zero]
    refine wpAnyH_take (i := 14) (oi := _) (v := undef) rfl (by kernel_rfl) (by kernel_rfl) (by kernel_rfl) (fun _ _ _ h => h) (Or.inr ⟨by rfl, rfl⟩) (by assumption) ?_
    try simp only [Act.put, List.setIfInBounds_toArray, List.set_cons_zero, List.set_cons_succ, List.getElem_toArray, List.getElem_cons_succ, List.getElem_cons_zero]
    refine wpAnyH_take (i := 15) (oi := _) (v := undef) rfl (by kernel_rfl) (by kernel_rfl) (by kernel_rfl) (fun _ _ _ h => h) (Or.inr ⟨by rfl, rfl⟩) (by assumption) ?_
    try simp only [Act.put, List.setIfInBounds_toArray, List.set_cons_zero, List.set_cons_succ, List.getElem_toArray, List.getElem_cons_succ, List.getElem_cons_zero]
    refine wpAnyH_take (i := 16) (oi := _) (v := ?_) rfl (by kernel_rfl) (by kernel_rfl) (by kernel_rfl) (fun _ _ _ h => h) (Or.inl ⟨by rfl, ?_⟩) (by assumption) ?_
    rotate_left
    · first | (intro w hSw; (try dsimp only at hSw); go_simp; done) | (intro w hSw; (try dsimp only at hSw); go_simp; with_reducible rfl)
    try simp only [Act.put, List.setIfInBounds_toArray, List.set_cons_zero, List.set_cons_succ, List.getElem_toArray, List.getElem_cons_succ, List.getElem_cons_zero]
    refine wpAnyH_done (by kernel_rfl) ?_ _

    go_wp2
    go_ret
    exact ⟨rfl, bT D1.out F3.out⟩
  rw [B_yes g3] at BR
  by_cases g4 : planB rs ps top ls = true
  case neg =>
    rw [B_no (fun h => g4 h.2.2.2.1)]
    rw [show planB rs ps top ls = false by simpa using g4] at PR
    clear g1 g2 g3 g4 PI IT EQ
    generalize rs.length = n at *
    generalize ps.length = m at *
    generalize bs.length = q at *
    generalize ls.length = p at *
    have B0 := Lib.hid (bA0 w (.cells (CC sl n cap tl m kap top pr st bu bl q cb pl p cp) 39))
    have N0 := Lib.hid (new_at w (.cells (CC sl n cap tl m kap top pr st bu bl q cb pl p cp) 39))
    have hS : (w.alloc (.cells (CC sl n cap tl m kap top pr st bu bl q cb pl p cp) 39)).heap.size = w.heap.size + 1 := by simp
    have KC : Hid (∀ W, Below (w.heap.size + 1) (w.alloc (.cells (CC sl n cap tl m kap top pr st bu bl q cb pl p cp) 39)) W → W.heap[w.heap.size]? = some (.cells (CC sl n cap tl m kap top pr st bu bl q cb pl p cp) 39)) := fun W hW => (hW.block w.heap.size (by omega)).trans N0.out
    clear N0
    go_enter Tryz.func28, Tryz.ntmps28
    go_wp2_with fail
    refine (TR.out _ B0.out).mono ?_
    rintro e w1 ⟨rfl, b1⟩
    have D1 := Lib.hid (bT B0.out b1)
    have k1 := KC.out w1 (by rw [← hS]; exact b1)
    obtain ⟨c0, c1, c2, c3, c4, c5, c6, c7, cf, cl⟩ := cells8 k1
    have M1 := Lib.hid k1
    clear b1 k1
    have KX : Hid (∀ W, Below w1.heap.size w1 W → w.heap.size < W.heap.size ∧ W.cell? ⟨w.heap.size, 0, none⟩ = some (.slice sl n cap) ∧ W.cell? ⟨w.heap.size, 1, none⟩ = some (.slice tl m kap) ∧ W.cell? ⟨w.heap.size, 2, none⟩ = some (.int .i64 top) ∧ W.cell? ⟨w.heap.size, 6, none⟩ = some (.slice bl q cb) ∧ W.cell? ⟨w.heap.size, 7, none⟩ = some (.slice pl p cp)) := fun W hW => by
      obtain ⟨c0, c1, c2, c3, c4, c5, c6, c7, cf, cl⟩ := cells8 ((hW.block _ cl).trans M1.out)
      exact ⟨cl, c0, c1, c2, c6, c7⟩
    go_wp2_with fail
    refine (NU.out _).mono ?_
    rintro e w1' ⟨rfl, rfl⟩
    go_wp2_with fail
    refine wp_region_held_drew (S := fun W => w.heap.size < W.heap.size ∧ W.cell? ⟨w.heap.size, 0, none⟩ = some (.slice sl n cap) ∧ W.cell? ⟨w.heap.size, 1, none⟩ = some (.slice tl m kap) ∧ W.cell? ⟨w.heap.size, 2, none⟩ = some (.int .i64 top) ∧ W.cell? ⟨w.heap.size, 6, none⟩ = some (.slice bl q cb) ∧ W.cell? ⟨w.heap.size, 7, none⟩ = some (.slice pl p cp)) (by kernel_rfl) ?_ (fun hHeld => ?_)
    · exact KX.out _ (Below.refl _ _).drew
    refine wpAnyH_take (i := 0) (oi := _) (v := ?_) rfl (by kernel_rfl) (by kernel_rfl) (by kernel_rfl) (fun _ _ _ h => h) (Or.inl ⟨by rfl, ?_⟩) (by assumption) ?_
    rotate_left
    · first | (intro w hSw; (try dsimp only at hSw); go_simp; done) | (intro w hSw; (try dsimp only at hSw); go_simp; with_reducible rfl)
    try simp only [Act.put, List.setIfInBounds_toArray, List.set_cons_zero, List.set_cons_succ, List.getElem_toArray, List.getElem_cons_zero]
    refine wpAnyH_take (i := 1) (oi := _) (v := ?_) rfl (by kernel_rfl) (by kernel_rfl) (by kernel_rfl) (fun _ _ _ h => h) (Or.inl ⟨by rfl, ?_⟩) (by assumption) ?_
    rotate_left
    · first | (intro w hSw; (try dsimp only at hSw); go_simp; done) | (intro w hSw; (try dsimp only at hSw); go_simp; with_reducible rfl)
    try simp only [Act.put, List.setIfInBounds_toArray, List.set_cons_zero, List.set_cons_succ, List.getElem_toArray, List.getElem_cons_succ, List.getElem_cons_zero]
    refine wpAnyH_take (i := 2) (oi := _) (v := ?_) rfl (by kernel_rfl) (by kernel_rfl) (by kernel_rfl) (fun _ _ _ h => h) (Or.inl ⟨by rfl, ?_⟩) (by assumption) ?_
    rotate_left
    · first | (intro w hSw; (try dsimp only at hSw); go_simp; done) | (intro w hSw; (try dsimp only at hSw); go_simp; with_reducible rfl)
    try simp only [Act.put, List.setIfInBounds_toArray, List.set_cons_zero, List.set_cons_succ, List.getElem_toArray, List.getElem_cons_succ, List.getElem_cons_zero]
    refine wpAnyH_take (i := 3) (oi := _) (v := ?_) rfl (by kernel_rfl) (by kernel_rfl) (by kernel_rfl) (fun _ _ _ h => h) (Or.inl ⟨by rfl, ?_⟩) (by assumption) ?_
    rotate_left
    · first | (intro w hSw; (try dsimp only at hSw); go_simp; done) | (intro w hSw; (try dsimp only at hSw); go_simp; with_reducible rfl)
    try simp only [Act.put, List.setIfInBounds_toArray, List.set_cons_zero, List.set_cons_succ, List.getElem_toArray, List.getElem_cons_succ, List.getElem_cons_zero]
    refine wpAnyH_ready (rs := [4]) (by kernel_rfl) (by simp) ?_
    refine AllReadyH.cons rfl (fun K hK => ?_) AllReadyH.nil
    go_simp
    go_wp2_with (go_at_call 64; refine (ID.out _ D1.out.drew).mono ?_; rintro e w2 ⟨s, k, rfl, i2, b2⟩)
    have F2 : Hid (Below w1.heap.size w1 w2) := bT ((Below.refl w1.heap.size w1).drew) b2
    have I2 := Lib.hid i2
    clear b2 i2
    refine hK.out _ _ ?_ (fun hHeld => ?_)
    · exact KX.out _ F2.out
    clear hK K
    refine wpAnyH_ready (rs := [5]) (by kernel_rfl) (by simp) ?_
    refine AllReadyH.cons rfl (fun K hK => ?_) AllReadyH.nil
    go_simp
    go_wp2_with (go_at_call 63; refine (BR.out _ s k (bT D1.out F2.out) I2.out).mono ?_; rintro e w3 ⟨rfl, b3⟩)
    have F3 : Hid (Below w1.heap.size w1 w3) := bT F2.out b3
    clear b3
    refine hK.out _ _ ?_ (fun hHeld => ?_)
    · exact KX.out _ F3.out
    clear hK K
    refine wpAnyH_take (i := 6) (oi := _) (v := ?_) rfl (by kernel_rfl) (by kernel_rfl) (by kernel_rfl) (fun _ _ _ h => h) (Or.inl ⟨by rfl, ?_⟩) (by assumption) ?_
    rotate_left
    · first | (intro w hSw; (try dsimp only at hSw); go_simp; done) | (intro w hSw; (try dsimp only at hSw); go_simp; with_reducible rfl)
    try simp only [Act.put, List.setIfInBounds_toArray, List.set_cons_zero, List.set_cons_succ, List.getElem_toArray, List.getElem_cons_succ, List.getElem_cons_zero]
    refine wpAnyH_take (i := 7) (oi := _) (v := ?_) rfl (by kernel_rfl) (by kernel_rfl) (by kernel_rfl) (fun _ _ _ h => h) (Or.inl ⟨by rfl, ?_⟩) (by assumption) ?_
    rotate_left
    · first | (intro w hSw; (try dsimp only at hSw); go_simp; done) | (intro w hSw; (try dsimp only at hSw); go_simp; with_reducible rfl)
    try simp only [Act.put, List.setIfInBounds_toArray, List.set_cons_zero, List.set_cons_succ, List.getElem_toArray, List.getElem_cons_succ, List.getElem_cons_zero]
    refine wpAnyH_take (i := 8) (oi := _) (v := ?_) rfl (by kernel_rfl) (by kernel_rfl) (by kernel_rfl) (fun _ _ _ h => h) (Or.inl ⟨by rfl, ?_⟩) (by assumption) ?_
    rotate_left
    · first | (intro w hSw; (try dsimp only at hSw); go_simp; done) | (intro w hSw; (try dsimp only at hSw); go_simp; with_reducible rfl)
    try simp only [Act.put, List.setIfInBounds_toArray, List.set_cons_zero, List.set_cons_succ, List.getElem_toArray, List.getElem_cons_succ, List.getElem_cons_zero]
    refine wpAnyH_take (i := 9) (oi := _) (v := ?_) rfl (by kernel_rfl) (by kernel_rfl) (by kernel_rfl) (fun _ _ _ h => h) (Or.inl ⟨by rfl, ?_⟩) (by assumption) ?_
    rotate_left
    · first | (intro w hSw; (try dsimp only at hSw); go_simp; done) | (intro w hSw; (try dsimp only at hSw); go_simp; with_reducible rfl)
    try simp only [Act.put, List.setIfInBounds_toArray, List.set_cons_zero, List.set_cons_succ, List.getElem_toArray, List.getElem_cons_succ, List.getElem_cons_zero]
    refine wpAnyH_take (i := 10) (oi := _) (v := ?_) rfl (by kernel_rfl) (by kernel_rfl) (by kernel_rfl) (fun _ _ _ h => h) (Or.inl ⟨by rfl, ?_⟩) (by assumption) ?_
    rotate_left
    · first | (intro w hSw; (try dsimp only at hSw); go_simp; done) | (intro w hSw; (try dsimp only at hSw); go_simp; with_reducible rfl)
    try simp only [Act.put, List.setIfInBounds_toArray, List.set_cons_zero, List.set_cons_succ, List.getElem_toArray, List.getElem_cons_succ, List.getElem_cons_zero]
    refine wpAnyH_take (i := 11) (oi := _) (v := ?_) rfl (by kernel_rfl) (by kernel_rfl) (by kernel_rfl) (fun _ _ _ h => h) (Or.inl ⟨by rfl, ?_⟩) (by assumption) ?_
    rotate_left
    · first | (intro w hSw; (try dsimp only at hSw); go_simp; done) | (intro w hSw; (try dsimp only at hSw); go_simp; with_reducible rfl)
    try simp only [Act.put, List.setIfInBounds_toArray, List.set_cons_zero, List.set_cons_succ, List.getElem_toArray, List.getElem_cons_succ, List.getElem_cons_zero]
    refine wpAnyH_take (i := 12) (oi := _) (v := ?_) rfl (by kernel_rfl) (by kernel_rfl) (by kernel_rfl) (fun _ _ _ h => h) (Or.inl ⟨by rfl, ?_⟩) (by assumption) ?_
    rotate_left
    · first | (intro w hSw; (try dsimp only at hSw); go_simp; done) | (intro w hSw; (try dsimp only at hSw); go_simp; with_reducible rfl)
    try simp only [Act.put, List.setIfInBounds_toArray, List.set_cons_zero, List.set_cons_succ, List.getElem_toArray, List.getElem_cons_succ, List.getElem_cons_zero]
    refine wpAnyH_take (i := 13) (oi := _) (v := ?_) rfl (by kernel_rfl) (by kernel_rfl) (by kernel_rfl) (fun _ _ _ h => h) (Or.inl ⟨by rfl, ?_⟩) (by assumption) ?_
    rotate_left
    · first | (intro w hSw; (try dsimp only at hSw); go_simp; done) | (intro w hSw; (try dsimp only at hSw); go_simp; with_reducible rfl)
    try simp only [Act.put, List.setIfInBounds_toArray, List.set_cons_zero, List.set_cons_succ, List.getElem_toArray, List.getElem_cons_succ, List.getElem_cons_zero]
    refine wpAnyH_ready (rs := [14]) (by kernel_rfl) (by simp) ?_
    refine AllReadyH.cons rfl (fun K hK => ?_) AllReadyH.nil
    go_simp
    go_wp2_with (go_at_call 65; refine (PR.out _ (bT D1.out F3.out)).mono ?_; rintro e w4 ⟨rfl, b4⟩)
    have F4 : Hid (Below w1.heap.size w1 w4) := bT F3.out b4
    clear b4
    refine hK.out _ _ ?_ (fun hHeld => ?_)
    · exact KX.out _ F4.out
    clear hK K
    refine wpAnyH_take (i := 15) (oi := _) (v := ?_) rfl (by kernel_rfl) (by kernel_rfl) (by kernel_rfl) (fun _ _ _ h => h) (Or.inl ⟨by rfl, ?_⟩) (by assumption) ?_
    rotate_left
    · first | (intro w hSw; (try dsimp only at hSw); go_simp; done) | (intro w hSw; (try dsimp only at hSw); go_simp; with_reducible rfl)
    try simp only [Act.put, List.setIfInBounds_toArray, List.set_cons_zero, List.set_cons_succ, List.getElem_toArray, List.getElem_cons_succ, List.getElem_cons_zero]
    refine wpAnyH_take (i := 16) (oi := _) (v := ?_) rfl (by kernel_rfl) (by kernel_rfl) (by kernel_rfl) (fun _ _ _ h => h) (Or.inl ⟨by rfl, ?_⟩) (by assumption) ?_
    rotate_left
    · first | (intro w hSw; (try dsimp only at hSw); go_simp; done) | (intro w hSw; (try dsimp only at hSw); go_simp; with_reducible rfl)
    try simp only [Act.put, List.setIfInBounds_toArray, List.set_cons_zero, List.set_cons_succ, List.getElem_toArray, List.getElem_cons_succ, List.getElem_cons_zero]
    refine wpAnyH_done (by kernel_rfl) ?_ _

    go_wp2
    go_ret
    exact ⟨rfl, bT D1.out F4.out⟩
  rw [g4] at PR
  rw [show B (ClkR rs ps top pr st bu bs ls) = B (pidsA ls = stIds 3 bs) from B_iff ⟨fun h => h.2.2.2.2, fun h => ⟨g1, g2, g3, g4, h⟩⟩]
  clear g1 g2 g3 g4
  generalize B (pidsA ls = stIds 3 bs) = r at *
  generalize rs.length = n at *
  generalize ps.length = m at *
  generalize bs.length = q at *
  generalize ls.length = p at *
  generalize (pidsA ls).length = a at *
  generalize (stIds 3 bs).length = b at *
  have B0 := Lib.hid (bA0 w (.cells (CC sl n cap tl m kap top pr st bu bl q cb pl p cp) 39))
  have N0 := Lib.hid (new_at w (.cells (CC sl n cap tl m kap top pr st bu bl q cb pl p cp) 39))
  have hS : (w.alloc (.cells (CC sl n cap tl m kap top pr st bu bl q cb pl p cp) 39)).heap.size = w.heap.size + 1 := by simp
  have KC : Hid (∀ W, Below (w.heap.size + 1) (w.alloc (.cells (CC sl n cap tl m kap top pr st bu bl q cb pl p cp) 39)) W → W.heap[w.heap.size]? = some (.cells (CC sl n cap tl m kap top pr st bu bl q cb pl p cp) 39)) := fun W hW => (hW.block w.heap.size (by omega)).trans N0.out
  clear N0
  go_enter Tryz.func28, Tryz.ntmps28
  go_wp2_with fail
  refine (TR.out _ B0.out).mono ?_
  rintro e w1 ⟨rfl, b1⟩
  have D1 := Lib.hid (bT B0.out b1)
  have k1 := KC.out w1 (by rw [← hS]; exact b1)
  obtain ⟨c0, c1, c2, c3, c4, c5, c6, c7, cf, cl⟩ := cells8 k1
  have M1 := Lib.hid k1
  clear b1 k1
  have KX : Hid (∀ W, Below w1.heap.size w1 W → w.heap.size < W.heap.size ∧ W.cell? ⟨w.heap.size, 0, none⟩ = some (.slice sl n cap) ∧ W.cell? ⟨w.heap.size, 1, none⟩ = some (.slice tl m kap) ∧ W.cell? ⟨w.heap.size, 2, none⟩ = some (.int .i64 top) ∧ W.cell? ⟨w.heap.size, 6, none⟩ = some (.slice bl q cb) ∧ W.cell? ⟨w.heap.size, 7, none⟩ = some (.slice pl p cp)) := fun W hW => by
    obtain ⟨c0, c1, c2, c3, c4, c5, c6, c7, cf, cl⟩ := cells8 ((hW.block _ cl).trans M1.out)
    exact ⟨cl, c0, c1, c2, c6, c7⟩
  go_wp2_with fail
  refine (NU.out _).mono ?_
  rintro e w1' ⟨rfl, rfl⟩
  go_wp2_with fail
  refine wp_region_held_drew (S := fun W => w.heap.size < W.heap.size ∧ W.cell? ⟨w.heap.size, 0, none⟩ = some (.slice sl n cap) ∧ W.cell? ⟨w.heap.size, 1, none⟩ = some (.slice tl m kap) ∧ W.cell? ⟨w.heap.size, 2, none⟩ = some (.int .i64 top) ∧ W.cell? ⟨w.heap.size, 6, none⟩ = some (.slice bl q cb) ∧ W.cell? ⟨w.heap.size, 7, none⟩ = some (.slice pl p cp)) (by kernel_rfl) ?_ (fun hHeld => ?_)
  · exact KX.out _ (Below.refl _ _).drew
  refine wpAnyH_take (i := 0) (oi := _) (v := ?_) rfl (by kernel_rfl) (by kernel_rfl) (by kernel_rfl) (fun _ _ _ h => h) (Or.inl ⟨by rfl, ?_⟩) (by assumption) ?_
  rotate_left
  · first | (intro w hSw; (try dsimp only at hSw); go_simp; done) | (intro w hSw; (try dsimp only at hSw); go_simp; with_reducible rfl)
  try simp only [Act.put, List.setIfInBounds_toArray, List.set_cons_zero, List.set_cons_succ, List.getElem_toArray, List.getElem_cons_zero]
  refine wpAnyH_take (i := 1) (oi := _) (v := ?_) rfl (by kernel_rfl) (by kernel_rfl) (by kernel_rfl) (fun _ _ _ h => h) (Or.inl ⟨by rfl, ?_⟩) (by assumption) ?_
  rotate_left
  · first | (intro w hSw; (try dsimp only at hSw); go_simp; done) | (intro w hSw; (try dsimp only at hSw); go_simp; with_reducible rfl)
  try simp only [Act.put, List.setIfInBounds_toArray, List.set_cons_zero, List.set_cons_succ, List.getElem_toArray, List.getElem_cons_succ, List.getElem_cons_zero]
  refine wpAnyH_take (i := 2) (oi := _) (v := ?_) rfl (by kernel_rfl) (by kernel_rfl) (by kernel_rfl) (fun _ _ _ h => h) (Or.inl ⟨by rfl, ?_⟩) (by assumption) ?_
  rotate_left
  · first | (intro w hSw; (try dsimp only at hSw); go_simp; done) | (intro w hSw; (try dsimp only at hSw); go_simp; with_reducible rfl)
  try simp only [Act.put, List.setIfInBounds_toArray, List.set_cons_zero, List.set_cons_succ, List.getElem_toArray, List.getElem_cons_succ, List.getElem_cons_zero]
  refine wpAnyH_take (i := 3) (oi := _) (v := ?_) rfl (by kernel_rfl) (by kernel_rfl) (by kernel_rfl) (fun _ _ _ h => h) (Or.inl ⟨by rfl, ?_⟩) (by assumption) ?_
  rotate_left
  · first | (intro w hSw; (try dsimp only at hSw); go_simp; done) | (intro w hSw; (try dsimp only at hSw); go_simp; with_reducible rfl)
  try simp only [Act.put, List.setIfInBounds_toArray, List.set_cons_zero, List.set_cons_succ, List.getElem_toArray, List.getElem_cons_succ, List.getElem_cons_zero]
  refine wpAnyH_ready (rs := [4]) (by kernel_rfl) (by simp) ?_
  refine AllReadyH.cons rfl (fun K hK => ?_) AllReadyH.nil
  go_simp
  go_wp2_with (go_at_call 64; refine (ID.out _ D1.out.drew).mono ?_; rintro e w2 ⟨s, k, rfl, i2, b2⟩)
  have F2 : Hid (Below w1.heap.size w1 w2) := bT ((Below.refl w1.heap.size w1).drew) b2
  have I2 := Lib.hid i2
  clear b2 i2
  refine hK.out _ _ ?_ (fun hHeld => ?_)
  · exact KX.out _ F2.out
  clear hK K
  refine wpAnyH_ready (rs := [5]) (by kernel_rfl) (by simp) ?_
  refine AllReadyH.cons rfl (fun K hK => ?_) AllReadyH.nil
  go_simp
  go_wp2_with (go_at_call 63; refine (BR.out _ s k (bT D1.out F2.out) I2.out).mono ?_; rintro e w3 ⟨rfl, b3⟩)
  have F3 : Hid (Below w1.heap.size w1 w3) := bT F2.out b3
  clear b3
  refine hK.out _ _ ?_ (fun hHeld => ?_)
  · exact KX.out _ F3.out
  clear hK K
  refine wpAnyH_take (i := 6) (oi := _) (v := ?_) rfl (by kernel_rfl) (by kernel_rfl) (by kernel_rfl) (fun _ _ _ h => h) (Or.inl ⟨by rfl, ?_⟩) (by assumption) ?_
  rotate_left
  · first | (intro w hSw; (try dsimp only at hSw); go_simp; done) | (intro w hSw; (try dsimp only at hSw); go_simp; with_reducible rfl)
  try simp only [Act.put, List.setIfInBounds_toArray, List.set_cons_zero, List.set_cons_succ, List.getElem_toArray, List.getElem_cons_succ, List.getElem_cons_zero]
  refine wpAnyH_take (i := 7) (oi := _) (v := ?_) rfl (by kernel_rfl) (by kernel_rfl) (by kernel_rfl) (fun _ _ _ h => h) (Or.inl ⟨by rfl, ?_⟩) (by assumption) ?_
  rotate_left
  · first | (intro w hSw; (try dsimp only at hSw); go_simp; done) | (intro w hSw; (try dsimp only at hSw); go_simp; with_reducible rfl)
  try simp only [Act.put, List.setIfInBounds_toArray, List.set_cons_zero, List.set_cons_succ, List.getElem_toArray, List.getElem_cons_succ, List.getElem_cons_zero]
  refine wpAnyH_take (i := 8) (oi := _) (v := ?_) rfl (by kernel_rfl) (by kernel_rfl) (by kernel_rfl) (fun _ _ _ h => h) (Or.inl ⟨by rfl, ?_⟩) (by assumption) ?_
  rotate_left
  · first | (intro w hSw; (try dsimp only at hSw); go_simp; done) | (intro w hSw; (try dsimp only at hSw); go_simp; with_reducible rfl)
  try simp only [Act.put, List.setIfInBounds_toArray, List.set_cons_zero, List.set_cons_succ, List.getElem_toArray, List.getElem_cons_succ, List.getElem_cons_zero]
  refine wpAnyH_take (i := 9) (oi := _) (v := ?_) rfl (by kernel_rfl) (by kernel_rfl) (by kernel_rfl) (fun _ _ _ h => h) (Or.inl ⟨by rfl, ?_⟩) (by assumption) ?_
  rotate_left
  · first | (intro w hSw; (try dsimp only at hSw); go_simp; done) | (intro w hSw; (try dsimp only at hSw); go_simp; with_reducible rfl)
  try simp only [Act.put, List.setIfInBounds_toArray, List.set_cons_zero, List.set_cons_succ, List.getElem_toArray, List.getElem_cons_succ, List.getElem_cons_zero]
  refine wpAnyH_take (i := 10) (oi := _) (v := ?_) rfl (by kernel_rfl) (by kernel_rfl) (by kernel_rfl) (fun _ _ _ h => h) (Or.inl ⟨by rfl, ?_⟩) (by assumption) ?_
  rotate_left
  · first | (intro w hSw; (try dsimp only at hSw); go_simp; done) | (intro w hSw; (try dsimp only at hSw); go_simp; with_reducible rfl)
  try simp only [Act.put, List.setIfInBounds_toArray, List.set_cons_zero, List.set_cons_succ, List.getElem_toArray, List.getElem_cons_succ, List.getElem_cons_zero]
  refine wpAnyH_take (i := 11) (oi := _) (v := ?_) rfl (by kernel_rfl) (by kernel_rfl) (by kernel_rfl) (fun _ _ _ h => h) (Or.inl ⟨by rfl, ?_⟩) (by assumption) ?_
  rotate_left
  · first | (intro w hSw; (try dsimp only at hSw); go_simp; done) | (intro w hSw; (try dsimp only at hSw); go_simp; with_reducible rfl)
  try simp only [Act.put, List.setIfInBounds_toArray, List.set_cons_zero, List.set_cons_succ, List.getElem_toArray, List.getElem_cons_succ, List.getElem_cons_zero]
  refine wpAnyH_take (i := 12) (oi := _) (v := ?_) rfl (by kernel_rfl) (by kernel_rfl) (by kernel_rfl) (fun _ _ _ h => h) (Or.inl ⟨by rfl, ?_⟩) (by assumption) ?_
  rotate_left
  · first | (intro w hSw; (try dsimp only at hSw); go_simp; done) | (intro w hSw; (try dsimp only at hSw); go_simp; with_reducible rfl)
  try simp only [Act.put, List.setIfInBounds_toArray, List.set_cons_zero, List.set_cons_succ, List.getElem_toArray, List.getElem_cons_succ, List.getElem_cons_zero]
  refine wpAnyH_take (i := 13) (oi := _) (v := ?_) rfl (by kernel_rfl) (by kernel_rfl) (by kernel_rfl) (fun _ _ _ h => h) (Or.inl ⟨by rfl, ?_⟩) (by assumption) ?_
  rotate_left
  · first | (intro w hSw; (try dsimp only at hSw); go_simp; done) | (intro w hSw; (try dsimp only at hSw); go_simp; with_reducible rfl)
  try simp only [Act.put, List.setIfInBounds_toArray, List.set_cons_zero, List.set_cons_succ, List.getElem_toArray, List.getElem_cons_succ, List.getElem_cons_zero]
  refine wpAnyH_ready (rs := [14]) (by kernel_rfl) (by simp) ?_
  refine AllReadyH.cons rfl (fun K hK => ?_) AllReadyH.nil
  go_simp
  go_wp2_with (go_at_call 65; refine (PR.out _ (bT D1.out F3.out)).mono ?_; rintro e w4 ⟨rfl, b4⟩)
  have F4 : Hid (Below w1.heap.size w1 w4) := bT F3.out b4
  clear b4
  refine hK.out _ _ ?_ (fun hHeld => ?_)
  · exact KX.out _ F4.out
  clear hK K
  refine wpAnyH_take (i := 15) (oi := _) (v := ?_) rfl (by kernel_rfl) (by kernel_rfl) (by kernel_rfl) (fun _ _ _ h => h) (Or.inl ⟨by rfl, ?_⟩) (by assumption) ?_
  rotate_left
  · first | (intro w hSw; (try dsimp only at hSw); go_simp; done) | (intro w hSw; (try dsimp only at hSw); go_simp; with_reducible rfl)
  try simp only [Act.put, List.setIfInBounds_toArray, List.set_cons_zero, List.set_cons_succ, List.getElem_toArray, List.getElem_cons_succ, List.getElem_cons_zero]
  refine wpAnyH_take (i := 16) (oi := _) (v := ?_) rfl (by kernel_rfl) (by kernel_rfl) (by kernel_rfl) (fun _ _ _ h => h) (Or.inl ⟨by rfl, ?_⟩) (by assumption) ?_
  rotate_left
  · first | (intro w hSw; (try dsimp only at hSw); go_simp; done) | (intro w hSw; (try dsimp only at hSw); go_simp; with_reducible rfl)
  try simp only [Act.put, List.setIfInBounds_toArray, List.set_cons_zero, List.set_cons_succ, List.getElem_toArray, List.getElem_cons_succ, List.getElem_cons_zero]
  refine wpAnyH_done (by kernel_rfl) ?_ _
  have D5 := Lib.hid (bT D1.out F4.out)
  have KY : Hid (∀ W, Below w4.heap.size w4 W → w.heap.size < W.heap.size ∧ W.cell? ⟨w.heap.size, 0, none⟩ = some (.slice sl n cap) ∧ W.cell? ⟨w.heap.size, 1, none⟩ = some (.slice tl m kap) ∧ W.cell? ⟨w.heap.size, 2, none⟩ = some (.int .i64 top) ∧ W.cell? ⟨w.heap.size, 6, none⟩ = some (.slice bl q cb) ∧ W.cell? ⟨w.heap.size, 7, none⟩ = some (.slice pl p cp)) := fun W hW => KX.out W (bT F4.out hW)
  have k4 := (F4.out.block _ cl).trans M1.out
  clear c0 c1 c2 c3 c4 c5 c6 c7 cf cl
  obtain ⟨c0, c1, c2, c3, c4, c5, c6, c7, cf, cl⟩ := cells8 k4
  clear k4 KX F4 F3 F2 I2 D1 M1
  go_wp2_with fail
  refine wp_region_held_drew (S := fun W => w.heap.size < W.heap.size ∧ W.cell? ⟨w.heap.size, 0, none⟩ = some (.slice sl n cap) ∧ W.cell? ⟨w.heap.size, 1, none⟩ = some (.slice tl m kap) ∧ W.cell? ⟨w.heap.size, 2, none⟩ = some (.int .i64 top) ∧ W.cell? ⟨w.heap.size, 6, none⟩ = some (.slice bl q cb) ∧ W.cell? ⟨w.heap.size, 7, none⟩ = some (.slice pl p cp)) (by kernel_rfl) ?_ (fun hHeld => ?_)
  · exact KY.out _ (Below.refl _ _).drew
  refine wpAnyH_take (i := 0) (oi := _) (v := ?_) rfl (by kernel_rfl) (by kernel_rfl) (by kernel_rfl) (fun _ _ _ h => h) (Or.inl ⟨by rfl, ?_⟩) (by assumption) ?_
  rotate_left
  · first | (intro w hSw; (try dsimp only at hSw); go_simp; done) | (intro w hSw; (try dsimp only at hSw); go_simp; with_reducible rfl)
  try simp only [Act.put, List.setIfInBounds_toArray, List.set_cons_zero, List.set_cons_succ, List.getElem_toArray, List.getElem_cons_zero]
  refine wpAnyH_take (i := 1) (oi := _) (v := ?_) rfl (by kernel_rfl) (by kernel_rfl) (by kernel_rfl) (fun _ _ _ h => h) (Or.inl ⟨by rfl, ?_⟩) (by assumption) ?_
  rotate_left
  · first | (intro w hSw; (try dsimp only at hSw); go_simp; done) | (intro w hSw; (try dsimp only at hSw); go_simp; with_reducible rfl)
  try simp only [Act.put, List.setIfInBounds_toArray, List.set_cons_zero, List.set_cons_succ, List.getElem_toArray, List.getElem_cons_succ, List.getElem_cons_zero]
  refine wpAnyH_take (i := 3) (oi := _) (v := ?_) rfl (by kernel_rfl) (by kernel_rfl) (by kernel_rfl) (fun _ _ _ h => h) (Or.inl ⟨by rfl, ?_⟩) (by assumption) ?_
  rotate_left
  · first | (intro w hSw; (try dsimp only at hSw); go_simp; done) | (intro w hSw; (try dsimp only at hSw); go_simp; with_reducible rfl)
  try simp only [Act.put, List.setIfInBounds_toArray, List.set_cons_zero, List.set_cons_succ, List.getElem_toArray, List.getElem_cons_succ, List.getElem_cons_zero]
  refine wpAnyH_take (i := 4) (oi := _) (v := ?_) rfl (by kernel_rfl) (by kernel_rfl) (by kernel_rfl) (fun _ _ _ h => h) (Or.inl ⟨by rfl, ?_⟩) (by assumption) ?_
  rotate_left
  · first | (intro w hSw; (try dsimp only at hSw); go_simp; done) | (intro w hSw; (try dsimp only at hSw); go_simp; with_reducible rfl)
  try simp only [Act.put, List.setIfInBounds_toArray, List.set_cons_zero, List.set_cons_succ, List.getElem_toArray, List.getElem_cons_succ, List.getElem_cons_zero]
  refine wpAnyH_take (i := 5) (oi := _) (v := ?_) rfl (by kernel_rfl) (by kernel_rfl) (by kernel_rfl) (fun _ _ _ h => h) (Or.inl ⟨by rfl, ?_⟩) (by assumption) ?_
  rotate_left
  · first | (intro w hSw; (try dsimp only at hSw); go_simp; done) | (intro w hSw; (try dsimp only at hSw); go_simp; with_reducible rfl)
  try simp only [Act.put, List.setIfInBounds_toArray, List.set_cons_zero, List.set_cons_succ, List.getElem_toArray, List.getElem_cons_succ, List.getElem_cons_zero]
  refine wpAnyH_ready (rs := [2]) (by kernel_rfl) (by simp) ?_
  refine AllReadyH.cons rfl (fun K hK => ?_) AllReadyH.nil
  go_simp
  go_wp2_with (go_at_call 67; refine (PI.out _ D5.out.drew).mono ?_; rintro e w6 ⟨s6, k6, rfl, i6, b6⟩)
  have F6 : Hid (Below w4.heap.size w4 w6) := bT ((Below.refl w4.heap.size w4).drew) b6
  have I6 := Lib.hid i6
  clear b6 i6
  refine hK.out _ _ ?_ (fun hHeld => ?_)
  · exact KY.out _ F6.out
  clear hK K
  refine wpAnyH_ready (rs := [6]) (by kernel_rfl) (by simp) ?_
  refine AllReadyH.cons rfl (fun K hK => ?_) AllReadyH.nil
  go_simp
  go_wp2_with (go_at_call 68; refine (IT.out _ (bT D5.out F6.out)).mono ?_; rintro e w7 ⟨s7, k7, rfl, i7, b7⟩)
  have F7 : Hid (Below w4.heap.size w4 w7) := bT F6.out b7
  have I7 := Lib.hid i7
  have J6 := Lib.hid (I6.out.below b7)
  clear b7 i7 I6
  refine hK.out _ _ ?_ (fun hHeld => ?_)
  · exact KY.out _ F7.out
  clear hK K
  refine wpAnyH_ready (rs := [7]) (by kernel_rfl) (by simp) ?_
  refine AllReadyH.cons rfl (fun K hK => ?_) AllReadyH.nil
  go_simp
  go_wp2_with (go_at_call 66; refine (EQ.out _ s6 k6 s7 k7 J6.out I7.out).mono ?_; rintro e w8 ⟨rfl, b8⟩)
  have F8 : Hid (Below w4.heap.size w4 w8) := bT F7.out b8
  clear b8
  refine hK.out _ _ ?_ (fun hHeld => ?_)
  · exact KY.out _ F8.out
  clear hK K
  refine wpAnyH_take (i := 8) (oi := _) (v := ?_) rfl (by kernel_rfl) (by kernel_rfl) (by kernel_rfl) (fun _ _ _ h => h) (Or.inl ⟨by rfl, ?_⟩) (by assumption) ?_
  rotate_left
  · first | (intro w hSw; (try dsimp only at hSw); go_simp; done) | (intro w hSw; (try dsimp only at hSw); go_simp; with_reducible rfl)
  try simp only [Act.put, List.setIfInBounds_toArray, List.set_cons_zero, List.set_cons_succ, List.getElem_toArray, List.getElem_cons_succ, List.getElem_cons_zero]
  refine wpAnyH_done (by kernel_rfl) ?_ _

  go_wp2
  go_ret
  exact ⟨rfl, bT D5.out F8.out⟩

end Go.Proofs.YtanoklpffenljaaGreatDoor
