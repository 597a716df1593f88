/-
  A STAGE AS TEXT: both StageText.
-/
import Derived.Test.YtanoklpffenljaaGreatDoorXy
namespace Go.Proofs.YtanoklpffenljaaGreatDoor
open Go.RowKit
set_option linter.unusedVariables false

def stgW : List UInt8 := [115, 116, 97, 103, 101]
def topW : List UInt8 := [116, 111, 112]
noncomputable def sgT (rs : List LSt) (ps : List LPr) (top pr st bu : Int) (bs : List LPr) (ls : List LPl) (us : List Int) (ai fx : Int) (gc gf : Bool) : List UInt8 :=
  if B (StgR rs ps top pr st bu bs ls us ai fx gc gf) = true then lineW [stgW, Lib.itoa ai] ++ lineW [topW, Lib.itoa top] ++ bdsT rs ps top pr st bu bs ls ++ plT ls ++ pyT rs ps top pr st bu bs ls us ai fx gc gf else []
theorem bdsT_le (rs : List LSt) (ps : List LPr) (top pr st bu : Int) (bs : List LPr) (ls : List LPl) : (bdsT rs ps top pr st bu bs ls).length ≤ 648 := by
  unfold bdsT
  split
  · rename_i h
    have hb := clk_bds (B_true h)
    have := bdsB_le bs hb.2 bs.length
    rw [List.take_length] at this
    omega
  · simp
theorem plT_le (pl : List LPl) (h : WfPs pl) : (plT pl).length ≤ 17600 := by
  unfold plT
  split
  · have := plsB_le pl h pl.length
    rw [List.take_length] at this
    omega
  · simp
theorem pyT_le (rs : List LSt) (ps : List LPr) (top pr st bu : Int) (bs : List LPr) (ls : List LPl) (us : List Int) (ai fx : Int) (gc gf : Bool) : (pyT rs ps top pr st bu bs ls us ai fx gc gf).length ≤ 700 := by
  unfold pyT
  split
  · rename_i h
    have hb := clk_pay (B_true h.1).1
    have h1 := pysB_le (paysL bs) hb (paysL bs).length
    rw [List.take_length] at h1
    have h2 := hb.len
    have h3 := mtextOf_le (sumP (paysL bs))
    rw [List.length_append, line2]
    simp [totW]
    omega
  · simp

set_option maxRecDepth 100000 in
set_option maxHeartbeats 4000000 in
/-- spec.StageText. -/
theorem sst_any (sl : Option Addr) (cap : Nat) (tl : Option Addr) (kap : Nat) (top pr st bu : Int) (bl : Option Addr) (cb : Nat) (pl : Option Addr) (cp : Nat) (ul : Option Addr) (cu : Nat) (ai fx : Int) (gc gf : Bool) (rs : List LSt) (ps : List LPr) (bs : List LPr) (ls : List LPl) (us : List Int) (w : World) (hn : rs.length ≤ 1048576) (hq : bs.length ≤ 1048576) (hl : ls.length ≤ 1048576) (hu : us.length ≤ 1048576) (hz : Sts w sl rs) (hp : Prs w tl ps) (hwl : WfPs ls) (hbs : Prs w bl bs) (hls : Pls w pl ls) (hus : Ints w ul us) (hai : wfI ai) (htp : wfI top) :
    Calls Tryz.prog 16 #[SgV sl rs.length cap tl ps.length kap top pr st bu bl bs.length cb pl ls.length cp ul us.length cu ai fx gc gf] w fun e w' => e = .returned (.string ⟨(sgT rs ps top pr st bu bs ls us ai fx gc gf).toArray⟩) ∧ Below w.heap.size w w' := by
  have CR : Hid (∀ W, Below w.heap.size w W → Calls Tryz.prog 35 #[SgV sl rs.length cap tl ps.length kap top pr st bu bl bs.length cb pl ls.length cp ul us.length cu ai fx gc gf] W fun e w' => e = .returned (.bool (B (StgR rs ps top pr st bu bs ls us ai fx gc gf))) ∧ Below W.heap.size W w') := fun W hW => ssr_any sl cap tl kap top pr st bu bl cb pl cp ul cu ai fx gc gf rs ps bs ls us W hn hq hl hu (hz.below hW) (hp.below hW) (hbs.below hW) (hls.below hW) (hus.below hW)
  have CB : Hid (∀ W, Below w.heap.size w W → Calls Tryz.prog 7 #[CV sl rs.length cap tl ps.length kap top pr st bu bl bs.length cb pl ls.length cp] W fun e w' => e = .returned (.string ⟨(bdsT rs ps top pr st bu bs ls).toArray⟩) ∧ Below W.heap.size W w') := fun W hW => sbt_any sl cap tl kap top pr st bu bl cb pl cp rs ps bs ls W hn hq hl (hz.below hW) (hp.below hW) (hbs.below hW) (hls.below hW)
  have CL : Hid (∀ W, Below w.heap.size w W → Calls Tryz.prog 45 #[.slice pl ls.length cp] W fun e w' => e = .returned (.string ⟨(plT ls).toArray⟩) ∧ Below W.heap.size W w') := fun W hW => spt_any pl cp ls W (by unfold maxLen; omega) hwl (hls.below hW)
  have CY : Hid (∀ W, Below w.heap.size w W → Calls Tryz.prog 12 #[SgV sl rs.length cap tl ps.length kap top pr st bu bl bs.length cb pl ls.length cp ul us.length cu ai fx gc gf] W fun e w' => e = .returned (.string ⟨(pyT rs ps top pr st bu bs ls us ai fx gc gf).toArray⟩) ∧ Below W.heap.size W w') := fun W hW => spy_any sl cap tl kap top pr st bu bl cb pl cp ul cu ai fx gc gf rs ps bs ls us W hn hq hl hu (hz.below hW) (hp.below hW) (hbs.below hW) (hls.below hW) (hus.below hW)
  have CA : Hid (∀ W, Below w.heap.size w W → Calls Tryz.prog 22 #[.int .i64 ai] W fun e w' => e = .returned (.string ⟨(Lib.itoa ai).toArray⟩) ∧ Below W.heap.size W w') := fun W hW => dec_any ai (wfI_bd hai) W
  have CT : Hid (∀ W, Below w.heap.size w W → Calls Tryz.prog 22 #[.int .i64 top] W fun e w' => e = .returned (.string ⟨(Lib.itoa top).toArray⟩) ∧ Below W.heap.size W w') := fun W hW => dec_any top (wfI_bd htp) W
  have HT := Lib.hid (show sgT rs ps top pr st bu bs ls us ai fx gc gf = if B (StgR rs ps top pr st bu bs ls us ai fx gc gf) = true then lineW [stgW, Lib.itoa ai] ++ lineW [topW, Lib.itoa top] ++ bdsT rs ps top pr st bu bs ls ++ plT ls ++ pyT rs ps top pr st bu bs ls us ai fx gc gf else [] from rfl)
  have L1 := bdsT_le rs ps top pr st bu bs ls
  have L2 := plT_le ls hwl
  have L3 := pyT_le rs ps top pr st bu bs ls us ai fx gc gf
  have L4 := itoa_all ai hai
  have L5 := itoa_all top htp
  have W1 := Lib.hid (line2 stgW (Lib.itoa ai))
  have W2 := Lib.hid (line2 topW (Lib.itoa top))
  clear hn hq hl hu hz hp hwl hbs hls hus hai htp
  generalize sgT rs ps top pr st bu bs ls us ai fx gc gf = tx at *
  generalize bdsT rs ps top pr st bu bs ls = bt at *
  generalize plT ls = lt at *
  generalize pyT rs ps top pr st bu bs ls us ai fx gc gf = yt at *
  generalize Lib.itoa ai = d1 at *
  generalize Lib.itoa top = d2 at *
  generalize rs.length = n at *
  generalize ps.length = m at *
  generalize bs.length = q at *
  generalize ls.length = p at *
  generalize us.length = u at *
  have N0 := Lib.hid (new_at w (.cells (SgC sl n cap tl m kap top pr st bu bl q cb pl p cp ul u cu ai fx gc gf) 49))
  have B0 := Lib.hid (bA0 w (.cells (SgC sl n cap tl m kap top pr st bu bl q cb pl p cp ul u cu ai fx gc gf) 49))
  have KB : Hid (∀ W, Below (w.alloc (.cells (SgC sl n cap tl m kap top pr st bu bl q cb pl p cp ul u cu ai fx gc gf) 49)).heap.size (w.alloc (.cells (SgC sl n cap tl m kap top pr st bu bl q cb pl p cp ul u cu ai fx gc gf) 49)) W → w.heap.size < W.heap.size ∧ W.cell? ⟨w.heap.size, 0, none⟩ = some (.slice sl n cap) ∧ W.cell? ⟨w.heap.size, 1, none⟩ = some (.slice tl m kap) ∧ W.cell? ⟨w.heap.size, 2, none⟩ = some (.int .i64 top) ∧ W.cell? ⟨w.heap.size, 3, none⟩ = some (.int .i64 pr) ∧ W.cell? ⟨w.heap.size, 4, none⟩ = some (.int .i64 st) ∧ W.cell? ⟨w.heap.size, 5, none⟩ = some (.int .i64 bu) ∧ W.cell? ⟨w.heap.size, 6, none⟩ = some (.slice bl q cb) ∧ W.cell? ⟨w.heap.size, 7, none⟩ = some (.slice pl p cp) ∧ W.cell? ⟨w.heap.size, 8, none⟩ = some (.slice ul u cu) ∧ W.cell? ⟨w.heap.size, 9, none⟩ = some (.int .i64 ai) ∧ W.cell? ⟨w.heap.size, 10, none⟩ = some (.int .i64 fx) ∧ W.cell? ⟨w.heap.size, 11, none⟩ = some (.bool gc) ∧ W.cell? ⟨w.heap.size, 12, none⟩ = some (.bool gf)) := fun W hW => by
    obtain ⟨x0, x1, x2, x3, x4, x5, x6, x7, x8, x9, xa, xb, xc, xf, xl⟩ := cells13 ((hW.block w.heap.size (by simp)).trans N0.out)
    exact ⟨xl, x0, x1, x2, x3, x4, x5, x6, x7, x8, x9, xa, xb, xc⟩
  cases hB : B (StgR rs ps top pr st bu bs ls us ai fx gc gf) with
  | false =>
    rw [hB] at CR HT
    have HE := Lib.hid (show tx = [] by rw [HT.out]; simp)
    go_enter Tryz.func16, Tryz.ntmps16
    go_wp2_with fail
    refine (CR.out _ B0.out).mono ?_
    rintro e w1 ⟨rfl, b1⟩
    have D1 := Lib.hid (bT B0.out b1)
    go_wp2
    go_ret
    exact ⟨by rw [HE.out]; rfl, D1.out⟩
  | true =>
    rw [hB] at CR HT
    have HE := Lib.hid (show tx = [115, 116, 97, 103, 101, 32] ++ d1 ++ [10, 116, 111, 112, 32] ++ d2 ++ [10] ++ bt ++ lt ++ yt by rw [HT.out, if_pos rfl, W1.out, W2.out]; simp [stgW, topW])
    clear HT W1 W2 hB
    have e1 : Hid ((({ data := #[115, 116, 97, 103, 101, 32] } : ByteArray) ++ ⟨d1.toArray⟩ ++ ⟨#[10, 116, 111, 112, 32]⟩ ++ ⟨d2.toArray⟩ ++ ⟨#[10]⟩ ++ ⟨bt.toArray⟩ ++ ⟨lt.toArray⟩ ++ ⟨yt.toArray⟩) = ⟨([115, 116, 97, 103, 101, 32] ++ d1 ++ [10, 116, 111, 112, 32] ++ d2 ++ [10] ++ bt ++ lt ++ yt).toArray⟩) := by
      have h1 := ba_app [115, 116, 97, 103, 101, 32] d1
      have h2 := ba_app ([115, 116, 97, 103, 101, 32] ++ d1) [10, 116, 111, 112, 32]
      have h3 := ba_app ([115, 116, 97, 103, 101, 32] ++ d1 ++ [10, 116, 111, 112, 32]) d2
      have h4 := ba_app ([115, 116, 97, 103, 101, 32] ++ d1 ++ [10, 116, 111, 112, 32] ++ d2) [10]
      have h5 := ba_app ([115, 116, 97, 103, 101, 32] ++ d1 ++ [10, 116, 111, 112, 32] ++ d2 ++ [10]) bt
      have h6 := ba_app ([115, 116, 97, 103, 101, 32] ++ d1 ++ [10, 116, 111, 112, 32] ++ d2 ++ [10] ++ bt) lt
      have h7 := ba_app ([115, 116, 97, 103, 101, 32] ++ d1 ++ [10, 116, 111, 112, 32] ++ d2 ++ [10] ++ bt ++ lt) yt
      show _ = _
      rw [← h7, ← h6, ← h5, ← h4, ← h3, ← h2, ← h1]
    have s1 : ¬ 9223372036854775807 < 6 + d1.length := by omega
    have s2 : ¬ 9223372036854775807 < 6 + d1.length + 5 := by omega
    have s3 : ¬ 9223372036854775807 < 6 + d1.length + 5 + d2.length := by omega
    have s4 : ¬ 9223372036854775807 < 6 + d1.length + 5 + d2.length + 1 := by omega
    have s5 : ¬ 9223372036854775807 < 6 + d1.length + 5 + d2.length + 1 + bt.length := by omega
    have s6 : ¬ 9223372036854775807 < 6 + d1.length + 5 + d2.length + 1 + bt.length + lt.length := by omega
    have s7 : ¬ 9223372036854775807 < 6 + d1.length + 5 + d2.length + 1 + bt.length + lt.length + yt.length := by omega
    go_enter Tryz.func16, Tryz.ntmps16
    go_wp2_with fail
    refine (CR.out _ B0.out).mono ?_
    rintro e w1 ⟨rfl, b1⟩
    have D1 := Lib.hid (bT B0.out b1)
    have G1 := Lib.hid b1
    clear b1
    go_wp2_with fail
    refine wp_region_held_drew (S := fun W => w.heap.size < W.heap.size ∧ W.cell? ⟨w.heap.size, 0, none⟩ = some (.slice sl n cap) ∧ W.cell? ⟨w.heap.size, 1, none⟩ = some (.slice tl m kap) ∧ W.cell? ⟨w.heap.size, 2, none⟩ = some (.int .i64 top) ∧ W.cell? ⟨w.heap.size, 3, none⟩ = some (.int .i64 pr) ∧ W.cell? ⟨w.heap.size, 4, none⟩ = some (.int .i64 st) ∧ W.cell? ⟨w.heap.size, 5, none⟩ = some (.int .i64 bu) ∧ W.cell? ⟨w.heap.size, 6, none⟩ = some (.slice bl q cb) ∧ W.cell? ⟨w.heap.size, 7, none⟩ = some (.slice pl p cp) ∧ W.cell? ⟨w.heap.size, 8, none⟩ = some (.slice ul u cu) ∧ W.cell? ⟨w.heap.size, 9, none⟩ = some (.int .i64 ai) ∧ W.cell? ⟨w.heap.size, 10, none⟩ = some (.int .i64 fx) ∧ W.cell? ⟨w.heap.size, 11, none⟩ = some (.bool gc) ∧ W.cell? ⟨w.heap.size, 12, none⟩ = some (.bool gf)) (by kernel_rfl) ?_ (fun hHeld => ?_)
    · exact KB.out _ G1.out.drew
    refine wpAnyH_take (i := 0) (oi := _) (v := ?_) rfl (by kernel_rfl) (by kernel_rfl) (by kernel_rfl) (fun _ _ _ h => h) (Or.inl ⟨by rfl, ?_⟩) (by assumption) ?_
    rotate_left
    · first | (intro w hSw; (try dsimp only at hSw); go_simp; done) | (intro w hSw; (try dsimp only at hSw); go_simp; with_reducible rfl)
    try simp only [Act.put, List.setIfInBounds_toArray, List.set_cons_zero, List.set_cons_succ, List.getElem_toArray, List.getElem_cons_zero]
    refine wpAnyH_take (i := 1) (oi := _) (v := ?_) rfl (by kernel_rfl) (by kernel_rfl) (by kernel_rfl) (fun _ _ _ h => h) (Or.inl ⟨by rfl, ?_⟩) (by assumption) ?_
    rotate_left
    · first | (intro w hSw; (try dsimp only at hSw); go_simp; done) | (intro w hSw; (try dsimp only at hSw); go_simp; with_reducible rfl)
    try simp only [Act.put, List.setIfInBounds_toArray, List.set_cons_zero, List.set_cons_succ, List.getElem_toArray, List.getElem_cons_succ, List.getElem_cons_zero]
    refine wpAnyH_take (i := 5) (oi := _) (v := ?_) rfl (by kernel_rfl) (by kernel_rfl) (by kernel_rfl) (fun _ _ _ h => h) (Or.inl ⟨by rfl, ?_⟩) (by assumption) ?_
    rotate_left
    · first | (intro w hSw; (try dsimp only at hSw); go_simp; done) | (intro w hSw; (try dsimp only at hSw); go_simp; with_reducible rfl)
    try simp only [Act.put, List.setIfInBounds_toArray, List.set_cons_zero, List.set_cons_succ, List.getElem_toArray, List.getElem_cons_succ, List.getElem_cons_zero]
    refine wpAnyH_take (i := 6) (oi := _) (v := ?_) rfl (by kernel_rfl) (by kernel_rfl) (by kernel_rfl) (fun _ _ _ h => h) (Or.inl ⟨by rfl, ?_⟩) (by assumption) ?_
    rotate_left
    · first | (intro w hSw; (try dsimp only at hSw); go_simp; done) | (intro w hSw; (try dsimp only at hSw); go_simp; with_reducible rfl)
    try simp only [Act.put, List.setIfInBounds_toArray, List.set_cons_zero, List.set_cons_succ, List.getElem_toArray, List.getElem_cons_succ, List.getElem_cons_zero]
    refine wpAnyH_take (i := 7) (oi := _) (v := ?_) rfl (by kernel_rfl) (by kernel_rfl) (by kernel_rfl) (fun _ _ _ h => h) (Or.inl ⟨by rfl, ?_⟩) (by assumption) ?_
    rotate_left
    · first | (intro w hSw; (try dsimp only at hSw); go_simp; done) | (intro w hSw; (try dsimp only at hSw); go_simp; with_reducible rfl)
    try simp only [Act.put, List.setIfInBounds_toArray, List.set_cons_zero, List.set_cons_succ, List.getElem_toArray, List.getElem_cons_succ, List.getElem_cons_zero]
    refine wpAnyH_take (i := 11) (oi := _) (v := ?_) rfl (by kernel_rfl) (by kernel_rfl) (by kernel_rfl) (fun _ _ _ h => h) (Or.inl ⟨by rfl, ?_⟩) (by assumption) ?_
    rotate_left
    · first | (intro w hSw; (try dsimp only at hSw); go_simp; done) | (intro w hSw; (try dsimp only at hSw); go_simp; with_reducible rfl)
    try simp only [Act.put, List.setIfInBounds_toArray, List.set_cons_zero, List.set_cons_succ, List.getElem_toArray, List.getElem_cons_succ, List.getElem_cons_zero]
    refine wpAnyH_take (i := 12) (oi := _) (v := ?_) rfl (by kernel_rfl) (by kernel_rfl) (by kernel_rfl) (fun _ _ _ h => h) (Or.inl ⟨by rfl, ?_⟩) (by assumption) ?_
    rotate_left
    · first | (intro w hSw; (try dsimp only at hSw); go_simp; done) | (intro w hSw; (try dsimp only at hSw); go_simp; with_reducible rfl)
    try simp only [Act.put, List.setIfInBounds_toArray, List.set_cons_zero, List.set_cons_succ, List.getElem_toArray, List.getElem_cons_succ, List.getElem_cons_zero]
    refine wpAnyH_take (i := 15) (oi := _) (v := ?_) rfl (by kernel_rfl) (by kernel_rfl) (by kernel_rfl) (fun _ _ _ h => h) (Or.inl ⟨by rfl, ?_⟩) (by assumption) ?_
    rotate_left
    · first | (intro w hSw; (try dsimp only at hSw); go_simp; done) | (intro w hSw; (try dsimp only at hSw); go_simp; with_reducible rfl)
    try simp only [Act.put, List.setIfInBounds_toArray, List.set_cons_zero, List.set_cons_succ, List.getElem_toArray, List.getElem_cons_succ, List.getElem_cons_zero]
    refine wpAnyH_take (i := 16) (oi := _) (v := ?_) rfl (by kernel_rfl) (by kernel_rfl) (by kernel_rfl) (fun _ _ _ h => h) (Or.inl ⟨by rfl, ?_⟩) (by assumption) ?_
    rotate_left
    · first | (intro w hSw; (try dsimp only at hSw); go_simp; done) | (intro w hSw; (try dsimp only at hSw); go_simp; with_reducible rfl)
    try simp only [Act.put, List.setIfInBounds_toArray, List.set_cons_zero, List.set_cons_succ, List.getElem_toArray, List.getElem_cons_succ, List.getElem_cons_zero]
    refine wpAnyH_take (i := 17) (oi := _) (v := ?_) rfl (by kernel_rfl) (by kernel_rfl) (by kernel_rfl) (fun _ _ _ h => h) (Or.inl ⟨by rfl, ?_⟩) (by assumption) ?_
    rotate_left
    · first | (intro w hSw; (try dsimp only at hSw); go_simp; done) | (intro w hSw; (try dsimp only at hSw); go_simp; with_reducible rfl)
    try simp only [Act.put, List.setIfInBounds_toArray, List.set_cons_zero, List.set_cons_succ, List.getElem_toArray, List.getElem_cons_succ, List.getElem_cons_zero]
    refine wpAnyH_take (i := 20) (oi := _) (v := ?_) rfl (by kernel_rfl) (by kernel_rfl) (by kernel_rfl) (fun _ _ _ h => h) (Or.inl ⟨by rfl, ?_⟩) (by assumption) ?_
    rotate_left
    · first | (intro w hSw; (try dsimp only at hSw); go_simp; done) | (intro w hSw; (try dsimp only at hSw); go_simp; with_reducible rfl)
    try simp only [Act.put, List.setIfInBounds_toArray, List.set_cons_zero, List.set_cons_succ, List.getElem_toArray, List.getElem_cons_succ, List.getElem_cons_zero]
    refine wpAnyH_ready (rs := [2]) (by kernel_rfl) (by simp) ?_
    refine AllReadyH.cons rfl (fun K hK => ?_) AllReadyH.nil
    go_simp
    go_wp2_with (go_at_call 22; refine (CA.out _ D1.out.drew).mono ?_; rintro e w2 ⟨rfl, b1⟩)
    have Fw2 : Hid (Below w.heap.size w w2) := bT D1.out.drew b1
    have Gw2 : Hid (Below w1.heap.size w1 w2) := bT (Below.refl w1.heap.size w1).drew b1
    clear b1
    refine hK.out _ _ ?_ (fun hHeld => ?_)
    · exact KB.out _ (bT G1.out Gw2.out)
    clear hK K
    refine wpAnyH_take (i := 3) (oi := _) (v := ?_) rfl (by kernel_rfl) (by kernel_rfl) (by kernel_rfl) (fun _ _ _ h => h) (Or.inl ⟨by rfl, ?_⟩) (by assumption) ?_
    rotate_left
    · first | (intro w hSw; (try dsimp only at hSw); go_simp; done) | (intro w hSw; (try dsimp only at hSw); go_simp; with_reducible rfl)
    try simp only [Act.put, List.setIfInBounds_toArray, List.set_cons_zero, List.set_cons_succ, List.getElem_toArray, List.getElem_cons_succ, List.getElem_cons_zero]
    refine wpAnyH_take (i := 4) (oi := _) (v := ?_) rfl (by kernel_rfl) (by kernel_rfl) (by kernel_rfl) (fun _ _ _ h => h) (Or.inl ⟨by rfl, ?_⟩) (by assumption) ?_
    rotate_left
    · first | (intro w hSw; (try dsimp only at hSw); go_simp; done) | (intro w hSw; (try dsimp only at hSw); go_simp; with_reducible rfl)
    try simp only [Act.put, List.setIfInBounds_toArray, List.set_cons_zero, List.set_cons_succ, List.getElem_toArray, List.getElem_cons_succ, List.getElem_cons_zero]
    refine wpAnyH_ready (rs := [8]) (by kernel_rfl) (by simp) ?_
    refine AllReadyH.cons rfl (fun K hK => ?_) AllReadyH.nil
    go_simp
    go_wp2_with (go_at_call 22; refine (CT.out _ Fw2.out).mono ?_; rintro e w3 ⟨rfl, b1⟩)
    have Fw3 : Hid (Below w.heap.size w w3) := bT Fw2.out b1
    have Gw3 : Hid (Below w1.heap.size w1 w3) := bT Gw2.out b1
    clear b1
    refine hK.out _ _ ?_ (fun hHeld => ?_)
    · exact KB.out _ (bT G1.out Gw3.out)
    clear hK K
    refine wpAnyH_take (i := 9) (oi := _) (v := ?_) rfl (by kernel_rfl) (by kernel_rfl) (by kernel_rfl) (fun _ _ _ h => h) (Or.inl ⟨by rfl, ?_⟩) (by assumption) ?_
    rotate_left
    · first | (intro w hSw; (try dsimp only at hSw); go_simp; done) | (intro w hSw; (try dsimp only at hSw); go_simp; with_reducible rfl)
    try simp only [Act.put, List.setIfInBounds_toArray, List.set_cons_zero, List.set_cons_succ, List.getElem_toArray, List.getElem_cons_succ, List.getElem_cons_zero]
    refine wpAnyH_take (i := 10) (oi := _) (v := ?_) rfl (by kernel_rfl) (by kernel_rfl) (by kernel_rfl) (fun _ _ _ h => h) (Or.inl ⟨by rfl, ?_⟩) (by assumption) ?_
    rotate_left
    · first | (intro w hSw; (try dsimp only at hSw); go_simp; done) | (intro w hSw; (try dsimp only at hSw); go_simp; with_reducible rfl)
    try simp only [Act.put, List.setIfInBounds_toArray, List.set_cons_zero, List.set_cons_succ, List.getElem_toArray, List.getElem_cons_succ, List.getElem_cons_zero]
    refine wpAnyH_ready (rs := [13]) (by kernel_rfl) (by simp) ?_
    refine AllReadyH.cons rfl (fun K hK => ?_) AllReadyH.nil
    go_simp
    go_wp2_with (go_at_call 7; refine (CB.out _ Fw3.out).mono ?_; rintro e w4 ⟨rfl, b1⟩)
    have Fw4 : Hid (Below w.heap.size w w4) := bT Fw3.out b1
    have Gw4 : Hid (Below w1.heap.size w1 w4) := bT Gw3.out b1
    clear b1
    refine hK.out _ _ ?_ (fun hHeld => ?_)
    · exact KB.out _ (bT G1.out Gw4.out)
    clear hK K
    refine wpAnyH_take (i := 14) (oi := _) (v := ?_) rfl (by kernel_rfl) (by kernel_rfl) (by kernel_rfl) (fun _ _ _ h => h) (Or.inl ⟨by rfl, ?_⟩) (by assumption) ?_
    rotate_left
    · first | (intro w hSw; (try dsimp only at hSw); go_simp; done) | (intro w hSw; (try dsimp only at hSw); go_simp; with_reducible rfl)
    try simp only [Act.put, List.setIfInBounds_toArray, List.set_cons_zero, List.set_cons_succ, List.getElem_toArray, List.getElem_cons_succ, List.getElem_cons_zero]
    refine wpAnyH_ready (rs := [18]) (by kernel_rfl) (by simp) ?_
    refine AllReadyH.cons rfl (fun K hK => ?_) AllReadyH.nil
    go_simp
    go_wp2_with (go_at_call 45; refine (CL.out _ Fw4.out).mono ?_; rintro e w5 ⟨rfl, b1⟩)
    have Fw5 : Hid (Below w.heap.size w w5) := bT Fw4.out b1
    have Gw5 : Hid (Below w1.heap.size w1 w5) := bT Gw4.out b1
    clear b1
    refine hK.out _ _ ?_ (fun hHeld => ?_)
    · exact KB.out _ (bT G1.out Gw5.out)
    clear hK K
    refine wpAnyH_take (i := 19) (oi := _) (v := ?_) rfl (by kernel_rfl) (by kernel_rfl) (by kernel_rfl) (fun _ _ _ h => h) (Or.inl ⟨by rfl, ?_⟩) (by assumption) ?_
    rotate_left
    · first | (intro w hSw; (try dsimp only at hSw); go_simp; done) | (intro w hSw; (try dsimp only at hSw); go_simp; with_reducible rfl)
    try simp only [Act.put, List.setIfInBounds_toArray, List.set_cons_zero, List.set_cons_succ, List.getElem_toArray, List.getElem_cons_succ, List.getElem_cons_zero]
    refine wpAnyH_ready (rs := [21]) (by kernel_rfl) (by simp) ?_
    refine AllReadyH.cons rfl (fun K hK => ?_) AllReadyH.nil
    go_simp
    go_wp2_with (go_at_call 12; refine (CY.out _ Fw5.out).mono ?_; rintro e w6 ⟨rfl, b1⟩)
    have Fw6 : Hid (Below w.heap.size w w6) := bT Fw5.out b1
    have Gw6 : Hid (Below w1.heap.size w1 w6) := bT Gw5.out b1
    clear b1
    refine hK.out _ _ ?_ (fun hHeld => ?_)
    · exact KB.out _ (bT G1.out Gw6.out)
    clear hK K
    refine wpAnyH_take (i := 22) (oi := _) (v := ?_) rfl (by kernel_rfl) (by kernel_rfl) (by kernel_rfl) (fun _ _ _ h => h) (Or.inl ⟨by rfl, ?_⟩) (by assumption) ?_
    rotate_left
    · first | (intro w hSw; (try dsimp only at hSw); go_simp; done) | (intro w hSw; (try dsimp only at hSw); go_simp; with_reducible rfl)
    try simp only [Act.put, List.setIfInBounds_toArray, List.set_cons_zero, List.set_cons_succ, List.getElem_toArray, List.getElem_cons_succ, List.getElem_cons_zero]
    refine wpAnyH_take (i := 23) (oi := _) (v := ?_) rfl (by kernel_rfl) (by kernel_rfl) (by kernel_rfl) (fun _ _ _ h => h) (Or.inl ⟨by rfl, ?_⟩) (by assumption) ?_
    rotate_left
    · first | (intro w hSw; (try dsimp only at hSw); go_simp; done) | (intro w hSw; (try dsimp only at hSw); go_simp; with_reducible rfl)
    try simp only [Act.put, List.setIfInBounds_toArray, List.set_cons_zero, List.set_cons_succ, List.getElem_toArray, List.getElem_cons_succ, List.getElem_cons_zero]
    refine wpAnyH_done (by kernel_rfl) ?_ _
    clear KB CA CT CB CL CY CR Gw2 Gw3 Gw4 Gw5 Gw6 hHeld
    go_wp2
    go_ret
    exact ⟨by rw [HE.out, ← e1.out]; rfl, Fw6.out⟩

set_option maxRecDepth 100000 in
set_option maxHeartbeats 4000000 in
/-- impl.StageText. -/
theorem ist_any (sl : Option Addr) (cap : Nat) (tl : Option Addr) (kap : Nat) (top pr st bu : Int) (bl : Option Addr) (cb : Nat) (pl : Option Addr) (cp : Nat) (ul : Option Addr) (cu : Nat) (ai fx : Int) (gc gf : Bool) (rs : List LSt) (ps : List LPr) (bs : List LPr) (ls : List LPl) (us : List Int) (w : World) (hn : rs.length ≤ 1048576) (hq : bs.length ≤ 1048576) (hl : ls.length ≤ 1048576) (hu : us.length ≤ 1048576) (hz : Sts w sl rs) (hp : Prs w tl ps) (hcp : ls.length ≤ cp) (hw : ∀ p ∈ ps, WfP p) (hwl : WfPs ls) (hbs : Prs w bl bs) (hls : Pls w pl ls) (hus : Ints w ul us) (hai : wfI ai) (htp : wfI top) (ht : PowTab w) :
    Calls Tryz.prog 17 #[SgV sl rs.length cap tl ps.length kap top pr st bu bl bs.length cb pl ls.length cp ul us.length cu ai fx gc gf] w fun e w' => e = .returned (.string ⟨(sgT rs ps top pr st bu bs ls us ai fx gc gf).toArray⟩) ∧ Below w.heap.size w w' := by
  have CR : Hid (∀ W, Below w.heap.size w W → Calls Tryz.prog 38 #[SgV sl rs.length cap tl ps.length kap top pr st bu bl bs.length cb pl ls.length cp ul us.length cu ai fx gc gf] W fun e w' => e = .returned (.bool (B (StgR rs ps top pr st bu bs ls us ai fx gc gf))) ∧ Below W.heap.size W w') := fun W hW => isr_any sl cap tl kap top pr st bu bl cb pl cp ul cu ai fx gc gf rs ps bs ls us W hn hq hl hu hcp (hz.below hW) (hp.below hW) hw (hbs.below hW) (hls.below hW) (hus.below hW)
  have CB : Hid (∀ W, Below w.heap.size w W → Calls Tryz.prog 9 #[CV sl rs.length cap tl ps.length kap top pr st bu bl bs.length cb pl ls.length cp] W fun e w' => e = .returned (.string ⟨(bdsT rs ps top pr st bu bs ls).toArray⟩) ∧ Below W.heap.size W w') := fun W hW => ibt_any sl cap tl kap top pr st bu bl cb pl cp rs ps bs ls W hn hq hl hcp (hz.below hW) (hp.below hW) hw (hbs.below hW) (hls.below hW) (ht.below hW)
  have CL : Hid (∀ W, Below w.heap.size w W → Calls Tryz.prog 47 #[.slice pl ls.length cp] W fun e w' => e = .returned (.string ⟨(plT ls).toArray⟩) ∧ Below W.heap.size W w') := fun W hW => ipt_any pl cp ls W (by unfold maxLen; omega) hwl (hls.below hW) (ht.below hW)
  have CY : Hid (∀ W, Below w.heap.size w W → Calls Tryz.prog 14 #[SgV sl rs.length cap tl ps.length kap top pr st bu bl bs.length cb pl ls.length cp ul us.length cu ai fx gc gf] W fun e w' => e = .returned (.string ⟨(pyT rs ps top pr st bu bs ls us ai fx gc gf).toArray⟩) ∧ Below W.heap.size W w') := fun W hW => ipy_any sl cap tl kap top pr st bu bl cb pl cp ul cu ai fx gc gf rs ps bs ls us W hn hq hl hu hcp (hz.below hW) (hp.below hW) hw (hbs.below hW) (hls.below hW) (hus.below hW) (ht.below hW)
  have CA : Hid (∀ W, Below w.heap.size w W → Calls Tryz.prog 46 #[.int .i64 ai] W fun e w' => e = .returned (.string ⟨(Lib.itoa ai).toArray⟩) ∧ Below W.heap.size W w') := fun W hW => dig_any ai hai W (ht.below hW)
  have CT : Hid (∀ W, Below w.heap.size w W → Calls Tryz.prog 46 #[.int .i64 top] W fun e w' => e = .returned (.string ⟨(Lib.itoa top).toArray⟩) ∧ Below W.heap.size W w') := fun W hW => dig_any top htp W (ht.below hW)
  have HT := Lib.hid (show sgT rs ps top pr st bu bs ls us ai fx gc gf = if B (StgR rs ps top pr st bu bs ls us ai fx gc gf) = true then lineW [stgW, Lib.itoa ai] ++ lineW [topW, Lib.itoa top] ++ bdsT rs ps top pr st bu bs ls ++ plT ls ++ pyT rs ps top pr st bu bs ls us ai fx gc gf else [] from rfl)
  have L1 := bdsT_le rs ps top pr st bu bs ls
  have L2 := plT_le ls hwl
  have L3 := pyT_le rs ps top pr st bu bs ls us ai fx gc gf
  have L4 := itoa_all ai hai
  have L5 := itoa_all top htp
  have W1 := Lib.hid (line2 stgW (Lib.itoa ai))
  have W2 := Lib.hid (line2 topW (Lib.itoa top))
  clear hn hq hl hu hz hp hcp hw hwl hbs hls hus hai htp ht
  generalize sgT rs ps top pr st bu bs ls us ai fx gc gf = tx at *
  generalize bdsT rs ps top pr st bu bs ls = bt at *
  generalize plT ls = lt at *
  generalize pyT rs ps top pr st bu bs ls us ai fx gc gf = yt at *
  generalize Lib.itoa ai = d1 at *
  generalize Lib.itoa top = d2 at *
  generalize rs.length = n at *
  generalize ps.length = m at *
  generalize bs.length = q at *
  generalize ls.length = p at *
  generalize us.length = u at *
  have N0 := Lib.hid (new_at w (.cells (SgC sl n cap tl m kap top pr st bu bl q cb pl p cp ul u cu ai fx gc gf) 49))
  have B0 := Lib.hid (bA0 w (.cells (SgC sl n cap tl m kap top pr st bu bl q cb pl p cp ul u cu ai fx gc gf) 49))
  have KB : Hid (∀ W, Below (w.alloc (.cells (SgC sl n cap tl m kap top pr st bu bl q cb pl p cp ul u cu ai fx gc gf) 49)).heap.size (w.alloc (.cells (SgC sl n cap tl m kap top pr st bu bl q cb pl p cp ul u cu ai fx gc gf) 49)) W → w.heap.size < W.heap.size ∧ W.cell? ⟨w.heap.size, 0, none⟩ = some (.slice sl n cap) ∧ W.cell? ⟨w.heap.size, 1, none⟩ = some (.slice tl m kap) ∧ W.cell? ⟨w.heap.size, 2, none⟩ = some (.int .i64 top) ∧ W.cell? ⟨w.heap.size, 3, none⟩ = some (.int .i64 pr) ∧ W.cell? ⟨w.heap.size, 4, none⟩ = some (.int .i64 st) ∧ W.cell? ⟨w.heap.size, 5, none⟩ = some (.int .i64 bu) ∧ W.cell? ⟨w.heap.size, 6, none⟩ = some (.slice bl q cb) ∧ W.cell? ⟨w.heap.size, 7, none⟩ = some (.slice pl p cp) ∧ W.cell? ⟨w.heap.size, 8, none⟩ = some (.slice ul u cu) ∧ W.cell? ⟨w.heap.size, 9, none⟩ = some (.int .i64 ai) ∧ W.cell? ⟨w.heap.size, 10, none⟩ = some (.int .i64 fx) ∧ W.cell? ⟨w.heap.size, 11, none⟩ = some (.bool gc) ∧ W.cell? ⟨w.heap.size, 12, none⟩ = some (.bool gf)) := fun W hW => by
    obtain ⟨x0, x1, x2, x3, x4, x5, x6, x7, x8, x9, xa, xb, xc, xf, xl⟩ := cells13 ((hW.block w.heap.size (by simp)).trans N0.out)
    exact ⟨xl, x0, x1, x2, x3, x4, x5, x6, x7, x8, x9, xa, xb, xc⟩
  cases hB : B (StgR rs ps top pr st bu bs ls us ai fx gc gf) with
  | false =>
    rw [hB] at CR HT
    have HE := Lib.hid (show tx = [] by rw [HT.out]; simp)
    go_enter Tryz.func17, Tryz.ntmps17
    go_wp2_with fail
    refine (CR.out _ B0.out).mono ?_
    rintro e w1 ⟨rfl, b1⟩
    have D1 := Lib.hid (bT B0.out b1)
    go_wp2
    go_ret
    exact ⟨by rw [HE.out]; rfl, D1.out⟩
  | true =>
    rw [hB] at CR HT
    have HE := Lib.hid (show tx = lineW [stgW, d1] ++ lineW [topW, d2] ++ bt ++ lt ++ yt by rw [HT.out, if_pos rfl])
    have E1 : Hid (∀ W : World, Calls Tryz.prog 42 #[.slice (some ⟨W.heap.size, 0, none⟩) 2 2] (W.alloc (.cells #[.string ⟨#[115, 116, 97, 103, 101]⟩, .string ⟨d1.toArray⟩] 9)) fun e w' => e = .returned (.string ⟨(lineW [stgW, d1]).toArray⟩) ∧ Below (W.alloc (.cells #[.string ⟨#[115, 116, 97, 103, 101]⟩, .string ⟨d1.toArray⟩] 9)).heap.size (W.alloc (.cells #[.string ⟨#[115, 116, 97, 103, 101]⟩, .string ⟨d1.toArray⟩] 9)) w') := fun W =>
      col_any W.heap.size 2 [stgW, d1] _ (two_words W stgW d1) (by simp) (by simp) (by simp) (by simp [Lib.join, List.intercalate, stgW]; omega)
    have E2 : Hid (∀ W : World, Calls Tryz.prog 42 #[.slice (some ⟨W.heap.size, 0, none⟩) 2 2] (W.alloc (.cells #[.string ⟨#[116, 111, 112]⟩, .string ⟨d2.toArray⟩] 9)) fun e w' => e = .returned (.string ⟨(lineW [topW, d2]).toArray⟩) ∧ Below (W.alloc (.cells #[.string ⟨#[116, 111, 112]⟩, .string ⟨d2.toArray⟩] 9)).heap.size (W.alloc (.cells #[.string ⟨#[116, 111, 112]⟩, .string ⟨d2.toArray⟩] 9)) w') := fun W =>
      col_any W.heap.size 2 [topW, d2] _ (two_words W topW d2) (by simp) (by simp) (by simp) (by simp [Lib.join, List.intercalate, topW]; omega)
    have hl1 : (lineW [stgW, d1]).length ≤ 40 := by rw [W1.out]; simp [stgW]; omega
    have hl2 : (lineW [topW, d2]).length ≤ 40 := by rw [W2.out]; simp [topW]; omega
    clear HT W1 W2 hB
    generalize lineW [stgW, d1] = g1 at *
    generalize lineW [topW, d2] = g2 at *
    have e1 : Hid ((({ data := g1.toArray } : ByteArray) ++ ⟨g2.toArray⟩ ++ ⟨bt.toArray⟩ ++ ⟨lt.toArray⟩ ++ ⟨yt.toArray⟩) = ⟨(g1 ++ g2 ++ bt ++ lt ++ yt).toArray⟩) := by
      have h1 := ba_app g1 g2
      have h2 := ba_app (g1 ++ g2) bt
      have h3 := ba_app (g1 ++ g2 ++ bt) lt
      have h4 := ba_app (g1 ++ g2 ++ bt ++ lt) yt
      show _ = _
      rw [← h4, ← h3, ← h2, ← h1]
    have s1 : ¬ 9223372036854775807 < g1.length + g2.length := by omega
    have s2 : ¬ 9223372036854775807 < g1.length + g2.length + bt.length := by omega
    have s3 : ¬ 9223372036854775807 < g1.length + g2.length + bt.length + lt.length := by omega
    have s4 : ¬ 9223372036854775807 < g1.length + g2.length + bt.length + lt.length + yt.length := by omega
    go_enter Tryz.func17, Tryz.ntmps17
    go_wp2_with fail
    refine (CR.out _ B0.out).mono ?_
    rintro e w1 ⟨rfl, b1⟩
    have D1 := Lib.hid (bT B0.out b1)
    have G1 := Lib.hid b1
    clear b1
    go_wp2_with fail
    refine wp_region_held_drew (S := fun W => w.heap.size < W.heap.size ∧ W.cell? ⟨w.heap.size, 0, none⟩ = some (.slice sl n cap) ∧ W.cell? ⟨w.heap.size, 1, none⟩ = some (.slice tl m kap) ∧ W.cell? ⟨w.heap.size, 2, none⟩ = some (.int .i64 top) ∧ W.cell? ⟨w.heap.size, 3, none⟩ = some (.int .i64 pr) ∧ W.cell? ⟨w.heap.size, 4, none⟩ = some (.int .i64 st) ∧ W.cell? ⟨w.heap.size, 5, none⟩ = some (.int .i64 bu) ∧ W.cell? ⟨w.heap.size, 6, none⟩ = some (.slice bl q cb) ∧ W.cell? ⟨w.heap.size, 7, none⟩ = some (.slice pl p cp) ∧ W.cell? ⟨w.heap.size, 8, none⟩ = some (.slice ul u cu) ∧ W.cell? ⟨w.heap.size, 9, none⟩ = some (.int .i64 ai) ∧ W.cell? ⟨w.heap.size, 10, none⟩ = some (.int .i64 fx) ∧ W.cell? ⟨w.heap.size, 11, none⟩ = some (.bool gc) ∧ W.cell? ⟨w.heap.size, 12, none⟩ = some (.bool gf)) (by kernel_rfl) ?_ (fun hHeld => ?_)
    · exact KB.out _ G1.out.drew
    refine wpAnyH_take (i := 0) (oi := _) (v := ?_) rfl (by kernel_rfl) (by kernel_rfl) (by kernel_rfl) (fun _ _ _ h => h) (Or.inl ⟨by rfl, ?_⟩) (by assumption) ?_
    rotate_left
    · first | (intro w hSw; (try dsimp only at hSw); go_simp; done) | (intro w hSw; (try dsimp only at hSw); go_simp; with_reducible rfl)
    try simp only [Act.put, List.setIfInBounds_toArray, List.set_cons_zero, List.set_cons_succ, List.getElem_toArray, List.getElem_cons_zero]
    refine wpAnyH_take (i := 1) (oi := _) (v := ?_) rfl (by kernel_rfl) (by kernel_rfl) (by kernel_rfl) (fun _ _ _ h => h) (Or.inl ⟨by rfl, ?_⟩) (by assumption) ?_
    rotate_left
    · first | (intro w hSw; (try dsimp only at hSw); go_simp; done) | (intro w hSw; (try dsimp only at hSw); go_simp; with_reducible rfl)
    try simp only [Act.put, List.setIfInBounds_toArray, List.set_cons_zero, List.set_cons_succ, List.getElem_toArray, List.getElem_cons_succ, List.getElem_cons_zero]
    refine wpAnyH_take (i := 5) (oi := _) (v := ?_) rfl (by kernel_rfl) (by kernel_rfl) (by kernel_rfl) (fun _ _ _ h => h) (Or.inl ⟨by rfl, ?_⟩) (by assumption) ?_
    rotate_left
    · first | (intro w hSw; (try dsimp only at hSw); go_simp; done) | (intro w hSw; (try dsimp only at hSw); go_simp; with_reducible rfl)
    try simp only [Act.put, List.setIfInBounds_toArray, List.set_cons_zero, List.set_cons_succ, List.getElem_toArray, List.getElem_cons_succ, List.getElem_cons_zero]
    refine wpAnyH_take (i := 6) (oi := _) (v := ?_) rfl (by kernel_rfl) (by kernel_rfl) (by kernel_rfl) (fun _ _ _ h => h) (Or.inl ⟨by rfl, ?_⟩) (by assumption) ?_
    rotate_left
    · first | (intro w hSw; (try dsimp only at hSw); go_simp; done) | (intro w hSw; (try dsimp only at hSw); go_simp; with_reducible rfl)
    try simp only [Act.put, List.setIfInBounds_toArray, List.set_cons_zero, List.set_cons_succ, List.getElem_toArray, List.getElem_cons_succ, List.getElem_cons_zero]
    refine wpAnyH_take (i := 7) (oi := _) (v := ?_) rfl (by kernel_rfl) (by kernel_rfl) (by kernel_rfl) (fun _ _ _ h => h) (Or.inl ⟨by rfl, ?_⟩) (by assumption) ?_
    rotate_left
    · first | (intro w hSw; (try dsimp only at hSw); go_simp; done) | (intro w hSw; (try dsimp only at hSw); go_simp; with_reducible rfl)
    try simp only [Act.put, List.setIfInBounds_toArray, List.set_cons_zero, List.set_cons_succ, List.getElem_toArray, List.getElem_cons_succ, List.getElem_cons_zero]
    refine wpAnyH_ready (rs := [2]) (by kernel_rfl) (by simp) ?_
    refine AllReadyH.cons rfl (fun K hK => ?_) AllReadyH.nil
    go_simp
    go_wp2_with (go_at_call 46; refine (CA.out _ D1.out.drew).mono ?_; rintro e w2 ⟨rfl, b1⟩)
    have Fw2 : Hid (Below w.heap.size w w2) := bT D1.out.drew b1
    have Gw2 : Hid (Below w1.heap.size w1 w2) := bT (Below.refl w1.heap.size w1).drew b1
    clear b1
    refine hK.out _ _ ?_ (fun hHeld => ?_)
    · exact KB.out _ (bT G1.out Gw2.out)
    clear hK K
    refine wpAnyH_ready (rs := [3]) (by kernel_rfl) (by simp) ?_
    refine AllReadyH.cons rfl (fun K hK => ?_) AllReadyH.nil
    go_simp
    go_wp2
    refine hK.out _ _ ?_ (fun hHeld => ?_)
    · exact KB.out _ (bT G1.out (bA Gw2.out _))
    clear hK K
    refine wpAnyH_ready (rs := [4]) (by kernel_rfl) (by simp) ?_
    refine AllReadyH.cons rfl (fun K hK => ?_) AllReadyH.nil
    go_simp
    go_wp2_with (go_at_call 42; refine (E1.out w2).mono ?_; rintro e w3 ⟨rfl, b1⟩)
    have Fw3 : Hid (Below w.heap.size w w3) := bT (bA Fw2.out _) b1
    have Gw3 : Hid (Below w1.heap.size w1 w3) := bT (bA Gw2.out _) b1
    clear b1
    refine hK.out _ _ ?_ (fun hHeld => ?_)
    · exact KB.out _ (bT G1.out Gw3.out)
    clear hK K
    refine wpAnyH_ready (rs := [8]) (by kernel_rfl) (by simp) ?_
    refine AllReadyH.cons rfl (fun K hK => ?_) AllReadyH.nil
    go_simp
    go_wp2_with (go_at_call 46; refine (CT.out _ Fw3.out).mono ?_; rintro e w4 ⟨rfl, b1⟩)
    have Fw4 : Hid (Below w.heap.size w w4) := bT Fw3.out b1
    have Gw4 : Hid (Below w1.heap.size w1 w4) := bT Gw3.out b1
    clear b1
    refine hK.out _ _ ?_ (fun hHeld => ?_)
    · exact KB.out _ (bT G1.out Gw4.out)
    clear hK K
    refine wpAnyH_ready (rs := [9]) (by kernel_rfl) (by simp) ?_
    refine AllReadyH.cons rfl (fun K hK => ?_) AllReadyH.nil
    go_simp
    go_wp2
    refine hK.out _ _ ?_ (fun hHeld => ?_)
    · exact KB.out _ (bT G1.out (bA Gw4.out _))
    clear hK K
    refine wpAnyH_ready (rs := [10]) (by kernel_rfl) (by simp) ?_
    refine AllReadyH.cons rfl (fun K hK => ?_) AllReadyH.nil
    go_simp
    go_wp2_with (go_at_call 42; refine (E2.out w4).mono ?_; rintro e w5 ⟨rfl, b1⟩)
    have Fw5 : Hid (Below w.heap.size w w5) := bT (bA Fw4.out _) b1
    have Gw5 : Hid (Below w1.heap.size w1 w5) := bT (bA Gw4.out _) b1
    clear b1
    refine hK.out _ _ ?_ (fun hHeld => ?_)
    · exact KB.out _ (bT G1.out Gw5.out)
    clear hK K
    refine wpAnyH_take (i := 11) (oi := _) (v := ?_) rfl (by kernel_rfl) (by kernel_rfl) (by kernel_rfl) (fun _ _ _ h => h) (Or.inl ⟨by rfl, ?_⟩) (by assumption) ?_
    rotate_left
    · first | (intro w hSw; (try dsimp only at hSw); go_simp; done) | (intro w hSw; (try dsimp only at hSw); go_simp; with_reducible rfl)
    try simp only [Act.put, List.setIfInBounds_toArray, List.set_cons_zero, List.set_cons_succ, List.getElem_toArray, List.getElem_cons_succ, List.getElem_cons_zero]
    refine wpAnyH_take (i := 12) (oi := _) (v := ?_) rfl (by kernel_rfl) (by kernel_rfl) (by kernel_rfl) (fun _ _ _ h => h) (Or.inl ⟨by rfl, ?_⟩) (by assumption) ?_
    rotate_left
    · first | (intro w hSw; (try dsimp only at hSw); go_simp; done) | (intro w hSw; (try dsimp only at hSw); go_simp; with_reducible rfl)
    try simp only [Act.put, List.setIfInBounds_toArray, List.set_cons_zero, List.set_cons_succ, List.getElem_toArray, List.getElem_cons_succ, List.getElem_cons_zero]
    refine wpAnyH_done (by kernel_rfl) ?_ _
    clear hHeld
    go_wp2_with fail
    refine wp_region_held_drew (S := fun W => w.heap.size < W.heap.size ∧ W.cell? ⟨w.heap.size, 0, none⟩ = some (.slice sl n cap) ∧ W.cell? ⟨w.heap.size, 1, none⟩ = some (.slice tl m kap) ∧ W.cell? ⟨w.heap.size, 2, none⟩ = some (.int .i64 top) ∧ W.cell? ⟨w.heap.size, 3, none⟩ = some (.int .i64 pr) ∧ W.cell? ⟨w.heap.size, 4, none⟩ = some (.int .i64 st) ∧ W.cell? ⟨w.heap.size, 5, none⟩ = some (.int .i64 bu) ∧ W.cell? ⟨w.heap.size, 6, none⟩ = some (.slice bl q cb) ∧ W.cell? ⟨w.heap.size, 7, none⟩ = some (.slice pl p cp) ∧ W.cell? ⟨w.heap.size, 8, none⟩ = some (.slice ul u cu) ∧ W.cell? ⟨w.heap.size, 9, none⟩ = some (.int .i64 ai) ∧ W.cell? ⟨w.heap.size, 10, none⟩ = some (.int .i64 fx) ∧ W.cell? ⟨w.heap.size, 11, none⟩ = some (.bool gc) ∧ W.cell? ⟨w.heap.size, 12, none⟩ = some (.bool gf)) (by kernel_rfl) ?_ (fun hHeld => ?_)
    · exact KB.out _ (bT G1.out Gw5.out).drew
    refine wpAnyH_take (i := 0) (oi := _) (v := ?_) rfl (by kernel_rfl) (by kernel_rfl) (by kernel_rfl) (fun _ _ _ h => h) (Or.inl ⟨by rfl, ?_⟩) (by assumption) ?_
    rotate_left
    · first | (intro w hSw; (try dsimp only at hSw); go_simp; done) | (intro w hSw; (try dsimp only at hSw); go_simp; with_reducible rfl)
    try simp only [Act.put, List.setIfInBounds_toArray, List.set_cons_zero, List.set_cons_succ, List.getElem_toArray, List.getElem_cons_zero]
    refine wpAnyH_take (i := 1) (oi := _) (v := ?_) rfl (by kernel_rfl) (by kernel_rfl) (by kernel_rfl) (fun _ _ _ h => h) (Or.inl ⟨by rfl, ?_⟩) (by assumption) ?_
    rotate_left
    · first | (intro w hSw; (try dsimp only at hSw); go_simp; done) | (intro w hSw; (try dsimp only at hSw); go_simp; with_reducible rfl)
    try simp only [Act.put, List.setIfInBounds_toArray, List.set_cons_zero, List.set_cons_succ, List.getElem_toArray, List.getElem_cons_succ, List.getElem_cons_zero]
    refine wpAnyH_take (i := 2) (oi := _) (v := ?_) rfl (by kernel_rfl) (by kernel_rfl) (by kernel_rfl) (fun _ _ _ h => h) (Or.inl ⟨by rfl, ?_⟩) (by assumption) ?_
    rotate_left
    · first | (intro w hSw; (try dsimp only at hSw); go_simp; done) | (intro w hSw; (try dsimp only at hSw); go_simp; with_reducible rfl)
    try simp only [Act.put, List.setIfInBounds_toArray, List.set_cons_zero, List.set_cons_succ, List.getElem_toArray, List.getElem_cons_succ, List.getElem_cons_zero]
    refine wpAnyH_take (i := 5) (oi := _) (v := ?_) rfl (by kernel_rfl) (by kernel_rfl) (by kernel_rfl) (fun _ _ _ h => h) (Or.inl ⟨by rfl, ?_⟩) (by assumption) ?_
    rotate_left
    · first | (intro w hSw; (try dsimp only at hSw); go_simp; done) | (intro w hSw; (try dsimp only at hSw); go_simp; with_reducible rfl)
    try simp only [Act.put, List.setIfInBounds_toArray, List.set_cons_zero, List.set_cons_succ, List.getElem_toArray, List.getElem_cons_succ, List.getElem_cons_zero]
    refine wpAnyH_take (i := 6) (oi := _) (v := ?_) rfl (by kernel_rfl) (by kernel_rfl) (by kernel_rfl) (fun _ _ _ h => h) (Or.inl ⟨by rfl, ?_⟩) (by assumption) ?_
    rotate_left
    · first | (intro w hSw; (try dsimp only at hSw); go_simp; done) | (intro w hSw; (try dsimp only at hSw); go_simp; with_reducible rfl)
    try simp only [Act.put, List.setIfInBounds_toArray, List.set_cons_zero, List.set_cons_succ, List.getElem_toArray, List.getElem_cons_succ, List.getElem_cons_zero]
    refine wpAnyH_take (i := 7) (oi := _) (v := ?_) rfl (by kernel_rfl) (by kernel_rfl) (by kernel_rfl) (fun _ _ _ h => h) (Or.inl ⟨by rfl, ?_⟩) (by assumption) ?_
    rotate_left
    · first | (intro w hSw; (try dsimp only at hSw); go_simp; done) | (intro w hSw; (try dsimp only at hSw); go_simp; with_reducible rfl)
    try simp only [Act.put, List.setIfInBounds_toArray, List.set_cons_zero, List.set_cons_succ, List.getElem_toArray, List.getElem_cons_succ, List.getElem_cons_zero]
    refine wpAnyH_take (i := 10) (oi := _) (v := ?_) rfl (by kernel_rfl) (by kernel_rfl) (by kernel_rfl) (fun _ _ _ h => h) (Or.inl ⟨by rfl, ?_⟩) (by assumption) ?_
    rotate_left
    · first | (intro w hSw; (try dsimp only at hSw); go_simp; done) | (intro w hSw; (try dsimp only at hSw); go_simp; with_reducible rfl)
    try simp only [Act.put, List.setIfInBounds_toArray, List.set_cons_zero, List.set_cons_succ, List.getElem_toArray, List.getElem_cons_succ, List.getElem_cons_zero]
    refine wpAnyH_ready (rs := [3]) (by kernel_rfl) (by simp) ?_
    refine AllReadyH.cons rfl (fun K hK => ?_) AllReadyH.nil
    go_simp
    go_wp2_with (go_at_call 9; refine (CB.out _ Fw5.out.drew).mono ?_; rintro e w6 ⟨rfl, b1⟩)
    have Fw6 : Hid (Below w.heap.size w w6) := bT Fw5.out.drew b1
    have Gw6 : Hid (Below w1.heap.size w1 w6) := bT Gw5.out.drew b1
    clear b1
    refine hK.out _ _ ?_ (fun hHeld => ?_)
    · exact KB.out _ (bT G1.out Gw6.out)
    clear hK K
    refine wpAnyH_take (i := 4) (oi := _) (v := ?_) rfl (by kernel_rfl) (by kernel_rfl) (by kernel_rfl) (fun _ _ _ h => h) (Or.inl ⟨by rfl, ?_⟩) (by assumption) ?_
    rotate_left
    · first | (intro w hSw; (try dsimp only at hSw); go_simp; done) | (intro w hSw; (try dsimp only at hSw); go_simp; with_reducible rfl)
    try simp only [Act.put, List.setIfInBounds_toArray, List.set_cons_zero, List.set_cons_succ, List.getElem_toArray, List.getElem_cons_succ, List.getElem_cons_zero]
    refine wpAnyH_ready (rs := [8]) (by kernel_rfl) (by simp) ?_
    refine AllReadyH.cons rfl (fun K hK => ?_) AllReadyH.nil
    go_simp
    go_wp2_with (go_at_call 47; refine (CL.out _ Fw6.out).mono ?_; rintro e w7 ⟨rfl, b1⟩)
    have Fw7 : Hid (Below w.heap.size w w7) := bT Fw6.out b1
    have Gw7 : Hid (Below w1.heap.size w1 w7) := bT Gw6.out b1
    clear b1
    refine hK.out _ _ ?_ (fun hHeld => ?_)
    · exact KB.out _ (bT G1.out Gw7.out)
    clear hK K
    refine wpAnyH_take (i := 9) (oi := _) (v := ?_) rfl (by kernel_rfl) (by kernel_rfl) (by kernel_rfl) (fun _ _ _ h => h) (Or.inl ⟨by rfl, ?_⟩) (by assumption) ?_
    rotate_left
    · first | (intro w hSw; (try dsimp only at hSw); go_simp; done) | (intro w hSw; (try dsimp only at hSw); go_simp; with_reducible rfl)
    try simp only [Act.put, List.setIfInBounds_toArray, List.set_cons_zero, List.set_cons_succ, List.getElem_toArray, List.getElem_cons_succ, List.getElem_cons_zero]
    refine wpAnyH_ready (rs := [11]) (by kernel_rfl) (by simp) ?_
    refine AllReadyH.cons rfl (fun K hK => ?_) AllReadyH.nil
    go_simp
    go_wp2_with (go_at_call 14; refine (CY.out _ Fw7.out).mono ?_; rintro e w8 ⟨rfl, b1⟩)
    have Fw8 : Hid (Below w.heap.size w w8) := bT Fw7.out b1
    have Gw8 : Hid (Below w1.heap.size w1 w8) := bT Gw7.out b1
    clear b1
    refine hK.out _ _ ?_ (fun hHeld => ?_)
    · exact KB.out _ (bT G1.out Gw8.out)
    clear hK K
    refine wpAnyH_take (i := 12) (oi := _) (v := ?_) rfl (by kernel_rfl) (by kernel_rfl) (by kernel_rfl) (fun _ _ _ h => h) (Or.inl ⟨by rfl, ?_⟩) (by assumption) ?_
    rotate_left
    · first | (intro w hSw; (try dsimp only at hSw); go_simp; done) | (intro w hSw; (try dsimp only at hSw); go_simp; with_reducible rfl)
    try simp only [Act.put, List.setIfInBounds_toArray, List.set_cons_zero, List.set_cons_succ, List.getElem_toArray, List.getElem_cons_succ, List.getElem_cons_zero]
    refine wpAnyH_take (i := 13) (oi := _) (v := ?_) rfl (by kernel_rfl) (by kernel_rfl) (by kernel_rfl) (fun _ _ _ h => h) (Or.inl ⟨by rfl, ?_⟩) (by assumption) ?_
    rotate_left
    · first | (intro w hSw; (try dsimp only at hSw); go_simp; done) | (intro w hSw; (try dsimp only at hSw); go_simp; with_reducible rfl)
    try simp only [Act.put, List.setIfInBounds_toArray, List.set_cons_zero, List.set_cons_succ, List.getElem_toArray, List.getElem_cons_succ, List.getElem_cons_zero]
    refine wpAnyH_done (by kernel_rfl) ?_ _
    clear KB CA CT CB CL CY CR E1 E2 Gw2 Gw3 Gw4 Gw5 Gw6 Gw7 Gw8 hHeld
    go_wp2
    go_ret
    exact ⟨by rw [HE.out, ← e1.out]; rfl, Fw8.out⟩
end Go.Proofs.YtanoklpffenljaaGreatDoor
