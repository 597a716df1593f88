/-
  TWO TABLES HELD AGAINST EACH OTHER.
-/
import Derived.Test.YtdndhhkpbcpalaaDoorAo
import Derived.Deep.RegionHeldLaw
namespace Go.Proofs.YtdndhhkpbcpalaaDoor
open Go.RowKit
set_option linter.unusedVariables false

set_option maxRecDepth 100000 in
set_option maxHeartbeats 1000000 in
theorem eqP_any (a b q : Int) (w : World) : Calls Tryd.prog 40 #[.agg #[.int .i64 a, .int .i64 b, .int .i64 q], .agg #[.int .i64 a, .int .i64 b, .int .i64 q]] w fun e w' => e = .returned (.bool true) ∧ Below w.heap.size w w' := by
  go_enter Tryd.func40, Tryd.ntmps40
  go_wp2
  go_ret
  exact ⟨rfl, bA (bA0 _ _) _⟩
set_option maxRecDepth 100000 in
set_option maxHeartbeats 1000000 in
theorem eqS_any (x y : Int) (sl sl2 : Option Addr) (cap cap2 : Nat) (zs : List Int) (w : World) (hn : zs.length ≤ maxLen) (hz : Ints w sl zs) (hz2 : Ints w sl2 zs) :
    Calls Tryd.prog 39 #[SV x y sl zs.length cap, SV x y sl2 zs.length cap2] w fun e w' => e = .returned (.bool true) ∧ Below w.heap.size w w' := by
  have E : Hid (∀ w1, Below w.heap.size w w1 → Calls Tryd.prog 55 #[.slice sl zs.length cap, .slice sl2 zs.length cap2] w1 fun e w' => e = .returned (.bool true) ∧ Below w1.heap.size w1 w') :=
    fun w1 hb => eq_any sl sl2 cap cap2 zs w1 hn (hz.below hb) (hz2.below hb)
  clear hz hz2
  generalize zs.length = n at *
  go_enter Tryd.func39, Tryd.ntmps39
  go_wp2_with fail
  refine (E.out _ (bA (bA0 _ _) _)).mono ?_
  rintro e w1 ⟨rfl, hb⟩
  have P := Lib.hid (bT (bA (bA0 w _) _) hb)
  clear hb
  go_wp2
  go_ret
  exact ⟨rfl, P.out⟩

set_option maxRecDepth 100000 in
set_option maxHeartbeats 2000000 in
theorem eqPS_any (sl sl' : Option Addr) (cap cap' : Nat) (ps : List LPr) (w : World) (hn : ps.length ≤ 1048576) (h : Prs w sl ps) (h' : Prs w sl' ps) :
    Calls Tryd.prog 26 #[.slice sl ps.length cap, .slice sl' ps.length cap'] w fun e w' => e = .returned (.bool true) ∧ Below w.heap.size w w' := by
  have H := Lib.hid h
  have H' := Lib.hid h'
  clear h h'
  generalize hN : ps.length = n at *
  have HN := Lib.hid hN
  clear hN
  go_enter Tryd.func26, Tryd.ntmps26
  go_wp2
  go_loopw [5] (fun i wr => ∃ j : Nat, i = .int .i64 j ∧ j ≤ n ∧ Hid (Below w.heap.size w wr)) (fun i _ => n - (intOf i).toNat)
  case atStart => exact ⟨0, rfl, Nat.zero_le _, Below.refl _ _⟩
  case round =>
    obtain ⟨j, rfl, hj, H2⟩ := hrel
    have hj0 : (0 : Int) ≤ (j : Int) := by omega
    by_cases h1 : j < n
    · have h1' : (j : Int) < (n : Int) := by omega
      have hlt : j < ps.length := by rw [HN.out]; exact h1
      obtain ⟨g, o, rfl, Z0⟩ : ∃ c o, sl = some ⟨c, o, none⟩ ∧ PrAt w c o ps := by
        rcases H.out with e | h
        · rw [e] at hlt; simp at hlt
        · exact h
      obtain ⟨g', o', rfl, Z0'⟩ : ∃ c o, sl' = some ⟨c, o, none⟩ ∧ PrAt w c o ps := by
        rcases H'.out with e | h
        · rw [e] at hlt; simp at hlt
        · exact h
      obtain ⟨c0, c1, c2⟩ := (Z0.below H2.out).cell j hlt
      obtain ⟨d0, d1, d2⟩ := (Z0'.below H2.out).cell j hlt
      have hgl := (Z0.below H2.out).lt
      have hgl' := (Z0'.below H2.out).lt
      obtain ⟨x, y, q, hp⟩ : ∃ a b q, ps[j] = (a, b, q) := ⟨_, _, _, rfl⟩
      rw [hp] at c0 c1 c2 d0 d1 d2
      dsimp only at c0 c1 c2 d0 d1 d2
      have E : Hid (∀ W, Below wr.heap.size wr W → Calls Tryd.prog 40 #[.agg #[.int .i64 x, .int .i64 y, .int .i64 q], .agg #[.int .i64 x, .int .i64 y, .int .i64 q]] W fun e w' => e = .returned (.bool true) ∧ Below W.heap.size W w') := fun W _ => eqP_any x y q W
      have KB : Hid (∀ W, Below wr.heap.size wr W → g < W.heap.size ∧ g' < W.heap.size ∧ W.cell? ⟨g, o + j * 3, none⟩ = some (.int .i64 x) ∧ W.cell? ⟨g, o + j * 3 + 1, none⟩ = some (.int .i64 y) ∧ W.cell? ⟨g, o + j * 3 + 2, none⟩ = some (.int .i64 q) ∧ W.cell? ⟨g', o' + j * 3, none⟩ = some (.int .i64 x) ∧ W.cell? ⟨g', o' + j * 3 + 1, none⟩ = some (.int .i64 y) ∧ W.cell? ⟨g', o' + j * 3 + 2, none⟩ = some (.int .i64 q)) := fun W hW => ⟨Nat.lt_of_lt_of_le hgl hW.size, Nat.lt_of_lt_of_le hgl' hW.size, (hW.cell hgl).trans c0, (hW.cell hgl).trans c1, (hW.cell hgl).trans c2, (hW.cell hgl').trans d0, (hW.cell hgl').trans d1, (hW.cell hgl').trans d2⟩
      clear hp hlt Z0 Z0'
      go_wp2_with fail
      refine wp_region_held_drew (S := fun W => g < W.heap.size ∧ g' < W.heap.size ∧ W.cell? ⟨g, o + j * 3, none⟩ = some (.int .i64 x) ∧ W.cell? ⟨g, o + j * 3 + 1, none⟩ = some (.int .i64 y) ∧ W.cell? ⟨g, o + j * 3 + 2, none⟩ = some (.int .i64 q) ∧ W.cell? ⟨g', o' + j * 3, none⟩ = some (.int .i64 x) ∧ W.cell? ⟨g', o' + j * 3 + 1, none⟩ = some (.int .i64 y) ∧ W.cell? ⟨g', o' + j * 3 + 2, none⟩ = some (.int .i64 q)) (by kernel_rfl) ?_ (fun hHeld => ?_)
      · exact KB.out _ (Below.refl _ _).drew
      refine wpAnyH_take (i := 0) (oi := _) (v := ?_) rfl (by kernel_rfl) (by kernel_rfl) (by kernel_rfl) (fun _ _ _ h => h) (Or.inl ⟨by rfl, ?_⟩) (by assumption) ?_
      rotate_left
      · first | (intro w hSw; (try dsimp only at hSw); go_simp; done) | (intro w hSw; (try dsimp only at hSw); go_simp; with_reducible rfl)
      try simp only [Act.put, List.setIfInBounds_toArray, List.set_cons_zero, List.set_cons_succ, List.getElem_toArray, List.getElem_cons_zero]
      refine wpAnyH_take (i := 1) (oi := _) (v := ?_) rfl (by kernel_rfl) (by kernel_rfl) (by kernel_rfl) (fun _ _ _ h => h) (Or.inl ⟨by rfl, ?_⟩) (by assumption) ?_
      rotate_left
      · first | (intro w hSw; (try dsimp only at hSw); go_simp; done) | (intro w hSw; (try dsimp only at hSw); go_simp; with_reducible rfl)
      try simp only [Act.put, List.setIfInBounds_toArray, List.set_cons_zero, List.set_cons_succ, List.getElem_toArray, List.getElem_cons_succ, List.getElem_cons_zero]
      refine wpAnyH_take (i := 2) (oi := _) (v := ?_) rfl (by kernel_rfl) (by kernel_rfl) (by kernel_rfl) (fun _ _ _ h => h) (Or.inl ⟨by rfl, ?_⟩) (by assumption) ?_
      rotate_left
      · first | (intro w hSw; (try dsimp only at hSw); go_simp; done) | (intro w hSw; (try dsimp only at hSw); go_simp; with_reducible rfl)
      try simp only [Act.put, List.setIfInBounds_toArray, List.set_cons_zero, List.set_cons_succ, List.getElem_toArray, List.getElem_cons_succ, List.getElem_cons_zero]
      refine wpAnyH_take (i := 3) (oi := _) (v := ?_) rfl (by kernel_rfl) (by kernel_rfl) (by kernel_rfl) (fun _ _ _ h => h) (Or.inl ⟨by rfl, ?_⟩) (by assumption) ?_
      rotate_left
      · first | (intro w hSw; (try dsimp only at hSw); go_simp; done) | (intro w hSw; (try dsimp only at hSw); go_simp; with_reducible rfl)
      try simp only [Act.put, List.setIfInBounds_toArray, List.set_cons_zero, List.set_cons_succ, List.getElem_toArray, List.getElem_cons_succ, List.getElem_cons_zero]
      refine wpAnyH_take (i := 4) (oi := _) (v := ?_) rfl (by kernel_rfl) (by kernel_rfl) (by kernel_rfl) (fun _ _ _ h => h) (Or.inl ⟨by rfl, ?_⟩) (by assumption) ?_
      rotate_left
      · first | (intro w hSw; (try dsimp only at hSw); go_simp; done) | (intro w hSw; (try dsimp only at hSw); go_simp; with_reducible rfl)
      try simp only [Act.put, List.setIfInBounds_toArray, List.set_cons_zero, List.set_cons_succ, List.getElem_toArray, List.getElem_cons_succ, List.getElem_cons_zero]
      refine wpAnyH_take (i := 5) (oi := _) (v := ?_) rfl (by kernel_rfl) (by kernel_rfl) (by kernel_rfl) (fun _ _ _ h => h) (Or.inl ⟨by rfl, ?_⟩) (by assumption) ?_
      rotate_left
      · first | (intro w hSw; (try dsimp only at hSw); go_simp; done) | (intro w hSw; (try dsimp only at hSw); go_simp; with_reducible rfl)
      try simp only [Act.put, List.setIfInBounds_toArray, List.set_cons_zero, List.set_cons_succ, List.getElem_toArray, List.getElem_cons_succ, List.getElem_cons_zero]
      refine wpAnyH_take (i := 6) (oi := _) (v := ?_) rfl (by kernel_rfl) (by kernel_rfl) (by kernel_rfl) (fun _ _ _ h => h) (Or.inl ⟨by rfl, ?_⟩) (by assumption) ?_
      rotate_left
      · first | (intro w hSw; (try dsimp only at hSw); go_simp; done) | (intro w hSw; (try dsimp only at hSw); go_simp; with_reducible rfl)
      try simp only [Act.put, List.setIfInBounds_toArray, List.set_cons_zero, List.set_cons_succ, List.getElem_toArray, List.getElem_cons_succ, List.getElem_cons_zero]
      refine wpAnyH_take (i := 7) (oi := _) (v := ?_) rfl (by kernel_rfl) (by kernel_rfl) (by kernel_rfl) (fun _ _ _ h => h) (Or.inl ⟨by rfl, ?_⟩) (by assumption) ?_
      rotate_left
      · first | (intro w hSw; (try dsimp only at hSw); go_simp; done) | (intro w hSw; (try dsimp only at hSw); go_simp; with_reducible rfl)
      try simp only [Act.put, List.setIfInBounds_toArray, List.set_cons_zero, List.set_cons_succ, List.getElem_toArray, List.getElem_cons_succ, List.getElem_cons_zero]
      refine wpAnyH_ready (rs := [8]) (by kernel_rfl) (by simp) ?_
      refine AllReadyH.cons rfl (fun K hK => ?_) AllReadyH.nil
      go_simp
      go_wp2_with (go_at_call 40; refine (E.out _ (by first | exact Below.refl _ _ | exact (Below.refl _ _).drew | exact Go.below_drewN (Below.refl _ _) _)).mono ?_; rintro e w5 ⟨rfl, b5⟩)
      have D5 : Hid (Below wr.heap.size wr w5) := bT ((Below.refl wr.heap.size wr).drew) b5
      clear b5
      refine hK.out _ _ ?_ (fun hHeld => ?_)
      · exact KB.out _ D5.out
      clear hK K
      refine wpAnyH_take (i := 9) (oi := _) (v := ?_) rfl (by kernel_rfl) (by kernel_rfl) (by kernel_rfl) (fun _ _ _ h => h) (Or.inl ⟨by rfl, ?_⟩) (by assumption) ?_
      rotate_left
      · first | (intro w hSw; (try dsimp only at hSw); go_simp; done) | (intro w hSw; (try dsimp only at hSw); go_simp; with_reducible rfl)
      try simp only [Act.put, List.setIfInBounds_toArray, List.set_cons_zero, List.set_cons_succ, List.getElem_toArray, List.getElem_cons_succ, List.getElem_cons_zero]
      refine wpAnyH_done (by kernel_rfl) ?_ _
      have BQ5 := Lib.hid (bT H2.out D5.out)
      clear D5 KB E c0 c1 c2 d0 d1 d2
      go_wp2_with fail
      go_roundw
      case rel => exact ⟨j + 1, by go_num, by omega, BQ5⟩
      case measure => simp [intOf]; omega
    · have h1' : ¬ (j : Int) < (n : Int) := by omega
      go_wp2
      go_ret
      exact ⟨rfl, H2.out⟩

set_option maxRecDepth 100000 in
set_option maxHeartbeats 2000000 in
theorem eqSS_any (sl sl' : Option Addr) (cap cap' : Nat) (rs rs' : List LSt) (w : World) (hn : rs.length ≤ 1048576) (hb : bareS rs = bareS rs') (h : Sts w sl rs) (h' : Sts w sl' rs') :
    Calls Tryd.prog 25 #[.slice sl rs.length cap, .slice sl' rs'.length cap'] w fun e w' => e = .returned (.bool true) ∧ Below w.heap.size w w' := by
  rw [← bareS_len hb]
  have H := Lib.hid h
  have H' := Lib.hid h'
  have HB := Lib.hid hb
  clear h h' hb
  generalize hN : rs.length = n at *
  have HN := Lib.hid hN
  clear hN
  go_enter Tryd.func25, Tryd.ntmps25
  go_wp2
  go_loopw [5] (fun i wr => ∃ j : Nat, i = .int .i64 j ∧ j ≤ n ∧ Hid (Below w.heap.size w wr)) (fun i _ => n - (intOf i).toNat)
  case atStart => exact ⟨0, rfl, Nat.zero_le _, Below.refl _ _⟩
  case round =>
    obtain ⟨j, rfl, hj, H2⟩ := hrel
    have hj0 : (0 : Int) ≤ (j : Int) := by omega
    by_cases h1 : j < n
    · have h1' : (j : Int) < (n : Int) := by omega
      have hlt : j < rs.length := by rw [HN.out]; exact h1
      have hlt' : j < rs'.length := by rw [← bareS_len HB.out]; exact hlt
      obtain ⟨g, o, rfl, Z0⟩ : ∃ c o, sl = some ⟨c, o, none⟩ ∧ StAt w c o rs := by
        rcases H.out.row with e | h
        · rw [e] at hlt; simp at hlt
        · exact h
      obtain ⟨g', o', rfl, Z0'⟩ : ∃ c o, sl' = some ⟨c, o, none⟩ ∧ StAt w c o rs' := by
        rcases H'.out.row with e | h
        · rw [e] at hlt'; simp at hlt'
        · exact h
      obtain ⟨c0, c1, c2⟩ := (Z0.below H2.out).cell j hlt
      obtain ⟨d0, d1, d2⟩ := (Z0'.below H2.out).cell j hlt'
      have hgl := (Z0.below H2.out).lt
      have hgl' := (Z0'.below H2.out).lt
      have e1 : (rs[j].1, rs[j].2.1, rs[j].2.2.2) = (rs'[j].1, rs'[j].2.1, rs'[j].2.2.2) := by
        have := congrArg (fun l => l[j]?) HB.out
        simpa [bareS, hlt, hlt'] using this
      obtain ⟨s1, k1, v1, i1, l1⟩ := (H.out.dom rs[j] (List.getElem_mem hlt)).below H2.out
      obtain ⟨s2, k2, v2, i2, l2⟩ := (H'.out.dom rs'[j] (List.getElem_mem hlt')).below H2.out
      obtain ⟨x, y, v, zs, hp⟩ : ∃ x y v zs, rs[j] = (x, y, v, zs) := ⟨_, _, _, _, rfl⟩
      obtain ⟨x', y', v', zs', hp'⟩ : ∃ x y v zs, rs'[j] = (x, y, v, zs) := ⟨_, _, _, _, rfl⟩
      rw [hp] at c0 c1 c2 v1 i1 l1 e1
      rw [hp'] at d0 d1 d2 v2 i2 l2 e1
      dsimp only at c0 c1 c2 d0 d1 d2 v1 i1 l1 v2 i2 l2 e1
      obtain ⟨rfl, rfl, rfl⟩ : x = x' ∧ y = y' ∧ zs = zs' := by simpa using e1
      subst v1 v2
      have E : Hid (∀ W, Below wr.heap.size wr W → Calls Tryd.prog 39 #[SV x y s1 zs.length k1, SV x y s2 zs.length k2] W fun e w' => e = .returned (.bool true) ∧ Below W.heap.size W w') := fun W hW => eqS_any x y s1 s2 k1 k2 zs W (by unfold maxLen; omega) (i1.below hW) (i2.below hW)
      clear hp hp' hlt hlt' Z0 Z0' e1 i1 i2 l1 l2
      generalize zs.length = q at *
      have KB : Hid (∀ W, Below wr.heap.size wr W → g < W.heap.size ∧ g' < W.heap.size ∧ W.cell? ⟨g, o + j * 3, none⟩ = some (.int .i64 x) ∧ W.cell? ⟨g, o + j * 3 + 1, none⟩ = some (.int .i64 y) ∧ W.cell? ⟨g, o + j * 3 + 2, none⟩ = some (.slice s1 q k1) ∧ W.cell? ⟨g', o' + j * 3, none⟩ = some (.int .i64 x) ∧ W.cell? ⟨g', o' + j * 3 + 1, none⟩ = some (.int .i64 y) ∧ W.cell? ⟨g', o' + j * 3 + 2, none⟩ = some (.slice s2 q k2)) := fun W hW => ⟨Nat.lt_of_lt_of_le hgl hW.size, Nat.lt_of_lt_of_le hgl' hW.size, (hW.cell hgl).trans c0, (hW.cell hgl).trans c1, (hW.cell hgl).trans c2, (hW.cell hgl').trans d0, (hW.cell hgl').trans d1, (hW.cell hgl').trans d2⟩
      go_wp2_with fail
      refine wp_region_held_drew (S := fun W => g < W.heap.size ∧ g' < W.heap.size ∧ W.cell? ⟨g, o + j * 3, none⟩ = some (.int .i64 x) ∧ W.cell? ⟨g, o + j * 3 + 1, none⟩ = some (.int .i64 y) ∧ W.cell? ⟨g, o + j * 3 + 2, none⟩ = some (.slice s1 q k1) ∧ W.cell? ⟨g', o' + j * 3, none⟩ = some (.int .i64 x) ∧ W.cell? ⟨g', o' + j * 3 + 1, none⟩ = some (.int .i64 y) ∧ W.cell? ⟨g', o' + j * 3 + 2, none⟩ = some (.slice s2 q k2)) (by kernel_rfl) ?_ (fun hHeld => ?_)
      · exact KB.out _ (Below.refl _ _).drew
      refine wpAnyH_take (i := 0) (oi := _) (v := ?_) rfl (by kernel_rfl) (by kernel_rfl) (by kernel_rfl) (fun _ _ _ h => h) (Or.inl ⟨by rfl, ?_⟩) (by assumption) ?_
      rotate_left
      · first | (intro w hSw; (try dsimp only at hSw); go_simp; done) | (intro w hSw; (try dsimp only at hSw); go_simp; with_reducible rfl)
      try simp only [Act.put, List.setIfInBounds_toArray, List.set_cons_zero, List.set_cons_succ, List.getElem_toArray, List.getElem_cons_zero]
      refine wpAnyH_take (i := 1) (oi := _) (v := ?_) rfl (by kernel_rfl) (by kernel_rfl) (by kernel_rfl) (fun _ _ _ h => h) (Or.inl ⟨by rfl, ?_⟩) (by assumption) ?_
      rotate_left
      · first | (intro w hSw; (try dsimp only at hSw); go_simp; done) | (intro w hSw; (try dsimp only at hSw); go_simp; with_reducible rfl)
      try simp only [Act.put, List.setIfInBounds_toArray, List.set_cons_zero, List.set_cons_succ, List.getElem_toArray, List.getElem_cons_succ, List.getElem_cons_zero]
      refine wpAnyH_take (i := 2) (oi := _) (v := ?_) rfl (by kernel_rfl) (by kernel_rfl) (by kernel_rfl) (fun _ _ _ h => h) (Or.inl ⟨by rfl, ?_⟩) (by assumption) ?_
      rotate_left
      · first | (intro w hSw; (try dsimp only at hSw); go_simp; done) | (intro w hSw; (try dsimp only at hSw); go_simp; with_reducible rfl)
      try simp only [Act.put, List.setIfInBounds_toArray, List.set_cons_zero, List.set_cons_succ, List.getElem_toArray, List.getElem_cons_succ, List.getElem_cons_zero]
      refine wpAnyH_take (i := 3) (oi := _) (v := ?_) rfl (by kernel_rfl) (by kernel_rfl) (by kernel_rfl) (fun _ _ _ h => h) (Or.inl ⟨by rfl, ?_⟩) (by assumption) ?_
      rotate_left
      · first | (intro w hSw; (try dsimp only at hSw); go_simp; done) | (intro w hSw; (try dsimp only at hSw); go_simp; with_reducible rfl)
      try simp only [Act.put, List.setIfInBounds_toArray, List.set_cons_zero, List.set_cons_succ, List.getElem_toArray, List.getElem_cons_succ, List.getElem_cons_zero]
      refine wpAnyH_take (i := 4) (oi := _) (v := ?_) rfl (by kernel_rfl) (by kernel_rfl) (by kernel_rfl) (fun _ _ _ h => h) (Or.inl ⟨by rfl, ?_⟩) (by assumption) ?_
      rotate_left
      · first | (intro w hSw; (try dsimp only at hSw); go_simp; done) | (intro w hSw; (try dsimp only at hSw); go_simp; with_reducible rfl)
      try simp only [Act.put, List.setIfInBounds_toArray, List.set_cons_zero, List.set_cons_succ, List.getElem_toArray, List.getElem_cons_succ, List.getElem_cons_zero]
      refine wpAnyH_take (i := 5) (oi := _) (v := ?_) rfl (by kernel_rfl) (by kernel_rfl) (by kernel_rfl) (fun _ _ _ h => h) (Or.inl ⟨by rfl, ?_⟩) (by assumption) ?_
      rotate_left
      · first | (intro w hSw; (try dsimp only at hSw); go_simp; done) | (intro w hSw; (try dsimp only at hSw); go_simp; with_reducible rfl)
      try simp only [Act.put, List.setIfInBounds_toArray, List.set_cons_zero, List.set_cons_succ, List.getElem_toArray, List.getElem_cons_succ, List.getElem_cons_zero]
      refine wpAnyH_take (i := 6) (oi := _) (v := ?_) rfl (by kernel_rfl) (by kernel_rfl) (by kernel_rfl) (fun _ _ _ h => h) (Or.inl ⟨by rfl, ?_⟩) (by assumption) ?_
      rotate_left
      · first | (intro w hSw; (try dsimp only at hSw); go_simp; done) | (intro w hSw; (try dsimp only at hSw); go_simp; with_reducible rfl)
      try simp only [Act.put, List.setIfInBounds_toArray, List.set_cons_zero, List.set_cons_succ, List.getElem_toArray, List.getElem_cons_succ, List.getElem_cons_zero]
      refine wpAnyH_take (i := 7) (oi := _) (v := ?_) rfl (by kernel_rfl) (by kernel_rfl) (by kernel_rfl) (fun _ _ _ h => h) (Or.inl ⟨by rfl, ?_⟩) (by assumption) ?_
      rotate_left
      · first | (intro w hSw; (try dsimp only at hSw); go_simp; done) | (intro w hSw; (try dsimp only at hSw); go_simp; with_reducible rfl)
      try simp only [Act.put, List.setIfInBounds_toArray, List.set_cons_zero, List.set_cons_succ, List.getElem_toArray, List.getElem_cons_succ, List.getElem_cons_zero]
      refine wpAnyH_ready (rs := [8]) (by kernel_rfl) (by simp) ?_
      refine AllReadyH.cons rfl (fun K hK => ?_) AllReadyH.nil
      go_simp
      go_wp2_with (go_at_call 39; refine (E.out _ (by first | exact Below.refl _ _ | exact (Below.refl _ _).drew | exact Go.below_drewN (Below.refl _ _) _)).mono ?_; rintro e w5 ⟨rfl, b5⟩)
      have D5 : Hid (Below wr.heap.size wr w5) := bT ((Below.refl wr.heap.size wr).drew) b5
      clear b5
      refine hK.out _ _ ?_ (fun hHeld => ?_)
      · exact KB.out _ D5.out
      clear hK K
      refine wpAnyH_take (i := 9) (oi := _) (v := ?_) rfl (by kernel_rfl) (by kernel_rfl) (by kernel_rfl) (fun _ _ _ h => h) (Or.inl ⟨by rfl, ?_⟩) (by assumption) ?_
      rotate_left
      · first | (intro w hSw; (try dsimp only at hSw); go_simp; done) | (intro w hSw; (try dsimp only at hSw); go_simp; with_reducible rfl)
      try simp only [Act.put, List.setIfInBounds_toArray, List.set_cons_zero, List.set_cons_succ, List.getElem_toArray, List.getElem_cons_succ, List.getElem_cons_zero]
      refine wpAnyH_done (by kernel_rfl) ?_ _
      have BQ5 := Lib.hid (bT H2.out D5.out)
      clear D5 KB E c0 c1 c2 d0 d1 d2
      go_wp2_with fail
      go_roundw
      case rel => exact ⟨j + 1, by go_num, by omega, BQ5⟩
      case measure => simp [intOf]; omega
    · have h1' : ¬ (j : Int) < (n : Int) := by omega
      go_wp2
      go_ret
      exact ⟨rfl, H2.out⟩

set_option maxRecDepth 100000 in
set_option maxHeartbeats 1000000 in
/-- eqTable. -/
theorem eqT_any (sl sl' : Option Addr) (cap cap' : Nat) (tl tl' : Option Addr) (kap kap' : Nat) (rs rs' : List LSt) (ps : List LPr) (w : World) (hn : rs.length ≤ 1048576) (hm : ps.length ≤ 1048576) (hb : bareS rs = bareS rs') (h : Sts w sl rs) (h' : Sts w sl' rs') (hp : Prs w tl ps) (hp' : Prs w tl' ps) :
    Calls Tryd.prog 13 #[TV sl rs.length cap tl ps.length kap, TV sl' rs'.length cap' tl' ps.length kap'] w fun e w' => e = .returned (.bool true) ∧ Below w.heap.size w w' := by
  have E1 : Hid (∀ W, Below w.heap.size w W → Calls Tryd.prog 25 #[.slice sl rs.length cap, .slice sl' rs'.length cap'] W fun e w' => e = .returned (.bool true) ∧ Below W.heap.size W w') := fun W hW => eqSS_any sl sl' cap cap' rs rs' W hn hb (h.below hW) (h'.below hW)
  have E2 : Hid (∀ W, Below w.heap.size w W → Calls Tryd.prog 26 #[.slice tl ps.length kap, .slice tl' ps.length kap'] W fun e w' => e = .returned (.bool true) ∧ Below W.heap.size W w') := fun W hW => eqPS_any tl tl' kap kap' ps W hm (hp.below hW) (hp'.below hW)
  clear h h' hp hp' hb
  generalize rs.length = n at *
  generalize rs'.length = n' at *
  generalize ps.length = m at *
  go_enter Tryd.func13, Tryd.ntmps13
  go_wp2_with fail
  refine (E1.out _ (bA (bA0 _ _) _)).mono ?_
  rintro e w1 ⟨rfl, b1⟩
  have D1 := Lib.hid (bT (bA (bA0 w _) _) b1)
  obtain ⟨hc, hf⟩ := bcell b1
  clear b1
  go_wp2_with fail
  refine (E2.out _ D1.out).mono ?_
  rintro e w2 ⟨rfl, b2⟩
  have D2 := Lib.hid (bT D1.out b2)
  clear b2
  go_wp2
  go_ret
  exact ⟨rfl, D2.out⟩

end Go.Proofs.YtdndhhkpbcpalaaDoor
