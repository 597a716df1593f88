/-
  A TABLE THAT GREW, held against its marks: heldInt64S, heldStationS, heldPairS, heldTable, heldTableOut.
-/
import Derived.Test.YtdndhhkpbcpalaaDoorNb
namespace Go.Proofs.YtdndhhkpbcpalaaDoor
open Go.RowKit
set_option linter.unusedVariables false
set_option linter.unusedSimpArgs false

set_option maxHeartbeats 400000 in
theorem hdi_any (sl : Option Addr) (n cap : Nat) (k : Int) (hn : n ≤ 1048576) (k0 : 0 ≤ k) (k1 : k ≤ 1000000000) (w : World) (h : Ints w sl (marks k n)) :
    Calls Tryd.prog 42 #[.slice sl n cap, .int .i64 k] w fun e w' => e = .returned (.int .i64 (k + (n : Int))) ∧ w' = w := by
  have H := Lib.hid h
  clear h
  go_enter Tryd.func42, Tryd.ntmps42
  go_wp2
  go_loop [1, 5] (fun m i => ∃ j : Nat, i = .int .i64 j ∧ m = .int .i64 (k + (j : Int)) ∧ j ≤ n) (fun _ i => n - (intOf i).toNat)
  case atStart => exact ⟨0, rfl, by simp, Nat.zero_le _⟩
  case round =>
    obtain ⟨j, rfl, rfl, hj⟩ := hrel
    have hj0 : (0 : Int) ≤ (j : Int) := by omega
    by_cases h1 : j < n
    · have h1' : (j : Int) < (n : Int) := by omega
      obtain ⟨g, o, rfl, Z⟩ : ∃ c o, sl = some ⟨c, o, none⟩ ∧ IntsAt w c o (marks k n) := by
        rcases H.out with e | h
        · have := congrArg List.length e
          rw [marks_len] at this
          simp at this
          omega
        · exact h
      have hc := Z.2 j (by rw [marks_len]; exact h1)
      rw [List.getD_eq_getElem?_getD, marks_get k n j h1, Option.getD_some] at hc
      clear Z
      go_wp2
      go_round
      case rel => exact ⟨j + 1, by go_num, by go_num, by omega⟩
      case measure => simp [intOf]; omega
    · have h1' : ¬ (j : Int) < (n : Int) := by omega
      have H4 : Hid ((k + (j : Int)) = k + (n : Int)) := by show (k + (j : Int)) = k + (n : Int); omega
      go_wp2
      go_ret
      exact ⟨by rw [← H4.out]; rfl, rfl⟩

theorem mkR_get (rs : List LSt) (k : Int) (j : Nat) (hj : j < rs.length) : (mkR k rs)[j]? = some (k + (szR (rs.take j) : Int), k + (szR (rs.take j) : Int) + 1, rs[j].2.2.1, marks (k + (szR (rs.take j) : Int) + 1 + 1) rs[j].2.2.2.length) := by
  have e : rs = rs.take j ++ rs[j] :: rs.drop (j + 1) := by
    conv => lhs; rw [← List.take_append_drop j rs, List.drop_eq_getElem_cons hj]
  have e2 := congrArg (fun l => (mkR k l)[j]?) e
  rw [e2, mkR_add, List.getElem?_append_right (by rw [mkR_len, List.length_take]; omega), mkR_len, List.length_take, Nat.min_eq_left (by omega), Nat.sub_self]
  rfl
theorem szR_take (rs : List LSt) (j : Nat) (hj : j < rs.length) : szR (rs.take (j + 1)) = szR (rs.take j) + 2 + rs[j].2.2.2.length := by
  rw [List.take_succ_eq_append_getElem hj, szR_add, szR_one]
  omega
theorem szR_le (rs : List LSt) (j : Nat) : szR (rs.take j) ≤ szR rs := by
  have : szR rs = szR (rs.take j) + szR (rs.drop j) := by rw [← szR_add, List.take_append_drop]
  omega
theorem mkP_get (k : Int) (m j : Nat) (hj : j < m) : (mkP k m)[j]? = some (k + 3 * (j : Int), k + 3 * (j : Int) + 1, k + 3 * (j : Int) + 1 + 1) := by simp [mkP, hj]

set_option maxRecDepth 100000 in
set_option maxHeartbeats 2000000 in
theorem hds_any (sl : Option Addr) (n cap : Nat) (rs : List LSt) (k : Int) (hn : rs.length = n) (hb : n + totD rs ≤ 1000000) (k0 : 0 ≤ k) (k1 : k ≤ 10000000) (w : World) (h : Sts w sl (mkR k rs)) :
    Calls Tryd.prog 29 #[.slice sl n cap, .int .i64 k] w fun e w' => e = .returned (.int .i64 (k + (szR rs : Int))) ∧ w' = w := by
  have H := Lib.hid h
  have HN := Lib.hid hn
  have hs2 : szR rs ≤ 3000000 := by unfold szR; omega
  have HS : Hid (∀ j, szR (rs.take j) ≤ 3000000) := fun j => Nat.le_trans (szR_le rs j) hs2
  have HT := Lib.hid hb
  have hnn : n ≤ 1000000 := by omega
  clear h hn hb
  go_enter Tryd.func29, Tryd.ntmps29
  go_wp2
  go_loop [1, 5] (fun m i => ∃ j : Nat, i = .int .i64 j ∧ m = .int .i64 (k + (szR (rs.take j) : Int)) ∧ j ≤ n) (fun _ i => n - (intOf i).toNat)
  case atStart => exact ⟨0, rfl, by simp [szR, totD], Nat.zero_le _⟩
  case round =>
    obtain ⟨j, rfl, rfl, hj⟩ := hrel
    have hj0 : (0 : Int) ≤ (j : Int) := by omega
    by_cases h1 : j < n
    · have h1' : (j : Int) < (n : Int) := by omega
      have hlt : j < rs.length := by rw [HN.out]; exact h1
      have hlt2 : j < (mkR k rs).length := by rw [mkR_len]; exact hlt
      obtain ⟨g, o, rfl, Z⟩ : ∃ c o, sl = some ⟨c, o, none⟩ ∧ StAt w c o (mkR k rs) := by
        rcases H.out.row with e | h
        · rw [e] at hlt2; simp at hlt2
        · exact h
      have eg0 := mkR_get rs k j hlt
      rw [List.getElem?_eq_getElem hlt2] at eg0
      have eg := Option.some.inj eg0
      clear eg0
      obtain ⟨c0, c1, c2⟩ := Z.cell j hlt2
      have dm := H.out.dom _ (List.getElem_mem hlt2)
      rw [eg] at c0 c1 c2 dm
      obtain ⟨s1, p1, v1, i1, l1⟩ := dm
      dsimp only at c0 c1 c2 v1 i1 l1
      rw [v1] at c2
      rw [marks_len] at c2 l1
      have hz := HS.out j
      have HZ : Hid (k + (szR (rs.take (j + 1)) : Int) = k + (szR (rs.take j) : Int) + 1 + 1 + (rs[j].2.2.2.length : Int)) := by
        show _ = _
        rw [szR_take rs j hlt]
        push_cast
        omega
      have hz0 : 0 ≤ k + (szR (rs.take j) : Int) ∧ k + (szR (rs.take j) : Int) ≤ 15000000 := by omega
      clear Z v1 eg
      generalize k + (szR (rs.take j) : Int) = z at *
      obtain ⟨z0, z1⟩ := hz0
      have M1 := Lib.hid (hdi_any s1 rs[j].2.2.2.length p1 (z + 1 + 1) l1 (by omega) (by omega) w i1)
      clear i1
      generalize rs[j].2.2.2.length = q at *
      have hq1 : ¬ (z + 1 + 1 + (q : Int)) < 0 := by omega
      clear hlt hlt2
      go_wp2_with fail
      refine M1.out.mono ?_
      rintro e w2 ⟨rfl, rfl⟩
      go_wp2
      go_round
      case rel => exact ⟨j + 1, by go_num, by rw [HZ.out], by omega⟩
      case measure => simp [intOf]; omega
    · have h1' : ¬ (j : Int) < (n : Int) := by omega
      have H4 : Hid ((k + (szR (rs.take j) : Int)) = k + (szR rs : Int)) := by
        show _ = _
        rw [List.take_of_length_le (by rw [HN.out]; omega)]
      go_wp2
      go_ret
      exact ⟨by rw [← H4.out]; rfl, rfl⟩

set_option maxRecDepth 100000 in
set_option maxHeartbeats 2000000 in
theorem hdq_any (sl : Option Addr) (m cap : Nat) (k : Int) (hm : m ≤ 1000000) (k0 : 0 ≤ k) (k1 : k ≤ 20000000) (w : World) (h : Prs w sl (mkP k m)) :
    Calls Tryd.prog 30 #[.slice sl m cap, .int .i64 k] w fun e w' => e = .returned (.int .i64 (k + 3 * (m : Int))) ∧ w' = w := by
  have H := Lib.hid h
  clear h
  go_enter Tryd.func30, Tryd.ntmps30
  go_wp2
  go_loop [1, 5] (fun v i => ∃ j : Nat, i = .int .i64 j ∧ v = .int .i64 (k + 3 * (j : Int)) ∧ j ≤ m) (fun _ i => m - (intOf i).toNat)
  case atStart => exact ⟨0, rfl, by simp, Nat.zero_le _⟩
  case round =>
    obtain ⟨j, rfl, rfl, hj⟩ := hrel
    have hj0 : (0 : Int) ≤ (j : Int) := by omega
    by_cases h1 : j < m
    · have h1' : (j : Int) < (m : Int) := by omega
      have hlt2 : j < (mkP k m).length := by rw [mkP_len]; exact h1
      obtain ⟨g, o, rfl, Z⟩ : ∃ c o, sl = some ⟨c, o, none⟩ ∧ PrAt w c o (mkP k m) := by
        rcases H.out with e | h
        · rw [e] at hlt2; simp at hlt2
        · exact h
      have eg0 := mkP_get k m j h1
      rw [List.getElem?_eq_getElem hlt2] at eg0
      have eg := Option.some.inj eg0
      clear eg0
      obtain ⟨c0, c1, c2⟩ := Z.cell j hlt2
      rw [eg] at c0 c1 c2
      dsimp only at c0 c1 c2
      have HZ : Hid (k + 3 * ((j + 1 : Nat) : Int) = k + 3 * (j : Int) + 1 + 1 + 1) := by show _ = _; push_cast; omega
      have hz0 : 0 ≤ k + 3 * (j : Int) ∧ k + 3 * (j : Int) ≤ 25000000 := by omega
      clear Z eg hlt2
      generalize k + 3 * (j : Int) = z at *
      obtain ⟨z0, z1⟩ := hz0
      go_wp2
      go_round
      case rel => exact ⟨j + 1, by go_num, by rw [HZ.out], by omega⟩
      case measure => simp [intOf]; omega
    · have h1' : ¬ (j : Int) < (m : Int) := by omega
      have H4 : Hid ((k + 3 * (j : Int)) = k + 3 * (m : Int)) := by show _ = _; omega
      go_wp2
      go_ret
      exact ⟨by rw [← H4.out]; rfl, rfl⟩

set_option maxRecDepth 100000 in
set_option maxHeartbeats 1000000 in
/-- heldTable. -/
theorem hdt_any (B : Nat) (sl : Option Addr) (cap n : Nat) (sl2 : Option Addr) (cap2 m : Nat) (rs : List LSt) (hn : rs.length = n) (hb : n + totD rs + m ≤ 1000000) (w : World) (h : OwT w B (.slice sl n cap) (.slice sl2 m cap2) (mkR 1 rs) (mkP (1 + (szR rs : Int)) m)) :
    Calls Tryd.prog 15 #[.agg #[.slice sl n cap, .slice sl2 m cap2], .int .i64 1] w fun e w' => e = .returned (.int .i64 (1 + (szR rs : Int) + 3 * (m : Int))) ∧ Below w.heap.size w w' := by
  have b0 := bA0 w (.cells #[.slice sl n cap, .slice sl2 m cap2] 25)
  have hs2 : szR rs ≤ 3000000 := by unfold szR; omega
  have E1 : Hid (Calls Tryd.prog 29 #[.slice sl n cap, .int .i64 1] (w.alloc (.cells #[.slice sl n cap, .slice sl2 m cap2] 25)) fun e w' => e = .returned (.int .i64 (1 + (szR rs : Int))) ∧ w' = (w.alloc (.cells #[.slice sl n cap, .slice sl2 m cap2] 25))) := by
    obtain ⟨s1, c1, e1, S⟩ := own_st (h.below b0)
    rw [Value.slice.injEq] at e1
    obtain ⟨rfl, -, rfl⟩ := e1
    exact hds_any sl n cap rs 1 hn (by omega) (by omega) (by omega) _ S
  have E2 : Hid (Calls Tryd.prog 30 #[.slice sl2 m cap2, .int .i64 (1 + (szR rs : Int))] (w.alloc (.cells #[.slice sl n cap, .slice sl2 m cap2] 25)) fun e w' => e = .returned (.int .i64 (1 + (szR rs : Int) + 3 * (m : Int))) ∧ w' = (w.alloc (.cells #[.slice sl n cap, .slice sl2 m cap2] 25))) := by
    obtain ⟨s1, c1, e1, S⟩ := own_pr (h.below b0)
    rw [Value.slice.injEq] at e1
    obtain ⟨rfl, -, rfl⟩ := e1
    exact hdq_any sl2 m cap2 _ (by omega) (by omega) (by omega) _ S
  have hK : ¬ 1 + (szR rs : Int) < 0 ∧ ¬ (1 + (szR rs : Int) + 3 * (m : Int)) < 0 := by omega
  have B0 := Lib.hid b0
  clear h hb b0 hs2 hn
  generalize 1 + (szR rs : Int) + 3 * (m : Int) = q at *
  generalize 1 + (szR rs : Int) = k at *
  obtain ⟨k0, k1⟩ := hK
  go_enter Tryd.func15, Tryd.ntmps15
  go_wp2_with fail
  refine E1.out.mono ?_
  rintro e w1 ⟨rfl, rfl⟩
  go_wp2_with fail
  refine E2.out.mono ?_
  rintro e w2 ⟨rfl, rfl⟩
  go_wp2
  go_ret
  exact ⟨rfl, B0.out⟩
set_option maxRecDepth 100000 in
set_option maxHeartbeats 1000000 in
/-- heldTableOut. -/
theorem hdo_any (B : Nat) (sl : Option Addr) (cap n : Nat) (sl2 : Option Addr) (cap2 m : Nat) (rs : List LSt) (ln cd : Int) (hn : rs.length = n) (hb : n + totD rs + m ≤ 1000000) (w : World) (h : OwT w B (.slice sl n cap) (.slice sl2 m cap2) (mkR 1 rs) (mkP (1 + (szR rs : Int)) m)) :
    Calls Tryd.prog 8 #[.agg #[.slice sl n cap, .slice sl2 m cap2, .int .i64 ln, .int .i64 cd], .int .i64 1] w fun e w' => e = .returned (.int .i64 (1 + (szR rs : Int) + 3 * (m : Int))) ∧ Below w.heap.size w w' := by
  have b0 := bA0 w (.cells #[.slice sl n cap, .slice sl2 m cap2, .int .i64 ln, .int .i64 cd] 27)
  have E1 := Lib.hid (hdt_any B sl cap n sl2 cap2 m rs hn hb _ (h.below b0))
  have B0 := Lib.hid b0
  have hK : ¬ (1 + (szR rs : Int) + 3 * (m : Int)) < 0 := by omega
  clear h hb b0
  generalize 1 + (szR rs : Int) + 3 * (m : Int) = q at *
  go_enter Tryd.func8, Tryd.ntmps8
  go_wp2_with fail
  refine E1.out.mono ?_
  rintro e w1 ⟨rfl, b1⟩
  have P := Lib.hid (bT B0.out b1)
  clear b1
  go_wp2
  go_ret
  exact ⟨rfl, P.out⟩
end Go.Proofs.YtdndhhkpbcpalaaDoor
