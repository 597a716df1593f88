/-
  A STATION'S NEIGHBOURS: the model's answer.
-/
import Derived.Test.YtoekggjacifppaaBb
namespace Go.Proofs.Ytoekggjacifppaa
open Go.RowKit
set_option linter.unusedVariables false

set_option maxRecDepth 100000 in
set_option maxHeartbeats 1000000 in
/-- spec.TableNear. -/
theorem stn_any (sl : Option Addr) (cap : Nat) (sl2 : Option Addr) (cap2 : Nat) (rs : List LSt) (ps : List LPr) (id : Int) (w : World) (hn : rs.length ≤ 1048576) (hz : Sts w sl rs) (hp : Prs w sl2 ps) :
    Calls Try.prog 19 #[TV sl rs.length cap sl2 ps.length cap2, .int .i64 id] w fun e w' => ∃ v, e = .returned v ∧ w'.ownsRow w.heap.size 2 1 v (nearA rs ps id).length (valsZ (nearA rs ps id)) ∧ Below w.heap.size w w' := by
  obtain ⟨i0, hi0, hz0, hz1, hz2⟩ := info_parts info2'
  have HT := Lib.hid (TabAt.new w sl rs.length cap sl2 ps.length cap2)
  have B0 := Lib.hid (bA0 w (.cells #[.slice sl rs.length cap, .slice sl2 ps.length cap2] 26))
  have E1 : Hid (∀ W, Below w.heap.size w W → Calls Try.prog 13 #[TV sl rs.length cap sl2 ps.length cap2] W fun e w' => e = .returned (.bool (B (TabR rs ps))) ∧ Below W.heap.size W w') := fun W hW => str_any sl cap sl2 cap2 rs ps W (hz.below hW) (hp.below hW)
  have E2 : Hid (∀ W, Below w.heap.size w W → Calls Try.prog 57 #[TV sl rs.length cap sl2 ps.length cap2, .int .i64 id] W fun e w' => e = .returned (.int .i64 (posOf (idsL rs) id)) ∧ Below W.heap.size W w') := fun W hW => fd_any sl cap sl2 _ cap2 id rs W hn (hz.below hW)
  have HZ := Lib.hid hz
  have HP := Lib.hid hp
  clear hz hp
  unfold nearA
  have O0 := Lib.hid (own_none (w.alloc (.cells #[.slice sl rs.length cap, .slice sl2 ps.length cap2] 26)))
  have hs1 : (w.alloc (.cells #[.slice sl rs.length cap, .slice sl2 ps.length cap2] 26)).heap.size = w.heap.size + 1 := by simp
  rw [hs1] at O0
  cases hb : B (TabR rs ps) with
  | false =>
    rw [hb] at E1
    simp only [Bool.false_eq_true, if_false]
    generalize rs.length = n at *
    generalize ps.length = m at *
    clear hb E2
    go_enter Try.func19, Try.ntmps19
    go_wp2_with fail
    refine (E1.out _ (bA B0.out _)).mono ?_
    rintro e w1 ⟨rfl, b1⟩
    have D1 := Lib.hid (bT (bA B0.out _) b1)
    have O1 := Lib.hid (own_mono (own_below O0.out b1) (Nat.le_add_right w.heap.size 1))
    clear b1 E1
    go_wp2
    go_ret
    exact ⟨_, rfl, O1.out, D1.out⟩
  | true =>
    rw [hb] at E1
    simp only [if_true]
    have TR := Lib.hid (B_true hb)
    by_cases hm : id ∈ idsL rs
    · obtain ⟨k, hk, ep, hid⟩ := pos_at rs id hm
      rw [near_join id rs ps TR.out]
      rw [ep] at E2
      have hk0 : ¬ (k : Int) < 0 := by omega
      have hm40 : ps.length ≤ 40 := TR.out.1.2.2
      have hn12 : rs.length ≤ 12 := TR.out.1.2.1
      have PL : Hid (∀ p ∈ ps, p.1 < p.2.1) := fun p hp => (TR.out.2.2.2.1 p hp).1
      clear hid hm ep hb hk
      generalize hA : rs.flatMap (joinL id ps) = ans
      have HA := Lib.hid hA
      clear hA
      generalize hN : rs.length = n at *
      have HN := Lib.hid hN
      generalize hM : ps.length = m at *
      have HM := Lib.hid hM
      clear hN hM
      go_enter Try.func19, Try.ntmps19
      go_wp2_with fail
      refine (E1.out _ (bA B0.out _)).mono ?_
      rintro e w1 ⟨rfl, b1⟩
      have D1 := Lib.hid (bT (bA B0.out _) b1)
      have O1 := Lib.hid (own_below O0.out b1)
      have T1 := Lib.hid ((HT.out.below (bA0 _ _)).below b1)
      clear b1 E1 HT O0
      obtain ⟨t0, t1⟩ := T1.out.cells
      have tl := T1.out.lt
      go_wp2_with fail
      refine (E2.out _ D1.out).mono ?_
      rintro e w2 ⟨rfl, b2⟩
      have D2 := Lib.hid (bT D1.out b2)
      have O2 := Lib.hid (own_below O1.out b2)
      have T2 := Lib.hid (T1.out.below b2)
      clear b2 t0 t1 tl O1 D1 T1 E2
      obtain ⟨t0, t1⟩ := T2.out.cells
      have tl := T2.out.lt
      have hs4 : w.heap.size + 1 < w2.heap.size := (O2.out.lt (w.heap.size + 1) rfl).2
      go_wp2
      go_loopw [5, 6] (fun v i wr => ∃ (j : Nat) (cur : List Int), i = .int .i64 j ∧ j ≤ n ∧ cur.length ≤ 40 * j ∧ Hid (cur = (rs.take j).flatMap (joinL id ps)) ∧ Hid (wr.ownsRow (w.heap.size + 1) 2 1 v cur.length (valsZ cur)) ∧ Hid (Below (w.heap.size + 1) w2 wr)) (fun _ i _ => n - (intOf i).toNat)
      case atStart => exact ⟨0, [], rfl, Nat.zero_le _, Nat.zero_le _, rfl, O2, Below.refl _ _⟩
      case round =>
        obtain ⟨j, cur, rfl, hj, hcl, HC, H1, H2⟩ := hrel
        have hj0 : (0 : Int) ≤ (j : Int) := by omega
        have hs5 := H2.out.size
        have DV := Lib.hid (D2.out.trans (H2.out.mono (Nat.le_add_right _ 1)))
        have r0 := (H2.out.cell (p := ⟨w.heap.size, 0, none⟩) (Nat.lt_succ_self _)).trans t0
        by_cases g1 : j < n
        · have g1' : (j : Int) < (n : Int) := by omega
          have hlt : j < rs.length := by rw [HN.out]; exact g1
          obtain ⟨c, o, rfl, Z0⟩ : ∃ c o, sl = some ⟨c, o, none⟩ ∧ StAt w c o rs := by
            rcases HZ.out.row with e | h
            · rw [e] at hlt; simp at hlt
            · exact h
          have hc := (DV.out.cell Z0.lt).trans (Z0.cell j hlt).1
          have FS := Lib.hid (show (rs.take (j + 1)).flatMap (joinL id ps) = cur ++ ps.flatMap (joinF id rs[j].1) by rw [HC.out]; exact flat_step (joinL id ps) rs j hlt)
          generalize rs[j].1 = x at *
          clear hlt Z0 HC
          go_wp2
          clear hc
          go_loopw [5, 8] (fun v i wr => ∃ (k : Nat) (cu : List Int), i = .int .i64 k ∧ k ≤ m ∧ cu.length ≤ 40 * j + k ∧ Hid (cu = cur ++ (ps.take k).flatMap (joinF id x)) ∧ Hid (wr.ownsRow (w.heap.size + 1) 2 1 v cu.length (valsZ cu)) ∧ Hid (Below (w.heap.size + 1) w2 wr)) (fun _ i _ => m - (intOf i).toNat)
          case atStart => exact ⟨0, cur, rfl, Nat.zero_le _, hcl, (by show cur = cur ++ (ps.take 0).flatMap (joinF id x); simp), H1, H2⟩
          case round =>
            obtain ⟨k, cu, rfl, hk, hcu, HC, H1, H2⟩ := hrel
            have hk0 : (0 : Int) ≤ (k : Int) := by omega
            have hs6 := H2.out.size
            have DX := Lib.hid (D2.out.trans (H2.out.mono (Nat.le_add_right _ 1)))
            have r0 := (H2.out.cell (p := ⟨w.heap.size, 0, none⟩) (Nat.lt_succ_self _)).trans t0
            have r1 := (H2.out.cell (p := ⟨w.heap.size, 1, none⟩) (Nat.lt_succ_self _)).trans t1
            by_cases h1 : k < m
            · have h1' : (k : Int) < (m : Int) := by omega
              have hlt : k < ps.length := by rw [HM.out]; exact h1
              obtain ⟨c2, o2, rfl, Z2⟩ : ∃ c o, sl2 = some ⟨c, o, none⟩ ∧ PrAt w c o ps := by
                rcases HP.out with e | h
                · rw [e] at hlt; simp at hlt
                · exact h
              have hc0 := (DX.out.cell Z2.lt).trans (Z2.cell k hlt).1
              have hc1 := (DX.out.cell Z2.lt).trans (Z2.cell k hlt).2.1
              have hc2 := (DX.out.cell Z2.lt).trans (Z2.cell k hlt).2.2
              have hab := PL.out ps[k] (List.getElem_mem hlt)
              have FJ := Lib.hid (flat_step (joinF id x) ps k hlt)
              obtain ⟨a, b, q, hp⟩ : ∃ a b q, ps[k] = (a, b, q) := ⟨_, _, _, rfl⟩
              rw [hp] at hc0 hc1 hc2 hab FJ
              dsimp only at hc0 hc1 hc2 hab
              have O5 := Lib.hid (H1.out.alloc (.cells #[.int .i64 a, .int .i64 b, .int .i64 q] 82))
              have G5 := Lib.hid (H2.out.alloc (by omega) (.cells #[.int .i64 a, .int .i64 b, .int .i64 q] 82))
              clear hp hlt Z2 H1 H2
              by_cases e1 : a = id
              · have f1 : (a == id) = true := by simp [e1]
                have f3 : (b == id) = false := by simp; omega
                by_cases e2 : b = x
                · have f2 : (b == x) = true := by simp [e2]
                  have JJ : Join id x (a, b, q) := .inl ⟨e1, e2⟩
                  have HN2 := Lib.hid (show cu ++ [x] = cur ++ (ps.take (k + 1)).flatMap (joinF id x) by rw [FJ.out, ← List.append_assoc, ← HC.out]; unfold joinF; rw [B_yes JJ, if_pos rfl])
                  have EV := Lib.hid (show valsZ cu ++ [.int .i64 x] = valsZ (cu ++ [x]) by simp [valsZ])
                  clear FJ HC JJ e1 e2 hab
                  go_wp2_with (first | (at_builtin; refine wpList_append_lies _ rfl (.tmp 68) (.tmp 70) 29 rfl (w.heap.size + 1) 2 i0 (.int .i64 0) 1 8 Try.underlying29 hi0 hz0 hz1 hz2 rfl (by decide) _ _ _ rfl (O5.out.alloc _) ⟨wr.heap.size + 1, 0, none⟩ 1 1 [.int .i64 x] (by simp [Act.eval]) rfl (cell_one_new' _ _ _ _) (by intro u hu; simp at hu; subst hu; rfl) (by decide) (by unfold maxLen; omega) (by omega) (by simp; omega) (wr.heap.size + 2) (by simp) ?_))
                  intro g9 cap9 w9 own9 grow9 hg9 hlt9
                  have B9 := Lib.hid ((G5.out.alloc (by simp; omega) (.cells #[.int .i64 x] 2)).grown grow9 (by simp; omega) (fun j hj => (O5.out.lt j hj).1))
                  rw [EV.out] at own9
                  have N9 : Hid (w9.ownsRow (w.heap.size + 1) 2 1 (.slice (some ⟨g9, 0, none⟩) (cu.length + 1) cap9) (cu ++ [x]).length (valsZ (cu ++ [x]))) := by
                    rw [List.length_append]; exact own9
                  have LL := Lib.hid (show (cu ++ [x]).length ≤ 40 * j + (k + 1) by rw [List.length_append]; simp; omega)
                  clear own9 grow9 hg9 hlt9 O5 G5 EV
                  go_wp2
                  go_roundw
                  case rel => exact ⟨k + 1, cu ++ [x], by go_num, by omega, LL.out, HN2, N9, B9⟩
                  case measure => simp [intOf]; omega
                · have f2 : (b == x) = false := by simp [e2]
                  have JJ : ¬ Join id x (a, b, q) := by unfold Join; dsimp only; omega
                  have HN2 := Lib.hid (show cu = cur ++ (ps.take (k + 1)).flatMap (joinF id x) by rw [FJ.out, ← List.append_assoc, ← HC.out]; unfold joinF; rw [B_no JJ, if_neg (by simp)]; simp)
                  clear FJ HC JJ e1 e2 hab
                  go_wp2
                  go_roundw
                  case rel => exact ⟨k + 1, cu, by go_num, by omega, by omega, HN2, O5, G5⟩
                  case measure => simp [intOf]; omega
              · have f1 : (a == id) = false := by simp [e1]
                by_cases e3 : b = id
                · have f3 : (b == id) = true := by simp [e3]
                  by_cases e4 : a = x
                  · have f4 : (a == x) = true := by simp [e4]
                    have JJ : Join id x (a, b, q) := .inr ⟨e3, e4⟩
                    have HN2 := Lib.hid (show cu ++ [x] = cur ++ (ps.take (k + 1)).flatMap (joinF id x) by rw [FJ.out, ← List.append_assoc, ← HC.out]; unfold joinF; rw [B_yes JJ, if_pos rfl])
                    have EV := Lib.hid (show valsZ cu ++ [.int .i64 x] = valsZ (cu ++ [x]) by simp [valsZ])
                    clear FJ HC JJ e1 e3 e4 hab
                    go_wp2_with (first | (at_builtin; refine wpList_append_lies _ rfl (.tmp 68) (.tmp 70) 29 rfl (w.heap.size + 1) 2 i0 (.int .i64 0) 1 8 Try.underlying29 hi0 hz0 hz1 hz2 rfl (by decide) _ _ _ rfl (O5.out.alloc _) ⟨wr.heap.size + 1, 0, none⟩ 1 1 [.int .i64 x] (by simp [Act.eval]) rfl (cell_one_new' _ _ _ _) (by intro u hu; simp at hu; subst hu; rfl) (by decide) (by unfold maxLen; omega) (by omega) (by simp; omega) (wr.heap.size + 2) (by simp) ?_))
                    intro g9 cap9 w9 own9 grow9 hg9 hlt9
                    have B9 := Lib.hid ((G5.out.alloc (by simp; omega) (.cells #[.int .i64 x] 2)).grown grow9 (by simp; omega) (fun j hj => (O5.out.lt j hj).1))
                    rw [EV.out] at own9
                    have N9 : Hid (w9.ownsRow (w.heap.size + 1) 2 1 (.slice (some ⟨g9, 0, none⟩) (cu.length + 1) cap9) (cu ++ [x]).length (valsZ (cu ++ [x]))) := by
                      rw [List.length_append]; exact own9
                    have LL := Lib.hid (show (cu ++ [x]).length ≤ 40 * j + (k + 1) by rw [List.length_append]; simp; omega)
                    clear own9 grow9 hg9 hlt9 O5 G5 EV
                    go_wp2
                    go_roundw
                    case rel => exact ⟨k + 1, cu ++ [x], by go_num, by omega, LL.out, HN2, N9, B9⟩
                    case measure => simp [intOf]; omega
                  · have f4 : (a == x) = false := by simp [e4]
                    have JJ : ¬ Join id x (a, b, q) := by unfold Join; dsimp only; omega
                    have HN2 := Lib.hid (show cu = cur ++ (ps.take (k + 1)).flatMap (joinF id x) by rw [FJ.out, ← List.append_assoc, ← HC.out]; unfold joinF; rw [B_no JJ, if_neg (by simp)]; simp)
                    clear FJ HC JJ e1 e3 e4 hab
                    go_wp2
                    go_roundw
                    case rel => exact ⟨k + 1, cu, by go_num, by omega, by omega, HN2, O5, G5⟩
                    case measure => simp [intOf]; omega
                · have f3 : (b == id) = false := by simp [e3]
                  have JJ : ¬ Join id x (a, b, q) := by unfold Join; dsimp only; omega
                  have HN2 := Lib.hid (show cu = cur ++ (ps.take (k + 1)).flatMap (joinF id x) by rw [FJ.out, ← List.append_assoc, ← HC.out]; unfold joinF; rw [B_no JJ, if_neg (by simp)]; simp)
                  clear FJ HC JJ e1 e3 hab
                  go_wp2
                  go_roundw
                  case rel => exact ⟨k + 1, cu, by go_num, by omega, by omega, HN2, O5, G5⟩
                  case measure => simp [intOf]; omega
            · have h1' : ¬ (k : Int) < (m : Int) := by omega
              have HE := Lib.hid (show cu = (rs.take (j + 1)).flatMap (joinL id ps) by rw [FS.out, HC.out, List.take_of_length_le (by rw [HM.out]; omega)])
              clear HC
              go_wp2
              go_roundw
              case rel => exact ⟨j + 1, cu, by go_num, by omega, by omega, HE, H1, H2⟩
              case measure => simp [intOf]; omega
        · have g1' : ¬ (j : Int) < (n : Int) := by omega
          have P := Lib.hid (show cur = ans by rw [HC.out, List.take_of_length_le (by rw [HN.out]; omega), HA.out])
          have OP := Lib.hid (own_mono H1.out (Nat.le_add_right w.heap.size 1))
          rw [P.out] at OP
          clear H1 HC P
          go_wp2
          go_ret
          exact ⟨_, rfl, OP.out, DV.out⟩
    · rw [near_none id rs ps TR.out hm]
      rw [posOf_miss hm] at E2
      clear hm hb
      generalize rs.length = n at *
      generalize ps.length = m at *
      go_enter Try.func19, Try.ntmps19
      go_wp2_with fail
      refine (E1.out _ (bA B0.out _)).mono ?_
      rintro e w1 ⟨rfl, b1⟩
      have D1 := Lib.hid (bT (bA B0.out _) b1)
      have O1 := Lib.hid (own_below O0.out b1)
      have T1 := Lib.hid ((HT.out.below (bA0 _ _)).below b1)
      clear b1 E1 HT O0
      obtain ⟨t0, t1⟩ := T1.out.cells
      have tl := T1.out.lt
      go_wp2_with fail
      refine (E2.out _ D1.out).mono ?_
      rintro e w2 ⟨rfl, b2⟩
      have D2 := Lib.hid (bT D1.out b2)
      have O2 := Lib.hid (own_mono (own_below O1.out b2) (Nat.le_add_right w.heap.size 1))
      clear b2
      go_wp2
      go_ret
      exact ⟨_, rfl, O2.out, D2.out⟩

end Go.Proofs.Ytoekggjacifppaa
