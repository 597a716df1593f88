/-
  THE IDS OF A TABLE, as both sides answer them.
-/
import Derived.Test.YtoekggjacifppaaAm
import Derived.Test.YtoekggjacifppaaAg
namespace Go.Proofs.Ytoekggjacifppaa
open Go.RowKit
set_option linter.unusedVariables false

/-- The Ids of a right table; none of another. -/
noncomputable def idsA (rs : List LSt) (ps : List LPr) : List Int := if B (TabR rs ps) = true then idsL rs else []

set_option maxRecDepth 100000 in
set_option maxHeartbeats 1000000 in
/-- impl.TableIds. -/
theorem iti_any (sl : Option Addr) (cap : Nat) (sl2 : Option Addr) (cap2 : Nat) (rs : List LSt) (ps : List LPr) (w : World) (hn : rs.length ≤ 1048576) (hz : Sts w sl rs) (hp : Prs w sl2 ps) (hw : ∀ p ∈ ps, WfP p) :
    Calls Try.prog 14 #[TV sl rs.length cap sl2 ps.length cap2] w fun e w' => ∃ v, e = .returned v ∧ w'.ownsRow w.heap.size 2 1 v (idsA rs ps).length (valsZ (idsA rs ps)) ∧ Below w.heap.size w w' := by
  have E1 := Lib.hid (itr_any sl cap sl2 cap2 rs ps (w.alloc (.cells #[.slice sl rs.length cap, .slice sl2 ps.length cap2] 26)) (hz.below (bA0 _ _)) (hp.below (bA0 _ _)) hw)
  have HT := Lib.hid (TabAt.new w sl rs.length cap sl2 ps.length cap2)
  have B0 := Lib.hid (bA0 w (.cells #[.slice sl rs.length cap, .slice sl2 ps.length cap2] 26))
  have E2 : Hid (∀ W, Below w.heap.size w W → Calls Try.prog 59 #[TV sl rs.length cap sl2 ps.length cap2] W fun e w' => ∃ v, e = .returned v ∧ w'.ownsRow W.heap.size 2 1 v (idsL rs).length (valsZ (idsL rs)) ∧ Below W.heap.size W w') := fun W hW => by
    have := ids_any sl cap sl2 ps.length cap2 rs W hn (hz.below hW)
    rwa [← idsL_len rs] at this ⊢
  clear hz hp hw
  unfold idsA
  cases hb : B (TabR rs ps) with
  | false =>
    rw [hb] at E1
    simp only [Bool.false_eq_true, if_false]
    generalize rs.length = n at *
    generalize ps.length = m at *
    clear hb
    go_enter Try.func14, Try.ntmps14
    go_wp2_with fail
    refine E1.out.mono ?_
    rintro e w1 ⟨rfl, b1⟩
    have D1 := Lib.hid (bT B0.out b1)
    clear b1 E1
    go_wp2
    go_ret
    exact ⟨_, rfl, ⟨rfl, .inl ⟨rfl, rfl⟩⟩, D1.out⟩
  | true =>
    rw [hb] at E1
    simp only [if_true]
    generalize (idsL rs).length = q at *
    generalize valsZ (idsL rs) = xs at *
    generalize rs.length = n at *
    generalize ps.length = m at *
    clear hb
    go_enter Try.func14, Try.ntmps14
    go_wp2_with fail
    refine E1.out.mono ?_
    rintro e w1 ⟨rfl, b1⟩
    have D1 := Lib.hid (bT B0.out b1)
    have T1 := Lib.hid (HT.out.below b1)
    obtain ⟨t0, t1⟩ := T1.out.cells
    have tl := T1.out.lt
    clear b1 E1 HT
    go_wp2_with fail
    refine (E2.out _ D1.out).mono ?_
    rintro e w2 ⟨v, rfl, o2, b2⟩
    have P := Lib.hid (And.intro (own_mono o2 D1.out.size) (bT D1.out b2))
    clear o2 b2 E2
    go_wp2
    go_ret
    exact ⟨_, rfl, P.out.1, P.out.2⟩

/-- An empty row just made. -/
theorem own_none (w : World) : (w.alloc (.cells #[] 2)).ownsRow w.heap.size 2 1 (.slice (some ⟨w.heap.size, 0, none⟩) 0 0) 0 [] :=
  ⟨rfl, .inr ⟨w.heap.size, 0, #[], rfl, Nat.le_refl _, by show (w.heap.push _)[w.heap.size]? = _; simp, Nat.le_refl _, Nat.zero_le _, rfl, rfl⟩⟩

set_option maxRecDepth 100000 in
set_option maxHeartbeats 1000000 in
/-- spec.TableIds. -/
theorem sti_any (sl : Option Addr) (cap : Nat) (sl2 : Option Addr) (cap2 : Nat) (rs : List LSt) (ps : List LPr) (w : World) (hn : rs.length ≤ 1048576) (hz : Sts w sl rs) (hp : Prs w sl2 ps) :
    Calls Try.prog 16 #[TV sl rs.length cap sl2 ps.length cap2] w fun e w' => ∃ v, e = .returned v ∧ w'.ownsRow w.heap.size 2 1 v (idsA rs ps).length (valsZ (idsA rs ps)) ∧ Below w.heap.size w w' := by
  obtain ⟨i0, hi0, hz0, hz1, hz2⟩ := info_parts info2'
  have HT := Lib.hid (TabAt.new w sl rs.length cap sl2 ps.length cap2)
  have B0 := Lib.hid (bA0 w (.cells #[.slice sl rs.length cap, .slice sl2 ps.length cap2] 26))
  have E1 : Hid (∀ W, Below w.heap.size w W → Calls Try.prog 13 #[TV sl rs.length cap sl2 ps.length cap2] W fun e w' => e = .returned (.bool (B (TabR rs ps))) ∧ Below W.heap.size W w') := fun W hW => str_any sl cap sl2 cap2 rs ps W (hz.below hW) (hp.below hW)
  have HZ := Lib.hid hz
  clear hz hp
  unfold idsA
  have O0 := Lib.hid (own_none (w.alloc (.cells #[.slice sl rs.length cap, .slice sl2 ps.length cap2] 26)))
  have hs1 : (w.alloc (.cells #[.slice sl rs.length cap, .slice sl2 ps.length cap2] 26)).heap.size = w.heap.size + 1 := by simp
  rw [hs1] at O0
  cases hb : B (TabR rs ps) with
  | false =>
    rw [hb] at E1
    simp only [Bool.false_eq_true, if_false]
    generalize rs.length = n at *
    generalize ps.length = m at *
    clear hb
    go_enter Try.func16, Try.ntmps16
    go_wp2_with fail
    refine (E1.out _ (bA B0.out _)).mono ?_
    rintro e w1 ⟨rfl, b1⟩
    have D1 := Lib.hid (bT (bA B0.out _) b1)
    have O1 := Lib.hid (own_mono (own_below O0.out b1) (Nat.le_add_right w.heap.size 1))
    clear b1 E1
    go_wp2
    go_ret
    exact ⟨_, rfl, O1.out, D1.out⟩
  | true =>
    rw [hb] at E1
    simp only [if_true]
    generalize hN : rs.length = n at *
    have HN := Lib.hid hN
    clear hN
    generalize ps.length = m at *
    clear hb
    go_enter Try.func16, Try.ntmps16
    go_wp2_with fail
    refine (E1.out _ (bA B0.out _)).mono ?_
    rintro e w1 ⟨rfl, b1⟩
    have D1 := Lib.hid (bT (bA B0.out _) b1)
    have O1 := Lib.hid (own_below O0.out b1)
    have T1 := Lib.hid ((HT.out.below (bA0 _ _)).below b1)
    clear b1 E1 HT O0
    have tl := T1.out.lt
    obtain ⟨t0, t1⟩ := T1.out.cells
    have hs2 : w.heap.size + 1 < w1.heap.size := (O1.out.lt (w.heap.size + 1) rfl).2
    go_wp2
    go_loopw [3, 4] (fun v i wr => ∃ k : Nat, i = .int .i64 k ∧ k ≤ n ∧ Hid (wr.ownsRow (w.heap.size + 1) 2 1 v k (valsZ ((idsL rs).take k))) ∧ Hid (Below (w.heap.size + 1) w1 wr)) (fun _ i _ => n - (intOf i).toNat)
    case atStart => exact ⟨0, rfl, Nat.zero_le _, O1, Below.refl _ _⟩
    case round =>
      obtain ⟨k, rfl, hk, H1, H2⟩ := hrel
      have hk0 : (0 : Int) ≤ (k : Int) := by omega
      have DW := Lib.hid (D1.out.trans (H2.out.mono (Nat.le_add_right _ 1)))
      have hs := H2.out.size
      have r0 := (H2.out.cell (p := ⟨w.heap.size, 0, none⟩) (Nat.lt_succ_self _)).trans t0
      by_cases h1 : k < n
      · have h1' : (k : Int) < (n : Int) := by omega
        have hlt : k < rs.length := by rw [HN.out]; exact h1
        obtain ⟨c, o, rfl, Z0⟩ : ∃ c o, sl = some ⟨c, o, none⟩ ∧ StAt w c o rs := by
          rcases HZ.out.row with e | h
          · rw [e] at hlt; simp at hlt
          · exact h
        have hc := (DW.out.cell Z0.lt).trans (Z0.cell k hlt).1
        have EV := Lib.hid (show valsZ ((idsL rs).take k) ++ [.int .i64 rs[k].1] = valsZ ((idsL rs).take (k + 1)) by
          rw [List.take_add_one, show (idsL rs)[k]? = some rs[k].1 by simp [idsL, hlt]]
          simp [valsZ])
        generalize rs[k].1 = z at *
        clear hlt Z0
        go_wp2_with (first | (at_builtin; refine wpList_append_lies _ rfl (.tmp 17) (.tmp 24) 29 rfl (w.heap.size + 1) 2 i0 (.int .i64 0) 1 8 Try.underlying29 hi0 hz0 hz1 hz2 rfl (by decide) _ _ _ rfl (H1.out.alloc _) ⟨wr.heap.size, 0, none⟩ 1 1 [.int .i64 z] rfl rfl (cell_one_new _ _ _) (by intro u hu; simp at hu; subst hu; rfl) (by decide) (by unfold maxLen; omega) (by omega) (by simp; omega) (wr.heap.size + 1) (by simp) ?_))
        intro g9 cap9 w9 own9 grow9 hg9 hlt9
        have B9 := Lib.hid ((H2.out.alloc (by omega) (.cells #[.int .i64 z] 2)).grown grow9 (by simp; omega) (fun j hj => (H1.out.lt j hj).1))
        rw [EV.out] at own9
        have N9 := Lib.hid own9
        clear own9 grow9 hg9 hlt9
        go_wp2
        go_roundw
        case rel => exact ⟨k + 1, by go_num, by omega, N9, B9⟩
        case measure => simp [intOf]; omega
      · have h1' : ¬ (k : Int) < (n : Int) := by omega
        have e : k = (idsL rs).length := by rw [idsL_len, HN.out]; omega
        have F := Lib.hid (show (idsL rs).take k = idsL rs from List.take_of_length_le (by omega))
        have H9 := own_mono H1.out (Nat.le_add_right w.heap.size 1)
        rw [F.out] at H9
        have P : Hid (wr.ownsRow w.heap.size 2 1 _ (idsL rs).length (valsZ (idsL rs)) ∧ Below w.heap.size w wr) := ⟨by rw [← e]; exact H9, DW.out⟩
        clear H9 H1 e
        go_wp2
        go_ret
        exact ⟨_, rfl, P.out.1, P.out.2⟩

end Go.Proofs.Ytoekggjacifppaa
