/-
  A TOP AND IDS, DRAWN: l05Top, l05Ids.
-/
import Derived.Test.YtgfclllfkpblnaaSe
import Derived.Test.YtgfclllfkpblnaaPa
namespace Go.Proofs.Ytgfclllfkpblnaa
open Go.RowKit
set_option linter.unusedVariables false

set_option maxHeartbeats 1000000 in
/-- spec.l05Top. -/
theorem top_any (B b : Nat) (w : World) (hs : SrcB B w b) :
    Calls Try.prog 16 #[.pointer (some ⟨b, 0, none⟩)] w fun e w' => ∃ v : Int, e = .returned (.int .i64 v) ∧ SrcB B w' b ∧ Only b w w' := by
  have HS := Lib.hid hs
  clear hs
  go_enter Try.func16, Try.ntmps16
  go_wp2_with fail
  refine (oneB_any B b 12 _ (by decide) HS.out).mono ?_
  rintro e w1 ⟨t, rfl, s1, o1⟩
  have H1 : Hid (SrcB B w1 b ∧ Only b w w1) := ⟨s1, o1⟩
  clear s1 o1 HS
  cases t with
  | true =>
    go_wp2_with fail
    refine (edgeB_any B b _ H1.out.1).mono ?_
    rintro e w2 ⟨v, rfl, -, s2, o2⟩
    have H2 : Hid (SrcB B w2 b ∧ Only b w w2) := ⟨s2, H1.out.2.trans o2⟩
    clear s2 o2 H1
    go_wp2
    go_ret
    exact ⟨_, rfl, H2.out⟩
  | false =>
    go_wp2_with fail
    refine (nB_lt B b 6 _ (by decide) (by decide) H1.out.1).mono ?_
    rintro e w2 ⟨r, rfl, r1, r2, s2, o2⟩
    have H2 : Hid (SrcB B w2 b ∧ Only b w w2) := ⟨s2, H1.out.2.trans o2⟩
    clear s2 o2 H1
    go_wp2
    go_ret
    exact ⟨_, rfl, H2.out⟩

set_option maxRecDepth 100000 in
set_option maxHeartbeats 4000000 in
/-- spec.l05Ids. -/
theorem lids_any (B b : Nat) (sl : Option Addr) (cap : Nat) (sl2 : Option Addr) (m cap2 : Nat) (rs : List LSt) (w : World) (hn : rs.length ≤ 14) (hs : SrcB B w b) (ht : ∀ W, Only b w W → Sts W sl rs) :
    Calls Try.prog 19 #[.pointer (some ⟨b, 0, none⟩), TV sl rs.length cap sl2 m cap2] w fun e w' => ∃ v zs, e = .returned v ∧ List.length zs ≤ 15 ∧ w'.ownsRow w.heap.size 2 1 v zs.length (valsZ zs) ∧ SrcB B w' b ∧ Only b w w' := by
  obtain ⟨i0, hi0, hz0, hz1, hz2⟩ := info_parts info2'
  have hb : b < w.heap.size := Nat.lt_of_lt_of_le hs.1 hs.2.1
  have hBw : B ≤ w.heap.size := hs.2.1
  have HT0 := Lib.hid (TabAt.new w sl rs.length cap sl2 m cap2)
  have hM : (w.alloc (.cells #[.slice sl rs.length cap, .slice sl2 m cap2] 26)).heap.size = w.heap.size + 1 := by simp
  have BA := Lib.hid (bA0 w (.cells #[.slice sl rs.length cap, .slice sl2 m cap2] 26))
  have BB := Lib.hid (bA0 (w.alloc (.cells #[.slice sl rs.length cap, .slice sl2 m cap2] 26)) (.cells #[] 2))
  have O0 := Lib.hid (own_none5 (w.alloc (.cells #[.slice sl rs.length cap, .slice sl2 m cap2] 26)))
  rw [hM] at O0
  have KT : Hid (∀ W, Only b (w.alloc (.cells #[.slice sl rs.length cap, .slice sl2 m cap2] 26)) W → w.heap.size < W.heap.size ∧ W.cell? ⟨w.heap.size, 0, none⟩ = some (.slice sl rs.length cap) ∧ W.cell? ⟨w.heap.size, 1, none⟩ = some (.slice sl2 m cap2)) := fun W hW => by
    have : TabAt W w.heap.size sl rs.length cap sl2 m cap2 := (hW.block w.heap.size HT0.out.lt (by omega)).trans HT0.out
    exact ⟨this.lt, this.cells⟩
  have OX : Hid (∀ W, Only b (w.alloc (.cells #[.slice sl rs.length cap, .slice sl2 m cap2] 26)) W → Only b w W) := fun W hW => (Only.of_below BA.out).trans hW
  have TX : Hid (∀ W, Only b (w.alloc (.cells #[.slice sl rs.length cap, .slice sl2 m cap2] 26)) W → Sts W sl rs) := fun W hW => ht W (OX.out W hW)
  have S0 : Hid (SrcB B ((w.alloc (.cells #[.slice sl rs.length cap, .slice sl2 m cap2] 26)).alloc (.cells #[] 2)) b) := (hs.below BA.out).below BB.out
  have N0 : Hid (Only b (w.alloc (.cells #[.slice sl rs.length cap, .slice sl2 m cap2] 26)) ((w.alloc (.cells #[.slice sl rs.length cap, .slice sl2 m cap2] 26)).alloc (.cells #[] 2))) := Only.of_below BB.out
  have SZ : Hid (∀ W, Only b (w.alloc (.cells #[.slice sl rs.length cap, .slice sl2 m cap2] 26)) W → w.heap.size + 1 ≤ W.heap.size) := fun W hW => by have := hW.size; rw [hM] at this; exact this
  have GR : Hid (∀ W W' row, Only b (w.alloc (.cells #[.slice sl rs.length cap, .slice sl2 m cap2] 26)) W → W.grownBy W' row → (∀ j, row = some j → w.heap.size + 1 ≤ j) → Only b (w.alloc (.cells #[.slice sl rs.length cap, .slice sl2 m cap2] 26)) W') := fun W W' row h1 h2 h3 => h1.grown h2 (fun g hg => by rw [hM]; exact h3 g hg)
  clear hs ht HT0 BA BB hM
  generalize hN : rs.length = n at *
  have HN := Lib.hid hN
  clear hN
  go_enter Try.func19, Try.ntmps19
  go_wp2
  generalize (w.alloc (.cells #[.slice sl n cap, .slice sl2 m cap2] 26)).alloc (.cells #[] 2) = w2 at *
  generalize w.alloc (.cells #[.slice sl n cap, .slice sl2 m cap2] 26) = wA at *
  go_loopw [5, 6] (fun v i wr => ∃ (k : Nat) (zs : List Int), i = .int .i64 k ∧ k ≤ n ∧ zs.length ≤ k ∧ Hid (wr.ownsRow (w.heap.size + 1) 2 1 v zs.length (valsZ zs)) ∧ Hid (SrcB B wr b) ∧ Hid (Only b wA wr)) (fun _ i _ => n - (intOf i).toNat)
  case atStart => exact ⟨0, [], rfl, Nat.zero_le _, Nat.le_refl _, O0, S0, N0⟩
  case round =>
    obtain ⟨k, zs, rfl, hk, hzk, OW, SW, NW⟩ := hrel
    clear O0 S0 N0
    have hk0 : (0 : Int) ≤ (k : Int) := by omega
    obtain ⟨q0, q1, q2⟩ := KT.out _ NW.out
    by_cases h1 : k < n
    · have h1' : (k : Int) < (n : Int) := by omega
      go_wp2_with fail
      refine (oneB_any B b 4 wr (by decide) SW.out).mono ?_
      rintro e wq ⟨t, rfl, sq, oq⟩
      have SQ := Lib.hid sq
      have NQ := Lib.hid (NW.out.trans oq)
      have OQ := Lib.hid (own_only OW.out oq (by omega))
      clear sq oq OW SW NW q0 q1 q2
      cases t with
      | true =>
        go_wp2
        go_roundw
        case rel => exact ⟨k + 1, zs, by go_num, by omega, by omega, OQ, SQ, NQ⟩
        case measure => simp [intOf]; omega
      | false =>
        obtain ⟨q0, q1, q2⟩ := KT.out _ NQ.out
        have hlt : k < rs.length := by rw [HN.out]; exact h1
        obtain ⟨c, o, rfl, ST⟩ : ∃ c o, sl = some ⟨c, o, none⟩ ∧ StAt wq c o rs := by
          rcases (TX.out _ NQ.out).1 with e | h
          · rw [e] at hlt; simp at hlt
          · exact h
        obtain ⟨c0, -, -⟩ := ST.cell k hlt
        have cl := ST.lt
        generalize rs[k].1 = z at *
        have hs9 := SZ.out _ NQ.out
        clear ST hlt
        go_wp2_with (first | (at_builtin; refine wpList_append_lies _ rfl (.tmp 18) (.tmp 25) 27 rfl (w.heap.size + 1) 2 i0 (.int .i64 0) 1 8 Try.underlying27 hi0 hz0 hz1 hz2 rfl (by decide) _ _ _ rfl (OQ.out.alloc _) ⟨wq.heap.size, 0, none⟩ 1 1 [.int .i64 z] rfl rfl (cell_one_new _ _ _) (by intro u hu; simp at hu; subst hu; rfl) (by decide) (by unfold maxLen; omega) (by omega) (by simp; omega) (wq.heap.size + 1) (by simp) ?_))
        intro g9 cap9 w9 own9 grow9 hg9 hlt9
        have N9 := Lib.hid (GR.out _ _ _ (NQ.out.trans (Only.of_below (bA0 wq (.cells #[.int .i64 z] 2)))) grow9 (fun j hj => (OQ.out.lt j hj).1))
        have S9 := Lib.hid ((SQ.out.below (bA0 wq (.cells #[.int .i64 z] 2))).grown grow9 (fun j hj => by have := (OQ.out.lt j hj).1; omega))
        have O9 : Hid (w9.ownsRow (w.heap.size + 1) 2 1 (.slice (some ⟨g9, 0, none⟩) (zs.length + 1) cap9) (zs ++ [z]).length (valsZ (zs ++ [z]))) := by
          show World.ownsRow _ _ _ _ _ _ _
          have := own9
          rw [show valsZ (zs ++ [z]) = valsZ zs ++ [.int .i64 z] by simp [valsZ], List.length_append]
          exact this
        clear own9 grow9 hg9 hlt9
        go_wp2
        go_roundw
        case rel => exact ⟨k + 1, zs ++ [z], by go_num, by omega, by simp; omega, O9, S9, N9⟩
        case measure => simp [intOf]; omega
    · have h1' : ¬ (k : Int) < (n : Int) := by omega
      go_wp2_with fail
      refine (oneB_any B b 25 wr (by decide) SW.out).mono ?_
      rintro e wq ⟨t, rfl, sq, oq⟩
      have SQ := Lib.hid sq
      have NQ := Lib.hid (NW.out.trans oq)
      have OQ := Lib.hid (own_only OW.out oq (by omega))
      clear sq oq OW SW NW q0 q1 q2
      cases t with
      | true =>
        go_wp2_with fail
        refine (nB_lt B b 30 wq (by decide) (by decide) SQ.out).mono ?_
        rintro e wp ⟨z, rfl, z0, z1, sp, op⟩
        have SP := Lib.hid sp
        have NP := Lib.hid (NQ.out.trans op)
        have OP := Lib.hid (own_only OQ.out op (by omega))
        have hs9 := SZ.out _ NP.out
        clear sp op OQ SQ NQ
        go_wp2_with (first | (at_builtin; refine wpList_append_lies _ rfl (.tmp 29) (.tmp 32) 27 rfl (w.heap.size + 1) 2 i0 (.int .i64 0) 1 8 Try.underlying27 hi0 hz0 hz1 hz2 rfl (by decide) _ _ _ rfl (OP.out.alloc _) ⟨wp.heap.size, 0, none⟩ 1 1 [.int .i64 z] rfl rfl (cell_one_new _ _ _) (by intro u hu; simp at hu; subst hu; rfl) (by decide) (by unfold maxLen; omega) (by omega) (by simp; omega) (wp.heap.size + 1) (by simp) ?_))
        intro g9 cap9 w9 own9 grow9 hg9 hlt9
        have N9 := Lib.hid (GR.out _ _ _ (NP.out.trans (Only.of_below (bA0 wp (.cells #[.int .i64 z] 2)))) grow9 (fun j hj => (OP.out.lt j hj).1))
        have S9 := Lib.hid ((SP.out.below (bA0 wp (.cells #[.int .i64 z] 2))).grown grow9 (fun j hj => by have := (OP.out.lt j hj).1; omega))
        have O9 : Hid (w9.ownsRow w.heap.size 2 1 (.slice (some ⟨g9, 0, none⟩) (zs.length + 1) cap9) (zs ++ [z]).length (valsZ (zs ++ [z]))) := by
          show World.ownsRow _ _ _ _ _ _ _
          have := own_mono own9 (show w.heap.size ≤ w.heap.size + 1 by omega)
          rw [show valsZ (zs ++ [z]) = valsZ zs ++ [.int .i64 z] by simp [valsZ], List.length_append]
          exact this
        have F9 := Lib.hid (OX.out _ N9.out)
        clear own9 grow9 hg9 hlt9
        go_wp2
        go_ret
        exact ⟨_, zs ++ [z], rfl, by simp; omega, O9.out, S9.out, F9.out⟩
      | false =>
        have O9 := Lib.hid (own_mono OQ.out (show w.heap.size ≤ w.heap.size + 1 by omega))
        have F9 := Lib.hid (OX.out _ NQ.out)
        clear OQ
        go_wp2
        go_ret
        exact ⟨_, zs, rfl, by omega, O9.out, SQ.out, F9.out⟩

end Go.Proofs.Ytgfclllfkpblnaa
