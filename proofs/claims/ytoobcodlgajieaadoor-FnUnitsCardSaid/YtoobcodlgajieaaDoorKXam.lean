/-
  A TOP AND IDS, DRAWN: l05Top, l05Ids.
  CLAUSES AND A BUDGET, DRAWN: l09Budget, DrawSolve.
-/
import Derived.Test.YtoobcodlgajieaaDoorKXak
import Derived.Test.YtoobcodlgajieaaDoorKXal
namespace Go.Proofs.YtoobcodlgajieaaDoor
open Go.RowKit
set_option linter.unusedVariables false

set_option maxHeartbeats 1000000 in
/-- spec.l05Top. -/
theorem top_any (B b : Nat) (w : World) (hs : SrcB B w b) :
    Calls Tryd.prog 76 #[.pointer (some ⟨b, 0, none⟩)] w fun e w' => ∃ v : Int, e = .returned (.int .i64 v) ∧ SrcB B w' b ∧ Only b w w' := by
  have HS := Lib.hid hs
  clear hs
  go_enter Tryd.func76, Tryd.ntmps76
  go_wp2_with fail
  refine (oneB_any B b 12 _ (by decide) HS.out).mono ?_
  rintro e w1 ⟨t, rfl, s1, o1⟩
  have H1 : Hid (SrcB B w1 b ∧ Only b w w1) := ⟨s1, o1⟩
  clear s1 o1 HS
  cases t with
  | true =>
    go_wp2_with fail
    refine (edgeB_any B b _ H1.out.1).mono ?_
    rintro e w2 ⟨v, rfl, -, s2, o2⟩
    have H2 : Hid (SrcB B w2 b ∧ Only b w w2) := ⟨s2, H1.out.2.trans o2⟩
    clear s2 o2 H1
    go_wp2
    go_ret
    exact ⟨_, rfl, H2.out⟩
  | false =>
    go_wp2_with fail
    refine (nB_lt B b 6 _ (by decide) (by decide) H1.out.1).mono ?_
    rintro e w2 ⟨r, rfl, r1, r2, s2, o2⟩
    have H2 : Hid (SrcB B w2 b ∧ Only b w w2) := ⟨s2, H1.out.2.trans o2⟩
    clear s2 o2 H1
    go_wp2
    go_ret
    exact ⟨_, rfl, H2.out⟩

set_option maxRecDepth 100000 in
set_option maxHeartbeats 4000000 in
/-- spec.l05Ids. -/
theorem lids_any (B b : Nat) (sl : Option Addr) (cap : Nat) (sl2 : Option Addr) (m cap2 : Nat) (rs : List LSt) (w : World) (hn : rs.length ≤ 14) (hs : SrcB B w b) (ht : ∀ W, Only b w W → Sts W sl rs) :
    Calls Tryd.prog 77 #[.pointer (some ⟨b, 0, none⟩), TV sl rs.length cap sl2 m cap2] w fun e w' => ∃ v zs, e = .returned v ∧ List.length zs ≤ 15 ∧ w'.ownsRow w.heap.size 2 1 v zs.length (valsZ zs) ∧ SrcB B w' b ∧ Only b w w' := by
  obtain ⟨i0, hi0, hz0, hz1, hz2⟩ := info_parts info2'
  have hb : b < w.heap.size := Nat.lt_of_lt_of_le hs.1 hs.2.1
  have hBw : B ≤ w.heap.size := hs.2.1
  have HT0 := Lib.hid (TabAtE.new w sl rs.length cap sl2 m cap2)
  have hM : (w.alloc (.cells #[.slice sl rs.length cap, .slice sl2 m cap2] 97)).heap.size = w.heap.size + 1 := by simp
  have BA := Lib.hid (bA0 w (.cells #[.slice sl rs.length cap, .slice sl2 m cap2] 97))
  have BB := Lib.hid (bA0 (w.alloc (.cells #[.slice sl rs.length cap, .slice sl2 m cap2] 97)) (.cells #[] 2))
  have O0 := Lib.hid (own_none5 (w.alloc (.cells #[.slice sl rs.length cap, .slice sl2 m cap2] 97)))
  rw [hM] at O0
  have KT : Hid (∀ W, Only b (w.alloc (.cells #[.slice sl rs.length cap, .slice sl2 m cap2] 97)) W → w.heap.size < W.heap.size ∧ W.cell? ⟨w.heap.size, 0, none⟩ = some (.slice sl rs.length cap) ∧ W.cell? ⟨w.heap.size, 1, none⟩ = some (.slice sl2 m cap2)) := fun W hW => by
    have : TabAtE W w.heap.size sl rs.length cap sl2 m cap2 := (hW.block w.heap.size HT0.out.lt (by omega)).trans HT0.out
    exact ⟨this.lt, this.cells⟩
  have OX : Hid (∀ W, Only b (w.alloc (.cells #[.slice sl rs.length cap, .slice sl2 m cap2] 97)) W → Only b w W) := fun W hW => (Only.of_below BA.out).trans hW
  have TX : Hid (∀ W, Only b (w.alloc (.cells #[.slice sl rs.length cap, .slice sl2 m cap2] 97)) W → Sts W sl rs) := fun W hW => ht W (OX.out W hW)
  have S0 : Hid (SrcB B ((w.alloc (.cells #[.slice sl rs.length cap, .slice sl2 m cap2] 97)).alloc (.cells #[] 2)) b) := (hs.below BA.out).below BB.out
  have N0 : Hid (Only b (w.alloc (.cells #[.slice sl rs.length cap, .slice sl2 m cap2] 97)) ((w.alloc (.cells #[.slice sl rs.length cap, .slice sl2 m cap2] 97)).alloc (.cells #[] 2))) := Only.of_below BB.out
  have SZ : Hid (∀ W, Only b (w.alloc (.cells #[.slice sl rs.length cap, .slice sl2 m cap2] 97)) W → w.heap.size + 1 ≤ W.heap.size) := fun W hW => by have := hW.size; rw [hM] at this; exact this
  have GR : Hid (∀ W W' row, Only b (w.alloc (.cells #[.slice sl rs.length cap, .slice sl2 m cap2] 97)) W → W.grownBy W' row → (∀ j, row = some j → w.heap.size + 1 ≤ j) → Only b (w.alloc (.cells #[.slice sl rs.length cap, .slice sl2 m cap2] 97)) W') := fun W W' row h1 h2 h3 => h1.grown h2 (fun g hg => by rw [hM]; exact h3 g hg)
  clear hs ht HT0 BA BB hM
  generalize hN : rs.length = n at *
  have HN := Lib.hid hN
  clear hN
  go_enter Tryd.func77, Tryd.ntmps77
  go_wp2
  generalize (w.alloc (.cells #[.slice sl n cap, .slice sl2 m cap2] 97)).alloc (.cells #[] 2) = w2 at *
  generalize w.alloc (.cells #[.slice sl n cap, .slice sl2 m cap2] 97) = wA at *
  go_loopw [5, 6] (fun v i wr => ∃ (k : Nat) (zs : List Int), i = .int .i64 k ∧ k ≤ n ∧ zs.length ≤ k ∧ Hid (wr.ownsRow (w.heap.size + 1) 2 1 v zs.length (valsZ zs)) ∧ Hid (SrcB B wr b) ∧ Hid (Only b wA wr)) (fun _ i _ => n - (intOf i).toNat)
  case atStart => exact ⟨0, [], rfl, Nat.zero_le _, Nat.le_refl _, O0, S0, N0⟩
  case round =>
    obtain ⟨k, zs, rfl, hk, hzk, OW, SW, NW⟩ := hrel
    clear O0 S0 N0
    have hk0 : (0 : Int) ≤ (k : Int) := by omega
    obtain ⟨q0, q1, q2⟩ := KT.out _ NW.out
    by_cases h1 : k < n
    · have h1' : (k : Int) < (n : Int) := by omega
      go_wp2_with fail
      refine (oneB_any B b 4 wr (by decide) SW.out).mono ?_
      rintro e wq ⟨t, rfl, sq, oq⟩
      have SQ := Lib.hid sq
      have NQ := Lib.hid (NW.out.trans oq)
      have OQ := Lib.hid (own_onlyD OW.out oq (by omega))
      clear sq oq OW SW NW q0 q1 q2
      cases t with
      | true =>
        go_wp2
        go_roundw
        case rel => exact ⟨k + 1, zs, by go_num, by omega, by omega, OQ, SQ, NQ⟩
        case measure => simp [intOf]; omega
      | false =>
        obtain ⟨q0, q1, q2⟩ := KT.out _ NQ.out
        have hlt : k < rs.length := by rw [HN.out]; exact h1
        obtain ⟨c, o, rfl, ST⟩ : ∃ c o, sl = some ⟨c, o, none⟩ ∧ StAt wq c o rs := by
          rcases (TX.out _ NQ.out).1 with e | h
          · rw [e] at hlt; simp at hlt
          · exact h
        obtain ⟨c0, -, -⟩ := ST.cell k hlt
        have cl := ST.lt
        generalize rs[k].1 = z at *
        have hs9 := SZ.out _ NQ.out
        clear ST hlt
        go_wp2_with (first | (at_builtin; refine wpList_append_lies _ rfl (.tmp 18) (.tmp 25) 26 rfl (w.heap.size + 1) 2 i0 (.int .i64 0) 1 8 Tryd.underlying26 hi0 hz0 hz1 hz2 rfl (by decide) _ _ _ rfl (OQ.out.alloc _) ⟨wq.heap.size, 0, none⟩ 1 1 [.int .i64 z] rfl rfl (cell_one_new _ _ _) (by intro u hu; simp at hu; subst hu; rfl) (by decide) (by unfold maxLen; omega) (by omega) (by simp; omega) (wq.heap.size + 1) (by simp) ?_))
        intro g9 cap9 w9 own9 grow9 hg9 hlt9
        have N9 := Lib.hid (GR.out _ _ _ (NQ.out.trans (Only.of_below (bA0 wq (.cells #[.int .i64 z] 2)))) grow9 (fun j hj => (OQ.out.lt j hj).1))
        have S9 := Lib.hid ((SQ.out.below (bA0 wq (.cells #[.int .i64 z] 2))).grown grow9 (fun j hj => by have := (OQ.out.lt j hj).1; omega))
        have O9 : Hid (w9.ownsRow (w.heap.size + 1) 2 1 (.slice (some ⟨g9, 0, none⟩) (zs.length + 1) cap9) (zs ++ [z]).length (valsZ (zs ++ [z]))) := by
          show World.ownsRow _ _ _ _ _ _ _
          have := own9
          rw [show valsZ (zs ++ [z]) = valsZ zs ++ [.int .i64 z] by simp [valsZ], List.length_append]
          exact this
        clear own9 grow9 hg9 hlt9
        go_wp2
        go_roundw
        case rel => exact ⟨k + 1, zs ++ [z], by go_num, by omega, by simp; omega, O9, S9, N9⟩
        case measure => simp [intOf]; omega
    · have h1' : ¬ (k : Int) < (n : Int) := by omega
      go_wp2_with fail
      refine (oneB_any B b 25 wr (by decide) SW.out).mono ?_
      rintro e wq ⟨t, rfl, sq, oq⟩
      have SQ := Lib.hid sq
      have NQ := Lib.hid (NW.out.trans oq)
      have OQ := Lib.hid (own_onlyD OW.out oq (by omega))
      clear sq oq OW SW NW q0 q1 q2
      cases t with
      | true =>
        go_wp2_with fail
        refine (nB_lt B b 30 wq (by decide) (by decide) SQ.out).mono ?_
        rintro e wp ⟨z, rfl, z0, z1, sp, op⟩
        have SP := Lib.hid sp
        have NP := Lib.hid (NQ.out.trans op)
        have OP := Lib.hid (own_onlyD OQ.out op (by omega))
        have hs9 := SZ.out _ NP.out
        clear sp op OQ SQ NQ
        go_wp2_with (first | (at_builtin; refine wpList_append_lies _ rfl (.tmp 29) (.tmp 32) 26 rfl (w.heap.size + 1) 2 i0 (.int .i64 0) 1 8 Tryd.underlying26 hi0 hz0 hz1 hz2 rfl (by decide) _ _ _ rfl (OP.out.alloc _) ⟨wp.heap.size, 0, none⟩ 1 1 [.int .i64 z] rfl rfl (cell_one_new _ _ _) (by intro u hu; simp at hu; subst hu; rfl) (by decide) (by unfold maxLen; omega) (by omega) (by simp; omega) (wp.heap.size + 1) (by simp) ?_))
        intro g9 cap9 w9 own9 grow9 hg9 hlt9
        have N9 := Lib.hid (GR.out _ _ _ (NP.out.trans (Only.of_below (bA0 wp (.cells #[.int .i64 z] 2)))) grow9 (fun j hj => (OP.out.lt j hj).1))
        have S9 := Lib.hid ((SP.out.below (bA0 wp (.cells #[.int .i64 z] 2))).grown grow9 (fun j hj => by have := (OP.out.lt j hj).1; omega))
        have O9 : Hid (w9.ownsRow w.heap.size 2 1 (.slice (some ⟨g9, 0, none⟩) (zs.length + 1) cap9) (zs ++ [z]).length (valsZ (zs ++ [z]))) := by
          show World.ownsRow _ _ _ _ _ _ _
          have := own_mono own9 (show w.heap.size ≤ w.heap.size + 1 by omega)
          rw [show valsZ (zs ++ [z]) = valsZ zs ++ [.int .i64 z] by simp [valsZ], List.length_append]
          exact this
        have F9 := Lib.hid (OX.out _ N9.out)
        clear own9 grow9 hg9 hlt9
        go_wp2
        go_ret
        exact ⟨_, zs ++ [z], rfl, by simp; omega, O9.out, S9.out, F9.out⟩
      | false =>
        have O9 := Lib.hid (own_mono OQ.out (show w.heap.size ≤ w.heap.size + 1 by omega))
        have F9 := Lib.hid (OX.out _ NQ.out)
        clear OQ
        go_wp2
        go_ret
        exact ⟨_, zs, rfl, by omega, O9.out, SQ.out, F9.out⟩


def buds : List Int := [-1, 0, 300, 301]
theorem buds_in (i : Nat) : -1 ≤ buds.getD i 0 ∧ buds.getD i 0 ≤ 301 := by
  by_cases hi : i < buds.length
  · have : ∀ z ∈ buds, -1 ≤ z ∧ z ≤ 301 := by decide
    simp only [List.getD_eq_getElem?_getD, List.getElem?_eq_getElem hi, Option.getD_some]
    exact this _ (List.getElem_mem hi)
  · simp [List.getD_eq_getElem?_getD, List.getElem?_eq_none (by omega : buds.length ≤ i)]

set_option maxRecDepth 100000 in
set_option maxHeartbeats 1000000 in
/-- spec.l09Budget. -/
theorem lbud_any (B b : Nat) (w : World) (hs : SrcB B w b) :
    Calls Tryd.prog 58 #[.pointer (some ⟨b, 0, none⟩)] w fun e w' => ∃ v : Int, e = .returned (.int .i64 v) ∧ -1 ≤ v ∧ v ≤ 301 ∧ SrcB B w' b ∧ Only b w w' := by
  have HS := Lib.hid hs
  clear hs
  go_enter Tryd.func58, Tryd.ntmps58
  go_wp2_with fail
  refine (oneB_any B b 12 _ (by decide) HS.out).mono ?_
  rintro e w1 ⟨t, rfl, s1, o1⟩
  have H1 : Hid (SrcB B w1 b ∧ Only b w w1) := ⟨s1, o1⟩
  clear s1 o1 HS
  cases t with
  | true =>
    go_wp2_with fail
    refine (nB_lt B b 4 _ (by decide) (by decide) (H1.out.1.below (bA0 _ _))).mono ?_
    rintro e w2 ⟨r, rfl, r1, r2, s2, o2⟩
    have hc := lit_cell buds o2 (Nat.lt_of_lt_of_le H1.out.1.1 H1.out.1.2.1) r r1 r2
    have H2 : Hid (SrcB B w2 b ∧ Only b w w2) := ⟨s2, H1.out.2.trans ((Only.of_below (bA0 _ _)).trans o2)⟩
    have HI : Hid (-1 ≤ buds.getD r.toNat 0 ∧ buds.getD r.toNat 0 ≤ 301) := buds_in _
    generalize buds.getD r.toNat 0 = v at *
    clear s2 o2 H1
    go_wp2
    go_ret
    exact ⟨_, rfl, HI.out.1, HI.out.2, H2.out⟩
  | false =>
    go_wp2_with fail
    refine (oneB_any B b 3 _ (by decide) H1.out.1).mono ?_
    rintro e w2 ⟨t, rfl, s2, o2⟩
    have H2 : Hid (SrcB B w2 b ∧ Only b w w2) := ⟨s2, H1.out.2.trans o2⟩
    clear s2 o2 H1
    cases t with
    | true =>
      go_wp2_with fail
      refine (nB_lt B b 12 _ (by decide) (by decide) H2.out.1).mono ?_
      rintro e w3 ⟨r, rfl, r1, r2, s3, o3⟩
      have H3 : Hid (SrcB B w3 b ∧ Only b w w3) := ⟨s3, H2.out.2.trans o3⟩
      clear s3 o3 H2
      go_wp2
      go_ret
      exact ⟨_, rfl, by omega, by omega, H3.out⟩
    | false =>
      go_wp2
      go_ret
      exact ⟨_, rfl, by omega, by omega, H2.out⟩

/-- All but two blocks are as they were. -/
structure But2 (b r : Nat) (u v : World) : Prop where
  size : u.heap.size ≤ v.heap.size
  block : ∀ k, k < u.heap.size → k ≠ b → k ≠ r → v.heap[k]? = u.heap[k]?
theorem But2.of {b r : Nat} {u v : World} (h : Only b u v) : But2 b r u v := ⟨h.size, fun k hk hb _ => h.block k hk hb⟩
theorem But2.trans {b r : Nat} {u v w : World} (h : But2 b r u v) (g : But2 b r v w) : But2 b r u w := ⟨Nat.le_trans h.size g.size, fun k hk hb hr => (g.block k (Nat.lt_of_lt_of_le hk h.size) hb hr).trans (h.block k hk hb hr)⟩
theorem But2.set {b r : Nat} {u v : World} (h : But2 b r u v) (o : Nat) (x : Value) : But2 b r u (v.setCell ⟨r, o, none⟩ x) := ⟨by simpa [World.setCell] using h.size, fun k hk hb hr => (Below.heap_setCell _ _ _ _ (by show k ≠ r; omega)).trans (h.block k hk hb hr)⟩

/-- What l06Cnf draws. -/
def LcnfOk : Prop := ∀ (B b : Nat) (w : World), SrcB B w b → Calls Tryd.prog 45 #[.pointer (some ⟨b, 0, none⟩)] w fun e w' => ∃ (vars : Int) (v : Value) (cs : List LCl), e = .returned (.agg #[.int .i64 vars, v]) ∧ OwC w' w.heap.size v cs ∧ (∀ r ∈ cs, r.2.length ≤ 20 ∧ ∀ z ∈ r.2, -100 ≤ z ∧ z ≤ 100) ∧ cs.length ≤ 5000 ∧ Src w' b ∧ Only b w w'

theorem OwC.but2 {C b r : Nat} {w w' : World} {v : Value} {cs : List LCl} (h : OwC w C v cs) (hb : But2 b r w w') (h1 : b < C) (h2 : r < C) : OwC w' C v cs :=
  ⟨own_keep h.row (fun j hj => hb.block j (h.row.lt j hj).2 (by have := own_base h.row hj; omega) (by have := own_base h.row hj; omega)), fun x hx => own_keep (h.each x hx) (fun j hj => hb.block j ((h.each x hx).lt j hj).2 (by have := own_base (h.each x hx) hj; omega) (by have := own_base (h.each x hx) hj; omega)), h.diff⟩

set_option maxRecDepth 100000 in
set_option maxHeartbeats 8000000 in
/-- spec.DrawSolve. -/
theorem dsol_any (HC : LcnfOk) (sl : Option Addr) (len cap : Nat) (w : World) (hr : RowIn w sl len) :
    Calls Tryd.prog 17 #[.slice sl len cap] w (DsPost w) := by
  have HS := Lib.hid (source_any sl len cap (w.alloc (.cells #[.int .i64 0, .slice none 0 0] 25)) (hr.below (bA0 _ _)))
  have R0 := Lib.hid (new_at w (.cells #[.int .i64 0, .slice none 0 0] 25))
  have B0 := Lib.hid (bA0 w (.cells #[.int .i64 0, .slice none 0 0] 25))
  have hz : (w.alloc (.cells #[.int .i64 0, .slice none 0 0] 25)).heap.size = w.heap.size + 1 := by simp
  clear hr
  go_enter Tryd.func17, Tryd.ntmps17
  go_wp2_with fail
  generalize w.alloc (.cells #[.int .i64 0, .slice none 0 0] 25) = w0 at *
  refine HS.out.mono ?_
  rintro e w1 ⟨rfl, s1, b1⟩
  rw [hz] at s1 b1
  have T1 := Lib.hid (HC w1.heap.size (w.heap.size + 1) w1 (SrcB.of s1))
  have B1 := Lib.hid (B0.out.trans (b1.mono (by omega)))
  have R1 := Lib.hid ((b1.block w.heap.size (by omega)).trans R0.out)
  have h1z : w.heap.size + 1 < w1.heap.size := s1.lt
  clear s1 b1 HS R0 B0
  rw [hz]
  go_wp2_with fail
  refine T1.out.mono ?_
  rintro e w2 ⟨vars, v, cs, rfl, oc, hsm, hl, sr, ho⟩
  obtain ⟨vs, vk, rfl⟩ := own_v oc.row
  have R2 := Lib.hid ((ho.block w.heap.size (by omega) (by omega)).trans R1.out)
  have hs2 := ho.size
  have B2 : Hid (Below w.heap.size w w2) := ho.below B1.out (by omega)
  have SB3 := Lib.hid ((SrcB.of sr).below (bA0 w2 (.cells #[.int .i64 vars, .slice vs cs.length vk] 25)))
  have R3 := Lib.hid (((bA0 w2 (.cells #[.int .i64 vars, .slice vs cs.length vk] 25)).block w.heap.size (by omega)).trans R2.out)
  have B3 : Hid (Below w.heap.size w (w2.alloc (.cells #[.int .i64 vars, .slice vs cs.length vk] 25))) := bT B2.out (bA0 w2 (.cells #[.int .i64 vars, .slice vs cs.length vk] 25))
  have TB := Lib.hid (new_at w2 (.cells #[.int .i64 vars, .slice vs cs.length vk] 25))
  have OC := Lib.hid (oc.below (bA0 w2 (.cells #[.int .i64 vars, .slice vs cs.length vk] 25)))
  have HM : Hid (∀ r ∈ cs, r.2.length ≤ 20 ∧ ∀ z ∈ r.2, -100 ≤ z ∧ z ≤ 100) := hsm
  clear sr ho T1 R1 B1 R2 B2 hsm oc
  generalize hN : cs.length = n at *
  have HN := Lib.hid hN
  clear hN
  go_wp2_with fail
  generalize w2.alloc (.cells #[.int .i64 vars, .slice vs n vk] 25) = w3 at *
  have D0 : Hid (But2 (w.heap.size + 1) w.heap.size w3 w3.drew) := ⟨Nat.le_refl _, fun _ _ _ _ => rfl⟩
  have KX : Hid (∀ W, But2 (w.heap.size + 1) w.heap.size w3 W → w2.heap.size < W.heap.size ∧ W.cell? ⟨w2.heap.size, 0, none⟩ = some (.int .i64 vars) ∧ W.cell? ⟨w2.heap.size, 1, none⟩ = some (.slice vs n vk)) := fun W a => by
    have hlt := (Array.getElem?_eq_some_iff.1 TB.out).1
    have hb : W.heap[w2.heap.size]? = some (.cells #[.int .i64 vars, .slice vs n vk] 25) := (a.block w2.heap.size hlt (by omega) (by omega)).trans TB.out
    exact ⟨(Array.getElem?_eq_some_iff.1 hb).1, by simp [World.cell?, hb], by simp [World.cell?, hb]⟩
  have FIN : Hid (∀ W bud, -1 ≤ bud → bud ≤ 301 → But2 (w.heap.size + 1) w.heap.size w3 W → Below w.heap.size w W → DsPost w (.returned (.tuple #[CV vars vs n vk, .int .i64 bud])) W) := fun W bud h1 h2 a bl =>
    ⟨vars, vs, vk, cs, bud, by rw [HN.out], HM.out, by rw [HN.out]; exact hl, h1, h2, by rw [HN.out]; exact (OC.out.but2 a (by omega) (by omega)).mono (by omega), bl⟩
  have BD : Hid (Below w.heap.size w w3.drew) := B3.out.drew
  have SD : Hid (SrcB w2.heap.size w3.drew (w.heap.size + 1)) := ⟨SB3.out.1, SB3.out.2.1, SB3.out.2.2⟩
  have RD : Hid (w3.drew.heap[w.heap.size]? = some (.cells #[.int .i64 0, .slice none 0 0] 25)) := R3
  clear HN HM OC TB R3 B3 SB3
  refine wp_region_held_drew (S := fun W => w2.heap.size < W.heap.size ∧ W.cell? ⟨w2.heap.size, 0, none⟩ = some (.int .i64 vars) ∧ W.cell? ⟨w2.heap.size, 1, none⟩ = some (.slice vs n vk)) (by kernel_rfl) ?_ (fun hHeld => ?_)
  · exact KX.out _ D0.out
  refine wpAnyH_take (i := 0) (oi := _) (v := ?_) rfl (by kernel_rfl) (by kernel_rfl) (by kernel_rfl) (fun _ _ _ h => h) (Or.inl ⟨by rfl, ?_⟩) (by assumption) ?_
  rotate_left
  · intro w hSw; (try dsimp only at hSw); go_simp; try with_reducible rfl
  try simp only [Act.put, List.setIfInBounds_toArray, List.set_cons_zero, List.set_cons_succ, List.getElem_toArray, List.getElem_cons_zero]
  refine wpAnyH_take (i := 1) (oi := _) (v := ?_) rfl (by kernel_rfl) (by kernel_rfl) (by kernel_rfl) (fun _ _ _ h => h) (Or.inl ⟨by rfl, ?_⟩) (by assumption) ?_
  rotate_left
  · intro w hSw; (try dsimp only at hSw); go_simp; try with_reducible rfl
  try simp only [Act.put, List.setIfInBounds_toArray, List.set_cons_zero, List.set_cons_succ, List.getElem_toArray, List.getElem_cons_succ, List.getElem_cons_zero]
  refine wpAnyH_ready (rs := [2]) (by kernel_rfl) (by simp) ?_
  refine AllReadyH.cons rfl (fun K hK => ?_) AllReadyH.nil
  go_simp
  go_wp2_with (go_at_call 58; refine (lbud_any w2.heap.size (w.heap.size + 1) _ SD.out).mono ?_; rintro e w6 ⟨bud, rfl, r0, r1, s6, o6⟩)
  have D6 := Lib.hid (D0.out.trans (But2.of o6))
  have B6 : Hid (Below w.heap.size w w6) := o6.below BD.out (by omega)
  have R6 : Hid (w6.heap[w.heap.size]? = some (.cells #[.int .i64 0, .slice none 0 0] 25)) := (o6.block w.heap.size (Array.getElem?_eq_some_iff.1 RD.out).1 (by omega)).trans RD.out
  refine hK.out _ _ ?_ (fun hHeld => ?_)
  · exact KX.out _ D6.out
  clear hK K
  refine wpAnyH_ready (rs := [3]) (by kernel_rfl) (by simp) ?_
  refine AllReadyH.cons rfl (fun K hK => ?_) AllReadyH.nil
  have R7 := heap_setCell_same _ w.heap.size 1 _ 25 (.slice vs n vk) (heap_setCell_same w6 w.heap.size 0 _ 25 (.int .i64 vars) R6.out)
  have c0 : w6.cell? ⟨w.heap.size, 0, none⟩ = some (.int .i64 0) := by simp [World.cell?, R6.out]
  have c1 : w6.cell? ⟨w.heap.size, 1, none⟩ = some (.slice none 0 0) := by simp [World.cell?, R6.out]
  have f0 : w6.frozen? ⟨w.heap.size, 0, none⟩ = false := by simp [World.frozen?, R6.out]
  have f1 : w6.frozen? ⟨w.heap.size, 1, none⟩ = false := by simp [World.frozen?, R6.out]
  have lt7 : w.heap.size < w6.heap.size := (Array.getElem?_eq_some_iff.1 R6.out).1
  have D7 := Lib.hid ((D6.out.set 0 (.int .i64 vars)).set 1 (.slice vs n vk))
  have B7 : Hid (Below w.heap.size w ((w6.setCell ⟨w.heap.size, 0, none⟩ (.int .i64 vars)).setCell ⟨w.heap.size, 1, none⟩ (.slice vs n vk))) := (B6.out.setCell (Nat.le_refl _) _).setCell (Nat.le_refl _) _
  have R7' := Lib.hid R7
  clear R7
  go_simp
  refine hK.out _ _ ?_ (fun hHeld => ?_)
  · exact KX.out _ D7.out
  clear hK K
  refine wpAnyH_take (i := 4) (oi := _) (v := ?_) rfl (by kernel_rfl) (by kernel_rfl) (by kernel_rfl) (fun _ _ _ h => h) (Or.inl ⟨by rfl, ?_⟩) (by assumption) ?_
  rotate_left
  · intro w hSw; (try dsimp only at hSw); go_simp; try with_reducible rfl
  try simp only [Act.put, List.setIfInBounds_toArray, List.set_cons_zero, List.set_cons_succ, List.getElem_toArray, List.getElem_cons_succ, List.getElem_cons_zero]
  refine wpAnyH_done (by kernel_rfl) ?_ _
  have e5 : ((w6.setCell ⟨w.heap.size, 0, none⟩ (.int .i64 vars)).setCell ⟨w.heap.size, 1, none⟩ (.slice vs n vk)).cell? ⟨w.heap.size, 0, none⟩ = some (.int .i64 vars) := by simp [World.cell?, R7'.out]
  have e6 : ((w6.setCell ⟨w.heap.size, 0, none⟩ (.int .i64 vars)).setCell ⟨w.heap.size, 1, none⟩ (.slice vs n vk)).cell? ⟨w.heap.size, 1, none⟩ = some (.slice vs n vk) := by simp [World.cell?, R7'.out]
  have P := Lib.hid (FIN.out ((w6.setCell ⟨w.heap.size, 0, none⟩ (.int .i64 vars)).setCell ⟨w.heap.size, 1, none⟩ (.slice vs n vk)) bud r0 r1 D7.out B7.out)
  clear KX FIN
  go_wp2
  exact bodyPost_ret (v := .tuple #[.agg #[.int .i64 vars, .slice vs n vk], .int .i64 bud]) (by simp [results, Tryd.results17, go_sem, e5, e6]) rfl P.out

end Go.Proofs.YtoobcodlgajieaaDoor
