/-
  THE VARIABLES AS THE MODEL GATHERS THEM: spec.l06Vars.
  THE CLAUSES OF A TABLE, as lists: gathered by stations (the program) and by variables (the model): the same.
  THE LAWS' CLAUSES: how they lie; their size; copied, held against each other.
  CLAUSES THAT ARE OWNED: a row of slices, each with a row of its own; grown by one, put behind others.
  THE VARIABLES OF EACH STATION: impl.varsOf.
  NO TWO OF A STATION: impl.notTwo.
-/
import Derived.Test.YtaogkdhloogmhaaHag
import Derived.Test.YtaogkdhloogmhaaHae
import Derived.Deep.RegionHeldLaw
namespace Go.Proofs.Ytaogkdhloogmhaa
open Go.RowKit
set_option linter.unusedVariables false

theorem own_kind {w : World} {B : Nat} {e : TypeId} {m : Nat} {v : Value} {n : Nat} {xs : List Value} (h : w.ownsRow B e m v n xs) {j : Nat} (hj : v.ownBlock = some j) : ∃ cur, w.heap[j]? = some (.cells cur e) := by
  rcases h.2 with ⟨rfl, _⟩ | ⟨g, cap, cur, rfl, _, hg, _⟩
  · simp [Value.ownBlock] at hj
  · simp [Value.ownBlock] at hj
    subst hj
    exact ⟨cur, hg⟩
theorem own_diff {w : World} {B B' : Nat} {e e' : TypeId} {m m' : Nat} {v v' : Value} {n n' : Nat} {xs xs' : List Value} (h : w.ownsRow B e m v n xs) (h' : w.ownsRow B' e' m' v' n' xs') (he : e ≠ e') : v.ownBlock = none ∨ v.ownBlock ≠ v'.ownBlock := by
  cases hv : v.ownBlock with
  | none => exact .inl rfl
  | some j =>
    refine .inr fun e2 => ?_
    obtain ⟨c1, h1⟩ := own_kind h hv
    obtain ⟨c2, h2⟩ := own_kind h' e2.symm
    rw [h1] at h2
    simp at h2
    exact he h2.2
theorem bA1 {n : Nat} {W w : World} (h : Below n W w) (o : Obj) (hn : n ≤ w.heap.size) : Below n W (w.alloc o) := h.alloc hn o
theorem own_e34 (w : World) : (w.alloc (.cells #[] 64)).ownsRow w.heap.size 64 2 (.slice (some ⟨w.heap.size, 0, none⟩) 0 0) 0 (enCells []) :=
  ⟨rfl, .inr ⟨w.heap.size, 0, #[], rfl, Nat.le_refl _, by show (w.heap.push _)[w.heap.size]? = _; simp, Nat.le_refl _, Nat.zero_le _, rfl, rfl⟩⟩
theorem plF_step (rs : List LSt) (top : Int) (ids : List Int) (k : Nat) (h : k < ids.length) : plF rs top (ids.take (k + 1)) = plF rs top (ids.take k) ++ chF rs top (ids.getD k 0) := by
  unfold plF
  rw [List.take_succ_eq_append_getElem h, List.flatMap_append]
  simp [h]

set_option maxRecDepth 100000 in
set_option maxHeartbeats 4000000 in
/-- spec.l06Vars, of a right table. -/
theorem vars_any (sl : Option Addr) (cap : Nat) (sl2 : Option Addr) (cap2 : Nat) (sl3 : Option Addr) (cap3 : Nat) (rs : List LSt) (ps : List LPr) (top : Int) (ids : List Int) (w : World) (hn : rs.length ≤ 1048576) (hl : ids.length ≤ 400) (hz : Sts w sl rs) (hp : Prs w sl2 ps) (TR0 : TabR rs ps) (hi : Ints w sl3 ids) :
    Calls Try.prog 31 #[TV sl rs.length cap sl2 ps.length cap2, .int .i64 top, .slice sl3 ids.length cap3] w fun e w' => ∃ v, e = .returned v ∧ w'.ownsRow w.heap.size 64 2 v (plF rs top ids).length (enCells (plF rs top ids)) ∧ Below w.heap.size w w' := by
  obtain ⟨i3, hi3, hd0, hd1, hd2⟩ := info_parts info34
  have HT := Lib.hid (TabAt.new w sl rs.length cap sl2 ps.length cap2)
  have E1 : Hid (∀ id W, Below w.heap.size w W → Calls Try.prog 53 #[TV sl rs.length cap sl2 ps.length cap2, .int .i64 id, .int .i64 top] W fun e w' => ∃ s c, e = .returned (.slice s (rs.flatMap (domF id top)).length c) ∧ w'.ownsRow W.heap.size 2 1 (.slice s (rs.flatMap (domF id top)).length c) (rs.flatMap (domF id top)).length (valsZ (rs.flatMap (domF id top))) ∧ Below W.heap.size W w') := fun id W hW => by
    have := sdo_any sl cap sl2 cap2 rs ps id top W hn (hz.below hW) (hp.below hW)
    rw [show domA rs ps id top = rs.flatMap (domF id top) by unfold domA; rw [B_yes TR0]; rfl] at this
    refine this.mono ?_
    rintro e w' ⟨v, rfl, o, b⟩
    obtain ⟨s, c, rfl, i⟩ := own_ints o
    exact ⟨s, c, rfl, o, b⟩
  have DL := Lib.hid (fun id => dom_le rs ps id top TR0)
  have PL := Lib.hid (fun k => plF_le top (ids.take k) TR0)
  have HI := Lib.hid hi
  clear hz hi TR0 hp
  generalize hN : ids.length = n at *
  have HN := Lib.hid hN
  clear hN
  generalize rs.length = rn at *
  generalize ps.length = pn at *
  have B0 := Lib.hid (bA (bA0 w (.cells #[.slice sl rn cap, .slice sl2 pn cap2] 26)) (.cells #[] 64))
  have X0 := Lib.hid (HT.out.below (bA0 (w.alloc (.cells #[.slice sl rn cap, .slice sl2 pn cap2] 26)) (.cells #[] 64)))
  have O0 := Lib.hid (own_e34 (w.alloc (.cells #[.slice sl rn cap, .slice sl2 pn cap2] 26)))
  rw [show (w.alloc (.cells #[.slice sl rn cap, .slice sl2 pn cap2] 26)).heap.size = w.heap.size + 1 by simp] at O0
  go_enter Try.func31, Try.ntmps31
  go_wp2
  generalize (w.alloc (.cells #[.slice sl rn cap, .slice sl2 pn cap2] 26)).alloc (.cells #[] 64) = wA at *
  clear HT
  go_loopw [7, 8] (fun v i wr => ∃ (k : Nat) (cu : List LPl), i = .int .i64 k ∧ k ≤ n ∧ Hid (cu = plF rs top (ids.take k)) ∧ Hid (wr.ownsRow (w.heap.size + 1) 64 2 v cu.length (enCells cu)) ∧ Hid (Below (w.heap.size + 1) wA wr)) (fun _ i _ => n - (intOf i).toNat)
  case atStart => exact ⟨0, [], rfl, Nat.zero_le _, rfl, O0, Below.refl _ _⟩
  case round =>
    obtain ⟨k, cu, rfl, hk, HC, OR, HB⟩ := hrel
    have hk0 : (0 : Int) ≤ (k : Int) := by omega
    have DW := Lib.hid (B0.out.trans (HB.out.mono (Nat.le_succ _)))
    by_cases g1 : k < n
    · have g1' : (k : Int) < (n : Int) := by omega
      have hlt : k < ids.length := by rw [HN.out]; exact g1
      obtain ⟨c, o, rfl, ZI⟩ : ∃ c o, sl3 = some ⟨c, o, none⟩ ∧ IntsAt w c o ids := by
        rcases HI.out with e | h
        · rw [e] at hlt; simp at hlt
        · exact h
      have hcw := ZI.1
      have hc := (DW.out.cell (p := ⟨c, o + k, none⟩) ZI.1).trans (ZI.2 k hlt)
      have IS := Lib.hid (show plF rs top (ids.take (k + 1)) = cu ++ (rs.flatMap (domF (ids.getD k 0) top)).map fun c => ((ids.getD k 0, c) : LPl) by rw [HC.out]; exact plF_step rs top ids k hlt)
      have E := Lib.hid (E1.out (ids.getD k 0))
      have D8 := DL.out (ids.getD k 0)
      have CL := Lib.hid (show cu.length ≤ 96 * k by
        have := PL.out k
        rw [HC.out]
        rw [List.length_take] at this
        omega)
      have IC := Lib.hid (show ∀ W, Below w.heap.size w W → W.cell? ⟨c, o + k, none⟩ = some (.int .i64 (ids.getD k 0)) from fun W hW => (hW.cell (p := ⟨c, o + k, none⟩) ZI.1).trans (ZI.2 k hlt))
      clear hlt ZI HC
      generalize ids.getD k 0 = x at *
      generalize hzz : rs.flatMap (domF x top) = zs at *
      clear hzz
      have XT : TabAt wr w.heap.size sl rn cap sl2 pn cap2 := (HB.out.block w.heap.size (Nat.lt_succ_self _)).trans X0.out
      obtain ⟨t0, t1⟩ := XT.cells
      have tl := XT.lt
      have hsw : w.heap.size + 1 ≤ wr.heap.size := tl
      have KB : Hid (∀ W, Below wr.heap.size wr W → w.heap.size < W.heap.size ∧ c < W.heap.size ∧ W.cell? ⟨w.heap.size, 0, none⟩ = some (.slice sl rn cap) ∧ W.cell? ⟨w.heap.size, 1, none⟩ = some (.slice sl2 pn cap2) ∧ W.cell? ⟨c, o + k, none⟩ = some (.int .i64 x)) := fun W hW => ⟨Nat.lt_of_lt_of_le tl hW.size, Nat.lt_of_lt_of_le (show c < wr.heap.size by omega) hW.size, (hW.cell tl).trans t0, (hW.cell tl).trans t1, (hW.cell (show c < wr.heap.size by omega)).trans hc⟩
      clear XT t0 t1 tl hc
      go_wp2_with fail
      refine wp_region_held_drew (S := fun W => w.heap.size < W.heap.size ∧ c < W.heap.size ∧ W.cell? ⟨w.heap.size, 0, none⟩ = some (.slice sl rn cap) ∧ W.cell? ⟨w.heap.size, 1, none⟩ = some (.slice sl2 pn cap2) ∧ W.cell? ⟨c, o + k, none⟩ = some (.int .i64 x)) (by kernel_rfl) ?_ (fun hHeld => ?_)
      · exact KB.out _ (Below.refl _ _).drew
      refine wpAnyH_take (i := 0) (oi := _) (v := ?_) rfl (by kernel_rfl) (by kernel_rfl) (by kernel_rfl) (fun _ _ _ h => h) (Or.inl ⟨by rfl, ?_⟩) (by assumption) ?_
      rotate_left
      · first | (intro w hSw; (try dsimp only at hSw); go_simp; done) | (intro w hSw; (try dsimp only at hSw); go_simp; with_reducible rfl)
      try simp only [Act.put, List.setIfInBounds_toArray, List.set_cons_zero, List.set_cons_succ, List.getElem_toArray, List.getElem_cons_zero]
      refine wpAnyH_take (i := 1) (oi := _) (v := ?_) rfl (by kernel_rfl) (by kernel_rfl) (by kernel_rfl) (fun _ _ _ h => h) (Or.inl ⟨by rfl, ?_⟩) (by assumption) ?_
      rotate_left
      · first | (intro w hSw; (try dsimp only at hSw); go_simp; done) | (intro w hSw; (try dsimp only at hSw); go_simp; with_reducible rfl)
      try simp only [Act.put, List.setIfInBounds_toArray, List.set_cons_zero, List.set_cons_succ, List.getElem_toArray, List.getElem_cons_succ, List.getElem_cons_zero]
      refine wpAnyH_take (i := 2) (oi := _) (v := ?_) rfl (by kernel_rfl) (by kernel_rfl) (by kernel_rfl) (fun _ _ _ h => h) (Or.inl ⟨by rfl, ?_⟩) (by assumption) ?_
      rotate_left
      · first | (intro w hSw; (try dsimp only at hSw); go_simp; done) | (intro w hSw; (try dsimp only at hSw); go_simp; with_reducible rfl)
      try simp only [Act.put, List.setIfInBounds_toArray, List.set_cons_zero, List.set_cons_succ, List.getElem_toArray, List.getElem_cons_succ, List.getElem_cons_zero]
      refine wpAnyH_take (i := 3) (oi := _) (v := ?_) rfl (by kernel_rfl) (by kernel_rfl) (by kernel_rfl) (fun _ _ _ h => h) (Or.inl ⟨by rfl, ?_⟩) (by assumption) ?_
      rotate_left
      · first | (intro w hSw; (try dsimp only at hSw); go_simp; done) | (intro w hSw; (try dsimp only at hSw); go_simp; with_reducible rfl)
      try simp only [Act.put, List.setIfInBounds_toArray, List.set_cons_zero, List.set_cons_succ, List.getElem_toArray, List.getElem_cons_succ, List.getElem_cons_zero]
      refine wpAnyH_take (i := 4) (oi := _) (v := ?_) rfl (by kernel_rfl) (by kernel_rfl) (by kernel_rfl) (fun _ _ _ h => h) (Or.inl ⟨by rfl, ?_⟩) (by assumption) ?_
      rotate_left
      · first | (intro w hSw; (try dsimp only at hSw); go_simp; done) | (intro w hSw; (try dsimp only at hSw); go_simp; with_reducible rfl)
      try simp only [Act.put, List.setIfInBounds_toArray, List.set_cons_zero, List.set_cons_succ, List.getElem_toArray, List.getElem_cons_succ, List.getElem_cons_zero]
      refine wpAnyH_take (i := 5) (oi := _) (v := ?_) rfl (by kernel_rfl) (by kernel_rfl) (by kernel_rfl) (fun _ _ _ h => h) (Or.inl ⟨by rfl, ?_⟩) (by assumption) ?_
      rotate_left
      · first | (intro w hSw; (try dsimp only at hSw); go_simp; done) | (intro w hSw; (try dsimp only at hSw); go_simp; with_reducible rfl)
      try simp only [Act.put, List.setIfInBounds_toArray, List.set_cons_zero, List.set_cons_succ, List.getElem_toArray, List.getElem_cons_succ, List.getElem_cons_zero]
      refine wpAnyH_ready (rs := [6]) (by kernel_rfl) (by simp) ?_
      refine AllReadyH.cons rfl (fun K hK => ?_) AllReadyH.nil
      go_simp
      go_wp2_with (go_at_call 53; refine (E.out _ DW.out.drew).mono ?_; rintro e w3 ⟨s3, c3, rfl, o3, b3⟩)
      have F3 : Hid (Below wr.heap.size wr w3) := bT ((Below.refl wr.heap.size wr).drew) b3
      have Z3 := Lib.hid o3
      clear b3 o3
      refine hK.out _ _ ?_ (fun hHeld => ?_)
      · exact KB.out _ F3.out
      clear hK K
      refine wpAnyH_take (i := 7) (oi := _) (v := ?_) rfl (by kernel_rfl) (by kernel_rfl) (by kernel_rfl) (fun _ _ _ h => h) (Or.inl ⟨by rfl, ?_⟩) (by assumption) ?_
      rotate_left
      · first | (intro w hSw; (try dsimp only at hSw); go_simp; done) | (intro w hSw; (try dsimp only at hSw); go_simp; with_reducible rfl)
      try simp only [Act.put, List.setIfInBounds_toArray, List.set_cons_zero, List.set_cons_succ, List.getElem_toArray, List.getElem_cons_succ, List.getElem_cons_zero]
      refine wpAnyH_done (by kernel_rfl) ?_ _
      have O3 := Lib.hid (own_below OR.out F3.out)
      have B3 := Lib.hid (HB.out.trans (F3.out.mono hsw))
      have hs3 : w.heap.size + 1 ≤ w3.heap.size := by have := F3.out.size; omega
      clear KB OR HB F3 DW E
      generalize hq : zs.length = q at *
      have HQ := Lib.hid hq
      clear hq
      obtain ⟨wb, hwb⟩ : ∃ wb, wb = wr.heap.size := ⟨_, rfl⟩
      rw [show wr.drew.heap.size = wb from hwb.symm] at Z3
      clear hwb
      go_wp2_with fail
      go_loopw [7, 10] (fun v j wq => ∃ (m : Nat) (cv : List LPl), j = .int .i64 m ∧ m ≤ q ∧ cv.length ≤ 96 * k + m ∧ Hid (cv = cu ++ (zs.take m).map fun c => ((x, c) : LPl)) ∧ Hid (wq.ownsRow (w.heap.size + 1) 64 2 v cv.length (enCells cv)) ∧ Hid (wq.ownsRow wb 2 1 (.slice s3 q c3) q (valsZ zs)) ∧ Hid (Below (w.heap.size + 1) wA wq)) (fun _ j _ => q - (intOf j).toNat)
      case atStart => exact ⟨0, cu, rfl, Nat.zero_le _, CL.out, (by show cu = cu ++ _; simp), O3, Z3, B3⟩
      case round =>
        obtain ⟨m, cv, rfl, hm, hcv, HC, OR, OZ, HB⟩ := hrel
        have hm0 : (0 : Int) ≤ (m : Int) := by omega
        by_cases g2 : m < q
        · have g2' : (m : Int) < (q : Int) := by omega
          have hlt : m < zs.length := by rw [HQ.out]; exact g2
          have QP := Lib.hid (show 0 < q by omega)
          obtain ⟨e, ce, he, -, hel, -, -, hec⟩ := own_cells OZ.out QP.out
          obtain ⟨rfl, rfl⟩ : s3 = some ⟨e, 0, none⟩ ∧ c3 = ce := by cases he; exact ⟨rfl, rfl⟩
          have hzc : wr.cell? ⟨e, m, none⟩ = some (.int .i64 (zs.getD m 0)) := by rw [hec m g2]; simp [valsZ, hlt]
          have CS := Lib.hid (show cv ++ [(x, zs.getD m 0)] = cu ++ (zs.take (m + 1)).map fun c => ((x, c) : LPl) by rw [chF_step rs top x zs m hlt, ← List.append_assoc, ← HC.out])
          have KZ : Hid (∀ W, Below (w.heap.size + 1) wA W → W.ownsRow wb 2 1 (.slice (some ⟨e, 0, none⟩) q c3) q (valsZ zs) → c < W.heap.size ∧ e < W.heap.size ∧ W.cell? ⟨c, o + k, none⟩ = some (.int .i64 x) ∧ W.cell? ⟨e, m, none⟩ = some (.int .i64 (zs.getD m 0))) := fun W hW hZ => by
            obtain ⟨e', ce', he', -, hel', -, -, hec'⟩ := own_cells hZ QP.out
            cases he'
            have hsz := hW.size
            have hA := B0.out.size
            exact ⟨by omega, hel', IC.out W (B0.out.trans (hW.mono (Nat.le_succ _))), by rw [hec' m g2]; simp [valsZ, hlt]⟩
          have OD : Hid ((wr.drew.alloc (.cells #[.int .i64 x, .int .i64 (zs.getD m 0)] 64)).ownsRow (w.heap.size + 1) 64 2 _ cv.length (enCells cv)) := (show wr.drew.ownsRow _ _ _ _ _ _ from OR.out).alloc _
          have ZD : Hid ((wr.drew.alloc (.cells #[.int .i64 x, .int .i64 (zs.getD m 0)] 64)).ownsRow wb 2 1 (.slice (some ⟨e, 0, none⟩) q c3) q (valsZ zs)) := (show wr.drew.ownsRow _ _ _ _ _ _ from OZ.out).alloc _
          have hsw : w.heap.size + 1 ≤ wr.heap.size := by have := HB.out.size; have := X0.out.lt; omega
          have K0 := Lib.hid (KZ.out wr.drew HB.out.drew (show wr.drew.ownsRow _ _ _ _ _ _ from OZ.out))
          have K10 := Lib.hid (KZ.out _ (bA1 HB.out.drew (.cells #[.int .i64 x, .int .i64 (zs.getD m 0)] 64) hsw) ZD.out)
          clear hlt hec he
          generalize zs.getD m 0 = z at *
          obtain ⟨vsl, vcap, rfl⟩ := own_v OR.out
          go_wp2_with fail
          refine wp_region_held_drew (S := fun W => c < W.heap.size ∧ e < W.heap.size ∧ W.cell? ⟨c, o + k, none⟩ = some (.int .i64 x) ∧ W.cell? ⟨e, m, none⟩ = some (.int .i64 z)) (by kernel_rfl) ?_ (fun hHeld => ?_)
          · exact K0.out
          refine wpAnyH_take (i := 0) (oi := _) (v := ?_) rfl (by kernel_rfl) (by kernel_rfl) (by kernel_rfl) (fun _ _ _ h => h) (Or.inl ⟨by rfl, ?_⟩) (by assumption) ?_
          rotate_left
          · first | (intro w hSw; (try dsimp only at hSw); go_simp; done) | (intro w hSw; (try dsimp only at hSw); go_simp; with_reducible rfl)
          try simp only [Act.put, List.setIfInBounds_toArray, List.set_cons_zero, List.set_cons_succ, List.getElem_toArray, List.getElem_cons_zero]
          refine wpAnyH_take (i := 1) (oi := _) (v := ?_) rfl (by kernel_rfl) (by kernel_rfl) (by kernel_rfl) (fun _ _ _ h => h) (Or.inl ⟨by rfl, ?_⟩) (by assumption) ?_
          rotate_left
          · first | (intro w hSw; (try dsimp only at hSw); go_simp; done) | (intro w hSw; (try dsimp only at hSw); go_simp; with_reducible rfl)
          try simp only [Act.put, List.setIfInBounds_toArray, List.set_cons_zero, List.set_cons_succ, List.getElem_toArray, List.getElem_cons_succ, List.getElem_cons_zero]
          refine wpAnyH_take (i := 2) (oi := _) (v := ?_) rfl (by kernel_rfl) (by kernel_rfl) (by kernel_rfl) (fun _ _ _ h => h) (Or.inl ⟨by rfl, ?_⟩) (by assumption) ?_
          rotate_left
          · first | (intro w hSw; (try dsimp only at hSw); go_simp; done) | (intro w hSw; (try dsimp only at hSw); go_simp; with_reducible rfl)
          try simp only [Act.put, List.setIfInBounds_toArray, List.set_cons_zero, List.set_cons_succ, List.getElem_toArray, List.getElem_cons_succ, List.getElem_cons_zero]
          refine wpAnyH_take (i := 3) (oi := _) (v := ?_) rfl (by kernel_rfl) (by kernel_rfl) (by kernel_rfl) (fun _ _ _ h => h) (Or.inl ⟨by rfl, ?_⟩) (by assumption) ?_
          rotate_left
          · first | (intro w hSw; (try dsimp only at hSw); go_simp; done) | (intro w hSw; (try dsimp only at hSw); go_simp; with_reducible rfl)
          try simp only [Act.put, List.setIfInBounds_toArray, List.set_cons_zero, List.set_cons_succ, List.getElem_toArray, List.getElem_cons_succ, List.getElem_cons_zero]
          refine wpAnyH_take (i := 4) (oi := _) (v := ?_) rfl (by kernel_rfl) (by kernel_rfl) (by kernel_rfl) (fun _ _ _ h => h) (Or.inl ⟨by rfl, ?_⟩) (by assumption) ?_
          rotate_left
          · first | (intro w hSw; (try dsimp only at hSw); go_simp; done) | (intro w hSw; (try dsimp only at hSw); go_simp; with_reducible rfl)
          try simp only [Act.put, List.setIfInBounds_toArray, List.set_cons_zero, List.set_cons_succ, List.getElem_toArray, List.getElem_cons_succ, List.getElem_cons_zero]
          refine wpAnyH_take (i := 5) (oi := _) (v := ?_) rfl (by kernel_rfl) (by kernel_rfl) (by kernel_rfl) (fun _ _ _ h => h) (Or.inl ⟨by rfl, ?_⟩) (by assumption) ?_
          rotate_left
          · first | (intro w hSw; (try dsimp only at hSw); go_simp; done) | (intro w hSw; (try dsimp only at hSw); go_simp; with_reducible rfl)
          try simp only [Act.put, List.setIfInBounds_toArray, List.set_cons_zero, List.set_cons_succ, List.getElem_toArray, List.getElem_cons_succ, List.getElem_cons_zero]
          refine wpAnyH_take (i := 6) (oi := _) (v := ?_) rfl (by kernel_rfl) (by kernel_rfl) (by kernel_rfl) (fun _ _ _ h => h) (Or.inl ⟨by rfl, ?_⟩) (by assumption) ?_
          rotate_left
          · first | (intro w hSw; (try dsimp only at hSw); go_simp; done) | (intro w hSw; (try dsimp only at hSw); go_simp; with_reducible rfl)
          try simp only [Act.put, List.setIfInBounds_toArray, List.set_cons_zero, List.set_cons_succ, List.getElem_toArray, List.getElem_cons_succ, List.getElem_cons_zero]
          refine wpAnyH_take (i := 7) (oi := _) (v := ?_) rfl (by kernel_rfl) (by kernel_rfl) (by kernel_rfl) (fun _ _ _ h => h) (Or.inl ⟨by rfl, ?_⟩) (by assumption) ?_
          rotate_left
          · first | (intro w hSw; (try dsimp only at hSw); go_simp; done) | (intro w hSw; (try dsimp only at hSw); go_simp; with_reducible rfl)
          try simp only [Act.put, List.setIfInBounds_toArray, List.set_cons_zero, List.set_cons_succ, List.getElem_toArray, List.getElem_cons_succ, List.getElem_cons_zero]
          refine wpAnyH_take (i := 8) (oi := _) (v := ?_) rfl (by kernel_rfl) (by kernel_rfl) (by kernel_rfl) (fun _ _ _ h => h) (Or.inl ⟨by rfl, ?_⟩) (by assumption) ?_
          rotate_left
          · first | (intro w hSw; (try dsimp only at hSw); go_simp; done) | (intro w hSw; (try dsimp only at hSw); go_simp; with_reducible rfl)
          try simp only [Act.put, List.setIfInBounds_toArray, List.set_cons_zero, List.set_cons_succ, List.getElem_toArray, List.getElem_cons_succ, List.getElem_cons_zero]
          refine wpAnyH_take (i := 9) (oi := _) (v := ?_) rfl (by kernel_rfl) (by kernel_rfl) (by kernel_rfl) (fun _ _ _ h => h) (Or.inl ⟨by rfl, ?_⟩) (by assumption) ?_
          rotate_left
          · first | (intro w hSw; (try dsimp only at hSw); go_simp; done) | (intro w hSw; (try dsimp only at hSw); go_simp; with_reducible rfl)
          try simp only [Act.put, List.setIfInBounds_toArray, List.set_cons_zero, List.set_cons_succ, List.getElem_toArray, List.getElem_cons_succ, List.getElem_cons_zero]
          refine wpAnyH_ready (rs := [10]) (by kernel_rfl) (by simp) ?_
          refine AllReadyH.cons rfl (fun K hK => ?_) AllReadyH.nil
          go_simp
          refine hK.out _ _ ?_ (fun hHeld => ?_)
          · exact K10.out
          clear hK K
          refine wpAnyH_ready (rs := [11]) (by kernel_rfl) (by simp) ?_
          refine AllReadyH.cons rfl (fun K hK => ?_) AllReadyH.nil
          refine step_append_lies _ rfl (.tmp 31) (.tmp 41) 37 rfl (w.heap.size + 1) 64 i3 (.agg #[.int .i64 0, .int .i64 0]) 2 16 Try.underlying37 hi3 hd0 hd1 hd2 rfl (by decide) (.slice vsl cv.length vcap) cv.length (enCells cv) (by simp [Act.eval]) OD.out ⟨wr.heap.size, 0, none⟩ 1 1 [.int .i64 x, .int .i64 z] (by simp [Act.eval]) rfl (cell_two_new wr.drew _ _ _) (by intro u hu; simp at hu; rcases hu with rfl | rfl <;> rfl) (by decide) (by unfold maxLen; omega) (by omega) (by simp; omega) (wr.heap.size + 1) (by simp) ?_
          intro g9 cap9 w9 own9 grow9 hg9 hlt9
          have B9 := Lib.hid ((bA1 HB.out.drew (.cells #[.int .i64 x, .int .i64 z] 64) (by simpa using hsw)).grown grow9 (by simp; omega) (fun j hj => (OD.out.lt j hj).1))
          have Z9 := Lib.hid (ZD.out.kept grow9 (own_diff ZD.out OD.out (by decide)))
          have K11 := Lib.hid (show c < w9.heap.size ∧ e < w9.heap.size ∧ w9.cell? ⟨c, o + k, none⟩ = some (.int .i64 x) ∧ w9.cell? ⟨e, m, none⟩ = some (.int .i64 z) from KZ.out w9 B9.out Z9.out)
          rw [← enCells_add cv (x, z)] at own9
          have N9 : Hid (w9.ownsRow (w.heap.size + 1) 64 2 (.slice (some ⟨g9, 0, none⟩) (cv.length + 1) cap9) (cv ++ [(x, z)]).length (enCells (cv ++ [(x, z)]))) := by
            rw [List.length_append]; exact own9
          clear own9 grow9 hg9 hlt9
          refine hK.out _ _ ?_ (fun hHeld => ?_)
          · exact K11.out
          clear hK K
          refine wpAnyH_take (i := 12) (oi := _) (v := ?_) rfl (by kernel_rfl) (by kernel_rfl) (by kernel_rfl) (fun _ _ _ h => h) (Or.inl ⟨by rfl, ?_⟩) (by assumption) ?_
          rotate_left
          · first | (intro w hSw; (try dsimp only at hSw); go_simp; done) | (intro w hSw; (try dsimp only at hSw); go_simp; with_reducible rfl)
          try simp only [Act.put, List.setIfInBounds_toArray, List.set_cons_zero, List.set_cons_succ, List.getElem_toArray, List.getElem_cons_succ, List.getElem_cons_zero]
          refine wpAnyH_done (by kernel_rfl) ?_ _
          have LL := Lib.hid (show (cv ++ [(x, z)]).length ≤ 96 * k + (m + 1) by rw [List.length_append]; simp; omega)
          clear K11 K10 K0 KZ OD ZD OR OZ HB HC
          go_wp2_with fail
          go_roundw
          case rel => exact ⟨m + 1, cv ++ [(x, z)], by go_num, by omega, LL.out, CS, N9, Z9, B9⟩
          case measure => simp [intOf]; omega
        · have g2' : ¬ (m : Int) < (q : Int) := by omega
          have CE := Lib.hid (show cv = plF rs top (ids.take (k + 1)) by rw [HC.out, List.take_of_length_le (by rw [HQ.out]; omega), IS.out])
          clear HC OZ
          go_wp2
          go_roundw
          case rel => exact ⟨k + 1, cv, by go_num, by omega, CE, OR, HB⟩
          case measure => simp [intOf]; omega
    · have g1' : ¬ (k : Int) < (n : Int) := by omega
      have P := Lib.hid (own_mono OR.out (Nat.le_succ w.heap.size))
      rw [HC.out, List.take_of_length_le (show ids.length ≤ k by rw [HN.out]; omega)] at P
      clear OR HC
      go_wp2
      go_ret
      exact ⟨_, rfl, P.out, DW.out⟩

end Go.Proofs.Ytaogkdhloogmhaa
namespace Go.Proofs.Ytaogkdhloogmhaa
open Go.RowKit
set_option linter.unusedVariables false

/-- A place and its variable. -/
abbrev LNb := LPl × Int
/-- Places numbered behind `last`. -/
def nbF (last : Int) : List LPl → List LNb
  | [] => []
  | x :: r => (x, last + 1) :: nbF (last + 1) r
theorem nbF_len (l : List LPl) : ∀ last, (nbF last l).length = l.length := by
  induction l with
  | nil => intro _; rfl
  | cons x r ih => intro last; simp [nbF, ih]
theorem nbF_append (a b : List LPl) : ∀ last, nbF last (a ++ b) = nbF last a ++ nbF (last + a.length) b := by
  induction a with
  | nil => intro last; simp [nbF]
  | cons x r ih => intro last; simp only [List.cons_append, nbF, ih, List.length_cons]; congr 3; omega
theorem nbF_fst (l : List LPl) : ∀ last, (nbF last l).map (fun e => e.1) = l := by
  induction l with
  | nil => intro _; rfl
  | cons x r ih => intro last; simp [nbF, ih]
theorem nbF_at (l : List LPl) : ∀ (last : Int) (k : Nat) (h : k < l.length), (nbF last l)[k]'(by rw [nbF_len]; exact h) = (l[k], last + k + 1) := by
  induction l with
  | nil => intro _ k h; simp at h
  | cons x r ih =>
    intro last k h
    cases k with
    | zero => simp [nbF]
    | succ k =>
      simp only [nbF, List.getElem_cons_succ]
      rw [ih (last + 1) k (by simpa using h)]
      congr 1; push_cast; omega
/-- Row by row. -/
def nbsF (last : Int) : List (List LPl) → List (List LNb)
  | [] => []
  | d :: r => nbF last d :: nbsF (last + d.length) r
theorem nbsF_len (ds : List (List LPl)) : ∀ last, (nbsF last ds).length = ds.length := by
  induction ds with
  | nil => intro _; rfl
  | cons d r ih => intro last; simp [nbsF, ih]
theorem nbsF_flat (ds : List (List LPl)) : ∀ last, (nbsF last ds).flatten = nbF last ds.flatten := by
  induction ds with
  | nil => intro _; rfl
  | cons d r ih => intro last; simp only [nbsF, List.flatten_cons, ih, nbF_append]
theorem nbsF_append (a b : List (List LPl)) : ∀ last, nbsF last (a ++ b) = nbsF last a ++ nbsF (last + a.flatten.length) b := by
  induction a with
  | nil => intro last; simp [nbsF]
  | cons x r ih => intro last; simp only [List.cons_append, nbsF, ih, List.flatten_cons, List.length_append]; congr 3; omega

/-- Each row is that of its id. -/
def OfIds (ids : List Int) (bs : List (List LNb)) : Prop := bs.length = ids.length ∧ ∀ k (h : k < ids.length) (g : k < bs.length), ∀ e ∈ bs[k], e.1.1 = ids[k]
theorem OfIds.tail {id : Int} {ids : List Int} {b : List LNb} {bs : List (List LNb)} (h : OfIds (id :: ids) (b :: bs)) : OfIds ids bs :=
  ⟨by simpa using h.1, fun k hk hg => h.2 (k + 1) (by simpa using hk) (by simpa using hg)⟩
theorem OfIds.head {id : Int} {ids : List Int} {b : List LNb} {bs : List (List LNb)} (h : OfIds (id :: ids) (b :: bs)) : ∀ e ∈ b, e.1.1 = id := by
  exact h.2 0 (by simp) (by simp)
def ofId (id : Int) (l : List LNb) : List LNb := l.filter fun e => decide (e.1.1 = id)
theorem ofId_append (id : Int) (a b : List LNb) : ofId id (a ++ b) = ofId id a ++ ofId id b := by simp [ofId]
theorem ofId_all {id : Int} {b : List LNb} (h : ∀ e ∈ b, e.1.1 = id) : ofId id b = b := by
  unfold ofId; rw [List.filter_eq_self]; intro e he; simp [h e he]
theorem ofId_none {id x : Int} {b : List LNb} (h : ∀ e ∈ b, e.1.1 = id) (hx : x ≠ id) : ofId x b = [] := by
  unfold ofId; rw [List.filter_eq_nil_iff]; intro e he; rw [h e he]; simp; exact fun e => hx e.symm
theorem ofId_out (x : Int) : ∀ (ids : List Int) (bs : List (List LNb)), OfIds ids bs → x ∉ ids → ofId x bs.flatten = [] := by
  intro ids
  induction ids with
  | nil =>
    intro bs h _
    have := h.1
    rw [List.length_nil] at this
    rw [List.eq_nil_of_length_eq_zero this]; rfl
  | cons id ids ih =>
    intro bs h hx
    cases bs with
    | nil => simp [ofId]
    | cons b bs =>
      simp at hx
      rw [List.flatten_cons, ofId_append, ofId_none h.head hx.1, ih bs h.tail hx.2]; rfl
theorem ofId_in : ∀ (ids : List Int) (bs : List (List LNb)), OfIds ids bs → ids.Nodup → ids.map (fun id => ofId id bs.flatten) = bs := by
  intro ids
  induction ids with
  | nil =>
    intro bs h _
    have := h.1
    rw [List.length_nil] at this
    rw [List.eq_nil_of_length_eq_zero this]; rfl
  | cons id ids ih =>
    intro bs h hn
    cases bs with
    | nil => have := h.1; simp at this
    | cons b bs =>
      have hn2 := List.nodup_cons.1 hn
      rw [List.map_cons, List.flatten_cons, ofId_append, ofId_all h.head, ofId_out id ids bs h.tail hn2.1, List.append_nil]
      congr 1
      rw [← ih bs h.tail hn2.2]
      refine List.map_congr_left fun x hx => ?_
      rw [ih bs h.tail hn2.2, ofId_append, ofId_none h.head (fun e => hn2.1 (e ▸ hx)), List.nil_append]
theorem ofId_at (ids : List Int) (bs : List (List LNb)) (h : OfIds ids bs) (hn : ids.Nodup) (k : Nat) (hk : k < ids.length) (hg : k < bs.length) : ofId ids[k] bs.flatten = bs[k] := by
  have := ofId_in ids bs h hn
  have e : (ids.map (fun id => ofId id bs.flatten))[k]'(by simpa using hk) = bs[k] := by simp only [this]
  simpa using e

/-- No two of a row. -/
def twoF : List Int → List (List Int)
  | [] => []
  | x :: r => r.map (fun y => [-x, -y]) ++ twoF r
/-- No two of one id. -/
def twoS : List LNb → List (List Int)
  | [] => []
  | x :: r => (ofId x.1.1 r).map (fun y => [-x.2, -y.2]) ++ twoS r
theorem twoS_row {id : Int} (rest : List LNb) (hr : ofId id rest = []) : ∀ (b : List LNb), (∀ e ∈ b, e.1.1 = id) → twoS (b ++ rest) = twoF (b.map fun e => e.2) ++ twoS rest := by
  intro b
  induction b with
  | nil => intro _; rfl
  | cons x b ih =>
    intro h
    have hx := h x (by simp)
    have hb : ∀ e ∈ b, e.1.1 = id := fun e he => h e (by simp [he])
    simp only [List.cons_append, twoS, List.map_cons, twoF, ih hb]
    rw [hx, ofId_append, ofId_all hb, hr, List.append_nil, List.map_map, List.append_assoc]
    rfl
theorem twoS_rows : ∀ (ids : List Int) (bs : List (List LNb)), OfIds ids bs → ids.Nodup → twoS bs.flatten = bs.flatMap fun b => twoF (b.map fun e => e.2) := by
  intro ids
  induction ids with
  | nil =>
    intro bs h _
    have := h.1
    rw [List.length_nil] at this
    rw [List.eq_nil_of_length_eq_zero this]; rfl
  | cons id ids ih =>
    intro bs h hn
    cases bs with
    | nil => rfl
    | cons b bs =>
      have hn2 := List.nodup_cons.1 hn
      rw [List.flatten_cons, twoS_row _ (ofId_out id ids bs h.tail hn2.1) b h.head, ih bs h.tail hn2.2]; rfl

/-- Those of two rows that may not stand beside each other. -/
def besF (ps : List LPr) (es bs : List LNb) : List (List Int) := es.flatMap fun x => bs.flatMap fun y => if mayL ps x.1.1 x.1.2 y.1.1 y.1.2 = true then [] else [[-x.2, -y.2]]
/-- One pair's, by the variables. -/
def besS (ps : List LPr) (l : List LNb) (p : LPr) : List (List Int) := l.flatMap fun x => l.flatMap fun y => if x.1.1 = p.1 ∧ y.1.1 = p.2.1 ∧ mayL ps p.1 x.1.2 p.2.1 y.1.2 = false then [[-x.2, -y.2]] else []
theorem flatMap_of (id : Int) (f : LNb → List (List Int)) : ∀ l : List LNb, (l.flatMap fun x => if x.1.1 = id then f x else []) = (ofId id l).flatMap f := by
  intro l
  induction l with
  | nil => rfl
  | cons x r ih =>
    rw [List.flatMap_cons, ih]
    by_cases h : x.1.1 = id
    · rw [if_pos h]; simp [ofId, h]
    · rw [if_neg h]; simp [ofId, h]
theorem flatMap_cong {α β : Type} {f g : α → List β} : ∀ l : List α, (∀ x ∈ l, f x = g x) → l.flatMap f = l.flatMap g := by
  intro l
  induction l with
  | nil => intro _; rfl
  | cons x r ih => intro h; rw [List.flatMap_cons, List.flatMap_cons, h x (by simp), ih (fun y hy => h y (by simp [hy]))]
theorem besS_is (ps : List LPr) (l : List LNb) (p : LPr) : besS ps l p = besF ps (ofId p.1 l) (ofId p.2.1 l) := by
  unfold besS besF
  rw [← flatMap_of p.1 (fun x => (ofId p.2.1 l).flatMap fun y => if mayL ps x.1.1 x.1.2 y.1.1 y.1.2 = true then [] else [[-x.2, -y.2]])]
  refine flatMap_cong l fun x hx => ?_
  clear hx
  by_cases h : x.1.1 = p.1
  · rw [if_pos h, ← flatMap_of p.2.1]
    refine flatMap_cong l fun y _ => ?_
    by_cases g : y.1.1 = p.2.1
    · rw [if_pos g, h, g]
      cases mayL ps p.1 x.1.2 p.2.1 y.1.2 <;> simp
    · rw [if_neg g, if_neg]; exact fun c => g c.2.1
  · rw [if_neg h]
    induction l with
    | nil => rfl
    | cons y r ih => rw [List.flatMap_cons, ih, if_neg (fun c => h c.1)]; rfl
/-- One pair's, by the rows. -/
noncomputable def besI (ps : List LPr) (ids : List Int) (bs : List (List LNb)) (p : LPr) : List (List Int) :=
  if p.1 ∈ ids ∧ p.2.1 ∈ ids then besF ps (bs.getD (ids.idxOf p.1) []) (bs.getD (ids.idxOf p.2.1) []) else []
theorem ofId_mem (ids : List Int) (bs : List (List LNb)) (h : OfIds ids bs) (hn : ids.Nodup) (x : Int) (hx : x ∈ ids) : ofId x bs.flatten = bs.getD (ids.idxOf x) [] := by
  have hk := List.idxOf_lt_length_iff.2 hx
  have hg : ids.idxOf x < bs.length := by rw [h.1]; exact hk
  have := ofId_at ids bs h hn (ids.idxOf x) hk hg
  rw [List.getElem_idxOf] at this
  rw [this]; simp [List.getD, hg]
theorem besI_is (ps : List LPr) (ids : List Int) (bs : List (List LNb)) (h : OfIds ids bs) (hn : ids.Nodup) (p : LPr) : besI ps ids bs p = besS ps bs.flatten p := by
  rw [besS_is]
  unfold besI
  by_cases h1 : p.1 ∈ ids
  · by_cases h2 : p.2.1 ∈ ids
    · rw [if_pos ⟨h1, h2⟩, ofId_mem ids bs h hn _ h1, ofId_mem ids bs h hn _ h2]
    · rw [if_neg (fun c => h2 c.2), ofId_out _ ids bs h h2]
      unfold besF
      induction ofId p.1 bs.flatten with
      | nil => rfl
      | cons x r ih => rw [List.flatMap_cons, ← ih]; rfl
  · rw [if_neg (fun c => h1 c.1), ofId_out _ ids bs h h1]; rfl

/-- The clauses, by the rows. -/
noncomputable def cnfI (ps : List LPr) (ids : List Int) (bs : List (List LNb)) : List (List Int) :=
  bs.map (fun b => b.map fun e => e.2) ++ (bs.flatMap (fun b => twoF (b.map fun e => e.2)) ++ ps.flatMap (besI ps ids bs))
/-- The clauses, by the variables. -/
def cnfS (ps : List LPr) (ids : List Int) (l : List LNb) : List (List Int) :=
  ids.map (fun id => (ofId id l).map fun e => e.2) ++ (twoS l ++ ps.flatMap (besS ps l))
theorem cnf_same (ps : List LPr) (ids : List Int) (bs : List (List LNb)) (h : OfIds ids bs) (hn : ids.Nodup) : cnfI ps ids bs = cnfS ps ids bs.flatten := by
  unfold cnfI cnfS
  rw [twoS_rows ids bs h hn, show besI ps ids bs = besS ps bs.flatten from funext (besI_is ps ids bs h hn)]
  congr 1
  conv => lhs; rw [← ofId_in ids bs h hn]
  rw [List.map_map]
  rfl

/-- The rows of choices. -/
theorem ofIds_ch (rs : List LSt) (top : Int) : ∀ (ids : List Int) (last : Int), OfIds ids (nbsF last (ids.map (chF rs top))) := by
  intro ids
  induction ids with
  | nil => intro last; exact ⟨rfl, fun k h => by simp at h⟩
  | cons id ids ih =>
    intro last
    rw [List.map_cons, nbsF]
    have t := ih (last + (chF rs top id).length)
    refine ⟨by simpa using t.1, fun k hk hg e he => ?_⟩
    cases k with
    | zero =>
      simp only [List.getElem_cons_zero] at he ⊢
      have : e.1 ∈ (nbF last (chF rs top id)).map (fun e => e.1) := List.mem_map.2 ⟨e, he, rfl⟩
      rw [nbF_fst] at this
      unfold chF at this
      obtain ⟨c, _, hc⟩ := List.mem_map.1 this
      rw [← hc]
    | succ k =>
      simp only [List.getElem_cons_succ] at he ⊢
      exact t.2 k (by simpa using hk) (by simpa using hg) e he
theorem cnf_both (rs : List LSt) (ps : List LPr) (top : Int) (ids : List Int) (hn : ids.Nodup) : cnfI ps ids (nbsF 0 (ids.map (chF rs top))) = cnfS ps ids (nbF 0 (plF rs top ids)) := by
  rw [cnf_same ps ids _ (ofIds_ch rs top ids 0) hn, nbsF_flat]
  congr 2
end Go.Proofs.Ytaogkdhloogmhaa
namespace Go.Proofs.Ytaogkdhloogmhaa
open Go.RowKit
set_option linter.unusedVariables false

/-- A clause as it lies: its slice, its literals. -/
abbrev LCl := Value × List Int
abbrev CV (vars : Int) (sl : Option Addr) (n cap : Nat) : Value := .agg #[.int .i64 vars, .slice sl n cap]
/-- The slices lie from cell o of block c on. -/
def ClAt (w : World) (c o : Nat) (cs : List LCl) : Prop := c < w.heap.size ∧ ∀ i (h : i < cs.length), w.cell? ⟨c, o + i, none⟩ = some cs[i].1
def ClIn (w : World) (r : LCl) : Prop := ∃ sl cap, r.1 = .slice sl r.2.length cap ∧ Ints w sl r.2 ∧ r.2.length ≤ maxLen
/-- A slice of clauses. -/
structure Cls (w : World) (sl : Option Addr) (cs : List LCl) : Prop where
  row : cs = [] ∨ ∃ c o, sl = some ⟨c, o, none⟩ ∧ ClAt w c o cs
  each : ∀ r ∈ cs, ClIn w r
theorem ClAt.below {w w' : World} {c o : Nat} {cs : List LCl} (h : ClAt w c o cs) (hb : Below w.heap.size w w') : ClAt w' c o cs :=
  ⟨Nat.lt_of_lt_of_le h.1 hb.size, fun i hi => (hb.cell h.1).trans (h.2 i hi)⟩
theorem ClIn.below {w w' : World} {r : LCl} (h : ClIn w r) (hb : Below w.heap.size w w') : ClIn w' r := by
  obtain ⟨sl, cap, e, hi, hl⟩ := h
  exact ⟨sl, cap, e, hi.below hb, hl⟩
theorem Cls.below {w w' : World} {sl : Option Addr} {cs : List LCl} (h : Cls w sl cs) (hb : Below w.heap.size w w') : Cls w' sl cs := by
  refine ⟨?_, fun r hr => (h.each r hr).below hb⟩
  rcases h.row with h | ⟨c, o, e, h⟩
  · exact .inl h
  · exact .inr ⟨c, o, e, h.below hb⟩
theorem Cls.at {w : World} {sl : Option Addr} {cs : List LCl} (h : Cls w sl cs) {k : Nat} (hk : k < cs.length) : ∃ c o, sl = some ⟨c, o, none⟩ ∧ ClAt w c o cs := by
  rcases h.row with e | h
  · rw [e] at hk; simp at hk
  · exact h
/-- The literals alone. -/
def bareC (cs : List LCl) : List (List Int) := cs.map fun r => r.2
/-- All literals of all clauses. -/
def totC (cs : List LCl) : Nat := (cs.map fun r => r.2.length).sum
theorem totC_mem (cs : List LCl) (r : LCl) (h : r ∈ cs) : r.2.length ≤ totC cs := by
  induction cs with
  | nil => cases h
  | cons a l ih =>
    rcases List.mem_cons.1 h with rfl | h
    · simp [totC]
    · have := ih h; simp only [totC, List.map_cons, List.sum_cons] at *; omega

/-- A row of slices, the first of them written. -/
def RowV (w : World) (b : Nat) (n : Nat) (ts : List Value) : Prop :=
  ∃ vs : Array Value, w.heap[b]? = some (.cells vs 27) ∧ vs.size = n ∧ ∀ i (h : i < ts.length), vs[i]? = some ts[i]
theorem RowV.lt {w : World} {b n : Nat} {ts : List Value} (h : RowV w b n ts) : b < w.heap.size := by
  obtain ⟨vs, h1, _⟩ := h
  exact (Array.getElem?_eq_some_iff.1 h1).1
theorem RowV.below {w w' : World} {b n : Nat} {ts : List Value} (h : RowV w b n ts) (hb : Below w.heap.size w w') : RowV w' b n ts := by
  have hl := h.lt
  obtain ⟨vs, h1, h2, h3⟩ := h
  exact ⟨vs, (hb.block b hl).trans h1, h2, h3⟩
theorem RowV.there {w : World} {b n : Nat} {ts : List Value} (h : RowV w b n ts) (j : Nat) (hj : j < n) : (∃ v, w.cell? ⟨b, j, none⟩ = some v) ∧ w.frozen? ⟨b, j, none⟩ = false := by
  obtain ⟨vs, h1, h2, h3⟩ := h
  exact ⟨⟨vs[j]'(by omega), by simp [World.cell?, h1, show j < vs.size by omega]⟩, by simp [World.frozen?, h1]⟩
theorem RowV.step {w : World} {b n : Nat} {ts : List Value} (h : RowV w b n ts) (hl : ts.length < n) (x : Value) (k : Nat) (hk : k = ts.length) :
    RowV (w.setCell ⟨b, k, none⟩ x) b n (ts ++ [x]) := by
  subst hk
  obtain ⟨vs, h1, h2, h3⟩ := h
  refine ⟨_, heap_setCell_same w b _ vs 27 x h1, by simp [h2], fun i hi => ?_⟩
  simp only [List.length_append, List.length_singleton] at hi
  by_cases e : i < ts.length
  · rw [Array.getElem?_setIfInBounds_ne (by omega), h3 i e, List.getElem_append_left e]
  · have e' : i = ts.length := by omega
    subst e'
    rw [Array.getElem?_setIfInBounds_self_of_lt (by omega)]
    simp
theorem info40 : (Try.prog.info? 27).map (fun i => (i.zero, i.size, i.bytes)) = some (some (.slice none 0 0), 1, 24) := by kernel_rfl
/-- A clause that has memory of its own, not in block b. -/
def ClOut (b : Nat) (w : World) (r : LCl) : Prop := ∃ g, r.1 = .slice (some ⟨g, 0, none⟩) r.2.length r.2.length ∧ Ints w (some ⟨g, 0, none⟩) r.2 ∧ b < g ∧ r.2.length ≤ 1048576
theorem ClOut.below {b : Nat} {w w' : World} {r : LCl} (h : ClOut b w r) (hb : Below w.heap.size w w') : ClOut b w' r := by
  obtain ⟨g, e, hi, hg, hl⟩ := h
  exact ⟨g, e, hi.below hb, hg, hl⟩
theorem ClOut.set {b : Nat} {w : World} {r : LCl} (h : ClOut b w r) {b' : Nat} (hb : b' ≤ b) (i : Nat) (v : Value) : ClOut b (w.setCell ⟨b', i, none⟩ v) r := by
  obtain ⟨g, e, hi, hg, hl⟩ := h
  exact ⟨g, e, hi.set (by omega) i v, hg, hl⟩
theorem ClOut.din {b : Nat} {w : World} {r : LCl} (h : ClOut b w r) : ClIn w r := by
  obtain ⟨g, e, hi, hg, hl⟩ := h
  exact ⟨_, _, e, hi, by unfold maxLen; omega⟩
theorem RowV.cls {w : World} {b n : Nat} {cs : List LCl} (h : RowV w b n (cs.map fun r => r.1)) (hd : ∀ r ∈ cs, ClOut b w r) : Cls w (some ⟨b, 0, none⟩) cs := by
  refine ⟨.inr ⟨b, 0, rfl, h.lt, fun i hi => ?_⟩, fun r hr => (hd r hr).din⟩
  obtain ⟨vs, h1, h2, h3⟩ := h
  have := h3 i (by simpa using hi)
  simp only [List.getElem_map] at this
  simp [World.cell?, h1, this]

end Go.Proofs.Ytaogkdhloogmhaa
namespace Go.Proofs.Ytaogkdhloogmhaa
open Go.RowKit
set_option linter.unusedVariables false

def hdC (cs : List LCl) : List Value := cs.map fun r => r.1
theorem hdC_add (a b : List LCl) : hdC (a ++ b) = hdC a ++ hdC b := by simp [hdC]
/-- Two rows of their own. -/
def Apart (r s : LCl) : Prop := r.1.ownBlock = none ∨ r.1.ownBlock ≠ s.1.ownBlock
structure OwC (w : World) (B : Nat) (v : Value) (cs : List LCl) : Prop where
  row : w.ownsRow B 27 1 v cs.length (hdC cs)
  each : ∀ r ∈ cs, w.ownsRow B 2 1 r.1 r.2.length (valsZ r.2)
  diff : cs.Pairwise Apart
theorem OwC.nil (w : World) (B : Nat) : OwC w B (.slice none 0 0) [] := ⟨⟨rfl, .inl ⟨rfl, rfl⟩⟩, (fun r h => by cases h), List.Pairwise.nil⟩
theorem OwC.below {w w' : World} {B : Nat} {v : Value} {cs : List LCl} (h : OwC w B v cs) (hb : Below w.heap.size w w') : OwC w' B v cs :=
  ⟨own_below h.row hb, fun r hr => own_below (h.each r hr) hb, h.diff⟩
theorem OwC.mono {w : World} {B B' : Nat} {v : Value} {cs : List LCl} (h : OwC w B v cs) (hB : B' ≤ B) : OwC w B' v cs :=
  ⟨own_mono h.row hB, fun r hr => own_mono (h.each r hr) hB, h.diff⟩
theorem own_len {w : World} {B : Nat} {e : TypeId} {m : Nat} {v : Value} {n : Nat} {xs : List Value} (h : w.ownsRow B e m v n xs) : n ≤ maxLen := by
  rcases h.2 with ⟨_, h0⟩ | ⟨g, cap, cur, _, _, _, h1, h2, _⟩
  · rw [h0]; exact Nat.zero_le _
  · exact Nat.le_trans h1 h2
theorem OwC.cls {w : World} {B : Nat} {v : Value} {cs : List LCl} (h : OwC w B v cs) : ∃ sl cap, v = .slice sl cs.length cap ∧ Cls w sl cs := by
  have each : ∀ r ∈ cs, ClIn w r := fun r hr => by
    obtain ⟨sl, cap, e, i⟩ := own_ints (h.each r hr)
    exact ⟨sl, cap, e, i, own_len (h.each r hr)⟩
  have hr := h.row
  rcases hr.2 with ⟨hv, h0⟩ | ⟨g, cap, cur, hv, hb, hg, _⟩
  · exact ⟨none, 0, by rw [hv, h0], .inl (List.eq_nil_of_length_eq_zero h0), each⟩
  · refine ⟨_, cap, hv, .inr ⟨g, 0, rfl, (Array.getElem?_eq_some_iff.1 hg).1, fun i hi => ?_⟩, each⟩
    subst hv
    rw [Nat.zero_add, hr.cellAt i (by omega)]
    simp [hdC, hi]
theorem OwC.v {w : World} {B : Nat} {v : Value} {cs : List LCl} (h : OwC w B v cs) : ∃ sl cap, v = .slice sl cs.length cap := own_v h.row
/-- The rows stay where only the row of slices grows. -/
theorem OwC.add {w wa w9 : World} {B : Nat} {v v9 : Value} {cs : List LCl} {r : LCl} (h : OwC w B v cs) (hb : Below w.heap.size w wa) (hr : wa.ownsRow B 2 1 r.1 r.2.length (valsZ r.2)) (hf : ∀ j, r.1.ownBlock = some j → ∀ s ∈ cs, s.1.ownBlock ≠ some j) (hg : wa.grownBy w9 v.ownBlock) (own9 : w9.ownsRow B 27 1 v9 (cs.length + 1) (hdC cs ++ [r.1])) : OwC w9 B v9 (cs ++ [r]) := by
  have ha := h.below hb
  refine ⟨by rw [List.length_append, hdC_add]; exact own9, fun s hs => ?_, ?_⟩
  · rcases List.mem_append.1 hs with hs | hs
    · exact (ha.each s hs).kept hg (own_diff (ha.each s hs) ha.row (by decide))
    · rw [List.mem_singleton.1 hs]
      exact hr.kept hg (own_diff hr ha.row (by decide))
  · refine List.pairwise_append.2 ⟨h.diff, List.pairwise_singleton _ _, fun s hs t ht => ?_⟩
    rw [List.mem_singleton.1 ht]
    cases e : r.1.ownBlock with
    | none => cases e2 : s.1.ownBlock with
      | none => exact .inl e2
      | some j => exact .inr (by rw [e, e2]; simp)
    | some j => exact .inr (by rw [e]; exact hf j e s hs)
/-- One more, its row new. -/
theorem OwC.new {w wa w9 : World} {B : Nat} {v v9 : Value} {cs : List LCl} {r : LCl} (h : OwC w B v cs) (hb : Below w.heap.size w wa) (hr : wa.ownsRow B 2 1 r.1 r.2.length (valsZ r.2)) (hf : ∀ j, r.1.ownBlock = some j → w.heap.size ≤ j) (hg : wa.grownBy w9 v.ownBlock) (own9 : w9.ownsRow B 27 1 v9 (cs.length + 1) (hdC cs ++ [r.1])) : OwC w9 B v9 (cs ++ [r]) :=
  h.add hb hr (fun j hj s hs e => by have := hf j hj; have := ((h.each s hs).lt j e).2; omega) hg own9
/-- Others put behind them; these were made later. -/
theorem OwC.join {w wa w9 : World} {B : Nat} {v v2 v9 : Value} {cs ds : List LCl} (h : OwC w B v cs) (hb : Below w.heap.size w wa) (h2 : OwC wa w.heap.size v2 ds) (hB : B ≤ w.heap.size) (hg : wa.grownBy w9 v.ownBlock) (own9 : w9.ownsRow B 27 1 v9 (cs ++ ds).length (hdC cs ++ hdC ds)) : OwC w9 B v9 (cs ++ ds) := by
  have ha := h.below hb
  refine ⟨by rw [hdC_add]; exact own9, fun s hs => ?_, ?_⟩
  · rcases List.mem_append.1 hs with hs | hs
    · exact (ha.each s hs).kept hg (own_diff (ha.each s hs) ha.row (by decide))
    · exact own_mono ((h2.each s hs).kept hg (own_diff (h2.each s hs) ha.row (by decide))) hB
  · refine List.pairwise_append.2 ⟨h.diff, h2.diff, fun s hs t ht => ?_⟩
    cases e : s.1.ownBlock with
    | none => exact .inl e
    | some j =>
      refine .inr fun e2 => ?_
      rw [e] at e2
      have := ((h.each s hs).lt j e).2
      have := ((h2.each t ht).lt j e2.symm).1
      omega
theorem cell_at_new (w : World) (a : Value) (t : TypeId) : ∀ (j : Nat) (u : Value), [a][j]? = some u → (w.alloc (.cells #[a] t)).cell? ((⟨w.heap.size, 0, none⟩ : Addr).add j) = some u := by
  intro j u h
  cases j with
  | zero => simp at h; subst h; rw [at_add]; unfold World.cell?; rw [show (w.alloc (.cells #[a] t)).heap[w.heap.size]? = some (.cells #[a] t) from new_at _ _]; rfl
  | succ j => simp at h
/-- A row of two that is written out. -/
theorem own_two (w : World) (a b : Int) : (w.alloc (.cells #[.int .i64 a, .int .i64 b] 2)).ownsRow w.heap.size 2 1 (.slice (some ⟨w.heap.size, 0, none⟩) 2 2) ([a, b] : List Int).length (valsZ [a, b]) :=
  ⟨rfl, .inr ⟨w.heap.size, 2, _, rfl, Nat.le_refl _, new_at _ _, Nat.le_refl _, by unfold maxLen; omega, rfl, rfl⟩⟩
/-- The clauses as lists. -/
theorem bareC_add (a b : List LCl) : bareC (a ++ b) = bareC a ++ bareC b := by simp [bareC]
end Go.Proofs.Ytaogkdhloogmhaa
namespace Go.Proofs.Ytaogkdhloogmhaa
open Go.RowKit
set_option linter.unusedVariables false

/-- Numbers behind `last`. -/
def numF (last : Int) (n : Nat) : List Int := (List.range n).map fun i : Nat => last + (i : Int) + 1
theorem numF_len (last : Int) (n : Nat) : (numF last n).length = n := by simp [numF]
theorem numF_step (last : Int) (n : Nat) : numF last (n + 1) = numF last n ++ [last + (n : Int) + 1] := by simp [numF, List.range_succ]
theorem nbF_snd (l : List LPl) (last : Int) : (nbF last l).map (fun e => e.2) = numF last l.length := by
  apply List.ext_getElem
  · simp [nbF_len, numF]
  · intro k h1 h2
    have hk : k < l.length := by simpa [nbF_len] using h1
    simp only [List.getElem_map, nbF_at l last k hk]
    simp [numF]
/-- Row by row. -/
def numR (rows : List LRow) : List (List Int) := (nbsF 0 (rows.map fun r => r.2)).map fun b => b.map fun e => e.2
theorem flat_len (rows : List LRow) : (rows.map fun r => r.2).flatten = flatR rows := by unfold flatR; rw [List.flatMap_def]
theorem numR_step (rows : List LRow) (k : Nat) (h : k < rows.length) : numR (rows.take (k + 1)) = numR (rows.take k) ++ [numF ((flatR (rows.take k)).length : Nat) rows[k].2.length] := by
  unfold numR
  rw [List.take_succ_eq_append_getElem h, List.map_append, nbsF_append, List.map_append, flat_len]
  simp only [List.map_cons, List.map_nil, nbsF, nbF_snd, Int.zero_add]
theorem valsZ_add (a b : List Int) : valsZ (a ++ b) = valsZ a ++ valsZ b := by simp [valsZ]

set_option maxRecDepth 100000 in
set_option maxHeartbeats 4000000 in
/-- impl.varsOf. -/
theorem vo_any (sl : Option Addr) (cap : Nat) (rows : List LRow) (w : World) (hn : rows.length ≤ 400) (hT : (flatR rows).length ≤ 1048576) (hz : Rws w sl rows) :
    Calls Try.prog 26 #[.slice sl rows.length cap] w fun e w' => ∃ v cs, e = .returned v ∧ OwC w' w.heap.size v cs ∧ bareC cs = numR rows ∧ Below w.heap.size w w' := by
  obtain ⟨i2, hi2, hb0, hb1, hb2⟩ := info_parts info2'
  obtain ⟨i4, hi4, hd0, hd1, hd2⟩ := info_parts info40
  have HZ := Lib.hid hz
  have FL := Lib.hid (fun k => flatR_le rows k)
  clear hz
  generalize hN : rows.length = n at *
  have HN := Lib.hid hN
  clear hN
  go_enter Try.func26, Try.ntmps26
  go_wp2
  go_loopw [3, 4, 10] (fun v l i wr => ∃ (k q : Nat) (cs : List LCl), i = .int .i64 k ∧ k ≤ n ∧ l = .int .i64 q ∧ q ≤ 1048576 ∧ Hid (q = (flatR (rows.take k)).length) ∧ Hid (OwC wr w.heap.size v cs) ∧ cs.length ≤ k ∧ Hid (bareC cs = numR (rows.take k)) ∧ Hid (Below w.heap.size w wr)) (fun _ _ i _ => n - (intOf i).toNat)
  case atStart => exact ⟨0, 0, [], rfl, Nat.zero_le _, rfl, Nat.zero_le _, rfl, OwC.nil _ _, Nat.zero_le _, rfl, Below.refl _ _⟩
  case round =>
    obtain ⟨k, q, cs, rfl, hk, rfl, hq, HQ, OC, hcl, BC, HB⟩ := hrel
    have hk0 : (0 : Int) ≤ (k : Int) := by omega
    by_cases g1 : k < n
    · have g1' : (k : Int) < (n : Int) := by omega
      have hlt : k < rows.length := by rw [HN.out]; exact g1
      have RW := HZ.out.below HB.out
      obtain ⟨c, rfl, cl, hcs⟩ : ∃ c, sl = some ⟨c, 0, none⟩ ∧ c < wr.heap.size ∧ ∀ i (h : i < rows.length), wr.cell? ⟨c, i, none⟩ = some rows[i].1 := by
        rcases RW.row with e | h
        · rw [e] at hlt; simp at hlt
        · exact h
      have hc := hcs k hlt
      obtain ⟨s1, k1, v1, -⟩ := RW.each rows[k] (List.getElem_mem hlt)
      rw [v1] at hc
      have QN := Lib.hid (show q + rows[k].2.length = (flatR (rows.take (k + 1))).length by rw [flatR_step rows k hlt, List.length_append, HQ.out])
      have hq2 : q + rows[k].2.length ≤ 1048576 := by rw [QN.out]; have := FL.out (k + 1); omega
      have BS := Lib.hid (show numR (rows.take (k + 1)) = bareC cs ++ [numF (q : Nat) rows[k].2.length] by rw [numR_step rows k hlt, BC.out, HQ.out])
      clear hcs v1 RW BC HQ
      generalize rows[k].2.length = r at *
      clear hlt
      obtain ⟨vsl, vcap, rfl⟩ := OC.out.v
      obtain ⟨w1, hw1⟩ : ∃ w1, w1 = wr := ⟨_, rfl⟩
      rw [← hw1] at OC HB cl hc ⊢
      clear hw1
      go_wp2
      go_loopw [4, 7, 16] (fun l v i wq => ∃ m : Nat, i = .int .i64 m ∧ m ≤ r ∧ l = .int .i64 ((q + m : Nat) : Int) ∧ Hid (wq.ownsRow w1.heap.size 2 1 v m (valsZ (numF (q : Nat) m))) ∧ Hid (Below w1.heap.size w1 wq)) (fun _ _ i _ => r - (intOf i).toNat)
      case atStart => exact ⟨0, rfl, Nat.zero_le _, rfl, ⟨rfl, .inl ⟨rfl, rfl⟩⟩, Below.refl _ _⟩
      case round =>
        obtain ⟨m, rfl, hm, rfl, OR, HB2⟩ := hrel
        have hm0 : (0 : Int) ≤ (m : Int) := by omega
        by_cases g2 : m < r
        · have g2' : (m : Int) < (r : Int) := by omega
          have hqm : ((q + m : Nat) : Int) ≤ 1048576 := by omega
          have hqm0 : (0 : Int) ≤ ((q + m : Nat) : Int) := by omega
          have FS := Lib.hid (show valsZ (numF (q : Nat) m) ++ [.int .i64 (((q + m : Nat) : Int) + 1)] = valsZ (numF (q : Nat) (m + 1)) by rw [numF_step, valsZ_add]; simp [valsZ])
          have EQ := Lib.hid (show ((q + m : Nat) : Int) + 1 = ((q + (m + 1) : Nat) : Int) by omega)
          generalize ((q + m : Nat) : Int) = qm at *
          obtain ⟨osl, ocap, rfl⟩ := own_v OR.out
          have OL := Lib.hid (show ∀ j, (Value.slice osl m ocap).ownBlock = some j → w1.heap.size ≤ j from fun j hj => (OR.out.lt j hj).1)
          have hks := HB2.out.size
          generalize valsZ (numF (q : Nat) m) = xs at *
          go_wp2_with (first | (at_builtin; refine wpList_append_lies _ rfl (.tmp 20) (.tmp 22) 27 rfl w1.heap.size 2 i2 (.int .i64 0) 1 8 Try.underlying27 hi2 hb0 hb1 hb2 rfl (by decide) _ _ _ rfl (OR.out.alloc _) ⟨wr.heap.size, 0, none⟩ 1 1 [.int .i64 (qm + 1)] rfl rfl (cell_one_new _ _ _) (by intro u hu; simp at hu; subst hu; rfl) (by decide) (by unfold maxLen; omega) (by omega) (by simp; omega) (wr.heap.size + 1) (by simp) ?_))
          intro g9 cap9 w9 own9 grow9 hg9 hlt9
          rw [FS.out] at own9
          have O9 := Lib.hid own9
          have B9 := Lib.hid ((bA HB2.out (.cells #[.int .i64 (qm + 1)] 2)).grown grow9 (by simp; omega) (fun j hj => OL.out j hj))
          clear own9 grow9 hg9 hlt9 OR HB2 OL FS
          go_wp2
          go_roundw
          case rel => exact ⟨m + 1, by go_num, by omega, by rw [EQ.out], O9, B9⟩
          case measure => simp [intOf]; omega
        · have g2' : ¬ (m : Int) < (r : Int) := by omega
          have em : m = r := by omega
          subst em
          have NL := Lib.hid (numF_len (q : Nat) m)
          obtain ⟨osl, ocap, rfl⟩ := own_v OR.out
          have O1 : Hid (wr.ownsRow w1.heap.size 2 1 (.slice osl m ocap) (numF (q : Nat) m).length (valsZ (numF (q : Nat) m))) := by rw [NL.out]; exact OR.out
          have hks := HB2.out.size
          have hks0 := HB.out.size
          have CV := Lib.hid ((OC.out.below HB2.out).row.alloc (.cells #[.slice osl m ocap] 27))
          have OL := Lib.hid (show ∀ j, (Value.slice vsl cs.length vcap).ownBlock = some j → w.heap.size ≤ j from fun j hj => (OC.out.row.lt j hj).1)
          have hcl2 : cs.length ≤ 400 := by omega
          clear OR
          go_wp2_with (first | (at_builtin; refine wpList_append_lies _ rfl (.tmp 25) (.tmp 27) 31 rfl w.heap.size 27 i4 (.slice none 0 0) 1 24 Try.underlying31 hi4 hd0 hd1 hd2 rfl (by decide) _ _ _ rfl CV.out ⟨wr.heap.size, 0, none⟩ 1 1 [.slice osl m ocap] rfl rfl (cell_at_new _ _ _) (by intro u hu; simp at hu; subst hu; rfl) (by decide) (by unfold maxLen; omega) (by omega) (by simp; omega) (wr.heap.size + 1) (by simp) ?_))
          intro g9 cap9 w9 own9 grow9 hg9 hlt9
          have BA := Lib.hid (bA HB2.out (.cells #[.slice osl m ocap] 27))
          have N9 : Hid (OwC w9 w.heap.size (.slice (some ⟨g9, 0, none⟩) (cs.length + 1) cap9) (cs ++ [(.slice osl m ocap, numF (q : Nat) m)])) :=
            OC.out.new BA.out (own_mono (O1.out.alloc _) hks0) (fun j hj => (O1.out.lt j hj).1) grow9 own9
          have B9 := Lib.hid ((bA (bT HB.out HB2.out) (.cells #[.slice osl m ocap] 27)).grown grow9 (by simp; omega) (fun j hj => OL.out j hj))
          have BN : Hid (bareC (cs ++ [(.slice osl m ocap, numF (q : Nat) m)]) = numR (rows.take (k + 1))) := by rw [BS.out, bareC_add]; rfl
          have LN : (cs ++ [((Value.slice osl m ocap, numF (q : Nat) m) : LCl)]).length ≤ k + 1 := by rw [List.length_append]; simp; omega
          clear own9 grow9 hg9 hlt9 CV OL BA O1 OC HB2 NL
          generalize cs ++ [((Value.slice osl m ocap, numF (q : Nat) m) : LCl)] = cs9 at *
          go_wp2
          go_roundw
          case rel => exact ⟨k + 1, q + m, cs9, by go_num, by omega, rfl, hq2, QN, N9, LN, BN, B9⟩
          case measure => simp [intOf]; omega
    · have g1' : ¬ (k : Int) < (n : Int) := by omega
      have P := Lib.hid (show bareC cs = numR rows by rw [BC.out, List.take_of_length_le (by rw [HN.out]; omega)])
      clear BC
      go_wp2
      go_ret
      exact ⟨_, rfl, cs, OC.out, P.out, HB.out⟩
end Go.Proofs.Ytaogkdhloogmhaa
namespace Go.Proofs.Ytaogkdhloogmhaa
open Go.RowKit
set_option linter.unusedVariables false

def VarB (zs : List Int) : Prop := ∀ z ∈ zs, 0 ≤ z ∧ z ≤ 1048576
theorem cell_at_new' (w : World) (o : Obj) (a : Value) (t : TypeId) : ∀ (j : Nat) (u : Value), [a][j]? = some u → ((w.alloc o).alloc (.cells #[a] t)).cell? ((⟨w.heap.size + 1, 0, none⟩ : Addr).add j) = some u := by
  have := cell_at_new (w.alloc o) a t
  rwa [show (w.alloc o).heap.size = w.heap.size + 1 by simp] at this

set_option maxRecDepth 100000 in
set_option maxHeartbeats 4000000 in
/-- impl.notTwo. -/
theorem nt_any (sl : Option Addr) (cap : Nat) (zs : List Int) (w : World) (hn : zs.length ≤ 1000) (hcap : zs.length ≤ cap) (hv : VarB zs) (hz : Ints w sl zs) :
    Calls Try.prog 27 #[.slice sl zs.length cap] w fun e w' => ∃ v cs, e = .returned v ∧ OwC w' w.heap.size v cs ∧ bareC cs = twoF zs ∧ Below w.heap.size w w' := by
  obtain ⟨i4, hi4, hd0, hd1, hd2⟩ := info_parts info40
  have HZ := Lib.hid hz
  have HV := Lib.hid hv
  clear hz hv
  generalize hN : zs.length = n at *
  have HN := Lib.hid hN
  clear hN
  go_enter Try.func27, Try.ntmps27
  go_wp2
  go_loopw [3, 10] (fun v i wr => ∃ (k : Nat) (cs : List LCl), i = .int .i64 k ∧ k ≤ n ∧ Hid (OwC wr w.heap.size v cs) ∧ cs.length ≤ k * 1000 ∧ Hid (twoF zs = bareC cs ++ twoF (zs.drop k)) ∧ Hid (Below w.heap.size w wr)) (fun _ i _ => n - (intOf i).toNat)
  case atStart => exact ⟨0, [], rfl, Nat.zero_le _, OwC.nil _ _, Nat.zero_le _, rfl, Below.refl _ _⟩
  case round =>
    obtain ⟨k, cs, rfl, hk, OC, hcl, BC, HB⟩ := hrel
    have hk0 : (0 : Int) ≤ (k : Int) := by omega
    by_cases g1 : k < n
    · have g1' : (k : Int) < (n : Int) := by omega
      have hlt : k < zs.length := by rw [HN.out]; exact g1
      obtain ⟨c, o, rfl, ZI⟩ : ∃ c o, sl = some ⟨c, o, none⟩ ∧ IntsAt w c o zs := by
        rcases HZ.out with e | h
        · rw [e] at hlt; simp at hlt
        · exact h
      have hc := (HB.out.cell (p := ⟨c, o + k, none⟩) ZI.1).trans (ZI.2 k hlt)
      have hxb := HV.out (zs.getD k 0) (by rw [List.getD_eq_getElem?_getD, List.getElem?_eq_getElem hlt]; exact List.getElem_mem hlt)
      have DS := Lib.hid (show twoF (zs.drop k) = (zs.drop (k + 1)).map (fun y => [-(zs.getD k 0), -y]) ++ twoF (zs.drop (k + 1)) by
        rw [← List.getElem_cons_drop (h := hlt), twoF]; simp [hlt])
      have ZA := Lib.hid ZI
      clear ZI hlt
      generalize zs.getD k 0 = x at *
      obtain ⟨x0, x1⟩ := hxb
      obtain ⟨vsl, vcap, rfl⟩ := OC.out.v
      obtain ⟨w1, hw1⟩ : ∃ w1, w1 = wr := ⟨_, rfl⟩
      rw [← hw1] at OC HB hc ⊢
      clear hw1
      by_cases hce : cap = k + 1
      · have en : n = k + 1 := by omega
        subst hce
        have BN := Lib.hid (show twoF zs = bareC cs ++ twoF (zs.drop (k + 1)) by rw [BC.out, DS.out, List.drop_of_length_le (by rw [HN.out]; omega)]; rfl)
        clear BC DS
        go_wp2
        go_loopw [3, 20] (fun v i wq => v = .slice vsl cs.length vcap ∧ i = .int .i64 0 ∧ wq = w1) (fun _ _ _ => 0)
        case atStart => exact ⟨rfl, rfl, rfl⟩
        case round =>
          obtain ⟨rfl, rfl, rfl⟩ := hrel
          have g2' : ¬ (0 : Int) < ((n - (k + 1) : Nat) : Int) := by omega
          go_wp2
          go_roundw
          case rel => exact ⟨k + 1, cs, by go_num, by omega, OC, by omega, BN, HB⟩
          case measure => simp [intOf]; omega
      · have hce' : ¬ cap = k + 1 := hce
        have BN := Lib.hid (show twoF zs = (bareC cs ++ (zs.drop (k + 1)).map (fun y => [-x, -y])) ++ twoF (zs.drop (k + 1)) by rw [BC.out, DS.out, List.append_assoc])
        clear BC DS
        have hr : n - (k + 1) + (k + 1) = n := by omega
        go_wp2
        generalize n - (k + 1) = r at *
        go_loopw [3, 20] (fun v i wq => ∃ (m : Nat) (ds : List LCl), i = .int .i64 m ∧ m ≤ r ∧ Hid (OwC wq w.heap.size v ds) ∧ ds.length ≤ k * 1000 + m ∧ Hid (bareC ds = bareC cs ++ ((zs.drop (k + 1)).take m).map (fun y => [-x, -y])) ∧ Hid (Below w.heap.size w wq)) (fun _ i _ => r - (intOf i).toNat)
        case atStart => exact ⟨0, cs, rfl, Nat.zero_le _, OC, by omega, (by show bareC cs = bareC cs ++ _; simp), HB⟩
        case round =>
          obtain ⟨m, ds, rfl, hm, OD, hdl, BD, HD⟩ := hrel
          have hm0 : (0 : Int) ≤ (m : Int) := by omega
          by_cases g2 : m < r
          · have g2' : (m : Int) < (r : Int) := by omega
            have hlt : k + 1 + m < zs.length := by rw [HN.out]; omega
            have hc2 := (HD.out.cell (p := ⟨c, o + (k + 1 + m), none⟩) ZA.out.1).trans (ZA.out.2 (k + 1 + m) hlt)
            have hyb := HV.out (zs.getD (k + 1 + m) 0) (by rw [List.getD_eq_getElem?_getD, List.getElem?_eq_getElem hlt]; exact List.getElem_mem hlt)
            have TS := Lib.hid (show ((zs.drop (k + 1)).take (m + 1)).map (fun y => [-x, -y]) = ((zs.drop (k + 1)).take m).map (fun y => [-x, -y]) ++ [[-x, -(zs.getD (k + 1 + m) 0)]] by
              rw [List.take_succ_eq_append_getElem (by rw [List.length_drop]; omega), List.map_append]
              simp [hlt])
            rw [show o + (k + 1 + m) = o + (k + 1) + m by omega] at hc2
            clear hlt
            generalize zs.getD (k + 1 + m) 0 = y at *
            obtain ⟨y0, y1⟩ := hyb
            obtain ⟨dsl, dcap, rfl⟩ := OD.out.v
            have ON := Lib.hid ((own_two wr (-x) (-y)).alloc (.cells #[.slice (some ⟨wr.heap.size, 0, none⟩) 2 2] 27))
            have CV := Lib.hid ((OD.out.row.alloc (.cells #[.int .i64 (-x), .int .i64 (-y)] 2)).alloc (.cells #[.slice (some ⟨wr.heap.size, 0, none⟩) 2 2] 27))
            have OL := Lib.hid (show ∀ j, (Value.slice dsl ds.length dcap).ownBlock = some j → w.heap.size ≤ j from fun j hj => (OD.out.row.lt j hj).1)
            have hws := HD.out.size
            have hdl2 : ds.length ≤ 1001000 := by omega
            go_wp2_with (first | (at_builtin; refine wpList_append_lies _ rfl (.tmp 24) (.tmp 30) 31 rfl w.heap.size 27 i4 (.slice none 0 0) 1 24 Try.underlying31 hi4 hd0 hd1 hd2 rfl (by decide) _ _ _ rfl CV.out ⟨wr.heap.size + 1, 0, none⟩ 1 1 [.slice (some ⟨wr.heap.size, 0, none⟩) 2 2] (by simp [Act.eval]) rfl (cell_at_new' _ _ _ _) (by intro u hu; simp at hu; subst hu; rfl) (by decide) (by unfold maxLen; omega) (by omega) (by simp; omega) (wr.heap.size + 2) (by simp) ?_))
            intro g9 cap9 w9 own9 grow9 hg9 hlt9
            have BA := Lib.hid (bA (bA0 wr (.cells #[.int .i64 (-x), .int .i64 (-y)] 2)) (.cells #[.slice (some ⟨wr.heap.size, 0, none⟩) 2 2] 27))
            have N9 : Hid (OwC w9 w.heap.size (.slice (some ⟨g9, 0, none⟩) (ds.length + 1) cap9) (ds ++ [(.slice (some ⟨wr.heap.size, 0, none⟩) 2 2, [-x, -y])])) :=
              OD.out.new BA.out (own_mono ON.out hws) (fun j hj => (ON.out.lt j hj).1) grow9 own9
            have B9 := Lib.hid ((bA (bA HD.out (.cells #[.int .i64 (-x), .int .i64 (-y)] 2)) (.cells #[.slice (some ⟨wr.heap.size, 0, none⟩) 2 2] 27)).grown grow9 (by simp; omega) (fun j hj => OL.out j hj))
            have BN9 : Hid (bareC (ds ++ [(.slice (some ⟨wr.heap.size, 0, none⟩) 2 2, [-x, -y])]) = bareC cs ++ ((zs.drop (k + 1)).take (m + 1)).map (fun y => [-x, -y])) := by rw [TS.out, bareC_add, BD.out, List.append_assoc]; rfl
            have LN : (ds ++ [((Value.slice (some ⟨wr.heap.size, 0, none⟩) 2 2, [-x, -y]) : LCl)]).length ≤ k * 1000 + (m + 1) := by rw [List.length_append]; simp; omega
            clear own9 grow9 hg9 hlt9 CV OL BA ON OD HD BD TS
            generalize ds ++ [((Value.slice (some ⟨wr.heap.size, 0, none⟩) 2 2, [-x, -y]) : LCl)] = ds9 at *
            go_wp2
            go_roundw
            case rel => exact ⟨m + 1, ds9, by go_num, by omega, N9, LN, BN9, B9⟩
            case measure => simp [intOf]; omega
          · have g2' : ¬ (m : Int) < (r : Int) := by omega
            have P := Lib.hid (show twoF zs = bareC ds ++ twoF (zs.drop (k + 1)) by
              rw [BN.out, BD.out, List.take_of_length_le (by rw [List.length_drop, HN.out]; omega)])
            have LN : ds.length ≤ (k + 1) * 1000 := by omega
            clear BD BN OC
            go_wp2
            go_roundw
            case rel => exact ⟨k + 1, ds, by go_num, by omega, OD, LN, P, HD⟩
            case measure => simp [intOf]; omega
    · have g1' : ¬ (k : Int) < (n : Int) := by omega
      have P := Lib.hid (show bareC cs = twoF zs by rw [BC.out, List.drop_of_length_le (by rw [HN.out]; omega)]; simp [twoF])
      clear BC
      go_wp2
      go_ret
      exact ⟨_, rfl, cs, OC.out, P.out, HB.out⟩
end Go.Proofs.Ytaogkdhloogmhaa
