/-
  THE VARIABLES AS THE MODEL GATHERS THEM: spec.l06Vars.
-/
import Derived.Test.YtdmfljejlhlbnaaUd
namespace Go.Proofs.Ytdmfljejlhlbnaa
open Go.RowKit
set_option linter.unusedVariables false

theorem own_kind {w : World} {B : Nat} {e : TypeId} {m : Nat} {v : Value} {n : Nat} {xs : List Value} (h : w.ownsRow B e m v n xs) {j : Nat} (hj : v.ownBlock = some j) : ∃ cur, w.heap[j]? = some (.cells cur e) := by
  rcases h.2 with ⟨rfl, _⟩ | ⟨g, cap, cur, rfl, _, hg, _⟩
  · simp [Value.ownBlock] at hj
  · simp [Value.ownBlock] at hj
    subst hj
    exact ⟨cur, hg⟩
theorem own_diff {w : World} {B B' : Nat} {e e' : TypeId} {m m' : Nat} {v v' : Value} {n n' : Nat} {xs xs' : List Value} (h : w.ownsRow B e m v n xs) (h' : w.ownsRow B' e' m' v' n' xs') (he : e ≠ e') : v.ownBlock = none ∨ v.ownBlock ≠ v'.ownBlock := by
  cases hv : v.ownBlock with
  | none => exact .inl rfl
  | some j =>
    refine .inr fun e2 => ?_
    obtain ⟨c1, h1⟩ := own_kind h hv
    obtain ⟨c2, h2⟩ := own_kind h' e2.symm
    rw [h1] at h2
    simp at h2
    exact he h2.2
theorem bA1 {n : Nat} {W w : World} (h : Below n W w) (o : Obj) (hn : n ≤ w.heap.size) : Below n W (w.alloc o) := h.alloc hn o
theorem own_e34 (w : World) : (w.alloc (.cells #[] 34)).ownsRow w.heap.size 34 2 (.slice (some ⟨w.heap.size, 0, none⟩) 0 0) 0 (enCells []) :=
  ⟨rfl, .inr ⟨w.heap.size, 0, #[], rfl, Nat.le_refl _, by show (w.heap.push _)[w.heap.size]? = _; simp, Nat.le_refl _, Nat.zero_le _, rfl, rfl⟩⟩
theorem plF_step (rs : List LSt) (top : Int) (ids : List Int) (k : Nat) (h : k < ids.length) : plF rs top (ids.take (k + 1)) = plF rs top (ids.take k) ++ chF rs top (ids.getD k 0) := by
  unfold plF
  rw [List.take_succ_eq_append_getElem h, List.flatMap_append]
  simp [h]

set_option maxRecDepth 100000 in
set_option maxHeartbeats 4000000 in
/-- spec.l06Vars, of a right table. -/
theorem vars_any (sl : Option Addr) (cap : Nat) (sl2 : Option Addr) (cap2 : Nat) (sl3 : Option Addr) (cap3 : Nat) (rs : List LSt) (ps : List LPr) (top : Int) (ids : List Int) (w : World) (hn : rs.length ≤ 1048576) (hl : ids.length ≤ 400) (hz : Sts w sl rs) (hp : Prs w sl2 ps) (TR0 : TabR rs ps) (hi : Ints w sl3 ids) :
    Calls Try.prog 90 #[TV sl rs.length cap sl2 ps.length cap2, .int .i64 top, .slice sl3 ids.length cap3] w fun e w' => ∃ v, e = .returned v ∧ w'.ownsRow w.heap.size 34 2 v (plF rs top ids).length (enCells (plF rs top ids)) ∧ Below w.heap.size w w' := by
  obtain ⟨i3, hi3, hd0, hd1, hd2⟩ := info_parts info34
  have HT := Lib.hid (TabAt.new w sl rs.length cap sl2 ps.length cap2)
  have E1 : Hid (∀ id W, Below w.heap.size w W → Calls Try.prog 69 #[TV sl rs.length cap sl2 ps.length cap2, .int .i64 id, .int .i64 top] W fun e w' => ∃ s c, e = .returned (.slice s (rs.flatMap (domF id top)).length c) ∧ w'.ownsRow W.heap.size 2 1 (.slice s (rs.flatMap (domF id top)).length c) (rs.flatMap (domF id top)).length (valsZ (rs.flatMap (domF id top))) ∧ Below W.heap.size W w') := fun id W hW => by
    have := sdo_any sl cap sl2 cap2 rs ps id top W hn (hz.below hW) (hp.below hW)
    rw [show domA rs ps id top = rs.flatMap (domF id top) by unfold domA; rw [B_yes TR0]; rfl] at this
    refine this.mono ?_
    rintro e w' ⟨v, rfl, o, b⟩
    obtain ⟨s, c, rfl, i⟩ := own_ints o
    exact ⟨s, c, rfl, o, b⟩
  have DL := Lib.hid (fun id => dom_le rs ps id top TR0)
  have PL := Lib.hid (fun k => plF_le top (ids.take k) TR0)
  have HI := Lib.hid hi
  clear hz hi TR0 hp
  generalize hN : ids.length = n at *
  have HN := Lib.hid hN
  clear hN
  generalize rs.length = rn at *
  generalize ps.length = pn at *
  have B0 := Lib.hid (bA (bA0 w (.cells #[.slice sl rn cap, .slice sl2 pn cap2] 26)) (.cells #[] 34))
  have X0 := Lib.hid (HT.out.below (bA0 (w.alloc (.cells #[.slice sl rn cap, .slice sl2 pn cap2] 26)) (.cells #[] 34)))
  have O0 := Lib.hid (own_e34 (w.alloc (.cells #[.slice sl rn cap, .slice sl2 pn cap2] 26)))
  rw [show (w.alloc (.cells #[.slice sl rn cap, .slice sl2 pn cap2] 26)).heap.size = w.heap.size + 1 by simp] at O0
  go_enter Try.func90, Try.ntmps90
  go_wp2
  generalize (w.alloc (.cells #[.slice sl rn cap, .slice sl2 pn cap2] 26)).alloc (.cells #[] 34) = wA at *
  clear HT
  go_loopw [7, 8] (fun v i wr => ∃ (k : Nat) (cu : List LPl), i = .int .i64 k ∧ k ≤ n ∧ Hid (cu = plF rs top (ids.take k)) ∧ Hid (wr.ownsRow (w.heap.size + 1) 34 2 v cu.length (enCells cu)) ∧ Hid (Below (w.heap.size + 1) wA wr)) (fun _ i _ => n - (intOf i).toNat)
  case atStart => exact ⟨0, [], rfl, Nat.zero_le _, rfl, O0, Below.refl _ _⟩
  case round =>
    obtain ⟨k, cu, rfl, hk, HC, OR, HB⟩ := hrel
    have hk0 : (0 : Int) ≤ (k : Int) := by omega
    have DW := Lib.hid (B0.out.trans (HB.out.mono (Nat.le_succ _)))
    by_cases g1 : k < n
    · have g1' : (k : Int) < (n : Int) := by omega
      have hlt : k < ids.length := by rw [HN.out]; exact g1
      obtain ⟨c, o, rfl, ZI⟩ : ∃ c o, sl3 = some ⟨c, o, none⟩ ∧ IntsAt w c o ids := by
        rcases HI.out with e | h
        · rw [e] at hlt; simp at hlt
        · exact h
      have hcw := ZI.1
      have hc := (DW.out.cell (p := ⟨c, o + k, none⟩) ZI.1).trans (ZI.2 k hlt)
      have IS := Lib.hid (show plF rs top (ids.take (k + 1)) = cu ++ (rs.flatMap (domF (ids.getD k 0) top)).map fun c => ((ids.getD k 0, c) : LPl) by rw [HC.out]; exact plF_step rs top ids k hlt)
      have E := Lib.hid (E1.out (ids.getD k 0))
      have D8 := DL.out (ids.getD k 0)
      have CL := Lib.hid (show cu.length ≤ 96 * k by
        have := PL.out k
        rw [HC.out]
        rw [List.length_take] at this
        omega)
      have IC := Lib.hid (show ∀ W, Below w.heap.size w W → W.cell? ⟨c, o + k, none⟩ = some (.int .i64 (ids.getD k 0)) from fun W hW => (hW.cell (p := ⟨c, o + k, none⟩) ZI.1).trans (ZI.2 k hlt))
      clear hlt ZI HC
      generalize ids.getD k 0 = x at *
      generalize hzz : rs.flatMap (domF x top) = zs at *
      clear hzz
      have XT : TabAt wr w.heap.size sl rn cap sl2 pn cap2 := (HB.out.block w.heap.size (Nat.lt_succ_self _)).trans X0.out
      obtain ⟨t0, t1⟩ := XT.cells
      have tl := XT.lt
      have hsw : w.heap.size + 1 ≤ wr.heap.size := tl
      have KB : Hid (∀ W, Below wr.heap.size wr W → w.heap.size < W.heap.size ∧ c < W.heap.size ∧ W.cell? ⟨w.heap.size, 0, none⟩ = some (.slice sl rn cap) ∧ W.cell? ⟨w.heap.size, 1, none⟩ = some (.slice sl2 pn cap2) ∧ W.cell? ⟨c, o + k, none⟩ = some (.int .i64 x)) := fun W hW => ⟨Nat.lt_of_lt_of_le tl hW.size, Nat.lt_of_lt_of_le (show c < wr.heap.size by omega) hW.size, (hW.cell tl).trans t0, (hW.cell tl).trans t1, (hW.cell (show c < wr.heap.size by omega)).trans hc⟩
      clear XT t0 t1 tl hc
      go_wp2_with fail
      refine wp_region_held_drew (S := fun W => w.heap.size < W.heap.size ∧ c < W.heap.size ∧ W.cell? ⟨w.heap.size, 0, none⟩ = some (.slice sl rn cap) ∧ W.cell? ⟨w.heap.size, 1, none⟩ = some (.slice sl2 pn cap2) ∧ W.cell? ⟨c, o + k, none⟩ = some (.int .i64 x)) (by kernel_rfl) ?_ (fun hHeld => ?_)
      · exact KB.out _ (Below.refl _ _).drew
      refine wpAnyH_take (i := 0) (oi := _) (v := ?_) rfl (by kernel_rfl) (by kernel_rfl) (by kernel_rfl) (fun _ _ _ h => h) (Or.inl ⟨by rfl, ?_⟩) (by assumption) ?_
      rotate_left
      · first | (intro w hSw; (try dsimp only at hSw); go_simp; done) | (intro w hSw; (try dsimp only at hSw); go_simp; with_reducible rfl)
      try simp only [Act.put, List.setIfInBounds_toArray, List.set_cons_zero, List.set_cons_succ, List.getElem_toArray, List.getElem_cons_zero]
      refine wpAnyH_take (i := 1) (oi := _) (v := ?_) rfl (by kernel_rfl) (by kernel_rfl) (by kernel_rfl) (fun _ _ _ h => h) (Or.inl ⟨by rfl, ?_⟩) (by assumption) ?_
      rotate_left
      · first | (intro w hSw; (try dsimp only at hSw); go_simp; done) | (intro w hSw; (try dsimp only at hSw); go_simp; with_reducible rfl)
      try simp only [Act.put, List.setIfInBounds_toArray, List.set_cons_zero, List.set_cons_succ, List.getElem_toArray, List.getElem_cons_succ, List.getElem_cons_zero]
      refine wpAnyH_take (i := 2) (oi := _) (v := ?_) rfl (by kernel_rfl) (by kernel_rfl) (by kernel_rfl) (fun _ _ _ h => h) (Or.inl ⟨by rfl, ?_⟩) (by assumption) ?_
      rotate_left
      · first | (intro w hSw; (try dsimp only at hSw); go_simp; done) | (intro w hSw; (try dsimp only at hSw); go_simp; with_reducible rfl)
      try simp only [Act.put, List.setIfInBounds_toArray, List.set_cons_zero, List.set_cons_succ, List.getElem_toArray, List.getElem_cons_succ, List.getElem_cons_zero]
      refine wpAnyH_take (i := 3) (oi := _) (v := ?_) rfl (by kernel_rfl) (by kernel_rfl) (by kernel_rfl) (fun _ _ _ h => h) (Or.inl ⟨by rfl, ?_⟩) (by assumption) ?_
      rotate_left
      · first | (intro w hSw; (try dsimp only at hSw); go_simp; done) | (intro w hSw; (try dsimp only at hSw); go_simp; with_reducible rfl)
      try simp only [Act.put, List.setIfInBounds_toArray, List.set_cons_zero, List.set_cons_succ, List.getElem_toArray, List.getElem_cons_succ, List.getElem_cons_zero]
      refine wpAnyH_take (i := 4) (oi := _) (v := ?_) rfl (by kernel_rfl) (by kernel_rfl) (by kernel_rfl) (fun _ _ _ h => h) (Or.inl ⟨by rfl, ?_⟩) (by assumption) ?_
      rotate_left
      · first | (intro w hSw; (try dsimp only at hSw); go_simp; done) | (intro w hSw; (try dsimp only at hSw); go_simp; with_reducible rfl)
      try simp only [Act.put, List.setIfInBounds_toArray, List.set_cons_zero, List.set_cons_succ, List.getElem_toArray, List.getElem_cons_succ, List.getElem_cons_zero]
      refine wpAnyH_take (i := 5) (oi := _) (v := ?_) rfl (by kernel_rfl) (by kernel_rfl) (by kernel_rfl) (fun _ _ _ h => h) (Or.inl ⟨by rfl, ?_⟩) (by assumption) ?_
      rotate_left
      · first | (intro w hSw; (try dsimp only at hSw); go_simp; done) | (intro w hSw; (try dsimp only at hSw); go_simp; with_reducible rfl)
      try simp only [Act.put, List.setIfInBounds_toArray, List.set_cons_zero, List.set_cons_succ, List.getElem_toArray, List.getElem_cons_succ, List.getElem_cons_zero]
      refine wpAnyH_ready (rs := [6]) (by kernel_rfl) (by simp) ?_
      refine AllReadyH.cons rfl (fun K hK => ?_) AllReadyH.nil
      go_simp
      go_wp2_with (go_at_call 69; refine (E.out _ DW.out.drew).mono ?_; rintro e w3 ⟨s3, c3, rfl, o3, b3⟩)
      have F3 : Hid (Below wr.heap.size wr w3) := bT ((Below.refl wr.heap.size wr).drew) b3
      have Z3 := Lib.hid o3
      clear b3 o3
      refine hK.out _ _ ?_ (fun hHeld => ?_)
      · exact KB.out _ F3.out
      clear hK K
      refine wpAnyH_take (i := 7) (oi := _) (v := ?_) rfl (by kernel_rfl) (by kernel_rfl) (by kernel_rfl) (fun _ _ _ h => h) (Or.inl ⟨by rfl, ?_⟩) (by assumption) ?_
      rotate_left
      · first | (intro w hSw; (try dsimp only at hSw); go_simp; done) | (intro w hSw; (try dsimp only at hSw); go_simp; with_reducible rfl)
      try simp only [Act.put, List.setIfInBounds_toArray, List.set_cons_zero, List.set_cons_succ, List.getElem_toArray, List.getElem_cons_succ, List.getElem_cons_zero]
      refine wpAnyH_done (by kernel_rfl) ?_ _
      have O3 := Lib.hid (own_below OR.out F3.out)
      have B3 := Lib.hid (HB.out.trans (F3.out.mono hsw))
      have hs3 : w.heap.size + 1 ≤ w3.heap.size := by have := F3.out.size; omega
      clear KB OR HB F3 DW E
      generalize hq : zs.length = q at *
      have HQ := Lib.hid hq
      clear hq
      obtain ⟨wb, hwb⟩ : ∃ wb, wb = wr.heap.size := ⟨_, rfl⟩
      rw [show wr.drew.heap.size = wb from hwb.symm] at Z3
      clear hwb
      go_wp2_with fail
      go_loopw [7, 10] (fun v j wq => ∃ (m : Nat) (cv : List LPl), j = .int .i64 m ∧ m ≤ q ∧ cv.length ≤ 96 * k + m ∧ Hid (cv = cu ++ (zs.take m).map fun c => ((x, c) : LPl)) ∧ Hid (wq.ownsRow (w.heap.size + 1) 34 2 v cv.length (enCells cv)) ∧ Hid (wq.ownsRow wb 2 1 (.slice s3 q c3) q (valsZ zs)) ∧ Hid (Below (w.heap.size + 1) wA wq)) (fun _ j _ => q - (intOf j).toNat)
      case atStart => exact ⟨0, cu, rfl, Nat.zero_le _, CL.out, (by show cu = cu ++ _; simp), O3, Z3, B3⟩
      case round =>
        obtain ⟨m, cv, rfl, hm, hcv, HC, OR, OZ, HB⟩ := hrel
        have hm0 : (0 : Int) ≤ (m : Int) := by omega
        by_cases g2 : m < q
        · have g2' : (m : Int) < (q : Int) := by omega
          have hlt : m < zs.length := by rw [HQ.out]; exact g2
          have QP := Lib.hid (show 0 < q by omega)
          obtain ⟨e, ce, he, -, hel, -, -, hec⟩ := own_cells OZ.out QP.out
          obtain ⟨rfl, rfl⟩ : s3 = some ⟨e, 0, none⟩ ∧ c3 = ce := by cases he; exact ⟨rfl, rfl⟩
          have hzc : wr.cell? ⟨e, m, none⟩ = some (.int .i64 (zs.getD m 0)) := by rw [hec m g2]; simp [valsZ, hlt]
          have CS := Lib.hid (show cv ++ [(x, zs.getD m 0)] = cu ++ (zs.take (m + 1)).map fun c => ((x, c) : LPl) by rw [chF_step rs top x zs m hlt, ← List.append_assoc, ← HC.out])
          have KZ : Hid (∀ W, Below (w.heap.size + 1) wA W → W.ownsRow wb 2 1 (.slice (some ⟨e, 0, none⟩) q c3) q (valsZ zs) → c < W.heap.size ∧ e < W.heap.size ∧ W.cell? ⟨c, o + k, none⟩ = some (.int .i64 x) ∧ W.cell? ⟨e, m, none⟩ = some (.int .i64 (zs.getD m 0))) := fun W hW hZ => by
            obtain ⟨e', ce', he', -, hel', -, -, hec'⟩ := own_cells hZ QP.out
            cases he'
            have hsz := hW.size
            have hA := B0.out.size
            exact ⟨by omega, hel', IC.out W (B0.out.trans (hW.mono (Nat.le_succ _))), by rw [hec' m g2]; simp [valsZ, hlt]⟩
          have OD : Hid ((wr.drew.alloc (.cells #[.int .i64 x, .int .i64 (zs.getD m 0)] 34)).ownsRow (w.heap.size + 1) 34 2 _ cv.length (enCells cv)) := (show wr.drew.ownsRow _ _ _ _ _ _ from OR.out).alloc _
          have ZD : Hid ((wr.drew.alloc (.cells #[.int .i64 x, .int .i64 (zs.getD m 0)] 34)).ownsRow wb 2 1 (.slice (some ⟨e, 0, none⟩) q c3) q (valsZ zs)) := (show wr.drew.ownsRow _ _ _ _ _ _ from OZ.out).alloc _
          have hsw : w.heap.size + 1 ≤ wr.heap.size := by have := HB.out.size; have := X0.out.lt; omega
          have K0 := Lib.hid (KZ.out wr.drew HB.out.drew (show wr.drew.ownsRow _ _ _ _ _ _ from OZ.out))
          have K10 := Lib.hid (KZ.out _ (bA1 HB.out.drew (.cells #[.int .i64 x, .int .i64 (zs.getD m 0)] 34) hsw) ZD.out)
          clear hlt hec he
          generalize zs.getD m 0 = z at *
          obtain ⟨vsl, vcap, rfl⟩ := own_v OR.out
          go_wp2_with fail
          refine wp_region_held_drew (S := fun W => c < W.heap.size ∧ e < W.heap.size ∧ W.cell? ⟨c, o + k, none⟩ = some (.int .i64 x) ∧ W.cell? ⟨e, m, none⟩ = some (.int .i64 z)) (by kernel_rfl) ?_ (fun hHeld => ?_)
          · exact K0.out
          refine wpAnyH_take (i := 0) (oi := _) (v := ?_) rfl (by kernel_rfl) (by kernel_rfl) (by kernel_rfl) (fun _ _ _ h => h) (Or.inl ⟨by rfl, ?_⟩) (by assumption) ?_
          rotate_left
          · first | (intro w hSw; (try dsimp only at hSw); go_simp; done) | (intro w hSw; (try dsimp only at hSw); go_simp; with_reducible rfl)
          try simp only [Act.put, List.setIfInBounds_toArray, List.set_cons_zero, List.set_cons_succ, List.getElem_toArray, List.getElem_cons_zero]
          refine wpAnyH_take (i := 1) (oi := _) (v := ?_) rfl (by kernel_rfl) (by kernel_rfl) (by kernel_rfl) (fun _ _ _ h => h) (Or.inl ⟨by rfl, ?_⟩) (by assumption) ?_
          rotate_left
          · first | (intro w hSw; (try dsimp only at hSw); go_simp; done) | (intro w hSw; (try dsimp only at hSw); go_simp; with_reducible rfl)
          try simp only [Act.put, List.setIfInBounds_toArray, List.set_cons_zero, List.set_cons_succ, List.getElem_toArray, List.getElem_cons_succ, List.getElem_cons_zero]
          refine wpAnyH_take (i := 2) (oi := _) (v := ?_) rfl (by kernel_rfl) (by kernel_rfl) (by kernel_rfl) (fun _ _ _ h => h) (Or.inl ⟨by rfl, ?_⟩) (by assumption) ?_
          rotate_left
          · first | (intro w hSw; (try dsimp only at hSw); go_simp; done) | (intro w hSw; (try dsimp only at hSw); go_simp; with_reducible rfl)
          try simp only [Act.put, List.setIfInBounds_toArray, List.set_cons_zero, List.set_cons_succ, List.getElem_toArray, List.getElem_cons_succ, List.getElem_cons_zero]
          refine wpAnyH_take (i := 3) (oi := _) (v := ?_) rfl (by kernel_rfl) (by kernel_rfl) (by kernel_rfl) (fun _ _ _ h => h) (Or.inl ⟨by rfl, ?_⟩) (by assumption) ?_
          rotate_left
          · first | (intro w hSw; (try dsimp only at hSw); go_simp; done) | (intro w hSw; (try dsimp only at hSw); go_simp; with_reducible rfl)
          try simp only [Act.put, List.setIfInBounds_toArray, List.set_cons_zero, List.set_cons_succ, List.getElem_toArray, List.getElem_cons_succ, List.getElem_cons_zero]
          refine wpAnyH_take (i := 4) (oi := _) (v := ?_) rfl (by kernel_rfl) (by kernel_rfl) (by kernel_rfl) (fun _ _ _ h => h) (Or.inl ⟨by rfl, ?_⟩) (by assumption) ?_
          rotate_left
          · first | (intro w hSw; (try dsimp only at hSw); go_simp; done) | (intro w hSw; (try dsimp only at hSw); go_simp; with_reducible rfl)
          try simp only [Act.put, List.setIfInBounds_toArray, List.set_cons_zero, List.set_cons_succ, List.getElem_toArray, List.getElem_cons_succ, List.getElem_cons_zero]
          refine wpAnyH_take (i := 5) (oi := _) (v := ?_) rfl (by kernel_rfl) (by kernel_rfl) (by kernel_rfl) (fun _ _ _ h => h) (Or.inl ⟨by rfl, ?_⟩) (by assumption) ?_
          rotate_left
          · first | (intro w hSw; (try dsimp only at hSw); go_simp; done) | (intro w hSw; (try dsimp only at hSw); go_simp; with_reducible rfl)
          try simp only [Act.put, List.setIfInBounds_toArray, List.set_cons_zero, List.set_cons_succ, List.getElem_toArray, List.getElem_cons_succ, List.getElem_cons_zero]
          refine wpAnyH_take (i := 6) (oi := _) (v := ?_) rfl (by kernel_rfl) (by kernel_rfl) (by kernel_rfl) (fun _ _ _ h => h) (Or.inl ⟨by rfl, ?_⟩) (by assumption) ?_
          rotate_left
          · first | (intro w hSw; (try dsimp only at hSw); go_simp; done) | (intro w hSw; (try dsimp only at hSw); go_simp; with_reducible rfl)
          try simp only [Act.put, List.setIfInBounds_toArray, List.set_cons_zero, List.set_cons_succ, List.getElem_toArray, List.getElem_cons_succ, List.getElem_cons_zero]
          refine wpAnyH_take (i := 7) (oi := _) (v := ?_) rfl (by kernel_rfl) (by kernel_rfl) (by kernel_rfl) (fun _ _ _ h => h) (Or.inl ⟨by rfl, ?_⟩) (by assumption) ?_
          rotate_left
          · first | (intro w hSw; (try dsimp only at hSw); go_simp; done) | (intro w hSw; (try dsimp only at hSw); go_simp; with_reducible rfl)
          try simp only [Act.put, List.setIfInBounds_toArray, List.set_cons_zero, List.set_cons_succ, List.getElem_toArray, List.getElem_cons_succ, List.getElem_cons_zero]
          refine wpAnyH_take (i := 8) (oi := _) (v := ?_) rfl (by kernel_rfl) (by kernel_rfl) (by kernel_rfl) (fun _ _ _ h => h) (Or.inl ⟨by rfl, ?_⟩) (by assumption) ?_
          rotate_left
          · first | (intro w hSw; (try dsimp only at hSw); go_simp; done) | (intro w hSw; (try dsimp only at hSw); go_simp; with_reducible rfl)
          try simp only [Act.put, List.setIfInBounds_toArray, List.set_cons_zero, List.set_cons_succ, List.getElem_toArray, List.getElem_cons_succ, List.getElem_cons_zero]
          refine wpAnyH_take (i := 9) (oi := _) (v := ?_) rfl (by kernel_rfl) (by kernel_rfl) (by kernel_rfl) (fun _ _ _ h => h) (Or.inl ⟨by rfl, ?_⟩) (by assumption) ?_
          rotate_left
          · first | (intro w hSw; (try dsimp only at hSw); go_simp; done) | (intro w hSw; (try dsimp only at hSw); go_simp; with_reducible rfl)
          try simp only [Act.put, List.setIfInBounds_toArray, List.set_cons_zero, List.set_cons_succ, List.getElem_toArray, List.getElem_cons_succ, List.getElem_cons_zero]
          refine wpAnyH_ready (rs := [10]) (by kernel_rfl) (by simp) ?_
          refine AllReadyH.cons rfl (fun K hK => ?_) AllReadyH.nil
          go_simp
          refine hK.out _ _ ?_ (fun hHeld => ?_)
          · exact K10.out
          clear hK K
          refine wpAnyH_ready (rs := [11]) (by kernel_rfl) (by simp) ?_
          refine AllReadyH.cons rfl (fun K hK => ?_) AllReadyH.nil
          refine step_append_lies _ rfl (.tmp 31) (.tmp 41) 27 rfl (w.heap.size + 1) 34 i3 (.agg #[.int .i64 0, .int .i64 0]) 2 16 Try.underlying27 hi3 hd0 hd1 hd2 rfl (by decide) (.slice vsl cv.length vcap) cv.length (enCells cv) (by simp [Act.eval]) OD.out ⟨wr.heap.size, 0, none⟩ 1 1 [.int .i64 x, .int .i64 z] (by simp [Act.eval]) rfl (cell_two_new wr.drew _ _ _) (by intro u hu; simp at hu; rcases hu with rfl | rfl <;> rfl) (by decide) (by unfold maxLen; omega) (by omega) (by simp; omega) (wr.heap.size + 1) (by simp) ?_
          intro g9 cap9 w9 own9 grow9 hg9 hlt9
          have B9 := Lib.hid ((bA1 HB.out.drew (.cells #[.int .i64 x, .int .i64 z] 34) (by simpa using hsw)).grown grow9 (by simp; omega) (fun j hj => (OD.out.lt j hj).1))
          have Z9 := Lib.hid (ZD.out.kept grow9 (own_diff ZD.out OD.out (by decide)))
          have K11 := Lib.hid (show c < w9.heap.size ∧ e < w9.heap.size ∧ w9.cell? ⟨c, o + k, none⟩ = some (.int .i64 x) ∧ w9.cell? ⟨e, m, none⟩ = some (.int .i64 z) from KZ.out w9 B9.out Z9.out)
          rw [← enCells_add cv (x, z)] at own9
          have N9 : Hid (w9.ownsRow (w.heap.size + 1) 34 2 (.slice (some ⟨g9, 0, none⟩) (cv.length + 1) cap9) (cv ++ [(x, z)]).length (enCells (cv ++ [(x, z)]))) := by
            rw [List.length_append]; exact own9
          clear own9 grow9 hg9 hlt9
          refine hK.out _ _ ?_ (fun hHeld => ?_)
          · exact K11.out
          clear hK K
          refine wpAnyH_take (i := 12) (oi := _) (v := ?_) rfl (by kernel_rfl) (by kernel_rfl) (by kernel_rfl) (fun _ _ _ h => h) (Or.inl ⟨by rfl, ?_⟩) (by assumption) ?_
          rotate_left
          · first | (intro w hSw; (try dsimp only at hSw); go_simp; done) | (intro w hSw; (try dsimp only at hSw); go_simp; with_reducible rfl)
          try simp only [Act.put, List.setIfInBounds_toArray, List.set_cons_zero, List.set_cons_succ, List.getElem_toArray, List.getElem_cons_succ, List.getElem_cons_zero]
          refine wpAnyH_done (by kernel_rfl) ?_ _
          have LL := Lib.hid (show (cv ++ [(x, z)]).length ≤ 96 * k + (m + 1) by rw [List.length_append]; simp; omega)
          clear K11 K10 K0 KZ OD ZD OR OZ HB HC
          go_wp2_with fail
          go_roundw
          case rel => exact ⟨m + 1, cv ++ [(x, z)], by go_num, by omega, LL.out, CS, N9, Z9, B9⟩
          case measure => simp [intOf]; omega
        · have g2' : ¬ (m : Int) < (q : Int) := by omega
          have CE := Lib.hid (show cv = plF rs top (ids.take (k + 1)) by rw [HC.out, List.take_of_length_le (by rw [HQ.out]; omega), IS.out])
          clear HC OZ
          go_wp2
          go_roundw
          case rel => exact ⟨k + 1, cv, by go_num, by omega, CE, OR, HB⟩
          case measure => simp [intOf]; omega
    · have g1' : ¬ (k : Int) < (n : Int) := by omega
      have P := Lib.hid (own_mono OR.out (Nat.le_succ w.heap.size))
      rw [HC.out, List.take_of_length_le (show ids.length ≤ k by rw [HN.out]; omega)] at P
      clear OR HC
      go_wp2
      go_ret
      exact ⟨_, rfl, P.out, DW.out⟩

end Go.Proofs.Ytdmfljejlhlbnaa
