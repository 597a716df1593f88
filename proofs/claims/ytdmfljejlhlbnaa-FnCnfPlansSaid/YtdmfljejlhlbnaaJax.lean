/-
  THE LAW 4: the walk.
-/
import Derived.Test.YtdmfljejlhlbnaaJat
import Derived.Test.YtdmfljejlhlbnaaJau
import Derived.Test.YtdmfljejlhlbnaaJav
import Derived.OpenShut
import Derived.Test.YtdmfljejlhlbnaaJao
import Derived.Test.YtdmfljejlhlbnaaJaw
namespace Go.Proofs.Ytdmfljejlhlbnaa
open Go.RowKit
set_option linter.unusedVariables false

theorem box_facts {W : World} {X : Nat} {a b : Value} {t : TypeId} (h : W.heap[X]? = some (.cells #[a, b] t)) : W.cell? ⟨X, 0, none⟩ = some a ∧ W.cell? ⟨X, 1, none⟩ = some b ∧ W.frozen? ⟨X, 0, none⟩ = false ∧ W.frozen? ⟨X, 1, none⟩ = false ∧ X < W.heap.size :=
  ⟨by simp [World.cell?, h], by simp [World.cell?, h], by simp [World.frozen?, h], by simp [World.frozen?, h], (Array.getElem?_eq_some_iff.1 h).1⟩
theorem own_box {W : World} {C : Nat} {e : TypeId} {m : Nat} {v : Value} {n : Nat} {xs : List Value} {X : Nat} {us : Array Value} {t : TypeId} (h : W.ownsRow C e m v n xs) (hx : W.heap[X]? = some (.cells us t)) (hne : t ≠ e) (i : Nat) (u : Value) : (W.setCell ⟨X, i, none⟩ u).ownsRow C e m v n xs := by
  refine ⟨h.1, ?_⟩
  rcases h.2 with h | ⟨g, cap, cur, hv, hg, hh, r⟩
  · exact .inl h
  · refine .inr ⟨g, cap, cur, hv, hg, (Below.heap_setCell _ _ _ _ ?_).trans hh, r⟩
    intro e'
    have e'' : g = X := e'
    rw [e'', hx] at hh
    cases hh
    exact hne rfl
theorem owc_box {W : World} {C : Nat} {v : Value} {cs : List LCl} {X : Nat} {us : Array Value} {t : TypeId} (h : OwC W C v cs) (hx : W.heap[X]? = some (.cells us t)) (h1 : t ≠ 40) (h2 : t ≠ 2) (i : Nat) (u : Value) : OwC (W.setCell ⟨X, i, none⟩ u) C v cs :=
  ⟨own_box h.row hx h1 i u, fun r hr => own_box (h.each r hr) hx h2 i u, h.diff⟩
theorem box_cells {W wC : World} {X : Nat} {a b : Value} {t : TypeId} (h : Below wC.heap.size wC W) (bx : wC.heap[X]? = some (.cells #[a, b] t)) : X < W.heap.size ∧ W.cell? ⟨X, 0, none⟩ = some a ∧ W.cell? ⟨X, 1, none⟩ = some b := by
  have h2 := (h.block X (Array.getElem?_eq_some_iff.1 bx).1).trans bx
  exact ⟨(Array.getElem?_eq_some_iff.1 h2).1, by simp [World.cell?, h2], by simp [World.cell?, h2]⟩

set_option maxRecDepth 100000 in
set_option maxHeartbeats 8000000 in
theorem law4 (sl : Option Addr) (len cap : Nat) (w : World) (hl : len ≤ maxLen) (hr : RowIn w sl len) :
    Calls Try.prog 4 #[.slice sl len cap] w fun e w' => e = .returned (.bool true) ∧ Below w.heap.size w w' := by
  unfold maxLen at hl
  by_cases hz : 1048576 < len
  · have hz' : (1048576 : Int) < (len : Int) := by omega
    clear hr
    go_enter Try.func4, Try.ntmps4
    go_wp2
    go_ret
    exact ⟨rfl, Below.refl _ _⟩
  have hz' : ¬ (1048576 : Int) < (len : Int) := by omega
  have E0 := Lib.hid (dto_any sl len cap w hr)
  clear hr
  go_enter Try.func4, Try.ntmps4
  go_wp2_with fail
  refine E0.out.mono ?_
  rintro e w1 ⟨s1, c1, s2, c2, rs, ps, top, v, pl, rfl, hrs, hw, hst, hpr, hpl, ⟨C, hC0, hC, ov⟩, -, b1⟩
  obtain ⟨vs, vk, ev, pv⟩ := own_row2 ov
  subst ev
  have BB := Lib.hid (bA0 w1 (.cells #[.slice s1 rs.length c1, .slice s2 ps.length c2] 26))
  have TB := Lib.hid (TabAt.new w1 s1 rs.length c1 s2 ps.length c2)
  have DB := Lib.hid (bA b1 (.cells #[.slice s1 rs.length c1, .slice s2 ps.length c2] 26))
  have X : Hid (∀ W, Below (w1.alloc (.cells #[.slice s1 rs.length c1, .slice s2 ps.length c2] 26)).heap.size (w1.alloc (.cells #[.slice s1 rs.length c1, .slice s2 ps.length c2] 26)) W → Sts W s1 rs ∧ Prs W s2 ps ∧ Pls W vs pl) := fun W hW => ⟨(hst.below BB.out).below hW, (hpr.below BB.out).below hW, (pv.below BB.out).below hW⟩
  have KT : Hid (∀ W, Below (w1.alloc (.cells #[.slice s1 rs.length c1, .slice s2 ps.length c2] 26)).heap.size (w1.alloc (.cells #[.slice s1 rs.length c1, .slice s2 ps.length c2] 26)) W → w1.heap.size < W.heap.size ∧ W.cell? ⟨w1.heap.size, 0, none⟩ = some (.slice s1 rs.length c1) ∧ W.cell? ⟨w1.heap.size, 1, none⟩ = some (.slice s2 ps.length c2)) := fun W hW => ⟨(TB.out.below hW).lt, (TB.out.below hW).cells⟩
  clear hst hpr b1 E0 BB ov pv
  generalize hwB : w1.alloc (.cells #[.slice s1 rs.length c1, .slice s2 ps.length c2] 26) = wB at *
  have HWB := Lib.hid hwB
  clear hwB
  have E22 : Hid (∀ W, Below wB.heap.size wB W → Calls Try.prog 22 #[TV s1 rs.length c1 s2 ps.length c2, .int .i64 top, .slice vs pl.length vk] W fun e w' => e = .returned (.bool (planB rs ps top pl)) ∧ Below W.heap.size W w') := fun W hW => by
    obtain ⟨x1, x2, x3⟩ := X.out W hW
    exact spr_any s1 c1 s2 c2 vs vk rs ps pl top W (by omega) (by omega) x1 x2 x3
  have E17 : Hid (∀ W, Below wB.heap.size wB W → Calls Try.prog 17 #[.slice vs pl.length vk] W fun e w' => ∃ v, e = .returned v ∧ w'.ownsRow W.heap.size 34 2 v pl.length (enCells pl) ∧ Below W.heap.size W w') := fun W hW => lwp_any vs vk pl W (by omega) (X.out W hW).2.2
  have E23 : Hid (∀ W C v, Below wB.heap.size wB W → W.ownsRow C 34 2 v pl.length (enCells pl) → Calls Try.prog 23 #[TV s1 rs.length c1 s2 ps.length c2, .int .i64 top, v] W fun e w' => ∃ v, e = .returned v ∧ w'.ownsRow W.heap.size 2 1 v (trA rs ps top pl).length (valsZ (trA rs ps top pl)) ∧ Below W.heap.size W w') := fun W C v hW o => by
    obtain ⟨x1, x2, _⟩ := X.out W hW
    obtain ⟨s, k, rfl, ip⟩ := own_row2 o
    exact ito_any s1 c1 s2 c2 s k rs ps pl top W (by omega) (by omega) x1 x2 hw ip (own_cap6 o)
  by_cases hb : planB rs ps top pl = true
  case neg =>
    have hb' : planB rs ps top pl = false := by simpa using hb
    rw [hb'] at E22
    rw [trA_no hb] at E23
    clear hw X TB hb hb'
    generalize rs.length = n at *
    generalize ps.length = m at *
    generalize enCells pl = pc at *
    generalize pl.length = pn at *
    go_wp2_with fail
    rw [HWB.out]
    refine (E22.out _ (Below.refl _ _)).mono ?_
    rintro e w2 ⟨rfl, b2⟩
    have D2 := Lib.hid b2
    have K2 := Lib.hid (KT.out _ D2.out.drew)
    clear b2 E22 HWB
    go_wp2_with fail
    refine wp_region_held_drew (S := fun W => w1.heap.size < W.heap.size ∧ W.cell? ⟨w1.heap.size, 0, none⟩ = some (.slice s1 n c1) ∧ W.cell? ⟨w1.heap.size, 1, none⟩ = some (.slice s2 m c2)) (by kernel_rfl) ?_ (fun hHeld => ?_)
    · exact K2.out
    refine wpAnyH_take (i := 0) (oi := _) (v := ?_) rfl (by kernel_rfl) (by kernel_rfl) (by kernel_rfl) (fun _ _ _ h => h) (Or.inl ⟨by rfl, ?_⟩) (by assumption) ?_
    rotate_left
    · first | (intro w hSw; (try dsimp only at hSw); go_simp; done) | (intro w hSw; (try dsimp only at hSw); go_simp; with_reducible rfl)
    try simp only [Act.put, List.setIfInBounds_toArray, List.set_cons_zero, List.set_cons_succ, List.getElem_toArray, List.getElem_cons_zero]
    refine wpAnyH_take (i := 1) (oi := _) (v := ?_) rfl (by kernel_rfl) (by kernel_rfl) (by kernel_rfl) (fun _ _ _ h => h) (Or.inl ⟨by rfl, ?_⟩) (by assumption) ?_
    rotate_left
    · first | (intro w hSw; (try dsimp only at hSw); go_simp; done) | (intro w hSw; (try dsimp only at hSw); go_simp; with_reducible rfl)
    try simp only [Act.put, List.setIfInBounds_toArray, List.set_cons_zero, List.set_cons_succ, List.getElem_toArray, List.getElem_cons_succ, List.getElem_cons_zero]
    refine wpAnyH_take (i := 2) (oi := _) (v := ?_) rfl (by kernel_rfl) (by kernel_rfl) (by kernel_rfl) (fun _ _ _ h => h) (Or.inl ⟨by rfl, ?_⟩) (by assumption) ?_
    rotate_left
    · first | (intro w hSw; (try dsimp only at hSw); go_simp; done) | (intro w hSw; (try dsimp only at hSw); go_simp; with_reducible rfl)
    try simp only [Act.put, List.setIfInBounds_toArray, List.set_cons_zero, List.set_cons_succ, List.getElem_toArray, List.getElem_cons_succ, List.getElem_cons_zero]
    refine wpAnyH_ready (rs := [3]) (by kernel_rfl) (by simp) ?_
    refine AllReadyH.cons rfl (fun K hK => ?_) AllReadyH.nil
    go_simp
    go_wp2_with (go_at_call 17; refine (E17.out _ D2.out.drew).mono ?_; rintro e w3 ⟨v3, rfl, o3, b3⟩)
    have D3 : Hid (Below wB.heap.size wB w3) := bT D2.out.drew b3
    have C23 := Lib.hid (E23.out w3 _ v3 D3.out o3)
    clear o3 b3
    refine hK.out _ _ ?_ (fun hHeld => ?_)
    · exact KT.out _ D3.out
    clear hK K
    refine wpAnyH_ready (rs := [4]) (by kernel_rfl) (by simp) ?_
    refine AllReadyH.cons rfl (fun K hK => ?_) AllReadyH.nil
    go_simp
    go_wp2_with (go_at_call 23; refine C23.out.mono ?_; rintro e w4 ⟨v4, rfl, o4, b4⟩)
    have D4 := Lib.hid (bT D3.out b4)
    obtain ⟨s4, k4, e4⟩ := own_v o4
    rw [List.length_nil] at e4
    subst e4
    clear o4 b4 C23
    refine hK.out _ _ ?_ (fun hHeld => ?_)
    · exact KT.out _ D4.out
    clear hK K
    refine wpAnyH_take (i := 5) (oi := _) (v := ?_) rfl (by kernel_rfl) (by kernel_rfl) (by kernel_rfl) (fun _ _ _ h => h) (Or.inl ⟨by rfl, ?_⟩) (by assumption) ?_
    rotate_left
    · first | (intro w hSw; (try dsimp only at hSw); go_simp; done) | (intro w hSw; (try dsimp only at hSw); go_simp; with_reducible rfl)
    try simp only [Act.put, List.setIfInBounds_toArray, List.set_cons_zero, List.set_cons_succ, List.getElem_toArray, List.getElem_cons_succ, List.getElem_cons_zero]
    refine wpAnyH_take (i := 6) (oi := _) (v := ?_) rfl (by kernel_rfl) (by kernel_rfl) (by kernel_rfl) (fun _ _ _ h => h) (Or.inl ⟨by rfl, ?_⟩) (by assumption) ?_
    rotate_left
    · first | (intro w hSw; (try dsimp only at hSw); go_simp; done) | (intro w hSw; (try dsimp only at hSw); go_simp; with_reducible rfl)
    try simp only [Act.put, List.setIfInBounds_toArray, List.set_cons_zero, List.set_cons_succ, List.getElem_toArray, List.getElem_cons_succ, List.getElem_cons_zero]
    refine wpAnyH_take (i := 7) (oi := _) (v := ?_) rfl (by kernel_rfl) (by kernel_rfl) (by kernel_rfl) (fun _ _ _ h => h) (Or.inl ⟨by rfl, ?_⟩) (by assumption) ?_
    rotate_left
    · first | (intro w hSw; (try dsimp only at hSw); go_simp; done) | (intro w hSw; (try dsimp only at hSw); go_simp; with_reducible rfl)
    try simp only [Act.put, List.setIfInBounds_toArray, List.set_cons_zero, List.set_cons_succ, List.getElem_toArray, List.getElem_cons_succ, List.getElem_cons_zero]
    refine wpAnyH_done (by kernel_rfl) ?_ _
    have FF := Lib.hid (DB.out.trans (D4.out.mono DB.out.size))
    go_wp2
    go_ret
    exact ⟨rfl, FF.out⟩
  have ok := (planB_ok rs ps top pl).1 hb
  have hids := ids_few ok.ids
  have h96 := plF_96 top (pidsL pl) ok.ids
  have htl : (trA rs ps top pl).length ≤ 96 := by
    rw [trA_yes hb]
    have := trK_len pl (plF rs top (pidsL pl)) (plF rs top (pidsL pl)).length
    omega
  have hcl := cnA_4000 top ok.ids
  have PF := plan_fault hb
  have PO := plan_of hb
  have PR : B (CnfR (cnN rs ps top (pidsL pl) : Nat) (cnA rs ps top (pidsL pl))) = true := B_yes (cnA_right top ok.ids)
  rw [hb] at E22
  have E24 : Hid (∀ W, Below wB.heap.size wB W → Calls Try.prog 24 #[.slice vs pl.length vk] W fun e w' => ∃ v, e = .returned v ∧ w'.ownsRow W.heap.size 2 1 v (pidsL pl).length (valsZ (pidsL pl)) ∧ Below W.heap.size W w') := fun W hW => by
    have := spi_any vs vk pl W (by unfold maxLen; omega) (X.out W hW).2.2
    rwa [show pidsA pl = pidsL pl from if_pos ok.ln] at this
  have E26 : Hid (∀ (W : World) C v (zs : List Int), zs.length ≤ 1048576 → W.ownsRow C 2 1 v zs.length (valsZ zs) → Calls Try.prog 26 #[v] W fun e w' => ∃ v, e = .returned v ∧ w'.ownsRow W.heap.size 2 1 v zs.length (valsZ zs) ∧ Below W.heap.size W w') := fun W C v zs hl o => by
    obtain ⟨s, k, rfl, ip⟩ := own_ints o
    exact lwc_any s k zs W hl ip
  have E25 : Hid (∀ W C v, Below wB.heap.size wB W → W.ownsRow C 2 1 v (pidsL pl).length (valsZ (pidsL pl)) → Calls Try.prog 25 #[TV s1 rs.length c1 s2 ps.length c2, .int .i64 top, v] W fun e w' => ∃ v cs, e = .returned (.agg #[.int .i64 (cnN rs ps top (pidsL pl) : Nat), v]) ∧ OwC w' W.heap.size v cs ∧ bareC cs = cnA rs ps top (pidsL pl) ∧ Below W.heap.size W w') := fun W C v hW o => by
    obtain ⟨x1, x2, _⟩ := X.out W hW
    obtain ⟨s, k, rfl, ip⟩ := own_ints o
    exact ico_any s1 c1 s2 c2 s k rs ps top (pidsL pl) W (by omega) (by unfold maxLen; omega) x1 x2 hw ip
  have E29 : Hid (∀ W C v, Below wB.heap.size wB W → W.ownsRow C 2 1 v (pidsL pl).length (valsZ (pidsL pl)) → Calls Try.prog 29 #[TV s1 rs.length c1 s2 ps.length c2, .int .i64 top, v] W fun e w' => ∃ v cs, e = .returned (.agg #[.int .i64 (cnN rs ps top (pidsL pl) : Nat), v]) ∧ OwC w' W.heap.size v cs ∧ bareC cs = cnA rs ps top (pidsL pl) ∧ Below W.heap.size W w') := fun W C v hW o => by
    obtain ⟨x1, x2, _⟩ := X.out W hW
    obtain ⟨s, k, rfl, ip⟩ := own_ints o
    exact sco_any s1 c1 s2 c2 s k rs ps top (pidsL pl) W (by omega) (by omega) x1 x2 ip
  have E32 : Hid (∀ W C C' v v', Below wB.heap.size wB W → W.ownsRow C 2 1 v (pidsL pl).length (valsZ (pidsL pl)) → W.ownsRow C' 2 1 v' (trA rs ps top pl).length (valsZ (trA rs ps top pl)) → Calls Try.prog 32 #[TV s1 rs.length c1 s2 ps.length c2, .int .i64 top, v, v'] W fun e w' => ∃ v, e = .returned v ∧ w'.ownsRow W.heap.size 34 2 v pl.length (enCells pl) ∧ Below W.heap.size W w') := fun W C C' v v' hW o o' => by
    obtain ⟨x1, x2, _⟩ := X.out W hW
    obtain ⟨s, k, rfl, ip⟩ := own_ints o
    obtain ⟨s', k', rfl, ip'⟩ := own_ints o'
    have := ipo_any s1 c1 s2 c2 s k s' k' rs ps (pidsL pl) (trA rs ps top pl) top W (by omega) (by unfold maxLen; omega) (by unfold maxLen; omega) x1 x2 hw ip ip'
    rwa [PO] at this
  have E18 : Hid (∀ W C v, Below wB.heap.size wB W → W.ownsRow C 34 2 v pl.length (enCells pl) → Calls Try.prog 18 #[v, .slice vs pl.length vk] W fun e w' => e = .returned (.bool true) ∧ Below W.heap.size W w') := fun W C v hW o => by
    obtain ⟨s, k, rfl, ip⟩ := own_row2 o
    exact lwq_any s vs k vk pl W (by omega) ip (X.out W hW).2.2
  have CLN : Hid (∀ cs : List LCl, bareC cs = cnA rs ps top (pidsL pl) → cs.length ≤ 4000) := fun cs e => by
    have := congrArg List.length e
    rw [show (bareC cs).length = cs.length by simp [bareC]] at this
    omega
  have E27 : Hid (∀ W C v cs, OwC W C v cs → bareC cs = cnA rs ps top (pidsL pl) → Calls Try.prog 27 #[.agg #[.int .i64 (cnN rs ps top (pidsL pl) : Nat), v]] W fun e w' => e = .returned (.bool true) ∧ Below W.heap.size W w') := fun W C v cs o e => by
    obtain ⟨s, k, rfl, hc⟩ := o.cls
    have := icr_any (cnN rs ps top (pidsL pl) : Nat) s k cs W (by have := CLN.out cs e; unfold maxLen; omega) hc
    rwa [e, PR] at this
  have E28 : Hid (∀ W C C' v v' cs ds, OwC W C v cs → OwC W C' v' ds → bareC cs = cnA rs ps top (pidsL pl) → bareC ds = cnA rs ps top (pidsL pl) → Calls Try.prog 28 #[v, v'] W fun e w' => e = .returned (.bool true) ∧ Below W.heap.size W w') := fun W C C' v v' cs ds o o' e e' => by
    obtain ⟨s, k, rfl, hc⟩ := o.cls
    obtain ⟨s', k', rfl, hc'⟩ := o'.cls
    exact lwl_any s s' k k' cs ds W (by have := CLN.out cs e; omega) (e.trans e'.symm) hc hc'
  have E30 : Hid (∀ W C C' v v' cs, OwC W C v cs → bareC cs = cnA rs ps top (pidsL pl) → W.ownsRow C' 2 1 v' (trA rs ps top pl).length (valsZ (trA rs ps top pl)) → Calls Try.prog 30 #[.agg #[.int .i64 (cnN rs ps top (pidsL pl) : Nat), v], v'] W fun e w' => e = .returned (.bool true) ∧ Below W.heap.size W w') := fun W C C' v v' cs o e o' => by
    obtain ⟨s, k, rfl, hc⟩ := o.cls
    obtain ⟨s', k', rfl, ip'⟩ := own_ints o'
    have := ict_any (cnN rs ps top (pidsL pl) : Nat) s k cs s' k' (trA rs ps top pl) W (by have := CLN.out cs e; unfold maxLen; omega) (by unfold maxLen; omega) hc ip'
    rwa [e, PF] at this
  have E31 : Hid (∀ W C C' v v' cs, OwC W C v cs → bareC cs = cnA rs ps top (pidsL pl) → W.ownsRow C' 2 1 v' (trA rs ps top pl).length (valsZ (trA rs ps top pl)) → Calls Try.prog 31 #[.agg #[.int .i64 (cnN rs ps top (pidsL pl) : Nat), v], v'] W fun e w' => e = .returned (.int .i64 (-1)) ∧ Below W.heap.size W w') := fun W C C' v v' cs o e o' => by
    obtain ⟨s, k, rfl, hc⟩ := o.cls
    obtain ⟨s', k', rfl, ip'⟩ := own_ints o'
    have := icf_any (cnN rs ps top (pidsL pl) : Nat) s k cs s' k' (trA rs ps top pl) W (by have := CLN.out cs e; unfold maxLen; omega) (by unfold maxLen; omega) hc ip'
    rwa [e, PF] at this
  clear hw X TB hb ok PF PO PR h96
  generalize cnA rs ps top (pidsL pl) = CA at *
  generalize cnN rs ps top (pidsL pl) = cn at *
  generalize trA rs ps top pl = TS at *
  generalize rs.length = n at *
  generalize ps.length = m at *
  generalize enCells pl = pc at *
  generalize pl.length = pn at *
  generalize pidsL pl = IDS at *
  go_wp2_with fail
  rw [HWB.out]
  refine (E22.out _ (Below.refl _ _)).mono ?_
  rintro e w2 ⟨rfl, b2⟩
  have D2 := Lib.hid b2
  clear b2 E22 HWB
  go_wp2_with fail
  refine (E24.out _ D2.out).mono ?_
  rintro e w3 ⟨v3, rfl, o3, b3⟩
  have D3 := Lib.hid (bT D2.out b3)
  have O3 := Lib.hid o3
  obtain ⟨is, ik, rfl⟩ := own_v o3
  clear b3 o3 E24 D2
  have D3d := Lib.hid D3.out.drew
  have O3d : Hid (w3.drew.ownsRow w2.heap.size 2 1 (.slice is IDS.length ik) IDS.length (valsZ IDS)) := O3
  clear O3
  go_wp2_with fail
  refine wp_region_held_drew (S := fun W => w1.heap.size < W.heap.size ∧ W.cell? ⟨w1.heap.size, 0, none⟩ = some (.slice s1 n c1) ∧ W.cell? ⟨w1.heap.size, 1, none⟩ = some (.slice s2 m c2)) (by kernel_rfl) ?_ (fun hHeld => ?_)
  · exact KT.out _ D3d.out
  refine wpAnyH_take (i := 0) (oi := _) (v := ?_) rfl (by kernel_rfl) (by kernel_rfl) (by kernel_rfl) (fun _ _ _ h => h) (Or.inl ⟨by rfl, ?_⟩) (by assumption) ?_
  rotate_left
  · first | (intro w hSw; (try dsimp only at hSw); go_simp; done) | (intro w hSw; (try dsimp only at hSw); go_simp; with_reducible rfl)
  try simp only [Act.put, List.setIfInBounds_toArray, List.set_cons_zero, List.set_cons_succ, List.getElem_toArray, List.getElem_cons_zero]
  refine wpAnyH_take (i := 1) (oi := _) (v := ?_) rfl (by kernel_rfl) (by kernel_rfl) (by kernel_rfl) (fun _ _ _ h => h) (Or.inl ⟨by rfl, ?_⟩) (by assumption) ?_
  rotate_left
  · first | (intro w hSw; (try dsimp only at hSw); go_simp; done) | (intro w hSw; (try dsimp only at hSw); go_simp; with_reducible rfl)
  try simp only [Act.put, List.setIfInBounds_toArray, List.set_cons_zero, List.set_cons_succ, List.getElem_toArray, List.getElem_cons_succ, List.getElem_cons_zero]
  refine wpAnyH_take (i := 2) (oi := _) (v := ?_) rfl (by kernel_rfl) (by kernel_rfl) (by kernel_rfl) (fun _ _ _ h => h) (Or.inl ⟨by rfl, ?_⟩) (by assumption) ?_
  rotate_left
  · first | (intro w hSw; (try dsimp only at hSw); go_simp; done) | (intro w hSw; (try dsimp only at hSw); go_simp; with_reducible rfl)
  try simp only [Act.put, List.setIfInBounds_toArray, List.set_cons_zero, List.set_cons_succ, List.getElem_toArray, List.getElem_cons_succ, List.getElem_cons_zero]
  refine wpAnyH_ready (rs := [3, 5]) (by kernel_rfl) (by simp) ?_
  refine AllReadyH.cons rfl (fun K hK => ?_) (AllReadyH.cons rfl (fun K hK => ?_) AllReadyH.nil)
  · go_simp
    go_wp2_with (go_at_call 26; refine (E26.out _ _ _ IDS (by omega) O3d.out).mono ?_; rintro e w4 ⟨v4, rfl, o4, b4⟩)
    have D4 := Lib.hid (bT D3d.out b4)
    have O4 := Lib.hid o4
    have Q4 := Lib.hid (own_below O3d.out b4)
    clear o4 b4
    refine hK.out _ _ ?_ (fun hHeld => ?_)
    · exact KT.out _ D4.out
    clear hK K
    refine wpAnyH_ready (rs := [4, 5]) (by kernel_rfl) (by simp) ?_
    refine AllReadyH.cons rfl (fun K hK => ?_) (AllReadyH.cons rfl (fun K hK => ?_) AllReadyH.nil)
    · go_simp
      go_wp2_with (go_at_call 25; refine (E25.out _ _ _ D4.out O4.out).mono ?_; rintro e w5 ⟨v5, cs, rfl, oc5, ec5, b5⟩)
      obtain ⟨cv, ck, rfl⟩ := oc5.v
      have D5 := Lib.hid (bT D4.out b5)
      have OC5 := Lib.hid oc5
      have EC := Lib.hid ec5
      have Q5 := Lib.hid (own_below Q4.out b5)
      clear oc5 ec5 b5
      refine hK.out _ _ ?_ (fun hHeld => ?_)
      · exact KT.out _ D5.out
      clear hK K
      refine wpAnyH_ready (rs := [5]) (by kernel_rfl) (by simp) ?_
      refine AllReadyH.cons rfl (fun K hK => ?_) AllReadyH.nil
      go_simp
      have AD := Lib.hid (bA D5.out (.cells #[.int .i64 0, .slice none 0 0] 45))
      have AR : Hid ((w5.alloc (.cells #[.int .i64 0, .slice none 0 0] 45)).heap[w5.heap.size]? = some (.cells #[.int .i64 0, .slice none 0 0] 45)) := new_at _ _
      have hX : wB.heap.size ≤ w5.heap.size := D5.out.size
      refine hK.out _ _ ?_ (fun hHeld => ?_)
      · exact KT.out _ AD.out
      clear hK K
      refine wpAnyH_ready (rs := [6]) (by kernel_rfl) (by simp) ?_
      refine AllReadyH.cons rfl (fun K hK => ?_) AllReadyH.nil
      have D7 : Hid (Below wB.heap.size wB (w5.alloc (.cells #[.int .i64 (cn : Nat), .slice cv cs.length ck] 45))) := bA D5.out _
      have R7 : Hid ((w5.alloc (.cells #[.int .i64 (cn : Nat), .slice cv cs.length ck] 45)).heap[w5.heap.size]? = some (.cells #[.int .i64 (cn : Nat), .slice cv cs.length ck] 45)) := new_at _ _
      have OC7 := Lib.hid (OC5.out.below (bA0 w5 (.cells #[.int .i64 (cn : Nat), .slice cv cs.length ck] 45)))
      have Q7 := Lib.hid (own_below Q5.out (bA0 w5 (.cells #[.int .i64 (cn : Nat), .slice cv cs.length ck] 45)))
      go_simp
      refine hK.out _ _ ?_ (fun hHeld => ?_)
      · exact KT.out _ D7.out
      clear hK K
      refine wpAnyH_done (by kernel_rfl) ?_ _
      generalize hXX : w5.heap.size = X at *
      clear hXX
      generalize w5.alloc (.cells #[.int .i64 (cn : Nat), .slice cv cs.length ck] 45) = wC at *
      have FB : Hid (∀ W, Below wC.heap.size wC W → Below wB.heap.size wB W) := fun W h => bT D7.out h
      have KX : Hid (∀ W, Below wC.heap.size wC W → (w1.heap.size < W.heap.size ∧ W.cell? ⟨w1.heap.size, 0, none⟩ = some (.slice s1 n c1) ∧ W.cell? ⟨w1.heap.size, 1, none⟩ = some (.slice s2 m c2)) ∧ X < W.heap.size ∧ W.cell? ⟨X, 0, none⟩ = some (.int .i64 (cn : Nat)) ∧ W.cell? ⟨X, 1, none⟩ = some (.slice cv cs.length ck)) := fun W h => ⟨KT.out W (FB.out W h), box_cells h R7.out⟩
      have HCL := CLN.out cs EC.out
      have F0 : Hid (Below wC.heap.size wC wC.drew) := (Below.refl _ _).drew
      clear KT
      go_wp2_with fail
      refine wp_region_held_drew (S := fun W => (w1.heap.size < W.heap.size ∧ W.cell? ⟨w1.heap.size, 0, none⟩ = some (.slice s1 n c1) ∧ W.cell? ⟨w1.heap.size, 1, none⟩ = some (.slice s2 m c2)) ∧ X < W.heap.size ∧ W.cell? ⟨X, 0, none⟩ = some (.int .i64 (cn : Nat)) ∧ W.cell? ⟨X, 1, none⟩ = some (.slice cv cs.length ck)) (by kernel_rfl) ?_ (fun hHeld => ?_)
      · exact KX.out _ F0.out
      refine wpAnyH_take (i := 0) (oi := _) (v := ?_) rfl (by kernel_rfl) (by kernel_rfl) (by kernel_rfl) (fun _ _ _ h => h) (Or.inl ⟨by rfl, ?_⟩) (by assumption) ?_
      rotate_left
      · first | (intro w hSw; (try dsimp only at hSw); go_simp; done) | (intro w hSw; (try dsimp only at hSw); go_simp; with_reducible rfl)
      try simp only [Act.put, List.setIfInBounds_toArray, List.set_cons_zero, List.set_cons_succ, List.getElem_toArray, List.getElem_cons_zero]
      refine wpAnyH_take (i := 1) (oi := _) (v := ?_) rfl (by kernel_rfl) (by kernel_rfl) (by kernel_rfl) (fun _ _ _ h => h) (Or.inl ⟨by rfl, ?_⟩) (by assumption) ?_
      rotate_left
      · first | (intro w hSw; (try dsimp only at hSw); go_simp; done) | (intro w hSw; (try dsimp only at hSw); go_simp; with_reducible rfl)
      try simp only [Act.put, List.setIfInBounds_toArray, List.set_cons_zero, List.set_cons_succ, List.getElem_toArray, List.getElem_cons_succ, List.getElem_cons_zero]
      refine wpAnyH_take (i := 2) (oi := _) (v := ?_) rfl (by kernel_rfl) (by kernel_rfl) (by kernel_rfl) (fun _ _ _ h => h) (Or.inl ⟨by rfl, ?_⟩) (by assumption) ?_
      rotate_left
      · first | (intro w hSw; (try dsimp only at hSw); go_simp; done) | (intro w hSw; (try dsimp only at hSw); go_simp; with_reducible rfl)
      try simp only [Act.put, List.setIfInBounds_toArray, List.set_cons_zero, List.set_cons_succ, List.getElem_toArray, List.getElem_cons_succ, List.getElem_cons_zero]
      refine wpAnyH_ready (rs := [3]) (by kernel_rfl) (by simp) ?_
      refine AllReadyH.cons rfl (fun K hK => ?_) AllReadyH.nil
      go_simp
      go_wp2_with (go_at_call 17; refine (E17.out _ (FB.out _ F0.out)).mono ?_; rintro e w7 ⟨v7, rfl, o7, b7⟩)
      have F7 := Lib.hid (bT F0.out b7)
      have C23 := Lib.hid (E23.out w7 _ v7 (FB.out _ F7.out) o7)
      clear o7 b7
      refine hK.out _ _ ?_ (fun hHeld => ?_)
      · exact KX.out _ F7.out
      clear hK K
      refine wpAnyH_ready (rs := [4]) (by kernel_rfl) (by simp) ?_
      refine AllReadyH.cons rfl (fun K hK => ?_) AllReadyH.nil
      go_simp
      go_wp2_with (go_at_call 23; refine C23.out.mono ?_; rintro e w8 ⟨v8, rfl, o8, b8⟩)
      have F8 := Lib.hid (bT F7.out b8)
      clear C23
      refine hK.out _ _ ?_ (fun hHeld => ?_)
      · exact KX.out _ F8.out
      clear hK K
      refine wpAnyH_take (i := 5) (oi := _) (v := ?_) rfl (by kernel_rfl) (by kernel_rfl) (by kernel_rfl) (fun _ _ _ h => h) (Or.inl ⟨by rfl, ?_⟩) (by assumption) ?_
      rotate_left
      · first | (intro w hSw; (try dsimp only at hSw); go_simp; done) | (intro w hSw; (try dsimp only at hSw); go_simp; with_reducible rfl)
      try simp only [Act.put, List.setIfInBounds_toArray, List.set_cons_zero, List.set_cons_succ, List.getElem_toArray, List.getElem_cons_succ, List.getElem_cons_zero]
      refine wpAnyH_done (by kernel_rfl) ?_ _
      have T8 := Lib.hid o8
      have G8 := Lib.hid F8.out.drew
      obtain ⟨ts, tk, rfl⟩ := own_v o8
      clear o8 b8
      have T8d : Hid (w8.drew.ownsRow _ 2 1 (.slice ts TS.length tk) TS.length (valsZ TS)) := T8
      clear T8
      go_wp2_with fail
      refine wp_region_held_drew (S := fun W => (w1.heap.size < W.heap.size ∧ W.cell? ⟨w1.heap.size, 0, none⟩ = some (.slice s1 n c1) ∧ W.cell? ⟨w1.heap.size, 1, none⟩ = some (.slice s2 m c2)) ∧ X < W.heap.size ∧ W.cell? ⟨X, 0, none⟩ = some (.int .i64 (cn : Nat)) ∧ W.cell? ⟨X, 1, none⟩ = some (.slice cv cs.length ck)) (by kernel_rfl) ?_ (fun hHeld => ?_)
      · exact KX.out _ G8.out
      refine wpAnyH_take (i := 0) (oi := _) (v := ?_) rfl (by kernel_rfl) (by kernel_rfl) (by kernel_rfl) (fun _ _ _ h => h) (Or.inl ⟨by rfl, ?_⟩) (by assumption) ?_
      rotate_left
      · first | (intro w hSw; (try dsimp only at hSw); go_simp; done) | (intro w hSw; (try dsimp only at hSw); go_simp; with_reducible rfl)
      try simp only [Act.put, List.setIfInBounds_toArray, List.set_cons_zero, List.set_cons_succ, List.getElem_toArray, List.getElem_cons_zero]
      refine wpAnyH_ready (rs := [1]) (by kernel_rfl) (by simp) ?_
      refine AllReadyH.cons rfl (fun K hK => ?_) AllReadyH.nil
      go_simp
      go_wp2_with (go_at_call 27; refine (E27.out _ _ _ cs (OC7.out.below G8.out) EC.out).mono ?_; rintro e w9 ⟨rfl, b9⟩)
      have F9 := Lib.hid (bT G8.out b9)
      have T9 := Lib.hid (own_below T8d.out b9)
      clear b9
      refine hK.out _ _ ?_ (fun hHeld => ?_)
      · exact KX.out _ F9.out
      clear hK K
      refine wpAnyH_take (i := 2) (oi := _) (v := ?_) rfl (by kernel_rfl) (by kernel_rfl) (by kernel_rfl) (fun _ _ _ h => h) (Or.inl ⟨by rfl, ?_⟩) (by assumption) ?_
      rotate_left
      · first | (intro w hSw; (try dsimp only at hSw); go_simp; done) | (intro w hSw; (try dsimp only at hSw); go_simp; with_reducible rfl)
      try simp only [Act.put, List.setIfInBounds_toArray, List.set_cons_zero, List.set_cons_succ, List.getElem_toArray, List.getElem_cons_succ, List.getElem_cons_zero]
      refine wpAnyH_take (i := 3) (oi := _) (v := ?_) rfl (by kernel_rfl) (by kernel_rfl) (by kernel_rfl) (fun _ _ _ h => h) (Or.inl ⟨by rfl, ?_⟩) (by assumption) ?_
      rotate_left
      · first | (intro w hSw; (try dsimp only at hSw); go_simp; done) | (intro w hSw; (try dsimp only at hSw); go_simp; with_reducible rfl)
      try simp only [Act.put, List.setIfInBounds_toArray, List.set_cons_zero, List.set_cons_succ, List.getElem_toArray, List.getElem_cons_succ, List.getElem_cons_zero]
      refine wpAnyH_take (i := 4) (oi := _) (v := ?_) rfl (by kernel_rfl) (by kernel_rfl) (by kernel_rfl) (fun _ _ _ h => h) (Or.inl ⟨by rfl, ?_⟩) (by assumption) ?_
      rotate_left
      · first | (intro w hSw; (try dsimp only at hSw); go_simp; done) | (intro w hSw; (try dsimp only at hSw); go_simp; with_reducible rfl)
      try simp only [Act.put, List.setIfInBounds_toArray, List.set_cons_zero, List.set_cons_succ, List.getElem_toArray, List.getElem_cons_succ, List.getElem_cons_zero]
      refine wpAnyH_take (i := 5) (oi := _) (v := ?_) rfl (by kernel_rfl) (by kernel_rfl) (by kernel_rfl) (fun _ _ _ h => h) (Or.inl ⟨by rfl, ?_⟩) (by assumption) ?_
      rotate_left
      · first | (intro w hSw; (try dsimp only at hSw); go_simp; done) | (intro w hSw; (try dsimp only at hSw); go_simp; with_reducible rfl)
      try simp only [Act.put, List.setIfInBounds_toArray, List.set_cons_zero, List.set_cons_succ, List.getElem_toArray, List.getElem_cons_succ, List.getElem_cons_zero]
      refine wpAnyH_take (i := 6) (oi := _) (v := ?_) rfl (by kernel_rfl) (by kernel_rfl) (by kernel_rfl) (fun _ _ _ h => h) (Or.inl ⟨by rfl, ?_⟩) (by assumption) ?_
      rotate_left
      · first | (intro w hSw; (try dsimp only at hSw); go_simp; done) | (intro w hSw; (try dsimp only at hSw); go_simp; with_reducible rfl)
      try simp only [Act.put, List.setIfInBounds_toArray, List.set_cons_zero, List.set_cons_succ, List.getElem_toArray, List.getElem_cons_succ, List.getElem_cons_zero]
      refine wpAnyH_take (i := 7) (oi := _) (v := ?_) rfl (by kernel_rfl) (by kernel_rfl) (by kernel_rfl) (fun _ _ _ h => h) (Or.inl ⟨by rfl, ?_⟩) (by assumption) ?_
      rotate_left
      · first | (intro w hSw; (try dsimp only at hSw); go_simp; done) | (intro w hSw; (try dsimp only at hSw); go_simp; with_reducible rfl)
      try simp only [Act.put, List.setIfInBounds_toArray, List.set_cons_zero, List.set_cons_succ, List.getElem_toArray, List.getElem_cons_succ, List.getElem_cons_zero]
      refine wpAnyH_take (i := 8) (oi := _) (v := ?_) rfl (by kernel_rfl) (by kernel_rfl) (by kernel_rfl) (fun _ _ _ h => h) (Or.inl ⟨by rfl, ?_⟩) (by assumption) ?_
      rotate_left
      · first | (intro w hSw; (try dsimp only at hSw); go_simp; done) | (intro w hSw; (try dsimp only at hSw); go_simp; with_reducible rfl)
      try simp only [Act.put, List.setIfInBounds_toArray, List.set_cons_zero, List.set_cons_succ, List.getElem_toArray, List.getElem_cons_succ, List.getElem_cons_zero]
      refine wpAnyH_ready (rs := [9]) (by kernel_rfl) (by simp) ?_
      refine AllReadyH.cons rfl (fun K hK => ?_) AllReadyH.nil
      go_simp
      go_wp2_with (go_at_call 29; refine (E29.out _ _ _ (FB.out _ F9.out) (own_below Q7.out F9.out)).mono ?_; rintro e w10 ⟨v10, ds, rfl, oc10, ec10, b10⟩)
      have F10 := Lib.hid (bT F9.out b10)
      have T10 := Lib.hid (own_below T9.out b10)
      obtain ⟨dv, dk, rfl⟩ := oc10.v
      have hfd : ∀ w : World, (Instr.field 45 (.agg #[.int .i64 (cn : Nat), .slice dv ds.length dk]) 1).run Try.prog w = .ok (.slice dv ds.length dk) w := fun _ => by kernel_rfl
      have OD := Lib.hid oc10
      have ED := Lib.hid ec10
      clear b10 oc10 ec10
      refine hK.out _ _ ?_ (fun hHeld => ?_)
      · exact KX.out _ F10.out
      clear hK K
      refine wpAnyH_take (i := 10) (oi := _) (v := ?_) rfl (by kernel_rfl) (by kernel_rfl) (by kernel_rfl) (fun _ _ _ h => h) (Or.inl ⟨by rfl, ?_⟩) (by assumption) ?_
      rotate_left
      · first | (intro w hSw; (try dsimp only at hSw); go_simp; done) | (intro w hSw; (try dsimp only at hSw); go_simp; with_reducible rfl)
      try simp only [Act.put, List.setIfInBounds_toArray, List.set_cons_zero, List.set_cons_succ, List.getElem_toArray, List.getElem_cons_succ, List.getElem_cons_zero]
      refine wpAnyH_ready (rs := [11]) (by kernel_rfl) (by simp) ?_
      refine AllReadyH.cons rfl (fun K hK => ?_) AllReadyH.nil
      go_simp
      go_wp2_with (go_at_call 28; refine (E28.out _ _ _ _ _ cs ds (OC7.out.below F10.out) OD.out EC.out ED.out).mono ?_; rintro e w11 ⟨rfl, b11⟩)
      have F11 := Lib.hid (bT F10.out b11)
      have T11 := Lib.hid (own_below T10.out b11)
      clear b11 hfd
      refine hK.out _ _ ?_ (fun hHeld => ?_)
      · exact KX.out _ F11.out
      clear hK K
      refine wpAnyH_take (i := 12) (oi := _) (v := ?_) rfl (by kernel_rfl) (by kernel_rfl) (by kernel_rfl) (fun _ _ _ h => h) (Or.inl ⟨by rfl, ?_⟩) (by assumption) ?_
      rotate_left
      · first | (intro w hSw; (try dsimp only at hSw); go_simp; done) | (intro w hSw; (try dsimp only at hSw); go_simp; with_reducible rfl)
      try simp only [Act.put, List.setIfInBounds_toArray, List.set_cons_zero, List.set_cons_succ, List.getElem_toArray, List.getElem_cons_succ, List.getElem_cons_zero]
      refine wpAnyH_take (i := 13) (oi := _) (v := ?_) rfl (by kernel_rfl) (by kernel_rfl) (by kernel_rfl) (fun _ _ _ h => h) (Or.inl ⟨by rfl, ?_⟩) (by assumption) ?_
      rotate_left
      · first | (intro w hSw; (try dsimp only at hSw); go_simp; done) | (intro w hSw; (try dsimp only at hSw); go_simp; with_reducible rfl)
      try simp only [Act.put, List.setIfInBounds_toArray, List.set_cons_zero, List.set_cons_succ, List.getElem_toArray, List.getElem_cons_succ, List.getElem_cons_zero]
      refine wpAnyH_take (i := 14) (oi := _) (v := ?_) rfl (by kernel_rfl) (by kernel_rfl) (by kernel_rfl) (fun _ _ _ h => h) (Or.inl ⟨by rfl, ?_⟩) (by assumption) ?_
      rotate_left
      · first | (intro w hSw; (try dsimp only at hSw); go_simp; done) | (intro w hSw; (try dsimp only at hSw); go_simp; with_reducible rfl)
      try simp only [Act.put, List.setIfInBounds_toArray, List.set_cons_zero, List.set_cons_succ, List.getElem_toArray, List.getElem_cons_succ, List.getElem_cons_zero]
      refine wpAnyH_take (i := 15) (oi := _) (v := ?_) rfl (by kernel_rfl) (by kernel_rfl) (by kernel_rfl) (fun _ _ _ h => h) (Or.inl ⟨by rfl, ?_⟩) (by assumption) ?_
      rotate_left
      · first | (intro w hSw; (try dsimp only at hSw); go_simp; done) | (intro w hSw; (try dsimp only at hSw); go_simp; with_reducible rfl)
      try simp only [Act.put, List.setIfInBounds_toArray, List.set_cons_zero, List.set_cons_succ, List.getElem_toArray, List.getElem_cons_succ, List.getElem_cons_zero]
      refine wpAnyH_take (i := 16) (oi := _) (v := ?_) rfl (by kernel_rfl) (by kernel_rfl) (by kernel_rfl) (fun _ _ _ h => h) (Or.inl ⟨by rfl, ?_⟩) (by assumption) ?_
      rotate_left
      · first | (intro w hSw; (try dsimp only at hSw); go_simp; done) | (intro w hSw; (try dsimp only at hSw); go_simp; with_reducible rfl)
      try simp only [Act.put, List.setIfInBounds_toArray, List.set_cons_zero, List.set_cons_succ, List.getElem_toArray, List.getElem_cons_succ, List.getElem_cons_zero]
      refine wpAnyH_ready (rs := [17]) (by kernel_rfl) (by simp) ?_
      refine AllReadyH.cons rfl (fun K hK => ?_) AllReadyH.nil
      go_simp
      go_wp2_with (go_at_call 26; refine (E26.out _ _ _ TS (by omega) T11.out).mono ?_; rintro e w12 ⟨v12, rfl, o12, b12⟩)
      have F12 := Lib.hid (bT F11.out b12)
      have T12 := Lib.hid (own_below T11.out b12)
      have C30 := Lib.hid (E30.out w12 _ _ _ v12 cs (OC7.out.below F12.out) EC.out o12)
      clear b12 o12
      refine hK.out _ _ ?_ (fun hHeld => ?_)
      · exact KX.out _ F12.out
      clear hK K
      refine wpAnyH_ready (rs := [18]) (by kernel_rfl) (by simp) ?_
      refine AllReadyH.cons rfl (fun K hK => ?_) AllReadyH.nil
      go_simp
      go_wp2_with (go_at_call 30; refine C30.out.mono ?_; rintro e w13 ⟨rfl, b13⟩)
      have F13 := Lib.hid (bT F12.out b13)
      have T13 := Lib.hid (own_below T12.out b13)
      clear b13 C30
      refine hK.out _ _ ?_ (fun hHeld => ?_)
      · exact KX.out _ F13.out
      clear hK K
      refine wpAnyH_take (i := 19) (oi := _) (v := ?_) rfl (by kernel_rfl) (by kernel_rfl) (by kernel_rfl) (fun _ _ _ h => h) (Or.inl ⟨by rfl, ?_⟩) (by assumption) ?_
      rotate_left
      · first | (intro w hSw; (try dsimp only at hSw); go_simp; done) | (intro w hSw; (try dsimp only at hSw); go_simp; with_reducible rfl)
      try simp only [Act.put, List.setIfInBounds_toArray, List.set_cons_zero, List.set_cons_succ, List.getElem_toArray, List.getElem_cons_succ, List.getElem_cons_zero]
      refine wpAnyH_take (i := 20) (oi := _) (v := ?_) rfl (by kernel_rfl) (by kernel_rfl) (by kernel_rfl) (fun _ _ _ h => h) (Or.inl ⟨by rfl, ?_⟩) (by assumption) ?_
      rotate_left
      · first | (intro w hSw; (try dsimp only at hSw); go_simp; done) | (intro w hSw; (try dsimp only at hSw); go_simp; with_reducible rfl)
      try simp only [Act.put, List.setIfInBounds_toArray, List.set_cons_zero, List.set_cons_succ, List.getElem_toArray, List.getElem_cons_succ, List.getElem_cons_zero]
      refine wpAnyH_take (i := 21) (oi := _) (v := ?_) rfl (by kernel_rfl) (by kernel_rfl) (by kernel_rfl) (fun _ _ _ h => h) (Or.inl ⟨by rfl, ?_⟩) (by assumption) ?_
      rotate_left
      · first | (intro w hSw; (try dsimp only at hSw); go_simp; done) | (intro w hSw; (try dsimp only at hSw); go_simp; with_reducible rfl)
      try simp only [Act.put, List.setIfInBounds_toArray, List.set_cons_zero, List.set_cons_succ, List.getElem_toArray, List.getElem_cons_succ, List.getElem_cons_zero]
      refine wpAnyH_take (i := 22) (oi := _) (v := ?_) rfl (by kernel_rfl) (by kernel_rfl) (by kernel_rfl) (fun _ _ _ h => h) (Or.inl ⟨by rfl, ?_⟩) (by assumption) ?_
      rotate_left
      · first | (intro w hSw; (try dsimp only at hSw); go_simp; done) | (intro w hSw; (try dsimp only at hSw); go_simp; with_reducible rfl)
      try simp only [Act.put, List.setIfInBounds_toArray, List.set_cons_zero, List.set_cons_succ, List.getElem_toArray, List.getElem_cons_succ, List.getElem_cons_zero]
      refine wpAnyH_take (i := 23) (oi := _) (v := ?_) rfl (by kernel_rfl) (by kernel_rfl) (by kernel_rfl) (fun _ _ _ h => h) (Or.inl ⟨by rfl, ?_⟩) (by assumption) ?_
      rotate_left
      · first | (intro w hSw; (try dsimp only at hSw); go_simp; done) | (intro w hSw; (try dsimp only at hSw); go_simp; with_reducible rfl)
      try simp only [Act.put, List.setIfInBounds_toArray, List.set_cons_zero, List.set_cons_succ, List.getElem_toArray, List.getElem_cons_succ, List.getElem_cons_zero]
      refine wpAnyH_ready (rs := [24]) (by kernel_rfl) (by simp) ?_
      refine AllReadyH.cons rfl (fun K hK => ?_) AllReadyH.nil
      go_simp
      go_wp2_with (go_at_call 26; refine (E26.out _ _ _ TS (by omega) T13.out).mono ?_; rintro e w14 ⟨v14, rfl, o14, b14⟩)
      have F14 := Lib.hid (bT F13.out b14)
      have T14 := Lib.hid (own_below T13.out b14)
      have C31 := Lib.hid (E31.out w14 _ _ _ v14 cs (OC7.out.below F14.out) EC.out o14)
      clear b14 o14
      refine hK.out _ _ ?_ (fun hHeld => ?_)
      · exact KX.out _ F14.out
      clear hK K
      refine wpAnyH_ready (rs := [25]) (by kernel_rfl) (by simp) ?_
      refine AllReadyH.cons rfl (fun K hK => ?_) AllReadyH.nil
      go_simp
      go_wp2_with (go_at_call 31; refine C31.out.mono ?_; rintro e w15 ⟨rfl, b15⟩)
      have F15 := Lib.hid (bT F14.out b15)
      have T15 := Lib.hid (own_below T14.out b15)
      clear b15 C31
      refine hK.out _ _ ?_ (fun hHeld => ?_)
      · exact KX.out _ F15.out
      clear hK K
      refine wpAnyH_take (i := 26) (oi := _) (v := ?_) rfl (by kernel_rfl) (by kernel_rfl) (by kernel_rfl) (fun _ _ _ h => h) (Or.inl ⟨by rfl, ?_⟩) (by assumption) ?_
      rotate_left
      · first | (intro w hSw; (try dsimp only at hSw); go_simp; done) | (intro w hSw; (try dsimp only at hSw); go_simp; with_reducible rfl)
      try simp only [Act.put, List.setIfInBounds_toArray, List.set_cons_zero, List.set_cons_succ, List.getElem_toArray, List.getElem_cons_succ, List.getElem_cons_zero]
      refine wpAnyH_take (i := 27) (oi := _) (v := ?_) rfl (by kernel_rfl) (by kernel_rfl) (by kernel_rfl) (fun _ _ _ h => h) (Or.inl ⟨by rfl, ?_⟩) (by assumption) ?_
      rotate_left
      · first | (intro w hSw; (try dsimp only at hSw); go_simp; done) | (intro w hSw; (try dsimp only at hSw); go_simp; with_reducible rfl)
      try simp only [Act.put, List.setIfInBounds_toArray, List.set_cons_zero, List.set_cons_succ, List.getElem_toArray, List.getElem_cons_succ, List.getElem_cons_zero]
      refine wpAnyH_done (by kernel_rfl) ?_ _
      have G9 := Lib.hid F15.out.drew
      have T9d : Hid (w15.drew.ownsRow _ 2 1 (.slice ts TS.length tk) TS.length (valsZ TS)) := T15
      clear T15
      go_wp2_with fail
      refine wp_region_held_drew (S := fun W => (w1.heap.size < W.heap.size ∧ W.cell? ⟨w1.heap.size, 0, none⟩ = some (.slice s1 n c1) ∧ W.cell? ⟨w1.heap.size, 1, none⟩ = some (.slice s2 m c2)) ∧ X < W.heap.size ∧ W.cell? ⟨X, 0, none⟩ = some (.int .i64 (cn : Nat)) ∧ W.cell? ⟨X, 1, none⟩ = some (.slice cv cs.length ck)) (by kernel_rfl) ?_ (fun hHeld => ?_)
      · exact KX.out _ G9.out
      refine wpAnyH_take (i := 0) (oi := _) (v := ?_) rfl (by kernel_rfl) (by kernel_rfl) (by kernel_rfl) (fun _ _ _ h => h) (Or.inl ⟨by rfl, ?_⟩) (by assumption) ?_
      rotate_left
      · first | (intro w hSw; (try dsimp only at hSw); go_simp; done) | (intro w hSw; (try dsimp only at hSw); go_simp; with_reducible rfl)
      try simp only [Act.put, List.setIfInBounds_toArray, List.set_cons_zero, List.set_cons_succ, List.getElem_toArray, List.getElem_cons_zero]
      refine wpAnyH_take (i := 1) (oi := _) (v := ?_) rfl (by kernel_rfl) (by kernel_rfl) (by kernel_rfl) (fun _ _ _ h => h) (Or.inl ⟨by rfl, ?_⟩) (by assumption) ?_
      rotate_left
      · first | (intro w hSw; (try dsimp only at hSw); go_simp; done) | (intro w hSw; (try dsimp only at hSw); go_simp; with_reducible rfl)
      try simp only [Act.put, List.setIfInBounds_toArray, List.set_cons_zero, List.set_cons_succ, List.getElem_toArray, List.getElem_cons_succ, List.getElem_cons_zero]
      refine wpAnyH_take (i := 2) (oi := _) (v := ?_) rfl (by kernel_rfl) (by kernel_rfl) (by kernel_rfl) (fun _ _ _ h => h) (Or.inl ⟨by rfl, ?_⟩) (by assumption) ?_
      rotate_left
      · first | (intro w hSw; (try dsimp only at hSw); go_simp; done) | (intro w hSw; (try dsimp only at hSw); go_simp; with_reducible rfl)
      try simp only [Act.put, List.setIfInBounds_toArray, List.set_cons_zero, List.set_cons_succ, List.getElem_toArray, List.getElem_cons_succ, List.getElem_cons_zero]
      refine wpAnyH_take (i := 4) (oi := _) (v := ?_) rfl (by kernel_rfl) (by kernel_rfl) (by kernel_rfl) (fun _ _ _ h => h) (Or.inl ⟨by rfl, ?_⟩) (by assumption) ?_
      rotate_left
      · first | (intro w hSw; (try dsimp only at hSw); go_simp; done) | (intro w hSw; (try dsimp only at hSw); go_simp; with_reducible rfl)
      try simp only [Act.put, List.setIfInBounds_toArray, List.set_cons_zero, List.set_cons_succ, List.getElem_toArray, List.getElem_cons_succ, List.getElem_cons_zero]
      refine wpAnyH_take (i := 7) (oi := _) (v := ?_) rfl (by kernel_rfl) (by kernel_rfl) (by kernel_rfl) (fun _ _ _ h => h) (Or.inl ⟨by rfl, ?_⟩) (by assumption) ?_
      rotate_left
      · first | (intro w hSw; (try dsimp only at hSw); go_simp; done) | (intro w hSw; (try dsimp only at hSw); go_simp; with_reducible rfl)
      try simp only [Act.put, List.setIfInBounds_toArray, List.set_cons_zero, List.set_cons_succ, List.getElem_toArray, List.getElem_cons_succ, List.getElem_cons_zero]
      refine wpAnyH_ready (rs := [3]) (by kernel_rfl) (by simp) ?_
      refine AllReadyH.cons rfl (fun K hK => ?_) AllReadyH.nil
      go_simp
      go_wp2_with (go_at_call 26; refine (E26.out _ _ _ IDS (by omega) (own_below Q7.out G9.out)).mono ?_; rintro e w16 ⟨v16, rfl, o16, b16⟩)
      have F16 := Lib.hid (bT G9.out b16)
      have T16 := Lib.hid (own_below T9d.out b16)
      have O16 := Lib.hid o16
      clear b16 o16
      refine hK.out _ _ ?_ (fun hHeld => ?_)
      · exact KX.out _ F16.out
      clear hK K
      refine wpAnyH_ready (rs := [5]) (by kernel_rfl) (by simp) ?_
      refine AllReadyH.cons rfl (fun K hK => ?_) AllReadyH.nil
      go_simp
      go_wp2_with (go_at_call 26; refine (E26.out _ _ _ TS (by omega) T16.out).mono ?_; rintro e w17 ⟨v17, rfl, o17, b17⟩)
      have F17 := Lib.hid (bT F16.out b17)
      have C32 := Lib.hid (E32.out w17 _ _ v16 v17 (FB.out _ F17.out) (own_below O16.out b17) o17)
      clear b17 o17 O16
      refine hK.out _ _ ?_ (fun hHeld => ?_)
      · exact KX.out _ F17.out
      clear hK K
      refine wpAnyH_ready (rs := [6]) (by kernel_rfl) (by simp) ?_
      refine AllReadyH.cons rfl (fun K hK => ?_) AllReadyH.nil
      go_simp
      go_wp2_with (go_at_call 32; refine C32.out.mono ?_; rintro e w18 ⟨v18, rfl, o18, b18⟩)
      have F18 := Lib.hid (bT F17.out b18)
      have C18 := Lib.hid (E18.out w18 _ v18 (FB.out _ F18.out) o18)
      clear b18 o18 C32
      refine hK.out _ _ ?_ (fun hHeld => ?_)
      · exact KX.out _ F18.out
      clear hK K
      refine wpAnyH_ready (rs := [8]) (by kernel_rfl) (by simp) ?_
      refine AllReadyH.cons rfl (fun K hK => ?_) AllReadyH.nil
      go_simp
      go_wp2_with (go_at_call 18; refine C18.out.mono ?_; rintro e w19 ⟨rfl, b19⟩)
      have F19 := Lib.hid (bT F18.out b19)
      clear b19 C18
      refine hK.out _ _ ?_ (fun hHeld => ?_)
      · exact KX.out _ F19.out
      clear hK K
      refine wpAnyH_take (i := 9) (oi := _) (v := ?_) rfl (by kernel_rfl) (by kernel_rfl) (by kernel_rfl) (fun _ _ _ h => h) (Or.inl ⟨by rfl, ?_⟩) (by assumption) ?_
      rotate_left
      · first | (intro w hSw; (try dsimp only at hSw); go_simp; done) | (intro w hSw; (try dsimp only at hSw); go_simp; with_reducible rfl)
      try simp only [Act.put, List.setIfInBounds_toArray, List.set_cons_zero, List.set_cons_succ, List.getElem_toArray, List.getElem_cons_succ, List.getElem_cons_zero]
      refine wpAnyH_done (by kernel_rfl) ?_ _
      have FF := Lib.hid (DB.out.trans ((FB.out _ F19.out).mono DB.out.size))
      go_wp2
      go_ret
      exact ⟨rfl, FF.out⟩
    · go_simp
      have AD := Lib.hid (bA D4.out (.cells #[.int .i64 0, .slice none 0 0] 45))
      have AR : Hid ((w4.alloc (.cells #[.int .i64 0, .slice none 0 0] 45)).heap[w4.heap.size]? = some (.cells #[.int .i64 0, .slice none 0 0] 45)) := new_at _ _
      have hX : wB.heap.size ≤ w4.heap.size := D4.out.size
      refine hK.out _ _ ?_ (fun hHeld => ?_)
      · exact KT.out _ AD.out
      clear hK K
      have O4a := Lib.hid (own_below O4.out (bA0 w4 (.cells #[.int .i64 0, .slice none 0 0] 45)))
      have Q4a := Lib.hid (own_below Q4.out (bA0 w4 (.cells #[.int .i64 0, .slice none 0 0] 45)))
      refine wpAnyH_ready (rs := [4]) (by kernel_rfl) (by simp) ?_
      refine AllReadyH.cons rfl (fun K hK => ?_) AllReadyH.nil
      go_simp
      go_wp2_with (go_at_call 25; refine (E25.out _ _ _ AD.out O4a.out).mono ?_; rintro e w5 ⟨v5, cs, rfl, oc5, ec5, b5⟩)
      obtain ⟨cv, ck, rfl⟩ := oc5.v
      have D5 := Lib.hid (bT AD.out b5)
      have OC5 := Lib.hid oc5
      have EC := Lib.hid ec5
      have Q5 := Lib.hid (own_below Q4a.out b5)
      have R5 := Lib.hid ((b5.block _ (Array.getElem?_eq_some_iff.1 AR.out).1).trans AR.out)
      clear oc5 ec5 b5
      refine hK.out _ _ ?_ (fun hHeld => ?_)
      · exact KT.out _ D5.out
      clear hK K
      refine wpAnyH_ready (rs := [6]) (by kernel_rfl) (by simp) ?_
      refine AllReadyH.cons rfl (fun K hK => ?_) AllReadyH.nil
      have R1 := heap_setCell_same (w5) (w4.heap.size) 0 _ 45 (.int .i64 (cn : Nat)) R5.out
      have R7 : Hid ((((w5).setCell ⟨w4.heap.size, 0, none⟩ (.int .i64 (cn : Nat))).setCell ⟨w4.heap.size, 1, none⟩ (.slice cv cs.length ck)).heap[w4.heap.size]? = some (.cells #[(.int .i64 (cn : Nat)), (.slice cv cs.length ck)] 45)) := heap_setCell_same _ (w4.heap.size) 1 _ 45 (.slice cv cs.length ck) R1
      obtain ⟨c0, c1', f0, f1, lt7⟩ := box_facts R5.out
      have D7 : Hid (Below wB.heap.size wB (((w5).setCell ⟨w4.heap.size, 0, none⟩ (.int .i64 (cn : Nat))).setCell ⟨w4.heap.size, 1, none⟩ (.slice cv cs.length ck))) := ((D5.out.setCell hX _).setCell hX _)
      have OC7 : Hid (OwC (((w5).setCell ⟨w4.heap.size, 0, none⟩ (.int .i64 (cn : Nat))).setCell ⟨w4.heap.size, 1, none⟩ (.slice cv cs.length ck)) _ (.slice cv cs.length ck) cs) := owc_box (owc_box OC5.out R5.out (by decide) (by decide) 0 (.int .i64 (cn : Nat))) R1 (by decide) (by decide) 1 (.slice cv cs.length ck)
      have Q7 : Hid (((((w5).setCell ⟨w4.heap.size, 0, none⟩ (.int .i64 (cn : Nat))).setCell ⟨w4.heap.size, 1, none⟩ (.slice cv cs.length ck))).ownsRow _ 2 1 (.slice is IDS.length ik) IDS.length (valsZ IDS)) := own_box (own_box Q5.out R5.out (by decide) 0 (.int .i64 (cn : Nat))) R1 (by decide) 1 (.slice cv cs.length ck)
      clear R1
      go_simp
      refine hK.out _ _ ?_ (fun hHeld => ?_)
      · exact KT.out _ D7.out
      clear hK K c0 c1' f0 f1 lt7
      refine wpAnyH_done (by kernel_rfl) ?_ _
      generalize w4.heap.size = X at *
      generalize (((w5).setCell ⟨X, 0, none⟩ (.int .i64 (cn : Nat))).setCell ⟨X, 1, none⟩ (.slice cv cs.length ck)) = wC at *
      have FB : Hid (∀ W, Below wC.heap.size wC W → Below wB.heap.size wB W) := fun W h => bT D7.out h
      have KX : Hid (∀ W, Below wC.heap.size wC W → (w1.heap.size < W.heap.size ∧ W.cell? ⟨w1.heap.size, 0, none⟩ = some (.slice s1 n c1) ∧ W.cell? ⟨w1.heap.size, 1, none⟩ = some (.slice s2 m c2)) ∧ X < W.heap.size ∧ W.cell? ⟨X, 0, none⟩ = some (.int .i64 (cn : Nat)) ∧ W.cell? ⟨X, 1, none⟩ = some (.slice cv cs.length ck)) := fun W h => ⟨KT.out W (FB.out W h), box_cells h R7.out⟩
      have HCL := CLN.out cs EC.out
      have F0 : Hid (Below wC.heap.size wC wC.drew) := (Below.refl _ _).drew
      clear KT
      go_wp2_with fail
      refine wp_region_held_drew (S := fun W => (w1.heap.size < W.heap.size ∧ W.cell? ⟨w1.heap.size, 0, none⟩ = some (.slice s1 n c1) ∧ W.cell? ⟨w1.heap.size, 1, none⟩ = some (.slice s2 m c2)) ∧ X < W.heap.size ∧ W.cell? ⟨X, 0, none⟩ = some (.int .i64 (cn : Nat)) ∧ W.cell? ⟨X, 1, none⟩ = some (.slice cv cs.length ck)) (by kernel_rfl) ?_ (fun hHeld => ?_)
      · exact KX.out _ F0.out
      refine wpAnyH_take (i := 0) (oi := _) (v := ?_) rfl (by kernel_rfl) (by kernel_rfl) (by kernel_rfl) (fun _ _ _ h => h) (Or.inl ⟨by rfl, ?_⟩) (by assumption) ?_
      rotate_left
      · first | (intro w hSw; (try dsimp only at hSw); go_simp; done) | (intro w hSw; (try dsimp only at hSw); go_simp; with_reducible rfl)
      try simp only [Act.put, List.setIfInBounds_toArray, List.set_cons_zero, List.set_cons_succ, List.getElem_toArray, List.getElem_cons_zero]
      refine wpAnyH_take (i := 1) (oi := _) (v := ?_) rfl (by kernel_rfl) (by kernel_rfl) (by kernel_rfl) (fun _ _ _ h => h) (Or.inl ⟨by rfl, ?_⟩) (by assumption) ?_
      rotate_left
      · first | (intro w hSw; (try dsimp only at hSw); go_simp; done) | (intro w hSw; (try dsimp only at hSw); go_simp; with_reducible rfl)
      try simp only [Act.put, List.setIfInBounds_toArray, List.set_cons_zero, List.set_cons_succ, List.getElem_toArray, List.getElem_cons_succ, List.getElem_cons_zero]
      refine wpAnyH_take (i := 2) (oi := _) (v := ?_) rfl (by kernel_rfl) (by kernel_rfl) (by kernel_rfl) (fun _ _ _ h => h) (Or.inl ⟨by rfl, ?_⟩) (by assumption) ?_
      rotate_left
      · first | (intro w hSw; (try dsimp only at hSw); go_simp; done) | (intro w hSw; (try dsimp only at hSw); go_simp; with_reducible rfl)
      try simp only [Act.put, List.setIfInBounds_toArray, List.set_cons_zero, List.set_cons_succ, List.getElem_toArray, List.getElem_cons_succ, List.getElem_cons_zero]
      refine wpAnyH_ready (rs := [3]) (by kernel_rfl) (by simp) ?_
      refine AllReadyH.cons rfl (fun K hK => ?_) AllReadyH.nil
      go_simp
      go_wp2_with (go_at_call 17; refine (E17.out _ (FB.out _ F0.out)).mono ?_; rintro e w7 ⟨v7, rfl, o7, b7⟩)
      have F7 := Lib.hid (bT F0.out b7)
      have C23 := Lib.hid (E23.out w7 _ v7 (FB.out _ F7.out) o7)
      clear o7 b7
      refine hK.out _ _ ?_ (fun hHeld => ?_)
      · exact KX.out _ F7.out
      clear hK K
      refine wpAnyH_ready (rs := [4]) (by kernel_rfl) (by simp) ?_
      refine AllReadyH.cons rfl (fun K hK => ?_) AllReadyH.nil
      go_simp
      go_wp2_with (go_at_call 23; refine C23.out.mono ?_; rintro e w8 ⟨v8, rfl, o8, b8⟩)
      have F8 := Lib.hid (bT F7.out b8)
      clear C23
      refine hK.out _ _ ?_ (fun hHeld => ?_)
      · exact KX.out _ F8.out
      clear hK K
      refine wpAnyH_take (i := 5) (oi := _) (v := ?_) rfl (by kernel_rfl) (by kernel_rfl) (by kernel_rfl) (fun _ _ _ h => h) (Or.inl ⟨by rfl, ?_⟩) (by assumption) ?_
      rotate_left
      · first | (intro w hSw; (try dsimp only at hSw); go_simp; done) | (intro w hSw; (try dsimp only at hSw); go_simp; with_reducible rfl)
      try simp only [Act.put, List.setIfInBounds_toArray, List.set_cons_zero, List.set_cons_succ, List.getElem_toArray, List.getElem_cons_succ, List.getElem_cons_zero]
      refine wpAnyH_done (by kernel_rfl) ?_ _
      have T8 := Lib.hid o8
      have G8 := Lib.hid F8.out.drew
      obtain ⟨ts, tk, rfl⟩ := own_v o8
      clear o8 b8
      have T8d : Hid (w8.drew.ownsRow _ 2 1 (.slice ts TS.length tk) TS.length (valsZ TS)) := T8
      clear T8
      go_wp2_with fail
      refine wp_region_held_drew (S := fun W => (w1.heap.size < W.heap.size ∧ W.cell? ⟨w1.heap.size, 0, none⟩ = some (.slice s1 n c1) ∧ W.cell? ⟨w1.heap.size, 1, none⟩ = some (.slice s2 m c2)) ∧ X < W.heap.size ∧ W.cell? ⟨X, 0, none⟩ = some (.int .i64 (cn : Nat)) ∧ W.cell? ⟨X, 1, none⟩ = some (.slice cv cs.length ck)) (by kernel_rfl) ?_ (fun hHeld => ?_)
      · exact KX.out _ G8.out
      refine wpAnyH_take (i := 0) (oi := _) (v := ?_) rfl (by kernel_rfl) (by kernel_rfl) (by kernel_rfl) (fun _ _ _ h => h) (Or.inl ⟨by rfl, ?_⟩) (by assumption) ?_
      rotate_left
      · first | (intro w hSw; (try dsimp only at hSw); go_simp; done) | (intro w hSw; (try dsimp only at hSw); go_simp; with_reducible rfl)
      try simp only [Act.put, List.setIfInBounds_toArray, List.set_cons_zero, List.set_cons_succ, List.getElem_toArray, List.getElem_cons_zero]
      refine wpAnyH_ready (rs := [1]) (by kernel_rfl) (by simp) ?_
      refine AllReadyH.cons rfl (fun K hK => ?_) AllReadyH.nil
      go_simp
      go_wp2_with (go_at_call 27; refine (E27.out _ _ _ cs (OC7.out.below G8.out) EC.out).mono ?_; rintro e w9 ⟨rfl, b9⟩)
      have F9 := Lib.hid (bT G8.out b9)
      have T9 := Lib.hid (own_below T8d.out b9)
      clear b9
      refine hK.out _ _ ?_ (fun hHeld => ?_)
      · exact KX.out _ F9.out
      clear hK K
      refine wpAnyH_take (i := 2) (oi := _) (v := ?_) rfl (by kernel_rfl) (by kernel_rfl) (by kernel_rfl) (fun _ _ _ h => h) (Or.inl ⟨by rfl, ?_⟩) (by assumption) ?_
      rotate_left
      · first | (intro w hSw; (try dsimp only at hSw); go_simp; done) | (intro w hSw; (try dsimp only at hSw); go_simp; with_reducible rfl)
      try simp only [Act.put, List.setIfInBounds_toArray, List.set_cons_zero, List.set_cons_succ, List.getElem_toArray, List.getElem_cons_succ, List.getElem_cons_zero]
      refine wpAnyH_take (i := 3) (oi := _) (v := ?_) rfl (by kernel_rfl) (by kernel_rfl) (by kernel_rfl) (fun _ _ _ h => h) (Or.inl ⟨by rfl, ?_⟩) (by assumption) ?_
      rotate_left
      · first | (intro w hSw; (try dsimp only at hSw); go_simp; done) | (intro w hSw; (try dsimp only at hSw); go_simp; with_reducible rfl)
      try simp only [Act.put, List.setIfInBounds_toArray, List.set_cons_zero, List.set_cons_succ, List.getElem_toArray, List.getElem_cons_succ, List.getElem_cons_zero]
      refine wpAnyH_take (i := 4) (oi := _) (v := ?_) rfl (by kernel_rfl) (by kernel_rfl) (by kernel_rfl) (fun _ _ _ h => h) (Or.inl ⟨by rfl, ?_⟩) (by assumption) ?_
      rotate_left
      · first | (intro w hSw; (try dsimp only at hSw); go_simp; done) | (intro w hSw; (try dsimp only at hSw); go_simp; with_reducible rfl)
      try simp only [Act.put, List.setIfInBounds_toArray, List.set_cons_zero, List.set_cons_succ, List.getElem_toArray, List.getElem_cons_succ, List.getElem_cons_zero]
      refine wpAnyH_take (i := 5) (oi := _) (v := ?_) rfl (by kernel_rfl) (by kernel_rfl) (by kernel_rfl) (fun _ _ _ h => h) (Or.inl ⟨by rfl, ?_⟩) (by assumption) ?_
      rotate_left
      · first | (intro w hSw; (try dsimp only at hSw); go_simp; done) | (intro w hSw; (try dsimp only at hSw); go_simp; with_reducible rfl)
      try simp only [Act.put, List.setIfInBounds_toArray, List.set_cons_zero, List.set_cons_succ, List.getElem_toArray, List.getElem_cons_succ, List.getElem_cons_zero]
      refine wpAnyH_take (i := 6) (oi := _) (v := ?_) rfl (by kernel_rfl) (by kernel_rfl) (by kernel_rfl) (fun _ _ _ h => h) (Or.inl ⟨by rfl, ?_⟩) (by assumption) ?_
      rotate_left
      · first | (intro w hSw; (try dsimp only at hSw); go_simp; done) | (intro w hSw; (try dsimp only at hSw); go_simp; with_reducible rfl)
      try simp only [Act.put, List.setIfInBounds_toArray, List.set_cons_zero, List.set_cons_succ, List.getElem_toArray, List.getElem_cons_succ, List.getElem_cons_zero]
      refine wpAnyH_take (i := 7) (oi := _) (v := ?_) rfl (by kernel_rfl) (by kernel_rfl) (by kernel_rfl) (fun _ _ _ h => h) (Or.inl ⟨by rfl, ?_⟩) (by assumption) ?_
      rotate_left
      · first | (intro w hSw; (try dsimp only at hSw); go_simp; done) | (intro w hSw; (try dsimp only at hSw); go_simp; with_reducible rfl)
      try simp only [Act.put, List.setIfInBounds_toArray, List.set_cons_zero, List.set_cons_succ, List.getElem_toArray, List.getElem_cons_succ, List.getElem_cons_zero]
      refine wpAnyH_take (i := 8) (oi := _) (v := ?_) rfl (by kernel_rfl) (by kernel_rfl) (by kernel_rfl) (fun _ _ _ h => h) (Or.inl ⟨by rfl, ?_⟩) (by assumption) ?_
      rotate_left
      · first | (intro w hSw; (try dsimp only at hSw); go_simp; done) | (intro w hSw; (try dsimp only at hSw); go_simp; with_reducible rfl)
      try simp only [Act.put, List.setIfInBounds_toArray, List.set_cons_zero, List.set_cons_succ, List.getElem_toArray, List.getElem_cons_succ, List.getElem_cons_zero]
      refine wpAnyH_ready (rs := [9]) (by kernel_rfl) (by simp) ?_
      refine AllReadyH.cons rfl (fun K hK => ?_) AllReadyH.nil
      go_simp
      go_wp2_with (go_at_call 29; refine (E29.out _ _ _ (FB.out _ F9.out) (own_below Q7.out F9.out)).mono ?_; rintro e w10 ⟨v10, ds, rfl, oc10, ec10, b10⟩)
      have F10 := Lib.hid (bT F9.out b10)
      have T10 := Lib.hid (own_below T9.out b10)
      obtain ⟨dv, dk, rfl⟩ := oc10.v
      have hfd : ∀ w : World, (Instr.field 45 (.agg #[.int .i64 (cn : Nat), .slice dv ds.length dk]) 1).run Try.prog w = .ok (.slice dv ds.length dk) w := fun _ => by kernel_rfl
      have OD := Lib.hid oc10
      have ED := Lib.hid ec10
      clear b10 oc10 ec10
      refine hK.out _ _ ?_ (fun hHeld => ?_)
      · exact KX.out _ F10.out
      clear hK K
      refine wpAnyH_take (i := 10) (oi := _) (v := ?_) rfl (by kernel_rfl) (by kernel_rfl) (by kernel_rfl) (fun _ _ _ h => h) (Or.inl ⟨by rfl, ?_⟩) (by assumption) ?_
      rotate_left
      · first | (intro w hSw; (try dsimp only at hSw); go_simp; done) | (intro w hSw; (try dsimp only at hSw); go_simp; with_reducible rfl)
      try simp only [Act.put, List.setIfInBounds_toArray, List.set_cons_zero, List.set_cons_succ, List.getElem_toArray, List.getElem_cons_succ, List.getElem_cons_zero]
      refine wpAnyH_ready (rs := [11]) (by kernel_rfl) (by simp) ?_
      refine AllReadyH.cons rfl (fun K hK => ?_) AllReadyH.nil
      go_simp
      go_wp2_with (go_at_call 28; refine (E28.out _ _ _ _ _ cs ds (OC7.out.below F10.out) OD.out EC.out ED.out).mono ?_; rintro e w11 ⟨rfl, b11⟩)
      have F11 := Lib.hid (bT F10.out b11)
      have T11 := Lib.hid (own_below T10.out b11)
      clear b11 hfd
      refine hK.out _ _ ?_ (fun hHeld => ?_)
      · exact KX.out _ F11.out
      clear hK K
      refine wpAnyH_take (i := 12) (oi := _) (v := ?_) rfl (by kernel_rfl) (by kernel_rfl) (by kernel_rfl) (fun _ _ _ h => h) (Or.inl ⟨by rfl, ?_⟩) (by assumption) ?_
      rotate_left
      · first | (intro w hSw; (try dsimp only at hSw); go_simp; done) | (intro w hSw; (try dsimp only at hSw); go_simp; with_reducible rfl)
      try simp only [Act.put, List.setIfInBounds_toArray, List.set_cons_zero, List.set_cons_succ, List.getElem_toArray, List.getElem_cons_succ, List.getElem_cons_zero]
      refine wpAnyH_take (i := 13) (oi := _) (v := ?_) rfl (by kernel_rfl) (by kernel_rfl) (by kernel_rfl) (fun _ _ _ h => h) (Or.inl ⟨by rfl, ?_⟩) (by assumption) ?_
      rotate_left
      · first | (intro w hSw; (try dsimp only at hSw); go_simp; done) | (intro w hSw; (try dsimp only at hSw); go_simp; with_reducible rfl)
      try simp only [Act.put, List.setIfInBounds_toArray, List.set_cons_zero, List.set_cons_succ, List.getElem_toArray, List.getElem_cons_succ, List.getElem_cons_zero]
      refine wpAnyH_take (i := 14) (oi := _) (v := ?_) rfl (by kernel_rfl) (by kernel_rfl) (by kernel_rfl) (fun _ _ _ h => h) (Or.inl ⟨by rfl, ?_⟩) (by assumption) ?_
      rotate_left
      · first | (intro w hSw; (try dsimp only at hSw); go_simp; done) | (intro w hSw; (try dsimp only at hSw); go_simp; with_reducible rfl)
      try simp only [Act.put, List.setIfInBounds_toArray, List.set_cons_zero, List.set_cons_succ, List.getElem_toArray, List.getElem_cons_succ, List.getElem_cons_zero]
      refine wpAnyH_take (i := 15) (oi := _) (v := ?_) rfl (by kernel_rfl) (by kernel_rfl) (by kernel_rfl) (fun _ _ _ h => h) (Or.inl ⟨by rfl, ?_⟩) (by assumption) ?_
      rotate_left
      · first | (intro w hSw; (try dsimp only at hSw); go_simp; done) | (intro w hSw; (try dsimp only at hSw); go_simp; with_reducible rfl)
      try simp only [Act.put, List.setIfInBounds_toArray, List.set_cons_zero, List.set_cons_succ, List.getElem_toArray, List.getElem_cons_succ, List.getElem_cons_zero]
      refine wpAnyH_take (i := 16) (oi := _) (v := ?_) rfl (by kernel_rfl) (by kernel_rfl) (by kernel_rfl) (fun _ _ _ h => h) (Or.inl ⟨by rfl, ?_⟩) (by assumption) ?_
      rotate_left
      · first | (intro w hSw; (try dsimp only at hSw); go_simp; done) | (intro w hSw; (try dsimp only at hSw); go_simp; with_reducible rfl)
      try simp only [Act.put, List.setIfInBounds_toArray, List.set_cons_zero, List.set_cons_succ, List.getElem_toArray, List.getElem_cons_succ, List.getElem_cons_zero]
      refine wpAnyH_ready (rs := [17]) (by kernel_rfl) (by simp) ?_
      refine AllReadyH.cons rfl (fun K hK => ?_) AllReadyH.nil
      go_simp
      go_wp2_with (go_at_call 26; refine (E26.out _ _ _ TS (by omega) T11.out).mono ?_; rintro e w12 ⟨v12, rfl, o12, b12⟩)
      have F12 := Lib.hid (bT F11.out b12)
      have T12 := Lib.hid (own_below T11.out b12)
      have C30 := Lib.hid (E30.out w12 _ _ _ v12 cs (OC7.out.below F12.out) EC.out o12)
      clear b12 o12
      refine hK.out _ _ ?_ (fun hHeld => ?_)
      · exact KX.out _ F12.out
      clear hK K
      refine wpAnyH_ready (rs := [18]) (by kernel_rfl) (by simp) ?_
      refine AllReadyH.cons rfl (fun K hK => ?_) AllReadyH.nil
      go_simp
      go_wp2_with (go_at_call 30; refine C30.out.mono ?_; rintro e w13 ⟨rfl, b13⟩)
      have F13 := Lib.hid (bT F12.out b13)
      have T13 := Lib.hid (own_below T12.out b13)
      clear b13 C30
      refine hK.out _ _ ?_ (fun hHeld => ?_)
      · exact KX.out _ F13.out
      clear hK K
      refine wpAnyH_take (i := 19) (oi := _) (v := ?_) rfl (by kernel_rfl) (by kernel_rfl) (by kernel_rfl) (fun _ _ _ h => h) (Or.inl ⟨by rfl, ?_⟩) (by assumption) ?_
      rotate_left
      · first | (intro w hSw; (try dsimp only at hSw); go_simp; done) | (intro w hSw; (try dsimp only at hSw); go_simp; with_reducible rfl)
      try simp only [Act.put, List.setIfInBounds_toArray, List.set_cons_zero, List.set_cons_succ, List.getElem_toArray, List.getElem_cons_succ, List.getElem_cons_zero]
      refine wpAnyH_take (i := 20) (oi := _) (v := ?_) rfl (by kernel_rfl) (by kernel_rfl) (by kernel_rfl) (fun _ _ _ h => h) (Or.inl ⟨by rfl, ?_⟩) (by assumption) ?_
      rotate_left
      · first | (intro w hSw; (try dsimp only at hSw); go_simp; done) | (intro w hSw; (try dsimp only at hSw); go_simp; with_reducible rfl)
      try simp only [Act.put, List.setIfInBounds_toArray, List.set_cons_zero, List.set_cons_succ, List.getElem_toArray, List.getElem_cons_succ, List.getElem_cons_zero]
      refine wpAnyH_take (i := 21) (oi := _) (v := ?_) rfl (by kernel_rfl) (by kernel_rfl) (by kernel_rfl) (fun _ _ _ h => h) (Or.inl ⟨by rfl, ?_⟩) (by assumption) ?_
      rotate_left
      · first | (intro w hSw; (try dsimp only at hSw); go_simp; done) | (intro w hSw; (try dsimp only at hSw); go_simp; with_reducible rfl)
      try simp only [Act.put, List.setIfInBounds_toArray, List.set_cons_zero, List.set_cons_succ, List.getElem_toArray, List.getElem_cons_succ, List.getElem_cons_zero]
      refine wpAnyH_take (i := 22) (oi := _) (v := ?_) rfl (by kernel_rfl) (by kernel_rfl) (by kernel_rfl) (fun _ _ _ h => h) (Or.inl ⟨by rfl, ?_⟩) (by assumption) ?_
      rotate_left
      · first | (intro w hSw; (try dsimp only at hSw); go_simp; done) | (intro w hSw; (try dsimp only at hSw); go_simp; with_reducible rfl)
      try simp only [Act.put, List.setIfInBounds_toArray, List.set_cons_zero, List.set_cons_succ, List.getElem_toArray, List.getElem_cons_succ, List.getElem_cons_zero]
      refine wpAnyH_take (i := 23) (oi := _) (v := ?_) rfl (by kernel_rfl) (by kernel_rfl) (by kernel_rfl) (fun _ _ _ h => h) (Or.inl ⟨by rfl, ?_⟩) (by assumption) ?_
      rotate_left
      · first | (intro w hSw; (try dsimp only at hSw); go_simp; done) | (intro w hSw; (try dsimp only at hSw); go_simp; with_reducible rfl)
      try simp only [Act.put, List.setIfInBounds_toArray, List.set_cons_zero, List.set_cons_succ, List.getElem_toArray, List.getElem_cons_succ, List.getElem_cons_zero]
      refine wpAnyH_ready (rs := [24]) (by kernel_rfl) (by simp) ?_
      refine AllReadyH.cons rfl (fun K hK => ?_) AllReadyH.nil
      go_simp
      go_wp2_with (go_at_call 26; refine (E26.out _ _ _ TS (by omega) T13.out).mono ?_; rintro e w14 ⟨v14, rfl, o14, b14⟩)
      have F14 := Lib.hid (bT F13.out b14)
      have T14 := Lib.hid (own_below T13.out b14)
      have C31 := Lib.hid (E31.out w14 _ _ _ v14 cs (OC7.out.below F14.out) EC.out o14)
      clear b14 o14
      refine hK.out _ _ ?_ (fun hHeld => ?_)
      · exact KX.out _ F14.out
      clear hK K
      refine wpAnyH_ready (rs := [25]) (by kernel_rfl) (by simp) ?_
      refine AllReadyH.cons rfl (fun K hK => ?_) AllReadyH.nil
      go_simp
      go_wp2_with (go_at_call 31; refine C31.out.mono ?_; rintro e w15 ⟨rfl, b15⟩)
      have F15 := Lib.hid (bT F14.out b15)
      have T15 := Lib.hid (own_below T14.out b15)
      clear b15 C31
      refine hK.out _ _ ?_ (fun hHeld => ?_)
      · exact KX.out _ F15.out
      clear hK K
      refine wpAnyH_take (i := 26) (oi := _) (v := ?_) rfl (by kernel_rfl) (by kernel_rfl) (by kernel_rfl) (fun _ _ _ h => h) (Or.inl ⟨by rfl, ?_⟩) (by assumption) ?_
      rotate_left
      · first | (intro w hSw; (try dsimp only at hSw); go_simp; done) | (intro w hSw; (try dsimp only at hSw); go_simp; with_reducible rfl)
      try simp only [Act.put, List.setIfInBounds_toArray, List.set_cons_zero, List.set_cons_succ, List.getElem_toArray, List.getElem_cons_succ, List.getElem_cons_zero]
      refine wpAnyH_take (i := 27) (oi := _) (v := ?_) rfl (by kernel_rfl) (by kernel_rfl) (by kernel_rfl) (fun _ _ _ h => h) (Or.inl ⟨by rfl, ?_⟩) (by assumption) ?_
      rotate_left
      · first | (intro w hSw; (try dsimp only at hSw); go_simp; done) | (intro w hSw; (try dsimp only at hSw); go_simp; with_reducible rfl)
      try simp only [Act.put, List.setIfInBounds_toArray, List.set_cons_zero, List.set_cons_succ, List.getElem_toArray, List.getElem_cons_succ, List.getElem_cons_zero]
      refine wpAnyH_done (by kernel_rfl) ?_ _
      have G9 := Lib.hid F15.out.drew
      have T9d : Hid (w15.drew.ownsRow _ 2 1 (.slice ts TS.length tk) TS.length (valsZ TS)) := T15
      clear T15
      go_wp2_with fail
      refine wp_region_held_drew (S := fun W => (w1.heap.size < W.heap.size ∧ W.cell? ⟨w1.heap.size, 0, none⟩ = some (.slice s1 n c1) ∧ W.cell? ⟨w1.heap.size, 1, none⟩ = some (.slice s2 m c2)) ∧ X < W.heap.size ∧ W.cell? ⟨X, 0, none⟩ = some (.int .i64 (cn : Nat)) ∧ W.cell? ⟨X, 1, none⟩ = some (.slice cv cs.length ck)) (by kernel_rfl) ?_ (fun hHeld => ?_)
      · exact KX.out _ G9.out
      refine wpAnyH_take (i := 0) (oi := _) (v := ?_) rfl (by kernel_rfl) (by kernel_rfl) (by kernel_rfl) (fun _ _ _ h => h) (Or.inl ⟨by rfl, ?_⟩) (by assumption) ?_
      rotate_left
      · first | (intro w hSw; (try dsimp only at hSw); go_simp; done) | (intro w hSw; (try dsimp only at hSw); go_simp; with_reducible rfl)
      try simp only [Act.put, List.setIfInBounds_toArray, List.set_cons_zero, List.set_cons_succ, List.getElem_toArray, List.getElem_cons_zero]
      refine wpAnyH_take (i := 1) (oi := _) (v := ?_) rfl (by kernel_rfl) (by kernel_rfl) (by kernel_rfl) (fun _ _ _ h => h) (Or.inl ⟨by rfl, ?_⟩) (by assumption) ?_
      rotate_left
      · first | (intro w hSw; (try dsimp only at hSw); go_simp; done) | (intro w hSw; (try dsimp only at hSw); go_simp; with_reducible rfl)
      try simp only [Act.put, List.setIfInBounds_toArray, List.set_cons_zero, List.set_cons_succ, List.getElem_toArray, List.getElem_cons_succ, List.getElem_cons_zero]
      refine wpAnyH_take (i := 2) (oi := _) (v := ?_) rfl (by kernel_rfl) (by kernel_rfl) (by kernel_rfl) (fun _ _ _ h => h) (Or.inl ⟨by rfl, ?_⟩) (by assumption) ?_
      rotate_left
      · first | (intro w hSw; (try dsimp only at hSw); go_simp; done) | (intro w hSw; (try dsimp only at hSw); go_simp; with_reducible rfl)
      try simp only [Act.put, List.setIfInBounds_toArray, List.set_cons_zero, List.set_cons_succ, List.getElem_toArray, List.getElem_cons_succ, List.getElem_cons_zero]
      refine wpAnyH_take (i := 4) (oi := _) (v := ?_) rfl (by kernel_rfl) (by kernel_rfl) (by kernel_rfl) (fun _ _ _ h => h) (Or.inl ⟨by rfl, ?_⟩) (by assumption) ?_
      rotate_left
      · first | (intro w hSw; (try dsimp only at hSw); go_simp; done) | (intro w hSw; (try dsimp only at hSw); go_simp; with_reducible rfl)
      try simp only [Act.put, List.setIfInBounds_toArray, List.set_cons_zero, List.set_cons_succ, List.getElem_toArray, List.getElem_cons_succ, List.getElem_cons_zero]
      refine wpAnyH_take (i := 7) (oi := _) (v := ?_) rfl (by kernel_rfl) (by kernel_rfl) (by kernel_rfl) (fun _ _ _ h => h) (Or.inl ⟨by rfl, ?_⟩) (by assumption) ?_
      rotate_left
      · first | (intro w hSw; (try dsimp only at hSw); go_simp; done) | (intro w hSw; (try dsimp only at hSw); go_simp; with_reducible rfl)
      try simp only [Act.put, List.setIfInBounds_toArray, List.set_cons_zero, List.set_cons_succ, List.getElem_toArray, List.getElem_cons_succ, List.getElem_cons_zero]
      refine wpAnyH_ready (rs := [3]) (by kernel_rfl) (by simp) ?_
      refine AllReadyH.cons rfl (fun K hK => ?_) AllReadyH.nil
      go_simp
      go_wp2_with (go_at_call 26; refine (E26.out _ _ _ IDS (by omega) (own_below Q7.out G9.out)).mono ?_; rintro e w16 ⟨v16, rfl, o16, b16⟩)
      have F16 := Lib.hid (bT G9.out b16)
      have T16 := Lib.hid (own_below T9d.out b16)
      have O16 := Lib.hid o16
      clear b16 o16
      refine hK.out _ _ ?_ (fun hHeld => ?_)
      · exact KX.out _ F16.out
      clear hK K
      refine wpAnyH_ready (rs := [5]) (by kernel_rfl) (by simp) ?_
      refine AllReadyH.cons rfl (fun K hK => ?_) AllReadyH.nil
      go_simp
      go_wp2_with (go_at_call 26; refine (E26.out _ _ _ TS (by omega) T16.out).mono ?_; rintro e w17 ⟨v17, rfl, o17, b17⟩)
      have F17 := Lib.hid (bT F16.out b17)
      have C32 := Lib.hid (E32.out w17 _ _ v16 v17 (FB.out _ F17.out) (own_below O16.out b17) o17)
      clear b17 o17 O16
      refine hK.out _ _ ?_ (fun hHeld => ?_)
      · exact KX.out _ F17.out
      clear hK K
      refine wpAnyH_ready (rs := [6]) (by kernel_rfl) (by simp) ?_
      refine AllReadyH.cons rfl (fun K hK => ?_) AllReadyH.nil
      go_simp
      go_wp2_with (go_at_call 32; refine C32.out.mono ?_; rintro e w18 ⟨v18, rfl, o18, b18⟩)
      have F18 := Lib.hid (bT F17.out b18)
      have C18 := Lib.hid (E18.out w18 _ v18 (FB.out _ F18.out) o18)
      clear b18 o18 C32
      refine hK.out _ _ ?_ (fun hHeld => ?_)
      · exact KX.out _ F18.out
      clear hK K
      refine wpAnyH_ready (rs := [8]) (by kernel_rfl) (by simp) ?_
      refine AllReadyH.cons rfl (fun K hK => ?_) AllReadyH.nil
      go_simp
      go_wp2_with (go_at_call 18; refine C18.out.mono ?_; rintro e w19 ⟨rfl, b19⟩)
      have F19 := Lib.hid (bT F18.out b19)
      clear b19 C18
      refine hK.out _ _ ?_ (fun hHeld => ?_)
      · exact KX.out _ F19.out
      clear hK K
      refine wpAnyH_take (i := 9) (oi := _) (v := ?_) rfl (by kernel_rfl) (by kernel_rfl) (by kernel_rfl) (fun _ _ _ h => h) (Or.inl ⟨by rfl, ?_⟩) (by assumption) ?_
      rotate_left
      · first | (intro w hSw; (try dsimp only at hSw); go_simp; done) | (intro w hSw; (try dsimp only at hSw); go_simp; with_reducible rfl)
      try simp only [Act.put, List.setIfInBounds_toArray, List.set_cons_zero, List.set_cons_succ, List.getElem_toArray, List.getElem_cons_succ, List.getElem_cons_zero]
      refine wpAnyH_done (by kernel_rfl) ?_ _
      have FF := Lib.hid (DB.out.trans ((FB.out _ F19.out).mono DB.out.size))
      go_wp2
      go_ret
      exact ⟨rfl, FF.out⟩
  · go_simp
    have AD := Lib.hid (bA D3d.out (.cells #[.int .i64 0, .slice none 0 0] 45))
    have AR : Hid ((w3.drew.alloc (.cells #[.int .i64 0, .slice none 0 0] 45)).heap[w3.heap.size]? = some (.cells #[.int .i64 0, .slice none 0 0] 45)) := new_at _ _
    have hX : wB.heap.size ≤ w3.heap.size := D3d.out.size
    refine hK.out _ _ ?_ (fun hHeld => ?_)
    · exact KT.out _ AD.out
    clear hK K
    have O3a := Lib.hid (own_below O3d.out (bA0 w3.drew (.cells #[.int .i64 0, .slice none 0 0] 45)))
    refine wpAnyH_ready (rs := [3]) (by kernel_rfl) (by simp) ?_
    refine AllReadyH.cons rfl (fun K hK => ?_) AllReadyH.nil
    go_simp
    go_wp2_with (go_at_call 26; refine (E26.out _ _ _ IDS (by omega) O3a.out).mono ?_; rintro e w4 ⟨v4, rfl, o4, b4⟩)
    have D4 := Lib.hid (bT AD.out b4)
    have O4 := Lib.hid o4
    have Q4 := Lib.hid (own_below O3a.out b4)
    have R4 : Hid (w4.heap[w3.heap.size]? = some (.cells #[.int .i64 0, .slice none 0 0] 45)) := ((b4.block _ (Array.getElem?_eq_some_iff.1 AR.out).1).trans AR.out)
    clear o4 b4
    refine hK.out _ _ ?_ (fun hHeld => ?_)
    · exact KT.out _ D4.out
    clear hK K
    refine wpAnyH_ready (rs := [4]) (by kernel_rfl) (by simp) ?_
    refine AllReadyH.cons rfl (fun K hK => ?_) AllReadyH.nil
    go_simp
    go_wp2_with (go_at_call 25; refine (E25.out _ _ _ D4.out O4.out).mono ?_; rintro e w5 ⟨v5, cs, rfl, oc5, ec5, b5⟩)
    obtain ⟨cv, ck, rfl⟩ := oc5.v
    have D5 := Lib.hid (bT D4.out b5)
    have OC5 := Lib.hid oc5
    have EC := Lib.hid ec5
    have Q5 := Lib.hid (own_below Q4.out b5)
    have R5 : Hid (w5.heap[w3.heap.size]? = some (.cells #[.int .i64 0, .slice none 0 0] 45)) := ((b5.block _ (Array.getElem?_eq_some_iff.1 R4.out).1).trans R4.out)
    clear oc5 ec5 b5
    refine hK.out _ _ ?_ (fun hHeld => ?_)
    · exact KT.out _ D5.out
    clear hK K
    refine wpAnyH_ready (rs := [6]) (by kernel_rfl) (by simp) ?_
    refine AllReadyH.cons rfl (fun K hK => ?_) AllReadyH.nil
    have R1 := heap_setCell_same (w5) (w3.heap.size) 0 _ 45 (.int .i64 (cn : Nat)) R5.out
    have R7 : Hid ((((w5).setCell ⟨w3.heap.size, 0, none⟩ (.int .i64 (cn : Nat))).setCell ⟨w3.heap.size, 1, none⟩ (.slice cv cs.length ck)).heap[w3.heap.size]? = some (.cells #[(.int .i64 (cn : Nat)), (.slice cv cs.length ck)] 45)) := heap_setCell_same _ (w3.heap.size) 1 _ 45 (.slice cv cs.length ck) R1
    obtain ⟨c0, c1', f0, f1, lt7⟩ := box_facts R5.out
    have D7 : Hid (Below wB.heap.size wB (((w5).setCell ⟨w3.heap.size, 0, none⟩ (.int .i64 (cn : Nat))).setCell ⟨w3.heap.size, 1, none⟩ (.slice cv cs.length ck))) := ((D5.out.setCell hX _).setCell hX _)
    have OC7 : Hid (OwC (((w5).setCell ⟨w3.heap.size, 0, none⟩ (.int .i64 (cn : Nat))).setCell ⟨w3.heap.size, 1, none⟩ (.slice cv cs.length ck)) _ (.slice cv cs.length ck) cs) := owc_box (owc_box OC5.out R5.out (by decide) (by decide) 0 (.int .i64 (cn : Nat))) R1 (by decide) (by decide) 1 (.slice cv cs.length ck)
    have Q7 : Hid (((((w5).setCell ⟨w3.heap.size, 0, none⟩ (.int .i64 (cn : Nat))).setCell ⟨w3.heap.size, 1, none⟩ (.slice cv cs.length ck))).ownsRow _ 2 1 (.slice is IDS.length ik) IDS.length (valsZ IDS)) := own_box (own_box Q5.out R5.out (by decide) 0 (.int .i64 (cn : Nat))) R1 (by decide) 1 (.slice cv cs.length ck)
    clear R1
    go_simp
    refine hK.out _ _ ?_ (fun hHeld => ?_)
    · exact KT.out _ D7.out
    clear hK K c0 c1' f0 f1 lt7
    refine wpAnyH_done (by kernel_rfl) ?_ _
    generalize w3.heap.size = X at *
    generalize (((w5).setCell ⟨X, 0, none⟩ (.int .i64 (cn : Nat))).setCell ⟨X, 1, none⟩ (.slice cv cs.length ck)) = wC at *
    have FB : Hid (∀ W, Below wC.heap.size wC W → Below wB.heap.size wB W) := fun W h => bT D7.out h
    have KX : Hid (∀ W, Below wC.heap.size wC W → (w1.heap.size < W.heap.size ∧ W.cell? ⟨w1.heap.size, 0, none⟩ = some (.slice s1 n c1) ∧ W.cell? ⟨w1.heap.size, 1, none⟩ = some (.slice s2 m c2)) ∧ X < W.heap.size ∧ W.cell? ⟨X, 0, none⟩ = some (.int .i64 (cn : Nat)) ∧ W.cell? ⟨X, 1, none⟩ = some (.slice cv cs.length ck)) := fun W h => ⟨KT.out W (FB.out W h), box_cells h R7.out⟩
    have HCL := CLN.out cs EC.out
    have F0 : Hid (Below wC.heap.size wC wC.drew) := (Below.refl _ _).drew
    clear KT
    go_wp2_with fail
    refine wp_region_held_drew (S := fun W => (w1.heap.size < W.heap.size ∧ W.cell? ⟨w1.heap.size, 0, none⟩ = some (.slice s1 n c1) ∧ W.cell? ⟨w1.heap.size, 1, none⟩ = some (.slice s2 m c2)) ∧ X < W.heap.size ∧ W.cell? ⟨X, 0, none⟩ = some (.int .i64 (cn : Nat)) ∧ W.cell? ⟨X, 1, none⟩ = some (.slice cv cs.length ck)) (by kernel_rfl) ?_ (fun hHeld => ?_)
    · exact KX.out _ F0.out
    refine wpAnyH_take (i := 0) (oi := _) (v := ?_) rfl (by kernel_rfl) (by kernel_rfl) (by kernel_rfl) (fun _ _ _ h => h) (Or.inl ⟨by rfl, ?_⟩) (by assumption) ?_
    rotate_left
    · first | (intro w hSw; (try dsimp only at hSw); go_simp; done) | (intro w hSw; (try dsimp only at hSw); go_simp; with_reducible rfl)
    try simp only [Act.put, List.setIfInBounds_toArray, List.set_cons_zero, List.set_cons_succ, List.getElem_toArray, List.getElem_cons_zero]
    refine wpAnyH_take (i := 1) (oi := _) (v := ?_) rfl (by kernel_rfl) (by kernel_rfl) (by kernel_rfl) (fun _ _ _ h => h) (Or.inl ⟨by rfl, ?_⟩) (by assumption) ?_
    rotate_left
    · first | (intro w hSw; (try dsimp only at hSw); go_simp; done) | (intro w hSw; (try dsimp only at hSw); go_simp; with_reducible rfl)
    try simp only [Act.put, List.setIfInBounds_toArray, List.set_cons_zero, List.set_cons_succ, List.getElem_toArray, List.getElem_cons_succ, List.getElem_cons_zero]
    refine wpAnyH_take (i := 2) (oi := _) (v := ?_) rfl (by kernel_rfl) (by kernel_rfl) (by kernel_rfl) (fun _ _ _ h => h) (Or.inl ⟨by rfl, ?_⟩) (by assumption) ?_
    rotate_left
    · first | (intro w hSw; (try dsimp only at hSw); go_simp; done) | (intro w hSw; (try dsimp only at hSw); go_simp; with_reducible rfl)
    try simp only [Act.put, List.setIfInBounds_toArray, List.set_cons_zero, List.set_cons_succ, List.getElem_toArray, List.getElem_cons_succ, List.getElem_cons_zero]
    refine wpAnyH_ready (rs := [3]) (by kernel_rfl) (by simp) ?_
    refine AllReadyH.cons rfl (fun K hK => ?_) AllReadyH.nil
    go_simp
    go_wp2_with (go_at_call 17; refine (E17.out _ (FB.out _ F0.out)).mono ?_; rintro e w7 ⟨v7, rfl, o7, b7⟩)
    have F7 := Lib.hid (bT F0.out b7)
    have C23 := Lib.hid (E23.out w7 _ v7 (FB.out _ F7.out) o7)
    clear o7 b7
    refine hK.out _ _ ?_ (fun hHeld => ?_)
    · exact KX.out _ F7.out
    clear hK K
    refine wpAnyH_ready (rs := [4]) (by kernel_rfl) (by simp) ?_
    refine AllReadyH.cons rfl (fun K hK => ?_) AllReadyH.nil
    go_simp
    go_wp2_with (go_at_call 23; refine C23.out.mono ?_; rintro e w8 ⟨v8, rfl, o8, b8⟩)
    have F8 := Lib.hid (bT F7.out b8)
    clear C23
    refine hK.out _ _ ?_ (fun hHeld => ?_)
    · exact KX.out _ F8.out
    clear hK K
    refine wpAnyH_take (i := 5) (oi := _) (v := ?_) rfl (by kernel_rfl) (by kernel_rfl) (by kernel_rfl) (fun _ _ _ h => h) (Or.inl ⟨by rfl, ?_⟩) (by assumption) ?_
    rotate_left
    · first | (intro w hSw; (try dsimp only at hSw); go_simp; done) | (intro w hSw; (try dsimp only at hSw); go_simp; with_reducible rfl)
    try simp only [Act.put, List.setIfInBounds_toArray, List.set_cons_zero, List.set_cons_succ, List.getElem_toArray, List.getElem_cons_succ, List.getElem_cons_zero]
    refine wpAnyH_done (by kernel_rfl) ?_ _
    have T8 := Lib.hid o8
    have G8 := Lib.hid F8.out.drew
    obtain ⟨ts, tk, rfl⟩ := own_v o8
    clear o8 b8
    have T8d : Hid (w8.drew.ownsRow _ 2 1 (.slice ts TS.length tk) TS.length (valsZ TS)) := T8
    clear T8
    go_wp2_with fail
    refine wp_region_held_drew (S := fun W => (w1.heap.size < W.heap.size ∧ W.cell? ⟨w1.heap.size, 0, none⟩ = some (.slice s1 n c1) ∧ W.cell? ⟨w1.heap.size, 1, none⟩ = some (.slice s2 m c2)) ∧ X < W.heap.size ∧ W.cell? ⟨X, 0, none⟩ = some (.int .i64 (cn : Nat)) ∧ W.cell? ⟨X, 1, none⟩ = some (.slice cv cs.length ck)) (by kernel_rfl) ?_ (fun hHeld => ?_)
    · exact KX.out _ G8.out
    refine wpAnyH_take (i := 0) (oi := _) (v := ?_) rfl (by kernel_rfl) (by kernel_rfl) (by kernel_rfl) (fun _ _ _ h => h) (Or.inl ⟨by rfl, ?_⟩) (by assumption) ?_
    rotate_left
    · first | (intro w hSw; (try dsimp only at hSw); go_simp; done) | (intro w hSw; (try dsimp only at hSw); go_simp; with_reducible rfl)
    try simp only [Act.put, List.setIfInBounds_toArray, List.set_cons_zero, List.set_cons_succ, List.getElem_toArray, List.getElem_cons_zero]
    refine wpAnyH_ready (rs := [1]) (by kernel_rfl) (by simp) ?_
    refine AllReadyH.cons rfl (fun K hK => ?_) AllReadyH.nil
    go_simp
    go_wp2_with (go_at_call 27; refine (E27.out _ _ _ cs (OC7.out.below G8.out) EC.out).mono ?_; rintro e w9 ⟨rfl, b9⟩)
    have F9 := Lib.hid (bT G8.out b9)
    have T9 := Lib.hid (own_below T8d.out b9)
    clear b9
    refine hK.out _ _ ?_ (fun hHeld => ?_)
    · exact KX.out _ F9.out
    clear hK K
    refine wpAnyH_take (i := 2) (oi := _) (v := ?_) rfl (by kernel_rfl) (by kernel_rfl) (by kernel_rfl) (fun _ _ _ h => h) (Or.inl ⟨by rfl, ?_⟩) (by assumption) ?_
    rotate_left
    · first | (intro w hSw; (try dsimp only at hSw); go_simp; done) | (intro w hSw; (try dsimp only at hSw); go_simp; with_reducible rfl)
    try simp only [Act.put, List.setIfInBounds_toArray, List.set_cons_zero, List.set_cons_succ, List.getElem_toArray, List.getElem_cons_succ, List.getElem_cons_zero]
    refine wpAnyH_take (i := 3) (oi := _) (v := ?_) rfl (by kernel_rfl) (by kernel_rfl) (by kernel_rfl) (fun _ _ _ h => h) (Or.inl ⟨by rfl, ?_⟩) (by assumption) ?_
    rotate_left
    · first | (intro w hSw; (try dsimp only at hSw); go_simp; done) | (intro w hSw; (try dsimp only at hSw); go_simp; with_reducible rfl)
    try simp only [Act.put, List.setIfInBounds_toArray, List.set_cons_zero, List.set_cons_succ, List.getElem_toArray, List.getElem_cons_succ, List.getElem_cons_zero]
    refine wpAnyH_take (i := 4) (oi := _) (v := ?_) rfl (by kernel_rfl) (by kernel_rfl) (by kernel_rfl) (fun _ _ _ h => h) (Or.inl ⟨by rfl, ?_⟩) (by assumption) ?_
    rotate_left
    · first | (intro w hSw; (try dsimp only at hSw); go_simp; done) | (intro w hSw; (try dsimp only at hSw); go_simp; with_reducible rfl)
    try simp only [Act.put, List.setIfInBounds_toArray, List.set_cons_zero, List.set_cons_succ, List.getElem_toArray, List.getElem_cons_succ, List.getElem_cons_zero]
    refine wpAnyH_take (i := 5) (oi := _) (v := ?_) rfl (by kernel_rfl) (by kernel_rfl) (by kernel_rfl) (fun _ _ _ h => h) (Or.inl ⟨by rfl, ?_⟩) (by assumption) ?_
    rotate_left
    · first | (intro w hSw; (try dsimp only at hSw); go_simp; done) | (intro w hSw; (try dsimp only at hSw); go_simp; with_reducible rfl)
    try simp only [Act.put, List.setIfInBounds_toArray, List.set_cons_zero, List.set_cons_succ, List.getElem_toArray, List.getElem_cons_succ, List.getElem_cons_zero]
    refine wpAnyH_take (i := 6) (oi := _) (v := ?_) rfl (by kernel_rfl) (by kernel_rfl) (by kernel_rfl) (fun _ _ _ h => h) (Or.inl ⟨by rfl, ?_⟩) (by assumption) ?_
    rotate_left
    · first | (intro w hSw; (try dsimp only at hSw); go_simp; done) | (intro w hSw; (try dsimp only at hSw); go_simp; with_reducible rfl)
    try simp only [Act.put, List.setIfInBounds_toArray, List.set_cons_zero, List.set_cons_succ, List.getElem_toArray, List.getElem_cons_succ, List.getElem_cons_zero]
    refine wpAnyH_take (i := 7) (oi := _) (v := ?_) rfl (by kernel_rfl) (by kernel_rfl) (by kernel_rfl) (fun _ _ _ h => h) (Or.inl ⟨by rfl, ?_⟩) (by assumption) ?_
    rotate_left
    · first | (intro w hSw; (try dsimp only at hSw); go_simp; done) | (intro w hSw; (try dsimp only at hSw); go_simp; with_reducible rfl)
    try simp only [Act.put, List.setIfInBounds_toArray, List.set_cons_zero, List.set_cons_succ, List.getElem_toArray, List.getElem_cons_succ, List.getElem_cons_zero]
    refine wpAnyH_take (i := 8) (oi := _) (v := ?_) rfl (by kernel_rfl) (by kernel_rfl) (by kernel_rfl) (fun _ _ _ h => h) (Or.inl ⟨by rfl, ?_⟩) (by assumption) ?_
    rotate_left
    · first | (intro w hSw; (try dsimp only at hSw); go_simp; done) | (intro w hSw; (try dsimp only at hSw); go_simp; with_reducible rfl)
    try simp only [Act.put, List.setIfInBounds_toArray, List.set_cons_zero, List.set_cons_succ, List.getElem_toArray, List.getElem_cons_succ, List.getElem_cons_zero]
    refine wpAnyH_ready (rs := [9]) (by kernel_rfl) (by simp) ?_
    refine AllReadyH.cons rfl (fun K hK => ?_) AllReadyH.nil
    go_simp
    go_wp2_with (go_at_call 29; refine (E29.out _ _ _ (FB.out _ F9.out) (own_below Q7.out F9.out)).mono ?_; rintro e w10 ⟨v10, ds, rfl, oc10, ec10, b10⟩)
    have F10 := Lib.hid (bT F9.out b10)
    have T10 := Lib.hid (own_below T9.out b10)
    obtain ⟨dv, dk, rfl⟩ := oc10.v
    have hfd : ∀ w : World, (Instr.field 45 (.agg #[.int .i64 (cn : Nat), .slice dv ds.length dk]) 1).run Try.prog w = .ok (.slice dv ds.length dk) w := fun _ => by kernel_rfl
    have OD := Lib.hid oc10
    have ED := Lib.hid ec10
    clear b10 oc10 ec10
    refine hK.out _ _ ?_ (fun hHeld => ?_)
    · exact KX.out _ F10.out
    clear hK K
    refine wpAnyH_take (i := 10) (oi := _) (v := ?_) rfl (by kernel_rfl) (by kernel_rfl) (by kernel_rfl) (fun _ _ _ h => h) (Or.inl ⟨by rfl, ?_⟩) (by assumption) ?_
    rotate_left
    · first | (intro w hSw; (try dsimp only at hSw); go_simp; done) | (intro w hSw; (try dsimp only at hSw); go_simp; with_reducible rfl)
    try simp only [Act.put, List.setIfInBounds_toArray, List.set_cons_zero, List.set_cons_succ, List.getElem_toArray, List.getElem_cons_succ, List.getElem_cons_zero]
    refine wpAnyH_ready (rs := [11]) (by kernel_rfl) (by simp) ?_
    refine AllReadyH.cons rfl (fun K hK => ?_) AllReadyH.nil
    go_simp
    go_wp2_with (go_at_call 28; refine (E28.out _ _ _ _ _ cs ds (OC7.out.below F10.out) OD.out EC.out ED.out).mono ?_; rintro e w11 ⟨rfl, b11⟩)
    have F11 := Lib.hid (bT F10.out b11)
    have T11 := Lib.hid (own_below T10.out b11)
    clear b11 hfd
    refine hK.out _ _ ?_ (fun hHeld => ?_)
    · exact KX.out _ F11.out
    clear hK K
    refine wpAnyH_take (i := 12) (oi := _) (v := ?_) rfl (by kernel_rfl) (by kernel_rfl) (by kernel_rfl) (fun _ _ _ h => h) (Or.inl ⟨by rfl, ?_⟩) (by assumption) ?_
    rotate_left
    · first | (intro w hSw; (try dsimp only at hSw); go_simp; done) | (intro w hSw; (try dsimp only at hSw); go_simp; with_reducible rfl)
    try simp only [Act.put, List.setIfInBounds_toArray, List.set_cons_zero, List.set_cons_succ, List.getElem_toArray, List.getElem_cons_succ, List.getElem_cons_zero]
    refine wpAnyH_take (i := 13) (oi := _) (v := ?_) rfl (by kernel_rfl) (by kernel_rfl) (by kernel_rfl) (fun _ _ _ h => h) (Or.inl ⟨by rfl, ?_⟩) (by assumption) ?_
    rotate_left
    · first | (intro w hSw; (try dsimp only at hSw); go_simp; done) | (intro w hSw; (try dsimp only at hSw); go_simp; with_reducible rfl)
    try simp only [Act.put, List.setIfInBounds_toArray, List.set_cons_zero, List.set_cons_succ, List.getElem_toArray, List.getElem_cons_succ, List.getElem_cons_zero]
    refine wpAnyH_take (i := 14) (oi := _) (v := ?_) rfl (by kernel_rfl) (by kernel_rfl) (by kernel_rfl) (fun _ _ _ h => h) (Or.inl ⟨by rfl, ?_⟩) (by assumption) ?_
    rotate_left
    · first | (intro w hSw; (try dsimp only at hSw); go_simp; done) | (intro w hSw; (try dsimp only at hSw); go_simp; with_reducible rfl)
    try simp only [Act.put, List.setIfInBounds_toArray, List.set_cons_zero, List.set_cons_succ, List.getElem_toArray, List.getElem_cons_succ, List.getElem_cons_zero]
    refine wpAnyH_take (i := 15) (oi := _) (v := ?_) rfl (by kernel_rfl) (by kernel_rfl) (by kernel_rfl) (fun _ _ _ h => h) (Or.inl ⟨by rfl, ?_⟩) (by assumption) ?_
    rotate_left
    · first | (intro w hSw; (try dsimp only at hSw); go_simp; done) | (intro w hSw; (try dsimp only at hSw); go_simp; with_reducible rfl)
    try simp only [Act.put, List.setIfInBounds_toArray, List.set_cons_zero, List.set_cons_succ, List.getElem_toArray, List.getElem_cons_succ, List.getElem_cons_zero]
    refine wpAnyH_take (i := 16) (oi := _) (v := ?_) rfl (by kernel_rfl) (by kernel_rfl) (by kernel_rfl) (fun _ _ _ h => h) (Or.inl ⟨by rfl, ?_⟩) (by assumption) ?_
    rotate_left
    · first | (intro w hSw; (try dsimp only at hSw); go_simp; done) | (intro w hSw; (try dsimp only at hSw); go_simp; with_reducible rfl)
    try simp only [Act.put, List.setIfInBounds_toArray, List.set_cons_zero, List.set_cons_succ, List.getElem_toArray, List.getElem_cons_succ, List.getElem_cons_zero]
    refine wpAnyH_ready (rs := [17]) (by kernel_rfl) (by simp) ?_
    refine AllReadyH.cons rfl (fun K hK => ?_) AllReadyH.nil
    go_simp
    go_wp2_with (go_at_call 26; refine (E26.out _ _ _ TS (by omega) T11.out).mono ?_; rintro e w12 ⟨v12, rfl, o12, b12⟩)
    have F12 := Lib.hid (bT F11.out b12)
    have T12 := Lib.hid (own_below T11.out b12)
    have C30 := Lib.hid (E30.out w12 _ _ _ v12 cs (OC7.out.below F12.out) EC.out o12)
    clear b12 o12
    refine hK.out _ _ ?_ (fun hHeld => ?_)
    · exact KX.out _ F12.out
    clear hK K
    refine wpAnyH_ready (rs := [18]) (by kernel_rfl) (by simp) ?_
    refine AllReadyH.cons rfl (fun K hK => ?_) AllReadyH.nil
    go_simp
    go_wp2_with (go_at_call 30; refine C30.out.mono ?_; rintro e w13 ⟨rfl, b13⟩)
    have F13 := Lib.hid (bT F12.out b13)
    have T13 := Lib.hid (own_below T12.out b13)
    clear b13 C30
    refine hK.out _ _ ?_ (fun hHeld => ?_)
    · exact KX.out _ F13.out
    clear hK K
    refine wpAnyH_take (i := 19) (oi := _) (v := ?_) rfl (by kernel_rfl) (by kernel_rfl) (by kernel_rfl) (fun _ _ _ h => h) (Or.inl ⟨by rfl, ?_⟩) (by assumption) ?_
    rotate_left
    · first | (intro w hSw; (try dsimp only at hSw); go_simp; done) | (intro w hSw; (try dsimp only at hSw); go_simp; with_reducible rfl)
    try simp only [Act.put, List.setIfInBounds_toArray, List.set_cons_zero, List.set_cons_succ, List.getElem_toArray, List.getElem_cons_succ, List.getElem_cons_zero]
    refine wpAnyH_take (i := 20) (oi := _) (v := ?_) rfl (by kernel_rfl) (by kernel_rfl) (by kernel_rfl) (fun _ _ _ h => h) (Or.inl ⟨by rfl, ?_⟩) (by assumption) ?_
    rotate_left
    · first | (intro w hSw; (try dsimp only at hSw); go_simp; done) | (intro w hSw; (try dsimp only at hSw); go_simp; with_reducible rfl)
    try simp only [Act.put, List.setIfInBounds_toArray, List.set_cons_zero, List.set_cons_succ, List.getElem_toArray, List.getElem_cons_succ, List.getElem_cons_zero]
    refine wpAnyH_take (i := 21) (oi := _) (v := ?_) rfl (by kernel_rfl) (by kernel_rfl) (by kernel_rfl) (fun _ _ _ h => h) (Or.inl ⟨by rfl, ?_⟩) (by assumption) ?_
    rotate_left
    · first | (intro w hSw; (try dsimp only at hSw); go_simp; done) | (intro w hSw; (try dsimp only at hSw); go_simp; with_reducible rfl)
    try simp only [Act.put, List.setIfInBounds_toArray, List.set_cons_zero, List.set_cons_succ, List.getElem_toArray, List.getElem_cons_succ, List.getElem_cons_zero]
    refine wpAnyH_take (i := 22) (oi := _) (v := ?_) rfl (by kernel_rfl) (by kernel_rfl) (by kernel_rfl) (fun _ _ _ h => h) (Or.inl ⟨by rfl, ?_⟩) (by assumption) ?_
    rotate_left
    · first | (intro w hSw; (try dsimp only at hSw); go_simp; done) | (intro w hSw; (try dsimp only at hSw); go_simp; with_reducible rfl)
    try simp only [Act.put, List.setIfInBounds_toArray, List.set_cons_zero, List.set_cons_succ, List.getElem_toArray, List.getElem_cons_succ, List.getElem_cons_zero]
    refine wpAnyH_take (i := 23) (oi := _) (v := ?_) rfl (by kernel_rfl) (by kernel_rfl) (by kernel_rfl) (fun _ _ _ h => h) (Or.inl ⟨by rfl, ?_⟩) (by assumption) ?_
    rotate_left
    · first | (intro w hSw; (try dsimp only at hSw); go_simp; done) | (intro w hSw; (try dsimp only at hSw); go_simp; with_reducible rfl)
    try simp only [Act.put, List.setIfInBounds_toArray, List.set_cons_zero, List.set_cons_succ, List.getElem_toArray, List.getElem_cons_succ, List.getElem_cons_zero]
    refine wpAnyH_ready (rs := [24]) (by kernel_rfl) (by simp) ?_
    refine AllReadyH.cons rfl (fun K hK => ?_) AllReadyH.nil
    go_simp
    go_wp2_with (go_at_call 26; refine (E26.out _ _ _ TS (by omega) T13.out).mono ?_; rintro e w14 ⟨v14, rfl, o14, b14⟩)
    have F14 := Lib.hid (bT F13.out b14)
    have T14 := Lib.hid (own_below T13.out b14)
    have C31 := Lib.hid (E31.out w14 _ _ _ v14 cs (OC7.out.below F14.out) EC.out o14)
    clear b14 o14
    refine hK.out _ _ ?_ (fun hHeld => ?_)
    · exact KX.out _ F14.out
    clear hK K
    refine wpAnyH_ready (rs := [25]) (by kernel_rfl) (by simp) ?_
    refine AllReadyH.cons rfl (fun K hK => ?_) AllReadyH.nil
    go_simp
    go_wp2_with (go_at_call 31; refine C31.out.mono ?_; rintro e w15 ⟨rfl, b15⟩)
    have F15 := Lib.hid (bT F14.out b15)
    have T15 := Lib.hid (own_below T14.out b15)
    clear b15 C31
    refine hK.out _ _ ?_ (fun hHeld => ?_)
    · exact KX.out _ F15.out
    clear hK K
    refine wpAnyH_take (i := 26) (oi := _) (v := ?_) rfl (by kernel_rfl) (by kernel_rfl) (by kernel_rfl) (fun _ _ _ h => h) (Or.inl ⟨by rfl, ?_⟩) (by assumption) ?_
    rotate_left
    · first | (intro w hSw; (try dsimp only at hSw); go_simp; done) | (intro w hSw; (try dsimp only at hSw); go_simp; with_reducible rfl)
    try simp only [Act.put, List.setIfInBounds_toArray, List.set_cons_zero, List.set_cons_succ, List.getElem_toArray, List.getElem_cons_succ, List.getElem_cons_zero]
    refine wpAnyH_take (i := 27) (oi := _) (v := ?_) rfl (by kernel_rfl) (by kernel_rfl) (by kernel_rfl) (fun _ _ _ h => h) (Or.inl ⟨by rfl, ?_⟩) (by assumption) ?_
    rotate_left
    · first | (intro w hSw; (try dsimp only at hSw); go_simp; done) | (intro w hSw; (try dsimp only at hSw); go_simp; with_reducible rfl)
    try simp only [Act.put, List.setIfInBounds_toArray, List.set_cons_zero, List.set_cons_succ, List.getElem_toArray, List.getElem_cons_succ, List.getElem_cons_zero]
    refine wpAnyH_done (by kernel_rfl) ?_ _
    have G9 := Lib.hid F15.out.drew
    have T9d : Hid (w15.drew.ownsRow _ 2 1 (.slice ts TS.length tk) TS.length (valsZ TS)) := T15
    clear T15
    go_wp2_with fail
    refine wp_region_held_drew (S := fun W => (w1.heap.size < W.heap.size ∧ W.cell? ⟨w1.heap.size, 0, none⟩ = some (.slice s1 n c1) ∧ W.cell? ⟨w1.heap.size, 1, none⟩ = some (.slice s2 m c2)) ∧ X < W.heap.size ∧ W.cell? ⟨X, 0, none⟩ = some (.int .i64 (cn : Nat)) ∧ W.cell? ⟨X, 1, none⟩ = some (.slice cv cs.length ck)) (by kernel_rfl) ?_ (fun hHeld => ?_)
    · exact KX.out _ G9.out
    refine wpAnyH_take (i := 0) (oi := _) (v := ?_) rfl (by kernel_rfl) (by kernel_rfl) (by kernel_rfl) (fun _ _ _ h => h) (Or.inl ⟨by rfl, ?_⟩) (by assumption) ?_
    rotate_left
    · first | (intro w hSw; (try dsimp only at hSw); go_simp; done) | (intro w hSw; (try dsimp only at hSw); go_simp; with_reducible rfl)
    try simp only [Act.put, List.setIfInBounds_toArray, List.set_cons_zero, List.set_cons_succ, List.getElem_toArray, List.getElem_cons_zero]
    refine wpAnyH_take (i := 1) (oi := _) (v := ?_) rfl (by kernel_rfl) (by kernel_rfl) (by kernel_rfl) (fun _ _ _ h => h) (Or.inl ⟨by rfl, ?_⟩) (by assumption) ?_
    rotate_left
    · first | (intro w hSw; (try dsimp only at hSw); go_simp; done) | (intro w hSw; (try dsimp only at hSw); go_simp; with_reducible rfl)
    try simp only [Act.put, List.setIfInBounds_toArray, List.set_cons_zero, List.set_cons_succ, List.getElem_toArray, List.getElem_cons_succ, List.getElem_cons_zero]
    refine wpAnyH_take (i := 2) (oi := _) (v := ?_) rfl (by kernel_rfl) (by kernel_rfl) (by kernel_rfl) (fun _ _ _ h => h) (Or.inl ⟨by rfl, ?_⟩) (by assumption) ?_
    rotate_left
    · first | (intro w hSw; (try dsimp only at hSw); go_simp; done) | (intro w hSw; (try dsimp only at hSw); go_simp; with_reducible rfl)
    try simp only [Act.put, List.setIfInBounds_toArray, List.set_cons_zero, List.set_cons_succ, List.getElem_toArray, List.getElem_cons_succ, List.getElem_cons_zero]
    refine wpAnyH_take (i := 4) (oi := _) (v := ?_) rfl (by kernel_rfl) (by kernel_rfl) (by kernel_rfl) (fun _ _ _ h => h) (Or.inl ⟨by rfl, ?_⟩) (by assumption) ?_
    rotate_left
    · first | (intro w hSw; (try dsimp only at hSw); go_simp; done) | (intro w hSw; (try dsimp only at hSw); go_simp; with_reducible rfl)
    try simp only [Act.put, List.setIfInBounds_toArray, List.set_cons_zero, List.set_cons_succ, List.getElem_toArray, List.getElem_cons_succ, List.getElem_cons_zero]
    refine wpAnyH_take (i := 7) (oi := _) (v := ?_) rfl (by kernel_rfl) (by kernel_rfl) (by kernel_rfl) (fun _ _ _ h => h) (Or.inl ⟨by rfl, ?_⟩) (by assumption) ?_
    rotate_left
    · first | (intro w hSw; (try dsimp only at hSw); go_simp; done) | (intro w hSw; (try dsimp only at hSw); go_simp; with_reducible rfl)
    try simp only [Act.put, List.setIfInBounds_toArray, List.set_cons_zero, List.set_cons_succ, List.getElem_toArray, List.getElem_cons_succ, List.getElem_cons_zero]
    refine wpAnyH_ready (rs := [3]) (by kernel_rfl) (by simp) ?_
    refine AllReadyH.cons rfl (fun K hK => ?_) AllReadyH.nil
    go_simp
    go_wp2_with (go_at_call 26; refine (E26.out _ _ _ IDS (by omega) (own_below Q7.out G9.out)).mono ?_; rintro e w16 ⟨v16, rfl, o16, b16⟩)
    have F16 := Lib.hid (bT G9.out b16)
    have T16 := Lib.hid (own_below T9d.out b16)
    have O16 := Lib.hid o16
    clear b16 o16
    refine hK.out _ _ ?_ (fun hHeld => ?_)
    · exact KX.out _ F16.out
    clear hK K
    refine wpAnyH_ready (rs := [5]) (by kernel_rfl) (by simp) ?_
    refine AllReadyH.cons rfl (fun K hK => ?_) AllReadyH.nil
    go_simp
    go_wp2_with (go_at_call 26; refine (E26.out _ _ _ TS (by omega) T16.out).mono ?_; rintro e w17 ⟨v17, rfl, o17, b17⟩)
    have F17 := Lib.hid (bT F16.out b17)
    have C32 := Lib.hid (E32.out w17 _ _ v16 v17 (FB.out _ F17.out) (own_below O16.out b17) o17)
    clear b17 o17 O16
    refine hK.out _ _ ?_ (fun hHeld => ?_)
    · exact KX.out _ F17.out
    clear hK K
    refine wpAnyH_ready (rs := [6]) (by kernel_rfl) (by simp) ?_
    refine AllReadyH.cons rfl (fun K hK => ?_) AllReadyH.nil
    go_simp
    go_wp2_with (go_at_call 32; refine C32.out.mono ?_; rintro e w18 ⟨v18, rfl, o18, b18⟩)
    have F18 := Lib.hid (bT F17.out b18)
    have C18 := Lib.hid (E18.out w18 _ v18 (FB.out _ F18.out) o18)
    clear b18 o18 C32
    refine hK.out _ _ ?_ (fun hHeld => ?_)
    · exact KX.out _ F18.out
    clear hK K
    refine wpAnyH_ready (rs := [8]) (by kernel_rfl) (by simp) ?_
    refine AllReadyH.cons rfl (fun K hK => ?_) AllReadyH.nil
    go_simp
    go_wp2_with (go_at_call 18; refine C18.out.mono ?_; rintro e w19 ⟨rfl, b19⟩)
    have F19 := Lib.hid (bT F18.out b19)
    clear b19 C18
    refine hK.out _ _ ?_ (fun hHeld => ?_)
    · exact KX.out _ F19.out
    clear hK K
    refine wpAnyH_take (i := 9) (oi := _) (v := ?_) rfl (by kernel_rfl) (by kernel_rfl) (by kernel_rfl) (fun _ _ _ h => h) (Or.inl ⟨by rfl, ?_⟩) (by assumption) ?_
    rotate_left
    · first | (intro w hSw; (try dsimp only at hSw); go_simp; done) | (intro w hSw; (try dsimp only at hSw); go_simp; with_reducible rfl)
    try simp only [Act.put, List.setIfInBounds_toArray, List.set_cons_zero, List.set_cons_succ, List.getElem_toArray, List.getElem_cons_succ, List.getElem_cons_zero]
    refine wpAnyH_done (by kernel_rfl) ?_ _
    have FF := Lib.hid (DB.out.trans ((FB.out _ F19.out).mono DB.out.size))
    go_wp2
    go_ret
    exact ⟨rfl, FF.out⟩
end Go.Proofs.Ytdmfljejlhlbnaa
