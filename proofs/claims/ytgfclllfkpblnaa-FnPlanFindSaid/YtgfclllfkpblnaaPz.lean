/-
  ARE IDS RIGHT? As both sides answer it.
  THE LAW 11: the walk.
-/
import Derived.Test.YtgfclllfkpblnaaAm
import Derived.Test.YtgfclllfkpblnaaAg
import Derived.Test.YtgfclllfkpblnaaAp
import Derived.Test.YtgfclllfkpblnaaAq
namespace Go.Proofs.Ytgfclllfkpblnaa
open Go.RowKit
set_option linter.unusedVariables false

/-- Rising Ids of the stations of a right table. -/
def IdsR (rs : List LSt) (ps : List LPr) (zs : List Int) : Prop := zs.length ≤ 400 ∧ TabR rs ps ∧ RiseTo zs zs.length ∧ ∀ x ∈ zs, x ∈ idsL rs
/-- The first k are there. -/
def InTo (ids zs : List Int) (k : Nat) : Prop := ∀ i, i < k → zs.getD i 0 ∈ ids
theorem InTo.zero (ids zs : List Int) : InTo ids zs 0 := fun i h => absurd h (Nat.not_lt_zero _)
theorem InTo.step {ids zs : List Int} {k : Nat} (h : InTo ids zs k) (g : zs.getD k 0 ∈ ids) : InTo ids zs (k + 1) := fun i hi => by
  by_cases e : i = k
  · subst e; exact g
  · exact h i (by omega)
theorem InTo.all {ids zs : List Int} {k : Nat} (h : InTo ids zs k) (hk : zs.length ≤ k) : ∀ x ∈ zs, x ∈ ids := fun x hx => by
  obtain ⟨i, hi, rfl⟩ := List.getElem_of_mem hx
  have := h i (by omega)
  simpa [hi] using this
theorem getD_mem {zs : List Int} {k : Nat} (h : k < zs.length) : zs.getD k 0 ∈ zs := by simp [h]
theorem InRise.mem {lo hi : Int} {zs : List Int} (h : InRise lo hi zs) {x : Int} (hx : x ∈ zs) : lo ≤ x ∧ x ≤ hi := by
  obtain ⟨i, hi', rfl⟩ := List.getElem_of_mem hx
  have := (h i hi').1
  simpa [hi'] using this
theorem inRise_of {lo hi : Int} {ids zs : List Int} (h : InRise lo hi ids) (hr : RiseTo zs zs.length) (hm : ∀ x ∈ zs, x ∈ ids) : InRise lo hi zs :=
  fun i hk => ⟨h.mem (hm _ (getD_mem hk)), fun h0 => hr i hk h0⟩
theorem rise_of {lo hi : Int} {zs : List Int} (h : InRise lo hi zs) : RiseTo zs zs.length := fun i hk h0 => (h i hk).2 h0

set_option maxRecDepth 100000 in
set_option maxHeartbeats 1000000 in
/-- impl.IdsRight. -/
theorem iir_any (sl : Option Addr) (cap : Nat) (sl2 : Option Addr) (cap2 : Nat) (sl3 : Option Addr) (cap3 : Nat) (rs : List LSt) (ps : List LPr) (zs : List Int) (w : World) (hn : rs.length ≤ 1048576) (hl : zs.length ≤ maxLen) (hz : Sts w sl rs) (hp : Prs w sl2 ps) (hw : ∀ p ∈ ps, WfP p) (hi : Ints w sl3 zs) :
    Calls Try.prog 22 #[TV sl rs.length cap sl2 ps.length cap2, .slice sl3 zs.length cap3] w fun e w' => e = .returned (.bool (B (IdsR rs ps zs))) ∧ Below w.heap.size w w' := by
  have hl' := hl
  unfold maxLen at hl'
  have HT := Lib.hid (TabAt.new w sl rs.length cap sl2 ps.length cap2)
  have B0 := Lib.hid (bA0 w (.cells #[.slice sl rs.length cap, .slice sl2 ps.length cap2] 26))
  have E1 : Hid (∀ W, Below w.heap.size w W → Calls Try.prog 33 #[TV sl rs.length cap sl2 ps.length cap2] W fun e w' => e = .returned (.bool (B (TabR rs ps))) ∧ Below W.heap.size W w') := fun W hW => itr_any sl cap sl2 cap2 rs ps W (hz.below hW) (hp.below hW) hw
  have E2 : Hid (∀ W, Below w.heap.size w W → Calls Try.prog 34 #[.slice sl3 zs.length cap3, .int .i64 1, .int .i64 999] W fun e w' => e = .returned (.bool (B (InRise 1 999 zs))) ∧ Below W.heap.size W w') := fun W hW => rw_any 1 999 sl3 cap3 zs W hl (hi.below hW)
  have E3 : Hid (∀ W, Below w.heap.size w W → Calls Try.prog 35 #[TV sl rs.length cap sl2 ps.length cap2] W fun e w' => ∃ v, e = .returned v ∧ w'.ownsRow W.heap.size 2 1 v rs.length (valsZ (idsL rs)) ∧ Below W.heap.size W w') := fun W hW => ids_any sl cap sl2 ps.length cap2 rs W hn (hz.below hW)
  have HI := Lib.hid hi
  clear hz hp hw hi
  by_cases h4 : zs.length ≤ 400
  · have h4' : ¬ (400 : Int) < (zs.length : Int) := by omega
    cases hb : B (TabR rs ps) with
    | false =>
      have NO := Lib.hid (B_no (p := IdsR rs ps zs) (fun g => B_false hb g.2.1))
      rw [NO.out]
      rw [hb] at E1
      clear hb NO E2 E3
      generalize rs.length = n at *
      generalize ps.length = m at *
      generalize zs.length = q at *
      go_enter Try.func22, Try.ntmps22
      go_wp2_with fail
      refine (E1.out _ B0.out).mono ?_
      rintro e w1 ⟨rfl, b1⟩
      have D1 := Lib.hid (bT B0.out b1)
      clear b1 E1
      go_wp2
      go_ret
      exact ⟨rfl, D1.out⟩
    | true =>
      have TR := Lib.hid (B_true hb)
      rw [hb] at E1
      cases hc : B (InRise 1 999 zs) with
      | false =>
        have NO := Lib.hid (B_no (p := IdsR rs ps zs) (fun g => B_false hc (inRise_of TR.out.2.2.1 g.2.2.1 g.2.2.2)))
        rw [NO.out]
        rw [hc] at E2
        clear hb hc NO E3 TR
        generalize rs.length = n at *
        generalize ps.length = m at *
        generalize zs.length = q at *
        go_enter Try.func22, Try.ntmps22
        go_wp2_with fail
        refine (E1.out _ B0.out).mono ?_
        rintro e w1 ⟨rfl, b1⟩
        have D1 := Lib.hid (bT B0.out b1)
        clear b1 E1
        go_wp2_with fail
        refine (E2.out _ D1.out).mono ?_
        rintro e w2 ⟨rfl, b2⟩
        have D2 := Lib.hid (bT D1.out b2)
        clear b2 E2
        go_wp2
        go_ret
        exact ⟨rfl, D2.out⟩
      | true =>
        have IR := Lib.hid (B_true hc)
        rw [hc] at E2
        have K4 : Hid (∀ x C v W, World.ownsRow W C 2 1 v rs.length (valsZ (idsL rs)) → Calls Try.prog 36 #[v, .int .i64 x] W fun e w' => e = .returned (.bool (B (x ∈ idsL rs))) ∧ Below W.heap.size W w') := fun x C v W o => by
          rw [← idsL_len rs] at o
          obtain ⟨s, k, rfl, i⟩ := own_ints o
          exact has_any s k x (idsL rs) W (by rw [idsL_len]; exact hn) i
        clear hb hc
        generalize hQ : zs.length = q at *
        have HQ := Lib.hid hQ
        clear hQ
        generalize hNN : rs.length = n at *
        clear hNN
        generalize ps.length = m at *
        go_enter Try.func22, Try.ntmps22
        go_wp2_with fail
        refine (E1.out _ B0.out).mono ?_
        rintro e w1 ⟨rfl, b1⟩
        have D1 := Lib.hid (bT B0.out b1)
        have T1 := Lib.hid (HT.out.below b1)
        clear b1 E1 HT
        go_wp2_with fail
        refine (E2.out _ D1.out).mono ?_
        rintro e w2 ⟨rfl, b2⟩
        have D2 := Lib.hid (bT D1.out b2)
        have T2 := Lib.hid (T1.out.below b2)
        clear b2 E2 D1 T1
        obtain ⟨t0, t1⟩ := T2.out.cells
        have tl := T2.out.lt
        go_wp2_with fail
        refine (E3.out _ D2.out).mono ?_
        rintro e w3 ⟨v3, rfl, o3, b3⟩
        have D3 := Lib.hid (bT D2.out b3)
        have O3 := Lib.hid o3
        clear b3 o3 E3 D2 T2 t0 t1 tl
        go_wp2
        go_loopw [25] (fun i wr => ∃ k : Nat, i = .int .i64 k ∧ k ≤ q ∧ Hid (InTo (idsL rs) zs k) ∧ Hid (Below w3.heap.size w3 wr)) (fun i _ => q - (intOf i).toNat)
        case atStart => exact ⟨0, rfl, Nat.zero_le _, InTo.zero _ _, Below.refl _ _⟩
        case round =>
          obtain ⟨k, rfl, hk, IT, H2⟩ := hrel
          have hk0 : (0 : Int) ≤ (k : Int) := by omega
          have DW := Lib.hid (bT D3.out H2.out)
          by_cases g1 : k < q
          · have g1' : (k : Int) < (q : Int) := by omega
            have hlt : k < zs.length := by rw [HQ.out]; exact g1
            obtain ⟨c, o, rfl, ZI⟩ : ∃ c o, sl3 = some ⟨c, o, none⟩ ∧ IntsAt w c o zs := by
              rcases HI.out with e | h
              · rw [e] at hlt; simp at hlt
              · exact h
            have hcc := (DW.out.cell (p := ⟨c, o + k, none⟩) ZI.1).trans (ZI.2 k hlt)
            have E5 := Lib.hid (K4.out (zs.getD k 0) _ v3 wr (own_below O3.out H2.out))
            cases hm : B (zs.getD k 0 ∈ idsL rs) with
            | true =>
              rw [hm] at E5
              have IT2 := Lib.hid (IT.out.step (B_true hm))
              generalize zs.getD k 0 = z at *
              clear hm hlt ZI IT
              go_wp2_with fail
              refine E5.out.mono ?_
              rintro e w5 ⟨rfl, b5⟩
              have H5 := Lib.hid (bT H2.out b5)
              clear b5 E5
              go_wp2
              go_roundw
              case rel => exact ⟨k + 1, by go_num, by omega, IT2, H5⟩
              case measure => simp [intOf]; omega
            | false =>
              rw [hm] at E5
              have NO := Lib.hid (B_no (p := IdsR rs ps zs) (fun g => B_false hm (g.2.2.2 _ (getD_mem hlt))))
              generalize zs.getD k 0 = z at *
              clear hm hlt ZI IT
              go_wp2_with fail
              refine E5.out.mono ?_
              rintro e w5 ⟨rfl, b5⟩
              have H5 := Lib.hid (bT DW.out b5)
              clear b5 E5
              go_wp2
              go_ret
              exact ⟨by rw [NO.out]; rfl, H5.out⟩
          · have g1' : ¬ (k : Int) < (q : Int) := by omega
            have YES := Lib.hid (B_yes (p := IdsR rs ps zs) ⟨by rw [HQ.out]; exact h4, TR.out, rise_of IR.out, IT.out.all (by rw [HQ.out]; omega)⟩)
            clear IT
            go_wp2
            go_ret
            exact ⟨by rw [YES.out]; rfl, DW.out⟩
  · have h4' : (400 : Int) < (zs.length : Int) := by omega
    have NO := Lib.hid (B_no (p := IdsR rs ps zs) (fun g => h4 g.1))
    rw [NO.out]
    clear NO E1 E2 E3
    generalize rs.length = n at *
    generalize ps.length = m at *
    generalize zs.length = q at *
    go_enter Try.func22, Try.ntmps22
    go_wp2
    go_ret
    exact ⟨rfl, B0.out⟩

set_option maxRecDepth 100000 in
set_option maxHeartbeats 2000000 in
/-- spec.IdsRight. -/
theorem sir_any (sl : Option Addr) (cap : Nat) (sl2 : Option Addr) (cap2 : Nat) (sl3 : Option Addr) (cap3 : Nat) (rs : List LSt) (ps : List LPr) (zs : List Int) (w : World) (hn : rs.length ≤ 1048576) (hl : zs.length ≤ 1048576) (hz : Sts w sl rs) (hp : Prs w sl2 ps) (hi : Ints w sl3 zs) :
    Calls Try.prog 20 #[TV sl rs.length cap sl2 ps.length cap2, .slice sl3 zs.length cap3] w fun e w' => e = .returned (.bool (B (IdsR rs ps zs))) ∧ Below w.heap.size w w' := by
  have HT := Lib.hid (TabAt.new w sl rs.length cap sl2 ps.length cap2)
  have B0 := Lib.hid (bA0 w (.cells #[.slice sl rs.length cap, .slice sl2 ps.length cap2] 26))
  have E1 : Hid (∀ W, Below w.heap.size w W → Calls Try.prog 28 #[TV sl rs.length cap sl2 ps.length cap2] W fun e w' => e = .returned (.bool (B (TabR rs ps))) ∧ Below W.heap.size W w') := fun W hW => str_any sl cap sl2 cap2 rs ps W (hz.below hW) (hp.below hW)
  have E3 : Hid (∀ W, Below w.heap.size w W → Calls Try.prog 29 #[.slice sl3 zs.length cap3] W fun e w' => e = .returned (.bool (B (RiseTo zs zs.length))) ∧ Below W.heap.size W w') := fun W hW => ri_any sl3 cap3 zs W hl (hi.below hW)
  have E2 : Hid (∀ x W, Below w.heap.size w W → Calls Try.prog 30 #[TV sl rs.length cap sl2 ps.length cap2, .int .i64 x] W fun e w' => e = .returned (.int .i64 (posOf (idsL rs) x)) ∧ Below W.heap.size W w') := fun x W hW => fd_any sl cap sl2 _ cap2 x rs W hn (hz.below hW)
  have HI := Lib.hid hi
  clear hz hp hi
  by_cases h4 : zs.length ≤ 400
  · have h4' : ¬ (400 : Int) < (zs.length : Int) := by omega
    cases hb : B (TabR rs ps) with
    | false =>
      have NO := Lib.hid (B_no (p := IdsR rs ps zs) (fun g => B_false hb g.2.1))
      rw [NO.out]
      rw [hb] at E1
      clear hb NO E2 E3
      generalize rs.length = n at *
      generalize ps.length = m at *
      generalize zs.length = q at *
      go_enter Try.func20, Try.ntmps20
      go_wp2_with fail
      refine (E1.out _ B0.out).mono ?_
      rintro e w1 ⟨rfl, b1⟩
      have D1 := Lib.hid (bT B0.out b1)
      clear b1 E1
      go_wp2
      go_ret
      exact ⟨rfl, D1.out⟩
    | true =>
      have TR := Lib.hid (B_true hb)
      rw [hb] at E1
      cases hc : B (RiseTo zs zs.length) with
      | false =>
        have NO := Lib.hid (B_no (p := IdsR rs ps zs) (fun g => B_false hc g.2.2.1))
        rw [NO.out]
        rw [hc] at E3
        clear hb hc NO E2 TR
        generalize rs.length = n at *
        generalize ps.length = m at *
        generalize zs.length = q at *
        go_enter Try.func20, Try.ntmps20
        go_wp2_with fail
        refine (E1.out _ B0.out).mono ?_
        rintro e w1 ⟨rfl, b1⟩
        have D1 := Lib.hid (bT B0.out b1)
        clear b1 E1
        go_wp2_with fail
        refine (E3.out _ D1.out).mono ?_
        rintro e w2 ⟨rfl, b2⟩
        have D2 := Lib.hid (bT D1.out b2)
        clear b2 E3
        go_wp2
        go_ret
        exact ⟨rfl, D2.out⟩
      | true =>
        have IR := Lib.hid (B_true hc)
        rw [hc] at E3
        have PN := Lib.hid (fun x => posOf_neg (idsL rs) x)
        clear hb hc
        generalize hQ : zs.length = q at *
        have HQ := Lib.hid hQ
        clear hQ
        generalize hNN : rs.length = n at *
        clear hNN
        generalize ps.length = m at *
        go_enter Try.func20, Try.ntmps20
        go_wp2_with fail
        refine (E1.out _ B0.out).mono ?_
        rintro e w1 ⟨rfl, b1⟩
        have D1 := Lib.hid (bT B0.out b1)
        have T1 := Lib.hid (HT.out.below b1)
        clear b1 E1 HT
        go_wp2_with fail
        refine (E3.out _ D1.out).mono ?_
        rintro e w3 ⟨rfl, b2⟩
        have D3 := Lib.hid (bT D1.out b2)
        have T3 := Lib.hid (T1.out.below b2)
        clear b2 E3 D1 T1
        go_wp2
        go_loopw [5] (fun i wr => ∃ k : Nat, i = .int .i64 k ∧ k ≤ q ∧ Hid (InTo (idsL rs) zs k) ∧ Hid (Below w3.heap.size w3 wr)) (fun i _ => q - (intOf i).toNat)
        case atStart => exact ⟨0, rfl, Nat.zero_le _, InTo.zero _ _, Below.refl _ _⟩
        case round =>
          obtain ⟨k, rfl, hk, IT, H2⟩ := hrel
          have hk0 : (0 : Int) ≤ (k : Int) := by omega
          have DW := Lib.hid (bT D3.out H2.out)
          by_cases g1 : k < q
          · have g1' : (k : Int) < (q : Int) := by omega
            have hlt : k < zs.length := by rw [HQ.out]; exact g1
            obtain ⟨c, o, rfl, ZI⟩ : ∃ c o, sl3 = some ⟨c, o, none⟩ ∧ IntsAt w c o zs := by
              rcases HI.out with e | h
              · rw [e] at hlt; simp at hlt
              · exact h
            have hcl : c < wr.heap.size := Nat.lt_of_lt_of_le ZI.1 DW.out.size
            have hcc := (DW.out.cell (p := ⟨c, o + k, none⟩) ZI.1).trans (ZI.2 k hlt)
            have T5 := Lib.hid (T3.out.below H2.out)
            have pz := PN.out (zs.getD k 0)
            have hcase : (zs.getD k 0 ∈ idsL rs ∧ ¬ posOf (idsL rs) (zs.getD k 0) < 0) ∨ (zs.getD k 0 ∉ idsL rs ∧ posOf (idsL rs) (zs.getD k 0) < 0) := by
              by_cases hm : zs.getD k 0 ∈ idsL rs
              · exact .inl ⟨hm, fun g => pz.1 g hm⟩
              · exact .inr ⟨hm, pz.2 hm⟩
            have GM := Lib.hid (getD_mem hlt)
            have SG := Lib.hid (fun g => IT.out.step (ids := idsL rs) (zs := zs) (k := k) g)
            clear pz hlt ZI IT
            generalize zs.getD k 0 = z at *
            have E2' := Lib.hid (E2.out z)
            clear PN
            have KX : Hid (∀ W, Below wr.heap.size wr W → w.heap.size < W.heap.size ∧ W.cell? ⟨w.heap.size, 0, none⟩ = some (.slice sl n cap) ∧ W.cell? ⟨w.heap.size, 1, none⟩ = some (.slice sl2 m cap2) ∧ c < W.heap.size ∧ W.cell? ⟨c, o + k, none⟩ = some (.int .i64 z)) := fun W hW => by
              have r1 := (T5.out.below hW).cells
              exact ⟨(T5.out.below hW).lt, r1.1, r1.2, Nat.lt_of_lt_of_le hcl hW.size, (hW.cell hcl).trans hcc⟩
            generalize posOf (idsL rs) z = pp at *
            rcases hcase with ⟨hm, hp9⟩ | ⟨hm, hp9⟩
            · have IT2 := Lib.hid (SG.out hm)
              clear SG hm GM
              go_wp2_with fail
              refine wp_region_held_drew (S := fun W => w.heap.size < W.heap.size ∧ W.cell? ⟨w.heap.size, 0, none⟩ = some (.slice sl n cap) ∧ W.cell? ⟨w.heap.size, 1, none⟩ = some (.slice sl2 m cap2) ∧ c < W.heap.size ∧ W.cell? ⟨c, o + k, none⟩ = some (.int .i64 z)) (by kernel_rfl) ?_ (fun hHeld => ?_)
              · exact KX.out _ (Below.refl _ _).drew
              refine wpAnyH_take (i := 0) (oi := _) (v := ?_) rfl (by kernel_rfl) (by kernel_rfl) (by kernel_rfl) (fun _ _ _ h => h) (Or.inl ⟨by rfl, ?_⟩) (by assumption) ?_
              rotate_left
              · first | (intro w hSw; (try dsimp only at hSw); go_simp; done) | (intro w hSw; (try dsimp only at hSw); go_simp; with_reducible rfl)
              try simp only [Act.put, List.setIfInBounds_toArray, List.set_cons_zero, List.set_cons_succ, List.getElem_toArray, List.getElem_cons_zero]
              refine wpAnyH_take (i := 1) (oi := _) (v := ?_) rfl (by kernel_rfl) (by kernel_rfl) (by kernel_rfl) (fun _ _ _ h => h) (Or.inl ⟨by rfl, ?_⟩) (by assumption) ?_
              rotate_left
              · first | (intro w hSw; (try dsimp only at hSw); go_simp; done) | (intro w hSw; (try dsimp only at hSw); go_simp; with_reducible rfl)
              try simp only [Act.put, List.setIfInBounds_toArray, List.set_cons_zero, List.set_cons_succ, List.getElem_toArray, List.getElem_cons_succ, List.getElem_cons_zero]
              refine wpAnyH_take (i := 2) (oi := _) (v := ?_) rfl (by kernel_rfl) (by kernel_rfl) (by kernel_rfl) (fun _ _ _ h => h) (Or.inl ⟨by rfl, ?_⟩) (by assumption) ?_
              rotate_left
              · first | (intro w hSw; (try dsimp only at hSw); go_simp; done) | (intro w hSw; (try dsimp only at hSw); go_simp; with_reducible rfl)
              try simp only [Act.put, List.setIfInBounds_toArray, List.set_cons_zero, List.set_cons_succ, List.getElem_toArray, List.getElem_cons_succ, List.getElem_cons_zero]
              refine wpAnyH_take (i := 3) (oi := _) (v := ?_) rfl (by kernel_rfl) (by kernel_rfl) (by kernel_rfl) (fun _ _ _ h => h) (Or.inl ⟨by rfl, ?_⟩) (by assumption) ?_
              rotate_left
              · first | (intro w hSw; (try dsimp only at hSw); go_simp; done) | (intro w hSw; (try dsimp only at hSw); go_simp; with_reducible rfl)
              try simp only [Act.put, List.setIfInBounds_toArray, List.set_cons_zero, List.set_cons_succ, List.getElem_toArray, List.getElem_cons_succ, List.getElem_cons_zero]
              refine wpAnyH_take (i := 4) (oi := _) (v := ?_) rfl (by kernel_rfl) (by kernel_rfl) (by kernel_rfl) (fun _ _ _ h => h) (Or.inl ⟨by rfl, ?_⟩) (by assumption) ?_
              rotate_left
              · first | (intro w hSw; (try dsimp only at hSw); go_simp; done) | (intro w hSw; (try dsimp only at hSw); go_simp; with_reducible rfl)
              try simp only [Act.put, List.setIfInBounds_toArray, List.set_cons_zero, List.set_cons_succ, List.getElem_toArray, List.getElem_cons_succ, List.getElem_cons_zero]
              refine wpAnyH_ready (rs := [5]) (by kernel_rfl) (by simp) ?_
              refine AllReadyH.cons rfl (fun K hK => ?_) AllReadyH.nil
              go_simp
              go_wp2_with (go_at_call 30; refine (E2'.out _ DW.out.drew).mono ?_; rintro e w5 ⟨rfl, b5⟩)
              have D5 : Hid (Below wr.heap.size wr w5) := bT ((Below.refl wr.heap.size wr).drew) b5
              clear b5
              refine hK.out _ _ ?_ (fun hHeld => ?_)
              · exact KX.out _ D5.out
              clear hK K
              refine wpAnyH_take (i := 6) (oi := _) (v := ?_) rfl (by kernel_rfl) (by kernel_rfl) (by kernel_rfl) (fun _ _ _ h => h) (Or.inl ⟨by rfl, ?_⟩) (by assumption) ?_
              rotate_left
              · first | (intro w hSw; (try dsimp only at hSw); go_simp; done) | (intro w hSw; (try dsimp only at hSw); go_simp; with_reducible rfl)
              try simp only [Act.put, List.setIfInBounds_toArray, List.set_cons_zero, List.set_cons_succ, List.getElem_toArray, List.getElem_cons_succ, List.getElem_cons_zero]
              refine wpAnyH_done (by kernel_rfl) ?_ _
              have B5 := Lib.hid (bT H2.out D5.out)
              clear D5 KX
              go_wp2
              go_roundw
              case rel => exact ⟨k + 1, by go_num, by omega, IT2, B5⟩
              case measure => simp [intOf]; omega
            · have NO := Lib.hid (B_no (p := IdsR rs ps zs) (fun g => hm (g.2.2.2 _ GM.out)))
              clear SG hm GM
              go_wp2_with fail
              refine wp_region_held_drew (S := fun W => w.heap.size < W.heap.size ∧ W.cell? ⟨w.heap.size, 0, none⟩ = some (.slice sl n cap) ∧ W.cell? ⟨w.heap.size, 1, none⟩ = some (.slice sl2 m cap2) ∧ c < W.heap.size ∧ W.cell? ⟨c, o + k, none⟩ = some (.int .i64 z)) (by kernel_rfl) ?_ (fun hHeld => ?_)
              · exact KX.out _ (Below.refl _ _).drew
              refine wpAnyH_take (i := 0) (oi := _) (v := ?_) rfl (by kernel_rfl) (by kernel_rfl) (by kernel_rfl) (fun _ _ _ h => h) (Or.inl ⟨by rfl, ?_⟩) (by assumption) ?_
              rotate_left
              · first | (intro w hSw; (try dsimp only at hSw); go_simp; done) | (intro w hSw; (try dsimp only at hSw); go_simp; with_reducible rfl)
              try simp only [Act.put, List.setIfInBounds_toArray, List.set_cons_zero, List.set_cons_succ, List.getElem_toArray, List.getElem_cons_zero]
              refine wpAnyH_take (i := 1) (oi := _) (v := ?_) rfl (by kernel_rfl) (by kernel_rfl) (by kernel_rfl) (fun _ _ _ h => h) (Or.inl ⟨by rfl, ?_⟩) (by assumption) ?_
              rotate_left
              · first | (intro w hSw; (try dsimp only at hSw); go_simp; done) | (intro w hSw; (try dsimp only at hSw); go_simp; with_reducible rfl)
              try simp only [Act.put, List.setIfInBounds_toArray, List.set_cons_zero, List.set_cons_succ, List.getElem_toArray, List.getElem_cons_succ, List.getElem_cons_zero]
              refine wpAnyH_take (i := 2) (oi := _) (v := ?_) rfl (by kernel_rfl) (by kernel_rfl) (by kernel_rfl) (fun _ _ _ h => h) (Or.inl ⟨by rfl, ?_⟩) (by assumption) ?_
              rotate_left
              · first | (intro w hSw; (try dsimp only at hSw); go_simp; done) | (intro w hSw; (try dsimp only at hSw); go_simp; with_reducible rfl)
              try simp only [Act.put, List.setIfInBounds_toArray, List.set_cons_zero, List.set_cons_succ, List.getElem_toArray, List.getElem_cons_succ, List.getElem_cons_zero]
              refine wpAnyH_take (i := 3) (oi := _) (v := ?_) rfl (by kernel_rfl) (by kernel_rfl) (by kernel_rfl) (fun _ _ _ h => h) (Or.inl ⟨by rfl, ?_⟩) (by assumption) ?_
              rotate_left
              · first | (intro w hSw; (try dsimp only at hSw); go_simp; done) | (intro w hSw; (try dsimp only at hSw); go_simp; with_reducible rfl)
              try simp only [Act.put, List.setIfInBounds_toArray, List.set_cons_zero, List.set_cons_succ, List.getElem_toArray, List.getElem_cons_succ, List.getElem_cons_zero]
              refine wpAnyH_take (i := 4) (oi := _) (v := ?_) rfl (by kernel_rfl) (by kernel_rfl) (by kernel_rfl) (fun _ _ _ h => h) (Or.inl ⟨by rfl, ?_⟩) (by assumption) ?_
              rotate_left
              · first | (intro w hSw; (try dsimp only at hSw); go_simp; done) | (intro w hSw; (try dsimp only at hSw); go_simp; with_reducible rfl)
              try simp only [Act.put, List.setIfInBounds_toArray, List.set_cons_zero, List.set_cons_succ, List.getElem_toArray, List.getElem_cons_succ, List.getElem_cons_zero]
              refine wpAnyH_ready (rs := [5]) (by kernel_rfl) (by simp) ?_
              refine AllReadyH.cons rfl (fun K hK => ?_) AllReadyH.nil
              go_simp
              go_wp2_with (go_at_call 30; refine (E2'.out _ DW.out.drew).mono ?_; rintro e w5 ⟨rfl, b5⟩)
              have D5 : Hid (Below wr.heap.size wr w5) := bT ((Below.refl wr.heap.size wr).drew) b5
              clear b5
              refine hK.out _ _ ?_ (fun hHeld => ?_)
              · exact KX.out _ D5.out
              clear hK K
              refine wpAnyH_take (i := 6) (oi := _) (v := ?_) rfl (by kernel_rfl) (by kernel_rfl) (by kernel_rfl) (fun _ _ _ h => h) (Or.inl ⟨by rfl, ?_⟩) (by assumption) ?_
              rotate_left
              · first | (intro w hSw; (try dsimp only at hSw); go_simp; done) | (intro w hSw; (try dsimp only at hSw); go_simp; with_reducible rfl)
              try simp only [Act.put, List.setIfInBounds_toArray, List.set_cons_zero, List.set_cons_succ, List.getElem_toArray, List.getElem_cons_succ, List.getElem_cons_zero]
              refine wpAnyH_done (by kernel_rfl) ?_ _
              have B5 := Lib.hid (bT DW.out D5.out)
              clear D5 KX
              go_wp2
              go_ret
              exact ⟨by rw [NO.out]; rfl, B5.out⟩
          · have g1' : ¬ (k : Int) < (q : Int) := by omega
            have YES := Lib.hid (B_yes (p := IdsR rs ps zs) ⟨by rw [HQ.out]; exact h4, TR.out, by rw [HQ.out]; exact IR.out, IT.out.all (by rw [HQ.out]; omega)⟩)
            clear IT
            go_wp2
            go_ret
            exact ⟨by rw [YES.out]; rfl, DW.out⟩
  · have h4' : (400 : Int) < (zs.length : Int) := by omega
    have NO := Lib.hid (B_no (p := IdsR rs ps zs) (fun g => h4 g.1))
    rw [NO.out]
    clear NO E1 E2 E3
    generalize rs.length = n at *
    generalize ps.length = m at *
    generalize zs.length = q at *
    go_enter Try.func20, Try.ntmps20
    go_wp2
    go_ret
    exact ⟨rfl, B0.out⟩

end Go.Proofs.Ytgfclllfkpblnaa
namespace Go.Proofs.Ytgfclllfkpblnaa
open Go.RowKit
set_option linter.unusedVariables false

theorem IdsR_bare {rs rs' : List LSt} (ps : List LPr) (zs : List Int) (h : bareS rs = bareS rs') (g : IdsR rs ps zs) : IdsR rs' ps zs :=
  ⟨g.1, TabR_bare ps h g.2.1, g.2.2.1, by rw [← idsL_bare h]; exact g.2.2.2⟩
theorem BIds {rs rs' : List LSt} (ps : List LPr) (zs : List Int) (h : bareS rs = bareS rs') : B (IdsR rs ps zs) = B (IdsR rs' ps zs) := B_iff ⟨IdsR_bare ps zs h, IdsR_bare ps zs h.symm⟩


end Go.Proofs.Ytgfclllfkpblnaa
