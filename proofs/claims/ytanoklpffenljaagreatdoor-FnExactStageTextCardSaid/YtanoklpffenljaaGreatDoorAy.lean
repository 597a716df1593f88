/-
  THE IDS OF A TABLE, as both sides answer them.
  A STATION'S CHANNELS UP TO A TOP, as both sides answer them.
  A STATION'S CHANNELS UP TO A TOP: the model's answer.
-/
import Derived.Test.YtanoklpffenljaaGreatDoorAm
import Derived.Test.YtanoklpffenljaaGreatDoorAg
import Derived.Test.YtanoklpffenljaaGreatDoorAo
namespace Go.Proofs.YtanoklpffenljaaGreatDoor
open Go.RowKit
set_option linter.unusedVariables false

/-- The Ids of a right table; none of another. -/
noncomputable def idsA (rs : List LSt) (ps : List LPr) : List Int := if B (TabR rs ps) = true then idsL rs else []


/-- An empty row just made. -/
theorem own_none (w : World) : (w.alloc (.cells #[] 2)).ownsRow w.heap.size 2 1 (.slice (some ⟨w.heap.size, 0, none⟩) 0 0) 0 [] :=
  ⟨rfl, .inr ⟨w.heap.size, 0, #[], rfl, Nat.le_refl _, by show (w.heap.push _)[w.heap.size]? = _; simp, Nat.le_refl _, Nat.zero_le _, rfl, rfl⟩⟩


end Go.Proofs.YtanoklpffenljaaGreatDoor
namespace Go.Proofs.YtanoklpffenljaaGreatDoor
open Go.RowKit
set_option linter.unusedVariables false

/-- The channels of one station that count. -/
def FF (x id top : Int) (l : List Int) : List Int := if x = id then l.filter (fun c => decide (c ≤ top)) else []
def domF (id top : Int) (r : LSt) : List Int := FF r.1 id top r.2.2.2
theorem FF_nil (x id top : Int) : FF x id top [] = [] := by unfold FF; split <;> simp
theorem FF_yes (x id top : Int) (zs : List Int) (j : Nat) (h : j < zs.length) (h1 : x = id) (h2 : zs.getD j 0 ≤ top) : FF x id top (zs.take (j + 1)) = FF x id top (zs.take j) ++ [zs.getD j 0] := by
  have e : zs.getD j 0 = zs[j] := by simp [h]
  rw [e] at h2 ⊢
  subst h1
  unfold FF
  rw [if_pos rfl, if_pos rfl, List.take_succ_eq_append_getElem h, List.filter_append]
  simp [h2]
theorem FF_no (x id top : Int) (zs : List Int) (j : Nat) (h : j < zs.length) (h1 : ¬ (x = id ∧ zs.getD j 0 ≤ top)) : FF x id top (zs.take (j + 1)) = FF x id top (zs.take j) := by
  have e : zs.getD j 0 = zs[j] := by simp [h]
  rw [e] at h1
  unfold FF
  by_cases hx : x = id
  · have h2 : ¬ zs[j] ≤ top := fun g => h1 ⟨hx, g⟩
    rw [if_pos hx, if_pos hx, List.take_succ_eq_append_getElem h, List.filter_append]
    simp [h2]
  · simp [hx]
theorem flat_step {α β : Type} (f : α → List β) (rs : List α) (k : Nat) (h : k < rs.length) : (rs.take (k + 1)).flatMap f = (rs.take k).flatMap f ++ f rs[k] := by
  rw [List.take_succ_eq_append_getElem h, List.flatMap_append]
  simp
theorem own_apart {w : World} {C : Nat} {v : Value} {n : Nat} {xs : List Value} (h : w.ownsRow C 2 1 v n xs) {b : Nat} {cs : Array Value} {t : TypeId} (hb : w.heap[b]? = some (.cells cs t)) (ht : t ≠ 2) : v.ownBlock ≠ some b := by
  rcases h.2 with ⟨rfl, _⟩ | ⟨g, cap, cur, rfl, _, hg, _⟩
  · intro e; cases e
  · intro e
    cases e
    rw [hb] at hg
    simp at hg
    exact ht hg.2
/-- A station in a block of its own. -/
def SAt (w : World) (b : Nat) (x y : Int) (d : Value) : Prop := w.heap[b]? = some (.cells #[.int .i64 x, .int .i64 y, d] 87)
theorem SAt.lt {w : World} {b : Nat} {x y : Int} {d : Value} (h : SAt w b x y d) : b < w.heap.size := (Array.getElem?_eq_some_iff.1 h).1
theorem SAt.cells {w : World} {b : Nat} {x y : Int} {d : Value} (h : SAt w b x y d) : w.cell? ⟨b, 0, none⟩ = some (.int .i64 x) ∧ w.cell? ⟨b, 2, none⟩ = some d := by
  unfold SAt at h
  constructor <;> simp [World.cell?, h]
theorem SAt.grow {w : World} {b : Nat} {x y : Int} {d : Value} (h : SAt w b x y d) {o : Obj} {w' : World} {v : Value} (hg : (w.alloc o).grownBy w' v.ownBlock) (hv : v.ownBlock ≠ some b) : SAt w' b x y d :=
  (hg.block b (by simp; exact Nat.lt_succ_of_lt h.lt) (fun e => hv e.symm)).trans ((Below.heap_alloc _ _ _ h.lt).trans h)
noncomputable def domA (rs : List LSt) (ps : List LPr) (id top : Int) : List Int := if B (TabR rs ps) = true then rs.flatMap (domF id top) else []

set_option maxRecDepth 100000 in
set_option maxHeartbeats 1000000 in
/-- impl.domainIn, of a right table. -/
theorem din_any (sl : Option Addr) (cap : Nat) (sl2 : Option Addr) (cap2 : Nat) (rs : List LSt) (ps : List LPr) (id top : Int) (w : World) (hz : Sts w sl rs) (TR0 : TabR rs ps) :
    Calls Tryz.prog 124 #[TV sl rs.length cap sl2 ps.length cap2, .int .i64 id, .int .i64 top] w fun e w' => ∃ v, e = .returned v ∧ w'.ownsRow w.heap.size 2 1 v (rs.flatMap (domF id top)).length (valsZ (rs.flatMap (domF id top))) ∧ Below w.heap.size w w' := by
  obtain ⟨i0, hi0, hz0, hz1, hz2⟩ := info_parts info2'
  have HT := Lib.hid (TabAt.new w sl rs.length cap sl2 ps.length cap2)
  have B0 := Lib.hid (bA0 w (.cells #[.slice sl rs.length cap, .slice sl2 ps.length cap2] 35))
  have HZ := Lib.hid hz
  have TR := Lib.hid TR0
  clear hz TR0
  generalize hA : rs.flatMap (domF id top) = ans
  have HA := Lib.hid hA
  clear hA
  generalize hN : rs.length = n at *
  have HN := Lib.hid hN
  clear hN
  generalize ps.length = m at *
  obtain ⟨t0, t1⟩ := HT.out.cells
  have tl := HT.out.lt
  go_enter Tryz.func124, Tryz.ntmps124
  have hn12 : n ≤ 12 := by have := TR.out.1.2.1; rw [HN.out] at this; exact this
  go_wp2
  obtain ⟨w1, ew1⟩ : ∃ w1, w1 = w.alloc (.cells #[.slice sl n cap, .slice sl2 m cap2] 35) := ⟨_, rfl⟩
  rw [← ew1] at HT B0 t0 t1 tl ⊢
  have D1 := B0
  clear ew1
  go_loopw [7, 15] (fun v i wr => ∃ (k : Nat) (cur : List Int), i = .int .i64 k ∧ k ≤ n ∧ cur.length ≤ 8 * k ∧ Hid (cur = (rs.take k).flatMap (domF id top)) ∧ Hid (wr.ownsRow w1.heap.size 2 1 v cur.length (valsZ cur)) ∧ Hid (Below w1.heap.size w1 wr)) (fun _ i _ => n - (intOf i).toNat)
  case atStart => exact ⟨0, [], rfl, Nat.zero_le _, Nat.zero_le _, rfl, ⟨rfl, .inl ⟨rfl, rfl⟩⟩, Below.refl _ _⟩
  case round =>
    obtain ⟨k, cur, rfl, hk, hcl, HC, H1, H2⟩ := hrel
    have hk0 : (0 : Int) ≤ (k : Int) := by omega
    have DW := Lib.hid (D1.out.trans (H2.out.mono D1.out.size))
    by_cases h1 : k < n
    · have h1' : (k : Int) < (n : Int) := by omega
      have hlt : k < rs.length := by rw [HN.out]; exact h1
      obtain ⟨c, o, rfl, Z0⟩ : ∃ c o, sl = some ⟨c, o, none⟩ ∧ StAt w c o rs := by
        rcases HZ.out.row with e | h
        · rw [e] at hlt; simp at hlt
        · exact h
      have hc0 := (DW.out.cell Z0.lt).trans (Z0.cell k hlt).1
      have hc1 := (DW.out.cell Z0.lt).trans (Z0.cell k hlt).2.1
      have hc2 := (DW.out.cell Z0.lt).trans (Z0.cell k hlt).2.2
      obtain ⟨sld, capd, ed, hi, -⟩ := HZ.out.dom rs[k] (List.getElem_mem hlt)
      have hd8 := (TR.out.2.1 rs[k] (List.getElem_mem hlt)).2.1.2
      have FS := Lib.hid (flat_step (domF id top) rs k hlt)
      obtain ⟨x, y, dv, zs, hp⟩ : ∃ x y dv zs, rs[k] = (x, y, dv, zs) := ⟨_, _, _, _, rfl⟩
      rw [hp] at hc0 hc1 hc2 ed hi hd8 FS
      dsimp only at hc0 hc1 hc2 ed hi hd8
      subst ed
      have FS2 := Lib.hid (show (rs.take (k + 1)).flatMap (domF id top) = cur ++ FF x id top zs by rw [HC.out]; exact FS.out)
      have HI := Lib.hid hi
      generalize hQ : zs.length = q at *
      have HQ := Lib.hid hQ
      clear hi Z0 hlt hp FS hQ HC
      have S5 := Lib.hid (show SAt (wr.alloc (.cells #[.int .i64 x, .int .i64 y, .slice sld q capd] 87)) wr.heap.size x y (.slice sld q capd) from new_at _ _)
      have O5 := Lib.hid (H1.out.alloc (.cells #[.int .i64 x, .int .i64 y, .slice sld q capd] 87))
      have G5 := Lib.hid (bA H2.out (.cells #[.int .i64 x, .int .i64 y, .slice sld q capd] 87))
      have hsw := H2.out.size
      clear H1 H2
      go_wp2
      obtain ⟨w5, e5⟩ : ∃ w5, w5 = wr.alloc (.cells #[.int .i64 x, .int .i64 y, .slice sld q capd] 87) := ⟨_, rfl⟩
      rw [← e5] at S5 O5 G5 ⊢
      obtain ⟨bs, eb⟩ : ∃ bs, bs = wr.heap.size := ⟨_, rfl⟩
      rw [← eb] at S5 ⊢
      clear e5 eb hc0 hc1 hc2
      go_loopw [7, 22] (fun v i wr => ∃ (j : Nat) (cu : List Int), i = .int .i64 j ∧ j ≤ q ∧ cu.length ≤ 8 * k + j ∧ Hid (cu = cur ++ FF x id top (zs.take j)) ∧ Hid (wr.ownsRow w1.heap.size 2 1 v cu.length (valsZ cu)) ∧ Hid (SAt wr bs x y (.slice sld q capd)) ∧ Hid (Below w1.heap.size w1 wr)) (fun _ i _ => q - (intOf i).toNat)
      case atStart => exact ⟨0, cur, rfl, Nat.zero_le _, hcl, (by show cur = cur ++ FF x id top (zs.take 0); rw [List.take_zero, FF_nil, List.append_nil]), O5, S5, G5⟩
      case round =>
        obtain ⟨j, cu, rfl, hj, hcu, HC, H1, HS, H2⟩ := hrel
        have hj0 : (0 : Int) ≤ (j : Int) := by omega
        have DV := Lib.hid (D1.out.trans (H2.out.mono D1.out.size))
        have sl5 := HS.out.lt
        have hs5 := H2.out.size
        obtain ⟨s0, s2⟩ := HS.out.cells
        by_cases g1 : j < q
        · have g1' : (j : Int) < (q : Int) := by omega
          have hlt : j < zs.length := by rw [HQ.out]; exact g1
          obtain ⟨cd, od, rfl, ZI⟩ : ∃ c o, sld = some ⟨c, o, none⟩ ∧ IntsAt w c o zs := by
            rcases HI.out with e | h
            · rw [e] at hlt; simp at hlt
            · exact h
          have hc := (DV.out.cell (p := ⟨cd, od + j, none⟩) ZI.1).trans (ZI.2 j hlt)
          by_cases a1 : x = id
          · have a1' : (x == id) = true := by simp [a1]
            by_cases a2 : zs.getD j 0 ≤ top
            · have HN2 := Lib.hid (show cu ++ [zs.getD j 0] = cur ++ FF x id top (zs.take (j + 1)) by rw [FF_yes x id top zs j hlt a1 a2, ← List.append_assoc, ← HC.out])
              have EV := Lib.hid (show valsZ cu ++ [.int .i64 (zs.getD j 0)] = valsZ (cu ++ [zs.getD j 0]) by simp [valsZ])
              have NE := Lib.hid (own_apart H1.out HS.out (by decide))
              generalize zs.getD j 0 = z at *
              clear hlt ZI HC a1
              go_wp2_with (first | (at_builtin; refine wpList_append_lies _ rfl (.tmp 35) (.tmp 37) 43 rfl w1.heap.size 2 i0 (.int .i64 0) 1 8 Tryz.underlying43 hi0 hz0 hz1 hz2 rfl (by decide) _ _ _ rfl (H1.out.alloc _) ⟨wr.heap.size, 0, none⟩ 1 1 [.int .i64 z] rfl rfl (cell_one_new _ _ _) (by intro u hu; simp at hu; subst hu; rfl) (by decide) (by unfold maxLen; omega) (by omega) (by simp; omega) (wr.heap.size + 1) (by simp) ?_))
              intro g9 cap9 w9 own9 grow9 hg9 hlt9
              have B9 := Lib.hid ((bA H2.out (.cells #[.int .i64 z] 2)).grown grow9 (by simp; omega) (fun j hj => (H1.out.lt j hj).1))
              have S9 := Lib.hid (HS.out.grow grow9 NE.out)
              rw [EV.out] at own9
              have N9 : Hid (w9.ownsRow w1.heap.size 2 1 (.slice (some ⟨g9, 0, none⟩) (cu.length + 1) cap9) (cu ++ [z]).length (valsZ (cu ++ [z]))) := by
                rw [List.length_append]; exact own9
              have LL := Lib.hid (show (cu ++ [z]).length ≤ 8 * k + (j + 1) by rw [List.length_append]; simp; omega)
              clear own9 grow9 hg9 hlt9 H1 HS H2 EV NE
              go_wp2
              go_roundw
              case rel => exact ⟨j + 1, cu ++ [z], by go_num, by omega, LL.out, HN2, N9, S9, B9⟩
              case measure => simp [intOf]; omega
            · have HN2 := Lib.hid (show cu = cur ++ FF x id top (zs.take (j + 1)) by rw [FF_no x id top zs j hlt (fun g => a2 g.2)]; exact HC.out)
              generalize zs.getD j 0 = z at *
              clear hlt ZI HC a1
              go_wp2
              go_roundw
              case rel => exact ⟨j + 1, cu, by go_num, by omega, by omega, HN2, H1, HS, H2⟩
              case measure => simp [intOf]; omega
          · have a1' : (x == id) = false := by simp [a1]
            have HN2 := Lib.hid (show cu = cur ++ FF x id top (zs.take (j + 1)) by rw [FF_no x id top zs j hlt (fun g => a1 g.1)]; exact HC.out)
            generalize zs.getD j 0 = z at *
            clear hlt ZI HC a1
            go_wp2
            go_roundw
            case rel => exact ⟨j + 1, cu, by go_num, by omega, by omega, HN2, H1, HS, H2⟩
            case measure => simp [intOf]; omega
        · have g1' : ¬ (j : Int) < (q : Int) := by omega
          have HE := Lib.hid (show cu = (rs.take (k + 1)).flatMap (domF id top) by
            rw [FS2.out, HC.out, List.take_of_length_le (by rw [HQ.out]; omega)])
          clear HC
          go_wp2
          go_roundw
          case rel => exact ⟨k + 1, cu, by go_num, by omega, by omega, HE, H1, H2⟩
          case measure => simp [intOf]; omega
    · have h1' : ¬ (k : Int) < (n : Int) := by omega
      have P := Lib.hid (show cur = ans by rw [HC.out, List.take_of_length_le (by rw [HN.out]; omega), HA.out])
      have OP := Lib.hid (own_mono H1.out D1.out.size)
      rw [P.out] at OP
      clear H1 HC P
      go_wp2
      go_ret
      exact ⟨_, rfl, OP.out, DW.out⟩


end Go.Proofs.YtanoklpffenljaaGreatDoor
namespace Go.Proofs.YtanoklpffenljaaGreatDoor
open Go.RowKit
set_option linter.unusedVariables false

theorem rise_lt (zs : List Int) (lo hi : Int) (h : InRise lo hi zs) : ∀ i j, i < j → j < zs.length → zs.getD i 0 < zs.getD j 0 := by
  intro i j hij hj
  induction j with
  | zero => omega
  | succ j ih =>
    have h1 := (h (j + 1) hj).2 (by omega)
    simp only [Nat.add_sub_cancel] at h1
    by_cases e : i = j
    · subst e; exact h1
    · have := ih (by omega) (by omega); omega
theorem flat_none (id top : Int) (rs : List LSt) (h : id ∉ idsL rs) : rs.flatMap (domF id top) = [] := by
  rw [List.flatMap_eq_nil_iff]
  intro r hr
  unfold domF FF
  rw [if_neg]
  rintro rfl
  exact h (List.mem_map.2 ⟨r, hr, rfl⟩)
theorem flat_one (id top : Int) (rs : List LSt) (k : Nat) (h : k < rs.length) (hk : rs[k].1 = id) (hu : ∀ i (h : i < rs.length), i ≠ k → rs[i].1 ≠ id) : rs.flatMap (domF id top) = rs[k].2.2.2.filter (fun c => decide (c ≤ top)) := by
  have e : rs = rs.take k ++ rs[k] :: rs.drop (k + 1) := by rw [List.getElem_cons_drop, List.take_append_drop]
  have h1 : (rs.take k).flatMap (domF id top) = [] := by
    rw [List.flatMap_eq_nil_iff]
    intro r hr
    obtain ⟨i, hi, rfl⟩ := List.getElem_of_mem hr
    rw [List.length_take] at hi
    unfold domF FF
    rw [if_neg]
    rw [List.getElem_take]
    exact hu i (by omega) (by omega)
  have h2 : (rs.drop (k + 1)).flatMap (domF id top) = [] := by
    rw [List.flatMap_eq_nil_iff]
    intro r hr
    obtain ⟨i, hi, rfl⟩ := List.getElem_of_mem hr
    rw [List.length_drop] at hi
    unfold domF FF
    rw [if_neg]
    rw [List.getElem_drop]
    exact hu (k + 1 + i) (by omega) (by omega)
  have h3 : domF id top rs[k] = rs[k].2.2.2.filter (fun c => decide (c ≤ top)) := by
    unfold domF FF
    rw [if_pos hk]
  calc rs.flatMap (domF id top) = (rs.take k ++ rs[k] :: rs.drop (k + 1)).flatMap (domF id top) := by rw [← e]
    _ = rs[k].2.2.2.filter (fun c => decide (c ≤ top)) := by rw [List.flatMap_append, h1, List.flatMap_cons, h2, h3]; simp
theorem idsL_at (rs : List LSt) (k : Nat) (h : k < (idsL rs).length) (h2 : k < rs.length) : (idsL rs)[k] = rs[k].1 := by simp [idsL]
/-- Where a station is, when the ids rise. -/
theorem pos_at (rs : List LSt) (id : Int) (h : id ∈ idsL rs) : ∃ k, ∃ hk : k < rs.length, posOf (idsL rs) id = (k : Int) ∧ rs[k].1 = id := by
  have h1 := List.idxOf_lt_length_iff.2 h
  have h2 : (idsL rs).idxOf id < rs.length := by rwa [idsL_len] at h1
  refine ⟨(idsL rs).idxOf id, h2, by unfold posOf; rw [if_pos h1], ?_⟩
  rw [← idsL_at rs _ h1 h2]
  exact List.getElem_idxOf h1

set_option maxRecDepth 100000 in
set_option maxHeartbeats 1000000 in
/-- spec.DomainOf. -/
theorem sdo_any (sl : Option Addr) (cap : Nat) (sl2 : Option Addr) (cap2 : Nat) (rs : List LSt) (ps : List LPr) (id top : Int) (w : World) (hn : rs.length ≤ 1048576) (hz : Sts w sl rs) (hp : Prs w sl2 ps) :
    Calls Tryz.prog 115 #[TV sl rs.length cap sl2 ps.length cap2, .int .i64 id, .int .i64 top] w fun e w' => ∃ v, e = .returned v ∧ w'.ownsRow w.heap.size 2 1 v (domA rs ps id top).length (valsZ (domA rs ps id top)) ∧ Below w.heap.size w w' := by
  obtain ⟨i0, hi0, hz0, hz1, hz2⟩ := info_parts info2'
  have HT := Lib.hid (TabAt.new w sl rs.length cap sl2 ps.length cap2)
  have B0 := Lib.hid (bA0 w (.cells #[.slice sl rs.length cap, .slice sl2 ps.length cap2] 35))
  have E1 : Hid (∀ W, Below w.heap.size w W → Calls Tryz.prog 50 #[TV sl rs.length cap sl2 ps.length cap2] W fun e w' => e = .returned (.bool (B (TabR rs ps))) ∧ Below W.heap.size W w') := fun W hW => str_any sl cap sl2 cap2 rs ps W (hz.below hW) (hp.below hW)
  have E2 : Hid (∀ W, Below w.heap.size w W → Calls Tryz.prog 91 #[TV sl rs.length cap sl2 ps.length cap2, .int .i64 id] W fun e w' => e = .returned (.int .i64 (posOf (idsL rs) id)) ∧ Below W.heap.size W w') := fun W hW => fd_any sl cap sl2 _ cap2 id rs W hn (hz.below hW)
  have HZ := Lib.hid hz
  clear hz hp
  unfold domA
  have O0 := Lib.hid (own_none (w.alloc (.cells #[.slice sl rs.length cap, .slice sl2 ps.length cap2] 35)))
  have hs1 : (w.alloc (.cells #[.slice sl rs.length cap, .slice sl2 ps.length cap2] 35)).heap.size = w.heap.size + 1 := by simp
  rw [hs1] at O0
  cases hb : B (TabR rs ps) with
  | false =>
    rw [hb] at E1
    simp only [Bool.false_eq_true, if_false]
    generalize rs.length = n at *
    generalize ps.length = m at *
    clear hb E2
    go_enter Tryz.func115, Tryz.ntmps115
    go_wp2_with fail
    refine (E1.out _ (bA B0.out _)).mono ?_
    rintro e w1 ⟨rfl, b1⟩
    have D1 := Lib.hid (bT (bA B0.out _) b1)
    have O1 := Lib.hid (own_mono (own_below O0.out b1) (Nat.le_add_right w.heap.size 1))
    clear b1 E1
    go_wp2
    go_ret
    exact ⟨_, rfl, O1.out, D1.out⟩
  | true =>
    rw [hb] at E1
    simp only [if_true]
    have TR := Lib.hid (B_true hb)
    by_cases hm : id ∈ idsL rs
    · obtain ⟨k, hk, ep, hid⟩ := pos_at rs id hm
      have hu : ∀ i (h : i < rs.length), i ≠ k → rs[i].1 ≠ id := fun i hi hne e => by
        have r := rise_lt _ _ _ TR.out.2.2.1
        rw [← hid, ← idsL_get rs i hi, ← idsL_get rs k hk] at e
        rcases Nat.lt_or_gt_of_ne hne with g | g
        · have := r i k g (by rw [idsL_len]; exact hk); omega
        · have := r k i g (by rw [idsL_len]; exact hi); omega
      rw [flat_one id top rs k hk hid hu, show rs[k].2.2.2.filter (fun c => decide (c ≤ top)) = FF id id top rs[k].2.2.2 from (if_pos rfl).symm]
      rw [ep] at E2
      obtain ⟨sld, capd, ed, hi, -⟩ := HZ.out.dom rs[k] (List.getElem_mem hk)
      have hd8 := (TR.out.2.1 rs[k] (List.getElem_mem hk)).2.1.2
      obtain ⟨c, o, rfl, Z0⟩ : ∃ c o, sl = some ⟨c, o, none⟩ ∧ StAt w c o rs := by
        rcases HZ.out.row with e | h
        · rw [e] at hk; simp at hk
        · exact h
      have HC2 := Lib.hid (And.intro Z0.lt (Z0.cell k hk).2.2)
      rw [ed] at HC2
      generalize rs[k].2.2.2 = zs at *
      have HI := Lib.hid hi
      clear hi ed hu hid Z0 hm ep hb
      generalize rs.length = n at *
      generalize ps.length = m at *
      have hk' : (k : Int) < (n : Int) := by omega
      have hk0 : ¬ (k : Int) < 0 := by omega
      generalize hQ : zs.length = q at *
      have HQ := Lib.hid hQ
      clear hQ
      go_enter Tryz.func115, Tryz.ntmps115
      go_wp2_with fail
      refine (E1.out _ (bA B0.out _)).mono ?_
      rintro e w1 ⟨rfl, b1⟩
      have D1 := Lib.hid (bT (bA B0.out _) b1)
      have O1 := Lib.hid (own_below O0.out b1)
      have T1 := Lib.hid ((HT.out.below (bA0 _ _)).below b1)
      clear b1 E1 HT O0
      obtain ⟨t0, t1⟩ := T1.out.cells
      have tl := T1.out.lt
      go_wp2_with fail
      refine (E2.out _ D1.out).mono ?_
      rintro e w2 ⟨rfl, b2⟩
      have D2 := Lib.hid (bT D1.out b2)
      have O2 := Lib.hid (own_below O1.out b2)
      have T2 := Lib.hid (T1.out.below b2)
      clear b2 t0 t1 tl O1 D1 T1
      obtain ⟨t0, t1⟩ := T2.out.cells
      have tl := T2.out.lt
      have KX : Hid (∀ W, Below w2.heap.size w2 W → w.heap.size < W.heap.size ∧ W.cell? ⟨w.heap.size, 0, none⟩ = some (.slice (some ⟨c, o, none⟩) n cap) ∧ W.cell? ⟨w.heap.size, 1, none⟩ = some (.slice sl2 m cap2) ∧ c < W.heap.size ∧ W.cell? ⟨c, o + k * 3 + 2, none⟩ = some (.slice sld q capd)) := fun W hW => by
        have r1 := (T2.out.below hW).cells
        have dw := bT D2.out hW
        exact ⟨(T2.out.below hW).lt, r1.1, r1.2, Nat.lt_of_lt_of_le HC2.out.1 dw.size, (dw.cell HC2.out.1).trans HC2.out.2⟩
      go_wp2_with fail
      refine wp_region_held_drew (S := fun W => w.heap.size < W.heap.size ∧ W.cell? ⟨w.heap.size, 0, none⟩ = some (.slice (some ⟨c, o, none⟩) n cap) ∧ W.cell? ⟨w.heap.size, 1, none⟩ = some (.slice sl2 m cap2) ∧ c < W.heap.size ∧ W.cell? ⟨c, o + k * 3 + 2, none⟩ = some (.slice sld q capd)) (by kernel_rfl) ?_ (fun hHeld => ?_)
      · exact KX.out _ (Below.refl _ _).drew
      refine wpAnyH_take (i := 0) (oi := _) (v := ?_) rfl (by kernel_rfl) (by kernel_rfl) (by kernel_rfl) (fun _ _ _ h => h) (Or.inl ⟨by rfl, ?_⟩) (by assumption) ?_
      rotate_left
      · first | (intro w hSw; (try dsimp only at hSw); go_simp; done) | (intro w hSw; (try dsimp only at hSw); go_simp; with_reducible rfl)
      try simp only [Act.put, List.setIfInBounds_toArray, List.set_cons_zero, List.set_cons_succ, List.getElem_toArray, List.getElem_cons_zero]
      refine wpAnyH_take (i := 1) (oi := _) (v := ?_) rfl (by kernel_rfl) (by kernel_rfl) (by kernel_rfl) (fun _ _ _ h => h) (Or.inl ⟨by rfl, ?_⟩) (by assumption) ?_
      rotate_left
      · first | (intro w hSw; (try dsimp only at hSw); go_simp; done) | (intro w hSw; (try dsimp only at hSw); go_simp; with_reducible rfl)
      try simp only [Act.put, List.setIfInBounds_toArray, List.set_cons_zero, List.set_cons_succ, List.getElem_toArray, List.getElem_cons_succ, List.getElem_cons_zero]
      refine wpAnyH_take (i := 2) (oi := _) (v := ?_) rfl (by kernel_rfl) (by kernel_rfl) (by kernel_rfl) (fun _ _ _ h => h) (Or.inl ⟨by rfl, ?_⟩) (by assumption) ?_
      rotate_left
      · first | (intro w hSw; (try dsimp only at hSw); go_simp; done) | (intro w hSw; (try dsimp only at hSw); go_simp; with_reducible rfl)
      try simp only [Act.put, List.setIfInBounds_toArray, List.set_cons_zero, List.set_cons_succ, List.getElem_toArray, List.getElem_cons_succ, List.getElem_cons_zero]
      refine wpAnyH_take (i := 3) (oi := _) (v := ?_) rfl (by kernel_rfl) (by kernel_rfl) (by kernel_rfl) (fun _ _ _ h => h) (Or.inl ⟨by rfl, ?_⟩) (by assumption) ?_
      rotate_left
      · first | (intro w hSw; (try dsimp only at hSw); go_simp; done) | (intro w hSw; (try dsimp only at hSw); go_simp; with_reducible rfl)
      try simp only [Act.put, List.setIfInBounds_toArray, List.set_cons_zero, List.set_cons_succ, List.getElem_toArray, List.getElem_cons_succ, List.getElem_cons_zero]
      refine wpAnyH_ready (rs := [4]) (by kernel_rfl) (by simp) ?_
      refine AllReadyH.cons rfl (fun K hK => ?_) AllReadyH.nil
      go_simp
      go_wp2_with (go_at_call 91; refine (E2.out _ D2.out.drew).mono ?_; rintro e w3 ⟨rfl, b3⟩)
      have D3 : Hid (Below w2.heap.size w2 w3) := bT ((Below.refl w2.heap.size w2).drew) b3
      clear b3
      refine hK.out _ _ ?_ (fun hHeld => ?_)
      · exact KX.out _ D3.out
      clear hK K
      refine wpAnyH_take (i := 5) (oi := _) (v := ?_) rfl (by kernel_rfl) (by kernel_rfl) (by kernel_rfl) (fun _ _ _ h => h) (Or.inl ⟨by rfl, ?_⟩) (by assumption) ?_
      rotate_left
      · first | (intro w hSw; (try dsimp only at hSw); go_simp; done) | (intro w hSw; (try dsimp only at hSw); go_simp; with_reducible rfl)
      try simp only [Act.put, List.setIfInBounds_toArray, List.set_cons_zero, List.set_cons_succ, List.getElem_toArray, List.getElem_cons_succ, List.getElem_cons_zero]
      refine wpAnyH_take (i := 6) (oi := _) (v := ?_) rfl (by kernel_rfl) (by kernel_rfl) (by kernel_rfl) (fun _ _ _ h => h) (Or.inl ⟨by rfl, ?_⟩) (by assumption) ?_
      rotate_left
      · first | (intro w hSw; (try dsimp only at hSw); go_simp; done) | (intro w hSw; (try dsimp only at hSw); go_simp; with_reducible rfl)
      try simp only [Act.put, List.setIfInBounds_toArray, List.set_cons_zero, List.set_cons_succ, List.getElem_toArray, List.getElem_cons_succ, List.getElem_cons_zero]
      refine wpAnyH_take (i := 7) (oi := _) (v := ?_) rfl (by kernel_rfl) (by kernel_rfl) (by kernel_rfl) (fun _ _ _ h => h) (Or.inl ⟨by rfl, ?_⟩) (by assumption) ?_
      rotate_left
      · first | (intro w hSw; (try dsimp only at hSw); go_simp; done) | (intro w hSw; (try dsimp only at hSw); go_simp; with_reducible rfl)
      try simp only [Act.put, List.setIfInBounds_toArray, List.set_cons_zero, List.set_cons_succ, List.getElem_toArray, List.getElem_cons_succ, List.getElem_cons_zero]
      refine wpAnyH_take (i := 8) (oi := _) (v := ?_) rfl (by kernel_rfl) (by kernel_rfl) (by kernel_rfl) (fun _ _ _ h => h) (Or.inl ⟨by rfl, ?_⟩) (by assumption) ?_
      rotate_left
      · first | (intro w hSw; (try dsimp only at hSw); go_simp; done) | (intro w hSw; (try dsimp only at hSw); go_simp; with_reducible rfl)
      try simp only [Act.put, List.setIfInBounds_toArray, List.set_cons_zero, List.set_cons_succ, List.getElem_toArray, List.getElem_cons_succ, List.getElem_cons_zero]
      refine wpAnyH_done (by kernel_rfl) ?_ _
      have B3 := Lib.hid (bT D2.out D3.out)
      have O3 := Lib.hid (own_below O2.out D3.out)
      have hs3 := B3.out.size
      have hs4 : w.heap.size + 1 < w3.heap.size := (O3.out.lt (w.heap.size + 1) rfl).2
      clear KX D3 O2 D2 T2 E2 t0 t1 tl
      generalize hA : FF id id top zs = ans
      have HA := Lib.hid hA
      clear hA
      go_wp2
      go_loopw [7, 9] (fun v i wr => ∃ (j : Nat) (cu : List Int), i = .int .i64 j ∧ j ≤ q ∧ cu.length ≤ j ∧ Hid (cu = FF id id top (zs.take j)) ∧ Hid (wr.ownsRow (w.heap.size + 1) 2 1 v cu.length (valsZ cu)) ∧ Hid (Below (w.heap.size + 1) w3 wr)) (fun _ i _ => q - (intOf i).toNat)
      case atStart => exact ⟨0, [], rfl, Nat.zero_le _, Nat.zero_le _, (by show [] = FF id id top (zs.take 0); rw [List.take_zero, FF_nil]), O3, Below.refl _ _⟩
      case round =>
        obtain ⟨j, cu, rfl, hj, hcu, HC, H1, H2⟩ := hrel
        have hj0 : (0 : Int) ≤ (j : Int) := by omega
        have hs5 := H2.out.size
        have DV := Lib.hid (B3.out.trans (H2.out.mono (Nat.le_add_right _ 1)))
        by_cases g1 : j < q
        · have g1' : (j : Int) < (q : Int) := by omega
          have hlt : j < zs.length := by rw [HQ.out]; exact g1
          obtain ⟨cd, od, rfl, ZI⟩ : ∃ c o, sld = some ⟨c, o, none⟩ ∧ IntsAt w c o zs := by
            rcases HI.out with e | h
            · rw [e] at hlt; simp at hlt
            · exact h
          have hc := (DV.out.cell (p := ⟨cd, od + j, none⟩) ZI.1).trans (ZI.2 j hlt)
          by_cases a2 : zs.getD j 0 ≤ top
          · have HN2 := Lib.hid (show cu ++ [zs.getD j 0] = FF id id top (zs.take (j + 1)) by rw [FF_yes id id top zs j hlt rfl a2, ← HC.out])
            have EV := Lib.hid (show valsZ cu ++ [.int .i64 (zs.getD j 0)] = valsZ (cu ++ [zs.getD j 0]) by simp [valsZ])
            generalize zs.getD j 0 = z at *
            clear hlt ZI HC
            go_wp2_with (first | (at_builtin; refine wpList_append_lies _ rfl (.tmp 41) (.tmp 46) 43 rfl (w.heap.size + 1) 2 i0 (.int .i64 0) 1 8 Tryz.underlying43 hi0 hz0 hz1 hz2 rfl (by decide) _ _ _ rfl (H1.out.alloc _) ⟨wr.heap.size, 0, none⟩ 1 1 [.int .i64 z] rfl rfl (cell_one_new _ _ _) (by intro u hu; simp at hu; subst hu; rfl) (by decide) (by unfold maxLen; omega) (by omega) (by simp; omega) (wr.heap.size + 1) (by simp) ?_))
            intro g9 cap9 w9 own9 grow9 hg9 hlt9
            have B9 := Lib.hid ((H2.out.alloc (by omega) (.cells #[.int .i64 z] 2)).grown grow9 (by simp; omega) (fun j hj => (H1.out.lt j hj).1))
            rw [EV.out] at own9
            have N9 : Hid (w9.ownsRow (w.heap.size + 1) 2 1 (.slice (some ⟨g9, 0, none⟩) (cu.length + 1) cap9) (cu ++ [z]).length (valsZ (cu ++ [z]))) := by
              rw [List.length_append]; exact own9
            have LL := Lib.hid (show (cu ++ [z]).length ≤ j + 1 by rw [List.length_append]; simp; omega)
            clear own9 grow9 hg9 hlt9 H1 H2 EV
            go_wp2
            go_roundw
            case rel => exact ⟨j + 1, cu ++ [z], by go_num, by omega, LL.out, HN2, N9, B9⟩
            case measure => simp [intOf]; omega
          · have HN2 := Lib.hid (show cu = FF id id top (zs.take (j + 1)) by rw [FF_no id id top zs j hlt (fun g => a2 g.2)]; exact HC.out)
            generalize zs.getD j 0 = z at *
            clear hlt ZI HC
            go_wp2
            go_roundw
            case rel => exact ⟨j + 1, cu, by go_num, by omega, by omega, HN2, H1, H2⟩
            case measure => simp [intOf]; omega
        · have g1' : ¬ (j : Int) < (q : Int) := by omega
          have P := Lib.hid (show cu = ans by rw [HC.out, List.take_of_length_le (by rw [HQ.out]; omega), HA.out])
          have OP := Lib.hid (own_mono H1.out (Nat.le_add_right w.heap.size 1))
          rw [P.out, ← HA.out] at OP
          clear H1 HC P
          go_wp2
          go_ret
          exact ⟨_, rfl, OP.out, DV.out⟩
    · rw [flat_none id top rs hm]
      rw [posOf_miss hm] at E2
      clear hm hb
      generalize rs.length = n at *
      generalize ps.length = m at *
      go_enter Tryz.func115, Tryz.ntmps115
      go_wp2_with fail
      refine (E1.out _ (bA B0.out _)).mono ?_
      rintro e w1 ⟨rfl, b1⟩
      have D1 := Lib.hid (bT (bA B0.out _) b1)
      have O1 := Lib.hid (own_below O0.out b1)
      have T1 := Lib.hid ((HT.out.below (bA0 _ _)).below b1)
      clear b1 E1 HT O0
      obtain ⟨t0, t1⟩ := T1.out.cells
      have tl := T1.out.lt
      go_wp2_with fail
      refine (E2.out _ D1.out).mono ?_
      rintro e w2 ⟨rfl, b2⟩
      have D2 := Lib.hid (bT D1.out b2)
      have O2 := Lib.hid (own_mono (own_below O1.out b2) (Nat.le_add_right w.heap.size 1))
      clear b2
      go_wp2
      go_ret
      exact ⟨_, rfl, O2.out, D2.out⟩

end Go.Proofs.YtanoklpffenljaaGreatDoor
