/-
  A STATION'S CHANNELS UP TO A TOP, as both sides answer them.
-/
import Derived.Test.YtgfclllfkpblnaaAu
import Derived.Test.YtgfclllfkpblnaaAo
namespace Go.Proofs.Ytgfclllfkpblnaa
open Go.RowKit
set_option linter.unusedVariables false

/-- The channels of one station that count. -/
def FF (x id top : Int) (l : List Int) : List Int := if x = id then l.filter (fun c => decide (c ≤ top)) else []
def domF (id top : Int) (r : LSt) : List Int := FF r.1 id top r.2.2.2
theorem FF_nil (x id top : Int) : FF x id top [] = [] := by unfold FF; split <;> simp
theorem FF_yes (x id top : Int) (zs : List Int) (j : Nat) (h : j < zs.length) (h1 : x = id) (h2 : zs.getD j 0 ≤ top) : FF x id top (zs.take (j + 1)) = FF x id top (zs.take j) ++ [zs.getD j 0] := by
  have e : zs.getD j 0 = zs[j] := by simp [h]
  rw [e] at h2 ⊢
  subst h1
  unfold FF
  rw [if_pos rfl, if_pos rfl, List.take_succ_eq_append_getElem h, List.filter_append]
  simp [h2]
theorem FF_no (x id top : Int) (zs : List Int) (j : Nat) (h : j < zs.length) (h1 : ¬ (x = id ∧ zs.getD j 0 ≤ top)) : FF x id top (zs.take (j + 1)) = FF x id top (zs.take j) := by
  have e : zs.getD j 0 = zs[j] := by simp [h]
  rw [e] at h1
  unfold FF
  by_cases hx : x = id
  · have h2 : ¬ zs[j] ≤ top := fun g => h1 ⟨hx, g⟩
    rw [if_pos hx, if_pos hx, List.take_succ_eq_append_getElem h, List.filter_append]
    simp [h2]
  · simp [hx]
theorem flat_step {α β : Type} (f : α → List β) (rs : List α) (k : Nat) (h : k < rs.length) : (rs.take (k + 1)).flatMap f = (rs.take k).flatMap f ++ f rs[k] := by
  rw [List.take_succ_eq_append_getElem h, List.flatMap_append]
  simp
theorem own_apart {w : World} {C : Nat} {v : Value} {n : Nat} {xs : List Value} (h : w.ownsRow C 2 1 v n xs) {b : Nat} {cs : Array Value} {t : TypeId} (hb : w.heap[b]? = some (.cells cs t)) (ht : t ≠ 2) : v.ownBlock ≠ some b := by
  rcases h.2 with ⟨rfl, _⟩ | ⟨g, cap, cur, rfl, _, hg, _⟩
  · intro e; cases e
  · intro e
    cases e
    rw [hb] at hg
    simp at hg
    exact ht hg.2
/-- A station in a block of its own. -/
def SAt (w : World) (b : Nat) (x y : Int) (d : Value) : Prop := w.heap[b]? = some (.cells #[.int .i64 x, .int .i64 y, d] 67)
theorem SAt.lt {w : World} {b : Nat} {x y : Int} {d : Value} (h : SAt w b x y d) : b < w.heap.size := (Array.getElem?_eq_some_iff.1 h).1
theorem SAt.cells {w : World} {b : Nat} {x y : Int} {d : Value} (h : SAt w b x y d) : w.cell? ⟨b, 0, none⟩ = some (.int .i64 x) ∧ w.cell? ⟨b, 2, none⟩ = some d := by
  unfold SAt at h
  constructor <;> simp [World.cell?, h]
theorem SAt.grow {w : World} {b : Nat} {x y : Int} {d : Value} (h : SAt w b x y d) {o : Obj} {w' : World} {v : Value} (hg : (w.alloc o).grownBy w' v.ownBlock) (hv : v.ownBlock ≠ some b) : SAt w' b x y d :=
  (hg.block b (by simp; exact Nat.lt_succ_of_lt h.lt) (fun e => hv e.symm)).trans ((Below.heap_alloc _ _ _ h.lt).trans h)
noncomputable def domA (rs : List LSt) (ps : List LPr) (id top : Int) : List Int := if B (TabR rs ps) = true then rs.flatMap (domF id top) else []

set_option maxRecDepth 100000 in
set_option maxHeartbeats 1000000 in
/-- impl.domainIn, of a right table. -/
theorem din_any (sl : Option Addr) (cap : Nat) (sl2 : Option Addr) (cap2 : Nat) (rs : List LSt) (ps : List LPr) (id top : Int) (w : World) (hz : Sts w sl rs) (TR0 : TabR rs ps) :
    Calls Try.prog 37 #[TV sl rs.length cap sl2 ps.length cap2, .int .i64 id, .int .i64 top] w fun e w' => ∃ v, e = .returned v ∧ w'.ownsRow w.heap.size 2 1 v (rs.flatMap (domF id top)).length (valsZ (rs.flatMap (domF id top))) ∧ Below w.heap.size w w' := by
  obtain ⟨i0, hi0, hz0, hz1, hz2⟩ := info_parts info2'
  have HT := Lib.hid (TabAt.new w sl rs.length cap sl2 ps.length cap2)
  have B0 := Lib.hid (bA0 w (.cells #[.slice sl rs.length cap, .slice sl2 ps.length cap2] 26))
  have HZ := Lib.hid hz
  have TR := Lib.hid TR0
  clear hz TR0
  generalize hA : rs.flatMap (domF id top) = ans
  have HA := Lib.hid hA
  clear hA
  generalize hN : rs.length = n at *
  have HN := Lib.hid hN
  clear hN
  generalize ps.length = m at *
  obtain ⟨t0, t1⟩ := HT.out.cells
  have tl := HT.out.lt
  go_enter Try.func37, Try.ntmps37
  have hn12 : n ≤ 12 := by have := TR.out.1.2.1; rw [HN.out] at this; exact this
  go_wp2
  obtain ⟨w1, ew1⟩ : ∃ w1, w1 = w.alloc (.cells #[.slice sl n cap, .slice sl2 m cap2] 26) := ⟨_, rfl⟩
  rw [← ew1] at HT B0 t0 t1 tl ⊢
  have D1 := B0
  clear ew1
  go_loopw [7, 15] (fun v i wr => ∃ (k : Nat) (cur : List Int), i = .int .i64 k ∧ k ≤ n ∧ cur.length ≤ 8 * k ∧ Hid (cur = (rs.take k).flatMap (domF id top)) ∧ Hid (wr.ownsRow w1.heap.size 2 1 v cur.length (valsZ cur)) ∧ Hid (Below w1.heap.size w1 wr)) (fun _ i _ => n - (intOf i).toNat)
  case atStart => exact ⟨0, [], rfl, Nat.zero_le _, Nat.zero_le _, rfl, ⟨rfl, .inl ⟨rfl, rfl⟩⟩, Below.refl _ _⟩
  case round =>
    obtain ⟨k, cur, rfl, hk, hcl, HC, H1, H2⟩ := hrel
    have hk0 : (0 : Int) ≤ (k : Int) := by omega
    have DW := Lib.hid (D1.out.trans (H2.out.mono D1.out.size))
    by_cases h1 : k < n
    · have h1' : (k : Int) < (n : Int) := by omega
      have hlt : k < rs.length := by rw [HN.out]; exact h1
      obtain ⟨c, o, rfl, Z0⟩ : ∃ c o, sl = some ⟨c, o, none⟩ ∧ StAt w c o rs := by
        rcases HZ.out.row with e | h
        · rw [e] at hlt; simp at hlt
        · exact h
      have hc0 := (DW.out.cell Z0.lt).trans (Z0.cell k hlt).1
      have hc1 := (DW.out.cell Z0.lt).trans (Z0.cell k hlt).2.1
      have hc2 := (DW.out.cell Z0.lt).trans (Z0.cell k hlt).2.2
      obtain ⟨sld, capd, ed, hi, -⟩ := HZ.out.dom rs[k] (List.getElem_mem hlt)
      have hd8 := (TR.out.2.1 rs[k] (List.getElem_mem hlt)).2.1.2
      have FS := Lib.hid (flat_step (domF id top) rs k hlt)
      obtain ⟨x, y, dv, zs, hp⟩ : ∃ x y dv zs, rs[k] = (x, y, dv, zs) := ⟨_, _, _, _, rfl⟩
      rw [hp] at hc0 hc1 hc2 ed hi hd8 FS
      dsimp only at hc0 hc1 hc2 ed hi hd8
      subst ed
      have FS2 := Lib.hid (show (rs.take (k + 1)).flatMap (domF id top) = cur ++ FF x id top zs by rw [HC.out]; exact FS.out)
      have HI := Lib.hid hi
      generalize hQ : zs.length = q at *
      have HQ := Lib.hid hQ
      clear hi Z0 hlt hp FS hQ HC
      have S5 := Lib.hid (show SAt (wr.alloc (.cells #[.int .i64 x, .int .i64 y, .slice sld q capd] 67)) wr.heap.size x y (.slice sld q capd) from new_at _ _)
      have O5 := Lib.hid (H1.out.alloc (.cells #[.int .i64 x, .int .i64 y, .slice sld q capd] 67))
      have G5 := Lib.hid (bA H2.out (.cells #[.int .i64 x, .int .i64 y, .slice sld q capd] 67))
      have hsw := H2.out.size
      clear H1 H2
      go_wp2
      obtain ⟨w5, e5⟩ : ∃ w5, w5 = wr.alloc (.cells #[.int .i64 x, .int .i64 y, .slice sld q capd] 67) := ⟨_, rfl⟩
      rw [← e5] at S5 O5 G5 ⊢
      obtain ⟨bs, eb⟩ : ∃ bs, bs = wr.heap.size := ⟨_, rfl⟩
      rw [← eb] at S5 ⊢
      clear e5 eb hc0 hc1 hc2
      go_loopw [7, 22] (fun v i wr => ∃ (j : Nat) (cu : List Int), i = .int .i64 j ∧ j ≤ q ∧ cu.length ≤ 8 * k + j ∧ Hid (cu = cur ++ FF x id top (zs.take j)) ∧ Hid (wr.ownsRow w1.heap.size 2 1 v cu.length (valsZ cu)) ∧ Hid (SAt wr bs x y (.slice sld q capd)) ∧ Hid (Below w1.heap.size w1 wr)) (fun _ i _ => q - (intOf i).toNat)
      case atStart => exact ⟨0, cur, rfl, Nat.zero_le _, hcl, (by show cur = cur ++ FF x id top (zs.take 0); rw [List.take_zero, FF_nil, List.append_nil]), O5, S5, G5⟩
      case round =>
        obtain ⟨j, cu, rfl, hj, hcu, HC, H1, HS, H2⟩ := hrel
        have hj0 : (0 : Int) ≤ (j : Int) := by omega
        have DV := Lib.hid (D1.out.trans (H2.out.mono D1.out.size))
        have sl5 := HS.out.lt
        have hs5 := H2.out.size
        obtain ⟨s0, s2⟩ := HS.out.cells
        by_cases g1 : j < q
        · have g1' : (j : Int) < (q : Int) := by omega
          have hlt : j < zs.length := by rw [HQ.out]; exact g1
          obtain ⟨cd, od, rfl, ZI⟩ : ∃ c o, sld = some ⟨c, o, none⟩ ∧ IntsAt w c o zs := by
            rcases HI.out with e | h
            · rw [e] at hlt; simp at hlt
            · exact h
          have hc := (DV.out.cell (p := ⟨cd, od + j, none⟩) ZI.1).trans (ZI.2 j hlt)
          by_cases a1 : x = id
          · have a1' : (x == id) = true := by simp [a1]
            by_cases a2 : zs.getD j 0 ≤ top
            · have HN2 := Lib.hid (show cu ++ [zs.getD j 0] = cur ++ FF x id top (zs.take (j + 1)) by rw [FF_yes x id top zs j hlt a1 a2, ← List.append_assoc, ← HC.out])
              have EV := Lib.hid (show valsZ cu ++ [.int .i64 (zs.getD j 0)] = valsZ (cu ++ [zs.getD j 0]) by simp [valsZ])
              have NE := Lib.hid (own_apart H1.out HS.out (by decide))
              generalize zs.getD j 0 = z at *
              clear hlt ZI HC a1
              go_wp2_with (first | (at_builtin; refine wpList_append_lies _ rfl (.tmp 35) (.tmp 37) 27 rfl w1.heap.size 2 i0 (.int .i64 0) 1 8 Try.underlying27 hi0 hz0 hz1 hz2 rfl (by decide) _ _ _ rfl (H1.out.alloc _) ⟨wr.heap.size, 0, none⟩ 1 1 [.int .i64 z] rfl rfl (cell_one_new _ _ _) (by intro u hu; simp at hu; subst hu; rfl) (by decide) (by unfold maxLen; omega) (by omega) (by simp; omega) (wr.heap.size + 1) (by simp) ?_))
              intro g9 cap9 w9 own9 grow9 hg9 hlt9
              have B9 := Lib.hid ((bA H2.out (.cells #[.int .i64 z] 2)).grown grow9 (by simp; omega) (fun j hj => (H1.out.lt j hj).1))
              have S9 := Lib.hid (HS.out.grow grow9 NE.out)
              rw [EV.out] at own9
              have N9 : Hid (w9.ownsRow w1.heap.size 2 1 (.slice (some ⟨g9, 0, none⟩) (cu.length + 1) cap9) (cu ++ [z]).length (valsZ (cu ++ [z]))) := by
                rw [List.length_append]; exact own9
              have LL := Lib.hid (show (cu ++ [z]).length ≤ 8 * k + (j + 1) by rw [List.length_append]; simp; omega)
              clear own9 grow9 hg9 hlt9 H1 HS H2 EV NE
              go_wp2
              go_roundw
              case rel => exact ⟨j + 1, cu ++ [z], by go_num, by omega, LL.out, HN2, N9, S9, B9⟩
              case measure => simp [intOf]; omega
            · have HN2 := Lib.hid (show cu = cur ++ FF x id top (zs.take (j + 1)) by rw [FF_no x id top zs j hlt (fun g => a2 g.2)]; exact HC.out)
              generalize zs.getD j 0 = z at *
              clear hlt ZI HC a1
              go_wp2
              go_roundw
              case rel => exact ⟨j + 1, cu, by go_num, by omega, by omega, HN2, H1, HS, H2⟩
              case measure => simp [intOf]; omega
          · have a1' : (x == id) = false := by simp [a1]
            have HN2 := Lib.hid (show cu = cur ++ FF x id top (zs.take (j + 1)) by rw [FF_no x id top zs j hlt (fun g => a1 g.1)]; exact HC.out)
            generalize zs.getD j 0 = z at *
            clear hlt ZI HC a1
            go_wp2
            go_roundw
            case rel => exact ⟨j + 1, cu, by go_num, by omega, by omega, HN2, H1, HS, H2⟩
            case measure => simp [intOf]; omega
        · have g1' : ¬ (j : Int) < (q : Int) := by omega
          have HE := Lib.hid (show cu = (rs.take (k + 1)).flatMap (domF id top) by
            rw [FS2.out, HC.out, List.take_of_length_le (by rw [HQ.out]; omega)])
          clear HC
          go_wp2
          go_roundw
          case rel => exact ⟨k + 1, cu, by go_num, by omega, by omega, HE, H1, H2⟩
          case measure => simp [intOf]; omega
    · have h1' : ¬ (k : Int) < (n : Int) := by omega
      have P := Lib.hid (show cur = ans by rw [HC.out, List.take_of_length_le (by rw [HN.out]; omega), HA.out])
      have OP := Lib.hid (own_mono H1.out D1.out.size)
      rw [P.out] at OP
      clear H1 HC P
      go_wp2
      go_ret
      exact ⟨_, rfl, OP.out, DW.out⟩


end Go.Proofs.Ytgfclllfkpblnaa
