/-
  THE LOOP THAT SEEKS A PLAN: impl.tryChoices.
-/
import Derived.Test.YtgfclllfkpblnaaXa
import Derived.Test.YtgfclllfkpblnaaPh
import Derived.Test.YtgfclllfkpblnaaUc
import Derived.WalkMore
namespace Go.Proofs.Ytgfclllfkpblnaa
open Go.RowKit
set_option linter.unusedVariables false

def SRes.vd : SRes → Int
  | .found _ _ => 1
  | .none _ => 2
  | .out _ => 3
def SRes.pl : SRes → List LPl
  | .found p _ => p
  | .none _ => []
  | .out _ => []
/-- What has been tried, station by station. -/
def natV (tr : List Nat) : Array Value := (tr.map fun (n : Nat) => Value.int .i64 (n : Int)).toArray
def TrAt (w : World) (b : Nat) (tr : List Nat) : Prop := w.heap[b]? = some (.cells (natV tr) 3)
theorem TrAt.lt {w : World} {b : Nat} {tr : List Nat} (h : TrAt w b tr) : b < w.heap.size := (Array.getElem?_eq_some_iff.1 h).1
theorem TrAt.cell {w : World} {b : Nat} {tr : List Nat} (h : TrAt w b tr) (i : Nat) (hi : i < tr.length) : w.cell? ⟨b, i, none⟩ = some (.int .i64 ((tr.getD i 0 : Nat) : Int)) := by
  unfold TrAt at h; simp [World.cell?, h, natV, hi]
theorem TrAt.frozen {w : World} {b : Nat} {tr : List Nat} (h : TrAt w b tr) (i : Nat) : w.frozen? ⟨b, i, none⟩ = false := by
  unfold TrAt at h; simp [World.frozen?, h]
theorem natV_set (tr : List Nat) (i m : Nat) : (natV tr).setIfInBounds i (.int .i64 (m : Int)) = natV (tr.set i m) := by
  unfold natV
  rw [List.setIfInBounds_toArray, ← List.map_set (f := fun (n : Nat) => Value.int .i64 (n : Int))]
theorem TrAt.set {w : World} {b : Nat} {tr : List Nat} (h : TrAt w b tr) (i m : Nat) : TrAt (w.setCell ⟨b, i, none⟩ (.int .i64 (m : Int))) b (tr.set i m) := by
  have := heap_setCell_same w b i (natV tr) 3 (.int .i64 (m : Int)) h
  rwa [natV_set] at this
theorem TrAt.of {w w' : World} {b : Nat} {tr : List Nat} (h : TrAt w b tr) (e : w'.heap[b]? = w.heap[b]?) : TrAt w' b tr := e.trans h
theorem set_same (tr : List Nat) (i m : Nat) (h : i < tr.length) : (tr.set i m).getD i 0 = m := by simp [h]
theorem set_other (tr : List Nat) (i m j : Nat) (h : i ≠ j) : (tr.set i m).getD j 0 = tr.getD j 0 := by simp [h]
theorem rep_zero (n j : Nat) : (List.replicate n 0).getD j 0 = 0 := by
  rw [List.getD_eq_getElem?_getD, List.getElem?_replicate]
  split <;> rfl
theorem info3 : (Try.prog.info? 3).map (fun i => (i.zero, i.size, i.bytes)) = some (some (.int .i64 0), 1, 8) := by kernel_rfl
theorem makeI (n : Nat) (h : n ≤ 1048576) (w : World) :
    Sem.run Try.prog (Instr.makeSlice 79 (.int .i64 (n : Int)) (.int .i64 (n : Int))) w = .ok (.slice (some ⟨w.heap.size, 0, none⟩) n n) (w.alloc (.cells (natV (List.replicate n 0)) 3)) := by
  obtain ⟨i, h1, h2, h3, h4⟩ := info_parts info3
  have := run_make (P := Try.prog) w 79 3 i _ Try.underlying79 h1 h2 .i64 .i64 (n : Int) (n : Int) (by omega) (Int.le_refl _) (by rw [h4]; omega) (by omega)
  rw [this, h3]
  have e : madeCells #[Value.int .i64 0] n = natV (List.replicate n 0) := by
    apply Array.toList_inj.1
    rw [toList_madeCells_one]
    simp [natV]
  rw [← e]
  simp [Value.cells]
/-- The answer's own block, as it is laid. -/
def BoxP (w : World) (b : Nat) : Prop := w.heap[b]? = some (.cells #[.int .i64 0, .slice none 0 0, .int .i64 0, .int .i64 0] 32)
theorem BoxP.facts {w : World} {b : Nat} (h : BoxP w b) : b < w.heap.size ∧ w.cell? ⟨b, 0, none⟩ = some (.int .i64 0) ∧ w.cell? ⟨b, 1, none⟩ = some (.slice none 0 0) ∧ w.cell? ⟨b, 2, none⟩ = some (.int .i64 0) ∧ w.cell? ⟨b, 3, none⟩ = some (.int .i64 0) ∧ w.frozen? ⟨b, 0, none⟩ = false ∧ w.frozen? ⟨b, 1, none⟩ = false ∧ w.frozen? ⟨b, 2, none⟩ = false ∧ w.frozen? ⟨b, 3, none⟩ = false := by
  unfold BoxP at h
  exact ⟨(Array.getElem?_eq_some_iff.1 h).1, by simp [World.cell?, h], by simp [World.cell?, h], by simp [World.cell?, h], by simp [World.cell?, h], by simp [World.frozen?, h], by simp [World.frozen?, h], by simp [World.frozen?, h], by simp [World.frozen?, h]⟩
def set4 (w : World) (b : Nat) (v0 v1 v2 v3 : Value) : World := (((w.setCell ⟨b, 0, none⟩ v0).setCell ⟨b, 1, none⟩ v1).setCell ⟨b, 2, none⟩ v2).setCell ⟨b, 3, none⟩ v3
theorem set4_below {W w : World} {n b : Nat} (h : Below n W w) (hb : n ≤ b) (v0 v1 v2 v3 : Value) : Below n W (set4 w b v0 v1 v2 v3) :=
  (((h.setCell (p := ⟨b, 0, none⟩) hb v0).setCell (p := ⟨b, 1, none⟩) hb v1).setCell (p := ⟨b, 2, none⟩) hb v2).setCell (p := ⟨b, 3, none⟩) hb v3
theorem own_set4 {w : World} {B : Nat} {e : TypeId} {m : Nat} {v : Value} {n : Nat} {xs : List Value} (h : w.ownsRow B e m v n xs) {b : Nat} (hb : v.ownBlock ≠ some b) (v0 v1 v2 v3 : Value) : (set4 w b v0 v1 v2 v3).ownsRow B e m v n xs :=
  own_set (own_set (own_set (own_set h hb 0 v0) hb 1 v1) hb 2 v2) hb 3 v3
/-- A row cut behind its first k. -/
theorem own_cut {w : World} {B : Nat} {sl : Option Addr} {cap : Nat} {pl : List LPl} (k : Nat) (h : w.ownsRow B 62 2 (.slice sl pl.length cap) pl.length (enCells pl)) (hk : k < pl.length) : w.ownsRow B 62 2 (.slice sl k cap) k (enCells (pl.take k)) := by
  have e : enCells (pl.take k) = (enCells pl).take (k * 2) := by
    have e2 := enCells_app (pl.take k) (pl.drop k)
    rw [List.take_append_drop] at e2
    have hl : (enCells (pl.take k)).length = k * 2 := by rw [enCells_len, List.length_take, Nat.min_eq_left (by omega)]
    rw [e2, ← hl, List.take_left]
  refine ⟨by rw [enCells_len, List.length_take, Nat.min_eq_left (by omega)], ?_⟩
  rcases h.2 with ⟨hv, h0⟩ | ⟨g, cp, cur, hv, hb, hg, h1, h2, h3, h4⟩
  · omega
  · cases hv
    refine .inr ⟨g, cap, cur, rfl, hb, hg, by omega, h2, h3, ?_⟩
    rw [e, ← h4, List.take_take, Nat.min_eq_left (by omega)]
/-- What the row of station j is. -/
def RowsOf (w : World) (b n : Nat) (C : List (List LPl)) : Prop := ∀ j, j < n → ∃ rsl rcap cs, C.getD j [] = cs ∧ b < w.heap.size ∧ w.cell? ⟨b, j, none⟩ = some (.slice rsl cs.length rcap) ∧ Pls w rsl cs ∧ cs.length ≤ 96 ∧ ∀ x ∈ cs, Small x
theorem rows_of {w : World} {b : Nat} {rows : List LRow} (hr : Rws w (some ⟨b, 0, none⟩) rows) (hs : ∀ r ∈ rows, r.2.length ≤ 96 ∧ ∀ x ∈ r.2, Small x) : RowsOf w b rows.length (rows.map fun r => r.2) := by
  intro j hj
  obtain ⟨rsl, rcap, re, rp⟩ := hr.each rows[j] (List.getElem_mem hj)
  obtain ⟨h1, h2⟩ := hs rows[j] (List.getElem_mem hj)
  rcases hr.row with h | ⟨c, e, hc, hh⟩
  · rw [h] at hj; simp at hj
  · cases e
    exact ⟨rsl, rcap, rows[j].2, by simp [hj], hc, by rw [hh j hj, re], rp, h1, h2⟩
def lenV : Value → Nat
  | .slice _ n _ => n
  | _ => 0

set_option maxRecDepth 100000 in
set_option maxHeartbeats 4000000 in
/-- impl.tryChoices. -/
theorem tc_any (b : Nat) (rows : List LRow) (kb : Nat) (ps : List LPr) (bud : Nat) (w : World) (hn : rows.length ≤ 400) (hbu : bud ≤ 2000) (hr : Rws w (some ⟨b, 0, none⟩) rows) (hf : FitsAt w kb ps) (hw : ∀ p ∈ ps, WfP p) (hs : ∀ r ∈ rows, r.2.length ≤ 96 ∧ ∀ x ∈ r.2, Small x) :
    Calls Try.prog 23 #[.slice (some ⟨b, 0, none⟩) rows.length rows.length, FV kb, .int .i64 (bud : Nat)] w fun e w' => ∃ pv, e = .returned (.agg #[.int .i64 (seek (fitB ps) bud (rows.map (fun r => r.2)) [] 0).vd, pv, .int .i64 ((seek (fitB ps) bud (rows.map (fun r => r.2)) [] 0).st : Nat), .int .i64 0]) ∧ w'.ownsRow w.heap.size 62 2 pv (seek (fitB ps) bud (rows.map (fun r => r.2)) [] 0).pl.length (enCells (seek (fitB ps) bud (rows.map (fun r => r.2)) [] 0).pl) ∧ Below w.heap.size w w' := by
  obtain ⟨i3, hi3, hd0, hd1, hd2⟩ := info_parts info34
  generalize hR : seek (fitB ps) bud (rows.map (fun r => r.2)) [] 0 = R
  have HR := Lib.hid (rows_of hr hs)
  have CL := Lib.hid (show (rows.map (fun r => r.2)).length = rows.length from List.length_map _)
  generalize hC : rows.map (fun r => r.2) = C at *
  have hmk := makeI rows.length (by omega)
  have HF := Lib.hid hf
  have F0 : Hid (finR (fitB ps) bud C (List.replicate rows.length 0) [] 0 = R) := by
    show finR _ _ _ _ _ _ = R
    rw [fin_start _ _ _ _ (rep_zero _ _), hR]
  have HW := Lib.hid hw
  clear hr hf hs hw hR hC
  generalize rows.length = n at *
  clear rows
  have B0 := Lib.hid (bA (bA0 w (.cells #[.int .i64 0, .slice none 0 0, .int .i64 0, .int .i64 0] 32)) (.cells (natV (List.replicate n 0)) 3))
  have X0 : Hid (BoxP ((w.alloc (.cells #[.int .i64 0, .slice none 0 0, .int .i64 0, .int .i64 0] 32)).alloc (.cells (natV (List.replicate n 0)) 3)) w.heap.size) := ((bA0 (w.alloc (.cells #[.int .i64 0, .slice none 0 0, .int .i64 0, .int .i64 0] 32)) (.cells (natV (List.replicate n 0)) 3)).block w.heap.size (by simp)).trans (new_at _ _)
  have T0 : Hid (TrAt ((w.alloc (.cells #[.int .i64 0, .slice none 0 0, .int .i64 0, .int .i64 0] 32)).alloc (.cells (natV (List.replicate n 0)) 3)) (w.heap.size + 1) (List.replicate n 0)) := by
    have := new_at (w.alloc (.cells #[.int .i64 0, .slice none 0 0, .int .i64 0, .int .i64 0] 32)) (.cells (natV (List.replicate n 0)) 3)
    rwa [show (w.alloc (.cells #[.int .i64 0, .slice none 0 0, .int .i64 0, .int .i64 0] 32)).heap.size = w.heap.size + 1 by simp] at this
  go_enter Try.func23, Try.ntmps23
  go_wp2
  go_step3
  go_wp2
  go_step3
  go_wp2
  generalize (w.alloc (.cells #[.int .i64 0, .slice none 0 0, .int .i64 0, .int .i64 0] 32)).alloc (.cells (natV (List.replicate n 0)) 3) = w0 at *
  go_loopw [7, 9] (fun v i wr => ∃ (pl : List LPl) (s : Nat) (tr : List Nat), i = .int .i64 s ∧ s ≤ bud ∧ pl.length ≤ n ∧ Hid (tr.length = n) ∧ Hid (finR (fitB ps) bud C tr pl s = R) ∧ Hid (∀ j, pl.length < j → tr.getD j 0 = 0) ∧ Hid (∀ x ∈ pl, Small x) ∧ Hid (BoxP wr w.heap.size) ∧ Hid (TrAt wr (w.heap.size + 1) tr) ∧ Hid (wr.ownsRow (w.heap.size + 2) 62 2 v pl.length (enCells pl)) ∧ Hid (Below w.heap.size w wr)) (fun v i _ => (bud - (intOf i).toNat) * (n + 2) + lenV v)
  case atStart => exact ⟨[], 0, List.replicate n 0, rfl, Nat.zero_le _, Nat.zero_le _, List.length_replicate, F0, (fun j _ => rep_zero n j), (fun x hx => by cases hx), X0, T0, ⟨rfl, .inl ⟨rfl, rfl⟩⟩, B0⟩
  case round =>
    obtain ⟨pl, s, tr, rfl, hsb, hpl, HTL, HFI, HZE, HSM, XB, TB, OR, HB⟩ := hrel
    obtain ⟨vsl, vcap, rfl⟩ := own_v OR.out
    generalize hM : pl.length = m at *
    have HM := Lib.hid hM
    clear hM
    by_cases g1 : m < n
    · have g1' : (m : Int) < (n : Int) := by omega
      obtain ⟨rsl, rcap, cs, cm, rc1, rc2, rp, r96, rsm⟩ := HR.out m g1
      have RC := Lib.hid (And.intro rc1 rc2)
      have CM := Lib.hid cm
      have RP := Lib.hid rp
      have RS := Lib.hid rsm
      clear cm rc1 rc2 rp rsm
      generalize hRL : cs.length = rl at *
      have HRL := Lib.hid hRL
      clear hRL
      go_wp2_with fail
      go_loopw [7, 9] (fun v i wq => ∃ (s' : Nat) (tr' : List Nat), v = .slice vsl m vcap ∧ i = .int .i64 s' ∧ s ≤ s' ∧ s' ≤ bud ∧ Hid (tr'.length = n) ∧ Hid (finR (fitB ps) bud C tr' pl s' = R) ∧ Hid (∀ j, m < j → tr'.getD j 0 = 0) ∧ Hid (BoxP wq w.heap.size) ∧ Hid (TrAt wq (w.heap.size + 1) tr') ∧ Hid (wq.ownsRow (w.heap.size + 2) 62 2 (.slice vsl m vcap) m (enCells pl)) ∧ Hid (Below w.heap.size w wq)) (fun _ i _ => bud - (intOf i).toNat)
      case atStart => exact ⟨s, tr, rfl, rfl, Nat.le_refl _, hsb, HTL, HFI, HZE, XB, TB, OR, HB⟩
      case round =>
        clear XB TB OR HB HFI HZE HTL
        obtain ⟨s', tr', rfl, rfl, hss, hsb', HTL, HFI, HZE, XB, TB, OR, HB⟩ := hrel
        generalize hT : tr'.getD m 0 = t
        have HT := Lib.hid hT
        clear hT
        have tc : wr.cell? ⟨w.heap.size + 1, m, none⟩ = some (.int .i64 (t : Nat)) := by
          have := TB.out.cell m (by rw [HTL.out]; exact g1)
          rwa [HT.out] at this
        have hrc : wr.cell? ⟨b, m, none⟩ = some (.slice rsl rl rcap) := (HB.out.cell RC.out.1).trans RC.out.2
        have K6 : Hid (w.heap.size + 1 < wr.heap.size ∧ b < wr.heap.size ∧ wr.cell? ⟨w.heap.size + 1, m, none⟩ = some (.int .i64 (t : Nat)) ∧ wr.cell? ⟨b, m, none⟩ = some (.slice rsl rl rcap)) := ⟨TB.out.lt, Nat.lt_of_lt_of_le RC.out.1 HB.out.size, tc, hrc⟩
        have htl := TB.out.lt
        have hbl : b < wr.heap.size := Nat.lt_of_lt_of_le RC.out.1 HB.out.size
        have ht0 : (0 : Int) ≤ (t : Int) := by omega
        have hm0 : (0 : Int) ≤ (m : Int) := by omega
        have HS2 := HB.out.size
        by_cases g2 : t < rl
        · have g2' : (t : Int) < (rl : Int) := by omega
          by_cases g3 : s' = bud
          · have RO : Hid (R = .out bud) := by
              show R = _
              rw [← HFI.out, g3]
              exact fin_out _ _ _ _ _ (by rw [HM.out, CL.out]; exact g1) (by rw [HM.out, HT.out, CM.out, HRL.out]; exact g2)
            have g3' : (s' : Int) = (bud : Int) := by omega
            obtain ⟨xl, r0, r1, r2, r3, f0, f1, f2, f3⟩ := BoxP.facts XB.out
            have P : Hid (Below w.heap.size w (set4 wr.drew w.heap.size (.int .i64 3) (.slice none 0 0) (.int .i64 (bud : Nat)) (.int .i64 0))) := set4_below HB.out.drew (Nat.le_refl _) _ _ _ _
            unfold set4 at P
            subst g3
            clear XB TB OR HFI HZE HTL HT CM RP RS RC
            go_wp2_with fail
            refine wp_region_held_drew (S := fun W => w.heap.size + 1 < W.heap.size ∧ b < W.heap.size ∧ W.cell? ⟨w.heap.size + 1, m, none⟩ = some (.int .i64 (t : Nat)) ∧ W.cell? ⟨b, m, none⟩ = some (.slice rsl rl rcap)) (by kernel_rfl) ?_ (fun hHeld => ?_)
            · exact K6.out
            refine wpAnyH_take (i := 0) (oi := _) (v := ?_) rfl (by kernel_rfl) (by kernel_rfl) (by kernel_rfl) (fun _ _ _ h => h) (Or.inl ⟨by rfl, ?_⟩) (by assumption) ?_
            rotate_left
            · first | (intro w hSw; (try dsimp only at hSw); go_simp; done) | (intro w hSw; (try dsimp only at hSw); go_simp; with_reducible rfl)
            try simp only [Act.put, List.setIfInBounds_toArray, List.set_cons_zero, List.set_cons_succ, List.getElem_toArray, List.getElem_cons_zero]
            refine wpAnyH_take (i := 1) (oi := _) (v := ?_) rfl (by kernel_rfl) (by kernel_rfl) (by kernel_rfl) (fun _ _ _ h => h) (Or.inl ⟨by rfl, ?_⟩) (by assumption) ?_
            rotate_left
            · first | (intro w hSw; (try dsimp only at hSw); go_simp; done) | (intro w hSw; (try dsimp only at hSw); go_simp; with_reducible rfl)
            try simp only [Act.put, List.setIfInBounds_toArray, List.set_cons_zero, List.set_cons_succ, List.getElem_toArray, List.getElem_cons_succ, List.getElem_cons_zero]
            refine wpAnyH_take (i := 2) (oi := _) (v := ?_) rfl (by kernel_rfl) (by kernel_rfl) (by kernel_rfl) (fun _ _ _ h => h) (Or.inl ⟨by rfl, ?_⟩) (by assumption) ?_
            rotate_left
            · first | (intro w hSw; (try dsimp only at hSw); go_simp; done) | (intro w hSw; (try dsimp only at hSw); go_simp; with_reducible rfl)
            try simp only [Act.put, List.setIfInBounds_toArray, List.set_cons_zero, List.set_cons_succ, List.getElem_toArray, List.getElem_cons_succ, List.getElem_cons_zero]
            refine wpAnyH_take (i := 3) (oi := _) (v := ?_) rfl (by kernel_rfl) (by kernel_rfl) (by kernel_rfl) (fun _ _ _ h => h) (Or.inl ⟨by rfl, ?_⟩) (by assumption) ?_
            rotate_left
            · first | (intro w hSw; (try dsimp only at hSw); go_simp; done) | (intro w hSw; (try dsimp only at hSw); go_simp; with_reducible rfl)
            try simp only [Act.put, List.setIfInBounds_toArray, List.set_cons_zero, List.set_cons_succ, List.getElem_toArray, List.getElem_cons_succ, List.getElem_cons_zero]
            refine wpAnyH_take (i := 4) (oi := _) (v := ?_) rfl (by kernel_rfl) (by kernel_rfl) (by kernel_rfl) (fun _ _ _ h => h) (Or.inl ⟨by rfl, ?_⟩) (by assumption) ?_
            rotate_left
            · first | (intro w hSw; (try dsimp only at hSw); go_simp; done) | (intro w hSw; (try dsimp only at hSw); go_simp; with_reducible rfl)
            try simp only [Act.put, List.setIfInBounds_toArray, List.set_cons_zero, List.set_cons_succ, List.getElem_toArray, List.getElem_cons_succ, List.getElem_cons_zero]
            refine wpAnyH_take (i := 5) (oi := _) (v := ?_) rfl (by kernel_rfl) (by kernel_rfl) (by kernel_rfl) (fun _ _ _ h => h) (Or.inl ⟨by rfl, ?_⟩) (by assumption) ?_
            rotate_left
            · first | (intro w hSw; (try dsimp only at hSw); go_simp; done) | (intro w hSw; (try dsimp only at hSw); go_simp; with_reducible rfl)
            try simp only [Act.put, List.setIfInBounds_toArray, List.set_cons_zero, List.set_cons_succ, List.getElem_toArray, List.getElem_cons_succ, List.getElem_cons_zero]
            refine wpAnyH_take (i := 6) (oi := _) (v := ?_) rfl (by kernel_rfl) (by kernel_rfl) (by kernel_rfl) (fun _ _ _ h => h) (Or.inl ⟨by rfl, ?_⟩) (by assumption) ?_
            rotate_left
            · first | (intro w hSw; (try dsimp only at hSw); go_simp; done) | (intro w hSw; (try dsimp only at hSw); go_simp; with_reducible rfl)
            try simp only [Act.put, List.setIfInBounds_toArray, List.set_cons_zero, List.set_cons_succ, List.getElem_toArray, List.getElem_cons_succ, List.getElem_cons_zero]
            refine wpAnyH_take (i := 7) (oi := _) (v := ?_) rfl (by kernel_rfl) (by kernel_rfl) (by kernel_rfl) (fun _ _ _ h => h) (Or.inl ⟨by rfl, ?_⟩) (by assumption) ?_
            rotate_left
            · first | (intro w hSw; (try dsimp only at hSw); go_simp; done) | (intro w hSw; (try dsimp only at hSw); go_simp; with_reducible rfl)
            try simp only [Act.put, List.setIfInBounds_toArray, List.set_cons_zero, List.set_cons_succ, List.getElem_toArray, List.getElem_cons_succ, List.getElem_cons_zero]
            refine wpAnyH_take (i := 8) (oi := _) (v := ?_) rfl (by kernel_rfl) (by kernel_rfl) (by kernel_rfl) (fun _ _ _ h => h) (Or.inl ⟨by rfl, ?_⟩) (by assumption) ?_
            rotate_left
            · first | (intro w hSw; (try dsimp only at hSw); go_simp; done) | (intro w hSw; (try dsimp only at hSw); go_simp; with_reducible rfl)
            try simp only [Act.put, List.setIfInBounds_toArray, List.set_cons_zero, List.set_cons_succ, List.getElem_toArray, List.getElem_cons_succ, List.getElem_cons_zero]
            refine wpAnyH_take (i := 9) (oi := _) (v := ?_) rfl (by kernel_rfl) (by kernel_rfl) (by kernel_rfl) (fun _ _ _ h => h) (Or.inl ⟨by rfl, ?_⟩) (by assumption) ?_
            rotate_left
            · first | (intro w hSw; (try dsimp only at hSw); go_simp; done) | (intro w hSw; (try dsimp only at hSw); go_simp; with_reducible rfl)
            try simp only [Act.put, List.setIfInBounds_toArray, List.set_cons_zero, List.set_cons_succ, List.getElem_toArray, List.getElem_cons_succ, List.getElem_cons_zero]
            refine wpAnyH_done (by kernel_rfl) ?_ _
            clear K6
            go_wp2
            rw [Exit.noGoto_ret]
            refine bodyPost_ret (v := .agg #[.int .i64 3, .slice none 0 0, .int .i64 (s' : Nat), .int .i64 0]) (by simp [results, Try.results23, go_sem, r0, r1, r2, r3]) rfl ⟨.slice none 0 0, by rw [RO.out]; rfl, by rw [RO.out]; exact ⟨rfl, .inl ⟨rfl, rfl⟩⟩, P.out⟩
          · have g3' : ¬ (s' : Int) = (bud : Int) := by omega
            have hlt : t < cs.length := by rw [HRL.out]; exact g2
            obtain ⟨c, o, rfl, PA⟩ : ∃ c o, rsl = some ⟨c, o, none⟩ ∧ PlAt w c o cs := by
              rcases RP.out with e | h
              · rw [e] at hlt; simp at hlt
              · exact h
            obtain ⟨c0, c1⟩ := PA.cell t hlt
            have SX := RS.out cs[t] (List.getElem_mem hlt)
            obtain ⟨x, y, hp⟩ : ∃ x y, cs[t] = (x, y) := ⟨_, _, rfl⟩
            rw [hp] at c0 c1 SX
            dsimp only at c0 c1
            have SXY := Lib.hid SX
            have hcl := PA.lt
            have KS : Hid (∀ W, Below wr.heap.size wr W → w.heap.size + 1 < W.heap.size ∧ b < W.heap.size ∧ W.cell? ⟨w.heap.size + 1, m, none⟩ = some (.int .i64 (t : Nat)) ∧ W.cell? ⟨b, m, none⟩ = some (.slice (some ⟨c, o, none⟩) rl rcap) ∧ c < W.heap.size ∧ W.cell? ⟨c, o + t * 2, none⟩ = some (.int .i64 x) ∧ W.cell? ⟨c, o + t * 2 + 1, none⟩ = some (.int .i64 y)) := fun W hW => ⟨Nat.lt_of_lt_of_le htl hW.size, Nat.lt_of_lt_of_le hbl hW.size, (hW.cell htl).trans tc, (hW.cell hbl).trans hrc, Nat.lt_of_lt_of_le (Nat.lt_of_lt_of_le hcl HS2) hW.size, (hW.cell (Nat.lt_of_lt_of_le hcl HS2)).trans ((HB.out.cell hcl).trans c0), (hW.cell (Nat.lt_of_lt_of_le hcl HS2)).trans ((HB.out.cell hcl).trans c1)⟩
            have TS1 : Hid (∀ f, fitB ps pl (x, y) = f → (f = true → finR (fitB ps) bud C (tr'.set m (t + 1)) (pl ++ [(x, y)]) (s' + 1) = R) ∧ (f = false → finR (fitB ps) bud C (tr'.set m (t + 1)) pl (s' + 1) = R)) := fun f hf => by
              have q1 : pl.length < C.length := by rw [HM.out, CL.out]; exact g1
              have q2 : tr'.getD pl.length 0 < (C.getD pl.length []).length := by rw [HM.out, HT.out, CM.out]; exact hlt
              have q3 : (C.getD pl.length [])[tr'.getD pl.length 0] = (x, y) := by
                rw [← hp]
                simp only [HM.out, HT.out, CM.out]
              have q4 : ∀ j, j < pl.length → tr'.getD j 0 = (tr'.set m (t + 1)).getD j 0 := fun j hj => (set_other _ _ _ _ (by rw [HM.out] at hj; omega)).symm
              have q5 : (tr'.set m (t + 1)).getD pl.length 0 = tr'.getD pl.length 0 + 1 := by rw [HM.out, HT.out]; exact set_same _ _ _ (by rw [HTL.out]; exact g1)
              refine ⟨fun e => ?_, fun e => ?_⟩
              · subst e
                rw [← HFI.out, fin_put (fitB ps) bud C tr' (tr'.set m (t + 1)) pl s' q1 g3 q2 (by rw [q3]; exact hf) q4 q5 (by rw [HM.out, set_other _ _ _ _ (by omega)]; exact HZE.out _ (by omega)), q3]
              · subst e
                rw [← HFI.out, fin_no (fitB ps) bud C tr' (tr'.set m (t + 1)) pl s' q1 g3 q2 (by rw [q3]; exact hf) q4 q5]
            clear hp hlt PA c0 c1 SX HFI RP RS
            have K9 := Lib.hid (KS.out wr (Below.refl _ _))
            have TW : ((t + 1 : Nat) : Int) = (t : Int) + 1 := by omega
            have TV0 : TrAt (wr.setCell ⟨w.heap.size + 1, m, none⟩ (.int .i64 ((t : Int) + 1))) (w.heap.size + 1) (tr'.set m (t + 1)) := by
              have h := TB.out.set m (t + 1)
              rwa [TW] at h
            have XV0 : BoxP (wr.setCell ⟨w.heap.size + 1, m, none⟩ (.int .i64 ((t : Int) + 1))) w.heap.size := (Below.heap_setCell _ _ _ _ (by simp)).trans XB.out
            have OV0 := own_set OR.out (b := w.heap.size + 1) (fun e => by have := (OR.out.lt _ e).1; omega) m (.int .i64 ((t : Int) + 1))
            have BV0 : Below w.heap.size w (wr.setCell ⟨w.heap.size + 1, m, none⟩ (.int .i64 ((t : Int) + 1))) := HB.out.setCell (p := ⟨w.heap.size + 1, m, none⟩) (by show w.heap.size ≤ w.heap.size + 1; omega) _
            have VS0 : (wr.setCell ⟨w.heap.size + 1, m, none⟩ (.int .i64 ((t : Int) + 1))).heap.size = wr.heap.size := by simp [World.setCell]
            have hf0 := TB.out.frozen m
            have STEP : Hid (∃ W3, W3 = ((wr.setCell ⟨w.heap.size + 1, m, none⟩ (.int .i64 ((t : Int) + 1))).alloc (.cells #[.int .i64 x, .int .i64 y] 62)).drew.drew ∧ TrAt W3 (w.heap.size + 1) (tr'.set m (t + 1)) ∧ BoxP W3 w.heap.size ∧ W3.ownsRow (w.heap.size + 2) 62 2 (.slice vsl m vcap) m (enCells pl) ∧ Below w.heap.size w W3 ∧ TwoAt W3 wr.heap.size x y) := by
              generalize wr.setCell ⟨w.heap.size + 1, m, none⟩ (.int .i64 ((t : Int) + 1)) = V at *
              refine ⟨_, rfl, TV0.of (Below.heap_alloc _ _ _ TV0.lt), (Below.heap_alloc _ _ _ (XV0.facts).1).trans XV0, OV0.alloc _, (bA BV0 _).drew.drew, ?_⟩
              have := TwoAt.new V x y
              rw [VS0] at this
              exact this
            obtain ⟨W3, e3, t3, x3, o3, b3, p3⟩ := STEP.out
            have E : Hid (Calls Try.prog 39 #[.slice vsl m vcap, .agg #[.int .i64 x, .int .i64 y], .pointer (some ⟨kb, 0, none⟩)] W3 fun e w' => e = .returned (.bool (fitB ps pl (x, y))) ∧ Below W3.heap.size W3 w') := by
              have o3' := o3
              rw [← HM.out] at o3'
              obtain ⟨sl', cap', ee, pp⟩ := own_pls o3'
              cases ee
              have := fit_any vsl vcap pl x y kb ps W3 (by rw [HM.out]; omega) (by
                rcases pp with h | ⟨c', e1, h1, _⟩
                · exact .inl h
                · exact .inr ⟨c', 0, e1, h1⟩) HSM.out SXY.out HW.out (HF.out.below b3)
              rwa [HM.out] at this
            have T3 := Lib.hid t3
            have X3 := Lib.hid x3
            have O3 := Lib.hid o3
            have B3 := Lib.hid b3
            have P3 := Lib.hid p3
            have L9 : Hid ((tr'.set m (t + 1)).length = n) := by show _ = n; rw [List.length_set]; exact HTL.out
            have Z9 : Hid (∀ j, m < j → (tr'.set m (t + 1)).getD j 0 = 0) := fun j hj => by
              rw [set_other _ _ _ _ (by omega)]; exact HZE.out j hj
            clear TV0 XV0 OV0 BV0 VS0 STEP t3 x3 o3 b3 p3 TB XB OR HB HTL HZE HT CM RC
            generalize hfb : fitB ps pl (x, y) = fb at *
            have F9 := Lib.hid (TS1.out fb rfl)
            clear TS1
            go_wp2_with fail
            refine wp_region_held_drew (S := fun W => w.heap.size + 1 < W.heap.size ∧ b < W.heap.size ∧ W.cell? ⟨w.heap.size + 1, m, none⟩ = some (.int .i64 (t : Nat)) ∧ W.cell? ⟨b, m, none⟩ = some (.slice (some ⟨c, o, none⟩) rl rcap)) (by kernel_rfl) ?_ (fun hHeld => ?_)
            · exact K6.out
            refine wpAnyH_take (i := 0) (oi := _) (v := ?_) rfl (by kernel_rfl) (by kernel_rfl) (by kernel_rfl) (fun _ _ _ h => h) (Or.inl ⟨by rfl, ?_⟩) (by assumption) ?_
            rotate_left
            · first | (intro w hSw; (try dsimp only at hSw); go_simp; done) | (intro w hSw; (try dsimp only at hSw); go_simp; with_reducible rfl)
            try simp only [Act.put, List.setIfInBounds_toArray, List.set_cons_zero, List.set_cons_succ, List.getElem_toArray, List.getElem_cons_zero]
            refine wpAnyH_take (i := 1) (oi := _) (v := ?_) rfl (by kernel_rfl) (by kernel_rfl) (by kernel_rfl) (fun _ _ _ h => h) (Or.inl ⟨by rfl, ?_⟩) (by assumption) ?_
            rotate_left
            · first | (intro w hSw; (try dsimp only at hSw); go_simp; done) | (intro w hSw; (try dsimp only at hSw); go_simp; with_reducible rfl)
            try simp only [Act.put, List.setIfInBounds_toArray, List.set_cons_zero, List.set_cons_succ, List.getElem_toArray, List.getElem_cons_succ, List.getElem_cons_zero]
            refine wpAnyH_take (i := 2) (oi := _) (v := ?_) rfl (by kernel_rfl) (by kernel_rfl) (by kernel_rfl) (fun _ _ _ h => h) (Or.inl ⟨by rfl, ?_⟩) (by assumption) ?_
            rotate_left
            · first | (intro w hSw; (try dsimp only at hSw); go_simp; done) | (intro w hSw; (try dsimp only at hSw); go_simp; with_reducible rfl)
            try simp only [Act.put, List.setIfInBounds_toArray, List.set_cons_zero, List.set_cons_succ, List.getElem_toArray, List.getElem_cons_succ, List.getElem_cons_zero]
            refine wpAnyH_take (i := 3) (oi := _) (v := ?_) rfl (by kernel_rfl) (by kernel_rfl) (by kernel_rfl) (fun _ _ _ h => h) (Or.inl ⟨by rfl, ?_⟩) (by assumption) ?_
            rotate_left
            · first | (intro w hSw; (try dsimp only at hSw); go_simp; done) | (intro w hSw; (try dsimp only at hSw); go_simp; with_reducible rfl)
            try simp only [Act.put, List.setIfInBounds_toArray, List.set_cons_zero, List.set_cons_succ, List.getElem_toArray, List.getElem_cons_succ, List.getElem_cons_zero]
            refine wpAnyH_take (i := 4) (oi := _) (v := ?_) rfl (by kernel_rfl) (by kernel_rfl) (by kernel_rfl) (fun _ _ _ h => h) (Or.inl ⟨by rfl, ?_⟩) (by assumption) ?_
            rotate_left
            · first | (intro w hSw; (try dsimp only at hSw); go_simp; done) | (intro w hSw; (try dsimp only at hSw); go_simp; with_reducible rfl)
            try simp only [Act.put, List.setIfInBounds_toArray, List.set_cons_zero, List.set_cons_succ, List.getElem_toArray, List.getElem_cons_succ, List.getElem_cons_zero]
            refine wpAnyH_take (i := 5) (oi := _) (v := ?_) rfl (by kernel_rfl) (by kernel_rfl) (by kernel_rfl) (fun _ _ _ h => h) (Or.inl ⟨by rfl, ?_⟩) (by assumption) ?_
            rotate_left
            · first | (intro w hSw; (try dsimp only at hSw); go_simp; done) | (intro w hSw; (try dsimp only at hSw); go_simp; with_reducible rfl)
            try simp only [Act.put, List.setIfInBounds_toArray, List.set_cons_zero, List.set_cons_succ, List.getElem_toArray, List.getElem_cons_succ, List.getElem_cons_zero]
            refine wpAnyH_take (i := 6) (oi := _) (v := ?_) rfl (by kernel_rfl) (by kernel_rfl) (by kernel_rfl) (fun _ _ _ h => h) (Or.inl ⟨by rfl, ?_⟩) (by assumption) ?_
            rotate_left
            · first | (intro w hSw; (try dsimp only at hSw); go_simp; done) | (intro w hSw; (try dsimp only at hSw); go_simp; with_reducible rfl)
            try simp only [Act.put, List.setIfInBounds_toArray, List.set_cons_zero, List.set_cons_succ, List.getElem_toArray, List.getElem_cons_succ, List.getElem_cons_zero]
            refine wpAnyH_take (i := 7) (oi := _) (v := ?_) rfl (by kernel_rfl) (by kernel_rfl) (by kernel_rfl) (fun _ _ _ h => h) (Or.inl ⟨by rfl, ?_⟩) (by assumption) ?_
            rotate_left
            · first | (intro w hSw; (try dsimp only at hSw); go_simp; done) | (intro w hSw; (try dsimp only at hSw); go_simp; with_reducible rfl)
            try simp only [Act.put, List.setIfInBounds_toArray, List.set_cons_zero, List.set_cons_succ, List.getElem_toArray, List.getElem_cons_succ, List.getElem_cons_zero]
            refine wpAnyH_take (i := 8) (oi := _) (v := ?_) rfl (by kernel_rfl) (by kernel_rfl) (by kernel_rfl) (fun _ _ _ h => h) (Or.inl ⟨by rfl, ?_⟩) (by assumption) ?_
            rotate_left
            · first | (intro w hSw; (try dsimp only at hSw); go_simp; done) | (intro w hSw; (try dsimp only at hSw); go_simp; with_reducible rfl)
            try simp only [Act.put, List.setIfInBounds_toArray, List.set_cons_zero, List.set_cons_succ, List.getElem_toArray, List.getElem_cons_succ, List.getElem_cons_zero]
            refine wpAnyH_take (i := 9) (oi := _) (v := ?_) rfl (by kernel_rfl) (by kernel_rfl) (by kernel_rfl) (fun _ _ _ h => h) (Or.inl ⟨by rfl, ?_⟩) (by assumption) ?_
            rotate_left
            · first | (intro w hSw; (try dsimp only at hSw); go_simp; done) | (intro w hSw; (try dsimp only at hSw); go_simp; with_reducible rfl)
            try simp only [Act.put, List.setIfInBounds_toArray, List.set_cons_zero, List.set_cons_succ, List.getElem_toArray, List.getElem_cons_succ, List.getElem_cons_zero]
            refine wpAnyH_done (by kernel_rfl) ?_ _
            go_wp2_with fail
            refine wp_region_held_drew (S := fun W => w.heap.size + 1 < W.heap.size ∧ b < W.heap.size ∧ W.cell? ⟨w.heap.size + 1, m, none⟩ = some (.int .i64 (t : Nat)) ∧ W.cell? ⟨b, m, none⟩ = some (.slice (some ⟨c, o, none⟩) rl rcap) ∧ c < W.heap.size ∧ W.cell? ⟨c, o + t * 2, none⟩ = some (.int .i64 x) ∧ W.cell? ⟨c, o + t * 2 + 1, none⟩ = some (.int .i64 y)) (by kernel_rfl) ?_ (fun hHeld => ?_)
            · exact K9.out
            refine wpAnyH_take (i := 0) (oi := _) (v := ?_) rfl (by kernel_rfl) (by kernel_rfl) (by kernel_rfl) (fun _ _ _ h => h) (Or.inl ⟨by rfl, ?_⟩) (by assumption) ?_
            rotate_left
            · first | (intro w hSw; (try dsimp only at hSw); go_simp; done) | (intro w hSw; (try dsimp only at hSw); go_simp; with_reducible rfl)
            try simp only [Act.put, List.setIfInBounds_toArray, List.set_cons_zero, List.set_cons_succ, List.getElem_toArray, List.getElem_cons_zero]
            refine wpAnyH_take (i := 1) (oi := _) (v := ?_) rfl (by kernel_rfl) (by kernel_rfl) (by kernel_rfl) (fun _ _ _ h => h) (Or.inl ⟨by rfl, ?_⟩) (by assumption) ?_
            rotate_left
            · first | (intro w hSw; (try dsimp only at hSw); go_simp; done) | (intro w hSw; (try dsimp only at hSw); go_simp; with_reducible rfl)
            try simp only [Act.put, List.setIfInBounds_toArray, List.set_cons_zero, List.set_cons_succ, List.getElem_toArray, List.getElem_cons_succ, List.getElem_cons_zero]
            refine wpAnyH_take (i := 2) (oi := _) (v := ?_) rfl (by kernel_rfl) (by kernel_rfl) (by kernel_rfl) (fun _ _ _ h => h) (Or.inl ⟨by rfl, ?_⟩) (by assumption) ?_
            rotate_left
            · first | (intro w hSw; (try dsimp only at hSw); go_simp; done) | (intro w hSw; (try dsimp only at hSw); go_simp; with_reducible rfl)
            try simp only [Act.put, List.setIfInBounds_toArray, List.set_cons_zero, List.set_cons_succ, List.getElem_toArray, List.getElem_cons_succ, List.getElem_cons_zero]
            refine wpAnyH_take (i := 3) (oi := _) (v := ?_) rfl (by kernel_rfl) (by kernel_rfl) (by kernel_rfl) (fun _ _ _ h => h) (Or.inl ⟨by rfl, ?_⟩) (by assumption) ?_
            rotate_left
            · first | (intro w hSw; (try dsimp only at hSw); go_simp; done) | (intro w hSw; (try dsimp only at hSw); go_simp; with_reducible rfl)
            try simp only [Act.put, List.setIfInBounds_toArray, List.set_cons_zero, List.set_cons_succ, List.getElem_toArray, List.getElem_cons_succ, List.getElem_cons_zero]
            refine wpAnyH_take (i := 4) (oi := _) (v := ?_) rfl (by kernel_rfl) (by kernel_rfl) (by kernel_rfl) (fun _ _ _ h => h) (Or.inl ⟨by rfl, ?_⟩) (by assumption) ?_
            rotate_left
            · first | (intro w hSw; (try dsimp only at hSw); go_simp; done) | (intro w hSw; (try dsimp only at hSw); go_simp; with_reducible rfl)
            try simp only [Act.put, List.setIfInBounds_toArray, List.set_cons_zero, List.set_cons_succ, List.getElem_toArray, List.getElem_cons_succ, List.getElem_cons_zero]
            refine wpAnyH_take (i := 5) (oi := _) (v := ?_) rfl (by kernel_rfl) (by kernel_rfl) (by kernel_rfl) (fun _ _ _ h => h) (Or.inl ⟨by rfl, ?_⟩) (by assumption) ?_
            rotate_left
            · first | (intro w hSw; (try dsimp only at hSw); go_simp; done) | (intro w hSw; (try dsimp only at hSw); go_simp; with_reducible rfl)
            try simp only [Act.put, List.setIfInBounds_toArray, List.set_cons_zero, List.set_cons_succ, List.getElem_toArray, List.getElem_cons_succ, List.getElem_cons_zero]
            refine wpAnyH_take (i := 6) (oi := _) (v := ?_) rfl (by kernel_rfl) (by kernel_rfl) (by kernel_rfl) (fun _ _ _ h => h) (Or.inl ⟨by rfl, ?_⟩) (by assumption) ?_
            rotate_left
            · first | (intro w hSw; (try dsimp only at hSw); go_simp; done) | (intro w hSw; (try dsimp only at hSw); go_simp; with_reducible rfl)
            try simp only [Act.put, List.setIfInBounds_toArray, List.set_cons_zero, List.set_cons_succ, List.getElem_toArray, List.getElem_cons_succ, List.getElem_cons_zero]
            refine wpAnyH_take (i := 7) (oi := _) (v := ?_) rfl (by kernel_rfl) (by kernel_rfl) (by kernel_rfl) (fun _ _ _ h => h) (Or.inl ⟨by rfl, ?_⟩) (by assumption) ?_
            rotate_left
            · first | (intro w hSw; (try dsimp only at hSw); go_simp; done) | (intro w hSw; (try dsimp only at hSw); go_simp; with_reducible rfl)
            try simp only [Act.put, List.setIfInBounds_toArray, List.set_cons_zero, List.set_cons_succ, List.getElem_toArray, List.getElem_cons_succ, List.getElem_cons_zero]
            refine wpAnyH_take (i := 8) (oi := _) (v := ?_) rfl (by kernel_rfl) (by kernel_rfl) (by kernel_rfl) (fun _ _ _ h => h) (Or.inl ⟨by rfl, ?_⟩) (by assumption) ?_
            rotate_left
            · first | (intro w hSw; (try dsimp only at hSw); go_simp; done) | (intro w hSw; (try dsimp only at hSw); go_simp; with_reducible rfl)
            try simp only [Act.put, List.setIfInBounds_toArray, List.set_cons_zero, List.set_cons_succ, List.getElem_toArray, List.getElem_cons_succ, List.getElem_cons_zero]
            refine wpAnyH_take (i := 9) (oi := _) (v := ?_) rfl (by kernel_rfl) (by kernel_rfl) (by kernel_rfl) (fun _ _ _ h => h) (Or.inl ⟨by rfl, ?_⟩) (by assumption) ?_
            rotate_left
            · first | (intro w hSw; (try dsimp only at hSw); go_simp; done) | (intro w hSw; (try dsimp only at hSw); go_simp; with_reducible rfl)
            try simp only [Act.put, List.setIfInBounds_toArray, List.set_cons_zero, List.set_cons_succ, List.getElem_toArray, List.getElem_cons_succ, List.getElem_cons_zero]
            refine wpAnyH_ready (rs := [10]) (by kernel_rfl) (by simp) ?_
            refine AllReadyH.cons rfl (fun K hK => ?_) AllReadyH.nil
            go_simp
            refine hK.out _ _ ?_ (fun hHeld => ?_)
            · exact KS.out _ (bA (Below.refl _ _).drew.drew _)
            clear hK K
            refine wpAnyH_ready (rs := [11]) (by kernel_rfl) (by simp) ?_
            refine AllReadyH.cons rfl (fun K hK => ?_) AllReadyH.nil
            go_simp
            refine hK.out _ _ ?_ (fun hHeld => ?_)
            · exact KS.out _ (bA (Below.refl _ _) _).drew.drew
            clear hK K
            refine wpAnyH_done (by kernel_rfl) ?_ _
            clear K9 KS K6
            go_wp2_with fail
            rw [← e3]
            refine E.out.mono ?_
            rintro e w4 ⟨rfl, b4⟩
            have T4 : Hid (TrAt w4 (w.heap.size + 1) (tr'.set m (t + 1))) := T3.out.of (b4.block _ T3.out.lt)
            have X4 : Hid (BoxP w4 w.heap.size) := (b4.block _ (X3.out.facts).1).trans X3.out
            have O4 := Lib.hid (own_below O3.out b4)
            have P4 := Lib.hid (P3.out.below b4)
            have B4 := Lib.hid (bT B3.out b4)
            obtain ⟨pc0, pc1⟩ := P4.out.cells
            have pl4 := P4.out.lt
            have hs4 : w.heap.size + 2 ≤ w4.heap.size := by have := T4.out.lt; omega
            clear T3 X3 O3 P3 B3 b4 E e3 tc hrc hf0 htl hbl hcl HS2
            clear W3
            cases fb with
            | true =>
              have F8 := Lib.hid (F9.out.1 rfl)
              have HL1 : Hid ((pl ++ [(x, y)]).length = m + 1) := by show _ = _; rw [List.length_append, HM.out]; rfl
              have S9 : Hid (∀ z ∈ pl ++ [(x, y)], Small z) := fun z hz => by
                rcases List.mem_append.1 hz with h | h
                · exact HSM.out z h
                · rw [List.mem_singleton.1 h]; exact SXY.out
              have hms : (bud - (s' + 1)) * (n + 2) + (m + 1) < (bud - s) * (n + 2) + m := by
                have h1 : (bud - s') * (n + 2) ≤ (bud - s) * (n + 2) := Nat.mul_le_mul_right _ (by omega)
                have h2 : bud - s' = (bud - (s' + 1)) + 1 := by omega
                rw [h2, Nat.succ_mul] at h1
                omega
              clear F9
              go_wp2_with (first | (at_builtin; refine wpList_append_lies _ rfl (.tmp 59) (.tmp 61) 30 rfl (w.heap.size + 2) 62 i3 (.agg #[.int .i64 0, .int .i64 0]) 2 16 Try.underlying30 hi3 hd0 hd1 hd2 rfl (by decide) _ _ _ rfl (O4.out.alloc _) ⟨w4.heap.size, 0, none⟩ 1 1 [.int .i64 x, .int .i64 y] rfl rfl (cell_two_new _ _ _ _) (by intro u hu; simp at hu; rcases hu with rfl | rfl <;> rfl) (by decide) (by unfold maxLen; omega) (by omega) (by simp; omega) (w4.heap.size + 1) (by simp) ?_))
              intro g9 cap9 w9 own9 grow9 hg9 hlt9
              have OL : ∀ j, (Value.slice vsl m vcap).ownBlock = some j → w.heap.size + 2 ≤ j := fun j hj => (O4.out.lt j hj).1
              have BK : ∀ k, k < w.heap.size + 2 → w9.heap[k]? = w4.heap[k]? := fun k hk => (grow9.block k (by simp; omega) (fun e => by have := OL k e.symm; omega)).trans (Below.heap_alloc _ _ _ (by omega))
              have T9 : Hid (TrAt w9 (w.heap.size + 1) (tr'.set m (t + 1))) := T4.out.of (BK _ (by omega))
              have X9 : Hid (BoxP w9 w.heap.size) := (BK _ (by omega)).trans X4.out
              have B9 := Lib.hid ((bA B4.out (.cells #[.int .i64 x, .int .i64 y] 62)).grown grow9 (by have := B4.out.size; simp; omega) (fun j hj => by have := OL j hj; omega))
              rw [← enCells_add pl (x, y)] at own9
              have O9 : Hid (w9.ownsRow (w.heap.size + 2) 62 2 (.slice (some ⟨g9, 0, none⟩) (m + 1) cap9) (pl ++ [(x, y)]).length (enCells (pl ++ [(x, y)]))) := by
                rw [HL1.out]; exact own9
              have Z8 : Hid (∀ j, (pl ++ [(x, y)]).length < j → (tr'.set m (t + 1)).getD j 0 = 0) := fun j hj => by
                rw [HL1.out] at hj
                exact Z9.out j (by omega)
              have hl1 : (pl ++ [(x, y)]).length ≤ n := by rw [HL1.out]; omega
              clear own9 grow9 hg9 hlt9 OL BK T4 X4 B4 O4 P4
              go_wp2
              go_roundw
              case rel => exact ⟨pl ++ [(x, y)], s' + 1, tr'.set m (t + 1), by go_num, by omega, hl1, L9, F8, Z8, S9, X9, T9, O9, B9⟩
              case measure => simp [intOf, lenV]; exact hms
            | false =>
              have F8 := Lib.hid (F9.out.2 rfl)
              clear F9
              go_wp2
              go_roundw
              case rel => exact ⟨s' + 1, tr'.set m (t + 1), rfl, by go_num, by omega, by omega, L9, F8, Z9, X4, T4, O4, B4⟩
              case measure => simp [intOf]; omega
        · have g2' : ¬ (t : Int) < (rl : Int) := by omega
          have HFB : Hid ((C.getD pl.length []).length ≤ tr'.getD pl.length 0) := by
            show _ ≤ _
            rw [HM.out, HT.out, CM.out, HRL.out]
            omega
          by_cases hm : m = 0
          · subst hm
            have RO : Hid (R = .none s') := by
              show R = _
              rw [← HFI.out, List.eq_nil_of_length_eq_zero HM.out]
              refine fin_none _ _ _ _ _ (by rw [CL.out]; omega) ?_
              have := HFB.out
              rwa [HM.out] at this
            obtain ⟨xl, r0, r1, r2, r3, f0, f1, f2, f3⟩ := BoxP.facts XB.out
            have P : Hid (Below w.heap.size w (set4 wr.drew w.heap.size (.int .i64 2) (.slice none 0 0) (.int .i64 (s' : Nat)) (.int .i64 0))) := set4_below HB.out.drew (Nat.le_refl _) _ _ _ _
            unfold set4 at P
            clear XB TB OR HFI HZE HTL HT CM RP RS RC HFB
            go_wp2_with fail
            refine wp_region_held_drew (S := fun W => w.heap.size + 1 < W.heap.size ∧ b < W.heap.size ∧ W.cell? ⟨w.heap.size + 1, 0, none⟩ = some (.int .i64 (t : Nat)) ∧ W.cell? ⟨b, 0, none⟩ = some (.slice rsl rl rcap)) (by kernel_rfl) ?_ (fun hHeld => ?_)
            · exact K6.out
            refine wpAnyH_take (i := 0) (oi := _) (v := ?_) rfl (by kernel_rfl) (by kernel_rfl) (by kernel_rfl) (fun _ _ _ h => h) (Or.inl ⟨by rfl, ?_⟩) (by assumption) ?_
            rotate_left
            · first | (intro w hSw; (try dsimp only at hSw); go_simp; done) | (intro w hSw; (try dsimp only at hSw); go_simp; with_reducible rfl)
            try simp only [Act.put, List.setIfInBounds_toArray, List.set_cons_zero, List.set_cons_succ, List.getElem_toArray, List.getElem_cons_zero]
            refine wpAnyH_take (i := 1) (oi := _) (v := ?_) rfl (by kernel_rfl) (by kernel_rfl) (by kernel_rfl) (fun _ _ _ h => h) (Or.inl ⟨by rfl, ?_⟩) (by assumption) ?_
            rotate_left
            · first | (intro w hSw; (try dsimp only at hSw); go_simp; done) | (intro w hSw; (try dsimp only at hSw); go_simp; with_reducible rfl)
            try simp only [Act.put, List.setIfInBounds_toArray, List.set_cons_zero, List.set_cons_succ, List.getElem_toArray, List.getElem_cons_succ, List.getElem_cons_zero]
            refine wpAnyH_take (i := 2) (oi := _) (v := ?_) rfl (by kernel_rfl) (by kernel_rfl) (by kernel_rfl) (fun _ _ _ h => h) (Or.inl ⟨by rfl, ?_⟩) (by assumption) ?_
            rotate_left
            · first | (intro w hSw; (try dsimp only at hSw); go_simp; done) | (intro w hSw; (try dsimp only at hSw); go_simp; with_reducible rfl)
            try simp only [Act.put, List.setIfInBounds_toArray, List.set_cons_zero, List.set_cons_succ, List.getElem_toArray, List.getElem_cons_succ, List.getElem_cons_zero]
            refine wpAnyH_take (i := 3) (oi := _) (v := ?_) rfl (by kernel_rfl) (by kernel_rfl) (by kernel_rfl) (fun _ _ _ h => h) (Or.inl ⟨by rfl, ?_⟩) (by assumption) ?_
            rotate_left
            · first | (intro w hSw; (try dsimp only at hSw); go_simp; done) | (intro w hSw; (try dsimp only at hSw); go_simp; with_reducible rfl)
            try simp only [Act.put, List.setIfInBounds_toArray, List.set_cons_zero, List.set_cons_succ, List.getElem_toArray, List.getElem_cons_succ, List.getElem_cons_zero]
            refine wpAnyH_take (i := 4) (oi := _) (v := ?_) rfl (by kernel_rfl) (by kernel_rfl) (by kernel_rfl) (fun _ _ _ h => h) (Or.inl ⟨by rfl, ?_⟩) (by assumption) ?_
            rotate_left
            · first | (intro w hSw; (try dsimp only at hSw); go_simp; done) | (intro w hSw; (try dsimp only at hSw); go_simp; with_reducible rfl)
            try simp only [Act.put, List.setIfInBounds_toArray, List.set_cons_zero, List.set_cons_succ, List.getElem_toArray, List.getElem_cons_succ, List.getElem_cons_zero]
            refine wpAnyH_take (i := 5) (oi := _) (v := ?_) rfl (by kernel_rfl) (by kernel_rfl) (by kernel_rfl) (fun _ _ _ h => h) (Or.inl ⟨by rfl, ?_⟩) (by assumption) ?_
            rotate_left
            · first | (intro w hSw; (try dsimp only at hSw); go_simp; done) | (intro w hSw; (try dsimp only at hSw); go_simp; with_reducible rfl)
            try simp only [Act.put, List.setIfInBounds_toArray, List.set_cons_zero, List.set_cons_succ, List.getElem_toArray, List.getElem_cons_succ, List.getElem_cons_zero]
            refine wpAnyH_take (i := 6) (oi := _) (v := ?_) rfl (by kernel_rfl) (by kernel_rfl) (by kernel_rfl) (fun _ _ _ h => h) (Or.inl ⟨by rfl, ?_⟩) (by assumption) ?_
            rotate_left
            · first | (intro w hSw; (try dsimp only at hSw); go_simp; done) | (intro w hSw; (try dsimp only at hSw); go_simp; with_reducible rfl)
            try simp only [Act.put, List.setIfInBounds_toArray, List.set_cons_zero, List.set_cons_succ, List.getElem_toArray, List.getElem_cons_succ, List.getElem_cons_zero]
            refine wpAnyH_take (i := 7) (oi := _) (v := ?_) rfl (by kernel_rfl) (by kernel_rfl) (by kernel_rfl) (fun _ _ _ h => h) (Or.inl ⟨by rfl, ?_⟩) (by assumption) ?_
            rotate_left
            · first | (intro w hSw; (try dsimp only at hSw); go_simp; done) | (intro w hSw; (try dsimp only at hSw); go_simp; with_reducible rfl)
            try simp only [Act.put, List.setIfInBounds_toArray, List.set_cons_zero, List.set_cons_succ, List.getElem_toArray, List.getElem_cons_succ, List.getElem_cons_zero]
            refine wpAnyH_take (i := 8) (oi := _) (v := ?_) rfl (by kernel_rfl) (by kernel_rfl) (by kernel_rfl) (fun _ _ _ h => h) (Or.inl ⟨by rfl, ?_⟩) (by assumption) ?_
            rotate_left
            · first | (intro w hSw; (try dsimp only at hSw); go_simp; done) | (intro w hSw; (try dsimp only at hSw); go_simp; with_reducible rfl)
            try simp only [Act.put, List.setIfInBounds_toArray, List.set_cons_zero, List.set_cons_succ, List.getElem_toArray, List.getElem_cons_succ, List.getElem_cons_zero]
            refine wpAnyH_take (i := 9) (oi := _) (v := ?_) rfl (by kernel_rfl) (by kernel_rfl) (by kernel_rfl) (fun _ _ _ h => h) (Or.inl ⟨by rfl, ?_⟩) (by assumption) ?_
            rotate_left
            · first | (intro w hSw; (try dsimp only at hSw); go_simp; done) | (intro w hSw; (try dsimp only at hSw); go_simp; with_reducible rfl)
            try simp only [Act.put, List.setIfInBounds_toArray, List.set_cons_zero, List.set_cons_succ, List.getElem_toArray, List.getElem_cons_succ, List.getElem_cons_zero]
            refine wpAnyH_done (by kernel_rfl) ?_ _
            clear K6
            go_wp2
            rw [Exit.noGoto_ret]
            refine bodyPost_ret (v := .agg #[.int .i64 2, .slice none 0 0, .int .i64 (s' : Nat), .int .i64 0]) (by simp [results, Try.results23, go_sem, r0, r1, r2, r3]) rfl ⟨.slice none 0 0, by rw [RO.out]; rfl, by rw [RO.out]; exact ⟨rfl, .inl ⟨rfl, rfl⟩⟩, P.out⟩
          · obtain ⟨m1, hm1⟩ : ∃ m1, m = m1 + 1 := ⟨m - 1, by omega⟩
            have hm' : ¬ (m : Int) = 0 := by omega
            have hsub : (m : Int) - 1 = (m1 : Int) := by omega
            obtain ⟨g, rfl, hgB, hcap, hgl⟩ : ∃ g, vsl = some ⟨g, 0, none⟩ ∧ w.heap.size + 2 ≤ g ∧ m ≤ vcap ∧ g < wr.heap.size := by
              rcases OR.out.2 with ⟨_, h0⟩ | ⟨g, cp, cur, hv, hb, hg, h1, _⟩
              · exact absurd h0 hm
              · cases hv
                exact ⟨g, rfl, hb, h1, (Array.getElem?_eq_some_iff.1 hg).1⟩
            have hf0 := TB.out.frozen m
            have T9 : Hid (TrAt (wr.setCell ⟨w.heap.size + 1, m, none⟩ (.int .i64 0)) (w.heap.size + 1) (tr'.set m 0)) := TB.out.set m 0
            have X9 : Hid (BoxP (wr.setCell ⟨w.heap.size + 1, m, none⟩ (.int .i64 0)) w.heap.size) := (Below.heap_setCell _ _ _ _ (by simp)).trans XB.out
            have O9 : Hid ((wr.setCell ⟨w.heap.size + 1, m, none⟩ (.int .i64 0)).ownsRow (w.heap.size + 2) 62 2 (.slice (some ⟨g, 0, none⟩) m1 vcap) (pl.take m1).length (enCells (pl.take m1))) := by
              have o1 := OR.out
              rw [← HM.out] at o1
              have o2 := own_cut m1 o1 (by rw [HM.out, hm1]; omega)
              have o3 := own_set o2 (b := w.heap.size + 1) (by simp [Value.ownBlock]; omega) m (.int .i64 0)
              rwa [show (pl.take m1).length = m1 by rw [List.length_take, HM.out, hm1]; omega]
            have B9 : Hid (Below w.heap.size w (wr.setCell ⟨w.heap.size + 1, m, none⟩ (.int .i64 0))) := HB.out.setCell (p := ⟨w.heap.size + 1, m, none⟩) (by show w.heap.size ≤ w.heap.size + 1; omega) _
            have F9 : Hid (finR (fitB ps) bud C (tr'.set m 0) (pl.take m1) s' = R) := by
              show finR _ _ _ _ _ _ = R
              rw [← HFI.out]
              exact (fin_back (fitB ps) bud C tr' (tr'.set m 0) pl s' m1 (by rw [HM.out, hm1]) (by rw [HM.out, CL.out]; exact g1) HFB.out (fun j hj => (set_other _ _ _ _ (by rw [HM.out] at hj; omega)).symm)).symm
            have L9 : Hid ((tr'.set m 0).length = n) := by show _ = n; rw [List.length_set]; exact HTL.out
            have Z9 : Hid (∀ j, (pl.take m1).length < j → (tr'.set m 0).getD j 0 = 0) := fun j hj => by
              have hl1 : (pl.take m1).length = m1 := by rw [List.length_take, HM.out, hm1]; omega
              rw [hl1] at hj
              by_cases ej : m = j
              · subst ej; exact set_same _ _ _ (by rw [HTL.out]; exact g1)
              · rw [set_other _ _ _ _ ej]; exact HZE.out j (by omega)
            have S9 : Hid (∀ x ∈ pl.take m1, Small x) := fun x hx => HSM.out x (List.mem_of_mem_take hx)
            have hlm : (pl.take m1).length ≤ n := by rw [List.length_take]; omega
            have hms : (bud - s') * (n + 2) + m1 < (bud - s) * (n + 2) + m := by
              have : (bud - s') * (n + 2) ≤ (bud - s) * (n + 2) := Nat.mul_le_mul_right _ (by omega)
              omega
            clear XB TB OR HFI HZE HTL HT CM RP RS RC HFB HB hm1 hm
            go_wp2_with fail
            refine wp_region_held_drew (S := fun W => w.heap.size + 1 < W.heap.size ∧ b < W.heap.size ∧ W.cell? ⟨w.heap.size + 1, m, none⟩ = some (.int .i64 (t : Nat)) ∧ W.cell? ⟨b, m, none⟩ = some (.slice rsl rl rcap)) (by kernel_rfl) ?_ (fun hHeld => ?_)
            · exact K6.out
            refine wpAnyH_take (i := 0) (oi := _) (v := ?_) rfl (by kernel_rfl) (by kernel_rfl) (by kernel_rfl) (fun _ _ _ h => h) (Or.inl ⟨by rfl, ?_⟩) (by assumption) ?_
            rotate_left
            · first | (intro w hSw; (try dsimp only at hSw); go_simp; done) | (intro w hSw; (try dsimp only at hSw); go_simp; with_reducible rfl)
            try simp only [Act.put, List.setIfInBounds_toArray, List.set_cons_zero, List.set_cons_succ, List.getElem_toArray, List.getElem_cons_zero]
            refine wpAnyH_take (i := 1) (oi := _) (v := ?_) rfl (by kernel_rfl) (by kernel_rfl) (by kernel_rfl) (fun _ _ _ h => h) (Or.inl ⟨by rfl, ?_⟩) (by assumption) ?_
            rotate_left
            · first | (intro w hSw; (try dsimp only at hSw); go_simp; done) | (intro w hSw; (try dsimp only at hSw); go_simp; with_reducible rfl)
            try simp only [Act.put, List.setIfInBounds_toArray, List.set_cons_zero, List.set_cons_succ, List.getElem_toArray, List.getElem_cons_succ, List.getElem_cons_zero]
            refine wpAnyH_take (i := 2) (oi := _) (v := ?_) rfl (by kernel_rfl) (by kernel_rfl) (by kernel_rfl) (fun _ _ _ h => h) (Or.inl ⟨by rfl, ?_⟩) (by assumption) ?_
            rotate_left
            · first | (intro w hSw; (try dsimp only at hSw); go_simp; done) | (intro w hSw; (try dsimp only at hSw); go_simp; with_reducible rfl)
            try simp only [Act.put, List.setIfInBounds_toArray, List.set_cons_zero, List.set_cons_succ, List.getElem_toArray, List.getElem_cons_succ, List.getElem_cons_zero]
            refine wpAnyH_take (i := 3) (oi := _) (v := ?_) rfl (by kernel_rfl) (by kernel_rfl) (by kernel_rfl) (fun _ _ _ h => h) (Or.inl ⟨by rfl, ?_⟩) (by assumption) ?_
            rotate_left
            · first | (intro w hSw; (try dsimp only at hSw); go_simp; done) | (intro w hSw; (try dsimp only at hSw); go_simp; with_reducible rfl)
            try simp only [Act.put, List.setIfInBounds_toArray, List.set_cons_zero, List.set_cons_succ, List.getElem_toArray, List.getElem_cons_succ, List.getElem_cons_zero]
            refine wpAnyH_take (i := 4) (oi := _) (v := ?_) rfl (by kernel_rfl) (by kernel_rfl) (by kernel_rfl) (fun _ _ _ h => h) (Or.inl ⟨by rfl, ?_⟩) (by assumption) ?_
            rotate_left
            · first | (intro w hSw; (try dsimp only at hSw); go_simp; done) | (intro w hSw; (try dsimp only at hSw); go_simp; with_reducible rfl)
            try simp only [Act.put, List.setIfInBounds_toArray, List.set_cons_zero, List.set_cons_succ, List.getElem_toArray, List.getElem_cons_succ, List.getElem_cons_zero]
            refine wpAnyH_take (i := 5) (oi := _) (v := ?_) rfl (by kernel_rfl) (by kernel_rfl) (by kernel_rfl) (fun _ _ _ h => h) (Or.inl ⟨by rfl, ?_⟩) (by assumption) ?_
            rotate_left
            · first | (intro w hSw; (try dsimp only at hSw); go_simp; done) | (intro w hSw; (try dsimp only at hSw); go_simp; with_reducible rfl)
            try simp only [Act.put, List.setIfInBounds_toArray, List.set_cons_zero, List.set_cons_succ, List.getElem_toArray, List.getElem_cons_succ, List.getElem_cons_zero]
            refine wpAnyH_take (i := 6) (oi := _) (v := ?_) rfl (by kernel_rfl) (by kernel_rfl) (by kernel_rfl) (fun _ _ _ h => h) (Or.inl ⟨by rfl, ?_⟩) (by assumption) ?_
            rotate_left
            · first | (intro w hSw; (try dsimp only at hSw); go_simp; done) | (intro w hSw; (try dsimp only at hSw); go_simp; with_reducible rfl)
            try simp only [Act.put, List.setIfInBounds_toArray, List.set_cons_zero, List.set_cons_succ, List.getElem_toArray, List.getElem_cons_succ, List.getElem_cons_zero]
            refine wpAnyH_take (i := 7) (oi := _) (v := ?_) rfl (by kernel_rfl) (by kernel_rfl) (by kernel_rfl) (fun _ _ _ h => h) (Or.inl ⟨by rfl, ?_⟩) (by assumption) ?_
            rotate_left
            · first | (intro w hSw; (try dsimp only at hSw); go_simp; done) | (intro w hSw; (try dsimp only at hSw); go_simp; with_reducible rfl)
            try simp only [Act.put, List.setIfInBounds_toArray, List.set_cons_zero, List.set_cons_succ, List.getElem_toArray, List.getElem_cons_succ, List.getElem_cons_zero]
            refine wpAnyH_take (i := 8) (oi := _) (v := ?_) rfl (by kernel_rfl) (by kernel_rfl) (by kernel_rfl) (fun _ _ _ h => h) (Or.inl ⟨by rfl, ?_⟩) (by assumption) ?_
            rotate_left
            · first | (intro w hSw; (try dsimp only at hSw); go_simp; done) | (intro w hSw; (try dsimp only at hSw); go_simp; with_reducible rfl)
            try simp only [Act.put, List.setIfInBounds_toArray, List.set_cons_zero, List.set_cons_succ, List.getElem_toArray, List.getElem_cons_succ, List.getElem_cons_zero]
            refine wpAnyH_take (i := 9) (oi := _) (v := ?_) rfl (by kernel_rfl) (by kernel_rfl) (by kernel_rfl) (fun _ _ _ h => h) (Or.inl ⟨by rfl, ?_⟩) (by assumption) ?_
            rotate_left
            · first | (intro w hSw; (try dsimp only at hSw); go_simp; done) | (intro w hSw; (try dsimp only at hSw); go_simp; with_reducible rfl)
            try simp only [Act.put, List.setIfInBounds_toArray, List.set_cons_zero, List.set_cons_succ, List.getElem_toArray, List.getElem_cons_succ, List.getElem_cons_zero]
            refine wpAnyH_done (by kernel_rfl) ?_ _
            clear K6
            go_wp2
            go_roundw
            case rel => exact ⟨pl.take m1, s', tr'.set m 0, by go_num, hsb', hlm, L9, F9, Z9, S9, X9, T9, O9, Lib.hid B9.out.drew⟩
            case measure => simp [intOf, lenV]; exact hms
    · have g1' : ¬ (m : Int) < (n : Int) := by omega
      have RO : Hid (R = .found pl s) := by
        show R = _
        rw [← HFI.out]
        exact fin_yes _ _ _ _ _ _ (by rw [HM.out, CL.out]; omega)
      obtain ⟨xl, r0, r1, r2, r3, f0, f1, f2, f3⟩ := BoxP.facts XB.out
      have P : Hid (Below w.heap.size w (set4 wr w.heap.size (.int .i64 1) (.slice vsl m vcap) (.int .i64 (s : Nat)) (.int .i64 0))) := set4_below HB.out (Nat.le_refl _) _ _ _ _
      have O9 : Hid ((set4 wr w.heap.size (.int .i64 1) (.slice vsl m vcap) (.int .i64 (s : Nat)) (.int .i64 0)).ownsRow w.heap.size 62 2 (.slice vsl m vcap) pl.length (enCells pl)) := by
        have o1 := own_set4 OR.out (b := w.heap.size) (fun e => by have := (OR.out.lt _ e).1; omega) (.int .i64 1) (.slice vsl m vcap) (.int .i64 (s : Nat)) (.int .i64 0)
        rw [HM.out]
        exact own_mono o1 (by omega)
      unfold set4 at P O9
      clear XB TB OR HFI HZE HTL HB
      go_wp2
      refine bodyPost_ret (v := .agg #[.int .i64 1, .slice vsl m vcap, .int .i64 (s : Nat), .int .i64 0]) (by simp [results, Try.results23, go_sem, r0, r1, r2, r3]) rfl ⟨.slice vsl m vcap, by rw [RO.out]; rfl, by rw [RO.out]; exact O9.out, P.out⟩
end Go.Proofs.Ytgfclllfkpblnaa
