/-
  A TABLE WITH A LINE'S NUMBERS BEHIND IT: impl.withNumbers.
-/
import Derived.Test.YtdndhhkpbcpalaaDoorKb
import Derived.Test.YtdndhhkpbcpalaaDoorAp
import Derived.Deep.AppendLies
namespace Go.Proofs.YtdndhhkpbcpalaaDoor
open Go.RowKit
set_option linter.unusedVariables false

theorem set2_cell (w : World) (b c i : Nat) (x y : Value) (h : b ≠ c) : ((w.setCell ⟨c, 0, none⟩ x).setCell ⟨c, 1, none⟩ y).cell? ⟨b, i, none⟩ = w.cell? ⟨b, i, none⟩ :=
  World.cell?_of_block (((Below.heap_setCell _ _ _ _ h).trans (Below.heap_setCell _ _ _ _ h)))
theorem cellsAt {w : World} {b : Nat} {vs : Array Value} {t : TypeId} (h : w.heap[b]? = some (.cells vs t)) : (∀ i, w.cell? ⟨b, i, none⟩ = vs[i]?) ∧ ∀ i, w.frozen? ⟨b, i, none⟩ = false :=
  ⟨fun i => by simp [World.cell?, h], fun i => by simp [World.frozen?, h]⟩
theorem cell_three_new (w : World) (x y z : Value) (e : TypeId) : ∀ j u, [x, y, z][j]? = some u → (w.alloc (.cells #[x, y, z] e)).cell? ((⟨w.heap.size, 0, none⟩ : Addr).add j) = some u := by
  intro j u h
  have hn := new_at w (.cells #[x, y, z] e)
  have ha : (⟨w.heap.size, 0, none⟩ : Addr).add j = ⟨w.heap.size, j, none⟩ := by
    unfold Addr.add
    by_cases h : j = 0 <;> simp [h]
  rw [ha, World.cell?, hn]
  simpa using h
theorem own_diffB {w : World} {B : Nat} {e t : TypeId} {m : Nat} {v : Value} {n : Nat} {xs : List Value} {j : Nat} {cur : Array Value} (h : w.ownsRow B e m v n xs) (hj : w.heap[j]? = some (.cells cur t)) (he : e ≠ t) : v.ownBlock ≠ some j := by
  intro hv
  obtain ⟨c1, h1⟩ := own_kind h hv
  rw [h1] at hj
  simp at hj
  exact he hj.2
theorem own_keptB {w w' : World} {B : Nat} {e t : TypeId} {m : Nat} {v : Value} {n : Nat} {xs : List Value} {j : Nat} {cur : Array Value} (h : w.ownsRow B e m v n xs) (hj : w.heap[j]? = some (.cells cur t)) (he : e ≠ t) (hg : w.grownBy w' (some j)) : w'.ownsRow B e m v n xs :=
  h.kept hg (.inr (own_diffB h hj he))
theorem TailOf.keptB {w w' : World} {B : Nat} {t : TypeId} {r : LSt} {j : Nat} {cur : Array Value} (h : TailOf w B r) (hj : w.heap[j]? = some (.cells cur t)) (he : (2 : TypeId) ≠ t) (hg : w.grownBy w' (some j)) : TailOf w' B r := by
  obtain ⟨g, o, cap, kap, zs, h1, ho2, h2, h3, h4, h5⟩ := h
  exact ⟨g, o, cap, kap, zs, h1, ho2, h2, h3, h4, own_keptB h5 hj he hg⟩
theorem OwT.keptB {w w' : World} {B : Nat} {v1 v2 : Value} {rs : List LSt} {ps : List LPr} {j : Nat} {cur : Array Value} (h : OwT w B v1 v2 rs ps) (hj : w.heap[j]? = some (.cells cur 25)) (hg : w.grownBy w' (some j)) : OwT w' B v1 v2 rs ps :=
  ⟨own_keptB h.r1 hj (by decide) hg, own_keptB h.r2 hj (by decide) hg, fun r hr => (h.dom r hr).keptB hj (by decide) hg, h.diff⟩
theorem grown_set (w : World) (b i : Nat) (v : Value) : w.grownBy (w.setCell ⟨b, i, none⟩ v) (some b) :=
  ⟨rfl, rfl, rfl, by simp [World.setCell], fun k hk hne => Below.heap_setCell _ _ _ _ (fun e => hne (by rw [e]))⟩

/-- It says no. -/
def WnNo (w : World) (e : Ending) (w' : World) : Prop := e = .returned (.tuple #[.agg #[.slice none 0 0, .slice none 0 0], .bool false]) ∧ Below w.heap.size w w'
/-- What lay is as it lay, but for the two rows. -/
def Keep2 (v1 v2 : Value) (w w' : World) : Prop := ∀ k, k < w.heap.size → v1.ownBlock ≠ some k → v2.ownBlock ≠ some k → w'.heap[k]? = w.heap[k]?
set_option maxRecDepth 100000 in
set_option maxHeartbeats 1000000 in
theorem wn_short (v1 v2 : Value) (k : Int) (sl : Option Addr) (n cap : Nat) (w : World) (hn : n < 2) :
    Calls Tryd.prog 24 #[.agg #[v1, v2], .int .i64 k, .slice sl n cap] w fun e w' => WnNo w e w' := by
  have hn' : (n : Int) < 2 := by omega
  have B0 := Lib.hid (bA (bA0 w (.cells #[v1, v2] 25)) (.cells #[.slice none 0 0, .slice none 0 0] 25))
  go_enter Tryd.func24, Tryd.ntmps24
  go_wp2
  exact bodyPost_ret (v := .tuple #[.agg #[.slice none 0 0, .slice none 0 0], .bool false]) (by simp [results, Tryd.results24, go_sem]) rfl ⟨rfl, B0.out⟩
set_option maxRecDepth 100000 in
set_option maxHeartbeats 1000000 in
theorem wn_late (v1 : Value) (sl2 : Option Addr) (m cap2 : Nat) (sl : Option Addr) (n cap : Nat) (w : World) (hn : 2 ≤ n) (hm : 0 < m) :
    Calls Tryd.prog 24 #[.agg #[v1, .slice sl2 m cap2], .int .i64 3, .slice sl n cap] w fun e w' => WnNo w e w' := by
  have hn' : ¬ (n : Int) < 2 := by omega
  have hm' : (0 : Int) < (m : Int) := by omega
  have B0 := Lib.hid (bA (bA0 w (.cells #[v1, .slice sl2 m cap2] 25)) (.cells #[.slice none 0 0, .slice none 0 0] 25))
  go_enter Tryd.func24, Tryd.ntmps24
  go_wp2
  exact bodyPost_ret (v := .tuple #[.agg #[.slice none 0 0, .slice none 0 0], .bool false]) (by simp [results, Tryd.results24, go_sem]) rfl ⟨rfl, B0.out⟩
/-- What it answers: the table with the line behind it, if that is right. -/
def WnPost (C : Nat) (v1 v2 : Value) (w : World) (ok : Bool) (rs : List LSt) (ps : List LPr) (e : Ending) (w' : World) : Prop :=
  ∃ u1 u2, e = .returned (.tuple #[.agg #[u1, u2], .bool ok]) ∧ OwT w' C u1 u2 rs ps ∧ Below C w w' ∧ Keep2 v1 v2 w w'
theorem infoSt : (Tryd.prog.info? 43).map (fun i => (i.zero, i.size, i.bytes)) = some (some (.agg #[.int .i64 0, .int .i64 0, .slice none 0 0]), 3, 40) := by kernel_rfl
theorem infoPr : (Tryd.prog.info? 47).map (fun i => (i.zero, i.size, i.bytes)) = some (some (.agg #[.int .i64 0, .int .i64 0, .int .i64 0]), 3, 24) := by kernel_rfl
/-- What impl.TableRight says of every table. -/
def TR38 : Prop := ∀ (sl : Option Addr) (cap : Nat) (sl2 : Option Addr) (cap2 : Nat) (rs : List LSt) (ps : List LPr) (w : World), Sts w sl rs → Prs w sl2 ps → (∀ p ∈ ps, WfP p) →
    Calls Tryd.prog 38 #[TV sl rs.length cap sl2 ps.length cap2] w fun e w' => e = .returned (.bool (B (TabR rs ps))) ∧ Below w.heap.size w w'
set_option maxRecDepth 100000 in
set_option maxHeartbeats 4000000 in
/-- A station's line. -/
theorem wn_sta (C : Nat) (v1 v2 : Value) (rs : List LSt) (a b : Int) (ds : List Int) (g kap : Nat) (w : World) (h : OwT w C v1 v2 rs []) (hB : C ≤ w.heap.size) (hr : rs.length ≤ 100000) (hd : ds.length ≤ 100000)
    (hz : w.ownsRow C 2 1 (.slice (some ⟨g, 0, none⟩) (a :: b :: ds).length kap) (a :: b :: ds).length (valsZ (a :: b :: ds))) (hf : ∀ s ∈ rs, domB s ≠ some g) (hkap : ¬ kap = 2) (TR0 : TR38) :
    Calls Tryd.prog 24 #[.agg #[v1, v2], .int .i64 3, .slice (some ⟨g, 0, none⟩) (ds.length + 2) kap] w fun e w' => WnPost C v1 v2 w (B (TabR (rs ++ [(a, b, .slice (some ⟨g, 2, none⟩) ds.length (kap - 2), ds)]) [])) (rs ++ [(a, b, .slice (some ⟨g, 2, none⟩) ds.length (kap - 2), ds)]) [] e w' := by
  obtain ⟨i0, hi0, hz0, hz1, hz2⟩ := info_parts infoSt
  have hT : TailOf w C (a, b, .slice (some ⟨g, 2, none⟩) ds.length (kap - 2), ds) := ⟨g, 2, kap - 2, kap, a :: b :: ds, rfl, .inr rfl, by simp, by simp; omega, rfl, hz⟩
  have cz0 := hz.cellAt 0 (by simp)
  have cz1 := hz.cellAt 1 (by simp)
  have hk : (a :: b :: ds).length ≤ kap := by
    rcases hz.2 with ⟨hv, _⟩ | ⟨g', c', cur, hv, _, _, hl, _⟩
    · simp at hv
    · injection hv with e1 e2 e3; omega
  simp [valsZ] at cz0 cz1 hk
  obtain ⟨sl2, cap2, rfl, hpr⟩ := own_pr h
  have H := Lib.hid h
  have TR := Lib.hid TR0
  clear TR0
  have HT := Lib.hid hT
  have hg : g < w.heap.size := by
    rcases hz.2 with ⟨hv, _⟩ | ⟨g', c', cur, hv, _, hgb, _⟩
    · simp at hv
    · injection hv with e1; injection e1 with e1; injection e1 with e1; subst e1; exact (Array.getElem?_eq_some_iff.1 hgb).1
  obtain ⟨sl, cap, hv1, -⟩ := own_st h
  subst hv1
  clear h hT hz hpr
  have hn2 : ¬ ((ds.length + 2 : Nat) : Int) < 2 := by omega
  have B0 := Lib.hid (bA (bA0 w (.cells #[.slice sl rs.length cap, .slice sl2 0 cap2] 25)) (.cells #[.slice none 0 0, .slice none 0 0] 25))
  have N0 := Lib.hid (new_at w (.cells #[.slice sl rs.length cap, .slice sl2 0 cap2] 25))
  go_enter Tryd.func24, Tryd.ntmps24
  go_wp2_with fail
  have M0 : Hid (((w.alloc (.cells #[.slice sl rs.length cap, .slice sl2 0 cap2] 25)).alloc (.cells #[.slice none 0 0, .slice none 0 0] 25)).heap[w.heap.size]? = some (.cells #[.slice sl rs.length cap, .slice sl2 0 cap2] 25)) := ((bA0 (w.alloc (.cells #[.slice sl rs.length cap, .slice sl2 0 cap2] 25)) (.cells #[.slice none 0 0, .slice none 0 0] 25)).block w.heap.size (by simp)).trans N0.out
  have M1 : Hid (((w.alloc (.cells #[.slice sl rs.length cap, .slice sl2 0 cap2] 25)).alloc (.cells #[.slice none 0 0, .slice none 0 0] 25)).heap[w.heap.size + 1]? = some (.cells #[.slice none 0 0, .slice none 0 0] 25)) := by
    have := new_at (w.alloc (.cells #[.slice sl rs.length cap, .slice sl2 0 cap2] 25)) (.cells #[.slice none 0 0, .slice none 0 0] 25)
    have hs1 : (w.alloc (.cells #[.slice sl rs.length cap, .slice sl2 0 cap2] 25)).heap.size = w.heap.size + 1 := by simp
    rw [hs1] at this
    exact this
  have hsz : ((w.alloc (.cells #[.slice sl rs.length cap, .slice sl2 0 cap2] 25)).alloc (.cells #[.slice none 0 0, .slice none 0 0] 25)).heap.size = w.heap.size + 1 + 1 := by simp
  have H0 := Lib.hid (H.out.below B0.out)
  have T0 := Lib.hid (HT.out.below B0.out)
  have KB : Hid (∀ W, Below ((w.alloc (.cells #[.slice sl rs.length cap, .slice sl2 0 cap2] 25)).alloc (.cells #[.slice none 0 0, .slice none 0 0] 25)).heap.size ((w.alloc (.cells #[.slice sl rs.length cap, .slice sl2 0 cap2] 25)).alloc (.cells #[.slice none 0 0, .slice none 0 0] 25)) W → W.cell? ⟨g, 0, none⟩ = some (.int .i64 a) ∧ W.cell? ⟨g, 1, none⟩ = some (.int .i64 b)) := fun W hW => ⟨((bT B0.out hW).cell hg).trans cz0, ((bT B0.out hW).cell hg).trans cz1⟩
  generalize (w.alloc (.cells #[.slice sl rs.length cap, .slice sl2 0 cap2] 25)).alloc (.cells #[.slice none 0 0, .slice none 0 0] 25) = w0 at *
  clear N0 H HT
  have hF0 : ((0 : Int) < (ds.length : Int) + 2) = True := by simp only [eq_iff_iff, iff_true]; omega
  have hF1 : ((1 : Int) < (ds.length : Int) + 2) = True := by simp only [eq_iff_iff, iff_true]; omega
  have hF2 : (2 : Int) ≤ (ds.length : Int) + 2 := by omega
  have hF3 : (ds.length : Int) + 2 ≤ (kap : Int) := by omega
  have hF4 : ds.length + 2 ≤ kap := by omega
  refine wp_region_held_drew (S := fun W => W.cell? ⟨g, 0, none⟩ = some (.int .i64 a) ∧ W.cell? ⟨g, 1, none⟩ = some (.int .i64 b)) (by kernel_rfl) ?_ (fun hHeld => ?_)
  · exact KB.out _ (Below.refl _ _).drew
  refine wpAnyH_take (i := 0) (oi := _) (v := ?_) rfl (by kernel_rfl) (by kernel_rfl) (by kernel_rfl) (fun _ _ _ h => h) (Or.inl ⟨by rfl, ?_⟩) (by assumption) ?_
  rotate_left
  · first | (intro w hSw; (try dsimp only at hSw); go_simp; done) | (intro w hSw; (try dsimp only at hSw); go_simp; with_reducible rfl)
  try simp only [Act.put, List.setIfInBounds_toArray, List.set_cons_zero, List.set_cons_succ, List.getElem_toArray, List.getElem_cons_zero]
  refine wpAnyH_take (i := 1) (oi := _) (v := ?_) rfl (by kernel_rfl) (by kernel_rfl) (by kernel_rfl) (fun _ _ _ h => h) (Or.inl ⟨by rfl, ?_⟩) (by assumption) ?_
  rotate_left
  · first | (intro w hSw; (try dsimp only at hSw); go_simp; done) | (intro w hSw; (try dsimp only at hSw); go_simp; with_reducible rfl)
  try simp only [Act.put, List.setIfInBounds_toArray, List.set_cons_zero, List.set_cons_succ, List.getElem_toArray, List.getElem_cons_succ, List.getElem_cons_zero]
  refine wpAnyH_take (i := 2) (oi := _) (v := ?_) rfl (by kernel_rfl) (by kernel_rfl) (by kernel_rfl) (fun _ _ _ h => h) (Or.inl ⟨by rfl, ?_⟩) (by assumption) ?_
  rotate_left
  · first | (intro w hSw; (try dsimp only at hSw); go_simp; done) | (intro w hSw; (try dsimp only at hSw); go_simp; with_reducible rfl)
  try simp only [Act.put, List.setIfInBounds_toArray, List.set_cons_zero, List.set_cons_succ, List.getElem_toArray, List.getElem_cons_succ, List.getElem_cons_zero]
  refine wpAnyH_take (i := 3) (oi := _) (v := ?_) rfl (by kernel_rfl) (by kernel_rfl) (by kernel_rfl) (fun _ _ _ h => h) (Or.inl ⟨by rfl, ?_⟩) (by assumption) ?_
  rotate_left
  · first | (intro w hSw; (try dsimp only at hSw); go_simp; done) | (intro w hSw; (try dsimp only at hSw); go_simp; with_reducible rfl)
  try simp only [Act.put, List.setIfInBounds_toArray, List.set_cons_zero, List.set_cons_succ, List.getElem_toArray, List.getElem_cons_succ, List.getElem_cons_zero]
  refine wpAnyH_take (i := 4) (oi := _) (v := ?_) rfl (by kernel_rfl) (by kernel_rfl) (by kernel_rfl) (fun _ _ _ h => h) (Or.inl ⟨by rfl, ?_⟩) (by assumption) ?_
  rotate_left
  · first | (intro w hSw; (try dsimp only at hSw); go_simp; done) | (intro w hSw; (try dsimp only at hSw); go_simp; with_reducible rfl)
  try simp only [Act.put, List.setIfInBounds_toArray, List.set_cons_zero, List.set_cons_succ, List.getElem_toArray, List.getElem_cons_succ, List.getElem_cons_zero]
  refine wpAnyH_take (i := 5) (oi := _) (v := ?_) rfl (by kernel_rfl) (by kernel_rfl) (by kernel_rfl) (fun _ _ _ h => h) (Or.inl ⟨by rfl, ?_⟩) (by assumption) ?_
  rotate_left
  · first | (intro w hSw; (try dsimp only at hSw); go_simp; done) | (intro w hSw; (try dsimp only at hSw); go_simp; with_reducible rfl)
  try simp only [Act.put, List.setIfInBounds_toArray, List.set_cons_zero, List.set_cons_succ, List.getElem_toArray, List.getElem_cons_succ, List.getElem_cons_zero]
  refine wpAnyH_take (i := 6) (oi := _) (v := ?_) rfl (by kernel_rfl) (by kernel_rfl) (by kernel_rfl) (fun _ _ _ h => h) (Or.inl ⟨by rfl, ?_⟩) (by assumption) ?_
  rotate_left
  · first | (intro w hSw; (try dsimp only at hSw); go_simp; done) | (intro w hSw; (try dsimp only at hSw); go_simp; with_reducible rfl)
  try simp only [Act.put, List.setIfInBounds_toArray, List.set_cons_zero, List.set_cons_succ, List.getElem_toArray, List.getElem_cons_succ, List.getElem_cons_zero]
  refine wpAnyH_take (i := 7) (oi := _) (v := ?_) rfl (by kernel_rfl) (by kernel_rfl) (by kernel_rfl) (fun _ _ _ h => h) (Or.inl ⟨by rfl, ?_⟩) (by assumption) ?_
  rotate_left
  · first | (intro w hSw; (try dsimp only at hSw); go_simp; done) | (intro w hSw; (try dsimp only at hSw); go_simp; with_reducible rfl)
  try simp only [Act.put, List.setIfInBounds_toArray, List.set_cons_zero, List.set_cons_succ, List.getElem_toArray, List.getElem_cons_succ, List.getElem_cons_zero]
  refine wpAnyH_take (i := 8) (oi := _) (v := ?_) rfl (by kernel_rfl) (by kernel_rfl) (by kernel_rfl) (fun _ _ _ h => h) (Or.inl ⟨by rfl, ?_⟩) (by assumption) ?_
  rotate_left
  · first | (intro w hSw; (try dsimp only at hSw); go_simp; done) | (intro w hSw; (try dsimp only at hSw); go_simp; with_reducible rfl)
  try simp only [Act.put, List.setIfInBounds_toArray, List.set_cons_zero, List.set_cons_succ, List.getElem_toArray, List.getElem_cons_succ, List.getElem_cons_zero]
  refine wpAnyH_ready (rs := [9]) (by kernel_rfl) (by simp) ?_
  refine AllReadyH.cons rfl (fun K hK => ?_) AllReadyH.nil
  go_simp
  go_wp2
  refine hK.out _ _ ?_ (fun hHeld => ?_)
  · exact KB.out _ (bA (Below.refl _ _).drew _)
  clear hK K
  refine wpAnyH_ready (rs := [10]) (by kernel_rfl) (by simp) ?_
  refine AllReadyH.cons rfl (fun K hK => ?_) AllReadyH.nil
  go_simp
  go_wp2
  refine hK.out _ _ ?_ (fun hHeld => ?_)
  · exact KB.out _ (bA (Below.refl _ _).drew _)
  clear hK K
  refine wpAnyH_done (by kernel_rfl) ?_ _
  rename_i hh1 hh2
  clear hh1 hh2
  have bW := (bA0 w0 (.cells #[.int .i64 a, .int .i64 b, .slice (some ⟨g, 2, none⟩) ds.length (kap - 2)] 43)).drew
  have S1 : Hid (((w0.alloc (.cells #[.int .i64 a, .int .i64 b, .slice (some ⟨g, 2, none⟩) ds.length (kap - 2)] 43)).drew).heap[w.heap.size + 1 + 1]? = some (.cells #[.int .i64 a, .int .i64 b, .slice (some ⟨g, 2, none⟩) ds.length (kap - 2)] 43)) := by
    have := new_at w0 (.cells #[.int .i64 a, .int .i64 b, .slice (some ⟨g, 2, none⟩) ds.length (kap - 2)] 43)
    rw [hsz] at this
    exact this
  have hs1 : ((w0.alloc (.cells #[.int .i64 a, .int .i64 b, .slice (some ⟨g, 2, none⟩) ds.length (kap - 2)] 43)).drew).heap.size = w.heap.size + 1 + 1 + 1 := by
    show (w0.alloc _).heap.size = _
    simp [hsz]
  have BB := Lib.hid (bT B0.out bW)
  have H1 := Lib.hid (H0.out.below bW)
  have T1 := Lib.hid (T0.out.below bW)
  have M01 := Lib.hid ((bW.block w.heap.size (by omega)).trans M0.out)
  have M11 := Lib.hid ((bW.block (w.heap.size + 1) (by omega)).trans M1.out)
  generalize (w0.alloc (.cells #[.int .i64 a, .int .i64 b, .slice (some ⟨g, 2, none⟩) ds.length (kap - 2)] 43)).drew = w1 at *
  clear bW H0 T0 M0 M1 B0 KB hsz hHeld
  have NB0 := own_diffB H1.out.r1 M01.out (by decide)
  have NB1 := own_diffB H1.out.r1 M11.out (by decide)
  have c0 := cellsAt M01.out
  have c1 := cellsAt M11.out
  have c2 := cellsAt S1.out
  have hd2 : w.heap.size + 1 + 1 ≠ w.heap.size := by omega
  have hcn := Lib.hid (cell_three_new w1 (.int .i64 a) (.int .i64 b) (.slice (some ⟨g, 2, none⟩) ds.length (kap - 2)) 43)
  rw [hs1] at hcn
  go_wp2_with (at_builtin; refine wpList_append_lies _ rfl _ _ 22 rfl C 43 i0 _ 3 40 Tryd.underlying22 hi0 hz0 hz1 hz2 rfl (by decide) (.slice sl rs.length cap) rs.length (stC rs) rfl (H1.out.r1.alloc _) ⟨w.heap.size + 1 + 1 + 1, 0, none⟩ 1 1 [.int .i64 a, .int .i64 b, .slice (some ⟨g, 2, none⟩) ds.length (kap - 2)] rfl rfl hcn.out (by simp [Value.oneCell']) (by decide) (by unfold maxLen; omega) (by omega) (by have := BB.out.size; simp; omega) _ rfl ?_; intro g9 cap9 w9 own9 grow9 hg9 hlt9; have M9 := Lib.hid ((grow9.block w.heap.size (by simp; omega) (fun e => NB0 e.symm)).trans (((bA0 w1 _).block w.heap.size (by omega)).trans M01.out)); have M91 := Lib.hid ((grow9.block (w.heap.size + 1) (by simp; omega) (fun e => NB1 e.symm)).trans (((bA0 w1 _).block (w.heap.size + 1) (by omega)).trans M11.out)); have c9 := cellsAt M9.out; have B9 := Lib.hid (((bA BB.out _).mono hB).grown grow9 (by have := BB.out.size; simp; omega) (fun k hk => (World.ownsRow.lt H1.out.r1 k hk).1)); have K9 : Hid (Keep2 (.slice sl rs.length cap) (.slice sl2 0 cap2) w w9) := fun k hk h1 h2 => (grow9.block k (by have := BB.out.size; simp; omega) (fun e => h1 e.symm)).trans ((bA BB.out _).block k hk); have C9 := Lib.hid ((H1.out.below (bA0 w1 _)).addS (r := (a, b, .slice (some ⟨g, 2, none⟩) ds.length (kap - 2), ds)) (T1.out.below (bA0 w1 _)) hf grow9 own9); have G9 := grow9.size; rw [World.size_alloc, hs1] at G9; have HG9 := Lib.hid G9; clear own9 grow9 hg9 hlt9 M01 M11 T1 H1 BB c0 c1 c2 hcn S1 NB0 NB1 G9)
  have M10 := Lib.hid (heap_setCell_same w9 w.heap.size 0 _ 25 (.slice (some ⟨g9, 0, none⟩) (rs.length + 1) cap9) M9.out)
  have M101 := Lib.hid ((Below.heap_setCell w9 ⟨w.heap.size, 0, none⟩ (.slice (some ⟨g9, 0, none⟩) (rs.length + 1) cap9) (w.heap.size + 1) (by simp)).trans M91.out)
  have C10 := Lib.hid (C9.out.keptB M9.out (grown_set w9 w.heap.size 0 (.slice (some ⟨g9, 0, none⟩) (rs.length + 1) cap9)))
  have B10 := Lib.hid (B9.out.grown (grown_set w9 w.heap.size 0 (.slice (some ⟨g9, 0, none⟩) (rs.length + 1) cap9)) (by have := B9.out.size; omega) (fun k hk => by cases hk; exact hB))
  have K10 : Hid (Keep2 (.slice sl rs.length cap) (.slice sl2 0 cap2) w (w9.setCell ⟨w.heap.size, 0, none⟩ (.slice (some ⟨g9, 0, none⟩) (rs.length + 1) cap9))) := fun k hk h1 h2 => (Below.heap_setCell w9 ⟨w.heap.size, 0, none⟩ (.slice (some ⟨g9, 0, none⟩) (rs.length + 1) cap9) k (by show k ≠ w.heap.size; omega)).trans (K9.out k hk h1 h2)
  have hs10 : (w9.setCell ⟨w.heap.size, 0, none⟩ (.slice (some ⟨g9, 0, none⟩) (rs.length + 1) cap9)).heap.size = w9.heap.size := by simp [World.setCell]
  generalize w9.setCell ⟨w.heap.size, 0, none⟩ (.slice (some ⟨g9, 0, none⟩) (rs.length + 1) cap9) = w10 at *
  have hl1 : w.heap.size + 1 < w10.heap.size := by have := HG9.out; omega
  have hl0 : w.heap.size < w10.heap.size := by omega
  clear K9 M9 M91 C9 B9 hs10 c9 HG9
  have e10 : w10.cell? ⟨w.heap.size, 0, none⟩ = some (.slice (some ⟨g9, 0, none⟩) (rs.length + 1) cap9) := by rw [(cellsAt M10.out).1]; rfl
  have e11 : w10.cell? ⟨w.heap.size, 1, none⟩ = some (.slice sl2 0 cap2) := by rw [(cellsAt M10.out).1]; rfl
  have TC : Hid (∀ W, Below w10.heap.size w10 W → Calls Tryd.prog 38 #[.agg #[.slice (some ⟨g9, 0, none⟩) (rs.length + 1) cap9, .slice sl2 0 cap2]] W fun e w' => e = .returned (.bool (B (TabR (rs ++ [(a, b, .slice (some ⟨g, 2, none⟩) ds.length (kap - 2), ds)]) []))) ∧ Below W.heap.size W w') := fun W hW => by
    have hC := C10.out.below hW
    obtain ⟨s1, k1, ev, hst⟩ := own_st hC
    obtain ⟨s2, k2, ev2, hpr⟩ := own_pr hC
    have := TR.out s1 k1 s2 k2 _ _ W hst hpr (fun p hp => by cases hp)
    change Value.slice sl2 0 cap2 = Value.slice s2 0 k2 at ev2
    rw [ev, ev2]
    exact this
  refine wp_region_held_drew (S := fun W => W.cell? ⟨w.heap.size, 0, none⟩ = some (.slice (some ⟨g9, 0, none⟩) (rs.length + 1) cap9) ∧ W.cell? ⟨w.heap.size, 1, none⟩ = some (.slice sl2 0 cap2)) (by kernel_rfl) ?_ (fun hHeld => ?_)
  · exact ⟨((Below.refl w10.heap.size w10).drew.cell hl0).trans e10, ((Below.refl w10.heap.size w10).drew.cell hl0).trans e11⟩
  refine wpAnyH_take (i := 0) (oi := _) (v := ?_) rfl (by kernel_rfl) (by kernel_rfl) (by kernel_rfl) (fun _ _ _ h => h) (Or.inl ⟨by rfl, ?_⟩) (by assumption) ?_
  rotate_left
  · first | (intro w hSw; (try dsimp only at hSw); go_simp; done) | (intro w hSw; (try dsimp only at hSw); go_simp; with_reducible rfl)
  try simp only [Act.put, List.setIfInBounds_toArray, List.set_cons_zero, List.set_cons_succ, List.getElem_toArray, List.getElem_cons_zero]
  refine wpAnyH_take (i := 1) (oi := _) (v := ?_) rfl (by kernel_rfl) (by kernel_rfl) (by kernel_rfl) (fun _ _ _ h => h) (Or.inl ⟨by rfl, ?_⟩) (by assumption) ?_
  rotate_left
  · first | (intro w hSw; (try dsimp only at hSw); go_simp; done) | (intro w hSw; (try dsimp only at hSw); go_simp; with_reducible rfl)
  try simp only [Act.put, List.setIfInBounds_toArray, List.set_cons_zero, List.set_cons_succ, List.getElem_toArray, List.getElem_cons_succ, List.getElem_cons_zero]
  refine wpAnyH_ready (rs := [2]) (by kernel_rfl) (by simp) ?_
  refine AllReadyH.cons rfl (fun K hK => ?_) AllReadyH.nil
  go_simp
  go_wp2_with (go_at_call 38; refine (TC.out _ ((Below.refl _ _).drew)).mono ?_; rintro e w11 ⟨rfl, b11⟩; have B11 := Lib.hid (((Below.refl w10.heap.size w10).drew).trans b11); have c11 := cellsAt ((B11.out.block (w.heap.size + 1) (by omega)).trans M101.out); clear b11)
  refine hK.out _ _ ?_ (fun hHeld => ?_)
  · exact ⟨(B11.out.cell hl0).trans e10, (B11.out.cell hl0).trans e11⟩
  clear hK K
  refine wpAnyH_ready (rs := [3]) (by kernel_rfl) (by simp) ?_
  refine AllReadyH.cons rfl (fun K hK => ?_) AllReadyH.nil
  go_simp
  go_wp2
  refine hK.out _ _ ?_ (fun hHeld => ?_)
  · exact ⟨(set2_cell _ _ _ _ _ _ (by omega)).trans ((B11.out.cell hl0).trans e10), (set2_cell _ _ _ _ _ _ (by omega)).trans ((B11.out.cell hl0).trans e11)⟩
  clear hK K
  refine wpAnyH_take (i := 4) (oi := _) (v := ?_) rfl (by kernel_rfl) (by kernel_rfl) (by kernel_rfl) (fun _ _ _ h => h) (Or.inl ⟨by rfl, ?_⟩) (by assumption) ?_
  rotate_left
  · first | (intro w hSw; (try dsimp only at hSw); go_simp; done) | (intro w hSw; (try dsimp only at hSw); go_simp; with_reducible rfl)
  try simp only [Act.put, List.setIfInBounds_toArray, List.set_cons_zero, List.set_cons_succ, List.getElem_toArray, List.getElem_cons_succ, List.getElem_cons_zero]
  refine wpAnyH_done (by kernel_rfl) ?_ _
  have M110 := (B11.out.block (w.heap.size + 1) (by omega)).trans M101.out
  have M12a := heap_setCell_same w11 (w.heap.size + 1) 0 _ 25 (.slice (some ⟨g9, 0, none⟩) (rs.length + 1) cap9) M110
  have M12 := heap_setCell_same _ (w.heap.size + 1) 1 _ 25 (.slice sl2 0 cap2) M12a
  have C12 := Lib.hid (((C10.out.below B11.out).keptB M110 (grown_set w11 (w.heap.size + 1) 0 _)).keptB M12a (grown_set _ (w.heap.size + 1) 1 (.slice sl2 0 cap2)))
  have K12 : Hid (Keep2 (.slice sl rs.length cap) (.slice sl2 0 cap2) w ((w11.setCell ⟨w.heap.size + 1, 0, none⟩ (.slice (some ⟨g9, 0, none⟩) (rs.length + 1) cap9)).setCell ⟨w.heap.size + 1, 1, none⟩ (.slice sl2 0 cap2))) := fun k hk h1 h2 => ((Below.heap_setCell _ _ _ k (by show k ≠ w.heap.size + 1; omega)).trans (Below.heap_setCell _ _ _ k (by show k ≠ w.heap.size + 1; omega))).trans ((B11.out.block k (by omega)).trans (K10.out k hk h1 h2))
  have B12 := Lib.hid (((B10.out.trans (B11.out.mono (by have := B10.out.size; omega))).setCell (p := ⟨w.heap.size + 1, 0, none⟩) (by show C ≤ w.heap.size + 1; omega) (.slice (some ⟨g9, 0, none⟩) (rs.length + 1) cap9)).setCell (p := ⟨w.heap.size + 1, 1, none⟩) (by show C ≤ w.heap.size + 1; omega) (.slice sl2 0 cap2))
  rename_i hh3 hh4
  clear hHeld hh3 hh4 M110 M12a
  generalize (w11.setCell ⟨w.heap.size + 1, 0, none⟩ (.slice (some ⟨g9, 0, none⟩) (rs.length + 1) cap9)).setCell ⟨w.heap.size + 1, 1, none⟩ (.slice sl2 0 cap2) = w12 at *
  have r0 : w12.cell? ⟨w.heap.size + 1, 0, none⟩ = some (.slice (some ⟨g9, 0, none⟩) (rs.length + 1) cap9) := by rw [(cellsAt M12).1]; rfl
  have r1 : w12.cell? ⟨w.heap.size + 1, 1, none⟩ = some (.slice sl2 0 cap2) := by rw [(cellsAt M12).1]; rfl
  clear M12
  go_wp2
  exact bodyPost_ret (v := .tuple #[.agg #[.slice (some ⟨g9, 0, none⟩) (rs.length + 1) cap9, .slice sl2 0 cap2], .bool (B (TabR (rs ++ [(a, b, .slice (some ⟨g, 2, none⟩) ds.length (kap - 2), ds)]) []))]) (by simp [results, Tryd.results24, go_sem, r0, r1]) rfl ⟨_, _, rfl, C12.out, B12.out, K12.out⟩
set_option maxRecDepth 100000 in
set_option maxHeartbeats 4000000 in
/-- A station's line of two numbers, its row of no more. -/
theorem wn_sta0 (C : Nat) (v1 v2 : Value) (rs : List LSt) (a b : Int) (g : Nat) (w : World) (h : OwT w C v1 v2 rs []) (hB : C ≤ w.heap.size) (hr : rs.length ≤ 100000)
    (hz : w.ownsRow C 2 1 (.slice (some ⟨g, 0, none⟩) 2 2) 2 (valsZ [a, b])) (hf : ∀ s ∈ rs, domB s ≠ some g) (TR0 : TR38) :
    Calls Tryd.prog 24 #[.agg #[v1, v2], .int .i64 3, .slice (some ⟨g, 0, none⟩) 2 2] w fun e w' => WnPost C v1 v2 w (B (TabR (rs ++ [(a, b, .slice (some ⟨g, 0, none⟩) 0 0, [])]) [])) (rs ++ [(a, b, .slice (some ⟨g, 0, none⟩) 0 0, [])]) [] e w' := by
  obtain ⟨i0, hi0, hz0, hz1, hz2⟩ := info_parts infoSt
  have hT : TailOf w C (a, b, .slice (some ⟨g, 0, none⟩) 0 0, []) := ⟨g, 0, 0, 2, [a, b], rfl, .inl rfl, by simp, by simp, rfl, hz⟩
  have cz0 := hz.cellAt 0 (by simp)
  have cz1 := hz.cellAt 1 (by simp)
  simp [valsZ] at cz0 cz1
  obtain ⟨sl2, cap2, rfl, hpr⟩ := own_pr h
  have H := Lib.hid h
  have TR := Lib.hid TR0
  clear TR0
  have HT := Lib.hid hT
  have hg : g < w.heap.size := by
    rcases hz.2 with ⟨hv, _⟩ | ⟨g', c', cur, hv, _, hgb, _⟩
    · simp at hv
    · injection hv with e1; injection e1 with e1; injection e1 with e1; subst e1; exact (Array.getElem?_eq_some_iff.1 hgb).1
  obtain ⟨sl, cap, hv1, -⟩ := own_st h
  subst hv1
  clear h hT hz hpr
  have B0 := Lib.hid (bA (bA0 w (.cells #[.slice sl rs.length cap, .slice sl2 0 cap2] 25)) (.cells #[.slice none 0 0, .slice none 0 0] 25))
  have N0 := Lib.hid (new_at w (.cells #[.slice sl rs.length cap, .slice sl2 0 cap2] 25))
  go_enter Tryd.func24, Tryd.ntmps24
  go_wp2_with fail
  have M0 : Hid (((w.alloc (.cells #[.slice sl rs.length cap, .slice sl2 0 cap2] 25)).alloc (.cells #[.slice none 0 0, .slice none 0 0] 25)).heap[w.heap.size]? = some (.cells #[.slice sl rs.length cap, .slice sl2 0 cap2] 25)) := ((bA0 (w.alloc (.cells #[.slice sl rs.length cap, .slice sl2 0 cap2] 25)) (.cells #[.slice none 0 0, .slice none 0 0] 25)).block w.heap.size (by simp)).trans N0.out
  have M1 : Hid (((w.alloc (.cells #[.slice sl rs.length cap, .slice sl2 0 cap2] 25)).alloc (.cells #[.slice none 0 0, .slice none 0 0] 25)).heap[w.heap.size + 1]? = some (.cells #[.slice none 0 0, .slice none 0 0] 25)) := by
    have := new_at (w.alloc (.cells #[.slice sl rs.length cap, .slice sl2 0 cap2] 25)) (.cells #[.slice none 0 0, .slice none 0 0] 25)
    have hs1 : (w.alloc (.cells #[.slice sl rs.length cap, .slice sl2 0 cap2] 25)).heap.size = w.heap.size + 1 := by simp
    rw [hs1] at this
    exact this
  have hsz : ((w.alloc (.cells #[.slice sl rs.length cap, .slice sl2 0 cap2] 25)).alloc (.cells #[.slice none 0 0, .slice none 0 0] 25)).heap.size = w.heap.size + 1 + 1 := by simp
  have H0 := Lib.hid (H.out.below B0.out)
  have T0 := Lib.hid (HT.out.below B0.out)
  have KB : Hid (∀ W, Below ((w.alloc (.cells #[.slice sl rs.length cap, .slice sl2 0 cap2] 25)).alloc (.cells #[.slice none 0 0, .slice none 0 0] 25)).heap.size ((w.alloc (.cells #[.slice sl rs.length cap, .slice sl2 0 cap2] 25)).alloc (.cells #[.slice none 0 0, .slice none 0 0] 25)) W → W.cell? ⟨g, 0, none⟩ = some (.int .i64 a) ∧ W.cell? ⟨g, 1, none⟩ = some (.int .i64 b)) := fun W hW => ⟨((bT B0.out hW).cell hg).trans cz0, ((bT B0.out hW).cell hg).trans cz1⟩
  generalize (w.alloc (.cells #[.slice sl rs.length cap, .slice sl2 0 cap2] 25)).alloc (.cells #[.slice none 0 0, .slice none 0 0] 25) = w0 at *
  clear N0 H HT
  refine wp_region_held_drew (S := fun W => W.cell? ⟨g, 0, none⟩ = some (.int .i64 a) ∧ W.cell? ⟨g, 1, none⟩ = some (.int .i64 b)) (by kernel_rfl) ?_ (fun hHeld => ?_)
  · exact KB.out _ (Below.refl _ _).drew
  refine wpAnyH_take (i := 0) (oi := _) (v := ?_) rfl (by kernel_rfl) (by kernel_rfl) (by kernel_rfl) (fun _ _ _ h => h) (Or.inl ⟨by rfl, ?_⟩) (by assumption) ?_
  rotate_left
  · first | (intro w hSw; (try dsimp only at hSw); go_simp; done) | (intro w hSw; (try dsimp only at hSw); go_simp; with_reducible rfl)
  try simp only [Act.put, List.setIfInBounds_toArray, List.set_cons_zero, List.set_cons_succ, List.getElem_toArray, List.getElem_cons_zero]
  refine wpAnyH_take (i := 1) (oi := _) (v := ?_) rfl (by kernel_rfl) (by kernel_rfl) (by kernel_rfl) (fun _ _ _ h => h) (Or.inl ⟨by rfl, ?_⟩) (by assumption) ?_
  rotate_left
  · first | (intro w hSw; (try dsimp only at hSw); go_simp; done) | (intro w hSw; (try dsimp only at hSw); go_simp; with_reducible rfl)
  try simp only [Act.put, List.setIfInBounds_toArray, List.set_cons_zero, List.set_cons_succ, List.getElem_toArray, List.getElem_cons_succ, List.getElem_cons_zero]
  refine wpAnyH_take (i := 2) (oi := _) (v := ?_) rfl (by kernel_rfl) (by kernel_rfl) (by kernel_rfl) (fun _ _ _ h => h) (Or.inl ⟨by rfl, ?_⟩) (by assumption) ?_
  rotate_left
  · first | (intro w hSw; (try dsimp only at hSw); go_simp; done) | (intro w hSw; (try dsimp only at hSw); go_simp; with_reducible rfl)
  try simp only [Act.put, List.setIfInBounds_toArray, List.set_cons_zero, List.set_cons_succ, List.getElem_toArray, List.getElem_cons_succ, List.getElem_cons_zero]
  refine wpAnyH_take (i := 3) (oi := _) (v := ?_) rfl (by kernel_rfl) (by kernel_rfl) (by kernel_rfl) (fun _ _ _ h => h) (Or.inl ⟨by rfl, ?_⟩) (by assumption) ?_
  rotate_left
  · first | (intro w hSw; (try dsimp only at hSw); go_simp; done) | (intro w hSw; (try dsimp only at hSw); go_simp; with_reducible rfl)
  try simp only [Act.put, List.setIfInBounds_toArray, List.set_cons_zero, List.set_cons_succ, List.getElem_toArray, List.getElem_cons_succ, List.getElem_cons_zero]
  refine wpAnyH_take (i := 4) (oi := _) (v := ?_) rfl (by kernel_rfl) (by kernel_rfl) (by kernel_rfl) (fun _ _ _ h => h) (Or.inl ⟨by rfl, ?_⟩) (by assumption) ?_
  rotate_left
  · first | (intro w hSw; (try dsimp only at hSw); go_simp; done) | (intro w hSw; (try dsimp only at hSw); go_simp; with_reducible rfl)
  try simp only [Act.put, List.setIfInBounds_toArray, List.set_cons_zero, List.set_cons_succ, List.getElem_toArray, List.getElem_cons_succ, List.getElem_cons_zero]
  refine wpAnyH_take (i := 5) (oi := _) (v := ?_) rfl (by kernel_rfl) (by kernel_rfl) (by kernel_rfl) (fun _ _ _ h => h) (Or.inl ⟨by rfl, ?_⟩) (by assumption) ?_
  rotate_left
  · first | (intro w hSw; (try dsimp only at hSw); go_simp; done) | (intro w hSw; (try dsimp only at hSw); go_simp; with_reducible rfl)
  try simp only [Act.put, List.setIfInBounds_toArray, List.set_cons_zero, List.set_cons_succ, List.getElem_toArray, List.getElem_cons_succ, List.getElem_cons_zero]
  refine wpAnyH_take (i := 6) (oi := _) (v := ?_) rfl (by kernel_rfl) (by kernel_rfl) (by kernel_rfl) (fun _ _ _ h => h) (Or.inl ⟨by rfl, ?_⟩) (by assumption) ?_
  rotate_left
  · first | (intro w hSw; (try dsimp only at hSw); go_simp; done) | (intro w hSw; (try dsimp only at hSw); go_simp; with_reducible rfl)
  try simp only [Act.put, List.setIfInBounds_toArray, List.set_cons_zero, List.set_cons_succ, List.getElem_toArray, List.getElem_cons_succ, List.getElem_cons_zero]
  refine wpAnyH_take (i := 7) (oi := _) (v := ?_) rfl (by kernel_rfl) (by kernel_rfl) (by kernel_rfl) (fun _ _ _ h => h) (Or.inl ⟨by rfl, ?_⟩) (by assumption) ?_
  rotate_left
  · first | (intro w hSw; (try dsimp only at hSw); go_simp; done) | (intro w hSw; (try dsimp only at hSw); go_simp; with_reducible rfl)
  try simp only [Act.put, List.setIfInBounds_toArray, List.set_cons_zero, List.set_cons_succ, List.getElem_toArray, List.getElem_cons_succ, List.getElem_cons_zero]
  refine wpAnyH_take (i := 8) (oi := _) (v := ?_) rfl (by kernel_rfl) (by kernel_rfl) (by kernel_rfl) (fun _ _ _ h => h) (Or.inl ⟨by rfl, ?_⟩) (by assumption) ?_
  rotate_left
  · first | (intro w hSw; (try dsimp only at hSw); go_simp; done) | (intro w hSw; (try dsimp only at hSw); go_simp; with_reducible rfl)
  try simp only [Act.put, List.setIfInBounds_toArray, List.set_cons_zero, List.set_cons_succ, List.getElem_toArray, List.getElem_cons_succ, List.getElem_cons_zero]
  refine wpAnyH_ready (rs := [9]) (by kernel_rfl) (by simp) ?_
  refine AllReadyH.cons rfl (fun K hK => ?_) AllReadyH.nil
  go_simp
  go_wp2
  refine hK.out _ _ ?_ (fun hHeld => ?_)
  · exact KB.out _ (bA (Below.refl _ _).drew _)
  clear hK K
  refine wpAnyH_ready (rs := [10]) (by kernel_rfl) (by simp) ?_
  refine AllReadyH.cons rfl (fun K hK => ?_) AllReadyH.nil
  go_simp
  go_wp2
  refine hK.out _ _ ?_ (fun hHeld => ?_)
  · exact KB.out _ (bA (Below.refl _ _).drew _)
  clear hK K
  refine wpAnyH_done (by kernel_rfl) ?_ _
  rename_i hh1 hh2
  clear hh1 hh2
  have bW := (bA0 w0 (.cells #[.int .i64 a, .int .i64 b, .slice (some ⟨g, 0, none⟩) 0 0] 43)).drew
  have S1 : Hid (((w0.alloc (.cells #[.int .i64 a, .int .i64 b, .slice (some ⟨g, 0, none⟩) 0 0] 43)).drew).heap[w.heap.size + 1 + 1]? = some (.cells #[.int .i64 a, .int .i64 b, .slice (some ⟨g, 0, none⟩) 0 0] 43)) := by
    have := new_at w0 (.cells #[.int .i64 a, .int .i64 b, .slice (some ⟨g, 0, none⟩) 0 0] 43)
    rw [hsz] at this
    exact this
  have hs1 : ((w0.alloc (.cells #[.int .i64 a, .int .i64 b, .slice (some ⟨g, 0, none⟩) 0 0] 43)).drew).heap.size = w.heap.size + 1 + 1 + 1 := by
    show (w0.alloc _).heap.size = _
    simp [hsz]
  have BB := Lib.hid (bT B0.out bW)
  have H1 := Lib.hid (H0.out.below bW)
  have T1 := Lib.hid (T0.out.below bW)
  have M01 := Lib.hid ((bW.block w.heap.size (by omega)).trans M0.out)
  have M11 := Lib.hid ((bW.block (w.heap.size + 1) (by omega)).trans M1.out)
  generalize (w0.alloc (.cells #[.int .i64 a, .int .i64 b, .slice (some ⟨g, 0, none⟩) 0 0] 43)).drew = w1 at *
  clear bW H0 T0 M0 M1 B0 KB hsz hHeld
  have NB0 := own_diffB H1.out.r1 M01.out (by decide)
  have NB1 := own_diffB H1.out.r1 M11.out (by decide)
  have c0 := cellsAt M01.out
  have c1 := cellsAt M11.out
  have c2 := cellsAt S1.out
  have hd2 : w.heap.size + 1 + 1 ≠ w.heap.size := by omega
  have hcn := Lib.hid (cell_three_new w1 (.int .i64 a) (.int .i64 b) (.slice (some ⟨g, 0, none⟩) 0 0) 43)
  rw [hs1] at hcn
  go_wp2_with (at_builtin; refine wpList_append_lies _ rfl _ _ 22 rfl C 43 i0 _ 3 40 Tryd.underlying22 hi0 hz0 hz1 hz2 rfl (by decide) (.slice sl rs.length cap) rs.length (stC rs) rfl (H1.out.r1.alloc _) ⟨w.heap.size + 1 + 1 + 1, 0, none⟩ 1 1 [.int .i64 a, .int .i64 b, .slice (some ⟨g, 0, none⟩) 0 0] rfl rfl hcn.out (by simp [Value.oneCell']) (by decide) (by unfold maxLen; omega) (by omega) (by have := BB.out.size; simp; omega) _ rfl ?_; intro g9 cap9 w9 own9 grow9 hg9 hlt9; have M9 := Lib.hid ((grow9.block w.heap.size (by simp; omega) (fun e => NB0 e.symm)).trans (((bA0 w1 _).block w.heap.size (by omega)).trans M01.out)); have M91 := Lib.hid ((grow9.block (w.heap.size + 1) (by simp; omega) (fun e => NB1 e.symm)).trans (((bA0 w1 _).block (w.heap.size + 1) (by omega)).trans M11.out)); have c9 := cellsAt M9.out; have B9 := Lib.hid (((bA BB.out _).mono hB).grown grow9 (by have := BB.out.size; simp; omega) (fun k hk => (World.ownsRow.lt H1.out.r1 k hk).1)); have K9 : Hid (Keep2 (.slice sl rs.length cap) (.slice sl2 0 cap2) w w9) := fun k hk h1 h2 => (grow9.block k (by have := BB.out.size; simp; omega) (fun e => h1 e.symm)).trans ((bA BB.out _).block k hk); have C9 := Lib.hid ((H1.out.below (bA0 w1 _)).addS (r := (a, b, .slice (some ⟨g, 0, none⟩) 0 0, [])) (T1.out.below (bA0 w1 _)) hf grow9 own9); have G9 := grow9.size; rw [World.size_alloc, hs1] at G9; have HG9 := Lib.hid G9; clear own9 grow9 hg9 hlt9 M01 M11 T1 H1 BB c0 c1 c2 hcn S1 NB0 NB1 G9)
  have M10 := Lib.hid (heap_setCell_same w9 w.heap.size 0 _ 25 (.slice (some ⟨g9, 0, none⟩) (rs.length + 1) cap9) M9.out)
  have M101 := Lib.hid ((Below.heap_setCell w9 ⟨w.heap.size, 0, none⟩ (.slice (some ⟨g9, 0, none⟩) (rs.length + 1) cap9) (w.heap.size + 1) (by simp)).trans M91.out)
  have C10 := Lib.hid (C9.out.keptB M9.out (grown_set w9 w.heap.size 0 (.slice (some ⟨g9, 0, none⟩) (rs.length + 1) cap9)))
  have B10 := Lib.hid (B9.out.grown (grown_set w9 w.heap.size 0 (.slice (some ⟨g9, 0, none⟩) (rs.length + 1) cap9)) (by have := B9.out.size; omega) (fun k hk => by cases hk; exact hB))
  have K10 : Hid (Keep2 (.slice sl rs.length cap) (.slice sl2 0 cap2) w (w9.setCell ⟨w.heap.size, 0, none⟩ (.slice (some ⟨g9, 0, none⟩) (rs.length + 1) cap9))) := fun k hk h1 h2 => (Below.heap_setCell w9 ⟨w.heap.size, 0, none⟩ (.slice (some ⟨g9, 0, none⟩) (rs.length + 1) cap9) k (by show k ≠ w.heap.size; omega)).trans (K9.out k hk h1 h2)
  have hs10 : (w9.setCell ⟨w.heap.size, 0, none⟩ (.slice (some ⟨g9, 0, none⟩) (rs.length + 1) cap9)).heap.size = w9.heap.size := by simp [World.setCell]
  generalize w9.setCell ⟨w.heap.size, 0, none⟩ (.slice (some ⟨g9, 0, none⟩) (rs.length + 1) cap9) = w10 at *
  have hl1 : w.heap.size + 1 < w10.heap.size := by have := HG9.out; omega
  have hl0 : w.heap.size < w10.heap.size := by omega
  clear K9 M9 M91 C9 B9 hs10 c9 HG9
  have e10 : w10.cell? ⟨w.heap.size, 0, none⟩ = some (.slice (some ⟨g9, 0, none⟩) (rs.length + 1) cap9) := by rw [(cellsAt M10.out).1]; rfl
  have e11 : w10.cell? ⟨w.heap.size, 1, none⟩ = some (.slice sl2 0 cap2) := by rw [(cellsAt M10.out).1]; rfl
  have TC : Hid (∀ W, Below w10.heap.size w10 W → Calls Tryd.prog 38 #[.agg #[.slice (some ⟨g9, 0, none⟩) (rs.length + 1) cap9, .slice sl2 0 cap2]] W fun e w' => e = .returned (.bool (B (TabR (rs ++ [(a, b, .slice (some ⟨g, 0, none⟩) 0 0, [])]) []))) ∧ Below W.heap.size W w') := fun W hW => by
    have hC := C10.out.below hW
    obtain ⟨s1, k1, ev, hst⟩ := own_st hC
    obtain ⟨s2, k2, ev2, hpr⟩ := own_pr hC
    have := TR.out s1 k1 s2 k2 _ _ W hst hpr (fun p hp => by cases hp)
    change Value.slice sl2 0 cap2 = Value.slice s2 0 k2 at ev2
    rw [ev, ev2]
    exact this
  refine wp_region_held_drew (S := fun W => W.cell? ⟨w.heap.size, 0, none⟩ = some (.slice (some ⟨g9, 0, none⟩) (rs.length + 1) cap9) ∧ W.cell? ⟨w.heap.size, 1, none⟩ = some (.slice sl2 0 cap2)) (by kernel_rfl) ?_ (fun hHeld => ?_)
  · exact ⟨((Below.refl w10.heap.size w10).drew.cell hl0).trans e10, ((Below.refl w10.heap.size w10).drew.cell hl0).trans e11⟩
  refine wpAnyH_take (i := 0) (oi := _) (v := ?_) rfl (by kernel_rfl) (by kernel_rfl) (by kernel_rfl) (fun _ _ _ h => h) (Or.inl ⟨by rfl, ?_⟩) (by assumption) ?_
  rotate_left
  · first | (intro w hSw; (try dsimp only at hSw); go_simp; done) | (intro w hSw; (try dsimp only at hSw); go_simp; with_reducible rfl)
  try simp only [Act.put, List.setIfInBounds_toArray, List.set_cons_zero, List.set_cons_succ, List.getElem_toArray, List.getElem_cons_zero]
  refine wpAnyH_take (i := 1) (oi := _) (v := ?_) rfl (by kernel_rfl) (by kernel_rfl) (by kernel_rfl) (fun _ _ _ h => h) (Or.inl ⟨by rfl, ?_⟩) (by assumption) ?_
  rotate_left
  · first | (intro w hSw; (try dsimp only at hSw); go_simp; done) | (intro w hSw; (try dsimp only at hSw); go_simp; with_reducible rfl)
  try simp only [Act.put, List.setIfInBounds_toArray, List.set_cons_zero, List.set_cons_succ, List.getElem_toArray, List.getElem_cons_succ, List.getElem_cons_zero]
  refine wpAnyH_ready (rs := [2]) (by kernel_rfl) (by simp) ?_
  refine AllReadyH.cons rfl (fun K hK => ?_) AllReadyH.nil
  go_simp
  go_wp2_with (go_at_call 38; refine (TC.out _ ((Below.refl _ _).drew)).mono ?_; rintro e w11 ⟨rfl, b11⟩; have B11 := Lib.hid (((Below.refl w10.heap.size w10).drew).trans b11); have c11 := cellsAt ((B11.out.block (w.heap.size + 1) (by omega)).trans M101.out); clear b11)
  refine hK.out _ _ ?_ (fun hHeld => ?_)
  · exact ⟨(B11.out.cell hl0).trans e10, (B11.out.cell hl0).trans e11⟩
  clear hK K
  refine wpAnyH_ready (rs := [3]) (by kernel_rfl) (by simp) ?_
  refine AllReadyH.cons rfl (fun K hK => ?_) AllReadyH.nil
  go_simp
  go_wp2
  refine hK.out _ _ ?_ (fun hHeld => ?_)
  · exact ⟨(set2_cell _ _ _ _ _ _ (by omega)).trans ((B11.out.cell hl0).trans e10), (set2_cell _ _ _ _ _ _ (by omega)).trans ((B11.out.cell hl0).trans e11)⟩
  clear hK K
  refine wpAnyH_take (i := 4) (oi := _) (v := ?_) rfl (by kernel_rfl) (by kernel_rfl) (by kernel_rfl) (fun _ _ _ h => h) (Or.inl ⟨by rfl, ?_⟩) (by assumption) ?_
  rotate_left
  · first | (intro w hSw; (try dsimp only at hSw); go_simp; done) | (intro w hSw; (try dsimp only at hSw); go_simp; with_reducible rfl)
  try simp only [Act.put, List.setIfInBounds_toArray, List.set_cons_zero, List.set_cons_succ, List.getElem_toArray, List.getElem_cons_succ, List.getElem_cons_zero]
  refine wpAnyH_done (by kernel_rfl) ?_ _
  have M110 := (B11.out.block (w.heap.size + 1) (by omega)).trans M101.out
  have M12a := heap_setCell_same w11 (w.heap.size + 1) 0 _ 25 (.slice (some ⟨g9, 0, none⟩) (rs.length + 1) cap9) M110
  have M12 := heap_setCell_same _ (w.heap.size + 1) 1 _ 25 (.slice sl2 0 cap2) M12a
  have C12 := Lib.hid (((C10.out.below B11.out).keptB M110 (grown_set w11 (w.heap.size + 1) 0 _)).keptB M12a (grown_set _ (w.heap.size + 1) 1 (.slice sl2 0 cap2)))
  have K12 : Hid (Keep2 (.slice sl rs.length cap) (.slice sl2 0 cap2) w ((w11.setCell ⟨w.heap.size + 1, 0, none⟩ (.slice (some ⟨g9, 0, none⟩) (rs.length + 1) cap9)).setCell ⟨w.heap.size + 1, 1, none⟩ (.slice sl2 0 cap2))) := fun k hk h1 h2 => ((Below.heap_setCell _ _ _ k (by show k ≠ w.heap.size + 1; omega)).trans (Below.heap_setCell _ _ _ k (by show k ≠ w.heap.size + 1; omega))).trans ((B11.out.block k (by omega)).trans (K10.out k hk h1 h2))
  have B12 := Lib.hid (((B10.out.trans (B11.out.mono (by have := B10.out.size; omega))).setCell (p := ⟨w.heap.size + 1, 0, none⟩) (by show C ≤ w.heap.size + 1; omega) (.slice (some ⟨g9, 0, none⟩) (rs.length + 1) cap9)).setCell (p := ⟨w.heap.size + 1, 1, none⟩) (by show C ≤ w.heap.size + 1; omega) (.slice sl2 0 cap2))
  rename_i hh3 hh4
  clear hHeld hh3 hh4 M110 M12a
  generalize (w11.setCell ⟨w.heap.size + 1, 0, none⟩ (.slice (some ⟨g9, 0, none⟩) (rs.length + 1) cap9)).setCell ⟨w.heap.size + 1, 1, none⟩ (.slice sl2 0 cap2) = w12 at *
  have r0 : w12.cell? ⟨w.heap.size + 1, 0, none⟩ = some (.slice (some ⟨g9, 0, none⟩) (rs.length + 1) cap9) := by rw [(cellsAt M12).1]; rfl
  have r1 : w12.cell? ⟨w.heap.size + 1, 1, none⟩ = some (.slice sl2 0 cap2) := by rw [(cellsAt M12).1]; rfl
  clear M12
  go_wp2
  exact bodyPost_ret (v := .tuple #[.agg #[.slice (some ⟨g9, 0, none⟩) (rs.length + 1) cap9, .slice sl2 0 cap2], .bool (B (TabR (rs ++ [(a, b, .slice (some ⟨g, 0, none⟩) 0 0, [])]) []))]) (by simp [results, Tryd.results24, go_sem, r0, r1]) rfl ⟨_, _, rfl, C12.out, B12.out, K12.out⟩
end Go.Proofs.YtdndhhkpbcpalaaDoor
