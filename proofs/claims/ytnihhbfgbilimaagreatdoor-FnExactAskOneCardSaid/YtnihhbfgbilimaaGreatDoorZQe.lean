import Derived.Test.YtnihhbfgbilimaaGreatDoorZHe
import Derived.Shelf.RegionOpenPlain
import Derived.Lib.Overlaps
import Derived.Laws.Externs
namespace Go.Proofs.YtnihhbfgbilimaaGreatDoor
open Go.RowKit
set_option linter.unusedVariables false
open List (setIfInBounds_toArray set_cons_zero set_cons_succ getElem_toArray getElem_cons_succ getElem_cons_zero)
set_option maxHeartbeats 1000000 in
theorem spi_any (sl : Option Addr) (cap : Nat) (pl : List LPl) (w : World) (hn : pl.length ≤ maxLen) (hz : Pls w sl pl) :
  Calls Tryz.prog 88 #[.slice sl pl.length cap] w fun e w' => ∃ v, e = .returned v ∧ w'.ownsRow w.heap.size 2 1 v (pidsA pl).length (valsZ (pidsA pl)) ∧ Below w.heap.size w w' := by
 unfold maxLen at hn
 have O0 := Lib.hid (own_none5 w)
 have B0 := Lib.hid (bA0 w (.cells #[] 2))
 by_cases h4 : pl.length ≤ 400
 ·rw [show pidsA pl = pidsL pl from if_pos h4]
  obtain ⟨i0, hi0, hz0, hz1, hz2⟩ := info_parts info2'
  have h4' : ¬ (400 : Int) < (pl.length : Int) := by omega
  have HZ := Lib.hid hz
  clear hz
  rw [pidsL_len]
  generalize hN : pl.length = n at *
  have HN := Lib.hid hN
  clear hN
  go_enter Tryz.func88, Tryz.ntmps88
  go_wp2
  generalize w.alloc (.cells #[] 2) = w0 at *
  go_loopw [3, 4] (fun v i wr => ∃ k : Nat, i = .int .i64 k ∧ k ≤ n ∧ Hid (wr.ownsRow w.heap.size 2 1 v k (valsZ ((pidsL pl).take k))) ∧ Hid (Below w.heap.size w wr)) (fun _ i _ => n - (intOf i).toNat)
  case atStart => exact ⟨0, rfl, Nat.zero_le _, O0, B0⟩
  case round =>
   obtain ⟨k, rfl, hk, H1, H2⟩ := hrel
   have hk0 : (0 : Int) ≤ (k : Int) := by omega
   by_cases h1 : k < n
   ·have h1' : (k : Int) < (n : Int) := by omega
    have hlt : k < pl.length := by rw [HN.out]; exact h1
    obtain ⟨c, o, rfl, Z0⟩ : ∃ c o, sl = some ⟨c, o, none⟩ ∧ PlAt w c o pl := by
     rcases HZ.out with e | h
     ·rw [e] at hlt; simp at hlt
     ·exact h
    obtain ⟨hc, hc1⟩ := (Z0.below H2.out).cell k hlt
    have EV := Lib.hid (pidsL_step pl k hlt)
    generalize pl[k].1 = z at *
    generalize pl[k].2 = y at *
    clear hlt Z0
    have hs := H2.out.size
    go_wp2_with (first | (at_builtin; refine wpList_append_lies _ rfl (.tmp 16) (.tmp 22) 34 rfl w.heap.size 2 i0 (.int .i64 0) 1 8 Tryz.underlying34 hi0 hz0 hz1 hz2 rfl (by decide) _ _ _ rfl (H1.out.alloc _) ⟨wr.heap.size, 0, none⟩ 1 1 [.int .i64 z] rfl rfl (cell_one_new _ _ _) (by intro u hu; simp at hu; subst hu; rfl) (by decide) (by unfold maxLen; omega) (by omega) (by simp; omega) (wr.heap.size + 1) (by simp) ?_))
    intro g9 cap9 w9 own9 grow9 hg9 hlt9
    have B9 := Lib.hid ((bA H2.out (.cells #[.int .i64 z] 2)).grown grow9 (by simp; omega) (fun j hj => (H1.out.lt j hj).1))
    rw [EV.out] at own9
    have N9 := Lib.hid own9
    clear own9 grow9 hg9 hlt9
    go_wp2
    go_roundw
    case rel => exact ⟨k + 1, by go_num, by omega, N9, B9⟩
    case measure => simp [intOf]; omega
   ·have h1' : ¬ (k : Int) < (n : Int) := by omega
    have e : k = n := by omega
    have F := Lib.hid (show (pidsL pl).take k = pidsL pl from List.take_of_length_le (by rw [pidsL_len, HN.out]; omega))
    have H9 := H1.out
    rw [F.out, e] at H9
    have P := Lib.hid (And.intro H9 H2.out)
    clear H9 H1
    go_wp2
    go_ret
    exact ⟨_, rfl, P.out.1, P.out.2⟩
 ·rw [show pidsA pl = [] from if_neg h4]
  have h4' : (400 : Int) < (pl.length : Int) := by omega
  clear hz
  generalize pl.length = n at *
  go_enter Tryz.func88, Tryz.ntmps88
  go_wp2
  go_ret
  exact ⟨_, rfl, O0.out, B0.out⟩
theorem run_copy2 (w : World) (ty : TypeId) (b o dLen dCap : Nat) (a : Addr) (sLen sCap : Nat) (cs : List Value) (hn : cs.length = Nat.min sLen dLen * 2)
  (hsrc : ∀ j v, cs[j]? = some v → w.cell? (a.add j) = some v) (hc : ∀ j, j < cs.length → (w.cell? ⟨b, o + j, none⟩).isSome = true) (hf : ∀ j, j < cs.length → w.frozen? ⟨b, o + j, none⟩ = false) (h1 : ∀ v ∈ cs, v.oneCell' = true) :
  (Builtin.copy_ #[28, 28] ty #[.slice (some ⟨b, o, none⟩) dLen dCap, .slice (some a) sLen sCap]).run Tryz.prog w = .ok (goInt (Nat.min sLen dLen)) (w.setCells b o cs) := by
 obtain ⟨i, hi, h0, hs, hb⟩ := info_parts info34
 have hl := run_loadCells_list (P := Tryz.prog) w a cs hsrc
 have hst := run_storeCells_cells (P := Tryz.prog) b o cs 0 w (by simpa using hc) (by simpa using hf) h1
 simp [Builtin.copy_, run_underlying Tryz.underlying28, Builtin.lenOf, Builtin.firstCells, sizeOf, typeInfo, hi, hs, ← hn, hl, hst]
theorem row_set (g : Nat) (t : TypeId) : ∀ (ws : List Value) (o : Nat) (W : World) (us : Array Value), W.heap[g]? = some (.cells us t) → o + ws.length ≤ us.size →
  ∃ us', (W.setCells g o ws).heap[g]? = some (.cells us' t) ∧ us'.size = us.size ∧ (∀ k, k < o → us'[k]? = us[k]?) ∧ (∀ k, k < ws.length → us'[o + k]? = ws[k]?) ∧ (∀ k, o + ws.length ≤ k → us'[k]? = us[k]?) ∧ (∀ k, k ≠ g → (W.setCells g o ws).heap[k]? = W.heap[k]?) ∧ (W.setCells g o ws).heap.size = W.heap.size ∧ (W.setCells g o ws).os = W.os ∧ (W.setCells g o ws).tape = W.tape ∧ (W.setCells g o ws).output = W.output
 | [], o, W, us, h, _ => ⟨us, h, rfl, fun _ _ => rfl, fun k hk => by simp at hk, fun _ _ => rfl, fun _ _ => rfl, rfl, rfl, rfl, rfl⟩
 | v :: r, o, W, us, h, hl => by
  simp only [List.length_cons] at hl
  obtain ⟨us', g1, g2, g3, g4, g5, g6, g7, g8, g9, g10⟩ := row_set g t r (o + 1) (W.setCell ⟨g, o, none⟩ v) (us.setIfInBounds o v) (heap_setCell_same W g o us t v h) (by simp; omega)
  refine ⟨us', g1, by rw [g2]; simp, fun k hk => ?_, fun k hk => ?_, fun k hk => ?_, fun k hk => ?_, by rw [World.setCells, g7]; simp, g8, g9, g10⟩
  ·rw [g3 k (by omega), Array.getElem?_setIfInBounds_ne (by omega)]
  ·cases k with
   | zero => rw [Nat.add_zero, g3 o (by omega), Array.getElem?_setIfInBounds_self_of_lt (by omega)]; rfl
   | succ k =>
    have := g4 k (by simpa using hk)
    rw [show o + (k + 1) = o + 1 + k by omega, this]; simp
  ·simp only [List.length_cons] at hk
   rw [g5 k (by omega), Array.getElem?_setIfInBounds_ne (by omega)]
  ·rw [World.setCells, g6 k hk]; exact heap_setCell_other W ⟨g, o, none⟩ k v hk
theorem own_cap6 {w : World} {B : Nat} {e : TypeId} {m : Nat} {sl : Option Addr} {n cap : Nat} {k : Nat} {xs : List Value} (h : w.ownsRow B e m (.slice sl n cap) k xs) : k ≤ cap := by
 rcases h.2 with ⟨_, h0⟩ | ⟨g, cp, cur, hv, _, _, h5, _⟩
 ·rw [h0]; exact Nat.zero_le _
 ·cases hv; exact h5
theorem appP {w : World} {B : Nat} {v : Value} {ks : List LPl} (h : w.ownsRow B 131 2 v ks.length (enCells ks)) {s : Option Addr} {r : List LPl} (k : Nat) (hi : Pls w s r) (hB : B ≤ w.heap.size) (hl : ks.length + r.length ≤ 10000000) :
  ∃ v9 w9, (∀ ty, (Builtin.append_ #[28, 28] ty #[v, .slice s r.length k]).run Tryz.prog w = .ok v9 w9) ∧ w9.ownsRow B 131 2 v9 (ks ++ r).length (enCells (ks ++ r)) ∧ w.grownBy w9 v.ownBlock ∧ ∀ j, v.ownBlock = some j → B ≤ j := by
 obtain ⟨i3, hi3, hd0, hd1, hd2⟩ := info_parts info34
 have hlo : ∀ j, v.ownBlock = some j → B ≤ j := fun j hj => (h.lt j hj).1
 obtain ⟨sl, cap, rfl⟩ := own_v h
 by_cases he : r = []
 ·subst he
  exact ⟨_, w, fun ty => app_none27 w ty sl ks.length cap (own_cap6 h) s k, by rw [List.append_nil]; exact h, ⟨rfl, rfl, rfl, Nat.le_refl _, fun _ _ _ => rfl⟩, hlo⟩
 ·rcases hi with hi | ⟨c, o, rfl, hi⟩
  ·exact absurd hi he
  ·obtain ⟨g, c9, w9, hr, own9, grow9, -, -⟩ := run_append_lies (P := Tryz.prog) w 28 28 B 131 i3 (.agg #[.int .i64 0, .int .i64 0]) 2 16 Tryz.underlying28 hi3 hd0 hd1 hd2 rfl (by decide) _ _ _ h ⟨c, o, none⟩ r.length k (enCells r) (enCells_len r) (pl_cells hi) (enCells_one r) (List.length_pos_iff.2 he) (by unfold maxLen; omega) (by omega) hB w.heap.size rfl
   exact ⟨_, w9, fun ty => hr, by rw [List.length_append, enCells_app]; exact own9, grow9, hlo⟩
theorem own_none2 (w : World) : (w.alloc (.cells #[] 131)).ownsRow w.heap.size 131 2 (.slice (some ⟨w.heap.size, 0, none⟩) 0 0) ([] : List LPl).length (enCells []) :=
 ⟨rfl, .inr ⟨w.heap.size, 0, #[], rfl, Nat.le_refl _, by show (w.heap.push _)[w.heap.size]? = _; simp, Nat.le_refl _, Nat.zero_le _, rfl, rfl⟩⟩
set_option maxRecDepth 100000 in
set_option maxHeartbeats 2000000 in
theorem clo_any (sl : Option Addr) (cap : Nat) (pl : List LPl) (w : World) (hn : pl.length ≤ 1048576) (hz : Pls w sl pl) :
  Calls Tryz.prog 121 #[.slice sl pl.length cap] w fun e w' => ∃ v, e = .returned v ∧ w'.ownsRow w.heap.size 131 2 v pl.length (enCells pl) ∧ Below w.heap.size w w' := by
 cases sl with
 | none =>
  have e : pl = [] := by
   rcases hz with h | ⟨c, o, e, _⟩
   ·exact h
   ·cases e
  subst e
  have hq := fun W : World => Lib.run_eql_slice_nil (P := Tryz.prog) W 28 131 none 0 cap 0 0 Tryz.underlying28
  simp only [Option.isNone_none] at hq
  go_enter Tryz.func121, Tryz.ntmps121
  go_wp2
  go_ret
  exact ⟨_, rfl, ⟨rfl, .inl ⟨rfl, rfl⟩⟩, Below.refl _ _⟩
 | some a =>
  have B0 := Lib.hid (bA0 w (.cells #[] 131))
  obtain ⟨v9, w9, ha, ow, gr, hj⟩ := appP (ks := []) (own_none2 w) cap (hz.below B0.out) B0.out.size (by simp; omega)
  have ha' := ha 28
  have O9 : Hid (w9.ownsRow w.heap.size 131 2 v9 pl.length (enCells pl)) := by
   have := ow
   rwa [List.nil_append] at this
  have hq := fun W : World => Lib.run_eql_slice_nil (P := Tryz.prog) W 28 131 (some a) pl.length cap 0 0 Tryz.underlying28
  simp only [Option.isNone_some] at hq
  have B9 := Lib.hid (B0.out.grown gr B0.out.size hj)
  clear ha ow gr hj hz B0
  generalize pl.length = n at *
  go_enter Tryz.func121, Tryz.ntmps121
  go_wp2_with (at_builtin; refine Lib.wpList_append_run _ rfl _ _ _ _ rfl _ _ rfl rfl _ _ ha' ?_)
  go_ret
  exact ⟨_, rfl, O9.out, B9.out⟩
theorem pls_one {w : World} {b : Nat} {x y : Int} (h : w.heap[b]? = some (.cells #[.int .i64 x, .int .i64 y] 131)) : Pls w (some ⟨b, 0, none⟩) [(x, y)] := by
 refine .inr ⟨b, 0, rfl, (Array.getElem?_eq_some_iff.1 h).1, fun i hi => ?_⟩
 obtain rfl : i = 0 := by simp at hi; omega
 constructor <;> simp [World.cell?, h]
set_option maxRecDepth 100000 in
set_option maxHeartbeats 4000000 in
theorem insE_any (B vb : Nat) (x y : Int) (v : Value) (pl : List LPl) (w : World) (h : w.ownsRow B 131 2 v pl.length (enCells pl)) (hB : B ≤ w.heap.size) (hv : w.heap[vb]? = some (.cells #[.int .i64 x, .int .i64 y] 131)) (hn : pl.length ≤ 1000) :
  Calls Tryz.prog 183 #[v, .int .i64 pl.length, .slice (some ⟨vb, 0, none⟩) 1 1] w fun e w' => ∃ v', e = .returned v' ∧ w'.ownsRow B 131 2 v' (pl.length + 1) (enCells (pl ++ [(x, y)])) ∧ Below B w w' := by
 obtain ⟨v9, w9, ha, ow, gr, hj⟩ := appP (r := [(x, y)]) h 1 (pls_one hv) hB (by simp; omega)
 have ha' := ha 28
 have O9 := Lib.hid ow
 rw [List.length_append] at O9
 have B9 := Lib.hid ((Below.refl B w).grown gr hB hj)
 obtain ⟨sl, cap, rfl⟩ := own_v h
 clear ha ow gr hj
 generalize pl.length = n at *
 go_enter Tryz.func183, Tryz.ntmps183
 go_wp2_with (at_builtin; refine Lib.wpList_append_run _ rfl _ _ _ _ rfl _ _ rfl rfl _ _ ha' ?_)
 all_goals (go_ret; exact ⟨_, rfl, O9.out, B9.out⟩)
set_option maxRecDepth 100000 in
set_option maxHeartbeats 4000000 in
set_option maxRecDepth 100000 in
set_option maxHeartbeats 4000000 in
theorem insG_walk (g i n vb : Nat) (w : World) (hi : i < n) (hn : n ≤ 1000) (W1 W2 W3 : World) (H G : Nat)
  (hrz : ∀ ty, (Builtin.append_ #[28, 3] ty #[.slice (some ⟨g, 0, none⟩) i n, .int .i64 ((n : Int) + 1 - (i : Int))]).run Tryz.prog w = .ok (.slice (some ⟨H, 0, none⟩) (n + 1) G) W1) (hG : n + 1 ≤ G) (hG2 : G ≤ 9223372036854775807)
  (hcA : (Builtin.copy_ #[28, 28] 3 #[.slice (some ⟨H, i * 2, none⟩) (n + 1 - i) (G - i), .slice (some ⟨vb, 0, none⟩) 1 1]).run Tryz.prog W1 = .ok (.int .i64 1) W2)
  (hcB : (Builtin.copy_ #[28, 28] 3 #[.slice (some ⟨H, (i + 1) * 2, none⟩) (n - i) (G - (i + 1)), .slice (some ⟨g, i * 2, none⟩) (n - i) (n - i)]).run Tryz.prog W2.drew = .ok (.int .i64 ((n - i : Nat) : Int)) W3) :
  Calls Tryz.prog 183 #[.slice (some ⟨g, 0, none⟩) n n, .int .i64 i, .slice (some ⟨vb, 0, none⟩) 1 1] w fun e w' => e = .returned (.slice (some ⟨H, 0, none⟩) (n + 1) G) ∧ w' = W3 := by
 have hz2 : ¬ ((i : Int) = (n : Int)) := by omega
 have hz2' : ((i : Int) == (n : Int)) = false := by simpa using hz2
 have hz3 : (n : Int) < (n : Int) + 1 := by omega
 have hin : i ≤ n := by omega
 have ha' := hrz 28
 have hw1 : IntKind.i64.wrap ((i : Int) + 1) = (i : Int) + 1 := by rw [IntKind.wrap_i64]; omega
 have hb1 : (0 : Int) ≤ (i : Int) + 1 := by omega
 have htn : ((i : Int) + 1).toNat = i + 1 := by omega
 have hb3 : (i : Int) ≤ (n : Int) := by omega
 have hGi : ¬ (G = i + 1) := by omega
 have hni : ¬ (n = i) := by omega
 go_enter Tryz.func183, Tryz.ntmps183
 go_wp2_with (first | (at_builtin; refine Lib.wpList_append_run _ rfl _ _ _ _ rfl _ _ rfl rfl _ _ ha' ?_) | fail)
 refine wp_region_held_drew (S := fun W => True) (by kernel_rfl) ?_ (fun hHeld => ?_)
 ·exact trivial
 refine tw (i := 0) rfl ?_
 refine tw (i := 1) rfl ?_
 refine tw (i := 2) rfl ?_
 refine tw (i := 3) rfl ?_
 try simp only [Act.put, setIfInBounds_toArray, set_cons_zero, set_cons_succ, getElem_toArray, getElem_cons_succ, getElem_cons_zero]
 refine tw (i := 4) rfl ?_
 refine tw (i := 5) rfl ?_
 refine tw (i := 6) rfl ?_
 refine tw (i := 7) rfl ?_
 try simp only [Act.put, setIfInBounds_toArray, set_cons_zero, set_cons_succ, getElem_toArray, getElem_cons_succ, getElem_cons_zero]
 refine wpAnyH_ready (rs := [8]) (by kernel_rfl) (by simp) ?_
 refine AllReadyH.cons rfl (fun K hK => ?_) AllReadyH.nil
 go_simp
 refine hK.out _ _ ?_ (fun hHeld => ?_)
 ·exact trivial
 clear hK K
 refine wpAnyH_done (by kernel_rfl) ?_ _
 go_wp2
 go_ret
 exact ⟨rfl, rfl⟩
set_option maxRecDepth 100000 in
set_option maxHeartbeats 4000000 in
theorem insS_walk (g i n c vb : Nat) (w : World) (hi : i < n) (hn : n ≤ 1000) (hc : n + 1 ≤ c) (hc2 : c ≤ 9223372036854775807) (W1 W2 : World)
  (hov : ∀ lb cb, (callFunc 215 #[.slice (some ⟨vb, 0, none⟩) 1 1, .slice (some ⟨g, (i + 1) * 2, none⟩) lb cb]).run Tryz.prog w = .ok (.value (.bool false)) w)
  (hcA : (Builtin.copy_ #[28, 28] 3 #[.slice (some ⟨g, (i + 1) * 2, none⟩) (n - i) (c - (i + 1)), .slice (some ⟨g, i * 2, none⟩) (n + 1 - i) (c - i)]).run Tryz.prog w.drew = .ok (.int .i64 ((n - i : Nat) : Int)) W1)
  (hcB : (Builtin.copy_ #[28, 28] 3 #[.slice (some ⟨g, i * 2, none⟩) (n + 1 - i) (c - i), .slice (some ⟨vb, 0, none⟩) 1 1]).run Tryz.prog W1 = .ok (.int .i64 1) W2) :
  Calls Tryz.prog 183 #[.slice (some ⟨g, 0, none⟩) n c, .int .i64 i, .slice (some ⟨vb, 0, none⟩) 1 1] w fun e w' => e = .returned (.slice (some ⟨g, 0, none⟩) (n + 1) c) ∧ w' = W2 := by
 have hz2 : ¬ ((i : Int) = (n : Int)) := by omega
 have hz2' : ((i : Int) == (n : Int)) = false := by simpa using hz2
 have hz3 : ¬ (c : Int) < (n : Int) + 1 := by omega
 have hin : i ≤ n := by omega
 have hw1 : IntKind.i64.wrap ((i : Int) + 1) = (i : Int) + 1 := by rw [IntKind.wrap_i64]; omega
 have hb1 : (0 : Int) ≤ (i : Int) + 1 := by omega
 have htn : ((i : Int) + 1).toNat = i + 1 := by omega
 have hb3 : (i : Int) ≤ (n : Int) := by omega
 have hb4 : (i : Int) ≤ (n : Int) + 1 := by omega
 have hGi : ¬ (c = i + 1) := by omega
 have hni : ¬ (c = i) := by omega
 go_enter Tryz.func183, Tryz.ntmps183
 go_wp2_with (simp only [hov])
 refine wp_region_held_drew (S := fun W => True) (by kernel_rfl) ?_ (fun hHeld => ?_)
 ·exact trivial
 refine tw (i := 0) rfl ?_
 refine tw (i := 1) rfl ?_
 refine tw (i := 2) rfl ?_
 refine tw (i := 3) rfl ?_
 try simp only [Act.put, setIfInBounds_toArray, set_cons_zero, set_cons_succ, getElem_toArray, getElem_cons_succ, getElem_cons_zero]
 refine tw (i := 4) rfl ?_
 refine tw (i := 5) rfl ?_
 refine tw (i := 6) rfl ?_
 refine tw (i := 7) rfl ?_
 try simp only [Act.put, setIfInBounds_toArray, set_cons_zero, set_cons_succ, getElem_toArray, getElem_cons_succ, getElem_cons_zero]
 refine wpAnyH_ready (rs := [8]) (by kernel_rfl) (by simp) ?_
 refine AllReadyH.cons rfl (fun K hK => ?_) AllReadyH.nil
 go_simp
 refine hK.out _ _ ?_ (fun hHeld => ?_)
 ·exact trivial
 clear hK K
 refine wpAnyH_done (by kernel_rfl) ?_ _
 go_wp2
 go_ret
 exact ⟨rfl, rfl⟩
theorem en_ins (pl : List LPl) (i : Nat) (x y : Int) (hi : i ≤ pl.length) : enCells (pl.take i ++ (x, y) :: pl.drop i) = (enCells pl).take (i * 2) ++ [.int .i64 x, .int .i64 y] ++ (enCells pl).drop (i * 2) := by
 have e : enCells pl = enCells (pl.take i) ++ enCells (pl.drop i) := by rw [← enCells_app, List.take_append_drop]
 have hl : (enCells (pl.take i)).length = i * 2 := by rw [enCells_len, List.length_take, Nat.min_eq_left hi]
 rw [show pl.take i ++ (x, y) :: pl.drop i = pl.take i ++ ([(x, y)] ++ pl.drop i) by simp, enCells_app, enCells_app, e, ← hl, List.take_left, List.drop_left]
 simp [enCells, encE]
theorem row_ins {cs : List Value} {i n : Nat} {x y : Value} {us : Array Value} (hl : cs.length = n * 2) (hi : i ≤ n) (hs : (n + 1) * 2 ≤ us.size)
  (h1 : ∀ k, k < i * 2 → us[k]? = cs[k]?) (h2 : us[i * 2]? = some x) (h3 : us[i * 2 + 1]? = some y) (h4 : ∀ k, k < n * 2 - i * 2 → us[(i + 1) * 2 + k]? = cs[i * 2 + k]?) :
  us.toList.take ((n + 1) * 2) = cs.take (i * 2) ++ [x, y] ++ cs.drop (i * 2) := by
 apply List.ext_getElem?
 intro k
 have hA : (cs.take (i * 2)).length = i * 2 := by rw [List.length_take]; omega
 by_cases k1 : k < i * 2
 ·rw [List.getElem?_take_of_lt (by omega), List.append_assoc, List.getElem?_append_left (by omega), List.getElem?_take_of_lt k1]
  simpa using h1 k k1
 ·rw [List.append_assoc, List.getElem?_append_right (by omega), hA]
  by_cases k2 : k = i * 2
  ·subst k2
   rw [List.getElem?_take_of_lt (by omega)]
   simpa using h2
  ·by_cases k3 : k = i * 2 + 1
   ·subst k3
    rw [List.getElem?_take_of_lt (by omega), show i * 2 + 1 - i * 2 = 1 by omega]
    simpa using h3
   ·rw [List.getElem?_append_right (by simp; omega)]
    simp only [List.length_cons, List.length_nil]
    rw [List.getElem?_drop, show i * 2 + (k - i * 2 - (0 + 1 + 1)) = k - 2 by omega]
    by_cases k4 : k < (n + 1) * 2
    ·rw [List.getElem?_take_of_lt k4]
     have := h4 (k - (i + 1) * 2) (by omega)
     rw [show (i + 1) * 2 + (k - (i + 1) * 2) = k by omega, show i * 2 + (k - (i + 1) * 2) = k - 2 by omega] at this
     simpa using this
    ·rw [List.getElem?_eq_none (by rw [List.length_take]; omega), List.getElem?_eq_none (by omega)]
theorem cell_row {W : World} {g : Nat} {us : Array Value} {t : TypeId} (h : W.heap[g]? = some (.cells us t)) (k : Nat) : W.cell? ⟨g, k, none⟩ = us[k]? := by simp [World.cell?, h]
theorem froz_row {W : World} {g : Nat} {us : Array Value} {t : TypeId} (h : W.heap[g]? = some (.cells us t)) (k : Nat) : W.frozen? ⟨g, k, none⟩ = false := by simp [World.frozen?, h]
set_option maxHeartbeats 2000000 in
theorem ins_any (B i vb : Nat) (x y : Int) (v : Value) (pl : List LPl) (w : World) (h : w.ownsRow B 131 2 v pl.length (enCells pl)) (hB : B ≤ w.heap.size) (hi : i ≤ pl.length) (hv : w.heap[vb]? = some (.cells #[.int .i64 x, .int .i64 y] 131)) (hne : v.ownBlock ≠ some vb) (hn : pl.length ≤ 1000) :
  Calls Tryz.prog 183 #[v, .int .i64 i, .slice (some ⟨vb, 0, none⟩) 1 1] w fun e w' => ∃ v', e = .returned v' ∧ w'.ownsRow B 131 2 v' (pl.length + 1) (enCells (pl.take i ++ (x, y) :: pl.drop i)) ∧ Below B w w' := by
 by_cases he : i = pl.length
 ·subst he
  rw [List.take_length, List.drop_length]
  exact insE_any B vb x y v pl w h hB hv hn
 have hin : i < pl.length := by omega
 have h0 := h
 rcases h.2 with ⟨_, h0⟩ | ⟨g, c, cur, rfl, hbg, hg, hnc, hmx, hcur, hx⟩
 ·omega
 have hgl := (Array.getElem?_eq_some_iff.1 hg).1
 have hvl := (Array.getElem?_eq_some_iff.1 hv).1
 have hgv : g ≠ vb := fun e => hne (by rw [← e]; rfl)
 have hcl := enCells_len pl
 have hcs : ∀ j v, (enCells pl)[j]? = some v → w.cell? ⟨g, j, none⟩ = some v := fun j v hj => by
  have := h0.cells (by rfl) j v hj
  rwa [at_add, Nat.zero_add] at this
 have hcu : ∀ k, k < pl.length * 2 → cur[k]? = (enCells pl)[k]? := fun k hk => by
  rw [← hx, List.getElem?_take_of_lt hk]; simp
 have hvs : ∀ j u, ([.int .i64 x, .int .i64 y] : List Value)[j]? = some u → w.cell? ((⟨vb, 0, none⟩ : Addr).add j) = some u := fun j u hj => by
  rw [at_add, Nat.zero_add]
  match j, hj with
  | 0, hj => simp at hj; subst hj; simp [World.cell?, hv]
  | 1, hj => simp at hj; subst hj; simp [World.cell?, hv]
 have hone : ∀ u ∈ (enCells pl).drop (i * 2), u.oneCell' = true := fun u hu => enCells_one pl u (List.mem_of_mem_drop hu)
 have hone2 : ∀ u ∈ ([.int .i64 x, .int .i64 y] : List Value), u.oneCell' = true := fun u hu => by
  simp at hu; rcases hu with rfl | rfl <;> rfl
 have hdl : ((enCells pl).drop (i * 2)).length = (pl.length - i) * 2 := by rw [List.length_drop, hcl]; omega
 unfold maxLen at hmx
 by_cases hroom : pl.length + 1 ≤ c
 ·-- in place
  obtain ⟨us1, a1, a2, a3, a4, a5, a6, a7, a8, a9, a10⟩ := row_set g 131 ((enCells pl).drop (i * 2)) ((i + 1) * 2) w.drew cur hg (by rw [hdl, hcur]; omega)
  obtain ⟨us2, b1, b2, b3, b4, b5, b6, b7, b8, b9, b10⟩ := row_set g 131 [.int .i64 x, .int .i64 y] (i * 2) (w.drew.setCells g ((i + 1) * 2) ((enCells pl).drop (i * 2))) us1 a1 (by rw [a2, hcur]; simp; omega)
  have hv1 : (w.drew.setCells g ((i + 1) * 2) ((enCells pl).drop (i * 2))).heap[vb]? = some (.cells #[.int .i64 x, .int .i64 y] 131) := (a6 vb (fun e => hgv e.symm)).trans hv
  have WK := insS_walk g i pl.length c vb w hin hn hroom (by omega) _ _
   (fun lb cb => by
    rw [run_callFunc_extern (P := Tryz.prog) Tryz.func215 (by kernel_rfl) (by kernel_rfl) (by kernel_rfl) (e := Extern.SlicesOverlaps.overlaps #[28, 28] #[4]) (by kernel_rfl),
     Lib.run_overlaps_apart w 28 4 131 Tryz.underlying28 2 Tryz.sizeOf131 ⟨vb, 0, none⟩ ⟨g, (i + 1) * 2, none⟩ 1 1 lb cb (fun e => hgv e.symm) 131 131 2 (c * 2) (by simp [World.shape?, hv]) (by simp [World.shape?, hg, hcur]) (by omega) (by simp [World.frozen?, hv]) (by simp [World.frozen?, hv])]
    rfl)
   (by
    have := run_copy2 w.drew 3 g ((i + 1) * 2) (pl.length - i) (c - (i + 1)) ⟨g, i * 2, none⟩ (pl.length + 1 - i) (c - i) ((enCells pl).drop (i * 2)) (by rw [hdl]; simp only [Nat.min_def]; split <;> omega)
     (fun j u hj => by rw [at_add]; exact hcs _ u (by rwa [List.getElem?_drop] at hj))
     (fun j hj => by
      have : (w.drew.cell? ⟨g, (i + 1) * 2 + j, none⟩) = cur[(i + 1) * 2 + j]? := by show w.cell? _ = _; simp [World.cell?, hg]
      rw [this, Array.getElem?_eq_getElem (by omega)]; rfl)
     (fun j hj => by show w.frozen? _ = false; simp [World.frozen?, hg]) hone
    rw [show Nat.min (pl.length + 1 - i) (pl.length - i) = pl.length - i by simp only [Nat.min_def]; split <;> omega] at this
    exact this)
   (by
    have := run_copy2 (w.drew.setCells g ((i + 1) * 2) ((enCells pl).drop (i * 2))) 3 g (i * 2) (pl.length + 1 - i) (c - i) ⟨vb, 0, none⟩ 1 1 [.int .i64 x, .int .i64 y] (by simp only [Nat.min_def, List.length_cons, List.length_nil]; split <;> omega)
     (fun j u hj => by rw [World.cell?_of_block (show (w.drew.setCells g ((i + 1) * 2) ((enCells pl).drop (i * 2))).heap[((⟨vb, 0, none⟩ : Addr).add j).block]? = w.heap[((⟨vb, 0, none⟩ : Addr).add j).block]? by rw [at_add]; exact (a6 vb (fun e => hgv e.symm)))]; exact hvs j u hj)
     (fun j hj => by
      simp only [List.length_cons, List.length_nil] at hj
      have : ((w.drew.setCells g ((i + 1) * 2) ((enCells pl).drop (i * 2))).cell? ⟨g, i * 2 + j, none⟩) = us1[i * 2 + j]? := by simp [World.cell?, a1]
      rw [this, Array.getElem?_eq_getElem (by omega)]; rfl)
     (fun j hj => by simp [World.frozen?, a1]) hone2
    rw [show Nat.min 1 (pl.length + 1 - i) = 1 by simp only [Nat.min_def]; split <;> omega] at this
    exact this)
  refine WK.mono ?_
  rintro e w' ⟨rfl, rfl⟩
  refine ⟨_, rfl, ⟨?_, .inr ⟨g, c, us2, rfl, hbg, b1, hroom, by unfold maxLen; omega, by rw [b2, a2, hcur], ?_⟩⟩, ?_⟩
  ·rw [enCells_len]; simp; omega
  ·rw [en_ins pl i x y hi]
   refine row_ins (n := pl.length) hcl hi (by rw [b2, a2, hcur]; omega) (fun k hk => ?_) ?_ ?_ (fun k hk => ?_)
   ·rw [b3 k hk, a3 k (by omega), hcu k (by omega)]
   ·have := b4 0 (by simp); simpa using this
   ·have := b4 1 (by simp); simpa using this
   ·rw [b5 _ (by simp; omega), a4 k (by rw [hdl]; omega), List.getElem?_drop]
  ·exact ⟨by rw [b8, a8]; rfl, by rw [b9, a9]; rfl, by rw [b10, a10]; rfl, by rw [b7, a7]; exact Nat.le_refl _, fun k hk => by rw [b6 k (by omega), a6 k (by omega)]; rfl⟩
 ·-- a new row
  obtain rfl : c = pl.length := by omega
  obtain ⟨i3, hi3, hd0, hd1, hd2⟩ := info_parts info34
  have hold : (Builtin.firstCells i3.size i (.slice (some ⟨g, 0, none⟩) i pl.length)).run Tryz.prog w.drew = .ok ((enCells pl).take (i * 2)).toArray w.drew := by
   rw [hd1]
   exact run_firstCells_some w.drew 2 i ⟨g, 0, none⟩ i pl.length ((enCells pl).take (i * 2)) (by rw [List.length_take]; omega) (fun j u hj => by
    rw [at_add, Nat.zero_add]
    rw [List.getElem?_take] at hj
    split at hj
    ·exact hcs j u hj
    ·cases hj)
  have hik : i + (pl.length + 1 - i) = pl.length + 1 := by omega
  have hkk : (pl.length : Int) + 1 - (i : Int) = ((pl.length + 1 - i : Nat) : Int) := by omega
  have hG := grownCap_ge w (pl.length + 1) pl.length 131
  have hM := grownCap_le_maxLen w (pl.length + 1) pl.length 131 (by unfold maxLen; omega)
  unfold maxLen at hM
  have hrz : ∀ ty, (Builtin.append_ #[28, 3] ty #[.slice (some ⟨g, 0, none⟩) i pl.length, .int .i64 ((pl.length : Int) + 1 - (i : Int))]).run Tryz.prog w = .ok (.slice (some ⟨w.heap.size, 0, none⟩) (pl.length + 1) (grownCap w (pl.length + 1) pl.length 131)) (w.drew.alloc (.cells (((enCells pl).take (i * 2)).toArray ++ Builtin.zeroCells (Value.agg #[.int .i64 0, .int .i64 0]).cells (pl.length + 1 - i) ++ Builtin.zeroCells (Value.agg #[.int .i64 0, .int .i64 0]).cells (grownCap w (pl.length + 1) pl.length 131 - (pl.length + 1))) 131)) := fun ty => by
   have h := Lib.run_append_grow_zeros (P := Tryz.prog) w 28 3 ty 131 i3 _ .i64 .i64 Tryz.underlying28 Tryz.underlying3 hi3 hd0 (some ⟨g, 0, none⟩) i pl.length ((enCells pl).take (i * 2)) hold (pl.length + 1 - i) (by omega) (by omega) (by omega) (by omega) (by rw [hd2]; omega) (by rw [hd2, hik]; exact growslice_fits (by omega) (by omega))
   rw [hik] at h
   rw [hkk]
   exact h
  generalize grownCap w (pl.length + 1) pl.length 131 = G at *
  obtain ⟨ROW, hROW⟩ : ∃ ROW : Array Value, ROW = ((enCells pl).take (i * 2)).toArray ++ Builtin.zeroCells (Value.agg #[.int .i64 0, .int .i64 0]).cells (pl.length + 1 - i) ++ Builtin.zeroCells (Value.agg #[.int .i64 0, .int .i64 0]).cells (G - (pl.length + 1)) := ⟨_, rfl⟩
  rw [← hROW] at hrz
  have hRs : ROW.size = G * 2 := by
   rw [hROW]
   simp only [Array.size_append, size_zeroCells, List.size_toArray, List.length_take, hcl]
   rw [show (Value.agg #[.int .i64 0, .int .i64 0]).cells.size = 2 from rfl]
   omega
  have hR1 : ∀ k, k < i * 2 → ROW[k]? = (enCells pl)[k]? := fun k hk => by
   rw [hROW, Array.append_assoc, Array.getElem?_append_left (by simp; omega)]
   simp [hk]
  have hnw : (w.drew.alloc (.cells ROW 131)).heap[w.heap.size]? = some (.cells ROW 131) := new_at w.drew _
  have hwo : ∀ k, k < w.heap.size → (w.drew.alloc (.cells ROW 131)).heap[k]? = w.heap[k]? := fun k hk => Below.heap_alloc w.drew _ k hk
  obtain ⟨us1, a1, a2, a3, a4, a5, a6, a7, a8, a9, a10⟩ := row_set w.heap.size 131 [.int .i64 x, .int .i64 y] (i * 2) (w.drew.alloc (.cells ROW 131)) ROW hnw (by rw [hRs]; simp; omega)
  obtain ⟨us2, b1, b2, b3, b4, b5, b6, b7, b8, b9, b10⟩ := row_set w.heap.size 131 ((enCells pl).drop (i * 2)) ((i + 1) * 2) ((w.drew.alloc (.cells ROW 131)).setCells w.heap.size (i * 2) [.int .i64 x, .int .i64 y]).drew us1 a1 (by rw [a2, hRs, hdl]; omega)
  have WK := insG_walk g i pl.length vb w hin hn (w.drew.alloc (.cells ROW 131)) ((w.drew.alloc (.cells ROW 131)).setCells w.heap.size (i * 2) [.int .i64 x, .int .i64 y]) (((w.drew.alloc (.cells ROW 131)).setCells w.heap.size (i * 2) [.int .i64 x, .int .i64 y]).drew.setCells w.heap.size ((i + 1) * 2) ((enCells pl).drop (i * 2))) w.heap.size G hrz hG hM
   (by
    have := run_copy2 (w.drew.alloc (.cells ROW 131)) 3 w.heap.size (i * 2) (pl.length + 1 - i) (G - i) ⟨vb, 0, none⟩ 1 1 [.int .i64 x, .int .i64 y] (by simp only [Nat.min_def, List.length_cons, List.length_nil]; split <;> omega)
     (fun j u hj => by rw [World.cell?_of_block (show (w.drew.alloc (.cells ROW 131)).heap[((⟨vb, 0, none⟩ : Addr).add j).block]? = w.heap[((⟨vb, 0, none⟩ : Addr).add j).block]? by rw [at_add]; exact hwo vb hvl)]; exact hvs j u hj)
     (fun j hj => by
      simp only [List.length_cons, List.length_nil] at hj
      have : ((w.drew.alloc (.cells ROW 131)).cell? ⟨w.heap.size, i * 2 + j, none⟩) = ROW[i * 2 + j]? := cell_row hnw _
      rw [this, Array.getElem?_eq_getElem (by omega)]; rfl)
     (fun j hj => froz_row hnw _) hone2
    rw [show Nat.min 1 (pl.length + 1 - i) = 1 by simp only [Nat.min_def]; split <;> omega] at this
    exact this)
   (by
    have := run_copy2 ((w.drew.alloc (.cells ROW 131)).setCells w.heap.size (i * 2) [.int .i64 x, .int .i64 y]).drew 3 w.heap.size ((i + 1) * 2) (pl.length - i) (G - (i + 1)) ⟨g, i * 2, none⟩ (pl.length - i) (pl.length - i) ((enCells pl).drop (i * 2)) (by rw [hdl]; simp only [Nat.min_def]; split <;> omega)
     (fun j u hj => by
      rw [at_add, World.cell?_of_block (show ((w.drew.alloc (.cells ROW 131)).setCells w.heap.size (i * 2) [.int .i64 x, .int .i64 y]).drew.heap[(⟨g, i * 2 + j, none⟩ : Addr).block]? = w.heap[(⟨g, i * 2 + j, none⟩ : Addr).block]? by exact (a6 g (by omega)).trans (hwo g hgl))]
      exact hcs _ u (by rwa [List.getElem?_drop] at hj))
     (fun j hj => by
      have : (((w.drew.alloc (.cells ROW 131)).setCells w.heap.size (i * 2) [.int .i64 x, .int .i64 y]).drew.cell? ⟨w.heap.size, (i + 1) * 2 + j, none⟩) = us1[(i + 1) * 2 + j]? := cell_row (W := (w.drew.alloc (.cells ROW 131)).setCells w.heap.size (i * 2) [.int .i64 x, .int .i64 y]) a1 _
      rw [this, Array.getElem?_eq_getElem (by omega)]; rfl)
     (fun j hj => froz_row (W := (w.drew.alloc (.cells ROW 131)).setCells w.heap.size (i * 2) [.int .i64 x, .int .i64 y]) a1 _) hone
    rw [show Nat.min (pl.length - i) (pl.length - i) = pl.length - i from Nat.min_self _] at this
    exact this)
  refine WK.mono ?_
  rintro e w' ⟨rfl, rfl⟩
  refine ⟨_, rfl, ⟨?_, .inr ⟨w.heap.size, G, us2, rfl, hB, b1, hG, by unfold maxLen; omega, by rw [b2, a2, hRs], ?_⟩⟩, ?_⟩
  ·rw [enCells_len]; simp; omega
  ·rw [en_ins pl i x y hi]
   refine row_ins (n := pl.length) hcl hi (by rw [b2, a2, hRs]; omega) (fun k hk => ?_) ?_ ?_ (fun k hk => ?_)
   ·rw [b3 k (by omega), a3 k hk, hR1 k hk]
   ·rw [b3 _ (by omega)]; have := a4 0 (by simp); simpa using this
   ·rw [b3 _ (by omega)]; have := a4 1 (by simp); simpa using this
   ·rw [b4 k (by rw [hdl]; omega), List.getElem?_drop]
  ·exact ⟨by rw [b8]; exact a8, by rw [b9]; exact a9, by rw [b10]; exact a10, by rw [b7]; show w.heap.size ≤ ((w.drew.alloc (.cells ROW 131)).setCells w.heap.size (i * 2) [.int .i64 x, .int .i64 y]).heap.size; rw [a7]; simp, fun k hk => by rw [b6 k (by omega)]; exact (a6 k (by omega)).trans (hwo k (by omega))⟩
end Go.Proofs.YtnihhbfgbilimaaGreatDoor
