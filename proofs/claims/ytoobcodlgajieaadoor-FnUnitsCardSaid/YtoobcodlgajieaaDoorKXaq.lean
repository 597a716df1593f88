/-
  CLAUSES, DRAWN: l06Cnf.
-/
import Derived.Test.YtoobcodlgajieaaDoorKXao
import Derived.Test.YtoobcodlgajieaaDoorKXap
import Derived.Test.YtoobcodlgajieaaDoorKXam
namespace Go.Proofs.YtoobcodlgajieaaDoor
open Go.RowKit
set_option linter.unusedVariables false
set_option linter.unusedSimpArgs false

/-- Clauses as they are drawn. -/
def CSm (cs : List LCl) : Prop := ∀ r ∈ cs, r.2.length ≤ 20 ∧ ∀ z ∈ r.2, -100 ≤ z ∧ z ≤ 100
theorem CSm.nil : CSm [] := fun r hr => by cases hr
theorem CSm.add {cs : List LCl} {r : LCl} (h : CSm cs) (h1 : r.2.length ≤ 20) (h2 : ∀ z ∈ r.2, -100 ≤ z ∧ z ≤ 100) : CSm (cs ++ [r]) := fun s hs => by
  rcases List.mem_append.1 hs with g | g
  · exact h s g
  · rw [List.mem_singleton.1 g]; exact ⟨h1, h2⟩
theorem SrcB.size {B b : Nat} {w : World} (h : SrcB B w b) : b < w.heap.size ∧ ∃ sz : Int, w.cell? ⟨b, 3, none⟩ = some (.int .i64 sz) ∧ 0 ≤ sz ∧ sz ≤ 12 := by
  obtain ⟨h0, h1, sl, len, cap, k, mix, sz, hs, hr⟩ := h
  have hc := hs.cells
  exact ⟨by omega, sz, by simp_all, by simp_all, by simp_all⟩

/-- The Cnf laid into the answer's block. -/
theorem CD.fin {w : World} {B b O : Nat} {V : Int} {v : Value} {cs : List LCl} {W : World} (h : CD w B b O V v cs W) (hm : CSm cs) (hl : cs.length ≤ 5000) : (∃ (vars : Int) (v' : Value) (cs' : List LCl), Ending.returned (.agg #[.int .i64 V, v]) = .returned (.agg #[.int .i64 vars, v']) ∧ OwC ((W.setCell ⟨w.heap.size, 0, none⟩ (.int .i64 V)).setCell ⟨w.heap.size, 1, none⟩ v) w.heap.size v' cs' ∧ CSm cs' ∧ cs'.length ≤ 5000 ∧ Src ((W.setCell ⟨w.heap.size, 0, none⟩ (.int .i64 V)).setCell ⟨w.heap.size, 1, none⟩ v) b ∧ Only b w ((W.setCell ⟨w.heap.size, 0, none⟩ (.int .i64 V)).setCell ⟨w.heap.size, 1, none⟩ v)) ∧ ((W.setCell ⟨w.heap.size, 0, none⟩ (.int .i64 V)).setCell ⟨w.heap.size, 1, none⟩ v).cell? ⟨w.heap.size, 0, none⟩ = some (.int .i64 V) ∧ ((W.setCell ⟨w.heap.size, 0, none⟩ (.int .i64 V)).setCell ⟨w.heap.size, 1, none⟩ v).cell? ⟨w.heap.size, 1, none⟩ = some v := by
  have h1 := heap_setCell_same W w.heap.size 0 _ 25 (.int .i64 V) h.res
  have h2 : ((W.setCell ⟨w.heap.size, 0, none⟩ (.int .i64 V)).setCell ⟨w.heap.size, 1, none⟩ v).heap[w.heap.size]? = some (.cells #[.int .i64 V, v] 25) := heap_setCell_same _ w.heap.size 1 _ 25 v h1
  have h3 := h.hB
  exact ⟨⟨V, v, cs, rfl, owc_box (owc_box h.oc h.res (by decide) (by decide) 0 _) h1 (by decide) (by decide) 1 _, hm, hl, ((h.src.set w.heap.size h3 0 _).set w.heap.size h3 1 _).src, (h.only.setHigh w.heap.size (Nat.le_refl _) 0 _).setHigh w.heap.size (Nat.le_refl _) 1 _⟩, by simp [World.cell?, h2], by simp [World.cell?, h2]⟩
/-- A row that is not among the clauses grew. -/
theorem CD.fresh {w : World} {B b O C : Nat} {V : Int} {v l : Value} {n : Nat} {xs : List Value} {cs : List LCl} {W W' : World} (h : CD w B b O V v cs W) (hl : W.ownsRow C 2 1 l n xs) (hC : w.heap.size ≤ C) (low : ∀ s ∈ cs, ∀ i, s.1.ownBlock = some i → i < C) (hg : W.grownBy W' l.ownBlock) : CD w B b O V v cs W' := by
  have h3 := h.hB
  have rowlo : ∀ j, l.ownBlock = some j → C ≤ j := fun j hj => (hl.lt j hj).1
  have key : ∀ (k : Nat) (us : Array Value), W.heap[k]? = some (.cells us 25) → W'.heap[k]? = some (.cells us 25) := fun k us hk =>
    (hg.block k (Array.getElem?_eq_some_iff.1 hk).1 (fun e' => by
      obtain ⟨cur, hc⟩ := own_kind hl e'.symm
      rw [hk] at hc
      cases hc)).trans hk
  refine ⟨h.src.grown hg (fun g hg' => by have := rowlo g hg'; omega), h.only.grown hg (fun g hg' => by have := rowlo g hg'; omega), key _ _ h.res, key _ _ h.out, ⟨h.oc.row.kept hg (own_diff h.oc.row hl (by decide)), fun r hr => (h.oc.each r hr).kept hg ?_, h.oc.diff⟩, h.hB, h.hO⟩
  rcases hj : r.1.ownBlock with _ | j
  · exact .inl rfl
  · refine .inr (fun e => ?_)
    have h1 := low r hr j hj
    have h2 := rowlo j e.symm
    omega
theorem CD.slot {w : World} {B b O : Nat} {V : Int} {v : Value} {cs : List LCl} {W W' : World} (h : CD w B b O V v cs W) (hg : W.grownBy W' v.ownBlock) : O < W'.heap.size ∧ W'.cell? ⟨O, 1, none⟩ = some v ∧ W'.frozen? ⟨O, 1, none⟩ = false := by
  have hk : W'.heap[O]? = some (.cells #[.int .i64 V, v] 25) := (hg.block O (Array.getElem?_eq_some_iff.1 h.out).1 (fun e' => by
    obtain ⟨cur, hc⟩ := own_kind h.oc.row e'.symm
    rw [h.out] at hc
    cases hc)).trans h.out
  exact ⟨(Array.getElem?_eq_some_iff.1 hk).1, by simp [World.cell?, hk], by simp [World.frozen?, hk]⟩

theorem own_one1 (w : World) (a : Int) : (w.alloc (.cells #[.int .i64 a] 2)).ownsRow w.heap.size 2 1 (.slice (some ⟨w.heap.size, 0, none⟩) 1 1) ([a] : List Int).length (valsZ [a]) :=
  ⟨rfl, .inr ⟨w.heap.size, 1, _, rfl, Nat.le_refl _, new_at _ _, Nat.le_refl _, by unfold maxLen; omega, rfl, rfl⟩⟩
/-- A clause written out behind the others. -/
theorem CD.put {w : World} {B b O : Nat} {V : Int} {v : Value} {cs : List LCl} {W : World} (h : CD w B b O V v cs W) (ls : List Int) (l : Value) (W1 : World) (hb : Below W.heap.size W W1) (hl : W1.ownsRow W.heap.size 2 1 l ls.length (valsZ ls)) (hu : l.oneCell' = true) (hn : cs.length ≤ 4000) :
    ∃ s9 k9 w9, (∀ ty, (Builtin.append_ #[23, 23] ty #[v, .slice (some ⟨W1.heap.size, 0, none⟩) 1 1]).run Tryd.prog (W1.alloc (.cells #[l] 26)) = .ok (.slice s9 (cs.length + 1) k9) w9) ∧ O < w9.heap.size ∧ w9.cell? ⟨O, 1, none⟩ = some v ∧ w9.frozen? ⟨O, 1, none⟩ = false ∧ CD w B b O V (.slice s9 (cs.length + 1) k9) (cs ++ [(l, ls)]) (w9.setCell ⟨O, 1, none⟩ (.slice s9 (cs.length + 1) k9)) := by
  have hw := h.facts.2.2.2.2.2.1
  have hs1 := hb.size
  have HA := (h.below hb).below (bA0 W1 (.cells #[l] 26))
  have or2 := HA.oc.row
  rw [← hdC_len cs] at or2
  obtain ⟨v9, w9, ha9, ow9, gr9⟩ := appH or2 l hu W1.heap.size (cell_at_new W1 _ 26) (by simp; omega) (by rw [hdC_len]; omega)
  obtain ⟨s9, k9, rfl⟩ := own_v ow9
  rw [hdC_len] at ow9 ha9 
  obtain ⟨e1, e2, e3⟩ := HA.slot gr9
  refine ⟨s9, k9, w9, ha9, e1, e2, e3, HA.add (r := (l, ls)) (own_mono (own_below hl (bA0 W1 (.cells #[l] 26))) (by omega)) (fun j hj t ht e => ?_) gr9 ow9⟩
  have h1 := (hl.lt j hj).1
  have h2 := ((h.oc.each t ht).lt j e).2
  omega

/-- A block that holds no byte was written. -/
theorem Src.box {W : World} {b X : Nat} (h : Src W b) (hX : X ≠ b) (hn : ∀ (i : Nat) (z : Int), W.cell? ⟨X, i, none⟩ ≠ some (.int .u8 z)) (o : Nat) (v : Value) : Src (W.setCell ⟨X, o, none⟩ v) b := by
  obtain ⟨sl, len, cap, k, mix, sz, h, hb, hk, hl, m1, m2, z1, z2, hbs⟩ := h
  refine ⟨sl, len, cap, k, mix, sz, (Below.heap_setCell _ _ _ _ (by show b ≠ X; omega)).trans h, fun i hi => ?_, hk, hl, m1, m2, z1, z2, by simpa [World.setCell] using hbs⟩
  obtain ⟨c, o', z, e, hc, hs, y1, y2, hz⟩ := hb i hi
  have hcX : c ≠ X := fun e' => by subst e'; exact hn _ _ hz
  exact ⟨c, o', z, e, hc, by simpa [World.setCell] using hs, y1, y2, (World.cell?_of_block (w := W) (Below.heap_setCell _ _ _ _ (by show c ≠ X; omega))).trans hz⟩
theorem nobyte {W : World} {X : Nat} {x : Int} {v : Value} {s : Option Addr} {n k : Nat} (hv : v = .slice s n k) (h : W.heap[X]? = some (.cells #[.int .i64 x, v] 25)) (i : Nat) (z : Int) : W.cell? ⟨X, i, none⟩ ≠ some (.int .u8 z) := by
  subst hv
  intro e
  match i with
  | 0 => simp [World.cell?, h] at e
  | 1 => simp [World.cell?, h] at e
  | i + 2 => simp [World.cell?, h] at e
/-- What CnfOf made, laid into the answer's block. -/
theorem road_fin {w W : World} {b : Nat} {V : Int} {v : Value} {cs : List LCl} (hsrc : Src W b) (ho : Only b w W) (hres : W.heap[w.heap.size]? = some (.cells #[.int .i64 0, .slice none 0 0] 25)) (hb : b < w.heap.size) (oc : OwC W w.heap.size v cs) (hm : CSm cs) (hl : cs.length ≤ 5000) : (∃ (vars : Int) (v' : Value) (cs' : List LCl), Ending.returned (.agg #[.int .i64 V, v]) = .returned (.agg #[.int .i64 vars, v']) ∧ OwC ((W.setCell ⟨w.heap.size, 0, none⟩ (.int .i64 V)).setCell ⟨w.heap.size, 1, none⟩ v) w.heap.size v' cs' ∧ CSm cs' ∧ cs'.length ≤ 5000 ∧ Src ((W.setCell ⟨w.heap.size, 0, none⟩ (.int .i64 V)).setCell ⟨w.heap.size, 1, none⟩ v) b ∧ Only b w ((W.setCell ⟨w.heap.size, 0, none⟩ (.int .i64 V)).setCell ⟨w.heap.size, 1, none⟩ v)) ∧ ((W.setCell ⟨w.heap.size, 0, none⟩ (.int .i64 V)).setCell ⟨w.heap.size, 1, none⟩ v).cell? ⟨w.heap.size, 0, none⟩ = some (.int .i64 V) ∧ ((W.setCell ⟨w.heap.size, 0, none⟩ (.int .i64 V)).setCell ⟨w.heap.size, 1, none⟩ v).cell? ⟨w.heap.size, 1, none⟩ = some v := by
  have h1 := heap_setCell_same W w.heap.size 0 _ 25 (.int .i64 V) hres
  have h2 : ((W.setCell ⟨w.heap.size, 0, none⟩ (.int .i64 V)).setCell ⟨w.heap.size, 1, none⟩ v).heap[w.heap.size]? = some (.cells #[.int .i64 V, v] 25) := heap_setCell_same _ w.heap.size 1 _ 25 v h1
  exact ⟨⟨V, v, cs, rfl, owc_box (owc_box oc hres (by decide) (by decide) 0 _) h1 (by decide) (by decide) 1 _, hm, hl, (hsrc.box (by omega) (nobyte rfl hres) 0 _).box (by omega) (nobyte rfl h1) 1 _, (ho.setHigh w.heap.size (Nat.le_refl _) 0 _).setHigh w.heap.size (Nat.le_refl _) 1 _⟩, by simp [World.cell?, h2], by simp [World.cell?, h2]⟩

set_option maxRecDepth 100000 in
set_option maxHeartbeats 8000000 in
/-- spec.l06Cnf. -/
theorem lcnf_any (B b : Nat) (w : World) (hs : SrcB B w b) (H : ∀ (rs : List LSt) (ps : List LPr) (top : Int) (ids : List Int) (cs : List LCl), bareC cs = cnA rs ps top ids → CSm cs ∧ cs.length ≤ 5000) :
    Calls Tryd.prog 45 #[.pointer (some ⟨b, 0, none⟩)] w fun e w' => ∃ (vars : Int) (v : Value) (cs : List LCl), e = .returned (.agg #[.int .i64 vars, v]) ∧ OwC w' w.heap.size v cs ∧ CSm cs ∧ cs.length ≤ 5000 ∧ Src w' b ∧ Only b w w' := by
  have hbB := hs.1
  have hBw := hs.2.1
  have S0 := Lib.hid (hs.below (bA0 w (.cells #[.int .i64 0, .slice none 0 0] 25)))
  have O0 := Lib.hid (Only.of_below (b := b) (bA0 w (.cells #[.int .i64 0, .slice none 0 0] 25)))
  have R0 := Lib.hid (new_at w (.cells #[.int .i64 0, .slice none 0 0] 25))
  have hz0 : (w.alloc (.cells #[.int .i64 0, .slice none 0 0] 25)).heap.size = w.heap.size + 1 := by simp
  clear hs
  go_enter Tryd.func45, Tryd.ntmps45
  go_wp2_with fail
  generalize w.alloc (.cells #[.int .i64 0, .slice none 0 0] 25) = wA at *
  refine (oneB_any B b 3 wA (by decide) S0.out).mono ?_
  rintro e w1 ⟨t1, rfl, s1, n1⟩
  have S1 := Lib.hid s1
  have O1 := Lib.hid (O0.out.trans n1)
  have R1 : Hid (w1.heap[w.heap.size]? = some (.cells #[.int .i64 0, .slice none 0 0] 25)) := (n1.block _ (Array.getElem?_eq_some_iff.1 R0.out).1 (by omega)).trans R0.out
  have hz1 := n1.size
  clear s1 n1 S0 O0 R0
  cases t1 with
  | true =>
    have Q0 := Lib.hid S1.out.src
    clear S1
    go_wp2_with fail
    refine (tab_any b w1 Q0.out).mono ?_
    rintro e w2 ⟨sl, cap, sl2, cap2, rs, ps, rfl, hn, hp, hwf, s2, n2, keep⟩
    have hz2 := n2.size
    have ST := Lib.hid ((SrcB.of s2).below (bA0 w2 (.cells #[.slice sl rs.length cap, .slice sl2 ps.length cap2] 97)))
    have OT := Lib.hid ((O1.out.trans n2).trans (Only.of_below (b := b) (bA0 w2 (.cells #[.slice sl rs.length cap, .slice sl2 ps.length cap2] 97))))
    have TT := Lib.hid (new_at w2 (.cells #[.slice sl rs.length cap, .slice sl2 ps.length cap2] 97))
    have RT : Hid ((w2.alloc (.cells #[.slice sl rs.length cap, .slice sl2 ps.length cap2] 97)).heap[w.heap.size]? = some (.cells #[.int .i64 0, .slice none 0 0] 25)) := by
      have rl := (Array.getElem?_eq_some_iff.1 R1.out).1
      have h2 := (n2.block _ rl (by omega)).trans R1.out
      exact ((bA0 w2 (.cells #[.slice sl rs.length cap, .slice sl2 ps.length cap2] 97)).block _ (Array.getElem?_eq_some_iff.1 h2).1).trans h2
    have hcw : w.heap.size < w2.heap.size := by
      have := (Array.getElem?_eq_some_iff.1 R1.out).1
      omega
    have hbw1 : b < w1.heap.size := by
      have := (Array.getElem?_eq_some_iff.1 R1.out).1
      omega
    have hsA : (w2.alloc (.cells #[.slice sl rs.length cap, .slice sl2 ps.length cap2] 97)).heap.size = w2.heap.size + 1 := by simp
    have STS : ∀ W', Only b (w2.alloc (.cells #[.slice sl rs.length cap, .slice sl2 ps.length cap2] 97)) W' → Sts W' sl rs ∧ Prs W' sl2 ps := fun W' h => keep W' (by have := h.size; omega) (fun k k1 k2 => (h.block k (by omega) (by omega)).trans ((bA0 w2 (.cells #[.slice sl rs.length cap, .slice sl2 ps.length cap2] 97)).block k k2))
    have E1 : Hid (∀ W, Only b (w2.alloc (.cells #[.slice sl rs.length cap, .slice sl2 ps.length cap2] 97)) W → SrcB w2.heap.size W b → Calls Tryd.prog 77 #[.pointer (some ⟨b, 0, none⟩), TV sl rs.length cap sl2 ps.length cap2] W fun e w' => ∃ v zs, e = .returned v ∧ List.length zs ≤ 15 ∧ w'.ownsRow W.heap.size 2 1 v zs.length (valsZ zs) ∧ SrcB w2.heap.size w' b ∧ Only b W w') := fun W h1 h2 => lids_any w2.heap.size b sl cap sl2 ps.length cap2 rs W hn h2 (fun W' h3 => (STS W' (h1.trans h3)).1)
    have E2 : Hid (∀ (W : World) (s : Option Addr) (k : Nat) (zs : List Int) (top : Int), Only b (w2.alloc (.cells #[.slice sl rs.length cap, .slice sl2 ps.length cap2] 97)) W → Ints W s zs → zs.length ≤ 15 → Calls Tryd.prog 75 #[TV sl rs.length cap sl2 ps.length cap2, .int .i64 top, .slice s zs.length k] W fun e w' => ∃ (vars : Int) (vs : Option Addr) (vk : Nat) (cs : List LCl), e = .returned (.agg #[.int .i64 vars, .slice vs cs.length vk]) ∧ OwC w' W.heap.size (.slice vs cs.length vk) cs ∧ CSm cs ∧ cs.length ≤ 5000 ∧ Below W.heap.size W w') := fun W s k zs top h1 h2 h3 => by
      obtain ⟨t1, t2⟩ := STS W h1
      refine (sco_any sl cap sl2 cap2 s k rs ps top zs W (by omega) (by omega) t1 t2 h2).mono ?_
      rintro e w' ⟨v, cs, rfl, oc, hcs, bl⟩
      obtain ⟨vs, vk, rfl⟩ := oc.v
      obtain ⟨m1, m2⟩ := H rs ps top zs cs hcs
      exact ⟨_, vs, vk, cs, rfl, oc, m1, m2, bl⟩
    have KT : Hid (∀ W, Only b (w2.alloc (.cells #[.slice sl rs.length cap, .slice sl2 ps.length cap2] 97)) W → w2.heap.size < W.heap.size ∧ W.cell? ⟨w2.heap.size, 0, none⟩ = some (.slice sl rs.length cap) ∧ W.cell? ⟨w2.heap.size, 1, none⟩ = some (.slice sl2 ps.length cap2)) := fun W hW => by
      have h0 := (hW.block w2.heap.size (by omega) (by omega)).trans TT.out
      exact ⟨(Array.getElem?_eq_some_iff.1 h0).1, by simp [World.cell?, h0], by simp [World.cell?, h0]⟩
    have KR : Hid (∀ W, Only b (w2.alloc (.cells #[.slice sl rs.length cap, .slice sl2 ps.length cap2] 97)) W → W.heap[w.heap.size]? = some (.cells #[.int .i64 0, .slice none 0 0] 25)) := fun W hW => (hW.block w.heap.size (by omega) (by omega)).trans RT.out
    clear STS keep s2 n2 R1 O1 Q0 hwf TT RT hn hp
    generalize rs.length = n at *
    generalize ps.length = m at *
    go_wp2_with fail
    generalize w2.alloc (.cells #[.slice sl n cap, .slice sl2 m cap2] 97) = wA at *
    generalize w2.heap.size = c at *
    have N0 : Hid (Only b wA wA.drew) := (Only.refl b wA).drew
    have T0 : Hid (SrcB c wA.drew b) := ⟨ST.out.1, ST.out.2.1, ST.out.2.2⟩
    refine wp_region_held_drew (S := fun W => c < W.heap.size ∧ W.cell? ⟨c, 0, none⟩ = some (.slice sl n cap) ∧ W.cell? ⟨c, 1, none⟩ = some (.slice sl2 m cap2)) (by kernel_rfl) ?_ (fun hHeld => ?_)
    · exact KT.out _ N0.out
    refine wpAnyH_take (i := 0) (oi := _) (v := ?_) rfl (by kernel_rfl) (by kernel_rfl) (by kernel_rfl) (fun _ _ _ h => h) (Or.inl ⟨by rfl, ?_⟩) (by assumption) ?_
    rotate_left
    · intro w hSw; (try dsimp only at hSw); go_simp; try with_reducible rfl
    try simp only [Act.put, List.setIfInBounds_toArray, List.set_cons_zero, List.set_cons_succ, List.getElem_toArray, List.getElem_cons_succ, List.getElem_cons_zero]
    refine wpAnyH_take (i := 1) (oi := _) (v := ?_) rfl (by kernel_rfl) (by kernel_rfl) (by kernel_rfl) (fun _ _ _ h => h) (Or.inl ⟨by rfl, ?_⟩) (by assumption) ?_
    rotate_left
    · intro w hSw; (try dsimp only at hSw); go_simp; try with_reducible rfl
    try simp only [Act.put, List.setIfInBounds_toArray, List.set_cons_zero, List.set_cons_succ, List.getElem_toArray, List.getElem_cons_succ, List.getElem_cons_zero]
    refine wpAnyH_take (i := 3) (oi := _) (v := ?_) rfl (by kernel_rfl) (by kernel_rfl) (by kernel_rfl) (fun _ _ _ h => h) (Or.inl ⟨by rfl, ?_⟩) (by assumption) ?_
    rotate_left
    · intro w hSw; (try dsimp only at hSw); go_simp; try with_reducible rfl
    try simp only [Act.put, List.setIfInBounds_toArray, List.set_cons_zero, List.set_cons_succ, List.getElem_toArray, List.getElem_cons_succ, List.getElem_cons_zero]
    refine wpAnyH_take (i := 4) (oi := _) (v := ?_) rfl (by kernel_rfl) (by kernel_rfl) (by kernel_rfl) (fun _ _ _ h => h) (Or.inl ⟨by rfl, ?_⟩) (by assumption) ?_
    rotate_left
    · intro w hSw; (try dsimp only at hSw); go_simp; try with_reducible rfl
    try simp only [Act.put, List.setIfInBounds_toArray, List.set_cons_zero, List.set_cons_succ, List.getElem_toArray, List.getElem_cons_succ, List.getElem_cons_zero]
    refine wpAnyH_ready (rs := [2]) (by kernel_rfl) (by simp) ?_
    refine AllReadyH.cons rfl (fun K hK => ?_) AllReadyH.nil
    go_simp
    go_wp2_with (go_at_call 76; refine (top_any c b _ T0.out).mono ?_; rintro e w3 ⟨tp, rfl, s3, n3⟩)
    have N3 := Lib.hid (N0.out.trans n3)
    have S3 := Lib.hid s3
    clear s3 n3
    refine hK.out _ _ ?_ (fun hHeld => ?_)
    · exact KT.out _ N3.out
    clear hK K
    refine wpAnyH_ready (rs := [5]) (by kernel_rfl) (by simp) ?_
    refine AllReadyH.cons rfl (fun K hK => ?_) AllReadyH.nil
    go_simp
    go_wp2_with (go_at_call 77; refine (E1.out _ N3.out S3.out).mono ?_; rintro e w5 ⟨v5, zs, rfl, hzs, o5, s5, n5⟩)
    have N5 := Lib.hid (N3.out.trans n5)
    have S5 := Lib.hid s5
    obtain ⟨is, ik, rfl, ii⟩ := own_ints o5
    have I5 := Lib.hid ii
    have hz5 := n5.size
    clear o5 n5 s5 ii
    refine hK.out _ _ ?_ (fun hHeld => ?_)
    · exact KT.out _ N5.out
    clear hK K
    refine wpAnyH_ready (rs := [6]) (by kernel_rfl) (by simp) ?_
    refine AllReadyH.cons rfl (fun K hK => ?_) AllReadyH.nil
    go_simp
    go_wp2_with (go_at_call 75; refine (E2.out _ is ik zs tp N5.out I5.out hzs).mono ?_; rintro e w6 ⟨vars, vs, vk, cs, rfl, oc6, m6, l6, b6⟩)
    have N6 := Lib.hid (N5.out.trans (Only.of_below b6))
    have S6 := Lib.hid (S5.out.below b6)
    have hz6 := N5.out.size
    have FF := road_fin (V := vars) S6.out.src (OT.out.trans N6.out) (KR.out _ N6.out) (by omega) (oc6.mono (by omega)) m6 l6
    obtain ⟨F, q0, q1⟩ := FF
    have FH := Lib.hid F
    have RR := Lib.hid (And.intro q0 q1)
    have h6 := KR.out _ N6.out
    have R6 := Lib.hid h6
    clear F q0 q1 oc6 m6 l6 b6 h6
    generalize cs.length = cn at *
    refine hK.out _ _ ?_ (fun hHeld => ?_)
    · exact KT.out _ N6.out
    clear hK K
    have f1 := (Array.getElem?_eq_some_iff.1 R6.out).1
    have f2 : w6.cell? ⟨w.heap.size, 0, none⟩ = some (.int .i64 0) := by simp [World.cell?, R6.out]
    have f3 : w6.cell? ⟨w.heap.size, 1, none⟩ = some (.slice none 0 0) := by simp [World.cell?, R6.out]
    have f4 : w6.frozen? ⟨w.heap.size, 0, none⟩ = false := by simp [World.frozen?, R6.out]
    have f5 : w6.frozen? ⟨w.heap.size, 1, none⟩ = false := by simp [World.frozen?, R6.out]
    have K6 : Hid (∀ (x y : Value), c < ((w6.setCell ⟨w.heap.size, 0, none⟩ x).setCell ⟨w.heap.size, 1, none⟩ y).heap.size ∧ ((w6.setCell ⟨w.heap.size, 0, none⟩ x).setCell ⟨w.heap.size, 1, none⟩ y).cell? ⟨c, 0, none⟩ = some (.slice sl n cap) ∧ ((w6.setCell ⟨w.heap.size, 0, none⟩ x).setCell ⟨w.heap.size, 1, none⟩ y).cell? ⟨c, 1, none⟩ = some (.slice sl2 m cap2)) := fun x y => by
      obtain ⟨k1, k2, k3⟩ := KT.out _ N6.out
      have e : ((w6.setCell ⟨w.heap.size, 0, none⟩ x).setCell ⟨w.heap.size, 1, none⟩ y).heap[c]? = w6.heap[c]? := (Below.heap_setCell _ _ _ _ (by show c ≠ w.heap.size; omega)).trans (Below.heap_setCell _ _ _ _ (by show c ≠ w.heap.size; omega))
      exact ⟨by simpa [World.setCell] using k1, (World.cell?_of_block e).trans k2, (World.cell?_of_block e).trans k3⟩
    refine wpAnyH_ready (rs := [7]) (by kernel_rfl) (by simp) ?_
    refine AllReadyH.cons rfl (fun K hK => ?_) AllReadyH.nil
    go_simp
    refine hK.out _ _ ?_ (fun hHeld => ?_)
    · exact K6.out _ _
    clear hK K
    refine wpAnyH_done (by kernel_rfl) ?_ _
    go_wp2
    obtain ⟨q0, q1⟩ := RR.out
    exact bodyPost_ret (v := .agg #[.int .i64 vars, .slice vs cn vk]) (by simp [results, Tryd.results45, go_sem, q0, q1]) rfl FH.out
  | false =>
    go_wp2_with fail
    refine (nB_lt B b 6 w1 (by decide) (by decide) S1.out).mono ?_
    rintro e w2 ⟨r, rfl, r0, r1, s2, n2⟩
    obtain ⟨V, hV⟩ : ∃ V, wrap64 (1 + r) = V := ⟨_, rfl⟩
    have HV : Hid (1 ≤ V ∧ V ≤ 6) := by
      rw [wrap_in _ ⟨by omega, by omega⟩] at hV
      exact ⟨by omega, by omega⟩
    have hz2 := n2.size
    have C3 : Hid (CD w B b w2.heap.size V (.slice none 0 0) [] (w2.alloc (.cells #[.int .i64 V, .slice none 0 0] 25))) := by
      have rl := (Array.getElem?_eq_some_iff.1 R1.out).1
      have h2 : w2.heap[w.heap.size]? = some (.cells #[.int .i64 0, .slice none 0 0] 25) := (n2.block _ rl (by omega)).trans R1.out
      have bb := bA0 w2 (.cells #[.int .i64 V, .slice none 0 0] 25)
      exact ⟨s2.below bb, (O1.out.trans n2).trans (Only.of_below bb), (bb.block _ (Array.getElem?_eq_some_iff.1 h2).1).trans h2, new_at _ _, OwC.nil _ _, hBw, by omega⟩
    obtain ⟨bl, sz, b3, z0, z1⟩ := C3.out.src.size
    obtain ⟨m, hm⟩ : ∃ m, wrap64 (8 + wrap64 (2 * sz)) = m := ⟨_, rfl⟩
    have HM : 1 ≤ m ∧ m ≤ 32 := by
      rw [wrap_in (2 * sz) ⟨by omega, by omega⟩, wrap_in _ ⟨by omega, by omega⟩] at hm
      omega
    clear S1 O1 R1 s2 n2 r0 r1 hm
    go_wp2_with fail
    clear hV
    refine (nB_lt B b (8 + 2 * sz) _ (by omega) (by omega) C3.out.src).mono ?_
    rintro e w4 ⟨k0, rfl, k1, k2, s4, n4⟩
    have C4 := Lib.hid (C3.out.draw s4 n4)
    have HK0 : Hid (0 ≤ k0 ∧ k0 ≤ 32) := ⟨k1, by omega⟩
    clear s4 n4 C3 k1 k2 b3 z0 z1 bl HM hz2 hz1 hz0
    generalize w2.heap.size = O at *
    go_wp2
    go_loopw [5] (fun i wr => ∃ (k : Nat) (y : Int) (v : Value) (cs : List LCl), i = .int .i64 y ∧ Hid (y = (k : Int) ∧ cs.length + k ≤ 40) ∧ Hid (CD w B b O V v cs wr) ∧ Hid (CSm cs)) (fun i _ => (intOf i).toNat)
    case atStart =>
      obtain ⟨a1, a2⟩ := HK0.out
      exact ⟨k0.toNat, k0, _, [], rfl, ⟨by omega, by simp; omega⟩, C4, CSm.nil⟩
    case round =>
      obtain ⟨k, y, v, cs, rfl, HY, C5, M5⟩ := hrel
      obtain ⟨vs, vk, rfl⟩ := C5.out.oc.v
      by_cases hk : k = 0
      · have hy : y = 0 := by have := HY.out.1; omega
        subst hy
        have hlen := HY.out.2
        clear HY C4 HK0 hk
        go_wp2_with fail
        refine (oneB_any B b 15 wr (by decide) C5.out.src).mono ?_
        rintro e w5 ⟨t2, rfl, s5, n5⟩
        have C6 := Lib.hid (C5.out.draw s5 n5)
        clear s5 n5 C5
        cases t2 with
        | false =>
          have FF := C6.out.fin M5.out (by omega)
          obtain ⟨F, r0, r1⟩ := FF
          have FH := Lib.hid F
          have RR := Lib.hid (And.intro r0 r1)
          obtain ⟨f1, f2, f3, f4, f5, f6, f7, f8, f9, f10⟩ := C6.out.facts
          clear F r0 r1 C6 M5
          generalize cs.length = cn at *
          go_wp2
          obtain ⟨r0, r1⟩ := RR.out
          exact bodyPost_ret (v := .agg #[.int .i64 V, .slice vs cn vk]) (by simp [results, Tryd.results45, go_sem, r0, r1]) rfl FH.out
        | true =>
          go_wp2_with fail
          refine (nB_lt B b 5 w5 (by decide) (by decide) C6.out.src).mono ?_
          rintro e w6 ⟨r5, rfl, r50, r51, s6, n6⟩
          have C7 := Lib.hid (C6.out.draw s6 n6)
          clear s6 n6 C6
          have h5 : r5 = 0 ∨ r5 = 1 ∨ r5 = 2 ∨ r5 = 3 ∨ r5 = 4 := by omega
          rcases h5 with rfl | rfl | rfl | rfl | rfl
          · have hbw := C7.out.bb
            have hww := C7.out.facts.2.2.2.2.2.1
            go_wp2_with fail
            · refine (nB_lt B b 3 _ (by decide) (by decide) (C7.out.below (bA0 w6 (.cells #[.int .i64 (-1), .int .i64 96, .int .i64 97] 2))).src).mono ?_
              rintro e w7 ⟨r, rfl, r0, r1, s7, n7⟩
              have C9 := Lib.hid ((C7.out.below (bA0 w6 (.cells #[.int .i64 (-1), .int .i64 96, .int .i64 97] 2))).draw s7 n7)
              have HG : w7.heap[w6.heap.size]? = some (.cells #[.int .i64 (-1), .int .i64 96, .int .i64 97] 2) := (n7.block w6.heap.size (by simp) (by omega)).trans (new_at _ _)
              clear s7 n7 hbw hww
              generalize w6.heap.size = g at *
              have h3 : r = 0 ∨ r = 1 ∨ r = 2 := by omega
              have X0 : Hid (w7.cell? ⟨g, 0, none⟩ = some (.int .i64 (-1)) ∧ w7.cell? ⟨g, 1, none⟩ = some (.int .i64 96) ∧ w7.cell? ⟨g, 2, none⟩ = some (.int .i64 97)) := ⟨by simp [World.cell?, HG], by simp [World.cell?, HG], by simp [World.cell?, HG]⟩
              have GL := (Array.getElem?_eq_some_iff.1 HG).1
              obtain ⟨x0, x1, x2⟩ := X0.out
              have FN : ∀ x : Int, _ := fun x => ((C9.out.vars x).fin M5.out (by omega))
              have FC : ∀ x : Int, _ := fun x => (C9.out.vars x).facts
              obtain ⟨f1, f2, f3, f4, f5, f6, f7, f8, f9, f10⟩ := C9.out.facts
              clear C7 C9 M5 HG X0 f6 f7 f8 f9 f10
              generalize cs.length = cn at *
              rcases h3 with rfl | rfl | rfl
              · obtain ⟨F, q0, q1⟩ := FN (-1)
                have FH := Lib.hid F
                have RR := Lib.hid (And.intro q0 q1)
                obtain ⟨g1, g2, g3, g4, g5, g6, g7, g8, g9, g10⟩ := FC (-1)
                clear F q0 q1 FN FC
                go_wp2
                obtain ⟨q0, q1⟩ := RR.out
                exact bodyPost_ret (v := .agg #[.int .i64 (-1), .slice vs cn vk]) (by simp [results, Tryd.results45, go_sem, q0, q1]) rfl FH.out
              · obtain ⟨F, q0, q1⟩ := FN 96
                have FH := Lib.hid F
                have RR := Lib.hid (And.intro q0 q1)
                obtain ⟨g1, g2, g3, g4, g5, g6, g7, g8, g9, g10⟩ := FC 96
                clear F q0 q1 FN FC
                go_wp2
                obtain ⟨q0, q1⟩ := RR.out
                exact bodyPost_ret (v := .agg #[.int .i64 96, .slice vs cn vk]) (by simp [results, Tryd.results45, go_sem, q0, q1]) rfl FH.out
              · obtain ⟨F, q0, q1⟩ := FN 97
                have FH := Lib.hid F
                have RR := Lib.hid (And.intro q0 q1)
                obtain ⟨g1, g2, g3, g4, g5, g6, g7, g8, g9, g10⟩ := FC 97
                clear F q0 q1 FN FC
                go_wp2
                obtain ⟨q0, q1⟩ := RR.out
                exact bodyPost_ret (v := .agg #[.int .i64 97, .slice vs cn vk]) (by simp [results, Tryd.results45, go_sem, q0, q1]) rfl FH.out
          · have P1 := CD.put C7.out [0] (.slice (some ⟨w6.heap.size, 0, none⟩) 1 1) (w6.alloc (.cells #[.int .i64 0] 2)) (bA0 _ _) (own_one1 _ _) rfl (by omega)
            obtain ⟨s9, k9, w9, ha9, e1, e2, e3, C9⟩ := P1
            have M9 := M5.out.add (r := (.slice (some ⟨w6.heap.size, 0, none⟩) 1 1, [0])) (by simp) (fun z hz => by simp at hz <;> omega)
            have FF := C9.fin M9 (by simp; omega)
            obtain ⟨F, r0, r1⟩ := FF
            have FH := Lib.hid F
            have RR := Lib.hid (And.intro r0 r1)
            have G9 := Lib.hid C9.facts
            obtain ⟨f1, f2, f3, f4, f5, f6, f7, f8, f9, f10⟩ := C7.out.facts
            obtain ⟨g1, g2, g3, g4, g5, g6, g7, g8, g9, g10⟩ := G9.out
            have ha9' := ha9 23
            have hz1 : (w6.alloc (.cells #[.int .i64 0] 2)).heap.size = w6.heap.size + 1 := by simp
            rw [hz1] at ha9'
            clear hz1
            clear F r0 r1 C7 M5 C9 M9 ha9 f6 f7 f8 f9 f10 G9
            generalize cs.length = cn at *
            go_wp2_with (at_builtin; refine Lib.wpList_append_run _ rfl _ _ _ _ rfl _ _ rfl rfl _ _ ha9' ?_)
            obtain ⟨r0, r1⟩ := RR.out
            exact bodyPost_ret (v := .agg #[.int .i64 V, .slice s9 (cn + 1) k9]) (by simp [results, Tryd.results45, go_sem, r0, r1]) rfl FH.out
          · have P1 := CD.put C7.out [1, -1] (.slice (some ⟨w6.heap.size, 0, none⟩) 2 2) (w6.alloc (.cells #[.int .i64 1, .int .i64 (-1)] 2)) (bA0 _ _) (own_two _ _ _) rfl (by omega)
            obtain ⟨s9, k9, w9, ha9, e1, e2, e3, C9⟩ := P1
            have M9 := M5.out.add (r := (.slice (some ⟨w6.heap.size, 0, none⟩) 2 2, [1, -1])) (by simp) (fun z hz => by simp at hz <;> omega)
            have FF := C9.fin M9 (by simp; omega)
            obtain ⟨F, r0, r1⟩ := FF
            have FH := Lib.hid F
            have RR := Lib.hid (And.intro r0 r1)
            have G9 := Lib.hid C9.facts
            obtain ⟨f1, f2, f3, f4, f5, f6, f7, f8, f9, f10⟩ := C7.out.facts
            obtain ⟨g1, g2, g3, g4, g5, g6, g7, g8, g9, g10⟩ := G9.out
            have ha9' := ha9 23
            have hz1 : (w6.alloc (.cells #[.int .i64 1, .int .i64 (-1)] 2)).heap.size = w6.heap.size + 1 := by simp
            rw [hz1] at ha9'
            clear hz1
            clear F r0 r1 C7 M5 C9 M9 ha9 f6 f7 f8 f9 f10 G9
            generalize cs.length = cn at *
            go_wp2_with (at_builtin; refine Lib.wpList_append_run _ rfl _ _ _ _ rfl _ _ rfl rfl _ _ ha9' ?_)
            obtain ⟨r0, r1⟩ := RR.out
            exact bodyPost_ret (v := .agg #[.int .i64 V, .slice s9 (cn + 1) k9]) (by simp [results, Tryd.results45, go_sem, r0, r1]) rfl FH.out
          · have P1 := CD.put C7.out [] (.slice (some ⟨w6.heap.size, 0, none⟩) 0 0) (w6.alloc (.cells #[] 2)) (bA0 _ _) (own_none8 _) rfl (by omega)
            obtain ⟨s9, k9, w9, ha9, e1, e2, e3, C9⟩ := P1
            have M9 := M5.out.add (r := (.slice (some ⟨w6.heap.size, 0, none⟩) 0 0, [])) (by simp) (fun z hz => by simp at hz <;> omega)
            have FF := C9.fin M9 (by simp; omega)
            obtain ⟨F, r0, r1⟩ := FF
            have FH := Lib.hid F
            have RR := Lib.hid (And.intro r0 r1)
            have G9 := Lib.hid C9.facts
            obtain ⟨f1, f2, f3, f4, f5, f6, f7, f8, f9, f10⟩ := C7.out.facts
            obtain ⟨g1, g2, g3, g4, g5, g6, g7, g8, g9, g10⟩ := G9.out
            have ha9' := ha9 23
            have hz1 : (w6.alloc (.cells #[] 2)).heap.size = w6.heap.size + 1 := by simp
            rw [hz1] at ha9'
            clear hz1
            clear F r0 r1 C7 M5 C9 M9 ha9 f6 f7 f8 f9 f10 G9
            generalize cs.length = cn at *
            go_wp2_with (at_builtin; refine Lib.wpList_append_run _ rfl _ _ _ _ rfl _ _ rfl rfl _ _ ha9' ?_)
            obtain ⟨r0, r1⟩ := RR.out
            exact bodyPost_ret (v := .agg #[.int .i64 V, .slice s9 (cn + 1) k9]) (by simp [results, Tryd.results45, go_sem, r0, r1]) rfl FH.out
          · have C8 := Lib.hid ((C7.out.vars 20).below (bA0 _ (.cells #[] 2)))
            have O8 := own_none8 (w6.setCell ⟨O, 0, none⟩ (.int .i64 20))
            have hsz : (w6.setCell ⟨O, 0, none⟩ (.int .i64 20)).heap.size = w6.heap.size := by simp
            have hwr := C7.out.facts.2.2.2.2.2.1
            have hbw := C7.out.bb
            have LOW : Hid (∀ s ∈ cs, ∀ i, s.1.ownBlock = some i → i < w6.heap.size) := fun s hs i hi => ((C7.out.oc.each s hs).lt i hi).2
            have hs8 : ((w6.setCell ⟨O, 0, none⟩ (.int .i64 20)).alloc (.cells #[] 2)).heap.size = w6.heap.size + 1 := by simp
            rw [hsz] at O8
            have O9 := Lib.hid (And.intro O8 (show w6.heap.size ≤ ((w6.setCell ⟨O, 0, none⟩ (.int .i64 20)).alloc (.cells #[] 2)).heap.size by omega))
            obtain ⟨f1, f2, f3, f4, f5, f6, f7, f8, f9, f10⟩ := C7.out.facts
            clear O8 hs8 hsz C7 f6 f7 f8 f9 f10
            go_wp2
            generalize w6.heap.size = C at *
            clear f1 f2 f3 f4 f5
            go_loopw [9, 10] (fun l i wr2 => ∃ (q : Nat) (yj : Int) (ls : List Int), i = .int .i64 yj ∧ Hid (yj = (q : Int) + 1 ∧ ls.length = q ∧ q ≤ 17 ∧ ∀ z ∈ ls, 1 ≤ z ∧ z ≤ 18) ∧ Hid (wr2.ownsRow C 2 1 l ls.length (valsZ ls) ∧ C ≤ wr2.heap.size) ∧ Hid (CD w B b O 20 (.slice vs cs.length vk) cs wr2)) (fun _ i _ => (18 - intOf i).toNat)
            case atStart =>
              exact ⟨0, 1, [], rfl, ⟨by omega, rfl, by omega, fun z hz => by cases hz⟩, O9, C8⟩
            case round =>
              obtain ⟨q, yj, ls, rfl, HQ, G1, G2⟩ := hrel
              obtain ⟨lsl, lk, rfl⟩ := own_v G1.out.1
              clear C8 O9
              go_wp2_with fail
              refine (nB_lt B b 3 wr (by decide) (by decide) G2.out.src).mono ?_
              rintro e w8 ⟨r, rfl, r0, r1, s8, n8⟩
              have G8 := Lib.hid (G2.out.draw s8 n8)
              have L8 := Lib.hid (own_onlyD G1.out.1 n8 (by omega))
              have hs8 := n8.size
              have hlo := G1.out.2
              have hq1 := HQ.out.1
              have hq2 := HQ.out.2.1
              have hq3 := HQ.out.2.2.1
              have hw15 : wrap64 (15 + r) = 15 + r := wrap_in _ ⟨by omega, by omega⟩
              have hwy : wrap64 (yj + 1) = yj + 1 := wrap_in _ ⟨by omega, by omega⟩
              obtain ⟨f1, f2, f3, f4, f5, f6, f7, f8, f9, f10⟩ := G8.out.facts
              clear s8 n8 G1 G2
              by_cases hle : yj ≤ 15 + r
              · have HA := own_below L8.out (bA0 w8 (.cells #[.int .i64 yj] 2))
                obtain ⟨v9, w12, ha, ow, gr, hj⟩ := appZ HA 1 (ints_new w8 yj) (by simp; omega) (by simp; omega)
                obtain ⟨s12, k12, rfl⟩ := own_v ow
                have G12 : CD w B b O 20 (.slice vs cs.length vk) cs w12 := (G8.out.below (bA0 w8 (.cells #[.int .i64 yj] 2))).fresh HA (by omega) LOW.out gr
                have hgs := gr.size
                have REL : Hid (∃ (q : Nat) (y' : Int) (ls' : List Int), Value.int .i64 (yj + 1) = .int .i64 y' ∧ Hid (y' = (q : Int) + 1 ∧ ls'.length = q ∧ q ≤ 17 ∧ ∀ z ∈ ls', 1 ≤ z ∧ z ≤ 18) ∧ Hid (w12.ownsRow C 2 1 (.slice s12 (ls ++ [yj]).length k12) ls'.length (valsZ ls') ∧ C ≤ w12.heap.size) ∧ Hid (CD w B b O 20 (.slice vs cs.length vk) cs w12)) := ⟨q + 1, _, ls ++ [yj], rfl, ⟨by omega, by simp; omega, by omega, fun z hz => by
                  rcases List.mem_append.1 hz with h | h
                  · exact HQ.out.2.2.2 z h
                  · rw [List.mem_singleton.1 h]; omega⟩, ⟨ow, by simp at hgs; omega⟩, G12⟩
                have MES : Hid ((18 - (yj + 1)).toNat < (18 - yj).toNat) := by show _ < _; omega
                have ha' := ha 26
                clear ha ow gr hj HA G12 hgs HQ L8 G8 M5 LOW f1 f2 f3 f4 f5 f6 f7 f8 f9 f10 hq2 hq1 hq3
                generalize (ls ++ [yj]).length = lln9 at *
                generalize ls.length = lln at *
                go_wp2_with (at_builtin; refine Lib.wpList_append_run _ rfl _ _ _ _ rfl _ _ rfl rfl _ _ ha' ?_)
                rw [hwy]
                exact ⟨REL.out, MES.out⟩
              · have HA := G8.out.below (bA0 w8 (.cells #[.slice lsl ls.length lk] 26))
                have or2 := HA.oc.row
                rw [← hdC_len cs] at or2
                obtain ⟨v9, w9, ha9, ow9, gr9⟩ := appH or2 (.slice lsl ls.length lk) rfl w8.heap.size (cell_at_new w8 _ 26) (by simp; omega) (by rw [hdC_len]; omega)
                obtain ⟨s9, k9, rfl⟩ := own_v ow9
                rw [hdC_len] at ow9 ha9 gr9
                obtain ⟨e1, e2, e3⟩ := HA.slot gr9
                have C9 := HA.add (r := (.slice lsl ls.length lk, ls)) (own_mono (own_below L8.out (bA0 w8 (.cells #[.slice lsl ls.length lk] 26))) (by omega)) (fun j hj s hs e => by
                  have h1 := (L8.out.lt j hj).1
                  have h2 := LOW.out s hs j e
                  omega) gr9 ow9
                have M9 := M5.out.add (r := (.slice lsl ls.length lk, ls)) (by simp only []; omega) (fun z hz => by have := HQ.out.2.2.2 z hz; omega)
                have FF := C9.fin M9 (by simp; omega)
                obtain ⟨F, q0, q1⟩ := FF
                have FH := Lib.hid F
                have RR := Lib.hid (And.intro q0 q1)
                obtain ⟨g1, g2, g3, g4, g5, g6, g7, g8, g9, g10⟩ := C9.facts
                have ha9' := ha9 23
                clear F q0 q1 HA or2 ha9 ow9 gr9 C9 M9 G8 L8 HQ M5 LOW f6 f7 f8 f9 f10 hq2 hq1 hq3
                generalize ls.length = lln at *
                generalize cs.length = cn at *
                go_wp2_with (at_builtin; refine Lib.wpList_append_run _ rfl _ _ _ _ rfl _ _ rfl rfl _ _ ha9' ?_)
                obtain ⟨q0, q1⟩ := RR.out
                exact bodyPost_ret (v := .agg #[.int .i64 20, .slice s9 (cn + 1) k9]) (by simp [results, Tryd.results45, go_sem, q0, q1]) rfl FH.out
      · have hy1 : ¬ y ≤ 0 := by have := HY.out.1; omega
        have hy2 : wrap64 (y - 1) = y - 1 := wrap_in _ ⟨by have := HY.out; omega, by have := HY.out; omega⟩
        have C6 := Lib.hid (C5.out.below (bA0 wr (.cells #[] 2)))
        have O6 := Lib.hid (own_none8 wr)
        have hs6 : (wr.alloc (.cells #[] 2)).heap.size = wr.heap.size + 1 := by simp
        have hwr := C5.out.facts.2.2.2.2.2.1
        clear C4 HK0
        go_wp2_with fail
        refine (nB_lt B b 3 _ (by decide) (by decide) C6.out.src).mono ?_
        rintro e w7 ⟨r, rfl, r0, r1, s7, n7⟩
        have C7 := Lib.hid (C6.out.draw s7 n7)
        have hbb := C6.out.bb
        have O7 := Lib.hid (own_onlyD O6.out n7 (by omega))
        have HR : Hid (0 ≤ r ∧ r ≤ 2) := ⟨r0, by omega⟩
        have hsz7 := n7.size
        clear s7 n7 r0 r1 C6 O6
        generalize hC : wr.heap.size = C at *
        have HC := Lib.hid hC
        clear hC
        have HJ : Hid (1 ≤ wrap64 (1 + r) ∧ wrap64 (1 + r) ≤ 3) := by
          have h := HR.out
          show _ ∧ _
          rw [wrap_in _ ⟨by omega, by omega⟩]
          exact ⟨by omega, by omega⟩
        have LOW : Hid (∀ s ∈ cs, ∀ i, s.1.ownBlock = some i → i < C) := fun s hs i hi => by
          have h1 := ((C5.out.oc.each s hs).lt i hi).2
          have h2 := HC.out
          omega
        have hCw : w.heap.size < C := by omega
        go_wp2
        clear HR
        go_loopw [6, 7] (fun l i wr2 => ∃ (q : Nat) (yj : Int) (ls : List Int), i = .int .i64 yj ∧ Hid (yj = (q : Int) ∧ ls.length + q ≤ 3 ∧ ∀ z ∈ ls, -6 ≤ z ∧ z ≤ 6) ∧ Hid (wr2.ownsRow C 2 1 l ls.length (valsZ ls) ∧ C ≤ wr2.heap.size) ∧ Hid (CD w B b O V (.slice vs cs.length vk) cs wr2)) (fun _ i _ => (intOf i).toNat)
        case atStart =>
          obtain ⟨a1, a2⟩ := HJ.out
          exact ⟨(wrap64 (1 + r)).toNat, wrap64 (1 + r), [], rfl, ⟨by omega, by simp; omega, fun z hz => by cases hz⟩, ⟨O7.out, by omega⟩, C7⟩
        case round =>
          obtain ⟨q, yj, ls, rfl, HQ, G1, G2⟩ := hrel
          obtain ⟨lsl, lk, rfl⟩ := own_v G1.out.1
          obtain ⟨f1, f2, f3, f4, f5, f6, f7, f8, f9, f10⟩ := G2.out.facts
          clear f4 f7 f8 f9 f10
          by_cases hq : q = 0
          · have hyj : yj = 0 := by have := HQ.out.1; omega
            subst hyj
            have HA := G2.out.below (bA0 wr (.cells #[.slice lsl ls.length lk] 26))
            have or2 := HA.oc.row
            rw [← hdC_len cs] at or2
            have hlen := (HY.out).2
            obtain ⟨v9, w9, ha9, ow9, gr9⟩ := appH or2 (.slice lsl ls.length lk) rfl wr.heap.size (cell_at_new wr _ 26) (by simp; omega) (by rw [hdC_len]; omega)
            obtain ⟨s9, k9, rfl⟩ := own_v ow9
            rw [hdC_len] at ow9 ha9 gr9
            obtain ⟨e1, e2, e3⟩ := HA.slot gr9
            have hlo := G1.out.2
            have C9 := Lib.hid (HA.add (r := (.slice lsl ls.length lk, ls)) (own_mono (own_below G1.out.1 (bA0 wr (.cells #[.slice lsl ls.length lk] 26))) (by omega)) (fun j hj s hs e => by
              have h1 := (G1.out.1.lt j hj).1
              have h2 := LOW.out s hs j e
              omega) gr9 ow9)
            have M9 := Lib.hid (M5.out.add (r := (.slice lsl ls.length lk, ls)) (by have := HQ.out.2.1; simp only []; omega) (fun z hz => by have := HQ.out.2.2 z hz; omega))
            have ha9' := ha9 23
            have REL : Hid (∃ (k : Nat) (y' : Int) (v : Value) (cs' : List LCl), Value.int .i64 (y - 1) = .int .i64 y' ∧ Hid (y' = (k : Int) ∧ cs'.length + k ≤ 40) ∧ Hid (CD w B b O V v cs' (w9.setCell ⟨O, 1, none⟩ (.slice s9 (cs.length + 1) k9))) ∧ Hid (CSm cs')) := ⟨k - 1, _, _, _, rfl, ⟨by have := HY.out.1; omega, by simp; omega⟩, C9, M9⟩
            have MES : Hid ((y - 1).toNat < y.toNat) := by show _ < _; have := HY.out.1; omega
            clear HA or2 ha9 ow9 gr9 C9 M9 G1 G2 HQ HY C5 C7 O7 M5 LOW HJ hlen hlo hq hk f2
            generalize ls.length = lln at *
            generalize cs.length = cn at *
            go_wp2_with (at_builtin; refine Lib.wpList_append_run _ rfl _ _ _ _ rfl _ _ rfl rfl _ _ ha9' ?_)
            rw [hy2]
            exact ⟨REL.out, MES.out⟩
          · have hyj1 : ¬ yj ≤ 0 := by have := HQ.out.1; omega
            have hyj2 : wrap64 (yj - 1) = yj - 1 := wrap_in _ ⟨by have := HQ.out; omega, by have := HQ.out; omega⟩
            have hV1 := HV.out.1
            have hV2 := HV.out.2
            go_wp2_with fail
            refine (nB_lt B b V wr hV1 (by omega) G2.out.src).mono ?_
            rintro e w8 ⟨r1, rfl, a0, a1, s8, n8⟩
            have G8 := Lib.hid (G2.out.draw s8 n8)
            have hbw := G2.out.bb
            have L8 := Lib.hid (own_onlyD G1.out.1 n8 (by omega))
            have hs8 := n8.size
            have hlo := G1.out.2
            clear s8 n8
            go_wp2_with fail
            refine (nB_lt B b 2 w8 (by decide) (by decide) G8.out.src).mono ?_
            rintro e w9 ⟨r2, rfl, b0, b1, s9, n9⟩
            have G9 := Lib.hid (G8.out.draw s9 n9)
            have L9 := Lib.hid (own_onlyD L8.out n9 (by omega))
            have hs9 := n9.size
            clear s9 n9 L8 G8
            have REL2 : Hid (∀ (w' : World) (l' : Value) (ls' : List Int), ls'.length ≤ ls.length + 1 → (∀ z ∈ ls', -6 ≤ z ∧ z ≤ 6) → w'.ownsRow C 2 1 l' ls'.length (valsZ ls') ∧ C ≤ w'.heap.size → CD w B b O V (.slice vs cs.length vk) cs w' → ∃ (q : Nat) (y' : Int) (ls : List Int), Value.int .i64 (yj - 1) = .int .i64 y' ∧ Hid (y' = (q : Int) ∧ ls.length + q ≤ 3 ∧ ∀ z ∈ ls, -6 ≤ z ∧ z ≤ 6) ∧ Hid (w'.ownsRow C 2 1 l' ls.length (valsZ ls) ∧ C ≤ w'.heap.size) ∧ Hid (CD w B b O V (.slice vs cs.length vk) cs w')) := fun w' l' ls' h1 h2 h3 h4 => ⟨q - 1, _, ls', rfl, ⟨by have := HQ.out.1; omega, by have := HQ.out.2.1; omega, h2⟩, h3, h4⟩
            have MES2 : Hid ((yj - 1).toNat < yj.toNat) := by show _ < _; have := HQ.out.1; omega
            have hr2 : r2 = 0 ∨ r2 = 1 := by omega
            rcases hr2 with rfl | rfl
            · go_wp2_with fail
              generalize hgz : 1 + r1 = z at *
              have HZ : Hid (-6 ≤ z ∧ z ≤ 6) := ⟨by omega, by omega⟩
              have hnz : wrap64 (-z) = -z := wrap_in _ ⟨by have := HZ.out; omega, by have := HZ.out; omega⟩
              clear hgz
              obtain ⟨lls, llk, le, li⟩ := own_ints L9.out
              cases le
              have hl3 := HQ.out.2.1
              have K1 := Lib.hid (lhas_any lsl lk ls z w9 (by unfold maxLen; omega) li)
              have K2 := Lib.hid (lhas_any lsl lk ls (-z) w9 (by unfold maxLen; omega) li)
              have RSAME := Lib.hid (REL2.out w9 _ ls (by omega) HQ.out.2.2 ⟨L9.out, by omega⟩ G9.out)
              clear li
              by_cases m1 : z ∈ ls
              · rw [B_yes m1] at K1
                clear m1 K2 REL2 HQ G1 G2 L9 G9 HY C5 C7 O7 M5 LOW HJ HZ
                generalize ls.length = lln at *
                refine K1.out.mono ?_
                rintro e w10 ⟨rfl, rfl⟩
                go_wp2
                rw [hyj2]
                exact ⟨RSAME.out, MES2.out⟩
              · by_cases m2 : -z ∈ ls
                · rw [B_no m1] at K1
                  rw [B_yes m2] at K2
                  clear m1 m2 REL2 HQ G1 G2 L9 G9 HY C5 C7 O7 M5 LOW HJ HZ
                  generalize ls.length = lln at *
                  refine K1.out.mono ?_
                  rintro e w10 ⟨rfl, rfl⟩
                  go_wp2_with fail
                  refine K2.out.mono ?_
                  rintro e w11 ⟨rfl, rfl⟩
                  go_wp2
                  rw [hyj2]
                  exact ⟨RSAME.out, MES2.out⟩
                · rw [B_no m1] at K1
                  rw [B_no m2] at K2
                  have HA := own_below L9.out (bA0 w9 (.cells #[.int .i64 z] 2))
                  obtain ⟨v9, w12, ha, ow, gr, hj⟩ := appZ HA 1 (ints_new w9 z) (by simp; omega) (by simp; omega)
                  obtain ⟨s12, k12, rfl⟩ := own_v ow
                  have gb : ∀ j, (Value.slice lsl ls.length lk).ownBlock = some j → C ≤ j := fun j hj' => (HA.lt j hj').1
                  have G12 : CD w B b O V (.slice vs cs.length vk) cs w12 := (G9.out.below (bA0 w9 (.cells #[.int .i64 z] 2))).fresh HA (by omega) LOW.out gr
                  have hgs := gr.size
                  have RNEW := Lib.hid (REL2.out w12 _ (ls ++ [z]) (by simp) (fun y hy => by
                    rcases List.mem_append.1 hy with h | h
                    · exact HQ.out.2.2 y h
                    · rw [List.mem_singleton.1 h]; exact HZ.out) ⟨ow, by simp at hgs; omega⟩ G12)
                  have ha' := ha 26
                  clear ha ow gr hj HA G12 gb m1 m2 REL2 HQ G1 G2 L9 G9 HY C5 C7 O7 M5 LOW HJ HZ RSAME hgs
                  generalize (ls ++ [z]).length = lln9 at *
                  generalize ls.length = lln at *
                  refine K1.out.mono ?_
                  rintro e w10 ⟨rfl, rfl⟩
                  go_wp2_with fail
                  refine K2.out.mono ?_
                  rintro e w11 ⟨rfl, rfl⟩
                  go_wp2_with (at_builtin; refine Lib.wpList_append_run _ rfl _ _ _ _ rfl _ _ rfl rfl _ _ ha' ?_)
                  rw [hyj2]
                  exact ⟨RNEW.out, MES2.out⟩
            · go_wp2_with fail
              generalize hgz : -(1 + r1) = z at *
              have HZ : Hid (-6 ≤ z ∧ z ≤ 6) := ⟨by omega, by omega⟩
              have hnz : wrap64 (-z) = -z := wrap_in _ ⟨by have := HZ.out; omega, by have := HZ.out; omega⟩
              clear hgz
              obtain ⟨lls, llk, le, li⟩ := own_ints L9.out
              cases le
              have hl3 := HQ.out.2.1
              have K1 := Lib.hid (lhas_any lsl lk ls z w9 (by unfold maxLen; omega) li)
              have K2 := Lib.hid (lhas_any lsl lk ls (-z) w9 (by unfold maxLen; omega) li)
              have RSAME := Lib.hid (REL2.out w9 _ ls (by omega) HQ.out.2.2 ⟨L9.out, by omega⟩ G9.out)
              clear li
              by_cases m1 : z ∈ ls
              · rw [B_yes m1] at K1
                clear m1 K2 REL2 HQ G1 G2 L9 G9 HY C5 C7 O7 M5 LOW HJ HZ
                generalize ls.length = lln at *
                refine K1.out.mono ?_
                rintro e w10 ⟨rfl, rfl⟩
                go_wp2
                rw [hyj2]
                exact ⟨RSAME.out, MES2.out⟩
              · by_cases m2 : -z ∈ ls
                · rw [B_no m1] at K1
                  rw [B_yes m2] at K2
                  clear m1 m2 REL2 HQ G1 G2 L9 G9 HY C5 C7 O7 M5 LOW HJ HZ
                  generalize ls.length = lln at *
                  refine K1.out.mono ?_
                  rintro e w10 ⟨rfl, rfl⟩
                  go_wp2_with fail
                  refine K2.out.mono ?_
                  rintro e w11 ⟨rfl, rfl⟩
                  go_wp2
                  rw [hyj2]
                  exact ⟨RSAME.out, MES2.out⟩
                · rw [B_no m1] at K1
                  rw [B_no m2] at K2
                  have HA := own_below L9.out (bA0 w9 (.cells #[.int .i64 z] 2))
                  obtain ⟨v9, w12, ha, ow, gr, hj⟩ := appZ HA 1 (ints_new w9 z) (by simp; omega) (by simp; omega)
                  obtain ⟨s12, k12, rfl⟩ := own_v ow
                  have gb : ∀ j, (Value.slice lsl ls.length lk).ownBlock = some j → C ≤ j := fun j hj' => (HA.lt j hj').1
                  have G12 : CD w B b O V (.slice vs cs.length vk) cs w12 := (G9.out.below (bA0 w9 (.cells #[.int .i64 z] 2))).fresh HA (by omega) LOW.out gr
                  have hgs := gr.size
                  have RNEW := Lib.hid (REL2.out w12 _ (ls ++ [z]) (by simp) (fun y hy => by
                    rcases List.mem_append.1 hy with h | h
                    · exact HQ.out.2.2 y h
                    · rw [List.mem_singleton.1 h]; exact HZ.out) ⟨ow, by simp at hgs; omega⟩ G12)
                  have ha' := ha 26
                  clear ha ow gr hj HA G12 gb m1 m2 REL2 HQ G1 G2 L9 G9 HY C5 C7 O7 M5 LOW HJ HZ RSAME hgs
                  generalize (ls ++ [z]).length = lln9 at *
                  generalize ls.length = lln at *
                  refine K1.out.mono ?_
                  rintro e w10 ⟨rfl, rfl⟩
                  go_wp2_with fail
                  refine K2.out.mono ?_
                  rintro e w11 ⟨rfl, rfl⟩
                  go_wp2_with (at_builtin; refine Lib.wpList_append_run _ rfl _ _ _ _ rfl _ _ rfl rfl _ _ ha' ?_)
                  rw [hyj2]
                  exact ⟨RNEW.out, MES2.out⟩
end Go.Proofs.YtoobcodlgajieaaDoor
