/-
  A TABLE DRAWN.
-/
import Derived.Test.YtgfclllfkpblnaaSf
import Derived.Test.YtgfclllfkpblnaaPa
import Derived.Deep.RegionHeldLaw
import Derived.Deep.RegionLaw
import Derived.Deep.DeepCutAuto
import Derived.Deep.CutRange
namespace Go.Proofs.Ytgfclllfkpblnaa
open Go.RowKit
set_option linter.unusedVariables false

theorem info80 : (Try.prog.info? 67).map (fun i => (i.zero, i.size, i.bytes)) = some (some (.agg #[.int .i64 0, .int .i64 0, .slice none 0 0]), 3, 40) := by kernel_rfl
theorem info82 : (Try.prog.info? 69).map (fun i => (i.zero, i.size, i.bytes)) = some (some (.agg #[.int .i64 0, .int .i64 0, .int .i64 0]), 3, 24) := by kernel_rfl
theorem kind_ok (r : Nat) (h : (r : Int) < 3) : 0 ≤ IntKind.i64.wrap (1 + IntKind.i64.wrap ((r : Int) / 2)) ∧ IntKind.i64.wrap (1 + IntKind.i64.wrap ((r : Int) / 2)) ≤ 1000 := by
  have h : r = 0 ∨ r = 1 ∨ r = 2 := by omega
  rcases h with rfl | rfl | rfl <;> decide
theorem hd_set {rs : List LSt} {j : Nat} {r' : LSt} (h : ∀ r ∈ rs, r.2.2.2.length ≤ 1048576) (h' : r'.2.2.2.length ≤ 1048576) : ∀ r ∈ rs.set j r', r.2.2.2.length ≤ 1048576 := fun r hr => by
  rcases List.mem_or_eq_of_mem_set hr with hr | rfl
  · exact h r hr
  · exact h'
theorem set_alloc (w : World) (g i : Nat) (v : Value) (o : Obj) (h : g < w.heap.size) : (w.alloc o).setCell ⟨g, i, none⟩ v = (w.setCell ⟨g, i, none⟩ v).alloc o := World.setCell_alloc_past o g i v h
theorem kind_ok3 (r : Nat) (h : (r : Int) < 2) : 0 ≤ IntKind.i64.wrap (3 * (r : Int)) ∧ IntKind.i64.wrap (3 * (r : Int)) ≤ 1000 := by
  have h : r = 0 ∨ r = 1 := by omega
  rcases h with rfl | rfl <;> decide
theorem three_new3 (w : World) (a b c : Value) (t : TypeId) : ∀ (j : Nat) (u : Value), [a, b, c][j]? = some u → (w.alloc (.cells #[a, b, c] t)).cell? ((⟨w.heap.size, 0, none⟩ : Addr).add j) = some u := by
  intro j u hu
  have hn := new_at w (.cells #[a, b, c] t)
  rw [show (⟨w.heap.size, 0, none⟩ : Addr).add j = ⟨w.heap.size, j, none⟩ by unfold Addr.add; by_cases h : j = 0 <;> simp [h]]
  simp only [World.cell?, hn]
  simpa using hu
/-- A station being drawn, in a variable of its own, with the row of its domain. -/
structure XI (xb : Nat) (x y : Int) (d : Value) (zs : List Int) (W : World) : Prop where
  at' : W.heap[xb]? = some (.cells #[.int .i64 x, .int .i64 y, d] 67)
  own : W.ownsRow (xb + 1) 2 1 d zs.length (valsZ zs)
theorem XI.lt {xb : Nat} {x y : Int} {d : Value} {zs : List Int} {W : World} (h : XI xb x y d zs W) : xb < W.heap.size := (Array.getElem?_eq_some_iff.1 h.at').1
theorem XI.facts {xb : Nat} {x y : Int} {d : Value} {zs : List Int} {W : World} (h : XI xb x y d zs W) : W.cell? ⟨xb, 0, none⟩ = some (.int .i64 x) ∧ W.cell? ⟨xb, 1, none⟩ = some (.int .i64 y) ∧ W.cell? ⟨xb, 2, none⟩ = some d ∧ (∀ o, W.frozen? ⟨xb, o, none⟩ = false) ∧ xb < W.heap.size :=
  ⟨by simp [World.cell?, h.at'], by simp [World.cell?, h.at'], by simp [World.cell?, h.at'], fun o => by simp [World.frozen?, h.at'], h.lt⟩
theorem XI.only {xb b : Nat} {x y : Int} {d : Value} {zs : List Int} {W W' : World} (h : XI xb x y d zs W) (ho : Only b W W') (hb : b < xb) : XI xb x y d zs W' :=
  ⟨(ho.block xb h.lt (by omega)).trans h.at', own_only h.own ho (by omega)⟩
theorem XI.below {xb : Nat} {x y : Int} {d : Value} {zs : List Int} {W W' : World} (h : XI xb x y d zs W) (ho : Below W.heap.size W W') : XI xb x y d zs W' :=
  ⟨(ho.block xb h.lt).trans h.at', own_below h.own ho⟩
theorem XI.store {xb : Nat} {x y : Int} {d d' : Value} {zs zs' : List Int} {W W' : World} (h : XI xb x y d zs W) (hg : W.grownBy W' d.ownBlock) (ho : W'.ownsRow (xb + 1) 2 1 d' zs'.length (valsZ zs')) : XI xb x y d' zs' (W'.setCell ⟨xb, 2, none⟩ d') :=
  ⟨heap_setCell_same W' xb 2 _ 67 _ ((hg.block xb h.lt (fun e => by have := own_base h.own e.symm; omega)).trans h.at'), own_setS ho xb (by omega) 2 _⟩
theorem own_new (w : World) (a : Value) (C : Nat) (h : C ≤ w.heap.size) : (w.alloc (.cells #[a] 2)).ownsRow C 2 1 (.slice (some ⟨w.heap.size, 0, none⟩) 1 1) 1 [a] :=
  ⟨rfl, .inr ⟨_, 1, #[a], rfl, h, new_at _ _, Nat.le_refl _, by unfold maxLen; omega, rfl, rfl⟩⟩
theorem own_some {C : Nat} {e : TypeId} {m : Nat} {v : Value} {n : Nat} {xs : List Value} {w : World} (h : w.ownsRow C e m v n xs) (hn : n ≠ 0) : ∃ k, v.ownBlock = some k := by
  rcases h.2 with ⟨_, h0⟩ | ⟨g, cap, cur, rfl, _⟩
  · exact absurd h0 hn
  · exact ⟨g, rfl⟩
section
variable {w : World} {b tb : Nat} {v1 v2 : Value} {rs : List LSt} {ps : List LPr} {W W' : World}
theorem TI.set (h : TI w b tb v1 v2 rs ps W) (c : Nat) (hc : tb < c) (hn : ∀ k, (v1.ownBlock = some k ∨ v2.ownBlock = some k ∨ ∃ r ∈ rs, r.2.2.1.ownBlock = some k) → k ≠ c) (o : Nat) (x : Value) : TI w b tb v1 v2 rs ps (W.setCell ⟨c, o, none⟩ x) := by
  have hb := h.hb
  have ht := h.htb
  exact ⟨hb, ht, h.src.set c (by omega) _ _, h.fr.setHigh c (by omega) _ _, (Below.heap_setCell _ _ _ _ (by show tb ≠ c; omega)).trans h.tab, (Below.heap_setCell _ _ _ _ (by show w.heap.size ≠ c; omega)).trans h.rc, own_keep h.st (fun j hj => Below.heap_setCell _ _ _ _ (hn j (.inl hj))), own_keep h.pr (fun j hj => Below.heap_setCell _ _ _ _ (hn j (.inr (.inl hj)))), fun r hr => own_keep (h.dom r hr) (fun j hj => Below.heap_setCell _ _ _ _ (hn j (.inr (.inr ⟨r, hr, hj⟩)))), h.ap⟩
theorem TI.fin2 (h : TI w b tb v1 v2 rs ps W) (hd : ∀ r ∈ rs, r.2.2.2.length ≤ 1048576) (hr : rs.length ≤ 14) (hp : ps.length ≤ 41) (hw : ∀ p ∈ ps, WfP p) :
    LtPost b w (.returned (.agg #[v1, v2])) ((W.setCell ⟨w.heap.size, 0, none⟩ v1).setCell ⟨w.heap.size, 1, none⟩ v2) := by
  have hb := h.hb
  have ht := h.htb
  have keep : ∀ k, k ≠ w.heap.size → ((W.setCell ⟨w.heap.size, 0, none⟩ v1).setCell ⟨w.heap.size, 1, none⟩ v2).heap[k]? = W.heap[k]? := fun k hk => (Below.heap_setCell _ _ _ _ hk).trans (Below.heap_setCell _ _ _ _ hk)
  have st' := own_keep (w' := (W.setCell ⟨w.heap.size, 0, none⟩ v1).setCell ⟨w.heap.size, 1, none⟩ v2) h.st (fun j hj => keep j (by have := own_base h.st hj; omega))
  have pr' := own_keep (w' := (W.setCell ⟨w.heap.size, 0, none⟩ v1).setCell ⟨w.heap.size, 1, none⟩ v2) h.pr (fun j hj => keep j (by have := own_base h.pr hj; omega))
  have dm' := fun r hr => own_keep (w' := (W.setCell ⟨w.heap.size, 0, none⟩ v1).setCell ⟨w.heap.size, 1, none⟩ v2) (h.dom r hr) (fun j hj => keep j (by have := own_base (h.dom r hr) hj; omega))
  obtain ⟨sl, cap, e1, -⟩ := own_sts st'
  obtain ⟨sl2, cap2, e2, -⟩ := own_prs pr'
  refine ⟨sl, cap, sl2, cap2, rs, ps, by rw [e1, e2], hr, hp, hw, ((h.src.set _ (Nat.le_refl _) 0 _).set _ (Nat.le_refl _) 1 _).src, (h.fr.setHigh _ (Nat.le_refl _) 0 _).setHigh _ (Nat.le_refl _) 1 _, fun W' hsz hk => ?_⟩
  have kk : ∀ {e : TypeId} {m : Nat} {v : Value} {n : Nat} {xs : List Value}, ((W.setCell ⟨w.heap.size, 0, none⟩ v1).setCell ⟨w.heap.size, 1, none⟩ v2).ownsRow (tb + 1) e m v n xs → W'.ownsRow (tb + 1) e m v n xs := fun h0 => own_keep h0 (fun j hj => hk j (by have := own_base h0 hj; omega) (h0.lt j hj).2)
  obtain ⟨sl', cap', e1', hs⟩ := own_sts (kk st')
  obtain ⟨sl2', cap2', e2', hp⟩ := own_prs (kk pr')
  rw [e1] at e1'
  rw [e2] at e2'
  cases e1'
  cases e2'
  refine ⟨⟨hs, fun r hr => ?_⟩, hp⟩
  obtain ⟨sd, cd, e, hi⟩ := own_ints (kk (dm' r hr))
  exact ⟨sd, cd, e, hi, hd r hr⟩
/-- The result's cells. -/
theorem TI.res (h : TI w b tb v1 v2 rs ps W) : W.cell? ⟨w.heap.size, 0, none⟩ = some (.slice none 0 0) ∧ W.cell? ⟨w.heap.size, 1, none⟩ = some (.slice none 0 0) ∧ W.frozen? ⟨w.heap.size, 0, none⟩ = false ∧ W.frozen? ⟨w.heap.size, 1, none⟩ = false ∧ w.heap.size < W.heap.size ∧ ((W.setCell ⟨w.heap.size, 0, none⟩ v1).setCell ⟨w.heap.size, 1, none⟩ v2).cell? ⟨w.heap.size, 0, none⟩ = some v1 ∧ ((W.setCell ⟨w.heap.size, 0, none⟩ v1).setCell ⟨w.heap.size, 1, none⟩ v2).cell? ⟨w.heap.size, 1, none⟩ = some v2 := by
  have e := heap_setCell_same _ w.heap.size 1 _ 26 v2 (heap_setCell_same W w.heap.size 0 _ 26 v1 h.rc)
  refine ⟨by simp [World.cell?, h.rc], by simp [World.cell?, h.rc], by simp [World.frozen?, h.rc], by simp [World.frozen?, h.rc], h.rlt, ?_, ?_⟩ <;> simp [World.cell?, e]
/-- All that the table has lies below B. -/
def Under (B : Nat) (v1 v2 : Value) (rs : List LSt) : Prop := ∀ k, (v1.ownBlock = some k ∨ v2.ownBlock = some k ∨ ∃ r ∈ rs, r.2.2.1.ownBlock = some k) → k < B
theorem TI.under (h : TI w b tb v1 v2 rs ps W) : Under W.heap.size v1 v2 rs := fun k hk => by
  rcases hk with hk | hk | ⟨r, hr, hk⟩
  · exact (h.st.lt k hk).2
  · exact (h.pr.lt k hk).2
  · exact ((h.dom r hr).lt k hk).2
theorem TI.high (h : TI w b tb v1 v2 rs ps W) {B : Nat} (hu : Under B v1 v2 rs) (hB : tb < B) {row : Option Nat} (hg : W.grownBy W' row) (hr : ∀ k, row = some k → B ≤ k) : TI w b tb v1 v2 rs ps W' :=
  h.other hg (fun j hj => by
    have h1 := hr j hj
    exact ⟨by omega, fun e => by have := hu j (.inl e); omega, fun e => by have := hu j (.inr (.inl e)); omega, fun r hr e => by have := hu j (.inr (.inr ⟨r, hr, e⟩)); omega⟩)
theorem TI.highSet (h : TI w b tb v1 v2 rs ps W) {B : Nat} (hu : Under B v1 v2 rs) (hB : tb < B) (c : Nat) (hc : B ≤ c) (o : Nat) (x : Value) : TI w b tb v1 v2 rs ps (W.setCell ⟨c, o, none⟩ x) :=
  h.set c (by omega) (fun k hk => by have := hu k hk; omega) o x
end

set_option maxRecDepth 100000 in
set_option maxHeartbeats 8000000 in
/-- l04Table. -/
theorem tab_any (b : Nat) (w : World) (hs : Src w b) :
    Calls Try.prog 15 #[.pointer (some ⟨b, 0, none⟩)] w fun e w' => LtPost b w e w' := by
  obtain ⟨i2, hi2, hz20, hz21, hz22⟩ := info_parts info2'
  obtain ⟨i80, hi80, hz80, hz81, hz82⟩ := info_parts info80
  obtain ⟨i82, hi82, hy80, hy81, hy82⟩ := info_parts info82
  have hb : b < w.heap.size := hs.lt
  have SB := Lib.hid (SrcB.of hs)
  have N : Hid (∀ (m : Int) (W : World), 1 ≤ m → m ≤ 100 → SrcB w.heap.size W b → Calls Try.prog 18 #[.pointer (some ⟨b, 0, none⟩), .int .i64 m] W fun e w' => ∃ r : Nat, e = .returned (.int .i64 (r : Int)) ∧ (r : Int) < m ∧ SrcB w.heap.size w' b ∧ Only b W w') := fun m W h1 h2 hs => by
    refine (nB_lt _ b m W h1 (by omega) hs).mono ?_
    rintro e w' ⟨r, rfl, r0, r1, h, o⟩
    exact ⟨r.toNat, by rw [Int.toNat_of_nonneg r0], by omega, h, o⟩
  have O : Hid (∀ (m : Int) (W : World), m ≤ 100 → SrcB w.heap.size W b → Calls Try.prog 17 #[.pointer (some ⟨b, 0, none⟩), .int .i64 m] W fun e w' => ∃ t : Bool, e = .returned (.bool t) ∧ SrcB w.heap.size w' b ∧ Only b W w') := fun m W h2 hs => oneB_any _ b m W (by omega) hs
  obtain ⟨sl0, len0, cap0, k0, mix0, sz0, sa0, sb0, sk0, sl1, sm1, sm2, sz1, sz2, sbl⟩ := hs
  have SA := Lib.hid sa0
  have T0 : Hid (TI w b (w.heap.size + 1) (.slice none 0 0) (.slice none 0 0) [] [] ((w.alloc (.cells #[.slice none 0 0, .slice none 0 0] 26)).alloc (.cells #[.slice none 0 0, .slice none 0 0] 26))) := by
    refine ⟨hb, by omega, (SB.out.below (bA0 _ _)).below (bA0 _ _), (((Only.refl b w).alloc _).alloc _), ?_, (Below.heap_alloc _ _ _ (by simp)).trans (new_at _ _), ⟨rfl, .inl ⟨rfl, rfl⟩⟩, ⟨rfl, .inl ⟨rfl, rfl⟩⟩, fun r hr => (by cases hr), List.Pairwise.nil⟩
    have := new_at (w.alloc (.cells #[.slice none 0 0, .slice none 0 0] 26)) (.cells #[.slice none 0 0, .slice none 0 0] 26)
    simpa using this
  have zc : ((w.alloc (.cells #[.slice none 0 0, .slice none 0 0] 26)).alloc (.cells #[.slice none 0 0, .slice none 0 0] 26)).cell? ⟨b, 3, none⟩ = some (.int .i64 sz0) := by
    have h1 := (((Only.refl b w).alloc (.cells #[.slice none 0 0, .slice none 0 0] 26)).alloc (.cells #[.slice none 0 0, .slice none 0 0] 26))
    have e : ((w.alloc (.cells #[.slice none 0 0, .slice none 0 0] 26)).alloc (.cells #[.slice none 0 0, .slice none 0 0] 26)).heap[b]? = w.heap[b]? := by
      rw [Below.heap_alloc _ _ _ (by simp; omega), Below.heap_alloc _ _ _ hb]
    have := SrcAt.cells (show SrcAt ((w.alloc (.cells #[.slice none 0 0, .slice none 0 0] 26)).alloc (.cells #[.slice none 0 0, .slice none 0 0] 26)) b sl0 len0 cap0 k0 mix0 sz0 from e.trans SA.out)
    exact this.2.2.2.1
  have bl2 : b < ((w.alloc (.cells #[.slice none 0 0, .slice none 0 0] 26)).alloc (.cells #[.slice none 0 0, .slice none 0 0] 26)).heap.size := by simp; omega
  clear sa0 sb0 SA
  have hq3 : 0 ≤ sz0.tdiv 3 ∧ sz0.tdiv 3 ≤ 4 := by rw [Int.tdiv_eq_ediv_of_nonneg sz1]; omega
  go_enter Try.func15, Try.ntmps15
  go_wp2_with fail
  refine (N.out _ _ (by omega) (by omega) T0.out.src).mono ?_
  rintro e w1 ⟨r1, rfl, hr1, s1, o1⟩
  have T1 := Lib.hid (T0.out.call s1 o1)
  clear s1 o1 zc bl2 T0
  have h1q : r1 ≤ 6 := by omega
  generalize htb : w.heap.size + 1 = tb at *
  go_wp2_with fail
  refine (O.out _ _ (by decide) T1.out.src).mono ?_
  rintro e w2 ⟨t2, rfl, s2, o2⟩
  have T2 := Lib.hid (T1.out.call s2 o2)
  clear s2 o2 T1
  go_upto_if 22 with fail
  go_cut [4] (fun v W => ∃ n : Nat, v = .int .i64 (n : Int) ∧ 2 ≤ n ∧ n ≤ 14 ∧ Hid (TI w b tb (.slice none 0 0) (.slice none 0 0) [] [] W))
  case first =>
    cases t2 with
    | false =>
      go_wp2_with fail
      go_meet
      exact ⟨2 + r1, by push_cast; rfl, by omega, by omega, T2⟩
    | true =>
      go_wp2_with fail
      refine (N.out _ _ (by decide) (by decide) T2.out.src).mono ?_
      rintro e w3 ⟨r3, rfl, hr3, s3, o3⟩
      have T3 := Lib.hid (T2.out.call s3 o3)
      clear s3 o3 T2
      go_wp2_with fail
      go_meet
      exact ⟨11 + r3, by push_cast; rfl, by omega, by omega, T3⟩
  case rest =>
    obtain ⟨n, rfl, hn2, hn14, T3⟩ := hcut
    clear T2
    go_wp2
    go_loopw [4, 5] (fun nv iv W => ∃ (k i : Nat) (v1 : Value) (rs : List LSt), nv = .int .i64 (k : Int) ∧ iv = .int .i64 (i : Int) ∧ 2 ≤ k + rs.length ∧ k + rs.length ≤ 14 ∧ i ≤ 2 * rs.length ∧ Hid (∀ r ∈ rs, (0 ≤ r.1 ∧ r.1 ≤ 1000) ∧ r.2.2.2 ≠ [] ∧ r.2.2.2.length ≤ 8) ∧ Hid (TI w b tb v1 (.slice none 0 0) rs [] W)) (fun nv _ _ => (intOf nv).toNat)
    case atStart => exact ⟨n, 0, .slice none 0 0, [], rfl, rfl, by simpa using hn2, by simpa using hn14, Nat.zero_le _, (fun r hr => by cases hr), T3⟩
    case round =>
      obtain ⟨k, i, v1, rs, rfl, rfl, hk2, hkr, hir, HR, H⟩ := hrel
      by_cases hk : 0 < k
      · have hk' : (0 : Int) < (k : Int) := by omega
        have hqk : Hid ((k : Int) - 1 = ((k - 1 : Nat) : Int)) := by show _ = _; omega
        go_wp2_with fail
        refine (N.out _ _ (by decide) (by decide) H.out.src).mono ?_
        rintro e w4 ⟨r4, rfl, hr4, s4, o4⟩
        have T4 := Lib.hid (H.out.call s4 o4)
        clear s4 o4
        go_wp2_with fail
        refine (N.out _ _ (by decide) (by decide) T4.out.src).mono ?_
        rintro e w5 ⟨r5, rfl, hr5, s5, o5⟩
        have T5 := Lib.hid (T4.out.call s5 o5)
        clear s5 o5 T4 H
        have hr4' : r4 ≤ 1 := by omega
        obtain ⟨x, EX'⟩ : ∃ x : Int, x = (i : Int) + 1 + (r4 : Int) := ⟨_, rfl⟩
        have EX := Lib.hid EX'
        obtain ⟨y, EY'⟩ : ∃ y : Int, y = 1 + (r5 : Int) := ⟨_, rfl⟩
        have HX := Lib.hid (show 0 ≤ x ∧ x ≤ 1000 by omega)
        have U5 := Lib.hid T5.out.under
        have tb5 := T5.out.lt
        have X6 : Hid (XI w5.heap.size x y (.slice none 0 0) [] (w5.alloc (.cells #[.int .i64 x, .int .i64 y, .slice none 0 0] 67))) := ⟨new_at _ _, ⟨rfl, .inl ⟨rfl, rfl⟩⟩⟩
        have T6 := Lib.hid (T5.out.alloc (.cells #[.int .i64 x, .int .i64 y, .slice none 0 0] 67))
        go_wp2
        rw [← EX', ← EY']
        obtain ⟨w6, e6⟩ : ∃ w6, w6 = w5.alloc (.cells #[.int .i64 x, .int .i64 y, .slice none 0 0] 67) := ⟨_, rfl⟩
        rw [← e6] at X6 T6 ⊢
        obtain ⟨xb, exb⟩ : ∃ xb, xb = w5.heap.size := ⟨_, rfl⟩
        rw [← exb] at X6 U5 tb5 ⊢
        clear e6 exb EX' EY' T5
        have hbx : b < xb := by have := T6.out.hb; have := T6.out.htb; omega
        go_loopw [7] (fun cv W => ∃ (c : Nat) (d : Value) (zs : List Int), cv = .int .i64 (c : Int) ∧ 2 ≤ c ∧ c ≤ 8 ∧ zs.length + 2 ≤ c ∧ Hid (XI xb x y d zs W) ∧ Hid (TI w b tb v1 (.slice none 0 0) rs [] W)) (fun cv _ => 8 - (intOf cv).toNat)
        case atStart => exact ⟨2, _, [], rfl, by omega, by omega, by simp, X6, T6⟩
        case round =>
          obtain ⟨c, d, zs, rfl, hc2, hc8, hzc, HXI, HTI⟩ := hrel
          clear X6 T6
          by_cases hc : c < 8
          · have hc' : (c : Int) < 8 := by omega
            go_wp2_with fail
            refine (O.out _ _ (by decide) HTI.out.src).mono ?_
            rintro e w7 ⟨t7, rfl, s7, o7⟩
            have T7 := Lib.hid (HTI.out.call s7 o7)
            have X7 := Lib.hid (HXI.out.only o7 hbx)
            clear s7 o7 HTI HXI
            cases t7 with
            | false =>
              go_wp2
              go_roundw
              case rel => exact ⟨c + 1, d, zs, by go_num, by omega, by omega, by omega, X7, T7⟩
              case measure => simp [intOf]; omega
            | true =>
              obtain ⟨x0, x1, x2, xf, xl⟩ := X7.out.facts
              have X8 := Lib.hid (X7.out.below (bA0 w7 (.cells #[.int .i64 (c : Int)] 2)))
              have T8 := Lib.hid (T7.out.alloc (.cells #[.int .i64 (c : Int)] 2))
              have EV := Lib.hid (show valsZ zs ++ [.int .i64 (c : Int)] = valsZ (zs ++ [(c : Int)]) by simp [valsZ])
              go_wp2_with (first | (at_builtin; refine wpList_append_lies _ rfl (.tmp 47) (.tmp 49) 27 rfl (xb + 1) 2 i2 (.int .i64 0) 1 8 Try.underlying27 hi2 hz20 hz21 hz22 rfl (by decide) _ _ _ rfl X8.out.own ⟨w7.heap.size, 0, none⟩ 1 1 [.int .i64 (c : Int)] rfl rfl (cell_one_new _ _ _) (by intro u hu; simp at hu; subst hu; rfl) (by decide) (by unfold maxLen; omega) (by omega) (by simp; omega) (w7.heap.size + 1) (by simp) ?_))
              intro g9 cap9 w9 own9 grow9 hg9 hlt9
              have XB9 := Lib.hid ((grow9.block xb X8.out.lt (fun e => by have := own_base X8.out.own e.symm; omega)).trans X8.out.at')
              have j0 : w9.cell? ⟨xb, 2, none⟩ = some d := by simp [World.cell?, XB9.out]
              have jf : w9.frozen? ⟨xb, 2, none⟩ = false := by simp [World.frozen?, XB9.out]
              have jl : xb < w9.heap.size := (Array.getElem?_eq_some_iff.1 XB9.out).1
              rw [EV.out] at own9
              have X9 := Lib.hid (X8.out.store (zs' := zs ++ [(c : Int)]) grow9 (by rw [List.length_append]; exact own9))
              have T9 := Lib.hid ((T8.out.high U5.out tb5 grow9 (fun k hk => by have := own_base X8.out.own hk; omega)).highSet U5.out tb5 xb (Nat.le_refl _) 2 (.slice (some ⟨g9, 0, none⟩) (zs.length + 1) cap9))
              clear own9 grow9 hg9 hlt9 x0 x1 x2 xf xl X8 T8 EV X7 T7
              go_wp2
              go_roundw
              case rel => exact ⟨c + 1, _, zs ++ [(c : Int)], by go_num, by omega, by omega, by simp; omega, X9, T9⟩
              case measure => simp [intOf]; omega
          · have hc' : ¬ (c : Int) < 8 := by omega
            obtain ⟨x0, x1, x2, xf, xl⟩ := HXI.out.facts
            obtain ⟨sld, capd, ed⟩ := own_v HXI.out.own
            subst ed
            by_cases hz : zs.length = 0
            · have hzb : ((zs.length : Int) == 0) = true := by rw [hz]; rfl
              have OD := Lib.hid HXI.out.own
              generalize hzl : zs.length = zl at *
              go_wp2_with fail
              refine (N.out _ _ (by decide) (by decide) HTI.out.src).mono ?_
              rintro e w7 ⟨r7, rfl, hr7, s7, o7⟩
              have T7 := Lib.hid (HTI.out.call s7 o7)
              have X7 := Lib.hid (HXI.out.only o7 hbx)
              clear s7 o7 x0 x1 x2 xf xl HTI HXI OD
              obtain ⟨x0, x1, x2, xf, xl⟩ := X7.out.facts
              have T8 := Lib.hid ((T7.out.highSet U5.out tb5 xb (Nat.le_refl _) 2 (.slice (some ⟨w7.heap.size, 0, none⟩) 1 1)).alloc (.cells #[.int .i64 (2 + (r7 : Int))] 2))
              have szq : (w7.setCell ⟨xb, 2, none⟩ (.slice (some ⟨w7.heap.size, 0, none⟩) 1 1)).heap.size = w7.heap.size := by simp [World.setCell]
              have OW := own_new (w7.setCell ⟨xb, 2, none⟩ (.slice (some ⟨w7.heap.size, 0, none⟩) 1 1)) (.int .i64 (2 + (r7 : Int))) (xb + 1) (by rw [szq]; omega)
              rw [szq] at OW
              have X8 : Hid (XI xb x y (.slice (some ⟨w7.heap.size, 0, none⟩) 1 1) [2 + (r7 : Int)] ((w7.setCell ⟨xb, 2, none⟩ (.slice (some ⟨w7.heap.size, 0, none⟩) 1 1)).alloc (.cells #[.int .i64 (2 + (r7 : Int))] 2))) := ⟨(Below.heap_alloc _ _ _ (by rw [szq]; exact xl)).trans (heap_setCell_same _ xb 2 _ 67 _ X7.out.at'), OW⟩
              clear OW X7 T7 hz hzl hzb szq
              go_upto_region 17 with fail
              obtain ⟨w8, e8⟩ : ∃ w8, w8 = ((w7.setCell ⟨xb, 2, none⟩ (.slice (some ⟨w7.heap.size, 0, none⟩) 1 1)).alloc (.cells #[.int .i64 (2 + (r7 : Int))] 2)) := ⟨_, rfl⟩
              rw [← e8] at X8 T8 ⊢
              obtain ⟨nb, enb⟩ : ∃ nb, nb = w7.heap.size := ⟨_, rfl⟩
              rw [← enb] at X8 ⊢
              clear e8 enb x0 x1 x2 xf xl
              obtain ⟨x0, x1, x2, xf, xl⟩ := X8.out.facts
              have DO := Lib.hid (own_mono X8.out.own (show tb + 1 ≤ xb + 1 by omega))
              have ZN := Lib.hid (show [2 + (r7 : Int)] ≠ [] ∧ [2 + (r7 : Int)].length ≤ 8 from ⟨by simp, by simp⟩)
              have HAP : Hid (∀ r' ∈ rs, r'.2.2.1.ownBlock ≠ (Value.slice (some ⟨nb, 0, none⟩) 1 1).ownBlock) := fun r' hr' e => by
                have h1 := own_base X8.out.own (j := nb) rfl
                have h2 := U5.out nb (.inr (.inr ⟨r', hr', e⟩))
                omega
              have tl9 := T8.out.lt
              have G0 := Lib.hid (T8.out.alloc (.cells #[.int .i64 x, .int .i64 y, (.slice (some ⟨nb, 0, none⟩) 1 1)] 67))
              obtain ⟨f0, f1, ff, fl⟩ := T8.out.facts
              go_wp2_with (first | (at_builtin; refine wpList_append_lies _ rfl (.tmp 62) (.tmp 64) 23 rfl (tb + 1) 67 i80 (.agg #[.int .i64 0, .int .i64 0, .slice none 0 0]) 3 40 Try.underlying23 hi80 hz80 hz81 hz82 rfl (by decide) _ _ _ rfl G0.out.st ⟨w8.heap.size, 0, none⟩ 1 1 [.int .i64 x, .int .i64 y, (.slice (some ⟨nb, 0, none⟩) 1 1)] rfl rfl (three_new3 _ _ _ _ _) (by intro u hu; simp at hu; rcases hu with rfl | rfl | rfl <;> rfl) (by decide) (by unfold maxLen; omega) (by omega) (by simp; omega) (w8.heap.size + 1) (by simp) ?_))
              intro g9 cap9 w9 own9 grow9 hg9 hlt9
              have TB9 := Lib.hid ((grow9.block tb G0.out.lt (fun e => by have := own_base G0.out.st e.symm; omega)).trans G0.out.tab)
              have j0 : w9.cell? ⟨tb, 0, none⟩ = some v1 := by simp [World.cell?, TB9.out]
              have jf : w9.frozen? ⟨tb, 0, none⟩ = false := by simp [World.frozen?, TB9.out]
              have jl : tb < w9.heap.size := (Array.getElem?_eq_some_iff.1 TB9.out).1
              have T10 := Lib.hid (G0.out.addS (x, y, (.slice (some ⟨nb, 0, none⟩) 1 1), [2 + (r7 : Int)]) grow9 own9 (own_below DO.out (bA0 _ _)) HAP.out)
              have HR2 : Hid (∀ r ∈ rs ++ [(x, y, (.slice (some ⟨nb, 0, none⟩) 1 1), [2 + (r7 : Int)])], (0 ≤ r.1 ∧ r.1 ≤ 1000) ∧ r.2.2.2 ≠ [] ∧ r.2.2.2.length ≤ 8) := fun r hr => by
                rcases List.mem_append.1 hr with hr | hr
                · exact HR.out r hr
                · simp at hr; subst hr; exact ⟨⟨HX.out.1, HX.out.2⟩, ZN.out⟩
              clear own9 grow9 hg9 hlt9 f0 f1 ff fl
              go_wp2
              go_roundw
              case rel => exact ⟨k - 1, i + 1 + r4, _, rs ++ [(x, y, (.slice (some ⟨nb, 0, none⟩) 1 1), [2 + (r7 : Int)])], by first | rfl | (congr 1; done) | (congr 1; omega), by have := EX.out; congr 1 <;> omega, by simp; omega, by simp; omega, by simp; omega, HR2, T10⟩
              case measure => simp [intOf]; omega
            · have hzb : ((zs.length : Int) == 0) = false := beq_eq_false_iff_ne.2 (by omega)
              have DO := Lib.hid (own_mono HXI.out.own (show tb + 1 ≤ xb + 1 by omega))
              have ZN := Lib.hid (show zs ≠ [] ∧ zs.length ≤ 8 from ⟨fun e => hz (by rw [e]; rfl), by omega⟩)
              have HAP : Hid (∀ r' ∈ rs, r'.2.2.1.ownBlock ≠ (Value.slice sld zs.length capd).ownBlock) := fun r' hr' e => by
                obtain ⟨m, hm⟩ := own_some HXI.out.own hz
                have h1 := own_base HXI.out.own hm
                have h2 := U5.out m (.inr (.inr ⟨r', hr', e.trans hm⟩))
                omega
              generalize hzl : zs.length = zl at *
              have HZL := Lib.hid hzl
              clear hzl
              have tl9 := HTI.out.lt
              have G0 := Lib.hid (HTI.out.alloc (.cells #[.int .i64 x, .int .i64 y, (.slice sld zl capd)] 67))
              obtain ⟨f0, f1, ff, fl⟩ := HTI.out.facts
              go_wp2_with (first | (at_builtin; refine wpList_append_lies _ rfl (.tmp 62) (.tmp 64) 23 rfl (tb + 1) 67 i80 (.agg #[.int .i64 0, .int .i64 0, .slice none 0 0]) 3 40 Try.underlying23 hi80 hz80 hz81 hz82 rfl (by decide) _ _ _ rfl G0.out.st ⟨wr.heap.size, 0, none⟩ 1 1 [.int .i64 x, .int .i64 y, (.slice sld zl capd)] rfl rfl (three_new3 _ _ _ _ _) (by intro u hu; simp at hu; rcases hu with rfl | rfl | rfl <;> rfl) (by decide) (by unfold maxLen; omega) (by omega) (by simp; omega) (wr.heap.size + 1) (by simp) ?_))
              intro g9 cap9 w9 own9 grow9 hg9 hlt9
              have TB9 := Lib.hid ((grow9.block tb G0.out.lt (fun e => by have := own_base G0.out.st e.symm; omega)).trans G0.out.tab)
              have j0 : w9.cell? ⟨tb, 0, none⟩ = some v1 := by simp [World.cell?, TB9.out]
              have jf : w9.frozen? ⟨tb, 0, none⟩ = false := by simp [World.frozen?, TB9.out]
              have jl : tb < w9.heap.size := (Array.getElem?_eq_some_iff.1 TB9.out).1
              have T10 := Lib.hid (G0.out.addS (x, y, (.slice sld zl capd), zs) grow9 own9 (by show World.ownsRow _ _ _ _ _ (List.length zs) _; rw [HZL.out]; exact own_below DO.out (bA0 _ _)) HAP.out)
              have HR2 : Hid (∀ r ∈ rs ++ [(x, y, (.slice sld zl capd), zs)], (0 ≤ r.1 ∧ r.1 ≤ 1000) ∧ r.2.2.2 ≠ [] ∧ r.2.2.2.length ≤ 8) := fun r hr => by
                rcases List.mem_append.1 hr with hr | hr
                · exact HR.out r hr
                · simp at hr; subst hr; exact ⟨⟨HX.out.1, HX.out.2⟩, ZN.out.1, by show List.length zs ≤ 8; rw [HZL.out]; exact ZN.out.2⟩
              clear own9 grow9 hg9 hlt9 f0 f1 ff fl
              go_wp2
              go_roundw
              case rel => exact ⟨k - 1, i + 1 + r4, _, rs ++ [(x, y, (.slice sld zl capd), zs)], by first | rfl | (congr 1; done) | (congr 1; omega), by have := EX.out; congr 1 <;> omega, by simp; omega, by simp; omega, by simp; omega, HR2, T10⟩
              case measure => simp [intOf]; omega
      · have hk' : ¬ (0 : Int) < (k : Int) := by omega
        obtain ⟨sl1, cap1, ev1⟩ := own_v H.out.st
        subst ev1
        go_wp2
        go_loopw [8] (fun iv W => ∃ (i : Nat) (v2 : Value) (ps : List LPr), iv = .int .i64 (i : Int) ∧ i ≤ rs.length ∧ ps.length ≤ 40 ∧ Hid (∀ p ∈ ps, WfP p) ∧ Hid (TI w b tb (.slice sl1 rs.length cap1) v2 rs ps W)) (fun iv _ => rs.length - (intOf iv).toNat)
        case atStart => exact ⟨0, _, [], rfl, Nat.zero_le _, Nat.zero_le _, (fun p hp => by cases hp), H⟩
        case round =>
          obtain ⟨i, v2, ps, rfl, hi, hps, WP, H3⟩ := hrel
          have hi0 : (0 : Int) ≤ (i : Int) := by omega
          obtain ⟨f0, f1, ff, fl⟩ := H3.out.facts
          by_cases hin : i < rs.length
          · have hin' : (i : Int) < (rs.length : Int) := by omega
            go_wp2
            go_loopw [9] (fun kv W => ∃ (k : Nat) (v2 : Value) (ps : List LPr), kv = .int .i64 (k : Int) ∧ k ≤ rs.length ∧ ps.length ≤ 40 ∧ Hid (∀ p ∈ ps, WfP p) ∧ Hid (TI w b tb (.slice sl1 rs.length cap1) v2 rs ps W)) (fun kv _ => rs.length - (intOf kv).toNat)
            case atStart => exact ⟨i + 1, v2, ps, by go_num, by omega, hps, WP, H3⟩
            case round =>
              clear f0 f1 ff fl H3 WP hps
              obtain ⟨k, v2, ps, rfl, hk4, hps, WP, H4⟩ := hrel
              have hk0 : (0 : Int) ≤ (k : Int) := by omega
              obtain ⟨sl2, cap2, ev2⟩ := own_v H4.out.pr
              subst ev2
              obtain ⟨f0, f1, ff, fl⟩ := H4.out.facts
              by_cases hkn : k < rs.length
              · have hkn' : (k : Int) < (rs.length : Int) := by omega
                by_cases hp4 : ps.length < 40
                · have hp4' : (ps.length : Int) < 40 := by omega
                  go_wp2_with fail
                  refine (O.out _ _ (by decide) H4.out.src).mono ?_
                  rintro e w8 ⟨t8, rfl, s8, o8⟩
                  have T8 := Lib.hid (H4.out.call s8 o8)
                  clear s8 o8 H4 f0 f1 ff fl
                  cases t8 with
                  | false =>
                    go_wp2
                    go_roundw
                    case rel => exact ⟨k + 1, _, ps, by go_num, by omega, hps, WP, T8⟩
                    case measure => simp [intOf]; omega
                  | true =>
                    obtain ⟨g1, cp, eg, hg1, gl, _, hc⟩ := own3_cells T8.out.st (by omega)
                    cases eg
                    have KS : Hid (∀ v2 ps W, TI w b tb (.slice (some ⟨g1, 0, none⟩) rs.length cap1) v2 rs ps W → tb < W.heap.size ∧ W.cell? ⟨tb, 0, none⟩ = some (.slice (some ⟨g1, 0, none⟩) rs.length cap1) ∧ g1 < W.heap.size ∧ W.cell? ⟨g1, i * 3, none⟩ = some (.int .i64 rs[i].1) ∧ W.cell? ⟨g1, k * 3, none⟩ = some (.int .i64 rs[k].1)) := fun v2 ps W h => by
                      obtain ⟨g', cp', eg', _, gl', _, hc'⟩ := own3_cells h.st (by omega)
                      cases eg'
                      exact ⟨h.lt, h.facts.1, gl', (hc' _ _ (stC_at rs i hin).1).1, (hc' _ _ (stC_at rs k hkn).1).1⟩
                    have AW := Lib.hid (And.intro (HR.out rs[i] (List.getElem_mem hin)).1 (HR.out rs[k] (List.getElem_mem hkn)).1)
                    generalize rs[i].1 = a at *
                    generalize rs[k].1 = a' at *
                    have K2 : Hid (∀ W W' : World, (tb < W.heap.size ∧ W.cell? ⟨tb, 0, none⟩ = some (.slice (some ⟨g1, 0, none⟩) rs.length cap1) ∧ g1 < W.heap.size ∧ W.cell? ⟨g1, i * 3, none⟩ = some (.int .i64 a) ∧ W.cell? ⟨g1, k * 3, none⟩ = some (.int .i64 a')) → W'.heap[tb]? = W.heap[tb]? → W'.heap[g1]? = W.heap[g1]? → W.heap.size ≤ W'.heap.size → (tb < W'.heap.size ∧ W'.cell? ⟨tb, 0, none⟩ = some (.slice (some ⟨g1, 0, none⟩) rs.length cap1) ∧ g1 < W'.heap.size ∧ W'.cell? ⟨g1, i * 3, none⟩ = some (.int .i64 a) ∧ W'.cell? ⟨g1, k * 3, none⟩ = some (.int .i64 a'))) := fun W W' h e1 e2 hs => ⟨Nat.lt_of_lt_of_le h.1 hs, (World.cell?_of_block (w := W) e1).trans h.2.1, Nat.lt_of_lt_of_le h.2.2.1 hs, (World.cell?_of_block (w := W) e2).trans h.2.2.2.1, (World.cell?_of_block (w := W) e2).trans h.2.2.2.2⟩
                    have T8d := Lib.hid T8.out.drew
                    clear hc gl hg1
                    go_wp2_with fail
                    refine wp_region_held_drew (S := fun W => tb < W.heap.size ∧ W.cell? ⟨tb, 0, none⟩ = some (.slice (some ⟨g1, 0, none⟩) rs.length cap1) ∧ g1 < W.heap.size ∧ W.cell? ⟨g1, i * 3, none⟩ = some (.int .i64 a) ∧ W.cell? ⟨g1, k * 3, none⟩ = some (.int .i64 a')) (by kernel_rfl) ?_ (fun hHeld => ?_)
                    · exact KS.out _ _ _ T8d.out
                    refine wpAnyH_take (i := 0) (oi := _) (v := ?_) rfl (by kernel_rfl) (by kernel_rfl) (by kernel_rfl) (fun _ _ _ h => h) (Or.inl ⟨by rfl, ?_⟩) (by assumption) ?_
                    rotate_left
                    · first | (intro w hSw; (try dsimp only at hSw); go_simp; done) | (intro w hSw; (try dsimp only at hSw); go_simp; with_reducible rfl)
                    try simp only [Act.put, List.setIfInBounds_toArray, List.set_cons_zero, List.set_cons_succ, List.getElem_toArray, List.getElem_cons_zero]
                    refine wpAnyH_take (i := 2) (oi := _) (v := ?_) rfl (by kernel_rfl) (by kernel_rfl) (by kernel_rfl) (fun _ _ _ h => h) (Or.inl ⟨by rfl, ?_⟩) (by assumption) ?_
                    rotate_left
                    · first | (intro w hSw; (try dsimp only at hSw); go_simp; done) | (intro w hSw; (try dsimp only at hSw); go_simp; with_reducible rfl)
                    try simp only [Act.put, List.setIfInBounds_toArray, List.set_cons_zero, List.set_cons_succ, List.getElem_toArray, List.getElem_cons_succ, List.getElem_cons_zero]
                    refine wpAnyH_take (i := 4) (oi := _) (v := ?_) rfl (by kernel_rfl) (by kernel_rfl) (by kernel_rfl) (fun _ _ _ h => h) (Or.inl ⟨by rfl, ?_⟩) (by assumption) ?_
                    rotate_left
                    · first | (intro w hSw; (try dsimp only at hSw); go_simp; done) | (intro w hSw; (try dsimp only at hSw); go_simp; with_reducible rfl)
                    try simp only [Act.put, List.setIfInBounds_toArray, List.set_cons_zero, List.set_cons_succ, List.getElem_toArray, List.getElem_cons_succ, List.getElem_cons_zero]
                    refine wpAnyH_take (i := 8) (oi := _) (v := ?_) rfl (by kernel_rfl) (by kernel_rfl) (by kernel_rfl) (fun _ _ _ h => h) (Or.inl ⟨by rfl, ?_⟩) (by assumption) ?_
                    rotate_left
                    · first | (intro w hSw; (try dsimp only at hSw); go_simp; done) | (intro w hSw; (try dsimp only at hSw); go_simp; with_reducible rfl)
                    try simp only [Act.put, List.setIfInBounds_toArray, List.set_cons_zero, List.set_cons_succ, List.getElem_toArray, List.getElem_cons_succ, List.getElem_cons_zero]
                    refine wpAnyH_take (i := 10) (oi := _) (v := ?_) rfl (by kernel_rfl) (by kernel_rfl) (by kernel_rfl) (fun _ _ _ h => h) (Or.inl ⟨by rfl, ?_⟩) (by assumption) ?_
                    rotate_left
                    · first | (intro w hSw; (try dsimp only at hSw); go_simp; done) | (intro w hSw; (try dsimp only at hSw); go_simp; with_reducible rfl)
                    try simp only [Act.put, List.setIfInBounds_toArray, List.set_cons_zero, List.set_cons_succ, List.getElem_toArray, List.getElem_cons_succ, List.getElem_cons_zero]
                    refine wpAnyH_take (i := 14) (oi := _) (v := ?_) rfl (by kernel_rfl) (by kernel_rfl) (by kernel_rfl) (fun _ _ _ h => h) (Or.inl ⟨by rfl, ?_⟩) (by assumption) ?_
                    rotate_left
                    · first | (intro w hSw; (try dsimp only at hSw); go_simp; done) | (intro w hSw; (try dsimp only at hSw); go_simp; with_reducible rfl)
                    try simp only [Act.put, List.setIfInBounds_toArray, List.set_cons_zero, List.set_cons_succ, List.getElem_toArray, List.getElem_cons_succ, List.getElem_cons_zero]
                    refine wpAnyH_take (i := 3) (oi := _) (v := ?_) rfl (by kernel_rfl) (by kernel_rfl) (by kernel_rfl) (fun _ _ _ h => h) (Or.inl ⟨by rfl, ?_⟩) (by assumption) ?_
                    rotate_left
                    · first | (intro w hSw; (try dsimp only at hSw); go_simp; done) | (intro w hSw; (try dsimp only at hSw); go_simp; with_reducible rfl)
                    try simp only [Act.put, List.setIfInBounds_toArray, List.set_cons_zero, List.set_cons_succ, List.getElem_toArray, List.getElem_cons_succ, List.getElem_cons_zero]
                    refine wpAnyH_take (i := 9) (oi := _) (v := ?_) rfl (by kernel_rfl) (by kernel_rfl) (by kernel_rfl) (fun _ _ _ h => h) (Or.inl ⟨by rfl, ?_⟩) (by assumption) ?_
                    rotate_left
                    · first | (intro w hSw; (try dsimp only at hSw); go_simp; done) | (intro w hSw; (try dsimp only at hSw); go_simp; with_reducible rfl)
                    try simp only [Act.put, List.setIfInBounds_toArray, List.set_cons_zero, List.set_cons_succ, List.getElem_toArray, List.getElem_cons_succ, List.getElem_cons_zero]
                    refine wpAnyH_take (i := 5) (oi := _) (v := ?_) rfl (by kernel_rfl) (by kernel_rfl) (by kernel_rfl) (fun _ _ _ h => h) (Or.inl ⟨by rfl, ?_⟩) (by assumption) ?_
                    rotate_left
                    · first | (intro w hSw; (try dsimp only at hSw); go_simp; done) | (intro w hSw; (try dsimp only at hSw); go_simp; with_reducible rfl)
                    try simp only [Act.put, List.setIfInBounds_toArray, List.set_cons_zero, List.set_cons_succ, List.getElem_toArray, List.getElem_cons_succ, List.getElem_cons_zero]
                    refine wpAnyH_take (i := 11) (oi := _) (v := ?_) rfl (by kernel_rfl) (by kernel_rfl) (by kernel_rfl) (fun _ _ _ h => h) (Or.inl ⟨by rfl, ?_⟩) (by assumption) ?_
                    rotate_left
                    · first | (intro w hSw; (try dsimp only at hSw); go_simp; done) | (intro w hSw; (try dsimp only at hSw); go_simp; with_reducible rfl)
                    try simp only [Act.put, List.setIfInBounds_toArray, List.set_cons_zero, List.set_cons_succ, List.getElem_toArray, List.getElem_cons_succ, List.getElem_cons_zero]
                    refine wpAnyH_take (i := 6) (oi := _) (v := ?_) rfl (by kernel_rfl) (by kernel_rfl) (by kernel_rfl) (fun _ _ _ h => h) (Or.inl ⟨by rfl, ?_⟩) (by assumption) ?_
                    rotate_left
                    · first | (intro w hSw; (try dsimp only at hSw); go_simp; done) | (intro w hSw; (try dsimp only at hSw); go_simp; with_reducible rfl)
                    try simp only [Act.put, List.setIfInBounds_toArray, List.set_cons_zero, List.set_cons_succ, List.getElem_toArray, List.getElem_cons_succ, List.getElem_cons_zero]
                    refine wpAnyH_take (i := 12) (oi := _) (v := ?_) rfl (by kernel_rfl) (by kernel_rfl) (by kernel_rfl) (fun _ _ _ h => h) (Or.inl ⟨by rfl, ?_⟩) (by assumption) ?_
                    rotate_left
                    · first | (intro w hSw; (try dsimp only at hSw); go_simp; done) | (intro w hSw; (try dsimp only at hSw); go_simp; with_reducible rfl)
                    try simp only [Act.put, List.setIfInBounds_toArray, List.set_cons_zero, List.set_cons_succ, List.getElem_toArray, List.getElem_cons_succ, List.getElem_cons_zero]
                    refine wpAnyH_take (i := 7) (oi := _) (v := ?_) rfl (by kernel_rfl) (by kernel_rfl) (by kernel_rfl) (fun _ _ _ h => h) (Or.inl ⟨by rfl, ?_⟩) (by assumption) ?_
                    rotate_left
                    · first | (intro w hSw; (try dsimp only at hSw); go_simp; done) | (intro w hSw; (try dsimp only at hSw); go_simp; with_reducible rfl)
                    try simp only [Act.put, List.setIfInBounds_toArray, List.set_cons_zero, List.set_cons_succ, List.getElem_toArray, List.getElem_cons_succ, List.getElem_cons_zero]
                    refine wpAnyH_take (i := 13) (oi := _) (v := ?_) rfl (by kernel_rfl) (by kernel_rfl) (by kernel_rfl) (fun _ _ _ h => h) (Or.inl ⟨by rfl, ?_⟩) (by assumption) ?_
                    rotate_left
                    · first | (intro w hSw; (try dsimp only at hSw); go_simp; done) | (intro w hSw; (try dsimp only at hSw); go_simp; with_reducible rfl)
                    try simp only [Act.put, List.setIfInBounds_toArray, List.set_cons_zero, List.set_cons_succ, List.getElem_toArray, List.getElem_cons_succ, List.getElem_cons_zero]
                    refine wpAnyH_ready (rs := [1, 15]) (by kernel_rfl) (by simp) ?_
                    refine (AllReadyH.cons rfl (fun K hK => ?_) (AllReadyH.cons rfl (fun K hK => ?_) AllReadyH.nil))
                    · have lf := T8d.out.facts.2.1
                      go_simp
                      refine hK.out _ _ ?_ (fun hHeld => ?_)
                      · exact KS.out _ _ _ T8d.out
                      clear hK K
                      clear lf
                      refine wpAnyH_ready (rs := [15]) (by kernel_rfl) (by simp) ?_
                      refine (AllReadyH.cons rfl (fun K hK => ?_) AllReadyH.nil)
                      go_simp
                      go_wp2_with (go_at_call 18; refine (N.out 3 _ (by decide) (by decide) T8d.out.src).mono ?_; rintro e w9 ⟨r9, rfl, hr9, s9, o9⟩)
                      have T9 := Lib.hid (T8d.out.call s9 o9)
                      clear s9 o9
                      have tb9 := T9.out.lt
                      refine hK.out _ _ ?_ (fun hHeld => ?_)
                      · exact KS.out _ _ _ T9.out
                      clear hK K
                      refine wpAnyH_take (i := 16) (oi := _) (v := ?_) rfl (by kernel_rfl) (by kernel_rfl) (by kernel_rfl) (fun _ _ _ h => h) (Or.inl ⟨by rfl, ?_⟩) (by assumption) ?_
                      rotate_left
                      · first | (intro w hSw; (try dsimp only at hSw); go_simp; done) | (intro w hSw; (try dsimp only at hSw); go_simp; with_reducible rfl)
                      try simp only [Act.put, List.setIfInBounds_toArray, List.set_cons_zero, List.set_cons_succ, List.getElem_toArray, List.getElem_cons_succ, List.getElem_cons_zero]
                      refine wpAnyH_take (i := 17) (oi := _) (v := ?_) rfl (by kernel_rfl) (by kernel_rfl) (by kernel_rfl) (fun _ _ _ h => h) (Or.inl ⟨by rfl, ?_⟩) (by assumption) ?_
                      rotate_left
                      · first | (intro w hSw; (try dsimp only at hSw); go_simp; done) | (intro w hSw; (try dsimp only at hSw); go_simp; with_reducible rfl)
                      try simp only [Act.put, List.setIfInBounds_toArray, List.set_cons_zero, List.set_cons_succ, List.getElem_toArray, List.getElem_cons_succ, List.getElem_cons_zero]
                      refine wpAnyH_take (i := 18) (oi := _) (v := ?_) rfl (by kernel_rfl) (by kernel_rfl) (by kernel_rfl) (fun _ _ _ h => h) (Or.inl ⟨by rfl, ?_⟩) (by assumption) ?_
                      rotate_left
                      · first | (intro w hSw; (try dsimp only at hSw); go_simp; done) | (intro w hSw; (try dsimp only at hSw); go_simp; with_reducible rfl)
                      try simp only [Act.put, List.setIfInBounds_toArray, List.set_cons_zero, List.set_cons_succ, List.getElem_toArray, List.getElem_cons_succ, List.getElem_cons_zero]
                      refine wpAnyH_ready (rs := [19]) (by kernel_rfl) (by simp) ?_
                      refine (AllReadyH.cons rfl (fun K hK => ?_) AllReadyH.nil)
                      have TA := Lib.hid (T9.out.alloc (.cells #[.int .i64 a, .int .i64 a', .int .i64 (IntKind.i64.wrap (1 + IntKind.i64.wrap ((r9 : Int) / 2)))] 69))
                      go_simp
                      refine hK.out _ _ ?_ (fun hHeld => ?_)
                      · exact KS.out _ _ _ TA.out
                      clear hK K
                      refine wpAnyH_ready (rs := [20]) (by kernel_rfl) (by simp) ?_
                      refine (AllReadyH.cons rfl (fun K hK => ?_) AllReadyH.nil)
                      refine step_append_lies _ rfl (.tmp 92) (.tmp 110) 24 rfl (tb + 1) 69 i82 (.agg #[.int .i64 0, .int .i64 0, .int .i64 0]) 3 24 Try.underlying24 hi82 hy80 hy81 hy82 rfl (by decide) (.slice sl2 ps.length cap2) ps.length (prC ps) (by simp [Act.eval]) TA.out.pr ⟨w9.heap.size, 0, none⟩ 1 1 [.int .i64 a, .int .i64 a', .int .i64 (IntKind.i64.wrap (1 + IntKind.i64.wrap ((r9 : Int) / 2)))] (by simp [Act.eval]) rfl (three_new3 _ _ _ _ _) (by intro u hu; simp at hu; rcases hu with rfl | rfl | rfl <;> rfl) (by decide) (by unfold maxLen; omega) (by omega) (by simp; omega) (w9.heap.size + 1) (by simp) ?_
                      intro g10 cap10 w10 own10 grow10 hg10 hlt10
                      have TB10 := Lib.hid ((grow10.block tb TA.out.lt (fun e => by have := own_base TA.out.pr e.symm; omega)).trans TA.out.tab)
                      have GB10 := Lib.hid (grow10.block g1 ((TA.out.st.lt g1 rfl).2) (fun e => own_ne TA.out.st TA.out.pr (by decide) (j := g1) rfl e.symm))
                      have T11 := Lib.hid (TA.out.addP (a, a', (IntKind.i64.wrap (1 + IntKind.i64.wrap ((r9 : Int) / 2)))) grow10 own10)
                      have KS10 := Lib.hid (K2.out _ w10 (KS.out _ _ _ TA.out) (TB10.out.trans TA.out.tab.symm) GB10.out grow10.size)
                      have j1 : w10.cell? ⟨tb, 1, none⟩ = some (.slice sl2 ps.length cap2) := by simp [World.cell?, TB10.out]
                      have jf : w10.frozen? ⟨tb, 1, none⟩ = false := by simp [World.frozen?, TB10.out]
                      have jl : tb < w10.heap.size := (Array.getElem?_eq_some_iff.1 TB10.out).1
                      clear own10 grow10 hg10 hlt10 TB10 GB10
                      refine hK.out _ _ ?_ (fun hHeld => ?_)
                      · exact KS10.out
                      clear hK K
                      refine wpAnyH_take (i := 21) (oi := _) (v := ?_) rfl (by kernel_rfl) (by kernel_rfl) (by kernel_rfl) (fun _ _ _ h => h) (Or.inl ⟨by rfl, ?_⟩) (by assumption) ?_
                      rotate_left
                      · first | (intro w hSw; (try dsimp only at hSw); go_simp; done) | (intro w hSw; (try dsimp only at hSw); go_simp; with_reducible rfl)
                      try simp only [Act.put, List.setIfInBounds_toArray, List.set_cons_zero, List.set_cons_succ, List.getElem_toArray, List.getElem_cons_succ, List.getElem_cons_zero]
                      refine wpAnyH_ready (rs := [22]) (by kernel_rfl) (by simp) ?_
                      refine (AllReadyH.cons rfl (fun K hK => ?_) AllReadyH.nil)
                      go_simp
                      refine hK.out _ _ ?_ (fun hHeld => ?_)
                      · exact KS.out _ _ _ T11.out
                      clear hK K
                      refine wpAnyH_done (by kernel_rfl) ?_ _
                      have WP2 : Hid (∀ p ∈ ps ++ [(a, a', (IntKind.i64.wrap (1 + IntKind.i64.wrap ((r9 : Int) / 2))))], WfP p) := fun p hp => by
                        rcases List.mem_append.1 hp with hp | hp
                        · exact WP.out p hp
                        · simp at hp; subst hp; exact ⟨⟨wf_small AW.out.1, wf_small AW.out.2⟩, wf_small (kind_ok r9 hr9)⟩
                      clear j1 jf jl
                      go_wp2
                      go_roundw
                      case rel => exact ⟨k + 1, _, ps ++ [(a, a', (IntKind.i64.wrap (1 + IntKind.i64.wrap ((r9 : Int) / 2))))], by go_num, by omega, by simp; omega, WP2, T11⟩
                      case measure => simp [intOf]; omega
                    · go_simp
                      go_wp2_with (go_at_call 18; refine (N.out 3 _ (by decide) (by decide) T8d.out.src).mono ?_; rintro e w9 ⟨r9, rfl, hr9, s9, o9⟩)
                      have T9 := Lib.hid (T8d.out.call s9 o9)
                      clear s9 o9
                      have tb9 := T9.out.lt
                      refine hK.out _ _ ?_ (fun hHeld => ?_)
                      · exact KS.out _ _ _ T9.out
                      clear hK K
                      refine wpAnyH_take (i := 16) (oi := _) (v := ?_) rfl (by kernel_rfl) (by kernel_rfl) (by kernel_rfl) (fun _ _ _ h => h) (Or.inl ⟨by rfl, ?_⟩) (by assumption) ?_
                      rotate_left
                      · first | (intro w hSw; (try dsimp only at hSw); go_simp; done) | (intro w hSw; (try dsimp only at hSw); go_simp; with_reducible rfl)
                      try simp only [Act.put, List.setIfInBounds_toArray, List.set_cons_zero, List.set_cons_succ, List.getElem_toArray, List.getElem_cons_succ, List.getElem_cons_zero]
                      refine wpAnyH_take (i := 17) (oi := _) (v := ?_) rfl (by kernel_rfl) (by kernel_rfl) (by kernel_rfl) (fun _ _ _ h => h) (Or.inl ⟨by rfl, ?_⟩) (by assumption) ?_
                      rotate_left
                      · first | (intro w hSw; (try dsimp only at hSw); go_simp; done) | (intro w hSw; (try dsimp only at hSw); go_simp; with_reducible rfl)
                      try simp only [Act.put, List.setIfInBounds_toArray, List.set_cons_zero, List.set_cons_succ, List.getElem_toArray, List.getElem_cons_succ, List.getElem_cons_zero]
                      refine wpAnyH_take (i := 18) (oi := _) (v := ?_) rfl (by kernel_rfl) (by kernel_rfl) (by kernel_rfl) (fun _ _ _ h => h) (Or.inl ⟨by rfl, ?_⟩) (by assumption) ?_
                      rotate_left
                      · first | (intro w hSw; (try dsimp only at hSw); go_simp; done) | (intro w hSw; (try dsimp only at hSw); go_simp; with_reducible rfl)
                      try simp only [Act.put, List.setIfInBounds_toArray, List.set_cons_zero, List.set_cons_succ, List.getElem_toArray, List.getElem_cons_succ, List.getElem_cons_zero]
                      refine wpAnyH_ready (rs := [1, 19]) (by kernel_rfl) (by simp) ?_
                      refine (AllReadyH.cons rfl (fun K hK => ?_) (AllReadyH.cons rfl (fun K hK => ?_) AllReadyH.nil))
                      · have lf := T9.out.facts.2.1
                        go_simp
                        refine hK.out _ _ ?_ (fun hHeld => ?_)
                        · exact KS.out _ _ _ T9.out
                        clear hK K
                        clear lf
                        refine wpAnyH_ready (rs := [19]) (by kernel_rfl) (by simp) ?_
                        refine (AllReadyH.cons rfl (fun K hK => ?_) AllReadyH.nil)
                        have TA := Lib.hid (T9.out.alloc (.cells #[.int .i64 a, .int .i64 a', .int .i64 (IntKind.i64.wrap (1 + IntKind.i64.wrap ((r9 : Int) / 2)))] 69))
                        go_simp
                        refine hK.out _ _ ?_ (fun hHeld => ?_)
                        · exact KS.out _ _ _ TA.out
                        clear hK K
                        refine wpAnyH_ready (rs := [20]) (by kernel_rfl) (by simp) ?_
                        refine (AllReadyH.cons rfl (fun K hK => ?_) AllReadyH.nil)
                        refine step_append_lies _ rfl (.tmp 92) (.tmp 110) 24 rfl (tb + 1) 69 i82 (.agg #[.int .i64 0, .int .i64 0, .int .i64 0]) 3 24 Try.underlying24 hi82 hy80 hy81 hy82 rfl (by decide) (.slice sl2 ps.length cap2) ps.length (prC ps) (by simp [Act.eval]) TA.out.pr ⟨w9.heap.size, 0, none⟩ 1 1 [.int .i64 a, .int .i64 a', .int .i64 (IntKind.i64.wrap (1 + IntKind.i64.wrap ((r9 : Int) / 2)))] (by simp [Act.eval]) rfl (three_new3 _ _ _ _ _) (by intro u hu; simp at hu; rcases hu with rfl | rfl | rfl <;> rfl) (by decide) (by unfold maxLen; omega) (by omega) (by simp; omega) (w9.heap.size + 1) (by simp) ?_
                        intro g10 cap10 w10 own10 grow10 hg10 hlt10
                        have TB10 := Lib.hid ((grow10.block tb TA.out.lt (fun e => by have := own_base TA.out.pr e.symm; omega)).trans TA.out.tab)
                        have GB10 := Lib.hid (grow10.block g1 ((TA.out.st.lt g1 rfl).2) (fun e => own_ne TA.out.st TA.out.pr (by decide) (j := g1) rfl e.symm))
                        have T11 := Lib.hid (TA.out.addP (a, a', (IntKind.i64.wrap (1 + IntKind.i64.wrap ((r9 : Int) / 2)))) grow10 own10)
                        have KS10 := Lib.hid (K2.out _ w10 (KS.out _ _ _ TA.out) (TB10.out.trans TA.out.tab.symm) GB10.out grow10.size)
                        have j1 : w10.cell? ⟨tb, 1, none⟩ = some (.slice sl2 ps.length cap2) := by simp [World.cell?, TB10.out]
                        have jf : w10.frozen? ⟨tb, 1, none⟩ = false := by simp [World.frozen?, TB10.out]
                        have jl : tb < w10.heap.size := (Array.getElem?_eq_some_iff.1 TB10.out).1
                        clear own10 grow10 hg10 hlt10 TB10 GB10
                        refine hK.out _ _ ?_ (fun hHeld => ?_)
                        · exact KS10.out
                        clear hK K
                        refine wpAnyH_take (i := 21) (oi := _) (v := ?_) rfl (by kernel_rfl) (by kernel_rfl) (by kernel_rfl) (fun _ _ _ h => h) (Or.inl ⟨by rfl, ?_⟩) (by assumption) ?_
                        rotate_left
                        · first | (intro w hSw; (try dsimp only at hSw); go_simp; done) | (intro w hSw; (try dsimp only at hSw); go_simp; with_reducible rfl)
                        try simp only [Act.put, List.setIfInBounds_toArray, List.set_cons_zero, List.set_cons_succ, List.getElem_toArray, List.getElem_cons_succ, List.getElem_cons_zero]
                        refine wpAnyH_ready (rs := [22]) (by kernel_rfl) (by simp) ?_
                        refine (AllReadyH.cons rfl (fun K hK => ?_) AllReadyH.nil)
                        go_simp
                        refine hK.out _ _ ?_ (fun hHeld => ?_)
                        · exact KS.out _ _ _ T11.out
                        clear hK K
                        refine wpAnyH_done (by kernel_rfl) ?_ _
                        have WP2 : Hid (∀ p ∈ ps ++ [(a, a', (IntKind.i64.wrap (1 + IntKind.i64.wrap ((r9 : Int) / 2))))], WfP p) := fun p hp => by
                          rcases List.mem_append.1 hp with hp | hp
                          · exact WP.out p hp
                          · simp at hp; subst hp; exact ⟨⟨wf_small AW.out.1, wf_small AW.out.2⟩, wf_small (kind_ok r9 hr9)⟩
                        clear j1 jf jl
                        go_wp2
                        go_roundw
                        case rel => exact ⟨k + 1, _, ps ++ [(a, a', (IntKind.i64.wrap (1 + IntKind.i64.wrap ((r9 : Int) / 2))))], by go_num, by omega, by simp; omega, WP2, T11⟩
                        case measure => simp [intOf]; omega
                      · have TA := Lib.hid (T9.out.alloc (.cells #[.int .i64 a, .int .i64 a', .int .i64 (IntKind.i64.wrap (1 + IntKind.i64.wrap ((r9 : Int) / 2)))] 69))
                        go_simp
                        refine hK.out _ _ ?_ (fun hHeld => ?_)
                        · exact KS.out _ _ _ TA.out
                        clear hK K
                        refine wpAnyH_ready (rs := [1]) (by kernel_rfl) (by simp) ?_
                        refine (AllReadyH.cons rfl (fun K hK => ?_) AllReadyH.nil)
                        have lf := TA.out.facts.2.1
                        go_simp
                        refine hK.out _ _ ?_ (fun hHeld => ?_)
                        · exact KS.out _ _ _ TA.out
                        clear hK K
                        clear lf
                        refine wpAnyH_ready (rs := [20]) (by kernel_rfl) (by simp) ?_
                        refine (AllReadyH.cons rfl (fun K hK => ?_) AllReadyH.nil)
                        refine step_append_lies _ rfl (.tmp 92) (.tmp 110) 24 rfl (tb + 1) 69 i82 (.agg #[.int .i64 0, .int .i64 0, .int .i64 0]) 3 24 Try.underlying24 hi82 hy80 hy81 hy82 rfl (by decide) (.slice sl2 ps.length cap2) ps.length (prC ps) (by simp [Act.eval]) TA.out.pr ⟨w9.heap.size, 0, none⟩ 1 1 [.int .i64 a, .int .i64 a', .int .i64 (IntKind.i64.wrap (1 + IntKind.i64.wrap ((r9 : Int) / 2)))] (by simp [Act.eval]) rfl (three_new3 _ _ _ _ _) (by intro u hu; simp at hu; rcases hu with rfl | rfl | rfl <;> rfl) (by decide) (by unfold maxLen; omega) (by omega) (by simp; omega) (w9.heap.size + 1) (by simp) ?_
                        intro g10 cap10 w10 own10 grow10 hg10 hlt10
                        have TB10 := Lib.hid ((grow10.block tb TA.out.lt (fun e => by have := own_base TA.out.pr e.symm; omega)).trans TA.out.tab)
                        have GB10 := Lib.hid (grow10.block g1 ((TA.out.st.lt g1 rfl).2) (fun e => own_ne TA.out.st TA.out.pr (by decide) (j := g1) rfl e.symm))
                        have T11 := Lib.hid (TA.out.addP (a, a', (IntKind.i64.wrap (1 + IntKind.i64.wrap ((r9 : Int) / 2)))) grow10 own10)
                        have KS10 := Lib.hid (K2.out _ w10 (KS.out _ _ _ TA.out) (TB10.out.trans TA.out.tab.symm) GB10.out grow10.size)
                        have j1 : w10.cell? ⟨tb, 1, none⟩ = some (.slice sl2 ps.length cap2) := by simp [World.cell?, TB10.out]
                        have jf : w10.frozen? ⟨tb, 1, none⟩ = false := by simp [World.frozen?, TB10.out]
                        have jl : tb < w10.heap.size := (Array.getElem?_eq_some_iff.1 TB10.out).1
                        clear own10 grow10 hg10 hlt10 TB10 GB10
                        refine hK.out _ _ ?_ (fun hHeld => ?_)
                        · exact KS10.out
                        clear hK K
                        refine wpAnyH_take (i := 21) (oi := _) (v := ?_) rfl (by kernel_rfl) (by kernel_rfl) (by kernel_rfl) (fun _ _ _ h => h) (Or.inl ⟨by rfl, ?_⟩) (by assumption) ?_
                        rotate_left
                        · first | (intro w hSw; (try dsimp only at hSw); go_simp; done) | (intro w hSw; (try dsimp only at hSw); go_simp; with_reducible rfl)
                        try simp only [Act.put, List.setIfInBounds_toArray, List.set_cons_zero, List.set_cons_succ, List.getElem_toArray, List.getElem_cons_succ, List.getElem_cons_zero]
                        refine wpAnyH_ready (rs := [22]) (by kernel_rfl) (by simp) ?_
                        refine (AllReadyH.cons rfl (fun K hK => ?_) AllReadyH.nil)
                        go_simp
                        refine hK.out _ _ ?_ (fun hHeld => ?_)
                        · exact KS.out _ _ _ T11.out
                        clear hK K
                        refine wpAnyH_done (by kernel_rfl) ?_ _
                        have WP2 : Hid (∀ p ∈ ps ++ [(a, a', (IntKind.i64.wrap (1 + IntKind.i64.wrap ((r9 : Int) / 2))))], WfP p) := fun p hp => by
                          rcases List.mem_append.1 hp with hp | hp
                          · exact WP.out p hp
                          · simp at hp; subst hp; exact ⟨⟨wf_small AW.out.1, wf_small AW.out.2⟩, wf_small (kind_ok r9 hr9)⟩
                        clear j1 jf jl
                        go_wp2
                        go_roundw
                        case rel => exact ⟨k + 1, _, ps ++ [(a, a', (IntKind.i64.wrap (1 + IntKind.i64.wrap ((r9 : Int) / 2))))], by go_num, by omega, by simp; omega, WP2, T11⟩
                        case measure => simp [intOf]; omega
                · have hp4' : ¬ (ps.length : Int) < 40 := by omega
                  go_wp2
                  go_roundw
                  case rel => exact ⟨i + 1, _, ps, by go_num, by omega, hps, WP, H4⟩
                  case measure => simp [intOf]; omega
              · have hkn' : ¬ (k : Int) < (rs.length : Int) := by omega
                go_wp2
                go_roundw
                case rel => exact ⟨i + 1, _, ps, by go_num, by omega, hps, WP, H4⟩
                case measure => simp [intOf]; omega
          · have hin' : ¬ (i : Int) < (rs.length : Int) := by omega
            go_wp2_with fail
            refine (O.out _ _ (by decide) H3.out.src).mono ?_
            rintro e w8 ⟨t8, rfl, s8, o8⟩
            have T8 := Lib.hid (H3.out.call s8 o8)
            clear s8 o8 H3 f0 f1 ff fl
            have HD : Hid (∀ r ∈ rs, r.2.2.2.length ≤ 1048576) := fun r hr => by have := (HR.out r hr).2.2; omega
            obtain ⟨sl2, cap2, ev2⟩ := own_v T8.out.pr
            subst ev2
            cases t8 with
            | false =>
              obtain ⟨f0, f1, ff, fl⟩ := T8.out.facts
              obtain ⟨e0, e1, e2, e3, e4, e5, e6⟩ := T8.out.res
              have PF := Lib.hid (T8.out.fin2 HD.out (by omega) (by omega) WP.out)
              go_wp2
              exact bodyPost_ret (v := .agg #[.slice sl1 rs.length cap1, .slice sl2 ps.length cap2]) (by simp [results, Try.results15, go_sem, e5, e6]) rfl PF.out
            | true =>
              have hrl : 0 < rs.length := by omega
              obtain ⟨g1, cp, eg, hg1, gl, _, hc⟩ := own3_cells T8.out.st hrl
              cases eg
              have T8d := Lib.hid T8.out.drew
              have KS : Hid (∀ v2 ps W, TI w b tb (.slice (some ⟨g1, 0, none⟩) rs.length cap1) v2 rs ps W → tb < W.heap.size ∧ W.cell? ⟨tb, 0, none⟩ = some (.slice (some ⟨g1, 0, none⟩) rs.length cap1)) := fun v2 ps W h => ⟨h.lt, h.facts.1⟩
              clear hc gl hg1
              go_wp2_with fail
              refine wp_region_held_drew (S := fun W => tb < W.heap.size ∧ W.cell? ⟨tb, 0, none⟩ = some (.slice (some ⟨g1, 0, none⟩) rs.length cap1)) (by kernel_rfl) ?_ (fun hHeld => ?_)
              · exact KS.out _ _ _ T8d.out
              refine wpAnyH_take (i := 0) (oi := _) (v := ?_) rfl (by kernel_rfl) (by kernel_rfl) (by kernel_rfl) (fun _ _ _ h => h) (Or.inl ⟨by rfl, ?_⟩) (by assumption) ?_
              rotate_left
              · first | (intro w hSw; (try dsimp only at hSw); go_simp; done) | (intro w hSw; (try dsimp only at hSw); go_simp; with_reducible rfl)
              try simp only [Act.put, List.setIfInBounds_toArray, List.set_cons_zero, List.set_cons_succ, List.getElem_toArray, List.getElem_cons_zero]
              refine wpAnyH_take (i := 1) (oi := _) (v := ?_) rfl (by kernel_rfl) (by kernel_rfl) (by kernel_rfl) (fun _ _ _ h => h) (Or.inl ⟨by rfl, ?_⟩) (by assumption) ?_
              rotate_left
              · first | (intro w hSw; (try dsimp only at hSw); go_simp; done) | (intro w hSw; (try dsimp only at hSw); go_simp; with_reducible rfl)
              try simp only [Act.put, List.setIfInBounds_toArray, List.set_cons_zero, List.set_cons_succ, List.getElem_toArray, List.getElem_cons_succ, List.getElem_cons_zero]
              refine wpAnyH_take (i := 2) (oi := _) (v := ?_) rfl (by kernel_rfl) (by kernel_rfl) (by kernel_rfl) (fun _ _ _ h => h) (Or.inl ⟨by rfl, ?_⟩) (by assumption) ?_
              rotate_left
              · first | (intro w hSw; (try dsimp only at hSw); go_simp; done) | (intro w hSw; (try dsimp only at hSw); go_simp; with_reducible rfl)
              try simp only [Act.put, List.setIfInBounds_toArray, List.set_cons_zero, List.set_cons_succ, List.getElem_toArray, List.getElem_cons_succ, List.getElem_cons_zero]
              refine wpAnyH_take (i := 3) (oi := _) (v := ?_) rfl (by kernel_rfl) (by kernel_rfl) (by kernel_rfl) (fun _ _ _ h => h) (Or.inl ⟨by rfl, ?_⟩) (by assumption) ?_
              rotate_left
              · first | (intro w hSw; (try dsimp only at hSw); go_simp; done) | (intro w hSw; (try dsimp only at hSw); go_simp; with_reducible rfl)
              try simp only [Act.put, List.setIfInBounds_toArray, List.set_cons_zero, List.set_cons_succ, List.getElem_toArray, List.getElem_cons_succ, List.getElem_cons_zero]
              refine wpAnyH_take (i := 4) (oi := _) (v := ?_) rfl (by kernel_rfl) (by kernel_rfl) (by kernel_rfl) (fun _ _ _ h => h) (Or.inl ⟨by rfl, ?_⟩) (by assumption) ?_
              rotate_left
              · first | (intro w hSw; (try dsimp only at hSw); go_simp; done) | (intro w hSw; (try dsimp only at hSw); go_simp; with_reducible rfl)
              try simp only [Act.put, List.setIfInBounds_toArray, List.set_cons_zero, List.set_cons_succ, List.getElem_toArray, List.getElem_cons_succ, List.getElem_cons_zero]
              refine wpAnyH_take (i := 5) (oi := _) (v := ?_) rfl (by kernel_rfl) (by kernel_rfl) (by kernel_rfl) (fun _ _ _ h => h) (Or.inl ⟨by rfl, ?_⟩) (by assumption) ?_
              rotate_left
              · first | (intro w hSw; (try dsimp only at hSw); go_simp; done) | (intro w hSw; (try dsimp only at hSw); go_simp; with_reducible rfl)
              try simp only [Act.put, List.setIfInBounds_toArray, List.set_cons_zero, List.set_cons_succ, List.getElem_toArray, List.getElem_cons_succ, List.getElem_cons_zero]
              refine wpAnyH_ready (rs := [6]) (by kernel_rfl) (by simp) ?_
              refine AllReadyH.cons rfl (fun K hK => ?_) AllReadyH.nil
              go_simp
              go_wp2_with (go_at_call 18; refine (N.out (rs.length : Int) _ (by omega) (by omega) T8d.out.src).mono ?_; rintro e w9 ⟨r9, rfl, hr9, s9, o9⟩)
              have T9 := Lib.hid (T8d.out.call s9 o9)
              have hr9' : r9 < rs.length := by omega
              have hr9i : (r9 : Int) < (rs.length : Int) := by omega
              clear s9 o9
              refine hK.out _ _ ?_ (fun hHeld => ?_)
              · exact KS.out _ _ _ T9.out
              clear hK K
              refine wpAnyH_take (i := 7) (oi := _) (v := ?_) rfl (by kernel_rfl) (by kernel_rfl) (by kernel_rfl) (fun _ _ _ h => h) (Or.inl ⟨by rfl, ?_⟩) (by assumption) ?_
              rotate_left
              · first | (intro w hSw; (try dsimp only at hSw); go_simp; done) | (intro w hSw; (try dsimp only at hSw); go_simp; with_reducible rfl)
              try simp only [Act.put, List.setIfInBounds_toArray, List.set_cons_zero, List.set_cons_succ, List.getElem_toArray, List.getElem_cons_succ, List.getElem_cons_zero]
              refine wpAnyH_take (i := 8) (oi := _) (v := ?_) rfl (by kernel_rfl) (by kernel_rfl) (by kernel_rfl) (fun _ _ _ h => h) (Or.inl ⟨by rfl, ?_⟩) (by assumption) ?_
              rotate_left
              · first | (intro w hSw; (try dsimp only at hSw); go_simp; done) | (intro w hSw; (try dsimp only at hSw); go_simp; with_reducible rfl)
              try simp only [Act.put, List.setIfInBounds_toArray, List.set_cons_zero, List.set_cons_succ, List.getElem_toArray, List.getElem_cons_succ, List.getElem_cons_zero]
              refine wpAnyH_done (by kernel_rfl) ?_ _
              clear KS T8d T8
              go_wp2_with fail
              refine (N.out _ _ (by decide) (by decide) T9.out.src).mono ?_
              rintro e w10 ⟨r10, rfl, hr10, s10, o10⟩
              have T10 := Lib.hid (T9.out.call s10 o10)
              clear s10 o10 T9
              have h7 : r10 = 0 ∨ r10 = 1 ∨ r10 = 2 ∨ r10 = 3 ∨ r10 = 4 ∨ r10 = 5 ∨ r10 = 6 := by omega
              obtain ⟨g', cp', eg', _, gl, _, hc⟩ := own3_cells T10.out.st hrl
              cases eg'
              have hc0 := hc _ _ (stC_at rs r9 hr9').1
              have hc1 := hc _ _ (stC_at rs r9 hr9').2.1
              have hc2 := hc _ _ (stC_at rs r9 hr9').2.2
              have CC : Hid (∀ W, Only b w10 W → g1 < W.heap.size ∧ W.cell? ⟨g1, r9 * 3, none⟩ = some (.int .i64 rs[r9].1) ∧ W.cell? ⟨g1, r9 * 3 + 1, none⟩ = some (.int .i64 rs[r9].2.1) ∧ W.cell? ⟨g1, r9 * 3 + 2, none⟩ = some rs[r9].2.2.1 ∧ W.frozen? ⟨g1, r9 * 3, none⟩ = false ∧ W.frozen? ⟨g1, r9 * 3 + 1, none⟩ = false ∧ W.frozen? ⟨g1, r9 * 3 + 2, none⟩ = false) := fun W ho => by
                have hgb : g1 ≠ b := by have := own_base T10.out.st (j := g1) rfl; have := T10.out.hb; have := T10.out.htb; omega
                exact ⟨Nat.lt_of_lt_of_le gl ho.size, (ho.cell gl hgb).trans hc0.1, (ho.cell gl hgb).trans hc1.1, (ho.cell gl hgb).trans hc2.1, (ho.frozen gl hgb).trans hc0.2, (ho.frozen gl hgb).trans hc1.2, (ho.frozen gl hgb).trans hc2.2⟩
              clear hc hc0 hc1 hc2
              rcases h7 with rfl | rfl | rfl | rfl | rfl | rfl | rfl
              · have TL := Lib.hid (T10.out.alloc (.cells #[.int .i64 0, .int .i64 999, .int .i64 1000] 2))
                have hb10 : b < w10.heap.size := by have := T10.out.hb; have := T10.out.rlt; omega
                go_wp2_with fail
                refine (N.out _ _ (by decide) (by decide) TL.out.src).mono ?_
                rintro e w11 ⟨r11, rfl, hr11, s11, o11⟩
                have T11 := Lib.hid (TL.out.call s11 o11)
                have hz := lit_cell [0, 999, 1000] o11 hb10 (r11 : Int) (by omega) (by simpa using hr11)
                rw [Int.toNat_natCast] at hz
                have lw : w10.heap.size < w11.heap.size := by have := o11.size; simp at this; omega
                obtain ⟨q0, q1, q2, q3, q4, q5, q6⟩ := CC.out w11 ((Only.of_below (bA0 _ _)).trans o11)
                generalize ([0, 999, 1000] : List Int).getD r11 0 = z at *
                have T12 := Lib.hid (T11.out.setI r9 hr9' 0 (.int .i64 z) (z, rs[r9].2) rfl (stC_id rs r9 hr9' z))
                have HD2 := Lib.hid (hd_set (rs := rs) (j := r9) (r' := (z, rs[r9].2)) HD.out (HD.out rs[r9] (List.getElem_mem hr9')))
                rw [Nat.add_zero] at T12
                clear s11 o11 TL T11 T10 CC
                obtain ⟨f0, f1, ff, fl⟩ := T12.out.facts
                obtain ⟨e0, e1, e2, e3, e4, e5, e6⟩ := T12.out.res
                have PF := Lib.hid (T12.out.fin2 HD2.out (by first | omega | (rw [List.length_set]; omega)) (by omega) WP.out)
                go_wp2
                exact bodyPost_ret (v := .agg #[.slice (some ⟨g1, 0, none⟩) rs.length cap1, .slice sl2 ps.length cap2]) (by simp [results, Try.results15, go_sem, e5, e6]) rfl PF.out
              · have TL := Lib.hid (T10.out.alloc (.cells #[.int .i64 0, .int .i64 1000, .int .i64 1001] 2))
                have hb10 : b < w10.heap.size := by have := T10.out.hb; have := T10.out.rlt; omega
                go_wp2_with fail
                refine (N.out _ _ (by decide) (by decide) TL.out.src).mono ?_
                rintro e w11 ⟨r11, rfl, hr11, s11, o11⟩
                have T11 := Lib.hid (TL.out.call s11 o11)
                have hz := lit_cell [0, 1000, 1001] o11 hb10 (r11 : Int) (by omega) (by simpa using hr11)
                rw [Int.toNat_natCast] at hz
                have lw : w10.heap.size < w11.heap.size := by have := o11.size; simp at this; omega
                obtain ⟨q0, q1, q2, q3, q4, q5, q6⟩ := CC.out w11 ((Only.of_below (bA0 _ _)).trans o11)
                generalize ([0, 1000, 1001] : List Int).getD r11 0 = z at *
                have T12 := Lib.hid (T11.out.setI r9 hr9' 1 (.int .i64 z) (rs[r9].1, z, rs[r9].2.2) rfl (stC_sc rs r9 hr9' z))
                have HD2 := Lib.hid (hd_set (rs := rs) (j := r9) (r' := (rs[r9].1, z, rs[r9].2.2)) HD.out (HD.out rs[r9] (List.getElem_mem hr9')))
                clear s11 o11 TL T11 T10 CC
                obtain ⟨f0, f1, ff, fl⟩ := T12.out.facts
                obtain ⟨e0, e1, e2, e3, e4, e5, e6⟩ := T12.out.res
                have PF := Lib.hid (T12.out.fin2 HD2.out (by first | omega | (rw [List.length_set]; omega)) (by omega) WP.out)
                go_wp2
                exact bodyPost_ret (v := .agg #[.slice (some ⟨g1, 0, none⟩) rs.length cap1, .slice sl2 ps.length cap2]) (by simp [results, Try.results15, go_sem, e5, e6]) rfl PF.out
              · obtain ⟨q0, q1, q2, q3, q4, q5, q6⟩ := CC.out w10 (Only.refl _ _)
                have tb10 := T10.out.lt
                have T12 := Lib.hid (T10.out.setD r9 hr9' (.slice (some ⟨w10.heap.size, 0, none⟩) 0 0) [] (World.grownBy_alloc w10 (.cells #[] 2) none) (fun k hk => by cases hk) (own_mono (own_none5 w10) (by omega)) ⟨_, rfl, .inr (Nat.le_refl _)⟩)
                have HD2 := Lib.hid (hd_set (rs := rs) (j := r9) (r' := (rs[r9].1, rs[r9].2.1, .slice (some ⟨w10.heap.size, 0, none⟩) 0 0, [])) HD.out (Nat.zero_le _))
                rw [set_alloc _ _ _ _ _ q0] at T12
                clear T10 CC
                obtain ⟨f0, f1, ff, fl⟩ := T12.out.facts
                obtain ⟨e0, e1, e2, e3, e4, e5, e6⟩ := T12.out.res
                have PF := Lib.hid (T12.out.fin2 HD2.out (by first | omega | (rw [List.length_set]; omega)) (by omega) WP.out)
                go_wp2
                exact bodyPost_ret (v := .agg #[.slice (some ⟨g1, 0, none⟩) rs.length cap1, .slice sl2 ps.length cap2]) (by simp [results, Try.results15, go_sem, e5, e6]) rfl PF.out
              · go_wp2_with fail
                refine (N.out _ _ (by decide) (by decide) T10.out.src).mono ?_
                rintro e w11 ⟨r11, rfl, hr11, s11, o11⟩
                have T11 := Lib.hid (T10.out.call s11 o11)
                go_wp2_with fail
                refine (N.out _ _ (by decide) (by decide) T11.out.src).mono ?_
                rintro e w12 ⟨r12, rfl, hr12, s12, o12⟩
                have T12 := Lib.hid (T11.out.call s12 o12)
                obtain ⟨q0, q1, q2, q3, q4, q5, q6⟩ := CC.out w12 (o11.trans o12)
                have tb12 := T12.out.lt
                have OW : Hid ((w12.alloc (.cells #[.int .i64 (1 + (r11 : Int)), .int .i64 (50 + (r12 : Int))] 2)).ownsRow (tb + 1) 2 1 (.slice (some ⟨w12.heap.size, 0, none⟩) 2 2) [1 + (r11 : Int), 50 + (r12 : Int)].length (valsZ [1 + (r11 : Int), 50 + (r12 : Int)])) := ⟨rfl, .inr ⟨_, 2, _, rfl, by omega, new_at _ _, Nat.le_refl _, by unfold maxLen; omega, rfl, rfl⟩⟩
                have T13 := Lib.hid (T12.out.setD r9 hr9' (.slice (some ⟨w12.heap.size, 0, none⟩) 2 2) [1 + (r11 : Int), 50 + (r12 : Int)] (World.grownBy_alloc w12 (.cells #[.int .i64 (1 + (r11 : Int)), .int .i64 (50 + (r12 : Int))] 2) none) (fun k hk => by cases hk) OW.out ⟨_, rfl, .inr (Nat.le_refl _)⟩)
                have HD2 := Lib.hid (hd_set (rs := rs) (j := r9) (r' := (rs[r9].1, rs[r9].2.1, .slice (some ⟨w12.heap.size, 0, none⟩) 2 2, [1 + (r11 : Int), 50 + (r12 : Int)])) HD.out (by simp))
                rw [set_alloc _ _ _ _ _ q0] at T13
                clear s11 o11 s12 o12 T10 T11 T12 CC OW
                obtain ⟨f0, f1, ff, fl⟩ := T13.out.facts
                obtain ⟨e0, e1, e2, e3, e4, e5, e6⟩ := T13.out.res
                have PF := Lib.hid (T13.out.fin2 HD2.out (by first | omega | (rw [List.length_set]; omega)) (by omega) WP.out)
                go_wp2
                exact bodyPost_ret (v := .agg #[.slice (some ⟨g1, 0, none⟩) rs.length cap1, .slice sl2 ps.length cap2]) (by simp [results, Try.results15, go_sem, e5, e6]) rfl PF.out
              · have T10d := Lib.hid T10.out.drew
                have tb10 := T10.out.lt
                have hne := (HR.out rs[r9] (List.getElem_mem hr9')).2
                have HD8 := Lib.hid hne.2
                have hzp : 0 < rs[r9].2.2.2.length := List.length_pos_iff.2 hne.1
                obtain ⟨z0, zt, hzs⟩ : ∃ z0 zt, rs[r9].2.2.2 = z0 :: zt := by
                  cases h : rs[r9].2.2.2 with
                  | nil => exact absurd h hne.1
                  | cons a t => exact ⟨a, t, rfl⟩
                obtain ⟨gd, capd, edd, -⟩ := own_cells (T10.out.dom _ (List.getElem_mem hr9')) hzp
                have KS : Hid (∀ (rs' : List LSt) W, TI w b tb (.slice (some ⟨g1, 0, none⟩) rs.length cap1) (.slice sl2 ps.length cap2) rs' ps W → g1 < W.heap.size) := fun _ W h => (h.st.lt g1 rfl).2
                have DX : Hid (∀ W, TI w b tb (.slice (some ⟨g1, 0, none⟩) rs.length cap1) (.slice sl2 ps.length cap2) rs ps W → g1 < W.heap.size ∧ W.cell? ⟨g1, r9 * 3 + 2, none⟩ = some (.slice (some ⟨gd, 0, none⟩) rs[r9].2.2.2.length capd) ∧ W.frozen? ⟨g1, r9 * 3 + 2, none⟩ = false ∧ gd < W.heap.size ∧ W.cell? ⟨gd, 0, none⟩ = some (.int .i64 z0)) := fun W h => by
                  obtain ⟨g', cp', eg', _, gl', _, hc'⟩ := own3_cells h.st hrl
                  cases eg'
                  have hd9 := h.dom _ (List.getElem_mem hr9')
                  obtain ⟨gd', capd', ed', _, _, _, _, hcd⟩ := own_cells hd9 hzp
                  rw [edd] at ed'
                  cases ed'
                  refine ⟨gl', by rw [← edd]; exact (hc' _ _ (stC_at rs r9 hr9').2.2).1, (hc' _ _ (stC_at rs r9 hr9').2.2).2, (hd9.lt gd (by rw [edd]; rfl)).2, ?_⟩
                  exact (hcd 0 hzp).trans (by rw [hzs]; rfl)
                clear CC hzs hne
                go_wp2_with fail
                refine wp_region_held_drew (S := fun W => g1 < W.heap.size) (by kernel_rfl) ?_ (fun hHeld => ?_)
                · exact KS.out _ _ T10d.out
                refine wpAnyH_take (i := 0) (oi := _) (v := ?_) rfl (by kernel_rfl) (by kernel_rfl) (by kernel_rfl) (fun _ _ _ h => h) (Or.inl ⟨by rfl, ?_⟩) (by assumption) ?_
                rotate_left
                · first | (intro w hSw; (try dsimp only at hSw); go_simp; done) | (intro w hSw; (try dsimp only at hSw); go_simp; with_reducible rfl)
                try simp only [Act.put, List.setIfInBounds_toArray, List.set_cons_zero, List.set_cons_succ, List.getElem_toArray, List.getElem_cons_zero]
                refine wpAnyH_take (i := 1) (oi := _) (v := ?_) rfl (by kernel_rfl) (by kernel_rfl) (by kernel_rfl) (fun _ _ _ h => h) (Or.inl ⟨by rfl, ?_⟩) (by assumption) ?_
                rotate_left
                · first | (intro w hSw; (try dsimp only at hSw); go_simp; done) | (intro w hSw; (try dsimp only at hSw); go_simp; with_reducible rfl)
                try simp only [Act.put, List.setIfInBounds_toArray, List.set_cons_zero, List.set_cons_succ, List.getElem_toArray, List.getElem_cons_succ, List.getElem_cons_zero]
                refine wpAnyH_take (i := 2) (oi := _) (v := ?_) rfl (by kernel_rfl) (by kernel_rfl) (by kernel_rfl) (fun _ _ _ h => h) (Or.inl ⟨by rfl, ?_⟩) (by assumption) ?_
                rotate_left
                · first | (intro w hSw; (try dsimp only at hSw); go_simp; done) | (intro w hSw; (try dsimp only at hSw); go_simp; with_reducible rfl)
                try simp only [Act.put, List.setIfInBounds_toArray, List.set_cons_zero, List.set_cons_succ, List.getElem_toArray, List.getElem_cons_succ, List.getElem_cons_zero]
                refine wpAnyH_take (i := 3) (oi := _) (v := ?_) rfl (by kernel_rfl) (by kernel_rfl) (by kernel_rfl) (fun _ _ _ h => h) (Or.inl ⟨by rfl, ?_⟩) (by assumption) ?_
                rotate_left
                · first | (intro w hSw; (try dsimp only at hSw); go_simp; done) | (intro w hSw; (try dsimp only at hSw); go_simp; with_reducible rfl)
                try simp only [Act.put, List.setIfInBounds_toArray, List.set_cons_zero, List.set_cons_succ, List.getElem_toArray, List.getElem_cons_succ, List.getElem_cons_zero]
                refine wpAnyH_take (i := 5) (oi := _) (v := ?_) rfl (by kernel_rfl) (by kernel_rfl) (by kernel_rfl) (fun _ _ _ h => h) (Or.inl ⟨by rfl, ?_⟩) (by assumption) ?_
                rotate_left
                · first | (intro w hSw; (try dsimp only at hSw); go_simp; done) | (intro w hSw; (try dsimp only at hSw); go_simp; with_reducible rfl)
                try simp only [Act.put, List.setIfInBounds_toArray, List.set_cons_zero, List.set_cons_succ, List.getElem_toArray, List.getElem_cons_succ, List.getElem_cons_zero]
                refine wpAnyH_take (i := 6) (oi := _) (v := ?_) rfl (by kernel_rfl) (by kernel_rfl) (by kernel_rfl) (fun _ _ _ h => h) (Or.inl ⟨by rfl, ?_⟩) (by assumption) ?_
                rotate_left
                · first | (intro w hSw; (try dsimp only at hSw); go_simp; done) | (intro w hSw; (try dsimp only at hSw); go_simp; with_reducible rfl)
                try simp only [Act.put, List.setIfInBounds_toArray, List.set_cons_zero, List.set_cons_succ, List.getElem_toArray, List.getElem_cons_succ, List.getElem_cons_zero]
                refine wpAnyH_take (i := 7) (oi := _) (v := ?_) rfl (by kernel_rfl) (by kernel_rfl) (by kernel_rfl) (fun _ _ _ h => h) (Or.inl ⟨by rfl, ?_⟩) (by assumption) ?_
                rotate_left
                · first | (intro w hSw; (try dsimp only at hSw); go_simp; done) | (intro w hSw; (try dsimp only at hSw); go_simp; with_reducible rfl)
                try simp only [Act.put, List.setIfInBounds_toArray, List.set_cons_zero, List.set_cons_succ, List.getElem_toArray, List.getElem_cons_succ, List.getElem_cons_zero]
                refine wpAnyH_ready (rs := [4, 8]) (by kernel_rfl) (by simp) ?_
                refine (AllReadyH.cons rfl (fun K hK => ?_) (AllReadyH.cons rfl (fun K hK => ?_) AllReadyH.nil))
                · obtain ⟨lg, lc, lf, ld, lz⟩ := DX.out _ T10d.out
                  go_simp
                  refine hK.out _ _ ?_ (fun hHeld => ?_)
                  · exact KS.out _ _ T10d.out
                  clear hK K
                  clear lg lc lf ld lz
                  refine wpAnyH_ready (rs := [8]) (by kernel_rfl) (by simp) ?_
                  refine (AllReadyH.cons rfl (fun K hK => ?_) AllReadyH.nil)
                  obtain ⟨lg, lc, lf, ld, lz⟩ := DX.out _ T10d.out
                  go_simp
                  refine hK.out _ _ ?_ (fun hHeld => ?_)
                  · exact KS.out _ _ T10d.out
                  clear hK K
                  clear lg lc lf ld lz
                  refine wpAnyH_take (i := 9) (oi := _) (v := ?_) rfl (by kernel_rfl) (by kernel_rfl) (by kernel_rfl) (fun _ _ _ h => h) (Or.inl ⟨by rfl, ?_⟩) (by assumption) ?_
                  rotate_left
                  · first | (intro w hSw; (try dsimp only at hSw); go_simp; done) | (intro w hSw; (try dsimp only at hSw); go_simp; with_reducible rfl)
                  try simp only [Act.put, List.setIfInBounds_toArray, List.set_cons_zero, List.set_cons_succ, List.getElem_toArray, List.getElem_cons_succ, List.getElem_cons_zero]
                  refine wpAnyH_ready (rs := [10]) (by kernel_rfl) (by simp) ?_
                  refine (AllReadyH.cons rfl (fun K hK => ?_) AllReadyH.nil)
                  obtain ⟨lg, lc, lf, ld, lz⟩ := DX.out _ T10d.out
                  go_simp
                  refine hK.out _ _ ?_ (fun hHeld => ?_)
                  · exact KS.out _ _ T10d.out
                  clear hK K
                  clear lg lc lf ld lz
                  refine wpAnyH_ready (rs := [11]) (by kernel_rfl) (by simp) ?_
                  refine (AllReadyH.cons rfl (fun K hK => ?_) AllReadyH.nil)
                  have TA := Lib.hid (T10d.out.alloc (.cells #[.int .i64 z0] 2))
                  go_simp
                  refine hK.out _ _ ?_ (fun hHeld => ?_)
                  · exact KS.out _ _ TA.out
                  clear hK K
                  refine wpAnyH_ready (rs := [12]) (by kernel_rfl) (by simp) ?_
                  refine (AllReadyH.cons rfl (fun K hK => ?_) AllReadyH.nil)
                  refine step_append_lies _ rfl (.tmp 186) (.tmp 193) 27 rfl (tb + 1) 2 i2 (.int .i64 0) 1 8 Try.underlying27 hi2 hz20 hz21 hz22 rfl (by decide) (.slice (some ⟨gd, 0, none⟩) rs[r9].2.2.2.length capd) rs[r9].2.2.2.length (valsZ rs[r9].2.2.2) (by simp [Act.eval]) (by have := TA.out.dom _ (List.getElem_mem hr9'); rwa [edd] at this) ⟨w10.heap.size, 0, none⟩ 1 1 [.int .i64 z0] (by simp [Act.eval]) rfl (cell_one_new _ _ _) (by intro u hu; simp at hu; subst hu; rfl) (by decide) (by have := HD8.out; unfold maxLen; omega) (by have := HD8.out; omega) (by have := tb10; simp; omega) (w10.heap.size + 1) (by simp) ?_
                  intro g13 cap13 w13 own13 grow13 hg13 hlt13
                  have GB13 := Lib.hid (grow13.block g1 ((TA.out.st.lt g1 rfl).2) (fun e => own_ne TA.out.st (TA.out.dom _ (List.getElem_mem hr9')) (by decide) (j := g1) rfl (by rw [edd]; exact e.symm)))
                  have EV := Lib.hid (show valsZ rs[r9].2.2.2 ++ [.int .i64 z0] = valsZ (rs[r9].2.2.2 ++ [z0]) by simp [valsZ])
                  rw [EV.out] at own13
                  have T14 := Lib.hid (TA.out.setD r9 hr9' (.slice (some ⟨g13, 0, none⟩) (rs[r9].2.2.2.length + 1) cap13) (rs[r9].2.2.2 ++ [z0]) grow13 (fun k hk => by rw [edd]; exact hk) (by rw [List.length_append]; exact own13) ⟨g13, rfl, hg13.imp (fun e => by rw [edd]; exact e) (fun e => by simp; omega)⟩)
                  obtain ⟨jg, jc, jf, -, -⟩ := DX.out _ TA.out
                  have j1 : w13.cell? ⟨g1, r9 * 3 + 2, none⟩ = some (.slice (some ⟨gd, 0, none⟩) rs[r9].2.2.2.length capd) := (World.cell?_of_block GB13.out).trans jc
                  have jf2 : w13.frozen? ⟨g1, r9 * 3 + 2, none⟩ = false := (World.frozen?_of_block GB13.out).trans jf
                  have jl : g1 < w13.heap.size := Nat.lt_of_lt_of_le jg grow13.size
                  have HD2 := Lib.hid (hd_set (rs := rs) (j := r9) (r' := (rs[r9].1, rs[r9].2.1, .slice (some ⟨g13, 0, none⟩) (rs[r9].2.2.2.length + 1) cap13, rs[r9].2.2.2 ++ [z0])) HD.out (by have := HD8.out; show (rs[r9].2.2.2 ++ [z0]).length ≤ _; rw [List.length_append]; simp; omega))
                  clear own13 grow13 hg13 hlt13 GB13 EV jg jc jf
                  refine hK.out _ _ ?_ (fun hHeld => ?_)
                  · exact jl
                  clear hK K
                  refine wpAnyH_take (i := 13) (oi := _) (v := ?_) rfl (by kernel_rfl) (by kernel_rfl) (by kernel_rfl) (fun _ _ _ h => h) (Or.inl ⟨by rfl, ?_⟩) (by assumption) ?_
                  rotate_left
                  · first | (intro w hSw; (try dsimp only at hSw); go_simp; done) | (intro w hSw; (try dsimp only at hSw); go_simp; with_reducible rfl)
                  try simp only [Act.put, List.setIfInBounds_toArray, List.set_cons_zero, List.set_cons_succ, List.getElem_toArray, List.getElem_cons_succ, List.getElem_cons_zero]
                  refine wpAnyH_take (i := 14) (oi := _) (v := ?_) rfl (by kernel_rfl) (by kernel_rfl) (by kernel_rfl) (fun _ _ _ h => h) (Or.inl ⟨by rfl, ?_⟩) (by assumption) ?_
                  rotate_left
                  · first | (intro w hSw; (try dsimp only at hSw); go_simp; done) | (intro w hSw; (try dsimp only at hSw); go_simp; with_reducible rfl)
                  try simp only [Act.put, List.setIfInBounds_toArray, List.set_cons_zero, List.set_cons_succ, List.getElem_toArray, List.getElem_cons_succ, List.getElem_cons_zero]
                  refine wpAnyH_ready (rs := [15]) (by kernel_rfl) (by simp) ?_
                  refine (AllReadyH.cons rfl (fun K hK => ?_) AllReadyH.nil)
                  go_simp
                  refine hK.out _ _ ?_ (fun hHeld => ?_)
                  · exact KS.out _ _ T14.out
                  clear hK K
                  refine wpAnyH_done (by kernel_rfl) ?_ _
                  clear j1 jf2 jl
                  obtain ⟨f0, f1, ff, fl⟩ := T14.out.facts
                  obtain ⟨e0, e1, e2, e3, e4, e5, e6⟩ := T14.out.res
                  have PF := Lib.hid (T14.out.fin2 HD2.out (by rw [List.length_set]; omega) (by omega) WP.out)
                  go_wp2
                  exact bodyPost_ret (v := .agg #[.slice (some ⟨g1, 0, none⟩) rs.length cap1, .slice sl2 ps.length cap2]) (by simp [results, Try.results15, go_sem, e5, e6]) rfl PF.out
                · obtain ⟨lg, lc, lf, ld, lz⟩ := DX.out _ T10d.out
                  go_simp
                  refine hK.out _ _ ?_ (fun hHeld => ?_)
                  · exact KS.out _ _ T10d.out
                  clear hK K
                  clear lg lc lf ld lz
                  refine wpAnyH_take (i := 9) (oi := _) (v := ?_) rfl (by kernel_rfl) (by kernel_rfl) (by kernel_rfl) (fun _ _ _ h => h) (Or.inl ⟨by rfl, ?_⟩) (by assumption) ?_
                  rotate_left
                  · first | (intro w hSw; (try dsimp only at hSw); go_simp; done) | (intro w hSw; (try dsimp only at hSw); go_simp; with_reducible rfl)
                  try simp only [Act.put, List.setIfInBounds_toArray, List.set_cons_zero, List.set_cons_succ, List.getElem_toArray, List.getElem_cons_succ, List.getElem_cons_zero]
                  refine wpAnyH_ready (rs := [4, 10]) (by kernel_rfl) (by simp) ?_
                  refine (AllReadyH.cons rfl (fun K hK => ?_) (AllReadyH.cons rfl (fun K hK => ?_) AllReadyH.nil))
                  · obtain ⟨lg, lc, lf, ld, lz⟩ := DX.out _ T10d.out
                    go_simp
                    refine hK.out _ _ ?_ (fun hHeld => ?_)
                    · exact KS.out _ _ T10d.out
                    clear hK K
                    clear lg lc lf ld lz
                    refine wpAnyH_ready (rs := [10]) (by kernel_rfl) (by simp) ?_
                    refine (AllReadyH.cons rfl (fun K hK => ?_) AllReadyH.nil)
                    obtain ⟨lg, lc, lf, ld, lz⟩ := DX.out _ T10d.out
                    go_simp
                    refine hK.out _ _ ?_ (fun hHeld => ?_)
                    · exact KS.out _ _ T10d.out
                    clear hK K
                    clear lg lc lf ld lz
                    refine wpAnyH_ready (rs := [11]) (by kernel_rfl) (by simp) ?_
                    refine (AllReadyH.cons rfl (fun K hK => ?_) AllReadyH.nil)
                    have TA := Lib.hid (T10d.out.alloc (.cells #[.int .i64 z0] 2))
                    go_simp
                    refine hK.out _ _ ?_ (fun hHeld => ?_)
                    · exact KS.out _ _ TA.out
                    clear hK K
                    refine wpAnyH_ready (rs := [12]) (by kernel_rfl) (by simp) ?_
                    refine (AllReadyH.cons rfl (fun K hK => ?_) AllReadyH.nil)
                    refine step_append_lies _ rfl (.tmp 186) (.tmp 193) 27 rfl (tb + 1) 2 i2 (.int .i64 0) 1 8 Try.underlying27 hi2 hz20 hz21 hz22 rfl (by decide) (.slice (some ⟨gd, 0, none⟩) rs[r9].2.2.2.length capd) rs[r9].2.2.2.length (valsZ rs[r9].2.2.2) (by simp [Act.eval]) (by have := TA.out.dom _ (List.getElem_mem hr9'); rwa [edd] at this) ⟨w10.heap.size, 0, none⟩ 1 1 [.int .i64 z0] (by simp [Act.eval]) rfl (cell_one_new _ _ _) (by intro u hu; simp at hu; subst hu; rfl) (by decide) (by have := HD8.out; unfold maxLen; omega) (by have := HD8.out; omega) (by have := tb10; simp; omega) (w10.heap.size + 1) (by simp) ?_
                    intro g13 cap13 w13 own13 grow13 hg13 hlt13
                    have GB13 := Lib.hid (grow13.block g1 ((TA.out.st.lt g1 rfl).2) (fun e => own_ne TA.out.st (TA.out.dom _ (List.getElem_mem hr9')) (by decide) (j := g1) rfl (by rw [edd]; exact e.symm)))
                    have EV := Lib.hid (show valsZ rs[r9].2.2.2 ++ [.int .i64 z0] = valsZ (rs[r9].2.2.2 ++ [z0]) by simp [valsZ])
                    rw [EV.out] at own13
                    have T14 := Lib.hid (TA.out.setD r9 hr9' (.slice (some ⟨g13, 0, none⟩) (rs[r9].2.2.2.length + 1) cap13) (rs[r9].2.2.2 ++ [z0]) grow13 (fun k hk => by rw [edd]; exact hk) (by rw [List.length_append]; exact own13) ⟨g13, rfl, hg13.imp (fun e => by rw [edd]; exact e) (fun e => by simp; omega)⟩)
                    obtain ⟨jg, jc, jf, -, -⟩ := DX.out _ TA.out
                    have j1 : w13.cell? ⟨g1, r9 * 3 + 2, none⟩ = some (.slice (some ⟨gd, 0, none⟩) rs[r9].2.2.2.length capd) := (World.cell?_of_block GB13.out).trans jc
                    have jf2 : w13.frozen? ⟨g1, r9 * 3 + 2, none⟩ = false := (World.frozen?_of_block GB13.out).trans jf
                    have jl : g1 < w13.heap.size := Nat.lt_of_lt_of_le jg grow13.size
                    have HD2 := Lib.hid (hd_set (rs := rs) (j := r9) (r' := (rs[r9].1, rs[r9].2.1, .slice (some ⟨g13, 0, none⟩) (rs[r9].2.2.2.length + 1) cap13, rs[r9].2.2.2 ++ [z0])) HD.out (by have := HD8.out; show (rs[r9].2.2.2 ++ [z0]).length ≤ _; rw [List.length_append]; simp; omega))
                    clear own13 grow13 hg13 hlt13 GB13 EV jg jc jf
                    refine hK.out _ _ ?_ (fun hHeld => ?_)
                    · exact jl
                    clear hK K
                    refine wpAnyH_take (i := 13) (oi := _) (v := ?_) rfl (by kernel_rfl) (by kernel_rfl) (by kernel_rfl) (fun _ _ _ h => h) (Or.inl ⟨by rfl, ?_⟩) (by assumption) ?_
                    rotate_left
                    · first | (intro w hSw; (try dsimp only at hSw); go_simp; done) | (intro w hSw; (try dsimp only at hSw); go_simp; with_reducible rfl)
                    try simp only [Act.put, List.setIfInBounds_toArray, List.set_cons_zero, List.set_cons_succ, List.getElem_toArray, List.getElem_cons_succ, List.getElem_cons_zero]
                    refine wpAnyH_take (i := 14) (oi := _) (v := ?_) rfl (by kernel_rfl) (by kernel_rfl) (by kernel_rfl) (fun _ _ _ h => h) (Or.inl ⟨by rfl, ?_⟩) (by assumption) ?_
                    rotate_left
                    · first | (intro w hSw; (try dsimp only at hSw); go_simp; done) | (intro w hSw; (try dsimp only at hSw); go_simp; with_reducible rfl)
                    try simp only [Act.put, List.setIfInBounds_toArray, List.set_cons_zero, List.set_cons_succ, List.getElem_toArray, List.getElem_cons_succ, List.getElem_cons_zero]
                    refine wpAnyH_ready (rs := [15]) (by kernel_rfl) (by simp) ?_
                    refine (AllReadyH.cons rfl (fun K hK => ?_) AllReadyH.nil)
                    go_simp
                    refine hK.out _ _ ?_ (fun hHeld => ?_)
                    · exact KS.out _ _ T14.out
                    clear hK K
                    refine wpAnyH_done (by kernel_rfl) ?_ _
                    clear j1 jf2 jl
                    obtain ⟨f0, f1, ff, fl⟩ := T14.out.facts
                    obtain ⟨e0, e1, e2, e3, e4, e5, e6⟩ := T14.out.res
                    have PF := Lib.hid (T14.out.fin2 HD2.out (by rw [List.length_set]; omega) (by omega) WP.out)
                    go_wp2
                    exact bodyPost_ret (v := .agg #[.slice (some ⟨g1, 0, none⟩) rs.length cap1, .slice sl2 ps.length cap2]) (by simp [results, Try.results15, go_sem, e5, e6]) rfl PF.out
                  · obtain ⟨lg, lc, lf, ld, lz⟩ := DX.out _ T10d.out
                    go_simp
                    refine hK.out _ _ ?_ (fun hHeld => ?_)
                    · exact KS.out _ _ T10d.out
                    clear hK K
                    clear lg lc lf ld lz
                    refine wpAnyH_ready (rs := [4, 11]) (by kernel_rfl) (by simp) ?_
                    refine (AllReadyH.cons rfl (fun K hK => ?_) (AllReadyH.cons rfl (fun K hK => ?_) AllReadyH.nil))
                    · obtain ⟨lg, lc, lf, ld, lz⟩ := DX.out _ T10d.out
                      go_simp
                      refine hK.out _ _ ?_ (fun hHeld => ?_)
                      · exact KS.out _ _ T10d.out
                      clear hK K
                      clear lg lc lf ld lz
                      refine wpAnyH_ready (rs := [11]) (by kernel_rfl) (by simp) ?_
                      refine (AllReadyH.cons rfl (fun K hK => ?_) AllReadyH.nil)
                      have TA := Lib.hid (T10d.out.alloc (.cells #[.int .i64 z0] 2))
                      go_simp
                      refine hK.out _ _ ?_ (fun hHeld => ?_)
                      · exact KS.out _ _ TA.out
                      clear hK K
                      refine wpAnyH_ready (rs := [12]) (by kernel_rfl) (by simp) ?_
                      refine (AllReadyH.cons rfl (fun K hK => ?_) AllReadyH.nil)
                      refine step_append_lies _ rfl (.tmp 186) (.tmp 193) 27 rfl (tb + 1) 2 i2 (.int .i64 0) 1 8 Try.underlying27 hi2 hz20 hz21 hz22 rfl (by decide) (.slice (some ⟨gd, 0, none⟩) rs[r9].2.2.2.length capd) rs[r9].2.2.2.length (valsZ rs[r9].2.2.2) (by simp [Act.eval]) (by have := TA.out.dom _ (List.getElem_mem hr9'); rwa [edd] at this) ⟨w10.heap.size, 0, none⟩ 1 1 [.int .i64 z0] (by simp [Act.eval]) rfl (cell_one_new _ _ _) (by intro u hu; simp at hu; subst hu; rfl) (by decide) (by have := HD8.out; unfold maxLen; omega) (by have := HD8.out; omega) (by have := tb10; simp; omega) (w10.heap.size + 1) (by simp) ?_
                      intro g13 cap13 w13 own13 grow13 hg13 hlt13
                      have GB13 := Lib.hid (grow13.block g1 ((TA.out.st.lt g1 rfl).2) (fun e => own_ne TA.out.st (TA.out.dom _ (List.getElem_mem hr9')) (by decide) (j := g1) rfl (by rw [edd]; exact e.symm)))
                      have EV := Lib.hid (show valsZ rs[r9].2.2.2 ++ [.int .i64 z0] = valsZ (rs[r9].2.2.2 ++ [z0]) by simp [valsZ])
                      rw [EV.out] at own13
                      have T14 := Lib.hid (TA.out.setD r9 hr9' (.slice (some ⟨g13, 0, none⟩) (rs[r9].2.2.2.length + 1) cap13) (rs[r9].2.2.2 ++ [z0]) grow13 (fun k hk => by rw [edd]; exact hk) (by rw [List.length_append]; exact own13) ⟨g13, rfl, hg13.imp (fun e => by rw [edd]; exact e) (fun e => by simp; omega)⟩)
                      obtain ⟨jg, jc, jf, -, -⟩ := DX.out _ TA.out
                      have j1 : w13.cell? ⟨g1, r9 * 3 + 2, none⟩ = some (.slice (some ⟨gd, 0, none⟩) rs[r9].2.2.2.length capd) := (World.cell?_of_block GB13.out).trans jc
                      have jf2 : w13.frozen? ⟨g1, r9 * 3 + 2, none⟩ = false := (World.frozen?_of_block GB13.out).trans jf
                      have jl : g1 < w13.heap.size := Nat.lt_of_lt_of_le jg grow13.size
                      have HD2 := Lib.hid (hd_set (rs := rs) (j := r9) (r' := (rs[r9].1, rs[r9].2.1, .slice (some ⟨g13, 0, none⟩) (rs[r9].2.2.2.length + 1) cap13, rs[r9].2.2.2 ++ [z0])) HD.out (by have := HD8.out; show (rs[r9].2.2.2 ++ [z0]).length ≤ _; rw [List.length_append]; simp; omega))
                      clear own13 grow13 hg13 hlt13 GB13 EV jg jc jf
                      refine hK.out _ _ ?_ (fun hHeld => ?_)
                      · exact jl
                      clear hK K
                      refine wpAnyH_take (i := 13) (oi := _) (v := ?_) rfl (by kernel_rfl) (by kernel_rfl) (by kernel_rfl) (fun _ _ _ h => h) (Or.inl ⟨by rfl, ?_⟩) (by assumption) ?_
                      rotate_left
                      · first | (intro w hSw; (try dsimp only at hSw); go_simp; done) | (intro w hSw; (try dsimp only at hSw); go_simp; with_reducible rfl)
                      try simp only [Act.put, List.setIfInBounds_toArray, List.set_cons_zero, List.set_cons_succ, List.getElem_toArray, List.getElem_cons_succ, List.getElem_cons_zero]
                      refine wpAnyH_take (i := 14) (oi := _) (v := ?_) rfl (by kernel_rfl) (by kernel_rfl) (by kernel_rfl) (fun _ _ _ h => h) (Or.inl ⟨by rfl, ?_⟩) (by assumption) ?_
                      rotate_left
                      · first | (intro w hSw; (try dsimp only at hSw); go_simp; done) | (intro w hSw; (try dsimp only at hSw); go_simp; with_reducible rfl)
                      try simp only [Act.put, List.setIfInBounds_toArray, List.set_cons_zero, List.set_cons_succ, List.getElem_toArray, List.getElem_cons_succ, List.getElem_cons_zero]
                      refine wpAnyH_ready (rs := [15]) (by kernel_rfl) (by simp) ?_
                      refine (AllReadyH.cons rfl (fun K hK => ?_) AllReadyH.nil)
                      go_simp
                      refine hK.out _ _ ?_ (fun hHeld => ?_)
                      · exact KS.out _ _ T14.out
                      clear hK K
                      refine wpAnyH_done (by kernel_rfl) ?_ _
                      clear j1 jf2 jl
                      obtain ⟨f0, f1, ff, fl⟩ := T14.out.facts
                      obtain ⟨e0, e1, e2, e3, e4, e5, e6⟩ := T14.out.res
                      have PF := Lib.hid (T14.out.fin2 HD2.out (by rw [List.length_set]; omega) (by omega) WP.out)
                      go_wp2
                      exact bodyPost_ret (v := .agg #[.slice (some ⟨g1, 0, none⟩) rs.length cap1, .slice sl2 ps.length cap2]) (by simp [results, Try.results15, go_sem, e5, e6]) rfl PF.out
                    · have TA := Lib.hid (T10d.out.alloc (.cells #[.int .i64 z0] 2))
                      go_simp
                      refine hK.out _ _ ?_ (fun hHeld => ?_)
                      · exact KS.out _ _ TA.out
                      clear hK K
                      refine wpAnyH_ready (rs := [4]) (by kernel_rfl) (by simp) ?_
                      refine (AllReadyH.cons rfl (fun K hK => ?_) AllReadyH.nil)
                      obtain ⟨lg, lc, lf, ld, lz⟩ := DX.out (w10.alloc (.cells #[.int .i64 z0] 2)).drew TA.out
                      go_simp
                      refine hK.out _ _ ?_ (fun hHeld => ?_)
                      · exact KS.out _ _ TA.out
                      clear hK K
                      clear lg lc lf ld lz
                      refine wpAnyH_ready (rs := [12]) (by kernel_rfl) (by simp) ?_
                      refine (AllReadyH.cons rfl (fun K hK => ?_) AllReadyH.nil)
                      refine step_append_lies _ rfl (.tmp 186) (.tmp 193) 27 rfl (tb + 1) 2 i2 (.int .i64 0) 1 8 Try.underlying27 hi2 hz20 hz21 hz22 rfl (by decide) (.slice (some ⟨gd, 0, none⟩) rs[r9].2.2.2.length capd) rs[r9].2.2.2.length (valsZ rs[r9].2.2.2) (by simp [Act.eval]) (by have := TA.out.dom _ (List.getElem_mem hr9'); rwa [edd] at this) ⟨w10.heap.size, 0, none⟩ 1 1 [.int .i64 z0] (by simp [Act.eval]) rfl (cell_one_new _ _ _) (by intro u hu; simp at hu; subst hu; rfl) (by decide) (by have := HD8.out; unfold maxLen; omega) (by have := HD8.out; omega) (by have := tb10; simp; omega) (w10.heap.size + 1) (by simp) ?_
                      intro g13 cap13 w13 own13 grow13 hg13 hlt13
                      have GB13 := Lib.hid (grow13.block g1 ((TA.out.st.lt g1 rfl).2) (fun e => own_ne TA.out.st (TA.out.dom _ (List.getElem_mem hr9')) (by decide) (j := g1) rfl (by rw [edd]; exact e.symm)))
                      have EV := Lib.hid (show valsZ rs[r9].2.2.2 ++ [.int .i64 z0] = valsZ (rs[r9].2.2.2 ++ [z0]) by simp [valsZ])
                      rw [EV.out] at own13
                      have T14 := Lib.hid (TA.out.setD r9 hr9' (.slice (some ⟨g13, 0, none⟩) (rs[r9].2.2.2.length + 1) cap13) (rs[r9].2.2.2 ++ [z0]) grow13 (fun k hk => by rw [edd]; exact hk) (by rw [List.length_append]; exact own13) ⟨g13, rfl, hg13.imp (fun e => by rw [edd]; exact e) (fun e => by simp; omega)⟩)
                      obtain ⟨jg, jc, jf, -, -⟩ := DX.out _ TA.out
                      have j1 : w13.cell? ⟨g1, r9 * 3 + 2, none⟩ = some (.slice (some ⟨gd, 0, none⟩) rs[r9].2.2.2.length capd) := (World.cell?_of_block GB13.out).trans jc
                      have jf2 : w13.frozen? ⟨g1, r9 * 3 + 2, none⟩ = false := (World.frozen?_of_block GB13.out).trans jf
                      have jl : g1 < w13.heap.size := Nat.lt_of_lt_of_le jg grow13.size
                      have HD2 := Lib.hid (hd_set (rs := rs) (j := r9) (r' := (rs[r9].1, rs[r9].2.1, .slice (some ⟨g13, 0, none⟩) (rs[r9].2.2.2.length + 1) cap13, rs[r9].2.2.2 ++ [z0])) HD.out (by have := HD8.out; show (rs[r9].2.2.2 ++ [z0]).length ≤ _; rw [List.length_append]; simp; omega))
                      clear own13 grow13 hg13 hlt13 GB13 EV jg jc jf
                      refine hK.out _ _ ?_ (fun hHeld => ?_)
                      · exact jl
                      clear hK K
                      refine wpAnyH_take (i := 13) (oi := _) (v := ?_) rfl (by kernel_rfl) (by kernel_rfl) (by kernel_rfl) (fun _ _ _ h => h) (Or.inl ⟨by rfl, ?_⟩) (by assumption) ?_
                      rotate_left
                      · first | (intro w hSw; (try dsimp only at hSw); go_simp; done) | (intro w hSw; (try dsimp only at hSw); go_simp; with_reducible rfl)
                      try simp only [Act.put, List.setIfInBounds_toArray, List.set_cons_zero, List.set_cons_succ, List.getElem_toArray, List.getElem_cons_succ, List.getElem_cons_zero]
                      refine wpAnyH_take (i := 14) (oi := _) (v := ?_) rfl (by kernel_rfl) (by kernel_rfl) (by kernel_rfl) (fun _ _ _ h => h) (Or.inl ⟨by rfl, ?_⟩) (by assumption) ?_
                      rotate_left
                      · first | (intro w hSw; (try dsimp only at hSw); go_simp; done) | (intro w hSw; (try dsimp only at hSw); go_simp; with_reducible rfl)
                      try simp only [Act.put, List.setIfInBounds_toArray, List.set_cons_zero, List.set_cons_succ, List.getElem_toArray, List.getElem_cons_succ, List.getElem_cons_zero]
                      refine wpAnyH_ready (rs := [15]) (by kernel_rfl) (by simp) ?_
                      refine (AllReadyH.cons rfl (fun K hK => ?_) AllReadyH.nil)
                      go_simp
                      refine hK.out _ _ ?_ (fun hHeld => ?_)
                      · exact KS.out _ _ T14.out
                      clear hK K
                      refine wpAnyH_done (by kernel_rfl) ?_ _
                      clear j1 jf2 jl
                      obtain ⟨f0, f1, ff, fl⟩ := T14.out.facts
                      obtain ⟨e0, e1, e2, e3, e4, e5, e6⟩ := T14.out.res
                      have PF := Lib.hid (T14.out.fin2 HD2.out (by rw [List.length_set]; omega) (by omega) WP.out)
                      go_wp2
                      exact bodyPost_ret (v := .agg #[.slice (some ⟨g1, 0, none⟩) rs.length cap1, .slice sl2 ps.length cap2]) (by simp [results, Try.results15, go_sem, e5, e6]) rfl PF.out
              · have G0 := Lib.hid (T10.out.alloc (.cells #[.int .i64 1, .int .i64 900, .int .i64 1] 69))
                have tl9 := T10.out.lt
                obtain ⟨f0, f1, ff, fl⟩ := T10.out.facts
                go_upto_region 41 with fail
                go_wp2_with (first | (at_builtin; refine wpList_append_lies _ rfl (.tmp 200) (.tmp 202) 24 rfl (tb + 1) 69 i82 (.agg #[.int .i64 0, .int .i64 0, .int .i64 0]) 3 24 Try.underlying24 hi82 hy80 hy81 hy82 rfl (by decide) _ _ _ rfl G0.out.pr ⟨w10.heap.size, 0, none⟩ 1 1 [.int .i64 1, .int .i64 900, .int .i64 1] rfl rfl (three_new3 _ _ _ _ _) (by intro u hu; rcases List.mem_cons.1 hu with rfl | hu; rfl; rcases List.mem_cons.1 hu with rfl | hu; rfl; rcases List.mem_cons.1 hu with rfl | hu; rfl; cases hu) (by decide) (by unfold maxLen; omega) (by omega) (by simp; omega) (w10.heap.size + 1) (by simp) ?_))
                intro g11 cap11 w11 own11 grow11 hg11 hlt11
                have TB11 := Lib.hid ((grow11.block tb G0.out.lt (fun e => by have := own_base G0.out.pr e.symm; omega)).trans G0.out.tab)
                have j1 : w11.cell? ⟨tb, 1, none⟩ = some (.slice sl2 ps.length cap2) := by simp [World.cell?, TB11.out]
                have jf : w11.frozen? ⟨tb, 1, none⟩ = false := by simp [World.frozen?, TB11.out]
                have jl : tb < w11.heap.size := (Array.getElem?_eq_some_iff.1 TB11.out).1
                have T12 := Lib.hid (G0.out.addP (1, 900, 1) grow11 own11)
                have WP2 : Hid (∀ p ∈ ps ++ [((1 : Int), (900 : Int), (1 : Int))], WfP p) := fun p hp => by
                  rcases List.mem_append.1 hp with hp | hp
                  · exact WP.out p hp
                  · simp at hp; subst hp; exact ⟨⟨wf_small (by decide), wf_small (by decide)⟩, wf_small (by decide)⟩
                clear own11 grow11 hg11 hlt11 f0 f1 ff fl T10 CC
                obtain ⟨f0, f1, ff, fl⟩ := T12.out.facts
                obtain ⟨e0, e1, e2, e3, e4, e5, e6⟩ := T12.out.res
                have PF := Lib.hid (T12.out.fin2 HD.out (by first | omega | (rw [List.length_set]; omega)) (by simp; omega) WP2.out)
                go_wp2
                exact bodyPost_ret (v := .agg #[.slice (some ⟨g1, 0, none⟩) rs.length cap1, .slice (some ⟨g11, 0, none⟩) (ps.length + 1) cap11]) (by simp [results, Try.results15, go_sem, e5, e6]) rfl PF.out
              · have T11d := Lib.hid T10.out.drew
                have KS : Hid (∀ v2 ps W, TI w b tb (.slice (some ⟨g1, 0, none⟩) rs.length cap1) v2 rs ps W → tb < W.heap.size ∧ g1 < W.heap.size ∧ W.cell? ⟨g1, r9 * 3, none⟩ = some (.int .i64 rs[r9].1)) := fun v2 ps W h => by
                  obtain ⟨g', cp', eg', _, gl', _, hc'⟩ := own3_cells h.st hrl
                  cases eg'
                  exact ⟨h.lt, gl', (hc' _ _ (stC_at rs r9 hr9').1).1⟩
                have AW := Lib.hid (HR.out rs[r9] (List.getElem_mem hr9')).1
                clear CC
                generalize rs[r9].1 = a at *
                have K2 : Hid (∀ W W' : World, (tb < W.heap.size ∧ g1 < W.heap.size ∧ W.cell? ⟨g1, r9 * 3, none⟩ = some (.int .i64 a)) → W'.heap[g1]? = W.heap[g1]? → W.heap.size ≤ W'.heap.size → (tb < W'.heap.size ∧ g1 < W'.heap.size ∧ W'.cell? ⟨g1, r9 * 3, none⟩ = some (.int .i64 a))) := fun W W' h e2 hs => ⟨Nat.lt_of_lt_of_le h.1 hs, Nat.lt_of_lt_of_le h.2.1 hs, (World.cell?_of_block (w := W) e2).trans h.2.2⟩
                go_wp2_with fail
                refine wp_region_held_drew (S := fun W => tb < W.heap.size ∧ g1 < W.heap.size ∧ W.cell? ⟨g1, r9 * 3, none⟩ = some (.int .i64 a)) (by kernel_rfl) ?_ (fun hHeld => ?_)
                · exact KS.out _ _ _ T11d.out
                refine wpAnyH_take (i := 0) (oi := _) (v := ?_) rfl (by kernel_rfl) (by kernel_rfl) (by kernel_rfl) (fun _ _ _ h => h) (Or.inl ⟨by rfl, ?_⟩) (by assumption) ?_
                rotate_left
                · first | (intro w hSw; (try dsimp only at hSw); go_simp; done) | (intro w hSw; (try dsimp only at hSw); go_simp; with_reducible rfl)
                try simp only [Act.put, List.setIfInBounds_toArray, List.set_cons_zero, List.set_cons_succ, List.getElem_toArray, List.getElem_cons_zero]
                refine wpAnyH_take (i := 2) (oi := _) (v := ?_) rfl (by kernel_rfl) (by kernel_rfl) (by kernel_rfl) (fun _ _ _ h => h) (Or.inl ⟨by rfl, ?_⟩) (by assumption) ?_
                rotate_left
                · first | (intro w hSw; (try dsimp only at hSw); go_simp; done) | (intro w hSw; (try dsimp only at hSw); go_simp; with_reducible rfl)
                try simp only [Act.put, List.setIfInBounds_toArray, List.set_cons_zero, List.set_cons_succ, List.getElem_toArray, List.getElem_cons_succ, List.getElem_cons_zero]
                refine wpAnyH_take (i := 3) (oi := _) (v := ?_) rfl (by kernel_rfl) (by kernel_rfl) (by kernel_rfl) (fun _ _ _ h => h) (Or.inl ⟨by rfl, ?_⟩) (by assumption) ?_
                rotate_left
                · first | (intro w hSw; (try dsimp only at hSw); go_simp; done) | (intro w hSw; (try dsimp only at hSw); go_simp; with_reducible rfl)
                try simp only [Act.put, List.setIfInBounds_toArray, List.set_cons_zero, List.set_cons_succ, List.getElem_toArray, List.getElem_cons_succ, List.getElem_cons_zero]
                refine wpAnyH_take (i := 4) (oi := _) (v := ?_) rfl (by kernel_rfl) (by kernel_rfl) (by kernel_rfl) (fun _ _ _ h => h) (Or.inl ⟨by rfl, ?_⟩) (by assumption) ?_
                rotate_left
                · first | (intro w hSw; (try dsimp only at hSw); go_simp; done) | (intro w hSw; (try dsimp only at hSw); go_simp; with_reducible rfl)
                try simp only [Act.put, List.setIfInBounds_toArray, List.set_cons_zero, List.set_cons_succ, List.getElem_toArray, List.getElem_cons_succ, List.getElem_cons_zero]
                refine wpAnyH_take (i := 5) (oi := _) (v := ?_) rfl (by kernel_rfl) (by kernel_rfl) (by kernel_rfl) (fun _ _ _ h => h) (Or.inl ⟨by rfl, ?_⟩) (by assumption) ?_
                rotate_left
                · first | (intro w hSw; (try dsimp only at hSw); go_simp; done) | (intro w hSw; (try dsimp only at hSw); go_simp; with_reducible rfl)
                try simp only [Act.put, List.setIfInBounds_toArray, List.set_cons_zero, List.set_cons_succ, List.getElem_toArray, List.getElem_cons_succ, List.getElem_cons_zero]
                refine wpAnyH_take (i := 6) (oi := _) (v := ?_) rfl (by kernel_rfl) (by kernel_rfl) (by kernel_rfl) (fun _ _ _ h => h) (Or.inl ⟨by rfl, ?_⟩) (by assumption) ?_
                rotate_left
                · first | (intro w hSw; (try dsimp only at hSw); go_simp; done) | (intro w hSw; (try dsimp only at hSw); go_simp; with_reducible rfl)
                try simp only [Act.put, List.setIfInBounds_toArray, List.set_cons_zero, List.set_cons_succ, List.getElem_toArray, List.getElem_cons_succ, List.getElem_cons_zero]
                refine wpAnyH_take (i := 7) (oi := _) (v := ?_) rfl (by kernel_rfl) (by kernel_rfl) (by kernel_rfl) (fun _ _ _ h => h) (Or.inl ⟨by rfl, ?_⟩) (by assumption) ?_
                rotate_left
                · first | (intro w hSw; (try dsimp only at hSw); go_simp; done) | (intro w hSw; (try dsimp only at hSw); go_simp; with_reducible rfl)
                try simp only [Act.put, List.setIfInBounds_toArray, List.set_cons_zero, List.set_cons_succ, List.getElem_toArray, List.getElem_cons_succ, List.getElem_cons_zero]
                refine wpAnyH_take (i := 8) (oi := _) (v := ?_) rfl (by kernel_rfl) (by kernel_rfl) (by kernel_rfl) (fun _ _ _ h => h) (Or.inl ⟨by rfl, ?_⟩) (by assumption) ?_
                rotate_left
                · first | (intro w hSw; (try dsimp only at hSw); go_simp; done) | (intro w hSw; (try dsimp only at hSw); go_simp; with_reducible rfl)
                try simp only [Act.put, List.setIfInBounds_toArray, List.set_cons_zero, List.set_cons_succ, List.getElem_toArray, List.getElem_cons_succ, List.getElem_cons_zero]
                refine wpAnyH_take (i := 9) (oi := _) (v := ?_) rfl (by kernel_rfl) (by kernel_rfl) (by kernel_rfl) (fun _ _ _ h => h) (Or.inl ⟨by rfl, ?_⟩) (by assumption) ?_
                rotate_left
                · first | (intro w hSw; (try dsimp only at hSw); go_simp; done) | (intro w hSw; (try dsimp only at hSw); go_simp; with_reducible rfl)
                try simp only [Act.put, List.setIfInBounds_toArray, List.set_cons_zero, List.set_cons_succ, List.getElem_toArray, List.getElem_cons_succ, List.getElem_cons_zero]
                refine wpAnyH_take (i := 10) (oi := _) (v := ?_) rfl (by kernel_rfl) (by kernel_rfl) (by kernel_rfl) (fun _ _ _ h => h) (Or.inl ⟨by rfl, ?_⟩) (by assumption) ?_
                rotate_left
                · first | (intro w hSw; (try dsimp only at hSw); go_simp; done) | (intro w hSw; (try dsimp only at hSw); go_simp; with_reducible rfl)
                try simp only [Act.put, List.setIfInBounds_toArray, List.set_cons_zero, List.set_cons_succ, List.getElem_toArray, List.getElem_cons_succ, List.getElem_cons_zero]
                refine wpAnyH_ready (rs := [1, 11]) (by kernel_rfl) (by simp) ?_
                refine (AllReadyH.cons rfl (fun K hK => ?_) (AllReadyH.cons rfl (fun K hK => ?_) AllReadyH.nil))
                · have lf := T11d.out.facts.2.1
                  go_simp
                  refine hK.out _ _ ?_ (fun hHeld => ?_)
                  · exact KS.out _ _ _ T11d.out
                  clear hK K
                  clear lf
                  refine wpAnyH_ready (rs := [11]) (by kernel_rfl) (by simp) ?_
                  refine (AllReadyH.cons rfl (fun K hK => ?_) AllReadyH.nil)
                  go_simp
                  go_wp2_with (go_at_call 18; refine (N.out 2 _ (by decide) (by decide) T11d.out.src).mono ?_; rintro e w12 ⟨r12, rfl, hr12, s12, o12⟩)
                  have T12 := Lib.hid (T11d.out.call s12 o12)
                  have tb12 := T12.out.lt
                  clear s12 o12
                  refine hK.out _ _ ?_ (fun hHeld => ?_)
                  · exact KS.out _ _ _ T12.out
                  clear hK K
                  refine wpAnyH_take (i := 12) (oi := _) (v := ?_) rfl (by kernel_rfl) (by kernel_rfl) (by kernel_rfl) (fun _ _ _ h => h) (Or.inl ⟨by rfl, ?_⟩) (by assumption) ?_
                  rotate_left
                  · first | (intro w hSw; (try dsimp only at hSw); go_simp; done) | (intro w hSw; (try dsimp only at hSw); go_simp; with_reducible rfl)
                  try simp only [Act.put, List.setIfInBounds_toArray, List.set_cons_zero, List.set_cons_succ, List.getElem_toArray, List.getElem_cons_succ, List.getElem_cons_zero]
                  refine wpAnyH_take (i := 13) (oi := _) (v := ?_) rfl (by kernel_rfl) (by kernel_rfl) (by kernel_rfl) (fun _ _ _ h => h) (Or.inl ⟨by rfl, ?_⟩) (by assumption) ?_
                  rotate_left
                  · first | (intro w hSw; (try dsimp only at hSw); go_simp; done) | (intro w hSw; (try dsimp only at hSw); go_simp; with_reducible rfl)
                  try simp only [Act.put, List.setIfInBounds_toArray, List.set_cons_zero, List.set_cons_succ, List.getElem_toArray, List.getElem_cons_succ, List.getElem_cons_zero]
                  refine wpAnyH_ready (rs := [14]) (by kernel_rfl) (by simp) ?_
                  refine (AllReadyH.cons rfl (fun K hK => ?_) AllReadyH.nil)
                  have TA := Lib.hid (T12.out.alloc (.cells #[.int .i64 a, .int .i64 a, .int .i64 (IntKind.i64.wrap (3 * (r12 : Int)))] 69))
                  go_simp
                  refine hK.out _ _ ?_ (fun hHeld => ?_)
                  · exact KS.out _ _ _ TA.out
                  clear hK K
                  refine wpAnyH_ready (rs := [15]) (by kernel_rfl) (by simp) ?_
                  refine (AllReadyH.cons rfl (fun K hK => ?_) AllReadyH.nil)
                  refine step_append_lies _ rfl (.tmp 126) (.tmp 139) 24 rfl (tb + 1) 69 i82 (.agg #[.int .i64 0, .int .i64 0, .int .i64 0]) 3 24 Try.underlying24 hi82 hy80 hy81 hy82 rfl (by decide) (.slice sl2 ps.length cap2) ps.length (prC ps) (by simp [Act.eval]) TA.out.pr ⟨w12.heap.size, 0, none⟩ 1 1 [.int .i64 a, .int .i64 a, .int .i64 (IntKind.i64.wrap (3 * (r12 : Int)))] (by simp [Act.eval]) rfl (three_new3 _ _ _ _ _) (by intro u hu; rcases List.mem_cons.1 hu with rfl | hu; rfl; rcases List.mem_cons.1 hu with rfl | hu; rfl; rcases List.mem_cons.1 hu with rfl | hu; rfl; cases hu) (by decide) (by unfold maxLen; omega) (by omega) (by simp; omega) (w12.heap.size + 1) (by simp) ?_
                  intro g13 cap13 w13 own13 grow13 hg13 hlt13
                  have TB13 := Lib.hid ((grow13.block tb TA.out.lt (fun e => by have := own_base TA.out.pr e.symm; omega)).trans TA.out.tab)
                  have GB13 := Lib.hid (grow13.block g1 ((TA.out.st.lt g1 rfl).2) (fun e => own_ne TA.out.st TA.out.pr (by decide) (j := g1) rfl e.symm))
                  have T14 := Lib.hid (TA.out.addP (a, a, (IntKind.i64.wrap (3 * (r12 : Int)))) grow13 own13)
                  have KS13 := Lib.hid (K2.out _ w13 (KS.out _ _ _ TA.out) GB13.out grow13.size)
                  have j1 : w13.cell? ⟨tb, 1, none⟩ = some (.slice sl2 ps.length cap2) := by simp [World.cell?, TB13.out]
                  have jf : w13.frozen? ⟨tb, 1, none⟩ = false := by simp [World.frozen?, TB13.out]
                  have jl : tb < w13.heap.size := (Array.getElem?_eq_some_iff.1 TB13.out).1
                  clear own13 grow13 hg13 hlt13 TB13 GB13
                  refine hK.out _ _ ?_ (fun hHeld => ?_)
                  · exact KS13.out
                  clear hK K
                  refine wpAnyH_take (i := 16) (oi := _) (v := ?_) rfl (by kernel_rfl) (by kernel_rfl) (by kernel_rfl) (fun _ _ _ h => h) (Or.inl ⟨by rfl, ?_⟩) (by assumption) ?_
                  rotate_left
                  · first | (intro w hSw; (try dsimp only at hSw); go_simp; done) | (intro w hSw; (try dsimp only at hSw); go_simp; with_reducible rfl)
                  try simp only [Act.put, List.setIfInBounds_toArray, List.set_cons_zero, List.set_cons_succ, List.getElem_toArray, List.getElem_cons_succ, List.getElem_cons_zero]
                  refine wpAnyH_ready (rs := [17]) (by kernel_rfl) (by simp) ?_
                  refine (AllReadyH.cons rfl (fun K hK => ?_) AllReadyH.nil)
                  go_simp
                  refine hK.out _ _ ?_ (fun hHeld => ?_)
                  · exact KS.out _ _ _ T14.out
                  clear hK K
                  refine wpAnyH_done (by kernel_rfl) ?_ _
                  have WP2 : Hid (∀ p ∈ ps ++ [(a, a, (IntKind.i64.wrap (3 * (r12 : Int))))], WfP p) := fun p hp => by
                    rcases List.mem_append.1 hp with hp | hp
                    · exact WP.out p hp
                    · simp at hp; subst hp; exact ⟨⟨wf_small AW.out, wf_small AW.out⟩, wf_small (kind_ok3 r12 hr12)⟩
                  clear j1 jf jl
                  obtain ⟨f0, f1, ff, fl⟩ := T14.out.facts
                  obtain ⟨e0, e1, e2, e3, e4, e5, e6⟩ := T14.out.res
                  have PF := Lib.hid (T14.out.fin2 HD.out (by omega) (by simp; omega) WP2.out)
                  go_wp2
                  exact bodyPost_ret (v := .agg #[.slice (some ⟨g1, 0, none⟩) rs.length cap1, .slice (some ⟨g13, 0, none⟩) (ps.length + 1) cap13]) (by simp [results, Try.results15, go_sem, e5, e6]) rfl PF.out
                · go_simp
                  go_wp2_with (go_at_call 18; refine (N.out 2 _ (by decide) (by decide) T11d.out.src).mono ?_; rintro e w12 ⟨r12, rfl, hr12, s12, o12⟩)
                  have T12 := Lib.hid (T11d.out.call s12 o12)
                  have tb12 := T12.out.lt
                  clear s12 o12
                  refine hK.out _ _ ?_ (fun hHeld => ?_)
                  · exact KS.out _ _ _ T12.out
                  clear hK K
                  refine wpAnyH_take (i := 12) (oi := _) (v := ?_) rfl (by kernel_rfl) (by kernel_rfl) (by kernel_rfl) (fun _ _ _ h => h) (Or.inl ⟨by rfl, ?_⟩) (by assumption) ?_
                  rotate_left
                  · first | (intro w hSw; (try dsimp only at hSw); go_simp; done) | (intro w hSw; (try dsimp only at hSw); go_simp; with_reducible rfl)
                  try simp only [Act.put, List.setIfInBounds_toArray, List.set_cons_zero, List.set_cons_succ, List.getElem_toArray, List.getElem_cons_succ, List.getElem_cons_zero]
                  refine wpAnyH_take (i := 13) (oi := _) (v := ?_) rfl (by kernel_rfl) (by kernel_rfl) (by kernel_rfl) (fun _ _ _ h => h) (Or.inl ⟨by rfl, ?_⟩) (by assumption) ?_
                  rotate_left
                  · first | (intro w hSw; (try dsimp only at hSw); go_simp; done) | (intro w hSw; (try dsimp only at hSw); go_simp; with_reducible rfl)
                  try simp only [Act.put, List.setIfInBounds_toArray, List.set_cons_zero, List.set_cons_succ, List.getElem_toArray, List.getElem_cons_succ, List.getElem_cons_zero]
                  refine wpAnyH_ready (rs := [1, 14]) (by kernel_rfl) (by simp) ?_
                  refine (AllReadyH.cons rfl (fun K hK => ?_) (AllReadyH.cons rfl (fun K hK => ?_) AllReadyH.nil))
                  · have lf := T12.out.facts.2.1
                    go_simp
                    refine hK.out _ _ ?_ (fun hHeld => ?_)
                    · exact KS.out _ _ _ T12.out
                    clear hK K
                    clear lf
                    refine wpAnyH_ready (rs := [14]) (by kernel_rfl) (by simp) ?_
                    refine (AllReadyH.cons rfl (fun K hK => ?_) AllReadyH.nil)
                    have TA := Lib.hid (T12.out.alloc (.cells #[.int .i64 a, .int .i64 a, .int .i64 (IntKind.i64.wrap (3 * (r12 : Int)))] 69))
                    go_simp
                    refine hK.out _ _ ?_ (fun hHeld => ?_)
                    · exact KS.out _ _ _ TA.out
                    clear hK K
                    refine wpAnyH_ready (rs := [15]) (by kernel_rfl) (by simp) ?_
                    refine (AllReadyH.cons rfl (fun K hK => ?_) AllReadyH.nil)
                    refine step_append_lies _ rfl (.tmp 126) (.tmp 139) 24 rfl (tb + 1) 69 i82 (.agg #[.int .i64 0, .int .i64 0, .int .i64 0]) 3 24 Try.underlying24 hi82 hy80 hy81 hy82 rfl (by decide) (.slice sl2 ps.length cap2) ps.length (prC ps) (by simp [Act.eval]) TA.out.pr ⟨w12.heap.size, 0, none⟩ 1 1 [.int .i64 a, .int .i64 a, .int .i64 (IntKind.i64.wrap (3 * (r12 : Int)))] (by simp [Act.eval]) rfl (three_new3 _ _ _ _ _) (by intro u hu; rcases List.mem_cons.1 hu with rfl | hu; rfl; rcases List.mem_cons.1 hu with rfl | hu; rfl; rcases List.mem_cons.1 hu with rfl | hu; rfl; cases hu) (by decide) (by unfold maxLen; omega) (by omega) (by simp; omega) (w12.heap.size + 1) (by simp) ?_
                    intro g13 cap13 w13 own13 grow13 hg13 hlt13
                    have TB13 := Lib.hid ((grow13.block tb TA.out.lt (fun e => by have := own_base TA.out.pr e.symm; omega)).trans TA.out.tab)
                    have GB13 := Lib.hid (grow13.block g1 ((TA.out.st.lt g1 rfl).2) (fun e => own_ne TA.out.st TA.out.pr (by decide) (j := g1) rfl e.symm))
                    have T14 := Lib.hid (TA.out.addP (a, a, (IntKind.i64.wrap (3 * (r12 : Int)))) grow13 own13)
                    have KS13 := Lib.hid (K2.out _ w13 (KS.out _ _ _ TA.out) GB13.out grow13.size)
                    have j1 : w13.cell? ⟨tb, 1, none⟩ = some (.slice sl2 ps.length cap2) := by simp [World.cell?, TB13.out]
                    have jf : w13.frozen? ⟨tb, 1, none⟩ = false := by simp [World.frozen?, TB13.out]
                    have jl : tb < w13.heap.size := (Array.getElem?_eq_some_iff.1 TB13.out).1
                    clear own13 grow13 hg13 hlt13 TB13 GB13
                    refine hK.out _ _ ?_ (fun hHeld => ?_)
                    · exact KS13.out
                    clear hK K
                    refine wpAnyH_take (i := 16) (oi := _) (v := ?_) rfl (by kernel_rfl) (by kernel_rfl) (by kernel_rfl) (fun _ _ _ h => h) (Or.inl ⟨by rfl, ?_⟩) (by assumption) ?_
                    rotate_left
                    · first | (intro w hSw; (try dsimp only at hSw); go_simp; done) | (intro w hSw; (try dsimp only at hSw); go_simp; with_reducible rfl)
                    try simp only [Act.put, List.setIfInBounds_toArray, List.set_cons_zero, List.set_cons_succ, List.getElem_toArray, List.getElem_cons_succ, List.getElem_cons_zero]
                    refine wpAnyH_ready (rs := [17]) (by kernel_rfl) (by simp) ?_
                    refine (AllReadyH.cons rfl (fun K hK => ?_) AllReadyH.nil)
                    go_simp
                    refine hK.out _ _ ?_ (fun hHeld => ?_)
                    · exact KS.out _ _ _ T14.out
                    clear hK K
                    refine wpAnyH_done (by kernel_rfl) ?_ _
                    have WP2 : Hid (∀ p ∈ ps ++ [(a, a, (IntKind.i64.wrap (3 * (r12 : Int))))], WfP p) := fun p hp => by
                      rcases List.mem_append.1 hp with hp | hp
                      · exact WP.out p hp
                      · simp at hp; subst hp; exact ⟨⟨wf_small AW.out, wf_small AW.out⟩, wf_small (kind_ok3 r12 hr12)⟩
                    clear j1 jf jl
                    obtain ⟨f0, f1, ff, fl⟩ := T14.out.facts
                    obtain ⟨e0, e1, e2, e3, e4, e5, e6⟩ := T14.out.res
                    have PF := Lib.hid (T14.out.fin2 HD.out (by omega) (by simp; omega) WP2.out)
                    go_wp2
                    exact bodyPost_ret (v := .agg #[.slice (some ⟨g1, 0, none⟩) rs.length cap1, .slice (some ⟨g13, 0, none⟩) (ps.length + 1) cap13]) (by simp [results, Try.results15, go_sem, e5, e6]) rfl PF.out
                  · have TA := Lib.hid (T12.out.alloc (.cells #[.int .i64 a, .int .i64 a, .int .i64 (IntKind.i64.wrap (3 * (r12 : Int)))] 69))
                    go_simp
                    refine hK.out _ _ ?_ (fun hHeld => ?_)
                    · exact KS.out _ _ _ TA.out
                    clear hK K
                    refine wpAnyH_ready (rs := [1]) (by kernel_rfl) (by simp) ?_
                    refine (AllReadyH.cons rfl (fun K hK => ?_) AllReadyH.nil)
                    have lf := TA.out.facts.2.1
                    go_simp
                    refine hK.out _ _ ?_ (fun hHeld => ?_)
                    · exact KS.out _ _ _ TA.out
                    clear hK K
                    clear lf
                    refine wpAnyH_ready (rs := [15]) (by kernel_rfl) (by simp) ?_
                    refine (AllReadyH.cons rfl (fun K hK => ?_) AllReadyH.nil)
                    refine step_append_lies _ rfl (.tmp 126) (.tmp 139) 24 rfl (tb + 1) 69 i82 (.agg #[.int .i64 0, .int .i64 0, .int .i64 0]) 3 24 Try.underlying24 hi82 hy80 hy81 hy82 rfl (by decide) (.slice sl2 ps.length cap2) ps.length (prC ps) (by simp [Act.eval]) TA.out.pr ⟨w12.heap.size, 0, none⟩ 1 1 [.int .i64 a, .int .i64 a, .int .i64 (IntKind.i64.wrap (3 * (r12 : Int)))] (by simp [Act.eval]) rfl (three_new3 _ _ _ _ _) (by intro u hu; rcases List.mem_cons.1 hu with rfl | hu; rfl; rcases List.mem_cons.1 hu with rfl | hu; rfl; rcases List.mem_cons.1 hu with rfl | hu; rfl; cases hu) (by decide) (by unfold maxLen; omega) (by omega) (by simp; omega) (w12.heap.size + 1) (by simp) ?_
                    intro g13 cap13 w13 own13 grow13 hg13 hlt13
                    have TB13 := Lib.hid ((grow13.block tb TA.out.lt (fun e => by have := own_base TA.out.pr e.symm; omega)).trans TA.out.tab)
                    have GB13 := Lib.hid (grow13.block g1 ((TA.out.st.lt g1 rfl).2) (fun e => own_ne TA.out.st TA.out.pr (by decide) (j := g1) rfl e.symm))
                    have T14 := Lib.hid (TA.out.addP (a, a, (IntKind.i64.wrap (3 * (r12 : Int)))) grow13 own13)
                    have KS13 := Lib.hid (K2.out _ w13 (KS.out _ _ _ TA.out) GB13.out grow13.size)
                    have j1 : w13.cell? ⟨tb, 1, none⟩ = some (.slice sl2 ps.length cap2) := by simp [World.cell?, TB13.out]
                    have jf : w13.frozen? ⟨tb, 1, none⟩ = false := by simp [World.frozen?, TB13.out]
                    have jl : tb < w13.heap.size := (Array.getElem?_eq_some_iff.1 TB13.out).1
                    clear own13 grow13 hg13 hlt13 TB13 GB13
                    refine hK.out _ _ ?_ (fun hHeld => ?_)
                    · exact KS13.out
                    clear hK K
                    refine wpAnyH_take (i := 16) (oi := _) (v := ?_) rfl (by kernel_rfl) (by kernel_rfl) (by kernel_rfl) (fun _ _ _ h => h) (Or.inl ⟨by rfl, ?_⟩) (by assumption) ?_
                    rotate_left
                    · first | (intro w hSw; (try dsimp only at hSw); go_simp; done) | (intro w hSw; (try dsimp only at hSw); go_simp; with_reducible rfl)
                    try simp only [Act.put, List.setIfInBounds_toArray, List.set_cons_zero, List.set_cons_succ, List.getElem_toArray, List.getElem_cons_succ, List.getElem_cons_zero]
                    refine wpAnyH_ready (rs := [17]) (by kernel_rfl) (by simp) ?_
                    refine (AllReadyH.cons rfl (fun K hK => ?_) AllReadyH.nil)
                    go_simp
                    refine hK.out _ _ ?_ (fun hHeld => ?_)
                    · exact KS.out _ _ _ T14.out
                    clear hK K
                    refine wpAnyH_done (by kernel_rfl) ?_ _
                    have WP2 : Hid (∀ p ∈ ps ++ [(a, a, (IntKind.i64.wrap (3 * (r12 : Int))))], WfP p) := fun p hp => by
                      rcases List.mem_append.1 hp with hp | hp
                      · exact WP.out p hp
                      · simp at hp; subst hp; exact ⟨⟨wf_small AW.out, wf_small AW.out⟩, wf_small (kind_ok3 r12 hr12)⟩
                    clear j1 jf jl
                    obtain ⟨f0, f1, ff, fl⟩ := T14.out.facts
                    obtain ⟨e0, e1, e2, e3, e4, e5, e6⟩ := T14.out.res
                    have PF := Lib.hid (T14.out.fin2 HD.out (by omega) (by simp; omega) WP2.out)
                    go_wp2
                    exact bodyPost_ret (v := .agg #[.slice (some ⟨g1, 0, none⟩) rs.length cap1, .slice (some ⟨g13, 0, none⟩) (ps.length + 1) cap13]) (by simp [results, Try.results15, go_sem, e5, e6]) rfl PF.out

end Go.Proofs.Ytgfclllfkpblnaa
