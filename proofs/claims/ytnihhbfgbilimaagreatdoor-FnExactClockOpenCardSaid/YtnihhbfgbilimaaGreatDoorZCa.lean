import Derived.Test.YtnihhbfgbilimaaGreatDoorKOba
namespace Go.Proofs.YtnihhbfgbilimaaGreatDoor
open Go.RowKit
set_option linter.unusedVariables false
set_option linter.unusedSimpArgs false
def stC (rs : List LSt) : List Value := rs.flatMap fun r => [.int .i64 r.1, .int .i64 r.2.1, r.2.2.1]
def prC (ps : List LPr) : List Value := ps.flatMap fun p => [.int .i64 p.1, .int .i64 p.2.1, .int .i64 p.2.2]
theorem stC_add (a b : List LSt) : stC (a ++ b) = stC a ++ stC b := by simp [stC]
theorem prC_add (a b : List LPr) : prC (a ++ b) = prC a ++ prC b := by simp [prC]
theorem stC_at (rs : List LSt) (i : Nat) (h : i < rs.length) : (stC rs)[i * 3]? = some (.int .i64 rs[i].1) ∧ (stC rs)[i * 3 + 1]? = some (.int .i64 rs[i].2.1) ∧ (stC rs)[i * 3 + 2]? = some rs[i].2.2.1 := by
 induction rs generalizing i with
 | nil => simp at h
 | cons a r ih =>
  cases i with
  | zero => simp [stC]
  | succ i =>
   have h' := ih i (by simpa using h)
   have e : stC (a :: r) = .int .i64 a.1 :: .int .i64 a.2.1 :: a.2.2.1 :: stC r := by simp [stC]
   rw [e, show (i + 1) * 3 = i * 3 + 3 by omega]
   simpa using h'
theorem prC_at (ps : List LPr) (i : Nat) (h : i < ps.length) : (prC ps)[i * 3]? = some (.int .i64 ps[i].1) ∧ (prC ps)[i * 3 + 1]? = some (.int .i64 ps[i].2.1) ∧ (prC ps)[i * 3 + 2]? = some (.int .i64 ps[i].2.2) := by
 induction ps generalizing i with
 | nil => simp at h
 | cons a r ih =>
  cases i with
  | zero => simp [prC]
  | succ i =>
   have h' := ih i (by simpa using h)
   have e : prC (a :: r) = .int .i64 a.1 :: .int .i64 a.2.1 :: .int .i64 a.2.2 :: prC r := by simp [prC]
   rw [e, show (i + 1) * 3 = i * 3 + 3 by omega]
   simpa using h'
theorem stC_len (a : List LSt) : (stC a).length = a.length * 3 := by
 induction a with
 | nil => rfl
 | cons c t ih => rw [show c :: t = [c] ++ t from rfl, stC_add, List.length_append, ih]; simp [stC]; omega
theorem prC_len (a : List LPr) : (prC a).length = a.length * 3 := by
 induction a with
 | nil => rfl
 | cons c t ih => rw [show c :: t = [c] ++ t from rfl, prC_add, List.length_append, ih]; simp [prC]; omega
def szR (rs : List LSt) : Nat := 2 * rs.length + totD rs
def mkR : Int → List LSt → List LSt
 | _, [] => []
 | k, r :: t => (k, k + 1, r.2.2.1, marks (k + 1 + 1) r.2.2.2.length) :: mkR (k + 1 + 1 + (r.2.2.2.length : Int)) t
theorem szR_add (a b : List LSt) : szR (a ++ b) = szR a + szR b := by unfold szR; rw [totD_add, List.length_append]; omega
theorem szR_one (r : LSt) : szR [r] = 2 + r.2.2.2.length := by simp [szR, totD]
theorem mkR_add (a b : List LSt) : ∀ k : Int, mkR k (a ++ b) = mkR k a ++ mkR (k + (szR a : Int)) b := by
 induction a with
 | nil => intro k; simp [mkR, szR, totD]
 | cons r t ih =>
  intro k
  rw [List.cons_append, mkR, mkR, ih, List.cons_append]
  have : szR (r :: t) = 2 + r.2.2.2.length + szR t := by rw [show r :: t = [r] ++ t from rfl, szR_add, szR_one]
  rw [this]
  congr 3
  push_cast
  omega
theorem mkR_len (a : List LSt) : ∀ k : Int, (mkR k a).length = a.length := by
 induction a with
 | nil => intro k; rfl
 | cons r t ih => intro k; rw [mkR, List.length_cons, ih, List.length_cons]
theorem mkR_get (rs : List LSt) (k : Int) (j : Nat) (hj : j < rs.length) : (mkR k rs)[j]? = some (k + (szR (rs.take j) : Int), k + (szR (rs.take j) : Int) + 1, rs[j].2.2.1, marks (k + (szR (rs.take j) : Int) + 1 + 1) rs[j].2.2.2.length) := by
 have e : rs = rs.take j ++ rs[j] :: rs.drop (j + 1) := by
  conv => lhs; rw [← List.take_append_drop j rs, List.drop_eq_getElem_cons hj]
 have e2 := congrArg (fun l => (mkR k l)[j]?) e
 rw [e2, mkR_add, List.getElem?_append_right (by rw [mkR_len, List.length_take]; omega), mkR_len, List.length_take, Nat.min_eq_left (by omega), Nat.sub_self]
 rfl
theorem szR_take (rs : List LSt) (j : Nat) (hj : j < rs.length) : szR (rs.take (j + 1)) = szR (rs.take j) + 2 + rs[j].2.2.2.length := by
 rw [List.take_succ_eq_append_getElem hj, szR_add, szR_one]
 omega
theorem szR_le (rs : List LSt) (j : Nat) : szR (rs.take j) ≤ szR rs := by
 have : szR rs = szR (rs.take j) + szR (rs.drop j) := by rw [← szR_add, List.take_append_drop]
 omega
theorem own_setS {w : World} {B : Nat} {e : TypeId} {m g cap n : Nat} {xs : List Value} (h : w.ownsRow B e m (.slice (some ⟨g, 0, none⟩) n cap) n xs) (i : Nat) (hi : i < n * m) (u : Value) : (w.setCell ⟨g, i, none⟩ u).ownsRow B e m (.slice (some ⟨g, 0, none⟩) n cap) n (xs.set i u) := by
 refine ⟨by simpa using h.1, ?_⟩
 rcases h.2 with ⟨h', _⟩ | ⟨g', cap', cur, h', hb, hg, h1, h2, h3, h4⟩
 ·simp at h'
 ·simp only [Value.slice.injEq, Option.some.injEq, Addr.mk.injEq, and_true, true_and] at h'
  obtain ⟨rfl, rfl⟩ := h'
  refine .inr ⟨g, cap, cur.setIfInBounds i u, rfl, hb, heap_setCell_same w g i cur e u hg, h1, h2, by simp [h3], ?_⟩
  rw [Array.toList_setIfInBounds, List.take_set, h4]
theorem own_thereS {w : World} {B : Nat} {e : TypeId} {m g cap n : Nat} {xs : List Value} (h : w.ownsRow B e m (.slice (some ⟨g, 0, none⟩) n cap) n xs) : ∃ cur, w.heap[g]? = some (.cells cur e) ∧ B ≤ g := by
 rcases h.2 with ⟨h', _⟩ | ⟨g', cap', cur, h', hb, hg, _⟩
 ·simp at h'
 ·simp only [Value.slice.injEq, Option.some.injEq, Addr.mk.injEq, and_true, true_and] at h'
  obtain ⟨rfl, rfl⟩ := h'
  exact ⟨cur, hg, hb⟩
theorem cellsAtS {w : World} {b : Nat} {vs : Array Value} {t : TypeId} (h : w.heap[b]? = some (.cells vs t)) : (∀ i, w.cell? ⟨b, i, none⟩ = vs[i]?) ∧ ∀ i, w.frozen? ⟨b, i, none⟩ = false :=
 ⟨fun i => by simp [World.cell?, h], fun i => by simp [World.frozen?, h]⟩
theorem own_kindne {w : World} {B : Nat} {e t : TypeId} {m : Nat} {v : Value} {n : Nat} {xs : List Value} {j : Nat} {cur : Array Value} (h : w.ownsRow B e m v n xs) (hj : w.heap[j]? = some (.cells cur t)) (he : e ≠ t) : v.ownBlock ≠ some j := fun e0 => by
 obtain ⟨cur', hc⟩ := own_kind h e0
 rw [hc] at hj
 cases hj
 exact he rfl
def K92 (w0 W : World) : Prop := ∀ (k : Nat) (us : Array Value) (t : TypeId), t ≠ 2 → t ≠ 92 → w0.heap[k]? = some (.cells us t) → W.heap[k]? = some (.cells us t)
theorem K92.refl (W : World) : K92 W W := fun _ _ _ _ _ h => h
theorem K92.trans {a b c : World} (h : K92 a b) (g : K92 b c) : K92 a c := fun k us t ht ht' hk => g k us t ht ht' (h k us t ht ht' hk)
theorem K92.below {w W W' : World} (h : K92 w W) (hb : Below W.heap.size W W') : K92 w W' := fun k us t ht ht' hk => by
 have := h k us t ht ht' hk
 exact (hb.block k (Array.getElem?_eq_some_iff.1 this).1).trans this
theorem K92.set {w W : World} (h : K92 w W) {g : Nat} {cur : Array Value} (hg : W.heap[g]? = some (.cells cur 92)) (i : Nat) (u : Value) : K92 w (W.setCell ⟨g, i, none⟩ u) := fun k us t ht ht' hk => by
 have := h k us t ht ht' hk
 refine (Below.heap_setCell _ _ _ _ (fun e => ?_)).trans this
 subst e
 rw [hg] at this
 cases this
 exact ht' rfl
theorem K92.grown {w W W' : World} {B m : Nat} {v : Value} {n : Nat} {xs : List Value} (h : K92 w W) (hv : W.ownsRow B 2 m v n xs) (hg : W.grownBy W' v.ownBlock) : K92 w W' := fun k us t ht ht' hk => by
 have := h k us t ht ht' hk
 refine (hg.block k (Array.getElem?_eq_some_iff.1 this).1 (fun e0 => ?_)).trans this
 exact own_kindne hv this ht.symm e0.symm
theorem own_k92 {w w' : World} {B : Nat} {e : TypeId} {m : Nat} {v : Value} {n : Nat} {xs : List Value} (h : w.ownsRow B e m v n xs) (he : e ≠ 2) (he' : e ≠ 92) (k : K92 w w') : w'.ownsRow B e m v n xs := by
 refine ⟨h.1, ?_⟩
 rcases h.2 with h | ⟨g, cap, cur, hv, hb, hg, r⟩
 ·exact .inl h
 ·exact .inr ⟨g, cap, cur, hv, hb, k g cur e he he' hg, r⟩
def domB (r : LSt) : Option Nat := r.2.2.1.ownBlock
structure OwS (w : World) (B : Nat) (v : Value) (rs : List LSt) : Prop where
 r1 : w.ownsRow B 92 3 v rs.length (stC rs)
 dom : ∀ r ∈ rs, w.ownsRow B 2 1 r.2.2.1 r.2.2.2.length (valsZ r.2.2.2)
 diff : rs.Pairwise fun r s => domB r = none ∨ domB r ≠ domB s
theorem OwS.nil (w : World) (B : Nat) : OwS w B (.slice none 0 0) [] := ⟨⟨rfl, .inl ⟨rfl, rfl⟩⟩, (fun r h => by cases h), List.Pairwise.nil⟩
theorem OwS.below {w w' : World} {B : Nat} {v : Value} {rs : List LSt} (h : OwS w B v rs) (hb : Below w.heap.size w w') : OwS w' B v rs :=
 ⟨own_below h.r1 hb, fun r hr => own_below (h.dom r hr) hb, h.diff⟩
theorem OwS.kept {w w' : World} {B B' : Nat} {e : TypeId} {m n : Nat} {v v' : Value} {xs : List Value} {rs : List LSt} (h : OwS w B v rs) (ho : w.ownsRow B' e m v' n xs) (he : e ≠ 2) (he' : e ≠ 92) (hg : w.grownBy w' v'.ownBlock) : OwS w' B v rs :=
 ⟨h.r1.kept hg (own_diff h.r1 ho he'.symm), fun r hr => (h.dom r hr).kept hg (own_diff (h.dom r hr) ho he.symm), h.diff⟩
theorem OwS.btw {X Y B : Nat} {w w' : World} {v : Value} {rs : List LSt} (h : OwS w B v rs) (hb : Btw X Y w w') (hY : Y ≤ B) : OwS w' B v rs :=
 ⟨own_btw h.r1 hb (fun j hj => .inr (Nat.le_trans hY (h.r1.lt j hj).1)), fun r hr => own_btw (h.dom r hr) hb (fun j hj => .inr (Nat.le_trans hY ((h.dom r hr).lt j hj).1)), h.diff⟩
theorem dom_smallS {w : World} {B : Nat} {r : LSt} (h : w.ownsRow B 2 1 r.2.2.1 r.2.2.2.length (valsZ r.2.2.2)) (hs : r.2.2.2.length ≤ 1048576) : DomIn w r := by
 obtain ⟨sl, cap, e, i⟩ := own_ints h
 exact ⟨sl, cap, e, i, hs⟩
theorem OwS.sts {w : World} {B : Nat} {v : Value} {rs : List LSt} (h : OwS w B v rs) (hs : totD rs ≤ 1048576) : ∃ sl cap, v = .slice sl rs.length cap ∧ Sts w sl rs := by
 have dm : ∀ r ∈ rs, DomIn w r := fun r hr => dom_smallS (h.dom r hr) (Nat.le_trans (totD_mem rs r hr) hs)
 have h1 := h.r1
 rcases h1.2 with ⟨hv, h0⟩ | ⟨g, cap, cur, hv, hb, hg, _⟩
 ·exact ⟨none, 0, by rw [hv, h0], .inl (List.eq_nil_of_length_eq_zero h0), dm⟩
 ·refine ⟨_, cap, hv, .inr ⟨g, 0, rfl, (Array.getElem?_eq_some_iff.1 hg).1, fun i hi => ?_⟩, dm⟩
  have e := stC_at rs i hi
  subst hv
  rw [Nat.zero_add]
  exact ⟨by rw [h1.cellAt (i * 3) (by omega), e.1], by rw [h1.cellAt (i * 3 + 1) (by omega), e.2.1], by rw [h1.cellAt (i * 3 + 2) (by omega), e.2.2]⟩
theorem own_prs {w : World} {B : Nat} {e : TypeId} {v : Value} {ps : List LPr} (h1 : w.ownsRow B e 3 v ps.length (prC ps)) : ∃ sl cap, v = .slice sl ps.length cap ∧ Prs w sl ps := by
 rcases h1.2 with ⟨hv, h0⟩ | ⟨g, cap, cur, hv, hb, hg, _⟩
 ·exact ⟨none, 0, by rw [hv, h0], .inl (List.eq_nil_of_length_eq_zero h0)⟩
 ·refine ⟨_, cap, hv, .inr ⟨g, 0, rfl, (Array.getElem?_eq_some_iff.1 hg).1, fun i hi => ?_⟩⟩
  have e := prC_at ps i hi
  subst hv
  rw [Nat.zero_add]
  exact ⟨by rw [h1.cellAt (i * 3) (by omega), e.1], by rw [h1.cellAt (i * 3 + 1) (by omega), e.2.1], by rw [h1.cellAt (i * 3 + 2) (by omega), e.2.2]⟩
theorem bs_pair {a b : List LSt} {r s : LSt} (e : domB s = domB r) (h : (a ++ r :: b).Pairwise fun r s => domB r = none ∨ domB r ≠ domB s) : (a ++ s :: b).Pairwise fun r s => domB r = none ∨ domB r ≠ domB s := by
 have h2 : ((a ++ r :: b).map domB).Pairwise fun x y => x = none ∨ x ≠ y := List.pairwise_map.2 h
 have e2 : (a ++ s :: b).map domB = (a ++ r :: b).map domB := by simp [e]
 rw [← e2] at h2
 exact List.pairwise_map.1 h2
theorem OwS.setSt {w : World} {B g n cap : Nat} {a b : List LSt} {r : LSt} (h : OwS w B (.slice (some ⟨g, 0, none⟩) n cap) (a ++ r :: b)) (hn : (a ++ r :: b).length = n) (x y : Int) :
  OwS ((w.setCell ⟨g, a.length * 3, none⟩ (.int .i64 x)).setCell ⟨g, a.length * 3 + 1, none⟩ (.int .i64 y)) B (.slice (some ⟨g, 0, none⟩) n cap) (a ++ (x, y, r.2.2.1, r.2.2.2) :: b) := by
 have hl : a.length < n := by rw [← hn]; simp
 have h1 := h.r1
 rw [hn] at h1
 obtain ⟨cur, hg, hb⟩ := own_thereS h1
 have hg1 := heap_setCell_same w g (a.length * 3) cur 92 (.int .i64 x) hg
 refine ⟨?_, fun s hs => ?_, ?_⟩
 ·have hn' : (a ++ (x, y, r.2.2.1, r.2.2.2) :: b).length = n := by rw [← hn]; simp
  rw [hn']
  have := own_setS (own_setS h1 (a.length * 3) (by omega) (.int .i64 x)) (a.length * 3 + 1) (by omega) (.int .i64 y)
  have e : ((stC (a ++ r :: b)).set (a.length * 3) (.int .i64 x)).set (a.length * 3 + 1) (.int .i64 y) = stC (a ++ (x, y, r.2.2.1, r.2.2.2) :: b) := by
   have hla := stC_len a
   have e1 : ∀ q : LSt, stC (a ++ q :: b) = stC a ++ (.int .i64 q.1 :: .int .i64 q.2.1 :: q.2.2.1 :: stC b) := fun q => by rw [stC_add, show q :: b = [q] ++ b from rfl, stC_add]; rfl
   rw [e1, e1, ← hla, List.set_append_right _ _ (Nat.le_refl _), List.set_append_right _ _ (by omega)]
   simp
  rw [e] at this
  exact this
 ·have hd : ∀ q ∈ a ++ r :: b, ((w.setCell ⟨g, a.length * 3, none⟩ (.int .i64 x)).setCell ⟨g, a.length * 3 + 1, none⟩ (.int .i64 y)).ownsRow B 2 1 q.2.2.1 q.2.2.2.length (valsZ q.2.2.2) := fun q hq => by
   have hne := own_kindne (h.dom q hq) hg (by decide)
   exact own_set (own_set (h.dom q hq) hne _ _) hne _ _
  rcases List.mem_append.1 hs with hs | hs
  ·exact hd s (List.mem_append_left _ hs)
  ·rcases List.mem_cons.1 hs with rfl | hs
   ·exact hd r (List.mem_append_right _ (List.mem_cons_self))
   ·exact hd s (List.mem_append_right _ (List.mem_cons_of_mem _ hs))
 ·exact bs_pair (r := r) rfl h.diff
theorem OwS.setDom {w w' : World} {B : Nat} {v : Value} {a b : List LSt} {r : LSt} (h : OwS w B v (a ++ r :: b)) (ds : List Int) (hds : ds.length = r.2.2.2.length) (ht : w'.ownsRow B 2 1 r.2.2.1 ds.length (valsZ ds)) (hg : w.grownBy w' (domB r)) :
  OwS w' B v (a ++ (r.1, r.2.1, r.2.2.1, ds) :: b) := by
 have hr := h.dom r (List.mem_append_right _ List.mem_cons_self)
 have hd := List.pairwise_append.1 h.diff
 have hd2 := List.pairwise_cons.1 hd.2.1
 refine ⟨?_, fun s hs => ?_, ?_⟩
 ·have := h.r1.kept hg (own_diff h.r1 hr (by decide))
  have e : stC (a ++ (r.1, r.2.1, r.2.2.1, ds) :: b) = stC (a ++ r :: b) := by rw [stC_add, stC_add]; rfl
  rw [e]
  simpa using this
 ·rcases List.mem_append.1 hs with hs | hs
  ·exact (h.dom s (List.mem_append_left _ hs)).kept hg (hd.2.2 s hs r List.mem_cons_self)
  ·rcases List.mem_cons.1 hs with rfl | hs
   ·exact ht
   ·refine (h.dom s (List.mem_append_right _ (List.mem_cons_of_mem _ hs))).kept hg ?_
    rcases hd2.1 s hs with e | e
    ·have hg0 : domB r = none := e
     cases hs0 : s.2.2.1.ownBlock with
     | none => exact .inl rfl
     | some j => exact .inr (by rw [hg0]; simp)
    ·exact .inr (fun e2 => e e2.symm)
 ·exact bs_pair (r := r) rfl h.diff
set_option maxRecDepth 100000 in
set_option maxHeartbeats 2000000 in
theorem mkS_any (B : Nat) (sl : Option Addr) (cap n : Nat) (rs : List LSt) (k : Int) (hn : rs.length = n) (hb : n + totD rs ≤ 1048576) (k0 : 0 ≤ k) (k1 : k ≤ 10000000) (w : World) (hB : B ≤ w.heap.size) (h : OwS w B (.slice sl n cap) rs) :
  Calls Tryz.prog 81 #[.slice sl n cap, .int .i64 k] w fun e w' => e = .returned (.int .i64 (k + (szR rs : Int))) ∧ OwS w' B (.slice sl n cap) (mkR k rs) ∧ Below B w w' ∧ K92 w w' := by
 have H := Lib.hid h
 have HN := Lib.hid hn
 have HB := Lib.hid hB
 have hs2 : ∀ a b : List LSt, rs = a ++ b → szR a ≤ 3000000 := fun a b e => by
  have : totD rs = totD a + totD b := by rw [e, totD_add]
  have : rs.length = a.length + b.length := by rw [e, List.length_append]
  unfold szR
  omega
 have HS := Lib.hid hs2
 have hnn : n ≤ 1048576 := by omega
 have HT := Lib.hid hb
 clear h hn hs2 hb hB
 go_enter Tryz.func81, Tryz.ntmps81
 go_wp2
 go_loopw [1, 5] (fun m i wr => ∃ (j : Nat) (a b : List LSt), i = .int .i64 j ∧ m = .int .i64 (k + (szR a : Int)) ∧ j ≤ n ∧ Hid (rs = a ++ b ∧ a.length = j) ∧ Hid (OwS wr B (.slice sl n cap) (mkR k a ++ b)) ∧ Hid (Below B w wr ∧ K92 w wr)) (fun _ i _ => n - (intOf i).toNat)
 case atStart => exact ⟨0, [], rs, rfl, by simp [szR, totD], Nat.zero_le _, ⟨rfl, rfl⟩, H, Below.refl _ _, K92.refl _⟩
 case round =>
  obtain ⟨j, a, b, rfl, rfl, hj, HAB, H1, H2⟩ := hrel
  have hj0 : (0 : Int) ≤ (j : Int) := by omega
  by_cases h1 : j < n
  ·have h1' : (j : Int) < (n : Int) := by omega
   obtain ⟨r, b', hbb⟩ : ∃ r b', b = r :: b' := by
    have e := HAB.out.1
    have e1 := congrArg List.length e
    rw [List.length_append, HN.out, HAB.out.2] at e1
    cases b with
    | nil => simp at e1; omega
    | cons r b' => exact ⟨r, b', rfl⟩
   subst hbb
   have hla : (mkR k a).length = j := by rw [mkR_len, HAB.out.2]
   have hln : (mkR k a ++ r :: b').length = n := by
    have e1 := congrArg List.length HAB.out.1
    rw [HN.out] at e1
    rw [e1]
    simp [mkR_len]
   have hrm : r ∈ rs := by rw [HAB.out.1]; exact List.mem_append_right _ List.mem_cons_self
   have r1 := H1.out.r1
   rw [hln] at r1
   obtain ⟨g, rfl⟩ : ∃ g, sl = some ⟨g, 0, none⟩ := by
    rcases r1.2 with ⟨_, h0⟩ | ⟨g, c, cur, e, _⟩
    ·omega
    ·exact ⟨g, (Value.slice.inj e).1⟩
   obtain ⟨cur, hg, hgB⟩ := own_thereS r1
   have sa := stC_at (mkR k a ++ r :: b') j (by rw [hln]; exact h1)
   have er : (mkR k a ++ r :: b')[j]'(by rw [hln]; exact h1) = r := by
    rw [List.getElem_append_right (by omega)]
    simp [hla]
   rw [er] at sa
   have hdr := H1.out.dom r (List.mem_append_right _ List.mem_cons_self)
   obtain ⟨s, cp, ed⟩ := own_v hdr
   have c0 := (r1.cellAt (j * 3) (by omega)).trans sa.1
   have c1 := (r1.cellAt (j * 3 + 1) (by omega)).trans sa.2.1
   have c2 := (r1.cellAt (j * 3 + 2) (by omega)).trans sa.2.2
   rw [ed] at c2
   have f0 := (cellsAtS hg).2 (j * 3)
   have f1 := (cellsAtS hg).2 (j * 3 + 1)
   have hz := HS.out a _ HAB.out.1
   have hq : r.2.2.2.length ≤ 1048576 := by
    have := totD_mem rs r hrm
    have := HT.out
    omega
   have HZ : Hid (mkR k (a ++ [r]) = mkR k a ++ [(k + (szR a : Int), k + (szR a : Int) + 1, r.2.2.1, marks (k + (szR a : Int) + 1 + 1) r.2.2.2.length)] ∧ (k + (szR (a ++ [r]) : Int) = k + (szR a : Int) + 1 + 1 + (r.2.2.2.length : Int))) := by
    refine ⟨by rw [mkR_add]; rfl, ?_⟩
    rw [szR_add, szR_one]
    push_cast
    omega
   have hz0 : 0 ≤ k + (szR a : Int) ∧ k + (szR a : Int) ≤ 15000000 := by omega
   generalize k + (szR a : Int) = z at *
   obtain ⟨z0, z1⟩ := hz0
   have S1 := H1.out.setSt hln z (z + 1)
   rw [hla] at S1
   have HS1 := Lib.hid S1
   have K1 := Lib.hid ((H2.out.2.set hg (j * 3) (.int .i64 z)).set (heap_setCell_same _ g (j * 3) cur 92 (.int .i64 z) hg) (j * 3 + 1) (.int .i64 (z + 1)))
   have B1 := Lib.hid ((H2.out.1.setCell (p := ⟨g, j * 3, none⟩) hgB (.int .i64 z)).setCell (p := ⟨g, j * 3 + 1, none⟩) hgB (.int .i64 (z + 1)))
   have hdr2 := S1.dom _ (List.mem_append_right _ List.mem_cons_self)
   dsimp only at hdr2
   have M1 := mark_row B r.2.2.1 r.2.2.2 (z + 1 + 1) hq (by omega) (by omega) _ hdr2
   have HDR := Lib.hid hdr2
   rw [ed] at M1
   have HM1 := Lib.hid M1
   have HED := Lib.hid ed
   clear S1 M1 sa er r1 hg hla hln hrm ed H1 H2 hdr hdr2 hgB
   generalize hqq : r.2.2.2.length = q at *
   have HQ := Lib.hid hqq
   clear hqq
   go_wp2_with fail
   refine HM1.out.mono ?_
   rintro e w2 ⟨rfl, t2, g2⟩
   have g3 : World.grownBy ((wr.setCell ⟨g, j * 3, none⟩ (.int .i64 z)).setCell ⟨g, j * 3 + 1, none⟩ (.int .i64 (z + 1))) w2 (domB (z, z + 1, r.2.2.1, r.2.2.2)) := by rw [show domB (z, z + 1, r.2.2.1, r.2.2.2) = (Value.slice s q cp).ownBlock by unfold domB; rw [HED.out]]; exact g2
   have S2 : Hid (OwS w2 B (.slice (some ⟨g, 0, none⟩) n cap) (mkR k (a ++ [r]) ++ b')) := by
    have := OwS.setDom (r := (z, z + 1, r.2.2.1, r.2.2.2)) HS1.out (marks (z + 1 + 1) q) (by rw [marks_len]; exact HQ.out.symm) (by rw [marks_len, HED.out]; exact t2) g3
    rw [HZ.out.1, List.append_assoc]
    exact this
   have B2 : Hid (Below B w w2 ∧ K92 w w2) := ⟨B1.out.grown g3 (Nat.le_trans HB.out B1.out.size) (fun i hi => (HDR.out.lt i hi).1), K1.out.grown HDR.out g3⟩
   have AB : Hid (rs = (a ++ [r]) ++ b' ∧ (a ++ [r]).length = j + 1) := ⟨by rw [HAB.out.1]; simp, by rw [List.length_append, HAB.out.2]; rfl⟩
   clear t2 g2 g3 HM1 HS1 B1 K1 HDR
   go_wp2
   go_roundw
   case rel => exact ⟨j + 1, a ++ [r], b', by go_num, by rw [HZ.out.2], by omega, AB, S2, B2⟩
   case measure => simp [intOf]; omega
  ·have h1' : ¬ (j : Int) < (n : Int) := by omega
   have P : Hid (k + (szR a : Int) = k + (szR rs : Int) ∧ OwS wr B (.slice sl n cap) (mkR k rs)) := by
    have e := HAB.out.1
    have e1 := congrArg List.length e
    rw [List.length_append, HN.out, HAB.out.2] at e1
    have hb0 : b = [] := List.eq_nil_of_length_eq_zero (by omega)
    subst hb0
    have := H1.out
    rw [List.append_nil] at e this
    rw [e]
    exact ⟨rfl, this⟩
   clear H1
   go_wp2
   go_ret
   exact ⟨by rw [← P.out.1]; rfl, P.out.2, H2.out⟩
set_option maxRecDepth 100000 in
set_option maxHeartbeats 2000000 in
theorem hdS_any (B : Nat) (sl : Option Addr) (n cap : Nat) (rs : List LSt) (k : Int) (hn : rs.length = n) (hb : n + totD rs ≤ 1048576) (k0 : 0 ≤ k) (k1 : k ≤ 10000000) (w : World) (h : OwS w B (.slice sl n cap) (mkR k rs)) :
  Calls Tryz.prog 184 #[.slice sl n cap, .int .i64 k] w fun e w' => e = .returned (.int .i64 (k + (szR rs : Int))) ∧ w' = w := by
 have H := Lib.hid h
 have HN := Lib.hid hn
 have hs2 : szR rs ≤ 3000000 := by unfold szR; omega
 have HS : Hid (∀ j, szR (rs.take j) ≤ 3000000) := fun j => Nat.le_trans (szR_le rs j) hs2
 have HT := Lib.hid hb
 have hnn : n ≤ 1048576 := by omega
 clear h hn hb
 go_enter Tryz.func184, Tryz.ntmps184
 go_wp2
 go_loop [1, 5] (fun m i => ∃ j : Nat, i = .int .i64 j ∧ m = .int .i64 (k + (szR (rs.take j) : Int)) ∧ j ≤ n) (fun _ i => n - (intOf i).toNat)
 case atStart => exact ⟨0, rfl, by simp [szR, totD], Nat.zero_le _⟩
 case round =>
  obtain ⟨j, rfl, rfl, hj⟩ := hrel
  have hj0 : (0 : Int) ≤ (j : Int) := by omega
  by_cases h1 : j < n
  ·have h1' : (j : Int) < (n : Int) := by omega
   have hlt : j < rs.length := by rw [HN.out]; exact h1
   have hlt2 : j < (mkR k rs).length := by rw [mkR_len]; exact hlt
   have r1 := H.out.r1
   rw [mkR_len, HN.out] at r1
   obtain ⟨g, rfl⟩ : ∃ g, sl = some ⟨g, 0, none⟩ := by
    rcases r1.2 with ⟨_, h0⟩ | ⟨g, c, cur, e, _⟩
    ·omega
    ·exact ⟨g, (Value.slice.inj e).1⟩
   have eg0 := mkR_get rs k j hlt
   rw [List.getElem?_eq_getElem hlt2] at eg0
   have eg := Option.some.inj eg0
   clear eg0
   have sa := stC_at (mkR k rs) j hlt2
   have dm := H.out.dom _ (List.getElem_mem hlt2)
   rw [eg] at sa dm
   dsimp only at sa dm
   rw [marks_len] at dm
   have c0 := (r1.cellAt (j * 3) (by omega)).trans sa.1
   have c1 := (r1.cellAt (j * 3 + 1) (by omega)).trans sa.2.1
   have c2 := (r1.cellAt (j * 3 + 2) (by omega)).trans sa.2.2
   obtain ⟨s1, p1, ed⟩ := own_v dm
   rw [ed] at c2 dm
   have hq1m : rs[j].2.2.2.length ≤ 1048576 := by
    have := totD_mem rs rs[j] (List.getElem_mem hlt)
    have := HT.out
    omega
   have hz := HS.out j
   have HZ : Hid (k + (szR (rs.take (j + 1)) : Int) = k + (szR (rs.take j) : Int) + 1 + 1 + (rs[j].2.2.2.length : Int)) := by
    show _ = _
    rw [szR_take rs j hlt]
    push_cast
    omega
   have hz0 : 0 ≤ k + (szR (rs.take j) : Int) ∧ k + (szR (rs.take j) : Int) ≤ 15000000 := by omega
   clear sa eg r1 ed
   generalize k + (szR (rs.take j) : Int) = z at *
   obtain ⟨z0, z1⟩ := hz0
   have M1 := Lib.hid (held_row B _ rs[j].2.2.2.length (z + 1 + 1) hq1m (by omega) (by omega) w dm)
   clear dm
   generalize rs[j].2.2.2.length = q at *
   have hq1 : ¬ (z + 1 + 1 + (q : Int)) < 0 := by omega
   clear hlt hlt2
   go_wp2_with fail
   refine M1.out.mono ?_
   rintro e w2 ⟨rfl, rfl⟩
   go_wp2
   go_round
   case rel => exact ⟨j + 1, by go_num, by rw [HZ.out], by omega⟩
   case measure => simp [intOf]; omega
  ·have h1' : ¬ (j : Int) < (n : Int) := by omega
   have H4 : Hid ((k + (szR (rs.take j) : Int)) = k + (szR rs : Int)) := by
    show _ = _
    rw [List.take_of_length_le (by rw [HN.out]; omega)]
   go_wp2
   go_ret
   exact ⟨by rw [← H4.out]; rfl, rfl⟩
set_option linter.unusedSimpArgs false
def MarkXP (w : World) (b s : Nat) (k : Int) (i : Nat) : Prop := ∃ vs : Array Value, w.heap[b]? = some (.cells vs 165) ∧ vs.size = s ∧ ∀ j, j < i → vs[j]? = some (.int .i64 (k + (j : Int)))
theorem MarkXP.step {w : World} {b s : Nat} {k : Int} {i : Nat} (h : MarkXP w b s k i) (hi : i < s) : MarkXP (w.setCell ⟨b, i, none⟩ (.int .i64 (k + (i : Int)))) b s k (i + 1) := by
 obtain ⟨vs, h1, h2, h3⟩ := h
 refine ⟨_, heap_setCell_same w b i vs 165 _ h1, by simp [h2], fun j hj => ?_⟩
 rw [Array.getElem?_setIfInBounds]
 by_cases e : i = j
 ·subst e; simp [h2, hi]
 ·rw [if_neg e]; exact h3 j (by omega)
theorem MarkXP.cell {w : World} {b s : Nat} {k : Int} {i : Nat} (h : MarkXP w b s k i) (j : Nat) (hj : j < s) : (∃ v, w.cell? ⟨b, j, none⟩ = some v) ∧ w.frozen? ⟨b, j, none⟩ = false := by
 obtain ⟨vs, h1, h2, h3⟩ := h
 exact ⟨⟨vs[j]'(by omega), by simp [World.cell?, h1, show j < vs.size by omega]⟩, by simp [World.frozen?, h1]⟩
theorem MarkXP.at {w : World} {b s : Nat} {k : Int} {i : Nat} (h : MarkXP w b s k i) (j : Nat) (hj : j < i) : w.cell? ⟨b, j, none⟩ = some (.int .i64 (k + (j : Int))) := by
 obtain ⟨vs, h1, h2, h3⟩ := h
 have := h3 j hj
 simp [World.cell?, h1, this]
theorem MarkXP.lt {w : World} {b s : Nat} {k : Int} {i : Nat} (h : MarkXP w b s k i) : b < w.heap.size := by
 obtain ⟨vs, h1, _⟩ := h
 exact (Array.getElem?_eq_some_iff.1 h1).1
set_option maxHeartbeats 400000 in
theorem mk3P_nil (sl : Option Addr) (cap : Nat) (k : Int) (w : World) :
  Calls Tryz.prog 82 #[.slice sl 0 cap, .int .i64 k] w fun e w' => e = .returned (.int .i64 k) ∧ w' = w := by
 go_enter Tryz.func82, Tryz.ntmps82
 go_wp2
 refine wp_loop_rounds 1 ?_
 rw [rounds_succ]
 go_wp2
 go_ret
 exact ⟨rfl, rfl⟩
set_option maxHeartbeats 400000 in
theorem hd3P_nil (sl : Option Addr) (cap : Nat) (k : Int) (w : World) :
  Calls Tryz.prog 185 #[.slice sl 0 cap, .int .i64 k] w fun e w' => e = .returned (.int .i64 k) ∧ w' = w := by
 go_enter Tryz.func185, Tryz.ntmps185
 go_wp2
 refine wp_loop_rounds 1 ?_
 rw [rounds_succ]
 go_wp2
 go_ret
 exact ⟨rfl, rfl⟩
set_option maxRecDepth 100000 in
set_option maxHeartbeats 1000000 in
theorem mk3P_some (b m s cap : Nat) (k : Int) (hn : m ≤ 1048576) (hs : m * 3 ≤ s) (k0 : 0 ≤ k) (k1 : k ≤ 1000000000) (w : World) (h : MarkXP w b s k 0) :
  Calls Tryz.prog 82 #[.slice (some ⟨b, 0, none⟩) m cap, .int .i64 k] w fun e w' => e = .returned (.int .i64 (k + 3 * (m : Int))) ∧ MarkXP w' b s k (m * 3) ∧ Only b w w' := by
 have H := Lib.hid h
 clear h
 go_enter Tryz.func82, Tryz.ntmps82
 go_wp2
 go_loopw [1, 5] (fun v i wr => ∃ j : Nat, i = .int .i64 j ∧ v = .int .i64 (k + 3 * (j : Int)) ∧ j ≤ m ∧ Hid (MarkXP wr b s k (j * 3)) ∧ Hid (Only b w wr)) (fun _ i _ => m - (intOf i).toNat)
 case atStart => exact ⟨0, rfl, by simp, Nat.zero_le _, H, Only.refl _ _⟩
 case round =>
  obtain ⟨j, rfl, rfl, hj, H1, H2⟩ := hrel
  have hj0 : (0 : Int) ≤ (j : Int) := by omega
  by_cases h1 : j < m
  ·have h1' : (j : Int) < (m : Int) := by omega
   obtain ⟨⟨v0, c0⟩, f0⟩ := H1.out.cell (j * 3) (by omega)
   obtain ⟨⟨v1, c1⟩, f1⟩ := H1.out.cell (j * 3 + 1) (by omega)
   obtain ⟨⟨v2, c2⟩, f2⟩ := H1.out.cell (j * 3 + 2) (by omega)
   have S2 : Hid (MarkXP (((wr.setCell ⟨b, j * 3, none⟩ (.int .i64 (k + 3 * (j : Int)))).setCell ⟨b, j * 3 + 1, none⟩ (.int .i64 (k + 3 * (j : Int) + 1))).setCell ⟨b, j * 3 + 2, none⟩ (.int .i64 (k + 3 * (j : Int) + 1 + 1))) b s k ((j + 1) * 3)) := by
    have := ((H1.out.step (by omega)).step (by omega)).step (by omega)
    rw [show ((j * 3 : Nat) : Int) = 3 * (j : Int) by omega, show (k + ((j * 3 + 1 : Nat) : Int)) = k + 3 * (j : Int) + 1 by omega, show (k + ((j * 3 + 1 + 1 : Nat) : Int)) = k + 3 * (j : Int) + 1 + 1 by omega, show j * 3 + 1 + 1 + 1 = (j + 1) * 3 by omega] at this
    exact this
   have B2 := Lib.hid (((H2.out.setCell (j * 3) (.int .i64 (k + 3 * (j : Int)))).setCell (j * 3 + 1) (.int .i64 (k + 3 * (j : Int) + 1))).setCell (j * 3 + 2) (.int .i64 (k + 3 * (j : Int) + 1 + 1)))
   clear H1 H2
   go_wp2
   go_roundw
   case rel => exact ⟨j + 1, by go_num, by congr 1; push_cast; omega, by omega, S2, B2⟩
   case measure => simp [intOf]; omega
  ·have h1' : ¬ (j : Int) < (m : Int) := by omega
   have P := Lib.hid (show (k + 3 * (j : Int)) = k + 3 * (m : Int) ∧ j * 3 = m * 3 by omega)
   have Q : Hid (MarkXP wr b s k (m * 3)) := by have := H1.out; rw [P.out.2] at this; exact this
   go_wp2
   go_ret
   exact ⟨by rw [← P.out.1]; rfl, Q.out, H2.out⟩
set_option maxRecDepth 100000 in
set_option maxHeartbeats 1000000 in
theorem hd3P_some (b m s cap : Nat) (k : Int) (hn : m ≤ 1048576) (k0 : 0 ≤ k) (k1 : k ≤ 1000000000) (w : World) (h : MarkXP w b s k (m * 3)) :
  Calls Tryz.prog 185 #[.slice (some ⟨b, 0, none⟩) m cap, .int .i64 k] w fun e w' => e = .returned (.int .i64 (k + 3 * (m : Int))) ∧ w' = w := by
 have H := Lib.hid h
 clear h
 go_enter Tryz.func185, Tryz.ntmps185
 go_wp2
 go_loopw [1, 5] (fun v i wr => ∃ j : Nat, i = .int .i64 j ∧ v = .int .i64 (k + 3 * (j : Int)) ∧ j ≤ m ∧ wr = w) (fun _ i _ => m - (intOf i).toNat)
 case atStart => exact ⟨0, rfl, by simp, Nat.zero_le _, rfl⟩
 case round =>
  obtain ⟨j, rfl, rfl, hj, rfl⟩ := hrel
  have hj0 : (0 : Int) ≤ (j : Int) := by omega
  by_cases h1 : j < m
  ·have h1' : (j : Int) < (m : Int) := by omega
   have c0 := H.out.at (j * 3) (by omega)
   have c1 := H.out.at (j * 3 + 1) (by omega)
   have c2 := H.out.at (j * 3 + 2) (by omega)
   have bl := H.out.lt
   rw [show (k + ((j * 3 : Nat) : Int)) = k + 3 * (j : Int) by omega] at c0
   rw [show (k + ((j * 3 + 1 : Nat) : Int)) = k + 3 * (j : Int) + 1 by omega] at c1
   rw [show (k + ((j * 3 + 2 : Nat) : Int)) = k + 3 * (j : Int) + 1 + 1 by omega] at c2
   have e0 : (k + 3 * (j : Int) != k + 3 * (j : Int)) = false := by simp
   have e1 : (k + 3 * (j : Int) + 1 != k + 3 * (j : Int) + 1) = false := by simp
   have e2 : (k + 3 * (j : Int) + 1 + 1 != k + 3 * (j : Int) + 1 + 1) = false := by simp
   go_wp2
   go_roundw
   case rel => exact ⟨j + 1, by go_num, by congr 1; push_cast; omega, by omega, trivial⟩
   case measure => simp [intOf]; omega
  ·have h1' : ¬ (j : Int) < (m : Int) := by omega
   have P := Lib.hid (show (k + 3 * (j : Int)) = k + 3 * (m : Int) by omega)
   go_wp2
   go_ret
   exact ⟨by rw [← P.out]; rfl, rfl⟩
theorem mk3P_row (B : Nat) (v : Value) (n : Nat) (xs : List Value) (k : Int) (hn : n ≤ 1048576) (k0 : 0 ≤ k) (k1 : k ≤ 1000000000) (w : World) (h : w.ownsRow B 165 3 v n xs) :
  Calls Tryz.prog 82 #[v, .int .i64 k] w fun e w' => e = .returned (.int .i64 (k + 3 * (n : Int))) ∧ w'.ownsRow B 165 3 v n (valsZ (marks k (n * 3))) ∧ w.grownBy w' v.ownBlock := by
 have hl : (valsZ (marks k (n * 3))).length = n * 3 := by simp [valsZ, marks_len]
 rcases h.2 with ⟨rfl, h0⟩ | ⟨g, cap, cur, rfl, hb, hg, hcap, hmx, hcur, hx⟩
 ·subst h0
  refine (mk3P_nil _ _ _ _).mono ?_
  rintro e w' ⟨rfl, rfl⟩
  exact ⟨by simp, ⟨by simp [valsZ, marks], .inl ⟨rfl, rfl⟩⟩, ⟨rfl, rfl, rfl, Nat.le_refl _, fun _ _ _ => rfl⟩⟩
 ·refine (mk3P_some g n cur.size cap k hn (by rw [hcur]; omega) k0 k1 w ⟨cur, hg, rfl, fun j hj => absurd hj (Nat.not_lt_zero _)⟩).mono ?_
  rintro e w' ⟨rfl, ⟨vs, h1, h2, h3⟩, ho⟩
  refine ⟨rfl, ⟨hl, .inr ⟨g, cap, vs, rfl, hb, h1, hcap, hmx, by rw [h2, hcur], ?_⟩⟩, ho.grownBy⟩
  apply List.ext_getElem?
  intro i
  by_cases hi : i < n * 3
  ·rw [List.getElem?_take_of_lt (by omega)]
   simp only [valsZ, List.getElem?_map, marks_get k _ i hi]
   have := h3 i hi
   simpa using this
  ·rw [List.getElem?_eq_none (by simp; omega), List.getElem?_eq_none (by simp [valsZ, marks_len]; omega)]
theorem hd3P_row (B : Nat) (v : Value) (n : Nat) (k : Int) (hn : n ≤ 1048576) (k0 : 0 ≤ k) (k1 : k ≤ 1000000000) (w : World) (h : w.ownsRow B 165 3 v n (valsZ (marks k (n * 3)))) :
  Calls Tryz.prog 185 #[v, .int .i64 k] w fun e w' => e = .returned (.int .i64 (k + 3 * (n : Int))) ∧ w' = w := by
 rcases h.2 with ⟨rfl, h0⟩ | ⟨g, cap, cur, rfl, hb, hg, hcap, hmx, hcur, hx⟩
 ·subst h0
  refine (hd3P_nil _ _ _ _).mono ?_
  rintro e w' ⟨rfl, rfl⟩
  exact ⟨by simp, rfl⟩
 ·refine hd3P_some g n cur.size cap k hn k0 k1 w ⟨cur, hg, rfl, fun j hj => ?_⟩
  have := congrArg (fun l => l[j]?) hx
  simp only [valsZ, List.getElem?_map, marks_get k _ j hj] at this
  rw [List.getElem?_take_of_lt (by omega)] at this
  simpa using this
def MarkXB (w : World) (b s : Nat) (k : Int) (i : Nat) : Prop := ∃ vs : Array Value, w.heap[b]? = some (.cells vs 103) ∧ vs.size = s ∧ ∀ j, j < i → vs[j]? = some (.int .i64 (k + (j : Int)))
theorem MarkXB.step {w : World} {b s : Nat} {k : Int} {i : Nat} (h : MarkXB w b s k i) (hi : i < s) : MarkXB (w.setCell ⟨b, i, none⟩ (.int .i64 (k + (i : Int)))) b s k (i + 1) := by
 obtain ⟨vs, h1, h2, h3⟩ := h
 refine ⟨_, heap_setCell_same w b i vs 103 _ h1, by simp [h2], fun j hj => ?_⟩
 rw [Array.getElem?_setIfInBounds]
 by_cases e : i = j
 ·subst e; simp [h2, hi]
 ·rw [if_neg e]; exact h3 j (by omega)
theorem MarkXB.cell {w : World} {b s : Nat} {k : Int} {i : Nat} (h : MarkXB w b s k i) (j : Nat) (hj : j < s) : (∃ v, w.cell? ⟨b, j, none⟩ = some v) ∧ w.frozen? ⟨b, j, none⟩ = false := by
 obtain ⟨vs, h1, h2, h3⟩ := h
 exact ⟨⟨vs[j]'(by omega), by simp [World.cell?, h1, show j < vs.size by omega]⟩, by simp [World.frozen?, h1]⟩
theorem MarkXB.at {w : World} {b s : Nat} {k : Int} {i : Nat} (h : MarkXB w b s k i) (j : Nat) (hj : j < i) : w.cell? ⟨b, j, none⟩ = some (.int .i64 (k + (j : Int))) := by
 obtain ⟨vs, h1, h2, h3⟩ := h
 have := h3 j hj
 simp [World.cell?, h1, this]
theorem MarkXB.lt {w : World} {b s : Nat} {k : Int} {i : Nat} (h : MarkXB w b s k i) : b < w.heap.size := by
 obtain ⟨vs, h1, _⟩ := h
 exact (Array.getElem?_eq_some_iff.1 h1).1
set_option maxHeartbeats 400000 in
theorem mk3B_nil (sl : Option Addr) (cap : Nat) (k : Int) (w : World) :
  Calls Tryz.prog 107 #[.slice sl 0 cap, .int .i64 k] w fun e w' => e = .returned (.int .i64 k) ∧ w' = w := by
 go_enter Tryz.func107, Tryz.ntmps107
 go_wp2
 refine wp_loop_rounds 1 ?_
 rw [rounds_succ]
 go_wp2
 go_ret
 exact ⟨rfl, rfl⟩
set_option maxHeartbeats 400000 in
theorem hd3B_nil (sl : Option Addr) (cap : Nat) (k : Int) (w : World) :
  Calls Tryz.prog 155 #[.slice sl 0 cap, .int .i64 k] w fun e w' => e = .returned (.int .i64 k) ∧ w' = w := by
 go_enter Tryz.func155, Tryz.ntmps155
 go_wp2
 refine wp_loop_rounds 1 ?_
 rw [rounds_succ]
 go_wp2
 go_ret
 exact ⟨rfl, rfl⟩
set_option maxRecDepth 100000 in
set_option maxHeartbeats 1000000 in
theorem mk3B_some (b m s cap : Nat) (k : Int) (hn : m ≤ 1048576) (hs : m * 3 ≤ s) (k0 : 0 ≤ k) (k1 : k ≤ 1000000000) (w : World) (h : MarkXB w b s k 0) :
  Calls Tryz.prog 107 #[.slice (some ⟨b, 0, none⟩) m cap, .int .i64 k] w fun e w' => e = .returned (.int .i64 (k + 3 * (m : Int))) ∧ MarkXB w' b s k (m * 3) ∧ Only b w w' := by
 have H := Lib.hid h
 clear h
 go_enter Tryz.func107, Tryz.ntmps107
 go_wp2
 go_loopw [1, 5] (fun v i wr => ∃ j : Nat, i = .int .i64 j ∧ v = .int .i64 (k + 3 * (j : Int)) ∧ j ≤ m ∧ Hid (MarkXB wr b s k (j * 3)) ∧ Hid (Only b w wr)) (fun _ i _ => m - (intOf i).toNat)
 case atStart => exact ⟨0, rfl, by simp, Nat.zero_le _, H, Only.refl _ _⟩
 case round =>
  obtain ⟨j, rfl, rfl, hj, H1, H2⟩ := hrel
  have hj0 : (0 : Int) ≤ (j : Int) := by omega
  by_cases h1 : j < m
  ·have h1' : (j : Int) < (m : Int) := by omega
   obtain ⟨⟨v0, c0⟩, f0⟩ := H1.out.cell (j * 3) (by omega)
   obtain ⟨⟨v1, c1⟩, f1⟩ := H1.out.cell (j * 3 + 1) (by omega)
   obtain ⟨⟨v2, c2⟩, f2⟩ := H1.out.cell (j * 3 + 2) (by omega)
   have S2 : Hid (MarkXB (((wr.setCell ⟨b, j * 3, none⟩ (.int .i64 (k + 3 * (j : Int)))).setCell ⟨b, j * 3 + 1, none⟩ (.int .i64 (k + 3 * (j : Int) + 1))).setCell ⟨b, j * 3 + 2, none⟩ (.int .i64 (k + 3 * (j : Int) + 1 + 1))) b s k ((j + 1) * 3)) := by
    have := ((H1.out.step (by omega)).step (by omega)).step (by omega)
    rw [show ((j * 3 : Nat) : Int) = 3 * (j : Int) by omega, show (k + ((j * 3 + 1 : Nat) : Int)) = k + 3 * (j : Int) + 1 by omega, show (k + ((j * 3 + 1 + 1 : Nat) : Int)) = k + 3 * (j : Int) + 1 + 1 by omega, show j * 3 + 1 + 1 + 1 = (j + 1) * 3 by omega] at this
    exact this
   have B2 := Lib.hid (((H2.out.setCell (j * 3) (.int .i64 (k + 3 * (j : Int)))).setCell (j * 3 + 1) (.int .i64 (k + 3 * (j : Int) + 1))).setCell (j * 3 + 2) (.int .i64 (k + 3 * (j : Int) + 1 + 1)))
   clear H1 H2
   go_wp2
   go_roundw
   case rel => exact ⟨j + 1, by go_num, by congr 1; push_cast; omega, by omega, S2, B2⟩
   case measure => simp [intOf]; omega
  ·have h1' : ¬ (j : Int) < (m : Int) := by omega
   have P := Lib.hid (show (k + 3 * (j : Int)) = k + 3 * (m : Int) ∧ j * 3 = m * 3 by omega)
   have Q : Hid (MarkXB wr b s k (m * 3)) := by have := H1.out; rw [P.out.2] at this; exact this
   go_wp2
   go_ret
   exact ⟨by rw [← P.out.1]; rfl, Q.out, H2.out⟩
set_option maxRecDepth 100000 in
set_option maxHeartbeats 1000000 in
theorem hd3B_some (b m s cap : Nat) (k : Int) (hn : m ≤ 1048576) (k0 : 0 ≤ k) (k1 : k ≤ 1000000000) (w : World) (h : MarkXB w b s k (m * 3)) :
  Calls Tryz.prog 155 #[.slice (some ⟨b, 0, none⟩) m cap, .int .i64 k] w fun e w' => e = .returned (.int .i64 (k + 3 * (m : Int))) ∧ w' = w := by
 have H := Lib.hid h
 clear h
 go_enter Tryz.func155, Tryz.ntmps155
 go_wp2
 go_loopw [1, 5] (fun v i wr => ∃ j : Nat, i = .int .i64 j ∧ v = .int .i64 (k + 3 * (j : Int)) ∧ j ≤ m ∧ wr = w) (fun _ i _ => m - (intOf i).toNat)
 case atStart => exact ⟨0, rfl, by simp, Nat.zero_le _, rfl⟩
 case round =>
  obtain ⟨j, rfl, rfl, hj, rfl⟩ := hrel
  have hj0 : (0 : Int) ≤ (j : Int) := by omega
  by_cases h1 : j < m
  ·have h1' : (j : Int) < (m : Int) := by omega
   have c0 := H.out.at (j * 3) (by omega)
   have c1 := H.out.at (j * 3 + 1) (by omega)
   have c2 := H.out.at (j * 3 + 2) (by omega)
   have bl := H.out.lt
   rw [show (k + ((j * 3 : Nat) : Int)) = k + 3 * (j : Int) by omega] at c0
   rw [show (k + ((j * 3 + 1 : Nat) : Int)) = k + 3 * (j : Int) + 1 by omega] at c1
   rw [show (k + ((j * 3 + 2 : Nat) : Int)) = k + 3 * (j : Int) + 1 + 1 by omega] at c2
   have e0 : (k + 3 * (j : Int) != k + 3 * (j : Int)) = false := by simp
   have e1 : (k + 3 * (j : Int) + 1 != k + 3 * (j : Int) + 1) = false := by simp
   have e2 : (k + 3 * (j : Int) + 1 + 1 != k + 3 * (j : Int) + 1 + 1) = false := by simp
   go_wp2
   go_roundw
   case rel => exact ⟨j + 1, by go_num, by congr 1; push_cast; omega, by omega, trivial⟩
   case measure => simp [intOf]; omega
  ·have h1' : ¬ (j : Int) < (m : Int) := by omega
   have P := Lib.hid (show (k + 3 * (j : Int)) = k + 3 * (m : Int) by omega)
   go_wp2
   go_ret
   exact ⟨by rw [← P.out]; rfl, rfl⟩
theorem mk3B_row (B : Nat) (v : Value) (n : Nat) (xs : List Value) (k : Int) (hn : n ≤ 1048576) (k0 : 0 ≤ k) (k1 : k ≤ 1000000000) (w : World) (h : w.ownsRow B 103 3 v n xs) :
  Calls Tryz.prog 107 #[v, .int .i64 k] w fun e w' => e = .returned (.int .i64 (k + 3 * (n : Int))) ∧ w'.ownsRow B 103 3 v n (valsZ (marks k (n * 3))) ∧ w.grownBy w' v.ownBlock := by
 have hl : (valsZ (marks k (n * 3))).length = n * 3 := by simp [valsZ, marks_len]
 rcases h.2 with ⟨rfl, h0⟩ | ⟨g, cap, cur, rfl, hb, hg, hcap, hmx, hcur, hx⟩
 ·subst h0
  refine (mk3B_nil _ _ _ _).mono ?_
  rintro e w' ⟨rfl, rfl⟩
  exact ⟨by simp, ⟨by simp [valsZ, marks], .inl ⟨rfl, rfl⟩⟩, ⟨rfl, rfl, rfl, Nat.le_refl _, fun _ _ _ => rfl⟩⟩
 ·refine (mk3B_some g n cur.size cap k hn (by rw [hcur]; omega) k0 k1 w ⟨cur, hg, rfl, fun j hj => absurd hj (Nat.not_lt_zero _)⟩).mono ?_
  rintro e w' ⟨rfl, ⟨vs, h1, h2, h3⟩, ho⟩
  refine ⟨rfl, ⟨hl, .inr ⟨g, cap, vs, rfl, hb, h1, hcap, hmx, by rw [h2, hcur], ?_⟩⟩, ho.grownBy⟩
  apply List.ext_getElem?
  intro i
  by_cases hi : i < n * 3
  ·rw [List.getElem?_take_of_lt (by omega)]
   simp only [valsZ, List.getElem?_map, marks_get k _ i hi]
   have := h3 i hi
   simpa using this
  ·rw [List.getElem?_eq_none (by simp; omega), List.getElem?_eq_none (by simp [valsZ, marks_len]; omega)]
theorem hd3B_row (B : Nat) (v : Value) (n : Nat) (k : Int) (hn : n ≤ 1048576) (k0 : 0 ≤ k) (k1 : k ≤ 1000000000) (w : World) (h : w.ownsRow B 103 3 v n (valsZ (marks k (n * 3)))) :
  Calls Tryz.prog 155 #[v, .int .i64 k] w fun e w' => e = .returned (.int .i64 (k + 3 * (n : Int))) ∧ w' = w := by
 rcases h.2 with ⟨rfl, h0⟩ | ⟨g, cap, cur, rfl, hb, hg, hcap, hmx, hcur, hx⟩
 ·subst h0
  refine (hd3B_nil _ _ _ _).mono ?_
  rintro e w' ⟨rfl, rfl⟩
  exact ⟨by simp, rfl⟩
 ·refine hd3B_some g n cur.size cap k hn k0 k1 w ⟨cur, hg, rfl, fun j hj => ?_⟩
  have := congrArg (fun l => l[j]?) hx
  simp only [valsZ, List.getElem?_map, marks_get k _ j hj] at this
  rw [List.getElem?_take_of_lt (by omega)] at this
  simpa using this
end Go.Proofs.YtnihhbfgbilimaaGreatDoor
