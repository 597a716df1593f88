/-
  A TABLE THAT GREW, marked: markStationS, markPairS, markTable, markTableOut.
-/
import Derived.Test.YtdndhhkpbcpalaaDoorNa
namespace Go.Proofs.YtdndhhkpbcpalaaDoor
open Go.RowKit
set_option linter.unusedVariables false
set_option linter.unusedSimpArgs false

/-- A station's domain written over. -/
theorem OwT.setDom {w w' : World} {B : Nat} {v1 v2 : Value} {a b : List LSt} {r : LSt} {ps : List LPr} (h : OwT w B v1 v2 (a ++ r :: b) ps) (ds : List Int) (ht : TailOf w' B (r.1, r.2.1, r.2.2.1, ds)) (hg : w.grownBy w' (domB r)) :
    OwT w' B v1 v2 (a ++ (r.1, r.2.1, r.2.2.1, ds) :: b) ps := by
  have hr := h.dom r (List.mem_append_right _ List.mem_cons_self)
  obtain ⟨g, cur, hgr, hcur⟩ : ∃ g cur, domB r = some g ∧ w.heap[g]? = some (.cells cur 2) := by
    obtain ⟨g, o, cap, kap, zs, h1, _, _, _, _, h5⟩ := hr
    obtain ⟨cur, hc, _⟩ := own_there h5
    exact ⟨g, cur, by unfold domB; rw [h1]; rfl, hc⟩
  have hq : ∀ q, TailOf w B q → domB q ≠ domB r → TailOf w' B q := fun q ht hne => by
    obtain ⟨g', o, cap, kap, zs, h1, h2, h3, h4, h5, h6⟩ := ht
    refine ⟨g', o, cap, kap, zs, h1, h2, h3, h4, h5, h6.kept hg (.inr ?_)⟩
    have : domB q = some g' := by unfold domB; rw [h1]; rfl
    rw [this] at hne
    exact hne
  have hg' := hg
  rw [hgr] at hg'
  have hd := List.pairwise_append.1 h.diff
  have hd2 := List.pairwise_cons.1 hd.2.1
  refine ⟨?_, own_keptB h.r2 hcur (by decide) hg', fun s hs => ?_, ?_⟩
  · have := own_keptB h.r1 hcur (by decide) hg'
    have e : stC (a ++ (r.1, r.2.1, r.2.2.1, ds) :: b) = stC (a ++ r :: b) := by rw [stC_add, stC_add]; rfl
    rw [e]
    simpa using this
  · rcases List.mem_append.1 hs with hs | hs
    · exact hq s (h.dom s (List.mem_append_left _ hs)) (hd.2.2 s hs r List.mem_cons_self)
    · rcases List.mem_cons.1 hs with rfl | hs
      · exact ht
      · exact hq s (h.dom s (List.mem_append_right _ (List.mem_cons_of_mem _ hs))) (fun e => hd2.1 s hs e.symm)
  · have h2 := List.pairwise_map.2 h.diff
    have e : (a ++ (r.1, r.2.1, r.2.2.1, ds) :: b).map domB = (a ++ r :: b).map domB := by simp [domB]
    rw [← e] at h2
    exact List.pairwise_map.1 h2
theorem Btw.set {B L : Nat} {w0 w : World} (h : Btw B L w0 w) (g i : Nat) (u : Value) (hg : B ≤ g ∧ g < L) : Btw B L w0 (w.setCell ⟨g, i, none⟩ u) := h.grown (grown_set w g i u) (fun j hj => by cases hj; exact hg)

set_option maxRecDepth 100000 in
set_option maxHeartbeats 2000000 in
theorem mkr_any (B L : Nat) (sl : Option Addr) (cap n : Nat) (v2 : Value) (rs : List LSt) (ps : List LPr) (k : Int) (hn : rs.length = n) (hb : n + totD rs ≤ 1048576) (k0 : 0 ≤ k) (k1 : k ≤ 10000000) (w : World) (h : OwT w B (.slice sl n cap) v2 rs ps) (hl : ∀ j, (Value.slice sl n cap).ownBlock = some j → B ≤ j ∧ j < L) (hd : ∀ r ∈ rs, ∀ j, domB r = some j → B ≤ j ∧ j < L) :
    Calls Tryd.prog 27 #[.slice sl n cap, .int .i64 k] w fun e w' => e = .returned (.int .i64 (k + (szR rs : Int))) ∧ OwT w' B (.slice sl n cap) v2 (mkR k rs) ps ∧ Btw B L w w' := by
  have H := Lib.hid h
  have HN := Lib.hid hn
  have HL := Lib.hid hl
  have HD := Lib.hid hd
  have hs2 : ∀ a b : List LSt, rs = a ++ b → szR a ≤ 3000000 := fun a b e => by
    have : totD rs = totD a + totD b := by rw [e, totD_add]
    have : rs.length = a.length + b.length := by rw [e, List.length_append]
    unfold szR
    omega
  have HS := Lib.hid hs2
  have hnn : n ≤ 1048576 := by omega
  have HT := Lib.hid hb
  clear h hn hl hd hs2 hb
  go_enter Tryd.func27, Tryd.ntmps27
  go_wp2
  go_loopw [1, 5] (fun m i wr => ∃ (j : Nat) (a b : List LSt), i = .int .i64 j ∧ m = .int .i64 (k + (szR a : Int)) ∧ j ≤ n ∧ Hid (rs = a ++ b ∧ a.length = j) ∧ Hid (OwT wr B (.slice sl n cap) v2 (mkR k a ++ b) ps) ∧ Hid (Btw B L w wr)) (fun _ i _ => n - (intOf i).toNat)
  case atStart => exact ⟨0, [], rs, rfl, by simp [szR, totD], Nat.zero_le _, ⟨rfl, rfl⟩, H, Btw.refl _ _ _⟩
  case round =>
    obtain ⟨j, a, b, rfl, rfl, hj, HAB, H1, H2⟩ := hrel
    have hj0 : (0 : Int) ≤ (j : Int) := by omega
    by_cases h1 : j < n
    · have h1' : (j : Int) < (n : Int) := by omega
      obtain ⟨r, b', hbb⟩ : ∃ r b', b = r :: b' := by
        have e := HAB.out.1
        have e1 := congrArg List.length e
        rw [List.length_append, HN.out, HAB.out.2] at e1
        cases b with
        | nil => simp at e1; omega
        | cons r b' => exact ⟨r, b', rfl⟩
      subst hbb
      have hla : (mkR k a).length = j := by rw [mkR_len, HAB.out.2]
      have hln : (mkR k a ++ r :: b').length = n := by
        have e1 := congrArg List.length HAB.out.1
        rw [HN.out] at e1
        rw [e1]
        simp [mkR_len]
      have hrm : r ∈ rs := by rw [HAB.out.1]; exact List.mem_append_right _ List.mem_cons_self
      have HR := Lib.hid hrm
      have r1 := H1.out.r1
      rw [hln] at r1
      obtain ⟨g, rfl⟩ : ∃ g, sl = some ⟨g, 0, none⟩ := by
        rcases r1.2 with ⟨_, h0⟩ | ⟨g, c, cur, e, _⟩
        · omega
        · exact ⟨g, (Value.slice.inj e).1⟩
      obtain ⟨cur, hg, -⟩ := own_there r1
      have hgl := HL.out g rfl
      have sa := stC_at (mkR k a ++ r :: b') j (by rw [hln]; exact h1)
      have er : (mkR k a ++ r :: b')[j]'(by rw [hln]; exact h1) = r := by
        rw [List.getElem_append_right (by omega)]
        simp [hla]
      rw [er] at sa
      obtain ⟨s, cp, ed, _⟩ := (H1.out.dom r (List.mem_append_right _ List.mem_cons_self)).dm
      have c0 := (r1.cellAt (j * 3) (by omega)).trans sa.1
      have c1 := (r1.cellAt (j * 3 + 1) (by omega)).trans sa.2.1
      have c2 := (r1.cellAt (j * 3 + 2) (by omega)).trans sa.2.2
      rw [ed] at c2
      have f0 := fro_at hg (j * 3)
      have f1 := fro_at hg (j * 3 + 1)
      have hz := HS.out a _ HAB.out.1
      have hq : r.2.2.2.length ≤ 1048576 := by
        have := totD_mem rs r hrm
        have := HT.out
        omega
      have HZ : Hid (mkR k (a ++ [r]) = mkR k a ++ [(k + (szR a : Int), k + (szR a : Int) + 1, r.2.2.1, marks (k + (szR a : Int) + 1 + 1) r.2.2.2.length)] ∧ (k + (szR (a ++ [r]) : Int) = k + (szR a : Int) + 1 + 1 + (r.2.2.2.length : Int))) := by
        refine ⟨by rw [mkR_add]; rfl, ?_⟩
        rw [szR_add, szR_one]
        push_cast
        omega
      have hz0 : 0 ≤ k + (szR a : Int) ∧ k + (szR a : Int) ≤ 15000000 := by omega
      generalize k + (szR a : Int) = z at *
      obtain ⟨z0, z1⟩ := hz0
      have S1 := H1.out.setSt hln z (z + 1)
      rw [hla] at S1
      have HS1 := Lib.hid S1
      have B1 := Lib.hid ((H2.out.set g (j * 3) (.int .i64 z) hgl).set g (j * 3 + 1) (.int .i64 (z + 1)) hgl)
      have M1 := mark_dom B (z, z + 1, r.2.2.1, r.2.2.2) (z + 1 + 1) hq (by omega) (by omega) _ (S1.dom _ (List.mem_append_right _ List.mem_cons_self))
      dsimp only at M1
      rw [ed] at M1
      have HM1 := Lib.hid M1
      have HED := Lib.hid ed
      clear S1 M1 sa er r1 hg hla hln hrm ed H1 H2
      generalize hqq : r.2.2.2.length = q at *
      have HQ := Lib.hid hqq
      clear hqq
      go_wp2_with fail
      refine HM1.out.mono ?_
      rintro e w2 ⟨rfl, t2, g2⟩
      have S2 : Hid (OwT w2 B (.slice (some ⟨g, 0, none⟩) n cap) v2 (mkR k (a ++ [r]) ++ b') ps) := by
        have t3 : TailOf w2 B (z, z + 1, r.2.2.1, marks (z + 1 + 1) q) := by rw [HED.out]; exact t2
        have := OwT.setDom (r := (z, z + 1, r.2.2.1, r.2.2.2)) HS1.out (marks (z + 1 + 1) q) t3 (by rw [show domB (z, z + 1, r.2.2.1, r.2.2.2) = (Value.slice s q cp).ownBlock by unfold domB; rw [HED.out]]; exact g2)
        rw [HZ.out.1, List.append_assoc]
        exact this
      have B2 : Hid (Btw B L w w2) := B1.out.grown g2 (fun i hi => HD.out r HR.out i (by unfold domB; rw [HED.out]; exact hi))
      have AB : Hid (rs = (a ++ [r]) ++ b' ∧ (a ++ [r]).length = j + 1) := ⟨by rw [HAB.out.1]; simp, by rw [List.length_append, HAB.out.2]; rfl⟩
      clear t2 g2 HM1 HS1 B1
      go_wp2
      go_roundw
      case rel => exact ⟨j + 1, a ++ [r], b', by go_num, by rw [HZ.out.2], by omega, AB, S2, B2⟩
      case measure => simp [intOf]; omega
    · have h1' : ¬ (j : Int) < (n : Int) := by omega
      have P : Hid (k + (szR a : Int) = k + (szR rs : Int) ∧ OwT wr B (.slice sl n cap) v2 (mkR k rs) ps) := by
        have e := HAB.out.1
        have e1 := congrArg List.length e
        rw [List.length_append, HN.out, HAB.out.2] at e1
        have hb0 : b = [] := List.eq_nil_of_length_eq_zero (by omega)
        subst hb0
        have := H1.out
        rw [List.append_nil] at e this
        rw [e]
        exact ⟨rfl, this⟩
      clear H1
      go_wp2
      go_ret
      exact ⟨by rw [← P.out.1]; rfl, P.out.2, H2.out⟩
/-- A pair's three numbers set. -/
theorem OwT.setPr {w : World} {B g n cap : Nat} {v1 : Value} {rs : List LSt} {a b : List LPr} {p : LPr} (h : OwT w B v1 (.slice (some ⟨g, 0, none⟩) n cap) rs (a ++ p :: b)) (hn : (a ++ p :: b).length = n) (x y z : Int) :
    OwT (((w.setCell ⟨g, a.length * 3, none⟩ (.int .i64 x)).setCell ⟨g, a.length * 3 + 1, none⟩ (.int .i64 y)).setCell ⟨g, a.length * 3 + 2, none⟩ (.int .i64 z)) B v1 (.slice (some ⟨g, 0, none⟩) n cap) rs (a ++ (x, y, z) :: b) := by
  have hl : a.length < n := by rw [← hn]; simp
  have h1 := h.r2
  rw [hn] at h1
  obtain ⟨cur, hg, hb⟩ := own_there h1
  have hg1 := heap_setCell_same w g (a.length * 3) cur 47 (.int .i64 x) hg
  have hg2 := heap_setCell_same _ g (a.length * 3 + 1) _ 47 (.int .i64 y) hg1
  have g1 := grown_set w g (a.length * 3) (.int .i64 x)
  have g2 := grown_set (w.setCell ⟨g, a.length * 3, none⟩ (.int .i64 x)) g (a.length * 3 + 1) (.int .i64 y)
  have g3 := grown_set ((w.setCell ⟨g, a.length * 3, none⟩ (.int .i64 x)).setCell ⟨g, a.length * 3 + 1, none⟩ (.int .i64 y)) g (a.length * 3 + 2) (.int .i64 z)
  refine ⟨own_keptB (own_keptB (own_keptB h.r1 hg (by decide) g1) hg1 (by decide) g2) hg2 (by decide) g3, ?_, fun q hq => (((h.dom q hq).keptB hg (by decide) g1).keptB hg1 (by decide) g2).keptB hg2 (by decide) g3, h.diff⟩
  have hn' : (a ++ (x, y, z) :: b).length = n := by rw [← hn]; simp
  rw [hn']
  have := own_set (own_set (own_set h1 (a.length * 3) (by omega) (.int .i64 x)) (a.length * 3 + 1) (by omega) (.int .i64 y)) (a.length * 3 + 2) (by omega) (.int .i64 z)
  have e : (((prC (a ++ p :: b)).set (a.length * 3) (.int .i64 x)).set (a.length * 3 + 1) (.int .i64 y)).set (a.length * 3 + 2) (.int .i64 z) = prC (a ++ (x, y, z) :: b) := by
    have hla := prC_len a
    have e1 : ∀ q : LPr, prC (a ++ q :: b) = prC a ++ (.int .i64 q.1 :: .int .i64 q.2.1 :: .int .i64 q.2.2 :: prC b) := fun q => by rw [prC_add, show q :: b = [q] ++ b from rfl, prC_add]; rfl
    rw [e1, e1, ← hla, List.set_append_right _ _ (Nat.le_refl _), List.set_append_right _ _ (by omega), List.set_append_right _ _ (by omega)]
    simp
  rw [e] at this
  exact this

set_option maxRecDepth 100000 in
set_option maxHeartbeats 2000000 in
theorem mkq_any (B L : Nat) (sl : Option Addr) (cap m : Nat) (v1 : Value) (rs : List LSt) (ps : List LPr) (k : Int) (hn : ps.length = m) (hb : m ≤ 1048576) (k0 : 0 ≤ k) (k1 : k ≤ 20000000) (w : World) (h : OwT w B v1 (.slice sl m cap) rs ps) (hl : ∀ j, (Value.slice sl m cap).ownBlock = some j → B ≤ j ∧ j < L) :
    Calls Tryd.prog 28 #[.slice sl m cap, .int .i64 k] w fun e w' => e = .returned (.int .i64 (k + 3 * (m : Int))) ∧ OwT w' B v1 (.slice sl m cap) rs (mkP k m) ∧ Btw B L w w' := by
  have H : Hid (OwT w B v1 (.slice sl m cap) rs (mkP k 0 ++ ps.drop 0)) := h
  have HN := Lib.hid hn
  have HL := Lib.hid hl
  clear h hn hl
  go_enter Tryd.func28, Tryd.ntmps28
  go_wp2
  go_loopw [1, 5] (fun v i wr => ∃ j : Nat, i = .int .i64 j ∧ v = .int .i64 (k + 3 * (j : Int)) ∧ j ≤ m ∧ Hid (OwT wr B v1 (.slice sl m cap) rs (mkP k j ++ ps.drop j)) ∧ Hid (Btw B L w wr)) (fun _ i _ => m - (intOf i).toNat)
  case atStart => exact ⟨0, rfl, by simp, Nat.zero_le _, H, Btw.refl _ _ _⟩
  case round =>
    obtain ⟨j, rfl, rfl, hj, H1, H2⟩ := hrel
    have hj0 : (0 : Int) ≤ (j : Int) := by omega
    by_cases h1 : j < m
    · have h1' : (j : Int) < (m : Int) := by omega
      have hjl : j < ps.length := by rw [HN.out]; exact h1
      have hd := List.drop_eq_getElem_cons hjl
      have S0 := H1.out
      rw [hd] at S0
      have hla := mkP_len k j
      have hln : (mkP k j ++ ps[j] :: ps.drop (j + 1)).length = m := by
        have := HN.out
        rw [List.length_append, mkP_len, List.length_cons, List.length_drop]
        omega
      have r2 := S0.r2
      rw [hln] at r2
      obtain ⟨g, rfl⟩ : ∃ g, sl = some ⟨g, 0, none⟩ := by
        rcases r2.2 with ⟨_, h0⟩ | ⟨g, c, cur, e, _⟩
        · omega
        · exact ⟨g, (Value.slice.inj e).1⟩
      obtain ⟨cur, hg, -⟩ := own_there r2
      have hgl := HL.out g rfl
      have sa := prC_at (mkP k j ++ ps[j] :: ps.drop (j + 1)) j (by rw [hln]; exact h1)
      have c0 := (r2.cellAt (j * 3) (by omega)).trans sa.1
      have c1 := (r2.cellAt (j * 3 + 1) (by omega)).trans sa.2.1
      have c2 := (r2.cellAt (j * 3 + 2) (by omega)).trans sa.2.2
      have f0 := fro_at hg (j * 3)
      have f1 := fro_at hg (j * 3 + 1)
      have f2 := fro_at hg (j * 3 + 2)
      generalize (mkP k j ++ ps[j] :: ps.drop (j + 1))[j]'(by rw [hln]; exact h1) = pp at *
      have S1 := S0.setPr hln (k + 3 * (j : Int)) (k + 3 * (j : Int) + 1) (k + 3 * (j : Int) + 1 + 1)
      rw [hla] at S1
      have e : mkP k j ++ (k + 3 * (j : Int), k + 3 * (j : Int) + 1, k + 3 * (j : Int) + 1 + 1) :: ps.drop (j + 1) = mkP k (j + 1) ++ ps.drop (j + 1) := by rw [mkP_succ, List.append_assoc]; rfl
      rw [e] at S1
      have S2 := Lib.hid S1
      have B2 := Lib.hid (((H2.out.set g (j * 3) (.int .i64 (k + 3 * (j : Int))) hgl).set g (j * 3 + 1) (.int .i64 (k + 3 * (j : Int) + 1)) hgl).set g (j * 3 + 2) (.int .i64 (k + 3 * (j : Int) + 1 + 1)) hgl)
      clear S0 S1 e sa r2 hg hla hln hd hjl H1 H2
      go_wp2
      go_roundw
      case rel => exact ⟨j + 1, by go_num, by congr 1; push_cast; omega, by omega, S2, B2⟩
      case measure => simp [intOf]; omega
    · have h1' : ¬ (j : Int) < (m : Int) := by omega
      have P : Hid ((k + 3 * (j : Int)) = k + 3 * (m : Int) ∧ OwT wr B v1 (.slice sl m cap) rs (mkP k m)) := by
        obtain rfl : j = m := by omega
        have := H1.out
        rw [List.drop_of_length_le (by rw [HN.out]; omega), List.append_nil] at this
        exact ⟨rfl, this⟩
      clear H1
      go_wp2
      go_ret
      exact ⟨by rw [← P.out.1]; rfl, P.out.2, H2.out⟩

theorem OwT.btw {w w' : World} {B L : Nat} {v1 v2 : Value} {rs : List LSt} {ps : List LPr} (h : OwT w B v1 v2 rs ps) (hb : Below w.heap.size w w') : OwT w' B v1 v2 rs ps := h.below hb

set_option maxRecDepth 100000 in
set_option maxHeartbeats 1000000 in
/-- markTable. -/
theorem mkt_any (B L : Nat) (sl : Option Addr) (cap n : Nat) (sl2 : Option Addr) (cap2 m : Nat) (rs : List LSt) (ps : List LPr) (hn : rs.length = n) (hm : ps.length = m) (hb : n + totD rs + m ≤ 1000000) (w : World) (h : OwT w B (.slice sl n cap) (.slice sl2 m cap2) rs ps)
    (hl : ∀ j, (Value.slice sl n cap).ownBlock = some j → B ≤ j ∧ j < L) (hl2 : ∀ j, (Value.slice sl2 m cap2).ownBlock = some j → B ≤ j ∧ j < L) (hd : ∀ r ∈ rs, ∀ j, domB r = some j → B ≤ j ∧ j < L) (hL : L ≤ w.heap.size) :
    Calls Tryd.prog 14 #[.agg #[.slice sl n cap, .slice sl2 m cap2], .int .i64 1] w fun e w' => e = .returned (.int .i64 (1 + (szR rs : Int) + 3 * (m : Int))) ∧ OwT w' B (.slice sl n cap) (.slice sl2 m cap2) (mkR 1 rs) (mkP (1 + (szR rs : Int)) m) ∧ Btw B L w w' := by
  have E1 := Lib.hid (mkr_any B L sl cap n (.slice sl2 m cap2) rs ps 1 hn (by omega) (by omega) (by omega) _ (h.below (bA0 w (.cells #[.slice sl n cap, .slice sl2 m cap2] 25))) hl hd)
  have E2 : Hid (∀ (k : Int) (W : World), 0 ≤ k → k ≤ 20000000 → OwT W B (.slice sl n cap) (.slice sl2 m cap2) (mkR 1 rs) ps → Calls Tryd.prog 28 #[.slice sl2 m cap2, .int .i64 k] W fun e w' => e = .returned (.int .i64 (k + 3 * (m : Int))) ∧ OwT w' B (.slice sl n cap) (.slice sl2 m cap2) (mkR 1 rs) (mkP k m) ∧ Btw B L W w') := fun k W a b c => mkq_any B L sl2 cap2 m (.slice sl n cap) (mkR 1 rs) ps k hm (by omega) a b W c hl2
  have HT := Lib.hid (new_at w (.cells #[.slice sl n cap, .slice sl2 m cap2] 25))
  have hK : (0 : Int) ≤ 1 + (szR rs : Int) ∧ 1 + (szR rs : Int) ≤ 20000000 := by unfold szR; omega
  clear h hl hl2 hd hb
  generalize 1 + (szR rs : Int) = k at *
  obtain ⟨k0, k1⟩ := hK
  go_enter Tryd.func14, Tryd.ntmps14
  go_wp2_with fail
  refine E1.out.mono ?_
  rintro e w1 ⟨rfl, o1, b1'⟩
  have O1 := Lib.hid o1
  have T1 := (b1'.block w.heap.size (by simp) (.inr hL)).trans HT.out
  have B1 := Lib.hid ((Btw.alloc (B := B) (L := L) w _).trans b1')
  have c1 := cellsAt T1
  clear o1 b1' E1 HT T1
  go_wp2_with fail
  refine (E2.out _ _ k0 k1 O1.out).mono ?_
  rintro e w2 ⟨rfl, o2, b2⟩
  have P := Lib.hid (show OwT w2 B (.slice sl n cap) (.slice sl2 m cap2) (mkR 1 rs) (mkP k m) ∧ Btw B L w w2 from ⟨o2, B1.out.trans b2⟩)
  clear o2 b2 O1 B1 E2 c1
  go_wp2
  go_ret
  exact ⟨rfl, P.out⟩
set_option maxRecDepth 100000 in
set_option maxHeartbeats 1000000 in
/-- markTableOut. -/
theorem mko_any (B L : Nat) (sl : Option Addr) (cap n : Nat) (sl2 : Option Addr) (cap2 m : Nat) (rs : List LSt) (ps : List LPr) (ln cd : Int) (hn : rs.length = n) (hm : ps.length = m) (hb : n + totD rs + m ≤ 1000000) (w : World) (h : OwT w B (.slice sl n cap) (.slice sl2 m cap2) rs ps)
    (hl : ∀ j, (Value.slice sl n cap).ownBlock = some j → B ≤ j ∧ j < L) (hl2 : ∀ j, (Value.slice sl2 m cap2).ownBlock = some j → B ≤ j ∧ j < L) (hd : ∀ r ∈ rs, ∀ j, domB r = some j → B ≤ j ∧ j < L) (hL : L ≤ w.heap.size) :
    Calls Tryd.prog 7 #[.agg #[.slice sl n cap, .slice sl2 m cap2, .int .i64 ln, .int .i64 cd], .int .i64 1] w fun e w' => e = .returned (.int .i64 (1 + (szR rs : Int) + 3 * (m : Int))) ∧ OwT w' B (.slice sl n cap) (.slice sl2 m cap2) (mkR 1 rs) (mkP (1 + (szR rs : Int)) m) ∧ Btw B L w w' := by
  have b0 := bA0 w (.cells #[.slice sl n cap, .slice sl2 m cap2, .int .i64 ln, .int .i64 cd] 27)
  have E1 := Lib.hid (mkt_any B L sl cap n sl2 cap2 m rs ps hn hm hb _ (h.below b0) hl hl2 hd (Nat.le_trans hL b0.size))
  clear h hl hl2 hd hb b0
  generalize 1 + (szR rs : Int) + 3 * (m : Int) = q at *
  go_enter Tryd.func7, Tryd.ntmps7
  go_wp2_with fail
  refine E1.out.mono ?_
  rintro e w1 ⟨rfl, o1, b1'⟩
  have P := Lib.hid (show OwT w1 B (.slice sl n cap) (.slice sl2 m cap2) (mkR 1 rs) (mkP (1 + (szR rs : Int)) m) ∧ Btw B L w w1 from ⟨o1, (Btw.alloc (B := B) (L := L) w _).trans b1'⟩)
  clear o1 b1' E1
  go_wp2
  go_ret
  exact ⟨rfl, P.out⟩
end Go.Proofs.YtdndhhkpbcpalaaDoor
