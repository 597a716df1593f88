/-
  A TABLE THAT GREW, marked: what it holds then.
-/
import Derived.Test.YtdndhhkpbcpalaaDoorKj
import Derived.Test.YtdndhhkpbcpalaaDoorAt
namespace Go.Proofs.YtdndhhkpbcpalaaDoor
open Go.RowKit
set_option linter.unusedVariables false
set_option linter.unusedSimpArgs false

/-- A row of one's own, a cell of it set. -/
theorem own_set {w : World} {B : Nat} {e : TypeId} {m g cap n : Nat} {xs : List Value} (h : w.ownsRow B e m (.slice (some ⟨g, 0, none⟩) n cap) n xs) (i : Nat) (hi : i < n * m) (u : Value) : (w.setCell ⟨g, i, none⟩ u).ownsRow B e m (.slice (some ⟨g, 0, none⟩) n cap) n (xs.set i u) := by
  refine ⟨by simpa using h.1, ?_⟩
  rcases h.2 with ⟨h', _⟩ | ⟨g', cap', cur, h', hb, hg, h1, h2, h3, h4⟩
  · simp at h'
  · simp only [Value.slice.injEq, Option.some.injEq, Addr.mk.injEq, and_true, true_and] at h'
    obtain ⟨rfl, rfl⟩ := h'
    refine .inr ⟨g, cap, cur.setIfInBounds i u, rfl, hb, heap_setCell_same w g i cur e u hg, h1, h2, by simp [h3], ?_⟩
    rw [Array.toList_setIfInBounds, List.take_set, h4]
theorem own_there {w : World} {B : Nat} {e : TypeId} {m g cap n : Nat} {xs : List Value} (h : w.ownsRow B e m (.slice (some ⟨g, 0, none⟩) n cap) n xs) : ∃ cur, w.heap[g]? = some (.cells cur e) ∧ B ≤ g := by
  rcases h.2 with ⟨h', _⟩ | ⟨g', cap', cur, h', hb, hg, _⟩
  · simp at h'
  · simp only [Value.slice.injEq, Option.some.injEq, Addr.mk.injEq, and_true, true_and] at h'
    obtain ⟨rfl, rfl⟩ := h'
    exact ⟨cur, hg, hb⟩
theorem fro_at {w : World} {b : Nat} {cur : Array Value} {t : TypeId} (h : w.heap[b]? = some (.cells cur t)) (i : Nat) : w.frozen? ⟨b, i, none⟩ = false := (cellsAt h).2 i

/-- What the marks of stations are: those behind. -/
def szR (rs : List LSt) : Nat := 2 * rs.length + totD rs
def mkR : Int → List LSt → List LSt
  | _, [] => []
  | k, r :: t => (k, k + 1, r.2.2.1, marks (k + 1 + 1) r.2.2.2.length) :: mkR (k + 1 + 1 + (r.2.2.2.length : Int)) t
theorem szR_add (a b : List LSt) : szR (a ++ b) = szR a + szR b := by unfold szR; rw [totD_add, List.length_append]; omega
theorem szR_one (r : LSt) : szR [r] = 2 + r.2.2.2.length := by simp [szR, totD]
theorem mkR_add (a b : List LSt) : ∀ k : Int, mkR k (a ++ b) = mkR k a ++ mkR (k + (szR a : Int)) b := by
  induction a with
  | nil => intro k; simp [mkR, szR, totD]
  | cons r t ih =>
    intro k
    rw [List.cons_append, mkR, mkR, ih, List.cons_append]
    have : szR (r :: t) = 2 + r.2.2.2.length + szR t := by rw [show r :: t = [r] ++ t from rfl, szR_add, szR_one]
    rw [this]
    congr 3
    push_cast
    omega
theorem mkR_len (a : List LSt) : ∀ k : Int, (mkR k a).length = a.length := by
  induction a with
  | nil => intro k; rfl
  | cons r t ih => intro k; rw [mkR, List.length_cons, ih, List.length_cons]
theorem mkR_dom (a : List LSt) : ∀ k : Int, (mkR k a).map domB = a.map domB := by
  induction a with
  | nil => intro k; rfl
  | cons r t ih => intro k; rw [mkR, List.map_cons, List.map_cons, ih]; rfl
def mkP (k : Int) (m : Nat) : List LPr := (List.range m).map fun i : Nat => (k + 3 * (i : Int), k + 3 * (i : Int) + 1, k + 3 * (i : Int) + 1 + 1)
theorem mkP_len (k : Int) (m : Nat) : (mkP k m).length = m := by simp [mkP]
theorem mkP_succ (k : Int) (m : Nat) : mkP k (m + 1) = mkP k m ++ [(k + 3 * (m : Int), k + 3 * (m : Int) + 1, k + 3 * (m : Int) + 1 + 1)] := by simp [mkP, List.range_succ]
theorem marks_succ (k : Int) (i : Nat) : marks k (i + 1) = marks k i ++ [k + (i : Int)] := by simp [marks, List.range_succ]

theorem stC_len (a : List LSt) : (stC a).length = a.length * 3 := by
  induction a with
  | nil => rfl
  | cons c t ih => rw [show c :: t = [c] ++ t from rfl, stC_add, List.length_append, ih]; simp [stC]; omega
theorem prC_len (a : List LPr) : (prC a).length = a.length * 3 := by
  induction a with
  | nil => rfl
  | cons c t ih => rw [show c :: t = [c] ++ t from rfl, prC_add, List.length_append, ih]; simp [prC]; omega
/-- A station's two numbers set. -/
theorem OwT.setSt {w : World} {B g n cap : Nat} {v2 : Value} {a b : List LSt} {r : LSt} {ps : List LPr} (h : OwT w B (.slice (some ⟨g, 0, none⟩) n cap) v2 (a ++ r :: b) ps) (hn : (a ++ r :: b).length = n) (x y : Int) :
    OwT ((w.setCell ⟨g, a.length * 3, none⟩ (.int .i64 x)).setCell ⟨g, a.length * 3 + 1, none⟩ (.int .i64 y)) B (.slice (some ⟨g, 0, none⟩) n cap) v2 (a ++ (x, y, r.2.2.1, r.2.2.2) :: b) ps := by
  have hl : a.length < n := by rw [← hn]; simp
  have h1 := h.r1
  rw [hn] at h1
  obtain ⟨cur, hg, hb⟩ := own_there h1
  have hg1 := heap_setCell_same w g (a.length * 3) cur 43 (.int .i64 x) hg
  have g1 := grown_set w g (a.length * 3) (.int .i64 x)
  have g2 := grown_set (w.setCell ⟨g, a.length * 3, none⟩ (.int .i64 x)) g (a.length * 3 + 1) (.int .i64 y)
  refine ⟨?_, own_keptB (own_keptB h.r2 hg (by decide) g1) hg1 (by decide) g2, fun s hs => ?_, ?_⟩
  · have hn' : (a ++ (x, y, r.2.2.1, r.2.2.2) :: b).length = n := by rw [← hn]; simp
    rw [hn']
    have := own_set (own_set h1 (a.length * 3) (by omega) (.int .i64 x)) (a.length * 3 + 1) (by omega) (.int .i64 y)
    have e : ((stC (a ++ r :: b)).set (a.length * 3) (.int .i64 x)).set (a.length * 3 + 1) (.int .i64 y) = stC (a ++ (x, y, r.2.2.1, r.2.2.2) :: b) := by
      have hla := stC_len a
      have e1 : ∀ q : LSt, stC (a ++ q :: b) = stC a ++ (.int .i64 q.1 :: .int .i64 q.2.1 :: q.2.2.1 :: stC b) := fun q => by rw [stC_add, show q :: b = [q] ++ b from rfl, stC_add]; rfl
      rw [e1, e1, ← hla, List.set_append_right _ _ (Nat.le_refl _), List.set_append_right _ _ (by omega)]
      simp
    rw [e] at this
    exact this
  · have hd : ∀ q ∈ a ++ r :: b, TailOf ((w.setCell ⟨g, a.length * 3, none⟩ (.int .i64 x)).setCell ⟨g, a.length * 3 + 1, none⟩ (.int .i64 y)) B q := fun q hq => ((h.dom q hq).keptB hg (by decide) g1).keptB hg1 (by decide) g2
    rcases List.mem_append.1 hs with hs | hs
    · exact hd s (List.mem_append_left _ hs)
    · rcases List.mem_cons.1 hs with rfl | hs
      · exact hd r (List.mem_append_right _ (List.mem_cons_self))
      · exact hd s (List.mem_append_right _ (List.mem_cons_of_mem _ hs))
  · have h2 := List.pairwise_map.2 h.diff
    have e : (a ++ (x, y, r.2.2.1, r.2.2.2) :: b).map domB = (a ++ r :: b).map domB := by simp [domB]
    rw [← e] at h2
    exact List.pairwise_map.1 h2

set_option maxHeartbeats 400000 in
/-- A domain marked. -/
theorem mark_dom (B : Nat) (r : LSt) (k : Int) (hn : r.2.2.2.length ≤ 1048576) (k0 : 0 ≤ k) (k1 : k ≤ 1000000000) (w : World) (h : TailOf w B r) :
    Calls Tryd.prog 41 #[r.2.2.1, .int .i64 k] w fun e w' => e = .returned (.int .i64 (k + (r.2.2.2.length : Int))) ∧ TailOf w' B (r.1, r.2.1, r.2.2.1, marks k r.2.2.2.length) ∧ w.grownBy w' (domB r) := by
  obtain ⟨x, y, v, ds⟩ := r
  have T0 := h
  obtain ⟨g, o, cap, kap, zs, h1, ho2, h2, h3, h4, h5⟩ := h
  dsimp only at h1 hn h4 ⊢
  subst h1
  by_cases hd : ds.length = 0
  · have hdn := List.eq_nil_of_length_eq_zero hd
    subst hdn
    refine (mark_nil _ _ _ _).mono ?_
    rintro e w' ⟨rfl, rfl⟩
    exact ⟨by simp, T0, ⟨rfl, rfl, rfl, Nat.le_refl _, fun _ _ _ => rfl⟩⟩
  · have hzl : zs.length = ds.length + 2 := by rw [h4, List.length_drop]; rw [h4, List.length_drop] at hd; omega
    obtain rfl : o = 2 := by rcases ho2 with h | h <;> omega
    have hbk : ∀ i, i ≤ ds.length → (zs.take 2 ++ (marks k i ++ ds.drop i)).length = zs.length := fun i hi => by simp [marks_len]; omega
    have H5 : Hid (w.ownsRow B 2 1 (.slice (some ⟨g, 0, none⟩) zs.length kap) zs.length (valsZ (zs.take 2 ++ (marks k 0 ++ ds.drop 0)))) := by
      have e : zs.take 2 ++ (marks k 0 ++ ds.drop 0) = zs := by rw [h4]; simp [marks]
      rw [e]
      exact h5
    have HBK := Lib.hid hbk
    have H3 := Lib.hid h3
    have HZL := Lib.hid hzl
    clear T0 h5 h4 h2 ho2 hbk hd
    generalize hN : ds.length = n at *
    generalize hZ : zs.length = z at *
    have HN := Lib.hid hN
    have HZ := Lib.hid hZ
    clear hN hZ hzl h3
    go_enter Tryd.func41, Tryd.ntmps41
    go_wp2
    go_loopw [1, 5] (fun m i wr => ∃ j : Nat, i = .int .i64 j ∧ m = .int .i64 (k + (j : Int)) ∧ j ≤ n ∧ Hid (wr.ownsRow B 2 1 (.slice (some ⟨g, 0, none⟩) z kap) z (valsZ (zs.take 2 ++ (marks k j ++ ds.drop j)))) ∧ Hid (w.grownBy wr (some g))) (fun _ i _ => n - (intOf i).toNat)
    case atStart => exact ⟨0, rfl, by simp, Nat.zero_le _, H5, ⟨rfl, rfl, rfl, Nat.le_refl _, fun _ _ _ => rfl⟩⟩
    case round =>
      obtain ⟨j, rfl, rfl, hj, H1, H2⟩ := hrel
      have hj0 : (0 : Int) ≤ (j : Int) := by omega
      by_cases hlt : j < n
      · have h1' : (j : Int) < (n : Int) := by omega
        have c0 := H1.out.cellAt (2 + j) (by rw [HZL.out]; omega)
        obtain ⟨cur, hg, -⟩ := own_there H1.out
        have f0 := fro_at hg (2 + j)
        have c1 : ∃ v, wr.cell? ⟨g, 2 + j, none⟩ = some v := by
          rw [c0]
          refine ⟨_, List.getElem?_eq_getElem ?_⟩
          simp only [valsZ, List.length_map, List.length_append, List.length_take, List.length_drop, marks_len]
          have := HZL.out
          have := HZ.out
          have := HN.out
          omega
        obtain ⟨v, c1⟩ := c1
        have S1 : Hid ((wr.setCell ⟨g, 2 + j, none⟩ (.int .i64 (k + (j : Int)))).ownsRow B 2 1 (.slice (some ⟨g, 0, none⟩) z kap) z (valsZ (zs.take 2 ++ (marks k (j + 1) ++ ds.drop (j + 1))))) := by
          have := own_set H1.out (2 + j) (by rw [HZL.out]; omega) (.int .i64 (k + (j : Int)))
          have e : (valsZ (zs.take 2 ++ (marks k j ++ ds.drop j))).set (2 + j) (.int .i64 (k + (j : Int))) = valsZ (zs.take 2 ++ (marks k (j + 1) ++ ds.drop (j + 1))) := by
            have hz2 : (zs.take 2).length = 2 := by have := HZL.out; have := HZ.out; rw [List.length_take]; omega
            have hjl : j < ds.length := by rw [HN.out]; exact hlt
            unfold valsZ
            rw [← List.map_set, List.set_append_right _ _ (by rw [hz2]; omega), hz2, show 2 + j - 2 = j by omega, List.set_append_right _ _ (by rw [marks_len]; omega), marks_len, Nat.sub_self, List.drop_eq_getElem_cons hjl, List.set_cons_zero, marks_succ, List.append_assoc]
            rfl
          rw [e] at this
          exact this
        have G1 : Hid (w.grownBy (wr.setCell ⟨g, 2 + j, none⟩ (.int .i64 (k + (j : Int)))) (some g)) := by
          have a := H2.out
          have b := grown_set wr g (2 + j) (.int .i64 (k + (j : Int)))
          exact ⟨b.os.trans a.os, b.tape.trans a.tape, b.output.trans a.output, Nat.le_trans a.size b.size, fun q hq hne => (b.block q (Nat.lt_of_lt_of_le hq a.size) hne).trans (a.block q hq hne)⟩
        clear c0 hg H1 H2
        go_wp2
        go_roundw
        case rel => exact ⟨j + 1, by go_num, by go_num, by omega, S1, G1⟩
        case measure => simp [intOf]; omega
      · have h1' : ¬ (j : Int) < (n : Int) := by omega
        have hkn : j = n := by omega
        have H4 : Hid (TailOf wr B (x, y, .slice (some ⟨g, 2, none⟩) n cap, marks k n) ∧ (k + (j : Int)) = k + (n : Int)) := by
          subst hkn
          have e : zs.take 2 ++ (marks k j ++ ds.drop j) = zs.take 2 ++ marks k j := by rw [List.drop_of_length_le (by rw [HN.out]; omega), List.append_nil]
          have hz2 : (zs.take 2).length = 2 := by have := HZL.out; have := HZ.out; rw [List.length_take]; omega
          have hl : (zs.take 2 ++ marks k j).length = z := by rw [List.length_append, hz2, marks_len]; have := HZL.out; omega
          refine ⟨⟨g, 2, cap, kap, zs.take 2 ++ marks k j, by rw [marks_len], .inr rfl, (by rw [List.length_append, hz2]; omega), by rw [hl]; exact H3.out, by rw [List.drop_append_of_le_length (by omega), List.drop_of_length_le (by omega)]; rfl, ?_⟩, rfl⟩
          have := H1.out
          rw [e] at this
          rw [hl]
          exact this
        clear hkn H1
        go_wp2
        go_ret
        exact ⟨by rw [← H4.out.2]; rfl, H4.out.1, H2.out⟩
end Go.Proofs.YtdndhhkpbcpalaaDoor
