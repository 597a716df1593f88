/-
  THE LAW FnSplit: its walk.
-/
import Derived.Test.YtcganhhnkidddaaSq
import Derived.Test.YtcganhhnkidddaaDc
import Derived.Deep.RegionHeld3
namespace Go.Proofs.Ytcganhhnkidddaa
open Go.RowKit
set_option linter.unusedVariables false

set_option maxHeartbeats 400000 in
theorem drawSplit_any (sl : Option Addr) (len cap : Nat) (w : World) (hr : RowIn w sl len) :
    Calls Try.prog 22 #[.slice sl len cap] w fun e w' => ∃ x y : Int, e = .returned (.tuple #[.int .i64 x, .int .i64 y]) ∧ I64 x ∧ I64 y ∧ Below w.heap.size w w' := by
  have HR : Hid (RowIn w sl len) := hr
  clear hr
  go_enter Try.func22, Try.ntmps22
  go_wp2_with fail
  refine (source_any sl len cap _ HR.out).mono ?_
  rintro e w1 ⟨rfl, s1, b1⟩
  have H1 : Hid (Src w1 w.heap.size) := s1
  have B1 : Hid (Below w.heap.size w w1) := b1
  clear s1 b1
  go_wp2_with fail
  refine (money_any _ _ H1.out).mono ?_
  rintro e w2 ⟨x, rfl, hx, s2, o2⟩
  have H2 : Hid (Src w2 w.heap.size) := s2
  have B2 : Hid (Below w.heap.size w w2) := o2.below B1.out (Nat.le_refl _)
  have X : Hid (I64 x) := hx
  clear s2 o2 H1 B1 hx
  go_wp2_with fail
  refine (n_lt _ 103 _ (by decide) (by decide) H2.out).mono ?_
  rintro e w3 ⟨y, rfl, y1, y2, s3, o3⟩
  have B3 : Hid (Below w.heap.size w w3) := o3.below B2.out (Nat.le_refl _)
  have Y : Hid (I64 (y - 1)) := ⟨by omega, by omega⟩
  clear s3 o3 H2 B2
  go_wp2
  go_ret2
  exact ⟨_, _, rfl, X.out, Y.out, B3.out⟩

set_option maxHeartbeats 400000 in
theorem copy_some (c cap : Nat) (zs : List Int) (w : World) (h0 : 0 < zs.length) (hn : zs.length ≤ 1048576) (hz : IntsAt w c 0 zs) :
    Calls Try.prog 26 #[.slice (some ⟨c, 0, none⟩) zs.length cap] w fun e w' => ∃ g cap', e = .returned (.slice (some ⟨g, 0, none⟩) zs.length cap') ∧ IntsAt w' g 0 zs ∧ Below w.heap.size w w' := by
  obtain ⟨i0, hi, hz0, hz1, hz2⟩ := info_parts Try.info2'
  have HZ : Hid (IntsAt w c 0 zs) := hz
  clear hz
  have hown : (w.alloc (.cells #[] 2)).ownsRow w.heap.size 2 1 (.slice (some ⟨w.heap.size, 0, none⟩) 0 0) 0 [] := World.ownsRow_lit w #[] 0 (Nat.le_refl _) (Nat.zero_le _) rfl
  have hnews : ∀ j u, (zs.map (Value.int .i64))[j]? = some u → (w.alloc (.cells #[] 2)).cell? ((⟨c, 0, none⟩ : Addr).add j) = some u := by
    intro j u hu
    have hj : j < zs.length := by
      rcases Nat.lt_or_ge j zs.length with h | h
      · exact h
      · simp [List.getElem?_eq_none (show (zs.map (Value.int .i64)).length ≤ j by simpa using h)] at hu
    have ha : (⟨c, 0, none⟩ : Addr).add j = ⟨c, 0 + j, none⟩ := by
      unfold Addr.add
      by_cases h : j = 0 <;> simp [h]
    rw [ha, (bA0 w _).cell HZ.out.1, HZ.out.2 j hj]
    simpa [hj] using hu
  have hone : ∀ u ∈ zs.map (Value.int .i64), u.oneCell' = true := by
    intro u hu
    obtain ⟨z, _, rfl⟩ := List.mem_map.1 hu
    rfl
  have hlen : (zs.map (Value.int .i64)).length = zs.length * 1 := by simp
  have HW : Hid ((w.alloc (.cells #[] 2)).ownsRow w.heap.size 2 1 (.slice (some ⟨w.heap.size, 0, none⟩) 0 0) 0 []) := hown
  have HNS : Hid (∀ j u, (zs.map (Value.int .i64))[j]? = some u → (w.alloc (.cells #[] 2)).cell? ((⟨c, 0, none⟩ : Addr).add j) = some u) := hnews
  have HO : Hid (∀ u ∈ zs.map (Value.int .i64), u.oneCell' = true) := hone
  have HL : Hid ((zs.map (Value.int .i64)).length = zs.length * 1) := hlen
  clear hown hnews hone hlen
  go_enter Try.func26, Try.ntmps26
  go_wp2_with (first | (at_builtin; refine wpList_append_lies _ rfl (.tmp 3) (.tmp 4) 32 rfl w.heap.size 2 i0 (.int .i64 0) 1 8 Try.underlying32 hi hz0 hz1 hz2 rfl (by decide) _ _ _ rfl HW.out ⟨c, 0, none⟩ zs.length cap (zs.map (Value.int .i64)) rfl HL.out HNS.out HO.out h0 (by unfold maxLen; omega) (by omega) (by simp) (w.heap.size + 1) (by simp) ?_))
  intro g cap2 w3 hown3 hgrow hg3 hlt3
  have H3 : Hid (IntsAt w3 g 0 zs) := by
    obtain ⟨g', cap', hv, hi', _⟩ := own_ints hown3 h0
    simp only [Value.slice.injEq, Option.some.injEq, Addr.mk.injEq, and_true, true_and] at hv
    show IntsAt w3 g 0 zs
    rw [hv.1]; exact hi'
  have B3 : Hid (Below w.heap.size w w3) := (bA0 w _).grown hgrow (by simp) (fun j hj => (HW.out.lt j hj).1)
  clear hown3 hgrow hg3 hlt3
  go_wp2
  go_ret
  exact ⟨g, cap2, by simp, H3.out, B3.out⟩

/-- The parts of money from nought on, added one by one, come to it: no sum on the way is too great. -/
theorem sumF_ok (zs : List Int) : ∀ s : Int, 0 ≤ s → (∀ z ∈ zs, 0 ≤ z) → s + zs.sum ≤ 1000000000000 → sumF s zs = (s + zs.sum, 0) := by
  induction zs with
  | nil => intro s _ _ _; simp [sumF]
  | cons z r ih =>
    intro s hs hz hle
    have h1 : 0 ≤ z := hz z (by simp)
    have hr : ∀ y ∈ r, 0 ≤ y := fun y hy => hz y (by simp [hy])
    have h2 : 0 ≤ r.sum := by
      clear ih hle hz
      induction r with
      | nil => simp
      | cons a t iht => have := hr a (by simp); have := iht (fun y hy => hr y (by simp [hy])); simp; omega
    simp only [List.sum_cons] at hle ⊢
    have h3 : isM (s + z) = true := by simp only [isM, decide_eq_true_eq]; omega
    rw [sumF, h3, if_pos rfl, ih (s + z) (by omega) hr (by omega)]
    congr 1; omega

theorem range_sum (q : Int) (t : Nat → Int) (m : Nat) : ((List.range m).map (fun i => q + t i)).sum = m * q + ((List.range m).map t).sum := by
  induction m with
  | zero => simp
  | succ m ih => rw [List.range_succ, List.map_append, List.map_append, List.sum_append, List.sum_append, ih]; simp; rw [Int.add_mul]; omega
theorem count_sum (r : Int) (hr : 0 ≤ r) (m : Nat) (hm : r ≤ m) : ((List.range m).map (fun i : Nat => if (i : Int) < r then (1 : Int) else 0)).sum = r := by
  have key : ∀ k : Nat, ((List.range k).map (fun i : Nat => if (i : Int) < r then (1 : Int) else 0)).sum = if (k : Int) ≤ r then (k : Int) else r := by
    intro k
    induction k with
    | zero => simp [hr]
    | succ k ih =>
      rw [List.range_succ, List.map_append, List.sum_append, ih]
      simp only [List.map_cons, List.map_nil, List.sum_cons, List.sum_nil]
      split <;> split <;> split <;> omega
  rw [key m]; split <;> omega
theorem split_sum (v : Int) (n : Nat) (hn : 1 ≤ n) (hv : 0 ≤ v) : (splitL v n).sum = v := by
  have e : splitL v n = (List.range n).map (fun i : Nat => v / n + (if (i : Int) < v % n then (1 : Int) else 0)) := by
    unfold splitL
    apply List.map_congr_left
    intro i _
    unfold spl
    split <;> omega
  rw [e, range_sum, count_sum _ (Int.emod_nonneg _ (by omega)) n (Int.le_of_lt (Int.emod_lt_of_pos _ (by omega)))]
  exact Int.mul_ediv_add_emod v n
theorem spl_nn (v : Int) (n i : Nat) (hn : 1 ≤ n) (hv : 0 ≤ v) : 0 ≤ spl v n i ∧ spl v n i ≤ v / n + 1 := by
  have := Int.ediv_nonneg hv (show (0 : Int) ≤ n by omega)
  unfold spl; split <;> omega
theorem split_sumOf (v : Int) (n : Nat) (hn : 1 ≤ n) (h1 : n ≤ 100) (hv : 0 ≤ v) (hv1 : v ≤ 1000000000000) : sumOf (splitL v n) = (v, 0) := by
  have hz : ∀ z ∈ splitL v n, 0 ≤ z := by
    intro z hz
    obtain ⟨i, _, rfl⟩ := List.mem_map.1 hz
    exact (spl_nn v n i hn hv).1
  have hle : ∀ z ∈ splitL v n, isM z = true := by
    intro z hz
    obtain ⟨i, hi, rfl⟩ := List.mem_map.1 hz
    have := spl_nn v n i hn hv
    have hq : v / (n : Int) ≤ v := Int.ediv_le_self _ hv
    by_cases e : v = 1000000000000
    · subst e
      have : spl 1000000000000 n i ≤ 1000000000000 := by
        unfold spl
        split
        · rename_i h
          have hm := Int.mul_ediv_add_emod (1000000000000 : Int) n
          have h2 : (1 : Int) ≤ 1000000000000 % (n : Int) := by omega
          have h3 : (1 : Int) * (1000000000000 / (n : Int)) ≤ n * (1000000000000 / (n : Int)) := Int.mul_le_mul_of_nonneg_right (by omega) (Int.ediv_nonneg (by omega) (by omega))
          omega
        · exact Int.ediv_le_self _ (by omega)
      simp only [isM, decide_eq_true_eq]; omega
    · simp only [isM, decide_eq_true_eq]; omega
  have ha : (splitL v n).all isM = true := List.all_eq_true.2 hle
  have hl : ¬ 400 < (splitL v n).length := by rw [split_len]; omega
  rw [sumOf, if_neg hl, ha, if_pos rfl, sumF_ok _ 0 (by omega) hz (by rw [split_sum v n hn hv]; omega), split_sum v n hn hv]
  simp
theorem split_ends (v : Int) (n : Nat) (hn : 1 ≤ n) : spl v n 0 - spl v n (n - 1) ≤ 1 ∧ spl v n (n - 1) ≤ spl v n 0 := by
  unfold spl
  split <;> split <;> omega

end Go.Proofs.Ytcganhhnkidddaa
