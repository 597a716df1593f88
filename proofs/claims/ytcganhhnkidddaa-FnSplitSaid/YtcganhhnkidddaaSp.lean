/-
  MONEY SPLIT INTO PARTS: both sides give one list.
-/
import Derived.Test.YtcganhhnkidddaaBo
import Derived.Test.YtcganhhnkidddaaSc
import Derived.Deep.AppendLies
namespace Go.Proofs.Ytcganhhnkidddaa
open Go.RowKit
set_option linter.unusedVariables false

def spl (v : Int) (n i : Nat) : Int := if (i : Int) < v % n then v / n + 1 else v / n
def splitL (v : Int) (n : Nat) : List Int := (List.range n).map (spl v n)
theorem split_len (v : Int) (n : Nat) : (splitL v n).length = n := by simp [splitL]
theorem split_get (v : Int) (n k : Nat) (h : k < n) : (splitL v n).getD k 0 = spl v n k := by simp [splitL, h]

theorem set_twice {w : World} {b : Nat} {vs : Array Value} (h : RowAt w b vs) (i : Nat) (x y : Value) : RowAt ((w.setCell ⟨b, i, none⟩ x).setCell ⟨b, i, none⟩ y) b (vs.setIfInBounds i y) := by
  have := (h.set i x).set i y
  rwa [Array.setIfInBounds_setIfInBounds] at this

set_option maxHeartbeats 400000 in
theorem isplit_no (v n : Int) (h : (isN v && isP n) = false) (w : World) :
    Calls Try.prog 23 #[.int .i64 v, .int .i64 n] w fun e w' => e = .returned (.slice none 0 0) ∧ Below w.heap.size w w' := by
  cases h1 : isN v
  · clear h
    go_enter Try.func23, Try.ntmps23
    go_wp2_with fail
    refine (inBound1_any _ _).mono ?_
    rintro e w1 ⟨rfl, hb⟩
    go_wp2
    go_ret
    exact ⟨rfl, hb⟩
  · have h2 : isP n = false := by simpa [h1] using h
    clear h
    go_enter Try.func23, Try.ntmps23
    go_wp2_with fail
    refine (inBound1_any _ _).mono ?_
    rintro e w1 ⟨rfl, hb⟩
    go_wp2_with fail
    refine (inBound3_any _ _).mono ?_
    rintro e w2 ⟨rfl, hb2⟩
    go_wp2
    go_ret
    exact ⟨rfl, bT hb hb2⟩

set_option maxHeartbeats 1000000 in
theorem isplit_yes (v : Int) (n : Nat) (v0 : 0 ≤ v) (v1 : v ≤ 1000000000000) (n0 : 1 ≤ n) (n1 : n ≤ 100) (w : World) :
    Calls Try.prog 23 #[.int .i64 v, .int .i64 n] w fun e w' => ∃ b, e = .returned (.slice (some ⟨b, 0, none⟩) n n) ∧ w.heap.size ≤ b ∧ RowAt w' b (vsOf (splitL v n) n) ∧ Below w.heap.size w w' := by
  have hN : isN v = true := by simp only [isN, decide_eq_true_eq]; omega
  have hP : isP (n : Int) = true := by simp only [isP, decide_eq_true_eq]; omega
  have hmk := make64 n (by omega)
  have HL := split_len v n
  have HK : Hid (mk64 n = vsOf (splitL v n) 0) := by have := mk64_eq (splitL v n); rw [HL] at this; exact this
  have q0 : 0 ≤ v / (n : Int) := Int.ediv_nonneg v0 (by omega)
  have q1 : v / (n : Int) ≤ 1000000000000 := Int.le_trans (Int.ediv_le_self _ v0) v1
  have r0 : 0 ≤ v % (n : Int) := Int.emod_nonneg _ (by omega)
  have r1 : v % (n : Int) < (n : Int) := Int.emod_lt_of_pos _ (by omega)
  have np : (0 : Int) < (n : Int) := by omega
  have nz : ((n : Int) == 0) = false := by simp; omega
  clear HL
  go_enter Try.func23, Try.ntmps23
  go_wp2_with fail
  refine (inBound1_any _ _).mono ?_
  rintro e w1 ⟨rfl, hb⟩
  go_wp2_with fail
  refine (inBound3_any _ _).mono ?_
  rintro e w2 ⟨rfl, hb2⟩
  have B2 : Hid (Below w.heap.size w w2) := bT hb hb2
  clear hb hb2
  go_wp2
  go_quiet (fail)
  go_wp2
  go_loopw [27] (fun i wr => ∃ (k : Nat), i = .int .i64 k ∧ k ≤ n ∧ Hid (Below w.heap.size w wr) ∧ Hid (RowAt wr w2.heap.size (vsOf (splitL v n) k))) (fun i _ => n - (intOf i).toNat)
  case atStart =>
    refine ⟨0, rfl, Nat.zero_le _, below_drewN (bA B2.out _) _, ?_⟩
    show (w2.heap.push _)[w2.heap.size]? = _
    simp [HK.out]
  case round =>
    obtain ⟨k, rfl, hk, H3, H4⟩ := hrel
    have hk0 : (0 : Int) ≤ (k : Int) := by omega
    have hw2 := B2.out.size
    by_cases h1 : k < n
    · have h1' : (k : Int) < (n : Int) := by omega
      have hlt : k < (splitL v n).length := by rw [split_len]; exact h1
      have hd : wr.cell? ⟨w2.heap.size, k, none⟩ = some (.int .i64 0) := by rw [H4.out.cell]; exact vs_at _ k hlt
      have hf := H4.out.frozen
      have E : Hid ((vsOf (splitL v n) k).setIfInBounds k (.int .i64 (spl v n k)) = vsOf (splitL v n) (k + 1)) := by
        show (vsOf (splitL v n) k).setIfInBounds k (.int .i64 (spl v n k)) = vsOf (splitL v n) (k + 1)
        rw [← vs_step _ k hlt, split_get v n k h1]
      clear hlt
      by_cases hg : (k : Int) < v % (n : Int)
      · have H5 : Hid (RowAt ((wr.setCell ⟨w2.heap.size, k, none⟩ (.int .i64 (v / n))).setCell ⟨w2.heap.size, k, none⟩ (.int .i64 (v / n + 1))) w2.heap.size (vsOf (splitL v n) (k + 1))) := by
          show RowAt _ _ _
          rw [← E.out, show spl v n k = v / n + 1 by simp [spl, hg]]; exact set_twice H4.out k _ _
        have hd2 : (wr.setCell ⟨w2.heap.size, k, none⟩ (.int .i64 (v / n))).cell? ⟨w2.heap.size, k, none⟩ = some (.int .i64 (v / n)) := World.cell?_setCell_same _ _ _ hd
        go_wp2
        go_roundw
        case rel => exact ⟨k + 1, by go_num, by omega, (H3.out.setCell hw2 _).setCell hw2 _, H5⟩
        case measure => simp [intOf]; omega
      · have H5 : Hid (RowAt (wr.setCell ⟨w2.heap.size, k, none⟩ (.int .i64 (v / n))) w2.heap.size (vsOf (splitL v n) (k + 1))) := by
          show RowAt _ _ _
          rw [← E.out, show spl v n k = v / n by simp [spl, hg]]; exact H4.out.set k _
        go_wp2
        go_roundw
        case rel => exact ⟨k + 1, by go_num, by omega, H3.out.setCell hw2 _, H5⟩
        case measure => simp [intOf]; omega
    · have h1' : ¬ (k : Int) < (n : Int) := by omega
      have hkn : k = n := by omega
      have H6 : Hid (RowAt wr w2.heap.size (vsOf (splitL v n) n)) := (congrArg (vsOf (splitL v n)) hkn) ▸ H4.out
      clear hkn
      go_wp2
      go_ret
      exact ⟨_, rfl, hw2, H6.out, H3.out⟩

set_option maxHeartbeats 400000 in
theorem ssplit_no (v n : Int) (h : (isN v && isP n) = false) (w : World) :
    Calls Try.prog 24 #[.int .i64 v, .int .i64 n] w fun e w' => ∃ a c, e = .returned (.slice a 0 c) ∧ Below w.heap.size w w' := by
  by_cases h1 : v < 0
  · go_enter Try.func24, Try.ntmps24
    go_wp2
    go_ret
    exact ⟨_, _, rfl, bA0 _ _⟩
  · cases h2 : isM v
    · go_enter Try.func24, Try.ntmps24
      go_wp2_with fail
      refine (l01Money_any _ _).mono ?_
      rintro e w1 ⟨rfl, rfl⟩
      go_wp2
      go_ret
      exact ⟨_, _, rfl, bA0 _ _⟩
    · have hm := isM_t h2
      have hN : isN v = true := by simp only [isN, decide_eq_true_eq]; omega
      have hP : isP n = false := by simpa [hN] using h
      clear h hm
      by_cases h3 : n < 1
      · go_enter Try.func24, Try.ntmps24
        go_wp2_with fail
        refine (l01Money_any _ _).mono ?_
        rintro e w1 ⟨rfl, rfl⟩
        go_wp2
        go_ret
        exact ⟨_, _, rfl, bA0 _ _⟩
      · have h4 : 100 < n := by
          simp only [isP, decide_eq_false_iff_not] at hP; omega
        go_enter Try.func24, Try.ntmps24
        go_wp2_with fail
        refine (l01Money_any _ _).mono ?_
        rintro e w1 ⟨rfl, rfl⟩
        go_wp2
        go_ret
        exact ⟨_, _, rfl, bA0 _ _⟩

theorem Try.info2' : (Try.prog.info? 2).map (fun i => (i.zero, i.size, i.bytes)) = some (some (.int .i64 0), 1, 8) := by kernel_rfl
theorem own_ints {w : World} {base : Nat} {v : Value} {zs : List Int} (h : w.ownsRow base 2 1 v zs.length (zs.map (Value.int .i64))) (hn : 0 < zs.length) :
    ∃ g cap, v = .slice (some ⟨g, 0, none⟩) zs.length cap ∧ IntsAt w g 0 zs ∧ base ≤ g := by
  rcases h.2 with ⟨_, h0⟩ | ⟨g, cap, cur, hv, hb, hg, hcap, hmx, hcur, hx⟩
  · omega
  · refine ⟨g, cap, hv, ⟨(Array.getElem?_eq_some_iff.1 hg).1, fun i hi => ?_⟩, hb⟩
    have h1 : (cur.toList.take (zs.length * 1))[i]? = some (.int .i64 (zs.getD i 0)) := by rw [hx]; simp [hi]
    rw [List.getElem?_take_of_lt (by omega)] at h1
    simp only [World.cell?, hg, Nat.zero_add]
    simpa using h1
def spt (v : Int) (n k : Nat) : List Value := ((splitL v n).take k).map (Value.int .i64)
theorem split_take (v : Int) (n k : Nat) (h : k < n) : spt v n k ++ [.int .i64 (spl v n k)] = spt v n (k + 1) := by
  unfold spt
  rw [List.take_succ_eq_append_getElem (by rw [split_len]; exact h)]
  simp [splitL]

set_option maxHeartbeats 1000000 in
theorem ssplit_yes (v : Int) (n : Nat) (v0 : 0 ≤ v) (v1 : v ≤ 1000000000000) (n0 : 1 ≤ n) (n1 : n ≤ 100) (w : World) :
    Calls Try.prog 24 #[.int .i64 v, .int .i64 n] w fun e w' => ∃ b cap, e = .returned (.slice (some ⟨b, 0, none⟩) n cap) ∧ IntsAt w' b 0 (splitL v n) ∧ Below w.heap.size w w' := by
  have hM : isM v = true := by simp only [isM, decide_eq_true_eq]; omega
  have a1 : ¬ v < 0 := by omega
  have a2 : ¬ (n : Int) < 1 := by omega
  have a3 : ¬ (100 : Int) < (n : Int) := by omega
  have q0 : 0 ≤ v / (n : Int) := Int.ediv_nonneg v0 (by omega)
  have q1 : v / (n : Int) ≤ 1000000000000 := Int.le_trans (Int.ediv_le_self _ v0) v1
  have r0 : 0 ≤ v % (n : Int) := Int.emod_nonneg _ (by omega)
  have r1 : v % (n : Int) < (n : Int) := Int.emod_lt_of_pos _ (by omega)
  have np : (0 : Int) < (n : Int) := by omega
  have nz : ((n : Int) == 0) = false := by simp; omega
  obtain ⟨i0, hi, hz0, hz1, hz2⟩ := info_parts Try.info2'
  go_enter Try.func24, Try.ntmps24
  go_wp2_with fail
  refine (l01Money_any _ _).mono ?_
  rintro e w1 ⟨rfl, rfl⟩
  go_wp2
  go_loopw [5, 6] (fun s i wr => ∃ (k : Nat), i = .int .i64 k ∧ k ≤ n ∧ Hid (Below w.heap.size w wr) ∧ wr.ownsRow w.heap.size 2 1 s k (spt v n k) ∧ w.heap.size < wr.heap.size) (fun _ i _ => n - (intOf i).toNat)
  case atStart => exact ⟨0, rfl, Nat.zero_le _, bA0 _ _, World.ownsRow_lit w #[] 0 (Nat.le_refl _) (Nat.zero_le _) rfl, by simp⟩
  case round =>
    obtain ⟨k, rfl, hk, H3, hown, hsz⟩ := hrel
    have hk0 : (0 : Int) ≤ (k : Int) := by omega
    by_cases h1 : k < n
    · have h1' : (k : Int) < (n : Int) := by omega
      have E : Hid (spt v n k ++ [.int .i64 (spl v n k)] = spt v n (k + 1)) := split_take v n k h1
      by_cases hg : (k : Int) < v % (n : Int)
      · rw [show spl v n k = v / n + 1 by simp [spl, hg]] at E
        go_wp2_with (first | (at_builtin; refine wpList_append_lies _ rfl (.tmp 40) (.tmp 42) 32 rfl w.heap.size 2 i0 (.int .i64 0) 1 8 Try.underlying32 hi hz0 hz1 hz2 rfl (by decide) _ _ _ rfl (hown.alloc _) ⟨wr.heap.size, 0, none⟩ 1 1 [.int .i64 (v / n + 1)] rfl rfl (cell_one_new _ _ _) (by intro u hu; simp at hu; subst hu; rfl) (by decide) (by unfold maxLen; omega) (by omega) (by simp; omega) (wr.heap.size + 1) (by simp) ?_))
        · intro g cap w3 hown3 hgrow hg3 hlt3
          have B3 : Hid (Below w.heap.size w w3) := H3.out.alloc (Nat.le_of_lt hsz) _ |>.grown hgrow (by simp; omega) (fun j hj => (hown.lt j hj).1)
          have O3 : Hid (w3.ownsRow w.heap.size 2 1 (.slice (some ⟨g, 0, none⟩) (k + 1) cap) (k + 1) (spt v n (k + 1))) := E.out ▸ hown3
          have Z3 : w.heap.size < w3.heap.size := by have := hgrow.size; simp at this; omega
          clear hown3 hgrow hg3 hlt3
          go_wp2
          go_roundw
          case rel => exact ⟨k + 1, by go_num, by omega, B3, O3.out, Z3⟩
          case measure => simp [intOf]; omega
      · rw [show spl v n k = v / n by simp [spl, hg]] at E
        go_wp2_with (first | (at_builtin; refine wpList_append_lies _ rfl (.tmp 40) (.tmp 42) 32 rfl w.heap.size 2 i0 (.int .i64 0) 1 8 Try.underlying32 hi hz0 hz1 hz2 rfl (by decide) _ _ _ rfl (hown.alloc _) ⟨wr.heap.size, 0, none⟩ 1 1 [.int .i64 (v / n)] rfl rfl (cell_one_new _ _ _) (by intro u hu; simp at hu; subst hu; rfl) (by decide) (by unfold maxLen; omega) (by omega) (by simp; omega) (wr.heap.size + 1) (by simp) ?_))
        · intro g cap w3 hown3 hgrow hg3 hlt3
          have B3 : Hid (Below w.heap.size w w3) := H3.out.alloc (Nat.le_of_lt hsz) _ |>.grown hgrow (by simp; omega) (fun j hj => (hown.lt j hj).1)
          have O3 : Hid (w3.ownsRow w.heap.size 2 1 (.slice (some ⟨g, 0, none⟩) (k + 1) cap) (k + 1) (spt v n (k + 1))) := E.out ▸ hown3
          have Z3 : w.heap.size < w3.heap.size := by have := hgrow.size; simp at this; omega
          clear hown3 hgrow hg3 hlt3
          go_wp2
          go_roundw
          case rel => exact ⟨k + 1, by go_num, by omega, B3, O3.out, Z3⟩
          case measure => simp [intOf]; omega
    · have h1' : ¬ (k : Int) < (n : Int) := by omega
      have hkn : k = n := by omega
      have HO : Hid (∃ g cap, u5 = .slice (some ⟨g, 0, none⟩) n cap ∧ IntsAt wr g 0 (splitL v n) ∧ w.heap.size ≤ g) := by
        subst hkn
        have h2 := own_ints (zs := splitL v k) (by rw [split_len]; have h3 := hown; unfold spt at h3; rw [List.take_of_length_le (by rw [split_len]; omega)] at h3; exact h3) (by rw [split_len]; omega)
        rw [split_len] at h2
        exact h2
      clear hkn hown
      go_wp2
      go_ret
      obtain ⟨g, cap, hv, hi, _⟩ := HO.out
      exact ⟨g, ⟨cap, congrArg Ending.returned hv⟩, hi, H3.out⟩

end Go.Proofs.Ytcganhhnkidddaa
