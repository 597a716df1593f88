/-
  WHERE A NUMBER STANDS in rising ones: slices.BinarySearch.
-/
import Derived.Test.YtdmfljejlhlbnaaWe
namespace Go.Proofs.Ytdmfljejlhlbnaa
open Go.RowKit
set_option linter.unusedVariables false

theorem nan1_any (x : Int) (w : World) : Calls Try.prog 144 #[.int .i64 x] w fun e w' => e = .returned (.bool false) ∧ w' = w := by
  go_enter Try.func144, Try.ntmps144
  go_wp2
  go_ret
  exact ⟨by simp, rfl⟩
theorem nan2_any (x : Int) (w : World) : Calls Try.prog 123 #[.int .i64 x] w fun e w' => e = .returned (.bool false) ∧ w' = w := by
  go_enter Try.func123, Try.ntmps123
  go_wp2
  go_ret
  exact ⟨by simp, rfl⟩
set_option maxRecDepth 100000 in
set_option maxHeartbeats 1000000 in
theorem less_any (x y : Int) (w : World) : Calls Try.prog 122 #[.int .i64 x, .int .i64 y] w fun e w' => e = .returned (.bool (decide (x < y))) ∧ w' = w := by
  have E := Lib.hid (fun W => nan1_any x W)
  go_enter Try.func122, Try.ntmps122
  go_wp2_with (go_at_call 144; refine (E.out _).mono ?_; rintro e w' ⟨rfl, rfl⟩)
  go_ret
  exact ⟨rfl, rfl⟩

/-- All ahead of lo are less than x, all from hi on are not. -/
def CutAt (zs : List Int) (x : Int) (lo hi : Nat) : Prop := (∀ t, t < lo → zs.getD t 0 < x) ∧ (∀ t, hi ≤ t → t < zs.length → x ≤ zs.getD t 0)
def Rises (zs : List Int) : Prop := ∀ i j, i < j → j < zs.length → zs.getD i 0 < zs.getD j 0
theorem cut_in {zs : List Int} {x : Int} {h : Nat} (hc : CutAt zs x h h) (hr : Rises zs) (hl : h < zs.length) (hx : zs.getD h 0 = x) : x ∈ zs ∧ zs.idxOf x = h := by
  refine ⟨?_, idxOf_hit zs x h hl hx (fun i hi => by have := hc.1 i hi; omega)⟩
  rw [← hx, List.getD_eq_getElem?_getD, List.getElem?_eq_getElem hl]
  exact List.getElem_mem hl
theorem cut_out {zs : List Int} {x : Int} {h : Nat} (hc : CutAt zs x h h) (hr : Rises zs) (hx : h < zs.length → zs.getD h 0 ≠ x) : x ∉ zs := fun hm => by
  obtain ⟨i, hi, e⟩ := List.getElem_of_mem hm
  have ei : zs.getD i 0 = x := by rw [List.getD_eq_getElem?_getD, List.getElem?_eq_getElem hi]; exact e
  rcases Nat.lt_trichotomy i h with g | g | g
  · have := hc.1 i g; omega
  · subst g; exact hx hi ei
  · have h1 := hr h i g hi
    have h2 := hc.2 h (Nat.le_refl _) (by omega)
    omega

set_option maxRecDepth 100000 in
set_option maxHeartbeats 4000000 in
/-- slices.BinarySearch at int64. -/
theorem bs_any (sl : Option Addr) (cap : Nat) (zs : List Int) (x : Int) (w : World) (hn : zs.length ≤ 1048576) (hr : Rises zs) (hz : Ints w sl zs) :
    Calls Try.prog 71 #[.slice sl zs.length cap, .int .i64 x] w fun e w' => ∃ p : Nat, e = .returned (.tuple #[.int .i64 p, .bool (B (x ∈ zs))]) ∧ (x ∈ zs → p = zs.idxOf x) ∧ Below w.heap.size w w' := by
  have HZ := Lib.hid hz
  have HR := Lib.hid hr
  have EL := Lib.hid (fun y W => less_any y x W)
  have EN := Lib.hid (fun y W => nan2_any y W)
  clear hz hr
  generalize hN : zs.length = n at *
  have HN := Lib.hid hN
  clear hN
  go_enter Try.func71, Try.ntmps71
  go_wp2
  go_loopw [7, 8] (fun i j wr => ∃ (lo hi : Nat), i = .int .i64 lo ∧ j = .int .i64 hi ∧ lo ≤ hi ∧ hi ≤ n ∧ Hid (CutAt zs x lo hi) ∧ Hid (Below w.heap.size w wr)) (fun i j _ => (intOf j).toNat - (intOf i).toNat)
  case atStart => exact ⟨0, n, rfl, rfl, Nat.zero_le _, Nat.le_refl _, ⟨fun t ht => absurd ht (Nat.not_lt_zero _), fun t h1 h2 => by rw [HN.out] at h2; omega⟩, Below.refl _ _⟩
  case round =>
    obtain ⟨lo, hi, rfl, rfl, hlh, hin, CA, HB⟩ := hrel
    have hlo0 : (0 : Int) ≤ (lo : Int) := by omega
    have hhi0 : (0 : Int) ≤ (hi : Int) := by omega
    by_cases g1 : lo < hi
    · have g1' : (lo : Int) < (hi : Int) := by omega
      have hlt : (lo + hi) / 2 < zs.length := by rw [HN.out]; omega
      obtain ⟨c, o, rfl, ZI⟩ : ∃ c o, sl = some ⟨c, o, none⟩ ∧ IntsAt w c o zs := by
        rcases HZ.out with e | h
        · rw [e] at hlt; simp at hlt
        · exact h
      have hc := (HB.out.cell (p := ⟨c, o + (lo + hi) / 2, none⟩) ZI.1).trans (ZI.2 ((lo + hi) / 2) hlt)
      have C1 : Hid (zs.getD ((lo + hi) / 2) 0 < x → CutAt zs x ((lo + hi) / 2 + 1) hi) := fun h => ⟨fun t ht => by
        by_cases e : t = (lo + hi) / 2
        · rw [e]; exact h
        · have := HR.out t ((lo + hi) / 2) (by omega) hlt; omega, CA.out.2⟩
      have C2 : Hid (¬ zs.getD ((lo + hi) / 2) 0 < x → CutAt zs x lo ((lo + hi) / 2)) := fun h => ⟨CA.out.1, fun t h1 h2 => by
        by_cases e : t = (lo + hi) / 2
        · rw [e]; omega
        · have := HR.out ((lo + hi) / 2) t (by omega) h2; omega⟩
      clear ZI hlt CA
      generalize zs.getD ((lo + hi) / 2) 0 = y at *
      have E := Lib.hid (EL.out y)
      by_cases hyx : y < x
      · have CC := Lib.hid (C1.out hyx)
        clear C1 C2
        go_wp2_with (first | (go_at_call 122; refine (E.out _).mono ?_; rintro e w' ⟨rfl, rfl⟩))
        go_roundw
        case rel => exact ⟨(lo + hi) / 2 + 1, hi, by rw [show ((lo : Int) + (hi : Int)) / 2 + 1 = (((lo + hi) / 2 + 1 : Nat) : Int) by omega], rfl, by omega, hin, CC, HB⟩
        case measure => simp [intOf]; omega
      · have CC := Lib.hid (C2.out hyx)
        clear C1 C2
        go_wp2_with (first | (go_at_call 122; refine (E.out _).mono ?_; rintro e w' ⟨rfl, rfl⟩))
        go_roundw
        case rel => exact ⟨lo, (lo + hi) / 2, rfl, by rw [show ((lo : Int) + (hi : Int)) / 2 = (((lo + hi) / 2 : Nat) : Int) by omega], by omega, by omega, CC, HB⟩
        case measure => simp [intOf]; omega
    · have g1' : ¬ (lo : Int) < (hi : Int) := by omega
      obtain rfl : hi = lo := by omega
      by_cases g2 : hi < n
      · have g2' : (hi : Int) < (n : Int) := by omega
        have hlt : hi < zs.length := by rw [HN.out]; exact g2
        obtain ⟨c, o, rfl, ZI⟩ : ∃ c o, sl = some ⟨c, o, none⟩ ∧ IntsAt w c o zs := by
          rcases HZ.out with e | h
          · rw [e] at hlt; simp at hlt
          · exact h
        have hc := (HB.out.cell (p := ⟨c, o + hi, none⟩) ZI.1).trans (ZI.2 hi hlt)
        have C1 : Hid (zs.getD hi 0 = x → B (x ∈ zs) = true ∧ (x ∈ zs → hi = zs.idxOf x)) := fun h => ⟨B_yes (cut_in CA.out HR.out hlt h).1, fun _ => (cut_in CA.out HR.out hlt h).2.symm⟩
        have C2 : Hid (¬ zs.getD hi 0 = x → B (x ∈ zs) = false ∧ (x ∈ zs → hi = zs.idxOf x)) := fun h => ⟨B_no (cut_out CA.out HR.out (fun _ => h)), fun hm => absurd hm (cut_out CA.out HR.out (fun _ => h))⟩
        clear ZI hlt CA
        generalize zs.getD hi 0 = y at *
        have E := Lib.hid (EN.out y)
        by_cases hyx : y = x
        · have CC := Lib.hid (C1.out hyx)
          clear C1 C2
          go_wp2_with (first | (go_at_call 123; refine (E.out _).mono ?_; rintro e w' ⟨rfl, rfl⟩))
          go_ret2
          exact ⟨hi, (by rw [CC.out.1]; first | rfl | simp [*]), CC.out.2, HB.out⟩
        · have CC := Lib.hid (C2.out hyx)
          clear C1 C2
          go_wp2_with (first | (go_at_call 123; refine (E.out _).mono ?_; rintro e w' ⟨rfl, rfl⟩))
          go_ret2
          exact ⟨hi, (by rw [CC.out.1]; first | rfl | simp [*]), CC.out.2, HB.out⟩
      · have g2' : ¬ (hi : Int) < (n : Int) := by omega
        have hx := cut_out CA.out HR.out (fun h => absurd h (by rw [HN.out]; exact g2))
        have CC := Lib.hid (show B (x ∈ zs) = false ∧ (x ∈ zs → hi = zs.idxOf x) from ⟨B_no hx, fun hm => absurd hm hx⟩)
        clear hx CA
        go_wp2
        go_ret2
        exact ⟨hi, (by rw [CC.out.1]; first | rfl | simp [*]), CC.out.2, HB.out⟩
end Go.Proofs.Ytdmfljejlhlbnaa
