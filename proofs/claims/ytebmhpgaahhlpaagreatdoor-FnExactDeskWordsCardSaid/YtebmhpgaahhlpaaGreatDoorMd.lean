/-
  THE DESK's WORDS: impl.DeskWords.
-/
import Derived.Test.YtebmhpgaahhlpaaGreatDoorMb
import Derived.Test.YtebmhpgaahhlpaaGreatDoorMc
import Derived.Test.YtebmhpgaahhlpaaGreatDoorShelfP
import Derived.Sort.OwnSorted
namespace Go.Proofs.YtebmhpgaahhlpaaGreatDoor
open Go.RowKit Go.Shelf Go.Proofs Go.Sort
set_option linter.unusedVariables false
set_option linter.unusedSimpArgs false

theorem stopsA (n : Nat) (hn : 1 ≤ n) (w : World) (r : Nat) (ks : List (List UInt8)) (h : KM w r ks) :
    SeqStops Fence.wide n Tryz.prog 17 #[.pointer (some ⟨w.heap.size, 0, none⟩)] encStr (fun ss => ss.Perm ks) (fun _ => True) ks.length (w.alloc (.cells #[.map (some r)] 31)) := by
  obtain ⟨nn, D, hown, hk, hs⟩ := h
  subst hk
  rw [← hs]
  have := AnyZ.keys_stops (ρ := Tryz.keysA_ren) { Tryz.keysA with } Fence.wide n trivial rfl hn w.heap.size r nn D (w.alloc (.cells #[.map (some r)] 31)) (by simp) (Boxed.new w 31 (.map (some r))).cell (hown.alloc _)
  intro l J Jx W hW hJ hJx hY h0
  refine (this l J Jx W hW hJ hJx hY h0).mono ?_
  rintro e W' ⟨hv, ⟨xs, hS, hJ'⟩ | ⟨pre, hSp, hJ'⟩⟩
  · exact ⟨hv, .inl ⟨xs, hS.1, hJ'⟩⟩
  · exact ⟨hv, .inr ⟨pre, trivial, hJ'⟩⟩
theorem stopsB (n : Nat) (hn : 1 ≤ n) (w : World) (r : Nat) (ks : List (List UInt8)) (h : KM w r ks) :
    SeqStops Fence.wide n Tryz.prog 27 #[.pointer (some ⟨w.heap.size, 0, none⟩)] encStr (fun ss => ss.Perm ks) (fun _ => True) ks.length (w.alloc (.cells #[.map (some r)] 38)) := by
  obtain ⟨nn, D, hown, hk, hs⟩ := h
  subst hk
  rw [← hs]
  have := AnyZ.keys_stops (ρ := Tryz.keysB_ren) { Tryz.keysB with } Fence.wide n trivial rfl hn w.heap.size r nn D (w.alloc (.cells #[.map (some r)] 38)) (by simp) (Boxed.new w 38 (.map (some r))).cell (hown.alloc _)
  intro l J Jx W hW hJ hJx hY h0
  refine (this l J Jx W hW hJ hJx hY h0).mono ?_
  rintro e W' ⟨hv, ⟨xs, hS, hJ'⟩ | ⟨pre, hSp, hJ'⟩⟩
  · exact ⟨hv, .inl ⟨xs, hS.1, hJ'⟩⟩
  · exact ⟨hv, .inr ⟨pre, trivial, hJ'⟩⟩
/-- The engine's words, in some order. -/
theorem coll_any (w : World) (r : Nat) (ks : List (List UInt8)) (h : KM w r ks) (hl : ks.length ≤ 1000) :
    CallsIn Fence.wide 5 Tryz.prog 9 #[.func (.func 17) #[] #[.pointer (some ⟨w.heap.size, 0, none⟩)]] (w.alloc (.cells #[.map (some r)] 31)) fun e w' => ∃ (v : Value) (ss : List (List UInt8)), e = .returned v ∧ ss.Perm ks ∧ w'.ownsRow w.heap.size 9 1 v ss.length (ss.map encStr) ∧ Below w.heap.size w w' := by
  have := AnyZ.collect_in Tryz.coll Fence.wide 5 trivial trivial rfl (by omega) 17 #[.pointer (some ⟨w.heap.size, 0, none⟩)] trivial (enters_of Tryz.func17 (by kernel_rfl) rfl) _ ks.length (by unfold maxLen; omega) (by omega) _ (stopsA (5 - 1 - 1) (by omega) w r ks h).gives
  refine this.mono ?_
  rintro e w' ⟨v, ss, rfl, hS, hrow, -, hb⟩
  exact ⟨v, ss, rfl, hS, ownsRow_base_a hrow (by simp), ((Below.refl _ w).alloc (Nat.le_refl _) _).trans (hb.mono (by simp))⟩
/-- The desk's own words behind them, in some order. -/
theorem appB_any (B : Nat) (v0 : Value) (zs : List (List UInt8)) (w : World) (r : Nat) (ks : List (List UInt8)) (h : KM w r ks) (hl : zs.length + ks.length ≤ 1000) (hB : B ≤ w.heap.size) (hrow : w.ownsRow B 9 1 v0 zs.length (zs.map encStr)) :
    CallsIn Fence.wide 5 Tryz.prog 12 #[v0, .func (.func 27) #[] #[.pointer (some ⟨w.heap.size, 0, none⟩)]] (w.alloc (.cells #[.map (some r)] 38)) fun e w' => ∃ (v : Value) (ss : List (List UInt8)), e = .returned v ∧ ss.Perm ks ∧ w'.ownsRow B 9 1 v (zs.length + ss.length) (zs.map encStr ++ ss.map encStr) ∧ Below B w w' := by
  have := app_in 5 (by omega) B v0 zs (w.alloc (.cells #[.map (some r)] 38)) (by simp; omega) (hrow.alloc _) 27 #[.pointer (some ⟨w.heap.size, 0, none⟩)] (enters_of Tryz.func27 (by kernel_rfl) rfl) _ _ ks.length (by omega) (stopsB (5 - 1) (by omega) w r ks h)
  refine this.mono ?_
  rintro e w' ⟨v, ss, rfl, hS, hrow, hb⟩
  exact ⟨v, ss, rfl, hS, hrow, ((Below.refl _ w).alloc hB _).trans hb⟩
/-- slices.Sort of texts of one's own. -/
theorem sort_any (B : Nat) (v : Value) (ss : List (List UInt8)) (w : World) (hB : B ≤ w.heap.size) (hp : 0 < ss.length) (hl : ss.length ≤ 1000) (hrow : w.ownsRow B 9 1 v ss.length (ss.map encStr)) :
    Calls Tryz.prog 15 #[v] w fun e w' => e = .returned (.tuple #[]) ∧ w'.ownsRow B 9 1 v ss.length ((ss.mergeSort leB).map encStr) ∧ Below B w w' := by
  rcases hrow.2 with ⟨rfl, hz⟩ | ⟨gb, cap, cur, rfl, hbase, hgb, r1, r2, r3, r4⟩
  · omega
  · have hH : Holds encStr w gb 0 ss.toArray := holds_of_block hgb (by simpa using r4)
    have hgl : gb < w.heap.size := (Array.getElem?_eq_some_iff.1 hgb).1
    have hsz : ss.length < 4611686018427387904 := by omega
    refine (AnyM.slices_Sort_string Tryz.sortS gb 0 cap ss w hH hgl hsz).mono ?_
    rintro e w' ⟨rfl, n, os, rfl⟩
    exact ⟨rfl, ownsRow_sorted (by simp) hbase hgb r1 r2 r3, (Below.refl _ w).grown (grownBy_sorted _) hB (fun j hj => by cases hj; exact hbase)⟩
/-- All words, rising. -/
def deskW : List (List UInt8) := [[97, 115, 107], [98, 101, 115, 105, 100, 101], [98, 105, 100], [98, 105, 100, 115], [99, 104, 97, 110, 110, 101, 108], [99, 108, 111, 115, 101], [108, 105, 110, 101, 115], [109, 117, 115, 116], [110, 101, 101, 100, 115], [111, 112, 101, 110], [112, 97, 121, 115], [112, 108, 97, 110], [114, 111, 117, 110, 100], [115, 97, 109, 101], [115, 116, 97, 103, 101], [115, 116, 97, 116, 105, 111, 110], [116, 111, 116, 97, 108]]
theorem desk_sorted {a b : List (List UInt8)} (ha : a.Perm cmdKeys) (hb : b.Perm ownKeys) : (a ++ b).mergeSort leB = deskW ∧ (a ++ b).length = 17 := by
  have hp : (cmdKeys ++ ownKeys).Perm deskW := by decide
  have h := (ha.append hb).trans hp
  refine ⟨?_, h.length_eq⟩
  rw [mergeSort_of_perm h]
  exact List.mergeSort_of_pairwise (by decide)

theorem OwnB {w w' : World} {B : Nat} {v : Value} {n : Nat} {xs : List Value} (h : w.ownsRow B 9 1 v n xs) (hb : Below w.heap.size w w') : w'.ownsRow B 9 1 v n xs := by
  refine ⟨h.1, ?_⟩
  rcases h.2 with h | ⟨g, cap, cur, hv, hg, hh, r⟩
  · exact .inl h
  · exact .inr ⟨g, cap, cur, hv, hg, (hb.block g (Array.getElem?_eq_some_iff.1 hh).1).trans hh, r⟩
set_option maxRecDepth 100000 in
set_option maxHeartbeats 2000000 in
theorem idw_any (w : World) : Calls Tryz.prog 5 #[] w fun e w' => ∃ v, e = .returned v ∧ w'.ownsRow w.heap.size 9 1 v 17 (deskW.map encStr) ∧ Below w.heap.size w w' := by
  refine (callsIn_wide (n := 6)).1 ?_
  refine callsIn_of_wp Tryz.func5 rfl trivial ?_ rfl
  simp only [Tryz.ntmps5, List.size_toArray, List.length_cons, List.length_nil, Nat.reduceAdd, Nat.reduceSub, Array.replicate_succ, Array.replicate_zero, List.push_toArray, List.append_toArray, List.nil_append, List.cons_append]
  have f9 : Fence.wide.fn 9 := trivial
  have f10 : Fence.wide.fn 10 := trivial
  have f11 : Fence.wide.fn 11 := trivial
  have f12 : Fence.wide.fn 12 := trivial
  have f13 : Fence.wide.fn 13 := trivial
  have f14 : Fence.wide.fn 14 := trivial
  have f15 : Fence.wide.fn 15 := trivial
  have HB0 := Lib.hid (Below.refl w.heap.size w)
  gi_wp2_with (first
    | (gi_at_call 11; refine (callsIn_wide.2 (com_any _)).mono ?_; rintro e w1 ⟨rfl, K1, b1⟩; have HK1 := Lib.hid K1; have HB1 := Lib.hid (bT HB0.out b1); clear K1 b1)
    | (gi_at_call 10; refine (AnyZ.keys_in Tryz.keysA Fence.wide _ trivial rfl _ _).mono ?_; rintro e w2 ⟨rfl, rfl⟩)
    | (gi_at_call 9; refine (coll_any _ _ _ HK1.out (by decide)).mono ?_; rintro e w3 ⟨v3, ss3, rfl, hS3, hrow3, b3⟩; have HS3 := Lib.hid hS3; have HR3 := Lib.hid (ownsRow_base_a hrow3 HB1.out.size); have HB3 := Lib.hid (bT HB1.out b3); clear hS3 hrow3 b3)
    | (gi_at_call 14; refine (callsIn_wide.2 (own_any _)).mono ?_; rintro e w4 ⟨rfl, K4, b4⟩; have HK4 := Lib.hid K4; have HB4 := Lib.hid (bT HB3.out b4); have HR4 := Lib.hid (OwnB HR3.out b4); clear K4 b4)
    | (gi_at_call 13; refine (AnyZ.keys_in Tryz.keysB Fence.wide _ trivial rfl _ _).mono ?_; rintro e w5 ⟨rfl, rfl⟩)
    | (gi_at_call 12; refine (appB_any w.heap.size v3 ss3 _ _ _ HK4.out (by have := HS3.out.length_eq; simp [cmdKeys] at this; simp [ownKeys]; omega) HB4.out.size HR4.out).mono ?_; rintro e w6 ⟨v6, ss6, rfl, hS6, hrow6, b6⟩; have HR6 := Lib.hid hrow6; have HB6 := Lib.hid (HB4.out.trans b6); have HS6 := Lib.hid (desk_sorted HS3.out hS6); clear hS6 hrow6 b6)
    | (gi_at_call 15; refine (callsIn_wide.2 (sort_any w.heap.size v6 (ss3 ++ ss6) _ HB6.out.size (by rw [HS6.out.2]; omega) (by rw [HS6.out.2]; omega) (by rw [List.length_append, List.map_append]; exact HR6.out))).mono ?_; rintro e w7 ⟨rfl, hrow7, b7⟩; have HR7 := Lib.hid hrow7; have HB7 := Lib.hid (HB6.out.trans b7); clear hrow7 b7))
  go_ret
  have h7 := HR7.out
  rw [HS6.out.1, HS6.out.2] at h7
  exact ⟨_, rfl, h7, HB7.out⟩

end Go.Proofs.YtebmhpgaahhlpaaGreatDoor
