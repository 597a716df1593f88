/-
  THE DRAWS: a source of numbers.
  THE DRAWS: how a source begins.
  THE DRAWS: a coin, and a number between two.
  THE DRAWS, BESIDE LISTS THAT GROW: a source that lies below a bound; a list of numbers.
  A TABLE BEING DRAWN: its variable, its rows of stations and pairs, the rows of its domains, beside the source.
  A TABLE BEING DRAWN: a station turned; and what a drawn table is.
  CLAUSES, DRAWN: a Cnf that is being drawn, beside the source; what turns it.
-/
import Derived.Test.YtoobcodlgajieaaDoorKXab
import Derived.Test.YtoobcodlgajieaaDoorKXag
import Derived.Test.YtoobcodlgajieaaDoorProg
import Derived.DeepKeys4
import Derived.MapViews
import Derived.Maps.Own
import Derived.Maps.OwnOps
import Derived.Maps.OwnSet
import Derived.Maps.RangeWalk
import Derived.Sort.OwnSorted
import Derived.Laws.StructEq
import Derived.Deep.RegionHeld3
namespace Go.Proofs.YtoobcodlgajieaaDoor
open Go.RowKit
set_option linter.unusedVariables false

def SrcAt (w : World) (b : Nat) (sl : Option Addr) (len cap k : Nat) (mix sz : Int) : Prop :=
  w.heap[b]? = some (.cells #[.slice sl len cap, .int .i64 k, .int .u64 mix, .int .i64 sz] 93)

theorem SrcAt.cells {w : World} {b : Nat} {sl : Option Addr} {len cap k : Nat} {mix sz : Int} (h : SrcAt w b sl len cap k mix sz) :
    w.cell? ⟨b, 0, none⟩ = some (.slice sl len cap) ∧ w.cell? ⟨b, 1, none⟩ = some (.int .i64 k) ∧ w.cell? ⟨b, 2, none⟩ = some (.int .u64 mix) ∧ w.cell? ⟨b, 3, none⟩ = some (.int .i64 sz) ∧ (∀ o, w.frozen? ⟨b, o, none⟩ = false) := by
  unfold SrcAt at h
  refine ⟨?_, ?_, ?_, ?_, fun o => ?_⟩ <;> simp [World.cell?, World.frozen?, h]

theorem SrcAt.store1 {w : World} {b : Nat} {sl : Option Addr} {len cap k : Nat} {mix sz : Int} (h : SrcAt w b sl len cap k mix sz) (n k' : Nat) :
    SrcAt ((w.drewN n).setCell ⟨b, 1, none⟩ (.int .i64 k')) b sl len cap k' mix sz ∧ Only b w ((w.drewN n).setCell ⟨b, 1, none⟩ (.int .i64 k')) :=
  ⟨heap_setCell_same (w.drewN n) b 1 _ 93 _ h, ((Only.refl b w).drewN n).setCell _ _⟩
theorem SrcAt.next {w : World} {b : Nat} {sl : Option Addr} {len cap k : Nat} {mix sz : Int} (h : SrcAt w b sl len cap k mix sz) (n : Nat) :
    SrcAt ((w.drewN n).setCell ⟨b, 1, none⟩ (.int .i64 ((k : Int) + 1))) b sl len cap (k + 1) mix sz ∧ Only b w ((w.drewN n).setCell ⟨b, 1, none⟩ (.int .i64 ((k : Int) + 1))) :=
  h.store1 n (k + 1)
theorem SrcAt.store2 {w : World} {b : Nat} {sl : Option Addr} {len cap k : Nat} {mix sz : Int} (h : SrcAt w b sl len cap k mix sz) (n : Nat) (v : Int) :
    SrcAt ((w.drewN n).setCell ⟨b, 2, none⟩ (.int .u64 v)) b sl len cap k v sz ∧ Only b w ((w.drewN n).setCell ⟨b, 2, none⟩ (.int .u64 v)) :=
  ⟨heap_setCell_same (w.drewN n) b 2 _ 93 _ h, ((Only.refl b w).drewN n).setCell _ _⟩
theorem SrcAt.store2' {w : World} {b : Nat} {sl : Option Addr} {len cap k : Nat} {mix sz : Int} (h : SrcAt w b sl len cap k mix sz) (v : Int) :
    SrcAt (w.setCell ⟨b, 2, none⟩ (.int .u64 v)).drew b sl len cap k v sz ∧ Only b w (w.setCell ⟨b, 2, none⟩ (.int .u64 v)).drew :=
  ⟨heap_setCell_same w b 2 _ 93 _ h, ((Only.refl b w).setCell _ _).drew⟩
/-- The bytes behind the source lie elsewhere and can be read. -/
def BytesAt (w : World) (b : Nat) (sl : Option Addr) (len : Nat) : Prop :=
  ∀ i, i < len → ∃ c o : Nat, ∃ z : Int, sl = some ⟨c, o, none⟩ ∧ c ≠ b ∧ c < w.heap.size ∧ 0 ≤ z ∧ z ≤ 255 ∧ w.cell? ⟨c, o + i, none⟩ = some (.int .u8 z)

theorem BytesAt.only {w w' : World} {b : Nat} {sl : Option Addr} {len : Nat} (h : BytesAt w b sl len) (ho : Only b w w') : BytesAt w' b sl len := by
  intro i hi
  obtain ⟨c, o, z, e, hc, hs, z1, z2, hz⟩ := h i hi
  exact ⟨c, o, z, e, hc, Nat.lt_of_lt_of_le hs ho.size, z1, z2, (ho.cell hs hc).trans hz⟩

def Src (w : World) (b : Nat) : Prop :=
  ∃ (sl : Option Addr) (len cap k : Nat) (mix sz : Int), SrcAt w b sl len cap k mix sz ∧ BytesAt w b sl len ∧ k ≤ len ∧ len ≤ maxLen ∧ 0 ≤ mix ∧ mix < 18446744073709551616 ∧ 0 ≤ sz ∧ sz ≤ 12 ∧ b < w.heap.size

theorem bits_lt (op : BinOp) (x y : Int) : 0 ≤ bits op .u64 x y ∧ bits op .u64 x y < 18446744073709551616 := by
  unfold bits; rw [IntKind.wrap_u64]; omega
theorem wrap_lt (n : Int) : 0 ≤ IntKind.u64.wrap n ∧ IntKind.u64.wrap n < 18446744073709551616 := by rw [IntKind.wrap_u64]; omega

theorem wr64 (x : Int) (h0 : 0 ≤ x) (h1 : x < 9223372036854775808) : wrap64 x = x := by unfold wrap64; omega

set_option maxHeartbeats 400000 in
theorem n_small (p : Value) (m : Int) (hm : m ≤ 1) (w : World) :
    Calls Tryd.prog 78 #[p, .int .i64 m] w fun e w' => e = .returned (.int .i64 0) ∧ w' = w := by
  go_enter Tryd.func78, Tryd.ntmps78
  go_wp2
  go_ret
  exact ⟨rfl, rfl⟩

set_option maxHeartbeats 1000000 in
theorem n_late (b : Nat) (sl : Option Addr) (len cap : Nat) (k : Nat) (mix m sz : Int) (w : World) (hm : 1 < m) (hM : m ≤ 9223372036854775807) (hk : len ≤ k) (hm1 : 0 ≤ mix) (hm2 : mix < 18446744073709551616) (hs : SrcAt w b sl len cap k mix sz) :
    Calls Tryd.prog 78 #[.pointer (some ⟨b, 0, none⟩), .int .i64 m] w fun e w' => ∃ r mix' : Int, e = .returned (.int .i64 r) ∧ 0 ≤ r ∧ r < m ∧ 0 ≤ mix' ∧ mix' < 18446744073709551616 ∧ SrcAt w' b sl len cap k mix' sz ∧ Only b w w' := by
  have hlt : ¬ ((k : Int) < (len : Int)) := by omega
  have hd : decide ((k : Int) < (len : Int)) = false := decide_eq_false hlt
  have HS : Hid (SrcAt w b sl len cap k mix sz) := hs
  obtain ⟨c0, c1, c2, c3, f⟩ := hs.cells
  clear hs
  go_enter Tryd.func78, Tryd.ntmps78
  go_wp2
  go_quiet (fail)
  go_wp2
  go_region
  generalize hv1 : bits .xor .u64 mix (IntKind.u64.wrap (mix * 8192)) = v1
  obtain ⟨s1, o1⟩ := SrcAt.store2 HS.out (nq + 1) v1
  generalize (w.drewN (nq + 1)).setCell ⟨b, 2, none⟩ (.int .u64 v1) = w1 at *
  obtain ⟨v1a, v1b⟩ : 0 ≤ v1 ∧ v1 < 18446744073709551616 := by rw [← hv1]; exact bits_lt _ _ _
  clear hv1 c0 c1 c2 c3 f HS
  obtain ⟨c0, c1, c2, c3, f⟩ := s1.cells
  have HS : Hid (SrcAt w1 b sl len cap k v1 sz) := s1
  clear s1
  go_wp2
  go_region
  generalize hv2 : bits .xor .u64 v1 (v1 / 128) = v2
  obtain ⟨s2, o2⟩ := SrcAt.store2' HS.out v2
  generalize (w1.setCell ⟨b, 2, none⟩ (.int .u64 v2)).drew = w2 at *
  obtain ⟨v2a, v2b⟩ : 0 ≤ v2 ∧ v2 < 18446744073709551616 := by rw [← hv2]; exact bits_lt _ _ _
  clear hv2 c0 c1 c2 c3 f HS
  obtain ⟨c0, c1, c2, c3, f⟩ := s2.cells
  have HS : Hid (SrcAt w2 b sl len cap k v2 sz) := s2
  clear s2
  go_wp2
  go_region
  generalize hv3 : bits .xor .u64 v2 (IntKind.u64.wrap (v2 * 131072)) = v3
  obtain ⟨s3, o3⟩ := SrcAt.store2' HS.out v3
  generalize (w2.setCell ⟨b, 2, none⟩ (.int .u64 v3)).drew = w3 at *
  obtain ⟨v3a, v3b⟩ : 0 ≤ v3 ∧ v3 < 18446744073709551616 := by rw [← hv3]; exact bits_lt _ _ _
  clear hv3 c0 c1 c2 c3 f HS
  obtain ⟨c0, c1, c2, c3, f⟩ := s3.cells
  have HS : Hid (SrcAt w3 b sl len cap k v3 sz) := s3
  clear s3
  have O3 : Hid (Only b w w3) := (o1.trans o2).trans o3
  clear o1 o2 o3
  go_wp2
  go_ret
  have r1 : 0 ≤ v3 / 1048576 % m := Int.emod_nonneg _ (by omega)
  have r2 : v3 / 1048576 % m < m := Int.emod_lt_of_pos _ (by omega)
  exact ⟨_, v3, rfl, by rw [wr64 _ r1 (by omega)]; exact r1, by rw [wr64 _ r1 (by omega)]; exact r2, v3a, v3b, HS.out, O3.out⟩

set_option maxHeartbeats 1000000 in
theorem n_early (b : Nat) (c o : Nat) (len cap : Nat) (k : Nat) (mix m sz z : Int) (w : World) (hm : 1 < m) (hM : m ≤ 9223372036854775807) (hk : k < len) (hl : len ≤ maxLen) (hm1 : 0 ≤ mix) (hm2 : mix < 18446744073709551616) (hs : SrcAt w b (some ⟨c, o, none⟩) len cap k mix sz) (hz1 : 0 ≤ z) (hz2 : z ≤ 255) (hz : w.cell? ⟨c, o + k, none⟩ = some (.int .u8 z)) :
    Calls Tryd.prog 78 #[.pointer (some ⟨b, 0, none⟩), .int .i64 m] w fun e w' => ∃ r mix' : Int, e = .returned (.int .i64 r) ∧ 0 ≤ r ∧ r < m ∧ 0 ≤ mix' ∧ mix' < 18446744073709551616 ∧ SrcAt w' b (some ⟨c, o, none⟩) len cap (k + 1) mix' sz ∧ Only b w w' := by
  unfold maxLen at hl
  have hlt : ((k : Int) < (len : Int)) := by omega
  have hd : decide ((k : Int) < (len : Int)) = true := decide_eq_true hlt
  have hk0 : (0 : Int) ≤ (k : Int) := by omega
  have HS : Hid (SrcAt w b (some ⟨c, o, none⟩) len cap k mix sz) := hs
  obtain ⟨c0, c1, c2, c3, f⟩ := hs.cells
  clear hs
  go_enter Tryd.func78, Tryd.ntmps78
  go_wp2
  go_quiet (fail)
  revert nq; intro nq0
  go_wp2
  go_quiet (fail)
  go_wp2
  obtain ⟨s0, o0⟩ := SrcAt.next HS.out (nq0 + nq)
  generalize (w.drewN (nq0 + nq)).setCell ⟨b, 1, none⟩ (.int .i64 ((k : Int) + 1)) = w0 at *
  clear c0 c1 c2 c3 f HS hz
  obtain ⟨c0, c1, c2, c3, f⟩ := s0.cells
  have HS : Hid (SrcAt w0 b (some ⟨c, o, none⟩) len cap (k + 1) mix sz) := s0
  have O0 : Hid (Only b w w0) := o0
  clear s0 o0
  go_region
  generalize hv1 : bits .xor .u64 mix (IntKind.u64.wrap (mix * 8192)) = v1
  obtain ⟨s1, o1⟩ := SrcAt.store2' HS.out v1
  generalize (w0.setCell ⟨b, 2, none⟩ (.int .u64 v1)).drew = w1 at *
  obtain ⟨v1a, v1b⟩ : 0 ≤ v1 ∧ v1 < 18446744073709551616 := by rw [← hv1]; exact bits_lt _ _ _
  clear hv1 c0 c1 c2 c3 f HS
  obtain ⟨c0, c1, c2, c3, f⟩ := s1.cells
  have HS : Hid (SrcAt w1 b (some ⟨c, o, none⟩) len cap (k + 1) v1 sz) := s1
  clear s1
  go_wp2
  go_region
  generalize hv2 : bits .xor .u64 v1 (v1 / 128) = v2
  obtain ⟨s2, o2⟩ := SrcAt.store2' HS.out v2
  generalize (w1.setCell ⟨b, 2, none⟩ (.int .u64 v2)).drew = w2 at *
  obtain ⟨v2a, v2b⟩ : 0 ≤ v2 ∧ v2 < 18446744073709551616 := by rw [← hv2]; exact bits_lt _ _ _
  clear hv2 c0 c1 c2 c3 f HS
  obtain ⟨c0, c1, c2, c3, f⟩ := s2.cells
  have HS : Hid (SrcAt w2 b (some ⟨c, o, none⟩) len cap (k + 1) v2 sz) := s2
  clear s2
  go_wp2
  go_region
  generalize hv3 : bits .xor .u64 v2 (IntKind.u64.wrap (v2 * 131072)) = v3
  obtain ⟨s3, o3⟩ := SrcAt.store2' HS.out v3
  generalize (w2.setCell ⟨b, 2, none⟩ (.int .u64 v3)).drew = w3 at *
  obtain ⟨v3a, v3b⟩ : 0 ≤ v3 ∧ v3 < 18446744073709551616 := by rw [← hv3]; exact bits_lt _ _ _
  clear hv3 c0 c1 c2 c3 f HS
  obtain ⟨c0, c1, c2, c3, f⟩ := s3.cells
  have HS : Hid (SrcAt w3 b (some ⟨c, o, none⟩) len cap (k + 1) v3 sz) := s3
  clear s3
  have O3 : Hid (Only b w w3) := ((O0.out.trans o1).trans o2).trans o3
  clear o1 o2 o3 O0
  go_wp2
  go_ret
  have r1 : 0 ≤ (z + v3 / 1048576) % m := Int.emod_nonneg _ (by omega)
  have r2 : (z + v3 / 1048576) % m < m := Int.emod_lt_of_pos _ (by omega)
  exact ⟨_, v3, rfl, by rw [wr64 _ r1 (by omega)]; exact r1, by rw [wr64 _ r1 (by omega)]; exact r2, v3a, v3b, HS.out, O3.out⟩


/-- A slice of bytes that can be read. -/
def RowIn (w : World) (sl : Option Addr) (len : Nat) : Prop :=
  len ≤ maxLen ∧ ∀ i, i < len → ∃ c o : Nat, ∃ z : Int, sl = some ⟨c, o, none⟩ ∧ c < w.heap.size ∧ 0 ≤ z ∧ z ≤ 255 ∧ w.cell? ⟨c, o + i, none⟩ = some (.int .u8 z)

theorem RowIn.below {w w' : World} {sl : Option Addr} {len : Nat} (h : RowIn w sl len) (hb : Below w.heap.size w w') : RowIn w' sl len := by
  refine ⟨h.1, fun i hi => ?_⟩
  obtain ⟨c, o, z, e, hs, z1, z2, hz⟩ := h.2 i hi
  exact ⟨c, o, z, e, Nat.lt_of_lt_of_le hs hb.size, z1, z2, (hb.cell hs).trans hz⟩
theorem RowIn.bytes {w : World} {sl : Option Addr} {len : Nat} (h : RowIn w sl len) (ob : Obj) : BytesAt (w.alloc ob) w.heap.size sl len := by
  intro i hi
  obtain ⟨c, o, z, e, hs, z1, z2, hz⟩ := h.2 i hi
  exact ⟨c, o, z, e, by omega, by simp; omega, z1, z2, ((bA0 w ob).cell hs).trans hz⟩

def src0 (sl : Option Addr) (len cap : Nat) : Obj := .cells #[.slice sl len cap, .int .i64 0, .int .u64 88172645463325252, .int .i64 0] 93
theorem src0_at (w : World) (sl : Option Addr) (len cap : Nat) : SrcAt (w.alloc (src0 sl len cap)) w.heap.size sl len cap 0 88172645463325252 0 := by
  show (w.heap.push _)[w.heap.size]? = _
  simp [src0]
theorem SrcAt.store3 {w : World} {b : Nat} {sl : Option Addr} {len cap k : Nat} {mix sz : Int} (h : SrcAt w b sl len cap k mix sz) (v : Int) :
    SrcAt (w.setCell ⟨b, 3, none⟩ (.int .i64 v)) b sl len cap k mix v ∧ Only b w (w.setCell ⟨b, 3, none⟩ (.int .i64 v)) :=
  ⟨heap_setCell_same w b 3 _ 93 _ h, (Only.refl b w).setCell _ _⟩

theorem RowIn.split {w : World} {sl : Option Addr} {len : Nat} (h : RowIn w sl len) : len = 0 ∨ ∃ c o : Nat, sl = some ⟨c, o, none⟩ ∧ c < w.heap.size ∧ ∀ i, i < len → ∃ z : Int, 0 ≤ z ∧ z ≤ 255 ∧ w.cell? ⟨c, o + i, none⟩ = some (.int .u8 z) := by
  by_cases h0 : len = 0
  · exact .inl h0
  · obtain ⟨c, o, z, e, hs, z1, z2, hz⟩ := h.2 0 (by omega)
    refine .inr ⟨c, o, e, hs, fun i hi => ?_⟩
    obtain ⟨c', o', z, e', hs, z1, z2, hz⟩ := h.2 i hi
    rw [e] at e'
    simp only [Option.some.injEq, Addr.mk.injEq, and_true] at e'
    obtain ⟨rfl, rfl⟩ := e'
    exact ⟨z, z1, z2, hz⟩

theorem src_end {w w1 : World} {sl : Option Addr} {len cap : Nat} {mix v : Int} (hr : RowIn w sl len) (ho : Only w.heap.size (w.alloc (src0 sl len cap)) w1) (hs : SrcAt w1 w.heap.size sl len cap 0 mix v) (m1 : 0 ≤ mix) (m2 : mix < 18446744073709551616) (v1 : 0 ≤ v) (v2 : v ≤ 12) :
    Src w1 w.heap.size ∧ Below w.heap.size w w1 := by
  have hz := ho.size
  simp at hz
  exact ⟨⟨sl, len, cap, 0, mix, v, hs, (hr.bytes (src0 sl len cap)).only ho, Nat.zero_le _, hr.1, m1, m2, v1, v2, by omega⟩, ho.below (bA0 _ _) (Nat.le_refl _)⟩

set_option maxHeartbeats 400000 in
theorem source_none (sl : Option Addr) (cap : Nat) (w : World) (hr : RowIn w sl 0) :
    Calls Tryd.prog 44 #[.slice sl 0 cap] w fun e w' => e = .returned (.pointer (some ⟨w.heap.size, 0, none⟩)) ∧ Src w' w.heap.size ∧ Below w.heap.size w w' := by
  have HR : Hid (RowIn w sl 0) := hr
  have HS : Hid (SrcAt (w.alloc (src0 sl 0 cap)) w.heap.size sl 0 cap 0 88172645463325252 0) := src0_at w sl 0 cap
  clear hr
  go_enter Tryd.func44, Tryd.ntmps44
  go_wp2
  refine wp_loop_rounds 1 ?_
  rw [rounds_succ]
  go_wp2
  go_ret
  exact ⟨rfl, src_end HR.out (Only.refl _ _) HS.out (by decide) (by decide) (by decide) (by decide)⟩

set_option maxHeartbeats 4000000 in
theorem source_some (c o : Nat) (len cap : Nat) (w : World) (hr : RowIn w (some ⟨c, o, none⟩) len) (hc : c < w.heap.size) (hz : ∀ i, i < len → ∃ z : Int, 0 ≤ z ∧ z ≤ 255 ∧ w.cell? ⟨c, o + i, none⟩ = some (.int .u8 z)) :
    Calls Tryd.prog 44 #[.slice (some ⟨c, o, none⟩) len cap] w fun e w' => e = .returned (.pointer (some ⟨w.heap.size, 0, none⟩)) ∧ Src w' w.heap.size ∧ Below w.heap.size w w' := by
  have hl := hr.1
  unfold maxLen at hl
  have HR : Hid (RowIn w (some ⟨c, o, none⟩) len) := hr
  have HZ : Hid (∀ i, i < len → ∃ z : Int, 0 ≤ z ∧ z ≤ 255 ∧ w.cell? ⟨c, o + i, none⟩ = some (.int .u8 z)) := hz
  clear hr hz
  go_enter Tryd.func44, Tryd.ntmps44
  go_wp2
  go_loopw [4] (fun i w1 => ∃ (k : Nat) (mix : Int), i = .int .i64 k ∧ k ≤ len ∧ k ≤ 64 ∧ 0 ≤ mix ∧ mix < 18446744073709551616 ∧ SrcAt w1 w.heap.size (some ⟨c, o, none⟩) len cap 0 mix 0 ∧ Only w.heap.size (w.alloc (src0 (some ⟨c, o, none⟩) len cap)) w1) (fun i _ => 64 - (intOf i).toNat)
  case atStart => exact ⟨0, 88172645463325252, rfl, Nat.zero_le _, Nat.zero_le _, by decide, by decide, src0_at w _ _ _, Only.refl _ _⟩
  case round =>
    obtain ⟨k, mix, rfl, hk1, hk2, m1, m2, hs, ho⟩ := hrel
    have HO : Hid (Only w.heap.size (w.alloc (src0 (some ⟨c, o, none⟩) len cap)) wr) := ho
    have HS : Hid (SrcAt wr w.heap.size (some ⟨c, o, none⟩) len cap 0 mix 0) := hs
    obtain ⟨c0, c1, c2, c3, f⟩ := hs.cells
    have hk0 : (0 : Int) ≤ (k : Int) := by omega
    by_cases h1 : k < len
    · by_cases h2 : k < 64
      · obtain ⟨z, z1, z2, hz⟩ := HZ.out k h1
        have hz' : wr.cell? ⟨c, o + k, none⟩ = some (.int .u8 z) := by
          rw [ho.cell (by simp; omega) (by omega), (bA0 w _).cell hc]; exact hz
        have h1' : (k : Int) < (len : Int) := by omega
        have h2' : (k : Int) < 64 := by omega
        clear hz ho hs
        go_wp2
        go_region
        go_wp2
        go_roundw
        case rel =>
          obtain ⟨s1, o1⟩ := SrcAt.store2' HS.out (IntKind.u64.wrap (bits BinOp.xor IntKind.u64 mix z * 1099511628211))
          exact ⟨k + 1, _, by go_num, by omega, by omega, (wrap_lt _).1, (wrap_lt _).2, s1, HO.out.trans o1⟩
        case measure => simp [intOf]; omega
      · have h1' : (k : Int) < (len : Int) := by omega
        have h2' : decide ((k : Int) < 64) = false := by simp; omega
        obtain ⟨s1, o1⟩ := SrcAt.store3 HS.out ((len : Int) / 20)
        have O1 : Hid (Only w.heap.size (w.alloc (src0 (some ⟨c, o, none⟩) len cap)) (wr.setCell ⟨w.heap.size, 3, none⟩ (.int .i64 ((len : Int) / 20)))) := HO.out.trans o1
        obtain ⟨e0, e1, e2, e3, g⟩ := s1.cells
        have S1 : Hid (SrcAt (wr.setCell ⟨w.heap.size, 3, none⟩ (.int .i64 ((len : Int) / 20))) w.heap.size (some ⟨c, o, none⟩) len cap 0 mix ((len : Int) / 20)) := s1
        clear s1 o1 hs ho
        have hp : (0 : Int) ≤ (len : Int) / 20 := by omega
        by_cases hq : (12 : Int) < (len : Int) / 20
        · obtain ⟨s2, o2⟩ := SrcAt.store3 S1.out 12
          have O2 : Hid (Only w.heap.size (w.alloc (src0 (some ⟨c, o, none⟩) len cap)) ((wr.setCell ⟨w.heap.size, 3, none⟩ (.int .i64 ((len : Int) / 20))).setCell ⟨w.heap.size, 3, none⟩ (.int .i64 12))) := O1.out.trans o2
          have S2 : Hid (SrcAt ((wr.setCell ⟨w.heap.size, 3, none⟩ (.int .i64 ((len : Int) / 20))).setCell ⟨w.heap.size, 3, none⟩ (.int .i64 12)) w.heap.size (some ⟨c, o, none⟩) len cap 0 mix 12) := s2
          clear s2 o2
          go_wp2
          go_ret
          exact ⟨rfl, src_end HR.out O2.out S2.out m1 m2 (by decide) (by decide)⟩
        · go_wp2
          go_ret
          exact ⟨rfl, src_end HR.out O1.out S1.out m1 m2 hp (by omega)⟩
    · have h1' : decide ((k : Int) < (len : Int)) = false := by simp; omega
      obtain ⟨s1, o1⟩ := SrcAt.store3 HS.out ((len : Int) / 20)
      have O1 : Hid (Only w.heap.size (w.alloc (src0 (some ⟨c, o, none⟩) len cap)) (wr.setCell ⟨w.heap.size, 3, none⟩ (.int .i64 ((len : Int) / 20)))) := HO.out.trans o1
      obtain ⟨e0, e1, e2, e3, g⟩ := s1.cells
      have S1 : Hid (SrcAt (wr.setCell ⟨w.heap.size, 3, none⟩ (.int .i64 ((len : Int) / 20))) w.heap.size (some ⟨c, o, none⟩) len cap 0 mix ((len : Int) / 20)) := s1
      clear s1 o1 hs ho
      have hp : (0 : Int) ≤ (len : Int) / 20 := by omega
      have hq : (len : Int) / 20 ≤ 12 := by omega
      go_wp2
      go_ret
      exact ⟨rfl, src_end HR.out O1.out S1.out m1 m2 hp hq⟩

theorem source_any (sl : Option Addr) (len cap : Nat) (w : World) (hr : RowIn w sl len) :
    Calls Tryd.prog 44 #[.slice sl len cap] w fun e w' => e = .returned (.pointer (some ⟨w.heap.size, 0, none⟩)) ∧ Src w' w.heap.size ∧ Below w.heap.size w w' := by
  rcases hr.split with rfl | ⟨c, o, rfl, hc, hz⟩
  · exact source_none sl cap w hr
  · exact source_some c o len cap w hr hc hz


theorem Src.lt {w : World} {b : Nat} (h : Src w b) : b < w.heap.size := by
  obtain ⟨sl, len, cap, k, mix, sz, h, hb, hk, hl, m1, m2, z1, z2, hbs⟩ := h
  exact hbs

/-- A number of int64. -/
def I64 (v : Int) : Prop := -9223372036854775808 ≤ v ∧ v ≤ 9223372036854775807

theorem lit_cell {w w2 : World} {b : Nat} (zs : List Int) (ho : Only b (w.alloc (.cells (zs.map (Value.int .i64)).toArray 2)) w2) (hb : b < w.heap.size) (r : Int) (r1 : 0 ≤ r) (r2 : r < zs.length) :
    w2.cell? ⟨w.heap.size, r.toNat, none⟩ = some (.int .i64 (zs.getD r.toNat 0)) := by
  rw [ho.cell (by simp) (by omega)]
  have h : r.toNat < zs.length := by omega
  have e : (w.alloc (.cells (zs.map (Value.int .i64)).toArray 2)).heap[w.heap.size]? = some (.cells (zs.map (Value.int .i64)).toArray 2) := by
    show (w.heap.push _)[w.heap.size]? = _
    simp
  unfold World.cell?
  simp only [e]
  simp [h]
theorem lit_i64 (zs : List Int) (h : ∀ z ∈ zs, -9223372036854775808 ≤ z ∧ z ≤ 9223372036854775807) (i : Nat) : I64 (zs.getD i 0) := by
  unfold I64
  by_cases hi : i < zs.length
  · rw [show zs.getD i 0 = zs[i] by simp [hi]]; exact h _ (List.getElem_mem hi)
  · rw [show zs.getD i 0 = 0 by simp [hi]]; omega

def edges : List Int := [0, 1, -1, 2, 1000, 1001, 2147483648, 2147483647, -2147483648, 4611686018427387904, 9223372036854775807, -9223372036854775808, 1000000, 1000001]
theorem edges_ok (i : Nat) : I64 (edges.getD i 0) := lit_i64 edges (by decide) i


theorem own_onlyD {B : Nat} {e : TypeId} {m : Nat} {v : Value} {n : Nat} {xs : List Value} {b : Nat} {w w' : World} (h : w.ownsRow B e m v n xs) (ho : Only b w w') (hb : b < B) : w'.ownsRow B e m v n xs := by
  refine ⟨h.1, ?_⟩
  rcases h.2 with h | ⟨g, cap, cur, hv, hg, hh, r⟩
  · exact .inl h
  · exact .inr ⟨g, cap, cur, hv, hg, (ho.block g (Array.getElem?_eq_some_iff.1 hh).1 (by omega)).trans hh, r⟩
/-- A source whose block and whose bytes lie below B. -/
def SrcB (B : Nat) (w : World) (b : Nat) : Prop :=
  b < B ∧ B ≤ w.heap.size ∧ ∃ (sl : Option Addr) (len cap k : Nat) (mix sz : Int), SrcAt w b sl len cap k mix sz ∧ BytesAt w b sl len ∧ (∀ i, i < len → ∃ c o : Nat, sl = some ⟨c, o, none⟩ ∧ c < B) ∧ k ≤ len ∧ len ≤ maxLen ∧ 0 ≤ mix ∧ mix < 18446744073709551616 ∧ 0 ≤ sz ∧ sz ≤ 12
theorem SrcB.of {w : World} {b : Nat} (h : Src w b) : SrcB w.heap.size w b := by
  obtain ⟨sl, len, cap, k, mix, sz, h, hb, hk, hl, m1, m2, z1, z2, hbs⟩ := h
  refine ⟨hbs, Nat.le_refl _, sl, len, cap, k, mix, sz, h, hb, fun i hi => ?_, hk, hl, m1, m2, z1, z2⟩
  obtain ⟨c, o, z, e, hc, hs, _⟩ := hb i hi
  exact ⟨c, o, e, hs⟩
theorem SrcB.src {B : Nat} {w : World} {b : Nat} (h : SrcB B w b) : Src w b := by
  obtain ⟨h0, h1, sl, len, cap, k, mix, sz, h, hb, hB, hk, hl, m1, m2, z1, z2⟩ := h
  exact ⟨sl, len, cap, k, mix, sz, h, hb, hk, hl, m1, m2, z1, z2, Nat.lt_of_lt_of_le h0 h1⟩
theorem SrcB.kept {B : Nat} {w w' : World} {b : Nat} (h : SrcB B w b) (hs : w.heap.size ≤ w'.heap.size) (hk : ∀ k, k < B → w'.heap[k]? = w.heap[k]?) : SrcB B w' b := by
  obtain ⟨h0, h1, sl, len, cap, k, mix, sz, h, hb, hB, hkl, hl, m1, m2, z1, z2⟩ := h
  refine ⟨h0, Nat.le_trans h1 hs, sl, len, cap, k, mix, sz, (hk b h0).trans h, fun i hi => ?_, hB, hkl, hl, m1, m2, z1, z2⟩
  obtain ⟨c, o, z, e, hc, hlt, y1, y2, hz⟩ := hb i hi
  obtain ⟨c', o', e', hc'⟩ := hB i hi
  rw [e] at e'
  simp only [Option.some.injEq, Addr.mk.injEq, and_true] at e'
  obtain ⟨rfl, rfl⟩ := e'
  exact ⟨c, o, z, e, hc, Nat.lt_of_lt_of_le hlt hs, y1, y2, (World.cell?_of_block (w := w) (hk c hc')).trans hz⟩
theorem SrcB.below {B : Nat} {w w' : World} {b : Nat} (h : SrcB B w b) (hb : Below w.heap.size w w') : SrcB B w' b := h.kept hb.size fun k hk => hb.block k (Nat.lt_of_lt_of_le hk h.2.1)
theorem SrcB.grown {B : Nat} {w w' : World} {b : Nat} {row : Option Nat} (h : SrcB B w b) (hg : w.grownBy w' row) (hr : ∀ g, row = some g → B ≤ g) : SrcB B w' b :=
  h.kept hg.size fun k hk => hg.block k (Nat.lt_of_lt_of_le hk h.2.1) (fun e => by have := hr k e.symm; omega)

theorem nB_any (B b : Nat) (m : Int) (w : World) (hM : m ≤ 9223372036854775807) (hs : SrcB B w b) :
    Calls Tryd.prog 78 #[.pointer (some ⟨b, 0, none⟩), .int .i64 m] w fun e w' => ∃ r : Int, e = .returned (.int .i64 r) ∧ 0 ≤ r ∧ (r < m ∨ r = 0) ∧ SrcB B w' b ∧ Only b w w' := by
  by_cases hm : m ≤ 1
  · refine (n_small _ m hm w).mono ?_
    rintro e w' ⟨rfl, rfl⟩
    exact ⟨0, rfl, by omega, .inr rfl, hs, Only.refl _ _⟩
  · obtain ⟨h0, hB0, sl, len, cap, k, mix, sz, h, hb, hB, hk, hl, m1, m2, z1, z2⟩ := hs
    by_cases hlt : k < len
    · obtain ⟨c, o, z, rfl, hc, hcs, hz1, hz2, hz⟩ := hb k hlt
      refine (n_early b c o len cap k mix m sz z w (by omega) hM hlt hl m1 m2 h hz1 hz2 hz).mono ?_
      rintro e w' ⟨r, mix', rfl, r1, r2, a1, a2, s, o⟩
      exact ⟨r, rfl, r1, .inl r2, ⟨h0, Nat.le_trans hB0 o.size, _, len, cap, k + 1, mix', sz, s, hb.only o, hB, hlt, hl, a1, a2, z1, z2⟩, o⟩
    · refine (n_late b sl len cap k mix m sz w (by omega) hM (by omega) m1 m2 h).mono ?_
      rintro e w' ⟨r, mix', rfl, r1, r2, a1, a2, s, o⟩
      exact ⟨r, rfl, r1, .inl r2, ⟨h0, Nat.le_trans hB0 o.size, sl, len, cap, k, mix', sz, s, hb.only o, hB, hk, hl, a1, a2, z1, z2⟩, o⟩
theorem nB_lt (B b : Nat) (m : Int) (w : World) (h1 : 1 ≤ m) (hM : m ≤ 9223372036854775807) (hs : SrcB B w b) :
    Calls Tryd.prog 78 #[.pointer (some ⟨b, 0, none⟩), .int .i64 m] w fun e w' => ∃ r : Int, e = .returned (.int .i64 r) ∧ 0 ≤ r ∧ r < m ∧ SrcB B w' b ∧ Only b w w' := by
  refine (nB_any B b m w hM hs).mono ?_
  rintro e w' ⟨r, rfl, r1, r2, s, o⟩
  exact ⟨r, rfl, r1, by omega, s, o⟩
set_option maxHeartbeats 400000 in
theorem oneB_any (B b : Nat) (m : Int) (w : World) (hM : m ≤ 9223372036854775807) (hs : SrcB B w b) :
    Calls Tryd.prog 73 #[.pointer (some ⟨b, 0, none⟩), .int .i64 m] w fun e w' => ∃ t : Bool, e = .returned (.bool t) ∧ SrcB B w' b ∧ Only b w w' := by
  have HS := Lib.hid hs
  clear hs
  go_enter Tryd.func73, Tryd.ntmps73
  go_wp2_with fail
  refine (nB_any B b m _ hM HS.out).mono ?_
  rintro e w1 ⟨r, rfl, r1, r2, s1, o1⟩
  have H1 : Hid (SrcB B w1 b ∧ Only b w w1) := ⟨s1, o1⟩
  clear s1 o1 r2
  go_wp2
  go_ret
  exact ⟨_, rfl, H1.out⟩
set_option maxRecDepth 100000 in
set_option maxHeartbeats 400000 in
theorem edgeB_any (B b : Nat) (w : World) (hs : SrcB B w b) :
    Calls Tryd.prog 107 #[.pointer (some ⟨b, 0, none⟩)] w fun e w' => ∃ v : Int, e = .returned (.int .i64 v) ∧ I64 v ∧ SrcB B w' b ∧ Only b w w' := by
  have HS := Lib.hid hs
  clear hs
  go_enter Tryd.func107, Tryd.ntmps107
  go_wp2_with fail
  refine (nB_lt B b 14 _ (by decide) (by decide) (HS.out.below (bA0 _ _))).mono ?_
  rintro e w1 ⟨r, rfl, r1, r2, s1, o1⟩
  have hc := lit_cell edges o1 (Nat.lt_of_lt_of_le HS.out.1 HS.out.2.1) r r1 r2
  have H1 : Hid (SrcB B w1 b ∧ Only b w w1) := ⟨s1, (Only.of_below (bA0 _ _)).trans o1⟩
  have HI : Hid (I64 (edges.getD r.toNat 0)) := edges_ok _
  generalize edges.getD r.toNat 0 = v at *
  clear s1 o1 HS
  go_wp2
  go_ret
  exact ⟨_, rfl, HI.out, H1.out⟩


def stC (rs : List LSt) : List Value := rs.flatMap fun r => [.int .i64 r.1, .int .i64 r.2.1, r.2.2.1]
def prC (ps : List LPr) : List Value := ps.flatMap fun p => [.int .i64 p.1, .int .i64 p.2.1, .int .i64 p.2.2]
theorem stC_add (rs : List LSt) (r : LSt) : stC (rs ++ [r]) = stC rs ++ [.int .i64 r.1, .int .i64 r.2.1, r.2.2.1] := by simp [stC]
theorem prC_add (ps : List LPr) (p : LPr) : prC (ps ++ [p]) = prC ps ++ [.int .i64 p.1, .int .i64 p.2.1, .int .i64 p.2.2] := by simp [prC]
theorem flat3_at {α : Type} (f : α → Value × Value × Value) (l : List α) (i : Nat) (h : i < l.length) :
    (l.flatMap fun a => [(f a).1, (f a).2.1, (f a).2.2])[i * 3]? = some (f l[i]).1 ∧ (l.flatMap fun a => [(f a).1, (f a).2.1, (f a).2.2])[i * 3 + 1]? = some (f l[i]).2.1 ∧ (l.flatMap fun a => [(f a).1, (f a).2.1, (f a).2.2])[i * 3 + 2]? = some (f l[i]).2.2 := by
  induction l generalizing i with
  | nil => simp at h
  | cons a t ih =>
    rw [List.flatMap_cons]
    cases i with
    | zero => simp
    | succ i =>
      have h' : i < t.length := by simpa using h
      have := ih i h'
      have e : ∀ j, ([(f a).1, (f a).2.1, (f a).2.2] ++ t.flatMap fun a => [(f a).1, (f a).2.1, (f a).2.2])[j + 3]? = (t.flatMap fun a => [(f a).1, (f a).2.1, (f a).2.2])[j]? := fun j => by
        rw [List.getElem?_append_right (by simp)]; simp
      rw [show (i + 1) * 3 = i * 3 + 3 by omega, show i * 3 + 3 + 1 = (i * 3 + 1) + 3 by omega, show i * 3 + 3 + 2 = (i * 3 + 2) + 3 by omega, e, e, e]
      simpa using this

/-- What is owned stays, where its block does. -/
theorem own_keep {C : Nat} {e : TypeId} {m : Nat} {v : Value} {n : Nat} {xs : List Value} {w w' : World} (h : w.ownsRow C e m v n xs) (hk : ∀ j, v.ownBlock = some j → w'.heap[j]? = w.heap[j]?) : w'.ownsRow C e m v n xs := by
  refine ⟨h.1, ?_⟩
  rcases h.2 with h | ⟨g, cap, cur, hv, hg, hh, r⟩
  · exact .inl h
  · exact .inr ⟨g, cap, cur, hv, hg, (hk g (by rw [hv]; rfl)).trans hh, r⟩
theorem own_type {C : Nat} {e : TypeId} {m : Nat} {v : Value} {n : Nat} {xs : List Value} {w : World} (h : w.ownsRow C e m v n xs) {j : Nat} (hj : v.ownBlock = some j) : ∃ cur, w.heap[j]? = some (.cells cur e (0, 0)) := by
  rcases h.2 with ⟨rfl, _⟩ | ⟨g, cap, cur, rfl, _, hh, _⟩
  · cases hj
  · cases hj; exact ⟨cur, hh⟩
theorem own_base {C : Nat} {e : TypeId} {m : Nat} {v : Value} {n : Nat} {xs : List Value} {w : World} (h : w.ownsRow C e m v n xs) {j : Nat} (hj : v.ownBlock = some j) : C ≤ j := by
  rcases h.2 with ⟨rfl, _⟩ | ⟨g, cap, cur, rfl, hg, hh, _⟩
  · cases hj
  · cases hj; exact hg
theorem own_neD {C C' : Nat} {e e' : TypeId} {m m' : Nat} {v v' : Value} {n n' : Nat} {xs xs' : List Value} {w : World} (h : w.ownsRow C e m v n xs) (h' : w.ownsRow C' e' m' v' n' xs') (he : e ≠ e') {j : Nat} (hj : v.ownBlock = some j) : v'.ownBlock ≠ some j := fun hj' => by
  obtain ⟨c, hc⟩ := own_type h hj
  obtain ⟨c', hc'⟩ := own_type h' hj'
  rw [hc] at hc'
  simp at hc'
  exact he hc'.2

structure TI (w : World) (b tb : Nat) (v1 v2 : Value) (rs : List LSt) (ps : List LPr) (W : World) : Prop where
  hb : b < w.heap.size
  htb : w.heap.size < tb
  src : SrcB w.heap.size W b
  fr : Only b w W
  tab : W.heap[tb]? = some (.cells #[v1, v2] 97)
  rc : W.heap[w.heap.size]? = some (.cells #[.slice none 0 0, .slice none 0 0] 97)
  st : W.ownsRow (tb + 1) 131 3 v1 rs.length (stC rs)
  pr : W.ownsRow (tb + 1) 133 3 v2 ps.length (prC ps)
  dom : ∀ r ∈ rs, W.ownsRow (tb + 1) 2 1 r.2.2.1 r.2.2.2.length (valsZ r.2.2.2)
  ap : rs.Pairwise (fun r r' => r.2.2.1.ownBlock ≠ r'.2.2.1.ownBlock)

section
variable {w : World} {b tb : Nat} {v1 v2 : Value} {rs : List LSt} {ps : List LPr} {W W' : World}
theorem TI.lt (h : TI w b tb v1 v2 rs ps W) : tb < W.heap.size := (Array.getElem?_eq_some_iff.1 h.tab).1
theorem TI.rlt (h : TI w b tb v1 v2 rs ps W) : w.heap.size < W.heap.size := (Array.getElem?_eq_some_iff.1 h.rc).1
theorem TI.facts (h : TI w b tb v1 v2 rs ps W) : W.cell? ⟨tb, 0, none⟩ = some v1 ∧ W.cell? ⟨tb, 1, none⟩ = some v2 ∧ (∀ o, W.frozen? ⟨tb, o, none⟩ = false) ∧ tb < W.heap.size :=
  ⟨by simp [World.cell?, h.tab], by simp [World.cell?, h.tab], fun o => by simp [World.frozen?, h.tab], h.lt⟩
theorem TI.call (h : TI w b tb v1 v2 rs ps W) (hs : SrcB w.heap.size W' b) (ho : Only b W W') : TI w b tb v1 v2 rs ps W' := by
  have hb := h.hb
  have ht := h.htb
  exact ⟨h.hb, h.htb, hs, h.fr.trans ho, (ho.block tb h.lt (by omega)).trans h.tab, (ho.block _ h.rlt (by omega)).trans h.rc, own_onlyD h.st ho (by omega), own_onlyD h.pr ho (by omega), fun r hr => own_onlyD (h.dom r hr) ho (by omega), h.ap⟩
theorem TI.below (h : TI w b tb v1 v2 rs ps W) (hb : Below W.heap.size W W') : TI w b tb v1 v2 rs ps W' := h.call (h.src.below hb) (Only.of_below hb)
theorem TI.alloc (h : TI w b tb v1 v2 rs ps W) (o : Obj) : TI w b tb v1 v2 rs ps (W.alloc o) := h.below (bA0 _ _)
theorem TI.drew (h : TI w b tb v1 v2 rs ps W) : TI w b tb v1 v2 rs ps W.drew := h.call ⟨h.src.1, h.src.2.1, h.src.2.2⟩ ((Only.refl _ _).drew)
/-- A row of another kind, above the table's variable, has grown or turned. -/
theorem TI.other (h : TI w b tb v1 v2 rs ps W) {row : Option Nat} (hg : W.grownBy W' row) (hr : ∀ j, row = some j → tb < j ∧ v1.ownBlock ≠ some j ∧ v2.ownBlock ≠ some j ∧ ∀ r ∈ rs, r.2.2.1.ownBlock ≠ some j) : TI w b tb v1 v2 rs ps W' := by
  have hb := h.hb
  have ht := h.htb
  have keep : ∀ k, k < W.heap.size → row ≠ some k → W'.heap[k]? = W.heap[k]? := fun k hk hne => hg.block k hk (fun e => hne e.symm)
  refine ⟨h.hb, h.htb, h.src.grown hg (fun j hj => by have := (hr j hj).1; omega), h.fr.grown hg (fun j hj => by have := (hr j hj).1; omega), (keep tb h.lt (fun e => by have := (hr tb e).1; omega)).trans h.tab, (keep _ h.rlt (fun e => by have := (hr _ e).1; omega)).trans h.rc, own_keep h.st (fun j hj => keep j ((h.st.lt j hj).2) (fun e => (hr j e).2.1 hj)), own_keep h.pr (fun j hj => keep j ((h.pr.lt j hj).2) (fun e => (hr j e).2.2.1 hj)), fun r hr' => own_keep (h.dom r hr') (fun j hj => keep j (((h.dom r hr').lt j hj).2) (fun e => (hr j e).2.2.2 r hr' hj)), h.ap⟩
theorem SrcB.set {B : Nat} {W : World} {b : Nat} (h : SrcB B W b) (c : Nat) (hc : B ≤ c) (o : Nat) (v : Value) : SrcB B (W.setCell ⟨c, o, none⟩ v) b :=
  h.kept (by simp [World.setCell]) (fun k hk => Below.heap_setCell _ _ _ _ (by show k ≠ c; omega))
theorem Only.setHigh {b : Nat} {u v : World} (h : Only b u v) (c : Nat) (hc : u.heap.size ≤ c) (o : Nat) (x : Value) : Only b u (v.setCell ⟨c, o, none⟩ x) :=
  ⟨h.os, h.tape, h.output, by simpa [World.setCell] using h.size, fun k hk hb => (Below.heap_setCell _ _ _ _ (by show k ≠ c; omega)).trans (h.block k hk hb)⟩
theorem own_setS {C : Nat} {e : TypeId} {m : Nat} {v : Value} {n : Nat} {xs : List Value} {W : World} (h : W.ownsRow C e m v n xs) (c : Nat) (hc : c < C) (o : Nat) (x : Value) : (W.setCell ⟨c, o, none⟩ x).ownsRow C e m v n xs :=
  own_keep h (fun j hj => Below.heap_setCell _ _ _ _ (by show j ≠ c; have := own_base h hj; omega))
/-- Stations with one more. -/
theorem TI.addS (h : TI w b tb v1 v2 rs ps W) {g cap : Nat} (r : LSt) (hg : W.grownBy W' v1.ownBlock) (ho : W'.ownsRow (tb + 1) 131 3 (.slice (some ⟨g, 0, none⟩) (rs.length + 1) cap) (rs.length + 1) (stC rs ++ [.int .i64 r.1, .int .i64 r.2.1, r.2.2.1])) (hd : W.ownsRow (tb + 1) 2 1 r.2.2.1 r.2.2.2.length (valsZ r.2.2.2)) (hap : ∀ r' ∈ rs, r'.2.2.1.ownBlock ≠ r.2.2.1.ownBlock) :
    TI w b tb (.slice (some ⟨g, 0, none⟩) (rs.length + 1) cap) v2 (rs ++ [r]) ps (W'.setCell ⟨tb, 0, none⟩ (.slice (some ⟨g, 0, none⟩) (rs.length + 1) cap)) := by
  have hb := h.hb
  have ht := h.htb
  have keep : ∀ k, k < W.heap.size → v1.ownBlock ≠ some k → W'.heap[k]? = W.heap[k]? := fun k hk hne => hg.block k hk (fun e => hne e.symm)
  have hlo : ∀ j, v1.ownBlock = some j → tb + 1 ≤ j := fun j hj => own_base h.st hj
  have d' : ∀ r' : LSt, W.ownsRow (tb + 1) 2 1 r'.2.2.1 r'.2.2.2.length (valsZ r'.2.2.2) → W'.ownsRow (tb + 1) 2 1 r'.2.2.1 r'.2.2.2.length (valsZ r'.2.2.2) := fun r' h' => own_keep h' (fun j hj => keep j (h'.lt j hj).2 (own_neD h' h.st (by decide) hj))
  refine ⟨h.hb, h.htb, (h.src.grown hg (fun j hj => by have := hlo j hj; omega)).set tb (by omega) 0 _, (h.fr.grown hg (fun j hj => by have := hlo j hj; omega)).setHigh tb (by omega) 0 _, ?_, (Below.heap_setCell _ _ _ _ (by show w.heap.size ≠ tb; omega)).trans ((keep _ h.rlt (fun e => by have := hlo _ e; omega)).trans h.rc), ?_, own_setS (own_keep h.pr (fun j hj => keep j (h.pr.lt j hj).2 (own_neD h.pr h.st (by decide) hj))) tb (by omega) 0 _, fun r' hr' => own_setS (d' r' ?_) tb (by omega) 0 _, ?_⟩
  · exact heap_setCell_same W' tb 0 _ 97 _ ((keep tb h.lt (fun e => by have := hlo tb e; omega)).trans h.tab)
  · rw [stC_add, List.length_append]
    exact own_setS ho tb (by omega) 0 _
  · rcases List.mem_append.1 hr' with hr' | hr'
    · exact h.dom r' hr'
    · simp at hr'; subst hr'; exact hd
  · rw [List.pairwise_append]
    exact ⟨h.ap, List.pairwise_singleton _ _, fun a ha c hc => by simp at hc; subst hc; exact hap a ha⟩
/-- Pairs with one more. -/
theorem TI.addP (h : TI w b tb v1 v2 rs ps W) {g cap : Nat} (p : LPr) (hg : W.grownBy W' v2.ownBlock) (ho : W'.ownsRow (tb + 1) 133 3 (.slice (some ⟨g, 0, none⟩) (ps.length + 1) cap) (ps.length + 1) (prC ps ++ [.int .i64 p.1, .int .i64 p.2.1, .int .i64 p.2.2])) :
    TI w b tb v1 (.slice (some ⟨g, 0, none⟩) (ps.length + 1) cap) rs (ps ++ [p]) (W'.setCell ⟨tb, 1, none⟩ (.slice (some ⟨g, 0, none⟩) (ps.length + 1) cap)) := by
  have hb := h.hb
  have ht := h.htb
  have keep : ∀ k, k < W.heap.size → v2.ownBlock ≠ some k → W'.heap[k]? = W.heap[k]? := fun k hk hne => hg.block k hk (fun e => hne e.symm)
  have hlo : ∀ j, v2.ownBlock = some j → tb + 1 ≤ j := fun j hj => own_base h.pr hj
  refine ⟨h.hb, h.htb, (h.src.grown hg (fun j hj => by have := hlo j hj; omega)).set tb (by omega) 1 _, (h.fr.grown hg (fun j hj => by have := hlo j hj; omega)).setHigh tb (by omega) 1 _, ?_, (Below.heap_setCell _ _ _ _ (by show w.heap.size ≠ tb; omega)).trans ((keep _ h.rlt (fun e => by have := hlo _ e; omega)).trans h.rc), own_setS (own_keep h.st (fun j hj => keep j (h.st.lt j hj).2 (own_neD h.st h.pr (by decide) hj))) tb (by omega) 1 _, ?_, fun r' hr' => own_setS (own_keep (h.dom r' hr') (fun j hj => keep j ((h.dom r' hr').lt j hj).2 (own_neD (h.dom r' hr') h.pr (by decide) hj))) tb (by omega) 1 _, h.ap⟩
  · exact heap_setCell_same W' tb 1 _ 97 _ ((keep tb h.lt (fun e => by have := hlo tb e; omega)).trans h.tab)
  · rw [prC_add, List.length_append]
    exact own_setS ho tb (by omega) 1 _
theorem own3_cells {C : Nat} {e : TypeId} {v : Value} {n : Nat} {xs : List Value} {W : World} (h : W.ownsRow C e 3 v n xs) (hn : 0 < n) : ∃ g cap, v = .slice (some ⟨g, 0, none⟩) n cap ∧ C ≤ g ∧ g < W.heap.size ∧ n ≤ cap ∧ ∀ j u, xs[j]? = some u → W.cell? ⟨g, j, none⟩ = some u ∧ W.frozen? ⟨g, j, none⟩ = false := by
  rcases h.2 with ⟨_, rfl⟩ | ⟨g, cap, cur, rfl, hg, hh, hc, _, _, ht⟩
  · omega
  · refine ⟨g, cap, rfl, hg, (Array.getElem?_eq_some_iff.1 hh).1, hc, fun j u hu => ?_⟩
    rw [← ht] at hu
    have hu' : cur[j]? = some u := by
      rw [List.getElem?_take] at hu
      split at hu
      · simpa using hu
      · cases hu
    exact ⟨by simp [World.cell?, hh, hu'], by simp [World.frozen?, hh]⟩
theorem stC_at (rs : List LSt) (i : Nat) (h : i < rs.length) : (stC rs)[i * 3]? = some (.int .i64 rs[i].1) ∧ (stC rs)[i * 3 + 1]? = some (.int .i64 rs[i].2.1) ∧ (stC rs)[i * 3 + 2]? = some rs[i].2.2.1 := flat3_at (fun r : LSt => (.int .i64 r.1, .int .i64 r.2.1, r.2.2.1)) rs i h
theorem prC_at (ps : List LPr) (i : Nat) (h : i < ps.length) : (prC ps)[i * 3]? = some (.int .i64 ps[i].1) ∧ (prC ps)[i * 3 + 1]? = some (.int .i64 ps[i].2.1) ∧ (prC ps)[i * 3 + 2]? = some (.int .i64 ps[i].2.2) := flat3_at (fun r : LPr => (.int .i64 r.1, .int .i64 r.2.1, .int .i64 r.2.2)) ps i h
theorem own_sts {C : Nat} {v : Value} {rs : List LSt} {W : World} (h : W.ownsRow C 131 3 v rs.length (stC rs)) : ∃ sl cap, v = .slice sl rs.length cap ∧ (rs = [] ∨ ∃ c o, sl = some ⟨c, o, none⟩ ∧ StAt W c o rs) := by
  by_cases hn : 0 < rs.length
  · obtain ⟨g, cap, e, _, hl, _, hc⟩ := own3_cells h hn
    refine ⟨_, cap, e, .inr ⟨g, 0, rfl, hl, fun i hi => ?_⟩⟩
    obtain ⟨a, b, c⟩ := stC_at rs i hi
    exact ⟨by simpa using (hc _ _ a).1, by simpa using (hc _ _ b).1, by simpa using (hc _ _ c).1⟩
  · have e : rs = [] := by cases rs; rfl; simp at hn
    subst e
    obtain ⟨sl, cap, hv⟩ := own_v h
    exact ⟨sl, cap, hv, .inl rfl⟩
theorem own_prs {C : Nat} {v : Value} {rs : List LPr} {W : World} (h : W.ownsRow C 133 3 v rs.length (prC rs)) : ∃ sl cap, v = .slice sl rs.length cap ∧ Prs W sl rs := by
  by_cases hn : 0 < rs.length
  · obtain ⟨g, cap, e, _, hl, _, hc⟩ := own3_cells h hn
    refine ⟨_, cap, e, .inr ⟨g, 0, rfl, hl, fun i hi => ?_⟩⟩
    obtain ⟨a, b, c⟩ := prC_at rs i hi
    exact ⟨by simpa using (hc _ _ a).1, by simpa using (hc _ _ b).1, by simpa using (hc _ _ c).1⟩
  · have e : rs = [] := by cases rs; rfl; simp at hn
    subst e
    obtain ⟨sl, cap, hv⟩ := own_v h
    exact ⟨sl, cap, hv, .inl rfl⟩
end


theorem own3_set {C g n cap : Nat} {e : TypeId} {xs : List Value} {W : World} (h : W.ownsRow C e 3 (.slice (some ⟨g, 0, none⟩) n cap) n xs) (i : Nat) (x : Value) : (W.setCell ⟨g, i, none⟩ x).ownsRow C e 3 (.slice (some ⟨g, 0, none⟩) n cap) n (xs.set i x) := by
  refine ⟨by rw [List.length_set]; exact h.1, ?_⟩
  rcases h.2 with ⟨h, _⟩ | ⟨g', cap', cur, hv, hg, hh, hc, hm, hs, ht⟩
  · cases h
  · cases hv
    refine .inr ⟨g, cap, cur.setIfInBounds i x, rfl, hg, heap_setCell_same W g i cur e x hh, hc, hm, by simpa using hs, ?_⟩
    rw [Array.toList_setIfInBounds, List.take_set, ht]
theorem stC_set (rs : List LSt) (j : Nat) (h : j < rs.length) (r : LSt) : stC (rs.set j r) = (((stC rs).set (j * 3) (.int .i64 r.1)).set (j * 3 + 1) (.int .i64 r.2.1)).set (j * 3 + 2) r.2.2.1 := by
  induction rs generalizing j with
  | nil => simp at h
  | cons a t ih =>
    cases j with
    | zero => simp [stC]
    | succ j =>
      have h' : j < t.length := by simpa using h
      have := ih j h'
      unfold stC at this ⊢
      rw [List.set_cons_succ, List.flatMap_cons, List.flatMap_cons, this]
      rw [show (j + 1) * 3 = j * 3 + 3 by omega, show j * 3 + 3 + 1 = (j * 3 + 1) + 3 by omega, show j * 3 + 3 + 2 = (j * 3 + 2) + 3 by omega]
      rfl
theorem set_selfS {l : List Value} {i : Nat} {v : Value} (h : l[i]? = some v) : l.set i v = l := by
  obtain ⟨hi, e⟩ := List.getElem?_eq_some_iff.1 h
  rw [← e]
  exact List.set_getElem_self hi
theorem stC_id (rs : List LSt) (j : Nat) (h : j < rs.length) (x : Int) : stC (rs.set j (x, rs[j].2)) = (stC rs).set (j * 3) (.int .i64 x) := by
  obtain ⟨a, b, c⟩ := stC_at rs j h
  rw [stC_set rs j h]
  dsimp only
  rw [set_selfS (l := (stC rs).set (j * 3) _) (i := j * 3 + 1) (by rw [List.getElem?_set_ne (by omega)]; exact b), set_selfS (by rw [List.getElem?_set_ne (by omega)]; exact c)]
theorem stC_sc (rs : List LSt) (j : Nat) (h : j < rs.length) (x : Int) : stC (rs.set j (rs[j].1, x, rs[j].2.2)) = (stC rs).set (j * 3 + 1) (.int .i64 x) := by
  obtain ⟨a, b, c⟩ := stC_at rs j h
  rw [stC_set rs j h]
  dsimp only
  rw [set_selfS a, set_selfS (by rw [List.getElem?_set_ne (by omega)]; exact c)]
theorem stC_dom (rs : List LSt) (j : Nat) (h : j < rs.length) (d : Value) (zs : List Int) : stC (rs.set j (rs[j].1, rs[j].2.1, d, zs)) = (stC rs).set (j * 3 + 2) d := by
  obtain ⟨a, b, c⟩ := stC_at rs j h
  rw [stC_set rs j h]
  dsimp only
  rw [set_selfS a, set_selfS b]

section
variable {w : World} {b tb : Nat} {v1 v2 : Value} {rs : List LSt} {ps : List LPr} {W W' : World}
/-- A number of a station turned. -/
theorem TI.setI {g n cap : Nat} (h : TI w b tb (.slice (some ⟨g, 0, none⟩) n cap) v2 rs ps W) (j : Nat) (hj : j < rs.length) (o : Nat) (x : Value) (r : LSt) (hr : r.2.2 = rs[j].2.2) (hs : stC (rs.set j r) = (stC rs).set (j * 3 + o) x) :
    TI w b tb (.slice (some ⟨g, 0, none⟩) n cap) v2 (rs.set j r) ps (W.setCell ⟨g, j * 3 + o, none⟩ x) := by
  have hn : n = rs.length := by
    rcases h.st.2 with ⟨e, _⟩ | ⟨_, _, _, e, _⟩
    · cases e
    · cases e; rfl
  subst hn
  have hgl : tb + 1 ≤ g := own_base h.st rfl
  have hb := h.hb
  have ht := h.htb
  have hmem : ∀ r' ∈ rs.set j r, ∃ r0 ∈ rs, r0.2.2 = r'.2.2 := fun r' hr' => by
    obtain ⟨i, hi, rfl⟩ := List.getElem_of_mem hr'
    rw [List.length_set] at hi
    rw [List.getElem_set]
    split
    · exact ⟨rs[j], List.getElem_mem hj, hr.symm⟩
    · exact ⟨rs[i], List.getElem_mem hi, rfl⟩
  refine ⟨hb, ht, h.src.set g (by omega) _ _, h.fr.setHigh g (by omega) _ _, (Below.heap_setCell _ _ _ _ (by show tb ≠ g; omega)).trans h.tab, (Below.heap_setCell _ _ _ _ (by show w.heap.size ≠ g; omega)).trans h.rc, ?_, own_keep h.pr (fun i hi => Below.heap_setCell _ _ _ _ (by show i ≠ g; intro e; subst e; exact own_neD h.pr h.st (by decide) hi rfl)), fun r' hr' => ?_, ?_⟩
  · rw [List.length_set, hs]
    exact own3_set h.st _ _
  · obtain ⟨r0, h0, e⟩ := hmem r' hr'
    have := h.dom r0 h0
    rw [e] at this
    exact own_keep this (fun i hi => Below.heap_setCell _ _ _ _ (by show i ≠ g; intro e; subst e; exact own_neD this h.st (by decide) hi rfl))
  · have e : (rs.set j r).map (fun r => r.2.2.1.ownBlock) = rs.map (fun r => r.2.2.1.ownBlock) := by
      rw [List.map_set, hr]
      apply List.ext_getElem
      · simp
      · intro i h1 h2
        rw [List.getElem_set]
        split
        · rename_i e; subst e; simp
        · rfl
    have := h.ap
    rw [← List.pairwise_map (f := fun r : LSt => r.2.2.1.ownBlock) (R := fun a c => a ≠ c)] at this ⊢
    rwa [e]
/-- A station's domain turned. -/
theorem TI.setD {g n cap : Nat} (h : TI w b tb (.slice (some ⟨g, 0, none⟩) n cap) v2 rs ps W) (j : Nat) (hj : j < rs.length) (d : Value) (zs : List Int) {row : Option Nat} (hg : W.grownBy W' row) (hrow : ∀ k, row = some k → rs[j].2.2.1.ownBlock = some k) (ho : W'.ownsRow (tb + 1) 2 1 d zs.length (valsZ zs)) (hd : ∃ k, d.ownBlock = some k ∧ (rs[j].2.2.1.ownBlock = some k ∨ W.heap.size ≤ k)) :
    TI w b tb (.slice (some ⟨g, 0, none⟩) n cap) v2 (rs.set j (rs[j].1, rs[j].2.1, d, zs)) ps (W'.setCell ⟨g, j * 3 + 2, none⟩ d) := by
  have hn : n = rs.length := by
    rcases h.st.2 with ⟨e, _⟩ | ⟨_, _, _, e, _⟩
    · cases e
    · cases e; rfl
  subst hn
  have hgl : tb + 1 ≤ g := own_base h.st rfl
  have hb := h.hb
  have ht := h.htb
  have hdj := h.dom rs[j] (List.getElem_mem hj)
  have keep : ∀ k, k < W.heap.size → rs[j].2.2.1.ownBlock ≠ some k → W'.heap[k]? = W.heap[k]? := fun k hk hne => hg.block k hk (fun e => hne (hrow k e.symm))
  have hlo : ∀ k, row = some k → tb + 1 ≤ k := fun k hk => own_base hdj (hrow k hk)
  have hne : ∀ i (hi : i < rs.length), i ≠ j → rs[i].2.2.1.ownBlock ≠ rs[j].2.2.1.ownBlock := fun i hi hij => by
    have := List.pairwise_iff_getElem.1 h.ap
    rcases Nat.lt_or_gt_of_ne hij with l | l
    · exact this i j hi hj l
    · exact (this j i hj hi l).symm
  have st' : W'.ownsRow (tb + 1) 131 3 (.slice (some ⟨g, 0, none⟩) rs.length cap) rs.length (stC rs) := own_keep h.st (fun k hk => keep k (h.st.lt k hk).2 (fun e => own_neD hdj h.st (by decide) e hk))
  have hi' : ∀ i (hi : i < rs.length), i ≠ j → W'.ownsRow (tb + 1) 2 1 rs[i].2.2.1 rs[i].2.2.2.length (valsZ rs[i].2.2.2) := fun i hi hij => own_keep (h.dom rs[i] (List.getElem_mem hi)) (fun k hk => keep k ((h.dom rs[i] (List.getElem_mem hi)).lt k hk).2 (fun e => hne i hi hij (hk.trans e.symm)))
  refine ⟨hb, ht, (h.src.grown hg (fun k hk => by have := hlo k hk; omega)).set g (by omega) _ _, (h.fr.grown hg (fun k hk => by have := hlo k hk; omega)).setHigh g (by omega) _ _, (Below.heap_setCell _ _ _ _ (by show tb ≠ g; omega)).trans ((keep tb h.lt (fun e => by have := own_base hdj e; omega)).trans h.tab), (Below.heap_setCell _ _ _ _ (by show w.heap.size ≠ g; omega)).trans ((keep _ h.rlt (fun e => by have := own_base hdj e; omega)).trans h.rc), ?_, own_keep h.pr (fun i hi => (Below.heap_setCell _ _ _ _ (by show i ≠ g; intro e; subst e; exact own_neD h.pr h.st (by decide) hi rfl)).trans (keep i (h.pr.lt i hi).2 (fun e => own_neD h.pr hdj (by decide) hi e))), fun r' hr' => ?_, ?_⟩
  · rw [List.length_set, stC_dom rs j hj]
    exact own3_set st' _ _
  · have key : ∀ r0 : LSt, W'.ownsRow (tb + 1) 2 1 r0.2.2.1 r0.2.2.2.length (valsZ r0.2.2.2) → (W'.setCell ⟨g, j * 3 + 2, none⟩ d).ownsRow (tb + 1) 2 1 r0.2.2.1 r0.2.2.2.length (valsZ r0.2.2.2) := fun r0 h0 => own_keep h0 (fun i hi => Below.heap_setCell _ _ _ _ (by show i ≠ g; intro e; subst e; exact own_neD h0 st' (by decide) hi rfl))
    obtain ⟨i, hi, rfl⟩ := List.getElem_of_mem hr'
    rw [List.length_set] at hi
    rw [List.getElem_set]
    split
    · exact key _ ho
    · rename_i e; exact key _ (hi' i hi (fun e' => e e'.symm))
  · rw [List.pairwise_iff_getElem]
    intro i k hi hk hik
    rw [List.length_set] at hi hk
    rw [List.getElem_set, List.getElem_set]
    have low : ∀ i (hi : i < rs.length) m, rs[i].2.2.1.ownBlock = some m → m < W.heap.size := fun i hi m hm => ((h.dom rs[i] (List.getElem_mem hi)).lt m hm).2
    obtain ⟨m, hm, hm2⟩ := hd
    have ne' : ∀ i (hi : i < rs.length), i ≠ j → rs[i].2.2.1.ownBlock ≠ d.ownBlock := fun i hi hij e2 => by
      rw [hm] at e2
      rcases hm2 with e3 | e3
      · exact hne i hi hij (e2.trans e3.symm)
      · have := low i hi m e2; omega
    split
    · rename_i e1
      split
      · rename_i e2; omega
      · rename_i e2; exact (ne' k hk (fun e => e2 e.symm)).symm
    · rename_i e1
      split
      · exact ne' i hi (fun e => e1 e.symm)
      · exact List.pairwise_iff_getElem.1 h.ap i k hi hk hik
/-- What a drawn table is. -/
def LtPost (b : Nat) (w : World) (e : Ending) (w' : World) : Prop :=
  ∃ sl cap sl2 cap2 rs ps, e = .returned (TV sl (List.length rs) cap sl2 (List.length ps) cap2) ∧ rs.length ≤ 14 ∧ ps.length ≤ 41 ∧ (∀ p ∈ ps, WfP p) ∧ Src w' b ∧ Only b w w' ∧ ∀ W', w'.heap.size ≤ W'.heap.size → (∀ k, w.heap.size ≤ k → k < w'.heap.size → W'.heap[k]? = w'.heap[k]?) → Sts W' sl rs ∧ Prs W' sl2 ps
end


theorem owc_onlyD {B : Nat} {v : Value} {cs : List LCl} {b : Nat} {w w' : World} (h : OwC w B v cs) (ho : Only b w w') (hb : b < B) : OwC w' B v cs :=
  ⟨own_onlyD h.row ho hb, fun r hr => own_onlyD (h.each r hr) ho hb, h.diff⟩

/-- A Cnf that is being drawn: block O holds it, block w.heap.size will be the answer's. -/
structure CD (w : World) (B b O : Nat) (V : Int) (v : Value) (cs : List LCl) (W : World) : Prop where
  src : SrcB B W b
  only : Only b w W
  res : W.heap[w.heap.size]? = some (.cells #[.int .i64 0, .slice none 0 0] 25)
  out : W.heap[O]? = some (.cells #[.int .i64 V, v] 25)
  oc : OwC W w.heap.size v cs
  hB : B ≤ w.heap.size
  hO : w.heap.size < O
section
variable {w : World} {B b O : Nat} {V : Int} {v : Value} {cs : List LCl} {W W' : World}
theorem CD.bb (h : CD w B b O V v cs W) : b < w.heap.size := Nat.lt_of_lt_of_le h.src.1 h.hB
theorem CD.below (h : CD w B b O V v cs W) (hb : Below W.heap.size W W') : CD w B b O V v cs W' :=
  ⟨h.src.below hb, h.only.trans (Only.of_below hb), (hb.block _ (Array.getElem?_eq_some_iff.1 h.res).1).trans h.res, (hb.block _ (Array.getElem?_eq_some_iff.1 h.out).1).trans h.out, h.oc.below hb, h.hB, h.hO⟩
/-- Something was drawn. -/
theorem CD.draw (h : CD w B b O V v cs W) (hs : SrcB B W' b) (ho : Only b W W') : CD w B b O V v cs W' := by
  have h1 := h.bb
  have h2 := h.hO
  exact ⟨hs, h.only.trans ho, (ho.block _ (Array.getElem?_eq_some_iff.1 h.res).1 (by omega)).trans h.res, (ho.block _ (Array.getElem?_eq_some_iff.1 h.out).1 (by omega)).trans h.out, owc_onlyD h.oc ho h1, h.hB, h.hO⟩
theorem CD.facts (h : CD w B b O V v cs W) : O < W.heap.size ∧ W.cell? ⟨O, 0, none⟩ = some (.int .i64 V) ∧ W.cell? ⟨O, 1, none⟩ = some v ∧ W.frozen? ⟨O, 0, none⟩ = false ∧ W.frozen? ⟨O, 1, none⟩ = false ∧ w.heap.size < W.heap.size ∧ W.cell? ⟨w.heap.size, 0, none⟩ = some (.int .i64 0) ∧ W.cell? ⟨w.heap.size, 1, none⟩ = some (.slice none 0 0) ∧ W.frozen? ⟨w.heap.size, 0, none⟩ = false ∧ W.frozen? ⟨w.heap.size, 1, none⟩ = false := by
  have h1 := h.out
  have h2 := h.res
  exact ⟨(Array.getElem?_eq_some_iff.1 h1).1, by simp [World.cell?, h1], by simp [World.cell?, h1], by simp [World.frozen?, h1], by simp [World.frozen?, h1], (Array.getElem?_eq_some_iff.1 h2).1, by simp [World.cell?, h2], by simp [World.cell?, h2], by simp [World.frozen?, h2], by simp [World.frozen?, h2]⟩
/-- Another number of variables. -/
theorem CD.vars (h : CD w B b O V v cs W) (x : Int) : CD w B b O x v cs (W.setCell ⟨O, 0, none⟩ (.int .i64 x)) := by
  have h1 := h.bb
  have h2 := h.hO
  have h3 := h.hB
  exact ⟨h.src.set O (by omega) 0 _, h.only.setHigh O (by omega) 0 _, (Below.heap_setCell _ _ _ _ (by show w.heap.size ≠ O; omega)).trans h.res, heap_setCell_same W O 0 _ 25 _ h.out, owc_box h.oc h.out (by decide) (by decide) 0 _, h.hB, h.hO⟩
/-- One clause more. -/
theorem CD.add (h : CD w B b O V v cs W) {r : LCl} {v' : Value} (hr : W.ownsRow w.heap.size 2 1 r.1 r.2.length (valsZ r.2)) (hf : ∀ j, r.1.ownBlock = some j → ∀ s ∈ cs, s.1.ownBlock ≠ some j) (hg : W.grownBy W' v.ownBlock) (ho : W'.ownsRow w.heap.size 26 1 v' (cs.length + 1) (hdC cs ++ [r.1])) :
    CD w B b O V v' (cs ++ [r]) (W'.setCell ⟨O, 1, none⟩ v') := by
  have h1 := h.bb
  have h2 := h.hO
  have h3 := h.hB
  have rowlo : ∀ j, v.ownBlock = some j → w.heap.size ≤ j := fun j hj => (h.oc.row.lt j hj).1
  have key : ∀ (k : Nat) (us : Array Value), W.heap[k]? = some (.cells us 25) → W'.heap[k]? = some (.cells us 25) := fun k us hk =>
    (hg.block k (Array.getElem?_eq_some_iff.1 hk).1 (fun e' => by
      obtain ⟨cur, hc⟩ := own_kind h.oc.row e'.symm
      rw [hk] at hc
      cases hc)).trans hk
  have oc := h.oc.add (Below.refl _ _) hr hf hg ho
  refine ⟨(h.src.grown hg (fun g hg' => by have := rowlo g hg'; omega)).set O (by omega) 1 _, (h.only.grown hg rowlo).setHigh O (by omega) 1 _, (Below.heap_setCell _ _ _ _ (by show w.heap.size ≠ O; omega)).trans (key _ _ h.res), heap_setCell_same W' O 1 _ 25 _ (key _ _ h.out), owc_box oc (key _ _ h.out) (by decide) (by decide) 1 _, h.hB, h.hO⟩
end
end Go.Proofs.YtoobcodlgajieaaDoor
