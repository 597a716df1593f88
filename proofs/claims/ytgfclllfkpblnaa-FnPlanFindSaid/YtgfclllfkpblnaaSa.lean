/-
  THE DRAWS: a source of numbers.
-/
import Derived.Test.YtgfclllfkpblnaaAz
import Derived.Deep.QuietTactic
import Derived.BigQuiet
import Derived.RegionTactic
import Derived.ChangeAlike
namespace Go.Proofs.Ytgfclllfkpblnaa
open Go.RowKit
set_option linter.unusedVariables false

def SrcAt (w : World) (b : Nat) (sl : Option Addr) (len cap k : Nat) (mix sz : Int) : Prop :=
  w.heap[b]? = some (.cells #[.slice sl len cap, .int .i64 k, .int .u64 mix, .int .i64 sz] 65)

theorem SrcAt.cells {w : World} {b : Nat} {sl : Option Addr} {len cap k : Nat} {mix sz : Int} (h : SrcAt w b sl len cap k mix sz) :
    w.cell? ⟨b, 0, none⟩ = some (.slice sl len cap) ∧ w.cell? ⟨b, 1, none⟩ = some (.int .i64 k) ∧ w.cell? ⟨b, 2, none⟩ = some (.int .u64 mix) ∧ w.cell? ⟨b, 3, none⟩ = some (.int .i64 sz) ∧ (∀ o, w.frozen? ⟨b, o, none⟩ = false) := by
  unfold SrcAt at h
  refine ⟨?_, ?_, ?_, ?_, fun o => ?_⟩ <;> simp [World.cell?, World.frozen?, h]

theorem SrcAt.store1 {w : World} {b : Nat} {sl : Option Addr} {len cap k : Nat} {mix sz : Int} (h : SrcAt w b sl len cap k mix sz) (n k' : Nat) :
    SrcAt ((w.drewN n).setCell ⟨b, 1, none⟩ (.int .i64 k')) b sl len cap k' mix sz ∧ Only b w ((w.drewN n).setCell ⟨b, 1, none⟩ (.int .i64 k')) :=
  ⟨heap_setCell_same (w.drewN n) b 1 _ 65 _ h, ((Only.refl b w).drewN n).setCell _ _⟩
theorem SrcAt.next {w : World} {b : Nat} {sl : Option Addr} {len cap k : Nat} {mix sz : Int} (h : SrcAt w b sl len cap k mix sz) (n : Nat) :
    SrcAt ((w.drewN n).setCell ⟨b, 1, none⟩ (.int .i64 ((k : Int) + 1))) b sl len cap (k + 1) mix sz ∧ Only b w ((w.drewN n).setCell ⟨b, 1, none⟩ (.int .i64 ((k : Int) + 1))) :=
  h.store1 n (k + 1)
theorem SrcAt.store2 {w : World} {b : Nat} {sl : Option Addr} {len cap k : Nat} {mix sz : Int} (h : SrcAt w b sl len cap k mix sz) (n : Nat) (v : Int) :
    SrcAt ((w.drewN n).setCell ⟨b, 2, none⟩ (.int .u64 v)) b sl len cap k v sz ∧ Only b w ((w.drewN n).setCell ⟨b, 2, none⟩ (.int .u64 v)) :=
  ⟨heap_setCell_same (w.drewN n) b 2 _ 65 _ h, ((Only.refl b w).drewN n).setCell _ _⟩
theorem SrcAt.store2' {w : World} {b : Nat} {sl : Option Addr} {len cap k : Nat} {mix sz : Int} (h : SrcAt w b sl len cap k mix sz) (v : Int) :
    SrcAt (w.setCell ⟨b, 2, none⟩ (.int .u64 v)).drew b sl len cap k v sz ∧ Only b w (w.setCell ⟨b, 2, none⟩ (.int .u64 v)).drew :=
  ⟨heap_setCell_same w b 2 _ 65 _ h, ((Only.refl b w).setCell _ _).drew⟩
theorem SrcAt.drewN {w : World} {b : Nat} {sl : Option Addr} {len cap k : Nat} {mix sz : Int} (h : SrcAt w b sl len cap k mix sz) (n : Nat) : SrcAt (w.drewN n) b sl len cap k mix sz := h

/-- The bytes behind the source lie elsewhere and can be read. -/
def BytesAt (w : World) (b : Nat) (sl : Option Addr) (len : Nat) : Prop :=
  ∀ i, i < len → ∃ c o : Nat, ∃ z : Int, sl = some ⟨c, o, none⟩ ∧ c ≠ b ∧ c < w.heap.size ∧ 0 ≤ z ∧ z ≤ 255 ∧ w.cell? ⟨c, o + i, none⟩ = some (.int .u8 z)

theorem BytesAt.only {w w' : World} {b : Nat} {sl : Option Addr} {len : Nat} (h : BytesAt w b sl len) (ho : Only b w w') : BytesAt w' b sl len := by
  intro i hi
  obtain ⟨c, o, z, e, hc, hs, z1, z2, hz⟩ := h i hi
  exact ⟨c, o, z, e, hc, Nat.lt_of_lt_of_le hs ho.size, z1, z2, (ho.cell hs hc).trans hz⟩

def Src (w : World) (b : Nat) : Prop :=
  ∃ (sl : Option Addr) (len cap k : Nat) (mix sz : Int), SrcAt w b sl len cap k mix sz ∧ BytesAt w b sl len ∧ k ≤ len ∧ len ≤ maxLen ∧ 0 ≤ mix ∧ mix < 18446744073709551616 ∧ 0 ≤ sz ∧ sz ≤ 12 ∧ b < w.heap.size

theorem bits_lt (op : BinOp) (x y : Int) : 0 ≤ bits op .u64 x y ∧ bits op .u64 x y < 18446744073709551616 := by
  unfold bits; rw [IntKind.wrap_u64]; omega
theorem wrap_lt (n : Int) : 0 ≤ IntKind.u64.wrap n ∧ IntKind.u64.wrap n < 18446744073709551616 := by rw [IntKind.wrap_u64]; omega

theorem wr64 (x : Int) (h0 : 0 ≤ x) (h1 : x < 9223372036854775808) : wrap64 x = x := by unfold wrap64; omega

set_option maxHeartbeats 400000 in
theorem n_small (p : Value) (m : Int) (hm : m ≤ 1) (w : World) :
    Calls Try.prog 18 #[p, .int .i64 m] w fun e w' => e = .returned (.int .i64 0) ∧ w' = w := by
  go_enter Try.func18, Try.ntmps18
  go_wp2
  go_ret
  exact ⟨rfl, rfl⟩

set_option maxHeartbeats 1000000 in
theorem n_late (b : Nat) (sl : Option Addr) (len cap : Nat) (k : Nat) (mix m sz : Int) (w : World) (hm : 1 < m) (hM : m ≤ 9223372036854775807) (hk : len ≤ k) (hm1 : 0 ≤ mix) (hm2 : mix < 18446744073709551616) (hs : SrcAt w b sl len cap k mix sz) :
    Calls Try.prog 18 #[.pointer (some ⟨b, 0, none⟩), .int .i64 m] w fun e w' => ∃ r mix' : Int, e = .returned (.int .i64 r) ∧ 0 ≤ r ∧ r < m ∧ 0 ≤ mix' ∧ mix' < 18446744073709551616 ∧ SrcAt w' b sl len cap k mix' sz ∧ Only b w w' := by
  have hlt : ¬ ((k : Int) < (len : Int)) := by omega
  have hd : decide ((k : Int) < (len : Int)) = false := decide_eq_false hlt
  have HS : Hid (SrcAt w b sl len cap k mix sz) := hs
  obtain ⟨c0, c1, c2, c3, f⟩ := hs.cells
  clear hs
  go_enter Try.func18, Try.ntmps18
  go_wp2
  go_quiet (fail)
  go_wp2
  go_region
  generalize hv1 : bits .xor .u64 mix (IntKind.u64.wrap (mix * 8192)) = v1
  obtain ⟨s1, o1⟩ := SrcAt.store2 HS.out (nq + 1) v1
  generalize (w.drewN (nq + 1)).setCell ⟨b, 2, none⟩ (.int .u64 v1) = w1 at *
  obtain ⟨v1a, v1b⟩ : 0 ≤ v1 ∧ v1 < 18446744073709551616 := by rw [← hv1]; exact bits_lt _ _ _
  clear hv1 c0 c1 c2 c3 f HS
  obtain ⟨c0, c1, c2, c3, f⟩ := s1.cells
  have HS : Hid (SrcAt w1 b sl len cap k v1 sz) := s1
  clear s1
  go_wp2
  go_region
  generalize hv2 : bits .xor .u64 v1 (v1 / 128) = v2
  obtain ⟨s2, o2⟩ := SrcAt.store2' HS.out v2
  generalize (w1.setCell ⟨b, 2, none⟩ (.int .u64 v2)).drew = w2 at *
  obtain ⟨v2a, v2b⟩ : 0 ≤ v2 ∧ v2 < 18446744073709551616 := by rw [← hv2]; exact bits_lt _ _ _
  clear hv2 c0 c1 c2 c3 f HS
  obtain ⟨c0, c1, c2, c3, f⟩ := s2.cells
  have HS : Hid (SrcAt w2 b sl len cap k v2 sz) := s2
  clear s2
  go_wp2
  go_region
  generalize hv3 : bits .xor .u64 v2 (IntKind.u64.wrap (v2 * 131072)) = v3
  obtain ⟨s3, o3⟩ := SrcAt.store2' HS.out v3
  generalize (w2.setCell ⟨b, 2, none⟩ (.int .u64 v3)).drew = w3 at *
  obtain ⟨v3a, v3b⟩ : 0 ≤ v3 ∧ v3 < 18446744073709551616 := by rw [← hv3]; exact bits_lt _ _ _
  clear hv3 c0 c1 c2 c3 f HS
  obtain ⟨c0, c1, c2, c3, f⟩ := s3.cells
  have HS : Hid (SrcAt w3 b sl len cap k v3 sz) := s3
  clear s3
  have O3 : Hid (Only b w w3) := (o1.trans o2).trans o3
  clear o1 o2 o3
  go_wp2
  go_ret
  have r1 : 0 ≤ v3 / 1048576 % m := Int.emod_nonneg _ (by omega)
  have r2 : v3 / 1048576 % m < m := Int.emod_lt_of_pos _ (by omega)
  exact ⟨_, v3, rfl, by rw [wr64 _ r1 (by omega)]; exact r1, by rw [wr64 _ r1 (by omega)]; exact r2, v3a, v3b, HS.out, O3.out⟩

set_option maxHeartbeats 1000000 in
theorem n_early (b : Nat) (c o : Nat) (len cap : Nat) (k : Nat) (mix m sz z : Int) (w : World) (hm : 1 < m) (hM : m ≤ 9223372036854775807) (hk : k < len) (hl : len ≤ maxLen) (hm1 : 0 ≤ mix) (hm2 : mix < 18446744073709551616) (hs : SrcAt w b (some ⟨c, o, none⟩) len cap k mix sz) (hz1 : 0 ≤ z) (hz2 : z ≤ 255) (hz : w.cell? ⟨c, o + k, none⟩ = some (.int .u8 z)) :
    Calls Try.prog 18 #[.pointer (some ⟨b, 0, none⟩), .int .i64 m] w fun e w' => ∃ r mix' : Int, e = .returned (.int .i64 r) ∧ 0 ≤ r ∧ r < m ∧ 0 ≤ mix' ∧ mix' < 18446744073709551616 ∧ SrcAt w' b (some ⟨c, o, none⟩) len cap (k + 1) mix' sz ∧ Only b w w' := by
  unfold maxLen at hl
  have hlt : ((k : Int) < (len : Int)) := by omega
  have hd : decide ((k : Int) < (len : Int)) = true := decide_eq_true hlt
  have hk0 : (0 : Int) ≤ (k : Int) := by omega
  have HS : Hid (SrcAt w b (some ⟨c, o, none⟩) len cap k mix sz) := hs
  obtain ⟨c0, c1, c2, c3, f⟩ := hs.cells
  clear hs
  go_enter Try.func18, Try.ntmps18
  go_wp2
  go_quiet (fail)
  revert nq; intro nq0
  go_wp2
  go_quiet (fail)
  go_wp2
  obtain ⟨s0, o0⟩ := SrcAt.next HS.out (nq0 + nq)
  generalize (w.drewN (nq0 + nq)).setCell ⟨b, 1, none⟩ (.int .i64 ((k : Int) + 1)) = w0 at *
  clear c0 c1 c2 c3 f HS hz
  obtain ⟨c0, c1, c2, c3, f⟩ := s0.cells
  have HS : Hid (SrcAt w0 b (some ⟨c, o, none⟩) len cap (k + 1) mix sz) := s0
  have O0 : Hid (Only b w w0) := o0
  clear s0 o0
  go_region
  generalize hv1 : bits .xor .u64 mix (IntKind.u64.wrap (mix * 8192)) = v1
  obtain ⟨s1, o1⟩ := SrcAt.store2' HS.out v1
  generalize (w0.setCell ⟨b, 2, none⟩ (.int .u64 v1)).drew = w1 at *
  obtain ⟨v1a, v1b⟩ : 0 ≤ v1 ∧ v1 < 18446744073709551616 := by rw [← hv1]; exact bits_lt _ _ _
  clear hv1 c0 c1 c2 c3 f HS
  obtain ⟨c0, c1, c2, c3, f⟩ := s1.cells
  have HS : Hid (SrcAt w1 b (some ⟨c, o, none⟩) len cap (k + 1) v1 sz) := s1
  clear s1
  go_wp2
  go_region
  generalize hv2 : bits .xor .u64 v1 (v1 / 128) = v2
  obtain ⟨s2, o2⟩ := SrcAt.store2' HS.out v2
  generalize (w1.setCell ⟨b, 2, none⟩ (.int .u64 v2)).drew = w2 at *
  obtain ⟨v2a, v2b⟩ : 0 ≤ v2 ∧ v2 < 18446744073709551616 := by rw [← hv2]; exact bits_lt _ _ _
  clear hv2 c0 c1 c2 c3 f HS
  obtain ⟨c0, c1, c2, c3, f⟩ := s2.cells
  have HS : Hid (SrcAt w2 b (some ⟨c, o, none⟩) len cap (k + 1) v2 sz) := s2
  clear s2
  go_wp2
  go_region
  generalize hv3 : bits .xor .u64 v2 (IntKind.u64.wrap (v2 * 131072)) = v3
  obtain ⟨s3, o3⟩ := SrcAt.store2' HS.out v3
  generalize (w2.setCell ⟨b, 2, none⟩ (.int .u64 v3)).drew = w3 at *
  obtain ⟨v3a, v3b⟩ : 0 ≤ v3 ∧ v3 < 18446744073709551616 := by rw [← hv3]; exact bits_lt _ _ _
  clear hv3 c0 c1 c2 c3 f HS
  obtain ⟨c0, c1, c2, c3, f⟩ := s3.cells
  have HS : Hid (SrcAt w3 b (some ⟨c, o, none⟩) len cap (k + 1) v3 sz) := s3
  clear s3
  have O3 : Hid (Only b w w3) := ((O0.out.trans o1).trans o2).trans o3
  clear o1 o2 o3 O0
  go_wp2
  go_ret
  have r1 : 0 ≤ (z + v3 / 1048576) % m := Int.emod_nonneg _ (by omega)
  have r2 : (z + v3 / 1048576) % m < m := Int.emod_lt_of_pos _ (by omega)
  exact ⟨_, v3, rfl, by rw [wr64 _ r1 (by omega)]; exact r1, by rw [wr64 _ r1 (by omega)]; exact r2, v3a, v3b, HS.out, O3.out⟩

theorem n_any (b : Nat) (m : Int) (w : World) (hM : m ≤ 9223372036854775807) (hs : Src w b) :
    Calls Try.prog 18 #[.pointer (some ⟨b, 0, none⟩), .int .i64 m] w fun e w' => ∃ r : Int, e = .returned (.int .i64 r) ∧ 0 ≤ r ∧ (r < m ∨ r = 0) ∧ Src w' b ∧ Only b w w' := by
  by_cases hm : m ≤ 1
  · refine (n_small _ m hm w).mono ?_
    rintro e w' ⟨rfl, rfl⟩
    exact ⟨0, rfl, by omega, .inr rfl, hs, Only.refl _ _⟩
  · obtain ⟨sl, len, cap, k, mix, sz, h, hb, hk, hl, m1, m2, z1, z2, hbs⟩ := hs
    by_cases hlt : k < len
    · obtain ⟨c, o, z, rfl, hc, hcs, hz1, hz2, hz⟩ := hb k hlt
      refine (n_early b c o len cap k mix m sz z w (by omega) hM hlt hl m1 m2 h hz1 hz2 hz).mono ?_
      rintro e w' ⟨r, mix', rfl, r1, r2, a1, a2, s, o⟩
      exact ⟨r, rfl, r1, .inl r2, ⟨_, len, cap, k + 1, mix', sz, s, hb.only o, hlt, hl, a1, a2, z1, z2, Nat.lt_of_lt_of_le hbs o.size⟩, o⟩
    · refine (n_late b sl len cap k mix m sz w (by omega) hM (by omega) m1 m2 h).mono ?_
      rintro e w' ⟨r, mix', rfl, r1, r2, a1, a2, s, o⟩
      exact ⟨r, rfl, r1, .inl r2, ⟨sl, len, cap, k, mix', sz, s, hb.only o, hk, hl, a1, a2, z1, z2, Nat.lt_of_lt_of_le hbs o.size⟩, o⟩

theorem n_lt (b : Nat) (m : Int) (w : World) (h1 : 1 ≤ m) (hM : m ≤ 9223372036854775807) (hs : Src w b) :
    Calls Try.prog 18 #[.pointer (some ⟨b, 0, none⟩), .int .i64 m] w fun e w' => ∃ r : Int, e = .returned (.int .i64 r) ∧ 0 ≤ r ∧ r < m ∧ Src w' b ∧ Only b w w' := by
  refine (n_any b m w hM hs).mono ?_
  rintro e w' ⟨r, rfl, r1, r2, s, o⟩
  exact ⟨r, rfl, r1, by omega, s, o⟩

end Go.Proofs.Ytgfclllfkpblnaa
