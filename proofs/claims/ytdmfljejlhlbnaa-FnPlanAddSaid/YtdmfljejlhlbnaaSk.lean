/-
  THE DRAWS: a source of numbers.
  THE DRAWS: how a source begins.
  THE DRAWS: a coin, and a number between two.
  THE DRAWS, BESIDE LISTS THAT GROW: a source that lies below a bound; a list of numbers.
  A TABLE BEING DRAWN: its variable, its rows of stations and pairs, the rows of its domains, beside the source.
  A TABLE BEING DRAWN: a station turned; and what a drawn table is.
  A TABLE DRAWN.
-/
import Derived.Test.YtdmfljejlhlbnaaAs
import Derived.Deep.QuietTactic
import Derived.BigQuiet
import Derived.RegionTactic
import Derived.ChangeAlike
import Derived.Test.YtdmfljejlhlbnaaAp
import Derived.Deep.AppendLies
import Derived.Test.YtdmfljejlhlbnaaAf
import Derived.Test.YtdmfljejlhlbnaaPa
import Derived.Deep.RegionHeldLaw
import Derived.Deep.RegionLaw
import Derived.Deep.DeepCutAuto
import Derived.Deep.CutRange
namespace Go.Proofs.Ytdmfljejlhlbnaa
open Go.RowKit
set_option linter.unusedVariables false

def SrcAt (w : World) (b : Nat) (sl : Option Addr) (len cap k : Nat) (mix sz : Int) : Prop :=
  w.heap[b]? = some (.cells #[.slice sl len cap, .int .i64 k, .int .u64 mix, .int .i64 sz] 145)

theorem SrcAt.cells {w : World} {b : Nat} {sl : Option Addr} {len cap k : Nat} {mix sz : Int} (h : SrcAt w b sl len cap k mix sz) :
    w.cell? ⟨b, 0, none⟩ = some (.slice sl len cap) ∧ w.cell? ⟨b, 1, none⟩ = some (.int .i64 k) ∧ w.cell? ⟨b, 2, none⟩ = some (.int .u64 mix) ∧ w.cell? ⟨b, 3, none⟩ = some (.int .i64 sz) ∧ (∀ o, w.frozen? ⟨b, o, none⟩ = false) := by
  unfold SrcAt at h
  refine ⟨?_, ?_, ?_, ?_, fun o => ?_⟩ <;> simp [World.cell?, World.frozen?, h]

theorem SrcAt.store1 {w : World} {b : Nat} {sl : Option Addr} {len cap k : Nat} {mix sz : Int} (h : SrcAt w b sl len cap k mix sz) (n k' : Nat) :
    SrcAt ((w.drewN n).setCell ⟨b, 1, none⟩ (.int .i64 k')) b sl len cap k' mix sz ∧ Only b w ((w.drewN n).setCell ⟨b, 1, none⟩ (.int .i64 k')) :=
  ⟨heap_setCell_same (w.drewN n) b 1 _ 145 _ h, ((Only.refl b w).drewN n).setCell _ _⟩
theorem SrcAt.next {w : World} {b : Nat} {sl : Option Addr} {len cap k : Nat} {mix sz : Int} (h : SrcAt w b sl len cap k mix sz) (n : Nat) :
    SrcAt ((w.drewN n).setCell ⟨b, 1, none⟩ (.int .i64 ((k : Int) + 1))) b sl len cap (k + 1) mix sz ∧ Only b w ((w.drewN n).setCell ⟨b, 1, none⟩ (.int .i64 ((k : Int) + 1))) :=
  h.store1 n (k + 1)
theorem SrcAt.store2 {w : World} {b : Nat} {sl : Option Addr} {len cap k : Nat} {mix sz : Int} (h : SrcAt w b sl len cap k mix sz) (n : Nat) (v : Int) :
    SrcAt ((w.drewN n).setCell ⟨b, 2, none⟩ (.int .u64 v)) b sl len cap k v sz ∧ Only b w ((w.drewN n).setCell ⟨b, 2, none⟩ (.int .u64 v)) :=
  ⟨heap_setCell_same (w.drewN n) b 2 _ 145 _ h, ((Only.refl b w).drewN n).setCell _ _⟩
theorem SrcAt.store2' {w : World} {b : Nat} {sl : Option Addr} {len cap k : Nat} {mix sz : Int} (h : SrcAt w b sl len cap k mix sz) (v : Int) :
    SrcAt (w.setCell ⟨b, 2, none⟩ (.int .u64 v)).drew b sl len cap k v sz ∧ Only b w (w.setCell ⟨b, 2, none⟩ (.int .u64 v)).drew :=
  ⟨heap_setCell_same w b 2 _ 145 _ h, ((Only.refl b w).setCell _ _).drew⟩
theorem SrcAt.drewN {w : World} {b : Nat} {sl : Option Addr} {len cap k : Nat} {mix sz : Int} (h : SrcAt w b sl len cap k mix sz) (n : Nat) : SrcAt (w.drewN n) b sl len cap k mix sz := h

/-- The bytes behind the source lie elsewhere and can be read. -/
def BytesAt (w : World) (b : Nat) (sl : Option Addr) (len : Nat) : Prop :=
  ∀ i, i < len → ∃ c o : Nat, ∃ z : Int, sl = some ⟨c, o, none⟩ ∧ c ≠ b ∧ c < w.heap.size ∧ 0 ≤ z ∧ z ≤ 255 ∧ w.cell? ⟨c, o + i, none⟩ = some (.int .u8 z)

theorem BytesAt.only {w w' : World} {b : Nat} {sl : Option Addr} {len : Nat} (h : BytesAt w b sl len) (ho : Only b w w') : BytesAt w' b sl len := by
  intro i hi
  obtain ⟨c, o, z, e, hc, hs, z1, z2, hz⟩ := h i hi
  exact ⟨c, o, z, e, hc, Nat.lt_of_lt_of_le hs ho.size, z1, z2, (ho.cell hs hc).trans hz⟩

def Src (w : World) (b : Nat) : Prop :=
  ∃ (sl : Option Addr) (len cap k : Nat) (mix sz : Int), SrcAt w b sl len cap k mix sz ∧ BytesAt w b sl len ∧ k ≤ len ∧ len ≤ maxLen ∧ 0 ≤ mix ∧ mix < 18446744073709551616 ∧ 0 ≤ sz ∧ sz ≤ 12 ∧ b < w.heap.size

theorem bits_lt (op : BinOp) (x y : Int) : 0 ≤ bits op .u64 x y ∧ bits op .u64 x y < 18446744073709551616 := by
  unfold bits; rw [IntKind.wrap_u64]; omega
theorem wrap_lt (n : Int) : 0 ≤ IntKind.u64.wrap n ∧ IntKind.u64.wrap n < 18446744073709551616 := by rw [IntKind.wrap_u64]; omega

theorem wr64 (x : Int) (h0 : 0 ≤ x) (h1 : x < 9223372036854775808) : wrap64 x = x := by unfold wrap64; omega

set_option maxHeartbeats 400000 in
theorem n_small (p : Value) (m : Int) (hm : m ≤ 1) (w : World) :
    Calls Try.prog 67 #[p, .int .i64 m] w fun e w' => e = .returned (.int .i64 0) ∧ w' = w := by
  go_enter Try.func67, Try.ntmps67
  go_wp2
  go_ret
  exact ⟨rfl, rfl⟩

set_option maxHeartbeats 1000000 in
theorem n_late (b : Nat) (sl : Option Addr) (len cap : Nat) (k : Nat) (mix m sz : Int) (w : World) (hm : 1 < m) (hM : m ≤ 9223372036854775807) (hk : len ≤ k) (hm1 : 0 ≤ mix) (hm2 : mix < 18446744073709551616) (hs : SrcAt w b sl len cap k mix sz) :
    Calls Try.prog 67 #[.pointer (some ⟨b, 0, none⟩), .int .i64 m] w fun e w' => ∃ r mix' : Int, e = .returned (.int .i64 r) ∧ 0 ≤ r ∧ r < m ∧ 0 ≤ mix' ∧ mix' < 18446744073709551616 ∧ SrcAt w' b sl len cap k mix' sz ∧ Only b w w' := by
  have hlt : ¬ ((k : Int) < (len : Int)) := by omega
  have hd : decide ((k : Int) < (len : Int)) = false := decide_eq_false hlt
  have HS : Hid (SrcAt w b sl len cap k mix sz) := hs
  obtain ⟨c0, c1, c2, c3, f⟩ := hs.cells
  clear hs
  go_enter Try.func67, Try.ntmps67
  go_wp2
  go_quiet (fail)
  go_wp2
  go_region
  generalize hv1 : bits .xor .u64 mix (IntKind.u64.wrap (mix * 8192)) = v1
  obtain ⟨s1, o1⟩ := SrcAt.store2 HS.out (nq + 1) v1
  generalize (w.drewN (nq + 1)).setCell ⟨b, 2, none⟩ (.int .u64 v1) = w1 at *
  obtain ⟨v1a, v1b⟩ : 0 ≤ v1 ∧ v1 < 18446744073709551616 := by rw [← hv1]; exact bits_lt _ _ _
  clear hv1 c0 c1 c2 c3 f HS
  obtain ⟨c0, c1, c2, c3, f⟩ := s1.cells
  have HS : Hid (SrcAt w1 b sl len cap k v1 sz) := s1
  clear s1
  go_wp2
  go_region
  generalize hv2 : bits .xor .u64 v1 (v1 / 128) = v2
  obtain ⟨s2, o2⟩ := SrcAt.store2' HS.out v2
  generalize (w1.setCell ⟨b, 2, none⟩ (.int .u64 v2)).drew = w2 at *
  obtain ⟨v2a, v2b⟩ : 0 ≤ v2 ∧ v2 < 18446744073709551616 := by rw [← hv2]; exact bits_lt _ _ _
  clear hv2 c0 c1 c2 c3 f HS
  obtain ⟨c0, c1, c2, c3, f⟩ := s2.cells
  have HS : Hid (SrcAt w2 b sl len cap k v2 sz) := s2
  clear s2
  go_wp2
  go_region
  generalize hv3 : bits .xor .u64 v2 (IntKind.u64.wrap (v2 * 131072)) = v3
  obtain ⟨s3, o3⟩ := SrcAt.store2' HS.out v3
  generalize (w2.setCell ⟨b, 2, none⟩ (.int .u64 v3)).drew = w3 at *
  obtain ⟨v3a, v3b⟩ : 0 ≤ v3 ∧ v3 < 18446744073709551616 := by rw [← hv3]; exact bits_lt _ _ _
  clear hv3 c0 c1 c2 c3 f HS
  obtain ⟨c0, c1, c2, c3, f⟩ := s3.cells
  have HS : Hid (SrcAt w3 b sl len cap k v3 sz) := s3
  clear s3
  have O3 : Hid (Only b w w3) := (o1.trans o2).trans o3
  clear o1 o2 o3
  go_wp2
  go_ret
  have r1 : 0 ≤ v3 / 1048576 % m := Int.emod_nonneg _ (by omega)
  have r2 : v3 / 1048576 % m < m := Int.emod_lt_of_pos _ (by omega)
  exact ⟨_, v3, rfl, by rw [wr64 _ r1 (by omega)]; exact r1, by rw [wr64 _ r1 (by omega)]; exact r2, v3a, v3b, HS.out, O3.out⟩

set_option maxHeartbeats 1000000 in
theorem n_early (b : Nat) (c o : Nat) (len cap : Nat) (k : Nat) (mix m sz z : Int) (w : World) (hm : 1 < m) (hM : m ≤ 9223372036854775807) (hk : k < len) (hl : len ≤ maxLen) (hm1 : 0 ≤ mix) (hm2 : mix < 18446744073709551616) (hs : SrcAt w b (some ⟨c, o, none⟩) len cap k mix sz) (hz1 : 0 ≤ z) (hz2 : z ≤ 255) (hz : w.cell? ⟨c, o + k, none⟩ = some (.int .u8 z)) :
    Calls Try.prog 67 #[.pointer (some ⟨b, 0, none⟩), .int .i64 m] w fun e w' => ∃ r mix' : Int, e = .returned (.int .i64 r) ∧ 0 ≤ r ∧ r < m ∧ 0 ≤ mix' ∧ mix' < 18446744073709551616 ∧ SrcAt w' b (some ⟨c, o, none⟩) len cap (k + 1) mix' sz ∧ Only b w w' := by
  unfold maxLen at hl
  have hlt : ((k : Int) < (len : Int)) := by omega
  have hd : decide ((k : Int) < (len : Int)) = true := decide_eq_true hlt
  have hk0 : (0 : Int) ≤ (k : Int) := by omega
  have HS : Hid (SrcAt w b (some ⟨c, o, none⟩) len cap k mix sz) := hs
  obtain ⟨c0, c1, c2, c3, f⟩ := hs.cells
  clear hs
  go_enter Try.func67, Try.ntmps67
  go_wp2
  go_quiet (fail)
  revert nq; intro nq0
  go_wp2
  go_quiet (fail)
  go_wp2
  obtain ⟨s0, o0⟩ := SrcAt.next HS.out (nq0 + nq)
  generalize (w.drewN (nq0 + nq)).setCell ⟨b, 1, none⟩ (.int .i64 ((k : Int) + 1)) = w0 at *
  clear c0 c1 c2 c3 f HS hz
  obtain ⟨c0, c1, c2, c3, f⟩ := s0.cells
  have HS : Hid (SrcAt w0 b (some ⟨c, o, none⟩) len cap (k + 1) mix sz) := s0
  have O0 : Hid (Only b w w0) := o0
  clear s0 o0
  go_region
  generalize hv1 : bits .xor .u64 mix (IntKind.u64.wrap (mix * 8192)) = v1
  obtain ⟨s1, o1⟩ := SrcAt.store2' HS.out v1
  generalize (w0.setCell ⟨b, 2, none⟩ (.int .u64 v1)).drew = w1 at *
  obtain ⟨v1a, v1b⟩ : 0 ≤ v1 ∧ v1 < 18446744073709551616 := by rw [← hv1]; exact bits_lt _ _ _
  clear hv1 c0 c1 c2 c3 f HS
  obtain ⟨c0, c1, c2, c3, f⟩ := s1.cells
  have HS : Hid (SrcAt w1 b (some ⟨c, o, none⟩) len cap (k + 1) v1 sz) := s1
  clear s1
  go_wp2
  go_region
  generalize hv2 : bits .xor .u64 v1 (v1 / 128) = v2
  obtain ⟨s2, o2⟩ := SrcAt.store2' HS.out v2
  generalize (w1.setCell ⟨b, 2, none⟩ (.int .u64 v2)).drew = w2 at *
  obtain ⟨v2a, v2b⟩ : 0 ≤ v2 ∧ v2 < 18446744073709551616 := by rw [← hv2]; exact bits_lt _ _ _
  clear hv2 c0 c1 c2 c3 f HS
  obtain ⟨c0, c1, c2, c3, f⟩ := s2.cells
  have HS : Hid (SrcAt w2 b (some ⟨c, o, none⟩) len cap (k + 1) v2 sz) := s2
  clear s2
  go_wp2
  go_region
  generalize hv3 : bits .xor .u64 v2 (IntKind.u64.wrap (v2 * 131072)) = v3
  obtain ⟨s3, o3⟩ := SrcAt.store2' HS.out v3
  generalize (w2.setCell ⟨b, 2, none⟩ (.int .u64 v3)).drew = w3 at *
  obtain ⟨v3a, v3b⟩ : 0 ≤ v3 ∧ v3 < 18446744073709551616 := by rw [← hv3]; exact bits_lt _ _ _
  clear hv3 c0 c1 c2 c3 f HS
  obtain ⟨c0, c1, c2, c3, f⟩ := s3.cells
  have HS : Hid (SrcAt w3 b (some ⟨c, o, none⟩) len cap (k + 1) v3 sz) := s3
  clear s3
  have O3 : Hid (Only b w w3) := ((O0.out.trans o1).trans o2).trans o3
  clear o1 o2 o3 O0
  go_wp2
  go_ret
  have r1 : 0 ≤ (z + v3 / 1048576) % m := Int.emod_nonneg _ (by omega)
  have r2 : (z + v3 / 1048576) % m < m := Int.emod_lt_of_pos _ (by omega)
  exact ⟨_, v3, rfl, by rw [wr64 _ r1 (by omega)]; exact r1, by rw [wr64 _ r1 (by omega)]; exact r2, v3a, v3b, HS.out, O3.out⟩

theorem n_any (b : Nat) (m : Int) (w : World) (hM : m ≤ 9223372036854775807) (hs : Src w b) :
    Calls Try.prog 67 #[.pointer (some ⟨b, 0, none⟩), .int .i64 m] w fun e w' => ∃ r : Int, e = .returned (.int .i64 r) ∧ 0 ≤ r ∧ (r < m ∨ r = 0) ∧ Src w' b ∧ Only b w w' := by
  by_cases hm : m ≤ 1
  · refine (n_small _ m hm w).mono ?_
    rintro e w' ⟨rfl, rfl⟩
    exact ⟨0, rfl, by omega, .inr rfl, hs, Only.refl _ _⟩
  · obtain ⟨sl, len, cap, k, mix, sz, h, hb, hk, hl, m1, m2, z1, z2, hbs⟩ := hs
    by_cases hlt : k < len
    · obtain ⟨c, o, z, rfl, hc, hcs, hz1, hz2, hz⟩ := hb k hlt
      refine (n_early b c o len cap k mix m sz z w (by omega) hM hlt hl m1 m2 h hz1 hz2 hz).mono ?_
      rintro e w' ⟨r, mix', rfl, r1, r2, a1, a2, s, o⟩
      exact ⟨r, rfl, r1, .inl r2, ⟨_, len, cap, k + 1, mix', sz, s, hb.only o, hlt, hl, a1, a2, z1, z2, Nat.lt_of_lt_of_le hbs o.size⟩, o⟩
    · refine (n_late b sl len cap k mix m sz w (by omega) hM (by omega) m1 m2 h).mono ?_
      rintro e w' ⟨r, mix', rfl, r1, r2, a1, a2, s, o⟩
      exact ⟨r, rfl, r1, .inl r2, ⟨sl, len, cap, k, mix', sz, s, hb.only o, hk, hl, a1, a2, z1, z2, Nat.lt_of_lt_of_le hbs o.size⟩, o⟩

theorem n_lt (b : Nat) (m : Int) (w : World) (h1 : 1 ≤ m) (hM : m ≤ 9223372036854775807) (hs : Src w b) :
    Calls Try.prog 67 #[.pointer (some ⟨b, 0, none⟩), .int .i64 m] w fun e w' => ∃ r : Int, e = .returned (.int .i64 r) ∧ 0 ≤ r ∧ r < m ∧ Src w' b ∧ Only b w w' := by
  refine (n_any b m w hM hs).mono ?_
  rintro e w' ⟨r, rfl, r1, r2, s, o⟩
  exact ⟨r, rfl, r1, by omega, s, o⟩

end Go.Proofs.Ytdmfljejlhlbnaa
namespace Go.Proofs.Ytdmfljejlhlbnaa
open Go.RowKit
set_option linter.unusedVariables false

/-- A slice of bytes that can be read. -/
def RowIn (w : World) (sl : Option Addr) (len : Nat) : Prop :=
  len ≤ maxLen ∧ ∀ i, i < len → ∃ c o : Nat, ∃ z : Int, sl = some ⟨c, o, none⟩ ∧ c < w.heap.size ∧ 0 ≤ z ∧ z ≤ 255 ∧ w.cell? ⟨c, o + i, none⟩ = some (.int .u8 z)

theorem lt_of_cell {w : World} {a : Addr} {v : Value} (h : w.cell? a = some v) : a.block < w.heap.size := by
  unfold World.cell? at h
  cases e : w.heap[a.block]? with
  | none => simp [e] at h
  | some o => exact (Array.getElem?_eq_some_iff.1 e).1
theorem row_in {w : World} {a : Option Addr} {len cap : Nat} {zs : List Int}
    (h : (a = none ∧ len = 0 ∧ cap = 0 ∧ zs = []) ∨ ∃ x, a = some x ∧ len ≤ cap ∧ cap ≤ maxLen ∧ zs.length = cap ∧ (∀ i, i < zs.length → w.cell? (x.add i) = some (.int .u8 (zs.getD i 0))) ∧ ∀ n ∈ zs, (Lit.int .u8 n).wf = true) : RowIn w a len := by
  rcases h with ⟨rfl, rfl, rfl, rfl⟩ | ⟨x, rfl, hl, hm, hz, hc, hw⟩
  · exact ⟨Nat.zero_le _, fun i hi => absurd hi (Nat.not_lt_zero _)⟩
  · refine ⟨Nat.le_trans hl hm, fun i hi => ?_⟩
    obtain ⟨c, o, spot⟩ := x
    have h0 := hc 0 (by omega)
    have hs : spot = none := by simpa [Addr.add] using World.cell?_spot h0
    subst hs
    have ha : (⟨c, o, none⟩ : Addr).add i = ⟨c, o + i, none⟩ := by
      unfold Addr.add
      by_cases h : i = 0 <;> simp [h]
    have h1 := hc i (by omega)
    rw [ha] at h1
    have h2 := hw (zs.getD i 0) (by rw [show zs.getD i 0 = zs[i]'(by omega) by simp [show i < zs.length by omega]]; exact List.getElem_mem _)
    have h3 : 0 ≤ zs.getD i 0 ∧ zs.getD i 0 ≤ 255 := by simpa [Lit.wf, IntKind.min, IntKind.max, IntKind.signed, IntKind.bits] using h2
    exact ⟨c, o, _, rfl, lt_of_cell h1, h3.1, h3.2, h1⟩

theorem RowIn.below {w w' : World} {sl : Option Addr} {len : Nat} (h : RowIn w sl len) (hb : Below w.heap.size w w') : RowIn w' sl len := by
  refine ⟨h.1, fun i hi => ?_⟩
  obtain ⟨c, o, z, e, hs, z1, z2, hz⟩ := h.2 i hi
  exact ⟨c, o, z, e, Nat.lt_of_lt_of_le hs hb.size, z1, z2, (hb.cell hs).trans hz⟩
theorem RowIn.bytes {w : World} {sl : Option Addr} {len : Nat} (h : RowIn w sl len) (ob : Obj) : BytesAt (w.alloc ob) w.heap.size sl len := by
  intro i hi
  obtain ⟨c, o, z, e, hs, z1, z2, hz⟩ := h.2 i hi
  exact ⟨c, o, z, e, by omega, by simp; omega, z1, z2, ((bA0 w ob).cell hs).trans hz⟩

def src0 (sl : Option Addr) (len cap : Nat) : Obj := .cells #[.slice sl len cap, .int .i64 0, .int .u64 88172645463325252, .int .i64 0] 145
theorem src0_at (w : World) (sl : Option Addr) (len cap : Nat) : SrcAt (w.alloc (src0 sl len cap)) w.heap.size sl len cap 0 88172645463325252 0 := by
  show (w.heap.push _)[w.heap.size]? = _
  simp [src0]
theorem SrcAt.store3 {w : World} {b : Nat} {sl : Option Addr} {len cap k : Nat} {mix sz : Int} (h : SrcAt w b sl len cap k mix sz) (v : Int) :
    SrcAt (w.setCell ⟨b, 3, none⟩ (.int .i64 v)) b sl len cap k mix v ∧ Only b w (w.setCell ⟨b, 3, none⟩ (.int .i64 v)) :=
  ⟨heap_setCell_same w b 3 _ 145 _ h, (Only.refl b w).setCell _ _⟩

theorem RowIn.split {w : World} {sl : Option Addr} {len : Nat} (h : RowIn w sl len) : len = 0 ∨ ∃ c o : Nat, sl = some ⟨c, o, none⟩ ∧ c < w.heap.size ∧ ∀ i, i < len → ∃ z : Int, 0 ≤ z ∧ z ≤ 255 ∧ w.cell? ⟨c, o + i, none⟩ = some (.int .u8 z) := by
  by_cases h0 : len = 0
  · exact .inl h0
  · obtain ⟨c, o, z, e, hs, z1, z2, hz⟩ := h.2 0 (by omega)
    refine .inr ⟨c, o, e, hs, fun i hi => ?_⟩
    obtain ⟨c', o', z, e', hs, z1, z2, hz⟩ := h.2 i hi
    rw [e] at e'
    simp only [Option.some.injEq, Addr.mk.injEq, and_true] at e'
    obtain ⟨rfl, rfl⟩ := e'
    exact ⟨z, z1, z2, hz⟩

theorem src_end {w w1 : World} {sl : Option Addr} {len cap : Nat} {mix v : Int} (hr : RowIn w sl len) (ho : Only w.heap.size (w.alloc (src0 sl len cap)) w1) (hs : SrcAt w1 w.heap.size sl len cap 0 mix v) (m1 : 0 ≤ mix) (m2 : mix < 18446744073709551616) (v1 : 0 ≤ v) (v2 : v ≤ 12) :
    Src w1 w.heap.size ∧ Below w.heap.size w w1 := by
  have hz := ho.size
  simp at hz
  exact ⟨⟨sl, len, cap, 0, mix, v, hs, (hr.bytes (src0 sl len cap)).only ho, Nat.zero_le _, hr.1, m1, m2, v1, v2, by omega⟩, ho.below (bA0 _ _) (Nat.le_refl _)⟩

set_option maxHeartbeats 400000 in
theorem source_none (sl : Option Addr) (cap : Nat) (w : World) (hr : RowIn w sl 0) :
    Calls Try.prog 63 #[.slice sl 0 cap] w fun e w' => e = .returned (.pointer (some ⟨w.heap.size, 0, none⟩)) ∧ Src w' w.heap.size ∧ Below w.heap.size w w' := by
  have HR : Hid (RowIn w sl 0) := hr
  have HS : Hid (SrcAt (w.alloc (src0 sl 0 cap)) w.heap.size sl 0 cap 0 88172645463325252 0) := src0_at w sl 0 cap
  clear hr
  go_enter Try.func63, Try.ntmps63
  go_wp2
  refine wp_loop_rounds 1 ?_
  rw [rounds_succ]
  go_wp2
  go_ret
  exact ⟨rfl, src_end HR.out (Only.refl _ _) HS.out (by decide) (by decide) (by decide) (by decide)⟩

set_option maxHeartbeats 4000000 in
theorem source_some (c o : Nat) (len cap : Nat) (w : World) (hr : RowIn w (some ⟨c, o, none⟩) len) (hc : c < w.heap.size) (hz : ∀ i, i < len → ∃ z : Int, 0 ≤ z ∧ z ≤ 255 ∧ w.cell? ⟨c, o + i, none⟩ = some (.int .u8 z)) :
    Calls Try.prog 63 #[.slice (some ⟨c, o, none⟩) len cap] w fun e w' => e = .returned (.pointer (some ⟨w.heap.size, 0, none⟩)) ∧ Src w' w.heap.size ∧ Below w.heap.size w w' := by
  have hl := hr.1
  unfold maxLen at hl
  have HR : Hid (RowIn w (some ⟨c, o, none⟩) len) := hr
  have HZ : Hid (∀ i, i < len → ∃ z : Int, 0 ≤ z ∧ z ≤ 255 ∧ w.cell? ⟨c, o + i, none⟩ = some (.int .u8 z)) := hz
  clear hr hz
  go_enter Try.func63, Try.ntmps63
  go_wp2
  go_loopw [4] (fun i w1 => ∃ (k : Nat) (mix : Int), i = .int .i64 k ∧ k ≤ len ∧ k ≤ 64 ∧ 0 ≤ mix ∧ mix < 18446744073709551616 ∧ SrcAt w1 w.heap.size (some ⟨c, o, none⟩) len cap 0 mix 0 ∧ Only w.heap.size (w.alloc (src0 (some ⟨c, o, none⟩) len cap)) w1) (fun i _ => 64 - (intOf i).toNat)
  case atStart => exact ⟨0, 88172645463325252, rfl, Nat.zero_le _, Nat.zero_le _, by decide, by decide, src0_at w _ _ _, Only.refl _ _⟩
  case round =>
    obtain ⟨k, mix, rfl, hk1, hk2, m1, m2, hs, ho⟩ := hrel
    have HO : Hid (Only w.heap.size (w.alloc (src0 (some ⟨c, o, none⟩) len cap)) wr) := ho
    have HS : Hid (SrcAt wr w.heap.size (some ⟨c, o, none⟩) len cap 0 mix 0) := hs
    obtain ⟨c0, c1, c2, c3, f⟩ := hs.cells
    have hk0 : (0 : Int) ≤ (k : Int) := by omega
    by_cases h1 : k < len
    · by_cases h2 : k < 64
      · obtain ⟨z, z1, z2, hz⟩ := HZ.out k h1
        have hz' : wr.cell? ⟨c, o + k, none⟩ = some (.int .u8 z) := by
          rw [ho.cell (by simp; omega) (by omega), (bA0 w _).cell hc]; exact hz
        have h1' : (k : Int) < (len : Int) := by omega
        have h2' : (k : Int) < 64 := by omega
        clear hz ho hs
        go_wp2
        go_region
        go_wp2
        go_roundw
        case rel =>
          obtain ⟨s1, o1⟩ := SrcAt.store2' HS.out (IntKind.u64.wrap (bits BinOp.xor IntKind.u64 mix z * 1099511628211))
          exact ⟨k + 1, _, by go_num, by omega, by omega, (wrap_lt _).1, (wrap_lt _).2, s1, HO.out.trans o1⟩
        case measure => simp [intOf]; omega
      · have h1' : (k : Int) < (len : Int) := by omega
        have h2' : decide ((k : Int) < 64) = false := by simp; omega
        obtain ⟨s1, o1⟩ := SrcAt.store3 HS.out ((len : Int) / 20)
        have O1 : Hid (Only w.heap.size (w.alloc (src0 (some ⟨c, o, none⟩) len cap)) (wr.setCell ⟨w.heap.size, 3, none⟩ (.int .i64 ((len : Int) / 20)))) := HO.out.trans o1
        obtain ⟨e0, e1, e2, e3, g⟩ := s1.cells
        have S1 : Hid (SrcAt (wr.setCell ⟨w.heap.size, 3, none⟩ (.int .i64 ((len : Int) / 20))) w.heap.size (some ⟨c, o, none⟩) len cap 0 mix ((len : Int) / 20)) := s1
        clear s1 o1 hs ho
        have hp : (0 : Int) ≤ (len : Int) / 20 := by omega
        by_cases hq : (12 : Int) < (len : Int) / 20
        · obtain ⟨s2, o2⟩ := SrcAt.store3 S1.out 12
          have O2 : Hid (Only w.heap.size (w.alloc (src0 (some ⟨c, o, none⟩) len cap)) ((wr.setCell ⟨w.heap.size, 3, none⟩ (.int .i64 ((len : Int) / 20))).setCell ⟨w.heap.size, 3, none⟩ (.int .i64 12))) := O1.out.trans o2
          have S2 : Hid (SrcAt ((wr.setCell ⟨w.heap.size, 3, none⟩ (.int .i64 ((len : Int) / 20))).setCell ⟨w.heap.size, 3, none⟩ (.int .i64 12)) w.heap.size (some ⟨c, o, none⟩) len cap 0 mix 12) := s2
          clear s2 o2
          go_wp2
          go_ret
          exact ⟨rfl, src_end HR.out O2.out S2.out m1 m2 (by decide) (by decide)⟩
        · go_wp2
          go_ret
          exact ⟨rfl, src_end HR.out O1.out S1.out m1 m2 hp (by omega)⟩
    · have h1' : decide ((k : Int) < (len : Int)) = false := by simp; omega
      obtain ⟨s1, o1⟩ := SrcAt.store3 HS.out ((len : Int) / 20)
      have O1 : Hid (Only w.heap.size (w.alloc (src0 (some ⟨c, o, none⟩) len cap)) (wr.setCell ⟨w.heap.size, 3, none⟩ (.int .i64 ((len : Int) / 20)))) := HO.out.trans o1
      obtain ⟨e0, e1, e2, e3, g⟩ := s1.cells
      have S1 : Hid (SrcAt (wr.setCell ⟨w.heap.size, 3, none⟩ (.int .i64 ((len : Int) / 20))) w.heap.size (some ⟨c, o, none⟩) len cap 0 mix ((len : Int) / 20)) := s1
      clear s1 o1 hs ho
      have hp : (0 : Int) ≤ (len : Int) / 20 := by omega
      have hq : (len : Int) / 20 ≤ 12 := by omega
      go_wp2
      go_ret
      exact ⟨rfl, src_end HR.out O1.out S1.out m1 m2 hp hq⟩

theorem source_any (sl : Option Addr) (len cap : Nat) (w : World) (hr : RowIn w sl len) :
    Calls Try.prog 63 #[.slice sl len cap] w fun e w' => e = .returned (.pointer (some ⟨w.heap.size, 0, none⟩)) ∧ Src w' w.heap.size ∧ Below w.heap.size w w' := by
  rcases hr.split with rfl | ⟨c, o, rfl, hc, hz⟩
  · exact source_none sl cap w hr
  · exact source_some c o len cap w hr hc hz

end Go.Proofs.Ytdmfljejlhlbnaa
namespace Go.Proofs.Ytdmfljejlhlbnaa
open Go.RowKit
set_option linter.unusedVariables false

theorem Src.other {w w' : World} {b : Nat} (h : Src w b) (ho : Below w.heap.size w w') : Src w' b := by
  obtain ⟨sl, len, cap, k, mix, sz, h, hb, hk, hl, m1, m2, z1, z2, hbs⟩ := h
  refine ⟨sl, len, cap, k, mix, sz, (ho.block b hbs).trans h, fun i hi => ?_, hk, hl, m1, m2, z1, z2, Nat.lt_of_lt_of_le hbs ho.size⟩
  obtain ⟨c, o, z, e, hc, hs, y1, y2, hz⟩ := hb i hi
  exact ⟨c, o, z, e, hc, Nat.lt_of_lt_of_le hs ho.size, y1, y2, (ho.cell hs).trans hz⟩
theorem Src.lt {w : World} {b : Nat} (h : Src w b) : b < w.heap.size := by
  obtain ⟨sl, len, cap, k, mix, sz, h, hb, hk, hl, m1, m2, z1, z2, hbs⟩ := h
  exact hbs

/-- A number of int64. -/
def I64 (v : Int) : Prop := -9223372036854775808 ≤ v ∧ v ≤ 9223372036854775807

set_option maxHeartbeats 400000 in
theorem one_any (b : Nat) (m : Int) (w : World) (hM : m ≤ 9223372036854775807) (hs : Src w b) :
    Calls Try.prog 97 #[.pointer (some ⟨b, 0, none⟩), .int .i64 m] w fun e w' => ∃ t : Bool, e = .returned (.bool t) ∧ Src w' b ∧ Only b w w' := by
  have HS : Hid (Src w b) := hs
  clear hs
  go_enter Try.func97, Try.ntmps97
  go_wp2_with fail
  refine (n_any b m _ hM HS.out).mono ?_
  rintro e w1 ⟨r, rfl, r1, r2, s1, o1⟩
  have H1 : Hid (Src w1 b ∧ Only b w w1) := ⟨s1, o1⟩
  clear s1 o1 r2
  go_wp2
  go_ret
  exact ⟨_, rfl, H1.out⟩

theorem lit_cell {w w2 : World} {b : Nat} (zs : List Int) (ho : Only b (w.alloc (.cells (zs.map (Value.int .i64)).toArray 2)) w2) (hb : b < w.heap.size) (r : Int) (r1 : 0 ≤ r) (r2 : r < zs.length) :
    w2.cell? ⟨w.heap.size, r.toNat, none⟩ = some (.int .i64 (zs.getD r.toNat 0)) := by
  rw [ho.cell (by simp) (by omega)]
  have h : r.toNat < zs.length := by omega
  have e : (w.alloc (.cells (zs.map (Value.int .i64)).toArray 2)).heap[w.heap.size]? = some (.cells (zs.map (Value.int .i64)).toArray 2) := by
    show (w.heap.push _)[w.heap.size]? = _
    simp
  unfold World.cell?
  simp only [e]
  simp [h]
theorem lit_i64 (zs : List Int) (h : ∀ z ∈ zs, -9223372036854775808 ≤ z ∧ z ≤ 9223372036854775807) (i : Nat) : I64 (zs.getD i 0) := by
  unfold I64
  by_cases hi : i < zs.length
  · rw [show zs.getD i 0 = zs[i] by simp [hi]]; exact h _ (List.getElem_mem hi)
  · rw [show zs.getD i 0 = 0 by simp [hi]]; omega

def edges : List Int := [0, 1, -1, 2, 1000, 1001, 2147483648, 2147483647, -2147483648, 4611686018427387904, 9223372036854775807, -9223372036854775808, 1000000, 1000001]
theorem edges_ok (i : Nat) : I64 (edges.getD i 0) := lit_i64 edges (by decide) i

end Go.Proofs.Ytdmfljejlhlbnaa
namespace Go.Proofs.Ytdmfljejlhlbnaa
open Go.RowKit
set_option linter.unusedVariables false

theorem own_only {B : Nat} {e : TypeId} {m : Nat} {v : Value} {n : Nat} {xs : List Value} {b : Nat} {w w' : World} (h : w.ownsRow B e m v n xs) (ho : Only b w w') (hb : b < B) : w'.ownsRow B e m v n xs := by
  refine ⟨h.1, ?_⟩
  rcases h.2 with h | ⟨g, cap, cur, hv, hg, hh, r⟩
  · exact .inl h
  · exact .inr ⟨g, cap, cur, hv, hg, (ho.block g (Array.getElem?_eq_some_iff.1 hh).1 (by omega)).trans hh, r⟩
theorem Only.grown {b : Nat} {u v w : World} {row : Option Nat} (h : Only b u v) (hg : v.grownBy w row) (hr : ∀ g, row = some g → u.heap.size ≤ g) : Only b u w :=
  ⟨hg.os.trans h.os, hg.tape.trans h.tape, hg.output.trans h.output, Nat.le_trans h.size hg.size, fun k hk hb => (hg.block k (Nat.lt_of_lt_of_le hk h.size) (fun e => by have := hr k e.symm; omega)).trans (h.block k hk hb)⟩

/-- A source whose block and whose bytes lie below B. -/
def SrcB (B : Nat) (w : World) (b : Nat) : Prop :=
  b < B ∧ B ≤ w.heap.size ∧ ∃ (sl : Option Addr) (len cap k : Nat) (mix sz : Int), SrcAt w b sl len cap k mix sz ∧ BytesAt w b sl len ∧ (∀ i, i < len → ∃ c o : Nat, sl = some ⟨c, o, none⟩ ∧ c < B) ∧ k ≤ len ∧ len ≤ maxLen ∧ 0 ≤ mix ∧ mix < 18446744073709551616 ∧ 0 ≤ sz ∧ sz ≤ 12
theorem SrcB.of {w : World} {b : Nat} (h : Src w b) : SrcB w.heap.size w b := by
  obtain ⟨sl, len, cap, k, mix, sz, h, hb, hk, hl, m1, m2, z1, z2, hbs⟩ := h
  refine ⟨hbs, Nat.le_refl _, sl, len, cap, k, mix, sz, h, hb, fun i hi => ?_, hk, hl, m1, m2, z1, z2⟩
  obtain ⟨c, o, z, e, hc, hs, _⟩ := hb i hi
  exact ⟨c, o, e, hs⟩
theorem SrcB.src {B : Nat} {w : World} {b : Nat} (h : SrcB B w b) : Src w b := by
  obtain ⟨h0, h1, sl, len, cap, k, mix, sz, h, hb, hB, hk, hl, m1, m2, z1, z2⟩ := h
  exact ⟨sl, len, cap, k, mix, sz, h, hb, hk, hl, m1, m2, z1, z2, Nat.lt_of_lt_of_le h0 h1⟩
theorem SrcB.kept {B : Nat} {w w' : World} {b : Nat} (h : SrcB B w b) (hs : w.heap.size ≤ w'.heap.size) (hk : ∀ k, k < B → w'.heap[k]? = w.heap[k]?) : SrcB B w' b := by
  obtain ⟨h0, h1, sl, len, cap, k, mix, sz, h, hb, hB, hkl, hl, m1, m2, z1, z2⟩ := h
  refine ⟨h0, Nat.le_trans h1 hs, sl, len, cap, k, mix, sz, (hk b h0).trans h, fun i hi => ?_, hB, hkl, hl, m1, m2, z1, z2⟩
  obtain ⟨c, o, z, e, hc, hlt, y1, y2, hz⟩ := hb i hi
  obtain ⟨c', o', e', hc'⟩ := hB i hi
  rw [e] at e'
  simp only [Option.some.injEq, Addr.mk.injEq, and_true] at e'
  obtain ⟨rfl, rfl⟩ := e'
  exact ⟨c, o, z, e, hc, Nat.lt_of_lt_of_le hlt hs, y1, y2, (World.cell?_of_block (w := w) (hk c hc')).trans hz⟩
theorem SrcB.below {B : Nat} {w w' : World} {b : Nat} (h : SrcB B w b) (hb : Below w.heap.size w w') : SrcB B w' b := h.kept hb.size fun k hk => hb.block k (Nat.lt_of_lt_of_le hk h.2.1)
theorem SrcB.grown {B : Nat} {w w' : World} {b : Nat} {row : Option Nat} (h : SrcB B w b) (hg : w.grownBy w' row) (hr : ∀ g, row = some g → B ≤ g) : SrcB B w' b :=
  h.kept hg.size fun k hk => hg.block k (Nat.lt_of_lt_of_le hk h.2.1) (fun e => by have := hr k e.symm; omega)

theorem nB_any (B b : Nat) (m : Int) (w : World) (hM : m ≤ 9223372036854775807) (hs : SrcB B w b) :
    Calls Try.prog 67 #[.pointer (some ⟨b, 0, none⟩), .int .i64 m] w fun e w' => ∃ r : Int, e = .returned (.int .i64 r) ∧ 0 ≤ r ∧ (r < m ∨ r = 0) ∧ SrcB B w' b ∧ Only b w w' := by
  by_cases hm : m ≤ 1
  · refine (n_small _ m hm w).mono ?_
    rintro e w' ⟨rfl, rfl⟩
    exact ⟨0, rfl, by omega, .inr rfl, hs, Only.refl _ _⟩
  · obtain ⟨h0, hB0, sl, len, cap, k, mix, sz, h, hb, hB, hk, hl, m1, m2, z1, z2⟩ := hs
    by_cases hlt : k < len
    · obtain ⟨c, o, z, rfl, hc, hcs, hz1, hz2, hz⟩ := hb k hlt
      refine (n_early b c o len cap k mix m sz z w (by omega) hM hlt hl m1 m2 h hz1 hz2 hz).mono ?_
      rintro e w' ⟨r, mix', rfl, r1, r2, a1, a2, s, o⟩
      exact ⟨r, rfl, r1, .inl r2, ⟨h0, Nat.le_trans hB0 o.size, _, len, cap, k + 1, mix', sz, s, hb.only o, hB, hlt, hl, a1, a2, z1, z2⟩, o⟩
    · refine (n_late b sl len cap k mix m sz w (by omega) hM (by omega) m1 m2 h).mono ?_
      rintro e w' ⟨r, mix', rfl, r1, r2, a1, a2, s, o⟩
      exact ⟨r, rfl, r1, .inl r2, ⟨h0, Nat.le_trans hB0 o.size, sl, len, cap, k, mix', sz, s, hb.only o, hB, hk, hl, a1, a2, z1, z2⟩, o⟩
theorem nB_lt (B b : Nat) (m : Int) (w : World) (h1 : 1 ≤ m) (hM : m ≤ 9223372036854775807) (hs : SrcB B w b) :
    Calls Try.prog 67 #[.pointer (some ⟨b, 0, none⟩), .int .i64 m] w fun e w' => ∃ r : Int, e = .returned (.int .i64 r) ∧ 0 ≤ r ∧ r < m ∧ SrcB B w' b ∧ Only b w w' := by
  refine (nB_any B b m w hM hs).mono ?_
  rintro e w' ⟨r, rfl, r1, r2, s, o⟩
  exact ⟨r, rfl, r1, by omega, s, o⟩
set_option maxHeartbeats 400000 in
theorem oneB_any (B b : Nat) (m : Int) (w : World) (hM : m ≤ 9223372036854775807) (hs : SrcB B w b) :
    Calls Try.prog 97 #[.pointer (some ⟨b, 0, none⟩), .int .i64 m] w fun e w' => ∃ t : Bool, e = .returned (.bool t) ∧ SrcB B w' b ∧ Only b w w' := by
  have HS := Lib.hid hs
  clear hs
  go_enter Try.func97, Try.ntmps97
  go_wp2_with fail
  refine (nB_any B b m _ hM HS.out).mono ?_
  rintro e w1 ⟨r, rfl, r1, r2, s1, o1⟩
  have H1 : Hid (SrcB B w1 b ∧ Only b w w1) := ⟨s1, o1⟩
  clear s1 o1 r2
  go_wp2
  go_ret
  exact ⟨_, rfl, H1.out⟩
set_option maxRecDepth 100000 in
set_option maxHeartbeats 400000 in
theorem edgeB_any (B b : Nat) (w : World) (hs : SrcB B w b) :
    Calls Try.prog 121 #[.pointer (some ⟨b, 0, none⟩)] w fun e w' => ∃ v : Int, e = .returned (.int .i64 v) ∧ I64 v ∧ SrcB B w' b ∧ Only b w w' := by
  have HS := Lib.hid hs
  clear hs
  go_enter Try.func121, Try.ntmps121
  go_wp2_with fail
  refine (nB_lt B b 14 _ (by decide) (by decide) (HS.out.below (bA0 _ _))).mono ?_
  rintro e w1 ⟨r, rfl, r1, r2, s1, o1⟩
  have hc := lit_cell edges o1 (Nat.lt_of_lt_of_le HS.out.1 HS.out.2.1) r r1 r2
  have H1 : Hid (SrcB B w1 b ∧ Only b w w1) := ⟨s1, (Only.of_below (bA0 _ _)).trans o1⟩
  have HI : Hid (I64 (edges.getD r.toNat 0)) := edges_ok _
  generalize edges.getD r.toNat 0 = v at *
  clear s1 o1 HS
  go_wp2
  go_ret
  exact ⟨_, rfl, HI.out, H1.out⟩

end Go.Proofs.Ytdmfljejlhlbnaa
namespace Go.Proofs.Ytdmfljejlhlbnaa
open Go.RowKit
set_option linter.unusedVariables false

def stC (rs : List LSt) : List Value := rs.flatMap fun r => [.int .i64 r.1, .int .i64 r.2.1, r.2.2.1]
def prC (ps : List LPr) : List Value := ps.flatMap fun p => [.int .i64 p.1, .int .i64 p.2.1, .int .i64 p.2.2]
theorem stC_add (rs : List LSt) (r : LSt) : stC (rs ++ [r]) = stC rs ++ [.int .i64 r.1, .int .i64 r.2.1, r.2.2.1] := by simp [stC]
theorem prC_add (ps : List LPr) (p : LPr) : prC (ps ++ [p]) = prC ps ++ [.int .i64 p.1, .int .i64 p.2.1, .int .i64 p.2.2] := by simp [prC]
theorem flat3_at {α : Type} (f : α → Value × Value × Value) (l : List α) (i : Nat) (h : i < l.length) :
    (l.flatMap fun a => [(f a).1, (f a).2.1, (f a).2.2])[i * 3]? = some (f l[i]).1 ∧ (l.flatMap fun a => [(f a).1, (f a).2.1, (f a).2.2])[i * 3 + 1]? = some (f l[i]).2.1 ∧ (l.flatMap fun a => [(f a).1, (f a).2.1, (f a).2.2])[i * 3 + 2]? = some (f l[i]).2.2 := by
  induction l generalizing i with
  | nil => simp at h
  | cons a t ih =>
    rw [List.flatMap_cons]
    cases i with
    | zero => simp
    | succ i =>
      have h' : i < t.length := by simpa using h
      have := ih i h'
      have e : ∀ j, ([(f a).1, (f a).2.1, (f a).2.2] ++ t.flatMap fun a => [(f a).1, (f a).2.1, (f a).2.2])[j + 3]? = (t.flatMap fun a => [(f a).1, (f a).2.1, (f a).2.2])[j]? := fun j => by
        rw [List.getElem?_append_right (by simp)]; simp
      rw [show (i + 1) * 3 = i * 3 + 3 by omega, show i * 3 + 3 + 1 = (i * 3 + 1) + 3 by omega, show i * 3 + 3 + 2 = (i * 3 + 2) + 3 by omega, e, e, e]
      simpa using this

/-- What is owned stays, where its block does. -/
theorem own_keep {C : Nat} {e : TypeId} {m : Nat} {v : Value} {n : Nat} {xs : List Value} {w w' : World} (h : w.ownsRow C e m v n xs) (hk : ∀ j, v.ownBlock = some j → w'.heap[j]? = w.heap[j]?) : w'.ownsRow C e m v n xs := by
  refine ⟨h.1, ?_⟩
  rcases h.2 with h | ⟨g, cap, cur, hv, hg, hh, r⟩
  · exact .inl h
  · exact .inr ⟨g, cap, cur, hv, hg, (hk g (by rw [hv]; rfl)).trans hh, r⟩
theorem own_type {C : Nat} {e : TypeId} {m : Nat} {v : Value} {n : Nat} {xs : List Value} {w : World} (h : w.ownsRow C e m v n xs) {j : Nat} (hj : v.ownBlock = some j) : ∃ cur, w.heap[j]? = some (.cells cur e (0, 0)) := by
  rcases h.2 with ⟨rfl, _⟩ | ⟨g, cap, cur, rfl, _, hh, _⟩
  · cases hj
  · cases hj; exact ⟨cur, hh⟩
theorem own_base {C : Nat} {e : TypeId} {m : Nat} {v : Value} {n : Nat} {xs : List Value} {w : World} (h : w.ownsRow C e m v n xs) {j : Nat} (hj : v.ownBlock = some j) : C ≤ j := by
  rcases h.2 with ⟨rfl, _⟩ | ⟨g, cap, cur, rfl, hg, hh, _⟩
  · cases hj
  · cases hj; exact hg
theorem own_ne {C C' : Nat} {e e' : TypeId} {m m' : Nat} {v v' : Value} {n n' : Nat} {xs xs' : List Value} {w : World} (h : w.ownsRow C e m v n xs) (h' : w.ownsRow C' e' m' v' n' xs') (he : e ≠ e') {j : Nat} (hj : v.ownBlock = some j) : v'.ownBlock ≠ some j := fun hj' => by
  obtain ⟨c, hc⟩ := own_type h hj
  obtain ⟨c', hc'⟩ := own_type h' hj'
  rw [hc] at hc'
  simp at hc'
  exact he hc'.2

structure TI (w : World) (b tb : Nat) (v1 v2 : Value) (rs : List LSt) (ps : List LPr) (W : World) : Prop where
  hb : b < w.heap.size
  htb : w.heap.size < tb
  src : SrcB w.heap.size W b
  fr : Only b w W
  tab : W.heap[tb]? = some (.cells #[v1, v2] 26)
  rc : W.heap[w.heap.size]? = some (.cells #[.slice none 0 0, .slice none 0 0] 26)
  st : W.ownsRow (tb + 1) 93 3 v1 rs.length (stC rs)
  pr : W.ownsRow (tb + 1) 112 3 v2 ps.length (prC ps)
  dom : ∀ r ∈ rs, W.ownsRow (tb + 1) 2 1 r.2.2.1 r.2.2.2.length (valsZ r.2.2.2)
  ap : rs.Pairwise (fun r r' => r.2.2.1.ownBlock ≠ r'.2.2.1.ownBlock)

section
variable {w : World} {b tb : Nat} {v1 v2 : Value} {rs : List LSt} {ps : List LPr} {W W' : World}
theorem TI.lt (h : TI w b tb v1 v2 rs ps W) : tb < W.heap.size := (Array.getElem?_eq_some_iff.1 h.tab).1
theorem TI.rlt (h : TI w b tb v1 v2 rs ps W) : w.heap.size < W.heap.size := (Array.getElem?_eq_some_iff.1 h.rc).1
theorem TI.facts (h : TI w b tb v1 v2 rs ps W) : W.cell? ⟨tb, 0, none⟩ = some v1 ∧ W.cell? ⟨tb, 1, none⟩ = some v2 ∧ (∀ o, W.frozen? ⟨tb, o, none⟩ = false) ∧ tb < W.heap.size :=
  ⟨by simp [World.cell?, h.tab], by simp [World.cell?, h.tab], fun o => by simp [World.frozen?, h.tab], h.lt⟩
theorem TI.call (h : TI w b tb v1 v2 rs ps W) (hs : SrcB w.heap.size W' b) (ho : Only b W W') : TI w b tb v1 v2 rs ps W' := by
  have hb := h.hb
  have ht := h.htb
  exact ⟨h.hb, h.htb, hs, h.fr.trans ho, (ho.block tb h.lt (by omega)).trans h.tab, (ho.block _ h.rlt (by omega)).trans h.rc, own_only h.st ho (by omega), own_only h.pr ho (by omega), fun r hr => own_only (h.dom r hr) ho (by omega), h.ap⟩
theorem TI.below (h : TI w b tb v1 v2 rs ps W) (hb : Below W.heap.size W W') : TI w b tb v1 v2 rs ps W' := h.call (h.src.below hb) (Only.of_below hb)
theorem TI.alloc (h : TI w b tb v1 v2 rs ps W) (o : Obj) : TI w b tb v1 v2 rs ps (W.alloc o) := h.below (bA0 _ _)
theorem TI.drew (h : TI w b tb v1 v2 rs ps W) : TI w b tb v1 v2 rs ps W.drew := h.call ⟨h.src.1, h.src.2.1, h.src.2.2⟩ ((Only.refl _ _).drew)
/-- A row of another kind, above the table's variable, has grown or turned. -/
theorem TI.other (h : TI w b tb v1 v2 rs ps W) {row : Option Nat} (hg : W.grownBy W' row) (hr : ∀ j, row = some j → tb < j ∧ v1.ownBlock ≠ some j ∧ v2.ownBlock ≠ some j ∧ ∀ r ∈ rs, r.2.2.1.ownBlock ≠ some j) : TI w b tb v1 v2 rs ps W' := by
  have hb := h.hb
  have ht := h.htb
  have keep : ∀ k, k < W.heap.size → row ≠ some k → W'.heap[k]? = W.heap[k]? := fun k hk hne => hg.block k hk (fun e => hne e.symm)
  refine ⟨h.hb, h.htb, h.src.grown hg (fun j hj => by have := (hr j hj).1; omega), h.fr.grown hg (fun j hj => by have := (hr j hj).1; omega), (keep tb h.lt (fun e => by have := (hr tb e).1; omega)).trans h.tab, (keep _ h.rlt (fun e => by have := (hr _ e).1; omega)).trans h.rc, own_keep h.st (fun j hj => keep j ((h.st.lt j hj).2) (fun e => (hr j e).2.1 hj)), own_keep h.pr (fun j hj => keep j ((h.pr.lt j hj).2) (fun e => (hr j e).2.2.1 hj)), fun r hr' => own_keep (h.dom r hr') (fun j hj => keep j (((h.dom r hr').lt j hj).2) (fun e => (hr j e).2.2.2 r hr' hj)), h.ap⟩
theorem SrcB.set {B : Nat} {W : World} {b : Nat} (h : SrcB B W b) (c : Nat) (hc : B ≤ c) (o : Nat) (v : Value) : SrcB B (W.setCell ⟨c, o, none⟩ v) b :=
  h.kept (by simp [World.setCell]) (fun k hk => Below.heap_setCell _ _ _ _ (by show k ≠ c; omega))
theorem Only.setHigh {b : Nat} {u v : World} (h : Only b u v) (c : Nat) (hc : u.heap.size ≤ c) (o : Nat) (x : Value) : Only b u (v.setCell ⟨c, o, none⟩ x) :=
  ⟨h.os, h.tape, h.output, by simpa [World.setCell] using h.size, fun k hk hb => (Below.heap_setCell _ _ _ _ (by show k ≠ c; omega)).trans (h.block k hk hb)⟩
theorem own_setS {C : Nat} {e : TypeId} {m : Nat} {v : Value} {n : Nat} {xs : List Value} {W : World} (h : W.ownsRow C e m v n xs) (c : Nat) (hc : c < C) (o : Nat) (x : Value) : (W.setCell ⟨c, o, none⟩ x).ownsRow C e m v n xs :=
  own_keep h (fun j hj => Below.heap_setCell _ _ _ _ (by show j ≠ c; have := own_base h hj; omega))
/-- Stations with one more. -/
theorem TI.addS (h : TI w b tb v1 v2 rs ps W) {g cap : Nat} (r : LSt) (hg : W.grownBy W' v1.ownBlock) (ho : W'.ownsRow (tb + 1) 93 3 (.slice (some ⟨g, 0, none⟩) (rs.length + 1) cap) (rs.length + 1) (stC rs ++ [.int .i64 r.1, .int .i64 r.2.1, r.2.2.1])) (hd : W.ownsRow (tb + 1) 2 1 r.2.2.1 r.2.2.2.length (valsZ r.2.2.2)) (hap : ∀ r' ∈ rs, r'.2.2.1.ownBlock ≠ r.2.2.1.ownBlock) :
    TI w b tb (.slice (some ⟨g, 0, none⟩) (rs.length + 1) cap) v2 (rs ++ [r]) ps (W'.setCell ⟨tb, 0, none⟩ (.slice (some ⟨g, 0, none⟩) (rs.length + 1) cap)) := by
  have hb := h.hb
  have ht := h.htb
  have keep : ∀ k, k < W.heap.size → v1.ownBlock ≠ some k → W'.heap[k]? = W.heap[k]? := fun k hk hne => hg.block k hk (fun e => hne e.symm)
  have hlo : ∀ j, v1.ownBlock = some j → tb + 1 ≤ j := fun j hj => own_base h.st hj
  have d' : ∀ r' : LSt, W.ownsRow (tb + 1) 2 1 r'.2.2.1 r'.2.2.2.length (valsZ r'.2.2.2) → W'.ownsRow (tb + 1) 2 1 r'.2.2.1 r'.2.2.2.length (valsZ r'.2.2.2) := fun r' h' => own_keep h' (fun j hj => keep j (h'.lt j hj).2 (own_ne h' h.st (by decide) hj))
  refine ⟨h.hb, h.htb, (h.src.grown hg (fun j hj => by have := hlo j hj; omega)).set tb (by omega) 0 _, (h.fr.grown hg (fun j hj => by have := hlo j hj; omega)).setHigh tb (by omega) 0 _, ?_, (Below.heap_setCell _ _ _ _ (by show w.heap.size ≠ tb; omega)).trans ((keep _ h.rlt (fun e => by have := hlo _ e; omega)).trans h.rc), ?_, own_setS (own_keep h.pr (fun j hj => keep j (h.pr.lt j hj).2 (own_ne h.pr h.st (by decide) hj))) tb (by omega) 0 _, fun r' hr' => own_setS (d' r' ?_) tb (by omega) 0 _, ?_⟩
  · exact heap_setCell_same W' tb 0 _ 26 _ ((keep tb h.lt (fun e => by have := hlo tb e; omega)).trans h.tab)
  · rw [stC_add, List.length_append]
    exact own_setS ho tb (by omega) 0 _
  · rcases List.mem_append.1 hr' with hr' | hr'
    · exact h.dom r' hr'
    · simp at hr'; subst hr'; exact hd
  · rw [List.pairwise_append]
    exact ⟨h.ap, List.pairwise_singleton _ _, fun a ha c hc => by simp at hc; subst hc; exact hap a ha⟩
/-- Pairs with one more. -/
theorem TI.addP (h : TI w b tb v1 v2 rs ps W) {g cap : Nat} (p : LPr) (hg : W.grownBy W' v2.ownBlock) (ho : W'.ownsRow (tb + 1) 112 3 (.slice (some ⟨g, 0, none⟩) (ps.length + 1) cap) (ps.length + 1) (prC ps ++ [.int .i64 p.1, .int .i64 p.2.1, .int .i64 p.2.2])) :
    TI w b tb v1 (.slice (some ⟨g, 0, none⟩) (ps.length + 1) cap) rs (ps ++ [p]) (W'.setCell ⟨tb, 1, none⟩ (.slice (some ⟨g, 0, none⟩) (ps.length + 1) cap)) := by
  have hb := h.hb
  have ht := h.htb
  have keep : ∀ k, k < W.heap.size → v2.ownBlock ≠ some k → W'.heap[k]? = W.heap[k]? := fun k hk hne => hg.block k hk (fun e => hne e.symm)
  have hlo : ∀ j, v2.ownBlock = some j → tb + 1 ≤ j := fun j hj => own_base h.pr hj
  refine ⟨h.hb, h.htb, (h.src.grown hg (fun j hj => by have := hlo j hj; omega)).set tb (by omega) 1 _, (h.fr.grown hg (fun j hj => by have := hlo j hj; omega)).setHigh tb (by omega) 1 _, ?_, (Below.heap_setCell _ _ _ _ (by show w.heap.size ≠ tb; omega)).trans ((keep _ h.rlt (fun e => by have := hlo _ e; omega)).trans h.rc), own_setS (own_keep h.st (fun j hj => keep j (h.st.lt j hj).2 (own_ne h.st h.pr (by decide) hj))) tb (by omega) 1 _, ?_, fun r' hr' => own_setS (own_keep (h.dom r' hr') (fun j hj => keep j ((h.dom r' hr').lt j hj).2 (own_ne (h.dom r' hr') h.pr (by decide) hj))) tb (by omega) 1 _, h.ap⟩
  · exact heap_setCell_same W' tb 1 _ 26 _ ((keep tb h.lt (fun e => by have := hlo tb e; omega)).trans h.tab)
  · rw [prC_add, List.length_append]
    exact own_setS ho tb (by omega) 1 _
theorem own3_cells {C : Nat} {e : TypeId} {v : Value} {n : Nat} {xs : List Value} {W : World} (h : W.ownsRow C e 3 v n xs) (hn : 0 < n) : ∃ g cap, v = .slice (some ⟨g, 0, none⟩) n cap ∧ C ≤ g ∧ g < W.heap.size ∧ n ≤ cap ∧ ∀ j u, xs[j]? = some u → W.cell? ⟨g, j, none⟩ = some u ∧ W.frozen? ⟨g, j, none⟩ = false := by
  rcases h.2 with ⟨_, rfl⟩ | ⟨g, cap, cur, rfl, hg, hh, hc, _, _, ht⟩
  · omega
  · refine ⟨g, cap, rfl, hg, (Array.getElem?_eq_some_iff.1 hh).1, hc, fun j u hu => ?_⟩
    rw [← ht] at hu
    have hu' : cur[j]? = some u := by
      rw [List.getElem?_take] at hu
      split at hu
      · simpa using hu
      · cases hu
    exact ⟨by simp [World.cell?, hh, hu'], by simp [World.frozen?, hh]⟩
theorem stC_at (rs : List LSt) (i : Nat) (h : i < rs.length) : (stC rs)[i * 3]? = some (.int .i64 rs[i].1) ∧ (stC rs)[i * 3 + 1]? = some (.int .i64 rs[i].2.1) ∧ (stC rs)[i * 3 + 2]? = some rs[i].2.2.1 := flat3_at (fun r : LSt => (.int .i64 r.1, .int .i64 r.2.1, r.2.2.1)) rs i h
theorem prC_at (ps : List LPr) (i : Nat) (h : i < ps.length) : (prC ps)[i * 3]? = some (.int .i64 ps[i].1) ∧ (prC ps)[i * 3 + 1]? = some (.int .i64 ps[i].2.1) ∧ (prC ps)[i * 3 + 2]? = some (.int .i64 ps[i].2.2) := flat3_at (fun r : LPr => (.int .i64 r.1, .int .i64 r.2.1, .int .i64 r.2.2)) ps i h
theorem own_sts {C : Nat} {v : Value} {rs : List LSt} {W : World} (h : W.ownsRow C 93 3 v rs.length (stC rs)) : ∃ sl cap, v = .slice sl rs.length cap ∧ (rs = [] ∨ ∃ c o, sl = some ⟨c, o, none⟩ ∧ StAt W c o rs) := by
  by_cases hn : 0 < rs.length
  · obtain ⟨g, cap, e, _, hl, _, hc⟩ := own3_cells h hn
    refine ⟨_, cap, e, .inr ⟨g, 0, rfl, hl, fun i hi => ?_⟩⟩
    obtain ⟨a, b, c⟩ := stC_at rs i hi
    exact ⟨by simpa using (hc _ _ a).1, by simpa using (hc _ _ b).1, by simpa using (hc _ _ c).1⟩
  · have e : rs = [] := by cases rs; rfl; simp at hn
    subst e
    obtain ⟨sl, cap, hv⟩ := own_v h
    exact ⟨sl, cap, hv, .inl rfl⟩
theorem own_prs {C : Nat} {v : Value} {rs : List LPr} {W : World} (h : W.ownsRow C 112 3 v rs.length (prC rs)) : ∃ sl cap, v = .slice sl rs.length cap ∧ Prs W sl rs := by
  by_cases hn : 0 < rs.length
  · obtain ⟨g, cap, e, _, hl, _, hc⟩ := own3_cells h hn
    refine ⟨_, cap, e, .inr ⟨g, 0, rfl, hl, fun i hi => ?_⟩⟩
    obtain ⟨a, b, c⟩ := prC_at rs i hi
    exact ⟨by simpa using (hc _ _ a).1, by simpa using (hc _ _ b).1, by simpa using (hc _ _ c).1⟩
  · have e : rs = [] := by cases rs; rfl; simp at hn
    subst e
    obtain ⟨sl, cap, hv⟩ := own_v h
    exact ⟨sl, cap, hv, .inl rfl⟩
end

end Go.Proofs.Ytdmfljejlhlbnaa
namespace Go.Proofs.Ytdmfljejlhlbnaa
open Go.RowKit
set_option linter.unusedVariables false

theorem own3_set {C g n cap : Nat} {e : TypeId} {xs : List Value} {W : World} (h : W.ownsRow C e 3 (.slice (some ⟨g, 0, none⟩) n cap) n xs) (i : Nat) (x : Value) : (W.setCell ⟨g, i, none⟩ x).ownsRow C e 3 (.slice (some ⟨g, 0, none⟩) n cap) n (xs.set i x) := by
  refine ⟨by rw [List.length_set]; exact h.1, ?_⟩
  rcases h.2 with ⟨h, _⟩ | ⟨g', cap', cur, hv, hg, hh, hc, hm, hs, ht⟩
  · cases h
  · cases hv
    refine .inr ⟨g, cap, cur.setIfInBounds i x, rfl, hg, heap_setCell_same W g i cur e x hh, hc, hm, by simpa using hs, ?_⟩
    rw [Array.toList_setIfInBounds, List.take_set, ht]
theorem stC_set (rs : List LSt) (j : Nat) (h : j < rs.length) (r : LSt) : stC (rs.set j r) = (((stC rs).set (j * 3) (.int .i64 r.1)).set (j * 3 + 1) (.int .i64 r.2.1)).set (j * 3 + 2) r.2.2.1 := by
  induction rs generalizing j with
  | nil => simp at h
  | cons a t ih =>
    cases j with
    | zero => simp [stC]
    | succ j =>
      have h' : j < t.length := by simpa using h
      have := ih j h'
      unfold stC at this ⊢
      rw [List.set_cons_succ, List.flatMap_cons, List.flatMap_cons, this]
      rw [show (j + 1) * 3 = j * 3 + 3 by omega, show j * 3 + 3 + 1 = (j * 3 + 1) + 3 by omega, show j * 3 + 3 + 2 = (j * 3 + 2) + 3 by omega]
      rfl
theorem set_selfS {l : List Value} {i : Nat} {v : Value} (h : l[i]? = some v) : l.set i v = l := by
  obtain ⟨hi, e⟩ := List.getElem?_eq_some_iff.1 h
  rw [← e]
  exact List.set_getElem_self hi
theorem stC_id (rs : List LSt) (j : Nat) (h : j < rs.length) (x : Int) : stC (rs.set j (x, rs[j].2)) = (stC rs).set (j * 3) (.int .i64 x) := by
  obtain ⟨a, b, c⟩ := stC_at rs j h
  rw [stC_set rs j h]
  dsimp only
  rw [set_selfS (l := (stC rs).set (j * 3) _) (i := j * 3 + 1) (by rw [List.getElem?_set_ne (by omega)]; exact b), set_selfS (by rw [List.getElem?_set_ne (by omega)]; exact c)]
theorem stC_sc (rs : List LSt) (j : Nat) (h : j < rs.length) (x : Int) : stC (rs.set j (rs[j].1, x, rs[j].2.2)) = (stC rs).set (j * 3 + 1) (.int .i64 x) := by
  obtain ⟨a, b, c⟩ := stC_at rs j h
  rw [stC_set rs j h]
  dsimp only
  rw [set_selfS a, set_selfS (by rw [List.getElem?_set_ne (by omega)]; exact c)]
theorem stC_dom (rs : List LSt) (j : Nat) (h : j < rs.length) (d : Value) (zs : List Int) : stC (rs.set j (rs[j].1, rs[j].2.1, d, zs)) = (stC rs).set (j * 3 + 2) d := by
  obtain ⟨a, b, c⟩ := stC_at rs j h
  rw [stC_set rs j h]
  dsimp only
  rw [set_selfS a, set_selfS b]

section
variable {w : World} {b tb : Nat} {v1 v2 : Value} {rs : List LSt} {ps : List LPr} {W W' : World}
theorem dom_ne_st (h : TI w b tb v1 v2 rs ps W) {r : LSt} (hr : r ∈ rs) {j : Nat} (hj : r.2.2.1.ownBlock = some j) : v1.ownBlock ≠ some j := own_ne (h.dom r hr) h.st (by decide) hj
/-- A number of a station turned. -/
theorem TI.setI {g n cap : Nat} (h : TI w b tb (.slice (some ⟨g, 0, none⟩) n cap) v2 rs ps W) (j : Nat) (hj : j < rs.length) (o : Nat) (x : Value) (r : LSt) (hr : r.2.2 = rs[j].2.2) (hs : stC (rs.set j r) = (stC rs).set (j * 3 + o) x) :
    TI w b tb (.slice (some ⟨g, 0, none⟩) n cap) v2 (rs.set j r) ps (W.setCell ⟨g, j * 3 + o, none⟩ x) := by
  have hn : n = rs.length := by
    rcases h.st.2 with ⟨e, _⟩ | ⟨_, _, _, e, _⟩
    · cases e
    · cases e; rfl
  subst hn
  have hgl : tb + 1 ≤ g := own_base h.st rfl
  have hb := h.hb
  have ht := h.htb
  have hmem : ∀ r' ∈ rs.set j r, ∃ r0 ∈ rs, r0.2.2 = r'.2.2 := fun r' hr' => by
    obtain ⟨i, hi, rfl⟩ := List.getElem_of_mem hr'
    rw [List.length_set] at hi
    rw [List.getElem_set]
    split
    · exact ⟨rs[j], List.getElem_mem hj, hr.symm⟩
    · exact ⟨rs[i], List.getElem_mem hi, rfl⟩
  refine ⟨hb, ht, h.src.set g (by omega) _ _, h.fr.setHigh g (by omega) _ _, (Below.heap_setCell _ _ _ _ (by show tb ≠ g; omega)).trans h.tab, (Below.heap_setCell _ _ _ _ (by show w.heap.size ≠ g; omega)).trans h.rc, ?_, own_keep h.pr (fun i hi => Below.heap_setCell _ _ _ _ (by show i ≠ g; intro e; subst e; exact own_ne h.pr h.st (by decide) hi rfl)), fun r' hr' => ?_, ?_⟩
  · rw [List.length_set, hs]
    exact own3_set h.st _ _
  · obtain ⟨r0, h0, e⟩ := hmem r' hr'
    have := h.dom r0 h0
    rw [e] at this
    exact own_keep this (fun i hi => Below.heap_setCell _ _ _ _ (by show i ≠ g; intro e; subst e; exact own_ne this h.st (by decide) hi rfl))
  · have e : (rs.set j r).map (fun r => r.2.2.1.ownBlock) = rs.map (fun r => r.2.2.1.ownBlock) := by
      rw [List.map_set, hr]
      apply List.ext_getElem
      · simp
      · intro i h1 h2
        rw [List.getElem_set]
        split
        · rename_i e; subst e; simp
        · rfl
    have := h.ap
    rw [← List.pairwise_map (f := fun r : LSt => r.2.2.1.ownBlock) (R := fun a c => a ≠ c)] at this ⊢
    rwa [e]
/-- A station's domain turned. -/
theorem TI.setD {g n cap : Nat} (h : TI w b tb (.slice (some ⟨g, 0, none⟩) n cap) v2 rs ps W) (j : Nat) (hj : j < rs.length) (d : Value) (zs : List Int) {row : Option Nat} (hg : W.grownBy W' row) (hrow : ∀ k, row = some k → rs[j].2.2.1.ownBlock = some k) (ho : W'.ownsRow (tb + 1) 2 1 d zs.length (valsZ zs)) (hd : ∃ k, d.ownBlock = some k ∧ (rs[j].2.2.1.ownBlock = some k ∨ W.heap.size ≤ k)) :
    TI w b tb (.slice (some ⟨g, 0, none⟩) n cap) v2 (rs.set j (rs[j].1, rs[j].2.1, d, zs)) ps (W'.setCell ⟨g, j * 3 + 2, none⟩ d) := by
  have hn : n = rs.length := by
    rcases h.st.2 with ⟨e, _⟩ | ⟨_, _, _, e, _⟩
    · cases e
    · cases e; rfl
  subst hn
  have hgl : tb + 1 ≤ g := own_base h.st rfl
  have hb := h.hb
  have ht := h.htb
  have hdj := h.dom rs[j] (List.getElem_mem hj)
  have keep : ∀ k, k < W.heap.size → rs[j].2.2.1.ownBlock ≠ some k → W'.heap[k]? = W.heap[k]? := fun k hk hne => hg.block k hk (fun e => hne (hrow k e.symm))
  have hlo : ∀ k, row = some k → tb + 1 ≤ k := fun k hk => own_base hdj (hrow k hk)
  have hne : ∀ i (hi : i < rs.length), i ≠ j → rs[i].2.2.1.ownBlock ≠ rs[j].2.2.1.ownBlock := fun i hi hij => by
    have := List.pairwise_iff_getElem.1 h.ap
    rcases Nat.lt_or_gt_of_ne hij with l | l
    · exact this i j hi hj l
    · exact (this j i hj hi l).symm
  have st' : W'.ownsRow (tb + 1) 93 3 (.slice (some ⟨g, 0, none⟩) rs.length cap) rs.length (stC rs) := own_keep h.st (fun k hk => keep k (h.st.lt k hk).2 (fun e => own_ne hdj h.st (by decide) e hk))
  have hi' : ∀ i (hi : i < rs.length), i ≠ j → W'.ownsRow (tb + 1) 2 1 rs[i].2.2.1 rs[i].2.2.2.length (valsZ rs[i].2.2.2) := fun i hi hij => own_keep (h.dom rs[i] (List.getElem_mem hi)) (fun k hk => keep k ((h.dom rs[i] (List.getElem_mem hi)).lt k hk).2 (fun e => hne i hi hij (hk.trans e.symm)))
  refine ⟨hb, ht, (h.src.grown hg (fun k hk => by have := hlo k hk; omega)).set g (by omega) _ _, (h.fr.grown hg (fun k hk => by have := hlo k hk; omega)).setHigh g (by omega) _ _, (Below.heap_setCell _ _ _ _ (by show tb ≠ g; omega)).trans ((keep tb h.lt (fun e => by have := own_base hdj e; omega)).trans h.tab), (Below.heap_setCell _ _ _ _ (by show w.heap.size ≠ g; omega)).trans ((keep _ h.rlt (fun e => by have := own_base hdj e; omega)).trans h.rc), ?_, own_keep h.pr (fun i hi => (Below.heap_setCell _ _ _ _ (by show i ≠ g; intro e; subst e; exact own_ne h.pr h.st (by decide) hi rfl)).trans (keep i (h.pr.lt i hi).2 (fun e => own_ne h.pr hdj (by decide) hi e))), fun r' hr' => ?_, ?_⟩
  · rw [List.length_set, stC_dom rs j hj]
    exact own3_set st' _ _
  · have key : ∀ r0 : LSt, W'.ownsRow (tb + 1) 2 1 r0.2.2.1 r0.2.2.2.length (valsZ r0.2.2.2) → (W'.setCell ⟨g, j * 3 + 2, none⟩ d).ownsRow (tb + 1) 2 1 r0.2.2.1 r0.2.2.2.length (valsZ r0.2.2.2) := fun r0 h0 => own_keep h0 (fun i hi => Below.heap_setCell _ _ _ _ (by show i ≠ g; intro e; subst e; exact own_ne h0 st' (by decide) hi rfl))
    obtain ⟨i, hi, rfl⟩ := List.getElem_of_mem hr'
    rw [List.length_set] at hi
    rw [List.getElem_set]
    split
    · exact key _ ho
    · rename_i e; exact key _ (hi' i hi (fun e' => e e'.symm))
  · rw [List.pairwise_iff_getElem]
    intro i k hi hk hik
    rw [List.length_set] at hi hk
    rw [List.getElem_set, List.getElem_set]
    have low : ∀ i (hi : i < rs.length) m, rs[i].2.2.1.ownBlock = some m → m < W.heap.size := fun i hi m hm => ((h.dom rs[i] (List.getElem_mem hi)).lt m hm).2
    obtain ⟨m, hm, hm2⟩ := hd
    have ne' : ∀ i (hi : i < rs.length), i ≠ j → rs[i].2.2.1.ownBlock ≠ d.ownBlock := fun i hi hij e2 => by
      rw [hm] at e2
      rcases hm2 with e3 | e3
      · exact hne i hi hij (e2.trans e3.symm)
      · have := low i hi m e2; omega
    split
    · rename_i e1
      split
      · rename_i e2; omega
      · rename_i e2; exact (ne' k hk (fun e => e2 e.symm)).symm
    · rename_i e1
      split
      · exact ne' i hi (fun e => e1 e.symm)
      · exact List.pairwise_iff_getElem.1 h.ap i k hi hk hik
/-- What a drawn table is. -/
def LtPost (b : Nat) (w : World) (e : Ending) (w' : World) : Prop :=
  ∃ sl cap sl2 cap2 rs ps, e = .returned (TV sl (List.length rs) cap sl2 (List.length ps) cap2) ∧ rs.length ≤ 14 ∧ ps.length ≤ 41 ∧ (∀ p ∈ ps, WfP p) ∧ Src w' b ∧ Only b w w' ∧ ∀ W', w'.heap.size ≤ W'.heap.size → (∀ k, w.heap.size ≤ k → k < w'.heap.size → W'.heap[k]? = w'.heap[k]?) → Sts W' sl rs ∧ Prs W' sl2 ps
theorem TI.fin (h : TI w b tb v1 v2 rs ps W) (hd : ∀ r ∈ rs, r.2.2.2.length ≤ 1048576) : ∃ sl cap sl2 cap2, v1 = .slice sl rs.length cap ∧ v2 = .slice sl2 ps.length cap2 ∧ Src W b ∧ Only b w W ∧ ∀ W', Only b W W' → Sts W' sl rs ∧ Prs W' sl2 ps := by
  have hb := h.hb
  have ht := h.htb
  obtain ⟨sl, cap, e1, -⟩ := own_sts h.st
  obtain ⟨sl2, cap2, e2, -⟩ := own_prs h.pr
  refine ⟨sl, cap, sl2, cap2, e1, e2, h.src.src, h.fr, fun W' ho => ?_⟩
  have s' := own_only h.st ho (by omega)
  have p' := own_only h.pr ho (by omega)
  obtain ⟨sl', cap', e1', hs⟩ := own_sts s'
  obtain ⟨sl2', cap2', e2', hp⟩ := own_prs p'
  rw [e1] at e1'
  rw [e2] at e2'
  cases e1'
  cases e2'
  refine ⟨⟨hs, fun r hr => ?_⟩, hp⟩
  obtain ⟨sd, cd, e, hi⟩ := own_ints (own_only (h.dom r hr) ho (by omega))
  exact ⟨sd, cd, e, hi, hd r hr⟩
end

end Go.Proofs.Ytdmfljejlhlbnaa
namespace Go.Proofs.Ytdmfljejlhlbnaa
open Go.RowKit
set_option linter.unusedVariables false

theorem info80 : (Try.prog.info? 93).map (fun i => (i.zero, i.size, i.bytes)) = some (some (.agg #[.int .i64 0, .int .i64 0, .slice none 0 0]), 3, 40) := by kernel_rfl
theorem info82 : (Try.prog.info? 112).map (fun i => (i.zero, i.size, i.bytes)) = some (some (.agg #[.int .i64 0, .int .i64 0, .int .i64 0]), 3, 24) := by kernel_rfl
theorem kind_ok (r : Nat) (h : (r : Int) < 3) : 0 ≤ IntKind.i64.wrap (1 + IntKind.i64.wrap ((r : Int) / 2)) ∧ IntKind.i64.wrap (1 + IntKind.i64.wrap ((r : Int) / 2)) ≤ 1000 := by
  have h : r = 0 ∨ r = 1 ∨ r = 2 := by omega
  rcases h with rfl | rfl | rfl <;> decide
theorem hd_set {rs : List LSt} {j : Nat} {r' : LSt} (h : ∀ r ∈ rs, r.2.2.2.length ≤ 1048576) (h' : r'.2.2.2.length ≤ 1048576) : ∀ r ∈ rs.set j r', r.2.2.2.length ≤ 1048576 := fun r hr => by
  rcases List.mem_or_eq_of_mem_set hr with hr | rfl
  · exact h r hr
  · exact h'
theorem set_alloc (w : World) (g i : Nat) (v : Value) (o : Obj) (h : g < w.heap.size) : (w.alloc o).setCell ⟨g, i, none⟩ v = (w.setCell ⟨g, i, none⟩ v).alloc o := World.setCell_alloc_past o g i v h
theorem kind_ok3 (r : Nat) (h : (r : Int) < 2) : 0 ≤ IntKind.i64.wrap (3 * (r : Int)) ∧ IntKind.i64.wrap (3 * (r : Int)) ≤ 1000 := by
  have h : r = 0 ∨ r = 1 := by omega
  rcases h with rfl | rfl <;> decide
theorem three_new3 (w : World) (a b c : Value) (t : TypeId) : ∀ (j : Nat) (u : Value), [a, b, c][j]? = some u → (w.alloc (.cells #[a, b, c] t)).cell? ((⟨w.heap.size, 0, none⟩ : Addr).add j) = some u := by
  intro j u hu
  have hn := new_at w (.cells #[a, b, c] t)
  rw [show (⟨w.heap.size, 0, none⟩ : Addr).add j = ⟨w.heap.size, j, none⟩ by unfold Addr.add; by_cases h : j = 0 <;> simp [h]]
  simp only [World.cell?, hn]
  simpa using hu
/-- A station being drawn, in a variable of its own, with the row of its domain. -/
structure XI (xb : Nat) (x y : Int) (d : Value) (zs : List Int) (W : World) : Prop where
  at' : W.heap[xb]? = some (.cells #[.int .i64 x, .int .i64 y, d] 93)
  own : W.ownsRow (xb + 1) 2 1 d zs.length (valsZ zs)
theorem XI.lt {xb : Nat} {x y : Int} {d : Value} {zs : List Int} {W : World} (h : XI xb x y d zs W) : xb < W.heap.size := (Array.getElem?_eq_some_iff.1 h.at').1
theorem XI.facts {xb : Nat} {x y : Int} {d : Value} {zs : List Int} {W : World} (h : XI xb x y d zs W) : W.cell? ⟨xb, 0, none⟩ = some (.int .i64 x) ∧ W.cell? ⟨xb, 1, none⟩ = some (.int .i64 y) ∧ W.cell? ⟨xb, 2, none⟩ = some d ∧ (∀ o, W.frozen? ⟨xb, o, none⟩ = false) ∧ xb < W.heap.size :=
  ⟨by simp [World.cell?, h.at'], by simp [World.cell?, h.at'], by simp [World.cell?, h.at'], fun o => by simp [World.frozen?, h.at'], h.lt⟩
theorem XI.only {xb b : Nat} {x y : Int} {d : Value} {zs : List Int} {W W' : World} (h : XI xb x y d zs W) (ho : Only b W W') (hb : b < xb) : XI xb x y d zs W' :=
  ⟨(ho.block xb h.lt (by omega)).trans h.at', own_only h.own ho (by omega)⟩
theorem XI.below {xb : Nat} {x y : Int} {d : Value} {zs : List Int} {W W' : World} (h : XI xb x y d zs W) (ho : Below W.heap.size W W') : XI xb x y d zs W' :=
  ⟨(ho.block xb h.lt).trans h.at', own_below h.own ho⟩
theorem XI.store {xb : Nat} {x y : Int} {d d' : Value} {zs zs' : List Int} {W W' : World} (h : XI xb x y d zs W) (hg : W.grownBy W' d.ownBlock) (ho : W'.ownsRow (xb + 1) 2 1 d' zs'.length (valsZ zs')) : XI xb x y d' zs' (W'.setCell ⟨xb, 2, none⟩ d') :=
  ⟨heap_setCell_same W' xb 2 _ 93 _ ((hg.block xb h.lt (fun e => by have := own_base h.own e.symm; omega)).trans h.at'), own_setS ho xb (by omega) 2 _⟩
theorem own_new (w : World) (a : Value) (C : Nat) (h : C ≤ w.heap.size) : (w.alloc (.cells #[a] 2)).ownsRow C 2 1 (.slice (some ⟨w.heap.size, 0, none⟩) 1 1) 1 [a] :=
  ⟨rfl, .inr ⟨_, 1, #[a], rfl, h, new_at _ _, Nat.le_refl _, by unfold maxLen; omega, rfl, rfl⟩⟩
theorem own_some {C : Nat} {e : TypeId} {m : Nat} {v : Value} {n : Nat} {xs : List Value} {w : World} (h : w.ownsRow C e m v n xs) (hn : n ≠ 0) : ∃ k, v.ownBlock = some k := by
  rcases h.2 with ⟨_, h0⟩ | ⟨g, cap, cur, rfl, _⟩
  · exact absurd h0 hn
  · exact ⟨g, rfl⟩
section
variable {w : World} {b tb : Nat} {v1 v2 : Value} {rs : List LSt} {ps : List LPr} {W W' : World}
theorem TI.set (h : TI w b tb v1 v2 rs ps W) (c : Nat) (hc : tb < c) (hn : ∀ k, (v1.ownBlock = some k ∨ v2.ownBlock = some k ∨ ∃ r ∈ rs, r.2.2.1.ownBlock = some k) → k ≠ c) (o : Nat) (x : Value) : TI w b tb v1 v2 rs ps (W.setCell ⟨c, o, none⟩ x) := by
  have hb := h.hb
  have ht := h.htb
  exact ⟨hb, ht, h.src.set c (by omega) _ _, h.fr.setHigh c (by omega) _ _, (Below.heap_setCell _ _ _ _ (by show tb ≠ c; omega)).trans h.tab, (Below.heap_setCell _ _ _ _ (by show w.heap.size ≠ c; omega)).trans h.rc, own_keep h.st (fun j hj => Below.heap_setCell _ _ _ _ (hn j (.inl hj))), own_keep h.pr (fun j hj => Below.heap_setCell _ _ _ _ (hn j (.inr (.inl hj)))), fun r hr => own_keep (h.dom r hr) (fun j hj => Below.heap_setCell _ _ _ _ (hn j (.inr (.inr ⟨r, hr, hj⟩)))), h.ap⟩
theorem TI.fin2 (h : TI w b tb v1 v2 rs ps W) (hd : ∀ r ∈ rs, r.2.2.2.length ≤ 1048576) (hr : rs.length ≤ 14) (hp : ps.length ≤ 41) (hw : ∀ p ∈ ps, WfP p) :
    LtPost b w (.returned (.agg #[v1, v2])) ((W.setCell ⟨w.heap.size, 0, none⟩ v1).setCell ⟨w.heap.size, 1, none⟩ v2) := by
  have hb := h.hb
  have ht := h.htb
  have keep : ∀ k, k ≠ w.heap.size → ((W.setCell ⟨w.heap.size, 0, none⟩ v1).setCell ⟨w.heap.size, 1, none⟩ v2).heap[k]? = W.heap[k]? := fun k hk => (Below.heap_setCell _ _ _ _ hk).trans (Below.heap_setCell _ _ _ _ hk)
  have st' := own_keep (w' := (W.setCell ⟨w.heap.size, 0, none⟩ v1).setCell ⟨w.heap.size, 1, none⟩ v2) h.st (fun j hj => keep j (by have := own_base h.st hj; omega))
  have pr' := own_keep (w' := (W.setCell ⟨w.heap.size, 0, none⟩ v1).setCell ⟨w.heap.size, 1, none⟩ v2) h.pr (fun j hj => keep j (by have := own_base h.pr hj; omega))
  have dm' := fun r hr => own_keep (w' := (W.setCell ⟨w.heap.size, 0, none⟩ v1).setCell ⟨w.heap.size, 1, none⟩ v2) (h.dom r hr) (fun j hj => keep j (by have := own_base (h.dom r hr) hj; omega))
  obtain ⟨sl, cap, e1, -⟩ := own_sts st'
  obtain ⟨sl2, cap2, e2, -⟩ := own_prs pr'
  refine ⟨sl, cap, sl2, cap2, rs, ps, by rw [e1, e2], hr, hp, hw, ((h.src.set _ (Nat.le_refl _) 0 _).set _ (Nat.le_refl _) 1 _).src, (h.fr.setHigh _ (Nat.le_refl _) 0 _).setHigh _ (Nat.le_refl _) 1 _, fun W' hsz hk => ?_⟩
  have kk : ∀ {e : TypeId} {m : Nat} {v : Value} {n : Nat} {xs : List Value}, ((W.setCell ⟨w.heap.size, 0, none⟩ v1).setCell ⟨w.heap.size, 1, none⟩ v2).ownsRow (tb + 1) e m v n xs → W'.ownsRow (tb + 1) e m v n xs := fun h0 => own_keep h0 (fun j hj => hk j (by have := own_base h0 hj; omega) (h0.lt j hj).2)
  obtain ⟨sl', cap', e1', hs⟩ := own_sts (kk st')
  obtain ⟨sl2', cap2', e2', hp⟩ := own_prs (kk pr')
  rw [e1] at e1'
  rw [e2] at e2'
  cases e1'
  cases e2'
  refine ⟨⟨hs, fun r hr => ?_⟩, hp⟩
  obtain ⟨sd, cd, e, hi⟩ := own_ints (kk (dm' r hr))
  exact ⟨sd, cd, e, hi, hd r hr⟩
/-- The result's cells. -/
theorem TI.res (h : TI w b tb v1 v2 rs ps W) : W.cell? ⟨w.heap.size, 0, none⟩ = some (.slice none 0 0) ∧ W.cell? ⟨w.heap.size, 1, none⟩ = some (.slice none 0 0) ∧ W.frozen? ⟨w.heap.size, 0, none⟩ = false ∧ W.frozen? ⟨w.heap.size, 1, none⟩ = false ∧ w.heap.size < W.heap.size ∧ ((W.setCell ⟨w.heap.size, 0, none⟩ v1).setCell ⟨w.heap.size, 1, none⟩ v2).cell? ⟨w.heap.size, 0, none⟩ = some v1 ∧ ((W.setCell ⟨w.heap.size, 0, none⟩ v1).setCell ⟨w.heap.size, 1, none⟩ v2).cell? ⟨w.heap.size, 1, none⟩ = some v2 := by
  have e := heap_setCell_same _ w.heap.size 1 _ 26 v2 (heap_setCell_same W w.heap.size 0 _ 26 v1 h.rc)
  refine ⟨by simp [World.cell?, h.rc], by simp [World.cell?, h.rc], by simp [World.frozen?, h.rc], by simp [World.frozen?, h.rc], h.rlt, ?_, ?_⟩ <;> simp [World.cell?, e]
/-- All that the table has lies below B. -/
def Under (B : Nat) (v1 v2 : Value) (rs : List LSt) : Prop := ∀ k, (v1.ownBlock = some k ∨ v2.ownBlock = some k ∨ ∃ r ∈ rs, r.2.2.1.ownBlock = some k) → k < B
theorem TI.under (h : TI w b tb v1 v2 rs ps W) : Under W.heap.size v1 v2 rs := fun k hk => by
  rcases hk with hk | hk | ⟨r, hr, hk⟩
  · exact (h.st.lt k hk).2
  · exact (h.pr.lt k hk).2
  · exact ((h.dom r hr).lt k hk).2
theorem TI.high (h : TI w b tb v1 v2 rs ps W) {B : Nat} (hu : Under B v1 v2 rs) (hB : tb < B) {row : Option Nat} (hg : W.grownBy W' row) (hr : ∀ k, row = some k → B ≤ k) : TI w b tb v1 v2 rs ps W' :=
  h.other hg (fun j hj => by
    have h1 := hr j hj
    exact ⟨by omega, fun e => by have := hu j (.inl e); omega, fun e => by have := hu j (.inr (.inl e)); omega, fun r hr e => by have := hu j (.inr (.inr ⟨r, hr, e⟩)); omega⟩)
theorem TI.highSet (h : TI w b tb v1 v2 rs ps W) {B : Nat} (hu : Under B v1 v2 rs) (hB : tb < B) (c : Nat) (hc : B ≤ c) (o : Nat) (x : Value) : TI w b tb v1 v2 rs ps (W.setCell ⟨c, o, none⟩ x) :=
  h.set c (by omega) (fun k hk => by have := hu k hk; omega) o x
end

set_option maxRecDepth 100000 in
set_option maxHeartbeats 8000000 in
/-- l04Table. -/
theorem tab_any (b : Nat) (w : World) (hs : Src w b) :
    Calls Try.prog 64 #[.pointer (some ⟨b, 0, none⟩)] w fun e w' => LtPost b w e w' := by
  obtain ⟨i2, hi2, hz20, hz21, hz22⟩ := info_parts info2'
  obtain ⟨i80, hi80, hz80, hz81, hz82⟩ := info_parts info80
  obtain ⟨i82, hi82, hy80, hy81, hy82⟩ := info_parts info82
  have hb : b < w.heap.size := hs.lt
  have SB := Lib.hid (SrcB.of hs)
  have N : Hid (∀ (m : Int) (W : World), 1 ≤ m → m ≤ 100 → SrcB w.heap.size W b → Calls Try.prog 67 #[.pointer (some ⟨b, 0, none⟩), .int .i64 m] W fun e w' => ∃ r : Nat, e = .returned (.int .i64 (r : Int)) ∧ (r : Int) < m ∧ SrcB w.heap.size w' b ∧ Only b W w') := fun m W h1 h2 hs => by
    refine (nB_lt _ b m W h1 (by omega) hs).mono ?_
    rintro e w' ⟨r, rfl, r0, r1, h, o⟩
    exact ⟨r.toNat, by rw [Int.toNat_of_nonneg r0], by omega, h, o⟩
  have O : Hid (∀ (m : Int) (W : World), m ≤ 100 → SrcB w.heap.size W b → Calls Try.prog 97 #[.pointer (some ⟨b, 0, none⟩), .int .i64 m] W fun e w' => ∃ t : Bool, e = .returned (.bool t) ∧ SrcB w.heap.size w' b ∧ Only b W w') := fun m W h2 hs => oneB_any _ b m W (by omega) hs
  obtain ⟨sl0, len0, cap0, k0, mix0, sz0, sa0, sb0, sk0, sl1, sm1, sm2, sz1, sz2, sbl⟩ := hs
  have SA := Lib.hid sa0
  have T0 : Hid (TI w b (w.heap.size + 1) (.slice none 0 0) (.slice none 0 0) [] [] ((w.alloc (.cells #[.slice none 0 0, .slice none 0 0] 26)).alloc (.cells #[.slice none 0 0, .slice none 0 0] 26))) := by
    refine ⟨hb, by omega, (SB.out.below (bA0 _ _)).below (bA0 _ _), (((Only.refl b w).alloc _).alloc _), ?_, (Below.heap_alloc _ _ _ (by simp)).trans (new_at _ _), ⟨rfl, .inl ⟨rfl, rfl⟩⟩, ⟨rfl, .inl ⟨rfl, rfl⟩⟩, fun r hr => (by cases hr), List.Pairwise.nil⟩
    have := new_at (w.alloc (.cells #[.slice none 0 0, .slice none 0 0] 26)) (.cells #[.slice none 0 0, .slice none 0 0] 26)
    simpa using this
  have zc : ((w.alloc (.cells #[.slice none 0 0, .slice none 0 0] 26)).alloc (.cells #[.slice none 0 0, .slice none 0 0] 26)).cell? ⟨b, 3, none⟩ = some (.int .i64 sz0) := by
    have h1 := (((Only.refl b w).alloc (.cells #[.slice none 0 0, .slice none 0 0] 26)).alloc (.cells #[.slice none 0 0, .slice none 0 0] 26))
    have e : ((w.alloc (.cells #[.slice none 0 0, .slice none 0 0] 26)).alloc (.cells #[.slice none 0 0, .slice none 0 0] 26)).heap[b]? = w.heap[b]? := by
      rw [Below.heap_alloc _ _ _ (by simp; omega), Below.heap_alloc _ _ _ hb]
    have := SrcAt.cells (show SrcAt ((w.alloc (.cells #[.slice none 0 0, .slice none 0 0] 26)).alloc (.cells #[.slice none 0 0, .slice none 0 0] 26)) b sl0 len0 cap0 k0 mix0 sz0 from e.trans SA.out)
    exact this.2.2.2.1
  have bl2 : b < ((w.alloc (.cells #[.slice none 0 0, .slice none 0 0] 26)).alloc (.cells #[.slice none 0 0, .slice none 0 0] 26)).heap.size := by simp; omega
  clear sa0 sb0 SA
  have hq3 : 0 ≤ sz0.tdiv 3 ∧ sz0.tdiv 3 ≤ 4 := by rw [Int.tdiv_eq_ediv_of_nonneg sz1]; omega
  go_enter Try.func64, Try.ntmps64
  go_wp2_with fail
  refine (N.out _ _ (by omega) (by omega) T0.out.src).mono ?_
  rintro e w1 ⟨r1, rfl, hr1, s1, o1⟩
  have T1 := Lib.hid (T0.out.call s1 o1)
  clear s1 o1 zc bl2 T0
  have h1q : r1 ≤ 6 := by omega
  generalize htb : w.heap.size + 1 = tb at *
  go_wp2_with fail
  refine (O.out _ _ (by decide) T1.out.src).mono ?_
  rintro e w2 ⟨t2, rfl, s2, o2⟩
  have T2 := Lib.hid (T1.out.call s2 o2)
  clear s2 o2 T1
  go_upto_if 22 with fail
  go_cut [4] (fun v W => ∃ n : Nat, v = .int .i64 (n : Int) ∧ 2 ≤ n ∧ n ≤ 14 ∧ Hid (TI w b tb (.slice none 0 0) (.slice none 0 0) [] [] W))
  case first =>
    cases t2 with
    | false =>
      go_wp2_with fail
      go_meet
      exact ⟨2 + r1, by push_cast; rfl, by omega, by omega, T2⟩
    | true =>
      go_wp2_with fail
      refine (N.out _ _ (by decide) (by decide) T2.out.src).mono ?_
      rintro e w3 ⟨r3, rfl, hr3, s3, o3⟩
      have T3 := Lib.hid (T2.out.call s3 o3)
      clear s3 o3 T2
      go_wp2_with fail
      go_meet
      exact ⟨11 + r3, by push_cast; rfl, by omega, by omega, T3⟩
  case rest =>
    obtain ⟨n, rfl, hn2, hn14, T3⟩ := hcut
    clear T2
    go_wp2
    go_loopw [4, 5] (fun nv iv W => ∃ (k i : Nat) (v1 : Value) (rs : List LSt), nv = .int .i64 (k : Int) ∧ iv = .int .i64 (i : Int) ∧ 2 ≤ k + rs.length ∧ k + rs.length ≤ 14 ∧ i ≤ 2 * rs.length ∧ Hid (∀ r ∈ rs, (0 ≤ r.1 ∧ r.1 ≤ 1000) ∧ r.2.2.2 ≠ [] ∧ r.2.2.2.length ≤ 8) ∧ Hid (TI w b tb v1 (.slice none 0 0) rs [] W)) (fun nv _ _ => (intOf nv).toNat)
    case atStart => exact ⟨n, 0, .slice none 0 0, [], rfl, rfl, by simpa using hn2, by simpa using hn14, Nat.zero_le _, (fun r hr => by cases hr), T3⟩
    case round =>
      obtain ⟨k, i, v1, rs, rfl, rfl, hk2, hkr, hir, HR, H⟩ := hrel
      by_cases hk : 0 < k
      · have hk' : (0 : Int) < (k : Int) := by omega
        have hqk : Hid ((k : Int) - 1 = ((k - 1 : Nat) : Int)) := by show _ = _; omega
        go_wp2_with fail
        refine (N.out _ _ (by decide) (by decide) H.out.src).mono ?_
        rintro e w4 ⟨r4, rfl, hr4, s4, o4⟩
        have T4 := Lib.hid (H.out.call s4 o4)
        clear s4 o4
        go_wp2_with fail
        refine (N.out _ _ (by decide) (by decide) T4.out.src).mono ?_
        rintro e w5 ⟨r5, rfl, hr5, s5, o5⟩
        have T5 := Lib.hid (T4.out.call s5 o5)
        clear s5 o5 T4 H
        have hr4' : r4 ≤ 1 := by omega
        obtain ⟨x, EX'⟩ : ∃ x : Int, x = (i : Int) + 1 + (r4 : Int) := ⟨_, rfl⟩
        have EX := Lib.hid EX'
        obtain ⟨y, EY'⟩ : ∃ y : Int, y = 1 + (r5 : Int) := ⟨_, rfl⟩
        have HX := Lib.hid (show 0 ≤ x ∧ x ≤ 1000 by omega)
        have U5 := Lib.hid T5.out.under
        have tb5 := T5.out.lt
        have X6 : Hid (XI w5.heap.size x y (.slice none 0 0) [] (w5.alloc (.cells #[.int .i64 x, .int .i64 y, .slice none 0 0] 93))) := ⟨new_at _ _, ⟨rfl, .inl ⟨rfl, rfl⟩⟩⟩
        have T6 := Lib.hid (T5.out.alloc (.cells #[.int .i64 x, .int .i64 y, .slice none 0 0] 93))
        go_wp2
        rw [← EX', ← EY']
        obtain ⟨w6, e6⟩ : ∃ w6, w6 = w5.alloc (.cells #[.int .i64 x, .int .i64 y, .slice none 0 0] 93) := ⟨_, rfl⟩
        rw [← e6] at X6 T6 ⊢
        obtain ⟨xb, exb⟩ : ∃ xb, xb = w5.heap.size := ⟨_, rfl⟩
        rw [← exb] at X6 U5 tb5 ⊢
        clear e6 exb EX' EY' T5
        have hbx : b < xb := by have := T6.out.hb; have := T6.out.htb; omega
        go_loopw [7] (fun cv W => ∃ (c : Nat) (d : Value) (zs : List Int), cv = .int .i64 (c : Int) ∧ 2 ≤ c ∧ c ≤ 8 ∧ zs.length + 2 ≤ c ∧ Hid (XI xb x y d zs W) ∧ Hid (TI w b tb v1 (.slice none 0 0) rs [] W)) (fun cv _ => 8 - (intOf cv).toNat)
        case atStart => exact ⟨2, _, [], rfl, by omega, by omega, by simp, X6, T6⟩
        case round =>
          obtain ⟨c, d, zs, rfl, hc2, hc8, hzc, HXI, HTI⟩ := hrel
          clear X6 T6
          by_cases hc : c < 8
          · have hc' : (c : Int) < 8 := by omega
            go_wp2_with fail
            refine (O.out _ _ (by decide) HTI.out.src).mono ?_
            rintro e w7 ⟨t7, rfl, s7, o7⟩
            have T7 := Lib.hid (HTI.out.call s7 o7)
            have X7 := Lib.hid (HXI.out.only o7 hbx)
            clear s7 o7 HTI HXI
            cases t7 with
            | false =>
              go_wp2
              go_roundw
              case rel => exact ⟨c + 1, d, zs, by go_num, by omega, by omega, by omega, X7, T7⟩
              case measure => simp [intOf]; omega
            | true =>
              obtain ⟨x0, x1, x2, xf, xl⟩ := X7.out.facts
              have X8 := Lib.hid (X7.out.below (bA0 w7 (.cells #[.int .i64 (c : Int)] 2)))
              have T8 := Lib.hid (T7.out.alloc (.cells #[.int .i64 (c : Int)] 2))
              have EV := Lib.hid (show valsZ zs ++ [.int .i64 (c : Int)] = valsZ (zs ++ [(c : Int)]) by simp [valsZ])
              go_wp2_with (first | (at_builtin; refine wpList_append_lies _ rfl (.tmp 47) (.tmp 49) 40 rfl (xb + 1) 2 i2 (.int .i64 0) 1 8 Try.underlying40 hi2 hz20 hz21 hz22 rfl (by decide) _ _ _ rfl X8.out.own ⟨w7.heap.size, 0, none⟩ 1 1 [.int .i64 (c : Int)] rfl rfl (cell_one_new _ _ _) (by intro u hu; simp at hu; subst hu; rfl) (by decide) (by unfold maxLen; omega) (by omega) (by simp; omega) (w7.heap.size + 1) (by simp) ?_))
              intro g9 cap9 w9 own9 grow9 hg9 hlt9
              have XB9 := Lib.hid ((grow9.block xb X8.out.lt (fun e => by have := own_base X8.out.own e.symm; omega)).trans X8.out.at')
              have j0 : w9.cell? ⟨xb, 2, none⟩ = some d := by simp [World.cell?, XB9.out]
              have jf : w9.frozen? ⟨xb, 2, none⟩ = false := by simp [World.frozen?, XB9.out]
              have jl : xb < w9.heap.size := (Array.getElem?_eq_some_iff.1 XB9.out).1
              rw [EV.out] at own9
              have X9 := Lib.hid (X8.out.store (zs' := zs ++ [(c : Int)]) grow9 (by rw [List.length_append]; exact own9))
              have T9 := Lib.hid ((T8.out.high U5.out tb5 grow9 (fun k hk => by have := own_base X8.out.own hk; omega)).highSet U5.out tb5 xb (Nat.le_refl _) 2 (.slice (some ⟨g9, 0, none⟩) (zs.length + 1) cap9))
              clear own9 grow9 hg9 hlt9 x0 x1 x2 xf xl X8 T8 EV X7 T7
              go_wp2
              go_roundw
              case rel => exact ⟨c + 1, _, zs ++ [(c : Int)], by go_num, by omega, by omega, by simp; omega, X9, T9⟩
              case measure => simp [intOf]; omega
          · have hc' : ¬ (c : Int) < 8 := by omega
            obtain ⟨x0, x1, x2, xf, xl⟩ := HXI.out.facts
            obtain ⟨sld, capd, ed⟩ := own_v HXI.out.own
            subst ed
            by_cases hz : zs.length = 0
            · have hzb : ((zs.length : Int) == 0) = true := by rw [hz]; rfl
              have OD := Lib.hid HXI.out.own
              generalize hzl : zs.length = zl at *
              go_wp2_with fail
              refine (N.out _ _ (by decide) (by decide) HTI.out.src).mono ?_
              rintro e w7 ⟨r7, rfl, hr7, s7, o7⟩
              have T7 := Lib.hid (HTI.out.call s7 o7)
              have X7 := Lib.hid (HXI.out.only o7 hbx)
              clear s7 o7 x0 x1 x2 xf xl HTI HXI OD
              obtain ⟨x0, x1, x2, xf, xl⟩ := X7.out.facts
              have T8 := Lib.hid ((T7.out.highSet U5.out tb5 xb (Nat.le_refl _) 2 (.slice (some ⟨w7.heap.size, 0, none⟩) 1 1)).alloc (.cells #[.int .i64 (2 + (r7 : Int))] 2))
              have szq : (w7.setCell ⟨xb, 2, none⟩ (.slice (some ⟨w7.heap.size, 0, none⟩) 1 1)).heap.size = w7.heap.size := by simp [World.setCell]
              have OW := own_new (w7.setCell ⟨xb, 2, none⟩ (.slice (some ⟨w7.heap.size, 0, none⟩) 1 1)) (.int .i64 (2 + (r7 : Int))) (xb + 1) (by rw [szq]; omega)
              rw [szq] at OW
              have X8 : Hid (XI xb x y (.slice (some ⟨w7.heap.size, 0, none⟩) 1 1) [2 + (r7 : Int)] ((w7.setCell ⟨xb, 2, none⟩ (.slice (some ⟨w7.heap.size, 0, none⟩) 1 1)).alloc (.cells #[.int .i64 (2 + (r7 : Int))] 2))) := ⟨(Below.heap_alloc _ _ _ (by rw [szq]; exact xl)).trans (heap_setCell_same _ xb 2 _ 93 _ X7.out.at'), OW⟩
              clear OW X7 T7 hz hzl hzb szq
              go_upto_region 17 with fail
              obtain ⟨w8, e8⟩ : ∃ w8, w8 = ((w7.setCell ⟨xb, 2, none⟩ (.slice (some ⟨w7.heap.size, 0, none⟩) 1 1)).alloc (.cells #[.int .i64 (2 + (r7 : Int))] 2)) := ⟨_, rfl⟩
              rw [← e8] at X8 T8 ⊢
              obtain ⟨nb, enb⟩ : ∃ nb, nb = w7.heap.size := ⟨_, rfl⟩
              rw [← enb] at X8 ⊢
              clear e8 enb x0 x1 x2 xf xl
              obtain ⟨x0, x1, x2, xf, xl⟩ := X8.out.facts
              have DO := Lib.hid (own_mono X8.out.own (show tb + 1 ≤ xb + 1 by omega))
              have ZN := Lib.hid (show [2 + (r7 : Int)] ≠ [] ∧ [2 + (r7 : Int)].length ≤ 8 from ⟨by simp, by simp⟩)
              have HAP : Hid (∀ r' ∈ rs, r'.2.2.1.ownBlock ≠ (Value.slice (some ⟨nb, 0, none⟩) 1 1).ownBlock) := fun r' hr' e => by
                have h1 := own_base X8.out.own (j := nb) rfl
                have h2 := U5.out nb (.inr (.inr ⟨r', hr', e⟩))
                omega
              have tl9 := T8.out.lt
              have G0 := Lib.hid (T8.out.alloc (.cells #[.int .i64 x, .int .i64 y, (.slice (some ⟨nb, 0, none⟩) 1 1)] 93))
              obtain ⟨f0, f1, ff, fl⟩ := T8.out.facts
              go_wp2_with (first | (at_builtin; refine wpList_append_lies _ rfl (.tmp 62) (.tmp 64) 23 rfl (tb + 1) 93 i80 (.agg #[.int .i64 0, .int .i64 0, .slice none 0 0]) 3 40 Try.underlying23 hi80 hz80 hz81 hz82 rfl (by decide) _ _ _ rfl G0.out.st ⟨w8.heap.size, 0, none⟩ 1 1 [.int .i64 x, .int .i64 y, (.slice (some ⟨nb, 0, none⟩) 1 1)] rfl rfl (three_new3 _ _ _ _ _) (by intro u hu; simp at hu; rcases hu with rfl | rfl | rfl <;> rfl) (by decide) (by unfold maxLen; omega) (by omega) (by simp; omega) (w8.heap.size + 1) (by simp) ?_))
              intro g9 cap9 w9 own9 grow9 hg9 hlt9
              have TB9 := Lib.hid ((grow9.block tb G0.out.lt (fun e => by have := own_base G0.out.st e.symm; omega)).trans G0.out.tab)
              have j0 : w9.cell? ⟨tb, 0, none⟩ = some v1 := by simp [World.cell?, TB9.out]
              have jf : w9.frozen? ⟨tb, 0, none⟩ = false := by simp [World.frozen?, TB9.out]
              have jl : tb < w9.heap.size := (Array.getElem?_eq_some_iff.1 TB9.out).1
              have T10 := Lib.hid (G0.out.addS (x, y, (.slice (some ⟨nb, 0, none⟩) 1 1), [2 + (r7 : Int)]) grow9 own9 (own_below DO.out (bA0 _ _)) HAP.out)
              have HR2 : Hid (∀ r ∈ rs ++ [(x, y, (.slice (some ⟨nb, 0, none⟩) 1 1), [2 + (r7 : Int)])], (0 ≤ r.1 ∧ r.1 ≤ 1000) ∧ r.2.2.2 ≠ [] ∧ r.2.2.2.length ≤ 8) := fun r hr => by
                rcases List.mem_append.1 hr with hr | hr
                · exact HR.out r hr
                · simp at hr; subst hr; exact ⟨⟨HX.out.1, HX.out.2⟩, ZN.out⟩
              clear own9 grow9 hg9 hlt9 f0 f1 ff fl
              go_wp2
              go_roundw
              case rel => exact ⟨k - 1, i + 1 + r4, _, rs ++ [(x, y, (.slice (some ⟨nb, 0, none⟩) 1 1), [2 + (r7 : Int)])], by first | rfl | (congr 1; done) | (congr 1; omega), by have := EX.out; congr 1 <;> omega, by simp; omega, by simp; omega, by simp; omega, HR2, T10⟩
              case measure => simp [intOf]; omega
            · have hzb : ((zs.length : Int) == 0) = false := beq_eq_false_iff_ne.2 (by omega)
              have DO := Lib.hid (own_mono HXI.out.own (show tb + 1 ≤ xb + 1 by omega))
              have ZN := Lib.hid (show zs ≠ [] ∧ zs.length ≤ 8 from ⟨fun e => hz (by rw [e]; rfl), by omega⟩)
              have HAP : Hid (∀ r' ∈ rs, r'.2.2.1.ownBlock ≠ (Value.slice sld zs.length capd).ownBlock) := fun r' hr' e => by
                obtain ⟨m, hm⟩ := own_some HXI.out.own hz
                have h1 := own_base HXI.out.own hm
                have h2 := U5.out m (.inr (.inr ⟨r', hr', e.trans hm⟩))
                omega
              generalize hzl : zs.length = zl at *
              have HZL := Lib.hid hzl
              clear hzl
              have tl9 := HTI.out.lt
              have G0 := Lib.hid (HTI.out.alloc (.cells #[.int .i64 x, .int .i64 y, (.slice sld zl capd)] 93))
              obtain ⟨f0, f1, ff, fl⟩ := HTI.out.facts
              go_wp2_with (first | (at_builtin; refine wpList_append_lies _ rfl (.tmp 62) (.tmp 64) 23 rfl (tb + 1) 93 i80 (.agg #[.int .i64 0, .int .i64 0, .slice none 0 0]) 3 40 Try.underlying23 hi80 hz80 hz81 hz82 rfl (by decide) _ _ _ rfl G0.out.st ⟨wr.heap.size, 0, none⟩ 1 1 [.int .i64 x, .int .i64 y, (.slice sld zl capd)] rfl rfl (three_new3 _ _ _ _ _) (by intro u hu; simp at hu; rcases hu with rfl | rfl | rfl <;> rfl) (by decide) (by unfold maxLen; omega) (by omega) (by simp; omega) (wr.heap.size + 1) (by simp) ?_))
              intro g9 cap9 w9 own9 grow9 hg9 hlt9
              have TB9 := Lib.hid ((grow9.block tb G0.out.lt (fun e => by have := own_base G0.out.st e.symm; omega)).trans G0.out.tab)
              have j0 : w9.cell? ⟨tb, 0, none⟩ = some v1 := by simp [World.cell?, TB9.out]
              have jf : w9.frozen? ⟨tb, 0, none⟩ = false := by simp [World.frozen?, TB9.out]
              have jl : tb < w9.heap.size := (Array.getElem?_eq_some_iff.1 TB9.out).1
              have T10 := Lib.hid (G0.out.addS (x, y, (.slice sld zl capd), zs) grow9 own9 (by show World.ownsRow _ _ _ _ _ (List.length zs) _; rw [HZL.out]; exact own_below DO.out (bA0 _ _)) HAP.out)
              have HR2 : Hid (∀ r ∈ rs ++ [(x, y, (.slice sld zl capd), zs)], (0 ≤ r.1 ∧ r.1 ≤ 1000) ∧ r.2.2.2 ≠ [] ∧ r.2.2.2.length ≤ 8) := fun r hr => by
                rcases List.mem_append.1 hr with hr | hr
                · exact HR.out r hr
                · simp at hr; subst hr; exact ⟨⟨HX.out.1, HX.out.2⟩, ZN.out.1, by show List.length zs ≤ 8; rw [HZL.out]; exact ZN.out.2⟩
              clear own9 grow9 hg9 hlt9 f0 f1 ff fl
              go_wp2
              go_roundw
              case rel => exact ⟨k - 1, i + 1 + r4, _, rs ++ [(x, y, (.slice sld zl capd), zs)], by first | rfl | (congr 1; done) | (congr 1; omega), by have := EX.out; congr 1 <;> omega, by simp; omega, by simp; omega, by simp; omega, HR2, T10⟩
              case measure => simp [intOf]; omega
      · have hk' : ¬ (0 : Int) < (k : Int) := by omega
        obtain ⟨sl1, cap1, ev1⟩ := own_v H.out.st
        subst ev1
        go_wp2
        go_loopw [8] (fun iv W => ∃ (i : Nat) (v2 : Value) (ps : List LPr), iv = .int .i64 (i : Int) ∧ i ≤ rs.length ∧ ps.length ≤ 40 ∧ Hid (∀ p ∈ ps, WfP p) ∧ Hid (TI w b tb (.slice sl1 rs.length cap1) v2 rs ps W)) (fun iv _ => rs.length - (intOf iv).toNat)
        case atStart => exact ⟨0, _, [], rfl, Nat.zero_le _, Nat.zero_le _, (fun p hp => by cases hp), H⟩
        case round =>
          obtain ⟨i, v2, ps, rfl, hi, hps, WP, H3⟩ := hrel
          have hi0 : (0 : Int) ≤ (i : Int) := by omega
          obtain ⟨f0, f1, ff, fl⟩ := H3.out.facts
          by_cases hin : i < rs.length
          · have hin' : (i : Int) < (rs.length : Int) := by omega
            go_wp2
            go_loopw [9] (fun kv W => ∃ (k : Nat) (v2 : Value) (ps : List LPr), kv = .int .i64 (k : Int) ∧ k ≤ rs.length ∧ ps.length ≤ 40 ∧ Hid (∀ p ∈ ps, WfP p) ∧ Hid (TI w b tb (.slice sl1 rs.length cap1) v2 rs ps W)) (fun kv _ => rs.length - (intOf kv).toNat)
            case atStart => exact ⟨i + 1, v2, ps, by go_num, by omega, hps, WP, H3⟩
            case round =>
              clear f0 f1 ff fl H3 WP hps
              obtain ⟨k, v2, ps, rfl, hk4, hps, WP, H4⟩ := hrel
              have hk0 : (0 : Int) ≤ (k : Int) := by omega
              obtain ⟨sl2, cap2, ev2⟩ := own_v H4.out.pr
              subst ev2
              obtain ⟨f0, f1, ff, fl⟩ := H4.out.facts
              by_cases hkn : k < rs.length
              · have hkn' : (k : Int) < (rs.length : Int) := by omega
                by_cases hp4 : ps.length < 40
                · have hp4' : (ps.length : Int) < 40 := by omega
                  go_wp2_with fail
                  refine (O.out _ _ (by decide) H4.out.src).mono ?_
                  rintro e w8 ⟨t8, rfl, s8, o8⟩
                  have T8 := Lib.hid (H4.out.call s8 o8)
                  clear s8 o8 H4 f0 f1 ff fl
                  cases t8 with
                  | false =>
                    go_wp2
                    go_roundw
                    case rel => exact ⟨k + 1, _, ps, by go_num, by omega, hps, WP, T8⟩
                    case measure => simp [intOf]; omega
                  | true =>
                    obtain ⟨g1, cp, eg, hg1, gl, _, hc⟩ := own3_cells T8.out.st (by omega)
                    cases eg
                    have KS : Hid (∀ v2 ps W, TI w b tb (.slice (some ⟨g1, 0, none⟩) rs.length cap1) v2 rs ps W → tb < W.heap.size ∧ W.cell? ⟨tb, 0, none⟩ = some (.slice (some ⟨g1, 0, none⟩) rs.length cap1) ∧ g1 < W.heap.size ∧ W.cell? ⟨g1, i * 3, none⟩ = some (.int .i64 rs[i].1) ∧ W.cell? ⟨g1, k * 3, none⟩ = some (.int .i64 rs[k].1)) := fun v2 ps W h => by
                      obtain ⟨g', cp', eg', _, gl', _, hc'⟩ := own3_cells h.st (by omega)
                      cases eg'
                      exact ⟨h.lt, h.facts.1, gl', (hc' _ _ (stC_at rs i hin).1).1, (hc' _ _ (stC_at rs k hkn).1).1⟩
                    have AW := Lib.hid (And.intro (HR.out rs[i] (List.getElem_mem hin)).1 (HR.out rs[k] (List.getElem_mem hkn)).1)
                    generalize rs[i].1 = a at *
                    generalize rs[k].1 = a' at *
                    have K2 : Hid (∀ W W' : World, (tb < W.heap.size ∧ W.cell? ⟨tb, 0, none⟩ = some (.slice (some ⟨g1, 0, none⟩) rs.length cap1) ∧ g1 < W.heap.size ∧ W.cell? ⟨g1, i * 3, none⟩ = some (.int .i64 a) ∧ W.cell? ⟨g1, k * 3, none⟩ = some (.int .i64 a')) → W'.heap[tb]? = W.heap[tb]? → W'.heap[g1]? = W.heap[g1]? → W.heap.size ≤ W'.heap.size → (tb < W'.heap.size ∧ W'.cell? ⟨tb, 0, none⟩ = some (.slice (some ⟨g1, 0, none⟩) rs.length cap1) ∧ g1 < W'.heap.size ∧ W'.cell? ⟨g1, i * 3, none⟩ = some (.int .i64 a) ∧ W'.cell? ⟨g1, k * 3, none⟩ = some (.int .i64 a'))) := fun W W' h e1 e2 hs => ⟨Nat.lt_of_lt_of_le h.1 hs, (World.cell?_of_block (w := W) e1).trans h.2.1, Nat.lt_of_lt_of_le h.2.2.1 hs, (World.cell?_of_block (w := W) e2).trans h.2.2.2.1, (World.cell?_of_block (w := W) e2).trans h.2.2.2.2⟩
                    have T8d := Lib.hid T8.out.drew
                    clear hc gl hg1
                    go_wp2_with fail
                    refine wp_region_held_drew (S := fun W => tb < W.heap.size ∧ W.cell? ⟨tb, 0, none⟩ = some (.slice (some ⟨g1, 0, none⟩) rs.length cap1) ∧ g1 < W.heap.size ∧ W.cell? ⟨g1, i * 3, none⟩ = some (.int .i64 a) ∧ W.cell? ⟨g1, k * 3, none⟩ = some (.int .i64 a')) (by kernel_rfl) ?_ (fun hHeld => ?_)
                    · exact KS.out _ _ _ T8d.out
                    refine wpAnyH_take (i := 0) (oi := _) (v := ?_) rfl (by kernel_rfl) (by kernel_rfl) (by kernel_rfl) (fun _ _ _ h => h) (Or.inl ⟨by rfl, ?_⟩) (by assumption) ?_
                    rotate_left
                    · first | (intro w hSw; (try dsimp only at hSw); go_simp; done) | (intro w hSw; (try dsimp only at hSw); go_simp; with_reducible rfl)
                    try simp only [Act.put, List.setIfInBounds_toArray, List.set_cons_zero, List.set_cons_succ, List.getElem_toArray, List.getElem_cons_zero]
                    refine wpAnyH_take (i := 2) (oi := _) (v := ?_) rfl (by kernel_rfl) (by kernel_rfl) (by kernel_rfl) (fun _ _ _ h => h) (Or.inl ⟨by rfl, ?_⟩) (by assumption) ?_
                    rotate_left
                    · first | (intro w hSw; (try dsimp only at hSw); go_simp; done) | (intro w hSw; (try dsimp only at hSw); go_simp; with_reducible rfl)
                    try simp only [Act.put, List.setIfInBounds_toArray, List.set_cons_zero, List.set_cons_succ, List.getElem_toArray, List.getElem_cons_succ, List.getElem_cons_zero]
                    refine wpAnyH_take (i := 4) (oi := _) (v := ?_) rfl (by kernel_rfl) (by kernel_rfl) (by kernel_rfl) (fun _ _ _ h => h) (Or.inl ⟨by rfl, ?_⟩) (by assumption) ?_
                    rotate_left
                    · first | (intro w hSw; (try dsimp only at hSw); go_simp; done) | (intro w hSw; (try dsimp only at hSw); go_simp; with_reducible rfl)
                    try simp only [Act.put, List.setIfInBounds_toArray, List.set_cons_zero, List.set_cons_succ, List.getElem_toArray, List.getElem_cons_succ, List.getElem_cons_zero]
                    refine wpAnyH_take (i := 8) (oi := _) (v := ?_) rfl (by kernel_rfl) (by kernel_rfl) (by kernel_rfl) (fun _ _ _ h => h) (Or.inl ⟨by rfl, ?_⟩) (by assumption) ?_
                    rotate_left
                    · first | (intro w hSw; (try dsimp only at hSw); go_simp; done) | (intro w hSw; (try dsimp only at hSw); go_simp; with_reducible rfl)
                    try simp only [Act.put, List.setIfInBounds_toArray, List.set_cons_zero, List.set_cons_succ, List.getElem_toArray, List.getElem_cons_succ, List.getElem_cons_zero]
                    refine wpAnyH_take (i := 10) (oi := _) (v := ?_) rfl (by kernel_rfl) (by kernel_rfl) (by kernel_rfl) (fun _ _ _ h => h) (Or.inl ⟨by rfl, ?_⟩) (by assumption) ?_
                    rotate_left
                    · first | (intro w hSw; (try dsimp only at hSw); go_simp; done) | (intro w hSw; (try dsimp only at hSw); go_simp; with_reducible rfl)
                    try simp only [Act.put, List.setIfInBounds_toArray, List.set_cons_zero, List.set_cons_succ, List.getElem_toArray, List.getElem_cons_succ, List.getElem_cons_zero]
                    refine wpAnyH_take (i := 14) (oi := _) (v := ?_) rfl (by kernel_rfl) (by kernel_rfl) (by kernel_rfl) (fun _ _ _ h => h) (Or.inl ⟨by rfl, ?_⟩) (by assumption) ?_
                    rotate_left
                    · first | (intro w hSw; (try dsimp only at hSw); go_simp; done) | (intro w hSw; (try dsimp only at hSw); go_simp; with_reducible rfl)
                    try simp only [Act.put, List.setIfInBounds_toArray, List.set_cons_zero, List.set_cons_succ, List.getElem_toArray, List.getElem_cons_succ, List.getElem_cons_zero]
                    refine wpAnyH_take (i := 3) (oi := _) (v := ?_) rfl (by kernel_rfl) (by kernel_rfl) (by kernel_rfl) (fun _ _ _ h => h) (Or.inl ⟨by rfl, ?_⟩) (by assumption) ?_
                    rotate_left
                    · first | (intro w hSw; (try dsimp only at hSw); go_simp; done) | (intro w hSw; (try dsimp only at hSw); go_simp; with_reducible rfl)
                    try simp only [Act.put, List.setIfInBounds_toArray, List.set_cons_zero, List.set_cons_succ, List.getElem_toArray, List.getElem_cons_succ, List.getElem_cons_zero]
                    refine wpAnyH_take (i := 9) (oi := _) (v := ?_) rfl (by kernel_rfl) (by kernel_rfl) (by kernel_rfl) (fun _ _ _ h => h) (Or.inl ⟨by rfl, ?_⟩) (by assumption) ?_
                    rotate_left
                    · first | (intro w hSw; (try dsimp only at hSw); go_simp; done) | (intro w hSw; (try dsimp only at hSw); go_simp; with_reducible rfl)
                    try simp only [Act.put, List.setIfInBounds_toArray, List.set_cons_zero, List.set_cons_succ, List.getElem_toArray, List.getElem_cons_succ, List.getElem_cons_zero]
                    refine wpAnyH_take (i := 5) (oi := _) (v := ?_) rfl (by kernel_rfl) (by kernel_rfl) (by kernel_rfl) (fun _ _ _ h => h) (Or.inl ⟨by rfl, ?_⟩) (by assumption) ?_
                    rotate_left
                    · first | (intro w hSw; (try dsimp only at hSw); go_simp; done) | (intro w hSw; (try dsimp only at hSw); go_simp; with_reducible rfl)
                    try simp only [Act.put, List.setIfInBounds_toArray, List.set_cons_zero, List.set_cons_succ, List.getElem_toArray, List.getElem_cons_succ, List.getElem_cons_zero]
                    refine wpAnyH_take (i := 11) (oi := _) (v := ?_) rfl (by kernel_rfl) (by kernel_rfl) (by kernel_rfl) (fun _ _ _ h => h) (Or.inl ⟨by rfl, ?_⟩) (by assumption) ?_
                    rotate_left
                    · first | (intro w hSw; (try dsimp only at hSw); go_simp; done) | (intro w hSw; (try dsimp only at hSw); go_simp; with_reducible rfl)
                    try simp only [Act.put, List.setIfInBounds_toArray, List.set_cons_zero, List.set_cons_succ, List.getElem_toArray, List.getElem_cons_succ, List.getElem_cons_zero]
                    refine wpAnyH_take (i := 6) (oi := _) (v := ?_) rfl (by kernel_rfl) (by kernel_rfl) (by kernel_rfl) (fun _ _ _ h => h) (Or.inl ⟨by rfl, ?_⟩) (by assumption) ?_
                    rotate_left
                    · first | (intro w hSw; (try dsimp only at hSw); go_simp; done) | (intro w hSw; (try dsimp only at hSw); go_simp; with_reducible rfl)
                    try simp only [Act.put, List.setIfInBounds_toArray, List.set_cons_zero, List.set_cons_succ, List.getElem_toArray, List.getElem_cons_succ, List.getElem_cons_zero]
                    refine wpAnyH_take (i := 12) (oi := _) (v := ?_) rfl (by kernel_rfl) (by kernel_rfl) (by kernel_rfl) (fun _ _ _ h => h) (Or.inl ⟨by rfl, ?_⟩) (by assumption) ?_
                    rotate_left
                    · first | (intro w hSw; (try dsimp only at hSw); go_simp; done) | (intro w hSw; (try dsimp only at hSw); go_simp; with_reducible rfl)
                    try simp only [Act.put, List.setIfInBounds_toArray, List.set_cons_zero, List.set_cons_succ, List.getElem_toArray, List.getElem_cons_succ, List.getElem_cons_zero]
                    refine wpAnyH_take (i := 7) (oi := _) (v := ?_) rfl (by kernel_rfl) (by kernel_rfl) (by kernel_rfl) (fun _ _ _ h => h) (Or.inl ⟨by rfl, ?_⟩) (by assumption) ?_
                    rotate_left
                    · first | (intro w hSw; (try dsimp only at hSw); go_simp; done) | (intro w hSw; (try dsimp only at hSw); go_simp; with_reducible rfl)
                    try simp only [Act.put, List.setIfInBounds_toArray, List.set_cons_zero, List.set_cons_succ, List.getElem_toArray, List.getElem_cons_succ, List.getElem_cons_zero]
                    refine wpAnyH_take (i := 13) (oi := _) (v := ?_) rfl (by kernel_rfl) (by kernel_rfl) (by kernel_rfl) (fun _ _ _ h => h) (Or.inl ⟨by rfl, ?_⟩) (by assumption) ?_
                    rotate_left
                    · first | (intro w hSw; (try dsimp only at hSw); go_simp; done) | (intro w hSw; (try dsimp only at hSw); go_simp; with_reducible rfl)
                    try simp only [Act.put, List.setIfInBounds_toArray, List.set_cons_zero, List.set_cons_succ, List.getElem_toArray, List.getElem_cons_succ, List.getElem_cons_zero]
                    refine wpAnyH_ready (rs := [1, 15]) (by kernel_rfl) (by simp) ?_
                    refine (AllReadyH.cons rfl (fun K hK => ?_) (AllReadyH.cons rfl (fun K hK => ?_) AllReadyH.nil))
                    · have lf := T8d.out.facts.2.1
                      go_simp
                      refine hK.out _ _ ?_ (fun hHeld => ?_)
                      · exact KS.out _ _ _ T8d.out
                      clear hK K
                      clear lf
                      refine wpAnyH_ready (rs := [15]) (by kernel_rfl) (by simp) ?_
                      refine (AllReadyH.cons rfl (fun K hK => ?_) AllReadyH.nil)
                      go_simp
                      go_wp2_with (go_at_call 67; refine (N.out 3 _ (by decide) (by decide) T8d.out.src).mono ?_; rintro e w9 ⟨r9, rfl, hr9, s9, o9⟩)
                      have T9 := Lib.hid (T8d.out.call s9 o9)
                      clear s9 o9
                      have tb9 := T9.out.lt
                      refine hK.out _ _ ?_ (fun hHeld => ?_)
                      · exact KS.out _ _ _ T9.out
                      clear hK K
                      refine wpAnyH_take (i := 16) (oi := _) (v := ?_) rfl (by kernel_rfl) (by kernel_rfl) (by kernel_rfl) (fun _ _ _ h => h) (Or.inl ⟨by rfl, ?_⟩) (by assumption) ?_
                      rotate_left
                      · first | (intro w hSw; (try dsimp only at hSw); go_simp; done) | (intro w hSw; (try dsimp only at hSw); go_simp; with_reducible rfl)
                      try simp only [Act.put, List.setIfInBounds_toArray, List.set_cons_zero, List.set_cons_succ, List.getElem_toArray, List.getElem_cons_succ, List.getElem_cons_zero]
                      refine wpAnyH_take (i := 17) (oi := _) (v := ?_) rfl (by kernel_rfl) (by kernel_rfl) (by kernel_rfl) (fun _ _ _ h => h) (Or.inl ⟨by rfl, ?_⟩) (by assumption) ?_
                      rotate_left
                      · first | (intro w hSw; (try dsimp only at hSw); go_simp; done) | (intro w hSw; (try dsimp only at hSw); go_simp; with_reducible rfl)
                      try simp only [Act.put, List.setIfInBounds_toArray, List.set_cons_zero, List.set_cons_succ, List.getElem_toArray, List.getElem_cons_succ, List.getElem_cons_zero]
                      refine wpAnyH_take (i := 18) (oi := _) (v := ?_) rfl (by kernel_rfl) (by kernel_rfl) (by kernel_rfl) (fun _ _ _ h => h) (Or.inl ⟨by rfl, ?_⟩) (by assumption) ?_
                      rotate_left
                      · first | (intro w hSw; (try dsimp only at hSw); go_simp; done) | (intro w hSw; (try dsimp only at hSw); go_simp; with_reducible rfl)
                      try simp only [Act.put, List.setIfInBounds_toArray, List.set_cons_zero, List.set_cons_succ, List.getElem_toArray, List.getElem_cons_succ, List.getElem_cons_zero]
                      refine wpAnyH_ready (rs := [19]) (by kernel_rfl) (by simp) ?_
                      refine (AllReadyH.cons rfl (fun K hK => ?_) AllReadyH.nil)
                      have TA := Lib.hid (T9.out.alloc (.cells #[.int .i64 a, .int .i64 a', .int .i64 (IntKind.i64.wrap (1 + IntKind.i64.wrap ((r9 : Int) / 2)))] 112))
                      go_simp
                      refine hK.out _ _ ?_ (fun hHeld => ?_)
                      · exact KS.out _ _ _ TA.out
                      clear hK K
                      refine wpAnyH_ready (rs := [20]) (by kernel_rfl) (by simp) ?_
                      refine (AllReadyH.cons rfl (fun K hK => ?_) AllReadyH.nil)
                      refine step_append_lies _ rfl (.tmp 92) (.tmp 110) 24 rfl (tb + 1) 112 i82 (.agg #[.int .i64 0, .int .i64 0, .int .i64 0]) 3 24 Try.underlying24 hi82 hy80 hy81 hy82 rfl (by decide) (.slice sl2 ps.length cap2) ps.length (prC ps) (by simp [Act.eval]) TA.out.pr ⟨w9.heap.size, 0, none⟩ 1 1 [.int .i64 a, .int .i64 a', .int .i64 (IntKind.i64.wrap (1 + IntKind.i64.wrap ((r9 : Int) / 2)))] (by simp [Act.eval]) rfl (three_new3 _ _ _ _ _) (by intro u hu; simp at hu; rcases hu with rfl | rfl | rfl <;> rfl) (by decide) (by unfold maxLen; omega) (by omega) (by simp; omega) (w9.heap.size + 1) (by simp) ?_
                      intro g10 cap10 w10 own10 grow10 hg10 hlt10
                      have TB10 := Lib.hid ((grow10.block tb TA.out.lt (fun e => by have := own_base TA.out.pr e.symm; omega)).trans TA.out.tab)
                      have GB10 := Lib.hid (grow10.block g1 ((TA.out.st.lt g1 rfl).2) (fun e => own_ne TA.out.st TA.out.pr (by decide) (j := g1) rfl e.symm))
                      have T11 := Lib.hid (TA.out.addP (a, a', (IntKind.i64.wrap (1 + IntKind.i64.wrap ((r9 : Int) / 2)))) grow10 own10)
                      have KS10 := Lib.hid (K2.out _ w10 (KS.out _ _ _ TA.out) (TB10.out.trans TA.out.tab.symm) GB10.out grow10.size)
                      have j1 : w10.cell? ⟨tb, 1, none⟩ = some (.slice sl2 ps.length cap2) := by simp [World.cell?, TB10.out]
                      have jf : w10.frozen? ⟨tb, 1, none⟩ = false := by simp [World.frozen?, TB10.out]
                      have jl : tb < w10.heap.size := (Array.getElem?_eq_some_iff.1 TB10.out).1
                      clear own10 grow10 hg10 hlt10 TB10 GB10
                      refine hK.out _ _ ?_ (fun hHeld => ?_)
                      · exact KS10.out
                      clear hK K
                      refine wpAnyH_take (i := 21) (oi := _) (v := ?_) rfl (by kernel_rfl) (by kernel_rfl) (by kernel_rfl) (fun _ _ _ h => h) (Or.inl ⟨by rfl, ?_⟩) (by assumption) ?_
                      rotate_left
                      · first | (intro w hSw; (try dsimp only at hSw); go_simp; done) | (intro w hSw; (try dsimp only at hSw); go_simp; with_reducible rfl)
                      try simp only [Act.put, List.setIfInBounds_toArray, List.set_cons_zero, List.set_cons_succ, List.getElem_toArray, List.getElem_cons_succ, List.getElem_cons_zero]
                      refine wpAnyH_ready (rs := [22]) (by kernel_rfl) (by simp) ?_
                      refine (AllReadyH.cons rfl (fun K hK => ?_) AllReadyH.nil)
                      go_simp
                      refine hK.out _ _ ?_ (fun hHeld => ?_)
                      · exact KS.out _ _ _ T11.out
                      clear hK K
                      refine wpAnyH_done (by kernel_rfl) ?_ _
                      have WP2 : Hid (∀ p ∈ ps ++ [(a, a', (IntKind.i64.wrap (1 + IntKind.i64.wrap ((r9 : Int) / 2))))], WfP p) := fun p hp => by
                        rcases List.mem_append.1 hp with hp | hp
                        · exact WP.out p hp
                        · simp at hp; subst hp; exact ⟨⟨wf_small AW.out.1, wf_small AW.out.2⟩, wf_small (kind_ok r9 hr9)⟩
                      clear j1 jf jl
                      go_wp2
                      go_roundw
                      case rel => exact ⟨k + 1, _, ps ++ [(a, a', (IntKind.i64.wrap (1 + IntKind.i64.wrap ((r9 : Int) / 2))))], by go_num, by omega, by simp; omega, WP2, T11⟩
                      case measure => simp [intOf]; omega
                    · go_simp
                      go_wp2_with (go_at_call 67; refine (N.out 3 _ (by decide) (by decide) T8d.out.src).mono ?_; rintro e w9 ⟨r9, rfl, hr9, s9, o9⟩)
                      have T9 := Lib.hid (T8d.out.call s9 o9)
                      clear s9 o9
                      have tb9 := T9.out.lt
                      refine hK.out _ _ ?_ (fun hHeld => ?_)
                      · exact KS.out _ _ _ T9.out
                      clear hK K
                      refine wpAnyH_take (i := 16) (oi := _) (v := ?_) rfl (by kernel_rfl) (by kernel_rfl) (by kernel_rfl) (fun _ _ _ h => h) (Or.inl ⟨by rfl, ?_⟩) (by assumption) ?_
                      rotate_left
                      · first | (intro w hSw; (try dsimp only at hSw); go_simp; done) | (intro w hSw; (try dsimp only at hSw); go_simp; with_reducible rfl)
                      try simp only [Act.put, List.setIfInBounds_toArray, List.set_cons_zero, List.set_cons_succ, List.getElem_toArray, List.getElem_cons_succ, List.getElem_cons_zero]
                      refine wpAnyH_take (i := 17) (oi := _) (v := ?_) rfl (by kernel_rfl) (by kernel_rfl) (by kernel_rfl) (fun _ _ _ h => h) (Or.inl ⟨by rfl, ?_⟩) (by assumption) ?_
                      rotate_left
                      · first | (intro w hSw; (try dsimp only at hSw); go_simp; done) | (intro w hSw; (try dsimp only at hSw); go_simp; with_reducible rfl)
                      try simp only [Act.put, List.setIfInBounds_toArray, List.set_cons_zero, List.set_cons_succ, List.getElem_toArray, List.getElem_cons_succ, List.getElem_cons_zero]
                      refine wpAnyH_take (i := 18) (oi := _) (v := ?_) rfl (by kernel_rfl) (by kernel_rfl) (by kernel_rfl) (fun _ _ _ h => h) (Or.inl ⟨by rfl, ?_⟩) (by assumption) ?_
                      rotate_left
                      · first | (intro w hSw; (try dsimp only at hSw); go_simp; done) | (intro w hSw; (try dsimp only at hSw); go_simp; with_reducible rfl)
                      try simp only [Act.put, List.setIfInBounds_toArray, List.set_cons_zero, List.set_cons_succ, List.getElem_toArray, List.getElem_cons_succ, List.getElem_cons_zero]
                      refine wpAnyH_ready (rs := [1, 19]) (by kernel_rfl) (by simp) ?_
                      refine (AllReadyH.cons rfl (fun K hK => ?_) (AllReadyH.cons rfl (fun K hK => ?_) AllReadyH.nil))
                      · have lf := T9.out.facts.2.1
                        go_simp
                        refine hK.out _ _ ?_ (fun hHeld => ?_)
                        · exact KS.out _ _ _ T9.out
                        clear hK K
                        clear lf
                        refine wpAnyH_ready (rs := [19]) (by kernel_rfl) (by simp) ?_
                        refine (AllReadyH.cons rfl (fun K hK => ?_) AllReadyH.nil)
                        have TA := Lib.hid (T9.out.alloc (.cells #[.int .i64 a, .int .i64 a', .int .i64 (IntKind.i64.wrap (1 + IntKind.i64.wrap ((r9 : Int) / 2)))] 112))
                        go_simp
                        refine hK.out _ _ ?_ (fun hHeld => ?_)
                        · exact KS.out _ _ _ TA.out
                        clear hK K
                        refine wpAnyH_ready (rs := [20]) (by kernel_rfl) (by simp) ?_
                        refine (AllReadyH.cons rfl (fun K hK => ?_) AllReadyH.nil)
                        refine step_append_lies _ rfl (.tmp 92) (.tmp 110) 24 rfl (tb + 1) 112 i82 (.agg #[.int .i64 0, .int .i64 0, .int .i64 0]) 3 24 Try.underlying24 hi82 hy80 hy81 hy82 rfl (by decide) (.slice sl2 ps.length cap2) ps.length (prC ps) (by simp [Act.eval]) TA.out.pr ⟨w9.heap.size, 0, none⟩ 1 1 [.int .i64 a, .int .i64 a', .int .i64 (IntKind.i64.wrap (1 + IntKind.i64.wrap ((r9 : Int) / 2)))] (by simp [Act.eval]) rfl (three_new3 _ _ _ _ _) (by intro u hu; simp at hu; rcases hu with rfl | rfl | rfl <;> rfl) (by decide) (by unfold maxLen; omega) (by omega) (by simp; omega) (w9.heap.size + 1) (by simp) ?_
                        intro g10 cap10 w10 own10 grow10 hg10 hlt10
                        have TB10 := Lib.hid ((grow10.block tb TA.out.lt (fun e => by have := own_base TA.out.pr e.symm; omega)).trans TA.out.tab)
                        have GB10 := Lib.hid (grow10.block g1 ((TA.out.st.lt g1 rfl).2) (fun e => own_ne TA.out.st TA.out.pr (by decide) (j := g1) rfl e.symm))
                        have T11 := Lib.hid (TA.out.addP (a, a', (IntKind.i64.wrap (1 + IntKind.i64.wrap ((r9 : Int) / 2)))) grow10 own10)
                        have KS10 := Lib.hid (K2.out _ w10 (KS.out _ _ _ TA.out) (TB10.out.trans TA.out.tab.symm) GB10.out grow10.size)
                        have j1 : w10.cell? ⟨tb, 1, none⟩ = some (.slice sl2 ps.length cap2) := by simp [World.cell?, TB10.out]
                        have jf : w10.frozen? ⟨tb, 1, none⟩ = false := by simp [World.frozen?, TB10.out]
                        have jl : tb < w10.heap.size := (Array.getElem?_eq_some_iff.1 TB10.out).1
                        clear own10 grow10 hg10 hlt10 TB10 GB10
                        refine hK.out _ _ ?_ (fun hHeld => ?_)
                        · exact KS10.out
                        clear hK K
                        refine wpAnyH_take (i := 21) (oi := _) (v := ?_) rfl (by kernel_rfl) (by kernel_rfl) (by kernel_rfl) (fun _ _ _ h => h) (Or.inl ⟨by rfl, ?_⟩) (by assumption) ?_
                        rotate_left
                        · first | (intro w hSw; (try dsimp only at hSw); go_simp; done) | (intro w hSw; (try dsimp only at hSw); go_simp; with_reducible rfl)
                        try simp only [Act.put, List.setIfInBounds_toArray, List.set_cons_zero, List.set_cons_succ, List.getElem_toArray, List.getElem_cons_succ, List.getElem_cons_zero]
                        refine wpAnyH_ready (rs := [22]) (by kernel_rfl) (by simp) ?_
                        refine (AllReadyH.cons rfl (fun K hK => ?_) AllReadyH.nil)
                        go_simp
                        refine hK.out _ _ ?_ (fun hHeld => ?_)
                        · exact KS.out _ _ _ T11.out
                        clear hK K
                        refine wpAnyH_done (by kernel_rfl) ?_ _
                        have WP2 : Hid (∀ p ∈ ps ++ [(a, a', (IntKind.i64.wrap (1 + IntKind.i64.wrap ((r9 : Int) / 2))))], WfP p) := fun p hp => by
                          rcases List.mem_append.1 hp with hp | hp
                          · exact WP.out p hp
                          · simp at hp; subst hp; exact ⟨⟨wf_small AW.out.1, wf_small AW.out.2⟩, wf_small (kind_ok r9 hr9)⟩
                        clear j1 jf jl
                        go_wp2
                        go_roundw
                        case rel => exact ⟨k + 1, _, ps ++ [(a, a', (IntKind.i64.wrap (1 + IntKind.i64.wrap ((r9 : Int) / 2))))], by go_num, by omega, by simp; omega, WP2, T11⟩
                        case measure => simp [intOf]; omega
                      · have TA := Lib.hid (T9.out.alloc (.cells #[.int .i64 a, .int .i64 a', .int .i64 (IntKind.i64.wrap (1 + IntKind.i64.wrap ((r9 : Int) / 2)))] 112))
                        go_simp
                        refine hK.out _ _ ?_ (fun hHeld => ?_)
                        · exact KS.out _ _ _ TA.out
                        clear hK K
                        refine wpAnyH_ready (rs := [1]) (by kernel_rfl) (by simp) ?_
                        refine (AllReadyH.cons rfl (fun K hK => ?_) AllReadyH.nil)
                        have lf := TA.out.facts.2.1
                        go_simp
                        refine hK.out _ _ ?_ (fun hHeld => ?_)
                        · exact KS.out _ _ _ TA.out
                        clear hK K
                        clear lf
                        refine wpAnyH_ready (rs := [20]) (by kernel_rfl) (by simp) ?_
                        refine (AllReadyH.cons rfl (fun K hK => ?_) AllReadyH.nil)
                        refine step_append_lies _ rfl (.tmp 92) (.tmp 110) 24 rfl (tb + 1) 112 i82 (.agg #[.int .i64 0, .int .i64 0, .int .i64 0]) 3 24 Try.underlying24 hi82 hy80 hy81 hy82 rfl (by decide) (.slice sl2 ps.length cap2) ps.length (prC ps) (by simp [Act.eval]) TA.out.pr ⟨w9.heap.size, 0, none⟩ 1 1 [.int .i64 a, .int .i64 a', .int .i64 (IntKind.i64.wrap (1 + IntKind.i64.wrap ((r9 : Int) / 2)))] (by simp [Act.eval]) rfl (three_new3 _ _ _ _ _) (by intro u hu; simp at hu; rcases hu with rfl | rfl | rfl <;> rfl) (by decide) (by unfold maxLen; omega) (by omega) (by simp; omega) (w9.heap.size + 1) (by simp) ?_
                        intro g10 cap10 w10 own10 grow10 hg10 hlt10
                        have TB10 := Lib.hid ((grow10.block tb TA.out.lt (fun e => by have := own_base TA.out.pr e.symm; omega)).trans TA.out.tab)
                        have GB10 := Lib.hid (grow10.block g1 ((TA.out.st.lt g1 rfl).2) (fun e => own_ne TA.out.st TA.out.pr (by decide) (j := g1) rfl e.symm))
                        have T11 := Lib.hid (TA.out.addP (a, a', (IntKind.i64.wrap (1 + IntKind.i64.wrap ((r9 : Int) / 2)))) grow10 own10)
                        have KS10 := Lib.hid (K2.out _ w10 (KS.out _ _ _ TA.out) (TB10.out.trans TA.out.tab.symm) GB10.out grow10.size)
                        have j1 : w10.cell? ⟨tb, 1, none⟩ = some (.slice sl2 ps.length cap2) := by simp [World.cell?, TB10.out]
                        have jf : w10.frozen? ⟨tb, 1, none⟩ = false := by simp [World.frozen?, TB10.out]
                        have jl : tb < w10.heap.size := (Array.getElem?_eq_some_iff.1 TB10.out).1
                        clear own10 grow10 hg10 hlt10 TB10 GB10
                        refine hK.out _ _ ?_ (fun hHeld => ?_)
                        · exact KS10.out
                        clear hK K
                        refine wpAnyH_take (i := 21) (oi := _) (v := ?_) rfl (by kernel_rfl) (by kernel_rfl) (by kernel_rfl) (fun _ _ _ h => h) (Or.inl ⟨by rfl, ?_⟩) (by assumption) ?_
                        rotate_left
                        · first | (intro w hSw; (try dsimp only at hSw); go_simp; done) | (intro w hSw; (try dsimp only at hSw); go_simp; with_reducible rfl)
                        try simp only [Act.put, List.setIfInBounds_toArray, List.set_cons_zero, List.set_cons_succ, List.getElem_toArray, List.getElem_cons_succ, List.getElem_cons_zero]
                        refine wpAnyH_ready (rs := [22]) (by kernel_rfl) (by simp) ?_
                        refine (AllReadyH.cons rfl (fun K hK => ?_) AllReadyH.nil)
                        go_simp
                        refine hK.out _ _ ?_ (fun hHeld => ?_)
                        · exact KS.out _ _ _ T11.out
                        clear hK K
                        refine wpAnyH_done (by kernel_rfl) ?_ _
                        have WP2 : Hid (∀ p ∈ ps ++ [(a, a', (IntKind.i64.wrap (1 + IntKind.i64.wrap ((r9 : Int) / 2))))], WfP p) := fun p hp => by
                          rcases List.mem_append.1 hp with hp | hp
                          · exact WP.out p hp
                          · simp at hp; subst hp; exact ⟨⟨wf_small AW.out.1, wf_small AW.out.2⟩, wf_small (kind_ok r9 hr9)⟩
                        clear j1 jf jl
                        go_wp2
                        go_roundw
                        case rel => exact ⟨k + 1, _, ps ++ [(a, a', (IntKind.i64.wrap (1 + IntKind.i64.wrap ((r9 : Int) / 2))))], by go_num, by omega, by simp; omega, WP2, T11⟩
                        case measure => simp [intOf]; omega
                · have hp4' : ¬ (ps.length : Int) < 40 := by omega
                  go_wp2
                  go_roundw
                  case rel => exact ⟨i + 1, _, ps, by go_num, by omega, hps, WP, H4⟩
                  case measure => simp [intOf]; omega
              · have hkn' : ¬ (k : Int) < (rs.length : Int) := by omega
                go_wp2
                go_roundw
                case rel => exact ⟨i + 1, _, ps, by go_num, by omega, hps, WP, H4⟩
                case measure => simp [intOf]; omega
          · have hin' : ¬ (i : Int) < (rs.length : Int) := by omega
            go_wp2_with fail
            refine (O.out _ _ (by decide) H3.out.src).mono ?_
            rintro e w8 ⟨t8, rfl, s8, o8⟩
            have T8 := Lib.hid (H3.out.call s8 o8)
            clear s8 o8 H3 f0 f1 ff fl
            have HD : Hid (∀ r ∈ rs, r.2.2.2.length ≤ 1048576) := fun r hr => by have := (HR.out r hr).2.2; omega
            obtain ⟨sl2, cap2, ev2⟩ := own_v T8.out.pr
            subst ev2
            cases t8 with
            | false =>
              obtain ⟨f0, f1, ff, fl⟩ := T8.out.facts
              obtain ⟨e0, e1, e2, e3, e4, e5, e6⟩ := T8.out.res
              have PF := Lib.hid (T8.out.fin2 HD.out (by omega) (by omega) WP.out)
              go_wp2
              exact bodyPost_ret (v := .agg #[.slice sl1 rs.length cap1, .slice sl2 ps.length cap2]) (by simp [results, Try.results64, go_sem, e5, e6]) rfl PF.out
            | true =>
              have hrl : 0 < rs.length := by omega
              obtain ⟨g1, cp, eg, hg1, gl, _, hc⟩ := own3_cells T8.out.st hrl
              cases eg
              have T8d := Lib.hid T8.out.drew
              have KS : Hid (∀ v2 ps W, TI w b tb (.slice (some ⟨g1, 0, none⟩) rs.length cap1) v2 rs ps W → tb < W.heap.size ∧ W.cell? ⟨tb, 0, none⟩ = some (.slice (some ⟨g1, 0, none⟩) rs.length cap1)) := fun v2 ps W h => ⟨h.lt, h.facts.1⟩
              clear hc gl hg1
              go_wp2_with fail
              refine wp_region_held_drew (S := fun W => tb < W.heap.size ∧ W.cell? ⟨tb, 0, none⟩ = some (.slice (some ⟨g1, 0, none⟩) rs.length cap1)) (by kernel_rfl) ?_ (fun hHeld => ?_)
              · exact KS.out _ _ _ T8d.out
              refine wpAnyH_take (i := 0) (oi := _) (v := ?_) rfl (by kernel_rfl) (by kernel_rfl) (by kernel_rfl) (fun _ _ _ h => h) (Or.inl ⟨by rfl, ?_⟩) (by assumption) ?_
              rotate_left
              · first | (intro w hSw; (try dsimp only at hSw); go_simp; done) | (intro w hSw; (try dsimp only at hSw); go_simp; with_reducible rfl)
              try simp only [Act.put, List.setIfInBounds_toArray, List.set_cons_zero, List.set_cons_succ, List.getElem_toArray, List.getElem_cons_zero]
              refine wpAnyH_take (i := 1) (oi := _) (v := ?_) rfl (by kernel_rfl) (by kernel_rfl) (by kernel_rfl) (fun _ _ _ h => h) (Or.inl ⟨by rfl, ?_⟩) (by assumption) ?_
              rotate_left
              · first | (intro w hSw; (try dsimp only at hSw); go_simp; done) | (intro w hSw; (try dsimp only at hSw); go_simp; with_reducible rfl)
              try simp only [Act.put, List.setIfInBounds_toArray, List.set_cons_zero, List.set_cons_succ, List.getElem_toArray, List.getElem_cons_succ, List.getElem_cons_zero]
              refine wpAnyH_take (i := 2) (oi := _) (v := ?_) rfl (by kernel_rfl) (by kernel_rfl) (by kernel_rfl) (fun _ _ _ h => h) (Or.inl ⟨by rfl, ?_⟩) (by assumption) ?_
              rotate_left
              · first | (intro w hSw; (try dsimp only at hSw); go_simp; done) | (intro w hSw; (try dsimp only at hSw); go_simp; with_reducible rfl)
              try simp only [Act.put, List.setIfInBounds_toArray, List.set_cons_zero, List.set_cons_succ, List.getElem_toArray, List.getElem_cons_succ, List.getElem_cons_zero]
              refine wpAnyH_take (i := 3) (oi := _) (v := ?_) rfl (by kernel_rfl) (by kernel_rfl) (by kernel_rfl) (fun _ _ _ h => h) (Or.inl ⟨by rfl, ?_⟩) (by assumption) ?_
              rotate_left
              · first | (intro w hSw; (try dsimp only at hSw); go_simp; done) | (intro w hSw; (try dsimp only at hSw); go_simp; with_reducible rfl)
              try simp only [Act.put, List.setIfInBounds_toArray, List.set_cons_zero, List.set_cons_succ, List.getElem_toArray, List.getElem_cons_succ, List.getElem_cons_zero]
              refine wpAnyH_take (i := 4) (oi := _) (v := ?_) rfl (by kernel_rfl) (by kernel_rfl) (by kernel_rfl) (fun _ _ _ h => h) (Or.inl ⟨by rfl, ?_⟩) (by assumption) ?_
              rotate_left
              · first | (intro w hSw; (try dsimp only at hSw); go_simp; done) | (intro w hSw; (try dsimp only at hSw); go_simp; with_reducible rfl)
              try simp only [Act.put, List.setIfInBounds_toArray, List.set_cons_zero, List.set_cons_succ, List.getElem_toArray, List.getElem_cons_succ, List.getElem_cons_zero]
              refine wpAnyH_take (i := 5) (oi := _) (v := ?_) rfl (by kernel_rfl) (by kernel_rfl) (by kernel_rfl) (fun _ _ _ h => h) (Or.inl ⟨by rfl, ?_⟩) (by assumption) ?_
              rotate_left
              · first | (intro w hSw; (try dsimp only at hSw); go_simp; done) | (intro w hSw; (try dsimp only at hSw); go_simp; with_reducible rfl)
              try simp only [Act.put, List.setIfInBounds_toArray, List.set_cons_zero, List.set_cons_succ, List.getElem_toArray, List.getElem_cons_succ, List.getElem_cons_zero]
              refine wpAnyH_ready (rs := [6]) (by kernel_rfl) (by simp) ?_
              refine AllReadyH.cons rfl (fun K hK => ?_) AllReadyH.nil
              go_simp
              go_wp2_with (go_at_call 67; refine (N.out (rs.length : Int) _ (by omega) (by omega) T8d.out.src).mono ?_; rintro e w9 ⟨r9, rfl, hr9, s9, o9⟩)
              have T9 := Lib.hid (T8d.out.call s9 o9)
              have hr9' : r9 < rs.length := by omega
              have hr9i : (r9 : Int) < (rs.length : Int) := by omega
              clear s9 o9
              refine hK.out _ _ ?_ (fun hHeld => ?_)
              · exact KS.out _ _ _ T9.out
              clear hK K
              refine wpAnyH_take (i := 7) (oi := _) (v := ?_) rfl (by kernel_rfl) (by kernel_rfl) (by kernel_rfl) (fun _ _ _ h => h) (Or.inl ⟨by rfl, ?_⟩) (by assumption) ?_
              rotate_left
              · first | (intro w hSw; (try dsimp only at hSw); go_simp; done) | (intro w hSw; (try dsimp only at hSw); go_simp; with_reducible rfl)
              try simp only [Act.put, List.setIfInBounds_toArray, List.set_cons_zero, List.set_cons_succ, List.getElem_toArray, List.getElem_cons_succ, List.getElem_cons_zero]
              refine wpAnyH_take (i := 8) (oi := _) (v := ?_) rfl (by kernel_rfl) (by kernel_rfl) (by kernel_rfl) (fun _ _ _ h => h) (Or.inl ⟨by rfl, ?_⟩) (by assumption) ?_
              rotate_left
              · first | (intro w hSw; (try dsimp only at hSw); go_simp; done) | (intro w hSw; (try dsimp only at hSw); go_simp; with_reducible rfl)
              try simp only [Act.put, List.setIfInBounds_toArray, List.set_cons_zero, List.set_cons_succ, List.getElem_toArray, List.getElem_cons_succ, List.getElem_cons_zero]
              refine wpAnyH_done (by kernel_rfl) ?_ _
              clear KS T8d T8
              go_wp2_with fail
              refine (N.out _ _ (by decide) (by decide) T9.out.src).mono ?_
              rintro e w10 ⟨r10, rfl, hr10, s10, o10⟩
              have T10 := Lib.hid (T9.out.call s10 o10)
              clear s10 o10 T9
              have h7 : r10 = 0 ∨ r10 = 1 ∨ r10 = 2 ∨ r10 = 3 ∨ r10 = 4 ∨ r10 = 5 ∨ r10 = 6 := by omega
              obtain ⟨g', cp', eg', _, gl, _, hc⟩ := own3_cells T10.out.st hrl
              cases eg'
              have hc0 := hc _ _ (stC_at rs r9 hr9').1
              have hc1 := hc _ _ (stC_at rs r9 hr9').2.1
              have hc2 := hc _ _ (stC_at rs r9 hr9').2.2
              have CC : Hid (∀ W, Only b w10 W → g1 < W.heap.size ∧ W.cell? ⟨g1, r9 * 3, none⟩ = some (.int .i64 rs[r9].1) ∧ W.cell? ⟨g1, r9 * 3 + 1, none⟩ = some (.int .i64 rs[r9].2.1) ∧ W.cell? ⟨g1, r9 * 3 + 2, none⟩ = some rs[r9].2.2.1 ∧ W.frozen? ⟨g1, r9 * 3, none⟩ = false ∧ W.frozen? ⟨g1, r9 * 3 + 1, none⟩ = false ∧ W.frozen? ⟨g1, r9 * 3 + 2, none⟩ = false) := fun W ho => by
                have hgb : g1 ≠ b := by have := own_base T10.out.st (j := g1) rfl; have := T10.out.hb; have := T10.out.htb; omega
                exact ⟨Nat.lt_of_lt_of_le gl ho.size, (ho.cell gl hgb).trans hc0.1, (ho.cell gl hgb).trans hc1.1, (ho.cell gl hgb).trans hc2.1, (ho.frozen gl hgb).trans hc0.2, (ho.frozen gl hgb).trans hc1.2, (ho.frozen gl hgb).trans hc2.2⟩
              clear hc hc0 hc1 hc2
              rcases h7 with rfl | rfl | rfl | rfl | rfl | rfl | rfl
              · have TL := Lib.hid (T10.out.alloc (.cells #[.int .i64 0, .int .i64 999, .int .i64 1000] 2))
                have hb10 : b < w10.heap.size := by have := T10.out.hb; have := T10.out.rlt; omega
                go_wp2_with fail
                refine (N.out _ _ (by decide) (by decide) TL.out.src).mono ?_
                rintro e w11 ⟨r11, rfl, hr11, s11, o11⟩
                have T11 := Lib.hid (TL.out.call s11 o11)
                have hz := lit_cell [0, 999, 1000] o11 hb10 (r11 : Int) (by omega) (by simpa using hr11)
                rw [Int.toNat_natCast] at hz
                have lw : w10.heap.size < w11.heap.size := by have := o11.size; simp at this; omega
                obtain ⟨q0, q1, q2, q3, q4, q5, q6⟩ := CC.out w11 ((Only.of_below (bA0 _ _)).trans o11)
                generalize ([0, 999, 1000] : List Int).getD r11 0 = z at *
                have T12 := Lib.hid (T11.out.setI r9 hr9' 0 (.int .i64 z) (z, rs[r9].2) rfl (stC_id rs r9 hr9' z))
                have HD2 := Lib.hid (hd_set (rs := rs) (j := r9) (r' := (z, rs[r9].2)) HD.out (HD.out rs[r9] (List.getElem_mem hr9')))
                rw [Nat.add_zero] at T12
                clear s11 o11 TL T11 T10 CC
                obtain ⟨f0, f1, ff, fl⟩ := T12.out.facts
                obtain ⟨e0, e1, e2, e3, e4, e5, e6⟩ := T12.out.res
                have PF := Lib.hid (T12.out.fin2 HD2.out (by first | omega | (rw [List.length_set]; omega)) (by omega) WP.out)
                go_wp2
                exact bodyPost_ret (v := .agg #[.slice (some ⟨g1, 0, none⟩) rs.length cap1, .slice sl2 ps.length cap2]) (by simp [results, Try.results64, go_sem, e5, e6]) rfl PF.out
              · have TL := Lib.hid (T10.out.alloc (.cells #[.int .i64 0, .int .i64 1000, .int .i64 1001] 2))
                have hb10 : b < w10.heap.size := by have := T10.out.hb; have := T10.out.rlt; omega
                go_wp2_with fail
                refine (N.out _ _ (by decide) (by decide) TL.out.src).mono ?_
                rintro e w11 ⟨r11, rfl, hr11, s11, o11⟩
                have T11 := Lib.hid (TL.out.call s11 o11)
                have hz := lit_cell [0, 1000, 1001] o11 hb10 (r11 : Int) (by omega) (by simpa using hr11)
                rw [Int.toNat_natCast] at hz
                have lw : w10.heap.size < w11.heap.size := by have := o11.size; simp at this; omega
                obtain ⟨q0, q1, q2, q3, q4, q5, q6⟩ := CC.out w11 ((Only.of_below (bA0 _ _)).trans o11)
                generalize ([0, 1000, 1001] : List Int).getD r11 0 = z at *
                have T12 := Lib.hid (T11.out.setI r9 hr9' 1 (.int .i64 z) (rs[r9].1, z, rs[r9].2.2) rfl (stC_sc rs r9 hr9' z))
                have HD2 := Lib.hid (hd_set (rs := rs) (j := r9) (r' := (rs[r9].1, z, rs[r9].2.2)) HD.out (HD.out rs[r9] (List.getElem_mem hr9')))
                clear s11 o11 TL T11 T10 CC
                obtain ⟨f0, f1, ff, fl⟩ := T12.out.facts
                obtain ⟨e0, e1, e2, e3, e4, e5, e6⟩ := T12.out.res
                have PF := Lib.hid (T12.out.fin2 HD2.out (by first | omega | (rw [List.length_set]; omega)) (by omega) WP.out)
                go_wp2
                exact bodyPost_ret (v := .agg #[.slice (some ⟨g1, 0, none⟩) rs.length cap1, .slice sl2 ps.length cap2]) (by simp [results, Try.results64, go_sem, e5, e6]) rfl PF.out
              · obtain ⟨q0, q1, q2, q3, q4, q5, q6⟩ := CC.out w10 (Only.refl _ _)
                have tb10 := T10.out.lt
                have T12 := Lib.hid (T10.out.setD r9 hr9' (.slice (some ⟨w10.heap.size, 0, none⟩) 0 0) [] (World.grownBy_alloc w10 (.cells #[] 2) none) (fun k hk => by cases hk) (own_mono (own_none5 w10) (by omega)) ⟨_, rfl, .inr (Nat.le_refl _)⟩)
                have HD2 := Lib.hid (hd_set (rs := rs) (j := r9) (r' := (rs[r9].1, rs[r9].2.1, .slice (some ⟨w10.heap.size, 0, none⟩) 0 0, [])) HD.out (Nat.zero_le _))
                rw [set_alloc _ _ _ _ _ q0] at T12
                clear T10 CC
                obtain ⟨f0, f1, ff, fl⟩ := T12.out.facts
                obtain ⟨e0, e1, e2, e3, e4, e5, e6⟩ := T12.out.res
                have PF := Lib.hid (T12.out.fin2 HD2.out (by first | omega | (rw [List.length_set]; omega)) (by omega) WP.out)
                go_wp2
                exact bodyPost_ret (v := .agg #[.slice (some ⟨g1, 0, none⟩) rs.length cap1, .slice sl2 ps.length cap2]) (by simp [results, Try.results64, go_sem, e5, e6]) rfl PF.out
              · go_wp2_with fail
                refine (N.out _ _ (by decide) (by decide) T10.out.src).mono ?_
                rintro e w11 ⟨r11, rfl, hr11, s11, o11⟩
                have T11 := Lib.hid (T10.out.call s11 o11)
                go_wp2_with fail
                refine (N.out _ _ (by decide) (by decide) T11.out.src).mono ?_
                rintro e w12 ⟨r12, rfl, hr12, s12, o12⟩
                have T12 := Lib.hid (T11.out.call s12 o12)
                obtain ⟨q0, q1, q2, q3, q4, q5, q6⟩ := CC.out w12 (o11.trans o12)
                have tb12 := T12.out.lt
                have OW : Hid ((w12.alloc (.cells #[.int .i64 (1 + (r11 : Int)), .int .i64 (50 + (r12 : Int))] 2)).ownsRow (tb + 1) 2 1 (.slice (some ⟨w12.heap.size, 0, none⟩) 2 2) [1 + (r11 : Int), 50 + (r12 : Int)].length (valsZ [1 + (r11 : Int), 50 + (r12 : Int)])) := ⟨rfl, .inr ⟨_, 2, _, rfl, by omega, new_at _ _, Nat.le_refl _, by unfold maxLen; omega, rfl, rfl⟩⟩
                have T13 := Lib.hid (T12.out.setD r9 hr9' (.slice (some ⟨w12.heap.size, 0, none⟩) 2 2) [1 + (r11 : Int), 50 + (r12 : Int)] (World.grownBy_alloc w12 (.cells #[.int .i64 (1 + (r11 : Int)), .int .i64 (50 + (r12 : Int))] 2) none) (fun k hk => by cases hk) OW.out ⟨_, rfl, .inr (Nat.le_refl _)⟩)
                have HD2 := Lib.hid (hd_set (rs := rs) (j := r9) (r' := (rs[r9].1, rs[r9].2.1, .slice (some ⟨w12.heap.size, 0, none⟩) 2 2, [1 + (r11 : Int), 50 + (r12 : Int)])) HD.out (by simp))
                rw [set_alloc _ _ _ _ _ q0] at T13
                clear s11 o11 s12 o12 T10 T11 T12 CC OW
                obtain ⟨f0, f1, ff, fl⟩ := T13.out.facts
                obtain ⟨e0, e1, e2, e3, e4, e5, e6⟩ := T13.out.res
                have PF := Lib.hid (T13.out.fin2 HD2.out (by first | omega | (rw [List.length_set]; omega)) (by omega) WP.out)
                go_wp2
                exact bodyPost_ret (v := .agg #[.slice (some ⟨g1, 0, none⟩) rs.length cap1, .slice sl2 ps.length cap2]) (by simp [results, Try.results64, go_sem, e5, e6]) rfl PF.out
              · have T10d := Lib.hid T10.out.drew
                have tb10 := T10.out.lt
                have hne := (HR.out rs[r9] (List.getElem_mem hr9')).2
                have HD8 := Lib.hid hne.2
                have hzp : 0 < rs[r9].2.2.2.length := List.length_pos_iff.2 hne.1
                obtain ⟨z0, zt, hzs⟩ : ∃ z0 zt, rs[r9].2.2.2 = z0 :: zt := by
                  cases h : rs[r9].2.2.2 with
                  | nil => exact absurd h hne.1
                  | cons a t => exact ⟨a, t, rfl⟩
                obtain ⟨gd, capd, edd, -⟩ := own_cells (T10.out.dom _ (List.getElem_mem hr9')) hzp
                have KS : Hid (∀ (rs' : List LSt) W, TI w b tb (.slice (some ⟨g1, 0, none⟩) rs.length cap1) (.slice sl2 ps.length cap2) rs' ps W → g1 < W.heap.size) := fun _ W h => (h.st.lt g1 rfl).2
                have DX : Hid (∀ W, TI w b tb (.slice (some ⟨g1, 0, none⟩) rs.length cap1) (.slice sl2 ps.length cap2) rs ps W → g1 < W.heap.size ∧ W.cell? ⟨g1, r9 * 3 + 2, none⟩ = some (.slice (some ⟨gd, 0, none⟩) rs[r9].2.2.2.length capd) ∧ W.frozen? ⟨g1, r9 * 3 + 2, none⟩ = false ∧ gd < W.heap.size ∧ W.cell? ⟨gd, 0, none⟩ = some (.int .i64 z0)) := fun W h => by
                  obtain ⟨g', cp', eg', _, gl', _, hc'⟩ := own3_cells h.st hrl
                  cases eg'
                  have hd9 := h.dom _ (List.getElem_mem hr9')
                  obtain ⟨gd', capd', ed', _, _, _, _, hcd⟩ := own_cells hd9 hzp
                  rw [edd] at ed'
                  cases ed'
                  refine ⟨gl', by rw [← edd]; exact (hc' _ _ (stC_at rs r9 hr9').2.2).1, (hc' _ _ (stC_at rs r9 hr9').2.2).2, (hd9.lt gd (by rw [edd]; rfl)).2, ?_⟩
                  exact (hcd 0 hzp).trans (by rw [hzs]; rfl)
                clear CC hzs hne
                go_wp2_with fail
                refine wp_region_held_drew (S := fun W => g1 < W.heap.size) (by kernel_rfl) ?_ (fun hHeld => ?_)
                · exact KS.out _ _ T10d.out
                refine wpAnyH_take (i := 0) (oi := _) (v := ?_) rfl (by kernel_rfl) (by kernel_rfl) (by kernel_rfl) (fun _ _ _ h => h) (Or.inl ⟨by rfl, ?_⟩) (by assumption) ?_
                rotate_left
                · first | (intro w hSw; (try dsimp only at hSw); go_simp; done) | (intro w hSw; (try dsimp only at hSw); go_simp; with_reducible rfl)
                try simp only [Act.put, List.setIfInBounds_toArray, List.set_cons_zero, List.set_cons_succ, List.getElem_toArray, List.getElem_cons_zero]
                refine wpAnyH_take (i := 1) (oi := _) (v := ?_) rfl (by kernel_rfl) (by kernel_rfl) (by kernel_rfl) (fun _ _ _ h => h) (Or.inl ⟨by rfl, ?_⟩) (by assumption) ?_
                rotate_left
                · first | (intro w hSw; (try dsimp only at hSw); go_simp; done) | (intro w hSw; (try dsimp only at hSw); go_simp; with_reducible rfl)
                try simp only [Act.put, List.setIfInBounds_toArray, List.set_cons_zero, List.set_cons_succ, List.getElem_toArray, List.getElem_cons_succ, List.getElem_cons_zero]
                refine wpAnyH_take (i := 2) (oi := _) (v := ?_) rfl (by kernel_rfl) (by kernel_rfl) (by kernel_rfl) (fun _ _ _ h => h) (Or.inl ⟨by rfl, ?_⟩) (by assumption) ?_
                rotate_left
                · first | (intro w hSw; (try dsimp only at hSw); go_simp; done) | (intro w hSw; (try dsimp only at hSw); go_simp; with_reducible rfl)
                try simp only [Act.put, List.setIfInBounds_toArray, List.set_cons_zero, List.set_cons_succ, List.getElem_toArray, List.getElem_cons_succ, List.getElem_cons_zero]
                refine wpAnyH_take (i := 3) (oi := _) (v := ?_) rfl (by kernel_rfl) (by kernel_rfl) (by kernel_rfl) (fun _ _ _ h => h) (Or.inl ⟨by rfl, ?_⟩) (by assumption) ?_
                rotate_left
                · first | (intro w hSw; (try dsimp only at hSw); go_simp; done) | (intro w hSw; (try dsimp only at hSw); go_simp; with_reducible rfl)
                try simp only [Act.put, List.setIfInBounds_toArray, List.set_cons_zero, List.set_cons_succ, List.getElem_toArray, List.getElem_cons_succ, List.getElem_cons_zero]
                refine wpAnyH_take (i := 5) (oi := _) (v := ?_) rfl (by kernel_rfl) (by kernel_rfl) (by kernel_rfl) (fun _ _ _ h => h) (Or.inl ⟨by rfl, ?_⟩) (by assumption) ?_
                rotate_left
                · first | (intro w hSw; (try dsimp only at hSw); go_simp; done) | (intro w hSw; (try dsimp only at hSw); go_simp; with_reducible rfl)
                try simp only [Act.put, List.setIfInBounds_toArray, List.set_cons_zero, List.set_cons_succ, List.getElem_toArray, List.getElem_cons_succ, List.getElem_cons_zero]
                refine wpAnyH_take (i := 6) (oi := _) (v := ?_) rfl (by kernel_rfl) (by kernel_rfl) (by kernel_rfl) (fun _ _ _ h => h) (Or.inl ⟨by rfl, ?_⟩) (by assumption) ?_
                rotate_left
                · first | (intro w hSw; (try dsimp only at hSw); go_simp; done) | (intro w hSw; (try dsimp only at hSw); go_simp; with_reducible rfl)
                try simp only [Act.put, List.setIfInBounds_toArray, List.set_cons_zero, List.set_cons_succ, List.getElem_toArray, List.getElem_cons_succ, List.getElem_cons_zero]
                refine wpAnyH_take (i := 7) (oi := _) (v := ?_) rfl (by kernel_rfl) (by kernel_rfl) (by kernel_rfl) (fun _ _ _ h => h) (Or.inl ⟨by rfl, ?_⟩) (by assumption) ?_
                rotate_left
                · first | (intro w hSw; (try dsimp only at hSw); go_simp; done) | (intro w hSw; (try dsimp only at hSw); go_simp; with_reducible rfl)
                try simp only [Act.put, List.setIfInBounds_toArray, List.set_cons_zero, List.set_cons_succ, List.getElem_toArray, List.getElem_cons_succ, List.getElem_cons_zero]
                refine wpAnyH_ready (rs := [4, 8]) (by kernel_rfl) (by simp) ?_
                refine (AllReadyH.cons rfl (fun K hK => ?_) (AllReadyH.cons rfl (fun K hK => ?_) AllReadyH.nil))
                · obtain ⟨lg, lc, lf, ld, lz⟩ := DX.out _ T10d.out
                  go_simp
                  refine hK.out _ _ ?_ (fun hHeld => ?_)
                  · exact KS.out _ _ T10d.out
                  clear hK K
                  clear lg lc lf ld lz
                  refine wpAnyH_ready (rs := [8]) (by kernel_rfl) (by simp) ?_
                  refine (AllReadyH.cons rfl (fun K hK => ?_) AllReadyH.nil)
                  obtain ⟨lg, lc, lf, ld, lz⟩ := DX.out _ T10d.out
                  go_simp
                  refine hK.out _ _ ?_ (fun hHeld => ?_)
                  · exact KS.out _ _ T10d.out
                  clear hK K
                  clear lg lc lf ld lz
                  refine wpAnyH_take (i := 9) (oi := _) (v := ?_) rfl (by kernel_rfl) (by kernel_rfl) (by kernel_rfl) (fun _ _ _ h => h) (Or.inl ⟨by rfl, ?_⟩) (by assumption) ?_
                  rotate_left
                  · first | (intro w hSw; (try dsimp only at hSw); go_simp; done) | (intro w hSw; (try dsimp only at hSw); go_simp; with_reducible rfl)
                  try simp only [Act.put, List.setIfInBounds_toArray, List.set_cons_zero, List.set_cons_succ, List.getElem_toArray, List.getElem_cons_succ, List.getElem_cons_zero]
                  refine wpAnyH_ready (rs := [10]) (by kernel_rfl) (by simp) ?_
                  refine (AllReadyH.cons rfl (fun K hK => ?_) AllReadyH.nil)
                  obtain ⟨lg, lc, lf, ld, lz⟩ := DX.out _ T10d.out
                  go_simp
                  refine hK.out _ _ ?_ (fun hHeld => ?_)
                  · exact KS.out _ _ T10d.out
                  clear hK K
                  clear lg lc lf ld lz
                  refine wpAnyH_ready (rs := [11]) (by kernel_rfl) (by simp) ?_
                  refine (AllReadyH.cons rfl (fun K hK => ?_) AllReadyH.nil)
                  have TA := Lib.hid (T10d.out.alloc (.cells #[.int .i64 z0] 2))
                  go_simp
                  refine hK.out _ _ ?_ (fun hHeld => ?_)
                  · exact KS.out _ _ TA.out
                  clear hK K
                  refine wpAnyH_ready (rs := [12]) (by kernel_rfl) (by simp) ?_
                  refine (AllReadyH.cons rfl (fun K hK => ?_) AllReadyH.nil)
                  refine step_append_lies _ rfl (.tmp 186) (.tmp 193) 40 rfl (tb + 1) 2 i2 (.int .i64 0) 1 8 Try.underlying40 hi2 hz20 hz21 hz22 rfl (by decide) (.slice (some ⟨gd, 0, none⟩) rs[r9].2.2.2.length capd) rs[r9].2.2.2.length (valsZ rs[r9].2.2.2) (by simp [Act.eval]) (by have := TA.out.dom _ (List.getElem_mem hr9'); rwa [edd] at this) ⟨w10.heap.size, 0, none⟩ 1 1 [.int .i64 z0] (by simp [Act.eval]) rfl (cell_one_new _ _ _) (by intro u hu; simp at hu; subst hu; rfl) (by decide) (by have := HD8.out; unfold maxLen; omega) (by have := HD8.out; omega) (by have := tb10; simp; omega) (w10.heap.size + 1) (by simp) ?_
                  intro g13 cap13 w13 own13 grow13 hg13 hlt13
                  have GB13 := Lib.hid (grow13.block g1 ((TA.out.st.lt g1 rfl).2) (fun e => own_ne TA.out.st (TA.out.dom _ (List.getElem_mem hr9')) (by decide) (j := g1) rfl (by rw [edd]; exact e.symm)))
                  have EV := Lib.hid (show valsZ rs[r9].2.2.2 ++ [.int .i64 z0] = valsZ (rs[r9].2.2.2 ++ [z0]) by simp [valsZ])
                  rw [EV.out] at own13
                  have T14 := Lib.hid (TA.out.setD r9 hr9' (.slice (some ⟨g13, 0, none⟩) (rs[r9].2.2.2.length + 1) cap13) (rs[r9].2.2.2 ++ [z0]) grow13 (fun k hk => by rw [edd]; exact hk) (by rw [List.length_append]; exact own13) ⟨g13, rfl, hg13.imp (fun e => by rw [edd]; exact e) (fun e => by simp; omega)⟩)
                  obtain ⟨jg, jc, jf, -, -⟩ := DX.out _ TA.out
                  have j1 : w13.cell? ⟨g1, r9 * 3 + 2, none⟩ = some (.slice (some ⟨gd, 0, none⟩) rs[r9].2.2.2.length capd) := (World.cell?_of_block GB13.out).trans jc
                  have jf2 : w13.frozen? ⟨g1, r9 * 3 + 2, none⟩ = false := (World.frozen?_of_block GB13.out).trans jf
                  have jl : g1 < w13.heap.size := Nat.lt_of_lt_of_le jg grow13.size
                  have HD2 := Lib.hid (hd_set (rs := rs) (j := r9) (r' := (rs[r9].1, rs[r9].2.1, .slice (some ⟨g13, 0, none⟩) (rs[r9].2.2.2.length + 1) cap13, rs[r9].2.2.2 ++ [z0])) HD.out (by have := HD8.out; show (rs[r9].2.2.2 ++ [z0]).length ≤ _; rw [List.length_append]; simp; omega))
                  clear own13 grow13 hg13 hlt13 GB13 EV jg jc jf
                  refine hK.out _ _ ?_ (fun hHeld => ?_)
                  · exact jl
                  clear hK K
                  refine wpAnyH_take (i := 13) (oi := _) (v := ?_) rfl (by kernel_rfl) (by kernel_rfl) (by kernel_rfl) (fun _ _ _ h => h) (Or.inl ⟨by rfl, ?_⟩) (by assumption) ?_
                  rotate_left
                  · first | (intro w hSw; (try dsimp only at hSw); go_simp; done) | (intro w hSw; (try dsimp only at hSw); go_simp; with_reducible rfl)
                  try simp only [Act.put, List.setIfInBounds_toArray, List.set_cons_zero, List.set_cons_succ, List.getElem_toArray, List.getElem_cons_succ, List.getElem_cons_zero]
                  refine wpAnyH_take (i := 14) (oi := _) (v := ?_) rfl (by kernel_rfl) (by kernel_rfl) (by kernel_rfl) (fun _ _ _ h => h) (Or.inl ⟨by rfl, ?_⟩) (by assumption) ?_
                  rotate_left
                  · first | (intro w hSw; (try dsimp only at hSw); go_simp; done) | (intro w hSw; (try dsimp only at hSw); go_simp; with_reducible rfl)
                  try simp only [Act.put, List.setIfInBounds_toArray, List.set_cons_zero, List.set_cons_succ, List.getElem_toArray, List.getElem_cons_succ, List.getElem_cons_zero]
                  refine wpAnyH_ready (rs := [15]) (by kernel_rfl) (by simp) ?_
                  refine (AllReadyH.cons rfl (fun K hK => ?_) AllReadyH.nil)
                  go_simp
                  refine hK.out _ _ ?_ (fun hHeld => ?_)
                  · exact KS.out _ _ T14.out
                  clear hK K
                  refine wpAnyH_done (by kernel_rfl) ?_ _
                  clear j1 jf2 jl
                  obtain ⟨f0, f1, ff, fl⟩ := T14.out.facts
                  obtain ⟨e0, e1, e2, e3, e4, e5, e6⟩ := T14.out.res
                  have PF := Lib.hid (T14.out.fin2 HD2.out (by rw [List.length_set]; omega) (by omega) WP.out)
                  go_wp2
                  exact bodyPost_ret (v := .agg #[.slice (some ⟨g1, 0, none⟩) rs.length cap1, .slice sl2 ps.length cap2]) (by simp [results, Try.results64, go_sem, e5, e6]) rfl PF.out
                · obtain ⟨lg, lc, lf, ld, lz⟩ := DX.out _ T10d.out
                  go_simp
                  refine hK.out _ _ ?_ (fun hHeld => ?_)
                  · exact KS.out _ _ T10d.out
                  clear hK K
                  clear lg lc lf ld lz
                  refine wpAnyH_take (i := 9) (oi := _) (v := ?_) rfl (by kernel_rfl) (by kernel_rfl) (by kernel_rfl) (fun _ _ _ h => h) (Or.inl ⟨by rfl, ?_⟩) (by assumption) ?_
                  rotate_left
                  · first | (intro w hSw; (try dsimp only at hSw); go_simp; done) | (intro w hSw; (try dsimp only at hSw); go_simp; with_reducible rfl)
                  try simp only [Act.put, List.setIfInBounds_toArray, List.set_cons_zero, List.set_cons_succ, List.getElem_toArray, List.getElem_cons_succ, List.getElem_cons_zero]
                  refine wpAnyH_ready (rs := [4, 10]) (by kernel_rfl) (by simp) ?_
                  refine (AllReadyH.cons rfl (fun K hK => ?_) (AllReadyH.cons rfl (fun K hK => ?_) AllReadyH.nil))
                  · obtain ⟨lg, lc, lf, ld, lz⟩ := DX.out _ T10d.out
                    go_simp
                    refine hK.out _ _ ?_ (fun hHeld => ?_)
                    · exact KS.out _ _ T10d.out
                    clear hK K
                    clear lg lc lf ld lz
                    refine wpAnyH_ready (rs := [10]) (by kernel_rfl) (by simp) ?_
                    refine (AllReadyH.cons rfl (fun K hK => ?_) AllReadyH.nil)
                    obtain ⟨lg, lc, lf, ld, lz⟩ := DX.out _ T10d.out
                    go_simp
                    refine hK.out _ _ ?_ (fun hHeld => ?_)
                    · exact KS.out _ _ T10d.out
                    clear hK K
                    clear lg lc lf ld lz
                    refine wpAnyH_ready (rs := [11]) (by kernel_rfl) (by simp) ?_
                    refine (AllReadyH.cons rfl (fun K hK => ?_) AllReadyH.nil)
                    have TA := Lib.hid (T10d.out.alloc (.cells #[.int .i64 z0] 2))
                    go_simp
                    refine hK.out _ _ ?_ (fun hHeld => ?_)
                    · exact KS.out _ _ TA.out
                    clear hK K
                    refine wpAnyH_ready (rs := [12]) (by kernel_rfl) (by simp) ?_
                    refine (AllReadyH.cons rfl (fun K hK => ?_) AllReadyH.nil)
                    refine step_append_lies _ rfl (.tmp 186) (.tmp 193) 40 rfl (tb + 1) 2 i2 (.int .i64 0) 1 8 Try.underlying40 hi2 hz20 hz21 hz22 rfl (by decide) (.slice (some ⟨gd, 0, none⟩) rs[r9].2.2.2.length capd) rs[r9].2.2.2.length (valsZ rs[r9].2.2.2) (by simp [Act.eval]) (by have := TA.out.dom _ (List.getElem_mem hr9'); rwa [edd] at this) ⟨w10.heap.size, 0, none⟩ 1 1 [.int .i64 z0] (by simp [Act.eval]) rfl (cell_one_new _ _ _) (by intro u hu; simp at hu; subst hu; rfl) (by decide) (by have := HD8.out; unfold maxLen; omega) (by have := HD8.out; omega) (by have := tb10; simp; omega) (w10.heap.size + 1) (by simp) ?_
                    intro g13 cap13 w13 own13 grow13 hg13 hlt13
                    have GB13 := Lib.hid (grow13.block g1 ((TA.out.st.lt g1 rfl).2) (fun e => own_ne TA.out.st (TA.out.dom _ (List.getElem_mem hr9')) (by decide) (j := g1) rfl (by rw [edd]; exact e.symm)))
                    have EV := Lib.hid (show valsZ rs[r9].2.2.2 ++ [.int .i64 z0] = valsZ (rs[r9].2.2.2 ++ [z0]) by simp [valsZ])
                    rw [EV.out] at own13
                    have T14 := Lib.hid (TA.out.setD r9 hr9' (.slice (some ⟨g13, 0, none⟩) (rs[r9].2.2.2.length + 1) cap13) (rs[r9].2.2.2 ++ [z0]) grow13 (fun k hk => by rw [edd]; exact hk) (by rw [List.length_append]; exact own13) ⟨g13, rfl, hg13.imp (fun e => by rw [edd]; exact e) (fun e => by simp; omega)⟩)
                    obtain ⟨jg, jc, jf, -, -⟩ := DX.out _ TA.out
                    have j1 : w13.cell? ⟨g1, r9 * 3 + 2, none⟩ = some (.slice (some ⟨gd, 0, none⟩) rs[r9].2.2.2.length capd) := (World.cell?_of_block GB13.out).trans jc
                    have jf2 : w13.frozen? ⟨g1, r9 * 3 + 2, none⟩ = false := (World.frozen?_of_block GB13.out).trans jf
                    have jl : g1 < w13.heap.size := Nat.lt_of_lt_of_le jg grow13.size
                    have HD2 := Lib.hid (hd_set (rs := rs) (j := r9) (r' := (rs[r9].1, rs[r9].2.1, .slice (some ⟨g13, 0, none⟩) (rs[r9].2.2.2.length + 1) cap13, rs[r9].2.2.2 ++ [z0])) HD.out (by have := HD8.out; show (rs[r9].2.2.2 ++ [z0]).length ≤ _; rw [List.length_append]; simp; omega))
                    clear own13 grow13 hg13 hlt13 GB13 EV jg jc jf
                    refine hK.out _ _ ?_ (fun hHeld => ?_)
                    · exact jl
                    clear hK K
                    refine wpAnyH_take (i := 13) (oi := _) (v := ?_) rfl (by kernel_rfl) (by kernel_rfl) (by kernel_rfl) (fun _ _ _ h => h) (Or.inl ⟨by rfl, ?_⟩) (by assumption) ?_
                    rotate_left
                    · first | (intro w hSw; (try dsimp only at hSw); go_simp; done) | (intro w hSw; (try dsimp only at hSw); go_simp; with_reducible rfl)
                    try simp only [Act.put, List.setIfInBounds_toArray, List.set_cons_zero, List.set_cons_succ, List.getElem_toArray, List.getElem_cons_succ, List.getElem_cons_zero]
                    refine wpAnyH_take (i := 14) (oi := _) (v := ?_) rfl (by kernel_rfl) (by kernel_rfl) (by kernel_rfl) (fun _ _ _ h => h) (Or.inl ⟨by rfl, ?_⟩) (by assumption) ?_
                    rotate_left
                    · first | (intro w hSw; (try dsimp only at hSw); go_simp; done) | (intro w hSw; (try dsimp only at hSw); go_simp; with_reducible rfl)
                    try simp only [Act.put, List.setIfInBounds_toArray, List.set_cons_zero, List.set_cons_succ, List.getElem_toArray, List.getElem_cons_succ, List.getElem_cons_zero]
                    refine wpAnyH_ready (rs := [15]) (by kernel_rfl) (by simp) ?_
                    refine (AllReadyH.cons rfl (fun K hK => ?_) AllReadyH.nil)
                    go_simp
                    refine hK.out _ _ ?_ (fun hHeld => ?_)
                    · exact KS.out _ _ T14.out
                    clear hK K
                    refine wpAnyH_done (by kernel_rfl) ?_ _
                    clear j1 jf2 jl
                    obtain ⟨f0, f1, ff, fl⟩ := T14.out.facts
                    obtain ⟨e0, e1, e2, e3, e4, e5, e6⟩ := T14.out.res
                    have PF := Lib.hid (T14.out.fin2 HD2.out (by rw [List.length_set]; omega) (by omega) WP.out)
                    go_wp2
                    exact bodyPost_ret (v := .agg #[.slice (some ⟨g1, 0, none⟩) rs.length cap1, .slice sl2 ps.length cap2]) (by simp [results, Try.results64, go_sem, e5, e6]) rfl PF.out
                  · obtain ⟨lg, lc, lf, ld, lz⟩ := DX.out _ T10d.out
                    go_simp
                    refine hK.out _ _ ?_ (fun hHeld => ?_)
                    · exact KS.out _ _ T10d.out
                    clear hK K
                    clear lg lc lf ld lz
                    refine wpAnyH_ready (rs := [4, 11]) (by kernel_rfl) (by simp) ?_
                    refine (AllReadyH.cons rfl (fun K hK => ?_) (AllReadyH.cons rfl (fun K hK => ?_) AllReadyH.nil))
                    · obtain ⟨lg, lc, lf, ld, lz⟩ := DX.out _ T10d.out
                      go_simp
                      refine hK.out _ _ ?_ (fun hHeld => ?_)
                      · exact KS.out _ _ T10d.out
                      clear hK K
                      clear lg lc lf ld lz
                      refine wpAnyH_ready (rs := [11]) (by kernel_rfl) (by simp) ?_
                      refine (AllReadyH.cons rfl (fun K hK => ?_) AllReadyH.nil)
                      have TA := Lib.hid (T10d.out.alloc (.cells #[.int .i64 z0] 2))
                      go_simp
                      refine hK.out _ _ ?_ (fun hHeld => ?_)
                      · exact KS.out _ _ TA.out
                      clear hK K
                      refine wpAnyH_ready (rs := [12]) (by kernel_rfl) (by simp) ?_
                      refine (AllReadyH.cons rfl (fun K hK => ?_) AllReadyH.nil)
                      refine step_append_lies _ rfl (.tmp 186) (.tmp 193) 40 rfl (tb + 1) 2 i2 (.int .i64 0) 1 8 Try.underlying40 hi2 hz20 hz21 hz22 rfl (by decide) (.slice (some ⟨gd, 0, none⟩) rs[r9].2.2.2.length capd) rs[r9].2.2.2.length (valsZ rs[r9].2.2.2) (by simp [Act.eval]) (by have := TA.out.dom _ (List.getElem_mem hr9'); rwa [edd] at this) ⟨w10.heap.size, 0, none⟩ 1 1 [.int .i64 z0] (by simp [Act.eval]) rfl (cell_one_new _ _ _) (by intro u hu; simp at hu; subst hu; rfl) (by decide) (by have := HD8.out; unfold maxLen; omega) (by have := HD8.out; omega) (by have := tb10; simp; omega) (w10.heap.size + 1) (by simp) ?_
                      intro g13 cap13 w13 own13 grow13 hg13 hlt13
                      have GB13 := Lib.hid (grow13.block g1 ((TA.out.st.lt g1 rfl).2) (fun e => own_ne TA.out.st (TA.out.dom _ (List.getElem_mem hr9')) (by decide) (j := g1) rfl (by rw [edd]; exact e.symm)))
                      have EV := Lib.hid (show valsZ rs[r9].2.2.2 ++ [.int .i64 z0] = valsZ (rs[r9].2.2.2 ++ [z0]) by simp [valsZ])
                      rw [EV.out] at own13
                      have T14 := Lib.hid (TA.out.setD r9 hr9' (.slice (some ⟨g13, 0, none⟩) (rs[r9].2.2.2.length + 1) cap13) (rs[r9].2.2.2 ++ [z0]) grow13 (fun k hk => by rw [edd]; exact hk) (by rw [List.length_append]; exact own13) ⟨g13, rfl, hg13.imp (fun e => by rw [edd]; exact e) (fun e => by simp; omega)⟩)
                      obtain ⟨jg, jc, jf, -, -⟩ := DX.out _ TA.out
                      have j1 : w13.cell? ⟨g1, r9 * 3 + 2, none⟩ = some (.slice (some ⟨gd, 0, none⟩) rs[r9].2.2.2.length capd) := (World.cell?_of_block GB13.out).trans jc
                      have jf2 : w13.frozen? ⟨g1, r9 * 3 + 2, none⟩ = false := (World.frozen?_of_block GB13.out).trans jf
                      have jl : g1 < w13.heap.size := Nat.lt_of_lt_of_le jg grow13.size
                      have HD2 := Lib.hid (hd_set (rs := rs) (j := r9) (r' := (rs[r9].1, rs[r9].2.1, .slice (some ⟨g13, 0, none⟩) (rs[r9].2.2.2.length + 1) cap13, rs[r9].2.2.2 ++ [z0])) HD.out (by have := HD8.out; show (rs[r9].2.2.2 ++ [z0]).length ≤ _; rw [List.length_append]; simp; omega))
                      clear own13 grow13 hg13 hlt13 GB13 EV jg jc jf
                      refine hK.out _ _ ?_ (fun hHeld => ?_)
                      · exact jl
                      clear hK K
                      refine wpAnyH_take (i := 13) (oi := _) (v := ?_) rfl (by kernel_rfl) (by kernel_rfl) (by kernel_rfl) (fun _ _ _ h => h) (Or.inl ⟨by rfl, ?_⟩) (by assumption) ?_
                      rotate_left
                      · first | (intro w hSw; (try dsimp only at hSw); go_simp; done) | (intro w hSw; (try dsimp only at hSw); go_simp; with_reducible rfl)
                      try simp only [Act.put, List.setIfInBounds_toArray, List.set_cons_zero, List.set_cons_succ, List.getElem_toArray, List.getElem_cons_succ, List.getElem_cons_zero]
                      refine wpAnyH_take (i := 14) (oi := _) (v := ?_) rfl (by kernel_rfl) (by kernel_rfl) (by kernel_rfl) (fun _ _ _ h => h) (Or.inl ⟨by rfl, ?_⟩) (by assumption) ?_
                      rotate_left
                      · first | (intro w hSw; (try dsimp only at hSw); go_simp; done) | (intro w hSw; (try dsimp only at hSw); go_simp; with_reducible rfl)
                      try simp only [Act.put, List.setIfInBounds_toArray, List.set_cons_zero, List.set_cons_succ, List.getElem_toArray, List.getElem_cons_succ, List.getElem_cons_zero]
                      refine wpAnyH_ready (rs := [15]) (by kernel_rfl) (by simp) ?_
                      refine (AllReadyH.cons rfl (fun K hK => ?_) AllReadyH.nil)
                      go_simp
                      refine hK.out _ _ ?_ (fun hHeld => ?_)
                      · exact KS.out _ _ T14.out
                      clear hK K
                      refine wpAnyH_done (by kernel_rfl) ?_ _
                      clear j1 jf2 jl
                      obtain ⟨f0, f1, ff, fl⟩ := T14.out.facts
                      obtain ⟨e0, e1, e2, e3, e4, e5, e6⟩ := T14.out.res
                      have PF := Lib.hid (T14.out.fin2 HD2.out (by rw [List.length_set]; omega) (by omega) WP.out)
                      go_wp2
                      exact bodyPost_ret (v := .agg #[.slice (some ⟨g1, 0, none⟩) rs.length cap1, .slice sl2 ps.length cap2]) (by simp [results, Try.results64, go_sem, e5, e6]) rfl PF.out
                    · have TA := Lib.hid (T10d.out.alloc (.cells #[.int .i64 z0] 2))
                      go_simp
                      refine hK.out _ _ ?_ (fun hHeld => ?_)
                      · exact KS.out _ _ TA.out
                      clear hK K
                      refine wpAnyH_ready (rs := [4]) (by kernel_rfl) (by simp) ?_
                      refine (AllReadyH.cons rfl (fun K hK => ?_) AllReadyH.nil)
                      obtain ⟨lg, lc, lf, ld, lz⟩ := DX.out (w10.alloc (.cells #[.int .i64 z0] 2)).drew TA.out
                      go_simp
                      refine hK.out _ _ ?_ (fun hHeld => ?_)
                      · exact KS.out _ _ TA.out
                      clear hK K
                      clear lg lc lf ld lz
                      refine wpAnyH_ready (rs := [12]) (by kernel_rfl) (by simp) ?_
                      refine (AllReadyH.cons rfl (fun K hK => ?_) AllReadyH.nil)
                      refine step_append_lies _ rfl (.tmp 186) (.tmp 193) 40 rfl (tb + 1) 2 i2 (.int .i64 0) 1 8 Try.underlying40 hi2 hz20 hz21 hz22 rfl (by decide) (.slice (some ⟨gd, 0, none⟩) rs[r9].2.2.2.length capd) rs[r9].2.2.2.length (valsZ rs[r9].2.2.2) (by simp [Act.eval]) (by have := TA.out.dom _ (List.getElem_mem hr9'); rwa [edd] at this) ⟨w10.heap.size, 0, none⟩ 1 1 [.int .i64 z0] (by simp [Act.eval]) rfl (cell_one_new _ _ _) (by intro u hu; simp at hu; subst hu; rfl) (by decide) (by have := HD8.out; unfold maxLen; omega) (by have := HD8.out; omega) (by have := tb10; simp; omega) (w10.heap.size + 1) (by simp) ?_
                      intro g13 cap13 w13 own13 grow13 hg13 hlt13
                      have GB13 := Lib.hid (grow13.block g1 ((TA.out.st.lt g1 rfl).2) (fun e => own_ne TA.out.st (TA.out.dom _ (List.getElem_mem hr9')) (by decide) (j := g1) rfl (by rw [edd]; exact e.symm)))
                      have EV := Lib.hid (show valsZ rs[r9].2.2.2 ++ [.int .i64 z0] = valsZ (rs[r9].2.2.2 ++ [z0]) by simp [valsZ])
                      rw [EV.out] at own13
                      have T14 := Lib.hid (TA.out.setD r9 hr9' (.slice (some ⟨g13, 0, none⟩) (rs[r9].2.2.2.length + 1) cap13) (rs[r9].2.2.2 ++ [z0]) grow13 (fun k hk => by rw [edd]; exact hk) (by rw [List.length_append]; exact own13) ⟨g13, rfl, hg13.imp (fun e => by rw [edd]; exact e) (fun e => by simp; omega)⟩)
                      obtain ⟨jg, jc, jf, -, -⟩ := DX.out _ TA.out
                      have j1 : w13.cell? ⟨g1, r9 * 3 + 2, none⟩ = some (.slice (some ⟨gd, 0, none⟩) rs[r9].2.2.2.length capd) := (World.cell?_of_block GB13.out).trans jc
                      have jf2 : w13.frozen? ⟨g1, r9 * 3 + 2, none⟩ = false := (World.frozen?_of_block GB13.out).trans jf
                      have jl : g1 < w13.heap.size := Nat.lt_of_lt_of_le jg grow13.size
                      have HD2 := Lib.hid (hd_set (rs := rs) (j := r9) (r' := (rs[r9].1, rs[r9].2.1, .slice (some ⟨g13, 0, none⟩) (rs[r9].2.2.2.length + 1) cap13, rs[r9].2.2.2 ++ [z0])) HD.out (by have := HD8.out; show (rs[r9].2.2.2 ++ [z0]).length ≤ _; rw [List.length_append]; simp; omega))
                      clear own13 grow13 hg13 hlt13 GB13 EV jg jc jf
                      refine hK.out _ _ ?_ (fun hHeld => ?_)
                      · exact jl
                      clear hK K
                      refine wpAnyH_take (i := 13) (oi := _) (v := ?_) rfl (by kernel_rfl) (by kernel_rfl) (by kernel_rfl) (fun _ _ _ h => h) (Or.inl ⟨by rfl, ?_⟩) (by assumption) ?_
                      rotate_left
                      · first | (intro w hSw; (try dsimp only at hSw); go_simp; done) | (intro w hSw; (try dsimp only at hSw); go_simp; with_reducible rfl)
                      try simp only [Act.put, List.setIfInBounds_toArray, List.set_cons_zero, List.set_cons_succ, List.getElem_toArray, List.getElem_cons_succ, List.getElem_cons_zero]
                      refine wpAnyH_take (i := 14) (oi := _) (v := ?_) rfl (by kernel_rfl) (by kernel_rfl) (by kernel_rfl) (fun _ _ _ h => h) (Or.inl ⟨by rfl, ?_⟩) (by assumption) ?_
                      rotate_left
                      · first | (intro w hSw; (try dsimp only at hSw); go_simp; done) | (intro w hSw; (try dsimp only at hSw); go_simp; with_reducible rfl)
                      try simp only [Act.put, List.setIfInBounds_toArray, List.set_cons_zero, List.set_cons_succ, List.getElem_toArray, List.getElem_cons_succ, List.getElem_cons_zero]
                      refine wpAnyH_ready (rs := [15]) (by kernel_rfl) (by simp) ?_
                      refine (AllReadyH.cons rfl (fun K hK => ?_) AllReadyH.nil)
                      go_simp
                      refine hK.out _ _ ?_ (fun hHeld => ?_)
                      · exact KS.out _ _ T14.out
                      clear hK K
                      refine wpAnyH_done (by kernel_rfl) ?_ _
                      clear j1 jf2 jl
                      obtain ⟨f0, f1, ff, fl⟩ := T14.out.facts
                      obtain ⟨e0, e1, e2, e3, e4, e5, e6⟩ := T14.out.res
                      have PF := Lib.hid (T14.out.fin2 HD2.out (by rw [List.length_set]; omega) (by omega) WP.out)
                      go_wp2
                      exact bodyPost_ret (v := .agg #[.slice (some ⟨g1, 0, none⟩) rs.length cap1, .slice sl2 ps.length cap2]) (by simp [results, Try.results64, go_sem, e5, e6]) rfl PF.out
              · have G0 := Lib.hid (T10.out.alloc (.cells #[.int .i64 1, .int .i64 900, .int .i64 1] 112))
                have tl9 := T10.out.lt
                obtain ⟨f0, f1, ff, fl⟩ := T10.out.facts
                go_upto_region 41 with fail
                go_wp2_with (first | (at_builtin; refine wpList_append_lies _ rfl (.tmp 200) (.tmp 202) 24 rfl (tb + 1) 112 i82 (.agg #[.int .i64 0, .int .i64 0, .int .i64 0]) 3 24 Try.underlying24 hi82 hy80 hy81 hy82 rfl (by decide) _ _ _ rfl G0.out.pr ⟨w10.heap.size, 0, none⟩ 1 1 [.int .i64 1, .int .i64 900, .int .i64 1] rfl rfl (three_new3 _ _ _ _ _) (by intro u hu; rcases List.mem_cons.1 hu with rfl | hu; rfl; rcases List.mem_cons.1 hu with rfl | hu; rfl; rcases List.mem_cons.1 hu with rfl | hu; rfl; cases hu) (by decide) (by unfold maxLen; omega) (by omega) (by simp; omega) (w10.heap.size + 1) (by simp) ?_))
                intro g11 cap11 w11 own11 grow11 hg11 hlt11
                have TB11 := Lib.hid ((grow11.block tb G0.out.lt (fun e => by have := own_base G0.out.pr e.symm; omega)).trans G0.out.tab)
                have j1 : w11.cell? ⟨tb, 1, none⟩ = some (.slice sl2 ps.length cap2) := by simp [World.cell?, TB11.out]
                have jf : w11.frozen? ⟨tb, 1, none⟩ = false := by simp [World.frozen?, TB11.out]
                have jl : tb < w11.heap.size := (Array.getElem?_eq_some_iff.1 TB11.out).1
                have T12 := Lib.hid (G0.out.addP (1, 900, 1) grow11 own11)
                have WP2 : Hid (∀ p ∈ ps ++ [((1 : Int), (900 : Int), (1 : Int))], WfP p) := fun p hp => by
                  rcases List.mem_append.1 hp with hp | hp
                  · exact WP.out p hp
                  · simp at hp; subst hp; exact ⟨⟨wf_small (by decide), wf_small (by decide)⟩, wf_small (by decide)⟩
                clear own11 grow11 hg11 hlt11 f0 f1 ff fl T10 CC
                obtain ⟨f0, f1, ff, fl⟩ := T12.out.facts
                obtain ⟨e0, e1, e2, e3, e4, e5, e6⟩ := T12.out.res
                have PF := Lib.hid (T12.out.fin2 HD.out (by first | omega | (rw [List.length_set]; omega)) (by simp; omega) WP2.out)
                go_wp2
                exact bodyPost_ret (v := .agg #[.slice (some ⟨g1, 0, none⟩) rs.length cap1, .slice (some ⟨g11, 0, none⟩) (ps.length + 1) cap11]) (by simp [results, Try.results64, go_sem, e5, e6]) rfl PF.out
              · have T11d := Lib.hid T10.out.drew
                have KS : Hid (∀ v2 ps W, TI w b tb (.slice (some ⟨g1, 0, none⟩) rs.length cap1) v2 rs ps W → tb < W.heap.size ∧ g1 < W.heap.size ∧ W.cell? ⟨g1, r9 * 3, none⟩ = some (.int .i64 rs[r9].1)) := fun v2 ps W h => by
                  obtain ⟨g', cp', eg', _, gl', _, hc'⟩ := own3_cells h.st hrl
                  cases eg'
                  exact ⟨h.lt, gl', (hc' _ _ (stC_at rs r9 hr9').1).1⟩
                have AW := Lib.hid (HR.out rs[r9] (List.getElem_mem hr9')).1
                clear CC
                generalize rs[r9].1 = a at *
                have K2 : Hid (∀ W W' : World, (tb < W.heap.size ∧ g1 < W.heap.size ∧ W.cell? ⟨g1, r9 * 3, none⟩ = some (.int .i64 a)) → W'.heap[g1]? = W.heap[g1]? → W.heap.size ≤ W'.heap.size → (tb < W'.heap.size ∧ g1 < W'.heap.size ∧ W'.cell? ⟨g1, r9 * 3, none⟩ = some (.int .i64 a))) := fun W W' h e2 hs => ⟨Nat.lt_of_lt_of_le h.1 hs, Nat.lt_of_lt_of_le h.2.1 hs, (World.cell?_of_block (w := W) e2).trans h.2.2⟩
                go_wp2_with fail
                refine wp_region_held_drew (S := fun W => tb < W.heap.size ∧ g1 < W.heap.size ∧ W.cell? ⟨g1, r9 * 3, none⟩ = some (.int .i64 a)) (by kernel_rfl) ?_ (fun hHeld => ?_)
                · exact KS.out _ _ _ T11d.out
                refine wpAnyH_take (i := 0) (oi := _) (v := ?_) rfl (by kernel_rfl) (by kernel_rfl) (by kernel_rfl) (fun _ _ _ h => h) (Or.inl ⟨by rfl, ?_⟩) (by assumption) ?_
                rotate_left
                · first | (intro w hSw; (try dsimp only at hSw); go_simp; done) | (intro w hSw; (try dsimp only at hSw); go_simp; with_reducible rfl)
                try simp only [Act.put, List.setIfInBounds_toArray, List.set_cons_zero, List.set_cons_succ, List.getElem_toArray, List.getElem_cons_zero]
                refine wpAnyH_take (i := 2) (oi := _) (v := ?_) rfl (by kernel_rfl) (by kernel_rfl) (by kernel_rfl) (fun _ _ _ h => h) (Or.inl ⟨by rfl, ?_⟩) (by assumption) ?_
                rotate_left
                · first | (intro w hSw; (try dsimp only at hSw); go_simp; done) | (intro w hSw; (try dsimp only at hSw); go_simp; with_reducible rfl)
                try simp only [Act.put, List.setIfInBounds_toArray, List.set_cons_zero, List.set_cons_succ, List.getElem_toArray, List.getElem_cons_succ, List.getElem_cons_zero]
                refine wpAnyH_take (i := 3) (oi := _) (v := ?_) rfl (by kernel_rfl) (by kernel_rfl) (by kernel_rfl) (fun _ _ _ h => h) (Or.inl ⟨by rfl, ?_⟩) (by assumption) ?_
                rotate_left
                · first | (intro w hSw; (try dsimp only at hSw); go_simp; done) | (intro w hSw; (try dsimp only at hSw); go_simp; with_reducible rfl)
                try simp only [Act.put, List.setIfInBounds_toArray, List.set_cons_zero, List.set_cons_succ, List.getElem_toArray, List.getElem_cons_succ, List.getElem_cons_zero]
                refine wpAnyH_take (i := 4) (oi := _) (v := ?_) rfl (by kernel_rfl) (by kernel_rfl) (by kernel_rfl) (fun _ _ _ h => h) (Or.inl ⟨by rfl, ?_⟩) (by assumption) ?_
                rotate_left
                · first | (intro w hSw; (try dsimp only at hSw); go_simp; done) | (intro w hSw; (try dsimp only at hSw); go_simp; with_reducible rfl)
                try simp only [Act.put, List.setIfInBounds_toArray, List.set_cons_zero, List.set_cons_succ, List.getElem_toArray, List.getElem_cons_succ, List.getElem_cons_zero]
                refine wpAnyH_take (i := 5) (oi := _) (v := ?_) rfl (by kernel_rfl) (by kernel_rfl) (by kernel_rfl) (fun _ _ _ h => h) (Or.inl ⟨by rfl, ?_⟩) (by assumption) ?_
                rotate_left
                · first | (intro w hSw; (try dsimp only at hSw); go_simp; done) | (intro w hSw; (try dsimp only at hSw); go_simp; with_reducible rfl)
                try simp only [Act.put, List.setIfInBounds_toArray, List.set_cons_zero, List.set_cons_succ, List.getElem_toArray, List.getElem_cons_succ, List.getElem_cons_zero]
                refine wpAnyH_take (i := 6) (oi := _) (v := ?_) rfl (by kernel_rfl) (by kernel_rfl) (by kernel_rfl) (fun _ _ _ h => h) (Or.inl ⟨by rfl, ?_⟩) (by assumption) ?_
                rotate_left
                · first | (intro w hSw; (try dsimp only at hSw); go_simp; done) | (intro w hSw; (try dsimp only at hSw); go_simp; with_reducible rfl)
                try simp only [Act.put, List.setIfInBounds_toArray, List.set_cons_zero, List.set_cons_succ, List.getElem_toArray, List.getElem_cons_succ, List.getElem_cons_zero]
                refine wpAnyH_take (i := 7) (oi := _) (v := ?_) rfl (by kernel_rfl) (by kernel_rfl) (by kernel_rfl) (fun _ _ _ h => h) (Or.inl ⟨by rfl, ?_⟩) (by assumption) ?_
                rotate_left
                · first | (intro w hSw; (try dsimp only at hSw); go_simp; done) | (intro w hSw; (try dsimp only at hSw); go_simp; with_reducible rfl)
                try simp only [Act.put, List.setIfInBounds_toArray, List.set_cons_zero, List.set_cons_succ, List.getElem_toArray, List.getElem_cons_succ, List.getElem_cons_zero]
                refine wpAnyH_take (i := 8) (oi := _) (v := ?_) rfl (by kernel_rfl) (by kernel_rfl) (by kernel_rfl) (fun _ _ _ h => h) (Or.inl ⟨by rfl, ?_⟩) (by assumption) ?_
                rotate_left
                · first | (intro w hSw; (try dsimp only at hSw); go_simp; done) | (intro w hSw; (try dsimp only at hSw); go_simp; with_reducible rfl)
                try simp only [Act.put, List.setIfInBounds_toArray, List.set_cons_zero, List.set_cons_succ, List.getElem_toArray, List.getElem_cons_succ, List.getElem_cons_zero]
                refine wpAnyH_take (i := 9) (oi := _) (v := ?_) rfl (by kernel_rfl) (by kernel_rfl) (by kernel_rfl) (fun _ _ _ h => h) (Or.inl ⟨by rfl, ?_⟩) (by assumption) ?_
                rotate_left
                · first | (intro w hSw; (try dsimp only at hSw); go_simp; done) | (intro w hSw; (try dsimp only at hSw); go_simp; with_reducible rfl)
                try simp only [Act.put, List.setIfInBounds_toArray, List.set_cons_zero, List.set_cons_succ, List.getElem_toArray, List.getElem_cons_succ, List.getElem_cons_zero]
                refine wpAnyH_take (i := 10) (oi := _) (v := ?_) rfl (by kernel_rfl) (by kernel_rfl) (by kernel_rfl) (fun _ _ _ h => h) (Or.inl ⟨by rfl, ?_⟩) (by assumption) ?_
                rotate_left
                · first | (intro w hSw; (try dsimp only at hSw); go_simp; done) | (intro w hSw; (try dsimp only at hSw); go_simp; with_reducible rfl)
                try simp only [Act.put, List.setIfInBounds_toArray, List.set_cons_zero, List.set_cons_succ, List.getElem_toArray, List.getElem_cons_succ, List.getElem_cons_zero]
                refine wpAnyH_ready (rs := [1, 11]) (by kernel_rfl) (by simp) ?_
                refine (AllReadyH.cons rfl (fun K hK => ?_) (AllReadyH.cons rfl (fun K hK => ?_) AllReadyH.nil))
                · have lf := T11d.out.facts.2.1
                  go_simp
                  refine hK.out _ _ ?_ (fun hHeld => ?_)
                  · exact KS.out _ _ _ T11d.out
                  clear hK K
                  clear lf
                  refine wpAnyH_ready (rs := [11]) (by kernel_rfl) (by simp) ?_
                  refine (AllReadyH.cons rfl (fun K hK => ?_) AllReadyH.nil)
                  go_simp
                  go_wp2_with (go_at_call 67; refine (N.out 2 _ (by decide) (by decide) T11d.out.src).mono ?_; rintro e w12 ⟨r12, rfl, hr12, s12, o12⟩)
                  have T12 := Lib.hid (T11d.out.call s12 o12)
                  have tb12 := T12.out.lt
                  clear s12 o12
                  refine hK.out _ _ ?_ (fun hHeld => ?_)
                  · exact KS.out _ _ _ T12.out
                  clear hK K
                  refine wpAnyH_take (i := 12) (oi := _) (v := ?_) rfl (by kernel_rfl) (by kernel_rfl) (by kernel_rfl) (fun _ _ _ h => h) (Or.inl ⟨by rfl, ?_⟩) (by assumption) ?_
                  rotate_left
                  · first | (intro w hSw; (try dsimp only at hSw); go_simp; done) | (intro w hSw; (try dsimp only at hSw); go_simp; with_reducible rfl)
                  try simp only [Act.put, List.setIfInBounds_toArray, List.set_cons_zero, List.set_cons_succ, List.getElem_toArray, List.getElem_cons_succ, List.getElem_cons_zero]
                  refine wpAnyH_take (i := 13) (oi := _) (v := ?_) rfl (by kernel_rfl) (by kernel_rfl) (by kernel_rfl) (fun _ _ _ h => h) (Or.inl ⟨by rfl, ?_⟩) (by assumption) ?_
                  rotate_left
                  · first | (intro w hSw; (try dsimp only at hSw); go_simp; done) | (intro w hSw; (try dsimp only at hSw); go_simp; with_reducible rfl)
                  try simp only [Act.put, List.setIfInBounds_toArray, List.set_cons_zero, List.set_cons_succ, List.getElem_toArray, List.getElem_cons_succ, List.getElem_cons_zero]
                  refine wpAnyH_ready (rs := [14]) (by kernel_rfl) (by simp) ?_
                  refine (AllReadyH.cons rfl (fun K hK => ?_) AllReadyH.nil)
                  have TA := Lib.hid (T12.out.alloc (.cells #[.int .i64 a, .int .i64 a, .int .i64 (IntKind.i64.wrap (3 * (r12 : Int)))] 112))
                  go_simp
                  refine hK.out _ _ ?_ (fun hHeld => ?_)
                  · exact KS.out _ _ _ TA.out
                  clear hK K
                  refine wpAnyH_ready (rs := [15]) (by kernel_rfl) (by simp) ?_
                  refine (AllReadyH.cons rfl (fun K hK => ?_) AllReadyH.nil)
                  refine step_append_lies _ rfl (.tmp 126) (.tmp 139) 24 rfl (tb + 1) 112 i82 (.agg #[.int .i64 0, .int .i64 0, .int .i64 0]) 3 24 Try.underlying24 hi82 hy80 hy81 hy82 rfl (by decide) (.slice sl2 ps.length cap2) ps.length (prC ps) (by simp [Act.eval]) TA.out.pr ⟨w12.heap.size, 0, none⟩ 1 1 [.int .i64 a, .int .i64 a, .int .i64 (IntKind.i64.wrap (3 * (r12 : Int)))] (by simp [Act.eval]) rfl (three_new3 _ _ _ _ _) (by intro u hu; rcases List.mem_cons.1 hu with rfl | hu; rfl; rcases List.mem_cons.1 hu with rfl | hu; rfl; rcases List.mem_cons.1 hu with rfl | hu; rfl; cases hu) (by decide) (by unfold maxLen; omega) (by omega) (by simp; omega) (w12.heap.size + 1) (by simp) ?_
                  intro g13 cap13 w13 own13 grow13 hg13 hlt13
                  have TB13 := Lib.hid ((grow13.block tb TA.out.lt (fun e => by have := own_base TA.out.pr e.symm; omega)).trans TA.out.tab)
                  have GB13 := Lib.hid (grow13.block g1 ((TA.out.st.lt g1 rfl).2) (fun e => own_ne TA.out.st TA.out.pr (by decide) (j := g1) rfl e.symm))
                  have T14 := Lib.hid (TA.out.addP (a, a, (IntKind.i64.wrap (3 * (r12 : Int)))) grow13 own13)
                  have KS13 := Lib.hid (K2.out _ w13 (KS.out _ _ _ TA.out) GB13.out grow13.size)
                  have j1 : w13.cell? ⟨tb, 1, none⟩ = some (.slice sl2 ps.length cap2) := by simp [World.cell?, TB13.out]
                  have jf : w13.frozen? ⟨tb, 1, none⟩ = false := by simp [World.frozen?, TB13.out]
                  have jl : tb < w13.heap.size := (Array.getElem?_eq_some_iff.1 TB13.out).1
                  clear own13 grow13 hg13 hlt13 TB13 GB13
                  refine hK.out _ _ ?_ (fun hHeld => ?_)
                  · exact KS13.out
                  clear hK K
                  refine wpAnyH_take (i := 16) (oi := _) (v := ?_) rfl (by kernel_rfl) (by kernel_rfl) (by kernel_rfl) (fun _ _ _ h => h) (Or.inl ⟨by rfl, ?_⟩) (by assumption) ?_
                  rotate_left
                  · first | (intro w hSw; (try dsimp only at hSw); go_simp; done) | (intro w hSw; (try dsimp only at hSw); go_simp; with_reducible rfl)
                  try simp only [Act.put, List.setIfInBounds_toArray, List.set_cons_zero, List.set_cons_succ, List.getElem_toArray, List.getElem_cons_succ, List.getElem_cons_zero]
                  refine wpAnyH_ready (rs := [17]) (by kernel_rfl) (by simp) ?_
                  refine (AllReadyH.cons rfl (fun K hK => ?_) AllReadyH.nil)
                  go_simp
                  refine hK.out _ _ ?_ (fun hHeld => ?_)
                  · exact KS.out _ _ _ T14.out
                  clear hK K
                  refine wpAnyH_done (by kernel_rfl) ?_ _
                  have WP2 : Hid (∀ p ∈ ps ++ [(a, a, (IntKind.i64.wrap (3 * (r12 : Int))))], WfP p) := fun p hp => by
                    rcases List.mem_append.1 hp with hp | hp
                    · exact WP.out p hp
                    · simp at hp; subst hp; exact ⟨⟨wf_small AW.out, wf_small AW.out⟩, wf_small (kind_ok3 r12 hr12)⟩
                  clear j1 jf jl
                  obtain ⟨f0, f1, ff, fl⟩ := T14.out.facts
                  obtain ⟨e0, e1, e2, e3, e4, e5, e6⟩ := T14.out.res
                  have PF := Lib.hid (T14.out.fin2 HD.out (by omega) (by simp; omega) WP2.out)
                  go_wp2
                  exact bodyPost_ret (v := .agg #[.slice (some ⟨g1, 0, none⟩) rs.length cap1, .slice (some ⟨g13, 0, none⟩) (ps.length + 1) cap13]) (by simp [results, Try.results64, go_sem, e5, e6]) rfl PF.out
                · go_simp
                  go_wp2_with (go_at_call 67; refine (N.out 2 _ (by decide) (by decide) T11d.out.src).mono ?_; rintro e w12 ⟨r12, rfl, hr12, s12, o12⟩)
                  have T12 := Lib.hid (T11d.out.call s12 o12)
                  have tb12 := T12.out.lt
                  clear s12 o12
                  refine hK.out _ _ ?_ (fun hHeld => ?_)
                  · exact KS.out _ _ _ T12.out
                  clear hK K
                  refine wpAnyH_take (i := 12) (oi := _) (v := ?_) rfl (by kernel_rfl) (by kernel_rfl) (by kernel_rfl) (fun _ _ _ h => h) (Or.inl ⟨by rfl, ?_⟩) (by assumption) ?_
                  rotate_left
                  · first | (intro w hSw; (try dsimp only at hSw); go_simp; done) | (intro w hSw; (try dsimp only at hSw); go_simp; with_reducible rfl)
                  try simp only [Act.put, List.setIfInBounds_toArray, List.set_cons_zero, List.set_cons_succ, List.getElem_toArray, List.getElem_cons_succ, List.getElem_cons_zero]
                  refine wpAnyH_take (i := 13) (oi := _) (v := ?_) rfl (by kernel_rfl) (by kernel_rfl) (by kernel_rfl) (fun _ _ _ h => h) (Or.inl ⟨by rfl, ?_⟩) (by assumption) ?_
                  rotate_left
                  · first | (intro w hSw; (try dsimp only at hSw); go_simp; done) | (intro w hSw; (try dsimp only at hSw); go_simp; with_reducible rfl)
                  try simp only [Act.put, List.setIfInBounds_toArray, List.set_cons_zero, List.set_cons_succ, List.getElem_toArray, List.getElem_cons_succ, List.getElem_cons_zero]
                  refine wpAnyH_ready (rs := [1, 14]) (by kernel_rfl) (by simp) ?_
                  refine (AllReadyH.cons rfl (fun K hK => ?_) (AllReadyH.cons rfl (fun K hK => ?_) AllReadyH.nil))
                  · have lf := T12.out.facts.2.1
                    go_simp
                    refine hK.out _ _ ?_ (fun hHeld => ?_)
                    · exact KS.out _ _ _ T12.out
                    clear hK K
                    clear lf
                    refine wpAnyH_ready (rs := [14]) (by kernel_rfl) (by simp) ?_
                    refine (AllReadyH.cons rfl (fun K hK => ?_) AllReadyH.nil)
                    have TA := Lib.hid (T12.out.alloc (.cells #[.int .i64 a, .int .i64 a, .int .i64 (IntKind.i64.wrap (3 * (r12 : Int)))] 112))
                    go_simp
                    refine hK.out _ _ ?_ (fun hHeld => ?_)
                    · exact KS.out _ _ _ TA.out
                    clear hK K
                    refine wpAnyH_ready (rs := [15]) (by kernel_rfl) (by simp) ?_
                    refine (AllReadyH.cons rfl (fun K hK => ?_) AllReadyH.nil)
                    refine step_append_lies _ rfl (.tmp 126) (.tmp 139) 24 rfl (tb + 1) 112 i82 (.agg #[.int .i64 0, .int .i64 0, .int .i64 0]) 3 24 Try.underlying24 hi82 hy80 hy81 hy82 rfl (by decide) (.slice sl2 ps.length cap2) ps.length (prC ps) (by simp [Act.eval]) TA.out.pr ⟨w12.heap.size, 0, none⟩ 1 1 [.int .i64 a, .int .i64 a, .int .i64 (IntKind.i64.wrap (3 * (r12 : Int)))] (by simp [Act.eval]) rfl (three_new3 _ _ _ _ _) (by intro u hu; rcases List.mem_cons.1 hu with rfl | hu; rfl; rcases List.mem_cons.1 hu with rfl | hu; rfl; rcases List.mem_cons.1 hu with rfl | hu; rfl; cases hu) (by decide) (by unfold maxLen; omega) (by omega) (by simp; omega) (w12.heap.size + 1) (by simp) ?_
                    intro g13 cap13 w13 own13 grow13 hg13 hlt13
                    have TB13 := Lib.hid ((grow13.block tb TA.out.lt (fun e => by have := own_base TA.out.pr e.symm; omega)).trans TA.out.tab)
                    have GB13 := Lib.hid (grow13.block g1 ((TA.out.st.lt g1 rfl).2) (fun e => own_ne TA.out.st TA.out.pr (by decide) (j := g1) rfl e.symm))
                    have T14 := Lib.hid (TA.out.addP (a, a, (IntKind.i64.wrap (3 * (r12 : Int)))) grow13 own13)
                    have KS13 := Lib.hid (K2.out _ w13 (KS.out _ _ _ TA.out) GB13.out grow13.size)
                    have j1 : w13.cell? ⟨tb, 1, none⟩ = some (.slice sl2 ps.length cap2) := by simp [World.cell?, TB13.out]
                    have jf : w13.frozen? ⟨tb, 1, none⟩ = false := by simp [World.frozen?, TB13.out]
                    have jl : tb < w13.heap.size := (Array.getElem?_eq_some_iff.1 TB13.out).1
                    clear own13 grow13 hg13 hlt13 TB13 GB13
                    refine hK.out _ _ ?_ (fun hHeld => ?_)
                    · exact KS13.out
                    clear hK K
                    refine wpAnyH_take (i := 16) (oi := _) (v := ?_) rfl (by kernel_rfl) (by kernel_rfl) (by kernel_rfl) (fun _ _ _ h => h) (Or.inl ⟨by rfl, ?_⟩) (by assumption) ?_
                    rotate_left
                    · first | (intro w hSw; (try dsimp only at hSw); go_simp; done) | (intro w hSw; (try dsimp only at hSw); go_simp; with_reducible rfl)
                    try simp only [Act.put, List.setIfInBounds_toArray, List.set_cons_zero, List.set_cons_succ, List.getElem_toArray, List.getElem_cons_succ, List.getElem_cons_zero]
                    refine wpAnyH_ready (rs := [17]) (by kernel_rfl) (by simp) ?_
                    refine (AllReadyH.cons rfl (fun K hK => ?_) AllReadyH.nil)
                    go_simp
                    refine hK.out _ _ ?_ (fun hHeld => ?_)
                    · exact KS.out _ _ _ T14.out
                    clear hK K
                    refine wpAnyH_done (by kernel_rfl) ?_ _
                    have WP2 : Hid (∀ p ∈ ps ++ [(a, a, (IntKind.i64.wrap (3 * (r12 : Int))))], WfP p) := fun p hp => by
                      rcases List.mem_append.1 hp with hp | hp
                      · exact WP.out p hp
                      · simp at hp; subst hp; exact ⟨⟨wf_small AW.out, wf_small AW.out⟩, wf_small (kind_ok3 r12 hr12)⟩
                    clear j1 jf jl
                    obtain ⟨f0, f1, ff, fl⟩ := T14.out.facts
                    obtain ⟨e0, e1, e2, e3, e4, e5, e6⟩ := T14.out.res
                    have PF := Lib.hid (T14.out.fin2 HD.out (by omega) (by simp; omega) WP2.out)
                    go_wp2
                    exact bodyPost_ret (v := .agg #[.slice (some ⟨g1, 0, none⟩) rs.length cap1, .slice (some ⟨g13, 0, none⟩) (ps.length + 1) cap13]) (by simp [results, Try.results64, go_sem, e5, e6]) rfl PF.out
                  · have TA := Lib.hid (T12.out.alloc (.cells #[.int .i64 a, .int .i64 a, .int .i64 (IntKind.i64.wrap (3 * (r12 : Int)))] 112))
                    go_simp
                    refine hK.out _ _ ?_ (fun hHeld => ?_)
                    · exact KS.out _ _ _ TA.out
                    clear hK K
                    refine wpAnyH_ready (rs := [1]) (by kernel_rfl) (by simp) ?_
                    refine (AllReadyH.cons rfl (fun K hK => ?_) AllReadyH.nil)
                    have lf := TA.out.facts.2.1
                    go_simp
                    refine hK.out _ _ ?_ (fun hHeld => ?_)
                    · exact KS.out _ _ _ TA.out
                    clear hK K
                    clear lf
                    refine wpAnyH_ready (rs := [15]) (by kernel_rfl) (by simp) ?_
                    refine (AllReadyH.cons rfl (fun K hK => ?_) AllReadyH.nil)
                    refine step_append_lies _ rfl (.tmp 126) (.tmp 139) 24 rfl (tb + 1) 112 i82 (.agg #[.int .i64 0, .int .i64 0, .int .i64 0]) 3 24 Try.underlying24 hi82 hy80 hy81 hy82 rfl (by decide) (.slice sl2 ps.length cap2) ps.length (prC ps) (by simp [Act.eval]) TA.out.pr ⟨w12.heap.size, 0, none⟩ 1 1 [.int .i64 a, .int .i64 a, .int .i64 (IntKind.i64.wrap (3 * (r12 : Int)))] (by simp [Act.eval]) rfl (three_new3 _ _ _ _ _) (by intro u hu; rcases List.mem_cons.1 hu with rfl | hu; rfl; rcases List.mem_cons.1 hu with rfl | hu; rfl; rcases List.mem_cons.1 hu with rfl | hu; rfl; cases hu) (by decide) (by unfold maxLen; omega) (by omega) (by simp; omega) (w12.heap.size + 1) (by simp) ?_
                    intro g13 cap13 w13 own13 grow13 hg13 hlt13
                    have TB13 := Lib.hid ((grow13.block tb TA.out.lt (fun e => by have := own_base TA.out.pr e.symm; omega)).trans TA.out.tab)
                    have GB13 := Lib.hid (grow13.block g1 ((TA.out.st.lt g1 rfl).2) (fun e => own_ne TA.out.st TA.out.pr (by decide) (j := g1) rfl e.symm))
                    have T14 := Lib.hid (TA.out.addP (a, a, (IntKind.i64.wrap (3 * (r12 : Int)))) grow13 own13)
                    have KS13 := Lib.hid (K2.out _ w13 (KS.out _ _ _ TA.out) GB13.out grow13.size)
                    have j1 : w13.cell? ⟨tb, 1, none⟩ = some (.slice sl2 ps.length cap2) := by simp [World.cell?, TB13.out]
                    have jf : w13.frozen? ⟨tb, 1, none⟩ = false := by simp [World.frozen?, TB13.out]
                    have jl : tb < w13.heap.size := (Array.getElem?_eq_some_iff.1 TB13.out).1
                    clear own13 grow13 hg13 hlt13 TB13 GB13
                    refine hK.out _ _ ?_ (fun hHeld => ?_)
                    · exact KS13.out
                    clear hK K
                    refine wpAnyH_take (i := 16) (oi := _) (v := ?_) rfl (by kernel_rfl) (by kernel_rfl) (by kernel_rfl) (fun _ _ _ h => h) (Or.inl ⟨by rfl, ?_⟩) (by assumption) ?_
                    rotate_left
                    · first | (intro w hSw; (try dsimp only at hSw); go_simp; done) | (intro w hSw; (try dsimp only at hSw); go_simp; with_reducible rfl)
                    try simp only [Act.put, List.setIfInBounds_toArray, List.set_cons_zero, List.set_cons_succ, List.getElem_toArray, List.getElem_cons_succ, List.getElem_cons_zero]
                    refine wpAnyH_ready (rs := [17]) (by kernel_rfl) (by simp) ?_
                    refine (AllReadyH.cons rfl (fun K hK => ?_) AllReadyH.nil)
                    go_simp
                    refine hK.out _ _ ?_ (fun hHeld => ?_)
                    · exact KS.out _ _ _ T14.out
                    clear hK K
                    refine wpAnyH_done (by kernel_rfl) ?_ _
                    have WP2 : Hid (∀ p ∈ ps ++ [(a, a, (IntKind.i64.wrap (3 * (r12 : Int))))], WfP p) := fun p hp => by
                      rcases List.mem_append.1 hp with hp | hp
                      · exact WP.out p hp
                      · simp at hp; subst hp; exact ⟨⟨wf_small AW.out, wf_small AW.out⟩, wf_small (kind_ok3 r12 hr12)⟩
                    clear j1 jf jl
                    obtain ⟨f0, f1, ff, fl⟩ := T14.out.facts
                    obtain ⟨e0, e1, e2, e3, e4, e5, e6⟩ := T14.out.res
                    have PF := Lib.hid (T14.out.fin2 HD.out (by omega) (by simp; omega) WP2.out)
                    go_wp2
                    exact bodyPost_ret (v := .agg #[.slice (some ⟨g1, 0, none⟩) rs.length cap1, .slice (some ⟨g13, 0, none⟩) (ps.length + 1) cap13]) (by simp [results, Try.results64, go_sem, e5, e6]) rfl PF.out

end Go.Proofs.Ytdmfljejlhlbnaa
