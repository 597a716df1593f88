/-
  THE DRAWS: how a source begins.
-/
import Derived.Test.YtgfclllfkpblnaaSa
namespace Go.Proofs.Ytgfclllfkpblnaa
open Go.RowKit
set_option linter.unusedVariables false

/-- A slice of bytes that can be read. -/
def RowIn (w : World) (sl : Option Addr) (len : Nat) : Prop :=
  len ≤ maxLen ∧ ∀ i, i < len → ∃ c o : Nat, ∃ z : Int, sl = some ⟨c, o, none⟩ ∧ c < w.heap.size ∧ 0 ≤ z ∧ z ≤ 255 ∧ w.cell? ⟨c, o + i, none⟩ = some (.int .u8 z)

theorem lt_of_cell {w : World} {a : Addr} {v : Value} (h : w.cell? a = some v) : a.block < w.heap.size := by
  unfold World.cell? at h
  cases e : w.heap[a.block]? with
  | none => simp [e] at h
  | some o => exact (Array.getElem?_eq_some_iff.1 e).1
theorem row_in {w : World} {a : Option Addr} {len cap : Nat} {zs : List Int}
    (h : (a = none ∧ len = 0 ∧ cap = 0 ∧ zs = []) ∨ ∃ x, a = some x ∧ len ≤ cap ∧ cap ≤ maxLen ∧ zs.length = cap ∧ (∀ i, i < zs.length → w.cell? (x.add i) = some (.int .u8 (zs.getD i 0))) ∧ ∀ n ∈ zs, (Lit.int .u8 n).wf = true) : RowIn w a len := by
  rcases h with ⟨rfl, rfl, rfl, rfl⟩ | ⟨x, rfl, hl, hm, hz, hc, hw⟩
  · exact ⟨Nat.zero_le _, fun i hi => absurd hi (Nat.not_lt_zero _)⟩
  · refine ⟨Nat.le_trans hl hm, fun i hi => ?_⟩
    obtain ⟨c, o, spot⟩ := x
    have h0 := hc 0 (by omega)
    have hs : spot = none := by simpa [Addr.add] using World.cell?_spot h0
    subst hs
    have ha : (⟨c, o, none⟩ : Addr).add i = ⟨c, o + i, none⟩ := by
      unfold Addr.add
      by_cases h : i = 0 <;> simp [h]
    have h1 := hc i (by omega)
    rw [ha] at h1
    have h2 := hw (zs.getD i 0) (by rw [show zs.getD i 0 = zs[i]'(by omega) by simp [show i < zs.length by omega]]; exact List.getElem_mem _)
    have h3 : 0 ≤ zs.getD i 0 ∧ zs.getD i 0 ≤ 255 := by simpa [Lit.wf, IntKind.min, IntKind.max, IntKind.signed, IntKind.bits] using h2
    exact ⟨c, o, _, rfl, lt_of_cell h1, h3.1, h3.2, h1⟩

theorem RowIn.below {w w' : World} {sl : Option Addr} {len : Nat} (h : RowIn w sl len) (hb : Below w.heap.size w w') : RowIn w' sl len := by
  refine ⟨h.1, fun i hi => ?_⟩
  obtain ⟨c, o, z, e, hs, z1, z2, hz⟩ := h.2 i hi
  exact ⟨c, o, z, e, Nat.lt_of_lt_of_le hs hb.size, z1, z2, (hb.cell hs).trans hz⟩
theorem RowIn.bytes {w : World} {sl : Option Addr} {len : Nat} (h : RowIn w sl len) (ob : Obj) : BytesAt (w.alloc ob) w.heap.size sl len := by
  intro i hi
  obtain ⟨c, o, z, e, hs, z1, z2, hz⟩ := h.2 i hi
  exact ⟨c, o, z, e, by omega, by simp; omega, z1, z2, ((bA0 w ob).cell hs).trans hz⟩

def src0 (sl : Option Addr) (len cap : Nat) : Obj := .cells #[.slice sl len cap, .int .i64 0, .int .u64 88172645463325252, .int .i64 0] 65
theorem src0_at (w : World) (sl : Option Addr) (len cap : Nat) : SrcAt (w.alloc (src0 sl len cap)) w.heap.size sl len cap 0 88172645463325252 0 := by
  show (w.heap.push _)[w.heap.size]? = _
  simp [src0]
theorem SrcAt.store3 {w : World} {b : Nat} {sl : Option Addr} {len cap k : Nat} {mix sz : Int} (h : SrcAt w b sl len cap k mix sz) (v : Int) :
    SrcAt (w.setCell ⟨b, 3, none⟩ (.int .i64 v)) b sl len cap k mix v ∧ Only b w (w.setCell ⟨b, 3, none⟩ (.int .i64 v)) :=
  ⟨heap_setCell_same w b 3 _ 65 _ h, (Only.refl b w).setCell _ _⟩

theorem RowIn.split {w : World} {sl : Option Addr} {len : Nat} (h : RowIn w sl len) : len = 0 ∨ ∃ c o : Nat, sl = some ⟨c, o, none⟩ ∧ c < w.heap.size ∧ ∀ i, i < len → ∃ z : Int, 0 ≤ z ∧ z ≤ 255 ∧ w.cell? ⟨c, o + i, none⟩ = some (.int .u8 z) := by
  by_cases h0 : len = 0
  · exact .inl h0
  · obtain ⟨c, o, z, e, hs, z1, z2, hz⟩ := h.2 0 (by omega)
    refine .inr ⟨c, o, e, hs, fun i hi => ?_⟩
    obtain ⟨c', o', z, e', hs, z1, z2, hz⟩ := h.2 i hi
    rw [e] at e'
    simp only [Option.some.injEq, Addr.mk.injEq, and_true] at e'
    obtain ⟨rfl, rfl⟩ := e'
    exact ⟨z, z1, z2, hz⟩

theorem src_end {w w1 : World} {sl : Option Addr} {len cap : Nat} {mix v : Int} (hr : RowIn w sl len) (ho : Only w.heap.size (w.alloc (src0 sl len cap)) w1) (hs : SrcAt w1 w.heap.size sl len cap 0 mix v) (m1 : 0 ≤ mix) (m2 : mix < 18446744073709551616) (v1 : 0 ≤ v) (v2 : v ≤ 12) :
    Src w1 w.heap.size ∧ Below w.heap.size w w1 := by
  have hz := ho.size
  simp at hz
  exact ⟨⟨sl, len, cap, 0, mix, v, hs, (hr.bytes (src0 sl len cap)).only ho, Nat.zero_le _, hr.1, m1, m2, v1, v2, by omega⟩, ho.below (bA0 _ _) (Nat.le_refl _)⟩

set_option maxHeartbeats 400000 in
theorem source_none (sl : Option Addr) (cap : Nat) (w : World) (hr : RowIn w sl 0) :
    Calls Try.prog 14 #[.slice sl 0 cap] w fun e w' => e = .returned (.pointer (some ⟨w.heap.size, 0, none⟩)) ∧ Src w' w.heap.size ∧ Below w.heap.size w w' := by
  have HR : Hid (RowIn w sl 0) := hr
  have HS : Hid (SrcAt (w.alloc (src0 sl 0 cap)) w.heap.size sl 0 cap 0 88172645463325252 0) := src0_at w sl 0 cap
  clear hr
  go_enter Try.func14, Try.ntmps14
  go_wp2
  refine wp_loop_rounds 1 ?_
  rw [rounds_succ]
  go_wp2
  go_ret
  exact ⟨rfl, src_end HR.out (Only.refl _ _) HS.out (by decide) (by decide) (by decide) (by decide)⟩

set_option maxHeartbeats 4000000 in
theorem source_some (c o : Nat) (len cap : Nat) (w : World) (hr : RowIn w (some ⟨c, o, none⟩) len) (hc : c < w.heap.size) (hz : ∀ i, i < len → ∃ z : Int, 0 ≤ z ∧ z ≤ 255 ∧ w.cell? ⟨c, o + i, none⟩ = some (.int .u8 z)) :
    Calls Try.prog 14 #[.slice (some ⟨c, o, none⟩) len cap] w fun e w' => e = .returned (.pointer (some ⟨w.heap.size, 0, none⟩)) ∧ Src w' w.heap.size ∧ Below w.heap.size w w' := by
  have hl := hr.1
  unfold maxLen at hl
  have HR : Hid (RowIn w (some ⟨c, o, none⟩) len) := hr
  have HZ : Hid (∀ i, i < len → ∃ z : Int, 0 ≤ z ∧ z ≤ 255 ∧ w.cell? ⟨c, o + i, none⟩ = some (.int .u8 z)) := hz
  clear hr hz
  go_enter Try.func14, Try.ntmps14
  go_wp2
  go_loopw [4] (fun i w1 => ∃ (k : Nat) (mix : Int), i = .int .i64 k ∧ k ≤ len ∧ k ≤ 64 ∧ 0 ≤ mix ∧ mix < 18446744073709551616 ∧ SrcAt w1 w.heap.size (some ⟨c, o, none⟩) len cap 0 mix 0 ∧ Only w.heap.size (w.alloc (src0 (some ⟨c, o, none⟩) len cap)) w1) (fun i _ => 64 - (intOf i).toNat)
  case atStart => exact ⟨0, 88172645463325252, rfl, Nat.zero_le _, Nat.zero_le _, by decide, by decide, src0_at w _ _ _, Only.refl _ _⟩
  case round =>
    obtain ⟨k, mix, rfl, hk1, hk2, m1, m2, hs, ho⟩ := hrel
    have HO : Hid (Only w.heap.size (w.alloc (src0 (some ⟨c, o, none⟩) len cap)) wr) := ho
    have HS : Hid (SrcAt wr w.heap.size (some ⟨c, o, none⟩) len cap 0 mix 0) := hs
    obtain ⟨c0, c1, c2, c3, f⟩ := hs.cells
    have hk0 : (0 : Int) ≤ (k : Int) := by omega
    by_cases h1 : k < len
    · by_cases h2 : k < 64
      · obtain ⟨z, z1, z2, hz⟩ := HZ.out k h1
        have hz' : wr.cell? ⟨c, o + k, none⟩ = some (.int .u8 z) := by
          rw [ho.cell (by simp; omega) (by omega), (bA0 w _).cell hc]; exact hz
        have h1' : (k : Int) < (len : Int) := by omega
        have h2' : (k : Int) < 64 := by omega
        clear hz ho hs
        go_wp2
        go_region
        go_wp2
        go_roundw
        case rel =>
          obtain ⟨s1, o1⟩ := SrcAt.store2' HS.out (IntKind.u64.wrap (bits BinOp.xor IntKind.u64 mix z * 1099511628211))
          exact ⟨k + 1, _, by go_num, by omega, by omega, (wrap_lt _).1, (wrap_lt _).2, s1, HO.out.trans o1⟩
        case measure => simp [intOf]; omega
      · have h1' : (k : Int) < (len : Int) := by omega
        have h2' : decide ((k : Int) < 64) = false := by simp; omega
        obtain ⟨s1, o1⟩ := SrcAt.store3 HS.out ((len : Int) / 20)
        have O1 : Hid (Only w.heap.size (w.alloc (src0 (some ⟨c, o, none⟩) len cap)) (wr.setCell ⟨w.heap.size, 3, none⟩ (.int .i64 ((len : Int) / 20)))) := HO.out.trans o1
        obtain ⟨e0, e1, e2, e3, g⟩ := s1.cells
        have S1 : Hid (SrcAt (wr.setCell ⟨w.heap.size, 3, none⟩ (.int .i64 ((len : Int) / 20))) w.heap.size (some ⟨c, o, none⟩) len cap 0 mix ((len : Int) / 20)) := s1
        clear s1 o1 hs ho
        have hp : (0 : Int) ≤ (len : Int) / 20 := by omega
        by_cases hq : (12 : Int) < (len : Int) / 20
        · obtain ⟨s2, o2⟩ := SrcAt.store3 S1.out 12
          have O2 : Hid (Only w.heap.size (w.alloc (src0 (some ⟨c, o, none⟩) len cap)) ((wr.setCell ⟨w.heap.size, 3, none⟩ (.int .i64 ((len : Int) / 20))).setCell ⟨w.heap.size, 3, none⟩ (.int .i64 12))) := O1.out.trans o2
          have S2 : Hid (SrcAt ((wr.setCell ⟨w.heap.size, 3, none⟩ (.int .i64 ((len : Int) / 20))).setCell ⟨w.heap.size, 3, none⟩ (.int .i64 12)) w.heap.size (some ⟨c, o, none⟩) len cap 0 mix 12) := s2
          clear s2 o2
          go_wp2
          go_ret
          exact ⟨rfl, src_end HR.out O2.out S2.out m1 m2 (by decide) (by decide)⟩
        · go_wp2
          go_ret
          exact ⟨rfl, src_end HR.out O1.out S1.out m1 m2 hp (by omega)⟩
    · have h1' : decide ((k : Int) < (len : Int)) = false := by simp; omega
      obtain ⟨s1, o1⟩ := SrcAt.store3 HS.out ((len : Int) / 20)
      have O1 : Hid (Only w.heap.size (w.alloc (src0 (some ⟨c, o, none⟩) len cap)) (wr.setCell ⟨w.heap.size, 3, none⟩ (.int .i64 ((len : Int) / 20)))) := HO.out.trans o1
      obtain ⟨e0, e1, e2, e3, g⟩ := s1.cells
      have S1 : Hid (SrcAt (wr.setCell ⟨w.heap.size, 3, none⟩ (.int .i64 ((len : Int) / 20))) w.heap.size (some ⟨c, o, none⟩) len cap 0 mix ((len : Int) / 20)) := s1
      clear s1 o1 hs ho
      have hp : (0 : Int) ≤ (len : Int) / 20 := by omega
      have hq : (len : Int) / 20 ≤ 12 := by omega
      go_wp2
      go_ret
      exact ⟨rfl, src_end HR.out O1.out S1.out m1 m2 hp hq⟩

theorem source_any (sl : Option Addr) (len cap : Nat) (w : World) (hr : RowIn w sl len) :
    Calls Try.prog 14 #[.slice sl len cap] w fun e w' => e = .returned (.pointer (some ⟨w.heap.size, 0, none⟩)) ∧ Src w' w.heap.size ∧ Below w.heap.size w w' := by
  rcases hr.split with rfl | ⟨c, o, rfl, hc, hz⟩
  · exact source_none sl cap w hr
  · exact source_some c o len cap w hr hc hz

end Go.Proofs.Ytgfclllfkpblnaa
