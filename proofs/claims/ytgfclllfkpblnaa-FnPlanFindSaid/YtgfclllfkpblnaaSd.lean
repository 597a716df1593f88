/-
  THE DRAWS, BESIDE LISTS THAT GROW: a source that lies below a bound; a list of numbers.
-/
import Derived.Test.YtgfclllfkpblnaaSc
import Derived.Deep.AppendLies
namespace Go.Proofs.Ytgfclllfkpblnaa
open Go.RowKit
set_option linter.unusedVariables false

theorem own_only {B : Nat} {e : TypeId} {m : Nat} {v : Value} {n : Nat} {xs : List Value} {b : Nat} {w w' : World} (h : w.ownsRow B e m v n xs) (ho : Only b w w') (hb : b < B) : w'.ownsRow B e m v n xs := by
  refine ⟨h.1, ?_⟩
  rcases h.2 with h | ⟨g, cap, cur, hv, hg, hh, r⟩
  · exact .inl h
  · exact .inr ⟨g, cap, cur, hv, hg, (ho.block g (Array.getElem?_eq_some_iff.1 hh).1 (by omega)).trans hh, r⟩
theorem Only.grown {b : Nat} {u v w : World} {row : Option Nat} (h : Only b u v) (hg : v.grownBy w row) (hr : ∀ g, row = some g → u.heap.size ≤ g) : Only b u w :=
  ⟨hg.os.trans h.os, hg.tape.trans h.tape, hg.output.trans h.output, Nat.le_trans h.size hg.size, fun k hk hb => (hg.block k (Nat.lt_of_lt_of_le hk h.size) (fun e => by have := hr k e.symm; omega)).trans (h.block k hk hb)⟩

/-- A source whose block and whose bytes lie below B. -/
def SrcB (B : Nat) (w : World) (b : Nat) : Prop :=
  b < B ∧ B ≤ w.heap.size ∧ ∃ (sl : Option Addr) (len cap k : Nat) (mix sz : Int), SrcAt w b sl len cap k mix sz ∧ BytesAt w b sl len ∧ (∀ i, i < len → ∃ c o : Nat, sl = some ⟨c, o, none⟩ ∧ c < B) ∧ k ≤ len ∧ len ≤ maxLen ∧ 0 ≤ mix ∧ mix < 18446744073709551616 ∧ 0 ≤ sz ∧ sz ≤ 12
theorem SrcB.of {w : World} {b : Nat} (h : Src w b) : SrcB w.heap.size w b := by
  obtain ⟨sl, len, cap, k, mix, sz, h, hb, hk, hl, m1, m2, z1, z2, hbs⟩ := h
  refine ⟨hbs, Nat.le_refl _, sl, len, cap, k, mix, sz, h, hb, fun i hi => ?_, hk, hl, m1, m2, z1, z2⟩
  obtain ⟨c, o, z, e, hc, hs, _⟩ := hb i hi
  exact ⟨c, o, e, hs⟩
theorem SrcB.src {B : Nat} {w : World} {b : Nat} (h : SrcB B w b) : Src w b := by
  obtain ⟨h0, h1, sl, len, cap, k, mix, sz, h, hb, hB, hk, hl, m1, m2, z1, z2⟩ := h
  exact ⟨sl, len, cap, k, mix, sz, h, hb, hk, hl, m1, m2, z1, z2, Nat.lt_of_lt_of_le h0 h1⟩
theorem SrcB.kept {B : Nat} {w w' : World} {b : Nat} (h : SrcB B w b) (hs : w.heap.size ≤ w'.heap.size) (hk : ∀ k, k < B → w'.heap[k]? = w.heap[k]?) : SrcB B w' b := by
  obtain ⟨h0, h1, sl, len, cap, k, mix, sz, h, hb, hB, hkl, hl, m1, m2, z1, z2⟩ := h
  refine ⟨h0, Nat.le_trans h1 hs, sl, len, cap, k, mix, sz, (hk b h0).trans h, fun i hi => ?_, hB, hkl, hl, m1, m2, z1, z2⟩
  obtain ⟨c, o, z, e, hc, hlt, y1, y2, hz⟩ := hb i hi
  obtain ⟨c', o', e', hc'⟩ := hB i hi
  rw [e] at e'
  simp only [Option.some.injEq, Addr.mk.injEq, and_true] at e'
  obtain ⟨rfl, rfl⟩ := e'
  exact ⟨c, o, z, e, hc, Nat.lt_of_lt_of_le hlt hs, y1, y2, (World.cell?_of_block (w := w) (hk c hc')).trans hz⟩
theorem SrcB.below {B : Nat} {w w' : World} {b : Nat} (h : SrcB B w b) (hb : Below w.heap.size w w') : SrcB B w' b := h.kept hb.size fun k hk => hb.block k (Nat.lt_of_lt_of_le hk h.2.1)
theorem SrcB.grown {B : Nat} {w w' : World} {b : Nat} {row : Option Nat} (h : SrcB B w b) (hg : w.grownBy w' row) (hr : ∀ g, row = some g → B ≤ g) : SrcB B w' b :=
  h.kept hg.size fun k hk => hg.block k (Nat.lt_of_lt_of_le hk h.2.1) (fun e => by have := hr k e.symm; omega)

theorem nB_any (B b : Nat) (m : Int) (w : World) (hM : m ≤ 9223372036854775807) (hs : SrcB B w b) :
    Calls Try.prog 18 #[.pointer (some ⟨b, 0, none⟩), .int .i64 m] w fun e w' => ∃ r : Int, e = .returned (.int .i64 r) ∧ 0 ≤ r ∧ (r < m ∨ r = 0) ∧ SrcB B w' b ∧ Only b w w' := by
  by_cases hm : m ≤ 1
  · refine (n_small _ m hm w).mono ?_
    rintro e w' ⟨rfl, rfl⟩
    exact ⟨0, rfl, by omega, .inr rfl, hs, Only.refl _ _⟩
  · obtain ⟨h0, hB0, sl, len, cap, k, mix, sz, h, hb, hB, hk, hl, m1, m2, z1, z2⟩ := hs
    by_cases hlt : k < len
    · obtain ⟨c, o, z, rfl, hc, hcs, hz1, hz2, hz⟩ := hb k hlt
      refine (n_early b c o len cap k mix m sz z w (by omega) hM hlt hl m1 m2 h hz1 hz2 hz).mono ?_
      rintro e w' ⟨r, mix', rfl, r1, r2, a1, a2, s, o⟩
      exact ⟨r, rfl, r1, .inl r2, ⟨h0, Nat.le_trans hB0 o.size, _, len, cap, k + 1, mix', sz, s, hb.only o, hB, hlt, hl, a1, a2, z1, z2⟩, o⟩
    · refine (n_late b sl len cap k mix m sz w (by omega) hM (by omega) m1 m2 h).mono ?_
      rintro e w' ⟨r, mix', rfl, r1, r2, a1, a2, s, o⟩
      exact ⟨r, rfl, r1, .inl r2, ⟨h0, Nat.le_trans hB0 o.size, sl, len, cap, k, mix', sz, s, hb.only o, hB, hk, hl, a1, a2, z1, z2⟩, o⟩
theorem nB_lt (B b : Nat) (m : Int) (w : World) (h1 : 1 ≤ m) (hM : m ≤ 9223372036854775807) (hs : SrcB B w b) :
    Calls Try.prog 18 #[.pointer (some ⟨b, 0, none⟩), .int .i64 m] w fun e w' => ∃ r : Int, e = .returned (.int .i64 r) ∧ 0 ≤ r ∧ r < m ∧ SrcB B w' b ∧ Only b w w' := by
  refine (nB_any B b m w hM hs).mono ?_
  rintro e w' ⟨r, rfl, r1, r2, s, o⟩
  exact ⟨r, rfl, r1, by omega, s, o⟩
set_option maxHeartbeats 400000 in
theorem oneB_any (B b : Nat) (m : Int) (w : World) (hM : m ≤ 9223372036854775807) (hs : SrcB B w b) :
    Calls Try.prog 17 #[.pointer (some ⟨b, 0, none⟩), .int .i64 m] w fun e w' => ∃ t : Bool, e = .returned (.bool t) ∧ SrcB B w' b ∧ Only b w w' := by
  have HS := Lib.hid hs
  clear hs
  go_enter Try.func17, Try.ntmps17
  go_wp2_with fail
  refine (nB_any B b m _ hM HS.out).mono ?_
  rintro e w1 ⟨r, rfl, r1, r2, s1, o1⟩
  have H1 : Hid (SrcB B w1 b ∧ Only b w w1) := ⟨s1, o1⟩
  clear s1 o1 r2
  go_wp2
  go_ret
  exact ⟨_, rfl, H1.out⟩
set_option maxRecDepth 100000 in
set_option maxHeartbeats 400000 in
theorem edgeB_any (B b : Nat) (w : World) (hs : SrcB B w b) :
    Calls Try.prog 27 #[.pointer (some ⟨b, 0, none⟩)] w fun e w' => ∃ v : Int, e = .returned (.int .i64 v) ∧ I64 v ∧ SrcB B w' b ∧ Only b w w' := by
  have HS := Lib.hid hs
  clear hs
  go_enter Try.func27, Try.ntmps27
  go_wp2_with fail
  refine (nB_lt B b 14 _ (by decide) (by decide) (HS.out.below (bA0 _ _))).mono ?_
  rintro e w1 ⟨r, rfl, r1, r2, s1, o1⟩
  have hc := lit_cell edges o1 (Nat.lt_of_lt_of_le HS.out.1 HS.out.2.1) r r1 r2
  have H1 : Hid (SrcB B w1 b ∧ Only b w w1) := ⟨s1, (Only.of_below (bA0 _ _)).trans o1⟩
  have HI : Hid (I64 (edges.getD r.toNat 0)) := edges_ok _
  generalize edges.getD r.toNat 0 = v at *
  clear s1 o1 HS
  go_wp2
  go_ret
  exact ⟨_, rfl, HI.out, H1.out⟩

end Go.Proofs.Ytgfclllfkpblnaa
