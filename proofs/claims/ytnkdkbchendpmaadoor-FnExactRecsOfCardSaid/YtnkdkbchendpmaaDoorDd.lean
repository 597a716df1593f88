/-
  THE DRAWS, BESIDE LISTS THAT GROW: a source that lies below a bound; a list of numbers.
-/
import Derived.Test.YtnkdkbchendpmaaDoorDc
import Derived.Deep.AppendLies
namespace Go.Proofs.YtnkdkbchendpmaaDoor
open Go.RowKit
set_option linter.unusedVariables false

theorem own_only {B : Nat} {e : TypeId} {m : Nat} {v : Value} {n : Nat} {xs : List Value} {b : Nat} {w w' : World} (h : w.ownsRow B e m v n xs) (ho : Only b w w') (hb : b < B) : w'.ownsRow B e m v n xs := by
  refine ⟨h.1, ?_⟩
  rcases h.2 with h | ⟨g, cap, cur, hv, hg, hh, r⟩
  · exact .inl h
  · exact .inr ⟨g, cap, cur, hv, hg, (ho.block g (Array.getElem?_eq_some_iff.1 hh).1 (by omega)).trans hh, r⟩
theorem Only.grown {b : Nat} {u v w : World} {row : Option Nat} (h : Only b u v) (hg : v.grownBy w row) (hr : ∀ g, row = some g → u.heap.size ≤ g) : Only b u w :=
  ⟨hg.os.trans h.os, hg.tape.trans h.tape, hg.output.trans h.output, Nat.le_trans h.size hg.size, fun k hk hb => (hg.block k (Nat.lt_of_lt_of_le hk h.size) (fun e => by have := hr k e.symm; omega)).trans (h.block k hk hb)⟩

/-- A source whose block and whose bytes lie below B. -/
def SrcB (B : Nat) (w : World) (b : Nat) : Prop :=
  b < B ∧ B ≤ w.heap.size ∧ ∃ (sl : Option Addr) (len cap k : Nat) (mix sz : Int), SrcAt w b sl len cap k mix sz ∧ BytesAt w b sl len ∧ (∀ i, i < len → ∃ c o : Nat, sl = some ⟨c, o, none⟩ ∧ c < B) ∧ k ≤ len ∧ len ≤ maxLen ∧ 0 ≤ mix ∧ mix < 18446744073709551616 ∧ 0 ≤ sz ∧ sz ≤ 12
theorem SrcB.of {w : World} {b : Nat} (h : Src w b) : SrcB w.heap.size w b := by
  obtain ⟨sl, len, cap, k, mix, sz, h, hb, hk, hl, m1, m2, z1, z2, hbs⟩ := h
  refine ⟨hbs, Nat.le_refl _, sl, len, cap, k, mix, sz, h, hb, fun i hi => ?_, hk, hl, m1, m2, z1, z2⟩
  obtain ⟨c, o, z, e, hc, hs, _⟩ := hb i hi
  exact ⟨c, o, e, hs⟩
theorem SrcB.src {B : Nat} {w : World} {b : Nat} (h : SrcB B w b) : Src w b := by
  obtain ⟨h0, h1, sl, len, cap, k, mix, sz, h, hb, hB, hk, hl, m1, m2, z1, z2⟩ := h
  exact ⟨sl, len, cap, k, mix, sz, h, hb, hk, hl, m1, m2, z1, z2, Nat.lt_of_lt_of_le h0 h1⟩
theorem SrcB.kept {B : Nat} {w w' : World} {b : Nat} (h : SrcB B w b) (hs : w.heap.size ≤ w'.heap.size) (hk : ∀ k, k < B → w'.heap[k]? = w.heap[k]?) : SrcB B w' b := by
  obtain ⟨h0, h1, sl, len, cap, k, mix, sz, h, hb, hB, hkl, hl, m1, m2, z1, z2⟩ := h
  refine ⟨h0, Nat.le_trans h1 hs, sl, len, cap, k, mix, sz, (hk b h0).trans h, fun i hi => ?_, hB, hkl, hl, m1, m2, z1, z2⟩
  obtain ⟨c, o, z, e, hc, hlt, y1, y2, hz⟩ := hb i hi
  obtain ⟨c', o', e', hc'⟩ := hB i hi
  rw [e] at e'
  simp only [Option.some.injEq, Addr.mk.injEq, and_true] at e'
  obtain ⟨rfl, rfl⟩ := e'
  exact ⟨c, o, z, e, hc, Nat.lt_of_lt_of_le hlt hs, y1, y2, (World.cell?_of_block (w := w) (hk c hc')).trans hz⟩
theorem SrcB.below {B : Nat} {w w' : World} {b : Nat} (h : SrcB B w b) (hb : Below w.heap.size w w') : SrcB B w' b := h.kept hb.size fun k hk => hb.block k (Nat.lt_of_lt_of_le hk h.2.1)
theorem SrcB.grown {B : Nat} {w w' : World} {b : Nat} {row : Option Nat} (h : SrcB B w b) (hg : w.grownBy w' row) (hr : ∀ g, row = some g → B ≤ g) : SrcB B w' b :=
  h.kept hg.size fun k hk => hg.block k (Nat.lt_of_lt_of_le hk h.2.1) (fun e => by have := hr k e.symm; omega)

theorem nB_any (B b : Nat) (m : Int) (w : World) (hM : m ≤ 9223372036854775807) (hs : SrcB B w b) :
    Calls Tryd.prog 70 #[.pointer (some ⟨b, 0, none⟩), .int .i64 m] w fun e w' => ∃ r : Int, e = .returned (.int .i64 r) ∧ 0 ≤ r ∧ (r < m ∨ r = 0) ∧ SrcB B w' b ∧ Only b w w' := by
  by_cases hm : m ≤ 1
  · refine (n_small _ m hm w).mono ?_
    rintro e w' ⟨rfl, rfl⟩
    exact ⟨0, rfl, by omega, .inr rfl, hs, Only.refl _ _⟩
  · obtain ⟨h0, hB0, sl, len, cap, k, mix, sz, h, hb, hB, hk, hl, m1, m2, z1, z2⟩ := hs
    by_cases hlt : k < len
    · obtain ⟨c, o, z, rfl, hc, hcs, hz1, hz2, hz⟩ := hb k hlt
      refine (n_early b c o len cap k mix m sz z w (by omega) hM hlt hl m1 m2 h hz1 hz2 hz).mono ?_
      rintro e w' ⟨r, mix', rfl, r1, r2, a1, a2, s, o⟩
      exact ⟨r, rfl, r1, .inl r2, ⟨h0, Nat.le_trans hB0 o.size, _, len, cap, k + 1, mix', sz, s, hb.only o, hB, hlt, hl, a1, a2, z1, z2⟩, o⟩
    · refine (n_late b sl len cap k mix m sz w (by omega) hM (by omega) m1 m2 h).mono ?_
      rintro e w' ⟨r, mix', rfl, r1, r2, a1, a2, s, o⟩
      exact ⟨r, rfl, r1, .inl r2, ⟨h0, Nat.le_trans hB0 o.size, sl, len, cap, k, mix', sz, s, hb.only o, hB, hk, hl, a1, a2, z1, z2⟩, o⟩
theorem nB_lt (B b : Nat) (m : Int) (w : World) (h1 : 1 ≤ m) (hM : m ≤ 9223372036854775807) (hs : SrcB B w b) :
    Calls Tryd.prog 70 #[.pointer (some ⟨b, 0, none⟩), .int .i64 m] w fun e w' => ∃ r : Int, e = .returned (.int .i64 r) ∧ 0 ≤ r ∧ r < m ∧ SrcB B w' b ∧ Only b w w' := by
  refine (nB_any B b m w hM hs).mono ?_
  rintro e w' ⟨r, rfl, r1, r2, s, o⟩
  exact ⟨r, rfl, r1, by omega, s, o⟩
set_option maxHeartbeats 400000 in
theorem oneB_any (B b : Nat) (m : Int) (w : World) (hM : m ≤ 9223372036854775807) (hs : SrcB B w b) :
    Calls Tryd.prog 71 #[.pointer (some ⟨b, 0, none⟩), .int .i64 m] w fun e w' => ∃ t : Bool, e = .returned (.bool t) ∧ SrcB B w' b ∧ Only b w w' := by
  have HS := Lib.hid hs
  clear hs
  go_enter Tryd.func71, Tryd.ntmps71
  go_wp2_with fail
  refine (nB_any B b m _ hM HS.out).mono ?_
  rintro e w1 ⟨r, rfl, r1, r2, s1, o1⟩
  have H1 : Hid (SrcB B w1 b ∧ Only b w w1) := ⟨s1, o1⟩
  clear s1 o1 r2
  go_wp2
  go_ret
  exact ⟨_, rfl, H1.out⟩
set_option maxHeartbeats 400000 in
theorem betweenB_any (B b : Nat) (lo hi : Int) (w : World) (h0 : 0 ≤ lo) (h1 : lo ≤ hi) (h2 : hi ≤ 1000000) (hs : SrcB B w b) :
    Calls Tryd.prog 75 #[.pointer (some ⟨b, 0, none⟩), .int .i64 lo, .int .i64 hi] w fun e w' => ∃ r : Int, e = .returned (.int .i64 r) ∧ lo ≤ r ∧ r ≤ hi ∧ SrcB B w' b ∧ Only b w w' := by
  have HS := Lib.hid hs
  clear hs
  go_enter Tryd.func75, Tryd.ntmps75
  go_wp2_with fail
  refine (nB_lt B b (hi - lo + 1) _ (by omega) (by omega) HS.out).mono ?_
  rintro e w1 ⟨r, rfl, r1, r2, s1, o1⟩
  have H1 : Hid (SrcB B w1 b ∧ Only b w w1) := ⟨s1, o1⟩
  clear s1 o1
  go_wp2
  go_ret
  exact ⟨_, rfl, by omega, by omega, H1.out⟩

set_option maxRecDepth 100000 in
set_option maxHeartbeats 1000000 in
theorem list_any (B b : Nat) (n : Nat) (lo hi : Int) (w : World) (hn : n ≤ 1000) (h0 : 0 ≤ lo) (h1 : lo ≤ hi) (h2 : hi ≤ 1000000) (hs : SrcB B w b) :
    Calls Tryd.prog 72 #[.pointer (some ⟨b, 0, none⟩), .int .i64 n, .int .i64 lo, .int .i64 hi] w fun e w' => ∃ (zs : List Int) (v : Value), e = .returned v ∧ zs.length = n ∧ (∀ z ∈ zs, lo ≤ z ∧ z ≤ hi) ∧ w'.ownsRow w.heap.size 2 1 v zs.length (valsZ zs) ∧ SrcB B w' b ∧ Only b w w' := by
  obtain ⟨i0, hi0, hz0, hz1, hz2⟩ := info_parts info2'
  have HS := Lib.hid hs
  have hb : b < w.heap.size := hs.src.lt
  have hBw := hs.2.1
  clear hs
  go_enter Tryd.func72, Tryd.ntmps72
  go_wp2
  go_loopw [1, 9] (fun i s wr => ∃ (k : Nat) (zs : List Int), i = .int .i64 k ∧ zs.length + k = n ∧ Hid (∀ z ∈ zs, lo ≤ z ∧ z ≤ hi) ∧ Hid (wr.ownsRow w.heap.size 2 1 s zs.length (valsZ zs)) ∧ Hid (SrcB B wr b) ∧ Hid (Only b w wr) ∧ w.heap.size < wr.heap.size) (fun i _ _ => (intOf i).toNat)
  case atStart => exact ⟨n, [], rfl, by simp, (fun z hz => by cases hz), World.ownsRow_lit w #[] 0 (Nat.le_refl _) (Nat.zero_le _) rfl, HS.out.below (bA0 _ _), Only.of_below (bA0 _ _), by simp⟩
  case round =>
    obtain ⟨k, zs, rfl, hk, H1, H2, H3, H4, hsz⟩ := hrel
    by_cases hk0 : 0 < k
    · have hk0' : (0 : Int) < (k : Int) := by omega
      go_wp2_with fail
      refine (betweenB_any B b lo hi _ h0 h1 h2 H3.out).mono ?_
      rintro e w2 ⟨r, rfl, r1, r2, s2, o2⟩
      have S2 := Lib.hid s2
      have O2 := Lib.hid (H4.out.trans o2)
      have hown := own_only H2.out o2 hb
      have z2 := o2.size
      have HZ : Hid (∀ z ∈ zs ++ [r], lo ≤ z ∧ z ≤ hi) := fun z hz => by
        rcases List.mem_append.1 hz with h | h
        · exact H1.out z h
        · simp at h; rw [h]; exact ⟨r1, r2⟩
      have EV : Hid (valsZ zs ++ [.int .i64 r] = valsZ (zs ++ [r])) := by show _ = _; simp [valsZ]
      have EL : Hid ((zs ++ [r]).length = zs.length + 1) := by show _ = _; simp
      have hkz : zs.length ≤ 1000 := by omega
      clear s2 o2 H1 H2 H3 H4
      generalize hq : zs.length = q at *
      go_wp2_with (first | (at_builtin; refine wpList_append_lies _ rfl (.tmp 15) (.tmp 20) 26 rfl w.heap.size 2 i0 (.int .i64 0) 1 8 Tryd.underlying26 hi0 hz0 hz1 hz2 rfl (by decide) _ _ _ rfl (hown.alloc _) ⟨w2.heap.size, 0, none⟩ 1 1 [.int .i64 r] rfl rfl (cell_one_new _ _ _) (by intro u hu; simp at hu; subst hu; rfl) (by decide) (by unfold maxLen; omega) (by omega) (by simp; omega) (w2.heap.size + 1) (by simp) ?_))
      intro g cap w3 hown3 hgrow hg3 hlt3
      have O3 := Lib.hid ((O2.out.alloc (.cells #[.int .i64 r] 2)).grown hgrow (fun j hj => (hown.lt j hj).1))
      have S3 := Lib.hid ((S2.out.below (bA0 _ (.cells #[.int .i64 r] 2))).grown hgrow (fun j hj => Nat.le_trans hBw (hown.lt j hj).1))
      have Z3 : w.heap.size < w3.heap.size := by have := hgrow.size; simp at this; omega
      rw [EV.out] at hown3
      have N3 : Hid (w3.ownsRow w.heap.size 2 1 (.slice (some ⟨g, 0, none⟩) (q + 1) cap) (zs ++ [r]).length (valsZ (zs ++ [r]))) := by
        have e := EL.out; show World.ownsRow _ _ _ _ _ _ _; rw [e]; exact hown3
      clear hown3 hgrow hg3 hlt3 hown
      go_wp2
      go_roundw
      case rel => exact ⟨k - 1, zs ++ [r], by go_num, by rw [EL.out]; omega, HZ, N3, S3, O3, Z3⟩
      case measure => simp [intOf]; omega
    · have hk0' : ¬ (0 : Int) < (k : Int) := by omega
      have F : Hid (zs.length = n) := by show _ = _; omega
      go_wp2
      go_ret
      exact ⟨zs, _, rfl, F.out, H1.out, H2.out, H3.out, H4.out⟩

end Go.Proofs.YtnkdkbchendpmaaDoor
