/-
  THE DRAWS, BESIDE LISTS THAT GROW: a source that lies below a bound; a list of numbers.
-/
import Derived.Test.YtaongccmipjgeaaDc
import Derived.Deep.AppendLies
namespace Go.Proofs.Ytaongccmipjgeaa
open Go.RowKit
set_option linter.unusedVariables false

theorem own_only {B : Nat} {e : TypeId} {m : Nat} {v : Value} {n : Nat} {xs : List Value} {b : Nat} {w w' : World} (h : w.ownsRow B e m v n xs) (ho : Only b w w') (hb : b < B) : w'.ownsRow B e m v n xs := by
  refine ⟨h.1, ?_⟩
  rcases h.2 with h | ⟨g, cap, cur, hv, hg, hh, r⟩
  · exact .inl h
  · exact .inr ⟨g, cap, cur, hv, hg, (ho.block g (Array.getElem?_eq_some_iff.1 hh).1 (by omega)).trans hh, r⟩
theorem Only.grown {b : Nat} {u v w : World} {row : Option Nat} (h : Only b u v) (hg : v.grownBy w row) (hr : ∀ g, row = some g → u.heap.size ≤ g) : Only b u w :=
  ⟨hg.os.trans h.os, hg.tape.trans h.tape, hg.output.trans h.output, Nat.le_trans h.size hg.size, fun k hk hb => (hg.block k (Nat.lt_of_lt_of_le hk h.size) (fun e => by have := hr k e.symm; omega)).trans (h.block k hk hb)⟩

/-- A source whose block and whose bytes lie below B. -/
def SrcB (B : Nat) (w : World) (b : Nat) : Prop :=
  b < B ∧ B ≤ w.heap.size ∧ ∃ (sl : Option Addr) (len cap k : Nat) (mix sz : Int), SrcAt w b sl len cap k mix sz ∧ BytesAt w b sl len ∧ (∀ i, i < len → ∃ c o : Nat, sl = some ⟨c, o, none⟩ ∧ c < B) ∧ k ≤ len ∧ len ≤ maxLen ∧ 0 ≤ mix ∧ mix < 18446744073709551616 ∧ 0 ≤ sz ∧ sz ≤ 12
theorem SrcB.of {w : World} {b : Nat} (h : Src w b) : SrcB w.heap.size w b := by
  obtain ⟨sl, len, cap, k, mix, sz, h, hb, hk, hl, m1, m2, z1, z2, hbs⟩ := h
  refine ⟨hbs, Nat.le_refl _, sl, len, cap, k, mix, sz, h, hb, fun i hi => ?_, hk, hl, m1, m2, z1, z2⟩
  obtain ⟨c, o, z, e, hc, hs, _⟩ := hb i hi
  exact ⟨c, o, e, hs⟩
theorem SrcB.src {B : Nat} {w : World} {b : Nat} (h : SrcB B w b) : Src w b := by
  obtain ⟨h0, h1, sl, len, cap, k, mix, sz, h, hb, hB, hk, hl, m1, m2, z1, z2⟩ := h
  exact ⟨sl, len, cap, k, mix, sz, h, hb, hk, hl, m1, m2, z1, z2, Nat.lt_of_lt_of_le h0 h1⟩
theorem SrcB.kept {B : Nat} {w w' : World} {b : Nat} (h : SrcB B w b) (hs : w.heap.size ≤ w'.heap.size) (hk : ∀ k, k < B → w'.heap[k]? = w.heap[k]?) : SrcB B w' b := by
  obtain ⟨h0, h1, sl, len, cap, k, mix, sz, h, hb, hB, hkl, hl, m1, m2, z1, z2⟩ := h
  refine ⟨h0, Nat.le_trans h1 hs, sl, len, cap, k, mix, sz, (hk b h0).trans h, fun i hi => ?_, hB, hkl, hl, m1, m2, z1, z2⟩
  obtain ⟨c, o, z, e, hc, hlt, y1, y2, hz⟩ := hb i hi
  obtain ⟨c', o', e', hc'⟩ := hB i hi
  rw [e] at e'
  simp only [Option.some.injEq, Addr.mk.injEq, and_true] at e'
  obtain ⟨rfl, rfl⟩ := e'
  exact ⟨c, o, z, e, hc, Nat.lt_of_lt_of_le hlt hs, y1, y2, (World.cell?_of_block (w := w) (hk c hc')).trans hz⟩
theorem SrcB.below {B : Nat} {w w' : World} {b : Nat} (h : SrcB B w b) (hb : Below w.heap.size w w') : SrcB B w' b := h.kept hb.size fun k hk => hb.block k (Nat.lt_of_lt_of_le hk h.2.1)
theorem SrcB.grown {B : Nat} {w w' : World} {b : Nat} {row : Option Nat} (h : SrcB B w b) (hg : w.grownBy w' row) (hr : ∀ g, row = some g → B ≤ g) : SrcB B w' b :=
  h.kept hg.size fun k hk => hg.block k (Nat.lt_of_lt_of_le hk h.2.1) (fun e => by have := hr k e.symm; omega)

theorem nB_any (B b : Nat) (m : Int) (w : World) (hM : m ≤ 9223372036854775807) (hs : SrcB B w b) :
    Calls Try.prog 32 #[.pointer (some ⟨b, 0, none⟩), .int .i64 m] w fun e w' => ∃ r : Int, e = .returned (.int .i64 r) ∧ 0 ≤ r ∧ (r < m ∨ r = 0) ∧ SrcB B w' b ∧ Only b w w' := by
  by_cases hm : m ≤ 1
  · refine (n_small _ m hm w).mono ?_
    rintro e w' ⟨rfl, rfl⟩
    exact ⟨0, rfl, by omega, .inr rfl, hs, Only.refl _ _⟩
  · obtain ⟨h0, hB0, sl, len, cap, k, mix, sz, h, hb, hB, hk, hl, m1, m2, z1, z2⟩ := hs
    by_cases hlt : k < len
    · obtain ⟨c, o, z, rfl, hc, hcs, hz1, hz2, hz⟩ := hb k hlt
      refine (n_early b c o len cap k mix m sz z w (by omega) hM hlt hl m1 m2 h hz1 hz2 hz).mono ?_
      rintro e w' ⟨r, mix', rfl, r1, r2, a1, a2, s, o⟩
      exact ⟨r, rfl, r1, .inl r2, ⟨h0, Nat.le_trans hB0 o.size, _, len, cap, k + 1, mix', sz, s, hb.only o, hB, hlt, hl, a1, a2, z1, z2⟩, o⟩
    · refine (n_late b sl len cap k mix m sz w (by omega) hM (by omega) m1 m2 h).mono ?_
      rintro e w' ⟨r, mix', rfl, r1, r2, a1, a2, s, o⟩
      exact ⟨r, rfl, r1, .inl r2, ⟨h0, Nat.le_trans hB0 o.size, sl, len, cap, k, mix', sz, s, hb.only o, hB, hk, hl, a1, a2, z1, z2⟩, o⟩
theorem nB_lt (B b : Nat) (m : Int) (w : World) (h1 : 1 ≤ m) (hM : m ≤ 9223372036854775807) (hs : SrcB B w b) :
    Calls Try.prog 32 #[.pointer (some ⟨b, 0, none⟩), .int .i64 m] w fun e w' => ∃ r : Int, e = .returned (.int .i64 r) ∧ 0 ≤ r ∧ r < m ∧ SrcB B w' b ∧ Only b w w' := by
  refine (nB_any B b m w hM hs).mono ?_
  rintro e w' ⟨r, rfl, r1, r2, s, o⟩
  exact ⟨r, rfl, r1, by omega, s, o⟩
set_option maxHeartbeats 400000 in
theorem oneB_any (B b : Nat) (m : Int) (w : World) (hM : m ≤ 9223372036854775807) (hs : SrcB B w b) :
    Calls Try.prog 30 #[.pointer (some ⟨b, 0, none⟩), .int .i64 m] w fun e w' => ∃ t : Bool, e = .returned (.bool t) ∧ SrcB B w' b ∧ Only b w w' := by
  have HS := Lib.hid hs
  clear hs
  go_enter Try.func30, Try.ntmps30
  go_wp2_with fail
  refine (nB_any B b m _ hM HS.out).mono ?_
  rintro e w1 ⟨r, rfl, r1, r2, s1, o1⟩
  have H1 : Hid (SrcB B w1 b ∧ Only b w w1) := ⟨s1, o1⟩
  clear s1 o1 r2
  go_wp2
  go_ret
  exact ⟨_, rfl, H1.out⟩
set_option maxRecDepth 100000 in
set_option maxHeartbeats 400000 in
theorem edgeB_any (B b : Nat) (w : World) (hs : SrcB B w b) :
    Calls Try.prog 31 #[.pointer (some ⟨b, 0, none⟩)] w fun e w' => ∃ v : Int, e = .returned (.int .i64 v) ∧ I64 v ∧ SrcB B w' b ∧ Only b w w' := by
  have HS := Lib.hid hs
  clear hs
  go_enter Try.func31, Try.ntmps31
  go_wp2_with fail
  refine (nB_lt B b 14 _ (by decide) (by decide) (HS.out.below (bA0 _ _))).mono ?_
  rintro e w1 ⟨r, rfl, r1, r2, s1, o1⟩
  have hc := lit_cell edges o1 (Nat.lt_of_lt_of_le HS.out.1 HS.out.2.1) r r1 r2
  have H1 : Hid (SrcB B w1 b ∧ Only b w w1) := ⟨s1, (Only.of_below (bA0 _ _)).trans o1⟩
  have HI : Hid (I64 (edges.getD r.toNat 0)) := edges_ok _
  generalize edges.getD r.toNat 0 = v at *
  clear s1 o1 HS
  go_wp2
  go_ret
  exact ⟨_, rfl, HI.out, H1.out⟩

/-- A byte's number kept, the list of bytes one longer. -/
theorem u8_r (r : Int) (h0 : 0 ≤ r) (h1 : r < 256) : ((r.toNat.toUInt8).toNat : Int) = r := by
  have : (r.toNat.toUInt8).toNat = r.toNat := by simp; omega
  rw [this]; omega

set_option maxRecDepth 100000 in
set_option maxHeartbeats 1000000 in
theorem bytesB_any (B b : Nat) (n : Nat) (w : World) (hn : n ≤ 1000) (hs : SrcB B w b) :
    Calls Try.prog 48 #[.pointer (some ⟨b, 0, none⟩), .int .i64 n] w fun e w' => ∃ s : ByteArray, e = .returned (.string s) ∧ s.size = n ∧ SrcB B w' b ∧ Only b w w' := by
  obtain ⟨i0, hi, hz0, hz1, hz2⟩ := info_parts info5'
  have hb := Nat.lt_of_lt_of_le hs.1 hs.2.1
  have hbw : b < w.heap.size := hb
  have hBw := hs.2.1
  have hbB := hs.1
  have HS := Lib.hid (hs.below (bA0 w (.cells #[] 5)))
  clear hs
  go_enter Try.func48, Try.ntmps48
  go_wp2
  go_loopw [5, 6] (fun v i wr => ∃ (k : Nat) (l : List UInt8), i = .int .i64 k ∧ k ≤ n ∧ l.length = k ∧ wr.ownsRow w.heap.size 5 1 v k (Lib.byteCells l) ∧ Hid (SrcB B wr b) ∧ Hid (Only b w wr)) (fun _ i _ => n - (intOf i).toNat)
  case atStart => exact ⟨0, [], rfl, Nat.zero_le _, rfl, World.ownsRow_lit w #[] 0 (Nat.le_refl _) (Nat.zero_le _) rfl, HS, Only.of_below (bA0 _ _)⟩
  case round =>
    obtain ⟨k, l, rfl, hk, hlk, hown, H1, H2⟩ := hrel
    have hk0 : (0 : Int) ≤ (k : Int) := by omega
    have zr := H2.out.size
    by_cases h1 : k < n
    · have h1' : (k : Int) < (n : Int) := by omega
      go_wp2_with fail
      refine (nB_lt B b 256 _ (by decide) (by decide) H1.out).mono ?_
      rintro e w1 ⟨r, rfl, r0, r1, s1, o1⟩
      have own1 := own_only hown o1 hbw
      have S1 := Lib.hid s1
      have O1 := Lib.hid (H2.out.trans o1)
      have hr8 : IntKind.u8.wrap r = r := by simp [IntKind.wrap, IntKind.signed, IntKind.bits]; omega
      have z1 : w.heap.size ≤ w1.heap.size := O1.out.size
      have EC : Hid (Lib.byteCells l ++ [Value.int .u8 r] = Lib.byteCells (l ++ [r.toNat.toUInt8])) := by show _ = _; simp only [Lib.byteCells, List.map_append, List.map_cons, List.map_nil, u8_r r r0 r1]
      have EL : Hid ((l ++ [r.toNat.toUInt8]).length = k + 1) := by show _ = _; simp [hlk]
      clear s1 o1 hown H1 H2 hlk
      go_wp2_with (first | (at_builtin; refine wpList_append_lies _ rfl (.tmp 13) (.tmp 17) 22 rfl w.heap.size 5 i0 (.int .u8 0) 1 1 Try.underlying22 hi hz0 hz1 hz2 rfl (by decide) _ _ _ rfl (own1.alloc _) ⟨w1.heap.size, 0, none⟩ 1 1 [.int .u8 r] rfl rfl (cell_one_new _ _ _) (by intro u hu; simp at hu; subst hu; rfl) (by decide) (by unfold maxLen; omega) (by omega) (by simp; omega) (w1.heap.size + 1) (by simp) ?_))
      intro g3 c3 w3 own3 grow3 _ _
      rw [EC.out] at own3
      have S3 : Hid (SrcB B w3 b) := (S1.out.below (bA0 _ _)).grown grow3 (fun j hj => by have := (own1.lt j hj).1; omega)
      have O3 : Hid (Only b w w3) := (O1.out.trans (Only.of_below (bA0 _ _))).grown grow3 (fun j hj => (own1.lt j hj).1)
      have HO3 := Lib.hid own3
      clear own3 grow3 own1
      go_wp2
      go_roundw
      case rel => exact ⟨k + 1, _, by go_num, by omega, EL.out, HO3.out, S3, O3⟩
      case measure => simp [intOf]; omega
    · have h1' : ¬ (k : Int) < (n : Int) := by omega
      have hkn : k = n := by omega
      have hcv : Sem.run Try.prog (convert 22 9 u5) wr = .ok (.string ⟨l.toArray⟩) wr := own_text (by rw [hlk]; exact hown)
      have HL : Hid ((⟨l.toArray⟩ : ByteArray).size = n) := by show _ = _; simp [ByteArray.size]; omega
      generalize (⟨l.toArray⟩ : ByteArray) = S at *
      clear hown hlk hkn
      go_wp2
      go_ret
      exact ⟨S, rfl, HL.out, H1.out, H2.out⟩

end Go.Proofs.Ytaongccmipjgeaa
