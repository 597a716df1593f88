/-
  THE NUMBERS IN A BODY, AS THE PROGRAM READS THEM.
  A BODY's RECORD, AS THE PROGRAM READS IT.
  A RECORD's LENGTH AND SUM, AS THE PROGRAM READS THEM.
  DERIVED: THE SHELF's CONTRACTS AT THIS DUMP, IN PLAIN WORDS (tools/lay-plain.mjs out of 'YtmffoannknkjkaaDoorShelfU.lean', which tools/lay-shelf.mjs wrote): THE SAME DECLARATIONS UNDER THE SAME NAMES: 'import', 'namespace', 'open', 'def', 'theorem' AND NOTHING ELSE: no command of the shelf's: FOR A HAND-IN. Each laying: the table of numbers ('.._ren') and one theorem, a field a fact of the dump's own or the kernel's comparison; each contract: ONE APPLICATION.
  SUMS OF TEXTS, AS THE PROGRAM MAKES THEM: rune by rune, and each rune's bytes.
-/
import Derived.Test.YtmffoannknkjkaaDoorBa
import Derived.Test.YtmffoannknkjkaaDoorRaa
import Derived.Deep.AppendLies
import Derived.Deep.RegionLaw
import Derived.Shelf.Unicode.DecodeAny
import Derived.Test.YtmffoannknkjkaaDoorProg
import Derived.Lib.OthersKept
import Derived.Lib.LaidU8
import Derived.Lib.DecodeN
import Derived.Laws.RangeAny
import Derived.Laws.RangeString
namespace Go.Proofs.YtmffoannknkjkaaDoor
open Go.RowKit
set_option linter.unusedVariables false

def valsI (vs : List Nat) : List Value := vs.map fun (v : Nat) => Value.int .i64 (v : Int)
theorem Nums9.step {l : List UInt8} {v : Nat} {q : List UInt8} (h : rdN 9 l = some (v, q)) (us : List Nat) : Nums9 l us ↔ ∃ u, us = v :: u ∧ Nums9 q u := by
  obtain ⟨e, hl⟩ := rdN_some _ _ _ _ h
  constructor
  · intro k
    rw [e] at k
    generalize hm : numB v ++ q = m at k
    cases k with
    | nil => exact absurd (List.append_eq_nil_iff.1 hm).1 (numB_ne _)
    | cons h' r' =>
      obtain ⟨rfl, rfl⟩ := numB_inj hm
      exact ⟨_, rfl, r'⟩
  · rintro ⟨u, rfl, k⟩
    rw [e]; exact .cons hl k
theorem Nums9.stop {l : List UInt8} (h : rdN 9 l = none) (hl : l ≠ []) (us : List Nat) : ¬ Nums9 l us := by
  intro k
  cases k with
  | nil => exact hl rfl
  | cons h' r' => rw [rdN_numB 9 _ _ h'] at h; cases h
theorem Nums9.end (us : List Nat) : Nums9 [] us ↔ us = [] := by
  constructor
  · intro k
    generalize hm : ([] : List UInt8) = m at k
    cases k with
    | nil => rfl
    | cons h' r' => exact absurd (List.append_eq_nil_iff.1 hm.symm).1 (numB_ne _)
  · rintro rfl; exact .nil
theorem info2' : (Tryd.prog.info? 2).map (fun i => (i.zero, i.size, i.bytes)) = some (some (.int .i64 0), 1, 8) := by kernel_rfl

theorem own_below {B : Nat} {e : TypeId} {m : Nat} {v : Value} {n : Nat} {xs : List Value} {w w' : World} (h : w.ownsRow B e m v n xs) (hb : Below w.heap.size w w') : w'.ownsRow B e m v n xs := by
  refine ⟨h.1, ?_⟩
  rcases h.2 with h | ⟨g, cap, cur, hv, hg, hh, r⟩
  · exact .inl h
  · exact .inr ⟨g, cap, cur, hv, hg, (hb.block g (Array.getElem?_eq_some_iff.1 hh).1).trans hh, r⟩

/-- What numbersIn answers. -/
def NumsPost (B : Nat) (l : List UInt8) (w : World) (e : Ending) (w' : World) : Prop :=
  (∃ vs v, Nums9 l vs ∧ e = .returned (.tuple #[v, .bool true]) ∧ w'.ownsRow B 2 1 v vs.length (valsI vs) ∧ Below B w w') ∨
  ((∀ vs, ¬ Nums9 l vs) ∧ e = .returned (.tuple #[.slice none 0 0, .bool false]) ∧ Below B w w')

set_option maxRecDepth 100000 in
set_option maxHeartbeats 1000000 in
theorem nums_any (s : ByteArray) (hs : s.size ≤ 20000) (w : World) :
    Calls Tryd.prog 49 #[.string s] w fun e w' => NumsPost w.heap.size s.data.toList w e w' := by
  obtain ⟨i0, hi, hz0, hz1, hz2⟩ := info_parts info2'
  go_enter Tryd.func49, Tryd.ntmps49
  go_wp2
  go_loopw [0, 4] (fun t l wr => ∃ (rest : ByteArray) (p : List Nat), t = .string rest ∧ rest.size + p.length ≤ s.size ∧ Hid (∀ vs, Nums9 s.data.toList vs ↔ ∃ us, vs = p ++ us ∧ Nums9 rest.data.toList us) ∧ Hid (Below w.heap.size w wr) ∧ wr.ownsRow w.heap.size 2 1 l p.length (valsI p)) (fun t _ _ => match t with | .string r => r.size | _ => 0)
  case atStart => exact ⟨s, [], rfl, by simp, (fun vs => by simp), Below.refl _ _, World.ownsRow_nil _ _ _ _⟩
  case round =>
    obtain ⟨rest, p, rfl, hsz, H1, H2, hown⟩ := hrel
    have hlen : rest.data.toList.length = rest.size := by simp
    by_cases h0 : rest.size = 0
    · have hE : rest.toList.isEmpty = true := by
        rw [Go.ByteArray.toList_eq, List.eq_nil_of_length_eq_zero (hlen.trans h0)]; rfl
      have F : Hid (Nums9 s.data.toList p) := (H1.out p).2 ⟨[], by simp, by rw [List.eq_nil_of_length_eq_zero (hlen.trans h0)]; exact .nil⟩
      have HO := Lib.hid hown
      clear H1 hown
      go_wp2
      exact bodyPost_ret (v := .tuple #[u4, .bool true]) (by simp [results, Tryd.results49, go_sem]) rfl (.inl ⟨p, u4, F.out, rfl, HO.out, H2.out⟩)
    · have hE : rest.toList.isEmpty = false := by
        rw [Go.ByteArray.toList_eq]
        cases e : rest.data.toList with
        | nil => rw [e] at hlen; simp at hlen; omega
        | cons a r => rfl
      have A := Lib.hid (fun w => ahead_any rest (by omega) w)
      cases hR : rdN 9 rest.data.toList with
      | none =>
        rw [(ah_none hR).1, (ah_none hR).2] at A
        have F : Hid (∀ vs, ¬ Nums9 s.data.toList vs) := fun vs h => by
          obtain ⟨us, _, k⟩ := (H1.out vs).1 h
          exact Nums9.stop hR (fun e => by rw [e] at hlen; simp at hlen; omega) us k
        clear H1 hR hown
        go_wp2_with fail
        refine (A.out _).mono ?_
        rintro e w2 ⟨rfl, b2⟩
        have B2 := Lib.hid (bT H2.out b2)
        clear b2
        go_wp2
        exact bodyPost_ret (v := .tuple #[.slice none 0 0, .bool false]) (by simp [results, Tryd.results49, go_sem]) rfl (.inr ⟨F.out, rfl, B2.out⟩)
      | some pr =>
        obtain ⟨v, q⟩ := pr
        rw [(ah_some hR).1, (ah_some hR).2] at A
        obtain ⟨e1, e2⟩ := rdN_some _ _ _ _ hR
        have hvl := rdN_lt hR
        have hn1 : 1 ≤ (numB v).length := by
          cases e : numB v with
          | nil => exact absurd e (numB_ne v)
          | cons a r => simp
        have hw : (numB v).length ≤ rest.size := by rw [← hlen, e1]; simp
        have F : Hid (∀ vs, Nums9 s.data.toList vs ↔ ∃ us, vs = (p ++ [v]) ++ us ∧ Nums9 (rest.extract (numB v).length rest.size).data.toList us) := by
          intro vs
          have eq : (rest.extract (numB v).length rest.size).data.toList = q := by
            rw [Lib.extract_data, e1, List.drop_left]
            exact List.take_of_length_le (by rw [← hlen, e1]; simp)
          rw [eq, H1.out vs]
          constructor
          · rintro ⟨us, rfl, k⟩
            obtain ⟨u, rfl, k'⟩ := (Nums9.step hR us).1 k
            exact ⟨u, by simp, k'⟩
          · rintro ⟨us, rfl, k⟩
            exact ⟨v :: us, by simp, (Nums9.step hR _).2 ⟨us, rfl, k⟩⟩
        have EV : Hid (valsI p ++ [.int .i64 (v : Int)] = valsI (p ++ [v])) := by show _ = _; simp [valsI]
        have EL : Hid ((p ++ [v]).length = p.length + 1) := by show _ = _; simp
        have ES : Hid ((rest.extract (numB v).length rest.size).size = rest.size - (numB v).length) := by show _ = _; simp
        have HO := Lib.hid hown
        clear H1 hR e1 hown
        generalize (numB v).length = m at *
        generalize p.length = k at *
        have hz : ((m : Int) == 0) = false := by simp; omega
        have hm' : (m : Int) ≤ (rest.size : Int) := by omega
        go_wp2_with fail
        refine (A.out _).mono ?_
        rintro e w2 ⟨rfl, b2⟩
        have B2 := Lib.hid (bT H2.out b2)
        have hown2 := own_below HO.out b2
        clear b2 HO
        go_wp2_with (first | (at_builtin; refine wpList_append_lies _ rfl (.tmp 16) (.tmp 18) 40 rfl w.heap.size 2 i0 (.int .i64 0) 1 8 Tryd.underlying40 hi hz0 hz1 hz2 rfl (by decide) _ _ _ rfl (hown2.alloc _) ⟨w2.heap.size, 0, none⟩ 1 1 [.int .i64 (v : Int)] rfl rfl (cell_one_new _ _ _) (by intro u hu; simp at hu; subst hu; rfl) (by decide) (by unfold maxLen; omega) (by omega) (by have := B2.out.size; simp; omega) (w2.heap.size + 1) (by simp) ?_))
        intro g cap w3 hown3 hgrow hg3 hlt3
        have B3 : Hid (Below w.heap.size w w3) := B2.out.alloc B2.out.size _ |>.grown hgrow (by have := B2.out.size; simp; omega) (fun j hj => (hown2.lt j hj).1)
        rw [EV.out] at hown3
        have O3 : Hid (w3.ownsRow w.heap.size 2 1 (.slice (some ⟨g, 0, none⟩) (k + 1) cap) (p ++ [v]).length (valsI (p ++ [v]))) := by
          have e := EL.out; show World.ownsRow _ _ _ _ _ _ _; rw [e]; exact hown3
        clear hown3 hgrow hg3 hlt3 hown2
        go_wp2
        refine ⟨⟨_, p ++ [v], rfl, by rw [ES.out, EL.out]; omega, F, B3, O3.out⟩, ?_⟩
        show (rest.extract m rest.size).size < rest.size
        rw [ES.out]; omega

theorem signedOf_any (n : Nat) (hn : n < 9223372036854775808) (w : World) :
    Calls Tryd.prog 50 #[.int .i64 n] w fun e w' => e = .returned (.int .i64 (signO n)) ∧ w' = w := by
  by_cases h : n % 2 = 0
  · have h' : ((n : Int) % 2 == 0) = true := by simp; omega
    have e : signO n = (n : Int) / 2 := by unfold signO; rw [if_pos h]; omega
    rw [e]; clear e
    go_enter Tryd.func50, Tryd.ntmps50
    go_wp2
    go_ret
    exact ⟨rfl, rfl⟩
  · have h' : ((n : Int) % 2 == 0) = false := by simp; omega
    have e : signO n = -((n : Int) / 2) - 1 := by unfold signO; rw [if_neg h]; omega
    rw [e]; clear e
    go_enter Tryd.func50, Tryd.ntmps50
    go_wp2
    go_ret
    exact ⟨rfl, rfl⟩
end Go.Proofs.YtmffoannknkjkaaDoor
namespace Go.Proofs.YtmffoannknkjkaaDoor
open Go.RowKit
set_option linter.unusedVariables false

def valsZ (zs : List Int) : List Value := zs.map (Value.int .i64)
theorem Nums9.lt {l : List UInt8} {vs : List Nat} (h : Nums9 l vs) : ∀ v ∈ vs, v < 9223372036854775808 := by
  induction h with
  | nil => intro v hv; cases hv
  | @cons v l vs hl r ih =>
    intro u hu
    rcases List.mem_cons.1 hu with rfl | hu
    · have := rdN_lt (rdN_numB 9 u [] hl); exact this
    · exact ih u hu
theorem Nums9.len {l : List UInt8} {vs : List Nat} (h : Nums9 l vs) : vs.length ≤ l.length := by
  induction h with
  | nil => simp
  | @cons v l vs hl r ih =>
    have : 1 ≤ (numB v).length := by
      cases e : numB v with
      | nil => exact absurd e (numB_ne v)
      | cons a r => simp
    simp; omega
/-- A row of values that lies in block g. -/
theorem own_cells {w : World} {B : Nat} {v : Value} {n : Nat} {xs : List Value} (h : w.ownsRow B 2 1 v n xs) (hn : 0 < n) :
    ∃ g cap, v = .slice (some ⟨g, 0, none⟩) n cap ∧ B ≤ g ∧ g < w.heap.size ∧ n ≤ cap ∧ cap ≤ maxLen ∧ ∀ j, j < n → w.cell? ⟨g, j, none⟩ = xs[j]? := by
  rcases h.2 with ⟨_, h0⟩ | ⟨g, cap, cur, hv, hb, hg, hcap, hmx, hcur, hx⟩
  · omega
  · refine ⟨g, cap, hv, hb, (Array.getElem?_eq_some_iff.1 hg).1, hcap, hmx, fun j hj => ?_⟩
    rw [← hx, List.getElem?_take_of_lt (by omega)]
    simp [World.cell?, hg]
theorem own_ints {w : World} {B : Nat} {v : Value} {zs : List Int} (h : w.ownsRow B 2 1 v zs.length (valsZ zs)) : ∃ sl cap, v = .slice sl zs.length cap ∧ Ints w sl zs := by
  by_cases hn : 0 < zs.length
  · obtain ⟨g, cap, rfl, _, hg, _, _, hc⟩ := own_cells h hn
    exact ⟨_, _, rfl, .inr ⟨g, 0, rfl, hg, fun i hi => by rw [Nat.zero_add, hc i hi]; simp [valsZ, hi]⟩⟩
  · have e : zs = [] := List.eq_nil_of_length_eq_zero (by omega)
    subst e
    rcases h.2 with ⟨hv, _⟩ | ⟨g, cap, cur, hv, _⟩
    · exact ⟨none, 0, hv, .inl rfl⟩
    · exact ⟨_, cap, hv, .inl rfl⟩
theorem own_mono {w : World} {B B' : Nat} {e : TypeId} {m : Nat} {v : Value} {n : Nat} {xs : List Value} (h : w.ownsRow B e m v n xs) (hB : B' ≤ B) : w.ownsRow B' e m v n xs := by
  refine ⟨h.1, ?_⟩
  rcases h.2 with h | ⟨g, cap, cur, hv, hg, r⟩
  · exact .inl h
  · exact .inr ⟨g, cap, cur, hv, Nat.le_trans hB hg, r⟩
theorem RAt.froz {t : TypeId} {w : World} {b : Nat} {k : Int} {sl : Option Addr} {n cap : Nat} (h : RAt t w b k sl n cap) (o : Nat) : w.frozen? ⟨b, o, none⟩ = false := by
  unfold RAt at h
  simp [World.frozen?, h]

/-- A record whose numbers are v, in a block of its own. -/
def VAt (w : World) (b : Nat) (a : Int) (v : Value) : Prop := w.heap[b]? = some (.cells #[.int .i64 a, v] 42)
theorem VAt.cells {w : World} {b : Nat} {a : Int} {v : Value} (h : VAt w b a v) : w.cell? ⟨b, 0, none⟩ = some (.int .i64 a) ∧ w.cell? ⟨b, 1, none⟩ = some v ∧ (∀ o, w.frozen? ⟨b, o, none⟩ = false) ∧ b < w.heap.size := by
  have hl := (Array.getElem?_eq_some_iff.1 h).1
  unfold VAt at h
  refine ⟨?_, ?_, fun o => ?_, hl⟩
  · simp [World.cell?, h]
  · simp [World.cell?, h]
  · simp [World.frozen?, h]
theorem VAt.of {w w' : World} {b : Nat} {a : Int} {v : Value} (h : VAt w b a v) (e : w'.heap[b]? = w.heap[b]?) : VAt w' b a v := e.trans h
theorem VAt.set {w : World} {b : Nat} {a : Int} {v : Value} (h : VAt w b a v) (u : Value) : VAt (w.setCell ⟨b, 1, none⟩ u) b a u := heap_setCell_same w b 1 _ 42 _ h
theorem VAt.new (w : World) (a : Int) (v : Value) : VAt (w.alloc (.cells #[.int .i64 a, v] 42)) w.heap.size a v := by
  show (w.heap.push _)[w.heap.size]? = _
  simp
theorem own_set {w : World} {B : Nat} {v : Value} {n : Nat} {xs : List Value} (h : w.ownsRow B 2 1 v n xs) {b : Nat} (hb : b < B) (i : Nat) (u : Value) : (w.setCell ⟨b, i, none⟩ u).ownsRow B 2 1 v n xs := by
  refine ⟨h.1, ?_⟩
  rcases h.2 with h | ⟨g, cap, cur, hv, hg, hh, r⟩
  · exact .inl h
  · exact .inr ⟨g, cap, cur, hv, hg, (Below.heap_setCell _ _ _ _ (show g ≠ b by omega)).trans hh, r⟩

def RecPost (B : Nat) (l : List UInt8) (w : World) (e : Ending) (w' : World) : Prop :=
  (∃ k zs v, IsBody l k zs ∧ e = .returned (.tuple #[.agg #[.int .i64 k, v], .bool true]) ∧ w'.ownsRow B 2 1 v zs.length (valsZ zs) ∧ Below B w w') ∨
  ((∀ k zs, ¬ IsBody l k zs) ∧ e = .returned (.tuple #[.agg #[.int .i64 0, .slice none 0 0], .bool false]) ∧ Below B w w')

theorem no_body {l : List UInt8} {vs : List Nat} (h : Nums9 l vs) {k : Int} {zs : List Int} (hb : IsBody l k zs) : vs = k.toNat :: zs.length :: zs.map signN := by
  have := body_nums hb.1
  rw [← hb.2] at this
  exact h.uniq this

set_option maxRecDepth 100000 in
set_option maxHeartbeats 1000000 in
theorem recOf_any (s : ByteArray) (hs : s.size ≤ 20000) (w : World) :
    Calls Tryd.prog 43 #[.string s] w fun e w' => RecPost w.heap.size s.data.toList w e w' := by
  obtain ⟨i0, hi, hz0, hz1, hz2⟩ := info_parts info2'
  have NI := Lib.hid (fun w => nums_any s hs w)
  have HL : Hid (s.data.toList.length ≤ 20000) := by show _ ≤ _; simpa using hs
  generalize s.data.toList = l at *
  go_enter Tryd.func43, Tryd.ntmps43
  go_wp2_with fail
  refine (NI.out _).mono ?_
  have hR0 := RAt.new 42 w 0 none 0 0
  rintro e w1 (⟨vs, v, hvs, rfl, hown, b1⟩ | ⟨hno, rfl, b1⟩)
  · have R1 := Lib.hid (hR0.below b1)
    have B1 : Hid (Below w.heap.size w w1) := bT (bA0 _ _) b1
    have HV := Lib.hid hvs
    have HO := Lib.hid (own_mono hown (show w.heap.size + 1 ≤ _ by show _ ≤ (w.heap.push _).size; simp))
    obtain ⟨c0, c1⟩ := R1.out.cells
    have f0 := R1.out.froz
    clear b1 hvs hown NI hR0
    by_cases h2 : vs.length < 2
    · have F : Hid (∀ k zs, ¬ IsBody l k zs) := fun k zs hb => by have := no_body HV.out hb; rw [this] at h2; simp only [List.length_cons] at h2; omega
      have h2' : (vs.length : Int) < 2 := by omega
      obtain ⟨sl, cap, rfl⟩ : ∃ sl cap, v = .slice sl vs.length cap := by
        rcases HO.out.2 with ⟨hv, h0⟩ | ⟨g, cap, cur, hv, _⟩
        · exact ⟨none, 0, by rw [h0]; exact hv⟩
        · exact ⟨_, cap, hv⟩
      clear HV HO
      generalize vs.length = n at *
      go_wp2
      exact bodyPost_ret (v := .tuple #[.agg #[.int .i64 0, .slice none 0 0], .bool false]) (by simp [results, Tryd.results43, go_sem, c0, c1]) rfl (.inr ⟨F.out, rfl, (B1.out.setCell (Nat.le_refl _) _).setCell (Nat.le_refl _) _⟩)
    · obtain ⟨a, m, rest, rfl⟩ : ∃ a m rest, vs = a :: m :: rest := by
        clear HV HO c0 c1 f0 R1 B1
        rcases vs with _ | ⟨a, _ | ⟨m, rest⟩⟩
        · simp at h2
        · simp at h2
        · exact ⟨a, m, rest, rfl⟩
      clear h2
      obtain ⟨g, cap, rfl, hg1, hg2, hcap, hcm, hcell⟩ := own_cells HO.out (by simp)
      have hlt := HV.out.lt
      have hla : a < 9223372036854775808 := hlt a (by simp)
      have hlm : m < 9223372036854775808 := hlt m (by simp)
      have x0 : w1.cell? ⟨g, 0, none⟩ = some (.int .i64 a) := by rw [hcell 0 (by simp)]; rfl
      have x1 : w1.cell? ⟨g, 1, none⟩ = some (.int .i64 m) := by rw [hcell 1 (by simp)]; rfl
      have hn2 : (a :: m :: rest).length = rest.length + 2 := by simp
      rw [hn2] at hcap hcell ⊢
      by_cases hm : m = rest.length
      · have hm' : ((m : Int) != (rest.length : Int)) = false := by simp [hm]
        have hn3 : ¬ ((rest.length : Int) + 2 < 2) := by omega
        have hmx : rest.length + 2 ≤ 20000 := by have := HV.out.len; have := HL.out; simp only [List.length_cons] at *; omega
        have HC := Lib.hid hcell
        have HM := Lib.hid hm
        have hL := Lib.hid hlt
        have V1 := Lib.hid (VAt.new w1 a (.slice none 0 0))
        have B2 : Hid (Below w1.heap.size w1 (w1.alloc (.cells #[.int .i64 a, .slice none 0 0] 42))) := bA0 _ _
        clear hcell HO hlt hm hn2
        by_cases hn0 : 0 < rest.length
        · have hcap2 : 2 < cap := by omega
          generalize hN : rest.length = n at *
          have HN := Lib.hid hN
          clear hN
          go_wp2
          go_loopw [38] (fun i wr => ∃ (j : Nat) (v' : Value), i = .int .i64 j ∧ j ≤ n ∧ Hid (VAt wr w1.heap.size a v') ∧ Hid (Below w1.heap.size w1 wr) ∧ Hid (wr.ownsRow (w1.heap.size + 1) 2 1 v' j (valsZ ((rest.take j).map signO)))) (fun i _ => n - (intOf i).toNat)
          case atStart => exact ⟨0, .slice none 0 0, rfl, Nat.zero_le _, V1, B2, World.ownsRow_nil _ _ _ _⟩
          case round =>
            obtain ⟨j, v', rfl, hj, H1, H2, H3⟩ := hrel
            have hj0 : (0 : Int) ≤ (j : Int) := by omega
            obtain ⟨d0, d1, df, dl⟩ := H1.out.cells
            by_cases h1 : j < n
            · have h1' : (j : Int) < (n : Int) := by omega
              have hl : j < rest.length := by rw [HN.out]; exact h1
              have hc : wr.cell? ⟨g, 2 + j, none⟩ = some (.int .i64 ((rest[j]'hl : Nat) : Int)) := by
                rw [H2.out.cell hg2, HC.out (2 + j) (by omega)]
                simp [valsI, Nat.add_comm 2 j, hl]
              have SO : Hid (∀ w, Calls Tryd.prog 50 #[.int .i64 ((rest[j]'hl : Nat) : Int)] w fun e w' => e = .returned (.int .i64 (signO (rest[j]'hl))) ∧ w' = w) := fun w => signedOf_any _ (hL.out _ (by simp)) w
              have EV : Hid (valsZ ((rest.take j).map signO) ++ [.int .i64 (signO (rest[j]'hl))] = valsZ ((rest.take (j + 1)).map signO)) := by
                show _ = _
                unfold valsZ
                rw [List.take_succ_eq_append_getElem hl, List.map_append, List.map_append]; rfl
              have hown := (own_below H3.out (Below.refl _ _).drew)
              generalize rest[j]'hl = y at *
              generalize signO y = z at *
              generalize valsZ ((rest.take j).map signO) = xs at *
              have hO : some w1.heap.size ≠ v'.ownBlock := fun e => by have := (hown.lt _ e.symm).1; omega
              have H1a : Hid (VAt (wr.alloc (.cells #[.int .i64 z] 2)) w1.heap.size a v') := H1.out.of (Below.heap_alloc _ _ _ dl)
              have hsz := H2.out.size
              go_wp2_with fail
              go_region_law (first | (go_simp; go_at_call 50; refine (SO.out _).mono ?_; rintro e w' ⟨rfl, rfl⟩) | (refine step_append_lies _ rfl (.tmp 43) (.tmp 46) 40 rfl (w1.heap.size + 1) 2 i0 (.int .i64 0) 1 8 Tryd.underlying40 hi hz0 hz1 hz2 rfl (by decide) v' j xs (by simp [Act.eval]) (hown.alloc _) ⟨wr.heap.size, 0, none⟩ 1 1 [.int .i64 z] (by simp [Act.eval]) rfl (cell_one_new _ _ _) (by intro u hu; simp at hu; subst hu; rfl) (by decide) (by unfold maxLen; omega) (by omega) (by show _ ≤ (wr.heap.push _).size; simp; omega) (wr.heap.size + 1) (by simp) ?_; intro g2 cap2 w3 hown3 hgrow hg3 hlt3; have V3 := VAt.of H1a.out (hgrow.block w1.heap.size (by show _ < (wr.heap.push _).size; simp; omega) hO); obtain ⟨k0, k1, k2, k3⟩ := V3.cells))
              all_goals (
                have B3 : Hid (Below w1.heap.size w1 w3) := ((H2.out.alloc hsz _).drew).grown hgrow (by show _ ≤ (wr.heap.push _).size; simp; omega) (fun j hj => by have := (hown.lt j hj).1; omega)
                rw [EV.out] at hown3
                have V4 : Hid (VAt (w3.setCell ⟨w1.heap.size, 1, none⟩ (.slice (some ⟨g2, 0, none⟩) (j + 1) cap2)) w1.heap.size a (.slice (some ⟨g2, 0, none⟩) (j + 1) cap2)) := V3.set _
                have O4 : Hid ((w3.setCell ⟨w1.heap.size, 1, none⟩ (.slice (some ⟨g2, 0, none⟩) (j + 1) cap2)).ownsRow (w1.heap.size + 1) 2 1 (.slice (some ⟨g2, 0, none⟩) (j + 1) cap2) (j + 1) (valsZ ((rest.take (j + 1)).map signO))) := own_set hown3 (by omega) _ _
                clear hown3 hgrow hg3 hlt3 hown V3
                go_wp2
                go_roundw
                case rel => exact ⟨j + 1, _, by go_num, by omega, V4, B3.out.setCell (Nat.le_refl _) _, O4⟩
                case measure => simp [intOf]; omega)
            · have h1' : ¬ (j : Int) < (n : Int) := by omega
              have HO : Hid (wr.ownsRow (w1.heap.size + 1) 2 1 v' (rest.map signO).length (valsZ (rest.map signO))) := by
                have := H3.out
                rw [List.take_of_length_le (by rw [HN.out]; omega), show j = (rest.map signO).length by simp; rw [HN.out]; omega] at this
                exact this
              clear H3
              obtain ⟨sl, cp, rfl, hI⟩ := own_ints HO.out
              have IR : Hid (Calls Tryd.prog 51 #[RV a sl (rest.map signO).length cp] wr fun e w' => e = .returned (.bool (recR a (rest.map signO))) ∧ Below (wr).heap.size (wr) w') := irr_any a sl cp (rest.map signO) _ hI
              have R5 := Lib.hid (R1.out.below H2.out)
              obtain ⟨d0, d1, df, dl⟩ := H1.out.cells
              cases hr : recR a (rest.map signO)
              · rw [hr] at IR
                have F : Hid (∀ k zs, ¬ IsBody l k zs) := fun k zs hb => by
                  have e := no_body HV.out hb
                  simp only [List.cons.injEq] at e
                  have p := recR_parts hb.1
                  have ek : (a : Int) = k := by omega
                  have ez : rest.map signO = zs := by rw [e.2.2]; simp [List.map_map, Function.comp_def, signO_N]
                  rw [ek, ez, hb.1] at hr; cases hr
                clear hr
                generalize (rest.map signO).length = q at *
                go_wp2_with fail
                refine IR.out.mono ?_
                rintro e w5 ⟨rfl, b5⟩
                have R6 := Lib.hid (R5.out.below b5)
                obtain ⟨e0, e1⟩ := R6.out.cells
                have ef := R6.out.froz
                have el := R6.out.lt
                have B6 : Hid (Below w.heap.size w w5) := bT (bT B1.out H2.out) b5
                clear b5 IR d0 d1 df
                go_wp2
                exact bodyPost_ret (v := .tuple #[.agg #[.int .i64 0, .slice none 0 0], .bool false]) (by simp [results, Tryd.results43, go_sem, e0, e1]) rfl (.inr ⟨F.out, rfl, (B6.out.setCell (Nat.le_refl _) _).setCell (Nat.le_refl _) _⟩)
              · rw [hr] at IR
                have F : Hid (IsBody l a (rest.map signO)) := by
                  refine ⟨hr, nums_body (k := a) ?_⟩
                  have := HV.out; rw [HM.out, ← HN.out] at this; exact this
                clear hr
                have HO2 := HO
                generalize hq : (rest.map signO).length = q at *
                have HQ := Lib.hid hq
                clear hq
                go_wp2_with fail
                refine IR.out.mono ?_
                rintro e w5 ⟨rfl, b5⟩
                have R6 := Lib.hid (R5.out.below b5)
                obtain ⟨e0, e1⟩ := R6.out.cells
                have ef := R6.out.froz
                have el := R6.out.lt
                have V6 := H1.out.of (b5.block _ dl)
                obtain ⟨g0, g1', gf, gl⟩ := V6.cells
                have B6 : Hid (Below w.heap.size w w5) := bT (bT B1.out H2.out) b5
                have hw1 := B1.out.size
                have hw2 : w.heap.size < w1.heap.size := R1.out.lt
                have O6 : Hid (w5.ownsRow w.heap.size 2 1 (.slice sl q cp) q (valsZ (rest.map signO))) := own_mono (own_below HO.out b5) (by omega)
                have O7 : Hid (w5.ownsRow (w1.heap.size + 1) 2 1 (.slice sl q cp) q (valsZ (rest.map signO))) := own_below HO.out b5
                clear b5 IR d0 d1 df V6
                go_wp2
                refine bodyPost_ret (v := .tuple #[.agg #[.int .i64 a, .slice sl q cp], .bool true]) (by simp [results, Tryd.results43, go_sem, e0, e1]) rfl (.inl ⟨a, rest.map signO, _, F.out, rfl, ?_, (B6.out.setCell (Nat.le_refl _) _).setCell (Nat.le_refl _) _⟩)
                rw [HQ.out]
                exact own_mono (own_set (own_set O7.out (by omega) _ _) (by omega) _ _) (by omega)
        · obtain rfl : rest = [] := List.eq_nil_of_length_eq_zero (by omega)
          have HO : Hid ((w1.alloc (.cells #[.int .i64 a, .slice none 0 0] 42)).ownsRow (w1.heap.size + 1) 2 1 (.slice none 0 0) 0 (valsZ [])) := World.ownsRow_nil _ _ _ _
          simp only [List.length_nil, Nat.zero_add] at *
          rcases Nat.lt_or_ge 2 cap with hc2 | hc2
          · clear hn0
            have IR : Hid (Calls Tryd.prog 51 #[RV a none 0 0] (w1.alloc (.cells #[.int .i64 a, .slice none 0 0] 42)) fun e w' => e = .returned (.bool (recR a (([] : List Int)))) ∧ Below (w1.alloc (.cells #[.int .i64 a, .slice none 0 0] 42)).heap.size (w1.alloc (.cells #[.int .i64 a, .slice none 0 0] 42)) w') := irr_any a none 0 [] _ (.inl rfl)
            have R5 := Lib.hid (R1.out.below B2.out)
            obtain ⟨d0, d1, df, dl⟩ := V1.out.cells
            cases hr : recR a (([] : List Int))
            · rw [hr] at IR
              have F : Hid (∀ k zs, ¬ IsBody l k zs) := fun k zs hb => by
                have e := no_body HV.out hb
                simp only [List.cons.injEq] at e
                have p := recR_parts hb.1
                have ek : (a : Int) = k := by omega
                have ez : ([] : List Int) = zs := by have := e.2.2; symm; simpa using this.symm
                rw [ek, ez, hb.1] at hr; cases hr
              clear hr
              go_wp2
              refine wp_loop_rounds 1 ?_
              rw [rounds_succ]
              go_wp2_with fail
              refine IR.out.mono ?_
              rintro e w5 ⟨rfl, b5⟩
              have R6 := Lib.hid (R5.out.below b5)
              obtain ⟨e0, e1⟩ := R6.out.cells
              have ef := R6.out.froz
              have el := R6.out.lt
              have B6 : Hid (Below w.heap.size w w5) := bT (bT B1.out B2.out) b5
              clear b5 IR d0 d1 df
              go_wp2
              exact bodyPost_ret (v := .tuple #[.agg #[.int .i64 0, .slice none 0 0], .bool false]) (by simp [results, Tryd.results43, go_sem, e0, e1]) rfl (.inr ⟨F.out, rfl, (B6.out.setCell (Nat.le_refl _) _).setCell (Nat.le_refl _) _⟩)
            · rw [hr] at IR
              have F : Hid (IsBody l a (([] : List Int))) := by
                refine ⟨hr, nums_body (k := a) (rest := []) ?_⟩
                have := HV.out; rw [HM.out] at this; exact this
              clear hr
              have HO2 := HO
              go_wp2
              refine wp_loop_rounds 1 ?_
              rw [rounds_succ]
              go_wp2_with fail
              refine IR.out.mono ?_
              rintro e w5 ⟨rfl, b5⟩
              have R6 := Lib.hid (R5.out.below b5)
              obtain ⟨e0, e1⟩ := R6.out.cells
              have ef := R6.out.froz
              have el := R6.out.lt
              have V6 := V1.out.of (b5.block _ dl)
              obtain ⟨g0, g1', gf, gl⟩ := V6.cells
              have B6 : Hid (Below w.heap.size w w5) := bT (bT B1.out B2.out) b5
              have hw1 := B1.out.size
              have hw2 : w.heap.size < w1.heap.size := R1.out.lt
              have O6 : Hid (w5.ownsRow w.heap.size 2 1 (.slice none 0 0) 0 (valsZ (([] : List Int)))) := own_mono (own_below HO.out b5) (by omega)
              have O7 : Hid (w5.ownsRow (w1.heap.size + 1) 2 1 (.slice none 0 0) 0 (valsZ (([] : List Int)))) := own_below HO.out b5
              clear b5 IR d0 d1 df V6
              go_wp2
              refine bodyPost_ret (v := .tuple #[.agg #[.int .i64 a, .slice none 0 0], .bool true]) (by simp [results, Tryd.results43, go_sem, e0, e1]) rfl (.inl ⟨a, ([] : List Int), _, F.out, rfl, ?_, (B6.out.setCell (Nat.le_refl _) _).setCell (Nat.le_refl _) _⟩)
              exact own_mono (own_set (own_set O7.out (by omega) _ _) (by omega) _ _) (by omega)
          · obtain rfl : cap = 2 := by omega
            clear hn0
            have IR : Hid (Calls Tryd.prog 51 #[RV a none 0 0] (w1.alloc (.cells #[.int .i64 a, .slice none 0 0] 42)) fun e w' => e = .returned (.bool (recR a (([] : List Int)))) ∧ Below (w1.alloc (.cells #[.int .i64 a, .slice none 0 0] 42)).heap.size (w1.alloc (.cells #[.int .i64 a, .slice none 0 0] 42)) w') := irr_any a none 0 [] _ (.inl rfl)
            have R5 := Lib.hid (R1.out.below B2.out)
            obtain ⟨d0, d1, df, dl⟩ := V1.out.cells
            cases hr : recR a (([] : List Int))
            · rw [hr] at IR
              have F : Hid (∀ k zs, ¬ IsBody l k zs) := fun k zs hb => by
                have e := no_body HV.out hb
                simp only [List.cons.injEq] at e
                have p := recR_parts hb.1
                have ek : (a : Int) = k := by omega
                have ez : ([] : List Int) = zs := by have := e.2.2; symm; simpa using this.symm
                rw [ek, ez, hb.1] at hr; cases hr
              clear hr
              go_wp2
              refine wp_loop_rounds 1 ?_
              rw [rounds_succ]
              go_wp2_with fail
              refine IR.out.mono ?_
              rintro e w5 ⟨rfl, b5⟩
              have R6 := Lib.hid (R5.out.below b5)
              obtain ⟨e0, e1⟩ := R6.out.cells
              have ef := R6.out.froz
              have el := R6.out.lt
              have B6 : Hid (Below w.heap.size w w5) := bT (bT B1.out B2.out) b5
              clear b5 IR d0 d1 df
              go_wp2
              exact bodyPost_ret (v := .tuple #[.agg #[.int .i64 0, .slice none 0 0], .bool false]) (by simp [results, Tryd.results43, go_sem, e0, e1]) rfl (.inr ⟨F.out, rfl, (B6.out.setCell (Nat.le_refl _) _).setCell (Nat.le_refl _) _⟩)
            · rw [hr] at IR
              have F : Hid (IsBody l a (([] : List Int))) := by
                refine ⟨hr, nums_body (k := a) (rest := []) ?_⟩
                have := HV.out; rw [HM.out] at this; exact this
              clear hr
              have HO2 := HO
              go_wp2
              refine wp_loop_rounds 1 ?_
              rw [rounds_succ]
              go_wp2_with fail
              refine IR.out.mono ?_
              rintro e w5 ⟨rfl, b5⟩
              have R6 := Lib.hid (R5.out.below b5)
              obtain ⟨e0, e1⟩ := R6.out.cells
              have ef := R6.out.froz
              have el := R6.out.lt
              have V6 := V1.out.of (b5.block _ dl)
              obtain ⟨g0, g1', gf, gl⟩ := V6.cells
              have B6 : Hid (Below w.heap.size w w5) := bT (bT B1.out B2.out) b5
              have hw1 := B1.out.size
              have hw2 : w.heap.size < w1.heap.size := R1.out.lt
              have O6 : Hid (w5.ownsRow w.heap.size 2 1 (.slice none 0 0) 0 (valsZ (([] : List Int)))) := own_mono (own_below HO.out b5) (by omega)
              have O7 : Hid (w5.ownsRow (w1.heap.size + 1) 2 1 (.slice none 0 0) 0 (valsZ (([] : List Int)))) := own_below HO.out b5
              clear b5 IR d0 d1 df V6
              go_wp2
              refine bodyPost_ret (v := .tuple #[.agg #[.int .i64 a, .slice none 0 0], .bool true]) (by simp [results, Tryd.results43, go_sem, e0, e1]) rfl (.inl ⟨a, ([] : List Int), _, F.out, rfl, ?_, (B6.out.setCell (Nat.le_refl _) _).setCell (Nat.le_refl _) _⟩)
              exact own_mono (own_set (own_set O7.out (by omega) _ _) (by omega) _ _) (by omega)
      · have F : Hid (∀ k zs, ¬ IsBody l k zs) := fun k zs hb => by
          have := no_body HV.out hb
          simp only [List.cons.injEq] at this
          exact hm (by rw [this.2.1, this.2.2]; simp)
        have hq : ((m : Int) != (rest.length : Int)) = true := by simp; omega
        have hn3 : ¬ ((rest.length : Int) + 2 < 2) := by omega
        have hmx : rest.length + 2 ≤ 9223372036854775807 := by unfold maxLen at hcm; omega
        clear HV HO hcell hm hn2
        generalize rest.length = n at *
        go_wp2
        exact bodyPost_ret (v := .tuple #[.agg #[.int .i64 0, .slice none 0 0], .bool false]) (by simp [results, Tryd.results43, go_sem, c0, c1]) rfl (.inr ⟨F.out, rfl, (B1.out.setCell (Nat.le_refl _) _).setCell (Nat.le_refl _) _⟩)
  · have F : Hid (∀ k zs, ¬ IsBody l k zs) := fun k zs hb => hno _ (by rw [hb.2]; exact body_nums hb.1)
    have R1 := Lib.hid (hR0.below b1)
    have B1 : Hid (Below w.heap.size w w1) := bT (bA0 _ _) b1
    obtain ⟨c0, c1⟩ := R1.out.cells
    have f0 := R1.out.froz
    have hlt := R1.out.lt
    clear hno b1 NI hR0
    go_wp2
    refine bodyPost_ret (v := .tuple #[.agg #[.int .i64 0, .slice none 0 0], .bool false]) (by simp [results, Tryd.results43, go_sem, c0, c1]) rfl (.inr ⟨F.out, rfl, (B1.out.setCell (Nat.le_refl _) _).setCell (Nat.le_refl _) _⟩)
end Go.Proofs.YtmffoannknkjkaaDoor
namespace Go.Proofs.YtmffoannknkjkaaDoor
open Go.RowKit
set_option linter.unusedVariables false

theorem two_some {r : List UInt8} {v : Nat} {q : List UInt8} (h : rdN 2 r = some (v, q)) : ∃ q', rdN 9 (r.take 2) = some (v, q') := by
  obtain ⟨e, hl⟩ := rdN_some _ _ _ _ h
  refine ⟨q.take (2 - (numB v).length), ?_⟩
  rw [e, List.take_append, List.take_of_length_le hl]
  exact rdN_numB 9 v _ (by omega)
theorem two_none {r : List UInt8} (h : rdN 2 r = none) : rdN 9 (r.take 2) = none := by
  cases e : rdN 9 (r.take 2) with
  | none => rfl
  | some p =>
    obtain ⟨v, q⟩ := p
    exfalso
    obtain ⟨e1, -⟩ := rdN_some _ _ _ _ e
    have hl : (numB v).length ≤ 2 := by
      have := congrArg List.length e1
      simp at this; omega
    have : rdN 2 r = some (v, q ++ r.drop 2) := by
      have e2 : r = numB v ++ (q ++ r.drop 2) := by rw [← List.append_assoc, ← e1, List.take_append_drop]
      have e3 := rdN_numB 2 v (q ++ r.drop 2) hl
      rwa [← e2] at e3
    rw [h] at this; cases this

/-- Too short to tell a length. -/
def Short (r : List UInt8) : Prop := r = [] ∨ ∃ x, r = [x] ∧ 128 ≤ x.toNat
def LenPost (r : List UInt8) (w : World) (e : Ending) (w' : World) : Prop :=
  ((Short r ∧ e = .returned (.tuple #[.int .i64 0, .int .i64 0, .int .i64 6])) ∨
   (¬ Short r ∧ (∀ n q, rdN 2 r = some (n, q) → 1000 < n) ∧ e = .returned (.tuple #[.int .i64 0, .int .i64 0, .int .i64 3])) ∨
   (¬ Short r ∧ ∃ n q, rdN 2 r = some (n, q) ∧ n ≤ 1000 ∧ e = .returned (.tuple #[.int .i64 n, .int .i64 (numB n).length, .int .i64 0]))) ∧ Below w.heap.size w w'

set_option maxRecDepth 100000 in
set_option maxHeartbeats 1000000 in
theorem len_any (s : ByteArray) (hs : s.size ≤ 20000) (w : World) :
    Calls Tryd.prog 40 #[.string s] w fun e w' => LenPost s.data.toList w e w' := by
  have hlen : s.data.toList.length = s.size := by simp
  by_cases h0 : s.size = 0
  · have e0 : s.data.toList = [] := List.eq_nil_of_length_eq_zero (by omega)
    have hE : s.toList.isEmpty = true := by rw [Go.ByteArray.toList_eq, e0]; rfl
    have F : Hid (Short s.data.toList) := by rw [e0]; exact .inl rfl
    go_enter Tryd.func40, Tryd.ntmps40
    go_wp2
    exact bodyPost_ret (v := .tuple #[.int .i64 0, .int .i64 0, .int .i64 6]) (by simp [results, Tryd.results40, go_sem]) rfl ⟨.inl ⟨F.out, rfl⟩, Below.refl _ _⟩
  · have hE : s.toList.isEmpty = false := by
      rw [Go.ByteArray.toList_eq]
      cases e : s.data.toList with
      | nil => rw [e] at hlen; simp at hlen; omega
      | cons a r => rfl
    have hp : 0 < s.size := by omega
    have hp' : (0 : Int) < (s.size : Int) := by omega
    have hd : s.data.toList = (s[0]'hp) :: s.data.toList.drop 1 := by have := drop_cons s 0 hp; simpa using this
    by_cases h1 : s.size = 1 ∧ 128 ≤ (s[0]'hp).toNat
    · have h1' : ((s.size : Int) == 1) = true := by simp; omega
      have h2' : (128 : Int) ≤ ((s[0]'hp).toNat : Int) := by omega
      have F : Hid (Short s.data.toList) := .inr ⟨s[0]'hp, by rw [hd]; rw [List.drop_of_length_le (by omega)], h1.2⟩
      clear hd
      go_enter Tryd.func40, Tryd.ntmps40
      go_wp2
      exact bodyPost_ret (v := .tuple #[.int .i64 0, .int .i64 0, .int .i64 6]) (by simp [results, Tryd.results40, go_sem]) rfl ⟨.inl ⟨F.out, rfl⟩, Below.refl _ _⟩
    · have NS : Hid (¬ Short s.data.toList) := by
        rintro (e | ⟨x, e, hx⟩)
        · rw [e] at hlen; simp at hlen; omega
        · rw [e] at hd hlen
          simp at hd hlen
          exact h1 ⟨hlen.symm, by rw [← hd]; exact hx⟩
      have A : Hid (∀ m, m = min s.size 2 → ∀ w, Calls Tryd.prog 47 #[.string (s.extract 0 m)] w fun e w' => e = .returned (.tuple #[.int .i64 (ahV (s.data.toList.take 2)), .int .i64 (ahW (s.data.toList.take 2))]) ∧ Below w.heap.size w w') := by
        rintro m rfl w
        have := ahead_any (s.extract 0 (min s.size 2)) (by simp; omega) w
        have ed : (s.extract 0 (min s.size 2)).data.toList = s.data.toList.take 2 := by
          rw [Lib.extract_data]
          simp only [List.drop_zero, Nat.sub_zero]
          by_cases h : s.size ≤ 2
          · rw [Nat.min_eq_left h, List.take_of_length_le (by omega), List.take_of_length_le (by omega)]
          · rw [Nat.min_eq_right (by omega)]
        rwa [ed] at this
      clear hd
      by_cases h3 : s.size = 1
      · have h3' : ((s.size : Int) == 1) = true := by simp; omega
        have h4' : decide ((128 : Int) ≤ ((s[0]'hp).toNat : Int)) = false := by simp; omega
        clear h1
        go_enter Tryd.func40, Tryd.ntmps40
        go_wp2_with fail
        refine (A.out _ (by omega) _).mono ?_
        rintro e w1 ⟨rfl, b1⟩
        have B1 := Lib.hid b1
        clear b1 A
        cases hR : rdN 2 s.data.toList with
        | none =>
          rw [(ah_none (two_none hR)).1, (ah_none (two_none hR)).2]
          have F : Hid (∀ n q, rdN 2 s.data.toList = some (n, q) → 1000 < n) := fun n q h => by rw [hR] at h; cases h
          clear hR
          go_wp2
          exact bodyPost_ret (v := .tuple #[.int .i64 0, .int .i64 0, .int .i64 3]) (by simp [results, Tryd.results40, go_sem]) rfl ⟨.inr (.inl ⟨NS.out, F.out, rfl⟩), B1.out⟩
        | some pr =>
          obtain ⟨v, q⟩ := pr
          obtain ⟨q', hq'⟩ := two_some hR
          rw [(ah_some hq').1, (ah_some hq').2]
          have hv := rdN_lt hR
          have hn : 1 ≤ (numB v).length := by
            cases e : numB v with
            | nil => exact absurd e (numB_ne v)
            | cons a r => simp
          have hn2 : (numB v).length ≤ 2 := (rdN_some _ _ _ _ hR).2
          have hz : (((numB v).length : Int) == 0) = false := by rw [beq_eq_false_iff_ne]; omega
          have HR := Lib.hid hR
          clear hR hq'
          by_cases h5 : 1000 < v
          · have h5' : (1000 : Int) < (v : Int) := by omega
            have F : Hid (∀ n q, rdN 2 s.data.toList = some (n, q) → 1000 < n) := fun n q h => by
              rw [HR.out] at h; simp only [Option.some.injEq, Prod.mk.injEq] at h; omega
            generalize (numB v).length = m at *
            go_wp2
            exact bodyPost_ret (v := .tuple #[.int .i64 0, .int .i64 0, .int .i64 3]) (by simp [results, Tryd.results40, go_sem]) rfl ⟨.inr (.inl ⟨NS.out, F.out, rfl⟩), B1.out⟩
          · have h5' : ¬ (1000 : Int) < (v : Int) := by omega
            have h6 : v ≤ 1000 := by omega
            generalize hm : (numB v).length = m at *
            have HM := Lib.hid hm
            clear hm
            go_wp2
            exact bodyPost_ret (v := .tuple #[.int .i64 v, .int .i64 m, .int .i64 0]) (by simp [results, Tryd.results40, go_sem]) rfl ⟨.inr (.inr ⟨NS.out, v, q, HR.out, h6, by rw [HM.out]⟩), B1.out⟩
      · have h3' : ((s.size : Int) == 1) = false := by simp; omega
        clear h1
        go_enter Tryd.func40, Tryd.ntmps40
        go_wp2_with fail
        refine (A.out _ (by omega) _).mono ?_
        rintro e w1 ⟨rfl, b1⟩
        have B1 := Lib.hid b1
        clear b1 A
        cases hR : rdN 2 s.data.toList with
        | none =>
          rw [(ah_none (two_none hR)).1, (ah_none (two_none hR)).2]
          have F : Hid (∀ n q, rdN 2 s.data.toList = some (n, q) → 1000 < n) := fun n q h => by rw [hR] at h; cases h
          clear hR
          go_wp2
          exact bodyPost_ret (v := .tuple #[.int .i64 0, .int .i64 0, .int .i64 3]) (by simp [results, Tryd.results40, go_sem]) rfl ⟨.inr (.inl ⟨NS.out, F.out, rfl⟩), B1.out⟩
        | some pr =>
          obtain ⟨v, q⟩ := pr
          obtain ⟨q', hq'⟩ := two_some hR
          rw [(ah_some hq').1, (ah_some hq').2]
          have hv := rdN_lt hR
          have hn : 1 ≤ (numB v).length := by
            cases e : numB v with
            | nil => exact absurd e (numB_ne v)
            | cons a r => simp
          have hn2 : (numB v).length ≤ 2 := (rdN_some _ _ _ _ hR).2
          have hz : (((numB v).length : Int) == 0) = false := by rw [beq_eq_false_iff_ne]; omega
          have HR := Lib.hid hR
          clear hR hq'
          by_cases h5 : 1000 < v
          · have h5' : (1000 : Int) < (v : Int) := by omega
            have F : Hid (∀ n q, rdN 2 s.data.toList = some (n, q) → 1000 < n) := fun n q h => by
              rw [HR.out] at h; simp only [Option.some.injEq, Prod.mk.injEq] at h; omega
            generalize (numB v).length = m at *
            go_wp2
            exact bodyPost_ret (v := .tuple #[.int .i64 0, .int .i64 0, .int .i64 3]) (by simp [results, Tryd.results40, go_sem]) rfl ⟨.inr (.inl ⟨NS.out, F.out, rfl⟩), B1.out⟩
          · have h5' : ¬ (1000 : Int) < (v : Int) := by omega
            have h6 : v ≤ 1000 := by omega
            generalize hm : (numB v).length = m at *
            have HM := Lib.hid hm
            clear hm
            go_wp2
            exact bodyPost_ret (v := .tuple #[.int .i64 v, .int .i64 m, .int .i64 0]) (by simp [results, Tryd.results40, go_sem]) rfl ⟨.inr (.inr ⟨NS.out, v, q, HR.out, h6, by rw [HM.out]⟩), B1.out⟩

set_option maxRecDepth 100000 in
set_option maxHeartbeats 1000000 in
theorem sumIn_any (s : ByteArray) (hs : s.size = 4) (w : World) :
    Calls Tryd.prog 41 #[.string s] w fun e w' => ∃ x : Nat, e = .returned (.int .i64 x) ∧ x < 4294967296 ∧ s.data.toList = fourB x ∧ w' = w := by
  have h0 : 0 < s.size := by omega
  have h1 : 1 < s.size := by omega
  have h2 : 2 < s.size := by omega
  have h3 : 3 < s.size := by omega
  have hl : s.data.toList = [s[0]'h0, s[1]'h1, s[2]'h2, s[3]'h3] := by
    have e4 : s.data.toList.drop (3 + 1) = [] := List.drop_of_length_le (by have : s.data.toList.length = s.size := by simp
                                                                            omega)
    have e0 := drop_cons s 0 h0
    rw [drop_cons s 1 h1, drop_cons s 2 h2, drop_cons s 3 h3, e4] at e0
    exact e0
  have l0 := (s[0]'h0).toNat_lt
  have l1 := (s[1]'h1).toNat_lt
  have l2 := (s[2]'h2).toNat_lt
  have l3 := (s[3]'h3).toNat_lt
  have F : Hid (s.data.toList = fourB ((((s[0]'h0).toNat * 256 + (s[1]'h1).toNat) * 256 + (s[2]'h2).toNat) * 256 + (s[3]'h3).toNat)) := by
    show _ = _
    rw [hl]
    unfold fourB
    congr 1
    · exact u8_eq (by omega)
    congr 1
    · exact u8_eq (by omega)
    congr 1
    · exact u8_eq (by omega)
    congr 1
    · exact u8_eq (by omega)
  have i0 : ((s[0]'h0).toNat : Int) < 256 := by omega
  have i1 : ((s[1]'h1).toNat : Int) < 256 := by omega
  have i2 : ((s[2]'h2).toNat : Int) < 256 := by omega
  have i3 : ((s[3]'h3).toNat : Int) < 256 := by omega
  have hs' : (s.size : Int) = 4 := by omega
  clear hl
  go_enter Tryd.func41, Tryd.ntmps41
  go_wp2
  refine wp_loop_rounds 5 ?_
  rw [rounds_succ]
  go_wp2
  rw [rounds_succ]
  go_wp2
  rw [rounds_succ]
  go_wp2
  rw [rounds_succ]
  go_wp2
  rw [rounds_succ]
  go_wp2
  go_ret
  exact ⟨(((s[0]'h0).toNat * 256 + (s[1]'h1).toNat) * 256 + (s[2]'h2).toNat) * 256 + (s[3]'h3).toNat, by simp, by omega, F.out, rfl⟩

end Go.Proofs.YtmffoannknkjkaaDoor
namespace Go.Proofs
open Go.Shelf
def Tryd.lays197_ren : Go.Shelf.Ren := ⟨fun | 197 => 48 | 260 => 52 | n => n, fun | 9 => 9 | 21 => 21 | 3 => 3 | 4 => 4 | 5 => 5 | 105 => 71 | 119 => 76 | 0 => 0 | 46 => 67 | 139 => 79 | 138 => 78 | n => n, fun | 3 => 0 | 4 => 1 | n => n⟩
theorem Tryd.lays197 : Go.Proofs.Lays.n197 Tryd.prog Tryd.lays197_ren := {
  mixed := by kernel_rfl
  f197 := Tryd.func48.trans (congrArg some (by kernel_rfl))
  f260 := Tryd.func52.trans (congrArg some (by kernel_rfl))
  t0 := Tryd.underlying0
  a0 := Tryd.isAgg0
  z0 := Tryd.sizeOf0
  v0 := Tryd.zeroValue0
  t3 := Tryd.underlying3
  a3 := Tryd.isAgg3
  z3 := Tryd.sizeOf3
  v3 := Tryd.zeroValue3
  t4 := Tryd.underlying4
  a4 := Tryd.isAgg4
  z4 := Tryd.sizeOf4
  v4 := Tryd.zeroValue4
  t5 := Tryd.underlying5
  a5 := Tryd.isAgg5
  z5 := Tryd.sizeOf5
  v5 := Tryd.zeroValue5
  t9 := Tryd.underlying9
  a9 := Tryd.isAgg9
  z9 := Tryd.sizeOf9
  v9 := Tryd.zeroValue9
  t21 := Tryd.underlying21
  a21 := Tryd.isAgg21
  z21 := Tryd.sizeOf21
  v21 := Tryd.zeroValue21
  t46 := Tryd.underlying67
  a46 := Tryd.isAgg67
  z46 := Tryd.sizeOf67
  v46 := Tryd.zeroValue67
  t105 := Tryd.underlying71
  a105 := Tryd.isAgg71
  z105 := Tryd.sizeOf71
  v105 := Tryd.zeroValue71
  t119 := Tryd.underlying76
  a119 := Tryd.isAgg76
  z119 := Tryd.sizeOf76
  t138 := Tryd.underlying78
  a138 := Tryd.isAgg78
  z138 := Tryd.sizeOf78
  v138 := Tryd.zeroValue78
  t139 := Tryd.underlying79
  a139 := Tryd.isAgg79
  z139 := Tryd.sizeOf79
  v139 := Tryd.zeroValue79
  g3 := by kernel_rfl
  g4 := by kernel_rfl }
open Go.RowKit Go.Lib in
/-- **unicode/utf8.DecodeRuneInString AT EVERY STRING.** (LAID: no walk: one application.) -/
theorem Tryd.utf8_DecodeRuneInString (s : ByteArray) (w : World) (hT : Lib.Utf8Tabs 0 1 w) :
    Calls Tryd.prog 48 #[.string s] w fun e w' => e = .returned (.tuple #[.int .i32 (Lib.decodeGo s).1, .int .i64 (Lib.decodeGo s).2]) ∧ Below w.heap.size w w' := Any.utf8_DecodeRuneInString Tryd.lays197 s w hT
end Go.Proofs
namespace Go.Proofs.YtmffoannknkjkaaDoor
open Go.RowKit
set_option linter.unusedVariables false

def U8 (w : World) : Prop := Lib.Utf8Tabs 0 1 w
theorem U8.below {w w' : World} (h : U8 w) (hb : Below w.heap.size w w') : U8 w' := Utf8Tabs_below h hb

theorem width_pos (s : ByteArray) (pos : Nat) (h : pos < s.size) : 1 ≤ (Utf8.decode s pos).2 := by
  by_cases ha : (s[pos]'h).toNat < 128
  · rw [decode_ascii s pos h ha]; exact Nat.le_refl _
  · exact (decode_high s pos h (by omega)).2
theorem decN_le (n b0 b1 b2 b3 : Nat) (hn : 1 ≤ n) : (Lib.decodeN n b0 b1 b2 b3).2 ≤ n := by
  unfold Lib.decodeN
  repeat' split
  all_goals first | omega | (simp; omega) | skip
theorem width_le (s : ByteArray) (pos : Nat) (h : pos < s.size) : pos + (Utf8.decode s pos).2 ≤ s.size := by
  rw [Lib.decode_at]
  have := decN_le (s.size - pos) (s.get! pos).toNat (s.get! (pos + 1)).toNat (s.get! (pos + 2)).toNat (s.get! (pos + 3)).toNat (by omega)
  omega
theorem get_tail (s : ByteArray) (pos i : Nat) (h : pos ≤ s.size) : (s.extract pos s.size).get! i = s.get! (pos + i) := by
  by_cases hi : pos + i < s.size
  · have e1 : i < (s.extract pos s.size).size := by simp; omega
    rw [Utf8W.get!_of_lt _ _ e1, Utf8W.get!_of_lt _ _ hi]
    simp [ByteArray.getElem_extract]
  · have e1 : (s.extract pos s.size).size ≤ i := by simp; omega
    simp [ByteArray.get!]
    rw [getElem!_neg _ _ (by simp; omega), getElem!_neg _ _ (by simp; omega)]
theorem dec_tail (s : ByteArray) (pos : Nat) (h : pos < s.size) : Lib.decodeGo (s.extract pos s.size) = Utf8.decode s pos := by
  have e : (s.extract pos s.size).size = s.size - pos := by simp
  unfold Lib.decodeGo
  rw [if_neg (by rw [e]; omega), Lib.decode_at, Lib.decode_at, e, get_tail _ _ _ (by omega), get_tail _ _ _ (by omega), get_tail _ _ _ (by omega), get_tail _ _ _ (by omega)]
  rfl

set_option maxHeartbeats 1000000 in
theorem isum_any (s : ByteArray) (hs : s.size ≤ 20000) (w : World) (ht : U8 w) :
    Calls Tryd.prog 42 #[.string s] w fun e w' => e = .returned (.int .i64 (sumL s.data.toList)) ∧ Below w.heap.size w w' := by
  have hs' : ¬ (20000 : Int) < (s.size : Int) := by omega
  have HT : Hid (U8 w) := ht
  clear ht
  go_enter Tryd.func42, Tryd.ntmps42
  go_wp2
  go_loopw [3] (fun t wr => ∃ pos x : Nat, t = .int .i64 x ∧ pos ≤ s.size ∧ wr.heap[w.heap.size]? = some (.stringIter s pos) ∧ Hid (Below w.heap.size w wr) ∧ Hid (x = sumAt s pos) ∧ x < 4294967291) (fun _ wr => s.size - wr.iterPos w.heap.size)
  case atStart =>
    refine ⟨0, 1, rfl, Nat.zero_le _, ?_, bA0 _ _, rfl, by decide⟩
    have := World.iter_heap w s 0
    simpa using this
  case round =>
    obtain ⟨pos, x, rfl, hpos, hit, H1, H2, hx⟩ := hrel
    have hsz : w.heap.size < wr.heap.size := (Array.getElem?_eq_some_iff.1 hit).1
    by_cases hp : pos < s.size
    · have hnx : ∀ ty, (Instr.next (.pointer (some ⟨w.heap.size, 0, none⟩)) true ty).run Tryd.prog wr = _ := fun ty => Lib.run_next_any_at wr w.heap.size s pos ty hit hp
      have hwd := width_pos s pos hp
      have hwl := width_le s pos hp
      have hit2 := Lib.iterAt_heap wr w.heap.size s pos (pos + (Utf8.decode s pos).2) hit
      have hbw2 := Lib.below_iterAt H1.out (k := w.heap.size) (by omega) s (pos + (Utf8.decode s pos).2)
      have hT2 := HT.out.below hbw2
      have hD := Tryd.utf8_DecodeRuneInString (s.extract pos s.size) (wr.iterAt w.heap.size s (pos + (Utf8.decode s pos).2)) hT2
      rw [dec_tail s pos hp] at hD
      have hpi : (pos : Int) ≤ (s.size : Int) := by omega
      have HX : Hid (∀ w0 : World, w0.heap[w.heap.size]? = wr.heap[w.heap.size]? → wr.iterPos w.heap.size = w0.iterPos w.heap.size) := by
        intro w0 h0; unfold World.iterPos; rw [h0]
      generalize hW : wr.iterAt w.heap.size s (pos + (Utf8.decode s pos).2) = W at *
      generalize (Utf8.decode s pos).2 = width at *
      go_wp2_with fail
      refine hD.mono ?_
      rintro e w2 ⟨rfl, b2⟩
      have hWs : w.heap.size < W.heap.size := (Array.getElem?_eq_some_iff.1 hit2).1
      have I2 : Hid (w2.heap[w.heap.size]? = some (.stringIter s (pos + width))) := (b2.block _ hWs).trans hit2
      have B2 : Hid (Below w.heap.size w w2) := bT hbw2 b2
      clear hD b2 hnx hT2 hbw2 HX
      have hnx : True := trivial
      go_wp2
      go_loop [3, 7] (fun t i => ∃ k y : Nat, i = .int .i64 k ∧ t = .int .i64 y ∧ k ≤ pos + width ∧ Hid (y = sumAt s k) ∧ y < 4294967291) (fun _ i => pos + width - (intOf i).toNat)
      case atStart => exact ⟨pos, x, rfl, rfl, by omega, H2, hx⟩
      case round =>
        obtain ⟨k, y, rfl, rfl, hk, H3, hy⟩ := hrel
        have hk0 : (0 : Int) ≤ (k : Int) := by omega
        have hy0 : (0 : Int) ≤ (y : Int) := by omega
        have hy1 : (y : Int) < 4294967291 := by omega
        by_cases h1 : k < pos + width
        · have h1' : (k : Int) < (pos : Int) + (width : Int) := by omega
          have h2 : k < s.size := by omega
          have h2' : (k : Int) < (s.size : Int) := by omega
          have hb : ((s[k]'h2).toNat : Int) < 256 := by have := (s[k]'h2).toNat_lt; omega
          have E := sumAt_step s k h2
          rw [← H3.out] at E
          have HE : Hid ((((y : Int) * 263 + ((s[k]'h2).toNat : Int)) % 4294967291) = ((sumAt s (k + 1) : Nat) : Int)) := by show _ = _; rw [E]; omega
          have HB : Hid (sumAt s (k + 1) < 4294967291) := sumL_lt _
          clear E
          go_wp2
          go_round
          case rel => exact ⟨k + 1, sumAt s (k + 1), by go_num, by rw [HE.out], by omega, rfl, HB.out⟩
          case measure => simp [intOf]; omega
        · have h1' : ¬ (k : Int) < (pos : Int) + (width : Int) := by omega
          have HE : Hid (y = sumAt s (pos + width)) := by show y = _; rw [H3.out]; congr 1; omega
          go_wp2
          refine ⟨⟨pos + width, y, rfl, by omega, I2.out, B2, HE, hy⟩, ?_⟩
          simp only [World.iterPos, I2.out, hit]
          omega
    · have hnx : ∀ ty, (Instr.next (.pointer (some ⟨w.heap.size, 0, none⟩)) true ty).run Tryd.prog wr = _ := fun ty => Lib.run_next_end_at wr w.heap.size s pos ty hit hp
      have HE : Hid (x = sumL s.data.toList) := H2.out.trans (sumAt_all s pos (by omega))
      go_wp2
      go_ret
      exact ⟨by rw [HE.out]; rfl, H1.out⟩

end Go.Proofs.YtmffoannknkjkaaDoor
