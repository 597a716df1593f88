/-
  THE WORDS OF A TABLE'S LINES IN A MAP: impl.lineKinds, and the look-up of a word.
-/
import Derived.Test.YtdndhhkpbcpalaaDoorLh
import Derived.Test.YtdndhhkpbcpalaaDoorLg
import Derived.WideMake
namespace Go.Proofs.YtdndhhkpbcpalaaDoor
open Go.RowKit
set_option linter.unusedVariables false

abbrev KW := List UInt8 × Int
def EntOK (e : MapEntry) (k : KW) : Prop := e.key = .string ⟨k.1.toArray⟩ ∧ e.val = .int .i64 k.2
inductive Ents : List MapEntry → List KW → Prop
  | nil : Ents [] []
  | snoc {es : List MapEntry} {ks : List KW} {e : MapEntry} {k : KW} : Ents es ks → EntOK e k → Ents (es ++ [e]) (ks ++ [k])
def CM (w : World) (r : Nat) (ks : List KW) : Prop := ∃ es clock, w.heap[r]? = some (.map es clock) ∧ Ents es.toList ks
theorem CM.lt {w : World} {r : Nat} {ks : List KW} (h : CM w r ks) : r < w.heap.size := by
  obtain ⟨es, c, h1, _⟩ := h
  exact (Array.getElem?_eq_some_iff.1 h1).1
theorem CM.below {w w' : World} {r : Nat} {ks : List KW} (h : CM w r ks) (hb : Below w.heap.size w w') : CM w' r ks := by
  have hl := h.lt
  obtain ⟨es, c, h1, h2⟩ := h
  exact ⟨es, c, (hb.block r hl).trans h1, h2⟩
theorem ba_inj {a b : List UInt8} : ((⟨a.toArray⟩ : ByteArray) == ⟨b.toArray⟩) = (a == b) := by
  rw [beq_toListBytes, Go.ByteArray.toList_eq, Go.ByteArray.toList_eq]
theorem find_snoc (kd : TypeDesc) (k : Value) (e : MapEntry) : ∀ (es : List MapEntry) (i : Nat), Instr.findNow kd k es i = some none → Instr.findNow kd k (es ++ [e]) i = Instr.findNow kd k [e] (i + es.length) := by
  intro es
  induction es with
  | nil => intro i _; simp
  | cons x xs ih =>
    intro i h
    rw [List.cons_append]
    unfold Instr.findNow at h ⊢
    cases hs : Instr.sameNow kd k x.key with
    | none => rw [hs] at h; simp at h
    | some b =>
      cases b with
      | true => rw [hs] at h; simp at h
      | false =>
        rw [hs] at h
        simp only at h ⊢
        rw [ih (i + 1) h, show i + 1 + xs.length = i + (x :: xs).length by simp; omega]
        rfl
theorem find_hit (kd : TypeDesc) (k : Value) (e : MapEntry) : ∀ (es : List MapEntry) (i : Nat) (q : Nat × Value), Instr.findNow kd k es i = some (some q) → Instr.findNow kd k (es ++ [e]) i = some (some q) := by
  intro es
  induction es with
  | nil => intro i q h; simp [Instr.findNow] at h
  | cons x xs ih =>
    intro i q h
    rw [List.cons_append]
    unfold Instr.findNow at h ⊢
    cases hs : Instr.sameNow kd k x.key with
    | none => rw [hs] at h; simp at h
    | some b =>
      cases b with
      | true => rw [hs] at h; exact h
      | false =>
        rw [hs] at h
        simp only at h ⊢
        exact ih (i + 1) q h
def wordOf (ks : List KW) (x : List UInt8) : Option KW := ks.find? fun k => x == k.1
theorem find_ents {es : List MapEntry} {ks : List KW} (h : Ents es ks) (x : List UInt8) :
    (wordOf ks x = none → Instr.findNow .string (.string ⟨x.toArray⟩) es 0 = some none) ∧ (∀ k, wordOf ks x = some k → ∃ i, Instr.findNow .string (.string ⟨x.toArray⟩) es 0 = some (some (i, .int .i64 k.2))) := by
  induction h with
  | nil => exact ⟨fun _ => rfl, fun k hk => by simp [wordOf] at hk⟩
  | @snoc es ks e k hE hO ih =>
    obtain ⟨hk, hv⟩ := hO
    have one : ∀ i, Instr.findNow .string (.string ⟨x.toArray⟩) [e] i = if (x == k.1) = true then some (some (i, e.val)) else some none := fun i => by
      unfold Instr.findNow
      rw [hk]
      show (match some ((⟨x.toArray⟩ : ByteArray) == ⟨k.1.toArray⟩) with | some true => _ | some false => _ | none => _) = _
      rw [ba_inj]
      cases hx : (x == k.1) <;> simp [Instr.findNow]
    cases hc : wordOf ks x with
    | some q =>
      obtain ⟨i, hi⟩ := ih.2 q hc
      have hq : wordOf (ks ++ [k]) x = some q := by unfold wordOf at hc ⊢; rw [List.find?_append, hc]; rfl
      refine ⟨fun h0 => (by rw [hq] at h0; cases h0), fun k' hk' => ?_⟩
      rw [hq] at hk'
      cases hk'
      exact ⟨i, find_hit _ _ _ _ _ _ hi⟩
    | none =>
      have h0 := find_snoc .string (.string ⟨x.toArray⟩) e es 0 (ih.1 hc)
      rw [one] at h0
      have hq : wordOf (ks ++ [k]) x = if (x == k.1) = true then some k else none := by
        unfold wordOf at hc ⊢
        rw [List.find?_append, hc]
        cases hx : (x == k.1) <;> simp [List.find?, hx]
      cases hx : (x == k.1) with
      | false =>
        rw [hx] at h0 hq
        refine ⟨fun _ => by simpa using h0, fun k' hk' => by rw [hq] at hk'; simp at hk'⟩
      | true =>
        rw [hx] at h0 hq
        refine ⟨fun h9 => by rw [hq] at h9; simp at h9, fun k' hk' => ?_⟩
        rw [hq] at hk'
        simp at hk'
        subst hk'
        exact ⟨_, by rw [h0, hv]; rfl⟩
def mapW (w : World) (r : Nat) (es : Array MapEntry) (clock : Nat) : World := { w with heap := w.heap.setIfInBounds r (.map es clock) }
theorem mapW_same (w : World) (r : Nat) (es : Array MapEntry) (clock : Nat) (h : r < w.heap.size) : (mapW w r es clock).heap[r]? = some (.map es clock) := by
  unfold mapW
  simp [h]
theorem mapW_below {B : Nat} {a w : World} (h : Below B a w) (r : Nat) (hr : B ≤ r) (es : Array MapEntry) (clock : Nat) : Below B a (mapW w r es clock) :=
  h.trans ⟨rfl, rfl, rfl, by unfold mapW; simp, fun k hk => by unfold mapW; simp only; rw [Array.getElem?_setIfInBounds_ne (by omega)]⟩
theorem run_upd (w : World) (r clock : Nat) (es : Array MapEntry) (s : ByteArray) (val : Value) (hb : w.heap[r]? = some (.map es clock)) (hf : Instr.findNow .string (.string s) es.toList 0 = some none) :
    (Instr.mapUpdate 51 (.map (some r)) (.string s) val).run Tryd.prog w = .ok () (mapW w r (es.push { key := .string s, val := val, born := clock }) (clock + 1)) := by
  have hc : (Instr.checkKey false 10000 9 (.string s)).run Tryd.prog w = .ok () w := MapKept.run_checkKey (k := .string s) Tryd.underlying9 (by simp [MapKept.IsKey]) false 9999
  simp [Instr.mapUpdate, run_underlying Tryd.underlying51, MapKept.run_getObj_map hb, hc, MapKept.run_findKey Tryd.underlying9 hf, MapKept.run_setObj_map _ hb, Result.andThen, mapW]
theorem upd_ex {W a0 : World} {r : Nat} {ks : List KW} (k : List UInt8) (n : Int) (hcm : CM W r ks) (hD : Below r a0 W) (hno : wordOf ks k = none) :
    ∃ W', (Instr.mapUpdate 51 (.map (some r)) (.string ⟨k.toArray⟩) (.int .i64 n)).run Tryd.prog W = .ok () W' ∧ CM W' r (ks ++ [(k, n)]) ∧ Below r a0 W' := by
  obtain ⟨es, clock, hb, hE⟩ := hcm
  have hf := (find_ents hE k).1 hno
  refine ⟨_, run_upd W r clock es _ _ hb hf, ⟨_, _, mapW_same W r _ _ (Array.getElem?_eq_some_iff.1 hb).1, ?_⟩, mapW_below hD r (Nat.le_refl _) _ _⟩
  rw [Array.toList_push]
  exact hE.snoc ⟨rfl, rfl⟩
/-- All words. -/
def kindsL : List KW := [(staW, 3), (samW, 1), (besW, 2)]
def kindOf (x : List UInt8) : Int := if x = staW then 3 else if x = samW then 1 else if x = besW then 2 else 0
theorem CM.made (w : World) : CM (w.alloc (.map #[] 0)) w.heap.size [] := ⟨#[], 0, by show (w.heap.push _)[w.heap.size]? = _; simp, .nil⟩
theorem kind_word (x : List UInt8) : (kindOf x = 0 → wordOf kindsL x = none) ∧ (kindOf x ≠ 0 → ∃ k, wordOf kindsL x = some k ∧ k.2 = kindOf x) := by
  unfold kindOf wordOf kindsL
  by_cases h1 : x = staW
  · subst h1; exact ⟨fun h => absurd h (by decide), fun _ => ⟨_, rfl, rfl⟩⟩
  by_cases h2 : x = samW
  · subst h2; exact ⟨fun h => absurd h (by decide), fun _ => ⟨_, rfl, rfl⟩⟩
  by_cases h3 : x = besW
  · subst h3; exact ⟨fun h => absurd h (by decide), fun _ => ⟨_, rfl, rfl⟩⟩
  rw [if_neg h1, if_neg h2, if_neg h3]
  refine ⟨fun _ => ?_, fun h => absurd rfl h⟩
  have b1 : (x == staW) = false := by simpa using h1
  have b2 : (x == samW) = false := by simpa using h2
  have b3 : (x == besW) = false := by simpa using h3
  simp only [List.find?, b1, b2, b3]
set_option maxRecDepth 100000 in
set_option maxHeartbeats 4000000 in
/-- impl.lineKinds. -/
theorem lik_any (w : World) : Calls Tryd.prog 22 #[] w fun e w' => e = .returned (.map (some w.heap.size)) ∧ CM w' w.heap.size kindsL ∧ Below w.heap.size w w' := by
  have hmk : ∀ w : World, (Instr.makeMap 51 none).run Tryd.prog w = .ok (.map (some w.heap.size)) (w.alloc (.map #[] 0)) := fun w => run_makeMap_plain w 51
  have C0 := CM.made w
  have D0 := bA0 w (.map #[] 0)
  obtain ⟨W1, u1, C1, D1⟩ := upd_ex staW 3 C0 D0 rfl
  obtain ⟨W2, u2, C2, D2⟩ := upd_ex samW 1 C1 D1 rfl
  obtain ⟨W3, u3, C3, D3⟩ := upd_ex besW 2 C2 D2 rfl
  have U1 : Sem.run Tryd.prog (Instr.mapUpdate 51 (.map (some w.heap.size)) (.string ⟨#[115, 116, 97, 116, 105, 111, 110]⟩) (.int .i64 3)) (w.alloc (.map #[] 0)) = .ok () W1 := u1
  have U2 : Sem.run Tryd.prog (Instr.mapUpdate 51 (.map (some w.heap.size)) (.string ⟨#[115, 97, 109, 101]⟩) (.int .i64 1)) W1 = .ok () W2 := u2
  have U3 : Sem.run Tryd.prog (Instr.mapUpdate 51 (.map (some w.heap.size)) (.string ⟨#[98, 101, 115, 105, 100, 101]⟩) (.int .i64 2)) W2 = .ok () W3 := u3
  have RR := Lib.hid C3
  have DD := Lib.hid D3
  clear u1 u2 u3 C0 C1 C2 C3 D0 D1 D2 D3
  go_enter Tryd.func22, Tryd.ntmps22
  go_wp2
  go_ret
  exact ⟨rfl, RR.out, DD.out⟩
theorem run_look (w : World) (r : Nat) (x : List UInt8) (h : CM w r kindsL) :
    (Instr.lookup 51 (.map (some r)) (.string ⟨x.toArray⟩) false).run Tryd.prog w = .ok (.int .i64 (kindOf x)) w := by
  obtain ⟨es, clock, hb, hE⟩ := h
  have hc : ∀ b, (Instr.checkKey b 10000 9 (.string ⟨x.toArray⟩)).run Tryd.prog w = .ok () w := fun b => MapKept.run_checkKey (k := .string ⟨x.toArray⟩) Tryd.underlying9 (by simp [MapKept.IsKey]) b 9999
  obtain ⟨f1, f2⟩ := find_ents hE x
  by_cases h0 : kindOf x = 0
  · have hz : ∀ w, (zeroValue 2).run Tryd.prog w = .ok (.int .i64 0) w := fun w => Tryd.zeroValue2 w
    rw [h0]
    simp [Instr.lookup, run_underlying Tryd.underlying51, MapKept.run_getObj_map hb, hc, MapKept.run_findKey Tryd.underlying9 (f1 ((kind_word x).1 h0)), hz, Result.andThen]
  · obtain ⟨k, hk, e⟩ := (kind_word x).2 h0
    obtain ⟨i, hf⟩ := f2 k hk
    rw [← e]
    simp [Instr.lookup, run_underlying Tryd.underlying51, MapKept.run_getObj_map hb, hc, MapKept.run_findKey Tryd.underlying9 hf, Result.andThen]
end Go.Proofs.YtdndhhkpbcpalaaDoor
