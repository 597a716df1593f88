/-
  THE COMMANDS BY WORD: a map of structs, written in order, looked up once.
-/
import Derived.Test.YtemkfdpbhdjgfaaGreatDoorLf
import Derived.WideMake
namespace Go.Proofs.YtemkfdpbhdjgfaaGreatDoor
open Go.RowKit
set_option linter.unusedVariables false

/-- An entry of the map: a word, how many numbers, may there be more. -/
def EntOK (e : MapEntry) (k : List UInt8 × Int × Bool) : Prop := e.key = .string ⟨k.1.toArray⟩ ∧ ∃ o c fx fy fz, e.val = .agg #[.int .i64 k.2.1, .bool k.2.2, .bool o, .bool c, .func fx fy fz]
inductive Ents : List MapEntry → List (List UInt8 × Int × Bool) → Prop
  | nil : Ents [] []
  | snoc {es : List MapEntry} {ks : List (List UInt8 × Int × Bool)} {e : MapEntry} {k : List UInt8 × Int × Bool} : Ents es ks → EntOK e k → Ents (es ++ [e]) (ks ++ [k])
/-- The map at block r holds the words ks. -/
def CM (w : World) (r : Nat) (ks : List (List UInt8 × Int × Bool)) : Prop := ∃ es clock, w.heap[r]? = some (.map es clock) ∧ Ents es.toList ks
theorem CM.lt {w : World} {r : Nat} {ks : List (List UInt8 × Int × Bool)} (h : CM w r ks) : r < w.heap.size := by
  obtain ⟨es, c, h1, _⟩ := h
  exact (Array.getElem?_eq_some_iff.1 h1).1
theorem CM.below {w w' : World} {r : Nat} {ks : List (List UInt8 × Int × Bool)} (h : CM w r ks) (hb : Below w.heap.size w w') : CM w' r ks := by
  have hl := h.lt
  obtain ⟨es, c, h1, h2⟩ := h
  exact ⟨es, c, (hb.block r hl).trans h1, h2⟩
theorem ba_inj {a b : List UInt8} : ((⟨a.toArray⟩ : ByteArray) == ⟨b.toArray⟩) = (a == b) := by
  rw [beq_toListBytes, Go.ByteArray.toList_eq, Go.ByteArray.toList_eq]
theorem find_snoc (kd : TypeDesc) (k : Value) (e : MapEntry) : ∀ (es : List MapEntry) (i : Nat), Instr.findNow kd k es i = some none → Instr.findNow kd k (es ++ [e]) i = Instr.findNow kd k [e] (i + es.length) := by
  intro es
  induction es with
  | nil => intro i _; simp
  | cons x xs ih =>
    intro i h
    rw [List.cons_append]
    unfold Instr.findNow at h ⊢
    cases hs : Instr.sameNow kd k x.key with
    | none => rw [hs] at h; simp at h
    | some b =>
      cases b with
      | true => rw [hs] at h; simp at h
      | false =>
        rw [hs] at h
        simp only at h ⊢
        rw [ih (i + 1) h, show i + 1 + xs.length = i + (x :: xs).length by simp; omega]
        rfl
theorem find_hit (kd : TypeDesc) (k : Value) (e : MapEntry) : ∀ (es : List MapEntry) (i : Nat) (q : Nat × Value), Instr.findNow kd k es i = some (some q) → Instr.findNow kd k (es ++ [e]) i = some (some q) := by
  intro es
  induction es with
  | nil => intro i q h; simp [Instr.findNow] at h
  | cons x xs ih =>
    intro i q h
    rw [List.cons_append]
    unfold Instr.findNow at h ⊢
    cases hs : Instr.sameNow kd k x.key with
    | none => rw [hs] at h; simp at h
    | some b =>
      cases b with
      | true => rw [hs] at h; exact h
      | false =>
        rw [hs] at h
        simp only at h ⊢
        exact ih (i + 1) q h
/-- The first word of ks that is x. -/
def cmdOf (ks : List (List UInt8 × Int × Bool)) (x : List UInt8) : Option (List UInt8 × Int × Bool) := ks.find? fun k => x == k.1
theorem find_ents {es : List MapEntry} {ks : List (List UInt8 × Int × Bool)} (h : Ents es ks) (x : List UInt8) :
    (cmdOf ks x = none → Instr.findNow .string (.string ⟨x.toArray⟩) es 0 = some none) ∧ (∀ k, cmdOf ks x = some k → ∃ i o c fx fy fz, Instr.findNow .string (.string ⟨x.toArray⟩) es 0 = some (some (i, .agg #[.int .i64 k.2.1, .bool k.2.2, .bool o, .bool c, .func fx fy fz]))) := by
  induction h with
  | nil => exact ⟨fun _ => rfl, fun k hk => by simp [cmdOf] at hk⟩
  | @snoc es ks e k hE hO ih =>
    obtain ⟨hk, o, c, fx, fy, fz, hv⟩ := hO
    have one : ∀ i, Instr.findNow .string (.string ⟨x.toArray⟩) [e] i = if (x == k.1) = true then some (some (i, e.val)) else some none := fun i => by
      unfold Instr.findNow
      rw [hk]
      show (match some ((⟨x.toArray⟩ : ByteArray) == ⟨k.1.toArray⟩) with | some true => _ | some false => _ | none => _) = _
      rw [ba_inj]
      cases hx : (x == k.1) <;> simp [Instr.findNow]
    cases hc : cmdOf ks x with
    | some q =>
      obtain ⟨i, o', c', f1, f2, f3, hi⟩ := ih.2 q hc
      have hq : cmdOf (ks ++ [k]) x = some q := by unfold cmdOf at hc ⊢; rw [List.find?_append, hc]; rfl
      refine ⟨fun h0 => (by rw [hq] at h0; cases h0), fun k' hk' => ?_⟩
      rw [hq] at hk'
      cases hk'
      exact ⟨i, o', c', f1, f2, f3, find_hit _ _ _ _ _ _ hi⟩
    | none =>
      have h0 := find_snoc .string (.string ⟨x.toArray⟩) e es 0 (ih.1 hc)
      rw [one] at h0
      have hq : cmdOf (ks ++ [k]) x = if (x == k.1) = true then some k else none := by
        unfold cmdOf at hc ⊢
        rw [List.find?_append, hc]
        cases hx : (x == k.1) <;> simp [List.find?, hx]
      cases hx : (x == k.1) with
      | false =>
        rw [hx] at h0 hq
        refine ⟨fun _ => by simpa using h0, fun k' hk' => by rw [hq] at hk'; simp at hk'⟩
      | true =>
        rw [hx] at h0 hq
        refine ⟨fun h9 => by rw [hq] at h9; simp at h9, fun k' hk' => ?_⟩
        rw [hq] at hk'
        simp at hk'
        subst hk'
        exact ⟨_, o, c, fx, fy, fz, by rw [h0, hv]; rfl⟩

/-- The world with a map's entries turned. -/
def mapW (w : World) (r : Nat) (es : Array MapEntry) (clock : Nat) : World := { w with heap := w.heap.setIfInBounds r (.map es clock) }
theorem mapW_same (w : World) (r : Nat) (es : Array MapEntry) (clock : Nat) (h : r < w.heap.size) : (mapW w r es clock).heap[r]? = some (.map es clock) := by
  unfold mapW
  simp [h]
theorem mapW_below {B : Nat} {a w : World} (h : Below B a w) (r : Nat) (hr : B ≤ r) (es : Array MapEntry) (clock : Nat) : Below B a (mapW w r es clock) :=
  h.trans ⟨rfl, rfl, rfl, by unfold mapW; simp, fun k hk => by unfold mapW; simp only; rw [Array.getElem?_setIfInBounds_ne (by omega)]⟩
theorem run_upd (w : World) (r clock : Nat) (es : Array MapEntry) (s : ByteArray) (val : Value) (hb : w.heap[r]? = some (.map es clock)) (hf : Instr.findNow .string (.string s) es.toList 0 = some none) :
    (Instr.mapUpdate 39 (.map (some r)) (.string s) val).run Tryz.prog w = .ok () (mapW w r (es.push { key := .string s, val := val, born := clock }) (clock + 1)) := by
  have hc : (Instr.checkKey false 10000 9 (.string s)).run Tryz.prog w = .ok () w := MapKept.run_checkKey (k := .string s) Tryz.underlying9 (by simp [MapKept.IsKey]) false 9999
  simp [Instr.mapUpdate, run_underlying Tryz.underlying39, MapKept.run_getObj_map hb, hc, MapKept.run_findKey Tryz.underlying9 hf, MapKept.run_setObj_map _ hb, Result.andThen, mapW]

/-- A word more, at its operation. -/
theorem wpList_cmd {ops : Array Oper} {rest : List Oper} {o : Oper} {a : Act} {w : World} {Q : Exit → Act → World → Prop} (hgd : o.guard = none) (m x v : Operand) (ho : o.op = .insert 39 m x v)
    (r : Nat) (ks : List (List UInt8 × Int × Bool)) (k : List UInt8) (n : Int) (mo op ch : Bool) (fv : Value) (hfv : ∃ fx fy fz, fv = .func fx fy fz) (hm : a.eval m = .map (some r)) (hx : a.eval x = .string ⟨k.toArray⟩) (hv : a.eval v = .agg #[.int .i64 n, .bool mo, .bool op, .bool ch, fv])
    (hcm : CM w r ks) (hno : cmdOf ks k = none) (h : ∀ es clock, CM (mapW w r es clock) r (ks ++ [(k, n, mo)]) → wpList Tryz.prog ops Q rest (a.put o.dst undef) (mapW w r es clock)) : wpList Tryz.prog ops Q (o :: rest) a w := by
  refine wpList_plain hgd fun _ hK => ?_
  obtain ⟨es, clock, hb, hE⟩ := hcm
  have hf := (find_ents hE k).1 hno
  unfold Oper.wp execOp
  simp only [ho, hx, hv, hm, Sem.run_bind, run_upd w r clock es _ _ hb hf, Result.andThen_ok]
  refine hK _ _ (h _ _ ⟨_, _, mapW_same w r _ _ (Array.getElem?_eq_some_iff.1 hb).1, ?_⟩)
  rw [Array.toList_push]
  obtain ⟨fx, fy, fz, rfl⟩ := hfv
  exact hE.snoc ⟨rfl, op, ch, fx, fy, fz, rfl⟩

end Go.Proofs.YtemkfdpbhdjgfaaGreatDoor
