/-
  AN ID IS SOUGHT IN A TABLE; the Ids as they stand.
-/
import Derived.Test.YtllaiigjkchahaaDoorAc
namespace Go.Proofs.YtllaiigjkchahaaDoor
open Go.RowKit
set_option linter.unusedVariables false

/-- A table in a block of its own. -/
def TabAt (w : World) (b : Nat) (sl : Option Addr) (n cap : Nat) (sl2 : Option Addr) (m cap2 : Nat) : Prop := w.heap[b]? = some (.cells #[.slice sl n cap, .slice sl2 m cap2] 43)
theorem TabAt.new (w : World) (sl : Option Addr) (n cap : Nat) (sl2 : Option Addr) (m cap2 : Nat) : TabAt (w.alloc (.cells #[.slice sl n cap, .slice sl2 m cap2] 43)) w.heap.size sl n cap sl2 m cap2 := by
  show (w.heap.push _)[w.heap.size]? = _
  simp
theorem TabAt.lt {w : World} {b : Nat} {sl : Option Addr} {n cap : Nat} {sl2 : Option Addr} {m cap2 : Nat} (h : TabAt w b sl n cap sl2 m cap2) : b < w.heap.size := (Array.getElem?_eq_some_iff.1 h).1
theorem TabAt.below {w w' : World} {b : Nat} {sl : Option Addr} {n cap : Nat} {sl2 : Option Addr} {m cap2 : Nat} (h : TabAt w b sl n cap sl2 m cap2) (hb : Below w.heap.size w w') : TabAt w' b sl n cap sl2 m cap2 := (hb.block b h.lt).trans h
theorem TabAt.cells {w : World} {b : Nat} {sl : Option Addr} {n cap : Nat} {sl2 : Option Addr} {m cap2 : Nat} (h : TabAt w b sl n cap sl2 m cap2) : w.cell? ⟨b, 0, none⟩ = some (.slice sl n cap) ∧ w.cell? ⟨b, 1, none⟩ = some (.slice sl2 m cap2) := by
  unfold TabAt at h
  refine ⟨?_, ?_⟩ <;> simp [World.cell?, h]


/-- Numbers as values. -/
def valsZ (zs : List Int) : List Value := zs.map (Value.int .i64)
theorem own_cells {w : World} {B : Nat} {v : Value} {n : Nat} {xs : List Value} (h : w.ownsRow B 2 1 v n xs) (hn : 0 < n) :
    ∃ g cap, v = .slice (some ⟨g, 0, none⟩) n cap ∧ B ≤ g ∧ g < w.heap.size ∧ n ≤ cap ∧ cap ≤ maxLen ∧ ∀ j, j < n → w.cell? ⟨g, j, none⟩ = xs[j]? := by
  rcases h.2 with ⟨_, h0⟩ | ⟨g, cap, cur, hv, hb, hg, hcap, hmx, hcur, hx⟩
  · omega
  · refine ⟨g, cap, hv, hb, (Array.getElem?_eq_some_iff.1 hg).1, hcap, hmx, fun j hj => ?_⟩
    rw [← hx, List.getElem?_take_of_lt (by omega)]
    simp [World.cell?, hg]
theorem own_ints {w : World} {B : Nat} {v : Value} {zs : List Int} (h : w.ownsRow B 2 1 v zs.length (valsZ zs)) : ∃ sl cap, v = .slice sl zs.length cap ∧ Ints w sl zs := by
  by_cases hn : 0 < zs.length
  · obtain ⟨g, cap, rfl, _, hg, _, _, hc⟩ := own_cells h hn
    exact ⟨_, _, rfl, .inr ⟨g, 0, rfl, hg, fun i hi => by rw [Nat.zero_add, hc i hi]; simp [valsZ, hi]⟩⟩
  · have e : zs = [] := List.eq_nil_of_length_eq_zero (by omega)
    subst e
    rcases h.2 with ⟨hv, _⟩ | ⟨g, cap, cur, hv, _⟩
    · exact ⟨none, 0, hv, .inl rfl⟩
    · exact ⟨_, cap, hv, .inl rfl⟩
theorem own_below {B : Nat} {e : TypeId} {m : Nat} {v : Value} {n : Nat} {xs : List Value} {w w' : World} (h : w.ownsRow B e m v n xs) (hb : Below w.heap.size w w') : w'.ownsRow B e m v n xs := by
  refine ⟨h.1, ?_⟩
  rcases h.2 with h | ⟨g, cap, cur, hv, hg, hh, r⟩
  · exact .inl h
  · exact .inr ⟨g, cap, cur, hv, hg, (hb.block g (Array.getElem?_eq_some_iff.1 hh).1).trans hh, r⟩
theorem own_mono {w : World} {B B' : Nat} {e : TypeId} {m : Nat} {v : Value} {n : Nat} {xs : List Value} (h : w.ownsRow B e m v n xs) (hB : B' ≤ B) : w.ownsRow B' e m v n xs := by
  refine ⟨h.1, ?_⟩
  rcases h.2 with h | ⟨g, cap, cur, hv, hg, r⟩
  · exact .inl h
  · exact .inr ⟨g, cap, cur, hv, Nat.le_trans hB hg, r⟩
theorem own_v {B : Nat} {e : TypeId} {m : Nat} {w : World} {v : Value} {n : Nat} {xs : List Value} (h : w.ownsRow B e m v n xs) : ∃ sl cap, v = .slice sl n cap := by
  rcases h.2 with ⟨rfl, h0⟩ | ⟨g, cap, cur, rfl, _⟩
  · exact ⟨none, 0, by rw [h0]⟩
  · exact ⟨_, cap, rfl⟩

end Go.Proofs.YtllaiigjkchahaaDoor
