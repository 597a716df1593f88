/-
  AN ID IS SOUGHT IN A TABLE; the Ids as they stand.
-/
import Derived.Test.YtgfclllfkpblnaaAc
namespace Go.Proofs.Ytgfclllfkpblnaa
open Go.RowKit
set_option linter.unusedVariables false

set_option maxHeartbeats 400000 in
theorem fd_nil (sl : Option Addr) (cap : Nat) (sl2 : Option Addr) (m cap2 : Nat) (x : Int) (w : World) :
    Calls Try.prog 30 #[TV sl 0 cap sl2 m cap2, .int .i64 x] w fun e w' => e = .returned (.int .i64 (-1)) ∧ Below w.heap.size w w' := by
  go_enter Try.func30, Try.ntmps30
  go_wp2
  refine wp_loop_rounds 1 ?_
  rw [rounds_succ]
  go_wp2
  go_ret
  exact ⟨rfl, bA0 _ _⟩
/-- A table in a block of its own. -/
def TabAt (w : World) (b : Nat) (sl : Option Addr) (n cap : Nat) (sl2 : Option Addr) (m cap2 : Nat) : Prop := w.heap[b]? = some (.cells #[.slice sl n cap, .slice sl2 m cap2] 26)
theorem TabAt.new (w : World) (sl : Option Addr) (n cap : Nat) (sl2 : Option Addr) (m cap2 : Nat) : TabAt (w.alloc (.cells #[.slice sl n cap, .slice sl2 m cap2] 26)) w.heap.size sl n cap sl2 m cap2 := by
  show (w.heap.push _)[w.heap.size]? = _
  simp
theorem TabAt.lt {w : World} {b : Nat} {sl : Option Addr} {n cap : Nat} {sl2 : Option Addr} {m cap2 : Nat} (h : TabAt w b sl n cap sl2 m cap2) : b < w.heap.size := (Array.getElem?_eq_some_iff.1 h).1
theorem TabAt.below {w w' : World} {b : Nat} {sl : Option Addr} {n cap : Nat} {sl2 : Option Addr} {m cap2 : Nat} (h : TabAt w b sl n cap sl2 m cap2) (hb : Below w.heap.size w w') : TabAt w' b sl n cap sl2 m cap2 := (hb.block b h.lt).trans h
theorem TabAt.cells {w : World} {b : Nat} {sl : Option Addr} {n cap : Nat} {sl2 : Option Addr} {m cap2 : Nat} (h : TabAt w b sl n cap sl2 m cap2) : w.cell? ⟨b, 0, none⟩ = some (.slice sl n cap) ∧ w.cell? ⟨b, 1, none⟩ = some (.slice sl2 m cap2) := by
  unfold TabAt at h
  refine ⟨?_, ?_⟩ <;> simp [World.cell?, h]

set_option maxHeartbeats 1000000 in
theorem fd_some (c o cap : Nat) (sl2 : Option Addr) (m cap2 : Nat) (x : Int) (rs : List LSt) (w : World) (hn : rs.length ≤ 1048576) (hz : StAt w c o rs) :
    Calls Try.prog 30 #[TV (some ⟨c, o, none⟩) rs.length cap sl2 m cap2, .int .i64 x] w fun e w' => e = .returned (.int .i64 (posOf (idsL rs) x)) ∧ Below w.heap.size w w' := by
  have HZ := Lib.hid (hz.below (bA0 w (.cells #[.slice (some ⟨c, o, none⟩) rs.length cap, .slice sl2 m cap2] 26)))
  have HT := Lib.hid (TabAt.new w (some ⟨c, o, none⟩) rs.length cap sl2 m cap2)
  clear hz
  generalize hN : rs.length = n at *
  have HN := Lib.hid hN
  clear hN
  have B0 := Lib.hid (bA0 w (.cells #[.slice (some ⟨c, o, none⟩) n cap, .slice sl2 m cap2] 26))
  go_enter Try.func30, Try.ntmps30
  go_wp2
  generalize (w.alloc (.cells #[.slice (some ⟨c, o, none⟩) n cap, .slice sl2 m cap2] 26)) = w0 at *
  go_loopw [5] (fun i wr => ∃ k : Nat, i = .int .i64 k ∧ k ≤ n ∧ Hid (NotIn (idsL rs) x k) ∧ Hid (Below w0.heap.size w0 wr)) (fun i _ => n - (intOf i).toNat)
  case atStart => exact ⟨0, rfl, Nat.zero_le _, fun i h => by omega, Below.refl _ _⟩
  case round =>
    obtain ⟨k, rfl, hk, H1, H2⟩ := hrel
    have hk0 : (0 : Int) ≤ (k : Int) := by omega
    obtain ⟨t0, t1⟩ := (HT.out.below H2.out).cells
    by_cases h1 : k < n
    · have h1' : (k : Int) < (n : Int) := by omega
      have hlt : k < rs.length := by rw [HN.out]; exact h1
      have eg := idsL_get rs k hlt
      obtain ⟨hc, -, -⟩ := (HZ.out.below H2.out).cell k hlt
      rw [← eg] at hc
      by_cases a4 : (idsL rs).getD k 0 = x
      · have HF := Lib.hid (posOf_hit (idsL rs) x k (by rw [idsL_len]; exact hlt) a4 H1.out)
        have a5 : ((idsL rs).getD k 0 == x) = true := by rw [beq_iff_eq]; exact a4
        clear hlt eg
        generalize (idsL rs).getD k 0 = z at *
        have BE := Lib.hid (B0.out.trans (H2.out.mono B0.out.size))
        go_wp2
        go_ret
        exact ⟨by rw [HF.out]; rfl, BE.out⟩
      · have HS : Hid (NotIn (idsL rs) x (k + 1)) := fun i h2 => by
          by_cases e : i = k
          · subst e; exact a4
          · exact H1.out i (by omega)
        have a5 : ((idsL rs).getD k 0 == x) = false := by rw [beq_eq_false_iff_ne]; exact a4
        clear hlt eg
        generalize (idsL rs).getD k 0 = z at *
        go_wp2
        go_roundw
        case rel => exact ⟨k + 1, by go_num, by omega, HS, H2⟩
        case measure => simp [intOf]; omega
    · have h1' : ¬ (k : Int) < (n : Int) := by omega
      have HE := Lib.hid (posOf_miss (notIn_mem (zs := idsL rs) (x := x) (by have := H1.out; rwa [show k = (idsL rs).length by rw [idsL_len, HN.out]; omega] at this)))
      have BE := Lib.hid (B0.out.trans (H2.out.mono B0.out.size))
      go_wp2
      go_ret
      exact ⟨by rw [HE.out]; rfl, BE.out⟩
theorem fd_any (sl : Option Addr) (cap : Nat) (sl2 : Option Addr) (m cap2 : Nat) (x : Int) (rs : List LSt) (w : World) (hn : rs.length ≤ 1048576) (hz : Sts w sl rs) :
    Calls Try.prog 30 #[TV sl rs.length cap sl2 m cap2, .int .i64 x] w fun e w' => e = .returned (.int .i64 (posOf (idsL rs) x)) ∧ Below w.heap.size w w' := by
  rcases hz.row with rfl | ⟨c, o, rfl, h⟩
  · exact fd_nil sl cap sl2 m cap2 x w
  · exact fd_some c o cap sl2 m cap2 x rs w hn h

/-- Numbers as values. -/
def valsZ (zs : List Int) : List Value := zs.map (Value.int .i64)
theorem own_cells {w : World} {B : Nat} {v : Value} {n : Nat} {xs : List Value} (h : w.ownsRow B 2 1 v n xs) (hn : 0 < n) :
    ∃ g cap, v = .slice (some ⟨g, 0, none⟩) n cap ∧ B ≤ g ∧ g < w.heap.size ∧ n ≤ cap ∧ cap ≤ maxLen ∧ ∀ j, j < n → w.cell? ⟨g, j, none⟩ = xs[j]? := by
  rcases h.2 with ⟨_, h0⟩ | ⟨g, cap, cur, hv, hb, hg, hcap, hmx, hcur, hx⟩
  · omega
  · refine ⟨g, cap, hv, hb, (Array.getElem?_eq_some_iff.1 hg).1, hcap, hmx, fun j hj => ?_⟩
    rw [← hx, List.getElem?_take_of_lt (by omega)]
    simp [World.cell?, hg]
theorem own_ints {w : World} {B : Nat} {v : Value} {zs : List Int} (h : w.ownsRow B 2 1 v zs.length (valsZ zs)) : ∃ sl cap, v = .slice sl zs.length cap ∧ Ints w sl zs := by
  by_cases hn : 0 < zs.length
  · obtain ⟨g, cap, rfl, _, hg, _, _, hc⟩ := own_cells h hn
    exact ⟨_, _, rfl, .inr ⟨g, 0, rfl, hg, fun i hi => by rw [Nat.zero_add, hc i hi]; simp [valsZ, hi]⟩⟩
  · have e : zs = [] := List.eq_nil_of_length_eq_zero (by omega)
    subst e
    rcases h.2 with ⟨hv, _⟩ | ⟨g, cap, cur, hv, _⟩
    · exact ⟨none, 0, hv, .inl rfl⟩
    · exact ⟨_, cap, hv, .inl rfl⟩
theorem own_below {B : Nat} {e : TypeId} {m : Nat} {v : Value} {n : Nat} {xs : List Value} {w w' : World} (h : w.ownsRow B e m v n xs) (hb : Below w.heap.size w w') : w'.ownsRow B e m v n xs := by
  refine ⟨h.1, ?_⟩
  rcases h.2 with h | ⟨g, cap, cur, hv, hg, hh, r⟩
  · exact .inl h
  · exact .inr ⟨g, cap, cur, hv, hg, (hb.block g (Array.getElem?_eq_some_iff.1 hh).1).trans hh, r⟩
theorem own_mono {w : World} {B B' : Nat} {e : TypeId} {m : Nat} {v : Value} {n : Nat} {xs : List Value} (h : w.ownsRow B e m v n xs) (hB : B' ≤ B) : w.ownsRow B' e m v n xs := by
  refine ⟨h.1, ?_⟩
  rcases h.2 with h | ⟨g, cap, cur, hv, hg, r⟩
  · exact .inl h
  · exact .inr ⟨g, cap, cur, hv, Nat.le_trans hB hg, r⟩
theorem own_v {B : Nat} {e : TypeId} {m : Nat} {w : World} {v : Value} {n : Nat} {xs : List Value} (h : w.ownsRow B e m v n xs) : ∃ sl cap, v = .slice sl n cap := by
  rcases h.2 with ⟨rfl, h0⟩ | ⟨g, cap, cur, rfl, _⟩
  · exact ⟨none, 0, by rw [h0]⟩
  · exact ⟨_, cap, rfl⟩

end Go.Proofs.Ytgfclllfkpblnaa
