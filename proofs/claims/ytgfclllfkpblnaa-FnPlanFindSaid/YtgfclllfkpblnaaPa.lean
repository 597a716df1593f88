/-
  PLANS: lists of places, and their Ids as both sides gather them.
-/
import Derived.Test.YtgfclllfkpblnaaAe
namespace Go.Proofs.Ytgfclllfkpblnaa
open Go.RowKit
set_option linter.unusedVariables false

/-- A place: an Id and a Channel. -/
abbrev LPl := Int × Int
/-- Places lie from cell o of block c on. -/
structure PlAt (w : World) (c o : Nat) (pl : List LPl) : Prop where
  lt : c < w.heap.size
  cell : ∀ i (h : i < pl.length), w.cell? ⟨c, o + i * 2, none⟩ = some (.int .i64 pl[i].1) ∧ w.cell? ⟨c, o + i * 2 + 1, none⟩ = some (.int .i64 pl[i].2)
/-- A slice of the places pl. -/
def Pls (w : World) (sl : Option Addr) (pl : List LPl) : Prop := pl = [] ∨ ∃ c o, sl = some ⟨c, o, none⟩ ∧ PlAt w c o pl
theorem PlAt.below {w w' : World} {c o : Nat} {pl : List LPl} (h : PlAt w c o pl) (hb : Below w.heap.size w w') : PlAt w' c o pl :=
  ⟨Nat.lt_of_lt_of_le h.lt hb.size, fun i hi => ⟨(hb.cell h.lt).trans (h.cell i hi).1, (hb.cell h.lt).trans (h.cell i hi).2⟩⟩
theorem Pls.below {w w' : World} {sl : Option Addr} {pl : List LPl} (h : Pls w sl pl) (hb : Below w.heap.size w w') : Pls w' sl pl := by
  rcases h with h | ⟨c, o, e, h⟩
  · exact .inl h
  · exact .inr ⟨c, o, e, h.below hb⟩
def pidsL (pl : List LPl) : List Int := pl.map fun p => p.1
theorem pidsL_len (pl : List LPl) : (pidsL pl).length = pl.length := by simp [pidsL]
theorem pidsL_step (pl : List LPl) (k : Nat) (h : k < pl.length) : valsZ ((pidsL pl).take k) ++ [.int .i64 pl[k].1] = valsZ ((pidsL pl).take (k + 1)) := by
  rw [List.take_add_one, show (pidsL pl)[k]? = some pl[k].1 by simp [pidsL, h]]
  simp [valsZ]
/-- The Ids as they stand; none, if they are too many. -/
def pidsA (pl : List LPl) : List Int := if pl.length ≤ 400 then pidsL pl else []
theorem pidsA_len (pl : List LPl) : (pidsA pl).length ≤ 400 := by
  unfold pidsA
  split
  · rw [pidsL_len]; assumption
  · exact Nat.zero_le _

/-- An empty row just made. -/
theorem own_none5 (w : World) : (w.alloc (.cells #[] 2)).ownsRow w.heap.size 2 1 (.slice (some ⟨w.heap.size, 0, none⟩) 0 0) 0 [] :=
  ⟨rfl, .inr ⟨w.heap.size, 0, #[], rfl, Nat.le_refl _, by show (w.heap.push _)[w.heap.size]? = _; simp, Nat.le_refl _, Nat.zero_le _, rfl, rfl⟩⟩

set_option maxHeartbeats 1000000 in
/-- impl.PlanIds. -/
theorem ipi_any (sl : Option Addr) (cap : Nat) (pl : List LPl) (w : World) (hn : pl.length ≤ maxLen) (hz : Pls w sl pl) :
    Calls Try.prog 11 #[.slice sl pl.length cap] w fun e w' => ∃ v, e = .returned v ∧ w'.ownsRow w.heap.size 2 1 v (pidsA pl).length (valsZ (pidsA pl)) ∧ Below w.heap.size w w' := by
  unfold maxLen at hn
  by_cases h4 : pl.length ≤ 400
  · rw [show pidsA pl = pidsL pl from if_pos h4]
    obtain ⟨i0, hi0, hz0, hz1, hz2⟩ := info_parts info2'
    have h4' : ¬ (400 : Int) < (pl.length : Int) := by omega
    have HZ := Lib.hid hz
    clear hz
    rw [pidsL_len]
    generalize hN : pl.length = n at *
    have HN := Lib.hid hN
    clear hN
    go_enter Try.func11, Try.ntmps11
    go_wp2
    go_loopw [3, 11] (fun v i wr => ∃ k : Nat, i = .int .i64 k ∧ k ≤ n ∧ Hid (wr.ownsRow w.heap.size 2 1 v k (valsZ ((pidsL pl).take k))) ∧ Hid (Below w.heap.size w wr)) (fun _ i _ => n - (intOf i).toNat)
    case atStart => exact ⟨0, rfl, Nat.zero_le _, ⟨rfl, .inl ⟨rfl, rfl⟩⟩, Below.refl _ _⟩
    case round =>
      obtain ⟨k, rfl, hk, H1, H2⟩ := hrel
      have hk0 : (0 : Int) ≤ (k : Int) := by omega
      by_cases h1 : k < n
      · have h1' : (k : Int) < (n : Int) := by omega
        have hlt : k < pl.length := by rw [HN.out]; exact h1
        obtain ⟨c, o, rfl, Z0⟩ : ∃ c o, sl = some ⟨c, o, none⟩ ∧ PlAt w c o pl := by
          rcases HZ.out with e | h
          · rw [e] at hlt; simp at hlt
          · exact h
        obtain ⟨hc, hc1⟩ := (Z0.below H2.out).cell k hlt
        have EV := Lib.hid (pidsL_step pl k hlt)
        generalize pl[k].1 = z at *
        generalize pl[k].2 = y at *
        clear hlt Z0
        have hown := Lib.hid (H1.out.alloc (.cells #[.int .i64 z, .int .i64 y] 62))
        have hs := H2.out.size
        go_wp2_with (first | (at_builtin; refine wpList_append_lies _ rfl (.tmp 15) (.tmp 18) 27 rfl w.heap.size 2 i0 (.int .i64 0) 1 8 Try.underlying27 hi0 hz0 hz1 hz2 rfl (by decide) _ _ _ rfl (hown.out.alloc _) ⟨wr.heap.size + 1, 0, none⟩ 1 1 [.int .i64 z] (by simp [Act.eval]) rfl (cell_one_new' _ _ _ _) (by intro u hu; simp at hu; subst hu; rfl) (by decide) (by unfold maxLen; omega) (by omega) (by simp; omega) (wr.heap.size + 2) (by simp) ?_))
        intro g9 cap9 w9 own9 grow9 hg9 hlt9
        have B9 := Lib.hid ((bA (bA H2.out (.cells #[.int .i64 z, .int .i64 y] 62)) (.cells #[.int .i64 z] 2)).grown grow9 (by simp; omega) (fun j hj => (hown.out.lt j hj).1))
        rw [EV.out] at own9
        have N9 := Lib.hid own9
        clear own9 grow9 hg9 hlt9 hown
        go_wp2
        go_roundw
        case rel => exact ⟨k + 1, by go_num, by omega, N9, B9⟩
        case measure => simp [intOf]; omega
      · have h1' : ¬ (k : Int) < (n : Int) := by omega
        have e : k = n := by omega
        have F := Lib.hid (show (pidsL pl).take k = pidsL pl from List.take_of_length_le (by rw [pidsL_len, HN.out]; omega))
        have H9 := H1.out
        rw [F.out, e] at H9
        have P := Lib.hid (And.intro H9 H2.out)
        clear H9 H1
        go_wp2
        go_ret
        exact ⟨_, rfl, P.out.1, P.out.2⟩
  · rw [show pidsA pl = [] from if_neg h4]
    have h4' : (400 : Int) < (pl.length : Int) := by omega
    clear hz
    generalize pl.length = n at *
    go_enter Try.func11, Try.ntmps11
    go_wp2
    go_ret
    exact ⟨_, rfl, ⟨rfl, .inl ⟨rfl, rfl⟩⟩, Below.refl _ _⟩


end Go.Proofs.Ytgfclllfkpblnaa
