/-
  A CLAUSE AS A LINE OF TEXT: spec.l07Line, and what may be told as a lemma: spec.l07Lemma.
-/
import Derived.Test.YtllaiigjkchahaaDoorBb
import Derived.Test.YtllaiigjkchahaaDoorAc
namespace Go.Proofs.YtllaiigjkchahaaDoor
open Go.RowKit Go.Lib
set_option linter.unusedVariables false

/-- A literal and a blank; a line; all lines. -/
def litB (n : Int) : List UInt8 := Lib.itoa n ++ [32]
def lineB (zs : List Int) : List UInt8 := zs.flatMap litB ++ [48, 10]
def allB (css : List (List Int)) : List UInt8 := css.flatMap lineB
/-- A literal that is small. -/
def SmallL (zs : List Int) : Prop := ∀ z ∈ zs, -96 ≤ z ∧ z ≤ 96
theorem dec_le (u : Nat) (h : u ≤ 96) : (Lib.decDigits u).length ≤ 20 := by
  by_cases h0 : u = 0
  · subst h0; rw [Lib.decDigits_one (by decide)]; decide
  · rw [Lib.decDigits_length]
    have := Lib.numDigits_eq u (by omega) (by omega)
    split at this <;> omega
theorem itoa_le (n : Int) (h : -96 ≤ n ∧ n ≤ 96) : (Lib.itoa n).length ≤ 21 := by
  unfold Lib.itoa
  split
  · simp only [List.length_cons]
    have := dec_le n.natAbs (by omega)
    omega
  · have := dec_le n.toNat (by omega)
    omega
theorem litB_le (n : Int) (h : -96 ≤ n ∧ n ≤ 96) : (litB n).length ≤ 22 := by
  have := itoa_le n h
  simp [litB]; omega
theorem lits_le (zs : List Int) (h : SmallL zs) : (zs.flatMap litB).length ≤ 22 * zs.length := by
  induction zs with
  | nil => simp
  | cons a r ih =>
    have h1 := litB_le a (h a (List.mem_cons_self ..))
    have h2 := ih (fun z hz => h z (List.mem_cons_of_mem _ hz))
    simp only [List.flatMap_cons, List.length_append, List.length_cons]
    omega
theorem lits_step (zs : List Int) (k : Nat) (h : k < zs.length) : (zs.take (k + 1)).flatMap litB = (zs.take k).flatMap litB ++ Lib.itoa (zs.getD k 0) ++ [32] := by
  rw [List.take_succ_eq_append_getElem h, List.flatMap_append]
  simp [litB, h]
theorem SmallL.take {zs : List Int} (h : SmallL zs) (k : Nat) : SmallL (zs.take k) := fun z hz => h z (List.mem_of_mem_take hz)

set_option maxRecDepth 100000 in
set_option maxHeartbeats 1000000 in
/-- spec.l07Line. -/
theorem line_any (sl : Option Addr) (cap : Nat) (zs : List Int) (w : World) (hl : zs.length ≤ 96) (hs : SmallL zs) (hz : Ints w sl zs) :
    Calls Tryd.prog 31 #[.slice sl zs.length cap] w fun e w' => e = .returned (.string ⟨(lineB zs).toArray⟩) ∧ Below w.heap.size w w' := by
  have HZ := Lib.hid hz
  have HS := Lib.hid hs
  clear hz hs
  generalize hN : zs.length = n at *
  have HN := Lib.hid hN
  clear hN
  go_enter Tryd.func31, Tryd.ntmps31
  go_wp2
  go_loopw [3, 4] (fun t i wr => ∃ (k : Nat) (l : List UInt8), i = .int .i64 k ∧ t = .string ⟨l.toArray⟩ ∧ k ≤ n ∧ l.length ≤ 22 * k ∧ Hid (l = (zs.take k).flatMap litB) ∧ Hid (Below w.heap.size w wr)) (fun _ i _ => n - (RowKit.intOf i).toNat)
  case atStart => exact ⟨0, [], rfl, rfl, Nat.zero_le _, Nat.zero_le _, rfl, Below.refl _ _⟩
  case round =>
    obtain ⟨k, l, rfl, rfl, hk, hll, HL, HB⟩ := hrel
    have hk0 : (0 : Int) ≤ (k : Int) := by omega
    by_cases g1 : k < n
    · have g1' : (k : Int) < (n : Int) := by omega
      have hlt : k < zs.length := by rw [HN.out]; exact g1
      obtain ⟨c, o, rfl, ZI⟩ : ∃ c o, sl = some ⟨c, o, none⟩ ∧ IntsAt w c o zs := by
        rcases HZ.out with e | h
        · rw [e] at hlt; simp at hlt
        · exact h
      have hc := (HB.out.cell (p := ⟨c, o + k, none⟩) ZI.1).trans (ZI.2 k hlt)
      have hz := HS.out (zs.getD k 0) (by rw [List.getD_eq_getElem?_getD, List.getElem?_eq_getElem hlt]; exact List.getElem_mem hlt)
      have E := Lib.hid (dec_any (zs.getD k 0) ⟨by omega, by omega⟩ wr)
      have ST := Lib.hid (lits_step zs k hlt)
      have hd := itoa_le _ hz
      clear hlt ZI
      generalize Lib.itoa (zs.getD k 0) = d at *
      generalize zs.getD k 0 = z at *
      go_wp2_with fail
      refine E.out.mono ?_
      rintro e w1 ⟨rfl, b1⟩
      have B1 := Lib.hid (bT HB.out b1)
      have NL : Hid (l ++ d ++ [32] = (zs.take (k + 1)).flatMap litB) := by rw [HL.out]; exact Lib.hid ST.out.symm
      clear b1 E HL ST
      go_wp2
      go_roundw
      case rel => exact ⟨k + 1, l ++ d ++ [32], by go_num, by rw [ba_app l d, ba_app (l ++ d) [32]], by omega, by simp; omega, NL, B1⟩
      case measure => simp [RowKit.intOf]; omega
    · have g1' : ¬ (k : Int) < (n : Int) := by omega
      have NL : Hid (l ++ [48, 10] = lineB zs) := by
        rw [HL.out, List.take_of_length_le (by rw [HN.out]; omega)]; exact Lib.hid rfl
      clear HL
      go_wp2
      go_ret
      exact ⟨by rw [← NL.out, ← ba_app l [48, 10]]; rfl, HB.out⟩
set_option maxHeartbeats 1000000 in
/-- spec.l01Has. -/
theorem lhd_any (sl : Option Addr) (cap : Nat) (zs : List Int) (x : Int) (w : World) (hn : zs.length ≤ maxLen) (hz : Ints w sl zs) :
    Calls Tryd.prog 42 #[.slice sl zs.length cap, .int .i64 x] w fun e w' => e = .returned (.bool (B (x ∈ zs))) ∧ w' = w := by
  unfold maxLen at hn
  have HZ := Lib.hid hz
  clear hz
  generalize hR : B (x ∈ zs) = r
  have HR := Lib.hid hR
  clear hR
  generalize hN : zs.length = n at *
  have HN := Lib.hid hN
  clear hN
  go_enter Tryd.func42, Tryd.ntmps42
  go_wp2
  go_loopw [5] (fun i wr => ∃ k : Nat, i = .int .i64 k ∧ k ≤ n ∧ Hid (NotIn zs x k) ∧ wr = w) (fun i _ => n - (RowKit.intOf i).toNat)
  case atStart => exact ⟨0, rfl, Nat.zero_le _, fun i h => absurd h (Nat.not_lt_zero _), rfl⟩
  case round =>
    obtain ⟨k, rfl, hk, NI, rfl⟩ := hrel
    have hk0 : (0 : Int) ≤ (k : Int) := by omega
    by_cases h1 : k < n
    · have h1' : (k : Int) < (n : Int) := by omega
      have hlt : k < zs.length := by rw [HN.out]; exact h1
      obtain ⟨c, o, rfl, ZI⟩ : ∃ c o, sl = some ⟨c, o, none⟩ ∧ IntsAt wr c o zs := by
        rcases HZ.out with e | h
        · rw [e] at hlt; simp at hlt
        · exact h
      have hc := ZI.2 k hlt
      by_cases hx : zs.getD k 0 = x
      · have R := Lib.hid (show r = true by rw [← HR.out]; exact B_yes (by rw [← hx]; simp [hlt]))
        have hx' : (zs.getD k 0 == x) = true := beq_iff_eq.2 hx
        generalize zs.getD k 0 = z at *
        clear hlt ZI hx
        go_wp2
        go_ret
        exact ⟨by rw [R.out]; rfl, rfl⟩
      · have hx' : (zs.getD k 0 == x) = false := beq_eq_false_iff_ne.2 hx
        have NI2 := Lib.hid (show NotIn zs x (k + 1) from fun i hi => by
          by_cases e : i = k
          · subst e; exact hx
          · exact NI.out i (by omega))
        generalize zs.getD k 0 = z at *
        clear hlt ZI hx NI
        go_wp2
        go_roundw
        case rel => exact ⟨k + 1, by go_num, by omega, NI2, trivial⟩
        case measure => simp [RowKit.intOf]; omega
    · have h1' : ¬ (k : Int) < (n : Int) := by omega
      have R := Lib.hid (show r = false by
        rw [← HR.out]
        refine B_no (notIn_mem ?_)
        have := NI.out
        rwa [show k = zs.length by rw [HN.out]; omega] at this)
      clear NI
      go_wp2
      go_ret
      exact ⟨by rw [R.out]; rfl, rfl⟩

/-- What may be told as a lemma. -/
noncomputable def lemB (zs : List Int) : Bool := decide (zs.length ≤ 96) && zs.all (inB (-96) 96) && !(B ((0 : Int) ∈ zs))
theorem lemB_len {zs : List Int} (h : lemB zs = true) : zs.length ≤ 96 := by
  unfold lemB at h
  simp only [Bool.and_eq_true, decide_eq_true_eq] at h
  exact h.1.1
theorem lemB_small {zs : List Int} (h : lemB zs = true) : SmallL zs := fun z hz => by
  unfold lemB at h
  simp only [Bool.and_eq_true, decide_eq_true_eq] at h
  have := List.all_eq_true.1 h.1.2 z hz
  simpa [inB] using this
set_option maxRecDepth 100000 in
set_option maxHeartbeats 1000000 in
/-- spec.l07Lemma. -/
theorem slem_any (sl : Option Addr) (cap : Nat) (zs : List Int) (w : World) (hl : zs.length ≤ maxLen) (hz : Ints w sl zs) :
    Calls Tryd.prog 30 #[.slice sl zs.length cap] w fun e w' => e = .returned (.bool (lemB zs)) ∧ w' = w := by
  have E1 := Lib.hid (l01All_any (-96) 96 sl cap zs w hl hz)
  have E2 := Lib.hid (lhd_any sl cap zs 0 w hl hz)
  have hm := hl
  unfold maxLen at hm
  by_cases h1 : zs.length ≤ 96
  · have h1' : (zs.length : Int) ≤ 96 := by omega
    have LB : lemB zs = (zs.all (inB (-96) 96) && !(B ((0 : Int) ∈ zs))) := by unfold lemB; rw [decide_eq_true h1, Bool.true_and]
    rw [LB]
    clear LB hz
    generalize zs.all (inB (-96) 96) = a at *
    generalize B ((0 : Int) ∈ zs) = c at *
    generalize zs.length = n at *
    go_enter Tryd.func30, Tryd.ntmps30
    cases a with
    | true =>
      go_wp2_with (first | (go_at_call 41; refine E1.out.mono ?_; rintro e w1 ⟨rfl, rfl⟩) | (go_at_call 42; refine E2.out.mono ?_; rintro e w1 ⟨rfl, rfl⟩))
      go_ret
      exact ⟨by simp, rfl⟩
    | false =>
      go_wp2_with (first | (go_at_call 41; refine E1.out.mono ?_; rintro e w1 ⟨rfl, rfl⟩) | (go_at_call 42; refine E2.out.mono ?_; rintro e w1 ⟨rfl, rfl⟩))
      go_ret
      exact ⟨by simp, rfl⟩
  · have h1' : ¬ (zs.length : Int) ≤ 96 := by omega
    have LB : lemB zs = false := by unfold lemB; rw [decide_eq_false h1]; rfl
    rw [LB]
    clear LB hz E1 E2
    generalize zs.length = n at *
    go_enter Tryd.func30, Tryd.ntmps30
    go_wp2
    go_ret
    exact ⟨by simp, rfl⟩
end Go.Proofs.YtllaiigjkchahaaDoor
