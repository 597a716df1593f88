/-
  WHAT FnNear ASKS OF LISTS: alike, and holding a number.
-/
import Derived.Test.YtoekggjacifppaaBc
namespace Go.Proofs.Ytoekggjacifppaa
open Go.RowKit
set_option linter.unusedVariables false

set_option maxHeartbeats 400000 in
theorem lws_nil (sl sl2 : Option Addr) (cap cap2 : Nat) (w : World) :
    Calls Try.prog 15 #[.slice sl 0 cap, .slice sl2 0 cap2] w fun e w' => e = .returned (.bool true) ∧ Below w.heap.size w w' := by
  go_enter Try.func15, Try.ntmps15
  go_wp2
  refine wp_loop_rounds 1 ?_
  rw [rounds_succ]
  go_wp2
  go_ret
  exact ⟨rfl, Below.refl _ _⟩

set_option maxHeartbeats 1000000 in
theorem lws_some (c o cap c2 o2 cap2 : Nat) (zs : List Int) (w : World) (hn : zs.length ≤ maxLen) (hz : IntsAt w c o zs) (hz2 : IntsAt w c2 o2 zs) :
    Calls Try.prog 15 #[.slice (some ⟨c, o, none⟩) zs.length cap, .slice (some ⟨c2, o2, none⟩) zs.length cap2] w fun e w' => e = .returned (.bool true) ∧ Below w.heap.size w w' := by
  unfold maxLen at hn
  have HZ : Hid (IntsAt w c o zs ∧ IntsAt w c2 o2 zs) := ⟨hz, hz2⟩
  clear hz hz2
  generalize hN : zs.length = n at *
  have HN : Hid (zs.length = n) := hN
  clear hN
  go_enter Try.func15, Try.ntmps15
  go_wp2
  go_loopw [5] (fun i wr => ∃ (k : Nat), i = .int .i64 k ∧ k ≤ n ∧ Hid (Below w.heap.size w wr)) (fun i _ => n - (intOf i).toNat)
  case atStart => exact ⟨0, rfl, Nat.zero_le _, Below.refl _ _⟩
  case round =>
    obtain ⟨k, rfl, hk, H3⟩ := hrel
    have hk0 : (0 : Int) ≤ (k : Int) := by omega
    by_cases h1 : k < n
    · have h1' : (k : Int) < (n : Int) := by omega
      have hlt : k < zs.length := by rw [HN.out]; exact h1
      have hc : wr.cell? ⟨c, o + k, none⟩ = some (.int .i64 (zs.getD k 0)) := by
        rw [H3.out.cell HZ.out.1.1]; exact HZ.out.1.2 k hlt
      have hd : wr.cell? ⟨c2, o2 + k, none⟩ = some (.int .i64 (zs.getD k 0)) := by
        rw [H3.out.cell HZ.out.2.1]; exact HZ.out.2.2 k hlt
      clear hlt
      generalize zs.getD k 0 = z at *
      go_wp2
      go_quiet (fail)
      go_wp2
      go_roundw
      case rel => exact ⟨k + 1, by go_num, by omega, below_drewN H3.out _⟩
      case measure => simp [intOf]; omega
    · have h1' : ¬ (k : Int) < (n : Int) := by omega
      go_wp2
      go_ret
      exact ⟨rfl, H3.out⟩

theorem lws_any (sl sl2 : Option Addr) (cap cap2 : Nat) (zs : List Int) (w : World) (hn : zs.length ≤ maxLen) (hz : Ints w sl zs) (hz2 : Ints w sl2 zs) :
    Calls Try.prog 15 #[.slice sl zs.length cap, .slice sl2 zs.length cap2] w fun e w' => e = .returned (.bool true) ∧ Below w.heap.size w w' := by
  rcases hz with rfl | ⟨c, o, rfl, h⟩
  · exact lws_nil sl sl2 cap cap2 w
  · rcases hz2 with rfl | ⟨c2, o2, rfl, h2⟩
    · exact lws_nil _ sl2 cap cap2 w
    · exact lws_some c o cap c2 o2 cap2 zs w hn h h2

set_option maxHeartbeats 400000 in
theorem lwh_some (c o cap : Nat) (zs : List Int) (x : Int) (w : World) (hn : zs.length ≤ 1048576) (hz : IntsAt w c o zs) (hx : x ∈ zs) :
    Calls Try.prog 20 #[.slice (some ⟨c, o, none⟩) zs.length cap, .int .i64 x] w fun e w' => e = .returned (.bool true) ∧ w' = w := by
  have HZ := Lib.hid hz
  have HX := Lib.hid hx
  clear hz hx
  generalize hN : zs.length = n at *
  have HN := Lib.hid hN
  clear hN
  go_enter Try.func20, Try.ntmps20
  go_wp2
  go_loop [5] (fun i => ∃ k : Nat, i = .int .i64 k ∧ k ≤ n ∧ Hid (NotIn zs x k)) (fun i => n - (intOf i).toNat)
  case atStart => exact ⟨0, rfl, Nat.zero_le _, (fun i hi => absurd hi (Nat.not_lt_zero _))⟩
  case round =>
    obtain ⟨k, rfl, hk, H1⟩ := hrel
    have hk0 : (0 : Int) ≤ (k : Int) := by omega
    by_cases h1 : k < n
    · have h1' : (k : Int) < (n : Int) := by omega
      have hc := HZ.out.2 k (by rw [HN.out]; exact h1)
      by_cases a1 : zs.getD k 0 = x
      · have a1' : (zs.getD k 0 == x) = true := by simp only [a1, beq_self_eq_true]
        clear a1
        generalize zs.getD k 0 = z at *
        go_wp2
        go_ret
        exact ⟨rfl, rfl⟩
      · have HS : Hid (NotIn zs x (k + 1)) := fun i hi => by
          by_cases e : i = k
          · subst e; exact a1
          · exact H1.out i (by omega)
        have a1' : (zs.getD k 0 == x) = false := beq_eq_false_iff_ne.2 a1
        clear a1
        generalize zs.getD k 0 = z at *
        go_wp2
        go_round
        case rel => exact ⟨k + 1, by go_num, by omega, HS⟩
        case measure => simp [intOf]; omega
    · exact absurd HX.out (notIn_mem (by have := H1.out; rwa [show k = zs.length by rw [HN.out]; omega] at this))
theorem lwh_any (sl : Option Addr) (cap : Nat) (zs : List Int) (x : Int) (w : World) (hn : zs.length ≤ 1048576) (hz : Ints w sl zs) (hx : x ∈ zs) :
    Calls Try.prog 20 #[.slice sl zs.length cap, .int .i64 x] w fun e w' => e = .returned (.bool true) ∧ w' = w := by
  rcases hz with rfl | ⟨c, o, rfl, h⟩
  · simp at hx
  · exact lwh_some c o cap zs x w hn h hx

/-- Neighbours are neighbours of each other. -/
theorem near_back (rs : List LSt) (ps : List LPr) (id x : Int) (h : TabR rs ps) (hx : x ∈ nearA rs ps id) : id ∈ nearA rs ps x := by
  unfold nearA at *
  rw [B_yes h, if_pos rfl] at *
  rw [near_mem id x rs ps h] at hx
  rw [near_mem x id rs ps h]
  obtain ⟨p, hp, hx⟩ := hx
  exact ⟨p, hp, by rcases hx with ⟨a, b⟩ | ⟨a, b⟩ <;> simp_all⟩
/-- What a lower top lets through stands at the beginning of what a higher one does, where the channels rise. -/
theorem filter_begins (zs : List Int) (top : Int) (hr : zs.Pairwise (· < ·)) : (zs.filter (fun c => decide (c ≤ top + 1))).take (zs.filter (fun c => decide (c ≤ top))).length = zs.filter (fun c => decide (c ≤ top)) := by
  induction zs with
  | nil => rfl
  | cons z zs ih =>
    rw [List.pairwise_cons] at hr
    by_cases h : z ≤ top
    · have h' : z ≤ top + 1 := by omega
      simp [h, h', ih hr.2]
    · have e : zs.filter (fun c => decide (c ≤ top)) = [] := by
        rw [List.filter_eq_nil_iff]
        intro a ha
        have := hr.1 a ha
        simp; omega
      simp [List.filter_cons, h, e]

end Go.Proofs.Ytoekggjacifppaa
