/-
  LISTS OF NUMBERS: how they lie, that all are in bounds, how they are copied and held against each other.
  LISTS THAT RISE, a station that is right, an Id among others.
  HOW A TABLE LIES: its stations and pairs; an Id is sought.
  AN ID IS SOUGHT IN A TABLE; the Ids as they stand.
  THE IDS AS THEY STAND, as the program gathers them.
  THE LAWS' TABLES: their sizes.
  THE LAWS' TABLES: copied into tables of the program.
  THE LAWS' CLAUSES: how they lie; their size; copied, held against each other.
-/
import Derived.Test.YtoobcodlgajieaaDoorUaf
import Derived.Test.YtoobcodlgajieaaDoorUae
import Derived.Test.YtoobcodlgajieaaDoorVad
import Derived.Test.YtoobcodlgajieaaDoorVac
import Derived.Test.YtoobcodlgajieaaDoorVab
import Derived.Test.YtoobcodlgajieaaDoorUaa
import Derived.Test.YtoobcodlgajieaaDoorVaa
import Derived.Test.YtoobcodlgajieaaDoorRows
import Derived.WalkKit
import Derived.WalkSpells
import Derived.WalkLawsBesides
import Derived.Laws.EntriesVeiled
import Derived.Deep.QuietTactic
import Derived.BigQuiet
import Derived.Lib.Hide
import Derived.Laws.AppendOwn
import Derived.Deep.AppendLies
import Derived.WalkSmall
import Derived.OwnWalk
import Derived.Deep.RegionHeldLaw
namespace Go.Proofs.YtoobcodlgajieaaDoor
open Go.RowKit
set_option linter.unusedVariables false

set_option maxHeartbeats 400000 in
theorem to_nil (sl : Option Addr) (cap : Nat) (w : World) :
    Calls Tryd.prog 27 #[.slice sl 0 cap] w fun e w' => e = .returned (.slice (some ⟨w.heap.size, 0, none⟩) 0 0) ∧ Below w.heap.size w w' := by
  have hmk : ∀ w : World, Sem.run Tryd.prog (Instr.makeSlice 26 (.int .i64 0) (.int .i64 0)) w = .ok (.slice (some ⟨w.heap.size, 0, none⟩) 0 0) (w.alloc (.cells (mk64 0) 2)) := fun w => make64 0 (by omega) w
  go_enter Tryd.func27, Tryd.ntmps27
  go_wp2
  refine wp_loop_rounds 1 ?_
  rw [rounds_succ]
  go_wp2
  go_ret
  exact ⟨rfl, bA0 _ _⟩

set_option maxHeartbeats 1000000 in
theorem to_some (c o cap : Nat) (zs : List Int) (w : World) (hn : zs.length ≤ 1048576) (hz : IntsAt w c o zs) :
    Calls Tryd.prog 27 #[.slice (some ⟨c, o, none⟩) zs.length cap] w fun e w' => e = .returned (.slice (some ⟨w.heap.size, 0, none⟩) zs.length zs.length) ∧ IntsAt w' w.heap.size 0 zs ∧ Below w.heap.size w w' := by
  have hmk := make64 zs.length hn
  have HZ : Hid (IntsAt w c o zs) := hz
  have HK : Hid (mk64 zs.length = vsOf zs 0) := mk64_eq zs
  clear hz
  generalize hN : zs.length = n at *
  have HN : Hid (zs.length = n) := hN
  clear hN
  go_enter Tryd.func27, Tryd.ntmps27
  go_wp2
  go_loopw [4] (fun i wr => ∃ (k : Nat), i = .int .i64 k ∧ k ≤ n ∧ Hid (Below w.heap.size w wr) ∧ Hid (RowAt wr w.heap.size (vsOf zs k))) (fun i _ => n - (intOf i).toNat)
  case atStart =>
    refine ⟨0, rfl, Nat.zero_le _, bA0 _ _, ?_⟩
    show (w.heap.push _)[w.heap.size]? = _
    simp [HK.out]
  case round =>
    obtain ⟨k, rfl, hk, H3, H4⟩ := hrel
    have hk0 : (0 : Int) ≤ (k : Int) := by omega
    by_cases h1 : k < n
    · have h1' : (k : Int) < (n : Int) := by omega
      have hlt : k < zs.length := by rw [HN.out]; exact h1
      have hc : wr.cell? ⟨c, o + k, none⟩ = some (.int .i64 (zs.getD k 0)) := by
        rw [H3.out.cell HZ.out.1]; exact HZ.out.2 k hlt
      have hd : wr.cell? ⟨w.heap.size, k, none⟩ = some (.int .i64 0) := by rw [H4.out.cell]; exact vs_at zs k hlt
      have hf := H4.out.frozen k
      have H5 : Hid (RowAt (wr.setCell ⟨w.heap.size, k, none⟩ (.int .i64 (zs.getD k 0))) w.heap.size (vsOf zs (k + 1))) := by
        show RowAt _ _ _
        rw [← vs_step zs k hlt]; exact H4.out.set k _
      clear hlt
      generalize zs.getD k 0 = z at *
      go_wp2
      go_roundw
      case rel => exact ⟨k + 1, by go_num, by omega, H3.out.setCell (Nat.le_refl _) _, H5⟩
      case measure => simp [intOf]; omega
    · have h1' : ¬ (k : Int) < (n : Int) := by omega
      have H6 : Hid (IntsAt wr w.heap.size 0 zs) := H4.out.ints (by rw [HN.out]; omega)
      go_wp2
      go_ret
      exact ⟨rfl, H6.out, H3.out⟩

theorem to_any (sl : Option Addr) (cap : Nat) (zs : List Int) (w : World) (hn : zs.length ≤ 1048576) (hz : Ints w sl zs) :
    Calls Tryd.prog 27 #[.slice sl zs.length cap] w fun e w' => e = .returned (.slice (some ⟨w.heap.size, 0, none⟩) zs.length zs.length) ∧ Ints w' (some ⟨w.heap.size, 0, none⟩) zs ∧ Below w.heap.size w w' := by
  rcases hz with rfl | ⟨c, o, rfl, h⟩
  · refine (to_nil sl cap w).mono ?_
    rintro e w' ⟨rfl, hb⟩
    exact ⟨rfl, .inl rfl, hb⟩
  · refine (to_some c o cap zs w hn h).mono ?_
    rintro e w' ⟨rfl, hi, hb⟩
    exact ⟨rfl, .inr ⟨_, _, rfl, hi⟩, hb⟩

end Go.Proofs.YtoobcodlgajieaaDoor
namespace Go.Proofs.YtoobcodlgajieaaDoor
open Go.RowKit
set_option linter.unusedVariables false

end Go.Proofs.YtoobcodlgajieaaDoor
namespace Go.Proofs.YtoobcodlgajieaaDoor
open Go.RowKit
set_option linter.unusedVariables false

end Go.Proofs.YtoobcodlgajieaaDoor
namespace Go.Proofs.YtoobcodlgajieaaDoor
open Go.RowKit
set_option linter.unusedVariables false

end Go.Proofs.YtoobcodlgajieaaDoor
namespace Go.Proofs.YtoobcodlgajieaaDoor
open Go.RowKit
set_option linter.unusedVariables false

end Go.Proofs.YtoobcodlgajieaaDoor
namespace Go.Proofs.YtoobcodlgajieaaDoor
open Go.RowKit
set_option linter.unusedVariables false

end Go.Proofs.YtoobcodlgajieaaDoor
namespace Go.Proofs.YtoobcodlgajieaaDoor
open Go.RowKit
set_option linter.unusedVariables false

end Go.Proofs.YtoobcodlgajieaaDoor
namespace Go.Proofs.YtoobcodlgajieaaDoor
open Go.RowKit
set_option linter.unusedVariables false

set_option maxRecDepth 100000 in
set_option maxHeartbeats 1000000 in
/-- toInt64SS. -/
theorem toL_any (sl : Option Addr) (cap : Nat) (cs : List LCl) (w : World) (hn : cs.length ≤ 1048576) (hs : totC cs ≤ 1048576) (hz : Cls w sl cs) :
    Calls Tryd.prog 26 #[.slice sl cs.length cap] w fun e w' => ∃ cs' : List LCl, e = .returned (.slice (some ⟨w.heap.size, 0, none⟩) cs.length cs.length) ∧ bareC cs' = bareC cs ∧ RowV w' w.heap.size cs.length (cs'.map fun r => r.1) ∧ (∀ r ∈ cs', ClOut w.heap.size w' r) ∧ Below w.heap.size w w' := by
  have HZ := Lib.hid hz
  have HS := Lib.hid (fun r hr => Nat.le_trans (totC_mem cs r hr) hs)
  clear hz hs
  obtain ⟨vs, hmk, hr0⟩ := make40 cs.length hn w
  have R0 := Lib.hid hr0
  clear hr0
  generalize hN : cs.length = n at *
  have HN := Lib.hid hN
  clear hN
  go_enter Tryd.func26, Tryd.ntmps26
  go_wp2
  go_loopw [4] (fun i wr => ∃ (k : Nat) (cs' : List LCl), i = .int .i64 k ∧ k ≤ n ∧ Hid (bareC cs' = bareC (cs.take k)) ∧ Hid (RowV wr w.heap.size n (cs'.map fun r => r.1)) ∧ Hid (∀ r ∈ cs', ClOut w.heap.size wr r) ∧ Hid (Below w.heap.size w wr)) (fun i _ => n - (intOf i).toNat)
  case atStart => exact ⟨0, [], rfl, Nat.zero_le _, rfl, R0, (fun r hr => by cases hr), bA0 _ _⟩
  case round =>
    obtain ⟨k, cs', rfl, hk, EB, R1, DO, H2⟩ := hrel
    have hk0 : (0 : Int) ≤ (k : Int) := by omega
    by_cases c1 : k < n
    · have c1' : (k : Int) < (n : Int) := by omega
      have hlt : k < cs.length := by rw [HN.out]; exact c1
      obtain ⟨c, o, rfl, Z0⟩ := HZ.out.at hlt
      have hc := (Z0.below H2.out).2 k hlt
      obtain ⟨sld, capd, ed, hi, hdl⟩ := (HZ.out.each cs[k] (List.getElem_mem hlt)).below (show Below w.heap.size w wr from H2.out)
      have hsm := HS.out cs[k] (List.getElem_mem hlt)
      obtain ⟨v, zs, hp⟩ : ∃ v zs, cs[k] = (v, zs) := ⟨_, _, rfl⟩
      rw [hp] at hc ed hi hdl hsm
      dsimp only at hc ed hi hdl hsm
      rw [ed] at hc
      have EBn := Lib.hid (show ∀ v', bareC (cs' ++ [(v', zs)]) = bareC (cs.take (k + 1)) by
        intro v'
        rw [List.take_add_one, List.getElem?_eq_getElem hlt, hp]
        have := EB.out
        unfold bareC at this ⊢
        rw [List.map_append, this]
        simp)
      have LT := Lib.hid (show k = (cs'.map fun r => r.1).length by
        have := congrArg List.length EB.out
        simp only [bareC, List.length_map, List.length_take] at this ⊢
        omega)
      have LN := Lib.hid (show (cs'.map fun r => r.1).length < n by rw [← LT.out]; exact c1)
      have E := Lib.hid (to_any sld capd zs wr hsm hi)
      have HDL := Lib.hid hsm
      have hws := H2.out.size
      clear hp hlt ed hi hdl hsm Z0
      generalize hq : zs.length = q at *
      have HQ := Lib.hid hq
      clear hq
      go_wp2_with fail
      refine E.out.mono ?_
      rintro e w5 ⟨rfl, i5, b5⟩
      have D5 := Lib.hid (bT H2.out b5)
      have R5 := Lib.hid (R1.out.below b5)
      have hb1 := R1.out.lt
      obtain ⟨⟨v0, g0⟩, f0⟩ := R5.out.there k (by omega)
      have R6 := Lib.hid (R5.out.step LN.out (.slice (some ⟨wr.heap.size, 0, none⟩) q q) k LT.out)
      have D6 : Hid (Below w.heap.size w (w5.setCell ⟨w.heap.size, k, none⟩ (.slice (some ⟨wr.heap.size, 0, none⟩) q q))) := D5.out.setCell (Nat.le_refl _) _
      have R7 : Hid (RowV (w5.setCell ⟨w.heap.size, k, none⟩ (.slice (some ⟨wr.heap.size, 0, none⟩) q q)) w.heap.size n ((cs' ++ [(Value.slice (some ⟨wr.heap.size, 0, none⟩) q q, zs)]).map fun r => r.1)) := by
        rw [List.map_append]; exact R6.out
      have DN : Hid (∀ r ∈ cs' ++ [(Value.slice (some ⟨wr.heap.size, 0, none⟩) q q, zs)], ClOut w.heap.size (w5.setCell ⟨w.heap.size, k, none⟩ (.slice (some ⟨wr.heap.size, 0, none⟩) q q)) r) := fun r hr => by
        refine ClOut.set ?_ (Nat.le_refl _) _ _
        rcases List.mem_append.1 hr with hr | hr
        · exact (DO.out r hr).below b5
        · simp at hr; subst hr
          exact ⟨wr.heap.size, by rw [HQ.out], i5, by omega, by rw [HQ.out]; exact HDL.out⟩
      have EB7 := Lib.hid (EBn.out (.slice (some ⟨wr.heap.size, 0, none⟩) q q))
      clear b5 R1 R5 R6 EBn LT LN i5 DO E EB
      go_wp2_with fail
      go_roundw
      case rel => exact ⟨k + 1, _, by go_num, by omega, EB7, R7, DN, D6⟩
      case measure => simp [intOf]; omega
    · have c1' : ¬ (k : Int) < (n : Int) := by omega
      have P := Lib.hid (show bareC cs' = bareC cs by have := EB.out; rwa [List.take_of_length_le (by rw [HN.out]; omega)] at this)
      go_wp2
      go_ret
      exact ⟨rfl, cs', P.out, R1.out, fun a b h => DO.out (a, b) h, H2.out⟩

end Go.Proofs.YtoobcodlgajieaaDoor
