/-
  A TOP AND IDS, DRAWN: l05Top, l05Ids.
  THE SEARCH FOR A PLAN, as lists: by recursion (seek, tryL), and as the loop that goes back (unw, fin).
  THE LOOP THAT SEEKS A PLAN: impl.tryChoices.
  THE SEARCH FOR A PLAN AS THE MODEL MAKES IT: spec's from, by its depth.
  A PLAN IS SOUGHT: spec.PlanFind.
  THE LAW 13: the walk.
  WHAT A SEARCH ANSWERS IS HELD AGAINST ANOTHER, marked and held: eqPlanOut, markPlanOut, heldPlanOut.
  A PLACE PUT INTO A ROW: slices.Clone and slices.Insert at places.
  A TABLE, A TOP, A PLAN AND AN ID, DRAWN: DrawPlanAdd.
  PLACES COPIED AND COMPARED: lwPlaces, lwPlan.
  NUMBERS COPIED AND COMPARED, AND LISTS OF THEM: lwCopy, lwSame, lwLists.
-/
import Derived.Test.YtaogkdhloogmhaaHam
import Derived.Test.YtaogkdhloogmhaaHae
import Derived.Test.YtaogkdhloogmhaaHag
import Derived.Test.YtaogkdhloogmhaaHaf
import Derived.WalkMore
import Derived.Test.YtaogkdhloogmhaaHah
import Derived.Lib.AppendZeros
import Derived.Test.YtaogkdhloogmhaaHak
import Derived.Shelf.RegionOpenPlain
import Derived.Lib.Overlaps
import Derived.Lib.SliceRun
import Derived.Laws.Externs
import Derived.Test.YtaogkdhloogmhaaHaj
import Derived.Test.YtaogkdhloogmhaaHan
import Derived.Test.YtaogkdhloogmhaaHai
namespace Go.Proofs.Ytaogkdhloogmhaa
open Go.RowKit
set_option linter.unusedVariables false

set_option maxHeartbeats 1000000 in
/-- spec.l05Top. -/
theorem top_any (B b : Nat) (w : World) (hs : SrcB B w b) :
    Calls Try.prog 16 #[.pointer (some ⟨b, 0, none⟩)] w fun e w' => ∃ v : Int, e = .returned (.int .i64 v) ∧ SrcB B w' b ∧ Only b w w' := by
  have HS := Lib.hid hs
  clear hs
  go_enter Try.func16, Try.ntmps16
  go_wp2_with fail
  refine (oneB_any B b 12 _ (by decide) HS.out).mono ?_
  rintro e w1 ⟨t, rfl, s1, o1⟩
  have H1 : Hid (SrcB B w1 b ∧ Only b w w1) := ⟨s1, o1⟩
  clear s1 o1 HS
  cases t with
  | true =>
    go_wp2_with fail
    refine (edgeB_any B b _ H1.out.1).mono ?_
    rintro e w2 ⟨v, rfl, -, s2, o2⟩
    have H2 : Hid (SrcB B w2 b ∧ Only b w w2) := ⟨s2, H1.out.2.trans o2⟩
    clear s2 o2 H1
    go_wp2
    go_ret
    exact ⟨_, rfl, H2.out⟩
  | false =>
    go_wp2_with fail
    refine (nB_lt B b 6 _ (by decide) (by decide) H1.out.1).mono ?_
    rintro e w2 ⟨r, rfl, r1, r2, s2, o2⟩
    have H2 : Hid (SrcB B w2 b ∧ Only b w w2) := ⟨s2, H1.out.2.trans o2⟩
    clear s2 o2 H1
    go_wp2
    go_ret
    exact ⟨_, rfl, H2.out⟩

set_option maxRecDepth 100000 in
set_option maxHeartbeats 4000000 in
/-- spec.l05Ids. -/
theorem lids_any (B b : Nat) (sl : Option Addr) (cap : Nat) (sl2 : Option Addr) (m cap2 : Nat) (rs : List LSt) (w : World) (hn : rs.length ≤ 14) (hs : SrcB B w b) (ht : ∀ W, Only b w W → Sts W sl rs) :
    Calls Try.prog 17 #[.pointer (some ⟨b, 0, none⟩), TV sl rs.length cap sl2 m cap2] w fun e w' => ∃ v zs, e = .returned v ∧ List.length zs ≤ 15 ∧ w'.ownsRow w.heap.size 2 1 v zs.length (valsZ zs) ∧ SrcB B w' b ∧ Only b w w' := by
  obtain ⟨i0, hi0, hz0, hz1, hz2⟩ := info_parts info2'
  have hb : b < w.heap.size := Nat.lt_of_lt_of_le hs.1 hs.2.1
  have hBw : B ≤ w.heap.size := hs.2.1
  have HT0 := Lib.hid (TabAt.new w sl rs.length cap sl2 m cap2)
  have hM : (w.alloc (.cells #[.slice sl rs.length cap, .slice sl2 m cap2] 26)).heap.size = w.heap.size + 1 := by simp
  have BA := Lib.hid (bA0 w (.cells #[.slice sl rs.length cap, .slice sl2 m cap2] 26))
  have BB := Lib.hid (bA0 (w.alloc (.cells #[.slice sl rs.length cap, .slice sl2 m cap2] 26)) (.cells #[] 2))
  have O0 := Lib.hid (own_none5 (w.alloc (.cells #[.slice sl rs.length cap, .slice sl2 m cap2] 26)))
  rw [hM] at O0
  have KT : Hid (∀ W, Only b (w.alloc (.cells #[.slice sl rs.length cap, .slice sl2 m cap2] 26)) W → w.heap.size < W.heap.size ∧ W.cell? ⟨w.heap.size, 0, none⟩ = some (.slice sl rs.length cap) ∧ W.cell? ⟨w.heap.size, 1, none⟩ = some (.slice sl2 m cap2)) := fun W hW => by
    have : TabAt W w.heap.size sl rs.length cap sl2 m cap2 := (hW.block w.heap.size HT0.out.lt (by omega)).trans HT0.out
    exact ⟨this.lt, this.cells⟩
  have OX : Hid (∀ W, Only b (w.alloc (.cells #[.slice sl rs.length cap, .slice sl2 m cap2] 26)) W → Only b w W) := fun W hW => (Only.of_below BA.out).trans hW
  have TX : Hid (∀ W, Only b (w.alloc (.cells #[.slice sl rs.length cap, .slice sl2 m cap2] 26)) W → Sts W sl rs) := fun W hW => ht W (OX.out W hW)
  have S0 : Hid (SrcB B ((w.alloc (.cells #[.slice sl rs.length cap, .slice sl2 m cap2] 26)).alloc (.cells #[] 2)) b) := (hs.below BA.out).below BB.out
  have N0 : Hid (Only b (w.alloc (.cells #[.slice sl rs.length cap, .slice sl2 m cap2] 26)) ((w.alloc (.cells #[.slice sl rs.length cap, .slice sl2 m cap2] 26)).alloc (.cells #[] 2))) := Only.of_below BB.out
  have SZ : Hid (∀ W, Only b (w.alloc (.cells #[.slice sl rs.length cap, .slice sl2 m cap2] 26)) W → w.heap.size + 1 ≤ W.heap.size) := fun W hW => by have := hW.size; rw [hM] at this; exact this
  have GR : Hid (∀ W W' row, Only b (w.alloc (.cells #[.slice sl rs.length cap, .slice sl2 m cap2] 26)) W → W.grownBy W' row → (∀ j, row = some j → w.heap.size + 1 ≤ j) → Only b (w.alloc (.cells #[.slice sl rs.length cap, .slice sl2 m cap2] 26)) W') := fun W W' row h1 h2 h3 => h1.grown h2 (fun g hg => by rw [hM]; exact h3 g hg)
  clear hs ht HT0 BA BB hM
  generalize hN : rs.length = n at *
  have HN := Lib.hid hN
  clear hN
  go_enter Try.func17, Try.ntmps17
  go_wp2
  generalize (w.alloc (.cells #[.slice sl n cap, .slice sl2 m cap2] 26)).alloc (.cells #[] 2) = w2 at *
  generalize w.alloc (.cells #[.slice sl n cap, .slice sl2 m cap2] 26) = wA at *
  go_loopw [5, 6] (fun v i wr => ∃ (k : Nat) (zs : List Int), i = .int .i64 k ∧ k ≤ n ∧ zs.length ≤ k ∧ Hid (wr.ownsRow (w.heap.size + 1) 2 1 v zs.length (valsZ zs)) ∧ Hid (SrcB B wr b) ∧ Hid (Only b wA wr)) (fun _ i _ => n - (intOf i).toNat)
  case atStart => exact ⟨0, [], rfl, Nat.zero_le _, Nat.le_refl _, O0, S0, N0⟩
  case round =>
    obtain ⟨k, zs, rfl, hk, hzk, OW, SW, NW⟩ := hrel
    clear O0 S0 N0
    have hk0 : (0 : Int) ≤ (k : Int) := by omega
    obtain ⟨q0, q1, q2⟩ := KT.out _ NW.out
    by_cases h1 : k < n
    · have h1' : (k : Int) < (n : Int) := by omega
      go_wp2_with fail
      refine (oneB_any B b 4 wr (by decide) SW.out).mono ?_
      rintro e wq ⟨t, rfl, sq, oq⟩
      have SQ := Lib.hid sq
      have NQ := Lib.hid (NW.out.trans oq)
      have OQ := Lib.hid (own_only OW.out oq (by omega))
      clear sq oq OW SW NW q0 q1 q2
      cases t with
      | true =>
        go_wp2
        go_roundw
        case rel => exact ⟨k + 1, zs, by go_num, by omega, by omega, OQ, SQ, NQ⟩
        case measure => simp [intOf]; omega
      | false =>
        obtain ⟨q0, q1, q2⟩ := KT.out _ NQ.out
        have hlt : k < rs.length := by rw [HN.out]; exact h1
        obtain ⟨c, o, rfl, ST⟩ : ∃ c o, sl = some ⟨c, o, none⟩ ∧ StAt wq c o rs := by
          rcases (TX.out _ NQ.out).1 with e | h
          · rw [e] at hlt; simp at hlt
          · exact h
        obtain ⟨c0, -, -⟩ := ST.cell k hlt
        have cl := ST.lt
        generalize rs[k].1 = z at *
        have hs9 := SZ.out _ NQ.out
        clear ST hlt
        go_wp2_with (first | (at_builtin; refine wpList_append_lies _ rfl (.tmp 18) (.tmp 25) 27 rfl (w.heap.size + 1) 2 i0 (.int .i64 0) 1 8 Try.underlying27 hi0 hz0 hz1 hz2 rfl (by decide) _ _ _ rfl (OQ.out.alloc _) ⟨wq.heap.size, 0, none⟩ 1 1 [.int .i64 z] rfl rfl (cell_one_new _ _ _) (by intro u hu; simp at hu; subst hu; rfl) (by decide) (by unfold maxLen; omega) (by omega) (by simp; omega) (wq.heap.size + 1) (by simp) ?_))
        intro g9 cap9 w9 own9 grow9 hg9 hlt9
        have N9 := Lib.hid (GR.out _ _ _ (NQ.out.trans (Only.of_below (bA0 wq (.cells #[.int .i64 z] 2)))) grow9 (fun j hj => (OQ.out.lt j hj).1))
        have S9 := Lib.hid ((SQ.out.below (bA0 wq (.cells #[.int .i64 z] 2))).grown grow9 (fun j hj => by have := (OQ.out.lt j hj).1; omega))
        have O9 : Hid (w9.ownsRow (w.heap.size + 1) 2 1 (.slice (some ⟨g9, 0, none⟩) (zs.length + 1) cap9) (zs ++ [z]).length (valsZ (zs ++ [z]))) := by
          show World.ownsRow _ _ _ _ _ _ _
          have := own9
          rw [show valsZ (zs ++ [z]) = valsZ zs ++ [.int .i64 z] by simp [valsZ], List.length_append]
          exact this
        clear own9 grow9 hg9 hlt9
        go_wp2
        go_roundw
        case rel => exact ⟨k + 1, zs ++ [z], by go_num, by omega, by simp; omega, O9, S9, N9⟩
        case measure => simp [intOf]; omega
    · have h1' : ¬ (k : Int) < (n : Int) := by omega
      go_wp2_with fail
      refine (oneB_any B b 25 wr (by decide) SW.out).mono ?_
      rintro e wq ⟨t, rfl, sq, oq⟩
      have SQ := Lib.hid sq
      have NQ := Lib.hid (NW.out.trans oq)
      have OQ := Lib.hid (own_only OW.out oq (by omega))
      clear sq oq OW SW NW q0 q1 q2
      cases t with
      | true =>
        go_wp2_with fail
        refine (nB_lt B b 30 wq (by decide) (by decide) SQ.out).mono ?_
        rintro e wp ⟨z, rfl, z0, z1, sp, op⟩
        have SP := Lib.hid sp
        have NP := Lib.hid (NQ.out.trans op)
        have OP := Lib.hid (own_only OQ.out op (by omega))
        have hs9 := SZ.out _ NP.out
        clear sp op OQ SQ NQ
        go_wp2_with (first | (at_builtin; refine wpList_append_lies _ rfl (.tmp 29) (.tmp 32) 27 rfl (w.heap.size + 1) 2 i0 (.int .i64 0) 1 8 Try.underlying27 hi0 hz0 hz1 hz2 rfl (by decide) _ _ _ rfl (OP.out.alloc _) ⟨wp.heap.size, 0, none⟩ 1 1 [.int .i64 z] rfl rfl (cell_one_new _ _ _) (by intro u hu; simp at hu; subst hu; rfl) (by decide) (by unfold maxLen; omega) (by omega) (by simp; omega) (wp.heap.size + 1) (by simp) ?_))
        intro g9 cap9 w9 own9 grow9 hg9 hlt9
        have N9 := Lib.hid (GR.out _ _ _ (NP.out.trans (Only.of_below (bA0 wp (.cells #[.int .i64 z] 2)))) grow9 (fun j hj => (OP.out.lt j hj).1))
        have S9 := Lib.hid ((SP.out.below (bA0 wp (.cells #[.int .i64 z] 2))).grown grow9 (fun j hj => by have := (OP.out.lt j hj).1; omega))
        have O9 : Hid (w9.ownsRow w.heap.size 2 1 (.slice (some ⟨g9, 0, none⟩) (zs.length + 1) cap9) (zs ++ [z]).length (valsZ (zs ++ [z]))) := by
          show World.ownsRow _ _ _ _ _ _ _
          have := own_mono own9 (show w.heap.size ≤ w.heap.size + 1 by omega)
          rw [show valsZ (zs ++ [z]) = valsZ zs ++ [.int .i64 z] by simp [valsZ], List.length_append]
          exact this
        have F9 := Lib.hid (OX.out _ N9.out)
        clear own9 grow9 hg9 hlt9
        go_wp2
        go_ret
        exact ⟨_, zs ++ [z], rfl, by simp; omega, O9.out, S9.out, F9.out⟩
      | false =>
        have O9 := Lib.hid (own_mono OQ.out (show w.heap.size ≤ w.heap.size + 1 by omega))
        have F9 := Lib.hid (OX.out _ NQ.out)
        clear OQ
        go_wp2
        go_ret
        exact ⟨_, zs, rfl, by omega, O9.out, SQ.out, F9.out⟩

end Go.Proofs.Ytaogkdhloogmhaa
namespace Go.Proofs.Ytaogkdhloogmhaa
open Go.RowKit
set_option linter.unusedVariables false

/-- What a search ends with: a plan, nothing, or a budget that is used up; and the steps. -/
inductive SRes
  | found (p : List LPl) (s : Nat)
  | none (s : Nat)
  | out (s : Nat)

variable (f : List LPl → LPl → Bool) (bud : Nat) (C : List (List LPl))

/-- The steps of an end. -/
def SRes.st : SRes → Nat
  | .found _ s => s
  | .none s => s
  | .out s => s
end Go.Proofs.Ytaogkdhloogmhaa
namespace Go.Proofs.Ytaogkdhloogmhaa
open Go.RowKit
set_option linter.unusedVariables false

def SRes.pl : SRes → List LPl
  | .found p _ => p
  | .none _ => []
  | .out _ => []
/-- What has been tried, station by station. -/
def natV (tr : List Nat) : Array Value := (tr.map fun (n : Nat) => Value.int .i64 (n : Int)).toArray
def TrAt (w : World) (b : Nat) (tr : List Nat) : Prop := w.heap[b]? = some (.cells (natV tr) 3)
theorem TrAt.lt {w : World} {b : Nat} {tr : List Nat} (h : TrAt w b tr) : b < w.heap.size := (Array.getElem?_eq_some_iff.1 h).1
theorem TrAt.cell {w : World} {b : Nat} {tr : List Nat} (h : TrAt w b tr) (i : Nat) (hi : i < tr.length) : w.cell? ⟨b, i, none⟩ = some (.int .i64 ((tr.getD i 0 : Nat) : Int)) := by
  unfold TrAt at h; simp [World.cell?, h, natV, hi]
theorem TrAt.frozen {w : World} {b : Nat} {tr : List Nat} (h : TrAt w b tr) (i : Nat) : w.frozen? ⟨b, i, none⟩ = false := by
  unfold TrAt at h; simp [World.frozen?, h]
theorem natV_set (tr : List Nat) (i m : Nat) : (natV tr).setIfInBounds i (.int .i64 (m : Int)) = natV (tr.set i m) := by
  unfold natV
  rw [List.setIfInBounds_toArray, ← List.map_set (f := fun (n : Nat) => Value.int .i64 (n : Int))]
theorem TrAt.set {w : World} {b : Nat} {tr : List Nat} (h : TrAt w b tr) (i m : Nat) : TrAt (w.setCell ⟨b, i, none⟩ (.int .i64 (m : Int))) b (tr.set i m) := by
  have := heap_setCell_same w b i (natV tr) 3 (.int .i64 (m : Int)) h
  rwa [natV_set] at this
theorem TrAt.of {w w' : World} {b : Nat} {tr : List Nat} (h : TrAt w b tr) (e : w'.heap[b]? = w.heap[b]?) : TrAt w' b tr := e.trans h
end Go.Proofs.Ytaogkdhloogmhaa
namespace Go.Proofs.Ytaogkdhloogmhaa
open Go.RowKit
set_option linter.unusedVariables false

/-- Of the blocks that were there only block b may have turned. -/
structure Onl (b : Nat) (w w' : World) : Prop where
  os : w'.os = w.os
  tape : w'.tape = w.tape
  output : w'.output = w.output
  size : w.heap.size ≤ w'.heap.size
  block : ∀ k, k < w.heap.size → k ≠ b → w'.heap[k]? = w.heap[k]?
theorem Onl.refl (b : Nat) (w : World) : Onl b w w := ⟨rfl, rfl, rfl, Nat.le_refl _, fun _ _ _ => rfl⟩
theorem Onl.trans {b : Nat} {u v w : World} (h : Onl b u v) (k : Onl b v w) : Onl b u w :=
  ⟨k.os.trans h.os, k.tape.trans h.tape, k.output.trans h.output, Nat.le_trans h.size k.size, fun i hi hb => (k.block i (Nat.lt_of_lt_of_le hi h.size) hb).trans (h.block i hi hb)⟩
theorem Onl.drew {b : Nat} {u v : World} (h : Onl b u v) : Onl b u v.drew := ⟨h.os, h.tape, h.output, h.size, h.block⟩
theorem Onl.setCell {b : Nat} {u v : World} (h : Onl b u v) (o : Nat) (x : Value) : Onl b u (v.setCell ⟨b, o, none⟩ x) :=
  h.trans ⟨rfl, rfl, rfl, by simp [World.setCell], fun k _ hk => Below.heap_setCell _ _ _ _ hk⟩
theorem Onl.of_below {b : Nat} {u v : World} (h : Below u.heap.size u v) : Onl b u v := ⟨h.os, h.tape, h.output, h.size, fun k hk _ => h.block k hk⟩
theorem Onl.below {b : Nat} {u v w : World} (h : Below u.heap.size u v) (hb : u.heap.size ≤ b) (k : Onl b v w) : Below u.heap.size u w :=
  ⟨k.os.trans h.os, k.tape.trans h.tape, k.output.trans h.output, Nat.le_trans h.size k.size, fun i hi => (k.block i (Nat.lt_of_lt_of_le hi h.size) (by omega)).trans (h.block i hi)⟩
theorem Onl.cell {b : Nat} {w w' : World} (h : Onl b w w') {c o : Nat} (hc : c < w.heap.size) (hb : c ≠ b) : w'.cell? ⟨c, o, none⟩ = w.cell? ⟨c, o, none⟩ := World.cell?_of_block (w := w) (h.block c hc hb)

/-- The seeker: the table, the top, the ids, the budget, the steps, and whether it is used up. -/
def SeekAt (w : World) (kb : Nat) (a b c d : Value) (bud s : Nat) (out : Bool) : Prop := w.heap[kb]? = some (.cells #[a, b, c, d, .int .i64 (bud : Nat), .int .i64 (s : Nat), .bool out] 136)
theorem SeekAt.facts {w : World} {kb : Nat} {a b c d : Value} {bud s : Nat} {out : Bool} (h : SeekAt w kb a b c d bud s out) : kb < w.heap.size ∧ w.cell? ⟨kb, 0, none⟩ = some a ∧ w.cell? ⟨kb, 1, none⟩ = some b ∧ w.cell? ⟨kb, 2, none⟩ = some c ∧ w.cell? ⟨kb, 3, none⟩ = some d ∧ w.cell? ⟨kb, 4, none⟩ = some (.int .i64 (bud : Nat)) ∧ w.cell? ⟨kb, 5, none⟩ = some (.int .i64 (s : Nat)) ∧ w.cell? ⟨kb, 6, none⟩ = some (.bool out) ∧ w.frozen? ⟨kb, 5, none⟩ = false ∧ w.frozen? ⟨kb, 6, none⟩ = false := by
  unfold SeekAt at h
  exact ⟨(Array.getElem?_eq_some_iff.1 h).1, by simp [World.cell?, h], by simp [World.cell?, h], by simp [World.cell?, h], by simp [World.cell?, h], by simp [World.cell?, h], by simp [World.cell?, h], by simp [World.cell?, h], by simp [World.frozen?, h], by simp [World.frozen?, h]⟩
theorem SeekAt.of {w w' : World} {kb : Nat} {a b c d : Value} {bud s : Nat} {out : Bool} (h : SeekAt w kb a b c d bud s out) (hb : Below w.heap.size w w') : SeekAt w' kb a b c d bud s out := (hb.block kb h.facts.1).trans h
theorem SeekAt.step {w : World} {kb : Nat} {a b c d : Value} {bud s : Nat} {out : Bool} (h : SeekAt w kb a b c d bud s out) : SeekAt (w.setCell ⟨kb, 5, none⟩ (.int .i64 ((s : Int) + 1))) kb a b c d bud (s + 1) out := by
  have := heap_setCell_same w kb 5 _ 136 (.int .i64 ((s : Int) + 1)) h
  unfold SeekAt
  rw [this]
  simp
theorem SeekAt.used {w : World} {kb : Nat} {a b c d : Value} {bud s : Nat} {out : Bool} (h : SeekAt w kb a b c d bud s out) : SeekAt (w.setCell ⟨kb, 6, none⟩ (.bool true)) kb a b c d bud s true := by
  have := heap_setCell_same w kb 6 _ 136 (.bool true) h
  unfold SeekAt
  rw [this]
  simp
theorem step_append_run (w : World) {ops : Array Oper} {o : Oper} {a : Act} {K : Act → World → Prop} {Q : Exit → Act → World → Prop} {E : Prop} (hgd : o.guard = none) (s x : Operand) (t tn : TypeId)
    (ho : o.op = .call { callee := .builtin .append, args := #[s, x], argTypes := #[t, tn] }) (vs vx : Value) (hs : a.eval s = vs) (hx : a.eval x = vx)
    (v' : Value) (w' : World) (hr : (Builtin.append_ #[t, tn] o.type #[vs, vx]).run Try.prog w = .ok v' w') (h : K (a.put o.dst v') w') : if Region.wanted o (yielded ops a.tmps) = true then Oper.wp Try.prog o a w K Q else E := by
  have hw : Region.wanted o (yielded ops a.tmps) = true := by simp [Region.wanted, hgd]
  rw [if_pos hw]
  exact Lib.wp_append_run w s x t tn ho vs vx hs hx v' w' hr h
end Go.Proofs.Ytaogkdhloogmhaa
namespace Go.Proofs.Ytaogkdhloogmhaa
open Go.RowKit
set_option linter.unusedVariables false

/-- A slice of places that lies below block L. -/
def SpR (w : World) (L : Nat) (v : Value) (pl : List LPl) : Prop := ∃ sl cap, v = .slice sl pl.length cap ∧ (pl = [] ∨ ∃ c o, sl = some ⟨c, o, none⟩ ∧ PlAt w c o pl ∧ c < L)
theorem SpR.nil (w : World) (L : Nat) : SpR w L (.slice none 0 0) [] := ⟨none, 0, rfl, .inl rfl⟩
theorem SpR.kept {w w' : World} {L : Nat} {v : Value} {pl : List LPl} (h : SpR w L v pl) (hs : w.heap.size ≤ w'.heap.size) (hb : ∀ k, k < w.heap.size → k < L → w'.heap[k]? = w.heap[k]?) : SpR w' L v pl := by
  obtain ⟨sl, cap, e, h⟩ := h
  refine ⟨sl, cap, e, ?_⟩
  rcases h with h | ⟨c, o, e2, p, hl⟩
  · exact .inl h
  · exact .inr ⟨c, o, e2, ⟨Nat.lt_of_lt_of_le p.lt hs, fun i hi => ⟨(World.cell?_of_block (w := w) (hb c p.lt hl)).trans (p.cell i hi).1, (World.cell?_of_block (w := w) (hb c p.lt hl)).trans (p.cell i hi).2⟩⟩, hl⟩
theorem SpR.below {w w' : World} {L : Nat} {v : Value} {pl : List LPl} (h : SpR w L v pl) (hb : Below w.heap.size w w') : SpR w' L v pl := h.kept hb.size (fun k hk _ => hb.block k hk)
end Go.Proofs.Ytaogkdhloogmhaa
namespace Go.Proofs.Ytaogkdhloogmhaa
open Go.RowKit
set_option linter.unusedVariables false

theorem RowZ.kept {w w' : World} {g : Nat} {zs : List Int} (h : RowZ w g zs) (e : w'.heap[g]? = w.heap[g]?) : RowZ w' g zs := e.trans h
end Go.Proofs.Ytaogkdhloogmhaa
namespace Go.Proofs.Ytaogkdhloogmhaa
open Go.RowKit
set_option linter.unusedVariables false

/-- An owned row of cells of places. -/
def OwP (w : World) (B : Nat) (v : Value) (n : Nat) (xs : List Value) : Prop := w.ownsRow B 64 2 v n xs
theorem OwP.below {w w' : World} {B : Nat} {v : Value} {n : Nat} {xs : List Value} (h : OwP w B v n xs) (hb : Below w.heap.size w w') : OwP w' B v n xs := own_below h hb
theorem OwP.up {X Y B : Nat} {w w' : World} {v : Value} {n : Nat} {xs : List Value} (h : OwP w B v n xs) (hb : Btw X Y w w') (hY : Y ≤ B) : OwP w' B v n xs := own_btw h hb (fun j hj => .inr (Nat.le_trans hY (World.ownsRow.lt h j hj).1))
end Go.Proofs.Ytaogkdhloogmhaa
namespace Go.Proofs.Ytaogkdhloogmhaa
open Go.RowKit
set_option linter.unusedVariables false

theorem own_cap6 {w : World} {B : Nat} {e : TypeId} {m : Nat} {sl : Option Addr} {n cap : Nat} {k : Nat} {xs : List Value} (h : w.ownsRow B e m (.slice sl n cap) k xs) : k ≤ cap := by
  rcases h.2 with ⟨_, h0⟩ | ⟨g, cp, cur, hv, _, _, h5, _⟩
  · rw [h0]; exact Nat.zero_le _
  · cases hv; exact h5
/-- Places put behind places: both ways of it. -/
theorem appP {w : World} {B : Nat} {v : Value} {ks : List LPl} (h : w.ownsRow B 64 2 v ks.length (enCells ks)) {s : Option Addr} {r : List LPl} (k : Nat) (hi : Pls w s r) (hB : B ≤ w.heap.size) (hl : ks.length + r.length ≤ 10000000) :
    ∃ v9 w9, (∀ ty, (Builtin.append_ #[37, 37] ty #[v, .slice s r.length k]).run Try.prog w = .ok v9 w9) ∧ w9.ownsRow B 64 2 v9 (ks ++ r).length (enCells (ks ++ r)) ∧ w.grownBy w9 v.ownBlock ∧ ∀ j, v.ownBlock = some j → B ≤ j := by
  obtain ⟨i3, hi3, hd0, hd1, hd2⟩ := info_parts info34
  have hlo : ∀ j, v.ownBlock = some j → B ≤ j := fun j hj => (h.lt j hj).1
  obtain ⟨sl, cap, rfl⟩ := own_v h
  by_cases he : r = []
  · subst he
    exact ⟨_, w, fun ty => app_none27 w ty sl ks.length cap (own_cap6 h) s k, by rw [List.append_nil]; exact h, ⟨rfl, rfl, rfl, Nat.le_refl _, fun _ _ _ => rfl⟩, hlo⟩
  · rcases hi with hi | ⟨c, o, rfl, hi⟩
    · exact absurd hi he
    · obtain ⟨g, c9, w9, hr, own9, grow9, -, -⟩ := run_append_lies (P := Try.prog) w 37 37 B 64 i3 (.agg #[.int .i64 0, .int .i64 0]) 2 16 Try.underlying37 hi3 hd0 hd1 hd2 rfl (by decide) _ _ _ h ⟨c, o, none⟩ r.length k (enCells r) (enCells_len r) (pl_cells hi) (enCells_one r) (List.length_pos_iff.2 he) (by unfold maxLen; omega) (by omega) hB w.heap.size rfl
      exact ⟨_, w9, fun ty => hr, by rw [List.length_append, enCells_app]; exact own9, grow9, hlo⟩
/-- An empty row of places just made. -/
theorem own_none2 (w : World) : (w.alloc (.cells #[] 64)).ownsRow w.heap.size 64 2 (.slice (some ⟨w.heap.size, 0, none⟩) 0 0) ([] : List LPl).length (enCells []) :=
  ⟨rfl, .inr ⟨w.heap.size, 0, #[], rfl, Nat.le_refl _, by show (w.heap.push _)[w.heap.size]? = _; simp, Nat.le_refl _, Nat.zero_le _, rfl, rfl⟩⟩

end Go.Proofs.Ytaogkdhloogmhaa
namespace Go.Proofs.Ytaogkdhloogmhaa
open Go.RowKit
set_option linter.unusedVariables false

/-- All but two blocks are as they were. -/
structure But2 (b r : Nat) (u v : World) : Prop where
  size : u.heap.size ≤ v.heap.size
  block : ∀ k, k < u.heap.size → k ≠ b → k ≠ r → v.heap[k]? = u.heap[k]?
theorem But2.of {b r : Nat} {u v : World} (h : Only b u v) : But2 b r u v := ⟨h.size, fun k hk hb _ => h.block k hk hb⟩
theorem But2.trans {b r : Nat} {u v w : World} (h : But2 b r u v) (g : But2 b r v w) : But2 b r u w := ⟨Nat.le_trans h.size g.size, fun k hk hb hr => (g.block k (Nat.lt_of_lt_of_le hk h.size) hb hr).trans (h.block k hk hb hr)⟩
theorem But2.set {b r : Nat} {u v : World} (h : But2 b r u v) (o : Nat) (x : Value) : But2 b r u (v.setCell ⟨r, o, none⟩ x) := ⟨by simpa [World.setCell] using h.size, fun k hk hb hr => (Below.heap_setCell _ _ _ _ (by show k ≠ r; omega)).trans (h.block k hk hb hr)⟩

end Go.Proofs.Ytaogkdhloogmhaa
namespace Go.Proofs.Ytaogkdhloogmhaa
open Go.RowKit
set_option linter.unusedVariables false

set_option maxRecDepth 100000 in
set_option maxHeartbeats 2000000 in
/-- laws.lwPlaces. -/
theorem lwp_any (sl : Option Addr) (cap : Nat) (pl : List LPl) (w : World) (hn : pl.length ≤ 1048576) (hz : Pls w sl pl) :
    Calls Try.prog 13 #[.slice sl pl.length cap] w fun e w' => ∃ v, e = .returned v ∧ w'.ownsRow w.heap.size 64 2 v pl.length (enCells pl) ∧ Below w.heap.size w w' := by
  have B0 := Lib.hid (bA0 w (.cells #[] 64))
  obtain ⟨v9, w9, ha, ow, gr, hj⟩ := appP (ks := []) (own_none2 w) cap (hz.below B0.out) B0.out.size (by simp; omega)
  have ha' := ha 37
  have O9 : Hid (w9.ownsRow w.heap.size 64 2 v9 pl.length (enCells pl)) := by
    have := ow
    rwa [List.nil_append] at this
  have B9 := Lib.hid (B0.out.grown gr B0.out.size hj)
  clear ha ow gr hj hz B0
  generalize pl.length = n at *
  go_enter Try.func13, Try.ntmps13
  go_wp2_with (at_builtin; refine Lib.wpList_append_run _ rfl _ _ _ _ rfl _ _ rfl rfl _ _ ha' ?_)
  go_ret
  exact ⟨_, rfl, O9.out, B9.out⟩

end Go.Proofs.Ytaogkdhloogmhaa
namespace Go.Proofs.Ytaogkdhloogmhaa
open Go.RowKit
set_option linter.unusedVariables false

/-- Numbers put behind numbers: both ways of it. -/
theorem appZ {w : World} {B : Nat} {v : Value} {zs : List Int} (h : w.ownsRow B 2 1 v zs.length (valsZ zs)) {s : Option Addr} {r : List Int} (k : Nat) (hi : Ints w s r) (hB : B ≤ w.heap.size) (hl : zs.length + r.length ≤ 10000000) :
    ∃ v9 w9, (∀ ty, (Builtin.append_ #[27, 27] ty #[v, .slice s r.length k]).run Try.prog w = .ok v9 w9) ∧ w9.ownsRow B 2 1 v9 (zs ++ r).length (valsZ (zs ++ r)) ∧ w.grownBy w9 v.ownBlock ∧ ∀ j, v.ownBlock = some j → B ≤ j := by
  obtain ⟨i3, hi3, hd0, hd1, hd2⟩ := info_parts info2'
  have hlo : ∀ j, v.ownBlock = some j → B ≤ j := fun j hj => (h.lt j hj).1
  obtain ⟨sl, cap, rfl⟩ := own_v h
  by_cases he : r = []
  · subst he
    exact ⟨_, w, fun ty => app_none40 w ty sl zs.length cap (own_cap6 h) s k, by rw [List.append_nil]; exact h, ⟨rfl, rfl, rfl, Nat.le_refl _, fun _ _ _ => rfl⟩, hlo⟩
  · rcases hi with hi | ⟨c, o, rfl, hi⟩
    · exact absurd hi he
    · obtain ⟨g, c9, w9, hr, own9, grow9, hg, -⟩ := run_append_lies (P := Try.prog) w 27 27 B 2 i3 (.int .i64 0) 1 8 Try.underlying27 hi3 hd0 hd1 hd2 rfl (by decide) _ _ _ h ⟨c, o, none⟩ r.length k (valsZ r) (valsZ_len1 r) (int_cells hi) (valsZ_one r) (List.length_pos_iff.2 he) (by unfold maxLen; omega) (by omega) hB w.heap.size rfl
      exact ⟨_, w9, fun ty => hr, by rw [List.length_append, show valsZ (zs ++ r) = valsZ zs ++ valsZ r by simp [valsZ]]; exact own9, grow9, hlo⟩

set_option maxRecDepth 100000 in
set_option maxHeartbeats 2000000 in
/-- laws.lwCopy. -/
theorem lwc_any (sl : Option Addr) (cap : Nat) (zs : List Int) (w : World) (hn : zs.length ≤ 1048576) (hz : Ints w sl zs) :
    Calls Try.prog 7 #[.slice sl zs.length cap] w fun e w' => ∃ v, e = .returned v ∧ w'.ownsRow w.heap.size 2 1 v zs.length (valsZ zs) ∧ Below w.heap.size w w' := by
  have B0 := Lib.hid (bA0 w (.cells #[] 2))
  obtain ⟨v9, w9, ha, ow, gr, hj⟩ := appZ (zs := []) (own_none5 w) cap (hz.below B0.out) B0.out.size (by simp; omega)
  have ha' := ha 27
  have O9 : Hid (w9.ownsRow w.heap.size 2 1 v9 zs.length (valsZ zs)) := by
    have := ow
    rwa [List.nil_append] at this
  have B9 := Lib.hid (B0.out.grown gr B0.out.size hj)
  clear ha ow gr hj hz B0
  generalize zs.length = n at *
  go_enter Try.func7, Try.ntmps7
  go_wp2_with (at_builtin; refine Lib.wpList_append_run _ rfl _ _ _ _ rfl _ _ rfl rfl _ _ ha' ?_)
  go_ret
  exact ⟨_, rfl, O9.out, B9.out⟩

end Go.Proofs.Ytaogkdhloogmhaa
