/-
  IS A PLACE AMONG PLACES? slices.Index and slices.Contains at places.
-/
import Derived.Test.YtdmfljejlhlbnaaUb
namespace Go.Proofs.Ytdmfljejlhlbnaa
open Go.RowKit
set_option linter.unusedVariables false

theorem eq34 (a b c d : Int) (w : World) : Sem.run Try.prog (binOp .eql 34 (.agg #[.int .i64 a, .int .i64 b]) (.agg #[.int .i64 c, .int .i64 d])) w = .ok (.bool (a == c && b == d)) w := by
  have u2 := Try.underlying2
  have a2 := Try.isAgg2
  have z2 := Try.sizeOf2
  have hS : Try.prog.underlying 34 = some (.struct (Try.prog.fieldsOf 34)) := by kernel_rfl
  have hp : Try.prog.stoodInHeld 34 = false := by kernel_rfl
  rw [run_eql_struct, show (10000 : Nat) = 9999 + 1 from rfl, run_equalIn_agg w 9999 34 _ _ hS hp]
  simp only [Program.fieldsOf, Try.underlying34]
  go_simp
  by_cases h1 : a = c <;> by_cases h2 : b = d <;> simp [h1, h2]
def NotP (pl : List LPl) (p : LPl) (k : Nat) : Prop := ∀ i (h : i < pl.length), i < k → pl[i] ≠ p
theorem NotP.all {pl : List LPl} {p : LPl} {k : Nat} (h : NotP pl p k) (hk : pl.length ≤ k) : p ∉ pl := fun g => by
  obtain ⟨i, hi, e⟩ := List.getElem_of_mem g
  exact h i hi (by omega) e
theorem NotP.step {pl : List LPl} {p : LPl} {k : Nat} (h : NotP pl p k) (hk : k < pl.length) (g : pl[k] ≠ p) : NotP pl p (k + 1) := fun i hi hik => by
  by_cases e : i = k
  · subst e; exact g
  · exact h i hi (by omega)
/-- Two cells. -/
def TwoAt (w : World) (b : Nat) (x y : Int) : Prop := w.heap[b]? = some (.cells #[.int .i64 x, .int .i64 y] 34)
theorem TwoAt.lt {w : World} {b : Nat} {x y : Int} (h : TwoAt w b x y) : b < w.heap.size := (Array.getElem?_eq_some_iff.1 h).1
theorem TwoAt.below {w w' : World} {b : Nat} {x y : Int} (h : TwoAt w b x y) (hb : Below w.heap.size w w') : TwoAt w' b x y := (hb.block b h.lt).trans h
theorem TwoAt.cells {w : World} {b : Nat} {x y : Int} (h : TwoAt w b x y) : w.cell? ⟨b, 0, none⟩ = some (.int .i64 x) ∧ w.cell? ⟨b, 1, none⟩ = some (.int .i64 y) := by
  unfold TwoAt at h
  constructor <;> simp [World.cell?, h]
theorem TwoAt.new (w : World) (x y : Int) : TwoAt (w.alloc (.cells #[.int .i64 x, .int .i64 y] 34)) w.heap.size x y := new_at _ _

set_option maxRecDepth 100000 in
set_option maxHeartbeats 2000000 in
theorem pix_any (sl : Option Addr) (cap : Nat) (pl : List LPl) (x y : Int) (w : World) (hn : pl.length ≤ 1048576) (hz : Pls w sl pl) :
    Calls Try.prog 132 #[.slice sl pl.length cap, .agg #[.int .i64 x, .int .i64 y]] w fun e w' => ∃ r : Int, e = .returned (.int .i64 r) ∧ ((x, y) ∈ pl ↔ 0 ≤ r) ∧ Below w.heap.size w w' := by
  have HZ := Lib.hid hz
  have HT := Lib.hid (TwoAt.new w x y)
  have B0 := Lib.hid (bA0 w (.cells #[.int .i64 x, .int .i64 y] 34))
  clear hz
  generalize hN : pl.length = n at *
  have HN := Lib.hid hN
  clear hN
  go_enter Try.func132, Try.ntmps132
  go_wp2
  generalize w.alloc (.cells #[.int .i64 x, .int .i64 y] 34) = wA at *
  go_loopw [8] (fun i wr => ∃ k : Nat, i = .int .i64 k ∧ k ≤ n ∧ Hid (NotP pl (x, y) k) ∧ Hid (Below wA.heap.size wA wr)) (fun i _ => n - (intOf i).toNat)
  case atStart => exact ⟨0, rfl, Nat.zero_le _, fun i h hk => absurd hk (Nat.not_lt_zero _), Below.refl _ _⟩
  case round =>
    obtain ⟨k, rfl, hk, NI, H2⟩ := hrel
    have hk0 : (0 : Int) ≤ (k : Int) := by omega
    have DW := Lib.hid (bT B0.out H2.out)
    by_cases g1 : k < n
    · have g1' : (k : Int) < (n : Int) := by omega
      have hlt : k < pl.length := by rw [HN.out]; exact g1
      obtain ⟨c, o, rfl, Z0⟩ : ∃ c o, sl = some ⟨c, o, none⟩ ∧ PlAt w c o pl := by
        rcases HZ.out with e | h
        · rw [e] at hlt; simp at hlt
        · exact h
      have Z1 := Z0.below DW.out
      obtain ⟨c0, c1⟩ := Z1.cell k hlt
      have cl := Z1.lt
      have TA := HT.out.below H2.out
      obtain ⟨t0, t1⟩ := TA.cells
      have tl := TA.lt
      obtain ⟨a, b, hp⟩ : ∃ a b, pl[k] = (a, b) := ⟨_, _, rfl⟩
      rw [hp] at c0 c1
      dsimp only at c0 c1
      have hgt : Try.prog.eqGuardType Try.prog.depth 34 = false := by kernel_rfl
      have hnq := eq34 x y a b
      have KB : Hid (∀ W, Below wr.heap.size wr W → w.heap.size < W.heap.size ∧ c < W.heap.size ∧ W.cell? ⟨w.heap.size, 0, none⟩ = some (.int .i64 x) ∧ W.cell? ⟨w.heap.size, 1, none⟩ = some (.int .i64 y) ∧ W.cell? ⟨c, o + k * 2, none⟩ = some (.int .i64 a) ∧ W.cell? ⟨c, o + k * 2 + 1, none⟩ = some (.int .i64 b)) := fun W hW => ⟨Nat.lt_of_lt_of_le tl hW.size, Nat.lt_of_lt_of_le cl hW.size, (hW.cell tl).trans t0, (hW.cell tl).trans t1, (hW.cell cl).trans c0, (hW.cell cl).trans c1⟩
      by_cases hac : x = a ∧ y = b
      · have hnb : (x == a && y == b) = true := by simp [hac]
        rw [hnb] at hnq
        have IN := Lib.hid (show (x, y) ∈ pl from by
          have : pl[k] = (x, y) := by rw [hp, hac.1, hac.2]
          rw [← this]; exact List.getElem_mem hlt)
        clear hp hlt Z0 Z1 TA hac hnb NI c0 c1 t0 t1
        go_wp2_with fail
        refine wp_region_held_drew (S := fun W => w.heap.size < W.heap.size ∧ c < W.heap.size ∧ W.cell? ⟨w.heap.size, 0, none⟩ = some (.int .i64 x) ∧ W.cell? ⟨w.heap.size, 1, none⟩ = some (.int .i64 y) ∧ W.cell? ⟨c, o + k * 2, none⟩ = some (.int .i64 a) ∧ W.cell? ⟨c, o + k * 2 + 1, none⟩ = some (.int .i64 b)) (by kernel_rfl) ?_ (fun hHeld => ?_)
        · exact KB.out _ (Below.refl _ _).drew
        refine wpAnyH_take (i := 0) (oi := _) (v := ?_) rfl (by kernel_rfl) (by kernel_rfl) (by kernel_rfl) (fun _ _ _ h => h) (Or.inl ⟨by rfl, ?_⟩) (by assumption) ?_
        rotate_left
        · first | (intro w hSw; (try dsimp only at hSw); go_simp; done) | (intro w hSw; (try dsimp only at hSw); go_simp; with_reducible rfl)
        try simp only [Act.put, List.setIfInBounds_toArray, List.set_cons_zero, List.set_cons_succ, List.getElem_toArray, List.getElem_cons_zero]
        refine wpAnyH_take (i := 1) (oi := _) (v := ?_) rfl (by kernel_rfl) (by kernel_rfl) (by kernel_rfl) (fun _ _ _ h => h) (Or.inl ⟨by rfl, ?_⟩) (by assumption) ?_
        rotate_left
        · first | (intro w hSw; (try dsimp only at hSw); go_simp; done) | (intro w hSw; (try dsimp only at hSw); go_simp; with_reducible rfl)
        try simp only [Act.put, List.setIfInBounds_toArray, List.set_cons_zero, List.set_cons_succ, List.getElem_toArray, List.getElem_cons_succ, List.getElem_cons_zero]
        refine wpAnyH_take (i := 2) (oi := _) (v := ?_) rfl (by kernel_rfl) (by kernel_rfl) (by kernel_rfl) (fun _ _ _ h => h) (Or.inl ⟨by rfl, ?_⟩) (by assumption) ?_
        rotate_left
        · first | (intro w hSw; (try dsimp only at hSw); go_simp; done) | (intro w hSw; (try dsimp only at hSw); go_simp; with_reducible rfl)
        try simp only [Act.put, List.setIfInBounds_toArray, List.set_cons_zero, List.set_cons_succ, List.getElem_toArray, List.getElem_cons_succ, List.getElem_cons_zero]
        refine wpAnyH_take (i := 3) (oi := _) (v := ?_) rfl (by kernel_rfl) (by kernel_rfl) (by kernel_rfl) (fun _ _ _ h => h) (Or.inl ⟨by rfl, ?_⟩) (by assumption) ?_
        rotate_left
        · first | (intro w hSw; (try dsimp only at hSw); go_simp; done) | (intro w hSw; (try dsimp only at hSw); go_simp; with_reducible rfl)
        try simp only [Act.put, List.setIfInBounds_toArray, List.set_cons_zero, List.set_cons_succ, List.getElem_toArray, List.getElem_cons_succ, List.getElem_cons_zero]
        refine wpAnyH_take (i := 4) (oi := _) (v := ?_) rfl (by kernel_rfl) (by kernel_rfl) (by kernel_rfl) (fun _ _ _ h => h) (Or.inl ⟨by rfl, ?_⟩) (by assumption) ?_
        rotate_left
        · first | (intro w hSw; (try dsimp only at hSw); go_simp; done) | (intro w hSw; (try dsimp only at hSw); go_simp; with_reducible rfl)
        try simp only [Act.put, List.setIfInBounds_toArray, List.set_cons_zero, List.set_cons_succ, List.getElem_toArray, List.getElem_cons_succ, List.getElem_cons_zero]
        refine wpAnyH_take (i := 5) (oi := _) (v := ?_) rfl (by kernel_rfl) (by kernel_rfl) (by kernel_rfl) (fun _ _ _ h => h) (Or.inl ⟨by rfl, ?_⟩) (by assumption) ?_
        rotate_left
        · first | (intro w hSw; (try dsimp only at hSw); go_simp; done) | (intro w hSw; (try dsimp only at hSw); go_simp; with_reducible rfl)
        try simp only [Act.put, List.setIfInBounds_toArray, List.set_cons_zero, List.set_cons_succ, List.getElem_toArray, List.getElem_cons_succ, List.getElem_cons_zero]
        refine wpAnyH_done (by kernel_rfl) ?_ _
        have D5 := Lib.hid (DW.out.drew)
        clear KB
        go_wp2_with fail
        go_ret
        exact ⟨(k : Int), rfl, ⟨fun _ => by omega, fun _ => IN.out⟩, D5.out⟩
      · have hnb : (x == a && y == b) = false := by
          simp
          intro h h2
          exact hac ⟨h, h2⟩
        rw [hnb] at hnq
        have NI2 := Lib.hid (NI.out.step hlt (by rw [hp]; intro e; exact hac ⟨(Prod.mk.inj e).1.symm, (Prod.mk.inj e).2.symm⟩))
        clear hp hlt Z0 Z1 TA hac hnb NI c0 c1 t0 t1
        go_wp2_with fail
        refine wp_region_held_drew (S := fun W => w.heap.size < W.heap.size ∧ c < W.heap.size ∧ W.cell? ⟨w.heap.size, 0, none⟩ = some (.int .i64 x) ∧ W.cell? ⟨w.heap.size, 1, none⟩ = some (.int .i64 y) ∧ W.cell? ⟨c, o + k * 2, none⟩ = some (.int .i64 a) ∧ W.cell? ⟨c, o + k * 2 + 1, none⟩ = some (.int .i64 b)) (by kernel_rfl) ?_ (fun hHeld => ?_)
        · exact KB.out _ (Below.refl _ _).drew
        refine wpAnyH_take (i := 0) (oi := _) (v := ?_) rfl (by kernel_rfl) (by kernel_rfl) (by kernel_rfl) (fun _ _ _ h => h) (Or.inl ⟨by rfl, ?_⟩) (by assumption) ?_
        rotate_left
        · first | (intro w hSw; (try dsimp only at hSw); go_simp; done) | (intro w hSw; (try dsimp only at hSw); go_simp; with_reducible rfl)
        try simp only [Act.put, List.setIfInBounds_toArray, List.set_cons_zero, List.set_cons_succ, List.getElem_toArray, List.getElem_cons_zero]
        refine wpAnyH_take (i := 1) (oi := _) (v := ?_) rfl (by kernel_rfl) (by kernel_rfl) (by kernel_rfl) (fun _ _ _ h => h) (Or.inl ⟨by rfl, ?_⟩) (by assumption) ?_
        rotate_left
        · first | (intro w hSw; (try dsimp only at hSw); go_simp; done) | (intro w hSw; (try dsimp only at hSw); go_simp; with_reducible rfl)
        try simp only [Act.put, List.setIfInBounds_toArray, List.set_cons_zero, List.set_cons_succ, List.getElem_toArray, List.getElem_cons_succ, List.getElem_cons_zero]
        refine wpAnyH_take (i := 2) (oi := _) (v := ?_) rfl (by kernel_rfl) (by kernel_rfl) (by kernel_rfl) (fun _ _ _ h => h) (Or.inl ⟨by rfl, ?_⟩) (by assumption) ?_
        rotate_left
        · first | (intro w hSw; (try dsimp only at hSw); go_simp; done) | (intro w hSw; (try dsimp only at hSw); go_simp; with_reducible rfl)
        try simp only [Act.put, List.setIfInBounds_toArray, List.set_cons_zero, List.set_cons_succ, List.getElem_toArray, List.getElem_cons_succ, List.getElem_cons_zero]
        refine wpAnyH_take (i := 3) (oi := _) (v := ?_) rfl (by kernel_rfl) (by kernel_rfl) (by kernel_rfl) (fun _ _ _ h => h) (Or.inl ⟨by rfl, ?_⟩) (by assumption) ?_
        rotate_left
        · first | (intro w hSw; (try dsimp only at hSw); go_simp; done) | (intro w hSw; (try dsimp only at hSw); go_simp; with_reducible rfl)
        try simp only [Act.put, List.setIfInBounds_toArray, List.set_cons_zero, List.set_cons_succ, List.getElem_toArray, List.getElem_cons_succ, List.getElem_cons_zero]
        refine wpAnyH_take (i := 4) (oi := _) (v := ?_) rfl (by kernel_rfl) (by kernel_rfl) (by kernel_rfl) (fun _ _ _ h => h) (Or.inl ⟨by rfl, ?_⟩) (by assumption) ?_
        rotate_left
        · first | (intro w hSw; (try dsimp only at hSw); go_simp; done) | (intro w hSw; (try dsimp only at hSw); go_simp; with_reducible rfl)
        try simp only [Act.put, List.setIfInBounds_toArray, List.set_cons_zero, List.set_cons_succ, List.getElem_toArray, List.getElem_cons_succ, List.getElem_cons_zero]
        refine wpAnyH_take (i := 5) (oi := _) (v := ?_) rfl (by kernel_rfl) (by kernel_rfl) (by kernel_rfl) (fun _ _ _ h => h) (Or.inl ⟨by rfl, ?_⟩) (by assumption) ?_
        rotate_left
        · first | (intro w hSw; (try dsimp only at hSw); go_simp; done) | (intro w hSw; (try dsimp only at hSw); go_simp; with_reducible rfl)
        try simp only [Act.put, List.setIfInBounds_toArray, List.set_cons_zero, List.set_cons_succ, List.getElem_toArray, List.getElem_cons_succ, List.getElem_cons_zero]
        refine wpAnyH_done (by kernel_rfl) ?_ _
        have D5 := Lib.hid (H2.out.drew)
        clear KB
        go_wp2_with fail
        go_roundw
        case rel => exact ⟨k + 1, by go_num, by omega, NI2, D5⟩
        case measure => simp [intOf]; omega
    · have g1' : ¬ (k : Int) < (n : Int) := by omega
      have NO := Lib.hid (NI.out.all (by rw [HN.out]; omega))
      clear NI
      go_wp2
      go_ret
      exact ⟨-1, rfl, ⟨fun h => absurd h NO.out, fun h => by omega⟩, DW.out⟩

set_option maxRecDepth 100000 in
set_option maxHeartbeats 1000000 in
/-- slices.Contains at places. -/
theorem phas_any (sl : Option Addr) (cap : Nat) (pl : List LPl) (x y : Int) (w : World) (hn : pl.length ≤ 1048576) (hz : Pls w sl pl) :
    Calls Try.prog 83 #[.slice sl pl.length cap, .agg #[.int .i64 x, .int .i64 y]] w fun e w' => e = .returned (.bool (B ((x, y) ∈ pl))) ∧ Below w.heap.size w w' := by
  have B0 := Lib.hid (bA0 w (.cells #[.int .i64 x, .int .i64 y] 34))
  have E := Lib.hid (pix_any sl cap pl x y _ hn (hz.below B0.out))
  clear hz hn
  cases hb : B ((x, y) ∈ pl) with
  | true =>
    have IN := Lib.hid (B_true hb)
    clear hb
    generalize pl.length = n at *
    go_enter Try.func83, Try.ntmps83
    go_wp2_with fail
    refine E.out.mono ?_
    rintro e w1 ⟨r, rfl, hr, b1⟩
    have D1 := Lib.hid (bT B0.out b1)
    have hr0 := hr.1 IN.out
    clear hr b1
    go_wp2
    go_ret
    exact ⟨rfl, D1.out⟩
  | false =>
    have IN := Lib.hid (B_false hb)
    clear hb
    generalize pl.length = n at *
    go_enter Try.func83, Try.ntmps83
    go_wp2_with fail
    refine E.out.mono ?_
    rintro e w1 ⟨r, rfl, hr, b1⟩
    have D1 := Lib.hid (bT B0.out b1)
    have hr0 : decide (0 ≤ r) = false := by rw [decide_eq_false_iff_not]; exact fun h => IN.out (hr.2 h)
    clear hr b1
    go_wp2
    go_ret
    exact ⟨rfl, D1.out⟩

end Go.Proofs.Ytdmfljejlhlbnaa
