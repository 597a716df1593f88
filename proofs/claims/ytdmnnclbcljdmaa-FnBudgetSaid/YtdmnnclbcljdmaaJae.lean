/-
  UNITS AS THE MODEL FINDS THEM: the values of literals in a row; spec.l08Unit, spec.l08More.
  WHAT FOLLOWS AT ONCE, as the model runs it: spec.l08Run.
  THE SOLVER'S HELPERS: turned, values.firstOpen, values.trues.
  THE SOLVER'S STATE, and what turns it: push, pop, spend, conflict, learn, told.
-/
import Derived.Test.YtdmnnclbcljdmaaJad
import Derived.RegionTactic
import Derived.ChangeAlike
import Derived.Deep.RegionWith
namespace Go.Proofs.Ytdmnnclbcljdmaa
open Go.RowKit
set_option linter.unusedVariables false

/-- The values of the literals from -V to V. -/
noncomputable def sArr (V : Nat) (tr : List Int) : Array Value := ((List.range (2 * V + 1)).map fun k : Nat => Value.int .i64 (val tr ((k : Int) - (V : Int)))).toArray
def SVAt (w : World) (b V : Nat) (tr : List Int) : Prop := w.heap[b]? = some (.cells (sArr V tr) 2)
theorem sArr_at (V : Nat) (tr : List Int) (k : Nat) (h : k < 2 * V + 1) : (sArr V tr)[k]? = some (.int .i64 (val tr ((k : Int) - (V : Int)))) := by simp [sArr, h]
theorem SVAt.lt {w : World} {b V : Nat} {tr : List Int} (h : SVAt w b V tr) : b < w.heap.size := (Array.getElem?_eq_some_iff.1 h).1
theorem SVAt.cell {w : World} {b V : Nat} {tr : List Int} (h : SVAt w b V tr) (k : Nat) (hk : k < 2 * V + 1) : w.cell? ⟨b, k, none⟩ = some (.int .i64 (val tr ((k : Int) - (V : Int)))) := by
  have : w.cell? ⟨b, k, none⟩ = (sArr V tr)[k]? := by unfold SVAt at h; simp [World.cell?, h]
  rw [this, sArr_at V tr k hk]
theorem SVAt.frozen {w : World} {b V : Nat} {tr : List Int} (h : SVAt w b V tr) (k : Nat) : w.frozen? ⟨b, k, none⟩ = false := by unfold SVAt at h; simp [World.frozen?, h]
theorem SVAt.below {w w' : World} {b V : Nat} {tr : List Int} (h : SVAt w b V tr) (hb : Below w.heap.size w w') : SVAt w' b V tr := (hb.block b h.lt).trans h
theorem sArr_put (V : Nat) (tr : List Int) (z : Int) (i j : Nat) (hi : (i : Int) = z + V) (hj : (j : Int) = (V : Int) - z) (h1 : z ∉ tr) (h2 : -z ∉ tr) (h0 : z ≠ 0) : ((sArr V tr).setIfInBounds i (.int .i64 1)).setIfInBounds j (.int .i64 (-1)) = sArr V (tr ++ [z]) := by
  apply Array.ext
  · simp [sArr]
  · intro k a1 a2
    simp only [Array.size_setIfInBounds] at a1
    rw [Array.getElem_setIfInBounds (by simpa using a1)]
    have hs : (sArr V (tr ++ [z]))[k] = .int .i64 (val (tr ++ [z]) ((k : Int) - (V : Int))) := by simp [sArr]
    rw [hs]
    by_cases hjk : j = k
    · subst hjk
      rw [if_pos rfl, show ((j : Int) - (V : Int)) = -z by omega, val_neg (by simp; exact ⟨h2, by omega⟩) (by simp)]
    · rw [if_neg hjk, Array.getElem_setIfInBounds (by simpa using a1)]
      by_cases hik : i = k
      · subst hik
        rw [if_pos rfl, show ((i : Int) - (V : Int)) = z by omega, val_yes (by simp)]
      · rw [if_neg hik]
        have ht : (sArr V tr)[k]'(by simpa using a1) = .int .i64 (val tr ((k : Int) - (V : Int))) := by simp [sArr]
        rw [ht]
        have e1 : (((k : Int) - (V : Int)) ∈ tr ++ [z]) ↔ ((k : Int) - (V : Int)) ∈ tr := by
          simp only [List.mem_append, List.mem_singleton]
          exact ⟨fun h => by rcases h with h | h; exact h; omega, .inl⟩
        have e2 : (-((k : Int) - (V : Int)) ∈ tr ++ [z]) ↔ -((k : Int) - (V : Int)) ∈ tr := by
          simp only [List.mem_append, List.mem_singleton]
          exact ⟨fun h => by rcases h with h | h; exact h; omega, .inl⟩
        rw [val_iff e1 e2]
theorem SVAt.put {w : World} {b V : Nat} {tr : List Int} (h : SVAt w b V tr) (z : Int) (i j : Nat) (hi : (i : Int) = z + V) (hj : (j : Int) = (V : Int) - z) (h1 : z ∉ tr) (h2 : -z ∉ tr) (h0 : z ≠ 0) : SVAt ((w.setCell ⟨b, i, none⟩ (.int .i64 1)).setCell ⟨b, j, none⟩ (.int .i64 (-1))) b V (tr ++ [z]) := by
  have := heap_setCell_same _ b j _ 2 (.int .i64 (-1)) (heap_setCell_same w b i (sArr V tr) 2 (.int .i64 1) h)
  rw [sArr_put V tr z i j hi hj h1 h2 h0] at this
  exact this

theorem unit_true {tr zs : List Int} {z : Int} (hz : z ∈ zs) (h : val tr z = 1) : unitOf tr zs = none := by
  have hm : z ∈ nfl tr zs := List.mem_filter.2 ⟨hz, by simp [h]⟩
  unfold unitOf
  match hx : nfl tr zs with
  | [] => rw [hx] at hm; simp at hm
  | [a] =>
    rw [hx] at hm
    have : z = a := by simpa using hm
    subst this
    simp [h]
  | a :: c :: r => rfl
theorem unit_two {tr zs : List Int} (h : 2 ≤ (nfl tr zs).length) : unitOf tr zs = none := by
  unfold unitOf
  match hx : nfl tr zs with
  | [] => rw [hx] at h; simp at h
  | [a] => rw [hx] at h; simp at h
  | a :: c :: r => rfl
/-- What the model tells of a clause. -/
def uR (o : Option Int) : Int × Bool := match o with
  | none => (0, false)
  | some z => (z, z == 0)

set_option maxRecDepth 100000 in
set_option maxHeartbeats 2000000 in
/-- spec.l08Unit. -/
theorem su_any (b V : Nat) (tr : List Int) (sl : Option Addr) (cap : Nat) (zs : List Int) (w : World) (hV : V ≤ 96) (hv : SVAt w b V tr) (hn : zs.length ≤ maxLen) (hw : ∀ z ∈ zs, OkZ (V : Int) z) (hz : Ints w sl zs) :
    Calls Try.prog 50 #[.slice (some ⟨b, 0, none⟩) (2 * V + 1) (2 * V + 1), .slice sl zs.length cap, .int .i64 (V : Int)] w fun e w' => e = .returned (.tuple #[.int .i64 (uR (unitOf tr zs)).1, .bool (uR (unitOf tr zs)).2]) ∧ w' = w := by
  unfold maxLen at hn
  have VC := Lib.hid (show ∀ z, OkZ (V : Int) z → ∃ i : Nat, (i : Int) = z + V ∧ i < 2 * V + 1 ∧ w.cell? ⟨b, i, none⟩ = some (.int .i64 (val tr z)) from fun z h => by
    have h2 := h.2.1
    have h3 := h.2.2
    refine ⟨(z + V).toNat, by omega, by omega, ?_⟩
    rw [hv.cell _ (by omega), show (((z + V).toNat : Nat) : Int) - (V : Int) = z by omega])
  have OK := Lib.hid (show ∀ k, k < zs.length → OkZ (V : Int) (zs.getD k 0) from fun k hk => hw _ (by simp [hk]))
  have UT := Lib.hid (show ∀ k, k < zs.length → val tr (zs.getD k 0) = 1 → unitOf tr zs = none from fun k hk h => unit_true (by simp [hk]) h)
  have ST := Lib.hid (fun k h => nfl_step tr zs k h)
  have MO := Lib.hid (fun k => nfl_more tr zs k)
  have U2 := Lib.hid (show 2 ≤ (nfl tr zs).length → unitOf tr zs = none from unit_two)
  have UE := Lib.hid (show ∀ k op, zs.length ≤ k → ((nfl tr (zs.take k) = [] ∧ op = 0) ∨ (nfl tr (zs.take k) = [op] ∧ op ≠ 0 ∧ val tr op = 0)) → unitOf tr zs = some op from fun k op hk h => by
    rw [List.take_of_length_le hk] at h
    unfold unitOf
    rcases h with ⟨h1, h2⟩ | ⟨h1, _, h3⟩
    · rw [h1, h2]
    · rw [h1]; simp [h3])
  have HZ := Lib.hid hz
  have N0 := Lib.hid (show nfl tr (zs.take 0) = [] by simp [nfl])
  have hlt := hv.lt
  clear hv hw hz
  generalize unitOf tr zs = U at *
  generalize hN : zs.length = n at *
  have HN := Lib.hid hN
  clear hN
  generalize hM : 2 * V + 1 = M at *
  go_enter Try.func50, Try.ntmps50
  go_wp2
  go_loopw [8, 9] (fun o i wr => ∃ (k : Nat) (op : Int), i = .int .i64 k ∧ k ≤ n ∧ o = .int .i64 op ∧ Hid ((nfl tr (zs.take k) = [] ∧ op = 0) ∨ (nfl tr (zs.take k) = [op] ∧ op ≠ 0 ∧ val tr op = 0)) ∧ wr = w) (fun _ i _ => n - (intOf i).toNat)
  case atStart => exact ⟨0, 0, rfl, Nat.zero_le _, rfl, .inl ⟨N0.out, rfl⟩, rfl⟩
  case round =>
    obtain ⟨k, op, rfl, hk, rfl, HP, rfl⟩ := hrel
    have hk0 : (0 : Int) ≤ (k : Int) := by omega
    by_cases g1 : k < n
    · have g1' : (k : Int) < (n : Int) := by omega
      have hlt2 : k < zs.length := by rw [HN.out]; exact g1
      obtain ⟨c, o, rfl, ZI⟩ : ∃ c o, sl = some ⟨c, o, none⟩ ∧ IntsAt wr c o zs := by
        rcases HZ.out with e | h
        · rw [e] at hlt2; simp at hlt2
        · exact h
      have hcell := ZI.2 k hlt2
      obtain ⟨i, hi, hiM, hvc⟩ := VC.out _ (OK.out k g1)
      have okz := OK.out k g1
      have S1 := Lib.hid (ST.out k g1)
      have M1 := Lib.hid (MO.out (k + 1))
      have T1 := Lib.hid (UT.out k g1)
      clear ZI hlt2 ST MO HZ OK UT VC
      generalize zs.getD k 0 = z at *
      obtain ⟨oz1, oz2, oz3⟩ := okz
      have hi0 : (0 : Int) ≤ z + (V : Int) := by omega
      have hi1 : z + (V : Int) < (M : Int) := by omega
      have hi2 : z + (V : Int) ≤ 9223372036854775807 := by omega
      have hi3 : -9223372036854775808 ≤ z + (V : Int) := by omega
      have hin : (z + (V : Int)).toNat = i := by omega
      clear hi
      by_cases v1 : val tr z = 1
      · have E := Lib.hid (T1.out v1)
        rw [v1] at hvc
        clear S1 M1 T1 HP v1 UE U2
        go_wp2
        go_ret2
        exact ⟨by rw [E.out]; rfl, rfl⟩
      · by_cases v0 : val tr z = 0
        · rw [if_pos (by omega)] at S1
          rw [v0] at hvc
          by_cases ho : op = 0
          · subst ho
            have P1 := Lib.hid (show (nfl tr (zs.take (k + 1)) = [] ∧ z = 0) ∨ (nfl tr (zs.take (k + 1)) = [z] ∧ z ≠ 0 ∧ val tr z = 0) by
              rcases HP.out with ⟨h1, _⟩ | ⟨_, h2, _⟩
              · rw [S1.out, h1]; exact .inr ⟨rfl, oz1, v0⟩
              · exact absurd rfl h2)
            clear HP S1 M1 T1 v1 v0 UE U2
            go_wp2
            go_roundw
            case rel => exact ⟨k + 1, z, by go_num, by omega, rfl, P1, trivial⟩
            case measure => simp [intOf]; omega
          · have E := Lib.hid (U2.out (by
              rcases HP.out with ⟨_, h2⟩ | ⟨h1, _, _⟩
              · exact absurd h2 ho
              · have := M1.out; rw [S1.out, h1] at this; simpa using this))
            have ho' : (op == 0) = false := by simpa using ho
            clear HP S1 M1 T1 v1 v0 UE U2
            go_wp2
            go_ret2
            exact ⟨by rw [E.out]; rfl, rfl⟩
        · have vm : val tr z = -1 := by rcases val_cases tr z with ⟨e, _⟩ | ⟨e, _⟩ | ⟨e, _⟩ <;> omega
          rw [if_neg (by omega)] at S1
          rw [vm] at hvc
          have P1 := Lib.hid (show (nfl tr (zs.take (k + 1)) = [] ∧ op = 0) ∨ (nfl tr (zs.take (k + 1)) = [op] ∧ op ≠ 0 ∧ val tr op = 0) by rw [S1.out]; exact HP.out)
          clear HP S1 M1 T1 v1 v0 vm UE U2
          go_wp2
          go_roundw
          case rel => exact ⟨k + 1, op, by go_num, by omega, rfl, P1, trivial⟩
          case measure => simp [intOf]; omega
    · have g1' : ¬ (k : Int) < (n : Int) := by omega
      have E := Lib.hid (UE.out k op (by omega) HP.out)
      clear HP ST MO UE U2 UT OK VC
      go_wp2
      go_ret2
      exact ⟨by rw [E.out]; rfl, rfl⟩


end Go.Proofs.Ytdmnnclbcljdmaa
namespace Go.Proofs.Ytdmnnclbcljdmaa
open Go.RowKit
set_option linter.unusedVariables false

theorem own_cap8 {w : World} {B : Nat} {e : TypeId} {m : Nat} {sl : Option Addr} {n cap : Nat} {k : Nat} {xs : List Value} (h : w.ownsRow B e m (.slice sl n cap) k xs) : k ≤ cap := by
  rcases h.2 with ⟨_, h0⟩ | ⟨g, cp, cur, hv, _, _, h5, _⟩
  · rw [h0]; exact Nat.zero_le _
  · cases hv; exact h5
/-- Numbers put behind numbers: both ways of it. -/
theorem appZ {w : World} {B : Nat} {v : Value} {zs : List Int} (h : w.ownsRow B 2 1 v zs.length (valsZ zs)) {s : Option Addr} {r : List Int} (k : Nat) (hi : Ints w s r) (hB : B ≤ w.heap.size) (hl : zs.length + r.length ≤ 10000000) :
    ∃ v9 w9, (∀ ty, (Builtin.append_ #[28, 28] ty #[v, .slice s r.length k]).run Try.prog w = .ok v9 w9) ∧ w9.ownsRow B 2 1 v9 (zs ++ r).length (valsZ (zs ++ r)) ∧ w.grownBy w9 v.ownBlock ∧ ∀ j, v9.ownBlock = some j → v.ownBlock = some j ∨ j = w.heap.size := by
  obtain ⟨i3, hi3, hd0, hd1, hd2⟩ := info_parts info2'
  obtain ⟨sl, cap, rfl⟩ := own_v h
  by_cases he : r = []
  · subst he
    exact ⟨_, w, fun ty => app_none40 w ty sl zs.length cap (own_cap8 h) s k, by rw [List.append_nil]; exact h, ⟨rfl, rfl, rfl, Nat.le_refl _, fun _ _ _ => rfl⟩, fun j hj => .inl hj⟩
  · rcases hi with hi | ⟨c, o, rfl, hi⟩
    · exact absurd hi he
    · obtain ⟨g, c9, w9, hr, own9, grow9, hg, -⟩ := run_append_lies (P := Try.prog) w 28 28 B 2 i3 (.int .i64 0) 1 8 Try.underlying28 hi3 hd0 hd1 hd2 rfl (by decide) _ _ _ h ⟨c, o, none⟩ r.length k (valsZ r) (valsZ_len1 r) (int_cells hi) (valsZ_one r) (List.length_pos_iff.2 he) (by unfold maxLen; omega) (by omega) hB w.heap.size rfl
      refine ⟨_, w9, fun ty => hr, by rw [List.length_append, valsZ_add]; exact own9, grow9, fun j hj => ?_⟩
      have e : j = g := by simp [Value.ownBlock] at hj; exact hj.symm
      rcases hg with hg | hg
      · exact .inl (by rw [hg, e])
      · exact .inr (by omega)

/-- A run under way: the Cnf, the answer's block, the run's own answer with its trail T, the values of U. -/
structure SR (w : World) (vars : Int) (sl : Option Addr) (n cap : Nat) (O vb V : Nat) (W : World) (T U : List Int) (v : Value) : Prop where
  cnf : CnfAt W w.heap.size vars sl n cap
  box : BoxU W (w.heap.size + 1)
  out : W.heap[O]? = some (.cells #[v, .int .i64 (-1), .int .i64 0] 53)
  own : W.ownsRow (w.heap.size + 2) 2 1 v T.length (valsZ T)
  vals : SVAt W vb V U
  bel : Below w.heap.size w W
  ne : v.ownBlock ≠ some vb
  hO : w.heap.size + 1 < O
  hV : w.heap.size + 1 < vb
  hOV : O ≠ vb
theorem SR.keep {w : World} {vars : Int} {sl : Option Addr} {n cap O vb V : Nat} {W W' : World} {T U : List Int} {v : Value} (h : SR w vars sl n cap O vb V W T U v) (hb : Below W.heap.size W W') : SR w vars sl n cap O vb V W' T U v :=
  ⟨h.cnf.below hb, h.box.below hb, (hb.block O (Array.getElem?_eq_some_iff.1 h.out).1).trans h.out, own_below h.own hb, h.vals.below hb, bT h.bel hb, h.ne, h.hO, h.hV, h.hOV⟩
theorem SR.facts {w : World} {vars : Int} {sl : Option Addr} {n cap O vb V : Nat} {W : World} {T U : List Int} {v : Value} (h : SR w vars sl n cap O vb V W T U v) : w.heap.size < W.heap.size ∧ W.cell? ⟨w.heap.size, 0, none⟩ = some (.int .i64 vars) ∧ W.cell? ⟨w.heap.size, 1, none⟩ = some (.slice sl n cap) ∧ vb < W.heap.size ∧ O < W.heap.size ∧ W.cell? ⟨O, 0, none⟩ = some v ∧ W.cell? ⟨O, 1, none⟩ = some (.int .i64 (-1)) ∧ W.cell? ⟨O, 2, none⟩ = some (.int .i64 0) ∧ (∀ k, W.frozen? ⟨O, k, none⟩ = false) ∧ (∀ k, W.frozen? ⟨vb, k, none⟩ = false) := by
  have ho := h.out
  exact ⟨h.cnf.lt, h.cnf.cells.1, h.cnf.cells.2, h.vals.lt, (Array.getElem?_eq_some_iff.1 ho).1, by simp [World.cell?, ho], by simp [World.cell?, ho], by simp [World.cell?, ho], fun k => by simp [World.frozen?, ho], h.vals.frozen⟩
/-- A literal more has its value. -/
theorem SR.put {w : World} {vars : Int} {sl : Option Addr} {n cap O vb V : Nat} {W : World} {T U : List Int} {v : Value} (h : SR w vars sl n cap O vb V W T U v) (z : Int) (i j : Nat) (hi : (i : Int) = z + V) (hj : (j : Int) = (V : Int) - z) (h1 : z ∉ U) (h2 : -z ∉ U) (h0 : z ≠ 0) :
    SR w vars sl n cap O vb V ((W.setCell ⟨vb, i, none⟩ (.int .i64 1)).setCell ⟨vb, j, none⟩ (.int .i64 (-1))) T (U ++ [z]) v := by
  have hk : ∀ k, k ≠ vb → ((W.setCell ⟨vb, i, none⟩ (.int .i64 1)).setCell ⟨vb, j, none⟩ (.int .i64 (-1))).heap[k]? = W.heap[k]? := fun k hk => (heap_setCell_other _ ⟨vb, j, none⟩ k _ hk).trans (heap_setCell_other _ ⟨vb, i, none⟩ k _ hk)
  have hV := h.hV
  exact ⟨(hk _ (by omega)).trans h.cnf, (hk _ (by omega)).trans h.box, (hk _ h.hOV).trans h.out, own_set (own_set h.own h.ne i _) h.ne j _, h.vals.put z i j hi hj h1 h2 h0, (h.bel.setCell (p := ⟨vb, i, none⟩) (by show w.heap.size ≤ vb; omega) _).setCell (p := ⟨vb, j, none⟩) (by show w.heap.size ≤ vb; omega) _, h.ne, h.hO, h.hV, h.hOV⟩
/-- The trail has one more. -/
theorem SR.more {w : World} {vars : Int} {sl : Option Addr} {n cap O vb V : Nat} {W w9 : World} {T U T' : List Int} {v v9 : Value} (h : SR w vars sl n cap O vb V W T U v) (hg : W.grownBy w9 v.ownBlock) (ho : w9.ownsRow (w.heap.size + 2) 2 1 v9 T'.length (valsZ T')) (hn : ∀ j, v9.ownBlock = some j → v.ownBlock = some j ∨ W.heap.size ≤ j) :
    SR w vars sl n cap O vb V (w9.setCell ⟨O, 0, none⟩ v9) T' U v9 := by
  have hOl := (Array.getElem?_eq_some_iff.1 h.out).1
  have nO : v.ownBlock ≠ some O := fun e => by
    obtain ⟨g, cp, cur, hv, hb, hg', _⟩ := (h.own.2.resolve_left (fun ⟨e2, _⟩ => by rw [e2] at e; simp [Value.ownBlock] at e))
    rw [hv] at e
    have : g = O := by simpa [Value.ownBlock] using e
    subst this
    rw [h.out] at hg'
    simp at hg'
  have hk : ∀ k, k < W.heap.size → some k ≠ v.ownBlock → k ≠ O → (w9.setCell ⟨O, 0, none⟩ v9).heap[k]? = W.heap[k]? := fun k h1 h2 h3 => (heap_setCell_other _ ⟨O, 0, none⟩ k _ h3).trans (hg.block k h1 h2)
  have hlo : ∀ j, v.ownBlock = some j → w.heap.size + 2 ≤ j := fun j hj => (h.own.lt j hj).1
  have hO := h.hO
  have nO9 : v9.ownBlock ≠ some O := fun e => by
    rcases hn O e with e | e
    · exact nO e
    · omega
  refine ⟨(hk _ h.cnf.lt (fun e => by have := hlo _ e.symm; omega) (by omega)).trans h.cnf, (hk _ h.box.facts.1 (fun e => by have := hlo _ e.symm; omega) (by omega)).trans h.box, ?_, own_set ho nO9 0 v9, (hk vb h.vals.lt (fun e => h.ne e.symm) (fun e => h.hOV e.symm)).trans h.vals, (h.bel.grown hg h.bel.size (fun k hk => by have := hlo k hk; omega)).setCell (p := ⟨O, 0, none⟩) (by show w.heap.size ≤ O; omega) _, fun e => ?_, h.hO, h.hV, h.hOV⟩
  · exact heap_setCell_same w9 O 0 _ 53 v9 ((hg.block O hOl (fun e => nO e.symm)).trans h.out)
  · rcases hn vb e with e | e
    · exact h.ne e
    · have := h.vals.lt; omega

/-- The values of no literal. -/
theorem sArr_nil (V : Nat) : mk64 (2 * V + 1) = sArr V [] := by
  have := mk64_eq (List.replicate (2 * V + 1) 0)
  rw [List.length_replicate] at this
  rw [this]
  apply Array.ext
  · simp [vsOf, sArr]
  · intro i h1 h2
    have h3 : i < 2 * V + 1 := by simpa [sArr] using h2
    simp [vsOf, sArr, val_no]

/-- An empty row just made. -/
theorem own_none8 (w : World) : (w.alloc (.cells #[] 2)).ownsRow w.heap.size 2 1 (.slice (some ⟨w.heap.size, 0, none⟩) 0 0) 0 [] :=
  ⟨rfl, .inr ⟨w.heap.size, 0, #[], rfl, Nat.le_refl _, by show (w.heap.push _)[w.heap.size]? = _; simp, Nat.le_refl _, Nat.zero_le _, rfl, rfl⟩⟩
/-- A run begins. -/
theorem SR.new {w w9 : World} {vars : Int} {sl : Option Addr} {n cap V : Nat} {ts : List Int} {v9 : Value} (hc : CnfAt w9 w.heap.size vars sl n cap) (hx : BoxU w9 (w.heap.size + 1)) (ho : w9.ownsRow (w.heap.size + 2) 2 1 v9 ts.length (valsZ ts)) (hb : Below w.heap.size w w9) (hs : w.heap.size + 3 ≤ w9.heap.size) :
    SR w vars sl n cap w9.heap.size (w9.heap.size + 1) V ((w9.alloc (.cells #[v9, .int .i64 (-1), .int .i64 0] 53)).alloc (.cells (mk64 (2 * V + 1)) 2)) ts [] v9 := by
  have b1 := bA0 w9 (.cells #[v9, .int .i64 (-1), .int .i64 0] 53)
  have b2 := bA0 (w9.alloc (.cells #[v9, .int .i64 (-1), .int .i64 0] 53)) (.cells (mk64 (2 * V + 1)) 2)
  have h1 := new_at w9 (.cells #[v9, .int .i64 (-1), .int .i64 0] 53)
  have h2 := new_at (w9.alloc (.cells #[v9, .int .i64 (-1), .int .i64 0] 53)) (.cells (mk64 (2 * V + 1)) 2)
  have e1 : (w9.alloc (.cells #[v9, .int .i64 (-1), .int .i64 0] 53)).heap.size = w9.heap.size + 1 := by simp
  rw [e1, sArr_nil] at h2
  refine ⟨(hc.below b1).below b2, (hx.below b1).below b2, (b2.block _ (by omega)).trans h1, own_below (own_below ho b1) b2, ?_, bA (bA hb _) _, fun e => ?_, by omega, by omega, by omega⟩
  · rw [sArr_nil]; exact h2
  · have := (ho.lt _ e).2; omega

end Go.Proofs.Ytdmnnclbcljdmaa
namespace Go.Proofs.Ytdmnnclbcljdmaa
open Go.RowKit
set_option linter.unusedVariables false
variable {fh : List Value}

theorem row_own {w : World} {g : Nat} {zs : List Int} {n : Nat} (h : RowAt w g (vsOf zs n)) (hn : n = zs.length) (hm : n ≤ maxLen) : w.ownsRow g 2 1 (.slice (some ⟨g, 0, none⟩) n n) zs.length (valsZ zs) := by
  subst hn
  have e : (vsOf zs zs.length).toList = valsZ zs := by simp [vsOf, valsZ]
  have es : (vsOf zs zs.length).size = zs.length := by rw [← Array.length_toList, e]; simp [valsZ]
  refine ⟨by simp [valsZ], .inr ⟨g, zs.length, vsOf zs zs.length, rfl, Nat.le_refl _, h, Nat.le_refl _, hm, by rw [es]; omega, ?_⟩⟩
  rw [e, List.take_of_length_le (by simp [valsZ])]

set_option maxHeartbeats 1000000 in
/-- turned. -/
theorem tu_any (sl : Option Addr) (cap : Nat) (zs : List Int) (w : World) (hn : zs.length ≤ 96) (hw : ∀ z ∈ zs, -96 ≤ z ∧ z ≤ 96) (hz : Ints w sl zs) :
    Calls Try.prog 73 #[.slice sl zs.length cap] w fun e w' => e = .returned (.slice (some ⟨w.heap.size, 0, none⟩) zs.length zs.length) ∧ w'.ownsRow w.heap.size 2 1 (.slice (some ⟨w.heap.size, 0, none⟩) zs.length zs.length) (negL zs).length (valsZ (negL zs)) ∧ Below w.heap.size w w' := by
  have hmk := make64 zs.length (by omega)
  have ZC : Hid (∀ W, Below w.heap.size w W → ∀ k, k < zs.length → ∃ c o, sl = some ⟨c, o, none⟩ ∧ W.cell? ⟨c, o + k, none⟩ = some (.int .i64 (zs.getD k 0)) ∧ wrap64 (-zs.getD k 0) = (negL zs).getD k 0) := fun W hW k hk => by
    rcases hz with e | ⟨c, o, e, hi⟩
    · rw [e] at hk; simp at hk
    · have h := hw (zs.getD k 0) (by simp [hk])
      have e2 : (negL zs).getD k 0 = -zs.getD k 0 := by simp [negL, hk]
      rw [e2]
      exact ⟨c, o, e, (hW.cell hi.1).trans (hi.2 k hk), wrap_in _ ⟨by omega, by omega⟩⟩
  have HK : Hid (mk64 zs.length = vsOf (negL zs) 0) := by
    have := mk64_eq (negL zs)
    rw [negL_len] at this
    exact this
  have NL := Lib.hid (negL_len zs)
  clear hz hw
  generalize hN : zs.length = n at *
  have HN : Hid (zs.length = n) := hN
  clear hN
  generalize hY : negL zs = ys at *
  clear hY
  go_enter Try.func73, Try.ntmps73
  go_wp2
  go_loopw [11] (fun i wr => ∃ (k : Nat), i = .int .i64 k ∧ k ≤ n ∧ Hid (Below w.heap.size w wr) ∧ Hid (RowAt wr w.heap.size (vsOf ys k))) (fun i _ => n - (intOf i).toNat)
  case atStart =>
    refine ⟨0, rfl, Nat.zero_le _, bA0 _ _, ?_⟩
    show (w.heap.push _)[w.heap.size]? = _
    simp [HK.out]
  case round =>
    obtain ⟨k, rfl, hk, H3, H4⟩ := hrel
    have hk0 : (0 : Int) ≤ (k : Int) := by omega
    by_cases h1 : k < n
    · have h1' : (k : Int) < (n : Int) := by omega
      have hlt : k < ys.length := by rw [NL.out]; exact h1
      obtain ⟨c, o, rfl, hc, hwr⟩ := ZC.out wr H3.out k h1
      have hd : wr.cell? ⟨w.heap.size, k, none⟩ = some (.int .i64 0) := by rw [H4.out.cell]; exact vs_at ys k hlt
      have hf := H4.out.frozen k
      have H5 : Hid (RowAt (wr.setCell ⟨w.heap.size, k, none⟩ (.int .i64 (ys.getD k 0))) w.heap.size (vsOf ys (k + 1))) := by
        show RowAt _ _ _
        rw [← vs_step ys k hlt]; exact H4.out.set k _
      clear hlt ZC
      generalize zs.getD k 0 = z at *
      generalize ys.getD k 0 = y at *
      go_wp2
      go_roundw
      case rel => exact ⟨k + 1, by go_num, by omega, H3.out.setCell (Nat.le_refl _) _, H5⟩
      case measure => simp [intOf]; omega
    · have h1' : ¬ (k : Int) < (n : Int) := by omega
      have H6 := Lib.hid (row_own (n := k) H4.out (by rw [NL.out]; omega) (by unfold maxLen; omega))
      have e : k = n := by omega
      subst e
      go_wp2
      go_ret
      exact ⟨rfl, H6.out, H3.out⟩

set_option maxRecDepth 100000 in
set_option maxHeartbeats 1000000 in
/-- values.firstOpen. -/
theorem fo_any (b V : Nat) (tr : List Int) (w : World) (hv : VAt fh w b tr) (hc : Cons tr) (hV : V ≤ 96) :
    Calls Try.prog 57 #[.pointer (some ⟨b, 6, none⟩), .int .i64 (V : Int)] w fun e w' => e = .returned (.int .i64 (opn tr V 1 : Nat)) ∧ w' = w := by
  have OF := Lib.hid (show ∀ k : Nat, k ≤ V → Calls Try.prog 74 #[.pointer (some ⟨b, 6, none⟩), .int .i64 (k : Int)] w fun e w' => e = .returned (.int .i64 (val tr (k : Int))) ∧ w' = w from fun k hk => of_any b tr k w hv hc (by omega) (by omega))
  have ON := Lib.hid (fun n k => @opn_no tr n k)
  have OY := Lib.hid (fun n k => @opn_yes tr n k)
  have OZ := Lib.hid (show ∀ k, opn tr 0 k = 0 from fun _ => rfl)
  clear hv hc
  generalize hR : opn tr V 1 = R at *
  have R0 := Lib.hid hR
  clear hR
  go_enter Try.func57, Try.ntmps57
  go_wp2
  go_loopw [5] (fun i wr => ∃ k : Nat, i = .int .i64 (k + 1 : Nat) ∧ k ≤ V ∧ wr = w ∧ Hid (opn tr (V - k) (k + 1) = R)) (fun i _ => V + 1 - (intOf i).toNat)
  case atStart => exact ⟨0, rfl, Nat.zero_le _, rfl, R0⟩
  case round =>
    obtain ⟨k, rfl, hk, rfl, H⟩ := hrel
    by_cases h1 : k + 1 ≤ V
    · have h1' : ((k + 1 : Nat) : Int) ≤ (V : Int) := by omega
      have C := Lib.hid (OF.out (k + 1) h1)
      by_cases hz : val tr ((k + 1 : Nat) : Int) = 0
      · have E := Lib.hid (OY.out (V - k) (k + 1) (by omega) hz)
        rw [hz] at C
        have RE := Lib.hid (E.out.symm.trans H.out)
        clear hz OF ON OY OZ E H
        go_wp2_with fail
        refine C.out.mono ?_
        rintro e w1 ⟨rfl, rfl⟩
        go_wp2
        go_ret
        exact ⟨by rw [← RE.out]; rfl, rfl⟩
      · have E := Lib.hid (ON.out (V - k) (k + 1) (by omega) hz)
        have hz' : (val tr ((k + 1 : Nat) : Int) == 0) = false := by simpa using hz
        clear ON OY OZ OF
        have RE : Hid (opn tr (V - (k + 1)) (k + 1 + 1) = R) := by
          show _ = _
          rw [← H.out, E.out, Nat.sub_sub]
        generalize val tr ((k + 1 : Nat) : Int) = y at *
        clear E H
        go_wp2_with fail
        refine C.out.mono ?_
        rintro e w1 ⟨rfl, rfl⟩
        go_wp2
        go_roundw
        case rel => exact ⟨k + 1, by go_num, by omega, by trivial, RE⟩
        case measure => simp [intOf]; omega
    · have h1' : ¬ ((k + 1 : Nat) : Int) ≤ (V : Int) := by omega
      have RE : Hid (0 = R) := by
        show _ = _
        have e := OZ.out (k + 1)
        rw [← H.out, show V - k = 0 by omega, e]
      clear OF ON OY OZ H
      go_wp2
      go_ret
      exact ⟨by rw [← RE.out]; rfl, rfl⟩

set_option maxRecDepth 100000 in
set_option maxHeartbeats 2000000 in
/-- values.trues. -/
theorem tv_any (b V : Nat) (tr : List Int) (w : World) (hv : VAt fh w b tr) (hc : Cons tr) (hV : V ≤ 96) :
    Calls Try.prog 58 #[.pointer (some ⟨b, 6, none⟩), .int .i64 (V : Int)] w fun e w' => ∃ v, e = .returned v ∧ w'.ownsRow w.heap.size 2 1 v (trL tr V).length (valsZ (trL tr V)) ∧ Below w.heap.size w w' := by
  obtain ⟨i0, hi0, hz0, hz1, hz2⟩ := info_parts info2'
  have OF := Lib.hid (show ∀ (W : World) (k : Nat), Below w.heap.size w W → k ≤ V → Calls Try.prog 74 #[.pointer (some ⟨b, 6, none⟩), .int .i64 (k : Int)] W fun e w' => e = .returned (.int .i64 (val tr (k : Int))) ∧ w' = W from fun W k hW hk => of_any b tr k W (hv.below hW) hc (by omega) (by omega))
  have TN := Lib.hid (fun n => @trL_no tr n)
  have TY := Lib.hid (fun n => @trL_yes tr n)
  have TL := Lib.hid (trL_len tr)
  have T0 := Lib.hid (show trL tr 0 = [] from rfl)
  clear hv hc
  go_enter Try.func58, Try.ntmps58
  go_wp2
  go_loopw [5, 6] (fun v i wr => ∃ k : Nat, i = .int .i64 (k + 1 : Nat) ∧ k ≤ V ∧ Hid (wr.ownsRow w.heap.size 2 1 v (trL tr k).length (valsZ (trL tr k))) ∧ Hid (Below w.heap.size w wr)) (fun _ i _ => V + 1 - (intOf i).toNat)
  case atStart => exact ⟨0, rfl, Nat.zero_le _, ⟨rfl, .inl ⟨rfl, rfl⟩⟩, Below.refl _ _⟩
  case round =>
    obtain ⟨k, rfl, hk, H1, H2⟩ := hrel
    obtain ⟨vs, vc, rfl⟩ := own_v H1.out
    have hsz := H2.out.size
    by_cases h1 : k + 1 ≤ V
    · have h1' : ((k + 1 : Nat) : Int) ≤ (V : Int) := by omega
      have C := Lib.hid (OF.out wr (k + 1) H2.out h1)
      have hlen := TL.out k
      by_cases hz : val tr ((k + 1 : Nat) : Int) = 1
      · have E := Lib.hid (TY.out k hz)
        rw [hz] at C
        clear hz OF TN TY TL
        have EV := Lib.hid (show valsZ (trL tr k) ++ [.int .i64 ((k : Int) + 1)] = valsZ (trL tr (k + 1)) by rw [E.out]; simp [valsZ])
        have EL := Lib.hid (show (trL tr k).length + 1 = (trL tr (k + 1)).length by rw [E.out]; simp)
        generalize hF : (trL tr k).length = fn at *
        clear hF
        go_wp2_with fail
        refine C.out.mono ?_
        rintro e w1 ⟨rfl, rfl⟩
        clear C
        go_wp2_with (first | (at_builtin; refine wpList_append_lies _ rfl (.tmp 16) (.tmp 18) 28 rfl w.heap.size 2 i0 (.int .i64 0) 1 8 Try.underlying28 hi0 hz0 hz1 hz2 rfl (by decide) _ _ _ rfl (H1.out.alloc _) ⟨w1.heap.size, 0, none⟩ 1 1 [.int .i64 ((k : Int) + 1)] rfl rfl (cell_one_new _ _ _) (by intro u hu; simp at hu; subst hu; rfl) (by decide) (by unfold maxLen; omega) (by omega) (by simp; omega) (w1.heap.size + 1) (by simp) ?_))
        intro g9 cap9 w9 own9 grow9 hg9 hlt9
        have B9 := Lib.hid ((bA H2.out (.cells #[.int .i64 ((k : Int) + 1)] 2)).grown grow9 (by simp; omega) (fun j hj => (H1.out.lt j hj).1))
        rw [EV.out] at own9
        have N9 := Lib.hid own9
        clear own9 grow9 hg9 hlt9
        go_wp2
        go_roundw
        case rel => exact ⟨k + 1, by go_num, by omega, by rw [← EL.out]; exact N9, B9⟩
        case measure => simp [intOf]; omega
      · have E := Lib.hid (TN.out k hz)
        have hz' : (val tr ((k + 1 : Nat) : Int) == 1) = false := by simpa using hz
        clear OF TN TY TL
        generalize val tr ((k + 1 : Nat) : Int) = y at *
        go_wp2_with fail
        refine C.out.mono ?_
        rintro e w1 ⟨rfl, rfl⟩
        go_wp2
        go_roundw
        case rel => exact ⟨k + 1, by go_num, by omega, by rw [E.out]; exact H1, H2⟩
        case measure => simp [intOf]; omega
    · have h1' : ¬ ((k + 1 : Nat) : Int) ≤ (V : Int) := by omega
      have e : k = V := by omega
      subst e
      clear OF TN TY TL
      go_wp2
      go_ret
      exact ⟨_, rfl, H1.out, H2.out⟩
end Go.Proofs.Ytdmnnclbcljdmaa
namespace Go.Proofs.Ytdmnnclbcljdmaa
open Go.RowKit
set_option linter.unusedVariables false

theorem own_box {W : World} {C : Nat} {e : TypeId} {m : Nat} {v : Value} {n : Nat} {xs : List Value} {X : Nat} {us : Array Value} {t : TypeId} (h : W.ownsRow C e m v n xs) (hx : W.heap[X]? = some (.cells us t)) (hne : t ≠ e) (i : Nat) (u : Value) : (W.setCell ⟨X, i, none⟩ u).ownsRow C e m v n xs := by
  refine ⟨h.1, ?_⟩
  rcases h.2 with h | ⟨g, cap, cur, hv, hg, hh, r⟩
  · exact .inl h
  · refine .inr ⟨g, cap, cur, hv, hg, (Below.heap_setCell _ _ _ _ ?_).trans hh, r⟩
    intro e'
    have e'' : g = X := e'
    rw [e'', hx] at hh
    cases hh
    exact hne rfl
theorem owc_box {W : World} {C : Nat} {v : Value} {cs : List LCl} {X : Nat} {us : Array Value} {t : TypeId} (h : OwC W C v cs) (hx : W.heap[X]? = some (.cells us t)) (h1 : t ≠ 28) (h2 : t ≠ 2) (i : Nat) (u : Value) : OwC (W.setCell ⟨X, i, none⟩ u) C v cs :=
  ⟨own_box h.row hx h1 i u, fun r hr => own_box (h.each r hr) hx h2 i u, h.diff⟩
theorem own_only {B : Nat} {e : TypeId} {m : Nat} {v : Value} {n : Nat} {xs : List Value} {b : Nat} {w w' : World} {us : Array Value} {t : TypeId} (h : w.ownsRow B e m v n xs) (ho : Only b w w') (hx : w.heap[b]? = some (.cells us t)) (hne : t ≠ e) : w'.ownsRow B e m v n xs := by
  refine ⟨h.1, ?_⟩
  rcases h.2 with h | ⟨g, cap, cur, hv, hg, hh, r⟩
  · exact .inl h
  · refine .inr ⟨g, cap, cur, hv, hg, (ho.block g (Array.getElem?_eq_some_iff.1 hh).1 ?_).trans hh, r⟩
    intro e'
    rw [e', hx] at hh
    cases hh
    exact hne rfl
theorem owc_only {B : Nat} {v : Value} {cs : List LCl} {b : Nat} {w w' : World} {us : Array Value} {t : TypeId} (h : OwC w B v cs) (ho : Only b w w') (hx : w.heap[b]? = some (.cells us t)) (h1 : t ≠ 28) (h2 : t ≠ 2) : OwC w' B v cs :=
  ⟨own_only h.row ho hx h1, fun r hr => own_only (h.each r hr) ho hx h2, h.diff⟩

theorem VAt.fld {fh : List Value} {w : World} {b : Nat} {tr : List Int} (h : VAt fh w b tr) (i : Nat) (hi : i < 6) : w.cell? ⟨b, i, none⟩ = fh[i]? := by
  have : w.cell? ⟨b, i, none⟩ = (fh ++ vL tr)[i]? := by simp [World.cell?, h.2]
  rw [this, List.getElem?_append_left (by rw [h.1]; exact hi)]
theorem VAt.setF {fh : List Value} {w : World} {b : Nat} {tr : List Int} (h : VAt fh w b tr) (i : Nat) (hi : i < 6) (v : Value) : VAt (fh.set i v) (w.setCell ⟨b, i, none⟩ v) b tr := by
  refine ⟨by rw [List.length_set]; exact h.1, ?_⟩
  have := heap_setCell_same w b i _ 63 v h.2
  rwa [List.setIfInBounds_toArray, List.set_append_left _ _ (by rw [h.1]; exact hi)] at this
abbrev SF (V bud st : Int) (vc vl vd : Value) : List Value := [.int .i64 V, .int .i64 bud, .int .i64 st, vc, vl, vd]

theorem appH {w : World} {B : Nat} {v : Value} {us : List Value} (h : w.ownsRow B 28 1 v us.length us) (u : Value) (hu : u.oneCell' = true) (c : Nat) (hc : ∀ (j : Nat) (x : Value), [u][j]? = some x → w.cell? ((⟨c, 0, none⟩ : Addr).add j) = some x) (hB : B ≤ w.heap.size) (hl : us.length ≤ 100000) :
    ∃ v9 w9, (∀ ty, (Builtin.append_ #[23, 23] ty #[v, .slice (some ⟨c, 0, none⟩) 1 1]).run Try.prog w = .ok v9 w9) ∧ w9.ownsRow B 28 1 v9 (us.length + 1) (us ++ [u]) ∧ w.grownBy w9 v.ownBlock := by
  obtain ⟨i3, hi3, hd0, hd1, hd2⟩ := info_parts info40
  obtain ⟨g, c9, w9, hr, own9, grow9, hg, -⟩ := run_append_lies (P := Try.prog) w 23 23 B 28 i3 (.slice none 0 0) 1 24 Try.underlying23 hi3 hd0 hd1 hd2 rfl (by decide) _ _ _ h ⟨c, 0, none⟩ 1 1 [u] rfl hc (by intro x hx; rw [List.mem_singleton.1 hx]; exact hu) (by decide) (by unfold maxLen; omega) (by omega) hB w.heap.size rfl
  exact ⟨_, w9, fun ty => hr, own9, grow9⟩
theorem appK {w : World} {B : Nat} {v : Value} {us : List Value} (h : w.ownsRow B 121 1 v us.length us) (u : Value) (hu : u.oneCell' = true) (c : Nat) (hc : ∀ (j : Nat) (x : Value), [u][j]? = some x → w.cell? ((⟨c, 0, none⟩ : Addr).add j) = some x) (hB : B ≤ w.heap.size) (hl : us.length ≤ 100000) :
    ∃ v9 w9, (∀ ty, (Builtin.append_ #[56, 56] ty #[v, .slice (some ⟨c, 0, none⟩) 1 1]).run Try.prog w = .ok v9 w9) ∧ w9.ownsRow B 121 1 v9 (us.length + 1) (us ++ [u]) ∧ w.grownBy w9 v.ownBlock := by
  obtain ⟨i3, hi3, hd0, hd1, hd2⟩ := info_parts info108
  obtain ⟨g, c9, w9, hr, own9, grow9, hg, -⟩ := run_append_lies (P := Try.prog) w 56 56 B 121 i3 (.slice none 0 0) 1 24 Try.underlying56 hi3 hd0 hd1 hd2 rfl (by decide) _ _ _ h ⟨c, 0, none⟩ 1 1 [u] rfl hc (by intro x hx; rw [List.mem_singleton.1 hx]; exact hu) (by decide) (by unfold maxLen; omega) (by omega) hB w.heap.size rfl
  exact ⟨_, w9, fun ty => hr, own9, grow9⟩

/-- All blocks of answers are as they were. -/
def K30 (w0 W : World) : Prop := ∀ (k : Nat) (us : Array Value), w0.heap[k]? = some (.cells us 30) → W.heap[k]? = some (.cells us 30)
theorem K30.refl (W : World) : K30 W W := fun _ _ h => h
theorem K30.below {w0 W W' : World} (h : K30 w0 W) (hb : Below W.heap.size W W') : K30 w0 W' := fun k us hk => by
  have := h k us hk
  exact (hb.block k (Array.getElem?_eq_some_iff.1 this).1).trans this
theorem K30.only {w0 W W' : World} {b : Nat} {us : Array Value} {t : TypeId} (h : K30 w0 W) (ho : Only b W W') (hx : W.heap[b]? = some (.cells us t)) (ht : t ≠ 30) : K30 w0 W' := fun k us hk => by
  have := h k us hk
  refine (ho.block k (Array.getElem?_eq_some_iff.1 this).1 (fun e => ?_)).trans this
  rw [e, hx] at this
  cases this
  exact ht rfl
theorem K30.set {w0 W : World} {b : Nat} {us : Array Value} {t : TypeId} (h : K30 w0 W) (hx : W.heap[b]? = some (.cells us t)) (ht : t ≠ 30) (i : Nat) (v : Value) : K30 w0 (W.setCell ⟨b, i, none⟩ v) := h.only ((Only.refl b W).setCell i v) hx ht
theorem K30.grown {w0 W W' : World} {B : Nat} {e : TypeId} {m : Nat} {v : Value} {n : Nat} {xs : List Value} (h : K30 w0 W) (hv : W.ownsRow B e m v n xs) (he : e ≠ 30) (hg : W.grownBy W' v.ownBlock) : K30 w0 W' := fun k us hk => by
  have := h k us hk
  refine (hg.block k (Array.getElem?_eq_some_iff.1 this).1 (fun e' => ?_)).trans this
  obtain ⟨cur, hc⟩ := own_kind hv e'.symm
  rw [hc] at this
  cases this
  exact he rfl

/-- The solver, how far it has come. -/
structure Sol (w w0 : World) (b : Nat) (V bud st : Int) (ms ls : List LCl) (D tr : List Int) (vc vl vd : Value) (W : World) : Prop where
  blk : VAt (SF V bud st vc vl vd) W b tr
  rc : W.ownsRow w.heap.size 121 1 vc (hdC ms).length (hdC ms)
  ol : OwC W w.heap.size vl ls
  od : W.ownsRow w.heap.size 2 1 vd D.length (valsZ D)
  da : ∀ r ∈ ls, ∀ j, r.1.ownBlock = some j → vd.ownBlock ≠ some j
  bl : Below w.heap.size w W
  hb : w.heap.size ≤ b
  kp : K30 w0 W
section
variable {w w0 : World} {b : Nat} {V bud st : Int} {ms ls : List LCl} {D tr : List Int} {vc vl vd : Value} {W W' : World}
theorem Sol.below (h : Sol w w0 b V bud st ms ls D tr vc vl vd W) (hb : Below W.heap.size W W') : Sol w w0 b V bud st ms ls D tr vc vl vd W' :=
  ⟨h.blk.below hb, own_below h.rc hb, h.ol.below hb, own_below h.od hb, h.da, bT h.bl hb, h.hb, h.kp.below hb⟩
theorem Sol.facts (h : Sol w w0 b V bud st ms ls D tr vc vl vd W) : b < W.heap.size ∧ W.cell? ⟨b, 0, none⟩ = some (.int .i64 V) ∧ W.cell? ⟨b, 1, none⟩ = some (.int .i64 bud) ∧ W.cell? ⟨b, 2, none⟩ = some (.int .i64 st) ∧ W.cell? ⟨b, 3, none⟩ = some vc ∧ W.cell? ⟨b, 4, none⟩ = some vl ∧ W.cell? ⟨b, 5, none⟩ = some vd ∧ ∀ k, W.frozen? ⟨b, k, none⟩ = false :=
  ⟨h.blk.lt, h.blk.fld 0 (by omega), h.blk.fld 1 (by omega), h.blk.fld 2 (by omega), h.blk.fld 3 (by omega), h.blk.fld 4 (by omega), h.blk.fld 5 (by omega), fun k => h.blk.frozen k⟩
theorem Sol.step (h : Sol w w0 b V bud st ms ls D tr vc vl vd W) (x : Int) : Sol w w0 b V bud x ms ls D tr vc vl vd (W.setCell ⟨b, 2, none⟩ (.int .i64 x)) :=
  ⟨h.blk.setF 2 (by omega) _, own_box h.rc h.blk.2 (by decide) _ _, owc_box h.ol h.blk.2 (by decide) (by decide) _ _, own_box h.od h.blk.2 (by decide) _ _, h.da, h.bl.setCell (p := ⟨b, 2, none⟩) h.hb _, h.hb, h.kp.set h.blk.2 (by decide) _ _⟩
/-- The values turned alone. -/
theorem Sol.vals (h : Sol w w0 b V bud st ms ls D tr vc vl vd W) {tr' : List Int} (ho : Only b W W') (hv : VAt (SF V bud st vc vl vd) W' b tr') : Sol w w0 b V bud st ms ls D tr' vc vl vd W' :=
  ⟨hv, own_only h.rc ho h.blk.2 (by decide), owc_only h.ol ho h.blk.2 (by decide) (by decide), own_only h.od ho h.blk.2 (by decide), h.da, Only.below h.bl h.hb ho, h.hb, h.kp.only ho h.blk.2 (by decide)⟩
theorem Sol.slot (h : Sol w w0 b V bud st ms ls D tr vc vl vd W) {e : TypeId} {m n B : Nat} {v : Value} {xs : List Value} (hv : W.ownsRow B e m v n xs) (he : e ≠ 63) (hg : W.grownBy W' v.ownBlock) : VAt (SF V bud st vc vl vd) W' b tr :=
  h.blk.kept (hg.block b h.blk.lt (fun e' => by
    obtain ⟨cur, hc⟩ := own_kind hv e'.symm
    rw [h.blk.2] at hc
    cases hc
    exact he rfl))
/-- The decisions turned, in a world that grew at their row alone. -/
theorem Sol.decide (h : Sol w w0 b V bud st ms ls D tr vc vl vd W) {D' : List Int} {vd' : Value} (hg : W.grownBy W' vd.ownBlock) (ho : W'.ownsRow w.heap.size 2 1 vd' D'.length (valsZ D')) (hn : ∀ j, vd'.ownBlock = some j → vd.ownBlock = some j ∨ j = W.heap.size) :
    Sol w w0 b V bud st ms ls D' tr vc vl vd' (W'.setCell ⟨b, 5, none⟩ vd') := by
  have bk := h.slot h.od (by decide) hg
  have lr : ∀ r ∈ ls, W'.ownsRow w.heap.size 2 1 r.1 r.2.length (valsZ r.2) := fun r hr => (h.ol.each r hr).kept hg (by
    rcases hj : r.1.ownBlock with _ | j
    · exact .inl rfl
    · exact .inr (fun e => h.da r hr j hj e.symm))
  have oc : OwC W' w.heap.size vl ls := ⟨h.ol.row.kept hg (own_diff h.ol.row h.od (by decide)), lr, h.ol.diff⟩
  refine ⟨bk.setF 5 (by omega) _, own_box (h.rc.kept hg (own_diff h.rc h.od (by decide))) bk.2 (by decide) _ _, owc_box oc bk.2 (by decide) (by decide) _ _, own_box ho bk.2 (by decide) _ _, fun r hr j hj e => ?_, (h.bl.grown hg h.bl.size (fun j hj => (h.od.lt j hj).1)).setCell (p := ⟨b, 5, none⟩) h.hb _, h.hb, (h.kp.grown h.od (by decide) hg).set bk.2 (by decide) _ _⟩
  rcases hn j e with e2 | e2
  · exact h.da r hr j hj e2
  · have := ((h.ol.each r hr).lt j hj).2
    omega
/-- One decision less. -/
theorem Sol.pop (h : Sol w w0 b V bud st ms ls D tr vc vl vd W) {s : Option Addr} {k : Nat} (e : vd = .slice s D.length k) : Sol w w0 b V bud st ms ls D.dropLast tr vc vl (.slice s (D.length - 1) k) (W.setCell ⟨b, 5, none⟩ (.slice s (D.length - 1) k)) := by
  subst e
  have ho : W.ownsRow w.heap.size 2 1 (.slice s (D.length - 1) k) D.dropLast.length (valsZ D.dropLast) := by
    refine ⟨by simp [valsZ], ?_⟩
    rcases h.od.2 with ⟨h1, h0⟩ | ⟨g, cap, cur, hv, hg, hh, h1, h2, h3, h4⟩
    · have : D = [] := List.eq_nil_of_length_eq_zero h0
      subst this
      cases h1
      exact .inl ⟨rfl, rfl⟩
    · cases hv
      refine .inr ⟨g, k, cur, by simp, hg, hh, by simp; omega, h2, h3, ?_⟩
      have : valsZ D.dropLast = (valsZ D).take (D.length - 1) := by simp [valsZ, List.dropLast_eq_take]
      rw [this, ← h4, List.take_take, List.length_dropLast]
      congr 1
      omega
  have hs : (Value.slice s (D.length - 1) k).ownBlock = (Value.slice s D.length k).ownBlock := by cases s <;> rfl
  exact ⟨h.blk.setF 5 (by omega) _, own_box h.rc h.blk.2 (by decide) _ _, owc_box h.ol h.blk.2 (by decide) (by decide) _ _, own_box ho h.blk.2 (by decide) _ _, fun r hr j hj e => h.da r hr j hj (by rw [← hs]; exact e), h.bl.setCell (p := ⟨b, 5, none⟩) h.hb _, h.hb, h.kp.set h.blk.2 (by decide) _ _⟩
/-- One lemma more. -/
theorem Sol.lemma (h : Sol w w0 b V bud st ms ls D tr vc vl vd W) {r : LCl} {vl' : Value} (hr : W.ownsRow w.heap.size 2 1 r.1 r.2.length (valsZ r.2)) (hf : ∀ j, r.1.ownBlock = some j → (∀ s ∈ ls, s.1.ownBlock ≠ some j) ∧ vd.ownBlock ≠ some j) (hg : W.grownBy W' vl.ownBlock) (ho : W'.ownsRow w.heap.size 28 1 vl' (ls.length + 1) (hdC ls ++ [r.1])) :
    Sol w w0 b V bud st ms (ls ++ [r]) D tr vc vl' vd (W'.setCell ⟨b, 4, none⟩ vl') := by
  have bk := h.slot h.ol.row (by decide) hg
  have oc := h.ol.add (Below.refl _ _) hr (fun j hj s hs => (hf j hj).1 s hs) hg ho
  refine ⟨bk.setF 4 (by omega) _, own_box (h.rc.kept hg (own_diff h.rc h.ol.row (by decide))) bk.2 (by decide) _ _, owc_box oc bk.2 (by decide) (by decide) _ _, own_box (h.od.kept hg (own_diff h.od h.ol.row (by decide))) bk.2 (by decide) _ _, fun s hs j hj => ?_, (h.bl.grown hg h.bl.size (fun j hj => (h.ol.row.lt j hj).1)).setCell (p := ⟨b, 4, none⟩) h.hb _, h.hb, (h.kp.grown h.ol.row (by decide) hg).set bk.2 (by decide) _ _⟩
  rcases List.mem_append.1 hs with h1 | h1
  · exact h.da s h1 j hj
  · rw [List.mem_singleton.1 h1] at hj
    exact (hf j hj).2
/-- One clause more. -/
theorem Sol.clause (h : Sol w w0 b V bud st ms ls D tr vc vl vd W) {r : LCl} {vc' : Value} (hg : W.grownBy W' vc.ownBlock) (ho : W'.ownsRow w.heap.size 121 1 vc' ((hdC ms).length + 1) (hdC ms ++ [r.1])) :
    Sol w w0 b V bud st (ms ++ [r]) ls D tr vc' vl vd (W'.setCell ⟨b, 3, none⟩ vc') := by
  have bk := h.slot h.rc (by decide) hg
  have lr : ∀ r ∈ ls, W'.ownsRow w.heap.size 2 1 r.1 r.2.length (valsZ r.2) := fun r hr => (h.ol.each r hr).kept hg (own_diff (h.ol.each r hr) h.rc (by decide))
  have oc : OwC W' w.heap.size vl ls := ⟨h.ol.row.kept hg (own_diff h.ol.row h.rc (by decide)), lr, h.ol.diff⟩
  have ho' : W'.ownsRow w.heap.size 121 1 vc' (hdC (ms ++ [r])).length (hdC (ms ++ [r])) := by
    rw [hdC_add, List.length_append]; exact ho
  exact ⟨bk.setF 3 (by omega) _, own_box ho' bk.2 (by decide) _ _, owc_box oc bk.2 (by decide) (by decide) _ _, own_box (h.od.kept hg (own_diff h.od h.rc (by decide))) bk.2 (by decide) _ _, h.da, (h.bl.grown hg h.bl.size (fun j hj => (h.rc.lt j hj).1)).setCell (p := ⟨b, 3, none⟩) h.hb _, h.hb, (h.kp.grown h.rc (by decide) hg).set bk.2 (by decide) _ _⟩
end
theorem ints_new (w : World) (z : Int) : Ints (w.alloc (.cells #[.int .i64 z] 2)) (some ⟨w.heap.size, 0, none⟩) [z] := by
  refine .inr ⟨w.heap.size, 0, rfl, by simp, fun i hi => ?_⟩
  have : i = 0 := by simpa using hi
  subst this
  have h := new_at w (.cells #[.int .i64 z] 2)
  generalize w.alloc (.cells #[.int .i64 z] 2) = W at *
  simp [World.cell?, h]

set_option maxRecDepth 100000 in
set_option maxHeartbeats 1000000 in
/-- stackOf.push. -/
theorem push_any {w w0 : World} {b : Nat} {V bud st : Int} {ms ls : List LCl} {D tr : List Int} {vc vl vd : Value} (z : Int) (W : World) (h : Sol w w0 b V bud st ms ls D tr vc vl vd W) (hl : D.length ≤ 1000) :
    Calls Try.prog 59 #[.pointer (some ⟨b, 5, none⟩), .int .i64 z] W fun e w' => e = .returned (.tuple #[]) ∧ ∃ vd', Sol w w0 b V bud st ms ls (D ++ [z]) tr vc vl vd' w' := by
  obtain ⟨hlt, c0, c1, c2, c3, c4, c5, hf⟩ := h.facts
  have HA := h.below (bA0 W (.cells #[.int .i64 z] 2))
  obtain ⟨v9, w9, ha, ow, gr, hj⟩ := appZ HA.od 1 (ints_new W z) (by have := HA.bl.size; exact this) (by simp; omega)
  have bk := HA.slot HA.od (by decide) gr
  have q5 := bk.fld 5 (by omega)
  have f5 := bk.frozen 5
  have l5 := bk.lt
  have R := Lib.hid (HA.decide gr ow hj)
  have ha' := ha 28
  obtain ⟨ds, dk, rfl⟩ := own_v h.od
  obtain ⟨s9, k9, rfl⟩ := own_v ow
  dsimp only [List.getElem?_cons_succ, List.getElem?_cons_zero] at q5
  clear h HA hf c0 c1 c2 c3 c4 ha gr hj ow bk
  generalize D.length = fn at *
  generalize (D ++ [z]).length = fn9 at *
  go_enter Try.func59, Try.ntmps59
  go_wp2_with (at_builtin; refine Lib.wpList_append_run _ rfl _ _ _ _ rfl _ _ rfl rfl _ _ ha' ?_)
  go_end0
  exact ⟨rfl, _, R.out⟩

set_option maxRecDepth 100000 in
set_option maxHeartbeats 1000000 in
/-- stackOf.pop, of none. -/
theorem pop_none {w w0 : World} {b : Nat} {V bud st : Int} {ms ls : List LCl} {D tr : List Int} {vc vl vd : Value} (W : World) (h : Sol w w0 b V bud st ms ls D tr vc vl vd W) (h0 : D.length = 0) :
    Calls Try.prog 56 #[.pointer (some ⟨b, 5, none⟩)] W fun e w' => e = .returned (.bool false) ∧ w' = W := by
  obtain ⟨hlt, c0, c1, c2, c3, c4, c5, hf⟩ := h.facts
  obtain ⟨ds, dk, rfl⟩ := own_v h.od
  rw [h0] at c5
  clear h hf c0 c1 c2 c3 c4
  go_enter Try.func56, Try.ntmps56
  go_wp2
  go_ret
  exact ⟨rfl, rfl⟩

theorem below_drew (W : World) : Below W.heap.size W W.drew := (Below.refl _ _).drew

set_option maxRecDepth 100000 in
set_option maxHeartbeats 1000000 in
/-- stackOf.pop. -/
theorem pop_some {w w0 : World} {b : Nat} {V bud st : Int} {ms ls : List LCl} {D tr : List Int} {vc vl vd : Value} (W : World) (h : Sol w w0 b V bud st ms ls D tr vc vl vd W) (h0 : ¬ D.length = 0) (hl : D.length ≤ 1000) :
    Calls Try.prog 56 #[.pointer (some ⟨b, 5, none⟩)] W fun e w' => e = .returned (.bool true) ∧ ∃ vd', Sol w w0 b V bud st ms ls D.dropLast tr vc vl vd' w' := by
  obtain ⟨hlt, c0, c1, c2, c3, c4, c5, hf⟩ := h.facts
  obtain ⟨ds, dk, rfl⟩ := own_v h.od
  have hk := own_cap8 h.od
  have R := Lib.hid ((h.pop rfl).below (below_drew _))
  have f5 := hf 5
  obtain ⟨m, hm⟩ : ∃ m, D.length = m + 1 := ⟨D.length - 1, by omega⟩
  rw [hm, Nat.add_sub_cancel] at R
  rw [hm] at c5 hk hl
  clear h hf c0 c1 c2 c3 c4
  go_enter Try.func56, Try.ntmps56
  go_wp2
  go_region
  go_wp2
  go_ret
  exact ⟨rfl, _, R.out⟩

set_option maxRecDepth 100000 in
set_option maxHeartbeats 1000000 in
/-- solver.spend. -/
theorem spend_some {w w0 : World} {b : Nat} {V bud st : Int} {ms ls : List LCl} {D tr : List Int} {vc vl vd : Value} (W : World) (h : Sol w w0 b V bud st ms ls D tr vc vl vd W) (h0 : ¬ st = bud) (h1 : 0 ≤ st) (h2 : st ≤ 1000) :
    Calls Try.prog 53 #[.pointer (some ⟨b, 0, none⟩)] W fun e w' => e = .returned (.tuple #[]) ∧ Sol w w0 b V bud (st + 1) ms ls D tr vc vl vd w' := by
  obtain ⟨hlt, c0, c1, c2, c3, c4, c5, hf⟩ := h.facts
  have R := Lib.hid ((h.below (below_drew W)).step (st + 1))
  have f2 := hf 2
  have h0' : (st == bud) = false := by simpa using h0
  have hw : wrap64 (st + 1) = st + 1 := wrap_in _ ⟨by omega, by omega⟩
  clear h hf c0 c3 c4 c5
  go_enter Try.func53, Try.ntmps53
  go_wp2
  go_region
  go_wp2
  go_end0
  exact ⟨rfl, R.out⟩

/-- What is thrown. -/
def thrown : List PanicEntry := [{ v := .iface 9 (.string { data := #[116, 104, 101, 32, 98, 117, 100, 103, 101, 116, 32, 105, 115, 32, 117, 115, 101, 100, 32, 117, 112] }), recovered := false }]

set_option maxRecDepth 100000 in
set_option maxHeartbeats 1000000 in
theorem spend_none {w w0 : World} {b : Nat} {V bud st : Int} {ms ls : List LCl} {D tr : List Int} {vc vl vd : Value} (W : World) (h : Sol w w0 b V bud st ms ls D tr vc vl vd W) (h0 : st = bud) :
    Calls Try.prog 53 #[.pointer (some ⟨b, 0, none⟩)] W fun e w' => e = .panicked thrown ∧ Sol w w0 b V bud st ms ls D tr vc vl vd w' := by
  obtain ⟨hlt, c0, c1, c2, c3, c4, c5, hf⟩ := h.facts
  have R := Lib.hid (h.below (below_drew W))
  subst h0
  clear h hf c0 c3 c4 c5
  go_enter Try.func53, Try.ntmps53
  go_wp2
  go_region
  go_wp2
  exact ⟨rfl, rfl, R.out⟩

theorem cells5 {W : World} {b : Nat} {v0 v1 v2 v3 v4 : Value} {t : TypeId} (h : W.heap[b]? = some (.cells #[v0, v1, v2, v3, v4] t)) : W.cell? ⟨b, 0, none⟩ = some v0 ∧ W.cell? ⟨b, 1, none⟩ = some v1 ∧ W.cell? ⟨b, 2, none⟩ = some v2 ∧ W.cell? ⟨b, 3, none⟩ = some v3 ∧ W.cell? ⟨b, 4, none⟩ = some v4 := by
  refine ⟨?_, ?_, ?_, ?_, ?_⟩ <;> simp [World.cell?, h]

set_option maxRecDepth 100000 in
set_option maxHeartbeats 1000000 in
/-- solver.told. -/
theorem told_any {w w0 : World} {b : Nat} {V bud st : Int} {ms ls : List LCl} {D tr : List Int} {vc vl vd : Value} (x : Int) (W : World) (h : Sol w w0 b V bud st ms ls D tr vc vl vd W) :
    Calls Try.prog 32 #[.pointer (some ⟨b, 0, none⟩), .int .i64 x] W fun e w' => e = .returned (.agg #[.int .i64 x, .slice none 0 0, vl, .int .i64 st, .int .i64 0]) ∧ Below W.heap.size W w' := by
  have HA := h.below (bA0 W (.cells #[.int .i64 0, .slice none 0 0, .slice none 0 0, .int .i64 0, .int .i64 0] 30))
  obtain ⟨hlt, c0, c1, c2, c3, c4, c5, hf⟩ := HA.facts
  obtain ⟨ls', lk, rfl⟩ := h.ol.v
  have hne : b ≠ W.heap.size := by have := h.facts.1; omega
  have hb := h.facts.1
  clear h hf c0 c1 c3 c5 HA
  go_enter Try.func32, Try.ntmps32
  go_wp2
  go_region
  go_wp2
  have nw := new_at W (.cells #[.int .i64 x, .slice none 0 0, .slice ls' ls.length lk, .int .i64 st, .int .i64 0] 30)
  have BB := Lib.hid ((bA0 W (.cells #[.int .i64 x, .slice none 0 0, .slice ls' ls.length lk, .int .i64 st, .int .i64 0] 30)).drew)
  generalize W.alloc (.cells #[.int .i64 x, .slice none 0 0, .slice ls' ls.length lk, .int .i64 st, .int .i64 0] 30) = W1 at *
  obtain ⟨e0, e1, e2, e3, e4⟩ := cells5 nw
  exact bodyPost_ret (v := .agg #[.int .i64 x, .slice none 0 0, .slice ls' ls.length lk, .int .i64 st, .int .i64 0]) (by simp [results, Try.results32, go_sem, e0, e1, e2, e3, e4]) rfl ⟨rfl, BB.out⟩

theorem own_ne {W : World} {B : Nat} {s : Option Addr} {n k : Nat} {D : List Int} {b : Nat} {us : Array Value} (h : W.ownsRow B 2 1 (.slice s n k) D.length (valsZ D)) (hx : W.heap[b]? = some (.cells us 63)) : D = [] ∨ ∃ c o, s = some ⟨c, o, none⟩ ∧ IntsAt W c o D ∧ c ≠ b := by
  obtain ⟨s', k', e, hi⟩ := own_ints h
  cases e
  rcases hi with hi | ⟨c, o, rfl, hi⟩
  · exact .inl hi
  · by_cases hD : D = []
    · exact .inl hD
    · refine .inr ⟨c, o, rfl, hi, fun e => ?_⟩
      subst e
      obtain ⟨cur, hc⟩ := own_kind h (j := c) (by
        rcases h.2 with ⟨_, h0⟩ | ⟨g, cap, cur, hv, _⟩
        · exact absurd (List.eq_nil_of_length_eq_zero h0) hD
        · cases hv; rfl)
      rw [hx] at hc
      cases hc
theorem Sol.cls {w w0 : World} {b : Nat} {V bud st : Int} {ms ls : List LCl} {D tr : List Int} {vc vl vd : Value} {W : World} (h : Sol w w0 b V bud st ms ls D tr vc vl vd W) (hms : ∀ r ∈ ms, ClIn w r ∨ r ∈ ls) {s : Option Addr} {k : Nat} (e : vc = .slice s ms.length k) (W' : World) (ho : Only b W W') : Cls W' s ms := by
  have hB := Only.below h.bl h.hb ho
  have r1 := own_only h.rc ho h.blk.2 (by decide)
  have r2 := owc_only h.ol ho h.blk.2 (by decide) (by decide)
  obtain ⟨s2, k2, _, hc⟩ := r2.cls
  rw [e, hdC_len] at r1
  refine cls_own r1 (fun r hr => ?_)
  rcases hms r hr with h1 | h1
  · exact h1.below hB
  · exact hc.each r h1

set_option maxRecDepth 100000 in
set_option maxHeartbeats 4000000 in
/-- solver.conflict. -/
theorem conf_any {w w0 : World} {b : Nat} {V : Nat} {bud st : Int} {ms ls : List LCl} {D tr : List Int} {vc vl vd : Value} (W : World) (h : Sol w w0 b V bud st ms ls D tr vc vl vd W) (hms : ∀ r ∈ ms, ClIn w r ∨ r ∈ ls) (hV : V ≤ 96) (hs : SpTo (V : Int) D D.length) (hw : ∀ r ∈ ms, ∀ z ∈ r.2, OkZ (V : Int) z) (hn : ms.length ≤ 100000) :
    Calls Try.prog 54 #[.pointer (some ⟨b, 0, none⟩)] W fun e w' => e = .returned (.bool (!((resF (bareC ms) (97 - D.length) D).2 == -1))) ∧ Sol w w0 b V bud st ms ls D (resF (bareC ms) (97 - D.length) D).1 vc vl vd w' := by
  have hl := hs.short (by omega : (V : Int) ≤ 96)
  obtain ⟨ds, dk, rfl⟩ := own_v h.od
  obtain ⟨cv, ck, ec⟩ := own_v h.rc
  rw [hdC_len] at ec
  subst ec
  have HD := h.below (below_drew W)
  have C1 := Lib.hid (take_any b (V : Int) ds dk D W.drew HD.blk.blk (by omega) (by omega) (by unfold maxLen; omega) (own_ne HD.od HD.blk.2))
  have C2 := Lib.hid (show ∀ W', Sol w w0 b V bud st ms ls D D (.slice cv ms.length ck) vl (.slice ds D.length dk) W' → Calls Try.prog 72 #[.pointer (some ⟨b, 6, none⟩), .slice cv ms.length ck] W' fun e w' => ∃ v fl, e = .returned (.tuple #[v, .int .i64 (resF (bareC ms) (97 - D.length) D).2]) ∧ D ++ fl = (resF (bareC ms) (97 - D.length) D).1 ∧ w'.ownsRow W'.heap.size 2 1 v fl.length (valsZ fl) ∧ Only b W' w' ∧ VAt (SF V bud st (.slice cv ms.length ck) vl (.slice ds D.length dk)) w' b (resF (bareC ms) (97 - D.length) D).1 from fun W' h' => fol_any b (V : Int) D cv ck ms W' h'.blk (by omega) hs (by omega) hw (h'.cls hms rfl))
  obtain ⟨hlt, c0, c1, c2, c3, c4, c5, hf⟩ := h.facts
  have HS := Lib.hid hs
  have HH := Lib.hid HD
  have SFX := Lib.hid (show ∀ W', Sol w w0 b V bud st ms ls D D (.slice cv ms.length ck) vl (.slice ds D.length dk) W' → b < W'.heap.size ∧ W'.cell? ⟨b, 3, none⟩ = some (.slice cv ms.length ck) from fun W' h' => ⟨h'.facts.1, h'.facts.2.2.2.2.1⟩)
  clear h HD hms hw hs c1 c2 c3 c4 hf hn
  generalize resF (bareC ms) (97 - D.length) D = R at *
  generalize hDn : D.length = dn at *
  clear hDn
  generalize ms.length = mn at *
  go_enter Try.func54, Try.ntmps54
  go_wp2
  go_region_with (go_at_call 71; refine C1.out.mono ?_; rintro e w1 ⟨rfl, hv1, ho1, hz1⟩)
  all_goals
    have S1 := Lib.hid (HH.out.vals ho1 (hv1 HS.out))
    obtain ⟨l1, d3⟩ := SFX.out _ S1.out
    have S1d := Lib.hid (S1.out.below (below_drew w1))
    clear hv1 ho1 hz1
    go_wp2
    go_region_with (go_at_call 72; refine (C2.out _ S1d.out).mono ?_; rintro e w2 ⟨v, fl, rfl, hfl, ow, ho2, hv2⟩; have S2 := Lib.hid (S1d.out.vals ho2 hv2); obtain ⟨vs, vk, rfl⟩ := own_v ow; clear ho2 hv2 ow hfl)
    go_wp2
    go_ret
    exact ⟨rfl, S2.out⟩

set_option maxRecDepth 100000 in
set_option maxHeartbeats 4000000 in
/-- solver.learn. -/
theorem learn_any {w w0 : World} {b : Nat} {V bud st : Int} {ms ls : List LCl} {D tr : List Int} {vc vl vd : Value} (W : World) (h : Sol w w0 b V bud st ms ls D tr vc vl vd W) (hD : D.length ≤ 96) (hw : ∀ z ∈ D, -96 ≤ z ∧ z ≤ 96) (hl : ls.length ≤ 1000) (hm : ms.length ≤ 90000) :
    Calls Try.prog 55 #[.pointer (some ⟨b, 0, none⟩)] W fun e w' => e = .returned (.tuple #[]) ∧ ∃ (u vc' vl' : Value), Sol w w0 b V bud st (ms ++ [(u, negL D)]) (ls ++ [(u, negL D)]) D tr vc' vl' vd w' := by
  obtain ⟨ds, dk, rfl⟩ := own_v h.od
  obtain ⟨ds', dk', e', hi⟩ := own_ints h.od
  cases e'
  have C1 := Lib.hid (tu_any ds dk D W hD hw hi)
  obtain ⟨hlt, c0, c1, c2, c3, c4, c5, hf⟩ := h.facts
  have HH := Lib.hid h
  obtain ⟨lv, lk, rfl⟩ := h.ol.v
  obtain ⟨cv, ck, ec⟩ := own_v h.rc
  subst ec
  have KEY := Lib.hid (show ∀ w1, w1.ownsRow W.heap.size 2 1 (.slice (some ⟨W.heap.size, 0, none⟩) D.length D.length) (negL D).length (valsZ (negL D)) → Below W.heap.size W w1 →
      ∃ (s9 : Option Addr) (k9 : Nat) (w9 : World) (s8 : Option Addr) (k8 : Nat) (w8 : World), (Builtin.append_ #[23, 23] 23 #[.slice lv ls.length lk, .slice (some ⟨w1.heap.size, 0, none⟩) 1 1]).run Try.prog (w1.alloc (.cells #[.slice (some ⟨W.heap.size, 0, none⟩) D.length D.length] 28)) = .ok (.slice s9 (ls.length + 1) k9) w9 ∧ (b < w1.heap.size ∧ w1.cell? ⟨b, 4, none⟩ = some (.slice lv ls.length lk) ∧ b < w9.heap.size ∧ w9.cell? ⟨b, 4, none⟩ = some (.slice lv ls.length lk) ∧ w9.cell? ⟨b, 3, none⟩ = some (.slice cv (hdC ms).length ck) ∧ w9.frozen? ⟨b, 4, none⟩ = false) ∧
        (Builtin.append_ #[56, 56] 56 #[.slice cv (hdC ms).length ck, .slice (some ⟨w9.heap.size, 0, none⟩) 1 1]).run Try.prog ((w9.setCell ⟨b, 4, none⟩ (.slice s9 (ls.length + 1) k9)).alloc (.cells #[.slice (some ⟨W.heap.size, 0, none⟩) D.length D.length] 121)) = .ok (.slice s8 ((hdC ms).length + 1) k8) w8 ∧ (b < w8.heap.size ∧ w8.cell? ⟨b, 3, none⟩ = some (.slice cv (hdC ms).length ck) ∧ w8.frozen? ⟨b, 3, none⟩ = false) ∧
        Sol w w0 b V bud st (ms ++ [(.slice (some ⟨W.heap.size, 0, none⟩) D.length D.length, negL D)]) (ls ++ [(.slice (some ⟨W.heap.size, 0, none⟩) D.length D.length, negL D)]) D tr (.slice s8 ((hdC ms).length + 1) k8) (.slice s9 (ls.length + 1) k9) (.slice ds D.length dk) (w8.setCell ⟨b, 3, none⟩ (.slice s8 ((hdC ms).length + 1) k8)) from fun w1 ow b1 => by
    have hBs := HH.out.bl.size
    have H1 := HH.out.below b1
    have H2 := H1.below (bA0 w1 (.cells #[.slice (some ⟨W.heap.size, 0, none⟩) D.length D.length] 28))
    have hz2 : (w1.alloc (.cells #[.slice (some ⟨W.heap.size, 0, none⟩) D.length D.length] 28)).heap.size = w1.heap.size + 1 := by simp
    have hz1 := b1.size
    have or2 := H2.ol.row
    rw [← hdC_len ls] at or2
    obtain ⟨v9, w9, ha9, ow9, gr9⟩ := appH or2 (.slice (some ⟨W.heap.size, 0, none⟩) D.length D.length) rfl w1.heap.size (cell_at_new w1 _ 28) (by omega) (by rw [hdC_len]; omega)
    obtain ⟨s9, k9, rfl⟩ := own_v ow9
    rw [hdC_len] at ow9 ha9 gr9
    have bk9 := H2.slot H2.ol.row (by decide) gr9
    have rr : (w1.alloc (.cells #[.slice (some ⟨W.heap.size, 0, none⟩) D.length D.length] 28)).ownsRow w.heap.size 2 1 (.slice (some ⟨W.heap.size, 0, none⟩) D.length D.length) (negL D).length (valsZ (negL D)) := own_mono (own_below ow (bA0 _ _)) (by omega)
    have S9 := H2.lemma (r := (.slice (some ⟨W.heap.size, 0, none⟩) D.length D.length, negL D)) rr (fun j hj => by
      have hj' : j = W.heap.size := by
        have := (ow.lt j hj).1
        cases hj
        rfl
      subst hj'
      refine ⟨fun s hs e => ?_, fun e => ?_⟩
      · have := ((HH.out.ol.each s hs).lt _ e).2
        omega
      · have := (HH.out.od.lt _ e).2
        omega) gr9 ow9
    have hz9 : ((w9.setCell ⟨b, 4, none⟩ (.slice s9 (ls.length + 1) k9)).alloc (.cells #[.slice (some ⟨W.heap.size, 0, none⟩) D.length D.length] 121)).heap.size = w9.heap.size + 1 := by simp
    have hg9 := gr9.size
    have H8 := S9.below (bA0 _ (.cells #[.slice (some ⟨W.heap.size, 0, none⟩) D.length D.length] 121))
    have cn := cell_at_new (w9.setCell ⟨b, 4, none⟩ (.slice s9 (ls.length + 1) k9)) (.slice (some ⟨W.heap.size, 0, none⟩) D.length D.length) 121
    rw [show (w9.setCell ⟨b, 4, none⟩ (.slice s9 (ls.length + 1) k9)).heap.size = w9.heap.size by simp] at cn
    obtain ⟨v8, w8, ha8, ow8, gr8⟩ := appK H8.rc (.slice (some ⟨W.heap.size, 0, none⟩) D.length D.length) rfl w9.heap.size cn (by omega) (by rw [hdC_len]; omega)
    obtain ⟨s8, k8, rfl⟩ := own_v ow8
    have bk8 := H8.slot H8.rc (by decide) gr8
    have S8 := H8.clause (r := (.slice (some ⟨W.heap.size, 0, none⟩) D.length D.length, negL D)) gr8 ow8
    exact ⟨s9, k9, w9, s8, k8, w8, ha9 23, ⟨H1.facts.1, H1.facts.2.2.2.2.2.1, bk9.lt, bk9.fld 4 (by omega), bk9.fld 3 (by omega), bk9.frozen 4⟩, ha8 56, ⟨bk8.lt, bk8.fld 3 (by omega), bk8.frozen 3⟩, S8⟩)
  clear h hf c0 c1 c2 c3 c4 hi hw HH
  generalize D.length = dn at *
  generalize ls.length = ln at *
  generalize (hdC ms).length = mn at *
  go_enter Try.func55, Try.ntmps55
  go_wp2_with fail
  refine C1.out.mono ?_
  rintro e w1 ⟨rfl, ow, b1⟩
  obtain ⟨s9, k9, w9, s8, k8, w8, ha9, ⟨l1, q4, l9, p4, p3, f4⟩, ha8, ⟨l8, r3, f3⟩, S8⟩ := KEY.out w1 ow b1
  have FIN := Lib.hid S8
  clear KEY S8 ow b1 C1
  go_wp2_with (first | (at_builtin; refine Lib.wpList_append_run _ rfl _ _ _ _ rfl _ _ rfl rfl _ _ ha9 ?_) | (at_builtin; refine Lib.wpList_append_run _ rfl _ _ _ _ rfl _ _ rfl rfl _ _ ha8 ?_))
  go_end0
  exact ⟨rfl, _, _, _, FIN.out⟩
end Go.Proofs.Ytdmnnclbcljdmaa
