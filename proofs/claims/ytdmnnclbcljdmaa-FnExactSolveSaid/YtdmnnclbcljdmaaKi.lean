/-
  UNITS AS THE MODEL FINDS THEM: the values of literals in a row; spec.l08Unit, spec.l08More.
-/
import Derived.Test.YtdmnnclbcljdmaaKh
namespace Go.Proofs.Ytdmnnclbcljdmaa
open Go.RowKit
set_option linter.unusedVariables false

/-- The values of the literals from -V to V. -/
noncomputable def sArr (V : Nat) (tr : List Int) : Array Value := ((List.range (2 * V + 1)).map fun k : Nat => Value.int .i64 (val tr ((k : Int) - (V : Int)))).toArray
def SVAt (w : World) (b V : Nat) (tr : List Int) : Prop := w.heap[b]? = some (.cells (sArr V tr) 2)
theorem sArr_size (V : Nat) (tr : List Int) : (sArr V tr).size = 2 * V + 1 := by simp [sArr]
theorem sArr_at (V : Nat) (tr : List Int) (k : Nat) (h : k < 2 * V + 1) : (sArr V tr)[k]? = some (.int .i64 (val tr ((k : Int) - (V : Int)))) := by simp [sArr, h]
theorem SVAt.lt {w : World} {b V : Nat} {tr : List Int} (h : SVAt w b V tr) : b < w.heap.size := (Array.getElem?_eq_some_iff.1 h).1
theorem SVAt.cell {w : World} {b V : Nat} {tr : List Int} (h : SVAt w b V tr) (k : Nat) (hk : k < 2 * V + 1) : w.cell? ⟨b, k, none⟩ = some (.int .i64 (val tr ((k : Int) - (V : Int)))) := by
  have : w.cell? ⟨b, k, none⟩ = (sArr V tr)[k]? := by unfold SVAt at h; simp [World.cell?, h]
  rw [this, sArr_at V tr k hk]
theorem SVAt.frozen {w : World} {b V : Nat} {tr : List Int} (h : SVAt w b V tr) (k : Nat) : w.frozen? ⟨b, k, none⟩ = false := by unfold SVAt at h; simp [World.frozen?, h]
theorem SVAt.below {w w' : World} {b V : Nat} {tr : List Int} (h : SVAt w b V tr) (hb : Below w.heap.size w w') : SVAt w' b V tr := (hb.block b h.lt).trans h
theorem sArr_put (V : Nat) (tr : List Int) (z : Int) (i j : Nat) (hi : (i : Int) = z + V) (hj : (j : Int) = (V : Int) - z) (h1 : z ∉ tr) (h2 : -z ∉ tr) (h0 : z ≠ 0) : ((sArr V tr).setIfInBounds i (.int .i64 1)).setIfInBounds j (.int .i64 (-1)) = sArr V (tr ++ [z]) := by
  apply Array.ext
  · simp [sArr]
  · intro k a1 a2
    simp only [Array.size_setIfInBounds] at a1
    rw [Array.getElem_setIfInBounds (by simpa using a1)]
    have hs : (sArr V (tr ++ [z]))[k] = .int .i64 (val (tr ++ [z]) ((k : Int) - (V : Int))) := by simp [sArr]
    rw [hs]
    by_cases hjk : j = k
    · subst hjk
      rw [if_pos rfl, show ((j : Int) - (V : Int)) = -z by omega, val_neg (by simp; exact ⟨h2, by omega⟩) (by simp)]
    · rw [if_neg hjk, Array.getElem_setIfInBounds (by simpa using a1)]
      by_cases hik : i = k
      · subst hik
        rw [if_pos rfl, show ((i : Int) - (V : Int)) = z by omega, val_yes (by simp)]
      · rw [if_neg hik]
        have ht : (sArr V tr)[k]'(by simpa using a1) = .int .i64 (val tr ((k : Int) - (V : Int))) := by simp [sArr]
        rw [ht]
        have e1 : (((k : Int) - (V : Int)) ∈ tr ++ [z]) ↔ ((k : Int) - (V : Int)) ∈ tr := by
          simp only [List.mem_append, List.mem_singleton]
          exact ⟨fun h => by rcases h with h | h; exact h; omega, .inl⟩
        have e2 : (-((k : Int) - (V : Int)) ∈ tr ++ [z]) ↔ -((k : Int) - (V : Int)) ∈ tr := by
          simp only [List.mem_append, List.mem_singleton]
          exact ⟨fun h => by rcases h with h | h; exact h; omega, .inl⟩
        rw [val_iff e1 e2]
theorem SVAt.put {w : World} {b V : Nat} {tr : List Int} (h : SVAt w b V tr) (z : Int) (i j : Nat) (hi : (i : Int) = z + V) (hj : (j : Int) = (V : Int) - z) (h1 : z ∉ tr) (h2 : -z ∉ tr) (h0 : z ≠ 0) : SVAt ((w.setCell ⟨b, i, none⟩ (.int .i64 1)).setCell ⟨b, j, none⟩ (.int .i64 (-1))) b V (tr ++ [z]) := by
  have := heap_setCell_same _ b j _ 2 (.int .i64 (-1)) (heap_setCell_same w b i (sArr V tr) 2 (.int .i64 1) h)
  rw [sArr_put V tr z i j hi hj h1 h2 h0] at this
  exact this

theorem unit_true {tr zs : List Int} {z : Int} (hz : z ∈ zs) (h : val tr z = 1) : unitOf tr zs = none := by
  have hm : z ∈ nfl tr zs := List.mem_filter.2 ⟨hz, by simp [h]⟩
  unfold unitOf
  match hx : nfl tr zs with
  | [] => rw [hx] at hm; simp at hm
  | [a] =>
    rw [hx] at hm
    have : z = a := by simpa using hm
    subst this
    simp [h]
  | a :: c :: r => rfl
theorem unit_two {tr zs : List Int} (h : 2 ≤ (nfl tr zs).length) : unitOf tr zs = none := by
  unfold unitOf
  match hx : nfl tr zs with
  | [] => rw [hx] at h; simp at h
  | [a] => rw [hx] at h; simp at h
  | a :: c :: r => rfl
/-- What the model tells of a clause. -/
def uR (o : Option Int) : Int × Bool := match o with
  | none => (0, false)
  | some z => (z, z == 0)

set_option maxRecDepth 100000 in
set_option maxHeartbeats 2000000 in
/-- spec.l08Unit. -/
theorem su_any (b V : Nat) (tr : List Int) (sl : Option Addr) (cap : Nat) (zs : List Int) (w : World) (hV : V ≤ 96) (hv : SVAt w b V tr) (hn : zs.length ≤ maxLen) (hw : ∀ z ∈ zs, OkZ (V : Int) z) (hz : Ints w sl zs) :
    Calls Try.prog 50 #[.slice (some ⟨b, 0, none⟩) (2 * V + 1) (2 * V + 1), .slice sl zs.length cap, .int .i64 (V : Int)] w fun e w' => e = .returned (.tuple #[.int .i64 (uR (unitOf tr zs)).1, .bool (uR (unitOf tr zs)).2]) ∧ w' = w := by
  unfold maxLen at hn
  have VC := Lib.hid (show ∀ z, OkZ (V : Int) z → ∃ i : Nat, (i : Int) = z + V ∧ i < 2 * V + 1 ∧ w.cell? ⟨b, i, none⟩ = some (.int .i64 (val tr z)) from fun z h => by
    have h2 := h.2.1
    have h3 := h.2.2
    refine ⟨(z + V).toNat, by omega, by omega, ?_⟩
    rw [hv.cell _ (by omega), show (((z + V).toNat : Nat) : Int) - (V : Int) = z by omega])
  have OK := Lib.hid (show ∀ k, k < zs.length → OkZ (V : Int) (zs.getD k 0) from fun k hk => hw _ (by simp [hk]))
  have UT := Lib.hid (show ∀ k, k < zs.length → val tr (zs.getD k 0) = 1 → unitOf tr zs = none from fun k hk h => unit_true (by simp [hk]) h)
  have ST := Lib.hid (fun k h => nfl_step tr zs k h)
  have MO := Lib.hid (fun k => nfl_more tr zs k)
  have U2 := Lib.hid (show 2 ≤ (nfl tr zs).length → unitOf tr zs = none from unit_two)
  have UE := Lib.hid (show ∀ k op, zs.length ≤ k → ((nfl tr (zs.take k) = [] ∧ op = 0) ∨ (nfl tr (zs.take k) = [op] ∧ op ≠ 0 ∧ val tr op = 0)) → unitOf tr zs = some op from fun k op hk h => by
    rw [List.take_of_length_le hk] at h
    unfold unitOf
    rcases h with ⟨h1, h2⟩ | ⟨h1, _, h3⟩
    · rw [h1, h2]
    · rw [h1]; simp [h3])
  have HZ := Lib.hid hz
  have N0 := Lib.hid (show nfl tr (zs.take 0) = [] by simp [nfl])
  have hlt := hv.lt
  clear hv hw hz
  generalize unitOf tr zs = U at *
  generalize hN : zs.length = n at *
  have HN := Lib.hid hN
  clear hN
  generalize hM : 2 * V + 1 = M at *
  go_enter Try.func50, Try.ntmps50
  go_wp2
  go_loopw [8, 9] (fun o i wr => ∃ (k : Nat) (op : Int), i = .int .i64 k ∧ k ≤ n ∧ o = .int .i64 op ∧ Hid ((nfl tr (zs.take k) = [] ∧ op = 0) ∨ (nfl tr (zs.take k) = [op] ∧ op ≠ 0 ∧ val tr op = 0)) ∧ wr = w) (fun _ i _ => n - (intOf i).toNat)
  case atStart => exact ⟨0, 0, rfl, Nat.zero_le _, rfl, .inl ⟨N0.out, rfl⟩, rfl⟩
  case round =>
    obtain ⟨k, op, rfl, hk, rfl, HP, rfl⟩ := hrel
    have hk0 : (0 : Int) ≤ (k : Int) := by omega
    by_cases g1 : k < n
    · have g1' : (k : Int) < (n : Int) := by omega
      have hlt2 : k < zs.length := by rw [HN.out]; exact g1
      obtain ⟨c, o, rfl, ZI⟩ : ∃ c o, sl = some ⟨c, o, none⟩ ∧ IntsAt wr c o zs := by
        rcases HZ.out with e | h
        · rw [e] at hlt2; simp at hlt2
        · exact h
      have hcell := ZI.2 k hlt2
      obtain ⟨i, hi, hiM, hvc⟩ := VC.out _ (OK.out k g1)
      have okz := OK.out k g1
      have S1 := Lib.hid (ST.out k g1)
      have M1 := Lib.hid (MO.out (k + 1))
      have T1 := Lib.hid (UT.out k g1)
      clear ZI hlt2 ST MO HZ OK UT VC
      generalize zs.getD k 0 = z at *
      obtain ⟨oz1, oz2, oz3⟩ := okz
      have hi0 : (0 : Int) ≤ z + (V : Int) := by omega
      have hi1 : z + (V : Int) < (M : Int) := by omega
      have hi2 : z + (V : Int) ≤ 9223372036854775807 := by omega
      have hi3 : -9223372036854775808 ≤ z + (V : Int) := by omega
      have hin : (z + (V : Int)).toNat = i := by omega
      clear hi
      by_cases v1 : val tr z = 1
      · have E := Lib.hid (T1.out v1)
        rw [v1] at hvc
        clear S1 M1 T1 HP v1 UE U2
        go_wp2
        go_ret2
        exact ⟨by rw [E.out]; rfl, rfl⟩
      · by_cases v0 : val tr z = 0
        · rw [if_pos (by omega)] at S1
          rw [v0] at hvc
          by_cases ho : op = 0
          · subst ho
            have P1 := Lib.hid (show (nfl tr (zs.take (k + 1)) = [] ∧ z = 0) ∨ (nfl tr (zs.take (k + 1)) = [z] ∧ z ≠ 0 ∧ val tr z = 0) by
              rcases HP.out with ⟨h1, _⟩ | ⟨_, h2, _⟩
              · rw [S1.out, h1]; exact .inr ⟨rfl, oz1, v0⟩
              · exact absurd rfl h2)
            clear HP S1 M1 T1 v1 v0 UE U2
            go_wp2
            go_roundw
            case rel => exact ⟨k + 1, z, by go_num, by omega, rfl, P1, trivial⟩
            case measure => simp [intOf]; omega
          · have E := Lib.hid (U2.out (by
              rcases HP.out with ⟨_, h2⟩ | ⟨h1, _, _⟩
              · exact absurd h2 ho
              · have := M1.out; rw [S1.out, h1] at this; simpa using this))
            have ho' : (op == 0) = false := by simpa using ho
            clear HP S1 M1 T1 v1 v0 UE U2
            go_wp2
            go_ret2
            exact ⟨by rw [E.out]; rfl, rfl⟩
        · have vm : val tr z = -1 := by rcases val_cases tr z with ⟨e, _⟩ | ⟨e, _⟩ | ⟨e, _⟩ <;> omega
          rw [if_neg (by omega)] at S1
          rw [vm] at hvc
          have P1 := Lib.hid (show (nfl tr (zs.take (k + 1)) = [] ∧ op = 0) ∨ (nfl tr (zs.take (k + 1)) = [op] ∧ op ≠ 0 ∧ val tr op = 0) by rw [S1.out]; exact HP.out)
          clear HP S1 M1 T1 v1 v0 vm UE U2
          go_wp2
          go_roundw
          case rel => exact ⟨k + 1, op, by go_num, by omega, rfl, P1, trivial⟩
          case measure => simp [intOf]; omega
    · have g1' : ¬ (k : Int) < (n : Int) := by omega
      have E := Lib.hid (UE.out k op (by omega) HP.out)
      clear HP ST MO UE U2 UT OK VC
      go_wp2
      go_ret2
      exact ⟨by rw [E.out]; rfl, rfl⟩


end Go.Proofs.Ytdmnnclbcljdmaa
