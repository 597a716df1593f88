/-
  A CLOCK'S NUMBERS, and the Ids of the Bids of a State.
-/
import Derived.Test.YtanoklpffenljaaGreatDoorCc
namespace Go.Proofs.YtanoklpffenljaaGreatDoor
open Go.RowKit
set_option linter.unusedVariables false

def BudR (b : Int) : Prop := 0 ≤ b ∧ b ≤ 300
theorem bud_any (b : Int) (w : World) : Calls Tryz.prog 99 #[.int .i64 b] w fun e w' => e = .returned (.bool (B (BudR b))) ∧ w = w' := by
  by_cases h0 : 0 ≤ b
  · by_cases h1 : b ≤ 300
    · rw [B_yes ⟨h0, h1⟩]
      go_enter Tryz.func99, Tryz.ntmps99
      go_wp2
      go_ret
      exact ⟨rfl, rfl⟩
    · rw [B_no (fun h => h1 h.2)]
      go_enter Tryz.func99, Tryz.ntmps99
      go_wp2
      go_ret
      exact ⟨rfl, rfl⟩
  · rw [B_no (fun h => h0 h.1)]
    go_enter Tryz.func99, Tryz.ntmps99
    go_wp2
    go_ret
    exact ⟨rfl, rfl⟩
theorem sbd_any (b : Int) (w : World) : Calls Tryz.prog 92 #[.int .i64 b] w fun e w' => e = .returned (.bool (B (BudR b))) ∧ w = w' := by
  by_cases h0 : 0 ≤ b
  · by_cases h1 : b ≤ 300
    · rw [B_yes ⟨h0, h1⟩]
      go_enter Tryz.func92, Tryz.ntmps92
      go_wp2
      go_ret
      exact ⟨rfl, rfl⟩
    · rw [B_no (fun h => h1 h.2)]
      go_enter Tryz.func92, Tryz.ntmps92
      go_wp2
      go_ret
      exact ⟨rfl, rfl⟩
  · rw [B_no (fun h => h0 h.1)]
    go_enter Tryz.func92, Tryz.ntmps92
    go_wp2
    go_ret
    exact ⟨rfl, rfl⟩
/-- The numbers of a clock. -/
def NumR (top pr st bu : Int) : Prop := (2 ≤ top ∧ top ≤ 51) ∧ (0 ≤ pr ∧ pr ≤ 1000000) ∧ (1 ≤ st ∧ st ≤ 1000000) ∧ BudR bu
set_option maxHeartbeats 2000000 in
theorem num_any (top pr st bu : Int) (w : World) : Calls Tryz.prog 62 #[.int .i64 top, .int .i64 pr, .int .i64 st, .int .i64 bu] w fun e w' => e = .returned (.bool (B (NumR top pr st bu))) ∧ w = w' := by
  have E := Lib.hid (bud_any bu)
  by_cases h1 : 2 ≤ top
  case neg =>
    rw [B_no (fun h => h1 h.1.1)]
    go_enter Tryz.func62, Tryz.ntmps62
    go_wp2
    go_ret
    exact ⟨rfl, rfl⟩
  by_cases h2 : top ≤ 51
  case neg =>
    rw [B_no (fun h => h2 h.1.2)]
    go_enter Tryz.func62, Tryz.ntmps62
    go_wp2
    go_ret
    exact ⟨rfl, rfl⟩
  by_cases h3 : 0 ≤ pr
  case neg =>
    rw [B_no (fun h => h3 h.2.1.1)]
    go_enter Tryz.func62, Tryz.ntmps62
    go_wp2
    go_ret
    exact ⟨rfl, rfl⟩
  by_cases h4 : pr ≤ 1000000
  case neg =>
    rw [B_no (fun h => h4 h.2.1.2)]
    go_enter Tryz.func62, Tryz.ntmps62
    go_wp2
    go_ret
    exact ⟨rfl, rfl⟩
  by_cases h5 : 1 ≤ st
  case neg =>
    rw [B_no (fun h => h5 h.2.2.1.1)]
    go_enter Tryz.func62, Tryz.ntmps62
    go_wp2
    go_ret
    exact ⟨rfl, rfl⟩
  by_cases h6 : st ≤ 1000000
  case neg =>
    rw [B_no (fun h => h6 h.2.2.1.2)]
    go_enter Tryz.func62, Tryz.ntmps62
    go_wp2
    go_ret
    exact ⟨rfl, rfl⟩
  have hb : B (NumR top pr st bu) = B (BudR bu) := B_iff ⟨fun h => h.2.2.2, fun h => ⟨⟨h1, h2⟩, ⟨h3, h4⟩, ⟨h5, h6⟩, h⟩⟩
  rw [hb]
  clear hb
  generalize B (BudR bu) = r at *
  go_enter Tryz.func62, Tryz.ntmps62
  go_wp2_with fail
  refine (E.out _).mono ?_
  rintro e w1 ⟨rfl, rfl⟩
  go_wp2
  go_ret
  exact ⟨rfl, rfl⟩
set_option maxHeartbeats 2000000 in
theorem snum_any (top pr st bu : Int) (w : World) : Calls Tryz.prog 51 #[.int .i64 top, .int .i64 pr, .int .i64 st, .int .i64 bu] w fun e w' => e = .returned (.bool (B (NumR top pr st bu))) ∧ w = w' := by
  have E := Lib.hid (sbd_any bu)
  by_cases h1 : 2 ≤ top
  case neg =>
    rw [B_no (fun h => h1 h.1.1)]
    go_enter Tryz.func51, Tryz.ntmps51
    go_wp2
    go_ret
    exact ⟨rfl, rfl⟩
  by_cases h2 : top ≤ 51
  case neg =>
    rw [B_no (fun h => h2 h.1.2)]
    go_enter Tryz.func51, Tryz.ntmps51
    go_wp2
    go_ret
    exact ⟨rfl, rfl⟩
  by_cases h3 : 0 ≤ pr
  case neg =>
    rw [B_no (fun h => h3 h.2.1.1)]
    go_enter Tryz.func51, Tryz.ntmps51
    go_wp2
    go_ret
    exact ⟨rfl, rfl⟩
  by_cases h4 : pr ≤ 1000000
  case neg =>
    rw [B_no (fun h => h4 h.2.1.2)]
    go_enter Tryz.func51, Tryz.ntmps51
    go_wp2
    go_ret
    exact ⟨rfl, rfl⟩
  by_cases h5 : 1 ≤ st
  case neg =>
    rw [B_no (fun h => h5 h.2.2.1.1)]
    go_enter Tryz.func51, Tryz.ntmps51
    go_wp2
    go_ret
    exact ⟨rfl, rfl⟩
  by_cases h6 : st ≤ 1000000
  case neg =>
    rw [B_no (fun h => h6 h.2.2.1.2)]
    go_enter Tryz.func51, Tryz.ntmps51
    go_wp2
    go_ret
    exact ⟨rfl, rfl⟩
  have hb : B (NumR top pr st bu) = B (BudR bu) := B_iff ⟨fun h => h.2.2.2, fun h => ⟨⟨h1, h2⟩, ⟨h3, h4⟩, ⟨h5, h6⟩, h⟩⟩
  rw [hb]
  clear hb
  generalize B (BudR bu) = r at *
  go_enter Tryz.func51, Tryz.ntmps51
  go_wp2_with fail
  refine (E.out _).mono ?_
  rintro e w1 ⟨rfl, rfl⟩
  go_wp2
  go_ret
  exact ⟨rfl, rfl⟩

/-- (bidState).holds and lacks. -/
theorem hol_any (k x y z : Int) (w : World) : Calls Tryz.prog 69 #[.int .i64 k, .agg #[.int .i64 x, .int .i64 y, .int .i64 z]] w fun e w' => e = .returned (.bool (y == k)) ∧ Below w.heap.size w w' := by
  go_enter Tryz.func69, Tryz.ntmps69
  go_wp2
  go_ret
  exact ⟨rfl, bA0 _ _⟩
theorem lac_any (k x y z : Int) (w : World) : Calls Tryz.prog 138 #[.int .i64 k, .agg #[.int .i64 x, .int .i64 y, .int .i64 z]] w fun e w' => e = .returned (.bool (y != k)) ∧ Below w.heap.size w w' := by
  go_enter Tryz.func138, Tryz.ntmps138
  go_wp2
  go_ret
  exact ⟨rfl, bA0 _ _⟩

/-- The Ids of the Bids of a State. -/
def stIds (k : Int) (bs : List LPr) : List Int := (bs.filter fun b => b.2.1 == k).map fun b => b.1
theorem stIds_len (k : Int) (bs : List LPr) : (stIds k bs).length ≤ bs.length := by unfold stIds; rw [List.length_map]; exact List.length_filter_le _ _
theorem stIds_yes (k : Int) (bs : List LPr) (j : Nat) (h : j < bs.length) (hk : (bs[j].2.1 == k) = true) : stIds k (bs.take (j + 1)) = stIds k (bs.take j) ++ [bs[j].1] := by
  unfold stIds
  rw [List.take_add_one, List.getElem?_eq_getElem h]
  simp only [Option.toList_some, List.filter_append, List.map_append]
  rw [List.filter_cons_of_pos (by exact hk)]
  rfl
theorem stIds_no (k : Int) (bs : List LPr) (j : Nat) (h : j < bs.length) (hk : (bs[j].2.1 == k) = false) : stIds k (bs.take (j + 1)) = stIds k (bs.take j) := by
  unfold stIds
  rw [List.take_add_one, List.getElem?_eq_getElem h]
  simp only [Option.toList_some, List.filter_append, List.map_append]
  rw [List.filter_cons_of_neg (by rw [hk]; simp)]
  simp
theorem cells3 {w : World} {b : Nat} {t : TypeId} {a0 a1 a2 : Value} (h : w.heap[b]? = some (.cells #[a0, a1, a2] t)) :
    w.cell? ⟨b, 0, none⟩ = some a0 ∧ w.cell? ⟨b, 1, none⟩ = some a1 ∧ w.cell? ⟨b, 2, none⟩ = some a2 ∧ (∀ o, w.frozen? ⟨b, o, none⟩ = false) ∧ b < w.heap.size := by
  refine ⟨?_, ?_, ?_, fun o => ?_, (Array.getElem?_eq_some_iff.1 h).1⟩ <;> simp [World.cell?, World.frozen?, h]

set_option maxRecDepth 100000 in
set_option maxHeartbeats 2000000 in
/-- idsThat, of a State. -/
theorem it_any (sl : Option Addr) (cap : Nat) (bs : List LPr) (kk : Int) (w : World) (hn : bs.length ≤ 1048576) (hz : Prs w sl bs) :
    Calls Tryz.prog 68 #[.slice sl bs.length cap, .func (.func 69) #[.int .i64 kk] #[]] w fun e w' => ∃ v, e = .returned v ∧ w'.ownsRow w.heap.size 2 1 v (stIds kk bs).length (valsZ (stIds kk bs)) ∧ Below w.heap.size w w' := by
  obtain ⟨i0, hi0, hz0, hz1, hz2⟩ := info_parts info2'
  have HZ := Lib.hid hz
  clear hz
  have TK := Lib.hid (show bs.take bs.length = bs from List.take_length)
  generalize hN : bs.length = n at *
  have HN := Lib.hid hN
  clear hN
  go_enter Tryz.func68, Tryz.ntmps68
  go_wp2
  go_loopw [5, 10] (fun v i wr => ∃ k : Nat, i = .int .i64 k ∧ k ≤ n ∧ Hid (wr.ownsRow w.heap.size 2 1 v (stIds kk (bs.take k)).length (valsZ (stIds kk (bs.take k)))) ∧ Hid (Below w.heap.size w wr)) (fun _ i _ => n - (intOf i).toNat)
  case atStart => exact ⟨0, rfl, Nat.zero_le _, ⟨rfl, .inl ⟨rfl, rfl⟩⟩, Below.refl _ _⟩
  case round =>
    obtain ⟨k, rfl, hk, H1, H2⟩ := hrel
    have hk0 : (0 : Int) ≤ (k : Int) := by omega
    by_cases h1 : k < n
    · have h1' : (k : Int) < (n : Int) := by omega
      have hlt : k < bs.length := by rw [HN.out]; exact h1
      obtain ⟨c, o, rfl, Z0⟩ : ∃ c o, sl = some ⟨c, o, none⟩ ∧ PrAt w c o bs := by
        rcases HZ.out with e | h
        · rw [e] at hlt; simp at hlt
        · exact h
      obtain ⟨hc0, hc1, hc2⟩ := (Z0.below H2.out).cell k hlt
      have LE := Lib.hid (show (stIds kk (bs.take k)).length ≤ k from Nat.le_trans (stIds_len _ _) (by rw [List.length_take]; omega))
      have YY := Lib.hid (stIds_yes kk bs k hlt)
      have NN := Lib.hid (stIds_no kk bs k hlt)
      obtain ⟨x, y, z, hp⟩ : ∃ a b q, bs[k] = (a, b, q) := ⟨_, _, _, rfl⟩
      rw [hp] at hc0 hc1 hc2 YY NN
      dsimp only at hc0 hc1 hc2 YY NN
      have E := Lib.hid (hol_any kk x y z)
      have hs := H2.out.size
      have O5 := Lib.hid (H1.out.alloc (.cells #[.int .i64 x, .int .i64 y, .int .i64 z] 58))
      have B5 := Lib.hid (bA H2.out (.cells #[.int .i64 x, .int .i64 y, .int .i64 z] 58))
      have N5 := Lib.hid (new_at wr (.cells #[.int .i64 x, .int .i64 y, .int .i64 z] 58))
      clear hp hlt Z0
      go_wp2_with fail
      refine (E.out _).mono ?_
      rintro e w6 ⟨rfl, b6⟩
      have O6 := Lib.hid (own_below O5.out b6)
      have B6 := Lib.hid (bT B5.out b6)
      have k6 := (b6.block wr.heap.size (by simp)).trans N5.out
      obtain ⟨d0, d1, d2, df, dl⟩ := cells3 k6
      clear b6 O5 B5 N5 k6
      have LE' := LE.out
      by_cases hy : (y == kk) = true
      · have EQ := Lib.hid (YY.out hy)
        rw [hy]
        go_wp2_with (first | (at_builtin; refine wpList_append_lies _ rfl (.tmp 17) (.tmp 20) 43 rfl w.heap.size 2 i0 (.int .i64 0) 1 8 Tryz.underlying43 hi0 hz0 hz1 hz2 rfl (by decide) _ _ _ rfl (O6.out.alloc _) ⟨w6.heap.size, 0, none⟩ 1 1 [.int .i64 x] rfl rfl (cell_one_new _ _ _) (by intro u hu; simp at hu; subst hu; rfl) (by decide) (by unfold maxLen; omega) (by omega) (by simp; omega) (w6.heap.size + 1) (by simp) ?_))
        intro g9 cap9 w9 own9 grow9 hg9 hlt9
        have B9 := Lib.hid ((bA B6.out (.cells #[.int .i64 x] 2)).grown grow9 (by simp; omega) (fun j hj => (O6.out.lt j hj).1))
        have N9 := Lib.hid (show w9.ownsRow w.heap.size 2 1 _ (stIds kk (bs.take (k + 1))).length (valsZ (stIds kk (bs.take (k + 1)))) by rw [EQ.out]; simpa [valsZ] using own9)
        clear own9 grow9 hg9 hlt9 YY NN LE LE' EQ
        go_wp2
        go_roundw
        case rel => exact ⟨k + 1, by go_num, by omega, N9, B9⟩
        case measure => simp [intOf]; omega
      · have hy' : (y == kk) = false := by simpa using hy
        have EQ := Lib.hid (NN.out hy')
        rw [hy']
        have N9 := Lib.hid (show w6.ownsRow w.heap.size 2 1 _ (stIds kk (bs.take (k + 1))).length (valsZ (stIds kk (bs.take (k + 1)))) by rw [EQ.out]; exact O6.out)
        clear hy hy' YY NN LE LE' EQ
        go_wp2
        go_roundw
        case rel => exact ⟨k + 1, by go_num, by omega, N9, B6⟩
        case measure => simp [intOf]; omega
    · have h1' : ¬ (k : Int) < (n : Int) := by omega
      have e : k = n := by omega
      have H9 := H1.out
      rw [e, TK.out] at H9
      have P := Lib.hid (And.intro H9 H2.out)
      clear H9 H1
      go_wp2
      go_ret
      exact ⟨_, rfl, P.out.1, P.out.2⟩

end Go.Proofs.YtanoklpffenljaaGreatDoor
