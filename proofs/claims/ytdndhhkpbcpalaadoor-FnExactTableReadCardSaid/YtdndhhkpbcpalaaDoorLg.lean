/-
  THE PROGRAM'S NUMBERS OF A LINE: digitsValue, numberOf, numbersOf.
-/
import Derived.Test.YtdndhhkpbcpalaaDoorJa
namespace Go.Proofs.YtdndhhkpbcpalaaDoor
open Go.RowKit
set_option linter.unusedVariables false

theorem all_not {α : Type} (f : α → Bool) (ps : List α) (k : Nat) (h : k < ps.length) (hk : f ps[k] = false) : ps.all f = false :=
  List.all_eq_false.2 ⟨_, List.getElem_mem h, by simp [hk]⟩

theorem take_all {α : Type} (f : α → Bool) (ps : List α) (k : Nat) (h : k < ps.length) (ha : (ps.take k).all f = true) (hk : f ps[k] = true) : (ps.take (k + 1)).all f = true := by
  rw [List.take_succ_eq_append_getElem h, List.all_append, ha]
  simp [hk]
theorem valsZ_snoc (zs : List Int) (x : Int) : valsZ (zs ++ [x]) = valsZ zs ++ [.int .i64 x] := by simp [valsZ]
theorem own_len {w : World} {B t : Nat} {v : Value} {n : Nat} {xs : List Value} (h : w.ownsRow B t 1 v n xs) : ∃ sl cap, v = .slice sl n cap := by
  rcases h.2 with ⟨hv, h0⟩ | ⟨g, cap, cur, hv, _⟩
  · exact ⟨_, _, by rw [h0]; exact hv⟩
  · exact ⟨_, _, hv⟩


theorem digv_snoc (l : List UInt8) (b : UInt8) : digv (l ++ [b]) = dgS (digv l) b := by simp [digv]
theorem digv_small (l : List UInt8) (h : l.length ≤ 13) : 0 ≤ digv l ∧ digv l < 10000000000000 := by
  have := digv_bd l
  refine ⟨this.1, Int.lt_of_lt_of_le this.2 ?_⟩
  have h2 : 10 ^ l.length ≤ 10 ^ 13 := Nat.pow_le_pow_right (by decide) h
  have h3 : ((10 ^ l.length : Nat) : Int) ≤ ((10 ^ 13 : Nat) : Int) := Int.ofNat_le.2 h2
  have e : ((10 ^ l.length : Nat) : Int) = (10 : Int) ^ l.length := by simp
  rw [← e]; exact h3

set_option maxRecDepth 100000 in
set_option maxHeartbeats 2000000 in
/-- impl.digitsValue. -/
theorem dgv_any (s : ByteArray) (hs : s.size ≤ 13) (w : World) :
    Calls Tryd.prog 49 #[.string s] w fun e w' => e = .returned (.int .i64 (digv s.data.toList)) ∧ w' = w := by
  have BD := Lib.hid (show ∀ k, k ≤ s.size → 0 ≤ digv (s.data.toList.take k) ∧ digv (s.data.toList.take k) < 10000000000000 from fun k hk => digv_small _ (by simp; omega))
  go_enter Tryd.func49, Tryd.ntmps49
  go_wp2
  go_loop [3, 7] (fun v i => ∃ k : Nat, k ≤ s.size ∧ i = .int .i64 k ∧ v = .int .i64 (digv (s.data.toList.take k))) (fun _ i => s.size - (RowKit.intOf i).toNat)
  case atStart => exact ⟨0, Nat.zero_le _, rfl, rfl⟩
  case round =>
    obtain ⟨k, hk, rfl, rfl⟩ := hrel
    obtain ⟨d0, d1⟩ := BD.out k hk
    by_cases hlt : k < s.size
    · have HS : Hid (digv (s.data.toList.take (k + 1)) = dgS (digv (s.data.toList.take k)) s[k]) := by
        show digv (s.data.toList.take (k + 1)) = _
        rw [take_snoc s k hlt, digv_snoc]
      generalize digv (s.data.toList.take k) = n at *
      by_cases h1 : 48 ≤ (s[k].toNat : Int)
      · by_cases h2 : (s[k].toNat : Int) ≤ 57
        · have HE2 := Lib.hid (show dgS n s[k] = 10 * n + ((s[k].toNat : Int) - 48) by unfold dgS; rw [if_pos (by simp [isDig, h1, h2])])
          go_wp2
          go_round
          case rel => exact ⟨k + 1, by omega, by go_num, by rw [HS.out, HE2.out]⟩
          case measure => simp [RowKit.intOf]; omega
        · have HE2 := Lib.hid (show dgS n s[k] = n by unfold dgS; rw [if_neg (by simp [isDig, h2])])
          go_wp2
          go_round
          case rel => exact ⟨k + 1, by omega, by go_num, by rw [HS.out, HE2.out]⟩
          case measure => simp [RowKit.intOf]; omega
      · have HE2 := Lib.hid (show dgS n s[k] = n by unfold dgS; rw [if_neg (by simp [isDig, h1])])
        go_wp2
        go_round
        case rel => exact ⟨k + 1, by omega, by go_num, by rw [HS.out, HE2.out]⟩
        case measure => simp [RowKit.intOf]; omega
    · have ek : s.data.toList.take k = s.data.toList := List.take_of_length_le (by simp; omega)
      rw [ek] at d0 d1 ⊢
      clear ek BD
      go_wp2
      go_ret
      exact ⟨rfl, rfl⟩

set_option maxRecDepth 100000 in
set_option maxHeartbeats 2000000 in
/-- impl.numberOf. -/
theorem nmo_any (s : ByteArray) (w : World) (hs : s.size ≤ 1048576) (hp : PowTab w) :
    Calls Tryd.prog 37 #[.string s] w fun e w' => ∃ n : Int, e = .returned (.tuple #[.int .i64 n, .bool (numI s.data.toList)]) ∧ (numI s.data.toList = true → n = digv s.data.toList) ∧ Below w.heap.size w w' := by
  by_cases h : s.size ≤ 13
  case neg =>
    have HF : numI s.data.toList = false := by unfold numI; rw [decide_eq_false (by simp; omega), Bool.false_and]
    rw [HF]
    have h' : (13 : Int) < (s.size : Int) := by omega
    clear HF hp
    go_enter Tryd.func37, Tryd.ntmps37
    go_wp2
    exact bodyPost_ret (v := .tuple #[.int .i64 0, .bool false]) (by simp [results, Tryd.results37, go_sem]) rfl ⟨0, rfl, fun h => (by cases h), Below.refl _ _⟩
  have h' : ¬ (13 : Int) < (s.size : Int) := by omega
  have E1 := Lib.hid (dgv_any s h w)
  obtain ⟨d0, d1⟩ := digv_small s.data.toList (by simp; omega)
  have E2 := Lib.hid (fi_any (digv s.data.toList) (by omega) (by omega) w hp)
  have HE := Lib.hid (show numI s.data.toList = ((⟨(Lib.itoa (digv s.data.toList)).toArray⟩ : ByteArray).toList == s.toList) by
    unfold numI
    rw [decide_eq_true (by simp; omega), Bool.true_and, Go.ByteArray.toList_eq, Go.ByteArray.toList_eq])
  generalize numI s.data.toList = r at *
  generalize digv s.data.toList = n at *
  generalize (⟨(Lib.itoa n).toArray⟩ : ByteArray) = x at *
  clear hp
  go_enter Tryd.func37, Tryd.ntmps37
  go_wp2_with fail
  refine E1.out.mono ?_
  rintro e w1 ⟨rfl, rfl⟩
  go_wp2_with fail
  refine E2.out.mono ?_
  rintro e w2 ⟨rfl, b2⟩
  have D2 := Lib.hid b2
  clear b2
  go_wp2
  exact bodyPost_ret (v := .tuple #[.int .i64 n, .bool (x.toList == s.toList)]) (by simp [results, Tryd.results37, go_sem]) rfl ⟨n, by rw [HE.out], fun _ => rfl, D2.out⟩

theorem own_nil0 (w : World) : w.ownsRow w.heap.size 2 1 (.slice none 0 0) 0 (valsZ []) := ⟨rfl, .inl ⟨rfl, rfl⟩⟩
set_option maxRecDepth 100000 in
set_option maxHeartbeats 4000000 in
/-- impl.numbersOf. -/
theorem nbs_any (g o cap : Nat) (ps : List (List UInt8)) (w : World) (hl : ps.length ≤ 100000) (hb : ∀ x ∈ ps, x.length ≤ 1000000) (gl : g < w.heap.size) (gc : ∀ i x, ps[i]? = some x → w.cell? ⟨g, o + i, none⟩ = some (strV x)) (hp : PowTab w) :
    Calls Tryd.prog 23 #[.slice (some ⟨g, o, none⟩) ps.length cap] w fun e w' => ∃ v, e = .returned (.tuple #[v, .bool (ps.all numI)]) ∧ (ps.all numI = true → w'.ownsRow w.heap.size 2 1 v ps.length (valsZ (ps.map digv))) ∧ (∃ sl n c, v = .slice sl n c) ∧ Below w.heap.size w w' := by
  obtain ⟨i0, hi0, hz0, hz1, hz2⟩ := info_parts info2'
  have F0 := Lib.hid (show ∀ (k : Nat) (x : List UInt8), ps[k]? = some x → numI x = false → ps.all numI = false from fun k x h hn => by obtain ⟨h1, h2⟩ := List.getElem?_eq_some_iff.1 h; exact all_not numI ps k h1 (by rw [h2]; exact hn))
  have F1 := Lib.hid (show (ps.take ps.length).all numI = true → ps.all numI = true by rw [List.take_length]; exact id)
  generalize ps.all numI = lk at *
  have HB := Lib.hid hb
  have GC := Lib.hid gc
  have HP := Lib.hid hp
  have O0 := Lib.hid (own_nil0 w)
  generalize hM : ps.length = m at *
  have HM := Lib.hid hM
  clear hM hb gc hp
  go_enter Tryd.func23, Tryd.ntmps23
  go_wp2
  go_loopw [4, 11] (fun v i wr => ∃ k : Nat, i = .int .i64 k ∧ k ≤ m ∧ Hid (wr.ownsRow w.heap.size 2 1 v k (valsZ ((ps.map digv).take k))) ∧ Hid ((ps.take k).all numI = true) ∧ Hid (Below w.heap.size w wr)) (fun _ i _ => m - (intOf i).toNat)
  case atStart => exact ⟨0, rfl, by omega, O0, rfl, Below.refl _ _⟩
  case round =>
    obtain ⟨k, rfl, hk, H1, HA, H2⟩ := hrel
    have hk0 : (0 : Int) ≤ (k : Int) := by omega
    have gl2 : g < wr.heap.size := Nat.lt_of_lt_of_le gl H2.out.size
    have hs2 := H2.out.size
    by_cases h1 : k < m
    · have h1' : (k : Int) < (m : Int) := by omega
      have hlp : k < ps.length := by rw [HM.out]; exact h1
      have hc := (H2.out.cell (p := ⟨g, o + k, none⟩) gl).trans (GC.out k _ (List.getElem?_eq_getElem hlp))
      have hpl := HB.out ps[k] (List.getElem_mem hlp)
      have NU : Hid (∀ W, Below w.heap.size w W → Calls Tryd.prog 37 #[strV ps[k]] W fun e w' => ∃ n : Int, e = .returned (.tuple #[.int .i64 n, .bool (numI ps[k])]) ∧ (numI ps[k] = true → n = digv ps[k]) ∧ Below W.heap.size W w') := fun W hW => by
        have := nmo_any ⟨ps[k].toArray⟩ W (by show ps[k].toArray.size ≤ _; simp at hpl ⊢; omega) (HP.out.below hW)
        exact this
      have YY := Lib.hid (show numI ps[k] = true → (ps.take (k + 1)).all numI = true from fun e1 => take_all numI ps k hlp HA.out e1)
      have NN := Lib.hid (show numI ps[k] = false → lk = false from fun h => F0.out k _ (List.getElem?_eq_getElem hlp) h)
      have EV := Lib.hid (show valsZ ((ps.map digv).take k) ++ [.int .i64 (digv ps[k])] = valsZ ((ps.map digv).take (k + 1)) by
        rw [List.take_succ_eq_append_getElem (show k < (ps.map digv).length by simpa using hlp), valsZ_snoc, List.getElem_map])
      clear hpl HA
      generalize digv ps[k] = nv at *
      generalize numI ps[k] = nk at *
      generalize strV ps[k] = sv at *
      clear hlp
      go_wp2_with fail
      refine (NU.out _ H2.out).mono ?_
      rintro e w2 ⟨n, rfl, hn, b2⟩
      have B2 := Lib.hid (bT H2.out b2)
      have R2 := Lib.hid (own_below H1.out b2)
      have hs3 := b2.size
      clear b2 NU H1
      cases nk
      · have HF := NN.out rfl
        subst HF
        clear NN YY R2 F0 F1 EV hn
        go_wp2
        exact bodyPost_ret (v := .tuple #[.slice none 0 0, .bool false]) (by simp [results, Tryd.results23, go_sem]) rfl ⟨_, rfl, fun h => (by cases h), ⟨_, _, _, rfl⟩, B2.out⟩
      have e9 := hn rfl
      subst e9
      have Y1 := Lib.hid (YY.out rfl)
      clear NN YY hn
      go_wp2_with (first | (at_builtin; refine wpList_append_lies _ rfl (.tmp 22) (.tmp 24) 39 rfl w.heap.size 2 i0 (.int .i64 0) 1 8 Tryd.underlying39 hi0 hz0 hz1 hz2 rfl (by decide) _ _ _ rfl (R2.out.alloc _) ⟨w2.heap.size, 0, none⟩ 1 1 [.int .i64 n] rfl rfl (cell_one_new _ _ _) (by intro u hu; simp at hu; subst hu; rfl) (by decide) (by unfold maxLen; omega) (by omega) (by simp; omega) (w2.heap.size + 1) (by simp) ?_))
      intro g9 cap9 w9 own9 grow9 hg9 hlt9
      have B9 := Lib.hid ((bA B2.out (.cells #[.int .i64 n] 2)).grown grow9 (by simp; omega) (fun j hj => (R2.out.lt j hj).1))
      rw [EV.out] at own9
      have N9 := Lib.hid own9
      clear own9 grow9 hg9 hlt9 R2 B2 EV
      go_wp2
      go_roundw
      case rel => exact ⟨k + 1, by go_num, by omega, N9, Y1, B9⟩
      case measure => simp [intOf]; omega
    · have h1' : ¬ (k : Int) < (m : Int) := by omega
      have e : k = m := by omega
      subst e
      have HF := F1.out HA.out
      subst HF
      have TL : (ps.map digv).take k = ps.map digv := List.take_of_length_le (by simp; rw [HM.out]; omega)
      rw [TL] at H1
      obtain ⟨s9, c9, e9⟩ := own_len H1.out
      subst e9
      have P := Lib.hid H1.out
      clear F0 F1 H1 HA TL
      go_wp2
      exact bodyPost_ret (v := .tuple #[.slice s9 k c9, .bool true]) (by simp [results, Tryd.results23, go_sem]) rfl ⟨_, rfl, (by first | exact fun _ => P.out | exact P.out), ⟨_, _, _, rfl⟩, H2.out⟩

end Go.Proofs.YtdndhhkpbcpalaaDoor
