/-
  THE SOLVER'S HELPERS: turned, values.firstOpen, values.trues.
-/
import Derived.Test.YtdmnnclbcljdmaaMa
import Derived.Test.YtdmnnclbcljdmaaKj
namespace Go.Proofs.Ytdmnnclbcljdmaa
open Go.RowKit
set_option linter.unusedVariables false
variable {fh : List Value}

theorem row_own {w : World} {g : Nat} {zs : List Int} {n : Nat} (h : RowAt w g (vsOf zs n)) (hn : n = zs.length) (hm : n ≤ maxLen) : w.ownsRow g 2 1 (.slice (some ⟨g, 0, none⟩) n n) zs.length (valsZ zs) := by
  subst hn
  have e : (vsOf zs zs.length).toList = valsZ zs := by simp [vsOf, valsZ]
  have es : (vsOf zs zs.length).size = zs.length := by rw [← Array.length_toList, e]; simp [valsZ]
  refine ⟨by simp [valsZ], .inr ⟨g, zs.length, vsOf zs zs.length, rfl, Nat.le_refl _, h, Nat.le_refl _, hm, by rw [es]; omega, ?_⟩⟩
  rw [e, List.take_of_length_le (by simp [valsZ])]

set_option maxHeartbeats 1000000 in
/-- turned. -/
theorem tu_any (sl : Option Addr) (cap : Nat) (zs : List Int) (w : World) (hn : zs.length ≤ 96) (hw : ∀ z ∈ zs, -96 ≤ z ∧ z ≤ 96) (hz : Ints w sl zs) :
    Calls Try.prog 73 #[.slice sl zs.length cap] w fun e w' => e = .returned (.slice (some ⟨w.heap.size, 0, none⟩) zs.length zs.length) ∧ w'.ownsRow w.heap.size 2 1 (.slice (some ⟨w.heap.size, 0, none⟩) zs.length zs.length) (negL zs).length (valsZ (negL zs)) ∧ Below w.heap.size w w' := by
  have hmk := make64 zs.length (by omega)
  have ZC : Hid (∀ W, Below w.heap.size w W → ∀ k, k < zs.length → ∃ c o, sl = some ⟨c, o, none⟩ ∧ W.cell? ⟨c, o + k, none⟩ = some (.int .i64 (zs.getD k 0)) ∧ wrap64 (-zs.getD k 0) = (negL zs).getD k 0) := fun W hW k hk => by
    rcases hz with e | ⟨c, o, e, hi⟩
    · rw [e] at hk; simp at hk
    · have h := hw (zs.getD k 0) (by simp [hk])
      have e2 : (negL zs).getD k 0 = -zs.getD k 0 := by simp [negL, hk]
      rw [e2]
      exact ⟨c, o, e, (hW.cell hi.1).trans (hi.2 k hk), wrap_in _ ⟨by omega, by omega⟩⟩
  have HK : Hid (mk64 zs.length = vsOf (negL zs) 0) := by
    have := mk64_eq (negL zs)
    rw [negL_len] at this
    exact this
  have NL := Lib.hid (negL_len zs)
  clear hz hw
  generalize hN : zs.length = n at *
  have HN : Hid (zs.length = n) := hN
  clear hN
  generalize hY : negL zs = ys at *
  clear hY
  go_enter Try.func73, Try.ntmps73
  go_wp2
  go_loopw [11] (fun i wr => ∃ (k : Nat), i = .int .i64 k ∧ k ≤ n ∧ Hid (Below w.heap.size w wr) ∧ Hid (RowAt wr w.heap.size (vsOf ys k))) (fun i _ => n - (intOf i).toNat)
  case atStart =>
    refine ⟨0, rfl, Nat.zero_le _, bA0 _ _, ?_⟩
    show (w.heap.push _)[w.heap.size]? = _
    simp [HK.out]
  case round =>
    obtain ⟨k, rfl, hk, H3, H4⟩ := hrel
    have hk0 : (0 : Int) ≤ (k : Int) := by omega
    by_cases h1 : k < n
    · have h1' : (k : Int) < (n : Int) := by omega
      have hlt : k < ys.length := by rw [NL.out]; exact h1
      obtain ⟨c, o, rfl, hc, hwr⟩ := ZC.out wr H3.out k h1
      have hd : wr.cell? ⟨w.heap.size, k, none⟩ = some (.int .i64 0) := by rw [H4.out.cell]; exact vs_at ys k hlt
      have hf := H4.out.frozen k
      have H5 : Hid (RowAt (wr.setCell ⟨w.heap.size, k, none⟩ (.int .i64 (ys.getD k 0))) w.heap.size (vsOf ys (k + 1))) := by
        show RowAt _ _ _
        rw [← vs_step ys k hlt]; exact H4.out.set k _
      clear hlt ZC
      generalize zs.getD k 0 = z at *
      generalize ys.getD k 0 = y at *
      go_wp2
      go_roundw
      case rel => exact ⟨k + 1, by go_num, by omega, H3.out.setCell (Nat.le_refl _) _, H5⟩
      case measure => simp [intOf]; omega
    · have h1' : ¬ (k : Int) < (n : Int) := by omega
      have H6 := Lib.hid (row_own (n := k) H4.out (by rw [NL.out]; omega) (by unfold maxLen; omega))
      have e : k = n := by omega
      subst e
      go_wp2
      go_ret
      exact ⟨rfl, H6.out, H3.out⟩

set_option maxRecDepth 100000 in
set_option maxHeartbeats 1000000 in
/-- values.firstOpen. -/
theorem fo_any (b V : Nat) (tr : List Int) (w : World) (hv : VAt fh w b tr) (hc : Cons tr) (hV : V ≤ 96) :
    Calls Try.prog 57 #[.pointer (some ⟨b, 6, none⟩), .int .i64 (V : Int)] w fun e w' => e = .returned (.int .i64 (opn tr V 1 : Nat)) ∧ w' = w := by
  have OF := Lib.hid (show ∀ k : Nat, k ≤ V → Calls Try.prog 74 #[.pointer (some ⟨b, 6, none⟩), .int .i64 (k : Int)] w fun e w' => e = .returned (.int .i64 (val tr (k : Int))) ∧ w' = w from fun k hk => of_any b tr k w hv hc (by omega) (by omega))
  have ON := Lib.hid (fun n k => @opn_no tr n k)
  have OY := Lib.hid (fun n k => @opn_yes tr n k)
  have OZ := Lib.hid (show ∀ k, opn tr 0 k = 0 from fun _ => rfl)
  clear hv hc
  generalize hR : opn tr V 1 = R at *
  have R0 := Lib.hid hR
  clear hR
  go_enter Try.func57, Try.ntmps57
  go_wp2
  go_loopw [5] (fun i wr => ∃ k : Nat, i = .int .i64 (k + 1 : Nat) ∧ k ≤ V ∧ wr = w ∧ Hid (opn tr (V - k) (k + 1) = R)) (fun i _ => V + 1 - (intOf i).toNat)
  case atStart => exact ⟨0, rfl, Nat.zero_le _, rfl, R0⟩
  case round =>
    obtain ⟨k, rfl, hk, rfl, H⟩ := hrel
    by_cases h1 : k + 1 ≤ V
    · have h1' : ((k + 1 : Nat) : Int) ≤ (V : Int) := by omega
      have C := Lib.hid (OF.out (k + 1) h1)
      by_cases hz : val tr ((k + 1 : Nat) : Int) = 0
      · have E := Lib.hid (OY.out (V - k) (k + 1) (by omega) hz)
        rw [hz] at C
        have RE := Lib.hid (E.out.symm.trans H.out)
        clear hz OF ON OY OZ E H
        go_wp2_with fail
        refine C.out.mono ?_
        rintro e w1 ⟨rfl, rfl⟩
        go_wp2
        go_ret
        exact ⟨by rw [← RE.out]; rfl, rfl⟩
      · have E := Lib.hid (ON.out (V - k) (k + 1) (by omega) hz)
        have hz' : (val tr ((k + 1 : Nat) : Int) == 0) = false := by simpa using hz
        clear ON OY OZ OF
        have RE : Hid (opn tr (V - (k + 1)) (k + 1 + 1) = R) := by
          show _ = _
          rw [← H.out, E.out, Nat.sub_sub]
        generalize val tr ((k + 1 : Nat) : Int) = y at *
        clear E H
        go_wp2_with fail
        refine C.out.mono ?_
        rintro e w1 ⟨rfl, rfl⟩
        go_wp2
        go_roundw
        case rel => exact ⟨k + 1, by go_num, by omega, by trivial, RE⟩
        case measure => simp [intOf]; omega
    · have h1' : ¬ ((k + 1 : Nat) : Int) ≤ (V : Int) := by omega
      have RE : Hid (0 = R) := by
        show _ = _
        have e := OZ.out (k + 1)
        rw [← H.out, show V - k = 0 by omega, e]
      clear OF ON OY OZ H
      go_wp2
      go_ret
      exact ⟨by rw [← RE.out]; rfl, rfl⟩

set_option maxRecDepth 100000 in
set_option maxHeartbeats 2000000 in
/-- values.trues. -/
theorem tv_any (b V : Nat) (tr : List Int) (w : World) (hv : VAt fh w b tr) (hc : Cons tr) (hV : V ≤ 96) :
    Calls Try.prog 58 #[.pointer (some ⟨b, 6, none⟩), .int .i64 (V : Int)] w fun e w' => ∃ v, e = .returned v ∧ w'.ownsRow w.heap.size 2 1 v (trL tr V).length (valsZ (trL tr V)) ∧ Below w.heap.size w w' := by
  obtain ⟨i0, hi0, hz0, hz1, hz2⟩ := info_parts info2'
  have OF := Lib.hid (show ∀ (W : World) (k : Nat), Below w.heap.size w W → k ≤ V → Calls Try.prog 74 #[.pointer (some ⟨b, 6, none⟩), .int .i64 (k : Int)] W fun e w' => e = .returned (.int .i64 (val tr (k : Int))) ∧ w' = W from fun W k hW hk => of_any b tr k W (hv.below hW) hc (by omega) (by omega))
  have TN := Lib.hid (fun n => @trL_no tr n)
  have TY := Lib.hid (fun n => @trL_yes tr n)
  have TL := Lib.hid (trL_len tr)
  have T0 := Lib.hid (show trL tr 0 = [] from rfl)
  clear hv hc
  go_enter Try.func58, Try.ntmps58
  go_wp2
  go_loopw [5, 6] (fun v i wr => ∃ k : Nat, i = .int .i64 (k + 1 : Nat) ∧ k ≤ V ∧ Hid (wr.ownsRow w.heap.size 2 1 v (trL tr k).length (valsZ (trL tr k))) ∧ Hid (Below w.heap.size w wr)) (fun _ i _ => V + 1 - (intOf i).toNat)
  case atStart => exact ⟨0, rfl, Nat.zero_le _, ⟨rfl, .inl ⟨rfl, rfl⟩⟩, Below.refl _ _⟩
  case round =>
    obtain ⟨k, rfl, hk, H1, H2⟩ := hrel
    obtain ⟨vs, vc, rfl⟩ := own_v H1.out
    have hsz := H2.out.size
    by_cases h1 : k + 1 ≤ V
    · have h1' : ((k + 1 : Nat) : Int) ≤ (V : Int) := by omega
      have C := Lib.hid (OF.out wr (k + 1) H2.out h1)
      have hlen := TL.out k
      by_cases hz : val tr ((k + 1 : Nat) : Int) = 1
      · have E := Lib.hid (TY.out k hz)
        rw [hz] at C
        clear hz OF TN TY TL
        have EV := Lib.hid (show valsZ (trL tr k) ++ [.int .i64 ((k : Int) + 1)] = valsZ (trL tr (k + 1)) by rw [E.out]; simp [valsZ])
        have EL := Lib.hid (show (trL tr k).length + 1 = (trL tr (k + 1)).length by rw [E.out]; simp)
        generalize hF : (trL tr k).length = fn at *
        clear hF
        go_wp2_with fail
        refine C.out.mono ?_
        rintro e w1 ⟨rfl, rfl⟩
        clear C
        go_wp2_with (first | (at_builtin; refine wpList_append_lies _ rfl (.tmp 16) (.tmp 18) 28 rfl w.heap.size 2 i0 (.int .i64 0) 1 8 Try.underlying28 hi0 hz0 hz1 hz2 rfl (by decide) _ _ _ rfl (H1.out.alloc _) ⟨w1.heap.size, 0, none⟩ 1 1 [.int .i64 ((k : Int) + 1)] rfl rfl (cell_one_new _ _ _) (by intro u hu; simp at hu; subst hu; rfl) (by decide) (by unfold maxLen; omega) (by omega) (by simp; omega) (w1.heap.size + 1) (by simp) ?_))
        intro g9 cap9 w9 own9 grow9 hg9 hlt9
        have B9 := Lib.hid ((bA H2.out (.cells #[.int .i64 ((k : Int) + 1)] 2)).grown grow9 (by simp; omega) (fun j hj => (H1.out.lt j hj).1))
        rw [EV.out] at own9
        have N9 := Lib.hid own9
        clear own9 grow9 hg9 hlt9
        go_wp2
        go_roundw
        case rel => exact ⟨k + 1, by go_num, by omega, by rw [← EL.out]; exact N9, B9⟩
        case measure => simp [intOf]; omega
      · have E := Lib.hid (TN.out k hz)
        have hz' : (val tr ((k + 1 : Nat) : Int) == 1) = false := by simpa using hz
        clear OF TN TY TL
        generalize val tr ((k + 1 : Nat) : Int) = y at *
        go_wp2_with fail
        refine C.out.mono ?_
        rintro e w1 ⟨rfl, rfl⟩
        go_wp2
        go_roundw
        case rel => exact ⟨k + 1, by go_num, by omega, by rw [E.out]; exact H1, H2⟩
        case measure => simp [intOf]; omega
    · have h1' : ¬ ((k + 1 : Nat) : Int) ≤ (V : Int) := by omega
      have e : k = V := by omega
      subst e
      clear OF TN TY TL
      go_wp2
      go_ret
      exact ⟨_, rfl, H1.out, H2.out⟩
end Go.Proofs.Ytdmnnclbcljdmaa
