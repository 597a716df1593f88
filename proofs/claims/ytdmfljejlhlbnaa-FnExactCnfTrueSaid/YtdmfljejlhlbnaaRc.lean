/-
  THE FIRST CLAUSE THAT IS NOT TRUE: spec.CnfFault, spec.CnfTrue.
-/
import Derived.Test.YtdmfljejlhlbnaaRb
namespace Go.Proofs.Ytdmfljejlhlbnaa
open Go.RowKit
set_option linter.unusedVariables false

/-- A literal is true, as the model asks it. -/
def MlT (ts : List Int) (z : Int) : Prop := (0 < z ∧ z ∈ ts) ∨ (z < 0 ∧ wrap64 (-z) ∉ ts)
/-- One of the first k is true. -/
def AnyTo (ts zs : List Int) (k : Nat) : Prop := ∃ i, i < k ∧ MlT ts (zs.getD i 0)
theorem AnyTo.zero (ts zs : List Int) : ¬ AnyTo ts zs 0 := fun ⟨i, h, _⟩ => absurd h (Nat.not_lt_zero _)
theorem AnyTo.step (ts zs : List Int) (k : Nat) : AnyTo ts zs (k + 1) ↔ AnyTo ts zs k ∨ MlT ts (zs.getD k 0) := by
  constructor
  · rintro ⟨i, hi, h⟩
    by_cases e : i = k
    · subst e; exact .inr h
    · exact .inl ⟨i, by omega, h⟩
  · rintro (⟨i, hi, h⟩ | h)
    · exact ⟨i, by omega, h⟩
    · exact ⟨k, by omega, h⟩
theorem mlt_iff {vars z : Int} {ts : List Int} (hv0 : 0 ≤ vars) (hv1 : vars ≤ 96) (h : OkZ vars z) : MlT ts z ↔ (lv z ∈ ts ↔ 0 < z) := by
  have hw : wrap64 (-z) = -z := wrap_in _ ⟨by have := h.2.1; omega, by have := h.2.2; omega⟩
  rw [lv_ok hv0 hv1 h]
  unfold MlT
  rw [hw]
  have h0 := h.1
  by_cases hp : 0 < z
  · rw [show max z (-z) = z by omega]
    constructor
    · rintro (⟨_, g⟩ | ⟨g, _⟩)
      · exact ⟨fun _ => hp, fun _ => g⟩
      · omega
    · intro g
      exact .inl ⟨hp, g.2 hp⟩
  · rw [show max z (-z) = -z by omega]
    constructor
    · rintro (⟨g, _⟩ | ⟨_, g⟩)
      · omega
      · exact ⟨fun i => absurd i g, fun i => absurd i hp⟩
    · intro g
      exact .inr ⟨by omega, fun i => hp (g.1 i)⟩
theorem any_clt {vars : Int} {ts zs : List Int} (hv0 : 0 ≤ vars) (hv1 : vars ≤ 96) (hw : ∀ z ∈ zs, wfI z) (h : ClR vars zs) {k : Nat} (hk : k = zs.length) : AnyTo ts zs k ↔ ClT ts zs := by
  subst hk
  have gd : ∀ i (h : i < zs.length), zs.getD i 0 = zs[i] := fun i h => by simp [h]
  have ok : ∀ z ∈ zs, OkZ vars z := fun z hz => (lv_in hv0 hv1 (hw z hz)).1 (h.2.1 z hz)
  constructor
  · rintro ⟨i, hi, g⟩
    rw [gd i hi] at g
    exact ⟨zs[i], List.getElem_mem hi, (mlt_iff hv0 hv1 (ok _ (List.getElem_mem hi))).1 g⟩
  · rintro ⟨z, hz, g⟩
    obtain ⟨i, hi, rfl⟩ := List.getElem_of_mem hz
    exact ⟨i, hi, by rw [gd i hi]; exact (mlt_iff hv0 hv1 (ok _ hz)).2 g⟩

set_option maxRecDepth 100000 in
set_option maxHeartbeats 1000000 in
/-- spec.l06Trues. -/
theorem ltr_any (vars : Int) (sl : Option Addr) (cap : Nat) (cs : List LCl) (sl2 : Option Addr) (cap2 : Nat) (ts : List Int) (w : World) (hn : cs.length ≤ maxLen) (hs : totC cs ≤ 1048576) (hwf : WfC cs) (hm : ts.length ≤ 1048576) (hz : Cls w sl cs) (ht : Ints w sl2 ts) :
    Calls Try.prog 119 #[CV vars sl cs.length cap, .slice sl2 ts.length cap2] w fun e w' => e = .returned (.bool (B (CnfR vars (bareC cs) ∧ InRise 1 vars ts))) ∧ Below w.heap.size w w' := by
  have CA := Lib.hid (CnfAt.new w vars sl cs.length cap)
  have B0 := Lib.hid (bA0 w (.cells #[.int .i64 vars, .slice sl cs.length cap] 45))
  have E1 : Hid (∀ W, Below w.heap.size w W → Calls Try.prog 54 #[CV vars sl cs.length cap] W fun e w' => e = .returned (.bool (B (CnfR vars (bareC cs)))) ∧ Below W.heap.size W w') := fun W hW => scr_any vars sl cap cs W hn hs hwf (hz.below hW)
  have E2 : Hid (∀ W, Below w.heap.size w W → Calls Try.prog 99 #[.slice sl2 ts.length cap2] W fun e w' => e = .returned (.bool (B (RiseTo ts ts.length))) ∧ Below W.heap.size W w') := fun W hW => ri_any sl2 cap2 ts W hm (ht.below hW)
  have E3 : Hid (∀ W, Below w.heap.size w W → Calls Try.prog 120 #[.slice sl2 ts.length cap2, .int .i64 1, .int .i64 vars] W fun e w' => e = .returned (.bool (ts.all (inB 1 vars))) ∧ w' = W) := fun W hW => l01All_any 1 vars sl2 cap2 ts W (by unfold maxLen; omega) (ht.below hW)
  clear hz ht hwf hs
  cases hb : B (CnfR vars (bareC cs)) with
  | false =>
    rw [B_no (p := CnfR vars (bareC cs) ∧ InRise 1 vars ts) (fun g => B_false hb g.1)]
    rw [hb] at E1
    clear hb E2 E3
    generalize cs.length = n at *
    generalize ts.length = m at *
    go_enter Try.func119, Try.ntmps119
    go_wp2_with fail
    refine (E1.out _ B0.out).mono ?_
    rintro e w1 ⟨rfl, b1⟩
    have D1 := Lib.hid (bT B0.out b1)
    clear b1 E1
    go_wp2
    go_ret
    exact ⟨rfl, D1.out⟩
  | true =>
    rw [hb] at E1
    cases hc : B (RiseTo ts ts.length) with
    | false =>
      rw [B_no (p := CnfR vars (bareC cs) ∧ InRise 1 vars ts) (fun g => B_false hc ((InRise.iff 1 vars ts).1 g.2).1)]
      rw [hc] at E2
      clear hb hc E3
      generalize cs.length = n at *
      generalize ts.length = m at *
      go_enter Try.func119, Try.ntmps119
      go_wp2_with fail
      refine (E1.out _ B0.out).mono ?_
      rintro e w1 ⟨rfl, b1⟩
      have D1 := Lib.hid (bT B0.out b1)
      clear b1 E1
      go_wp2_with fail
      refine (E2.out _ D1.out).mono ?_
      rintro e w2 ⟨rfl, b2⟩
      have D2 := Lib.hid (bT D1.out b2)
      clear b2 E2
      go_wp2
      go_ret
      exact ⟨rfl, D2.out⟩
    | true =>
      rw [hc] at E2
      have F := Lib.hid (show B (CnfR vars (bareC cs) ∧ InRise 1 vars ts) = ts.all (inB 1 vars) by
        cases hd : ts.all (inB 1 vars) with
        | true => exact B_yes ⟨B_true hb, (InRise.iff 1 vars ts).2 ⟨B_true hc, hd⟩⟩
        | false => exact B_no (fun g => by have := ((InRise.iff 1 vars ts).1 g.2).2; rw [hd] at this; cases this))
      rw [F.out]
      clear hb hc F
      generalize ts.all (inB 1 vars) = r at *
      generalize cs.length = n at *
      generalize ts.length = m at *
      go_enter Try.func119, Try.ntmps119
      go_wp2_with fail
      refine (E1.out _ B0.out).mono ?_
      rintro e w1 ⟨rfl, b1⟩
      have D1 := Lib.hid (bT B0.out b1)
      have CA1 := Lib.hid (CA.out.below b1)
      clear b1 E1 CA
      go_wp2_with fail
      refine (E2.out _ D1.out).mono ?_
      rintro e w2 ⟨rfl, b2⟩
      have D2 := Lib.hid (bT D1.out b2)
      have TA := CA1.out.below b2
      obtain ⟨t0, t1⟩ := TA.cells
      have tl := TA.lt
      clear b2 E2 TA CA1
      go_wp2_with fail
      refine (E3.out _ D2.out).mono ?_
      rintro e w3 ⟨rfl, rfl⟩
      go_wp2
      go_ret
      exact ⟨rfl, D2.out⟩

set_option maxRecDepth 100000 in
set_option maxHeartbeats 8000000 in
/-- spec.CnfFault. -/
theorem scf_any (vars : Int) (sl : Option Addr) (cap : Nat) (cs : List LCl) (sl2 : Option Addr) (cap2 : Nat) (ts : List Int) (w : World) (hn : cs.length ≤ maxLen) (hs : totC cs ≤ 1048576) (hwf : WfC cs) (hm : ts.length ≤ 1048576) (hz : Cls w sl cs) (ht : Ints w sl2 ts) :
    Calls Try.prog 59 #[CV vars sl cs.length cap, .slice sl2 ts.length cap2] w fun e w' => e = .returned (.int .i64 (fC vars (bareC cs) ts)) ∧ Below w.heap.size w w' := by
  have CA := Lib.hid (CnfAt.new w vars sl cs.length cap)
  have B0 := Lib.hid (bA0 w (.cells #[.int .i64 vars, .slice sl cs.length cap] 45))
  have HB := Lib.hid (bareC_length cs)
  by_cases c1 : 400 < ts.length
  · rw [fC_long c1]
    have c1' : (400 : Int) < (ts.length : Int) := by omega
    clear hz ht HB hwf hs
    generalize cs.length = n at *
    generalize ts.length = m at *
    go_enter Try.func59, Try.ntmps59
    go_wp2
    go_ret
    exact ⟨rfl, B0.out⟩
  have c1' : ¬ (400 : Int) < (ts.length : Int) := by omega
  have E1 : Hid (∀ W, Below w.heap.size w W → Calls Try.prog 119 #[CV vars sl cs.length cap, .slice sl2 ts.length cap2] W fun e w' => e = .returned (.bool (B (CnfR vars (bareC cs) ∧ InRise 1 vars ts))) ∧ Below W.heap.size W w') := fun W hW => ltr_any vars sl cap cs sl2 cap2 ts W hn hs hwf hm (hz.below hW) (ht.below hW)
  unfold maxLen at hn
  cases hb : B (CnfR vars (bareC cs) ∧ InRise 1 vars ts) with
  | false =>
    rw [fC_no c1 (B_false hb)]
    rw [hb] at E1
    clear hb hz ht HB hwf hs
    generalize cs.length = n at *
    generalize ts.length = m at *
    go_enter Try.func59, Try.ntmps59
    go_wp2_with fail
    refine (E1.out _ B0.out).mono ?_
    rintro e w1 ⟨rfl, b1⟩
    have D1 := Lib.hid (bT B0.out b1)
    clear b1 E1
    go_wp2
    go_ret
    exact ⟨rfl, D1.out⟩
  | true =>
    rw [hb] at E1
    have CR := Lib.hid (B_true hb).1
    have FV := Lib.hid (fC_yes c1 (B_true hb))
    have YY := Lib.hid (show ∀ k, cs.length ≤ k → TrTo ts (bareC cs) k → fC vars (bareC cs) ts = -1 from fun k hk h => FV.out.trans (fF_all (by rw [HB.out]; exact hk) h))
    have NN := Lib.hid (show ∀ k, k < cs.length → TrTo ts (bareC cs) k → ¬ ClT ts ((bareC cs).getD k []) → fC vars (bareC cs) ts = k from fun k hk h g => FV.out.trans (fF_at ⟨by rw [HB.out]; exact hk, h, g⟩))
    have AC := Lib.hid (show ∀ r ∈ cs, ∀ k, k = r.2.length → (AnyTo ts r.2 k ↔ ClT ts r.2) from fun r hr k hk => by
      obtain ⟨i, h, rfl⟩ := List.getElem_of_mem hr
      have := CR.out.2.2 i (by rw [HB.out]; exact h)
      rw [bareC_get h] at this
      exact any_clt CR.out.1.1 CR.out.1.2 (hwf _ hr) this hk)
    have HC := Lib.hid (show ∀ r ∈ cs, r.2.length ≤ 1048576 from fun r hr => Nat.le_trans (totC_mem cs r hr) hs)
    have HZ := Lib.hid hz
    have EH : Hid (∀ x W, Below w.heap.size w W → Calls Try.prog 68 #[.slice sl2 ts.length cap2, .int .i64 x] W fun e w' => e = .returned (.bool (B (x ∈ ts))) ∧ w' = W) := fun x W hW => lhas_any sl2 cap2 ts x W (by unfold maxLen; omega) (ht.below hW)
    clear hz ht HB hb FV CR hwf hs
    generalize hN : cs.length = n at *
    have HN := Lib.hid hN
    clear hN
    generalize ts.length = m at *
    go_enter Try.func59, Try.ntmps59
    go_wp2_with fail
    refine (E1.out _ B0.out).mono ?_
    rintro e w1 ⟨rfl, b1⟩
    have D1 := Lib.hid (bT B0.out b1)
    have CA1 := Lib.hid (CA.out.below b1)
    clear b1 E1 CA
    go_wp2
    go_loopw [5] (fun i wr => ∃ k : Nat, i = .int .i64 k ∧ k ≤ n ∧ Hid (TrTo ts (bareC cs) k) ∧ wr = w1) (fun i _ => n - (intOf i).toNat)
    case atStart => exact ⟨0, rfl, Nat.zero_le _, TrTo.zero _ _, rfl⟩
    case round =>
      obtain ⟨i, rfl, hi, IT, rfl⟩ := hrel
      have hi0 : (0 : Int) ≤ (i : Int) := by omega
      obtain ⟨t0, t1⟩ := CA1.out.cells
      have tl := CA1.out.lt
      by_cases g1 : i < n
      · have g1' : (i : Int) < (n : Int) := by omega
        have hlt : i < cs.length := by rw [HN.out]; exact g1
        obtain ⟨c, o, rfl, Z0⟩ := HZ.out.at hlt
        have hc := (Z0.below D1.out).2 i hlt
        obtain ⟨s1, k1, v1, i1, l1⟩ := (HZ.out.each cs[i] (List.getElem_mem hlt)).below D1.out
        rw [v1] at hc
        have BG := Lib.hid (bareC_get hlt)
        have AI := Lib.hid (AC.out cs[i] (List.getElem_mem hlt))
        have hql := HC.out cs[i] (List.getElem_mem hlt)
        have NI := Lib.hid (show ¬ ClT ts cs[i].2 → fC vars (bareC cs) ts = i from fun h => NN.out i g1 IT.out (by rw [BG.out]; exact h))
        have YI := Lib.hid (show ClT ts cs[i].2 → TrTo ts (bareC cs) (i + 1) from fun h => IT.out.step (by rw [BG.out]; exact h))
        have I1 := Lib.hid i1
        clear v1 l1 Z0 BG IT NN YY i1
        generalize cs[i].2 = zs at *
        clear hlt
        generalize hq : zs.length = q at *
        have HQ := Lib.hid hq
        clear hq
        go_wp2
        go_loopw [6, 7] (fun ok j wq => ∃ k : Nat, j = .int .i64 k ∧ k ≤ q ∧ ok = .bool (B (AnyTo ts zs k)) ∧ wq = wr) (fun _ j _ => q - (intOf j).toNat)
        case atStart => exact ⟨0, rfl, Nat.zero_le _, by rw [B_no (AnyTo.zero ts zs)], rfl⟩
        case round =>
          obtain ⟨k, rfl, hk, rfl, rfl⟩ := hrel
          have hk0 : (0 : Int) ≤ (k : Int) := by omega
          by_cases g2 : k < q
          · have g2' : (k : Int) < (q : Int) := by omega
            have hlt : k < zs.length := by rw [HQ.out]; exact g2
            obtain ⟨e, p, rfl, ZI⟩ : ∃ e p, s1 = some ⟨e, p, none⟩ ∧ IntsAt wr e p zs := by
              rcases I1.out with e | h
              · rw [e] at hlt; simp at hlt
              · exact h
            have hz := ZI.2 k hlt
            have ST := Lib.hid (B_iff (AnyTo.step ts zs k))
            clear hlt ZI
            cases hb : B (AnyTo ts zs k) with
            | true =>
              have OKV := Lib.hid (show B (AnyTo ts zs (k + 1)) = true by rw [ST.out]; exact B_yes (.inl (B_true hb)))
              clear hb ST
              generalize zs.getD k 0 = z at *
              go_wp2
              go_roundw
              case rel => exact ⟨k + 1, by go_num, by omega, by rw [OKV.out], trivial⟩
              case measure => simp [intOf]; omega
            | false =>
              have NB := Lib.hid (B_false hb)
              clear hb
              by_cases z1 : 0 < zs.getD k 0
              · have z1' : ¬ zs.getD k 0 < 0 := by omega
                have E := Lib.hid (EH.out (zs.getD k 0) wr D1.out)
                have OKV := Lib.hid (show B (AnyTo ts zs (k + 1)) = B (zs.getD k 0 ∈ ts) by
                  rw [ST.out]
                  refine B_iff ⟨?_, fun h => .inr (.inl ⟨z1, h⟩)⟩
                  rintro (h | ⟨_, h⟩ | ⟨h, _⟩)
                  · exact absurd h NB.out
                  · exact h
                  · omega)
                clear ST NB
                generalize B (zs.getD k 0 ∈ ts) = r at *
                generalize zs.getD k 0 = z at *
                cases r with
                | true =>
                  go_wp2_with fail
                  refine E.out.mono ?_
                  rintro e9 w9 ⟨rfl, rfl⟩
                  go_wp2
                  go_roundw
                  case rel => exact ⟨k + 1, by go_num, by omega, by rw [OKV.out], trivial⟩
                  case measure => simp [intOf]; omega
                | false =>
                  go_wp2_with fail
                  refine E.out.mono ?_
                  rintro e9 w9 ⟨rfl, rfl⟩
                  go_wp2
                  go_roundw
                  case rel => exact ⟨k + 1, by go_num, by omega, by rw [OKV.out], trivial⟩
                  case measure => simp [intOf]; omega
              · by_cases z2 : zs.getD k 0 < 0
                · have E := Lib.hid (EH.out (wrap64 (-zs.getD k 0)) wr D1.out)
                  have OKV := Lib.hid (show B (AnyTo ts zs (k + 1)) = !B (wrap64 (-zs.getD k 0) ∈ ts) by
                    rw [ST.out]
                    cases hr : B (wrap64 (-zs.getD k 0) ∈ ts) with
                    | true =>
                      refine B_no ?_
                      rintro (h | ⟨h, _⟩ | ⟨_, h⟩)
                      · exact NB.out h
                      · omega
                      · exact h (B_true hr)
                    | false => exact B_yes (.inr (.inr ⟨z2, B_false hr⟩)))
                  clear ST NB
                  generalize B (wrap64 (-zs.getD k 0) ∈ ts) = r at *
                  generalize zs.getD k 0 = z at *
                  cases r with
                  | true =>
                    go_wp2_with fail
                    refine E.out.mono ?_
                    rintro e9 w9 ⟨rfl, rfl⟩
                    go_wp2
                    go_roundw
                    case rel => exact ⟨k + 1, by go_num, by omega, by rw [OKV.out]; rfl, trivial⟩
                    case measure => simp [intOf]; omega
                  | false =>
                    go_wp2_with fail
                    refine E.out.mono ?_
                    rintro e9 w9 ⟨rfl, rfl⟩
                    go_wp2
                    go_roundw
                    case rel => exact ⟨k + 1, by go_num, by omega, by rw [OKV.out]; rfl, trivial⟩
                    case measure => simp [intOf]; omega
                · have OKV := Lib.hid (show B (AnyTo ts zs (k + 1)) = false by
                    rw [ST.out]
                    refine B_no ?_
                    rintro (h | ⟨h, _⟩ | ⟨h, _⟩)
                    · exact NB.out h
                    · omega
                    · omega)
                  clear ST NB
                  generalize zs.getD k 0 = z at *
                  go_wp2
                  go_roundw
                  case rel => exact ⟨k + 1, by go_num, by omega, by rw [OKV.out], trivial⟩
                  case measure => simp [intOf]; omega
          · have g2' : ¬ (k : Int) < (q : Int) := by omega
            have EI := Lib.hid (B_iff (AI.out k (by omega)))
            cases hb : B (ClT ts zs) with
            | true =>
              have OKV := Lib.hid (EI.out.trans hb)
              have IT2 := Lib.hid (YI.out (B_true hb))
              rw [OKV.out]
              clear hb EI OKV
              go_wp2
              go_roundw
              case rel => exact ⟨i + 1, by go_num, by omega, IT2, trivial⟩
              case measure => simp [intOf]; omega
            | false =>
              have OKV := Lib.hid (EI.out.trans hb)
              have NO := Lib.hid (NI.out (B_false hb))
              rw [OKV.out]
              clear hb EI OKV
              go_wp2
              go_ret
              exact ⟨by rw [NO.out]; rfl, D1.out⟩
      · have g1' : ¬ (i : Int) < (n : Int) := by omega
        have YES := Lib.hid (YY.out i (by omega) IT.out)
        clear IT
        go_wp2
        go_ret
        exact ⟨by rw [YES.out]; rfl, D1.out⟩

set_option maxRecDepth 100000 in
set_option maxHeartbeats 1000000 in
/-- spec.CnfTrue. -/
theorem sct_any (vars : Int) (sl : Option Addr) (cap : Nat) (cs : List LCl) (sl2 : Option Addr) (cap2 : Nat) (ts : List Int) (w : World) (hn : cs.length ≤ maxLen) (hs : totC cs ≤ 1048576) (hwf : WfC cs) (hm : ts.length ≤ 1048576) (hz : Cls w sl cs) (ht : Ints w sl2 ts) :
    Calls Try.prog 35 #[CV vars sl cs.length cap, .slice sl2 ts.length cap2] w fun e w' => e = .returned (.bool (fC vars (bareC cs) ts == -1)) ∧ Below w.heap.size w w' := by
  have B0 := Lib.hid (bA0 w (.cells #[.int .i64 vars, .slice sl cs.length cap] 45))
  have E1 := Lib.hid (scf_any vars sl cap cs sl2 cap2 ts _ hn hs hwf hm (hz.below B0.out) (ht.below B0.out))
  clear hz ht hn hwf hs
  by_cases c1 : 400 < ts.length
  · rw [fC_long c1]
    have c1' : ¬ (ts.length : Int) ≤ 400 := by omega
    generalize cs.length = n at *
    generalize ts.length = m at *
    go_enter Try.func35, Try.ntmps35
    go_wp2
    go_ret
    exact ⟨rfl, B0.out⟩
  · have c1' : (ts.length : Int) ≤ 400 := by omega
    generalize fC vars (bareC cs) ts = f at *
    generalize cs.length = n at *
    generalize ts.length = m at *
    go_enter Try.func35, Try.ntmps35
    go_wp2_with fail
    refine E1.out.mono ?_
    rintro e w1 ⟨rfl, b1⟩
    have D1 := Lib.hid (bT B0.out b1)
    clear b1 E1
    go_wp2
    go_ret
    exact ⟨rfl, D1.out⟩

end Go.Proofs.Ytdmfljejlhlbnaa
