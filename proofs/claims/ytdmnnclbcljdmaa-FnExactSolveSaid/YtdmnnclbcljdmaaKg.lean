/-
  WHAT FOLLOWS AT ONCE, as lists; values.follow, impl.listsRight.
-/
import Derived.Test.YtdmnnclbcljdmaaKf
namespace Go.Proofs.Ytdmnnclbcljdmaa
open Go.RowKit
set_option linter.unusedVariables false
variable {fh : List Value}

/-- The run, within so many rounds. -/
noncomputable def resF (css : List (List Int)) : Nat → List Int → List Int × Int
  | 0, tr => (tr, -1)
  | n + 1, tr => if (dueL tr 0 css).2 = 0 then (tr, (dueL tr 0 css).1) else resF css n (tr ++ [(dueL tr 0 css).2])
theorem resF_end (css : List (List Int)) (n : Nat) (tr : List Int) (hn : 0 < n) (h : (dueL tr 0 css).2 = 0) : resF css n tr = (tr, (dueL tr 0 css).1) := by
  obtain ⟨m, rfl⟩ : ∃ m, n = m + 1 := ⟨n - 1, by omega⟩
  rw [resF, if_pos h]
theorem resF_step (css : List (List Int)) (n : Nat) (tr : List Int) (hn : 0 < n) (h : ¬ (dueL tr 0 css).2 = 0) : resF css n tr = resF css (n - 1) (tr ++ [(dueL tr 0 css).2]) := by
  obtain ⟨m, rfl⟩ : ∃ m, n = m + 1 := ⟨n - 1, by omega⟩
  rw [resF, if_neg h]
  rfl
/-- A unit's literal has no value, and stands in a clause. -/
theorem dueL_lit (tr : List Int) : ∀ (css : List (List Int)) (k : Nat), ¬ (dueL tr k css).2 = 0 → val tr (dueL tr k css).2 = 0 ∧ ∃ l ∈ css, (dueL tr k css).2 ∈ l
  | [], k, h => absurd rfl h
  | l :: r, k, h => by
    unfold dueL at h ⊢
    cases hu : unitOf tr l with
    | none =>
      simp only [hu] at h ⊢
      obtain ⟨h1, l', h2, h3⟩ := dueL_lit tr r (k + 1) h
      exact ⟨h1, l', List.mem_cons_of_mem _ h2, h3⟩
    | some z =>
      simp only [hu] at h ⊢
      unfold unitOf at hu
      match hx : nfl tr l with
      | [] => rw [hx] at hu; simp at hu; exact absurd hu.symm h
      | [a] =>
        rw [hx] at hu
        simp only at hu
        by_cases ha : val tr a = 0
        · rw [if_pos ha] at hu
          have e : a = z := by simpa using hu
          subst e
          have hm : a ∈ nfl tr l := by rw [hx]; simp
          exact ⟨ha, l, by simp, (List.mem_filter.1 hm).1⟩
        · rw [if_neg ha] at hu; simp at hu
      | a :: c :: s => rw [hx] at hu; simp at hu
theorem val_zero {tr : List Int} {z : Int} (h : val tr z = 0) : z ∉ tr ∧ -z ∉ tr := by
  rcases val_cases tr z with ⟨e, _⟩ | ⟨e, _⟩ | ⟨_, h1⟩
  · omega
  · omega
  · exact h1
theorem SpTo.add {vars : Int} {tr : List Int} {z : Int} (h : SpTo vars tr tr.length) (ho : OkZ vars z) (h1 : z ∉ tr) (h2 : -z ∉ tr) : SpTo vars (tr ++ [z]) (tr ++ [z]).length := by
  have hg : ∀ i, i < tr.length → (tr ++ [z]).getD i 0 = tr.getD i 0 := fun i hi => by simp [List.getElem?_append_left hi]
  have hz : (tr ++ [z]).getD tr.length 0 = z := by simp
  intro i hi
  simp only [List.length_append, List.length_singleton] at hi
  by_cases e : i = tr.length
  · subst e
    rw [hz]
    refine ⟨ho, fun j hj => ?_⟩
    rw [hg j hj, hz]
    refine ⟨fun e => h1 ?_, fun e => h2 ?_⟩
    · rw [← e]; simp [hj]
    · rw [← e]; simp [hj]
  · rw [hg i (by omega)]
    refine ⟨(h i (by omega)).1, fun j hj => ?_⟩
    rw [hg j (by omega), hg i (by omega)]
    exact (h i (by omega)).2 j hj
theorem SpTo.consA {vars : Int} {zs : List Int} (h : SpTo vars zs zs.length) : Cons zs := by
  have := h.cons (Nat.le_refl _)
  rwa [List.take_length] at this

def lenV : Value → Nat
  | .slice _ n _ => n
  | _ => 0

set_option maxRecDepth 100000 in
set_option maxHeartbeats 4000000 in
/-- values.follow. -/
theorem fol_any (b : Nat) (vars : Int) (tr : List Int) (sl : Option Addr) (cap : Nat) (ls : List LCl) (w : World) (hv : VAt fh w b tr) (hv1 : vars ≤ 96) (hs : SpTo vars tr tr.length) (hn : ls.length ≤ 1048576) (hw : ∀ r ∈ ls, ∀ z ∈ r.2, OkZ vars z) (hz : ∀ W, Only b w W → Cls W sl ls) :
    Calls Try.prog 72 #[.pointer (some ⟨b, 6, none⟩), .slice sl ls.length cap] w fun e w' => ∃ v fl, e = .returned (.tuple #[v, .int .i64 (resF (bareC ls) (97 - tr.length) tr).2]) ∧ tr ++ fl = (resF (bareC ls) (97 - tr.length) tr).1 ∧ w'.ownsRow w.heap.size 2 1 v fl.length (valsZ fl) ∧ Only b w w' ∧ VAt fh w' b (resF (bareC ls) (97 - tr.length) tr).1 := by
  obtain ⟨i0, hi0, hz0, hz1, hz2⟩ := info_parts info2'
  have hlt := hv.lt
  have DU := Lib.hid (show ∀ W ts, Only b w W → VAt fh W b ts → SpTo vars ts ts.length → Calls Try.prog 83 #[.pointer (some ⟨b, 6, none⟩), .slice sl ls.length cap] W fun e w' => e = .returned (.tuple #[.int .i64 (dueL ts 0 (bareC ls)).1, .int .i64 (dueL ts 0 (bareC ls)).2]) ∧ w' = W from fun W ts h1 h2 h3 => due_any b ts sl cap ls W h2 h3.consA hn (fun r hr z hz' => by have := hw r hr z hz'; have := this.2.1; have := (hw r hr z hz').2.2; omega) (hz W h1))
  have PU := Lib.hid (show ∀ W ts, VAt fh W b ts → SpTo vars ts ts.length → ¬ (dueL ts 0 (bareC ls)).2 = 0 → SpTo vars (ts ++ [(dueL ts 0 (bareC ls)).2]) (ts ++ [(dueL ts 0 (bareC ls)).2]).length ∧ Calls Try.prog 82 #[.pointer (some ⟨b, 6, none⟩), .int .i64 (dueL ts 0 (bareC ls)).2] W fun e w' => e = .returned (.tuple #[]) ∧ VAt fh w' b (ts ++ [(dueL ts 0 (bareC ls)).2]) ∧ ∃ i v, w' = W.setCell ⟨b, i, none⟩ v from fun W ts h1 h2 h3 => by
    obtain ⟨g1, l, g2, g3⟩ := dueL_lit ts (bareC ls) 0 h3
    obtain ⟨r, hr, rfl⟩ := List.mem_map.1 g2
    have ok := hw r hr _ g3
    have nz := val_zero g1
    exact ⟨h2.add ok nz.1 nz.2, put_any b ts _ W h1 (by have := ok.2.2; omega) (by have := ok.2.1; omega) ok.1 nz.1 nz.2⟩)
  have R0 := Lib.hid (show resF (bareC ls) (97 - (tr ++ ([] : List Int)).length) (tr ++ []) = resF (bareC ls) (97 - tr.length) tr by simp)
  have RE := Lib.hid (show ∀ ts, SpTo vars ts ts.length → (dueL ts 0 (bareC ls)).2 = 0 → resF (bareC ls) (97 - ts.length) ts = (ts, (dueL ts 0 (bareC ls)).1) from fun ts h1 h2 => resF_end _ _ _ (by have := h1.short hv1; omega) h2)
  have RS := Lib.hid (show ∀ ts, SpTo vars ts ts.length → ¬ (dueL ts 0 (bareC ls)).2 = 0 → resF (bareC ls) (97 - ts.length) ts = resF (bareC ls) (97 - (ts ++ [(dueL ts 0 (bareC ls)).2]).length) (ts ++ [(dueL ts 0 (bareC ls)).2]) from fun ts h1 h2 => by
    rw [resF_step _ _ _ (by have := h1.short hv1; omega) h2]
    congr 1
    simp; omega)
  have LN := Lib.hid (show ∀ fl, SpTo vars (tr ++ fl) (tr ++ fl).length → fl.length ≤ 96 from fun fl h => by have := h.short hv1; simp at this; omega)
  have V0 := Lib.hid (show VAt fh w b (tr ++ []) by simpa using hv)
  have S0 := Lib.hid (show SpTo vars (tr ++ []) (tr ++ ([] : List Int)).length by simpa using hs)
  clear hv hs hw hz
  generalize hR : resF (bareC ls) (97 - tr.length) tr = R at *
  have HR := Lib.hid hR
  clear hR
  generalize ls.length = n at *
  go_enter Try.func72, Try.ntmps72
  go_wp2
  go_loopw [6] (fun v wr => ∃ fl, lenV v = fl.length ∧ fl.length ≤ 96 ∧ Hid (wr.ownsRow w.heap.size 2 1 v fl.length (valsZ fl)) ∧ Hid (VAt fh wr b (tr ++ fl)) ∧ Hid (SpTo vars (tr ++ fl) (tr ++ fl).length) ∧ Hid (Only b w wr) ∧ Hid (resF (bareC ls) (97 - (tr ++ fl).length) (tr ++ fl) = R)) (fun v _ => 97 - lenV v)
  case atStart => exact ⟨[], rfl, Nat.zero_le _, ⟨rfl, .inl ⟨rfl, rfl⟩⟩, V0, S0, Only.refl _ _, R0⟩
  case round =>
    obtain ⟨fl, hlv, hl96, H1, H2, H3, H4, H6⟩ := hrel
    obtain ⟨vs, vc, rfl⟩ := own_v H1.out
    have D1 := Lib.hid (DU.out wr (tr ++ fl) H4.out H2.out H3.out)
    by_cases hd : (dueL (tr ++ fl) 0 (bareC ls)).2 = 0
    · have E := Lib.hid (show R = (tr ++ fl, (dueL (tr ++ fl) 0 (bareC ls)).1) by rw [← H6.out]; exact RE.out _ H3.out hd)
      rw [hd] at D1
      clear hd DU PU RE RS
      generalize (dueL (tr ++ fl) 0 (bareC ls)).1 = pl at *
      generalize hF : fl.length = fn at *
      have HF := Lib.hid hF
      clear hF
      go_wp2_with fail
      refine D1.out.mono ?_
      rintro e wq ⟨rfl, rfl⟩
      go_wp2
      go_ret2
      exact ⟨_, fl, by rw [E.out]; rfl, by rw [E.out], by rw [HF.out]; exact H1.out, H4.out, by rw [E.out]; exact H2.out⟩
    · obtain ⟨S2, P2⟩ := PU.out wr (tr ++ fl) H2.out H3.out hd
      have E := Lib.hid (RS.out _ H3.out hd)
      have PP := Lib.hid P2
      have SS := Lib.hid S2
      have hlt2 := H2.out.lt
      have hd' : ((dueL (tr ++ fl) 0 (bareC ls)).2 == 0) = false := by simpa using hd
      clear S2 P2 DU PU RE RS
      generalize (dueL (tr ++ fl) 0 (bareC ls)).1 = pl at *
      generalize (dueL (tr ++ fl) 0 (bareC ls)).2 = z at *
      have EA := Lib.hid (List.append_assoc tr fl [z])
      have LL := Lib.hid (show (fl ++ [z]).length ≤ 96 from LN.out _ (by rw [← EA.out]; exact SS.out))
      have E6 : Hid (resF (bareC ls) (97 - (tr ++ (fl ++ [z])).length) (tr ++ (fl ++ [z])) = R) := by
        show _ = _
        rw [← EA.out, ← E.out]; exact H6.out
      have E3 : Hid (SpTo vars (tr ++ (fl ++ [z])) (tr ++ (fl ++ [z])).length) := by
        show SpTo vars (tr ++ (fl ++ [z])) (tr ++ (fl ++ [z])).length
        rw [← EA.out]; exact SS.out
      have EV := Lib.hid (show valsZ fl ++ [.int .i64 z] = valsZ (fl ++ [z]) by simp [valsZ])
      have VV := Lib.hid (show ∀ W, VAt fh W b (tr ++ fl ++ [z]) → VAt fh W b (tr ++ (fl ++ [z])) from fun W h => by rwa [List.append_assoc] at h)
      generalize hF : fl.length = fn at *
      have HF := Lib.hid hF
      clear hF
      go_wp2_with fail
      refine D1.out.mono ?_
      rintro e wq ⟨rfl, rfl⟩
      go_wp2_with fail
      refine PP.out.mono ?_
      rintro e wq ⟨rfl, hva, i, u, hset⟩
      have O2 := Lib.hid (show wq.ownsRow w.heap.size 2 1 (.slice vs fn vc) fn (valsZ fl) by rw [hset]; exact ownsRow_setCell_below H1.out (a := ⟨b, i, none⟩) hlt u)
      have K2 := Lib.hid (show Only b w wq by rw [hset]; exact H4.out.setCell i u)
      have V2 := Lib.hid hva
      have hs2 := K2.out.size
      have hlq := hva.lt
      clear hva hset H1 H2 H3 H4 H6 D1 PP E
      go_wp2_with (first | (at_builtin; refine wpList_append_lies _ rfl (.tmp 22) (.tmp 24) 28 rfl w.heap.size 2 i0 (.int .i64 0) 1 8 Try.underlying28 hi0 hz0 hz1 hz2 rfl (by decide) _ _ _ rfl (O2.out.alloc _) ⟨wq.heap.size, 0, none⟩ 1 1 [.int .i64 z] rfl rfl (cell_one_new _ _ _) (by intro u hu; simp at hu; subst hu; rfl) (by decide) (by unfold maxLen; omega) (by omega) (by simp; omega) (wq.heap.size + 1) (by simp) ?_))
      intro g9 cap9 w9 own9 grow9 hg9 hlt9
      have A9 := Lib.hid ((Below.refl wq.heap.size wq).alloc (Nat.le_refl _) (.cells #[.int .i64 z] 2))
      have G9 := Lib.hid (show ∀ k, k < w.heap.size → w9.heap[k]? = wq.heap[k]? from fun k hk => by
        rw [grow9.block k (by simp; omega) (fun e => by have := (O2.out.lt k e.symm).1; omega)]
        exact Below.heap_alloc wq _ k (by omega))
      have K9 := Lib.hid (show Only b w w9 from (K2.out.alloc _).grown grow9 (fun j hj => (O2.out.lt j hj).1))
      have V9 := Lib.hid (show VAt fh w9 b (tr ++ (fl ++ [z])) from VV.out _ (V2.out.kept (G9.out b hlt)))
      rw [EV.out] at own9
      have N9 := Lib.hid (show w9.ownsRow w.heap.size 2 1 (.slice (some ⟨g9, 0, none⟩) (fn + 1) cap9) (fl ++ [z]).length (valsZ (fl ++ [z])) by rw [List.length_append, HF.out]; exact own9)
      have L9 := Lib.hid (show (fl ++ [z]).length = fn + 1 by rw [List.length_append, HF.out]; rfl)
      clear own9 grow9 hg9 hlt9
      go_wp2
      go_roundw
      case rel => exact ⟨fl ++ [z], by rw [L9.out]; rfl, LL.out, N9, V9, E3, K9, E6⟩
      case measure => simp [lenV]; have := L9.out; have := LL.out; omega

/-- Each list may stand beside the clauses. -/
def MoR (vars : Int) (dss : List (List Int)) : Prop := ∀ l ∈ dss, SpTo vars l l.length


end Go.Proofs.Ytdmnnclbcljdmaa
