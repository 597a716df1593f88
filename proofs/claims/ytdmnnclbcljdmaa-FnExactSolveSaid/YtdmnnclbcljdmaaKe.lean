/-
  UNITS: which literals of a clause are not false, the first clause that is false or a unit; notFalse, passing, firstDue.
-/
import Derived.Test.YtdmnnclbcljdmaaKc
namespace Go.Proofs.Ytdmnnclbcljdmaa
open Go.RowKit
set_option linter.unusedVariables false
variable {fh : List Value}

/-- The literals of a clause that are not false. -/
noncomputable def nfl (tr zs : List Int) : List Int := zs.filter fun z => decide (0 ≤ val tr z)
/-- 0 of a false clause, the literal of a unit, none else. -/
noncomputable def unitOf (tr zs : List Int) : Option Int :=
  match nfl tr zs with
  | [] => some 0
  | [z] => if val tr z = 0 then some z else none
  | _ => none
theorem nfl_step (tr zs : List Int) (k : Nat) (h : k < zs.length) : nfl tr (zs.take (k + 1)) = if 0 ≤ val tr (zs.getD k 0) then nfl tr (zs.take k) ++ [zs.getD k 0] else nfl tr (zs.take k) := by
  rw [take_one zs k h]
  unfold nfl
  rw [List.filter_append]
  by_cases g : 0 ≤ val tr (zs.getD k 0)
  · rw [if_pos g, List.filter_cons_of_pos (by simpa using g), List.filter_nil]
  · rw [if_neg g, List.filter_cons_of_neg (by simpa using g), List.filter_nil, List.append_nil]
theorem nfl_more (tr zs : List Int) (k : Nat) : (nfl tr (zs.take k)).length ≤ (nfl tr zs).length := by
  have := congrArg (fun l => (nfl tr l).length) (List.take_append_drop k zs)
  simp only [nfl, List.filter_append, List.length_append] at this
  unfold nfl
  omega

set_option maxRecDepth 100000 in
set_option maxHeartbeats 1000000 in
/-- values.notFalse. -/
theorem nf_any (b : Nat) (tr : List Int) (z : Int) (w : World) (hv : VAt fh w b tr) (hc : Cons tr) (h1 : -96 ≤ z) (h2 : z ≤ 96) :
    Calls Try.prog 86 #[.pointer (some ⟨b, 6, none⟩), .int .i64 z] w fun e w' => e = .returned (.bool (decide (0 ≤ val tr z))) ∧ w' = w := by
  have E := Lib.hid (of_any b tr z w hv hc h1 h2)
  clear hv hc
  generalize val tr z = y at *
  go_enter Try.func86, Try.ntmps86
  go_wp2_with fail
  refine E.out.mono ?_
  rintro e w1 ⟨rfl, rfl⟩
  go_wp2
  go_ret
  exact ⟨rfl, rfl⟩

/-- What passing tells. -/
def Pas (nf : List Int) (last : Int) (count : Nat) : Prop := (nf = [] ∧ last = 0 ∧ count = 0) ∨ (nf = [last] ∧ count = 1) ∨ (2 ≤ nf.length ∧ count = 2)

set_option maxRecDepth 100000 in
set_option maxHeartbeats 2000000 in
/-- listOf.passing, of those that are not false. -/
theorem pas_any (b : Nat) (tr : List Int) (sl : Option Addr) (cap : Nat) (zs : List Int) (w : World) (hv : VAt fh w b tr) (hc : Cons tr) (hn : zs.length ≤ maxLen) (hw : ∀ z ∈ zs, -96 ≤ z ∧ z ≤ 96) (hz : Ints w sl zs) :
    Calls Try.prog 85 #[.slice sl zs.length cap, .func (.func 86) #[.pointer (some ⟨b, 6, none⟩)] #[]] w fun e w' => ∃ (last : Int) (count : Nat), e = .returned (.tuple #[.int .i64 last, .int .i64 count]) ∧ Hid (Pas (nfl tr zs) last count) ∧ w' = w := by
  unfold maxLen at hn
  have NF := Lib.hid (show ∀ k, k < zs.length → Calls Try.prog 86 #[.pointer (some ⟨b, 6, none⟩), .int .i64 (zs.getD k 0)] w fun e w' => e = .returned (.bool (decide (0 ≤ val tr (zs.getD k 0)))) ∧ w' = w from fun k hk => by
    have := hw (zs.getD k 0) (by simp [hk])
    exact nf_any b tr _ w hv hc this.1 this.2)
  have ST := Lib.hid (fun k h => nfl_step tr zs k h)
  have MO := Lib.hid (fun k => nfl_more tr zs k)
  have HZ := Lib.hid hz
  have N0 := Lib.hid (show nfl tr (zs.take 0) = [] by simp [nfl])
  have NE := Lib.hid (show ∀ k, zs.length ≤ k → nfl tr (zs.take k) = nfl tr zs from fun k h => by rw [List.take_of_length_le h])
  clear hv hc hw hz
  generalize hN : zs.length = n at *
  have HN := Lib.hid hN
  clear hN
  go_enter Try.func85, Try.ntmps85
  go_wp2
  go_loopw [6, 7, 12] (fun l c i wr => ∃ (k : Nat) (last : Int) (count : Nat), i = .int .i64 k ∧ k ≤ n ∧ l = .int .i64 last ∧ c = .int .i64 count ∧ count ≤ 1 ∧ Hid ((nfl tr (zs.take k) = [] ∧ last = 0 ∧ count = 0) ∨ (nfl tr (zs.take k) = [last] ∧ count = 1)) ∧ wr = w) (fun _ _ i _ => n - (intOf i).toNat)
  case atStart => exact ⟨0, 0, 0, rfl, Nat.zero_le _, rfl, rfl, Nat.zero_le _, .inl ⟨N0.out, rfl, rfl⟩, rfl⟩
  case round =>
    obtain ⟨k, last, count, rfl, hk, rfl, rfl, hct, HP, rfl⟩ := hrel
    have hk0 : (0 : Int) ≤ (k : Int) := by omega
    by_cases g1 : k < n
    · have g1' : (k : Int) < (n : Int) := by omega
      have hlt : k < zs.length := by rw [HN.out]; exact g1
      obtain ⟨c, o, rfl, ZI⟩ : ∃ c o, sl = some ⟨c, o, none⟩ ∧ IntsAt wr c o zs := by
        rcases HZ.out with e | h
        · rw [e] at hlt; simp at hlt
        · exact h
      have hcell := ZI.2 k hlt
      have E := Lib.hid (NF.out k g1)
      have S1 := Lib.hid (ST.out k g1)
      have M1 := Lib.hid (MO.out (k + 1))
      clear ZI hlt NF ST MO HZ
      generalize zs.getD k 0 = z at *
      by_cases hy : 0 ≤ val tr z
      · rw [decide_eq_true hy] at E
        rw [if_pos hy] at S1
        by_cases hq : count = 0
        · subst hq
          have P1 := Lib.hid (show nfl tr (zs.take (k + 1)) = [z] by
            rcases HP.out with ⟨h1, _, _⟩ | ⟨_, h2⟩
            · rw [S1.out, h1]; rfl
            · omega)
          clear HP S1 M1 hct
          go_wp2_with (first | (go_at_call 86; refine E.out.mono ?_; rintro e wq ⟨rfl, rfl⟩))
          go_roundw
          case rel => exact ⟨k + 1, z, 1, by go_num, by omega, rfl, rfl, by omega, .inr ⟨P1.out, rfl⟩, trivial⟩
          case measure => simp [intOf]; omega
        · obtain rfl : count = 1 := by omega
          have P1 := Lib.hid (show 2 ≤ (nfl tr zs).length by
            rcases HP.out with ⟨_, _, h2⟩ | ⟨h1, _⟩
            · omega
            · have := M1.out; rw [S1.out, h1] at this; simpa using this)
          clear HP S1 M1 hct
          go_wp2_with (first | (go_at_call 86; refine E.out.mono ?_; rintro e wq ⟨rfl, rfl⟩))
          go_ret2
          exact ⟨z, 2, rfl, .inr (.inr ⟨P1.out, rfl⟩), rfl⟩
      · rw [decide_eq_false hy] at E
        rw [if_neg hy] at S1
        have P1 := Lib.hid (show (nfl tr (zs.take (k + 1)) = [] ∧ last = 0 ∧ count = 0) ∨ (nfl tr (zs.take (k + 1)) = [last] ∧ count = 1) by rw [S1.out]; exact HP.out)
        clear HP S1 M1
        go_wp2_with (first | (go_at_call 86; refine E.out.mono ?_; rintro e wq ⟨rfl, rfl⟩))
        go_roundw
        case rel => exact ⟨k + 1, last, count, by go_num, by omega, rfl, rfl, hct, P1, trivial⟩
        case measure => simp [intOf]; omega
    · have g1' : ¬ (k : Int) < (n : Int) := by omega
      have P1 := Lib.hid (show Pas (nfl tr zs) last count by
        have := HP.out
        rw [NE.out k (by omega)] at this
        rcases this with h | h
        · exact .inl h
        · exact .inr (.inl h))
      clear HP NF ST MO
      go_wp2
      go_ret2
      exact ⟨last, count, rfl, P1, rfl⟩

/-- The first clause that is false or a unit, from place k on; 0 of a false one. -/
noncomputable def dueL (tr : List Int) : Nat → List (List Int) → Int × Int
  | _, [] => (-1, 0)
  | k, l :: r => match unitOf tr l with
    | some z => ((k : Int), z)
    | none => dueL tr (k + 1) r
theorem pas_unit {tr zs : List Int} {last : Int} {count : Nat} (h : Pas (nfl tr zs) last count) : (count = 0 → unitOf tr zs = some 0) ∧ (count = 1 → (val tr last = 0 → unitOf tr zs = some last) ∧ (¬ val tr last = 0 → unitOf tr zs = none)) ∧ (¬ count = 0 → ¬ count = 1 → unitOf tr zs = none) := by
  unfold unitOf
  rcases h with ⟨h1, h2, h3⟩ | ⟨h1, h2⟩ | ⟨h1, h2⟩
  · rw [h1]
    exact ⟨fun _ => rfl, fun h => by omega, fun h => absurd h3 h⟩
  · rw [h1]
    exact ⟨fun h => by omega, fun _ => ⟨fun g => by simp [g], fun g => by simp [g]⟩, fun _ h => absurd h2 h⟩
  · refine ⟨fun h => by omega, fun h => by omega, fun _ _ => ?_⟩
    match hx : nfl tr zs with
    | [] => rw [hx] at h1; simp at h1
    | [a] => rw [hx] at h1; simp at h1
    | a :: c :: r => rfl
theorem dueL_step (tr : List Int) (css : List (List Int)) (k : Nat) (h : k < css.length) : dueL tr k (css.drop k) = match unitOf tr (css.getD k []) with
    | some z => ((k : Int), z)
    | none => dueL tr (k + 1) (css.drop (k + 1)) := by
  rw [List.drop_eq_getElem_cons h, dueL]
  simp [h]
theorem dueL_end (tr : List Int) (css : List (List Int)) (k : Nat) (h : css.length ≤ k) : dueL tr k (css.drop k) = (-1, 0) := by
  rw [List.drop_of_length_le h, dueL]

set_option maxRecDepth 100000 in
set_option maxHeartbeats 2000000 in
/-- values.firstDue. -/
theorem due_any (b : Nat) (tr : List Int) (sl : Option Addr) (cap : Nat) (cs : List LCl) (w : World) (hv : VAt fh w b tr) (hc : Cons tr) (hn : cs.length ≤ 1048576) (hw : ∀ r ∈ cs, ∀ z ∈ r.2, -96 ≤ z ∧ z ≤ 96) (hz : Cls w sl cs) :
    Calls Try.prog 83 #[.pointer (some ⟨b, 6, none⟩), .slice sl cs.length cap] w fun e w' => e = .returned (.tuple #[.int .i64 (dueL tr 0 (bareC cs)).1, .int .i64 (dueL tr 0 (bareC cs)).2]) ∧ w' = w := by
  have hmf : ∀ (fn : Fn) (first cap : Array Value) (w : World), (Instr.makeFunc fn first cap).run Try.prog w = .ok (.func fn first cap) w := fun _ _ _ _ => rfl
  have PA := Lib.hid (show ∀ (k : Nat) (r : LCl), cs[k]? = some r → ∃ s kc, r.1 = .slice s r.2.length kc ∧ Calls Try.prog 85 #[.slice s r.2.length kc, .func (.func 86) #[.pointer (some ⟨b, 6, none⟩)] #[]] w fun e w' => ∃ (last : Int) (count : Nat), e = .returned (.tuple #[.int .i64 last, .int .i64 count]) ∧ Hid (Pas (nfl tr r.2) last count) ∧ w' = w from fun k r hk => by
    obtain ⟨s, kc, e, i, l⟩ := hz.each r (List.mem_of_getElem? hk)
    exact ⟨s, kc, e, pas_any b tr s kc r.2 w hv hc l (hw _ (List.mem_of_getElem? hk)) i⟩)
  have OF := Lib.hid (show ∀ z, -96 ≤ z → z ≤ 96 → Calls Try.prog 74 #[.pointer (some ⟨b, 6, none⟩), .int .i64 z] w fun e w' => e = .returned (.int .i64 (val tr z)) ∧ w' = w from fun z h1 h2 => of_any b tr z w hv hc h1 h2)
  have WI := Lib.hid (show ∀ (k : Nat) (r : LCl) (z : Int), cs[k]? = some r → nfl tr r.2 = [z] → -96 ≤ z ∧ z ≤ 96 from fun k r z hk h => hw _ (List.mem_of_getElem? hk) z (by
    have : z ∈ nfl tr r.2 := by rw [h]; simp
    exact (List.mem_filter.1 this).1))
  have DS := Lib.hid (show ∀ (k : Nat) (r : LCl), cs[k]? = some r → dueL tr k ((bareC cs).drop k) = match unitOf tr r.2 with
    | some z => ((k : Int), z)
    | none => dueL tr (k + 1) ((bareC cs).drop (k + 1)) from fun k r hk => by
    have hl := (List.getElem?_eq_some_iff.1 hk).1
    rw [dueL_step tr (bareC cs) k (by rw [bareC_length]; exact hl)]
    simp [bareC, hk])
  have DE := Lib.hid (show ∀ k, cs.length ≤ k → dueL tr k ((bareC cs).drop k) = (-1, 0) from fun k hk => dueL_end tr _ k (by rw [bareC_length]; exact hk))
  have D0 := Lib.hid (show dueL tr 0 ((bareC cs).drop 0) = dueL tr 0 (bareC cs) by simp)
  have HZ := Lib.hid hz
  clear hv hc hw hz
  generalize hD : dueL tr 0 (bareC cs) = D at *
  have HD := Lib.hid hD
  clear hD
  generalize hN : cs.length = n at *
  have HN := Lib.hid hN
  clear hN
  go_enter Try.func83, Try.ntmps83
  go_wp2
  go_loopw [12] (fun i wr => ∃ (k : Nat), i = .int .i64 k ∧ k ≤ n ∧ Hid (dueL tr k ((bareC cs).drop k) = D) ∧ wr = w) (fun i _ => n - (intOf i).toNat)
  case atStart => exact ⟨0, rfl, Nat.zero_le _, D0, rfl⟩
  case round =>
    obtain ⟨k, rfl, hk, HK, rfl⟩ := hrel
    have hk0 : (0 : Int) ≤ (k : Int) := by omega
    by_cases g1 : k < n
    · have g1' : (k : Int) < (n : Int) := by omega
      have hlt : k < cs.length := by rw [HN.out]; exact g1
      obtain ⟨c, o, rfl, cl, hcs⟩ := HZ.out.at hlt
      have hcell := hcs k hlt
      have hr := List.getElem?_eq_getElem hlt
      obtain ⟨s, kc, e1, CP⟩ := PA.out k _ hr
      rw [e1] at hcell
      have CP' := Lib.hid CP
      have D1 := Lib.hid (DS.out k _ hr)
      have W1 := Lib.hid (fun z => WI.out k _ z hr)
      clear hcs e1 CP DS WI PA hr
      generalize cs[k].2 = zs at *
      clear hlt
      generalize zs.length = m at *
      go_wp2_with fail
      refine CP'.out.mono ?_
      rintro e wq ⟨last, count, rfl, HP, rfl⟩
      have PU := Lib.hid (pas_unit HP.out)
      by_cases q0 : count = 0
      · subst q0
        have E := Lib.hid (show D = ((k : Int), 0) by rw [← HK.out, D1.out, PU.out.1 rfl])
        clear HK D1 PU HP CP' W1 OF DE
        go_wp2
        go_ret2
        exact ⟨by rw [E.out]; rfl, rfl⟩
      have q0' : ¬ (count : Int) = 0 := by omega
      by_cases q1 : count = 1
      · subst q1
        have hnf : nfl tr zs = [last] := by
          rcases HP.out with ⟨_, _, h⟩ | ⟨h, _⟩ | ⟨_, h⟩
          · omega
          · exact h
          · omega
        have wi := W1.out last hnf
        have E2 := Lib.hid (OF.out last wi.1 wi.2)
        have U := Lib.hid (PU.out.2.1 rfl)
        clear hnf wi PU HP CP' W1 OF DE
        by_cases hv : val tr last = 0
        · have E := Lib.hid (show D = ((k : Int), last) by rw [← HK.out, D1.out, U.out.1 hv])
          rw [hv] at E2
          clear HK D1 U hv
          go_wp2_with (first | (go_at_call 74; refine E2.out.mono ?_; rintro e wq ⟨rfl, rfl⟩))
          go_ret2
          exact ⟨by rw [E.out]; rfl, rfl⟩
        · have E := Lib.hid (show dueL tr (k + 1) ((bareC cs).drop (k + 1)) = D by rw [← HK.out, D1.out, U.out.2 hv])
          have hv' : (val tr last == 0) = false := by simpa using hv
          clear HK D1 U
          generalize val tr last = y at *
          go_wp2_with (first | (go_at_call 74; refine E2.out.mono ?_; rintro e wq ⟨rfl, rfl⟩))
          go_roundw
          case rel => exact ⟨k + 1, by go_num, by omega, E, trivial⟩
          case measure => simp [intOf]; omega
      · have q1' : ¬ (count : Int) = 1 := by omega
        have q0b : ((count : Int) == 0) = false := by simpa using q0'
        have q1b : ((count : Int) == 1) = false := by simpa using q1'
        have E := Lib.hid (show dueL tr (k + 1) ((bareC cs).drop (k + 1)) = D by rw [← HK.out, D1.out, PU.out.2.2 q0 q1])
        clear HK D1 PU HP CP' W1 OF DE
        go_wp2
        go_roundw
        case rel => exact ⟨k + 1, by go_num, by omega, E, trivial⟩
        case measure => simp [intOf]; omega
    · have g1' : ¬ (k : Int) < (n : Int) := by omega
      have E := Lib.hid (show D = (-1, 0) by rw [← HK.out]; exact DE.out k (by omega))
      clear HK DE DS PA OF
      go_wp2
      go_ret2
      exact ⟨by rw [E.out]; rfl, rfl⟩

end Go.Proofs.Ytdmnnclbcljdmaa
