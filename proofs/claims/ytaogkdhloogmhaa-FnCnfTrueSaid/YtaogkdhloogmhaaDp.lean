/-
  A TABLE, A TOP, IDS AND TRUES, DRAWN: DrawPlanOf.
-/
import Derived.Test.YtaogkdhloogmhaaHao
import Derived.Test.YtaogkdhloogmhaaHan
import Derived.Test.YtaogkdhloogmhaaHal
import Derived.Test.YtaogkdhloogmhaaGaf
import Derived.Test.YtaogkdhloogmhaaCg
namespace Go.Proofs.Ytaogkdhloogmhaa
open Go.RowKit
set_option linter.unusedVariables false
set_option linter.unusedSimpArgs false

/-- What is drawn. -/
def DqP (w : World) (e : Ending) (w' : World) : Prop :=
  ∃ (s1 : Option Addr) (c1 : Nat) (s2 : Option Addr) (c2 : Nat) (rs : List LSt) (ps : List LPr) (top : Int) (si : Option Addr) (ki : Nat) (ids : List Int) (st : Option Addr) (kt : Nat) (ts : List Int), e = .returned (.tuple #[TV s1 rs.length c1 s2 ps.length c2, .int .i64 top, .slice si ids.length ki, .slice st ts.length kt]) ∧ rs.length ≤ 14 ∧ ps.length ≤ 41 ∧ (∀ p ∈ ps, WfP p) ∧ ids.length ≤ 15 ∧ ts.length ≤ 1000 ∧ Sts w' s1 rs ∧ Prs w' s2 ps ∧ Ints w' si ids ∧ Ints w' st ts ∧ Below w.heap.size w w'
/-- Behind the draws of the ids, in world u: all but the source (b) and the answer's block stays. -/
structure PS (w u : World) (B b : Nat) (W : World) : Prop where
  src : SrcB B W b
  bel : Below w.heap.size w W
  sz : u.heap.size ≤ W.heap.size
  kp : ∀ k, k < u.heap.size → k ≠ b → W.heap[k]? = u.heap[k]?
  hb : w.heap.size < b ∧ b < B ∧ B ≤ u.heap.size
section
variable {w u : World} {B b : Nat} {W W' : World}
theorem PS.draw (h : PS w u B b W) (hs : SrcB B W' b) (ho : Only b W W') : PS w u B b W' :=
  ⟨hs, ho.below h.bel (by have := h.hb; omega), Nat.le_trans h.sz ho.size, fun k hk hn => (ho.block k (Nat.lt_of_lt_of_le hk h.sz) hn).trans (h.kp k hk hn), h.hb⟩
theorem PS.below (h : PS w u B b W) (hb : Below W.heap.size W W') : PS w u B b W' :=
  ⟨h.src.below hb, bT h.bel hb, Nat.le_trans h.sz hb.size, fun k hk hn => (hb.block k (Nat.lt_of_lt_of_le hk h.sz)).trans (h.kp k hk hn), h.hb⟩
theorem PS.grown (h : PS w u B b W) {row : Option Nat} (gr : W.grownBy W' row) (lo : ∀ g, row = some g → u.heap.size ≤ g) : PS w u B b W' := by
  have hb := h.hb
  exact ⟨h.src.grown gr (fun g hg => by have := lo g hg; omega), h.bel.grown gr h.bel.size (fun g hg => by have := lo g hg; omega), Nat.le_trans h.sz gr.size, fun k hk hn => (gr.block k (Nat.lt_of_lt_of_le hk h.sz) (fun e => by have := lo _ e.symm; omega)).trans (h.kp k hk hn), h.hb⟩
theorem PS.set (h : PS w u B b W) (c : Nat) (hc : u.heap.size ≤ c) (o : Nat) (v : Value) : PS w u B b (W.setCell ⟨c, o, none⟩ v) := by
  have hb := h.hb
  exact ⟨h.src.set c (by omega) o v, h.bel.setCell (by show w.heap.size ≤ c; omega) v, by simpa using h.sz, fun k hk hn => (Below.heap_setCell _ _ _ _ (by show k ≠ c; omega)).trans (h.kp k hk hn), h.hb⟩
end
theorem ints_put {W : World} {c o j : Nat} {T : List Int} (h : IntsAt W c o T) (hj : j < T.length) (z : Int) : IntsAt (W.setCell ⟨c, o + j, none⟩ (.int .i64 z)) c o (T.set j z) := by
  refine ⟨by simpa using h.1, fun i hi => ?_⟩
  rw [List.length_set] at hi
  by_cases e : i = j
  · subst e
    rw [World.cell?_setCell_same _ _ _ (h.2 i hi)]
    simp [hi]
  · rw [World.cell?_setCell_other _ _ _ _ (by intro g; injection g with g1 g2; omega), h.2 i hi]
    simp [List.getElem?_set, Ne.symm e]

theorem own_thaw {w : World} {B : Nat} {g n k : Nat} {xs : List Value} {m : Nat} (h : w.ownsRow B 2 1 (.slice (some ⟨g, 0, none⟩) n k) m xs) (j : Nat) : w.frozen? ⟨g, j, none⟩ = false := by
  obtain ⟨cur, hc⟩ := own_kind h rfl
  simp [World.frozen?, hc]
theorem tot_fit {m : Nat} : ∀ l : List LCl, (∀ r ∈ l, r.2.length ≤ m) → totC l ≤ m * l.length
  | [], _ => by simp [totC]
  | r :: t, h => by
    have h1 := tot_fit t (fun s hs => h s (by simp [hs]))
    have h2 := h r (by simp)
    have e : totC (r :: t) = r.2.length + totC t := by simp [totC]
    rw [e, List.length_cons, Nat.mul_succ]
    omega
theorem wf_fit {z : Int} (h : -100 ≤ z ∧ z ≤ 100) : wfI z := by
  unfold wfI
  have e1 : IntKind.i64.min = -9223372036854775808 := by rfl
  have e2 : IntKind.i64.max = 9223372036854775807 := by rfl
  simp only [Lit.wf, e1, e2, Bool.and_eq_true, decide_eq_true_eq]
  omega

set_option maxRecDepth 100000 in
set_option maxHeartbeats 8000000 in
/-- spec.DrawPlanOf. -/
theorem dpo_any (sl : Option Addr) (len cap : Nat) (w : World) (hr : RowIn w sl len) :
    Calls Try.prog 4 #[.slice sl len cap] w (DqP w) := by
  have HS := Lib.hid (source_any sl len cap (w.alloc (.cells #[.slice none 0 0, .slice none 0 0] 26)) (hr.below (bA0 _ _)))
  have R0 := Lib.hid (new_at w (.cells #[.slice none 0 0, .slice none 0 0] 26))
  have B0 := Lib.hid (bA0 w (.cells #[.slice none 0 0, .slice none 0 0] 26))
  have hz : (w.alloc (.cells #[.slice none 0 0, .slice none 0 0] 26)).heap.size = w.heap.size + 1 := by simp
  clear hr
  go_enter Try.func4, Try.ntmps4
  go_wp2_with fail
  generalize w.alloc (.cells #[.slice none 0 0, .slice none 0 0] 26) = w0 at *
  refine HS.out.mono ?_
  rintro e w1 ⟨rfl, s1, b1⟩
  rw [hz] at s1 b1
  have T1 := Lib.hid (tab_any (w.heap.size + 1) w1 s1)
  have B1 := Lib.hid (B0.out.trans (b1.mono (by omega)))
  have R1 := Lib.hid ((b1.block w.heap.size (by omega)).trans R0.out)
  have h1z : w.heap.size + 1 < w1.heap.size := s1.lt
  clear s1 b1 HS R0 B0
  rw [hz]
  go_wp2_with fail
  refine T1.out.mono ?_
  rintro e w2 ⟨sl1, cap1, sl2, cap2, rs, ps, rfl, h1, h2, hw, sr, ho, hk⟩
  have R2 := Lib.hid ((ho.block w.heap.size (by omega) (by omega)).trans R1.out)
  have hs2 := ho.size
  have B2 : Hid (Below w.heap.size w w2) := ho.below B1.out (by omega)
  have SB3 := Lib.hid ((SrcB.of sr).below (bA0 w2 (.cells #[.slice sl1 rs.length cap1, .slice sl2 ps.length cap2] 26)))
  have N3 : Hid (Only (w.heap.size + 1) w2 (w2.alloc (.cells #[.slice sl1 rs.length cap1, .slice sl2 ps.length cap2] 26))) := Only.of_below (bA0 w2 (.cells #[.slice sl1 rs.length cap1, .slice sl2 ps.length cap2] 26))
  have K : Hid (∀ W, w2.heap.size ≤ W.heap.size → (∀ k, k < w2.heap.size → k ≠ w.heap.size + 1 → k ≠ w.heap.size → W.heap[k]? = w2.heap[k]?) → Sts W sl1 rs ∧ Prs W sl2 ps) := fun W a1 a2 => hk W a1 (fun k k1 k2 => a2 k k2 (by omega) (by omega))
  have TB := Lib.hid (TabAt.new w2 sl1 rs.length cap1 sl2 ps.length cap2)
  have HW := Lib.hid hw
  have hs3 : (w2.alloc (.cells #[.slice sl1 rs.length cap1, .slice sl2 ps.length cap2] 26)).heap.size = w2.heap.size + 1 := by simp
  clear sr ho hk T1 R1 B1 hw
  go_wp2_with fail
  generalize w2.alloc (.cells #[.slice sl1 rs.length cap1, .slice sl2 ps.length cap2] 26) = w3 at *
  refine (top_any w2.heap.size (w.heap.size + 1) w3 SB3.out).mono ?_
  rintro e w4 ⟨top, rfl, s4, o4⟩
  have N4 := Lib.hid (N3.out.trans o4)
  have T4 : Hid (TabAt w4 w2.heap.size sl1 rs.length cap1 sl2 ps.length cap2) := (o4.block w2.heap.size TB.out.lt (by omega)).trans TB.out
  have z4 := o4.size
  have L4 := Lib.hid (lids_any w2.heap.size (w.heap.size + 1) sl1 cap1 sl2 ps.length cap2 rs w4 h1 s4 (fun W hW => (K.out W (by have := hW.size; omega) (fun k k1 k2 k3 => (hW.block k (by omega) k2).trans (N4.out.block k k1 k2))).1))
  clear s4 o4 N3 TB SB3
  obtain ⟨t0, t1⟩ := T4.out.cells
  have tl := T4.out.lt
  go_wp2_with fail
  refine L4.out.mono ?_
  rintro e w5 ⟨v, ids, rfl, hid, o5, s5, n5⟩
  obtain ⟨si, ki, rfl⟩ := own_v o5
  have N5 := Lib.hid (N4.out.trans n5)
  have z5 := n5.size
  have R5 : Hid (w5.heap[w.heap.size]? = some (.cells #[.slice none 0 0, .slice none 0 0] 26)) := (N5.out.block w.heap.size (by omega) (by omega)).trans R2.out
  have T5 : Hid (TabAt w5 w2.heap.size sl1 rs.length cap1 sl2 ps.length cap2) := (n5.block w2.heap.size T4.out.lt (by omega)).trans T4.out
  have P5 : Hid (PS w w5 w2.heap.size (w.heap.size + 1) w5) := ⟨s5, N5.out.below B2.out (by omega), Nat.le_refl _, fun _ _ _ => rfl, by omega⟩
  have O5 := Lib.hid o5
  have KX : Hid (∀ W, w5.heap.size ≤ W.heap.size → (∀ k, k < w5.heap.size → k ≠ w.heap.size + 1 → k ≠ w.heap.size → W.heap[k]? = w5.heap[k]?) → Sts W sl1 rs ∧ Prs W sl2 ps ∧ Ints W si ids ∧ TabAt W w2.heap.size sl1 rs.length cap1 sl2 ps.length cap2) := fun W a1 a2 => by
    obtain ⟨x1, x2⟩ := K.out W (by have := N5.out.size; omega) (fun k k1 k2 k3 => (a2 k (by have := N5.out.size; omega) k2 k3).trans (N5.out.block k k1 k2))
    have o6 : W.ownsRow w4.heap.size 2 1 (.slice si ids.length ki) ids.length (valsZ ids) := own_keep O5.out (fun j hj => a2 j (O5.out.lt j hj).2 (by have := own_base O5.out hj; omega) (by have := own_base O5.out hj; omega))
    obtain ⟨s', k', e', i'⟩ := own_ints o6
    cases e'
    exact ⟨x1, x2, i', (a2 w2.heap.size T5.out.lt (by omega) (by omega)).trans T5.out⟩
  have KP : Hid (∀ W, PS w w5 w2.heap.size (w.heap.size + 1) W → Sts W sl1 rs ∧ Prs W sl2 ps ∧ Ints W si ids ∧ TabAt W w2.heap.size sl1 rs.length cap1 sl2 ps.length cap2) := fun W p => KX.out W p.sz (fun k k1 k2 _ => p.kp k k1 k2)
  have CO : Hid (∀ W, PS w w5 w2.heap.size (w.heap.size + 1) W → Calls Try.prog 9 #[TV sl1 rs.length cap1 sl2 ps.length cap2, .int .i64 top, .slice si ids.length ki] W fun e w' => ∃ (vars : Int) (vs : Option Addr) (vk : Nat) (cs : List LCl), e = .returned (.agg #[.int .i64 vars, .slice vs cs.length vk]) ∧ Cls w' vs cs ∧ ((∀ r ∈ cs, r.2.length ≤ 20 ∧ ∀ z ∈ r.2, -100 ≤ z ∧ z ≤ 100) ∧ cs.length ≤ 5000) ∧ Below W.heap.size W w') := fun W p => by
    obtain ⟨x1, x2, x3, _⟩ := KP.out W p
    refine (sco_any sl1 cap1 sl2 cap2 si ki rs ps top ids W (by omega) (by omega) x1 x2 x3).mono ?_
    rintro e w' ⟨v, cs, rfl, oc, eb, bl⟩
    obtain ⟨s', k', e', c'⟩ := oc.cls
    subst e'
    exact ⟨_, s', k', cs, rfl, c', cnA_fit rs ps top ids cs eb, bl⟩
  have SO : Hid (∀ (W : World) (vars : Int) (vs : Option Addr) (vk : Nat) (cs : List LCl), Cls W vs cs → ((∀ r ∈ cs, r.2.length ≤ 20 ∧ ∀ z ∈ r.2, -100 ≤ z ∧ z ≤ 100) ∧ cs.length ≤ 5000) → Calls Try.prog 18 #[CV vars vs cs.length vk, .int .i64 200] W fun e w' => ∃ (x st c : Int) (s : Option Addr) (k : Nat) (T : List Int) (l : Option Addr) (ln j : Nat), e = .returned (.agg #[.int .i64 x, .slice s T.length k, .slice l ln j, .int .i64 st, .int .i64 c]) ∧ Ints w' s T ∧ T.length ≤ 900 ∧ Below W.heap.size W w') := fun W vars vs vk cs hc hb => by
    have htot : totC cs ≤ 1048576 := by have := tot_fit cs (fun r hr => (hb.1 r hr).1); have := hb.2; omega
    have hwf : WfC cs := fun r hr z hz => wf_fit ((hb.1 r hr).2 z hz)
    refine (sso_any vars 200 vs vk cs W (by have := hb.2; unfold maxLen; omega) htot hwf hc).mono ?_
    rintro e w' ⟨vt, vl, ls, rfl, sv, bl⟩
    obtain ⟨s, k, e1, i1⟩ := own_ints sv.tr
    obtain ⟨l, j, e2⟩ := sv.ol.v
    subst e1
    subst e2
    exact ⟨_, _, _, s, k, _, l, _, j, rfl, i1, (solA_small vars (bareC cs) 200).1, bl⟩
  clear L4 T4 t0 t1 tl o5 s5 n5 N4 N5 K B2 R2
  have RX : Hid (∀ W, PS w w5 w2.heap.size (w.heap.size + 1) W → W.heap[w.heap.size]? = some (.cells #[.slice none 0 0, .slice none 0 0] 26)) := fun W p => (p.kp w.heap.size (by omega) (by omega)).trans R5.out
  have FIN : Hid (∀ (W : World) (s : Option Addr) (k : Nat) (T : List Int), PS w w5 w2.heap.size (w.heap.size + 1) W → T.length ≤ 1000 → (T = [] ∨ ∃ g o, s = some ⟨g, o, none⟩ ∧ w5.heap.size ≤ g ∧ IntsAt W g o T) → DqP w (.returned (.tuple #[TV sl1 rs.length cap1 sl2 ps.length cap2, .int .i64 top, .slice si ids.length ki, .slice s T.length k])) ((W.setCell ⟨w.heap.size, 0, none⟩ (.slice sl1 rs.length cap1)).setCell ⟨w.heap.size, 1, none⟩ (.slice sl2 ps.length cap2))) := fun W s k T p hT hi => by
    have keep : ∀ j, j ≠ w.heap.size → ((W.setCell ⟨w.heap.size, 0, none⟩ (.slice sl1 rs.length cap1)).setCell ⟨w.heap.size, 1, none⟩ (.slice sl2 ps.length cap2)).heap[j]? = W.heap[j]? := fun j hj => (Below.heap_setCell _ _ _ _ hj).trans (Below.heap_setCell _ _ _ _ hj)
    have hsz : ((W.setCell ⟨w.heap.size, 0, none⟩ (.slice sl1 rs.length cap1)).setCell ⟨w.heap.size, 1, none⟩ (.slice sl2 ps.length cap2)).heap.size = W.heap.size := by simp
    obtain ⟨x1, x2, x3, _⟩ := KX.out _ (by rw [hsz]; exact p.sz) (fun j j1 j2 j3 => (keep j j3).trans (p.kp j j1 j2))
    refine ⟨sl1, cap1, sl2, cap2, rs, ps, top, si, ki, ids, s, k, T, rfl, h1, h2, HW.out, hid, hT, x1, x2, x3, ?_, (p.bel.setCell (Nat.le_refl _) _).setCell (Nat.le_refl _) _⟩
    rcases hi with hi | ⟨g, o, e, hg, ia⟩
    · exact .inl hi
    · refine .inr ⟨g, o, e, by rw [hsz]; exact ia.1, fun i h => ?_⟩
      rw [World.cell?_of_block (keep g (by omega))]
      exact ia.2 i h
  have E6 : Hid ((w5.alloc (.cells #[] 2)).ownsRow w5.heap.size 2 1 (.slice (some ⟨w5.heap.size, 0, none⟩) 0 0) 0 []) := own_none5 w5
  have P6 := Lib.hid (P5.out.below (bA0 w5 (.cells #[] 2)))
  obtain ⟨q1, q2, q3, q4⟩ := KP.out _ P6.out
  obtain ⟨t0, t1⟩ := q4.cells
  have tl := q4.lt
  clear q1 q2 q3 q4 KX O5 R5 T5 P5 HW h1 h2 hid
  generalize rs.length = rn at *
  generalize ps.length = pn at *
  generalize ids.length = inn at *
  --@a
  go_wp2_with fail
  generalize w5.alloc (.cells #[] 2) = w6 at *
  refine (CO.out _ P6.out).mono ?_
  rintro e w7 ⟨vars, vs, vk, cs, rfl, c7, f7, b7⟩
  have P7 := Lib.hid (P6.out.below b7)
  have E7 := Lib.hid (own_below E6.out b7)
  have S7 := Lib.hid (SO.out w7 vars vs vk cs c7 f7)
  clear c7 f7 b7 CO SO P6 E6 t0 t1 tl
  generalize cs.length = cn at *
  --@b
  go_wp2_with fail
  refine S7.out.mono ?_
  rintro e w8 ⟨x8, st8, cc8, s8, k8, T, l8, ln8, j8, rfl, i8, hT, b8⟩
  have P8 := Lib.hid (P7.out.below b8)
  have E8 := own_below E7.out b8
  have z8 := P8.out.sz
  obtain ⟨v9, w9, ha, ow9, gr9, lo9⟩ := appZ (zs := []) E8 k8 i8 z8 (by simp; omega)
  have P9 := Lib.hid (P8.out.grown gr9 lo9)
  rw [List.nil_append] at ow9
  obtain ⟨s9, k9, rfl⟩ := own_v ow9
  have O9 := Lib.hid ow9
  have hfd : ∀ w : World, (Instr.field 48 (.agg #[.int .i64 x8, .slice s8 T.length k8, .slice l8 ln8 j8, .int .i64 st8, .int .i64 cc8]) 1).run Try.prog w = .ok (.slice s8 T.length k8) w := fun _ => by kernel_rfl
  have ha' := ha 27
  have IN : Hid (∀ W, PS w w5 w2.heap.size (w.heap.size + 1) W → W.ownsRow w5.heap.size 2 1 (.slice s9 T.length k9) T.length (valsZ T) → T = [] ∨ ∃ g o, s9 = some ⟨g, o, none⟩ ∧ w5.heap.size ≤ g ∧ IntsAt W g o T) := fun W p o => by
    obtain ⟨s', k', e', i'⟩ := own_ints o
    cases e'
    rcases i' with i' | ⟨c, oo, e, ia⟩
    · exact .inl i'
    · refine .inr ⟨c, oo, e, ?_, ia⟩
      subst e
      exact own_base o rfl
  clear ha ow9 gr9 lo9 i8 b8 S7 E7 E8 P7 P8 z8
  generalize hTn : T.length = tn at *
  have HTN := Lib.hid hTn
  clear hTn
  --@c
  go_wp2_with (at_builtin; refine Lib.wpList_append_run _ rfl _ _ _ _ rfl _ _ rfl rfl _ _ ha' ?_)
  clear hfd ha'
  refine (oneB_any w2.heap.size (w.heap.size + 1) 4 w9 (by decide) P9.out.src).mono ?_
  rintro e w10 ⟨t, rfl, s10, o10⟩
  have P10 := Lib.hid (P9.out.draw s10 o10)
  have O10 := Lib.hid (own_only O9.out o10 (by omega))
  clear s10 o10 P9 O9
  cases t with
  | true =>
    by_cases hpos : 0 < tn
    · have hpos' : (1 : Int) ≤ (tn : Int) := by omega
      have hgt : (0 : Int) < (tn : Int) := by omega
      go_wp2_with fail
      refine (nB_lt w2.heap.size (w.heap.size + 1) (tn : Int) w10 hpos' (by omega) P10.out.src).mono ?_
      rintro e w11 ⟨r, rfl, r0, r1, s11, o11⟩
      have P11 := Lib.hid (P10.out.draw s11 o11)
      have O11 := Lib.hid (own_only O10.out o11 (by omega))
      clear s11 o11 P10 O10
      go_wp2_with fail
      refine (nB_lt w2.heap.size (w.heap.size + 1) 20 w11 (by decide) (by decide) P11.out.src).mono ?_
      rintro e w12 ⟨q, rfl, q0, q1, s12, o12⟩
      have P12 := Lib.hid (P11.out.draw s12 o12)
      have O12 := Lib.hid (own_only O11.out o12 (by omega))
      clear s12 o12 P11 O11
      obtain ⟨j, rfl⟩ : ∃ j : Nat, r = (j : Int) := ⟨r.toNat, by omega⟩
      have hj : j < tn := by omega
      have hjT : j < T.length := by rw [HTN.out]; exact hj
      obtain ⟨g, rfl, hg, ia⟩ : ∃ g, s9 = some ⟨g, 0, none⟩ ∧ w5.heap.size ≤ g ∧ IntsAt w12 g 0 T := by
        rcases IN.out _ P12.out O12.out with h | ⟨g, o, e, hg, ia⟩
        · rw [h] at hjT; simp at hjT
        · have h0 : o = 0 := by
            rcases O12.out.2 with ⟨e1, _⟩ | ⟨g', cp, cur, hv, _⟩
            · rw [e] at e1; cases e1
            · rw [e] at hv; cases hv; rfl
          subst h0
          exact ⟨g, e, hg, ia⟩
      have hcell := ia.2 j hjT
      rw [Nat.zero_add] at hcell
      have hfr : w12.frozen? ⟨g, j, none⟩ = false := own_thaw O12.out j
      have hglt := ia.1
      have hz1 : wrap64 (1 + q) = 1 + q := wrap_in _ ⟨by omega, by omega⟩
      have P13 := Lib.hid (P12.out.set g hg j (.int .i64 (1 + q)))
      have I13 := ints_put ia hjT (1 + q)
      rw [Nat.zero_add] at I13
      have HI : T.set j (1 + q) = [] ∨ ∃ g' o, some (⟨g, 0, none⟩ : Addr) = some ⟨g', o, none⟩ ∧ w5.heap.size ≤ g' ∧ IntsAt (w12.setCell ⟨g, j, none⟩ (.int .i64 (1 + q))) g' o (T.set j (1 + q)) := .inr ⟨g, 0, rfl, hg, I13⟩
      clear I13 ia hjT O12 P12
      have RR := RX.out _ P13.out
      have PF := Lib.hid (FIN.out (w12.setCell ⟨g, j, none⟩ (.int .i64 (1 + q))) (some ⟨g, 0, none⟩) k9 (T.set j (1 + q)) P13.out (by rw [List.length_set]; have := HTN.out; omega) HI)
      rw [List.length_set, HTN.out] at PF
      obtain ⟨q1, q2, q3, q4⟩ := KP.out _ P13.out
      obtain ⟨t0, t1⟩ := q4.cells
      have tl := q4.lt
      have c0 : (w12.setCell ⟨g, j, none⟩ (.int .i64 (1 + q))).cell? ⟨w.heap.size, 0, none⟩ = some (.slice none 0 0) := by simp [World.cell?, RR]
      have c1 : (w12.setCell ⟨g, j, none⟩ (.int .i64 (1 + q))).cell? ⟨w.heap.size, 1, none⟩ = some (.slice none 0 0) := by simp [World.cell?, RR]
      have f0 : (w12.setCell ⟨g, j, none⟩ (.int .i64 (1 + q))).frozen? ⟨w.heap.size, 0, none⟩ = false := by simp [World.frozen?, RR]
      have f1 : (w12.setCell ⟨g, j, none⟩ (.int .i64 (1 + q))).frozen? ⟨w.heap.size, 1, none⟩ = false := by simp [World.frozen?, RR]
      have lt8 : w.heap.size < (w12.setCell ⟨g, j, none⟩ (.int .i64 (1 + q))).heap.size := (Array.getElem?_eq_some_iff.1 RR).1
      have R7 := heap_setCell_same _ w.heap.size 1 _ 26 (.slice sl2 pn cap2) (heap_setCell_same (w12.setCell ⟨g, j, none⟩ (.int .i64 (1 + q))) w.heap.size 0 _ 26 (.slice sl1 rn cap1) RR)
      have e5 : (((w12.setCell ⟨g, j, none⟩ (.int .i64 (1 + q))).setCell ⟨w.heap.size, 0, none⟩ (.slice sl1 rn cap1)).setCell ⟨w.heap.size, 1, none⟩ (.slice sl2 pn cap2)).cell? ⟨w.heap.size, 0, none⟩ = some (.slice sl1 rn cap1) := by simp [World.cell?, R7]
      have e6 : (((w12.setCell ⟨g, j, none⟩ (.int .i64 (1 + q))).setCell ⟨w.heap.size, 0, none⟩ (.slice sl1 rn cap1)).setCell ⟨w.heap.size, 1, none⟩ (.slice sl2 pn cap2)).cell? ⟨w.heap.size, 1, none⟩ = some (.slice sl2 pn cap2) := by simp [World.cell?, R7]
      clear q1 q2 q3 q4 RR R7 FIN KP RX IN
      go_wp2
      exact bodyPost_ret (v := .tuple #[.agg #[.slice sl1 rn cap1, .slice sl2 pn cap2], .int .i64 top, .slice si inn ki, .slice (some ⟨g, 0, none⟩) tn k9]) (by simp [results, Try.results4, go_sem, e5, e6]) rfl PF.out
    · have hgt : ¬ (0 : Int) < (tn : Int) := by omega
      have PF0 := IN.out _ P10.out O10.out
      have RR := RX.out _ P10.out
      have PF := Lib.hid (FIN.out w10 s9 k9 T P10.out (by have := HTN.out; omega) PF0)
      rw [HTN.out] at PF
      obtain ⟨q1, q2, q3, q4⟩ := KP.out _ P10.out
      obtain ⟨t0, t1⟩ := q4.cells
      have tl := q4.lt
      have c0 : w10.cell? ⟨w.heap.size, 0, none⟩ = some (.slice none 0 0) := by simp [World.cell?, RR]
      have c1 : w10.cell? ⟨w.heap.size, 1, none⟩ = some (.slice none 0 0) := by simp [World.cell?, RR]
      have f0 : w10.frozen? ⟨w.heap.size, 0, none⟩ = false := by simp [World.frozen?, RR]
      have f1 : w10.frozen? ⟨w.heap.size, 1, none⟩ = false := by simp [World.frozen?, RR]
      have lt8 : w.heap.size < w10.heap.size := (Array.getElem?_eq_some_iff.1 RR).1
      have R7 := heap_setCell_same _ w.heap.size 1 _ 26 (.slice sl2 pn cap2) (heap_setCell_same w10 w.heap.size 0 _ 26 (.slice sl1 rn cap1) RR)
      have e5 : ((w10.setCell ⟨w.heap.size, 0, none⟩ (.slice sl1 rn cap1)).setCell ⟨w.heap.size, 1, none⟩ (.slice sl2 pn cap2)).cell? ⟨w.heap.size, 0, none⟩ = some (.slice sl1 rn cap1) := by simp [World.cell?, R7]
      have e6 : ((w10.setCell ⟨w.heap.size, 0, none⟩ (.slice sl1 rn cap1)).setCell ⟨w.heap.size, 1, none⟩ (.slice sl2 pn cap2)).cell? ⟨w.heap.size, 1, none⟩ = some (.slice sl2 pn cap2) := by simp [World.cell?, R7]
      clear q1 q2 q3 q4 RR R7 FIN KP RX IN
      go_wp2
      exact bodyPost_ret (v := .tuple #[.agg #[.slice sl1 rn cap1, .slice sl2 pn cap2], .int .i64 top, .slice si inn ki, .slice s9 tn k9]) (by simp [results, Try.results4, go_sem, e5, e6]) rfl PF.out
  | false =>
    have PF0 := IN.out _ P10.out O10.out
    have RR := RX.out _ P10.out
    have PF := Lib.hid (FIN.out w10 s9 k9 T P10.out (by have := HTN.out; omega) PF0)
    rw [HTN.out] at PF
    obtain ⟨q1, q2, q3, q4⟩ := KP.out _ P10.out
    obtain ⟨t0, t1⟩ := q4.cells
    have tl := q4.lt
    have c0 : w10.cell? ⟨w.heap.size, 0, none⟩ = some (.slice none 0 0) := by simp [World.cell?, RR]
    have c1 : w10.cell? ⟨w.heap.size, 1, none⟩ = some (.slice none 0 0) := by simp [World.cell?, RR]
    have f0 : w10.frozen? ⟨w.heap.size, 0, none⟩ = false := by simp [World.frozen?, RR]
    have f1 : w10.frozen? ⟨w.heap.size, 1, none⟩ = false := by simp [World.frozen?, RR]
    have lt8 : w.heap.size < w10.heap.size := (Array.getElem?_eq_some_iff.1 RR).1
    have R7 := heap_setCell_same _ w.heap.size 1 _ 26 (.slice sl2 pn cap2) (heap_setCell_same w10 w.heap.size 0 _ 26 (.slice sl1 rn cap1) RR)
    have e5 : ((w10.setCell ⟨w.heap.size, 0, none⟩ (.slice sl1 rn cap1)).setCell ⟨w.heap.size, 1, none⟩ (.slice sl2 pn cap2)).cell? ⟨w.heap.size, 0, none⟩ = some (.slice sl1 rn cap1) := by simp [World.cell?, R7]
    have e6 : ((w10.setCell ⟨w.heap.size, 0, none⟩ (.slice sl1 rn cap1)).setCell ⟨w.heap.size, 1, none⟩ (.slice sl2 pn cap2)).cell? ⟨w.heap.size, 1, none⟩ = some (.slice sl2 pn cap2) := by simp [World.cell?, R7]
    clear q1 q2 q3 q4 RR R7 FIN KP RX IN
    go_wp2
    exact bodyPost_ret (v := .tuple #[.agg #[.slice sl1 rn cap1, .slice sl2 pn cap2], .int .i64 top, .slice si inn ki, .slice s9 tn k9]) (by simp [results, Try.results4, go_sem, e5, e6]) rfl PF.out

end Go.Proofs.Ytaogkdhloogmhaa
