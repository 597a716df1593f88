/-
  Whatever table, top and Ids it is given, impl.CnfOf answers as spec.CnfOf does, writes into nothing that was handed in, and hands back memory of its own: FnExactCnfOf returns true; no conditions.
-/
import Derived.Test.YtdmfljejlhlbnaaWoa
import Derived.Test.YtdmfljejlhlbnaaWpa
import Derived.Test.YtdmfljejlhlbnaaVd
import Derived.Test.YtdmfljejlhlbnaaTp
import Derived.WalkKit
import Derived.ProofKit
import Derived.OpenShut
import Derived.ShutString
import Derived.ChangeOld
import Derived.ChangeSame
import Derived.ChangeSlices
import Derived.ChangeArms
import Derived.Below
namespace Go.Proofs.Ytdmfljejlhlbnaa
open Go.RowKit
set_option linter.unusedVariables false

theorem OwC.btw {X Y B : Nat} {w w' : World} {v : Value} {cs : List LCl} (h : OwC w B v cs) (hb : Btw X Y w w') (hv : ∀ j, v.ownBlock = some j → j < X ∨ Y ≤ j) (hr : ∀ r ∈ cs, ∀ j, r.1.ownBlock = some j → j < X ∨ Y ≤ j) : OwC w' B v cs :=
  ⟨own_btw h.row hb hv, fun r hr2 => own_btw (h.each r hr2) hb (hr r hr2), h.diff⟩
theorem OwC.up {X Y B : Nat} {w w' : World} {v : Value} {cs : List LCl} (h : OwC w B v cs) (hb : Btw X Y w w') (hY : Y ≤ B) : OwC w' B v cs :=
  h.btw hb (fun j hj => .inr (Nat.le_trans hY (h.row.lt j hj).1)) (fun r hr j hj => .inr (Nat.le_trans hY ((h.each r hr).lt j hj).1))
/-- All of it lies below L. -/
def LowC (v : Value) (cs : List LCl) (L : Nat) : Prop := (∀ j, v.ownBlock = some j → j < L) ∧ ∀ r ∈ cs, ∀ j, r.1.ownBlock = some j → j < L
theorem OwC.low {w : World} {B : Nat} {v : Value} {cs : List LCl} (h : OwC w B v cs) : LowC v cs w.heap.size := ⟨fun j hj => (h.row.lt j hj).2, fun r hr j hj => ((h.each r hr).lt j hj).2⟩
theorem OwC.down {X Y B L : Nat} {w w' : World} {v : Value} {cs : List LCl} (h : OwC w B v cs) (hl : LowC v cs L) (hb : Btw X Y w w') (hX : L ≤ X) : OwC w' B v cs :=
  h.btw hb (fun j hj => .inl (Nat.lt_of_lt_of_le (hl.1 j hj) hX)) (fun r hr j hj => .inl (Nat.lt_of_lt_of_le (hl.2 r hr j hj) hX))
theorem Btw.of {C : Nat} {w w' : World} (h : Below C w w') : Btw C w.heap.size w w' := ⟨h.os, h.tape, h.output, h.size, fun k hk hc => by
  rcases hc with hc | hc
  · exact h.block k hc
  · omega⟩
/-- A box with a Cnf. -/
def BoxN (w : World) (b : Nat) (n : Int) (v : Value) : Prop := w.heap[b]? = some (.cells #[.int .i64 n, v] 45)
theorem BoxN.below {w w' : World} {b : Nat} {n : Int} {v : Value} (h : BoxN w b n v) (hb : Below w.heap.size w w') : BoxN w' b n v := (hb.block b (Array.getElem?_eq_some_iff.1 h).1).trans h
theorem BoxN.facts {w : World} {b : Nat} {n : Int} {v : Value} (h : BoxN w b n v) : b < w.heap.size ∧ w.cell? ⟨b, 0, none⟩ = some (.int .i64 n) ∧ w.cell? ⟨b, 1, none⟩ = some v := by
  unfold BoxN at h
  refine ⟨(Array.getElem?_eq_some_iff.1 h).1, ?_, ?_⟩ <;> simp [World.cell?, h]
theorem BoxN.btw {X Y : Nat} {w w' : World} {b : Nat} {n : Int} {v : Value} (h : BoxN w b n v) (hb : Btw X Y w w') (hc : b < X ∨ Y ≤ b) : BoxN w' b n v := (hb.block b (Array.getElem?_eq_some_iff.1 h).1 hc).trans h
theorem totC_bare (cs : List LCl) : totC cs = ((bareC cs).map List.length).sum := by simp [totC, bareC, Function.comp_def]

set_option maxRecDepth 100000 in
set_option maxHeartbeats 4000000 in
theorem law9 (sl : Option Addr) (cap : Nat) (sl2 : Option Addr) (cap2 : Nat) (sl3 : Option Addr) (cap3 : Nat) (rs : List LSt) (ps : List LPr) (l3 : List Int) (top : Int) (w : World) (h : InT w sl sl2 rs ps) (hl3 : l3.length ≤ maxLen) (h3 : Ints w sl3 l3) :
    Calls Try.prog 9 #[TV sl rs.length cap sl2 ps.length cap2, .int .i64 top, .slice sl3 l3.length cap3] w fun e w' => e = .returned (.bool true) ∧ Below w.heap.size w w' := by
  have hm3 := hl3
  unfold maxLen at hm3
  by_cases hz3 : 1048576 < l3.length
  · have hz3' : (1048576 : Int) < (l3.length : Int) := by omega
    clear h h3
    generalize rs.length = n at *
    generalize ps.length = m at *
    generalize l3.length = q at *
    go_enter Try.func9, Try.ntmps9
    go_wp2
    go_ret
    exact ⟨rfl, bA0 _ _⟩
  have hz3' : ¬ (1048576 : Int) < (l3.length : Int) := by omega
  have hz3 : l3.length ≤ 1048576 := by omega
  have SZ : Hid (∀ W, Below w.heap.size w W → Calls Try.prog 36 #[TV sl rs.length cap sl2 ps.length cap2, .int .i64 1048576] W fun e w' => e = .returned (.int .i64 (lft 1048576 (rs.length + totD rs + ps.length))) ∧ Below W.heap.size W w') := fun W hW => szTab_any sl cap sl2 _ cap2 rs W h.ln h.lp (h.st.below hW)
  rcases lft_cases 1048576 (rs.length + totD rs + ps.length) (by omega) with ⟨e, hl⟩ | ⟨e, hl⟩
  · rw [e] at SZ
    clear h h3 e hl
    generalize rs.length = n at *
    generalize ps.length = m at *
    generalize l3.length = q at *
    go_enter Try.func9, Try.ntmps9
    go_wp2_with fail
    refine (SZ.out _ (bA0 _ _)).mono ?_
    rintro e w1 ⟨rfl, b1⟩
    have D1 := Lib.hid (bT (bA0 w _) b1)
    clear b1
    go_wp2
    go_ret
    exact ⟨rfl, D1.out⟩
  · rw [e] at SZ
    have hs : Sts w sl rs := h.st.small (by omega)
    have TO : Hid (∀ W, Below w.heap.size w W → Calls Try.prog 38 #[TV sl rs.length cap sl2 ps.length cap2] W fun e w' => ∃ b1 b2 rs', e = .returned (TV (some ⟨b1, 0, none⟩) rs.length rs.length (some ⟨b2, 0, none⟩) ps.length ps.length) ∧ bareS rs' = bareS rs ∧ OwnT W.heap.size w' b1 b2 rs' ps ∧ Below W.heap.size W w') := fun W hW => toTO_any sl cap sl2 cap2 rs ps W (by omega) (by omega) (hs.below hW) (h.pr.below hW)
    have TP : Hid (∀ W, Below w.heap.size w W → Calls Try.prog 46 #[.slice sl3 l3.length cap3] W fun e w' => e = .returned (.slice (some ⟨W.heap.size, 0, none⟩) l3.length l3.length) ∧ RowZ w' W.heap.size l3 ∧ Below W.heap.size W w') := fun W hW => toO_any sl3 cap3 l3 W hz3 (h3.below hW)
    have SP : Hid (∀ b1 b2 rs' c W, bareS rs' = bareS rs → Sts W (some ⟨b1, 0, none⟩) rs' → Prs W (some ⟨b2, 0, none⟩) ps → RowZ W c l3 → Calls Try.prog 29 #[TV (some ⟨b1, 0, none⟩) rs.length rs.length (some ⟨b2, 0, none⟩) ps.length ps.length, .int .i64 top, .slice (some ⟨c, 0, none⟩) l3.length l3.length] W fun e w' => ∃ v cs, e = .returned (.agg #[.int .i64 (cnN rs ps top l3 : Nat), v]) ∧ OwC w' W.heap.size v cs ∧ bareC cs = cnA rs ps top l3 ∧ Below W.heap.size W w') := fun b1 b2 rs' c W eb s p r => by
      have hl' := bareS_len eb
      have := sco_any (some ⟨b1, 0, none⟩) rs.length (some ⟨b2, 0, none⟩) ps.length (some ⟨c, 0, none⟩) l3.length rs' ps top l3 W (by omega) hz3 s p r.ints
      rwa [hl', cnA_bare ps top l3 eb, cnN_bare ps top l3 eb] at this
    have IM : Hid (∀ b1 b2 rs' c W, bareS rs' = bareS rs → Sts W (some ⟨b1, 0, none⟩) rs' → Prs W (some ⟨b2, 0, none⟩) ps → RowZ W c l3 → Calls Try.prog 25 #[TV (some ⟨b1, 0, none⟩) rs.length rs.length (some ⟨b2, 0, none⟩) ps.length ps.length, .int .i64 top, .slice (some ⟨c, 0, none⟩) l3.length l3.length] W fun e w' => ∃ v cs, e = .returned (.agg #[.int .i64 (cnN rs ps top l3 : Nat), v]) ∧ OwC w' W.heap.size v cs ∧ bareC cs = cnA rs ps top l3 ∧ Below W.heap.size W w') := fun b1 b2 rs' c W eb s p r => by
      have hl' := bareS_len eb
      have := ico_any (some ⟨b1, 0, none⟩) rs.length (some ⟨b2, 0, none⟩) ps.length (some ⟨c, 0, none⟩) l3.length rs' ps top l3 W (by omega) hl3 s p h.wf r.ints
      rwa [hl', cnA_bare ps top l3 eb, cnN_bare ps top l3 eb] at this
    have TE : Hid (∀ b1 b2 rs1 c1 c2 rs2 W, bareS rs1 = bareS rs → bareS rs2 = bareS rs → Sts W (some ⟨b1, 0, none⟩) rs1 → Prs W (some ⟨b2, 0, none⟩) ps → Sts W (some ⟨c1, 0, none⟩) rs2 → Prs W (some ⟨c2, 0, none⟩) ps → Calls Try.prog 41 #[TV (some ⟨b1, 0, none⟩) rs.length rs.length (some ⟨b2, 0, none⟩) ps.length ps.length, TV (some ⟨c1, 0, none⟩) rs.length rs.length (some ⟨c2, 0, none⟩) ps.length ps.length] W fun e w' => e = .returned (.bool true) ∧ Below W.heap.size W w') := fun b1 b2 rs1 c1 c2 rs2 W e1 e2 s1 p1 s2 p2 => by
      have := eqT_any (some ⟨b1, 0, none⟩) (some ⟨c1, 0, none⟩) rs.length rs.length (some ⟨b2, 0, none⟩) (some ⟨c2, 0, none⟩) ps.length ps.length rs1 rs2 ps W (by rw [bareS_len e1]; omega) (by omega) (e1.trans e2.symm) s1 s2 p1 p2
      rwa [bareS_len e1, bareS_len e2] at this
    have TE2 : Hid (∀ b c W, RowZ W b l3 → RowZ W c l3 → Calls Try.prog 49 #[.slice (some ⟨b, 0, none⟩) l3.length l3.length, .slice (some ⟨c, 0, none⟩) l3.length l3.length] W fun e w' => e = .returned (.bool true) ∧ Below W.heap.size W w') := fun b c W r1 r2 => eq_any _ _ _ _ l3 W hl3 r1.ints r2.ints
    have MP : Hid (∀ b k W, 0 ≤ k → k ≤ 4000000 → RowZ W b l3 → Calls Try.prog 50 #[.slice (some ⟨b, 0, none⟩) l3.length l3.length, .int .i64 k] W fun e w' => e = .returned (.int .i64 (k + (l3.length : Int))) ∧ Only b W w') := fun b k W k0 k1 r => mkZ_any b l3 k hz3 k0 (by omega) W r
    have MT : Hid (∀ C b1 b2 rs' w0 W, bareS rs' = bareS rs → OwnT C w0 b1 b2 rs' ps → Below w0.heap.size w0 W → Calls Try.prog 42 #[TV (some ⟨b1, 0, none⟩) rs.length rs.length (some ⟨b2, 0, none⟩) ps.length ps.length, .int .i64 1] W fun e w' => ∃ k : Int, (0 ≤ k ∧ k ≤ 4000000) ∧ e = .returned (.int .i64 k) ∧ Btw C w0.heap.size W w') := fun C b1 b2 rs' w0 W eb o hb => by
      have o' := o.below hb
      have st := o.stM.below hb
      have hl' := bareS_len eb
      have ht : totD rs' = totD rs := by
        have := congrArg (List.map fun r : Int × Int × List Int => r.2.2.length) eb
        unfold totD
        simpa [bareS, Function.comp_def] using congrArg List.sum this
      have := mkT_any C w0.heap.size b1 b2 rs' ps.length (by rw [hl', ht]; omega) W st ⟨_, o'.r2.choose_spec.1, o'.r2.choose_spec.2.1⟩ o.lo2 o.r2.lt hb.size
      rwa [hl'] at this
    have hneg : ¬ ((1048576 : Int) - ((rs.length + totD rs + ps.length : Nat) : Int)) < 0 := by omega
    have ZL := cnA_len rs ps top l3
    have ZE := Lib.hid (cnA_each rs ps top l3)
    clear h hs e hl h3
    generalize (1048576 : Int) - ((rs.length + totD rs + ps.length : Nat) : Int) = z at *
    generalize rs.length = n at *
    generalize ps.length = m at *
    generalize cnA rs ps top l3 = zss at *
    generalize ((cnN rs ps top l3 : Nat) : Int) = N at *
    have CE : Hid (∀ cs : List LCl, bareC cs = zss → cs.length ≤ 1048576 ∧ (∀ r ∈ cs, r.2.length ≤ 96) ∧ totC cs ≤ 100663296) := fun cs hc => by
      have h1 : cs.length ≤ 1048576 := by have := congrArg List.length hc; rw [bareC, List.length_map] at this; omega
      have h2 : ∀ r ∈ cs, r.2.length ≤ 96 := fun r hr => ZE.out r.2 (by rw [← hc]; exact List.mem_map.2 ⟨r, hr, rfl⟩)
      have h3 := totC_96 cs h2
      exact ⟨h1, h2, by omega⟩
    have EQ : Hid (∀ C C' v v' cs cs' W, OwC W C v cs → OwC W C' v' cs' → bareC cs = zss → bareC cs' = zss → Calls Try.prog 56 #[.agg #[.int .i64 N, v], .agg #[.int .i64 N, v']] W fun e w' => e = .returned (.bool true) ∧ Below W.heap.size W w') := fun C C' v v' cs cs' W o o' e e' => by
      obtain ⟨s1, k1, rfl, i1⟩ := o.cls
      obtain ⟨s2, k2, rfl, i2⟩ := o'.cls
      exact eqC_any N s1 s2 k1 k2 cs cs' W (CE.out cs e).1 (e.trans e'.symm) i1 i2
    have MR : Hid (∀ C v cs W, C ≤ W.heap.size → OwC W C v cs → bareC cs = zss → Calls Try.prog 57 #[.agg #[.int .i64 N, v], .int .i64 1] W fun e w' => e = .returned (.int .i64 (1 + (((zss.map List.length).sum : Nat) : Int))) ∧ OwC w' C v (mkC 1 cs) ∧ Below C W w' ∧ KeepT W w') := fun C v cs W hC o e => by
      have c := CE.out cs e
      have := mkCnK_any C N v cs 1 W (by omega) (fun r hr => by have := c.2.1 r hr; omega) (by omega) (by omega) (by omega) hC o
      rwa [totC_bare, e] at this
    have HH : Hid (∀ C v cs W, OwC W C v (mkC 1 cs) → bareC cs = zss → Calls Try.prog 58 #[.agg #[.int .i64 N, v], .int .i64 1] W fun e w' => e = .returned (.int .i64 (1 + (((zss.map List.length).sum : Nat) : Int))) ∧ Below W.heap.size W w') := fun C v cs W o e => by
      have c := CE.out cs e
      have := hdCn_any C N v cs 1 W (by omega) (fun r hr => by have := c.2.1 r hr; omega) (by omega) (by omega) (by omega) o
      rwa [totC_bare, e] at this
    have hq0 : ¬ (1 + (((zss.map List.length).sum : Nat) : Int)) < 0 := by omega
    generalize 1 + (((zss.map List.length).sum : Nat) : Int) = q at *
    generalize l3.length = u at *
    have HT := Lib.hid (show (w.alloc (.cells #[.slice sl n cap, .slice sl2 m cap2] 59)).heap[w.heap.size]? = some (.cells #[.slice sl n cap, .slice sl2 m cap2] 59) from new_at _ _)
    have B0 := Lib.hid (bA0 w (.cells #[.slice sl n cap, .slice sl2 m cap2] 59))
    have hw0 : (w.alloc (.cells #[.slice sl n cap, .slice sl2 m cap2] 59)).heap.size = w.heap.size + 1 := by simp
    have KT : Hid (∀ W, Below (w.heap.size + 1) (w.alloc (.cells #[.slice sl n cap, .slice sl2 m cap2] 59)) W → w.heap.size < W.heap.size ∧ W.cell? ⟨w.heap.size, 0, none⟩ = some (.slice sl n cap) ∧ W.cell? ⟨w.heap.size, 1, none⟩ = some (.slice sl2 m cap2)) := fun W hW => by
      have := (hW.block w.heap.size (by omega)).trans HT.out
      exact ⟨(Array.getElem?_eq_some_iff.1 this).1, by simp [World.cell?, this], by simp [World.cell?, this]⟩
    go_enter Try.func9, Try.ntmps9
    go_wp2_with fail
    refine (SZ.out _ (bA0 _ _)).mono ?_
    rintro e w1 ⟨rfl, b1⟩
    generalize w.alloc (.cells #[.slice sl n cap, .slice sl2 m cap2] 59) = wA at *
    have A1 : Hid (Below (w.heap.size + 1) wA w1) := by rw [← hw0]; exact b1
    have D1 := Lib.hid (bT B0.out b1)
    clear b1 SZ
    obtain ⟨tl, t0, t1⟩ := KT.out _ A1.out
    have hs1 := A1.out.size
    go_wp2_with fail
    refine (TO.out _ D1.out).mono ?_
    rintro e w2 ⟨b1, b2, rs1, rfl, e1, o1, bl2⟩
    have D2 := Lib.hid (bT D1.out bl2)
    have A2 := Lib.hid (A1.out.trans (bl2.mono (by omega)))
    have O2 := Lib.hid o1
    have E1 := Lib.hid e1
    have hs2 := A2.out.size
    clear e1 o1 bl2 A1 D1 t0 t1 tl
    go_wp2_with fail
    refine (TP.out _ D2.out).mono ?_
    rintro e w2a ⟨rfl, r2a, bl2a⟩
    have D2a := Lib.hid (bT D2.out bl2a)
    have A2a := Lib.hid (A2.out.trans (bl2a.mono (by omega)))
    have T2 := Lib.hid (SP.out b1 b2 rs1 _ w2a E1.out (O2.out.below bl2a).sts (O2.out.below bl2a).prs r2a)
    have hs2a := A2a.out.size
    clear r2a bl2a O2 A2 D2 E1
    go_wp2_with fail
    refine T2.out.mono ?_
    rintro e w3 ⟨v0, cs0, rfl, q3, be0, bl3⟩
    have BE0 := Lib.hid be0
    have LW := Lib.hid q3.low
    obtain ⟨s0, k0, e0⟩ := q3.v
    generalize cs0.length = n0 at *
    subst e0
    have D3 := Lib.hid (bA (bT D2a.out bl3) (.cells #[.int .i64 N, .slice s0 n0 k0] 45))
    have A3 := Lib.hid ((A2a.out.trans (bl3.mono (by omega))).alloc (by have := A2a.out.size; have := bl3.size; omega) (.cells #[.int .i64 N, .slice s0 n0 k0] 45))
    have V3 := Lib.hid (q3.below (bA0 w3 (.cells #[.int .i64 N, .slice s0 n0 k0] 45)))
    have W3 : Hid (BoxN (w3.alloc (.cells #[.int .i64 N, .slice s0 n0 k0] 45)) w3.heap.size N (.slice s0 n0 k0)) := new_at _ _
    have hs3 : w3.heap.size < (w3.alloc (.cells #[.int .i64 N, .slice s0 n0 k0] 45)).heap.size := by simp
    have hs23 := bl3.size
    clear bl3 T2 A2a D2a q3 be0
    obtain ⟨tl, t0, t1⟩ := KT.out _ A3.out
    go_wp2_with fail
    generalize w3.alloc (.cells #[.int .i64 N, .slice s0 n0 k0] 45) = w3b at *
    refine (TO.out _ D3.out).mono ?_
    rintro e w4 ⟨c1, c2, rs2, rfl, e2, o2, bl4⟩
    have D4 := Lib.hid (bT D3.out bl4)
    have A4 := Lib.hid (A3.out.trans (bl4.mono (by omega)))
    have E2 := Lib.hid e2
    have O4 := Lib.hid o2
    have V4 := Lib.hid (V3.out.below bl4)
    have W4 := Lib.hid (W3.out.below bl4)
    have hs34 := bl4.size
    have X5 := Lib.hid (TabAt.new w4 (some ⟨c1, 0, none⟩) n n (some ⟨c2, 0, none⟩) m m)
    have F5 := Lib.hid (bA0 w4 (.cells #[.slice (some ⟨c1, 0, none⟩) n n, .slice (some ⟨c2, 0, none⟩) m m] 26))
    have D5 := Lib.hid (bA D4.out (.cells #[.slice (some ⟨c1, 0, none⟩) n n, .slice (some ⟨c2, 0, none⟩) m m] 26))
    clear e2 o2 bl4 A3 D3 t0 t1 tl V3 W3
    have hw5 : w4.heap.size < (w4.alloc (.cells #[.slice (some ⟨c1, 0, none⟩) n n, .slice (some ⟨c2, 0, none⟩) m m] 26)).heap.size := by simp
    go_wp2_with fail
    generalize w4.alloc (.cells #[.slice (some ⟨c1, 0, none⟩) n n, .slice (some ⟨c2, 0, none⟩) m m] 26) = w5 at *
    refine (TP.out _ D5.out).mono ?_
    rintro e w5a ⟨rfl, r5a, bl5a⟩
    have F5a := Lib.hid (bT F5.out bl5a)
    have X5a := Lib.hid (X5.out.below bl5a)
    have R5a := Lib.hid r5a
    have hs5a := R5a.out.lt
    have F6 := Lib.hid (IM.out c1 c2 rs2 _ w5a E2.out (O4.out.below F5a.out).sts (O4.out.below F5a.out).prs r5a)
    clear r5a bl5a F5 X5 D5
    obtain ⟨x0, x1⟩ := X5a.out.cells
    have xl := X5a.out.lt
    go_wp2_with fail
    refine F6.out.mono ?_
    rintro e w6 ⟨v6, cs6, rfl, q6, be6, bl6⟩
    have BE6 := Lib.hid be6
    obtain ⟨s6, k6, e6⟩ := q6.v
    generalize cs6.length = n6 at *
    subst e6
    have hs6 := bl6.size
    have M6 := Lib.hid (bT bl6 (bA0 w6 (.cells #[.int .i64 N, .slice s6 n6 k6] 45)))
    have G6 := Lib.hid (bT F5a.out M6.out)
    have D6 := Lib.hid (bT D4.out G6.out)
    have A6 := Lib.hid (A4.out.trans (G6.out.mono (by have := A4.out.size; omega)))
    have V6 := Lib.hid (V4.out.below G6.out)
    have W6 := Lib.hid (W4.out.below G6.out)
    have X6 := Lib.hid (X5a.out.below M6.out)
    have P6 := Lib.hid (R5a.out.below M6.out)
    have R6 := Lib.hid (q6.below (bA0 w6 (.cells #[.int .i64 N, .slice s6 n6 k6] 45)))
    have Y6 : Hid (BoxN (w6.alloc (.cells #[.int .i64 N, .slice s6 n6 k6] 45)) w6.heap.size N (.slice s6 n6 k6)) := new_at _ _
    have hw6 : w6.heap.size < (w6.alloc (.cells #[.int .i64 N, .slice s6 n6 k6] 45)).heap.size := by simp
    have hA4 := A4.out.size
    clear q6 bl6 F5a F6 X5a V4 W4 D4 A4 R5a x0 x1 xl be6 M6
    obtain ⟨y0, y1, y2⟩ := W6.out.facts
    obtain ⟨g0, g1, g2⟩ := Y6.out.facts
    have E7 := Lib.hid (EQ.out _ _ _ _ cs6 cs0 (w6.alloc (.cells #[.int .i64 N, .slice s6 n6 k6] 45)) R6.out V6.out BE6.out BE0.out)
    go_wp2_with fail
    generalize w6.alloc (.cells #[.int .i64 N, .slice s6 n6 k6] 45) = w6b at *
    refine E7.out.mono ?_
    rintro e w7 ⟨rfl, bl7⟩
    have G7 := Lib.hid (bT G6.out bl7)
    have D7 := Lib.hid (bT D6.out bl7)
    have A7 := Lib.hid (A6.out.trans (bl7.mono (by omega)))
    have V7 := Lib.hid (V6.out.below bl7)
    have R7 := Lib.hid (R6.out.below bl7)
    have W7 := Lib.hid (W6.out.below bl7)
    have Y7 := Lib.hid (Y6.out.below bl7)
    have X7 := Lib.hid (X6.out.below bl7)
    have P7 := Lib.hid (P6.out.below bl7)
    have hs7 := bl7.size
    clear bl7 G6 D6 A6 V6 R6 X6 E7 P6 W6 Y6 y0 y1 y2 g0 g1 g2
    have KX : Hid (∀ W, Below w7.heap.size w7 W → w.heap.size < W.heap.size ∧ w4.heap.size < W.heap.size ∧ W.cell? ⟨w.heap.size, 0, none⟩ = some (.slice sl n cap) ∧ W.cell? ⟨w.heap.size, 1, none⟩ = some (.slice sl2 m cap2) ∧ W.cell? ⟨w4.heap.size, 0, none⟩ = some (.slice (some ⟨c1, 0, none⟩) n n) ∧ W.cell? ⟨w4.heap.size, 1, none⟩ = some (.slice (some ⟨c2, 0, none⟩) m m)) := fun W hW => by
      obtain ⟨k1, k2, k3⟩ := KT.out W (A7.out.trans (hW.mono (by omega)))
      obtain ⟨k4, k5⟩ := (X7.out.below hW).cells
      exact ⟨k1, (X7.out.below hW).lt, k2, k3, k4, k5⟩
    go_wp2_with fail
    refine wp_region_held_drew (S := fun W => w.heap.size < W.heap.size ∧ w4.heap.size < W.heap.size ∧ W.cell? ⟨w.heap.size, 0, none⟩ = some (.slice sl n cap) ∧ W.cell? ⟨w.heap.size, 1, none⟩ = some (.slice sl2 m cap2) ∧ W.cell? ⟨w4.heap.size, 0, none⟩ = some (.slice (some ⟨c1, 0, none⟩) n n) ∧ W.cell? ⟨w4.heap.size, 1, none⟩ = some (.slice (some ⟨c2, 0, none⟩) m m)) (by kernel_rfl) ?_ (fun hHeld => ?_)
    · exact KX.out _ (Below.refl _ _).drew
    refine wpAnyH_take (i := 0) (oi := _) (v := ?_) rfl (by kernel_rfl) (by kernel_rfl) (by kernel_rfl) (fun _ _ _ h => h) (Or.inl ⟨by rfl, ?_⟩) (by assumption) ?_
    rotate_left
    · first | (intro w hSw; (try dsimp only at hSw); go_simp; done) | (intro w hSw; (try dsimp only at hSw); go_simp; with_reducible rfl)
    try simp only [Act.put, List.setIfInBounds_toArray, List.set_cons_zero, List.set_cons_succ, List.getElem_toArray, List.getElem_cons_zero]
    refine wpAnyH_take (i := 1) (oi := _) (v := ?_) rfl (by kernel_rfl) (by kernel_rfl) (by kernel_rfl) (fun _ _ _ h => h) (Or.inl ⟨by rfl, ?_⟩) (by assumption) ?_
    rotate_left
    · first | (intro w hSw; (try dsimp only at hSw); go_simp; done) | (intro w hSw; (try dsimp only at hSw); go_simp; with_reducible rfl)
    try simp only [Act.put, List.setIfInBounds_toArray, List.set_cons_zero, List.set_cons_succ, List.getElem_toArray, List.getElem_cons_succ, List.getElem_cons_zero]
    refine wpAnyH_ready (rs := [2]) (by kernel_rfl) (by simp) ?_
    refine AllReadyH.cons rfl (fun K hK => ?_) AllReadyH.nil
    go_simp
    go_wp2_with (go_at_call 38; refine (TO.out _ D7.out.drew).mono ?_; rintro e w8 ⟨d1, d2, rs3, rfl, e3, o3, bl8⟩)
    have D8 : Hid (Below w7.heap.size w7 w8) := bT ((Below.refl w7.heap.size w7).drew) bl8
    have O8 := Lib.hid o3
    have E8 := Lib.hid e3
    clear bl8 o3 e3
    refine hK.out _ _ ?_ (fun hHeld => ?_)
    · exact KX.out _ D8.out
    clear hK K
    refine wpAnyH_ready (rs := [3]) (by kernel_rfl) (by simp) ?_
    refine AllReadyH.cons rfl (fun K hK => ?_) AllReadyH.nil
    go_simp
    go_wp2_with (go_at_call 41; refine (TE.out c1 c2 rs2 d1 d2 rs3 _ E2.out E8.out ((O4.out.below G7.out).below D8.out).sts ((O4.out.below G7.out).below D8.out).prs O8.out.sts O8.out.prs).mono ?_; rintro e w9 ⟨rfl, bl9⟩)
    have D9 : Hid (Below w7.heap.size w7 w9) := bT D8.out bl9
    clear bl9
    refine hK.out _ _ ?_ (fun hHeld => ?_)
    · exact KX.out _ D9.out
    clear hK K
    refine wpAnyH_take (i := 4) (oi := _) (v := ?_) rfl (by kernel_rfl) (by kernel_rfl) (by kernel_rfl) (fun _ _ _ h => h) (Or.inl ⟨by rfl, ?_⟩) (by assumption) ?_
    rotate_left
    · first | (intro w hSw; (try dsimp only at hSw); go_simp; done) | (intro w hSw; (try dsimp only at hSw); go_simp; with_reducible rfl)
    try simp only [Act.put, List.setIfInBounds_toArray, List.set_cons_zero, List.set_cons_succ, List.getElem_toArray, List.getElem_cons_succ, List.getElem_cons_zero]
    refine wpAnyH_done (by kernel_rfl) ?_ _
    have G9 := Lib.hid (bT G7.out D9.out)
    have B9 := Lib.hid (bT D7.out D9.out)
    have A9 := Lib.hid (A7.out.trans (D9.out.mono (by omega)))
    have V9 := Lib.hid (V7.out.below D9.out)
    have R9 := Lib.hid (R7.out.below D9.out)
    have W9 := Lib.hid (W7.out.below D9.out)
    have Y9 := Lib.hid (Y7.out.below D9.out)
    have X9 := Lib.hid (X7.out.below D9.out)
    have P9 := Lib.hid (P7.out.below D9.out)
    have hs9 := D9.out.size
    clear D9 D8 KX O8 E8 TE G7 D7 A7 V7 R7 X7 P7 W7 Y7
    go_wp2_with fail
    refine (TP.out _ B9.out).mono ?_
    rintro e w9b ⟨rfl, r9, bl9⟩
    have T9 := Lib.hid (TE2.out _ _ w9b (P9.out.below bl9) r9)
    have F9 := Lib.hid bl9
    clear r9 bl9
    go_wp2_with fail
    refine T9.out.mono ?_
    rintro e w9c ⟨rfl, bl9⟩
    have F9c := Lib.hid (bT F9.out bl9)
    have G9c := Lib.hid (bT G9.out F9c.out)
    have B9c := Lib.hid (bT B9.out F9c.out)
    have A9c := Lib.hid (A9.out.trans (F9c.out.mono (by omega)))
    have V9c := Lib.hid (V9.out.below F9c.out)
    have R9c := Lib.hid (R9.out.below F9c.out)
    have W9c := Lib.hid (W9.out.below F9c.out)
    have Y9c := Lib.hid (Y9.out.below F9c.out)
    have X9c := Lib.hid (X9.out.below F9c.out)
    have P9c := Lib.hid (P9.out.below F9c.out)
    have hs9c := F9c.out.size
    clear bl9 F9 F9c T9 G9 B9 A9 V9 R9 X9 P9 W9 Y9
    have M10 := Lib.hid (MT.out _ c1 c2 rs2 w4 w9c E2.out O4.out G9c.out)
    obtain ⟨x0, x1⟩ := X9c.out.cells
    have xl := X9c.out.lt
    go_wp2_with fail
    refine M10.out.mono ?_
    rintro e w10 ⟨k, ⟨k0', k1'⟩, rfl, g10⟩
    have V10 := Lib.hid (V9c.out.down LW.out g10 (by omega))
    have R10 := Lib.hid (R9c.out.up g10 (by omega))
    have W10 := Lib.hid (W9c.out.btw g10 (.inl (by omega)))
    have Y10 := Lib.hid (Y9c.out.btw g10 (.inr (by omega)))
    have P10 : Hid (RowZ w10 w5.heap.size l3) := P9c.out.kept (g10.block w5.heap.size P9c.out.lt (.inr (by omega)))
    have B10 := Lib.hid (B9c.out.trans ((g10.below (by omega)).mono (by have := B0.out.size; omega)))
    have A10 := Lib.hid (A9c.out.trans ((g10.below (by omega)).mono (by omega)))
    have hs10 := g10.size
    clear g10 M10 V9c R9c B9c A9c X9c x0 x1 xl MT G9c O4 P9c W9c Y9c
    go_wp2_with fail
    refine (MP.out _ k w10 k0' k1' P10.out).mono ?_
    rintro e w10a ⟨rfl, g10⟩
    have k2 : ¬ (k + (u : Int)) < 0 := by omega
    have BB := Lib.hid ((Btw.refl w5.heap.size (w5.heap.size + 1) w10).only g10 (Nat.le_refl _) (Nat.lt_succ_self _))
    have V10a := Lib.hid (V10.out.down LW.out BB.out (by omega))
    have R10a := Lib.hid (R10.out.up BB.out (by omega))
    have W10a := Lib.hid (W10.out.btw BB.out (.inl (by omega)))
    have Y10a := Lib.hid (Y10.out.btw BB.out (.inr (by omega)))
    have B10a := Lib.hid (B10.out.grown g10.grownBy (by have := B0.out.size; omega) (fun j hj => by cases hj; have := B0.out.size; omega))
    have A10a := Lib.hid (A10.out.grown g10.grownBy (by omega) (fun j hj => by cases hj; omega))
    have hs10a := g10.size
    clear g10 V10 R10 B10 A10 P10 MP W10 Y10 BB
    generalize k + (u : Int) = kq at *
    obtain ⟨y0, y1, y2⟩ := W10a.out.facts
    obtain ⟨g0, g1, g2⟩ := Y10a.out.facts
    go_wp2_with fail
    refine (EQ.out _ _ _ _ cs6 cs0 w10a R10a.out V10a.out BE6.out BE0.out).mono ?_
    rintro e w11 ⟨rfl, bl11⟩
    have B11 := Lib.hid (bT B10a.out bl11)
    have A11 := Lib.hid (A10a.out.trans (bl11.mono (by omega)))
    have V11 := Lib.hid (V10a.out.below bl11)
    have R11 := Lib.hid (R10a.out.below bl11)
    have W11 := Lib.hid (W10a.out.below bl11)
    have Y11 := Lib.hid (Y10a.out.below bl11)
    have hs11 := bl11.size
    clear bl11 B10a A10a V10a R10a W10a Y10a y0 y1 y2 g0 g1 g2
    obtain ⟨g0, g1, g2⟩ := Y11.out.facts
    go_wp2_with fail
    refine (MR.out _ _ cs6 w11 (by omega) R11.out BE6.out).mono ?_
    rintro e w12 ⟨rfl, o12, g12, kt12⟩
    have V12 := Lib.hid (V11.out.down LW.out (Btw.of g12) (by omega))
    have W12 : Hid (BoxN w12 w3.heap.size N (.slice s0 n0 k0)) := kt12 _ _ _ (by decide) W11.out
    have Y12 : Hid (BoxN w12 w6.heap.size N (.slice s6 n6 k6)) := kt12 _ _ _ (by decide) Y11.out
    have B12 := Lib.hid (B11.out.trans (g12.mono (by have := B0.out.size; omega)))
    have A12 := Lib.hid (A11.out.trans (g12.mono (by omega)))
    have R12 := Lib.hid o12
    have hs12 := g12.size
    clear o12 g12 V11 B11 A11 R11 MR kt12 W11 Y11 g0 g1 g2
    obtain ⟨g0, g1, g2⟩ := Y12.out.facts
    go_wp2_with fail
    refine (HH.out _ _ cs6 w12 R12.out BE6.out).mono ?_
    rintro e w13 ⟨rfl, bl13⟩
    have B13 := Lib.hid (bT B12.out bl13)
    have A13 := Lib.hid (A12.out.trans (bl13.mono (by omega)))
    have V13 := Lib.hid (V12.out.below bl13)
    have R13 := Lib.hid (R12.out.below bl13)
    have W13 := Lib.hid (W12.out.below bl13)
    have Y13 := Lib.hid (Y12.out.below bl13)
    have hs13 := bl13.size
    clear bl13 B12 A12 V12 R12 W12 Y12 g0 g1 g2
    obtain ⟨tl, t0, t1⟩ := KT.out _ A13.out
    go_wp2_with fail
    refine (TO.out _ B13.out).mono ?_
    rintro e w14 ⟨f1, f2, rs4, rfl, e4, o4, bl14⟩
    have F14 := Lib.hid bl14
    have B14 := Lib.hid (bT B13.out bl14)
    have O14 := Lib.hid o4
    have E14 := Lib.hid e4
    clear e4 o4 bl14 tl t0 t1
    go_wp2_with fail
    refine (TP.out _ B14.out).mono ?_
    rintro e w14a ⟨rfl, r14a, bl14a⟩
    have F14a := Lib.hid (bT F14.out bl14a)
    have B14a := Lib.hid (bT B14.out bl14a)
    have T15 := Lib.hid (IM.out f1 f2 rs4 _ w14a E14.out (O14.out.below bl14a).sts (O14.out.below bl14a).prs r14a)
    clear r14a bl14a O14 F14 B14 E14
    go_wp2_with fail
    refine T15.out.mono ?_
    rintro e w15 ⟨v15, cs15, rfl, q15, be15, bl15⟩
    have BE15 := Lib.hid be15
    obtain ⟨s15, k15, e15⟩ := q15.v
    generalize cs15.length = n15 at *
    subst e15
    have M15 := Lib.hid (bA bl15 (.cells #[.int .i64 N, .slice s15 n15 k15] 45))
    have F15 := Lib.hid (bT F14a.out M15.out)
    have B15 := Lib.hid (bT B14a.out M15.out)
    have V15 := Lib.hid (V13.out.below F15.out)
    have R15 := Lib.hid (R13.out.below F15.out)
    have W15 := Lib.hid (W13.out.below F15.out)
    have Y15 := Lib.hid (Y13.out.below F15.out)
    have O15 := Lib.hid (q15.below (bA0 w15 (.cells #[.int .i64 N, .slice s15 n15 k15] 45)))
    have Z15 : Hid (BoxN (w15.alloc (.cells #[.int .i64 N, .slice s15 n15 k15] 45)) w15.heap.size N (.slice s15 n15 k15)) := new_at _ _
    clear q15 be15 bl15 M15 T15 F14a B14a V13 R13 W13 Y13 B13 A13
    obtain ⟨y0, y1, y2⟩ := W15.out.facts
    obtain ⟨g0, g1, g2⟩ := Z15.out.facts
    have E16 := Lib.hid (EQ.out _ _ _ _ cs15 cs0 (w15.alloc (.cells #[.int .i64 N, .slice s15 n15 k15] 45)) O15.out V15.out BE15.out BE0.out)
    go_wp2_with fail
    generalize w15.alloc (.cells #[.int .i64 N, .slice s15 n15 k15] 45) = w15b at *
    refine E16.out.mono ?_
    rintro e w16 ⟨rfl, bl16⟩
    have B16 := Lib.hid (bT B15.out bl16)
    have R16 := Lib.hid (R15.out.below bl16)
    have Y16 := Lib.hid (Y15.out.below bl16)
    clear bl16 B15 R15 Y15 E16 V15 W15 O15 Z15 y0 y1 y2 g0 g1 g2
    obtain ⟨g0, g1, g2⟩ := Y16.out.facts
    go_wp2_with fail
    refine (HH.out _ _ cs6 w16 R16.out BE6.out).mono ?_
    rintro e w17 ⟨rfl, bl17⟩
    have B17 := Lib.hid (bT B16.out bl17)
    clear bl17 B16 R16 Y16 g0 g1 g2
    go_wp2
    go_ret
    exact ⟨rfl, B17.out⟩

end Go.Proofs.Ytdmfljejlhlbnaa
namespace Go.Proofs.Ytdmfljejlhlbnaa.fnExactCnfOf
open Go.ChangeShapes Go.WideShapes Go.ChangeAt Go.RowKit
set_option linter.unusedVariables false

theorem own : ownKnob Try.prog.godebug = none := by kernel_rfl
theorem laidOut : laidOutB Try.prog = true := by kernel_rfl
theorem array2 {α : Type} {cs : Array α} (h : cs.size = 2) : ∃ c0 c1, cs = #[c0, c1] := by
  obtain ⟨l⟩ := cs
  match l, h with
  | [c0, c1], _ => exact ⟨c0, c1, rfl⟩

set_option maxRecDepth 100000 in
theorem lifted (os : Os) (started : os.Started) (H : Type) (enc : TypeId × Value → H) :
    ReturnsInHanded {} Try.checked os 9 .any (Rows.fnExactCnfOfSpec.pre6 enc Try.prog Try.f9 Rows.fnExactCnfOfRow.domain false) (Rows.fnExactCnfOfSpec.post enc Try.prog Try.f9 false true false false) := by
  refine returnsInHanded_of_change (C := Try.checked) own started (by kernel_rfl) Try.func9
    (ChangeSpec.witness6 (enc := enc) (C := Try.checked) false ⟨#[], #[.agg #[.slice none 0 0, .slice none 0 0], .int .i64 0, .slice none 0 0], []⟩ 8 (by kernel_rfl) (by kernel_rfl) (by kernel_rfl) (by kernel_rfl)) ?_
  intro W base args ds gs before hval0 hW hcnd _
  have hval : ∀ (j : Nat) t v, Try.f9.params[j]? = some t → args[j]? = some v → Value.okWide Try.prog W .any base t v := hval0
  have hW' := hW
  obtain ⟨p, q, hA0, hV, rfl, hfz, hnd⟩ := hW
  have hA : DataW.TrodAll enc Try.prog W 0 (fun _ => true) true Try.f9.params.toList args.toList ds p := hA0
  rw [Try.params9] at hA hval
  obtain ⟨v0, vs0, d0, ds0, p0, q0, hargs, rfl, rfl, h0, r0⟩ := trodAll_cons hA
  obtain ⟨v1, vs1, d1, ds1, p1, q1, rfl, rfl, rfl, h1, r1⟩ := trodAll_cons r0
  obtain ⟨v2, vs2, d2, ds2, p2, q2, rfl, rfl, rfl, h2, r2⟩ := trodAll_cons r1
  obtain ⟨rfl, rfl, rfl⟩ := trodAll_nil r2
  obtain rfl : args = #[v0, v1, v2] := by cases args; simp_all
  obtain ⟨rfl, rfl⟩ := trodVars_none hV
  obtain ⟨cs, rfl, hsz⟩ := okWide_struct Try.underlying59 (hval 0 59 v0 rfl rfl)
  obtain ⟨c0, c1, rfl⟩ := array2 (hsz.trans (by kernel_rfl))
  have k0 := h0
  have lt0 : ∀ x ∈ p0, x.block < W.heap.size := by obtain ⟨m, hm⟩ := k0; exact DataW.trod_lt m _ _ _ hm
  obtain ⟨sl, cap, sl2, cap2, rs, qs, rfl, rfl, hin⟩ := open_tab h0
  obtain ⟨a1, rfl, rfl, rfl, w1⟩ := open_int Try.underlying2 (hval 1 2 v1 rfl rfl) h1
  obtain ⟨a2, len2, cap2', rfl⟩ := okWide_slice Try.underlying40 (hval 2 40 v2 rfl rfl)
  have k2 := h2
  have lt2 : ∀ x ∈ p2, x.block < W.heap.size := by obtain ⟨m, hm⟩ := k2; exact DataW.trod_lt m _ _ _ hm
  obtain ⟨l2, rfl, in2, ll2⟩ := open_nums h2
  clear hA0 hval0
  refine Calls.mono (law9 sl cap sl2 cap2 a2 cap2' rs qs l2 a1 W hin ll2 in2) fun e W' ⟨he, bel⟩ => ?_
  subst he
  exact ⟨_, rfl, _, _, _, [], _, [], hW', trodAll_mk1 (shut_bool Try.underlying4 _), (trodAll_cons_mk (Below.trod laidOut (by kernel_rfl) (of_decide_eq_true (by kernel_rfl)) k0 bel lt0) (trodAll_cons_mk (shut_int Try.underlying2 w1) (trodAll_cons_mk (Below.trod laidOut (by kernel_rfl) (of_decide_eq_true (by kernel_rfl)) k2 bel lt2) trodAll_mk0))), rfl, bel.frame _, fun h => by cases h⟩

theorem over : Rows.fnExactCnfOfRow.holds Try.pinned (OpenSpec.ofChange Rows.fnExactCnfOfSpec) :=
  OpenClaim.holds_of_wide 9 Try.f9 rfl rfl rfl rfl rfl rfl rfl ⟨rfl, rfl, rfl, rfl, rfl⟩ rfl rfl rfl rfl rfl (by kernel_rfl) Try.func9 (by kernel_rfl)
    (of_decide_eq_true (by kernel_rfl)) (by unfold Func.isWrapper; first | (rw [if_pos (by decide +kernel)]; kernel_rfl) | (rw [if_neg (by decide +kernel)]; exact ⟨rfl, rfl⟩))
    (fun os started H enc _ => lifted os started H enc)

end Go.Proofs.Ytdmfljejlhlbnaa.fnExactCnfOf
namespace Go.Proofs.Ytdmfljejlhlbnaa
theorem fnExactCnfOf_holds : Rows.FnExactCnfOfSaid := fnExactCnfOf.over
#print axioms fnExactCnfOf_holds
end Go.Proofs.Ytdmfljejlhlbnaa
