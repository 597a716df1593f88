/-
  A CNF READ BY THE MODEL: spec.CnfRead.
-/
import Derived.Test.YtoncpiaboceefaaDoorGz
import Derived.Test.YtoncpiaboceefaaDoorGi
import Derived.Test.YtoncpiaboceefaaDoorFt
namespace Go.Proofs.YtoncpiaboceefaaDoor
open Go.RowKit
set_option linter.unusedVariables false

set_option maxRecDepth 100000 in
set_option maxHeartbeats 4000000 in
/-- spec.CnfRead. -/
theorem scn_any (s : ByteArray) (w : World) :
    Calls Tryd.prog 32 #[.string s] w fun e w' => RdPost2 s w e w' := by
  by_cases hs : 20000 < s.size
  · have hs' : (20000 : Int) < (s.size : Int) := by omega
    have ho : outS s = (0, [], 0, 2) := by unfold outS; rw [if_pos hs]
    have PP : Hid (∀ w', Below w.heap.size w w' → RdPost2 s w (.returned (.agg #[.int .i64 0, .slice none 0 0, .int .i64 0, .int .i64 2])) w') := fun w' hb => ⟨none, 0, 0, [], by rw [ho]; rfl, by rw [ho]; rfl, OwC.nil _ _, hb⟩
    clear ho
    go_enter Tryd.func32, Tryd.ntmps32
    go_wp2
    exact bodyPost_ret (v := .agg #[.int .i64 0, .slice none 0 0, .int .i64 0, .int .i64 2]) (by simp [results, Tryd.results32, go_sem]) rfl (PP.out _ (bA0 _ _))
  have hs' : ¬ (20000 : Int) < (s.size : Int) := by omega
  obtain ⟨i40, hi0, hz0, hz1, hz2⟩ := info_parts info40
  have PY : Hid (∀ w' sl n cap cs vr, Below w.heap.size w w' → OwC w' w.heap.size (.slice sl n cap) cs → readS s.data.toList = (vr, bareC cs, 0, true) → RdPost2 s w (.returned (.agg #[.int .i64 vr, .slice sl n cap, .int .i64 0, .int .i64 0])) w') := fun w' sl n cap cs vr hb hC hr => by
    have ho : outS s = (vr, bareC cs, 0, 0) := by unfold outS; rw [if_neg (by omega), if_pos (by rw [hr]), hr]
    exact ⟨sl, n, cap, cs, by rw [ho]; rfl, by rw [ho], hC, hb⟩
  have PN : Hid (∀ w' (k : Nat) (vr : Int), Below w.heap.size w w' → readS s.data.toList = (vr, [], k, false) → RdPost2 s w (.returned (.agg #[.int .i64 0, .slice none 0 0, .int .i64 (k : Int), .int .i64 3])) w') := fun w' k vr hb hr => by
    have ho : outS s = (0, [], k, 3) := by unfold outS; rw [if_neg (by omega), if_neg (by rw [hr]; simp), hr]
    exact ⟨none, 0, 0, [], by rw [ho], by rw [ho]; rfl, OwC.nil _ _, hb⟩
  have RA : Hid ((splitL 10 s.data.toList).length = 1 → readS s.data.toList = (0, [], 0, false)) := readS_alone s.data.toList
  have RF : Hid (∀ l, (splitL 10 s.data.toList)[0]? = some l → 1 < (splitL 10 s.data.toList).length → readS s.data.toList = if headS l = true then (numV ((splitL 32 l).getD 2 []), specC (numV ((splitL 32 l).getD 2 [])) (numV ((splitL 32 l).getD 3 [])).toNat 0 [] ((splitL 10 s.data.toList).drop 1) ) else (0, [], 0, false)) := fun l h1 h2 => readS_first s.data.toList l h1 h2
  have SP := Lib.hid (spl_any s 10 (w.alloc Z29) (by omega))
  have HP := Lib.hid (spl_piece 10 s.data.toList)
  have h1 := (split_len 10 s.data.toList).1
  have h2 := (split_len 10 s.data.toList).2
  have h3 : s.data.toList.length = s.size := by simp
  rw [h3] at HP h2
  generalize hRS : readS s.data.toList = RS at *
  generalize splitL 10 s.data.toList = L at *
  generalize hm : L.length = m at *
  have HM := Lib.hid hm
  clear hm h3
  go_enter Tryd.func32, Tryd.ntmps32
  go_wp2_with fail
  refine SP.out.mono ?_
  rintro e w5 ⟨v5, rfl, own5, b5⟩
  have own6 := own5
  rw [← HM.out] at own6
  obtain ⟨g, cp, rfl, hg, hcl⟩ := own_strs own6 (by rw [HM.out]; exact h1)
  rw [HM.out]
  have HC := Lib.hid hcl
  have Z5 : Hid (w5.heap[w.heap.size]? = some Z29) := (b5.block w.heap.size (by simp)).trans (new_at w Z29)
  have B5 := Lib.hid (bT (bA0 w Z29) b5)
  have hw5 : w.heap.size < w5.heap.size := by have := b5.size; simp at this; omega
  have N5 := Lib.hid (new_at w5 (.cells #[.int .i64 0, .slice none 0 0] 27))
  have hz5 : (w5.alloc (.cells #[.int .i64 0, .slice none 0 0] 27)).heap.size = w5.heap.size + 1 := by simp
  clear own5 own6 hcl b5 SP
  go_wp2_with fail
  go_loopw [5, 6] (fun mv i wr => ∃ (k : Nat) (vr many : Int) (sl : Option Addr) (cap : Nat) (cs : List LCl), mv = .int .i64 many ∧ i = .int .i64 k ∧ k < m ∧ (0 ≤ many ∧ many ≤ 4000) ∧ cs.length ≤ many.toNat ∧ Hid ((k = 0 ∧ vr = 0 ∧ many = 0 ∧ cs = []) ∨ (cs.length + 1 = k ∧ HdR vr many ∧ (vr, specC vr many.toNat cs.length (bareC cs) (L.drop k)) = RS)) ∧ Hid (Below w5.heap.size (w5.alloc (.cells #[.int .i64 0, .slice none 0 0] 27)) wr) ∧ Hid (wr.heap[w5.heap.size]? = some (.cells #[.int .i64 vr, .slice sl cs.length cap] 27)) ∧ Hid (OwC wr (w5.heap.size + 1) (.slice sl cs.length cap) cs)) (fun _ i _ => m - (intOf i).toNat)
  case atStart => exact ⟨0, 0, 0, none, 0, [], rfl, rfl, by omega, by omega, by simp, .inl ⟨rfl, rfl, rfl, rfl⟩, Below.refl _ _, N5.out, OwC.nil _ _⟩
  case round =>
    obtain ⟨k, vr, many, sl, cap, cs, rfl, rfl, hkm, hmn, hcm, H4, H1, H2, H3⟩ := hrel
    have hk0 : (0 : Int) ≤ (k : Int) := by omega
    have hkm' : (k : Int) < (m : Int) := by omega
    obtain ⟨l, hl⟩ : ∃ l, L[k]? = some l := ⟨_, List.getElem?_eq_getElem (by rw [HM.out]; exact hkm)⟩
    have hwr : w5.heap.size + 1 ≤ wr.heap.size := by have := H1.out.size; omega
    have BW : Hid (Below w.heap.size w wr) := (B5.out.trans ((bA0 w5 (.cells #[.int .i64 0, .slice none 0 0] 27)).mono (by omega))).trans (H1.out.mono (by omega))
    have hc : wr.cell? ⟨g, k, none⟩ = some (strV l) := by
      rw [H1.out.cell (p := ⟨g, k, none⟩) hg, (bA0 w5 (.cells #[.int .i64 0, .slice none 0 0] 27)).cell (p := ⟨g, k, none⟩) hg]
      exact HC.out k l hl
    have ZR : Hid (wr.heap[w.heap.size]? = some Z29) := (H1.out.block _ hw5).trans (((bA0 w5 (.cells #[.int .i64 0, .slice none 0 0] 27)).block _ hw5).trans Z5.out)
    have hll : l.length ≤ s.size := HP.out l (List.mem_of_getElem? hl)
    have hgr : g < wr.heap.size := by have : g < w5.heap.size := hg; omega
    have BAX : Hid (Below wr.heap.size wr (wr.alloc (.cells #[.int .i64 0, .slice none 0 0, .int .i64 (k : Int), .int .i64 3] 29))) := bA0 wr _
    have NX : Hid ((wr.alloc (.cells #[.int .i64 0, .slice none 0 0, .int .i64 (k : Int), .int .i64 3] 29)).heap[wr.heap.size]? = some (.cells #[.int .i64 0, .slice none 0 0, .int .i64 (k : Int), .int .i64 3] 29)) := new_at wr _
    have hXs : (wr.alloc (.cells #[.int .i64 0, .slice none 0 0, .int .i64 (k : Int), .int .i64 3] 29)).heap.size = wr.heap.size + 1 := by simp
    generalize hX : wr.alloc (.cells #[.int .i64 0, .slice none 0 0, .int .i64 (k : Int), .int .i64 3] 29) = X at *
    have hcx : X.cell? ⟨g, k, none⟩ = some (strV l) := (BAX.out.cell hgr).trans hc
    unfold strV at hcx
    have ZX : Hid (X.heap[w.heap.size]? = some Z29) := (BAX.out.block _ (by omega)).trans ZR.out
    have CX : Hid (X.heap[w5.heap.size]? = some (.cells #[.int .i64 vr, .slice sl cs.length cap] 27)) := (BAX.out.block _ (by omega)).trans H2.out
    have OX : Hid (OwC X (w5.heap.size + 1) (.slice sl cs.length cap) cs) := H3.out.below BAX.out
    have BX : Hid (Below w.heap.size w X) := bT BW.out BAX.out
    have BX5 : Hid (Below w5.heap.size (w5.alloc (.cells #[.int .i64 0, .slice none 0 0] 27)) X) := H1.out.trans (BAX.out.mono (by omega))
    obtain ⟨c0, c1, cf, clt⟩ := cells2 CX.out
    obtain ⟨z0, z1, z2, z3, zf, zlt⟩ := cells4 ZX.out
    obtain ⟨n0, n1, n2, n3, nf, nlt⟩ := cells4 NX.out
    generalize hcn : cs.length = n at *
    have HCN := Lib.hid hcn
    clear hcn hc
    by_cases hla : k + 1 = m
    · have hla' : ((k : Int) == (m : Int) - 1) = true := by rw [beq_iff_eq]; omega
      by_cases hk00 : k = 0
      · subst hk00
        have hRA : RS = (0, [], 0, false) := RA.out (by omega)
        have HRA := Lib.hid hRA
        have PN0 : Hid (∀ w' (vr : Int), Below w.heap.size w w' → RS = (vr, [], 0, false) → RdPost2 s w (.returned (.agg #[.int .i64 0, .slice none 0 0, .int .i64 0, .int .i64 3])) w') := fun w' vr h1 h2 => PN.out w' 0 vr h1 h2
        clear hRA
        have ZX0 := ZX.out
        have hm0 : (m : Int) - 1 = 0 := by omega
        have hla2 : ((0 : Int) == (m : Int) - 1) = true := by rw [hm0]; rfl
        clear hm0 hla hla'
        simp only [Int.natCast_zero] at n2 hX
        by_cases hle : l = []
        · subst hle
          have hP := put4 ZX0 (.int .i64 0) (.slice none 0 0) (.int .i64 0) (.int .i64 3)
          obtain ⟨q0, q1, q2, q3, -, -⟩ := cells4 hP
          have B9 := Lib.hid (below_put4 BX.out (Nat.le_refl w.heap.size) (.int .i64 0) (.slice none 0 0) (.int .i64 0) (.int .i64 3))
          clear hP
          go_wp2
          exact bodyPost_ret (v := .agg #[.int .i64 0, .slice none 0 0, .int .i64 0, .int .i64 3]) (by simp [results, Tryd.results32, go_sem, q0, q1, q2, q3]) rfl (PN0.out _ 0 B9.out HRA.out)
        · have hnb : l.isEmpty = false := by simpa using hle
          have hP := put4 ZX0 (.int .i64 0) (.slice none 0 0) (.int .i64 0) (.int .i64 3)
          obtain ⟨q0, q1, q2, q3, -, -⟩ := cells4 hP
          have B9 := Lib.hid (below_put4 BX.out (Nat.le_refl w.heap.size) (.int .i64 0) (.slice none 0 0) (.int .i64 0) (.int .i64 3))
          clear hP
          go_wp2
          exact bodyPost_ret (v := .agg #[.int .i64 0, .slice none 0 0, .int .i64 0, .int .i64 3]) (by simp [results, Tryd.results32, go_sem, q0, q1, q2, q3]) rfl (PN0.out _ 0 B9.out HRA.out)
      · have hk1 : ((k : Int) == 0) = false := by rw [beq_eq_false_iff_ne]; omega
        have H5 : Hid (n + 1 = k ∧ HdR vr many ∧ (vr, specC vr many.toNat n (bareC cs) (L.drop k)) = RS) := by
          rcases H4.out with ⟨h, -⟩ | h
          · exact absurd h hk00
          · exact h
        have SL := Lib.hid (specC_last vr many.toNat n k (bareC cs) L l hl (by rw [HM.out]; exact hla))
        clear H4
        by_cases hle : l = []
        · subst hle
          by_cases hnm : (n : Int) = many
          · have hnm' : ((n : Int) != many) = false := by simp [hnm]
            have HEQ : Hid (RS = (vr, bareC cs, 0, true)) := by
              show _ = _
              rw [← H5.out.2.2, SL.out, if_pos ⟨rfl, by omega⟩]
            have hP := put4 ZX.out (.int .i64 vr) (.slice sl n cap) (.int .i64 0) (.int .i64 0)
            obtain ⟨q0, q1, q2, q3, -, -⟩ := cells4 hP
            have B9 := Lib.hid (below_put4 BX.out (Nat.le_refl w.heap.size) (.int .i64 vr) (.slice sl n cap) (.int .i64 0) (.int .i64 0))
            have C9 := Lib.hid ((OX.out.put4 (b := w.heap.size) (by omega) (.int .i64 vr) (.slice sl n cap) (.int .i64 0) (.int .i64 0)).mono (B' := w.heap.size) (by omega))
            clear hP
            go_wp2
            exact bodyPost_ret (v := .agg #[.int .i64 vr, .slice sl n cap, .int .i64 0, .int .i64 0]) (by simp [results, Tryd.results32, go_sem, q0, q1, q2, q3]) rfl (PY.out _ sl n cap cs vr B9.out C9.out HEQ.out)
          · have hnm' : ((n : Int) != many) = true := by simp [hnm]
            have HEQ : Hid (RS = (vr, [], k, false)) := by
              show _ = _
              rw [← H5.out.2.2, SL.out, if_neg (fun g => hnm (by omega)), H5.out.1]
            have hP := put4 ZX.out (.int .i64 0) (.slice none 0 0) (.int .i64 (k : Int)) (.int .i64 3)
            obtain ⟨q0, q1, q2, q3, -, -⟩ := cells4 hP
            have B9 := Lib.hid (below_put4 BX.out (Nat.le_refl w.heap.size) (.int .i64 0) (.slice none 0 0) (.int .i64 (k : Int)) (.int .i64 3))
            clear hP
            go_wp2
            exact bodyPost_ret (v := .agg #[.int .i64 0, .slice none 0 0, .int .i64 (k : Int), .int .i64 3]) (by simp [results, Tryd.results32, go_sem, q0, q1, q2, q3]) rfl (PN.out _ k vr B9.out HEQ.out)
        · have hnb : l.isEmpty = false := by simpa using hle
          have HEQ : Hid (RS = (vr, [], k, false)) := by
            show _ = _
            rw [← H5.out.2.2, SL.out, if_neg (fun g => hle g.1), H5.out.1]
          have hP := put4 ZX.out (.int .i64 0) (.slice none 0 0) (.int .i64 (k : Int)) (.int .i64 3)
          obtain ⟨q0, q1, q2, q3, -, -⟩ := cells4 hP
          have B9 := Lib.hid (below_put4 BX.out (Nat.le_refl w.heap.size) (.int .i64 0) (.slice none 0 0) (.int .i64 (k : Int)) (.int .i64 3))
          clear hP
          go_wp2
          exact bodyPost_ret (v := .agg #[.int .i64 0, .slice none 0 0, .int .i64 (k : Int), .int .i64 3]) (by simp [results, Tryd.results32, go_sem, q0, q1, q2, q3]) rfl (PN.out _ k vr B9.out HEQ.out)
    · have hla' : ((k : Int) == (m : Int) - 1) = false := by rw [beq_eq_false_iff_ne]; omega
      by_cases hk00 : k = 0
      · subst hk00
        have hRF := RF.out l hl (by omega)
        have HS0 : headS l = (decide ((splitL 32 l).length = 4) && (decide (l = headT (numV ((splitL 32 l).getD 2 [])) (numV ((splitL 32 l).getD 3 []))) && B (HdR (numV ((splitL 32 l).getD 2 [])) (numV ((splitL 32 l).getD 3 []))))) := rfl
        have PN0 : Hid (∀ w' (vr : Int), Below w.heap.size w w' → RS = (vr, [], 0, false) → RdPost2 s w (.returned (.agg #[.int .i64 0, .slice none 0 0, .int .i64 0, .int .i64 3])) w') := fun w' vr h1 h2 => PN.out w' 0 vr h1 h2
        have H4' := H4.out
        have hcs : (vr = 0 ∧ many = 0 ∧ cs = []) := by
          rcases H4' with ⟨-, h⟩ | ⟨h, -⟩
          · exact h
          · omega
        obtain ⟨rfl, rfl, rfl⟩ := hcs
        have hn0 : n = 0 := by rw [← HCN.out]; rfl
        subst hn0
        clear H4 H4' HCN hmn hcm
        simp only [Int.natCast_zero] at n2 NX hX
        have SH0 : Calls Tryd.prog 53 #[.string ⟨l.toArray⟩, .int .u8 32] X fun e w' => ∃ v, e = .returned v ∧ w'.ownsRow X.heap.size 9 1 v (splitL 32 l).length (strs (splitL 32 l)) ∧ Below X.heap.size X w' := by
          have := spl_any ⟨l.toArray⟩ 32 X (by show l.toArray.size ≤ _; simp; omega)
          simpa using this
        have hp1 := (split_len 32 l).1
        have HPC := Lib.hid (spl_piece 32 l)
        generalize splitL 32 l = P at *
        generalize hq : P.length = q at *
        have HQ := Lib.hid hq
        have HH := Lib.hid hRF
        have HS := Lib.hid HS0
        have SH := Lib.hid SH0
        have hla2 : ((0 : Int) == (m : Int) - 1) = false := by rw [beq_eq_false_iff_ne]; omega
        have HM1 := Lib.hid (show 1 < m by omega)
        clear hq hRF HS0 SH0 hla' hla
        go_wp2_with fail
        refine SH.out.mono ?_
        rintro e w6 ⟨v6, rfl, own6, b6⟩
        have own7 := own6
        rw [← HQ.out] at own7
        obtain ⟨g2, cp2, rfl, hg2, hcl2⟩ := own_strs own7 (by rw [HQ.out]; exact hp1)
        rw [HQ.out]
        have HC2 := Lib.hid hcl2
        have hg2x : X.heap.size ≤ g2 := (own6.lt g2 rfl).1
        have B6 := Lib.hid b6
        have hs6 := b6.size
        have Z6 := Lib.hid ((B6.out.block w.heap.size (by omega)).trans ZX.out)
        have C6 := Lib.hid ((B6.out.block w5.heap.size (by omega)).trans CX.out)
        have N6 := Lib.hid ((B6.out.block wr.heap.size (by omega)).trans NX.out)
        have G6 := Lib.hid ((B6.out.cell (p := ⟨g, 0, none⟩) (by show g < X.heap.size; omega)).trans hcx)
        have B6w := Lib.hid (bT BX.out B6.out)
        have B56 := Lib.hid (BX5.out.trans (B6.out.mono (by omega)))
        have O6 := Lib.hid (OX.out.below B6.out)
        clear own6 own7 hcl2 b6 SH z0 z1 z2 z3 zf zlt c0 c1 cf clt n0 n1 n2 n3 nf nlt hcx
        by_cases h4 : q = 4
        case neg =>
          have h4' : ((q : Int) != 4) = true := by simp; omega
          have HRS : Hid (RS = (0, [], 0, false)) := by
            show _ = _
            rw [HH.out, if_neg (by rw [HS.out]; simp [h4])]
          obtain ⟨z0, z1, z2, z3, zf, zlt⟩ := cells4 Z6.out
          obtain ⟨n0, n1, n2, n3, nf, nlt⟩ := cells4 N6.out
          have hP := put4 Z6.out (.int .i64 0) (.slice none 0 0) (.int .i64 0) (.int .i64 3)
          obtain ⟨q0, q1, q2, q3, -, -⟩ := cells4 hP
          have B9 := Lib.hid (below_put4 B6w.out (Nat.le_refl w.heap.size) (.int .i64 0) (.slice none 0 0) (.int .i64 0) (.int .i64 3))
          clear hP
          go_wp2
          exact bodyPost_ret (v := .agg #[.int .i64 0, .slice none 0 0, .int .i64 0, .int .i64 3]) (by simp [results, Tryd.results32, go_sem, q0, q1, q2, q3]) rfl (PN0.out _ 0 B9.out HRS.out)
        subst h4
        obtain ⟨p2, h2p⟩ : ∃ x, P[2]? = some x := ⟨_, List.getElem?_eq_getElem (by rw [HQ.out]; decide)⟩
        obtain ⟨p3, h3p⟩ : ∃ x, P[3]? = some x := ⟨_, List.getElem?_eq_getElem (by rw [HQ.out]; decide)⟩
        have e2 : P.getD 2 [] = p2 := by rw [List.getD_eq_getElem?_getD, h2p]; rfl
        have e3 : P.getD 3 [] = p3 := by rw [List.getD_eq_getElem?_getD, h3p]; rfl
        have l2 := HPC.out p2 (List.mem_of_getElem? h2p)
        have l3 := HPC.out p3 (List.mem_of_getElem? h3p)
        have G2 := HC2.out 2 p2 h2p
        have G3 := Lib.hid (HC2.out 3 p3 h3p)
        unfold strV at G2
        rw [e2, e3] at HH HS
        have M2 : Hid (∀ W, Calls Tryd.prog 79 #[.string ⟨p2.toArray⟩] W fun e w' => e = .returned (.tuple #[.int .i64 (numV p2), .bool (numK p2)]) ∧ Below W.heap.size W w') := fun W => by
          have := num_any ⟨p2.toArray⟩ (by show p2.toArray.size ≤ _; simp; omega) W
          simpa using this
        have M3 : Hid (∀ W, Calls Tryd.prog 79 #[.string ⟨p3.toArray⟩] W fun e w' => e = .returned (.tuple #[.int .i64 (numV p3), .bool (numK p3)]) ∧ Below W.heap.size W w') := fun W => by
          have := num_any ⟨p3.toArray⟩ (by show p3.toArray.size ≤ _; simp; omega) W
          simpa using this
        have bv := numV_bd p2
        have bm := numV_bd p3
        generalize numK p2 = kv at *
        generalize numK p3 = km at *
        generalize numV p2 = vv at *
        generalize numV p3 = mm at *
        clear e2 e3 h2p h3p l2 l3 HC2 HPC
        go_wp2_with fail
        refine (M2.out _).mono ?_
        rintro e w7 ⟨rfl, b7⟩
        have hs7 := b7.size
        have Z7 := Lib.hid ((b7.block w.heap.size (by omega)).trans Z6.out)
        have C7 := (b7.block w5.heap.size (by omega)).trans C6.out
        have N7 := Lib.hid ((b7.block wr.heap.size (by omega)).trans N6.out)
        have G7 := Lib.hid ((b7.cell (p := ⟨g, 0, none⟩) (by show g < w6.heap.size; omega)).trans G6.out)
        have T7 := (b7.cell (p := ⟨g2, 3, none⟩) (by show g2 < w6.heap.size; exact hg2)).trans G3.out
        unfold strV at T7
        obtain ⟨c0, c1, cf, clt⟩ := cells2 C7
        have OL := Lib.hid ((Only.refl w5.heap.size w7).setCell 0 (.int .i64 vv))
        have T8 : (w7.setCell ⟨w5.heap.size, 0, none⟩ (.int .i64 vv)).cell? ⟨g2, 3, none⟩ = some (.string ⟨p3.toArray⟩) := by
          rw [OL.out.cell (by omega) (by omega)]; exact T7
        have C8 := Lib.hid (heap_setCell_same w7 w5.heap.size 0 _ 27 (.int .i64 vv) C7)
        have Z8 : Hid ((w7.setCell ⟨w5.heap.size, 0, none⟩ (.int .i64 vv)).heap[w.heap.size]? = some Z29) := by
          show _ = _
          rw [OL.out.block _ (by omega) (by omega)]; exact Z7.out
        have N8 : Hid ((w7.setCell ⟨w5.heap.size, 0, none⟩ (.int .i64 vv)).heap[wr.heap.size]? = some (.cells #[.int .i64 0, .slice none 0 0, .int .i64 0, .int .i64 3] 29)) := by
          show _ = _
          rw [OL.out.block _ (by omega) (by omega)]; exact N7.out
        have hgw : g ≠ w5.heap.size := by omega
        have G8 : Hid ((w7.setCell ⟨w5.heap.size, 0, none⟩ (.int .i64 vv)).cell? ⟨g, 0, none⟩ = some (.string ⟨l.toArray⟩)) := by
          show _ = _
          rw [OL.out.cell (by omega) (by omega)]; exact G7.out
        have B8w := Lib.hid ((bT B6w.out b7).setCell (p := ⟨w5.heap.size, 0, none⟩) (by show w.heap.size ≤ w5.heap.size; omega) (.int .i64 vv))
        have B58 := Lib.hid ((B56.out.trans (b7.mono (by omega))).setCell (p := ⟨w5.heap.size, 0, none⟩) (Nat.le_refl _) (.int .i64 vv))
        have O8 := Lib.hid ((O6.out.below b7).setLow (b := w5.heap.size) (by omega) 0 (.int .i64 vv))
        have hs8 : (w7.setCell ⟨w5.heap.size, 0, none⟩ (.int .i64 vv)).heap.size = w7.heap.size := by simp
        clear C7 T7 b7 G2 OL
        go_wp2_with fail
        refine (M3.out _).mono ?_
        generalize w7.setCell ⟨w5.heap.size, 0, none⟩ (.int .i64 vv) = w8 at *
        rintro e w9 ⟨rfl, b9⟩
        have hs9 := b9.size
        have Z9 := Lib.hid ((b9.block w.heap.size (by omega)).trans Z8.out)
        have C9 := Lib.hid ((b9.block w5.heap.size (by omega)).trans C8.out)
        have N9 := Lib.hid ((b9.block wr.heap.size (by omega)).trans N8.out)
        have G9 := Lib.hid ((b9.cell (p := ⟨g, 0, none⟩) (by show g < w8.heap.size; omega)).trans G8.out)
        have B9w := Lib.hid (bT B8w.out b9)
        have B59 := Lib.hid (B58.out.trans (b9.mono (by omega)))
        have O9 := Lib.hid (O8.out.below b9)
        have hz9 : w.heap.size < w9.heap.size := by omega
        have hc9 : w5.heap.size < w9.heap.size := by omega
        have hn9 : wr.heap.size < w9.heap.size := by omega
        have hg9 : g < w9.heap.size := by omega
        have KB : Hid (∀ W, Below w9.heap.size w9 W → W.cell? ⟨g, 0, none⟩ = some (.string ⟨l.toArray⟩) ∧ W.cell? ⟨w5.heap.size, 0, none⟩ = some (.int .i64 vv)) := fun W hW => ⟨(hW.cell hg9).trans G9.out, (hW.cell hc9).trans (cells2 C9.out).1⟩
        have E1 := Lib.hid (fun W => dec_any vv (by omega) W)
        have E2 := Lib.hid (fun W => dec_any mm (by omega) W)
        have hd1 := itoa_len vv (by omega)
        have hd2 := itoa_len mm (by omega)
        have HEQ : Hid (l = headT vv mm → (l == (({ data := #[112, 32, 99, 110, 102, 32] } : ByteArray) ++ { data := (Lib.itoa vv).toArray } ++ { data := #[32] } ++ { data := (Lib.itoa mm).toArray }).toList) = true) := (ba_head l vv mm).1
        have HNE : Hid (¬ l = headT vv mm → (l == (({ data := #[112, 32, 99, 110, 102, 32] } : ByteArray) ++ { data := (Lib.itoa vv).toArray } ++ { data := #[32] } ++ { data := (Lib.itoa mm).toArray }).toList) = false) := (ba_head l vv mm).2
        have HNO : Hid (¬ (l = headT vv mm ∧ HdR vv mm) → RS = (0, [], 0, false)) := fun h => by
          rw [HH.out, if_neg (by rw [HS.out]; simp only [Bool.and_eq_true, decide_eq_true_eq]; exact fun x => h ⟨x.2.1, B_true x.2.2⟩)]
        have HYE : Hid (l = headT vv mm → HdR vv mm → (vv, specC vv mm.toNat 0 (bareC []) (L.drop 1)) = RS) := fun h1 h2 => by
          rw [HH.out, if_pos (by rw [HS.out]; simp only [Bool.and_eq_true, decide_eq_true_eq]; exact ⟨trivial, h1, B_yes h2⟩)]
          rfl
        clear M2 M3 b9 T8 c0 c1 cf clt HH HS B6 Z6 C6 N6 G6 B6w B56 O6 Z7 N7 G7 G3 C8 Z8 N8 G8 B8w B58 O8
        generalize Lib.itoa vv = d1 at *
        generalize Lib.itoa mm = d2 at *
        have s1 : ¬ 9223372036854775807 < 6 + d1.length := by omega
        have s2 : ¬ 9223372036854775807 < 6 + d1.length + 1 := by omega
        have s3 : ¬ 9223372036854775807 < 6 + d1.length + 1 + d2.length := by omega
        by_cases hne : l = headT vv mm
        case neg =>
          have he : (l == (({ data := #[112, 32, 99, 110, 102, 32] } : ByteArray) ++ { data := d1.toArray } ++ { data := #[32] } ++ { data := d2.toArray }).toList) = false := HNE.out hne
          have HRS : Hid (RS = (0, [], 0, false)) := HNO.out (fun h => hne h.1)
          clear hne
          go_wp2_with fail
          refine wp_region_held_drew (S := fun W => W.cell? ⟨g, 0, none⟩ = some (.string ⟨l.toArray⟩) ∧ W.cell? ⟨w5.heap.size, 0, none⟩ = some (.int .i64 vv)) (by kernel_rfl) ?_ (fun hHeld => ?_)
          · exact KB.out _ (Below.refl _ _).drew
          refine wpAnyH_take (i := 0) (oi := _) (v := ?_) rfl (by kernel_rfl) (by kernel_rfl) (by kernel_rfl) (fun _ _ _ h => h) (Or.inl ⟨by rfl, ?_⟩) (by assumption) ?_
          rotate_left
          · first | (intro w hSw; (try dsimp only at hSw); go_simp; done) | (intro w hSw; (try dsimp only at hSw); go_simp; with_reducible rfl)
          try simp only [Act.put, List.setIfInBounds_toArray, List.set_cons_zero, List.set_cons_succ, List.getElem_toArray, List.getElem_cons_zero]
          refine wpAnyH_take (i := 1) (oi := _) (v := ?_) rfl (by kernel_rfl) (by kernel_rfl) (by kernel_rfl) (fun _ _ _ h => h) (Or.inl ⟨by rfl, ?_⟩) (by assumption) ?_
          rotate_left
          · first | (intro w hSw; (try dsimp only at hSw); go_simp; done) | (intro w hSw; (try dsimp only at hSw); go_simp; with_reducible rfl)
          try simp only [Act.put, List.setIfInBounds_toArray, List.set_cons_zero, List.set_cons_succ, List.getElem_toArray, List.getElem_cons_succ, List.getElem_cons_zero]
          refine wpAnyH_take (i := 2) (oi := _) (v := ?_) rfl (by kernel_rfl) (by kernel_rfl) (by kernel_rfl) (fun _ _ _ h => h) (Or.inl ⟨by rfl, ?_⟩) (by assumption) ?_
          rotate_left
          · first | (intro w hSw; (try dsimp only at hSw); go_simp; done) | (intro w hSw; (try dsimp only at hSw); go_simp; with_reducible rfl)
          try simp only [Act.put, List.setIfInBounds_toArray, List.set_cons_zero, List.set_cons_succ, List.getElem_toArray, List.getElem_cons_succ, List.getElem_cons_zero]
          refine wpAnyH_take (i := 3) (oi := _) (v := ?_) rfl (by kernel_rfl) (by kernel_rfl) (by kernel_rfl) (fun _ _ _ h => h) (Or.inl ⟨by rfl, ?_⟩) (by assumption) ?_
          rotate_left
          · first | (intro w hSw; (try dsimp only at hSw); go_simp; done) | (intro w hSw; (try dsimp only at hSw); go_simp; with_reducible rfl)
          try simp only [Act.put, List.setIfInBounds_toArray, List.set_cons_zero, List.set_cons_succ, List.getElem_toArray, List.getElem_cons_succ, List.getElem_cons_zero]
          refine wpAnyH_take (i := 4) (oi := _) (v := ?_) rfl (by kernel_rfl) (by kernel_rfl) (by kernel_rfl) (fun _ _ _ h => h) (Or.inl ⟨by rfl, ?_⟩) (by assumption) ?_
          rotate_left
          · first | (intro w hSw; (try dsimp only at hSw); go_simp; done) | (intro w hSw; (try dsimp only at hSw); go_simp; with_reducible rfl)
          try simp only [Act.put, List.setIfInBounds_toArray, List.set_cons_zero, List.set_cons_succ, List.getElem_toArray, List.getElem_cons_succ, List.getElem_cons_zero]
          refine wpAnyH_take (i := 8) (oi := _) (v := ?_) rfl (by kernel_rfl) (by kernel_rfl) (by kernel_rfl) (fun _ _ _ h => h) (Or.inl ⟨by rfl, ?_⟩) (by assumption) ?_
          rotate_left
          · first | (intro w hSw; (try dsimp only at hSw); go_simp; done) | (intro w hSw; (try dsimp only at hSw); go_simp; with_reducible rfl)
          try simp only [Act.put, List.setIfInBounds_toArray, List.set_cons_zero, List.set_cons_succ, List.getElem_toArray, List.getElem_cons_succ, List.getElem_cons_zero]
          refine wpAnyH_ready (rs := [5]) (by kernel_rfl) (by simp) ?_
          refine AllReadyH.cons rfl (fun K hK => ?_) AllReadyH.nil
          go_simp
          go_wp2_with (go_at_call 77; refine (E1.out _).mono ?_; rintro e w10 ⟨rfl, b1⟩)
          have F2 : Hid (Below w9.heap.size w9 w10) := bT (Below.refl w9.heap.size w9).drew b1
          clear b1
          refine hK.out _ _ ?_ (fun hHeld => ?_)
          · exact KB.out _ F2.out
          clear hK K
          refine wpAnyH_take (i := 6) (oi := _) (v := ?_) rfl (by kernel_rfl) (by kernel_rfl) (by kernel_rfl) (fun _ _ _ h => h) (Or.inl ⟨by rfl, ?_⟩) (by assumption) ?_
          rotate_left
          · first | (intro w hSw; (try dsimp only at hSw); go_simp; done) | (intro w hSw; (try dsimp only at hSw); go_simp; with_reducible rfl)
          try simp only [Act.put, List.setIfInBounds_toArray, List.set_cons_zero, List.set_cons_succ, List.getElem_toArray, List.getElem_cons_succ, List.getElem_cons_zero]
          refine wpAnyH_take (i := 7) (oi := _) (v := ?_) rfl (by kernel_rfl) (by kernel_rfl) (by kernel_rfl) (fun _ _ _ h => h) (Or.inl ⟨by rfl, ?_⟩) (by assumption) ?_
          rotate_left
          · first | (intro w hSw; (try dsimp only at hSw); go_simp; done) | (intro w hSw; (try dsimp only at hSw); go_simp; with_reducible rfl)
          try simp only [Act.put, List.setIfInBounds_toArray, List.set_cons_zero, List.set_cons_succ, List.getElem_toArray, List.getElem_cons_succ, List.getElem_cons_zero]
          refine wpAnyH_ready (rs := [9]) (by kernel_rfl) (by simp) ?_
          refine AllReadyH.cons rfl (fun K hK => ?_) AllReadyH.nil
          go_simp
          go_wp2_with (go_at_call 77; refine (E2.out _).mono ?_; rintro e w11 ⟨rfl, b1⟩)
          have F3 : Hid (Below w9.heap.size w9 w11) := bT F2.out b1
          clear b1
          refine hK.out _ _ ?_ (fun hHeld => ?_)
          · exact KB.out _ F3.out
          clear hK K
          refine wpAnyH_take (i := 10) (oi := _) (v := ?_) rfl (by kernel_rfl) (by kernel_rfl) (by kernel_rfl) (fun _ _ _ h => h) (Or.inl ⟨by rfl, ?_⟩) (by assumption) ?_
          rotate_left
          · first | (intro w hSw; (try dsimp only at hSw); go_simp; done) | (intro w hSw; (try dsimp only at hSw); go_simp; with_reducible rfl)
          try simp only [Act.put, List.setIfInBounds_toArray, List.set_cons_zero, List.set_cons_succ, List.getElem_toArray, List.getElem_cons_succ, List.getElem_cons_zero]
          refine wpAnyH_take (i := 11) (oi := _) (v := ?_) rfl (by kernel_rfl) (by kernel_rfl) (by kernel_rfl) (fun _ _ _ h => h) (Or.inl ⟨by rfl, ?_⟩) (by assumption) ?_
          rotate_left
          · first | (intro w hSw; (try dsimp only at hSw); go_simp; done) | (intro w hSw; (try dsimp only at hSw); go_simp; with_reducible rfl)
          try simp only [Act.put, List.setIfInBounds_toArray, List.set_cons_zero, List.set_cons_succ, List.getElem_toArray, List.getElem_cons_succ, List.getElem_cons_zero]
          refine wpAnyH_take (i := 12) (oi := _) (v := ?_) rfl (by kernel_rfl) (by kernel_rfl) (by kernel_rfl) (fun _ _ _ h => h) (Or.inl ⟨by rfl, ?_⟩) (by assumption) ?_
          rotate_left
          · first | (intro w hSw; (try dsimp only at hSw); go_simp; done) | (intro w hSw; (try dsimp only at hSw); go_simp; with_reducible rfl)
          try simp only [Act.put, List.setIfInBounds_toArray, List.set_cons_zero, List.set_cons_succ, List.getElem_toArray, List.getElem_cons_succ, List.getElem_cons_zero]
          refine wpAnyH_take (i := 13) (oi := _) (v := undef) rfl (by kernel_rfl) (by kernel_rfl) (by kernel_rfl) (fun _ _ _ h => h) (Or.inr ⟨by rfl, rfl⟩) (by assumption) ?_
          try simp only [Act.put, List.setIfInBounds_toArray, List.set_cons_zero, List.set_cons_succ, List.getElem_toArray, List.getElem_cons_succ, List.getElem_cons_zero]
          refine wpAnyH_take (i := 14) (oi := _) (v := undef) rfl (by kernel_rfl) (by kernel_rfl) (by kernel_rfl) (fun _ _ _ h => h) (Or.inr ⟨by rfl, rfl⟩) (by assumption) ?_
          try simp only [Act.put, List.setIfInBounds_toArray, List.set_cons_zero, List.set_cons_succ, List.getElem_toArray, List.getElem_cons_succ, List.getElem_cons_zero]
          refine wpAnyH_take (i := 15) (oi := _) (v := undef) rfl (by kernel_rfl) (by kernel_rfl) (by kernel_rfl) (fun _ _ _ h => h) (Or.inr ⟨by rfl, rfl⟩) (by assumption) ?_
          try simp only [Act.put, List.setIfInBounds_toArray, List.set_cons_zero, List.set_cons_succ, List.getElem_toArray, List.getElem_cons_succ, List.getElem_cons_zero]
          refine wpAnyH_take (i := 16) (oi := _) (v := ?_) rfl (by kernel_rfl) (by kernel_rfl) (by kernel_rfl) (fun _ _ _ h => h) (Or.inl ⟨by rfl, ?_⟩) (by assumption) ?_
          rotate_left
          · first | (intro w hSw; (try dsimp only at hSw); go_simp; done) | (intro w hSw; (try dsimp only at hSw); go_simp; with_reducible rfl)
          try simp only [Act.put, List.setIfInBounds_toArray, List.set_cons_zero, List.set_cons_succ, List.getElem_toArray, List.getElem_cons_succ, List.getElem_cons_zero]
          refine wpAnyH_take (i := 17) (oi := _) (v := ?_) rfl (by kernel_rfl) (by kernel_rfl) (by kernel_rfl) (fun _ _ _ h => h) (Or.inl ⟨by rfl, ?_⟩) (by assumption) ?_
          rotate_left
          · first | (intro w hSw; (try dsimp only at hSw); go_simp; done) | (intro w hSw; (try dsimp only at hSw); go_simp; with_reducible rfl)
          try simp only [Act.put, List.setIfInBounds_toArray, List.set_cons_zero, List.set_cons_succ, List.getElem_toArray, List.getElem_cons_succ, List.getElem_cons_zero]
          refine wpAnyH_take (i := 18) (oi := _) (v := undef) rfl (by kernel_rfl) (by kernel_rfl) (by kernel_rfl) (fun _ _ _ h => h) (Or.inr ⟨by rfl, rfl⟩) (by assumption) ?_
          try simp only [Act.put, List.setIfInBounds_toArray, List.set_cons_zero, List.set_cons_succ, List.getElem_toArray, List.getElem_cons_succ, List.getElem_cons_zero]
          refine wpAnyH_take (i := 19) (oi := _) (v := undef) rfl (by kernel_rfl) (by kernel_rfl) (by kernel_rfl) (fun _ _ _ h => h) (Or.inr ⟨by rfl, rfl⟩) (by assumption) ?_
          try simp only [Act.put, List.setIfInBounds_toArray, List.set_cons_zero, List.set_cons_succ, List.getElem_toArray, List.getElem_cons_succ, List.getElem_cons_zero]
          refine wpAnyH_take (i := 20) (oi := _) (v := undef) rfl (by kernel_rfl) (by kernel_rfl) (by kernel_rfl) (fun _ _ _ h => h) (Or.inr ⟨by rfl, rfl⟩) (by assumption) ?_
          try simp only [Act.put, List.setIfInBounds_toArray, List.set_cons_zero, List.set_cons_succ, List.getElem_toArray, List.getElem_cons_succ, List.getElem_cons_zero]
          refine wpAnyH_take (i := 21) (oi := _) (v := ?_) rfl (by kernel_rfl) (by kernel_rfl) (by kernel_rfl) (fun _ _ _ h => h) (Or.inl ⟨by rfl, ?_⟩) (by assumption) ?_
          rotate_left
          · first | (intro w hSw; (try dsimp only at hSw); go_simp; done) | (intro w hSw; (try dsimp only at hSw); go_simp; with_reducible rfl)
          try simp only [Act.put, List.setIfInBounds_toArray, List.set_cons_zero, List.set_cons_succ, List.getElem_toArray, List.getElem_cons_succ, List.getElem_cons_zero]
          refine wpAnyH_take (i := 22) (oi := _) (v := ?_) rfl (by kernel_rfl) (by kernel_rfl) (by kernel_rfl) (fun _ _ _ h => h) (Or.inl ⟨by rfl, ?_⟩) (by assumption) ?_
          rotate_left
          · first | (intro w hSw; (try dsimp only at hSw); go_simp; done) | (intro w hSw; (try dsimp only at hSw); go_simp; with_reducible rfl)
          try simp only [Act.put, List.setIfInBounds_toArray, List.set_cons_zero, List.set_cons_succ, List.getElem_toArray, List.getElem_cons_succ, List.getElem_cons_zero]
          refine wpAnyH_take (i := 23) (oi := _) (v := undef) rfl (by kernel_rfl) (by kernel_rfl) (by kernel_rfl) (fun _ _ _ h => h) (Or.inr ⟨by rfl, rfl⟩) (by assumption) ?_
          try simp only [Act.put, List.setIfInBounds_toArray, List.set_cons_zero, List.set_cons_succ, List.getElem_toArray, List.getElem_cons_succ, List.getElem_cons_zero]
          refine wpAnyH_take (i := 24) (oi := _) (v := undef) rfl (by kernel_rfl) (by kernel_rfl) (by kernel_rfl) (fun _ _ _ h => h) (Or.inr ⟨by rfl, rfl⟩) (by assumption) ?_
          try simp only [Act.put, List.setIfInBounds_toArray, List.set_cons_zero, List.set_cons_succ, List.getElem_toArray, List.getElem_cons_succ, List.getElem_cons_zero]
          refine wpAnyH_take (i := 25) (oi := _) (v := ?_) rfl (by kernel_rfl) (by kernel_rfl) (by kernel_rfl) (fun _ _ _ h => h) (Or.inl ⟨by rfl, ?_⟩) (by assumption) ?_
          rotate_left
          · first | (intro w hSw; (try dsimp only at hSw); go_simp; done) | (intro w hSw; (try dsimp only at hSw); go_simp; with_reducible rfl)
          try simp only [Act.put, List.setIfInBounds_toArray, List.set_cons_zero, List.set_cons_succ, List.getElem_toArray, List.getElem_cons_succ, List.getElem_cons_zero]
          refine wpAnyH_take (i := 26) (oi := _) (v := ?_) rfl (by kernel_rfl) (by kernel_rfl) (by kernel_rfl) (fun _ _ _ h => h) (Or.inl ⟨by rfl, ?_⟩) (by assumption) ?_
          rotate_left
          · first | (intro w hSw; (try dsimp only at hSw); go_simp; done) | (intro w hSw; (try dsimp only at hSw); go_simp; with_reducible rfl)
          try simp only [Act.put, List.setIfInBounds_toArray, List.set_cons_zero, List.set_cons_succ, List.getElem_toArray, List.getElem_cons_succ, List.getElem_cons_zero]
          refine wpAnyH_take (i := 27) (oi := _) (v := undef) rfl (by kernel_rfl) (by kernel_rfl) (by kernel_rfl) (fun _ _ _ h => h) (Or.inr ⟨by rfl, rfl⟩) (by assumption) ?_
          try simp only [Act.put, List.setIfInBounds_toArray, List.set_cons_zero, List.set_cons_succ, List.getElem_toArray, List.getElem_cons_succ, List.getElem_cons_zero]
          refine wpAnyH_take (i := 28) (oi := _) (v := undef) rfl (by kernel_rfl) (by kernel_rfl) (by kernel_rfl) (fun _ _ _ h => h) (Or.inr ⟨by rfl, rfl⟩) (by assumption) ?_
          try simp only [Act.put, List.setIfInBounds_toArray, List.set_cons_zero, List.set_cons_succ, List.getElem_toArray, List.getElem_cons_succ, List.getElem_cons_zero]
          refine wpAnyH_take (i := 29) (oi := _) (v := ?_) rfl (by kernel_rfl) (by kernel_rfl) (by kernel_rfl) (fun _ _ _ h => h) (Or.inl ⟨by rfl, ?_⟩) (by assumption) ?_
          rotate_left
          · first | (intro w hSw; (try dsimp only at hSw); go_simp; done) | (intro w hSw; (try dsimp only at hSw); go_simp; with_reducible rfl)
          try simp only [Act.put, List.setIfInBounds_toArray, List.set_cons_zero, List.set_cons_succ, List.getElem_toArray, List.getElem_cons_succ, List.getElem_cons_zero]
          refine wpAnyH_done (by kernel_rfl) ?_ _
          have Z11 := (F3.out.block w.heap.size hz9).trans Z9.out
          have C11 := (F3.out.block w5.heap.size hc9).trans C9.out
          have N11 := (F3.out.block wr.heap.size hn9).trans N9.out
          obtain ⟨z0, z1, z2, z3, zf, zlt⟩ := cells4 Z11
          obtain ⟨n0, n1, n2, n3, nf, nlt⟩ := cells4 N11
          have B11 := Lib.hid (bT B9w.out F3.out)
          clear KB E1 E2 hHeld
          try clear hF0
          try clear hF1
          try clear hF2
          try clear hF3
          have Z11h := Lib.hid Z11
          have hP := put4 Z11h.out (.int .i64 0) (.slice none 0 0) (.int .i64 0) (.int .i64 3)
          obtain ⟨q0, q1, q2, q3, -, -⟩ := cells4 hP
          have B9 := Lib.hid (below_put4 B11.out (Nat.le_refl w.heap.size) (.int .i64 0) (.slice none 0 0) (.int .i64 0) (.int .i64 3))
          clear hP
          go_wp2
          exact bodyPost_ret (v := .agg #[.int .i64 0, .slice none 0 0, .int .i64 0, .int .i64 3]) (by simp [results, Tryd.results32, go_sem, q0, q1, q2, q3]) rfl (PN0.out _ 0 B9.out HRS.out)
        case pos =>
          have he : (l == (({ data := #[112, 32, 99, 110, 102, 32] } : ByteArray) ++ { data := d1.toArray } ++ { data := #[32] } ++ { data := d2.toArray }).toList) = true := HEQ.out hne
          have hne0 := Lib.hid hne
          clear hne
          by_cases hv0 : vv < 0
          case pos =>
            have HRS : Hid (RS = (0, [], 0, false)) := HNO.out (fun h => by have := h.2.1.1; omega)
            go_wp2_with fail
            refine wp_region_held_drew (S := fun W => W.cell? ⟨g, 0, none⟩ = some (.string ⟨l.toArray⟩) ∧ W.cell? ⟨w5.heap.size, 0, none⟩ = some (.int .i64 vv)) (by kernel_rfl) ?_ (fun hHeld => ?_)
            · exact KB.out _ (Below.refl _ _).drew
            refine wpAnyH_take (i := 0) (oi := _) (v := ?_) rfl (by kernel_rfl) (by kernel_rfl) (by kernel_rfl) (fun _ _ _ h => h) (Or.inl ⟨by rfl, ?_⟩) (by assumption) ?_
            rotate_left
            · first | (intro w hSw; (try dsimp only at hSw); go_simp; done) | (intro w hSw; (try dsimp only at hSw); go_simp; with_reducible rfl)
            try simp only [Act.put, List.setIfInBounds_toArray, List.set_cons_zero, List.set_cons_succ, List.getElem_toArray, List.getElem_cons_zero]
            refine wpAnyH_take (i := 1) (oi := _) (v := ?_) rfl (by kernel_rfl) (by kernel_rfl) (by kernel_rfl) (fun _ _ _ h => h) (Or.inl ⟨by rfl, ?_⟩) (by assumption) ?_
            rotate_left
            · first | (intro w hSw; (try dsimp only at hSw); go_simp; done) | (intro w hSw; (try dsimp only at hSw); go_simp; with_reducible rfl)
            try simp only [Act.put, List.setIfInBounds_toArray, List.set_cons_zero, List.set_cons_succ, List.getElem_toArray, List.getElem_cons_succ, List.getElem_cons_zero]
            refine wpAnyH_take (i := 2) (oi := _) (v := ?_) rfl (by kernel_rfl) (by kernel_rfl) (by kernel_rfl) (fun _ _ _ h => h) (Or.inl ⟨by rfl, ?_⟩) (by assumption) ?_
            rotate_left
            · first | (intro w hSw; (try dsimp only at hSw); go_simp; done) | (intro w hSw; (try dsimp only at hSw); go_simp; with_reducible rfl)
            try simp only [Act.put, List.setIfInBounds_toArray, List.set_cons_zero, List.set_cons_succ, List.getElem_toArray, List.getElem_cons_succ, List.getElem_cons_zero]
            refine wpAnyH_take (i := 3) (oi := _) (v := ?_) rfl (by kernel_rfl) (by kernel_rfl) (by kernel_rfl) (fun _ _ _ h => h) (Or.inl ⟨by rfl, ?_⟩) (by assumption) ?_
            rotate_left
            · first | (intro w hSw; (try dsimp only at hSw); go_simp; done) | (intro w hSw; (try dsimp only at hSw); go_simp; with_reducible rfl)
            try simp only [Act.put, List.setIfInBounds_toArray, List.set_cons_zero, List.set_cons_succ, List.getElem_toArray, List.getElem_cons_succ, List.getElem_cons_zero]
            refine wpAnyH_take (i := 4) (oi := _) (v := ?_) rfl (by kernel_rfl) (by kernel_rfl) (by kernel_rfl) (fun _ _ _ h => h) (Or.inl ⟨by rfl, ?_⟩) (by assumption) ?_
            rotate_left
            · first | (intro w hSw; (try dsimp only at hSw); go_simp; done) | (intro w hSw; (try dsimp only at hSw); go_simp; with_reducible rfl)
            try simp only [Act.put, List.setIfInBounds_toArray, List.set_cons_zero, List.set_cons_succ, List.getElem_toArray, List.getElem_cons_succ, List.getElem_cons_zero]
            refine wpAnyH_take (i := 8) (oi := _) (v := ?_) rfl (by kernel_rfl) (by kernel_rfl) (by kernel_rfl) (fun _ _ _ h => h) (Or.inl ⟨by rfl, ?_⟩) (by assumption) ?_
            rotate_left
            · first | (intro w hSw; (try dsimp only at hSw); go_simp; done) | (intro w hSw; (try dsimp only at hSw); go_simp; with_reducible rfl)
            try simp only [Act.put, List.setIfInBounds_toArray, List.set_cons_zero, List.set_cons_succ, List.getElem_toArray, List.getElem_cons_succ, List.getElem_cons_zero]
            refine wpAnyH_ready (rs := [5]) (by kernel_rfl) (by simp) ?_
            refine AllReadyH.cons rfl (fun K hK => ?_) AllReadyH.nil
            go_simp
            go_wp2_with (go_at_call 77; refine (E1.out _).mono ?_; rintro e w10 ⟨rfl, b1⟩)
            have F2 : Hid (Below w9.heap.size w9 w10) := bT (Below.refl w9.heap.size w9).drew b1
            clear b1
            refine hK.out _ _ ?_ (fun hHeld => ?_)
            · exact KB.out _ F2.out
            clear hK K
            refine wpAnyH_take (i := 6) (oi := _) (v := ?_) rfl (by kernel_rfl) (by kernel_rfl) (by kernel_rfl) (fun _ _ _ h => h) (Or.inl ⟨by rfl, ?_⟩) (by assumption) ?_
            rotate_left
            · first | (intro w hSw; (try dsimp only at hSw); go_simp; done) | (intro w hSw; (try dsimp only at hSw); go_simp; with_reducible rfl)
            try simp only [Act.put, List.setIfInBounds_toArray, List.set_cons_zero, List.set_cons_succ, List.getElem_toArray, List.getElem_cons_succ, List.getElem_cons_zero]
            refine wpAnyH_take (i := 7) (oi := _) (v := ?_) rfl (by kernel_rfl) (by kernel_rfl) (by kernel_rfl) (fun _ _ _ h => h) (Or.inl ⟨by rfl, ?_⟩) (by assumption) ?_
            rotate_left
            · first | (intro w hSw; (try dsimp only at hSw); go_simp; done) | (intro w hSw; (try dsimp only at hSw); go_simp; with_reducible rfl)
            try simp only [Act.put, List.setIfInBounds_toArray, List.set_cons_zero, List.set_cons_succ, List.getElem_toArray, List.getElem_cons_succ, List.getElem_cons_zero]
            refine wpAnyH_ready (rs := [9]) (by kernel_rfl) (by simp) ?_
            refine AllReadyH.cons rfl (fun K hK => ?_) AllReadyH.nil
            go_simp
            go_wp2_with (go_at_call 77; refine (E2.out _).mono ?_; rintro e w11 ⟨rfl, b1⟩)
            have F3 : Hid (Below w9.heap.size w9 w11) := bT F2.out b1
            clear b1
            refine hK.out _ _ ?_ (fun hHeld => ?_)
            · exact KB.out _ F3.out
            clear hK K
            refine wpAnyH_take (i := 10) (oi := _) (v := ?_) rfl (by kernel_rfl) (by kernel_rfl) (by kernel_rfl) (fun _ _ _ h => h) (Or.inl ⟨by rfl, ?_⟩) (by assumption) ?_
            rotate_left
            · first | (intro w hSw; (try dsimp only at hSw); go_simp; done) | (intro w hSw; (try dsimp only at hSw); go_simp; with_reducible rfl)
            try simp only [Act.put, List.setIfInBounds_toArray, List.set_cons_zero, List.set_cons_succ, List.getElem_toArray, List.getElem_cons_succ, List.getElem_cons_zero]
            refine wpAnyH_take (i := 11) (oi := _) (v := ?_) rfl (by kernel_rfl) (by kernel_rfl) (by kernel_rfl) (fun _ _ _ h => h) (Or.inl ⟨by rfl, ?_⟩) (by assumption) ?_
            rotate_left
            · first | (intro w hSw; (try dsimp only at hSw); go_simp; done) | (intro w hSw; (try dsimp only at hSw); go_simp; with_reducible rfl)
            try simp only [Act.put, List.setIfInBounds_toArray, List.set_cons_zero, List.set_cons_succ, List.getElem_toArray, List.getElem_cons_succ, List.getElem_cons_zero]
            refine wpAnyH_take (i := 12) (oi := _) (v := ?_) rfl (by kernel_rfl) (by kernel_rfl) (by kernel_rfl) (fun _ _ _ h => h) (Or.inl ⟨by rfl, ?_⟩) (by assumption) ?_
            rotate_left
            · first | (intro w hSw; (try dsimp only at hSw); go_simp; done) | (intro w hSw; (try dsimp only at hSw); go_simp; with_reducible rfl)
            try simp only [Act.put, List.setIfInBounds_toArray, List.set_cons_zero, List.set_cons_succ, List.getElem_toArray, List.getElem_cons_succ, List.getElem_cons_zero]
            refine wpAnyH_take (i := 13) (oi := _) (v := ?_) rfl (by kernel_rfl) (by kernel_rfl) (by kernel_rfl) (fun _ _ _ h => h) (Or.inl ⟨by rfl, ?_⟩) (by assumption) ?_
            rotate_left
            · first | (intro w hSw; (try dsimp only at hSw); go_simp; done) | (intro w hSw; (try dsimp only at hSw); go_simp; with_reducible rfl)
            try simp only [Act.put, List.setIfInBounds_toArray, List.set_cons_zero, List.set_cons_succ, List.getElem_toArray, List.getElem_cons_succ, List.getElem_cons_zero]
            refine wpAnyH_take (i := 14) (oi := _) (v := ?_) rfl (by kernel_rfl) (by kernel_rfl) (by kernel_rfl) (fun _ _ _ h => h) (Or.inl ⟨by rfl, ?_⟩) (by assumption) ?_
            rotate_left
            · first | (intro w hSw; (try dsimp only at hSw); go_simp; done) | (intro w hSw; (try dsimp only at hSw); go_simp; with_reducible rfl)
            try simp only [Act.put, List.setIfInBounds_toArray, List.set_cons_zero, List.set_cons_succ, List.getElem_toArray, List.getElem_cons_succ, List.getElem_cons_zero]
            refine wpAnyH_take (i := 15) (oi := _) (v := ?_) rfl (by kernel_rfl) (by kernel_rfl) (by kernel_rfl) (fun _ _ _ h => h) (Or.inl ⟨by rfl, ?_⟩) (by assumption) ?_
            rotate_left
            · first | (intro w hSw; (try dsimp only at hSw); go_simp; done) | (intro w hSw; (try dsimp only at hSw); go_simp; with_reducible rfl)
            try simp only [Act.put, List.setIfInBounds_toArray, List.set_cons_zero, List.set_cons_succ, List.getElem_toArray, List.getElem_cons_succ, List.getElem_cons_zero]
            refine wpAnyH_take (i := 16) (oi := _) (v := ?_) rfl (by kernel_rfl) (by kernel_rfl) (by kernel_rfl) (fun _ _ _ h => h) (Or.inl ⟨by rfl, ?_⟩) (by assumption) ?_
            rotate_left
            · first | (intro w hSw; (try dsimp only at hSw); go_simp; done) | (intro w hSw; (try dsimp only at hSw); go_simp; with_reducible rfl)
            try simp only [Act.put, List.setIfInBounds_toArray, List.set_cons_zero, List.set_cons_succ, List.getElem_toArray, List.getElem_cons_succ, List.getElem_cons_zero]
            refine wpAnyH_take (i := 17) (oi := _) (v := ?_) rfl (by kernel_rfl) (by kernel_rfl) (by kernel_rfl) (fun _ _ _ h => h) (Or.inl ⟨by rfl, ?_⟩) (by assumption) ?_
            rotate_left
            · first | (intro w hSw; (try dsimp only at hSw); go_simp; done) | (intro w hSw; (try dsimp only at hSw); go_simp; with_reducible rfl)
            try simp only [Act.put, List.setIfInBounds_toArray, List.set_cons_zero, List.set_cons_succ, List.getElem_toArray, List.getElem_cons_succ, List.getElem_cons_zero]
            refine wpAnyH_take (i := 18) (oi := _) (v := undef) rfl (by kernel_rfl) (by kernel_rfl) (by kernel_rfl) (fun _ _ _ h => h) (Or.inr ⟨by rfl, rfl⟩) (by assumption) ?_
            try simp only [Act.put, List.setIfInBounds_toArray, List.set_cons_zero, List.set_cons_succ, List.getElem_toArray, List.getElem_cons_succ, List.getElem_cons_zero]
            refine wpAnyH_take (i := 19) (oi := _) (v := undef) rfl (by kernel_rfl) (by kernel_rfl) (by kernel_rfl) (fun _ _ _ h => h) (Or.inr ⟨by rfl, rfl⟩) (by assumption) ?_
            try simp only [Act.put, List.setIfInBounds_toArray, List.set_cons_zero, List.set_cons_succ, List.getElem_toArray, List.getElem_cons_succ, List.getElem_cons_zero]
            refine wpAnyH_take (i := 20) (oi := _) (v := undef) rfl (by kernel_rfl) (by kernel_rfl) (by kernel_rfl) (fun _ _ _ h => h) (Or.inr ⟨by rfl, rfl⟩) (by assumption) ?_
            try simp only [Act.put, List.setIfInBounds_toArray, List.set_cons_zero, List.set_cons_succ, List.getElem_toArray, List.getElem_cons_succ, List.getElem_cons_zero]
            refine wpAnyH_take (i := 21) (oi := _) (v := ?_) rfl (by kernel_rfl) (by kernel_rfl) (by kernel_rfl) (fun _ _ _ h => h) (Or.inl ⟨by rfl, ?_⟩) (by assumption) ?_
            rotate_left
            · first | (intro w hSw; (try dsimp only at hSw); go_simp; done) | (intro w hSw; (try dsimp only at hSw); go_simp; with_reducible rfl)
            try simp only [Act.put, List.setIfInBounds_toArray, List.set_cons_zero, List.set_cons_succ, List.getElem_toArray, List.getElem_cons_succ, List.getElem_cons_zero]
            refine wpAnyH_take (i := 22) (oi := _) (v := ?_) rfl (by kernel_rfl) (by kernel_rfl) (by kernel_rfl) (fun _ _ _ h => h) (Or.inl ⟨by rfl, ?_⟩) (by assumption) ?_
            rotate_left
            · first | (intro w hSw; (try dsimp only at hSw); go_simp; done) | (intro w hSw; (try dsimp only at hSw); go_simp; with_reducible rfl)
            try simp only [Act.put, List.setIfInBounds_toArray, List.set_cons_zero, List.set_cons_succ, List.getElem_toArray, List.getElem_cons_succ, List.getElem_cons_zero]
            refine wpAnyH_take (i := 23) (oi := _) (v := undef) rfl (by kernel_rfl) (by kernel_rfl) (by kernel_rfl) (fun _ _ _ h => h) (Or.inr ⟨by rfl, rfl⟩) (by assumption) ?_
            try simp only [Act.put, List.setIfInBounds_toArray, List.set_cons_zero, List.set_cons_succ, List.getElem_toArray, List.getElem_cons_succ, List.getElem_cons_zero]
            refine wpAnyH_take (i := 24) (oi := _) (v := undef) rfl (by kernel_rfl) (by kernel_rfl) (by kernel_rfl) (fun _ _ _ h => h) (Or.inr ⟨by rfl, rfl⟩) (by assumption) ?_
            try simp only [Act.put, List.setIfInBounds_toArray, List.set_cons_zero, List.set_cons_succ, List.getElem_toArray, List.getElem_cons_succ, List.getElem_cons_zero]
            refine wpAnyH_take (i := 25) (oi := _) (v := ?_) rfl (by kernel_rfl) (by kernel_rfl) (by kernel_rfl) (fun _ _ _ h => h) (Or.inl ⟨by rfl, ?_⟩) (by assumption) ?_
            rotate_left
            · first | (intro w hSw; (try dsimp only at hSw); go_simp; done) | (intro w hSw; (try dsimp only at hSw); go_simp; with_reducible rfl)
            try simp only [Act.put, List.setIfInBounds_toArray, List.set_cons_zero, List.set_cons_succ, List.getElem_toArray, List.getElem_cons_succ, List.getElem_cons_zero]
            refine wpAnyH_take (i := 26) (oi := _) (v := ?_) rfl (by kernel_rfl) (by kernel_rfl) (by kernel_rfl) (fun _ _ _ h => h) (Or.inl ⟨by rfl, ?_⟩) (by assumption) ?_
            rotate_left
            · first | (intro w hSw; (try dsimp only at hSw); go_simp; done) | (intro w hSw; (try dsimp only at hSw); go_simp; with_reducible rfl)
            try simp only [Act.put, List.setIfInBounds_toArray, List.set_cons_zero, List.set_cons_succ, List.getElem_toArray, List.getElem_cons_succ, List.getElem_cons_zero]
            refine wpAnyH_take (i := 27) (oi := _) (v := undef) rfl (by kernel_rfl) (by kernel_rfl) (by kernel_rfl) (fun _ _ _ h => h) (Or.inr ⟨by rfl, rfl⟩) (by assumption) ?_
            try simp only [Act.put, List.setIfInBounds_toArray, List.set_cons_zero, List.set_cons_succ, List.getElem_toArray, List.getElem_cons_succ, List.getElem_cons_zero]
            refine wpAnyH_take (i := 28) (oi := _) (v := undef) rfl (by kernel_rfl) (by kernel_rfl) (by kernel_rfl) (fun _ _ _ h => h) (Or.inr ⟨by rfl, rfl⟩) (by assumption) ?_
            try simp only [Act.put, List.setIfInBounds_toArray, List.set_cons_zero, List.set_cons_succ, List.getElem_toArray, List.getElem_cons_succ, List.getElem_cons_zero]
            refine wpAnyH_take (i := 29) (oi := _) (v := ?_) rfl (by kernel_rfl) (by kernel_rfl) (by kernel_rfl) (fun _ _ _ h => h) (Or.inl ⟨by rfl, ?_⟩) (by assumption) ?_
            rotate_left
            · first | (intro w hSw; (try dsimp only at hSw); go_simp; done) | (intro w hSw; (try dsimp only at hSw); go_simp; with_reducible rfl)
            try simp only [Act.put, List.setIfInBounds_toArray, List.set_cons_zero, List.set_cons_succ, List.getElem_toArray, List.getElem_cons_succ, List.getElem_cons_zero]
            refine wpAnyH_done (by kernel_rfl) ?_ _
            have Z11 := (F3.out.block w.heap.size hz9).trans Z9.out
            have C11 := (F3.out.block w5.heap.size hc9).trans C9.out
            have N11 := (F3.out.block wr.heap.size hn9).trans N9.out
            obtain ⟨z0, z1, z2, z3, zf, zlt⟩ := cells4 Z11
            obtain ⟨n0, n1, n2, n3, nf, nlt⟩ := cells4 N11
            have B11 := Lib.hid (bT B9w.out F3.out)
            clear KB E1 E2 hHeld
            try clear hF0
            try clear hF1
            try clear hF2
            try clear hF3
            have Z11h := Lib.hid Z11
            have hP := put4 Z11h.out (.int .i64 0) (.slice none 0 0) (.int .i64 0) (.int .i64 3)
            obtain ⟨q0, q1, q2, q3, -, -⟩ := cells4 hP
            have B9 := Lib.hid (below_put4 B11.out (Nat.le_refl w.heap.size) (.int .i64 0) (.slice none 0 0) (.int .i64 0) (.int .i64 3))
            clear hP
            go_wp2
            exact bodyPost_ret (v := .agg #[.int .i64 0, .slice none 0 0, .int .i64 0, .int .i64 3]) (by simp [results, Tryd.results32, go_sem, q0, q1, q2, q3]) rfl (PN0.out _ 0 B9.out HRS.out)
          by_cases hv1 : 96 < vv
          case pos =>
            have HRS : Hid (RS = (0, [], 0, false)) := HNO.out (fun h => by have := h.2.1.2; omega)
            go_wp2_with fail
            have hF0 : (vv < 0) = False := by simp only [eq_iff_iff, iff_false]; omega
            refine wp_region_held_drew (S := fun W => W.cell? ⟨g, 0, none⟩ = some (.string ⟨l.toArray⟩) ∧ W.cell? ⟨w5.heap.size, 0, none⟩ = some (.int .i64 vv)) (by kernel_rfl) ?_ (fun hHeld => ?_)
            · exact KB.out _ (Below.refl _ _).drew
            refine wpAnyH_take (i := 0) (oi := _) (v := ?_) rfl (by kernel_rfl) (by kernel_rfl) (by kernel_rfl) (fun _ _ _ h => h) (Or.inl ⟨by rfl, ?_⟩) (by assumption) ?_
            rotate_left
            · first | (intro w hSw; (try dsimp only at hSw); go_simp; done) | (intro w hSw; (try dsimp only at hSw); go_simp; with_reducible rfl)
            try simp only [Act.put, List.setIfInBounds_toArray, List.set_cons_zero, List.set_cons_succ, List.getElem_toArray, List.getElem_cons_zero]
            refine wpAnyH_take (i := 1) (oi := _) (v := ?_) rfl (by kernel_rfl) (by kernel_rfl) (by kernel_rfl) (fun _ _ _ h => h) (Or.inl ⟨by rfl, ?_⟩) (by assumption) ?_
            rotate_left
            · first | (intro w hSw; (try dsimp only at hSw); go_simp; done) | (intro w hSw; (try dsimp only at hSw); go_simp; with_reducible rfl)
            try simp only [Act.put, List.setIfInBounds_toArray, List.set_cons_zero, List.set_cons_succ, List.getElem_toArray, List.getElem_cons_succ, List.getElem_cons_zero]
            refine wpAnyH_take (i := 2) (oi := _) (v := ?_) rfl (by kernel_rfl) (by kernel_rfl) (by kernel_rfl) (fun _ _ _ h => h) (Or.inl ⟨by rfl, ?_⟩) (by assumption) ?_
            rotate_left
            · first | (intro w hSw; (try dsimp only at hSw); go_simp; done) | (intro w hSw; (try dsimp only at hSw); go_simp; with_reducible rfl)
            try simp only [Act.put, List.setIfInBounds_toArray, List.set_cons_zero, List.set_cons_succ, List.getElem_toArray, List.getElem_cons_succ, List.getElem_cons_zero]
            refine wpAnyH_take (i := 3) (oi := _) (v := ?_) rfl (by kernel_rfl) (by kernel_rfl) (by kernel_rfl) (fun _ _ _ h => h) (Or.inl ⟨by rfl, ?_⟩) (by assumption) ?_
            rotate_left
            · first | (intro w hSw; (try dsimp only at hSw); go_simp; done) | (intro w hSw; (try dsimp only at hSw); go_simp; with_reducible rfl)
            try simp only [Act.put, List.setIfInBounds_toArray, List.set_cons_zero, List.set_cons_succ, List.getElem_toArray, List.getElem_cons_succ, List.getElem_cons_zero]
            refine wpAnyH_take (i := 4) (oi := _) (v := ?_) rfl (by kernel_rfl) (by kernel_rfl) (by kernel_rfl) (fun _ _ _ h => h) (Or.inl ⟨by rfl, ?_⟩) (by assumption) ?_
            rotate_left
            · first | (intro w hSw; (try dsimp only at hSw); go_simp; done) | (intro w hSw; (try dsimp only at hSw); go_simp; with_reducible rfl)
            try simp only [Act.put, List.setIfInBounds_toArray, List.set_cons_zero, List.set_cons_succ, List.getElem_toArray, List.getElem_cons_succ, List.getElem_cons_zero]
            refine wpAnyH_take (i := 8) (oi := _) (v := ?_) rfl (by kernel_rfl) (by kernel_rfl) (by kernel_rfl) (fun _ _ _ h => h) (Or.inl ⟨by rfl, ?_⟩) (by assumption) ?_
            rotate_left
            · first | (intro w hSw; (try dsimp only at hSw); go_simp; done) | (intro w hSw; (try dsimp only at hSw); go_simp; with_reducible rfl)
            try simp only [Act.put, List.setIfInBounds_toArray, List.set_cons_zero, List.set_cons_succ, List.getElem_toArray, List.getElem_cons_succ, List.getElem_cons_zero]
            refine wpAnyH_ready (rs := [5]) (by kernel_rfl) (by simp) ?_
            refine AllReadyH.cons rfl (fun K hK => ?_) AllReadyH.nil
            go_simp
            go_wp2_with (go_at_call 77; refine (E1.out _).mono ?_; rintro e w10 ⟨rfl, b1⟩)
            have F2 : Hid (Below w9.heap.size w9 w10) := bT (Below.refl w9.heap.size w9).drew b1
            clear b1
            refine hK.out _ _ ?_ (fun hHeld => ?_)
            · exact KB.out _ F2.out
            clear hK K
            refine wpAnyH_take (i := 6) (oi := _) (v := ?_) rfl (by kernel_rfl) (by kernel_rfl) (by kernel_rfl) (fun _ _ _ h => h) (Or.inl ⟨by rfl, ?_⟩) (by assumption) ?_
            rotate_left
            · first | (intro w hSw; (try dsimp only at hSw); go_simp; done) | (intro w hSw; (try dsimp only at hSw); go_simp; with_reducible rfl)
            try simp only [Act.put, List.setIfInBounds_toArray, List.set_cons_zero, List.set_cons_succ, List.getElem_toArray, List.getElem_cons_succ, List.getElem_cons_zero]
            refine wpAnyH_take (i := 7) (oi := _) (v := ?_) rfl (by kernel_rfl) (by kernel_rfl) (by kernel_rfl) (fun _ _ _ h => h) (Or.inl ⟨by rfl, ?_⟩) (by assumption) ?_
            rotate_left
            · first | (intro w hSw; (try dsimp only at hSw); go_simp; done) | (intro w hSw; (try dsimp only at hSw); go_simp; with_reducible rfl)
            try simp only [Act.put, List.setIfInBounds_toArray, List.set_cons_zero, List.set_cons_succ, List.getElem_toArray, List.getElem_cons_succ, List.getElem_cons_zero]
            refine wpAnyH_ready (rs := [9]) (by kernel_rfl) (by simp) ?_
            refine AllReadyH.cons rfl (fun K hK => ?_) AllReadyH.nil
            go_simp
            go_wp2_with (go_at_call 77; refine (E2.out _).mono ?_; rintro e w11 ⟨rfl, b1⟩)
            have F3 : Hid (Below w9.heap.size w9 w11) := bT F2.out b1
            clear b1
            refine hK.out _ _ ?_ (fun hHeld => ?_)
            · exact KB.out _ F3.out
            clear hK K
            refine wpAnyH_take (i := 10) (oi := _) (v := ?_) rfl (by kernel_rfl) (by kernel_rfl) (by kernel_rfl) (fun _ _ _ h => h) (Or.inl ⟨by rfl, ?_⟩) (by assumption) ?_
            rotate_left
            · first | (intro w hSw; (try dsimp only at hSw); go_simp; done) | (intro w hSw; (try dsimp only at hSw); go_simp; with_reducible rfl)
            try simp only [Act.put, List.setIfInBounds_toArray, List.set_cons_zero, List.set_cons_succ, List.getElem_toArray, List.getElem_cons_succ, List.getElem_cons_zero]
            refine wpAnyH_take (i := 11) (oi := _) (v := ?_) rfl (by kernel_rfl) (by kernel_rfl) (by kernel_rfl) (fun _ _ _ h => h) (Or.inl ⟨by rfl, ?_⟩) (by assumption) ?_
            rotate_left
            · first | (intro w hSw; (try dsimp only at hSw); go_simp; done) | (intro w hSw; (try dsimp only at hSw); go_simp; with_reducible rfl)
            try simp only [Act.put, List.setIfInBounds_toArray, List.set_cons_zero, List.set_cons_succ, List.getElem_toArray, List.getElem_cons_succ, List.getElem_cons_zero]
            refine wpAnyH_take (i := 12) (oi := _) (v := ?_) rfl (by kernel_rfl) (by kernel_rfl) (by kernel_rfl) (fun _ _ _ h => h) (Or.inl ⟨by rfl, ?_⟩) (by assumption) ?_
            rotate_left
            · first | (intro w hSw; (try dsimp only at hSw); go_simp; done) | (intro w hSw; (try dsimp only at hSw); go_simp; with_reducible rfl)
            try simp only [Act.put, List.setIfInBounds_toArray, List.set_cons_zero, List.set_cons_succ, List.getElem_toArray, List.getElem_cons_succ, List.getElem_cons_zero]
            refine wpAnyH_take (i := 13) (oi := _) (v := ?_) rfl (by kernel_rfl) (by kernel_rfl) (by kernel_rfl) (fun _ _ _ h => h) (Or.inl ⟨by rfl, ?_⟩) (by assumption) ?_
            rotate_left
            · first | (intro w hSw; (try dsimp only at hSw); go_simp; done) | (intro w hSw; (try dsimp only at hSw); go_simp; with_reducible rfl)
            try simp only [Act.put, List.setIfInBounds_toArray, List.set_cons_zero, List.set_cons_succ, List.getElem_toArray, List.getElem_cons_succ, List.getElem_cons_zero]
            refine wpAnyH_take (i := 14) (oi := _) (v := ?_) rfl (by kernel_rfl) (by kernel_rfl) (by kernel_rfl) (fun _ _ _ h => h) (Or.inl ⟨by rfl, ?_⟩) (by assumption) ?_
            rotate_left
            · first | (intro w hSw; (try dsimp only at hSw); go_simp; done) | (intro w hSw; (try dsimp only at hSw); go_simp; with_reducible rfl)
            try simp only [Act.put, List.setIfInBounds_toArray, List.set_cons_zero, List.set_cons_succ, List.getElem_toArray, List.getElem_cons_succ, List.getElem_cons_zero]
            refine wpAnyH_take (i := 15) (oi := _) (v := ?_) rfl (by kernel_rfl) (by kernel_rfl) (by kernel_rfl) (fun _ _ _ h => h) (Or.inl ⟨by rfl, ?_⟩) (by assumption) ?_
            rotate_left
            · first | (intro w hSw; (try dsimp only at hSw); go_simp; done) | (intro w hSw; (try dsimp only at hSw); go_simp; with_reducible rfl)
            try simp only [Act.put, List.setIfInBounds_toArray, List.set_cons_zero, List.set_cons_succ, List.getElem_toArray, List.getElem_cons_succ, List.getElem_cons_zero]
            refine wpAnyH_take (i := 16) (oi := _) (v := ?_) rfl (by kernel_rfl) (by kernel_rfl) (by kernel_rfl) (fun _ _ _ h => h) (Or.inl ⟨by rfl, ?_⟩) (by assumption) ?_
            rotate_left
            · first | (intro w hSw; (try dsimp only at hSw); go_simp; done) | (intro w hSw; (try dsimp only at hSw); go_simp; with_reducible rfl)
            try simp only [Act.put, List.setIfInBounds_toArray, List.set_cons_zero, List.set_cons_succ, List.getElem_toArray, List.getElem_cons_succ, List.getElem_cons_zero]
            refine wpAnyH_take (i := 17) (oi := _) (v := ?_) rfl (by kernel_rfl) (by kernel_rfl) (by kernel_rfl) (fun _ _ _ h => h) (Or.inl ⟨by rfl, ?_⟩) (by assumption) ?_
            rotate_left
            · first | (intro w hSw; (try dsimp only at hSw); go_simp; done) | (intro w hSw; (try dsimp only at hSw); go_simp; with_reducible rfl)
            try simp only [Act.put, List.setIfInBounds_toArray, List.set_cons_zero, List.set_cons_succ, List.getElem_toArray, List.getElem_cons_succ, List.getElem_cons_zero]
            refine wpAnyH_take (i := 18) (oi := _) (v := ?_) rfl (by kernel_rfl) (by kernel_rfl) (by kernel_rfl) (fun _ _ _ h => h) (Or.inl ⟨by rfl, ?_⟩) (by assumption) ?_
            rotate_left
            · first | (intro w hSw; (try dsimp only at hSw); go_simp; done) | (intro w hSw; (try dsimp only at hSw); go_simp; with_reducible rfl)
            try simp only [Act.put, List.setIfInBounds_toArray, List.set_cons_zero, List.set_cons_succ, List.getElem_toArray, List.getElem_cons_succ, List.getElem_cons_zero]
            refine wpAnyH_take (i := 19) (oi := _) (v := ?_) rfl (by kernel_rfl) (by kernel_rfl) (by kernel_rfl) (fun _ _ _ h => h) (Or.inl ⟨by rfl, ?_⟩) (by assumption) ?_
            rotate_left
            · first | (intro w hSw; (try dsimp only at hSw); go_simp; done) | (intro w hSw; (try dsimp only at hSw); go_simp; with_reducible rfl)
            try simp only [Act.put, List.setIfInBounds_toArray, List.set_cons_zero, List.set_cons_succ, List.getElem_toArray, List.getElem_cons_succ, List.getElem_cons_zero]
            refine wpAnyH_take (i := 20) (oi := _) (v := ?_) rfl (by kernel_rfl) (by kernel_rfl) (by kernel_rfl) (fun _ _ _ h => h) (Or.inl ⟨by rfl, ?_⟩) (by assumption) ?_
            rotate_left
            · first | (intro w hSw; (try dsimp only at hSw); go_simp; done) | (intro w hSw; (try dsimp only at hSw); go_simp; with_reducible rfl)
            try simp only [Act.put, List.setIfInBounds_toArray, List.set_cons_zero, List.set_cons_succ, List.getElem_toArray, List.getElem_cons_succ, List.getElem_cons_zero]
            refine wpAnyH_take (i := 21) (oi := _) (v := ?_) rfl (by kernel_rfl) (by kernel_rfl) (by kernel_rfl) (fun _ _ _ h => h) (Or.inl ⟨by rfl, ?_⟩) (by assumption) ?_
            rotate_left
            · first | (intro w hSw; (try dsimp only at hSw); go_simp; done) | (intro w hSw; (try dsimp only at hSw); go_simp; with_reducible rfl)
            try simp only [Act.put, List.setIfInBounds_toArray, List.set_cons_zero, List.set_cons_succ, List.getElem_toArray, List.getElem_cons_succ, List.getElem_cons_zero]
            refine wpAnyH_take (i := 22) (oi := _) (v := ?_) rfl (by kernel_rfl) (by kernel_rfl) (by kernel_rfl) (fun _ _ _ h => h) (Or.inl ⟨by rfl, ?_⟩) (by assumption) ?_
            rotate_left
            · first | (intro w hSw; (try dsimp only at hSw); go_simp; done) | (intro w hSw; (try dsimp only at hSw); go_simp; with_reducible rfl)
            try simp only [Act.put, List.setIfInBounds_toArray, List.set_cons_zero, List.set_cons_succ, List.getElem_toArray, List.getElem_cons_succ, List.getElem_cons_zero]
            refine wpAnyH_take (i := 23) (oi := _) (v := undef) rfl (by kernel_rfl) (by kernel_rfl) (by kernel_rfl) (fun _ _ _ h => h) (Or.inr ⟨by rfl, rfl⟩) (by assumption) ?_
            try simp only [Act.put, List.setIfInBounds_toArray, List.set_cons_zero, List.set_cons_succ, List.getElem_toArray, List.getElem_cons_succ, List.getElem_cons_zero]
            refine wpAnyH_take (i := 24) (oi := _) (v := undef) rfl (by kernel_rfl) (by kernel_rfl) (by kernel_rfl) (fun _ _ _ h => h) (Or.inr ⟨by rfl, rfl⟩) (by assumption) ?_
            try simp only [Act.put, List.setIfInBounds_toArray, List.set_cons_zero, List.set_cons_succ, List.getElem_toArray, List.getElem_cons_succ, List.getElem_cons_zero]
            refine wpAnyH_take (i := 25) (oi := _) (v := ?_) rfl (by kernel_rfl) (by kernel_rfl) (by kernel_rfl) (fun _ _ _ h => h) (Or.inl ⟨by rfl, ?_⟩) (by assumption) ?_
            rotate_left
            · first | (intro w hSw; (try dsimp only at hSw); go_simp; done) | (intro w hSw; (try dsimp only at hSw); go_simp; with_reducible rfl)
            try simp only [Act.put, List.setIfInBounds_toArray, List.set_cons_zero, List.set_cons_succ, List.getElem_toArray, List.getElem_cons_succ, List.getElem_cons_zero]
            refine wpAnyH_take (i := 26) (oi := _) (v := ?_) rfl (by kernel_rfl) (by kernel_rfl) (by kernel_rfl) (fun _ _ _ h => h) (Or.inl ⟨by rfl, ?_⟩) (by assumption) ?_
            rotate_left
            · first | (intro w hSw; (try dsimp only at hSw); go_simp; done) | (intro w hSw; (try dsimp only at hSw); go_simp; with_reducible rfl)
            try simp only [Act.put, List.setIfInBounds_toArray, List.set_cons_zero, List.set_cons_succ, List.getElem_toArray, List.getElem_cons_succ, List.getElem_cons_zero]
            refine wpAnyH_take (i := 27) (oi := _) (v := undef) rfl (by kernel_rfl) (by kernel_rfl) (by kernel_rfl) (fun _ _ _ h => h) (Or.inr ⟨by rfl, rfl⟩) (by assumption) ?_
            try simp only [Act.put, List.setIfInBounds_toArray, List.set_cons_zero, List.set_cons_succ, List.getElem_toArray, List.getElem_cons_succ, List.getElem_cons_zero]
            refine wpAnyH_take (i := 28) (oi := _) (v := undef) rfl (by kernel_rfl) (by kernel_rfl) (by kernel_rfl) (fun _ _ _ h => h) (Or.inr ⟨by rfl, rfl⟩) (by assumption) ?_
            try simp only [Act.put, List.setIfInBounds_toArray, List.set_cons_zero, List.set_cons_succ, List.getElem_toArray, List.getElem_cons_succ, List.getElem_cons_zero]
            refine wpAnyH_take (i := 29) (oi := _) (v := ?_) rfl (by kernel_rfl) (by kernel_rfl) (by kernel_rfl) (fun _ _ _ h => h) (Or.inl ⟨by rfl, ?_⟩) (by assumption) ?_
            rotate_left
            · first | (intro w hSw; (try dsimp only at hSw); go_simp; done) | (intro w hSw; (try dsimp only at hSw); go_simp; with_reducible rfl)
            try simp only [Act.put, List.setIfInBounds_toArray, List.set_cons_zero, List.set_cons_succ, List.getElem_toArray, List.getElem_cons_succ, List.getElem_cons_zero]
            refine wpAnyH_done (by kernel_rfl) ?_ _
            have Z11 := (F3.out.block w.heap.size hz9).trans Z9.out
            have C11 := (F3.out.block w5.heap.size hc9).trans C9.out
            have N11 := (F3.out.block wr.heap.size hn9).trans N9.out
            obtain ⟨z0, z1, z2, z3, zf, zlt⟩ := cells4 Z11
            obtain ⟨n0, n1, n2, n3, nf, nlt⟩ := cells4 N11
            have B11 := Lib.hid (bT B9w.out F3.out)
            clear KB E1 E2 hHeld
            try clear hF0
            try clear hF1
            try clear hF2
            try clear hF3
            have Z11h := Lib.hid Z11
            have hP := put4 Z11h.out (.int .i64 0) (.slice none 0 0) (.int .i64 0) (.int .i64 3)
            obtain ⟨q0, q1, q2, q3, -, -⟩ := cells4 hP
            have B9 := Lib.hid (below_put4 B11.out (Nat.le_refl w.heap.size) (.int .i64 0) (.slice none 0 0) (.int .i64 0) (.int .i64 3))
            clear hP
            go_wp2
            exact bodyPost_ret (v := .agg #[.int .i64 0, .slice none 0 0, .int .i64 0, .int .i64 3]) (by simp [results, Tryd.results32, go_sem, q0, q1, q2, q3]) rfl (PN0.out _ 0 B9.out HRS.out)
          by_cases hm0 : mm < 0
          case pos =>
            have HRS : Hid (RS = (0, [], 0, false)) := HNO.out (fun h => by have := h.2.2.1; omega)
            go_wp2_with fail
            have hF0 : (vv < 0) = False := by simp only [eq_iff_iff, iff_false]; omega
            have hF1 : (96 < vv) = False := by simp only [eq_iff_iff, iff_false]; omega
            refine wp_region_held_drew (S := fun W => W.cell? ⟨g, 0, none⟩ = some (.string ⟨l.toArray⟩) ∧ W.cell? ⟨w5.heap.size, 0, none⟩ = some (.int .i64 vv)) (by kernel_rfl) ?_ (fun hHeld => ?_)
            · exact KB.out _ (Below.refl _ _).drew
            refine wpAnyH_take (i := 0) (oi := _) (v := ?_) rfl (by kernel_rfl) (by kernel_rfl) (by kernel_rfl) (fun _ _ _ h => h) (Or.inl ⟨by rfl, ?_⟩) (by assumption) ?_
            rotate_left
            · first | (intro w hSw; (try dsimp only at hSw); go_simp; done) | (intro w hSw; (try dsimp only at hSw); go_simp; with_reducible rfl)
            try simp only [Act.put, List.setIfInBounds_toArray, List.set_cons_zero, List.set_cons_succ, List.getElem_toArray, List.getElem_cons_zero]
            refine wpAnyH_take (i := 1) (oi := _) (v := ?_) rfl (by kernel_rfl) (by kernel_rfl) (by kernel_rfl) (fun _ _ _ h => h) (Or.inl ⟨by rfl, ?_⟩) (by assumption) ?_
            rotate_left
            · first | (intro w hSw; (try dsimp only at hSw); go_simp; done) | (intro w hSw; (try dsimp only at hSw); go_simp; with_reducible rfl)
            try simp only [Act.put, List.setIfInBounds_toArray, List.set_cons_zero, List.set_cons_succ, List.getElem_toArray, List.getElem_cons_succ, List.getElem_cons_zero]
            refine wpAnyH_take (i := 2) (oi := _) (v := ?_) rfl (by kernel_rfl) (by kernel_rfl) (by kernel_rfl) (fun _ _ _ h => h) (Or.inl ⟨by rfl, ?_⟩) (by assumption) ?_
            rotate_left
            · first | (intro w hSw; (try dsimp only at hSw); go_simp; done) | (intro w hSw; (try dsimp only at hSw); go_simp; with_reducible rfl)
            try simp only [Act.put, List.setIfInBounds_toArray, List.set_cons_zero, List.set_cons_succ, List.getElem_toArray, List.getElem_cons_succ, List.getElem_cons_zero]
            refine wpAnyH_take (i := 3) (oi := _) (v := ?_) rfl (by kernel_rfl) (by kernel_rfl) (by kernel_rfl) (fun _ _ _ h => h) (Or.inl ⟨by rfl, ?_⟩) (by assumption) ?_
            rotate_left
            · first | (intro w hSw; (try dsimp only at hSw); go_simp; done) | (intro w hSw; (try dsimp only at hSw); go_simp; with_reducible rfl)
            try simp only [Act.put, List.setIfInBounds_toArray, List.set_cons_zero, List.set_cons_succ, List.getElem_toArray, List.getElem_cons_succ, List.getElem_cons_zero]
            refine wpAnyH_take (i := 4) (oi := _) (v := ?_) rfl (by kernel_rfl) (by kernel_rfl) (by kernel_rfl) (fun _ _ _ h => h) (Or.inl ⟨by rfl, ?_⟩) (by assumption) ?_
            rotate_left
            · first | (intro w hSw; (try dsimp only at hSw); go_simp; done) | (intro w hSw; (try dsimp only at hSw); go_simp; with_reducible rfl)
            try simp only [Act.put, List.setIfInBounds_toArray, List.set_cons_zero, List.set_cons_succ, List.getElem_toArray, List.getElem_cons_succ, List.getElem_cons_zero]
            refine wpAnyH_take (i := 8) (oi := _) (v := ?_) rfl (by kernel_rfl) (by kernel_rfl) (by kernel_rfl) (fun _ _ _ h => h) (Or.inl ⟨by rfl, ?_⟩) (by assumption) ?_
            rotate_left
            · first | (intro w hSw; (try dsimp only at hSw); go_simp; done) | (intro w hSw; (try dsimp only at hSw); go_simp; with_reducible rfl)
            try simp only [Act.put, List.setIfInBounds_toArray, List.set_cons_zero, List.set_cons_succ, List.getElem_toArray, List.getElem_cons_succ, List.getElem_cons_zero]
            refine wpAnyH_ready (rs := [5]) (by kernel_rfl) (by simp) ?_
            refine AllReadyH.cons rfl (fun K hK => ?_) AllReadyH.nil
            go_simp
            go_wp2_with (go_at_call 77; refine (E1.out _).mono ?_; rintro e w10 ⟨rfl, b1⟩)
            have F2 : Hid (Below w9.heap.size w9 w10) := bT (Below.refl w9.heap.size w9).drew b1
            clear b1
            refine hK.out _ _ ?_ (fun hHeld => ?_)
            · exact KB.out _ F2.out
            clear hK K
            refine wpAnyH_take (i := 6) (oi := _) (v := ?_) rfl (by kernel_rfl) (by kernel_rfl) (by kernel_rfl) (fun _ _ _ h => h) (Or.inl ⟨by rfl, ?_⟩) (by assumption) ?_
            rotate_left
            · first | (intro w hSw; (try dsimp only at hSw); go_simp; done) | (intro w hSw; (try dsimp only at hSw); go_simp; with_reducible rfl)
            try simp only [Act.put, List.setIfInBounds_toArray, List.set_cons_zero, List.set_cons_succ, List.getElem_toArray, List.getElem_cons_succ, List.getElem_cons_zero]
            refine wpAnyH_take (i := 7) (oi := _) (v := ?_) rfl (by kernel_rfl) (by kernel_rfl) (by kernel_rfl) (fun _ _ _ h => h) (Or.inl ⟨by rfl, ?_⟩) (by assumption) ?_
            rotate_left
            · first | (intro w hSw; (try dsimp only at hSw); go_simp; done) | (intro w hSw; (try dsimp only at hSw); go_simp; with_reducible rfl)
            try simp only [Act.put, List.setIfInBounds_toArray, List.set_cons_zero, List.set_cons_succ, List.getElem_toArray, List.getElem_cons_succ, List.getElem_cons_zero]
            refine wpAnyH_ready (rs := [9]) (by kernel_rfl) (by simp) ?_
            refine AllReadyH.cons rfl (fun K hK => ?_) AllReadyH.nil
            go_simp
            go_wp2_with (go_at_call 77; refine (E2.out _).mono ?_; rintro e w11 ⟨rfl, b1⟩)
            have F3 : Hid (Below w9.heap.size w9 w11) := bT F2.out b1
            clear b1
            refine hK.out _ _ ?_ (fun hHeld => ?_)
            · exact KB.out _ F3.out
            clear hK K
            refine wpAnyH_take (i := 10) (oi := _) (v := ?_) rfl (by kernel_rfl) (by kernel_rfl) (by kernel_rfl) (fun _ _ _ h => h) (Or.inl ⟨by rfl, ?_⟩) (by assumption) ?_
            rotate_left
            · first | (intro w hSw; (try dsimp only at hSw); go_simp; done) | (intro w hSw; (try dsimp only at hSw); go_simp; with_reducible rfl)
            try simp only [Act.put, List.setIfInBounds_toArray, List.set_cons_zero, List.set_cons_succ, List.getElem_toArray, List.getElem_cons_succ, List.getElem_cons_zero]
            refine wpAnyH_take (i := 11) (oi := _) (v := ?_) rfl (by kernel_rfl) (by kernel_rfl) (by kernel_rfl) (fun _ _ _ h => h) (Or.inl ⟨by rfl, ?_⟩) (by assumption) ?_
            rotate_left
            · first | (intro w hSw; (try dsimp only at hSw); go_simp; done) | (intro w hSw; (try dsimp only at hSw); go_simp; with_reducible rfl)
            try simp only [Act.put, List.setIfInBounds_toArray, List.set_cons_zero, List.set_cons_succ, List.getElem_toArray, List.getElem_cons_succ, List.getElem_cons_zero]
            refine wpAnyH_take (i := 12) (oi := _) (v := ?_) rfl (by kernel_rfl) (by kernel_rfl) (by kernel_rfl) (fun _ _ _ h => h) (Or.inl ⟨by rfl, ?_⟩) (by assumption) ?_
            rotate_left
            · first | (intro w hSw; (try dsimp only at hSw); go_simp; done) | (intro w hSw; (try dsimp only at hSw); go_simp; with_reducible rfl)
            try simp only [Act.put, List.setIfInBounds_toArray, List.set_cons_zero, List.set_cons_succ, List.getElem_toArray, List.getElem_cons_succ, List.getElem_cons_zero]
            refine wpAnyH_take (i := 13) (oi := _) (v := ?_) rfl (by kernel_rfl) (by kernel_rfl) (by kernel_rfl) (fun _ _ _ h => h) (Or.inl ⟨by rfl, ?_⟩) (by assumption) ?_
            rotate_left
            · first | (intro w hSw; (try dsimp only at hSw); go_simp; done) | (intro w hSw; (try dsimp only at hSw); go_simp; with_reducible rfl)
            try simp only [Act.put, List.setIfInBounds_toArray, List.set_cons_zero, List.set_cons_succ, List.getElem_toArray, List.getElem_cons_succ, List.getElem_cons_zero]
            refine wpAnyH_take (i := 14) (oi := _) (v := ?_) rfl (by kernel_rfl) (by kernel_rfl) (by kernel_rfl) (fun _ _ _ h => h) (Or.inl ⟨by rfl, ?_⟩) (by assumption) ?_
            rotate_left
            · first | (intro w hSw; (try dsimp only at hSw); go_simp; done) | (intro w hSw; (try dsimp only at hSw); go_simp; with_reducible rfl)
            try simp only [Act.put, List.setIfInBounds_toArray, List.set_cons_zero, List.set_cons_succ, List.getElem_toArray, List.getElem_cons_succ, List.getElem_cons_zero]
            refine wpAnyH_take (i := 15) (oi := _) (v := ?_) rfl (by kernel_rfl) (by kernel_rfl) (by kernel_rfl) (fun _ _ _ h => h) (Or.inl ⟨by rfl, ?_⟩) (by assumption) ?_
            rotate_left
            · first | (intro w hSw; (try dsimp only at hSw); go_simp; done) | (intro w hSw; (try dsimp only at hSw); go_simp; with_reducible rfl)
            try simp only [Act.put, List.setIfInBounds_toArray, List.set_cons_zero, List.set_cons_succ, List.getElem_toArray, List.getElem_cons_succ, List.getElem_cons_zero]
            refine wpAnyH_take (i := 16) (oi := _) (v := ?_) rfl (by kernel_rfl) (by kernel_rfl) (by kernel_rfl) (fun _ _ _ h => h) (Or.inl ⟨by rfl, ?_⟩) (by assumption) ?_
            rotate_left
            · first | (intro w hSw; (try dsimp only at hSw); go_simp; done) | (intro w hSw; (try dsimp only at hSw); go_simp; with_reducible rfl)
            try simp only [Act.put, List.setIfInBounds_toArray, List.set_cons_zero, List.set_cons_succ, List.getElem_toArray, List.getElem_cons_succ, List.getElem_cons_zero]
            refine wpAnyH_take (i := 17) (oi := _) (v := ?_) rfl (by kernel_rfl) (by kernel_rfl) (by kernel_rfl) (fun _ _ _ h => h) (Or.inl ⟨by rfl, ?_⟩) (by assumption) ?_
            rotate_left
            · first | (intro w hSw; (try dsimp only at hSw); go_simp; done) | (intro w hSw; (try dsimp only at hSw); go_simp; with_reducible rfl)
            try simp only [Act.put, List.setIfInBounds_toArray, List.set_cons_zero, List.set_cons_succ, List.getElem_toArray, List.getElem_cons_succ, List.getElem_cons_zero]
            refine wpAnyH_take (i := 18) (oi := _) (v := ?_) rfl (by kernel_rfl) (by kernel_rfl) (by kernel_rfl) (fun _ _ _ h => h) (Or.inl ⟨by rfl, ?_⟩) (by assumption) ?_
            rotate_left
            · first | (intro w hSw; (try dsimp only at hSw); go_simp; done) | (intro w hSw; (try dsimp only at hSw); go_simp; with_reducible rfl)
            try simp only [Act.put, List.setIfInBounds_toArray, List.set_cons_zero, List.set_cons_succ, List.getElem_toArray, List.getElem_cons_succ, List.getElem_cons_zero]
            refine wpAnyH_take (i := 19) (oi := _) (v := ?_) rfl (by kernel_rfl) (by kernel_rfl) (by kernel_rfl) (fun _ _ _ h => h) (Or.inl ⟨by rfl, ?_⟩) (by assumption) ?_
            rotate_left
            · first | (intro w hSw; (try dsimp only at hSw); go_simp; done) | (intro w hSw; (try dsimp only at hSw); go_simp; with_reducible rfl)
            try simp only [Act.put, List.setIfInBounds_toArray, List.set_cons_zero, List.set_cons_succ, List.getElem_toArray, List.getElem_cons_succ, List.getElem_cons_zero]
            refine wpAnyH_take (i := 20) (oi := _) (v := ?_) rfl (by kernel_rfl) (by kernel_rfl) (by kernel_rfl) (fun _ _ _ h => h) (Or.inl ⟨by rfl, ?_⟩) (by assumption) ?_
            rotate_left
            · first | (intro w hSw; (try dsimp only at hSw); go_simp; done) | (intro w hSw; (try dsimp only at hSw); go_simp; with_reducible rfl)
            try simp only [Act.put, List.setIfInBounds_toArray, List.set_cons_zero, List.set_cons_succ, List.getElem_toArray, List.getElem_cons_succ, List.getElem_cons_zero]
            refine wpAnyH_take (i := 21) (oi := _) (v := ?_) rfl (by kernel_rfl) (by kernel_rfl) (by kernel_rfl) (fun _ _ _ h => h) (Or.inl ⟨by rfl, ?_⟩) (by assumption) ?_
            rotate_left
            · first | (intro w hSw; (try dsimp only at hSw); go_simp; done) | (intro w hSw; (try dsimp only at hSw); go_simp; with_reducible rfl)
            try simp only [Act.put, List.setIfInBounds_toArray, List.set_cons_zero, List.set_cons_succ, List.getElem_toArray, List.getElem_cons_succ, List.getElem_cons_zero]
            refine wpAnyH_take (i := 22) (oi := _) (v := ?_) rfl (by kernel_rfl) (by kernel_rfl) (by kernel_rfl) (fun _ _ _ h => h) (Or.inl ⟨by rfl, ?_⟩) (by assumption) ?_
            rotate_left
            · first | (intro w hSw; (try dsimp only at hSw); go_simp; done) | (intro w hSw; (try dsimp only at hSw); go_simp; with_reducible rfl)
            try simp only [Act.put, List.setIfInBounds_toArray, List.set_cons_zero, List.set_cons_succ, List.getElem_toArray, List.getElem_cons_succ, List.getElem_cons_zero]
            refine wpAnyH_take (i := 23) (oi := _) (v := ?_) rfl (by kernel_rfl) (by kernel_rfl) (by kernel_rfl) (fun _ _ _ h => h) (Or.inl ⟨by rfl, ?_⟩) (by assumption) ?_
            rotate_left
            · first | (intro w hSw; (try dsimp only at hSw); go_simp; done) | (intro w hSw; (try dsimp only at hSw); go_simp; with_reducible rfl)
            try simp only [Act.put, List.setIfInBounds_toArray, List.set_cons_zero, List.set_cons_succ, List.getElem_toArray, List.getElem_cons_succ, List.getElem_cons_zero]
            refine wpAnyH_take (i := 24) (oi := _) (v := ?_) rfl (by kernel_rfl) (by kernel_rfl) (by kernel_rfl) (fun _ _ _ h => h) (Or.inl ⟨by rfl, ?_⟩) (by assumption) ?_
            rotate_left
            · first | (intro w hSw; (try dsimp only at hSw); go_simp; done) | (intro w hSw; (try dsimp only at hSw); go_simp; with_reducible rfl)
            try simp only [Act.put, List.setIfInBounds_toArray, List.set_cons_zero, List.set_cons_succ, List.getElem_toArray, List.getElem_cons_succ, List.getElem_cons_zero]
            refine wpAnyH_take (i := 25) (oi := _) (v := ?_) rfl (by kernel_rfl) (by kernel_rfl) (by kernel_rfl) (fun _ _ _ h => h) (Or.inl ⟨by rfl, ?_⟩) (by assumption) ?_
            rotate_left
            · first | (intro w hSw; (try dsimp only at hSw); go_simp; done) | (intro w hSw; (try dsimp only at hSw); go_simp; with_reducible rfl)
            try simp only [Act.put, List.setIfInBounds_toArray, List.set_cons_zero, List.set_cons_succ, List.getElem_toArray, List.getElem_cons_succ, List.getElem_cons_zero]
            refine wpAnyH_take (i := 26) (oi := _) (v := ?_) rfl (by kernel_rfl) (by kernel_rfl) (by kernel_rfl) (fun _ _ _ h => h) (Or.inl ⟨by rfl, ?_⟩) (by assumption) ?_
            rotate_left
            · first | (intro w hSw; (try dsimp only at hSw); go_simp; done) | (intro w hSw; (try dsimp only at hSw); go_simp; with_reducible rfl)
            try simp only [Act.put, List.setIfInBounds_toArray, List.set_cons_zero, List.set_cons_succ, List.getElem_toArray, List.getElem_cons_succ, List.getElem_cons_zero]
            refine wpAnyH_take (i := 27) (oi := _) (v := undef) rfl (by kernel_rfl) (by kernel_rfl) (by kernel_rfl) (fun _ _ _ h => h) (Or.inr ⟨by rfl, rfl⟩) (by assumption) ?_
            try simp only [Act.put, List.setIfInBounds_toArray, List.set_cons_zero, List.set_cons_succ, List.getElem_toArray, List.getElem_cons_succ, List.getElem_cons_zero]
            refine wpAnyH_take (i := 28) (oi := _) (v := undef) rfl (by kernel_rfl) (by kernel_rfl) (by kernel_rfl) (fun _ _ _ h => h) (Or.inr ⟨by rfl, rfl⟩) (by assumption) ?_
            try simp only [Act.put, List.setIfInBounds_toArray, List.set_cons_zero, List.set_cons_succ, List.getElem_toArray, List.getElem_cons_succ, List.getElem_cons_zero]
            refine wpAnyH_take (i := 29) (oi := _) (v := ?_) rfl (by kernel_rfl) (by kernel_rfl) (by kernel_rfl) (fun _ _ _ h => h) (Or.inl ⟨by rfl, ?_⟩) (by assumption) ?_
            rotate_left
            · first | (intro w hSw; (try dsimp only at hSw); go_simp; done) | (intro w hSw; (try dsimp only at hSw); go_simp; with_reducible rfl)
            try simp only [Act.put, List.setIfInBounds_toArray, List.set_cons_zero, List.set_cons_succ, List.getElem_toArray, List.getElem_cons_succ, List.getElem_cons_zero]
            refine wpAnyH_done (by kernel_rfl) ?_ _
            have Z11 := (F3.out.block w.heap.size hz9).trans Z9.out
            have C11 := (F3.out.block w5.heap.size hc9).trans C9.out
            have N11 := (F3.out.block wr.heap.size hn9).trans N9.out
            obtain ⟨z0, z1, z2, z3, zf, zlt⟩ := cells4 Z11
            obtain ⟨n0, n1, n2, n3, nf, nlt⟩ := cells4 N11
            have B11 := Lib.hid (bT B9w.out F3.out)
            clear KB E1 E2 hHeld
            try clear hF0
            try clear hF1
            try clear hF2
            try clear hF3
            have Z11h := Lib.hid Z11
            have hP := put4 Z11h.out (.int .i64 0) (.slice none 0 0) (.int .i64 0) (.int .i64 3)
            obtain ⟨q0, q1, q2, q3, -, -⟩ := cells4 hP
            have B9 := Lib.hid (below_put4 B11.out (Nat.le_refl w.heap.size) (.int .i64 0) (.slice none 0 0) (.int .i64 0) (.int .i64 3))
            clear hP
            go_wp2
            exact bodyPost_ret (v := .agg #[.int .i64 0, .slice none 0 0, .int .i64 0, .int .i64 3]) (by simp [results, Tryd.results32, go_sem, q0, q1, q2, q3]) rfl (PN0.out _ 0 B9.out HRS.out)
          by_cases hm1 : 4000 < mm
          case pos =>
            have HRS : Hid (RS = (0, [], 0, false)) := HNO.out (fun h => by have := h.2.2.2; omega)
            go_wp2_with fail
            have hF0 : (vv < 0) = False := by simp only [eq_iff_iff, iff_false]; omega
            have hF1 : (96 < vv) = False := by simp only [eq_iff_iff, iff_false]; omega
            have hF2 : (mm < 0) = False := by simp only [eq_iff_iff, iff_false]; omega
            refine wp_region_held_drew (S := fun W => W.cell? ⟨g, 0, none⟩ = some (.string ⟨l.toArray⟩) ∧ W.cell? ⟨w5.heap.size, 0, none⟩ = some (.int .i64 vv)) (by kernel_rfl) ?_ (fun hHeld => ?_)
            · exact KB.out _ (Below.refl _ _).drew
            refine wpAnyH_take (i := 0) (oi := _) (v := ?_) rfl (by kernel_rfl) (by kernel_rfl) (by kernel_rfl) (fun _ _ _ h => h) (Or.inl ⟨by rfl, ?_⟩) (by assumption) ?_
            rotate_left
            · first | (intro w hSw; (try dsimp only at hSw); go_simp; done) | (intro w hSw; (try dsimp only at hSw); go_simp; with_reducible rfl)
            try simp only [Act.put, List.setIfInBounds_toArray, List.set_cons_zero, List.set_cons_succ, List.getElem_toArray, List.getElem_cons_zero]
            refine wpAnyH_take (i := 1) (oi := _) (v := ?_) rfl (by kernel_rfl) (by kernel_rfl) (by kernel_rfl) (fun _ _ _ h => h) (Or.inl ⟨by rfl, ?_⟩) (by assumption) ?_
            rotate_left
            · first | (intro w hSw; (try dsimp only at hSw); go_simp; done) | (intro w hSw; (try dsimp only at hSw); go_simp; with_reducible rfl)
            try simp only [Act.put, List.setIfInBounds_toArray, List.set_cons_zero, List.set_cons_succ, List.getElem_toArray, List.getElem_cons_succ, List.getElem_cons_zero]
            refine wpAnyH_take (i := 2) (oi := _) (v := ?_) rfl (by kernel_rfl) (by kernel_rfl) (by kernel_rfl) (fun _ _ _ h => h) (Or.inl ⟨by rfl, ?_⟩) (by assumption) ?_
            rotate_left
            · first | (intro w hSw; (try dsimp only at hSw); go_simp; done) | (intro w hSw; (try dsimp only at hSw); go_simp; with_reducible rfl)
            try simp only [Act.put, List.setIfInBounds_toArray, List.set_cons_zero, List.set_cons_succ, List.getElem_toArray, List.getElem_cons_succ, List.getElem_cons_zero]
            refine wpAnyH_take (i := 3) (oi := _) (v := ?_) rfl (by kernel_rfl) (by kernel_rfl) (by kernel_rfl) (fun _ _ _ h => h) (Or.inl ⟨by rfl, ?_⟩) (by assumption) ?_
            rotate_left
            · first | (intro w hSw; (try dsimp only at hSw); go_simp; done) | (intro w hSw; (try dsimp only at hSw); go_simp; with_reducible rfl)
            try simp only [Act.put, List.setIfInBounds_toArray, List.set_cons_zero, List.set_cons_succ, List.getElem_toArray, List.getElem_cons_succ, List.getElem_cons_zero]
            refine wpAnyH_take (i := 4) (oi := _) (v := ?_) rfl (by kernel_rfl) (by kernel_rfl) (by kernel_rfl) (fun _ _ _ h => h) (Or.inl ⟨by rfl, ?_⟩) (by assumption) ?_
            rotate_left
            · first | (intro w hSw; (try dsimp only at hSw); go_simp; done) | (intro w hSw; (try dsimp only at hSw); go_simp; with_reducible rfl)
            try simp only [Act.put, List.setIfInBounds_toArray, List.set_cons_zero, List.set_cons_succ, List.getElem_toArray, List.getElem_cons_succ, List.getElem_cons_zero]
            refine wpAnyH_take (i := 8) (oi := _) (v := ?_) rfl (by kernel_rfl) (by kernel_rfl) (by kernel_rfl) (fun _ _ _ h => h) (Or.inl ⟨by rfl, ?_⟩) (by assumption) ?_
            rotate_left
            · first | (intro w hSw; (try dsimp only at hSw); go_simp; done) | (intro w hSw; (try dsimp only at hSw); go_simp; with_reducible rfl)
            try simp only [Act.put, List.setIfInBounds_toArray, List.set_cons_zero, List.set_cons_succ, List.getElem_toArray, List.getElem_cons_succ, List.getElem_cons_zero]
            refine wpAnyH_ready (rs := [5]) (by kernel_rfl) (by simp) ?_
            refine AllReadyH.cons rfl (fun K hK => ?_) AllReadyH.nil
            go_simp
            go_wp2_with (go_at_call 77; refine (E1.out _).mono ?_; rintro e w10 ⟨rfl, b1⟩)
            have F2 : Hid (Below w9.heap.size w9 w10) := bT (Below.refl w9.heap.size w9).drew b1
            clear b1
            refine hK.out _ _ ?_ (fun hHeld => ?_)
            · exact KB.out _ F2.out
            clear hK K
            refine wpAnyH_take (i := 6) (oi := _) (v := ?_) rfl (by kernel_rfl) (by kernel_rfl) (by kernel_rfl) (fun _ _ _ h => h) (Or.inl ⟨by rfl, ?_⟩) (by assumption) ?_
            rotate_left
            · first | (intro w hSw; (try dsimp only at hSw); go_simp; done) | (intro w hSw; (try dsimp only at hSw); go_simp; with_reducible rfl)
            try simp only [Act.put, List.setIfInBounds_toArray, List.set_cons_zero, List.set_cons_succ, List.getElem_toArray, List.getElem_cons_succ, List.getElem_cons_zero]
            refine wpAnyH_take (i := 7) (oi := _) (v := ?_) rfl (by kernel_rfl) (by kernel_rfl) (by kernel_rfl) (fun _ _ _ h => h) (Or.inl ⟨by rfl, ?_⟩) (by assumption) ?_
            rotate_left
            · first | (intro w hSw; (try dsimp only at hSw); go_simp; done) | (intro w hSw; (try dsimp only at hSw); go_simp; with_reducible rfl)
            try simp only [Act.put, List.setIfInBounds_toArray, List.set_cons_zero, List.set_cons_succ, List.getElem_toArray, List.getElem_cons_succ, List.getElem_cons_zero]
            refine wpAnyH_ready (rs := [9]) (by kernel_rfl) (by simp) ?_
            refine AllReadyH.cons rfl (fun K hK => ?_) AllReadyH.nil
            go_simp
            go_wp2_with (go_at_call 77; refine (E2.out _).mono ?_; rintro e w11 ⟨rfl, b1⟩)
            have F3 : Hid (Below w9.heap.size w9 w11) := bT F2.out b1
            clear b1
            refine hK.out _ _ ?_ (fun hHeld => ?_)
            · exact KB.out _ F3.out
            clear hK K
            refine wpAnyH_take (i := 10) (oi := _) (v := ?_) rfl (by kernel_rfl) (by kernel_rfl) (by kernel_rfl) (fun _ _ _ h => h) (Or.inl ⟨by rfl, ?_⟩) (by assumption) ?_
            rotate_left
            · first | (intro w hSw; (try dsimp only at hSw); go_simp; done) | (intro w hSw; (try dsimp only at hSw); go_simp; with_reducible rfl)
            try simp only [Act.put, List.setIfInBounds_toArray, List.set_cons_zero, List.set_cons_succ, List.getElem_toArray, List.getElem_cons_succ, List.getElem_cons_zero]
            refine wpAnyH_take (i := 11) (oi := _) (v := ?_) rfl (by kernel_rfl) (by kernel_rfl) (by kernel_rfl) (fun _ _ _ h => h) (Or.inl ⟨by rfl, ?_⟩) (by assumption) ?_
            rotate_left
            · first | (intro w hSw; (try dsimp only at hSw); go_simp; done) | (intro w hSw; (try dsimp only at hSw); go_simp; with_reducible rfl)
            try simp only [Act.put, List.setIfInBounds_toArray, List.set_cons_zero, List.set_cons_succ, List.getElem_toArray, List.getElem_cons_succ, List.getElem_cons_zero]
            refine wpAnyH_take (i := 12) (oi := _) (v := ?_) rfl (by kernel_rfl) (by kernel_rfl) (by kernel_rfl) (fun _ _ _ h => h) (Or.inl ⟨by rfl, ?_⟩) (by assumption) ?_
            rotate_left
            · first | (intro w hSw; (try dsimp only at hSw); go_simp; done) | (intro w hSw; (try dsimp only at hSw); go_simp; with_reducible rfl)
            try simp only [Act.put, List.setIfInBounds_toArray, List.set_cons_zero, List.set_cons_succ, List.getElem_toArray, List.getElem_cons_succ, List.getElem_cons_zero]
            refine wpAnyH_take (i := 13) (oi := _) (v := ?_) rfl (by kernel_rfl) (by kernel_rfl) (by kernel_rfl) (fun _ _ _ h => h) (Or.inl ⟨by rfl, ?_⟩) (by assumption) ?_
            rotate_left
            · first | (intro w hSw; (try dsimp only at hSw); go_simp; done) | (intro w hSw; (try dsimp only at hSw); go_simp; with_reducible rfl)
            try simp only [Act.put, List.setIfInBounds_toArray, List.set_cons_zero, List.set_cons_succ, List.getElem_toArray, List.getElem_cons_succ, List.getElem_cons_zero]
            refine wpAnyH_take (i := 14) (oi := _) (v := ?_) rfl (by kernel_rfl) (by kernel_rfl) (by kernel_rfl) (fun _ _ _ h => h) (Or.inl ⟨by rfl, ?_⟩) (by assumption) ?_
            rotate_left
            · first | (intro w hSw; (try dsimp only at hSw); go_simp; done) | (intro w hSw; (try dsimp only at hSw); go_simp; with_reducible rfl)
            try simp only [Act.put, List.setIfInBounds_toArray, List.set_cons_zero, List.set_cons_succ, List.getElem_toArray, List.getElem_cons_succ, List.getElem_cons_zero]
            refine wpAnyH_take (i := 15) (oi := _) (v := ?_) rfl (by kernel_rfl) (by kernel_rfl) (by kernel_rfl) (fun _ _ _ h => h) (Or.inl ⟨by rfl, ?_⟩) (by assumption) ?_
            rotate_left
            · first | (intro w hSw; (try dsimp only at hSw); go_simp; done) | (intro w hSw; (try dsimp only at hSw); go_simp; with_reducible rfl)
            try simp only [Act.put, List.setIfInBounds_toArray, List.set_cons_zero, List.set_cons_succ, List.getElem_toArray, List.getElem_cons_succ, List.getElem_cons_zero]
            refine wpAnyH_take (i := 16) (oi := _) (v := ?_) rfl (by kernel_rfl) (by kernel_rfl) (by kernel_rfl) (fun _ _ _ h => h) (Or.inl ⟨by rfl, ?_⟩) (by assumption) ?_
            rotate_left
            · first | (intro w hSw; (try dsimp only at hSw); go_simp; done) | (intro w hSw; (try dsimp only at hSw); go_simp; with_reducible rfl)
            try simp only [Act.put, List.setIfInBounds_toArray, List.set_cons_zero, List.set_cons_succ, List.getElem_toArray, List.getElem_cons_succ, List.getElem_cons_zero]
            refine wpAnyH_take (i := 17) (oi := _) (v := ?_) rfl (by kernel_rfl) (by kernel_rfl) (by kernel_rfl) (fun _ _ _ h => h) (Or.inl ⟨by rfl, ?_⟩) (by assumption) ?_
            rotate_left
            · first | (intro w hSw; (try dsimp only at hSw); go_simp; done) | (intro w hSw; (try dsimp only at hSw); go_simp; with_reducible rfl)
            try simp only [Act.put, List.setIfInBounds_toArray, List.set_cons_zero, List.set_cons_succ, List.getElem_toArray, List.getElem_cons_succ, List.getElem_cons_zero]
            refine wpAnyH_take (i := 18) (oi := _) (v := ?_) rfl (by kernel_rfl) (by kernel_rfl) (by kernel_rfl) (fun _ _ _ h => h) (Or.inl ⟨by rfl, ?_⟩) (by assumption) ?_
            rotate_left
            · first | (intro w hSw; (try dsimp only at hSw); go_simp; done) | (intro w hSw; (try dsimp only at hSw); go_simp; with_reducible rfl)
            try simp only [Act.put, List.setIfInBounds_toArray, List.set_cons_zero, List.set_cons_succ, List.getElem_toArray, List.getElem_cons_succ, List.getElem_cons_zero]
            refine wpAnyH_take (i := 19) (oi := _) (v := ?_) rfl (by kernel_rfl) (by kernel_rfl) (by kernel_rfl) (fun _ _ _ h => h) (Or.inl ⟨by rfl, ?_⟩) (by assumption) ?_
            rotate_left
            · first | (intro w hSw; (try dsimp only at hSw); go_simp; done) | (intro w hSw; (try dsimp only at hSw); go_simp; with_reducible rfl)
            try simp only [Act.put, List.setIfInBounds_toArray, List.set_cons_zero, List.set_cons_succ, List.getElem_toArray, List.getElem_cons_succ, List.getElem_cons_zero]
            refine wpAnyH_take (i := 20) (oi := _) (v := ?_) rfl (by kernel_rfl) (by kernel_rfl) (by kernel_rfl) (fun _ _ _ h => h) (Or.inl ⟨by rfl, ?_⟩) (by assumption) ?_
            rotate_left
            · first | (intro w hSw; (try dsimp only at hSw); go_simp; done) | (intro w hSw; (try dsimp only at hSw); go_simp; with_reducible rfl)
            try simp only [Act.put, List.setIfInBounds_toArray, List.set_cons_zero, List.set_cons_succ, List.getElem_toArray, List.getElem_cons_succ, List.getElem_cons_zero]
            refine wpAnyH_take (i := 21) (oi := _) (v := ?_) rfl (by kernel_rfl) (by kernel_rfl) (by kernel_rfl) (fun _ _ _ h => h) (Or.inl ⟨by rfl, ?_⟩) (by assumption) ?_
            rotate_left
            · first | (intro w hSw; (try dsimp only at hSw); go_simp; done) | (intro w hSw; (try dsimp only at hSw); go_simp; with_reducible rfl)
            try simp only [Act.put, List.setIfInBounds_toArray, List.set_cons_zero, List.set_cons_succ, List.getElem_toArray, List.getElem_cons_succ, List.getElem_cons_zero]
            refine wpAnyH_take (i := 22) (oi := _) (v := ?_) rfl (by kernel_rfl) (by kernel_rfl) (by kernel_rfl) (fun _ _ _ h => h) (Or.inl ⟨by rfl, ?_⟩) (by assumption) ?_
            rotate_left
            · first | (intro w hSw; (try dsimp only at hSw); go_simp; done) | (intro w hSw; (try dsimp only at hSw); go_simp; with_reducible rfl)
            try simp only [Act.put, List.setIfInBounds_toArray, List.set_cons_zero, List.set_cons_succ, List.getElem_toArray, List.getElem_cons_succ, List.getElem_cons_zero]
            refine wpAnyH_take (i := 23) (oi := _) (v := ?_) rfl (by kernel_rfl) (by kernel_rfl) (by kernel_rfl) (fun _ _ _ h => h) (Or.inl ⟨by rfl, ?_⟩) (by assumption) ?_
            rotate_left
            · first | (intro w hSw; (try dsimp only at hSw); go_simp; done) | (intro w hSw; (try dsimp only at hSw); go_simp; with_reducible rfl)
            try simp only [Act.put, List.setIfInBounds_toArray, List.set_cons_zero, List.set_cons_succ, List.getElem_toArray, List.getElem_cons_succ, List.getElem_cons_zero]
            refine wpAnyH_take (i := 24) (oi := _) (v := ?_) rfl (by kernel_rfl) (by kernel_rfl) (by kernel_rfl) (fun _ _ _ h => h) (Or.inl ⟨by rfl, ?_⟩) (by assumption) ?_
            rotate_left
            · first | (intro w hSw; (try dsimp only at hSw); go_simp; done) | (intro w hSw; (try dsimp only at hSw); go_simp; with_reducible rfl)
            try simp only [Act.put, List.setIfInBounds_toArray, List.set_cons_zero, List.set_cons_succ, List.getElem_toArray, List.getElem_cons_succ, List.getElem_cons_zero]
            refine wpAnyH_take (i := 25) (oi := _) (v := ?_) rfl (by kernel_rfl) (by kernel_rfl) (by kernel_rfl) (fun _ _ _ h => h) (Or.inl ⟨by rfl, ?_⟩) (by assumption) ?_
            rotate_left
            · first | (intro w hSw; (try dsimp only at hSw); go_simp; done) | (intro w hSw; (try dsimp only at hSw); go_simp; with_reducible rfl)
            try simp only [Act.put, List.setIfInBounds_toArray, List.set_cons_zero, List.set_cons_succ, List.getElem_toArray, List.getElem_cons_succ, List.getElem_cons_zero]
            refine wpAnyH_take (i := 26) (oi := _) (v := ?_) rfl (by kernel_rfl) (by kernel_rfl) (by kernel_rfl) (fun _ _ _ h => h) (Or.inl ⟨by rfl, ?_⟩) (by assumption) ?_
            rotate_left
            · first | (intro w hSw; (try dsimp only at hSw); go_simp; done) | (intro w hSw; (try dsimp only at hSw); go_simp; with_reducible rfl)
            try simp only [Act.put, List.setIfInBounds_toArray, List.set_cons_zero, List.set_cons_succ, List.getElem_toArray, List.getElem_cons_succ, List.getElem_cons_zero]
            refine wpAnyH_take (i := 27) (oi := _) (v := ?_) rfl (by kernel_rfl) (by kernel_rfl) (by kernel_rfl) (fun _ _ _ h => h) (Or.inl ⟨by rfl, ?_⟩) (by assumption) ?_
            rotate_left
            · first | (intro w hSw; (try dsimp only at hSw); go_simp; done) | (intro w hSw; (try dsimp only at hSw); go_simp; with_reducible rfl)
            try simp only [Act.put, List.setIfInBounds_toArray, List.set_cons_zero, List.set_cons_succ, List.getElem_toArray, List.getElem_cons_succ, List.getElem_cons_zero]
            refine wpAnyH_take (i := 28) (oi := _) (v := ?_) rfl (by kernel_rfl) (by kernel_rfl) (by kernel_rfl) (fun _ _ _ h => h) (Or.inl ⟨by rfl, ?_⟩) (by assumption) ?_
            rotate_left
            · first | (intro w hSw; (try dsimp only at hSw); go_simp; done) | (intro w hSw; (try dsimp only at hSw); go_simp; with_reducible rfl)
            try simp only [Act.put, List.setIfInBounds_toArray, List.set_cons_zero, List.set_cons_succ, List.getElem_toArray, List.getElem_cons_succ, List.getElem_cons_zero]
            refine wpAnyH_take (i := 29) (oi := _) (v := ?_) rfl (by kernel_rfl) (by kernel_rfl) (by kernel_rfl) (fun _ _ _ h => h) (Or.inl ⟨by rfl, ?_⟩) (by assumption) ?_
            rotate_left
            · first | (intro w hSw; (try dsimp only at hSw); go_simp; done) | (intro w hSw; (try dsimp only at hSw); go_simp; with_reducible rfl)
            try simp only [Act.put, List.setIfInBounds_toArray, List.set_cons_zero, List.set_cons_succ, List.getElem_toArray, List.getElem_cons_succ, List.getElem_cons_zero]
            refine wpAnyH_done (by kernel_rfl) ?_ _
            have Z11 := (F3.out.block w.heap.size hz9).trans Z9.out
            have C11 := (F3.out.block w5.heap.size hc9).trans C9.out
            have N11 := (F3.out.block wr.heap.size hn9).trans N9.out
            obtain ⟨z0, z1, z2, z3, zf, zlt⟩ := cells4 Z11
            obtain ⟨n0, n1, n2, n3, nf, nlt⟩ := cells4 N11
            have B11 := Lib.hid (bT B9w.out F3.out)
            clear KB E1 E2 hHeld
            try clear hF0
            try clear hF1
            try clear hF2
            try clear hF3
            have Z11h := Lib.hid Z11
            have hP := put4 Z11h.out (.int .i64 0) (.slice none 0 0) (.int .i64 0) (.int .i64 3)
            obtain ⟨q0, q1, q2, q3, -, -⟩ := cells4 hP
            have B9 := Lib.hid (below_put4 B11.out (Nat.le_refl w.heap.size) (.int .i64 0) (.slice none 0 0) (.int .i64 0) (.int .i64 3))
            clear hP
            go_wp2
            exact bodyPost_ret (v := .agg #[.int .i64 0, .slice none 0 0, .int .i64 0, .int .i64 3]) (by simp [results, Tryd.results32, go_sem, q0, q1, q2, q3]) rfl (PN0.out _ 0 B9.out HRS.out)
          have HHD : HdR vv mm := ⟨⟨by omega, by omega⟩, by omega, by omega⟩
          have HYS := Lib.hid (HYE.out hne0.out HHD)
          have HHd := Lib.hid HHD
          clear HHD
          go_wp2_with fail
          have hF0 : (vv < 0) = False := by simp only [eq_iff_iff, iff_false]; omega
          have hF1 : (96 < vv) = False := by simp only [eq_iff_iff, iff_false]; omega
          have hF2 : (mm < 0) = False := by simp only [eq_iff_iff, iff_false]; omega
          have hF3 : (4000 < mm) = False := by simp only [eq_iff_iff, iff_false]; omega
          refine wp_region_held_drew (S := fun W => W.cell? ⟨g, 0, none⟩ = some (.string ⟨l.toArray⟩) ∧ W.cell? ⟨w5.heap.size, 0, none⟩ = some (.int .i64 vv)) (by kernel_rfl) ?_ (fun hHeld => ?_)
          · exact KB.out _ (Below.refl _ _).drew
          refine wpAnyH_take (i := 0) (oi := _) (v := ?_) rfl (by kernel_rfl) (by kernel_rfl) (by kernel_rfl) (fun _ _ _ h => h) (Or.inl ⟨by rfl, ?_⟩) (by assumption) ?_
          rotate_left
          · first | (intro w hSw; (try dsimp only at hSw); go_simp; done) | (intro w hSw; (try dsimp only at hSw); go_simp; with_reducible rfl)
          try simp only [Act.put, List.setIfInBounds_toArray, List.set_cons_zero, List.set_cons_succ, List.getElem_toArray, List.getElem_cons_zero]
          refine wpAnyH_take (i := 1) (oi := _) (v := ?_) rfl (by kernel_rfl) (by kernel_rfl) (by kernel_rfl) (fun _ _ _ h => h) (Or.inl ⟨by rfl, ?_⟩) (by assumption) ?_
          rotate_left
          · first | (intro w hSw; (try dsimp only at hSw); go_simp; done) | (intro w hSw; (try dsimp only at hSw); go_simp; with_reducible rfl)
          try simp only [Act.put, List.setIfInBounds_toArray, List.set_cons_zero, List.set_cons_succ, List.getElem_toArray, List.getElem_cons_succ, List.getElem_cons_zero]
          refine wpAnyH_take (i := 2) (oi := _) (v := ?_) rfl (by kernel_rfl) (by kernel_rfl) (by kernel_rfl) (fun _ _ _ h => h) (Or.inl ⟨by rfl, ?_⟩) (by assumption) ?_
          rotate_left
          · first | (intro w hSw; (try dsimp only at hSw); go_simp; done) | (intro w hSw; (try dsimp only at hSw); go_simp; with_reducible rfl)
          try simp only [Act.put, List.setIfInBounds_toArray, List.set_cons_zero, List.set_cons_succ, List.getElem_toArray, List.getElem_cons_succ, List.getElem_cons_zero]
          refine wpAnyH_take (i := 3) (oi := _) (v := ?_) rfl (by kernel_rfl) (by kernel_rfl) (by kernel_rfl) (fun _ _ _ h => h) (Or.inl ⟨by rfl, ?_⟩) (by assumption) ?_
          rotate_left
          · first | (intro w hSw; (try dsimp only at hSw); go_simp; done) | (intro w hSw; (try dsimp only at hSw); go_simp; with_reducible rfl)
          try simp only [Act.put, List.setIfInBounds_toArray, List.set_cons_zero, List.set_cons_succ, List.getElem_toArray, List.getElem_cons_succ, List.getElem_cons_zero]
          refine wpAnyH_take (i := 4) (oi := _) (v := ?_) rfl (by kernel_rfl) (by kernel_rfl) (by kernel_rfl) (fun _ _ _ h => h) (Or.inl ⟨by rfl, ?_⟩) (by assumption) ?_
          rotate_left
          · first | (intro w hSw; (try dsimp only at hSw); go_simp; done) | (intro w hSw; (try dsimp only at hSw); go_simp; with_reducible rfl)
          try simp only [Act.put, List.setIfInBounds_toArray, List.set_cons_zero, List.set_cons_succ, List.getElem_toArray, List.getElem_cons_succ, List.getElem_cons_zero]
          refine wpAnyH_take (i := 8) (oi := _) (v := ?_) rfl (by kernel_rfl) (by kernel_rfl) (by kernel_rfl) (fun _ _ _ h => h) (Or.inl ⟨by rfl, ?_⟩) (by assumption) ?_
          rotate_left
          · first | (intro w hSw; (try dsimp only at hSw); go_simp; done) | (intro w hSw; (try dsimp only at hSw); go_simp; with_reducible rfl)
          try simp only [Act.put, List.setIfInBounds_toArray, List.set_cons_zero, List.set_cons_succ, List.getElem_toArray, List.getElem_cons_succ, List.getElem_cons_zero]
          refine wpAnyH_ready (rs := [5]) (by kernel_rfl) (by simp) ?_
          refine AllReadyH.cons rfl (fun K hK => ?_) AllReadyH.nil
          go_simp
          go_wp2_with (go_at_call 77; refine (E1.out _).mono ?_; rintro e w10 ⟨rfl, b1⟩)
          have F2 : Hid (Below w9.heap.size w9 w10) := bT (Below.refl w9.heap.size w9).drew b1
          clear b1
          refine hK.out _ _ ?_ (fun hHeld => ?_)
          · exact KB.out _ F2.out
          clear hK K
          refine wpAnyH_take (i := 6) (oi := _) (v := ?_) rfl (by kernel_rfl) (by kernel_rfl) (by kernel_rfl) (fun _ _ _ h => h) (Or.inl ⟨by rfl, ?_⟩) (by assumption) ?_
          rotate_left
          · first | (intro w hSw; (try dsimp only at hSw); go_simp; done) | (intro w hSw; (try dsimp only at hSw); go_simp; with_reducible rfl)
          try simp only [Act.put, List.setIfInBounds_toArray, List.set_cons_zero, List.set_cons_succ, List.getElem_toArray, List.getElem_cons_succ, List.getElem_cons_zero]
          refine wpAnyH_take (i := 7) (oi := _) (v := ?_) rfl (by kernel_rfl) (by kernel_rfl) (by kernel_rfl) (fun _ _ _ h => h) (Or.inl ⟨by rfl, ?_⟩) (by assumption) ?_
          rotate_left
          · first | (intro w hSw; (try dsimp only at hSw); go_simp; done) | (intro w hSw; (try dsimp only at hSw); go_simp; with_reducible rfl)
          try simp only [Act.put, List.setIfInBounds_toArray, List.set_cons_zero, List.set_cons_succ, List.getElem_toArray, List.getElem_cons_succ, List.getElem_cons_zero]
          refine wpAnyH_ready (rs := [9]) (by kernel_rfl) (by simp) ?_
          refine AllReadyH.cons rfl (fun K hK => ?_) AllReadyH.nil
          go_simp
          go_wp2_with (go_at_call 77; refine (E2.out _).mono ?_; rintro e w11 ⟨rfl, b1⟩)
          have F3 : Hid (Below w9.heap.size w9 w11) := bT F2.out b1
          clear b1
          refine hK.out _ _ ?_ (fun hHeld => ?_)
          · exact KB.out _ F3.out
          clear hK K
          refine wpAnyH_take (i := 10) (oi := _) (v := ?_) rfl (by kernel_rfl) (by kernel_rfl) (by kernel_rfl) (fun _ _ _ h => h) (Or.inl ⟨by rfl, ?_⟩) (by assumption) ?_
          rotate_left
          · first | (intro w hSw; (try dsimp only at hSw); go_simp; done) | (intro w hSw; (try dsimp only at hSw); go_simp; with_reducible rfl)
          try simp only [Act.put, List.setIfInBounds_toArray, List.set_cons_zero, List.set_cons_succ, List.getElem_toArray, List.getElem_cons_succ, List.getElem_cons_zero]
          refine wpAnyH_take (i := 11) (oi := _) (v := ?_) rfl (by kernel_rfl) (by kernel_rfl) (by kernel_rfl) (fun _ _ _ h => h) (Or.inl ⟨by rfl, ?_⟩) (by assumption) ?_
          rotate_left
          · first | (intro w hSw; (try dsimp only at hSw); go_simp; done) | (intro w hSw; (try dsimp only at hSw); go_simp; with_reducible rfl)
          try simp only [Act.put, List.setIfInBounds_toArray, List.set_cons_zero, List.set_cons_succ, List.getElem_toArray, List.getElem_cons_succ, List.getElem_cons_zero]
          refine wpAnyH_take (i := 12) (oi := _) (v := ?_) rfl (by kernel_rfl) (by kernel_rfl) (by kernel_rfl) (fun _ _ _ h => h) (Or.inl ⟨by rfl, ?_⟩) (by assumption) ?_
          rotate_left
          · first | (intro w hSw; (try dsimp only at hSw); go_simp; done) | (intro w hSw; (try dsimp only at hSw); go_simp; with_reducible rfl)
          try simp only [Act.put, List.setIfInBounds_toArray, List.set_cons_zero, List.set_cons_succ, List.getElem_toArray, List.getElem_cons_succ, List.getElem_cons_zero]
          refine wpAnyH_take (i := 13) (oi := _) (v := ?_) rfl (by kernel_rfl) (by kernel_rfl) (by kernel_rfl) (fun _ _ _ h => h) (Or.inl ⟨by rfl, ?_⟩) (by assumption) ?_
          rotate_left
          · first | (intro w hSw; (try dsimp only at hSw); go_simp; done) | (intro w hSw; (try dsimp only at hSw); go_simp; with_reducible rfl)
          try simp only [Act.put, List.setIfInBounds_toArray, List.set_cons_zero, List.set_cons_succ, List.getElem_toArray, List.getElem_cons_succ, List.getElem_cons_zero]
          refine wpAnyH_take (i := 14) (oi := _) (v := ?_) rfl (by kernel_rfl) (by kernel_rfl) (by kernel_rfl) (fun _ _ _ h => h) (Or.inl ⟨by rfl, ?_⟩) (by assumption) ?_
          rotate_left
          · first | (intro w hSw; (try dsimp only at hSw); go_simp; done) | (intro w hSw; (try dsimp only at hSw); go_simp; with_reducible rfl)
          try simp only [Act.put, List.setIfInBounds_toArray, List.set_cons_zero, List.set_cons_succ, List.getElem_toArray, List.getElem_cons_succ, List.getElem_cons_zero]
          refine wpAnyH_take (i := 15) (oi := _) (v := ?_) rfl (by kernel_rfl) (by kernel_rfl) (by kernel_rfl) (fun _ _ _ h => h) (Or.inl ⟨by rfl, ?_⟩) (by assumption) ?_
          rotate_left
          · first | (intro w hSw; (try dsimp only at hSw); go_simp; done) | (intro w hSw; (try dsimp only at hSw); go_simp; with_reducible rfl)
          try simp only [Act.put, List.setIfInBounds_toArray, List.set_cons_zero, List.set_cons_succ, List.getElem_toArray, List.getElem_cons_succ, List.getElem_cons_zero]
          refine wpAnyH_take (i := 16) (oi := _) (v := ?_) rfl (by kernel_rfl) (by kernel_rfl) (by kernel_rfl) (fun _ _ _ h => h) (Or.inl ⟨by rfl, ?_⟩) (by assumption) ?_
          rotate_left
          · first | (intro w hSw; (try dsimp only at hSw); go_simp; done) | (intro w hSw; (try dsimp only at hSw); go_simp; with_reducible rfl)
          try simp only [Act.put, List.setIfInBounds_toArray, List.set_cons_zero, List.set_cons_succ, List.getElem_toArray, List.getElem_cons_succ, List.getElem_cons_zero]
          refine wpAnyH_take (i := 17) (oi := _) (v := ?_) rfl (by kernel_rfl) (by kernel_rfl) (by kernel_rfl) (fun _ _ _ h => h) (Or.inl ⟨by rfl, ?_⟩) (by assumption) ?_
          rotate_left
          · first | (intro w hSw; (try dsimp only at hSw); go_simp; done) | (intro w hSw; (try dsimp only at hSw); go_simp; with_reducible rfl)
          try simp only [Act.put, List.setIfInBounds_toArray, List.set_cons_zero, List.set_cons_succ, List.getElem_toArray, List.getElem_cons_succ, List.getElem_cons_zero]
          refine wpAnyH_take (i := 18) (oi := _) (v := ?_) rfl (by kernel_rfl) (by kernel_rfl) (by kernel_rfl) (fun _ _ _ h => h) (Or.inl ⟨by rfl, ?_⟩) (by assumption) ?_
          rotate_left
          · first | (intro w hSw; (try dsimp only at hSw); go_simp; done) | (intro w hSw; (try dsimp only at hSw); go_simp; with_reducible rfl)
          try simp only [Act.put, List.setIfInBounds_toArray, List.set_cons_zero, List.set_cons_succ, List.getElem_toArray, List.getElem_cons_succ, List.getElem_cons_zero]
          refine wpAnyH_take (i := 19) (oi := _) (v := ?_) rfl (by kernel_rfl) (by kernel_rfl) (by kernel_rfl) (fun _ _ _ h => h) (Or.inl ⟨by rfl, ?_⟩) (by assumption) ?_
          rotate_left
          · first | (intro w hSw; (try dsimp only at hSw); go_simp; done) | (intro w hSw; (try dsimp only at hSw); go_simp; with_reducible rfl)
          try simp only [Act.put, List.setIfInBounds_toArray, List.set_cons_zero, List.set_cons_succ, List.getElem_toArray, List.getElem_cons_succ, List.getElem_cons_zero]
          refine wpAnyH_take (i := 20) (oi := _) (v := ?_) rfl (by kernel_rfl) (by kernel_rfl) (by kernel_rfl) (fun _ _ _ h => h) (Or.inl ⟨by rfl, ?_⟩) (by assumption) ?_
          rotate_left
          · first | (intro w hSw; (try dsimp only at hSw); go_simp; done) | (intro w hSw; (try dsimp only at hSw); go_simp; with_reducible rfl)
          try simp only [Act.put, List.setIfInBounds_toArray, List.set_cons_zero, List.set_cons_succ, List.getElem_toArray, List.getElem_cons_succ, List.getElem_cons_zero]
          refine wpAnyH_take (i := 21) (oi := _) (v := ?_) rfl (by kernel_rfl) (by kernel_rfl) (by kernel_rfl) (fun _ _ _ h => h) (Or.inl ⟨by rfl, ?_⟩) (by assumption) ?_
          rotate_left
          · first | (intro w hSw; (try dsimp only at hSw); go_simp; done) | (intro w hSw; (try dsimp only at hSw); go_simp; with_reducible rfl)
          try simp only [Act.put, List.setIfInBounds_toArray, List.set_cons_zero, List.set_cons_succ, List.getElem_toArray, List.getElem_cons_succ, List.getElem_cons_zero]
          refine wpAnyH_take (i := 22) (oi := _) (v := ?_) rfl (by kernel_rfl) (by kernel_rfl) (by kernel_rfl) (fun _ _ _ h => h) (Or.inl ⟨by rfl, ?_⟩) (by assumption) ?_
          rotate_left
          · first | (intro w hSw; (try dsimp only at hSw); go_simp; done) | (intro w hSw; (try dsimp only at hSw); go_simp; with_reducible rfl)
          try simp only [Act.put, List.setIfInBounds_toArray, List.set_cons_zero, List.set_cons_succ, List.getElem_toArray, List.getElem_cons_succ, List.getElem_cons_zero]
          refine wpAnyH_take (i := 23) (oi := _) (v := ?_) rfl (by kernel_rfl) (by kernel_rfl) (by kernel_rfl) (fun _ _ _ h => h) (Or.inl ⟨by rfl, ?_⟩) (by assumption) ?_
          rotate_left
          · first | (intro w hSw; (try dsimp only at hSw); go_simp; done) | (intro w hSw; (try dsimp only at hSw); go_simp; with_reducible rfl)
          try simp only [Act.put, List.setIfInBounds_toArray, List.set_cons_zero, List.set_cons_succ, List.getElem_toArray, List.getElem_cons_succ, List.getElem_cons_zero]
          refine wpAnyH_take (i := 24) (oi := _) (v := ?_) rfl (by kernel_rfl) (by kernel_rfl) (by kernel_rfl) (fun _ _ _ h => h) (Or.inl ⟨by rfl, ?_⟩) (by assumption) ?_
          rotate_left
          · first | (intro w hSw; (try dsimp only at hSw); go_simp; done) | (intro w hSw; (try dsimp only at hSw); go_simp; with_reducible rfl)
          try simp only [Act.put, List.setIfInBounds_toArray, List.set_cons_zero, List.set_cons_succ, List.getElem_toArray, List.getElem_cons_succ, List.getElem_cons_zero]
          refine wpAnyH_take (i := 25) (oi := _) (v := ?_) rfl (by kernel_rfl) (by kernel_rfl) (by kernel_rfl) (fun _ _ _ h => h) (Or.inl ⟨by rfl, ?_⟩) (by assumption) ?_
          rotate_left
          · first | (intro w hSw; (try dsimp only at hSw); go_simp; done) | (intro w hSw; (try dsimp only at hSw); go_simp; with_reducible rfl)
          try simp only [Act.put, List.setIfInBounds_toArray, List.set_cons_zero, List.set_cons_succ, List.getElem_toArray, List.getElem_cons_succ, List.getElem_cons_zero]
          refine wpAnyH_take (i := 26) (oi := _) (v := ?_) rfl (by kernel_rfl) (by kernel_rfl) (by kernel_rfl) (fun _ _ _ h => h) (Or.inl ⟨by rfl, ?_⟩) (by assumption) ?_
          rotate_left
          · first | (intro w hSw; (try dsimp only at hSw); go_simp; done) | (intro w hSw; (try dsimp only at hSw); go_simp; with_reducible rfl)
          try simp only [Act.put, List.setIfInBounds_toArray, List.set_cons_zero, List.set_cons_succ, List.getElem_toArray, List.getElem_cons_succ, List.getElem_cons_zero]
          refine wpAnyH_take (i := 27) (oi := _) (v := ?_) rfl (by kernel_rfl) (by kernel_rfl) (by kernel_rfl) (fun _ _ _ h => h) (Or.inl ⟨by rfl, ?_⟩) (by assumption) ?_
          rotate_left
          · first | (intro w hSw; (try dsimp only at hSw); go_simp; done) | (intro w hSw; (try dsimp only at hSw); go_simp; with_reducible rfl)
          try simp only [Act.put, List.setIfInBounds_toArray, List.set_cons_zero, List.set_cons_succ, List.getElem_toArray, List.getElem_cons_succ, List.getElem_cons_zero]
          refine wpAnyH_take (i := 28) (oi := _) (v := ?_) rfl (by kernel_rfl) (by kernel_rfl) (by kernel_rfl) (fun _ _ _ h => h) (Or.inl ⟨by rfl, ?_⟩) (by assumption) ?_
          rotate_left
          · first | (intro w hSw; (try dsimp only at hSw); go_simp; done) | (intro w hSw; (try dsimp only at hSw); go_simp; with_reducible rfl)
          try simp only [Act.put, List.setIfInBounds_toArray, List.set_cons_zero, List.set_cons_succ, List.getElem_toArray, List.getElem_cons_succ, List.getElem_cons_zero]
          refine wpAnyH_take (i := 29) (oi := _) (v := ?_) rfl (by kernel_rfl) (by kernel_rfl) (by kernel_rfl) (fun _ _ _ h => h) (Or.inl ⟨by rfl, ?_⟩) (by assumption) ?_
          rotate_left
          · first | (intro w hSw; (try dsimp only at hSw); go_simp; done) | (intro w hSw; (try dsimp only at hSw); go_simp; with_reducible rfl)
          try simp only [Act.put, List.setIfInBounds_toArray, List.set_cons_zero, List.set_cons_succ, List.getElem_toArray, List.getElem_cons_succ, List.getElem_cons_zero]
          refine wpAnyH_done (by kernel_rfl) ?_ _
          have Z11 := (F3.out.block w.heap.size hz9).trans Z9.out
          have C11 := (F3.out.block w5.heap.size hc9).trans C9.out
          have N11 := (F3.out.block wr.heap.size hn9).trans N9.out
          obtain ⟨z0, z1, z2, z3, zf, zlt⟩ := cells4 Z11
          obtain ⟨n0, n1, n2, n3, nf, nlt⟩ := cells4 N11
          have B11 := Lib.hid (bT B9w.out F3.out)
          clear KB E1 E2 hHeld
          try clear hF0
          try clear hF1
          try clear hF2
          try clear hF3
          have C11h := Lib.hid C11
          have O11 := Lib.hid (O9.out.below F3.out)
          have B511 := Lib.hid (B59.out.trans (F3.out.mono (by omega)))
          go_wp2
          go_roundw
          case rel => exact ⟨1, vv, mm, sl, cap, [], rfl, by go_num, HM1.out, ⟨by omega, by omega⟩, by simp, .inr ⟨rfl, HHd.out, HYS.out⟩, B511.out, C11h.out, O11.out⟩
          case measure => simp [intOf]; omega
      · have hk1 : ((k : Int) == 0) = false := by rw [beq_eq_false_iff_ne]; omega
        have H5 : Hid (n + 1 = k ∧ HdR vr many ∧ (vr, specC vr many.toNat n (bareC cs) (L.drop k)) = RS) := by
          rcases H4.out with ⟨h, -⟩ | h
          · exact absurd h hk00
          · exact h
        have SM := Lib.hid (specC_more vr many.toNat n k (bareC cs) L l hl (by rw [HM.out]; omega))
        clear H4
        have LT0 : Calls Tryd.prog 54 #[.string ⟨l.toArray⟩] X fun e w' => ∃ v, e = .returned (.tuple #[v, .bool (litK l)]) ∧ w'.ownsRow X.heap.size 2 1 v (litV l).length (valsZ (litV l)) ∧ Below X.heap.size X w' := by
          have := lit_any ⟨l.toArray⟩ X (by show l.toArray.size ≤ _; simp; omega)
          simpa using this
        have LT := Lib.hid LT0
        clear LT0
        go_wp2_with fail
        refine LT.out.mono ?_
        rintro e w6 ⟨v6, rfl, own6, b6⟩
        have B6 := Lib.hid b6
        clear z0 z1 z2 z3 zf zlt c0 c1 cf clt n0 n1 n2 n3 nf nlt hcx LT b6
        cases hlk : litK l
        · rw [hlk, Bool.false_and, Bool.false_and] at SM
          have Z9 := (B6.out.block w.heap.size (by omega)).trans ZX.out
          have N9 := (B6.out.block wr.heap.size (by omega)).trans NX.out
          obtain ⟨z0, z1, z2, z3, zf, zlt⟩ := cells4 Z9
          obtain ⟨n0, n1, n2, n3, nf, nlt⟩ := cells4 N9
          have hP := put4 Z9 (.int .i64 0) (.slice none 0 0) (.int .i64 (k : Int)) (.int .i64 3)
          obtain ⟨q0, q1, q2, q3, -, -⟩ := cells4 hP
          have B9 := Lib.hid (below_put4 (bT BX.out B6.out) (Nat.le_refl w.heap.size) (.int .i64 0) (.slice none 0 0) (.int .i64 (k : Int)) (.int .i64 3))
          clear hP Z9 N9
          go_wp2
          exact bodyPost_ret (v := .agg #[.int .i64 0, .slice none 0 0, .int .i64 (k : Int), .int .i64 3]) (by simp [results, Tryd.results32, go_sem, q0, q1, q2, q3]) rfl (PN.out _ k vr B9.out (by rw [← H5.out.2.2, SM.out, if_neg (by simp), H5.out.1]))
        · rw [hlk, Bool.true_and] at SM
          have hln : (litV l).length ≤ 1048576 := by have := lit_len hlk; omega
          have LE : Hid (∀ sl6 cap6, Ints w6 sl6 (litV l) → Calls Tryd.prog 80 #[.int .i64 vr, .slice sl6 (litV l).length cap6, .int .i64 16] w6 fun e w' => e = .returned (.bool (B (ClR vr (litV l)))) ∧ Below w6.heap.size w6 w') := fun sl6 cap6 hI => 
            l06_any vr sl6 cap6 (litV l) w6 H5.out.2.1.1.1 H5.out.2.1.1.2 hln (fun z hz => wfI_big (lit_big hlk z hz)) hI
          obtain ⟨sl6, cap6, rfl, hI6⟩ := own_ints own6
          have LE6 := Lib.hid (LE.out sl6 cap6 hI6)
          have O6 := Lib.hid own6
          have hw6 : X.heap.size ≤ w6.heap.size := B6.out.size
          have C6 := (B6.out.block w5.heap.size (by omega)).trans CX.out
          obtain ⟨c0, c1, cf, clt⟩ := cells2 C6
          have C6h := Lib.hid C6
          clear own6 hI6 LE C6
          generalize hV : litV l = V at *
          generalize hd : V.length = d at *
          have HD := Lib.hid hd
          clear hd hV
          go_wp2_with fail
          refine LE6.out.mono ?_
          rintro e w7 ⟨rfl, b7⟩
          have B7 := Lib.hid (bT B6.out b7)
          have b7h := Lib.hid b7
          have hw7 : w6.heap.size ≤ w7.heap.size := b7.size
          clear b7 LE6 c0 c1 cf clt
          cases hlb : B (ClR vr V)
          · rw [hlb, Bool.false_and] at SM
            have Z9 := (B7.out.block w.heap.size (by omega)).trans ZX.out
            have N9 := (B7.out.block wr.heap.size (by omega)).trans NX.out
            obtain ⟨z0, z1, z2, z3, zf, zlt⟩ := cells4 Z9
            obtain ⟨n0, n1, n2, n3, nf, nlt⟩ := cells4 N9
            have hP := put4 Z9 (.int .i64 0) (.slice none 0 0) (.int .i64 (k : Int)) (.int .i64 3)
            obtain ⟨q0, q1, q2, q3, -, -⟩ := cells4 hP
            have B9 := Lib.hid (below_put4 (bT BX.out B7.out) (Nat.le_refl w.heap.size) (.int .i64 0) (.slice none 0 0) (.int .i64 (k : Int)) (.int .i64 3))
            clear hP Z9 N9
            go_wp2
            exact bodyPost_ret (v := .agg #[.int .i64 0, .slice none 0 0, .int .i64 (k : Int), .int .i64 3]) (by simp [results, Tryd.results32, go_sem, q0, q1, q2, q3]) rfl (PN.out _ k vr B9.out (by rw [← H5.out.2.2, SM.out, if_neg (by simp), H5.out.1]))
          · rw [hlb, Bool.true_and] at SM
            have C7 := (B7.out.block w5.heap.size (by omega)).trans CX.out
            by_cases h4 : n < many.toNat
            · have h4' : ¬ many ≤ (n : Int) := by omega
              have h4'' : (n : Int) < many := by omega
              have E9 : Hid ((vr, specC vr many.toNat (n + 1) (bareC cs ++ [V]) (L.drop (k + 1))) = RS) := by
                have := SM.out
                rw [if_pos (by simp [h4])] at this
                have h := H5.out.2.2
                rw [this] at h
                exact h
              obtain ⟨c0, c1, cf, clt⟩ := cells2 C7
              have O7 := Lib.hid (OX.out.below B7.out)
              have hown : Hid (w7.ownsRow (w5.heap.size + 1) 68 1 (.slice sl n cap) n (hdC cs)) := by
                have := O7.out.row
                rwa [HCN.out] at this
              have hf9 : Hid (∀ j, Value.ownBlock (.slice sl6 d cap6) = some j → ∀ t ∈ cs, t.1.ownBlock ≠ some j) := fun j hj t ht e => by
                have a1 := (O6.out.lt j hj).1
                have a2 := ((OX.out.each t ht).lt j e).2
                omega
              have H27 := Lib.hid C7
              have hnn : n ≤ 4000 := by omega
              clear C7
              go_wp2_with (first | (at_builtin; refine wpList_append_lies _ rfl (.tmp 130) (.tmp 132) 23 rfl (w5.heap.size + 1) 68 i40 (.slice none 0 0) 1 24 Tryd.underlying23 hi0 hz0 hz1 hz2 rfl (by decide) _ _ _ rfl (own_below hown.out (bA0 _ _)) ⟨w7.heap.size, 0, none⟩ 1 1 [.slice sl6 d cap6] rfl rfl (cell_one_new _ _ _) (by intro u hu; simp at hu; rcases hu with rfl; rfl) (by decide) (by unfold maxLen; omega) (by omega) (by simp; omega) (w7.heap.size + 1) (by simp) ?_))
              intro g9 cap9 w9 own9 grow9 hg9 hlt9
              have hbr : ∀ j, Value.ownBlock (.slice sl n cap) = some j → w5.heap.size + 1 ≤ j := fun j hj => (hown.out.lt j hj).1
              have C9 : Hid (OwC w9 (w5.heap.size + 1) (.slice (some ⟨g9, 0, none⟩) (n + 1) cap9) (cs ++ [(.slice sl6 d cap6, V)])) := by
                refine O7.out.add (bA0 w7 (.cells #[.slice sl6 d cap6] 68)) ?_ hf9.out grow9 (by rw [HCN.out]; exact own9)
                have := own_below (own_below (own_mono O6.out (show w5.heap.size + 1 ≤ X.heap.size by omega)) b7h.out) (bA0 w7 (.cells #[.slice sl6 d cap6] 68))
                show World.ownsRow _ _ _ _ _ V.length _
                rw [HD.out]; exact this
              have H29 := (grow9.block w5.heap.size (by simp; omega) (fun e => by have := hbr _ e.symm; omega)).trans (((bA0 w7 (.cells #[.slice sl6 d cap6] 68)).block w5.heap.size (by omega)).trans H27.out)
              obtain ⟨e0, e1, ef, elt⟩ := cells2 H29
              have H28 := Lib.hid (heap_setCell_same w9 w5.heap.size 1 _ 27 (.slice (some ⟨g9, 0, none⟩) (n + 1) cap9) H29)
              have C8 := Lib.hid (C9.out.setLow (b := w5.heap.size) (by omega) 1 (.slice (some ⟨g9, 0, none⟩) (n + 1) cap9))
              have B8 : Hid (Below w5.heap.size (w5.alloc (.cells #[.int .i64 0, .slice none 0 0] 27)) (w9.setCell ⟨w5.heap.size, 1, none⟩ (.slice (some ⟨g9, 0, none⟩) (n + 1) cap9))) :=
                (((BX5.out.trans (B7.out.mono (by omega))).trans ((bA0 w7 (.cells #[.slice sl6 d cap6] 68)).mono (by omega))).grown grow9 (by simp; omega) (fun j hj => by have := hbr j hj; omega)).setCell (p := ⟨w5.heap.size, 1, none⟩) (Nat.le_refl _) _
              have HL9 : Hid ((cs ++ [((.slice sl6 d cap6 : Value), V)]).length = n + 1) := by show _ = _; rw [List.length_append, HCN.out]; rfl
              have HB9 : Hid (bareC (cs ++ [((.slice sl6 d cap6 : Value), V)]) = bareC cs ++ [V]) := by show _ = _; rw [bareC_add]; rfl
              clear own9 grow9 hg9 hlt9 H29 c0 c1 cf clt
              go_wp2
              go_roundw
              case rel => exact ⟨k + 1, vr, many, some ⟨g9, 0, none⟩, cap9, _, rfl, by go_num, by omega, hmn, by rw [HL9.out]; omega, .inr ⟨by rw [HL9.out, H5.out.1], H5.out.2.1, by rw [HL9.out, HB9.out]; exact E9.out⟩, B8.out, by rw [HL9.out]; exact H28.out, by rw [HL9.out]; exact C8.out⟩
              case measure => simp [intOf]; omega
            · have h4' : many ≤ (n : Int) := by omega
              have Z9 := (B7.out.block w.heap.size (by omega)).trans ZX.out
              have N9 := (B7.out.block wr.heap.size (by omega)).trans NX.out
              obtain ⟨z0, z1, z2, z3, zf, zlt⟩ := cells4 Z9
              obtain ⟨n0, n1, n2, n3, nf, nlt⟩ := cells4 N9
              obtain ⟨c0, c1, cf, clt⟩ := cells2 C7
              have hP := put4 Z9 (.int .i64 0) (.slice none 0 0) (.int .i64 (k : Int)) (.int .i64 3)
              obtain ⟨q0, q1, q2, q3, -, -⟩ := cells4 hP
              have B9 := Lib.hid (below_put4 (bT BX.out B7.out) (Nat.le_refl w.heap.size) (.int .i64 0) (.slice none 0 0) (.int .i64 (k : Int)) (.int .i64 3))
              clear hP Z9 N9 C7
              go_wp2
              exact bodyPost_ret (v := .agg #[.int .i64 0, .slice none 0 0, .int .i64 (k : Int), .int .i64 3]) (by simp [results, Tryd.results32, go_sem, q0, q1, q2, q3]) rfl (PN.out _ k vr B9.out (by rw [← H5.out.2.2, SM.out, if_neg (by simp; omega), H5.out.1]))

end Go.Proofs.YtoncpiaboceefaaDoor
