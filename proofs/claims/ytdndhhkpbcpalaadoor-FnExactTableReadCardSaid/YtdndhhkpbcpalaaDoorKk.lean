/-
  A LINE BEHIND A TABLE, AS THE MODEL READS IT: spec.l04Line.
-/
import Derived.Test.YtdndhhkpbcpalaaDoorKj
import Derived.Test.YtdndhhkpbcpalaaDoorFb
import Derived.Test.YtdndhhkpbcpalaaDoorFc
import Derived.Test.YtdndhhkpbcpalaaDoorDa
import Derived.Test.YtdndhhkpbcpalaaDoorAg
namespace Go.Proofs.YtdndhhkpbcpalaaDoor
open Go.RowKit
set_option linter.unusedVariables false
set_option linter.unusedSimpArgs false

theorem own_lit0 (w : World) (e : TypeId) (m : Nat) : (w.alloc (.cells #[] e)).ownsRow w.heap.size e m (.slice (some ⟨w.heap.size, 0, none⟩) 0 0) 0 [] := by
  have hn := new_at w (.cells #[] e)
  exact ⟨by simp, .inr ⟨w.heap.size, 0, #[], rfl, Nat.le_refl _, hn, Nat.le_refl _, Nat.zero_le _, by simp, by simp⟩⟩
theorem infoZ : (Tryd.prog.info? 2).map (fun i => (i.zero, i.size, i.bytes)) = some (some (.int .i64 0), 1, 8) := by kernel_rfl
/-- The model's numbers of a line. -/
def numsM (ps' : List (List UInt8)) : List Int := (ps'.take 19).map numV
theorem take_numV (ps' : List (List UInt8)) (k : Nat) (x : List UInt8) (h : ps'[k]? = some x) : valsZ ((ps'.take (k + 1)).map numV) = valsZ ((ps'.take k).map numV) ++ [.int .i64 (numV x)] := by
  obtain ⟨hk, e⟩ := List.getElem?_eq_some_iff.1 h
  rw [List.take_succ_eq_append_getElem hk, e, List.map_append, List.map_cons, List.map_nil, valsZ_snoc]

set_option maxRecDepth 100000 in
set_option maxHeartbeats 16000000 in
/-- spec.l04Line of a line of no kind. -/
theorem sl_no (C : Nat) (v1 v2 : Value) (rs : List LSt) (ps : List LPr) (s : ByteArray) (w : World) (h : OwT w C v1 v2 rs ps) (hB : C ≤ w.heap.size) (hr : rs.length ≤ 100000) (hp : ps.length ≤ 100000) (hs : s.size ≤ 20000) (hc : ¬ ((splitL 32 s.data.toList).headD [] = staW ∧ 2 ≤ (numsM ((splitL 32 s.data.toList).drop 1)).length ∧ ps = []) ∧ ¬ (((splitL 32 s.data.toList).headD [] = samW ∨ (splitL 32 s.data.toList).headD [] = besW) ∧ (numsM ((splitL 32 s.data.toList).drop 1)).length = 2)) :
    Calls Tryd.prog 10 #[.agg #[v1, v2], .string s] w fun e w' => LinePost C v1 v2 w (lineP (bare rs) ps s.data.toList) e w' := by
  obtain ⟨sl1, cap1, rfl, -⟩ := own_st h
  obtain ⟨sl2, cap2, rfl, -⟩ := own_pr h
  obtain ⟨i0, hi0, hz0, hz1, hz2⟩ := info_parts infoZ
  obtain ⟨wd, ps', hsp⟩ := split_ne 32 s.data.toList
  have HC : Hid (¬ (wd = staW ∧ 2 ≤ (numsM ps').length ∧ ps = []) ∧ ¬ ((wd = samW ∨ wd = besW) ∧ (numsM ps').length = 2)) := by
    rw [hsp] at hc
    exact hc
  clear hc
  have HL : Hid (lineP (bare rs) ps s.data.toList = lineM (bare rs) ps s.data.toList) := (line_same _ _ _).symm
  have hlen : (wd :: ps').length ≤ 20001 := by
    have := (split_len 32 s.data.toList).2
    rw [hsp] at this
    have e : s.data.toList.length = s.size := rfl
    omega
  have hsmall : Hid (∀ x ∈ wd :: ps', x.length ≤ 1000000) := by
    intro x hx
    rw [← hsp] at hx
    have := split_small 32 s.data.toList x hx
    have e : s.data.toList.length = s.size := rfl
    omega
  have hlp : ps'.length ≤ 20000 := by simp at hlen; omega
  have HSP := Lib.hid hsp
  have H := Lib.hid h
  clear h
  have B0 := Lib.hid (bA (bA0 w (.cells #[.slice sl1 rs.length cap1, .slice sl2 ps.length cap2] 25)) (.cells #[.slice none 0 0, .slice none 0 0] 25))
  have N0 := Lib.hid (new_at w (.cells #[.slice sl1 rs.length cap1, .slice sl2 ps.length cap2] 25))
  have M1 : Hid (((w.alloc (.cells #[.slice sl1 rs.length cap1, .slice sl2 ps.length cap2] 25)).alloc (.cells #[.slice none 0 0, .slice none 0 0] 25)).heap[w.heap.size + 1]? = some (.cells #[.slice none 0 0, .slice none 0 0] 25)) := by
    have := new_at (w.alloc (.cells #[.slice sl1 rs.length cap1, .slice sl2 ps.length cap2] 25)) (.cells #[.slice none 0 0, .slice none 0 0] 25)
    have hs1 : (w.alloc (.cells #[.slice sl1 rs.length cap1, .slice sl2 ps.length cap2] 25)).heap.size = w.heap.size + 1 := by simp
    rw [hs1] at this
    exact this
  have M0 : Hid (((w.alloc (.cells #[.slice sl1 rs.length cap1, .slice sl2 ps.length cap2] 25)).alloc (.cells #[.slice none 0 0, .slice none 0 0] 25)).heap[w.heap.size]? = some (.cells #[.slice sl1 rs.length cap1, .slice sl2 ps.length cap2] 25)) := ((bA0 (w.alloc (.cells #[.slice sl1 rs.length cap1, .slice sl2 ps.length cap2] 25)) (.cells #[.slice none 0 0, .slice none 0 0] 25)).block w.heap.size (by simp)).trans N0.out
  have hsz : ((w.alloc (.cells #[.slice sl1 rs.length cap1, .slice sl2 ps.length cap2] 25)).alloc (.cells #[.slice none 0 0, .slice none 0 0] 25)).heap.size = w.heap.size + 1 + 1 := by simp
  have BW := Lib.hid (spl_any s 32 ((w.alloc (.cells #[.slice sl1 rs.length cap1, .slice sl2 ps.length cap2] 25)).alloc (.cells #[.slice none 0 0, .slice none 0 0] 25)) (by omega))
  rw [hsp] at BW
  go_enter Tryd.func10, Tryd.ntmps10
  go_wp2_with fail
  refine BW.out.mono ?_
  rintro e w1 ⟨v6, rfl, ow6, b1⟩
  obtain ⟨g, cap, rfl, hcap, gl, gc⟩ : ∃ g cap, v6 = .slice (some ⟨g, 0, none⟩) (ps'.length + 1) cap ∧ ps'.length + 1 ≤ cap ∧ g < w1.heap.size ∧ ∀ i x, (wd :: ps')[i]? = some x → w1.cell? ⟨g, i, none⟩ = some (strV x) := by
    rcases ow6.2 with ⟨_, h0⟩ | ⟨g, cap, cur, e, _, hgb, hl, _⟩
    · simp at h0
    · subst e
      refine ⟨g, cap, rfl, by simpa using hl, (Array.getElem?_eq_some_iff.1 hgb).1, fun i x hx => ?_⟩
      have hi := (List.getElem?_eq_some_iff.1 hx).1
      rw [ow6.cellAt i (by omega)]
      unfold strs
      rw [List.getElem?_map, hx]
      rfl
  have B1 := Lib.hid (bT B0.out b1)
  have M01 := Lib.hid ((b1.block w.heap.size (by omega)).trans M0.out)
  have M11 := Lib.hid ((b1.block (w.heap.size + 1) (by omega)).trans M1.out)
  have H1 := Lib.hid ((H.out.below B0.out).below b1)
  have HS := b1.size
  rw [hsz] at HS
  have GC := Lib.hid gc
  clear ow6 b1 BW gc N0 M0 M1 hsz hsp B0 hlen
  have HS' : w.heap.size + 1 < w1.heap.size := by omega
  have HS0 : w.heap.size < w1.heap.size := by omega
  clear HS
  generalize hW0 : (w.alloc (.cells #[.slice sl1 rs.length cap1, .slice sl2 ps.length cap2] 25)).alloc (.cells #[.slice none 0 0, .slice none 0 0] 25) = w0 at *
  clear hW0
  have O2 := Lib.hid (own_lit0 w1 2 1)
  have B2 := Lib.hid (bA0 w1 (.cells #[] 2))
  go_wp2_with fail
  rename_i KT hKT
  have TAIL : ∀ (z : List Int) (nv : Value) (wr : World) (x8 : Int) (u9 u10 u17 u18 u19 u20 u21 u22 u23 u24 u25 u26 u27 u28 u29 u30 u31 u32 u33 u34 u35 u36 u37 u38 : Value), z = numsM ps' → wr.ownsRow w1.heap.size 2 1 nv z.length (valsZ z) → Below w1.heap.size w1 wr → KT { tmps := #[.agg #[.slice sl1 rs.length cap1, .slice sl2 ps.length cap2], .string s, .pointer (some ⟨w.heap.size, 0, none⟩), undef, .pointer (some ⟨w.heap.size + 1, 0, none⟩), .bool false, .slice (some ⟨g, 0, none⟩) (ps'.length + 1) cap, nv, .int .i64 x8, u9, u10, undef, undef, undef, .string s, .slice (some ⟨g, 0, none⟩) (ps'.length + 1) cap, .slice (some ⟨w1.heap.size, 0, none⟩) 0 0, u17, u18, u19, u20, u21, u22, u23, u24, u25, u26, u27, u28, u29, u30, u31, u32, u33, u34, u35, u36, u37, u38, undef, undef, undef, undef, undef, undef, undef, undef, undef, undef, undef, undef, undef, undef, undef, undef, undef, undef, undef, undef, undef, undef, undef, undef, undef, undef, undef, undef, undef, undef, undef, undef, undef, undef, undef, undef, undef, undef, undef, undef, undef, undef, undef, undef, undef, undef, undef, undef, undef, undef, undef, undef, undef, undef, undef, undef, undef, undef, undef, undef, undef, undef, undef, undef, undef, undef, undef, undef, undef, undef, undef, undef, undef, undef, undef, undef, undef, undef, undef, undef, undef, undef, undef, undef, undef, undef, undef], defers := [] } wr := by
    intro z nv wr x8 u9 u10 u17 u18 u19 u20 u21 u22 u23 u24 u25 u26 u27 u28 u29 u30 u31 u32 u33 u34 u35 u36 u37 u38 hz ho hb
    refine hKT _ _ ?_
    clear hKT
    obtain ⟨sl7, m7, c7, rfl⟩ := IsSl.own ho
    have hm7 : m7 = z.length := by
      rcases ho.2 with ⟨e, h0⟩ | ⟨g', cap', cur, e, _⟩
      · injection e with _ e2; omega
      · injection e with _ e2
    subst hm7
    have HM : Hid (lineP (bare rs) ps s.data.toList = if wd = staW ∧ 2 ≤ z.length ∧ ps = [] then
        (if B (staW ++ numsT z = s.data.toList ∧ TabB (bare rs ++ [(z.getD 0 0, z.getD 1 0, z.drop 2)]) ps) = true then some (bare rs ++ [(z.getD 0 0, z.getD 1 0, z.drop 2)], ps) else none)
      else if (wd = samW ∨ wd = besW) ∧ z.length = 2 then
        (if B (wd ++ numsT z = s.data.toList ∧ TabB (bare rs) (ps ++ [(z.getD 0 0, z.getD 1 0, kindW wd)])) = true then some (bare rs, ps ++ [(z.getD 0 0, z.getD 1 0, kindW wd)]) else none)
      else none) := by
      show _ = _
      rw [HL.out, hz]
      unfold lineM numsM
      rw [HSP.out]
      rfl
    rw [← hz] at HC
    have hzl : z.length ≤ 19 := by rw [hz]; simp [numsM]; omega
    have hzb : Hid (∀ a ∈ z, -1000000000000000 ≤ a ∧ a ≤ 1000000000000000) := fun a ha => by
      rw [hz] at ha
      obtain ⟨x, _, rfl⟩ := List.mem_map.1 ha
      have := numV_bd x
      omega
    have BN := Lib.hid (bT B1.out hb)
    have M0r := Lib.hid ((hb.block w.heap.size (by omega)).trans M01.out)
    have M1r := Lib.hid ((hb.block (w.heap.size + 1) (by omega)).trans M11.out)
    have OT := Lib.hid (H1.out.below hb)
    have c0 := cellsAt M0r.out
    have c1 := cellsAt M1r.out
    have q0 := (hb.cell gl).trans (GC.out 0 wd rfl)
    unfold strV at q0
    have HO := Lib.hid ho
    have M1a := Lib.hid (((bA0 wr (.cells #[.slice sl1 rs.length cap1, .slice sl2 ps.length cap2] 25)).block (w.heap.size + 1) (Array.getElem?_eq_some_iff.1 M1r.out).1).trans M1r.out)
    have M0a := Lib.hid (((bA0 wr (.cells #[.slice sl1 rs.length cap1, .slice sl2 ps.length cap2] 25)).block w.heap.size (Array.getElem?_eq_some_iff.1 M0r.out).1).trans M0r.out)
    have c0a := cellsAt M0a.out
    have c1a := cellsAt M1a.out
    have hg := Nat.lt_of_lt_of_le gl hb.size
    have q0a := ((bA0 wr (.cells #[.slice sl1 rs.length cap1, .slice sl2 ps.length cap2] 25)).cell hg).trans q0
    have hsr : w.heap.size + 1 < wr.heap.size := (Array.getElem?_eq_some_iff.1 M1r.out).1
    clear ho hb hz GC gl O2 B2 M01 M11 H1 HSP hsmall hlp HS' HS0
    by_cases hA : wd = staW
    · subst hA
      have q0' : wr.cell? ⟨g, 0, none⟩ = some (.string ⟨#[115, 116, 97, 116, 105, 111, 110]⟩) := q0
      have q0b : (wr.alloc (.cells #[.slice sl1 rs.length cap1, .slice sl2 ps.length cap2] 25)).cell? ⟨g, 0, none⟩ = some (.string ⟨#[115, 116, 97, 116, 105, 111, 110]⟩) := q0a
      clear q0 q0a
      by_cases hz2 : 2 ≤ z.length
      · by_cases hps : ps = []
        · exact absurd ⟨rfl, hz2, hps⟩ HC.out.1
        · have HNo := Lib.hid (HM.out.trans (by rw [if_neg (fun hh => hps hh.2.2), if_neg (by rintro ⟨h1 | h1, -⟩; exact absurd h1 (by decide); exact absurd h1 (by decide))]))
          have hpl : ¬ (ps.length : Int) = 0 := by intro e; exact hps (List.eq_nil_of_length_eq_zero (by omega))
          have hpl1 : ((ps.length : Int) == 0) = false := by rw [beq_eq_false_iff_ne]; exact hpl
          have hpl2 : ((ps.length : Int) = 0) = False := eq_false hpl
          have hz2' : (2 : Int) ≤ (z.length : Int) := by omega
          go_wp2_with fail
          have M5 := heap_setCell_same wr (w.heap.size + 1) 0 _ 25 (.slice sl1 rs.length cap1) M1r.out
          have M6 := heap_setCell_same _ (w.heap.size + 1) 1 _ 25 (.slice sl2 ps.length cap2) M5
          have B6 := Lib.hid (bA ((BN.out.setCell (p := ⟨w.heap.size + 1, 0, none⟩) (by show w.heap.size ≤ w.heap.size + 1; omega) (.slice sl1 rs.length cap1)).setCell (p := ⟨w.heap.size + 1, 1, none⟩) (by show w.heap.size ≤ w.heap.size + 1; omega) (.slice sl2 ps.length cap2)) (.cells #[.slice sl1 rs.length cap1, .slice sl2 ps.length cap2] 25))
          have M7 := ((bA0 ((wr.setCell ⟨w.heap.size + 1, 0, none⟩ (.slice sl1 rs.length cap1)).setCell ⟨w.heap.size + 1, 1, none⟩ (.slice sl2 ps.length cap2)) (.cells #[.slice sl1 rs.length cap1, .slice sl2 ps.length cap2] 25)).block (w.heap.size + 1) (Array.getElem?_eq_some_iff.1 M6).1).trans M6
          generalize ((wr.setCell ⟨w.heap.size + 1, 0, none⟩ (.slice sl1 rs.length cap1)).setCell ⟨w.heap.size + 1, 1, none⟩ (.slice sl2 ps.length cap2)).alloc (.cells #[.slice sl1 rs.length cap1, .slice sl2 ps.length cap2] 25) = w7 at *
          have r0 : w7.cell? ⟨w.heap.size + 1, 0, none⟩ = some (.slice sl1 rs.length cap1) := by rw [(cellsAt M7).1]; rfl
          have r1 : w7.cell? ⟨w.heap.size + 1, 1, none⟩ = some (.slice sl2 ps.length cap2) := by rw [(cellsAt M7).1]; rfl
          exact bodyPost_ret (v := .tuple #[.agg #[.slice sl1 rs.length cap1, .slice sl2 ps.length cap2], .bool false]) (by simp [results, Tryd.results10, go_sem, r0, r1]) rfl (HNo.out ▸ ⟨_, _, false, rfl, ⟨_, _, _, rfl⟩, ⟨_, _, _, rfl⟩, B6.out.mono hB, keep_below B6.out, .inl ⟨rfl, rfl⟩⟩)

      · have HNo := Lib.hid (HM.out.trans (by rw [if_neg (fun hh => hz2 hh.2.1), if_neg (by rintro ⟨h1 | h1, -⟩; exact absurd h1 (by decide); exact absurd h1 (by decide))]))
        have hz2' : ¬ (2 : Int) ≤ (z.length : Int) := by omega
        go_wp2_with fail
        have M5 := heap_setCell_same wr (w.heap.size + 1) 0 _ 25 (.slice sl1 rs.length cap1) M1r.out
        have M6 := heap_setCell_same _ (w.heap.size + 1) 1 _ 25 (.slice sl2 ps.length cap2) M5
        have B6 := Lib.hid (bA ((BN.out.setCell (p := ⟨w.heap.size + 1, 0, none⟩) (by show w.heap.size ≤ w.heap.size + 1; omega) (.slice sl1 rs.length cap1)).setCell (p := ⟨w.heap.size + 1, 1, none⟩) (by show w.heap.size ≤ w.heap.size + 1; omega) (.slice sl2 ps.length cap2)) (.cells #[.slice sl1 rs.length cap1, .slice sl2 ps.length cap2] 25))
        have M7 := ((bA0 ((wr.setCell ⟨w.heap.size + 1, 0, none⟩ (.slice sl1 rs.length cap1)).setCell ⟨w.heap.size + 1, 1, none⟩ (.slice sl2 ps.length cap2)) (.cells #[.slice sl1 rs.length cap1, .slice sl2 ps.length cap2] 25)).block (w.heap.size + 1) (Array.getElem?_eq_some_iff.1 M6).1).trans M6
        generalize ((wr.setCell ⟨w.heap.size + 1, 0, none⟩ (.slice sl1 rs.length cap1)).setCell ⟨w.heap.size + 1, 1, none⟩ (.slice sl2 ps.length cap2)).alloc (.cells #[.slice sl1 rs.length cap1, .slice sl2 ps.length cap2] 25) = w7 at *
        have r0 : w7.cell? ⟨w.heap.size + 1, 0, none⟩ = some (.slice sl1 rs.length cap1) := by rw [(cellsAt M7).1]; rfl
        have r1 : w7.cell? ⟨w.heap.size + 1, 1, none⟩ = some (.slice sl2 ps.length cap2) := by rw [(cellsAt M7).1]; rfl
        exact bodyPost_ret (v := .tuple #[.agg #[.slice sl1 rs.length cap1, .slice sl2 ps.length cap2], .bool false]) (by simp [results, Tryd.results10, go_sem, r0, r1]) rfl (HNo.out ▸ ⟨_, _, false, rfl, ⟨_, _, _, rfl⟩, ⟨_, _, _, rfl⟩, B6.out.mono hB, keep_below B6.out, .inl ⟨rfl, rfl⟩⟩)

    by_cases hS : wd = samW
    · subst hS
      have q0' : wr.cell? ⟨g, 0, none⟩ = some (.string ⟨#[115, 97, 109, 101]⟩) := q0
      have q0b : (wr.alloc (.cells #[.slice sl1 rs.length cap1, .slice sl2 ps.length cap2] 25)).cell? ⟨g, 0, none⟩ = some (.string ⟨#[115, 97, 109, 101]⟩) := q0a
      clear q0 q0a
      by_cases hz2 : z.length = 2
      · exact absurd ⟨.inl rfl, hz2⟩ HC.out.2
      · have HNo := Lib.hid (HM.out.trans (by rw [if_neg (fun hh => hA hh.1), if_neg (fun hh => hz2 hh.2)]))
        have hz2' : ¬ (z.length : Int) = 2 := by omega
        have hz3 : ((z.length : Int) == 2) = false := by rw [beq_eq_false_iff_ne]; exact hz2'
        have hz4 : ((z.length : Int) = 2) = False := eq_false hz2'
        go_wp2_with fail
        have M5 := heap_setCell_same wr (w.heap.size + 1) 0 _ 25 (.slice sl1 rs.length cap1) M1r.out
        have M6 := heap_setCell_same _ (w.heap.size + 1) 1 _ 25 (.slice sl2 ps.length cap2) M5
        have B6 := Lib.hid (bA ((BN.out.setCell (p := ⟨w.heap.size + 1, 0, none⟩) (by show w.heap.size ≤ w.heap.size + 1; omega) (.slice sl1 rs.length cap1)).setCell (p := ⟨w.heap.size + 1, 1, none⟩) (by show w.heap.size ≤ w.heap.size + 1; omega) (.slice sl2 ps.length cap2)) (.cells #[.slice sl1 rs.length cap1, .slice sl2 ps.length cap2] 25))
        have M7 := ((bA0 ((wr.setCell ⟨w.heap.size + 1, 0, none⟩ (.slice sl1 rs.length cap1)).setCell ⟨w.heap.size + 1, 1, none⟩ (.slice sl2 ps.length cap2)) (.cells #[.slice sl1 rs.length cap1, .slice sl2 ps.length cap2] 25)).block (w.heap.size + 1) (Array.getElem?_eq_some_iff.1 M6).1).trans M6
        generalize ((wr.setCell ⟨w.heap.size + 1, 0, none⟩ (.slice sl1 rs.length cap1)).setCell ⟨w.heap.size + 1, 1, none⟩ (.slice sl2 ps.length cap2)).alloc (.cells #[.slice sl1 rs.length cap1, .slice sl2 ps.length cap2] 25) = w7 at *
        have r0 : w7.cell? ⟨w.heap.size + 1, 0, none⟩ = some (.slice sl1 rs.length cap1) := by rw [(cellsAt M7).1]; rfl
        have r1 : w7.cell? ⟨w.heap.size + 1, 1, none⟩ = some (.slice sl2 ps.length cap2) := by rw [(cellsAt M7).1]; rfl
        exact bodyPost_ret (v := .tuple #[.agg #[.slice sl1 rs.length cap1, .slice sl2 ps.length cap2], .bool false]) (by simp [results, Tryd.results10, go_sem, r0, r1]) rfl (HNo.out ▸ ⟨_, _, false, rfl, ⟨_, _, _, rfl⟩, ⟨_, _, _, rfl⟩, B6.out.mono hB, keep_below B6.out, .inl ⟨rfl, rfl⟩⟩)

    by_cases hE : wd = besW
    · subst hE
      have q0' : wr.cell? ⟨g, 0, none⟩ = some (.string ⟨#[98, 101, 115, 105, 100, 101]⟩) := q0
      have q0b : (wr.alloc (.cells #[.slice sl1 rs.length cap1, .slice sl2 ps.length cap2] 25)).cell? ⟨g, 0, none⟩ = some (.string ⟨#[98, 101, 115, 105, 100, 101]⟩) := q0a
      clear q0 q0a
      by_cases hz2 : z.length = 2
      · exact absurd ⟨.inr rfl, hz2⟩ HC.out.2
      · have HNo := Lib.hid (HM.out.trans (by rw [if_neg (fun hh => hA hh.1), if_neg (fun hh => hz2 hh.2)]))
        have hz2' : ¬ (z.length : Int) = 2 := by omega
        have hz3 : ((z.length : Int) == 2) = false := by rw [beq_eq_false_iff_ne]; exact hz2'
        have hz4 : ((z.length : Int) = 2) = False := eq_false hz2'
        go_wp2_with fail
        have M5 := heap_setCell_same wr (w.heap.size + 1) 0 _ 25 (.slice sl1 rs.length cap1) M1r.out
        have M6 := heap_setCell_same _ (w.heap.size + 1) 1 _ 25 (.slice sl2 ps.length cap2) M5
        have B6 := Lib.hid (bA ((BN.out.setCell (p := ⟨w.heap.size + 1, 0, none⟩) (by show w.heap.size ≤ w.heap.size + 1; omega) (.slice sl1 rs.length cap1)).setCell (p := ⟨w.heap.size + 1, 1, none⟩) (by show w.heap.size ≤ w.heap.size + 1; omega) (.slice sl2 ps.length cap2)) (.cells #[.slice sl1 rs.length cap1, .slice sl2 ps.length cap2] 25))
        have M7 := ((bA0 ((wr.setCell ⟨w.heap.size + 1, 0, none⟩ (.slice sl1 rs.length cap1)).setCell ⟨w.heap.size + 1, 1, none⟩ (.slice sl2 ps.length cap2)) (.cells #[.slice sl1 rs.length cap1, .slice sl2 ps.length cap2] 25)).block (w.heap.size + 1) (Array.getElem?_eq_some_iff.1 M6).1).trans M6
        generalize ((wr.setCell ⟨w.heap.size + 1, 0, none⟩ (.slice sl1 rs.length cap1)).setCell ⟨w.heap.size + 1, 1, none⟩ (.slice sl2 ps.length cap2)).alloc (.cells #[.slice sl1 rs.length cap1, .slice sl2 ps.length cap2] 25) = w7 at *
        have r0 : w7.cell? ⟨w.heap.size + 1, 0, none⟩ = some (.slice sl1 rs.length cap1) := by rw [(cellsAt M7).1]; rfl
        have r1 : w7.cell? ⟨w.heap.size + 1, 1, none⟩ = some (.slice sl2 ps.length cap2) := by rw [(cellsAt M7).1]; rfl
        exact bodyPost_ret (v := .tuple #[.agg #[.slice sl1 rs.length cap1, .slice sl2 ps.length cap2], .bool false]) (by simp [results, Tryd.results10, go_sem, r0, r1]) rfl (HNo.out ▸ ⟨_, _, false, rfl, ⟨_, _, _, rfl⟩, ⟨_, _, _, rfl⟩, B6.out.mono hB, keep_below B6.out, .inl ⟨rfl, rfl⟩⟩)

    have HNo := Lib.hid (HM.out.trans (by rw [if_neg (fun hh => hA hh.1), if_neg (fun hh => hh.1.elim hS hE)]))
    have hA1 : (wd == [115, 116, 97, 116, 105, 111, 110]) = false := by rw [beq_eq_false_iff_ne]; exact hA
    have hA2 : (wd = [115, 116, 97, 116, 105, 111, 110]) = False := eq_false hA
    have hS1 : (wd == [115, 97, 109, 101]) = false := by rw [beq_eq_false_iff_ne]; exact hS
    have hS2 : (wd = [115, 97, 109, 101]) = False := eq_false hS
    have hE1 : (wd == [98, 101, 115, 105, 100, 101]) = false := by rw [beq_eq_false_iff_ne]; exact hE
    have hE2 : (wd = [98, 101, 115, 105, 100, 101]) = False := eq_false hE
    go_wp2_with fail
    have M5 := heap_setCell_same wr (w.heap.size + 1) 0 _ 25 (.slice sl1 rs.length cap1) M1r.out
    have M6 := heap_setCell_same _ (w.heap.size + 1) 1 _ 25 (.slice sl2 ps.length cap2) M5
    have B6 := Lib.hid (bA ((BN.out.setCell (p := ⟨w.heap.size + 1, 0, none⟩) (by show w.heap.size ≤ w.heap.size + 1; omega) (.slice sl1 rs.length cap1)).setCell (p := ⟨w.heap.size + 1, 1, none⟩) (by show w.heap.size ≤ w.heap.size + 1; omega) (.slice sl2 ps.length cap2)) (.cells #[.slice sl1 rs.length cap1, .slice sl2 ps.length cap2] 25))
    have M7 := ((bA0 ((wr.setCell ⟨w.heap.size + 1, 0, none⟩ (.slice sl1 rs.length cap1)).setCell ⟨w.heap.size + 1, 1, none⟩ (.slice sl2 ps.length cap2)) (.cells #[.slice sl1 rs.length cap1, .slice sl2 ps.length cap2] 25)).block (w.heap.size + 1) (Array.getElem?_eq_some_iff.1 M6).1).trans M6
    generalize ((wr.setCell ⟨w.heap.size + 1, 0, none⟩ (.slice sl1 rs.length cap1)).setCell ⟨w.heap.size + 1, 1, none⟩ (.slice sl2 ps.length cap2)).alloc (.cells #[.slice sl1 rs.length cap1, .slice sl2 ps.length cap2] 25) = w7 at *
    have r0 : w7.cell? ⟨w.heap.size + 1, 0, none⟩ = some (.slice sl1 rs.length cap1) := by rw [(cellsAt M7).1]; rfl
    have r1 : w7.cell? ⟨w.heap.size + 1, 1, none⟩ = some (.slice sl2 ps.length cap2) := by rw [(cellsAt M7).1]; rfl
    exact bodyPost_ret (v := .tuple #[.agg #[.slice sl1 rs.length cap1, .slice sl2 ps.length cap2], .bool false]) (by simp [results, Tryd.results10, go_sem, r0, r1]) rfl (HNo.out ▸ ⟨_, _, false, rfl, ⟨_, _, _, rfl⟩, ⟨_, _, _, rfl⟩, B6.out.mono hB, keep_below B6.out, .inl ⟨rfl, rfl⟩⟩)

  clear hKT
  go_loopw [7, 8] (fun nv iv wr => ∃ (k : Nat), iv = .int .i64 ((k : Int) + 1) ∧ k ≤ 19 ∧ k ≤ ps'.length ∧ Hid (wr.ownsRow w1.heap.size 2 1 nv k (valsZ ((ps'.take k).map numV))) ∧ Hid (Below w1.heap.size w1 wr)) (fun _ iv _ => 20 - (intOf iv).toNat)
  case atStart => exact ⟨0, rfl, Nat.zero_le _, Nat.zero_le _, O2.out, B2.out⟩
  case round =>
    obtain ⟨k, rfl, hk19, hkp, O3, B3⟩ := hrel
    have hk0 : (0 : Int) ≤ (k : Int) := by omega
    have c0 := cellsAt ((B3.out.block w.heap.size (by omega)).trans M01.out)
    have c1 := cellsAt ((B3.out.block (w.heap.size + 1) (by omega)).trans M11.out)
    by_cases h1 : k < ps'.length
    · have h1' : (k : Int) + 1 < (ps'.length : Int) + 1 := by omega
      by_cases h2 : k < 19
      · have h2' : (k : Int) + 1 < 20 := by omega
        obtain ⟨x, hx⟩ : ∃ x, ps'[k]? = some x := ⟨_, List.getElem?_eq_getElem h1⟩
        have q1 := (B3.out.cell gl).trans (GC.out (k + 1) x (by rw [List.getElem?_cons_succ]; exact hx))
        unfold strV at q1
        have NM : Hid (Calls Tryd.prog 16 #[.string ⟨x.toArray⟩] wr fun e w' => e = .returned (.tuple #[.int .i64 (numV x), .bool (numK x)]) ∧ Below wr.heap.size wr w') := by
          have := num_any ⟨x.toArray⟩ (by have := hsmall.out x (List.mem_cons_of_mem _ (List.mem_of_getElem? hx)); simp [ByteArray.size]; omega) wr
          show Calls _ _ _ _ _
          simpa using this
        have HX := Lib.hid hx
        obtain ⟨sl7, m7, c7, e7⟩ := IsSl.own O3.out
        subst e7
        clear hx O2 B2 c0 c1
        go_wp2_with fail
        refine NM.out.mono ?_
        rintro e w4 ⟨rfl, b4⟩
        have O4 := Lib.hid (own_below O3.out b4)
        have B4 := Lib.hid (bT B3.out b4)
        clear b4 q1 NM O3 B3
        have hcn := Lib.hid (cell_one_new w4 (.int .i64 (numV x)) 2)
        go_wp2_with (at_builtin; refine wpList_append_lies _ rfl _ _ 39 rfl w1.heap.size 2 i0 (.int .i64 0) 1 8 Tryd.underlying39 hi0 hz0 hz1 hz2 rfl (by decide) (.slice sl7 m7 c7) k (valsZ ((ps'.take k).map numV)) rfl (O4.out.alloc _) ⟨w4.heap.size, 0, none⟩ 1 1 [.int .i64 (numV x)] rfl rfl (cell_one_new _ _ _) (by simp [Value.oneCell']) (by decide) (by unfold maxLen; omega) (by omega) (by have := B4.out.size; simp; omega) _ rfl ?_; intro g9 cap9 w9 own9 grow9 hg9 hlt9; have O9 := Lib.hid own9; have B9 := Lib.hid ((bA B4.out _).grown grow9 (by have := B4.out.size; simp; omega) (fun j hj => (World.ownsRow.lt O4.out j hj).1)); clear own9 grow9 hg9 hlt9)
        go_roundw
        case rel => exact ⟨k + 1, by go_num, by omega, by omega, (by show World.ownsRow _ _ _ _ _ _ _; rw [take_numV ps' k x HX.out]; exact O9.out), B9.out⟩
        case measure => simp [intOf]; omega
      · have h2' : ¬ (k : Int) + 1 < 20 := by omega
        have hkE : Hid ((ps'.take k).map numV = numsM ps' ∧ k = (numsM ps').length) := by
          have : k = 19 := by omega
          subst this
          refine ⟨rfl, ?_⟩
          simp [numsM]; omega
        clear O2 B2
        go_wp2_with fail
        exact TAIL _ _ _ _ _ _ _ _ _ _ _ _ _ _ _ _ _ _ _ _ _ _ _ _ _ _ _ _ hkE.out.1 (by rw [hkE.out.1, ← hkE.out.2]; have := O3.out; rw [hkE.out.1] at this; exact this) B3.out
    · have h1' : ¬ (k : Int) + 1 < (ps'.length : Int) + 1 := by omega
      have hkE : Hid ((ps'.take k).map numV = numsM ps' ∧ k = (numsM ps').length) := by
        have : k = ps'.length := by omega
        subst this
        refine ⟨?_, ?_⟩
        · unfold numsM; rw [List.take_length, List.take_of_length_le (by omega)]
        · simp [numsM]; omega
      clear O2 B2
      go_wp2_with fail
      exact TAIL _ _ _ _ _ _ _ _ _ _ _ _ _ _ _ _ _ _ _ _ _ _ _ _ _ _ _ _ hkE.out.1 (by rw [hkE.out.1, ← hkE.out.2]; have := O3.out; rw [hkE.out.1] at this; exact this) B3.out

end Go.Proofs.YtdndhhkpbcpalaaDoor
