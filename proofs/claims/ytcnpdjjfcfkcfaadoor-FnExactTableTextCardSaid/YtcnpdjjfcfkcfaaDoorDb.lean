/-
  A TABLE AS TEXT, AS THE MODEL TELLS IT: spec.TableText.
-/
import Derived.Test.YtcnpdjjfcfkcfaaDoorDa
namespace Go.Proofs.YtcnpdjjfcfkcfaaDoor
open Go.RowKit
set_option linter.unusedVariables false

/-- A station's line, a pair's line, all of them. -/
def stL (r : LSt) : List UInt8 := statB r.1 r.2.1 r.2.2.2 ++ [10]
def prL (p : LPr) : List UInt8 := pairB p ++ [10]
noncomputable def tabT (rs : List LSt) (ps : List LPr) : List UInt8 := if B (TabR rs ps) = true then rs.flatMap stL ++ ps.flatMap prL else []
theorem tabT_no {rs : List LSt} {ps : List LPr} (h : ¬ TabR rs ps) : tabT rs ps = [] := by
  unfold tabT; rw [B_no h]; rfl
theorem tabT_yes {rs : List LSt} {ps : List LPr} (h : TabR rs ps) : tabT rs ps = rs.flatMap stL ++ ps.flatMap prL := by
  unfold tabT; rw [B_yes h]; rfl
theorem stL_step (rs : List LSt) (k : Nat) (h : k < rs.length) : (rs.take (k + 1)).flatMap stL = (rs.take k).flatMap stL ++ statB rs[k].1 rs[k].2.1 rs[k].2.2.2 ++ [10] := by
  rw [List.take_succ_eq_append_getElem h, List.flatMap_append]
  simp [stL]
theorem prL_step (rs : List LPr) (k : Nat) (h : k < rs.length) : (rs.take (k + 1)).flatMap prL = (rs.take k).flatMap prL ++ pairB rs[k] ++ [10] := by
  rw [List.take_succ_eq_append_getElem h, List.flatMap_append]
  simp [prL]
theorem nums_le (zs : List Int) (h : MidL zs) : (zs.flatMap numB).length ≤ 22 * zs.length := by
  induction zs with
  | nil => simp
  | cons a r ih =>
    have h1 := itoa_mid a (h a (List.mem_cons_self ..))
    have h2 := ih (fun z hz => h z (List.mem_cons_of_mem _ hz))
    simp only [List.flatMap_cons, List.length_append, List.length_cons, numB, List.length_nil]
    omega
theorem statB_le (i s : Int) (zs : List Int) (hi : 1 ≤ i ∧ i ≤ 999) (hs : 1 ≤ s ∧ s ≤ 1000) (hz : MidL zs) (hl : zs.length ≤ 8) : (statB i s zs).length ≤ 300 := by
  have := nums_le ([i, s] ++ zs) (fun z hz' => by
    rcases List.mem_append.1 hz' with h | h
    · simp at h; rcases h with rfl | rfl <;> omega
    · exact hz z h)
  unfold statB
  rw [List.length_append]
  simp only [List.length_append, List.length_cons, List.length_nil] at this ⊢
  omega
theorem pairB_le (p : LPr) (h1 : 1 ≤ p.1 ∧ p.1 ≤ 999) (h2 : 1 ≤ p.2.1 ∧ p.2.1 ≤ 999) : (pairB p).length ≤ 100 := by
  have := nums_le [p.1, p.2.1] (fun z hz' => by
    simp at hz'; rcases hz' with rfl | rfl <;> omega)
  unfold pairB
  rw [List.length_append]
  have hw : (pwB p.2.2).length ≤ 6 := by unfold pwB; split <;> decide
  simp only [List.length_cons, List.length_nil] at this ⊢
  omega
/-- What a right table says of a station and of a pair. -/
def StSmall (r : LSt) : Prop := (1 ≤ r.1 ∧ r.1 ≤ 999) ∧ (1 ≤ r.2.1 ∧ r.2.1 ≤ 1000) ∧ r.2.2.2.length ≤ 8 ∧ MidL r.2.2.2
def PrSmall (p : LPr) : Prop := (1 ≤ p.1 ∧ p.1 ≤ 999) ∧ (1 ≤ p.2.1 ∧ p.2.1 ≤ 999)
theorem inRise_mem {lo hi : Int} {zs : List Int} (h : InRise lo hi zs) {z : Int} (hz : z ∈ zs) : lo ≤ z ∧ z ≤ hi := by
  obtain ⟨i, hi', rfl⟩ := List.getElem_of_mem hz
  have := (h i hi').1
  rwa [List.getD_eq_getElem?_getD, List.getElem?_eq_getElem hi', Option.getD_some] at this
theorem TabR.st {rs : List LSt} {ps : List LPr} (h : TabR rs ps) (r : LSt) (hr : r ∈ rs) : StSmall r := by
  obtain ⟨hn, h1, h2, h3, h4⟩ := h
  have hi := inRise_mem h2 (show r.1 ∈ idsL rs from List.mem_map.2 ⟨r, hr, rfl⟩)
  have ho := h1 r hr
  exact ⟨hi, ho.1, ho.2.1.2, fun z hz => by have := inRise_mem ho.2.2 hz; omega⟩
theorem TabR.pr {rs : List LSt} {ps : List LPr} (h : TabR rs ps) (p : LPr) (hp : p ∈ ps) : PrSmall p := by
  obtain ⟨hn, h1, h2, h3, h4⟩ := h
  have ho := h3 p hp
  exact ⟨inRise_mem h2 ho.2.2.1, inRise_mem h2 ho.2.2.2⟩
set_option maxRecDepth 100000 in
set_option maxHeartbeats 4000000 in
/-- spec.TableText. -/
theorem stx_any (sl : Option Addr) (cap : Nat) (sl2 : Option Addr) (cap2 : Nat) (rs : List LSt) (ps : List LPr) (w : World) (hz : Sts w sl rs) (hp : Prs w sl2 ps) :
    Calls Tryd.prog 18 #[TV sl rs.length cap sl2 ps.length cap2] w fun e w' => e = .returned (.string ⟨(tabT rs ps).toArray⟩) ∧ Below w.heap.size w w' := by
  have B0 := Lib.hid (bA0 w (.cells #[.slice sl rs.length cap, .slice sl2 ps.length cap2] 43))
  have E1 := Lib.hid (str_any sl cap sl2 cap2 rs ps (w.alloc (.cells #[.slice sl rs.length cap, .slice sl2 ps.length cap2] 43)) (hz.below B0.out) (hp.below B0.out))
  have HT := Lib.hid (TabAt.new w sl rs.length cap sl2 ps.length cap2)
  by_cases hr : TabR rs ps
  · rw [B_yes hr] at E1
    have LT := Lib.hid (tabT_yes hr)
    have hn12 : rs.length ≤ 12 := hr.1.2.1
    have hm40 : ps.length ≤ 40 := hr.1.2.2
    have HZ := Lib.hid hz
    have HP := Lib.hid hp
    have HR := Lib.hid hr
    clear hz hp hr
    generalize hN : rs.length = n at *
    generalize hM : ps.length = m at *
    have HN := Lib.hid hN
    have HM := Lib.hid hM
    clear hN hM
    generalize tabT rs ps = t at *
    go_enter Tryd.func18, Tryd.ntmps18
    go_wp2_with fail
    generalize w.alloc (.cells #[.slice sl n cap, .slice sl2 m cap2] 43) = w0 at *
    refine E1.out.mono ?_
    rintro e w1 ⟨rfl, b1⟩
    have D1 := Lib.hid (bT B0.out b1)
    have C1 := Lib.hid (HT.out.below b1)
    clear b1 E1 HT B0
    go_wp2_with fail
    go_loopw [3, 4] (fun t i wr => ∃ (k : Nat) (l : List UInt8), i = .int .i64 k ∧ t = .string ⟨l.toArray⟩ ∧ k ≤ n ∧ l.length ≤ 301 * k ∧ Hid (l = (rs.take k).flatMap stL) ∧ Hid (Below w1.heap.size w1 wr)) (fun _ i _ => n - (intOf i).toNat)
    case atStart => exact ⟨0, [], rfl, rfl, Nat.zero_le _, Nat.zero_le _, rfl, Below.refl _ _⟩
    case round =>
      obtain ⟨k, l, rfl, rfl, hk, hll, HL, HB⟩ := hrel
      have hk0 : (0 : Int) ≤ (k : Int) := by omega
      obtain ⟨k0, k1⟩ := (C1.out.below HB.out).cells
      have kl := (C1.out.below HB.out).lt
      by_cases g1 : k < n
      · have g1' : (k : Int) < (n : Int) := by omega
        have hlt : k < rs.length := by rw [HN.out]; exact g1
        have DW := Lib.hid (bT D1.out HB.out)
        obtain ⟨c, o, rfl, ZI⟩ : ∃ c o, sl = some ⟨c, o, none⟩ ∧ StAt w c o rs := by
          rcases HZ.out.row with e | h
          · rw [e] at hlt; simp at hlt
          · exact h
        obtain ⟨dsl, dcap, de, di, dl⟩ := (HZ.out.dom rs[k] (List.getElem_mem hlt)).below DW.out
        obtain ⟨q0, q1, q2⟩ := (ZI.below DW.out).cell k hlt
        rw [de] at q2
        obtain ⟨y1, y2, y3, y4⟩ := HR.out.st rs[k] (List.getElem_mem hlt)
        have E := Lib.hid (stt_any rs[k].1 rs[k].2.1 dsl dcap rs[k].2.2.2 wr ⟨by omega, by omega⟩ ⟨by omega, by omega⟩ (by omega) y4 di)
        have ST := Lib.hid (stL_step rs k hlt)
        have hd := statB_le rs[k].1 rs[k].2.1 rs[k].2.2.2 y1 y2 y4 y3
        have hcl := (ZI.below DW.out).lt
        clear de di y1 y2 y3 y4 ZI
        generalize statB rs[k].1 rs[k].2.1 rs[k].2.2.2 = d at *
        generalize rs[k].2.2.2.length = dn at *
        generalize rs[k].2.1 = x1 at *
        generalize rs[k].1 = x0 at *
        clear hlt
        go_wp2_with fail
        refine E.out.mono ?_
        rintro e w2 ⟨rfl, b2⟩
        have B2 := Lib.hid (bT HB.out b2)
        have NL : Hid (l ++ d ++ [10] = (rs.take (k + 1)).flatMap stL) := by rw [HL.out]; exact Lib.hid ST.out.symm
        clear b2 E HL ST
        go_wp2
        go_roundw
        case rel => exact ⟨k + 1, l ++ d ++ [10], by go_num, by rw [← ba_app (l ++ d) [10], ← ba_app l d], by omega, by simp; omega, NL, B2⟩
        case measure => simp [intOf]; omega
      · have g1' : ¬ (k : Int) < (n : Int) := by omega
        have NL : Hid (l = rs.flatMap stL) := by
          rw [HL.out, List.take_of_length_le (by rw [HN.out]; omega)]; exact Lib.hid rfl
        have hl4 : l.length ≤ 4000 := by omega
        clear HL HZ
        go_wp2_with fail
        clear k0 k1 kl
        go_loopw [3, 5] (fun t i wq => ∃ (j : Nat) (l2 : List UInt8), i = .int .i64 j ∧ t = .string ⟨l2.toArray⟩ ∧ j ≤ m ∧ l2.length ≤ 4000 + 101 * j ∧ Hid (l2 = l ++ (ps.take j).flatMap prL) ∧ Hid (Below w1.heap.size w1 wq)) (fun _ i _ => m - (intOf i).toNat)
        case atStart => exact ⟨0, l, rfl, rfl, Nat.zero_le _, by omega, (by show l = l ++ (ps.take 0).flatMap prL; simp), HB⟩
        case round =>
          obtain ⟨j, l2, rfl, rfl, hj, hl2, HL, HB2⟩ := hrel
          have hj0 : (0 : Int) ≤ (j : Int) := by omega
          obtain ⟨k0, k1⟩ := (C1.out.below HB2.out).cells
          have kl := (C1.out.below HB2.out).lt
          by_cases g2 : j < m
          · have g2' : (j : Int) < (m : Int) := by omega
            have hlt : j < ps.length := by rw [HM.out]; exact g2
            have DW := Lib.hid (bT D1.out HB2.out)
            obtain ⟨c, o, rfl, ZI⟩ : ∃ c o, sl2 = some ⟨c, o, none⟩ ∧ PrAt w c o ps := by
              rcases HP.out with e | h
              · rw [e] at hlt; simp at hlt
              · exact h
            obtain ⟨q0, q1, q2⟩ := (ZI.below DW.out).cell j hlt
            obtain ⟨y1, y2⟩ := HR.out.pr ps[j] (List.getElem_mem hlt)
            have E : Hid (∀ W, Calls Tryd.prog 59 #[.agg #[.int .i64 ps[j].1, .int .i64 ps[j].2.1, .int .i64 ps[j].2.2]] W fun e w' => e = .returned (.string ⟨(pairB ps[j]).toArray⟩) ∧ Below W.heap.size W w') := fun W => pt_any ps[j].1 ps[j].2.1 ps[j].2.2 W ⟨by omega, by omega⟩ ⟨by omega, by omega⟩
            have ST := Lib.hid (prL_step ps j hlt)
            have hd := pairB_le ps[j] y1 y2
            have hcl := (ZI.below DW.out).lt
            clear y1 y2 ZI
            generalize pairB ps[j] = d at *
            generalize ps[j].2.2 = x2 at *
            generalize ps[j].2.1 = x1 at *
            generalize ps[j].1 = x0 at *
            clear hlt
            go_wp2_with fail
            refine (E.out _).mono ?_
            rintro e w2 ⟨rfl, b2⟩
            have B2 := Lib.hid (bT HB2.out b2)
            have NL2 : Hid (l2 ++ d ++ [10] = l ++ (ps.take (j + 1)).flatMap prL) := by rw [HL.out, ST.out]; exact Lib.hid (by simp)
            clear b2 E HL ST
            go_wp2
            go_roundw
            case rel => exact ⟨j + 1, l2 ++ d ++ [10], by go_num, by rw [← ba_app (l2 ++ d) [10], ← ba_app l2 d], by omega, by simp; omega, NL2, B2⟩
            case measure => simp [intOf]; omega
          · have g2' : ¬ (j : Int) < (m : Int) := by omega
            have NL2 : Hid (l2 = t) := by
              rw [HL.out, List.take_of_length_le (by rw [HM.out]; omega), NL.out]; exact Lib.hid LT.out.symm
            have BB := bT D1.out HB2.out
            clear HL LT
            go_wp2
            go_ret
            exact ⟨by rw [NL2.out]; rfl, BB⟩
  · rw [B_no hr] at E1
    rw [tabT_no hr]
    clear hz hp hr HT
    generalize rs.length = n at *
    generalize ps.length = m at *
    go_enter Tryd.func18, Tryd.ntmps18
    go_wp2_with fail
    generalize w.alloc (.cells #[.slice sl n cap, .slice sl2 m cap2] 43) = w0 at *
    refine E1.out.mono ?_
    rintro e w1 ⟨rfl, b1⟩
    have D1 := bT B0.out b1
    clear b1 E1 B0
    go_wp2
    go_ret
    exact ⟨rfl, D1⟩
end Go.Proofs.YtcnpdjjfcfkcfaaDoor
