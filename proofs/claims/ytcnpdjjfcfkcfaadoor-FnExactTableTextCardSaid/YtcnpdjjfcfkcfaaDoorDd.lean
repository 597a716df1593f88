/-
  A TABLE AS TEXT, AS THE PROGRAM TELLS IT: impl.TableText.
-/
import Derived.Test.YtcnpdjjfcfkcfaaDoorDc
import Derived.Deep.AppendLies
namespace Go.Proofs.YtcnpdjjfcfkcfaaDoor
open Go.RowKit Go.Maps
set_option linter.unusedVariables false

theorem at_add (c o i : Nat) : (⟨c, o, none⟩ : Addr).add i = ⟨c, o + i, none⟩ := by simp [Addr.add]
theorem valsZ_one (zs : List Int) : ∀ u ∈ valsZ zs, u.oneCell' = true := by
  intro u hu
  unfold valsZ at hu
  obtain ⟨p, _, rfl⟩ := List.mem_map.1 hu
  rfl
theorem valsZ_len1 (zs : List Int) : (valsZ zs).length = zs.length * 1 := by simp [valsZ]
theorem int_cells {w : World} {c o : Nat} {zs : List Int} (h : IntsAt w c o zs) : ∀ (j : Nat) (u : Value), (valsZ zs)[j]? = some u → w.cell? ((⟨c, o, none⟩ : Addr).add j) = some u := by
  intro j u hu
  have hl : j < zs.length := by
    have := (List.getElem?_eq_some_iff.1 hu).1
    simpa [valsZ] using this
  rw [at_add, h.2 j hl, ← hu]
  simp [valsZ, hl]
theorem ints_two {w : World} {g : Nat} {x y : Int} (h : w.heap[g]? = some (.cells #[.int .i64 x, .int .i64 y] 2)) : Ints w (some ⟨g, 0, none⟩) [x, y] := by
  refine .inr ⟨g, 0, rfl, (Array.getElem?_eq_some_iff.1 h).1, fun i hi => ?_⟩
  have hc : ∀ j, w.cell? ⟨g, j, none⟩ = #[Value.int .i64 x, .int .i64 y][j]? := fun j => by
    unfold World.cell?
    simp only [h]
    rfl
  rw [Nat.zero_add, hc]
  match i, hi with
  | 0, _ => rfl
  | 1, _ => rfl
set_option maxRecDepth 100000 in
set_option maxHeartbeats 4000000 in
/-- impl.TableText. -/
theorem itx_any (sl : Option Addr) (cap : Nat) (sl2 : Option Addr) (cap2 : Nat) (rs : List LSt) (ps : List LPr) (w : World) (hz : Sts w sl rs) (hp : Prs w sl2 ps) (hw : ∀ p ∈ ps, WfP p) (ht : PowTab w) :
    Calls Tryd.prog 20 #[TV sl rs.length cap sl2 ps.length cap2] w fun e w' => e = .returned (.string ⟨(tabT rs ps).toArray⟩) ∧ Below w.heap.size w w' := by
  obtain ⟨i3, hi3, hd0, hd1, hd2⟩ := info_parts info2'
  have B0 := Lib.hid (bA0 w (.cells #[.slice sl rs.length cap, .slice sl2 ps.length cap2] 43))
  have E1 := Lib.hid (itr_any sl cap sl2 cap2 rs ps (w.alloc (.cells #[.slice sl rs.length cap, .slice sl2 ps.length cap2] 43)) (hz.below B0.out) (hp.below B0.out) hw)
  have HT := Lib.hid (TabAt.new w sl rs.length cap sl2 ps.length cap2)
  by_cases hr : TabR rs ps
  · rw [B_yes hr] at E1
    have LT := Lib.hid (tabT_yes hr)
    have hn12 : rs.length ≤ 12 := hr.1.2.1
    have hm40 : ps.length ≤ 40 := hr.1.2.2
    have HZ := Lib.hid hz
    have HP := Lib.hid hp
    have HR := Lib.hid hr
    have HW := Lib.hid hw
    have PT := Lib.hid ht
    have EK : Hid (∀ W, Below w.heap.size w W → Calls Tryd.prog 65 #[.slice sl2 ps.length cap2] W fun e w' => e = .returned (.map (some W.heap.size)) ∧ w'.ownsMap Tryd.prog 105 (plainElem (H := Unit) Tryd.prog 2) W.heap.size ps.length (Kd ps) ∧ Below W.heap.size W w') := fun W hW => ks_any sl2 cap2 ps W (by omega) (hp.below hW) hw
    clear hz hp hr hw ht
    generalize hN : rs.length = n at *
    generalize hM : ps.length = m at *
    have HN := Lib.hid hN
    have HM := Lib.hid hM
    clear hN hM
    generalize tabT rs ps = t at *
    go_enter Tryd.func20, Tryd.ntmps20
    go_wp2_with fail
    generalize w.alloc (.cells #[.slice sl n cap, .slice sl2 m cap2] 43) = w0 at *
    refine E1.out.mono ?_
    rintro e w1 ⟨rfl, b1⟩
    have D1 := Lib.hid (bT B0.out b1)
    have C1 := Lib.hid (HT.out.below b1)
    have X0 := Lib.hid (new_bd w1)
    have D0 := Lib.hid (bA0 w1 (.cells #[.pointer none, .slice none 0 0] 94))
    obtain ⟨k0, k1⟩ := (C1.out.below D0.out).cells
    have kl := (C1.out.below D0.out).lt
    clear b1 E1 HT B0
    go_wp2_with fail
    generalize w1.alloc (.cells #[.pointer none, .slice none 0 0] 94) = wa at *
    clear k0 k1 kl
    go_loopw [16] (fun i wr => ∃ (k : Nat) (l : List UInt8), i = .int .i64 k ∧ k ≤ n ∧ l.length ≤ 301 * k ∧ Hid (l = (rs.take k).flatMap stL) ∧ Hid (Bd w1.heap.size w1.heap.size (Lib.byteCells l) wr) ∧ Hid (Below w1.heap.size w1 wr)) (fun i _ => n - (intOf i).toNat)
    case atStart => exact ⟨0, [], rfl, Nat.zero_le _, Nat.zero_le _, rfl, X0, D0⟩
    case round =>
      obtain ⟨k, l, rfl, hk, hll, HL, XB, HB⟩ := hrel
      have hk0 : (0 : Int) ≤ (k : Int) := by omega
      obtain ⟨k0, k1⟩ := (C1.out.below HB.out).cells
      have kl := (C1.out.below HB.out).lt
      have hwb := HB.out.size
      by_cases g1 : k < n
      · have g1' : (k : Int) < (n : Int) := by omega
        have hlt : k < rs.length := by rw [HN.out]; exact g1
        have DW := Lib.hid (bT D1.out HB.out)
        obtain ⟨c, o, rfl, ZI⟩ : ∃ c o, sl = some ⟨c, o, none⟩ ∧ StAt w c o rs := by
          rcases HZ.out.row with e | h
          · rw [e] at hlt; simp at hlt
          · exact h
        obtain ⟨dsl, dcap, de, di, dl⟩ := (HZ.out.dom rs[k] (List.getElem_mem hlt)).below DW.out
        obtain ⟨q0, q1, q2⟩ := (ZI.below DW.out).cell k hlt
        rw [de] at q2
        obtain ⟨y1, y2, y3, y4⟩ := HR.out.st rs[k] (List.getElem_mem hlt)
        have y5 : 1 ≤ rs[k].2.2.2.length := (HR.out.2.1 rs[k] (List.getElem_mem hlt)).2.1.1
        have ST := Lib.hid (stL_step rs k hlt)
        have hd := statB_le rs[k].1 rs[k].2.1 rs[k].2.2.2 y1 y2 y4 y3
        have hcl := (ZI.below DW.out).lt
        obtain ⟨dc, dq, rfl, DI⟩ : ∃ c o, dsl = some ⟨c, o, none⟩ ∧ IntsAt wr c o rs[k].2.2.2 := by
          rcases di with e | h
          · rw [e] at y5; simp at y5
          · exact h
        have Y4 := Lib.hid y4
        clear de di y4 ZI
        generalize rs[k].2.2.2 = zs at *
        generalize rs[k].2.1 = x1 at *
        generalize rs[k].1 = x0 at *
        clear hlt
        have BW := Lib.hid (bA (bA0 wr (.cells #[.int .i64 x0, .int .i64 x1, .slice (some ⟨dc, dq, none⟩) zs.length dcap] 86)) (.cells #[.int .i64 x0, .int .i64 x1] 2))
        have OW := Lib.hid (own_two wr (.cells #[.int .i64 x0, .int .i64 x1, .slice (some ⟨dc, dq, none⟩) zs.length dcap] 86) x0 x1)
        have IC : Hid (∀ (j : Nat) (u : Value), (valsZ zs)[j]? = some u → ((wr.alloc (.cells #[.int .i64 x0, .int .i64 x1, .slice (some ⟨dc, dq, none⟩) zs.length dcap] 86)).alloc (.cells #[.int .i64 x0, .int .i64 x1] 2)).cell? ((⟨dc, dq, none⟩ : Addr).add j) = some u) := int_cells ⟨Nat.lt_of_lt_of_le DI.1 BW.out.size, fun j hj => (BW.out.cell DI.1).trans (DI.2 j hj)⟩
        have VL := valsZ_len1 zs
        have V1 := Lib.hid (valsZ_one zs)
        have OL := Lib.hid (show ∀ j, (Value.slice (some ⟨wr.heap.size + 1, 0, none⟩) 2 2).ownBlock = some j → wr.heap.size ≤ j from fun j hj => (OW.out.lt j hj).1)
        have E64 : Hid (∀ g cp W, Below wr.heap.size wr W → W.ownsRow wr.heap.size 2 1 (.slice (some ⟨g, 0, none⟩) (2 + zs.length) cp) (2 + zs.length) (valsZ [x0, x1] ++ valsZ zs) → Calls Tryd.prog 64 #[.string ⟨#[115, 116, 97, 116, 105, 111, 110]⟩, .slice (some ⟨g, 0, none⟩) (2 + zs.length) cp] W fun e w' => e = .returned (.string ⟨(statB x0 x1 zs ++ [10]).toArray⟩) ∧ Below W.heap.size W w') := fun g cp W hW ho => st_line x0 x1 zs g cp W y1 y2 y3 Y4.out ho (PT.out.below (bT DW.out hW))
        have E63 : Hid (∀ W, Below wr.heap.size wr W → Calls Tryd.prog 63 #[.pointer (some ⟨w1.heap.size, 0, none⟩), .string ⟨(statB x0 x1 zs ++ [10]).toArray⟩] W fun e w' => e = .returned (.tuple #[.int .i64 (statB x0 x1 zs ++ [10]).length, .nilIface]) ∧ Bd w1.heap.size w1.heap.size (Lib.byteCells (l ++ (statB x0 x1 zs ++ [10]))) w' ∧ Below w1.heap.size W w') := fun W hW => ws_text (statB x0 x1 zs ++ [10]) (bd_below XB.out hW) (by simp; omega) (by have := hW.size; omega)
        have hd' : (statB x0 x1 zs ++ [10]).length ≤ 301 := by simp; omega
        have NL : Hid (l ++ (statB x0 x1 zs ++ [10]) = (rs.take (k + 1)).flatMap stL) := by rw [HL.out, ST.out]; exact Lib.hid (by simp)
        clear hd ST DI y1 y2 Y4 HL
        generalize statB x0 x1 zs ++ [10] = d at *
        generalize valsZ zs = vz at *
        generalize zs.length = dn at *
        clear zs
        go_wp2_with (at_builtin; refine wpList_append_lies _ rfl (.tmp 24) (.tmp 26) 68 rfl wr.heap.size 2 i3 (.int .i64 0) 1 8 Tryd.underlying68 hi3 hd0 hd1 hd2 rfl (by decide) _ _ _ rfl OW.out ⟨dc, dq, none⟩ dn dcap vz rfl VL IC.out V1.out (by omega) (by unfold maxLen; omega) (by omega) (by have := BW.out.size; omega) _ rfl ?_)
        intro g9 cap9 w9 own9 grow9 hg9 hlt9
        have B9 := Lib.hid (BW.out.grown grow9 (by have := BW.out.size; omega) (fun j hj => OL.out j hj))
        have E64' := Lib.hid (E64.out g9 cap9 w9 B9.out own9)
        clear own9 grow9 hg9 hlt9 OW IC VL V1 OL E64 BW
        go_wp2_with fail
        refine E64'.out.mono ?_
        rintro e w2 ⟨rfl, b2⟩
        have B2 := Lib.hid (bT B9.out b2)
        have E63' := Lib.hid (E63.out w2 B2.out)
        clear b2 E64' E63
        go_wp2_with fail
        refine E63'.out.mono ?_
        rintro e w3 ⟨rfl, x3, b3⟩
        have X3 := Lib.hid x3
        have D3 := Lib.hid ((bT HB.out B2.out).trans b3)
        have hl9 : (l ++ d).length ≤ 301 * (k + 1) := by rw [List.length_append]; omega
        clear x3 b3 E63' XB HB
        go_wp2
        go_roundw
        case rel => exact ⟨k + 1, l ++ d, by go_num, by omega, hl9, NL, X3, D3⟩
        case measure => simp [intOf]; omega
      · have g1' : ¬ (k : Int) < (n : Int) := by omega
        have NL : Hid (l = rs.flatMap stL) := by
          rw [HL.out, List.take_of_length_le (by rw [HN.out]; omega)]; exact Lib.hid rfl
        have hl4 : l.length ≤ 4000 := by omega
        have EK' := Lib.hid (EK.out wr (bT D1.out HB.out))
        clear HL HZ EK X0 D0
        go_wp2_with fail
        refine EK'.out.mono ?_
        rintro e w3 ⟨rfl, m3, b3⟩
        have SE := Lib.hid (se_any wr.heap.size m (Kd ps) w3 (by omega) m3)
        have X3 := Lib.hid (bd_below XB.out b3)
        have D3 := Lib.hid (bT HB.out b3)
        have M3 := Lib.hid m3
        clear m3 b3 EK' XB HB k0 k1 kl
        go_wp2_with fail
        refine SE.out.mono ?_
        rintro e w4 ⟨v, ks, rfl, o4, hpw, hkw, hmem, b4⟩
        have KE : Hid (ps.map ends = ks) := (order_iff HW.out hpw hkw (fun x hx => (hmem x hx).trans (Kd_has ps HW.out x hx))).2 HR.out.2.2.2.2
        have HK : Hid (ks.length = m) := by rw [← KE.out, List.length_map]; exact HM
        have X4 := Lib.hid (bd_below X3.out b4)
        have D4 := Lib.hid (bT D3.out b4)
        have M4 := Lib.hid (map_keep M3.out (KeepN.of_below b4))
        have O4 : Hid (w4.ownsRow w3.heap.size 105 2 v m (enCells ks)) := by rw [← HK.out]; exact Lib.hid o4
        obtain ⟨sl3, cap3, rfl⟩ := own_v O4.out
        clear o4 hpw hkw hmem b4 SE X3 D3 M3
        generalize wr.heap.size = mb at *
        go_wp2_with fail
        go_loopw [37] (fun i wr => ∃ (j : Nat) (l2 : List UInt8), i = .int .i64 j ∧ j ≤ m ∧ l2.length ≤ 4000 + 101 * j ∧ Hid (l2 = l ++ (ps.take j).flatMap prL) ∧ Hid (Bd w1.heap.size w1.heap.size (Lib.byteCells l2) wr) ∧ Hid (Below w1.heap.size w1 wr) ∧ Hid (KeepN w4 wr)) (fun i _ => m - (intOf i).toNat)
        case atStart => exact ⟨0, l, rfl, Nat.zero_le _, by omega, (by show l = l ++ (ps.take 0).flatMap prL; simp), X4, D4, (fun j o e n => e)⟩
        case round =>
          obtain ⟨j, l2, rfl, hj, hl2, HL, XB, HB2, KN⟩ := hrel
          have hj0 : (0 : Int) ≤ (j : Int) := by omega
          have hwb2 := HB2.out.size
          by_cases g2 : j < m
          · have g2' : (j : Int) < (m : Int) := by omega
            have hlt : j < ps.length := by rw [HM.out]; exact g2
            have hlk : j < ks.length := by rw [HK.out]; exact g2
            have PS := HR.out.pr ps[j] (List.getElem_mem hlt)
            have PK := (HR.out.2.2.2.1 ps[j] (List.getElem_mem hlt)).2.1
            have WF := (HW.out ps[j] (List.getElem_mem hlt)).1
            have KL := kindL_at HR.out.2.2.2.2 (List.getElem_mem hlt)
            have ST := Lib.hid (prL_step ps j hlt)
            have OR := own_keep O4.out KN.out
            have OM := Lib.hid (map_keep M4.out KN.out)
            obtain ⟨g3, rfl, r0, r1, rl⟩ : ∃ g3, sl3 = some ⟨g3, 0, none⟩ ∧ wr.cell? ⟨g3, j * 2, none⟩ = some (.int .i64 ks[j].1) ∧ wr.cell? ⟨g3, j * 2 + 1, none⟩ = some (.int .i64 ks[j].2) ∧ g3 < wr.heap.size := by
              rcases OR.2 with ⟨_, h0⟩ | ⟨g, cp3, cur, hv, hb3, hg3, _⟩
              · omega
              · cases hv
                have e := enCells_at ks j hlk
                exact ⟨g, rfl, by rw [OR.cellAt (j * 2) (by omega), e.1], by rw [OR.cellAt (j * 2 + 1) (by omega), e.2], (Array.getElem?_eq_some_iff.1 hg3).1⟩
            have hke : ks[j] = ends ps[j] := by
              have : ks[j] = (ps.map ends)[j]'(by rw [List.length_map]; exact hlt) := by congr 1; exact KE.out.symm
              rw [this, List.getElem_map]
            rw [hke] at r0 r1
            obtain ⟨a, b, q, hpe⟩ : ∃ a b q, ps[j] = (a, b, q) := ⟨_, _, _, rfl⟩
            rw [hpe] at PS PK WF KL ST r0 r1
            dsimp only [ends] at r0 r1 KL PK WF
            clear hke hpe hlt hlk OR
            have hd := pairB_le (a, b, q) PS.1 PS.2
            have E67 := Lib.hid (fun W => pw_any q W PK)
            have H5 := Lib.hid (bA HB2.out (.cells #[.int .i64 a, .int .i64 b] 105))
            have F5 := Lib.hid (bA0 wr (.cells #[.int .i64 a, .int .i64 b] 105))
            have K5 := Lib.hid (KN.out.trans (KeepN.of_below F5.out))
            have N5 := Lib.hid (heap_alloc_new wr (.cells #[.int .i64 a, .int .i64 b] 105))
            have KB : Hid (∀ W, KeepN (wr.alloc (.cells #[.int .i64 a, .int .i64 b] 105)) W → wr.heap.size < W.heap.size ∧ W.cell? ⟨wr.heap.size, 0, none⟩ = some (.int .i64 a) ∧ W.cell? ⟨wr.heap.size, 1, none⟩ = some (.int .i64 b) ∧ Sem.run Tryd.prog (Instr.lookup 100 (.map (some mb)) (.agg #[.int .i64 a, .int .i64 b]) false) W = .ok (.int .i64 q) W) := fun W hW => by
              have hb := hW _ _ N5.out (fun cs f => ⟨(fun e => by cases e), (fun e => by cases e)⟩)
              obtain ⟨cc, hrun, hat, _⟩ := (map_keep (map_keep OM.out (KeepN.of_below F5.out)) hW).lookup_int law63 Tryd.underlying100 Tryd.underlying2 (Tryd.zeroValue2 _) (key_is (a, b) WF)
              rw [Kd_at ps HW.out _ WF, KL] at hat
              have hcc : cc = q := by simpa using hat.symm
              subst hcc
              exact ⟨(Array.getElem?_eq_some_iff.1 hb).1, by simp [World.cell?, hb], by simp [World.cell?, hb], hrun⟩
            have E64 : Hid (∀ W, Below (wr.alloc (.cells #[.int .i64 a, .int .i64 b] 105)).heap.size (wr.alloc (.cells #[.int .i64 a, .int .i64 b] 105)) W → W.heap[(wr.alloc (.cells #[.int .i64 a, .int .i64 b] 105)).heap.size]? = some (.cells #[.int .i64 a, .int .i64 b] 2) → Calls Tryd.prog 64 #[.string ⟨(pwB q).toArray⟩, .slice (some ⟨(wr.alloc (.cells #[.int .i64 a, .int .i64 b] 105)).heap.size, 0, none⟩) 2 2] W fun e w' => e = .returned (.string ⟨(prL (a, b, q)).toArray⟩) ∧ Below W.heap.size W w') := fun W hW hh => pr_line (a, b, q) _ W PS (ints_two hh) (PT.out.below (bT (bT D1.out H5.out) hW))
            have E63 : Hid (∀ W, Below (wr.alloc (.cells #[.int .i64 a, .int .i64 b] 105)).heap.size (wr.alloc (.cells #[.int .i64 a, .int .i64 b] 105)) W → Calls Tryd.prog 63 #[.pointer (some ⟨w1.heap.size, 0, none⟩), .string ⟨(prL (a, b, q)).toArray⟩] W fun e w' => e = .returned (.tuple #[.int .i64 (prL (a, b, q)).length, .nilIface]) ∧ Bd w1.heap.size w1.heap.size (Lib.byteCells (l2 ++ prL (a, b, q))) w' ∧ Below w1.heap.size W w' ∧ KeepN W w') := fun W hW => ws_textK (prL (a, b, q)) (bd_below (bd_below XB.out F5.out) hW) (by simp [prL]; omega) (by have := hW.size; have := F5.out.size; omega)
            have NL2 : Hid (l2 ++ prL (a, b, q) = l ++ (ps.take (j + 1)).flatMap prL) := by rw [HL.out, ST.out]; exact Lib.hid (by simp [prL])
            have hl9 : (l2 ++ prL (a, b, q)).length ≤ 4000 + 101 * (j + 1) := by simp [prL]; omega
            clear hd ST PS PK WF KL OM N5
            generalize prL (a, b, q) = d at *
            generalize pwB q = pw at *
            go_wp2_with fail
            generalize wr.alloc (.cells #[.int .i64 a, .int .i64 b] 105) = w5 at *
            clear r0 r1 rl
            refine wp_region_held_drew (S := fun W => wr.heap.size < W.heap.size ∧ W.cell? ⟨wr.heap.size, 0, none⟩ = some (.int .i64 a) ∧ W.cell? ⟨wr.heap.size, 1, none⟩ = some (.int .i64 b) ∧ Sem.run Tryd.prog (Instr.lookup 100 (.map (some mb)) (.agg #[.int .i64 a, .int .i64 b]) false) W = .ok (.int .i64 q) W) (by kernel_rfl) ?_ (fun hHeld => ?_)
            · exact KB.out _ (KeepN.of_below (Below.refl _ _).drew)
            refine wpAnyH_take (i := 0) (oi := _) (v := ?_) rfl (by kernel_rfl) (by kernel_rfl) (by kernel_rfl) (fun _ _ _ h => h) (Or.inl ⟨by rfl, ?_⟩) (by assumption) ?_
            rotate_left
            · first | (intro w hSw; (try dsimp only at hSw); go_simp; done) | (intro w hSw; (try dsimp only at hSw); go_simp; with_reducible rfl)
            try simp only [Act.put, List.setIfInBounds_toArray, List.set_cons_zero, List.set_cons_succ, List.getElem_toArray, List.getElem_cons_zero]
            refine wpAnyH_take (i := 1) (oi := _) (v := ?_) rfl (by kernel_rfl) (by kernel_rfl) (by kernel_rfl) (fun _ _ _ h => h) (Or.inl ⟨by rfl, ?_⟩) (by assumption) ?_
            rotate_left
            · first | (intro w hSw; (try dsimp only at hSw); go_simp; done) | (intro w hSw; (try dsimp only at hSw); go_simp; with_reducible rfl)
            try simp only [Act.put, List.setIfInBounds_toArray, List.set_cons_zero, List.set_cons_succ, List.getElem_toArray, List.getElem_cons_succ, List.getElem_cons_zero]
            refine wpAnyH_take (i := 2) (oi := _) (v := ?_) rfl (by kernel_rfl) (by kernel_rfl) (by kernel_rfl) (fun _ _ _ h => h) (Or.inl ⟨by rfl, ?_⟩) (by assumption) ?_
            rotate_left
            · first | (intro w hSw; (try dsimp only at hSw); go_simp; done) | (intro w hSw; (try dsimp only at hSw); go_simp; with_reducible rfl)
            try simp only [Act.put, List.setIfInBounds_toArray, List.set_cons_zero, List.set_cons_succ, List.getElem_toArray, List.getElem_cons_succ, List.getElem_cons_zero]
            refine wpAnyH_take (i := 4) (oi := _) (v := ?_) rfl (by kernel_rfl) (by kernel_rfl) (by kernel_rfl) (fun _ _ _ h => h) (Or.inl ⟨by rfl, ?_⟩) (by assumption) ?_
            rotate_left
            · first | (intro w hSw; (try dsimp only at hSw); go_simp; done) | (intro w hSw; (try dsimp only at hSw); go_simp; with_reducible rfl)
            try simp only [Act.put, List.setIfInBounds_toArray, List.set_cons_zero, List.set_cons_succ, List.getElem_toArray, List.getElem_cons_succ, List.getElem_cons_zero]
            refine wpAnyH_take (i := 5) (oi := _) (v := ?_) rfl (by kernel_rfl) (by kernel_rfl) (by kernel_rfl) (fun _ _ _ h => h) (Or.inl ⟨by rfl, ?_⟩) (by assumption) ?_
            rotate_left
            · first | (intro w hSw; (try dsimp only at hSw); go_simp; done) | (intro w hSw; (try dsimp only at hSw); go_simp; with_reducible rfl)
            try simp only [Act.put, List.setIfInBounds_toArray, List.set_cons_zero, List.set_cons_succ, List.getElem_toArray, List.getElem_cons_succ, List.getElem_cons_zero]
            refine wpAnyH_take (i := 6) (oi := _) (v := ?_) rfl (by kernel_rfl) (by kernel_rfl) (by kernel_rfl) (fun _ _ _ h => h) (Or.inl ⟨by rfl, ?_⟩) (by assumption) ?_
            rotate_left
            · first | (intro w hSw; (try dsimp only at hSw); go_simp; done) | (intro w hSw; (try dsimp only at hSw); go_simp; with_reducible rfl)
            try simp only [Act.put, List.setIfInBounds_toArray, List.set_cons_zero, List.set_cons_succ, List.getElem_toArray, List.getElem_cons_succ, List.getElem_cons_zero]
            refine wpAnyH_take (i := 7) (oi := _) (v := ?_) rfl (by kernel_rfl) (by kernel_rfl) (by kernel_rfl) (fun _ _ _ h => h) (Or.inl ⟨by rfl, ?_⟩) (by assumption) ?_
            rotate_left
            · first | (intro w hSw; (try dsimp only at hSw); go_simp; done) | (intro w hSw; (try dsimp only at hSw); go_simp; with_reducible rfl)
            try simp only [Act.put, List.setIfInBounds_toArray, List.set_cons_zero, List.set_cons_succ, List.getElem_toArray, List.getElem_cons_succ, List.getElem_cons_zero]
            refine wpAnyH_ready (rs := [3, 8]) (by kernel_rfl) (by simp) ?_
            refine AllReadyH.cons rfl (fun K hK => ?_) (AllReadyH.cons rfl (fun K hK => ?_) AllReadyH.nil)
            · go_simp
              go_wp2_with (go_at_call 67; refine (E67.out _).mono ?_; rintro e w6 ⟨rfl, rfl⟩)
              refine hK.out _ _ ?_ (fun hHeld => ?_)
              · exact KB.out _ (KeepN.of_below (Below.refl _ _).drew)
              clear hK K
              refine wpAnyH_ready (rs := [8]) (by kernel_rfl) (by simp) ?_
              refine AllReadyH.cons rfl (fun K hK => ?_) AllReadyH.nil
              go_simp
              refine hK.out _ _ ?_ (fun hHeld => ?_)
              · exact KB.out _ (KeepN.of_below (bA (Below.refl _ _) _).drew)
              clear hK K
              refine wpAnyH_ready (rs := [9]) (by kernel_rfl) (by simp) ?_
              refine AllReadyH.cons rfl (fun K hK => ?_) AllReadyH.nil
              go_simp
              go_wp2_with (go_at_call 64; refine (E64.out _ (bA (Below.refl _ _) _).drew (heap_alloc_new w5 _)).mono ?_; rintro e w7 ⟨rfl, b7⟩)
              have F7 : Hid (Below w5.heap.size w5 w7) := bT (bA (Below.refl w5.heap.size w5) _).drew b7
              clear b7
              refine hK.out _ _ ?_ (fun hHeld => ?_)
              · exact KB.out _ (KeepN.of_below F7.out)
              clear hK K
              refine wpAnyH_ready (rs := [10]) (by kernel_rfl) (by simp) ?_
              refine AllReadyH.cons rfl (fun K hK => ?_) AllReadyH.nil
              go_simp
              go_wp2_with (go_at_call 63; refine (E63.out _ F7.out).mono ?_; rintro e w8 ⟨rfl, x8, b8, k8⟩)
              have X8 := Lib.hid x8
              have K8 : Hid (KeepN w5 w8) := (KeepN.of_below F7.out).trans k8
              have D8 := Lib.hid ((bT H5.out F7.out).trans b8)
              clear x8 b8 k8
              refine hK.out _ _ ?_ (fun hHeld => ?_)
              · exact KB.out _ (K8.out)
              clear hK K
              refine wpAnyH_done (by kernel_rfl) ?_ _
              have KW := Lib.hid (K5.out.trans K8.out)
              clear E67 E64 E63 KB F7 K8 HL XB HB2 KN
              go_wp2
              go_roundw
              case rel => exact ⟨j + 1, l2 ++ d, by go_num, by omega, hl9, NL2, X8, D8, KW⟩
              case measure => simp [intOf]; omega
            · go_simp
              refine hK.out _ _ ?_ (fun hHeld => ?_)
              · exact KB.out _ (KeepN.of_below (bA (Below.refl _ _) _).drew)
              clear hK K
              refine wpAnyH_ready (rs := [3]) (by kernel_rfl) (by simp) ?_
              refine AllReadyH.cons rfl (fun K hK => ?_) AllReadyH.nil
              go_simp
              go_wp2_with (go_at_call 67; refine (E67.out _).mono ?_; rintro e w6 ⟨rfl, rfl⟩)
              refine hK.out _ _ ?_ (fun hHeld => ?_)
              · exact KB.out _ (KeepN.of_below (bA (Below.refl _ _) _).drew)
              clear hK K
              refine wpAnyH_ready (rs := [9]) (by kernel_rfl) (by simp) ?_
              refine AllReadyH.cons rfl (fun K hK => ?_) AllReadyH.nil
              go_simp
              go_wp2_with (go_at_call 64; refine (E64.out _ (bA (Below.refl _ _) _).drew (heap_alloc_new w5 _)).mono ?_; rintro e w7 ⟨rfl, b7⟩)
              have F7 : Hid (Below w5.heap.size w5 w7) := bT (bA (Below.refl w5.heap.size w5) _).drew b7
              clear b7
              refine hK.out _ _ ?_ (fun hHeld => ?_)
              · exact KB.out _ (KeepN.of_below F7.out)
              clear hK K
              refine wpAnyH_ready (rs := [10]) (by kernel_rfl) (by simp) ?_
              refine AllReadyH.cons rfl (fun K hK => ?_) AllReadyH.nil
              go_simp
              go_wp2_with (go_at_call 63; refine (E63.out _ F7.out).mono ?_; rintro e w8 ⟨rfl, x8, b8, k8⟩)
              have X8 := Lib.hid x8
              have K8 : Hid (KeepN w5 w8) := (KeepN.of_below F7.out).trans k8
              have D8 := Lib.hid ((bT H5.out F7.out).trans b8)
              clear x8 b8 k8
              refine hK.out _ _ ?_ (fun hHeld => ?_)
              · exact KB.out _ (K8.out)
              clear hK K
              refine wpAnyH_done (by kernel_rfl) ?_ _
              have KW := Lib.hid (K5.out.trans K8.out)
              clear E67 E64 E63 KB F7 K8 HL XB HB2 KN
              go_wp2
              go_roundw
              case rel => exact ⟨j + 1, l2 ++ d, by go_num, by omega, hl9, NL2, X8, D8, KW⟩
              case measure => simp [intOf]; omega
          · have g2' : ¬ (j : Int) < (m : Int) := by omega
            have NL2 : Hid (l2 = t) := by
              rw [HL.out, List.take_of_length_le (by rw [HM.out]; omega), NL.out]; exact Lib.hid LT.out.symm
            have E2 := Lib.hid (Tryd.Builder_String_any w1.heap.size w1.heap.size l2 wr XB.out hwb2)
            clear HL LT XB
            go_wp2_with fail
            refine E2.out.mono ?_
            rintro e w5 ⟨rfl, b5⟩
            have BB := D1.out.trans ((HB2.out.trans b5).mono D1.out.size)
            go_wp2
            go_ret
            exact ⟨by rw [NL2.out]; rfl, BB⟩
  · rw [B_no hr] at E1
    rw [tabT_no hr]
    clear hz hp hr HT hw ht
    generalize rs.length = n at *
    generalize ps.length = m at *
    go_enter Tryd.func20, Tryd.ntmps20
    go_wp2_with fail
    generalize w.alloc (.cells #[.slice sl n cap, .slice sl2 m cap2] 43) = w0 at *
    refine E1.out.mono ?_
    rintro e w1 ⟨rfl, b1⟩
    have D1 := bT B0.out b1
    clear b1 E1 B0
    go_wp2
    go_ret
    exact ⟨rfl, D1⟩
end Go.Proofs.YtcnpdjjfcfkcfaaDoor
