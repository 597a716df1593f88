/-
  A LEMMA THAT FOLLOWS: impl.LemmaRight.
-/
import Derived.Test.YtoobcodlgajieaaDoorJb
namespace Go.Proofs.YtoobcodlgajieaaDoor
open Go.RowKit
set_option linter.unusedVariables false
set_option linter.unusedSimpArgs false

/-- Does a lemma follow? -/
def LmOk (vars : Int) (css dss : List (List Int)) (zs : List Int) : Prop := (¬ 400 < dss.length ∧ ¬ 400 < zs.length) ∧ CnfR vars css ∧ MoR vars dss ∧ SpTo vars zs zs.length ∧ ¬ (uRun css dss (negW zs)).2 = -1
theorem VAt.pc {vars : Int} {bb b : Nat} {w : World} {old : Array Value} (hg : w.heap[b]? = some (.cells old 87)) : VAt 5 87 (PFh vars bb) (w.setRow b (PFh vars bb ++ List.replicate 97 (Value.int .i64 0)).toArray) b [] :=
  ⟨rfl, by rw [vL_nil]; exact setRow_heap _ _ _ _ _ _ hg⟩

set_option maxRecDepth 100000 in
set_option maxHeartbeats 4000000 in
/-- impl.LemmaRight. -/
theorem ilm_any (vars : Int) (sl : Option Addr) (cap : Nat) (cs : List LCl) (sl2 : Option Addr) (cap2 : Nat) (ds : List LCl) (sl3 : Option Addr) (cap3 : Nat) (zs : List Int) (w : World) (hn : cs.length ≤ maxLen) (hnd : ds.length ≤ maxLen) (hm : zs.length ≤ maxLen) (hwf : WfC cs) (hz : Cls w sl cs) (hd : Cls w sl2 ds) (ht : Ints w sl3 zs) (hb : ∀ z ∈ zs, -9223372036854775808 ≤ z ∧ z ≤ 9223372036854775807) (hT : TabB w) :
    Calls Tryd.prog 43 #[CV vars sl cs.length cap, .slice sl2 ds.length cap2, .slice sl3 zs.length cap3] w fun e w' => e = .returned (.bool (B (LmOk vars (bareC cs) (bareC ds) zs))) ∧ Below w.heap.size w w' := by
  have hln := hn
  have hld := hnd
  have hlt := hm
  unfold maxLen at hln hld hlt
  by_cases big : 400 < ds.length ∨ (¬ 400 < ds.length ∧ 400 < zs.length)
  · rw [B_no (fun h : LmOk vars (bareC cs) (bareC ds) zs => by have := h.1; rw [bareC_length] at this; omega)]
    clear hz hd ht hn hnd hm hb hT hwf
    generalize cs.length = n at *
    generalize ds.length = m at *
    generalize zs.length = q at *
    rcases big with h | ⟨h, h2⟩
    · have h' : (400 : Int) < (m : Int) := by omega
      go_enter Tryd.func43, Tryd.ntmps43
      go_wp2
      go_ret
      exact ⟨rfl, bA0 _ _⟩
    · have h' : ¬ (400 : Int) < (m : Int) := by omega
      have h2' : (400 : Int) < (q : Int) := by omega
      go_enter Tryd.func43, Tryd.ntmps43
      go_wp2
      go_ret
      exact ⟨rfl, bA0 _ _⟩
  have hd4 : ds.length ≤ 400 := by omega
  have hz4 : zs.length ≤ 400 := by omega
  have hd4' : ¬ (400 : Int) < (ds.length : Int) := by omega
  have hz4' : ¬ (400 : Int) < (zs.length : Int) := by omega
  have CA := Lib.hid (CnfAt.new w vars sl cs.length cap)
  have B1 := Lib.hid (bA0 w (.cells #[.int .i64 vars, .slice sl cs.length cap] 25))
  have E1 := Lib.hid (icr_any vars sl cap cs _ hn (hz.below B1.out))
  by_cases c2 : CnfR vars (bareC cs)
  case neg =>
    rw [B_no (fun h : LmOk vars (bareC cs) (bareC ds) zs => c2 h.2.1)]
    rw [B_no c2] at E1
    clear hz hd ht hn hnd hm hb hT hwf c2
    generalize cs.length = n at *
    generalize ds.length = m at *
    generalize zs.length = q at *
    go_enter Tryd.func43, Tryd.ntmps43
    go_wp2_with fail
    refine E1.out.mono ?_
    rintro e w1 ⟨rfl, b1⟩
    have D1 := Lib.hid (bT B1.out b1)
    clear b1
    go_wp2
    go_ret
    exact ⟨rfl, D1.out⟩
  have E2 : Hid (∀ W, Below w.heap.size w W → Calls Tryd.prog 52 #[.slice sl2 ds.length cap2, .int .i64 vars] W fun e w' => e = .returned (.bool (B (MoR vars (bareC ds)))) ∧ Below W.heap.size W w') := fun W hW => lr_any vars sl2 cap2 ds W c2.1.1 c2.1.2 (by omega) (hd.below hW)
  rw [B_yes c2] at E1
  by_cases c3 : MoR vars (bareC ds)
  case neg =>
    rw [B_no (fun h : LmOk vars (bareC cs) (bareC ds) zs => c3 h.2.2.1)]
    rw [B_no c3] at E2
    clear hz hd ht hn hnd hm hb hT hwf c2 c3
    generalize cs.length = n at *
    generalize ds.length = m at *
    generalize zs.length = q at *
    go_enter Tryd.func43, Tryd.ntmps43
    go_wp2_with fail
    refine E1.out.mono ?_
    rintro e w1 ⟨rfl, b1⟩
    have D1 := Lib.hid (bT B1.out b1)
    obtain ⟨t0, t1⟩ := (CA.out.below b1).cells
    have tl := (CA.out.below b1).lt
    clear b1
    go_wp2_with fail
    refine (E2.out _ D1.out).mono ?_
    rintro e w2 ⟨rfl, b2⟩
    have D2 := Lib.hid (bT D1.out b2)
    clear b2
    go_wp2
    go_ret
    exact ⟨rfl, D2.out⟩
  rw [B_yes c3] at E2
  have hlit : ∀ r ∈ cs ++ ds, (∀ z ∈ r.2, OkZ vars z) ∧ r.2.Nodup ∧ r.2.length ≤ 1000 := fun r hr => by
    rcases List.mem_append.1 hr with hr | hr
    · exact ⟨cnfR_lits c2 (fun l hl => by obtain ⟨r', hr', rfl⟩ := List.mem_map.1 hl; exact hwf r' hr') r.2 (List.mem_map.2 ⟨r, hr, rfl⟩), cnfR_dup c2 r.2 (List.mem_map.2 ⟨r, hr, rfl⟩)⟩
    · exact ⟨moR_lits c3 r.2 (List.mem_map.2 ⟨r, hr, rfl⟩), SpTo.dup (c3 r.2 (List.mem_map.2 ⟨r, hr, rfl⟩)) c2.1.2⟩
  have hEach : ∀ V, w.heap.size ≤ V.heap.size → (∀ k, k < w.heap.size → V.heap[k]? = w.heap[k]?) → ∀ r ∈ cs ++ ds, ClIn V r := fun V h1 h2 r hr => by
    rcases List.mem_append.1 hr with hr | hr
    · exact (hz.each r hr).kept h1 h2
    · exact (hd.each r hr).kept h1 h2
  have hcl : cs.length ≤ 4000 := by have := c2.2.1; rwa [bareC_length] at this
  have E3 : Hid (∀ W, Below w.heap.size w W → Calls Tryd.prog 70 #[CV vars sl cs.length cap, .slice sl2 ds.length cap2] W fun e w' => ∃ pc, e = .returned (.agg pc) ∧ Hid (pc = (PFh vars (W.heap.size + 1 + 1 + 1) ++ List.replicate 97 (Value.int .i64 0)).toArray) ∧ (∃ (vc : Value) (hs : List Value), Bk (W.heap.size + 1 + 1) (W.heap.size + 1 + 1 + 1) vc hs (cs ++ ds) (occI (bareC (cs ++ ds))) w') ∧ Below W.heap.size W w') := fun W hW => prov_any vars sl cap cs sl2 cap2 ds W (by omega) (by omega) (hz.below hW) (hd.below hW) (fun r hr => by
    obtain ⟨h1, h2, h3⟩ := hlit r hr
    have := c2.1.2
    exact ⟨fun z hz' => by have := h1 z hz'; unfold OkZ at this; omega, h2, h3⟩)
  have E4 : Hid (∀ W bb b, Below w.heap.size w W → VAt 5 87 (PFh vars bb) W b [] → Calls Tryd.prog 71 #[.pointer (some ⟨b, 0, none⟩), .slice sl3 zs.length cap3] W fun e w' => e = .returned (.bool (B (SpTo vars zs zs.length))) ∧ (SpTo vars zs zs.length → VAt 5 87 (PFh vars bb) w' b (negW zs)) ∧ Only b W w') := fun W bb b hW hv => deny_any sl3 cap3 zs W hv c2.1.1 c2.1.2 (by omega) (ht.below hW) hb
  have SM : Hid (∀ (g : Nat) (W : World) (bb : Nat), W.heap[g]? = some (.cells Tryd.zeroCells87 87) → VAt 5 87 (PFh vars bb) (W.setRow g (PFh vars bb ++ List.replicate 97 (Value.int .i64 0)).toArray) g []) := fun g W bb h => VAt.pc h
  by_cases c4 : SpTo vars zs zs.length
  · rw [B_yes c4] at E4
    have V4 := Lib.hid c4
    have hneg : SpTo vars (negW zs) (negW zs).length := by rw [negW_len]; exact (negW_sp c2.1.2 hb).2 c4
    have E5 : Hid (∀ W B9 bb b vc hs, Below w.heap.size w W → w.heap.size ≤ b → 0 < b → VAt 5 87 (PFh vars bb) W b (negW zs) → Bk B9 bb vc hs (cs ++ ds) (occI (bareC (cs ++ ds))) W → Calls Tryd.prog 72 #[.pointer (some ⟨b, 0, none⟩)] W fun e w' => e = .returned (.bool (B (LmOk vars (bareC cs) (bareC ds) zs))) ∧ Only b W w') := fun W B9 bb b vc hs hW hbw hb0 hv hk => by
      have := pcon_any (negW zs) W hv c2.1.2 hneg hk (by simp; omega) hlit (fun V hV => hEach V (Nat.le_trans hW.size hV.1) (fun k hk => (hV.2 k (by have := hW.size; omega) (by omega)).trans (hW.block k hk))) (hT.belowT hW) (by omega)
      rw [bareC_add] at this
      have e : (!((resF (bareC cs ++ bareC ds) (97 - (negW zs).length) (negW zs)).2 == -1)) = B (LmOk vars (bareC cs) (bareC ds) zs) := by
        by_cases g : (uRun (bareC cs) (bareC ds) (negW zs)).2 = -1
        · rw [B_no (fun h : LmOk vars (bareC cs) (bareC ds) zs => h.2.2.2.2 g)]
          unfold uRun at g
          simp [g]
        · rw [B_yes (show LmOk vars (bareC cs) (bareC ds) zs from ⟨⟨by rw [bareC_length]; omega, by omega⟩, c2, c3, c4, g⟩)]
          unfold uRun at g
          simp [g]
      rw [e] at this
      exact this
    clear hz hd ht hn hnd hm hb hT hwf c2 c3 c4 hlit hEach hneg
    generalize B (LmOk vars (bareC cs) (bareC ds) zs) = r at *
    generalize bareC (cs ++ ds) = css at *
    generalize cs ++ ds = ls at *
    generalize cs.length = n at *
    generalize ds.length = m at *
    have HQ := Lib.hid (show SpTo vars zs zs.length from V4.out)
    clear V4
    generalize hQ : SpTo vars zs zs.length = Q at *
    clear hQ
    generalize negW zs = ys at *
    generalize zs.length = q at *
    go_enter Tryd.func43, Tryd.ntmps43
    go_wp2_with fail
    refine E1.out.mono ?_
    rintro e w1 ⟨rfl, b1⟩
    have D1 := Lib.hid (bT B1.out b1)
    have C1 := Lib.hid (CA.out.below b1)
    obtain ⟨t0, t1⟩ := C1.out.cells
    have tl := C1.out.lt
    clear b1 CA E1 B1
    go_wp2_with fail
    refine (E2.out _ D1.out).mono ?_
    rintro e w2 ⟨rfl, b2⟩
    have D2 := Lib.hid (bT D1.out b2)
    have C2 := Lib.hid (C1.out.below b2)
    clear b2 C1 D1 t0 t1 tl E2
    obtain ⟨t0, t1⟩ := C2.out.cells
    have tl := C2.out.lt
    go_wp2_with fail
    refine (E3.out _ D2.out).mono ?_
    rintro e w3 ⟨pc, rfl, HP, ⟨vc, hs, k3⟩, b3⟩
    have D3 := Lib.hid (bT D2.out b3)
    have hs3 := D3.out.size
    have hpos : 0 < w3.heap.size := by have := b3.size; omega
    generalize w2.heap.size + 1 + 1 + 1 = bb at *
    generalize w2.heap.size + 1 + 1 = B9 at *
    have NW := new_at w3 (.cells Tryd.zeroCells87 87)
    have HS : Hid (pc.size = 102 ∧ pc.all (·.oneCell') = true) := by
      have := HP.out
      subst this
      exact ⟨size87 _ _, one87 _ _⟩
    have O4 : Only w3.heap.size (w3.alloc (.cells Tryd.zeroCells87 87)) ((w3.alloc (.cells Tryd.zeroCells87 87)).setRow w3.heap.size pc) := Only.setRow _ _
    have K4 := Lib.hid ((k3.below (bA0 w3 (.cells Tryd.zeroCells87 87))).only O4 NW (by decide))
    have D4 := Lib.hid (Only.below (bA D3.out (.cells Tryd.zeroCells87 87)) hs3 O4)
    have V4 : Hid (VAt 5 87 (PFh vars bb) ((w3.alloc (.cells Tryd.zeroCells87 87)).setRow w3.heap.size pc) w3.heap.size []) := by
      have := SM.out w3.heap.size (w3.alloc (.cells Tryd.zeroCells87 87)) bb NW
      rw [← HP.out] at this
      exact this
    have C4 := Lib.hid (E4.out _ bb w3.heap.size D4.out V4.out)
    clear b3 k3 C2 D2 t0 t1 tl E3 E4 O4 SM
    go_wp2_with (first | (refine wpList_store_row rfl 87 _ _ rfl w3.heap.size pc (by rfl) (by rfl) 87 _ NW (by rw [HS.out.1]; exact info87) (by rw [HS.out.1]; exact zero87) HS.out.2 ?_))
    generalize (w3.alloc (.cells Tryd.zeroCells87 87)).setRow w3.heap.size pc = w4 at *
    generalize w3.heap.size = b at *
    clear NW
    refine C4.out.mono ?_
    rintro e w5 ⟨rfl, hv5, o5⟩
    have V5 := hv5 HQ.out
    have K5 := K4.out.only o5 V4.out.2 (by decide)
    have D5 := Only.below D4.out hs3 o5
    have C5 := Lib.hid (E5.out w5 _ bb b vc hs D5 hs3 hpos V5 K5)
    have D5' := Lib.hid D5
    clear hv5 o5 V5 K5 D5 C4 E5 V4 K4 D4
    go_wp2_with fail
    refine C5.out.mono ?_
    rintro e w6 ⟨rfl, o6⟩
    have D6 := Lib.hid (Only.below D5'.out hs3 o6)
    clear o6 C5
    go_wp2
    go_ret
    exact ⟨rfl, D6.out⟩
  · rw [B_no (fun h : LmOk vars (bareC cs) (bareC ds) zs => c4 h.2.2.2.1)]
    rw [B_no c4] at E4
    clear hz hd ht hn hnd hm hb hT hwf c2 c3 hlit hEach
    generalize bareC (cs ++ ds) = css at *
    generalize cs ++ ds = ls at *
    generalize cs.length = n at *
    generalize ds.length = m at *
    generalize hQ : SpTo vars zs zs.length = Q at *
    clear hQ c4
    generalize negW zs = ys at *
    generalize zs.length = q at *
    go_enter Tryd.func43, Tryd.ntmps43
    go_wp2_with fail
    refine E1.out.mono ?_
    rintro e w1 ⟨rfl, b1⟩
    have D1 := Lib.hid (bT B1.out b1)
    have C1 := Lib.hid (CA.out.below b1)
    obtain ⟨t0, t1⟩ := C1.out.cells
    have tl := C1.out.lt
    clear b1 CA E1 B1
    go_wp2_with fail
    refine (E2.out _ D1.out).mono ?_
    rintro e w2 ⟨rfl, b2⟩
    have D2 := Lib.hid (bT D1.out b2)
    have C2 := Lib.hid (C1.out.below b2)
    clear b2 C1 D1 t0 t1 tl E2
    obtain ⟨t0, t1⟩ := C2.out.cells
    have tl := C2.out.lt
    go_wp2_with fail
    refine (E3.out _ D2.out).mono ?_
    rintro e w3 ⟨pc, rfl, HP, ⟨vc, hs, k3⟩, b3⟩
    have D3 := Lib.hid (bT D2.out b3)
    have hs3 := D3.out.size
    have hpos : 0 < w3.heap.size := by have := b3.size; omega
    generalize w2.heap.size + 1 + 1 + 1 = bb at *
    generalize w2.heap.size + 1 + 1 = B9 at *
    have NW := new_at w3 (.cells Tryd.zeroCells87 87)
    have HS : Hid (pc.size = 102 ∧ pc.all (·.oneCell') = true) := by
      have := HP.out
      subst this
      exact ⟨size87 _ _, one87 _ _⟩
    have O4 : Only w3.heap.size (w3.alloc (.cells Tryd.zeroCells87 87)) ((w3.alloc (.cells Tryd.zeroCells87 87)).setRow w3.heap.size pc) := Only.setRow _ _
    have K4 := Lib.hid ((k3.below (bA0 w3 (.cells Tryd.zeroCells87 87))).only O4 NW (by decide))
    have D4 := Lib.hid (Only.below (bA D3.out (.cells Tryd.zeroCells87 87)) hs3 O4)
    have V4 : Hid (VAt 5 87 (PFh vars bb) ((w3.alloc (.cells Tryd.zeroCells87 87)).setRow w3.heap.size pc) w3.heap.size []) := by
      have := SM.out w3.heap.size (w3.alloc (.cells Tryd.zeroCells87 87)) bb NW
      rw [← HP.out] at this
      exact this
    have C4 := Lib.hid (E4.out _ bb w3.heap.size D4.out V4.out)
    clear b3 k3 C2 D2 t0 t1 tl E3 E4 O4 SM
    go_wp2_with (first | (refine wpList_store_row rfl 87 _ _ rfl w3.heap.size pc (by rfl) (by rfl) 87 _ NW (by rw [HS.out.1]; exact info87) (by rw [HS.out.1]; exact zero87) HS.out.2 ?_))
    generalize (w3.alloc (.cells Tryd.zeroCells87 87)).setRow w3.heap.size pc = w4 at *
    generalize w3.heap.size = b at *
    clear NW
    refine C4.out.mono ?_
    rintro e w5 ⟨rfl, hv5, o5⟩
    have D5 := Lib.hid (Only.below D4.out hs3 o5)
    clear hv5 o5 C4 V4 K4 D4
    go_wp2
    go_ret
    exact ⟨rfl, D5.out⟩

end Go.Proofs.YtoobcodlgajieaaDoor
