/-
  ALL LINES SCANNED BY THE PROGRAM: (*scanner).clauses, with lemmaTold.
-/
import Derived.Test.YtoncpiaboceefaaDoorFo
import Derived.Stop.IfaceNil
import Derived.Maps.AppendAt
import Derived.Deep.RegionHeld3
namespace Go.Proofs.YtoncpiaboceefaaDoor
open Go.RowKit
set_option linter.unusedVariables false

theorem wf_mid {a : Int} (h : -4000 ≤ a ∧ a ≤ 4000) : wfI a := by
  unfold wfI
  have e1 : IntKind.i64.min = -9223372036854775808 := by rfl
  have e2 : IntKind.i64.max = 9223372036854775807 := by rfl
  simp [Lit.wf, e1, e2]
  omega
theorem own_cut {w : World} {B : Nat} {e : TypeId} {g n cap : Nat} {xs : List Value} (h : w.ownsRow B e 1 (.slice (some ⟨g, 0, none⟩) n cap) n xs) (k : Nat) (hk : k ≤ n) : w.ownsRow B e 1 (.slice (some ⟨g, 0, none⟩) k cap) k (xs.take k) := by
  obtain ⟨h1, h2⟩ := h
  refine ⟨by rw [List.length_take, h1]; omega, ?_⟩
  rcases h2 with ⟨hv, -⟩ | ⟨g', cap', cur, hv, hb, hh, hn, hc, hs, ht⟩
  · cases hv
  · cases hv
    refine .inr ⟨g, cap, cur, rfl, hb, hh, by omega, hc, hs, ?_⟩
    rw [← ht, List.take_take]
    congr 1
    omega
theorem own_some {w : World} {B : Nat} {e : TypeId} {m : Nat} {v : Value} {n : Nat} {xs : List Value} (h : w.ownsRow B e m v n xs) (hn : 0 < n) : ∃ g cap, v = .slice (some ⟨g, 0, none⟩) n cap ∧ n ≤ cap := by
  rcases h.2 with ⟨_, h0⟩ | ⟨g, cap, cur, rfl, _, _, hc, _⟩
  · omega
  · exact ⟨g, cap, rfl, hc⟩
theorem OwC.only {b B : Nat} {w w' : World} {v : Value} {cs : List LCl} (h : OwC w B v cs) (ho : Only b w w') (hb : b < B) : OwC w' B v cs :=
  ⟨own_only h.row ho hb, fun r hr => own_only (h.each r hr) ho hb, h.diff⟩
theorem OwC.drew {w : World} {B : Nat} {v : Value} {cs : List LCl} (h : OwC w B v cs) : OwC w.drew B v cs := ⟨h.row, h.each, h.diff⟩
theorem Only.grownF {b : Nat} {w0 w w' : World} {row : Option Nat} (h : Only b w0 w) (hg : w.grownBy w' row) (hr : ∀ j, row = some j → w0.heap.size ≤ j) : Only b w0 w' :=
  ⟨hg.os.trans h.os, hg.tape.trans h.tape, hg.output.trans h.output, Nat.le_trans h.size hg.size, fun k hk hb => (hg.block k (Nat.lt_of_lt_of_le hk h.size) (fun e => by have := hr k e.symm; omega)).trans (h.block k hk hb)⟩
theorem ScAt.grownF {w w' : World} {b : Nat} {s : ByteArray} {p : Nat} {ln : Int} {row : Option Nat} (h : ScAt w b s p ln) (hg : w.grownBy w' row) (hr : row ≠ some b) : ScAt w' b s p ln := (hg.block b (Array.getElem?_eq_some_iff.1 h).1 (fun e => hr e.symm)).trans h
theorem valsZ_take (zs : List Int) (k : Nat) : valsZ (zs.take k) = (valsZ zs).take k := by simp [valsZ, List.map_take]
/-- What is scanned of a text. -/
noncomputable def readR (s : ByteArray) : List (List Int) × Nat × Bool := specR 0 [] (splitL 10 s.data.toList)
def ClPost (s : ByteArray) (b : Nat) (w : World) (e : Ending) (w' : World) : Prop :=
  (((readR s).2.2 = true ∧ ∃ v cs, e = .returned (.tuple #[v, .nilIface]) ∧ bareC cs = (readR s).1 ∧ OwC w' w.heap.size v cs) ∨
   ((readR s).2.2 = false ∧ e = .returned (.tuple #[.slice none 0 0, .iface 136 (.agg #[.int .i64 ((readR s).2.1 : Nat)])]))) ∧ Only b w w'
theorem lef_zero (s : ByteArray) : lef s 0 = s.data.toList := by simp [lef]
theorem lef_nil (s : ByteArray) (p : Nat) (h : s.size ≤ p) : lef s p = [] := by unfold lef; exact List.drop_of_length_le (by simp; omega)
theorem lef_len (s : ByteArray) (p : Nat) : (lef s p).length = s.size - p := by simp [lef]
theorem lef_ne (s : ByteArray) (p : Nat) (h : p < s.size) : lef s p ≠ [] := fun e => by have := lef_len s p; rw [e] at this; simp at this; omega

set_option maxRecDepth 100000 in
set_option maxHeartbeats 2000000 in
theorem cl_any (b : Nat) (s : ByteArray) (w : World) (h : ScAt w b s 0 0) (hs : s.size ≤ 20000) :
    Calls Tryd.prog 96 #[.pointer (some ⟨b, 0, none⟩), .int .i64 0, .int .i64 400, .func (.func 45) #[] #[]] w fun e w' => ClPost s b w e w' := by
  obtain ⟨i40, hi0, hz0, hz1, hz2⟩ := info_parts info40
  have hbl : b < w.heap.size := (Array.getElem?_eq_some_iff.1 h).1
  have S0 := Lib.hid (h.below (bA0 w (.cells #[.func (.func 45) #[] #[]] 67)))
  have N0 := Lib.hid (new_at w (.cells #[.func (.func 45) #[] #[]] 67))
  have PY : Hid (∀ w' v cs, Only b w w' → OwC w' w.heap.size v cs → (readR s) = (bareC cs, 0, true) → ClPost s b w (.returned (.tuple #[v, .nilIface])) w') := fun w' v cs ho hc hr => ⟨.inl ⟨by rw [hr], v, cs, rfl, by rw [hr], hc⟩, ho⟩
  have PN : Hid (∀ (w' : World) (k : Nat), Only b w w' → (readR s) = ([], k, false) → ClPost s b w (.returned (.tuple #[.slice none 0 0, .iface 136 (.agg #[.int .i64 (k : Int)])])) w') := fun w' k ho hr => ⟨.inr ⟨by rw [hr], by rw [hr]⟩, ho⟩
  have HR : Hid (specR 0 [] (splitL 10 (lef s 0)) = readR s) := by show _ = _; rw [lef_zero]; rfl
  clear h
  go_enter Tryd.func96, Tryd.ntmps96
  go_wp2_with fail
  go_loopw [11] (fun v wr => ∃ (cs : List LCl) (p : Nat), cs.length ≤ 400 ∧ p ≤ s.size ∧ Hid (ScAt wr b s p (cs.length : Nat)) ∧ Hid (Only b (w.alloc (.cells #[.func (.func 45) #[] #[]] 67)) wr) ∧ Hid (OwC wr (w.heap.size + 1) v cs) ∧ Hid (specR cs.length (bareC cs) (splitL 10 (lef s p)) = readR s)) (fun _ wr => s.size - posB wr b)
  case atStart => exact ⟨[], 0, Nat.zero_le _, Nat.zero_le _, S0.out, Only.refl _ _, OwC.nil _ _, HR.out⟩
  case round =>
    obtain ⟨cs, p, hk, hp, H1, H2, H3, H4⟩ := hrel
    obtain ⟨sl, cap, rfl⟩ := H3.out.v
    have hsz : (w.alloc (.cells #[.func (.func 45) #[] #[]] 67)).heap.size = w.heap.size + 1 := by simp
    have hwr : w.heap.size + 1 ≤ wr.heap.size := by have := H2.out.size; omega
    have ON : Hid (Only b w wr) := (Only.of_below (bA0 w (.cells #[.func (.func 45) #[] #[]] 67))).trans H2.out
    have hmu : posB wr b = p := H1.out.pos
    have h96 : Tryd.prog.isIface 96 = true := by kernel_rfl
    have hps : (p : Int) ≤ (s.size : Int) := by omega
    have hp0 : (0 : Int) ≤ (p : Int) := by omega
    obtain ⟨c0, c1, c2, cf, clt⟩ := cellsS3 H1.out
    generalize hN : cs.length = n at *
    have HN := Lib.hid hN
    clear hN
    have hn0 : decide ((n : Int) < 0) = false := by simp
    have PX : Hid (wr.drew.cell? ⟨b, 1, none⟩ = some (.int .i64 p) ∧ wr.drew.cell? ⟨b, 0, none⟩ = some (.string s)) := ⟨c1, c0⟩
    by_cases h1 : p < s.size
    · have h1' : (p : Int) < (s.size : Int) := by omega
      go_wp2_with fail
      go_region_held3 (fun w' => w'.cell? ⟨b, 1, none⟩ = some (.int .i64 p) ∧ w'.cell? ⟨b, 0, none⟩ = some (.string s)) (first | exact PX.out) (fail)
      have S1 : Hid (ScAt wr.drew b s p (n : Nat)) := H1.out
      have O1 : Hid (Only b (w.alloc (.cells #[.func (.func 45) #[] #[]] 67)) wr.drew) := H2.out.drew
      have C1 : Hid (OwC wr.drew (w.heap.size + 1) (.slice sl n cap) cs) := H3.out.drew
      have ON1 : Hid (Only b w wr.drew) := ON.out.drew
      have hW1 : w.heap.size + 1 ≤ wr.drew.heap.size := hwr
      clear H1 H2 H3 PX ON c0 c1 c2 cf
      generalize wr.drew = W1 at *
      by_cases h4 : n = 400
      · subst h4
        have FR := Lib.hid (spec_full 400 (bareC cs) (lef s p) (lef_ne s p h1) (Nat.le_refl _))
        have FA := Lib.hid (fa_any b s p ((400 : Nat) : Int) W1 S1.out)
        go_wp2_with fail
        refine FA.out.mono ?_
        rintro e w5 ⟨rfl, rfl⟩
        go_wp2
        exact bodyPost_ret (v := .tuple #[.slice none 0 0, .iface 136 (.agg #[.int .i64 ((400 : Nat) : Int)])]) (by simp [results, Tryd.results96, go_sem]) rfl (PN.out _ 400 ON1.out (by rw [← H4.out]; exact FR.out))
      · have h4' : ((n : Int) == 400) = false := by rw [beq_eq_false_iff_ne]; omega
        have NU : Hid (Calls Tryd.prog 123 #[.pointer (some ⟨b, 0, none⟩), .func (.func 135) #[] #[.pointer (some ⟨w.heap.size, 0, none⟩)]] W1 fun e w' => NumsPost W1 b s (n : Nat) (scan closB (3 * (s.size - p) + 1) .word [] (lef s p)) e w') := by
          refine nu_any b w.heap.size s p (n : Nat) closB W1 S1.out hp (by omega) ⟨by omega, by omega⟩ ?_
          intro W v zs hO hown hz1 hsm
          obtain ⟨g, cp, rfl, -, hg, hcp, hmx, hcell⟩ := own_cells hown (by omega)
          refine clo_any g 0 cp w.heap.size zs W hz1 (by omega) hcp (fun z hz => ?_) ⟨hg, fun i hi => ?_⟩ ?_ ?_
          · have := hsm z hz
            exact wf_mid (by omega)
          · rw [Nat.zero_add, hcell i hi]; simp [valsZ, hi]
          · exact Nat.lt_of_lt_of_le (by omega) hO.size
          · have hx : W1.cell? ⟨w.heap.size, 0, none⟩ = some (.func (.func 45) #[] #[]) := by
              rw [O1.out.cell (by omega) (by omega)]
              simp only [World.cell?, N0.out]
              rfl
            rw [hO.cell (by omega) (by omega)]; exact hx
        have HL := lef_len s p
        generalize hRES : scan closB (3 * (s.size - p) + 1) .word [] (lef s p) = RES at *
        have HRES := Lib.hid hRES
        clear hRES
        go_wp2_with fail
        refine NU.out.mono ?_
        rintro e w5 (⟨ms, r, v5, p5, rfl, rfl, own5, s5, hl5, hp5, hm5, hsm, o5⟩ | ⟨rfl, rfl, ⟨p5, s5⟩, o5⟩)
        · obtain ⟨q1, q2, q3⟩ := scan_yes HRES.out
          have SY : Hid (specR (n + 1) (bareC cs ++ [ms.dropLast]) (splitL 10 (lef s p5)) = readR s) := by
            show _ = _
            rw [hl5]
            exact (spec_yes n _ (bareC cs) (lef s p) r ms (by omega) HRES.out).symm.trans H4.out
          have hml : ms.length = ms.dropLast.length + 1 := by
            have := congrArg List.length q2
            simpa using this
          have hp9 : p < p5 := by
            have e := congrArg List.length q3
            rw [List.length_append, List.length_cons, HL, ← hl5, lef_len] at e
            omega
          obtain ⟨g, cp, rfl, hgB, hg5, hcp, hmx, -⟩ := own_cells own5 (by omega)
          have C5 := Lib.hid (C1.out.only o5 (by omega))
          have R5 : Hid (w5.ownsRow W1.heap.size 2 1 (.slice (some ⟨g, 0, none⟩) ms.dropLast.length cp) ms.dropLast.length (valsZ ms.dropLast)) := by
            have := own_cut own5 ms.dropLast.length (by omega)
            rw [← valsZ_take] at this
            rw [List.dropLast_eq_take] at this ⊢
            have e : (ms.take (ms.length - 1)).length = ms.length - 1 := by rw [List.length_take]; omega
            rw [e] at this ⊢
            exact this
          have hf5 : Hid (∀ j, Value.ownBlock (.slice (some ⟨g, 0, none⟩) ms.dropLast.length cp) = some j → ∀ t ∈ cs, t.1.ownBlock ≠ some j) := fun j hj t ht e => by
            obtain rfl : g = j := by cases hj; rfl
            have := ((C1.out.each t ht).lt g e).2
            omega
          have hown : Hid (w5.ownsRow (w.heap.size + 1) 68 1 (.slice sl n cap) n (hdC cs)) := by
            have := C5.out.row
            rwa [HN.out] at this
          have S5 := Lib.hid s5
          have OT := Lib.hid (O1.out.trans o5)
          have hw5 : w.heap.size + 1 ≤ w5.heap.size := Nat.le_trans hW1 o5.size
          have hd : ((ms.length : Int) - 1) = (ms.dropLast.length : Int) := by omega
          have hd2 : (ms.dropLast.length : Int) ≤ (cp : Int) := by omega
          have hd3 : (0 : Int) ≤ (ms.dropLast.length : Int) := by omega
          have hd4 : wrap64 (ms.dropLast.length : Int) = (ms.dropLast.length : Int) := by unfold wrap64; omega
          have hmp := S5.out.pos
          clear own5 s5 o5 q3 q2 NU hl5 HL hd
          rw [hml] at *
          generalize hD : ms.dropLast = ds at *
          generalize hdn : ds.length = d at *
          have HDN := Lib.hid hdn
          clear hdn hD hml
          go_wp2_with (first | (at_builtin; refine wpList_append_lies _ rfl (.tmp 46) (.tmp 52) 23 rfl (w.heap.size + 1) 68 i40 (.slice none 0 0) 1 24 Tryd.underlying23 hi0 hz0 hz1 hz2 rfl (by decide) _ _ _ rfl (own_below hown.out (bA0 _ _)) ⟨w5.heap.size, 0, none⟩ 1 1 [.slice (some ⟨g, 0, none⟩) d cp] rfl rfl (cell_one_new _ _ _) (by intro u hu; simp at hu; rcases hu with rfl; rfl) (by decide) (by unfold maxLen; omega) (by omega) (by simp; omega) (w5.heap.size + 1) (by simp) ?_))
          intro g9 cap9 w9 own9 grow9 hg9 hlt9
          have RD : Hid (w5.ownsRow W1.heap.size 2 1 (.slice (some ⟨g, 0, none⟩) ds.length cp) ds.length (valsZ ds)) := by
            have := R5.out
            rwa [← HDN.out] at this
          have C9 : Hid (OwC w9 (w.heap.size + 1) (.slice (some ⟨g9, 0, none⟩) (n + 1) cap9) (cs ++ [(.slice (some ⟨g, 0, none⟩) d cp, ds)])) := by
            refine C5.out.add (bA0 w5 (.cells #[.slice (some ⟨g, 0, none⟩) d cp] 68)) ?_ hf5.out grow9 (by rw [HN.out]; exact own9)
            have := own_below (own_mono RD.out hW1) (bA0 w5 (.cells #[.slice (some ⟨g, 0, none⟩) d cp] 68))
            rwa [HDN.out] at this ⊢
          have hbr : ∀ j, Value.ownBlock (.slice sl n cap) = some j → w.heap.size + 1 ≤ j := fun j hj => (hown.out.lt j hj).1
          have S9 : Hid (ScAt w9 b s p5 ((n + 1 : Nat) : Int)) := by
            have := (S5.out.below (bA0 w5 (.cells #[.slice (some ⟨g, 0, none⟩) d cp] 68))).grownF grow9 (fun e => by have := hbr b e; omega)
            exact this
          have O9 : Hid (Only b (w.alloc (.cells #[.func (.func 45) #[] #[]] 67)) w9) := (OT.out.trans (Only.of_below (bA0 w5 (.cells #[.slice (some ⟨g, 0, none⟩) d cp] 68)))).grownF grow9 (fun j hj => by have := hbr j hj; omega)
          have hm9 := S9.out.pos
          have HL9 : Hid ((cs ++ [((.slice (some ⟨g, 0, none⟩) d cp : Value), ds)]).length = n + 1) := by show _ = _; rw [List.length_append, HN.out]; rfl
          have HB9 : Hid (bareC (cs ++ [((.slice (some ⟨g, 0, none⟩) d cp : Value), ds)]) = bareC cs ++ [ds]) := by show _ = _; rw [bareC_add]; rfl
          clear own9 grow9 hg9 hlt9
          go_wp2
          go_roundw
          case rel => exact ⟨_, p5, by rw [HL9.out]; omega, hp5, by rw [HL9.out]; exact S9.out, O9.out, C9.out, by rw [HL9.out, HB9.out]; exact SY.out⟩
          case measure => rw [hm9, hmu]; omega
        · have FR := Lib.hid (spec_no n (3 * (s.size - p) + 1) (bareC cs) (lef s p) (lef_ne s p h1) (by omega) HRES.out)
          have ON5 := Lib.hid (ON1.out.trans o5)
          go_wp2
          exact bodyPost_ret (v := .tuple #[.slice none 0 0, .iface 136 (.agg #[.int .i64 (n : Int)])]) (by simp [results, Tryd.results96, go_sem]) rfl (PN.out _ n ON5.out (by rw [← H4.out]; exact FR.out))
    · have h1' : ¬ (p : Int) < (s.size : Int) := by omega
      go_wp2_with fail
      go_region_held3 (fun w' => w'.cell? ⟨b, 1, none⟩ = some (.int .i64 p) ∧ w'.cell? ⟨b, 0, none⟩ = some (.string s)) (first | exact PX.out) (fail)
      have C1 : Hid (OwC wr.drew w.heap.size (.slice sl n cap) cs) := OwC.mono H3.out.drew (by omega)
      have ON1 : Hid (Only b w wr.drew) := ON.out.drew
      have FR := Lib.hid (spec_nil n (bareC cs))
      have FL := Lib.hid (lef_nil s p (by omega))
      clear H1 H2 H3 PX ON c0 c1 c2 cf
      generalize wr.drew = W1 at *
      go_wp2
      exact bodyPost_ret (v := .tuple #[.slice sl n cap, .nilIface]) (by simp [results, Tryd.results96, go_sem]) rfl (PY.out _ _ _ ON1.out C1.out (by rw [← H4.out, FL.out]; exact FR.out))

end Go.Proofs.YtoncpiaboceefaaDoor
