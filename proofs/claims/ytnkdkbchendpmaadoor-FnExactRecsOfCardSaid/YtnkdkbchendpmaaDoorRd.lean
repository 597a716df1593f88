/-
  A BODY's RECORD, AS THE PROGRAM READS IT.
-/
import Derived.Test.YtnkdkbchendpmaaDoorRc
import Derived.Deep.RegionLaw
namespace Go.Proofs.YtnkdkbchendpmaaDoor
open Go.RowKit
set_option linter.unusedVariables false

def valsZ (zs : List Int) : List Value := zs.map (Value.int .i64)
theorem Nums9.lt {l : List UInt8} {vs : List Nat} (h : Nums9 l vs) : ∀ v ∈ vs, v < 9223372036854775808 := by
  induction h with
  | nil => intro v hv; cases hv
  | @cons v l vs hl r ih =>
    intro u hu
    rcases List.mem_cons.1 hu with rfl | hu
    · have := rdN_lt (rdN_numB 9 u [] hl); exact this
    · exact ih u hu
theorem Nums9.len {l : List UInt8} {vs : List Nat} (h : Nums9 l vs) : vs.length ≤ l.length := by
  induction h with
  | nil => simp
  | @cons v l vs hl r ih =>
    have : 1 ≤ (numB v).length := by
      cases e : numB v with
      | nil => exact absurd e (numB_ne v)
      | cons a r => simp
    simp; omega
/-- A row of values that lies in block g. -/
theorem own_cells {w : World} {B : Nat} {v : Value} {n : Nat} {xs : List Value} (h : w.ownsRow B 2 1 v n xs) (hn : 0 < n) :
    ∃ g cap, v = .slice (some ⟨g, 0, none⟩) n cap ∧ B ≤ g ∧ g < w.heap.size ∧ n ≤ cap ∧ cap ≤ maxLen ∧ ∀ j, j < n → w.cell? ⟨g, j, none⟩ = xs[j]? := by
  rcases h.2 with ⟨_, h0⟩ | ⟨g, cap, cur, hv, hb, hg, hcap, hmx, hcur, hx⟩
  · omega
  · refine ⟨g, cap, hv, hb, (Array.getElem?_eq_some_iff.1 hg).1, hcap, hmx, fun j hj => ?_⟩
    rw [← hx, List.getElem?_take_of_lt (by omega)]
    simp [World.cell?, hg]
theorem own_ints {w : World} {B : Nat} {v : Value} {zs : List Int} (h : w.ownsRow B 2 1 v zs.length (valsZ zs)) : ∃ sl cap, v = .slice sl zs.length cap ∧ Ints w sl zs := by
  by_cases hn : 0 < zs.length
  · obtain ⟨g, cap, rfl, _, hg, _, _, hc⟩ := own_cells h hn
    exact ⟨_, _, rfl, .inr ⟨g, 0, rfl, hg, fun i hi => by rw [Nat.zero_add, hc i hi]; simp [valsZ, hi]⟩⟩
  · have e : zs = [] := List.eq_nil_of_length_eq_zero (by omega)
    subst e
    rcases h.2 with ⟨hv, _⟩ | ⟨g, cap, cur, hv, _⟩
    · exact ⟨none, 0, hv, .inl rfl⟩
    · exact ⟨_, cap, hv, .inl rfl⟩
theorem own_mono {w : World} {B B' : Nat} {e : TypeId} {m : Nat} {v : Value} {n : Nat} {xs : List Value} (h : w.ownsRow B e m v n xs) (hB : B' ≤ B) : w.ownsRow B' e m v n xs := by
  refine ⟨h.1, ?_⟩
  rcases h.2 with h | ⟨g, cap, cur, hv, hg, r⟩
  · exact .inl h
  · exact .inr ⟨g, cap, cur, hv, Nat.le_trans hB hg, r⟩
theorem RAt.froz {t : TypeId} {w : World} {b : Nat} {k : Int} {sl : Option Addr} {n cap : Nat} (h : RAt t w b k sl n cap) (o : Nat) : w.frozen? ⟨b, o, none⟩ = false := by
  unfold RAt at h
  simp [World.frozen?, h]

/-- A record whose numbers are v, in a block of its own. -/
def VAt (w : World) (b : Nat) (a : Int) (v : Value) : Prop := w.heap[b]? = some (.cells #[.int .i64 a, v] 28)
theorem VAt.cells {w : World} {b : Nat} {a : Int} {v : Value} (h : VAt w b a v) : w.cell? ⟨b, 0, none⟩ = some (.int .i64 a) ∧ w.cell? ⟨b, 1, none⟩ = some v ∧ (∀ o, w.frozen? ⟨b, o, none⟩ = false) ∧ b < w.heap.size := by
  have hl := (Array.getElem?_eq_some_iff.1 h).1
  unfold VAt at h
  refine ⟨?_, ?_, fun o => ?_, hl⟩
  · simp [World.cell?, h]
  · simp [World.cell?, h]
  · simp [World.frozen?, h]
theorem VAt.of {w w' : World} {b : Nat} {a : Int} {v : Value} (h : VAt w b a v) (e : w'.heap[b]? = w.heap[b]?) : VAt w' b a v := e.trans h
theorem VAt.set {w : World} {b : Nat} {a : Int} {v : Value} (h : VAt w b a v) (u : Value) : VAt (w.setCell ⟨b, 1, none⟩ u) b a u := heap_setCell_same w b 1 _ 28 _ h
theorem VAt.new (w : World) (a : Int) (v : Value) : VAt (w.alloc (.cells #[.int .i64 a, v] 28)) w.heap.size a v := by
  show (w.heap.push _)[w.heap.size]? = _
  simp
theorem own_set {w : World} {B : Nat} {v : Value} {n : Nat} {xs : List Value} (h : w.ownsRow B 2 1 v n xs) {b : Nat} (hb : b < B) (i : Nat) (u : Value) : (w.setCell ⟨b, i, none⟩ u).ownsRow B 2 1 v n xs := by
  refine ⟨h.1, ?_⟩
  rcases h.2 with h | ⟨g, cap, cur, hv, hg, hh, r⟩
  · exact .inl h
  · exact .inr ⟨g, cap, cur, hv, hg, (Below.heap_setCell _ _ _ _ (show g ≠ b by omega)).trans hh, r⟩

def RecPost (B : Nat) (l : List UInt8) (w : World) (e : Ending) (w' : World) : Prop :=
  (∃ k zs v, IsBody l k zs ∧ e = .returned (.tuple #[.agg #[.int .i64 k, v], .bool true]) ∧ w'.ownsRow B 2 1 v zs.length (valsZ zs) ∧ Below B w w') ∨
  ((∀ k zs, ¬ IsBody l k zs) ∧ e = .returned (.tuple #[.agg #[.int .i64 0, .slice none 0 0], .bool false]) ∧ Below B w w')

theorem no_body {l : List UInt8} {vs : List Nat} (h : Nums9 l vs) {k : Int} {zs : List Int} (hb : IsBody l k zs) : vs = k.toNat :: zs.length :: zs.map signN := by
  have := body_nums hb.1
  rw [← hb.2] at this
  exact h.uniq this

set_option maxRecDepth 100000 in
set_option maxHeartbeats 1000000 in
theorem recOf_any (s : ByteArray) (hs : s.size ≤ 20000) (w : World) :
    Calls Tryd.prog 45 #[.string s] w fun e w' => RecPost w.heap.size s.data.toList w e w' := by
  obtain ⟨i0, hi, hz0, hz1, hz2⟩ := info_parts info2'
  have NI := Lib.hid (fun w => nums_any s hs w)
  have HL : Hid (s.data.toList.length ≤ 20000) := by show _ ≤ _; simpa using hs
  generalize s.data.toList = l at *
  go_enter Tryd.func45, Tryd.ntmps45
  go_wp2_with fail
  refine (NI.out _).mono ?_
  have hR0 := RAt.new 28 w 0 none 0 0
  rintro e w1 (⟨vs, v, hvs, rfl, hown, b1⟩ | ⟨hno, rfl, b1⟩)
  · have R1 := Lib.hid (hR0.below b1)
    have B1 : Hid (Below w.heap.size w w1) := bT (bA0 _ _) b1
    have HV := Lib.hid hvs
    have HO := Lib.hid (own_mono hown (show w.heap.size + 1 ≤ _ by show _ ≤ (w.heap.push _).size; simp))
    obtain ⟨c0, c1⟩ := R1.out.cells
    have f0 := R1.out.froz
    clear b1 hvs hown NI hR0
    by_cases h2 : vs.length < 2
    · have F : Hid (∀ k zs, ¬ IsBody l k zs) := fun k zs hb => by have := no_body HV.out hb; rw [this] at h2; simp only [List.length_cons] at h2; omega
      have h2' : (vs.length : Int) < 2 := by omega
      obtain ⟨sl, cap, rfl⟩ : ∃ sl cap, v = .slice sl vs.length cap := by
        rcases HO.out.2 with ⟨hv, h0⟩ | ⟨g, cap, cur, hv, _⟩
        · exact ⟨none, 0, by rw [h0]; exact hv⟩
        · exact ⟨_, cap, hv⟩
      clear HV HO
      generalize vs.length = n at *
      go_wp2
      exact bodyPost_ret (v := .tuple #[.agg #[.int .i64 0, .slice none 0 0], .bool false]) (by simp [results, Tryd.results45, go_sem, c0, c1]) rfl (.inr ⟨F.out, rfl, (B1.out.setCell (Nat.le_refl _) _).setCell (Nat.le_refl _) _⟩)
    · obtain ⟨a, m, rest, rfl⟩ : ∃ a m rest, vs = a :: m :: rest := by
        clear HV HO c0 c1 f0 R1 B1
        rcases vs with _ | ⟨a, _ | ⟨m, rest⟩⟩
        · simp at h2
        · simp at h2
        · exact ⟨a, m, rest, rfl⟩
      clear h2
      obtain ⟨g, cap, rfl, hg1, hg2, hcap, hcm, hcell⟩ := own_cells HO.out (by simp)
      have hlt := HV.out.lt
      have hla : a < 9223372036854775808 := hlt a (by simp)
      have hlm : m < 9223372036854775808 := hlt m (by simp)
      have x0 : w1.cell? ⟨g, 0, none⟩ = some (.int .i64 a) := by rw [hcell 0 (by simp)]; rfl
      have x1 : w1.cell? ⟨g, 1, none⟩ = some (.int .i64 m) := by rw [hcell 1 (by simp)]; rfl
      have hn2 : (a :: m :: rest).length = rest.length + 2 := by simp
      rw [hn2] at hcap hcell ⊢
      by_cases hm : m = rest.length
      · have hm' : ((m : Int) != (rest.length : Int)) = false := by simp [hm]
        have hn3 : ¬ ((rest.length : Int) + 2 < 2) := by omega
        have hmx : rest.length + 2 ≤ 20000 := by have := HV.out.len; have := HL.out; simp only [List.length_cons] at *; omega
        have HC := Lib.hid hcell
        have HM := Lib.hid hm
        have hL := Lib.hid hlt
        have V1 := Lib.hid (VAt.new w1 a (.slice none 0 0))
        have B2 : Hid (Below w1.heap.size w1 (w1.alloc (.cells #[.int .i64 a, .slice none 0 0] 28))) := bA0 _ _
        clear hcell HO hlt hm hn2
        by_cases hn0 : 0 < rest.length
        · have hcap2 : 2 < cap := by omega
          generalize hN : rest.length = n at *
          have HN := Lib.hid hN
          clear hN
          go_wp2
          go_loopw [38] (fun i wr => ∃ (j : Nat) (v' : Value), i = .int .i64 j ∧ j ≤ n ∧ Hid (VAt wr w1.heap.size a v') ∧ Hid (Below w1.heap.size w1 wr) ∧ Hid (wr.ownsRow (w1.heap.size + 1) 2 1 v' j (valsZ ((rest.take j).map signO)))) (fun i _ => n - (intOf i).toNat)
          case atStart => exact ⟨0, .slice none 0 0, rfl, Nat.zero_le _, V1, B2, World.ownsRow_nil _ _ _ _⟩
          case round =>
            obtain ⟨j, v', rfl, hj, H1, H2, H3⟩ := hrel
            have hj0 : (0 : Int) ≤ (j : Int) := by omega
            obtain ⟨d0, d1, df, dl⟩ := H1.out.cells
            by_cases h1 : j < n
            · have h1' : (j : Int) < (n : Int) := by omega
              have hl : j < rest.length := by rw [HN.out]; exact h1
              have hc : wr.cell? ⟨g, 2 + j, none⟩ = some (.int .i64 ((rest[j]'hl : Nat) : Int)) := by
                rw [H2.out.cell hg2, HC.out (2 + j) (by omega)]
                simp [valsI, Nat.add_comm 2 j, hl]
              have SO : Hid (∀ w, Calls Tryd.prog 65 #[.int .i64 ((rest[j]'hl : Nat) : Int)] w fun e w' => e = .returned (.int .i64 (signO (rest[j]'hl))) ∧ w' = w) := fun w => signedOf_any _ (hL.out _ (by simp)) w
              have EV : Hid (valsZ ((rest.take j).map signO) ++ [.int .i64 (signO (rest[j]'hl))] = valsZ ((rest.take (j + 1)).map signO)) := by
                show _ = _
                unfold valsZ
                rw [List.take_succ_eq_append_getElem hl, List.map_append, List.map_append]; rfl
              have hown := (own_below H3.out (Below.refl _ _).drew)
              generalize rest[j]'hl = y at *
              generalize signO y = z at *
              generalize valsZ ((rest.take j).map signO) = xs at *
              have hO : some w1.heap.size ≠ v'.ownBlock := fun e => by have := (hown.lt _ e.symm).1; omega
              have H1a : Hid (VAt (wr.alloc (.cells #[.int .i64 z] 2)) w1.heap.size a v') := H1.out.of (Below.heap_alloc _ _ _ dl)
              have hsz := H2.out.size
              go_wp2_with fail
              go_region_law (first | (go_simp; go_at_call 65; refine (SO.out _).mono ?_; rintro e w' ⟨rfl, rfl⟩) | (refine step_append_lies _ rfl (.tmp 43) (.tmp 46) 26 rfl (w1.heap.size + 1) 2 i0 (.int .i64 0) 1 8 Tryd.underlying26 hi hz0 hz1 hz2 rfl (by decide) v' j xs (by simp [Act.eval]) (hown.alloc _) ⟨wr.heap.size, 0, none⟩ 1 1 [.int .i64 z] (by simp [Act.eval]) rfl (cell_one_new _ _ _) (by intro u hu; simp at hu; subst hu; rfl) (by decide) (by unfold maxLen; omega) (by omega) (by show _ ≤ (wr.heap.push _).size; simp; omega) (wr.heap.size + 1) (by simp) ?_; intro g2 cap2 w3 hown3 hgrow hg3 hlt3; have V3 := VAt.of H1a.out (hgrow.block w1.heap.size (by show _ < (wr.heap.push _).size; simp; omega) hO); obtain ⟨k0, k1, k2, k3⟩ := V3.cells))
              all_goals (
                have B3 : Hid (Below w1.heap.size w1 w3) := ((H2.out.alloc hsz _).drew).grown hgrow (by show _ ≤ (wr.heap.push _).size; simp; omega) (fun j hj => by have := (hown.lt j hj).1; omega)
                rw [EV.out] at hown3
                have V4 : Hid (VAt (w3.setCell ⟨w1.heap.size, 1, none⟩ (.slice (some ⟨g2, 0, none⟩) (j + 1) cap2)) w1.heap.size a (.slice (some ⟨g2, 0, none⟩) (j + 1) cap2)) := V3.set _
                have O4 : Hid ((w3.setCell ⟨w1.heap.size, 1, none⟩ (.slice (some ⟨g2, 0, none⟩) (j + 1) cap2)).ownsRow (w1.heap.size + 1) 2 1 (.slice (some ⟨g2, 0, none⟩) (j + 1) cap2) (j + 1) (valsZ ((rest.take (j + 1)).map signO))) := own_set hown3 (by omega) _ _
                clear hown3 hgrow hg3 hlt3 hown V3
                go_wp2
                go_roundw
                case rel => exact ⟨j + 1, _, by go_num, by omega, V4, B3.out.setCell (Nat.le_refl _) _, O4⟩
                case measure => simp [intOf]; omega)
            · have h1' : ¬ (j : Int) < (n : Int) := by omega
              have HO : Hid (wr.ownsRow (w1.heap.size + 1) 2 1 v' (rest.map signO).length (valsZ (rest.map signO))) := by
                have := H3.out
                rw [List.take_of_length_le (by rw [HN.out]; omega), show j = (rest.map signO).length by simp; rw [HN.out]; omega] at this
                exact this
              clear H3
              obtain ⟨sl, cp, rfl, hI⟩ := own_ints HO.out
              have IR : Hid (Calls Tryd.prog 34 #[RV a sl (rest.map signO).length cp] wr fun e w' => e = .returned (.bool (recR a (rest.map signO))) ∧ Below (wr).heap.size (wr) w') := irr_any a sl cp (rest.map signO) _ hI
              have R5 := Lib.hid (R1.out.below H2.out)
              obtain ⟨d0, d1, df, dl⟩ := H1.out.cells
              cases hr : recR a (rest.map signO)
              · rw [hr] at IR
                have F : Hid (∀ k zs, ¬ IsBody l k zs) := fun k zs hb => by
                  have e := no_body HV.out hb
                  simp only [List.cons.injEq] at e
                  have p := recR_parts hb.1
                  have ek : (a : Int) = k := by omega
                  have ez : rest.map signO = zs := by rw [e.2.2]; simp [List.map_map, Function.comp_def, signO_N]
                  rw [ek, ez, hb.1] at hr; cases hr
                clear hr
                generalize (rest.map signO).length = q at *
                go_wp2_with fail
                refine IR.out.mono ?_
                rintro e w5 ⟨rfl, b5⟩
                have R6 := Lib.hid (R5.out.below b5)
                obtain ⟨e0, e1⟩ := R6.out.cells
                have ef := R6.out.froz
                have el := R6.out.lt
                have B6 : Hid (Below w.heap.size w w5) := bT (bT B1.out H2.out) b5
                clear b5 IR d0 d1 df
                go_wp2
                exact bodyPost_ret (v := .tuple #[.agg #[.int .i64 0, .slice none 0 0], .bool false]) (by simp [results, Tryd.results45, go_sem, e0, e1]) rfl (.inr ⟨F.out, rfl, (B6.out.setCell (Nat.le_refl _) _).setCell (Nat.le_refl _) _⟩)
              · rw [hr] at IR
                have F : Hid (IsBody l a (rest.map signO)) := by
                  refine ⟨hr, nums_body (k := a) ?_⟩
                  have := HV.out; rw [HM.out, ← HN.out] at this; exact this
                clear hr
                have HO2 := HO
                generalize hq : (rest.map signO).length = q at *
                have HQ := Lib.hid hq
                clear hq
                go_wp2_with fail
                refine IR.out.mono ?_
                rintro e w5 ⟨rfl, b5⟩
                have R6 := Lib.hid (R5.out.below b5)
                obtain ⟨e0, e1⟩ := R6.out.cells
                have ef := R6.out.froz
                have el := R6.out.lt
                have V6 := H1.out.of (b5.block _ dl)
                obtain ⟨g0, g1', gf, gl⟩ := V6.cells
                have B6 : Hid (Below w.heap.size w w5) := bT (bT B1.out H2.out) b5
                have hw1 := B1.out.size
                have hw2 : w.heap.size < w1.heap.size := R1.out.lt
                have O6 : Hid (w5.ownsRow w.heap.size 2 1 (.slice sl q cp) q (valsZ (rest.map signO))) := own_mono (own_below HO.out b5) (by omega)
                have O7 : Hid (w5.ownsRow (w1.heap.size + 1) 2 1 (.slice sl q cp) q (valsZ (rest.map signO))) := own_below HO.out b5
                clear b5 IR d0 d1 df V6
                go_wp2
                refine bodyPost_ret (v := .tuple #[.agg #[.int .i64 a, .slice sl q cp], .bool true]) (by simp [results, Tryd.results45, go_sem, e0, e1]) rfl (.inl ⟨a, rest.map signO, _, F.out, rfl, ?_, (B6.out.setCell (Nat.le_refl _) _).setCell (Nat.le_refl _) _⟩)
                rw [HQ.out]
                exact own_mono (own_set (own_set O7.out (by omega) _ _) (by omega) _ _) (by omega)
        · obtain rfl : rest = [] := List.eq_nil_of_length_eq_zero (by omega)
          have HO : Hid ((w1.alloc (.cells #[.int .i64 a, .slice none 0 0] 28)).ownsRow (w1.heap.size + 1) 2 1 (.slice none 0 0) 0 (valsZ [])) := World.ownsRow_nil _ _ _ _
          simp only [List.length_nil, Nat.zero_add] at *
          rcases Nat.lt_or_ge 2 cap with hc2 | hc2
          · clear hn0
            have IR : Hid (Calls Tryd.prog 34 #[RV a none 0 0] (w1.alloc (.cells #[.int .i64 a, .slice none 0 0] 28)) fun e w' => e = .returned (.bool (recR a (([] : List Int)))) ∧ Below (w1.alloc (.cells #[.int .i64 a, .slice none 0 0] 28)).heap.size (w1.alloc (.cells #[.int .i64 a, .slice none 0 0] 28)) w') := irr_any a none 0 [] _ (.inl rfl)
            have R5 := Lib.hid (R1.out.below B2.out)
            obtain ⟨d0, d1, df, dl⟩ := V1.out.cells
            cases hr : recR a (([] : List Int))
            · rw [hr] at IR
              have F : Hid (∀ k zs, ¬ IsBody l k zs) := fun k zs hb => by
                have e := no_body HV.out hb
                simp only [List.cons.injEq] at e
                have p := recR_parts hb.1
                have ek : (a : Int) = k := by omega
                have ez : ([] : List Int) = zs := by have := e.2.2; symm; simpa using this.symm
                rw [ek, ez, hb.1] at hr; cases hr
              clear hr
              go_wp2
              refine wp_loop_rounds 1 ?_
              rw [rounds_succ]
              go_wp2_with fail
              refine IR.out.mono ?_
              rintro e w5 ⟨rfl, b5⟩
              have R6 := Lib.hid (R5.out.below b5)
              obtain ⟨e0, e1⟩ := R6.out.cells
              have ef := R6.out.froz
              have el := R6.out.lt
              have B6 : Hid (Below w.heap.size w w5) := bT (bT B1.out B2.out) b5
              clear b5 IR d0 d1 df
              go_wp2
              exact bodyPost_ret (v := .tuple #[.agg #[.int .i64 0, .slice none 0 0], .bool false]) (by simp [results, Tryd.results45, go_sem, e0, e1]) rfl (.inr ⟨F.out, rfl, (B6.out.setCell (Nat.le_refl _) _).setCell (Nat.le_refl _) _⟩)
            · rw [hr] at IR
              have F : Hid (IsBody l a (([] : List Int))) := by
                refine ⟨hr, nums_body (k := a) (rest := []) ?_⟩
                have := HV.out; rw [HM.out] at this; exact this
              clear hr
              have HO2 := HO
              go_wp2
              refine wp_loop_rounds 1 ?_
              rw [rounds_succ]
              go_wp2_with fail
              refine IR.out.mono ?_
              rintro e w5 ⟨rfl, b5⟩
              have R6 := Lib.hid (R5.out.below b5)
              obtain ⟨e0, e1⟩ := R6.out.cells
              have ef := R6.out.froz
              have el := R6.out.lt
              have V6 := V1.out.of (b5.block _ dl)
              obtain ⟨g0, g1', gf, gl⟩ := V6.cells
              have B6 : Hid (Below w.heap.size w w5) := bT (bT B1.out B2.out) b5
              have hw1 := B1.out.size
              have hw2 : w.heap.size < w1.heap.size := R1.out.lt
              have O6 : Hid (w5.ownsRow w.heap.size 2 1 (.slice none 0 0) 0 (valsZ (([] : List Int)))) := own_mono (own_below HO.out b5) (by omega)
              have O7 : Hid (w5.ownsRow (w1.heap.size + 1) 2 1 (.slice none 0 0) 0 (valsZ (([] : List Int)))) := own_below HO.out b5
              clear b5 IR d0 d1 df V6
              go_wp2
              refine bodyPost_ret (v := .tuple #[.agg #[.int .i64 a, .slice none 0 0], .bool true]) (by simp [results, Tryd.results45, go_sem, e0, e1]) rfl (.inl ⟨a, ([] : List Int), _, F.out, rfl, ?_, (B6.out.setCell (Nat.le_refl _) _).setCell (Nat.le_refl _) _⟩)
              exact own_mono (own_set (own_set O7.out (by omega) _ _) (by omega) _ _) (by omega)
          · obtain rfl : cap = 2 := by omega
            clear hn0
            have IR : Hid (Calls Tryd.prog 34 #[RV a none 0 0] (w1.alloc (.cells #[.int .i64 a, .slice none 0 0] 28)) fun e w' => e = .returned (.bool (recR a (([] : List Int)))) ∧ Below (w1.alloc (.cells #[.int .i64 a, .slice none 0 0] 28)).heap.size (w1.alloc (.cells #[.int .i64 a, .slice none 0 0] 28)) w') := irr_any a none 0 [] _ (.inl rfl)
            have R5 := Lib.hid (R1.out.below B2.out)
            obtain ⟨d0, d1, df, dl⟩ := V1.out.cells
            cases hr : recR a (([] : List Int))
            · rw [hr] at IR
              have F : Hid (∀ k zs, ¬ IsBody l k zs) := fun k zs hb => by
                have e := no_body HV.out hb
                simp only [List.cons.injEq] at e
                have p := recR_parts hb.1
                have ek : (a : Int) = k := by omega
                have ez : ([] : List Int) = zs := by have := e.2.2; symm; simpa using this.symm
                rw [ek, ez, hb.1] at hr; cases hr
              clear hr
              go_wp2
              refine wp_loop_rounds 1 ?_
              rw [rounds_succ]
              go_wp2_with fail
              refine IR.out.mono ?_
              rintro e w5 ⟨rfl, b5⟩
              have R6 := Lib.hid (R5.out.below b5)
              obtain ⟨e0, e1⟩ := R6.out.cells
              have ef := R6.out.froz
              have el := R6.out.lt
              have B6 : Hid (Below w.heap.size w w5) := bT (bT B1.out B2.out) b5
              clear b5 IR d0 d1 df
              go_wp2
              exact bodyPost_ret (v := .tuple #[.agg #[.int .i64 0, .slice none 0 0], .bool false]) (by simp [results, Tryd.results45, go_sem, e0, e1]) rfl (.inr ⟨F.out, rfl, (B6.out.setCell (Nat.le_refl _) _).setCell (Nat.le_refl _) _⟩)
            · rw [hr] at IR
              have F : Hid (IsBody l a (([] : List Int))) := by
                refine ⟨hr, nums_body (k := a) (rest := []) ?_⟩
                have := HV.out; rw [HM.out] at this; exact this
              clear hr
              have HO2 := HO
              go_wp2
              refine wp_loop_rounds 1 ?_
              rw [rounds_succ]
              go_wp2_with fail
              refine IR.out.mono ?_
              rintro e w5 ⟨rfl, b5⟩
              have R6 := Lib.hid (R5.out.below b5)
              obtain ⟨e0, e1⟩ := R6.out.cells
              have ef := R6.out.froz
              have el := R6.out.lt
              have V6 := V1.out.of (b5.block _ dl)
              obtain ⟨g0, g1', gf, gl⟩ := V6.cells
              have B6 : Hid (Below w.heap.size w w5) := bT (bT B1.out B2.out) b5
              have hw1 := B1.out.size
              have hw2 : w.heap.size < w1.heap.size := R1.out.lt
              have O6 : Hid (w5.ownsRow w.heap.size 2 1 (.slice none 0 0) 0 (valsZ (([] : List Int)))) := own_mono (own_below HO.out b5) (by omega)
              have O7 : Hid (w5.ownsRow (w1.heap.size + 1) 2 1 (.slice none 0 0) 0 (valsZ (([] : List Int)))) := own_below HO.out b5
              clear b5 IR d0 d1 df V6
              go_wp2
              refine bodyPost_ret (v := .tuple #[.agg #[.int .i64 a, .slice none 0 0], .bool true]) (by simp [results, Tryd.results45, go_sem, e0, e1]) rfl (.inl ⟨a, ([] : List Int), _, F.out, rfl, ?_, (B6.out.setCell (Nat.le_refl _) _).setCell (Nat.le_refl _) _⟩)
              exact own_mono (own_set (own_set O7.out (by omega) _ _) (by omega) _ _) (by omega)
      · have F : Hid (∀ k zs, ¬ IsBody l k zs) := fun k zs hb => by
          have := no_body HV.out hb
          simp only [List.cons.injEq] at this
          exact hm (by rw [this.2.1, this.2.2]; simp)
        have hq : ((m : Int) != (rest.length : Int)) = true := by simp; omega
        have hn3 : ¬ ((rest.length : Int) + 2 < 2) := by omega
        have hmx : rest.length + 2 ≤ 9223372036854775807 := by unfold maxLen at hcm; omega
        clear HV HO hcell hm hn2
        generalize rest.length = n at *
        go_wp2
        exact bodyPost_ret (v := .tuple #[.agg #[.int .i64 0, .slice none 0 0], .bool false]) (by simp [results, Tryd.results45, go_sem, c0, c1]) rfl (.inr ⟨F.out, rfl, (B1.out.setCell (Nat.le_refl _) _).setCell (Nat.le_refl _) _⟩)
  · have F : Hid (∀ k zs, ¬ IsBody l k zs) := fun k zs hb => hno _ (by rw [hb.2]; exact body_nums hb.1)
    have R1 := Lib.hid (hR0.below b1)
    have B1 : Hid (Below w.heap.size w w1) := bT (bA0 _ _) b1
    obtain ⟨c0, c1⟩ := R1.out.cells
    have f0 := R1.out.froz
    have hlt := R1.out.lt
    clear hno b1 NI hR0
    go_wp2
    refine bodyPost_ret (v := .tuple #[.agg #[.int .i64 0, .slice none 0 0], .bool false]) (by simp [results, Tryd.results45, go_sem, c0, c1]) rfl (.inr ⟨F.out, rfl, (B1.out.setCell (Nat.le_refl _) _).setCell (Nat.le_refl _) _⟩)
end Go.Proofs.YtnkdkbchendpmaaDoor
