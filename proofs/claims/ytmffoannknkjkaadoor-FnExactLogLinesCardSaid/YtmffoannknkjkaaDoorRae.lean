/-
  A RECORD READ, AS THE MODEL DOES IT: its length and its sum.
  A RECORD READ, AS THE MODEL DOES IT: at every text.
  RECORDS ONE BEHIND THE OTHER: as the model reads them.
  MARKS: a row of numbers is written over by numbers that rise, and held against them.
  TWO ROWS OF THE SAME NUMBERS.
  A LIST OF RECORDS WITH MEMORY OF ITS OWN: marked and held.
-/
import Derived.Test.YtmffoannknkjkaaDoorBa
import Derived.Test.YtmffoannknkjkaaDoorRad
import Derived.Test.YtmffoannknkjkaaDoorRac
import Derived.BigQuiet
namespace Go.Proofs.YtmffoannknkjkaaDoor
open Go.RowKit
set_option linter.unusedVariables false

/-- The record under way, beside the answer's and the reader's block. -/
structure ML (w : World) (rb : Nat) (kd : Int) (v : Value) (ns : List Int) (t : ByteArray) (bad : Bool) (w' : World) : Prop where
  md : MD w t bad w'
  va : VAt w' rb kd v
  row : w'.ownsRow (rb + 1) 2 1 v ns.length (valsZ ns)
  hrb : w.heap.size + 1 < rb
theorem ML.num {w : World} {rb : Nat} {kd : Int} {v : Value} {ns : List Int} {t t' : ByteArray} {bad bad' : Bool} {w1 w2 : World} (h : ML w rb kd v ns t bad w1) (ho : Only (w.heap.size + 1) w1 w2) (hn : NAt w2 (w.heap.size + 1) t' bad') : ML w rb kd v ns t' bad' w2 := by
  have := h.hrb
  exact ⟨h.md.num ho hn, h.va.of (ho.block rb (Array.getElem?_eq_some_iff.1 h.va).1 (by omega)), own_onlyR h.row ho (by omega), h.hrb⟩
theorem ML.below {w : World} {rb : Nat} {kd : Int} {v : Value} {ns : List Int} {t : ByteArray} {bad : Bool} {w1 w2 : World} (h : ML w rb kd v ns t bad w1) (hb : Below w1.heap.size w1 w2) : ML w rb kd v ns t bad w2 :=
  ⟨h.md.below hb, h.va.of (hb.block rb (Array.getElem?_eq_some_iff.1 h.va).1), own_below h.row hb, h.hrb⟩
theorem ML.grownAt {w : World} {rb : Nat} {kd : Int} {v : Value} {ns : List Int} {t : ByteArray} {bad : Bool} {w1 w2 : World} (h : ML w rb kd v ns t bad w1) (hg : w1.grownBy w2 v.ownBlock) : MD w t bad w2 ∧ VAt w2 rb kd v := by
  have hr := h.hrb
  have hrl := (Array.getElem?_eq_some_iff.1 h.va).1
  have ne : ∀ j, v.ownBlock = some j → rb + 1 ≤ j ∧ j < w1.heap.size := fun j hj => h.row.lt j hj
  refine ⟨⟨?_, ?_, ?_⟩, ?_⟩
  · exact (hg.block _ (by omega) (fun e => by have := ne _ e.symm; omega)).trans h.md.q
  · exact (hg.block _ (by omega) (fun e => by have := ne _ e.symm; omega)).trans h.md.n
  · exact h.md.low.grown hg (by omega) (fun j hj => by have := ne j hj; omega)
  · exact h.va.of (hg.block _ (by omega) (fun e => by have := ne _ e.symm; omega))
theorem ML.store {w : World} {rb : Nat} {kd : Int} {v v' : Value} {ns : List Int} {t : ByteArray} {bad : Bool} {w1 w2 : World} (h : ML w rb kd v ns t bad w1) (z : Int) (hg : w1.grownBy w2 v.ownBlock) (hn : w2.ownsRow (rb + 1) 2 1 v' (ns.length + 1) (valsZ ns ++ [.int .i64 z])) : ML w rb kd v' (ns ++ [z]) t bad (w2.setCell ⟨rb, 1, none⟩ v') := by
  obtain ⟨m, a⟩ := h.grownAt hg
  have hr := h.hrb
  have o : Only rb w2 (w2.setCell ⟨rb, 1, none⟩ v') := (Only.refl _ _).setCell 1 _
  refine ⟨⟨(o.block _ (Array.getElem?_eq_some_iff.1 m.q).1 (by omega)).trans m.q, (o.block _ (Array.getElem?_eq_some_iff.1 m.n).1 (by omega)).trans m.n, Only.below m.low (by omega) o⟩, a.set v', ?_, h.hrb⟩
  have := own_onlyR hn o (by omega)
  rw [List.length_append, List.length_singleton]
  unfold valsZ at this ⊢
  rw [List.map_append]; exact this

theorem ML.five {w : World} {rb : Nat} {kd : Int} {v : Value} {ns : List Int} {t : ByteArray} {bad : Bool} {w' : World} (h : ML w rb kd v ns t bad w') : w.heap.size + 1 < w'.heap.size ∧ rb < w'.heap.size ∧ w'.cell? ⟨w.heap.size + 1, 1, none⟩ = some (.bool bad) ∧ w'.cell? ⟨rb, 0, none⟩ = some (.int .i64 kd) ∧ w'.cell? ⟨rb, 1, none⟩ = some v :=
  ⟨h.md.n.cells.2.2.2, h.va.cells.2.2.2, h.md.n.cells.2.1, h.va.cells.1, h.va.cells.2.1⟩

set_option maxRecDepth 100000 in
set_option maxHeartbeats 4000000 in
theorem sr_main (s : ByteArray) (r : List UInt8) (hs : s.size ≤ 20000) (hd : s.data.toList = 82 :: r) (h3 : 2 < s.size) (w : World) :
    Calls Tryd.prog 30 #[.string s] w fun e w' => RdPost (82 :: r) w e w' := by
  obtain ⟨i2, hi2, ha0, ha1, ha2⟩ := info_parts info2'
  have hlen : s.data.toList.length = s.size := by simp
  have hp : 0 < s.size := by omega
  have hp' : (0 : Int) < (s.size : Int) := by omega
  have hp1 : (1 : Int) ≤ (s.size : Int) := by omega
  have h1' : ((s.size : Int) == 0) = false := by rw [beq_eq_false_iff_ne]; omega
  have h2' : ((s.size : Int) == 1) = false := by rw [beq_eq_false_iff_ne]; omega
  have h3' : ((s.size : Int) == 2) = false := by rw [beq_eq_false_iff_ne]; omega
  have h82 : (s[0]'hp) = 82 := by
    have := drop_cons s 0 hp
    simp only [List.drop_zero, hd, List.cons.injEq] at this
    exact this.1.symm
  have e82 : ((s[0]'hp).toNat : Int) = 82 := by rw [h82]; rfl
  have eR : (s.extract 1 s.size).data.toList = r := by
    rw [Lib.extract_data, hd]
    simp only [List.drop_succ_cons, List.drop_zero]
    exact List.take_of_length_le (by rw [hd] at hlen; simp at hlen; omega)
  have zR : (s.extract 1 s.size).size = s.size - 1 := by simp
  have hr : r.length + 1 = s.size := by rw [hd] at hlen; simpa using hlen
  have hS : ¬ Short r := by
    rintro (h | ⟨x, h, _⟩)
    · rw [h] at hr; simp at hr; omega
    · rw [h] at hr; simp at hr; omega
  have D0 := Lib.hid (MD.new w (s.extract 1 s.size))
  have NU := Lib.hid (num_s (w.heap.size + 1) (s.extract 1 s.size) false _ (by omega) D0.out.n)
  have ER := Lib.hid eR
  have HD := Lib.hid hd
  have HS := Lib.hid hS
  clear eR hd hlen h82 hS
  go_enter Tryd.func30, Tryd.ntmps30
  go_wp2_with fail
  refine NU.out.mono ?_
  rintro e w1 ⟨x, t1, bad1, rfl, hx, hN, ht1, hsome, hnone, -, ho⟩
  have D1 := Lib.hid (D0.out.num ho hN)
  rw [ER.out] at hsome hnone
  clear hN ho NU D0
  generalize s.extract 1 s.size = R at *
  obtain ⟨n0, n1, nf, nl⟩ := D1.out.n.cells
  obtain ⟨c0, c1, c2, c3, cf, cl⟩ := D1.out.q.cells
  cases hR : rdN 8 r with
  | none =>
    obtain rfl := hnone hR
    have F := Lib.hid (rdF_len (r := r) (by omega) HS.out (fun n q h => by rw [rdN_mono h (by omega)] at hR; cases hR))
    clear hsome hnone
    go_wp2
    exact bodyPost_ret (v := RO 0 (.slice none 0 0) 0 3) (by simp [results, Tryd.results30, go_sem, c0, c1, c2, c3]) rfl (.inr ⟨F.out.2, by rw [F.out.1], b4 D1.out.low _ _ _ _⟩)
  | some pr =>
    obtain ⟨n, q⟩ := pr
    obtain ⟨rfl, hq, rfl⟩ := hsome n q hR
    clear hsome hnone
    have hx0 : (0 : Int) ≤ (x : Int) := by omega
    by_cases hn : 1000 < x
    · have hn' : (1000 : Int) < (x : Int) := by omega
      have F := Lib.hid (rdF_len (r := r) (by omega) HS.out (fun n' q' h => by rw [rdN_mono h (by omega)] at hR; simp only [Option.some.injEq, Prod.mk.injEq] at hR; omega))
      go_wp2
      exact bodyPost_ret (v := RO 0 (.slice none 0 0) 0 3) (by simp [results, Tryd.results30, go_sem, c0, c1, c2, c3]) rfl (.inr ⟨F.out.2, by rw [F.out.1], b4 D1.out.low _ _ _ _⟩)
    · have hn' : ¬ (1000 : Int) < (x : Int) := by omega
      have hn1 : x ≤ 1000 := by omega
      have hm2 := numB_two hn1
      have e := (rdN_some _ _ _ _ hR).1
      have hR2 : rdN 2 r = some (x, q) := by rw [rdN_iff]; exact ⟨e, hm2⟩
      have hql : t1.size = q.length := by rw [← hq]; simp
      have hrl : r.length = (numB x).length + q.length := by rw [e]; simp
      by_cases hq4 : q.length < x + 4
      · have F := Lib.hid (rdF_cut (by omega) HS.out hR2 hn1 hq4)
        have hq' : (t1.size : Int) < (x : Int) + 4 := by omega
        clear hR e hR2
        go_wp2
        exact bodyPost_ret (v := RO 0 (.slice none 0 0) 0 6) (by simp [results, Tryd.results30, go_sem, c0, c1, c2, c3]) rfl (.inr ⟨F.out.2, by rw [F.out.1], b4 D1.out.low _ _ _ _⟩)
      · have hq' : ¬ (t1.size : Int) < (x : Int) + 4 := by omega
        obtain ⟨B, hB⟩ : ∃ B, B = 1 + (numB x).length + x := ⟨_, rfl⟩
        have eD : s.data.toList = 82 :: (numB x ++ q) := by rw [HD.out, e]
        have f1 : (s.extract B (B + 4)).data.toList = (q.drop x).take 4 := by
          rw [Lib.extract_data, eD, show B + 4 - B = 4 by omega, hB, show 1 + (numB x).length + x = ((numB x).length + x) + 1 by omega, List.drop_succ_cons, List.drop_append]
          simp [List.drop_of_length_le]
        have f2 : (s.extract 1 B).data.toList = numB x ++ q.take x := by
          rw [Lib.extract_data, eD, List.drop_succ_cons, List.drop_zero, hB, show 1 + (numB x).length + x - 1 = (numB x).length + x by omega, List.take_append, List.take_of_length_le (by omega)]
          simp
        have SS : Hid (∀ w1, Calls Tryd.prog 38 #[.string (s.extract 1 B)] w1 fun e w' => e = .returned (.int .i64 (sumL (numB x ++ q.take x))) ∧ w' = w1) := fun w1 => by
          have := ssum_any (s.extract 1 B) (by unfold maxLen; simp; omega) w1
          rwa [f2] at this
        have hSl := sumL_lt (numB x ++ q.take x)
        have SF : Hid (∀ w1, Calls Tryd.prog 37 #[.int .i64 (sumL (numB x ++ q.take x))] w1 fun e w' => e = .returned (.string ⟨(fourB (sumL (numB x ++ q.take x))).toArray⟩) ∧ Below w1.heap.size w1 w') := fun w1 => sfour_any _ (by omega) w1
        have FS := Lib.hid (fun h => rdF_sum (by omega) HS.out hR2 hn1 (by omega) h)
        have FB := Lib.hid (fun h => rdF_body (by omega) HS.out hR2 hn1 (by omega) h)
        have FG : Hid ((q.drop x).take 4 = fourB (sumL (numB x ++ q.take x)) → Good (82 :: r) x q) := fun h => ⟨by simp; omega, by rw [e], hn1, by omega, h⟩
        have eU : Hid ((s.size : Int) - (t1.size : Int) + (x : Int) + 4 = (B : Int) + 4) := by show _ = _; omega
        have hq9 : t1.size ≤ s.size := by omega
        have hBU : B + 4 = usedN x := by unfold usedN; omega
        have hUs : usedN x ≤ s.size := by unfold usedN; omega
        have EQ4 : Hid (((s.extract B (B + 4)).toList == (⟨(fourB (sumL (numB x ++ q.take x))).toArray⟩ : ByteArray).toList) = true → (q.drop x).take 4 = fourB (sumL (numB x ++ q.take x))) := fun h => by
          rw [Go.ByteArray.toList_eq, Go.ByteArray.toList_eq, f1] at h
          simpa using h
        have EN4 : Hid (((s.extract B (B + 4)).toList == (⟨(fourB (sumL (numB x ++ q.take x))).toArray⟩ : ByteArray).toList) = false → (q.drop x).take 4 ≠ fourB (sumL (numB x ++ q.take x))) := fun h => by
          rw [Go.ByteArray.toList_eq, Go.ByteArray.toList_eq, f1] at h
          simpa using h
        have HB := Lib.hid hB
        have HQL := Lib.hid hql
        have HQ := Lib.hid hq
        clear f1 f2 eD hB hR hR2 hSl hql hq e
        go_wp2_with fail
        rw [eU.out]
        generalize sumL (numB x ++ q.take x) = S at *
        generalize (⟨(fourB S).toArray⟩ : ByteArray) = F4 at *
        have HU := Lib.hid hBU
        clear eU hBU
        have z1 : (1 : Int) ≤ (B : Int) := by have := HB.out; omega
        have z2 : (B : Int) ≤ (B : Int) + 4 := by omega
        have z3 : (B : Int) + 4 ≤ (s.size : Int) := by have := HU.out; omega
        have z4 : (B : Int) ≤ (s.size : Int) := by omega
        have z5 : (s.size : Int) ≤ 20000 := by omega
        have z6 : (0 : Int) ≤ (B : Int) := by omega
        have z7 : (0 : Int) ≤ (B : Int) + 4 := by omega
        have hw4 : IntKind.i64.wrap ((B : Int) + 4 - 4) = (B : Int) := by rw [IntKind.wrap_i64]; omega
        have hw5 : IntKind.i64.wrap (B : Int) = (B : Int) := by rw [IntKind.wrap_i64]; omega
        have hw6 : (B : Int) + 4 - 4 = (B : Int) := by omega
        go_region_held3 (fun _ => True) (first | exact True.intro) (first | (go_at_call 38; refine (SS.out _).mono ?_; rintro e w2 ⟨rfl, rfl⟩) | (go_at_call 37; refine (SF.out _).mono ?_; rintro e w3 ⟨rfl, b3⟩))
        have D3 := Lib.hid (D1.out.below (bT ((Below.refl _ _).drew) b3))
        clear b3 n0 n1 nf nl c0 c1 c2 c3 cf cl D1 SS SF
        obtain ⟨n0, n1, nf, nl⟩ := D3.out.n.cells
        obtain ⟨c0, c1, c2, c3, cf, cl⟩ := D3.out.q.cells
        have eB4 : ((B : Int) + 4).toNat = B + 4 := by omega
        rw [eB4]
        clear eB4
        generalize hc : ((s.extract B (B + 4)).toList == F4.toList) = bq at *
        cases bq
        · have F := Lib.hid (FS.out (EN4.out rfl))
          go_wp2
          exact bodyPost_ret (v := RO 0 (.slice none 0 0) 0 5) (by simp [results, Tryd.results30, go_sem, c0, c1, c2, c3]) rfl (.inr ⟨F.out.2, by rw [F.out.1], b4 D3.out.low _ _ _ _⟩)
        · have G := Lib.hid (FG.out (EQ4.out rfl))
          have H4 := Lib.hid (EQ4.out rfl)
          have D4 := Lib.hid (D3.out.set0 (t1.extract 0 x))
          have NU := Lib.hid (num_s (w.heap.size + 1) (t1.extract 0 x) false _ (by simp; omega) D4.out.n)
          have hxt : (x : Int) ≤ (t1.size : Int) := by have := HQL.out; omega
          have eb : (t1.extract 0 x).data.toList = q.take x := by rw [Lib.extract_data, List.drop_zero, Nat.sub_zero, HQ.out]
          go_wp2_with fail
          refine NU.out.mono ?_
          rintro e w4 ⟨kd, t2, bad2, rfl, hkd, hN2, ht2, hs2, -, -, ho2⟩
          have D5 := Lib.hid (D4.out.num ho2 hN2)
          rw [eb] at hs2
          have HS2 := Lib.hid hs2
          have hz2 : t2.size ≤ 20000 := by simp at ht2; omega
          clear NU D4 D3 hN2 ho2 ht2 hs2 eb n0 n1 nf nl c0 c1 c2 c3 cf cl hxt
          have D6 := Lib.hid (D5.out.alloc (.cells #[.int .i64 kd, .slice none 0 0] 42))
          have NU := Lib.hid (num_s (w.heap.size + 1) t2 bad2 _ hz2 D6.out.n)
          obtain ⟨n0, n1, nf, nl⟩ := D5.out.n.cells
          go_wp2_with fail
          refine NU.out.mono ?_
          rintro e w5 ⟨my, t3, bad3, rfl, hmy, hN3, ht3, hs3, -, -, ho3⟩
          have M0 : ML w w4.heap.size kd (.slice none 0 0) [] t2 bad2 (w4.alloc (.cells #[.int .i64 kd, .slice none 0 0] 42)) := ⟨D6.out, VAt.new w4 kd _, ⟨rfl, .inl ⟨rfl, rfl⟩⟩, nl⟩
          have M1 := Lib.hid (M0.num ho3 hN3)
          have S1 := Lib.hid (MSt.start HS2.out hs3)
          have hz3 : t3.size ≤ 20000 := by omega
          clear M0 NU D6 D5 hN3 ho3 hs3 HS2 n0 n1 nf nl
          generalize w4.heap.size = rb at *
          go_wp2_with fail
          go_loopg [8] 62 (fun g i wr => ∃ (v : Value) (ns : List Int) (t : ByteArray) (bad : Bool), i = .int .i64 ns.length ∧ g + ns.length = 62 ∧ ns.length ≤ 61 ∧ t.size ≤ 20000 ∧ Hid (ML w rb kd v ns t bad wr) ∧ Hid (MSt (q.take x) kd my ns t.data.toList bad))
          case atStart => exact ⟨_, [], t3, bad3, rfl, rfl, by simp, hz3, M1, S1⟩
          case round =>
            obtain ⟨v, ns, t, bad, rfl, hg, h61, hzt, M2, S2⟩ := hrel
            obtain ⟨sl, cap, rfl, hI⟩ := own_ints M2.out.row
            obtain ⟨n0, n1, nf, nl⟩ := M2.out.md.n.cells
            obtain ⟨d0, d1, df, dl⟩ := M2.out.va.cells
            have HI := Lib.hid hI
            have hrb := M2.out.hrb
            clear M1 S1 hI
            by_cases hgo : ns.length < my ∧ ns.length ≤ 60 ∧ bad = false
            · obtain ⟨g1, g2, rfl⟩ := hgo
              have g1' : (ns.length : Int) < (my : Int) := by omega
              have g2' : (ns.length : Int) ≤ 60 := by omega
              have NU := Lib.hid (num_s (w.heap.size + 1) t false wr hzt M2.out.md.n)
              have hown := Lib.hid M2.out.row
              generalize hL : ns.length = i at *
              have HLN := Lib.hid hL
              clear hL
              go_wp2_with fail
              refine NU.out.mono ?_
              rintro e w6 ⟨z, t4, bad4, rfl, hz, hN4, ht4, hs4, -, -, ho4⟩
              have M3 := Lib.hid (M2.out.num ho4 hN4)
              have S3 := Lib.hid (S2.out.step (by rw [HLN.out]; exact g1) hs4)
              have hz4 : t4.size ≤ 20000 := by omega
              clear NU M2 S2 hN4 ho4 ht4 hs4 n0 n1 nf nl d0 d1 df dl hown HI
              obtain ⟨d0, d1, df, dl⟩ := M3.out.va.cells
              have hown : Hid (w6.ownsRow (rb + 1) 2 1 (.slice sl i cap) i (valsZ ns)) := by have := M3.out.row; rwa [HLN.out] at this
              have M4 : Hid (∀ y : Int, ML w rb kd (.slice sl i cap) ns t4 bad4 (w6.alloc (.cells #[.int .i64 y] 2))) := fun y => M3.out.below (bA0 _ _)
              have hzz : (0 : Int) ≤ (z : Int) := by omega
              have hi9 : i ≤ 60 := by omega
              by_cases hod : z % 2 = 0
              · have h' : ((z : Int) % 2 == 1) = false := by rw [beq_eq_false_iff_ne]; omega
                have h'' : ¬ (z : Int) % 2 = 1 := by omega
                have eo : signO z = (z : Int) / 2 := by unfold signO; rw [if_pos hod]; omega
                rw [eo] at S3
                have LL : Hid ((ns ++ [(z : Int) / 2]).length = i + 1) := by show _ = _; rw [List.length_append, HLN.out, List.length_singleton]
                go_wp2_with (first | (at_builtin; refine wpList_append_lies _ rfl (.tmp 123) (.tmp 125) 40 rfl (rb + 1) 2 i2 (.int .i64 0) 1 8 Tryd.underlying40 hi2 ha0 ha1 ha2 rfl (by decide) _ _ _ rfl (hown.out.alloc _) ⟨w6.heap.size, 0, none⟩ 1 1 [.int .i64 ((z : Int) / 2)] rfl rfl (cell_one_new _ _ _) (by intro u hu; simp at hu; subst hu; rfl) (by decide) (by unfold maxLen; omega) (by omega) (by simp; omega) (w6.heap.size + 1) (by simp) ?_))
                intro g9 cap9 w9 own9 grow9 hg9 hlt9
                obtain ⟨m9, a9⟩ := (M4.out _).grownAt grow9
                obtain ⟨e0, e1, ef, el⟩ := a9.cells
                have M5 := Lib.hid ((M4.out _).store _ grow9 (by rw [HLN.out]; exact own9))
                clear m9 a9 own9 grow9 hg9 hlt9 hown M4 M3 d0 d1 df dl
                go_wp2_with fail
                go_roundg (gk - 1)
                case measure => omega
                case rel => exact ⟨_, ns ++ [(z : Int) / 2], t4, bad4, by rw [LL.out]; go_num, by rw [LL.out]; omega, by rw [LL.out]; omega, hz4, M5, S3⟩
              · have h' : ((z : Int) % 2 == 1) = true := by rw [beq_iff_eq]; omega
                have h'' : (z : Int) % 2 = 1 := by omega
                have eo : signO z = -((z : Int) / 2) - 1 := by unfold signO; rw [if_neg hod]; omega
                rw [eo] at S3
                have LL : Hid ((ns ++ [-((z : Int) / 2) - 1]).length = i + 1) := by show _ = _; rw [List.length_append, HLN.out, List.length_singleton]
                go_wp2_with (first | (at_builtin; refine wpList_append_lies _ rfl (.tmp 123) (.tmp 125) 40 rfl (rb + 1) 2 i2 (.int .i64 0) 1 8 Tryd.underlying40 hi2 ha0 ha1 ha2 rfl (by decide) _ _ _ rfl (hown.out.alloc _) ⟨w6.heap.size, 0, none⟩ 1 1 [.int .i64 (-((z : Int) / 2) - 1)] rfl rfl (cell_one_new _ _ _) (by intro u hu; simp at hu; subst hu; rfl) (by decide) (by unfold maxLen; omega) (by omega) (by simp; omega) (w6.heap.size + 1) (by simp) ?_))
                intro g9 cap9 w9 own9 grow9 hg9 hlt9
                obtain ⟨m9, a9⟩ := (M4.out _).grownAt grow9
                obtain ⟨e0, e1, ef, el⟩ := a9.cells
                have M5 := Lib.hid ((M4.out _).store _ grow9 (by rw [HLN.out]; exact own9))
                clear m9 a9 own9 grow9 hg9 hlt9 hown M4 M3 d0 d1 df dl
                go_wp2_with fail
                go_roundg (gk - 1)
                case measure => omega
                case rel => exact ⟨_, ns ++ [-((z : Int) / 2) - 1], t4, bad4, by rw [LL.out]; go_num, by rw [LL.out]; omega, by rw [LL.out]; omega, hz4, M5, S3⟩
            · have he : my ≤ ns.length ∨ 60 < ns.length ∨ bad = true := by
                by_cases a1 : my ≤ ns.length
                · exact .inl a1
                · by_cases a2 : 60 < ns.length
                  · exact .inr (.inl a2)
                  · refine .inr (.inr ?_)
                    cases bad
                    · exact absurd ⟨by omega, by omega, rfl⟩ hgo
                    · rfl
              obtain ⟨c0, c1, c2, c3, cf, cl⟩ := M2.out.md.q.cells
              have NO := Lib.hid (fun hx => FB.out H4.out (S2.out.no G.out he hx))
              cases bad
              · have RB : Hid (∀ w', Below wr.heap.size wr w' → Calls Tryd.prog 39 #[RV kd sl ns.length cap] w' fun e w'' => e = .returned (.string ⟨(recT kd ns).toArray⟩) ∧ Below wr.heap.size wr w'') := fun w' hb => by
                  refine (srb_any kd sl cap ns w' (by unfold maxLen; omega) (HI.out.below hb)).mono ?_
                  rintro e w'' ⟨h1, h2⟩
                  exact ⟨h1, bT hb h2⟩
                have eX : (s.extract 0 (B + 4)).data.toList = (82 :: r).take (usedN x) := by rw [Lib.extract_data, List.drop_zero, Nat.sub_zero, HD.out, HU.out]
                have YES : Hid (((⟨(recT kd ns).toArray⟩ : ByteArray).toList == (s.extract 0 (B + 4)).toList) = true → IsBody (q.take x) kd ns) := fun h => by
                  refine (rec_eq G.out kd ns).1 ?_
                  rw [Go.ByteArray.toList_eq, Go.ByteArray.toList_eq, eX] at h
                  simpa using h
                have NOX : Hid (((⟨(recT kd ns).toArray⟩ : ByteArray).toList == (s.extract 0 (B + 4)).toList) = false → recT kd ns ≠ (82 :: r).take (usedN x)) := fun h => by
                  rw [Go.ByteArray.toList_eq, Go.ByteArray.toList_eq, eX] at h
                  simpa using h
                have he2 : my ≤ ns.length ∨ 60 < ns.length := by
                  rcases he with h | h | h
                  · exact .inl h
                  · exact .inr h
                  · cases h
                generalize (⟨(recT kd ns).toArray⟩ : ByteArray) = RT at *
                generalize hL : ns.length = i at *
                have HLN := Lib.hid hL
                clear he hgo eX hL
                have eB4 : Hid (((B : Int) + 4).toNat = B + 4) := by show _ = _; omega
                by_cases a1 : i < my
                · have a1' : (i : Int) < (my : Int) := by omega
                  have a2' : ¬ (i : Int) ≤ 60 := by omega
                  go_wp2_with fail
                  go_region_held_law (fun w' => w.heap.size + 1 < w'.heap.size ∧ rb < w'.heap.size ∧ w'.cell? ⟨w.heap.size + 1, 1, none⟩ = some (.bool false) ∧ w'.cell? ⟨rb, 0, none⟩ = some (.int .i64 kd) ∧ w'.cell? ⟨rb, 1, none⟩ = some (.slice sl i cap)) (first | exact M2.out.five | exact M6.out.five) (first | (go_at_call 39; refine (RB.out _ (by first | exact Below.refl _ _ | exact (Below.refl _ _).drew | exact Go.below_drewN (Below.refl _ _) _)).mono ?_; rintro e w7 ⟨rfl, b7⟩; have M6 := Lib.hid (M2.out.below b7)))
                  rw [eB4.out]
                  generalize (RT.toList == (s.extract 0 (B + 4)).toList) = bq at *
                  clear c0 c1 c2 c3 cf cl d0 d1 df dl n0 n1 nf nl RB b7
                  obtain ⟨c0, c1, c2, c3, cf, cl⟩ := M6.out.md.q.cells
                  obtain ⟨d0, d1, df, dl⟩ := M6.out.va.cells
                  cases bq
                  · have F := Lib.hid (NO.out (.inr (NOX.out rfl)))
                    go_wp2
                    exact bodyPost_ret (v := RO 0 (.slice none 0 0) 0 3) (by simp [results, Tryd.results30, go_sem, c0, c1, c2, c3]) rfl (.inr ⟨F.out.2, by rw [F.out.1], b4 M6.out.md.low _ _ _ _⟩)
                  · have IB := Lib.hid (YES.out rfl)
                    have hu : Hid (((B : Int) + 4) = 1 + ((numB x).length : Int) + (x : Int) + 4) := by show _ = _; have h1 := HB.out; omega
                    obtain ⟨k0, k1, k2, k3⟩ := (M6.out.md.q.set4 (.int .i64 kd) (.slice sl i cap) (.int .i64 ((B : Int) + 4)) (.int .i64 0)).cells
                    have O6 : Hid (w7.ownsRow (rb + 1) 2 1 (.slice sl i cap) i (valsZ ns)) := by have := M6.out.row; rwa [HLN.out] at this
                    have hlt6 : w.heap.size < rb + 1 := by omega
                    go_wp2
                    refine bodyPost_ret (v := RO kd (.slice sl i cap) ((B : Int) + 4) 0) (by simp [results, Tryd.results30, go_sem, k0, k1, k2, k3]) rfl (.inl ⟨x, q, kd, ns, _, G.out, IB.out, by rw [← hu.out], ?_, b4 M6.out.md.low _ _ _ _⟩)
                    rw [HLN.out]
                    exact own_mono (own_set (own_set (own_set (own_set O6.out hlt6 _ _) hlt6 _ _) hlt6 _ _) hlt6 _ _) (by omega)
                · have a1' : ¬ (i : Int) < (my : Int) := by omega
                  go_wp2_with fail
                  go_region_held_law (fun w' => w.heap.size + 1 < w'.heap.size ∧ rb < w'.heap.size ∧ w'.cell? ⟨w.heap.size + 1, 1, none⟩ = some (.bool false) ∧ w'.cell? ⟨rb, 0, none⟩ = some (.int .i64 kd) ∧ w'.cell? ⟨rb, 1, none⟩ = some (.slice sl i cap)) (first | exact M2.out.five | exact M6.out.five) (first | (go_at_call 39; refine (RB.out _ (by first | exact Below.refl _ _ | exact (Below.refl _ _).drew | exact Go.below_drewN (Below.refl _ _) _)).mono ?_; rintro e w7 ⟨rfl, b7⟩; have M6 := Lib.hid (M2.out.below b7)))
                  rw [eB4.out]
                  generalize (RT.toList == (s.extract 0 (B + 4)).toList) = bq at *
                  clear c0 c1 c2 c3 cf cl d0 d1 df dl n0 n1 nf nl RB b7
                  obtain ⟨c0, c1, c2, c3, cf, cl⟩ := M6.out.md.q.cells
                  obtain ⟨d0, d1, df, dl⟩ := M6.out.va.cells
                  cases bq
                  · have F := Lib.hid (NO.out (.inr (NOX.out rfl)))
                    go_wp2
                    exact bodyPost_ret (v := RO 0 (.slice none 0 0) 0 3) (by simp [results, Tryd.results30, go_sem, c0, c1, c2, c3]) rfl (.inr ⟨F.out.2, by rw [F.out.1], b4 M6.out.md.low _ _ _ _⟩)
                  · have IB := Lib.hid (YES.out rfl)
                    have hu : Hid (((B : Int) + 4) = 1 + ((numB x).length : Int) + (x : Int) + 4) := by show _ = _; have h1 := HB.out; omega
                    obtain ⟨k0, k1, k2, k3⟩ := (M6.out.md.q.set4 (.int .i64 kd) (.slice sl i cap) (.int .i64 ((B : Int) + 4)) (.int .i64 0)).cells
                    have O6 : Hid (w7.ownsRow (rb + 1) 2 1 (.slice sl i cap) i (valsZ ns)) := by have := M6.out.row; rwa [HLN.out] at this
                    have hlt6 : w.heap.size < rb + 1 := by omega
                    go_wp2
                    refine bodyPost_ret (v := RO kd (.slice sl i cap) ((B : Int) + 4) 0) (by simp [results, Tryd.results30, go_sem, k0, k1, k2, k3]) rfl (.inl ⟨x, q, kd, ns, _, G.out, IB.out, by rw [← hu.out], ?_, b4 M6.out.md.low _ _ _ _⟩)
                    rw [HLN.out]
                    exact own_mono (own_set (own_set (own_set (own_set O6.out hlt6 _ _) hlt6 _ _) hlt6 _ _) hlt6 _ _) (by omega)
              · have F := Lib.hid (NO.out (.inl rfl))
                generalize hL : ns.length = i at *
                clear he hgo
                by_cases a1 : i < my
                · have a1' : (i : Int) < (my : Int) := by omega
                  by_cases a2 : i ≤ 60
                  · have a2' : (i : Int) ≤ 60 := by omega
                    go_wp2_with fail
                    go_quiet (fail)
                    go_wp2
                    exact bodyPost_ret (v := RO 0 (.slice none 0 0) 0 3) (by simp [results, Tryd.results30, go_sem, c0, c1, c2, c3]) rfl (.inr ⟨F.out.2, by rw [F.out.1], b4 (Go.below_drewN M2.out.md.low _) _ _ _ _⟩)
                  · have a2' : ¬ (i : Int) ≤ 60 := by omega
                    go_wp2_with fail
                    go_quiet (fail)
                    go_wp2
                    exact bodyPost_ret (v := RO 0 (.slice none 0 0) 0 3) (by simp [results, Tryd.results30, go_sem, c0, c1, c2, c3]) rfl (.inr ⟨F.out.2, by rw [F.out.1], b4 (Go.below_drewN M2.out.md.low _) _ _ _ _⟩)
                · have a1' : ¬ (i : Int) < (my : Int) := by omega
                  go_wp2_with fail
                  go_quiet (fail)
                  go_wp2
                  exact bodyPost_ret (v := RO 0 (.slice none 0 0) 0 3) (by simp [results, Tryd.results30, go_sem, c0, c1, c2, c3]) rfl (.inr ⟨F.out.2, by rw [F.out.1], b4 (Go.below_drewN M2.out.md.low _) _ _ _ _⟩)

end Go.Proofs.YtmffoannknkjkaaDoor
namespace Go.Proofs.YtmffoannknkjkaaDoor
open Go.RowKit
set_option linter.unusedVariables false

set_option maxRecDepth 100000 in
set_option maxHeartbeats 1000000 in
theorem sr_two (s : ByteArray) (r : List UInt8) (hd : s.data.toList = 82 :: r) (h2 : s.size = 2) (h1 : 1 < s.size) (hb : (s[1]'h1).toNat < 128) (w : World) :
    Calls Tryd.prog 30 #[.string s] w fun e w' => RdPost (82 :: r) w e w' := by
  have hlen : s.data.toList.length = s.size := by simp
  have hp : 0 < s.size := by omega
  have hp' : (0 : Int) < (s.size : Int) := by omega
  have hp1 : (1 : Int) ≤ (s.size : Int) := by omega
  have hp2 : (1 : Int) < (s.size : Int) := by omega
  have h1' : ((s.size : Int) == 0) = false := by rw [beq_eq_false_iff_ne]; omega
  have h2' : ((s.size : Int) == 1) = false := by rw [beq_eq_false_iff_ne]; omega
  have h3' : ((s.size : Int) == 2) = true := by rw [h2]; rfl
  have h4' : ¬ (128 : Int) ≤ ((s[1]'h1).toNat : Int) := by omega
  have h82 : (s[0]'hp) = 82 := by
    have := drop_cons s 0 hp
    simp only [List.drop_zero, hd, List.cons.injEq] at this
    exact this.1.symm
  have e82 : ((s[0]'hp).toNat : Int) = 82 := by rw [h82]; rfl
  have er : r = [s[1]'h1] := by
    have := drop_cons s 1 h1
    rw [hd, List.drop_succ_cons, List.drop_zero, List.drop_succ_cons] at this
    rw [this]
    congr 1
    have hr : r.length = 1 := by rw [hd] at hlen; simp at hlen; omega
    exact List.drop_of_length_le (by omega)
  have eR : (s.extract 1 s.size).data.toList = r := by
    rw [Lib.extract_data, hd]
    simp only [List.drop_succ_cons, List.drop_zero]
    exact List.take_of_length_le (by rw [hd] at hlen; simp at hlen; omega)
  have hS : ¬ Short r := by
    rw [er]
    rintro (h | ⟨y, h, hy⟩)
    · cases h
    · simp only [List.cons.injEq, and_true] at h
      rw [← h] at hy; omega
  have R8 : rdN 8 r = some ((s[1]'h1).toNat, []) := by rw [er]; exact rdN_byte 7 _ _ hb
  have R2 : rdN 2 r = some ((s[1]'h1).toNat, []) := by rw [er]; exact rdN_byte 1 _ _ hb
  have F := Lib.hid (rdF_cut (by rw [er]; simp) hS R2 (by omega) (by simp))
  have D0 := Lib.hid (MD.new w (s.extract 1 s.size))
  have NU := Lib.hid (num_s (w.heap.size + 1) (s.extract 1 s.size) false _ (by simp; omega) D0.out.n)
  have ER := Lib.hid eR
  have HR8 := Lib.hid R8
  clear eR hd hlen h82 hS er R8 R2 h2
  go_enter Tryd.func30, Tryd.ntmps30
  go_wp2_with fail
  refine NU.out.mono ?_
  rintro e w1 ⟨x, t1, bad1, rfl, hx, hN, ht1, hsome, hnone, -, ho⟩
  have D1 := Lib.hid (D0.out.num ho hN)
  rw [ER.out] at hsome hnone
  clear hN ho NU D0 hnone
  obtain ⟨n0, n1, nf, nl⟩ := D1.out.n.cells
  obtain ⟨c0, c1, c2, c3, cf, cl⟩ := D1.out.q.cells
  obtain ⟨hx1, hq, rfl⟩ := hsome _ _ HR8.out
  have hx0 : (0 : Int) ≤ (x : Int) := by omega
  have hn' : ¬ (1000 : Int) < (x : Int) := by omega
  have hz : t1.size = 0 := by have : t1.data.toList.length = 0 := by rw [hq]; rfl
                              simpa using this
  have hq' : (t1.size : Int) < (x : Int) + 4 := by omega
  clear hsome hq hx1
  go_wp2
  exact bodyPost_ret (v := RO 0 (.slice none 0 0) 0 6) (by simp [results, Tryd.results30, go_sem, c0, c1, c2, c3]) rfl (.inr ⟨F.out.2, by rw [F.out.1], b4 D1.out.low _ _ _ _⟩)

/-- l02Read, at every text that is not too long. -/
theorem sr_any (s : ByteArray) (hs : s.size ≤ 20000) (w : World) : Calls Tryd.prog 30 #[.string s] w fun e w' => RdPost s.data.toList w e w' := by
  have hlen : s.data.toList.length = s.size := by simp
  by_cases hd : s.data.toList.head? = some 82
  · obtain ⟨r, hr⟩ : ∃ r, s.data.toList = 82 :: r := by
      cases e : s.data.toList with
      | nil => rw [e] at hd; cases hd
      | cons a r => rw [e] at hd; simp at hd; exact ⟨r, by rw [hd]⟩
    have hl : r.length + 1 = s.size := by rw [hr] at hlen; simpa using hlen
    have hp : 0 < s.size := by omega
    have e0 : (s[0]'hp) = 82 := by
      have := drop_cons s 0 hp
      simp only [List.drop_zero, hr, List.cons.injEq] at this
      exact this.1.symm
    have e82 : ((s[0]'hp).toNat : Int) = 82 := by rw [e0]; rfl
    by_cases h3 : 2 < s.size
    · rw [hr]; exact sr_main s r hs hr h3 w
    · by_cases h2 : s.size = 2
      · have h1 : 1 < s.size := by omega
        by_cases hb : (s[1]'h1).toNat < 128
        · rw [hr]; exact sr_two s r hr h2 h1 hb w
        · have er : r = [s[1]'h1] := by
            have := drop_cons s 1 h1
            rw [hr, List.drop_succ_cons, List.drop_zero, List.drop_succ_cons] at this
            rw [this, List.drop_of_length_le (by omega)]
          obtain ⟨f1, f2⟩ := rdF_short (r := r) (by omega) (.inr ⟨_, er, by omega⟩)
          refine (sr_short s hp e82 (.inr ⟨h1, h2, by omega⟩) w).mono ?_
          rintro e w' ⟨rfl, hbl⟩
          rw [hr]
          exact .inr ⟨f2, by rw [f1], hbl⟩
      · have er : r = [] := List.eq_nil_of_length_eq_zero (by omega)
        obtain ⟨f1, f2⟩ := rdF_short (r := r) (by omega) (.inl er)
        refine (sr_short s hp e82 (.inl (by omega)) w).mono ?_
        rintro e w' ⟨rfl, hbl⟩
        rw [hr]
        exact .inr ⟨f2, by rw [f1], hbl⟩
  · obtain ⟨f1, f2⟩ := rdF_none (t := s.data.toList) (by omega) hd
    refine (sr_seven s hs hd w).mono ?_
    rintro e w' ⟨rfl, hb⟩
    exact .inr ⟨f2, by rw [f1], hb⟩

end Go.Proofs.YtmffoannknkjkaaDoor
namespace Go.Proofs.YtmffoannknkjkaaDoor
open Go.RowKit
set_option linter.unusedVariables false

set_option maxRecDepth 100000 in
set_option maxHeartbeats 1000000 in
theorem mrs_long (s : ByteArray) (hs : 20000 < s.size) (w : World) : Calls Tryd.prog 18 #[.string s] w fun e w' => RcPost s.data.toList w e w' := by
  have hs' : (20000 : Int) < (s.size : Int) := by omega
  have P : Hid (∀ w' , Below w.heap.size w w' → RcPost s.data.toList w (.returned (OV (.slice none 0 0) 0 2)) w') := fun w' hb => by
    obtain ⟨f1, f2⟩ := rdF_long (t := s.data.toList) (by simpa using hs)
    have hne : s.data.toList ≠ [] := fun e => by have := congrArg List.length e; rw [show s.data.toList.length = s.size by simp, List.length_nil] at this; omega
    have := Reads.stop hne f2
    rw [f1] at this
    exact ⟨[], _, 0, 2, this, rfl, ⟨⟨rfl, .inl ⟨rfl, rfl⟩⟩, by simp⟩, hb⟩
  go_enter Tryd.func18, Tryd.ntmps18
  go_wp2
  exact bodyPost_ret (v := OV (.slice none 0 0) 0 2) (by simp [results, Tryd.results18, go_sem]) rfl (P.out _ (bA0 _ _))

set_option maxRecDepth 100000 in
set_option maxHeartbeats 1000000 in
theorem mrs_main (s : ByteArray) (hs : s.size ≤ 20000) (w : World) : Calls Tryd.prog 18 #[.string s] w fun e w' => RcPost s.data.toList w e w' := by
  have hs' : ¬ (20000 : Int) < (s.size : Int) := by omega
  obtain ⟨i8, hi8, hd0, hd1, hd2⟩ := info_parts info28'
  have hlen : s.data.toList.length = s.size := by simp
  have HL := Lib.hid hlen
  clear hlen
  go_enter Tryd.func18, Tryd.ntmps18
  go_wp2_with fail
  have L0 : Hid (RL (w.heap.size + 1) (w.alloc Z30) (.slice none 0 0) [] 0 0 ((w.alloc Z30).alloc Z30)) := by have := RL.new (w.alloc Z30); rwa [show (w.alloc Z30).heap.size = w.heap.size + 1 by simp] at this
  go_loopg [] s.size (fun g wr => ∃ (v : Value) (rs : List (Int × Value × List Int)) (u : Nat), g + u = s.size ∧ rs.length ≤ u ∧ Hid (RL (w.heap.size + 1) (w.alloc Z30) v rs u 0 wr) ∧ Hid (∀ rs' u' c', Reads (s.data.toList.drop u) rs' u' c' → Reads s.data.toList (bare rs ++ rs') (u + u') c'))
  case atStart => exact ⟨_, [], 0, rfl, Nat.le_refl _, L0, fun rs' u' c' h => by simpa [bare] using h⟩
  case round =>
    obtain ⟨v, rs, u, hg, hru, L1, HR⟩ := hrel
    obtain ⟨sl, cap, rfl⟩ := L1.out.recs.form
    generalize hN : rs.length = n at *
    have HN := Lib.hid hN
    clear hN
    obtain ⟨d0, d1, d2, df, dl⟩ := L1.out.cells
    clear L0
    by_cases hu : u < s.size
    · have hu' : (u : Int) < (s.size : Int) := by omega
      have hu0 : (0 : Int) ≤ (u : Int) := by omega
      have ED : Hid ((s.extract u s.size).data.toList = s.data.toList.drop u) := by
        show _ = _
        rw [Lib.extract_data]; exact List.take_of_length_le (by simp)
      have RD : Hid (∀ w1, Below wr.heap.size wr w1 → Calls Tryd.prog 30 #[.string (s.extract u s.size)] w1 fun e w' => RdPost (s.data.toList.drop u) w1 e w') := fun w1 hb => by
        have := sr_any (s.extract u s.size) (by simp; omega) w1
        rwa [ED.out] at this
      clear ED
      go_wp2_with fail
      refine (RD.out wr (Below.refl _ _)).mono ?_
      rintro e w1 (⟨n1, q1, k1, zs, v1, g1, b1, rfl, own1, bl1⟩ | ⟨hno, rfl, bl1⟩)
      · have L2 := Lib.hid (L1.out.below bl1)
        have O2 : Hid (w1.ownsRow (w.heap.size + 2) 2 1 v1 zs.length (valsZ zs)) := own_mono own1 (by omega)
        have eu : (1 + ((numB n1).length : Int) + (n1 : Int) + 4) = ((usedN n1 : Nat) : Int) := by unfold usedN; omega
        have hm := g1.used
        have hm0 : 0 < usedN n1 := by unfold usedN; omega
        rw [List.length_drop, HL.out] at hm
        have HR2 : Hid (∀ rs' u' c', Reads (s.data.toList.drop (u + usedN n1)) rs' u' c' → Reads s.data.toList (bare rs ++ ((k1, zs) :: rs')) (u + usedN n1 + u') c') := fun rs' u' c' h => by
          have := HR.out _ _ _ (Reads.step g1 b1 (by rw [List.drop_drop]; exact h))
          rwa [← Nat.add_assoc] at this
        have RR := Lib.hid b1.1
        rw [eu]
        clear eu own1 bl1 g1 b1 d0 d1 d2 df dl L1 HR RD
        obtain ⟨d0, d1, d2, df, dl⟩ := L2.out.cells
        generalize usedN n1 = m at *
        obtain ⟨sl1, cap1, rfl, -⟩ := own_ints O2.out
        have O3 := Lib.hid (O2.out.alloc (.cells #[.int .i64 k1, .slice sl1 zs.length cap1, .int .i64 m, .int .i64 0] 52))
        have L3 := Lib.hid (L2.out.alloc (.cells #[.int .i64 k1, .slice sl1 zs.length cap1, .int .i64 m, .int .i64 0] 52))
        have hown : Hid ((w1.alloc (.cells #[.int .i64 k1, .slice sl1 zs.length cap1, .int .i64 m, .int .i64 0] 52)).ownsRow (w.heap.size + 2) 42 2 (.slice sl n cap) n (recCells rs)) := by have := L3.out.recs.row; rwa [HN.out] at this
        have hn9 : n ≤ 20000 := by omega
        generalize hq : zs.length = q at *
        have HQ := Lib.hid hq
        clear hq
        have L4 := Lib.hid (L3.out.alloc (.cells #[.int .i64 k1, .slice sl1 q cap1] 42))
        have O4 := Lib.hid (O3.out.alloc (.cells #[.int .i64 k1, .slice sl1 q cap1] 42))
        go_wp2_with (first | (at_builtin; refine wpList_append_lies _ rfl (.tmp 28) (.tmp 31) 35 rfl (w.heap.size + 2) 42 i8 (.agg #[.int .i64 0, .slice none 0 0]) 2 32 Tryd.underlying35 hi8 hd0 hd1 hd2 rfl (by decide) _ _ _ rfl (hown.out.alloc _) ⟨w1.heap.size + 1, 0, none⟩ 1 1 [.int .i64 k1, .slice sl1 q cap1] rfl rfl (two_new2 _ _ _ _ _) (by intro u hu; simp at hu; rcases hu with rfl | rfl <;> rfl) (by decide) (by unfold maxLen; omega) (by omega) (by simp; omega) (w1.heap.size + 2) (by simp) ?_))
        intro g9 cap9 w9 own9 grow9 hg9 hlt9
        obtain ⟨e0, e1, e2, ef, el⟩ := L4.out.grownAt grow9
        obtain ⟨n2, nl⟩ := L2.out.nextAt _ _ _ _ _ grow9
        have L5 := Lib.hid ((L4.out.store k1 (.slice sl1 q cap1) zs (by have := O4.out; rwa [← HQ.out] at this ⊢) RR.out grow9 (by rw [HN.out]; exact own9)).setU ((u + m : Nat) : Int))
        have hne : w1.heap.size ≠ w.heap.size + 1 := by omega
        have hw : IntKind.i64.wrap ((u : Int) + (m : Int)) = ((u + m : Nat) : Int) := by rw [IntKind.wrap_i64]; omega
        clear own9 grow9 hg9 hlt9 L3 L4 O3 O4 hown O2 d0 d1 d2 df dl
        have HR3 : Hid (∀ rs' u' c', Reads (s.data.toList.drop (u + m)) rs' u' c' → Reads s.data.toList (bare (rs ++ [(k1, Value.slice sl1 q cap1, zs)]) ++ rs') (u + m + u') c') := fun rs' u' c' h => by
          have := HR2.out rs' u' c' h
          simpa [bare] using this
        have LN : Hid ((rs ++ [(k1, Value.slice sl1 q cap1, zs)]).length ≤ u + m) := by show _ ≤ _; rw [List.length_append, HN.out, List.length_singleton]; omega
        clear HR2
        go_wp2_with fail
        go_roundg (gk - m)
        case measure => omega
        case rel => exact ⟨_, rs ++ [(k1, Value.slice sl1 q cap1, zs)], u + m, by omega, LN.out, by rw [← Int.natCast_add]; exact L5, HR3⟩
      · have L2 := Lib.hid (L1.out.below bl1)
        have hc := rdF_ne (s.data.toList.drop u)
        have RS : Hid (Reads s.data.toList (bare rs) u (rdF (s.data.toList.drop u))) := by
          have := HR.out _ _ _ (Reads.stop (fun e => by have := congrArg List.length e; rw [List.length_drop, HL.out, List.length_nil] at this; omega) hno)
          rw [List.append_nil, Nat.add_zero] at this; exact this
        clear hno bl1 d0 d1 d2 df dl HR RD
        obtain ⟨d0, d1, d2, df, dl⟩ := L2.out.cells
        generalize rdF (s.data.toList.drop u) = c at *
        have hc' : (c != 0) = true := by simp [hc]
        obtain ⟨q0, q1, q2, qf, ql⟩ := L2.out.res
        obtain ⟨z0, z1, z2, P⟩ := (L2.out.setC c).finA RS.out (.cells #[.int .i64 0, .slice none 0 0, .int .i64 0, .int .i64 c] 52)
        clear L1
        go_wp2
        exact bodyPost_ret (v := OV (.slice sl n cap) u c) (by simp [results, Tryd.results18, go_sem, z0, z1, z2]) rfl P.out
    · have hu' : ¬ (u : Int) < (s.size : Int) := by omega
      obtain ⟨q0, q1, q2, qf, ql, z0, z1, z2, P⟩ := L1.out.fin (by
        have := HR.out [] 0 0 (by rw [List.drop_of_length_le (by rw [HL.out]; omega)]; exact Reads.done)
        simpa using this)
      go_wp2
      exact bodyPost_ret (v := OV (.slice sl n cap) u 0) (by simp [results, Tryd.results18, go_sem, z0, z1, z2]) rfl P.out

theorem mrs_any (s : ByteArray) (w : World) : Calls Tryd.prog 18 #[.string s] w fun e w' => RcPost s.data.toList w e w' := by
  by_cases h : s.size ≤ 20000
  · exact mrs_main s h w
  · exact mrs_long s (by omega) w

end Go.Proofs.YtmffoannknkjkaaDoor
namespace Go.Proofs.YtmffoannknkjkaaDoor
open Go.RowKit
set_option linter.unusedVariables false

/-- The n numbers from k on. -/
def marksZ (k : Int) (n : Nat) : List Int := (List.range n).map (fun i : Nat => k + (i : Int))
/-- The first i cells of a row hold the marksZ. -/
def Marked (w : World) (b s : Nat) (k : Int) (i : Nat) : Prop := ∃ vs : Array Value, RowAtZ w b vs ∧ vs.size = s ∧ ∀ j, j < i → vs[j]? = some (.int .i64 (k + (j : Int)))
theorem Marked.step {w : World} {b s : Nat} {k : Int} {i : Nat} (h : Marked w b s k i) (hi : i < s) : Marked (w.setCell ⟨b, i, none⟩ (.int .i64 (k + (i : Int)))) b s k (i + 1) := by
  obtain ⟨vs, h1, h2, h3⟩ := h
  refine ⟨_, h1.set i _, by simp [h2], fun j hj => ?_⟩
  rw [Array.getElem?_setIfInBounds]
  by_cases e : i = j
  · subst e; simp [h2, hi]
  · rw [if_neg e]; exact h3 j (by omega)
theorem Marked.cell {w : World} {b s : Nat} {k : Int} {i : Nat} (h : Marked w b s k i) (j : Nat) (hj : j < s) : (∃ v, w.cell? ⟨b, j, none⟩ = some v) ∧ w.frozen? ⟨b, j, none⟩ = false := by
  obtain ⟨vs, h1, h2, h3⟩ := h
  exact ⟨⟨vs[j]'(by omega), by rw [h1.cell j]; exact Array.getElem?_eq_getElem (by omega)⟩, h1.frozen j⟩
theorem Marked.at {w : World} {b s : Nat} {k : Int} {i : Nat} (h : Marked w b s k i) (j : Nat) (hj : j < i) : w.cell? ⟨b, j, none⟩ = some (.int .i64 (k + (j : Int))) := by
  obtain ⟨vs, h1, h2, h3⟩ := h
  rw [h1.cell j]; exact h3 j hj

theorem Only.grownBy {b : Nat} {w w' : World} (h : Only b w w') : w.grownBy w' (some b) := ⟨h.os, h.tape, h.output, h.size, fun k hk hne => h.block k hk (fun e => hne (by rw [e]))⟩
end Go.Proofs.YtmffoannknkjkaaDoor
namespace Go.Proofs.YtmffoannknkjkaaDoor
open Go.RowKit
set_option linter.unusedVariables false

/-- Record i of a list. -/
theorem RecsIn.at {B : Nat} {w : World} {v : Value} {rs : List (Int × Value × List Int)} (h : RecsIn B w v rs) (i : Nat) (hi : i < rs.length) :
    ∃ g cap k sl2 cap2 zs, v = .slice (some ⟨g, 0, none⟩) rs.length cap ∧ g < w.heap.size ∧ (bare rs)[i]? = some (k, zs) ∧ w.cell? ⟨g, i * 2, none⟩ = some (.int .i64 k) ∧ w.cell? ⟨g, i * 2 + 1, none⟩ = some (.slice sl2 zs.length cap2) ∧ Ints w sl2 zs ∧ recR k zs = true := by
  obtain ⟨hu, hr⟩ := h.each rs[i] (List.getElem_mem hi)
  obtain ⟨sl2, cap2, e, hI⟩ := own_ints hu
  rcases h.row.2 with ⟨_, h0⟩ | ⟨g, cap, cur, rfl, hb, hg, _⟩
  · omega
  · have hc : ∀ l : List (Int × Value × List Int), ∀ i (hi : i < l.length), (recCells l)[i * 2]? = some (.int .i64 l[i].1) ∧ (recCells l)[i * 2 + 1]? = some l[i].2.1 := by
      intro l
      induction l with
      | nil => intro i hi; simp at hi
      | cons a r ih =>
        intro i hi
        cases i with
        | zero => simp [recCells]
        | succ i =>
          have := ih i (by simpa using hi)
          rw [show (i + 1) * 2 = i * 2 + 2 by omega, show i * 2 + 2 + 1 = (i * 2 + 1) + 2 by omega]
          simpa [recCells] using this
    have hcc := hc rs i hi
    refine ⟨g, cap, rs[i].1, sl2, cap2, rs[i].2.2, rfl, (Array.getElem?_eq_some_iff.1 hg).1, ?_, ?_, ?_, hI, hr⟩
    · simp [bare, hi]
    · have := World.ownsRow.cellAt h.row (i * 2) (by omega)
      rw [this, hcc.1]
    · have := World.ownsRow.cellAt h.row (i * 2 + 1) (by omega)
      rw [this, hcc.2, e]

end Go.Proofs.YtmffoannknkjkaaDoor
namespace Go.Proofs.YtmffoannknkjkaaDoor
open Go.RowKit
set_option linter.unusedVariables false

abbrev RcL := List (Int × Value × List Int)
/-- A list of records, each with numbers of its own, right or not. -/
structure RecsB (B : Nat) (w : World) (v : Value) (rs : RcL) : Prop where
  row : w.ownsRow B 42 2 v rs.length (recCells rs)
  each : ∀ r ∈ rs, w.ownsRow B 2 1 r.2.1 r.2.2.length (valsZ r.2.2)
theorem RecsIn.b {B : Nat} {w : World} {v : Value} {rs : RcL} (h : RecsIn B w v rs) : RecsB B w v rs := ⟨h.row, fun r hr => (h.each r hr).1⟩
theorem RecsB.below {B : Nat} {w w' : World} {v : Value} {rs : RcL} (h : RecsB B w v rs) (hb : Below w.heap.size w w') : RecsB B w' v rs := ⟨own_below h.row hb, fun r hr => own_below (h.each r hr) hb⟩
theorem RecsB.form {B : Nat} {w : World} {v : Value} {rs : RcL} (h : RecsB B w v rs) : ∃ sl cap, v = .slice sl rs.length cap := by
  rcases h.row.2 with ⟨rfl, h0⟩ | ⟨g, cap, cur, rfl, _⟩
  · exact ⟨none, 0, by rw [h0]⟩
  · exact ⟨_, cap, rfl⟩
/-- No two records have their numbers in one row. -/
def Apart (rs : RcL) : Prop := rs.Pairwise fun a b => a.2.1.ownBlock = none ∨ a.2.1.ownBlock ≠ b.2.1.ownBlock
theorem apart_nil : Apart [] := List.Pairwise.nil
theorem Apart.add {rs : RcL} (h : Apart rs) {r : Int × Value × List Int} (hr : ∀ a ∈ rs, a.2.1.ownBlock = none ∨ a.2.1.ownBlock ≠ r.2.1.ownBlock) : Apart (rs ++ [r]) := by
  unfold Apart
  rw [List.pairwise_append]
  exact ⟨h, by simp, fun a ha b hb => by simp at hb; subst hb; exact hr a ha⟩

/-- The marksZ of a list of records, from k on. -/
def mkd : Int → RcL → RcL
  | _, [] => []
  | k, (_, v, zs) :: r => (k, v, marksZ (k + 1) zs.length) :: mkd (k + 1 + zs.length) r
theorem mkd_blocks (k : Int) (a : RcL) : (mkd k a).map (fun r => r.2.1) = a.map (fun r => r.2.1) := by
  induction a generalizing k with
  | nil => rfl
  | cons x r ih => obtain ⟨a, v, zs⟩ := x; simp [mkd, ih]
theorem recCells_at (rs : RcL) (i : Nat) (hi : i < rs.length) : (recCells rs)[i * 2]? = some (.int .i64 rs[i].1) ∧ (recCells rs)[i * 2 + 1]? = some rs[i].2.1 := by
  induction rs generalizing i with
  | nil => simp at hi
  | cons a r ih =>
    cases i with
    | zero => simp [recCells]
    | succ i =>
      have := ih i (by simpa using hi)
      rw [show (i + 1) * 2 = i * 2 + 2 by omega, show i * 2 + 2 + 1 = (i * 2 + 1) + 2 by omega]
      simpa [recCells] using this
theorem recCells_len (rs : RcL) : (recCells rs).length = rs.length * 2 := by
  induction rs with
  | nil => rfl
  | cons a r ih => rw [show recCells (a :: r) = [.int .i64 a.1, a.2.1] ++ recCells r from rfl, List.length_append, ih]; simp; omega
theorem recCells_set (p q : RcL) (a k : Int) (u : Value) (zs : List Int) : (recCells (p ++ (a, u, zs) :: q)).set (p.length * 2) (.int .i64 k) = recCells (p ++ (k, u, zs) :: q) := by
  have e (x : Int) : recCells (p ++ (x, u, zs) :: q) = recCells p ++ ([.int .i64 x, u] ++ recCells q) := by simp [recCells]
  rw [e, e, List.set_append_right _ _ (by rw [recCells_len]; exact Nat.le_refl _), recCells_len]
  simp
/-- The list's row: where a record lies in it. -/
theorem RecsB.at {B : Nat} {w : World} {v : Value} {rs : RcL} (h : RecsB B w v rs) (i : Nat) (hi : i < rs.length) :
    ∃ g cap, v = .slice (some ⟨g, 0, none⟩) rs.length cap ∧ B ≤ g ∧ g < w.heap.size ∧ w.cell? ⟨g, i * 2, none⟩ = some (.int .i64 rs[i].1) ∧ w.cell? ⟨g, i * 2 + 1, none⟩ = some rs[i].2.1 ∧ (∀ o, w.frozen? ⟨g, o, none⟩ = false) := by
  rcases h.row.2 with ⟨_, h0⟩ | ⟨g, cap, cur, rfl, hb, hg, hcap, hmx, hcur, hx⟩
  · omega
  · have hcc := recCells_at rs i hi
    refine ⟨g, cap, rfl, hb, (Array.getElem?_eq_some_iff.1 hg).1, ?_, ?_, fun o => by simp [World.frozen?, hg]⟩
    · rw [World.ownsRow.cellAt h.row (i * 2) (by omega), hcc.1]
    · rw [World.ownsRow.cellAt h.row (i * 2 + 1) (by omega), hcc.2]
/-- One record's kind is written. -/
theorem RecsB.kind {B : Nat} {w : World} {g n cap : Nat} {p q : RcL} {a : Int} {u : Value} {zs : List Int} (h : RecsB B w (.slice (some ⟨g, 0, none⟩) n cap) (p ++ (a, u, zs) :: q)) (k : Int) :
    RecsB B (w.setCell ⟨g, p.length * 2, none⟩ (.int .i64 k)) (.slice (some ⟨g, 0, none⟩) n cap) (p ++ (k, u, zs) :: q) ∧ w.grownBy (w.setCell ⟨g, p.length * 2, none⟩ (.int .i64 k)) (some g) := by
  have hl : (p ++ (k, u, zs) :: q).length = (p ++ (a, u, zs) :: q).length := by simp
  have hgr : w.grownBy (w.setCell ⟨g, p.length * 2, none⟩ (.int .i64 k)) (some g) := ((Only.refl g w).setCell _ _).grownBy
  have hself := h.row
  rcases h.row.2 with ⟨hv, _⟩ | ⟨g', cap', cur, hv, hb, hg, hcap, hmx, hcur, hx⟩
  · cases hv
  · simp only [Value.slice.injEq, Option.some.injEq, Addr.mk.injEq, and_true] at hv
    obtain ⟨rfl, e1, rfl⟩ := hv
    refine ⟨⟨⟨?_, .inr ⟨g, cap, cur.setIfInBounds (p.length * 2) (.int .i64 k), by rw [hl, e1], hb, heap_setCell_same w g _ cur 42 _ hg, by rw [hl]; exact hcap, hmx, by simp [hcur], ?_⟩⟩, fun r hr => ?_⟩, hgr⟩
    · rw [recCells_len]
    · rw [hl, Array.toList_setIfInBounds, List.take_set, hx, recCells_set]
    · have hr' : w.ownsRow B 2 1 r.2.1 r.2.2.length (valsZ r.2.2) := by
        rcases List.mem_append.1 hr with hm | hm
        · exact h.each r (List.mem_append_left _ hm)
        · rcases List.mem_cons.1 hm with rfl | hm
          · exact h.each (a, u, zs) (by simp)
          · exact h.each r (by simp [hm])
      refine hr'.kept hgr ?_
      rcases own_ne hself hr' with h0 | h0
      · exact .inl h0
      · exact .inr h0
/-- The others' rows are not this one's. -/
theorem Apart.at {rs : RcL} (h : Apart rs) (i : Nat) (hi : i < rs.length) : ∀ r ∈ mkd 1 (rs.take i) ++ rs.drop (i + 1), r.2.1.ownBlock = none ∨ r.2.1.ownBlock ≠ rs[i].2.1.ownBlock := by
  intro r hr
  have e : rs = rs.take i ++ rs[i] :: rs.drop (i + 1) := by rw [← List.drop_eq_getElem_cons hi, List.take_append_drop]
  have h' : Apart (rs.take i ++ rs[i] :: rs.drop (i + 1)) := by rw [← e]; exact h
  unfold Apart at h'
  rw [List.pairwise_append] at h'
  obtain ⟨h1, h2, h3⟩ := h'
  rcases List.mem_append.1 hr with hm | hm
  · have : r.2.1 ∈ (mkd 1 (rs.take i)).map (fun r => r.2.1) := List.mem_map.2 ⟨r, hm, rfl⟩
    rw [mkd_blocks] at this
    obtain ⟨a, ha, ea⟩ := List.mem_map.1 this
    have := h3 a ha rs[i] List.mem_cons_self
    rwa [ea] at this
  · have := (List.pairwise_cons.1 h2).1 r hm
    rcases this with h0 | h0
    · rw [h0]
      rcases hv : r.2.1.ownBlock with _ | j
      · exact .inl rfl
      · exact .inr (by simp)
    · exact .inr (fun e => h0 e.symm)
end Go.Proofs.YtmffoannknkjkaaDoor
