/- -/
import Derived.Test.YtnihhbfgbilimaaGreatDoorXaa
import Derived.Test.YtnihhbfgbilimaaGreatDoorPq
import Derived.Test.YtnihhbfgbilimaaGreatDoorUaa
import Derived.Test.YtnihhbfgbilimaaGreatDoorXan
import Derived.Test.YtnihhbfgbilimaaGreatDoorVac
import Derived.Test.YtnihhbfgbilimaaGreatDoorUae
import Derived.Test.YtnihhbfgbilimaaGreatDoorXak
import Derived.Test.YtnihhbfgbilimaaGreatDoorXaj
import Derived.Test.YtnihhbfgbilimaaGreatDoorXai
import Derived.Test.YtnihhbfgbilimaaGreatDoorVab
import Derived.Test.YtnihhbfgbilimaaGreatDoorVaa
import Derived.Test.YtnihhbfgbilimaaGreatDoorKHae
import Derived.Test.YtnihhbfgbilimaaGreatDoorKHad
import Derived.Deep.RegionHeldLaw
namespace Go.Proofs.YtnihhbfgbilimaaGreatDoor
open Go.RowKit
set_option linter.unusedVariables false
theorem nbsF_len (ds : List (List LPl)) : ∀ last, (nbsF last ds).length = ds.length := by
  induction ds with
  | nil => intro _; rfl
  | cons d r ih => intro last; simp [nbsF, ih]
theorem nbsF_append (a b : List (List LPl)) : ∀ last, nbsF last (a ++ b) = nbsF last a ++ nbsF (last + a.flatten.length) b := by
  induction a with
  | nil => intro last; simp [nbsF]
  | cons x r ih => intro last; simp only [List.cons_append, nbsF, ih, List.flatten_cons, List.length_append]; congr 3; omega
theorem RowV.there {w : World} {b n : Nat} {ts : List Value} (h : RowV w b n ts) (j : Nat) (hj : j < n) : (∃ v, w.cell? ⟨b, j, none⟩ = some v) ∧ w.frozen? ⟨b, j, none⟩ = false := by
  obtain ⟨vs, h1, h2, h3⟩ := h
  exact ⟨⟨vs[j]'(by omega), by simp [World.cell?, h1, show j < vs.size by omega]⟩, by simp [World.frozen?, h1]⟩
theorem RowV.step {w : World} {b n : Nat} {ts : List Value} (h : RowV w b n ts) (hl : ts.length < n) (x : Value) (k : Nat) (hk : k = ts.length) :
    RowV (w.setCell ⟨b, k, none⟩ x) b n (ts ++ [x]) := by
  subst hk
  obtain ⟨vs, h1, h2, h3⟩ := h
  refine ⟨_, heap_setCell_same w b _ vs 34 x h1, by simp [h2], fun i hi => ?_⟩
  simp only [List.length_append, List.length_singleton] at hi
  by_cases e : i < ts.length
  · rw [Array.getElem?_setIfInBounds_ne (by omega), h3 i e, List.getElem_append_left e]
  · have e' : i = ts.length := by omega
    subst e'
    rw [Array.getElem?_setIfInBounds_self_of_lt (by omega)]
    simp
theorem ClOut.set {b : Nat} {w : World} {r : LCl} (h : ClOut b w r) {b' : Nat} (hb : b' ≤ b) (i : Nat) (v : Value) : ClOut b (w.setCell ⟨b', i, none⟩ v) r := by
  obtain ⟨g, e, hi, hg, hl⟩ := h
  exact ⟨g, e, hi.set (by omega) i v, hg, hl⟩
theorem ClOut.din {b : Nat} {w : World} {r : LCl} (h : ClOut b w r) : ClIn w r := by
  obtain ⟨g, e, hi, hg, hl⟩ := h
  exact ⟨_, _, e, hi, by unfold maxLen; omega⟩
theorem RowV.cls {w : World} {b n : Nat} {cs : List LCl} (h : RowV w b n (cs.map fun r => r.1)) (hd : ∀ r ∈ cs, ClOut b w r) : Cls w (some ⟨b, 0, none⟩) cs := by
  refine ⟨.inr ⟨b, 0, rfl, h.lt, fun i hi => ?_⟩, fun r hr => (hd r hr).din⟩
  obtain ⟨vs, h1, h2, h3⟩ := h
  have := h3 i (by simpa using hi)
  simp only [List.getElem_map] at this
  simp [World.cell?, h1, this]
theorem OwC.join {w wa w9 : World} {B : Nat} {v v2 v9 : Value} {cs ds : List LCl} (h : OwC w B v cs) (hb : Below w.heap.size w wa) (h2 : OwC wa w.heap.size v2 ds) (hB : B ≤ w.heap.size) (hg : wa.grownBy w9 v.ownBlock) (own9 : w9.ownsRow B 34 1 v9 (cs ++ ds).length (hdC cs ++ hdC ds)) : OwC w9 B v9 (cs ++ ds) := by
  have ha := h.below hb
  refine ⟨by rw [hdC_add]; exact own9, fun s hs => ?_, ?_⟩
  · rcases List.mem_append.1 hs with hs | hs
    · exact (ha.each s hs).kept hg (own_diff (ha.each s hs) ha.row (by decide))
    · exact own_mono ((h2.each s hs).kept hg (own_diff (h2.each s hs) ha.row (by decide))) hB
  · refine List.pairwise_append.2 ⟨h.diff, h2.diff, fun s hs t ht => ?_⟩
    cases e : s.1.ownBlock with
    | none => exact .inl e
    | some j =>
      refine .inr fun e2 => ?_
      rw [e] at e2
      have := ((h.each s hs).lt j e).2
      have := ((h2.each t ht).lt j e2.symm).1
      omega
def numF (last : Int) (n : Nat) : List Int := (List.range n).map fun i : Nat => last + (i : Int) + 1
theorem numF_len (last : Int) (n : Nat) : (numF last n).length = n := by simp [numF]
theorem numF_step (last : Int) (n : Nat) : numF last (n + 1) = numF last n ++ [last + (n : Int) + 1] := by simp [numF, List.range_succ]
theorem nbF_snd (l : List LPl) (last : Int) : (nbF last l).map (fun e => e.2) = numF last l.length := by
  apply List.ext_getElem
  · simp [nbF_len, numF]
  · intro k h1 h2
    have hk : k < l.length := by simpa [nbF_len] using h1
    simp only [List.getElem_map, nbF_at l last k hk]
    simp [numF]
def numR (rows : List LRow) : List (List Int) := (nbsF 0 (rows.map fun r => r.2)).map fun b => b.map fun e => e.2
theorem flat_len (rows : List LRow) : (rows.map fun r => r.2).flatten = flatR rows := by unfold flatR; rw [List.flatMap_def]
theorem numR_step (rows : List LRow) (k : Nat) (h : k < rows.length) : numR (rows.take (k + 1)) = numR (rows.take k) ++ [numF ((flatR (rows.take k)).length : Nat) rows[k].2.length] := by
  unfold numR
  rw [List.take_succ_eq_append_getElem h, List.map_append, nbsF_append, List.map_append, flat_len]
  simp only [List.map_cons, List.map_nil, nbsF, nbF_snd, Int.zero_add]
set_option maxRecDepth 100000 in
set_option maxHeartbeats 4000000 in
theorem vo_any (sl : Option Addr) (cap : Nat) (rows : List LRow) (w : World) (hn : rows.length ≤ 400) (hT : (flatR rows).length ≤ 1048576) (hz : Rws w sl rows) :
    Calls Tryz.prog 173 #[.slice sl rows.length cap] w fun e w' => ∃ v cs, e = .returned v ∧ OwC w' w.heap.size v cs ∧ bareC cs = numR rows ∧ Below w.heap.size w w' := by
  obtain ⟨i2, hi2, hb0, hb1, hb2⟩ := info_parts info2'
  obtain ⟨i4, hi4, hd0, hd1, hd2⟩ := info_parts info40
  have HZ := Lib.hid hz
  have FL := Lib.hid (fun k => flatR_le rows k)
  clear hz
  generalize hN : rows.length = n at *
  have HN := Lib.hid hN
  clear hN
  go_enter Tryz.func173, Tryz.ntmps173
  go_wp2
  go_loopw [3, 4, 10] (fun v l i wr => ∃ (k q : Nat) (cs : List LCl), i = .int .i64 k ∧ k ≤ n ∧ l = .int .i64 q ∧ q ≤ 1048576 ∧ Hid (q = (flatR (rows.take k)).length) ∧ Hid (OwC wr w.heap.size v cs) ∧ cs.length ≤ k ∧ Hid (bareC cs = numR (rows.take k)) ∧ Hid (Below w.heap.size w wr)) (fun _ _ i _ => n - (intOf i).toNat)
  case atStart => exact ⟨0, 0, [], rfl, Nat.zero_le _, rfl, Nat.zero_le _, rfl, OwC.nil _ _, Nat.zero_le _, rfl, Below.refl _ _⟩
  case round =>
    obtain ⟨k, q, cs, rfl, hk, rfl, hq, HQ, OC, hcl, BC, HB⟩ := hrel
    have hk0 : (0 : Int) ≤ (k : Int) := by omega
    by_cases g1 : k < n
    · have g1' : (k : Int) < (n : Int) := by omega
      have hlt : k < rows.length := by rw [HN.out]; exact g1
      have RW := HZ.out.below HB.out
      obtain ⟨c, rfl, cl, hcs⟩ : ∃ c, sl = some ⟨c, 0, none⟩ ∧ c < wr.heap.size ∧ ∀ i (h : i < rows.length), wr.cell? ⟨c, i, none⟩ = some rows[i].1 := by
        rcases RW.row with e | h
        · rw [e] at hlt; simp at hlt
        · exact h
      have hc := hcs k hlt
      obtain ⟨s1, k1, v1, -⟩ := RW.each rows[k] (List.getElem_mem hlt)
      rw [v1] at hc
      have QN := Lib.hid (show q + rows[k].2.length = (flatR (rows.take (k + 1))).length by rw [flatR_step rows k hlt, List.length_append, HQ.out])
      have hq2 : q + rows[k].2.length ≤ 1048576 := by rw [QN.out]; have := FL.out (k + 1); omega
      have BS := Lib.hid (show numR (rows.take (k + 1)) = bareC cs ++ [numF (q : Nat) rows[k].2.length] by rw [numR_step rows k hlt, BC.out, HQ.out])
      clear hcs v1 RW BC HQ
      generalize rows[k].2.length = r at *
      clear hlt
      obtain ⟨vsl, vcap, rfl⟩ := OC.out.v
      obtain ⟨w1, hw1⟩ : ∃ w1, w1 = wr := ⟨_, rfl⟩
      rw [← hw1] at OC HB cl hc ⊢
      clear hw1
      go_wp2
      go_loopw [4, 7, 16] (fun l v i wq => ∃ m : Nat, i = .int .i64 m ∧ m ≤ r ∧ l = .int .i64 ((q + m : Nat) : Int) ∧ Hid (wq.ownsRow w1.heap.size 2 1 v m (valsZ (numF (q : Nat) m))) ∧ Hid (Below w1.heap.size w1 wq)) (fun _ _ i _ => r - (intOf i).toNat)
      case atStart => exact ⟨0, rfl, Nat.zero_le _, rfl, ⟨rfl, .inl ⟨rfl, rfl⟩⟩, Below.refl _ _⟩
      case round =>
        obtain ⟨m, rfl, hm, rfl, OR, HB2⟩ := hrel
        have hm0 : (0 : Int) ≤ (m : Int) := by omega
        by_cases g2 : m < r
        · have g2' : (m : Int) < (r : Int) := by omega
          have hqm : ((q + m : Nat) : Int) ≤ 1048576 := by omega
          have hqm0 : (0 : Int) ≤ ((q + m : Nat) : Int) := by omega
          have FS := Lib.hid (show valsZ (numF (q : Nat) m) ++ [.int .i64 (((q + m : Nat) : Int) + 1)] = valsZ (numF (q : Nat) (m + 1)) by rw [numF_step, valsZ_add]; simp [valsZ])
          have EQ := Lib.hid (show ((q + m : Nat) : Int) + 1 = ((q + (m + 1) : Nat) : Int) by omega)
          generalize ((q + m : Nat) : Int) = qm at *
          obtain ⟨osl, ocap, rfl⟩ := own_v OR.out
          have OL := Lib.hid (show ∀ j, (Value.slice osl m ocap).ownBlock = some j → w1.heap.size ≤ j from fun j hj => (OR.out.lt j hj).1)
          have hks := HB2.out.size
          generalize valsZ (numF (q : Nat) m) = xs at *
          go_wp2_with (first | (at_builtin; refine wpList_append_lies _ rfl (.tmp 20) (.tmp 22) 34 rfl w1.heap.size 2 i2 (.int .i64 0) 1 8 Tryz.underlying34 hi2 hb0 hb1 hb2 rfl (by decide) _ _ _ rfl (OR.out.alloc _) ⟨wr.heap.size, 0, none⟩ 1 1 [.int .i64 (qm + 1)] rfl rfl (cell_one_new _ _ _) (by intro u hu; simp at hu; subst hu; rfl) (by decide) (by unfold maxLen; omega) (by omega) (by simp; omega) (wr.heap.size + 1) (by simp) ?_))
          intro g9 cap9 w9 own9 grow9 hg9 hlt9
          rw [FS.out] at own9
          have O9 := Lib.hid own9
          have B9 := Lib.hid ((bA HB2.out (.cells #[.int .i64 (qm + 1)] 2)).grown grow9 (by simp; omega) (fun j hj => OL.out j hj))
          clear own9 grow9 hg9 hlt9 OR HB2 OL FS
          go_wp2
          go_roundw
          case rel => exact ⟨m + 1, by go_num, by omega, by rw [EQ.out], O9, B9⟩
          case measure => simp [intOf]; omega
        · have g2' : ¬ (m : Int) < (r : Int) := by omega
          have em : m = r := by omega
          subst em
          have NL := Lib.hid (numF_len (q : Nat) m)
          obtain ⟨osl, ocap, rfl⟩ := own_v OR.out
          have O1 : Hid (wr.ownsRow w1.heap.size 2 1 (.slice osl m ocap) (numF (q : Nat) m).length (valsZ (numF (q : Nat) m))) := by rw [NL.out]; exact OR.out
          have hks := HB2.out.size
          have hks0 := HB.out.size
          have CV := Lib.hid ((OC.out.below HB2.out).row.alloc (.cells #[.slice osl m ocap] 34))
          have OL := Lib.hid (show ∀ j, (Value.slice vsl cs.length vcap).ownBlock = some j → w.heap.size ≤ j from fun j hj => (OC.out.row.lt j hj).1)
          have hcl2 : cs.length ≤ 400 := by omega
          clear OR
          go_wp2_with (first | (at_builtin; refine wpList_append_lies _ rfl (.tmp 25) (.tmp 27) 31 rfl w.heap.size 34 i4 (.slice none 0 0) 1 24 Tryz.underlying31 hi4 hd0 hd1 hd2 rfl (by decide) _ _ _ rfl CV.out ⟨wr.heap.size, 0, none⟩ 1 1 [.slice osl m ocap] rfl rfl (cell_at_new _ _ _) (by intro u hu; simp at hu; subst hu; rfl) (by decide) (by unfold maxLen; omega) (by omega) (by simp; omega) (wr.heap.size + 1) (by simp) ?_))
          intro g9 cap9 w9 own9 grow9 hg9 hlt9
          have BA := Lib.hid (bA HB2.out (.cells #[.slice osl m ocap] 34))
          have N9 : Hid (OwC w9 w.heap.size (.slice (some ⟨g9, 0, none⟩) (cs.length + 1) cap9) (cs ++ [(.slice osl m ocap, numF (q : Nat) m)])) :=
            OC.out.new BA.out (own_mono (O1.out.alloc _) hks0) (fun j hj => (O1.out.lt j hj).1) grow9 own9
          have B9 := Lib.hid ((bA (bT HB.out HB2.out) (.cells #[.slice osl m ocap] 34)).grown grow9 (by simp; omega) (fun j hj => OL.out j hj))
          have BN : Hid (bareC (cs ++ [(.slice osl m ocap, numF (q : Nat) m)]) = numR (rows.take (k + 1))) := by rw [BS.out, bareC_add]; rfl
          have LN : (cs ++ [((Value.slice osl m ocap, numF (q : Nat) m) : LCl)]).length ≤ k + 1 := by rw [List.length_append]; simp; omega
          clear own9 grow9 hg9 hlt9 CV OL BA O1 OC HB2 NL
          generalize cs ++ [((Value.slice osl m ocap, numF (q : Nat) m) : LCl)] = cs9 at *
          go_wp2
          go_roundw
          case rel => exact ⟨k + 1, q + m, cs9, by go_num, by omega, rfl, hq2, QN, N9, LN, BN, B9⟩
          case measure => simp [intOf]; omega
    · have g1' : ¬ (k : Int) < (n : Int) := by omega
      have P := Lib.hid (show bareC cs = numR rows by rw [BC.out, List.take_of_length_le (by rw [HN.out]; omega)])
      clear BC
      go_wp2
      go_ret
      exact ⟨_, rfl, cs, OC.out, P.out, HB.out⟩
def VarB (zs : List Int) : Prop := ∀ z ∈ zs, 0 ≤ z ∧ z ≤ 1048576
set_option maxRecDepth 100000 in
set_option maxHeartbeats 4000000 in
theorem nt_any (sl : Option Addr) (cap : Nat) (zs : List Int) (w : World) (hn : zs.length ≤ 1000) (hcap : zs.length ≤ cap) (hv : VarB zs) (hz : Ints w sl zs) :
    Calls Tryz.prog 174 #[.slice sl zs.length cap] w fun e w' => ∃ v cs, e = .returned v ∧ OwC w' w.heap.size v cs ∧ bareC cs = twoF zs ∧ Below w.heap.size w w' := by
  obtain ⟨i4, hi4, hd0, hd1, hd2⟩ := info_parts info40
  have HZ := Lib.hid hz
  have HV := Lib.hid hv
  clear hz hv
  generalize hN : zs.length = n at *
  have HN := Lib.hid hN
  clear hN
  go_enter Tryz.func174, Tryz.ntmps174
  go_wp2
  go_loopw [3, 10] (fun v i wr => ∃ (k : Nat) (cs : List LCl), i = .int .i64 k ∧ k ≤ n ∧ Hid (OwC wr w.heap.size v cs) ∧ cs.length ≤ k * 1000 ∧ Hid (twoF zs = bareC cs ++ twoF (zs.drop k)) ∧ Hid (Below w.heap.size w wr)) (fun _ i _ => n - (intOf i).toNat)
  case atStart => exact ⟨0, [], rfl, Nat.zero_le _, OwC.nil _ _, Nat.zero_le _, rfl, Below.refl _ _⟩
  case round =>
    obtain ⟨k, cs, rfl, hk, OC, hcl, BC, HB⟩ := hrel
    have hk0 : (0 : Int) ≤ (k : Int) := by omega
    by_cases g1 : k < n
    · have g1' : (k : Int) < (n : Int) := by omega
      have hlt : k < zs.length := by rw [HN.out]; exact g1
      obtain ⟨c, o, rfl, ZI⟩ : ∃ c o, sl = some ⟨c, o, none⟩ ∧ IntsAt w c o zs := by
        rcases HZ.out with e | h
        · rw [e] at hlt; simp at hlt
        · exact h
      have hc := (HB.out.cell (p := ⟨c, o + k, none⟩) ZI.1).trans (ZI.2 k hlt)
      have hxb := HV.out (zs.getD k 0) (by rw [List.getD_eq_getElem?_getD, List.getElem?_eq_getElem hlt]; exact List.getElem_mem hlt)
      have DS := Lib.hid (show twoF (zs.drop k) = (zs.drop (k + 1)).map (fun y => [-(zs.getD k 0), -y]) ++ twoF (zs.drop (k + 1)) by
        rw [← List.getElem_cons_drop (h := hlt), twoF]; simp [hlt])
      have ZA := Lib.hid ZI
      clear ZI hlt
      generalize zs.getD k 0 = x at *
      obtain ⟨x0, x1⟩ := hxb
      obtain ⟨vsl, vcap, rfl⟩ := OC.out.v
      obtain ⟨w1, hw1⟩ : ∃ w1, w1 = wr := ⟨_, rfl⟩
      rw [← hw1] at OC HB hc ⊢
      clear hw1
      by_cases hce : cap = k + 1
      · have en : n = k + 1 := by omega
        subst hce
        have BN := Lib.hid (show twoF zs = bareC cs ++ twoF (zs.drop (k + 1)) by rw [BC.out, DS.out, List.drop_of_length_le (by rw [HN.out]; omega)]; rfl)
        clear BC DS
        go_wp2
        go_loopw [3, 20] (fun v i wq => v = .slice vsl cs.length vcap ∧ i = .int .i64 0 ∧ wq = w1) (fun _ _ _ => 0)
        case atStart => exact ⟨rfl, rfl, rfl⟩
        case round =>
          obtain ⟨rfl, rfl, rfl⟩ := hrel
          have g2' : ¬ (0 : Int) < ((n - (k + 1) : Nat) : Int) := by omega
          go_wp2
          go_roundw
          case rel => exact ⟨k + 1, cs, by go_num, by omega, OC, by omega, BN, HB⟩
          case measure => simp [intOf]; omega
      · have hce' : ¬ cap = k + 1 := hce
        have BN := Lib.hid (show twoF zs = (bareC cs ++ (zs.drop (k + 1)).map (fun y => [-x, -y])) ++ twoF (zs.drop (k + 1)) by rw [BC.out, DS.out, List.append_assoc])
        clear BC DS
        have hr : n - (k + 1) + (k + 1) = n := by omega
        go_wp2
        generalize n - (k + 1) = r at *
        go_loopw [3, 20] (fun v i wq => ∃ (m : Nat) (ds : List LCl), i = .int .i64 m ∧ m ≤ r ∧ Hid (OwC wq w.heap.size v ds) ∧ ds.length ≤ k * 1000 + m ∧ Hid (bareC ds = bareC cs ++ ((zs.drop (k + 1)).take m).map (fun y => [-x, -y])) ∧ Hid (Below w.heap.size w wq)) (fun _ i _ => r - (intOf i).toNat)
        case atStart => exact ⟨0, cs, rfl, Nat.zero_le _, OC, by omega, (by show bareC cs = bareC cs ++ _; simp), HB⟩
        case round =>
          obtain ⟨m, ds, rfl, hm, OD, hdl, BD, HD⟩ := hrel
          have hm0 : (0 : Int) ≤ (m : Int) := by omega
          by_cases g2 : m < r
          · have g2' : (m : Int) < (r : Int) := by omega
            have hlt : k + 1 + m < zs.length := by rw [HN.out]; omega
            have hc2 := (HD.out.cell (p := ⟨c, o + (k + 1 + m), none⟩) ZA.out.1).trans (ZA.out.2 (k + 1 + m) hlt)
            have hyb := HV.out (zs.getD (k + 1 + m) 0) (by rw [List.getD_eq_getElem?_getD, List.getElem?_eq_getElem hlt]; exact List.getElem_mem hlt)
            have TS := Lib.hid (show ((zs.drop (k + 1)).take (m + 1)).map (fun y => [-x, -y]) = ((zs.drop (k + 1)).take m).map (fun y => [-x, -y]) ++ [[-x, -(zs.getD (k + 1 + m) 0)]] by
              rw [List.take_succ_eq_append_getElem (by rw [List.length_drop]; omega), List.map_append]
              simp [hlt])
            rw [show o + (k + 1 + m) = o + (k + 1) + m by omega] at hc2
            clear hlt
            generalize zs.getD (k + 1 + m) 0 = y at *
            obtain ⟨y0, y1⟩ := hyb
            obtain ⟨dsl, dcap, rfl⟩ := OD.out.v
            have ON := Lib.hid ((own_two wr (-x) (-y)).alloc (.cells #[.slice (some ⟨wr.heap.size, 0, none⟩) 2 2] 34))
            have CV := Lib.hid ((OD.out.row.alloc (.cells #[.int .i64 (-x), .int .i64 (-y)] 2)).alloc (.cells #[.slice (some ⟨wr.heap.size, 0, none⟩) 2 2] 34))
            have OL := Lib.hid (show ∀ j, (Value.slice dsl ds.length dcap).ownBlock = some j → w.heap.size ≤ j from fun j hj => (OD.out.row.lt j hj).1)
            have hws := HD.out.size
            have hdl2 : ds.length ≤ 1001000 := by omega
            go_wp2_with (first | (at_builtin; refine wpList_append_lies _ rfl (.tmp 24) (.tmp 30) 31 rfl w.heap.size 34 i4 (.slice none 0 0) 1 24 Tryz.underlying31 hi4 hd0 hd1 hd2 rfl (by decide) _ _ _ rfl CV.out ⟨wr.heap.size + 1, 0, none⟩ 1 1 [.slice (some ⟨wr.heap.size, 0, none⟩) 2 2] (by simp [Act.eval]) rfl (cell_at_new' _ _ _ _) (by intro u hu; simp at hu; subst hu; rfl) (by decide) (by unfold maxLen; omega) (by omega) (by simp; omega) (wr.heap.size + 2) (by simp) ?_))
            intro g9 cap9 w9 own9 grow9 hg9 hlt9
            have BA := Lib.hid (bA (bA0 wr (.cells #[.int .i64 (-x), .int .i64 (-y)] 2)) (.cells #[.slice (some ⟨wr.heap.size, 0, none⟩) 2 2] 34))
            have N9 : Hid (OwC w9 w.heap.size (.slice (some ⟨g9, 0, none⟩) (ds.length + 1) cap9) (ds ++ [(.slice (some ⟨wr.heap.size, 0, none⟩) 2 2, [-x, -y])])) :=
              OD.out.new BA.out (own_mono ON.out hws) (fun j hj => (ON.out.lt j hj).1) grow9 own9
            have B9 := Lib.hid ((bA (bA HD.out (.cells #[.int .i64 (-x), .int .i64 (-y)] 2)) (.cells #[.slice (some ⟨wr.heap.size, 0, none⟩) 2 2] 34)).grown grow9 (by simp; omega) (fun j hj => OL.out j hj))
            have BN9 : Hid (bareC (ds ++ [(.slice (some ⟨wr.heap.size, 0, none⟩) 2 2, [-x, -y])]) = bareC cs ++ ((zs.drop (k + 1)).take (m + 1)).map (fun y => [-x, -y])) := by rw [TS.out, bareC_add, BD.out, List.append_assoc]; rfl
            have LN : (ds ++ [((Value.slice (some ⟨wr.heap.size, 0, none⟩) 2 2, [-x, -y]) : LCl)]).length ≤ k * 1000 + (m + 1) := by rw [List.length_append]; simp; omega
            clear own9 grow9 hg9 hlt9 CV OL BA ON OD HD BD TS
            generalize ds ++ [((Value.slice (some ⟨wr.heap.size, 0, none⟩) 2 2, [-x, -y]) : LCl)] = ds9 at *
            go_wp2
            go_roundw
            case rel => exact ⟨m + 1, ds9, by go_num, by omega, N9, LN, BN9, B9⟩
            case measure => simp [intOf]; omega
          · have g2' : ¬ (m : Int) < (r : Int) := by omega
            have P := Lib.hid (show twoF zs = bareC ds ++ twoF (zs.drop (k + 1)) by
              rw [BN.out, BD.out, List.take_of_length_le (by rw [List.length_drop, HN.out]; omega)])
            have LN : ds.length ≤ (k + 1) * 1000 := by omega
            clear BD BN OC
            go_wp2
            go_roundw
            case rel => exact ⟨k + 1, ds, by go_num, by omega, OD, LN, P, HD⟩
            case measure => simp [intOf]; omega
    · have g1' : ¬ (k : Int) < (n : Int) := by omega
      have P := Lib.hid (show bareC cs = twoF zs by rw [BC.out, List.drop_of_length_le (by rw [HN.out]; omega)]; simp [twoF])
      clear BC
      go_wp2
      go_ret
      exact ⟨_, rfl, cs, OC.out, P.out, HB.out⟩
end Go.Proofs.YtnihhbfgbilimaaGreatDoor
