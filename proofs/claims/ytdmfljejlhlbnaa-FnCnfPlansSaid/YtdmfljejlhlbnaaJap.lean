/-
  CLAUSES THAT ARE OWNED: a row of slices, each with a row of its own; grown by one, put behind others.
  THE VARIABLES OF EACH STATION: impl.varsOf.
  NO TWO OF A STATION: impl.notTwo.
  ROWS PUT TOGETHER: slices.Grow of none, slices.Concat, at numbers.
  WHERE A NUMBER STANDS in rising ones: slices.BinarySearch.
  WHO MAY NOT STAND BESIDE WHOM: impl.notBeside.
-/
import Derived.Test.YtdmfljejlhlbnaaJao
import Derived.Test.YtdmfljejlhlbnaaJak
namespace Go.Proofs.Ytdmfljejlhlbnaa
open Go.RowKit
set_option linter.unusedVariables false

def hdC (cs : List LCl) : List Value := cs.map fun r => r.1
theorem hdC_add (a b : List LCl) : hdC (a ++ b) = hdC a ++ hdC b := by simp [hdC]
/-- Two rows of their own. -/
def Apart (r s : LCl) : Prop := r.1.ownBlock = none ∨ r.1.ownBlock ≠ s.1.ownBlock
structure OwC (w : World) (B : Nat) (v : Value) (cs : List LCl) : Prop where
  row : w.ownsRow B 40 1 v cs.length (hdC cs)
  each : ∀ r ∈ cs, w.ownsRow B 2 1 r.1 r.2.length (valsZ r.2)
  diff : cs.Pairwise Apart
theorem OwC.nil (w : World) (B : Nat) : OwC w B (.slice none 0 0) [] := ⟨⟨rfl, .inl ⟨rfl, rfl⟩⟩, (fun r h => by cases h), List.Pairwise.nil⟩
theorem OwC.below {w w' : World} {B : Nat} {v : Value} {cs : List LCl} (h : OwC w B v cs) (hb : Below w.heap.size w w') : OwC w' B v cs :=
  ⟨own_below h.row hb, fun r hr => own_below (h.each r hr) hb, h.diff⟩
theorem OwC.mono {w : World} {B B' : Nat} {v : Value} {cs : List LCl} (h : OwC w B v cs) (hB : B' ≤ B) : OwC w B' v cs :=
  ⟨own_mono h.row hB, fun r hr => own_mono (h.each r hr) hB, h.diff⟩
theorem own_len {w : World} {B : Nat} {e : TypeId} {m : Nat} {v : Value} {n : Nat} {xs : List Value} (h : w.ownsRow B e m v n xs) : n ≤ maxLen := by
  rcases h.2 with ⟨_, h0⟩ | ⟨g, cap, cur, _, _, _, h1, h2, _⟩
  · rw [h0]; exact Nat.zero_le _
  · exact Nat.le_trans h1 h2
theorem OwC.cls {w : World} {B : Nat} {v : Value} {cs : List LCl} (h : OwC w B v cs) : ∃ sl cap, v = .slice sl cs.length cap ∧ Cls w sl cs := by
  have each : ∀ r ∈ cs, ClIn w r := fun r hr => by
    obtain ⟨sl, cap, e, i⟩ := own_ints (h.each r hr)
    exact ⟨sl, cap, e, i, own_len (h.each r hr)⟩
  have hr := h.row
  rcases hr.2 with ⟨hv, h0⟩ | ⟨g, cap, cur, hv, hb, hg, _⟩
  · exact ⟨none, 0, by rw [hv, h0], .inl (List.eq_nil_of_length_eq_zero h0), each⟩
  · refine ⟨_, cap, hv, .inr ⟨g, 0, rfl, (Array.getElem?_eq_some_iff.1 hg).1, fun i hi => ?_⟩, each⟩
    subst hv
    rw [Nat.zero_add, hr.cellAt i (by omega)]
    simp [hdC, hi]
theorem OwC.v {w : World} {B : Nat} {v : Value} {cs : List LCl} (h : OwC w B v cs) : ∃ sl cap, v = .slice sl cs.length cap := own_v h.row
/-- The rows stay where only the row of slices grows. -/
theorem OwC.add {w wa w9 : World} {B : Nat} {v v9 : Value} {cs : List LCl} {r : LCl} (h : OwC w B v cs) (hb : Below w.heap.size w wa) (hr : wa.ownsRow B 2 1 r.1 r.2.length (valsZ r.2)) (hf : ∀ j, r.1.ownBlock = some j → ∀ s ∈ cs, s.1.ownBlock ≠ some j) (hg : wa.grownBy w9 v.ownBlock) (own9 : w9.ownsRow B 40 1 v9 (cs.length + 1) (hdC cs ++ [r.1])) : OwC w9 B v9 (cs ++ [r]) := by
  have ha := h.below hb
  refine ⟨by rw [List.length_append, hdC_add]; exact own9, fun s hs => ?_, ?_⟩
  · rcases List.mem_append.1 hs with hs | hs
    · exact (ha.each s hs).kept hg (own_diff (ha.each s hs) ha.row (by decide))
    · rw [List.mem_singleton.1 hs]
      exact hr.kept hg (own_diff hr ha.row (by decide))
  · refine List.pairwise_append.2 ⟨h.diff, List.pairwise_singleton _ _, fun s hs t ht => ?_⟩
    rw [List.mem_singleton.1 ht]
    cases e : r.1.ownBlock with
    | none => cases e2 : s.1.ownBlock with
      | none => exact .inl e2
      | some j => exact .inr (by rw [e, e2]; simp)
    | some j => exact .inr (by rw [e]; exact hf j e s hs)
/-- One more, its row new. -/
theorem OwC.new {w wa w9 : World} {B : Nat} {v v9 : Value} {cs : List LCl} {r : LCl} (h : OwC w B v cs) (hb : Below w.heap.size w wa) (hr : wa.ownsRow B 2 1 r.1 r.2.length (valsZ r.2)) (hf : ∀ j, r.1.ownBlock = some j → w.heap.size ≤ j) (hg : wa.grownBy w9 v.ownBlock) (own9 : w9.ownsRow B 40 1 v9 (cs.length + 1) (hdC cs ++ [r.1])) : OwC w9 B v9 (cs ++ [r]) :=
  h.add hb hr (fun j hj s hs e => by have := hf j hj; have := ((h.each s hs).lt j e).2; omega) hg own9
/-- Others put behind them; these were made later. -/
theorem OwC.join {w wa w9 : World} {B : Nat} {v v2 v9 : Value} {cs ds : List LCl} (h : OwC w B v cs) (hb : Below w.heap.size w wa) (h2 : OwC wa w.heap.size v2 ds) (hB : B ≤ w.heap.size) (hg : wa.grownBy w9 v.ownBlock) (own9 : w9.ownsRow B 40 1 v9 (cs ++ ds).length (hdC cs ++ hdC ds)) : OwC w9 B v9 (cs ++ ds) := by
  have ha := h.below hb
  refine ⟨by rw [hdC_add]; exact own9, fun s hs => ?_, ?_⟩
  · rcases List.mem_append.1 hs with hs | hs
    · exact (ha.each s hs).kept hg (own_diff (ha.each s hs) ha.row (by decide))
    · exact own_mono ((h2.each s hs).kept hg (own_diff (h2.each s hs) ha.row (by decide))) hB
  · refine List.pairwise_append.2 ⟨h.diff, h2.diff, fun s hs t ht => ?_⟩
    cases e : s.1.ownBlock with
    | none => exact .inl e
    | some j =>
      refine .inr fun e2 => ?_
      rw [e] at e2
      have := ((h.each s hs).lt j e).2
      have := ((h2.each t ht).lt j e2.symm).1
      omega
theorem cell_at_new (w : World) (a : Value) (t : TypeId) : ∀ (j : Nat) (u : Value), [a][j]? = some u → (w.alloc (.cells #[a] t)).cell? ((⟨w.heap.size, 0, none⟩ : Addr).add j) = some u := by
  intro j u h
  cases j with
  | zero => simp at h; subst h; rw [at_add]; unfold World.cell?; rw [show (w.alloc (.cells #[a] t)).heap[w.heap.size]? = some (.cells #[a] t) from new_at _ _]; rfl
  | succ j => simp at h
/-- A row of two that is written out. -/
theorem own_two (w : World) (a b : Int) : (w.alloc (.cells #[.int .i64 a, .int .i64 b] 2)).ownsRow w.heap.size 2 1 (.slice (some ⟨w.heap.size, 0, none⟩) 2 2) ([a, b] : List Int).length (valsZ [a, b]) :=
  ⟨rfl, .inr ⟨w.heap.size, 2, _, rfl, Nat.le_refl _, new_at _ _, Nat.le_refl _, by unfold maxLen; omega, rfl, rfl⟩⟩
/-- The clauses as lists. -/
theorem bareC_add (a b : List LCl) : bareC (a ++ b) = bareC a ++ bareC b := by simp [bareC]
end Go.Proofs.Ytdmfljejlhlbnaa
namespace Go.Proofs.Ytdmfljejlhlbnaa
open Go.RowKit
set_option linter.unusedVariables false

/-- Numbers behind `last`. -/
def numF (last : Int) (n : Nat) : List Int := (List.range n).map fun i : Nat => last + (i : Int) + 1
theorem numF_len (last : Int) (n : Nat) : (numF last n).length = n := by simp [numF]
theorem numF_step (last : Int) (n : Nat) : numF last (n + 1) = numF last n ++ [last + (n : Int) + 1] := by simp [numF, List.range_succ]
theorem nbF_snd (l : List LPl) (last : Int) : (nbF last l).map (fun e => e.2) = numF last l.length := by
  apply List.ext_getElem
  · simp [nbF_len, numF]
  · intro k h1 h2
    have hk : k < l.length := by simpa [nbF_len] using h1
    simp only [List.getElem_map, nbF_at l last k hk]
    simp [numF]
/-- Row by row. -/
def numR (rows : List LRow) : List (List Int) := (nbsF 0 (rows.map fun r => r.2)).map fun b => b.map fun e => e.2
theorem flat_len (rows : List LRow) : (rows.map fun r => r.2).flatten = flatR rows := by unfold flatR; rw [List.flatMap_def]
theorem numR_step (rows : List LRow) (k : Nat) (h : k < rows.length) : numR (rows.take (k + 1)) = numR (rows.take k) ++ [numF ((flatR (rows.take k)).length : Nat) rows[k].2.length] := by
  unfold numR
  rw [List.take_succ_eq_append_getElem h, List.map_append, nbsF_append, List.map_append, flat_len]
  simp only [List.map_cons, List.map_nil, nbsF, nbF_snd, Int.zero_add]
theorem valsZ_add (a b : List Int) : valsZ (a ++ b) = valsZ a ++ valsZ b := by simp [valsZ]

set_option maxRecDepth 100000 in
set_option maxHeartbeats 4000000 in
/-- impl.varsOf. -/
theorem vo_any (sl : Option Addr) (cap : Nat) (rows : List LRow) (w : World) (hn : rows.length ≤ 400) (hT : (flatR rows).length ≤ 1048576) (hz : Rws w sl rows) :
    Calls Try.prog 84 #[.slice sl rows.length cap] w fun e w' => ∃ v cs, e = .returned v ∧ OwC w' w.heap.size v cs ∧ bareC cs = numR rows ∧ Below w.heap.size w w' := by
  obtain ⟨i2, hi2, hb0, hb1, hb2⟩ := info_parts info2'
  obtain ⟨i4, hi4, hd0, hd1, hd2⟩ := info_parts info40
  have HZ := Lib.hid hz
  have FL := Lib.hid (fun k => flatR_le rows k)
  clear hz
  generalize hN : rows.length = n at *
  have HN := Lib.hid hN
  clear hN
  go_enter Try.func84, Try.ntmps84
  go_wp2
  go_loopw [3, 4, 10] (fun v l i wr => ∃ (k q : Nat) (cs : List LCl), i = .int .i64 k ∧ k ≤ n ∧ l = .int .i64 q ∧ q ≤ 1048576 ∧ Hid (q = (flatR (rows.take k)).length) ∧ Hid (OwC wr w.heap.size v cs) ∧ cs.length ≤ k ∧ Hid (bareC cs = numR (rows.take k)) ∧ Hid (Below w.heap.size w wr)) (fun _ _ i _ => n - (intOf i).toNat)
  case atStart => exact ⟨0, 0, [], rfl, Nat.zero_le _, rfl, Nat.zero_le _, rfl, OwC.nil _ _, Nat.zero_le _, rfl, Below.refl _ _⟩
  case round =>
    obtain ⟨k, q, cs, rfl, hk, rfl, hq, HQ, OC, hcl, BC, HB⟩ := hrel
    have hk0 : (0 : Int) ≤ (k : Int) := by omega
    by_cases g1 : k < n
    · have g1' : (k : Int) < (n : Int) := by omega
      have hlt : k < rows.length := by rw [HN.out]; exact g1
      have RW := HZ.out.below HB.out
      obtain ⟨c, rfl, cl, hcs⟩ : ∃ c, sl = some ⟨c, 0, none⟩ ∧ c < wr.heap.size ∧ ∀ i (h : i < rows.length), wr.cell? ⟨c, i, none⟩ = some rows[i].1 := by
        rcases RW.row with e | h
        · rw [e] at hlt; simp at hlt
        · exact h
      have hc := hcs k hlt
      obtain ⟨s1, k1, v1, -⟩ := RW.each rows[k] (List.getElem_mem hlt)
      rw [v1] at hc
      have QN := Lib.hid (show q + rows[k].2.length = (flatR (rows.take (k + 1))).length by rw [flatR_step rows k hlt, List.length_append, HQ.out])
      have hq2 : q + rows[k].2.length ≤ 1048576 := by rw [QN.out]; have := FL.out (k + 1); omega
      have BS := Lib.hid (show numR (rows.take (k + 1)) = bareC cs ++ [numF (q : Nat) rows[k].2.length] by rw [numR_step rows k hlt, BC.out, HQ.out])
      clear hcs v1 RW BC HQ
      generalize rows[k].2.length = r at *
      clear hlt
      obtain ⟨vsl, vcap, rfl⟩ := OC.out.v
      obtain ⟨w1, hw1⟩ : ∃ w1, w1 = wr := ⟨_, rfl⟩
      rw [← hw1] at OC HB cl hc ⊢
      clear hw1
      go_wp2
      go_loopw [4, 7, 16] (fun l v i wq => ∃ m : Nat, i = .int .i64 m ∧ m ≤ r ∧ l = .int .i64 ((q + m : Nat) : Int) ∧ Hid (wq.ownsRow w1.heap.size 2 1 v m (valsZ (numF (q : Nat) m))) ∧ Hid (Below w1.heap.size w1 wq)) (fun _ _ i _ => r - (intOf i).toNat)
      case atStart => exact ⟨0, rfl, Nat.zero_le _, rfl, ⟨rfl, .inl ⟨rfl, rfl⟩⟩, Below.refl _ _⟩
      case round =>
        obtain ⟨m, rfl, hm, rfl, OR, HB2⟩ := hrel
        have hm0 : (0 : Int) ≤ (m : Int) := by omega
        by_cases g2 : m < r
        · have g2' : (m : Int) < (r : Int) := by omega
          have hqm : ((q + m : Nat) : Int) ≤ 1048576 := by omega
          have hqm0 : (0 : Int) ≤ ((q + m : Nat) : Int) := by omega
          have FS := Lib.hid (show valsZ (numF (q : Nat) m) ++ [.int .i64 (((q + m : Nat) : Int) + 1)] = valsZ (numF (q : Nat) (m + 1)) by rw [numF_step, valsZ_add]; simp [valsZ])
          have EQ := Lib.hid (show ((q + m : Nat) : Int) + 1 = ((q + (m + 1) : Nat) : Int) by omega)
          generalize ((q + m : Nat) : Int) = qm at *
          obtain ⟨osl, ocap, rfl⟩ := own_v OR.out
          have OL := Lib.hid (show ∀ j, (Value.slice osl m ocap).ownBlock = some j → w1.heap.size ≤ j from fun j hj => (OR.out.lt j hj).1)
          have hks := HB2.out.size
          generalize valsZ (numF (q : Nat) m) = xs at *
          go_wp2_with (first | (at_builtin; refine wpList_append_lies _ rfl (.tmp 20) (.tmp 22) 40 rfl w1.heap.size 2 i2 (.int .i64 0) 1 8 Try.underlying40 hi2 hb0 hb1 hb2 rfl (by decide) _ _ _ rfl (OR.out.alloc _) ⟨wr.heap.size, 0, none⟩ 1 1 [.int .i64 (qm + 1)] rfl rfl (cell_one_new _ _ _) (by intro u hu; simp at hu; subst hu; rfl) (by decide) (by unfold maxLen; omega) (by omega) (by simp; omega) (wr.heap.size + 1) (by simp) ?_))
          intro g9 cap9 w9 own9 grow9 hg9 hlt9
          rw [FS.out] at own9
          have O9 := Lib.hid own9
          have B9 := Lib.hid ((bA HB2.out (.cells #[.int .i64 (qm + 1)] 2)).grown grow9 (by simp; omega) (fun j hj => OL.out j hj))
          clear own9 grow9 hg9 hlt9 OR HB2 OL FS
          go_wp2
          go_roundw
          case rel => exact ⟨m + 1, by go_num, by omega, by rw [EQ.out], O9, B9⟩
          case measure => simp [intOf]; omega
        · have g2' : ¬ (m : Int) < (r : Int) := by omega
          have em : m = r := by omega
          subst em
          have NL := Lib.hid (numF_len (q : Nat) m)
          obtain ⟨osl, ocap, rfl⟩ := own_v OR.out
          have O1 : Hid (wr.ownsRow w1.heap.size 2 1 (.slice osl m ocap) (numF (q : Nat) m).length (valsZ (numF (q : Nat) m))) := by rw [NL.out]; exact OR.out
          have hks := HB2.out.size
          have hks0 := HB.out.size
          have CV := Lib.hid ((OC.out.below HB2.out).row.alloc (.cells #[.slice osl m ocap] 40))
          have OL := Lib.hid (show ∀ j, (Value.slice vsl cs.length vcap).ownBlock = some j → w.heap.size ≤ j from fun j hj => (OC.out.row.lt j hj).1)
          have hcl2 : cs.length ≤ 400 := by omega
          clear OR
          go_wp2_with (first | (at_builtin; refine wpList_append_lies _ rfl (.tmp 25) (.tmp 27) 43 rfl w.heap.size 40 i4 (.slice none 0 0) 1 24 Try.underlying43 hi4 hd0 hd1 hd2 rfl (by decide) _ _ _ rfl CV.out ⟨wr.heap.size, 0, none⟩ 1 1 [.slice osl m ocap] rfl rfl (cell_at_new _ _ _) (by intro u hu; simp at hu; subst hu; rfl) (by decide) (by unfold maxLen; omega) (by omega) (by simp; omega) (wr.heap.size + 1) (by simp) ?_))
          intro g9 cap9 w9 own9 grow9 hg9 hlt9
          have BA := Lib.hid (bA HB2.out (.cells #[.slice osl m ocap] 40))
          have N9 : Hid (OwC w9 w.heap.size (.slice (some ⟨g9, 0, none⟩) (cs.length + 1) cap9) (cs ++ [(.slice osl m ocap, numF (q : Nat) m)])) :=
            OC.out.new BA.out (own_mono (O1.out.alloc _) hks0) (fun j hj => (O1.out.lt j hj).1) grow9 own9
          have B9 := Lib.hid ((bA (bT HB.out HB2.out) (.cells #[.slice osl m ocap] 40)).grown grow9 (by simp; omega) (fun j hj => OL.out j hj))
          have BN : Hid (bareC (cs ++ [(.slice osl m ocap, numF (q : Nat) m)]) = numR (rows.take (k + 1))) := by rw [BS.out, bareC_add]; rfl
          have LN : (cs ++ [((Value.slice osl m ocap, numF (q : Nat) m) : LCl)]).length ≤ k + 1 := by rw [List.length_append]; simp; omega
          clear own9 grow9 hg9 hlt9 CV OL BA O1 OC HB2 NL
          generalize cs ++ [((Value.slice osl m ocap, numF (q : Nat) m) : LCl)] = cs9 at *
          go_wp2
          go_roundw
          case rel => exact ⟨k + 1, q + m, cs9, by go_num, by omega, rfl, hq2, QN, N9, LN, BN, B9⟩
          case measure => simp [intOf]; omega
    · have g1' : ¬ (k : Int) < (n : Int) := by omega
      have P := Lib.hid (show bareC cs = numR rows by rw [BC.out, List.take_of_length_le (by rw [HN.out]; omega)])
      clear BC
      go_wp2
      go_ret
      exact ⟨_, rfl, cs, OC.out, P.out, HB.out⟩
end Go.Proofs.Ytdmfljejlhlbnaa
namespace Go.Proofs.Ytdmfljejlhlbnaa
open Go.RowKit
set_option linter.unusedVariables false

def VarB (zs : List Int) : Prop := ∀ z ∈ zs, 0 ≤ z ∧ z ≤ 1048576
theorem cell_at_new' (w : World) (o : Obj) (a : Value) (t : TypeId) : ∀ (j : Nat) (u : Value), [a][j]? = some u → ((w.alloc o).alloc (.cells #[a] t)).cell? ((⟨w.heap.size + 1, 0, none⟩ : Addr).add j) = some u := by
  have := cell_at_new (w.alloc o) a t
  rwa [show (w.alloc o).heap.size = w.heap.size + 1 by simp] at this

set_option maxRecDepth 100000 in
set_option maxHeartbeats 4000000 in
/-- impl.notTwo. -/
theorem nt_any (sl : Option Addr) (cap : Nat) (zs : List Int) (w : World) (hn : zs.length ≤ 1000) (hcap : zs.length ≤ cap) (hv : VarB zs) (hz : Ints w sl zs) :
    Calls Try.prog 85 #[.slice sl zs.length cap] w fun e w' => ∃ v cs, e = .returned v ∧ OwC w' w.heap.size v cs ∧ bareC cs = twoF zs ∧ Below w.heap.size w w' := by
  obtain ⟨i4, hi4, hd0, hd1, hd2⟩ := info_parts info40
  have HZ := Lib.hid hz
  have HV := Lib.hid hv
  clear hz hv
  generalize hN : zs.length = n at *
  have HN := Lib.hid hN
  clear hN
  go_enter Try.func85, Try.ntmps85
  go_wp2
  go_loopw [3, 10] (fun v i wr => ∃ (k : Nat) (cs : List LCl), i = .int .i64 k ∧ k ≤ n ∧ Hid (OwC wr w.heap.size v cs) ∧ cs.length ≤ k * 1000 ∧ Hid (twoF zs = bareC cs ++ twoF (zs.drop k)) ∧ Hid (Below w.heap.size w wr)) (fun _ i _ => n - (intOf i).toNat)
  case atStart => exact ⟨0, [], rfl, Nat.zero_le _, OwC.nil _ _, Nat.zero_le _, rfl, Below.refl _ _⟩
  case round =>
    obtain ⟨k, cs, rfl, hk, OC, hcl, BC, HB⟩ := hrel
    have hk0 : (0 : Int) ≤ (k : Int) := by omega
    by_cases g1 : k < n
    · have g1' : (k : Int) < (n : Int) := by omega
      have hlt : k < zs.length := by rw [HN.out]; exact g1
      obtain ⟨c, o, rfl, ZI⟩ : ∃ c o, sl = some ⟨c, o, none⟩ ∧ IntsAt w c o zs := by
        rcases HZ.out with e | h
        · rw [e] at hlt; simp at hlt
        · exact h
      have hc := (HB.out.cell (p := ⟨c, o + k, none⟩) ZI.1).trans (ZI.2 k hlt)
      have hxb := HV.out (zs.getD k 0) (by rw [List.getD_eq_getElem?_getD, List.getElem?_eq_getElem hlt]; exact List.getElem_mem hlt)
      have DS := Lib.hid (show twoF (zs.drop k) = (zs.drop (k + 1)).map (fun y => [-(zs.getD k 0), -y]) ++ twoF (zs.drop (k + 1)) by
        rw [← List.getElem_cons_drop (h := hlt), twoF]; simp [hlt])
      have ZA := Lib.hid ZI
      clear ZI hlt
      generalize zs.getD k 0 = x at *
      obtain ⟨x0, x1⟩ := hxb
      obtain ⟨vsl, vcap, rfl⟩ := OC.out.v
      obtain ⟨w1, hw1⟩ : ∃ w1, w1 = wr := ⟨_, rfl⟩
      rw [← hw1] at OC HB hc ⊢
      clear hw1
      by_cases hce : cap = k + 1
      · have en : n = k + 1 := by omega
        subst hce
        have BN := Lib.hid (show twoF zs = bareC cs ++ twoF (zs.drop (k + 1)) by rw [BC.out, DS.out, List.drop_of_length_le (by rw [HN.out]; omega)]; rfl)
        clear BC DS
        go_wp2
        go_loopw [3, 20] (fun v i wq => v = .slice vsl cs.length vcap ∧ i = .int .i64 0 ∧ wq = w1) (fun _ _ _ => 0)
        case atStart => exact ⟨rfl, rfl, rfl⟩
        case round =>
          obtain ⟨rfl, rfl, rfl⟩ := hrel
          have g2' : ¬ (0 : Int) < ((n - (k + 1) : Nat) : Int) := by omega
          go_wp2
          go_roundw
          case rel => exact ⟨k + 1, cs, by go_num, by omega, OC, by omega, BN, HB⟩
          case measure => simp [intOf]; omega
      · have hce' : ¬ cap = k + 1 := hce
        have BN := Lib.hid (show twoF zs = (bareC cs ++ (zs.drop (k + 1)).map (fun y => [-x, -y])) ++ twoF (zs.drop (k + 1)) by rw [BC.out, DS.out, List.append_assoc])
        clear BC DS
        have hr : n - (k + 1) + (k + 1) = n := by omega
        go_wp2
        generalize n - (k + 1) = r at *
        go_loopw [3, 20] (fun v i wq => ∃ (m : Nat) (ds : List LCl), i = .int .i64 m ∧ m ≤ r ∧ Hid (OwC wq w.heap.size v ds) ∧ ds.length ≤ k * 1000 + m ∧ Hid (bareC ds = bareC cs ++ ((zs.drop (k + 1)).take m).map (fun y => [-x, -y])) ∧ Hid (Below w.heap.size w wq)) (fun _ i _ => r - (intOf i).toNat)
        case atStart => exact ⟨0, cs, rfl, Nat.zero_le _, OC, by omega, (by show bareC cs = bareC cs ++ _; simp), HB⟩
        case round =>
          obtain ⟨m, ds, rfl, hm, OD, hdl, BD, HD⟩ := hrel
          have hm0 : (0 : Int) ≤ (m : Int) := by omega
          by_cases g2 : m < r
          · have g2' : (m : Int) < (r : Int) := by omega
            have hlt : k + 1 + m < zs.length := by rw [HN.out]; omega
            have hc2 := (HD.out.cell (p := ⟨c, o + (k + 1 + m), none⟩) ZA.out.1).trans (ZA.out.2 (k + 1 + m) hlt)
            have hyb := HV.out (zs.getD (k + 1 + m) 0) (by rw [List.getD_eq_getElem?_getD, List.getElem?_eq_getElem hlt]; exact List.getElem_mem hlt)
            have TS := Lib.hid (show ((zs.drop (k + 1)).take (m + 1)).map (fun y => [-x, -y]) = ((zs.drop (k + 1)).take m).map (fun y => [-x, -y]) ++ [[-x, -(zs.getD (k + 1 + m) 0)]] by
              rw [List.take_succ_eq_append_getElem (by rw [List.length_drop]; omega), List.map_append]
              simp [hlt])
            rw [show o + (k + 1 + m) = o + (k + 1) + m by omega] at hc2
            clear hlt
            generalize zs.getD (k + 1 + m) 0 = y at *
            obtain ⟨y0, y1⟩ := hyb
            obtain ⟨dsl, dcap, rfl⟩ := OD.out.v
            have ON := Lib.hid ((own_two wr (-x) (-y)).alloc (.cells #[.slice (some ⟨wr.heap.size, 0, none⟩) 2 2] 40))
            have CV := Lib.hid ((OD.out.row.alloc (.cells #[.int .i64 (-x), .int .i64 (-y)] 2)).alloc (.cells #[.slice (some ⟨wr.heap.size, 0, none⟩) 2 2] 40))
            have OL := Lib.hid (show ∀ j, (Value.slice dsl ds.length dcap).ownBlock = some j → w.heap.size ≤ j from fun j hj => (OD.out.row.lt j hj).1)
            have hws := HD.out.size
            have hdl2 : ds.length ≤ 1001000 := by omega
            go_wp2_with (first | (at_builtin; refine wpList_append_lies _ rfl (.tmp 24) (.tmp 30) 43 rfl w.heap.size 40 i4 (.slice none 0 0) 1 24 Try.underlying43 hi4 hd0 hd1 hd2 rfl (by decide) _ _ _ rfl CV.out ⟨wr.heap.size + 1, 0, none⟩ 1 1 [.slice (some ⟨wr.heap.size, 0, none⟩) 2 2] (by simp [Act.eval]) rfl (cell_at_new' _ _ _ _) (by intro u hu; simp at hu; subst hu; rfl) (by decide) (by unfold maxLen; omega) (by omega) (by simp; omega) (wr.heap.size + 2) (by simp) ?_))
            intro g9 cap9 w9 own9 grow9 hg9 hlt9
            have BA := Lib.hid (bA (bA0 wr (.cells #[.int .i64 (-x), .int .i64 (-y)] 2)) (.cells #[.slice (some ⟨wr.heap.size, 0, none⟩) 2 2] 40))
            have N9 : Hid (OwC w9 w.heap.size (.slice (some ⟨g9, 0, none⟩) (ds.length + 1) cap9) (ds ++ [(.slice (some ⟨wr.heap.size, 0, none⟩) 2 2, [-x, -y])])) :=
              OD.out.new BA.out (own_mono ON.out hws) (fun j hj => (ON.out.lt j hj).1) grow9 own9
            have B9 := Lib.hid ((bA (bA HD.out (.cells #[.int .i64 (-x), .int .i64 (-y)] 2)) (.cells #[.slice (some ⟨wr.heap.size, 0, none⟩) 2 2] 40)).grown grow9 (by simp; omega) (fun j hj => OL.out j hj))
            have BN9 : Hid (bareC (ds ++ [(.slice (some ⟨wr.heap.size, 0, none⟩) 2 2, [-x, -y])]) = bareC cs ++ ((zs.drop (k + 1)).take (m + 1)).map (fun y => [-x, -y])) := by rw [TS.out, bareC_add, BD.out, List.append_assoc]; rfl
            have LN : (ds ++ [((Value.slice (some ⟨wr.heap.size, 0, none⟩) 2 2, [-x, -y]) : LCl)]).length ≤ k * 1000 + (m + 1) := by rw [List.length_append]; simp; omega
            clear own9 grow9 hg9 hlt9 CV OL BA ON OD HD BD TS
            generalize ds ++ [((Value.slice (some ⟨wr.heap.size, 0, none⟩) 2 2, [-x, -y]) : LCl)] = ds9 at *
            go_wp2
            go_roundw
            case rel => exact ⟨m + 1, ds9, by go_num, by omega, N9, LN, BN9, B9⟩
            case measure => simp [intOf]; omega
          · have g2' : ¬ (m : Int) < (r : Int) := by omega
            have P := Lib.hid (show twoF zs = bareC ds ++ twoF (zs.drop (k + 1)) by
              rw [BN.out, BD.out, List.take_of_length_le (by rw [List.length_drop, HN.out]; omega)])
            have LN : ds.length ≤ (k + 1) * 1000 := by omega
            clear BD BN OC
            go_wp2
            go_roundw
            case rel => exact ⟨k + 1, ds, by go_num, by omega, OD, LN, P, HD⟩
            case measure => simp [intOf]; omega
    · have g1' : ¬ (k : Int) < (n : Int) := by omega
      have P := Lib.hid (show bareC cs = twoF zs by rw [BC.out, List.drop_of_length_le (by rw [HN.out]; omega)]; simp [twoF])
      clear BC
      go_wp2
      go_ret
      exact ⟨_, rfl, cs, OC.out, P.out, HB.out⟩
end Go.Proofs.Ytdmfljejlhlbnaa
namespace Go.Proofs.Ytdmfljejlhlbnaa
open Go.RowKit
set_option linter.unusedVariables false

theorem valsZ_one (zs : List Int) : ∀ u ∈ valsZ zs, u.oneCell' = true := by
  intro u hu
  unfold valsZ at hu
  obtain ⟨p, _, rfl⟩ := List.mem_map.1 hu
  rfl
theorem valsZ_len1 (zs : List Int) : (valsZ zs).length = zs.length * 1 := by simp [valsZ]
theorem int_cells {w : World} {c o : Nat} {zs : List Int} (h : IntsAt w c o zs) : ∀ (j : Nat) (u : Value), (valsZ zs)[j]? = some u → w.cell? ((⟨c, o, none⟩ : Addr).add j) = some u := by
  intro j u hu
  have hl : j < zs.length := by
    have := (List.getElem?_eq_some_iff.1 hu).1
    simpa [valsZ] using this
  rw [at_add, h.2 j hl, ← hu]
  simp [valsZ, hl]
theorem app_none40 (w : World) (ty : TypeId) (base : Option Addr) (n cap : Nat) (hle : n ≤ cap) (p : Option Addr) (c : Nat) :
    (Builtin.append_ #[40, 40] ty #[.slice base n cap, .slice p 0 c]).run Try.prog w = .ok (.slice base n cap) w := by
  obtain ⟨i, h1, h2, h3, h4⟩ := info_parts info2'
  refine run_append_nothing w 40 40 ty 2 i Try.underlying40 h1 base n cap hle _ ?_
  cases p with
  | none => exact Src.ofNil _ Try.underlying40 c
  | some a => exact Src.ofSlice _ Try.underlying40 a 0 c [] (by simp) (fun j u h => by simp at h) (fun u h => by cases h)

set_option maxRecDepth 100000 in
set_option maxHeartbeats 2000000 in
/-- slices.Grow of no slice. -/
theorem growZ_any (n : Nat) (w : World) (hn : n ≤ 1048576) :
    Calls Try.prog 133 #[.slice none 0 0, .int .i64 n] w fun e w' => ∃ v, e = .returned v ∧ w'.ownsRow w.heap.size 2 1 v 0 (valsZ []) ∧ Below w.heap.size w w' := by
  obtain ⟨i3, hi3, hd0, hd1, hd2⟩ := info_parts info2'
  by_cases h0 : n = 0
  · subst h0
    go_enter Try.func133, Try.ntmps133
    go_wp2
    go_ret
    exact ⟨_, rfl, ⟨rfl, .inl ⟨rfl, rfl⟩⟩, Below.refl _ _⟩
  · have hp : (0 : Int) < (n : Int) := by omega
    have hneg : ¬ (n : Int) < 0 := by omega
    have hrz := fun ty => Lib.run_append_nil_zeros (P := Try.prog) w 40 3 ty 2 i3 _ .i64 .i64 Try.underlying40 Try.underlying3 hi3 hd0 n (by omega) (by omega) (by omega) (by rw [hd2]; omega)
    have hG := grownCap_ge w n 0 2
    have hM := grownCap_le_maxLen w n 0 2 (by unfold maxLen; omega)
    have hM' := hM
    unfold maxLen at hM'
    generalize grownCap w n 0 2 = G at *
    have O : Hid ((w.drew.alloc (.cells (Builtin.zeroCells (Value.int .i64 0).cells n ++ Builtin.zeroCells (Value.int .i64 0).cells (G - n)) 2)).ownsRow w.heap.size 2 1 (.slice (some ⟨w.heap.size, 0, none⟩) 0 G) 0 (valsZ [])) := by
      refine ⟨rfl, .inr ⟨w.heap.size, G, _, rfl, Nat.le_refl _, new_at w.drew _, Nat.zero_le _, hM, ?_, rfl⟩⟩
      simp only [Array.size_append, size_zeroCells]
      rw [← Nat.add_mul, show (Value.int .i64 0).cells.size = 1 from rfl]
      congr 1
      omega
    have BL : Hid (Below w.heap.size w (w.drew.alloc (.cells (Builtin.zeroCells (Value.int .i64 0).cells n ++ Builtin.zeroCells (Value.int .i64 0).cells (G - n)) 2))) := bA ((Below.refl _ _).drew) _
    generalize Builtin.zeroCells (Value.int .i64 0).cells n ++ Builtin.zeroCells (Value.int .i64 0).cells (G - n) = vs at *
    go_enter Try.func133, Try.ntmps133
    go_wp2_with (at_builtin; refine Lib.wpList_append_run _ rfl _ _ _ _ rfl _ _ rfl rfl _ _ (hrz _) ?_)
    go_ret
    exact ⟨_, rfl, O.out, BL.out⟩

/-- All places of the rows, one behind the other. -/
def flatC (rows : List LCl) : List Int := rows.flatMap fun r => r.2
theorem flatC_step (rows : List LCl) (k : Nat) (h : k < rows.length) : flatC (rows.take (k + 1)) = flatC (rows.take k) ++ rows[k].2 := by
  unfold flatC
  rw [List.take_succ_eq_append_getElem h, List.flatMap_append]
  simp
theorem flatC_le (rows : List LCl) (k : Nat) : (flatC (rows.take k)).length ≤ (flatC rows).length := by
  have := congrArg (fun l => (flatC l).length) (List.take_append_drop k rows)
  simp only [flatC, List.flatMap_append, List.length_append] at this
  unfold flatC
  omega
set_option maxRecDepth 100000 in
set_option maxHeartbeats 4000000 in
/-- slices.Concat at places. -/
theorem catZ_any (sl : Option Addr) (cap : Nat) (rows : List LCl) (w : World) (hn : rows.length ≤ 1048576) (hT : (flatC rows).length ≤ 1048576) (hz : Cls w sl rows) :
    Calls Try.prog 87 #[.slice sl rows.length cap] w fun e w' => ∃ v, e = .returned v ∧ w'.ownsRow w.heap.size 2 1 v (flatC rows).length (valsZ (flatC rows)) ∧ Below w.heap.size w w' := by
  obtain ⟨i3, hi3, hd0, hd1, hd2⟩ := info_parts info2'
  have HZ := Lib.hid hz
  have EG := Lib.hid (fun (W : World) (q : Nat) (h : q ≤ 1048576) => growZ_any q W h)
  clear hz
  generalize hF : flatC rows = fl at *
  have HF := Lib.hid hF
  have FL := Lib.hid (fun k => flatC_le rows k)
  rw [hF] at FL
  clear hF
  generalize hN : rows.length = n at *
  have HN := Lib.hid hN
  clear hN
  go_enter Try.func87, Try.ntmps87
  go_wp2
  go_loopw [3, 11] (fun s i wr => ∃ (k q : Nat), i = .int .i64 k ∧ k ≤ n ∧ s = .int .i64 q ∧ q ≤ 1048576 ∧ Hid (q = (flatC (rows.take k)).length) ∧ wr = w) (fun _ i _ => n - (intOf i).toNat)
  case atStart => exact ⟨0, 0, rfl, Nat.zero_le _, rfl, Nat.zero_le _, rfl, rfl⟩
  case round =>
    obtain ⟨k, q, rfl, hk, rfl, hq, HQ, rfl⟩ := hrel
    have hk0 : (0 : Int) ≤ (k : Int) := by omega
    by_cases g1 : k < n
    · have g1' : (k : Int) < (n : Int) := by omega
      have hlt : k < rows.length := by rw [HN.out]; exact g1
      obtain ⟨c, o, rfl, cl, hcs⟩ := HZ.out.at hlt
      have hc := hcs k hlt
      obtain ⟨s1, k1, v1, -⟩ := HZ.out.each rows[k] (List.getElem_mem hlt)
      rw [v1] at hc
      have QN := Lib.hid (show q + rows[k].2.length = (flatC (rows.take (k + 1))).length by rw [flatC_step rows k hlt, List.length_append, HQ.out])
      have hq2 : q + rows[k].2.length ≤ 1048576 := by rw [QN.out]; have := FL.out (k + 1); omega
      clear hcs v1
      generalize rows[k].2.length = r at *
      clear hlt
      go_wp2
      go_roundw
      case rel => exact ⟨k + 1, q + r, by go_num, by omega, by go_num, hq2, QN, trivial⟩
      case measure => simp [intOf]; omega
    · have g1' : ¬ (k : Int) < (n : Int) := by omega
      have E := Lib.hid (EG.out wr q hq)
      clear EG HQ
      go_wp2_with fail
      refine E.out.mono ?_
      rintro e w1 ⟨v1, rfl, o1, b1⟩
      obtain ⟨C0, hC0⟩ : ∃ C0, C0 = wr.heap.size := ⟨_, rfl⟩
      have RD : Hid (∀ W, Below C0 w1 W → Cls W sl rows) := fun W hW => HZ.out.below (b1.trans (by rw [← hC0]; exact hW))
      have FB : Hid (∀ W, Below C0 w1 W → Below wr.heap.size wr W) := fun W hW => b1.trans (by rw [← hC0]; exact hW)
      have hs1 : C0 ≤ w1.heap.size := by rw [hC0]; exact b1.size
      have O1 : Hid (w1.ownsRow C0 2 1 v1 0 (valsZ [])) := by rw [hC0]; exact o1
      have OF : Hid (∀ (W : World) v xs, W.ownsRow C0 2 1 v fl.length xs → W.ownsRow wr.heap.size 2 1 v fl.length xs) := fun W v xs h => by rw [← hC0]; exact h
      clear o1 b1 E HZ hC0
      go_wp2
      go_loopw [6, 27] (fun v i wq => ∃ (k : Nat) (cu : List Int), i = .int .i64 k ∧ k ≤ n ∧ Hid (cu = flatC (rows.take k)) ∧ Hid (wq.ownsRow C0 2 1 v cu.length (valsZ cu)) ∧ Hid (Below C0 w1 wq)) (fun _ i _ => n - (intOf i).toNat)
      case atStart => exact ⟨0, [], rfl, Nat.zero_le _, rfl, O1, Below.refl _ _⟩
      case round =>
        obtain ⟨k, cu, rfl, hk, HC, OR, HB⟩ := hrel
        have hk0 : (0 : Int) ≤ (k : Int) := by omega
        by_cases g1 : k < n
        · have g1' : (k : Int) < (n : Int) := by omega
          have hlt : k < rows.length := by rw [HN.out]; exact g1
          have RW := RD.out _ HB.out
          obtain ⟨c, o, rfl, cl, hcs⟩ := RW.at hlt
          have hc := hcs k hlt
          obtain ⟨s1, k1, e1, p1, -⟩ := RW.each rows[k] (List.getElem_mem hlt)
          rw [e1] at hc
          have CS := Lib.hid (show cu ++ rows[k].2 = flatC (rows.take (k + 1)) by rw [HC.out]; exact (flatC_step rows k hlt).symm)
          have CL := Lib.hid (show (cu ++ rows[k].2).length ≤ 1048576 by rw [CS.out]; have := FL.out (k + 1); omega)
          obtain ⟨vsl, vcap, rfl⟩ := own_v OR.out
          have hlc : cu.length ≤ vcap := by
            rcases OR.out.2 with ⟨_, h0⟩ | ⟨g, cp, cur, hv, _, _, h5, _⟩
            · rw [h0]; exact Nat.zero_le _
            · cases hv; exact h5
          have hsw := HB.out.size
          clear hcs RW e1
          generalize rows[k].2 = r at *
          clear hlt
          by_cases hr : r = []
          · subst hr
            have CSE : Hid (cu = flatC (rows.take (k + 1))) := by have := CS.out; rwa [List.append_nil] at this
            have ha := app_none40 wr 27 vsl cu.length vcap hlc s1 k1
            go_wp2_with (at_builtin; refine Lib.wpList_append_run _ rfl _ _ _ _ rfl _ _ rfl rfl _ _ ha ?_)
            go_roundw
            case rel => exact ⟨k + 1, cu, by go_num, by omega, CSE, OR, HB⟩
            case measure => simp [intOf]; omega
          · obtain ⟨rc, ro, rfl, PA⟩ : ∃ c o, s1 = some ⟨c, o, none⟩ ∧ IntsAt wr c o r := by
              rcases p1 with h | h
              · exact absurd h hr
              · exact h
            have hrl : 0 < r.length := by
              cases r with
              | nil => exact absurd rfl hr
              | cons a t => simp
            have CL2 : cu.length + r.length ≤ 1048576 := by have := CL.out; rwa [List.length_append] at this
            have OL := Lib.hid (show ∀ j, (Value.slice vsl cu.length vcap).ownBlock = some j → C0 ≤ j from fun j hj => (OR.out.lt j hj).1)
            go_wp2_with (at_builtin; refine wpList_append_lies _ rfl (.tmp 31) (.tmp 32) 40 rfl C0 2 i3 (.int .i64 0) 1 8 Try.underlying40 hi3 hd0 hd1 hd2 rfl (by decide) _ _ _ rfl OR.out ⟨rc, ro, none⟩ r.length k1 (valsZ r) rfl (valsZ_len1 r) (int_cells PA) (valsZ_one r) hrl (by unfold maxLen; omega) (by omega) (by omega) wr.heap.size rfl ?_)
            intro g9 cap9 w9 own9 grow9 hg9 hlt9
            have O9 : Hid (w9.ownsRow C0 2 1 (.slice (some ⟨g9, 0, none⟩) (cu.length + r.length) cap9) (cu ++ r).length (valsZ (cu ++ r))) := by
              rw [valsZ_add, List.length_append]; exact own9
            have B9 := Lib.hid (HB.out.grown grow9 (by omega) (fun j hj => OL.out j hj))
            clear own9 grow9 hg9 hlt9 OR HB OL p1 PA
            go_wp2
            go_roundw
            case rel => exact ⟨k + 1, cu ++ r, by go_num, by omega, CS, O9, B9⟩
            case measure => simp [intOf]; omega
        · have g1' : ¬ (k : Int) < (n : Int) := by omega
          have P := Lib.hid (show cu = fl by rw [HC.out, List.take_of_length_le (by rw [HN.out]; omega), HF.out])
          have O9 := OR.out
          rw [P.out] at O9
          have OO := Lib.hid (OF.out _ _ _ O9)
          have BB := Lib.hid (FB.out _ HB.out)
          clear O9 OR HC P
          go_wp2
          go_ret
          exact ⟨_, rfl, OO.out, BB.out⟩

end Go.Proofs.Ytdmfljejlhlbnaa
namespace Go.Proofs.Ytdmfljejlhlbnaa
open Go.RowKit
set_option linter.unusedVariables false

theorem nan1_any (x : Int) (w : World) : Calls Try.prog 144 #[.int .i64 x] w fun e w' => e = .returned (.bool false) ∧ w' = w := by
  go_enter Try.func144, Try.ntmps144
  go_wp2
  go_ret
  exact ⟨by simp, rfl⟩
theorem nan2_any (x : Int) (w : World) : Calls Try.prog 123 #[.int .i64 x] w fun e w' => e = .returned (.bool false) ∧ w' = w := by
  go_enter Try.func123, Try.ntmps123
  go_wp2
  go_ret
  exact ⟨by simp, rfl⟩
set_option maxRecDepth 100000 in
set_option maxHeartbeats 1000000 in
theorem less_any (x y : Int) (w : World) : Calls Try.prog 122 #[.int .i64 x, .int .i64 y] w fun e w' => e = .returned (.bool (decide (x < y))) ∧ w' = w := by
  have E := Lib.hid (fun W => nan1_any x W)
  go_enter Try.func122, Try.ntmps122
  go_wp2_with (go_at_call 144; refine (E.out _).mono ?_; rintro e w' ⟨rfl, rfl⟩)
  go_ret
  exact ⟨rfl, rfl⟩

/-- All ahead of lo are less than x, all from hi on are not. -/
def CutAt (zs : List Int) (x : Int) (lo hi : Nat) : Prop := (∀ t, t < lo → zs.getD t 0 < x) ∧ (∀ t, hi ≤ t → t < zs.length → x ≤ zs.getD t 0)
def Rises (zs : List Int) : Prop := ∀ i j, i < j → j < zs.length → zs.getD i 0 < zs.getD j 0
theorem cut_in {zs : List Int} {x : Int} {h : Nat} (hc : CutAt zs x h h) (hr : Rises zs) (hl : h < zs.length) (hx : zs.getD h 0 = x) : x ∈ zs ∧ zs.idxOf x = h := by
  refine ⟨?_, idxOf_hit zs x h hl hx (fun i hi => by have := hc.1 i hi; omega)⟩
  rw [← hx, List.getD_eq_getElem?_getD, List.getElem?_eq_getElem hl]
  exact List.getElem_mem hl
theorem cut_out {zs : List Int} {x : Int} {h : Nat} (hc : CutAt zs x h h) (hr : Rises zs) (hx : h < zs.length → zs.getD h 0 ≠ x) : x ∉ zs := fun hm => by
  obtain ⟨i, hi, e⟩ := List.getElem_of_mem hm
  have ei : zs.getD i 0 = x := by rw [List.getD_eq_getElem?_getD, List.getElem?_eq_getElem hi]; exact e
  rcases Nat.lt_trichotomy i h with g | g | g
  · have := hc.1 i g; omega
  · subst g; exact hx hi ei
  · have h1 := hr h i g hi
    have h2 := hc.2 h (Nat.le_refl _) (by omega)
    omega

set_option maxRecDepth 100000 in
set_option maxHeartbeats 4000000 in
/-- slices.BinarySearch at int64. -/
theorem bs_any (sl : Option Addr) (cap : Nat) (zs : List Int) (x : Int) (w : World) (hn : zs.length ≤ 1048576) (hr : Rises zs) (hz : Ints w sl zs) :
    Calls Try.prog 71 #[.slice sl zs.length cap, .int .i64 x] w fun e w' => ∃ p : Nat, e = .returned (.tuple #[.int .i64 p, .bool (B (x ∈ zs))]) ∧ (x ∈ zs → p = zs.idxOf x) ∧ Below w.heap.size w w' := by
  have HZ := Lib.hid hz
  have HR := Lib.hid hr
  have EL := Lib.hid (fun y W => less_any y x W)
  have EN := Lib.hid (fun y W => nan2_any y W)
  clear hz hr
  generalize hN : zs.length = n at *
  have HN := Lib.hid hN
  clear hN
  go_enter Try.func71, Try.ntmps71
  go_wp2
  go_loopw [7, 8] (fun i j wr => ∃ (lo hi : Nat), i = .int .i64 lo ∧ j = .int .i64 hi ∧ lo ≤ hi ∧ hi ≤ n ∧ Hid (CutAt zs x lo hi) ∧ Hid (Below w.heap.size w wr)) (fun i j _ => (intOf j).toNat - (intOf i).toNat)
  case atStart => exact ⟨0, n, rfl, rfl, Nat.zero_le _, Nat.le_refl _, ⟨fun t ht => absurd ht (Nat.not_lt_zero _), fun t h1 h2 => by rw [HN.out] at h2; omega⟩, Below.refl _ _⟩
  case round =>
    obtain ⟨lo, hi, rfl, rfl, hlh, hin, CA, HB⟩ := hrel
    have hlo0 : (0 : Int) ≤ (lo : Int) := by omega
    have hhi0 : (0 : Int) ≤ (hi : Int) := by omega
    by_cases g1 : lo < hi
    · have g1' : (lo : Int) < (hi : Int) := by omega
      have hlt : (lo + hi) / 2 < zs.length := by rw [HN.out]; omega
      obtain ⟨c, o, rfl, ZI⟩ : ∃ c o, sl = some ⟨c, o, none⟩ ∧ IntsAt w c o zs := by
        rcases HZ.out with e | h
        · rw [e] at hlt; simp at hlt
        · exact h
      have hc := (HB.out.cell (p := ⟨c, o + (lo + hi) / 2, none⟩) ZI.1).trans (ZI.2 ((lo + hi) / 2) hlt)
      have C1 : Hid (zs.getD ((lo + hi) / 2) 0 < x → CutAt zs x ((lo + hi) / 2 + 1) hi) := fun h => ⟨fun t ht => by
        by_cases e : t = (lo + hi) / 2
        · rw [e]; exact h
        · have := HR.out t ((lo + hi) / 2) (by omega) hlt; omega, CA.out.2⟩
      have C2 : Hid (¬ zs.getD ((lo + hi) / 2) 0 < x → CutAt zs x lo ((lo + hi) / 2)) := fun h => ⟨CA.out.1, fun t h1 h2 => by
        by_cases e : t = (lo + hi) / 2
        · rw [e]; omega
        · have := HR.out ((lo + hi) / 2) t (by omega) h2; omega⟩
      clear ZI hlt CA
      generalize zs.getD ((lo + hi) / 2) 0 = y at *
      have E := Lib.hid (EL.out y)
      by_cases hyx : y < x
      · have CC := Lib.hid (C1.out hyx)
        clear C1 C2
        go_wp2_with (first | (go_at_call 122; refine (E.out _).mono ?_; rintro e w' ⟨rfl, rfl⟩))
        go_roundw
        case rel => exact ⟨(lo + hi) / 2 + 1, hi, by rw [show ((lo : Int) + (hi : Int)) / 2 + 1 = (((lo + hi) / 2 + 1 : Nat) : Int) by omega], rfl, by omega, hin, CC, HB⟩
        case measure => simp [intOf]; omega
      · have CC := Lib.hid (C2.out hyx)
        clear C1 C2
        go_wp2_with (first | (go_at_call 122; refine (E.out _).mono ?_; rintro e w' ⟨rfl, rfl⟩))
        go_roundw
        case rel => exact ⟨lo, (lo + hi) / 2, rfl, by rw [show ((lo : Int) + (hi : Int)) / 2 = (((lo + hi) / 2 : Nat) : Int) by omega], by omega, by omega, CC, HB⟩
        case measure => simp [intOf]; omega
    · have g1' : ¬ (lo : Int) < (hi : Int) := by omega
      obtain rfl : hi = lo := by omega
      by_cases g2 : hi < n
      · have g2' : (hi : Int) < (n : Int) := by omega
        have hlt : hi < zs.length := by rw [HN.out]; exact g2
        obtain ⟨c, o, rfl, ZI⟩ : ∃ c o, sl = some ⟨c, o, none⟩ ∧ IntsAt w c o zs := by
          rcases HZ.out with e | h
          · rw [e] at hlt; simp at hlt
          · exact h
        have hc := (HB.out.cell (p := ⟨c, o + hi, none⟩) ZI.1).trans (ZI.2 hi hlt)
        have C1 : Hid (zs.getD hi 0 = x → B (x ∈ zs) = true ∧ (x ∈ zs → hi = zs.idxOf x)) := fun h => ⟨B_yes (cut_in CA.out HR.out hlt h).1, fun _ => (cut_in CA.out HR.out hlt h).2.symm⟩
        have C2 : Hid (¬ zs.getD hi 0 = x → B (x ∈ zs) = false ∧ (x ∈ zs → hi = zs.idxOf x)) := fun h => ⟨B_no (cut_out CA.out HR.out (fun _ => h)), fun hm => absurd hm (cut_out CA.out HR.out (fun _ => h))⟩
        clear ZI hlt CA
        generalize zs.getD hi 0 = y at *
        have E := Lib.hid (EN.out y)
        by_cases hyx : y = x
        · have CC := Lib.hid (C1.out hyx)
          clear C1 C2
          go_wp2_with (first | (go_at_call 123; refine (E.out _).mono ?_; rintro e w' ⟨rfl, rfl⟩))
          go_ret2
          exact ⟨hi, (by rw [CC.out.1]; first | rfl | simp [*]), CC.out.2, HB.out⟩
        · have CC := Lib.hid (C2.out hyx)
          clear C1 C2
          go_wp2_with (first | (go_at_call 123; refine (E.out _).mono ?_; rintro e w' ⟨rfl, rfl⟩))
          go_ret2
          exact ⟨hi, (by rw [CC.out.1]; first | rfl | simp [*]), CC.out.2, HB.out⟩
      · have g2' : ¬ (hi : Int) < (n : Int) := by omega
        have hx := cut_out CA.out HR.out (fun h => absurd h (by rw [HN.out]; exact g2))
        have CC := Lib.hid (show B (x ∈ zs) = false ∧ (x ∈ zs → hi = zs.idxOf x) from ⟨B_no hx, fun hm => absurd hm hx⟩)
        clear hx CA
        go_wp2
        go_ret2
        exact ⟨hi, (by rw [CC.out.1]; first | rfl | simp [*]), CC.out.2, HB.out⟩
end Go.Proofs.Ytdmfljejlhlbnaa
namespace Go.Proofs.Ytdmfljejlhlbnaa
open Go.RowKit
set_option linter.unusedVariables false

theorem fm_step {α β : Type} (f : α → List β) (l : List α) (k : Nat) (h : k < l.length) : (l.take (k + 1)).flatMap f = (l.take k).flatMap f ++ f l[k] := by
  rw [List.take_succ_eq_append_getElem h, List.flatMap_append]; simp
def besO (ps : List LPr) (x y : LNb) : List (List Int) := if mayL ps x.1.1 x.1.2 y.1.1 y.1.2 = true then [] else [[-x.2, -y.2]]
def besR (ps : List LPr) (C : List LNb) (x : LNb) : List (List Int) := C.flatMap (besO ps x)
theorem besF_R (ps : List LPr) (A C : List LNb) : besF ps A C = A.flatMap (besR ps C) := rfl
theorem nbsF_fst (ds : List (List LPl)) : ∀ last, (nbsF last ds).map (fun b => b.map fun e => e.1) = ds := by
  induction ds with
  | nil => intro _; rfl
  | cons d r ih => intro last; simp only [nbsF, List.map_cons, nbF_fst, ih]
/-- One row: its places, its variables. -/
theorem row_of {rows : List LRow} {vs : List LCl} (hb : bareC vs = numR rows) (p : Nat) (hp : p < rows.length) : ∃ A, (nbsF 0 (rows.map fun r => r.2)).getD p [] = A ∧ rows[p].2 = A.map (fun e => e.1) ∧ ∃ hv : p < vs.length, vs[p].2 = A.map fun e => e.2 := by
  have hl : (nbsF 0 (rows.map fun r => r.2)).length = rows.length := by rw [nbsF_len, List.length_map]
  have hp2 : p < (nbsF 0 (rows.map fun r => r.2)).length := by rw [hl]; exact hp
  have hvl : vs.length = rows.length := by have := congrArg List.length hb; simpa [bareC, numR, hl] using this
  refine ⟨(nbsF 0 (rows.map fun r => r.2))[p], by simp [List.getD, hp2], ?_, by omega, ?_⟩
  · have e := nbsF_fst (rows.map fun r => r.2) 0
    have : ((nbsF 0 (rows.map fun r => r.2)).map (fun b => b.map fun e => e.1))[p]? = (rows.map fun r => r.2)[p]? := by rw [e]
    simpa [hp2, hp] using this.symm
  · have : (bareC vs)[p]? = (numR rows)[p]? := by rw [hb]
    have hv : p < vs.length := by omega
    simpa [bareC, numR, hp2, hv] using this
theorem blk_kept {w wa w9 : World} {B : Nat} {v : Value} {cs : List LCl} {h : Nat} {vs : Array Value} {t : TypeId} (oc : OwC w B v cs) (hh : w.heap[h]? = some (.cells vs t)) (ht : t ≠ 40) (hb : Below w.heap.size w wa) (hg : wa.grownBy w9 v.ownBlock) : w9.heap[h]? = some (.cells vs t) := by
  have hl : h < w.heap.size := (Array.getElem?_eq_some_iff.1 hh).1
  have ha := (hb.block h hl).trans hh
  refine (hg.block h (Nat.lt_of_lt_of_le hl hb.size) (fun e => ?_)).trans ha
  obtain ⟨c, hc⟩ := own_kind oc.row e.symm
  rw [hh] at hc
  simp at hc
  exact ht hc.2
/-- The places of a row, its variables. -/
def PlN (W : World) (s : Option Addr) (A : List LNb) : Prop := A = [] ∨ ∃ c o, s = some ⟨c, o, none⟩ ∧ c < W.heap.size ∧ ∀ i (h : i < A.length), W.cell? ⟨c, o + i * 2, none⟩ = some (.int .i64 A[i].1.1) ∧ W.cell? ⟨c, o + i * 2 + 1, none⟩ = some (.int .i64 A[i].1.2)
def VaN (W : World) (t : Option Addr) (A : List LNb) : Prop := A = [] ∨ ∃ d u, t = some ⟨d, u, none⟩ ∧ d < W.heap.size ∧ ∀ i (h : i < A.length), W.cell? ⟨d, u + i, none⟩ = some (.int .i64 A[i].2)
/-- What lies at row p: its places, its variables. -/
def RowAB (W : World) (cc : Nat) (slv : Option Addr) (p : Nat) (A : List LNb) : Prop :=
  (∃ s k, W.cell? ⟨cc, p, none⟩ = some (.slice s A.length k) ∧ cc < W.heap.size ∧ PlN W s A) ∧
  (∃ c o t k, slv = some ⟨c, o, none⟩ ∧ c < W.heap.size ∧ W.cell? ⟨c, o + p, none⟩ = some (.slice t A.length k) ∧ VaN W t A)
theorem rowAB_of {W : World} {cc : Nat} {slv : Option Addr} {rows : List LRow} {vs : List LCl} (hz : Rws W (some ⟨cc, 0, none⟩) rows) (hv : Cls W slv vs) (p : Nat) (A : List LNb) (hp : p < rows.length) (h1 : rows[p].2 = A.map (fun e => e.1)) (hpv : p < vs.length) (h2 : vs[p].2 = A.map (fun e => e.2)) : RowAB W cc slv p A := by
  constructor
  · rcases hz.row with e | ⟨c, e, cl, hc⟩
    · rw [e] at hp; simp at hp
    · cases e
      obtain ⟨s, k, es, ps⟩ := hz.each rows[p] (List.getElem_mem hp)
      refine ⟨s, k, ?_, cl, ?_⟩
      · rw [hc p hp, es, h1, List.length_map]
      · rcases ps with e | ⟨c, o, e, P⟩
        · exact Or.inl (by rw [h1] at e; simpa using e)
        · refine Or.inr ⟨c, o, e, P.lt, fun i hi => ?_⟩
          have hi2 : i < rows[p].2.length := by rw [h1, List.length_map]; exact hi
          have := P.cell i hi2
          simpa [h1] using this
  · obtain ⟨c, o, e, cl, hc⟩ := hv.at hpv
    obtain ⟨t, k, et, it, -⟩ := hv.each vs[p] (List.getElem_mem hpv)
    refine ⟨c, o, t, k, e, cl, ?_, ?_⟩
    · rw [hc p hpv, et, h2, List.length_map]
    · rcases it with e | ⟨d, u, e, P⟩
      · exact Or.inl (by rw [h2] at e; simpa using e)
      · refine Or.inr ⟨d, u, e, P.1, fun i hi => ?_⟩
        have hi2 : i < vs[p].2.length := by rw [h2, List.length_map]; exact hi
        rw [P.2 i hi2, h2]
        simp [hi]
end Go.Proofs.Ytdmfljejlhlbnaa
