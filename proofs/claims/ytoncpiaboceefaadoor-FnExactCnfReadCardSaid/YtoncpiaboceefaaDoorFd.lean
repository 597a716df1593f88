/-
  A LINE OF LITERALS, AS THE MODEL READS IT: l07Literals.
-/
import Derived.Test.YtoncpiaboceefaaDoorFc
import Derived.Test.YtoncpiaboceefaaDoorBc
namespace Go.Proofs.YtoncpiaboceefaaDoor
open Go.RowKit
set_option linter.unusedVariables false

def BigL (zs : List Int) : Prop := ∀ z ∈ zs, -1000000000000000 < z ∧ z < 1000000000000000
theorem itoa_len (n : Int) (h : -1000000000000000 < n ∧ n < 1000000000000000) : (Lib.itoa n).length ≤ 16 := by
  unfold Lib.itoa
  split
  · simp only [List.length_cons]
    have := dec_len15 n.natAbs (by omega)
    omega
  · have := dec_len15 n.toNat (by omega)
    omega
set_option maxRecDepth 100000 in
set_option maxHeartbeats 1000000 in
/-- spec.l07Line. -/
theorem lineG_any (sl : Option Addr) (cap : Nat) (zs : List Int) (w : World) (hl : zs.length ≤ 1000000) (hs : BigL zs) (hz : Ints w sl zs) :
    Calls Tryd.prog 43 #[.slice sl zs.length cap] w fun e w' => e = .returned (.string ⟨(lineB zs).toArray⟩) ∧ Below w.heap.size w w' := by
  have HZ := Lib.hid hz
  have HS := Lib.hid hs
  clear hz hs
  generalize hN : zs.length = n at *
  have HN := Lib.hid hN
  clear hN
  go_enter Tryd.func43, Tryd.ntmps43
  go_wp2
  go_loopw [3, 4] (fun t i wr => ∃ (k : Nat) (l : List UInt8), i = .int .i64 k ∧ t = .string ⟨l.toArray⟩ ∧ k ≤ n ∧ l.length ≤ 17 * k ∧ Hid (l = (zs.take k).flatMap litB) ∧ Hid (Below w.heap.size w wr)) (fun _ i _ => n - (RowKit.intOf i).toNat)
  case atStart => exact ⟨0, [], rfl, rfl, Nat.zero_le _, Nat.zero_le _, rfl, Below.refl _ _⟩
  case round =>
    obtain ⟨k, l, rfl, rfl, hk, hll, HL, HB⟩ := hrel
    have hk0 : (0 : Int) ≤ (k : Int) := by omega
    by_cases g1 : k < n
    · have g1' : (k : Int) < (n : Int) := by omega
      have hlt : k < zs.length := by rw [HN.out]; exact g1
      obtain ⟨c, o, rfl, ZI⟩ : ∃ c o, sl = some ⟨c, o, none⟩ ∧ IntsAt w c o zs := by
        rcases HZ.out with e | h
        · rw [e] at hlt; simp at hlt
        · exact h
      have hc := (HB.out.cell (p := ⟨c, o + k, none⟩) ZI.1).trans (ZI.2 k hlt)
      have hz := HS.out (zs.getD k 0) (by rw [List.getD_eq_getElem?_getD, List.getElem?_eq_getElem hlt]; exact List.getElem_mem hlt)
      have E := Lib.hid (dec_any (zs.getD k 0) ⟨by omega, by omega⟩ wr)
      have ST := Lib.hid (lits_step zs k hlt)
      have hd := itoa_len _ hz
      clear hlt ZI
      generalize Lib.itoa (zs.getD k 0) = d at *
      generalize zs.getD k 0 = z at *
      go_wp2_with fail
      refine E.out.mono ?_
      rintro e w1 ⟨rfl, b1⟩
      have B1 := Lib.hid (bT HB.out b1)
      have NL : Hid (l ++ d ++ [32] = (zs.take (k + 1)).flatMap litB) := by rw [HL.out]; exact Lib.hid ST.out.symm
      clear b1 E HL ST
      go_wp2
      go_roundw
      case rel => exact ⟨k + 1, l ++ d ++ [32], by go_num, by rw [ba_app l d, ba_app (l ++ d) [32]], by omega, by simp; omega, NL, B1⟩
      case measure => simp [RowKit.intOf]; omega
    · have g1' : ¬ (k : Int) < (n : Int) := by omega
      have NL : Hid (l ++ [48, 10] = lineB zs) := by
        rw [HL.out, List.take_of_length_le (by rw [HN.out]; omega)]; exact Lib.hid rfl
      clear HL
      go_wp2
      go_ret
      exact ⟨by rw [← NL.out, ← ba_app l [48, 10]]; rfl, HB.out⟩

/-- A row of texts of one's own. -/
theorem own_strs {w : World} {B : Nat} {v : Value} {ls : List (List UInt8)} (h : w.ownsRow B 9 1 v ls.length (strs ls)) (h1 : 1 ≤ ls.length) : ∃ g cap, v = .slice (some ⟨g, 0, none⟩) ls.length cap ∧ g < w.heap.size ∧ ∀ i x, ls[i]? = some x → w.cell? ⟨g, i, none⟩ = some (strV x) := by
  rcases h.2 with ⟨_, h0⟩ | ⟨g, cap, cur, hv, hb, hg, _⟩
  · omega
  · refine ⟨g, cap, hv, (Array.getElem?_eq_some_iff.1 hg).1, fun i x hx => ?_⟩
    have hi := (List.getElem?_eq_some_iff.1 hx).1
    subst hv
    rw [h.cellAt i (by omega)]
    simp [strs, hx]
theorem valsZ_snoc (zs : List Int) (x : Int) : valsZ (zs ++ [x]) = valsZ zs ++ [.int .i64 x] := by simp [valsZ]
theorem spl_piece (c : UInt8) (t : List UInt8) : ∀ x ∈ splitL c t, x.length ≤ t.length := by
  have key : ∀ (t : List UInt8) (s : List (List UInt8) × List UInt8) (m : Nat), (∀ x ∈ s.1, x.length ≤ m) → s.2.length ≤ m → (∀ x ∈ (t.foldl (spS c) s).1, x.length ≤ m + t.length) ∧ (t.foldl (spS c) s).2.length ≤ m + t.length := by
    intro t
    induction t with
    | nil => intro s m h1 h2; exact ⟨h1, h2⟩
    | cons b r ih =>
      intro s m h1 h2
      rw [List.foldl_cons, List.length_cons]
      have := ih (spS c s b) (m + 1) (by
        intro x hx
        unfold spS at hx
        split at hx
        · rw [List.mem_append] at hx
          rcases hx with hx | hx
          · have := h1 x hx; omega
          · simp at hx; subst hx; omega
        · have := h1 x hx; omega) (by unfold spS; split <;> simp; omega)
      refine ⟨fun x hx => ?_, ?_⟩
      · have := this.1 x hx; omega
      · have := this.2; omega
  intro x hx
  have := key t ([], []) 0 (fun x hx => by cases hx) (Nat.le_refl _)
  unfold splitL spF at hx
  rw [List.mem_append] at hx
  rcases hx with hx | hx
  · have := this.1 x hx; omega
  · simp at hx; subst hx; have := this.2; omega

/-- The words ahead of the last one. -/
def preW (l : List UInt8) : List (List UInt8) := (splitL 32 l).dropLast
/-- What l07Literals tells. -/
def litK (l : List UInt8) : Bool := (preW l).all numK && (lineB ((preW l).map numV) == l ++ [10])
def litV (l : List UInt8) : List Int := ((preW l).takeWhile numK).map numV
theorem preW_len (l : List UInt8) : (preW l).length + 1 = (splitL 32 l).length := by
  have := split_len 32 l
  unfold preW
  rw [List.length_dropLast]
  omega
theorem preW_get (l : List UInt8) (k : Nat) (h : k < (preW l).length) : (splitL 32 l)[k]? = some (preW l)[k] := by
  have hl := preW_len l
  rw [List.getElem?_eq_getElem (by omega)]
  congr 1
  exact (List.getElem_dropLast _).symm
theorem tw_take (ws : List (List UInt8)) (k : Nat) (h : k < ws.length) (ha : (ws.take k).all numK = true) (hn : numK ws[k] = false) : ws.takeWhile numK = ws.take k := by
  have e : ws = ws.take k ++ ws[k] :: ws.drop (k + 1) := by rw [List.getElem_cons_drop]; exact (List.take_append_drop k ws).symm
  have hall : ∀ x ∈ ws.take k, numK x = true := List.all_eq_true.1 ha
  have e2 : (ws.take k ++ ws[k] :: ws.drop (k + 1)).takeWhile numK = ws.take k := by
    rw [List.takeWhile_append_of_pos hall, List.takeWhile_cons]
    simp [hn]
  rwa [← e] at e2
theorem tw_all (ws : List (List UInt8)) (ha : ws.all numK = true) : ws.takeWhile numK = ws := by
  induction ws with
  | nil => rfl
  | cons a r ih =>
    rw [List.all_cons, Bool.and_eq_true] at ha
    rw [List.takeWhile_cons, ha.1, ih ha.2]
    rfl
theorem own_none5 (w : World) : (w.alloc (.cells #[] 2)).ownsRow w.heap.size 2 1 (.slice (some ⟨w.heap.size, 0, none⟩) 0 0) 0 [] :=
  ⟨rfl, .inr ⟨w.heap.size, 0, #[], rfl, Nat.le_refl _, by show (w.heap.push _)[w.heap.size]? = _; simp, Nat.le_refl _, Nat.zero_le _, rfl, rfl⟩⟩

set_option maxRecDepth 100000 in
set_option maxHeartbeats 4000000 in
/-- spec.l07Literals. -/
theorem lit_any (s : ByteArray) (w : World) (hs : s.size ≤ 1000000) :
    Calls Tryd.prog 54 #[.string s] w fun e w' => ∃ v, e = .returned (.tuple #[v, .bool (litK s.data.toList)]) ∧ w'.ownsRow w.heap.size 2 1 v (litV s.data.toList).length (valsZ (litV s.data.toList)) ∧ Below w.heap.size w w' := by
  obtain ⟨i0, hi0, hz0, hz1, hz2⟩ := info_parts info2'
  have SP := Lib.hid (spl_any s 32 w (by omega))
  have HP := Lib.hid (spl_piece 32 s.data.toList)
  have HL := Lib.hid (preW_len s.data.toList)
  have HG := Lib.hid (preW_get s.data.toList)
  have LW : (splitL 32 s.data.toList).length ≤ 1000001 := by have := (split_len 32 s.data.toList).2; simp at this; omega
  have L1 := (split_len 32 s.data.toList).1
  have F0 := Lib.hid (show ∀ k (h : k < (preW s.data.toList).length), ((preW s.data.toList).take k).all numK = true → numK (preW s.data.toList)[k] = false → litK s.data.toList = false ∧ litV s.data.toList = ((preW s.data.toList).map numV).take k from fun k h ha hn => by
    constructor
    · unfold litK
      rw [show (preW s.data.toList).all numK = false from List.all_eq_false.2 ⟨_, List.getElem_mem h, by simp [hn]⟩, Bool.false_and]
    · unfold litV
      rw [tw_take _ k h ha hn, List.map_take])
  have F1 := Lib.hid (show (preW s.data.toList).all numK = true → litK s.data.toList = (lineB ((preW s.data.toList).map numV) == s.data.toList ++ [10]) ∧ litV s.data.toList = (preW s.data.toList).map numV from fun ha => by
    constructor
    · unfold litK
      rw [ha, Bool.true_and]
    · unfold litV
      rw [tw_all _ ha])
  generalize litK s.data.toList = lk at *
  generalize litV s.data.toList = lv at *
  go_enter Tryd.func54, Tryd.ntmps54
  go_wp2_with fail
  refine SP.out.mono ?_
  rintro e w1 ⟨v, rfl, ow, b1⟩
  obtain ⟨g, cap, rfl, gl, gc⟩ := own_strs ow L1
  have A1 := Lib.hid b1
  have GC := Lib.hid gc
  have O0 := Lib.hid (own_none5 w1)
  have A2 := Lib.hid (bA0 w1 (.cells #[] 2))
  have hs1 := b1.size
  clear ow b1 SP gc
  generalize hW : splitL 32 s.data.toList = ws at *
  generalize hM : ws.length = m at *
  have HM := Lib.hid hM
  generalize preW s.data.toList = pw at *
  clear hW hM
  have hpm := HL.out
  go_wp2
  go_loopw [5, 6] (fun v i wr => ∃ k : Nat, i = .int .i64 k ∧ k + 1 ≤ m ∧ Hid (wr.ownsRow w1.heap.size 2 1 v k (valsZ ((pw.map numV).take k))) ∧ Hid ((pw.take k).all numK = true) ∧ Hid (Below w1.heap.size w1 wr)) (fun _ i _ => m - (intOf i).toNat)
  case atStart => exact ⟨0, rfl, by omega, O0, rfl, A2⟩
  case round =>
    obtain ⟨k, rfl, hk, H1, HA, H2⟩ := hrel
    have hk0 : (0 : Int) ≤ (k : Int) := by omega
    have gl2 : g < wr.heap.size := Nat.lt_of_lt_of_le gl H2.out.size
    have hs2 := H2.out.size
    have H3 := Lib.hid (bT A1.out H2.out)
    by_cases h1 : k + 1 < m
    · have h1' : (k : Int) + 1 < (m : Int) := by omega
      have h1'' : (k : Int) < (m : Int) := by omega
      have hlp : k < pw.length := by omega
      have hlw : k < ws.length := by rw [HM.out]; omega
      have hc := (H2.out.cell (p := ⟨g, k, none⟩) gl).trans (GC.out k _ (List.getElem?_eq_getElem hlw))
      have hpl := HP.out ws[k] (List.getElem_mem hlw)
      have GE := Lib.hid (show pw[k] = ws[k] by have := HG.out k hlp; rw [List.getElem?_eq_getElem hlw] at this; exact (Option.some.inj this).symm)
      have NU : Hid (∀ W, Calls Tryd.prog 79 #[strV ws[k]] W fun e w' => e = .returned (.tuple #[.int .i64 (numV ws[k]), .bool (numK ws[k])]) ∧ Below W.heap.size W w') := fun W => by
        have := num_any ⟨ws[k].toArray⟩ (by show ws[k].toArray.size ≤ _; simp at hpl ⊢; omega) W
        exact this
      have YY : Hid (numK ws[k] = true → (pw.take (k + 1)).all numK = true ∧ valsZ ((pw.map numV).take k) ++ [.int .i64 (numV ws[k])] = valsZ ((pw.map numV).take (k + 1))) := fun h => by
        refine ⟨?_, ?_⟩
        · rw [List.take_succ_eq_append_getElem hlp, GE.out, List.all_append, HA.out]
          simp [h]
        · rw [List.take_succ_eq_append_getElem (show k < (pw.map numV).length by simpa using hlp), valsZ_snoc, List.getElem_map, GE.out]
      have NN : Hid (numK ws[k] = false → lk = false ∧ lv = (pw.map numV).take k) := fun h => F0.out k hlp HA.out (by rw [GE.out]; exact h)
      have LK : ((pw.map numV).take k).length = k := by simp; omega
      clear GE hpl
      generalize hnv : numV ws[k] = nv at *
      generalize hnk : numK ws[k] = nk at *
      generalize strV ws[k] = sv at *
      clear hnv hnk hlw
      go_wp2_with fail
      refine (NU.out _).mono ?_
      rintro e w2 ⟨rfl, b2⟩
      have B2 := Lib.hid (bT H2.out b2)
      have R2 := Lib.hid (own_below H1.out b2)
      have hs3 := b2.size
      clear b2 NU H1
      cases nk
      · obtain ⟨e1, e2⟩ := NN.out (by trivial)
        have P := Lib.hid (show w2.ownsRow w.heap.size 2 1 _ lv.length (valsZ lv) by
          rw [e2, LK]
          exact own_mono R2.out hs1)
        have E9 := Lib.hid e1
        have D9 := Lib.hid (bT A1.out B2.out)
        clear NN YY F0 F1 R2 e1 e2
        go_wp2
        exact bodyPost_ret (v := .tuple #[_, .bool false]) (by simp [results, Tryd.results54, go_sem]; rfl) rfl ⟨_, by rw [E9.out], P.out, D9.out⟩
      · obtain ⟨y1, y2⟩ := YY.out (by trivial)
        have Y1 := Lib.hid y1
        have EV := Lib.hid y2
        clear NN YY y1 y2
        go_wp2_with (first | (at_builtin; refine wpList_append_lies _ rfl (.tmp 30) (.tmp 32) 68 rfl w1.heap.size 2 i0 (.int .i64 0) 1 8 Tryd.underlying68 hi0 hz0 hz1 hz2 rfl (by decide) _ _ _ rfl (R2.out.alloc _) ⟨w2.heap.size, 0, none⟩ 1 1 [.int .i64 nv] rfl rfl (cell_one_new _ _ _) (by intro u hu; simp at hu; subst hu; rfl) (by decide) (by unfold maxLen; omega) (by omega) (by simp; omega) (w2.heap.size + 1) (by simp) ?_))
        intro g9 cap9 w9 own9 grow9 hg9 hlt9
        have B9 := Lib.hid ((bA B2.out (.cells #[.int .i64 nv] 2)).grown grow9 (by simp; omega) (fun j hj => (R2.out.lt j hj).1))
        rw [EV.out] at own9
        have N9 := Lib.hid own9
        clear own9 grow9 hg9 hlt9 EV R2 B2
        go_wp2
        go_roundw
        case rel => exact ⟨k + 1, by go_num, by omega, N9, Y1, B9⟩
        case measure => simp [intOf]; omega
    · have h1' : ¬ (k : Int) + 1 < (m : Int) := by omega
      have e : k = pw.length := by omega
      subst e
      have TK : pw.take pw.length = pw := List.take_length
      have TL : (pw.map numV).take pw.length = pw.map numV := List.take_of_length_le (by simp)
      rw [TL] at H1
      rw [TK] at HA
      obtain ⟨e1, e2⟩ := F1.out HA.out
      have LK : (pw.map numV).length = pw.length := by simp
      obtain ⟨s9, c9, e9, i9⟩ := own_ints (show wr.ownsRow w1.heap.size 2 1 _ (pw.map numV).length (valsZ (pw.map numV)) by rw [LK]; exact H1.out)
      have BL : BigL (pw.map numV) := fun z hz => by
        obtain ⟨x, _, rfl⟩ := List.mem_map.1 hz
        exact numV_bd x
      have LN := Lib.hid (lineG_any s9 c9 (pw.map numV) wr (by rw [LK]; omega) BL i9)
      rw [LK] at LN e9
      have P := Lib.hid (own_mono H1.out hs1)
      have E9 := Lib.hid (And.intro e1 e2)
      subst e9
      clear TK TL BL F0 F1 H1 HA i9 e1 e2
      generalize hlb : lineB (pw.map numV) = lb at *
      go_wp2_with fail
      refine LN.out.mono ?_
      rintro e w3 ⟨rfl, b3⟩
      have D9 := Lib.hid (bT H3.out b3)
      have P3 := Lib.hid (own_below P.out b3)
      clear b3 LN P
      go_wp2
      exact bodyPost_ret (v := .tuple #[.slice s9 pw.length c9, .bool ((⟨lb.toArray⟩ : ByteArray).toList == (s ++ ⟨#[10]⟩).toList)]) (by simp [results, Tryd.results54, go_sem]) rfl ⟨.slice s9 pw.length c9, by
        rw [E9.out.1, Go.ByteArray.toList_eq, Go.ByteArray.toList_eq]
        simp, by rw [E9.out.2, LK]; exact P3.out, D9.out⟩

end Go.Proofs.YtoncpiaboceefaaDoor
