import Derived.Test.YtnihhbfgbilimaaGreatDoorKAla
import Derived.Test.YtnihhbfgbilimaaGreatDoorZQe
import Derived.Test.YtnihhbfgbilimaaGreatDoorKQai
import Derived.WalkMore
namespace Go.Proofs.YtnihhbfgbilimaaGreatDoor
open Go.RowKit
set_option linter.unusedVariables false
def withL : List LPl → LPl → List LPl
 | [], x => [x]
 | p :: r, x => if x.1 < p.1 then x :: p :: r else p :: withL r x
theorem withL_perm : ∀ (pl : List LPl) (x : LPl), (withL pl x).Perm (x :: pl)
 | [], x => List.Perm.refl _
 | p :: r, x => by
  unfold withL
  split
  ·exact List.Perm.refl _
  ·exact (List.Perm.cons p (withL_perm r x)).trans (List.Perm.swap x p r)
theorem withL_len (pl : List LPl) (x : LPl) : (withL pl x).length = pl.length + 1 := by simpa using (withL_perm pl x).length_eq
theorem withL_mem {pl : List LPl} {x y : LPl} : y ∈ withL pl x ↔ y = x ∨ y ∈ pl := by rw [(withL_perm pl x).mem_iff, List.mem_cons]
theorem withL_cut : ∀ (pl : List LPl) (x : LPl) (i : Nat), i ≤ pl.length → (∀ p ∈ pl.take i, ¬ x.1 < p.1) → (∀ p ∈ pl.drop i, x.1 < p.1) → withL pl x = pl.take i ++ x :: pl.drop i
 | [], x, i, h, _, _ => by simp [withL]
 | p :: r, x, 0, _, _, h2 => by
  have := h2 p (by simp)
  simp [withL, this]
 | p :: r, x, i + 1, h, h1, h2 => by
  have := h1 p (by simp)
  simp only [withL, if_neg this, List.take_succ_cons, List.drop_succ_cons, List.cons_append]
  rw [withL_cut r x i (by simpa using h) (fun q hq => h1 q (by simp [hq])) (fun q hq => h2 q (by simpa using hq))]
theorem fault0 (rs : List LSt) (ps : List LPr) (top : Int) : ∀ (pl pre : List LPl), (∀ p ∈ pl, p.1 ≠ 0) → (faultF rs ps top pre pl = 0 ↔ (∀ p ∈ pl, p.2 ∈ rs.flatMap (domF p.1 top)) ∧ (∀ p ∈ pl, ∀ o ∈ pre, mayL ps o.1 o.2 p.1 p.2 = true) ∧ pl.Pairwise (fun o p => mayL ps o.1 o.2 p.1 p.2 = true))
 | [], pre, _ => by simp [faultF]
 | p :: r, pre, h => by
  have hp := h p (by simp)
  have ih := fault0 rs ps top r (pre ++ [p]) (fun q hq => h q (by simp [hq]))
  unfold faultF
  by_cases hg : goodB rs ps top pre p = true
  ·rw [if_pos hg, ih]
   unfold goodB at hg
   rw [Bool.and_eq_true, List.all_eq_true] at hg
   obtain ⟨g1, g2⟩ := hg
   have g1 := B_true g1
   constructor
   ·rintro ⟨a, b, c⟩
    refine ⟨fun q hq => ?_, fun q hq o ho => ?_, List.pairwise_cons.2 ⟨fun q hq => b q hq p (by simp), c⟩⟩
    ·rcases List.mem_cons.1 hq with rfl | hq
     ·exact g1
     ·exact a q hq
    ·rcases List.mem_cons.1 hq with rfl | hq
     ·exact g2 o ho
     ·exact b q hq o (by simp [ho])
   ·rintro ⟨a, b, c⟩
    rw [List.pairwise_cons] at c
    refine ⟨fun q hq => a q (by simp [hq]), fun q hq o ho => ?_, c.2⟩
    rcases List.mem_append.1 ho with ho | ho
    ·exact b q (by simp [hq]) o ho
    ·rw [List.mem_singleton.1 ho]; exact c.1 q hq
  ·rw [if_neg hg]
   constructor
   ·intro e; exact absurd e hp
   ·rintro ⟨a, b, c⟩
    refine absurd ?_ hg
    unfold goodB
    rw [Bool.and_eq_true, List.all_eq_true]
    exact ⟨B_yes (a p (by simp)), fun o ho => b p (by simp) o ho⟩
structure PlanOk (rs : List LSt) (ps : List LPr) (top : Int) (pl : List LPl) : Prop where
 ln : pl.length ≤ 400
 ids : IdsR rs ps (pidsL pl)
 dom : ∀ p ∈ pl, p.2 ∈ rs.flatMap (domF p.1 top)
 may : pl.Pairwise (fun o p => mayL ps o.1 o.2 p.1 p.2 = true)
theorem planB_ok (rs : List LSt) (ps : List LPr) (top : Int) (pl : List LPl) : planB rs ps top pl = true ↔ PlanOk rs ps top pl := by
 unfold planB faultA
 rw [Bool.and_eq_true, decide_eq_true_iff, beq_iff_eq]
 constructor
 ·rintro ⟨h1, h2⟩
  rw [if_pos h1] at h2
  by_cases hi : IdsR rs ps (pidsL pl)
  ·rw [B_yes hi, if_pos rfl] at h2
   have := (fault0 rs ps top pl [] (fun p hp => by have := ids_small hi p hp; omega)).1 h2
   exact ⟨h1, hi, this.1, this.2.2⟩
  ·rw [B_no hi] at h2; simp at h2
 ·rintro ⟨h1, hi, h3, h4⟩
  refine ⟨h1, ?_⟩
  rw [if_pos h1, B_yes hi, if_pos rfl]
  exact (fault0 rs ps top pl [] (fun p hp => by have := ids_small hi p hp; omega)).2 ⟨h3, fun p _ o ho => by simp at ho, h4⟩
theorem may_sym (rs : List LSt) (ps : List LPr) (h : TabR rs ps) (a c b d : Int) : mayL ps a c b d = mayL ps b d a c := by
 have h1 : ∀ p ∈ ps, p.1 < p.2.1 ∧ (p.2.2 = 1 ∨ p.2.2 = 2) := fun p hp => ⟨(h.2.2.2.1 p hp).1, (h.2.2.2.1 p hp).2.1⟩
 rw [may_fit1 ps a c b d h1 h.2.2.2.2, may_fit1 ps b d a c h1 h.2.2.2.2, show min a b = min b a by omega, show max a b = max b a by omega, show max c d - min c d = max d c - min d c by omega]
theorem pidsL_withL : ∀ (pl : List LPl) (x : LPl), (pidsL (withL pl x)).Perm (x.1 :: pidsL pl) := fun pl x => by
 have := (withL_perm pl x).map fun p : LPl => p.1
 simpa [pidsL] using this
theorem pair_rise (zs : List Int) (h : zs.Pairwise (· < ·)) : RiseTo zs zs.length := by
 rw [List.pairwise_iff_getElem] at h
 intro i hi h0
 have := h (i - 1) i (by omega) hi (by omega)
 simpa [hi, show i - 1 < zs.length by omega] using this
theorem withL_rise : ∀ (pl : List LPl) (x : LPl), (pidsL pl).Pairwise (· < ·) → x.1 ∉ pidsL pl → (pidsL (withL pl x)).Pairwise (· < ·)
 | [], x, _, _ => by simp [withL, pidsL]
 | p :: r, x, h, hn => by
  simp only [pidsL, List.map_cons, List.pairwise_cons, List.mem_cons, not_or] at h hn
  unfold withL
  split
  ·rename_i hlt
   simp only [pidsL, List.map_cons, List.pairwise_cons, List.mem_cons]
   refine ⟨fun y hy => ?_, h.1, h.2⟩
   rcases hy with rfl | hy
   ·exact hlt
   ·have := h.1 y hy; omega
  ·rename_i hlt
   have ih := withL_rise r x h.2 hn.2
   simp only [pidsL, List.map_cons, List.pairwise_cons]
   refine ⟨fun y hy => ?_, ih⟩
   have hy' : y ∈ pidsL (withL r x) := hy
   rw [(pidsL_withL r x).mem_iff] at hy'
   rcases List.mem_cons.1 hy' with rfl | hy'
   ·have := hn.1; omega
   ·exact h.1 y hy'
theorem add_iff {rs : List LSt} {ps : List LPr} {top : Int} {pl : List LPl} {id c : Int} (h : PlanOk rs ps top pl) (hn : id ∉ pidsL pl) (hc : c ∈ rs.flatMap (domF id top)) : planB rs ps top (withL pl (id, c)) = fitB ps pl (id, c) := by
 have ht := h.ids.2.1
 rw [fit_may rs ps pl (id, c) ht]
 have key : planB rs ps top (withL pl (id, c)) = true ↔ pl.all (fun o => mayL ps o.1 o.2 (id, c).1 (id, c).2) = true := by
  rw [planB_ok, List.all_eq_true]
  have hp := (withL_perm pl (id, c)).pairwise_iff (R := fun o p : LPl => mayL ps o.1 o.2 p.1 p.2 = true) (fun {x y} g => by rw [may_sym rs ps ht]; exact g)
  constructor
  ·intro g o ho
   have := hp.1 g.may
   rw [List.pairwise_cons] at this
   rw [may_sym rs ps ht]
   exact this.1 o ho
  ·intro g
   have hid : id ∈ idsL rs := by
    by_cases hx : id ∈ idsL rs
    ·exact hx
    ·rw [flat_none id top rs hx] at hc; simp at hc
   have hl := ids_few h.ids
   rw [pidsL_len] at hl
   refine ⟨by rw [withL_len]; omega, ⟨by rw [pidsL_len, withL_len]; omega, ht, pair_rise _ (withL_rise pl (id, c) (ids_pair h.ids) hn), fun x hx => ?_⟩, fun p hp' => ?_, hp.2 (List.pairwise_cons.2 ⟨fun o ho => by rw [may_sym rs ps ht]; exact g o ho, h.may⟩)⟩
   ·rw [(pidsL_withL pl (id, c)).mem_iff] at hx
    rcases List.mem_cons.1 hx with rfl | hx
    ·exact hid
    ·exact h.ids.2.2.2 x hx
   ·rcases withL_mem.1 hp' with rfl | hp'
    ·exact hc
    ·exact h.dom p hp'
 cases e1 : planB rs ps top (withL pl (id, c)) <;> cases e2 : pl.all (fun o => mayL ps o.1 o.2 (id, c).1 (id, c).2) <;> simp_all
noncomputable def addL (ps : List LPr) (pl : List LPl) (id : Int) : List Int → List LPl
 | [] => []
 | c :: r => if fitB ps pl (id, c) = true then withL pl (id, c) else addL ps pl id r
def AddOk (rs : List LSt) (ps : List LPr) (top : Int) (pl : List LPl) (id : Int) : Prop := planB rs ps top pl = true ∧ id ∉ pidsL pl
noncomputable def addA (rs : List LSt) (ps : List LPr) (top : Int) (pl : List LPl) (id : Int) : List LPl := if B (AddOk rs ps top pl id) = true then addL ps pl id (rs.flatMap (domF id top)) else []
theorem addA_no {rs : List LSt} {ps : List LPr} {top : Int} {pl : List LPl} {id : Int} (h : ¬ AddOk rs ps top pl id) : addA rs ps top pl id = [] := by unfold addA; rw [B_no h]; rfl
theorem addA_yes {rs : List LSt} {ps : List LPr} {top : Int} {pl : List LPl} {id : Int} (h : AddOk rs ps top pl id) : addA rs ps top pl id = addL ps pl id (rs.flatMap (domF id top)) := by unfold addA; rw [B_yes h]; rfl
theorem addL_step (ps : List LPr) (pl : List LPl) (id : Int) (ds : List Int) (k : Nat) (h : k < ds.length) : addL ps pl id (ds.drop k) = if fitB ps pl (id, ds.getD k 0) = true then withL pl (id, ds.getD k 0) else addL ps pl id (ds.drop (k + 1)) := by
 rw [List.drop_eq_getElem_cons h, addL]
 simp [h]
theorem addL_end (ps : List LPr) (pl : List LPl) (id : Int) (ds : List Int) (k : Nat) (h : ds.length ≤ k) : addL ps pl id (ds.drop k) = [] := by
 rw [List.drop_of_length_le h, addL]
variable (f : List LPl → LPl → Bool) (bud : Nat) (C : List (List LPl))
def natV (tr : List Nat) : Array Value := (tr.map fun (n : Nat) => Value.int .i64 (n : Int)).toArray
def TrAt (w : World) (b : Nat) (tr : List Nat) : Prop := w.heap[b]? = some (.cells (natV tr) 3)
theorem TrAt.lt {w : World} {b : Nat} {tr : List Nat} (h : TrAt w b tr) : b < w.heap.size := (Array.getElem?_eq_some_iff.1 h).1
theorem TrAt.cell {w : World} {b : Nat} {tr : List Nat} (h : TrAt w b tr) (i : Nat) (hi : i < tr.length) : w.cell? ⟨b, i, none⟩ = some (.int .i64 ((tr.getD i 0 : Nat) : Int)) := by
 unfold TrAt at h; simp [World.cell?, h, natV, hi]
theorem TrAt.of {w w' : World} {b : Nat} {tr : List Nat} (h : TrAt w b tr) (e : w'.heap[b]? = w.heap[b]?) : TrAt w' b tr := e.trans h
set_option maxRecDepth 100000 in
set_option maxHeartbeats 4000000 in
theorem bs2_any (sl : Option Addr) (cap : Nat) (zs : List Int) (x : Int) (w : World) (hn : zs.length ≤ 1048576) (hr : Rises zs) (hz : Ints w sl zs) :
  Calls Tryz.prog 182 #[.slice sl zs.length cap, .int .i64 x] w fun e w' => ∃ p : Nat, e = .returned (.tuple #[.int .i64 p, .bool (B (x ∈ zs))]) ∧ p ≤ zs.length ∧ (x ∉ zs → CutAt zs x p p) ∧ Below w.heap.size w w' := by
 have HZ := Lib.hid hz
 have HR := Lib.hid hr
 have EL := Lib.hid (fun y W => less_any y x W)
 have EN := Lib.hid (fun y W => nan2_any y W)
 clear hz hr
 generalize hN : zs.length = n at *
 have HN := Lib.hid hN
 clear hN
 go_enter Tryz.func182, Tryz.ntmps182
 go_wp2
 go_loopw [7, 8] (fun i j wr => ∃ (lo hi : Nat), i = .int .i64 lo ∧ j = .int .i64 hi ∧ lo ≤ hi ∧ hi ≤ n ∧ Hid (CutAt zs x lo hi) ∧ Hid (Below w.heap.size w wr)) (fun i j _ => (intOf j).toNat - (intOf i).toNat)
 case atStart => exact ⟨0, n, rfl, rfl, Nat.zero_le _, Nat.le_refl _, ⟨fun t ht => absurd ht (Nat.not_lt_zero _), fun t h1 h2 => by rw [HN.out] at h2; omega⟩, Below.refl _ _⟩
 case round =>
  obtain ⟨lo, hi, rfl, rfl, hlh, hin, CA, HB⟩ := hrel
  have hlo0 : (0 : Int) ≤ (lo : Int) := by omega
  have hhi0 : (0 : Int) ≤ (hi : Int) := by omega
  by_cases g1 : lo < hi
  ·have g1' : (lo : Int) < (hi : Int) := by omega
   have hlt : (lo + hi) / 2 < zs.length := by rw [HN.out]; omega
   obtain ⟨c, o, rfl, ZI⟩ : ∃ c o, sl = some ⟨c, o, none⟩ ∧ IntsAt w c o zs := by
    rcases HZ.out with e | h
    ·rw [e] at hlt; simp at hlt
    ·exact h
   have hc := (HB.out.cell (p := ⟨c, o + (lo + hi) / 2, none⟩) ZI.1).trans (ZI.2 ((lo + hi) / 2) hlt)
   have C1 : Hid (zs.getD ((lo + hi) / 2) 0 < x → CutAt zs x ((lo + hi) / 2 + 1) hi) := fun h => ⟨fun t ht => by
    by_cases e : t = (lo + hi) / 2
    ·rw [e]; exact h
    ·have := HR.out t ((lo + hi) / 2) (by omega) hlt; omega, CA.out.2⟩
   have C2 : Hid (¬ zs.getD ((lo + hi) / 2) 0 < x → CutAt zs x lo ((lo + hi) / 2)) := fun h => ⟨CA.out.1, fun t h1 h2 => by
    by_cases e : t = (lo + hi) / 2
    ·rw [e]; omega
    ·have := HR.out ((lo + hi) / 2) t (by omega) h2; omega⟩
   clear ZI hlt CA
   generalize zs.getD ((lo + hi) / 2) 0 = y at *
   have E := Lib.hid (EL.out y)
   by_cases hyx : y < x
   ·have CC := Lib.hid (C1.out hyx)
    clear C1 C2
    go_wp2_with (first | (go_at_call 208; refine (E.out _).mono ?_; rintro e w' ⟨rfl, rfl⟩))
    go_roundw
    case rel => exact ⟨(lo + hi) / 2 + 1, hi, by rw [show ((lo : Int) + (hi : Int)) / 2 + 1 = (((lo + hi) / 2 + 1 : Nat) : Int) by omega], rfl, by omega, hin, CC, HB⟩
    case measure => simp [intOf]; omega
   ·have CC := Lib.hid (C2.out hyx)
    clear C1 C2
    go_wp2_with (first | (go_at_call 208; refine (E.out _).mono ?_; rintro e w' ⟨rfl, rfl⟩))
    go_roundw
    case rel => exact ⟨lo, (lo + hi) / 2, rfl, by rw [show ((lo : Int) + (hi : Int)) / 2 = (((lo + hi) / 2 : Nat) : Int) by omega], by omega, by omega, CC, HB⟩
    case measure => simp [intOf]; omega
  ·have g1' : ¬ (lo : Int) < (hi : Int) := by omega
   obtain rfl : hi = lo := by omega
   by_cases g2 : hi < n
   ·have g2' : (hi : Int) < (n : Int) := by omega
    have hlt : hi < zs.length := by rw [HN.out]; exact g2
    obtain ⟨c, o, rfl, ZI⟩ : ∃ c o, sl = some ⟨c, o, none⟩ ∧ IntsAt w c o zs := by
     rcases HZ.out with e | h
     ·rw [e] at hlt; simp at hlt
     ·exact h
    have hc := (HB.out.cell (p := ⟨c, o + hi, none⟩) ZI.1).trans (ZI.2 hi hlt)
    have C1 : Hid (zs.getD hi 0 = x → B (x ∈ zs) = true ∧ (x ∉ zs → CutAt zs x hi hi)) := fun h => ⟨B_yes (cut_in CA.out HR.out hlt h).1, fun _ => CA.out⟩
    have C2 : Hid (¬ zs.getD hi 0 = x → B (x ∈ zs) = false ∧ (x ∉ zs → CutAt zs x hi hi)) := fun h => ⟨B_no (cut_out CA.out HR.out (fun _ => h)), fun _ => CA.out⟩
    clear ZI hlt CA
    generalize zs.getD hi 0 = y at *
    have E := Lib.hid (EN.out y)
    by_cases hyx : y = x
    ·have CC := Lib.hid (C1.out hyx)
     clear C1 C2
     go_wp2_with (first | (go_at_call 214; refine (E.out _).mono ?_; rintro e w' ⟨rfl, rfl⟩))
     go_ret2
     exact ⟨hi, (by rw [CC.out.1]; first | rfl | simp [*]), hin, CC.out.2, HB.out⟩
    ·have CC := Lib.hid (C2.out hyx)
     clear C1 C2
     go_wp2_with (first | (go_at_call 214; refine (E.out _).mono ?_; rintro e w' ⟨rfl, rfl⟩))
     go_ret2
     exact ⟨hi, (by rw [CC.out.1]; first | rfl | simp [*]), hin, CC.out.2, HB.out⟩
   ·have g2' : ¬ (hi : Int) < (n : Int) := by omega
    have hx := cut_out CA.out HR.out (fun h => absurd h (by rw [HN.out]; exact g2))
    have CC := Lib.hid (show B (x ∈ zs) = false ∧ (x ∉ zs → CutAt zs x hi hi) from ⟨B_no hx, fun _ => CA.out⟩)
    clear hx CA
    go_wp2
    go_ret2
    exact ⟨hi, (by rw [CC.out.1]; first | rfl | simp [*]), hin, CC.out.2, HB.out⟩
theorem cut_with {pl : List LPl} {id c : Int} {p : Nat} (hp : p ≤ pl.length) (hn : id ∉ pidsL pl) (h : CutAt (pidsL pl) id p p) : withL pl (id, c) = pl.take p ++ (id, c) :: pl.drop p := by
 have hg : ∀ t (ht : t < pl.length), (pidsL pl).getD t 0 = pl[t].1 := fun t ht => by simp [pidsL, ht]
 refine withL_cut pl (id, c) p hp (fun q hq => ?_) (fun q hq => ?_)
 ·obtain ⟨t, ht, rfl⟩ := List.getElem_of_mem hq
  have ht' : t < p ∧ t < pl.length := by simp at ht; omega
  have := h.1 t ht'.1
  rw [hg t ht'.2] at this
  simp only [List.getElem_take]
  show ¬ id < pl[t].1
  omega
 ·obtain ⟨t, ht, rfl⟩ := List.getElem_of_mem hq
  have ht' : p + t < pl.length := by simp at ht; omega
  have := h.2 (p + t) (by omega) (by rw [pidsL_len]; exact ht')
  rw [hg _ ht'] at this
  simp only [List.getElem_drop]
  show id < pl[p + t].1
  have hne : pl[p + t].1 ≠ id := fun e => hn (e ▸ List.mem_map.2 ⟨pl[p + t], List.getElem_mem ht', rfl⟩)
  omega
set_option maxRecDepth 100000 in
set_option maxHeartbeats 8000000 in
theorem ipa_any (sl : Option Addr) (cap : Nat) (sl2 : Option Addr) (cap2 : Nat) (sl3 : Option Addr) (cap3 : Nat) (rs : List LSt) (ps : List LPr) (pl : List LPl) (top id : Int) (w : World) (hn : rs.length ≤ 1048576) (hl : pl.length ≤ 1048576) (hz : Sts w sl rs) (hp : Prs w sl2 ps) (hw : ∀ p ∈ ps, WfP p) (hi : Pls w sl3 pl) (hc3 : pl.length ≤ cap3) :
  Calls Tryz.prog 149 #[TV sl rs.length cap sl2 ps.length cap2, .int .i64 top, .slice sl3 pl.length cap3, .int .i64 id] w fun e w' => ∃ v, e = .returned v ∧ w'.ownsRow w.heap.size 131 2 v (addA rs ps top pl id).length (enCells (addA rs ps top pl id)) ∧ Below w.heap.size w w' := by
 have HT := Lib.hid (TabAtD.new w sl rs.length cap sl2 ps.length cap2)
 have B0 := Lib.hid (bA0 w (.cells #[.slice sl rs.length cap, .slice sl2 ps.length cap2] 26))
 have E1 := Lib.hid (ipr_any sl cap sl2 cap2 sl3 cap3 rs ps pl top _ hn hl (hz.below B0.out) (hp.below B0.out) hw (hi.below B0.out) hc3)
 by_cases c1 : planB rs ps top pl = true
 ·rw [c1] at E1
  have ok := (planB_ok rs ps top pl).1 c1
  have TR := ok.ids.2.1
  have E2 : Hid (∀ W, Below w.heap.size w W → Calls Tryz.prog 117 #[.slice sl3 pl.length cap3] W fun e w' => ∃ v, e = .returned v ∧ w'.ownsRow W.heap.size 2 1 v (pidsL pl).length (valsZ (pidsL pl)) ∧ Below W.heap.size W w') := fun W hW => by
   have := ipi_any sl3 cap3 pl W (by unfold maxLen; omega) (hi.below hW)
   rwa [show pidsA pl = pidsL pl from if_pos ok.ln] at this
  have E3 : Hid (∀ s k W, Ints W s (pidsL pl) → Calls Tryz.prog 182 #[.slice s (pidsL pl).length k, .int .i64 id] W fun e w' => ∃ p : Nat, e = .returned (.tuple #[.int .i64 p, .bool (B (id ∈ pidsL pl))]) ∧ p ≤ (pidsL pl).length ∧ (id ∉ pidsL pl → CutAt (pidsL pl) id p p) ∧ Below W.heap.size W w') := fun s k W hi' => bs2_any s k (pidsL pl) id W (by rw [pidsL_len]; omega) (idsR_rise ok.ids) hi'
  by_cases c2 : id ∈ pidsL pl
  ·rw [addA_no (fun g => g.2 c2)]
   rw [B_yes c2] at E3
   have OI := Lib.hid (fun B v (W : World) (o : W.ownsRow B 2 1 v (pidsL pl).length (valsZ (pidsL pl))) => own_ints o)
   clear hz hp hw hi c1 ok TR c2 hn hl
   generalize rs.length = rn at *
   generalize ps.length = pq at *
   generalize pl.length = pn at *
   generalize pidsL pl = pd at *
   go_enter Tryz.func149, Tryz.ntmps149
   go_wp2_with fail
   refine E1.out.mono ?_
   rintro e w1 ⟨rfl, b1⟩
   have D1 := Lib.hid (bT B0.out b1)
   clear b1 E1 HT B0
   go_wp2_with fail
   refine (E2.out _ D1.out).mono ?_
   rintro e w2 ⟨v2, rfl, o2, b2⟩
   have D2 := Lib.hid (bT D1.out b2)
   obtain ⟨s2, k2, rfl, i2⟩ := OI.out _ _ _ o2
   have T3 := Lib.hid (E3.out s2 k2 w2 i2)
   clear b2 o2 i2 E2 D1 E3
   go_wp2_with fail
   refine T3.out.mono ?_
   rintro e w3 ⟨p, rfl, -, -, b3⟩
   have D3 := Lib.hid (bT D2.out b3)
   clear b3 T3 D2
   go_wp2
   go_ret
   exact ⟨_, rfl, ⟨rfl, .inl ⟨rfl, rfl⟩⟩, D3.out⟩
  rw [addA_yes ⟨c1, c2⟩]
  rw [B_no c2] at E3
  have CW := Lib.hid (show ∀ p c, p ≤ (pidsL pl).length → (id ∉ pidsL pl → CutAt (pidsL pl) id p p) → withL pl (id, c) = pl.take p ++ (id, c) :: pl.drop p from fun p c h1 h2 => cut_with (by rwa [pidsL_len] at h1) c2 (h2 c2))
  have E4 : Hid (∀ W, Below w.heap.size w W → Calls Tryz.prog 180 #[TV sl rs.length cap sl2 ps.length cap2] W fun e w' => ∃ kb, e = .returned (FV kb) ∧ FitsAt w' kb ps ∧ Below W.heap.size W w') := fun W hW => bi_any sl rs.length cap sl2 cap2 ps W (by have := TR.1.2.2; omega) (hp.below hW) hw
  have E5 : Hid (∀ W, Below w.heap.size w W → Calls Tryz.prog 181 #[TV sl rs.length cap sl2 ps.length cap2, .int .i64 id, .int .i64 top] W fun e w' => ∃ v, e = .returned v ∧ w'.ownsRow W.heap.size 2 1 v (rs.flatMap (domF id top)).length (valsZ (rs.flatMap (domF id top))) ∧ Below W.heap.size W w') := fun W hW => din_any sl cap sl2 cap2 rs ps id top W (hz.below hW) TR
  have E6 : Hid (∀ W kb c, Below w.heap.size w W → FitsAt W kb ps → c ∈ rs.flatMap (domF id top) → Calls Tryz.prog 213 #[.slice sl3 pl.length cap3, .agg #[.int .i64 id, .int .i64 c], .pointer (some ⟨kb, 0, none⟩)] W fun e w' => e = .returned (.bool (fitB ps pl (id, c))) ∧ Below W.heap.size W w') := fun W kb c hW hf hc => by
   have hid : id ∈ idsL rs := by
    by_cases hx : id ∈ idsL rs
    ·exact hx
    ·rw [flat_none id top rs hx] at hc; simp at hc
   have h1 := TR.2.2.1.mem hid
   have h2 := dom_small rs ps id top c TR hc
   exact fit_any sl3 cap3 pl id c kb ps W hl (hi.below hW) (fun p hp' => by
    have g1 := ids_small ok.ids p hp'
    have g2 := dom_small rs ps p.1 top p.2 TR (ok.dom p hp')
    exact ⟨⟨by omega, by omega⟩, ⟨by omega, by omega⟩⟩) ⟨⟨by show (0 : Int) ≤ id; omega, by show id ≤ 1000; omega⟩, ⟨by show (0 : Int) ≤ c; omega, by show c ≤ 1000; omega⟩⟩ hw hf
  have CL : Hid (∀ W, Below w.heap.size w W → Calls Tryz.prog 121 #[.slice sl3 pl.length cap3] W fun e w' => ∃ v, e = .returned v ∧ w'.ownsRow W.heap.size 131 2 v pl.length (enCells pl) ∧ Below W.heap.size W w') := fun W hW => clo_any sl3 cap3 pl W hl (hi.below hW)
  have INP : Hid (∀ (p B vb : Nat) (c : Int) (v : Value) (W : World), p ≤ (pidsL pl).length → W.ownsRow B 131 2 v pl.length (enCells pl) → B ≤ W.heap.size → W.heap[vb]? = some (.cells #[.int .i64 id, .int .i64 c] 131) → v.ownBlock ≠ some vb → Calls Tryz.prog 183 #[v, .int .i64 p, .slice (some ⟨vb, 0, none⟩) 1 1] W fun e w' => ∃ v', e = .returned v' ∧ w'.ownsRow B 131 2 v' (pl.length + 1) (enCells (pl.take p ++ (id, c) :: pl.drop p)) ∧ Below B W w') := fun p B vb c v W h1 h2 h3 h4 h5 => ins_any B p vb id c v pl W h2 h3 (by rwa [pidsL_len] at h1) h4 h5 (by have := ok.ln; omega)
  have DL := dom_le rs ps id top TR
  have OI := Lib.hid (fun B v (W : World) (o : W.ownsRow B 2 1 v (pidsL pl).length (valsZ (pidsL pl))) => own_ints o)
  have DM := Lib.hid (show ∀ k, k < (rs.flatMap (domF id top)).length → (rs.flatMap (domF id top)).getD k 0 ∈ rs.flatMap (domF id top) from fun k hk => getD_mem hk)
  have PN := Lib.hid (show ∀ c, (withL pl (id, c)).length = pl.length + 1 from fun c => withL_len pl (id, c))
  clear hz hp hw hi c1 c2 ok TR hn hl
  generalize hDS : rs.flatMap (domF id top) = ds at *
  clear hDS
  have AS := Lib.hid (fun k (h : k < ds.length) => addL_step ps pl id ds k h)
  have AE := Lib.hid (fun k (h : ds.length ≤ k) => addL_end ps pl id ds k h)
  have A0 := Lib.hid (show addL ps pl id (ds.drop 0) = addL ps pl id ds by simp)
  generalize hR : addL ps pl id ds = R at *
  clear hR
  have DI := Lib.hid (fun B v (W : World) (o : W.ownsRow B 2 1 v ds.length (valsZ ds)) => own_ints o)
  generalize hDN : ds.length = dn at *
  have HDN := Lib.hid hDN
  clear hDN
  generalize rs.length = rn at *
  generalize ps.length = pq at *
  generalize hPN : pl.length = pn at *
  clear hPN
  go_enter Tryz.func149, Tryz.ntmps149
  go_wp2_with fail
  refine E1.out.mono ?_
  rintro e w1 ⟨rfl, b1⟩
  have D1 := Lib.hid (bT B0.out b1)
  have T1 := Lib.hid (HT.out.below b1)
  clear b1 E1 HT B0
  go_wp2_with fail
  refine (E2.out _ D1.out).mono ?_
  rintro e w2 ⟨v2, rfl, o2, b2⟩
  have D2 := Lib.hid (bT D1.out b2)
  have T2 := Lib.hid (T1.out.below b2)
  obtain ⟨s2, k2, rfl, i2⟩ := OI.out _ _ _ o2
  have C3 := Lib.hid (E3.out s2 k2 w2 i2)
  clear b2 o2 i2 E2 D1 E3 T1 OI
  go_wp2_with fail
  refine C3.out.mono ?_
  rintro e w3 ⟨p, rfl, hp3, hcut, b3⟩
  have D3 := Lib.hid (bT D2.out b3)
  have T3 := Lib.hid (T2.out.below b3)
  have WCP := Lib.hid (fun c => CW.out p c hp3 hcut)
  have INS := Lib.hid (fun B vb c v W => INP.out p B vb c v W hp3)
  clear b3 C3 D2 T2 CW INP hcut hp3
  obtain ⟨t0, t1⟩ := T3.out.cells
  have tl := T3.out.lt
  go_wp2_with fail
  refine (E4.out _ D3.out).mono ?_
  rintro e w4 ⟨kb, rfl, ft4, b4⟩
  have D4 := Lib.hid (bT D3.out b4)
  have T4 := Lib.hid (T3.out.below b4)
  have F4 := Lib.hid ft4
  clear b4 ft4 D3 T3 t0 t1 tl E4
  obtain ⟨t0, t1⟩ := T4.out.cells
  have tl := T4.out.lt
  go_wp2_with fail
  refine (E5.out _ D4.out).mono ?_
  rintro e w5 ⟨v5, rfl, o5, b5⟩
  have D5 := Lib.hid (bT D4.out b5)
  have F5 := Lib.hid (F4.out.below b5)
  obtain ⟨s5, k5, rfl, i5⟩ := DI.out _ _ _ o5
  have I5 := Lib.hid i5
  clear b5 o5 i5 D4 T4 F4 t0 t1 tl E5 DI
  go_wp2
  go_loopw [35] (fun i wr => ∃ k : Nat, i = .int .i64 k ∧ k ≤ dn ∧ Hid (addL ps pl id (ds.drop k) = R) ∧ Hid (Below w5.heap.size w5 wr)) (fun i _ => dn - (intOf i).toNat)
  case atStart => exact ⟨0, rfl, Nat.zero_le _, A0, Below.refl _ _⟩
  case round =>
   obtain ⟨k, rfl, hk, HA, HB⟩ := hrel
   have hk0 : (0 : Int) ≤ (k : Int) := by omega
   by_cases h1 : k < dn
   ·have h1' : (k : Int) < (dn : Int) := by omega
    have hlt : k < ds.length := by rw [HDN.out]; exact h1
    obtain ⟨cb, co, rfl, ZI⟩ : ∃ cb co, s5 = some ⟨cb, co, none⟩ ∧ IntsAt w5 cb co ds := by
     rcases I5.out with e | h
     ·rw [e] at hlt; simp at hlt
     ·exact h
    have hcell : wr.cell? ⟨cb, co + k, none⟩ = some (.int .i64 (ds.getD k 0)) := (HB.out.cell (p := ⟨cb, co + k, none⟩) ZI.1).trans (ZI.2 k hlt)
    have DW := Lib.hid (bT D5.out HB.out)
    have FW := Lib.hid (F5.out.below HB.out)
    have DP := Lib.hid (bA DW.out (.cells #[.int .i64 id, .int .i64 (ds.getD k 0)] 131))
    have CF := Lib.hid (E6.out (wr.alloc (.cells #[.int .i64 id, .int .i64 (ds.getD k 0)] 131)) kb _ DP.out (FW.out.below (bA0 _ _)) (DM.out k h1))
    have ASK := Lib.hid (AS.out k h1)
    have NP := Lib.hid (new_at wr (.cells #[.int .i64 id, .int .i64 (ds.getD k 0)] 131))
    have BP := Lib.hid (bA0 wr (.cells #[.int .i64 id, .int .i64 (ds.getD k 0)] 131))
    clear hlt ZI
    generalize ds.getD k 0 = c at *
    by_cases hf : fitB ps pl (id, c) = true
    ·have ER := Lib.hid (show R = withL pl (id, c) by rw [← HA.out, ASK.out, if_pos hf])
     have WC := Lib.hid (WCP.out c)
     rw [hf] at CF
     clear ASK HA AS AE
     go_wp2_with fail
     generalize wr.alloc (.cells #[.int .i64 id, .int .i64 c] 131) = wB at *
     refine CF.out.mono ?_
     rintro e wq ⟨rfl, bq⟩
     have DQ := Lib.hid (bT DP.out bq)
     have KX : Hid (∀ W, Below wq.heap.size wq W → wr.heap.size < W.heap.size ∧ W.cell? ⟨wr.heap.size, 0, none⟩ = some (.int .i64 id) ∧ W.cell? ⟨wr.heap.size, 1, none⟩ = some (.int .i64 c)) := fun W hW => by
      have hb : W.heap[wr.heap.size]? = some (.cells #[.int .i64 id, .int .i64 c] 131) := (hW.block _ (by have := (Array.getElem?_eq_some_iff.1 NP.out).1; have := bq.size; omega)).trans ((bq.block _ (Array.getElem?_eq_some_iff.1 NP.out).1).trans NP.out)
      exact ⟨(Array.getElem?_eq_some_iff.1 hb).1, by simp [World.cell?, hb], by simp [World.cell?, hb]⟩
     clear bq CF
     go_wp2_with fail
     refine wp_region_held_drew (S := fun W => wr.heap.size < W.heap.size ∧ W.cell? ⟨wr.heap.size, 0, none⟩ = some (.int .i64 id) ∧ W.cell? ⟨wr.heap.size, 1, none⟩ = some (.int .i64 c)) (by kernel_rfl) ?_ (fun hHeld => ?_)
     ·exact KX.out _ (Below.refl _ _).drew
     refine tw (i := 0) rfl ?_
     refine tw (i := 2) rfl ?_
     refine tw (i := 3) rfl ?_
     try simp only [Act.put, List.setIfInBounds_toArray, List.set_cons_zero, List.set_cons_succ, List.getElem_toArray, List.getElem_cons_succ, List.getElem_cons_zero]
     refine wpAnyH_ready (rs := [1, 4]) (by kernel_rfl) (by simp) ?_
     refine AllReadyH.cons rfl (fun K hK => ?_) (AllReadyH.cons rfl (fun K hK => ?_) AllReadyH.nil)
     ·go_simp
      go_wp2_with (go_at_call 121; refine (CL.out _ DQ.out.drew).mono ?_; rintro e w7 ⟨v7, rfl, o7, b7⟩)
      have F7 : Hid (Below wq.heap.size wq w7) := bT ((Below.refl wq.heap.size wq).drew) b7
      have O7 : Hid (w7.ownsRow wq.heap.size 131 2 v7 pn (enCells pl)) := o7
      clear o7 b7
      refine hK.out _ _ ?_ (fun hHeld => ?_)
      ·exact KX.out _ F7.out
      clear hK K
      refine wpAnyH_ready (rs := [4]) (by kernel_rfl) (by simp) ?_
      refine AllReadyH.cons rfl (fun K hK => ?_) AllReadyH.nil
      go_simp
      have F8 := Lib.hid (bT F7.out (bA0 w7 (.cells #[.int .i64 id, .int .i64 c] 131)))
      refine hK.out _ _ ?_ (fun hHeld => ?_)
      ·exact KX.out _ F8.out
      clear hK K
      have IN := Lib.hid (INS.out wq.heap.size w7.heap.size c v7 (w7.alloc (.cells #[.int .i64 id, .int .i64 c] 131)) (O7.out.alloc _) (by have := F8.out.size; omega) (new_at _ _) (fun e => by have := (O7.out.lt _ e).2; omega))
      obtain ⟨BB, hBB, hBw⟩ : ∃ BB, BB = wq.heap.size ∧ w.heap.size ≤ BB := ⟨_, rfl, by have := DQ.out.size; omega⟩
      rw [← hBB] at IN
      have FX := Lib.hid (show ∀ W, Below BB (w7.alloc (.cells #[.int .i64 id, .int .i64 c] 131)) W → Below wq.heap.size wq W from fun W h => F8.out.trans (by rw [← hBB]; exact h))
      have BL := Lib.hid (show ∀ W, Below BB (w7.alloc (.cells #[.int .i64 id, .int .i64 c] 131)) W → Below w.heap.size w W from fun W h => bT DQ.out (FX.out W h))
      obtain ⟨s7, k7, rfl⟩ := own_v O7.out
      refine wpAnyH_ready (rs := [5]) (by kernel_rfl) (by simp) ?_
      refine AllReadyH.cons rfl (fun K hK => ?_) AllReadyH.nil
      go_simp
      go_wp2_with (go_at_call 183; refine IN.out.mono ?_; rintro e w9 ⟨v9, rfl, o9, b9⟩)
      have F9 := Lib.hid (FX.out w9 b9)
      have O9 := Lib.hid (own_mono o9 (show w.heap.size ≤ BB by omega))
      have G9 := Lib.hid (BL.out w9 b9)
      clear o9 b9 IN
      refine hK.out _ _ ?_ (fun hHeld => ?_)
      ·exact KX.out _ F9.out
      clear hK K
      refine tw (i := 6) rfl ?_
      try simp only [Act.put, List.setIfInBounds_toArray, List.set_cons_zero, List.set_cons_succ, List.getElem_toArray, List.getElem_cons_succ, List.getElem_cons_zero]
      refine wpAnyH_done (by kernel_rfl) ?_ _
      go_wp2
      go_ret
      exact ⟨_, rfl, by rw [ER.out]; show World.ownsRow _ _ _ _ _ (withL pl (id, c)).length _; rw [PN.out c, WC.out]; exact O9.out, G9.out⟩
     ·go_simp
      have F7 : Hid (Below wq.heap.size wq (wq.alloc (.cells #[.int .i64 id, .int .i64 c] 131)).drew) := ((Below.refl wq.heap.size wq).alloc (Nat.le_refl _) (.cells #[.int .i64 id, .int .i64 c] 131)).drew
      refine hK.out _ _ ?_ (fun hHeld => ?_)
      ·exact KX.out _ F7.out
      clear hK K
      refine wpAnyH_ready (rs := [1]) (by kernel_rfl) (by simp) ?_
      refine AllReadyH.cons rfl (fun K hK => ?_) AllReadyH.nil
      go_simp
      go_wp2_with (go_at_call 121; refine (CL.out _ (bT DQ.out F7.out)).mono ?_; rintro e w8 ⟨v7, rfl, o7, b7⟩)
      have F8 : Hid (Below wq.heap.size wq w8) := bT F7.out b7
      have o7' : w8.ownsRow (wq.heap.size + 1) 131 2 v7 pn (enCells pl) := by simpa using o7
      have O7 := Lib.hid o7'
      clear o7'
      have N8 : Hid (w8.heap[wq.heap.size]? = some (.cells #[.int .i64 id, .int .i64 c] 131)) := (b7.block wq.heap.size (by simp)).trans (new_at wq _)
      clear o7 b7
      refine hK.out _ _ ?_ (fun hHeld => ?_)
      ·exact KX.out _ F8.out
      clear hK K
      have IN := Lib.hid (INS.out (wq.heap.size + 1) wq.heap.size c v7 w8 O7.out (by have := (Array.getElem?_eq_some_iff.1 N8.out).1; omega) N8.out (fun e => by have := (O7.out.lt _ e).1; omega))
      obtain ⟨BB, hBB, hBw⟩ : ∃ BB, BB = wq.heap.size + 1 ∧ w.heap.size ≤ BB := ⟨_, rfl, by have := DQ.out.size; omega⟩
      rw [← hBB] at IN
      have FX := Lib.hid (show ∀ W, Below BB w8 W → Below wq.heap.size wq W from fun W h => F8.out.trans (h.mono (by omega)))
      have BL := Lib.hid (show ∀ W, Below BB w8 W → Below w.heap.size w W from fun W h => bT DQ.out (FX.out W h))
      obtain ⟨s7, k7, rfl⟩ := own_v O7.out
      refine wpAnyH_ready (rs := [5]) (by kernel_rfl) (by simp) ?_
      refine AllReadyH.cons rfl (fun K hK => ?_) AllReadyH.nil
      go_simp
      go_wp2_with (go_at_call 183; refine IN.out.mono ?_; rintro e w9 ⟨v9, rfl, o9, b9⟩)
      have F9 := Lib.hid (FX.out w9 b9)
      have O9 := Lib.hid (own_mono o9 (show w.heap.size ≤ BB by omega))
      have G9 := Lib.hid (BL.out w9 b9)
      clear o9 b9 IN
      refine hK.out _ _ ?_ (fun hHeld => ?_)
      ·exact KX.out _ F9.out
      clear hK K
      refine tw (i := 6) rfl ?_
      try simp only [Act.put, List.setIfInBounds_toArray, List.set_cons_zero, List.set_cons_succ, List.getElem_toArray, List.getElem_cons_succ, List.getElem_cons_zero]
      refine wpAnyH_done (by kernel_rfl) ?_ _
      go_wp2
      go_ret
      exact ⟨_, rfl, by rw [ER.out]; show World.ownsRow _ _ _ _ _ (withL pl (id, c)).length _; rw [PN.out c, WC.out]; exact O9.out, G9.out⟩
    ·have ER := Lib.hid (show addL ps pl id (ds.drop (k + 1)) = R by rw [← HA.out, ASK.out, if_neg hf])
     have hf' : fitB ps pl (id, c) = false := by simpa using hf
     rw [hf'] at CF
     clear ASK HA AS AE NP
     go_wp2_with fail
     refine CF.out.mono ?_
     rintro e wq ⟨rfl, bq⟩
     have BQ := Lib.hid (bT HB.out (bT BP.out bq))
     clear bq CF BP DP
     go_wp2
     go_roundw
     case rel => exact ⟨k + 1, by go_num, by omega, ER, BQ⟩
     case measure => simp [intOf]; omega
   ·have h1' : ¬ (k : Int) < (dn : Int) := by omega
    have ER := Lib.hid (show R = [] by rw [← HA.out]; exact AE.out k (by omega))
    have DW := Lib.hid (bT D5.out HB.out)
    clear AS AE HA
    go_wp2
    go_ret
    exact ⟨_, rfl, by rw [ER.out]; exact ⟨rfl, .inl ⟨rfl, rfl⟩⟩, DW.out⟩
 ·rw [addA_no (fun g => c1 g.1)]
  have c1' : planB rs ps top pl = false := by simpa using c1
  rw [c1'] at E1
  clear hz hp hw hi c1 c1' hn hl HT
  generalize rs.length = rn at *
  generalize ps.length = pq at *
  generalize pl.length = pn at *
  go_enter Tryz.func149, Tryz.ntmps149
  go_wp2_with fail
  refine E1.out.mono ?_
  rintro e w1 ⟨rfl, b1⟩
  have D1 := Lib.hid (bT B0.out b1)
  clear b1 E1 B0
  go_wp2
  go_ret
  exact ⟨_, rfl, ⟨rfl, .inl ⟨rfl, rfl⟩⟩, D1.out⟩
end Go.Proofs.YtnihhbfgbilimaaGreatDoor
