/-
  CLAUSES MARKED, and what stays: blocks of another kind.
  HOW MANY CLAUSES a table has, and how long they are; tables that differ in their slices only.
-/
import Derived.Test.YtdmfljejlhlbnaaWna
import Derived.Test.YtdmfljejlhlbnaaUg
import Derived.Test.YtdmfljejlhlbnaaPf
namespace Go.Proofs.Ytdmfljejlhlbnaa
open Go.RowKit
set_option linter.unusedVariables false

/-- Blocks of another kind than numbers' stay. -/
def KeepT (w w' : World) : Prop := ∀ (b : Nat) (us : Array Value) (t : TypeId), t ≠ 2 → w.heap[b]? = some (.cells us t) → w'.heap[b]? = some (.cells us t)
theorem KeepT.refl (w : World) : KeepT w w := fun _ _ _ _ h => h
theorem KeepT.trans {u v w : World} (h : KeepT u v) (k : KeepT v w) : KeepT u w := fun b us t ht g => k b us t ht (h b us t ht g)
theorem KeepT.below {w w' : World} (h : Below w.heap.size w w') : KeepT w w' := fun b us t _ g => (h.block b (Array.getElem?_eq_some_iff.1 g).1).trans g
theorem KeepT.row {w w' : World} {B : Nat} {v : Value} {n : Nat} {xs : List Value} (h : w.ownsRow B 2 1 v n xs) (hg : w.grownBy w' v.ownBlock) : KeepT w w' := fun b us t ht g => by
  refine (hg.block b (Array.getElem?_eq_some_iff.1 g).1 (fun e => ?_)).trans g
  obtain ⟨c, hc⟩ := own_kind h e.symm
  rw [g] at hc
  simp at hc
  exact ht hc.2

set_option maxRecDepth 100000 in
set_option maxHeartbeats 2000000 in
/-- markInt64SS. -/
theorem mkLK_any (B : Nat) (v : Value) (cs : List LCl) (k : Int) (w : World) (hn : cs.length ≤ 100000000) (hr : ∀ r ∈ cs, r.2.length ≤ 1048576) (ht : totC cs ≤ 500000000) (k0 : 0 ≤ k) (k1 : k ≤ 1000) (hB : B ≤ w.heap.size) (h : OwC w B v cs) :
    Calls Try.prog 117 #[v, .int .i64 k] w fun e w' => e = .returned (.int .i64 (k + (totC cs : Int))) ∧ OwC w' B v (mkC k cs) ∧ Below B w w' ∧ KeepT w w' := by
  have O0 := Lib.hid h
  have HR := Lib.hid hr
  have TL := Lib.hid (fun i => totC_le cs i)
  obtain ⟨sl, cap, rfl⟩ := h.v
  clear h hr
  generalize hN : cs.length = n at *
  have HN := Lib.hid hN
  clear hN
  go_enter Try.func117, Try.ntmps117
  go_wp2
  go_loopw [1, 5] (fun a i wr => ∃ j : Nat, i = .int .i64 j ∧ j ≤ n ∧ a = .int .i64 (k + (totC (cs.take j) : Int)) ∧ Hid (OwC wr B (.slice sl n cap) (mkC k (cs.take j) ++ cs.drop j)) ∧ Hid (Below B w wr) ∧ Hid (KeepT w wr)) (fun _ i _ => n - (intOf i).toNat)
  case atStart => exact ⟨0, rfl, Nat.zero_le _, by simp [totC], O0, Below.refl _ _, KeepT.refl _⟩
  case round =>
    obtain ⟨j, rfl, hj, rfl, OC, HB, HK⟩ := hrel
    have hj0 : (0 : Int) ≤ (j : Int) := by omega
    by_cases g1 : j < n
    · have g1' : (j : Int) < (n : Int) := by omega
      have hlt : j < cs.length := by rw [HN.out]; exact g1
      have ed : cs.drop j = cs[j] :: cs.drop (j + 1) := (List.getElem_cons_drop (h := hlt)).symm
      have oc := OC.out
      rw [ed] at oc
      have ro := oc.each cs[j] (List.mem_append_right _ (List.mem_cons_self ..))
      have ll : (mkC k (cs.take j) ++ cs[j] :: cs.drop (j + 1)).length = n := by rw [← ed, List.length_append, mkC_len, List.length_take, List.length_drop, HN.out]; omega
      have la : (mkC k (cs.take j)).length = j := by rw [mkC_len, List.length_take]; omega
      obtain ⟨s9, c9, e9, CL⟩ := oc.cls
      have hl2 : j < (mkC k (cs.take j) ++ cs[j] :: cs.drop (j + 1)).length := by rw [ll]; exact g1
      obtain ⟨c, o, rfl, cl, hcs⟩ := CL.at hl2
      obtain rfl : sl = some ⟨c, o, none⟩ := by cases e9; rfl
      have hc := hcs j hl2
      have eg : (mkC k (cs.take j) ++ cs[j] :: cs.drop (j + 1))[j]'hl2 = cs[j] := by
        rw [List.getElem_append_right (by omega)]
        simp [la]
      rw [eg] at hc
      have tb := TL.out j
      have T1 := Lib.hid (totC_take cs j hlt)
      have EM := Lib.hid (mark_row B cs[j].1 cs[j].2 (k + (totC (cs.take j) : Int)) (HR.out cs[j] (List.getElem_mem hlt)) (by omega) (by omega) wr ro)
      have NX : Hid (∀ W, W.ownsRow B 2 1 cs[j].1 cs[j].2.length (valsZ (marks (k + (totC (cs.take j) : Int)) cs[j].2.length)) → wr.grownBy W cs[j].1.ownBlock → OwC W B (.slice (some ⟨c, o, none⟩) n cap) (mkC k (cs.take (j + 1)) ++ cs.drop (j + 1))) := fun W h1 h2 => by
        rw [mkC_step cs k j hlt, List.append_assoc]
        exact oc.over h2 (marks_len _ _) (by rw [marks_len]; exact h1)
      have KR := Lib.hid (show ∀ W, wr.grownBy W cs[j].1.ownBlock → KeepT wr W from fun W h => KeepT.row ro h)
      have RB := Lib.hid (show ∀ b, cs[j].1.ownBlock = some b → B ≤ b from fun b hb => (ro.lt b hb).1)
      obtain ⟨s1, k1', v1⟩ := own_v ro
      rw [v1] at hc EM NX RB KR
      clear ed oc ro ll la CL e9 hl2 hcs eg OC v1
      generalize cs[j].2.length = q at *
      clear hlt
      generalize totC (cs.take j) = tj at *
      have hws := HB.out.size
      go_wp2_with fail
      refine EM.out.mono ?_
      rintro e w5 ⟨rfl, o5, gr5⟩
      have O5 := Lib.hid (NX.out w5 o5 gr5)
      have B5 := Lib.hid (HB.out.grown gr5 (by omega) (fun b hb => RB.out b hb))
      have K5 := Lib.hid (HK.out.trans (KR.out w5 gr5))
      clear o5 gr5 EM NX RB HB HK KR
      go_wp2
      go_roundw
      case rel => exact ⟨j + 1, by go_num, by omega, (by rw [T1.out]; congr 1; push_cast; omega), O5, B5, K5⟩
      case measure => simp [intOf]; omega
    · have g1' : ¬ (j : Int) < (n : Int) := by omega
      have et : cs.take j = cs := List.take_of_length_le (by rw [HN.out]; omega)
      have ed : cs.drop j = [] := List.drop_of_length_le (by rw [HN.out]; omega)
      have P : Hid (OwC wr B (.slice sl n cap) (mkC k cs)) := by have := OC.out; rw [et, ed, List.append_nil] at this; exact this
      rw [et]
      clear OC et ed
      go_wp2
      go_ret
      exact ⟨rfl, P.out, HB.out, HK.out⟩

set_option maxRecDepth 100000 in
set_option maxHeartbeats 1000000 in
/-- markCnf. -/
theorem mkCnK_any (B : Nat) (nv : Int) (v : Value) (cs : List LCl) (k : Int) (w : World) (hn : cs.length ≤ 100000000) (hr : ∀ r ∈ cs, r.2.length ≤ 1048576) (ht : totC cs ≤ 500000000) (k0 : 0 ≤ k) (k1 : k ≤ 1000) (hB : B ≤ w.heap.size) (h : OwC w B v cs) :
    Calls Try.prog 57 #[.agg #[.int .i64 nv, v], .int .i64 k] w fun e w' => e = .returned (.int .i64 (k + (totC cs : Int))) ∧ OwC w' B v (mkC k cs) ∧ Below B w w' ∧ KeepT w w' := by
  have E := Lib.hid (mkLK_any B v cs k (w.alloc (.cells #[.int .i64 nv, v] 45)) hn hr ht k0 k1 (by simp; omega) (h.below (bA0 _ _)))
  have B0 := Lib.hid ((bA0 w (.cells #[.int .i64 nv, v] 45)).mono hB)
  have K0 := Lib.hid (KeepT.below (bA0 w (.cells #[.int .i64 nv, v] 45)))
  obtain ⟨sl, cap, rfl⟩ := h.v
  have ht0 : (0 : Int) ≤ (totC cs : Int) := by omega
  clear h hr
  generalize totC cs = t at *
  generalize cs.length = n at *
  go_enter Try.func57, Try.ntmps57
  go_wp2_with fail
  refine E.out.mono ?_
  rintro e w1 ⟨rfl, o1, b1, k1'⟩
  have O1 := Lib.hid o1
  have B1 := Lib.hid (B0.out.trans b1)
  have K1 := Lib.hid (K0.out.trans k1')
  clear o1 b1 E k1'
  go_wp2
  go_ret
  exact ⟨rfl, O1.out, B1.out, K1.out⟩
end Go.Proofs.Ytdmfljejlhlbnaa
namespace Go.Proofs.Ytdmfljejlhlbnaa
open Go.RowKit
set_option linter.unusedVariables false

theorem nodup_len : ∀ (l m : List Int), l.Nodup → (∀ x ∈ l, x ∈ m) → l.length ≤ m.length := by
  intro l
  induction l with
  | nil => intro m _ _; exact Nat.zero_le _
  | cons x l ih =>
    intro m hn hm
    have h2 := List.nodup_cons.1 hn
    have hx := hm x (by simp)
    have := ih (m.erase x) h2.2 (fun y hy => (List.mem_erase_of_ne (show y ≠ x from fun e => h2.1 (by rw [← e]; exact hy))).2 (hm y (by simp [hy])))
    rw [List.length_erase_of_mem hx] at this
    have hp : 0 < m.length := List.length_pos_of_mem hx
    simp only [List.length_cons]
    omega
theorem fm_len {α β : Type} (f : α → List β) (m : Nat) : ∀ l : List α, (∀ x ∈ l, (f x).length ≤ m) → (l.flatMap f).length ≤ l.length * m := by
  intro l
  induction l with
  | nil => intro _; simp
  | cons x l ih =>
    intro h
    have h1 := h x (by simp)
    have h2 := ih (fun y hy => h y (by simp [hy]))
    rw [List.flatMap_cons, List.length_append, List.length_cons, Nat.add_mul]
    omega
theorem twoF_two (zs : List Int) : ∀ l ∈ twoF zs, l.length = 2 := by
  induction zs with
  | nil => intro l h; cases h
  | cons x r ih =>
    intro l h
    rw [twoF] at h
    rcases List.mem_append.1 h with h | h
    · obtain ⟨y, _, rfl⟩ := List.mem_map.1 h; rfl
    · exact ih l h
theorem besF_two (ps : List LPr) (A C : List LNb) : ∀ l ∈ besF ps A C, l.length = 2 := by
  intro l h
  unfold besF at h
  obtain ⟨x, _, h⟩ := List.mem_flatMap.1 h
  obtain ⟨y, _, h⟩ := List.mem_flatMap.1 h
  split at h
  · cases h
  · rw [List.mem_singleton.1 h]; rfl
theorem besF_len (ps : List LPr) (A C : List LNb) (ha : A.length ≤ 96) (hc : C.length ≤ 96) : (besF ps A C).length ≤ 9216 := by
  unfold besF
  have := fm_len (fun x : LNb => C.flatMap fun y => if mayL ps x.1.1 x.1.2 y.1.1 y.1.2 = true then [] else [[-x.2, -y.2]]) (96 * 1) A (fun x _ => by
    have := fm_len (fun y : LNb => if mayL ps x.1.1 x.1.2 y.1.1 y.1.2 = true then [] else [[-x.2, -y.2]]) 1 C (fun y _ => by split <;> simp)
    omega)
  have h2 : A.length * (96 * 1) ≤ 96 * 96 := Nat.mul_le_mul ha (by omega)
  omega
theorem nbs_mem (rs : List LSt) (ps : List LPr) (top : Int) (h : TabR rs ps) : ∀ (ids : List Int) (last : Int), ∀ b ∈ nbsF last (ids.map (chF rs top)), b.length ≤ 96 := by
  intro ids
  induction ids with
  | nil => intro _ b hb; cases hb
  | cons id ids ih =>
    intro last b hb
    rw [List.map_cons, nbsF] at hb
    rcases List.mem_cons.1 hb with rfl | hb
    · rw [nbF_len]; unfold chF; rw [List.length_map]; exact dom_le rs ps id top h
    · exact ih _ b hb
theorem getD_96 {bs : List (List LNb)} (h : ∀ b ∈ bs, b.length ≤ 96) (i : Nat) : (bs.getD i []).length ≤ 96 := by
  by_cases hi : i < bs.length
  · rw [show bs.getD i [] = bs[i] by simp [List.getD, hi]]; exact h _ (List.getElem_mem hi)
  · rw [show bs.getD i [] = [] by simp [List.getD, Nat.not_lt.1 hi]]; simp
theorem idsR_12 {rs : List LSt} {ps : List LPr} {ids : List Int} (h : IdsR rs ps ids) : ids.length ≤ 12 := by
  have := nodup_len ids (idsL rs) (rises_nodup (idsR_rise h)) h.2.2.2
  rw [idsL_len] at this
  have := h.2.1.1.2.1
  omega
theorem cnA_each (rs : List LSt) (ps : List LPr) (top : Int) (ids : List Int) : ∀ l ∈ cnA rs ps top ids, l.length ≤ 96 := by
  intro l hl
  unfold cnA at hl
  split at hl
  · rename_i hb
    have IR := B_true hb
    have hbs := nbs_mem rs ps top IR.2.1 ids 0
    unfold cnfI at hl
    rcases List.mem_append.1 hl with hl | hl
    · obtain ⟨b, hb, rfl⟩ := List.mem_map.1 hl
      rw [List.length_map]; exact hbs b hb
    · rcases List.mem_append.1 hl with hl | hl
      · obtain ⟨b, _, hl⟩ := List.mem_flatMap.1 hl
        rw [twoF_two _ l hl]; omega
      · obtain ⟨p, _, hl⟩ := List.mem_flatMap.1 hl
        unfold besI at hl
        split at hl
        · rw [besF_two _ _ _ l hl]; omega
        · cases hl
  · cases hl
theorem cnA_len (rs : List LSt) (ps : List LPr) (top : Int) (ids : List Int) : (cnA rs ps top ids).length ≤ 1048576 := by
  unfold cnA
  split
  · rename_i hb
    have IR := B_true hb
    have hbs := nbs_mem rs ps top IR.2.1 ids 0
    have h12 := idsR_12 IR
    have h40 : ps.length ≤ 40 := IR.2.1.1.2.2
    unfold cnfI
    have hl : (nbsF 0 (ids.map (chF rs top))).length = ids.length := by rw [nbsF_len, List.length_map]
    have h1 := fm_len (fun b : List LNb => twoF (b.map fun e => e.2)) 9216 (nbsF 0 (ids.map (chF rs top))) (fun b hb => by
      have := twoF_len (b.map fun e => e.2)
      rw [List.length_map] at this
      have h2 : b.length * b.length ≤ 96 * 96 := Nat.mul_le_mul (hbs b hb) (hbs b hb)
      omega)
    have h2 := fm_len (besI ps ids (nbsF 0 (ids.map (chF rs top)))) 9216 ps (fun p _ => by
      unfold besI
      split
      · exact besF_len ps _ _ (getD_96 hbs _) (getD_96 hbs _)
      · simp)
    rw [hl] at h1
    rw [List.length_append, List.length_append, List.length_map, hl]
    omega
  · simp
theorem totC_96 (cs : List LCl) (h : ∀ r ∈ cs, r.2.length ≤ 96) : totC cs ≤ cs.length * 96 := by
  induction cs with
  | nil => simp [totC]
  | cons r t ih =>
    have h1 := h r (by simp)
    have h2 := ih (fun s hs => h s (by simp [hs]))
    rw [show totC (r :: t) = r.2.length + totC t by simp [totC], List.length_cons, Nat.add_mul]
    omega
theorem cnA_bare {rs rs' : List LSt} (ps : List LPr) (top : Int) (ids : List Int) (h : bareS rs = bareS rs') : cnA rs ps top ids = cnA rs' ps top ids := by
  unfold cnA
  rw [BIds ps ids h, show chF rs top = chF rs' top from funext fun id => by unfold chF; rw [flat_bare id top rs rs' h]]
theorem cnN_bare {rs rs' : List LSt} (ps : List LPr) (top : Int) (ids : List Int) (h : bareS rs = bareS rs') : cnN rs ps top ids = cnN rs' ps top ids := by
  unfold cnN
  rw [BIds ps ids h, plF_bare top ids h]
end Go.Proofs.Ytdmfljejlhlbnaa
