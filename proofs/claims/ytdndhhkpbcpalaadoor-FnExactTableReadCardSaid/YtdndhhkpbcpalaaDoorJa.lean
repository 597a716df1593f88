/-
  A TABLE'S LINE, READ: the program's reading and the model's, as lists, are the same.
-/
import Derived.Test.YtdndhhkpbcpalaaDoorFc
import Derived.Test.YtdndhhkpbcpalaaDoorAf
namespace Go.Proofs.YtdndhhkpbcpalaaDoor
open Go.RowKit
set_option linter.unusedVariables false

theorem itoa_len (n : Int) (h : -1000000000000000 < n ∧ n < 1000000000000000) : (Lib.itoa n).length ≤ 16 := by
  unfold Lib.itoa
  split
  · simp only [List.length_cons]
    have := dec_len15 n.natAbs (by omega)
    omega
  · have := dec_len15 n.toNat (by omega)
    omega
theorem itoa_not (x : Int) (c : UInt8) (hc : isDig c = false) (h45 : c ≠ 45) : c ∉ Lib.itoa x := by
  have hd : ∀ u, c ∉ Lib.decDigits u := fun u hm => by
    have := List.all_eq_true.1 (dec_dig u u (Nat.le_refl _)) c hm
    rw [hc] at this; cases this
  by_cases h : x < 0
  · rw [itoa_neg h]
    intro hm
    rcases List.mem_cons.1 hm with e | hm
    · exact h45 e
    · exact hd _ hm
  · rw [itoa_pos h]; exact hd _

/-- Words behind a blank each. -/
def tailW (ws : List (List UInt8)) : List UInt8 := ws.flatMap fun t => 32 :: t
theorem spF_join : ∀ (n : Nat) (t : List UInt8), t.length = n → match splitL 32 t with | [] => False | x :: r => t = x ++ tailW r := by
  intro n
  induction n with
  | zero => intro t ht; rw [List.eq_nil_of_length_eq_zero ht]; simp [splitL, spF, tailW]
  | succ n ih =>
    intro t ht
    rcases List.eq_nil_or_concat t with rfl | ⟨t', b, rfl⟩
    · simp at ht
    rw [List.concat_eq_append] at *
    have h := ih t' (by simpa using ht)
    unfold splitL at h ⊢
    rw [spF_snoc]
    generalize spF 32 t' = s at *
    obtain ⟨ws, cur⟩ := s
    unfold spS
    by_cases hb : b = 32
    · subst hb
      cases ws with
      | nil => simp [tailW] at h ⊢; exact h
      | cons x r => simp [tailW] at h ⊢; rw [h]; simp
    · cases ws with
      | nil => simp [hb, tailW] at h ⊢; exact h
      | cons x r => simp [hb, tailW] at h ⊢; rw [h]; simp
theorem split_join {l x : List UInt8} {r : List (List UInt8)} (h : splitL 32 l = x :: r) : l = x ++ tailW r := by
  have := spF_join l.length l rfl
  rw [h] at this
  exact this
theorem split_words : ∀ (ws : List (List UInt8)) (x : List UInt8), (32 : UInt8) ∉ x → (∀ t ∈ ws, (32 : UInt8) ∉ t) → splitL 32 (x ++ tailW ws) = x :: ws := by
  intro ws
  induction ws with
  | nil => intro x hx _; simp [tailW]; exact split_one 32 x hx
  | cons t r ih =>
    intro x hx hr
    have e : x ++ tailW (t :: r) = x ++ 32 :: (t ++ tailW r) := by simp [tailW]
    rw [e, split_cons 32 x _ hx, ih t (hr t (List.mem_cons_self ..)) (fun u hu => hr u (List.mem_cons_of_mem _ hu))]

/-! ### numbers as the program reads them -/
def dgS (s : Int) (b : UInt8) : Int := if isDig b then 10 * s + ((b.toNat : Int) - 48) else s
def digv (l : List UInt8) : Int := l.foldl dgS 0
def numI (t : List UInt8) : Bool := decide (t.length ≤ 13) && (Lib.itoa (digv t) == t)
theorem digv_dv (l : List UInt8) : ∀ s : Int, l.all isDig = true → l.foldl dgS s = l.foldl dvS s := by
  induction l with
  | nil => intro s _; rfl
  | cons b l ih =>
    intro s h
    rw [List.all_cons, Bool.and_eq_true] at h
    show l.foldl dgS (dgS s b) = l.foldl dvS (dvS s b)
    rw [show dgS s b = dvS s b by unfold dgS dvS; rw [if_pos h.1]]
    exact ih _ h.2
theorem digv_itoa (n : Int) (h : 0 ≤ n) : digv (Lib.itoa n) = n := by
  rw [itoa_pos (by omega)]
  unfold digv
  rw [digv_dv _ _ (dec_dig n.toNat n.toNat (Nat.le_refl _))]
  have := dv_dec n.toNat n.toNat (Nat.le_refl _)
  unfold dv at this
  omega
theorem digv_bd (l : List UInt8) : 0 ≤ digv l ∧ digv l < 10 ^ l.length := by
  have key : ∀ (l : List UInt8) (s : Int) (k : Nat), 0 ≤ s → s < 10 ^ k → 0 ≤ l.foldl dgS s ∧ l.foldl dgS s < 10 ^ (k + l.length) := by
    intro l
    induction l with
    | nil => intro s k h0 h1; exact ⟨h0, h1⟩
    | cons b l ih =>
      intro s k h0 h1
      have hp : (10 : Int) ^ (k + 1) = 10 * 10 ^ k := by rw [Int.pow_succ]; omega
      have hh : 0 ≤ dgS s b ∧ dgS s b < 10 ^ (k + 1) := by
        unfold dgS
        split
        · rename_i hd
          unfold isDig at hd
          simp at hd
          omega
        · omega
      have := ih (dgS s b) (k + 1) hh.1 hh.2
      simpa [Nat.add_assoc, Nat.add_comm 1] using this
  have := key l 0 0 (by omega) (by decide)
  simpa [digv] using this
theorem numI_yes {t : List UInt8} (h : numI t = true) : Lib.itoa (digv t) = t ∧ 0 ≤ digv t ∧ numV t = digv t := by
  unfold numI at h
  rw [Bool.and_eq_true, decide_eq_true_eq, beq_iff_eq] at h
  have hb := digv_bd t
  have hp : (10 : Int) ^ t.length ≤ 10 ^ 13 := by
    have h2 : 10 ^ t.length ≤ 10 ^ 13 := Nat.pow_le_pow_right (by decide) h.1
    have h3 : ((10 ^ t.length : Nat) : Int) ≤ ((10 ^ 13 : Nat) : Int) := Int.ofNat_le.2 h2
    have e : ((10 ^ t.length : Nat) : Int) = (10 : Int) ^ t.length := by simp
    rw [← e]; exact h3
  have h13 : (10 : Int) ^ 13 = 10000000000000 := by decide
  refine ⟨h.2, hb.1, ?_⟩
  have := (num_itoa (digv t) ⟨by omega, by omega⟩).2
  rwa [h.2] at this
theorem dec_l13 (u : Nat) (h : u ≤ 1000000000000) : (Lib.decDigits u).length ≤ 13 := by
  by_cases h1 : 1 ≤ u
  · have := dec_lo u u (Nat.le_refl _) h1
    by_cases hl : (Lib.decDigits u).length ≤ 13
    · exact hl
    · have h2 : 10 ^ 13 ≤ 10 ^ ((Lib.decDigits u).length - 1) := Nat.pow_le_pow_right (by decide) (by omega)
      omega
  · have : u = 0 := by omega
    subst this
    have h0 := dec_len15 0 (by omega)
    rw [show Lib.decDigits 0 = [48] by unfold Lib.decDigits; rfl]
    decide
theorem numI_itoa {v : Int} (h : 0 ≤ v ∧ v ≤ 1000) : numI (Lib.itoa v) = true := by
  unfold numI
  rw [digv_itoa v h.1]
  have := itoa_len v ⟨by omega, by omega⟩
  have hl : (Lib.itoa v).length ≤ 13 := by
    rw [itoa_pos (by omega)]
    exact dec_l13 v.toNat (by omega)
  simp [hl]
/-! ### a line -/
abbrev BSt := Int × Int × List Int
def toLS (b : BSt) : LSt := (b.1, b.2.1, .slice none 0 0, b.2.2)
/-- A table of bare stations is right. -/
def TabB (bs : List BSt) (ps : List LPr) : Prop := TabR (bs.map toLS) ps
def staW : List UInt8 := [115, 116, 97, 116, 105, 111, 110]
def samW : List UInt8 := [115, 97, 109, 101]
def besW : List UInt8 := [98, 101, 115, 105, 100, 101]
def kindW (w : List UInt8) : Int := if w = besW then 2 else 1
def numsT (zs : List Int) : List UInt8 := tailW (zs.map Lib.itoa)
/-- The model's reading of a line. -/
noncomputable def lineM (bs : List BSt) (ps : List LPr) (l : List UInt8) : Option (List BSt × List LPr) :=
  let w := (splitL 32 l).headD []
  let n := (((splitL 32 l).drop 1).take 19).map numV
  if w = staW ∧ 2 ≤ n.length ∧ ps = [] then
    (if B (staW ++ numsT n = l ∧ TabB (bs ++ [(n.getD 0 0, n.getD 1 0, n.drop 2)]) ps) = true then some (bs ++ [(n.getD 0 0, n.getD 1 0, n.drop 2)], ps) else none)
  else if (w = samW ∨ w = besW) ∧ n.length = 2 then
    (if B (w ++ numsT n = l ∧ TabB bs (ps ++ [(n.getD 0 0, n.getD 1 0, kindW w)])) = true then some (bs, ps ++ [(n.getD 0 0, n.getD 1 0, kindW w)]) else none)
  else none
/-- The program's. -/
noncomputable def lineP (bs : List BSt) (ps : List LPr) (l : List UInt8) : Option (List BSt × List LPr) :=
  let w := (splitL 32 l).headD []
  let ws := (splitL 32 l).drop 1
  let z := ws.map digv
  if ws.all numI = true ∧ (w = staW ∨ w = samW ∨ w = besW) ∧ 2 ≤ z.length then
    (if w = staW then (if ps = [] ∧ B (TabB (bs ++ [(z.getD 0 0, z.getD 1 0, z.drop 2)]) ps) = true then some (bs ++ [(z.getD 0 0, z.getD 1 0, z.drop 2)], ps) else none)
     else if z.length = 2 ∧ B (TabB bs (ps ++ [(z.getD 0 0, z.getD 1 0, kindW w)])) = true then some (bs, ps ++ [(z.getD 0 0, z.getD 1 0, kindW w)]) else none)
  else none
theorem words_num {ws : List (List UInt8)} (h : ws.all numI = true) : (ws.map digv).map Lib.itoa = ws ∧ ws.map numV = ws.map digv := by
  rw [List.all_eq_true] at h
  refine ⟨?_, List.map_congr_left fun t ht => (numI_yes (h t ht)).2.2⟩
  rw [List.map_map]
  conv => rhs; rw [← List.map_id ws]
  exact List.map_congr_left fun t ht => (numI_yes (h t ht)).1
theorem small_num {zs : List Int} (h : ∀ z ∈ zs, 0 ≤ z ∧ z ≤ 1000) : (zs.map Lib.itoa).all numI = true ∧ (zs.map Lib.itoa).map digv = zs := by
  refine ⟨List.all_eq_true.2 fun t ht => ?_, ?_⟩
  · obtain ⟨z, hz, rfl⟩ := List.mem_map.1 ht
    exact numI_itoa (h z hz)
  · rw [List.map_map]
    conv => rhs; rw [← List.map_id zs]
    exact List.map_congr_left fun z hz => digv_itoa z (h z hz).1
theorem split_nums (w : List UInt8) (zs : List Int) (h : (32 : UInt8) ∉ w) : splitL 32 (w ++ numsT zs) = w :: zs.map Lib.itoa :=
  split_words _ w h fun t ht => by
    obtain ⟨z, _, rfl⟩ := List.mem_map.1 ht
    exact itoa_not z 32 (by decide) (by decide)
theorem rise_bd {lo hi : Int} {zs : List Int} (h : InRise lo hi zs) {z : Int} (hz : z ∈ zs) : lo ≤ z ∧ z ≤ hi := by
  obtain ⟨i, hi', rfl⟩ := List.getElem_of_mem hz
  have := (h i hi').1
  rwa [List.getD_eq_getElem?_getD, List.getElem?_eq_getElem hi', Option.getD_some] at this
theorem tabB_st {bs : List BSt} {ps : List LPr} (h : TabB bs ps) (b : BSt) (hb : b ∈ bs) : (1 ≤ b.1 ∧ b.1 ≤ 999) ∧ (1 ≤ b.2.1 ∧ b.2.1 ≤ 1000) ∧ b.2.2.length ≤ 8 ∧ ∀ z ∈ b.2.2, 2 ≤ z ∧ z ≤ 51 := by
  obtain ⟨hn, h1, h2, h3, h4⟩ := h
  have hm : toLS b ∈ bs.map toLS := List.mem_map.2 ⟨b, hb, rfl⟩
  have hi := rise_bd h2 (show b.1 ∈ idsL (bs.map toLS) from List.mem_map.2 ⟨toLS b, hm, rfl⟩)
  have ho := h1 _ hm
  exact ⟨hi, ho.1, ho.2.1.2, fun z hz => rise_bd ho.2.2 hz⟩
theorem tabB_pr {bs : List BSt} {ps : List LPr} (h : TabB bs ps) (p : LPr) (hp : p ∈ ps) : (1 ≤ p.1 ∧ p.1 ≤ 999) ∧ (1 ≤ p.2.1 ∧ p.2.1 ≤ 999) := by
  obtain ⟨hn, h1, h2, h3, h4⟩ := h
  have ho := h3 p hp
  exact ⟨rise_bd h2 ho.2.2.1, rise_bd h2 ho.2.2.2⟩
theorem two_split {zs : List Int} (h : 2 ≤ zs.length) : zs = zs.getD 0 0 :: zs.getD 1 0 :: zs.drop 2 := by
  match zs, h with
  | a :: b :: r, _ => rfl
theorem sta_small {bs : List BSt} {ps : List LPr} {zs : List Int} (h2 : 2 ≤ zs.length) (h : TabB (bs ++ [(zs.getD 0 0, zs.getD 1 0, zs.drop 2)]) ps) : zs.length ≤ 10 ∧ ∀ z ∈ zs, 0 ≤ z ∧ z ≤ 1000 := by
  have hs := tabB_st h _ (List.mem_append_right _ (List.mem_singleton.2 rfl))
  obtain ⟨a1, a2, a3, a4⟩ := hs
  dsimp only at a1 a2 a3 a4
  rw [two_split h2]
  refine ⟨by simp at a3 ⊢; omega, fun z hz => ?_⟩
  simp only [List.mem_cons] at hz
  rcases hz with rfl | rfl | hz
  · omega
  · omega
  · have := a4 z hz; omega
theorem pair_small {bs : List BSt} {ps : List LPr} {k : Int} {zs : List Int} (h2 : zs.length = 2) (h : TabB bs (ps ++ [(zs.getD 0 0, zs.getD 1 0, k)])) : ∀ z ∈ zs, 0 ≤ z ∧ z ≤ 1000 := by
  have hs := tabB_pr h _ (List.mem_append_right _ (List.mem_singleton.2 rfl))
  dsimp only at hs
  rw [two_split (show 2 ≤ zs.length by omega)]
  intro z hz
  simp only [List.mem_cons] at hz
  rcases hz with rfl | rfl | hz
  · omega
  · omega
  · rw [List.drop_of_length_le (by omega)] at hz; cases hz
theorem sta_blank : (32 : UInt8) ∉ staW := by decide
theorem sam_blank : (32 : UInt8) ∉ samW := by decide
theorem bes_blank : (32 : UInt8) ∉ besW := by decide
theorem L_pos {α : Type} {c : Prop} [Decidable c] {a b x : α} (h : c) (e : a = x) : (if c then a else b) = x := by rw [if_pos h]; exact e
theorem L_neg {α : Type} {c : Prop} [Decidable c] {a b x : α} (h : ¬ c) (e : b = x) : (if c then a else b) = x := by rw [if_neg h]; exact e
theorem R_pos {α : Type} {c : Prop} [Decidable c] {a b x : α} (h : c) (e : x = a) : x = (if c then a else b) := by rw [if_pos h]; exact e
theorem R_neg {α : Type} {c : Prop} [Decidable c] {a b x : α} (h : ¬ c) (e : x = b) : x = (if c then a else b) := by rw [if_neg h]; exact e
/-- Both read a line alike. -/
theorem line_same (bs : List BSt) (ps : List LPr) (l : List UInt8) : lineM bs ps l = lineP bs ps l := by
  unfold lineM lineP
  obtain ⟨w, ws, hsp⟩ : ∃ w ws, splitL 32 l = w :: ws := by
    have := (split_len 32 l).1
    match h : splitL 32 l, this with
    | w :: ws, _ => exact ⟨w, ws, rfl⟩
  have hl := split_join hsp
  simp only [hsp, List.headD_cons, List.drop_succ_cons, List.drop_zero]
  -- what the program's yes says of the words
  have up : ∀ x : List UInt8, ws.all numI = true → (ws.map digv).length ≤ 10 → (ws.take 19).map numV = ws.map digv ∧ w ++ numsT (ws.map digv) = l := by
    intro x ha h10
    have h := words_num ha
    rw [List.length_map] at h10
    rw [List.take_of_length_le (by omega)]
    exact ⟨h.2, by unfold numsT; rw [h.1]; exact hl.symm⟩
  -- what the model's yes says of the words
  have down : ∀ n : List Int, (32 : UInt8) ∉ w → w ++ numsT n = l → (∀ z ∈ n, 0 ≤ z ∧ z ≤ 1000) → ws.all numI = true ∧ ws.map digv = n := by
    intro n hw he hs
    have h := split_nums w n hw
    rw [he, hsp] at h
    have e : ws = n.map Lib.itoa := by injection h
    rw [e]
    exact small_num hs
  have lenn : ((ws.take 19).map numV).length = min 19 ws.length := by simp
  have lenz : (ws.map digv).length = ws.length := by simp
  by_cases hw : w = staW
  · subst hw
    have n1 : ¬ (staW = samW ∨ staW = besW) := by decide
    by_cases hp : ps = []
    · subst hp
      by_cases h2 : 2 ≤ ws.length
      · refine L_pos ⟨rfl, by omega, rfl⟩ ?_
        by_cases hA : ws.all numI = true
        · refine R_pos ⟨hA, .inl rfl, by omega⟩ (R_pos rfl ?_)
          by_cases hT : TabB (bs ++ [((ws.map digv).getD 0 0, (ws.map digv).getD 1 0, (ws.map digv).drop 2)]) []
          · have hs := sta_small (by omega) hT
            obtain ⟨e, e2⟩ := up [] hA hs.1
            rw [e]
            exact L_pos (B_yes ⟨e2, hT⟩) (R_pos ⟨rfl, B_yes hT⟩ rfl)
          · refine R_neg (fun h => hT (B_true h.2)) (L_neg (fun h => ?_) rfl)
            have hM := B_true h
            have hs := sta_small (by omega) hM.2
            obtain ⟨-, e⟩ := down _ sta_blank hM.1 hs.2
            rw [← e] at hM
            exact hT hM.2
        · refine R_neg (fun h => hA h.1) (L_neg (fun h => ?_) rfl)
          have hM := B_true h
          have hs := sta_small (by omega) hM.2
          exact hA (down _ sta_blank hM.1 hs.2).1
      · exact L_neg (fun h => h2 (by have := h.2.1; omega)) (L_neg (fun h => n1 h.1) (R_neg (fun h => h2 (by have := h.2.2; omega)) rfl))
    · refine L_neg (fun h => hp h.2.2) (L_neg (fun h => n1 h.1) ?_)
      by_cases hc : ws.all numI = true ∧ (staW = staW ∨ staW = samW ∨ staW = besW) ∧ 2 ≤ (ws.map digv).length
      · exact R_pos hc (R_pos rfl (R_neg (fun h => hp h.1) rfl))
      · exact R_neg hc rfl
  · refine L_neg (fun h => hw h.1) ?_
    by_cases hk : w = samW ∨ w = besW
    · have hbl : (32 : UInt8) ∉ w := by
        rcases hk with rfl | rfl
        · exact sam_blank
        · exact bes_blank
      by_cases h2 : ws.length = 2
      · refine L_pos ⟨hk, by omega⟩ ?_
        by_cases hA : ws.all numI = true
        · refine R_pos ⟨hA, .inr hk, by omega⟩ (R_neg hw ?_)
          by_cases hT : TabB bs (ps ++ [((ws.map digv).getD 0 0, (ws.map digv).getD 1 0, kindW w)])
          · obtain ⟨e, e2⟩ := up [] hA (by omega)
            rw [e]
            exact L_pos (B_yes ⟨e2, hT⟩) (R_pos ⟨by omega, B_yes hT⟩ rfl)
          · refine R_neg (fun h => hT (B_true h.2)) (L_neg (fun h => ?_) rfl)
            have hM := B_true h
            have hs := pair_small (by omega) hM.2
            obtain ⟨-, e⟩ := down _ hbl hM.1 hs
            rw [← e] at hM
            exact hT hM.2
        · refine R_neg (fun h => hA h.1) (L_neg (fun h => ?_) rfl)
          have hM := B_true h
          have hs := pair_small (by omega) hM.2
          exact hA (down _ hbl hM.1 hs).1
      · refine L_neg (fun h => h2 (by have := h.2; omega)) ?_
        by_cases hc : ws.all numI = true ∧ (w = staW ∨ w = samW ∨ w = besW) ∧ 2 ≤ (ws.map digv).length
        · exact R_pos hc (R_neg hw (R_neg (fun h => h2 (by have := h.1; omega)) rfl))
        · exact R_neg hc rfl
    · refine L_neg (fun h => hk h.1) (R_neg (fun h => ?_) rfl)
      rcases h.2.1 with e | e
      · exact hw e
      · exact hk e
end Go.Proofs.YtdndhhkpbcpalaaDoor
