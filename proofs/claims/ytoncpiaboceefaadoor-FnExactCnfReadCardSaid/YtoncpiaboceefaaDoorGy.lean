/-
  A CNF'S CLAUSES READ, AS LISTS: both ways of reading tell the same.
  A CNF'S CLAUSES SCANNED BY THE PROGRAM: (*scanner).clauses, with the closure of cnfIn.
  A CNF'S FIRST LINE, AS LISTS: what the scan tells, and what the words tell.
-/
import Derived.Test.YtoncpiaboceefaaDoorFm
import Derived.Test.YtoncpiaboceefaaDoorGc
import Derived.Test.YtoncpiaboceefaaDoorFq
namespace Go.Proofs.YtoncpiaboceefaaDoor
open Go.RowKit
set_option linter.unusedVariables false

theorem clr_small {vars : Int} {zs : List Int} (hv : vars ≤ 96) (hb : BigL zs) (h : B (ClR vars zs) = true) : ∀ z ∈ zs, -96 ≤ z ∧ z ≤ 96 := by
  intro z hz
  have h1 := (B_true h).2.1 z hz
  have h2 := hb z hz
  unfold lv wrap64 at h1
  omega
theorem clr_sm {vars : Int} {zs : List Int} (hv : vars ≤ 96) (hb : BigL zs) (h : B (ClR vars zs) = true) : SmN zs := by
  have h2 := clr_small hv hb h
  exact fun z hz => by have := h2 z hz; omega
theorem SmN.big {zs : List Int} (h : SmN zs) : BigL zs := fun z hz => by have := h z hz; omega
theorem SmN.drop {zs : List Int} (h : SmN zs) : SmN zs.dropLast := fun z hz => h z (List.dropLast_subset _ hz)
theorem lit_big {a : List UInt8} (h : litK a = true) : BigL (litV a) := by
  unfold litK at h
  rw [Bool.and_eq_true] at h
  intro z hz
  unfold litV at hz
  rw [tw_all _ h.1] at hz
  obtain ⟨x, hx, rfl⟩ := List.mem_map.1 hz
  obtain ⟨n, hn, rfl⟩ := (numK_iff x).1 (List.all_eq_true.1 h.1 x hx)
  rw [(num_itoa n hn).2]
  exact hn
theorem closV_last {vars : Int} {ms : List Int} (h : closV vars ms = true) : ms = ms.dropLast ++ [0] ∧ B (ClR vars ms.dropLast) = true := by
  unfold closV at h
  rw [Bool.and_eq_true] at h
  refine ⟨?_, h.2⟩
  have h1 := eq_of_beq h.1
  rcases List.eq_nil_or_concat ms with rfl | ⟨l, b, rfl⟩
  · simp at h1
  · simp at h1
    subst h1
    simp
theorem closV_of {vars : Int} {zs : List Int} (h : B (ClR vars zs) = true) : closV vars (zs ++ [0]) = true := by
  unfold closV
  rw [Bool.and_eq_true]
  simp [h]
/-- What a scan that says yes has read. -/
theorem scanV_yes {vars : Int} {n : Nat} {t : List UInt8} {ms : List Int} {r : List UInt8} (h : scan (closV vars) n .word [] t = some (ms, r)) : B (ClR vars ms.dropLast) = true ∧ ms = ms.dropLast ++ [0] ∧ t = bodyL ms.dropLast ++ 10 :: r := by
  obtain ⟨x, u, e1, e2, e3⟩ := (scan_right (closV vars) n).1 _ _ _ _ h
  obtain ⟨h1, h2⟩ := closV_last e3
  refine ⟨h2, h1, ?_⟩
  rw [List.nil_append] at e1
  have := line_tB ms.dropLast x u (e1.symm.trans h1)
  rw [e2, this, lineB_body]
  simp
/-- A line of a clause is scanned. -/
theorem scanV_line {vars : Int} {n : Nat} {zs : List Int} {r : List UInt8} (hv : vars ≤ 96) (hb : BigL zs) (h : B (ClR vars zs) = true) (hn : 3 * (bodyL zs ++ [10]).length + 1 ≤ n) : scan (closV vars) n .word [] (bodyL zs ++ 10 :: r) = some (zs ++ [0], r) := by
  obtain ⟨x, u, hx⟩ : ∃ x u, zs ++ [(0 : Int)] = x :: u := by
    cases zs with
    | nil => exact ⟨0, [], rfl⟩
    | cons y u => exact ⟨y, u ++ [0], rfl⟩
  have e := line_tB zs x u hx.symm
  have hs : SmN (x :: u) := by rw [← hx]; exact (clr_sm hv hb h).snoc (by omega)
  have := scan_line (closV vars) u x [] r n hs (by rw [e, lineB_body]; exact hn)
  rw [← List.append_assoc, e, lineB_body] at this
  rw [show bodyL zs ++ 10 :: r = bodyL zs ++ [10] ++ r by simp, this, List.nil_append, ← hx, if_pos (closV_of h)]

/-- The clauses that these lines are, i of them behind; else the line that is none. -/
noncomputable def specC (vars : Int) (many : Nat) : Nat → List (List Int) → List (List UInt8) → List (List Int) × Nat × Bool
  | _, acc, [] => (acc, 0, true)
  | i, acc, l :: r => if r = [] then (if l = [] ∧ i = many then (acc, 0, true) else ([], i + 1, false)) else
    (if (litK l && B (ClR vars (litV l)) && decide (i < many)) = true then specC vars many (i + 1) (acc ++ [litV l]) r else ([], i + 1, false))
theorem specC_nil (vars : Int) (many : Nat) (acc : List (List Int)) : specC vars many many acc (splitL 10 []) = (acc, 0, true) := by
  rw [split_one 10 [] (by simp)]
  simp [specC]
theorem specC_one (vars : Int) (many i : Nat) (acc : List (List Int)) (t : List UInt8) (ht : t ≠ [] ∨ i ≠ many) (h : (10 : UInt8) ∉ t) : specC vars many i acc (splitL 10 t) = ([], i + 1, false) := by
  rw [split_one 10 t h]
  rcases ht with ht | ht <;> simp [specC, ht]
theorem specC_cut (vars : Int) (many i : Nat) (acc : List (List Int)) (a r : List UInt8) (h : (10 : UInt8) ∉ a) : specC vars many i acc (splitL 10 (a ++ 10 :: r)) = if (litK a && B (ClR vars (litV a)) && decide (i < many)) = true then specC vars many (i + 1) (acc ++ [litV a]) (splitL 10 r) else ([], i + 1, false) := by
  rw [split_cons 10 a r h, specC, if_neg (split_ne 10 r)]
theorem specC_full (vars : Int) (many i : Nat) (acc : List (List Int)) (t : List UInt8) (ht : t ≠ []) (hi : many ≤ i) : specC vars many i acc (splitL 10 t) = ([], i + 1, false) := by
  rcases cut_ex 10 t with h | ⟨a, r, rfl, h⟩
  · exact specC_one vars many i acc t (.inl ht) h
  · rw [specC_cut vars many i acc a r h, if_neg (by simp; intro _ _; omega)]
theorem specC_yes (vars : Int) (hv : vars ≤ 96) (many i n : Nat) (acc : List (List Int)) (t r : List UInt8) (ms : List Int) (hi : i < many) (hsm : SmN ms) (h : scan (closV vars) n .word [] t = some (ms, r)) : specC vars many i acc (splitL 10 t) = specC vars many (i + 1) (acc ++ [ms.dropLast]) (splitL 10 r) := by
  obtain ⟨h1, h2, h3⟩ := scanV_yes h
  obtain ⟨k1, k2⟩ := lit_body ms.dropLast hsm.drop.big
  rw [h3, specC_cut vars many i acc _ r (body_not _), k1, k2, h1]
  simp [hi]
theorem specC_no (vars : Int) (hv : vars ≤ 96) (many i n : Nat) (acc : List (List Int)) (t : List UInt8) (hi : i < many) (hn : 3 * t.length + 1 ≤ n) (h : scan (closV vars) n .word [] t = none) : specC vars many i acc (splitL 10 t) = ([], i + 1, false) := by
  rcases cut_ex 10 t with h0 | ⟨a, r, rfl, h0⟩
  · exact specC_one vars many i acc t (.inr (by omega)) h0
  · rw [specC_cut vars many i acc a r h0]
    by_cases hk : (litK a && B (ClR vars (litV a))) = true
    · exfalso
      rw [Bool.and_eq_true] at hk
      have e := lit_line hk.1
      have := scanV_line (n := n) (r := r) hv (lit_big hk.1) hk.2 (by rw [← e]; simp at hn ⊢; omega)
      rw [← e, h] at this
      cases this
    · rw [if_neg (fun g => hk (by rw [Bool.and_eq_true] at g; exact g.1))]

end Go.Proofs.YtoncpiaboceefaaDoor
namespace Go.Proofs.YtoncpiaboceefaaDoor
open Go.RowKit
set_option linter.unusedVariables false

def ClPost2 (R : List (List Int) × Nat × Bool) (b : Nat) (w : World) (e : Ending) (w' : World) : Prop :=
  ((R.2.2 = true ∧ ∃ v cs, e = .returned (.tuple #[v, .nilIface]) ∧ bareC cs = R.1 ∧ OwC w' w.heap.size v cs) ∨
   (R.2.2 = false ∧ e = .returned (.tuple #[.slice none 0 0, .iface 136 (.agg #[.int .i64 (R.2.1 : Nat)])]))) ∧ Only b w w'

set_option maxRecDepth 100000 in
set_option maxHeartbeats 2000000 in
theorem cl2_any (vb b p0 many : Nat) (vars : Int) (s : ByteArray) (w : World) (h : ScAt w b s p0 1) (hp0 : p0 ≤ s.size) (hs : s.size ≤ 20000) (hmx : many ≤ 4000) (hv : vars ≤ 96) (hvb : vb < w.heap.size) (hvn : vb ≠ b) (hvc : w.cell? ⟨vb, 0, none⟩ = some (.int .i64 vars)) :
    Calls Tryd.prog 96 #[.pointer (some ⟨b, 0, none⟩), .int .i64 many, .int .i64 many, .func (.func 125) #[] #[.pointer (some ⟨vb, 0, none⟩)]] w fun e w' => ClPost2 (specC vars many 0 [] (splitL 10 (lef s p0))) b w e w' := by
  generalize hRR : specC vars many 0 [] (splitL 10 (lef s p0)) = RR
  obtain ⟨i40, hi0, hz0, hz1, hz2⟩ := info_parts info40
  have hbl : b < w.heap.size := (Array.getElem?_eq_some_iff.1 h).1
  have S0 := Lib.hid (h.below (bA0 w (.cells #[.func (.func 125) #[] #[.pointer (some ⟨vb, 0, none⟩)]] 67)))
  have N0 := Lib.hid (new_at w (.cells #[.func (.func 125) #[] #[.pointer (some ⟨vb, 0, none⟩)]] 67))
  have PY : Hid (∀ w' v cs, Only b w w' → OwC w' w.heap.size v cs → RR = (bareC cs, 0, true) → ClPost2 RR b w (.returned (.tuple #[v, .nilIface])) w') := fun w' v cs ho hc hr => ⟨.inl ⟨by rw [hr], v, cs, rfl, by rw [hr], hc⟩, ho⟩
  have PN : Hid (∀ (w' : World) (k : Nat) (L : Int), Only b w w' → L = (k : Nat) → RR = ([], k, false) → ClPost2 RR b w (.returned (.tuple #[.slice none 0 0, .iface 136 (.agg #[.int .i64 L])])) w') := fun w' k L ho hL hr => ⟨.inr ⟨by rw [hr], by rw [hr, hL]⟩, ho⟩
  have HR : Hid (specC vars many 0 [] (splitL 10 (lef s p0)) = RR) := hRR
  have VC : Hid (∀ W, Only b w W → W.cell? ⟨vb, 0, none⟩ = some (.int .i64 vars) ∧ vb < W.heap.size) := fun W ho => ⟨(ho.cell hvb hvn).trans hvc, Nat.lt_of_lt_of_le hvb ho.size⟩
  clear h hRR hvc hvb hvn
  go_enter Tryd.func96, Tryd.ntmps96
  go_wp2_with fail
  go_loopw [11] (fun v wr => ∃ (cs : List LCl) (p : Nat), cs.length ≤ many ∧ p ≤ s.size ∧ Hid (ScAt wr b s p ((cs.length + 1 : Nat) : Int)) ∧ Hid (Only b (w.alloc (.cells #[.func (.func 125) #[] #[.pointer (some ⟨vb, 0, none⟩)]] 67)) wr) ∧ Hid (OwC wr (w.heap.size + 1) v cs) ∧ Hid (specC vars many cs.length (bareC cs) (splitL 10 (lef s p)) = RR)) (fun _ wr => s.size - posB wr b)
  case atStart => exact ⟨[], p0, Nat.zero_le _, hp0, S0.out, Only.refl _ _, OwC.nil _ _, HR.out⟩
  case round =>
    obtain ⟨cs, p, hk, hp, H1, H2, H3, H4⟩ := hrel
    obtain ⟨sl, cap, rfl⟩ := H3.out.v
    have hsz : (w.alloc (.cells #[.func (.func 125) #[] #[.pointer (some ⟨vb, 0, none⟩)]] 67)).heap.size = w.heap.size + 1 := by simp
    have hwr : w.heap.size + 1 ≤ wr.heap.size := by have := H2.out.size; omega
    have ON : Hid (Only b w wr) := (Only.of_below (bA0 w (.cells #[.func (.func 125) #[] #[.pointer (some ⟨vb, 0, none⟩)]] 67))).trans H2.out
    have hmu : posB wr b = p := H1.out.pos
    have h96 : Tryd.prog.isIface 96 = true := by kernel_rfl
    have hps : (p : Int) ≤ (s.size : Int) := by omega
    have hp0 : (0 : Int) ≤ (p : Int) := by omega
    obtain ⟨c0, c1, c2, cf, clt⟩ := cellsS3 H1.out
    generalize hN : cs.length = n at *
    have HN := Lib.hid hN
    clear hN
    obtain ⟨L, hL⟩ : ∃ L : Int, L = ((n + 1 : Nat) : Int) := ⟨_, rfl⟩
    rw [← hL] at H1 c2
    have HLn := Lib.hid hL
    have hL0 : 0 ≤ L ∧ L ≤ 1000000 := by omega
    clear hL
    have PX : Hid (wr.drew.cell? ⟨b, 1, none⟩ = some (.int .i64 p) ∧ wr.drew.cell? ⟨b, 0, none⟩ = some (.string s)) := ⟨c1, c0⟩
    have SX : Hid (ScAt wr.drew b s p L) := H1.out
    have O1 : Hid (Only b (w.alloc (.cells #[.func (.func 125) #[] #[.pointer (some ⟨vb, 0, none⟩)]] 67)) wr.drew) := H2.out.drew
    have C1 : Hid (OwC wr.drew (w.heap.size + 1) (.slice sl n cap) cs) := H3.out.drew
    have ON1 : Hid (Only b w wr.drew) := ON.out.drew
    have hW1 : w.heap.size + 1 ≤ wr.drew.heap.size := hwr
    clear H1 H2 H3 ON
    by_cases h4 : n < many
    · have S1 := SX
      have h4' : (n : Int) < (many : Int) := by omega
      have h4d : decide ((n : Int) < (many : Int)) = true := decide_eq_true h4'
      have h4e : ((n : Int) == (many : Int)) = false := by rw [beq_eq_false_iff_ne]; omega
      go_wp2_with fail
      refine wp_region_held_drew (S := fun W => W.cell? ⟨b, 1, none⟩ = some (.int .i64 p) ∧ W.cell? ⟨b, 0, none⟩ = some (.string s)) (by kernel_rfl) ?_ (fun hHeld => ?_)
      · exact PX.out
      refine wpAnyH_take (i := 0) (oi := _) (v := ?_) rfl (by kernel_rfl) (by kernel_rfl) (by kernel_rfl) (fun _ _ _ h => h) (Or.inl ⟨by rfl, ?_⟩) (by assumption) ?_
      rotate_left
      · first | (intro w hSw; (try dsimp only at hSw); go_simp; done) | (intro w hSw; (try dsimp only at hSw); go_simp; with_reducible rfl)
      try simp only [Act.put, List.setIfInBounds_toArray, List.set_cons_zero, List.set_cons_succ, List.getElem_toArray, List.getElem_cons_zero]
      refine wpAnyH_take (i := 1) (oi := _) (v := ?_) rfl (by kernel_rfl) (by kernel_rfl) (by kernel_rfl) (fun _ _ _ h => h) (Or.inl ⟨by rfl, ?_⟩) (by assumption) ?_
      rotate_left
      · first | (intro w hSw; (try dsimp only at hSw); go_simp; done) | (intro w hSw; (try dsimp only at hSw); go_simp; with_reducible rfl)
      try simp only [Act.put, List.setIfInBounds_toArray, List.set_cons_zero, List.set_cons_succ, List.getElem_toArray, List.getElem_cons_succ, List.getElem_cons_zero]
      refine wpAnyH_take (i := 2) (oi := _) (v := ?_) rfl (by kernel_rfl) (by kernel_rfl) (by kernel_rfl) (fun _ _ _ h => h) (Or.inl ⟨by rfl, ?_⟩) (by assumption) ?_
      rotate_left
      · first | (intro w hSw; (try dsimp only at hSw); go_simp; done) | (intro w hSw; (try dsimp only at hSw); go_simp; with_reducible rfl)
      try simp only [Act.put, List.setIfInBounds_toArray, List.set_cons_zero, List.set_cons_succ, List.getElem_toArray, List.getElem_cons_succ, List.getElem_cons_zero]
      refine wpAnyH_take (i := 3) (oi := _) (v := ?_) rfl (by kernel_rfl) (by kernel_rfl) (by kernel_rfl) (fun _ _ _ h => h) (Or.inl ⟨by rfl, ?_⟩) (by assumption) ?_
      rotate_left
      · first | (intro w hSw; (try dsimp only at hSw); go_simp; done) | (intro w hSw; (try dsimp only at hSw); go_simp; with_reducible rfl)
      try simp only [Act.put, List.setIfInBounds_toArray, List.set_cons_zero, List.set_cons_succ, List.getElem_toArray, List.getElem_cons_succ, List.getElem_cons_zero]
      refine wpAnyH_take (i := 4) (oi := _) (v := ?_) rfl (by kernel_rfl) (by kernel_rfl) (by kernel_rfl) (fun _ _ _ h => h) (Or.inl ⟨by rfl, ?_⟩) (by assumption) ?_
      rotate_left
      · first | (intro w hSw; (try dsimp only at hSw); go_simp; done) | (intro w hSw; (try dsimp only at hSw); go_simp; with_reducible rfl)
      try simp only [Act.put, List.setIfInBounds_toArray, List.set_cons_zero, List.set_cons_succ, List.getElem_toArray, List.getElem_cons_succ, List.getElem_cons_zero]
      refine wpAnyH_take (i := 5) (oi := _) (v := undef) rfl (by kernel_rfl) (by kernel_rfl) (by kernel_rfl) (fun _ _ _ h => h) (Or.inr ⟨by rfl, rfl⟩) (by assumption) ?_
      try simp only [Act.put, List.setIfInBounds_toArray, List.set_cons_zero, List.set_cons_succ, List.getElem_toArray, List.getElem_cons_succ, List.getElem_cons_zero]
      refine wpAnyH_take (i := 6) (oi := _) (v := undef) rfl (by kernel_rfl) (by kernel_rfl) (by kernel_rfl) (fun _ _ _ h => h) (Or.inr ⟨by rfl, rfl⟩) (by assumption) ?_
      try simp only [Act.put, List.setIfInBounds_toArray, List.set_cons_zero, List.set_cons_succ, List.getElem_toArray, List.getElem_cons_succ, List.getElem_cons_zero]
      refine wpAnyH_take (i := 7) (oi := _) (v := undef) rfl (by kernel_rfl) (by kernel_rfl) (by kernel_rfl) (fun _ _ _ h => h) (Or.inr ⟨by rfl, rfl⟩) (by assumption) ?_
      try simp only [Act.put, List.setIfInBounds_toArray, List.set_cons_zero, List.set_cons_succ, List.getElem_toArray, List.getElem_cons_succ, List.getElem_cons_zero]
      refine wpAnyH_take (i := 8) (oi := _) (v := undef) rfl (by kernel_rfl) (by kernel_rfl) (by kernel_rfl) (fun _ _ _ h => h) (Or.inr ⟨by rfl, rfl⟩) (by assumption) ?_
      try simp only [Act.put, List.setIfInBounds_toArray, List.set_cons_zero, List.set_cons_succ, List.getElem_toArray, List.getElem_cons_succ, List.getElem_cons_zero]
      refine wpAnyH_take (i := 9) (oi := _) (v := undef) rfl (by kernel_rfl) (by kernel_rfl) (by kernel_rfl) (fun _ _ _ h => h) (Or.inr ⟨by rfl, rfl⟩) (by assumption) ?_
      try simp only [Act.put, List.setIfInBounds_toArray, List.set_cons_zero, List.set_cons_succ, List.getElem_toArray, List.getElem_cons_succ, List.getElem_cons_zero]
      refine wpAnyH_take (i := 10) (oi := _) (v := undef) rfl (by kernel_rfl) (by kernel_rfl) (by kernel_rfl) (fun _ _ _ h => h) (Or.inr ⟨by rfl, rfl⟩) (by assumption) ?_
      try simp only [Act.put, List.setIfInBounds_toArray, List.set_cons_zero, List.set_cons_succ, List.getElem_toArray, List.getElem_cons_succ, List.getElem_cons_zero]
      refine wpAnyH_take (i := 11) (oi := _) (v := undef) rfl (by kernel_rfl) (by kernel_rfl) (by kernel_rfl) (fun _ _ _ h => h) (Or.inr ⟨by rfl, rfl⟩) (by assumption) ?_
      try simp only [Act.put, List.setIfInBounds_toArray, List.set_cons_zero, List.set_cons_succ, List.getElem_toArray, List.getElem_cons_succ, List.getElem_cons_zero]
      refine wpAnyH_take (i := 12) (oi := _) (v := undef) rfl (by kernel_rfl) (by kernel_rfl) (by kernel_rfl) (fun _ _ _ h => h) (Or.inr ⟨by rfl, rfl⟩) (by assumption) ?_
      try simp only [Act.put, List.setIfInBounds_toArray, List.set_cons_zero, List.set_cons_succ, List.getElem_toArray, List.getElem_cons_succ, List.getElem_cons_zero]
      refine wpAnyH_take (i := 13) (oi := _) (v := undef) rfl (by kernel_rfl) (by kernel_rfl) (by kernel_rfl) (fun _ _ _ h => h) (Or.inr ⟨by rfl, rfl⟩) (by assumption) ?_
      try simp only [Act.put, List.setIfInBounds_toArray, List.set_cons_zero, List.set_cons_succ, List.getElem_toArray, List.getElem_cons_succ, List.getElem_cons_zero]
      refine wpAnyH_take (i := 14) (oi := _) (v := undef) rfl (by kernel_rfl) (by kernel_rfl) (by kernel_rfl) (fun _ _ _ h => h) (Or.inr ⟨by rfl, rfl⟩) (by assumption) ?_
      try simp only [Act.put, List.setIfInBounds_toArray, List.set_cons_zero, List.set_cons_succ, List.getElem_toArray, List.getElem_cons_succ, List.getElem_cons_zero]
      refine wpAnyH_take (i := 15) (oi := _) (v := ?_) rfl (by kernel_rfl) (by kernel_rfl) (by kernel_rfl) (fun _ _ _ h => h) (Or.inl ⟨by rfl, ?_⟩) (by assumption) ?_
      rotate_left
      · first | (intro w hSw; (try dsimp only at hSw); go_simp; done) | (intro w hSw; (try dsimp only at hSw); go_simp; with_reducible rfl)
      try simp only [Act.put, List.setIfInBounds_toArray, List.set_cons_zero, List.set_cons_succ, List.getElem_toArray, List.getElem_cons_succ, List.getElem_cons_zero]
      refine wpAnyH_done (by kernel_rfl) ?_ _
      clear PX c0 c1 c2 cf SX
      generalize wr.drew = W1 at *
      have hdummy : True := trivial
      have NU : Hid (Calls Tryd.prog 123 #[.pointer (some ⟨b, 0, none⟩), .func (.func 135) #[] #[.pointer (some ⟨w.heap.size, 0, none⟩)]] W1 fun e w' => NumsPost W1 b s L (scan (closV vars) (3 * (s.size - p) + 1) .word [] (lef s p)) e w') := by
        refine nu_any b w.heap.size s p L (closV vars) W1 S1.out hp (by omega) ⟨by omega, by omega⟩ ?_
        intro W v zs hO hown hz1 hsm
        obtain ⟨g, cp, rfl, -, hg, hcp, hmx, hcell⟩ := own_cells hown (by omega)
        refine clo2_any vb vars g 0 cp w.heap.size zs W hz1 (by omega) hcp (fun z hz => ?_) ⟨hg, fun i hi => ?_⟩ ?_ (VC.out _ (ON1.out.trans hO)).2 (VC.out _ (ON1.out.trans hO)).1 ?_
        · have := hsm z hz
          exact wf_mid (by omega)
        · rw [Nat.zero_add, hcell i hi]; simp [valsZ, hi]
        · exact Nat.lt_of_lt_of_le (by omega) hO.size
        · have hx : W1.cell? ⟨w.heap.size, 0, none⟩ = some (.func (.func 125) #[] #[.pointer (some ⟨vb, 0, none⟩)]) := by
            rw [O1.out.cell (by omega) (by omega)]
            simp only [World.cell?, N0.out]
            rfl
          rw [hO.cell (by omega) (by omega)]; exact hx
      have HL := lef_len s p
      generalize hRES : scan (closV vars) (3 * (s.size - p) + 1) .word [] (lef s p) = RES at *
      have HRES := Lib.hid hRES
      clear hRES
      go_wp2_with fail
      refine NU.out.mono ?_
      rintro e w5 (⟨ms, r, v5, p5, rfl, rfl, own5, s5, hl5, hp5, hm5, hsm, o5⟩ | ⟨rfl, rfl, ⟨p5, s5⟩, o5⟩)
      · obtain ⟨q1, q2, q3⟩ := scanV_yes HRES.out
        have SY : Hid (specC vars many (n + 1) (bareC cs ++ [ms.dropLast]) (splitL 10 (lef s p5)) = RR) := by
          show _ = _
          rw [hl5]
          exact (specC_yes vars hv many n _ (bareC cs) (lef s p) r ms (by omega) hsm HRES.out).symm.trans H4.out
        have hml : ms.length = ms.dropLast.length + 1 := by
          have := congrArg List.length q2
          simpa using this
        have hp9 : p < p5 := by
          have e := congrArg List.length q3
          rw [List.length_append, List.length_cons, HL, ← hl5, lef_len] at e
          omega
        obtain ⟨g, cp, rfl, hgB, hg5, hcp, hmx, -⟩ := own_cells own5 (by omega)
        have C5 := Lib.hid (C1.out.only o5 (by omega))
        have R5 : Hid (w5.ownsRow W1.heap.size 2 1 (.slice (some ⟨g, 0, none⟩) ms.dropLast.length cp) ms.dropLast.length (valsZ ms.dropLast)) := by
          have := own_cut own5 ms.dropLast.length (by omega)
          rw [← valsZ_take] at this
          rw [List.dropLast_eq_take] at this ⊢
          have e : (ms.take (ms.length - 1)).length = ms.length - 1 := by rw [List.length_take]; omega
          rw [e] at this ⊢
          exact this
        have hf5 : Hid (∀ j, Value.ownBlock (.slice (some ⟨g, 0, none⟩) ms.dropLast.length cp) = some j → ∀ t ∈ cs, t.1.ownBlock ≠ some j) := fun j hj t ht e => by
          obtain rfl : g = j := by cases hj; rfl
          have := ((C1.out.each t ht).lt g e).2
          omega
        have hown : Hid (w5.ownsRow (w.heap.size + 1) 68 1 (.slice sl n cap) n (hdC cs)) := by
          have := C5.out.row
          rwa [HN.out] at this
        have S5 := Lib.hid s5
        have OT := Lib.hid (O1.out.trans o5)
        have hw5 : w.heap.size + 1 ≤ w5.heap.size := Nat.le_trans hW1 o5.size
        have hd : ((ms.length : Int) - 1) = (ms.dropLast.length : Int) := by omega
        have hd2 : (ms.dropLast.length : Int) ≤ (cp : Int) := by omega
        have hd3 : (0 : Int) ≤ (ms.dropLast.length : Int) := by omega
        have hd4 : wrap64 (ms.dropLast.length : Int) = (ms.dropLast.length : Int) := by unfold wrap64; omega
        have hmp := S5.out.pos
        clear own5 s5 o5 q3 q2 NU hl5 HL hd
        rw [hml] at *
        generalize hD : ms.dropLast = ds at *
        generalize hdn : ds.length = d at *
        have HDN := Lib.hid hdn
        clear hdn hD hml
        go_wp2_with (first | (at_builtin; refine wpList_append_lies _ rfl (.tmp 46) (.tmp 52) 23 rfl (w.heap.size + 1) 68 i40 (.slice none 0 0) 1 24 Tryd.underlying23 hi0 hz0 hz1 hz2 rfl (by decide) _ _ _ rfl (own_below hown.out (bA0 _ _)) ⟨w5.heap.size, 0, none⟩ 1 1 [.slice (some ⟨g, 0, none⟩) d cp] rfl rfl (cell_one_new _ _ _) (by intro u hu; simp at hu; rcases hu with rfl; rfl) (by decide) (by unfold maxLen; omega) (by omega) (by simp; omega) (w5.heap.size + 1) (by simp) ?_))
        intro g9 cap9 w9 own9 grow9 hg9 hlt9
        have RD : Hid (w5.ownsRow W1.heap.size 2 1 (.slice (some ⟨g, 0, none⟩) ds.length cp) ds.length (valsZ ds)) := by
          have := R5.out
          rwa [← HDN.out] at this
        have C9 : Hid (OwC w9 (w.heap.size + 1) (.slice (some ⟨g9, 0, none⟩) (n + 1) cap9) (cs ++ [(.slice (some ⟨g, 0, none⟩) d cp, ds)])) := by
          refine C5.out.add (bA0 w5 (.cells #[.slice (some ⟨g, 0, none⟩) d cp] 68)) ?_ hf5.out grow9 (by rw [HN.out]; exact own9)
          have := own_below (own_mono RD.out hW1) (bA0 w5 (.cells #[.slice (some ⟨g, 0, none⟩) d cp] 68))
          rwa [HDN.out] at this ⊢
        have hbr : ∀ j, Value.ownBlock (.slice sl n cap) = some j → w.heap.size + 1 ≤ j := fun j hj => (hown.out.lt j hj).1
        have S9 : Hid (ScAt w9 b s p5 ((n + 1 + 1 : Nat) : Int)) := by
          have := (S5.out.below (bA0 w5 (.cells #[.slice (some ⟨g, 0, none⟩) d cp] 68))).grownF grow9 (fun e => by have := hbr b e; omega)
          rw [HLn.out] at this
          exact this
        have O9 : Hid (Only b (w.alloc (.cells #[.func (.func 125) #[] #[.pointer (some ⟨vb, 0, none⟩)]] 67)) w9) := (OT.out.trans (Only.of_below (bA0 w5 (.cells #[.slice (some ⟨g, 0, none⟩) d cp] 68)))).grownF grow9 (fun j hj => by have := hbr j hj; omega)
        have hm9 := S9.out.pos
        have HL9 : Hid ((cs ++ [((.slice (some ⟨g, 0, none⟩) d cp : Value), ds)]).length = n + 1) := by show _ = _; rw [List.length_append, HN.out]; rfl
        have HB9 : Hid (bareC (cs ++ [((.slice (some ⟨g, 0, none⟩) d cp : Value), ds)]) = bareC cs ++ [ds]) := by show _ = _; rw [bareC_add]; rfl
        clear own9 grow9 hg9 hlt9
        go_wp2
        go_roundw
        case rel => exact ⟨_, p5, by rw [HL9.out]; omega, hp5, by rw [HL9.out]; exact S9.out, O9.out, C9.out, by rw [HL9.out, HB9.out]; exact SY.out⟩
        case measure => rw [hm9, hmu]; omega
      · have FR := Lib.hid (specC_no vars hv many n (3 * (s.size - p) + 1) (bareC cs) (lef s p) h4 (by omega) HRES.out)
        have ON5 := Lib.hid (ON1.out.trans o5)
        go_wp2
        exact bodyPost_ret (v := .tuple #[.slice none 0 0, .iface 136 (.agg #[.int .i64 L])]) (by simp [results, Tryd.results96, go_sem]) rfl (PN.out _ (n + 1) L ON5.out HLn.out (by rw [← H4.out]; exact FR.out))
    · obtain rfl : n = many := by omega
      have h4d : decide ((n : Int) < (n : Int)) = false := decide_eq_false (by omega)
      by_cases h1 : p < s.size
      · have h1' : (p : Int) < (s.size : Int) := by omega
        go_wp2_with fail
        go_region_held3 (fun w' => w'.cell? ⟨b, 1, none⟩ = some (.int .i64 p) ∧ w'.cell? ⟨b, 0, none⟩ = some (.string s)) (first | exact PX.out) (fail)
        clear PX c0 c1 c2 cf
        generalize wr.drew = W1 at *
        have FR := Lib.hid (specC_full vars n n (bareC cs) (lef s p) (lef_ne s p h1) (Nat.le_refl _))
        have FA := Lib.hid (fa_any b s p L W1 SX.out)
        go_wp2_with fail
        refine FA.out.mono ?_
        rintro e w5 ⟨rfl, rfl⟩
        go_wp2
        exact bodyPost_ret (v := .tuple #[.slice none 0 0, .iface 136 (.agg #[.int .i64 L])]) (by simp [results, Tryd.results96, go_sem]) rfl (PN.out _ (n + 1) L ON1.out HLn.out (by rw [← H4.out]; exact FR.out))
      · have h1' : ¬ (p : Int) < (s.size : Int) := by omega
        go_wp2_with fail
        go_region_held3 (fun w' => w'.cell? ⟨b, 1, none⟩ = some (.int .i64 p) ∧ w'.cell? ⟨b, 0, none⟩ = some (.string s)) (first | exact PX.out) (fail)
        have C2 : Hid (OwC wr.drew w.heap.size (.slice sl n cap) cs) := OwC.mono C1.out (by omega)
        have FR := Lib.hid (specC_nil vars n (bareC cs))
        have FL := Lib.hid (lef_nil s p (by omega))
        clear PX c0 c1 c2 cf
        generalize wr.drew = W1 at *
        go_wp2
        exact bodyPost_ret (v := .tuple #[.slice sl n cap, .nilIface]) (by simp [results, Tryd.results96, go_sem]) rfl (PY.out _ _ _ ON1.out C2.out (by rw [← H4.out, FL.out]; exact FR.out))

end Go.Proofs.YtoncpiaboceefaaDoor
namespace Go.Proofs.YtoncpiaboceefaaDoor
open Go.RowKit
set_option linter.unusedVariables false

def P6 : List UInt8 := [112, 32, 99, 110, 102, 32]
def headT (v m : Int) : List UInt8 := P6 ++ (Lib.itoa v ++ 32 :: Lib.itoa m)
/-- Numbers that may stand in the first line. -/
def HdR (v m : Int) : Prop := (0 ≤ v ∧ v ≤ 96) ∧ (0 ≤ m ∧ m ≤ 4000)
theorem headT_shape (v m : Int) : headT v m = [112] ++ 32 :: ([99, 110, 102] ++ 32 :: (Lib.itoa v ++ 32 :: Lib.itoa m)) := by
  simp [headT, P6]
theorem head_split (v m : Int) : splitL 32 (headT v m) = [[112], [99, 110, 102], Lib.itoa v, Lib.itoa m] := by
  rw [headT_shape, split_cons 32 _ _ (by decide), split_cons 32 _ _ (by decide), split_cons 32 _ _ (itoa_not v 32 (by decide) (by decide)), split_one 32 _ (itoa_not m 32 (by decide) (by decide))]
theorem headT_not (v m : Int) : (10 : UInt8) ∉ headT v m := by
  rw [headT_shape]
  have h1 := itoa_not v 10 (by decide) (by decide)
  have h2 := itoa_not m 10 (by decide) (by decide)
  simp [h1, h2]
/-- The words of the first line tell two numbers that may stand there. -/
noncomputable def headS (l : List UInt8) : Bool := decide ((splitL 32 l).length = 4) && (decide (l = headT (numV ((splitL 32 l).getD 2 [])) (numV ((splitL 32 l).getD 3 []))) && B (HdR (numV ((splitL 32 l).getD 2 [])) (numV ((splitL 32 l).getD 3 []))))
theorem headS_yes {l : List UInt8} (h : headS l = true) : ∃ v m, HdR v m ∧ l = headT v m := by
  unfold headS at h
  simp only [Bool.and_eq_true, decide_eq_true_eq] at h
  exact ⟨_, _, B_true h.2.2, h.2.1⟩
theorem headS_vals (v m : Int) (h : HdR v m) : numV ((splitL 32 (headT v m)).getD 2 []) = v ∧ numV ((splitL 32 (headT v m)).getD 3 []) = m := by
  obtain ⟨h1, h2⟩ := h
  rw [head_split]
  exact ⟨(num_itoa v (by omega)).2, (num_itoa m (by omega)).2⟩
theorem headS_of (v m : Int) (h : HdR v m) : headS (headT v m) = true := by
  obtain ⟨e1, e2⟩ := headS_vals v m h
  unfold headS
  rw [e1, e2, B_yes h, head_split]
  simp
theorem headB_iff (zs : List Int) : headB zs = true ↔ ∃ v m, zs = [v, m] ∧ HdR v m := by
  unfold headB
  constructor
  · intro h
    simp only [Bool.and_eq_true, decide_eq_true_eq] at h
    obtain ⟨h1, h2, h3, h4⟩ := h
    match zs, h1 with
    | [v, m], _ => exact ⟨v, m, rfl, (B_true h2).1, h3, h4⟩
  · rintro ⟨v, m, rfl, h1, h2⟩
    have hb : B (CnfR v []) = true := B_yes ⟨h1, by simp, fun i hi => absurd hi (Nat.not_lt_zero _)⟩
    simp [hb, h2]
/-- What a scan of the first line that says yes has read. -/
theorem scanH_yes {n : Nat} {u : List UInt8} {ms : List Int} {r : List UInt8} (h : scan headB n .word [] u = some (ms, r)) : ∃ v m, ms = [v, m] ∧ HdR v m ∧ P6 ++ u = headT v m ++ 10 :: r := by
  obtain ⟨x, t, e1, e2, e3⟩ := (scan_right headB n).1 _ _ _ _ h
  obtain ⟨v, m, e4, hr⟩ := (headB_iff ms).1 e3
  rw [e4] at e1
  simp at e1
  obtain ⟨rfl, rfl⟩ := e1
  refine ⟨v, m, e4, hr, ?_⟩
  rw [e2]
  simp [headT, tB]
/-- A first line is scanned. -/
theorem scanH_line {n : Nat} {v m : Int} {r : List UInt8} (h : HdR v m) (hn : 3 * (Lib.itoa v ++ 32 :: (Lib.itoa m ++ [10])).length + 1 ≤ n) : scan headB n .word [] (Lib.itoa v ++ 32 :: (Lib.itoa m ++ 10 :: r)) = some ([v, m], r) := by
  have hs : SmN [v, m] := fun z hz => by
    obtain ⟨h1, h2⟩ := h
    simp at hz
    rcases hz with rfl | rfl <;> omega
  have := scan_line headB [m] v [] r n hs (by simpa [tB] using hn)
  have hb : headB [v, m] = true := (headB_iff _).2 ⟨v, m, rfl, h⟩
  simp [tB, hb] at this
  exact this
theorem scanH_no {n : Nat} {u : List UInt8} (hn : 3 * u.length + 1 ≤ n) (h : scan headB n .word [] u = none) (v m : Int) (r : List UInt8) (hr : HdR v m) : P6 ++ u ≠ headT v m ++ 10 :: r := by
  intro e
  have e' : u = Lib.itoa v ++ 32 :: (Lib.itoa m ++ 10 :: r) := by
    have : P6 ++ u = P6 ++ (Lib.itoa v ++ 32 :: (Lib.itoa m ++ 10 :: r)) := by rw [e]; simp [headT]
    exact List.append_cancel_left this
  subst e'
  rw [scanH_line hr (by simp at hn ⊢; omega)] at h
  cases h

/-- What is read of a Cnf's text: its number of variables, its clauses, the line that is none, and if it goes right. -/
noncomputable def readS (t : List UInt8) : Int × (List (List Int) × Nat × Bool) :=
  match splitL 10 t with
  | [] => (0, [], 0, false)
  | [_] => (0, [], 0, false)
  | l :: r => if headS l = true then (numV ((splitL 32 l).getD 2 []), specC (numV ((splitL 32 l).getD 2 [])) (numV ((splitL 32 l).getD 3 [])).toNat 0 [] r) else (0, [], 0, false)
theorem readS_head (v m : Int) (r : List UInt8) (h : HdR v m) : readS (headT v m ++ 10 :: r) = (v, specC v m.toNat 0 [] (splitL 10 r)) := by
  unfold readS
  rw [split_cons 10 _ r (headT_not v m)]
  obtain ⟨x, y, e⟩ : ∃ x y, splitL 10 r = x :: y := by
    cases he : splitL 10 r with
    | nil => exact absurd he (split_ne 10 r)
    | cons x y => exact ⟨x, y, rfl⟩
  obtain ⟨e1, e2⟩ := headS_vals v m h
  rw [e]
  simp only
  rw [if_pos (headS_of v m h), e1, e2]
theorem readS_not (t : List UInt8) (h : ∀ v m r, HdR v m → t ≠ headT v m ++ 10 :: r) : readS t = (0, [], 0, false) := by
  rcases cut_ex 10 t with h0 | ⟨a, r, rfl, h0⟩
  · unfold readS
    rw [split_one 10 t h0]
  · have hs : headS a = false := by
      cases hh : headS a with
      | false => rfl
      | true =>
        obtain ⟨v, m, hr, rfl⟩ := headS_yes hh
        exact absurd rfl (h v m r hr)
    unfold readS
    rw [split_cons 10 a r h0]
    obtain ⟨x, y, e⟩ : ∃ x y, splitL 10 r = x :: y := by
      cases he : splitL 10 r with
      | nil => exact absurd he (split_ne 10 r)
      | cons x y => exact ⟨x, y, rfl⟩
    rw [e]
    simp [hs]
/-- The scan that says yes. -/
theorem readS_yes {n : Nat} {u : List UInt8} {ms : List Int} {r : List UInt8} (h : scan headB n .word [] u = some (ms, r)) : ∃ v m, ms = [v, m] ∧ HdR v m ∧ readS (P6 ++ u) = (v, specC v m.toNat 0 [] (splitL 10 r)) := by
  obtain ⟨v, m, e, hr, e2⟩ := scanH_yes h
  exact ⟨v, m, e, hr, by rw [e2]; exact readS_head v m r hr⟩
theorem readS_no {n : Nat} {u : List UInt8} (hn : 3 * u.length + 1 ≤ n) (h : scan headB n .word [] u = none) : readS (P6 ++ u) = (0, [], 0, false) := readS_not _ fun v m r hr => scanH_no hn h v m r hr
/-- A text without the two words ahead. -/
theorem readS_pre (t : List UInt8) (h : ∀ u, t ≠ P6 ++ u) : readS t = (0, [], 0, false) := readS_not _ fun v m r hr e => h (Lib.itoa v ++ 32 :: (Lib.itoa m ++ 10 :: r)) (by rw [e]; simp [headT])

end Go.Proofs.YtoncpiaboceefaaDoor
