/-
  A RECORD READ, AS THE PROGRAM DOES IT.
-/
import Derived.Test.YtnkdkbchendpmaaDoorRe
import Derived.Test.YtnkdkbchendpmaaDoorSb
namespace Go.Proofs.YtnkdkbchendpmaaDoor
open Go.RowKit
set_option linter.unusedVariables false

/-- The text begins with a length and as many bytes with their sum. -/
def Good (t : List UInt8) (n : Nat) (q : List UInt8) : Prop :=
  t.length ≤ 20000 ∧ t = 82 :: (numB n ++ q) ∧ n ≤ 1000 ∧ n + 4 ≤ q.length ∧ (q.drop n).take 4 = fourB (sumL (numB n ++ q.take n))
/-- The code of a text that is refused. -/
noncomputable def rdF (t : List UInt8) : Int := open Classical in
  if 20000 < t.length then 2 else match t with
    | [] => 7
    | c :: r => if c ≠ 82 then 7 else if Short r then 6 else match rdN 2 r with
      | none => 3
      | some (n, q) => if 1000 < n then 3 else if q.length < n + 4 then 6 else if (q.drop n).take 4 ≠ fourB (sumL (numB n ++ q.take n)) then 5 else 3
theorem Good.inj {t : List UInt8} {n m : Nat} {q p : List UInt8} (h : Good t n q) (k : Good t m p) : n = m ∧ q = p := by
  have e := h.2.1
  rw [k.2.1] at e
  simp only [List.cons.injEq, true_and] at e
  have := numB_inj e
  exact ⟨this.1.symm, this.2.symm⟩
theorem numB_two {n : Nat} (h : n ≤ 1000) : (numB n).length ≤ 2 := (numB_len n 1 (by omega)).2
theorem fourB_inj {x y : Nat} (hx : x < 4294967296) (hy : y < 4294967296) (h : fourB x = fourB y) : x = y := by
  simp only [fourB, List.cons.injEq, and_true] at h
  have u (a b : Nat) (ha : a < 256) (hb : b < 256) (e : a.toUInt8 = b.toUInt8) : a = b := by
    have := congrArg UInt8.toNat e
    rwa [u8_toNat a ha, u8_toNat b hb] at this
  have a1 := u _ _ (by omega) (by omega) h.1
  have a2 := u _ _ (by omega) (by omega) h.2.1
  have a3 := u _ _ (by omega) (by omega) h.2.2.1
  have a4 := u _ _ (by omega) (by omega) h.2.2.2
  omega
abbrev RO (k : Int) (v : Value) (u c : Int) : Value := .agg #[.int .i64 k, v, .int .i64 u, .int .i64 c]
def RdPost (t : List UInt8) (w : World) (e : Ending) (w' : World) : Prop :=
  (∃ n q k zs v, Good t n q ∧ IsBody (q.take n) k zs ∧ e = .returned (RO k v (1 + (numB n).length + n + 4) 0) ∧ w'.ownsRow w.heap.size 2 1 v zs.length (valsZ zs) ∧ Below w.heap.size w w') ∨
  ((∀ n q k zs, Good t n q → ¬ IsBody (q.take n) k zs) ∧ e = .returned (RO 0 (.slice none 0 0) 0 (rdF t)) ∧ Below w.heap.size w w')

theorem rdF_long {t : List UInt8} (h : 20000 < t.length) : rdF t = 2 ∧ ∀ n q k zs, Good t n q → ¬ IsBody (q.take n) k zs := by
  refine ⟨by unfold rdF; rw [if_pos h], fun n q k zs g => ?_⟩
  have := g.1; omega
theorem rdF_none {t : List UInt8} (h : t.length ≤ 20000) (hh : t.head? ≠ some 82) : rdF t = 7 ∧ ∀ n q k zs, Good t n q → ¬ IsBody (q.take n) k zs := by
  refine ⟨?_, fun n q k zs g => ?_⟩
  · unfold rdF
    rw [if_neg (by omega)]
    cases t with
    | nil => rfl
    | cons c r =>
      have : c ≠ 82 := fun e => hh (by rw [e]; rfl)
      simp [this]
  · rw [g.2.1] at hh; exact absurd rfl hh
theorem rdF_short {r : List UInt8} (h : r.length < 20000) (hs : Short r) : rdF (82 :: r) = 6 ∧ ∀ n q k zs, Good (82 :: r) n q → ¬ IsBody (q.take n) k zs := by
  refine ⟨?_, fun n q k zs g => ?_⟩
  · unfold rdF
    rw [if_neg (by simp; omega)]
    simp [hs]
  · have e := g.2.1
    simp only [List.cons.injEq, true_and] at e
    have := congrArg List.length e
    have h4 := g.2.2.2.1
    simp only [List.length_append] at this
    rcases hs with rfl | ⟨x, rfl, -⟩
    · simp at this; omega
    · simp only [List.length_singleton] at this; omega
theorem rdF_len {r : List UInt8} (h : r.length < 20000) (hs : ¬ Short r) (hn : ∀ n q, rdN 2 r = some (n, q) → 1000 < n) : rdF (82 :: r) = 3 ∧ ∀ n q k zs, Good (82 :: r) n q → ¬ IsBody (q.take n) k zs := by
  refine ⟨?_, fun n q k zs g => ?_⟩
  · unfold rdF
    rw [if_neg (by simp; omega)]
    simp only [ne_eq, not_true_eq_false, if_false, hs]
    cases e : rdN 2 r with
    | none => rfl
    | some p =>
      obtain ⟨n, q⟩ := p
      simp [hn n q e]
  · have e := g.2.1
    simp only [List.cons.injEq, true_and] at e
    have := hn n q (by rw [e]; exact rdN_numB 2 n q (numB_two g.2.2.1))
    have := g.2.2.1; omega
theorem good_of {r : List UInt8} {n : Nat} {q : List UInt8} (hr : rdN 2 r = some (n, q)) {m : Nat} {p : List UInt8} (g : Good (82 :: r) m p) : m = n ∧ p = q := by
  have e := g.2.1
  simp only [List.cons.injEq, true_and] at e
  rw [(rdN_some _ _ _ _ hr).1] at e
  have := numB_inj e
  exact ⟨this.1.symm, this.2.symm⟩
theorem rdF_cut {r : List UInt8} (h : r.length < 20000) (hs : ¬ Short r) {n : Nat} {q : List UInt8} (hr : rdN 2 r = some (n, q)) (hn : n ≤ 1000) (hq : q.length < n + 4) : rdF (82 :: r) = 6 ∧ ∀ n q k zs, Good (82 :: r) n q → ¬ IsBody (q.take n) k zs := by
  refine ⟨?_, fun m p k zs g => ?_⟩
  · unfold rdF
    rw [if_neg (by simp; omega)]
    simp only [ne_eq, not_true_eq_false, if_false, hs, hr]
    rw [if_neg (by omega), if_pos hq]
  · obtain ⟨rfl, rfl⟩ := good_of hr g
    have := g.2.2.2.1; omega
theorem rdF_sum {r : List UInt8} (h : r.length < 20000) (hs : ¬ Short r) {n : Nat} {q : List UInt8} (hr : rdN 2 r = some (n, q)) (hn : n ≤ 1000) (hq : n + 4 ≤ q.length) (hx : (q.drop n).take 4 ≠ fourB (sumL (numB n ++ q.take n))) : rdF (82 :: r) = 5 ∧ ∀ n q k zs, Good (82 :: r) n q → ¬ IsBody (q.take n) k zs := by
  refine ⟨?_, fun m p k zs g => ?_⟩
  · unfold rdF
    rw [if_neg (by simp; omega)]
    simp only [ne_eq, not_true_eq_false, if_false, hs, hr]
    rw [if_neg (by omega), if_neg (by omega), if_pos hx]
  · obtain ⟨rfl, rfl⟩ := good_of hr g
    exact absurd g.2.2.2.2 hx
theorem rdF_body {r : List UInt8} (h : r.length < 20000) (hs : ¬ Short r) {n : Nat} {q : List UInt8} (hr : rdN 2 r = some (n, q)) (hn : n ≤ 1000) (hq : n + 4 ≤ q.length) (hx : (q.drop n).take 4 = fourB (sumL (numB n ++ q.take n))) (hb : ∀ k zs, ¬ IsBody (q.take n) k zs) : rdF (82 :: r) = 3 ∧ ∀ n q k zs, Good (82 :: r) n q → ¬ IsBody (q.take n) k zs := by
  refine ⟨?_, fun m p k zs g => ?_⟩
  · unfold rdF
    rw [if_neg (by simp; omega)]
    simp only [ne_eq, not_true_eq_false, if_false, hs, hr]
    rw [if_neg (by omega), if_neg (by omega), if_neg (by simp [hx])]
  · obtain ⟨rfl, rfl⟩ := good_of hr g
    exact hb k zs

/-- The answer's own block, nothing told yet. -/
def QAt (w : World) (b : Nat) : Prop := w.heap[b]? = some (.cells #[.int .i64 0, .slice none 0 0, .int .i64 0, .int .i64 0] 36)
theorem QAt.cells {w : World} {b : Nat} (h : QAt w b) : w.cell? ⟨b, 0, none⟩ = some (.int .i64 0) ∧ w.cell? ⟨b, 1, none⟩ = some (.slice none 0 0) ∧ w.cell? ⟨b, 2, none⟩ = some (.int .i64 0) ∧ w.cell? ⟨b, 3, none⟩ = some (.int .i64 0) ∧ (∀ o, w.frozen? ⟨b, o, none⟩ = false) ∧ b < w.heap.size := by
  have hl := (Array.getElem?_eq_some_iff.1 h).1
  unfold QAt at h
  refine ⟨?_, ?_, ?_, ?_, fun o => ?_, hl⟩
  · simp [World.cell?, h]
  · simp [World.cell?, h]
  · simp [World.cell?, h]
  · simp [World.cell?, h]
  · simp [World.frozen?, h]
theorem QAt.below {w w' : World} {b : Nat} (h : QAt w b) (hb : Below w.heap.size w w') : QAt w' b := (hb.block b (Array.getElem?_eq_some_iff.1 h).1).trans h
theorem QAt.new (w : World) : QAt (w.alloc (.cells #[.int .i64 0, .slice none 0 0, .int .i64 0, .int .i64 0] 36)) w.heap.size := by
  show (w.heap.push _)[w.heap.size]? = _
  simp
def QV (w : World) (b : Nat) (x0 x1 x2 x3 : Value) : Prop := w.heap[b]? = some (.cells #[x0, x1, x2, x3] 36)
theorem QV.cells {w : World} {b : Nat} {x0 x1 x2 x3 : Value} (h : QV w b x0 x1 x2 x3) : w.cell? ⟨b, 0, none⟩ = some x0 ∧ w.cell? ⟨b, 1, none⟩ = some x1 ∧ w.cell? ⟨b, 2, none⟩ = some x2 ∧ w.cell? ⟨b, 3, none⟩ = some x3 := by
  unfold QV at h
  refine ⟨?_, ?_, ?_, ?_⟩ <;> simp [World.cell?, h]
theorem QV.alloc {w : World} {b : Nat} {x0 x1 x2 x3 : Value} (h : QV w b x0 x1 x2 x3) (o : Obj) : QV (w.alloc o) b x0 x1 x2 x3 := (Below.heap_alloc _ _ b (Array.getElem?_eq_some_iff.1 h).1).trans h
theorem QAt.set4 {w : World} {b : Nat} (h : QAt w b) (x0 x1 x2 x3 : Value) : QV ((((w.setCell ⟨b, 0, none⟩ x0).setCell ⟨b, 1, none⟩ x1).setCell ⟨b, 2, none⟩ x2).setCell ⟨b, 3, none⟩ x3) b x0 x1 x2 x3 :=
  heap_setCell_same _ b 3 _ 36 _ (heap_setCell_same _ b 2 _ 36 _ (heap_setCell_same _ b 1 _ 36 _ (heap_setCell_same w b 0 _ 36 _ h)))
theorem b4 {w w' : World} (h : Below w.heap.size w w') (x0 x1 x2 x3 : Value) : Below w.heap.size w ((((w'.setCell ⟨w.heap.size, 0, none⟩ x0).setCell ⟨w.heap.size, 1, none⟩ x1).setCell ⟨w.heap.size, 2, none⟩ x2).setCell ⟨w.heap.size, 3, none⟩ x3) :=
  (((h.setCell (Nat.le_refl _) _).setCell (Nat.le_refl _) _).setCell (Nat.le_refl _) _).setCell (Nat.le_refl _) _

set_option maxRecDepth 100000 in
set_option maxHeartbeats 1000000 in
theorem irr_none (s : ByteArray) (h : 20000 < s.size) (w : World) :
    Calls Tryd.prog 16 #[.string s] w fun e w' => e = .returned (RO 0 (.slice none 0 0) 0 2) ∧ Below w.heap.size w w' := by
  have h' : (20000 : Int) < (s.size : Int) := by omega
  go_enter Tryd.func16, Tryd.ntmps16
  go_wp2
  exact bodyPost_ret (v := RO 0 (.slice none 0 0) 0 2) (by simp [results, Tryd.results16, go_sem]) rfl ⟨rfl, bA0 _ _⟩

set_option maxRecDepth 100000 in
set_option maxHeartbeats 1000000 in
theorem ird_main (s : ByteArray) (r : List UInt8) (hs : s.size ≤ 20000) (hd : s.data.toList = 82 :: r) (w : World) (ht : U8 w) :
    Calls Tryd.prog 16 #[.string s] w fun e w' => RdPost (82 :: r) w e w' := by
  have hlen : s.data.toList.length = s.size := by simp
  have hp : 0 < s.size := by rw [← hlen, hd]; simp
  have hp' : (1 : Int) ≤ (s.size : Int) := by omega
  have hsz : ¬ (20000 : Int) < (s.size : Int) := by omega
  have hE : s.toList.isEmpty = false := by rw [Go.ByteArray.toList_eq, hd]; rfl
  have h82 : (s[0]'hp) = 82 := by
    have := drop_cons s 0 hp
    simp only [List.drop_zero, hd, List.cons.injEq] at this
    exact this.1.symm
  have e82 : ((s[0]'hp).toNat : Int) = 82 := by rw [h82]; rfl
  have eR : (s.extract 1 s.size).data.toList = r := by
    rw [Lib.extract_data, hd]
    simp only [List.drop_succ_cons, List.drop_zero]
    exact List.take_of_length_le (by rw [hd] at hlen; simp at hlen; omega)
  have zR : (s.extract 1 s.size).size = s.size - 1 := by simp
  have LA : Hid (∀ w, Calls Tryd.prog 43 #[.string (s.extract 1 s.size)] w fun e w' => LenPost r w e w') := fun w => by
    have := len_any (s.extract 1 s.size) (by omega) w; rwa [eR] at this
  have hr : r.length < 20000 := by rw [hd] at hlen; simp at hlen; omega
  have zr : (s.extract 1 s.size).size = r.length := by rw [← eR]; simp
  have HT := Lib.hid ht
  have ER := Lib.hid eR
  clear eR ht zR hd hlen h82
  have Q0 := QAt.new w
  go_enter Tryd.func16, Tryd.ntmps16
  go_wp2_with fail
  refine (LA.out _).mono ?_
  rintro e w1 ⟨hpost, b1⟩
  have Q1 := Lib.hid (Q0.below b1)
  have B1 : Hid (Below w.heap.size w w1) := bT (bA0 _ _) b1
  obtain ⟨c0, c1, c2, c3, cf, cl⟩ := Q1.out.cells
  generalize s.extract 1 s.size = R at *
  clear b1 Q0 LA
  rcases hpost with ⟨hS, rfl⟩ | ⟨hS, hn, rfl⟩ | ⟨hS, n, q, hR, hn, rfl⟩
  · have F := Lib.hid (rdF_short hr hS)
    clear hS
    go_wp2
    exact bodyPost_ret (v := RO 0 (.slice none 0 0) 0 6) (by simp [results, Tryd.results16, go_sem, c0, c1, c2, c3]) rfl (.inr ⟨F.out.2, by rw [F.out.1], b4 B1.out _ _ _ _⟩)
  · have F := Lib.hid (rdF_len hr hS hn)
    clear hS hn
    go_wp2
    exact bodyPost_ret (v := RO 0 (.slice none 0 0) 0 3) (by simp [results, Tryd.results16, go_sem, c0, c1, c2, c3]) rfl (.inr ⟨F.out.2, by rw [F.out.1], b4 B1.out _ _ _ _⟩)
  · have hm2 := numB_two hn
    have e := (rdN_some _ _ _ _ hR).1
    have hrl : r.length = (numB n).length + q.length := by rw [e]; simp
    by_cases hq : q.length < n + 4
    · have F := Lib.hid (rdF_cut hr hS hR hn hq)
      have hq' : (R.size : Int) < ((numB n).length : Int) + (n : Int) + 4 := by omega
      clear hS hR e
      generalize (numB n).length = m at *
      go_wp2
      exact bodyPost_ret (v := RO 0 (.slice none 0 0) 0 6) (by simp [results, Tryd.results16, go_sem, c0, c1, c2, c3]) rfl (.inr ⟨F.out.2, by rw [F.out.1], b4 B1.out _ _ _ _⟩)
    · have hq' : ¬ (R.size : Int) < ((numB n).length : Int) + (n : Int) + 4 := by omega
      have f1 : (R.extract ((numB n).length + n) ((numB n).length + n + 4)).data.toList = (q.drop n).take 4 := by
        rw [Lib.extract_data, ER.out, e, List.drop_append]
        simp [List.drop_of_length_le]
      have f2 : (R.extract 0 ((numB n).length + n)).data.toList = numB n ++ q.take n := by
        rw [Lib.extract_data, ER.out, e, List.drop_zero, Nat.sub_zero, List.take_append, List.take_of_length_le (by omega)]
        simp
      have f3 : (R.extract (numB n).length ((numB n).length + n)).data.toList = q.take n := by
        rw [Lib.extract_data, ER.out, e, List.drop_left]
        simp
      have SI : Hid (∀ w, Calls Tryd.prog 44 #[.string (R.extract ((numB n).length + n) ((numB n).length + n + 4))] w fun e w' => ∃ x : Nat, e = .returned (.int .i64 x) ∧ x < 4294967296 ∧ (q.drop n).take 4 = fourB x ∧ w' = w) := fun w => by
        have := sumIn_any (R.extract ((numB n).length + n) ((numB n).length + n + 4)) (by simp; omega) w
        rwa [f1] at this
      have RS : Hid (∀ w1, Below w.heap.size w w1 → Calls Tryd.prog 20 #[.string (R.extract 0 ((numB n).length + n))] w1 fun e w' => e = .returned (.int .i64 (sumL (numB n ++ q.take n))) ∧ Below w1.heap.size w1 w') := fun w1 hb => by
        have := isum_any (R.extract 0 ((numB n).length + n)) (by simp; omega) w1 (HT.out.below hb)
        rwa [f2] at this
      have RC : Hid (∀ w, Calls Tryd.prog 45 #[.string (R.extract (numB n).length ((numB n).length + n))] w fun e w' => RecPost w.heap.size (q.take n) w e w') := fun w => by
        have := recOf_any (R.extract (numB n).length ((numB n).length + n)) (by simp; omega) w
        rwa [f3] at this
      have hSl := sumL_lt (numB n ++ q.take n)
      have FS := Lib.hid (fun h => rdF_sum hr hS hR hn (by omega) h)
      have FB := Lib.hid (fun h => rdF_body hr hS hR hn (by omega) h)
      have FG : Hid ((q.drop n).take 4 = fourB (sumL (numB n ++ q.take n)) → Good (82 :: r) n q) := fun h => ⟨by simp; omega, by rw [e], hn, by omega, h⟩
      clear hS hR f1 f2 f3 e HT
      generalize sumL (numB n ++ q.take n) = S at *
      generalize hm : (numB n).length = m at *
      have HM := Lib.hid hm
      clear hm
      go_wp2_with fail
      rw [show (m : Int) + (n : Int) = ((m + n : Nat) : Int) by omega]
      have hbn : m + n + 4 ≤ R.size := by omega
      have hRz : R.size ≤ 20000 := by omega
      have HMN : Hid (m + n = m + n) := rfl
      generalize hb : m + n = b at *
      have hz1 : (b : Int) + 4 ≤ (R.size : Int) := by omega
      have hz2 : (0 : Int) ≤ (b : Int) := by omega
      have hz3 : (b : Int) ≤ (b : Int) + 4 := by omega
      have hz4 : (b : Int) ≤ (R.size : Int) := by omega
      have hz5 : (R.size : Int) ≤ 20000 := by omega
      have hb5 : (0 : Int) ≤ (b : Int) + 4 := by omega
      have hz6 : (m : Int) ≤ (b : Int) := by omega
      have hw2 : IntKind.i64.wrap ((b : Int) + 4) = (b : Int) + 4 := by rw [IntKind.wrap_i64]; omega
      have HBB := Lib.hid hb
      clear zr hb HMN hrl hm2 hn hr hq hq'
      go_region_held3 (fun _ => True) (first | exact True.intro) (first | (go_at_call 44; refine (SI.out _).mono ?_; rintro e w2 ⟨x, rfl, hx, hF, rfl⟩) | (go_at_call 20; refine (RS.out _ (B1.out.drew)).mono ?_; rintro e w3 ⟨rfl, b3⟩))
      have Q3 := Lib.hid (QAt.below (show QAt w1.drew w.heap.size from Q1.out) b3)
      have B3 : Hid (Below w.heap.size w w3) := bT B1.out.drew b3
      have HF := Lib.hid hF
      clear hF b3 c0 c1 c2 c3 cf SI RS
      obtain ⟨c0, c1, c2, c3, cf, cl3⟩ := Q3.out.cells
      by_cases hxS : x = S
      · have hxS' : ((x : Int) != (S : Int)) = false := by simp [hxS]
        go_wp2_with fail
        refine (RC.out _).mono ?_
        rintro e w4 (⟨k, zs, v, hb, rfl, hown, b4'⟩ | ⟨hno, rfl, b4'⟩)
        · obtain ⟨sl, cp, rfl, -⟩ := own_ints hown
          have G := Lib.hid (FG.out (by rw [HF.out, hxS]))
          have HB := Lib.hid hb
          have Q4 := Lib.hid (Q3.out.below b4')
          have B4 : Hid (Below w.heap.size w w4) := bT B3.out b4'
          have hw3 := B3.out.size
          have O4 := Lib.hid (own_mono hown (show w.heap.size + 1 ≤ _ by omega))
          clear hb hown b4' c0 c1 c2 c3 cf RC FS FB FG
          obtain ⟨c0, c1, c2, c3, cf, cl4⟩ := Q4.out.cells
          generalize hzl : zs.length = zl at *
          have HZL := Lib.hid hzl
          clear hzl
          obtain ⟨k0, k1, k2, k3⟩ := ((Q4.out.set4 (.int .i64 k) (.slice sl zl cp) (.int .i64 (1 + (b : Int) + 4)) (.int .i64 0)).alloc (.cells #[.int .i64 k, .slice sl zl cp] 28)).cells
          have hu : Hid ((1 + (b : Int) + 4) = 1 + ((numB n).length : Int) + (n : Int) + 4) := by show _ = _; have h1 := HBB.out; have h2 := HM.out; omega
          go_wp2
          refine bodyPost_ret (v := RO k (.slice sl zl cp) (1 + (b : Int) + 4) 0) (by simp [results, Tryd.results16, go_sem, k0, k1, k2, k3]) rfl (.inl ⟨n, q, k, zs, _, G.out, HB.out, by rw [← hu.out], ?_, bA (b4 B4.out _ _ _ _) _⟩)
          rw [HZL.out]
          exact own_mono (own_below (own_set (own_set (own_set (own_set O4.out (Nat.lt_succ_self _) _ _) (Nat.lt_succ_self _) _ _) (Nat.lt_succ_self _) _ _) (Nat.lt_succ_self _) _ _) (bA0 _ _)) (Nat.le_succ _)
        · have F := Lib.hid (FB.out (by rw [HF.out, hxS]) hno)
          have Q4 := Lib.hid (Q3.out.below b4')
          have B4 : Hid (Below w.heap.size w w4) := bT B3.out b4'
          clear hno b4' c0 c1 c2 c3 cf RC FS FB FG
          obtain ⟨c0, c1, c2, c3, cf, cl4⟩ := Q4.out.cells
          obtain ⟨k0, k1, k2, k3⟩ := ((Q4.out.set4 (.int .i64 0) (.slice none 0 0) (.int .i64 0) (.int .i64 3)).alloc (.cells #[.int .i64 0, .slice none 0 0] 28)).cells
          go_wp2
          exact bodyPost_ret (v := RO 0 (.slice none 0 0) 0 3) (by simp [results, Tryd.results16, go_sem, k0, k1, k2, k3]) rfl (.inr ⟨F.out.2, by rw [F.out.1], bA (b4 B4.out _ _ _ _) _⟩)
      · have hxS' : ((x : Int) != (S : Int)) = true := by simp; omega
        have F := Lib.hid (FS.out (by rw [HF.out]; exact fun e => hxS (fourB_inj hx (by omega) e)))
        clear RC FS FB FG
        go_wp2
        exact bodyPost_ret (v := RO 0 (.slice none 0 0) 0 5) (by simp [results, Tryd.results16, go_sem, c0, c1, c2, c3]) rfl (.inr ⟨F.out.2, by rw [F.out.1], b4 B3.out _ _ _ _⟩)

set_option maxRecDepth 100000 in
set_option maxHeartbeats 1000000 in
theorem ird_seven (s : ByteArray) (hs : s.size ≤ 20000) (hd : s.data.toList.head? ≠ some 82) (w : World) :
    Calls Tryd.prog 16 #[.string s] w fun e w' => e = .returned (RO 0 (.slice none 0 0) 0 7) ∧ Below w.heap.size w w' := by
  have hlen : s.data.toList.length = s.size := by simp
  have hsz : ¬ (20000 : Int) < (s.size : Int) := by omega
  by_cases h0 : s.size = 0
  · have e0 : s.data.toList = [] := List.eq_nil_of_length_eq_zero (by omega)
    have hE : s.toList.isEmpty = true := by rw [Go.ByteArray.toList_eq, e0]; rfl
    clear hd
    go_enter Tryd.func16, Tryd.ntmps16
    go_wp2
    exact bodyPost_ret (v := RO 0 (.slice none 0 0) 0 7) (by simp [results, Tryd.results16, go_sem]) rfl ⟨rfl, bA0 _ _⟩
  · have hp : 0 < s.size := by omega
    have hE : s.toList.isEmpty = false := by
      rw [Go.ByteArray.toList_eq]
      cases e : s.data.toList with
      | nil => rw [e] at hlen; simp at hlen; omega
      | cons a r => rfl
    have hne : ((s[0]'hp).toNat : Int) ≠ 82 := by
      intro e
      have e1 : (s[0]'hp) = 82 := by apply UInt8.toNat_inj.1; rw [show (82 : UInt8).toNat = 82 from rfl]; omega
      have := drop_cons s 0 hp
      rw [List.drop_zero] at this
      rw [this, e1] at hd
      exact hd rfl
    have hne' : (((s[0]'hp).toNat : Int) != 82) = true := by simp; omega
    have hp' : (0 : Int) < (s.size : Int) := by omega
    clear hd
    go_enter Tryd.func16, Tryd.ntmps16
    go_wp2
    exact bodyPost_ret (v := RO 0 (.slice none 0 0) 0 7) (by simp [results, Tryd.results16, go_sem]) rfl ⟨rfl, bA0 _ _⟩

theorem ird_any (s : ByteArray) (w : World) (ht : U8 w) : Calls Tryd.prog 16 #[.string s] w fun e w' => RdPost s.data.toList w e w' := by
  have hlen : s.data.toList.length = s.size := by simp
  by_cases h : 20000 < s.size
  · obtain ⟨f1, f2⟩ := rdF_long (t := s.data.toList) (by omega)
    refine (irr_none s h w).mono ?_
    rintro e w' ⟨rfl, hb⟩
    exact .inr ⟨f2, by rw [f1], hb⟩
  · by_cases hd : s.data.toList.head? = some 82
    · obtain ⟨r, hr⟩ : ∃ r, s.data.toList = 82 :: r := by
        cases e : s.data.toList with
        | nil => rw [e] at hd; cases hd
        | cons a r => rw [e] at hd; simp at hd; exact ⟨r, by rw [hd]⟩
      rw [hr]
      exact ird_main s r (by omega) hr w ht
    · obtain ⟨f1, f2⟩ := rdF_none (t := s.data.toList) (by omega) hd
      refine (ird_seven s (by omega) hd w).mono ?_
      rintro e w' ⟨rfl, hb⟩
      exact .inr ⟨f2, by rw [f1], hb⟩

end Go.Proofs.YtnkdkbchendpmaaDoor
