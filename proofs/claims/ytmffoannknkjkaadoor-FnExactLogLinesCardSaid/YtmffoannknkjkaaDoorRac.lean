/-
  A RECORD READ, AS THE PROGRAM DOES IT.
  RECORDS ONE BEHIND THE OTHER: what is read of a text, the thinking.
  THE DRAWS: a source of numbers.
  THE DRAWS: how a source begins.
  THE DRAWS: a coin, and a number between two.
  THE DRAWS, BESIDE LISTS THAT GROW: a source that lies below a bound; a list of numbers.
  THE DRAWS: a record.
  THE LAWS' RECORDS: what their list is, and how it is kept.
  THE LAWS' RECORDS: their list.
  RECORDS ONE BEHIND THE OTHER: as the program reads them.
  A RECORD's BYTES, AS THE PROGRAM WRITES THEM.
  A RECORD's BYTES, AS THE PROGRAM TELLS THEM.
-/
import Derived.Test.YtmffoannknkjkaaDoorBa
import Derived.Test.YtmffoannknkjkaaDoorRab
import Derived.Test.YtmffoannknkjkaaDoorRaa
import Derived.Deep.QuietTactic
import Derived.BigQuiet
import Derived.RegionTactic
import Derived.ChangeAlike
import Derived.Deep.AppendLies
import Derived.Deep.RegionLaw
import Derived.Deep.RegionHeld3
import Derived.Deep.LoopGhost
namespace Go.Proofs.YtmffoannknkjkaaDoor
open Go.RowKit
set_option linter.unusedVariables false

/-- The text begins with a length and as many bytes with their sum. -/
def Good (t : List UInt8) (n : Nat) (q : List UInt8) : Prop :=
  t.length ≤ 20000 ∧ t = 82 :: (numB n ++ q) ∧ n ≤ 1000 ∧ n + 4 ≤ q.length ∧ (q.drop n).take 4 = fourB (sumL (numB n ++ q.take n))
/-- The code of a text that is refused. -/
noncomputable def rdF (t : List UInt8) : Int := open Classical in
  if 20000 < t.length then 2 else match t with
    | [] => 7
    | c :: r => if c ≠ 82 then 7 else if Short r then 6 else match rdN 2 r with
      | none => 3
      | some (n, q) => if 1000 < n then 3 else if q.length < n + 4 then 6 else if (q.drop n).take 4 ≠ fourB (sumL (numB n ++ q.take n)) then 5 else 3
theorem Good.inj {t : List UInt8} {n m : Nat} {q p : List UInt8} (h : Good t n q) (k : Good t m p) : n = m ∧ q = p := by
  have e := h.2.1
  rw [k.2.1] at e
  simp only [List.cons.injEq, true_and] at e
  have := numB_inj e
  exact ⟨this.1.symm, this.2.symm⟩
theorem numB_two {n : Nat} (h : n ≤ 1000) : (numB n).length ≤ 2 := (numB_len n 1 (by omega)).2
theorem fourB_inj {x y : Nat} (hx : x < 4294967296) (hy : y < 4294967296) (h : fourB x = fourB y) : x = y := by
  simp only [fourB, List.cons.injEq, and_true] at h
  have u (a b : Nat) (ha : a < 256) (hb : b < 256) (e : a.toUInt8 = b.toUInt8) : a = b := by
    have := congrArg UInt8.toNat e
    rwa [u8_toNat a ha, u8_toNat b hb] at this
  have a1 := u _ _ (by omega) (by omega) h.1
  have a2 := u _ _ (by omega) (by omega) h.2.1
  have a3 := u _ _ (by omega) (by omega) h.2.2.1
  have a4 := u _ _ (by omega) (by omega) h.2.2.2
  omega
abbrev RO (k : Int) (v : Value) (u c : Int) : Value := .agg #[.int .i64 k, v, .int .i64 u, .int .i64 c]
def RdPost (t : List UInt8) (w : World) (e : Ending) (w' : World) : Prop :=
  (∃ n q k zs v, Good t n q ∧ IsBody (q.take n) k zs ∧ e = .returned (RO k v (1 + (numB n).length + n + 4) 0) ∧ w'.ownsRow w.heap.size 2 1 v zs.length (valsZ zs) ∧ Below w.heap.size w w') ∨
  ((∀ n q k zs, Good t n q → ¬ IsBody (q.take n) k zs) ∧ e = .returned (RO 0 (.slice none 0 0) 0 (rdF t)) ∧ Below w.heap.size w w')

theorem rdF_long {t : List UInt8} (h : 20000 < t.length) : rdF t = 2 ∧ ∀ n q k zs, Good t n q → ¬ IsBody (q.take n) k zs := by
  refine ⟨by unfold rdF; rw [if_pos h], fun n q k zs g => ?_⟩
  have := g.1; omega
theorem rdF_none {t : List UInt8} (h : t.length ≤ 20000) (hh : t.head? ≠ some 82) : rdF t = 7 ∧ ∀ n q k zs, Good t n q → ¬ IsBody (q.take n) k zs := by
  refine ⟨?_, fun n q k zs g => ?_⟩
  · unfold rdF
    rw [if_neg (by omega)]
    cases t with
    | nil => rfl
    | cons c r =>
      have : c ≠ 82 := fun e => hh (by rw [e]; rfl)
      simp [this]
  · rw [g.2.1] at hh; exact absurd rfl hh
theorem rdF_short {r : List UInt8} (h : r.length < 20000) (hs : Short r) : rdF (82 :: r) = 6 ∧ ∀ n q k zs, Good (82 :: r) n q → ¬ IsBody (q.take n) k zs := by
  refine ⟨?_, fun n q k zs g => ?_⟩
  · unfold rdF
    rw [if_neg (by simp; omega)]
    simp [hs]
  · have e := g.2.1
    simp only [List.cons.injEq, true_and] at e
    have := congrArg List.length e
    have h4 := g.2.2.2.1
    simp only [List.length_append] at this
    rcases hs with rfl | ⟨x, rfl, -⟩
    · simp at this; omega
    · simp only [List.length_singleton] at this; omega
theorem rdF_len {r : List UInt8} (h : r.length < 20000) (hs : ¬ Short r) (hn : ∀ n q, rdN 2 r = some (n, q) → 1000 < n) : rdF (82 :: r) = 3 ∧ ∀ n q k zs, Good (82 :: r) n q → ¬ IsBody (q.take n) k zs := by
  refine ⟨?_, fun n q k zs g => ?_⟩
  · unfold rdF
    rw [if_neg (by simp; omega)]
    simp only [ne_eq, not_true_eq_false, if_false, hs]
    cases e : rdN 2 r with
    | none => rfl
    | some p =>
      obtain ⟨n, q⟩ := p
      simp [hn n q e]
  · have e := g.2.1
    simp only [List.cons.injEq, true_and] at e
    have := hn n q (by rw [e]; exact rdN_numB 2 n q (numB_two g.2.2.1))
    have := g.2.2.1; omega
theorem good_of {r : List UInt8} {n : Nat} {q : List UInt8} (hr : rdN 2 r = some (n, q)) {m : Nat} {p : List UInt8} (g : Good (82 :: r) m p) : m = n ∧ p = q := by
  have e := g.2.1
  simp only [List.cons.injEq, true_and] at e
  rw [(rdN_some _ _ _ _ hr).1] at e
  have := numB_inj e
  exact ⟨this.1.symm, this.2.symm⟩
theorem rdF_cut {r : List UInt8} (h : r.length < 20000) (hs : ¬ Short r) {n : Nat} {q : List UInt8} (hr : rdN 2 r = some (n, q)) (hn : n ≤ 1000) (hq : q.length < n + 4) : rdF (82 :: r) = 6 ∧ ∀ n q k zs, Good (82 :: r) n q → ¬ IsBody (q.take n) k zs := by
  refine ⟨?_, fun m p k zs g => ?_⟩
  · unfold rdF
    rw [if_neg (by simp; omega)]
    simp only [ne_eq, not_true_eq_false, if_false, hs, hr]
    rw [if_neg (by omega), if_pos hq]
  · obtain ⟨rfl, rfl⟩ := good_of hr g
    have := g.2.2.2.1; omega
theorem rdF_sum {r : List UInt8} (h : r.length < 20000) (hs : ¬ Short r) {n : Nat} {q : List UInt8} (hr : rdN 2 r = some (n, q)) (hn : n ≤ 1000) (hq : n + 4 ≤ q.length) (hx : (q.drop n).take 4 ≠ fourB (sumL (numB n ++ q.take n))) : rdF (82 :: r) = 5 ∧ ∀ n q k zs, Good (82 :: r) n q → ¬ IsBody (q.take n) k zs := by
  refine ⟨?_, fun m p k zs g => ?_⟩
  · unfold rdF
    rw [if_neg (by simp; omega)]
    simp only [ne_eq, not_true_eq_false, if_false, hs, hr]
    rw [if_neg (by omega), if_neg (by omega), if_pos hx]
  · obtain ⟨rfl, rfl⟩ := good_of hr g
    exact absurd g.2.2.2.2 hx
theorem rdF_body {r : List UInt8} (h : r.length < 20000) (hs : ¬ Short r) {n : Nat} {q : List UInt8} (hr : rdN 2 r = some (n, q)) (hn : n ≤ 1000) (hq : n + 4 ≤ q.length) (hx : (q.drop n).take 4 = fourB (sumL (numB n ++ q.take n))) (hb : ∀ k zs, ¬ IsBody (q.take n) k zs) : rdF (82 :: r) = 3 ∧ ∀ n q k zs, Good (82 :: r) n q → ¬ IsBody (q.take n) k zs := by
  refine ⟨?_, fun m p k zs g => ?_⟩
  · unfold rdF
    rw [if_neg (by simp; omega)]
    simp only [ne_eq, not_true_eq_false, if_false, hs, hr]
    rw [if_neg (by omega), if_neg (by omega), if_neg (by simp [hx])]
  · obtain ⟨rfl, rfl⟩ := good_of hr g
    exact hb k zs

/-- The answer's own block, nothing told yet. -/
def QAt (w : World) (b : Nat) : Prop := w.heap[b]? = some (.cells #[.int .i64 0, .slice none 0 0, .int .i64 0, .int .i64 0] 52)
theorem QAt.cells {w : World} {b : Nat} (h : QAt w b) : w.cell? ⟨b, 0, none⟩ = some (.int .i64 0) ∧ w.cell? ⟨b, 1, none⟩ = some (.slice none 0 0) ∧ w.cell? ⟨b, 2, none⟩ = some (.int .i64 0) ∧ w.cell? ⟨b, 3, none⟩ = some (.int .i64 0) ∧ (∀ o, w.frozen? ⟨b, o, none⟩ = false) ∧ b < w.heap.size := by
  have hl := (Array.getElem?_eq_some_iff.1 h).1
  unfold QAt at h
  refine ⟨?_, ?_, ?_, ?_, fun o => ?_, hl⟩
  · simp [World.cell?, h]
  · simp [World.cell?, h]
  · simp [World.cell?, h]
  · simp [World.cell?, h]
  · simp [World.frozen?, h]
theorem QAt.below {w w' : World} {b : Nat} (h : QAt w b) (hb : Below w.heap.size w w') : QAt w' b := (hb.block b (Array.getElem?_eq_some_iff.1 h).1).trans h
theorem QAt.new (w : World) : QAt (w.alloc (.cells #[.int .i64 0, .slice none 0 0, .int .i64 0, .int .i64 0] 52)) w.heap.size := by
  show (w.heap.push _)[w.heap.size]? = _
  simp
def QV (w : World) (b : Nat) (x0 x1 x2 x3 : Value) : Prop := w.heap[b]? = some (.cells #[x0, x1, x2, x3] 52)
theorem QV.cells {w : World} {b : Nat} {x0 x1 x2 x3 : Value} (h : QV w b x0 x1 x2 x3) : w.cell? ⟨b, 0, none⟩ = some x0 ∧ w.cell? ⟨b, 1, none⟩ = some x1 ∧ w.cell? ⟨b, 2, none⟩ = some x2 ∧ w.cell? ⟨b, 3, none⟩ = some x3 := by
  unfold QV at h
  refine ⟨?_, ?_, ?_, ?_⟩ <;> simp [World.cell?, h]
theorem QV.alloc {w : World} {b : Nat} {x0 x1 x2 x3 : Value} (h : QV w b x0 x1 x2 x3) (o : Obj) : QV (w.alloc o) b x0 x1 x2 x3 := (Below.heap_alloc _ _ b (Array.getElem?_eq_some_iff.1 h).1).trans h
theorem QAt.set4 {w : World} {b : Nat} (h : QAt w b) (x0 x1 x2 x3 : Value) : QV ((((w.setCell ⟨b, 0, none⟩ x0).setCell ⟨b, 1, none⟩ x1).setCell ⟨b, 2, none⟩ x2).setCell ⟨b, 3, none⟩ x3) b x0 x1 x2 x3 :=
  heap_setCell_same _ b 3 _ 52 _ (heap_setCell_same _ b 2 _ 52 _ (heap_setCell_same _ b 1 _ 52 _ (heap_setCell_same w b 0 _ 52 _ h)))
theorem b4 {w w' : World} (h : Below w.heap.size w w') (x0 x1 x2 x3 : Value) : Below w.heap.size w ((((w'.setCell ⟨w.heap.size, 0, none⟩ x0).setCell ⟨w.heap.size, 1, none⟩ x1).setCell ⟨w.heap.size, 2, none⟩ x2).setCell ⟨w.heap.size, 3, none⟩ x3) :=
  (((h.setCell (Nat.le_refl _) _).setCell (Nat.le_refl _) _).setCell (Nat.le_refl _) _).setCell (Nat.le_refl _) _

set_option maxRecDepth 100000 in
set_option maxHeartbeats 1000000 in
theorem irr_none (s : ByteArray) (h : 20000 < s.size) (w : World) :
    Calls Tryd.prog 32 #[.string s] w fun e w' => e = .returned (RO 0 (.slice none 0 0) 0 2) ∧ Below w.heap.size w w' := by
  have h' : (20000 : Int) < (s.size : Int) := by omega
  go_enter Tryd.func32, Tryd.ntmps32
  go_wp2
  exact bodyPost_ret (v := RO 0 (.slice none 0 0) 0 2) (by simp [results, Tryd.results32, go_sem]) rfl ⟨rfl, bA0 _ _⟩

set_option maxRecDepth 100000 in
set_option maxHeartbeats 1000000 in
theorem ird_main (s : ByteArray) (r : List UInt8) (hs : s.size ≤ 20000) (hd : s.data.toList = 82 :: r) (w : World) (ht : U8 w) :
    Calls Tryd.prog 32 #[.string s] w fun e w' => RdPost (82 :: r) w e w' := by
  have hlen : s.data.toList.length = s.size := by simp
  have hp : 0 < s.size := by rw [← hlen, hd]; simp
  have hp' : (1 : Int) ≤ (s.size : Int) := by omega
  have hsz : ¬ (20000 : Int) < (s.size : Int) := by omega
  have hE : s.toList.isEmpty = false := by rw [Go.ByteArray.toList_eq, hd]; rfl
  have h82 : (s[0]'hp) = 82 := by
    have := drop_cons s 0 hp
    simp only [List.drop_zero, hd, List.cons.injEq] at this
    exact this.1.symm
  have e82 : ((s[0]'hp).toNat : Int) = 82 := by rw [h82]; rfl
  have eR : (s.extract 1 s.size).data.toList = r := by
    rw [Lib.extract_data, hd]
    simp only [List.drop_succ_cons, List.drop_zero]
    exact List.take_of_length_le (by rw [hd] at hlen; simp at hlen; omega)
  have zR : (s.extract 1 s.size).size = s.size - 1 := by simp
  have LA : Hid (∀ w, Calls Tryd.prog 40 #[.string (s.extract 1 s.size)] w fun e w' => LenPost r w e w') := fun w => by
    have := len_any (s.extract 1 s.size) (by omega) w; rwa [eR] at this
  have hr : r.length < 20000 := by rw [hd] at hlen; simp at hlen; omega
  have zr : (s.extract 1 s.size).size = r.length := by rw [← eR]; simp
  have HT := Lib.hid ht
  have ER := Lib.hid eR
  clear eR ht zR hd hlen h82
  have Q0 := QAt.new w
  go_enter Tryd.func32, Tryd.ntmps32
  go_wp2_with fail
  refine (LA.out _).mono ?_
  rintro e w1 ⟨hpost, b1⟩
  have Q1 := Lib.hid (Q0.below b1)
  have B1 : Hid (Below w.heap.size w w1) := bT (bA0 _ _) b1
  obtain ⟨c0, c1, c2, c3, cf, cl⟩ := Q1.out.cells
  generalize s.extract 1 s.size = R at *
  clear b1 Q0 LA
  rcases hpost with ⟨hS, rfl⟩ | ⟨hS, hn, rfl⟩ | ⟨hS, n, q, hR, hn, rfl⟩
  · have F := Lib.hid (rdF_short hr hS)
    clear hS
    go_wp2
    exact bodyPost_ret (v := RO 0 (.slice none 0 0) 0 6) (by simp [results, Tryd.results32, go_sem, c0, c1, c2, c3]) rfl (.inr ⟨F.out.2, by rw [F.out.1], b4 B1.out _ _ _ _⟩)
  · have F := Lib.hid (rdF_len hr hS hn)
    clear hS hn
    go_wp2
    exact bodyPost_ret (v := RO 0 (.slice none 0 0) 0 3) (by simp [results, Tryd.results32, go_sem, c0, c1, c2, c3]) rfl (.inr ⟨F.out.2, by rw [F.out.1], b4 B1.out _ _ _ _⟩)
  · have hm2 := numB_two hn
    have e := (rdN_some _ _ _ _ hR).1
    have hrl : r.length = (numB n).length + q.length := by rw [e]; simp
    by_cases hq : q.length < n + 4
    · have F := Lib.hid (rdF_cut hr hS hR hn hq)
      have hq' : (R.size : Int) < ((numB n).length : Int) + (n : Int) + 4 := by omega
      clear hS hR e
      generalize (numB n).length = m at *
      go_wp2
      exact bodyPost_ret (v := RO 0 (.slice none 0 0) 0 6) (by simp [results, Tryd.results32, go_sem, c0, c1, c2, c3]) rfl (.inr ⟨F.out.2, by rw [F.out.1], b4 B1.out _ _ _ _⟩)
    · have hq' : ¬ (R.size : Int) < ((numB n).length : Int) + (n : Int) + 4 := by omega
      have f1 : (R.extract ((numB n).length + n) ((numB n).length + n + 4)).data.toList = (q.drop n).take 4 := by
        rw [Lib.extract_data, ER.out, e, List.drop_append]
        simp [List.drop_of_length_le]
      have f2 : (R.extract 0 ((numB n).length + n)).data.toList = numB n ++ q.take n := by
        rw [Lib.extract_data, ER.out, e, List.drop_zero, Nat.sub_zero, List.take_append, List.take_of_length_le (by omega)]
        simp
      have f3 : (R.extract (numB n).length ((numB n).length + n)).data.toList = q.take n := by
        rw [Lib.extract_data, ER.out, e, List.drop_left]
        simp
      have SI : Hid (∀ w, Calls Tryd.prog 41 #[.string (R.extract ((numB n).length + n) ((numB n).length + n + 4))] w fun e w' => ∃ x : Nat, e = .returned (.int .i64 x) ∧ x < 4294967296 ∧ (q.drop n).take 4 = fourB x ∧ w' = w) := fun w => by
        have := sumIn_any (R.extract ((numB n).length + n) ((numB n).length + n + 4)) (by simp; omega) w
        rwa [f1] at this
      have RS : Hid (∀ w1, Below w.heap.size w w1 → Calls Tryd.prog 42 #[.string (R.extract 0 ((numB n).length + n))] w1 fun e w' => e = .returned (.int .i64 (sumL (numB n ++ q.take n))) ∧ Below w1.heap.size w1 w') := fun w1 hb => by
        have := isum_any (R.extract 0 ((numB n).length + n)) (by simp; omega) w1 (HT.out.below hb)
        rwa [f2] at this
      have RC : Hid (∀ w, Calls Tryd.prog 43 #[.string (R.extract (numB n).length ((numB n).length + n))] w fun e w' => RecPost w.heap.size (q.take n) w e w') := fun w => by
        have := recOf_any (R.extract (numB n).length ((numB n).length + n)) (by simp; omega) w
        rwa [f3] at this
      have hSl := sumL_lt (numB n ++ q.take n)
      have FS := Lib.hid (fun h => rdF_sum hr hS hR hn (by omega) h)
      have FB := Lib.hid (fun h => rdF_body hr hS hR hn (by omega) h)
      have FG : Hid ((q.drop n).take 4 = fourB (sumL (numB n ++ q.take n)) → Good (82 :: r) n q) := fun h => ⟨by simp; omega, by rw [e], hn, by omega, h⟩
      clear hS hR f1 f2 f3 e HT
      generalize sumL (numB n ++ q.take n) = S at *
      generalize hm : (numB n).length = m at *
      have HM := Lib.hid hm
      clear hm
      go_wp2_with fail
      rw [show (m : Int) + (n : Int) = ((m + n : Nat) : Int) by omega]
      have hbn : m + n + 4 ≤ R.size := by omega
      have hRz : R.size ≤ 20000 := by omega
      have HMN : Hid (m + n = m + n) := rfl
      generalize hb : m + n = b at *
      have hz1 : (b : Int) + 4 ≤ (R.size : Int) := by omega
      have hz2 : (0 : Int) ≤ (b : Int) := by omega
      have hz3 : (b : Int) ≤ (b : Int) + 4 := by omega
      have hz4 : (b : Int) ≤ (R.size : Int) := by omega
      have hz5 : (R.size : Int) ≤ 20000 := by omega
      have hb5 : (0 : Int) ≤ (b : Int) + 4 := by omega
      have hz6 : (m : Int) ≤ (b : Int) := by omega
      have hw2 : IntKind.i64.wrap ((b : Int) + 4) = (b : Int) + 4 := by rw [IntKind.wrap_i64]; omega
      have HBB := Lib.hid hb
      clear zr hb HMN hrl hm2 hn hr hq hq'
      go_region_held3 (fun _ => True) (first | exact True.intro) (first | (go_at_call 41; refine (SI.out _).mono ?_; rintro e w2 ⟨x, rfl, hx, hF, rfl⟩) | (go_at_call 42; refine (RS.out _ (B1.out.drew)).mono ?_; rintro e w3 ⟨rfl, b3⟩))
      have Q3 := Lib.hid (QAt.below (show QAt w1.drew w.heap.size from Q1.out) b3)
      have B3 : Hid (Below w.heap.size w w3) := bT B1.out.drew b3
      have HF := Lib.hid hF
      clear hF b3 c0 c1 c2 c3 cf SI RS
      obtain ⟨c0, c1, c2, c3, cf, cl3⟩ := Q3.out.cells
      by_cases hxS : x = S
      · have hxS' : ((x : Int) != (S : Int)) = false := by simp [hxS]
        go_wp2_with fail
        refine (RC.out _).mono ?_
        rintro e w4 (⟨k, zs, v, hb, rfl, hown, b4'⟩ | ⟨hno, rfl, b4'⟩)
        · obtain ⟨sl, cp, rfl, -⟩ := own_ints hown
          have G := Lib.hid (FG.out (by rw [HF.out, hxS]))
          have HB := Lib.hid hb
          have Q4 := Lib.hid (Q3.out.below b4')
          have B4 : Hid (Below w.heap.size w w4) := bT B3.out b4'
          have hw3 := B3.out.size
          have O4 := Lib.hid (own_mono hown (show w.heap.size + 1 ≤ _ by omega))
          clear hb hown b4' c0 c1 c2 c3 cf RC FS FB FG
          obtain ⟨c0, c1, c2, c3, cf, cl4⟩ := Q4.out.cells
          generalize hzl : zs.length = zl at *
          have HZL := Lib.hid hzl
          clear hzl
          obtain ⟨k0, k1, k2, k3⟩ := ((Q4.out.set4 (.int .i64 k) (.slice sl zl cp) (.int .i64 (1 + (b : Int) + 4)) (.int .i64 0)).alloc (.cells #[.int .i64 k, .slice sl zl cp] 42)).cells
          have hu : Hid ((1 + (b : Int) + 4) = 1 + ((numB n).length : Int) + (n : Int) + 4) := by show _ = _; have h1 := HBB.out; have h2 := HM.out; omega
          go_wp2
          refine bodyPost_ret (v := RO k (.slice sl zl cp) (1 + (b : Int) + 4) 0) (by simp [results, Tryd.results32, go_sem, k0, k1, k2, k3]) rfl (.inl ⟨n, q, k, zs, _, G.out, HB.out, by rw [← hu.out], ?_, bA (b4 B4.out _ _ _ _) _⟩)
          rw [HZL.out]
          exact own_mono (own_below (own_set (own_set (own_set (own_set O4.out (Nat.lt_succ_self _) _ _) (Nat.lt_succ_self _) _ _) (Nat.lt_succ_self _) _ _) (Nat.lt_succ_self _) _ _) (bA0 _ _)) (Nat.le_succ _)
        · have F := Lib.hid (FB.out (by rw [HF.out, hxS]) hno)
          have Q4 := Lib.hid (Q3.out.below b4')
          have B4 : Hid (Below w.heap.size w w4) := bT B3.out b4'
          clear hno b4' c0 c1 c2 c3 cf RC FS FB FG
          obtain ⟨c0, c1, c2, c3, cf, cl4⟩ := Q4.out.cells
          obtain ⟨k0, k1, k2, k3⟩ := ((Q4.out.set4 (.int .i64 0) (.slice none 0 0) (.int .i64 0) (.int .i64 3)).alloc (.cells #[.int .i64 0, .slice none 0 0] 42)).cells
          go_wp2
          exact bodyPost_ret (v := RO 0 (.slice none 0 0) 0 3) (by simp [results, Tryd.results32, go_sem, k0, k1, k2, k3]) rfl (.inr ⟨F.out.2, by rw [F.out.1], bA (b4 B4.out _ _ _ _) _⟩)
      · have hxS' : ((x : Int) != (S : Int)) = true := by simp; omega
        have F := Lib.hid (FS.out (by rw [HF.out]; exact fun e => hxS (fourB_inj hx (by omega) e)))
        clear RC FS FB FG
        go_wp2
        exact bodyPost_ret (v := RO 0 (.slice none 0 0) 0 5) (by simp [results, Tryd.results32, go_sem, c0, c1, c2, c3]) rfl (.inr ⟨F.out.2, by rw [F.out.1], b4 B3.out _ _ _ _⟩)

set_option maxRecDepth 100000 in
set_option maxHeartbeats 1000000 in
theorem ird_seven (s : ByteArray) (hs : s.size ≤ 20000) (hd : s.data.toList.head? ≠ some 82) (w : World) :
    Calls Tryd.prog 32 #[.string s] w fun e w' => e = .returned (RO 0 (.slice none 0 0) 0 7) ∧ Below w.heap.size w w' := by
  have hlen : s.data.toList.length = s.size := by simp
  have hsz : ¬ (20000 : Int) < (s.size : Int) := by omega
  by_cases h0 : s.size = 0
  · have e0 : s.data.toList = [] := List.eq_nil_of_length_eq_zero (by omega)
    have hE : s.toList.isEmpty = true := by rw [Go.ByteArray.toList_eq, e0]; rfl
    clear hd
    go_enter Tryd.func32, Tryd.ntmps32
    go_wp2
    exact bodyPost_ret (v := RO 0 (.slice none 0 0) 0 7) (by simp [results, Tryd.results32, go_sem]) rfl ⟨rfl, bA0 _ _⟩
  · have hp : 0 < s.size := by omega
    have hE : s.toList.isEmpty = false := by
      rw [Go.ByteArray.toList_eq]
      cases e : s.data.toList with
      | nil => rw [e] at hlen; simp at hlen; omega
      | cons a r => rfl
    have hne : ((s[0]'hp).toNat : Int) ≠ 82 := by
      intro e
      have e1 : (s[0]'hp) = 82 := by apply UInt8.toNat_inj.1; rw [show (82 : UInt8).toNat = 82 from rfl]; omega
      have := drop_cons s 0 hp
      rw [List.drop_zero] at this
      rw [this, e1] at hd
      exact hd rfl
    have hne' : (((s[0]'hp).toNat : Int) != 82) = true := by simp; omega
    have hp' : (0 : Int) < (s.size : Int) := by omega
    clear hd
    go_enter Tryd.func32, Tryd.ntmps32
    go_wp2
    exact bodyPost_ret (v := RO 0 (.slice none 0 0) 0 7) (by simp [results, Tryd.results32, go_sem]) rfl ⟨rfl, bA0 _ _⟩

theorem ird_any (s : ByteArray) (w : World) (ht : U8 w) : Calls Tryd.prog 32 #[.string s] w fun e w' => RdPost s.data.toList w e w' := by
  have hlen : s.data.toList.length = s.size := by simp
  by_cases h : 20000 < s.size
  · obtain ⟨f1, f2⟩ := rdF_long (t := s.data.toList) (by omega)
    refine (irr_none s h w).mono ?_
    rintro e w' ⟨rfl, hb⟩
    exact .inr ⟨f2, by rw [f1], hb⟩
  · by_cases hd : s.data.toList.head? = some 82
    · obtain ⟨r, hr⟩ : ∃ r, s.data.toList = 82 :: r := by
        cases e : s.data.toList with
        | nil => rw [e] at hd; cases hd
        | cons a r => rw [e] at hd; simp at hd; exact ⟨r, by rw [hd]⟩
      rw [hr]
      exact ird_main s r (by omega) hr w ht
    · obtain ⟨f1, f2⟩ := rdF_none (t := s.data.toList) (by omega) hd
      refine (ird_seven s (by omega) hd w).mono ?_
      rintro e w' ⟨rfl, hb⟩
      exact .inr ⟨f2, by rw [f1], hb⟩

end Go.Proofs.YtmffoannknkjkaaDoor
namespace Go.Proofs.YtmffoannknkjkaaDoor
open Go.RowKit
set_option linter.unusedVariables false

/-- How many bytes a record with a body of n bytes takes. -/
def usedN (n : Nat) : Nat := 1 + (numB n).length + n + 4
/-- What is read of a text: its records, how many bytes they take, and why the reading ends. -/
inductive Reads : List UInt8 → List (Int × List Int) → Nat → Int → Prop
  | done : Reads [] [] 0 0
  | stop {t : List UInt8} (ht : t ≠ []) (h : ∀ n q k zs, Good t n q → ¬ IsBody (q.take n) k zs) : Reads t [] 0 (rdF t)
  | step {t : List UInt8} {n : Nat} {q : List UInt8} {k : Int} {zs : List Int} {rs : List (Int × List Int)} {u : Nat} {c : Int} (g : Good t n q) (b : IsBody (q.take n) k zs) (r : Reads (t.drop (usedN n)) rs u c) : Reads t ((k, zs) :: rs) (usedN n + u) c
theorem rdF_ne (t : List UInt8) : rdF t ≠ 0 := by
  unfold rdF
  repeat' split
  all_goals decide
theorem Good.ne {t : List UInt8} {n : Nat} {q : List UInt8} (g : Good t n q) : t ≠ [] := by rw [g.2.1]; simp
theorem Good.used {t : List UInt8} {n : Nat} {q : List UInt8} (g : Good t n q) : usedN n ≤ t.length := by
  have e := congrArg List.length g.2.1
  have := g.2.2.2.1
  simp only [List.length_cons, List.length_append] at e
  unfold usedN; omega
theorem Reads.uniq {t : List UInt8} {rs rs' : List (Int × List Int)} {u u' : Nat} {c c' : Int} (h : Reads t rs u c) (h' : Reads t rs' u' c') : rs = rs' ∧ u = u' ∧ c = c' := by
  induction h generalizing rs' u' c' with
  | done => cases h' with
    | done => exact ⟨rfl, rfl, rfl⟩
    | stop ht _ => exact absurd rfl ht
    | step g _ _ => exact absurd rfl g.ne
  | stop ht hn => cases h' with
    | done => exact absurd rfl ht
    | stop _ _ => exact ⟨rfl, rfl, rfl⟩
    | step g b _ => exact absurd b (hn _ _ _ _ g)
  | step g b r ih => cases h' with
    | done => exact absurd rfl g.ne
    | stop _ hn => exact absurd b (hn _ _ _ _ g)
    | step g' b' r' =>
      obtain ⟨rfl, rfl⟩ := g.inj g'
      obtain ⟨rfl, rfl⟩ := b.uniq b'
      obtain ⟨rfl, rfl, rfl⟩ := ih r'
      exact ⟨rfl, rfl, rfl⟩
theorem recB_parts (k : Int) (zs : List Int) : recB k zs = 82 :: (numB (bodyB k zs).length ++ (bodyB k zs ++ fourB (sumL (numB (bodyB k zs).length ++ bodyB k zs)))) := by simp [recB, lenB]
end Go.Proofs.YtmffoannknkjkaaDoor
namespace Go.Proofs.YtmffoannknkjkaaDoor
open Go.RowKit
set_option linter.unusedVariables false

/-- Of the blocks that were there only block b may have turned. -/
structure Only (b : Nat) (w w' : World) : Prop where
  os : w'.os = w.os
  tape : w'.tape = w.tape
  output : w'.output = w.output
  size : w.heap.size ≤ w'.heap.size
  block : ∀ k, k < w.heap.size → k ≠ b → w'.heap[k]? = w.heap[k]?

theorem Only.refl (b : Nat) (w : World) : Only b w w := ⟨rfl, rfl, rfl, Nat.le_refl _, fun _ _ _ => rfl⟩
theorem Only.trans {b : Nat} {u v w : World} (h : Only b u v) (k : Only b v w) : Only b u w :=
  ⟨k.os.trans h.os, k.tape.trans h.tape, k.output.trans h.output, Nat.le_trans h.size k.size, fun i hi hb => (k.block i (Nat.lt_of_lt_of_le hi h.size) hb).trans (h.block i hi hb)⟩
theorem Only.drewN {b : Nat} {u v : World} (h : Only b u v) (n : Nat) : Only b u (v.drewN n) := ⟨h.os, h.tape, h.output, h.size, h.block⟩
theorem Only.drew {b : Nat} {u v : World} (h : Only b u v) : Only b u v.drew := ⟨h.os, h.tape, h.output, h.size, h.block⟩
theorem Only.setCell {b : Nat} {u v : World} (h : Only b u v) (o : Nat) (x : Value) : Only b u (v.setCell ⟨b, o, none⟩ x) :=
  h.trans ⟨rfl, rfl, rfl, by simp [World.setCell], fun k _ hk => Below.heap_setCell _ _ _ _ hk⟩
theorem Only.alloc {b : Nat} {u v : World} (h : Only b u v) (o : Obj) : Only b u (v.alloc o) :=
  h.trans ⟨rfl, rfl, rfl, by simp, fun k hk _ => Below.heap_alloc _ _ _ hk⟩
theorem Only.of_below {b : Nat} {u v : World} (h : Below u.heap.size u v) : Only b u v := ⟨h.os, h.tape, h.output, h.size, fun k hk _ => h.block k hk⟩
theorem Only.below {b : Nat} {u v w : World} (h : Below u.heap.size u v) (hb : u.heap.size ≤ b) (k : Only b v w) : Below u.heap.size u w :=
  ⟨k.os.trans h.os, k.tape.trans h.tape, k.output.trans h.output, Nat.le_trans h.size k.size, fun i hi => (k.block i (Nat.lt_of_lt_of_le hi h.size) (by omega)).trans (h.block i hi)⟩
theorem Only.cell {b : Nat} {w w' : World} (h : Only b w w') {c o : Nat} (hc : c < w.heap.size) (hb : c ≠ b) : w'.cell? ⟨c, o, none⟩ = w.cell? ⟨c, o, none⟩ := World.cell?_of_block (w := w) (h.block c hc hb)
theorem Only.frozen {b : Nat} {w w' : World} (h : Only b w w') {c o : Nat} (hc : c < w.heap.size) (hb : c ≠ b) : w'.frozen? ⟨c, o, none⟩ = w.frozen? ⟨c, o, none⟩ := World.frozen?_of_block (w := w) (h.block c hc hb)

def SrcAt (w : World) (b : Nat) (sl : Option Addr) (len cap k : Nat) (mix sz : Int) : Prop :=
  w.heap[b]? = some (.cells #[.slice sl len cap, .int .i64 k, .int .u64 mix, .int .i64 sz] 100)

theorem SrcAt.cells {w : World} {b : Nat} {sl : Option Addr} {len cap k : Nat} {mix sz : Int} (h : SrcAt w b sl len cap k mix sz) :
    w.cell? ⟨b, 0, none⟩ = some (.slice sl len cap) ∧ w.cell? ⟨b, 1, none⟩ = some (.int .i64 k) ∧ w.cell? ⟨b, 2, none⟩ = some (.int .u64 mix) ∧ w.cell? ⟨b, 3, none⟩ = some (.int .i64 sz) ∧ (∀ o, w.frozen? ⟨b, o, none⟩ = false) := by
  unfold SrcAt at h
  refine ⟨?_, ?_, ?_, ?_, fun o => ?_⟩ <;> simp [World.cell?, World.frozen?, h]

theorem SrcAt.store1 {w : World} {b : Nat} {sl : Option Addr} {len cap k : Nat} {mix sz : Int} (h : SrcAt w b sl len cap k mix sz) (n k' : Nat) :
    SrcAt ((w.drewN n).setCell ⟨b, 1, none⟩ (.int .i64 k')) b sl len cap k' mix sz ∧ Only b w ((w.drewN n).setCell ⟨b, 1, none⟩ (.int .i64 k')) :=
  ⟨heap_setCell_same (w.drewN n) b 1 _ 100 _ h, ((Only.refl b w).drewN n).setCell _ _⟩
theorem SrcAt.next {w : World} {b : Nat} {sl : Option Addr} {len cap k : Nat} {mix sz : Int} (h : SrcAt w b sl len cap k mix sz) (n : Nat) :
    SrcAt ((w.drewN n).setCell ⟨b, 1, none⟩ (.int .i64 ((k : Int) + 1))) b sl len cap (k + 1) mix sz ∧ Only b w ((w.drewN n).setCell ⟨b, 1, none⟩ (.int .i64 ((k : Int) + 1))) :=
  h.store1 n (k + 1)
theorem SrcAt.drewN {w : World} {b : Nat} {sl : Option Addr} {len cap k : Nat} {mix sz : Int} (h : SrcAt w b sl len cap k mix sz) (n : Nat) : SrcAt (w.drewN n) b sl len cap k mix sz := h

/-- The bytes behind the source lie elsewhere and can be read. -/
def BytesAt (w : World) (b : Nat) (sl : Option Addr) (len : Nat) : Prop :=
  ∀ i, i < len → ∃ c o : Nat, ∃ z : Int, sl = some ⟨c, o, none⟩ ∧ c ≠ b ∧ c < w.heap.size ∧ 0 ≤ z ∧ z ≤ 255 ∧ w.cell? ⟨c, o + i, none⟩ = some (.int .u8 z)

theorem BytesAt.only {w w' : World} {b : Nat} {sl : Option Addr} {len : Nat} (h : BytesAt w b sl len) (ho : Only b w w') : BytesAt w' b sl len := by
  intro i hi
  obtain ⟨c, o, z, e, hc, hs, z1, z2, hz⟩ := h i hi
  exact ⟨c, o, z, e, hc, Nat.lt_of_lt_of_le hs ho.size, z1, z2, (ho.cell hs hc).trans hz⟩

def Src (w : World) (b : Nat) : Prop :=
  ∃ (sl : Option Addr) (len cap k : Nat) (mix sz : Int), SrcAt w b sl len cap k mix sz ∧ BytesAt w b sl len ∧ k ≤ len ∧ len ≤ maxLen ∧ 0 ≤ mix ∧ mix < 18446744073709551616 ∧ 0 ≤ sz ∧ sz ≤ 12 ∧ b < w.heap.size

end Go.Proofs.YtmffoannknkjkaaDoor
namespace Go.Proofs.YtmffoannknkjkaaDoor
open Go.RowKit
set_option linter.unusedVariables false

/-- A slice of bytes that can be read. -/
def RowIn (w : World) (sl : Option Addr) (len : Nat) : Prop :=
  len ≤ maxLen ∧ ∀ i, i < len → ∃ c o : Nat, ∃ z : Int, sl = some ⟨c, o, none⟩ ∧ c < w.heap.size ∧ 0 ≤ z ∧ z ≤ 255 ∧ w.cell? ⟨c, o + i, none⟩ = some (.int .u8 z)

theorem RowIn.below {w w' : World} {sl : Option Addr} {len : Nat} (h : RowIn w sl len) (hb : Below w.heap.size w w') : RowIn w' sl len := by
  refine ⟨h.1, fun i hi => ?_⟩
  obtain ⟨c, o, z, e, hs, z1, z2, hz⟩ := h.2 i hi
  exact ⟨c, o, z, e, Nat.lt_of_lt_of_le hs hb.size, z1, z2, (hb.cell hs).trans hz⟩
theorem RowIn.bytes {w : World} {sl : Option Addr} {len : Nat} (h : RowIn w sl len) (ob : Obj) : BytesAt (w.alloc ob) w.heap.size sl len := by
  intro i hi
  obtain ⟨c, o, z, e, hs, z1, z2, hz⟩ := h.2 i hi
  exact ⟨c, o, z, e, by omega, by simp; omega, z1, z2, ((bA0 w ob).cell hs).trans hz⟩

theorem RowIn.split {w : World} {sl : Option Addr} {len : Nat} (h : RowIn w sl len) : len = 0 ∨ ∃ c o : Nat, sl = some ⟨c, o, none⟩ ∧ c < w.heap.size ∧ ∀ i, i < len → ∃ z : Int, 0 ≤ z ∧ z ≤ 255 ∧ w.cell? ⟨c, o + i, none⟩ = some (.int .u8 z) := by
  by_cases h0 : len = 0
  · exact .inl h0
  · obtain ⟨c, o, z, e, hs, z1, z2, hz⟩ := h.2 0 (by omega)
    refine .inr ⟨c, o, e, hs, fun i hi => ?_⟩
    obtain ⟨c', o', z, e', hs, z1, z2, hz⟩ := h.2 i hi
    rw [e] at e'
    simp only [Option.some.injEq, Addr.mk.injEq, and_true] at e'
    obtain ⟨rfl, rfl⟩ := e'
    exact ⟨z, z1, z2, hz⟩

end Go.Proofs.YtmffoannknkjkaaDoor
namespace Go.Proofs.YtmffoannknkjkaaDoor
open Go.RowKit
set_option linter.unusedVariables false

theorem Src.lt {w : World} {b : Nat} (h : Src w b) : b < w.heap.size := by
  obtain ⟨sl, len, cap, k, mix, sz, h, hb, hk, hl, m1, m2, z1, z2, hbs⟩ := h
  exact hbs

end Go.Proofs.YtmffoannknkjkaaDoor
namespace Go.Proofs.YtmffoannknkjkaaDoor
open Go.RowKit
set_option linter.unusedVariables false

theorem Only.grown {b : Nat} {u v w : World} {row : Option Nat} (h : Only b u v) (hg : v.grownBy w row) (hr : ∀ g, row = some g → u.heap.size ≤ g) : Only b u w :=
  ⟨hg.os.trans h.os, hg.tape.trans h.tape, hg.output.trans h.output, Nat.le_trans h.size hg.size, fun k hk hb => (hg.block k (Nat.lt_of_lt_of_le hk h.size) (fun e => by have := hr k e.symm; omega)).trans (h.block k hk hb)⟩

/-- A source whose block and whose bytes lie below B. -/
def SrcB (B : Nat) (w : World) (b : Nat) : Prop :=
  b < B ∧ B ≤ w.heap.size ∧ ∃ (sl : Option Addr) (len cap k : Nat) (mix sz : Int), SrcAt w b sl len cap k mix sz ∧ BytesAt w b sl len ∧ (∀ i, i < len → ∃ c o : Nat, sl = some ⟨c, o, none⟩ ∧ c < B) ∧ k ≤ len ∧ len ≤ maxLen ∧ 0 ≤ mix ∧ mix < 18446744073709551616 ∧ 0 ≤ sz ∧ sz ≤ 12
theorem SrcB.of {w : World} {b : Nat} (h : Src w b) : SrcB w.heap.size w b := by
  obtain ⟨sl, len, cap, k, mix, sz, h, hb, hk, hl, m1, m2, z1, z2, hbs⟩ := h
  refine ⟨hbs, Nat.le_refl _, sl, len, cap, k, mix, sz, h, hb, fun i hi => ?_, hk, hl, m1, m2, z1, z2⟩
  obtain ⟨c, o, z, e, hc, hs, _⟩ := hb i hi
  exact ⟨c, o, e, hs⟩
theorem SrcB.kept {B : Nat} {w w' : World} {b : Nat} (h : SrcB B w b) (hs : w.heap.size ≤ w'.heap.size) (hk : ∀ k, k < B → w'.heap[k]? = w.heap[k]?) : SrcB B w' b := by
  obtain ⟨h0, h1, sl, len, cap, k, mix, sz, h, hb, hB, hkl, hl, m1, m2, z1, z2⟩ := h
  refine ⟨h0, Nat.le_trans h1 hs, sl, len, cap, k, mix, sz, (hk b h0).trans h, fun i hi => ?_, hB, hkl, hl, m1, m2, z1, z2⟩
  obtain ⟨c, o, z, e, hc, hlt, y1, y2, hz⟩ := hb i hi
  obtain ⟨c', o', e', hc'⟩ := hB i hi
  rw [e] at e'
  simp only [Option.some.injEq, Addr.mk.injEq, and_true] at e'
  obtain ⟨rfl, rfl⟩ := e'
  exact ⟨c, o, z, e, hc, Nat.lt_of_lt_of_le hlt hs, y1, y2, (World.cell?_of_block (w := w) (hk c hc')).trans hz⟩
theorem SrcB.below {B : Nat} {w w' : World} {b : Nat} (h : SrcB B w b) (hb : Below w.heap.size w w') : SrcB B w' b := h.kept hb.size fun k hk => hb.block k (Nat.lt_of_lt_of_le hk h.2.1)
theorem SrcB.grown {B : Nat} {w w' : World} {b : Nat} {row : Option Nat} (h : SrcB B w b) (hg : w.grownBy w' row) (hr : ∀ g, row = some g → B ≤ g) : SrcB B w' b :=
  h.kept hg.size fun k hk => hg.block k (Nat.lt_of_lt_of_le hk h.2.1) (fun e => by have := hr k e.symm; omega)

end Go.Proofs.YtmffoannknkjkaaDoor
namespace Go.Proofs.YtmffoannknkjkaaDoor
open Go.RowKit
set_option linter.unusedVariables false

theorem VAt.set0 {w : World} {b : Nat} {a : Int} {v : Value} (h : VAt w b a v) (u : Value) : (w.setCell ⟨b, 0, none⟩ u).heap[b]? = some (.cells #[u, v] 42) := heap_setCell_same w b 0 _ 42 _ h
/-- What stands around the list that grows. -/
structure Rst (b : Nat) (w : World) (rb : Nat) (kk : Int) (v : Value) (q : Nat) (xs : List Value) (W : World) : Prop where
  s : SrcB w.heap.size W b
  o : Only b w W
  vv : VAt W rb kk v
  u : VAt W w.heap.size 0 (.slice none 0 0)
  n : W.ownsRow (rb + 1) 2 1 v q xs
theorem Rst.drew {b : Nat} {w : World} {rb : Nat} {kk : Int} {v : Value} {q : Nat} {xs : List Value} {W : World} (h : Rst b w rb kk v q xs W) : Rst b w rb kk v q xs W.drew :=
  ⟨h.s.kept (Nat.le_refl _) (fun _ _ => rfl), h.o.drew, h.vv, h.u, own_below h.n (Below.refl _ _).drew⟩
theorem Rst.alloc {b : Nat} {w : World} {rb : Nat} {kk : Int} {v : Value} {q : Nat} {xs : List Value} {W : World} (h : Rst b w rb kk v q xs W) (x : Obj) : Rst b w rb kk v q xs (W.alloc x) :=
  ⟨h.s.below (bA0 _ _), h.o.alloc _, h.vv.of (Below.heap_alloc _ _ _ h.vv.cells.2.2.2), h.u.of (Below.heap_alloc _ _ _ h.u.cells.2.2.2), h.n.alloc _⟩
end Go.Proofs.YtmffoannknkjkaaDoor
namespace Go.Proofs.YtmffoannknkjkaaDoor
open Go.RowKit
set_option linter.unusedVariables false

theorem info28' : (Tryd.prog.info? 42).map (fun i => (i.zero, i.size, i.bytes)) = some (some (.agg #[.int .i64 0, .slice none 0 0]), 2, 32) := by kernel_rfl

/-- A row of structs and a row of numbers lie apart. -/
theorem own_ne {w : World} {B B' : Nat} {v v' : Value} {n n' : Nat} {xs xs' : List Value} (h : w.ownsRow B 42 2 v n xs) (h' : w.ownsRow B' 2 1 v' n' xs') : v'.ownBlock = none ∨ v'.ownBlock ≠ v.ownBlock := by
  rcases h'.2 with ⟨rfl, _⟩ | ⟨g', cap', cur', rfl, _, hg', _⟩
  · exact .inl rfl
  · refine .inr fun e => ?_
    rcases h.2 with ⟨rfl, _⟩ | ⟨g, cap, cur, rfl, _, hg, _⟩
    · cases e
    · have e' : g' = g := by simpa [Value.ownBlock] using e
      rw [e', hg] at hg'
      simp at hg'

def recCells (rs : List (Int × Value × List Int)) : List Value := rs.flatMap fun r => [.int .i64 r.1, r.2.1]
theorem recCells_add (rs : List (Int × Value × List Int)) (r : Int × Value × List Int) : recCells (rs ++ [r]) = recCells rs ++ [.int .i64 r.1, r.2.1] := by simp [recCells]
/-- A list of right records, each with numbers of its own. -/
structure RecsIn (B : Nat) (w : World) (v : Value) (rs : List (Int × Value × List Int)) : Prop where
  row : w.ownsRow B 42 2 v rs.length (recCells rs)
  each : ∀ r ∈ rs, w.ownsRow B 2 1 r.2.1 r.2.2.length (valsZ r.2.2) ∧ recR r.1 r.2.2 = true
theorem RecsIn.below {B : Nat} {w w' : World} {v : Value} {rs : List (Int × Value × List Int)} (h : RecsIn B w v rs) (hb : Below w.heap.size w w') : RecsIn B w' v rs :=
  ⟨own_below h.row hb, fun r hr => ⟨own_below (h.each r hr).1 hb, (h.each r hr).2⟩⟩
theorem RecsIn.add {B : Nat} {w w' : World} {v v' : Value} {rs : List (Int × Value × List Int)} (h : RecsIn B w v rs) (k : Int) (u : Value) (zs : List Int) (hu : w.ownsRow B 2 1 u zs.length (valsZ zs)) (hr : recR k zs = true)
    (hg : w.grownBy w' v.ownBlock) (hn : w'.ownsRow B 42 2 v' (rs.length + 1) (recCells rs ++ [.int .i64 k, u])) : RecsIn B w' v' (rs ++ [(k, u, zs)]) := by
  refine ⟨by rw [recCells_add]; simpa using hn, fun r hm => ?_⟩
  rcases List.mem_append.1 hm with hm | hm
  · exact ⟨(h.each r hm).1.kept hg (own_ne h.row (h.each r hm).1), (h.each r hm).2⟩
  · simp at hm; subst hm
    exact ⟨hu.kept hg (own_ne h.row hu), hr⟩

end Go.Proofs.YtmffoannknkjkaaDoor
namespace Go.Proofs.YtmffoannknkjkaaDoor
open Go.RowKit
set_option linter.unusedVariables false

theorem cell_two_new (w : World) (a b : Value) (t : TypeId) : ∀ (j : Nat) (u : Value), [a, b][j]? = some u → (w.alloc (.cells #[a, b] t)).cell? ((⟨w.heap.size, 0, none⟩ : Addr).add j) = some u := by
  intro j u hj
  match j, hj with
  | 0, hj =>
    simp at hj
    subst hj
    simp [Addr.add]
  | 1, hj =>
    simp at hj
    subst hj
    simp [Addr.add]
  | j + 2, hj => simp at hj
end Go.Proofs.YtmffoannknkjkaaDoor
namespace Go.Proofs.YtmffoannknkjkaaDoor
open Go.RowKit
set_option linter.unusedVariables false

theorem own_setg {w : World} {B : Nat} {e : TypeId} {m : Nat} {v : Value} {n : Nat} {xs : List Value} (h : w.ownsRow B e m v n xs) {b : Nat} (hb : b < B) (i : Nat) (u : Value) : (w.setCell ⟨b, i, none⟩ u).ownsRow B e m v n xs := by
  refine ⟨h.1, ?_⟩
  rcases h.2 with h | ⟨g, cap, cur, hv, hg, hh, r⟩
  · exact .inl h
  · exact .inr ⟨g, cap, cur, hv, hg, (Below.heap_setCell _ _ _ _ (show g ≠ b by omega)).trans hh, r⟩
theorem RecsIn.set {B : Nat} {w : World} {v : Value} {rs : List (Int × Value × List Int)} (h : RecsIn B w v rs) {b : Nat} (hb : b < B) (i : Nat) (u : Value) : RecsIn B (w.setCell ⟨b, i, none⟩ u) v rs :=
  ⟨own_setg h.row hb i u, fun r hr => ⟨own_setg (h.each r hr).1 hb i u, (h.each r hr).2⟩⟩
theorem RecsIn.mono {B B' : Nat} {w : World} {v : Value} {rs : List (Int × Value × List Int)} (h : RecsIn B w v rs) (hB : B' ≤ B) : RecsIn B' w v rs :=
  ⟨own_mono h.row hB, fun r hr => ⟨own_mono (h.each r hr).1 hB, (h.each r hr).2⟩⟩
theorem RecsIn.form {B : Nat} {w : World} {v : Value} {rs : List (Int × Value × List Int)} (h : RecsIn B w v rs) : ∃ sl cap, v = .slice sl rs.length cap := by
  rcases h.row.2 with ⟨rfl, h0⟩ | ⟨g, cap, cur, rfl, _⟩
  · exact ⟨none, 0, by rw [h0]⟩
  · exact ⟨_, cap, rfl⟩
/-- The records without where they lie. -/
def bare (rs : List (Int × Value × List Int)) : List (Int × List Int) := rs.map fun r => (r.1, r.2.2)
/-- The answer under way, in block b: a list of records, how many bytes, a code. -/
structure RL (b : Nat) (w0 : World) (v : Value) (rs : List (Int × Value × List Int)) (u c : Int) (w : World) : Prop where
  blk : w.heap[b]? = some (.cells #[v, .int .i64 u, .int .i64 c] 37)
  recs : RecsIn (b + 1) w v rs
  low : Below b w0 w
  base : b = w0.heap.size
theorem RL.lt {b : Nat} {w0 : World} {v : Value} {rs : List (Int × Value × List Int)} {u c : Int} {w : World} (h : RL b w0 v rs u c w) : b < w.heap.size := (Array.getElem?_eq_some_iff.1 h.blk).1
theorem RL.cells {b : Nat} {w0 : World} {v : Value} {rs : List (Int × Value × List Int)} {u c : Int} {w : World} (h : RL b w0 v rs u c w) : w.cell? ⟨b, 0, none⟩ = some v ∧ w.cell? ⟨b, 1, none⟩ = some (.int .i64 u) ∧ w.cell? ⟨b, 2, none⟩ = some (.int .i64 c) ∧ (∀ o, w.frozen? ⟨b, o, none⟩ = false) ∧ b < w.heap.size := by
  have h' := h.blk
  refine ⟨?_, ?_, ?_, fun o => ?_, h.lt⟩
  · simp [World.cell?, h']
  · simp [World.cell?, h']
  · simp [World.cell?, h']
  · simp [World.frozen?, h']
theorem RL.new (w : World) : RL w.heap.size w (.slice none 0 0) [] 0 0 (w.alloc (.cells #[.slice none 0 0, .int .i64 0, .int .i64 0] 37)) :=
  ⟨by show (w.heap.push _)[w.heap.size]? = _; simp, ⟨⟨rfl, .inl ⟨rfl, rfl⟩⟩, by simp⟩, bA0 _ _, rfl⟩
theorem RL.below {b : Nat} {w0 : World} {v : Value} {rs : List (Int × Value × List Int)} {u c : Int} {w w' : World} (h : RL b w0 v rs u c w) (hb : Below w.heap.size w w') : RL b w0 v rs u c w' :=
  ⟨(hb.block b h.lt).trans h.blk, h.recs.below hb, h.low.trans (hb.mono (Nat.le_of_lt h.lt)), h.base⟩
theorem RL.alloc {b : Nat} {w0 : World} {v : Value} {rs : List (Int × Value × List Int)} {u c : Int} {w : World} (h : RL b w0 v rs u c w) (o : Obj) : RL b w0 v rs u c (w.alloc o) := h.below (bA0 w o)
theorem RL.setU {b : Nat} {w0 : World} {v : Value} {rs : List (Int × Value × List Int)} {u c : Int} {w : World} (h : RL b w0 v rs u c w) (u' : Int) : RL b w0 v rs u' c (w.setCell ⟨b, 1, none⟩ (.int .i64 u')) :=
  ⟨heap_setCell_same w b 1 _ 37 _ h.blk, h.recs.set (Nat.lt_succ_self _) 1 _, h.low.setCell (Nat.le_refl _) _, h.base⟩
theorem RL.setC {b : Nat} {w0 : World} {v : Value} {rs : List (Int × Value × List Int)} {u c : Int} {w : World} (h : RL b w0 v rs u c w) (c' : Int) : RL b w0 v rs u c' (w.setCell ⟨b, 2, none⟩ (.int .i64 c')) :=
  ⟨heap_setCell_same w b 2 _ 37 _ h.blk, h.recs.set (Nat.lt_succ_self _) 2 _, h.low.setCell (Nat.le_refl _) _, h.base⟩
theorem RL.own_ne {b : Nat} {w0 : World} {v : Value} {rs : List (Int × Value × List Int)} {u c : Int} {w : World} (h : RL b w0 v rs u c w) : ∀ j, v.ownBlock = some j → b + 1 ≤ j ∧ j < w.heap.size := fun j hj => h.recs.row.lt j hj
theorem RL.store {b : Nat} {w0 : World} {v v' : Value} {rs : List (Int × Value × List Int)} {u c : Int} {w w' : World} (h : RL b w0 v rs u c w) (k : Int) (y : Value) (zs : List Int) (hu : w.ownsRow (b + 1) 2 1 y zs.length (valsZ zs)) (hr : recR k zs = true)
    (hg : w.grownBy w' v.ownBlock) (hn : w'.ownsRow (b + 1) 42 2 v' (rs.length + 1) (recCells rs ++ [.int .i64 k, y])) : RL b w0 v' (rs ++ [(k, y, zs)]) u c (w'.setCell ⟨b, 0, none⟩ v') := by
  have hb : w'.heap[b]? = w.heap[b]? := hg.block b h.lt (fun e => by have := h.own_ne b e.symm; omega)
  exact ⟨heap_setCell_same w' b 0 _ 37 _ (hb.trans h.blk), (h.recs.add k y zs hu hr hg hn).set (Nat.lt_succ_self _) 0 _,
    (h.low.grown hg (Nat.le_of_lt h.lt) (fun j hj => by have := h.own_ne j hj; omega)).setCell (Nat.le_refl _) _, h.base⟩
theorem two_new2 (w : World) (o : Obj) (a b : Value) (t : TypeId) : ∀ (j : Nat) (u : Value), [a, b][j]? = some u → ((w.alloc o).alloc (.cells #[a, b] t)).cell? ((⟨w.heap.size + 1, 0, none⟩ : Addr).add j) = some u := by
  have := cell_two_new (w.alloc o) a b t
  rwa [show (w.alloc o).heap.size = w.heap.size + 1 by simp] at this
abbrev OV (v : Value) (u c : Int) : Value := .agg #[v, .int .i64 u, .int .i64 c]
/-- What is answered of a text t. -/
def RcPost (t : List UInt8) (w : World) (e : Ending) (w' : World) : Prop :=
  ∃ (rs : List (Int × Value × List Int)) (v : Value) (u : Nat) (c : Int), Reads t (bare rs) u c ∧ e = .returned (OV v u c) ∧ RecsIn w.heap.size w' v rs ∧ Below w.heap.size w w'
/-- The answer's block, nothing told yet. -/
abbrev Z30 : Obj := .cells #[.slice none 0 0, .int .i64 0, .int .i64 0] 37
theorem RL.res {b : Nat} {w : World} {v : Value} {rs : List (Int × Value × List Int)} {u c : Int} {wr : World} (h : RL b (w.alloc Z30) v rs u c wr) :
    wr.cell? ⟨w.heap.size, 0, none⟩ = some (.slice none 0 0) ∧ wr.cell? ⟨w.heap.size, 1, none⟩ = some (.int .i64 0) ∧ wr.cell? ⟨w.heap.size, 2, none⟩ = some (.int .i64 0) ∧ (∀ o, wr.frozen? ⟨w.heap.size, o, none⟩ = false) ∧ w.heap.size < wr.heap.size := by
  have hb := h.base
  have hz : (w.alloc Z30).heap.size = w.heap.size + 1 := by simp
  have hlt := h.lt
  have k : wr.heap[w.heap.size]? = some Z30 := (h.low.block w.heap.size (by omega)).trans (by show (w.heap.push _)[w.heap.size]? = _; simp)
  refine ⟨?_, ?_, ?_, fun o => ?_, by omega⟩
  · simp [World.cell?, k]
  · simp [World.cell?, k]
  · simp [World.cell?, k]
  · simp [World.frozen?, k]
theorem RL.fin {b : Nat} {w : World} {v : Value} {rs : List (Int × Value × List Int)} {u : Nat} {c : Int} {wr : World} (h : RL b (w.alloc Z30) v rs u c wr) {t : List UInt8} (hr : Reads t (bare rs) u c) :
    wr.cell? ⟨w.heap.size, 0, none⟩ = some (.slice none 0 0) ∧ wr.cell? ⟨w.heap.size, 1, none⟩ = some (.int .i64 0) ∧ wr.cell? ⟨w.heap.size, 2, none⟩ = some (.int .i64 0) ∧ (∀ o, wr.frozen? ⟨w.heap.size, o, none⟩ = false) ∧ w.heap.size < wr.heap.size ∧
    (let W := (((wr.setCell ⟨w.heap.size, 0, none⟩ v).setCell ⟨w.heap.size, 1, none⟩ (.int .i64 u)).setCell ⟨w.heap.size, 2, none⟩ (.int .i64 c)); W.cell? ⟨w.heap.size, 0, none⟩ = some v ∧ W.cell? ⟨w.heap.size, 1, none⟩ = some (.int .i64 u) ∧ W.cell? ⟨w.heap.size, 2, none⟩ = some (.int .i64 c) ∧ Hid (RcPost t w (.returned (OV v u c)) W)) := by
  have hb := h.base
  have hz : (w.alloc Z30).heap.size = w.heap.size + 1 := by simp
  have hlt := h.lt
  have k : wr.heap[w.heap.size]? = some Z30 := (h.low.block w.heap.size (by omega)).trans (by show (w.heap.push _)[w.heap.size]? = _; simp)
  have k3 := heap_setCell_same _ w.heap.size 2 _ 37 (.int .i64 c) (heap_setCell_same _ w.heap.size 1 _ 37 (.int .i64 u) (heap_setCell_same wr w.heap.size 0 _ 37 v k))
  refine ⟨?_, ?_, ?_, fun o => ?_, by omega, ?_, ?_, ?_, ?_⟩
  · simp [World.cell?, k]
  · simp [World.cell?, k]
  · simp [World.cell?, k]
  · simp [World.frozen?, k]
  · simp only [World.cell?, k3]; rfl
  · simp only [World.cell?, k3]; rfl
  · simp only [World.cell?, k3]; rfl
  · have lo : Below w.heap.size w wr := (bA0 w Z30).trans (h.low.mono (by omega))
    exact ⟨rs, v, u, c, hr, rfl, (((h.recs.set (by omega) 0 _).set (by omega) 1 _).set (by omega) 2 _).mono (by omega), ((lo.setCell (Nat.le_refl _) _).setCell (Nat.le_refl _) _).setCell (Nat.le_refl _) _⟩

theorem RcPost.below {t : List UInt8} {w W W' : World} {x : Value} (h : RcPost t w (.returned x) W) (hb : Below W.heap.size W W') : RcPost t w (.returned x) W' := by
  obtain ⟨rs, v, u, c, h1, h2, h3, h4⟩ := h
  exact ⟨rs, v, u, c, h1, h2, h3.below hb, bT h4 hb⟩
theorem RL.finA {b : Nat} {w : World} {v : Value} {rs : List (Int × Value × List Int)} {u : Nat} {c : Int} {wr : World} (h : RL b (w.alloc Z30) v rs u c wr) {t : List UInt8} (hr : Reads t (bare rs) u c) (o : Obj) :
    (let W := ((((wr.setCell ⟨w.heap.size, 0, none⟩ v).setCell ⟨w.heap.size, 1, none⟩ (.int .i64 u)).setCell ⟨w.heap.size, 2, none⟩ (.int .i64 c))).alloc o; W.cell? ⟨w.heap.size, 0, none⟩ = some v ∧ W.cell? ⟨w.heap.size, 1, none⟩ = some (.int .i64 u) ∧ W.cell? ⟨w.heap.size, 2, none⟩ = some (.int .i64 c) ∧ Hid (RcPost t w (.returned (OV v u c)) W)) := by
  obtain ⟨-, -, -, -, ql, z0, z1, z2, P⟩ := h.fin hr
  have hl : w.heap.size < (((wr.setCell ⟨w.heap.size, 0, none⟩ v).setCell ⟨w.heap.size, 1, none⟩ (.int .i64 u)).setCell ⟨w.heap.size, 2, none⟩ (.int .i64 c)).heap.size := by simpa [World.setCell] using ql
  exact ⟨((bA0 _ o).cell hl).trans z0, ((bA0 _ o).cell hl).trans z1, ((bA0 _ o).cell hl).trans z2, P.out.below (bA0 _ o)⟩
theorem RL.grownAt {b : Nat} {w0 : World} {v : Value} {rs : List (Int × Value × List Int)} {u c : Int} {w w' : World} (h : RL b w0 v rs u c w) (hg : w.grownBy w' v.ownBlock) : w'.cell? ⟨b, 0, none⟩ = some v ∧ w'.cell? ⟨b, 1, none⟩ = some (.int .i64 u) ∧ w'.cell? ⟨b, 2, none⟩ = some (.int .i64 c) ∧ (∀ o, w'.frozen? ⟨b, o, none⟩ = false) ∧ b < w'.heap.size := by
  have h' : w'.heap[b]? = _ := (hg.block b h.lt (fun e => by have := h.own_ne b e.symm; omega)).trans h.blk
  refine ⟨?_, ?_, ?_, fun o => ?_, (Array.getElem?_eq_some_iff.1 h').1⟩
  · simp [World.cell?, h']
  · simp [World.cell?, h']
  · simp [World.cell?, h']
  · simp [World.frozen?, h']
/-- The record just read keeps its place while the list grows. -/
theorem RL.nextAt {b : Nat} {w0 : World} {v : Value} {rs : List (Int × Value × List Int)} {u c : Int} {w w' : World} (h : RL b w0 v rs u c w) (x0 x1 x2 x3 : Value) (o : Obj) (hg : ((w.alloc (.cells #[x0, x1, x2, x3] 52)).alloc o).grownBy w' v.ownBlock) : w'.cell? ⟨w.heap.size, 2, none⟩ = some x2 ∧ w.heap.size < w'.heap.size := by
  have h1 : ((w.alloc (.cells #[x0, x1, x2, x3] 52)).alloc o).heap[w.heap.size]? = some (.cells #[x0, x1, x2, x3] 52) := by
    show ((w.heap.push _).push _)[w.heap.size]? = _
    rw [Array.getElem?_push_lt (by simp)]; simp
  have h' := (hg.block w.heap.size (by simp; omega) (fun e => by have := h.own_ne _ e.symm; omega)).trans h1
  exact ⟨by simp [World.cell?, h'], (Array.getElem?_eq_some_iff.1 h').1⟩

end Go.Proofs.YtmffoannknkjkaaDoor
namespace Go.Proofs.YtmffoannknkjkaaDoor
open Go.RowKit
set_option linter.unusedVariables false

theorem Ints.at {w : World} {sl : Option Addr} {zs : List Int} (h : Ints w sl zs) (j : Nat) (hj : j < zs.length) : ∃ c o, sl = some ⟨c, o, none⟩ ∧ w.cell? ⟨c, o + j, none⟩ = some (.int .i64 (zs.getD j 0)) := by
  rcases h with rfl | ⟨c, o, e, h⟩
  · simp at hj
  · exact ⟨c, o, e, h.2 j hj⟩

end Go.Proofs.YtmffoannknkjkaaDoor
namespace Go.Proofs.YtmffoannknkjkaaDoor
open Go.RowKit
set_option linter.unusedVariables false

theorem below_self_drewN (w : World) (n : Nat) : Below w.heap.size w (w.drewN n) := ⟨rfl, rfl, rfl, Nat.le_refl _, fun _ _ => rfl⟩
theorem ba_app (a b : List UInt8) : (⟨a.toArray⟩ : ByteArray) ++ ⟨b.toArray⟩ = ⟨(a ++ b).toArray⟩ := by
  apply Go.WideShapes.bytes_inj
  simp

end Go.Proofs.YtmffoannknkjkaaDoor
