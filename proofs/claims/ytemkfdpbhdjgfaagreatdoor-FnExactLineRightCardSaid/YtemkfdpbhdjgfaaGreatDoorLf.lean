/-
  IS A LINE RIGHT? The model's way.
-/
import Derived.Test.YtemkfdpbhdjgfaaGreatDoorLe
namespace Go.Proofs.YtemkfdpbhdjgfaaGreatDoor
open Go.RowKit
set_option linter.unusedVariables false

abbrev w_station : List UInt8 := [115, 116, 97, 116, 105, 111, 110]
abbrev w_same : List UInt8 := [115, 97, 109, 101]
abbrev w_beside : List UInt8 := [98, 101, 115, 105, 100, 101]
abbrev w_must : List UInt8 := [109, 117, 115, 116]
abbrev w_close : List UInt8 := [99, 108, 111, 115, 101]
abbrev w_bid : List UInt8 := [98, 105, 100]
abbrev w_channel : List UInt8 := [99, 104, 97, 110, 110, 101, 108]
abbrev w_open : List UInt8 := [111, 112, 101, 110]
abbrev w_round : List UInt8 := [114, 111, 117, 110, 100]
abbrev w_needs : List UInt8 := [110, 101, 101, 100, 115]
abbrev w_total : List UInt8 := [116, 111, 116, 97, 108]
/-- May so many numbers stand behind this word? -/
def wordR (wd : List UInt8) (n : Nat) : Bool :=
  if wd = w_station then decide (3 ≤ n) else
  if wd = w_same then (n == 2) else
  if wd = w_beside then (n == 2) else
  if wd = w_must then (n == 1) else
  if wd = w_close then (n == 1) else
  if wd = w_bid then (n == 1) else
  if wd = w_channel then (n == 1) else
  if wd = w_open then decide (5 ≤ n) else
  if wd = w_round then true else
  if wd = w_needs then (n == 0) else
  if wd = w_total then (n == 0) else
  false
/-- A right line. -/
def lineS (t : List UInt8) : Bool := decide (t.length ≤ 60) && ((splitL 32 t).tail.all numR && wordR ((splitL 32 t).headD []) (splitL 32 t).tail.length)
theorem baK (a b : List UInt8) : ((⟨a.toArray⟩ : ByteArray).toList == b) = (a == b) := by
  rw [Go.ByteArray.toList_eq]
theorem wordR_station (n : Nat) : wordR w_station n = decide (3 ≤ n) := by
  unfold wordR
  simp
theorem wordR_same (n : Nat) : wordR w_same n = (n == 2) := by
  unfold wordR
  simp
theorem wordR_beside (n : Nat) : wordR w_beside n = (n == 2) := by
  unfold wordR
  simp
theorem wordR_must (n : Nat) : wordR w_must n = (n == 1) := by
  unfold wordR
  simp
theorem wordR_close (n : Nat) : wordR w_close n = (n == 1) := by
  unfold wordR
  simp
theorem wordR_bid (n : Nat) : wordR w_bid n = (n == 1) := by
  unfold wordR
  simp
theorem wordR_channel (n : Nat) : wordR w_channel n = (n == 1) := by
  unfold wordR
  simp
theorem wordR_open (n : Nat) : wordR w_open n = decide (5 ≤ n) := by
  unfold wordR
  simp
theorem wordR_round (n : Nat) : wordR w_round n = true := by
  unfold wordR
  simp
theorem wordR_needs (n : Nat) : wordR w_needs n = (n == 0) := by
  unfold wordR
  simp
theorem wordR_total (n : Nat) : wordR w_total n = (n == 0) := by
  unfold wordR
  simp
theorem wordR_none (wd : List UInt8) (n : Nat) (h0 : ¬ wd = w_station) (h1 : ¬ wd = w_same) (h2 : ¬ wd = w_beside) (h3 : ¬ wd = w_must) (h4 : ¬ wd = w_close) (h5 : ¬ wd = w_bid) (h6 : ¬ wd = w_channel) (h7 : ¬ wd = w_open) (h8 : ¬ wd = w_round) (h9 : ¬ wd = w_needs) (h10 : ¬ wd = w_total) : wordR wd n = false := by
  unfold wordR
  rw [if_neg h0, if_neg h1, if_neg h2, if_neg h3, if_neg h4, if_neg h5, if_neg h6, if_neg h7, if_neg h8, if_neg h9, if_neg h10]

set_option maxRecDepth 100000 in
set_option maxHeartbeats 8000000 in
/-- spec.LineRight. -/
theorem slr_any (s : ByteArray) (w : World) (hs : s.size ≤ 1048576) :
    Calls Tryz.prog 4 #[.string s] w fun e w' => e = .returned (.bool (lineS s.data.toList)) ∧ Below w.heap.size w w' := by
  by_cases h60 : s.size ≤ 60
  case neg =>
    have HF : lineS s.data.toList = false := by unfold lineS; rw [decide_eq_false (by simp; omega), Bool.false_and]
    rw [HF]
    have h60' : (60 : Int) < (s.size : Int) := by omega
    clear HF
    go_enter Tryz.func4, Tryz.ntmps4
    go_wp2
    go_ret
    exact ⟨rfl, Below.refl _ _⟩
  have h60' : ¬ (60 : Int) < (s.size : Int) := by omega
  have SP := Lib.hid (spl_any s 32 w (by omega))
  have HP := Lib.hid (spl_piece 32 s.data.toList)
  have LW : (splitL 32 s.data.toList).length ≤ 61 := by have := (split_len 32 s.data.toList).2; simp at this; omega
  have L1 := (split_len 32 s.data.toList).1
  have HZ : lineS s.data.toList = ((splitL 32 s.data.toList).tail.all numR && wordR ((splitL 32 s.data.toList).headD []) (splitL 32 s.data.toList).tail.length) := by unfold lineS; rw [decide_eq_true (by simp; omega), Bool.true_and]
  rw [HZ]
  clear HZ
  generalize splitL 32 s.data.toList = ws at *
  obtain ⟨wd, ps, rfl⟩ : ∃ wd ps, ws = wd :: ps := by
    cases ws with
    | nil => simp at L1
    | cons a b => exact ⟨a, b, rfl⟩
  have hb : Hid (∀ x ∈ ps, x.length ≤ 1000) := fun x hx => by
    have := HP.out x (List.mem_cons_of_mem _ hx)
    simp at this
    omega
  have hl : ps.length ≤ 60 := by simp at LW; omega
  simp only [List.tail_cons, List.headD_cons]
  have R0 := Lib.hid (show ps.all numR = false → (ps.all numR && wordR wd ps.length) = false from fun h => by rw [h, Bool.false_and])
  have R1 := Lib.hid (show ps.all numR = true → (ps.all numR && wordR wd ps.length) = wordR wd ps.length from fun h => by rw [h, Bool.true_and])
  generalize (ps.all numR && wordR wd ps.length) = r at *
  clear HP LW L1
  go_enter Tryz.func4, Tryz.ntmps4
  go_wp2_with fail
  refine SP.out.mono ?_
  rintro e w1 ⟨v, rfl, ow, b1⟩
  obtain ⟨g, cap, rfl, gl, gc⟩ := own_strs ow (by simp)
  simp only [List.length_cons] at ow ⊢
  have SN := Lib.hid (snb_any g cap wd ps w1 (by omega) hb.out gl gc)
  have C0 := Lib.hid (gc 0 wd rfl)
  have D1 := Lib.hid b1
  have hg0 := gl
  clear ow b1 SP gc hb
  go_wp2_with fail
  refine SN.out.mono ?_
  rintro e w2 ⟨v, rfl, hv, b2⟩
  have D2 := Lib.hid (bT D1.out b2)
  have c0 := (b2.cell (p := ⟨g, 0, none⟩) gl).trans C0.out
  have gl2 : g < w2.heap.size := Nat.lt_of_lt_of_le gl b2.size
  clear b2 SN C0 D1 hg0
  cases ha : ps.all numR
  · have HF := R0.out ha
    subst HF
    clear hv ha c0 R0 R1
    go_wp2
    go_ret
    exact ⟨rfl, D2.out⟩
  have RR := Lib.hid (R1.out ha)
  obtain ⟨sl, c, rfl⟩ := hv ha
  clear ha R0 R1 hv
  have WR := Lib.hid (wordR_none wd ps.length)
  have k_station : ((⟨wd.toArray⟩ : ByteArray).toList == [115, 116, 97, 116, 105, 111, 110]) = (wd == w_station) := baK wd w_station
  have k_same : ((⟨wd.toArray⟩ : ByteArray).toList == [115, 97, 109, 101]) = (wd == w_same) := baK wd w_same
  have k_beside : ((⟨wd.toArray⟩ : ByteArray).toList == [98, 101, 115, 105, 100, 101]) = (wd == w_beside) := baK wd w_beside
  have k_must : ((⟨wd.toArray⟩ : ByteArray).toList == [109, 117, 115, 116]) = (wd == w_must) := baK wd w_must
  have k_close : ((⟨wd.toArray⟩ : ByteArray).toList == [99, 108, 111, 115, 101]) = (wd == w_close) := baK wd w_close
  have k_bid : ((⟨wd.toArray⟩ : ByteArray).toList == [98, 105, 100]) = (wd == w_bid) := baK wd w_bid
  have k_channel : ((⟨wd.toArray⟩ : ByteArray).toList == [99, 104, 97, 110, 110, 101, 108]) = (wd == w_channel) := baK wd w_channel
  have k_open : ((⟨wd.toArray⟩ : ByteArray).toList == [111, 112, 101, 110]) = (wd == w_open) := baK wd w_open
  have k_round : ((⟨wd.toArray⟩ : ByteArray).toList == [114, 111, 117, 110, 100]) = (wd == w_round) := baK wd w_round
  have k_needs : ((⟨wd.toArray⟩ : ByteArray).toList == [110, 101, 101, 100, 115]) = (wd == w_needs) := baK wd w_needs
  have k_total : ((⟨wd.toArray⟩ : ByteArray).toList == [116, 111, 116, 97, 108]) = (wd == w_total) := baK wd w_total
  have v_station := Lib.hid (show wd = w_station → wordR wd ps.length = wordR w_station ps.length from fun h => by rw [h])
  have v_same := Lib.hid (show wd = w_same → wordR wd ps.length = wordR w_same ps.length from fun h => by rw [h])
  have v_beside := Lib.hid (show wd = w_beside → wordR wd ps.length = wordR w_beside ps.length from fun h => by rw [h])
  have v_must := Lib.hid (show wd = w_must → wordR wd ps.length = wordR w_must ps.length from fun h => by rw [h])
  have v_close := Lib.hid (show wd = w_close → wordR wd ps.length = wordR w_close ps.length from fun h => by rw [h])
  have v_bid := Lib.hid (show wd = w_bid → wordR wd ps.length = wordR w_bid ps.length from fun h => by rw [h])
  have v_channel := Lib.hid (show wd = w_channel → wordR wd ps.length = wordR w_channel ps.length from fun h => by rw [h])
  have v_open := Lib.hid (show wd = w_open → wordR wd ps.length = wordR w_open ps.length from fun h => by rw [h])
  have v_round := Lib.hid (show wd = w_round → wordR wd ps.length = wordR w_round ps.length from fun h => by rw [h])
  have v_needs := Lib.hid (show wd = w_needs → wordR wd ps.length = wordR w_needs ps.length from fun h => by rw [h])
  have v_total := Lib.hid (show wd = w_total → wordR wd ps.length = wordR w_total ps.length from fun h => by rw [h])
  have hn0 : (0 : Int) ≤ (ps.length : Int) := by omega
  unfold strV at c0
  generalize hwd : (⟨wd.toArray⟩ : ByteArray) = x at *
  clear hwd
  generalize ps.length = n at *
  by_cases hw : wd = w_station
  · have HF := RR.out.trans ((v_station.out hw).trans (wordR_station n))
    subst HF
    have e_station : (wd == w_station) = true := by rw [hw]; decide
    rw [e_station] at k_station
    have e_same : (wd == w_same) = false := by rw [hw]; decide
    rw [e_same] at k_same
    have e_beside : (wd == w_beside) = false := by rw [hw]; decide
    rw [e_beside] at k_beside
    have e_must : (wd == w_must) = false := by rw [hw]; decide
    rw [e_must] at k_must
    have e_close : (wd == w_close) = false := by rw [hw]; decide
    rw [e_close] at k_close
    have e_bid : (wd == w_bid) = false := by rw [hw]; decide
    rw [e_bid] at k_bid
    have e_channel : (wd == w_channel) = false := by rw [hw]; decide
    rw [e_channel] at k_channel
    have e_open : (wd == w_open) = false := by rw [hw]; decide
    rw [e_open] at k_open
    have e_round : (wd == w_round) = false := by rw [hw]; decide
    rw [e_round] at k_round
    have e_needs : (wd == w_needs) = false := by rw [hw]; decide
    rw [e_needs] at k_needs
    have e_total : (wd == w_total) = false := by rw [hw]; decide
    rw [e_total] at k_total
    clear WR RR v_station v_same v_beside v_must v_close v_bid v_channel v_open v_round v_needs v_total e_station e_same e_beside e_must e_close e_bid e_channel e_open e_round e_needs e_total hw
    have Q := Lib.hid (show decide (3 ≤ n) = decide ((3 : Int) ≤ (n : Int)) from decide_eq_decide.2 (by omega))
    go_wp2
    go_ret
    exact ⟨by rw [Q.out]; rfl, D2.out⟩
  have n_station : (wd == w_station) = false := by simpa using hw
  have h_station := hw
  clear hw
  by_cases hw : wd = w_same
  · have HF := RR.out.trans ((v_same.out hw).trans (wordR_same n))
    subst HF
    have e_station : (wd == w_station) = false := by rw [hw]; decide
    rw [e_station] at k_station
    have e_same : (wd == w_same) = true := by rw [hw]; decide
    rw [e_same] at k_same
    have e_beside : (wd == w_beside) = false := by rw [hw]; decide
    rw [e_beside] at k_beside
    have e_must : (wd == w_must) = false := by rw [hw]; decide
    rw [e_must] at k_must
    have e_close : (wd == w_close) = false := by rw [hw]; decide
    rw [e_close] at k_close
    have e_bid : (wd == w_bid) = false := by rw [hw]; decide
    rw [e_bid] at k_bid
    have e_channel : (wd == w_channel) = false := by rw [hw]; decide
    rw [e_channel] at k_channel
    have e_open : (wd == w_open) = false := by rw [hw]; decide
    rw [e_open] at k_open
    have e_round : (wd == w_round) = false := by rw [hw]; decide
    rw [e_round] at k_round
    have e_needs : (wd == w_needs) = false := by rw [hw]; decide
    rw [e_needs] at k_needs
    have e_total : (wd == w_total) = false := by rw [hw]; decide
    rw [e_total] at k_total
    clear WR RR v_station v_same v_beside v_must v_close v_bid v_channel v_open v_round v_needs v_total e_station e_same e_beside e_must e_close e_bid e_channel e_open e_round e_needs e_total hw
    have Q := Lib.hid (show (n == 2) = ((n : Int) == 2) by rw [Bool.eq_iff_iff]; simp <;> omega)
    go_wp2
    go_ret
    exact ⟨by rw [Q.out]; rfl, D2.out⟩
  have n_same : (wd == w_same) = false := by simpa using hw
  have h_same := hw
  clear hw
  by_cases hw : wd = w_beside
  · have HF := RR.out.trans ((v_beside.out hw).trans (wordR_beside n))
    subst HF
    have e_station : (wd == w_station) = false := by rw [hw]; decide
    rw [e_station] at k_station
    have e_same : (wd == w_same) = false := by rw [hw]; decide
    rw [e_same] at k_same
    have e_beside : (wd == w_beside) = true := by rw [hw]; decide
    rw [e_beside] at k_beside
    have e_must : (wd == w_must) = false := by rw [hw]; decide
    rw [e_must] at k_must
    have e_close : (wd == w_close) = false := by rw [hw]; decide
    rw [e_close] at k_close
    have e_bid : (wd == w_bid) = false := by rw [hw]; decide
    rw [e_bid] at k_bid
    have e_channel : (wd == w_channel) = false := by rw [hw]; decide
    rw [e_channel] at k_channel
    have e_open : (wd == w_open) = false := by rw [hw]; decide
    rw [e_open] at k_open
    have e_round : (wd == w_round) = false := by rw [hw]; decide
    rw [e_round] at k_round
    have e_needs : (wd == w_needs) = false := by rw [hw]; decide
    rw [e_needs] at k_needs
    have e_total : (wd == w_total) = false := by rw [hw]; decide
    rw [e_total] at k_total
    clear WR RR v_station v_same v_beside v_must v_close v_bid v_channel v_open v_round v_needs v_total e_station e_same e_beside e_must e_close e_bid e_channel e_open e_round e_needs e_total hw
    have Q := Lib.hid (show (n == 2) = ((n : Int) == 2) by rw [Bool.eq_iff_iff]; simp <;> omega)
    go_wp2
    go_ret
    exact ⟨by rw [Q.out]; rfl, D2.out⟩
  have n_beside : (wd == w_beside) = false := by simpa using hw
  have h_beside := hw
  clear hw
  by_cases hw : wd = w_must
  · have HF := RR.out.trans ((v_must.out hw).trans (wordR_must n))
    subst HF
    have e_station : (wd == w_station) = false := by rw [hw]; decide
    rw [e_station] at k_station
    have e_same : (wd == w_same) = false := by rw [hw]; decide
    rw [e_same] at k_same
    have e_beside : (wd == w_beside) = false := by rw [hw]; decide
    rw [e_beside] at k_beside
    have e_must : (wd == w_must) = true := by rw [hw]; decide
    rw [e_must] at k_must
    have e_close : (wd == w_close) = false := by rw [hw]; decide
    rw [e_close] at k_close
    have e_bid : (wd == w_bid) = false := by rw [hw]; decide
    rw [e_bid] at k_bid
    have e_channel : (wd == w_channel) = false := by rw [hw]; decide
    rw [e_channel] at k_channel
    have e_open : (wd == w_open) = false := by rw [hw]; decide
    rw [e_open] at k_open
    have e_round : (wd == w_round) = false := by rw [hw]; decide
    rw [e_round] at k_round
    have e_needs : (wd == w_needs) = false := by rw [hw]; decide
    rw [e_needs] at k_needs
    have e_total : (wd == w_total) = false := by rw [hw]; decide
    rw [e_total] at k_total
    clear WR RR v_station v_same v_beside v_must v_close v_bid v_channel v_open v_round v_needs v_total e_station e_same e_beside e_must e_close e_bid e_channel e_open e_round e_needs e_total hw
    have Q := Lib.hid (show (n == 1) = ((n : Int) == 1) by rw [Bool.eq_iff_iff]; simp <;> omega)
    go_wp2
    go_ret
    exact ⟨by rw [Q.out]; rfl, D2.out⟩
  have n_must : (wd == w_must) = false := by simpa using hw
  have h_must := hw
  clear hw
  by_cases hw : wd = w_close
  · have HF := RR.out.trans ((v_close.out hw).trans (wordR_close n))
    subst HF
    have e_station : (wd == w_station) = false := by rw [hw]; decide
    rw [e_station] at k_station
    have e_same : (wd == w_same) = false := by rw [hw]; decide
    rw [e_same] at k_same
    have e_beside : (wd == w_beside) = false := by rw [hw]; decide
    rw [e_beside] at k_beside
    have e_must : (wd == w_must) = false := by rw [hw]; decide
    rw [e_must] at k_must
    have e_close : (wd == w_close) = true := by rw [hw]; decide
    rw [e_close] at k_close
    have e_bid : (wd == w_bid) = false := by rw [hw]; decide
    rw [e_bid] at k_bid
    have e_channel : (wd == w_channel) = false := by rw [hw]; decide
    rw [e_channel] at k_channel
    have e_open : (wd == w_open) = false := by rw [hw]; decide
    rw [e_open] at k_open
    have e_round : (wd == w_round) = false := by rw [hw]; decide
    rw [e_round] at k_round
    have e_needs : (wd == w_needs) = false := by rw [hw]; decide
    rw [e_needs] at k_needs
    have e_total : (wd == w_total) = false := by rw [hw]; decide
    rw [e_total] at k_total
    clear WR RR v_station v_same v_beside v_must v_close v_bid v_channel v_open v_round v_needs v_total e_station e_same e_beside e_must e_close e_bid e_channel e_open e_round e_needs e_total hw
    have Q := Lib.hid (show (n == 1) = ((n : Int) == 1) by rw [Bool.eq_iff_iff]; simp <;> omega)
    go_wp2
    go_ret
    exact ⟨by rw [Q.out]; rfl, D2.out⟩
  have n_close : (wd == w_close) = false := by simpa using hw
  have h_close := hw
  clear hw
  by_cases hw : wd = w_bid
  · have HF := RR.out.trans ((v_bid.out hw).trans (wordR_bid n))
    subst HF
    have e_station : (wd == w_station) = false := by rw [hw]; decide
    rw [e_station] at k_station
    have e_same : (wd == w_same) = false := by rw [hw]; decide
    rw [e_same] at k_same
    have e_beside : (wd == w_beside) = false := by rw [hw]; decide
    rw [e_beside] at k_beside
    have e_must : (wd == w_must) = false := by rw [hw]; decide
    rw [e_must] at k_must
    have e_close : (wd == w_close) = false := by rw [hw]; decide
    rw [e_close] at k_close
    have e_bid : (wd == w_bid) = true := by rw [hw]; decide
    rw [e_bid] at k_bid
    have e_channel : (wd == w_channel) = false := by rw [hw]; decide
    rw [e_channel] at k_channel
    have e_open : (wd == w_open) = false := by rw [hw]; decide
    rw [e_open] at k_open
    have e_round : (wd == w_round) = false := by rw [hw]; decide
    rw [e_round] at k_round
    have e_needs : (wd == w_needs) = false := by rw [hw]; decide
    rw [e_needs] at k_needs
    have e_total : (wd == w_total) = false := by rw [hw]; decide
    rw [e_total] at k_total
    clear WR RR v_station v_same v_beside v_must v_close v_bid v_channel v_open v_round v_needs v_total e_station e_same e_beside e_must e_close e_bid e_channel e_open e_round e_needs e_total hw
    have Q := Lib.hid (show (n == 1) = ((n : Int) == 1) by rw [Bool.eq_iff_iff]; simp <;> omega)
    go_wp2
    go_ret
    exact ⟨by rw [Q.out]; rfl, D2.out⟩
  have n_bid : (wd == w_bid) = false := by simpa using hw
  have h_bid := hw
  clear hw
  by_cases hw : wd = w_channel
  · have HF := RR.out.trans ((v_channel.out hw).trans (wordR_channel n))
    subst HF
    have e_station : (wd == w_station) = false := by rw [hw]; decide
    rw [e_station] at k_station
    have e_same : (wd == w_same) = false := by rw [hw]; decide
    rw [e_same] at k_same
    have e_beside : (wd == w_beside) = false := by rw [hw]; decide
    rw [e_beside] at k_beside
    have e_must : (wd == w_must) = false := by rw [hw]; decide
    rw [e_must] at k_must
    have e_close : (wd == w_close) = false := by rw [hw]; decide
    rw [e_close] at k_close
    have e_bid : (wd == w_bid) = false := by rw [hw]; decide
    rw [e_bid] at k_bid
    have e_channel : (wd == w_channel) = true := by rw [hw]; decide
    rw [e_channel] at k_channel
    have e_open : (wd == w_open) = false := by rw [hw]; decide
    rw [e_open] at k_open
    have e_round : (wd == w_round) = false := by rw [hw]; decide
    rw [e_round] at k_round
    have e_needs : (wd == w_needs) = false := by rw [hw]; decide
    rw [e_needs] at k_needs
    have e_total : (wd == w_total) = false := by rw [hw]; decide
    rw [e_total] at k_total
    clear WR RR v_station v_same v_beside v_must v_close v_bid v_channel v_open v_round v_needs v_total e_station e_same e_beside e_must e_close e_bid e_channel e_open e_round e_needs e_total hw
    have Q := Lib.hid (show (n == 1) = ((n : Int) == 1) by rw [Bool.eq_iff_iff]; simp <;> omega)
    go_wp2
    go_ret
    exact ⟨by rw [Q.out]; rfl, D2.out⟩
  have n_channel : (wd == w_channel) = false := by simpa using hw
  have h_channel := hw
  clear hw
  by_cases hw : wd = w_open
  · have HF := RR.out.trans ((v_open.out hw).trans (wordR_open n))
    subst HF
    have e_station : (wd == w_station) = false := by rw [hw]; decide
    rw [e_station] at k_station
    have e_same : (wd == w_same) = false := by rw [hw]; decide
    rw [e_same] at k_same
    have e_beside : (wd == w_beside) = false := by rw [hw]; decide
    rw [e_beside] at k_beside
    have e_must : (wd == w_must) = false := by rw [hw]; decide
    rw [e_must] at k_must
    have e_close : (wd == w_close) = false := by rw [hw]; decide
    rw [e_close] at k_close
    have e_bid : (wd == w_bid) = false := by rw [hw]; decide
    rw [e_bid] at k_bid
    have e_channel : (wd == w_channel) = false := by rw [hw]; decide
    rw [e_channel] at k_channel
    have e_open : (wd == w_open) = true := by rw [hw]; decide
    rw [e_open] at k_open
    have e_round : (wd == w_round) = false := by rw [hw]; decide
    rw [e_round] at k_round
    have e_needs : (wd == w_needs) = false := by rw [hw]; decide
    rw [e_needs] at k_needs
    have e_total : (wd == w_total) = false := by rw [hw]; decide
    rw [e_total] at k_total
    clear WR RR v_station v_same v_beside v_must v_close v_bid v_channel v_open v_round v_needs v_total e_station e_same e_beside e_must e_close e_bid e_channel e_open e_round e_needs e_total hw
    have Q := Lib.hid (show decide (5 ≤ n) = decide ((5 : Int) ≤ (n : Int)) from decide_eq_decide.2 (by omega))
    go_wp2
    go_ret
    exact ⟨by rw [Q.out]; rfl, D2.out⟩
  have n_open : (wd == w_open) = false := by simpa using hw
  have h_open := hw
  clear hw
  by_cases hw : wd = w_round
  · have HF := RR.out.trans ((v_round.out hw).trans (wordR_round n))
    subst HF
    have e_station : (wd == w_station) = false := by rw [hw]; decide
    rw [e_station] at k_station
    have e_same : (wd == w_same) = false := by rw [hw]; decide
    rw [e_same] at k_same
    have e_beside : (wd == w_beside) = false := by rw [hw]; decide
    rw [e_beside] at k_beside
    have e_must : (wd == w_must) = false := by rw [hw]; decide
    rw [e_must] at k_must
    have e_close : (wd == w_close) = false := by rw [hw]; decide
    rw [e_close] at k_close
    have e_bid : (wd == w_bid) = false := by rw [hw]; decide
    rw [e_bid] at k_bid
    have e_channel : (wd == w_channel) = false := by rw [hw]; decide
    rw [e_channel] at k_channel
    have e_open : (wd == w_open) = false := by rw [hw]; decide
    rw [e_open] at k_open
    have e_round : (wd == w_round) = true := by rw [hw]; decide
    rw [e_round] at k_round
    have e_needs : (wd == w_needs) = false := by rw [hw]; decide
    rw [e_needs] at k_needs
    have e_total : (wd == w_total) = false := by rw [hw]; decide
    rw [e_total] at k_total
    clear WR RR v_station v_same v_beside v_must v_close v_bid v_channel v_open v_round v_needs v_total e_station e_same e_beside e_must e_close e_bid e_channel e_open e_round e_needs e_total hw
    go_wp2
    go_ret
    exact ⟨rfl, D2.out⟩
  have n_round : (wd == w_round) = false := by simpa using hw
  have h_round := hw
  clear hw
  by_cases hw : wd = w_needs
  · have HF := RR.out.trans ((v_needs.out hw).trans (wordR_needs n))
    subst HF
    have e_station : (wd == w_station) = false := by rw [hw]; decide
    rw [e_station] at k_station
    have e_same : (wd == w_same) = false := by rw [hw]; decide
    rw [e_same] at k_same
    have e_beside : (wd == w_beside) = false := by rw [hw]; decide
    rw [e_beside] at k_beside
    have e_must : (wd == w_must) = false := by rw [hw]; decide
    rw [e_must] at k_must
    have e_close : (wd == w_close) = false := by rw [hw]; decide
    rw [e_close] at k_close
    have e_bid : (wd == w_bid) = false := by rw [hw]; decide
    rw [e_bid] at k_bid
    have e_channel : (wd == w_channel) = false := by rw [hw]; decide
    rw [e_channel] at k_channel
    have e_open : (wd == w_open) = false := by rw [hw]; decide
    rw [e_open] at k_open
    have e_round : (wd == w_round) = false := by rw [hw]; decide
    rw [e_round] at k_round
    have e_needs : (wd == w_needs) = true := by rw [hw]; decide
    rw [e_needs] at k_needs
    have e_total : (wd == w_total) = false := by rw [hw]; decide
    rw [e_total] at k_total
    clear WR RR v_station v_same v_beside v_must v_close v_bid v_channel v_open v_round v_needs v_total e_station e_same e_beside e_must e_close e_bid e_channel e_open e_round e_needs e_total hw
    have Q := Lib.hid (show (n == 0) = ((n : Int) == 0) by rw [Bool.eq_iff_iff]; simp <;> omega)
    go_wp2
    go_ret
    exact ⟨by rw [Q.out]; rfl, D2.out⟩
  have n_needs : (wd == w_needs) = false := by simpa using hw
  have h_needs := hw
  clear hw
  by_cases hw : wd = w_total
  · have HF := RR.out.trans ((v_total.out hw).trans (wordR_total n))
    subst HF
    have e_station : (wd == w_station) = false := by rw [hw]; decide
    rw [e_station] at k_station
    have e_same : (wd == w_same) = false := by rw [hw]; decide
    rw [e_same] at k_same
    have e_beside : (wd == w_beside) = false := by rw [hw]; decide
    rw [e_beside] at k_beside
    have e_must : (wd == w_must) = false := by rw [hw]; decide
    rw [e_must] at k_must
    have e_close : (wd == w_close) = false := by rw [hw]; decide
    rw [e_close] at k_close
    have e_bid : (wd == w_bid) = false := by rw [hw]; decide
    rw [e_bid] at k_bid
    have e_channel : (wd == w_channel) = false := by rw [hw]; decide
    rw [e_channel] at k_channel
    have e_open : (wd == w_open) = false := by rw [hw]; decide
    rw [e_open] at k_open
    have e_round : (wd == w_round) = false := by rw [hw]; decide
    rw [e_round] at k_round
    have e_needs : (wd == w_needs) = false := by rw [hw]; decide
    rw [e_needs] at k_needs
    have e_total : (wd == w_total) = true := by rw [hw]; decide
    rw [e_total] at k_total
    clear WR RR v_station v_same v_beside v_must v_close v_bid v_channel v_open v_round v_needs v_total e_station e_same e_beside e_must e_close e_bid e_channel e_open e_round e_needs e_total hw
    have Q := Lib.hid (show (n == 0) = ((n : Int) == 0) by rw [Bool.eq_iff_iff]; simp <;> omega)
    go_wp2
    go_ret
    exact ⟨by rw [Q.out]; rfl, D2.out⟩
  have n_total : (wd == w_total) = false := by simpa using hw
  have h_total := hw
  clear hw
  have HF := RR.out.trans (WR.out h_station h_same h_beside h_must h_close h_bid h_channel h_open h_round h_needs h_total)
  subst HF
  rw [n_station] at k_station
  rw [n_same] at k_same
  rw [n_beside] at k_beside
  rw [n_must] at k_must
  rw [n_close] at k_close
  rw [n_bid] at k_bid
  rw [n_channel] at k_channel
  rw [n_open] at k_open
  rw [n_round] at k_round
  rw [n_needs] at k_needs
  rw [n_total] at k_total
  clear WR RR v_station v_same v_beside v_must v_close v_bid v_channel v_open v_round v_needs v_total n_station n_same n_beside n_must n_close n_bid n_channel n_open n_round n_needs n_total h_station h_same h_beside h_must h_close h_bid h_channel h_open h_round h_needs h_total
  go_wp2
  go_ret
  exact ⟨rfl, D2.out⟩

end Go.Proofs.YtemkfdpbhdjgfaaGreatDoor
