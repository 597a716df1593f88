/-
  WHAT THE PROGRAM ASKS OF A LINE IS WHAT THE MODEL ASKS; a word looked up among the commands.
-/
import Derived.Test.YtemkfdpbhdjgfaaGreatDoorLk
namespace Go.Proofs.YtemkfdpbhdjgfaaGreatDoor
open Go.RowKit
set_option linter.unusedVariables false

theorem digv_dv (l : List UInt8) : ∀ s : Int, l.all isDig = true → l.foldl dgS s = l.foldl dvS s := by
  induction l with
  | nil => intro s _; rfl
  | cons b l ih =>
    intro s h
    rw [List.all_cons, Bool.and_eq_true] at h
    show l.foldl dgS (dgS s b) = l.foldl dvS (dvS s b)
    rw [show dgS s b = dvS s b by unfold dgS dvS; rw [if_pos h.1]]
    exact ih _ h.2
theorem digv_itoa (n : Int) (h : 0 ≤ n) : digv (Lib.itoa n) = n := by
  rw [itoa_pos (by omega)]
  unfold digv
  rw [digv_dv _ _ (dec_dig n.toNat n.toNat (Nat.le_refl _))]
  have := dv_dec n.toNat n.toNat (Nat.le_refl _)
  unfold dv at this
  omega
theorem dec_len13 (u : Nat) (h : u ≤ 1000000000000) : (Lib.decDigits u).length ≤ 13 := by
  by_cases h1 : 1 ≤ u
  · have := dec_lo u u (Nat.le_refl _) h1
    by_cases hl : (Lib.decDigits u).length ≤ 13
    · exact hl
    · have h2 : 10 ^ 13 ≤ 10 ^ ((Lib.decDigits u).length - 1) := Nat.pow_le_pow_right (by decide) (by omega)
      omega
  · have : u = 0 := by omega
    subst this
    have h0 := dec_len15 0 (by omega)
    rw [show Lib.decDigits 0 = [48] by unfold Lib.decDigits; rfl]
    decide
theorem num_same (x : List UInt8) : numR x = (numI x && okM (digv x)) := by
  rw [Bool.eq_iff_iff]
  unfold numR numI okM
  simp only [Bool.and_eq_true, decide_eq_true_eq, beq_iff_eq]
  constructor
  · rintro ⟨hk, h0, h1⟩
    obtain ⟨n, hn, rfl⟩ := (numK_iff x).1 hk
    have hv := (num_itoa n hn).2
    rw [hv] at h0 h1
    rw [digv_itoa n h0]
    refine ⟨⟨?_, rfl⟩, h1⟩
    rw [itoa_pos (by omega)]
    exact dec_len13 _ (by omega)
  · rintro ⟨⟨hl, he⟩, h1⟩
    have h0 := (digv_small x hl).1
    have hb : -1000000000000000 < digv x ∧ digv x < 1000000000000000 := by omega
    have hv := (num_itoa (digv x) hb).2
    rw [he] at hv
    refine ⟨(numK_iff x).2 ⟨digv x, hb, he.symm⟩, ?_, ?_⟩ <;> omega
theorem nums_same (ps : List (List UInt8)) : ps.all numR = (ps.all numI && (ps.map digv).all okM) := by
  induction ps with
  | nil => rfl
  | cons p ps ih =>
    simp only [List.all_cons, List.map_cons, ih, num_same]
    cases numI p <;> cases okM (digv p) <;> cases ps.all numI <;> simp
/-- What the program asks of a word and so many numbers. -/
def wordI (wd : List UInt8) (n : Nat) : Bool := match cmdOf cmdsL wd with | some k => tkB k.2.1 k.2.2 n | none => false
theorem word_same (wd : List UInt8) (n : Nat) : wordR wd n = wordI wd n := by
  by_cases h_station : wd = w_station
  · subst h_station
    rw [wordR_station]
    show _ = tkB 3 true n
    unfold tkB
    rw [Bool.eq_iff_iff]
    simp
    try omega
  by_cases h_same : wd = w_same
  · subst h_same
    rw [wordR_same]
    show _ = tkB 2 false n
    unfold tkB
    rw [Bool.eq_iff_iff]
    simp
    try omega
  by_cases h_beside : wd = w_beside
  · subst h_beside
    rw [wordR_beside]
    show _ = tkB 2 false n
    unfold tkB
    rw [Bool.eq_iff_iff]
    simp
    try omega
  by_cases h_must : wd = w_must
  · subst h_must
    rw [wordR_must]
    show _ = tkB 1 false n
    unfold tkB
    rw [Bool.eq_iff_iff]
    simp
    try omega
  by_cases h_close : wd = w_close
  · subst h_close
    rw [wordR_close]
    show _ = tkB 1 false n
    unfold tkB
    rw [Bool.eq_iff_iff]
    simp
    try omega
  by_cases h_bid : wd = w_bid
  · subst h_bid
    rw [wordR_bid]
    show _ = tkB 1 false n
    unfold tkB
    rw [Bool.eq_iff_iff]
    simp
    try omega
  by_cases h_channel : wd = w_channel
  · subst h_channel
    rw [wordR_channel]
    show _ = tkB 1 false n
    unfold tkB
    rw [Bool.eq_iff_iff]
    simp
    try omega
  by_cases h_open : wd = w_open
  · subst h_open
    rw [wordR_open]
    show _ = tkB 5 true n
    unfold tkB
    rw [Bool.eq_iff_iff]
    simp
    try omega
  by_cases h_round : wd = w_round
  · subst h_round
    rw [wordR_round]
    show _ = tkB 0 true n
    unfold tkB
    rw [Bool.eq_iff_iff]
    simp
    try omega
  by_cases h_needs : wd = w_needs
  · subst h_needs
    rw [wordR_needs]
    show _ = tkB 0 false n
    unfold tkB
    rw [Bool.eq_iff_iff]
    simp
    try omega
  by_cases h_total : wd = w_total
  · subst h_total
    rw [wordR_total]
    show _ = tkB 0 false n
    unfold tkB
    rw [Bool.eq_iff_iff]
    simp
    try omega
  rw [wordR_none wd n h_station h_same h_beside h_must h_close h_bid h_channel h_open h_round h_needs h_total]
  have : cmdOf cmdsL wd = none := by
    unfold cmdOf cmdsL
    simp [h_station, h_same, h_beside, h_must, h_close, h_bid, h_channel, h_open, h_round, h_needs, h_total]
  unfold wordI
  rw [this]
/-- What the program says of a line. -/
def lineI (t : List UInt8) : Bool := decide (t.length ≤ 60) && ((splitL 32 t).tail.all numI && (wordI ((splitL 32 t).headD []) (splitL 32 t).tail.length && ((splitL 32 t).tail.map digv).all okM))
theorem line_same (t : List UInt8) : lineS t = lineI t := by
  unfold lineS lineI
  rw [nums_same, word_same]
  cases decide (t.length ≤ 60) <;> cases (splitL 32 t).tail.all numI <;> cases ((splitL 32 t).tail.map digv).all okM <;> simp

theorem run_look (w : World) (r : Nat) (x : List UInt8) (h : CM w r cmdsL) :
    (cmdOf cmdsL x = none → (Instr.lookup 39 (.map (some r)) (.string ⟨x.toArray⟩) true).run Tryz.prog w = .ok (.tuple #[.agg #[.int .i64 0, .bool false, .bool false, .bool false, .nilFunc], .bool false]) w) ∧
    (∀ k, cmdOf cmdsL x = some k → ∃ o c fx fy fz, (Instr.lookup 39 (.map (some r)) (.string ⟨x.toArray⟩) true).run Tryz.prog w = .ok (.tuple #[.agg #[.int .i64 k.2.1, .bool k.2.2, .bool o, .bool c, .func fx fy fz], .bool true]) w) := by
  obtain ⟨es, clock, hb, hE⟩ := h
  have hc : ∀ b, (Instr.checkKey b 10000 9 (.string ⟨x.toArray⟩)).run Tryz.prog w = .ok () w := fun b => MapKept.run_checkKey (k := .string ⟨x.toArray⟩) Tryz.underlying9 (by simp [MapKept.IsKey]) b 9999
  obtain ⟨f1, f2⟩ := find_ents hE x
  constructor
  · intro h0
    have hz : ∀ w, (zeroValue 37).run Tryz.prog w = .ok (.agg #[.int .i64 0, .bool false, .bool false, .bool false, .nilFunc]) w := fun w => Tryz.zeroValue37 w
    simp [Instr.lookup, run_underlying Tryz.underlying39, MapKept.run_getObj_map hb, hc, MapKept.run_findKey Tryz.underlying9 (f1 h0), hz, Result.andThen]
  · intro k hk
    obtain ⟨i, o, c, fx, fy, fz, hf⟩ := f2 k hk
    exact ⟨o, c, fx, fy, fz, by simp [Instr.lookup, run_underlying Tryz.underlying39, MapKept.run_getObj_map hb, hc, MapKept.run_findKey Tryz.underlying9 hf, Result.andThen]⟩

end Go.Proofs.YtemkfdpbhdjgfaaGreatDoor
