/-
  A DRAWN DISK.
-/
import Derived.Test.YtaongccmipjgeaaDd
import Derived.Test.YtaongccmipjgeaaCh
import Derived.Deep.RegionLaw
import Derived.Deep.LoopGhost
namespace Go.Proofs.Ytaongccmipjgeaa
open Go.RowKit
set_option linter.unusedVariables false

theorem DAt.only {t : TypeId} {w w' : World} {b c : Nat} {s : ByteArray} {v : Value} (h : DAt t w c s v) (ho : Only b w w') (hne : c ≠ b) : DAt t w' c s v := (ho.block c h.lt hne).trans h
theorem OwnS.only {w w' : World} {B b : Nat} {v : Value} {ss : List ByteArray} (h : OwnS w B v ss) (ho : Only b w w') (hb : b < B) : OwnS w' B v ss := own_only h ho hb

/-- A disk that is being drawn: its block bd, the result's block, the source. -/
structure LD (b : Nat) (w : World) (bd : Nat) (s : ByteArray) (v : Value) (ss : List ByteArray) (W : World) : Prop where
  src : SrcB w.heap.size W b
  only : Only b w W
  res : DAt 25 W w.heap.size ⟨#[]⟩ (.slice none 0 0)
  d : DAt 25 W bd s v
  own : OwnS W (w.heap.size + 1) v ss
  ne : ∀ k, v.ownBlock = some k → k ≠ bd
  hb : b < w.heap.size
  hbd : w.heap.size < bd
section
variable {b : Nat} {w : World} {bd : Nat} {s : ByteArray} {v : Value} {ss : List ByteArray} {W W' : World}
theorem LD.call (h : LD b w bd s v ss W) (hs : SrcB w.heap.size W' b) (ho : Only b W W') : LD b w bd s v ss W' :=
  have hb := h.hb
  have hd := h.hbd
  ⟨hs, h.only.trans ho, h.res.only ho (by omega), h.d.only ho (by omega), h.own.only ho (by omega), h.ne, h.hb, h.hbd⟩
theorem LD.below (h : LD b w bd s v ss W) (hb : Below W.heap.size W W') : LD b w bd s v ss W' := h.call (h.src.below hb) (Only.of_below hb)
theorem LD.alloc (h : LD b w bd s v ss W) (o : Obj) : LD b w bd s v ss (W.alloc o) := h.below (bA0 _ _)
theorem LD.drew (h : LD b w bd s v ss W) : LD b w bd s v ss W.drew := h.call ⟨h.src.1, h.src.2.1, h.src.2.2⟩ ((Only.refl _ _).drew)
theorem LD.facts (h : LD b w bd s v ss W) : W.cell? ⟨bd, 0, none⟩ = some (.string s) ∧ W.cell? ⟨bd, 1, none⟩ = some v ∧ (∀ o, W.frozen? ⟨bd, o, none⟩ = false) ∧ bd < W.heap.size := ⟨h.d.cells.1, h.d.cells.2, h.d.frozen, h.d.lt⟩
/-- The list appended to, and stored. -/
theorem LD.store (h : LD b w bd s v ss W) {v' : Value} {ss' : List ByteArray} (hg : W.grownBy W' v.ownBlock) (ho : OwnS W' (w.heap.size + 1) v' ss') (hv : ∀ k, v'.ownBlock = some k → v.ownBlock = some k ∨ W.heap.size ≤ k) : LD b w bd s v' ss' (W'.setCell ⟨bd, 1, none⟩ v') := by
  have hb := h.hb
  have hd := h.hbd
  have hdl := h.d.lt
  have own := h.own
  have e1 : ∀ k, v.ownBlock = some k → w.heap.size < k := fun k hk => (own.lt hk).1
  have o1 : Only b w W' := h.only.grown hg (fun k hk => by have := e1 k hk; omega)
  have o2 : Only b w (W'.setCell ⟨bd, 1, none⟩ v') := o1.grown (grown_set bd 1 v') (fun k hk => by cases hk; omega)
  have d1 : DAt 25 W' bd s v := h.d.grown hg (fun e => h.ne bd e rfl)
  have r1 : DAt 25 W' w.heap.size ⟨#[]⟩ (.slice none 0 0) := h.res.grown hg (fun e => by have := e1 _ e; omega)
  have s1 : SrcB w.heap.size W' b := h.src.grown hg (fun k hk => by have := e1 k hk; omega)
  refine ⟨s1.grown (grown_set bd 1 v') (fun k hk => by cases hk; omega), o2, r1.grown (grown_set bd 1 v') (by simp; omega), heap_setCell_same W' bd 1 _ 25 _ d1, ho.grown (grown_set bd 1 v') (fun k hk e => ?_), fun k hk e => ?_, hb, hd⟩
  · cases hk
    rcases hv _ e with e' | e'
    · exact h.ne _ e' rfl
    · omega
  · subst e
    rcases hv _ hk with e' | e'
    · exact h.ne _ e' rfl
    · omega
end

/-- What is known of a drawn disk's sizes. -/
def Small (s : ByteArray) (ss : List ByteArray) : Prop := s.size ≤ 20100 ∧ ss.length ≤ 120 ∧ tot ss ≤ 10000
def LdPost (b : Nat) (w : World) (e : Ending) (w' : World) : Prop :=
  ∃ s v ss, e = .returned (.agg #[.string s, v]) ∧ OwnS w' w.heap.size v ss ∧ Small s ss ∧ SrcB w.heap.size w' b ∧ Only b w w'

theorem LD.grown {b : Nat} {w : World} {bd : Nat} {s : ByteArray} {v : Value} {ss : List ByteArray} {W W' : World} {row : Option Nat} (h : LD b w bd s v ss W) (hg : W.grownBy W' row) (hr : ∀ k, row = some k → bd < k ∧ v.ownBlock ≠ some k) : LD b w bd s v ss W' := by
  have hb := h.hb
  have hd := h.hbd
  refine ⟨h.src.grown hg (fun k hk => by have := (hr k hk).1; omega), h.only.grown hg (fun k hk => by have := (hr k hk).1; omega), h.res.grown hg (fun e => by have := (hr _ e).1; omega), h.d.grown hg (fun e => by have := (hr _ e).1; omega), h.own.grown hg (fun k hk => (hr k hk).2), h.ne, hb, hd⟩
/-- Both fields written anew. -/
theorem LD.both {b : Nat} {w : World} {bd : Nat} {s : ByteArray} {v : Value} {ss : List ByteArray} {W : World} (h : LD b w bd s v ss W) (S t : ByteArray) :
    LD b w bd S (.slice (some ⟨W.heap.size, 0, none⟩) 1 1) [t] (((W.setCell ⟨bd, 0, none⟩ (.string S)).setCell ⟨bd, 1, none⟩ (.slice (some ⟨W.heap.size, 0, none⟩) 1 1)).alloc (.cells #[.string t] 9)) := by
  have hb := h.hb
  have hd := h.hbd
  have hdl := h.d.lt
  have g1 : W.grownBy ((W.setCell ⟨bd, 0, none⟩ (.string S)).setCell ⟨bd, 1, none⟩ (.slice (some ⟨W.heap.size, 0, none⟩) 1 1)) (some bd) := grown_set2 (Below.refl _ _) _ _
  have d1 : DAt 25 ((W.setCell ⟨bd, 0, none⟩ (.string S)).setCell ⟨bd, 1, none⟩ (.slice (some ⟨W.heap.size, 0, none⟩) 1 1)) bd S (.slice (some ⟨W.heap.size, 0, none⟩) 1 1) := h.d.set2 _ _
  have hz : ((W.setCell ⟨bd, 0, none⟩ (.string S)).setCell ⟨bd, 1, none⟩ (.slice (some ⟨W.heap.size, 0, none⟩) 1 1)).heap.size = W.heap.size := by simp [World.setCell]
  have own1 : OwnS (((W.setCell ⟨bd, 0, none⟩ (.string S)).setCell ⟨bd, 1, none⟩ (.slice (some ⟨W.heap.size, 0, none⟩) 1 1)).alloc (.cells #[.string t] 9)) (w.heap.size + 1) (.slice (some ⟨W.heap.size, 0, none⟩) 1 1) [t] := by
    have := World.ownsRow_lit ((W.setCell ⟨bd, 0, none⟩ (.string S)).setCell ⟨bd, 1, none⟩ (.slice (some ⟨W.heap.size, 0, none⟩) 1 1)) #[.string t] 1 (base := w.heap.size + 1) (e := 9) (size := 1) (by rw [hz]; omega) (by unfold maxLen; omega) rfl
    rw [hz] at this
    exact this
  refine ⟨(h.src.grown g1 (fun k hk => by cases hk; omega)).below (bA0 _ _), (h.only.grown g1 (fun k hk => by cases hk; omega)).trans (Only.of_below (bA0 _ _)), (h.res.grown g1 (by simp; omega)).below (bA0 _ _), d1.below (bA0 _ _), own1, fun k hk e => ?_, hb, hd⟩
  subst e; simp [Value.ownBlock] at hk; omega

theorem LD.fin {b : Nat} {w : World} {bd : Nat} {s : ByteArray} {v : Value} {ss : List ByteArray} {W : World} (h : LD b w bd s v ss W) (hs : Small s ss) :
    ((W.setCell ⟨w.heap.size, 0, none⟩ (.string s)).setCell ⟨w.heap.size, 1, none⟩ v).cell? ⟨w.heap.size, 0, none⟩ = some (.string s) ∧ ((W.setCell ⟨w.heap.size, 0, none⟩ (.string s)).setCell ⟨w.heap.size, 1, none⟩ v).cell? ⟨w.heap.size, 1, none⟩ = some v ∧ W.cell? ⟨w.heap.size, 0, none⟩ = some (.string ⟨#[]⟩) ∧ W.cell? ⟨w.heap.size, 1, none⟩ = some (.slice none 0 0) ∧ (∀ o, W.frozen? ⟨w.heap.size, o, none⟩ = false) ∧
    Hid (LdPost b w (.returned (.agg #[.string s, v])) ((W.setCell ⟨w.heap.size, 0, none⟩ (.string s)).setCell ⟨w.heap.size, 1, none⟩ v)) := by
  have g2 : W.grownBy ((W.setCell ⟨w.heap.size, 0, none⟩ (.string s)).setCell ⟨w.heap.size, 1, none⟩ v) (some w.heap.size) := grown_set2 (Below.refl _ _) _ _
  refine ⟨(h.res.set2 s v).cells.1, (h.res.set2 s v).cells.2, h.res.cells.1, h.res.cells.2, h.res.frozen, s, v, ss, rfl, ((h.own.set (Nat.lt_succ_self _) _ _).set (Nat.lt_succ_self _) _ _).mono (Nat.le_succ _), hs, h.src.grown g2 (fun k hk => by cases hk; exact Nat.le_refl _), h.only.grown g2 (fun k hk => by cases hk; exact Nat.le_refl _)⟩

set_option maxRecDepth 100000 in
set_option maxHeartbeats 2000000 in
theorem disk_any (b : Nat) (w : World) (hs : Src w b) :
    Calls Try.prog 29 #[.pointer (some ⟨b, 0, none⟩)] w fun e w' => LdPost b w e w' := by
  obtain ⟨i9, hi, h0, h1, h2⟩ := info_parts info9'
  have hsB := SrcB.of hs
  have hb := hsB.1
  have N : Hid (∀ (m : Int) (W : World), 1 ≤ m → m ≤ 100 → SrcB w.heap.size W b → Calls Try.prog 32 #[.pointer (some ⟨b, 0, none⟩), .int .i64 m] W fun e w' => ∃ r : Nat, e = .returned (.int .i64 r) ∧ (r : Int) < m ∧ SrcB w.heap.size w' b ∧ Only b W w') := fun m W h1 h2 h => by
    refine (nB_lt _ b m W h1 (by omega) h).mono ?_
    rintro e w' ⟨r, rfl, r0, r1, s, o⟩
    exact ⟨r.toNat, by rw [Int.toNat_of_nonneg r0], by omega, s, o⟩
  have BY : Hid (∀ (n : Nat) (W : World), n ≤ 1000 → SrcB w.heap.size W b → Calls Try.prog 48 #[.pointer (some ⟨b, 0, none⟩), .int .i64 n] W fun e w' => ∃ s : ByteArray, e = .returned (.string s) ∧ s.size = n ∧ SrcB w.heap.size w' b ∧ Only b W w') := fun n W hn h => bytesB_any _ b n W hn h
  have BW : Hid (∀ (n : Nat) (W : World), n ≤ 100 → SrcB w.heap.size W b → Calls Try.prog 48 #[.pointer (some ⟨b, 0, none⟩), .int .i64 (IntKind.i64.wrap (1 + (n : Int)))] W fun e w' => ∃ s : ByteArray, e = .returned (.string s) ∧ s.size = 1 + n ∧ SrcB w.heap.size w' b ∧ Only b W w') := fun n W hn h => by
    have := bytesB_any _ b (1 + n) W (by omega) h
    rwa [show ((1 + n : Nat) : Int) = IntKind.i64.wrap (1 + (n : Int)) by rw [IntKind.wrap_i64]; omega] at this
  have HS := Lib.hid hsB
  clear hs hsB
  have SA := Lib.hid (HS.out.below (bA0 w (.cells #[.string ⟨#[]⟩, .slice none 0 0] 25)))
  have RA := Lib.hid (DAt.new 25 w ⟨#[]⟩ (.slice none 0 0))
  go_enter Try.func29, Try.ntmps29
  go_wp2_with fail
  refine (N.out 20 _ (by decide) (by decide) SA.out).mono ?_
  rintro e w1 ⟨r1, rfl, hr1, s1, o1⟩
  have S1 := Lib.hid s1
  have O1 : Hid (Only b w w1) := (Only.of_below (bA0 _ _)).trans o1
  have R1 := Lib.hid (RA.out.only o1 (by omega))
  clear s1 o1 SA RA
  go_wp2_with fail
  refine (BY.out r1 _ (by omega) S1.out).mono ?_
  rintro e w2 ⟨s, rfl, hsz, s2, o2⟩
  have hsz20 : s.size ≤ 20 := by omega
  have L2 : Hid (LD b w w2.heap.size s (.slice none 0 0) [] (w2.alloc (.cells #[.string s, .slice none 0 0] 25))) :=
    ⟨s2.below (bA0 _ _), (O1.out.trans o2).trans (Only.of_below (bA0 _ _)), (R1.out.only o2 (by omega)).below (bA0 _ _), DAt.new 25 w2 s _, OwnS.nil _ _, (fun k hk => by cases hk), hb, Nat.lt_of_lt_of_le R1.out.lt o2.size⟩
  clear s2 o2 S1 O1 R1 hsz hr1
  go_wp2_with fail
  refine (N.out 5 _ (by decide) (by decide) L2.out.src).mono ?_
  rintro e w3 ⟨r3, rfl, hr3, s3, o3⟩
  have L3 := Lib.hid (L2.out.call s3 o3)
  clear s3 o3 L2
  generalize w2.heap.size = bd at *
  go_wp2_with fail
  go_loopw [4] (fun k wr => ∃ (kk : Nat) (v : Value) (ss : List ByteArray), k = .int .i64 kk ∧ kk + ss.length ≤ 4 ∧ tot ss ≤ 9 * ss.length ∧ Hid (LD b w bd s v ss wr)) (fun k _ => (intOf k).toNat)
  case atStart => exact ⟨r3, _, [], rfl, by simp; omega, by simp [tot], L3⟩
  case round =>
    obtain ⟨kk, v, ss, rfl, hkk, htt, H⟩ := hrel
    obtain ⟨sl, c, rfl, -⟩ := H.out.own.strs
    obtain ⟨d0, d1, df, dl⟩ := H.out.facts
    by_cases hk : kk = 0
    · subst hk
      have hn4 : ss.length ≤ 4 := by omega
      have ht4 : tot ss ≤ 36 := by omega
      clear hkk htt L3
      go_wp2_with fail
      refine (oneB_any w.heap.size b 20 _ (by decide) H.out.src).mono ?_
      rintro e w4 ⟨t4, rfl, s4, o4⟩
      have L4 := Lib.hid (H.out.call s4 o4)
      clear s4 o4 H d0 d1 df dl
      obtain ⟨d0, d1, df, dl⟩ := L4.out.facts
      cases t4
      · have SM : Small s ss := ⟨by omega, by omega, by omega⟩
        obtain ⟨q0, q1, z0, z1, zf, PF⟩ := L4.out.fin SM
        generalize ss.length = n at *
        go_wp2
        exact bodyPost_ret (v := .agg #[.string s, .slice sl n c]) (by simp [results, Try.results29, go_sem, q0, q1]) rfl PF.out
      · go_wp2_with fail
        refine (N.out 3 _ (by decide) (by decide) L4.out.src).mono ?_
        rintro e w5 ⟨r5, rfl, hr5, s5, o5⟩
        have L5 := Lib.hid (L4.out.call s5 o5)
        clear s5 o5 L4 d0 d1 df dl
        obtain ⟨d0, d1, df, dl⟩ := L5.out.facts
        rcases (show r5 = 0 ∨ r5 = 1 ∨ r5 = 2 by omega) with rfl | rfl | rfl
        · generalize hN : ss.length = n at *
          have HN := Lib.hid hN
          clear hN
          have OA : Hid ((w5.alloc (.cells #[.string ⟨#[]⟩] 9)).ownsRow (w.heap.size + 1) 9 1 (.slice sl n c) n (ss.map Value.string)) := by
            have := (L5.out.alloc (.cells #[.string ⟨#[]⟩] 9)).own
            unfold OwnS at this; rwa [HN.out] at this
          have hw5 := L5.out.only.size
          have hbd := L5.out.hbd
          go_wp2_with (first | (at_builtin; refine wpList_append_lies _ rfl (.tmp 49) (.tmp 50) 23 rfl (w.heap.size + 1) 9 i9 (.string ⟨#[]⟩) 1 16 Try.underlying23 hi h0 h1 h2 rfl (by decide) _ _ _ rfl OA.out ⟨w5.heap.size, 0, none⟩ 1 1 [.string ⟨#[]⟩] rfl rfl (cell_one_new _ _ _) (by intro u hu; simp at hu; subst hu; rfl) (by decide) (by unfold maxLen; omega) (by omega) (by simp; omega) (w5.heap.size + 1) (by simp) ?_))
          intro g7 c7 w7 own7 grow7 hg7 hlt7
          have L7 := Lib.hid ((L5.out.alloc (.cells #[.string ⟨#[]⟩] 9)).store grow7 (OwnS.one (by rw [HN.out]; exact own7)) (fun k hk => by cases hk; rcases hg7 with e | e; exact .inl e; exact .inr (by simp; omega)))
          have D7 := Lib.hid ((L5.out.alloc (.cells #[.string ⟨#[]⟩] 9)).d.grown grow7 (fun e => L5.out.ne bd e rfl))
          clear own7 grow7 hg7 hlt7 d0 d1 df dl OA
          obtain ⟨j0, j1⟩ := D7.out.cells
          have jf := D7.out.frozen
          have jl := D7.out.lt
          obtain ⟨d0, d1, df, dl⟩ := L7.out.facts
          have SM : Small s (ss ++ [⟨#[]⟩]) := by
            have e := HN.out
            refine ⟨by omega, by simp; omega, ?_⟩
            rw [tot_app, tot_one]; show tot ss + 0 ≤ _; omega
          obtain ⟨q0, q1, z0, z1, zf, PF⟩ := L7.out.fin SM
          go_wp2
          exact bodyPost_ret (v := .agg #[.string s, .slice (some ⟨g7, 0, none⟩) (n + 1) c7]) (by simp [results, Try.results29, go_sem, q0, q1]) rfl PF.out
        · go_wp2_with fail
          go_loopg [] (110 - ss.length) (fun g wr => ∃ (v : Value) (zs : List ByteArray), g + zs.length = 110 ∧ zs.length ≤ 101 ∧ tot zs ≤ 36 + zs.length ∧ LD b w bd s v zs wr)
          case atStart => exact ⟨_, ss, by omega, by omega, by omega, L5.out⟩
          case round =>
            obtain ⟨v6, zs, hg6, hz6, ht6, L6'⟩ := hrel
            have L6 := Lib.hid L6'
            clear L6' L5 d0 d1 df dl
            obtain ⟨sl6, c6, rfl, -⟩ := L6.out.own.strs
            obtain ⟨d0, d1, df, dl⟩ := L6.out.facts
            generalize hN : zs.length = n at *
            have HN := Lib.hid hN
            clear hN
            go_wp2_with fail
            go_region_held3 (fun w' => bd < w'.heap.size ∧ w'.cell? ⟨bd, 1, none⟩ = some (.slice sl6 n c6)) (first | exact ⟨dl, d1⟩ | exact ⟨el, e1⟩) (first | (go_at_call 32; refine (N.out 3 _ (by decide) (by decide) (by first | exact L6.out.src | exact L6.out.drew.src)).mono ?_; rintro e w7 ⟨r7, rfl, hr7, s7, o7⟩; have L7 := Lib.hid (L6.out.drew.call s7 o7); obtain ⟨e0, e1, ef, el⟩ := L7.out.facts; have hw7 : IntKind.i64.wrap (99 + (r7 : Int)) = 99 + (r7 : Int) := by rw [IntKind.wrap_i64]; omega))
            clear s7 o7
            by_cases hlt : (n : Int) < 99 + (r7 : Int)
            · have OA : Hid ((w7.alloc (.cells #[.string ⟨#[120]⟩] 9)).ownsRow (w.heap.size + 1) 9 1 (.slice sl6 n c6) n (zs.map Value.string)) := by
                have := (L7.out.alloc (.cells #[.string ⟨#[120]⟩] 9)).own
                unfold OwnS at this; rwa [HN.out] at this
              have hw7s := L7.out.only.size
              have hbd := L7.out.hbd
              go_wp2_with (first | (at_builtin; refine wpList_append_lies _ rfl (.tmp 63) (.tmp 64) 23 rfl (w.heap.size + 1) 9 i9 (.string ⟨#[]⟩) 1 16 Try.underlying23 hi h0 h1 h2 rfl (by decide) _ _ _ rfl OA.out ⟨w7.heap.size, 0, none⟩ 1 1 [.string ⟨#[120]⟩] rfl rfl (cell_one_new _ _ _) (by intro u hu; simp at hu; subst hu; rfl) (by decide) (by unfold maxLen; omega) (by omega) (by simp; omega) (w7.heap.size + 1) (by simp) ?_))
              intro g8 c8 w8 own8 grow8 hg8 hlt8
              have L8 := Lib.hid ((L7.out.alloc (.cells #[.string ⟨#[120]⟩] 9)).store grow8 (OwnS.one (by rw [HN.out]; exact own8)) (fun k hk => by cases hk; rcases hg8 with e | e; exact .inl e; exact .inr (by simp; omega)))
              have D8 := Lib.hid ((L7.out.alloc (.cells #[.string ⟨#[120]⟩] 9)).d.grown grow8 (fun e => L7.out.ne bd e rfl))
              clear own8 grow8 hg8 hlt8 d0 d1 df dl OA e0 e1 ef el
              obtain ⟨j0, j1⟩ := D8.out.cells
              have jf := D8.out.frozen
              have jl := D8.out.lt
              have TT : Hid (tot (zs ++ [⟨#[120]⟩]) ≤ 36 + (n + 1)) := by
                show _ ≤ _
                rw [tot_app, tot_one]; show tot zs + 1 ≤ _; omega
              have LL : Hid ((zs ++ [(⟨#[120]⟩ : ByteArray)]).length = n + 1) := by show _ = _; simp; exact HN.out
              go_wp2
              go_roundg (gk - 1)
              case measure => omega
              case rel => exact ⟨_, zs ++ [⟨#[120]⟩], by rw [LL.out]; omega, by rw [LL.out]; omega, by rw [LL.out]; exact TT.out, L8.out⟩
            · have SM : Small s zs := by
                have e := HN.out
                exact ⟨by omega, by omega, by omega⟩
              obtain ⟨q0, q1, z0, z1, zf, PF⟩ := L7.out.fin SM
              go_wp2
              exact bodyPost_ret (v := .agg #[.string s, .slice sl6 n c6]) (by simp [results, Try.results29, go_sem, q0, q1]) rfl PF.out
        · have L6 := Lib.hid (L5.out.alloc (.cells #[] 5))
          have SV : Hid (∀ k, w5.heap.size ≤ k → bd < k ∧ Value.ownBlock (.slice sl ss.length c) ≠ some k) := fun k hk => ⟨by omega, fun e => by have := (L5.out.own.lt e).2; omega⟩
          have hw5 := L5.out.only.size
          have hbw5 : b < w5.heap.size := by omega
          obtain ⟨i5, hi5, g0, g1, g2⟩ := info_parts info5'
          clear L5 d0 d1 df dl
          generalize hbase : w5.heap.size = base at *
          have HBS := Lib.hid hbase
          clear hbase
          go_wp2_with fail
          rw [HBS.out]
          go_loopg [5] 20100 (fun g x wr => ∃ l : List UInt8, g + l.length = 20100 ∧ l.length ≤ 20003 ∧ wr.ownsRow base 5 1 x l.length (Lib.byteCells l) ∧ base ≤ wr.heap.size ∧ LD b w bd s (.slice sl ss.length c) ss wr)
          case atStart =>
            refine ⟨[], by simp, by simp, ?_, ?_, L6.out⟩
            · have := World.ownsRow_lit w5 #[] 0 (base := base) (e := 5) (size := 1) (by rw [HBS.out]; exact Nat.le_refl _) (Nat.zero_le _) rfl
              rw [HBS.out] at this
              simpa [Lib.byteCells] using this
            · simp; have := HBS.out; omega
          case round =>
            obtain ⟨l, hg6, hz6, hown, hbr, L7'⟩ := hrel
            have L7 := Lib.hid L7'
            clear L7' L6
            have HL : ∃ m, l.length = m := ⟨_, rfl⟩
            obtain ⟨m, hm⟩ := HL
            rw [hm] at hown hg6 hz6
            have HM := Lib.hid hm
            clear hm
            obtain ⟨slb, cb, hvb⟩ : ∃ slb cb, u5 = .slice slb m cb := by
              rcases hown.2 with ⟨rfl, rfl⟩ | ⟨g, cap, cur, rfl, _⟩
              · exact ⟨_, _, rfl⟩
              · exact ⟨_, _, rfl⟩
            subst hvb
            go_wp2_with fail
            refine (N.out 14 _ (by decide) (by decide) L7.out.src).mono ?_
            rintro e w7 ⟨r7, rfl, hr7, s7, o7⟩
            have L8 := Lib.hid (L7.out.call s7 o7)
            have own8 := own_only hown o7 (by omega)
            have hb8 : base ≤ w7.heap.size := Nat.le_trans hbr o7.size
            clear s7 o7 L7 hown
            obtain ⟨d0, d1, df, dl⟩ := L8.out.facts
            by_cases hlt : (m : Int) < 19990 + (r7 : Int)
            · have EC : Hid (Lib.byteCells l ++ [Value.int .u8 120] = Lib.byteCells (l ++ [120])) := by show _ = _; simp [Lib.byteCells]
              have EL : Hid ((l ++ [(120 : UInt8)]).length = m + 1) := by show _ = _; simp; exact HM.out
              clear d0 d1 df
              go_wp2_with (first | (at_builtin; refine wpList_append_lies _ rfl (.tmp 38) (.tmp 39) 22 rfl base 5 i5 (.int .u8 0) 1 1 Try.underlying22 hi5 g0 g1 g2 rfl (by decide) _ _ _ rfl (own8.alloc _) ⟨w7.heap.size, 0, none⟩ 1 1 [.int .u8 120] rfl rfl (cell_one_new _ _ _) (by intro u hu; simp at hu; subst hu; rfl) (by decide) (by unfold maxLen; omega) (by omega) (by simp; omega) (w7.heap.size + 1) (by simp) ?_))
              intro g9 c9 w9 own9 grow9 hg9 hlt9
              rw [EC.out] at own9
              have L9 := Lib.hid ((L8.out.alloc (.cells #[.int .u8 120] 5)).grown grow9 (fun k hk => SV.out k ((own8.alloc (.cells #[.int .u8 120] 5)).lt k hk).1))
              have O9 := Lib.hid own9
              have hb9 : base ≤ w9.heap.size := by have := grow9.size; simp at this; omega
              clear own9 grow9 hg9 hlt9 own8
              go_wp2
              go_roundg (gk - 1)
              case measure => omega
              case rel => exact ⟨l ++ [120], by rw [EL.out]; omega, by rw [EL.out]; omega, by rw [EL.out]; exact O9.out, hb9, L9.out⟩
            · have hcv : Sem.run Try.prog (convert 22 9 (.slice slb m cb)) w7 = .ok (.string ⟨l.toArray⟩) w7 := own_text (by rw [HM.out]; exact own8)
              have HSZ : Hid ((⟨l.toArray⟩ : ByteArray).size = m) := by show _ = _; simp [ByteArray.size]; exact HM.out
              have LB := L8.out.both (⟨l.toArray⟩ : ByteArray) ⟨#[121, 121, 121, 121, 121, 121]⟩
              generalize (⟨l.toArray⟩ : ByteArray) = SS at *
              have SM : Small SS [⟨#[121, 121, 121, 121, 121, 121]⟩] := by
                have e := HSZ.out
                refine ⟨by omega, by simp, by rw [tot_one]; decide⟩
              have LBH := Lib.hid LB
              obtain ⟨q0, q1, z0, z1, zf, PF⟩ := LB.fin SM
              obtain ⟨y0, y1, yf, yl⟩ := LB.facts
              clear LB own8
              go_wp2
              exact bodyPost_ret (v := .agg #[.string SS, .slice (some ⟨w7.heap.size, 0, none⟩) 1 1]) (by simp [results, Try.results29, go_sem, q0, q1]) rfl PF.out
    · have hk' : (0 : Int) < (kk : Int) := by omega
      have TT : Hid (∀ t6 : ByteArray, t6.size ≤ 9 → (kk - 1) + (ss ++ [t6]).length ≤ 4 ∧ tot (ss ++ [t6]) ≤ 9 * (ss ++ [t6]).length) := fun t6 h => by
        rw [tot_app, tot_one]; simp; omega
      have hq : Hid ((kk : Int) - 1 = ((kk - 1 : Nat) : Int)) := by show _ = _; omega
      generalize hN : ss.length = n at *
      have HN := Lib.hid hN
      clear hN
      have hn4 : n ≤ 4 := by omega
      go_wp2_with fail
      go_region_law (first
        | (go_simp; go_at_call 32; refine (N.out 9 _ (by decide) (by decide) H.out.drew.src).mono ?_; rintro e w5 ⟨r5, rfl, hr5, s5, o5⟩; have L5 := Lib.hid (H.out.drew.call s5 o5); obtain ⟨e0, e1, ef, el⟩ := L5.out.facts; clear s5 o5)
        | (go_simp; go_at_call 48; refine (BW.out r5 _ (by omega) L5.out.src).mono ?_; rintro e w6 ⟨t6, rfl, ht6, s6, o6⟩; have L6 := Lib.hid (L5.out.call s6 o6); obtain ⟨f0, f1, ff, fl⟩ := L6.out.facts; clear s6 o6)
        | (refine step_append_lies _ rfl (.tmp 18) (.tmp 24) 23 rfl (w.heap.size + 1) 9 i9 (.string ⟨#[]⟩) 1 16 Try.underlying23 hi h0 h1 h2 rfl (by decide) (.slice sl n c) n (ss.map Value.string) (by simp [Act.eval]) (by have := (L6.out.alloc (.cells #[.string t6] 9)).own; unfold OwnS at this; rw [HN.out] at this; exact this) ⟨w6.heap.size, 0, none⟩ 1 1 [.string t6] (by simp [Act.eval]) rfl (cell_one_new _ _ _) (by intro u hu; simp at hu; subst hu; rfl) (by decide) (by unfold maxLen; omega) (by omega) (by simp; have := L6.out.only.size; have := L6.out.hbd; omega) (w6.heap.size + 1) (by simp) ?_; intro g7 c7 w7 own7 grow7 hg7 hlt7; have L7 := Lib.hid ((L6.out.alloc (.cells #[.string t6] 9)).store grow7 (OwnS.one (by rw [HN.out]; exact own7)) (fun k hk => by cases hk; rcases hg7 with e | e; exact .inl e; exact .inr (by simp; omega))); have D7 := Lib.hid ((L6.out.alloc (.cells #[.string t6] 9)).d.grown grow7 (fun e => L6.out.ne bd e rfl)); obtain ⟨j0, j1⟩ := D7.out.cells; have jf := D7.out.frozen; have jl := D7.out.lt; clear own7 grow7 hg7 hlt7))
      all_goals
        obtain ⟨T1, T2⟩ := TT.out t6 (by omega)
        clear d0 d1 df dl e0 e1 ef el f0 f1 ff fl j0 j1 jf jl D7
        go_wp2
        go_roundw
        case rel => exact ⟨kk - 1, _, ss ++ [t6], by rw [hq.out], T1, T2, L7⟩
        case measure => simp [intOf]; omega

end Go.Proofs.Ytaongccmipjgeaa
